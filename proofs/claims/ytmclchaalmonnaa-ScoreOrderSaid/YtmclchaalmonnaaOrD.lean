/- A row of calls, and one of numbers, that grow side by side. -/
import Derived.Test.YtmclchaalmonnaaBuA
import Derived.Test.YtmclchaalmonnaaOrC
namespace Go.Proofs.Ytmclchaalmonnaa
open Go.RowKit Go.Lib
theorem own_ne {w : World} {b1 b2 s1 s2 n m : Nat} {t t' : TypeId} {v u : Value} {xs ys : List Value} (hne : t ≠ t') (h1 : w.ownsRow b1 t s1 v n xs) (h2 : w.ownsRow b2 t' s2 u m ys) : ∀ b, v.ownBlock = some b → u.ownBlock ≠ some b := by
  intro b hb hb'
  obtain ⟨-, ⟨rfl, -⟩ | ⟨g, cap, cur, rfl, -, hg, -⟩⟩ := h1
  · cases hb
  obtain ⟨-, ⟨rfl, -⟩ | ⟨g', cap', cur', rfl, -, hg', -⟩⟩ := h2
  · cases hb'
  cases hb
  cases hb'
  rw [hg] at hg'
  cases hg'
  exact hne rfl
theorem own_other {w w' : World} {base size n : Nat} {e : TypeId} {v : Value} {xs : List Value} {o : Option Nat} (h : w.ownsRow base e size v n xs) (hg : w.grownBy w' o) (ho : ∀ b, o = some b → v.ownBlock ≠ some b) : w'.ownsRow base e size v n xs := by
  obtain ⟨h0, (h1 | ⟨g, cap, cur, rfl, hb, hgc, h2⟩)⟩ := h
  · exact ⟨h0, .inl h1⟩
  · have hg1 : Has w g e cur := hgc
    have hg2 : Has w' g e cur := by
      have := hg.block g hg1.lt (fun e => ho g e.symm rfl)
      unfold Has at hg1 ⊢
      rw [this]; exact hg1
    exact ⟨h0, .inr ⟨g, cap, cur, rfl, hb, hg2, h2⟩⟩
theorem IRA.grown2 {w w' : World} {base : Nat} {o o2 : Option Nat} {A : Option Addr} {l : List Int} (h1 : IRA w base o A l) (h2 : IRA w base o2 A l) (hg : w.grownBy w' o) : IRA w' base o2 A l := fun k hk => by
  obtain ⟨b, f, e, p1, p2, p3, p4⟩ := h2 k hk
  obtain ⟨b', f', e', -, -, q3, -⟩ := h1 k hk
  rw [e] at e'
  cases e'
  exact ⟨b, f, e, Nat.lt_of_lt_of_le p1 hg.size, p2, p3, (World.cell?_of_block (a := ⟨b, _, none⟩) (hg.block b p1 (fun e => q3 e.symm))).trans p4⟩
structure L1W (w0 : World) (D : Nat) (w : World) (v y z : Value) (es : List En) (wv : Value) (ws : List Int) : Prop where
  l : L1 w0 D w v y z es
  own : w.ownsRow (D + 1) 3 1 wv ws.length (ivl ws)
  ap : ∀ e ∈ es, IRA w (D + 1) wv.ownBlock e.M e.c.marks
section
variable {w0 w w' w5 : World} {D g cap H : Nat} {v y z wv : Value} {es : List En} {ws : List Int} {e : En}
theorem L1W.step (h : L1W w0 D w v y z es wv ws) (hb : Below w.heap.size w w') : L1W w0 D w' v y z es wv ws := ⟨h.l.step hb, own_step h.own hb, fun e he => (h.ap e he).step hb⟩
theorem L1W.appC (h : L1W w0 D w v y z es wv ws) (he : IRA w (D + 1) v.ownBlock e.M e.c.marks) (he2 : IRA w (D + 1) wv.ownBlock e.M e.c.marks) (hl : e.c.marks.length ≤ big) (hH : w.heap.size = H)
    (hown : w5.ownsRow (D + 1) 52 6 (.slice (some ⟨g, 0, none⟩) (es.length + 1) cap) (es.length + 1) (fl6 es ++ fl6 [e])) (hgr : w.grownBy w5 v.ownBlock) (hg : v.ownBlock = some g ∨ g = H) :
    L1W w0 D (w5.setCell ⟨D, 0, none⟩ (.slice (some ⟨g, 0, none⟩) (es.length + 1) cap)) (.slice (some ⟨g, 0, none⟩) (es.length + 1) cap) y z (es ++ [e]) wv ws := by
  refine ⟨h.l.app he hl hH hown hgr hg, own_far (own_other h.own hgr (own_ne (by decide) h.l.o.own h.own)) (by simp) _, fun x hx => ?_⟩
  rcases List.mem_append.1 hx with hx | hx
  · exact (IRA.grown2 (h.l.o.nest x hx).1 (h.ap x hx) hgr).set (by simp) _
  · rw [List.mem_singleton.1 hx]; exact (IRA.grown2 he he2 hgr).set (by simp) _
theorem L1W.appW {x : Int} (h : L1W w0 D w v y z es wv ws) (hH : w.heap.size = H)
    (hown : w5.ownsRow (D + 1) 3 1 (.slice (some ⟨g, 0, none⟩) (ws.length + 1) cap) (ws.length + 1) (ivl ws ++ ivl [x])) (hgr : w.grownBy w5 wv.ownBlock) (hg : wv.ownBlock = some g ∨ g = H) :
    L1W w0 D w5 v y z es (.slice (some ⟨g, 0, none⟩) (ws.length + 1) cap) (ws ++ [x]) := by
  have hd := h.l.d.lt
  have hb : Below (D + 1) w w5 := grown_step hgr hd (fun b hb => (own_block h.own b hb).1)
  refine ⟨⟨h.l.b.trans (hb.mono (by omega)), h.l.d.below hb (by omega), own_other h.l.o.own hgr (own_ne (by decide) h.own h.l.o.own), fun e he => ⟨IRA.grown2 (h.ap e he) (h.l.o.nest e he).1 hgr, (h.l.o.nest e he).2⟩⟩, ?_, fun e he => (h.ap e he).grown hgr (moved_of hH hg)⟩
  rw [List.length_append, show ivl (ws ++ [x]) = ivl ws ++ ivl [x] by simp [ivl]]
  exact hown
end
theorem own_irb {w : World} {base : Nat} {v : Value} {l : List Int} (h : w.ownsRow base 3 1 v l.length (ivl l)) : ∃ A cap, v = .slice A l.length cap ∧ IRB w base w.heap.size A l := by
  obtain ⟨A, cap, rfl, h1⟩ := own_ira h
  refine ⟨A, cap, rfl, fun k hk => ?_⟩
  obtain ⟨b, f, e, q1, q2, -, q4⟩ := h1 none (fun b hb => by cases hb) k hk
  exact ⟨b, f, e, q2, q1, q4⟩
/-- the values, once the first loop is done -/
structure L2W (w0 : World) (D D1 : Nat) (w : World) (v y z : Value) (A : Option Addr) (calls : List Cl) (ps : List Pe) (AW : Option Addr) (ws : List Int) : Prop where
  l : L2 w0 D D1 w v y z A calls ps
  w : IRB w (D + 1) D1 AW ws
theorem L1W.next {w0 w : World} {D : Nat} {v z wv : Value} {es : List En} {ws : List Int} (h : L1W w0 D w v (.slice none 0 0) z es wv ws) : ∃ A cap AW cW, v = .slice A es.length cap ∧ wv = .slice AW ws.length cW ∧ L2W w0 D w.heap.size w v (.slice none 0 0) z A (es.map (·.c)) [] AW ws := by
  obtain ⟨A, cap, rfl, h1⟩ := h.l.next
  obtain ⟨AW, cW, rfl, h2⟩ := own_irb h.own
  exact ⟨A, cap, AW, cW, rfl, rfl, h1, h2⟩
section
variable {w0 w w' w5 : World} {D D1 g cap H : Nat} {v y z : Value} {A AW : Option Addr} {calls : List Cl} {ps : List Pe} {e : Pe} {ws : List Int}
theorem L2W.step (h : L2W w0 D D1 w v y z A calls ps AW ws) (hb : Below w.heap.size w w') : L2W w0 D D1 w' v y z A calls ps AW ws := ⟨h.l.step hb, h.w.below (hb.mono h.l.h1)⟩
theorem L2W.drew (h : L2W w0 D D1 w v y z A calls ps AW ws) : L2W w0 D D1 w.drew v y z A calls ps AW ws := h.step ((Below.refl _ _).drew)
theorem L2W.app (h : L2W w0 D D1 w v y z A calls ps AW ws) (he : IRA w D1 y.ownBlock e.M e.m) (hl : e.m.length ≤ big) (hH : w.heap.size = H)
    (hown : w5.ownsRow D1 22 1 (.slice (some ⟨g, 0, none⟩) (ps.length + 1) cap) (ps.length + 1) (fl1 ps ++ fl1 [e])) (hgr : w.grownBy w5 y.ownBlock) (hg : y.ownBlock = some g ∨ g = H) :
    L2W w0 D D1 (w5.setCell ⟨D, 1, none⟩ (.slice (some ⟨g, 0, none⟩) (ps.length + 1) cap)) v (.slice (some ⟨g, 0, none⟩) (ps.length + 1) cap) z A calls (ps ++ [e]) AW ws :=
  ⟨h.l.app he hl hH hown hgr hg, (h.w.below (h.l.app_b hgr)).set (by simp) _⟩
end
/-- what turned gives, as a row that was made -/
def WiP (r : List Int) (W : World) (e : Ending) (W' : World) : Prop := ∃ A c, e = .returned (.slice A r.length c) ∧ IRB W' W.heap.size W'.heap.size A r ∧ Below W.heap.size W W'
theorem IRB.ira2 {w : World} {lo hi base : Nat} {o : Option Nat} {A : Option Addr} {l : List Int} (h : IRB w lo hi A l) (hb : base ≤ lo) (hh : hi ≤ w.heap.size) (ho : ∀ b, o = some b → b < lo) : IRA w base o A l := fun k hk => by
  obtain ⟨b, f, e, h1, h2, h3⟩ := h k hk
  exact ⟨b, f, e, by omega, by omega, fun e => by have := ho b e; omega, h3⟩
theorem tu_wi {r : List Int} {W W' : World} {e : Ending} (h : TuPost r W e W') : WiP r W e W' := by
  obtain ⟨A, c, rfl, h1, h2⟩ := h
  obtain ⟨A', c', e', h3⟩ := own_irb h1
  cases e'
  exact ⟨A, c, rfl, h3, h2⟩
end Go.Proofs.Ytmclchaalmonnaa
