/- Rows of calls and of parts that grow by append, the marks of each element in a block of its own. -/
import Derived.Test.YtmclchaalmonnaaMoB
import Derived.Test.YtmclchaalmonnaaTuA
namespace Go.Proofs.Ytmclchaalmonnaa
open Go.RowKit Go.Lib
theorem fl6_app (E F : List En) : fl6 (E ++ F) = fl6 E ++ fl6 F := by simp [fl6]
theorem fl1_app (E F : List Pe) : fl1 (E ++ F) = fl1 E ++ fl1 F := by simp [fl1]
/-- calls in an own row -/
structure OutC (w : World) (base : Nat) (v : Value) (es : List En) : Prop where
  own : w.ownsRow base 52 6 v es.length (fl6 es)
  nest : ∀ e ∈ es, IRA w base v.ownBlock e.M e.c.marks ∧ e.c.marks.length ≤ big
theorem OutC.nil (w : World) (base : Nat) : OutC w base (.slice none 0 0) [] := ⟨own_nil _ _ _ _, fun e he => absurd he (by simp)⟩
theorem OutC.step {w w' : World} {base : Nat} {v : Value} {es : List En} (h : OutC w base v es) (hb : Below w.heap.size w w') : OutC w' base v es := ⟨own_step h.own hb, fun e he => ⟨(h.nest e he).1.step hb, (h.nest e he).2⟩⟩
theorem OutC.set {w : World} {base : Nat} {v : Value} {es : List En} (h : OutC w base v es) {p : Addr} (hp : p.block < base) (u : Value) : OutC (w.setCell p u) base v es := ⟨own_far h.own hp u, fun e he => ⟨(h.nest e he).1.set hp u, (h.nest e he).2⟩⟩
theorem OutC.append {w w' : World} {base g cap H : Nat} {v : Value} {es : List En} {e : En} (h : OutC w base v es) (he : IRA w base v.ownBlock e.M e.c.marks) (hl : e.c.marks.length ≤ big) (hH : w.heap.size = H)
    (hown : w'.ownsRow base 52 6 (.slice (some ⟨g, 0, none⟩) (es.length + 1) cap) (es.length + 1) (fl6 es ++ fl6 [e])) (hgr : w.grownBy w' v.ownBlock) (hg : v.ownBlock = some g ∨ g = H) : OutC w' base (.slice (some ⟨g, 0, none⟩) (es.length + 1) cap) (es ++ [e]) := by
  refine ⟨by rw [fl6_app, List.length_append]; exact hown, fun x hx => ?_⟩
  rcases List.mem_append.1 hx with hx | hx
  · exact ⟨(h.nest x hx).1.grown hgr (moved_of hH hg), (h.nest x hx).2⟩
  · rw [List.mem_singleton.1 hx]; exact ⟨he.grown hgr (moved_of hH hg), hl⟩
/-- parts in an own row -/
structure OutP (w : World) (base : Nat) (v : Value) (es : List Pe) : Prop where
  own : w.ownsRow base 22 1 v es.length (fl1 es)
  nest : ∀ e ∈ es, IRA w base v.ownBlock e.M e.m ∧ e.m.length ≤ big
theorem OutP.nil (w : World) (base : Nat) : OutP w base (.slice none 0 0) [] := ⟨own_nil _ _ _ _, fun e he => absurd he (by simp)⟩
theorem OutP.step {w w' : World} {base : Nat} {v : Value} {es : List Pe} (h : OutP w base v es) (hb : Below w.heap.size w w') : OutP w' base v es := ⟨own_step h.own hb, fun e he => ⟨(h.nest e he).1.step hb, (h.nest e he).2⟩⟩
theorem OutP.set {w : World} {base : Nat} {v : Value} {es : List Pe} (h : OutP w base v es) {p : Addr} (hp : p.block < base) (u : Value) : OutP (w.setCell p u) base v es := ⟨own_far h.own hp u, fun e he => ⟨(h.nest e he).1.set hp u, (h.nest e he).2⟩⟩
theorem OutP.append {w w' : World} {base g cap H : Nat} {v : Value} {es : List Pe} {e : Pe} (h : OutP w base v es) (he : IRA w base v.ownBlock e.M e.m) (hl : e.m.length ≤ big) (hH : w.heap.size = H)
    (hown : w'.ownsRow base 22 1 (.slice (some ⟨g, 0, none⟩) (es.length + 1) cap) (es.length + 1) (fl1 es ++ fl1 [e])) (hgr : w.grownBy w' v.ownBlock) (hg : v.ownBlock = some g ∨ g = H) : OutP w' base (.slice (some ⟨g, 0, none⟩) (es.length + 1) cap) (es ++ [e]) := by
  refine ⟨by rw [fl1_app, List.length_append]; exact hown, fun x hx => ?_⟩
  rcases List.mem_append.1 hx with hx | hx
  · exact ⟨(h.nest x hx).1.grown hgr (moved_of hH hg), (h.nest x hx).2⟩
  · rw [List.mem_singleton.1 hx]; exact ⟨he.grown hgr (moved_of hH hg), hl⟩
theorem OutP.prow {w : World} {base : Nat} {v : Value} {es : List Pe} (h : OutP w base v es) : ∃ A cap, v = .slice A es.length cap ∧ PRow w w.heap.size A (es.map (·.m)) := by
  obtain ⟨hl, ⟨rfl, h0⟩ | ⟨g, cap, cur, rfl, hB, hgc, h1, h2, h3, h4⟩⟩ := h.own
  · refine ⟨none, 0, by rw [h0], fun k hk => ?_⟩
    have : k < es.length := by simpa using hk
    omega
  · have hh : Has w g 22 cur := hgc
    refine ⟨some ⟨g, 0, none⟩, cap, rfl, fun k hk => ?_⟩
    have hk' : k < es.length := by simpa using hk
    have hn := h.nest _ (List.getElem_mem hk')
    refine ⟨g, 0, es[k].M, es[k].k, rfl, hh.lt, ?_, ?_, ?_⟩
    · rw [Nat.zero_add, hh.cell]
      have h5 : (cur.toList.take (es.length * 1))[k]? = (fl1 es)[k]? := by rw [h4]
      rw [List.getElem?_take_of_lt (by omega)] at h5
      have h6 := flat_get enc1 1 (fun _ => rfl) es k hk' 0 (by omega)
      rw [Nat.mul_one, Nat.add_zero] at h6
      have h7 : (fl1 es)[k]? = (enc1 es[k])[0]? := h6
      rw [h7] at h5
      simpa [enc1] using h5
    · simpa using hn.1.row
    · simpa using hn.2
/-- a row of numbers between two bounds -/
def IRB (w : World) (lo hi : Nat) (A : Option Addr) (l : List Int) : Prop := ∀ k (h : k < l.length), ∃ b f, A = some ⟨b, f, none⟩ ∧ lo ≤ b ∧ b < hi ∧ w.cell? ⟨b, f + k, none⟩ = some (.int .i64 l[k])
/-- a row of calls between two bounds -/
def CRB (w : World) (lo hi : Nat) (A : Option Addr) (l : List Cl) : Prop :=
  ∀ k (h : k < l.length), ∃ g o M c, A = some ⟨g, o, none⟩ ∧ lo ≤ g ∧ g < hi ∧ (∀ j, j < 6 → w.cell? ⟨g, o + k * 6 + j, none⟩ = (clc l[k] M c)[j]?) ∧ IRB w lo hi M l[k].marks ∧ l[k].marks.length ≤ big
section
variable {w w' : World} {lo hi : Nat} {A : Option Addr}
theorem IRB.below {l : List Int} (h : IRB w lo hi A l) (hb : Below hi w w') : IRB w' lo hi A l := fun k hk => by
  obtain ⟨b, f, e, h1, h2, h3⟩ := h k hk
  exact ⟨b, f, e, h1, h2, (hb.cell (p := ⟨b, _, none⟩) h2).trans h3⟩
theorem IRB.set {l : List Int} (h : IRB w lo hi A l) {p : Addr} (hp : p.block < lo) (v : Value) : IRB (w.setCell p v) lo hi A l := fun k hk => by
  obtain ⟨b, f, e, h1, h2, h3⟩ := h k hk
  exact ⟨b, f, e, h1, h2, (cell_far (by omega)).trans h3⟩
theorem CRB.below {l : List Cl} (h : CRB w lo hi A l) (hb : Below hi w w') : CRB w' lo hi A l := fun k hk => by
  obtain ⟨g, o, M, c, e, h1, h2, h3, h4, h5⟩ := h k hk
  exact ⟨g, o, M, c, e, h1, h2, fun j hj => (hb.cell (p := ⟨g, _, none⟩) h2).trans (h3 j hj), h4.below hb, h5⟩
theorem CRB.set {l : List Cl} (h : CRB w lo hi A l) {p : Addr} (hp : p.block < lo) (v : Value) : CRB (w.setCell p v) lo hi A l := fun k hk => by
  obtain ⟨g, o, M, c, e, h1, h2, h3, h4, h5⟩ := h k hk
  exact ⟨g, o, M, c, e, h1, h2, fun j hj => (cell_far (by omega)).trans (h3 j hj), h4.set hp v, h5⟩
theorem CRB.crow {l : List Cl} (h : CRB w lo hi A l) : CRow w hi A l := fun k hk => by
  obtain ⟨g, o, M, c, e, h1, h2, h3, h4, h5⟩ := h k hk
  exact ⟨g, o, M, c, e, h2, h3, fun i hi => by obtain ⟨b, f, e, _, q2, q3⟩ := h4 i hi; exact ⟨b, f, e, q2, q3⟩, h5⟩
end
theorem OutC.crb {w : World} {base : Nat} {v : Value} {es : List En} (h : OutC w base v es) : ∃ A cap, v = .slice A es.length cap ∧ CRB w base w.heap.size A (es.map (·.c)) := by
  obtain ⟨hl, ⟨rfl, h0⟩ | ⟨g, cap, cur, rfl, hB, hgc, h1, h2, h3, h4⟩⟩ := h.own
  · refine ⟨none, 0, by rw [h0], fun k hk => ?_⟩
    have : k < es.length := by simpa using hk
    omega
  · have hh : Has w g 52 cur := hgc
    refine ⟨some ⟨g, 0, none⟩, cap, rfl, fun k hk => ?_⟩
    have hk' : k < es.length := by simpa using hk
    have hn := h.nest _ (List.getElem_mem hk')
    refine ⟨g, 0, es[k].M, es[k].m, rfl, hB, hh.lt, fun j hj => ?_, fun i hi => ?_, by simpa using hn.2⟩
    · rw [Nat.zero_add, hh.cell]
      have h5 : (cur.toList.take (es.length * 6))[k * 6 + j]? = (fl6 es)[k * 6 + j]? := by rw [h4]
      rw [List.getElem?_take_of_lt (by omega)] at h5
      have h6 : (fl6 es)[k * 6 + j]? = (enc6 es[k])[j]? := flat_get enc6 6 enc6_len es k hk' j hj
      rw [h6] at h5
      have h7 : cur[k * 6 + j]? = (enc6 es[k])[j]? := by rw [← h5]; simp
      rw [h7]
      simp [enc6]
    · have hi' : i < es[k].c.marks.length := by simpa using hi
      obtain ⟨b, f, e, q1, q2, q3, q4⟩ := hn.1 i hi'
      exact ⟨b, f, e, q2, q1, by simpa using q4⟩
/-- the calls are being laid: all that lay ahead of D is as it was, the skating lies at D -/
structure L1 (w0 : World) (D : Nat) (w : World) (v y z : Value) (es : List En) : Prop where
  b : Below D w0 w
  d : Has w D 28 #[v, y, z]
  o : OutC w (D + 1) v es
theorem L1.step {w0 w w' : World} {D : Nat} {v y z : Value} {es : List En} (h : L1 w0 D w v y z es) (hb : Below w.heap.size w w') : L1 w0 D w' v y z es := ⟨h.b.trans (hb.mono (Nat.le_of_lt h.d.lt)), h.d.below hb h.d.lt, h.o.step hb⟩
theorem L1.drew {w0 w : World} {D : Nat} {v y z : Value} {es : List En} (h : L1 w0 D w v y z es) : L1 w0 D w.drew v y z es := h.step ((Below.refl _ _).drew)
/-- a block above all that was laid ahead is written to, which is not one of the row's -/
theorem L1.fresh {w0 w w1 : World} {D E : Nat} {v y z : Value} {es : List En} (h : L1 w0 D w v y z es) (hb : Below w.heap.size w w1) (hE : w.heap.size ≤ E) (i : Nat) (u : Value) : L1 w0 D (w1.setCell ⟨E, i, none⟩ u) v y z es := h.step (hb.setCell hE u)
theorem L1.app {w0 w w5 : World} {D g cap H : Nat} {v y z : Value} {es : List En} {e : En} (h : L1 w0 D w v y z es) (he : IRA w (D + 1) v.ownBlock e.M e.c.marks) (hl : e.c.marks.length ≤ big) (hH : w.heap.size = H)
    (hown : w5.ownsRow (D + 1) 52 6 (.slice (some ⟨g, 0, none⟩) (es.length + 1) cap) (es.length + 1) (fl6 es ++ fl6 [e])) (hgr : w.grownBy w5 v.ownBlock) (hg : v.ownBlock = some g ∨ g = H) :
    L1 w0 D (w5.setCell ⟨D, 0, none⟩ (.slice (some ⟨g, 0, none⟩) (es.length + 1) cap)) (.slice (some ⟨g, 0, none⟩) (es.length + 1) cap) y z (es ++ [e]) := by
  have hd := h.d.lt
  have hb : Below (D + 1) w w5 := grown_step hgr hd (fun b hb => (own_block h.o.own b hb).1)
  refine ⟨(h.b.trans (hb.mono (by omega))).setCell (Nat.le_refl _) _, (h.d.below hb (by omega)).set 0 _, (h.o.append he hl hH hown hgr hg).set (by simp) _⟩
theorem L1.app_d {w0 w w5 : World} {D : Nat} {v y z : Value} {es : List En} (h : L1 w0 D w v y z es) (hgr : w.grownBy w5 v.ownBlock) : Has w5 D 28 #[v, y, z] ∧ Below D w0 w5 := by
  have hd := h.d.lt
  have hb : Below (D + 1) w w5 := grown_step hgr hd (fun b hb => (own_block h.o.own b hb).1)
  exact ⟨h.d.below hb (by omega), h.b.trans (hb.mono (by omega))⟩
/-- the parts are being laid -/
structure L2 (w0 : World) (D D1 : Nat) (w : World) (v y z : Value) (A : Option Addr) (calls : List Cl) (ps : List Pe) : Prop where
  b : Below D w0 w
  d : Has w D 28 #[v, y, z]
  hD : D < D1
  h1 : D1 ≤ w.heap.size
  c : CRB w (D + 1) D1 A calls
  o : OutP w D1 y ps
theorem L1.next {w0 w : World} {D : Nat} {v z : Value} {es : List En} (h : L1 w0 D w v (.slice none 0 0) z es) : ∃ A cap, v = .slice A es.length cap ∧ L2 w0 D w.heap.size w v (.slice none 0 0) z A (es.map (·.c)) [] := by
  obtain ⟨A, cap, rfl, h2⟩ := h.o.crb
  exact ⟨A, cap, rfl, h.b, h.d, h.d.lt, Nat.le_refl _, h2, OutP.nil _ _⟩
section
variable {w0 w w' w5 : World} {D D1 g cap H : Nat} {v y z : Value} {A : Option Addr} {calls : List Cl} {ps : List Pe} {e : Pe}
theorem L2.step (h : L2 w0 D D1 w v y z A calls ps) (hb : Below w.heap.size w w') : L2 w0 D D1 w' v y z A calls ps := ⟨h.b.trans (hb.mono (by have := h.hD; have := h.h1; omega)), h.d.below hb h.d.lt, h.hD, Nat.le_trans h.h1 hb.size, h.c.below (hb.mono h.h1), h.o.step hb⟩
theorem L2.drew (h : L2 w0 D D1 w v y z A calls ps) : L2 w0 D D1 w.drew v y z A calls ps := h.step ((Below.refl _ _).drew)
theorem L2.app_b (h : L2 w0 D D1 w v y z A calls ps) (hgr : w.grownBy w5 y.ownBlock) : Below D1 w w5 := grown_step hgr h.h1 (fun b hb => (own_block h.o.own b hb).1)
theorem L2.app_d (h : L2 w0 D D1 w v y z A calls ps) (hgr : w.grownBy w5 y.ownBlock) : Has w5 D 28 #[v, y, z] ∧ Below D w0 w5 :=
  ⟨h.d.below (h.app_b hgr) h.hD, h.b.trans ((h.app_b hgr).mono (Nat.le_of_lt h.hD))⟩
theorem L2.app (h : L2 w0 D D1 w v y z A calls ps) (he : IRA w D1 y.ownBlock e.M e.m) (hl : e.m.length ≤ big) (hH : w.heap.size = H)
    (hown : w5.ownsRow D1 22 1 (.slice (some ⟨g, 0, none⟩) (ps.length + 1) cap) (ps.length + 1) (fl1 ps ++ fl1 [e])) (hgr : w.grownBy w5 y.ownBlock) (hg : y.ownBlock = some g ∨ g = H) :
    L2 w0 D D1 (w5.setCell ⟨D, 1, none⟩ (.slice (some ⟨g, 0, none⟩) (ps.length + 1) cap)) v (.slice (some ⟨g, 0, none⟩) (ps.length + 1) cap) z A calls (ps ++ [e]) := by
  have hb := h.app_b hgr
  exact ⟨(h.app_d hgr).2.setCell (Nat.le_refl _) _, (h.app_d hgr).1.set 1 _, h.hD, by have := hb.size; have := h.h1; simp [World.setCell]; omega, (h.c.below hb).set (by simp) _, (h.o.append he hl hH hown hgr hg).set h.hD _⟩
theorem L2.skr {s : Sk} (h : L2 w0 D D1 w v y z A s.calls ps) (hp : ps.map (·.m) = s.parts) (hlc : s.calls.length ≤ big) (hlp : s.parts.length ≤ big) : ∃ AP cp, y = .slice AP s.parts.length cp ∧ SkR w w.heap.size s A AP := by
  obtain ⟨AP, cp, rfl, hr⟩ := h.o.prow
  have hl : ps.length = s.parts.length := by rw [← hp]; simp
  rw [hp] at hr
  exact ⟨AP, cp, by rw [hl], (h.c.crow).more h.h1, hr, hlc, hlp⟩
/-- .. also behind what is written to a block that was laid ahead -/
theorem L2.skr_put {s : Sk} (h : L2 w0 D D1 w v y z A s.calls ps) (hp : ps.map (·.m) = s.parts) (hlc : s.calls.length ≤ big) (hlp : s.parts.length ≤ big) : ∃ AP cp, y = .slice AP s.parts.length cp ∧ ∀ (R : Nat) (a b c : Value), R < D → SkR (put3 w R a b c) (put3 w R a b c).heap.size s A AP := by
  obtain ⟨AP, cp, rfl, -⟩ := h.skr hp hlc hlp
  refine ⟨AP, cp, rfl, fun R a b c hR => ?_⟩
  have hD := h.hD
  have hc : CRB (put3 w R a b c) (D + 1) D1 A s.calls := ((h.c.set (p := ⟨R, 0, none⟩) (by simp only; omega) a).set (p := ⟨R, 1, none⟩) (by simp only; omega) b).set (p := ⟨R, 2, none⟩) (by simp only; omega) c
  have ho : OutP (put3 w R a b c) D1 _ ps := ((h.o.set (p := ⟨R, 0, none⟩) (by simp only; omega) a).set (p := ⟨R, 1, none⟩) (by simp only; omega) b).set (p := ⟨R, 2, none⟩) (by simp only; omega) c
  obtain ⟨AP', cp', e, hr⟩ := ho.prow
  simp only [Value.slice.injEq] at e
  obtain ⟨rfl, -, rfl⟩ := e
  rw [hp] at hr
  exact ⟨hc.crow.more (by have := h.h1; simp [put3, World.setCell]; omega), hr, hlc, hlp⟩
end
end Go.Proofs.Ytmclchaalmonnaa
