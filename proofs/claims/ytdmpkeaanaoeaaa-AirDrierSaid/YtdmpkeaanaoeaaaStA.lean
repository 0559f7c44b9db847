/- Rows of steps that grow by append, up to three of them, beside a step that is written to. -/
import Derived.Test.YtdmpkeaanaoeaaaLwB
import Derived.Test.YtdmpkeaanaoeaaaLwD
import Derived.Test.YtdmpkeaanaoeaaaPaA
import Derived.Deep.AppendLies
import Derived.Deep.LoopGhost
import Derived.Lib.SliceRun
namespace Go.Proofs.Ytdmpkeaanaoeaaa
open Go.RowKit
theorem Try.info50 : (Try.prog.info? 50).map (fun i => (i.zero, i.size, i.bytes)) = some (some (.agg #[.int .i64 0, .int .i64 0, .int .i64 0, .int .i64 0, .int .i64 0, .int .i64 0, .int .i64 0, .int .i64 0]), 8, 64) := by kernel_rfl
theorem fs_get {α : Type} (f : α → List Value) (n : Nat) (hf : ∀ a, (f a).length = n) (l : List α) (i : Nat) (h : i < l.length) (j : Nat) (hj : j < n) : (l.flatMap f)[i * n + j]? = (f l[i])[j]? := by
  induction l generalizing i with
  | nil => exact absurd h (by simp)
  | cons a l ih =>
    cases i with
    | zero =>
      simp only [List.flatMap_cons, Nat.zero_mul, Nat.zero_add, List.getElem_cons_zero]
      rw [List.getElem?_append_left (by rw [hf]; exact hj)]
    | succ i =>
      simp only [List.flatMap_cons, List.getElem_cons_succ]
      rw [List.getElem?_append_right (by rw [hf, Nat.succ_mul]; omega), ← ih i (by simpa using h)]
      congr 1
      rw [hf, Nat.succ_mul]; omega
def sfl (l : List Stp) : List Value := l.flatMap fun s => (stpc s).toList
theorem sfl_app (l m : List Stp) : sfl (l ++ m) = sfl l ++ sfl m := by unfold sfl; rw [List.flatMap_append]
theorem sfl_one (l : List Stp) : ∀ u ∈ sfl l, u.oneCell' = true := by
  intro u hu
  obtain ⟨s, -, hs⟩ := List.mem_flatMap.1 hu
  simp only [List.mem_cons, List.not_mem_nil, or_false] at hs
  rcases hs with rfl | rfl | rfl | rfl | rfl | rfl | rfl | rfl <;> rfl
theorem row_step {w w' : World} {base size n : Nat} {e : TypeId} {v : Value} {xs : List Value} (h : w.ownsRow base e size v n xs) (hb : Below w.heap.size w w') : w'.ownsRow base e size v n xs := by
  obtain ⟨hl, h0 | ⟨g, cap, cur, rfl, hB, hgc, h1, h2, h3, h4⟩⟩ := h
  · exact ⟨hl, .inl h0⟩
  · have hh : Has w g e cur := hgc
    exact ⟨hl, .inr ⟨g, cap, cur, rfl, hB, hh.below hb hh.lt, h1, h2, h3, h4⟩⟩
theorem row_nil (w : World) (base size : Nat) (e : TypeId) : w.ownsRow base e size (.slice none 0 0) 0 [] := ⟨by simp, .inl ⟨rfl, rfl⟩⟩
theorem row_grown {w w' : World} {o : Option Nat} {B : Nat} (hg : w.grownBy w' o) (hB : B ≤ w.heap.size) (ho : ∀ b, o = some b → B ≤ b) : Below B w w' :=
  ⟨hg.os, hg.tape, hg.output, hg.size, fun k hk => hg.block k (by omega) (fun e => by have := ho k e.symm; omega)⟩
theorem row_block {w : World} {base size n : Nat} {e : TypeId} {v : Value} {xs : List Value} (h : w.ownsRow base e size v n xs) : ∀ b, v.ownBlock = some b → base ≤ b ∧ b < w.heap.size := by
  intro b hb
  obtain ⟨hl, ⟨rfl, -⟩ | ⟨g, cap, cur, rfl, hB, hgc, h1, h2, h3, h4⟩⟩ := h
  · cases hb
  · have hh : Has w g e cur := hgc
    cases hb
    exact ⟨hB, hh.lt⟩
theorem row_slice {w : World} {base size n : Nat} {e : TypeId} {v : Value} {xs : List Value} (h : w.ownsRow base e size v n xs) : ∃ A cap, v = .slice A n cap := by
  obtain ⟨hl, ⟨rfl, rfl⟩ | ⟨g, cap, cur, rfl, -⟩⟩ := h
  · exact ⟨_, _, rfl⟩
  · exact ⟨_, _, rfl⟩
theorem row_ne {w w' : World} {base size n : Nat} {e : TypeId} {v : Value} {xs : List Value} {o : Option Nat} (h : w.ownsRow base e size v n xs) (hg : w.grownBy w' o) (ho : ∀ b, o = some b → v.ownBlock ≠ some b) : w'.ownsRow base e size v n xs := by
  obtain ⟨h0, (h1 | ⟨g, cap, cur, rfl, hb, hgc, h2⟩)⟩ := h
  · exact ⟨h0, .inl h1⟩
  · have hg1 : Has w g e cur := hgc
    have hg2 : Has w' g e cur := by
      have := hg.block g hg1.lt (fun e => ho g e.symm rfl)
      unfold Has at hg1 ⊢
      rw [this]; exact hg1
    exact ⟨h0, .inr ⟨g, cap, cur, rfl, hb, hg2, h2⟩⟩
theorem row_set {w : World} {base size n : Nat} {e : TypeId} {v : Value} {xs : List Value} (h : w.ownsRow base e size v n xs) {p : Addr} (hp : v.ownBlock ≠ some p.block) (u : Value) : (w.setCell p u).ownsRow base e size v n xs := by
  obtain ⟨h0, (h1 | ⟨g, cap, cur, rfl, hb, hgc, h2⟩)⟩ := h
  · exact ⟨h0, .inl h1⟩
  · have hg1 : Has w g e cur := hgc
    have hg2 : Has (w.setCell p u) g e cur := hg1.far (fun e => hp (by rw [← e]; rfl)) u
    exact ⟨h0, .inr ⟨g, cap, cur, rfl, hb, hg2, h2⟩⟩
theorem row_steps {w : World} {base : Nat} {v : Value} {l : List Stp} (h : w.ownsRow base 50 8 v l.length (sfl l)) : ∃ A cap, v = .slice A l.length cap ∧ SRow w w.heap.size A l := by
  obtain ⟨_, (⟨rfl, h0⟩ | ⟨g, cap, cur, rfl, hb, hg, h1, h2, h3, h4⟩)⟩ := h
  · exact ⟨none, 0, by rw [h0], fun k hk => by omega⟩
  · refine ⟨some ⟨g, 0, none⟩, cap, rfl, fun k hk => ⟨g, 0, rfl, ?_, fun j hj => ?_⟩⟩
    · have hg1 : Has w g 50 cur := hg
      exact hg1.lt
    · have hg1 : Has w g 50 cur := hg
      rw [Nat.zero_add, hg1.cell]
      have hlt : k * 8 + j < l.length * 8 := by omega
      have := congrArg (fun l : List Value => l[k * 8 + j]?) h4
      simp only [List.getElem?_take_of_lt hlt] at this
      unfold sfl at this
      rw [fs_get (fun s => (stpc s).toList) 8 (fun _ => rfl) l k hk j hj] at this
      simpa using this
/-- a row of steps, apart from the blocks of B -/
structure RowS (w : World) (base : Nat) (B : List (Option Nat)) (v : Value) (l : List Stp) : Prop where
  o : w.ownsRow base 50 8 v l.length (sfl l)
  ne : ∀ b, v.ownBlock = some b → some b ∉ B
/-- three rows side by side, and the step that is being written -/
structure T3 (w1 w : World) (D : Nat) (s : Stp) (v1 v2 v3 : Value) (l1 l2 l3 : List Stp) : Prop where
  b : Below w1.heap.size w1 w
  d : Has w D 50 (stpc s)
  hD : w1.heap.size ≤ D
  o1 : w.ownsRow w1.heap.size 50 8 v1 l1.length (sfl l1)
  o2 : w.ownsRow w1.heap.size 50 8 v2 l2.length (sfl l2)
  o3 : w.ownsRow w1.heap.size 50 8 v3 l3.length (sfl l3)
  d1 : v1.ownBlock ≠ some D
  d2 : v2.ownBlock ≠ some D
  d3 : v3.ownBlock ≠ some D
  n12 : ∀ b, v1.ownBlock = some b → v2.ownBlock ≠ some b
  n13 : ∀ b, v1.ownBlock = some b → v3.ownBlock ≠ some b
  n23 : ∀ b, v2.ownBlock = some b → v3.ownBlock ≠ some b
/-- .. without the step -/
structure T0 (w1 w : World) (v1 v2 v3 : Value) (l1 l2 l3 : List Stp) : Prop where
  b : Below w1.heap.size w1 w
  o1 : w.ownsRow w1.heap.size 50 8 v1 l1.length (sfl l1)
  o2 : w.ownsRow w1.heap.size 50 8 v2 l2.length (sfl l2)
  o3 : w.ownsRow w1.heap.size 50 8 v3 l3.length (sfl l3)
  n12 : ∀ b, v1.ownBlock = some b → v2.ownBlock ≠ some b
  n13 : ∀ b, v1.ownBlock = some b → v3.ownBlock ≠ some b
  n23 : ∀ b, v2.ownBlock = some b → v3.ownBlock ≠ some b
section
variable {w1 w w' : World} {D g cap H : Nat} {s x : Stp} {v1 v2 v3 : Value} {l1 l2 l3 : List Stp}
theorem T0.start (w1 : World) : T0 w1 w1 (.slice none 0 0) (.slice none 0 0) (.slice none 0 0) [] [] [] := ⟨Below.refl _ _, row_nil _ _ _ _, row_nil _ _ _ _, row_nil _ _ _ _, fun b hb => (by cases hb), fun b hb => (by cases hb), fun b hb => (by cases hb)⟩
theorem T0.step (h : T0 w1 w v1 v2 v3 l1 l2 l3) (hb : Below w.heap.size w w') : T0 w1 w' v1 v2 v3 l1 l2 l3 := ⟨h.b.trans (hb.mono h.b.size), row_step h.o1 hb, row_step h.o2 hb, row_step h.o3 hb, h.n12, h.n13, h.n23⟩
theorem T0.box (h : T0 w1 w v1 v2 v3 l1 l2 l3) (s : Stp) : T3 w1 (w.alloc (.cells (stpc s) 50)) w.heap.size s v1 v2 v3 l1 l2 l3 := by
  have h1 := h.step (below_one w (.cells (stpc s) 50))
  refine ⟨h1.b, Has.new _ _ _, h.b.size, h1.o1, h1.o2, h1.o3, fun e => ?_, fun e => ?_, fun e => ?_, h.n12, h.n13, h.n23⟩
  · have := (row_block h.o1 _ e).2; omega
  · have := (row_block h.o2 _ e).2; omega
  · have := (row_block h.o3 _ e).2; omega
theorem T3.t0 (h : T3 w1 w D s v1 v2 v3 l1 l2 l3) : T0 w1 w v1 v2 v3 l1 l2 l3 := ⟨h.b, h.o1, h.o2, h.o3, h.n12, h.n13, h.n23⟩
theorem T3.step (h : T3 w1 w D s v1 v2 v3 l1 l2 l3) (hb : Below w.heap.size w w') : T3 w1 w' D s v1 v2 v3 l1 l2 l3 :=
  ⟨h.b.trans (hb.mono h.b.size), h.d.below hb h.d.lt, h.hD, row_step h.o1 hb, row_step h.o2 hb, row_step h.o3 hb, h.d1, h.d2, h.d3, h.n12, h.n13, h.n23⟩
/-- the step is written to -/
theorem T3.set (h : T3 w1 w D s v1 v2 v3 l1 l2 l3) (i : Nat) (u : Value) (t : Stp) (he : (stpc s).setIfInBounds i u = stpc t) : T3 w1 (w.setCell ⟨D, i, none⟩ u) D t v1 v2 v3 l1 l2 l3 := by
  have hd := h.d.set i u
  rw [he] at hd
  exact ⟨h.b.setCell h.hD _, hd, h.hD, row_set h.o1 h.d1 _, row_set h.o2 h.d2 _, row_set h.o3 h.d3 _, h.d1, h.d2, h.d3, h.n12, h.n13, h.n23⟩
theorem new_ne {u : Value} {base n size : Nat} {e : TypeId} {xs : List Value} {k : Option Nat} (hu : w.ownsRow base e size u n xs) (hH : w.heap.size = H) (hg : k = some g ∨ g = H) (hk : ∀ b, k = some b → u.ownBlock ≠ some b) : u.ownBlock ≠ some g := by
  rcases hg with hg | hg
  · exact hk g hg
  · intro e
    have := (row_block hu _ e).2
    omega
theorem T3.app_b (h : T3 w1 w D s v1 v2 v3 l1 l2 l3) {k : Option Nat} (hgr : w.grownBy w' k) (hk : ∀ b, k = some b → w1.heap.size ≤ b) (hd : k ≠ some D) : Below w1.heap.size w1 w' ∧ Has w' D 50 (stpc s) := by
  refine ⟨h.b.trans (row_grown hgr h.b.size hk), ?_⟩
  have h1 := h.d
  have := hgr.block D h1.lt (fun e => hd e.symm)
  unfold Has at h1 ⊢
  rw [this]; exact h1
theorem T3.app1 (h : T3 w1 w D s v1 v2 v3 l1 l2 l3) (hH : w.heap.size = H) (hown : w'.ownsRow w1.heap.size 50 8 (.slice (some ⟨g, 0, none⟩) (l1.length + 1) cap) (l1.length + 1) (sfl l1 ++ sfl [x])) (hgr : w.grownBy w' v1.ownBlock) (hg : v1.ownBlock = some g ∨ g = H) :
    T3 w1 w' D s (.slice (some ⟨g, 0, none⟩) (l1.length + 1) cap) v2 v3 (l1 ++ [x]) l2 l3 := by
  obtain ⟨hb, hd⟩ := h.app_b hgr (fun b hb => (row_block h.o1 b hb).1) h.d1
  have q2 := new_ne h.o2 hH hg (fun b hb => h.n12 b hb)
  have q3 := new_ne h.o3 hH hg (fun b hb => h.n13 b hb)
  refine ⟨hb, hd, h.hD, by rw [sfl_app, List.length_append]; exact hown, row_ne h.o2 hgr (fun b hb => h.n12 b hb), row_ne h.o3 hgr (fun b hb => h.n13 b hb), ?_, h.d2, h.d3, fun b hb => ?_, fun b hb => ?_, h.n23⟩
  · intro e
    have e2 : g = D := Option.some.inj e
    rcases hg with hg | hg
    · exact h.d1 (by rw [hg, e2])
    · have := h.d.lt; omega
  · cases hb; exact q2
  · cases hb; exact q3
theorem T3.app2 (h : T3 w1 w D s v1 v2 v3 l1 l2 l3) (hH : w.heap.size = H) (hown : w'.ownsRow w1.heap.size 50 8 (.slice (some ⟨g, 0, none⟩) (l2.length + 1) cap) (l2.length + 1) (sfl l2 ++ sfl [x])) (hgr : w.grownBy w' v2.ownBlock) (hg : v2.ownBlock = some g ∨ g = H) :
    T3 w1 w' D s v1 (.slice (some ⟨g, 0, none⟩) (l2.length + 1) cap) v3 l1 (l2 ++ [x]) l3 := by
  obtain ⟨hb, hd⟩ := h.app_b hgr (fun b hb => (row_block h.o2 b hb).1) h.d2
  have q1 := new_ne h.o1 hH hg (fun b hb e => h.n12 b e hb)
  have q3 := new_ne h.o3 hH hg (fun b hb => h.n23 b hb)
  refine ⟨hb, hd, h.hD, row_ne h.o1 hgr (fun b hb e => h.n12 b e hb), by rw [sfl_app, List.length_append]; exact hown, row_ne h.o3 hgr (fun b hb => h.n23 b hb), h.d1, ?_, h.d3, fun b hb e => ?_, h.n13, fun b hb => ?_⟩
  · intro e
    have e2 : g = D := Option.some.inj e
    rcases hg with hg | hg
    · exact h.d2 (by rw [hg, e2])
    · have := h.d.lt; omega
  · cases e; exact q1 hb
  · cases hb; exact q3
theorem T3.app3 (h : T3 w1 w D s v1 v2 v3 l1 l2 l3) (hH : w.heap.size = H) (hown : w'.ownsRow w1.heap.size 50 8 (.slice (some ⟨g, 0, none⟩) (l3.length + 1) cap) (l3.length + 1) (sfl l3 ++ sfl [x])) (hgr : w.grownBy w' v3.ownBlock) (hg : v3.ownBlock = some g ∨ g = H) :
    T3 w1 w' D s v1 v2 (.slice (some ⟨g, 0, none⟩) (l3.length + 1) cap) l1 l2 (l3 ++ [x]) := by
  obtain ⟨hb, hd⟩ := h.app_b hgr (fun b hb => (row_block h.o3 b hb).1) h.d3
  have q1 := new_ne h.o1 hH hg (fun b hb e => h.n13 b e hb)
  have q2 := new_ne h.o2 hH hg (fun b hb e => h.n23 b e hb)
  refine ⟨hb, hd, h.hD, row_ne h.o1 hgr (fun b hb e => h.n13 b e hb), row_ne h.o2 hgr (fun b hb e => h.n23 b e hb), by rw [sfl_app, List.length_append]; exact hown, h.d1, h.d2, ?_, h.n12, fun b hb e => ?_, fun b hb e => ?_⟩
  · intro e
    have e2 : g = D := Option.some.inj e
    rcases hg with hg | hg
    · exact h.d3 (by rw [hg, e2])
    · have := h.d.lt; omega
  · cases e; exact q1 hb
  · cases e; exact q2 hb
end
theorem addr_plus (g o j : Nat) : (⟨g, o, none⟩ : Addr).add j = ⟨g, o + j, none⟩ := by unfold Addr.add; split <;> simp_all
theorem step_new {w : World} {b : Nat} {s : Stp} (h : Has w b 50 (stpc s)) : ∀ i u, (sfl [s])[i]? = some u → w.cell? ((⟨b, 0, none⟩ : Addr).add i) = some u := fun i u hu => by
  rw [show (⟨b, 0, none⟩ : Addr).add i = ⟨b, 0 + i, none⟩ from addr_plus b 0 i, h.cell, Nat.zero_add, ← hu]
  simp [sfl]
end Go.Proofs.Ytdmpkeaanaoeaaa
