/- The closure that compares two sensors. -/
import Derived.Test.YtfdjoldcdfbfhaaSoA
namespace Go.Proofs.Ytfdjoldcdfbfhaa
open Go.Shelf Go.RowKit Go.Lib Go.Sort
/-- a function value that gives a sensor's number -/
def KeyF (W : World) (fn : Nat) (lb : Array Value) (key : Sn → Int) : Prop :=
  (∀ args w, (callFunc fn args).run Try.prog w = .ok (.enter fn args) w) ∧ ∀ w', Below W.heap.size W w' → ∀ s, vS s → Calls Try.prog fn (#[snv s] ++ lb) w' fun e w'' => Gr w' e (.int .i64 (key s)) w''
theorem below_grown (w : World) (n : Nat) (os : Array Obj) : Below w.heap.size w (grow (w.drewN n) os) :=
  ⟨rfl, rfl, rfl, by rw [size_grow]; exact Nat.le_add_right _ _, fun k hk => by show (w.heap ++ os)[k]? = w.heap[k]?; exact Array.getElem?_append_left hk⟩
theorem grow_seq2 {w w' : World} {o o' : Obj} (h : ∃ q os', w' = grow (((w.alloc o).alloc o').drewN q) os') : ∃ q os', w' = grow (w.drewN q) os' := grow_seq (grow_seq h)
theorem compare_gr (x y : Int) (w : World) : Calls Try.prog 66 #[.int .i64 x, .int .i64 y] w fun e w' => Gr w e (.int .i64 (compareInt x y)) w' :=
  (compare_any x y w).mono fun e w' ⟨⟨c, he, _, hc⟩, hw⟩ => ⟨by rw [he, hc], 0, #[], by rw [hw, grow_empty]; rfl⟩
set_option maxHeartbeats 1000000 in
theorem cmp65 (key : Sn → Int) (fn : Nat) (lb : Array Value) (a b : Sn) (p : Addr) (W w : World) (hk : KeyF W fn lb key) (hb : Below W.heap.size W w) (hc : w.cell? p = some (.func (.func fn) #[] lb)) (hp : p.block < w.heap.size) (va : vS a) (vb : vS b) :
    Calls Try.prog 65 #[snv a, snv b, .pointer (some p)] w fun e w' => Gr w e (.int .i64 (compareInt (key a) (key b))) w' := by
  have eg := hk.1
  have hka := fun w' h => hk.2 w' h a va
  have hkb := fun w' h => hk.2 w' h b vb
  have hcc := fun w' => compare_gr (key a) (key b) w'
  obtain ⟨ka, hka'⟩ : ∃ x, key a = x := ⟨_, rfl⟩
  obtain ⟨kb, hkb'⟩ : ∃ x, key b = x := ⟨_, rfl⟩
  rw [hka'] at hka hcc ⊢
  rw [hkb'] at hkb hcc ⊢
  obtain ⟨r, hr⟩ : ∃ r, compareInt ka kb = r := ⟨_, rfl⟩
  rw [hr] at hcc ⊢
  clear hka' hkb' hr va vb hk
  unfold snv at *
  go_enter Try.func65, Try.ntmps65
  go_wp2
  obtain ⟨w2, hw2⟩ : ∃ w2, (w.alloc (.cells #[.int .i64 a.f, .int .i64 a.e, .int .i64 a.r] 56)).alloc (.cells #[.int .i64 b.f, .int .i64 b.e, .int .i64 b.r] 56) = w2 := ⟨_, rfl⟩
  have hsz : w2.heap.size = w.heap.size + 2 := by rw [← hw2]; simp
  have hpc : ∀ n os, (grow (w2.drewN n) os).cell? p = some (.func (.func fn) #[] lb) := cell_grown (by omega) (by rw [← hw2]; exact ((below_one _ _).cell (by simp; omega)).trans (((below_one w _).cell hp).trans hc))
  have A : Has w2 w.heap.size 56 #[.int .i64 a.f, .int .i64 a.e, .int .i64 a.r] := hw2 ▸ (Has.new w 56 _).alloc _
  have B : Has w2 (w.heap.size + 1) 56 #[.int .i64 b.f, .int .i64 b.e, .int .i64 b.r] := by
    have := Has.new (w.alloc (.cells #[.int .i64 a.f, .int .i64 a.e, .int .i64 a.r] 56)) 56 #[.int .i64 b.f, .int .i64 b.e, .int .i64 b.r]
    rw [hw2] at this; simpa using this
  have a0 : ∀ n os, (grow (w2.drewN n) os).cell? ⟨w.heap.size, 0, none⟩ = some (.int .i64 a.f) := cell_grown A.lt (A.cell 0)
  have a1 : ∀ n os, (grow (w2.drewN n) os).cell? ⟨w.heap.size, 1, none⟩ = some (.int .i64 a.e) := cell_grown A.lt (A.cell 1)
  have a2 : ∀ n os, (grow (w2.drewN n) os).cell? ⟨w.heap.size, 2, none⟩ = some (.int .i64 a.r) := cell_grown A.lt (A.cell 2)
  have b0 : ∀ n os, (grow (w2.drewN n) os).cell? ⟨w.heap.size + 1, 0, none⟩ = some (.int .i64 b.f) := cell_grown B.lt (B.cell 0)
  have b1 : ∀ n os, (grow (w2.drewN n) os).cell? ⟨w.heap.size + 1, 1, none⟩ = some (.int .i64 b.e) := cell_grown B.lt (B.cell 1)
  have b2 : ∀ n os, (grow (w2.drewN n) os).cell? ⟨w.heap.size + 1, 2, none⟩ = some (.int .i64 b.r) := cell_grown B.lt (B.cell 2)
  have HB : Below W.heap.size W w2 := by rw [← hw2]; exact hb.trans (((below_one w _).mono hb.size).trans ((below_one _ _).mono (by simp; have := hb.size; omega)))
  have ga : ∀ n os, Calls Try.prog fn (#[.agg #[.int .i64 a.f, .int .i64 a.e, .int .i64 a.r]] ++ lb) (grow (w2.drewN n) os) fun e w'' => e = .returned (.int .i64 ka) ∧ ∃ q os', w'' = grow ((grow (w2.drewN n) os).drewN q) os' := fun n os => hka _ (HB.trans ((below_grown w2 n os).mono HB.size))
  have gb : ∀ n os, Calls Try.prog fn (#[.agg #[.int .i64 b.f, .int .i64 b.e, .int .i64 b.r]] ++ lb) (grow (w2.drewN n) os) fun e w'' => e = .returned (.int .i64 kb) ∧ ∃ q os', w'' = grow ((grow (w2.drewN n) os).drewN q) os' := fun n os => hkb _ (HB.trans ((below_grown w2 n os).mono HB.size))
  have gc : ∀ n os, Calls Try.prog 66 #[.int .i64 ka, .int .i64 kb] (grow (w2.drewN n) os) fun e w'' => e = .returned (.int .i64 r) ∧ ∃ q os', w'' = grow ((grow (w2.drewN n) os).drewN q) os' := fun n os => hcc _
  have HW := Lib.hid hw2
  rw [hw2]
  clear hka hkb hcc hb hc hp hw2 hsz A B HB
  have hmix : Try.prog.follows .mixedOrders = true := by kernel_rfl
  go_quiet_grown (first | (go_at_fn fn; first | exact Calls.grown_of (ga _ _) | exact Calls.grown_of (gb _ _)) | exact Calls.grown_of (gc _ _))
  go_wp2
  go_ret
  have h0 : ∃ q os', grow (w2.drewN nq) osq = grow (w.drewN q) os' := by rw [← HW.out]; exact grow_seq2 ⟨nq, osq, rfl⟩
  exact ⟨rfl, h0⟩
end Go.Proofs.Ytfdjoldcdfbfhaa
