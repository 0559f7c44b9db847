/- pump. -/
import Derived.Test.YtjfopmjphiddiaaMgE
namespace Go.Proofs.Ytjfopmjphiddiaa
open Go.RowKit Go.Shelf
attribute [local go_sem] Oper.semAt_some

abbrev evv (k p a h : Int) : Value := .agg #[.int .i64 k, .int .i64 p, .int .i64 a, .int .i64 h]
def errv (n : Int) : Value := .iface 32 (.int .i64 n)
def S55 (Bc bs : Nat) (a v : Int) (w : World) : Prop :=
  w.cell? ⟨bs, 0, none⟩ = some (.pointer (some ⟨Bc, 0, none⟩)) ∧ w.cell? ⟨bs + 1, 2, none⟩ = some (.int .i64 a) ∧ w.cell? ⟨Bc, 0, none⟩ = some (.int .i64 v)
def S55b (Bc bs : Nat) (a : Int) (w : World) : Prop :=
  w.cell? ⟨bs, 0, none⟩ = some (.pointer (some ⟨Bc, 0, none⟩)) ∧ w.cell? ⟨bs + 1, 2, none⟩ = some (.int .i64 a)
theorem S55b.below {Bc bs : Nat} {a : Int} {w w' : World} (h : S55b Bc bs a w) (hb : Below w.heap.size w w') : S55b Bc bs a w' := ⟨cell_below h.1 hb, cell_below h.2 hb⟩
theorem rec_heap (w : World) (o1 o2 : Obj) : ((w.alloc o1).alloc o2).heap[w.heap.size + 1]? = some o2 := by
  have := World.alloc_heap_new (w.alloc o1) o2
  rwa [World.size_alloc] at this
def PanicPost (v : Value) (W : World) (e : Ending) (W' : World) : Prop := e = .panicked [{ v := v, recovered := false }] ∧ Below W.heap.size W W'
def DonePost (Bc Bp : Nat) (W : World) (qs : List Qu) (z : Yx) (e : Ending) (W' : World) : Prop := (∃ v, e = .returned v) ∧ ∃ qs', Mv Bc Bp W qs W' qs' ∧ HereT W' Bc Bp [] z qs'

set_option maxRecDepth 100000 in
set_option maxHeartbeats 4000000 in
theorem pump_short (Bc Bp : Nat) (qs : List Qu) (y : Yx) (k p a h : Int) (W : World) (hC : HereT W Bc Bp [] y qs) (hs : y.t.v < a) :
    Calls Try.prog 55 #[.pointer (some ⟨Bc, 0, none⟩), evv k p a h] W (PanicPost (errv 10) W) := by
  have hcl := hC.circ.c.lt
  have hS0 : (S55 Bc W.heap.size a y.t.v) ((W.alloc (Obj.cells #[.pointer (some ⟨Bc, 0, none⟩)] 63)).alloc (Obj.cells #[.int .i64 k, .int .i64 p, .int .i64 a, .int .i64 h] 56)).drew :=
    ⟨((Has.new W 63 _).alloc _).cell 0, (Has.newAt (w := W.alloc (Obj.cells #[.pointer (some ⟨Bc, 0, none⟩)] 63)) (by simp)).cell 2, ((hC.circ.c.alloc _).alloc _).cell 0⟩
  have HS0 := Lib.hid hS0
  clear hS0 hC
  go_enter Try.func55, Try.ntmps55
  go_wp2
  refine wp_region_late (S55 Bc W.heap.size a y.t.v) [] (by kernel_rfl) ?_
  refine wpLate_take (i := 0) (oi := ?oi0) (v := ?v0) [1, 2, 3, 4, 7] ?hi0 (by kernel_rfl) (by kernel_rfl) (by kernel_rfl) (by kernel_rfl) (by kernel_rfl) ?hQ0 (Or.inl ⟨?hw0, ?hy0⟩) HS0.out ?rest0
  case hi0 => (simp only [List.getElem?_toArray, List.getElem?_cons_zero]; rfl)
  case hQ0 => exact fun _ _ _ h => h
  case hw0 => rfl
  case hy0 =>
    intro w' hSw
    obtain ⟨r0, r1, r2⟩ := hSw
    go_simp
    try exact rfl
  simp only [Act.put, List.setIfInBounds_toArray, List.set_cons_zero, List.set_cons_succ]
  refine wpLate_take (i := 1) (oi := ?oi1) (v := ?v1) [2, 3, 4, 7] ?hi1 (by kernel_rfl) (by kernel_rfl) (by kernel_rfl) (by kernel_rfl) (by kernel_rfl) ?hQ1 (Or.inl ⟨?hw1, ?hy1⟩) HS0.out ?rest1
  case hi1 => (simp only [List.getElem?_toArray, List.getElem?_cons_zero, List.getElem?_cons_succ]; rfl)
  case hQ1 => exact fun _ _ _ h => h
  case hw1 => rfl
  case hy1 =>
    intro w' hSw
    obtain ⟨r0, r1, r2⟩ := hSw
    go_simp
    try exact rfl
  simp only [Act.put, List.setIfInBounds_toArray, List.set_cons_zero, List.set_cons_succ]
  refine wpLate_take (i := 2) (oi := ?oi2) (v := ?v2) [3, 4, 7] ?hi2 (by kernel_rfl) (by kernel_rfl) (by kernel_rfl) (by kernel_rfl) (by kernel_rfl) ?hQ2 (Or.inl ⟨?hw2, ?hy2⟩) HS0.out ?rest2
  case hi2 => (simp only [List.getElem?_toArray, List.getElem?_cons_zero, List.getElem?_cons_succ]; rfl)
  case hQ2 => exact fun _ _ _ h => h
  case hw2 => rfl
  case hy2 =>
    intro w' hSw
    obtain ⟨r0, r1, r2⟩ := hSw
    go_simp
    try exact rfl
  simp only [Act.put, List.setIfInBounds_toArray, List.set_cons_zero, List.set_cons_succ]
  refine wpLate_take (i := 3) (oi := ?oi3) (v := ?v3) [4, 7] ?hi3 (by kernel_rfl) (by kernel_rfl) (by kernel_rfl) (by kernel_rfl) (by kernel_rfl) ?hQ3 (Or.inl ⟨?hw3, ?hy3⟩) HS0.out ?rest3
  case hi3 => (simp only [List.getElem?_toArray, List.getElem?_cons_zero, List.getElem?_cons_succ]; rfl)
  case hQ3 => exact fun _ _ _ h => h
  case hw3 => rfl
  case hy3 =>
    intro w' hSw
    obtain ⟨r0, r1, r2⟩ := hSw
    go_simp
    try exact rfl
  simp only [Act.put, List.setIfInBounds_toArray, List.set_cons_zero, List.set_cons_succ]
  refine wpLate_take (i := 4) (oi := ?oi4) (v := ?v4) [7] ?hi4 (by kernel_rfl) (by kernel_rfl) (by kernel_rfl) (by kernel_rfl) (by kernel_rfl) ?hQ4 (Or.inl ⟨?hw4, ?hy4⟩) HS0.out ?rest4
  case hi4 => (simp only [List.getElem?_toArray, List.getElem?_cons_zero, List.getElem?_cons_succ]; rfl)
  case hQ4 => exact fun _ _ _ h => h
  case hw4 => rfl
  case hy4 =>
    intro w' hSw
    obtain ⟨r0, r1, r2⟩ := hSw
    go_simp
    try exact rfl
  simp only [Act.put, List.setIfInBounds_toArray, List.set_cons_zero, List.set_cons_succ]
  refine wpLate_take (i := 5) (oi := ?oi5) (v := ?v5) [6, 7] ?hi5 (by kernel_rfl) (by kernel_rfl) (by kernel_rfl) (by kernel_rfl) (by kernel_rfl) ?hQ5 (Or.inl ⟨?hw5, ?hy5⟩) HS0.out ?rest5
  case hi5 => (simp only [List.getElem?_toArray, List.getElem?_cons_zero, List.getElem?_cons_succ]; rfl)
  case hQ5 => exact fun _ _ _ h => h
  case hw5 => rfl
  case hy5 =>
    intro w' hSw
    obtain ⟨r0, r1, r2⟩ := hSw
    go_simp
    try exact rfl
  simp only [Act.put, List.setIfInBounds_toArray, List.set_cons_zero, List.set_cons_succ]
  refine wpLate_take (i := 6) (oi := ?oi6) (v := ?v6) [7] ?hi6 (by kernel_rfl) (by kernel_rfl) (by kernel_rfl) (by kernel_rfl) (by kernel_rfl) ?hQ6 (Or.inl ⟨?hw6, ?hy6⟩) HS0.out ?rest6
  case hi6 => (simp only [List.getElem?_toArray, List.getElem?_cons_zero, List.getElem?_cons_succ]; rfl)
  case hQ6 => exact fun _ _ _ h => h
  case hw6 => rfl
  case hy6 =>
    intro w' hSw
    obtain ⟨r0, r1, r2⟩ := hSw
    go_simp
    try exact rfl
  simp only [Act.put, List.setIfInBounds_toArray, List.set_cons_zero, List.set_cons_succ]
  refine wpLate_take (i := 7) (oi := ?oi7) (v := ?v7) [] ?hi7 (by kernel_rfl) (by kernel_rfl) (by kernel_rfl) (by kernel_rfl) (by kernel_rfl) ?hQ7 (Or.inl ⟨?hw7, ?hy7⟩) HS0.out ?rest7
  case hi7 => (simp only [List.getElem?_toArray, List.getElem?_cons_zero, List.getElem?_cons_succ]; rfl)
  case hQ7 => exact fun _ _ _ h => h
  case hw7 => rfl
  case hy7 =>
    intro w' hSw
    obtain ⟨r0, r1, r2⟩ := hSw
    go_simp
    try exact rfl
  simp only [Act.put, List.setIfInBounds_toArray, List.set_cons_zero, List.set_cons_succ]
  refine wpLate_done (by kernel_rfl) ?_ _
  try simp only [Act.put, List.setIfInBounds_toArray, List.set_cons_zero, List.set_cons_succ]
  go_wp2
  exact ⟨rfl, rfl, Below.drew (Below.alloc (Below.alloc (Below.refl _ _) (Nat.le_refl _) _) (by simp) _)⟩

set_option maxRecDepth 100000 in
set_option maxHeartbeats 4000000 in
theorem pump_ok (Bc Bp : Nat) (qs : List Qu) (y : Yx) (k p a h : Int) (W : World) (hC : Circ W Bc Bp y.t qs y.r) (hps : qs.map Qu.pp = y.ps) (h9 : qs.length ≤ 1000) (hf : FOk (y.ps, y.t)) (h1 : 1 ≤ a) (ha : a ≤ 1048576) (hs : a ≤ y.t.v) (hv : y.t.v ≤ 1048576) (hh : hA (y.ps, y.t) ≤ 2199023255552) (hva : vA (y.ps, y.t) ≤ 1099511627776) :
    Calls Try.prog 55 #[.pointer (some ⟨Bc, 0, none⟩), evv k p a h] W (DonePost Bc Bp W qs (toY (flowN qs.length (y.ps, takeR y.t a) (takeO y.t a)) y.r)) := by
  have hcl := hC.c.lt
  have hpl := hC.p.lt
  have nX : ∀ j, W.heap.size ≤ j → ¬ CS Bc Bp qs j := fun j hj h => by have := hC.lt h; omega
  have hS0 : (S55 Bc W.heap.size a y.t.v) ((W.alloc (Obj.cells #[.pointer (some ⟨Bc, 0, none⟩)] 63)).alloc (Obj.cells #[.int .i64 k, .int .i64 p, .int .i64 a, .int .i64 h] 56)).drew :=
    ⟨((Has.new W 63 _).alloc _).cell 0, (Has.newAt (w := W.alloc (Obj.cells #[.pointer (some ⟨Bc, 0, none⟩)] 63)) (by simp)).cell 2, ((hC.c.alloc _).alloc _).cell 0⟩
  have HS0 := Lib.hid hS0
  have hb0 : Below W.heap.size W ((W.alloc (Obj.cells #[.pointer (some ⟨Bc, 0, none⟩)] 63)).alloc (Obj.cells #[.int .i64 k, .int .i64 p, .int .i64 a, .int .i64 h] 56)).drew := Below.drew (Below.alloc (Below.alloc (Below.refl _ _) (Nat.le_refl _) _) (by simp) _)
  have hbx0 : Has ((W.alloc (Obj.cells #[.pointer (some ⟨Bc, 0, none⟩)] 63)).alloc (Obj.cells #[.int .i64 k, .int .i64 p, .int .i64 a, .int .i64 h] 56)).drew W.heap.size 63 #[.pointer (some ⟨Bc, 0, none⟩)] := (Has.new W 63 _).alloc _
  have HC := Lib.hid (And.intro hC (And.intro hps (And.intro hf (And.intro hva (And.intro hb0 (And.intro hbx0 nX))))))
  have hs0 : okS y.t := ⟨by omega, hf.h0⟩
  have hth : y.t.h ≤ 2199023255552 := by
    have := (volP_nn hf.ps).2
    simp only [hA] at hh this; omega
  have hT := fun W1 (hw : Has W1 Bc 70 (ccells y.t Bp qs.length y.r)) => take_any Bc 0 70 (ccells y.t Bp qs.length y.r) y.t a W1 hw rfl rfl hs0 hth h1 hs (by omega)
  have HT := Lib.hid hT
  have HN := Lib.hid (And.intro hs0 (And.intro hth (And.intro ha (And.intro hh (And.intro h1 (And.intro hs hv))))))
  have hlt : ¬ (y.t.v < a) := by omega
  clear hS0 hC hb0 hbx0 hps hf hva hT hs0 hth ha hh h1 hs hv nX
  refine callsIn_wide.1 (callsIn_of_wp_marks (n := 3) Try.func55 rfl trivial ?_ rfl)
  refine wpIn_wide.2 ?_
  simp only [Try.ntmps55, List.size_toArray, List.length_cons, List.length_nil, Nat.reduceAdd, Nat.reduceSub, Array.replicate_succ, Array.replicate_zero, List.push_toArray, List.append_toArray, List.nil_append, List.cons_append]
  go_wp2
  refine wp_region_noPanic ?_
  refine wp_region_late (S55 Bc W.heap.size a y.t.v) [] (by kernel_rfl) ?_
  refine wpLate_take (i := 0) (oi := ?oi0) (v := ?v0) [1, 2, 3, 4, 7] ?hi0 (by kernel_rfl) (by kernel_rfl) (by kernel_rfl) (by kernel_rfl) (by kernel_rfl) ?hQ0 (Or.inl ⟨?hw0, ?hy0⟩) HS0.out ?rest0
  case hi0 => (simp only [List.getElem?_toArray, List.getElem?_cons_zero]; rfl)
  case hQ0 => exact fun _ _ _ h => h
  case hw0 => rfl
  case hy0 =>
    intro w' hSw
    obtain ⟨r0, r1, r2⟩ := hSw
    go_simp
    try exact rfl
  simp only [Act.put, List.setIfInBounds_toArray, List.set_cons_zero, List.set_cons_succ]
  refine wpLate_take (i := 1) (oi := ?oi1) (v := ?v1) [2, 3, 4, 7] ?hi1 (by kernel_rfl) (by kernel_rfl) (by kernel_rfl) (by kernel_rfl) (by kernel_rfl) ?hQ1 (Or.inl ⟨?hw1, ?hy1⟩) HS0.out ?rest1
  case hi1 => (simp only [List.getElem?_toArray, List.getElem?_cons_zero, List.getElem?_cons_succ]; rfl)
  case hQ1 => exact fun _ _ _ h => h
  case hw1 => rfl
  case hy1 =>
    intro w' hSw
    obtain ⟨r0, r1, r2⟩ := hSw
    go_simp
    try exact rfl
  simp only [Act.put, List.setIfInBounds_toArray, List.set_cons_zero, List.set_cons_succ]
  refine wpLate_take (i := 2) (oi := ?oi2) (v := ?v2) [3, 4, 7] ?hi2 (by kernel_rfl) (by kernel_rfl) (by kernel_rfl) (by kernel_rfl) (by kernel_rfl) ?hQ2 (Or.inl ⟨?hw2, ?hy2⟩) HS0.out ?rest2
  case hi2 => (simp only [List.getElem?_toArray, List.getElem?_cons_zero, List.getElem?_cons_succ]; rfl)
  case hQ2 => exact fun _ _ _ h => h
  case hw2 => rfl
  case hy2 =>
    intro w' hSw
    obtain ⟨r0, r1, r2⟩ := hSw
    go_simp
    try exact rfl
  simp only [Act.put, List.setIfInBounds_toArray, List.set_cons_zero, List.set_cons_succ]
  refine wpLate_take (i := 3) (oi := ?oi3) (v := ?v3) [4, 7] ?hi3 (by kernel_rfl) (by kernel_rfl) (by kernel_rfl) (by kernel_rfl) (by kernel_rfl) ?hQ3 (Or.inl ⟨?hw3, ?hy3⟩) HS0.out ?rest3
  case hi3 => (simp only [List.getElem?_toArray, List.getElem?_cons_zero, List.getElem?_cons_succ]; rfl)
  case hQ3 => exact fun _ _ _ h => h
  case hw3 => rfl
  case hy3 =>
    intro w' hSw
    obtain ⟨r0, r1, r2⟩ := hSw
    go_simp
    try exact rfl
  simp only [Act.put, List.setIfInBounds_toArray, List.set_cons_zero, List.set_cons_succ]
  refine wpLate_take (i := 4) (oi := ?oi4) (v := ?v4) [7] ?hi4 (by kernel_rfl) (by kernel_rfl) (by kernel_rfl) (by kernel_rfl) (by kernel_rfl) ?hQ4 (Or.inl ⟨?hw4, ?hy4⟩) HS0.out ?rest4
  case hi4 => (simp only [List.getElem?_toArray, List.getElem?_cons_zero, List.getElem?_cons_succ]; rfl)
  case hQ4 => exact fun _ _ _ h => h
  case hw4 => rfl
  case hy4 =>
    intro w' hSw
    obtain ⟨r0, r1, r2⟩ := hSw
    go_simp
    try exact rfl
  simp only [Act.put, List.setIfInBounds_toArray, List.set_cons_zero, List.set_cons_succ]
  refine wpLate_take (i := 5) (oi := ?oi5) (v := ?v5) [6, 7] ?hi5 (by kernel_rfl) (by kernel_rfl) (by kernel_rfl) (by kernel_rfl) (by kernel_rfl) ?hQ5 (Or.inl ⟨?hw5, ?hy5⟩) HS0.out ?rest5
  case hi5 => (simp only [List.getElem?_toArray, List.getElem?_cons_zero, List.getElem?_cons_succ]; rfl)
  case hQ5 => exact fun _ _ _ h => h
  case hw5 => rfl
  case hy5 =>
    intro w' hSw
    obtain ⟨r0, r1, r2⟩ := hSw
    go_simp
    try exact rfl
  simp only [Act.put, List.setIfInBounds_toArray, List.set_cons_zero, List.set_cons_succ]
  refine wpLate_take (i := 6) (oi := ?oi6) (v := ?v6) [7] ?hi6 (by kernel_rfl) (by kernel_rfl) (by kernel_rfl) (by kernel_rfl) (by kernel_rfl) ?hQ6 (Or.inl ⟨?hw6, ?hy6⟩) HS0.out ?rest6
  case hi6 => (simp only [List.getElem?_toArray, List.getElem?_cons_zero, List.getElem?_cons_succ]; rfl)
  case hQ6 => exact fun _ _ _ h => h
  case hw6 => rfl
  case hy6 =>
    intro w' hSw
    obtain ⟨r0, r1, r2⟩ := hSw
    go_simp
    try exact rfl
  simp only [Act.put, List.setIfInBounds_toArray, List.set_cons_zero, List.set_cons_succ]
  refine wpLate_take (i := 7) (oi := ?oi7) (v := ?v7) [] ?hi7 (by kernel_rfl) (by kernel_rfl) (by kernel_rfl) (by kernel_rfl) (by kernel_rfl) ?hQ7 (Or.inl ⟨?hw7, ?hy7⟩) HS0.out ?rest7
  case hi7 => (simp only [List.getElem?_toArray, List.getElem?_cons_zero, List.getElem?_cons_succ]; rfl)
  case hQ7 => exact fun _ _ _ h => h
  case hw7 => rfl
  case hy7 =>
    intro w' hSw
    obtain ⟨r0, r1, r2⟩ := hSw
    go_simp
    try exact rfl
  simp only [Act.put, List.setIfInBounds_toArray, List.set_cons_zero, List.set_cons_succ]
  refine wpLate_done (by kernel_rfl) ?_ _
  refine NoPanic.normal ?_
  try simp only [Act.put, List.setIfInBounds_toArray, List.set_cons_zero, List.set_cons_succ]
  go_wp2
  have hS3 : (S55b Bc W.heap.size a) ((W.alloc (Obj.cells #[.pointer (some ⟨Bc, 0, none⟩)] 63)).alloc (Obj.cells #[.int .i64 k, .int .i64 p, .int .i64 a, .int .i64 h] 56)).drew.drew := ⟨HS0.out.1, HS0.out.2.1⟩
  refine wp_region_noPanic ?_
  refine wp_region_late (S55b Bc W.heap.size a) [] (by kernel_rfl) ?_
  refine wpLate_take (i := 0) (oi := ?boi0) (v := ?bv0) [1, 2, 5, 6, 7] ?bhi0 (by kernel_rfl) (by kernel_rfl) (by kernel_rfl) (by kernel_rfl) (by kernel_rfl) ?bhQ0 (Or.inl ⟨?bhw0, ?bhy0⟩) hS3 ?brest0
  case bhi0 => (simp only [List.getElem?_toArray, List.getElem?_cons_zero]; rfl)
  case bhQ0 => exact fun _ _ _ h => h
  case bhw0 => rfl
  case bhy0 =>
    intro w' hSw
    obtain ⟨r0, r1⟩ := hSw
    go_simp
    try exact rfl
  simp only [Act.put, List.setIfInBounds_toArray, List.set_cons_zero, List.set_cons_succ]
  refine wpLate_take (i := 1) (oi := ?boi1) (v := ?bv1) [2, 5, 6, 7] ?bhi1 (by kernel_rfl) (by kernel_rfl) (by kernel_rfl) (by kernel_rfl) (by kernel_rfl) ?bhQ1 (Or.inl ⟨?bhw1, ?bhy1⟩) hS3 ?brest1
  case bhi1 => (simp only [List.getElem?_toArray, List.getElem?_cons_zero, List.getElem?_cons_succ]; rfl)
  case bhQ1 => exact fun _ _ _ h => h
  case bhw1 => rfl
  case bhy1 =>
    intro w' hSw
    obtain ⟨r0, r1⟩ := hSw
    go_simp
    try exact rfl
  simp only [Act.put, List.setIfInBounds_toArray, List.set_cons_zero, List.set_cons_succ]
  refine wpLate_take (i := 2) (oi := ?boi2) (v := ?bv2) [5, 6, 7] ?bhi2 (by kernel_rfl) (by kernel_rfl) (by kernel_rfl) (by kernel_rfl) (by kernel_rfl) ?bhQ2 (Or.inl ⟨?bhw2, ?bhy2⟩) hS3 ?brest2
  case bhi2 => (simp only [List.getElem?_toArray, List.getElem?_cons_zero, List.getElem?_cons_succ]; rfl)
  case bhQ2 => exact fun _ _ _ h => h
  case bhw2 => rfl
  case bhy2 =>
    intro w' hSw
    obtain ⟨r0, r1⟩ := hSw
    go_simp
    try exact rfl
  simp only [Act.put, List.setIfInBounds_toArray, List.set_cons_zero, List.set_cons_succ]
  refine wpLate_take (i := 3) (oi := ?boi3) (v := ?bv3) [4, 5, 6, 7] ?bhi3 (by kernel_rfl) (by kernel_rfl) (by kernel_rfl) (by kernel_rfl) (by kernel_rfl) ?bhQ3 (Or.inl ⟨?bhw3, ?bhy3⟩) hS3 ?brest3
  case bhi3 => (simp only [List.getElem?_toArray, List.getElem?_cons_zero, List.getElem?_cons_succ]; rfl)
  case bhQ3 => exact fun _ _ _ h => h
  case bhw3 => rfl
  case bhy3 =>
    intro w' hSw
    obtain ⟨r0, r1⟩ := hSw
    go_simp
    try exact rfl
  simp only [Act.put, List.setIfInBounds_toArray, List.set_cons_zero, List.set_cons_succ]
  refine wpLate_take (i := 4) (oi := ?boi4) (v := ?bv4) [5, 6, 7] ?bhi4 (by kernel_rfl) (by kernel_rfl) (by kernel_rfl) (by kernel_rfl) (by kernel_rfl) ?bhQ4 (Or.inl ⟨?bhw4, ?bhy4⟩) hS3 ?brest4
  case bhi4 => (simp only [List.getElem?_toArray, List.getElem?_cons_zero, List.getElem?_cons_succ]; rfl)
  case bhQ4 => exact fun _ _ _ h => h
  case bhw4 => rfl
  case bhy4 =>
    intro w' hSw
    obtain ⟨r0, r1⟩ := hSw
    go_simp
    try exact rfl
  simp only [Act.put, List.setIfInBounds_toArray, List.set_cons_zero, List.set_cons_succ]
  refine wpLate_one (i := 5) (o := ?o5) (by kernel_rfl) ?ho5 ?hk5
  case ho5 => (simp only [List.getElem?_toArray, List.getElem?_cons_zero, List.getElem?_cons_succ]; rfl)
  intro K hK
  go_simp
  refine (HT.out _ (Has.drew (Has.drew (Has.alloc (Has.alloc HC.out.1.c _) _)))).mono ?_
  rintro e w1 ⟨rfl, ho, hw⟩
  have hS31 : (S55b Bc W.heap.size a) w1 := ⟨cell_only hS3.1 ho (fun e => by dsimp only at e; omega), cell_only hS3.2 ho (fun e => by dsimp only at e; omega)⟩
  have hw2 : Has w1 Bc 70 (ccells (takeR y.t a) Bp qs.length y.r) := hw
  have ho2 : Only (fun k => k = Bc) W w1 := by
    obtain ⟨hC, hps, hf, hva, hb0, hbx0, nX⟩ := HC.out
    exact Only.from_ (Only.drew (Only.of_below hb0)) ho (fun _ _ h => h)
  obtain ⟨k1, k2⟩ := HC.out.1.own (t' := takeR y.t a) (r' := y.r) hw2 ho2
  have hbx1 : Has w1 W.heap.size 63 #[.pointer (some ⟨Bc, 0, none⟩)] := (HC.out.2.2.2.2.2.1.drew).only ho (fun e => by omega)
  have hW1 := ho.size
  simp only [World.size_drew, World.size_alloc] at hW1
  have K1 := Lib.hid (And.intro k1 (And.intro k2 hbx1))
  refine hK.out _ _ (fun _ => hS31) ?_
  clear hK K hw hw2 ho ho2 k1 k2 hbx1
  try simp only [Act.put, List.setIfInBounds_toArray, List.set_cons_zero, List.set_cons_succ]
  refine wpLate_one (i := 6) (o := ?o6) (by kernel_rfl) ?ho6 ?hk6
  case ho6 => (simp only [List.getElem?_toArray, List.getElem?_cons_zero, List.getElem?_cons_succ]; rfl)
  intro K hK
  go_simp
  refine (one_any (takeO y.t a) w1).mono ?_
  rintro e w2 ⟨vf, rfl, hb2, b, rfl, hf1, hf2⟩
  have hS32 := hS31.below hb2
  refine hK.out _ _ (fun _ => hS32) ?_
  clear hK K
  try simp only [Act.put, List.setIfInBounds_toArray, List.set_cons_zero, List.set_cons_succ]
  refine wpLate_one (i := 7) (o := ?o7) (by kernel_rfl) ?ho7 ?hk7
  case ho7 => (simp only [List.getElem?_toArray, List.getElem?_cons_zero, List.getElem?_cons_succ]; rfl)
  intro K hK
  go_simp
  refine hK.out _ _ (fun _ => hS32) ?_
  clear hK K
  try simp only [Act.put, List.setIfInBounds_toArray, List.set_cons_zero, List.set_cons_succ]
  refine wpLate_done (by kernel_rfl) ?_ _
  refine NoPanic.normal ?_
  try simp only [Act.put, List.setIfInBounds_toArray, List.set_cons_zero, List.set_cons_succ]
  have hflow0 : FlowAt Bp 0 (takeO y.t a) (.func (.func 73) #[] #[.pointer (some ⟨b, 0, none⟩)]) w2 (CS Bc Bp qs) := ⟨b, rfl, hf1, HC.out.2.2.2.2.2.2 b (by omega)⟩
  have hC2 : Circ w2 Bc Bp (takeR y.t a) qs y.r := K1.out.1.below hb2
  have hbx2 : Has w2 W.heap.size 63 #[.pointer (some ⟨Bc, 0, none⟩)] := K1.out.2.2.below hb2 (by omega)
  have hM2 : Mv Bc Bp W qs w2 qs := K1.out.2.1.trans (Mv.below hb2) HC.out.1
  have hW2 := hb2.size
  have K2 := Lib.hid (And.intro hflow0 (And.intro hC2 (And.intro hbx2 hM2)))
  have z0 : w2.cell? ⟨W.heap.size, 0, none⟩ = some (.pointer (some ⟨Bc, 0, none⟩)) := hbx2.cell 0
  have z1 : w2.cell? ⟨Bc, 2, none⟩ = some (.slice (some ⟨Bp, 0, none⟩) qs.length qs.length) := hC2.c.cell 2
  clear hS31 hS32 hS3 hflow0 hC2 hbx2 hM2 hf1 hf2 hb2 HS0
  go_wp2
  go_loopw [4, 28] (fun v i wr => ∃ j : Nat, j ≤ qs.length ∧ i = .int .i64 j ∧ (∃ f ca, v = .func (.func f) #[] ca ∧ FlowAt Bp j (takeO y.t a) (.func (.func f) #[] ca) wr (CS Bc Bp qs)) ∧ Below w2.heap.size w2 wr) (fun _ i _ => qs.length - (intOf i).toNat)
  case atStart => exact ⟨0, Nat.zero_le _, rfl, ⟨_, _, rfl, K2.out.1⟩, Below.refl _ _⟩
  case round =>
    obtain ⟨j, hj, rfl, ⟨f, ca, rfl, hfl⟩, hbw⟩ := hrel
    have HF := Lib.hid (And.intro hfl hbw)
    have y0 : wr.cell? ⟨W.heap.size, 0, none⟩ = some (.pointer (some ⟨Bc, 0, none⟩)) := cell_below z0 hbw
    have y1 : wr.cell? ⟨Bc, 2, none⟩ = some (.slice (some ⟨Bp, 0, none⟩) qs.length qs.length) := cell_below z1 hbw
    clear hfl hbw
    by_cases hlt : j < qs.length
    · have hlt' : (j : Int) < qs.length := by omega
      go_wp2_with (go_at_call 69; refine (pass_any ⟨Bp, j * 2, none⟩ (.func f) #[] ca _).mono ?_; rintro e w3 ⟨v3, rfl, hb3, bi, bq, rfl, hi3, hq3, hbi, hbq⟩)
      have hs := HF.out.2.size
      have hfl3 : FlowAt Bp (j + 1) (takeO y.t a) (.func (.func 74) #[] #[.pointer (some ⟨bi, 0, none⟩), .pointer (some ⟨bq, 0, none⟩)]) w3 (CS Bc Bp qs) :=
        ⟨bi, bq, f, ca, rfl, hi3, hq3, HC.out.2.2.2.2.2.2 _ (by omega), HC.out.2.2.2.2.2.2 _ (by omega), HF.out.1.mv (Mv.below hb3)⟩
      have HG := Lib.hid (And.intro hfl3 (HF.out.2.trans (hb3.mono hs)))
      clear hi3 hq3 hbi hbq hb3 hfl3
      go_roundw
      case rel => exact ⟨j + 1, by omega, by go_num, ⟨_, _, rfl, HG.out.1⟩, HG.out.2⟩
      case measure => simp [intOf]; omega
    · obtain rfl : j = qs.length := by omega
      have HF2 := Lib.hid HF.out
      clear y0 y1
      go_wp2
      refine wpIn_wide.1 (wpIn_range_outer (n := 3) rfl ?ef ?hr)
      case ef =>
        obtain ⟨h1, _⟩ := HF2.out
        cases hn : qs.length with
        | zero => rw [hn] at h1; obtain ⟨b', hv, _⟩ := h1; cases hv; exact enters73
        | succ m => rw [hn] at h1; obtain ⟨_, _, _, _, hv, _⟩ := h1; cases hv; exact enters74
      case hr =>
        intro fn
        obtain ⟨hfl, hbw⟩ := HF2.out
        obtain ⟨hf0, hC2, hbx2, hM2⟩ := K2.out
        obtain ⟨hC, hps, hf, hva, hb0, hbx0, nX⟩ := HC.out
        obtain ⟨hs0, hth, ha, hh, h1, hs, hv⟩ := HN.out
        have hbr : ∀ o, Below w2.heap.size w2 ((wr.alloc (.deferred (some []))).alloc o) := fun o => hbw.trans (((Below.refl _ _).alloc (Nat.le_refl _) _).alloc (by simp) _ |>.mono hbw.size)
        have hbr2 : ∀ o, Below wr.heap.size wr ((wr.alloc (.deferred (some []))).alloc o) := fun o => (((Below.refl _ _).alloc (Nat.le_refl _) _).alloc (by simp) _)
        have hTk : ∀ (u0 u1 u3 u4 u5 u6 u7 u8 u9 u10 u11 u12 u13 u14 u15 u16 u17 u18 u19 u20 u21 u22 u23 u24 u25 u26 u27 u28 u29 u30 u31 u32 u33 u34 u35 u36 u37 u38 u39 u40 u41 u42 u43 u44 u45 u46 : Value) (A B : Code), some (A, B) = (Try.f55.body.map loopParts).bind (·[0]?) →
            TakerT (wr.heap.size + 1) qs.length Bc Bp ((wr.alloc (.deferred (some []))).alloc (.loop (recAt fn #[u0, u1, .pointer (some ⟨W.heap.size, 0, none⟩), u3, u4, u5, u6, u7, u8, u9, u10, u11, u12, u13, u14, u15, u16, u17, u18, u19, u20, u21, u22, u23, u24, u25, u26, u27, u28, u29, u30, u31, u32, u33, u34, u35, u36, u37, u38, u39, u40, u41, u42, u43, u44, u45, u46] #[41] A B wr.heap.size))) qs toTank tankOk := by
          intro u0 u1 u3 u4 u5 u6 u7 u8 u9 u10 u11 u12 u13 u14 u15 u16 u17 u18 u19 u20 u21 u22 u23 u24 u25 u26 u27 u28 u29 u30 u31 u32 u33 u34 u35 u36 u37 u38 u39 u40 u41 u42 u43 u44 u45 u46 A B hAB W1 qs1 hd1 y1 s1 hk1 hM1 hH1 hs1 hg1
          have hl := World.alloc_heap_new (wr.alloc (.deferred (some []))) (.loop (recAt fn #[u0, u1, .pointer (some ⟨W.heap.size, 0, none⟩), u3, u4, u5, u6, u7, u8, u9, u10, u11, u12, u13, u14, u15, u16, u17, u18, u19, u20, u21, u22, u23, u24, u25, u26, u27, u28, u29, u30, u31, u32, u33, u34, u35, u36, u37, u38, u39, u40, u41, u42, u43, u44, u45, u46] #[41] A B wr.heap.size))
          rw [World.size_alloc] at hl
          have hlr := hM1.block hl (fun h => by have := (hC2.below hbw).lt h; omega)
          have hbx1 := (hbx2.below (hbr _) hbx2.lt).only hM1.only (nX _ (Nat.le_refl _))
          exact round55 fn (wr.heap.size + 1) W.heap.size _ Bc Bp hd1 qs1 y1 s1 W1 _ _ _ _ _ _ _ _ _ _ _ _ _ _ _ _ _ _ _ _ _ _ _ _ _ _ _ _ _ _ _ _ _ _ _ _ _ _ _ _ _ _ _ _ _ _ hAB hlr hbx1 (by omega) hH1 hg1
        have hTO := takeO_ok hs0 h1 hs
        have hpb := part_bd hs0.2 (by omega : 0 ≤ a) hs0.1 hs
        have hlen : y.ps.length = qs.length := by rw [← hps]; simp
        have hFK : FOk (y.ps, takeR y.t a) := ⟨hf.ps, by simp only [takeR]; omega, by simp only [takeR]; omega⟩
        have hLG : LG qs.length toTank tankOk ⟨qs.map Qu.pp, takeR y.t a, y.r⟩ (takeO y.t a) := by
          rw [hps]
          refine LG_flow qs.length y.ps (takeR y.t a) y.r (takeO y.t a) hlen hFK hTO (by simp only [takeO]; omega) ?_ ?_
          · simp only [hA, takeR, takeO] at hh ⊢; omega
          · simp only [vA, takeR, takeO] at hva ⊢; omega
        obtain ⟨f', ca', hv', ef', hc⟩ := flow_any Bc Bp qs.length (takeO y.t a) (.func (.func f) #[] ca) (wr.heap.size + 1) _ qs (takeR y.t a) y.r toTank tankOk (hfl.mv (Mv.below (hbr2 _))) (hC2.below (hbr _)) (hTk _ _ _ _ _ _ _ _ _ _ _ _ _ _ _ _ _ _ _ _ _ _ _ _ _ _ _ _ _ _ _ _ _ _ _ _ _ _ _ _ _ _ _ _ _ _ _ _ rfl) hLG hTO
        cases hv'
        refine (callsIn_wide.2 (callsIn_wide.1 hc)).mono ?_
        rintro e W3 ⟨h1', qs3, h2, h3⟩
        have nl : ∀ j, wr.heap.size ≤ j → ¬ CS Bc Bp qs j := fun j hj h => by have := (hC2.below hbw).lt h; omega
        refine ⟨h1', h2.block (rec_heap _ _ _) (nl _ (by omega)), fun rr => ?_⟩
        have hd3 : W3.heap[wr.heap.size]? = some (.deferred (some [])) := h2.block ((Below.heap_alloc _ _ _ (by simp)).trans (World.alloc_heap_new wr _)) (nl _ (Nat.le_refl _))
        have hlx : ∃ o : Loop, W3.heap[wr.heap.size + 1]? = some (.loop o) := ⟨_, h2.block (rec_heap _ _ _) (nl _ (by omega))⟩
        obtain ⟨o3, hl3⟩ := hlx
        have hd4 : (W3.putObj (wr.heap.size + 1) (.loop rr)).heap[wr.heap.size]? = some (.deferred (some [])) := (World.putObj_heap_other (by omega)).trans hd3
        have hbs := hbw.size
        have hfin : DonePost Bc Bp W qs (toY (flowN qs.length (y.ps, takeR y.t a) (takeO y.t a)) y.r) (.returned (.tuple #[])) ((W3.putObj (wr.heap.size + 1) (.loop rr)).putObj wr.heap.size (.deferred none)) := by
          rw [hps, LF_flow qs.length y.ps (takeR y.t a) y.r (takeO y.t a) hlen] at h3
          refine ⟨⟨_, rfl⟩, qs3, ?_, (h3.put hl3 (fun _ _ _ e => by cases e) _).put hd4 (fun _ _ _ e => by cases e) _⟩
          exact (((hM2.trans (Mv.below (hbr _)) hC).trans h2 hC).put (by omega) _).put (by omega) _
        refine ⟨by simp, .inl ⟨_, _, rfl, run_takeDeferred hd4, ?_⟩⟩
        exact ⟨_, results_none rfl _ _ _, hfin⟩
end Go.Proofs.Ytjfopmjphiddiaa
