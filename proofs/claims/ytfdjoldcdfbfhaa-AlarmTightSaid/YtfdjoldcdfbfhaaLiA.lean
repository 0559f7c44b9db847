/- The example's voting; alive. -/
import Derived.Test.YtfdjoldcdfbfhaaQuD
import Derived.Laws.StructEq
namespace Go.Proofs.Ytfdjoldcdfbfhaa
open Go.Shelf Go.RowKit
def exL : List Sn := [⟨0, 2, 5⟩, ⟨1, 3, 4⟩, ⟨0, 5, 2⟩]
theorem ex1 : worstR exL 2 1 50 10 1 30 = (91, 4, 0) := by decide +kernel
theorem ex2 : bestR exL 1 100 10 30 1 30 = (2, (36, 58), 0) := by decide +kernel
def SamplePost (f : Int) (W : World) (e : Ending) (W' : World) : Prop :=
  ∃ g, e = .returned (vtv (some ⟨g, 0, none⟩) exL.length 3 2 f) ∧ Below W.heap.size W W' ∧ W.heap.size ≤ g ∧ NRow W' W'.heap.size (some ⟨g, 0, none⟩) exL
theorem nrow_flat {w : World} {g : Nat} {t : TypeId} {l : List Sn} (h : Has w g t (snl l).toArray) : NRow w w.heap.size (some ⟨g, 0, none⟩) l := fun k hk => by
  have y := fun i hi => flat_get sn3 3 (fun _ => rfl) l k hk i hi
  refine ⟨g, 0, rfl, h.lt, ?_, ?_, ?_⟩ <;> rw [Nat.zero_add, h.cell, List.getElem?_toArray]
  · exact y 0 (by omega)
  · exact y 1 (by omega)
  · exact y 2 (by omega)
set_option maxRecDepth 100000 in
set_option maxHeartbeats 1000000 in
theorem sample_any (f : Int) (W : World) : Calls Try.prog 25 #[.int .i64 f] W (SamplePost f W) := by
  go_enter Try.func25, Try.ntmps25
  go_wp2
  have h0 := Has.new W 24 #[.slice (some ⟨W.heap.size + 1, 0, none⟩) 3 3, .int .i64 2, .int .i64 f]
  have h1 := h0.alloc (.cells #[.int .i64 0, .int .i64 2, .int .i64 5, .int .i64 1, .int .i64 3, .int .i64 4, .int .i64 0, .int .i64 5, .int .i64 2] 56)
  have h2 := Has.new (W.alloc (.cells #[.slice (some ⟨W.heap.size + 1, 0, none⟩) 3 3, .int .i64 2, .int .i64 f] 24)) 56 #[.int .i64 0, .int .i64 2, .int .i64 5, .int .i64 1, .int .i64 3, .int .i64 4, .int .i64 0, .int .i64 5, .int .i64 2]
  simp only [World.size_alloc] at h2
  have hb := (below_one W (.cells #[.slice (some ⟨W.heap.size + 1, 0, none⟩) 3 3, .int .i64 2, .int .i64 f] 24)).alloc (Nat.le_of_lt (by simp)) (.cells #[.int .i64 0, .int .i64 2, .int .i64 5, .int .i64 1, .int .i64 3, .int .i64 4, .int .i64 0, .int .i64 5, .int .i64 2] 56)
  generalize (W.alloc (.cells #[.slice (some ⟨W.heap.size + 1, 0, none⟩) 3 3, .int .i64 2, .int .i64 f] 24)).alloc (.cells #[.int .i64 0, .int .i64 2, .int .i64 5, .int .i64 1, .int .i64 3, .int .i64 4, .int .i64 0, .int .i64 5, .int .i64 2] 56) = w2 at h1 h2 hb ⊢
  have q0 := h1.cell 0
  have q1 := h1.cell 1
  have q2 := h1.cell 2
  simp at q0 q1 q2
  refine bodyPost_ret (v := .agg #[.slice (some ⟨W.heap.size + 1, 0, none⟩) 3 3, .int .i64 2, .int .i64 f]) (by simp [results, Try.results25, go_sem, q0, q1, q2]) rfl ?_
  exact ⟨W.heap.size + 1, rfl, hb, by omega, nrow_flat (l := exL) h2⟩
theorem Try.stood38 : Try.prog.stoodInHeld 38 = false := by kernel_rfl
theorem Try.fields38 : Try.prog.underlying 38 = some (.struct (Try.prog.fieldsOf 38)) := by kernel_rfl
theorem equal38 (n : Nat) (a b c d : Int) (w : World) : (Op.equalIn (n + 2) 38 (.agg #[.int .i64 a, .int .i64 b]) (.agg #[.int .i64 c, .int .i64 d])).run Try.prog w = .ok (decide (a = c ∧ b = d)) w := by
  rw [run_equalIn_struct w (n + 1) 38 _ _ Try.fields38 Try.stood38]
  simp [Program.fieldsOf, Try.underlying38, Op.eqFields, go_sem]
  split
  · split <;> simp_all
  · simp_all
theorem field24 (v a b : Value) (w : World) : (Instr.field 24 (.agg #[v, a, b]) 0).run Try.prog w = .ok v w := by
  simp [Instr.field, asAgg, go_sem]
theorem eql38 (a b c d : Int) (w : World) : (binOp .eql 38 (.agg #[.int .i64 a, .int .i64 b]) (.agg #[.int .i64 c, .int .i64 d])).run Try.prog w = .ok (.bool (decide (a = c ∧ b = d))) w := by
  rw [run_eql_struct, equal38 9998]; rfl
set_option maxRecDepth 100000 in
set_option maxHeartbeats 2000000 in
theorem alive_any (W : World) : Calls Try.prog 13 #[] W (BoolPost true W) := by
  have hw : ∀ (A : Option Addr) w, NRow w w.heap.size A exL → Calls Try.prog 19 #[vtv A exL.length 3 2 1, .int .i64 50, .int .i64 10, .int .i64 1, .int .i64 30] w (TripPost (91, 4, 0) w) := fun A w h => by
    have := Worst_any exL A 3 2 1 50 10 1 30 w h (by decide)
    rwa [ex1] at this
  have hb : ∀ (A : Option Addr) w, NRow w w.heap.size A exL → Calls Try.prog 23 #[.slice A exL.length 3, .int .i64 1, .int .i64 100, .int .i64 10, .int .i64 30, .int .i64 1, .int .i64 30] w (BestPost (2, (36, 58), 0) w) := fun A w h => by
    have := Best_any exL A 3 1 100 10 30 1 30 w h (by decide)
    rwa [ex2] at this
  have heq : ∀ w, (binOp .eql 38 (.agg #[.int .i64 36, .int .i64 58]) (.agg #[.int .i64 36, .int .i64 58])).run Try.prog w = .ok (.bool true) w := fun w => by rw [eql38]; rfl
  have hfd : ∀ g n (a b : Value) w, (Instr.field 24 (.agg #[.slice (some ⟨g, 0, none⟩) n 3, a, b]) 0).run Try.prog w = .ok (.slice (some ⟨g, 0, none⟩) n 3) w := fun g n a b w => field24 _ a b w
  obtain ⟨n, hn⟩ : ∃ n, n = exL.length := ⟨_, rfl⟩
  have hs := fun w => sample_any 1 w
  unfold SamplePost at hs
  rw [← hn] at hw hb hs
  unfold vtv at hw hs
  have HW := Lib.hid hw
  have HB := Lib.hid hb
  clear hw hb hn
  go_enter Try.func13, Try.ntmps13
  go_wp2_with fail
  refine (hs _).mono ?_
  rintro e w1 ⟨g, rfl, hb1, -, hr1⟩
  have H1 := Lib.hid (And.intro hb1 hr1)
  clear hb1 hr1
  go_wp2_with fail
  refine (HW.out _ _ H1.out.2).mono ?_
  rintro e w2 ⟨rfl, hb2⟩
  have H2 := Lib.hid (H1.out.1.trans (hb2.mono H1.out.1.size))
  clear hb2
  go_wp2_with fail
  refine (hs _).mono ?_
  rintro e w3 ⟨g, rfl, hb3, -, hr3⟩
  have H3 := Lib.hid (And.intro (H2.out.trans (hb3.mono H2.out.size)) hr3)
  clear hb3 hr3
  go_wp2_with fail
  refine (HB.out _ _ H3.out.2).mono ?_
  rintro e w4 ⟨rfl, hb4⟩
  have H4 := Lib.hid (H3.out.1.trans (hb4.mono H3.out.1.size))
  clear hb4
  go_wp2_with fail
  go_ret
  exact ⟨rfl, H4.out.alloc (by have := H4.out.size; omega) _⟩
end Go.Proofs.Ytfdjoldcdfbfhaa
