/- great, and the document's in, Brine, plus. -/
import Derived.Test.YtjfopmjphiddiaaMgR
namespace Go.Proofs.Ytjfopmjphiddiaa
open Go.RowKit Go.Shelf
def greatB (ps : List Pp) : Bool := decide (12 < ps.length) || ps.any fun p => decide (20 < p.l.length)
theorem great_not {ps : List Pp} (h : greatB ps = false) : ps.length ≤ 12 ∧ ∀ p ∈ ps, p.l.length ≤ 20 := by
  simp only [greatB, Bool.or_eq_false_iff, decide_eq_false_iff_not, List.any_eq_false, decide_eq_true_eq] at h
  exact ⟨by omega, fun p hp => by have := h.2 p hp; omega⟩
abbrev bcells (t : Sl) (A : Option Addr) (n cap : Nat) (heat hroom : Int) : Array Value := #[.int .i64 t.v, .int .i64 t.h, .slice A n cap, .int .i64 heat, .int .i64 hroom]
set_option maxRecDepth 100000 in
set_option maxHeartbeats 1000000 in
theorem great_any (t : Sl) (ps : List Pp) (heat hroom : Int) (A : Option Addr) (cap : Nat) (W : World) (hr : PRow W W.heap.size A ps) (hl : ps.length ≤ 9223372036854775807) :
    Calls Try.prog 12 #[brv t A ps.length cap heat hroom] W fun e W' => e = .returned (.bool (greatB ps)) ∧ Below W.heap.size W W' := by
  have HR := Lib.hid hr
  have hx0 : Has (W.alloc (Obj.cells (bcells t A ps.length cap heat hroom) 26)) W.heap.size 26 (bcells t A ps.length cap heat hroom) := Has.new _ _ _
  have H0 := Lib.hid (And.intro (below_one W (Obj.cells (bcells t A ps.length cap heat hroom) 26)) hx0)
  clear hr hx0
  go_enter Try.func12, Try.ntmps12
  go_wp2_with fail
  go_loopw [3] (fun i wr => ∃ k : Nat, k ≤ ps.length ∧ k ≤ 13 ∧ i = .int .i64 k ∧ Hid ((Below W.heap.size W wr ∧ Has wr W.heap.size 26 (bcells t A ps.length cap heat hroom)) ∧ (ps.take k).any (fun p => decide (20 < p.l.length)) = false)) (fun i _ => ps.length - (intOf i).toNat)
  case atStart => exact ⟨0, Nat.zero_le _, by omega, rfl, H0.out, rfl⟩
  case round =>
    obtain ⟨k, hk, hk13, rfl, HB⟩ := hrel
    have e2 : wr.cell? ⟨W.heap.size, 2, none⟩ = some (.slice A ps.length cap) := HB.out.1.2.cell 2
    have hwl := HB.out.1.2.lt
    by_cases hlt : k < ps.length
    · have hlt' : (k : Int) < ps.length := by omega
      by_cases h13 : k < 13
      · have h13' : (k : Int) < 13 := by omega
        obtain ⟨g, o, A', cap', eA, hg, d0, d1, hs⟩ := (HR.out.below HB.out.1.1) k hlt
        have hgw : g < wr.heap.size := by omega
        subst eA
        obtain ⟨p, hp⟩ : ∃ p, p = ps[k] := ⟨_, rfl⟩
        rw [← hp] at d0 d1 hs
        have HP := Lib.hid hp
        clear hs hp
        by_cases h20 : 20 < p.l.length
        · have h20' : (20 : Int) < p.l.length := by omega
          have hG : Hid (greatB ps = true) := by
            show _ = _
            unfold greatB
            rw [Bool.or_eq_true]; right
            rw [List.any_eq_true]
            exact ⟨p, by rw [HP.out]; exact List.getElem_mem hlt, by simpa using h20⟩
          go_wp2_with fail
          go_ret
          rw [hG.out]; exact ⟨rfl, HB.out.1.1⟩
        · have h20' : decide ((20 : Int) < p.l.length) = false := by simp; omega
          have hN : Hid ((ps.take (k + 1)).any (fun p => decide (20 < p.l.length)) = false) := by
            show _ = _
            rw [List.take_succ_eq_append_getElem hlt, List.any_append, HB.out.2, ← HP.out]
            simp; omega
          go_wp2_with fail
          go_roundw
          case rel => exact ⟨k + 1, by omega, by omega, by go_num, HB.out.1, hN.out⟩
          case measure => simp [intOf]; omega
      · have h13' : decide ((k : Int) < 13) = false := by simp; omega
        have hG : Hid (greatB ps = true) := by
          show _ = _
          unfold greatB
          rw [Bool.or_eq_true]; left
          simp; omega
        have h12 : (12 : Int) < ps.length := by omega
        have h13n : ¬ (k : Int) < 13 := by omega
        go_wp2_with fail
        go_ret
        rw [hG.out]; exact ⟨rfl, HB.out.1.1⟩
    · have hk' : ¬ (k : Int) < ps.length := by omega
      have hke : k = ps.length := by omega
      have hall := HB.out.2
      rw [List.take_of_length_le (by omega)] at hall
      have hG : Hid (greatB ps = decide ((12 : Int) < ps.length)) := by
        show _ = _
        unfold greatB
        rw [hall, Bool.or_false]
        rw [decide_eq_decide]; omega
      clear hall hke
      go_wp2_with fail
      go_ret
      rw [hG.out]; exact ⟨rfl, HB.out.1.1⟩
/-- a sum of slugs returned -/
theorem plus_any (a b : Sl) (W : World) (h1 : -4611686018427387904 ≤ a.v + b.v ∧ a.v + b.v ≤ 4611686018427387904) (h2 : -4611686018427387904 ≤ a.h + b.h ∧ a.h + b.h ≤ 4611686018427387904) :
    Calls Try.prog 49 #[slv a, slv b] W fun e W' => e = .returned (slv (a.add b)) ∧ Below W.heap.size W W' := by
  have k1 : IntKind.i64.wrap (a.v + b.v) = a.v + b.v := IntWalk.i64_in _ (by omega)
  have k2 : IntKind.i64.wrap (a.h + b.h) = a.h + b.h := IntWalk.i64_in _ (by omega)
  clear h1 h2
  go_enter Try.func49, Try.ntmps49
  go_wp2
  refine bodyPost_ret (v := slv (a.add b)) (by simp [results, Try.results49, go_sem, Sl.add]) rfl ⟨rfl, ?_⟩
  exact ((below_one _ _).alloc (by simp) _).alloc (by simp; omega) _
end Go.Proofs.Ytjfopmjphiddiaa
