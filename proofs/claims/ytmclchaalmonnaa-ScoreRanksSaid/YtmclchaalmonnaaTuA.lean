/- Contracts: turned. -/
import Derived.Test.YtmclchaalmonnaaRkB
namespace Go.Proofs.Ytmclchaalmonnaa
open Go.RowKit Go.Lib
attribute [local irreducible] wpQuiet
def turnN (l : List Int) (n : Nat) : List Int := (List.range l.length).map fun i => l.getD ((i + n) % l.length) 0
theorem turnN_len (l : List Int) (n : Nat) : (turnN l n).length = l.length := by simp [turnN]
/-- an own row of numbers -/
def TuPost (r : List Int) (W : World) (e : Ending) (W' : World) : Prop := ∃ A c, e = .returned (.slice A r.length c) ∧ W'.ownsRow W.heap.size 3 1 (.slice A r.length c) r.length (ivl r) ∧ Below W.heap.size W W'
set_option maxRecDepth 100000 in
set_option maxHeartbeats 1000000 in
theorem turned_any (l : List Int) (A : Option Addr) (c n : Nat) (W : World) (ha : IRow W W.heap.size A l) (hl : l.length ≤ 1000) (hn : n ≤ 1000) :
    Calls Try.prog 28 #[.slice A l.length c, .int .i64 n] W (TuPost (turnN l n) W) := by
  have HA := Lib.hid ha
  obtain ⟨i0, hi, hz0, hz1, hz2⟩ := info_parts Try.info3
  have HLN := Lib.hid (turnN_len l n)
  clear ha
  go_enter Try.func28, Try.ntmps28
  go_wp2_with fail
  go_loopg [5, 9] l.length (fun gk u i wr => ∃ k : Nat, k ≤ l.length ∧ l.length - k ≤ gk ∧ i = .int .i64 k ∧ ∃ U cu, u = .slice U k cu ∧ Hid (DR W wr W.heap.size (.slice U k cu) k ((turnN l n).take k)))
  case atStart => exact ⟨0, Nat.zero_le _, Nat.le_refl _, rfl, none, 0, rfl, Lib.hid ⟨Below.refl _ _, own_nil _ _ _ _, Nat.le_refl _⟩⟩
  case round =>
    obtain ⟨k, hk, hgk, rfl, U, cu, rfl, HW⟩ := hrel
    by_cases hlt : k < l.length
    rotate_left
    · have hge : ¬ (k : Int) < l.length := by omega
      have HKE : Hid (k = (turnN l n).length) := Lib.hid (by have := HLN.out; omega)
      clear hk hgk hlt
      go_wp2_with fail
      go_ret
      have hw := HW.out
      have hke := HKE.out
      subst hke
      rw [List.take_length] at hw
      exact ⟨_, _, rfl, hw.own, hw.b⟩
    have hlt2 : (k : Int) < l.length := by omega
    obtain ⟨m, hm⟩ : ∃ m, m = (k + n) % l.length := ⟨_, rfl⟩
    have hml : m < l.length := by rw [hm]; exact Nat.mod_lt _ (by omega)
    have hml2 : (m : Int) < l.length := by omega
    have hLz : ¬ (l.length : Int) = 0 := by omega
    have hkv : k < (turnN l n).length := by rw [HLN.out]; exact hlt
    have HX : Hid ((turnN l n).take (k + 1) = (turnN l n).take k ++ [l[m]]) := Lib.hid (by
      rw [List.take_succ_eq_append_getElem hkv]
      simp only [turnN, List.getElem_map, List.getElem_range, ← hm]
      rw [List.getD_eq_getElem?_getD, List.getElem?_eq_getElem hml]; rfl)
    have ew : IntKind.i64.wrap ((k : Int) + n) = (k : Int) + n := IntWalk.i64_in _ (by omega)
    have em : ((k : Int) + n).tmod (l.length : Int) = (m : Int) := by
      rw [Int.tmod_eq_emod_of_nonneg (by omega), hm]
      simp
    obtain ⟨g, o, hA, hg, hc⟩ := HA.out m hml
    obtain ⟨x, hx⟩ : ∃ x, x = l[m] := ⟨_, rfl⟩
    rw [← hx] at HX hc
    have hcw : wr.cell? ⟨g, o + m, none⟩ = some (.int .i64 x) := (HW.out.b.cell (p := ⟨g, _, none⟩) hg).trans hc
    have HOW : Hid ((wr.alloc (.cells #[.int .i64 x] 3)).ownsRow W.heap.size 3 1 (.slice U k cu) k (ivl ((turnN l n).take k))) := Lib.hid (own_step HW.out.own (below_one _ _))
    have HNEW : Hid (∀ j u, (ivl [x])[j]? = some u → (wr.alloc (.cells #[.int .i64 x] 3)).cell? ((⟨wr.heap.size, 0, none⟩ : Addr).add j) = some u) := Lib.hid fun j u hu => by
      have hj : j < 1 := by have := (List.getElem?_eq_some_iff.1 hu).1; simpa [ivl] using this
      obtain rfl : j = 0 := by omega
      rw [addr_add, (Has.new wr 3 #[.int .i64 x]).cell]
      simpa [ivl] using hu
    subst hA
    clear hm hkv hg hc hx HA
    go_wp2_with (at_builtin; refine wpList_append_lies _ rfl _ _ 22 rfl W.heap.size 3 i0 (.int .i64 0) 1 8 Try.underlying22 hi hz0 hz1 hz2 rfl (by decide) (.slice U k cu) k (ivl ((turnN l n).take k)) rfl HOW.out ⟨wr.heap.size, 0, none⟩ 1 1 (ivl [x]) rfl ?q1 HNEW.out (ivl_one _) ?q2 ?q3 ?q4 ?q5 _ rfl ?_)
    case q1 => rfl
    all_goals (try (first | omega | (unfold maxLen; omega) | (have := HW.out.hD; simp; omega)))
    rintro g1 cap1 w5 hown1 hgr1 hgg1 hlt1
    have hb5 : Below W.heap.size (wr.alloc (.cells #[.int .i64 x] 3)) w5 := grown_step hgr1 (by have := HW.out.hD; simp; omega) (fun b hb => (own_block HOW.out b hb).1)
    have H5 : Hid (DR W w5 W.heap.size (.slice (some ⟨g1, 0, none⟩) (k + 1) cap1) (k + 1) ((turnN l n).take (k + 1))) := Lib.hid (by
      have h2 : Below W.heap.size wr w5 := ((below_one _ _).mono HW.out.hD).trans hb5
      refine ⟨HW.out.b.trans h2, ?_, by have := h2.size; have := HW.out.hD; omega⟩
      rw [HX.out, show ivl ((turnN l n).take k ++ [x]) = ivl ((turnN l n).take k) ++ ivl [x] by simp [ivl]]
      exact hown1)
    clear hb5 hown1 hgr1 hgg1 hlt1 HOW HNEW HW HX
    go_wp2_with fail
    go_roundg (l.length - (k + 1))
    case measure => omega
    case rel => exact ⟨k + 1, by omega, Nat.le_refl _, by go_num, some ⟨g1, 0, none⟩, cap1, rfl, H5⟩
end Go.Proofs.Ytmclchaalmonnaa
