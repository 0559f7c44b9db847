/- Contracts: Compare of lists, Or, ahead. -/
import Derived.Test.YtipejhfgfciabaaHrF
namespace Go.Proofs.Ytipejhfgfciabaa
open Go.RowKit
theorem cmpL_drop {l m : List Int} {k : Nat} (h1 : k < l.length) (h2 : k < m.length) : cmpL (l.drop k) (m.drop k) = if l[k] < m[k] then -1 else if m[k] < l[k] then 1 else cmpL (l.drop (k + 1)) (m.drop (k + 1)) := by
  rw [List.drop_eq_getElem_cons h1, List.drop_eq_getElem_cons h2]; rfl
theorem ret_int {k : IntKind} {a b : Int} (h : a = b) : Ending.returned (.int k a) = .returned (.int k b) := by rw [h]
set_option maxRecDepth 100000 in
set_option maxHeartbeats 2000000 in
theorem compareS_any (l m : List Int) (A A' : Option Addr) (c d B B' : Nat) (W : World) (h1 : IRow W B A l) (h2 : IRow W B' A' m) (hl : l.length ≤ 1000000) :
    Calls Try.prog 45 #[.slice A l.length c, .slice A' m.length d] W fun e w' => e = .returned (.int .i64 (cmpL l m)) ∧ w' = W := by
  have HR := Lib.hid (And.intro h1 h2)
  have HC := Lib.hid (fun x y w => Go.Proofs.Try.cmp_Compare_int x y w)
  obtain ⟨r, hr⟩ : ∃ r, r = cmpL l m := ⟨_, rfl⟩
  rw [← hr]
  have H0 := Lib.hid hr
  clear h1 h2 hr
  go_enter Try.func45, Try.ntmps45
  go_upto_region 2 with fail
  go_loopg [11] l.length (fun gk i wr => ∃ k : Nat, k ≤ l.length ∧ l.length - k ≤ gk ∧ i = .int .i64 k ∧ wr = W ∧ Hid (k ≤ m.length ∧ r = cmpL (l.drop k) (m.drop k)))
  case atStart => exact ⟨0, Nat.zero_le _, Nat.le_refl _, rfl, rfl, Lib.hid ⟨Nat.zero_le _, H0.out⟩⟩
  case round =>
    obtain ⟨k, hk, hgk, rfl, rfl, HK⟩ := hrel
    by_cases hlt : k < l.length
    rotate_left
    · have hge : ¬ (k : Int) < l.length := by omega
      have hke : k = l.length := by omega
      have hkm := HK.out.1
      by_cases hlm : l.length < m.length
      · have hlm2 : (l.length : Int) < m.length := by omega
        have HE := Lib.hid (show r = -1 by
          rw [HK.out.2, List.drop_eq_nil_of_le (by omega), List.drop_eq_getElem_cons (show k < m.length by omega)]; rfl)
        clear hke hkm
        go_wp2_with fail
        go_ret
        exact ⟨ret_int HE.out.symm, rfl⟩
      · have hlm2 : ¬ (l.length : Int) < m.length := by omega
        have HE := Lib.hid (show r = 0 by
          rw [HK.out.2, List.drop_eq_nil_of_le (by omega), List.drop_eq_nil_of_le (show m.length ≤ k by omega)]; rfl)
        clear hke hkm
        go_wp2_with fail
        go_ret
        exact ⟨ret_int HE.out.symm, rfl⟩
    have hlt2 : (k : Int) < l.length := by omega
    obtain ⟨g, o, hg, -, hc⟩ := HR.out.1 k hlt
    by_cases hkm : k < m.length
    rotate_left
    · have hkm2 : ¬ (k : Int) < m.length := by omega
      have HE := Lib.hid (show r = 1 by
          rw [HK.out.2, List.drop_eq_getElem_cons hlt, List.drop_eq_nil_of_le (show m.length ≤ k by omega)]; rfl)
      obtain ⟨x, hx⟩ : ∃ x, x = l[k] := ⟨_, rfl⟩
      rw [← hx] at hc
      subst hg
      clear hx
      go_wp2_with fail
      go_ret
      exact ⟨ret_int HE.out.symm, rfl⟩
    have hkm2 : (k : Int) < m.length := by omega
    obtain ⟨g', o', hg', -, hc'⟩ := HR.out.2 k hkm
    have hd := cmpL_drop hlt hkm
    obtain ⟨x, hx⟩ : ∃ x, x = l[k] := ⟨_, rfl⟩
    obtain ⟨y, hy⟩ : ∃ y, y = m[k] := ⟨_, rfl⟩
    rw [← hx] at hc hd
    rw [← hy] at hc' hd
    have HD := Lib.hid hd
    subst hg hg'
    clear hx hy hd
    have h3 : x < y ∨ y < x ∨ x = y := by omega
    rcases h3 with h3 | h3 | h3
    · have HE := Lib.hid (show r = -1 by rw [HK.out.2, HD.out, if_pos h3])
      have HC' := Lib.hid (fun (w : World) => (show Lib.compareInt x y = -1 by unfold Lib.compareInt; rw [if_pos h3]) ▸ HC.out x y w)
      go_wp2_with fail
      refine (HC'.out _).mono ?_
      rintro e w1 ⟨rfl, rfl⟩
      go_wp2_with fail
      go_ret
      exact ⟨ret_int HE.out.symm, rfl⟩
    · have HE := Lib.hid (show r = 1 by rw [HK.out.2, HD.out, if_neg (by omega), if_pos h3])
      have HC' := Lib.hid (fun (w : World) => (show Lib.compareInt x y = 1 by unfold Lib.compareInt; rw [if_neg (by omega), if_pos h3]) ▸ HC.out x y w)
      go_wp2_with fail
      refine (HC'.out _).mono ?_
      rintro e w1 ⟨rfl, rfl⟩
      go_wp2_with fail
      go_ret
      exact ⟨ret_int HE.out.symm, rfl⟩
    · have HE := Lib.hid (show r = cmpL (l.drop (k + 1)) (m.drop (k + 1)) by rw [HK.out.2, HD.out, if_neg (by omega), if_neg (by omega)])
      have HC' := Lib.hid (fun (w : World) => (show Lib.compareInt x y = 0 by unfold Lib.compareInt; rw [if_neg (by omega), if_neg (by omega)]) ▸ HC.out x y w)
      clear h3
      go_wp2_with fail
      refine (HC'.out _).mono ?_
      rintro e w1 ⟨rfl, rfl⟩
      go_wp2_with fail
      go_roundg (l.length - (k + 1))
      case measure => omega
      case rel => exact ⟨k + 1, by omega, Nat.le_refl _, by go_num, rfl, Lib.hid ⟨by omega, HE.out⟩⟩
end Go.Proofs.Ytipejhfgfciabaa
