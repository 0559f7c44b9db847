/- The document's yeses and Quiet. -/
import Derived.Test.YtfdjoldcdfbfhaaDoA
import Derived.Test.YtfdjoldcdfbfhaaRfF
namespace Go.Proofs.Ytfdjoldcdfbfhaa
open Go.Shelf Go.RowKit
def bls (l : List Bool) : Array Value := (l.map Value.bool).toArray
theorem bls_get {w : World} {g : Nat} {l : List Bool} (h : Has w g 4 (bls l)) (k : Nat) (hk : k < l.length) : w.cell? ⟨g, k, none⟩ = some (.bool l[k]) := by
  rw [h.cell, bls, List.getElem?_toArray, List.getElem?_map, List.getElem?_eq_getElem hk]; rfl
theorem cntT_le (l : List Bool) : ∀ k, cntT l k ≤ k
  | 0 => Nat.le_refl _
  | k + 1 => by
    have := cntT_le l k
    unfold cntT
    split <;> omega
theorem cntT_next {l : List Bool} {k : Nat} (h : k < l.length) : cntT l (k + 1) = cntT l k + (if l[k] = true then 1 else 0) := by
  show cntT l k + (if l[k]? = some true then 1 else 0) = _
  rw [List.getElem?_eq_getElem h]
  simp
set_option maxRecDepth 100000 in
set_option maxHeartbeats 2000000 in
theorem yeses_any (g : Nat) (l : List Bool) (cap : Nat) (w : World) (h : Has w g 4 (bls l)) (hl : l.length ≤ 12) :
    Calls Try.prog 39 #[.slice (some ⟨g, 0, none⟩) l.length cap] w fun e w' => e = .returned (.int .i64 (cntT l l.length)) ∧ w' = w := by
  have hg := h.lt
  have HB := Lib.hid (bls_get h)
  clear h
  go_enter Try.func39, Try.ntmps39
  go_wp2_with fail
  go_loopg [3, 4] l.length (fun gk n i wr => ∃ k : Nat, k ≤ l.length ∧ l.length - k ≤ gk ∧ n = .int .i64 (cntT l k) ∧ i = .int .i64 k ∧ wr = w)
  case atStart => exact ⟨0, Nat.zero_le _, Nat.le_refl _, rfl, rfl, rfl⟩
  case round =>
    obtain ⟨k, hk, hgk, rfl, rfl, rfl⟩ := hrel
    have hck := cntT_le l k
    by_cases hlt : k < l.length
    · have hlt' : (k : Int) < l.length := by omega
      have d := HB.out k hlt
      have hn := cntT_next hlt
      cases hv : l[k]
      · rw [hv] at d hn
        have HN := Lib.hid (show cntT l (k + 1) = cntT l k by rw [hn]; rfl)
        clear hn hv
        go_wp2_with fail
        go_roundg (l.length - (k + 1))
        case measure => omega
        case rel => exact ⟨k + 1, by omega, Nat.le_refl _, by rw [HN.out], by go_num, rfl⟩
      · rw [hv] at d hn
        have HN := Lib.hid (show cntT l (k + 1) = cntT l k + 1 by rw [hn]; rfl)
        clear hn hv
        go_wp2_with fail
        go_roundg (l.length - (k + 1))
        case measure => omega
        case rel => exact ⟨k + 1, by omega, Nat.le_refl _, by rw [HN.out]; go_num, by go_num, rfl⟩
    · have hlt' : ¬ (k : Int) < l.length := by omega
      have hkl : k = l.length := by omega
      subst hkl
      go_wp2_with fail
      go_ret
      exact ⟨rfl, rfl⟩
/-- what the document's Quiet returns -/
def dQuiet (l : List Sn) (V F t calm : Int) : Bool × Int :=
  if vvB l V F = false then (false, 1) else if (inB t 0 1048576 && inB calm 0 1048576) = false then (false, 2) else (quietB l V F t calm, 0)
set_option maxRecDepth 100000 in
set_option maxHeartbeats 2000000 in
theorem docQuiet_any (l : List Sn) (A : Option Addr) (cap : Nat) (V F t calm : Int) (W : World) (hr : NRow W W.heap.size A l) (hl : l.length ≤ 9223372036854775807) :
    Calls Try.prog 17 #[vtv A l.length cap V F, .int .i64 t, .int .i64 calm] W (BEPost (dQuiet l V F t calm) W) := by
  have HR := Lib.hid hr
  have HV := Lib.hid (fun (w : World) h => refVoting_any l A cap V F w h hl)
  have g1 := fun w => in_any t 0 1048576 w
  have g2 := fun w => in_any calm 0 1048576 w
  have hh : Has (W.alloc (.cells #[.slice A l.length cap, .int .i64 V, .int .i64 F] 24)) W.heap.size 24 #[.slice A l.length cap, .int .i64 V, .int .i64 F] := Has.new W 24 _
  have hb0 := below_one W (.cells #[.slice A l.length cap, .int .i64 V, .int .i64 F] 24)
  have HB := Lib.hid (And.intro hb0 hh)
  clear hb0 hh hr
  cases hv : vvB l V F
  · have HN := Lib.hid (show dQuiet l V F t calm = (false, 1) by unfold dQuiet; rw [if_pos hv])
    rw [hv] at HV
    clear g1 g2 hv
    unfold vtv at *
    go_enter Try.func17, Try.ntmps17
    go_wp2_with fail
    refine (HV.out _ (HR.out.step HB.out.1)).mono ?_
    rintro e w2 ⟨rfl, hb2⟩
    have H2 := Lib.hid (below_seq HB.out.1 hb2)
    clear hb2
    go_wp2_with fail
    refine bodyPost_ret (results_tmp2 rfl _ _ _) rfl ?_
    exact ⟨by rw [HN.out]; rfl, H2.out⟩
  have HVV := Lib.hid ((vvB_iff l V F).1 hv)
  have HV2 := Lib.hid hv
  rw [hv] at HV
  clear hv
  unfold vtv at *
  cases h1 : inB t 0 1048576 <;> rw [h1] at g1
  · have HN := Lib.hid (show dQuiet l V F t calm = (false, 2) by unfold dQuiet; rw [if_neg (by rw [HV2.out]; simp), h1]; rfl)
    clear h1 g2
    go_enter Try.func17, Try.ntmps17
    go_wp2_with fail
    refine (HV.out _ (HR.out.step HB.out.1)).mono ?_
    rintro e w2 ⟨rfl, hb2⟩
    have H2 := Lib.hid (below_seq HB.out.1 hb2)
    clear hb2
    go_wp2_with fail
    refine (g1 _).mono ?_
    rintro e w3 ⟨rfl, rfl⟩
    go_wp2_with fail
    refine bodyPost_ret (results_tmp2 rfl _ _ _) rfl ?_
    exact ⟨by rw [HN.out]; rfl, H2.out⟩
  cases h2 : inB calm 0 1048576 <;> rw [h2] at g2
  · have HN := Lib.hid (show dQuiet l V F t calm = (false, 2) by unfold dQuiet; rw [if_neg (by rw [HV2.out]; simp), h1, h2]; rfl)
    clear h1 h2
    go_enter Try.func17, Try.ntmps17
    go_wp2_with fail
    refine (HV.out _ (HR.out.step HB.out.1)).mono ?_
    rintro e w2 ⟨rfl, hb2⟩
    have H2 := Lib.hid (below_seq HB.out.1 hb2)
    clear hb2
    go_wp2_with fail
    refine (g1 _).mono ?_
    rintro e w3 ⟨rfl, rfl⟩
    go_wp2_with fail
    refine (g2 _).mono ?_
    rintro e w3 ⟨rfl, rfl⟩
    go_wp2_with fail
    refine bodyPost_ret (results_tmp2 rfl _ _ _) rfl ?_
    exact ⟨by rw [HN.out]; rfl, H2.out⟩
  · have HN := Lib.hid (show dQuiet l V F t calm = (quietB l V F t calm, 0) by unfold dQuiet; rw [if_neg (by rw [HV2.out]; simp), h1, h2]; rfl)
    have HQ := Lib.hid (fun (w : World) h => refQuiet_any l A cap V F t calm w h HVV.out (by unfold inB at h1; simp at h1; omega) (by unfold inB at h2; simp at h2; omega))
    obtain ⟨b, hb⟩ : ∃ b, b = quietB l V F t calm := ⟨_, rfl⟩
    rw [← hb] at HN HQ
    unfold vtv at *
    clear h1 h2 hb
    go_enter Try.func17, Try.ntmps17
    go_wp2_with fail
    refine (HV.out _ (HR.out.step HB.out.1)).mono ?_
    rintro e w2 ⟨rfl, hb2⟩
    have H2 := Lib.hid (And.intro (below_seq HB.out.1 hb2) (HB.out.2.below hb2 HB.out.2.lt))
    clear hb2
    have c0 : w2.cell? ⟨W.heap.size, 0, none⟩ = some (.slice A l.length cap) := H2.out.2.cell 0
    have c1 : w2.cell? ⟨W.heap.size, 1, none⟩ = some (.int .i64 V) := H2.out.2.cell 1
    have c2 : w2.cell? ⟨W.heap.size, 2, none⟩ = some (.int .i64 F) := H2.out.2.cell 2
    go_wp2_with fail
    refine (g1 _).mono ?_
    rintro e w3 ⟨rfl, rfl⟩
    go_wp2_with fail
    refine (g2 _).mono ?_
    rintro e w3 ⟨rfl, rfl⟩
    go_wp2_with fail
    refine (HQ.out _ (HR.out.step H2.out.1)).mono ?_
    rintro e w4 ⟨rfl, hb4⟩
    have H4 := Lib.hid (below_seq H2.out.1 hb4)
    clear hb4
    go_wp2_with fail
    refine bodyPost_ret (results_tmp2 rfl _ _ _) rfl ?_
    exact ⟨by rw [HN.out]; rfl, H4.out⟩
end Go.Proofs.Ytfdjoldcdfbfhaa
