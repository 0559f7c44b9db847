/- A valid voting; Worst. -/
import Derived.Test.YtfdjoldcdfbfhaaWoB
namespace Go.Proofs.Ytfdjoldcdfbfhaa
open Go.Shelf Go.RowKit
def BoolPost (b : Bool) (W : World) (e : Ending) (W' : World) : Prop := e = .returned (.bool b) ∧ Below W.heap.size W W'
set_option maxRecDepth 100000 in
set_option maxHeartbeats 2000000 in
theorem voting_any (l : List Sn) (A : Option Addr) (cap : Nat) (V F : Int) (W : World) (hr : NRow W W.heap.size A l) (hl : l.length ≤ 9223372036854775807) :
    Calls Try.prog 35 #[vtv A l.length cap V F] W (BoolPost (vvB l V F) W) := by
  have hn : ∀ c, vvB l V F = c → Hid (vvB l V F = c) := fun b h => h
  have HR := Lib.hid hr
  have H0 := Lib.hid (below_one W)
  clear hr
  unfold vtv
  by_cases hlen : l.length < 1
  · have HN := hn false (by unfold vvB; rw [decide_eq_false (by omega), Bool.false_and, Bool.false_and])
    have hlen' : (l.length : Int) < 1 := by omega
    clear hn
    go_enter Try.func35, Try.ntmps35
    go_wp2_with fail
    go_ret
    exact ⟨by rw [HN.out]; rfl, H0.out _⟩
  by_cases hlen2 : 12 < l.length
  · have HN := hn false (by unfold vvB; rw [decide_eq_false (by omega), Bool.false_and, Bool.false_and])
    have hlen' : ¬ (l.length : Int) < 1 := by omega
    have hlen2' : (12 : Int) < l.length := by omega
    clear hn
    go_enter Try.func35, Try.ntmps35
    go_wp2_with fail
    go_ret
    exact ⟨by rw [HN.out]; rfl, H0.out _⟩
  have hlen' : ¬ (l.length : Int) < 1 := by omega
  have hlen2' : ¬ (12 : Int) < l.length := by omega
  have HN0 := Lib.hid (show vvB l V F = (l.all vSb && decide ((1 ≤ V ∧ V ≤ l.length) ∧ (0 ≤ F ∧ F ≤ l.length))) by unfold vvB; rw [decide_eq_true (by omega), Bool.true_and])
  clear hn
  go_enter Try.func35, Try.ntmps35
  go_wp2_with fail
  have hh : Has (W.alloc (.cells #[.slice A l.length cap, .int .i64 V, .int .i64 F] 24)) W.heap.size 24 #[.slice A l.length cap, .int .i64 V, .int .i64 F] := Has.new W 24 _
  have hb0 := H0.out (.cells #[.slice A l.length cap, .int .i64 V, .int .i64 F] 24)
  generalize W.alloc (.cells #[.slice A l.length cap, .int .i64 V, .int .i64 F] 24) = w0 at hh hb0 ⊢
  have HB := Lib.hid (And.intro hb0 hh)
  clear hb0 hh H0
  go_loopg [18] l.length (fun gk i wr => ∃ k : Nat, k ≤ l.length ∧ l.length - k ≤ gk ∧ i = .int .i64 k ∧ Hid (Below w0.heap.size w0 wr) ∧ Hid ((l.take k).all vSb = true))
  case atStart => exact ⟨0, Nat.zero_le _, Nat.le_refl _, rfl, Below.refl _ _, by show _ = _; simp⟩
  case round =>
    obtain ⟨k, hk, hgk, rfl, HW, HL⟩ := hrel
    have hbW : Below W.heap.size W wr := HB.out.1.trans (HW.out.mono HB.out.1.size)
    by_cases hlt : k < l.length
    · have hlt' : (k : Int) < l.length := by omega
      obtain ⟨g, o, rfl, hg, d0, d1, d2⟩ := (HR.out.below hbW) k hlt
      have hg' : g < wr.heap.size := by have := hbW.size; omega
      have htk : (l.take (k + 1)).all vSb = vSb l[k] := by
        rw [List.take_succ_eq_append_getElem hlt, List.all_append, HL.out]; simp
      obtain ⟨s, hs⟩ : ∃ s, s = l[k] := ⟨_, rfl⟩
      rw [← hs] at d0 d1 d2 htk
      have HT := Lib.hid htk
      have HS := Lib.hid hs
      have hcal := fun w => sensor_any s w
      have HBW := Lib.hid hbW
      cases hv : vSb s <;> rw [hv] at hcal
      · have HN := Lib.hid (show vvB l V F = false by
          rw [HN0.out]
          have : l.all vSb = false := by
            rw [List.all_eq_false]
            exact ⟨l[k], List.getElem_mem hlt, by rw [← hs, hv]; simp⟩
          rw [this, Bool.false_and])
        have HC := Lib.hid hcal
        clear hcal hs htk hbW hv
        go_wp2_with fail
        refine (HC.out _).mono ?_
        rintro e w3 ⟨rfl, hb3⟩
        have HF := Lib.hid (HBW.out.trans (((below_one wr _).mono HBW.out.size).trans (hb3.mono (by have := HBW.out.size; simp; omega))))
        clear hb3
        go_wp2_with fail
        go_ret
        exact ⟨by rw [HN.out]; rfl, HF.out⟩
      · have HC := Lib.hid hcal
        have HV := Lib.hid hv
        clear hcal hs htk hbW hv
        go_wp2_with fail
        refine (HC.out _).mono ?_
        rintro e w3 ⟨rfl, hb3⟩
        have HF := Lib.hid (HW.out.trans (((below_one wr _).mono HW.out.size).trans (hb3.mono (by have := HW.out.size; simp; omega))))
        clear hb3
        go_wp2_with fail
        go_roundg (l.length - (k + 1))
        case measure => omega
        case rel => exact ⟨k + 1, by omega, Nat.le_refl _, by go_num, HF.out, by show _ = _; rw [HT.out, HV.out]⟩
    · have hlt' : ¬ (k : Int) < l.length := by omega
      have HAll := Lib.hid (show l.all vSb = true by rw [← HL.out, List.take_of_length_le (by omega)])
      have hH := HB.out.2.below HW.out HB.out.2.lt
      have v1 : wr.cell? ⟨W.heap.size, 1, none⟩ = some (.int .i64 V) := hH.cell 1
      have v2 : wr.cell? ⟨W.heap.size, 2, none⟩ = some (.int .i64 F) := hH.cell 2
      have HBW := Lib.hid hbW
      clear hH hbW
      have h5 : ¬ 1 ≤ V ∨ (1 ≤ V ∧ ¬ V ≤ (l.length : Int)) ∨ (1 ≤ V ∧ V ≤ (l.length : Int) ∧ ¬ 0 ≤ F) ∨ (1 ≤ V ∧ V ≤ (l.length : Int) ∧ 0 ≤ F ∧ ¬ F ≤ (l.length : Int)) ∨ (1 ≤ V ∧ V ≤ (l.length : Int) ∧ 0 ≤ F ∧ F ≤ (l.length : Int)) := by omega
      rcases h5 with h0 | ⟨h0, h1⟩ | ⟨h0, h1, h2⟩ | ⟨h0, h1, h2, h3⟩ | ⟨h0, h1, h2, h3⟩
      rotate_right
      · have HN := Lib.hid (show vvB l V F = true by rw [HN0.out, HAll.out, decide_eq_true (by omega)]; rfl)
        go_wp2_with fail
        go_ret
        exact ⟨by rw [HN.out]; rfl, HBW.out⟩
      all_goals
        have HN := Lib.hid (show vvB l V F = false by rw [HN0.out, HAll.out, decide_eq_false (by omega)]; rfl)
        go_wp2_with fail
        go_ret
        exact ⟨by rw [HN.out]; rfl, HBW.out⟩
/-- what Worst returns -/
def worstR (l : List Sn) (V F t rise frm to : Int) : Int × Int × Int :=
  if vvB l V F = false then (0, 0, 1) else if (gasB t && gasB rise && minB frm to) = false then (0, 0, 2) else worstE (worstP (atN l (V + F).toNat t rise) frm (to - frm + 1).toNat)
def TripPost (x : Int × Int × Int) (W : World) (e : Ending) (W' : World) : Prop :=
  e = .returned (.tuple #[.int .i64 x.1, .int .i64 x.2.1, .int .i64 x.2.2]) ∧ Below W.heap.size W W'
set_option maxRecDepth 100000 in
set_option maxHeartbeats 2000000 in
theorem Worst_any (l : List Sn) (A : Option Addr) (cap : Nat) (V F t rise frm to : Int) (W : World) (hr : NRow W W.heap.size A l) (hl : l.length ≤ 9223372036854775807) :
    Calls Try.prog 19 #[vtv A l.length cap V F, .int .i64 t, .int .i64 rise, .int .i64 frm, .int .i64 to] W (TripPost (worstR l V F t rise frm to) W) := by
  have HR := Lib.hid hr
  have HV := Lib.hid (fun (w : World) h => voting_any l A cap V F w h hl)
  have g1 := fun w => isGas_any t w
  have g2 := fun w => isGas_any rise w
  have g3 := fun w => minutes_any frm to w
  have hh : Has (W.alloc (.cells #[.slice A l.length cap, .int .i64 V, .int .i64 F] 24)) W.heap.size 24 #[.slice A l.length cap, .int .i64 V, .int .i64 F] := Has.new W 24 _
  have hb0 := below_one W (.cells #[.slice A l.length cap, .int .i64 V, .int .i64 F] 24)
  have HB := Lib.hid (And.intro hb0 hh)
  clear hb0 hh hr
  cases hv : vvB l V F
  · have HN := Lib.hid (show worstR l V F t rise frm to = (0, 0, 1) by unfold worstR; rw [if_pos hv])
    rw [hv] at HV
    clear g1 g2 g3 hv
    unfold vtv at *
    go_enter Try.func19, Try.ntmps19
    go_wp2_with fail
    refine (HV.out _ (HR.out.step HB.out.1)).mono ?_
    rintro e w2 ⟨rfl, hb2⟩
    have H2 := Lib.hid (below_seq HB.out.1 hb2)
    clear hb2
    go_wp2_with fail
    refine bodyPost_ret (results_tmp3 rfl _ _ _) rfl ?_
    exact ⟨by rw [HN.out]; rfl, H2.out⟩
  have HVV := Lib.hid ((vvB_iff l V F).1 hv)
  rw [hv] at HV
  have hn : ∀ c, (gasB t && gasB rise && minB frm to) = c → Hid ((gasB t && gasB rise && minB frm to) = c) := fun c h => h
  have HE : ∀ c, Hid ((gasB t && gasB rise && minB frm to) = c) → c = false → Hid (worstR l V F t rise frm to = (0, 0, 2)) := fun c h e => by
    show _ = _
    unfold worstR
    rw [if_neg (by rw [hv]; simp), if_pos (by rw [h.out, e])]
  have HV2 := Lib.hid hv
  clear hv
  unfold vtv at *
  cases h1 : gasB t <;> rw [h1] at g1
  · have HN := HE false (hn false (by rw [h1]; rfl)) rfl
    clear g2 g3 h1 hn HE
    go_enter Try.func19, Try.ntmps19
    go_wp2_with fail
    refine (HV.out _ (HR.out.step HB.out.1)).mono ?_
    rintro e w2 ⟨rfl, hb2⟩
    have H2 := Lib.hid (below_seq HB.out.1 hb2)
    clear hb2
    go_wp2_with fail
    refine (g1 _).mono ?_
    rintro e w3 ⟨rfl, rfl⟩
    go_wp2_with fail
    refine bodyPost_ret (results_tmp3 rfl _ _ _) rfl ?_
    exact ⟨by rw [HN.out]; rfl, H2.out⟩
  cases h2 : gasB rise <;> rw [h2] at g2
  · have HN := HE false (hn false (by rw [h1, h2]; rfl)) rfl
    clear g3 h1 h2 hn HE
    go_enter Try.func19, Try.ntmps19
    go_wp2_with fail
    refine (HV.out _ (HR.out.step HB.out.1)).mono ?_
    rintro e w2 ⟨rfl, hb2⟩
    have H2 := Lib.hid (below_seq HB.out.1 hb2)
    clear hb2
    go_wp2_with fail
    refine (g1 _).mono ?_
    rintro e w3 ⟨rfl, rfl⟩
    go_wp2_with fail
    refine (g2 _).mono ?_
    rintro e w3 ⟨rfl, rfl⟩
    go_wp2_with fail
    refine bodyPost_ret (results_tmp3 rfl _ _ _) rfl ?_
    exact ⟨by rw [HN.out]; rfl, H2.out⟩
  cases h3 : minB frm to <;> rw [h3] at g3
  · have HN := HE false (hn false (by rw [h1, h2, h3]; rfl)) rfl
    clear h1 h2 h3 hn HE
    go_enter Try.func19, Try.ntmps19
    go_wp2_with fail
    refine (HV.out _ (HR.out.step HB.out.1)).mono ?_
    rintro e w2 ⟨rfl, hb2⟩
    have H2 := Lib.hid (below_seq HB.out.1 hb2)
    clear hb2
    go_wp2_with fail
    refine (g1 _).mono ?_
    rintro e w3 ⟨rfl, rfl⟩
    go_wp2_with fail
    refine (g2 _).mono ?_
    rintro e w3 ⟨rfl, rfl⟩
    go_wp2_with fail
    refine (g3 _).mono ?_
    rintro e w3 ⟨rfl, rfl⟩
    go_wp2_with fail
    refine bodyPost_ret (results_tmp3 rfl _ _ _) rfl ?_
    exact ⟨by rw [HN.out]; rfl, H2.out⟩
  have HN := Lib.hid (show worstR l V F t rise frm to = worstE (worstP (atN l (V + F).toNat t rise) frm (to - frm + 1).toNat) by
    unfold worstR
    rw [if_neg (by rw [HV2.out]; simp), if_neg (by rw [h1, h2, h3]; simp)])
  simp only [gasB, minB, decide_eq_true_eq] at h1 h2 h3
  have hW := fun w h => worst_any l A cap V F t rise frm to w h HVV.out ⟨h1.1, by omega⟩ h2 h3
  unfold vtv at hW
  have HW := Lib.hid hW
  clear h1 h2 h3 hn HE hW
  go_enter Try.func19, Try.ntmps19
  go_wp2_with fail
  refine (HV.out _ (HR.out.step HB.out.1)).mono ?_
  rintro e w2 ⟨rfl, hb2⟩
  have H2 := Lib.hid (And.intro (below_seq HB.out.1 hb2) (HB.out.2.below hb2 HB.out.2.lt))
  clear hb2
  have v0 : w2.cell? ⟨W.heap.size, 0, none⟩ = some (.slice A l.length cap) := H2.out.2.cell 0
  have v1 : w2.cell? ⟨W.heap.size, 1, none⟩ = some (.int .i64 V) := H2.out.2.cell 1
  have v2 : w2.cell? ⟨W.heap.size, 2, none⟩ = some (.int .i64 F) := H2.out.2.cell 2
  go_wp2_with fail
  refine (g1 _).mono ?_
  rintro e w3 ⟨rfl, rfl⟩
  go_wp2_with fail
  refine (g2 _).mono ?_
  rintro e w3 ⟨rfl, rfl⟩
  go_wp2_with fail
  refine (g3 _).mono ?_
  rintro e w3 ⟨rfl, rfl⟩
  go_wp2_with fail
  refine (HW.out _ (HR.out.step H2.out.1)).mono ?_
  rintro e w4 ⟨rfl, hb4⟩
  have H4 := Lib.hid (H2.out.1.trans (hb4.mono H2.out.1.size))
  clear hb4
  go_wp2_with fail
  refine bodyPost_ret (results_tmp3 rfl _ _ _) rfl ?_
  exact ⟨by rw [HN.out]; rfl, H4.out⟩
end Go.Proofs.Ytfdjoldcdfbfhaa
