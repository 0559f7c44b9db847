/- The law of Tight. -/
import Derived.Test.YtfdjoldcdfbfhaaTiC
namespace Go.Proofs.Ytfdjoldcdfbfhaa
open Go.Shelf Go.RowKit
theorem worstR_four (l : List Sn) (V F t rise frm to : Int) : (worstR l V F t rise frm to).2.2 = 1 ∨ (worstR l V F t rise frm to).2.2 = 2 ∨ (VV l V F ∧ (0 ≤ t ∧ t ≤ 1048576) ∧ (0 ≤ rise ∧ rise ≤ 1048576) ∧ (0 ≤ frm ∧ frm ≤ to ∧ to ≤ 2000) ∧
    ((∃ x, worstP (atN l (V + F).toNat t rise) frm (to - frm + 1).toNat = some x ∧ worstR l V F t rise frm to = (x.1, x.2, 0)) ∨ (worstP (atN l (V + F).toNat t rise) frm (to - frm + 1).toNat = none ∧ worstR l V F t rise frm to = (0, 0, 4)))) := by
  unfold worstR
  cases hv : vvB l V F
  · left; simp
  rw [if_neg (by simp)]
  cases h3 : (gasB t && gasB rise && minB frm to)
  · right; left; simp
  rw [if_neg (by simp)]
  simp only [gasB, minB, Bool.and_eq_true, decide_eq_true_eq] at h3
  refine .inr (.inr ⟨(vvB_iff l V F).1 hv, h3.1.1, h3.1.2, h3.2, ?_⟩)
  cases hw : worstP (atN l (V + F).toNat t rise) frm (to - frm + 1).toNat with
  | none => exact .inr ⟨rfl, rfl⟩
  | some x => exact .inl ⟨x, rfl, rfl⟩
structure TW (W w : World) (t rise : Int) (A0 : Option Addr) (cap0 : Nat) (l : List Sn) (V F : Int) : Prop where
  b : Below W.heap.size W w
  v : Has w W.heap.size 24 #[.slice A0 l.length cap0, .int .i64 V, .int .i64 F]
  t : Has w (W.heap.size + 1) 3 #[.int .i64 t]
  r : Has w (W.heap.size + 1 + 1) 3 #[.int .i64 rise]
theorem TW.step {W w w' : World} {t rise : Int} {A0 : Option Addr} {cap0 : Nat} {l : List Sn} {V F : Int} (h : TW W w t rise A0 cap0 l V F) (hb : Below w.heap.size w w') : TW W w' t rise A0 cap0 l V F :=
  ⟨h.b.trans (hb.mono h.b.size), h.v.below hb h.v.lt, h.t.below hb h.t.lt, h.r.below hb h.r.lt⟩
set_option maxRecDepth 100000 in
set_option maxHeartbeats 8000000 in
theorem tightLaw_any (l : List Sn) (A0 : Option Addr) (cap0 : Nat) (V F t rise frm to : Int) (W : World) (hr : NRow W W.heap.size A0 l) (hl : l.length ≤ 9223372036854775807) :
    Calls Try.prog 8 #[vtv A0 l.length cap0 V F, .int .i64 t, .int .i64 rise, .int .i64 frm, .int .i64 to] W (BoolPost true W) := by
  have HR := Lib.hid hr
  have HA := Lib.hid (fun w => alive_any w)
  have HQ := Lib.hid (fun w h => Worst_any l A0 cap0 V F t rise frm to w h hl)
  have HV := Lib.hid (fun (w : World) h => refVoting_any l A0 cap0 V F w h hl)
  have hmf : ∀ (fn : Fn) (first cap : Array Value) (w : World), (Instr.makeFunc fn first cap).run Try.prog w = .ok (.func fn first cap) w := fun _ _ _ _ => rfl
  have H0 : Hid (TW W (((W.alloc (.cells #[.slice A0 l.length cap0, .int .i64 V, .int .i64 F] 24)).alloc (.cells #[.int .i64 t] 3)).alloc (.cells #[.int .i64 rise] 3)) t rise A0 cap0 l V F) :=
    ⟨((below_one W _).alloc (by simp) _).alloc (by simp; omega) _, ((Has.new _ _ _).alloc _).alloc _, (has_newAt (by simp)).alloc _, has_newAt (by simp)⟩
  clear hr
  unfold vtv at *
  by_cases h20 : (20 : Int) < l.length
  · go_enter Try.func8, Try.ntmps8
    go_wp2_with fail
    refine (HA.out _).mono ?_
    rintro e wb ⟨rfl, hb⟩
    have HF := Lib.hid (H0.out.step hb)
    clear hb
    go_wp2_with fail
    go_ret
    exact ⟨rfl, HF.out.b⟩
  by_cases h60 : (60 : Int) < to
  · go_enter Try.func8, Try.ntmps8
    go_wp2_with fail
    refine (HA.out _).mono ?_
    rintro e wb ⟨rfl, hb⟩
    have HF := Lib.hid (H0.out.step hb)
    clear hb
    go_wp2_with fail
    go_ret
    exact ⟨rfl, HF.out.b⟩
  rcases worstR_four l V F t rise frm to with h1 | h1 | ⟨hvv, ht, hri, hfr, hw⟩
  iterate 2
    · obtain ⟨⟨q1, q2, q3⟩, hqe⟩ : ∃ q, q = worstR l V F t rise frm to := ⟨_, rfl⟩
      rw [← hqe] at h1 HQ
      simp only at h1
      subst h1
      clear hqe
      go_enter Try.func8, Try.ntmps8
      go_wp2_with fail
      refine (HQ.out _ (HR.out.step H0.out.b)).mono ?_
      rintro e w1 ⟨rfl, hb⟩
      have H1 := Lib.hid (H0.out.step hb)
      clear hb
      dsimp only
      go_wp2_with fail
      refine (HA.out _).mono ?_
      rintro e wb ⟨rfl, hb⟩
      have HF := Lib.hid (H1.out.step hb)
      clear hb
      go_wp2_with fail
      go_ret
      exact ⟨rfl, HF.out.b⟩
  have HVV := Lib.hid hvv
  rw [(vvB_iff l V F).2 hvv] at HV
  have n1 : ¬ frm < 0 := by omega
  have n2 : ¬ to < frm := by omega
  have eg30 : ∀ args w, (callFunc 30 args).run Try.prog w = .ok (.enter 30 args) w := enters_of Try.func30 (by kernel_rfl) rfl
  clear hvv
  rcases hw with ⟨⟨most, when⟩, hwp, hqe⟩ | ⟨hwp, hqe⟩
  · rw [hqe] at HQ
    by_cases hmost : most < 0
    · clear hwp hqe
      go_enter Try.func8, Try.ntmps8
      go_wp2_with fail
      refine (HQ.out _ (HR.out.step H0.out.b)).mono ?_
      rintro e w1 ⟨rfl, hb⟩
      have H1 := Lib.hid (H0.out.step hb)
      clear hb
      dsimp only
      go_wp2_with fail
      refine (HA.out _).mono ?_
      rintro e wb ⟨rfl, hb⟩
      have HF := Lib.hid (H1.out.step hb)
      clear hb
      go_wp2_with fail
      go_ret
      exact ⟨rfl, HF.out.b⟩
    · obtain ⟨g1, g2⟩ := worstP_some hwp
      have hwhen : ∃ nw : Nat, when = nw ∧ frm ≤ when ∧ when ≤ to ∧ most < atN l (V + F).toNat t rise when ∧ most ≤ 1048576 := by
        rcases g2 with ⟨h, _⟩ | ⟨_, j, hj, h2, h3, _⟩
        · simp only at h; omega
        · simp only at h2 h3
          have := (g1 j hj).1
          refine ⟨when.toNat, by omega, by omega, by omega, by rw [h2]; omega, by omega⟩
      obtain ⟨nw, rfl, hw1, hw2, hw3, hw4⟩ := hwhen
      have HW3 := Lib.hid hw3
      clear g1 g2 hwp hqe hw3
      go_enter Try.func8, Try.ntmps8
      go_wp2_with fail
      refine (HQ.out _ (HR.out.step H0.out.b)).mono ?_
      rintro e w1 ⟨rfl, hb⟩
      have H1 := Lib.hid (H0.out.step hb)
      clear hb
      have c0 : w1.cell? ⟨W.heap.size, 0, none⟩ = some (.slice A0 l.length cap0) := H1.out.v.cell 0
      have c1 : w1.cell? ⟨W.heap.size, 1, none⟩ = some (.int .i64 V) := H1.out.v.cell 1
      have c2 : w1.cell? ⟨W.heap.size, 2, none⟩ = some (.int .i64 F) := H1.out.v.cell 2
      dsimp only
      go_wp2_with fail
      refine (HV.out _ (HR.out.step H1.out.b)).mono ?_
      rintro e w2 ⟨rfl, hb⟩
      have H2 := Lib.hid (H1.out.step hb)
      clear hb c0 c1 c2 H1
      have hsil := silent_any l A0 cap0 V F t rise most nw (W.heap.size + 1 + 1) W.heap.size (W.heap.size + 1) w2 ⟨H2.out.r, H2.out.v, H2.out.t, HR.out.step H2.out.b⟩ HVV.out (by omega) ht hri (by omega)
      have HSIL := Lib.hid hsil
      clear hsil
      go_wp2_with fail
      refine HSIL.out.mono ?_
      rintro e w3 ⟨bb, rfl, hb, hbb⟩
      have H3 := Lib.hid (H2.out.step hb)
      obtain rfl := hbb HW3.out
      clear hb hbb
      go_wp2_with fail
      refine (HA.out _).mono ?_
      rintro e wb ⟨rfl, hb⟩
      have HF := Lib.hid (H3.out.step hb)
      clear hb
      go_wp2_with fail
      go_ret
      exact ⟨rfl, HF.out.b⟩
  · rw [hqe] at HQ
    have HWP := Lib.hid hwp
    clear hwp hqe
    go_enter Try.func8, Try.ntmps8
    go_wp2_with fail
    refine (HQ.out _ (HR.out.step H0.out.b)).mono ?_
    rintro e w1 ⟨rfl, hb⟩
    have H1 := Lib.hid (H0.out.step hb)
    clear hb
    have c0 : w1.cell? ⟨W.heap.size, 0, none⟩ = some (.slice A0 l.length cap0) := H1.out.v.cell 0
    have c1 : w1.cell? ⟨W.heap.size, 1, none⟩ = some (.int .i64 V) := H1.out.v.cell 1
    have c2 : w1.cell? ⟨W.heap.size, 2, none⟩ = some (.int .i64 F) := H1.out.v.cell 2
    dsimp only
    go_wp2_with fail
    refine (HV.out _ (HR.out.step H1.out.b)).mono ?_
    rintro e w2 ⟨rfl, hb⟩
    have H2 := Lib.hid (H1.out.step hb)
    clear hb c0 c1 c2 H1
    go_wp2_with fail
    go_loopg [15] (to - frm + 1).toNat (fun gk i wr => ∃ m : Nat, frm ≤ m ∧ (m : Int) ≤ to + 1 ∧ to + 1 - m ≤ gk ∧ i = .int .i64 m ∧ Hid (TW W wr t rise A0 cap0 l V F) ∧ Hid (∀ j : Int, frm ≤ j → j < m → atN l (V + F).toNat t rise j ≤ 1048576))
    case atStart => exact ⟨frm.toNat, by omega, by omega, by omega, by rw [Int.toNat_of_nonneg hfr.1], H2.out, fun j h1 h2 => absurd h2 (by omega)⟩
    case round =>
      obtain ⟨m, hm1, hm2, hgm, rfl, HI, HJ⟩ := hrel
      by_cases hlm : (m : Int) ≤ to
      · have hsil := silent_any l A0 cap0 V F t rise 1048576 m (W.heap.size + 1 + 1) W.heap.size (W.heap.size + 1) wr ⟨HI.out.r, HI.out.v, HI.out.t, HR.out.step HI.out.b⟩ HVV.out (by omega) ht hri (by omega)
        have HSIL := Lib.hid hsil
        clear hsil
        go_wp2_with fail
        refine HSIL.out.mono ?_
        rintro e w3 ⟨bb, rfl, hb, hbb⟩
        have H3 := Lib.hid (HI.out.step hb)
        have HBB := Lib.hid hbb
        clear hb hbb
        cases bb
        · have HJ2 := Lib.hid (show ∀ j : Int, frm ≤ j → j < ((m + 1 : Nat) : Int) → atN l (V + F).toNat t rise j ≤ 1048576 from fun j h1 h2 => by
            by_cases hjm : j < m
            · exact HJ.out j h1 hjm
            · have e : j = m := by omega
              subst e
              refine Int.not_lt.1 fun h => ?_
              cases HBB.out h)
          go_wp2_with fail
          go_roundg (to - m).toNat
          case measure => omega
          case rel => exact ⟨m + 1, by omega, by omega, by omega, by go_num, H3.out, HJ2.out⟩
        · go_wp2_with fail
          refine (HA.out _).mono ?_
          rintro e wb ⟨rfl, hb⟩
          have HF := Lib.hid (H3.out.step hb)
          clear hb
          go_wp2_with fail
          go_ret
          exact ⟨rfl, HF.out.b⟩
      · exfalso
        obtain ⟨x, hx⟩ := worstP_good (f := atN l (V + F).toNat t rise) (frm := frm) (k := (to - frm + 1).toNat) (fun j hj => HJ.out _ (by omega) (by omega))
        rw [HWP.out] at hx
        cases hx
end Go.Proofs.Ytfdjoldcdfbfhaa
