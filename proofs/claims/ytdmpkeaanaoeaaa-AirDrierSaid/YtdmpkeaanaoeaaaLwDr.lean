/- The law of AirDrier. -/
import Derived.Test.YtdmpkeaanaoeaaaStA
namespace Go.Proofs.Ytdmpkeaanaoeaaa
open Go.RowKit
theorem runE_yes {a : Air} {lo hi : Int} {L : List Stp} (h : insB a lo hi L = true) : runE a lo hi L = .tuple #[.agg #[.int .i64 (runL a lo L).w, .int .i64 (runH a hi L).w], .agg (moi (runL a lo L) (runH a hi L)), .int .i64 0] := by unfold runE; rw [if_pos h]
theorem runE_no {a : Air} {lo hi : Int} {L : List Stp} (h : insB a lo hi L = false) : runE a lo hi L = .tuple #[.agg #[.int .i64 0, .int .i64 0], .agg (moi ⟨0, 0, 0, 0, 0⟩ ⟨0, 0, 0, 0, 0⟩), .int .i64 1] := by unfold runE; rw [if_neg (by simp [h])]
/-- all that the law asks, of a dryer n that is told with an errno f: j is the dryer of 'just' -/
structure DrF (a : Air) (hi : Int) (L : List Stp) (n f j : Int) : Prop where
  n0 : 0 ≤ n ∧ n ≤ 68719476736
  j0 : 0 ≤ j ∧ j ≤ 68719476736
  p0 : 0 ≤ (runH a hi (dryL (fun _ => j) L)).dew
  p : f = 0 → (runH a hi (dryL (fun _ => j) L)).dew = 0
  p4 : f ≠ 0 → (runH a hi (dryL (fun _ => j) L)).dew ≠ 0
  q : f = 0 → n ≠ 0 → 0 < (runH a hi (dryL (fun _ => max 0 (n - 1)) L)).dew
theorem drf_none {a : Air} {lo hi : Int} {L : List Stp} (h : insB a lo hi L = true) (hr : Least hi (msOf a L) 68719476737) : DrF a hi L 0 4 68719476736 := by
  have h1 := dry_dew (x := 68719476736) h (by omega)
  have h2 : dryB hi (msOf a L) 68719476736 = false := hr.no (by omega)
  refine ⟨by omega, by omega, h1.2, fun e => by omega, fun _ e => ?_, fun e => by omega⟩
  rw [h1.1.1 e] at h2
  cases h2
theorem drf_some {a : Air} {lo hi : Int} {L : List Stp} {r : Nat} (h : insB a lo hi L = true) (hr : Least hi (msOf a L) r) (hne : r ≠ 68719476737) : DrF a hi L r 0 r := by
  have hle := hr.le
  have h1 := dry_dew (x := (r : Int)) h (by omega)
  have h2 := hr.yes (by omega)
  refine ⟨by omega, by omega, h1.2, fun _ => h1.1.2 h2, fun e => absurd rfl e, fun _ hn => ?_⟩
  have h3 := hr.no (by omega)
  have e : max 0 ((r : Int) - 1) = (r : Int) - 1 := by omega
  rw [e]
  have h4 := dry_dew (x := (r : Int) - 1) h (by omega)
  have h5 : (runH a hi (dryL (fun _ => (r : Int) - 1) L)).dew ≠ 0 := fun e => by rw [h4.1.1 e] at h3; cases h3
  omega
theorem rust_same {a : Air} {lo hi lim : Int} {L : List Stp} {more : Int} (h : insB a lo hi L = true) (hm : 0 ≤ more) : ∃ x y x' y' e, rustR a lo hi lim L = (x, y, e) ∧ rustR a lo hi lim (dryL (strF more) L) = (x', y', e) ∧ x' ≤ x ∧ y' ≤ y ∧ (e = 0 ∨ e = 2) := by
  have hr := strong_rust (lo := lo) (hi := hi) lim h hm
  unfold rustR
  rw [if_pos h, if_pos (strong_ins h hm)]
  by_cases hl : inB lim 0 1000 = true
  · rw [if_pos hl, if_pos hl]
    exact ⟨_, _, _, _, _, rfl, rfl, hr.1, hr.2, .inl rfl⟩
  · rw [if_neg hl, if_neg hl]
    exact ⟨_, _, _, _, _, rfl, rfl, Int.le_refl _, Int.le_refl _, .inr rfl⟩
set_option maxRecDepth 100000 in
set_option maxHeartbeats 8000000 in
theorem drierLaw_any (a : Air) (A B : Option Addr) (ca cb : Nat) (lo hi lim more : Int) (L : List Stp) (AL : Option Addr) (cl : Nat) (W : World) (har : AR W W.heap.size a A B) (hr : SRow W W.heap.size AL L) (hL : L.length ≤ 9223372036854775807) (hmo : 0 ≤ more ∧ more ≤ 4294967295) :
    Calls Try.prog 7 #[airv a A B ca cb, .agg #[.int .i64 lo, .int .i64 hi], .slice AL L.length cl, .int .i64 lim, .int .u32 more] W (BoolPost true W) := by
  obtain ⟨i0, hi0, hz0, hz1, hz2⟩ := info_parts Try.info50
  have K0 := Lib.hid (box_lb (ca := ca) (cb := cb) (lo := lo) (hi := hi) har hr)
  have HMany := Lib.hid (fun w => many_any a A B AL ca cb cl L.length 60 w har.lt har.lh)
  have HR := Lib.hid (fun w h1 h2 => Run_any a A B ca cb lo hi L AL cl w h1 h2 hL)
  have HD := Lib.hid (fun w h1 h2 => Dryer_any a A B ca cb lo hi L AL cl w h1 h2 hL)
  have HU := Lib.hid (fun w h1 h2 => Rust_any a A B ca cb lo hi lim L AL cl w h1 h2 hL)
  have HRx := Lib.hid (fun (M : List Stp) V c w h1 h2 h3 => Run_any a A B ca cb lo hi M V c w h1 h2 h3)
  have HUx := Lib.hid (fun (M : List Stp) V c w h1 h2 h3 => Rust_any a A B ca cb lo hi lim M V c w h1 h2 h3)
  have HAw := Lib.hid (fun w => awake_any w)
  unfold ValPost at HR HRx
  unfold SEPost at HU HUx
  unfold airv at *
  clear har hr
  go_enter Try.func7, Try.ntmps7
  go_upto_region 1 with fail
  generalize ((W.alloc (.cells (airc a A B ca cb) 26)).alloc (.cells #[.int .i64 lo, .int .i64 hi] 24)) = w0 at K0 ⊢
  have a0 : w0.cell? ⟨W.heap.size, 0, none⟩ = some (.int .i64 a.R) := K0.out.v.b.fa.cell 0
  have a1 : w0.cell? ⟨W.heap.size, 1, none⟩ = some (.slice A a.T.length ca) := K0.out.v.b.fa.cell 1
  have a2 : w0.cell? ⟨W.heap.size, 2, none⟩ = some (.slice B a.H.length cb) := K0.out.v.b.fa.cell 2
  have a3 : w0.cell? ⟨W.heap.size, 3, none⟩ = some (.int .i64 a.b0) := K0.out.v.b.fa.cell 3
  have a4 : w0.cell? ⟨W.heap.size, 4, none⟩ = some (.int .i64 a.b1) := K0.out.v.b.fa.cell 4
  go_wp2_with fail
  refine (HMany.out _).mono ?_
  rintro e w1 ⟨rfl, hb1⟩
  have K1 := Lib.hid (K0.out.step hb1)
  clear hb1 a0 a1 a2 a3 a4
  cases hm : manyB a L.length 60
  rotate_left
  · clear HR HD HU HRx HUx
    go_wp2_with fail
    refine (HAw.out _).mono ?_
    rintro e wz ⟨rfl, hbz⟩
    have KZ := Lib.hid (K1.out.step hbz)
    clear hbz
    go_wp2_with fail
    go_ret
    exact ⟨rfl, KZ.out.v.b.b⟩
  clear hm
  have a0 : w1.cell? ⟨W.heap.size, 0, none⟩ = some (.int .i64 a.R) := K1.out.v.b.fa.cell 0
  have a1 : w1.cell? ⟨W.heap.size, 1, none⟩ = some (.slice A a.T.length ca) := K1.out.v.b.fa.cell 1
  have a2 : w1.cell? ⟨W.heap.size, 2, none⟩ = some (.slice B a.H.length cb) := K1.out.v.b.fa.cell 2
  have a3 : w1.cell? ⟨W.heap.size, 3, none⟩ = some (.int .i64 a.b0) := K1.out.v.b.fa.cell 3
  have a4 : w1.cell? ⟨W.heap.size, 4, none⟩ = some (.int .i64 a.b1) := K1.out.v.b.fa.cell 4
  have l0 : w1.cell? ⟨W.heap.size + 1, 0, none⟩ = some (.int .i64 lo) := K1.out.v.fw.cell 0
  have l1 : w1.cell? ⟨W.heap.size + 1, 1, none⟩ = some (.int .i64 hi) := K1.out.v.fw.cell 1
  cases hins : insB a lo hi L
  · rw [runE_no hins] at HR
    have HIN := Lib.hid hins
    clear hins HU HRx HUx
    go_wp2_with fail
    refine (HR.out _ K1.out.ar K1.out.sr).mono ?_
    rintro e w2 ⟨rfl, hb⟩
    have K2 := Lib.hid (K1.out.step hb)
    clear hb a0 a1 a2 a3 a4 l0 l1
    go_upto_region 4 with fail
    have K3 := Lib.hid (K2.out.step ((below_one w2 (.cells #[.int .i64 0, .int .i64 0] 24)).alloc (Nat.le_of_lt (by simp)) (.cells (moi ⟨0, 0, 0, 0, 0⟩ ⟨0, 0, 0, 0, 0⟩) 34)))
    generalize (w2.alloc (.cells #[.int .i64 0, .int .i64 0] 24)).alloc (.cells (moi ⟨0, 0, 0, 0, 0⟩ ⟨0, 0, 0, 0, 0⟩) 34) = w3 at K3 ⊢
    have a0 : w3.cell? ⟨W.heap.size, 0, none⟩ = some (.int .i64 a.R) := K3.out.v.b.fa.cell 0
    have a1 : w3.cell? ⟨W.heap.size, 1, none⟩ = some (.slice A a.T.length ca) := K3.out.v.b.fa.cell 1
    have a2 : w3.cell? ⟨W.heap.size, 2, none⟩ = some (.slice B a.H.length cb) := K3.out.v.b.fa.cell 2
    have a3 : w3.cell? ⟨W.heap.size, 3, none⟩ = some (.int .i64 a.b0) := K3.out.v.b.fa.cell 3
    have a4 : w3.cell? ⟨W.heap.size, 4, none⟩ = some (.int .i64 a.b1) := K3.out.v.b.fa.cell 4
    have l0 : w3.cell? ⟨W.heap.size + 1, 0, none⟩ = some (.int .i64 lo) := K3.out.v.fw.cell 0
    have l1 : w3.cell? ⟨W.heap.size + 1, 1, none⟩ = some (.int .i64 hi) := K3.out.v.fw.cell 1
    go_wp2_with fail
    refine (HD.out _ K3.out.ar K3.out.sr).mono ?_
    rintro e w4 ⟨hb, ⟨-, rfl⟩ | ⟨h9, -⟩⟩
    rotate_left
    · rw [HIN.out] at h9; cases h9
    have K4 := Lib.hid (K3.out.step hb)
    clear hb a0 a1 a2 a3 a4 l0 l1
    go_wp2_with fail
    refine (HAw.out _).mono ?_
    rintro e wz ⟨rfl, hbz⟩
    have KZ := Lib.hid (K4.out.step hbz)
    clear hbz
    go_wp2_with fail
    go_ret
    exact ⟨rfl, KZ.out.v.b.b⟩
  rw [runE_yes hins] at HR
  have HIN := Lib.hid hins
  obtain ⟨ux, uy, ux', uy', ue, hu1, hu2, hux, huy, hue⟩ := rust_same (lim := lim) hins hmo.1
  rw [hu1] at HU
  have HUS := Lib.hid (HUx.out (dryL (strF more) L))
  rw [hu2] at HUS
  have HRS := Lib.hid (HRx.out (dryL (strF more) L))
  rw [runE_yes (strong_ins hins hmo.1)] at HRS
  have hsd := strong_dew hins hmo.1
  have hl200 : L.length ≤ 200 := ((insB_iff _ _ _ _).1 hins).2.2.1
  obtain ⟨xL, hxL⟩ : ∃ c, c = runL a lo L := ⟨_, rfl⟩
  obtain ⟨xH, hxH⟩ : ∃ c, c = runH a hi L := ⟨_, rfl⟩
  obtain ⟨sL, hsL⟩ : ∃ c, c = runL a lo (dryL (strF more) L) := ⟨_, rfl⟩
  obtain ⟨sH, hsH⟩ : ∃ c, c = runH a hi (dryL (strF more) L) := ⟨_, rfl⟩
  rw [← hxL, ← hxH] at HR hsd
  rw [← hsL, ← hsH] at HRS hsd
  have HSD := Lib.hid (And.intro hsd (And.intro hux (And.intro huy hue)))
  have HDI := Lib.hid (ins_dry hins)
  clear hins hu1 hu2 hux huy hue hsd hxL hxH hsL hsH HUx
  dsimp only at HU HUS
  go_wp2_with fail
  refine (HR.out _ K1.out.ar K1.out.sr).mono ?_
  rintro e w2 ⟨rfl, hb⟩
  have K2 := Lib.hid (K1.out.step hb)
  clear hb HR a0 a1 a2 a3 a4 l0 l1
  go_upto_region 4 with fail
  have K3 := Lib.hid (And.intro (K2.out.step ((below_one w2 (.cells #[.int .i64 xL.w, .int .i64 xH.w] 24)).alloc (Nat.le_of_lt (by simp)) (.cells (moi xL xH) 34))) (show Has ((w2.alloc (.cells #[.int .i64 xL.w, .int .i64 xH.w] 24)).alloc (.cells (moi xL xH) 34)) (w2.heap.size + 1) 34 (moi xL xH) from has_newAt (by simp)))
  generalize (w2.alloc (.cells #[.int .i64 xL.w, .int .i64 xH.w] 24)).alloc (.cells (moi xL xH) 34) = w3 at K3 ⊢
  generalize w2.heap.size = DM at K3 ⊢
  clear K2 K1
  have a0 : w3.cell? ⟨W.heap.size, 0, none⟩ = some (.int .i64 a.R) := K3.out.1.v.b.fa.cell 0
  have a1 : w3.cell? ⟨W.heap.size, 1, none⟩ = some (.slice A a.T.length ca) := K3.out.1.v.b.fa.cell 1
  have a2 : w3.cell? ⟨W.heap.size, 2, none⟩ = some (.slice B a.H.length cb) := K3.out.1.v.b.fa.cell 2
  have a3 : w3.cell? ⟨W.heap.size, 3, none⟩ = some (.int .i64 a.b0) := K3.out.1.v.b.fa.cell 3
  have a4 : w3.cell? ⟨W.heap.size, 4, none⟩ = some (.int .i64 a.b1) := K3.out.1.v.b.fa.cell 4
  have l0 : w3.cell? ⟨W.heap.size + 1, 0, none⟩ = some (.int .i64 lo) := K3.out.1.v.fw.cell 0
  have l1 : w3.cell? ⟨W.heap.size + 1, 1, none⟩ = some (.int .i64 hi) := K3.out.1.v.fw.cell 1
  go_wp2_with fail
  refine (HD.out _ K3.out.1.ar K3.out.1.sr).mono ?_
  rintro e w4 ⟨hb, ⟨h9, -⟩ | ⟨-, r, hr, rfl⟩⟩
  · rw [HIN.out] at h9; cases h9
  have K4 := Lib.hid (show LB W w4 a A B ca cb lo hi L AL ∧ Has w4 (DM + 1) 34 (moi xL xH) from ⟨K3.out.1.step hb, K3.out.2.below hb K3.out.2.lt⟩)
  clear hb K3 HD K0 HMany a0 a1 a2 a3 a4 l0 l1
  generalize hnn : (if r = 68719476737 then (0 : Int) else (r : Int)) = nn
  generalize hff : (if r = 68719476737 then (4 : Int) else (0 : Int)) = ff
  by_cases hrn : r = 68719476737
  · rw [if_pos hrn] at hnn hff
    subst hff
    have HF := Lib.hid (show DrF a hi L nn 4 68719476736 from by rw [← hnn]; rw [hrn] at hr; exact drf_none HIN.out hr)
    clear hr hnn hrn
    have hn0 := HF.out.n0
    have hn1 : ¬ nn < 0 := by omega
    have hn2 : ¬ 68719476736 < nn := by omega
    have HRJ := Lib.hid (HRx.out (dryL (fun _ => 68719476736) L))
    rw [runE_yes (dryL_ins HIN.out (fun _ _ => HF.out.j0))] at HRJ
    have HRW := Lib.hid (HRx.out (dryL (fun _ => max 0 (nn - 1)) L))
    rw [runE_yes (dryL_ins HIN.out (fun _ _ => by omega))] at HRW
    have HPQ : Hid ((0 ≤ (runH a hi (dryL (fun _ => 68719476736) L)).dew ∧ (4 = (0 : Int) → (runH a hi (dryL (fun _ => 68719476736) L)).dew = 0) ∧ (4 ≠ (0 : Int) → (runH a hi (dryL (fun _ => 68719476736) L)).dew ≠ 0)) ∧ (4 = (0 : Int) → nn ≠ 0 → 0 < (runH a hi (dryL (fun _ => max 0 (nn - 1)) L)).dew)) := Lib.hid ⟨⟨HF.out.p0, HF.out.p, HF.out.p4⟩, HF.out.q⟩
    obtain ⟨jL, hjL⟩ : ∃ c, c = runL a lo (dryL (fun _ => 68719476736) L) := ⟨_, rfl⟩
    obtain ⟨jH, hjH⟩ : ∃ c, c = runH a hi (dryL (fun _ => 68719476736) L) := ⟨_, rfl⟩
    obtain ⟨kL, hkL⟩ : ∃ c, c = runL a lo (dryL (fun _ => max 0 (nn - 1)) L) := ⟨_, rfl⟩
    obtain ⟨kH, hkH⟩ : ∃ c, c = runH a hi (dryL (fun _ => max 0 (nn - 1)) L) := ⟨_, rfl⟩
    rw [← hjL, ← hjH] at HRJ
    rw [← hkL, ← hkH] at HRW
    rw [← hjH, ← hkH] at HPQ
    clear hjL hjH hkL hkH HRx HF
    go_wp2_with fail
    go_loopg [16, 17, 18, 19] L.length (fun gk u1 u2 u3 i wr => ∃ k : Nat, k ≤ L.length ∧ L.length - k ≤ gk ∧ i = .int .i64 k ∧ ∃ (m1 m2 m3 : List Stp) (V1 : Option Addr) (c1 : Nat) (V2 : Option Addr) (c2 : Nat) (V3 : Option Addr) (c3 : Nat), u1 = .slice V1 m1.length c1 ∧ u2 = .slice V2 m2.length c2 ∧ u3 = .slice V3 m3.length c3 ∧ Hid (T0 w4 wr (.slice V1 m1.length c1) (.slice V2 m2.length c2) (.slice V3 m3.length c3) m1 m2 m3 ∧ m1 = dryL (strF more) (L.take k) ∧ m2 = dryL (fun _ => 68719476736) (L.take k) ∧ m3 = dryL (fun _ => max 0 (nn - 1)) (L.take k)))
    case atStart => exact ⟨0, Nat.zero_le _, Nat.le_refl _, rfl, [], [], [], none, 0, none, 0, none, 0, rfl, rfl, rfl, Lib.hid ⟨T0.start _, by simp [dryL], by simp [dryL], by simp [dryL]⟩⟩
    case round =>
      obtain ⟨k, hk, hgk, rfl, m1, m2, m3, V1, c1, V2, c2, V3, c3, rfl, rfl, rfl, HW⟩ := hrel
      by_cases hlt : k < L.length
      rotate_left
      · have hge : ¬ (k : Int) < L.length := by omega
        have htk : L.take k = L := List.take_of_length_le (by omega)
        obtain ⟨hw0, hm1, hm2, hm3⟩ := HW.out
        rw [htk] at hm1 hm2 hm3
        have hq1 : m1.length = L.length := by rw [hm1, dryL_len]
        have hq2 : m2.length = L.length := by rw [hm2, dryL_len]
        have hq3 : m3.length = L.length := by rw [hm3, dryL_len]
        have KL : Hid (LB W wr a A B ca cb lo hi L AL ∧ Has wr (DM + 1) 34 (moi xL xH) ∧ SRow wr wr.heap.size V1 m1 ∧ SRow wr wr.heap.size V2 m2 ∧ SRow wr wr.heap.size V3 m3) := Lib.hid (by
          obtain ⟨A1, d1, e1, s1⟩ := row_steps hw0.o1
          obtain ⟨A2, d2, e2, s2⟩ := row_steps hw0.o2
          obtain ⟨A3, d3, e3, s3⟩ := row_steps hw0.o3
          cases e1; cases e2; cases e3
          exact ⟨K4.out.1.step hw0.b, K4.out.2.below hw0.b K4.out.2.lt, s1, s2, s3⟩)
        have HR1 := Lib.hid (fun w har hs => (hm1 ▸ HRS.out : ∀ V c w, AR w w.heap.size a A B → SRow w w.heap.size V m1 → m1.length ≤ 9223372036854775807 → _) V1 c1 w har hs (by omega))
        have HR2 := Lib.hid (fun w har hs => (hm2 ▸ HRJ.out : ∀ V c w, AR w w.heap.size a A B → SRow w w.heap.size V m2 → m2.length ≤ 9223372036854775807 → _) V2 c2 w har hs (by omega))
        have HR3 := Lib.hid (fun w har hs => (hm3 ▸ HRW.out : ∀ V c w, AR w w.heap.size a A B → SRow w w.heap.size V m3 → m3.length ≤ 9223372036854775807 → _) V3 c3 w har hs (by omega))
        have HU1 := Lib.hid (fun w har hs => (hm1 ▸ HUS.out : ∀ V c w, AR w w.heap.size a A B → SRow w w.heap.size V m1 → m1.length ≤ 9223372036854775807 → _) V1 c1 w har hs (by omega))
        clear hw0 hm1 hm2 hm3 htk hq1 hq2 hq3 HW hk hgk hlt HRS HRJ HRW HUS HDI K4
        have a0 : wr.cell? ⟨W.heap.size, 0, none⟩ = some (.int .i64 a.R) := KL.out.1.v.b.fa.cell 0
        have a1 : wr.cell? ⟨W.heap.size, 1, none⟩ = some (.slice A a.T.length ca) := KL.out.1.v.b.fa.cell 1
        have a2 : wr.cell? ⟨W.heap.size, 2, none⟩ = some (.slice B a.H.length cb) := KL.out.1.v.b.fa.cell 2
        have a3 : wr.cell? ⟨W.heap.size, 3, none⟩ = some (.int .i64 a.b0) := KL.out.1.v.b.fa.cell 3
        have a4 : wr.cell? ⟨W.heap.size, 4, none⟩ = some (.int .i64 a.b1) := KL.out.1.v.b.fa.cell 4
        have l0 : wr.cell? ⟨W.heap.size + 1, 0, none⟩ = some (.int .i64 lo) := KL.out.1.v.fw.cell 0
        have l1 : wr.cell? ⟨W.heap.size + 1, 1, none⟩ = some (.int .i64 hi) := KL.out.1.v.fw.cell 1
        go_wp2_with fail
        refine (HR1.out _ KL.out.1.ar KL.out.2.2.1).mono ?_
        rintro e wc1 ⟨rfl, hb⟩
        have KM2 := Lib.hid (show LB W wc1 a A B ca cb lo hi L AL ∧ Has wc1 (DM + 1) 34 (moi xL xH) ∧ SRow wc1 wc1.heap.size V1 m1 ∧ SRow wc1 wc1.heap.size V2 m2 ∧ SRow wc1 wc1.heap.size V3 m3 from ⟨KL.out.1.step hb, (KL.out.2.1).below hb (KL.out.2.1).lt, (KL.out.2.2.1).step hb, (KL.out.2.2.2.1).step hb, (KL.out.2.2.2.2).step hb⟩)
        clear hb KL a0 a1 a2 a3 a4 l0 l1
        go_upto_region 23 with fail
        have KN3 := Lib.hid (show LB W ((wc1.alloc (.cells #[.int .i64 sL.w, .int .i64 sH.w] 24)).alloc (.cells (moi sL sH) 34)) a A B ca cb lo hi L AL ∧ Has ((wc1.alloc (.cells #[.int .i64 sL.w, .int .i64 sH.w] 24)).alloc (.cells (moi sL sH) 34)) (DM + 1) 34 (moi xL xH) ∧ SRow ((wc1.alloc (.cells #[.int .i64 sL.w, .int .i64 sH.w] 24)).alloc (.cells (moi sL sH) 34)) ((wc1.alloc (.cells #[.int .i64 sL.w, .int .i64 sH.w] 24)).alloc (.cells (moi sL sH) 34)).heap.size V1 m1 ∧ SRow ((wc1.alloc (.cells #[.int .i64 sL.w, .int .i64 sH.w] 24)).alloc (.cells (moi sL sH) 34)) ((wc1.alloc (.cells #[.int .i64 sL.w, .int .i64 sH.w] 24)).alloc (.cells (moi sL sH) 34)).heap.size V2 m2 ∧ SRow ((wc1.alloc (.cells #[.int .i64 sL.w, .int .i64 sH.w] 24)).alloc (.cells (moi sL sH) 34)) ((wc1.alloc (.cells #[.int .i64 sL.w, .int .i64 sH.w] 24)).alloc (.cells (moi sL sH) 34)).heap.size V3 m3 ∧ Has ((wc1.alloc (.cells #[.int .i64 sL.w, .int .i64 sH.w] 24)).alloc (.cells (moi sL sH) 34)) (wc1.heap.size + 1) 34 (moi sL sH) from ⟨KM2.out.1.step ((below_one wc1 (.cells #[.int .i64 sL.w, .int .i64 sH.w] 24)).alloc (Nat.le_of_lt (by simp)) (.cells (moi sL sH) 34)), (KM2.out.2.1).below ((below_one wc1 (.cells #[.int .i64 sL.w, .int .i64 sH.w] 24)).alloc (Nat.le_of_lt (by simp)) (.cells (moi sL sH) 34)) (KM2.out.2.1).lt, (KM2.out.2.2.1).step ((below_one wc1 (.cells #[.int .i64 sL.w, .int .i64 sH.w] 24)).alloc (Nat.le_of_lt (by simp)) (.cells (moi sL sH) 34)), (KM2.out.2.2.2.1).step ((below_one wc1 (.cells #[.int .i64 sL.w, .int .i64 sH.w] 24)).alloc (Nat.le_of_lt (by simp)) (.cells (moi sL sH) 34)), (KM2.out.2.2.2.2).step ((below_one wc1 (.cells #[.int .i64 sL.w, .int .i64 sH.w] 24)).alloc (Nat.le_of_lt (by simp)) (.cells (moi sL sH) 34)), has_newAt (by simp)⟩)
        clear KM2
        generalize (wc1.alloc (.cells #[.int .i64 sL.w, .int .i64 sH.w] 24)).alloc (.cells (moi sL sH) 34) = wd3 at KN3 ⊢
        generalize wc1.heap.size = Dd3 at KN3 ⊢
        have z0 : wd3.cell? ⟨DM + 1, 6, none⟩ = some (.int .i64 xL.dew) := (KN3.out.2.1).cell 6
        have z1 : wd3.cell? ⟨DM + 1, 7, none⟩ = some (.int .i64 xH.dew) := (KN3.out.2.1).cell 7
        have z2 : wd3.cell? ⟨Dd3 + 1, 6, none⟩ = some (.int .i64 sL.dew) := (KN3.out.2.2.2.2.2).cell 6
        have z3 : wd3.cell? ⟨Dd3 + 1, 7, none⟩ = some (.int .i64 sH.dew) := (KN3.out.2.2.2.2.2).cell 7
        have z4 : ¬ xL.dew < sL.dew := by have := HSD.out.1.1; omega
        have z5 : ¬ xH.dew < sH.dew := by have := HSD.out.1.2; omega
        go_upto_region 25 with fail
        clear z0 z1 z2 z3 z4 z5
        have a0 : wd3.cell? ⟨W.heap.size, 0, none⟩ = some (.int .i64 a.R) := KN3.out.1.v.b.fa.cell 0
        have a1 : wd3.cell? ⟨W.heap.size, 1, none⟩ = some (.slice A a.T.length ca) := KN3.out.1.v.b.fa.cell 1
        have a2 : wd3.cell? ⟨W.heap.size, 2, none⟩ = some (.slice B a.H.length cb) := KN3.out.1.v.b.fa.cell 2
        have a3 : wd3.cell? ⟨W.heap.size, 3, none⟩ = some (.int .i64 a.b0) := KN3.out.1.v.b.fa.cell 3
        have a4 : wd3.cell? ⟨W.heap.size, 4, none⟩ = some (.int .i64 a.b1) := KN3.out.1.v.b.fa.cell 4
        have l0 : wd3.cell? ⟨W.heap.size + 1, 0, none⟩ = some (.int .i64 lo) := KN3.out.1.v.fw.cell 0
        have l1 : wd3.cell? ⟨W.heap.size + 1, 1, none⟩ = some (.int .i64 hi) := KN3.out.1.v.fw.cell 1
        go_wp2_with fail
        refine (HU.out _ KN3.out.1.ar KN3.out.1.sr).mono ?_
        rintro e wu1 ⟨rfl, hb⟩
        have KM4 := Lib.hid (show LB W wu1 a A B ca cb lo hi L AL ∧ Has wu1 (DM + 1) 34 (moi xL xH) ∧ SRow wu1 wu1.heap.size V1 m1 ∧ SRow wu1 wu1.heap.size V2 m2 ∧ SRow wu1 wu1.heap.size V3 m3 ∧ Has wu1 (Dd3 + 1) 34 (moi sL sH) from ⟨KN3.out.1.step hb, (KN3.out.2.1).below hb (KN3.out.2.1).lt, (KN3.out.2.2.1).step hb, (KN3.out.2.2.2.1).step hb, (KN3.out.2.2.2.2.1).step hb, (KN3.out.2.2.2.2.2).below hb (KN3.out.2.2.2.2.2).lt⟩)
        clear hb KN3 a0 a1 a2 a3 a4 l0 l1
        go_upto_region 26 with fail
        have KM5 := Lib.hid (show LB W (wu1.alloc (.cells #[.int .i64 ux, .int .i64 uy] 24)) a A B ca cb lo hi L AL ∧ Has (wu1.alloc (.cells #[.int .i64 ux, .int .i64 uy] 24)) (DM + 1) 34 (moi xL xH) ∧ SRow (wu1.alloc (.cells #[.int .i64 ux, .int .i64 uy] 24)) (wu1.alloc (.cells #[.int .i64 ux, .int .i64 uy] 24)).heap.size V1 m1 ∧ SRow (wu1.alloc (.cells #[.int .i64 ux, .int .i64 uy] 24)) (wu1.alloc (.cells #[.int .i64 ux, .int .i64 uy] 24)).heap.size V2 m2 ∧ SRow (wu1.alloc (.cells #[.int .i64 ux, .int .i64 uy] 24)) (wu1.alloc (.cells #[.int .i64 ux, .int .i64 uy] 24)).heap.size V3 m3 ∧ Has (wu1.alloc (.cells #[.int .i64 ux, .int .i64 uy] 24)) (Dd3 + 1) 34 (moi sL sH) ∧ Has (wu1.alloc (.cells #[.int .i64 ux, .int .i64 uy] 24)) wu1.heap.size 24 #[.int .i64 ux, .int .i64 uy] from ⟨KM4.out.1.step (below_one wu1 (.cells #[.int .i64 ux, .int .i64 uy] 24)), (KM4.out.2.1).below (below_one wu1 (.cells #[.int .i64 ux, .int .i64 uy] 24)) (KM4.out.2.1).lt, (KM4.out.2.2.1).step (below_one wu1 (.cells #[.int .i64 ux, .int .i64 uy] 24)), (KM4.out.2.2.2.1).step (below_one wu1 (.cells #[.int .i64 ux, .int .i64 uy] 24)), (KM4.out.2.2.2.2.1).step (below_one wu1 (.cells #[.int .i64 ux, .int .i64 uy] 24)), (KM4.out.2.2.2.2.2).below (below_one wu1 (.cells #[.int .i64 ux, .int .i64 uy] 24)) (KM4.out.2.2.2.2.2).lt, Has.new _ _ _⟩)
        clear KM4
        generalize wu1.alloc (.cells #[.int .i64 ux, .int .i64 uy] 24) = wu2 at KM5 ⊢
        generalize wu1.heap.size = Du1 at KM5 ⊢
        have a0 : wu2.cell? ⟨W.heap.size, 0, none⟩ = some (.int .i64 a.R) := KM5.out.1.v.b.fa.cell 0
        have a1 : wu2.cell? ⟨W.heap.size, 1, none⟩ = some (.slice A a.T.length ca) := KM5.out.1.v.b.fa.cell 1
        have a2 : wu2.cell? ⟨W.heap.size, 2, none⟩ = some (.slice B a.H.length cb) := KM5.out.1.v.b.fa.cell 2
        have a3 : wu2.cell? ⟨W.heap.size, 3, none⟩ = some (.int .i64 a.b0) := KM5.out.1.v.b.fa.cell 3
        have a4 : wu2.cell? ⟨W.heap.size, 4, none⟩ = some (.int .i64 a.b1) := KM5.out.1.v.b.fa.cell 4
        have l0 : wu2.cell? ⟨W.heap.size + 1, 0, none⟩ = some (.int .i64 lo) := KM5.out.1.v.fw.cell 0
        have l1 : wu2.cell? ⟨W.heap.size + 1, 1, none⟩ = some (.int .i64 hi) := KM5.out.1.v.fw.cell 1
        go_wp2_with fail
        refine (HU1.out _ KM5.out.1.ar KM5.out.2.2.1).mono ?_
        rintro e wu3 ⟨rfl, hb⟩
        have KM6 := Lib.hid (show LB W wu3 a A B ca cb lo hi L AL ∧ Has wu3 (DM + 1) 34 (moi xL xH) ∧ SRow wu3 wu3.heap.size V1 m1 ∧ SRow wu3 wu3.heap.size V2 m2 ∧ SRow wu3 wu3.heap.size V3 m3 ∧ Has wu3 (Dd3 + 1) 34 (moi sL sH) ∧ Has wu3 Du1 24 #[.int .i64 ux, .int .i64 uy] from ⟨KM5.out.1.step hb, (KM5.out.2.1).below hb (KM5.out.2.1).lt, (KM5.out.2.2.1).step hb, (KM5.out.2.2.2.1).step hb, (KM5.out.2.2.2.2.1).step hb, (KM5.out.2.2.2.2.2.1).below hb (KM5.out.2.2.2.2.2.1).lt, (KM5.out.2.2.2.2.2.2).below hb (KM5.out.2.2.2.2.2.2).lt⟩)
        clear hb KM5 a0 a1 a2 a3 a4 l0 l1
        go_upto_region 27 with fail
        have KM7 := Lib.hid (show LB W (wu3.alloc (.cells #[.int .i64 ux', .int .i64 uy'] 24)) a A B ca cb lo hi L AL ∧ Has (wu3.alloc (.cells #[.int .i64 ux', .int .i64 uy'] 24)) (DM + 1) 34 (moi xL xH) ∧ SRow (wu3.alloc (.cells #[.int .i64 ux', .int .i64 uy'] 24)) (wu3.alloc (.cells #[.int .i64 ux', .int .i64 uy'] 24)).heap.size V1 m1 ∧ SRow (wu3.alloc (.cells #[.int .i64 ux', .int .i64 uy'] 24)) (wu3.alloc (.cells #[.int .i64 ux', .int .i64 uy'] 24)).heap.size V2 m2 ∧ SRow (wu3.alloc (.cells #[.int .i64 ux', .int .i64 uy'] 24)) (wu3.alloc (.cells #[.int .i64 ux', .int .i64 uy'] 24)).heap.size V3 m3 ∧ Has (wu3.alloc (.cells #[.int .i64 ux', .int .i64 uy'] 24)) (Dd3 + 1) 34 (moi sL sH) ∧ Has (wu3.alloc (.cells #[.int .i64 ux', .int .i64 uy'] 24)) Du1 24 #[.int .i64 ux, .int .i64 uy] ∧ Has (wu3.alloc (.cells #[.int .i64 ux', .int .i64 uy'] 24)) wu3.heap.size 24 #[.int .i64 ux', .int .i64 uy'] from ⟨KM6.out.1.step (below_one wu3 (.cells #[.int .i64 ux', .int .i64 uy'] 24)), (KM6.out.2.1).below (below_one wu3 (.cells #[.int .i64 ux', .int .i64 uy'] 24)) (KM6.out.2.1).lt, (KM6.out.2.2.1).step (below_one wu3 (.cells #[.int .i64 ux', .int .i64 uy'] 24)), (KM6.out.2.2.2.1).step (below_one wu3 (.cells #[.int .i64 ux', .int .i64 uy'] 24)), (KM6.out.2.2.2.2.1).step (below_one wu3 (.cells #[.int .i64 ux', .int .i64 uy'] 24)), (KM6.out.2.2.2.2.2.1).below (below_one wu3 (.cells #[.int .i64 ux', .int .i64 uy'] 24)) (KM6.out.2.2.2.2.2.1).lt, (KM6.out.2.2.2.2.2.2).below (below_one wu3 (.cells #[.int .i64 ux', .int .i64 uy'] 24)) (KM6.out.2.2.2.2.2.2).lt, Has.new _ _ _⟩)
        clear KM6
        generalize wu3.alloc (.cells #[.int .i64 ux', .int .i64 uy'] 24) = wu4 at KM7 ⊢
        generalize wu3.heap.size = Du2 at KM7 ⊢
        have z0 : wu4.cell? ⟨Du1, 0, none⟩ = some (.int .i64 ux) := (KM7.out.2.2.2.2.2.2.1).cell 0
        have z1 : wu4.cell? ⟨Du1, 1, none⟩ = some (.int .i64 uy) := (KM7.out.2.2.2.2.2.2.1).cell 1
        have z2 : wu4.cell? ⟨Du2, 0, none⟩ = some (.int .i64 ux') := (KM7.out.2.2.2.2.2.2.2).cell 0
        have z3 : wu4.cell? ⟨Du2, 1, none⟩ = some (.int .i64 uy') := (KM7.out.2.2.2.2.2.2.2).cell 1
        have z4 : ¬ ux < ux' := by have := HSD.out.2.1; omega
        have z5 : ¬ uy < uy' := by have := HSD.out.2.2.1; omega
        have HCU : Hid (∀ P : Prop, (ue = 0 → P) → (ue = 2 → P) → P) := Lib.hid fun P h1 h2 => HSD.out.2.2.2.elim h1 h2
        refine HCU.out _ (fun hue => ?_) (fun hue => ?_)
        all_goals
          subst hue
          go_upto_region 29 with fail
          clear z0 z1 z2 z3 z4 z5 HCU
          have a0 : wu4.cell? ⟨W.heap.size, 0, none⟩ = some (.int .i64 a.R) := KM7.out.1.v.b.fa.cell 0
          have a1 : wu4.cell? ⟨W.heap.size, 1, none⟩ = some (.slice A a.T.length ca) := KM7.out.1.v.b.fa.cell 1
          have a2 : wu4.cell? ⟨W.heap.size, 2, none⟩ = some (.slice B a.H.length cb) := KM7.out.1.v.b.fa.cell 2
          have a3 : wu4.cell? ⟨W.heap.size, 3, none⟩ = some (.int .i64 a.b0) := KM7.out.1.v.b.fa.cell 3
          have a4 : wu4.cell? ⟨W.heap.size, 4, none⟩ = some (.int .i64 a.b1) := KM7.out.1.v.b.fa.cell 4
          have l0 : wu4.cell? ⟨W.heap.size + 1, 0, none⟩ = some (.int .i64 lo) := KM7.out.1.v.fw.cell 0
          have l1 : wu4.cell? ⟨W.heap.size + 1, 1, none⟩ = some (.int .i64 hi) := KM7.out.1.v.fw.cell 1
          go_wp2_with fail
          refine (HR2.out _ KM7.out.1.ar KM7.out.2.2.2.1).mono ?_
          rintro e wc8 ⟨rfl, hb⟩
          have KM9 := Lib.hid (show LB W wc8 a A B ca cb lo hi L AL ∧ Has wc8 (DM + 1) 34 (moi xL xH) ∧ SRow wc8 wc8.heap.size V1 m1 ∧ SRow wc8 wc8.heap.size V2 m2 ∧ SRow wc8 wc8.heap.size V3 m3 ∧ Has wc8 (Dd3 + 1) 34 (moi sL sH) ∧ Has wc8 Du1 24 #[.int .i64 ux, .int .i64 uy] ∧ Has wc8 Du2 24 #[.int .i64 ux', .int .i64 uy'] from ⟨KM7.out.1.step hb, (KM7.out.2.1).below hb (KM7.out.2.1).lt, (KM7.out.2.2.1).step hb, (KM7.out.2.2.2.1).step hb, (KM7.out.2.2.2.2.1).step hb, (KM7.out.2.2.2.2.2.1).below hb (KM7.out.2.2.2.2.2.1).lt, (KM7.out.2.2.2.2.2.2.1).below hb (KM7.out.2.2.2.2.2.2.1).lt, (KM7.out.2.2.2.2.2.2.2).below hb (KM7.out.2.2.2.2.2.2.2).lt⟩)
          clear hb KM7 a0 a1 a2 a3 a4 l0 l1
          go_upto_region 30 with fail
          have KN10 := Lib.hid (show LB W ((wc8.alloc (.cells #[.int .i64 jL.w, .int .i64 jH.w] 24)).alloc (.cells (moi jL jH) 34)) a A B ca cb lo hi L AL ∧ Has ((wc8.alloc (.cells #[.int .i64 jL.w, .int .i64 jH.w] 24)).alloc (.cells (moi jL jH) 34)) (DM + 1) 34 (moi xL xH) ∧ SRow ((wc8.alloc (.cells #[.int .i64 jL.w, .int .i64 jH.w] 24)).alloc (.cells (moi jL jH) 34)) ((wc8.alloc (.cells #[.int .i64 jL.w, .int .i64 jH.w] 24)).alloc (.cells (moi jL jH) 34)).heap.size V1 m1 ∧ SRow ((wc8.alloc (.cells #[.int .i64 jL.w, .int .i64 jH.w] 24)).alloc (.cells (moi jL jH) 34)) ((wc8.alloc (.cells #[.int .i64 jL.w, .int .i64 jH.w] 24)).alloc (.cells (moi jL jH) 34)).heap.size V2 m2 ∧ SRow ((wc8.alloc (.cells #[.int .i64 jL.w, .int .i64 jH.w] 24)).alloc (.cells (moi jL jH) 34)) ((wc8.alloc (.cells #[.int .i64 jL.w, .int .i64 jH.w] 24)).alloc (.cells (moi jL jH) 34)).heap.size V3 m3 ∧ Has ((wc8.alloc (.cells #[.int .i64 jL.w, .int .i64 jH.w] 24)).alloc (.cells (moi jL jH) 34)) (Dd3 + 1) 34 (moi sL sH) ∧ Has ((wc8.alloc (.cells #[.int .i64 jL.w, .int .i64 jH.w] 24)).alloc (.cells (moi jL jH) 34)) Du1 24 #[.int .i64 ux, .int .i64 uy] ∧ Has ((wc8.alloc (.cells #[.int .i64 jL.w, .int .i64 jH.w] 24)).alloc (.cells (moi jL jH) 34)) Du2 24 #[.int .i64 ux', .int .i64 uy'] ∧ Has ((wc8.alloc (.cells #[.int .i64 jL.w, .int .i64 jH.w] 24)).alloc (.cells (moi jL jH) 34)) (wc8.heap.size + 1) 34 (moi jL jH) from ⟨KM9.out.1.step ((below_one wc8 (.cells #[.int .i64 jL.w, .int .i64 jH.w] 24)).alloc (Nat.le_of_lt (by simp)) (.cells (moi jL jH) 34)), (KM9.out.2.1).below ((below_one wc8 (.cells #[.int .i64 jL.w, .int .i64 jH.w] 24)).alloc (Nat.le_of_lt (by simp)) (.cells (moi jL jH) 34)) (KM9.out.2.1).lt, (KM9.out.2.2.1).step ((below_one wc8 (.cells #[.int .i64 jL.w, .int .i64 jH.w] 24)).alloc (Nat.le_of_lt (by simp)) (.cells (moi jL jH) 34)), (KM9.out.2.2.2.1).step ((below_one wc8 (.cells #[.int .i64 jL.w, .int .i64 jH.w] 24)).alloc (Nat.le_of_lt (by simp)) (.cells (moi jL jH) 34)), (KM9.out.2.2.2.2.1).step ((below_one wc8 (.cells #[.int .i64 jL.w, .int .i64 jH.w] 24)).alloc (Nat.le_of_lt (by simp)) (.cells (moi jL jH) 34)), (KM9.out.2.2.2.2.2.1).below ((below_one wc8 (.cells #[.int .i64 jL.w, .int .i64 jH.w] 24)).alloc (Nat.le_of_lt (by simp)) (.cells (moi jL jH) 34)) (KM9.out.2.2.2.2.2.1).lt, (KM9.out.2.2.2.2.2.2.1).below ((below_one wc8 (.cells #[.int .i64 jL.w, .int .i64 jH.w] 24)).alloc (Nat.le_of_lt (by simp)) (.cells (moi jL jH) 34)) (KM9.out.2.2.2.2.2.2.1).lt, (KM9.out.2.2.2.2.2.2.2).below ((below_one wc8 (.cells #[.int .i64 jL.w, .int .i64 jH.w] 24)).alloc (Nat.le_of_lt (by simp)) (.cells (moi jL jH) 34)) (KM9.out.2.2.2.2.2.2.2).lt, has_newAt (by simp)⟩)
          clear KM9
          generalize (wc8.alloc (.cells #[.int .i64 jL.w, .int .i64 jH.w] 24)).alloc (.cells (moi jL jH) 34) = wd10 at KN10 ⊢
          generalize wc8.heap.size = Dd10 at KN10 ⊢
          have a0 : wd10.cell? ⟨W.heap.size, 0, none⟩ = some (.int .i64 a.R) := KN10.out.1.v.b.fa.cell 0
          have a1 : wd10.cell? ⟨W.heap.size, 1, none⟩ = some (.slice A a.T.length ca) := KN10.out.1.v.b.fa.cell 1
          have a2 : wd10.cell? ⟨W.heap.size, 2, none⟩ = some (.slice B a.H.length cb) := KN10.out.1.v.b.fa.cell 2
          have a3 : wd10.cell? ⟨W.heap.size, 3, none⟩ = some (.int .i64 a.b0) := KN10.out.1.v.b.fa.cell 3
          have a4 : wd10.cell? ⟨W.heap.size, 4, none⟩ = some (.int .i64 a.b1) := KN10.out.1.v.b.fa.cell 4
          have l0 : wd10.cell? ⟨W.heap.size + 1, 0, none⟩ = some (.int .i64 lo) := KN10.out.1.v.fw.cell 0
          have l1 : wd10.cell? ⟨W.heap.size + 1, 1, none⟩ = some (.int .i64 hi) := KN10.out.1.v.fw.cell 1
          go_wp2_with fail
          refine (HR3.out _ KN10.out.1.ar KN10.out.2.2.2.2.1).mono ?_
          rintro e wc11 ⟨rfl, hb⟩
          have KM12 := Lib.hid (show LB W wc11 a A B ca cb lo hi L AL ∧ Has wc11 (DM + 1) 34 (moi xL xH) ∧ SRow wc11 wc11.heap.size V1 m1 ∧ SRow wc11 wc11.heap.size V2 m2 ∧ SRow wc11 wc11.heap.size V3 m3 ∧ Has wc11 (Dd3 + 1) 34 (moi sL sH) ∧ Has wc11 Du1 24 #[.int .i64 ux, .int .i64 uy] ∧ Has wc11 Du2 24 #[.int .i64 ux', .int .i64 uy'] ∧ Has wc11 (Dd10 + 1) 34 (moi jL jH) from ⟨KN10.out.1.step hb, (KN10.out.2.1).below hb (KN10.out.2.1).lt, (KN10.out.2.2.1).step hb, (KN10.out.2.2.2.1).step hb, (KN10.out.2.2.2.2.1).step hb, (KN10.out.2.2.2.2.2.1).below hb (KN10.out.2.2.2.2.2.1).lt, (KN10.out.2.2.2.2.2.2.1).below hb (KN10.out.2.2.2.2.2.2.1).lt, (KN10.out.2.2.2.2.2.2.2.1).below hb (KN10.out.2.2.2.2.2.2.2.1).lt, (KN10.out.2.2.2.2.2.2.2.2).below hb (KN10.out.2.2.2.2.2.2.2.2).lt⟩)
          clear hb KN10 a0 a1 a2 a3 a4 l0 l1
          go_upto_region 31 with fail
          have KN13 := Lib.hid (show LB W ((wc11.alloc (.cells #[.int .i64 kL.w, .int .i64 kH.w] 24)).alloc (.cells (moi kL kH) 34)) a A B ca cb lo hi L AL ∧ Has ((wc11.alloc (.cells #[.int .i64 kL.w, .int .i64 kH.w] 24)).alloc (.cells (moi kL kH) 34)) (DM + 1) 34 (moi xL xH) ∧ SRow ((wc11.alloc (.cells #[.int .i64 kL.w, .int .i64 kH.w] 24)).alloc (.cells (moi kL kH) 34)) ((wc11.alloc (.cells #[.int .i64 kL.w, .int .i64 kH.w] 24)).alloc (.cells (moi kL kH) 34)).heap.size V1 m1 ∧ SRow ((wc11.alloc (.cells #[.int .i64 kL.w, .int .i64 kH.w] 24)).alloc (.cells (moi kL kH) 34)) ((wc11.alloc (.cells #[.int .i64 kL.w, .int .i64 kH.w] 24)).alloc (.cells (moi kL kH) 34)).heap.size V2 m2 ∧ SRow ((wc11.alloc (.cells #[.int .i64 kL.w, .int .i64 kH.w] 24)).alloc (.cells (moi kL kH) 34)) ((wc11.alloc (.cells #[.int .i64 kL.w, .int .i64 kH.w] 24)).alloc (.cells (moi kL kH) 34)).heap.size V3 m3 ∧ Has ((wc11.alloc (.cells #[.int .i64 kL.w, .int .i64 kH.w] 24)).alloc (.cells (moi kL kH) 34)) (Dd3 + 1) 34 (moi sL sH) ∧ Has ((wc11.alloc (.cells #[.int .i64 kL.w, .int .i64 kH.w] 24)).alloc (.cells (moi kL kH) 34)) Du1 24 #[.int .i64 ux, .int .i64 uy] ∧ Has ((wc11.alloc (.cells #[.int .i64 kL.w, .int .i64 kH.w] 24)).alloc (.cells (moi kL kH) 34)) Du2 24 #[.int .i64 ux', .int .i64 uy'] ∧ Has ((wc11.alloc (.cells #[.int .i64 kL.w, .int .i64 kH.w] 24)).alloc (.cells (moi kL kH) 34)) (Dd10 + 1) 34 (moi jL jH) ∧ Has ((wc11.alloc (.cells #[.int .i64 kL.w, .int .i64 kH.w] 24)).alloc (.cells (moi kL kH) 34)) (wc11.heap.size + 1) 34 (moi kL kH) from ⟨KM12.out.1.step ((below_one wc11 (.cells #[.int .i64 kL.w, .int .i64 kH.w] 24)).alloc (Nat.le_of_lt (by simp)) (.cells (moi kL kH) 34)), (KM12.out.2.1).below ((below_one wc11 (.cells #[.int .i64 kL.w, .int .i64 kH.w] 24)).alloc (Nat.le_of_lt (by simp)) (.cells (moi kL kH) 34)) (KM12.out.2.1).lt, (KM12.out.2.2.1).step ((below_one wc11 (.cells #[.int .i64 kL.w, .int .i64 kH.w] 24)).alloc (Nat.le_of_lt (by simp)) (.cells (moi kL kH) 34)), (KM12.out.2.2.2.1).step ((below_one wc11 (.cells #[.int .i64 kL.w, .int .i64 kH.w] 24)).alloc (Nat.le_of_lt (by simp)) (.cells (moi kL kH) 34)), (KM12.out.2.2.2.2.1).step ((below_one wc11 (.cells #[.int .i64 kL.w, .int .i64 kH.w] 24)).alloc (Nat.le_of_lt (by simp)) (.cells (moi kL kH) 34)), (KM12.out.2.2.2.2.2.1).below ((below_one wc11 (.cells #[.int .i64 kL.w, .int .i64 kH.w] 24)).alloc (Nat.le_of_lt (by simp)) (.cells (moi kL kH) 34)) (KM12.out.2.2.2.2.2.1).lt, (KM12.out.2.2.2.2.2.2.1).below ((below_one wc11 (.cells #[.int .i64 kL.w, .int .i64 kH.w] 24)).alloc (Nat.le_of_lt (by simp)) (.cells (moi kL kH) 34)) (KM12.out.2.2.2.2.2.2.1).lt, (KM12.out.2.2.2.2.2.2.2.1).below ((below_one wc11 (.cells #[.int .i64 kL.w, .int .i64 kH.w] 24)).alloc (Nat.le_of_lt (by simp)) (.cells (moi kL kH) 34)) (KM12.out.2.2.2.2.2.2.2.1).lt, (KM12.out.2.2.2.2.2.2.2.2).below ((below_one wc11 (.cells #[.int .i64 kL.w, .int .i64 kH.w] 24)).alloc (Nat.le_of_lt (by simp)) (.cells (moi kL kH) 34)) (KM12.out.2.2.2.2.2.2.2.2).lt, has_newAt (by simp)⟩)
          clear KM12
          generalize (wc11.alloc (.cells #[.int .i64 kL.w, .int .i64 kH.w] 24)).alloc (.cells (moi kL kH) 34) = wd13 at KN13 ⊢
          generalize wc11.heap.size = Dd13 at KN13 ⊢
          have z0 : wd13.cell? ⟨Dd10 + 1, 7, none⟩ = some (.int .i64 jH.dew) := (KN13.out.2.2.2.2.2.2.2.2.1).cell 7
          have z1 : wd13.cell? ⟨Dd13 + 1, 7, none⟩ = some (.int .i64 kH.dew) := (KN13.out.2.2.2.2.2.2.2.2.2).cell 7
          have z2 : (jH.dew == 0) = false := by have := HPQ.out.1.2.2 (by omega); simpa using this
          go_wp2_with fail
          refine (HAw.out _).mono ?_
          rintro e wz ⟨rfl, hbz⟩
          have KZ := Lib.hid (KN13.out.1.step hbz)
          clear hbz
          go_wp2_with fail
          go_ret
          exact ⟨rfl, KZ.out.v.b.b⟩
      have hlt2 : (k : Int) < L.length := by omega
      have HNX := Lib.hid (And.intro (dryL_take (strF more) L hlt) (And.intro (dryL_take (fun _ => 68719476736) L hlt) (dryL_take (fun _ => max 0 (nn - 1)) L hlt)))
      obtain ⟨g, o, hg, hgs, hc⟩ := K4.out.1.sr k hlt
      have hds := HDI.out L[k] (List.getElem_mem hlt)
      obtain ⟨s, hs⟩ : ∃ s, s = L[k] := ⟨_, rfl⟩
      rw [← hs] at hc hds HNX
      have p0 : wr.cell? ⟨g, o + k * 8, none⟩ = some (.int .i64 s.cold) := (HW.out.1.b.cell (p := ⟨g, _, none⟩) hgs).trans (hc 0 (by omega))
      have p1 : wr.cell? ⟨g, o + k * 8 + 1, none⟩ = some (.int .i64 s.ppl) := (HW.out.1.b.cell (p := ⟨g, _, none⟩) hgs).trans (hc 1 (by omega))
      have p2 : wr.cell? ⟨g, o + k * 8 + 2, none⟩ = some (.int .i64 s.chg) := (HW.out.1.b.cell (p := ⟨g, _, none⟩) hgs).trans (hc 2 (by omega))
      have p3 : wr.cell? ⟨g, o + k * 8 + 3, none⟩ = some (.int .i64 s.o0) := (HW.out.1.b.cell (p := ⟨g, _, none⟩) hgs).trans (hc 3 (by omega))
      have p4 : wr.cell? ⟨g, o + k * 8 + 4, none⟩ = some (.int .i64 s.o1) := (HW.out.1.b.cell (p := ⟨g, _, none⟩) hgs).trans (hc 4 (by omega))
      have p5 : wr.cell? ⟨g, o + k * 8 + 5, none⟩ = some (.int .i64 s.s0) := (HW.out.1.b.cell (p := ⟨g, _, none⟩) hgs).trans (hc 5 (by omega))
      have p6 : wr.cell? ⟨g, o + k * 8 + 6, none⟩ = some (.int .i64 s.s1) := (HW.out.1.b.cell (p := ⟨g, _, none⟩) hgs).trans (hc 6 (by omega))
      have p7 : wr.cell? ⟨g, o + k * 8 + 7, none⟩ = some (.int .i64 s.dry) := (HW.out.1.b.cell (p := ⟨g, _, none⟩) hgs).trans (hc 7 (by omega))
      have hm1 : m1.length ≤ 200 := by rw [HW.out.2.1, dryL_len, List.length_take]; omega
      have hm2 : m2.length ≤ 200 := by rw [HW.out.2.2.1, dryL_len, List.length_take]; omega
      have hm3 : m3.length ≤ 200 := by rw [HW.out.2.2.2, dryL_len, List.length_take]; omega
      have X1 := Lib.hid (HW.out.1.box s)
      have HWE := Lib.hid HW.out.2
      subst hg
      clear hgs hc hs HW hk
      go_upto_region 14 with fail
      unfold stpc at X1
      generalize wr.alloc (.cells #[.int .i64 s.cold, .int .i64 s.ppl, .int .i64 s.chg, .int .i64 s.o0, .int .i64 s.o1, .int .i64 s.s0, .int .i64 s.s1, .int .i64 s.dry] 50) = w5 at X1 ⊢
      generalize wr.heap.size = D at X1 ⊢
      clear p0 p1 p2 p3 p4 p5 p6 p7
      have p7 : w5.cell? ⟨D, 7, none⟩ = some (.int .i64 s.dry) := X1.out.d.cell 7
      have cf := X1.out.d.frozen 7
      have ec : IntKind.i64.wrap more = more := IntWalk.i64_in _ (by omega)
      have hmo1 := hmo.1
      have hmo2 := hmo.2
      have hds1 := hds.1
      have hds2 := hds.2
      obtain ⟨x1, hx1⟩ : ∃ x, x = strF more s := ⟨_, rfl⟩
      rw [← hx1] at HNX
      have hmn : (if s.dry + more < 68719476736 then s.dry + more else 68719476736) = x1 := by rw [hx1]; unfold strF; split <;> omega
      have HMN := Lib.hid hmn
      clear hmn hx1
      have X2 := Lib.hid (X1.out.set 7 (.int .i64 x1) (dryS s x1) rfl)
      go_upto_region 15 with fail
      rw [HMN.out]
      clear p7 cf ec X1 HMN
      generalize w5.setCell ⟨D, 7, none⟩ (.int .i64 x1) = w6 at X2 ⊢
      clear hds hds1 hds2
      have p0 : w6.cell? ⟨D, 0, none⟩ = some (.int .i64 s.cold) := X2.out.d.cell 0
      have p1 : w6.cell? ⟨D, 1, none⟩ = some (.int .i64 s.ppl) := X2.out.d.cell 1
      have p2 : w6.cell? ⟨D, 2, none⟩ = some (.int .i64 s.chg) := X2.out.d.cell 2
      have p3 : w6.cell? ⟨D, 3, none⟩ = some (.int .i64 s.o0) := X2.out.d.cell 3
      have p4 : w6.cell? ⟨D, 4, none⟩ = some (.int .i64 s.o1) := X2.out.d.cell 4
      have p5 : w6.cell? ⟨D, 5, none⟩ = some (.int .i64 s.s0) := X2.out.d.cell 5
      have p6 : w6.cell? ⟨D, 6, none⟩ = some (.int .i64 s.s1) := X2.out.d.cell 6
      have p7 : w6.cell? ⟨D, 7, none⟩ = some (.int .i64 x1) := X2.out.d.cell 7
      have HO : Hid (T3 w4 (w6.alloc (.cells #[.int .i64 s.cold, .int .i64 s.ppl, .int .i64 s.chg, .int .i64 s.o0, .int .i64 s.o1, .int .i64 s.s0, .int .i64 s.s1, .int .i64 x1] 50)) D (dryS s x1) (.slice V1 m1.length c1) (.slice V2 m2.length c2) (.slice V3 m3.length c3) m1 m2 m3 ∧ Has (w6.alloc (.cells #[.int .i64 s.cold, .int .i64 s.ppl, .int .i64 s.chg, .int .i64 s.o0, .int .i64 s.o1, .int .i64 s.s0, .int .i64 s.s1, .int .i64 x1] 50)) w6.heap.size 50 (stpc (dryS s x1))) := Lib.hid ⟨X2.out.step (below_one _ _), Has.new _ _ _⟩
      have HNEW := Lib.hid (step_new HO.out.2)
      go_wp2_with (at_builtin; refine wpList_append_lies _ rfl _ _ 27 rfl w4.heap.size 50 i0 (.agg #[.int .i64 0, .int .i64 0, .int .i64 0, .int .i64 0, .int .i64 0, .int .i64 0, .int .i64 0, .int .i64 0]) 8 64 Try.underlying27 hi0 hz0 hz1 hz2 rfl (by decide) (.slice V1 m1.length c1) m1.length (sfl m1) rfl HO.out.1.o1 ⟨w6.heap.size, 0, none⟩ 1 1 (sfl [dryS s x1]) rfl ?q1w6n_ HNEW.out (sfl_one _) ?q2w6n_ ?q3w6n_ ?q4w6n_ ?q5w6n_ _ rfl ?_)
      all_goals (try (first | rfl | omega | (unfold maxLen; omega) | (have := X2.out.b.size; simp; omega)))
      rintro g1 cap1 w7 hown hgr hgb hlt9
      have X3 := Lib.hid (HO.out.1.app1 (x := dryS s x1) (H := w6.heap.size + 1) (by simp) hown hgr hgb)
      clear hown hgr hgb hlt9 HO HNEW X2 p0 p1 p2 p3 p4 p5 p6 p7
      have p7 : w7.cell? ⟨D, 7, none⟩ = some (.int .i64 x1) := X3.out.d.cell 7
      have cf := X3.out.d.frozen 7
      have X4 := Lib.hid (X3.out.set 7 (.int .i64 nn) (dryS s nn) rfl)
      go_upto_region 17 with fail
      clear p7 cf X3
      generalize w7.setCell ⟨D, 7, none⟩ (.int .i64 nn) = w8 at X4 ⊢
      have p7 : w8.cell? ⟨D, 7, none⟩ = some (.int .i64 nn) := X4.out.d.cell 7
      have cf := X4.out.d.frozen 7
      have X5 := Lib.hid (X4.out.set 7 (.int .i64 68719476736) (dryS s 68719476736) rfl)
      go_upto_region 19 with fail
      clear p7 cf X4
      generalize w8.setCell ⟨D, 7, none⟩ (.int .i64 68719476736) = w9 at X5 ⊢
      have p0 : w9.cell? ⟨D, 0, none⟩ = some (.int .i64 s.cold) := X5.out.d.cell 0
      have p1 : w9.cell? ⟨D, 1, none⟩ = some (.int .i64 s.ppl) := X5.out.d.cell 1
      have p2 : w9.cell? ⟨D, 2, none⟩ = some (.int .i64 s.chg) := X5.out.d.cell 2
      have p3 : w9.cell? ⟨D, 3, none⟩ = some (.int .i64 s.o0) := X5.out.d.cell 3
      have p4 : w9.cell? ⟨D, 4, none⟩ = some (.int .i64 s.o1) := X5.out.d.cell 4
      have p5 : w9.cell? ⟨D, 5, none⟩ = some (.int .i64 s.s0) := X5.out.d.cell 5
      have p6 : w9.cell? ⟨D, 6, none⟩ = some (.int .i64 s.s1) := X5.out.d.cell 6
      have p7 : w9.cell? ⟨D, 7, none⟩ = some (.int .i64 68719476736) := X5.out.d.cell 7
      have HO : Hid (T3 w4 (w9.alloc (.cells #[.int .i64 s.cold, .int .i64 s.ppl, .int .i64 s.chg, .int .i64 s.o0, .int .i64 s.o1, .int .i64 s.s0, .int .i64 s.s1, .int .i64 68719476736] 50)) D (dryS s 68719476736) (.slice (some ⟨g1, 0, none⟩) (m1.length + 1) cap1) (.slice V2 m2.length c2) (.slice V3 m3.length c3) (m1 ++ [dryS s x1]) m2 m3 ∧ Has (w9.alloc (.cells #[.int .i64 s.cold, .int .i64 s.ppl, .int .i64 s.chg, .int .i64 s.o0, .int .i64 s.o1, .int .i64 s.s0, .int .i64 s.s1, .int .i64 68719476736] 50)) w9.heap.size 50 (stpc (dryS s 68719476736))) := Lib.hid ⟨X5.out.step (below_one _ _), Has.new _ _ _⟩
      have HNEW := Lib.hid (step_new HO.out.2)
      go_wp2_with (at_builtin; refine wpList_append_lies _ rfl _ _ 27 rfl w4.heap.size 50 i0 (.agg #[.int .i64 0, .int .i64 0, .int .i64 0, .int .i64 0, .int .i64 0, .int .i64 0, .int .i64 0, .int .i64 0]) 8 64 Try.underlying27 hi0 hz0 hz1 hz2 rfl (by decide) (.slice V2 m2.length c2) m2.length (sfl m2) rfl HO.out.1.o2 ⟨w9.heap.size, 0, none⟩ 1 1 (sfl [dryS s 68719476736]) rfl ?q1w9n_ HNEW.out (sfl_one _) ?q2w9n_ ?q3w9n_ ?q4w9n_ ?q5w9n_ _ rfl ?_)
      all_goals (try (first | rfl | omega | (unfold maxLen; omega) | (have := X5.out.b.size; simp; omega)))
      rintro g2 cap2 w10 hown hgr hgb hlt9
      have X6 := Lib.hid (HO.out.1.app2 (x := dryS s 68719476736) (H := w9.heap.size + 1) (by simp) hown hgr hgb)
      clear hown hgr hgb hlt9 HO HNEW X5 p0 p1 p2 p3 p4 p5 p6 p7
      have p7 : w10.cell? ⟨D, 7, none⟩ = some (.int .i64 68719476736) := X6.out.d.cell 7
      have cf := X6.out.d.frozen 7
      obtain ⟨x3, hx3⟩ : ∃ x, x = max 0 (nn - 1) := ⟨_, rfl⟩
      rw [← hx3] at HNX
      have HX3 := Lib.hid hx3
      have HMA : Hid ((if 0 < nn - 1 then nn - 1 else 0) = x3) := Lib.hid (by rw [hx3]; split <;> omega)
      have HMB : Hid ((if 1 < nn then nn - 1 else 0) = x3) := Lib.hid (by rw [hx3]; split <;> omega)
      have HMC : Hid ((if nn - 1 < 0 then 0 else nn - 1) = x3) := Lib.hid (by rw [hx3]; split <;> omega)
      have HMD : Hid ((if nn < 1 then 0 else nn - 1) = x3) := Lib.hid (by rw [hx3]; split <;> omega)
      clear hx3
      have X7 := Lib.hid (X6.out.set 7 (.int .i64 x3) (dryS s x3) rfl)
      go_upto_region 21 with fail
      first | rw [HMA.out] | rw [HMB.out] | rw [HMC.out] | rw [HMD.out] | rw [← HX3.out]
      clear p7 cf X6 HMA HMB HMC HMD
      generalize w10.setCell ⟨D, 7, none⟩ (.int .i64 x3) = w11 at X7 ⊢
      have p0 : w11.cell? ⟨D, 0, none⟩ = some (.int .i64 s.cold) := X7.out.d.cell 0
      have p1 : w11.cell? ⟨D, 1, none⟩ = some (.int .i64 s.ppl) := X7.out.d.cell 1
      have p2 : w11.cell? ⟨D, 2, none⟩ = some (.int .i64 s.chg) := X7.out.d.cell 2
      have p3 : w11.cell? ⟨D, 3, none⟩ = some (.int .i64 s.o0) := X7.out.d.cell 3
      have p4 : w11.cell? ⟨D, 4, none⟩ = some (.int .i64 s.o1) := X7.out.d.cell 4
      have p5 : w11.cell? ⟨D, 5, none⟩ = some (.int .i64 s.s0) := X7.out.d.cell 5
      have p6 : w11.cell? ⟨D, 6, none⟩ = some (.int .i64 s.s1) := X7.out.d.cell 6
      have p7 : w11.cell? ⟨D, 7, none⟩ = some (.int .i64 x3) := X7.out.d.cell 7
      have HO : Hid (T3 w4 (w11.alloc (.cells #[.int .i64 s.cold, .int .i64 s.ppl, .int .i64 s.chg, .int .i64 s.o0, .int .i64 s.o1, .int .i64 s.s0, .int .i64 s.s1, .int .i64 x3] 50)) D (dryS s x3) (.slice (some ⟨g1, 0, none⟩) (m1.length + 1) cap1) (.slice (some ⟨g2, 0, none⟩) (m2.length + 1) cap2) (.slice V3 m3.length c3) (m1 ++ [dryS s x1]) (m2 ++ [dryS s 68719476736]) m3 ∧ Has (w11.alloc (.cells #[.int .i64 s.cold, .int .i64 s.ppl, .int .i64 s.chg, .int .i64 s.o0, .int .i64 s.o1, .int .i64 s.s0, .int .i64 s.s1, .int .i64 x3] 50)) w11.heap.size 50 (stpc (dryS s x3))) := Lib.hid ⟨X7.out.step (below_one _ _), Has.new _ _ _⟩
      have HNEW := Lib.hid (step_new HO.out.2)
      go_wp2_with (at_builtin; refine wpList_append_lies _ rfl _ _ 27 rfl w4.heap.size 50 i0 (.agg #[.int .i64 0, .int .i64 0, .int .i64 0, .int .i64 0, .int .i64 0, .int .i64 0, .int .i64 0, .int .i64 0]) 8 64 Try.underlying27 hi0 hz0 hz1 hz2 rfl (by decide) (.slice V3 m3.length c3) m3.length (sfl m3) rfl HO.out.1.o3 ⟨w11.heap.size, 0, none⟩ 1 1 (sfl [dryS s x3]) rfl ?q1w11n_ HNEW.out (sfl_one _) ?q2w11n_ ?q3w11n_ ?q4w11n_ ?q5w11n_ _ rfl ?_)
      all_goals (try (first | rfl | omega | (unfold maxLen; omega) | (have := X7.out.b.size; simp; omega)))
      rintro g3 cap3 w12 hown hgr hgb hlt9
      have X8 := Lib.hid (HO.out.1.app3 (x := dryS s x3) (H := w11.heap.size + 1) (by simp) hown hgr hgb)
      clear hown hgr hgb hlt9 HO HNEW X7 p0 p1 p2 p3 p4 p5 p6 p7
      go_wp2_with fail
      go_roundg (L.length - (k + 1))
      case measure => omega
      case rel => exact ⟨k + 1, by omega, Nat.le_refl _, by go_num, m1 ++ [dryS s x1], m2 ++ [dryS s 68719476736], m3 ++ [dryS s x3], some ⟨g1, 0, none⟩, cap1, some ⟨g2, 0, none⟩, cap2, some ⟨g3, 0, none⟩, cap3, by simp, by simp, by simp, Lib.hid ⟨by simpa using X8.out.t0, by rw [HNX.out.1, HWE.out.1], by rw [HNX.out.2.1, HWE.out.2.1], by have h1 := HNX.out.2.2; rw [HX3.out] at h1; rw [h1, ← HWE.out.2.2, HX3.out]⟩⟩
  · rw [if_neg hrn] at hnn hff
    subst hff
    have HF := Lib.hid (show DrF a hi L nn 0 nn from by rw [← hnn]; exact drf_some HIN.out hr hrn)
    clear hr hnn hrn
    have hn0 := HF.out.n0
    have hn1 : ¬ nn < 0 := by omega
    have hn2 : ¬ 68719476736 < nn := by omega
    have HRJ := Lib.hid (HRx.out (dryL (fun _ => nn) L))
    rw [runE_yes (dryL_ins HIN.out (fun _ _ => HF.out.j0))] at HRJ
    have HRW := Lib.hid (HRx.out (dryL (fun _ => max 0 (nn - 1)) L))
    rw [runE_yes (dryL_ins HIN.out (fun _ _ => by omega))] at HRW
    have HPQ : Hid ((0 ≤ (runH a hi (dryL (fun _ => nn) L)).dew ∧ (0 = (0 : Int) → (runH a hi (dryL (fun _ => nn) L)).dew = 0) ∧ (0 ≠ (0 : Int) → (runH a hi (dryL (fun _ => nn) L)).dew ≠ 0)) ∧ (0 = (0 : Int) → nn ≠ 0 → 0 < (runH a hi (dryL (fun _ => max 0 (nn - 1)) L)).dew)) := Lib.hid ⟨⟨HF.out.p0, HF.out.p, HF.out.p4⟩, HF.out.q⟩
    obtain ⟨jL, hjL⟩ : ∃ c, c = runL a lo (dryL (fun _ => nn) L) := ⟨_, rfl⟩
    obtain ⟨jH, hjH⟩ : ∃ c, c = runH a hi (dryL (fun _ => nn) L) := ⟨_, rfl⟩
    obtain ⟨kL, hkL⟩ : ∃ c, c = runL a lo (dryL (fun _ => max 0 (nn - 1)) L) := ⟨_, rfl⟩
    obtain ⟨kH, hkH⟩ : ∃ c, c = runH a hi (dryL (fun _ => max 0 (nn - 1)) L) := ⟨_, rfl⟩
    rw [← hjL, ← hjH] at HRJ
    rw [← hkL, ← hkH] at HRW
    rw [← hjH, ← hkH] at HPQ
    clear hjL hjH hkL hkH HRx HF
    go_wp2_with fail
    go_loopg [16, 17, 18, 19] L.length (fun gk u1 u2 u3 i wr => ∃ k : Nat, k ≤ L.length ∧ L.length - k ≤ gk ∧ i = .int .i64 k ∧ ∃ (m1 m2 m3 : List Stp) (V1 : Option Addr) (c1 : Nat) (V2 : Option Addr) (c2 : Nat) (V3 : Option Addr) (c3 : Nat), u1 = .slice V1 m1.length c1 ∧ u2 = .slice V2 m2.length c2 ∧ u3 = .slice V3 m3.length c3 ∧ Hid (T0 w4 wr (.slice V1 m1.length c1) (.slice V2 m2.length c2) (.slice V3 m3.length c3) m1 m2 m3 ∧ m1 = dryL (strF more) (L.take k) ∧ m2 = dryL (fun _ => nn) (L.take k) ∧ m3 = dryL (fun _ => max 0 (nn - 1)) (L.take k)))
    case atStart => exact ⟨0, Nat.zero_le _, Nat.le_refl _, rfl, [], [], [], none, 0, none, 0, none, 0, rfl, rfl, rfl, Lib.hid ⟨T0.start _, by simp [dryL], by simp [dryL], by simp [dryL]⟩⟩
    case round =>
      obtain ⟨k, hk, hgk, rfl, m1, m2, m3, V1, c1, V2, c2, V3, c3, rfl, rfl, rfl, HW⟩ := hrel
      by_cases hlt : k < L.length
      rotate_left
      · have hge : ¬ (k : Int) < L.length := by omega
        have htk : L.take k = L := List.take_of_length_le (by omega)
        obtain ⟨hw0, hm1, hm2, hm3⟩ := HW.out
        rw [htk] at hm1 hm2 hm3
        have hq1 : m1.length = L.length := by rw [hm1, dryL_len]
        have hq2 : m2.length = L.length := by rw [hm2, dryL_len]
        have hq3 : m3.length = L.length := by rw [hm3, dryL_len]
        have KL : Hid (LB W wr a A B ca cb lo hi L AL ∧ Has wr (DM + 1) 34 (moi xL xH) ∧ SRow wr wr.heap.size V1 m1 ∧ SRow wr wr.heap.size V2 m2 ∧ SRow wr wr.heap.size V3 m3) := Lib.hid (by
          obtain ⟨A1, d1, e1, s1⟩ := row_steps hw0.o1
          obtain ⟨A2, d2, e2, s2⟩ := row_steps hw0.o2
          obtain ⟨A3, d3, e3, s3⟩ := row_steps hw0.o3
          cases e1; cases e2; cases e3
          exact ⟨K4.out.1.step hw0.b, K4.out.2.below hw0.b K4.out.2.lt, s1, s2, s3⟩)
        have HR1 := Lib.hid (fun w har hs => (hm1 ▸ HRS.out : ∀ V c w, AR w w.heap.size a A B → SRow w w.heap.size V m1 → m1.length ≤ 9223372036854775807 → _) V1 c1 w har hs (by omega))
        have HR2 := Lib.hid (fun w har hs => (hm2 ▸ HRJ.out : ∀ V c w, AR w w.heap.size a A B → SRow w w.heap.size V m2 → m2.length ≤ 9223372036854775807 → _) V2 c2 w har hs (by omega))
        have HR3 := Lib.hid (fun w har hs => (hm3 ▸ HRW.out : ∀ V c w, AR w w.heap.size a A B → SRow w w.heap.size V m3 → m3.length ≤ 9223372036854775807 → _) V3 c3 w har hs (by omega))
        have HU1 := Lib.hid (fun w har hs => (hm1 ▸ HUS.out : ∀ V c w, AR w w.heap.size a A B → SRow w w.heap.size V m1 → m1.length ≤ 9223372036854775807 → _) V1 c1 w har hs (by omega))
        clear hw0 hm1 hm2 hm3 htk hq1 hq2 hq3 HW hk hgk hlt HRS HRJ HRW HUS HDI K4
        have a0 : wr.cell? ⟨W.heap.size, 0, none⟩ = some (.int .i64 a.R) := KL.out.1.v.b.fa.cell 0
        have a1 : wr.cell? ⟨W.heap.size, 1, none⟩ = some (.slice A a.T.length ca) := KL.out.1.v.b.fa.cell 1
        have a2 : wr.cell? ⟨W.heap.size, 2, none⟩ = some (.slice B a.H.length cb) := KL.out.1.v.b.fa.cell 2
        have a3 : wr.cell? ⟨W.heap.size, 3, none⟩ = some (.int .i64 a.b0) := KL.out.1.v.b.fa.cell 3
        have a4 : wr.cell? ⟨W.heap.size, 4, none⟩ = some (.int .i64 a.b1) := KL.out.1.v.b.fa.cell 4
        have l0 : wr.cell? ⟨W.heap.size + 1, 0, none⟩ = some (.int .i64 lo) := KL.out.1.v.fw.cell 0
        have l1 : wr.cell? ⟨W.heap.size + 1, 1, none⟩ = some (.int .i64 hi) := KL.out.1.v.fw.cell 1
        go_wp2_with fail
        refine (HR1.out _ KL.out.1.ar KL.out.2.2.1).mono ?_
        rintro e wc1 ⟨rfl, hb⟩
        have KM2 := Lib.hid (show LB W wc1 a A B ca cb lo hi L AL ∧ Has wc1 (DM + 1) 34 (moi xL xH) ∧ SRow wc1 wc1.heap.size V1 m1 ∧ SRow wc1 wc1.heap.size V2 m2 ∧ SRow wc1 wc1.heap.size V3 m3 from ⟨KL.out.1.step hb, (KL.out.2.1).below hb (KL.out.2.1).lt, (KL.out.2.2.1).step hb, (KL.out.2.2.2.1).step hb, (KL.out.2.2.2.2).step hb⟩)
        clear hb KL a0 a1 a2 a3 a4 l0 l1
        go_upto_region 23 with fail
        have KN3 := Lib.hid (show LB W ((wc1.alloc (.cells #[.int .i64 sL.w, .int .i64 sH.w] 24)).alloc (.cells (moi sL sH) 34)) a A B ca cb lo hi L AL ∧ Has ((wc1.alloc (.cells #[.int .i64 sL.w, .int .i64 sH.w] 24)).alloc (.cells (moi sL sH) 34)) (DM + 1) 34 (moi xL xH) ∧ SRow ((wc1.alloc (.cells #[.int .i64 sL.w, .int .i64 sH.w] 24)).alloc (.cells (moi sL sH) 34)) ((wc1.alloc (.cells #[.int .i64 sL.w, .int .i64 sH.w] 24)).alloc (.cells (moi sL sH) 34)).heap.size V1 m1 ∧ SRow ((wc1.alloc (.cells #[.int .i64 sL.w, .int .i64 sH.w] 24)).alloc (.cells (moi sL sH) 34)) ((wc1.alloc (.cells #[.int .i64 sL.w, .int .i64 sH.w] 24)).alloc (.cells (moi sL sH) 34)).heap.size V2 m2 ∧ SRow ((wc1.alloc (.cells #[.int .i64 sL.w, .int .i64 sH.w] 24)).alloc (.cells (moi sL sH) 34)) ((wc1.alloc (.cells #[.int .i64 sL.w, .int .i64 sH.w] 24)).alloc (.cells (moi sL sH) 34)).heap.size V3 m3 ∧ Has ((wc1.alloc (.cells #[.int .i64 sL.w, .int .i64 sH.w] 24)).alloc (.cells (moi sL sH) 34)) (wc1.heap.size + 1) 34 (moi sL sH) from ⟨KM2.out.1.step ((below_one wc1 (.cells #[.int .i64 sL.w, .int .i64 sH.w] 24)).alloc (Nat.le_of_lt (by simp)) (.cells (moi sL sH) 34)), (KM2.out.2.1).below ((below_one wc1 (.cells #[.int .i64 sL.w, .int .i64 sH.w] 24)).alloc (Nat.le_of_lt (by simp)) (.cells (moi sL sH) 34)) (KM2.out.2.1).lt, (KM2.out.2.2.1).step ((below_one wc1 (.cells #[.int .i64 sL.w, .int .i64 sH.w] 24)).alloc (Nat.le_of_lt (by simp)) (.cells (moi sL sH) 34)), (KM2.out.2.2.2.1).step ((below_one wc1 (.cells #[.int .i64 sL.w, .int .i64 sH.w] 24)).alloc (Nat.le_of_lt (by simp)) (.cells (moi sL sH) 34)), (KM2.out.2.2.2.2).step ((below_one wc1 (.cells #[.int .i64 sL.w, .int .i64 sH.w] 24)).alloc (Nat.le_of_lt (by simp)) (.cells (moi sL sH) 34)), has_newAt (by simp)⟩)
        clear KM2
        generalize (wc1.alloc (.cells #[.int .i64 sL.w, .int .i64 sH.w] 24)).alloc (.cells (moi sL sH) 34) = wd3 at KN3 ⊢
        generalize wc1.heap.size = Dd3 at KN3 ⊢
        have z0 : wd3.cell? ⟨DM + 1, 6, none⟩ = some (.int .i64 xL.dew) := (KN3.out.2.1).cell 6
        have z1 : wd3.cell? ⟨DM + 1, 7, none⟩ = some (.int .i64 xH.dew) := (KN3.out.2.1).cell 7
        have z2 : wd3.cell? ⟨Dd3 + 1, 6, none⟩ = some (.int .i64 sL.dew) := (KN3.out.2.2.2.2.2).cell 6
        have z3 : wd3.cell? ⟨Dd3 + 1, 7, none⟩ = some (.int .i64 sH.dew) := (KN3.out.2.2.2.2.2).cell 7
        have z4 : ¬ xL.dew < sL.dew := by have := HSD.out.1.1; omega
        have z5 : ¬ xH.dew < sH.dew := by have := HSD.out.1.2; omega
        go_upto_region 25 with fail
        clear z0 z1 z2 z3 z4 z5
        have a0 : wd3.cell? ⟨W.heap.size, 0, none⟩ = some (.int .i64 a.R) := KN3.out.1.v.b.fa.cell 0
        have a1 : wd3.cell? ⟨W.heap.size, 1, none⟩ = some (.slice A a.T.length ca) := KN3.out.1.v.b.fa.cell 1
        have a2 : wd3.cell? ⟨W.heap.size, 2, none⟩ = some (.slice B a.H.length cb) := KN3.out.1.v.b.fa.cell 2
        have a3 : wd3.cell? ⟨W.heap.size, 3, none⟩ = some (.int .i64 a.b0) := KN3.out.1.v.b.fa.cell 3
        have a4 : wd3.cell? ⟨W.heap.size, 4, none⟩ = some (.int .i64 a.b1) := KN3.out.1.v.b.fa.cell 4
        have l0 : wd3.cell? ⟨W.heap.size + 1, 0, none⟩ = some (.int .i64 lo) := KN3.out.1.v.fw.cell 0
        have l1 : wd3.cell? ⟨W.heap.size + 1, 1, none⟩ = some (.int .i64 hi) := KN3.out.1.v.fw.cell 1
        go_wp2_with fail
        refine (HU.out _ KN3.out.1.ar KN3.out.1.sr).mono ?_
        rintro e wu1 ⟨rfl, hb⟩
        have KM4 := Lib.hid (show LB W wu1 a A B ca cb lo hi L AL ∧ Has wu1 (DM + 1) 34 (moi xL xH) ∧ SRow wu1 wu1.heap.size V1 m1 ∧ SRow wu1 wu1.heap.size V2 m2 ∧ SRow wu1 wu1.heap.size V3 m3 ∧ Has wu1 (Dd3 + 1) 34 (moi sL sH) from ⟨KN3.out.1.step hb, (KN3.out.2.1).below hb (KN3.out.2.1).lt, (KN3.out.2.2.1).step hb, (KN3.out.2.2.2.1).step hb, (KN3.out.2.2.2.2.1).step hb, (KN3.out.2.2.2.2.2).below hb (KN3.out.2.2.2.2.2).lt⟩)
        clear hb KN3 a0 a1 a2 a3 a4 l0 l1
        go_upto_region 26 with fail
        have KM5 := Lib.hid (show LB W (wu1.alloc (.cells #[.int .i64 ux, .int .i64 uy] 24)) a A B ca cb lo hi L AL ∧ Has (wu1.alloc (.cells #[.int .i64 ux, .int .i64 uy] 24)) (DM + 1) 34 (moi xL xH) ∧ SRow (wu1.alloc (.cells #[.int .i64 ux, .int .i64 uy] 24)) (wu1.alloc (.cells #[.int .i64 ux, .int .i64 uy] 24)).heap.size V1 m1 ∧ SRow (wu1.alloc (.cells #[.int .i64 ux, .int .i64 uy] 24)) (wu1.alloc (.cells #[.int .i64 ux, .int .i64 uy] 24)).heap.size V2 m2 ∧ SRow (wu1.alloc (.cells #[.int .i64 ux, .int .i64 uy] 24)) (wu1.alloc (.cells #[.int .i64 ux, .int .i64 uy] 24)).heap.size V3 m3 ∧ Has (wu1.alloc (.cells #[.int .i64 ux, .int .i64 uy] 24)) (Dd3 + 1) 34 (moi sL sH) ∧ Has (wu1.alloc (.cells #[.int .i64 ux, .int .i64 uy] 24)) wu1.heap.size 24 #[.int .i64 ux, .int .i64 uy] from ⟨KM4.out.1.step (below_one wu1 (.cells #[.int .i64 ux, .int .i64 uy] 24)), (KM4.out.2.1).below (below_one wu1 (.cells #[.int .i64 ux, .int .i64 uy] 24)) (KM4.out.2.1).lt, (KM4.out.2.2.1).step (below_one wu1 (.cells #[.int .i64 ux, .int .i64 uy] 24)), (KM4.out.2.2.2.1).step (below_one wu1 (.cells #[.int .i64 ux, .int .i64 uy] 24)), (KM4.out.2.2.2.2.1).step (below_one wu1 (.cells #[.int .i64 ux, .int .i64 uy] 24)), (KM4.out.2.2.2.2.2).below (below_one wu1 (.cells #[.int .i64 ux, .int .i64 uy] 24)) (KM4.out.2.2.2.2.2).lt, Has.new _ _ _⟩)
        clear KM4
        generalize wu1.alloc (.cells #[.int .i64 ux, .int .i64 uy] 24) = wu2 at KM5 ⊢
        generalize wu1.heap.size = Du1 at KM5 ⊢
        have a0 : wu2.cell? ⟨W.heap.size, 0, none⟩ = some (.int .i64 a.R) := KM5.out.1.v.b.fa.cell 0
        have a1 : wu2.cell? ⟨W.heap.size, 1, none⟩ = some (.slice A a.T.length ca) := KM5.out.1.v.b.fa.cell 1
        have a2 : wu2.cell? ⟨W.heap.size, 2, none⟩ = some (.slice B a.H.length cb) := KM5.out.1.v.b.fa.cell 2
        have a3 : wu2.cell? ⟨W.heap.size, 3, none⟩ = some (.int .i64 a.b0) := KM5.out.1.v.b.fa.cell 3
        have a4 : wu2.cell? ⟨W.heap.size, 4, none⟩ = some (.int .i64 a.b1) := KM5.out.1.v.b.fa.cell 4
        have l0 : wu2.cell? ⟨W.heap.size + 1, 0, none⟩ = some (.int .i64 lo) := KM5.out.1.v.fw.cell 0
        have l1 : wu2.cell? ⟨W.heap.size + 1, 1, none⟩ = some (.int .i64 hi) := KM5.out.1.v.fw.cell 1
        go_wp2_with fail
        refine (HU1.out _ KM5.out.1.ar KM5.out.2.2.1).mono ?_
        rintro e wu3 ⟨rfl, hb⟩
        have KM6 := Lib.hid (show LB W wu3 a A B ca cb lo hi L AL ∧ Has wu3 (DM + 1) 34 (moi xL xH) ∧ SRow wu3 wu3.heap.size V1 m1 ∧ SRow wu3 wu3.heap.size V2 m2 ∧ SRow wu3 wu3.heap.size V3 m3 ∧ Has wu3 (Dd3 + 1) 34 (moi sL sH) ∧ Has wu3 Du1 24 #[.int .i64 ux, .int .i64 uy] from ⟨KM5.out.1.step hb, (KM5.out.2.1).below hb (KM5.out.2.1).lt, (KM5.out.2.2.1).step hb, (KM5.out.2.2.2.1).step hb, (KM5.out.2.2.2.2.1).step hb, (KM5.out.2.2.2.2.2.1).below hb (KM5.out.2.2.2.2.2.1).lt, (KM5.out.2.2.2.2.2.2).below hb (KM5.out.2.2.2.2.2.2).lt⟩)
        clear hb KM5 a0 a1 a2 a3 a4 l0 l1
        go_upto_region 27 with fail
        have KM7 := Lib.hid (show LB W (wu3.alloc (.cells #[.int .i64 ux', .int .i64 uy'] 24)) a A B ca cb lo hi L AL ∧ Has (wu3.alloc (.cells #[.int .i64 ux', .int .i64 uy'] 24)) (DM + 1) 34 (moi xL xH) ∧ SRow (wu3.alloc (.cells #[.int .i64 ux', .int .i64 uy'] 24)) (wu3.alloc (.cells #[.int .i64 ux', .int .i64 uy'] 24)).heap.size V1 m1 ∧ SRow (wu3.alloc (.cells #[.int .i64 ux', .int .i64 uy'] 24)) (wu3.alloc (.cells #[.int .i64 ux', .int .i64 uy'] 24)).heap.size V2 m2 ∧ SRow (wu3.alloc (.cells #[.int .i64 ux', .int .i64 uy'] 24)) (wu3.alloc (.cells #[.int .i64 ux', .int .i64 uy'] 24)).heap.size V3 m3 ∧ Has (wu3.alloc (.cells #[.int .i64 ux', .int .i64 uy'] 24)) (Dd3 + 1) 34 (moi sL sH) ∧ Has (wu3.alloc (.cells #[.int .i64 ux', .int .i64 uy'] 24)) Du1 24 #[.int .i64 ux, .int .i64 uy] ∧ Has (wu3.alloc (.cells #[.int .i64 ux', .int .i64 uy'] 24)) wu3.heap.size 24 #[.int .i64 ux', .int .i64 uy'] from ⟨KM6.out.1.step (below_one wu3 (.cells #[.int .i64 ux', .int .i64 uy'] 24)), (KM6.out.2.1).below (below_one wu3 (.cells #[.int .i64 ux', .int .i64 uy'] 24)) (KM6.out.2.1).lt, (KM6.out.2.2.1).step (below_one wu3 (.cells #[.int .i64 ux', .int .i64 uy'] 24)), (KM6.out.2.2.2.1).step (below_one wu3 (.cells #[.int .i64 ux', .int .i64 uy'] 24)), (KM6.out.2.2.2.2.1).step (below_one wu3 (.cells #[.int .i64 ux', .int .i64 uy'] 24)), (KM6.out.2.2.2.2.2.1).below (below_one wu3 (.cells #[.int .i64 ux', .int .i64 uy'] 24)) (KM6.out.2.2.2.2.2.1).lt, (KM6.out.2.2.2.2.2.2).below (below_one wu3 (.cells #[.int .i64 ux', .int .i64 uy'] 24)) (KM6.out.2.2.2.2.2.2).lt, Has.new _ _ _⟩)
        clear KM6
        generalize wu3.alloc (.cells #[.int .i64 ux', .int .i64 uy'] 24) = wu4 at KM7 ⊢
        generalize wu3.heap.size = Du2 at KM7 ⊢
        have z0 : wu4.cell? ⟨Du1, 0, none⟩ = some (.int .i64 ux) := (KM7.out.2.2.2.2.2.2.1).cell 0
        have z1 : wu4.cell? ⟨Du1, 1, none⟩ = some (.int .i64 uy) := (KM7.out.2.2.2.2.2.2.1).cell 1
        have z2 : wu4.cell? ⟨Du2, 0, none⟩ = some (.int .i64 ux') := (KM7.out.2.2.2.2.2.2.2).cell 0
        have z3 : wu4.cell? ⟨Du2, 1, none⟩ = some (.int .i64 uy') := (KM7.out.2.2.2.2.2.2.2).cell 1
        have z4 : ¬ ux < ux' := by have := HSD.out.2.1; omega
        have z5 : ¬ uy < uy' := by have := HSD.out.2.2.1; omega
        have HCU : Hid (∀ P : Prop, (ue = 0 → P) → (ue = 2 → P) → P) := Lib.hid fun P h1 h2 => HSD.out.2.2.2.elim h1 h2
        refine HCU.out _ (fun hue => ?_) (fun hue => ?_)
        all_goals
          subst hue
          go_upto_region 29 with fail
          clear z0 z1 z2 z3 z4 z5 HCU
          have a0 : wu4.cell? ⟨W.heap.size, 0, none⟩ = some (.int .i64 a.R) := KM7.out.1.v.b.fa.cell 0
          have a1 : wu4.cell? ⟨W.heap.size, 1, none⟩ = some (.slice A a.T.length ca) := KM7.out.1.v.b.fa.cell 1
          have a2 : wu4.cell? ⟨W.heap.size, 2, none⟩ = some (.slice B a.H.length cb) := KM7.out.1.v.b.fa.cell 2
          have a3 : wu4.cell? ⟨W.heap.size, 3, none⟩ = some (.int .i64 a.b0) := KM7.out.1.v.b.fa.cell 3
          have a4 : wu4.cell? ⟨W.heap.size, 4, none⟩ = some (.int .i64 a.b1) := KM7.out.1.v.b.fa.cell 4
          have l0 : wu4.cell? ⟨W.heap.size + 1, 0, none⟩ = some (.int .i64 lo) := KM7.out.1.v.fw.cell 0
          have l1 : wu4.cell? ⟨W.heap.size + 1, 1, none⟩ = some (.int .i64 hi) := KM7.out.1.v.fw.cell 1
          go_wp2_with fail
          refine (HR2.out _ KM7.out.1.ar KM7.out.2.2.2.1).mono ?_
          rintro e wc8 ⟨rfl, hb⟩
          have KM9 := Lib.hid (show LB W wc8 a A B ca cb lo hi L AL ∧ Has wc8 (DM + 1) 34 (moi xL xH) ∧ SRow wc8 wc8.heap.size V1 m1 ∧ SRow wc8 wc8.heap.size V2 m2 ∧ SRow wc8 wc8.heap.size V3 m3 ∧ Has wc8 (Dd3 + 1) 34 (moi sL sH) ∧ Has wc8 Du1 24 #[.int .i64 ux, .int .i64 uy] ∧ Has wc8 Du2 24 #[.int .i64 ux', .int .i64 uy'] from ⟨KM7.out.1.step hb, (KM7.out.2.1).below hb (KM7.out.2.1).lt, (KM7.out.2.2.1).step hb, (KM7.out.2.2.2.1).step hb, (KM7.out.2.2.2.2.1).step hb, (KM7.out.2.2.2.2.2.1).below hb (KM7.out.2.2.2.2.2.1).lt, (KM7.out.2.2.2.2.2.2.1).below hb (KM7.out.2.2.2.2.2.2.1).lt, (KM7.out.2.2.2.2.2.2.2).below hb (KM7.out.2.2.2.2.2.2.2).lt⟩)
          clear hb KM7 a0 a1 a2 a3 a4 l0 l1
          go_upto_region 30 with fail
          have KN10 := Lib.hid (show LB W ((wc8.alloc (.cells #[.int .i64 jL.w, .int .i64 jH.w] 24)).alloc (.cells (moi jL jH) 34)) a A B ca cb lo hi L AL ∧ Has ((wc8.alloc (.cells #[.int .i64 jL.w, .int .i64 jH.w] 24)).alloc (.cells (moi jL jH) 34)) (DM + 1) 34 (moi xL xH) ∧ SRow ((wc8.alloc (.cells #[.int .i64 jL.w, .int .i64 jH.w] 24)).alloc (.cells (moi jL jH) 34)) ((wc8.alloc (.cells #[.int .i64 jL.w, .int .i64 jH.w] 24)).alloc (.cells (moi jL jH) 34)).heap.size V1 m1 ∧ SRow ((wc8.alloc (.cells #[.int .i64 jL.w, .int .i64 jH.w] 24)).alloc (.cells (moi jL jH) 34)) ((wc8.alloc (.cells #[.int .i64 jL.w, .int .i64 jH.w] 24)).alloc (.cells (moi jL jH) 34)).heap.size V2 m2 ∧ SRow ((wc8.alloc (.cells #[.int .i64 jL.w, .int .i64 jH.w] 24)).alloc (.cells (moi jL jH) 34)) ((wc8.alloc (.cells #[.int .i64 jL.w, .int .i64 jH.w] 24)).alloc (.cells (moi jL jH) 34)).heap.size V3 m3 ∧ Has ((wc8.alloc (.cells #[.int .i64 jL.w, .int .i64 jH.w] 24)).alloc (.cells (moi jL jH) 34)) (Dd3 + 1) 34 (moi sL sH) ∧ Has ((wc8.alloc (.cells #[.int .i64 jL.w, .int .i64 jH.w] 24)).alloc (.cells (moi jL jH) 34)) Du1 24 #[.int .i64 ux, .int .i64 uy] ∧ Has ((wc8.alloc (.cells #[.int .i64 jL.w, .int .i64 jH.w] 24)).alloc (.cells (moi jL jH) 34)) Du2 24 #[.int .i64 ux', .int .i64 uy'] ∧ Has ((wc8.alloc (.cells #[.int .i64 jL.w, .int .i64 jH.w] 24)).alloc (.cells (moi jL jH) 34)) (wc8.heap.size + 1) 34 (moi jL jH) from ⟨KM9.out.1.step ((below_one wc8 (.cells #[.int .i64 jL.w, .int .i64 jH.w] 24)).alloc (Nat.le_of_lt (by simp)) (.cells (moi jL jH) 34)), (KM9.out.2.1).below ((below_one wc8 (.cells #[.int .i64 jL.w, .int .i64 jH.w] 24)).alloc (Nat.le_of_lt (by simp)) (.cells (moi jL jH) 34)) (KM9.out.2.1).lt, (KM9.out.2.2.1).step ((below_one wc8 (.cells #[.int .i64 jL.w, .int .i64 jH.w] 24)).alloc (Nat.le_of_lt (by simp)) (.cells (moi jL jH) 34)), (KM9.out.2.2.2.1).step ((below_one wc8 (.cells #[.int .i64 jL.w, .int .i64 jH.w] 24)).alloc (Nat.le_of_lt (by simp)) (.cells (moi jL jH) 34)), (KM9.out.2.2.2.2.1).step ((below_one wc8 (.cells #[.int .i64 jL.w, .int .i64 jH.w] 24)).alloc (Nat.le_of_lt (by simp)) (.cells (moi jL jH) 34)), (KM9.out.2.2.2.2.2.1).below ((below_one wc8 (.cells #[.int .i64 jL.w, .int .i64 jH.w] 24)).alloc (Nat.le_of_lt (by simp)) (.cells (moi jL jH) 34)) (KM9.out.2.2.2.2.2.1).lt, (KM9.out.2.2.2.2.2.2.1).below ((below_one wc8 (.cells #[.int .i64 jL.w, .int .i64 jH.w] 24)).alloc (Nat.le_of_lt (by simp)) (.cells (moi jL jH) 34)) (KM9.out.2.2.2.2.2.2.1).lt, (KM9.out.2.2.2.2.2.2.2).below ((below_one wc8 (.cells #[.int .i64 jL.w, .int .i64 jH.w] 24)).alloc (Nat.le_of_lt (by simp)) (.cells (moi jL jH) 34)) (KM9.out.2.2.2.2.2.2.2).lt, has_newAt (by simp)⟩)
          clear KM9
          generalize (wc8.alloc (.cells #[.int .i64 jL.w, .int .i64 jH.w] 24)).alloc (.cells (moi jL jH) 34) = wd10 at KN10 ⊢
          generalize wc8.heap.size = Dd10 at KN10 ⊢
          have a0 : wd10.cell? ⟨W.heap.size, 0, none⟩ = some (.int .i64 a.R) := KN10.out.1.v.b.fa.cell 0
          have a1 : wd10.cell? ⟨W.heap.size, 1, none⟩ = some (.slice A a.T.length ca) := KN10.out.1.v.b.fa.cell 1
          have a2 : wd10.cell? ⟨W.heap.size, 2, none⟩ = some (.slice B a.H.length cb) := KN10.out.1.v.b.fa.cell 2
          have a3 : wd10.cell? ⟨W.heap.size, 3, none⟩ = some (.int .i64 a.b0) := KN10.out.1.v.b.fa.cell 3
          have a4 : wd10.cell? ⟨W.heap.size, 4, none⟩ = some (.int .i64 a.b1) := KN10.out.1.v.b.fa.cell 4
          have l0 : wd10.cell? ⟨W.heap.size + 1, 0, none⟩ = some (.int .i64 lo) := KN10.out.1.v.fw.cell 0
          have l1 : wd10.cell? ⟨W.heap.size + 1, 1, none⟩ = some (.int .i64 hi) := KN10.out.1.v.fw.cell 1
          go_wp2_with fail
          refine (HR3.out _ KN10.out.1.ar KN10.out.2.2.2.2.1).mono ?_
          rintro e wc11 ⟨rfl, hb⟩
          have KM12 := Lib.hid (show LB W wc11 a A B ca cb lo hi L AL ∧ Has wc11 (DM + 1) 34 (moi xL xH) ∧ SRow wc11 wc11.heap.size V1 m1 ∧ SRow wc11 wc11.heap.size V2 m2 ∧ SRow wc11 wc11.heap.size V3 m3 ∧ Has wc11 (Dd3 + 1) 34 (moi sL sH) ∧ Has wc11 Du1 24 #[.int .i64 ux, .int .i64 uy] ∧ Has wc11 Du2 24 #[.int .i64 ux', .int .i64 uy'] ∧ Has wc11 (Dd10 + 1) 34 (moi jL jH) from ⟨KN10.out.1.step hb, (KN10.out.2.1).below hb (KN10.out.2.1).lt, (KN10.out.2.2.1).step hb, (KN10.out.2.2.2.1).step hb, (KN10.out.2.2.2.2.1).step hb, (KN10.out.2.2.2.2.2.1).below hb (KN10.out.2.2.2.2.2.1).lt, (KN10.out.2.2.2.2.2.2.1).below hb (KN10.out.2.2.2.2.2.2.1).lt, (KN10.out.2.2.2.2.2.2.2.1).below hb (KN10.out.2.2.2.2.2.2.2.1).lt, (KN10.out.2.2.2.2.2.2.2.2).below hb (KN10.out.2.2.2.2.2.2.2.2).lt⟩)
          clear hb KN10 a0 a1 a2 a3 a4 l0 l1
          go_upto_region 31 with fail
          have KN13 := Lib.hid (show LB W ((wc11.alloc (.cells #[.int .i64 kL.w, .int .i64 kH.w] 24)).alloc (.cells (moi kL kH) 34)) a A B ca cb lo hi L AL ∧ Has ((wc11.alloc (.cells #[.int .i64 kL.w, .int .i64 kH.w] 24)).alloc (.cells (moi kL kH) 34)) (DM + 1) 34 (moi xL xH) ∧ SRow ((wc11.alloc (.cells #[.int .i64 kL.w, .int .i64 kH.w] 24)).alloc (.cells (moi kL kH) 34)) ((wc11.alloc (.cells #[.int .i64 kL.w, .int .i64 kH.w] 24)).alloc (.cells (moi kL kH) 34)).heap.size V1 m1 ∧ SRow ((wc11.alloc (.cells #[.int .i64 kL.w, .int .i64 kH.w] 24)).alloc (.cells (moi kL kH) 34)) ((wc11.alloc (.cells #[.int .i64 kL.w, .int .i64 kH.w] 24)).alloc (.cells (moi kL kH) 34)).heap.size V2 m2 ∧ SRow ((wc11.alloc (.cells #[.int .i64 kL.w, .int .i64 kH.w] 24)).alloc (.cells (moi kL kH) 34)) ((wc11.alloc (.cells #[.int .i64 kL.w, .int .i64 kH.w] 24)).alloc (.cells (moi kL kH) 34)).heap.size V3 m3 ∧ Has ((wc11.alloc (.cells #[.int .i64 kL.w, .int .i64 kH.w] 24)).alloc (.cells (moi kL kH) 34)) (Dd3 + 1) 34 (moi sL sH) ∧ Has ((wc11.alloc (.cells #[.int .i64 kL.w, .int .i64 kH.w] 24)).alloc (.cells (moi kL kH) 34)) Du1 24 #[.int .i64 ux, .int .i64 uy] ∧ Has ((wc11.alloc (.cells #[.int .i64 kL.w, .int .i64 kH.w] 24)).alloc (.cells (moi kL kH) 34)) Du2 24 #[.int .i64 ux', .int .i64 uy'] ∧ Has ((wc11.alloc (.cells #[.int .i64 kL.w, .int .i64 kH.w] 24)).alloc (.cells (moi kL kH) 34)) (Dd10 + 1) 34 (moi jL jH) ∧ Has ((wc11.alloc (.cells #[.int .i64 kL.w, .int .i64 kH.w] 24)).alloc (.cells (moi kL kH) 34)) (wc11.heap.size + 1) 34 (moi kL kH) from ⟨KM12.out.1.step ((below_one wc11 (.cells #[.int .i64 kL.w, .int .i64 kH.w] 24)).alloc (Nat.le_of_lt (by simp)) (.cells (moi kL kH) 34)), (KM12.out.2.1).below ((below_one wc11 (.cells #[.int .i64 kL.w, .int .i64 kH.w] 24)).alloc (Nat.le_of_lt (by simp)) (.cells (moi kL kH) 34)) (KM12.out.2.1).lt, (KM12.out.2.2.1).step ((below_one wc11 (.cells #[.int .i64 kL.w, .int .i64 kH.w] 24)).alloc (Nat.le_of_lt (by simp)) (.cells (moi kL kH) 34)), (KM12.out.2.2.2.1).step ((below_one wc11 (.cells #[.int .i64 kL.w, .int .i64 kH.w] 24)).alloc (Nat.le_of_lt (by simp)) (.cells (moi kL kH) 34)), (KM12.out.2.2.2.2.1).step ((below_one wc11 (.cells #[.int .i64 kL.w, .int .i64 kH.w] 24)).alloc (Nat.le_of_lt (by simp)) (.cells (moi kL kH) 34)), (KM12.out.2.2.2.2.2.1).below ((below_one wc11 (.cells #[.int .i64 kL.w, .int .i64 kH.w] 24)).alloc (Nat.le_of_lt (by simp)) (.cells (moi kL kH) 34)) (KM12.out.2.2.2.2.2.1).lt, (KM12.out.2.2.2.2.2.2.1).below ((below_one wc11 (.cells #[.int .i64 kL.w, .int .i64 kH.w] 24)).alloc (Nat.le_of_lt (by simp)) (.cells (moi kL kH) 34)) (KM12.out.2.2.2.2.2.2.1).lt, (KM12.out.2.2.2.2.2.2.2.1).below ((below_one wc11 (.cells #[.int .i64 kL.w, .int .i64 kH.w] 24)).alloc (Nat.le_of_lt (by simp)) (.cells (moi kL kH) 34)) (KM12.out.2.2.2.2.2.2.2.1).lt, (KM12.out.2.2.2.2.2.2.2.2).below ((below_one wc11 (.cells #[.int .i64 kL.w, .int .i64 kH.w] 24)).alloc (Nat.le_of_lt (by simp)) (.cells (moi kL kH) 34)) (KM12.out.2.2.2.2.2.2.2.2).lt, has_newAt (by simp)⟩)
          clear KM12
          generalize (wc11.alloc (.cells #[.int .i64 kL.w, .int .i64 kH.w] 24)).alloc (.cells (moi kL kH) 34) = wd13 at KN13 ⊢
          generalize wc11.heap.size = Dd13 at KN13 ⊢
          have z0 : wd13.cell? ⟨Dd10 + 1, 7, none⟩ = some (.int .i64 jH.dew) := (KN13.out.2.2.2.2.2.2.2.2.1).cell 7
          have z1 : wd13.cell? ⟨Dd13 + 1, 7, none⟩ = some (.int .i64 kH.dew) := (KN13.out.2.2.2.2.2.2.2.2.2).cell 7
          have z2 : (jH.dew == 0) = true := by have := HPQ.out.1.2.1 (by trivial); simpa using this
          by_cases hnz : nn = 0
          · have z3 : (nn == 0) = true := by simpa using hnz
            clear hnz
            go_wp2_with fail
            refine (HAw.out _).mono ?_
            rintro e wz ⟨rfl, hbz⟩
            have KZ := Lib.hid (KN13.out.1.step hbz)
            clear hbz
            go_wp2_with fail
            go_ret
            exact ⟨rfl, KZ.out.v.b.b⟩
          · have z3 : (nn == 0) = false := by simpa using hnz
            have z4 : 0 < kH.dew := HPQ.out.2 (by trivial) hnz
            clear hnz
            go_wp2_with fail
            refine (HAw.out _).mono ?_
            rintro e wz ⟨rfl, hbz⟩
            have KZ := Lib.hid (KN13.out.1.step hbz)
            clear hbz
            go_wp2_with fail
            go_ret
            exact ⟨rfl, KZ.out.v.b.b⟩
      have hlt2 : (k : Int) < L.length := by omega
      have HNX := Lib.hid (And.intro (dryL_take (strF more) L hlt) (And.intro (dryL_take (fun _ => nn) L hlt) (dryL_take (fun _ => max 0 (nn - 1)) L hlt)))
      obtain ⟨g, o, hg, hgs, hc⟩ := K4.out.1.sr k hlt
      have hds := HDI.out L[k] (List.getElem_mem hlt)
      obtain ⟨s, hs⟩ : ∃ s, s = L[k] := ⟨_, rfl⟩
      rw [← hs] at hc hds HNX
      have p0 : wr.cell? ⟨g, o + k * 8, none⟩ = some (.int .i64 s.cold) := (HW.out.1.b.cell (p := ⟨g, _, none⟩) hgs).trans (hc 0 (by omega))
      have p1 : wr.cell? ⟨g, o + k * 8 + 1, none⟩ = some (.int .i64 s.ppl) := (HW.out.1.b.cell (p := ⟨g, _, none⟩) hgs).trans (hc 1 (by omega))
      have p2 : wr.cell? ⟨g, o + k * 8 + 2, none⟩ = some (.int .i64 s.chg) := (HW.out.1.b.cell (p := ⟨g, _, none⟩) hgs).trans (hc 2 (by omega))
      have p3 : wr.cell? ⟨g, o + k * 8 + 3, none⟩ = some (.int .i64 s.o0) := (HW.out.1.b.cell (p := ⟨g, _, none⟩) hgs).trans (hc 3 (by omega))
      have p4 : wr.cell? ⟨g, o + k * 8 + 4, none⟩ = some (.int .i64 s.o1) := (HW.out.1.b.cell (p := ⟨g, _, none⟩) hgs).trans (hc 4 (by omega))
      have p5 : wr.cell? ⟨g, o + k * 8 + 5, none⟩ = some (.int .i64 s.s0) := (HW.out.1.b.cell (p := ⟨g, _, none⟩) hgs).trans (hc 5 (by omega))
      have p6 : wr.cell? ⟨g, o + k * 8 + 6, none⟩ = some (.int .i64 s.s1) := (HW.out.1.b.cell (p := ⟨g, _, none⟩) hgs).trans (hc 6 (by omega))
      have p7 : wr.cell? ⟨g, o + k * 8 + 7, none⟩ = some (.int .i64 s.dry) := (HW.out.1.b.cell (p := ⟨g, _, none⟩) hgs).trans (hc 7 (by omega))
      have hm1 : m1.length ≤ 200 := by rw [HW.out.2.1, dryL_len, List.length_take]; omega
      have hm2 : m2.length ≤ 200 := by rw [HW.out.2.2.1, dryL_len, List.length_take]; omega
      have hm3 : m3.length ≤ 200 := by rw [HW.out.2.2.2, dryL_len, List.length_take]; omega
      have X1 := Lib.hid (HW.out.1.box s)
      have HWE := Lib.hid HW.out.2
      subst hg
      clear hgs hc hs HW hk
      go_upto_region 14 with fail
      unfold stpc at X1
      generalize wr.alloc (.cells #[.int .i64 s.cold, .int .i64 s.ppl, .int .i64 s.chg, .int .i64 s.o0, .int .i64 s.o1, .int .i64 s.s0, .int .i64 s.s1, .int .i64 s.dry] 50) = w5 at X1 ⊢
      generalize wr.heap.size = D at X1 ⊢
      clear p0 p1 p2 p3 p4 p5 p6 p7
      have p7 : w5.cell? ⟨D, 7, none⟩ = some (.int .i64 s.dry) := X1.out.d.cell 7
      have cf := X1.out.d.frozen 7
      have ec : IntKind.i64.wrap more = more := IntWalk.i64_in _ (by omega)
      have hmo1 := hmo.1
      have hmo2 := hmo.2
      have hds1 := hds.1
      have hds2 := hds.2
      obtain ⟨x1, hx1⟩ : ∃ x, x = strF more s := ⟨_, rfl⟩
      rw [← hx1] at HNX
      have hmn : (if s.dry + more < 68719476736 then s.dry + more else 68719476736) = x1 := by rw [hx1]; unfold strF; split <;> omega
      have HMN := Lib.hid hmn
      clear hmn hx1
      have X2 := Lib.hid (X1.out.set 7 (.int .i64 x1) (dryS s x1) rfl)
      go_upto_region 15 with fail
      rw [HMN.out]
      clear p7 cf ec X1 HMN
      generalize w5.setCell ⟨D, 7, none⟩ (.int .i64 x1) = w6 at X2 ⊢
      clear hds hds1 hds2
      have p0 : w6.cell? ⟨D, 0, none⟩ = some (.int .i64 s.cold) := X2.out.d.cell 0
      have p1 : w6.cell? ⟨D, 1, none⟩ = some (.int .i64 s.ppl) := X2.out.d.cell 1
      have p2 : w6.cell? ⟨D, 2, none⟩ = some (.int .i64 s.chg) := X2.out.d.cell 2
      have p3 : w6.cell? ⟨D, 3, none⟩ = some (.int .i64 s.o0) := X2.out.d.cell 3
      have p4 : w6.cell? ⟨D, 4, none⟩ = some (.int .i64 s.o1) := X2.out.d.cell 4
      have p5 : w6.cell? ⟨D, 5, none⟩ = some (.int .i64 s.s0) := X2.out.d.cell 5
      have p6 : w6.cell? ⟨D, 6, none⟩ = some (.int .i64 s.s1) := X2.out.d.cell 6
      have p7 : w6.cell? ⟨D, 7, none⟩ = some (.int .i64 x1) := X2.out.d.cell 7
      have HO : Hid (T3 w4 (w6.alloc (.cells #[.int .i64 s.cold, .int .i64 s.ppl, .int .i64 s.chg, .int .i64 s.o0, .int .i64 s.o1, .int .i64 s.s0, .int .i64 s.s1, .int .i64 x1] 50)) D (dryS s x1) (.slice V1 m1.length c1) (.slice V2 m2.length c2) (.slice V3 m3.length c3) m1 m2 m3 ∧ Has (w6.alloc (.cells #[.int .i64 s.cold, .int .i64 s.ppl, .int .i64 s.chg, .int .i64 s.o0, .int .i64 s.o1, .int .i64 s.s0, .int .i64 s.s1, .int .i64 x1] 50)) w6.heap.size 50 (stpc (dryS s x1))) := Lib.hid ⟨X2.out.step (below_one _ _), Has.new _ _ _⟩
      have HNEW := Lib.hid (step_new HO.out.2)
      go_wp2_with (at_builtin; refine wpList_append_lies _ rfl _ _ 27 rfl w4.heap.size 50 i0 (.agg #[.int .i64 0, .int .i64 0, .int .i64 0, .int .i64 0, .int .i64 0, .int .i64 0, .int .i64 0, .int .i64 0]) 8 64 Try.underlying27 hi0 hz0 hz1 hz2 rfl (by decide) (.slice V1 m1.length c1) m1.length (sfl m1) rfl HO.out.1.o1 ⟨w6.heap.size, 0, none⟩ 1 1 (sfl [dryS s x1]) rfl ?q1w6s_ HNEW.out (sfl_one _) ?q2w6s_ ?q3w6s_ ?q4w6s_ ?q5w6s_ _ rfl ?_)
      all_goals (try (first | rfl | omega | (unfold maxLen; omega) | (have := X2.out.b.size; simp; omega)))
      rintro g1 cap1 w7 hown hgr hgb hlt9
      have X3 := Lib.hid (HO.out.1.app1 (x := dryS s x1) (H := w6.heap.size + 1) (by simp) hown hgr hgb)
      clear hown hgr hgb hlt9 HO HNEW X2 p0 p1 p2 p3 p4 p5 p6 p7
      have p7 : w7.cell? ⟨D, 7, none⟩ = some (.int .i64 x1) := X3.out.d.cell 7
      have cf := X3.out.d.frozen 7
      have X4 := Lib.hid (X3.out.set 7 (.int .i64 nn) (dryS s nn) rfl)
      go_upto_region 17 with fail
      clear p7 cf X3
      generalize w7.setCell ⟨D, 7, none⟩ (.int .i64 nn) = w8 at X4 ⊢
      go_upto_region 19 with fail
      have X5 := Lib.hid X4.out
      clear X4
      obtain ⟨w9, rfl⟩ : ∃ w, w = w8 := ⟨_, rfl⟩
      have p0 : w9.cell? ⟨D, 0, none⟩ = some (.int .i64 s.cold) := X5.out.d.cell 0
      have p1 : w9.cell? ⟨D, 1, none⟩ = some (.int .i64 s.ppl) := X5.out.d.cell 1
      have p2 : w9.cell? ⟨D, 2, none⟩ = some (.int .i64 s.chg) := X5.out.d.cell 2
      have p3 : w9.cell? ⟨D, 3, none⟩ = some (.int .i64 s.o0) := X5.out.d.cell 3
      have p4 : w9.cell? ⟨D, 4, none⟩ = some (.int .i64 s.o1) := X5.out.d.cell 4
      have p5 : w9.cell? ⟨D, 5, none⟩ = some (.int .i64 s.s0) := X5.out.d.cell 5
      have p6 : w9.cell? ⟨D, 6, none⟩ = some (.int .i64 s.s1) := X5.out.d.cell 6
      have p7 : w9.cell? ⟨D, 7, none⟩ = some (.int .i64 nn) := X5.out.d.cell 7
      have HO : Hid (T3 w4 (w9.alloc (.cells #[.int .i64 s.cold, .int .i64 s.ppl, .int .i64 s.chg, .int .i64 s.o0, .int .i64 s.o1, .int .i64 s.s0, .int .i64 s.s1, .int .i64 nn] 50)) D (dryS s nn) (.slice (some ⟨g1, 0, none⟩) (m1.length + 1) cap1) (.slice V2 m2.length c2) (.slice V3 m3.length c3) (m1 ++ [dryS s x1]) m2 m3 ∧ Has (w9.alloc (.cells #[.int .i64 s.cold, .int .i64 s.ppl, .int .i64 s.chg, .int .i64 s.o0, .int .i64 s.o1, .int .i64 s.s0, .int .i64 s.s1, .int .i64 nn] 50)) w9.heap.size 50 (stpc (dryS s nn))) := Lib.hid ⟨X5.out.step (below_one _ _), Has.new _ _ _⟩
      have HNEW := Lib.hid (step_new HO.out.2)
      go_wp2_with (at_builtin; refine wpList_append_lies _ rfl _ _ 27 rfl w4.heap.size 50 i0 (.agg #[.int .i64 0, .int .i64 0, .int .i64 0, .int .i64 0, .int .i64 0, .int .i64 0, .int .i64 0, .int .i64 0]) 8 64 Try.underlying27 hi0 hz0 hz1 hz2 rfl (by decide) (.slice V2 m2.length c2) m2.length (sfl m2) rfl HO.out.1.o2 ⟨w9.heap.size, 0, none⟩ 1 1 (sfl [dryS s nn]) rfl ?q1w9s_ HNEW.out (sfl_one _) ?q2w9s_ ?q3w9s_ ?q4w9s_ ?q5w9s_ _ rfl ?_)
      all_goals (try (first | rfl | omega | (unfold maxLen; omega) | (have := X5.out.b.size; simp; omega)))
      rintro g2 cap2 w10 hown hgr hgb hlt9
      have X6 := Lib.hid (HO.out.1.app2 (x := dryS s nn) (H := w9.heap.size + 1) (by simp) hown hgr hgb)
      clear hown hgr hgb hlt9 HO HNEW X5 p0 p1 p2 p3 p4 p5 p6 p7
      have p7 : w10.cell? ⟨D, 7, none⟩ = some (.int .i64 nn) := X6.out.d.cell 7
      have cf := X6.out.d.frozen 7
      obtain ⟨x3, hx3⟩ : ∃ x, x = max 0 (nn - 1) := ⟨_, rfl⟩
      rw [← hx3] at HNX
      have HX3 := Lib.hid hx3
      have HMA : Hid ((if 0 < nn - 1 then nn - 1 else 0) = x3) := Lib.hid (by rw [hx3]; split <;> omega)
      have HMB : Hid ((if 1 < nn then nn - 1 else 0) = x3) := Lib.hid (by rw [hx3]; split <;> omega)
      have HMC : Hid ((if nn - 1 < 0 then 0 else nn - 1) = x3) := Lib.hid (by rw [hx3]; split <;> omega)
      have HMD : Hid ((if nn < 1 then 0 else nn - 1) = x3) := Lib.hid (by rw [hx3]; split <;> omega)
      clear hx3
      have X7 := Lib.hid (X6.out.set 7 (.int .i64 x3) (dryS s x3) rfl)
      go_upto_region 21 with fail
      first | rw [HMA.out] | rw [HMB.out] | rw [HMC.out] | rw [HMD.out] | rw [← HX3.out]
      clear p7 cf X6 HMA HMB HMC HMD
      generalize w10.setCell ⟨D, 7, none⟩ (.int .i64 x3) = w11 at X7 ⊢
      have p0 : w11.cell? ⟨D, 0, none⟩ = some (.int .i64 s.cold) := X7.out.d.cell 0
      have p1 : w11.cell? ⟨D, 1, none⟩ = some (.int .i64 s.ppl) := X7.out.d.cell 1
      have p2 : w11.cell? ⟨D, 2, none⟩ = some (.int .i64 s.chg) := X7.out.d.cell 2
      have p3 : w11.cell? ⟨D, 3, none⟩ = some (.int .i64 s.o0) := X7.out.d.cell 3
      have p4 : w11.cell? ⟨D, 4, none⟩ = some (.int .i64 s.o1) := X7.out.d.cell 4
      have p5 : w11.cell? ⟨D, 5, none⟩ = some (.int .i64 s.s0) := X7.out.d.cell 5
      have p6 : w11.cell? ⟨D, 6, none⟩ = some (.int .i64 s.s1) := X7.out.d.cell 6
      have p7 : w11.cell? ⟨D, 7, none⟩ = some (.int .i64 x3) := X7.out.d.cell 7
      have HO : Hid (T3 w4 (w11.alloc (.cells #[.int .i64 s.cold, .int .i64 s.ppl, .int .i64 s.chg, .int .i64 s.o0, .int .i64 s.o1, .int .i64 s.s0, .int .i64 s.s1, .int .i64 x3] 50)) D (dryS s x3) (.slice (some ⟨g1, 0, none⟩) (m1.length + 1) cap1) (.slice (some ⟨g2, 0, none⟩) (m2.length + 1) cap2) (.slice V3 m3.length c3) (m1 ++ [dryS s x1]) (m2 ++ [dryS s nn]) m3 ∧ Has (w11.alloc (.cells #[.int .i64 s.cold, .int .i64 s.ppl, .int .i64 s.chg, .int .i64 s.o0, .int .i64 s.o1, .int .i64 s.s0, .int .i64 s.s1, .int .i64 x3] 50)) w11.heap.size 50 (stpc (dryS s x3))) := Lib.hid ⟨X7.out.step (below_one _ _), Has.new _ _ _⟩
      have HNEW := Lib.hid (step_new HO.out.2)
      go_wp2_with (at_builtin; refine wpList_append_lies _ rfl _ _ 27 rfl w4.heap.size 50 i0 (.agg #[.int .i64 0, .int .i64 0, .int .i64 0, .int .i64 0, .int .i64 0, .int .i64 0, .int .i64 0, .int .i64 0]) 8 64 Try.underlying27 hi0 hz0 hz1 hz2 rfl (by decide) (.slice V3 m3.length c3) m3.length (sfl m3) rfl HO.out.1.o3 ⟨w11.heap.size, 0, none⟩ 1 1 (sfl [dryS s x3]) rfl ?q1w11s_ HNEW.out (sfl_one _) ?q2w11s_ ?q3w11s_ ?q4w11s_ ?q5w11s_ _ rfl ?_)
      all_goals (try (first | rfl | omega | (unfold maxLen; omega) | (have := X7.out.b.size; simp; omega)))
      rintro g3 cap3 w12 hown hgr hgb hlt9
      have X8 := Lib.hid (HO.out.1.app3 (x := dryS s x3) (H := w11.heap.size + 1) (by simp) hown hgr hgb)
      clear hown hgr hgb hlt9 HO HNEW X7 p0 p1 p2 p3 p4 p5 p6 p7
      go_wp2_with fail
      go_roundg (L.length - (k + 1))
      case measure => omega
      case rel => exact ⟨k + 1, by omega, Nat.le_refl _, by go_num, m1 ++ [dryS s x1], m2 ++ [dryS s nn], m3 ++ [dryS s x3], some ⟨g1, 0, none⟩, cap1, some ⟨g2, 0, none⟩, cap2, some ⟨g3, 0, none⟩, cap3, by simp, by simp, by simp, Lib.hid ⟨by simpa using X8.out.t0, by rw [HNX.out.1, HWE.out.1], by rw [HNX.out.2.1, HWE.out.2.1], by have h1 := HNX.out.2.2; rw [HX3.out] at h1; rw [h1, ← HWE.out.2.2, HX3.out]⟩⟩
end Go.Proofs.Ytdmpkeaanaoeaaa
