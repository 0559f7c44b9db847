/- The law of AirParts. -/
import Derived.Test.YtdmpkeaanaoeaaaPaX
namespace Go.Proofs.Ytdmpkeaanaoeaaa
open Go.RowKit
attribute [local irreducible] wpQuiet
set_option linter.unusedSimpArgs false in
set_option maxRecDepth 100000 in
set_option maxHeartbeats 8000000 in
theorem partsLaw_any (a : Air) (A B : Option Addr) (ca cb : Nat) (lo hi n3 : Int) (L : List Stp) (AL : Option Addr) (cl : Nat) (U : List Int) (AU : Option Addr) (cu : Nat) (W : World) (har : AR W W.heap.size a A B) (hr : SRow W W.heap.size AL L) (hL : L.length ≤ 9223372036854775807) (hLc : L.length ≤ cl) (hcl : cl ≤ 9223372036854775807) (hnil : AL = none → L.length = 0 ∧ cl = 0) (hn3 : 0 ≤ n3 ∧ n3 ≤ 255) (hU : U.length ≤ 9223372036854775807) (hur : URow W W.heap.size AU U) (hub : ∀ n ∈ U, 0 ≤ n ∧ n ≤ 4294967295) :
    Calls Try.prog 6 #[airv a A B ca cb, .agg #[.int .i64 lo, .int .i64 hi], .slice AL L.length cl, .int .u8 n3, .slice AU U.length cu] W (BoolPost true W) := by
  have hmix : Try.prog.follows .mixedOrders = true := by kernel_rfl
  obtain ⟨i0, hi0, hz0, hz1, hz2⟩ := info_parts Try.info50
  have K0 := Lib.hid (box_lb (ca := ca) (cb := cb) (lo := lo) (hi := hi) har hr)
  have HMany := Lib.hid (fun w => many_any a A B AL ca cb cl L.length 60 w har.lt har.lh)
  have HR := Lib.hid (fun w h1 h2 => Run_any a A B ca cb lo hi L AL cl w h1 h2 hL)
  have HVA := Lib.hid (fun w h1 h2 => Valid_any a A B ca cb lo hi L AL cl w h1 h2 hL)
  have HUR := Lib.hid (And.intro hur hub)
  have HRx := Lib.hid (fun (b : Air) x y (M : List Stp) V c w h1 h2 h3 => Run_any b A B ca cb x y M V c w h1 h2 h3)
  have HAw := Lib.hid (fun w => awake_any w)
  unfold ValPost at HR HRx
  unfold BoolPost at HVA
  unfold airv at *
  clear har hr hur hub
  go_enter Try.func6, Try.ntmps6
  go_upto_region 1 with fail
  generalize ((W.alloc (.cells (airc a A B ca cb) 26)).alloc (.cells #[.int .i64 lo, .int .i64 hi] 24)) = w0 at K0 ⊢
  have a0 : w0.cell? ⟨W.heap.size, 0, none⟩ = some (.int .i64 a.R) := K0.out.v.b.fa.cell 0
  have a1 : w0.cell? ⟨W.heap.size, 1, none⟩ = some (.slice A a.T.length ca) := K0.out.v.b.fa.cell 1
  have a2 : w0.cell? ⟨W.heap.size, 2, none⟩ = some (.slice B a.H.length cb) := K0.out.v.b.fa.cell 2
  have a3 : w0.cell? ⟨W.heap.size, 3, none⟩ = some (.int .i64 a.b0) := K0.out.v.b.fa.cell 3
  have a4 : w0.cell? ⟨W.heap.size, 4, none⟩ = some (.int .i64 a.b1) := K0.out.v.b.fa.cell 4
  go_wp2_with fail
  refine (HMany.out _).mono ?_
  rintro e w1 ⟨rfl, hb1⟩
  have K1 := Lib.hid (K0.out.step hb1)
  clear hb1 a0 a1 a2 a3 a4
  cases hm : manyB a L.length 60
  rotate_left
  · clear HR HVA HRx
    go_wp2_with fail
    refine (HAw.out _).mono ?_
    rintro e wz ⟨rfl, hbz⟩
    have KZ := Lib.hid (K1.out.step hbz)
    clear hbz
    go_wp2_with fail
    go_ret
    exact ⟨rfl, KZ.out.v.b.b⟩
  clear hm
  by_cases hU0 : U.length = 0
  · have q0 : ((U.length : Int) == 0) = true := by simp [hU0]
    have HU0 := Lib.hid hU0
    clear hU0 HR HVA HRx
    go_wp2_with fail
    refine (HAw.out _).mono ?_
    rintro e wz ⟨rfl, hbz⟩
    have KZ := Lib.hid (K1.out.step hbz)
    clear hbz
    go_wp2_with fail
    go_ret
    exact ⟨rfl, KZ.out.v.b.b⟩
  have q0 : ((U.length : Int) == 0) = false := by
    have : ¬ (U.length : Int) = 0 := by omega
    simpa using this
  have hUp : 0 < U.length := by omega
  clear hU0
  have a0 : w1.cell? ⟨W.heap.size, 0, none⟩ = some (.int .i64 a.R) := K1.out.v.b.fa.cell 0
  have a1 : w1.cell? ⟨W.heap.size, 1, none⟩ = some (.slice A a.T.length ca) := K1.out.v.b.fa.cell 1
  have a2 : w1.cell? ⟨W.heap.size, 2, none⟩ = some (.slice B a.H.length cb) := K1.out.v.b.fa.cell 2
  have a3 : w1.cell? ⟨W.heap.size, 3, none⟩ = some (.int .i64 a.b0) := K1.out.v.b.fa.cell 3
  have a4 : w1.cell? ⟨W.heap.size, 4, none⟩ = some (.int .i64 a.b1) := K1.out.v.b.fa.cell 4
  have l0 : w1.cell? ⟨W.heap.size + 1, 0, none⟩ = some (.int .i64 lo) := K1.out.v.fw.cell 0
  have l1 : w1.cell? ⟨W.heap.size + 1, 1, none⟩ = some (.int .i64 hi) := K1.out.v.fw.cell 1
  cases hins : insB a lo hi L
  · rw [runE_no hins] at HR
    clear hins HVA HRx
    go_wp2_with fail
    refine (HR.out _ K1.out.ar K1.out.sr).mono ?_
    rintro e w2 ⟨rfl, hb⟩
    have K2 := Lib.hid (K1.out.step hb)
    clear hb a0 a1 a2 a3 a4 l0 l1
    go_upto_region 4 with fail
    have K3 := Lib.hid (And.intro (K2.out.step ((below_one w2 (.cells #[.int .i64 0, .int .i64 0] 24)).alloc (Nat.le_of_lt (by simp)) (.cells (moi ⟨0, 0, 0, 0, 0⟩ ⟨0, 0, 0, 0, 0⟩) 34))) ((Has.new w2 24 #[.int .i64 0, .int .i64 0]).alloc (.cells (moi ⟨0, 0, 0, 0, 0⟩ ⟨0, 0, 0, 0, 0⟩) 34)))
    generalize (w2.alloc (.cells #[.int .i64 0, .int .i64 0] 24)).alloc (.cells (moi ⟨0, 0, 0, 0, 0⟩ ⟨0, 0, 0, 0, 0⟩) 34) = w3 at K3 ⊢
    generalize w2.heap.size = DM at K3 ⊢
    have z0 : w3.cell? ⟨DM, 0, none⟩ = some (.int .i64 0) := K3.out.2.cell 0
    have z1 : w3.cell? ⟨DM, 1, none⟩ = some (.int .i64 0) := K3.out.2.cell 1
    have he := fun w => eql24 0 0 0 0 w
    rw [show decide ((0 : Int) = 0 ∧ (0 : Int) = 0) = true by decide] at he
    go_wp2_with fail
    refine (HAw.out _).mono ?_
    rintro e wz ⟨rfl, hbz⟩
    have KZ := Lib.hid (K3.out.1.step hbz)
    clear hbz
    go_wp2_with fail
    go_ret
    exact ⟨rfl, KZ.out.v.b.b⟩
  rw [runE_yes hins] at HR
  rw [hins] at HVA
  have HIN := Lib.hid hins
  have hl200 : L.length ≤ 200 := ((insB_iff _ _ _ _).1 hins).2.2.1
  obtain ⟨xL, hxL⟩ : ∃ c, c = runL a lo L := ⟨_, rfl⟩
  obtain ⟨xH, hxH⟩ : ∃ c, c = runH a hi L := ⟨_, rfl⟩
  have HX := Lib.hid (And.intro hxL hxH)
  rw [← hxL, ← hxH] at HR
  clear hins hxL hxH
  go_wp2_with fail
  refine (HR.out _ K1.out.ar K1.out.sr).mono ?_
  rintro e w2 ⟨rfl, hb⟩
  have K2 := Lib.hid (K1.out.step hb)
  clear hb HR K1 HMany K0 a0 a1 a2 a3 a4 l0 l1
  go_upto_region 4 with fail
  have K3 := Lib.hid (show LB W ((w2.alloc (.cells #[.int .i64 xL.w, .int .i64 xH.w] 24)).alloc (.cells (moi xL xH) 34)) a A B ca cb lo hi L AL ∧ Has ((w2.alloc (.cells #[.int .i64 xL.w, .int .i64 xH.w] 24)).alloc (.cells (moi xL xH) 34)) w2.heap.size 24 #[.int .i64 xL.w, .int .i64 xH.w] ∧ Has ((w2.alloc (.cells #[.int .i64 xL.w, .int .i64 xH.w] 24)).alloc (.cells (moi xL xH) 34)) (w2.heap.size + 1) 34 (moi xL xH) from ⟨K2.out.step ((below_one w2 (.cells #[.int .i64 xL.w, .int .i64 xH.w] 24)).alloc (Nat.le_of_lt (by simp)) (.cells (moi xL xH) 34)), (Has.new _ _ _).alloc _, has_newAt (by simp)⟩)
  generalize (w2.alloc (.cells #[.int .i64 xL.w, .int .i64 xH.w] 24)).alloc (.cells (moi xL xH) 34) = w3 at K3 ⊢
  generalize w2.heap.size = DM at K3 ⊢
  clear K2
  have a0 : w3.cell? ⟨W.heap.size, 0, none⟩ = some (.int .i64 a.R) := K3.out.1.v.b.fa.cell 0
  have a1 : w3.cell? ⟨W.heap.size, 1, none⟩ = some (.slice A a.T.length ca) := K3.out.1.v.b.fa.cell 1
  have a2 : w3.cell? ⟨W.heap.size, 2, none⟩ = some (.slice B a.H.length cb) := K3.out.1.v.b.fa.cell 2
  have a3 : w3.cell? ⟨W.heap.size, 3, none⟩ = some (.int .i64 a.b0) := K3.out.1.v.b.fa.cell 3
  have a4 : w3.cell? ⟨W.heap.size, 4, none⟩ = some (.int .i64 a.b1) := K3.out.1.v.b.fa.cell 4
  have l0 : w3.cell? ⟨W.heap.size + 1, 0, none⟩ = some (.int .i64 lo) := K3.out.1.v.fw.cell 0
  have l1 : w3.cell? ⟨W.heap.size + 1, 1, none⟩ = some (.int .i64 hi) := K3.out.1.v.fw.cell 1
  go_wp2_with fail
  refine (HVA.out _ K3.out.1.ar K3.out.1.sr).mono ?_
  rintro e w4 ⟨rfl, hb⟩
  have K4 := Lib.hid (show PL W w4 a A B ca cb lo hi L AL DM xL xH from ⟨K3.out.1.step hb, K3.out.2.1.below hb K3.out.2.1.lt, K3.out.2.2.below hb K3.out.2.2.lt⟩)
  clear hb K3 HVA a0 a1 a2 a3 a4 l0 l1
  obtain ⟨k, hk⟩ : ∃ k, k = n3.toNat % (L.length + 1) := ⟨_, rfl⟩
  have hkl : k ≤ L.length := by rw [hk]; exact Nat.le_of_lt_succ (Nat.mod_lt _ (by omega))
  have ec : IntKind.i64.wrap n3 = n3 := IntWalk.i64_in _ (by omega)
  have ee : IntKind.i64.wrap ((L.length : Int) + 1) = (L.length : Int) + 1 := IntWalk.i64_in _ (by omega)
  have em : n3.tmod ((L.length : Int) + 1) = (k : Int) := by
    rw [Int.tmod_eq_emod_of_nonneg hn3.1, hk]
    have h1 : n3 = ((n3.toNat : Nat) : Int) := by omega
    rw [show (L.length : Int) + 1 = ((L.length + 1 : Nat) : Int) by simp, Int.natCast_emod, ← h1]
  have en : ¬ (L.length : Int) + 1 = 0 := by omega
  clear hk
  go_upto_region 9 with fail
  clear ec ee em en hn3
  obtain ⟨pL, hpL⟩ : ∃ c, c = runL a lo (L.take k) := ⟨_, rfl⟩
  obtain ⟨pH, hpH⟩ : ∃ c, c = runH a hi (L.take k) := ⟨_, rfl⟩
  have HC5 : Hid (∀ w', Below w4.heap.size w4 w' → Calls Try.prog 13 #[.agg (airc a A B ca cb), .agg #[.int .i64 lo, .int .i64 hi], .slice AL k cl] w' fun e w'' => e = .returned (.tuple #[.agg #[.int .i64 pL.w, .int .i64 pH.w], .agg (moi pL pH), .int .i64 0]) ∧ Below w'.heap.size w' w'') := Lib.hid fun w' hb => by
    have hx := K4.out.l.step hb
    have h := HRx.out a lo hi (L.take k) AL cl w' hx.ar (srow_take hx.sr k) (by rw [List.length_take]; omega)
    rw [runE_yes (ins_take HIN.out k), List.length_take, Nat.min_eq_left hkl, ← hpL, ← hpH] at h
    exact h
  have HPP := Lib.hid (And.intro hpL hpH)
  clear hpL hpH
  go_cut [15, 16, 17] (fun u15 u16 u17 wx => ∃ D1 D2, u15 = .pointer (some ⟨D1, 0, none⟩) ∧ u16 = .pointer (some ⟨D2, 0, none⟩) ∧ u17 = .int .i64 0 ∧ Hid (TH w4 wx D1 D2 #[.int .i64 pL.w, .int .i64 pH.w] pL pH))
  case first =>
    have KT := Lib.hid (TG.start w4)
    have KS : Hid (∀ w', Below w4.heap.size w4 w' → w'.cell? ⟨W.heap.size, 0, none⟩ = some (.int .i64 a.R) ∧ w'.cell? ⟨W.heap.size, 1, none⟩ = some (.slice A a.T.length ca) ∧ w'.cell? ⟨W.heap.size, 2, none⟩ = some (.slice B a.H.length cb) ∧ w'.cell? ⟨W.heap.size, 3, none⟩ = some (.int .i64 a.b0) ∧ w'.cell? ⟨W.heap.size, 4, none⟩ = some (.int .i64 a.b1) ∧ w'.cell? ⟨W.heap.size + 1, 0, none⟩ = some (.int .i64 lo) ∧ w'.cell? ⟨W.heap.size + 1, 1, none⟩ = some (.int .i64 hi)) := Lib.hid fun w' hb => by
      have X := K4.out.l.step hb
      exact ⟨X.v.b.fa.cell 0, X.v.b.fa.cell 1, X.v.b.fa.cell 2, X.v.b.fa.cell 3, X.v.b.fa.cell 4, X.v.fw.cell 0, X.v.fw.cell 1⟩
    have hk1 : (k : Int) ≤ (cl : Int) := by omega
    have hk2 : k ≤ cl := by omega
    refine wp_region_late (fun w' : World => w'.cell? ⟨W.heap.size, 0, none⟩ = some (.int .i64 a.R) ∧ w'.cell? ⟨W.heap.size, 1, none⟩ = some (.slice A a.T.length ca) ∧ w'.cell? ⟨W.heap.size, 2, none⟩ = some (.slice B a.H.length cb) ∧ w'.cell? ⟨W.heap.size, 3, none⟩ = some (.int .i64 a.b0) ∧ w'.cell? ⟨W.heap.size, 4, none⟩ = some (.int .i64 a.b1) ∧ w'.cell? ⟨W.heap.size + 1, 0, none⟩ = some (.int .i64 lo) ∧ w'.cell? ⟨W.heap.size + 1, 1, none⟩ = some (.int .i64 hi)) [] (by decide +kernel) ?_
    generalize w4.drew = wdp at KT ⊢
    refine wpLate_take (i := 0) (oi := ?oipt1_) (v := ?vpt1_) [5, 6, 7, 8, 9, 12, 13, 14] ?hipt1_ (by decide +kernel) (by decide +kernel) (by decide +kernel) (by decide +kernel) (by decide +kernel) ?hQpt1_ (Or.inl ⟨?hwpt1_, ?hypt1_⟩) (KS.out _ KT.out.b) ?restpt1_
    case hipt1_ => (simp only [List.getElem?_toArray, List.getElem?_cons_zero]; rfl)
    case hQpt1_ => exact fun _ _ _ h => h
    case hwpt1_ => rfl
    case hypt1_ =>
      intro w' hSw
      obtain ⟨r0, r1, r2, r3, r4, r5, r6⟩ := hSw
      go_simp
      try exact rfl
    try simp only [Act.put, List.setIfInBounds_toArray, List.set_cons_zero, List.set_cons_succ]
    refine wpLate_take (i := 1) (oi := ?oipt2_) (v := ?vpt2_) [5, 6, 7, 8, 9, 12, 13, 14] ?hipt2_ (by decide +kernel) (by decide +kernel) (by decide +kernel) (by decide +kernel) (by decide +kernel) ?hQpt2_ (Or.inl ⟨?hwpt2_, ?hypt2_⟩) (KS.out _ KT.out.b) ?restpt2_
    case hipt2_ => (simp only [List.getElem?_toArray, List.getElem?_cons_zero, List.getElem?_cons_succ]; rfl)
    case hQpt2_ => exact fun _ _ _ h => h
    case hwpt2_ => rfl
    case hypt2_ =>
      intro w' hSw
      obtain ⟨r0, r1, r2, r3, r4, r5, r6⟩ := hSw
      go_simp
      try exact rfl
    try simp only [Act.put, List.setIfInBounds_toArray, List.set_cons_zero, List.set_cons_succ]
    refine wpLate_take (i := 2) (oi := ?oipt3_) (v := ?vpt3_) [4, 5, 6, 7, 8, 9, 12, 13, 14] ?hipt3_ (by decide +kernel) (by decide +kernel) (by decide +kernel) (by decide +kernel) (by decide +kernel) ?hQpt3_ (Or.inl ⟨?hwpt3_, ?hypt3_⟩) (KS.out _ KT.out.b) ?restpt3_
    case hipt3_ => (simp only [List.getElem?_toArray, List.getElem?_cons_zero, List.getElem?_cons_succ]; rfl)
    case hQpt3_ => exact fun _ _ _ h => h
    case hwpt3_ => rfl
    case hypt3_ =>
      intro w' hSw
      obtain ⟨r0, r1, r2, r3, r4, r5, r6⟩ := hSw
      go_simp
      try exact rfl
    try simp only [Act.put, List.setIfInBounds_toArray, List.set_cons_zero, List.set_cons_succ]
    refine wpLate_take (i := 3) (oi := ?oipt4_) (v := ?vpt4_) [4, 5, 6, 7, 8, 9, 12, 13, 14] ?hipt4_ (by decide +kernel) (by decide +kernel) (by decide +kernel) (by decide +kernel) (by decide +kernel) ?hQpt4_ (Or.inl ⟨?hwpt4_, ?hypt4_⟩) (KS.out _ KT.out.b) ?restpt4_
    case hipt4_ => (simp only [List.getElem?_toArray, List.getElem?_cons_zero, List.getElem?_cons_succ]; rfl)
    case hQpt4_ => exact fun _ _ _ h => h
    case hwpt4_ => rfl
    case hypt4_ =>
      intro w' hSw
      obtain ⟨r0, r1, r2, r3, r4, r5, r6⟩ := hSw
      go_simp
      try exact rfl
    try simp only [Act.put, List.setIfInBounds_toArray, List.set_cons_zero, List.set_cons_succ]
    refine wpLate_take (i := 4) (oi := ?oipt5_) (v := .slice AL k cl) [5, 6, 7, 8, 9, 12, 13, 14] ?hipt5_ (by decide +kernel) (by decide +kernel) (by decide +kernel) (by decide +kernel) (by decide +kernel) ?hQpt5_ (Or.inl ⟨?hwpt5_, ?hypt5_⟩) (KS.out _ KT.out.b) ?restpt5_
    case hipt5_ => (simp only [List.getElem?_toArray, List.getElem?_cons_zero, List.getElem?_cons_succ]; rfl)
    case hQpt5_ => exact fun _ _ _ h => h
    case hwpt5_ => rfl
    case hypt5_ =>
      intro w' hSw
      obtain ⟨r0, r1, r2, r3, r4, r5, r6⟩ := hSw
      go_simp
      try exact rfl
    try simp only [Act.put, List.setIfInBounds_toArray, List.set_cons_zero, List.set_cons_succ]
    refine wpLate_three (i := 5) (j := 10) (k := 11) (o := ?opn6_5) (u := ?opn6_10) (v := ?opn6_11) (by decide +kernel) ?hopn6_5 ?hopn6_10 ?hopn6_11 ?hkpn6_5 ?hkpn6_10 ?hkpn6_11
    case hopn6_5 => (simp only [List.getElem?_toArray, List.getElem?_cons_zero, List.getElem?_cons_succ]; rfl)
    case hopn6_10 => (simp only [List.getElem?_toArray, List.getElem?_cons_zero, List.getElem?_cons_succ]; rfl)
    case hopn6_11 => (simp only [List.getElem?_toArray, List.getElem?_cons_zero, List.getElem?_cons_succ]; rfl)
    case hkpn6_5 =>
      as_aux_lemma =>
        intro K hK
        go_simp
        refine (HC5.out _ KT.out.b).mono ?_
        rintro r wp7 ⟨rfl, hbs⟩
        replace KT := Lib.hid (KT.out.call hbs)
        clear hbs
        go_simp
        refine hK.out _ _ (fun _ => KS.out _ KT.out.b) ?_
        clear hK K
        try simp only [Act.put, List.setIfInBounds_toArray, List.set_cons_zero, List.set_cons_succ]
        refine wpLate_take (i := 6) (oi := ?oipt8_) (v := ?vpt8_) [7, 8, 9, 12, 13, 14] ?hipt8_ (by decide +kernel) (by decide +kernel) (by decide +kernel) (by decide +kernel) (by decide +kernel) ?hQpt8_ (Or.inl ⟨?hwpt8_, ?hypt8_⟩) (KS.out _ KT.out.b) ?restpt8_
        case hipt8_ => (simp only [List.getElem?_toArray, List.getElem?_cons_zero, List.getElem?_cons_succ]; rfl)
        case hQpt8_ => exact fun _ _ _ h => h
        case hwpt8_ => rfl
        case hypt8_ =>
          intro w' hSw
          obtain ⟨r0, r1, r2, r3, r4, r5, r6⟩ := hSw
          go_simp
          try exact rfl
        try simp only [Act.put, List.setIfInBounds_toArray, List.set_cons_zero, List.set_cons_succ]
        refine wpLate_take (i := 7) (oi := ?oipt9_) (v := ?vpt9_) [12, 13, 14] ?hipt9_ (by decide +kernel) (by decide +kernel) (by decide +kernel) (by decide +kernel) (by decide +kernel) ?hQpt9_ (Or.inl ⟨?hwpt9_, ?hypt9_⟩) (KS.out _ KT.out.b) ?restpt9_
        case hipt9_ => (simp only [List.getElem?_toArray, List.getElem?_cons_zero, List.getElem?_cons_succ]; rfl)
        case hQpt9_ => exact fun _ _ _ h => h
        case hwpt9_ => rfl
        case hypt9_ =>
          intro w' hSw
          obtain ⟨r0, r1, r2, r3, r4, r5, r6⟩ := hSw
          go_simp
          try exact rfl
        try simp only [Act.put, List.setIfInBounds_toArray, List.set_cons_zero, List.set_cons_succ]
        refine wpLate_take (i := 8) (oi := ?oipt10_) (v := ?vpt10_) [13, 14] ?hipt10_ (by decide +kernel) (by decide +kernel) (by decide +kernel) (by decide +kernel) (by decide +kernel) ?hQpt10_ (Or.inl ⟨?hwpt10_, ?hypt10_⟩) (KS.out _ KT.out.b) ?restpt10_
        case hipt10_ => (simp only [List.getElem?_toArray, List.getElem?_cons_zero, List.getElem?_cons_succ]; rfl)
        case hQpt10_ => exact fun _ _ _ h => h
        case hwpt10_ => rfl
        case hypt10_ =>
          intro w' hSw
          obtain ⟨r0, r1, r2, r3, r4, r5, r6⟩ := hSw
          go_simp
          try exact rfl
        try simp only [Act.put, List.setIfInBounds_toArray, List.set_cons_zero, List.set_cons_succ]
        refine wpLate_take (i := 9) (oi := ?oipt11_) (v := ?vpt11_) [14] ?hipt11_ (by decide +kernel) (by decide +kernel) (by decide +kernel) (by decide +kernel) (by decide +kernel) ?hQpt11_ (Or.inl ⟨?hwpt11_, ?hypt11_⟩) (KS.out _ KT.out.b) ?restpt11_
        case hipt11_ => (simp only [List.getElem?_toArray, List.getElem?_cons_zero, List.getElem?_cons_succ]; rfl)
        case hQpt11_ => exact fun _ _ _ h => h
        case hwpt11_ => rfl
        case hypt11_ =>
          intro w' hSw
          obtain ⟨r0, r1, r2, r3, r4, r5, r6⟩ := hSw
          go_simp
          try exact rfl
        try simp only [Act.put, List.setIfInBounds_toArray, List.set_cons_zero, List.set_cons_succ]
        refine wpLate_two (i := 10) (j := 11) (o := ?opn12_10) (u := ?opn12_11) (by decide +kernel) ?hopn12_10 ?hopn12_11 ?hkpn12_10 ?hkpn12_11
        case hopn12_10 => (simp only [List.getElem?_toArray, List.getElem?_cons_zero, List.getElem?_cons_succ]; rfl)
        case hopn12_11 => (simp only [List.getElem?_toArray, List.getElem?_cons_zero, List.getElem?_cons_succ]; rfl)
        case hkpn12_10 =>
          intro K hK
          go_simp
          replace KT := Lib.hid (KT.out.al1)
          refine hK.out _ _ (fun _ => KS.out _ KT.out.b) ?_
          clear hK K
          obtain ⟨Dap, hDn⟩ : ∃ D, D = (World.heap wp7).size := ⟨_, rfl⟩
          rw [← hDn] at KT ⊢
          clear hDn
          generalize World.alloc wp7 (.cells #[.int .i64 0, .int .i64 0] 24) = wp13 at KT ⊢
          try simp only [Act.put, List.setIfInBounds_toArray, List.set_cons_zero, List.set_cons_succ]
          refine wpLate_one (i := 11) (o := ?opn14_11) (by decide +kernel) ?hopn14_11 ?hkpn14_11
          case hopn14_11 => (simp only [List.getElem?_toArray, List.getElem?_cons_zero, List.getElem?_cons_succ]; rfl)
          intro K hK
          go_simp
          replace KT := Lib.hid (KT.out.al2)
          refine hK.out _ _ (fun _ => KS.out _ KT.out.b) ?_
          clear hK K
          obtain ⟨Dbp, hDn⟩ : ∃ D, D = (World.heap wp13).size := ⟨_, rfl⟩
          rw [← hDn] at KT ⊢
          clear hDn
          generalize World.alloc wp13 (.cells (moi ⟨0, 0, 0, 0, 0⟩ ⟨0, 0, 0, 0, 0⟩) 34) = wp15 at KT ⊢
          try simp only [Act.put, List.setIfInBounds_toArray, List.set_cons_zero, List.set_cons_succ]
          replace KT := Lib.hid KT.out.fin
          refine wpLate_one (i := 12) (o := ?opf16_12) (by decide +kernel) ?hopf16_12 ?hkpf16_12
          case hopf16_12 => (simp only [List.getElem?_toArray, List.getElem?_cons_zero, List.getElem?_cons_succ]; rfl)
          intro K hK
          refine (if_pos (show Region.wanted _ _ = true from rfl)).mpr ?_
          refine KT.out.store1 (m := pL.w) (n := pH.w) rfl rfl rfl ?_
          replace KT := Lib.hid (KT.out.put1 (x' := .int .i64 pL.w) (y' := .int .i64 pH.w))
          refine hK.out _ _ (fun h => KS.out _ KT.out.b) ?_
          clear hK K
          generalize (World.setCell wp15 ⟨Dap, 0, none⟩ (.int .i64 pL.w)).setCell ⟨Dap, 1, none⟩ (.int .i64 pH.w) = wp17 at KT ⊢
          try simp only [Act.put, List.setIfInBounds_toArray, List.set_cons_zero, List.set_cons_succ]
          refine wpLate_one (i := 13) (o := ?opf18_13) (by decide +kernel) ?hopf18_13 ?hkpf18_13
          case hopf18_13 => (simp only [List.getElem?_toArray, List.getElem?_cons_zero, List.getElem?_cons_succ]; rfl)
          intro K hK
          refine (if_pos (show Region.wanted _ _ = true from rfl)).mpr ?_
          refine KT.out.store2 (c' := pL) (d' := pH) rfl rfl rfl ?_
          replace KT := Lib.hid (KT.out.put2 (c' := pL) (d' := pH))
          refine hK.out _ _ (fun h => KS.out _ KT.out.b) ?_
          clear hK K
          generalize set8 wp17 Dbp pL pH = wp19 at KT ⊢
          try simp only [Act.put, List.setIfInBounds_toArray, List.set_cons_zero, List.set_cons_succ]
          refine wpLate_one (i := 14) (o := ?opg20_14) (by decide +kernel) ?hopg20_14 ?hkpg20_14
          case hopg20_14 => (simp only [List.getElem?_toArray, List.getElem?_cons_zero, List.getElem?_cons_succ]; rfl)
          intro K hK
          go_simp
          refine hK.out _ _ (fun h => KS.out _ KT.out.b) ?_
          clear hK K
          try simp only [Act.put, List.setIfInBounds_toArray, List.set_cons_zero, List.set_cons_succ]
          refine wpLate_done (by decide +kernel) ?_ _
          try simp only [Act.put, List.setIfInBounds_toArray, List.set_cons_zero, List.set_cons_succ]
          try go_wp2_with fail
          go_meet
          exact ⟨_, _, rfl, rfl, rfl, KT⟩
        case hkpn12_11 =>
          intro K hK
          go_simp
          replace KT := Lib.hid (KT.out.al2)
          refine hK.out _ _ (fun _ => KS.out _ KT.out.b) ?_
          clear hK K
          obtain ⟨Dbp, hDn⟩ : ∃ D, D = (World.heap wp7).size := ⟨_, rfl⟩
          rw [← hDn] at KT ⊢
          clear hDn
          generalize World.alloc wp7 (.cells (moi ⟨0, 0, 0, 0, 0⟩ ⟨0, 0, 0, 0, 0⟩) 34) = wp21 at KT ⊢
          try simp only [Act.put, List.setIfInBounds_toArray, List.set_cons_zero, List.set_cons_succ]
          refine wpLate_one (i := 10) (o := ?opn22_10) (by decide +kernel) ?hopn22_10 ?hkpn22_10
          case hopn22_10 => (simp only [List.getElem?_toArray, List.getElem?_cons_zero, List.getElem?_cons_succ]; rfl)
          intro K hK
          go_simp
          replace KT := Lib.hid (KT.out.al1)
          refine hK.out _ _ (fun _ => KS.out _ KT.out.b) ?_
          clear hK K
          obtain ⟨Dap, hDn⟩ : ∃ D, D = (World.heap wp21).size := ⟨_, rfl⟩
          rw [← hDn] at KT ⊢
          clear hDn
          generalize World.alloc wp21 (.cells #[.int .i64 0, .int .i64 0] 24) = wp23 at KT ⊢
          try simp only [Act.put, List.setIfInBounds_toArray, List.set_cons_zero, List.set_cons_succ]
          replace KT := Lib.hid KT.out.fin
          refine wpLate_one (i := 12) (o := ?opf24_12) (by decide +kernel) ?hopf24_12 ?hkpf24_12
          case hopf24_12 => (simp only [List.getElem?_toArray, List.getElem?_cons_zero, List.getElem?_cons_succ]; rfl)
          intro K hK
          refine (if_pos (show Region.wanted _ _ = true from rfl)).mpr ?_
          refine KT.out.store1 (m := pL.w) (n := pH.w) rfl rfl rfl ?_
          replace KT := Lib.hid (KT.out.put1 (x' := .int .i64 pL.w) (y' := .int .i64 pH.w))
          refine hK.out _ _ (fun h => KS.out _ KT.out.b) ?_
          clear hK K
          generalize (World.setCell wp23 ⟨Dap, 0, none⟩ (.int .i64 pL.w)).setCell ⟨Dap, 1, none⟩ (.int .i64 pH.w) = wp25 at KT ⊢
          try simp only [Act.put, List.setIfInBounds_toArray, List.set_cons_zero, List.set_cons_succ]
          refine wpLate_one (i := 13) (o := ?opf26_13) (by decide +kernel) ?hopf26_13 ?hkpf26_13
          case hopf26_13 => (simp only [List.getElem?_toArray, List.getElem?_cons_zero, List.getElem?_cons_succ]; rfl)
          intro K hK
          refine (if_pos (show Region.wanted _ _ = true from rfl)).mpr ?_
          refine KT.out.store2 (c' := pL) (d' := pH) rfl rfl rfl ?_
          replace KT := Lib.hid (KT.out.put2 (c' := pL) (d' := pH))
          refine hK.out _ _ (fun h => KS.out _ KT.out.b) ?_
          clear hK K
          generalize set8 wp25 Dbp pL pH = wp27 at KT ⊢
          try simp only [Act.put, List.setIfInBounds_toArray, List.set_cons_zero, List.set_cons_succ]
          refine wpLate_one (i := 14) (o := ?opg28_14) (by decide +kernel) ?hopg28_14 ?hkpg28_14
          case hopg28_14 => (simp only [List.getElem?_toArray, List.getElem?_cons_zero, List.getElem?_cons_succ]; rfl)
          intro K hK
          go_simp
          refine hK.out _ _ (fun h => KS.out _ KT.out.b) ?_
          clear hK K
          try simp only [Act.put, List.setIfInBounds_toArray, List.set_cons_zero, List.set_cons_succ]
          refine wpLate_done (by decide +kernel) ?_ _
          try simp only [Act.put, List.setIfInBounds_toArray, List.set_cons_zero, List.set_cons_succ]
          try go_wp2_with fail
          go_meet
          exact ⟨_, _, rfl, rfl, rfl, KT⟩
    case hkpn6_10 =>
      as_aux_lemma =>
        intro K hK
        go_simp
        replace KT := Lib.hid (KT.out.al1)
        refine hK.out _ _ (fun _ => KS.out _ KT.out.b) ?_
        clear hK K
        obtain ⟨Dap, hDn⟩ : ∃ D, D = (World.heap wdp).size := ⟨_, rfl⟩
        rw [← hDn] at KT ⊢
        clear hDn
        generalize World.alloc wdp (.cells #[.int .i64 0, .int .i64 0] 24) = wp29 at KT ⊢
        try simp only [Act.put, List.setIfInBounds_toArray, List.set_cons_zero, List.set_cons_succ]
        refine wpLate_two (i := 5) (j := 11) (o := ?opn30_5) (u := ?opn30_11) (by decide +kernel) ?hopn30_5 ?hopn30_11 ?hkpn30_5 ?hkpn30_11
        case hopn30_5 => (simp only [List.getElem?_toArray, List.getElem?_cons_zero, List.getElem?_cons_succ]; rfl)
        case hopn30_11 => (simp only [List.getElem?_toArray, List.getElem?_cons_zero, List.getElem?_cons_succ]; rfl)
        case hkpn30_5 =>
          intro K hK
          go_simp
          refine (HC5.out _ KT.out.b).mono ?_
          rintro r wp31 ⟨rfl, hbs⟩
          replace KT := Lib.hid (KT.out.call hbs)
          clear hbs
          go_simp
          refine hK.out _ _ (fun _ => KS.out _ KT.out.b) ?_
          clear hK K
          try simp only [Act.put, List.setIfInBounds_toArray, List.set_cons_zero, List.set_cons_succ]
          refine wpLate_take (i := 6) (oi := ?oipt32_) (v := ?vpt32_) [7, 8, 9, 12, 13, 14] ?hipt32_ (by decide +kernel) (by decide +kernel) (by decide +kernel) (by decide +kernel) (by decide +kernel) ?hQpt32_ (Or.inl ⟨?hwpt32_, ?hypt32_⟩) (KS.out _ KT.out.b) ?restpt32_
          case hipt32_ => (simp only [List.getElem?_toArray, List.getElem?_cons_zero, List.getElem?_cons_succ]; rfl)
          case hQpt32_ => exact fun _ _ _ h => h
          case hwpt32_ => rfl
          case hypt32_ =>
            intro w' hSw
            obtain ⟨r0, r1, r2, r3, r4, r5, r6⟩ := hSw
            go_simp
            try exact rfl
          try simp only [Act.put, List.setIfInBounds_toArray, List.set_cons_zero, List.set_cons_succ]
          refine wpLate_take (i := 7) (oi := ?oipt33_) (v := ?vpt33_) [12, 13, 14] ?hipt33_ (by decide +kernel) (by decide +kernel) (by decide +kernel) (by decide +kernel) (by decide +kernel) ?hQpt33_ (Or.inl ⟨?hwpt33_, ?hypt33_⟩) (KS.out _ KT.out.b) ?restpt33_
          case hipt33_ => (simp only [List.getElem?_toArray, List.getElem?_cons_zero, List.getElem?_cons_succ]; rfl)
          case hQpt33_ => exact fun _ _ _ h => h
          case hwpt33_ => rfl
          case hypt33_ =>
            intro w' hSw
            obtain ⟨r0, r1, r2, r3, r4, r5, r6⟩ := hSw
            go_simp
            try exact rfl
          try simp only [Act.put, List.setIfInBounds_toArray, List.set_cons_zero, List.set_cons_succ]
          refine wpLate_take (i := 8) (oi := ?oipt34_) (v := ?vpt34_) [13, 14] ?hipt34_ (by decide +kernel) (by decide +kernel) (by decide +kernel) (by decide +kernel) (by decide +kernel) ?hQpt34_ (Or.inl ⟨?hwpt34_, ?hypt34_⟩) (KS.out _ KT.out.b) ?restpt34_
          case hipt34_ => (simp only [List.getElem?_toArray, List.getElem?_cons_zero, List.getElem?_cons_succ]; rfl)
          case hQpt34_ => exact fun _ _ _ h => h
          case hwpt34_ => rfl
          case hypt34_ =>
            intro w' hSw
            obtain ⟨r0, r1, r2, r3, r4, r5, r6⟩ := hSw
            go_simp
            try exact rfl
          try simp only [Act.put, List.setIfInBounds_toArray, List.set_cons_zero, List.set_cons_succ]
          refine wpLate_take (i := 9) (oi := ?oipt35_) (v := ?vpt35_) [14] ?hipt35_ (by decide +kernel) (by decide +kernel) (by decide +kernel) (by decide +kernel) (by decide +kernel) ?hQpt35_ (Or.inl ⟨?hwpt35_, ?hypt35_⟩) (KS.out _ KT.out.b) ?restpt35_
          case hipt35_ => (simp only [List.getElem?_toArray, List.getElem?_cons_zero, List.getElem?_cons_succ]; rfl)
          case hQpt35_ => exact fun _ _ _ h => h
          case hwpt35_ => rfl
          case hypt35_ =>
            intro w' hSw
            obtain ⟨r0, r1, r2, r3, r4, r5, r6⟩ := hSw
            go_simp
            try exact rfl
          try simp only [Act.put, List.setIfInBounds_toArray, List.set_cons_zero, List.set_cons_succ]
          refine wpLate_one (i := 11) (o := ?opn36_11) (by decide +kernel) ?hopn36_11 ?hkpn36_11
          case hopn36_11 => (simp only [List.getElem?_toArray, List.getElem?_cons_zero, List.getElem?_cons_succ]; rfl)
          intro K hK
          go_simp
          replace KT := Lib.hid (KT.out.al2)
          refine hK.out _ _ (fun _ => KS.out _ KT.out.b) ?_
          clear hK K
          obtain ⟨Dbp, hDn⟩ : ∃ D, D = (World.heap wp31).size := ⟨_, rfl⟩
          rw [← hDn] at KT ⊢
          clear hDn
          generalize World.alloc wp31 (.cells (moi ⟨0, 0, 0, 0, 0⟩ ⟨0, 0, 0, 0, 0⟩) 34) = wp37 at KT ⊢
          try simp only [Act.put, List.setIfInBounds_toArray, List.set_cons_zero, List.set_cons_succ]
          replace KT := Lib.hid KT.out.fin
          refine wpLate_one (i := 12) (o := ?opf38_12) (by decide +kernel) ?hopf38_12 ?hkpf38_12
          case hopf38_12 => (simp only [List.getElem?_toArray, List.getElem?_cons_zero, List.getElem?_cons_succ]; rfl)
          intro K hK
          refine (if_pos (show Region.wanted _ _ = true from rfl)).mpr ?_
          refine KT.out.store1 (m := pL.w) (n := pH.w) rfl rfl rfl ?_
          replace KT := Lib.hid (KT.out.put1 (x' := .int .i64 pL.w) (y' := .int .i64 pH.w))
          refine hK.out _ _ (fun h => KS.out _ KT.out.b) ?_
          clear hK K
          generalize (World.setCell wp37 ⟨Dap, 0, none⟩ (.int .i64 pL.w)).setCell ⟨Dap, 1, none⟩ (.int .i64 pH.w) = wp39 at KT ⊢
          try simp only [Act.put, List.setIfInBounds_toArray, List.set_cons_zero, List.set_cons_succ]
          refine wpLate_one (i := 13) (o := ?opf40_13) (by decide +kernel) ?hopf40_13 ?hkpf40_13
          case hopf40_13 => (simp only [List.getElem?_toArray, List.getElem?_cons_zero, List.getElem?_cons_succ]; rfl)
          intro K hK
          refine (if_pos (show Region.wanted _ _ = true from rfl)).mpr ?_
          refine KT.out.store2 (c' := pL) (d' := pH) rfl rfl rfl ?_
          replace KT := Lib.hid (KT.out.put2 (c' := pL) (d' := pH))
          refine hK.out _ _ (fun h => KS.out _ KT.out.b) ?_
          clear hK K
          generalize set8 wp39 Dbp pL pH = wp41 at KT ⊢
          try simp only [Act.put, List.setIfInBounds_toArray, List.set_cons_zero, List.set_cons_succ]
          refine wpLate_one (i := 14) (o := ?opg42_14) (by decide +kernel) ?hopg42_14 ?hkpg42_14
          case hopg42_14 => (simp only [List.getElem?_toArray, List.getElem?_cons_zero, List.getElem?_cons_succ]; rfl)
          intro K hK
          go_simp
          refine hK.out _ _ (fun h => KS.out _ KT.out.b) ?_
          clear hK K
          try simp only [Act.put, List.setIfInBounds_toArray, List.set_cons_zero, List.set_cons_succ]
          refine wpLate_done (by decide +kernel) ?_ _
          try simp only [Act.put, List.setIfInBounds_toArray, List.set_cons_zero, List.set_cons_succ]
          try go_wp2_with fail
          go_meet
          exact ⟨_, _, rfl, rfl, rfl, KT⟩
        case hkpn30_11 =>
          intro K hK
          go_simp
          replace KT := Lib.hid (KT.out.al2)
          refine hK.out _ _ (fun _ => KS.out _ KT.out.b) ?_
          clear hK K
          obtain ⟨Dbp, hDn⟩ : ∃ D, D = (World.heap wp29).size := ⟨_, rfl⟩
          rw [← hDn] at KT ⊢
          clear hDn
          generalize World.alloc wp29 (.cells (moi ⟨0, 0, 0, 0, 0⟩ ⟨0, 0, 0, 0, 0⟩) 34) = wp43 at KT ⊢
          try simp only [Act.put, List.setIfInBounds_toArray, List.set_cons_zero, List.set_cons_succ]
          refine wpLate_one (i := 5) (o := ?opn44_5) (by decide +kernel) ?hopn44_5 ?hkpn44_5
          case hopn44_5 => (simp only [List.getElem?_toArray, List.getElem?_cons_zero, List.getElem?_cons_succ]; rfl)
          intro K hK
          go_simp
          refine (HC5.out _ KT.out.b).mono ?_
          rintro r wp45 ⟨rfl, hbs⟩
          replace KT := Lib.hid (KT.out.call hbs)
          clear hbs
          go_simp
          refine hK.out _ _ (fun _ => KS.out _ KT.out.b) ?_
          clear hK K
          try simp only [Act.put, List.setIfInBounds_toArray, List.set_cons_zero, List.set_cons_succ]
          refine wpLate_take (i := 6) (oi := ?oipt46_) (v := ?vpt46_) [7, 8, 9, 12, 13, 14] ?hipt46_ (by decide +kernel) (by decide +kernel) (by decide +kernel) (by decide +kernel) (by decide +kernel) ?hQpt46_ (Or.inl ⟨?hwpt46_, ?hypt46_⟩) (KS.out _ KT.out.b) ?restpt46_
          case hipt46_ => (simp only [List.getElem?_toArray, List.getElem?_cons_zero, List.getElem?_cons_succ]; rfl)
          case hQpt46_ => exact fun _ _ _ h => h
          case hwpt46_ => rfl
          case hypt46_ =>
            intro w' hSw
            obtain ⟨r0, r1, r2, r3, r4, r5, r6⟩ := hSw
            go_simp
            try exact rfl
          try simp only [Act.put, List.setIfInBounds_toArray, List.set_cons_zero, List.set_cons_succ]
          refine wpLate_take (i := 7) (oi := ?oipt47_) (v := ?vpt47_) [12, 13, 14] ?hipt47_ (by decide +kernel) (by decide +kernel) (by decide +kernel) (by decide +kernel) (by decide +kernel) ?hQpt47_ (Or.inl ⟨?hwpt47_, ?hypt47_⟩) (KS.out _ KT.out.b) ?restpt47_
          case hipt47_ => (simp only [List.getElem?_toArray, List.getElem?_cons_zero, List.getElem?_cons_succ]; rfl)
          case hQpt47_ => exact fun _ _ _ h => h
          case hwpt47_ => rfl
          case hypt47_ =>
            intro w' hSw
            obtain ⟨r0, r1, r2, r3, r4, r5, r6⟩ := hSw
            go_simp
            try exact rfl
          try simp only [Act.put, List.setIfInBounds_toArray, List.set_cons_zero, List.set_cons_succ]
          refine wpLate_take (i := 8) (oi := ?oipt48_) (v := ?vpt48_) [13, 14] ?hipt48_ (by decide +kernel) (by decide +kernel) (by decide +kernel) (by decide +kernel) (by decide +kernel) ?hQpt48_ (Or.inl ⟨?hwpt48_, ?hypt48_⟩) (KS.out _ KT.out.b) ?restpt48_
          case hipt48_ => (simp only [List.getElem?_toArray, List.getElem?_cons_zero, List.getElem?_cons_succ]; rfl)
          case hQpt48_ => exact fun _ _ _ h => h
          case hwpt48_ => rfl
          case hypt48_ =>
            intro w' hSw
            obtain ⟨r0, r1, r2, r3, r4, r5, r6⟩ := hSw
            go_simp
            try exact rfl
          try simp only [Act.put, List.setIfInBounds_toArray, List.set_cons_zero, List.set_cons_succ]
          refine wpLate_take (i := 9) (oi := ?oipt49_) (v := ?vpt49_) [14] ?hipt49_ (by decide +kernel) (by decide +kernel) (by decide +kernel) (by decide +kernel) (by decide +kernel) ?hQpt49_ (Or.inl ⟨?hwpt49_, ?hypt49_⟩) (KS.out _ KT.out.b) ?restpt49_
          case hipt49_ => (simp only [List.getElem?_toArray, List.getElem?_cons_zero, List.getElem?_cons_succ]; rfl)
          case hQpt49_ => exact fun _ _ _ h => h
          case hwpt49_ => rfl
          case hypt49_ =>
            intro w' hSw
            obtain ⟨r0, r1, r2, r3, r4, r5, r6⟩ := hSw
            go_simp
            try exact rfl
          try simp only [Act.put, List.setIfInBounds_toArray, List.set_cons_zero, List.set_cons_succ]
          replace KT := Lib.hid KT.out.fin
          refine wpLate_one (i := 12) (o := ?opf50_12) (by decide +kernel) ?hopf50_12 ?hkpf50_12
          case hopf50_12 => (simp only [List.getElem?_toArray, List.getElem?_cons_zero, List.getElem?_cons_succ]; rfl)
          intro K hK
          refine (if_pos (show Region.wanted _ _ = true from rfl)).mpr ?_
          refine KT.out.store1 (m := pL.w) (n := pH.w) rfl rfl rfl ?_
          replace KT := Lib.hid (KT.out.put1 (x' := .int .i64 pL.w) (y' := .int .i64 pH.w))
          refine hK.out _ _ (fun h => KS.out _ KT.out.b) ?_
          clear hK K
          generalize (World.setCell wp45 ⟨Dap, 0, none⟩ (.int .i64 pL.w)).setCell ⟨Dap, 1, none⟩ (.int .i64 pH.w) = wp51 at KT ⊢
          try simp only [Act.put, List.setIfInBounds_toArray, List.set_cons_zero, List.set_cons_succ]
          refine wpLate_one (i := 13) (o := ?opf52_13) (by decide +kernel) ?hopf52_13 ?hkpf52_13
          case hopf52_13 => (simp only [List.getElem?_toArray, List.getElem?_cons_zero, List.getElem?_cons_succ]; rfl)
          intro K hK
          refine (if_pos (show Region.wanted _ _ = true from rfl)).mpr ?_
          refine KT.out.store2 (c' := pL) (d' := pH) rfl rfl rfl ?_
          replace KT := Lib.hid (KT.out.put2 (c' := pL) (d' := pH))
          refine hK.out _ _ (fun h => KS.out _ KT.out.b) ?_
          clear hK K
          generalize set8 wp51 Dbp pL pH = wp53 at KT ⊢
          try simp only [Act.put, List.setIfInBounds_toArray, List.set_cons_zero, List.set_cons_succ]
          refine wpLate_one (i := 14) (o := ?opg54_14) (by decide +kernel) ?hopg54_14 ?hkpg54_14
          case hopg54_14 => (simp only [List.getElem?_toArray, List.getElem?_cons_zero, List.getElem?_cons_succ]; rfl)
          intro K hK
          go_simp
          refine hK.out _ _ (fun h => KS.out _ KT.out.b) ?_
          clear hK K
          try simp only [Act.put, List.setIfInBounds_toArray, List.set_cons_zero, List.set_cons_succ]
          refine wpLate_done (by decide +kernel) ?_ _
          try simp only [Act.put, List.setIfInBounds_toArray, List.set_cons_zero, List.set_cons_succ]
          try go_wp2_with fail
          go_meet
          exact ⟨_, _, rfl, rfl, rfl, KT⟩
    case hkpn6_11 =>
      as_aux_lemma =>
        intro K hK
        go_simp
        replace KT := Lib.hid (KT.out.al2)
        refine hK.out _ _ (fun _ => KS.out _ KT.out.b) ?_
        clear hK K
        obtain ⟨Dbp, hDn⟩ : ∃ D, D = (World.heap wdp).size := ⟨_, rfl⟩
        rw [← hDn] at KT ⊢
        clear hDn
        generalize World.alloc wdp (.cells (moi ⟨0, 0, 0, 0, 0⟩ ⟨0, 0, 0, 0, 0⟩) 34) = wp55 at KT ⊢
        try simp only [Act.put, List.setIfInBounds_toArray, List.set_cons_zero, List.set_cons_succ]
        refine wpLate_two (i := 5) (j := 10) (o := ?opn56_5) (u := ?opn56_10) (by decide +kernel) ?hopn56_5 ?hopn56_10 ?hkpn56_5 ?hkpn56_10
        case hopn56_5 => (simp only [List.getElem?_toArray, List.getElem?_cons_zero, List.getElem?_cons_succ]; rfl)
        case hopn56_10 => (simp only [List.getElem?_toArray, List.getElem?_cons_zero, List.getElem?_cons_succ]; rfl)
        case hkpn56_5 =>
          intro K hK
          go_simp
          refine (HC5.out _ KT.out.b).mono ?_
          rintro r wp57 ⟨rfl, hbs⟩
          replace KT := Lib.hid (KT.out.call hbs)
          clear hbs
          go_simp
          refine hK.out _ _ (fun _ => KS.out _ KT.out.b) ?_
          clear hK K
          try simp only [Act.put, List.setIfInBounds_toArray, List.set_cons_zero, List.set_cons_succ]
          refine wpLate_take (i := 6) (oi := ?oipt58_) (v := ?vpt58_) [7, 8, 9, 12, 13, 14] ?hipt58_ (by decide +kernel) (by decide +kernel) (by decide +kernel) (by decide +kernel) (by decide +kernel) ?hQpt58_ (Or.inl ⟨?hwpt58_, ?hypt58_⟩) (KS.out _ KT.out.b) ?restpt58_
          case hipt58_ => (simp only [List.getElem?_toArray, List.getElem?_cons_zero, List.getElem?_cons_succ]; rfl)
          case hQpt58_ => exact fun _ _ _ h => h
          case hwpt58_ => rfl
          case hypt58_ =>
            intro w' hSw
            obtain ⟨r0, r1, r2, r3, r4, r5, r6⟩ := hSw
            go_simp
            try exact rfl
          try simp only [Act.put, List.setIfInBounds_toArray, List.set_cons_zero, List.set_cons_succ]
          refine wpLate_take (i := 7) (oi := ?oipt59_) (v := ?vpt59_) [12, 13, 14] ?hipt59_ (by decide +kernel) (by decide +kernel) (by decide +kernel) (by decide +kernel) (by decide +kernel) ?hQpt59_ (Or.inl ⟨?hwpt59_, ?hypt59_⟩) (KS.out _ KT.out.b) ?restpt59_
          case hipt59_ => (simp only [List.getElem?_toArray, List.getElem?_cons_zero, List.getElem?_cons_succ]; rfl)
          case hQpt59_ => exact fun _ _ _ h => h
          case hwpt59_ => rfl
          case hypt59_ =>
            intro w' hSw
            obtain ⟨r0, r1, r2, r3, r4, r5, r6⟩ := hSw
            go_simp
            try exact rfl
          try simp only [Act.put, List.setIfInBounds_toArray, List.set_cons_zero, List.set_cons_succ]
          refine wpLate_take (i := 8) (oi := ?oipt60_) (v := ?vpt60_) [13, 14] ?hipt60_ (by decide +kernel) (by decide +kernel) (by decide +kernel) (by decide +kernel) (by decide +kernel) ?hQpt60_ (Or.inl ⟨?hwpt60_, ?hypt60_⟩) (KS.out _ KT.out.b) ?restpt60_
          case hipt60_ => (simp only [List.getElem?_toArray, List.getElem?_cons_zero, List.getElem?_cons_succ]; rfl)
          case hQpt60_ => exact fun _ _ _ h => h
          case hwpt60_ => rfl
          case hypt60_ =>
            intro w' hSw
            obtain ⟨r0, r1, r2, r3, r4, r5, r6⟩ := hSw
            go_simp
            try exact rfl
          try simp only [Act.put, List.setIfInBounds_toArray, List.set_cons_zero, List.set_cons_succ]
          refine wpLate_take (i := 9) (oi := ?oipt61_) (v := ?vpt61_) [14] ?hipt61_ (by decide +kernel) (by decide +kernel) (by decide +kernel) (by decide +kernel) (by decide +kernel) ?hQpt61_ (Or.inl ⟨?hwpt61_, ?hypt61_⟩) (KS.out _ KT.out.b) ?restpt61_
          case hipt61_ => (simp only [List.getElem?_toArray, List.getElem?_cons_zero, List.getElem?_cons_succ]; rfl)
          case hQpt61_ => exact fun _ _ _ h => h
          case hwpt61_ => rfl
          case hypt61_ =>
            intro w' hSw
            obtain ⟨r0, r1, r2, r3, r4, r5, r6⟩ := hSw
            go_simp
            try exact rfl
          try simp only [Act.put, List.setIfInBounds_toArray, List.set_cons_zero, List.set_cons_succ]
          refine wpLate_one (i := 10) (o := ?opn62_10) (by decide +kernel) ?hopn62_10 ?hkpn62_10
          case hopn62_10 => (simp only [List.getElem?_toArray, List.getElem?_cons_zero, List.getElem?_cons_succ]; rfl)
          intro K hK
          go_simp
          replace KT := Lib.hid (KT.out.al1)
          refine hK.out _ _ (fun _ => KS.out _ KT.out.b) ?_
          clear hK K
          obtain ⟨Dap, hDn⟩ : ∃ D, D = (World.heap wp57).size := ⟨_, rfl⟩
          rw [← hDn] at KT ⊢
          clear hDn
          generalize World.alloc wp57 (.cells #[.int .i64 0, .int .i64 0] 24) = wp63 at KT ⊢
          try simp only [Act.put, List.setIfInBounds_toArray, List.set_cons_zero, List.set_cons_succ]
          replace KT := Lib.hid KT.out.fin
          refine wpLate_one (i := 12) (o := ?opf64_12) (by decide +kernel) ?hopf64_12 ?hkpf64_12
          case hopf64_12 => (simp only [List.getElem?_toArray, List.getElem?_cons_zero, List.getElem?_cons_succ]; rfl)
          intro K hK
          refine (if_pos (show Region.wanted _ _ = true from rfl)).mpr ?_
          refine KT.out.store1 (m := pL.w) (n := pH.w) rfl rfl rfl ?_
          replace KT := Lib.hid (KT.out.put1 (x' := .int .i64 pL.w) (y' := .int .i64 pH.w))
          refine hK.out _ _ (fun h => KS.out _ KT.out.b) ?_
          clear hK K
          generalize (World.setCell wp63 ⟨Dap, 0, none⟩ (.int .i64 pL.w)).setCell ⟨Dap, 1, none⟩ (.int .i64 pH.w) = wp65 at KT ⊢
          try simp only [Act.put, List.setIfInBounds_toArray, List.set_cons_zero, List.set_cons_succ]
          refine wpLate_one (i := 13) (o := ?opf66_13) (by decide +kernel) ?hopf66_13 ?hkpf66_13
          case hopf66_13 => (simp only [List.getElem?_toArray, List.getElem?_cons_zero, List.getElem?_cons_succ]; rfl)
          intro K hK
          refine (if_pos (show Region.wanted _ _ = true from rfl)).mpr ?_
          refine KT.out.store2 (c' := pL) (d' := pH) rfl rfl rfl ?_
          replace KT := Lib.hid (KT.out.put2 (c' := pL) (d' := pH))
          refine hK.out _ _ (fun h => KS.out _ KT.out.b) ?_
          clear hK K
          generalize set8 wp65 Dbp pL pH = wp67 at KT ⊢
          try simp only [Act.put, List.setIfInBounds_toArray, List.set_cons_zero, List.set_cons_succ]
          refine wpLate_one (i := 14) (o := ?opg68_14) (by decide +kernel) ?hopg68_14 ?hkpg68_14
          case hopg68_14 => (simp only [List.getElem?_toArray, List.getElem?_cons_zero, List.getElem?_cons_succ]; rfl)
          intro K hK
          go_simp
          refine hK.out _ _ (fun h => KS.out _ KT.out.b) ?_
          clear hK K
          try simp only [Act.put, List.setIfInBounds_toArray, List.set_cons_zero, List.set_cons_succ]
          refine wpLate_done (by decide +kernel) ?_ _
          try simp only [Act.put, List.setIfInBounds_toArray, List.set_cons_zero, List.set_cons_succ]
          try go_wp2_with fail
          go_meet
          exact ⟨_, _, rfl, rfl, rfl, KT⟩
        case hkpn56_10 =>
          intro K hK
          go_simp
          replace KT := Lib.hid (KT.out.al1)
          refine hK.out _ _ (fun _ => KS.out _ KT.out.b) ?_
          clear hK K
          obtain ⟨Dap, hDn⟩ : ∃ D, D = (World.heap wp55).size := ⟨_, rfl⟩
          rw [← hDn] at KT ⊢
          clear hDn
          generalize World.alloc wp55 (.cells #[.int .i64 0, .int .i64 0] 24) = wp69 at KT ⊢
          try simp only [Act.put, List.setIfInBounds_toArray, List.set_cons_zero, List.set_cons_succ]
          refine wpLate_one (i := 5) (o := ?opn70_5) (by decide +kernel) ?hopn70_5 ?hkpn70_5
          case hopn70_5 => (simp only [List.getElem?_toArray, List.getElem?_cons_zero, List.getElem?_cons_succ]; rfl)
          intro K hK
          go_simp
          refine (HC5.out _ KT.out.b).mono ?_
          rintro r wp71 ⟨rfl, hbs⟩
          replace KT := Lib.hid (KT.out.call hbs)
          clear hbs
          go_simp
          refine hK.out _ _ (fun _ => KS.out _ KT.out.b) ?_
          clear hK K
          try simp only [Act.put, List.setIfInBounds_toArray, List.set_cons_zero, List.set_cons_succ]
          refine wpLate_take (i := 6) (oi := ?oipt72_) (v := ?vpt72_) [7, 8, 9, 12, 13, 14] ?hipt72_ (by decide +kernel) (by decide +kernel) (by decide +kernel) (by decide +kernel) (by decide +kernel) ?hQpt72_ (Or.inl ⟨?hwpt72_, ?hypt72_⟩) (KS.out _ KT.out.b) ?restpt72_
          case hipt72_ => (simp only [List.getElem?_toArray, List.getElem?_cons_zero, List.getElem?_cons_succ]; rfl)
          case hQpt72_ => exact fun _ _ _ h => h
          case hwpt72_ => rfl
          case hypt72_ =>
            intro w' hSw
            obtain ⟨r0, r1, r2, r3, r4, r5, r6⟩ := hSw
            go_simp
            try exact rfl
          try simp only [Act.put, List.setIfInBounds_toArray, List.set_cons_zero, List.set_cons_succ]
          refine wpLate_take (i := 7) (oi := ?oipt73_) (v := ?vpt73_) [12, 13, 14] ?hipt73_ (by decide +kernel) (by decide +kernel) (by decide +kernel) (by decide +kernel) (by decide +kernel) ?hQpt73_ (Or.inl ⟨?hwpt73_, ?hypt73_⟩) (KS.out _ KT.out.b) ?restpt73_
          case hipt73_ => (simp only [List.getElem?_toArray, List.getElem?_cons_zero, List.getElem?_cons_succ]; rfl)
          case hQpt73_ => exact fun _ _ _ h => h
          case hwpt73_ => rfl
          case hypt73_ =>
            intro w' hSw
            obtain ⟨r0, r1, r2, r3, r4, r5, r6⟩ := hSw
            go_simp
            try exact rfl
          try simp only [Act.put, List.setIfInBounds_toArray, List.set_cons_zero, List.set_cons_succ]
          refine wpLate_take (i := 8) (oi := ?oipt74_) (v := ?vpt74_) [13, 14] ?hipt74_ (by decide +kernel) (by decide +kernel) (by decide +kernel) (by decide +kernel) (by decide +kernel) ?hQpt74_ (Or.inl ⟨?hwpt74_, ?hypt74_⟩) (KS.out _ KT.out.b) ?restpt74_
          case hipt74_ => (simp only [List.getElem?_toArray, List.getElem?_cons_zero, List.getElem?_cons_succ]; rfl)
          case hQpt74_ => exact fun _ _ _ h => h
          case hwpt74_ => rfl
          case hypt74_ =>
            intro w' hSw
            obtain ⟨r0, r1, r2, r3, r4, r5, r6⟩ := hSw
            go_simp
            try exact rfl
          try simp only [Act.put, List.setIfInBounds_toArray, List.set_cons_zero, List.set_cons_succ]
          refine wpLate_take (i := 9) (oi := ?oipt75_) (v := ?vpt75_) [14] ?hipt75_ (by decide +kernel) (by decide +kernel) (by decide +kernel) (by decide +kernel) (by decide +kernel) ?hQpt75_ (Or.inl ⟨?hwpt75_, ?hypt75_⟩) (KS.out _ KT.out.b) ?restpt75_
          case hipt75_ => (simp only [List.getElem?_toArray, List.getElem?_cons_zero, List.getElem?_cons_succ]; rfl)
          case hQpt75_ => exact fun _ _ _ h => h
          case hwpt75_ => rfl
          case hypt75_ =>
            intro w' hSw
            obtain ⟨r0, r1, r2, r3, r4, r5, r6⟩ := hSw
            go_simp
            try exact rfl
          try simp only [Act.put, List.setIfInBounds_toArray, List.set_cons_zero, List.set_cons_succ]
          replace KT := Lib.hid KT.out.fin
          refine wpLate_one (i := 12) (o := ?opf76_12) (by decide +kernel) ?hopf76_12 ?hkpf76_12
          case hopf76_12 => (simp only [List.getElem?_toArray, List.getElem?_cons_zero, List.getElem?_cons_succ]; rfl)
          intro K hK
          refine (if_pos (show Region.wanted _ _ = true from rfl)).mpr ?_
          refine KT.out.store1 (m := pL.w) (n := pH.w) rfl rfl rfl ?_
          replace KT := Lib.hid (KT.out.put1 (x' := .int .i64 pL.w) (y' := .int .i64 pH.w))
          refine hK.out _ _ (fun h => KS.out _ KT.out.b) ?_
          clear hK K
          generalize (World.setCell wp71 ⟨Dap, 0, none⟩ (.int .i64 pL.w)).setCell ⟨Dap, 1, none⟩ (.int .i64 pH.w) = wp77 at KT ⊢
          try simp only [Act.put, List.setIfInBounds_toArray, List.set_cons_zero, List.set_cons_succ]
          refine wpLate_one (i := 13) (o := ?opf78_13) (by decide +kernel) ?hopf78_13 ?hkpf78_13
          case hopf78_13 => (simp only [List.getElem?_toArray, List.getElem?_cons_zero, List.getElem?_cons_succ]; rfl)
          intro K hK
          refine (if_pos (show Region.wanted _ _ = true from rfl)).mpr ?_
          refine KT.out.store2 (c' := pL) (d' := pH) rfl rfl rfl ?_
          replace KT := Lib.hid (KT.out.put2 (c' := pL) (d' := pH))
          refine hK.out _ _ (fun h => KS.out _ KT.out.b) ?_
          clear hK K
          generalize set8 wp77 Dbp pL pH = wp79 at KT ⊢
          try simp only [Act.put, List.setIfInBounds_toArray, List.set_cons_zero, List.set_cons_succ]
          refine wpLate_one (i := 14) (o := ?opg80_14) (by decide +kernel) ?hopg80_14 ?hkpg80_14
          case hopg80_14 => (simp only [List.getElem?_toArray, List.getElem?_cons_zero, List.getElem?_cons_succ]; rfl)
          intro K hK
          go_simp
          refine hK.out _ _ (fun h => KS.out _ KT.out.b) ?_
          clear hK K
          try simp only [Act.put, List.setIfInBounds_toArray, List.set_cons_zero, List.set_cons_succ]
          refine wpLate_done (by decide +kernel) ?_ _
          try simp only [Act.put, List.setIfInBounds_toArray, List.set_cons_zero, List.set_cons_succ]
          try go_wp2_with fail
          go_meet
          exact ⟨_, _, rfl, rfl, rfl, KT⟩
  case rest =>
    obtain ⟨D1, D2, rfl, rfl, rfl, HT⟩ := hcut
    rename World => w5
    have K5 := Lib.hid (show PL W w5 a A B ca cb lo hi L AL DM xL xH ∧ Has w5 D1 24 #[.int .i64 pL.w, .int .i64 pH.w] ∧ Has w5 D2 34 (moi pL pH) from ⟨K4.out.step HT.out.b, HT.out.d1.2, HT.out.d2.2⟩)
    clear HT K4 HC5
    obtain ⟨qL, hqL⟩ : ∃ c, c = runL a pL.w (L.drop k) := ⟨_, rfl⟩
    obtain ⟨qH, hqH⟩ : ∃ c, c = runH a pH.w (L.drop k) := ⟨_, rfl⟩
    have HRD : Hid (∀ AD cd w', AR w' w'.heap.size a A B → SRow w' w'.heap.size AD (L.drop k) → Calls Try.prog 13 #[.agg (airc a A B ca cb), .agg #[.int .i64 pL.w, .int .i64 pH.w], .slice AD (L.length - k) cd] w' fun e w'' => e = .returned (.tuple #[.agg #[.int .i64 qL.w, .int .i64 qH.w], .agg (moi qL qH), .int .i64 0]) ∧ Below w'.heap.size w' w'') := Lib.hid fun AD cd w' h1 h2 => by
      have h := HRx.out a pL.w pH.w (L.drop k) AD cd w' h1 h2 (by rw [List.length_drop]; omega)
      have hi9 := ins_drop HIN.out hkl
      rw [← HPP.out.1, ← HPP.out.2] at hi9
      rw [runE_yes hi9, List.length_drop, ← hqL, ← hqH] at h
      exact h
    have HQQ := Lib.hid (And.intro hqL hqH)
    clear hqL hqH
    go_upto_region 10 with fail
    go_cut [18, 19, 20] (fun u18 u19 u20 wx => ∃ E1 E2, u18 = .pointer (some ⟨E1, 0, none⟩) ∧ u19 = .pointer (some ⟨E2, 0, none⟩) ∧ u20 = .int .i64 0 ∧ Hid (TH w5 wx E1 E2 #[.int .i64 qL.w, .int .i64 qH.w] qL qH))
    case first =>
      have KT := Lib.hid (TG.start w5)
      have KS : Hid (∀ w', Below w5.heap.size w5 w' → w'.cell? ⟨W.heap.size, 0, none⟩ = some (.int .i64 a.R) ∧ w'.cell? ⟨W.heap.size, 1, none⟩ = some (.slice A a.T.length ca) ∧ w'.cell? ⟨W.heap.size, 2, none⟩ = some (.slice B a.H.length cb) ∧ w'.cell? ⟨W.heap.size, 3, none⟩ = some (.int .i64 a.b0) ∧ w'.cell? ⟨W.heap.size, 4, none⟩ = some (.int .i64 a.b1) ∧ w'.cell? ⟨D1, 0, none⟩ = some (.int .i64 pL.w) ∧ w'.cell? ⟨D1, 1, none⟩ = some (.int .i64 pH.w)) := Lib.hid fun w' hb => by
        have X := K5.out.1.step hb
        have Y := K5.out.2.1.below hb K5.out.2.1.lt
        exact ⟨X.l.v.b.fa.cell 0, X.l.v.b.fa.cell 1, X.l.v.b.fa.cell 2, X.l.v.b.fa.cell 3, X.l.v.b.fa.cell 4, Y.cell 0, Y.cell 1⟩
      have hk0 : (k : Int) ≤ (L.length : Int) := by omega
      have hk1 : (k : Int) ≤ (cl : Int) := by omega
      have hk2 : k ≤ cl := by omega
      have hk3 : (L.length : Int) ≤ (cl : Int) := by omega
      obtain ⟨AD, hAD⟩ : ∃ AD, AD = (if cl = k then AL else Option.map (fun x => x.add (k * 8)) AL) := ⟨_, rfl⟩
      have HAD := Lib.hid hAD
      clear hAD
      have HC10 : Hid (∀ w', Below w5.heap.size w5 w' → Calls Try.prog 13 #[.agg (airc a A B ca cb), .agg #[.int .i64 pL.w, .int .i64 pH.w], .slice AD (L.length - k) (cl - k)] w' fun e w'' => e = .returned (.tuple #[.agg #[.int .i64 qL.w, .int .i64 qH.w], .agg (moi qL qH), .int .i64 0]) ∧ Below w'.heap.size w' w'') := Lib.hid fun w' hb => by
        have hx := K5.out.1.l.step hb
        rw [HAD.out]
        exact HRD.out _ _ w' hx.ar (srow_rest hx.sr hLc)
      refine wp_region_late (fun w' : World => w'.cell? ⟨W.heap.size, 0, none⟩ = some (.int .i64 a.R) ∧ w'.cell? ⟨W.heap.size, 1, none⟩ = some (.slice A a.T.length ca) ∧ w'.cell? ⟨W.heap.size, 2, none⟩ = some (.slice B a.H.length cb) ∧ w'.cell? ⟨W.heap.size, 3, none⟩ = some (.int .i64 a.b0) ∧ w'.cell? ⟨W.heap.size, 4, none⟩ = some (.int .i64 a.b1) ∧ w'.cell? ⟨D1, 0, none⟩ = some (.int .i64 pL.w) ∧ w'.cell? ⟨D1, 1, none⟩ = some (.int .i64 pH.w)) [] (by decide +kernel) ?_
      generalize w5.drew = wdq at KT ⊢
      refine wpLate_take (i := 0) (oi := ?oiqt81_) (v := ?vqt81_) [5, 6, 7, 8, 9, 12, 13, 14] ?hiqt81_ (by decide +kernel) (by decide +kernel) (by decide +kernel) (by decide +kernel) (by decide +kernel) ?hQqt81_ (Or.inl ⟨?hwqt81_, ?hyqt81_⟩) (KS.out _ KT.out.b) ?restqt81_
      case hiqt81_ => (simp only [List.getElem?_toArray, List.getElem?_cons_zero]; rfl)
      case hQqt81_ => exact fun _ _ _ h => h
      case hwqt81_ => rfl
      case hyqt81_ =>
        intro w' hSw
        obtain ⟨r0, r1, r2, r3, r4, r5, r6⟩ := hSw
        go_simp
        try exact rfl
      try simp only [Act.put, List.setIfInBounds_toArray, List.set_cons_zero, List.set_cons_succ]
      refine wpLate_take (i := 1) (oi := ?oiqt82_) (v := ?vqt82_) [5, 6, 7, 8, 9, 12, 13, 14] ?hiqt82_ (by decide +kernel) (by decide +kernel) (by decide +kernel) (by decide +kernel) (by decide +kernel) ?hQqt82_ (Or.inl ⟨?hwqt82_, ?hyqt82_⟩) (KS.out _ KT.out.b) ?restqt82_
      case hiqt82_ => (simp only [List.getElem?_toArray, List.getElem?_cons_zero, List.getElem?_cons_succ]; rfl)
      case hQqt82_ => exact fun _ _ _ h => h
      case hwqt82_ => rfl
      case hyqt82_ =>
        intro w' hSw
        obtain ⟨r0, r1, r2, r3, r4, r5, r6⟩ := hSw
        go_simp
        try exact rfl
      try simp only [Act.put, List.setIfInBounds_toArray, List.set_cons_zero, List.set_cons_succ]
      refine wpLate_take (i := 2) (oi := ?oiqt83_) (v := ?vqt83_) [4, 5, 6, 7, 8, 9, 12, 13, 14] ?hiqt83_ (by decide +kernel) (by decide +kernel) (by decide +kernel) (by decide +kernel) (by decide +kernel) ?hQqt83_ (Or.inl ⟨?hwqt83_, ?hyqt83_⟩) (KS.out _ KT.out.b) ?restqt83_
      case hiqt83_ => (simp only [List.getElem?_toArray, List.getElem?_cons_zero, List.getElem?_cons_succ]; rfl)
      case hQqt83_ => exact fun _ _ _ h => h
      case hwqt83_ => rfl
      case hyqt83_ =>
        intro w' hSw
        obtain ⟨r0, r1, r2, r3, r4, r5, r6⟩ := hSw
        go_simp
        try exact rfl
      try simp only [Act.put, List.setIfInBounds_toArray, List.set_cons_zero, List.set_cons_succ]
      refine wpLate_take (i := 3) (oi := ?oiqt84_) (v := ?vqt84_) [4, 5, 6, 7, 8, 9, 12, 13, 14] ?hiqt84_ (by decide +kernel) (by decide +kernel) (by decide +kernel) (by decide +kernel) (by decide +kernel) ?hQqt84_ (Or.inl ⟨?hwqt84_, ?hyqt84_⟩) (KS.out _ KT.out.b) ?restqt84_
      case hiqt84_ => (simp only [List.getElem?_toArray, List.getElem?_cons_zero, List.getElem?_cons_succ]; rfl)
      case hQqt84_ => exact fun _ _ _ h => h
      case hwqt84_ => rfl
      case hyqt84_ =>
        intro w' hSw
        obtain ⟨r0, r1, r2, r3, r4, r5, r6⟩ := hSw
        go_simp
        try exact rfl
      try simp only [Act.put, List.setIfInBounds_toArray, List.set_cons_zero, List.set_cons_succ]
      refine wpLate_take (i := 4) (oi := ?oiqt85_) (v := .slice AD (L.length - k) (cl - k)) [5, 6, 7, 8, 9, 12, 13, 14] ?hiqt85_ (by decide +kernel) (by decide +kernel) (by decide +kernel) (by decide +kernel) (by decide +kernel) ?hQqt85_ (Or.inl ⟨?hwqt85_, ?hyqt85_⟩) (KS.out _ KT.out.b) ?restqt85_
      case hiqt85_ => (simp only [List.getElem?_toArray, List.getElem?_cons_zero, List.getElem?_cons_succ]; rfl)
      case hQqt85_ => exact fun _ _ _ h => h
      case hwqt85_ => rfl
      case hyqt85_ =>
        intro w' hSw
        obtain ⟨r0, r1, r2, r3, r4, r5, r6⟩ := hSw
        go_simp
        try exact rfl
        try rw [HAD.out]
      try simp only [Act.put, List.setIfInBounds_toArray, List.set_cons_zero, List.set_cons_succ]
      refine wpLate_three (i := 5) (j := 10) (k := 11) (o := ?oqn86_5) (u := ?oqn86_10) (v := ?oqn86_11) (by decide +kernel) ?hoqn86_5 ?hoqn86_10 ?hoqn86_11 ?hkqn86_5 ?hkqn86_10 ?hkqn86_11
      case hoqn86_5 => (simp only [List.getElem?_toArray, List.getElem?_cons_zero, List.getElem?_cons_succ]; rfl)
      case hoqn86_10 => (simp only [List.getElem?_toArray, List.getElem?_cons_zero, List.getElem?_cons_succ]; rfl)
      case hoqn86_11 => (simp only [List.getElem?_toArray, List.getElem?_cons_zero, List.getElem?_cons_succ]; rfl)
      case hkqn86_5 =>
        as_aux_lemma =>
          intro K hK
          go_simp
          refine (HC10.out _ KT.out.b).mono ?_
          rintro r wq87 ⟨rfl, hbs⟩
          replace KT := Lib.hid (KT.out.call hbs)
          clear hbs
          go_simp
          refine hK.out _ _ (fun _ => KS.out _ KT.out.b) ?_
          clear hK K
          try simp only [Act.put, List.setIfInBounds_toArray, List.set_cons_zero, List.set_cons_succ]
          refine wpLate_take (i := 6) (oi := ?oiqt88_) (v := ?vqt88_) [7, 8, 9, 12, 13, 14] ?hiqt88_ (by decide +kernel) (by decide +kernel) (by decide +kernel) (by decide +kernel) (by decide +kernel) ?hQqt88_ (Or.inl ⟨?hwqt88_, ?hyqt88_⟩) (KS.out _ KT.out.b) ?restqt88_
          case hiqt88_ => (simp only [List.getElem?_toArray, List.getElem?_cons_zero, List.getElem?_cons_succ]; rfl)
          case hQqt88_ => exact fun _ _ _ h => h
          case hwqt88_ => rfl
          case hyqt88_ =>
            intro w' hSw
            obtain ⟨r0, r1, r2, r3, r4, r5, r6⟩ := hSw
            go_simp
            try exact rfl
          try simp only [Act.put, List.setIfInBounds_toArray, List.set_cons_zero, List.set_cons_succ]
          refine wpLate_take (i := 7) (oi := ?oiqt89_) (v := ?vqt89_) [12, 13, 14] ?hiqt89_ (by decide +kernel) (by decide +kernel) (by decide +kernel) (by decide +kernel) (by decide +kernel) ?hQqt89_ (Or.inl ⟨?hwqt89_, ?hyqt89_⟩) (KS.out _ KT.out.b) ?restqt89_
          case hiqt89_ => (simp only [List.getElem?_toArray, List.getElem?_cons_zero, List.getElem?_cons_succ]; rfl)
          case hQqt89_ => exact fun _ _ _ h => h
          case hwqt89_ => rfl
          case hyqt89_ =>
            intro w' hSw
            obtain ⟨r0, r1, r2, r3, r4, r5, r6⟩ := hSw
            go_simp
            try exact rfl
          try simp only [Act.put, List.setIfInBounds_toArray, List.set_cons_zero, List.set_cons_succ]
          refine wpLate_take (i := 8) (oi := ?oiqt90_) (v := ?vqt90_) [13, 14] ?hiqt90_ (by decide +kernel) (by decide +kernel) (by decide +kernel) (by decide +kernel) (by decide +kernel) ?hQqt90_ (Or.inl ⟨?hwqt90_, ?hyqt90_⟩) (KS.out _ KT.out.b) ?restqt90_
          case hiqt90_ => (simp only [List.getElem?_toArray, List.getElem?_cons_zero, List.getElem?_cons_succ]; rfl)
          case hQqt90_ => exact fun _ _ _ h => h
          case hwqt90_ => rfl
          case hyqt90_ =>
            intro w' hSw
            obtain ⟨r0, r1, r2, r3, r4, r5, r6⟩ := hSw
            go_simp
            try exact rfl
          try simp only [Act.put, List.setIfInBounds_toArray, List.set_cons_zero, List.set_cons_succ]
          refine wpLate_take (i := 9) (oi := ?oiqt91_) (v := ?vqt91_) [14] ?hiqt91_ (by decide +kernel) (by decide +kernel) (by decide +kernel) (by decide +kernel) (by decide +kernel) ?hQqt91_ (Or.inl ⟨?hwqt91_, ?hyqt91_⟩) (KS.out _ KT.out.b) ?restqt91_
          case hiqt91_ => (simp only [List.getElem?_toArray, List.getElem?_cons_zero, List.getElem?_cons_succ]; rfl)
          case hQqt91_ => exact fun _ _ _ h => h
          case hwqt91_ => rfl
          case hyqt91_ =>
            intro w' hSw
            obtain ⟨r0, r1, r2, r3, r4, r5, r6⟩ := hSw
            go_simp
            try exact rfl
          try simp only [Act.put, List.setIfInBounds_toArray, List.set_cons_zero, List.set_cons_succ]
          refine wpLate_two (i := 10) (j := 11) (o := ?oqn92_10) (u := ?oqn92_11) (by decide +kernel) ?hoqn92_10 ?hoqn92_11 ?hkqn92_10 ?hkqn92_11
          case hoqn92_10 => (simp only [List.getElem?_toArray, List.getElem?_cons_zero, List.getElem?_cons_succ]; rfl)
          case hoqn92_11 => (simp only [List.getElem?_toArray, List.getElem?_cons_zero, List.getElem?_cons_succ]; rfl)
          case hkqn92_10 =>
            intro K hK
            go_simp
            replace KT := Lib.hid (KT.out.al1)
            refine hK.out _ _ (fun _ => KS.out _ KT.out.b) ?_
            clear hK K
            obtain ⟨Daq, hDn⟩ : ∃ D, D = (World.heap wq87).size := ⟨_, rfl⟩
            rw [← hDn] at KT ⊢
            clear hDn
            generalize World.alloc wq87 (.cells #[.int .i64 0, .int .i64 0] 24) = wq93 at KT ⊢
            try simp only [Act.put, List.setIfInBounds_toArray, List.set_cons_zero, List.set_cons_succ]
            refine wpLate_one (i := 11) (o := ?oqn94_11) (by decide +kernel) ?hoqn94_11 ?hkqn94_11
            case hoqn94_11 => (simp only [List.getElem?_toArray, List.getElem?_cons_zero, List.getElem?_cons_succ]; rfl)
            intro K hK
            go_simp
            replace KT := Lib.hid (KT.out.al2)
            refine hK.out _ _ (fun _ => KS.out _ KT.out.b) ?_
            clear hK K
            obtain ⟨Dbq, hDn⟩ : ∃ D, D = (World.heap wq93).size := ⟨_, rfl⟩
            rw [← hDn] at KT ⊢
            clear hDn
            generalize World.alloc wq93 (.cells (moi ⟨0, 0, 0, 0, 0⟩ ⟨0, 0, 0, 0, 0⟩) 34) = wq95 at KT ⊢
            try simp only [Act.put, List.setIfInBounds_toArray, List.set_cons_zero, List.set_cons_succ]
            replace KT := Lib.hid KT.out.fin
            refine wpLate_one (i := 12) (o := ?oqf96_12) (by decide +kernel) ?hoqf96_12 ?hkqf96_12
            case hoqf96_12 => (simp only [List.getElem?_toArray, List.getElem?_cons_zero, List.getElem?_cons_succ]; rfl)
            intro K hK
            refine (if_pos (show Region.wanted _ _ = true from rfl)).mpr ?_
            refine KT.out.store1 (m := qL.w) (n := qH.w) rfl rfl rfl ?_
            replace KT := Lib.hid (KT.out.put1 (x' := .int .i64 qL.w) (y' := .int .i64 qH.w))
            refine hK.out _ _ (fun h => KS.out _ KT.out.b) ?_
            clear hK K
            generalize (World.setCell wq95 ⟨Daq, 0, none⟩ (.int .i64 qL.w)).setCell ⟨Daq, 1, none⟩ (.int .i64 qH.w) = wq97 at KT ⊢
            try simp only [Act.put, List.setIfInBounds_toArray, List.set_cons_zero, List.set_cons_succ]
            refine wpLate_one (i := 13) (o := ?oqf98_13) (by decide +kernel) ?hoqf98_13 ?hkqf98_13
            case hoqf98_13 => (simp only [List.getElem?_toArray, List.getElem?_cons_zero, List.getElem?_cons_succ]; rfl)
            intro K hK
            refine (if_pos (show Region.wanted _ _ = true from rfl)).mpr ?_
            refine KT.out.store2 (c' := qL) (d' := qH) rfl rfl rfl ?_
            replace KT := Lib.hid (KT.out.put2 (c' := qL) (d' := qH))
            refine hK.out _ _ (fun h => KS.out _ KT.out.b) ?_
            clear hK K
            generalize set8 wq97 Dbq qL qH = wq99 at KT ⊢
            try simp only [Act.put, List.setIfInBounds_toArray, List.set_cons_zero, List.set_cons_succ]
            refine wpLate_one (i := 14) (o := ?oqg100_14) (by decide +kernel) ?hoqg100_14 ?hkqg100_14
            case hoqg100_14 => (simp only [List.getElem?_toArray, List.getElem?_cons_zero, List.getElem?_cons_succ]; rfl)
            intro K hK
            go_simp
            refine hK.out _ _ (fun h => KS.out _ KT.out.b) ?_
            clear hK K
            try simp only [Act.put, List.setIfInBounds_toArray, List.set_cons_zero, List.set_cons_succ]
            refine wpLate_done (by decide +kernel) ?_ _
            try simp only [Act.put, List.setIfInBounds_toArray, List.set_cons_zero, List.set_cons_succ]
            try go_wp2_with fail
            go_meet
            exact ⟨_, _, rfl, rfl, rfl, KT⟩
          case hkqn92_11 =>
            intro K hK
            go_simp
            replace KT := Lib.hid (KT.out.al2)
            refine hK.out _ _ (fun _ => KS.out _ KT.out.b) ?_
            clear hK K
            obtain ⟨Dbq, hDn⟩ : ∃ D, D = (World.heap wq87).size := ⟨_, rfl⟩
            rw [← hDn] at KT ⊢
            clear hDn
            generalize World.alloc wq87 (.cells (moi ⟨0, 0, 0, 0, 0⟩ ⟨0, 0, 0, 0, 0⟩) 34) = wq101 at KT ⊢
            try simp only [Act.put, List.setIfInBounds_toArray, List.set_cons_zero, List.set_cons_succ]
            refine wpLate_one (i := 10) (o := ?oqn102_10) (by decide +kernel) ?hoqn102_10 ?hkqn102_10
            case hoqn102_10 => (simp only [List.getElem?_toArray, List.getElem?_cons_zero, List.getElem?_cons_succ]; rfl)
            intro K hK
            go_simp
            replace KT := Lib.hid (KT.out.al1)
            refine hK.out _ _ (fun _ => KS.out _ KT.out.b) ?_
            clear hK K
            obtain ⟨Daq, hDn⟩ : ∃ D, D = (World.heap wq101).size := ⟨_, rfl⟩
            rw [← hDn] at KT ⊢
            clear hDn
            generalize World.alloc wq101 (.cells #[.int .i64 0, .int .i64 0] 24) = wq103 at KT ⊢
            try simp only [Act.put, List.setIfInBounds_toArray, List.set_cons_zero, List.set_cons_succ]
            replace KT := Lib.hid KT.out.fin
            refine wpLate_one (i := 12) (o := ?oqf104_12) (by decide +kernel) ?hoqf104_12 ?hkqf104_12
            case hoqf104_12 => (simp only [List.getElem?_toArray, List.getElem?_cons_zero, List.getElem?_cons_succ]; rfl)
            intro K hK
            refine (if_pos (show Region.wanted _ _ = true from rfl)).mpr ?_
            refine KT.out.store1 (m := qL.w) (n := qH.w) rfl rfl rfl ?_
            replace KT := Lib.hid (KT.out.put1 (x' := .int .i64 qL.w) (y' := .int .i64 qH.w))
            refine hK.out _ _ (fun h => KS.out _ KT.out.b) ?_
            clear hK K
            generalize (World.setCell wq103 ⟨Daq, 0, none⟩ (.int .i64 qL.w)).setCell ⟨Daq, 1, none⟩ (.int .i64 qH.w) = wq105 at KT ⊢
            try simp only [Act.put, List.setIfInBounds_toArray, List.set_cons_zero, List.set_cons_succ]
            refine wpLate_one (i := 13) (o := ?oqf106_13) (by decide +kernel) ?hoqf106_13 ?hkqf106_13
            case hoqf106_13 => (simp only [List.getElem?_toArray, List.getElem?_cons_zero, List.getElem?_cons_succ]; rfl)
            intro K hK
            refine (if_pos (show Region.wanted _ _ = true from rfl)).mpr ?_
            refine KT.out.store2 (c' := qL) (d' := qH) rfl rfl rfl ?_
            replace KT := Lib.hid (KT.out.put2 (c' := qL) (d' := qH))
            refine hK.out _ _ (fun h => KS.out _ KT.out.b) ?_
            clear hK K
            generalize set8 wq105 Dbq qL qH = wq107 at KT ⊢
            try simp only [Act.put, List.setIfInBounds_toArray, List.set_cons_zero, List.set_cons_succ]
            refine wpLate_one (i := 14) (o := ?oqg108_14) (by decide +kernel) ?hoqg108_14 ?hkqg108_14
            case hoqg108_14 => (simp only [List.getElem?_toArray, List.getElem?_cons_zero, List.getElem?_cons_succ]; rfl)
            intro K hK
            go_simp
            refine hK.out _ _ (fun h => KS.out _ KT.out.b) ?_
            clear hK K
            try simp only [Act.put, List.setIfInBounds_toArray, List.set_cons_zero, List.set_cons_succ]
            refine wpLate_done (by decide +kernel) ?_ _
            try simp only [Act.put, List.setIfInBounds_toArray, List.set_cons_zero, List.set_cons_succ]
            try go_wp2_with fail
            go_meet
            exact ⟨_, _, rfl, rfl, rfl, KT⟩
      case hkqn86_10 =>
        as_aux_lemma =>
          intro K hK
          go_simp
          replace KT := Lib.hid (KT.out.al1)
          refine hK.out _ _ (fun _ => KS.out _ KT.out.b) ?_
          clear hK K
          obtain ⟨Daq, hDn⟩ : ∃ D, D = (World.heap wdq).size := ⟨_, rfl⟩
          rw [← hDn] at KT ⊢
          clear hDn
          generalize World.alloc wdq (.cells #[.int .i64 0, .int .i64 0] 24) = wq109 at KT ⊢
          try simp only [Act.put, List.setIfInBounds_toArray, List.set_cons_zero, List.set_cons_succ]
          refine wpLate_two (i := 5) (j := 11) (o := ?oqn110_5) (u := ?oqn110_11) (by decide +kernel) ?hoqn110_5 ?hoqn110_11 ?hkqn110_5 ?hkqn110_11
          case hoqn110_5 => (simp only [List.getElem?_toArray, List.getElem?_cons_zero, List.getElem?_cons_succ]; rfl)
          case hoqn110_11 => (simp only [List.getElem?_toArray, List.getElem?_cons_zero, List.getElem?_cons_succ]; rfl)
          case hkqn110_5 =>
            intro K hK
            go_simp
            refine (HC10.out _ KT.out.b).mono ?_
            rintro r wq111 ⟨rfl, hbs⟩
            replace KT := Lib.hid (KT.out.call hbs)
            clear hbs
            go_simp
            refine hK.out _ _ (fun _ => KS.out _ KT.out.b) ?_
            clear hK K
            try simp only [Act.put, List.setIfInBounds_toArray, List.set_cons_zero, List.set_cons_succ]
            refine wpLate_take (i := 6) (oi := ?oiqt112_) (v := ?vqt112_) [7, 8, 9, 12, 13, 14] ?hiqt112_ (by decide +kernel) (by decide +kernel) (by decide +kernel) (by decide +kernel) (by decide +kernel) ?hQqt112_ (Or.inl ⟨?hwqt112_, ?hyqt112_⟩) (KS.out _ KT.out.b) ?restqt112_
            case hiqt112_ => (simp only [List.getElem?_toArray, List.getElem?_cons_zero, List.getElem?_cons_succ]; rfl)
            case hQqt112_ => exact fun _ _ _ h => h
            case hwqt112_ => rfl
            case hyqt112_ =>
              intro w' hSw
              obtain ⟨r0, r1, r2, r3, r4, r5, r6⟩ := hSw
              go_simp
              try exact rfl
            try simp only [Act.put, List.setIfInBounds_toArray, List.set_cons_zero, List.set_cons_succ]
            refine wpLate_take (i := 7) (oi := ?oiqt113_) (v := ?vqt113_) [12, 13, 14] ?hiqt113_ (by decide +kernel) (by decide +kernel) (by decide +kernel) (by decide +kernel) (by decide +kernel) ?hQqt113_ (Or.inl ⟨?hwqt113_, ?hyqt113_⟩) (KS.out _ KT.out.b) ?restqt113_
            case hiqt113_ => (simp only [List.getElem?_toArray, List.getElem?_cons_zero, List.getElem?_cons_succ]; rfl)
            case hQqt113_ => exact fun _ _ _ h => h
            case hwqt113_ => rfl
            case hyqt113_ =>
              intro w' hSw
              obtain ⟨r0, r1, r2, r3, r4, r5, r6⟩ := hSw
              go_simp
              try exact rfl
            try simp only [Act.put, List.setIfInBounds_toArray, List.set_cons_zero, List.set_cons_succ]
            refine wpLate_take (i := 8) (oi := ?oiqt114_) (v := ?vqt114_) [13, 14] ?hiqt114_ (by decide +kernel) (by decide +kernel) (by decide +kernel) (by decide +kernel) (by decide +kernel) ?hQqt114_ (Or.inl ⟨?hwqt114_, ?hyqt114_⟩) (KS.out _ KT.out.b) ?restqt114_
            case hiqt114_ => (simp only [List.getElem?_toArray, List.getElem?_cons_zero, List.getElem?_cons_succ]; rfl)
            case hQqt114_ => exact fun _ _ _ h => h
            case hwqt114_ => rfl
            case hyqt114_ =>
              intro w' hSw
              obtain ⟨r0, r1, r2, r3, r4, r5, r6⟩ := hSw
              go_simp
              try exact rfl
            try simp only [Act.put, List.setIfInBounds_toArray, List.set_cons_zero, List.set_cons_succ]
            refine wpLate_take (i := 9) (oi := ?oiqt115_) (v := ?vqt115_) [14] ?hiqt115_ (by decide +kernel) (by decide +kernel) (by decide +kernel) (by decide +kernel) (by decide +kernel) ?hQqt115_ (Or.inl ⟨?hwqt115_, ?hyqt115_⟩) (KS.out _ KT.out.b) ?restqt115_
            case hiqt115_ => (simp only [List.getElem?_toArray, List.getElem?_cons_zero, List.getElem?_cons_succ]; rfl)
            case hQqt115_ => exact fun _ _ _ h => h
            case hwqt115_ => rfl
            case hyqt115_ =>
              intro w' hSw
              obtain ⟨r0, r1, r2, r3, r4, r5, r6⟩ := hSw
              go_simp
              try exact rfl
            try simp only [Act.put, List.setIfInBounds_toArray, List.set_cons_zero, List.set_cons_succ]
            refine wpLate_one (i := 11) (o := ?oqn116_11) (by decide +kernel) ?hoqn116_11 ?hkqn116_11
            case hoqn116_11 => (simp only [List.getElem?_toArray, List.getElem?_cons_zero, List.getElem?_cons_succ]; rfl)
            intro K hK
            go_simp
            replace KT := Lib.hid (KT.out.al2)
            refine hK.out _ _ (fun _ => KS.out _ KT.out.b) ?_
            clear hK K
            obtain ⟨Dbq, hDn⟩ : ∃ D, D = (World.heap wq111).size := ⟨_, rfl⟩
            rw [← hDn] at KT ⊢
            clear hDn
            generalize World.alloc wq111 (.cells (moi ⟨0, 0, 0, 0, 0⟩ ⟨0, 0, 0, 0, 0⟩) 34) = wq117 at KT ⊢
            try simp only [Act.put, List.setIfInBounds_toArray, List.set_cons_zero, List.set_cons_succ]
            replace KT := Lib.hid KT.out.fin
            refine wpLate_one (i := 12) (o := ?oqf118_12) (by decide +kernel) ?hoqf118_12 ?hkqf118_12
            case hoqf118_12 => (simp only [List.getElem?_toArray, List.getElem?_cons_zero, List.getElem?_cons_succ]; rfl)
            intro K hK
            refine (if_pos (show Region.wanted _ _ = true from rfl)).mpr ?_
            refine KT.out.store1 (m := qL.w) (n := qH.w) rfl rfl rfl ?_
            replace KT := Lib.hid (KT.out.put1 (x' := .int .i64 qL.w) (y' := .int .i64 qH.w))
            refine hK.out _ _ (fun h => KS.out _ KT.out.b) ?_
            clear hK K
            generalize (World.setCell wq117 ⟨Daq, 0, none⟩ (.int .i64 qL.w)).setCell ⟨Daq, 1, none⟩ (.int .i64 qH.w) = wq119 at KT ⊢
            try simp only [Act.put, List.setIfInBounds_toArray, List.set_cons_zero, List.set_cons_succ]
            refine wpLate_one (i := 13) (o := ?oqf120_13) (by decide +kernel) ?hoqf120_13 ?hkqf120_13
            case hoqf120_13 => (simp only [List.getElem?_toArray, List.getElem?_cons_zero, List.getElem?_cons_succ]; rfl)
            intro K hK
            refine (if_pos (show Region.wanted _ _ = true from rfl)).mpr ?_
            refine KT.out.store2 (c' := qL) (d' := qH) rfl rfl rfl ?_
            replace KT := Lib.hid (KT.out.put2 (c' := qL) (d' := qH))
            refine hK.out _ _ (fun h => KS.out _ KT.out.b) ?_
            clear hK K
            generalize set8 wq119 Dbq qL qH = wq121 at KT ⊢
            try simp only [Act.put, List.setIfInBounds_toArray, List.set_cons_zero, List.set_cons_succ]
            refine wpLate_one (i := 14) (o := ?oqg122_14) (by decide +kernel) ?hoqg122_14 ?hkqg122_14
            case hoqg122_14 => (simp only [List.getElem?_toArray, List.getElem?_cons_zero, List.getElem?_cons_succ]; rfl)
            intro K hK
            go_simp
            refine hK.out _ _ (fun h => KS.out _ KT.out.b) ?_
            clear hK K
            try simp only [Act.put, List.setIfInBounds_toArray, List.set_cons_zero, List.set_cons_succ]
            refine wpLate_done (by decide +kernel) ?_ _
            try simp only [Act.put, List.setIfInBounds_toArray, List.set_cons_zero, List.set_cons_succ]
            try go_wp2_with fail
            go_meet
            exact ⟨_, _, rfl, rfl, rfl, KT⟩
          case hkqn110_11 =>
            intro K hK
            go_simp
            replace KT := Lib.hid (KT.out.al2)
            refine hK.out _ _ (fun _ => KS.out _ KT.out.b) ?_
            clear hK K
            obtain ⟨Dbq, hDn⟩ : ∃ D, D = (World.heap wq109).size := ⟨_, rfl⟩
            rw [← hDn] at KT ⊢
            clear hDn
            generalize World.alloc wq109 (.cells (moi ⟨0, 0, 0, 0, 0⟩ ⟨0, 0, 0, 0, 0⟩) 34) = wq123 at KT ⊢
            try simp only [Act.put, List.setIfInBounds_toArray, List.set_cons_zero, List.set_cons_succ]
            refine wpLate_one (i := 5) (o := ?oqn124_5) (by decide +kernel) ?hoqn124_5 ?hkqn124_5
            case hoqn124_5 => (simp only [List.getElem?_toArray, List.getElem?_cons_zero, List.getElem?_cons_succ]; rfl)
            intro K hK
            go_simp
            refine (HC10.out _ KT.out.b).mono ?_
            rintro r wq125 ⟨rfl, hbs⟩
            replace KT := Lib.hid (KT.out.call hbs)
            clear hbs
            go_simp
            refine hK.out _ _ (fun _ => KS.out _ KT.out.b) ?_
            clear hK K
            try simp only [Act.put, List.setIfInBounds_toArray, List.set_cons_zero, List.set_cons_succ]
            refine wpLate_take (i := 6) (oi := ?oiqt126_) (v := ?vqt126_) [7, 8, 9, 12, 13, 14] ?hiqt126_ (by decide +kernel) (by decide +kernel) (by decide +kernel) (by decide +kernel) (by decide +kernel) ?hQqt126_ (Or.inl ⟨?hwqt126_, ?hyqt126_⟩) (KS.out _ KT.out.b) ?restqt126_
            case hiqt126_ => (simp only [List.getElem?_toArray, List.getElem?_cons_zero, List.getElem?_cons_succ]; rfl)
            case hQqt126_ => exact fun _ _ _ h => h
            case hwqt126_ => rfl
            case hyqt126_ =>
              intro w' hSw
              obtain ⟨r0, r1, r2, r3, r4, r5, r6⟩ := hSw
              go_simp
              try exact rfl
            try simp only [Act.put, List.setIfInBounds_toArray, List.set_cons_zero, List.set_cons_succ]
            refine wpLate_take (i := 7) (oi := ?oiqt127_) (v := ?vqt127_) [12, 13, 14] ?hiqt127_ (by decide +kernel) (by decide +kernel) (by decide +kernel) (by decide +kernel) (by decide +kernel) ?hQqt127_ (Or.inl ⟨?hwqt127_, ?hyqt127_⟩) (KS.out _ KT.out.b) ?restqt127_
            case hiqt127_ => (simp only [List.getElem?_toArray, List.getElem?_cons_zero, List.getElem?_cons_succ]; rfl)
            case hQqt127_ => exact fun _ _ _ h => h
            case hwqt127_ => rfl
            case hyqt127_ =>
              intro w' hSw
              obtain ⟨r0, r1, r2, r3, r4, r5, r6⟩ := hSw
              go_simp
              try exact rfl
            try simp only [Act.put, List.setIfInBounds_toArray, List.set_cons_zero, List.set_cons_succ]
            refine wpLate_take (i := 8) (oi := ?oiqt128_) (v := ?vqt128_) [13, 14] ?hiqt128_ (by decide +kernel) (by decide +kernel) (by decide +kernel) (by decide +kernel) (by decide +kernel) ?hQqt128_ (Or.inl ⟨?hwqt128_, ?hyqt128_⟩) (KS.out _ KT.out.b) ?restqt128_
            case hiqt128_ => (simp only [List.getElem?_toArray, List.getElem?_cons_zero, List.getElem?_cons_succ]; rfl)
            case hQqt128_ => exact fun _ _ _ h => h
            case hwqt128_ => rfl
            case hyqt128_ =>
              intro w' hSw
              obtain ⟨r0, r1, r2, r3, r4, r5, r6⟩ := hSw
              go_simp
              try exact rfl
            try simp only [Act.put, List.setIfInBounds_toArray, List.set_cons_zero, List.set_cons_succ]
            refine wpLate_take (i := 9) (oi := ?oiqt129_) (v := ?vqt129_) [14] ?hiqt129_ (by decide +kernel) (by decide +kernel) (by decide +kernel) (by decide +kernel) (by decide +kernel) ?hQqt129_ (Or.inl ⟨?hwqt129_, ?hyqt129_⟩) (KS.out _ KT.out.b) ?restqt129_
            case hiqt129_ => (simp only [List.getElem?_toArray, List.getElem?_cons_zero, List.getElem?_cons_succ]; rfl)
            case hQqt129_ => exact fun _ _ _ h => h
            case hwqt129_ => rfl
            case hyqt129_ =>
              intro w' hSw
              obtain ⟨r0, r1, r2, r3, r4, r5, r6⟩ := hSw
              go_simp
              try exact rfl
            try simp only [Act.put, List.setIfInBounds_toArray, List.set_cons_zero, List.set_cons_succ]
            replace KT := Lib.hid KT.out.fin
            refine wpLate_one (i := 12) (o := ?oqf130_12) (by decide +kernel) ?hoqf130_12 ?hkqf130_12
            case hoqf130_12 => (simp only [List.getElem?_toArray, List.getElem?_cons_zero, List.getElem?_cons_succ]; rfl)
            intro K hK
            refine (if_pos (show Region.wanted _ _ = true from rfl)).mpr ?_
            refine KT.out.store1 (m := qL.w) (n := qH.w) rfl rfl rfl ?_
            replace KT := Lib.hid (KT.out.put1 (x' := .int .i64 qL.w) (y' := .int .i64 qH.w))
            refine hK.out _ _ (fun h => KS.out _ KT.out.b) ?_
            clear hK K
            generalize (World.setCell wq125 ⟨Daq, 0, none⟩ (.int .i64 qL.w)).setCell ⟨Daq, 1, none⟩ (.int .i64 qH.w) = wq131 at KT ⊢
            try simp only [Act.put, List.setIfInBounds_toArray, List.set_cons_zero, List.set_cons_succ]
            refine wpLate_one (i := 13) (o := ?oqf132_13) (by decide +kernel) ?hoqf132_13 ?hkqf132_13
            case hoqf132_13 => (simp only [List.getElem?_toArray, List.getElem?_cons_zero, List.getElem?_cons_succ]; rfl)
            intro K hK
            refine (if_pos (show Region.wanted _ _ = true from rfl)).mpr ?_
            refine KT.out.store2 (c' := qL) (d' := qH) rfl rfl rfl ?_
            replace KT := Lib.hid (KT.out.put2 (c' := qL) (d' := qH))
            refine hK.out _ _ (fun h => KS.out _ KT.out.b) ?_
            clear hK K
            generalize set8 wq131 Dbq qL qH = wq133 at KT ⊢
            try simp only [Act.put, List.setIfInBounds_toArray, List.set_cons_zero, List.set_cons_succ]
            refine wpLate_one (i := 14) (o := ?oqg134_14) (by decide +kernel) ?hoqg134_14 ?hkqg134_14
            case hoqg134_14 => (simp only [List.getElem?_toArray, List.getElem?_cons_zero, List.getElem?_cons_succ]; rfl)
            intro K hK
            go_simp
            refine hK.out _ _ (fun h => KS.out _ KT.out.b) ?_
            clear hK K
            try simp only [Act.put, List.setIfInBounds_toArray, List.set_cons_zero, List.set_cons_succ]
            refine wpLate_done (by decide +kernel) ?_ _
            try simp only [Act.put, List.setIfInBounds_toArray, List.set_cons_zero, List.set_cons_succ]
            try go_wp2_with fail
            go_meet
            exact ⟨_, _, rfl, rfl, rfl, KT⟩
      case hkqn86_11 =>
        as_aux_lemma =>
          intro K hK
          go_simp
          replace KT := Lib.hid (KT.out.al2)
          refine hK.out _ _ (fun _ => KS.out _ KT.out.b) ?_
          clear hK K
          obtain ⟨Dbq, hDn⟩ : ∃ D, D = (World.heap wdq).size := ⟨_, rfl⟩
          rw [← hDn] at KT ⊢
          clear hDn
          generalize World.alloc wdq (.cells (moi ⟨0, 0, 0, 0, 0⟩ ⟨0, 0, 0, 0, 0⟩) 34) = wq135 at KT ⊢
          try simp only [Act.put, List.setIfInBounds_toArray, List.set_cons_zero, List.set_cons_succ]
          refine wpLate_two (i := 5) (j := 10) (o := ?oqn136_5) (u := ?oqn136_10) (by decide +kernel) ?hoqn136_5 ?hoqn136_10 ?hkqn136_5 ?hkqn136_10
          case hoqn136_5 => (simp only [List.getElem?_toArray, List.getElem?_cons_zero, List.getElem?_cons_succ]; rfl)
          case hoqn136_10 => (simp only [List.getElem?_toArray, List.getElem?_cons_zero, List.getElem?_cons_succ]; rfl)
          case hkqn136_5 =>
            intro K hK
            go_simp
            refine (HC10.out _ KT.out.b).mono ?_
            rintro r wq137 ⟨rfl, hbs⟩
            replace KT := Lib.hid (KT.out.call hbs)
            clear hbs
            go_simp
            refine hK.out _ _ (fun _ => KS.out _ KT.out.b) ?_
            clear hK K
            try simp only [Act.put, List.setIfInBounds_toArray, List.set_cons_zero, List.set_cons_succ]
            refine wpLate_take (i := 6) (oi := ?oiqt138_) (v := ?vqt138_) [7, 8, 9, 12, 13, 14] ?hiqt138_ (by decide +kernel) (by decide +kernel) (by decide +kernel) (by decide +kernel) (by decide +kernel) ?hQqt138_ (Or.inl ⟨?hwqt138_, ?hyqt138_⟩) (KS.out _ KT.out.b) ?restqt138_
            case hiqt138_ => (simp only [List.getElem?_toArray, List.getElem?_cons_zero, List.getElem?_cons_succ]; rfl)
            case hQqt138_ => exact fun _ _ _ h => h
            case hwqt138_ => rfl
            case hyqt138_ =>
              intro w' hSw
              obtain ⟨r0, r1, r2, r3, r4, r5, r6⟩ := hSw
              go_simp
              try exact rfl
            try simp only [Act.put, List.setIfInBounds_toArray, List.set_cons_zero, List.set_cons_succ]
            refine wpLate_take (i := 7) (oi := ?oiqt139_) (v := ?vqt139_) [12, 13, 14] ?hiqt139_ (by decide +kernel) (by decide +kernel) (by decide +kernel) (by decide +kernel) (by decide +kernel) ?hQqt139_ (Or.inl ⟨?hwqt139_, ?hyqt139_⟩) (KS.out _ KT.out.b) ?restqt139_
            case hiqt139_ => (simp only [List.getElem?_toArray, List.getElem?_cons_zero, List.getElem?_cons_succ]; rfl)
            case hQqt139_ => exact fun _ _ _ h => h
            case hwqt139_ => rfl
            case hyqt139_ =>
              intro w' hSw
              obtain ⟨r0, r1, r2, r3, r4, r5, r6⟩ := hSw
              go_simp
              try exact rfl
            try simp only [Act.put, List.setIfInBounds_toArray, List.set_cons_zero, List.set_cons_succ]
            refine wpLate_take (i := 8) (oi := ?oiqt140_) (v := ?vqt140_) [13, 14] ?hiqt140_ (by decide +kernel) (by decide +kernel) (by decide +kernel) (by decide +kernel) (by decide +kernel) ?hQqt140_ (Or.inl ⟨?hwqt140_, ?hyqt140_⟩) (KS.out _ KT.out.b) ?restqt140_
            case hiqt140_ => (simp only [List.getElem?_toArray, List.getElem?_cons_zero, List.getElem?_cons_succ]; rfl)
            case hQqt140_ => exact fun _ _ _ h => h
            case hwqt140_ => rfl
            case hyqt140_ =>
              intro w' hSw
              obtain ⟨r0, r1, r2, r3, r4, r5, r6⟩ := hSw
              go_simp
              try exact rfl
            try simp only [Act.put, List.setIfInBounds_toArray, List.set_cons_zero, List.set_cons_succ]
            refine wpLate_take (i := 9) (oi := ?oiqt141_) (v := ?vqt141_) [14] ?hiqt141_ (by decide +kernel) (by decide +kernel) (by decide +kernel) (by decide +kernel) (by decide +kernel) ?hQqt141_ (Or.inl ⟨?hwqt141_, ?hyqt141_⟩) (KS.out _ KT.out.b) ?restqt141_
            case hiqt141_ => (simp only [List.getElem?_toArray, List.getElem?_cons_zero, List.getElem?_cons_succ]; rfl)
            case hQqt141_ => exact fun _ _ _ h => h
            case hwqt141_ => rfl
            case hyqt141_ =>
              intro w' hSw
              obtain ⟨r0, r1, r2, r3, r4, r5, r6⟩ := hSw
              go_simp
              try exact rfl
            try simp only [Act.put, List.setIfInBounds_toArray, List.set_cons_zero, List.set_cons_succ]
            refine wpLate_one (i := 10) (o := ?oqn142_10) (by decide +kernel) ?hoqn142_10 ?hkqn142_10
            case hoqn142_10 => (simp only [List.getElem?_toArray, List.getElem?_cons_zero, List.getElem?_cons_succ]; rfl)
            intro K hK
            go_simp
            replace KT := Lib.hid (KT.out.al1)
            refine hK.out _ _ (fun _ => KS.out _ KT.out.b) ?_
            clear hK K
            obtain ⟨Daq, hDn⟩ : ∃ D, D = (World.heap wq137).size := ⟨_, rfl⟩
            rw [← hDn] at KT ⊢
            clear hDn
            generalize World.alloc wq137 (.cells #[.int .i64 0, .int .i64 0] 24) = wq143 at KT ⊢
            try simp only [Act.put, List.setIfInBounds_toArray, List.set_cons_zero, List.set_cons_succ]
            replace KT := Lib.hid KT.out.fin
            refine wpLate_one (i := 12) (o := ?oqf144_12) (by decide +kernel) ?hoqf144_12 ?hkqf144_12
            case hoqf144_12 => (simp only [List.getElem?_toArray, List.getElem?_cons_zero, List.getElem?_cons_succ]; rfl)
            intro K hK
            refine (if_pos (show Region.wanted _ _ = true from rfl)).mpr ?_
            refine KT.out.store1 (m := qL.w) (n := qH.w) rfl rfl rfl ?_
            replace KT := Lib.hid (KT.out.put1 (x' := .int .i64 qL.w) (y' := .int .i64 qH.w))
            refine hK.out _ _ (fun h => KS.out _ KT.out.b) ?_
            clear hK K
            generalize (World.setCell wq143 ⟨Daq, 0, none⟩ (.int .i64 qL.w)).setCell ⟨Daq, 1, none⟩ (.int .i64 qH.w) = wq145 at KT ⊢
            try simp only [Act.put, List.setIfInBounds_toArray, List.set_cons_zero, List.set_cons_succ]
            refine wpLate_one (i := 13) (o := ?oqf146_13) (by decide +kernel) ?hoqf146_13 ?hkqf146_13
            case hoqf146_13 => (simp only [List.getElem?_toArray, List.getElem?_cons_zero, List.getElem?_cons_succ]; rfl)
            intro K hK
            refine (if_pos (show Region.wanted _ _ = true from rfl)).mpr ?_
            refine KT.out.store2 (c' := qL) (d' := qH) rfl rfl rfl ?_
            replace KT := Lib.hid (KT.out.put2 (c' := qL) (d' := qH))
            refine hK.out _ _ (fun h => KS.out _ KT.out.b) ?_
            clear hK K
            generalize set8 wq145 Dbq qL qH = wq147 at KT ⊢
            try simp only [Act.put, List.setIfInBounds_toArray, List.set_cons_zero, List.set_cons_succ]
            refine wpLate_one (i := 14) (o := ?oqg148_14) (by decide +kernel) ?hoqg148_14 ?hkqg148_14
            case hoqg148_14 => (simp only [List.getElem?_toArray, List.getElem?_cons_zero, List.getElem?_cons_succ]; rfl)
            intro K hK
            go_simp
            refine hK.out _ _ (fun h => KS.out _ KT.out.b) ?_
            clear hK K
            try simp only [Act.put, List.setIfInBounds_toArray, List.set_cons_zero, List.set_cons_succ]
            refine wpLate_done (by decide +kernel) ?_ _
            try simp only [Act.put, List.setIfInBounds_toArray, List.set_cons_zero, List.set_cons_succ]
            try go_wp2_with fail
            go_meet
            exact ⟨_, _, rfl, rfl, rfl, KT⟩
          case hkqn136_10 =>
            intro K hK
            go_simp
            replace KT := Lib.hid (KT.out.al1)
            refine hK.out _ _ (fun _ => KS.out _ KT.out.b) ?_
            clear hK K
            obtain ⟨Daq, hDn⟩ : ∃ D, D = (World.heap wq135).size := ⟨_, rfl⟩
            rw [← hDn] at KT ⊢
            clear hDn
            generalize World.alloc wq135 (.cells #[.int .i64 0, .int .i64 0] 24) = wq149 at KT ⊢
            try simp only [Act.put, List.setIfInBounds_toArray, List.set_cons_zero, List.set_cons_succ]
            refine wpLate_one (i := 5) (o := ?oqn150_5) (by decide +kernel) ?hoqn150_5 ?hkqn150_5
            case hoqn150_5 => (simp only [List.getElem?_toArray, List.getElem?_cons_zero, List.getElem?_cons_succ]; rfl)
            intro K hK
            go_simp
            refine (HC10.out _ KT.out.b).mono ?_
            rintro r wq151 ⟨rfl, hbs⟩
            replace KT := Lib.hid (KT.out.call hbs)
            clear hbs
            go_simp
            refine hK.out _ _ (fun _ => KS.out _ KT.out.b) ?_
            clear hK K
            try simp only [Act.put, List.setIfInBounds_toArray, List.set_cons_zero, List.set_cons_succ]
            refine wpLate_take (i := 6) (oi := ?oiqt152_) (v := ?vqt152_) [7, 8, 9, 12, 13, 14] ?hiqt152_ (by decide +kernel) (by decide +kernel) (by decide +kernel) (by decide +kernel) (by decide +kernel) ?hQqt152_ (Or.inl ⟨?hwqt152_, ?hyqt152_⟩) (KS.out _ KT.out.b) ?restqt152_
            case hiqt152_ => (simp only [List.getElem?_toArray, List.getElem?_cons_zero, List.getElem?_cons_succ]; rfl)
            case hQqt152_ => exact fun _ _ _ h => h
            case hwqt152_ => rfl
            case hyqt152_ =>
              intro w' hSw
              obtain ⟨r0, r1, r2, r3, r4, r5, r6⟩ := hSw
              go_simp
              try exact rfl
            try simp only [Act.put, List.setIfInBounds_toArray, List.set_cons_zero, List.set_cons_succ]
            refine wpLate_take (i := 7) (oi := ?oiqt153_) (v := ?vqt153_) [12, 13, 14] ?hiqt153_ (by decide +kernel) (by decide +kernel) (by decide +kernel) (by decide +kernel) (by decide +kernel) ?hQqt153_ (Or.inl ⟨?hwqt153_, ?hyqt153_⟩) (KS.out _ KT.out.b) ?restqt153_
            case hiqt153_ => (simp only [List.getElem?_toArray, List.getElem?_cons_zero, List.getElem?_cons_succ]; rfl)
            case hQqt153_ => exact fun _ _ _ h => h
            case hwqt153_ => rfl
            case hyqt153_ =>
              intro w' hSw
              obtain ⟨r0, r1, r2, r3, r4, r5, r6⟩ := hSw
              go_simp
              try exact rfl
            try simp only [Act.put, List.setIfInBounds_toArray, List.set_cons_zero, List.set_cons_succ]
            refine wpLate_take (i := 8) (oi := ?oiqt154_) (v := ?vqt154_) [13, 14] ?hiqt154_ (by decide +kernel) (by decide +kernel) (by decide +kernel) (by decide +kernel) (by decide +kernel) ?hQqt154_ (Or.inl ⟨?hwqt154_, ?hyqt154_⟩) (KS.out _ KT.out.b) ?restqt154_
            case hiqt154_ => (simp only [List.getElem?_toArray, List.getElem?_cons_zero, List.getElem?_cons_succ]; rfl)
            case hQqt154_ => exact fun _ _ _ h => h
            case hwqt154_ => rfl
            case hyqt154_ =>
              intro w' hSw
              obtain ⟨r0, r1, r2, r3, r4, r5, r6⟩ := hSw
              go_simp
              try exact rfl
            try simp only [Act.put, List.setIfInBounds_toArray, List.set_cons_zero, List.set_cons_succ]
            refine wpLate_take (i := 9) (oi := ?oiqt155_) (v := ?vqt155_) [14] ?hiqt155_ (by decide +kernel) (by decide +kernel) (by decide +kernel) (by decide +kernel) (by decide +kernel) ?hQqt155_ (Or.inl ⟨?hwqt155_, ?hyqt155_⟩) (KS.out _ KT.out.b) ?restqt155_
            case hiqt155_ => (simp only [List.getElem?_toArray, List.getElem?_cons_zero, List.getElem?_cons_succ]; rfl)
            case hQqt155_ => exact fun _ _ _ h => h
            case hwqt155_ => rfl
            case hyqt155_ =>
              intro w' hSw
              obtain ⟨r0, r1, r2, r3, r4, r5, r6⟩ := hSw
              go_simp
              try exact rfl
            try simp only [Act.put, List.setIfInBounds_toArray, List.set_cons_zero, List.set_cons_succ]
            replace KT := Lib.hid KT.out.fin
            refine wpLate_one (i := 12) (o := ?oqf156_12) (by decide +kernel) ?hoqf156_12 ?hkqf156_12
            case hoqf156_12 => (simp only [List.getElem?_toArray, List.getElem?_cons_zero, List.getElem?_cons_succ]; rfl)
            intro K hK
            refine (if_pos (show Region.wanted _ _ = true from rfl)).mpr ?_
            refine KT.out.store1 (m := qL.w) (n := qH.w) rfl rfl rfl ?_
            replace KT := Lib.hid (KT.out.put1 (x' := .int .i64 qL.w) (y' := .int .i64 qH.w))
            refine hK.out _ _ (fun h => KS.out _ KT.out.b) ?_
            clear hK K
            generalize (World.setCell wq151 ⟨Daq, 0, none⟩ (.int .i64 qL.w)).setCell ⟨Daq, 1, none⟩ (.int .i64 qH.w) = wq157 at KT ⊢
            try simp only [Act.put, List.setIfInBounds_toArray, List.set_cons_zero, List.set_cons_succ]
            refine wpLate_one (i := 13) (o := ?oqf158_13) (by decide +kernel) ?hoqf158_13 ?hkqf158_13
            case hoqf158_13 => (simp only [List.getElem?_toArray, List.getElem?_cons_zero, List.getElem?_cons_succ]; rfl)
            intro K hK
            refine (if_pos (show Region.wanted _ _ = true from rfl)).mpr ?_
            refine KT.out.store2 (c' := qL) (d' := qH) rfl rfl rfl ?_
            replace KT := Lib.hid (KT.out.put2 (c' := qL) (d' := qH))
            refine hK.out _ _ (fun h => KS.out _ KT.out.b) ?_
            clear hK K
            generalize set8 wq157 Dbq qL qH = wq159 at KT ⊢
            try simp only [Act.put, List.setIfInBounds_toArray, List.set_cons_zero, List.set_cons_succ]
            refine wpLate_one (i := 14) (o := ?oqg160_14) (by decide +kernel) ?hoqg160_14 ?hkqg160_14
            case hoqg160_14 => (simp only [List.getElem?_toArray, List.getElem?_cons_zero, List.getElem?_cons_succ]; rfl)
            intro K hK
            go_simp
            refine hK.out _ _ (fun h => KS.out _ KT.out.b) ?_
            clear hK K
            try simp only [Act.put, List.setIfInBounds_toArray, List.set_cons_zero, List.set_cons_succ]
            refine wpLate_done (by decide +kernel) ?_ _
            try simp only [Act.put, List.setIfInBounds_toArray, List.set_cons_zero, List.set_cons_succ]
            try go_wp2_with fail
            go_meet
            exact ⟨_, _, rfl, rfl, rfl, KT⟩
    case rest =>
      obtain ⟨E1, E2, rfl, rfl, rfl, HT⟩ := hcut
      rename World => w6
      have K6 := Lib.hid (show PL W w6 a A B ca cb lo hi L AL DM xL xH ∧ Has w6 D2 34 (moi pL pH) ∧ Has w6 E1 24 #[.int .i64 qL.w, .int .i64 qH.w] ∧ Has w6 E2 34 (moi qL qH) from ⟨K5.out.1.step HT.out.b, K5.out.2.2.below HT.out.b K5.out.2.2.lt, HT.out.d1.2, HT.out.d2.2⟩)
      clear HT K5 HRD
      have HPS := Lib.hid (parts_sum (a := a) lo hi hkl)
      rw [← HX.out.1, ← HX.out.2, ← HPP.out.1, ← HPP.out.2, ← HQQ.out.1, ← HQQ.out.2] at HPS
      have hgb := parts_bd HIN.out hkl
      rw [← HPP.out.1, ← HPP.out.2, ← HQQ.out.1, ← HQQ.out.2] at hgb
      have HGB := Lib.hid hgb
      clear hgb
      have HE : Hid (xL.w = qL.w ∧ xH.w = qH.w) := Lib.hid ⟨by rw [HPS.out.1]; rfl, by rw [HPS.out.2]; rfl⟩
      have K7 : Hid (P6 W w6 a A B ca cb lo hi L AL DM xL xH D2 E1 E2 pL pH qL qH) := Lib.hid ⟨K6.out.1, K6.out.2.1, by rw [HE.out.1, HE.out.2]; exact K6.out.2.2.1, K6.out.2.2.2⟩
      have HP0 := Lib.hid (fun w' (h : P6 W w' a A B ca cb lo hi L AL DM xL xH D2 E1 E2 pL pH qL qH) => (plus25_any pL.came pH.came qL.came qH.came w' (by have := HGB.out; unfold CB at this; omega) (by have := HGB.out; unfold CB at this; omega) (by have := HGB.out; unfold CB at this; omega) (by have := HGB.out; unfold CB at this; omega)).mono (fun e w'' h' => (show e = .returned (.agg #[.int .i64 xL.came, .int .i64 xH.came]) ∧ P6 W w'' a A B ca cb lo hi L AL DM xL xH D2 E1 E2 pL pH qL qH from ⟨by rw [h'.1, HPS.out.1, HPS.out.2]; rfl, h.step h'.2⟩)))
      have HP1 := Lib.hid (fun w' (h : P6 W w' a A B ca cb lo hi L AL DM xL xH D2 E1 E2 pL pH qL qH) => (plus25_any pL.out pH.out qL.out qH.out w' (by have := HGB.out; unfold CB at this; omega) (by have := HGB.out; unfold CB at this; omega) (by have := HGB.out; unfold CB at this; omega) (by have := HGB.out; unfold CB at this; omega)).mono (fun e w'' h' => (show e = .returned (.agg #[.int .i64 xL.out, .int .i64 xH.out]) ∧ P6 W w'' a A B ca cb lo hi L AL DM xL xH D2 E1 E2 pL pH qL qH from ⟨by rw [h'.1, HPS.out.1, HPS.out.2]; rfl, h.step h'.2⟩)))
      have HP2 := Lib.hid (fun w' (h : P6 W w' a A B ca cb lo hi L AL DM xL xH D2 E1 E2 pL pH qL qH) => (plus25_any pL.dried pH.dried qL.dried qH.dried w' (by have := HGB.out; unfold CB at this; omega) (by have := HGB.out; unfold CB at this; omega) (by have := HGB.out; unfold CB at this; omega) (by have := HGB.out; unfold CB at this; omega)).mono (fun e w'' h' => (show e = .returned (.agg #[.int .i64 xL.dried, .int .i64 xH.dried]) ∧ P6 W w'' a A B ca cb lo hi L AL DM xL xH D2 E1 E2 pL pH qL qH from ⟨by rw [h'.1, HPS.out.1, HPS.out.2]; rfl, h.step h'.2⟩)))
      have HP3 := Lib.hid (fun w' (h : P6 W w' a A B ca cb lo hi L AL DM xL xH D2 E1 E2 pL pH qL qH) => (plus25_any pL.dew pH.dew qL.dew qH.dew w' (by have := HGB.out; unfold CB at this; omega) (by have := HGB.out; unfold CB at this; omega) (by have := HGB.out; unfold CB at this; omega) (by have := HGB.out; unfold CB at this; omega)).mono (fun e w'' h' => (show e = .returned (.agg #[.int .i64 xL.dew, .int .i64 xH.dew]) ∧ P6 W w'' a A B ca cb lo hi L AL DM xL xH D2 E1 E2 pL pH qL qH from ⟨by rw [h'.1, HPS.out.1, HPS.out.2]; rfl, h.step h'.2⟩)))
      clear K6
      go_upto_region 11 with fail
      go_cut [135] (fun u135 wx => u135 = .bool false ∧ Hid (P6 W wx a A B ca cb lo hi L AL DM xL xH D2 E1 E2 pL pH qL qH))
      case first =>
        haveI hne : Nonempty (Cls (fun w' => P6 W w' a A B ca cb lo hi L AL DM xL xH D2 E1 E2 pL pH qL qH)) := ⟨⟨_, K7.out.step ((Below.refl _ _).drew)⟩⟩
        have hx0_ : ∀ pc : Cls (fun w' => P6 W w' a A B ca cb lo hi L AL DM xL xH D2 E1 E2 pL pH qL qH), pc.w.cell? ⟨E1, 0, none⟩ = some (.int .i64 xL.w) := fun pc => pc.h.e.cell 0
        have hx1_ : ∀ pc : Cls (fun w' => P6 W w' a A B ca cb lo hi L AL DM xL xH D2 E1 E2 pL pH qL qH), pc.w.cell? ⟨DM, 0, none⟩ = some (.int .i64 xL.w) := fun pc => pc.h.p.s.cell 0
        have hx2_ : ∀ pc : Cls (fun w' => P6 W w' a A B ca cb lo hi L AL DM xL xH D2 E1 E2 pL pH qL qH), pc.w.cell? ⟨E1, 1, none⟩ = some (.int .i64 xH.w) := fun pc => pc.h.e.cell 1
        have hx3_ : ∀ pc : Cls (fun w' => P6 W w' a A B ca cb lo hi L AL DM xL xH D2 E1 E2 pL pH qL qH), pc.w.cell? ⟨DM, 1, none⟩ = some (.int .i64 xH.w) := fun pc => pc.h.p.s.cell 1
        have hx4_ : ∀ pc : Cls (fun w' => P6 W w' a A B ca cb lo hi L AL DM xL xH D2 E1 E2 pL pH qL qH), pc.w.cell? ⟨D2, 0, none⟩ = some (.int .i64 pL.came) := fun pc => pc.h.d.cell 0
        have hx5_ : ∀ pc : Cls (fun w' => P6 W w' a A B ca cb lo hi L AL DM xL xH D2 E1 E2 pL pH qL qH), pc.w.cell? ⟨D2, 1, none⟩ = some (.int .i64 pH.came) := fun pc => pc.h.d.cell 1
        have hx6_ : ∀ pc : Cls (fun w' => P6 W w' a A B ca cb lo hi L AL DM xL xH D2 E1 E2 pL pH qL qH), pc.w.cell? ⟨E2, 0, none⟩ = some (.int .i64 qL.came) := fun pc => pc.h.f.cell 0
        have hx7_ : ∀ pc : Cls (fun w' => P6 W w' a A B ca cb lo hi L AL DM xL xH D2 E1 E2 pL pH qL qH), pc.w.cell? ⟨E2, 1, none⟩ = some (.int .i64 qH.came) := fun pc => pc.h.f.cell 1
        have hx8_ : ∀ pc : Cls (fun w' => P6 W w' a A B ca cb lo hi L AL DM xL xH D2 E1 E2 pL pH qL qH), pc.w.cell? ⟨DM + 1, 0, none⟩ = some (.int .i64 xL.came) := fun pc => pc.h.p.m.cell 0
        have hx9_ : ∀ pc : Cls (fun w' => P6 W w' a A B ca cb lo hi L AL DM xL xH D2 E1 E2 pL pH qL qH), pc.w.cell? ⟨DM + 1, 1, none⟩ = some (.int .i64 xH.came) := fun pc => pc.h.p.m.cell 1
        have hx10_ : ∀ pc : Cls (fun w' => P6 W w' a A B ca cb lo hi L AL DM xL xH D2 E1 E2 pL pH qL qH), pc.w.cell? ⟨D2, 2, none⟩ = some (.int .i64 pL.out) := fun pc => pc.h.d.cell 2
        have hx11_ : ∀ pc : Cls (fun w' => P6 W w' a A B ca cb lo hi L AL DM xL xH D2 E1 E2 pL pH qL qH), pc.w.cell? ⟨D2, 3, none⟩ = some (.int .i64 pH.out) := fun pc => pc.h.d.cell 3
        have hx12_ : ∀ pc : Cls (fun w' => P6 W w' a A B ca cb lo hi L AL DM xL xH D2 E1 E2 pL pH qL qH), pc.w.cell? ⟨E2, 2, none⟩ = some (.int .i64 qL.out) := fun pc => pc.h.f.cell 2
        have hx13_ : ∀ pc : Cls (fun w' => P6 W w' a A B ca cb lo hi L AL DM xL xH D2 E1 E2 pL pH qL qH), pc.w.cell? ⟨E2, 3, none⟩ = some (.int .i64 qH.out) := fun pc => pc.h.f.cell 3
        have hx14_ : ∀ pc : Cls (fun w' => P6 W w' a A B ca cb lo hi L AL DM xL xH D2 E1 E2 pL pH qL qH), pc.w.cell? ⟨DM + 1, 2, none⟩ = some (.int .i64 xL.out) := fun pc => pc.h.p.m.cell 2
        have hx15_ : ∀ pc : Cls (fun w' => P6 W w' a A B ca cb lo hi L AL DM xL xH D2 E1 E2 pL pH qL qH), pc.w.cell? ⟨DM + 1, 3, none⟩ = some (.int .i64 xH.out) := fun pc => pc.h.p.m.cell 3
        have hx16_ : ∀ pc : Cls (fun w' => P6 W w' a A B ca cb lo hi L AL DM xL xH D2 E1 E2 pL pH qL qH), pc.w.cell? ⟨D2, 4, none⟩ = some (.int .i64 pL.dried) := fun pc => pc.h.d.cell 4
        have hx17_ : ∀ pc : Cls (fun w' => P6 W w' a A B ca cb lo hi L AL DM xL xH D2 E1 E2 pL pH qL qH), pc.w.cell? ⟨D2, 5, none⟩ = some (.int .i64 pH.dried) := fun pc => pc.h.d.cell 5
        have hx18_ : ∀ pc : Cls (fun w' => P6 W w' a A B ca cb lo hi L AL DM xL xH D2 E1 E2 pL pH qL qH), pc.w.cell? ⟨E2, 4, none⟩ = some (.int .i64 qL.dried) := fun pc => pc.h.f.cell 4
        have hx19_ : ∀ pc : Cls (fun w' => P6 W w' a A B ca cb lo hi L AL DM xL xH D2 E1 E2 pL pH qL qH), pc.w.cell? ⟨E2, 5, none⟩ = some (.int .i64 qH.dried) := fun pc => pc.h.f.cell 5
        have hx20_ : ∀ pc : Cls (fun w' => P6 W w' a A B ca cb lo hi L AL DM xL xH D2 E1 E2 pL pH qL qH), pc.w.cell? ⟨DM + 1, 4, none⟩ = some (.int .i64 xL.dried) := fun pc => pc.h.p.m.cell 4
        have hx21_ : ∀ pc : Cls (fun w' => P6 W w' a A B ca cb lo hi L AL DM xL xH D2 E1 E2 pL pH qL qH), pc.w.cell? ⟨DM + 1, 5, none⟩ = some (.int .i64 xH.dried) := fun pc => pc.h.p.m.cell 5
        have hx22_ : ∀ pc : Cls (fun w' => P6 W w' a A B ca cb lo hi L AL DM xL xH D2 E1 E2 pL pH qL qH), pc.w.cell? ⟨D2, 6, none⟩ = some (.int .i64 pL.dew) := fun pc => pc.h.d.cell 6
        have hx23_ : ∀ pc : Cls (fun w' => P6 W w' a A B ca cb lo hi L AL DM xL xH D2 E1 E2 pL pH qL qH), pc.w.cell? ⟨D2, 7, none⟩ = some (.int .i64 pH.dew) := fun pc => pc.h.d.cell 7
        have hx24_ : ∀ pc : Cls (fun w' => P6 W w' a A B ca cb lo hi L AL DM xL xH D2 E1 E2 pL pH qL qH), pc.w.cell? ⟨E2, 6, none⟩ = some (.int .i64 qL.dew) := fun pc => pc.h.f.cell 6
        have hx25_ : ∀ pc : Cls (fun w' => P6 W w' a A B ca cb lo hi L AL DM xL xH D2 E1 E2 pL pH qL qH), pc.w.cell? ⟨E2, 7, none⟩ = some (.int .i64 qH.dew) := fun pc => pc.h.f.cell 7
        have hx26_ : ∀ pc : Cls (fun w' => P6 W w' a A B ca cb lo hi L AL DM xL xH D2 E1 E2 pL pH qL qH), pc.w.cell? ⟨DM + 1, 6, none⟩ = some (.int .i64 xL.dew) := fun pc => pc.h.p.m.cell 6
        have hx27_ : ∀ pc : Cls (fun w' => P6 W w' a A B ca cb lo hi L AL DM xL xH D2 E1 E2 pL pH qL qH), pc.w.cell? ⟨DM + 1, 7, none⟩ = some (.int .i64 xH.dew) := fun pc => pc.h.p.m.cell 7
        have hneq := fun x y w => neq24 x y w
        have hp0 := HP0.out
        have hp1 := HP1.out
        have hp2 := HP2.out
        have hp3 := HP3.out
        refine wp_region_cls (fun w' => P6 W w' a A B ca cb lo hi L AL DM xL xH D2 E1 E2 pL pH qL qH) hmix (by kernel_rfl) (K7.out.step ((Below.refl _ _).drew)) ?_
        repeat (quiet_step (first | (with_reducible exact cls_call hp0 _) | (with_reducible exact cls_call hp1 _) | (with_reducible exact cls_call hp2 _) | (with_reducible exact cls_call hp3 _)))
        refine wpQuiet_nil ?_
        rintro w7 ⟨⟨_, hw7⟩, rfl⟩
        try simp only []
        have K8 := Lib.hid hw7
        clear hw7
        try go_wp2_with fail
        go_meet
        exact ⟨rfl, K8⟩
      case rest =>
        obtain ⟨rfl, K8'⟩ := hcut
        rename World => w7
        have K8 := Lib.hid K8'.out.p
        clear K8' K7 HP0 HP1 HP2 HP3 HE HPS HGB
        obtain ⟨gu, ou, hAU, -⟩ := HUR.out.1 0 hUp
        subst hAU
        have hvb := ((insB_iff _ _ _ _).1 HIN.out).1.b
        have hva := ((insB_iff _ _ _ _).1 HIN.out).2.1
        have HNW := Lib.hid (fun (x y : Int) (z : Nat) w (hx : 0 ≤ x ∧ x ≤ y ∧ y ≤ 1099511627776) (hz : z ≤ 1000000) (hb : Below W.heap.size W w) => narrow_any x y U gu ou cu z w hx (urow_up HUR.out.1 hb) hUp hU HUR.out.2 hz)
        unfold SpanPost at HNW
        obtain ⟨bl, hbl⟩ : ∃ x, x = narLo a.b0 a.b1 U 0 := ⟨_, rfl⟩
        obtain ⟨bh, hbh⟩ : ∃ x, x = narHi a.b0 a.b1 U 0 := ⟨_, rfl⟩
        have HN0 : Hid (∀ w, Below W.heap.size W w → Calls Try.prog 26 #[.agg #[.int .i64 a.b0, .int .i64 a.b1], .slice (some ⟨gu, ou, none⟩) U.length cu, .int .i64 0] w fun e w' => e = .returned (.agg #[.int .i64 bl, .int .i64 bh]) ∧ Below w.heap.size w w') := Lib.hid fun w hb => by
          have h := HNW.out a.b0 a.b1 0 w (by omega) (by omega) hb
          rw [← hbl, ← hbh] at h
          exact h
        have HBB := Lib.hid (show narB a U = ⟨a.R, a.T, a.H, bl, bh⟩ by rw [hbl, hbh]; rfl)
        clear hbl hbh
        have a0 : w7.cell? ⟨W.heap.size, 0, none⟩ = some (.int .i64 a.R) := K8.out.l.v.b.fa.cell 0
        have a1 : w7.cell? ⟨W.heap.size, 1, none⟩ = some (.slice A a.T.length ca) := K8.out.l.v.b.fa.cell 1
        have a2 : w7.cell? ⟨W.heap.size, 2, none⟩ = some (.slice B a.H.length cb) := K8.out.l.v.b.fa.cell 2
        have a3 : w7.cell? ⟨W.heap.size, 3, none⟩ = some (.int .i64 a.b0) := K8.out.l.v.b.fa.cell 3
        have a4 : w7.cell? ⟨W.heap.size, 4, none⟩ = some (.int .i64 a.b1) := K8.out.l.v.b.fa.cell 4
        have X8 : Hid (Has (w7.alloc (.cells #[.int .i64 a.R, .slice A a.T.length ca, .slice B a.H.length cb, .int .i64 a.b0, .int .i64 a.b1] 26)) w7.heap.size 26 #[.int .i64 a.R, .slice A a.T.length ca, .slice B a.H.length cb, .int .i64 a.b0, .int .i64 a.b1] ∧ Below w7.heap.size w7 (w7.alloc (.cells #[.int .i64 a.R, .slice A a.T.length ca, .slice B a.H.length cb, .int .i64 a.b0, .int .i64 a.b1] 26))) := Lib.hid ⟨Has.new _ _ _, below_one _ _⟩
        obtain ⟨F, hF⟩ : ∃ F, F = w7.heap.size := ⟨_, rfl⟩
        have HF := Lib.hid hF
        go_upto_region 15 with fail
        rw [← hF] at X8 ⊢
        generalize w7.alloc (.cells #[.int .i64 a.R, .slice A a.T.length ca, .slice B a.H.length cb, .int .i64 a.b0, .int .i64 a.b1] 26) = w8 at X8 ⊢
        clear a0 a1 a2 a3 a4 hF
        have a3 : w8.cell? ⟨W.heap.size, 3, none⟩ = some (.int .i64 a.b0) := (K8.out.step (by rw [← HF.out]; exact X8.out.2)).l.v.b.fa.cell 3
        have a4 : w8.cell? ⟨W.heap.size, 4, none⟩ = some (.int .i64 a.b1) := (K8.out.step (by rw [← HF.out]; exact X8.out.2)).l.v.b.fa.cell 4
        go_wp2_with fail
        refine (HN0.out _ ((K8.out.step (by rw [← HF.out]; exact X8.out.2)).l.v.b.b)).mono ?_
        rintro e w9 ⟨rfl, hb⟩
        have X9 := Lib.hid (And.intro (X8.out.1.below hb X8.out.1.lt) (X8.out.2.trans (hb.mono (Nat.le_of_lt X8.out.1.lt))))
        clear a3 a4 hb X8
        have z3 : w9.cell? ⟨F, 3, none⟩ = some (.int .i64 a.b0) := X9.out.1.cell 3
        have z4 : w9.cell? ⟨F, 4, none⟩ = some (.int .i64 a.b1) := X9.out.1.cell 4
        have f3 := X9.out.1.frozen 3
        have f4 := X9.out.1.frozen 4
        have K9 : Hid (P8 W ((w9.setCell ⟨F, 3, none⟩ (.int .i64 bl)).setCell ⟨F, 4, none⟩ (.int .i64 bh)) a A B ca cb lo hi L AL DM xL xH F bl bh) := Lib.hid ⟨K8.out.step (by rw [← HF.out]; exact (X9.out.2.setCell (Nat.le_refl _) _).setCell (Nat.le_refl _) _), (X9.out.1.set 3 _).set 4 _⟩
        go_upto_region 16 with fail
        clear z3 z4 f3 f4 X9 K8 HF
        generalize (w9.setCell ⟨F, 3, none⟩ (.int .i64 bl)).setCell ⟨F, 4, none⟩ (.int .i64 bh) = w10 at K9 ⊢
        go_wp2_with fail
        go_loopg [21, 23, 24] L.length (fun gk u21 u23 u24 wr => ∃ q : Nat, q ≤ L.length ∧ L.length - q ≤ gk ∧ u24 = .int .i64 q ∧ ∃ (zz : Nat) (m : List Stp) (V : Option Addr) (c : Nat), zz = 3 * q ∧ u21 = .int .i64 (zz : Int) ∧ u23 = .slice V m.length c ∧ Hid (T0 w10 wr (.slice V m.length c) (.slice none 0 0) (.slice none 0 0) m [] [] ∧ NarL (L.take q) m))
        case atStart => exact ⟨0, Nat.zero_le _, Nat.le_refl _, rfl, 0, [], none, 0, rfl, rfl, rfl, Lib.hid ⟨T0.start _, ⟨by simp, fun k h => absurd h (by simp)⟩⟩⟩
        case round =>
          obtain ⟨q, hq, hgq, rfl, zz, m, V, c, hzz, rfl, rfl, HW⟩ := hrel
          have hz6 : zz ≤ 600 := by omega
          have HZZ := Lib.hid hzz
          clear hzz
          by_cases hlt : q < L.length
          rotate_left
          · have hge : ¬ (q : Int) < L.length := by omega
            obtain ⟨hw0, hnl⟩ := HW.out
            rw [List.take_of_length_le (by omega)] at hnl
            have KR : Hid (P8 W wr a A B ca cb lo hi L AL DM xL xH F bl bh ∧ SRow wr wr.heap.size V m) := Lib.hid (by
              obtain ⟨A1, d1, e1, s1⟩ := row_steps hw0.o1
              cases e1
              exact ⟨K9.out.step hw0.b, s1⟩)
            have hml : m.length ≤ 200 := by rw [hnl.n]; exact hl200
            have hnw := nar_in hva.2.1 U zz
            obtain ⟨nl, hnl1⟩ : ∃ x, x = narLo lo hi U zz := ⟨_, rfl⟩
            obtain ⟨nh, hnh1⟩ : ∃ x, x = narHi lo hi U zz := ⟨_, rfl⟩
            rw [← hnl1, ← hnh1] at hnw
            have hnn := narB_nar ((insB_iff _ _ _ _).1 HIN.out).1 U
            have hii := nar_ins HIN.out hnn hnl hnw.1 hnw.2.1 hnw.2.2
            have hrr := nar_run HIN.out hnn hnl hnw.1 hnw.2.1 hnw.2.2
            rw [← HX.out.1, ← HX.out.2] at hrr
            obtain ⟨rL, hrL⟩ : ∃ c, c = runL (narB a U) nl m := ⟨_, rfl⟩
            obtain ⟨rH, hrH⟩ : ∃ c, c = runH (narB a U) nh m := ⟨_, rfl⟩
            rw [← hrL, ← hrH] at hrr
            have HRR := Lib.hid hrr
            have HC4 : Hid (∀ w', Below wr.heap.size wr w' → Calls Try.prog 26 #[.agg #[.int .i64 lo, .int .i64 hi], .slice (some ⟨gu, ou, none⟩) U.length cu, .int .i64 (zz : Int)] w' fun e w'' => e = .returned (.agg #[.int .i64 nl, .int .i64 nh]) ∧ Below w'.heap.size w' w'') := Lib.hid fun w' hb => by
              have h := HNW.out lo hi zz w' (by omega) (by omega) ((KR.out.1.step hb).p.l.v.b.b)
              rw [← hnl1, ← hnh1] at h
              exact h
            have HC6 : Hid (∀ w', Below wr.heap.size wr w' → Calls Try.prog 13 #[.agg #[.int .i64 a.R, .slice A a.T.length ca, .slice B a.H.length cb, .int .i64 bl, .int .i64 bh], .agg #[.int .i64 nl, .int .i64 nh], .slice V m.length c] w' fun e w'' => e = .returned (.tuple #[.agg #[.int .i64 rL.w, .int .i64 rH.w], .agg (moi rL rH), .int .i64 0]) ∧ Below w'.heap.size w' w'') := Lib.hid fun w' hb => by
              have hx := KR.out.1.step hb
              have h := HRx.out (narB a U) nl nh m V c w' (air_same U hx.p.l.ar) ((KR.out.2.below hb).more hb.size) (by omega)
              rw [runE_yes hii, ← hrL, ← hrH, HBB.out] at h
              exact h
            clear hw0 hnl hnl1 hnh1 hnn hii hrr hrL hrH HW hq hgq hlt hnw HRx
            go_upto_region 25 with fail
            go_cut [26, 27, 28] (fun u26 u27 u28 wx => ∃ G1 G2, u26 = .pointer (some ⟨G1, 0, none⟩) ∧ u27 = .pointer (some ⟨G2, 0, none⟩) ∧ u28 = .int .i64 0 ∧ Hid (TH wr wx G1 G2 #[.int .i64 rL.w, .int .i64 rH.w] rL rH))
            case first =>
              have KT := Lib.hid (TG.start wr)
              have KS : Hid (∀ w', Below wr.heap.size wr w' → w'.cell? ⟨F, 0, none⟩ = some (.int .i64 a.R) ∧ w'.cell? ⟨F, 1, none⟩ = some (.slice A a.T.length ca) ∧ w'.cell? ⟨F, 2, none⟩ = some (.slice B a.H.length cb) ∧ w'.cell? ⟨F, 3, none⟩ = some (.int .i64 bl) ∧ w'.cell? ⟨F, 4, none⟩ = some (.int .i64 bh) ∧ w'.cell? ⟨W.heap.size + 1, 0, none⟩ = some (.int .i64 lo) ∧ w'.cell? ⟨W.heap.size + 1, 1, none⟩ = some (.int .i64 hi)) := Lib.hid fun w' hb => by
                have X := KR.out.1.step hb
                exact ⟨X.f.cell 0, X.f.cell 1, X.f.cell 2, X.f.cell 3, X.f.cell 4, X.p.l.v.fw.cell 0, X.p.l.v.fw.cell 1⟩
              refine wp_region_late (fun w' : World => w'.cell? ⟨F, 0, none⟩ = some (.int .i64 a.R) ∧ w'.cell? ⟨F, 1, none⟩ = some (.slice A a.T.length ca) ∧ w'.cell? ⟨F, 2, none⟩ = some (.slice B a.H.length cb) ∧ w'.cell? ⟨F, 3, none⟩ = some (.int .i64 bl) ∧ w'.cell? ⟨F, 4, none⟩ = some (.int .i64 bh) ∧ w'.cell? ⟨W.heap.size + 1, 0, none⟩ = some (.int .i64 lo) ∧ w'.cell? ⟨W.heap.size + 1, 1, none⟩ = some (.int .i64 hi)) [] (by decide +kernel) ?_
              generalize wr.drew = wdr at KT ⊢
              refine wpLate_take (i := 0) (oi := ?oirt161_) (v := ?vrt161_) [6, 7, 8, 9, 10, 13, 14, 15] ?hirt161_ (by decide +kernel) (by decide +kernel) (by decide +kernel) (by decide +kernel) (by decide +kernel) ?hQrt161_ (Or.inl ⟨?hwrt161_, ?hyrt161_⟩) (KS.out _ KT.out.b) ?restrt161_
              case hirt161_ => (simp only [List.getElem?_toArray, List.getElem?_cons_zero]; rfl)
              case hQrt161_ => exact fun _ _ _ h => h
              case hwrt161_ => rfl
              case hyrt161_ =>
                intro w' hSw
                obtain ⟨r0, r1, r2, r3, r4, r5, r6⟩ := hSw
                go_simp
                try exact rfl
              try simp only [Act.put, List.setIfInBounds_toArray, List.set_cons_zero, List.set_cons_succ]
              refine wpLate_take (i := 1) (oi := ?oirt162_) (v := ?vrt162_) [4, 6, 7, 8, 9, 10, 13, 14, 15] ?hirt162_ (by decide +kernel) (by decide +kernel) (by decide +kernel) (by decide +kernel) (by decide +kernel) ?hQrt162_ (Or.inl ⟨?hwrt162_, ?hyrt162_⟩) (KS.out _ KT.out.b) ?restrt162_
              case hirt162_ => (simp only [List.getElem?_toArray, List.getElem?_cons_zero, List.getElem?_cons_succ]; rfl)
              case hQrt162_ => exact fun _ _ _ h => h
              case hwrt162_ => rfl
              case hyrt162_ =>
                intro w' hSw
                obtain ⟨r0, r1, r2, r3, r4, r5, r6⟩ := hSw
                go_simp
                try exact rfl
              try simp only [Act.put, List.setIfInBounds_toArray, List.set_cons_zero, List.set_cons_succ]
              refine wpLate_take (i := 2) (oi := ?oirt163_) (v := ?vrt163_) [4, 6, 7, 8, 9, 10, 13, 14, 15] ?hirt163_ (by decide +kernel) (by decide +kernel) (by decide +kernel) (by decide +kernel) (by decide +kernel) ?hQrt163_ (Or.inl ⟨?hwrt163_, ?hyrt163_⟩) (KS.out _ KT.out.b) ?restrt163_
              case hirt163_ => (simp only [List.getElem?_toArray, List.getElem?_cons_zero, List.getElem?_cons_succ]; rfl)
              case hQrt163_ => exact fun _ _ _ h => h
              case hwrt163_ => rfl
              case hyrt163_ =>
                intro w' hSw
                obtain ⟨r0, r1, r2, r3, r4, r5, r6⟩ := hSw
                go_simp
                try exact rfl
              try simp only [Act.put, List.setIfInBounds_toArray, List.set_cons_zero, List.set_cons_succ]
              refine wpLate_take (i := 3) (oi := ?oirt164_) (v := ?vrt164_) [4, 6, 7, 8, 9, 10, 13, 14, 15] ?hirt164_ (by decide +kernel) (by decide +kernel) (by decide +kernel) (by decide +kernel) (by decide +kernel) ?hQrt164_ (Or.inl ⟨?hwrt164_, ?hyrt164_⟩) (KS.out _ KT.out.b) ?restrt164_
              case hirt164_ => (simp only [List.getElem?_toArray, List.getElem?_cons_zero, List.getElem?_cons_succ]; rfl)
              case hQrt164_ => exact fun _ _ _ h => h
              case hwrt164_ => rfl
              case hyrt164_ =>
                intro w' hSw
                obtain ⟨r0, r1, r2, r3, r4, r5, r6⟩ := hSw
                go_simp
                try exact rfl
              try simp only [Act.put, List.setIfInBounds_toArray, List.set_cons_zero, List.set_cons_succ]
              refine wpLate_take (i := 5) (oi := ?oirt165_) (v := ?vrt165_) [6, 7, 8, 9, 10, 13, 14, 15] ?hirt165_ (by decide +kernel) (by decide +kernel) (by decide +kernel) (by decide +kernel) (by decide +kernel) ?hQrt165_ (Or.inl ⟨?hwrt165_, ?hyrt165_⟩) (KS.out _ KT.out.b) ?restrt165_
              case hirt165_ => (simp only [List.getElem?_toArray, List.getElem?_cons_zero, List.getElem?_cons_succ]; rfl)
              case hQrt165_ => exact fun _ _ _ h => h
              case hwrt165_ => rfl
              case hyrt165_ =>
                intro w' hSw
                obtain ⟨r0, r1, r2, r3, r4, r5, r6⟩ := hSw
                go_simp
                try exact rfl
              try simp only [Act.put, List.setIfInBounds_toArray, List.set_cons_zero, List.set_cons_succ]
              refine wpLate_three (i := 4) (j := 11) (k := 12) (o := ?orn166_4) (u := ?orn166_11) (v := ?orn166_12) (by decide +kernel) ?horn166_4 ?horn166_11 ?horn166_12 ?hkrn166_4 ?hkrn166_11 ?hkrn166_12
              case horn166_4 => (simp only [List.getElem?_toArray, List.getElem?_cons_zero, List.getElem?_cons_succ]; rfl)
              case horn166_11 => (simp only [List.getElem?_toArray, List.getElem?_cons_zero, List.getElem?_cons_succ]; rfl)
              case horn166_12 => (simp only [List.getElem?_toArray, List.getElem?_cons_zero, List.getElem?_cons_succ]; rfl)
              case hkrn166_4 =>
                as_aux_lemma =>
                  intro K hK
                  go_simp
                  refine (HC4.out _ KT.out.b).mono ?_
                  rintro r wr167 ⟨rfl, hbs⟩
                  replace KT := Lib.hid (KT.out.call hbs)
                  clear hbs
                  go_simp
                  refine hK.out _ _ (fun _ => KS.out _ KT.out.b) ?_
                  clear hK K
                  try simp only [Act.put, List.setIfInBounds_toArray, List.set_cons_zero, List.set_cons_succ]
                  refine wpLate_three (i := 6) (j := 11) (k := 12) (o := ?orn168_6) (u := ?orn168_11) (v := ?orn168_12) (by decide +kernel) ?horn168_6 ?horn168_11 ?horn168_12 ?hkrn168_6 ?hkrn168_11 ?hkrn168_12
                  case horn168_6 => (simp only [List.getElem?_toArray, List.getElem?_cons_zero, List.getElem?_cons_succ]; rfl)
                  case horn168_11 => (simp only [List.getElem?_toArray, List.getElem?_cons_zero, List.getElem?_cons_succ]; rfl)
                  case horn168_12 => (simp only [List.getElem?_toArray, List.getElem?_cons_zero, List.getElem?_cons_succ]; rfl)
                  case hkrn168_6 =>
                    intro K hK
                    go_simp
                    refine (HC6.out _ KT.out.b).mono ?_
                    rintro r wr169 ⟨rfl, hbs⟩
                    replace KT := Lib.hid (KT.out.call hbs)
                    clear hbs
                    go_simp
                    refine hK.out _ _ (fun _ => KS.out _ KT.out.b) ?_
                    clear hK K
                    try simp only [Act.put, List.setIfInBounds_toArray, List.set_cons_zero, List.set_cons_succ]
                    refine wpLate_take (i := 7) (oi := ?oirt170_) (v := ?vrt170_) [8, 9, 10, 13, 14, 15] ?hirt170_ (by decide +kernel) (by decide +kernel) (by decide +kernel) (by decide +kernel) (by decide +kernel) ?hQrt170_ (Or.inl ⟨?hwrt170_, ?hyrt170_⟩) (KS.out _ KT.out.b) ?restrt170_
                    case hirt170_ => (simp only [List.getElem?_toArray, List.getElem?_cons_zero, List.getElem?_cons_succ]; rfl)
                    case hQrt170_ => exact fun _ _ _ h => h
                    case hwrt170_ => rfl
                    case hyrt170_ =>
                      intro w' hSw
                      obtain ⟨r0, r1, r2, r3, r4, r5, r6⟩ := hSw
                      go_simp
                      try exact rfl
                    try simp only [Act.put, List.setIfInBounds_toArray, List.set_cons_zero, List.set_cons_succ]
                    refine wpLate_take (i := 8) (oi := ?oirt171_) (v := ?vrt171_) [13, 14, 15] ?hirt171_ (by decide +kernel) (by decide +kernel) (by decide +kernel) (by decide +kernel) (by decide +kernel) ?hQrt171_ (Or.inl ⟨?hwrt171_, ?hyrt171_⟩) (KS.out _ KT.out.b) ?restrt171_
                    case hirt171_ => (simp only [List.getElem?_toArray, List.getElem?_cons_zero, List.getElem?_cons_succ]; rfl)
                    case hQrt171_ => exact fun _ _ _ h => h
                    case hwrt171_ => rfl
                    case hyrt171_ =>
                      intro w' hSw
                      obtain ⟨r0, r1, r2, r3, r4, r5, r6⟩ := hSw
                      go_simp
                      try exact rfl
                    try simp only [Act.put, List.setIfInBounds_toArray, List.set_cons_zero, List.set_cons_succ]
                    refine wpLate_take (i := 9) (oi := ?oirt172_) (v := ?vrt172_) [14, 15] ?hirt172_ (by decide +kernel) (by decide +kernel) (by decide +kernel) (by decide +kernel) (by decide +kernel) ?hQrt172_ (Or.inl ⟨?hwrt172_, ?hyrt172_⟩) (KS.out _ KT.out.b) ?restrt172_
                    case hirt172_ => (simp only [List.getElem?_toArray, List.getElem?_cons_zero, List.getElem?_cons_succ]; rfl)
                    case hQrt172_ => exact fun _ _ _ h => h
                    case hwrt172_ => rfl
                    case hyrt172_ =>
                      intro w' hSw
                      obtain ⟨r0, r1, r2, r3, r4, r5, r6⟩ := hSw
                      go_simp
                      try exact rfl
                    try simp only [Act.put, List.setIfInBounds_toArray, List.set_cons_zero, List.set_cons_succ]
                    refine wpLate_take (i := 10) (oi := ?oirt173_) (v := ?vrt173_) [15] ?hirt173_ (by decide +kernel) (by decide +kernel) (by decide +kernel) (by decide +kernel) (by decide +kernel) ?hQrt173_ (Or.inl ⟨?hwrt173_, ?hyrt173_⟩) (KS.out _ KT.out.b) ?restrt173_
                    case hirt173_ => (simp only [List.getElem?_toArray, List.getElem?_cons_zero, List.getElem?_cons_succ]; rfl)
                    case hQrt173_ => exact fun _ _ _ h => h
                    case hwrt173_ => rfl
                    case hyrt173_ =>
                      intro w' hSw
                      obtain ⟨r0, r1, r2, r3, r4, r5, r6⟩ := hSw
                      go_simp
                      try exact rfl
                    try simp only [Act.put, List.setIfInBounds_toArray, List.set_cons_zero, List.set_cons_succ]
                    refine wpLate_two (i := 11) (j := 12) (o := ?orn174_11) (u := ?orn174_12) (by decide +kernel) ?horn174_11 ?horn174_12 ?hkrn174_11 ?hkrn174_12
                    case horn174_11 => (simp only [List.getElem?_toArray, List.getElem?_cons_zero, List.getElem?_cons_succ]; rfl)
                    case horn174_12 => (simp only [List.getElem?_toArray, List.getElem?_cons_zero, List.getElem?_cons_succ]; rfl)
                    case hkrn174_11 =>
                      intro K hK
                      go_simp
                      replace KT := Lib.hid (KT.out.al1)
                      refine hK.out _ _ (fun _ => KS.out _ KT.out.b) ?_
                      clear hK K
                      obtain ⟨Dar, hDn⟩ : ∃ D, D = (World.heap wr169).size := ⟨_, rfl⟩
                      rw [← hDn] at KT ⊢
                      clear hDn
                      generalize World.alloc wr169 (.cells #[.int .i64 0, .int .i64 0] 24) = wr175 at KT ⊢
                      try simp only [Act.put, List.setIfInBounds_toArray, List.set_cons_zero, List.set_cons_succ]
                      refine wpLate_one (i := 12) (o := ?orn176_12) (by decide +kernel) ?horn176_12 ?hkrn176_12
                      case horn176_12 => (simp only [List.getElem?_toArray, List.getElem?_cons_zero, List.getElem?_cons_succ]; rfl)
                      intro K hK
                      go_simp
                      replace KT := Lib.hid (KT.out.al2)
                      refine hK.out _ _ (fun _ => KS.out _ KT.out.b) ?_
                      clear hK K
                      obtain ⟨Dbr, hDn⟩ : ∃ D, D = (World.heap wr175).size := ⟨_, rfl⟩
                      rw [← hDn] at KT ⊢
                      clear hDn
                      generalize World.alloc wr175 (.cells (moi ⟨0, 0, 0, 0, 0⟩ ⟨0, 0, 0, 0, 0⟩) 34) = wr177 at KT ⊢
                      try simp only [Act.put, List.setIfInBounds_toArray, List.set_cons_zero, List.set_cons_succ]
                      replace KT := Lib.hid KT.out.fin
                      refine wpLate_one (i := 13) (o := ?orf178_13) (by decide +kernel) ?horf178_13 ?hkrf178_13
                      case horf178_13 => (simp only [List.getElem?_toArray, List.getElem?_cons_zero, List.getElem?_cons_succ]; rfl)
                      intro K hK
                      refine (if_pos (show Region.wanted _ _ = true from rfl)).mpr ?_
                      refine KT.out.store1 (m := rL.w) (n := rH.w) rfl rfl rfl ?_
                      replace KT := Lib.hid (KT.out.put1 (x' := .int .i64 rL.w) (y' := .int .i64 rH.w))
                      refine hK.out _ _ (fun h => KS.out _ KT.out.b) ?_
                      clear hK K
                      generalize (World.setCell wr177 ⟨Dar, 0, none⟩ (.int .i64 rL.w)).setCell ⟨Dar, 1, none⟩ (.int .i64 rH.w) = wr179 at KT ⊢
                      try simp only [Act.put, List.setIfInBounds_toArray, List.set_cons_zero, List.set_cons_succ]
                      refine wpLate_one (i := 14) (o := ?orf180_14) (by decide +kernel) ?horf180_14 ?hkrf180_14
                      case horf180_14 => (simp only [List.getElem?_toArray, List.getElem?_cons_zero, List.getElem?_cons_succ]; rfl)
                      intro K hK
                      refine (if_pos (show Region.wanted _ _ = true from rfl)).mpr ?_
                      refine KT.out.store2 (c' := rL) (d' := rH) rfl rfl rfl ?_
                      replace KT := Lib.hid (KT.out.put2 (c' := rL) (d' := rH))
                      refine hK.out _ _ (fun h => KS.out _ KT.out.b) ?_
                      clear hK K
                      generalize set8 wr179 Dbr rL rH = wr181 at KT ⊢
                      try simp only [Act.put, List.setIfInBounds_toArray, List.set_cons_zero, List.set_cons_succ]
                      refine wpLate_one (i := 15) (o := ?org182_15) (by decide +kernel) ?horg182_15 ?hkrg182_15
                      case horg182_15 => (simp only [List.getElem?_toArray, List.getElem?_cons_zero, List.getElem?_cons_succ]; rfl)
                      intro K hK
                      go_simp
                      refine hK.out _ _ (fun h => KS.out _ KT.out.b) ?_
                      clear hK K
                      try simp only [Act.put, List.setIfInBounds_toArray, List.set_cons_zero, List.set_cons_succ]
                      refine wpLate_done (by decide +kernel) ?_ _
                      try simp only [Act.put, List.setIfInBounds_toArray, List.set_cons_zero, List.set_cons_succ]
                      try go_wp2_with fail
                      go_meet
                      exact ⟨_, _, rfl, rfl, rfl, KT⟩
                    case hkrn174_12 =>
                      intro K hK
                      go_simp
                      replace KT := Lib.hid (KT.out.al2)
                      refine hK.out _ _ (fun _ => KS.out _ KT.out.b) ?_
                      clear hK K
                      obtain ⟨Dbr, hDn⟩ : ∃ D, D = (World.heap wr169).size := ⟨_, rfl⟩
                      rw [← hDn] at KT ⊢
                      clear hDn
                      generalize World.alloc wr169 (.cells (moi ⟨0, 0, 0, 0, 0⟩ ⟨0, 0, 0, 0, 0⟩) 34) = wr183 at KT ⊢
                      try simp only [Act.put, List.setIfInBounds_toArray, List.set_cons_zero, List.set_cons_succ]
                      refine wpLate_one (i := 11) (o := ?orn184_11) (by decide +kernel) ?horn184_11 ?hkrn184_11
                      case horn184_11 => (simp only [List.getElem?_toArray, List.getElem?_cons_zero, List.getElem?_cons_succ]; rfl)
                      intro K hK
                      go_simp
                      replace KT := Lib.hid (KT.out.al1)
                      refine hK.out _ _ (fun _ => KS.out _ KT.out.b) ?_
                      clear hK K
                      obtain ⟨Dar, hDn⟩ : ∃ D, D = (World.heap wr183).size := ⟨_, rfl⟩
                      rw [← hDn] at KT ⊢
                      clear hDn
                      generalize World.alloc wr183 (.cells #[.int .i64 0, .int .i64 0] 24) = wr185 at KT ⊢
                      try simp only [Act.put, List.setIfInBounds_toArray, List.set_cons_zero, List.set_cons_succ]
                      replace KT := Lib.hid KT.out.fin
                      refine wpLate_one (i := 13) (o := ?orf186_13) (by decide +kernel) ?horf186_13 ?hkrf186_13
                      case horf186_13 => (simp only [List.getElem?_toArray, List.getElem?_cons_zero, List.getElem?_cons_succ]; rfl)
                      intro K hK
                      refine (if_pos (show Region.wanted _ _ = true from rfl)).mpr ?_
                      refine KT.out.store1 (m := rL.w) (n := rH.w) rfl rfl rfl ?_
                      replace KT := Lib.hid (KT.out.put1 (x' := .int .i64 rL.w) (y' := .int .i64 rH.w))
                      refine hK.out _ _ (fun h => KS.out _ KT.out.b) ?_
                      clear hK K
                      generalize (World.setCell wr185 ⟨Dar, 0, none⟩ (.int .i64 rL.w)).setCell ⟨Dar, 1, none⟩ (.int .i64 rH.w) = wr187 at KT ⊢
                      try simp only [Act.put, List.setIfInBounds_toArray, List.set_cons_zero, List.set_cons_succ]
                      refine wpLate_one (i := 14) (o := ?orf188_14) (by decide +kernel) ?horf188_14 ?hkrf188_14
                      case horf188_14 => (simp only [List.getElem?_toArray, List.getElem?_cons_zero, List.getElem?_cons_succ]; rfl)
                      intro K hK
                      refine (if_pos (show Region.wanted _ _ = true from rfl)).mpr ?_
                      refine KT.out.store2 (c' := rL) (d' := rH) rfl rfl rfl ?_
                      replace KT := Lib.hid (KT.out.put2 (c' := rL) (d' := rH))
                      refine hK.out _ _ (fun h => KS.out _ KT.out.b) ?_
                      clear hK K
                      generalize set8 wr187 Dbr rL rH = wr189 at KT ⊢
                      try simp only [Act.put, List.setIfInBounds_toArray, List.set_cons_zero, List.set_cons_succ]
                      refine wpLate_one (i := 15) (o := ?org190_15) (by decide +kernel) ?horg190_15 ?hkrg190_15
                      case horg190_15 => (simp only [List.getElem?_toArray, List.getElem?_cons_zero, List.getElem?_cons_succ]; rfl)
                      intro K hK
                      go_simp
                      refine hK.out _ _ (fun h => KS.out _ KT.out.b) ?_
                      clear hK K
                      try simp only [Act.put, List.setIfInBounds_toArray, List.set_cons_zero, List.set_cons_succ]
                      refine wpLate_done (by decide +kernel) ?_ _
                      try simp only [Act.put, List.setIfInBounds_toArray, List.set_cons_zero, List.set_cons_succ]
                      try go_wp2_with fail
                      go_meet
                      exact ⟨_, _, rfl, rfl, rfl, KT⟩
                  case hkrn168_11 =>
                    intro K hK
                    go_simp
                    replace KT := Lib.hid (KT.out.al1)
                    refine hK.out _ _ (fun _ => KS.out _ KT.out.b) ?_
                    clear hK K
                    obtain ⟨Dar, hDn⟩ : ∃ D, D = (World.heap wr167).size := ⟨_, rfl⟩
                    rw [← hDn] at KT ⊢
                    clear hDn
                    generalize World.alloc wr167 (.cells #[.int .i64 0, .int .i64 0] 24) = wr191 at KT ⊢
                    try simp only [Act.put, List.setIfInBounds_toArray, List.set_cons_zero, List.set_cons_succ]
                    refine wpLate_two (i := 6) (j := 12) (o := ?orn192_6) (u := ?orn192_12) (by decide +kernel) ?horn192_6 ?horn192_12 ?hkrn192_6 ?hkrn192_12
                    case horn192_6 => (simp only [List.getElem?_toArray, List.getElem?_cons_zero, List.getElem?_cons_succ]; rfl)
                    case horn192_12 => (simp only [List.getElem?_toArray, List.getElem?_cons_zero, List.getElem?_cons_succ]; rfl)
                    case hkrn192_6 =>
                      intro K hK
                      go_simp
                      refine (HC6.out _ KT.out.b).mono ?_
                      rintro r wr193 ⟨rfl, hbs⟩
                      replace KT := Lib.hid (KT.out.call hbs)
                      clear hbs
                      go_simp
                      refine hK.out _ _ (fun _ => KS.out _ KT.out.b) ?_
                      clear hK K
                      try simp only [Act.put, List.setIfInBounds_toArray, List.set_cons_zero, List.set_cons_succ]
                      refine wpLate_take (i := 7) (oi := ?oirt194_) (v := ?vrt194_) [8, 9, 10, 13, 14, 15] ?hirt194_ (by decide +kernel) (by decide +kernel) (by decide +kernel) (by decide +kernel) (by decide +kernel) ?hQrt194_ (Or.inl ⟨?hwrt194_, ?hyrt194_⟩) (KS.out _ KT.out.b) ?restrt194_
                      case hirt194_ => (simp only [List.getElem?_toArray, List.getElem?_cons_zero, List.getElem?_cons_succ]; rfl)
                      case hQrt194_ => exact fun _ _ _ h => h
                      case hwrt194_ => rfl
                      case hyrt194_ =>
                        intro w' hSw
                        obtain ⟨r0, r1, r2, r3, r4, r5, r6⟩ := hSw
                        go_simp
                        try exact rfl
                      try simp only [Act.put, List.setIfInBounds_toArray, List.set_cons_zero, List.set_cons_succ]
                      refine wpLate_take (i := 8) (oi := ?oirt195_) (v := ?vrt195_) [13, 14, 15] ?hirt195_ (by decide +kernel) (by decide +kernel) (by decide +kernel) (by decide +kernel) (by decide +kernel) ?hQrt195_ (Or.inl ⟨?hwrt195_, ?hyrt195_⟩) (KS.out _ KT.out.b) ?restrt195_
                      case hirt195_ => (simp only [List.getElem?_toArray, List.getElem?_cons_zero, List.getElem?_cons_succ]; rfl)
                      case hQrt195_ => exact fun _ _ _ h => h
                      case hwrt195_ => rfl
                      case hyrt195_ =>
                        intro w' hSw
                        obtain ⟨r0, r1, r2, r3, r4, r5, r6⟩ := hSw
                        go_simp
                        try exact rfl
                      try simp only [Act.put, List.setIfInBounds_toArray, List.set_cons_zero, List.set_cons_succ]
                      refine wpLate_take (i := 9) (oi := ?oirt196_) (v := ?vrt196_) [14, 15] ?hirt196_ (by decide +kernel) (by decide +kernel) (by decide +kernel) (by decide +kernel) (by decide +kernel) ?hQrt196_ (Or.inl ⟨?hwrt196_, ?hyrt196_⟩) (KS.out _ KT.out.b) ?restrt196_
                      case hirt196_ => (simp only [List.getElem?_toArray, List.getElem?_cons_zero, List.getElem?_cons_succ]; rfl)
                      case hQrt196_ => exact fun _ _ _ h => h
                      case hwrt196_ => rfl
                      case hyrt196_ =>
                        intro w' hSw
                        obtain ⟨r0, r1, r2, r3, r4, r5, r6⟩ := hSw
                        go_simp
                        try exact rfl
                      try simp only [Act.put, List.setIfInBounds_toArray, List.set_cons_zero, List.set_cons_succ]
                      refine wpLate_take (i := 10) (oi := ?oirt197_) (v := ?vrt197_) [15] ?hirt197_ (by decide +kernel) (by decide +kernel) (by decide +kernel) (by decide +kernel) (by decide +kernel) ?hQrt197_ (Or.inl ⟨?hwrt197_, ?hyrt197_⟩) (KS.out _ KT.out.b) ?restrt197_
                      case hirt197_ => (simp only [List.getElem?_toArray, List.getElem?_cons_zero, List.getElem?_cons_succ]; rfl)
                      case hQrt197_ => exact fun _ _ _ h => h
                      case hwrt197_ => rfl
                      case hyrt197_ =>
                        intro w' hSw
                        obtain ⟨r0, r1, r2, r3, r4, r5, r6⟩ := hSw
                        go_simp
                        try exact rfl
                      try simp only [Act.put, List.setIfInBounds_toArray, List.set_cons_zero, List.set_cons_succ]
                      refine wpLate_one (i := 12) (o := ?orn198_12) (by decide +kernel) ?horn198_12 ?hkrn198_12
                      case horn198_12 => (simp only [List.getElem?_toArray, List.getElem?_cons_zero, List.getElem?_cons_succ]; rfl)
                      intro K hK
                      go_simp
                      replace KT := Lib.hid (KT.out.al2)
                      refine hK.out _ _ (fun _ => KS.out _ KT.out.b) ?_
                      clear hK K
                      obtain ⟨Dbr, hDn⟩ : ∃ D, D = (World.heap wr193).size := ⟨_, rfl⟩
                      rw [← hDn] at KT ⊢
                      clear hDn
                      generalize World.alloc wr193 (.cells (moi ⟨0, 0, 0, 0, 0⟩ ⟨0, 0, 0, 0, 0⟩) 34) = wr199 at KT ⊢
                      try simp only [Act.put, List.setIfInBounds_toArray, List.set_cons_zero, List.set_cons_succ]
                      replace KT := Lib.hid KT.out.fin
                      refine wpLate_one (i := 13) (o := ?orf200_13) (by decide +kernel) ?horf200_13 ?hkrf200_13
                      case horf200_13 => (simp only [List.getElem?_toArray, List.getElem?_cons_zero, List.getElem?_cons_succ]; rfl)
                      intro K hK
                      refine (if_pos (show Region.wanted _ _ = true from rfl)).mpr ?_
                      refine KT.out.store1 (m := rL.w) (n := rH.w) rfl rfl rfl ?_
                      replace KT := Lib.hid (KT.out.put1 (x' := .int .i64 rL.w) (y' := .int .i64 rH.w))
                      refine hK.out _ _ (fun h => KS.out _ KT.out.b) ?_
                      clear hK K
                      generalize (World.setCell wr199 ⟨Dar, 0, none⟩ (.int .i64 rL.w)).setCell ⟨Dar, 1, none⟩ (.int .i64 rH.w) = wr201 at KT ⊢
                      try simp only [Act.put, List.setIfInBounds_toArray, List.set_cons_zero, List.set_cons_succ]
                      refine wpLate_one (i := 14) (o := ?orf202_14) (by decide +kernel) ?horf202_14 ?hkrf202_14
                      case horf202_14 => (simp only [List.getElem?_toArray, List.getElem?_cons_zero, List.getElem?_cons_succ]; rfl)
                      intro K hK
                      refine (if_pos (show Region.wanted _ _ = true from rfl)).mpr ?_
                      refine KT.out.store2 (c' := rL) (d' := rH) rfl rfl rfl ?_
                      replace KT := Lib.hid (KT.out.put2 (c' := rL) (d' := rH))
                      refine hK.out _ _ (fun h => KS.out _ KT.out.b) ?_
                      clear hK K
                      generalize set8 wr201 Dbr rL rH = wr203 at KT ⊢
                      try simp only [Act.put, List.setIfInBounds_toArray, List.set_cons_zero, List.set_cons_succ]
                      refine wpLate_one (i := 15) (o := ?org204_15) (by decide +kernel) ?horg204_15 ?hkrg204_15
                      case horg204_15 => (simp only [List.getElem?_toArray, List.getElem?_cons_zero, List.getElem?_cons_succ]; rfl)
                      intro K hK
                      go_simp
                      refine hK.out _ _ (fun h => KS.out _ KT.out.b) ?_
                      clear hK K
                      try simp only [Act.put, List.setIfInBounds_toArray, List.set_cons_zero, List.set_cons_succ]
                      refine wpLate_done (by decide +kernel) ?_ _
                      try simp only [Act.put, List.setIfInBounds_toArray, List.set_cons_zero, List.set_cons_succ]
                      try go_wp2_with fail
                      go_meet
                      exact ⟨_, _, rfl, rfl, rfl, KT⟩
                    case hkrn192_12 =>
                      intro K hK
                      go_simp
                      replace KT := Lib.hid (KT.out.al2)
                      refine hK.out _ _ (fun _ => KS.out _ KT.out.b) ?_
                      clear hK K
                      obtain ⟨Dbr, hDn⟩ : ∃ D, D = (World.heap wr191).size := ⟨_, rfl⟩
                      rw [← hDn] at KT ⊢
                      clear hDn
                      generalize World.alloc wr191 (.cells (moi ⟨0, 0, 0, 0, 0⟩ ⟨0, 0, 0, 0, 0⟩) 34) = wr205 at KT ⊢
                      try simp only [Act.put, List.setIfInBounds_toArray, List.set_cons_zero, List.set_cons_succ]
                      refine wpLate_one (i := 6) (o := ?orn206_6) (by decide +kernel) ?horn206_6 ?hkrn206_6
                      case horn206_6 => (simp only [List.getElem?_toArray, List.getElem?_cons_zero, List.getElem?_cons_succ]; rfl)
                      intro K hK
                      go_simp
                      refine (HC6.out _ KT.out.b).mono ?_
                      rintro r wr207 ⟨rfl, hbs⟩
                      replace KT := Lib.hid (KT.out.call hbs)
                      clear hbs
                      go_simp
                      refine hK.out _ _ (fun _ => KS.out _ KT.out.b) ?_
                      clear hK K
                      try simp only [Act.put, List.setIfInBounds_toArray, List.set_cons_zero, List.set_cons_succ]
                      refine wpLate_take (i := 7) (oi := ?oirt208_) (v := ?vrt208_) [8, 9, 10, 13, 14, 15] ?hirt208_ (by decide +kernel) (by decide +kernel) (by decide +kernel) (by decide +kernel) (by decide +kernel) ?hQrt208_ (Or.inl ⟨?hwrt208_, ?hyrt208_⟩) (KS.out _ KT.out.b) ?restrt208_
                      case hirt208_ => (simp only [List.getElem?_toArray, List.getElem?_cons_zero, List.getElem?_cons_succ]; rfl)
                      case hQrt208_ => exact fun _ _ _ h => h
                      case hwrt208_ => rfl
                      case hyrt208_ =>
                        intro w' hSw
                        obtain ⟨r0, r1, r2, r3, r4, r5, r6⟩ := hSw
                        go_simp
                        try exact rfl
                      try simp only [Act.put, List.setIfInBounds_toArray, List.set_cons_zero, List.set_cons_succ]
                      refine wpLate_take (i := 8) (oi := ?oirt209_) (v := ?vrt209_) [13, 14, 15] ?hirt209_ (by decide +kernel) (by decide +kernel) (by decide +kernel) (by decide +kernel) (by decide +kernel) ?hQrt209_ (Or.inl ⟨?hwrt209_, ?hyrt209_⟩) (KS.out _ KT.out.b) ?restrt209_
                      case hirt209_ => (simp only [List.getElem?_toArray, List.getElem?_cons_zero, List.getElem?_cons_succ]; rfl)
                      case hQrt209_ => exact fun _ _ _ h => h
                      case hwrt209_ => rfl
                      case hyrt209_ =>
                        intro w' hSw
                        obtain ⟨r0, r1, r2, r3, r4, r5, r6⟩ := hSw
                        go_simp
                        try exact rfl
                      try simp only [Act.put, List.setIfInBounds_toArray, List.set_cons_zero, List.set_cons_succ]
                      refine wpLate_take (i := 9) (oi := ?oirt210_) (v := ?vrt210_) [14, 15] ?hirt210_ (by decide +kernel) (by decide +kernel) (by decide +kernel) (by decide +kernel) (by decide +kernel) ?hQrt210_ (Or.inl ⟨?hwrt210_, ?hyrt210_⟩) (KS.out _ KT.out.b) ?restrt210_
                      case hirt210_ => (simp only [List.getElem?_toArray, List.getElem?_cons_zero, List.getElem?_cons_succ]; rfl)
                      case hQrt210_ => exact fun _ _ _ h => h
                      case hwrt210_ => rfl
                      case hyrt210_ =>
                        intro w' hSw
                        obtain ⟨r0, r1, r2, r3, r4, r5, r6⟩ := hSw
                        go_simp
                        try exact rfl
                      try simp only [Act.put, List.setIfInBounds_toArray, List.set_cons_zero, List.set_cons_succ]
                      refine wpLate_take (i := 10) (oi := ?oirt211_) (v := ?vrt211_) [15] ?hirt211_ (by decide +kernel) (by decide +kernel) (by decide +kernel) (by decide +kernel) (by decide +kernel) ?hQrt211_ (Or.inl ⟨?hwrt211_, ?hyrt211_⟩) (KS.out _ KT.out.b) ?restrt211_
                      case hirt211_ => (simp only [List.getElem?_toArray, List.getElem?_cons_zero, List.getElem?_cons_succ]; rfl)
                      case hQrt211_ => exact fun _ _ _ h => h
                      case hwrt211_ => rfl
                      case hyrt211_ =>
                        intro w' hSw
                        obtain ⟨r0, r1, r2, r3, r4, r5, r6⟩ := hSw
                        go_simp
                        try exact rfl
                      try simp only [Act.put, List.setIfInBounds_toArray, List.set_cons_zero, List.set_cons_succ]
                      replace KT := Lib.hid KT.out.fin
                      refine wpLate_one (i := 13) (o := ?orf212_13) (by decide +kernel) ?horf212_13 ?hkrf212_13
                      case horf212_13 => (simp only [List.getElem?_toArray, List.getElem?_cons_zero, List.getElem?_cons_succ]; rfl)
                      intro K hK
                      refine (if_pos (show Region.wanted _ _ = true from rfl)).mpr ?_
                      refine KT.out.store1 (m := rL.w) (n := rH.w) rfl rfl rfl ?_
                      replace KT := Lib.hid (KT.out.put1 (x' := .int .i64 rL.w) (y' := .int .i64 rH.w))
                      refine hK.out _ _ (fun h => KS.out _ KT.out.b) ?_
                      clear hK K
                      generalize (World.setCell wr207 ⟨Dar, 0, none⟩ (.int .i64 rL.w)).setCell ⟨Dar, 1, none⟩ (.int .i64 rH.w) = wr213 at KT ⊢
                      try simp only [Act.put, List.setIfInBounds_toArray, List.set_cons_zero, List.set_cons_succ]
                      refine wpLate_one (i := 14) (o := ?orf214_14) (by decide +kernel) ?horf214_14 ?hkrf214_14
                      case horf214_14 => (simp only [List.getElem?_toArray, List.getElem?_cons_zero, List.getElem?_cons_succ]; rfl)
                      intro K hK
                      refine (if_pos (show Region.wanted _ _ = true from rfl)).mpr ?_
                      refine KT.out.store2 (c' := rL) (d' := rH) rfl rfl rfl ?_
                      replace KT := Lib.hid (KT.out.put2 (c' := rL) (d' := rH))
                      refine hK.out _ _ (fun h => KS.out _ KT.out.b) ?_
                      clear hK K
                      generalize set8 wr213 Dbr rL rH = wr215 at KT ⊢
                      try simp only [Act.put, List.setIfInBounds_toArray, List.set_cons_zero, List.set_cons_succ]
                      refine wpLate_one (i := 15) (o := ?org216_15) (by decide +kernel) ?horg216_15 ?hkrg216_15
                      case horg216_15 => (simp only [List.getElem?_toArray, List.getElem?_cons_zero, List.getElem?_cons_succ]; rfl)
                      intro K hK
                      go_simp
                      refine hK.out _ _ (fun h => KS.out _ KT.out.b) ?_
                      clear hK K
                      try simp only [Act.put, List.setIfInBounds_toArray, List.set_cons_zero, List.set_cons_succ]
                      refine wpLate_done (by decide +kernel) ?_ _
                      try simp only [Act.put, List.setIfInBounds_toArray, List.set_cons_zero, List.set_cons_succ]
                      try go_wp2_with fail
                      go_meet
                      exact ⟨_, _, rfl, rfl, rfl, KT⟩
                  case hkrn168_12 =>
                    intro K hK
                    go_simp
                    replace KT := Lib.hid (KT.out.al2)
                    refine hK.out _ _ (fun _ => KS.out _ KT.out.b) ?_
                    clear hK K
                    obtain ⟨Dbr, hDn⟩ : ∃ D, D = (World.heap wr167).size := ⟨_, rfl⟩
                    rw [← hDn] at KT ⊢
                    clear hDn
                    generalize World.alloc wr167 (.cells (moi ⟨0, 0, 0, 0, 0⟩ ⟨0, 0, 0, 0, 0⟩) 34) = wr217 at KT ⊢
                    try simp only [Act.put, List.setIfInBounds_toArray, List.set_cons_zero, List.set_cons_succ]
                    refine wpLate_two (i := 6) (j := 11) (o := ?orn218_6) (u := ?orn218_11) (by decide +kernel) ?horn218_6 ?horn218_11 ?hkrn218_6 ?hkrn218_11
                    case horn218_6 => (simp only [List.getElem?_toArray, List.getElem?_cons_zero, List.getElem?_cons_succ]; rfl)
                    case horn218_11 => (simp only [List.getElem?_toArray, List.getElem?_cons_zero, List.getElem?_cons_succ]; rfl)
                    case hkrn218_6 =>
                      intro K hK
                      go_simp
                      refine (HC6.out _ KT.out.b).mono ?_
                      rintro r wr219 ⟨rfl, hbs⟩
                      replace KT := Lib.hid (KT.out.call hbs)
                      clear hbs
                      go_simp
                      refine hK.out _ _ (fun _ => KS.out _ KT.out.b) ?_
                      clear hK K
                      try simp only [Act.put, List.setIfInBounds_toArray, List.set_cons_zero, List.set_cons_succ]
                      refine wpLate_take (i := 7) (oi := ?oirt220_) (v := ?vrt220_) [8, 9, 10, 13, 14, 15] ?hirt220_ (by decide +kernel) (by decide +kernel) (by decide +kernel) (by decide +kernel) (by decide +kernel) ?hQrt220_ (Or.inl ⟨?hwrt220_, ?hyrt220_⟩) (KS.out _ KT.out.b) ?restrt220_
                      case hirt220_ => (simp only [List.getElem?_toArray, List.getElem?_cons_zero, List.getElem?_cons_succ]; rfl)
                      case hQrt220_ => exact fun _ _ _ h => h
                      case hwrt220_ => rfl
                      case hyrt220_ =>
                        intro w' hSw
                        obtain ⟨r0, r1, r2, r3, r4, r5, r6⟩ := hSw
                        go_simp
                        try exact rfl
                      try simp only [Act.put, List.setIfInBounds_toArray, List.set_cons_zero, List.set_cons_succ]
                      refine wpLate_take (i := 8) (oi := ?oirt221_) (v := ?vrt221_) [13, 14, 15] ?hirt221_ (by decide +kernel) (by decide +kernel) (by decide +kernel) (by decide +kernel) (by decide +kernel) ?hQrt221_ (Or.inl ⟨?hwrt221_, ?hyrt221_⟩) (KS.out _ KT.out.b) ?restrt221_
                      case hirt221_ => (simp only [List.getElem?_toArray, List.getElem?_cons_zero, List.getElem?_cons_succ]; rfl)
                      case hQrt221_ => exact fun _ _ _ h => h
                      case hwrt221_ => rfl
                      case hyrt221_ =>
                        intro w' hSw
                        obtain ⟨r0, r1, r2, r3, r4, r5, r6⟩ := hSw
                        go_simp
                        try exact rfl
                      try simp only [Act.put, List.setIfInBounds_toArray, List.set_cons_zero, List.set_cons_succ]
                      refine wpLate_take (i := 9) (oi := ?oirt222_) (v := ?vrt222_) [14, 15] ?hirt222_ (by decide +kernel) (by decide +kernel) (by decide +kernel) (by decide +kernel) (by decide +kernel) ?hQrt222_ (Or.inl ⟨?hwrt222_, ?hyrt222_⟩) (KS.out _ KT.out.b) ?restrt222_
                      case hirt222_ => (simp only [List.getElem?_toArray, List.getElem?_cons_zero, List.getElem?_cons_succ]; rfl)
                      case hQrt222_ => exact fun _ _ _ h => h
                      case hwrt222_ => rfl
                      case hyrt222_ =>
                        intro w' hSw
                        obtain ⟨r0, r1, r2, r3, r4, r5, r6⟩ := hSw
                        go_simp
                        try exact rfl
                      try simp only [Act.put, List.setIfInBounds_toArray, List.set_cons_zero, List.set_cons_succ]
                      refine wpLate_take (i := 10) (oi := ?oirt223_) (v := ?vrt223_) [15] ?hirt223_ (by decide +kernel) (by decide +kernel) (by decide +kernel) (by decide +kernel) (by decide +kernel) ?hQrt223_ (Or.inl ⟨?hwrt223_, ?hyrt223_⟩) (KS.out _ KT.out.b) ?restrt223_
                      case hirt223_ => (simp only [List.getElem?_toArray, List.getElem?_cons_zero, List.getElem?_cons_succ]; rfl)
                      case hQrt223_ => exact fun _ _ _ h => h
                      case hwrt223_ => rfl
                      case hyrt223_ =>
                        intro w' hSw
                        obtain ⟨r0, r1, r2, r3, r4, r5, r6⟩ := hSw
                        go_simp
                        try exact rfl
                      try simp only [Act.put, List.setIfInBounds_toArray, List.set_cons_zero, List.set_cons_succ]
                      refine wpLate_one (i := 11) (o := ?orn224_11) (by decide +kernel) ?horn224_11 ?hkrn224_11
                      case horn224_11 => (simp only [List.getElem?_toArray, List.getElem?_cons_zero, List.getElem?_cons_succ]; rfl)
                      intro K hK
                      go_simp
                      replace KT := Lib.hid (KT.out.al1)
                      refine hK.out _ _ (fun _ => KS.out _ KT.out.b) ?_
                      clear hK K
                      obtain ⟨Dar, hDn⟩ : ∃ D, D = (World.heap wr219).size := ⟨_, rfl⟩
                      rw [← hDn] at KT ⊢
                      clear hDn
                      generalize World.alloc wr219 (.cells #[.int .i64 0, .int .i64 0] 24) = wr225 at KT ⊢
                      try simp only [Act.put, List.setIfInBounds_toArray, List.set_cons_zero, List.set_cons_succ]
                      replace KT := Lib.hid KT.out.fin
                      refine wpLate_one (i := 13) (o := ?orf226_13) (by decide +kernel) ?horf226_13 ?hkrf226_13
                      case horf226_13 => (simp only [List.getElem?_toArray, List.getElem?_cons_zero, List.getElem?_cons_succ]; rfl)
                      intro K hK
                      refine (if_pos (show Region.wanted _ _ = true from rfl)).mpr ?_
                      refine KT.out.store1 (m := rL.w) (n := rH.w) rfl rfl rfl ?_
                      replace KT := Lib.hid (KT.out.put1 (x' := .int .i64 rL.w) (y' := .int .i64 rH.w))
                      refine hK.out _ _ (fun h => KS.out _ KT.out.b) ?_
                      clear hK K
                      generalize (World.setCell wr225 ⟨Dar, 0, none⟩ (.int .i64 rL.w)).setCell ⟨Dar, 1, none⟩ (.int .i64 rH.w) = wr227 at KT ⊢
                      try simp only [Act.put, List.setIfInBounds_toArray, List.set_cons_zero, List.set_cons_succ]
                      refine wpLate_one (i := 14) (o := ?orf228_14) (by decide +kernel) ?horf228_14 ?hkrf228_14
                      case horf228_14 => (simp only [List.getElem?_toArray, List.getElem?_cons_zero, List.getElem?_cons_succ]; rfl)
                      intro K hK
                      refine (if_pos (show Region.wanted _ _ = true from rfl)).mpr ?_
                      refine KT.out.store2 (c' := rL) (d' := rH) rfl rfl rfl ?_
                      replace KT := Lib.hid (KT.out.put2 (c' := rL) (d' := rH))
                      refine hK.out _ _ (fun h => KS.out _ KT.out.b) ?_
                      clear hK K
                      generalize set8 wr227 Dbr rL rH = wr229 at KT ⊢
                      try simp only [Act.put, List.setIfInBounds_toArray, List.set_cons_zero, List.set_cons_succ]
                      refine wpLate_one (i := 15) (o := ?org230_15) (by decide +kernel) ?horg230_15 ?hkrg230_15
                      case horg230_15 => (simp only [List.getElem?_toArray, List.getElem?_cons_zero, List.getElem?_cons_succ]; rfl)
                      intro K hK
                      go_simp
                      refine hK.out _ _ (fun h => KS.out _ KT.out.b) ?_
                      clear hK K
                      try simp only [Act.put, List.setIfInBounds_toArray, List.set_cons_zero, List.set_cons_succ]
                      refine wpLate_done (by decide +kernel) ?_ _
                      try simp only [Act.put, List.setIfInBounds_toArray, List.set_cons_zero, List.set_cons_succ]
                      try go_wp2_with fail
                      go_meet
                      exact ⟨_, _, rfl, rfl, rfl, KT⟩
                    case hkrn218_11 =>
                      intro K hK
                      go_simp
                      replace KT := Lib.hid (KT.out.al1)
                      refine hK.out _ _ (fun _ => KS.out _ KT.out.b) ?_
                      clear hK K
                      obtain ⟨Dar, hDn⟩ : ∃ D, D = (World.heap wr217).size := ⟨_, rfl⟩
                      rw [← hDn] at KT ⊢
                      clear hDn
                      generalize World.alloc wr217 (.cells #[.int .i64 0, .int .i64 0] 24) = wr231 at KT ⊢
                      try simp only [Act.put, List.setIfInBounds_toArray, List.set_cons_zero, List.set_cons_succ]
                      refine wpLate_one (i := 6) (o := ?orn232_6) (by decide +kernel) ?horn232_6 ?hkrn232_6
                      case horn232_6 => (simp only [List.getElem?_toArray, List.getElem?_cons_zero, List.getElem?_cons_succ]; rfl)
                      intro K hK
                      go_simp
                      refine (HC6.out _ KT.out.b).mono ?_
                      rintro r wr233 ⟨rfl, hbs⟩
                      replace KT := Lib.hid (KT.out.call hbs)
                      clear hbs
                      go_simp
                      refine hK.out _ _ (fun _ => KS.out _ KT.out.b) ?_
                      clear hK K
                      try simp only [Act.put, List.setIfInBounds_toArray, List.set_cons_zero, List.set_cons_succ]
                      refine wpLate_take (i := 7) (oi := ?oirt234_) (v := ?vrt234_) [8, 9, 10, 13, 14, 15] ?hirt234_ (by decide +kernel) (by decide +kernel) (by decide +kernel) (by decide +kernel) (by decide +kernel) ?hQrt234_ (Or.inl ⟨?hwrt234_, ?hyrt234_⟩) (KS.out _ KT.out.b) ?restrt234_
                      case hirt234_ => (simp only [List.getElem?_toArray, List.getElem?_cons_zero, List.getElem?_cons_succ]; rfl)
                      case hQrt234_ => exact fun _ _ _ h => h
                      case hwrt234_ => rfl
                      case hyrt234_ =>
                        intro w' hSw
                        obtain ⟨r0, r1, r2, r3, r4, r5, r6⟩ := hSw
                        go_simp
                        try exact rfl
                      try simp only [Act.put, List.setIfInBounds_toArray, List.set_cons_zero, List.set_cons_succ]
                      refine wpLate_take (i := 8) (oi := ?oirt235_) (v := ?vrt235_) [13, 14, 15] ?hirt235_ (by decide +kernel) (by decide +kernel) (by decide +kernel) (by decide +kernel) (by decide +kernel) ?hQrt235_ (Or.inl ⟨?hwrt235_, ?hyrt235_⟩) (KS.out _ KT.out.b) ?restrt235_
                      case hirt235_ => (simp only [List.getElem?_toArray, List.getElem?_cons_zero, List.getElem?_cons_succ]; rfl)
                      case hQrt235_ => exact fun _ _ _ h => h
                      case hwrt235_ => rfl
                      case hyrt235_ =>
                        intro w' hSw
                        obtain ⟨r0, r1, r2, r3, r4, r5, r6⟩ := hSw
                        go_simp
                        try exact rfl
                      try simp only [Act.put, List.setIfInBounds_toArray, List.set_cons_zero, List.set_cons_succ]
                      refine wpLate_take (i := 9) (oi := ?oirt236_) (v := ?vrt236_) [14, 15] ?hirt236_ (by decide +kernel) (by decide +kernel) (by decide +kernel) (by decide +kernel) (by decide +kernel) ?hQrt236_ (Or.inl ⟨?hwrt236_, ?hyrt236_⟩) (KS.out _ KT.out.b) ?restrt236_
                      case hirt236_ => (simp only [List.getElem?_toArray, List.getElem?_cons_zero, List.getElem?_cons_succ]; rfl)
                      case hQrt236_ => exact fun _ _ _ h => h
                      case hwrt236_ => rfl
                      case hyrt236_ =>
                        intro w' hSw
                        obtain ⟨r0, r1, r2, r3, r4, r5, r6⟩ := hSw
                        go_simp
                        try exact rfl
                      try simp only [Act.put, List.setIfInBounds_toArray, List.set_cons_zero, List.set_cons_succ]
                      refine wpLate_take (i := 10) (oi := ?oirt237_) (v := ?vrt237_) [15] ?hirt237_ (by decide +kernel) (by decide +kernel) (by decide +kernel) (by decide +kernel) (by decide +kernel) ?hQrt237_ (Or.inl ⟨?hwrt237_, ?hyrt237_⟩) (KS.out _ KT.out.b) ?restrt237_
                      case hirt237_ => (simp only [List.getElem?_toArray, List.getElem?_cons_zero, List.getElem?_cons_succ]; rfl)
                      case hQrt237_ => exact fun _ _ _ h => h
                      case hwrt237_ => rfl
                      case hyrt237_ =>
                        intro w' hSw
                        obtain ⟨r0, r1, r2, r3, r4, r5, r6⟩ := hSw
                        go_simp
                        try exact rfl
                      try simp only [Act.put, List.setIfInBounds_toArray, List.set_cons_zero, List.set_cons_succ]
                      replace KT := Lib.hid KT.out.fin
                      refine wpLate_one (i := 13) (o := ?orf238_13) (by decide +kernel) ?horf238_13 ?hkrf238_13
                      case horf238_13 => (simp only [List.getElem?_toArray, List.getElem?_cons_zero, List.getElem?_cons_succ]; rfl)
                      intro K hK
                      refine (if_pos (show Region.wanted _ _ = true from rfl)).mpr ?_
                      refine KT.out.store1 (m := rL.w) (n := rH.w) rfl rfl rfl ?_
                      replace KT := Lib.hid (KT.out.put1 (x' := .int .i64 rL.w) (y' := .int .i64 rH.w))
                      refine hK.out _ _ (fun h => KS.out _ KT.out.b) ?_
                      clear hK K
                      generalize (World.setCell wr233 ⟨Dar, 0, none⟩ (.int .i64 rL.w)).setCell ⟨Dar, 1, none⟩ (.int .i64 rH.w) = wr239 at KT ⊢
                      try simp only [Act.put, List.setIfInBounds_toArray, List.set_cons_zero, List.set_cons_succ]
                      refine wpLate_one (i := 14) (o := ?orf240_14) (by decide +kernel) ?horf240_14 ?hkrf240_14
                      case horf240_14 => (simp only [List.getElem?_toArray, List.getElem?_cons_zero, List.getElem?_cons_succ]; rfl)
                      intro K hK
                      refine (if_pos (show Region.wanted _ _ = true from rfl)).mpr ?_
                      refine KT.out.store2 (c' := rL) (d' := rH) rfl rfl rfl ?_
                      replace KT := Lib.hid (KT.out.put2 (c' := rL) (d' := rH))
                      refine hK.out _ _ (fun h => KS.out _ KT.out.b) ?_
                      clear hK K
                      generalize set8 wr239 Dbr rL rH = wr241 at KT ⊢
                      try simp only [Act.put, List.setIfInBounds_toArray, List.set_cons_zero, List.set_cons_succ]
                      refine wpLate_one (i := 15) (o := ?org242_15) (by decide +kernel) ?horg242_15 ?hkrg242_15
                      case horg242_15 => (simp only [List.getElem?_toArray, List.getElem?_cons_zero, List.getElem?_cons_succ]; rfl)
                      intro K hK
                      go_simp
                      refine hK.out _ _ (fun h => KS.out _ KT.out.b) ?_
                      clear hK K
                      try simp only [Act.put, List.setIfInBounds_toArray, List.set_cons_zero, List.set_cons_succ]
                      refine wpLate_done (by decide +kernel) ?_ _
                      try simp only [Act.put, List.setIfInBounds_toArray, List.set_cons_zero, List.set_cons_succ]
                      try go_wp2_with fail
                      go_meet
                      exact ⟨_, _, rfl, rfl, rfl, KT⟩
              case hkrn166_11 =>
                as_aux_lemma =>
                  intro K hK
                  go_simp
                  replace KT := Lib.hid (KT.out.al1)
                  refine hK.out _ _ (fun _ => KS.out _ KT.out.b) ?_
                  clear hK K
                  obtain ⟨Dar, hDn⟩ : ∃ D, D = (World.heap wdr).size := ⟨_, rfl⟩
                  rw [← hDn] at KT ⊢
                  clear hDn
                  generalize World.alloc wdr (.cells #[.int .i64 0, .int .i64 0] 24) = wr243 at KT ⊢
                  try simp only [Act.put, List.setIfInBounds_toArray, List.set_cons_zero, List.set_cons_succ]
                  refine wpLate_two (i := 4) (j := 12) (o := ?orn244_4) (u := ?orn244_12) (by decide +kernel) ?horn244_4 ?horn244_12 ?hkrn244_4 ?hkrn244_12
                  case horn244_4 => (simp only [List.getElem?_toArray, List.getElem?_cons_zero, List.getElem?_cons_succ]; rfl)
                  case horn244_12 => (simp only [List.getElem?_toArray, List.getElem?_cons_zero, List.getElem?_cons_succ]; rfl)
                  case hkrn244_4 =>
                    intro K hK
                    go_simp
                    refine (HC4.out _ KT.out.b).mono ?_
                    rintro r wr245 ⟨rfl, hbs⟩
                    replace KT := Lib.hid (KT.out.call hbs)
                    clear hbs
                    go_simp
                    refine hK.out _ _ (fun _ => KS.out _ KT.out.b) ?_
                    clear hK K
                    try simp only [Act.put, List.setIfInBounds_toArray, List.set_cons_zero, List.set_cons_succ]
                    refine wpLate_two (i := 6) (j := 12) (o := ?orn246_6) (u := ?orn246_12) (by decide +kernel) ?horn246_6 ?horn246_12 ?hkrn246_6 ?hkrn246_12
                    case horn246_6 => (simp only [List.getElem?_toArray, List.getElem?_cons_zero, List.getElem?_cons_succ]; rfl)
                    case horn246_12 => (simp only [List.getElem?_toArray, List.getElem?_cons_zero, List.getElem?_cons_succ]; rfl)
                    case hkrn246_6 =>
                      intro K hK
                      go_simp
                      refine (HC6.out _ KT.out.b).mono ?_
                      rintro r wr247 ⟨rfl, hbs⟩
                      replace KT := Lib.hid (KT.out.call hbs)
                      clear hbs
                      go_simp
                      refine hK.out _ _ (fun _ => KS.out _ KT.out.b) ?_
                      clear hK K
                      try simp only [Act.put, List.setIfInBounds_toArray, List.set_cons_zero, List.set_cons_succ]
                      refine wpLate_take (i := 7) (oi := ?oirt248_) (v := ?vrt248_) [8, 9, 10, 13, 14, 15] ?hirt248_ (by decide +kernel) (by decide +kernel) (by decide +kernel) (by decide +kernel) (by decide +kernel) ?hQrt248_ (Or.inl ⟨?hwrt248_, ?hyrt248_⟩) (KS.out _ KT.out.b) ?restrt248_
                      case hirt248_ => (simp only [List.getElem?_toArray, List.getElem?_cons_zero, List.getElem?_cons_succ]; rfl)
                      case hQrt248_ => exact fun _ _ _ h => h
                      case hwrt248_ => rfl
                      case hyrt248_ =>
                        intro w' hSw
                        obtain ⟨r0, r1, r2, r3, r4, r5, r6⟩ := hSw
                        go_simp
                        try exact rfl
                      try simp only [Act.put, List.setIfInBounds_toArray, List.set_cons_zero, List.set_cons_succ]
                      refine wpLate_take (i := 8) (oi := ?oirt249_) (v := ?vrt249_) [13, 14, 15] ?hirt249_ (by decide +kernel) (by decide +kernel) (by decide +kernel) (by decide +kernel) (by decide +kernel) ?hQrt249_ (Or.inl ⟨?hwrt249_, ?hyrt249_⟩) (KS.out _ KT.out.b) ?restrt249_
                      case hirt249_ => (simp only [List.getElem?_toArray, List.getElem?_cons_zero, List.getElem?_cons_succ]; rfl)
                      case hQrt249_ => exact fun _ _ _ h => h
                      case hwrt249_ => rfl
                      case hyrt249_ =>
                        intro w' hSw
                        obtain ⟨r0, r1, r2, r3, r4, r5, r6⟩ := hSw
                        go_simp
                        try exact rfl
                      try simp only [Act.put, List.setIfInBounds_toArray, List.set_cons_zero, List.set_cons_succ]
                      refine wpLate_take (i := 9) (oi := ?oirt250_) (v := ?vrt250_) [14, 15] ?hirt250_ (by decide +kernel) (by decide +kernel) (by decide +kernel) (by decide +kernel) (by decide +kernel) ?hQrt250_ (Or.inl ⟨?hwrt250_, ?hyrt250_⟩) (KS.out _ KT.out.b) ?restrt250_
                      case hirt250_ => (simp only [List.getElem?_toArray, List.getElem?_cons_zero, List.getElem?_cons_succ]; rfl)
                      case hQrt250_ => exact fun _ _ _ h => h
                      case hwrt250_ => rfl
                      case hyrt250_ =>
                        intro w' hSw
                        obtain ⟨r0, r1, r2, r3, r4, r5, r6⟩ := hSw
                        go_simp
                        try exact rfl
                      try simp only [Act.put, List.setIfInBounds_toArray, List.set_cons_zero, List.set_cons_succ]
                      refine wpLate_take (i := 10) (oi := ?oirt251_) (v := ?vrt251_) [15] ?hirt251_ (by decide +kernel) (by decide +kernel) (by decide +kernel) (by decide +kernel) (by decide +kernel) ?hQrt251_ (Or.inl ⟨?hwrt251_, ?hyrt251_⟩) (KS.out _ KT.out.b) ?restrt251_
                      case hirt251_ => (simp only [List.getElem?_toArray, List.getElem?_cons_zero, List.getElem?_cons_succ]; rfl)
                      case hQrt251_ => exact fun _ _ _ h => h
                      case hwrt251_ => rfl
                      case hyrt251_ =>
                        intro w' hSw
                        obtain ⟨r0, r1, r2, r3, r4, r5, r6⟩ := hSw
                        go_simp
                        try exact rfl
                      try simp only [Act.put, List.setIfInBounds_toArray, List.set_cons_zero, List.set_cons_succ]
                      refine wpLate_one (i := 12) (o := ?orn252_12) (by decide +kernel) ?horn252_12 ?hkrn252_12
                      case horn252_12 => (simp only [List.getElem?_toArray, List.getElem?_cons_zero, List.getElem?_cons_succ]; rfl)
                      intro K hK
                      go_simp
                      replace KT := Lib.hid (KT.out.al2)
                      refine hK.out _ _ (fun _ => KS.out _ KT.out.b) ?_
                      clear hK K
                      obtain ⟨Dbr, hDn⟩ : ∃ D, D = (World.heap wr247).size := ⟨_, rfl⟩
                      rw [← hDn] at KT ⊢
                      clear hDn
                      generalize World.alloc wr247 (.cells (moi ⟨0, 0, 0, 0, 0⟩ ⟨0, 0, 0, 0, 0⟩) 34) = wr253 at KT ⊢
                      try simp only [Act.put, List.setIfInBounds_toArray, List.set_cons_zero, List.set_cons_succ]
                      replace KT := Lib.hid KT.out.fin
                      refine wpLate_one (i := 13) (o := ?orf254_13) (by decide +kernel) ?horf254_13 ?hkrf254_13
                      case horf254_13 => (simp only [List.getElem?_toArray, List.getElem?_cons_zero, List.getElem?_cons_succ]; rfl)
                      intro K hK
                      refine (if_pos (show Region.wanted _ _ = true from rfl)).mpr ?_
                      refine KT.out.store1 (m := rL.w) (n := rH.w) rfl rfl rfl ?_
                      replace KT := Lib.hid (KT.out.put1 (x' := .int .i64 rL.w) (y' := .int .i64 rH.w))
                      refine hK.out _ _ (fun h => KS.out _ KT.out.b) ?_
                      clear hK K
                      generalize (World.setCell wr253 ⟨Dar, 0, none⟩ (.int .i64 rL.w)).setCell ⟨Dar, 1, none⟩ (.int .i64 rH.w) = wr255 at KT ⊢
                      try simp only [Act.put, List.setIfInBounds_toArray, List.set_cons_zero, List.set_cons_succ]
                      refine wpLate_one (i := 14) (o := ?orf256_14) (by decide +kernel) ?horf256_14 ?hkrf256_14
                      case horf256_14 => (simp only [List.getElem?_toArray, List.getElem?_cons_zero, List.getElem?_cons_succ]; rfl)
                      intro K hK
                      refine (if_pos (show Region.wanted _ _ = true from rfl)).mpr ?_
                      refine KT.out.store2 (c' := rL) (d' := rH) rfl rfl rfl ?_
                      replace KT := Lib.hid (KT.out.put2 (c' := rL) (d' := rH))
                      refine hK.out _ _ (fun h => KS.out _ KT.out.b) ?_
                      clear hK K
                      generalize set8 wr255 Dbr rL rH = wr257 at KT ⊢
                      try simp only [Act.put, List.setIfInBounds_toArray, List.set_cons_zero, List.set_cons_succ]
                      refine wpLate_one (i := 15) (o := ?org258_15) (by decide +kernel) ?horg258_15 ?hkrg258_15
                      case horg258_15 => (simp only [List.getElem?_toArray, List.getElem?_cons_zero, List.getElem?_cons_succ]; rfl)
                      intro K hK
                      go_simp
                      refine hK.out _ _ (fun h => KS.out _ KT.out.b) ?_
                      clear hK K
                      try simp only [Act.put, List.setIfInBounds_toArray, List.set_cons_zero, List.set_cons_succ]
                      refine wpLate_done (by decide +kernel) ?_ _
                      try simp only [Act.put, List.setIfInBounds_toArray, List.set_cons_zero, List.set_cons_succ]
                      try go_wp2_with fail
                      go_meet
                      exact ⟨_, _, rfl, rfl, rfl, KT⟩
                    case hkrn246_12 =>
                      intro K hK
                      go_simp
                      replace KT := Lib.hid (KT.out.al2)
                      refine hK.out _ _ (fun _ => KS.out _ KT.out.b) ?_
                      clear hK K
                      obtain ⟨Dbr, hDn⟩ : ∃ D, D = (World.heap wr245).size := ⟨_, rfl⟩
                      rw [← hDn] at KT ⊢
                      clear hDn
                      generalize World.alloc wr245 (.cells (moi ⟨0, 0, 0, 0, 0⟩ ⟨0, 0, 0, 0, 0⟩) 34) = wr259 at KT ⊢
                      try simp only [Act.put, List.setIfInBounds_toArray, List.set_cons_zero, List.set_cons_succ]
                      refine wpLate_one (i := 6) (o := ?orn260_6) (by decide +kernel) ?horn260_6 ?hkrn260_6
                      case horn260_6 => (simp only [List.getElem?_toArray, List.getElem?_cons_zero, List.getElem?_cons_succ]; rfl)
                      intro K hK
                      go_simp
                      refine (HC6.out _ KT.out.b).mono ?_
                      rintro r wr261 ⟨rfl, hbs⟩
                      replace KT := Lib.hid (KT.out.call hbs)
                      clear hbs
                      go_simp
                      refine hK.out _ _ (fun _ => KS.out _ KT.out.b) ?_
                      clear hK K
                      try simp only [Act.put, List.setIfInBounds_toArray, List.set_cons_zero, List.set_cons_succ]
                      refine wpLate_take (i := 7) (oi := ?oirt262_) (v := ?vrt262_) [8, 9, 10, 13, 14, 15] ?hirt262_ (by decide +kernel) (by decide +kernel) (by decide +kernel) (by decide +kernel) (by decide +kernel) ?hQrt262_ (Or.inl ⟨?hwrt262_, ?hyrt262_⟩) (KS.out _ KT.out.b) ?restrt262_
                      case hirt262_ => (simp only [List.getElem?_toArray, List.getElem?_cons_zero, List.getElem?_cons_succ]; rfl)
                      case hQrt262_ => exact fun _ _ _ h => h
                      case hwrt262_ => rfl
                      case hyrt262_ =>
                        intro w' hSw
                        obtain ⟨r0, r1, r2, r3, r4, r5, r6⟩ := hSw
                        go_simp
                        try exact rfl
                      try simp only [Act.put, List.setIfInBounds_toArray, List.set_cons_zero, List.set_cons_succ]
                      refine wpLate_take (i := 8) (oi := ?oirt263_) (v := ?vrt263_) [13, 14, 15] ?hirt263_ (by decide +kernel) (by decide +kernel) (by decide +kernel) (by decide +kernel) (by decide +kernel) ?hQrt263_ (Or.inl ⟨?hwrt263_, ?hyrt263_⟩) (KS.out _ KT.out.b) ?restrt263_
                      case hirt263_ => (simp only [List.getElem?_toArray, List.getElem?_cons_zero, List.getElem?_cons_succ]; rfl)
                      case hQrt263_ => exact fun _ _ _ h => h
                      case hwrt263_ => rfl
                      case hyrt263_ =>
                        intro w' hSw
                        obtain ⟨r0, r1, r2, r3, r4, r5, r6⟩ := hSw
                        go_simp
                        try exact rfl
                      try simp only [Act.put, List.setIfInBounds_toArray, List.set_cons_zero, List.set_cons_succ]
                      refine wpLate_take (i := 9) (oi := ?oirt264_) (v := ?vrt264_) [14, 15] ?hirt264_ (by decide +kernel) (by decide +kernel) (by decide +kernel) (by decide +kernel) (by decide +kernel) ?hQrt264_ (Or.inl ⟨?hwrt264_, ?hyrt264_⟩) (KS.out _ KT.out.b) ?restrt264_
                      case hirt264_ => (simp only [List.getElem?_toArray, List.getElem?_cons_zero, List.getElem?_cons_succ]; rfl)
                      case hQrt264_ => exact fun _ _ _ h => h
                      case hwrt264_ => rfl
                      case hyrt264_ =>
                        intro w' hSw
                        obtain ⟨r0, r1, r2, r3, r4, r5, r6⟩ := hSw
                        go_simp
                        try exact rfl
                      try simp only [Act.put, List.setIfInBounds_toArray, List.set_cons_zero, List.set_cons_succ]
                      refine wpLate_take (i := 10) (oi := ?oirt265_) (v := ?vrt265_) [15] ?hirt265_ (by decide +kernel) (by decide +kernel) (by decide +kernel) (by decide +kernel) (by decide +kernel) ?hQrt265_ (Or.inl ⟨?hwrt265_, ?hyrt265_⟩) (KS.out _ KT.out.b) ?restrt265_
                      case hirt265_ => (simp only [List.getElem?_toArray, List.getElem?_cons_zero, List.getElem?_cons_succ]; rfl)
                      case hQrt265_ => exact fun _ _ _ h => h
                      case hwrt265_ => rfl
                      case hyrt265_ =>
                        intro w' hSw
                        obtain ⟨r0, r1, r2, r3, r4, r5, r6⟩ := hSw
                        go_simp
                        try exact rfl
                      try simp only [Act.put, List.setIfInBounds_toArray, List.set_cons_zero, List.set_cons_succ]
                      replace KT := Lib.hid KT.out.fin
                      refine wpLate_one (i := 13) (o := ?orf266_13) (by decide +kernel) ?horf266_13 ?hkrf266_13
                      case horf266_13 => (simp only [List.getElem?_toArray, List.getElem?_cons_zero, List.getElem?_cons_succ]; rfl)
                      intro K hK
                      refine (if_pos (show Region.wanted _ _ = true from rfl)).mpr ?_
                      refine KT.out.store1 (m := rL.w) (n := rH.w) rfl rfl rfl ?_
                      replace KT := Lib.hid (KT.out.put1 (x' := .int .i64 rL.w) (y' := .int .i64 rH.w))
                      refine hK.out _ _ (fun h => KS.out _ KT.out.b) ?_
                      clear hK K
                      generalize (World.setCell wr261 ⟨Dar, 0, none⟩ (.int .i64 rL.w)).setCell ⟨Dar, 1, none⟩ (.int .i64 rH.w) = wr267 at KT ⊢
                      try simp only [Act.put, List.setIfInBounds_toArray, List.set_cons_zero, List.set_cons_succ]
                      refine wpLate_one (i := 14) (o := ?orf268_14) (by decide +kernel) ?horf268_14 ?hkrf268_14
                      case horf268_14 => (simp only [List.getElem?_toArray, List.getElem?_cons_zero, List.getElem?_cons_succ]; rfl)
                      intro K hK
                      refine (if_pos (show Region.wanted _ _ = true from rfl)).mpr ?_
                      refine KT.out.store2 (c' := rL) (d' := rH) rfl rfl rfl ?_
                      replace KT := Lib.hid (KT.out.put2 (c' := rL) (d' := rH))
                      refine hK.out _ _ (fun h => KS.out _ KT.out.b) ?_
                      clear hK K
                      generalize set8 wr267 Dbr rL rH = wr269 at KT ⊢
                      try simp only [Act.put, List.setIfInBounds_toArray, List.set_cons_zero, List.set_cons_succ]
                      refine wpLate_one (i := 15) (o := ?org270_15) (by decide +kernel) ?horg270_15 ?hkrg270_15
                      case horg270_15 => (simp only [List.getElem?_toArray, List.getElem?_cons_zero, List.getElem?_cons_succ]; rfl)
                      intro K hK
                      go_simp
                      refine hK.out _ _ (fun h => KS.out _ KT.out.b) ?_
                      clear hK K
                      try simp only [Act.put, List.setIfInBounds_toArray, List.set_cons_zero, List.set_cons_succ]
                      refine wpLate_done (by decide +kernel) ?_ _
                      try simp only [Act.put, List.setIfInBounds_toArray, List.set_cons_zero, List.set_cons_succ]
                      try go_wp2_with fail
                      go_meet
                      exact ⟨_, _, rfl, rfl, rfl, KT⟩
                  case hkrn244_12 =>
                    intro K hK
                    go_simp
                    replace KT := Lib.hid (KT.out.al2)
                    refine hK.out _ _ (fun _ => KS.out _ KT.out.b) ?_
                    clear hK K
                    obtain ⟨Dbr, hDn⟩ : ∃ D, D = (World.heap wr243).size := ⟨_, rfl⟩
                    rw [← hDn] at KT ⊢
                    clear hDn
                    generalize World.alloc wr243 (.cells (moi ⟨0, 0, 0, 0, 0⟩ ⟨0, 0, 0, 0, 0⟩) 34) = wr271 at KT ⊢
                    try simp only [Act.put, List.setIfInBounds_toArray, List.set_cons_zero, List.set_cons_succ]
                    refine wpLate_one (i := 4) (o := ?orn272_4) (by decide +kernel) ?horn272_4 ?hkrn272_4
                    case horn272_4 => (simp only [List.getElem?_toArray, List.getElem?_cons_zero, List.getElem?_cons_succ]; rfl)
                    intro K hK
                    go_simp
                    refine (HC4.out _ KT.out.b).mono ?_
                    rintro r wr273 ⟨rfl, hbs⟩
                    replace KT := Lib.hid (KT.out.call hbs)
                    clear hbs
                    go_simp
                    refine hK.out _ _ (fun _ => KS.out _ KT.out.b) ?_
                    clear hK K
                    try simp only [Act.put, List.setIfInBounds_toArray, List.set_cons_zero, List.set_cons_succ]
                    refine wpLate_one (i := 6) (o := ?orn274_6) (by decide +kernel) ?horn274_6 ?hkrn274_6
                    case horn274_6 => (simp only [List.getElem?_toArray, List.getElem?_cons_zero, List.getElem?_cons_succ]; rfl)
                    intro K hK
                    go_simp
                    refine (HC6.out _ KT.out.b).mono ?_
                    rintro r wr275 ⟨rfl, hbs⟩
                    replace KT := Lib.hid (KT.out.call hbs)
                    clear hbs
                    go_simp
                    refine hK.out _ _ (fun _ => KS.out _ KT.out.b) ?_
                    clear hK K
                    try simp only [Act.put, List.setIfInBounds_toArray, List.set_cons_zero, List.set_cons_succ]
                    refine wpLate_take (i := 7) (oi := ?oirt276_) (v := ?vrt276_) [8, 9, 10, 13, 14, 15] ?hirt276_ (by decide +kernel) (by decide +kernel) (by decide +kernel) (by decide +kernel) (by decide +kernel) ?hQrt276_ (Or.inl ⟨?hwrt276_, ?hyrt276_⟩) (KS.out _ KT.out.b) ?restrt276_
                    case hirt276_ => (simp only [List.getElem?_toArray, List.getElem?_cons_zero, List.getElem?_cons_succ]; rfl)
                    case hQrt276_ => exact fun _ _ _ h => h
                    case hwrt276_ => rfl
                    case hyrt276_ =>
                      intro w' hSw
                      obtain ⟨r0, r1, r2, r3, r4, r5, r6⟩ := hSw
                      go_simp
                      try exact rfl
                    try simp only [Act.put, List.setIfInBounds_toArray, List.set_cons_zero, List.set_cons_succ]
                    refine wpLate_take (i := 8) (oi := ?oirt277_) (v := ?vrt277_) [13, 14, 15] ?hirt277_ (by decide +kernel) (by decide +kernel) (by decide +kernel) (by decide +kernel) (by decide +kernel) ?hQrt277_ (Or.inl ⟨?hwrt277_, ?hyrt277_⟩) (KS.out _ KT.out.b) ?restrt277_
                    case hirt277_ => (simp only [List.getElem?_toArray, List.getElem?_cons_zero, List.getElem?_cons_succ]; rfl)
                    case hQrt277_ => exact fun _ _ _ h => h
                    case hwrt277_ => rfl
                    case hyrt277_ =>
                      intro w' hSw
                      obtain ⟨r0, r1, r2, r3, r4, r5, r6⟩ := hSw
                      go_simp
                      try exact rfl
                    try simp only [Act.put, List.setIfInBounds_toArray, List.set_cons_zero, List.set_cons_succ]
                    refine wpLate_take (i := 9) (oi := ?oirt278_) (v := ?vrt278_) [14, 15] ?hirt278_ (by decide +kernel) (by decide +kernel) (by decide +kernel) (by decide +kernel) (by decide +kernel) ?hQrt278_ (Or.inl ⟨?hwrt278_, ?hyrt278_⟩) (KS.out _ KT.out.b) ?restrt278_
                    case hirt278_ => (simp only [List.getElem?_toArray, List.getElem?_cons_zero, List.getElem?_cons_succ]; rfl)
                    case hQrt278_ => exact fun _ _ _ h => h
                    case hwrt278_ => rfl
                    case hyrt278_ =>
                      intro w' hSw
                      obtain ⟨r0, r1, r2, r3, r4, r5, r6⟩ := hSw
                      go_simp
                      try exact rfl
                    try simp only [Act.put, List.setIfInBounds_toArray, List.set_cons_zero, List.set_cons_succ]
                    refine wpLate_take (i := 10) (oi := ?oirt279_) (v := ?vrt279_) [15] ?hirt279_ (by decide +kernel) (by decide +kernel) (by decide +kernel) (by decide +kernel) (by decide +kernel) ?hQrt279_ (Or.inl ⟨?hwrt279_, ?hyrt279_⟩) (KS.out _ KT.out.b) ?restrt279_
                    case hirt279_ => (simp only [List.getElem?_toArray, List.getElem?_cons_zero, List.getElem?_cons_succ]; rfl)
                    case hQrt279_ => exact fun _ _ _ h => h
                    case hwrt279_ => rfl
                    case hyrt279_ =>
                      intro w' hSw
                      obtain ⟨r0, r1, r2, r3, r4, r5, r6⟩ := hSw
                      go_simp
                      try exact rfl
                    try simp only [Act.put, List.setIfInBounds_toArray, List.set_cons_zero, List.set_cons_succ]
                    replace KT := Lib.hid KT.out.fin
                    refine wpLate_one (i := 13) (o := ?orf280_13) (by decide +kernel) ?horf280_13 ?hkrf280_13
                    case horf280_13 => (simp only [List.getElem?_toArray, List.getElem?_cons_zero, List.getElem?_cons_succ]; rfl)
                    intro K hK
                    refine (if_pos (show Region.wanted _ _ = true from rfl)).mpr ?_
                    refine KT.out.store1 (m := rL.w) (n := rH.w) rfl rfl rfl ?_
                    replace KT := Lib.hid (KT.out.put1 (x' := .int .i64 rL.w) (y' := .int .i64 rH.w))
                    refine hK.out _ _ (fun h => KS.out _ KT.out.b) ?_
                    clear hK K
                    generalize (World.setCell wr275 ⟨Dar, 0, none⟩ (.int .i64 rL.w)).setCell ⟨Dar, 1, none⟩ (.int .i64 rH.w) = wr281 at KT ⊢
                    try simp only [Act.put, List.setIfInBounds_toArray, List.set_cons_zero, List.set_cons_succ]
                    refine wpLate_one (i := 14) (o := ?orf282_14) (by decide +kernel) ?horf282_14 ?hkrf282_14
                    case horf282_14 => (simp only [List.getElem?_toArray, List.getElem?_cons_zero, List.getElem?_cons_succ]; rfl)
                    intro K hK
                    refine (if_pos (show Region.wanted _ _ = true from rfl)).mpr ?_
                    refine KT.out.store2 (c' := rL) (d' := rH) rfl rfl rfl ?_
                    replace KT := Lib.hid (KT.out.put2 (c' := rL) (d' := rH))
                    refine hK.out _ _ (fun h => KS.out _ KT.out.b) ?_
                    clear hK K
                    generalize set8 wr281 Dbr rL rH = wr283 at KT ⊢
                    try simp only [Act.put, List.setIfInBounds_toArray, List.set_cons_zero, List.set_cons_succ]
                    refine wpLate_one (i := 15) (o := ?org284_15) (by decide +kernel) ?horg284_15 ?hkrg284_15
                    case horg284_15 => (simp only [List.getElem?_toArray, List.getElem?_cons_zero, List.getElem?_cons_succ]; rfl)
                    intro K hK
                    go_simp
                    refine hK.out _ _ (fun h => KS.out _ KT.out.b) ?_
                    clear hK K
                    try simp only [Act.put, List.setIfInBounds_toArray, List.set_cons_zero, List.set_cons_succ]
                    refine wpLate_done (by decide +kernel) ?_ _
                    try simp only [Act.put, List.setIfInBounds_toArray, List.set_cons_zero, List.set_cons_succ]
                    try go_wp2_with fail
                    go_meet
                    exact ⟨_, _, rfl, rfl, rfl, KT⟩
              case hkrn166_12 =>
                as_aux_lemma =>
                  intro K hK
                  go_simp
                  replace KT := Lib.hid (KT.out.al2)
                  refine hK.out _ _ (fun _ => KS.out _ KT.out.b) ?_
                  clear hK K
                  obtain ⟨Dbr, hDn⟩ : ∃ D, D = (World.heap wdr).size := ⟨_, rfl⟩
                  rw [← hDn] at KT ⊢
                  clear hDn
                  generalize World.alloc wdr (.cells (moi ⟨0, 0, 0, 0, 0⟩ ⟨0, 0, 0, 0, 0⟩) 34) = wr285 at KT ⊢
                  try simp only [Act.put, List.setIfInBounds_toArray, List.set_cons_zero, List.set_cons_succ]
                  refine wpLate_two (i := 4) (j := 11) (o := ?orn286_4) (u := ?orn286_11) (by decide +kernel) ?horn286_4 ?horn286_11 ?hkrn286_4 ?hkrn286_11
                  case horn286_4 => (simp only [List.getElem?_toArray, List.getElem?_cons_zero, List.getElem?_cons_succ]; rfl)
                  case horn286_11 => (simp only [List.getElem?_toArray, List.getElem?_cons_zero, List.getElem?_cons_succ]; rfl)
                  case hkrn286_4 =>
                    intro K hK
                    go_simp
                    refine (HC4.out _ KT.out.b).mono ?_
                    rintro r wr287 ⟨rfl, hbs⟩
                    replace KT := Lib.hid (KT.out.call hbs)
                    clear hbs
                    go_simp
                    refine hK.out _ _ (fun _ => KS.out _ KT.out.b) ?_
                    clear hK K
                    try simp only [Act.put, List.setIfInBounds_toArray, List.set_cons_zero, List.set_cons_succ]
                    refine wpLate_two (i := 6) (j := 11) (o := ?orn288_6) (u := ?orn288_11) (by decide +kernel) ?horn288_6 ?horn288_11 ?hkrn288_6 ?hkrn288_11
                    case horn288_6 => (simp only [List.getElem?_toArray, List.getElem?_cons_zero, List.getElem?_cons_succ]; rfl)
                    case horn288_11 => (simp only [List.getElem?_toArray, List.getElem?_cons_zero, List.getElem?_cons_succ]; rfl)
                    case hkrn288_6 =>
                      intro K hK
                      go_simp
                      refine (HC6.out _ KT.out.b).mono ?_
                      rintro r wr289 ⟨rfl, hbs⟩
                      replace KT := Lib.hid (KT.out.call hbs)
                      clear hbs
                      go_simp
                      refine hK.out _ _ (fun _ => KS.out _ KT.out.b) ?_
                      clear hK K
                      try simp only [Act.put, List.setIfInBounds_toArray, List.set_cons_zero, List.set_cons_succ]
                      refine wpLate_take (i := 7) (oi := ?oirt290_) (v := ?vrt290_) [8, 9, 10, 13, 14, 15] ?hirt290_ (by decide +kernel) (by decide +kernel) (by decide +kernel) (by decide +kernel) (by decide +kernel) ?hQrt290_ (Or.inl ⟨?hwrt290_, ?hyrt290_⟩) (KS.out _ KT.out.b) ?restrt290_
                      case hirt290_ => (simp only [List.getElem?_toArray, List.getElem?_cons_zero, List.getElem?_cons_succ]; rfl)
                      case hQrt290_ => exact fun _ _ _ h => h
                      case hwrt290_ => rfl
                      case hyrt290_ =>
                        intro w' hSw
                        obtain ⟨r0, r1, r2, r3, r4, r5, r6⟩ := hSw
                        go_simp
                        try exact rfl
                      try simp only [Act.put, List.setIfInBounds_toArray, List.set_cons_zero, List.set_cons_succ]
                      refine wpLate_take (i := 8) (oi := ?oirt291_) (v := ?vrt291_) [13, 14, 15] ?hirt291_ (by decide +kernel) (by decide +kernel) (by decide +kernel) (by decide +kernel) (by decide +kernel) ?hQrt291_ (Or.inl ⟨?hwrt291_, ?hyrt291_⟩) (KS.out _ KT.out.b) ?restrt291_
                      case hirt291_ => (simp only [List.getElem?_toArray, List.getElem?_cons_zero, List.getElem?_cons_succ]; rfl)
                      case hQrt291_ => exact fun _ _ _ h => h
                      case hwrt291_ => rfl
                      case hyrt291_ =>
                        intro w' hSw
                        obtain ⟨r0, r1, r2, r3, r4, r5, r6⟩ := hSw
                        go_simp
                        try exact rfl
                      try simp only [Act.put, List.setIfInBounds_toArray, List.set_cons_zero, List.set_cons_succ]
                      refine wpLate_take (i := 9) (oi := ?oirt292_) (v := ?vrt292_) [14, 15] ?hirt292_ (by decide +kernel) (by decide +kernel) (by decide +kernel) (by decide +kernel) (by decide +kernel) ?hQrt292_ (Or.inl ⟨?hwrt292_, ?hyrt292_⟩) (KS.out _ KT.out.b) ?restrt292_
                      case hirt292_ => (simp only [List.getElem?_toArray, List.getElem?_cons_zero, List.getElem?_cons_succ]; rfl)
                      case hQrt292_ => exact fun _ _ _ h => h
                      case hwrt292_ => rfl
                      case hyrt292_ =>
                        intro w' hSw
                        obtain ⟨r0, r1, r2, r3, r4, r5, r6⟩ := hSw
                        go_simp
                        try exact rfl
                      try simp only [Act.put, List.setIfInBounds_toArray, List.set_cons_zero, List.set_cons_succ]
                      refine wpLate_take (i := 10) (oi := ?oirt293_) (v := ?vrt293_) [15] ?hirt293_ (by decide +kernel) (by decide +kernel) (by decide +kernel) (by decide +kernel) (by decide +kernel) ?hQrt293_ (Or.inl ⟨?hwrt293_, ?hyrt293_⟩) (KS.out _ KT.out.b) ?restrt293_
                      case hirt293_ => (simp only [List.getElem?_toArray, List.getElem?_cons_zero, List.getElem?_cons_succ]; rfl)
                      case hQrt293_ => exact fun _ _ _ h => h
                      case hwrt293_ => rfl
                      case hyrt293_ =>
                        intro w' hSw
                        obtain ⟨r0, r1, r2, r3, r4, r5, r6⟩ := hSw
                        go_simp
                        try exact rfl
                      try simp only [Act.put, List.setIfInBounds_toArray, List.set_cons_zero, List.set_cons_succ]
                      refine wpLate_one (i := 11) (o := ?orn294_11) (by decide +kernel) ?horn294_11 ?hkrn294_11
                      case horn294_11 => (simp only [List.getElem?_toArray, List.getElem?_cons_zero, List.getElem?_cons_succ]; rfl)
                      intro K hK
                      go_simp
                      replace KT := Lib.hid (KT.out.al1)
                      refine hK.out _ _ (fun _ => KS.out _ KT.out.b) ?_
                      clear hK K
                      obtain ⟨Dar, hDn⟩ : ∃ D, D = (World.heap wr289).size := ⟨_, rfl⟩
                      rw [← hDn] at KT ⊢
                      clear hDn
                      generalize World.alloc wr289 (.cells #[.int .i64 0, .int .i64 0] 24) = wr295 at KT ⊢
                      try simp only [Act.put, List.setIfInBounds_toArray, List.set_cons_zero, List.set_cons_succ]
                      replace KT := Lib.hid KT.out.fin
                      refine wpLate_one (i := 13) (o := ?orf296_13) (by decide +kernel) ?horf296_13 ?hkrf296_13
                      case horf296_13 => (simp only [List.getElem?_toArray, List.getElem?_cons_zero, List.getElem?_cons_succ]; rfl)
                      intro K hK
                      refine (if_pos (show Region.wanted _ _ = true from rfl)).mpr ?_
                      refine KT.out.store1 (m := rL.w) (n := rH.w) rfl rfl rfl ?_
                      replace KT := Lib.hid (KT.out.put1 (x' := .int .i64 rL.w) (y' := .int .i64 rH.w))
                      refine hK.out _ _ (fun h => KS.out _ KT.out.b) ?_
                      clear hK K
                      generalize (World.setCell wr295 ⟨Dar, 0, none⟩ (.int .i64 rL.w)).setCell ⟨Dar, 1, none⟩ (.int .i64 rH.w) = wr297 at KT ⊢
                      try simp only [Act.put, List.setIfInBounds_toArray, List.set_cons_zero, List.set_cons_succ]
                      refine wpLate_one (i := 14) (o := ?orf298_14) (by decide +kernel) ?horf298_14 ?hkrf298_14
                      case horf298_14 => (simp only [List.getElem?_toArray, List.getElem?_cons_zero, List.getElem?_cons_succ]; rfl)
                      intro K hK
                      refine (if_pos (show Region.wanted _ _ = true from rfl)).mpr ?_
                      refine KT.out.store2 (c' := rL) (d' := rH) rfl rfl rfl ?_
                      replace KT := Lib.hid (KT.out.put2 (c' := rL) (d' := rH))
                      refine hK.out _ _ (fun h => KS.out _ KT.out.b) ?_
                      clear hK K
                      generalize set8 wr297 Dbr rL rH = wr299 at KT ⊢
                      try simp only [Act.put, List.setIfInBounds_toArray, List.set_cons_zero, List.set_cons_succ]
                      refine wpLate_one (i := 15) (o := ?org300_15) (by decide +kernel) ?horg300_15 ?hkrg300_15
                      case horg300_15 => (simp only [List.getElem?_toArray, List.getElem?_cons_zero, List.getElem?_cons_succ]; rfl)
                      intro K hK
                      go_simp
                      refine hK.out _ _ (fun h => KS.out _ KT.out.b) ?_
                      clear hK K
                      try simp only [Act.put, List.setIfInBounds_toArray, List.set_cons_zero, List.set_cons_succ]
                      refine wpLate_done (by decide +kernel) ?_ _
                      try simp only [Act.put, List.setIfInBounds_toArray, List.set_cons_zero, List.set_cons_succ]
                      try go_wp2_with fail
                      go_meet
                      exact ⟨_, _, rfl, rfl, rfl, KT⟩
                    case hkrn288_11 =>
                      intro K hK
                      go_simp
                      replace KT := Lib.hid (KT.out.al1)
                      refine hK.out _ _ (fun _ => KS.out _ KT.out.b) ?_
                      clear hK K
                      obtain ⟨Dar, hDn⟩ : ∃ D, D = (World.heap wr287).size := ⟨_, rfl⟩
                      rw [← hDn] at KT ⊢
                      clear hDn
                      generalize World.alloc wr287 (.cells #[.int .i64 0, .int .i64 0] 24) = wr301 at KT ⊢
                      try simp only [Act.put, List.setIfInBounds_toArray, List.set_cons_zero, List.set_cons_succ]
                      refine wpLate_one (i := 6) (o := ?orn302_6) (by decide +kernel) ?horn302_6 ?hkrn302_6
                      case horn302_6 => (simp only [List.getElem?_toArray, List.getElem?_cons_zero, List.getElem?_cons_succ]; rfl)
                      intro K hK
                      go_simp
                      refine (HC6.out _ KT.out.b).mono ?_
                      rintro r wr303 ⟨rfl, hbs⟩
                      replace KT := Lib.hid (KT.out.call hbs)
                      clear hbs
                      go_simp
                      refine hK.out _ _ (fun _ => KS.out _ KT.out.b) ?_
                      clear hK K
                      try simp only [Act.put, List.setIfInBounds_toArray, List.set_cons_zero, List.set_cons_succ]
                      refine wpLate_take (i := 7) (oi := ?oirt304_) (v := ?vrt304_) [8, 9, 10, 13, 14, 15] ?hirt304_ (by decide +kernel) (by decide +kernel) (by decide +kernel) (by decide +kernel) (by decide +kernel) ?hQrt304_ (Or.inl ⟨?hwrt304_, ?hyrt304_⟩) (KS.out _ KT.out.b) ?restrt304_
                      case hirt304_ => (simp only [List.getElem?_toArray, List.getElem?_cons_zero, List.getElem?_cons_succ]; rfl)
                      case hQrt304_ => exact fun _ _ _ h => h
                      case hwrt304_ => rfl
                      case hyrt304_ =>
                        intro w' hSw
                        obtain ⟨r0, r1, r2, r3, r4, r5, r6⟩ := hSw
                        go_simp
                        try exact rfl
                      try simp only [Act.put, List.setIfInBounds_toArray, List.set_cons_zero, List.set_cons_succ]
                      refine wpLate_take (i := 8) (oi := ?oirt305_) (v := ?vrt305_) [13, 14, 15] ?hirt305_ (by decide +kernel) (by decide +kernel) (by decide +kernel) (by decide +kernel) (by decide +kernel) ?hQrt305_ (Or.inl ⟨?hwrt305_, ?hyrt305_⟩) (KS.out _ KT.out.b) ?restrt305_
                      case hirt305_ => (simp only [List.getElem?_toArray, List.getElem?_cons_zero, List.getElem?_cons_succ]; rfl)
                      case hQrt305_ => exact fun _ _ _ h => h
                      case hwrt305_ => rfl
                      case hyrt305_ =>
                        intro w' hSw
                        obtain ⟨r0, r1, r2, r3, r4, r5, r6⟩ := hSw
                        go_simp
                        try exact rfl
                      try simp only [Act.put, List.setIfInBounds_toArray, List.set_cons_zero, List.set_cons_succ]
                      refine wpLate_take (i := 9) (oi := ?oirt306_) (v := ?vrt306_) [14, 15] ?hirt306_ (by decide +kernel) (by decide +kernel) (by decide +kernel) (by decide +kernel) (by decide +kernel) ?hQrt306_ (Or.inl ⟨?hwrt306_, ?hyrt306_⟩) (KS.out _ KT.out.b) ?restrt306_
                      case hirt306_ => (simp only [List.getElem?_toArray, List.getElem?_cons_zero, List.getElem?_cons_succ]; rfl)
                      case hQrt306_ => exact fun _ _ _ h => h
                      case hwrt306_ => rfl
                      case hyrt306_ =>
                        intro w' hSw
                        obtain ⟨r0, r1, r2, r3, r4, r5, r6⟩ := hSw
                        go_simp
                        try exact rfl
                      try simp only [Act.put, List.setIfInBounds_toArray, List.set_cons_zero, List.set_cons_succ]
                      refine wpLate_take (i := 10) (oi := ?oirt307_) (v := ?vrt307_) [15] ?hirt307_ (by decide +kernel) (by decide +kernel) (by decide +kernel) (by decide +kernel) (by decide +kernel) ?hQrt307_ (Or.inl ⟨?hwrt307_, ?hyrt307_⟩) (KS.out _ KT.out.b) ?restrt307_
                      case hirt307_ => (simp only [List.getElem?_toArray, List.getElem?_cons_zero, List.getElem?_cons_succ]; rfl)
                      case hQrt307_ => exact fun _ _ _ h => h
                      case hwrt307_ => rfl
                      case hyrt307_ =>
                        intro w' hSw
                        obtain ⟨r0, r1, r2, r3, r4, r5, r6⟩ := hSw
                        go_simp
                        try exact rfl
                      try simp only [Act.put, List.setIfInBounds_toArray, List.set_cons_zero, List.set_cons_succ]
                      replace KT := Lib.hid KT.out.fin
                      refine wpLate_one (i := 13) (o := ?orf308_13) (by decide +kernel) ?horf308_13 ?hkrf308_13
                      case horf308_13 => (simp only [List.getElem?_toArray, List.getElem?_cons_zero, List.getElem?_cons_succ]; rfl)
                      intro K hK
                      refine (if_pos (show Region.wanted _ _ = true from rfl)).mpr ?_
                      refine KT.out.store1 (m := rL.w) (n := rH.w) rfl rfl rfl ?_
                      replace KT := Lib.hid (KT.out.put1 (x' := .int .i64 rL.w) (y' := .int .i64 rH.w))
                      refine hK.out _ _ (fun h => KS.out _ KT.out.b) ?_
                      clear hK K
                      generalize (World.setCell wr303 ⟨Dar, 0, none⟩ (.int .i64 rL.w)).setCell ⟨Dar, 1, none⟩ (.int .i64 rH.w) = wr309 at KT ⊢
                      try simp only [Act.put, List.setIfInBounds_toArray, List.set_cons_zero, List.set_cons_succ]
                      refine wpLate_one (i := 14) (o := ?orf310_14) (by decide +kernel) ?horf310_14 ?hkrf310_14
                      case horf310_14 => (simp only [List.getElem?_toArray, List.getElem?_cons_zero, List.getElem?_cons_succ]; rfl)
                      intro K hK
                      refine (if_pos (show Region.wanted _ _ = true from rfl)).mpr ?_
                      refine KT.out.store2 (c' := rL) (d' := rH) rfl rfl rfl ?_
                      replace KT := Lib.hid (KT.out.put2 (c' := rL) (d' := rH))
                      refine hK.out _ _ (fun h => KS.out _ KT.out.b) ?_
                      clear hK K
                      generalize set8 wr309 Dbr rL rH = wr311 at KT ⊢
                      try simp only [Act.put, List.setIfInBounds_toArray, List.set_cons_zero, List.set_cons_succ]
                      refine wpLate_one (i := 15) (o := ?org312_15) (by decide +kernel) ?horg312_15 ?hkrg312_15
                      case horg312_15 => (simp only [List.getElem?_toArray, List.getElem?_cons_zero, List.getElem?_cons_succ]; rfl)
                      intro K hK
                      go_simp
                      refine hK.out _ _ (fun h => KS.out _ KT.out.b) ?_
                      clear hK K
                      try simp only [Act.put, List.setIfInBounds_toArray, List.set_cons_zero, List.set_cons_succ]
                      refine wpLate_done (by decide +kernel) ?_ _
                      try simp only [Act.put, List.setIfInBounds_toArray, List.set_cons_zero, List.set_cons_succ]
                      try go_wp2_with fail
                      go_meet
                      exact ⟨_, _, rfl, rfl, rfl, KT⟩
                  case hkrn286_11 =>
                    intro K hK
                    go_simp
                    replace KT := Lib.hid (KT.out.al1)
                    refine hK.out _ _ (fun _ => KS.out _ KT.out.b) ?_
                    clear hK K
                    obtain ⟨Dar, hDn⟩ : ∃ D, D = (World.heap wr285).size := ⟨_, rfl⟩
                    rw [← hDn] at KT ⊢
                    clear hDn
                    generalize World.alloc wr285 (.cells #[.int .i64 0, .int .i64 0] 24) = wr313 at KT ⊢
                    try simp only [Act.put, List.setIfInBounds_toArray, List.set_cons_zero, List.set_cons_succ]
                    refine wpLate_one (i := 4) (o := ?orn314_4) (by decide +kernel) ?horn314_4 ?hkrn314_4
                    case horn314_4 => (simp only [List.getElem?_toArray, List.getElem?_cons_zero, List.getElem?_cons_succ]; rfl)
                    intro K hK
                    go_simp
                    refine (HC4.out _ KT.out.b).mono ?_
                    rintro r wr315 ⟨rfl, hbs⟩
                    replace KT := Lib.hid (KT.out.call hbs)
                    clear hbs
                    go_simp
                    refine hK.out _ _ (fun _ => KS.out _ KT.out.b) ?_
                    clear hK K
                    try simp only [Act.put, List.setIfInBounds_toArray, List.set_cons_zero, List.set_cons_succ]
                    refine wpLate_one (i := 6) (o := ?orn316_6) (by decide +kernel) ?horn316_6 ?hkrn316_6
                    case horn316_6 => (simp only [List.getElem?_toArray, List.getElem?_cons_zero, List.getElem?_cons_succ]; rfl)
                    intro K hK
                    go_simp
                    refine (HC6.out _ KT.out.b).mono ?_
                    rintro r wr317 ⟨rfl, hbs⟩
                    replace KT := Lib.hid (KT.out.call hbs)
                    clear hbs
                    go_simp
                    refine hK.out _ _ (fun _ => KS.out _ KT.out.b) ?_
                    clear hK K
                    try simp only [Act.put, List.setIfInBounds_toArray, List.set_cons_zero, List.set_cons_succ]
                    refine wpLate_take (i := 7) (oi := ?oirt318_) (v := ?vrt318_) [8, 9, 10, 13, 14, 15] ?hirt318_ (by decide +kernel) (by decide +kernel) (by decide +kernel) (by decide +kernel) (by decide +kernel) ?hQrt318_ (Or.inl ⟨?hwrt318_, ?hyrt318_⟩) (KS.out _ KT.out.b) ?restrt318_
                    case hirt318_ => (simp only [List.getElem?_toArray, List.getElem?_cons_zero, List.getElem?_cons_succ]; rfl)
                    case hQrt318_ => exact fun _ _ _ h => h
                    case hwrt318_ => rfl
                    case hyrt318_ =>
                      intro w' hSw
                      obtain ⟨r0, r1, r2, r3, r4, r5, r6⟩ := hSw
                      go_simp
                      try exact rfl
                    try simp only [Act.put, List.setIfInBounds_toArray, List.set_cons_zero, List.set_cons_succ]
                    refine wpLate_take (i := 8) (oi := ?oirt319_) (v := ?vrt319_) [13, 14, 15] ?hirt319_ (by decide +kernel) (by decide +kernel) (by decide +kernel) (by decide +kernel) (by decide +kernel) ?hQrt319_ (Or.inl ⟨?hwrt319_, ?hyrt319_⟩) (KS.out _ KT.out.b) ?restrt319_
                    case hirt319_ => (simp only [List.getElem?_toArray, List.getElem?_cons_zero, List.getElem?_cons_succ]; rfl)
                    case hQrt319_ => exact fun _ _ _ h => h
                    case hwrt319_ => rfl
                    case hyrt319_ =>
                      intro w' hSw
                      obtain ⟨r0, r1, r2, r3, r4, r5, r6⟩ := hSw
                      go_simp
                      try exact rfl
                    try simp only [Act.put, List.setIfInBounds_toArray, List.set_cons_zero, List.set_cons_succ]
                    refine wpLate_take (i := 9) (oi := ?oirt320_) (v := ?vrt320_) [14, 15] ?hirt320_ (by decide +kernel) (by decide +kernel) (by decide +kernel) (by decide +kernel) (by decide +kernel) ?hQrt320_ (Or.inl ⟨?hwrt320_, ?hyrt320_⟩) (KS.out _ KT.out.b) ?restrt320_
                    case hirt320_ => (simp only [List.getElem?_toArray, List.getElem?_cons_zero, List.getElem?_cons_succ]; rfl)
                    case hQrt320_ => exact fun _ _ _ h => h
                    case hwrt320_ => rfl
                    case hyrt320_ =>
                      intro w' hSw
                      obtain ⟨r0, r1, r2, r3, r4, r5, r6⟩ := hSw
                      go_simp
                      try exact rfl
                    try simp only [Act.put, List.setIfInBounds_toArray, List.set_cons_zero, List.set_cons_succ]
                    refine wpLate_take (i := 10) (oi := ?oirt321_) (v := ?vrt321_) [15] ?hirt321_ (by decide +kernel) (by decide +kernel) (by decide +kernel) (by decide +kernel) (by decide +kernel) ?hQrt321_ (Or.inl ⟨?hwrt321_, ?hyrt321_⟩) (KS.out _ KT.out.b) ?restrt321_
                    case hirt321_ => (simp only [List.getElem?_toArray, List.getElem?_cons_zero, List.getElem?_cons_succ]; rfl)
                    case hQrt321_ => exact fun _ _ _ h => h
                    case hwrt321_ => rfl
                    case hyrt321_ =>
                      intro w' hSw
                      obtain ⟨r0, r1, r2, r3, r4, r5, r6⟩ := hSw
                      go_simp
                      try exact rfl
                    try simp only [Act.put, List.setIfInBounds_toArray, List.set_cons_zero, List.set_cons_succ]
                    replace KT := Lib.hid KT.out.fin
                    refine wpLate_one (i := 13) (o := ?orf322_13) (by decide +kernel) ?horf322_13 ?hkrf322_13
                    case horf322_13 => (simp only [List.getElem?_toArray, List.getElem?_cons_zero, List.getElem?_cons_succ]; rfl)
                    intro K hK
                    refine (if_pos (show Region.wanted _ _ = true from rfl)).mpr ?_
                    refine KT.out.store1 (m := rL.w) (n := rH.w) rfl rfl rfl ?_
                    replace KT := Lib.hid (KT.out.put1 (x' := .int .i64 rL.w) (y' := .int .i64 rH.w))
                    refine hK.out _ _ (fun h => KS.out _ KT.out.b) ?_
                    clear hK K
                    generalize (World.setCell wr317 ⟨Dar, 0, none⟩ (.int .i64 rL.w)).setCell ⟨Dar, 1, none⟩ (.int .i64 rH.w) = wr323 at KT ⊢
                    try simp only [Act.put, List.setIfInBounds_toArray, List.set_cons_zero, List.set_cons_succ]
                    refine wpLate_one (i := 14) (o := ?orf324_14) (by decide +kernel) ?horf324_14 ?hkrf324_14
                    case horf324_14 => (simp only [List.getElem?_toArray, List.getElem?_cons_zero, List.getElem?_cons_succ]; rfl)
                    intro K hK
                    refine (if_pos (show Region.wanted _ _ = true from rfl)).mpr ?_
                    refine KT.out.store2 (c' := rL) (d' := rH) rfl rfl rfl ?_
                    replace KT := Lib.hid (KT.out.put2 (c' := rL) (d' := rH))
                    refine hK.out _ _ (fun h => KS.out _ KT.out.b) ?_
                    clear hK K
                    generalize set8 wr323 Dbr rL rH = wr325 at KT ⊢
                    try simp only [Act.put, List.setIfInBounds_toArray, List.set_cons_zero, List.set_cons_succ]
                    refine wpLate_one (i := 15) (o := ?org326_15) (by decide +kernel) ?horg326_15 ?hkrg326_15
                    case horg326_15 => (simp only [List.getElem?_toArray, List.getElem?_cons_zero, List.getElem?_cons_succ]; rfl)
                    intro K hK
                    go_simp
                    refine hK.out _ _ (fun h => KS.out _ KT.out.b) ?_
                    clear hK K
                    try simp only [Act.put, List.setIfInBounds_toArray, List.set_cons_zero, List.set_cons_succ]
                    refine wpLate_done (by decide +kernel) ?_ _
                    try simp only [Act.put, List.setIfInBounds_toArray, List.set_cons_zero, List.set_cons_succ]
                    try go_wp2_with fail
                    go_meet
                    exact ⟨_, _, rfl, rfl, rfl, KT⟩
            case rest =>
              obtain ⟨G1, G2, rfl, rfl, rfl, HT⟩ := hcut
              rename World => v0
              have KQ0 : Hid (P9 W v0 a A B ca cb lo hi L AL DM xL xH G1 G2 rL rH) := Lib.hid ⟨(KR.out.1.step HT.out.b).p, HT.out.d1.2, HT.out.d2.2⟩
              clear HT KR HC4 HC6 HNW HN0
              have z0 : v0.cell? ⟨G1, 0, none⟩ = some (.int .i64 rL.w) := KQ0.out.g.cell 0
              have z1 : v0.cell? ⟨G1, 1, none⟩ = some (.int .i64 rH.w) := KQ0.out.g.cell 1
              have z2 : v0.cell? ⟨DM, 0, none⟩ = some (.int .i64 xL.w) := KQ0.out.p.s.cell 0
              have z3 : v0.cell? ⟨DM, 1, none⟩ = some (.int .i64 xH.w) := KQ0.out.p.s.cell 1
              go_wp2_with fail
              refine (inside_yes HRR.out.1.w HRR.out.2.1.w HRR.out.2.2.w _).mono ?_
              rintro e v1 ⟨rfl, hb⟩
              have KQ1 := Lib.hid (KQ0.out.step hb)
              clear hb z0 z1 z2 z3 KQ0
              have z0 : v1.cell? ⟨G2, 0, none⟩ = some (.int .i64 rL.came) := KQ1.out.h.cell 0
              have z1 : v1.cell? ⟨G2, 1, none⟩ = some (.int .i64 rH.came) := KQ1.out.h.cell 1
              have z2 : v1.cell? ⟨DM + 1, 0, none⟩ = some (.int .i64 xL.came) := KQ1.out.p.m.cell 0
              have z3 : v1.cell? ⟨DM + 1, 1, none⟩ = some (.int .i64 xH.came) := KQ1.out.p.m.cell 1
              go_wp2_with fail
              refine (inside_yes HRR.out.1.came HRR.out.2.1.came HRR.out.2.2.came _).mono ?_
              rintro e v2 ⟨rfl, hb⟩
              have KQ2 := Lib.hid (KQ1.out.step hb)
              clear hb z0 z1 z2 z3 KQ1
              have z0 : v2.cell? ⟨G2, 2, none⟩ = some (.int .i64 rL.out) := KQ2.out.h.cell 2
              have z1 : v2.cell? ⟨G2, 3, none⟩ = some (.int .i64 rH.out) := KQ2.out.h.cell 3
              have z2 : v2.cell? ⟨DM + 1, 2, none⟩ = some (.int .i64 xL.out) := KQ2.out.p.m.cell 2
              have z3 : v2.cell? ⟨DM + 1, 3, none⟩ = some (.int .i64 xH.out) := KQ2.out.p.m.cell 3
              go_wp2_with fail
              refine (inside_yes HRR.out.1.out HRR.out.2.1.out HRR.out.2.2.out _).mono ?_
              rintro e v3 ⟨rfl, hb⟩
              have KQ3 := Lib.hid (KQ2.out.step hb)
              clear hb z0 z1 z2 z3 KQ2
              have z0 : v3.cell? ⟨G2, 4, none⟩ = some (.int .i64 rL.dried) := KQ3.out.h.cell 4
              have z1 : v3.cell? ⟨G2, 5, none⟩ = some (.int .i64 rH.dried) := KQ3.out.h.cell 5
              have z2 : v3.cell? ⟨DM + 1, 4, none⟩ = some (.int .i64 xL.dried) := KQ3.out.p.m.cell 4
              have z3 : v3.cell? ⟨DM + 1, 5, none⟩ = some (.int .i64 xH.dried) := KQ3.out.p.m.cell 5
              go_wp2_with fail
              refine (inside_yes HRR.out.1.dried HRR.out.2.1.dried HRR.out.2.2.dried _).mono ?_
              rintro e v4 ⟨rfl, hb⟩
              have KQ4 := Lib.hid (KQ3.out.step hb)
              clear hb z0 z1 z2 z3 KQ3
              have z0 : v4.cell? ⟨G2, 6, none⟩ = some (.int .i64 rL.dew) := KQ4.out.h.cell 6
              have z1 : v4.cell? ⟨G2, 7, none⟩ = some (.int .i64 rH.dew) := KQ4.out.h.cell 7
              have z2 : v4.cell? ⟨DM + 1, 6, none⟩ = some (.int .i64 xL.dew) := KQ4.out.p.m.cell 6
              have z3 : v4.cell? ⟨DM + 1, 7, none⟩ = some (.int .i64 xH.dew) := KQ4.out.p.m.cell 7
              go_wp2_with fail
              refine (inside_yes HRR.out.1.dew HRR.out.2.1.dew HRR.out.2.2.dew _).mono ?_
              rintro e v5 ⟨rfl, hb⟩
              have KQ5 := Lib.hid (KQ4.out.step hb)
              clear hb z0 z1 z2 z3 KQ4
              go_wp2_with fail
              refine (HAw.out _).mono ?_
              rintro e wz ⟨rfl, hbz⟩
              have KZ := Lib.hid (KQ5.out.step hbz)
              clear hbz
              go_wp2_with fail
              go_ret
              exact ⟨rfl, KZ.out.p.l.v.b.b⟩
          have hlt2 : (q : Int) < L.length := by omega
          obtain ⟨g, o, hg, hgs, hc⟩ := K9.out.p.l.sr q hlt
          have HVS := Lib.hid (((insB_iff _ _ _ _).1 HIN.out).2.2.2 L[q] (List.getElem_mem hlt))
          have hn7 := narT_nar HVS.out U zz
          have hnx := narL_app hlt HW.out.2 hn7
          obtain ⟨s, hs⟩ : ∃ s, s = L[q] := ⟨_, rfl⟩
          rw [← hs] at hc HVS hnx
          have HNX := Lib.hid hnx
          have p0 : wr.cell? ⟨g, o + q * 8, none⟩ = some (.int .i64 s.cold) := (HW.out.1.b.cell (p := ⟨g, _, none⟩) hgs).trans (hc 0 (by omega))
          have p1 : wr.cell? ⟨g, o + q * 8 + 1, none⟩ = some (.int .i64 s.ppl) := (HW.out.1.b.cell (p := ⟨g, _, none⟩) hgs).trans (hc 1 (by omega))
          have p2 : wr.cell? ⟨g, o + q * 8 + 2, none⟩ = some (.int .i64 s.chg) := (HW.out.1.b.cell (p := ⟨g, _, none⟩) hgs).trans (hc 2 (by omega))
          have p3 : wr.cell? ⟨g, o + q * 8 + 3, none⟩ = some (.int .i64 s.o0) := (HW.out.1.b.cell (p := ⟨g, _, none⟩) hgs).trans (hc 3 (by omega))
          have p4 : wr.cell? ⟨g, o + q * 8 + 4, none⟩ = some (.int .i64 s.o1) := (HW.out.1.b.cell (p := ⟨g, _, none⟩) hgs).trans (hc 4 (by omega))
          have p5 : wr.cell? ⟨g, o + q * 8 + 5, none⟩ = some (.int .i64 s.s0) := (HW.out.1.b.cell (p := ⟨g, _, none⟩) hgs).trans (hc 5 (by omega))
          have p6 : wr.cell? ⟨g, o + q * 8 + 6, none⟩ = some (.int .i64 s.s1) := (HW.out.1.b.cell (p := ⟨g, _, none⟩) hgs).trans (hc 6 (by omega))
          have p7 : wr.cell? ⟨g, o + q * 8 + 7, none⟩ = some (.int .i64 s.dry) := (HW.out.1.b.cell (p := ⟨g, _, none⟩) hgs).trans (hc 7 (by omega))
          have hm1 : m.length ≤ 200 := by rw [HW.out.2.n, List.length_take]; omega
          have X1 := Lib.hid (HW.out.1.box s)
          have HWB := Lib.hid (K9.out.step HW.out.1.b).p.l.v.b.b
          obtain ⟨y0, hy0⟩ : ∃ x, x = narLo s.o0 s.o1 U (zz + 2) := ⟨_, rfl⟩
          obtain ⟨y1, hy1⟩ : ∃ x, x = narHi s.o0 s.o1 U (zz + 2) := ⟨_, rfl⟩
          obtain ⟨y2, hy2⟩ : ∃ x, x = narLo s.s0 s.s1 U (zz + 4) := ⟨_, rfl⟩
          obtain ⟨y3, hy3⟩ : ∃ x, x = narHi s.s0 s.s1 U (zz + 4) := ⟨_, rfl⟩
          have HN2 : Hid (∀ w, Below W.heap.size W w → Calls Try.prog 26 #[.agg #[.int .i64 s.o0, .int .i64 s.o1], .slice (some ⟨gu, ou, none⟩) U.length cu, .int .i64 ((zz : Int) + 2)] w fun e w' => e = .returned (.agg #[.int .i64 y0, .int .i64 y1]) ∧ Below w.heap.size w w') := Lib.hid fun w hb => by
            have h := HNW.out s.o0 s.o1 (zz + 2) w (by have := HVS.out.o; omega) (by omega) hb
            rw [← hy0, ← hy1, show ((zz + 2 : Nat) : Int) = (zz : Int) + 2 by simp] at h
            exact h
          have HN4 : Hid (∀ w, Below W.heap.size W w → Calls Try.prog 26 #[.agg #[.int .i64 s.s0, .int .i64 s.s1], .slice (some ⟨gu, ou, none⟩) U.length cu, .int .i64 ((zz : Int) + 4)] w fun e w' => e = .returned (.agg #[.int .i64 y2, .int .i64 y3]) ∧ Below w.heap.size w w') := Lib.hid fun w hb => by
            have h := HNW.out s.s0 s.s1 (zz + 4) w (by have := HVS.out.st; omega) (by omega) hb
            rw [← hy2, ← hy3, show ((zz + 4 : Nat) : Int) = (zz : Int) + 4 by simp] at h
            exact h
          have HTE : Hid (narT s U zz = ⟨s.cold, s.ppl, s.chg, y0, y1, y2, y3, s.dry⟩) := Lib.hid (by rw [hy0, hy1, hy2, hy3]; rfl)
          rw [HTE.out] at HNX
          clear hy0 hy1 hy2 hy3 HTE hgs hc hs HW hq hn7 hnx
          subst hg
          go_upto_region 21 with fail
          unfold stpc at X1
          generalize wr.alloc (.cells #[.int .i64 s.cold, .int .i64 s.ppl, .int .i64 s.chg, .int .i64 s.o0, .int .i64 s.o1, .int .i64 s.s0, .int .i64 s.s1, .int .i64 s.dry] 50) = w11 at X1 ⊢
          generalize wr.heap.size = D at X1 ⊢
          clear p0 p1 p2 p3 p4 p5 p6 p7
          have HWB1 := Lib.hid ((K9.out.step X1.out.b).p.l.v.b.b)
          clear HWB
          have p3 : w11.cell? ⟨D, 3, none⟩ = some (.int .i64 s.o0) := X1.out.d.cell 3
          have p4 : w11.cell? ⟨D, 4, none⟩ = some (.int .i64 s.o1) := X1.out.d.cell 4
          go_wp2_with fail
          refine (HN2.out _ HWB1.out).mono ?_
          rintro e w12 ⟨rfl, hb⟩
          have X2 := Lib.hid (X1.out.step hb)
          clear hb p3 p4 X1 HWB1 HN2
          have p3 : w12.cell? ⟨D, 3, none⟩ = some (.int .i64 s.o0) := X2.out.d.cell 3
          have p4 : w12.cell? ⟨D, 4, none⟩ = some (.int .i64 s.o1) := X2.out.d.cell 4
          have f3 := X2.out.d.frozen 3
          have f4 := X2.out.d.frozen 4
          have X3 := Lib.hid ((X2.out.set 3 (.int .i64 y0) ⟨s.cold, s.ppl, s.chg, y0, s.o1, s.s0, s.s1, s.dry⟩ rfl).set 4 (.int .i64 y1) ⟨s.cold, s.ppl, s.chg, y0, y1, s.s0, s.s1, s.dry⟩ rfl)
          go_upto_region 22 with fail
          clear p3 p4 f3 f4 X2
          generalize (w12.setCell ⟨D, 3, none⟩ (.int .i64 y0)).setCell ⟨D, 4, none⟩ (.int .i64 y1) = w13 at X3 ⊢
          have HWB3 := Lib.hid ((K9.out.step X3.out.b).p.l.v.b.b)
          have p3 : w13.cell? ⟨D, 5, none⟩ = some (.int .i64 s.s0) := X3.out.d.cell 5
          have p4 : w13.cell? ⟨D, 6, none⟩ = some (.int .i64 s.s1) := X3.out.d.cell 6
          go_wp2_with fail
          refine (HN4.out _ HWB3.out).mono ?_
          rintro e w14 ⟨rfl, hb⟩
          have X4 := Lib.hid (X3.out.step hb)
          clear hb p3 p4 X3 HWB3 HN4
          have p3 : w14.cell? ⟨D, 5, none⟩ = some (.int .i64 s.s0) := X4.out.d.cell 5
          have p4 : w14.cell? ⟨D, 6, none⟩ = some (.int .i64 s.s1) := X4.out.d.cell 6
          have f3 := X4.out.d.frozen 5
          have f4 := X4.out.d.frozen 6
          have X5 := Lib.hid ((X4.out.set 5 (.int .i64 y2) ⟨s.cold, s.ppl, s.chg, y0, y1, y2, s.s1, s.dry⟩ rfl).set 6 (.int .i64 y3) ⟨s.cold, s.ppl, s.chg, y0, y1, y2, y3, s.dry⟩ rfl)
          go_upto_region 24 with fail
          clear p3 p4 f3 f4 X4
          generalize (w14.setCell ⟨D, 5, none⟩ (.int .i64 y2)).setCell ⟨D, 6, none⟩ (.int .i64 y3) = w15 at X5 ⊢
          have p0 : w15.cell? ⟨D, 0, none⟩ = some (.int .i64 s.cold) := X5.out.d.cell 0
          have p1 : w15.cell? ⟨D, 1, none⟩ = some (.int .i64 s.ppl) := X5.out.d.cell 1
          have p2 : w15.cell? ⟨D, 2, none⟩ = some (.int .i64 s.chg) := X5.out.d.cell 2
          have p3 : w15.cell? ⟨D, 3, none⟩ = some (.int .i64 y0) := X5.out.d.cell 3
          have p4 : w15.cell? ⟨D, 4, none⟩ = some (.int .i64 y1) := X5.out.d.cell 4
          have p5 : w15.cell? ⟨D, 5, none⟩ = some (.int .i64 y2) := X5.out.d.cell 5
          have p6 : w15.cell? ⟨D, 6, none⟩ = some (.int .i64 y3) := X5.out.d.cell 6
          have p7 : w15.cell? ⟨D, 7, none⟩ = some (.int .i64 s.dry) := X5.out.d.cell 7
          have HO : Hid (T3 w10 (w15.alloc (.cells #[.int .i64 s.cold, .int .i64 s.ppl, .int .i64 s.chg, .int .i64 y0, .int .i64 y1, .int .i64 y2, .int .i64 y3, .int .i64 s.dry] 50)) D ⟨s.cold, s.ppl, s.chg, y0, y1, y2, y3, s.dry⟩ (.slice V m.length c) (.slice none 0 0) (.slice none 0 0) m [] [] ∧ Has (w15.alloc (.cells #[.int .i64 s.cold, .int .i64 s.ppl, .int .i64 s.chg, .int .i64 y0, .int .i64 y1, .int .i64 y2, .int .i64 y3, .int .i64 s.dry] 50)) w15.heap.size 50 (stpc ⟨s.cold, s.ppl, s.chg, y0, y1, y2, y3, s.dry⟩)) := Lib.hid ⟨X5.out.step (below_one _ _), Has.new _ _ _⟩
          have HNEW := Lib.hid (step_new HO.out.2)
          go_wp2_with (at_builtin; refine wpList_append_lies _ rfl _ _ 27 rfl w10.heap.size 50 i0 (.agg #[.int .i64 0, .int .i64 0, .int .i64 0, .int .i64 0, .int .i64 0, .int .i64 0, .int .i64 0, .int .i64 0]) 8 64 Try.underlying27 hi0 hz0 hz1 hz2 rfl (by decide) (.slice V m.length c) m.length (sfl m) rfl HO.out.1.o1 ⟨w15.heap.size, 0, none⟩ 1 1 (sfl [⟨s.cold, s.ppl, s.chg, y0, y1, y2, y3, s.dry⟩]) rfl ?q1_ HNEW.out (sfl_one _) ?q2_ ?q3_ ?q4_ ?q5_ _ rfl ?_)
          all_goals (try (first | rfl | omega | (unfold maxLen; omega) | (have := X5.out.b.size; simp; omega)))
          rintro g1 cap1 w16 hown hgr hgb hlt9
          have X6 := Lib.hid (HO.out.1.app1 (x := ⟨s.cold, s.ppl, s.chg, y0, y1, y2, y3, s.dry⟩) (H := w15.heap.size + 1) (by simp) hown hgr hgb)
          clear hown hgr hgb hlt9 HO HNEW X5 p0 p1 p2 p3 p4 p5 p6 p7
          go_wp2_with fail
          go_roundg (L.length - (q + 1))
          case measure => omega
          case rel => exact ⟨q + 1, by omega, Nat.le_refl _, by go_num, zz + 3, m ++ [⟨s.cold, s.ppl, s.chg, y0, y1, y2, y3, s.dry⟩], some ⟨g1, 0, none⟩, cap1, by have := HZZ.out; omega, by go_num, by simp, Lib.hid ⟨by simpa using X6.out.t0, HNX.out⟩⟩
end Go.Proofs.Ytdmpkeaanaoeaaa
