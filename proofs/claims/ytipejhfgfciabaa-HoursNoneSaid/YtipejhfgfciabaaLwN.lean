/- The law that no good plan is fairer. -/
import Derived.Test.YtipejhfgfciabaaLiK
import Derived.Test.YtipejhfgfciabaaLiN
import Derived.Test.YtipejhfgfciabaaLiO
import Derived.Test.YtipejhfgfciabaaLiP
namespace Go.Proofs.Ytipejhfgfciabaa
open Go.RowKit Go.Shelf
attribute [local irreducible] wpQuiet
theorem brow_step {w w' : World} {A : Option Addr} {l : List Int} (h : BRow w w.heap.size A l) (hb : Below w.heap.size w w') : BRow w' w'.heap.size A l := fun k hk => by
  obtain ⟨g, o, e, hg, c⟩ := (h.below hb) k hk
  exact ⟨g, o, e, by have := hb.size; omega, c⟩
set_option maxRecDepth 100000 in
set_option maxHeartbeats 4000000 in
theorem noneLaw_any (x : Tt) (AH AG : Option Addr) (ch cg : Nat) (by_ : List Int) (A1 : Option Addr) (c1 : Nat) (W : World) (hr : TR W W.heap.size x AH AG) (hby : BRow W W.heap.size A1 by_) (hb8 : ∀ s ∈ by_, 0 ≤ s ∧ s ≤ 255) :
    Calls Try.prog 5 #[ttv x AH AG ch cg, .slice A1 by_.length c1] W (BoolPost true W) := by
  have hmix : Try.prog.follows .mixedOrders = true := by kernel_rfl
  have HB : Hid (VB W (W.alloc (.cells (ttc x AH AG ch cg) 25)) x AH AG ch cg) := ⟨below_one W _, Has.new W 25 _⟩
  have HR := Lib.hid (And.intro hr hby)
  have HLg := Lib.hid (fun w => large_any x AH AG ch cg w)
  have HAw := Lib.hid (fun w => awake_any w)
  clear hr hby
  have hex : largeB x = true ∨ (largeB x = false ∧ by_.length = 0) ∨ (largeB x = false ∧ by_.length ≠ 0) := by
    cases largeB x with
    | true => exact .inl rfl
    | false => exact .inr (by
      rcases Nat.eq_zero_or_pos by_.length with h | h
      · exact .inl ⟨rfl, h⟩
      · exact .inr ⟨rfl, by omega⟩)
  unfold ttv at *
  rcases hex with h1 | ⟨h1, h2⟩ | ⟨h1, h2⟩
  · clear hb8
    rw [h1] at HLg
    go_enter Try.func5, Try.ntmps5
    go_upto_region 1 with fail
    generalize W.alloc (.cells (ttc x AH AG ch cg) 25) = w0 at HB ⊢
    obtain ⟨x0, x1, x2⟩ := HB.out.cells
    go_wp2_with fail
    refine (HLg.out _).mono ?_
    rintro e w1 ⟨rfl, hb1⟩
    have H1 := Lib.hid (HB.out.step hb1)
    clear hb1 x0 x1 x2 HB HLg
    go_wp2_with fail
    refine (HAw.out _).mono ?_
    rintro e wz ⟨rfl, hbz⟩
    have HZ := Lib.hid (H1.out.step hbz)
    clear hbz
    go_wp2_with fail
    go_ret
    exact ⟨rfl, HZ.out.b⟩
  · have h2' : ((by_.length : Int) == 0) = true := beq_iff_eq.2 (by omega)
    clear hb8
    rw [h1] at HLg
    go_enter Try.func5, Try.ntmps5
    go_upto_region 1 with fail
    generalize W.alloc (.cells (ttc x AH AG ch cg) 25) = w0 at HB ⊢
    obtain ⟨x0, x1, x2⟩ := HB.out.cells
    go_wp2_with fail
    refine (HLg.out _).mono ?_
    rintro e w1 ⟨rfl, hb1⟩
    have H1 := Lib.hid (HB.out.step hb1)
    clear hb1 x0 x1 x2 HB HLg
    go_wp2_with fail
    refine (HAw.out _).mono ?_
    rintro e wz ⟨rfl, hbz⟩
    have HZ := Lib.hid (H1.out.step hbz)
    clear hbz
    go_wp2_with fail
    go_ret
    exact ⟨rfl, HZ.out.b⟩
  have h2' : ((by_.length : Int) == 0) = false := beq_eq_false_iff_ne.2 (by omega)
  have hlg : x.G.length ≤ 8 ∧ x.H.length ≤ 14 := by unfold largeB at h1; simp at h1; omega
  have HF := Lib.hid (fun w h => Fairest_any x AH AG ch cg w h)
  have HTt := Lib.hid (fun w h => Timetable_any x AH AG ch cg w h (by omega) (by omega))
  cases hT : ttB x
  · have hE : fairestR x = ([], 1) := by unfold fairestR; simp [hT]
    rw [hE] at HF
    unfold ttv at HF
    clear hE hT HTt hb8 h2
    rw [h1] at HLg
    go_enter Try.func5, Try.ntmps5
    go_upto_region 1 with fail
    generalize W.alloc (.cells (ttc x AH AG ch cg) 25) = w0 at HB ⊢
    obtain ⟨x0, x1, x2⟩ := HB.out.cells
    go_wp2_with fail
    refine (HLg.out _).mono ?_
    rintro e w1 ⟨rfl, hb1⟩
    have H1 := Lib.hid (HB.out.step hb1)
    clear hb1 x0 x1 x2 HB HLg
    obtain ⟨x0, x1, x2⟩ := H1.out.cells
    go_wp2_with fail
    refine (HF.out _ (HR.out.1.step H1.out.b)).mono ?_
    rintro e w2 ⟨B1, d1, rfl, -, hb2⟩
    have H2 := Lib.hid (H1.out.step hb2)
    clear hb2 x0 x1 x2 H1
    dsimp only [List.length_nil]
    go_wp2_with fail
    refine (HAw.out _).mono ?_
    rintro e wz ⟨rfl, hbz⟩
    have HZ := Lib.hid (H2.out.step hbz)
    clear hbz
    go_wp2_with fail
    go_ret
    exact ⟨rfl, HZ.out.b⟩
  have hv := ttB_vt hT
  have hE : fairestR x = (fairP x, 0) := by unfold fairestR; simp [hT]
  rw [hE] at HF
  rw [hT] at HTt
  have hpl := fair_good hv
  have HO := Lib.hid (fun w h h' => other_any x AH AG ch cg by_ A1 c1 w h hv h' hb8 (by intro e; exact h2 (by rw [e]; rfl)))
  have HMost := Lib.hid (fun l h => fair_most (l := l) hv h)
  have HGd := Lib.hid (fun l' A' c' w h h' h'' => good_any x AH AG ch cg l' A' c' w h hv h' h'')
  have HSo := Lib.hid (fun l A c w h h' hp => sorted_any x AH AG ch cg l A c w h hv h' hp)
  have HCk := Lib.hid (fun l A c w h h' => Check_any x AH AG ch cg l A c w h h')
  have HCm := Lib.hid (fun a b A B c d w h h' h'' => Compare_any x AH AG ch cg a b A B c d w h h' h'')
  have HCG := Lib.hid (fun l h => check_good (x := x) (l := l) hT h)
  have HPG := Lib.hid (fun a b h h' => comp_good (x := x) (a := a) (b := b) hT h h')
  have hng := hv.ng
  have hnh := hv.nh
  obtain ⟨pl, hple⟩ : ∃ pl, pl = fairP x := ⟨_, rfl⟩
  rw [← hple] at HF hpl HMost
  have hplan := good_plan hpl
  have hplen := (plan_ok hplan).1
  have hpl12 : pl.length ≤ 12 := by omega
  have HGl := Lib.hid (fun A' c' w h h' => HGd.out pl A' c' w h h' (by omega))
  rw [hpl] at HGl
  have HPL := Lib.hid (And.intro hpl hplan)
  have HPLen := Lib.hid hplen
  unfold ttv at HF HTt HO HGl HSo HCk HCm
  clear hE hT hv hple hb8 h2 hpl hplan hplen HGd
  rw [h1] at HLg
  go_enter Try.func5, Try.ntmps5
  go_upto_region 1 with fail
  generalize W.alloc (.cells (ttc x AH AG ch cg) 25) = w0 at HB ⊢
  obtain ⟨x0, x1, x2⟩ := HB.out.cells
  go_wp2_with fail
  refine (HLg.out _).mono ?_
  rintro e w1 ⟨rfl, hb1⟩
  have H1 := Lib.hid (HB.out.step hb1)
  clear hb1 x0 x1 x2 HB HLg
  obtain ⟨x0, x1, x2⟩ := H1.out.cells
  go_wp2_with fail
  refine (HF.out _ (HR.out.1.step H1.out.b)).mono ?_
  rintro e w2 ⟨B1, d1, rfl, hr2, hb2⟩
  have H2 := Lib.hid (And.intro (H1.out.step hb2) hr2)
  clear hb2 hr2 x0 x1 x2 H1 HF
  obtain ⟨x0, x1, x2⟩ := H2.out.1.cells
  dsimp only
  go_wp2_with fail
  refine (HTt.out _ (HR.out.1.step H2.out.1.b)).mono ?_
  rintro e w3 ⟨rfl, hb3⟩
  have H3 := Lib.hid (And.intro (H2.out.1.step hb3) (H2.out.2.step hb3))
  clear hb3 x0 x1 x2 H2 HTt
  obtain ⟨x0, x1, x2⟩ := H3.out.1.cells
  go_wp2_with fail
  refine (HGl.out _ _ _ (HR.out.1.step H3.out.1.b) H3.out.2).mono ?_
  rintro e w4 ⟨rfl, hb4⟩
  have H4 := Lib.hid (And.intro (H3.out.1.step hb4) (H3.out.2.step hb4))
  clear hb4 x0 x1 x2 H3 HGl
  obtain ⟨x0, x1, x2⟩ := H4.out.1.cells
  go_wp2_with fail
  refine (HO.out _ (HR.out.1.step H4.out.1.b) (brow_step HR.out.2 H4.out.1.b)).mono ?_
  rintro e w5 ⟨p, hpg, B2, d2, rfl, hr5, hb5⟩
  have H5 := Lib.hid (And.intro (H4.out.1.step hb5) (And.intro (H4.out.2.step hb5) hr5))
  have hpp := good_plan hpg
  have hplen := (plan_ok hpp).1
  have hp12 : p.length ≤ 12 := by omega
  have HPP := Lib.hid (And.intro hpg (And.intro hpp hplen))
  have hck := HCG.out p hpg
  have hcm := HPG.out pl p HPL.out.1 hpg
  have hmost := HMost.out p hpg
  have HC1 := Lib.hid (fun A c w h h' => HCk.out p A c w h h')
  rw [hck] at HC1
  have HC2 := Lib.hid (fun A B c d w h h' h'' => HCm.out pl p A B c d w h h' h'')
  rw [hcm] at HC2
  have HS1 := Lib.hid (fun A c w h h' => HSo.out pl A c w h h' HPL.out.2)
  have HS2 := Lib.hid (fun A c w h h' => HSo.out p A c w h h' hpp)
  obtain ⟨sp, hsp⟩ : ∃ s, s = srt (hasL x pl) := ⟨_, rfl⟩
  obtain ⟨sq, hsq⟩ : ∃ s, s = srt (hasL x p) := ⟨_, rfl⟩
  obtain ⟨hq, hhq⟩ : ∃ h, h = hasL x p := ⟨_, rfl⟩
  have hsl : sp.length ≤ 1000000 ∧ sp.length = sq.length := by rw [hsp, hsq, srt_length, srt_length, hasL_len, hasL_len]; exact ⟨by omega, rfl⟩
  have hql : hq.length ≤ 1000 := by rw [hhq, hasL_len]; omega
  have HSQ := Lib.hid (show srt hq = sq by rw [hsq, hhq])
  rw [← hsp, ← hsq] at HC2 hmost
  rw [← hsp] at HS1
  rw [← hsq] at HS2
  rw [← hhq] at HC1
  obtain ⟨cc, hcc⟩ : ∃ c, c = cmpL sp sq := ⟨_, rfl⟩
  rw [← hcc] at HC2
  have hc0 : ¬ cc < 0 := by
    have h1 := hmost.1
    have h2 := cmpL_anti sp sq
    omega
  have HLX : Hid (cc = 0 → lexLe x pl p) := Lib.hid fun h => hmost.2 ((cmpL_zero sp sq (by rw [← hcc]; exact h)).symm)
  have HCC := Lib.hid (fun A B c d w h h' => compare_any sp sq A B c d w h h' hsl.1 hsl.2)
  rw [← hcc] at HCC
  have HSrt := Lib.hid (fun A c w h => Sorted_any hq A c w h hql)
  rw [HSQ.out] at HSrt
  have HInt := Lib.hid (fun A B c d w h h' => ints_any sq sq A B c d w h h' (by have := hsl.1; have := hsl.2; omega))
  rw [show decide (sq = sq) = true by simp] at HInt
  clear hb5 hr5 x0 x1 x2 H4 HO hpg hpp hplen hck hcm hmost hsp hsq hhq hcc HMost HSo HCk HCm HCG HPG hql hsl HSQ
  go_upto_region 9 with fail
  have H6 := Lib.hid (And.intro (H5.out.1.step (Below.refl w5.heap.size w5).drew) (And.intro (H5.out.2.1.step (Below.refl w5.heap.size w5).drew) (H5.out.2.2.step (Below.refl w5.heap.size w5).drew)))
  have K6 := Lib.hid H6.out.1.cells
  clear H5
  refine wp_region_late (fun w' : World => w'.cell? ⟨W.heap.size, 0, none⟩ = some (.slice AH x.H.length ch) ∧ w'.cell? ⟨W.heap.size, 1, none⟩ = some (.slice AG x.G.length cg) ∧ w'.cell? ⟨W.heap.size, 2, none⟩ = some (.int .i64 x.R)) [] (by kernel_rfl) ?_
  generalize w5.drew = w6 at H6 K6 ⊢
  refine wpLate_take (i := 0) (oi := ?oi0r9_) (v := ?v0r9_) [2, 5, 6, 7] ?hi0r9_ (by kernel_rfl) (by kernel_rfl) (by kernel_rfl) (by kernel_rfl) (by kernel_rfl) ?hQ0r9_ (Or.inl ⟨?hw0r9_, ?hy0r9_⟩) K6.out ?rest0r9_
  case hi0r9_ => (simp only [List.getElem?_toArray, List.getElem?_cons_zero]; rfl)
  case hQ0r9_ => exact fun _ _ _ h => h
  case hw0r9_ => rfl
  case hy0r9_ =>
    intro w' hSw
    obtain ⟨r0, r1, r2⟩ := hSw
    go_simp
    try exact rfl
  try simp only [Act.put, List.setIfInBounds_toArray, List.set_cons_zero, List.set_cons_succ]
  refine wpLate_take (i := 1) (oi := ?oi1r9_) (v := ?v1r9_) [2, 5, 6, 7] ?hi1r9_ (by kernel_rfl) (by kernel_rfl) (by kernel_rfl) (by kernel_rfl) (by kernel_rfl) ?hQ1r9_ (Or.inl ⟨?hw1r9_, ?hy1r9_⟩) K6.out ?rest1r9_
  case hi1r9_ => (simp only [List.getElem?_toArray, List.getElem?_cons_zero, List.getElem?_cons_succ]; rfl)
  case hQ1r9_ => exact fun _ _ _ h => h
  case hw1r9_ => rfl
  case hy1r9_ =>
    intro w' hSw
    obtain ⟨r0, r1, r2⟩ := hSw
    go_simp
    try exact rfl
  try simp only [Act.put, List.setIfInBounds_toArray, List.set_cons_zero, List.set_cons_succ]
  refine wpLate_take (i := 3) (oi := ?oi3r9_) (v := ?v3r9_) [5, 6, 7] ?hi3r9_ (by kernel_rfl) (by kernel_rfl) (by kernel_rfl) (by kernel_rfl) (by kernel_rfl) ?hQ3r9_ (Or.inl ⟨?hw3r9_, ?hy3r9_⟩) K6.out ?rest3r9_
  case hi3r9_ => (simp only [List.getElem?_toArray, List.getElem?_cons_zero, List.getElem?_cons_succ]; rfl)
  case hQ3r9_ => exact fun _ _ _ h => h
  case hw3r9_ => rfl
  case hy3r9_ =>
    intro w' hSw
    obtain ⟨r0, r1, r2⟩ := hSw
    go_simp
    try exact rfl
  try simp only [Act.put, List.setIfInBounds_toArray, List.set_cons_zero, List.set_cons_succ]
  refine wpLate_take (i := 4) (oi := ?oi4r9_) (v := ?v4r9_) [5, 6, 7] ?hi4r9_ (by kernel_rfl) (by kernel_rfl) (by kernel_rfl) (by kernel_rfl) (by kernel_rfl) ?hQ4r9_ (Or.inl ⟨?hw4r9_, ?hy4r9_⟩) K6.out ?rest4r9_
  case hi4r9_ => (simp only [List.getElem?_toArray, List.getElem?_cons_zero, List.getElem?_cons_succ]; rfl)
  case hQ4r9_ => exact fun _ _ _ h => h
  case hw4r9_ => rfl
  case hy4r9_ =>
    intro w' hSw
    obtain ⟨r0, r1, r2⟩ := hSw
    go_simp
    try exact rfl
  try simp only [Act.put, List.setIfInBounds_toArray, List.set_cons_zero, List.set_cons_succ]
  refine wpLate_one (i := 2) (o := ?o2r9_) (by kernel_rfl) ?ho2r9_ ?hk2r9_
  case ho2r9_ => (simp only [List.getElem?_toArray, List.getElem?_cons_zero, List.getElem?_cons_succ]; rfl)
  intro K hK
  go_simp
  refine (HS1.out _ _ _ (HR.out.1.step H6.out.1.b) H6.out.2.1).mono ?_
  rintro e W7 ⟨A7, c7, rfl, hr7, hb7⟩
  have H7 := Lib.hid (And.intro (H6.out.1.step hb7) (And.intro (H6.out.2.1.step hb7) (And.intro (H6.out.2.2.step hb7) hr7)))
  have K7 := Lib.hid H7.out.1.cells
  clear hr7 hb7 H6 K6
  go_simp
  refine hK.out _ _ (fun h => K7.out) ?_
  clear hK K
  try simp only [Act.put, List.setIfInBounds_toArray, List.set_cons_zero, List.set_cons_succ]
  refine wpLate_one (i := 5) (o := ?o5r9_) (by kernel_rfl) ?ho5r9_ ?hk5r9_
  case ho5r9_ => (simp only [List.getElem?_toArray, List.getElem?_cons_zero, List.getElem?_cons_succ]; rfl)
  intro K hK
  go_simp
  refine (HS2.out _ _ _ (HR.out.1.step H7.out.1.b) H7.out.2.2.1).mono ?_
  rintro e W8 ⟨A8, c8, rfl, hr8, hb8⟩
  have H8 := Lib.hid (And.intro (H7.out.1.step hb8) (And.intro (H7.out.2.1.step hb8) (And.intro (H7.out.2.2.1.step hb8) (And.intro (H7.out.2.2.2.step hb8) hr8))))
  have K8 := Lib.hid H8.out.1.cells
  clear hr8 hb8 H7 K7
  go_simp
  refine hK.out _ _ (fun h => K8.out) ?_
  clear hK K
  try simp only [Act.put, List.setIfInBounds_toArray, List.set_cons_zero, List.set_cons_succ]
  refine wpLate_one (i := 6) (o := ?o6r9_) (by kernel_rfl) ?ho6r9_ ?hk6r9_
  case ho6r9_ => (simp only [List.getElem?_toArray, List.getElem?_cons_zero, List.getElem?_cons_succ]; rfl)
  intro K hK
  go_simp
  refine (HCC.out _ _ _ _ _ H8.out.2.2.2.1 H8.out.2.2.2.2).mono ?_
  rintro e W9 ⟨rfl, hb9⟩
  have H9 := Lib.hid (And.intro (H8.out.1.step hb9) (And.intro (H8.out.2.1.step hb9) (H8.out.2.2.1.step hb9)))
  have K9 := Lib.hid H9.out.1.cells
  clear hb9 H8 K8
  go_simp
  refine hK.out _ _ (fun h => K9.out) ?_
  clear hK K
  try simp only [Act.put, List.setIfInBounds_toArray, List.set_cons_zero, List.set_cons_succ]
  refine wpLate_one (i := 7) (o := ?o7r9_) (by kernel_rfl) ?ho7r9_ ?hk7r9_
  case ho7r9_ => (simp only [List.getElem?_toArray, List.getElem?_cons_zero, List.getElem?_cons_succ]; rfl)
  intro K hK
  go_simp
  refine hK.out _ _ (fun h => K9.out) ?_
  clear hK K
  try simp only [Act.put, List.setIfInBounds_toArray, List.set_cons_zero, List.set_cons_succ]
  refine wpLate_done (by kernel_rfl) ?_ _
  try simp only [Act.put, List.setIfInBounds_toArray, List.set_cons_zero, List.set_cons_succ]
  clear K9 HCC HS1
  obtain ⟨x0, x1, x2⟩ := H9.out.1.cells
  go_wp2_with fail
  refine (HC1.out _ _ _ (HR.out.1.step H9.out.1.b) H9.out.2.2).mono ?_
  rintro e w10 ⟨A10, c10, rfl, hr10, hb10, hs10⟩
  have H10 := Lib.hid (And.intro (H9.out.1.step hb10) (And.intro (H9.out.2.1.step hb10) (And.intro (H9.out.2.2.step hb10) hr10)))
  clear hr10 hb10 hs10 x0 x1 x2 H9 HC1
  obtain ⟨x0, x1, x2⟩ := H10.out.1.cells
  dsimp only
  go_wp2_with fail
  refine (HC2.out _ _ _ _ _ (HR.out.1.step H10.out.1.b) H10.out.2.1 H10.out.2.2.1).mono ?_
  rintro e w11 ⟨rfl, hb11⟩
  have H11 := Lib.hid (And.intro (H10.out.1.step hb11) (And.intro (H10.out.2.1.step hb11) (And.intro (H10.out.2.2.1.step hb11) (H10.out.2.2.2.step hb11))))
  clear hb11 x0 x1 x2 H10 HC2
  dsimp only
  go_upto_region 12 with fail
  have H12 := Lib.hid (And.intro (H11.out.1.step (Below.refl w11.heap.size w11).drew) (And.intro (H11.out.2.1.step (Below.refl w11.heap.size w11).drew) (And.intro (H11.out.2.2.1.step (Below.refl w11.heap.size w11).drew) (H11.out.2.2.2.step (Below.refl w11.heap.size w11).drew))))
  have K12 := Lib.hid H12.out.1.cells
  clear H11
  refine wp_region_late (fun w' : World => w'.cell? ⟨W.heap.size, 0, none⟩ = some (.slice AH x.H.length ch) ∧ w'.cell? ⟨W.heap.size, 1, none⟩ = some (.slice AG x.G.length cg) ∧ w'.cell? ⟨W.heap.size, 2, none⟩ = some (.int .i64 x.R)) [] (by kernel_rfl) ?_
  generalize w11.drew = w12 at H12 K12 ⊢
  refine wpLate_take (i := 0) (oi := ?oi0r12_) (v := ?v0r12_) [1, 2, 3, 4, 5, 6, 7, 8, 9, 10, 11, 12, 13, 14, 15, 16, 17, 18, 19, 20, 21, 22, 23, 24, 25, 26, 27, 28, 29] ?hi0r12_ (by kernel_rfl) (by kernel_rfl) (by kernel_rfl) (by kernel_rfl) (by kernel_rfl) ?hQ0r12_ (Or.inl ⟨?hw0r12_, ?hy0r12_⟩) K12.out ?rest0r12_
  case hi0r12_ => (simp only [List.getElem?_toArray, List.getElem?_cons_zero]; rfl)
  case hQ0r12_ => exact fun _ _ _ h => h
  case hw0r12_ => rfl
  case hy0r12_ =>
    intro w' hSw
    obtain ⟨r0, r1, r2⟩ := hSw
    go_simp
    try exact rfl
  try simp only [Act.put, List.setIfInBounds_toArray, List.set_cons_zero, List.set_cons_succ]
  refine wpLate_take (i := 1) (oi := ?oi1r12_) (v := .bool false) [2, 3, 4, 5, 6, 7, 8, 9, 10, 11, 12, 13, 14, 15, 16, 17, 18, 19, 20, 21, 22, 23, 24, 25, 26, 27, 28, 29] ?hi1r12_ (by kernel_rfl) (by kernel_rfl) (by kernel_rfl) (by kernel_rfl) (by kernel_rfl) ?hQ1r12_ (Or.inl ⟨?hw1r12_, ?hy1r12_⟩) K12.out ?rest1r12_
  case hi1r12_ => (simp only [List.getElem?_toArray, List.getElem?_cons_zero, List.getElem?_cons_succ]; rfl)
  case hQ1r12_ => exact fun _ _ _ h => h
  case hw1r12_ => rfl
  case hy1r12_ =>
    intro w' hSw
    obtain ⟨r0, r1, r2⟩ := hSw
    go_simp
    try exact rfl
  try simp only [Act.put, List.setIfInBounds_toArray, List.set_cons_zero, List.set_cons_succ]
  refine wpLate_take (i := 2) (oi := ?oi2r12_) (v := .bool false) [3, 4, 5, 6, 7, 8, 9, 10, 11, 12, 13, 14, 15, 16, 17, 18, 19, 20, 21, 22, 23, 24, 25, 26, 27, 28, 29] ?hi2r12_ (by kernel_rfl) (by kernel_rfl) (by kernel_rfl) (by kernel_rfl) (by kernel_rfl) ?hQ2r12_ (Or.inl ⟨?hw2r12_, ?hy2r12_⟩) K12.out ?rest2r12_
  case hi2r12_ => (simp only [List.getElem?_toArray, List.getElem?_cons_zero, List.getElem?_cons_succ]; rfl)
  case hQ2r12_ => exact fun _ _ _ h => h
  case hw2r12_ => rfl
  case hy2r12_ =>
    intro w' hSw
    obtain ⟨r0, r1, r2⟩ := hSw
    go_simp
    try exact rfl
  try simp only [Act.put, List.setIfInBounds_toArray, List.set_cons_zero, List.set_cons_succ]
  refine wpLate_take (i := 3) (oi := ?oi3r12_) (v := ?v3r12_) [4, 5, 6, 7, 8, 9, 10, 11, 12, 13, 14, 15, 16, 17, 18, 19, 20, 21, 22, 23, 24, 25, 26, 27, 28, 29] ?hi3r12_ (by kernel_rfl) (by kernel_rfl) (by kernel_rfl) (by kernel_rfl) (by kernel_rfl) ?hQ3r12_ (Or.inl ⟨?hw3r12_, ?hy3r12_⟩) K12.out ?rest3r12_
  case hi3r12_ => (simp only [List.getElem?_toArray, List.getElem?_cons_zero, List.getElem?_cons_succ]; rfl)
  case hQ3r12_ => exact fun _ _ _ h => h
  case hw3r12_ => rfl
  case hy3r12_ =>
    intro w' hSw
    obtain ⟨r0, r1, r2⟩ := hSw
    go_simp
    try exact rfl
  try simp only [Act.put, List.setIfInBounds_toArray, List.set_cons_zero, List.set_cons_succ]
  refine wpLate_take (i := 4) (oi := ?oi4r12_) (v := .bool false) [5, 6, 7, 8, 9, 10, 11, 12, 13, 14, 15, 16, 17, 18, 19, 20, 21, 22, 23, 24, 25, 26, 27, 28, 29] ?hi4r12_ (by kernel_rfl) (by kernel_rfl) (by kernel_rfl) (by kernel_rfl) (by kernel_rfl) ?hQ4r12_ (Or.inl ⟨?hw4r12_, ?hy4r12_⟩) K12.out ?rest4r12_
  case hi4r12_ => (simp only [List.getElem?_toArray, List.getElem?_cons_zero, List.getElem?_cons_succ]; rfl)
  case hQ4r12_ => exact fun _ _ _ h => h
  case hw4r12_ => rfl
  case hy4r12_ =>
    intro w' hSw
    obtain ⟨r0, r1, r2⟩ := hSw
    go_simp
    try exact rfl
  try simp only [Act.put, List.setIfInBounds_toArray, List.set_cons_zero, List.set_cons_succ]
  refine wpLate_take (i := 5) (oi := ?oi5r12_) (v := .bool false) [6, 7, 8, 9, 10, 11, 12, 13, 14, 15, 16, 17, 18, 19, 20, 21, 22, 23, 24, 25, 26, 27, 28, 29] ?hi5r12_ (by kernel_rfl) (by kernel_rfl) (by kernel_rfl) (by kernel_rfl) (by kernel_rfl) ?hQ5r12_ (Or.inl ⟨?hw5r12_, ?hy5r12_⟩) K12.out ?rest5r12_
  case hi5r12_ => (simp only [List.getElem?_toArray, List.getElem?_cons_zero, List.getElem?_cons_succ]; rfl)
  case hQ5r12_ => exact fun _ _ _ h => h
  case hw5r12_ => rfl
  case hy5r12_ =>
    intro w' hSw
    obtain ⟨r0, r1, r2⟩ := hSw
    go_simp
    try exact rfl
  try simp only [Act.put, List.setIfInBounds_toArray, List.set_cons_zero, List.set_cons_succ]
  refine wpLate_take (i := 6) (oi := ?oi6r12_) (v := .bool false) [7, 8, 9, 10, 11, 12, 13, 14, 15, 16, 17, 18, 19, 20, 21, 22, 23, 24, 25, 26, 27, 28, 29] ?hi6r12_ (by kernel_rfl) (by kernel_rfl) (by kernel_rfl) (by kernel_rfl) (by kernel_rfl) ?hQ6r12_ (Or.inl ⟨?hw6r12_, ?hy6r12_⟩) K12.out ?rest6r12_
  case hi6r12_ => (simp only [List.getElem?_toArray, List.getElem?_cons_zero, List.getElem?_cons_succ]; rfl)
  case hQ6r12_ => exact fun _ _ _ h => h
  case hw6r12_ => rfl
  case hy6r12_ =>
    intro w' hSw
    obtain ⟨r0, r1, r2⟩ := hSw
    go_simp
    try exact rfl
  try simp only [Act.put, List.setIfInBounds_toArray, List.set_cons_zero, List.set_cons_succ]
  refine wpLate_take (i := 7) (oi := ?oi7r12_) (v := ?v7r12_) [10, 11, 12, 13, 14, 15, 16, 17, 18, 19, 20, 21, 22, 23, 24, 25, 26, 27, 28, 29] ?hi7r12_ (by kernel_rfl) (by kernel_rfl) (by kernel_rfl) (by kernel_rfl) (by kernel_rfl) ?hQ7r12_ (Or.inl ⟨?hw7r12_, ?hy7r12_⟩) K12.out ?rest7r12_
  case hi7r12_ => (simp only [List.getElem?_toArray, List.getElem?_cons_zero, List.getElem?_cons_succ]; rfl)
  case hQ7r12_ => exact fun _ _ _ h => h
  case hw7r12_ => rfl
  case hy7r12_ =>
    intro w' hSw
    obtain ⟨r0, r1, r2⟩ := hSw
    go_simp
    try exact rfl
  try simp only [Act.put, List.setIfInBounds_toArray, List.set_cons_zero, List.set_cons_succ]
  refine wpLate_take (i := 8) (oi := ?oi8r12_) (v := ?v8r12_) [9, 10, 11, 12, 13, 14, 15, 16, 17, 18, 19, 20, 21, 22, 23, 24, 25, 26, 27, 28, 29] ?hi8r12_ (by kernel_rfl) (by kernel_rfl) (by kernel_rfl) (by kernel_rfl) (by kernel_rfl) ?hQ8r12_ (Or.inl ⟨?hw8r12_, ?hy8r12_⟩) K12.out ?rest8r12_
  case hi8r12_ => (simp only [List.getElem?_toArray, List.getElem?_cons_zero, List.getElem?_cons_succ]; rfl)
  case hQ8r12_ => exact fun _ _ _ h => h
  case hw8r12_ => rfl
  case hy8r12_ =>
    intro w' hSw
    obtain ⟨r0, r1, r2⟩ := hSw
    go_simp
    try exact rfl
  try simp only [Act.put, List.setIfInBounds_toArray, List.set_cons_zero, List.set_cons_succ]
  refine wpLate_take (i := 9) (oi := ?oi9r12_) (v := ?v9r12_) [10, 11, 12, 13, 14, 15, 16, 17, 18, 19, 20, 21, 22, 23, 24, 25, 26, 27, 28, 29] ?hi9r12_ (by kernel_rfl) (by kernel_rfl) (by kernel_rfl) (by kernel_rfl) (by kernel_rfl) ?hQ9r12_ (Or.inl ⟨?hw9r12_, ?hy9r12_⟩) K12.out ?rest9r12_
  case hi9r12_ => (simp only [List.getElem?_toArray, List.getElem?_cons_zero, List.getElem?_cons_succ]; rfl)
  case hQ9r12_ => exact fun _ _ _ h => h
  case hw9r12_ => rfl
  case hy9r12_ =>
    intro w' hSw
    obtain ⟨r0, r1, r2⟩ := hSw
    go_simp
    try exact rfl
  try simp only [Act.put, List.setIfInBounds_toArray, List.set_cons_zero, List.set_cons_succ]
  refine wpLate_take (i := 10) (oi := ?oi10r12_) (v := .bool false) [11, 12, 13, 14, 15, 16, 17, 18, 19, 20, 21, 22, 23, 24, 25, 26, 27, 28, 29] ?hi10r12_ (by kernel_rfl) (by kernel_rfl) (by kernel_rfl) (by kernel_rfl) (by kernel_rfl) ?hQ10r12_ (Or.inl ⟨?hw10r12_, ?hy10r12_⟩) K12.out ?rest10r12_
  case hi10r12_ => (simp only [List.getElem?_toArray, List.getElem?_cons_zero, List.getElem?_cons_succ]; rfl)
  case hQ10r12_ => exact fun _ _ _ h => h
  case hw10r12_ => rfl
  case hy10r12_ =>
    intro w' hSw
    obtain ⟨r0, r1, r2⟩ := hSw
    go_simp
    try exact rfl
  try simp only [Act.put, List.setIfInBounds_toArray, List.set_cons_zero, List.set_cons_succ]
  refine wpLate_take (i := 11) (oi := ?oi11r12_) (v := .bool false) [12, 13, 14, 15, 16, 17, 18, 19, 20, 21, 22, 23, 24, 25, 26, 27, 28, 29] ?hi11r12_ (by kernel_rfl) (by kernel_rfl) (by kernel_rfl) (by kernel_rfl) (by kernel_rfl) ?hQ11r12_ (Or.inl ⟨?hw11r12_, ?hy11r12_⟩) K12.out ?rest11r12_
  case hi11r12_ => (simp only [List.getElem?_toArray, List.getElem?_cons_zero, List.getElem?_cons_succ]; rfl)
  case hQ11r12_ => exact fun _ _ _ h => h
  case hw11r12_ => rfl
  case hy11r12_ =>
    intro w' hSw
    obtain ⟨r0, r1, r2⟩ := hSw
    go_simp
    try exact rfl
  try simp only [Act.put, List.setIfInBounds_toArray, List.set_cons_zero, List.set_cons_succ]
  refine wpLate_take (i := 12) (oi := ?oi12r12_) (v := .bool false) [13, 14, 15, 16, 17, 18, 19, 20, 21, 22, 23, 24, 25, 26, 27, 28, 29] ?hi12r12_ (by kernel_rfl) (by kernel_rfl) (by kernel_rfl) (by kernel_rfl) (by kernel_rfl) ?hQ12r12_ (Or.inl ⟨?hw12r12_, ?hy12r12_⟩) K12.out ?rest12r12_
  case hi12r12_ => (simp only [List.getElem?_toArray, List.getElem?_cons_zero, List.getElem?_cons_succ]; rfl)
  case hQ12r12_ => exact fun _ _ _ h => h
  case hw12r12_ => rfl
  case hy12r12_ =>
    intro w' hSw
    obtain ⟨r0, r1, r2⟩ := hSw
    go_simp
    try exact rfl
  try simp only [Act.put, List.setIfInBounds_toArray, List.set_cons_zero, List.set_cons_succ]
  refine wpLate_take (i := 13) (oi := ?oi13r12_) (v := ?v13r12_) [14, 15, 16, 17, 18, 19, 20, 21, 22, 23, 24, 25, 26, 27, 28, 29] ?hi13r12_ (by kernel_rfl) (by kernel_rfl) (by kernel_rfl) (by kernel_rfl) (by kernel_rfl) ?hQ13r12_ (Or.inl ⟨?hw13r12_, ?hy13r12_⟩) K12.out ?rest13r12_
  case hi13r12_ => (simp only [List.getElem?_toArray, List.getElem?_cons_zero, List.getElem?_cons_succ]; rfl)
  case hQ13r12_ => exact fun _ _ _ h => h
  case hw13r12_ => rfl
  case hy13r12_ =>
    intro w' hSw
    obtain ⟨r0, r1, r2⟩ := hSw
    go_simp
    try exact rfl
  try simp only [Act.put, List.setIfInBounds_toArray, List.set_cons_zero, List.set_cons_succ]
  refine wpLate_take (i := 14) (oi := ?oi14r12_) (v := .bool false) [15, 16, 17, 18, 19, 20, 21, 22, 23, 24, 25, 26, 27, 28, 29] ?hi14r12_ (by kernel_rfl) (by kernel_rfl) (by kernel_rfl) (by kernel_rfl) (by kernel_rfl) ?hQ14r12_ (Or.inl ⟨?hw14r12_, ?hy14r12_⟩) K12.out ?rest14r12_
  case hi14r12_ => (simp only [List.getElem?_toArray, List.getElem?_cons_zero, List.getElem?_cons_succ]; rfl)
  case hQ14r12_ => exact fun _ _ _ h => h
  case hw14r12_ => rfl
  case hy14r12_ =>
    intro w' hSw
    obtain ⟨r0, r1, r2⟩ := hSw
    go_simp
    try exact rfl
  try simp only [Act.put, List.setIfInBounds_toArray, List.set_cons_zero, List.set_cons_succ]
  refine wpLate_take (i := 15) (oi := ?oi15r12_) (v := .bool false) [16, 17, 18, 19, 20, 21, 22, 23, 24, 25, 26, 27, 28, 29] ?hi15r12_ (by kernel_rfl) (by kernel_rfl) (by kernel_rfl) (by kernel_rfl) (by kernel_rfl) ?hQ15r12_ (Or.inl ⟨?hw15r12_, ?hy15r12_⟩) K12.out ?rest15r12_
  case hi15r12_ => (simp only [List.getElem?_toArray, List.getElem?_cons_zero, List.getElem?_cons_succ]; rfl)
  case hQ15r12_ => exact fun _ _ _ h => h
  case hw15r12_ => rfl
  case hy15r12_ =>
    intro w' hSw
    obtain ⟨r0, r1, r2⟩ := hSw
    go_simp
    try exact rfl
  try simp only [Act.put, List.setIfInBounds_toArray, List.set_cons_zero, List.set_cons_succ]
  refine wpLate_take (i := 16) (oi := ?oi16r12_) (v := .bool false) [17, 18, 19, 20, 21, 22, 23, 24, 25, 26, 27, 28, 29] ?hi16r12_ (by kernel_rfl) (by kernel_rfl) (by kernel_rfl) (by kernel_rfl) (by kernel_rfl) ?hQ16r12_ (Or.inl ⟨?hw16r12_, ?hy16r12_⟩) K12.out ?rest16r12_
  case hi16r12_ => (simp only [List.getElem?_toArray, List.getElem?_cons_zero, List.getElem?_cons_succ]; rfl)
  case hQ16r12_ => exact fun _ _ _ h => h
  case hw16r12_ => rfl
  case hy16r12_ =>
    intro w' hSw
    obtain ⟨r0, r1, r2⟩ := hSw
    go_simp
    try exact rfl
  try simp only [Act.put, List.setIfInBounds_toArray, List.set_cons_zero, List.set_cons_succ]
  refine wpLate_take (i := 17) (oi := ?oi17r12_) (v := ?v17r12_) [19, 20, 21, 22, 23, 24, 25, 26, 27, 28, 29] ?hi17r12_ (by kernel_rfl) (by kernel_rfl) (by kernel_rfl) (by kernel_rfl) (by kernel_rfl) ?hQ17r12_ (Or.inl ⟨?hw17r12_, ?hy17r12_⟩) K12.out ?rest17r12_
  case hi17r12_ => (simp only [List.getElem?_toArray, List.getElem?_cons_zero, List.getElem?_cons_succ]; rfl)
  case hQ17r12_ => exact fun _ _ _ h => h
  case hw17r12_ => rfl
  case hy17r12_ =>
    intro w' hSw
    obtain ⟨r0, r1, r2⟩ := hSw
    go_simp
    try exact rfl
  try simp only [Act.put, List.setIfInBounds_toArray, List.set_cons_zero, List.set_cons_succ]
  refine wpLate_take (i := 18) (oi := ?oi18r12_) (v := ?v18r12_) [19, 20, 21, 22, 23, 24, 25, 26, 27, 28, 29] ?hi18r12_ (by kernel_rfl) (by kernel_rfl) (by kernel_rfl) (by kernel_rfl) (by kernel_rfl) ?hQ18r12_ (Or.inl ⟨?hw18r12_, ?hy18r12_⟩) K12.out ?rest18r12_
  case hi18r12_ => (simp only [List.getElem?_toArray, List.getElem?_cons_zero, List.getElem?_cons_succ]; rfl)
  case hQ18r12_ => exact fun _ _ _ h => h
  case hw18r12_ => rfl
  case hy18r12_ =>
    intro w' hSw
    obtain ⟨r0, r1, r2⟩ := hSw
    go_simp
    try exact rfl
  try simp only [Act.put, List.setIfInBounds_toArray, List.set_cons_zero, List.set_cons_succ]
  refine wpLate_take (i := 19) (oi := ?oi19r12_) (v := .bool false) [20, 21, 22, 23, 24, 25, 26, 27, 28, 29] ?hi19r12_ (by kernel_rfl) (by kernel_rfl) (by kernel_rfl) (by kernel_rfl) (by kernel_rfl) ?hQ19r12_ (Or.inl ⟨?hw19r12_, ?hy19r12_⟩) K12.out ?rest19r12_
  case hi19r12_ => (simp only [List.getElem?_toArray, List.getElem?_cons_zero, List.getElem?_cons_succ]; rfl)
  case hQ19r12_ => exact fun _ _ _ h => h
  case hw19r12_ => rfl
  case hy19r12_ =>
    intro w' hSw
    obtain ⟨r0, r1, r2⟩ := hSw
    go_simp
    try exact rfl
  try simp only [Act.put, List.setIfInBounds_toArray, List.set_cons_zero, List.set_cons_succ]
  refine wpLate_take (i := 20) (oi := ?oi20r12_) (v := .bool false) [21, 22, 23, 24, 25, 26, 27, 28, 29] ?hi20r12_ (by kernel_rfl) (by kernel_rfl) (by kernel_rfl) (by kernel_rfl) (by kernel_rfl) ?hQ20r12_ (Or.inl ⟨?hw20r12_, ?hy20r12_⟩) K12.out ?rest20r12_
  case hi20r12_ => (simp only [List.getElem?_toArray, List.getElem?_cons_zero, List.getElem?_cons_succ]; rfl)
  case hQ20r12_ => exact fun _ _ _ h => h
  case hw20r12_ => rfl
  case hy20r12_ =>
    intro w' hSw
    obtain ⟨r0, r1, r2⟩ := hSw
    go_simp
    try exact rfl
  try simp only [Act.put, List.setIfInBounds_toArray, List.set_cons_zero, List.set_cons_succ]
  refine wpLate_take (i := 21) (oi := ?oi21r12_) (v := .bool false) [22, 23, 24, 25, 26, 27, 28, 29] ?hi21r12_ (by kernel_rfl) (by kernel_rfl) (by kernel_rfl) (by kernel_rfl) (by kernel_rfl) ?hQ21r12_ (Or.inl ⟨?hw21r12_, ?hy21r12_⟩) K12.out ?rest21r12_
  case hi21r12_ => (simp only [List.getElem?_toArray, List.getElem?_cons_zero, List.getElem?_cons_succ]; rfl)
  case hQ21r12_ => exact fun _ _ _ h => h
  case hw21r12_ => rfl
  case hy21r12_ =>
    intro w' hSw
    obtain ⟨r0, r1, r2⟩ := hSw
    go_simp
    try exact rfl
  try simp only [Act.put, List.setIfInBounds_toArray, List.set_cons_zero, List.set_cons_succ]
  refine wpLate_take (i := 22) (oi := ?oi22r12_) (v := ?v22r12_) [23, 26, 27, 28, 29] ?hi22r12_ (by kernel_rfl) (by kernel_rfl) (by kernel_rfl) (by kernel_rfl) (by kernel_rfl) ?hQ22r12_ (Or.inl ⟨?hw22r12_, ?hy22r12_⟩) K12.out ?rest22r12_
  case hi22r12_ => (simp only [List.getElem?_toArray, List.getElem?_cons_zero, List.getElem?_cons_succ]; rfl)
  case hQ22r12_ => exact fun _ _ _ h => h
  case hw22r12_ => rfl
  case hy22r12_ =>
    intro w' hSw
    obtain ⟨r0, r1, r2⟩ := hSw
    go_simp
    try exact rfl
  try simp only [Act.put, List.setIfInBounds_toArray, List.set_cons_zero, List.set_cons_succ]
  refine wpLate_take (i := 24) (oi := ?oi24r12_) (v := ?v24r12_) [26, 27, 28, 29] ?hi24r12_ (by kernel_rfl) (by kernel_rfl) (by kernel_rfl) (by kernel_rfl) (by kernel_rfl) ?hQ24r12_ (Or.inl ⟨?hw24r12_, ?hy24r12_⟩) K12.out ?rest24r12_
  case hi24r12_ => (simp only [List.getElem?_toArray, List.getElem?_cons_zero, List.getElem?_cons_succ]; rfl)
  case hQ24r12_ => exact fun _ _ _ h => h
  case hw24r12_ => rfl
  case hy24r12_ =>
    intro w' hSw
    obtain ⟨r0, r1, r2⟩ := hSw
    go_simp
    try exact rfl
  try simp only [Act.put, List.setIfInBounds_toArray, List.set_cons_zero, List.set_cons_succ]
  refine wpLate_take (i := 25) (oi := ?oi25r12_) (v := ?v25r12_) [26, 27, 28, 29] ?hi25r12_ (by kernel_rfl) (by kernel_rfl) (by kernel_rfl) (by kernel_rfl) (by kernel_rfl) ?hQ25r12_ (Or.inl ⟨?hw25r12_, ?hy25r12_⟩) K12.out ?rest25r12_
  case hi25r12_ => (simp only [List.getElem?_toArray, List.getElem?_cons_zero, List.getElem?_cons_succ]; rfl)
  case hQ25r12_ => exact fun _ _ _ h => h
  case hw25r12_ => rfl
  case hy25r12_ =>
    intro w' hSw
    obtain ⟨r0, r1, r2⟩ := hSw
    go_simp
    try exact rfl
  try simp only [Act.put, List.setIfInBounds_toArray, List.set_cons_zero, List.set_cons_succ]
  refine wpLate_one (i := 23) (o := ?o23r12_) (by kernel_rfl) ?ho23r12_ ?hk23r12_
  case ho23r12_ => (simp only [List.getElem?_toArray, List.getElem?_cons_zero, List.getElem?_cons_succ]; rfl)
  intro K hK
  go_simp
  refine (HSrt.out _ _ _ H12.out.2.2.2).mono ?_
  rintro e W13 ⟨A13, c13, rfl, hr13, hb13⟩
  have H13 := Lib.hid (And.intro (H12.out.1.step hb13) (And.intro (H12.out.2.1.step hb13) (And.intro (H12.out.2.2.1.step hb13) hr13)))
  have K13 := Lib.hid H13.out.1.cells
  clear hr13 hb13 H12 K12
  go_simp
  refine hK.out _ _ (fun h => K13.out) ?_
  clear hK K
  try simp only [Act.put, List.setIfInBounds_toArray, List.set_cons_zero, List.set_cons_succ]
  refine wpLate_one (i := 26) (o := ?o26r12_) (by kernel_rfl) ?ho26r12_ ?hk26r12_
  case ho26r12_ => (simp only [List.getElem?_toArray, List.getElem?_cons_zero, List.getElem?_cons_succ]; rfl)
  intro K hK
  go_simp
  refine (HS2.out _ _ _ (HR.out.1.step H13.out.1.b) H13.out.2.2.1).mono ?_
  rintro e W14 ⟨A14, c14, rfl, hr14, hb14⟩
  have H14 := Lib.hid (And.intro (H13.out.1.step hb14) (And.intro (H13.out.2.1.step hb14) (And.intro (H13.out.2.2.1.step hb14) (And.intro (H13.out.2.2.2.step hb14) hr14))))
  have K14 := Lib.hid H14.out.1.cells
  clear hr14 hb14 H13 K13
  go_simp
  refine hK.out _ _ (fun h => K14.out) ?_
  clear hK K
  try simp only [Act.put, List.setIfInBounds_toArray, List.set_cons_zero, List.set_cons_succ]
  refine wpLate_one (i := 27) (o := ?o27r12_) (by kernel_rfl) ?ho27r12_ ?hk27r12_
  case ho27r12_ => (simp only [List.getElem?_toArray, List.getElem?_cons_zero, List.getElem?_cons_succ]; rfl)
  intro K hK
  go_simp
  refine (HInt.out _ _ _ _ _ H14.out.2.2.2.1 H14.out.2.2.2.2).mono ?_
  rintro e W15 ⟨rfl, hb15⟩
  have H15 := Lib.hid (And.intro (H14.out.1.step hb15) (And.intro (H14.out.2.1.step hb15) (H14.out.2.2.1.step hb15)))
  have K15 := Lib.hid H15.out.1.cells
  clear hb15 H14 K14
  go_simp
  refine hK.out _ _ (fun h => K15.out) ?_
  clear hK K
  try simp only [Act.put, List.setIfInBounds_toArray, List.set_cons_zero, List.set_cons_succ]
  refine wpLate_take (i := 28) (oi := ?oi28r12_) (v := ?v28r12_) [29] ?hi28r12_ (by kernel_rfl) (by kernel_rfl) (by kernel_rfl) (by kernel_rfl) (by kernel_rfl) ?hQ28r12_ (Or.inl ⟨?hw28r12_, ?hy28r12_⟩) K15.out ?rest28r12_
  case hi28r12_ => (simp only [List.getElem?_toArray, List.getElem?_cons_zero, List.getElem?_cons_succ]; rfl)
  case hQ28r12_ => exact fun _ _ _ h => h
  case hw28r12_ => rfl
  case hy28r12_ =>
    intro w' hSw
    obtain ⟨r0, r1, r2⟩ := hSw
    go_simp
    try exact rfl
  try simp only [Act.put, List.setIfInBounds_toArray, List.set_cons_zero, List.set_cons_succ]
  refine wpLate_one (i := 29) (o := ?o29r12_) (by kernel_rfl) ?ho29r12_ ?hk29r12_
  case ho29r12_ => (simp only [List.getElem?_toArray, List.getElem?_cons_zero, List.getElem?_cons_succ]; rfl)
  intro K hK
  go_simp
  refine hK.out _ _ (fun h => K15.out) ?_
  clear hK K
  try simp only [Act.put, List.setIfInBounds_toArray, List.set_cons_zero, List.set_cons_succ]
  refine wpLate_done (by kernel_rfl) ?_ _
  try simp only [Act.put, List.setIfInBounds_toArray, List.set_cons_zero, List.set_cons_succ]
  clear K15 HInt HSrt HS2
  by_cases hz : cc = 0
  rotate_left
  · have hz' : (cc == 0) = false := by simpa using hz
    clear hz
    go_wp2_with fail
    go_loopg [14] 1 (fun gk iv wr => iv = .int .i64 0 ∧ wr = W15)
    case atStart => exact ⟨rfl, rfl⟩
    case round =>
      obtain ⟨rfl, rfl⟩ := hrel
      by_cases hp0 : (0 : Int) < pl.length
      all_goals
        go_wp2_with fail
        refine (HAw.out _).mono ?_
        rintro e wz ⟨rfl, hbz⟩
        have HZ := Lib.hid (H15.out.1.step hbz)
        clear hbz
        go_wp2_with fail
        go_ret
        exact ⟨rfl, HZ.out.b⟩
  have HLX2 := Lib.hid (HLX.out hz)
  subst hz
  have HLen := Lib.hid (show pl.length = p.length from HPLen.out.trans HPP.out.2.2.symm)
  go_wp2_with fail
  go_loopg [14] pl.length (fun gk iv wr => ∃ k : Nat, k ≤ pl.length ∧ pl.length - k ≤ gk ∧ iv = .int .i64 k ∧ Hid (Below W15.heap.size W15 wr ∧ ∀ j (h1 : j < pl.length) (h2 : j < p.length), j < k → pl[j] = p[j]))
  case atStart => exact ⟨0, Nat.zero_le _, Nat.le_refl _, rfl, Lib.hid ⟨Below.refl _ _, fun j _ _ h => absurd h (by omega)⟩⟩
  case round =>
    obtain ⟨k, hk, hgk, rfl, HW⟩ := hrel
    by_cases hlt : k < pl.length
    rotate_left
    · have hge : ¬ (k : Int) < pl.length := by omega
      go_wp2_with fail
      refine (HAw.out _).mono ?_
      rintro e wz ⟨rfl, hbz⟩
      have HZ := Lib.hid ((H15.out.1.step HW.out.1).step hbz)
      clear hbz
      go_wp2_with fail
      go_ret
      exact ⟨rfl, HZ.out.b⟩
    have hlt2 : (k : Int) < pl.length := by omega
    have hltp : k < p.length := by have := HLen.out; omega
    have hltp2 : (k : Int) < p.length := by omega
    obtain ⟨g, o, hg, hgs, hc⟩ := H15.out.2.1 k hlt
    obtain ⟨g', o', hg', hgs', hc'⟩ := H15.out.2.2 k hltp
    obtain ⟨v, hv⟩ : ∃ v, v = pl[k] := ⟨_, rfl⟩
    obtain ⟨u, hu⟩ : ∃ u, u = p[k] := ⟨_, rfl⟩
    rw [← hv] at hc
    rw [← hu] at hc'
    have HVU := Lib.hid (And.intro hv hu)
    have CA : Hid (∀ w, Below W15.heap.size W15 w → w.cell? ⟨g, o + k, none⟩ = some (.int .i64 v)) := Lib.hid fun w hb => (hb.cell (p := ⟨g, _, none⟩) hgs).trans hc
    have CB' : Hid (∀ w, Below W15.heap.size W15 w → w.cell? ⟨g', o' + k, none⟩ = some (.int .i64 u)) := Lib.hid fun w hb => (hb.cell (p := ⟨g', _, none⟩) hgs').trans hc'
    subst hg hg'
    clear hv hu hc hc' hgs hgs'
    have hx1 : ∀ pc : Cls (fun w' => Below W15.heap.size W15 w'), pc.w.cell? ⟨g, o + k, none⟩ = some (.int .i64 v) := fun pc => CA.out _ pc.h
    have hx2 : ∀ pc : Cls (fun w' => Below W15.heap.size W15 w'), pc.w.cell? ⟨g', o' + k, none⟩ = some (.int .i64 u) := fun pc => CB'.out _ pc.h
    have HWc := Lib.hid (fun (w : World) (h : Below W15.heap.size W15 w) => (HAw.out w).mono (fun e w' (h' : BoolPost true w e w') => (show e = .returned (.bool true) ∧ Below W15.heap.size W15 w' from ⟨h'.1, h.trans (h'.2.mono h.size)⟩)))
    go_upto_region 17 with fail
    haveI hne : Nonempty (Cls (fun w' => Below W15.heap.size W15 w')) := ⟨⟨_, HW.out.1.drew⟩⟩
    by_cases hvu : v = u
    · have HN : Hid (∀ j (h1 : j < pl.length) (h2 : j < p.length), j < k + 1 → pl[j] = p[j]) := Lib.hid fun j h1 h2 hjk => by
        rcases Nat.lt_or_ge j k with h | h
        · exact HW.out.2 j h1 h2 h
        · have : j = k := by omega
          subst this
          rw [← HVU.out.1, ← HVU.out.2]; exact hvu
      have hvu' : (v == u) = true := by simpa using hvu
      clear hvu
      refine wp_region_cls (fun w' => Below W15.heap.size W15 w') hmix (by kernel_rfl) HW.out.1.drew ?_
      repeat (quiet_step (fail))
      refine wpQuiet_nil ?_
      rintro w7 ⟨⟨_, hw7⟩, rfl⟩
      have H7 := Lib.hid hw7
      clear hw7 hx1 hx2 hne
      try simp only []
      go_wp2_with fail
      go_roundg (pl.length - (k + 1))
      case measure => omega
      case rel => exact ⟨k + 1, by omega, Nat.le_refl _, by go_num, Lib.hid ⟨H7.out, HN.out⟩⟩
    have hah := lex_ahead HPL.out.2 HPP.out.2.1 HLX2.out hlt hltp HW.out.2 (by rw [← HVU.out.1, ← HVU.out.2]; exact hvu)
    rw [← HVU.out.1, ← HVU.out.2] at hah
    have hvu' : (v == u) = false := by simpa using hvu
    clear hvu
    refine wp_region_cls (fun w' => Below W15.heap.size W15 w') hmix (by kernel_rfl) HW.out.1.drew ?_
    repeat (quiet_step (fail))
    refine wpQuiet_nil ?_
    rintro w7 ⟨⟨_, hw7⟩, rfl⟩
    have H7 := Lib.hid hw7
    clear hw7
    try simp only []
    go_upto_region 18 with fail
    have hcl := HWc.out
    have h3 : u < 0 ∨ (¬ u < 0 ∧ 0 ≤ v ∧ v < u) := by omega
    clear hah
    rcases h3 with h3 | ⟨h3, h4, h5⟩
    all_goals
      refine wp_region_cls (fun w' => Below W15.heap.size W15 w') hmix (by kernel_rfl) H7.out.drew ?_
      repeat (quiet_step (exact cls_call hcl _))
      refine wpQuiet_nil ?_
      rintro w8 ⟨⟨_, hw8⟩, rfl⟩
      have H8 := Lib.hid hw8
      clear hw8 hx1 hx2 hne
      try simp only []
      go_wp2_with fail
      go_ret
      exact ⟨rfl, (H15.out.1.step H8.out).b⟩
end Go.Proofs.Ytipejhfgfciabaa
