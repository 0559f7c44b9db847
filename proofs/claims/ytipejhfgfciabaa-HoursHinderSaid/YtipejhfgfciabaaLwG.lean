/- The law of good plans. -/
import Derived.Test.YtipejhfgfciabaaLiF
import Derived.Test.YtipejhfgfciabaaLiG
namespace Go.Proofs.Ytipejhfgfciabaa
open Go.RowKit Go.Shelf
theorem cut26_hi (A : Option Addr) (n cap k : Nat) (hk : k ≤ cap) (w : World) :
    (Instr.sliceAt 26 (.slice A n cap) none (some (.int .i64 k)) none).run Try.prog w = .ok (.slice A k cap) w := by
  have h0 : (0 : Int) ≤ k := by omega
  have h1 : (k : Int) ≤ cap := by omega
  simp [go_sem, h0, h1, Try.underlying26, sliced, Result.andThen]
theorem IRow.take {w : World} {B : Nat} {A : Option Addr} {l : List Int} (h : IRow w B A l) (n : Nat) : IRow w B A (l.take n) := fun k hk => by
  have hk' : k < l.length := by rw [List.length_take] at hk; omega
  obtain ⟨g, o, rfl, hg, c⟩ := h k hk'
  exact ⟨g, o, rfl, hg, by rw [List.getElem_take]; exact c⟩
/-- the cells of the law's timetable -/
def VX (W w : World) (x : Tt) (AH AG : Option Addr) (ch cg : Nat) : Prop := w.cell? ⟨W.heap.size, 0, none⟩ = some (.slice AH x.H.length ch) ∧ w.cell? ⟨W.heap.size, 1, none⟩ = some (.slice AG x.G.length cg) ∧ w.cell? ⟨W.heap.size, 2, none⟩ = some (.int .i64 x.R)
theorem VB.cells {W w : World} {x : Tt} {AH AG : Option Addr} {ch cg : Nat} (h : VB W w x AH AG ch cg) : w.cell? ⟨W.heap.size, 0, none⟩ = some (.slice AH x.H.length ch) ∧ w.cell? ⟨W.heap.size, 1, none⟩ = some (.slice AG x.G.length cg) ∧ w.cell? ⟨W.heap.size, 2, none⟩ = some (.int .i64 x.R) := ⟨h.fx.cell 0, h.fx.cell 1, h.fx.cell 2⟩
set_option maxRecDepth 100000 in
set_option maxHeartbeats 4000000 in
theorem goodLaw_any (x : Tt) (AH AG : Option Addr) (ch cg : Nat) (l : List Int) (A : Option Addr) (c : Nat) (W : World) (hr : TR W W.heap.size x AH AG) (ha : IRow W W.heap.size A l) (hlc : l.length ≤ c) :
    Calls Try.prog 6 #[ttv x AH AG ch cg, .slice A l.length c] W (BoolPost true W) := by
  have HB : Hid (VB W (W.alloc (.cells (ttc x AH AG ch cg) 25)) x AH AG ch cg) := ⟨below_one W _, Has.new W 25 _⟩
  have HR := Lib.hid (And.intro hr ha)
  have HLg := Lib.hid (fun w => large_any x AH AG ch cg w)
  have HAw := Lib.hid (fun w => awake_any w)
  clear hr ha
  have hex : largeB x = true ∨ (largeB x = false ∧ 16 < l.length) ∨ (largeB x = false ∧ l.length ≤ 16) := by
    cases largeB x with
    | true => exact .inl rfl
    | false => exact .inr (by rcases Nat.lt_or_ge 16 l.length with h | h <;> simp [h])
  unfold ttv at *
  rcases hex with h1 | ⟨h1, h2⟩ | ⟨h1, h2⟩
  · rw [h1] at HLg
    clear h1
    go_enter Try.func6, Try.ntmps6
    go_upto_region 1 with fail
    generalize W.alloc (.cells (ttc x AH AG ch cg) 25) = w0 at HB ⊢
    obtain ⟨x0, x1, x2⟩ := HB.out.cells
    go_wp2_with fail
    refine (HLg.out _).mono ?_
    rintro e w1 ⟨rfl, hb1⟩
    have H1 := Lib.hid (HB.out.step hb1)
    clear hb1 x0 x1 x2 HB HLg
    go_wp2_with fail
    refine (HAw.out _).mono ?_
    rintro e wz ⟨rfl, hbz⟩
    have HZ := Lib.hid (H1.out.step hbz)
    clear hbz
    go_wp2_with fail
    go_ret
    exact ⟨rfl, HZ.out.b⟩
  · have h2' : (16 : Int) < l.length := by omega
    rw [h1] at HLg
    clear h1
    go_enter Try.func6, Try.ntmps6
    go_upto_region 1 with fail
    generalize W.alloc (.cells (ttc x AH AG ch cg) 25) = w0 at HB ⊢
    obtain ⟨x0, x1, x2⟩ := HB.out.cells
    go_wp2_with fail
    refine (HLg.out _).mono ?_
    rintro e w1 ⟨rfl, hb1⟩
    have H1 := Lib.hid (HB.out.step hb1)
    clear hb1 x0 x1 x2 HB HLg
    go_wp2_with fail
    refine (HAw.out _).mono ?_
    rintro e wz ⟨rfl, hbz⟩
    have HZ := Lib.hid (H1.out.step hbz)
    clear hbz
    go_wp2_with fail
    go_ret
    exact ⟨rfl, HZ.out.b⟩
  have h2' : ¬ (16 : Int) < l.length := by omega
  have hlg : x.G.length ≤ 8 ∧ x.H.length ≤ 14 := by unfold largeB at h1; simp at h1; omega
  have HCk := Lib.hid (fun w h h' => Check_any x AH AG ch cg l A c w h h')
  have HTt := Lib.hid (fun w h => Timetable_any x AH AG ch cg w h (by omega) (by omega))
  have HPl := Lib.hid (fun w h' => Plan_any x AH AG ch cg l A c w (by omega) h' (by omega))
  cases hT : ttB x
  · have hE : checkR x l = ([], 0, 1) := by unfold checkR; simp [hT]
    rw [hE] at HCk
    unfold ttv at HCk
    clear hE hT HTt HPl
    rw [h1] at HLg
    clear h1
    go_enter Try.func6, Try.ntmps6
    go_upto_region 1 with fail
    generalize W.alloc (.cells (ttc x AH AG ch cg) 25) = w0 at HB ⊢
    obtain ⟨x0, x1, x2⟩ := HB.out.cells
    go_wp2_with fail
    refine (HLg.out _).mono ?_
    rintro e w1 ⟨rfl, hb1⟩
    have H1 := Lib.hid (HB.out.step hb1)
    clear hb1 x0 x1 x2 HB HLg
    obtain ⟨x0, x1, x2⟩ := H1.out.cells
    go_wp2_with fail
    refine (HCk.out _ (HR.out.1.step H1.out.b) (HR.out.2.step H1.out.b)).mono ?_
    rintro e w2 ⟨A1, c1, rfl, -, hb2, -⟩
    have H2 := Lib.hid (H1.out.step hb2)
    clear hb2 x0 x1 x2 H1 HCk
    dsimp only [List.length_nil]
    go_wp2_with fail
    refine (HAw.out _).mono ?_
    rintro e wz ⟨rfl, hbz⟩
    have HZ := Lib.hid (H2.out.step hbz)
    clear hbz
    go_wp2_with fail
    go_ret
    exact ⟨rfl, HZ.out.b⟩
  have hv := ttB_vt hT
  rw [hT] at HTt
  cases hP : planB x l
  · have hE : checkR x l = ([], 0, 2) := by unfold checkR; simp [hT, hP]
    rw [hE] at HCk
    unfold ttv at HCk
    clear hE hT hP hv HTt HPl
    rw [h1] at HLg
    clear h1
    go_enter Try.func6, Try.ntmps6
    go_upto_region 1 with fail
    generalize W.alloc (.cells (ttc x AH AG ch cg) 25) = w0 at HB ⊢
    obtain ⟨x0, x1, x2⟩ := HB.out.cells
    go_wp2_with fail
    refine (HLg.out _).mono ?_
    rintro e w1 ⟨rfl, hb1⟩
    have H1 := Lib.hid (HB.out.step hb1)
    clear hb1 x0 x1 x2 HB HLg
    obtain ⟨x0, x1, x2⟩ := H1.out.cells
    go_wp2_with fail
    refine (HCk.out _ (HR.out.1.step H1.out.b) (HR.out.2.step H1.out.b)).mono ?_
    rintro e w2 ⟨A1, c1, rfl, -, hb2, -⟩
    have H2 := Lib.hid (H1.out.step hb2)
    clear hb2 x0 x1 x2 H1 HCk
    dsimp only [List.length_nil]
    go_wp2_with fail
    refine (HAw.out _).mono ?_
    rintro e wz ⟨rfl, hbz⟩
    have HZ := Lib.hid (H2.out.step hbz)
    clear hbz
    go_wp2_with fail
    go_ret
    exact ⟨rfl, HZ.out.b⟩
  rw [hP] at HPl
  have hC := chk_good hv hP l.length 0 (by omega)
  rw [place_zero, List.drop_zero] at hC
  have HGd := Lib.hid (fun l' A' c' w h h' h'' => good_any x AH AG ch cg l' A' c' w h hv h' h'')
  have HGP := Lib.hid (goodP_of hP)
  have HPG := Lib.hid (fun n hn h h2 => pad_good (n := n) hP hn h h2)
  rcases hC with ⟨hC1, hC2⟩ | ⟨e, n, hC2, he0, he1, he2, -, hnl, hC3, hC4⟩
  · have hE : checkR x l = (ownedL x (placeOf x l l.length), l.length, 0) := by unfold checkR; simp [hT, hP, hC2]
    have hG : goodP x l = true := HGP.out.2 (fun i hi => hC1 i (Nat.zero_le _) hi)
    have HGl := Lib.hid (fun w h h' => HGd.out l A c w h h' (by omega))
    rw [hG] at HGl
    rw [hE] at HCk
    obtain ⟨ol, hol⟩ : ∃ ol, ol = ownedL x (placeOf x l l.length) := ⟨_, rfl⟩
    have hol2 : ol.length = x.G.length := by rw [hol, owned_length]
    rw [← hol] at HCk
    unfold ttv at HCk HTt HPl HGl
    clear hE hT hP hv hG hC1 hC2 HGP HPG HGd hol
    rw [h1] at HLg
    clear h1
    go_enter Try.func6, Try.ntmps6
    go_upto_region 1 with fail
    generalize W.alloc (.cells (ttc x AH AG ch cg) 25) = w0 at HB ⊢
    obtain ⟨x0, x1, x2⟩ := HB.out.cells
    go_wp2_with fail
    refine (HLg.out _).mono ?_
    rintro e w1 ⟨rfl, hb1⟩
    have H1 := Lib.hid (HB.out.step hb1)
    clear hb1 x0 x1 x2 HB HLg
    obtain ⟨x0, x1, x2⟩ := H1.out.cells
    go_wp2_with fail
    refine (HCk.out _ (HR.out.1.step H1.out.b) (HR.out.2.step H1.out.b)).mono ?_
    rintro e w2 ⟨A1, c1, rfl, -, hb2, -⟩
    have H2 := Lib.hid (H1.out.step hb2)
    clear hb2 x0 x1 x2 H1 HCk
    obtain ⟨x0, x1, x2⟩ := H2.out.cells
    dsimp only
    go_wp2_with fail
    refine (HTt.out _ (HR.out.1.step H2.out.b)).mono ?_
    rintro e w3 ⟨rfl, hb3⟩
    have H3 := Lib.hid (H2.out.step hb3)
    clear hb3 x0 x1 x2 H2 HTt
    obtain ⟨x0, x1, x2⟩ := H3.out.cells
    go_wp2_with fail
    refine (HPl.out _ (HR.out.2.step H3.out.b)).mono ?_
    rintro e w4 ⟨rfl, hb4⟩
    have H4 := Lib.hid (H3.out.step hb4)
    clear hb4 x0 x1 x2 H3 HPl
    obtain ⟨x0, x1, x2⟩ := H4.out.cells
    go_wp2_with fail
    refine (HGl.out _ (HR.out.1.step H4.out.b) (HR.out.2.step H4.out.b)).mono ?_
    rintro e w5 ⟨rfl, hb5⟩
    have H5 := Lib.hid (H4.out.step hb5)
    clear hb5 x0 x1 x2 H4 HGl
    obtain ⟨x0, x1, x2⟩ := H5.out.cells
    have hol3 : ((ol.length : Int) == (x.G.length : Int)) = true := by simp; omega
    go_wp2_with fail
    refine (HAw.out _).mono ?_
    rintro e wz ⟨rfl, hbz⟩
    have HZ := Lib.hid (H5.out.step hbz)
    clear hbz
    go_wp2_with fail
    go_ret
    exact ⟨rfl, HZ.out.b⟩
  have hE : checkR x l = ([], n, e) := by unfold checkR; simp [hT, hP, hC2, he0]
  have hG : goodP x l = false := by
    cases hg : goodP x l with
    | false => rfl
    | true => have := HGP.out.1 hg n hnl; rw [hC4] at this; cases this
  have HGl := Lib.hid (fun w h h' => HGd.out l A c w h h' (by omega))
  rw [hG] at HGl
  obtain ⟨hg1, hg2⟩ := HPG.out n hnl (fun i hi => hC3 i (Nat.zero_le _) hi) hC4
  have hpl1 : (padP (l.take n) l.length).length = l.length := pad_len (by omega)
  have hpl2 : (padP (l.take (n + 1)) l.length).length = l.length := pad_len (by omega)
  have HP1 : Hid (∀ w, IRow w w.heap.size A l → Calls Try.prog 29 #[.slice A n c, .int .i64 l.length] w (NewRow (padP (l.take n) l.length) w)) := Lib.hid fun w h => by
    have := padded_any (l.take n) A c l.length w (h.take n) (by simp; omega) (by omega)
    rw [List.length_take, Nat.min_eq_left (by omega)] at this
    exact this
  have HP2 : Hid (∀ w, IRow w w.heap.size A l → Calls Try.prog 29 #[.slice A (n + 1) c, .int .i64 l.length] w (NewRow (padP (l.take (n + 1)) l.length) w)) := Lib.hid fun w h => by
    have := padded_any (l.take (n + 1)) A c l.length w (h.take (n + 1)) (by simp; omega) (by omega)
    rw [List.length_take, Nat.min_eq_left (by omega)] at this
    exact this
  obtain ⟨m1, hm1⟩ : ∃ m, m = padP (l.take n) l.length := ⟨_, rfl⟩
  obtain ⟨m2, hm2⟩ : ∃ m, m = padP (l.take (n + 1)) l.length := ⟨_, rfl⟩
  rw [← hm1] at HP1 hg1 hpl1
  rw [← hm2] at HP2 hg2 hpl2
  have HG1 := Lib.hid (fun A' c' w h h' => HGd.out m1 A' c' w h h' (by omega))
  have HG2 := Lib.hid (fun A' c' w h h' => HGd.out m2 A' c' w h h' (by omega))
  rw [hg1] at HG1
  rw [hg2] at HG2
  rw [hE] at HCk
  have hcut1 : ∀ w, (Instr.sliceAt 26 (.slice A l.length c) none (some (.int .i64 n)) none).run Try.prog w = .ok (.slice A n c) w := fun w => cut26_hi A _ _ n (by omega) w
  have hcut2 : ∀ w, (Instr.sliceAt 26 (.slice A l.length c) none (some (.int .i64 ((n : Int) + 1))) none).run Try.prog w = .ok (.slice A (n + 1) c) w := fun w => cut26_hi A _ _ (n + 1) (by omega) w
  have e1 : IntKind.i64.wrap ((n : Int) + 1) = (n : Int) + 1 := IntWalk.i64_in _ (by omega)
  unfold ttv at HCk HTt HPl HGl HG1 HG2
  have he0' : (e == 0) = false := by simpa using he0
  have he1' : (e == 1) = false := by simpa using he1
  have he2' : (e == 2) = false := by simpa using he2
  have hn0 : ¬ (n : Int) < 0 := by omega
  have hn1 : ¬ (l.length : Int) ≤ n := by omega
  clear hE hT hP hv hG hC2 hC3 hC4 HGP HPG HGd hm1 hm2 hg1 hg2 hpl1 hpl2 he0 he1 he2
  rw [h1] at HLg
  clear h1
  go_enter Try.func6, Try.ntmps6
  go_upto_region 1 with fail
  generalize W.alloc (.cells (ttc x AH AG ch cg) 25) = w0 at HB ⊢
  obtain ⟨x0, x1, x2⟩ := HB.out.cells
  go_wp2_with fail
  refine (HLg.out _).mono ?_
  rintro e w1 ⟨rfl, hb1⟩
  have H1 := Lib.hid (HB.out.step hb1)
  clear hb1 x0 x1 x2 HB HLg
  obtain ⟨x0, x1, x2⟩ := H1.out.cells
  go_wp2_with fail
  refine (HCk.out _ (HR.out.1.step H1.out.b) (HR.out.2.step H1.out.b)).mono ?_
  rintro e w2 ⟨A1, c1, rfl, -, hb2, -⟩
  have H2 := Lib.hid (H1.out.step hb2)
  clear hb2 x0 x1 x2 H1 HCk
  obtain ⟨x0, x1, x2⟩ := H2.out.cells
  dsimp only
  go_wp2_with fail
  refine (HTt.out _ (HR.out.1.step H2.out.b)).mono ?_
  rintro e w3 ⟨rfl, hb3⟩
  have H3 := Lib.hid (H2.out.step hb3)
  clear hb3 x0 x1 x2 H2 HTt
  obtain ⟨x0, x1, x2⟩ := H3.out.cells
  go_wp2_with fail
  refine (HPl.out _ (HR.out.2.step H3.out.b)).mono ?_
  rintro e w4 ⟨rfl, hb4⟩
  have H4 := Lib.hid (H3.out.step hb4)
  clear hb4 x0 x1 x2 H3 HPl
  obtain ⟨x0, x1, x2⟩ := H4.out.cells
  go_wp2_with fail
  refine (HGl.out _ (HR.out.1.step H4.out.b) (HR.out.2.step H4.out.b)).mono ?_
  rintro e w5 ⟨rfl, hb5⟩
  have H5 := Lib.hid (H4.out.step hb5)
  clear hb5 x0 x1 x2 H4 HGl
  obtain ⟨x0, x1, x2⟩ := H5.out.cells
  dsimp only [List.length_nil]
  go_upto_region 12 with fail
  clear x0 x1 x2
  have H6 := Lib.hid (H5.out.step (Below.refl w5.heap.size w5).drew)
  have K6 := Lib.hid H6.out.cells
  clear H5
  refine wp_region_late (fun w' : World => w'.cell? ⟨W.heap.size, 0, none⟩ = some (.slice AH x.H.length ch) ∧ w'.cell? ⟨W.heap.size, 1, none⟩ = some (.slice AG x.G.length cg) ∧ w'.cell? ⟨W.heap.size, 2, none⟩ = some (.int .i64 x.R)) [] (by kernel_rfl) ?_
  generalize w5.drew = w6 at H6 K6 ⊢
  refine wpLate_take (i := 0) (oi := ?oi0r12_) (v := ?v0r12_) [7, 8, 9, 10, 11, 12, 13, 14, 15, 16, 17, 18, 19, 20, 21, 22, 23] ?hi0r12_ (by kernel_rfl) (by kernel_rfl) (by kernel_rfl) (by kernel_rfl) (by kernel_rfl) ?hQ0r12_ (Or.inl ⟨?hw0r12_, ?hy0r12_⟩) K6.out ?rest0r12_
  case hi0r12_ => (simp only [List.getElem?_toArray, List.getElem?_cons_zero]; rfl)
  case hQ0r12_ => exact fun _ _ _ h => h
  case hw0r12_ => rfl
  case hy0r12_ =>
    intro w' hSw
    obtain ⟨r0, r1, r2⟩ := hSw
    go_simp
    try exact rfl
  try simp only [Act.put, List.setIfInBounds_toArray, List.set_cons_zero, List.set_cons_succ]
  refine wpLate_take (i := 1) (oi := ?oi1r12_) (v := ?v1r12_) [3, 6, 7, 8, 9, 10, 11, 12, 13, 14, 15, 16, 17, 18, 19, 20, 21, 22, 23] ?hi1r12_ (by kernel_rfl) (by kernel_rfl) (by kernel_rfl) (by kernel_rfl) (by kernel_rfl) ?hQ1r12_ (Or.inl ⟨?hw1r12_, ?hy1r12_⟩) K6.out ?rest1r12_
  case hi1r12_ => (simp only [List.getElem?_toArray, List.getElem?_cons_zero, List.getElem?_cons_succ]; rfl)
  case hQ1r12_ => exact fun _ _ _ h => h
  case hw1r12_ => rfl
  case hy1r12_ =>
    intro w' hSw
    obtain ⟨r0, r1, r2⟩ := hSw
    go_simp
    try exact rfl
  try simp only [Act.put, List.setIfInBounds_toArray, List.set_cons_zero, List.set_cons_succ]
  refine wpLate_take (i := 2) (oi := ?oi2r12_) (v := ?v2r12_) [3, 6, 7, 8, 9, 10, 11, 12, 13, 14, 15, 16, 17, 18, 19, 20, 21, 22, 23] ?hi2r12_ (by kernel_rfl) (by kernel_rfl) (by kernel_rfl) (by kernel_rfl) (by kernel_rfl) ?hQ2r12_ (Or.inl ⟨?hw2r12_, ?hy2r12_⟩) K6.out ?rest2r12_
  case hi2r12_ => (simp only [List.getElem?_toArray, List.getElem?_cons_zero, List.getElem?_cons_succ]; rfl)
  case hQ2r12_ => exact fun _ _ _ h => h
  case hw2r12_ => rfl
  case hy2r12_ =>
    intro w' hSw
    obtain ⟨r0, r1, r2⟩ := hSw
    go_simp
    try exact rfl
  try simp only [Act.put, List.setIfInBounds_toArray, List.set_cons_zero, List.set_cons_succ]
  refine wpLate_take (i := 3) (oi := ?oi3r12_) (v := ?v3r12_) [6, 7, 8, 9, 10, 11, 12, 13, 14, 15, 16, 17, 18, 19, 20, 21, 22, 23] ?hi3r12_ (by kernel_rfl) (by kernel_rfl) (by kernel_rfl) (by kernel_rfl) (by kernel_rfl) ?hQ3r12_ (Or.inl ⟨?hw3r12_, ?hy3r12_⟩) K6.out ?rest3r12_
  case hi3r12_ => (simp only [List.getElem?_toArray, List.getElem?_cons_zero, List.getElem?_cons_succ]; rfl)
  case hQ3r12_ => exact fun _ _ _ h => h
  case hw3r12_ => rfl
  case hy3r12_ =>
    intro w' hSw
    obtain ⟨r0, r1, r2⟩ := hSw
    go_simp
    try exact rfl
  try simp only [Act.put, List.setIfInBounds_toArray, List.set_cons_zero, List.set_cons_succ]
  refine wpLate_take (i := 4) (oi := ?oi4r12_) (v := ?v4r12_) [5, 6, 7, 8, 9, 10, 11, 12, 13, 14, 15, 16, 17, 18, 19, 20, 21, 22, 23] ?hi4r12_ (by kernel_rfl) (by kernel_rfl) (by kernel_rfl) (by kernel_rfl) (by kernel_rfl) ?hQ4r12_ (Or.inl ⟨?hw4r12_, ?hy4r12_⟩) K6.out ?rest4r12_
  case hi4r12_ => (simp only [List.getElem?_toArray, List.getElem?_cons_zero, List.getElem?_cons_succ]; rfl)
  case hQ4r12_ => exact fun _ _ _ h => h
  case hw4r12_ => rfl
  case hy4r12_ =>
    intro w' hSw
    obtain ⟨r0, r1, r2⟩ := hSw
    go_simp
    try exact rfl
  try simp only [Act.put, List.setIfInBounds_toArray, List.set_cons_zero, List.set_cons_succ]
  refine wpLate_take (i := 5) (oi := ?oi5r12_) (v := ?v5r12_) [6, 7, 8, 9, 10, 11, 12, 13, 14, 15, 16, 17, 18, 19, 20, 21, 22, 23] ?hi5r12_ (by kernel_rfl) (by kernel_rfl) (by kernel_rfl) (by kernel_rfl) (by kernel_rfl) ?hQ5r12_ (Or.inl ⟨?hw5r12_, ?hy5r12_⟩) K6.out ?rest5r12_
  case hi5r12_ => (simp only [List.getElem?_toArray, List.getElem?_cons_zero, List.getElem?_cons_succ]; rfl)
  case hQ5r12_ => exact fun _ _ _ h => h
  case hw5r12_ => rfl
  case hy5r12_ =>
    intro w' hSw
    obtain ⟨r0, r1, r2⟩ := hSw
    go_simp
    try exact rfl
  try simp only [Act.put, List.setIfInBounds_toArray, List.set_cons_zero, List.set_cons_succ]
  refine wpLate_one (i := 6) (o := ?o6r12_) (by kernel_rfl) ?ho6r12_ ?hk6r12_
  case ho6r12_ => (simp only [List.getElem?_toArray, List.getElem?_cons_zero, List.getElem?_cons_succ]; rfl)
  intro K hK
  go_simp
  refine (HP1.out _ (HR.out.2.step H6.out.b)).mono ?_
  rintro e W7 ⟨A7, c7, rfl, hr7, hb7⟩
  have H7 := Lib.hid (And.intro (H6.out.step hb7) hr7)
  have K7 := Lib.hid H7.out.1.cells
  clear hr7 hb7
  go_simp
  refine hK.out _ _ (fun h => K7.out) ?_
  clear hK K
  try simp only [Act.put, List.setIfInBounds_toArray, List.set_cons_zero, List.set_cons_succ]
  refine wpLate_one (i := 7) (o := ?o7r12_) (by kernel_rfl) ?ho7r12_ ?hk7r12_
  case ho7r12_ => (simp only [List.getElem?_toArray, List.getElem?_cons_zero, List.getElem?_cons_succ]; rfl)
  intro K hK
  go_simp
  refine (HG1.out _ _ _ (HR.out.1.step H7.out.1.b) H7.out.2).mono ?_
  rintro e W8 ⟨rfl, hb8⟩
  have H8 := Lib.hid (H7.out.1.step hb8)
  have K8 := Lib.hid H8.out.cells
  clear hb8 H7 K7
  go_simp
  refine hK.out _ _ (fun h => K8.out) ?_
  clear hK K
  try simp only [Act.put, List.setIfInBounds_toArray, List.set_cons_zero, List.set_cons_succ]
  refine wpLate_take (i := 8) (oi := ?oi8r12_) (v := ?v8r12_) [9, 10, 11, 12, 13, 14, 15, 16, 17, 18, 19, 20, 21, 22, 23] ?hi8r12_ (by kernel_rfl) (by kernel_rfl) (by kernel_rfl) (by kernel_rfl) (by kernel_rfl) ?hQ8r12_ (Or.inl ⟨?hw8r12_, ?hy8r12_⟩) K8.out ?rest8r12_
  case hi8r12_ => (simp only [List.getElem?_toArray, List.getElem?_cons_zero, List.getElem?_cons_succ]; rfl)
  case hQ8r12_ => exact fun _ _ _ h => h
  case hw8r12_ => rfl
  case hy8r12_ =>
    intro w' hSw
    obtain ⟨r0, r1, r2⟩ := hSw
    go_simp
    try exact rfl
  try simp only [Act.put, List.setIfInBounds_toArray, List.set_cons_zero, List.set_cons_succ]
  refine wpLate_take (i := 9) (oi := ?oi9r12_) (v := ?v9r12_) [17, 18, 19, 20, 21, 22, 23] ?hi9r12_ (by kernel_rfl) (by kernel_rfl) (by kernel_rfl) (by kernel_rfl) (by kernel_rfl) ?hQ9r12_ (Or.inl ⟨?hw9r12_, ?hy9r12_⟩) K8.out ?rest9r12_
  case hi9r12_ => (simp only [List.getElem?_toArray, List.getElem?_cons_zero, List.getElem?_cons_succ]; rfl)
  case hQ9r12_ => exact fun _ _ _ h => h
  case hw9r12_ => rfl
  case hy9r12_ =>
    intro w' hSw
    obtain ⟨r0, r1, r2⟩ := hSw
    go_simp
    try exact rfl
  try simp only [Act.put, List.setIfInBounds_toArray, List.set_cons_zero, List.set_cons_succ]
  refine wpLate_take (i := 10) (oi := ?oi10r12_) (v := ?v10r12_) [13, 16, 17, 18, 19, 20, 21, 22, 23] ?hi10r12_ (by kernel_rfl) (by kernel_rfl) (by kernel_rfl) (by kernel_rfl) (by kernel_rfl) ?hQ10r12_ (Or.inl ⟨?hw10r12_, ?hy10r12_⟩) K8.out ?rest10r12_
  case hi10r12_ => (simp only [List.getElem?_toArray, List.getElem?_cons_zero, List.getElem?_cons_succ]; rfl)
  case hQ10r12_ => exact fun _ _ _ h => h
  case hw10r12_ => rfl
  case hy10r12_ =>
    intro w' hSw
    obtain ⟨r0, r1, r2⟩ := hSw
    go_simp
    try exact rfl
  try simp only [Act.put, List.setIfInBounds_toArray, List.set_cons_zero, List.set_cons_succ]
  refine wpLate_take (i := 11) (oi := ?oi11r12_) (v := ?v11r12_) [12, 13, 16, 17, 18, 19, 20, 21, 22, 23] ?hi11r12_ (by kernel_rfl) (by kernel_rfl) (by kernel_rfl) (by kernel_rfl) (by kernel_rfl) ?hQ11r12_ (Or.inl ⟨?hw11r12_, ?hy11r12_⟩) K8.out ?rest11r12_
  case hi11r12_ => (simp only [List.getElem?_toArray, List.getElem?_cons_zero, List.getElem?_cons_succ]; rfl)
  case hQ11r12_ => exact fun _ _ _ h => h
  case hw11r12_ => rfl
  case hy11r12_ =>
    intro w' hSw
    obtain ⟨r0, r1, r2⟩ := hSw
    go_simp
    try exact rfl
  try simp only [Act.put, List.setIfInBounds_toArray, List.set_cons_zero, List.set_cons_succ]
  refine wpLate_take (i := 12) (oi := ?oi12r12_) (v := ?v12r12_) [13, 16, 17, 18, 19, 20, 21, 22, 23] ?hi12r12_ (by kernel_rfl) (by kernel_rfl) (by kernel_rfl) (by kernel_rfl) (by kernel_rfl) ?hQ12r12_ (Or.inl ⟨?hw12r12_, ?hy12r12_⟩) K8.out ?rest12r12_
  case hi12r12_ => (simp only [List.getElem?_toArray, List.getElem?_cons_zero, List.getElem?_cons_succ]; rfl)
  case hQ12r12_ => exact fun _ _ _ h => h
  case hw12r12_ => rfl
  case hy12r12_ =>
    intro w' hSw
    obtain ⟨r0, r1, r2⟩ := hSw
    go_simp
    try exact rfl
  try simp only [Act.put, List.setIfInBounds_toArray, List.set_cons_zero, List.set_cons_succ]
  refine wpLate_take (i := 13) (oi := ?oi13r12_) (v := ?v13r12_) [16, 17, 18, 19, 20, 21, 22, 23] ?hi13r12_ (by kernel_rfl) (by kernel_rfl) (by kernel_rfl) (by kernel_rfl) (by kernel_rfl) ?hQ13r12_ (Or.inl ⟨?hw13r12_, ?hy13r12_⟩) K8.out ?rest13r12_
  case hi13r12_ => (simp only [List.getElem?_toArray, List.getElem?_cons_zero, List.getElem?_cons_succ]; rfl)
  case hQ13r12_ => exact fun _ _ _ h => h
  case hw13r12_ => rfl
  case hy13r12_ =>
    intro w' hSw
    obtain ⟨r0, r1, r2⟩ := hSw
    go_simp
    try exact rfl
  try simp only [Act.put, List.setIfInBounds_toArray, List.set_cons_zero, List.set_cons_succ]
  refine wpLate_take (i := 14) (oi := ?oi14r12_) (v := ?v14r12_) [15, 16, 17, 18, 19, 20, 21, 22, 23] ?hi14r12_ (by kernel_rfl) (by kernel_rfl) (by kernel_rfl) (by kernel_rfl) (by kernel_rfl) ?hQ14r12_ (Or.inl ⟨?hw14r12_, ?hy14r12_⟩) K8.out ?rest14r12_
  case hi14r12_ => (simp only [List.getElem?_toArray, List.getElem?_cons_zero, List.getElem?_cons_succ]; rfl)
  case hQ14r12_ => exact fun _ _ _ h => h
  case hw14r12_ => rfl
  case hy14r12_ =>
    intro w' hSw
    obtain ⟨r0, r1, r2⟩ := hSw
    go_simp
    try exact rfl
  try simp only [Act.put, List.setIfInBounds_toArray, List.set_cons_zero, List.set_cons_succ]
  refine wpLate_take (i := 15) (oi := ?oi15r12_) (v := ?v15r12_) [16, 17, 18, 19, 20, 21, 22, 23] ?hi15r12_ (by kernel_rfl) (by kernel_rfl) (by kernel_rfl) (by kernel_rfl) (by kernel_rfl) ?hQ15r12_ (Or.inl ⟨?hw15r12_, ?hy15r12_⟩) K8.out ?rest15r12_
  case hi15r12_ => (simp only [List.getElem?_toArray, List.getElem?_cons_zero, List.getElem?_cons_succ]; rfl)
  case hQ15r12_ => exact fun _ _ _ h => h
  case hw15r12_ => rfl
  case hy15r12_ =>
    intro w' hSw
    obtain ⟨r0, r1, r2⟩ := hSw
    go_simp
    try exact rfl
  try simp only [Act.put, List.setIfInBounds_toArray, List.set_cons_zero, List.set_cons_succ]
  refine wpLate_one (i := 16) (o := ?o16r12_) (by kernel_rfl) ?ho16r12_ ?hk16r12_
  case ho16r12_ => (simp only [List.getElem?_toArray, List.getElem?_cons_zero, List.getElem?_cons_succ]; rfl)
  intro K hK
  go_simp
  refine (HP2.out _ (HR.out.2.step H8.out.b)).mono ?_
  rintro e W9 ⟨A9, c9, rfl, hr9, hb9⟩
  have H9 := Lib.hid (And.intro (H8.out.step hb9) hr9)
  have K9 := Lib.hid H9.out.1.cells
  clear hr9 hb9
  go_simp
  refine hK.out _ _ (fun h => K9.out) ?_
  clear hK K
  try simp only [Act.put, List.setIfInBounds_toArray, List.set_cons_zero, List.set_cons_succ]
  refine wpLate_one (i := 17) (o := ?o17r12_) (by kernel_rfl) ?ho17r12_ ?hk17r12_
  case ho17r12_ => (simp only [List.getElem?_toArray, List.getElem?_cons_zero, List.getElem?_cons_succ]; rfl)
  intro K hK
  go_simp
  refine (HG2.out _ _ _ (HR.out.1.step H9.out.1.b) H9.out.2).mono ?_
  rintro e W10 ⟨rfl, hb10⟩
  have H10 := Lib.hid (H9.out.1.step hb10)
  have K10 := Lib.hid H10.out.cells
  clear hb10 H9 K9
  go_simp
  refine hK.out _ _ (fun h => K10.out) ?_
  clear hK K
  try simp only [Act.put, List.setIfInBounds_toArray, List.set_cons_zero, List.set_cons_succ]
  refine wpLate_take (i := 18) (oi := ?oi18r12_) (v := ?v18r12_) [19, 20, 21, 22, 23] ?hi18r12_ (by kernel_rfl) (by kernel_rfl) (by kernel_rfl) (by kernel_rfl) (by kernel_rfl) ?hQ18r12_ (Or.inl ⟨?hw18r12_, ?hy18r12_⟩) K10.out ?rest18r12_
  case hi18r12_ => (simp only [List.getElem?_toArray, List.getElem?_cons_zero, List.getElem?_cons_succ]; rfl)
  case hQ18r12_ => exact fun _ _ _ h => h
  case hw18r12_ => rfl
  case hy18r12_ =>
    intro w' hSw
    obtain ⟨r0, r1, r2⟩ := hSw
    go_simp
    try exact rfl
  try simp only [Act.put, List.setIfInBounds_toArray, List.set_cons_zero, List.set_cons_succ]
  refine wpLate_take (i := 19) (oi := ?oi19r12_) (v := ?v19r12_) [20, 21, 22, 23] ?hi19r12_ (by kernel_rfl) (by kernel_rfl) (by kernel_rfl) (by kernel_rfl) (by kernel_rfl) ?hQ19r12_ (Or.inl ⟨?hw19r12_, ?hy19r12_⟩) K10.out ?rest19r12_
  case hi19r12_ => (simp only [List.getElem?_toArray, List.getElem?_cons_zero, List.getElem?_cons_succ]; rfl)
  case hQ19r12_ => exact fun _ _ _ h => h
  case hw19r12_ => rfl
  case hy19r12_ =>
    intro w' hSw
    obtain ⟨r0, r1, r2⟩ := hSw
    go_simp
    try exact rfl
  try simp only [Act.put, List.setIfInBounds_toArray, List.set_cons_zero, List.set_cons_succ]
  refine wpLate_take (i := 20) (oi := ?oi20r12_) (v := ?v20r12_) [21, 22, 23] ?hi20r12_ (by kernel_rfl) (by kernel_rfl) (by kernel_rfl) (by kernel_rfl) (by kernel_rfl) ?hQ20r12_ (Or.inl ⟨?hw20r12_, ?hy20r12_⟩) K10.out ?rest20r12_
  case hi20r12_ => (simp only [List.getElem?_toArray, List.getElem?_cons_zero, List.getElem?_cons_succ]; rfl)
  case hQ20r12_ => exact fun _ _ _ h => h
  case hw20r12_ => rfl
  case hy20r12_ =>
    intro w' hSw
    obtain ⟨r0, r1, r2⟩ := hSw
    go_simp
    try exact rfl
  try simp only [Act.put, List.setIfInBounds_toArray, List.set_cons_zero, List.set_cons_succ]
  refine wpLate_one (i := 21) (o := ?o21r12_) (by kernel_rfl) ?ho21r12_ ?hk21r12_
  case ho21r12_ => (simp only [List.getElem?_toArray, List.getElem?_cons_zero, List.getElem?_cons_succ]; rfl)
  intro K hK
  go_simp
  refine (HAw.out _).mono ?_
  rintro e W11 ⟨rfl, hb11⟩
  have H11 := Lib.hid (H10.out.step hb11)
  have K11 := Lib.hid H11.out.cells
  clear hb11
  go_simp
  refine hK.out _ _ (fun h => K11.out) ?_
  clear hK K
  try simp only [Act.put, List.setIfInBounds_toArray, List.set_cons_zero, List.set_cons_succ]
  refine wpLate_take (i := 22) (oi := ?oi22r12_) (v := ?v22r12_) [23] ?hi22r12_ (by kernel_rfl) (by kernel_rfl) (by kernel_rfl) (by kernel_rfl) (by kernel_rfl) ?hQ22r12_ (Or.inl ⟨?hw22r12_, ?hy22r12_⟩) K11.out ?rest22r12_
  case hi22r12_ => (simp only [List.getElem?_toArray, List.getElem?_cons_zero, List.getElem?_cons_succ]; rfl)
  case hQ22r12_ => exact fun _ _ _ h => h
  case hw22r12_ => rfl
  case hy22r12_ =>
    intro w' hSw
    obtain ⟨r0, r1, r2⟩ := hSw
    go_simp
    try exact rfl
  try simp only [Act.put, List.setIfInBounds_toArray, List.set_cons_zero, List.set_cons_succ]
  refine wpLate_one (i := 23) (o := ?o23r12_) (by kernel_rfl) ?ho23r12_ ?hk23r12_
  case ho23r12_ => (simp only [List.getElem?_toArray, List.getElem?_cons_zero, List.getElem?_cons_succ]; rfl)
  intro K hK
  go_simp
  refine hK.out _ _ (fun h => K11.out) ?_
  clear hK K
  try simp only [Act.put, List.setIfInBounds_toArray, List.set_cons_zero, List.set_cons_succ]
  refine wpLate_done (by kernel_rfl) ?_ _
  try simp only [Act.put, List.setIfInBounds_toArray, List.set_cons_zero, List.set_cons_succ]
  go_wp2_with fail
  go_ret
  exact ⟨rfl, H11.out.b⟩
end Go.Proofs.Ytipejhfgfciabaa
