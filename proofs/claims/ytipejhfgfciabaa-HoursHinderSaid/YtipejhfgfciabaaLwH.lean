/- The law of who hinders. -/
import Derived.Test.YtipejhfgfciabaaLiO
import Derived.Test.YtipejhfgfciabaaLiS
namespace Go.Proofs.Ytipejhfgfciabaa
open Go.RowKit Go.Shelf
attribute [local irreducible] wpQuiet
theorem brow_step {w w' : World} {A : Option Addr} {l : List Int} (h : BRow w w.heap.size A l) (hb : Below w.heap.size w w') : BRow w' w'.heap.size A l := fun k hk => by
  obtain ⟨g, o, e, hg, c⟩ := (h.below hb) k hk
  exact ⟨g, o, e, by have := hb.size; omega, c⟩
/-- the first k of a set have enough -/
def enTo (least set p : List Int) (k : Nat) : Bool := (List.range k).all fun j => decide (least.getD (set.getD j 0).toNat 0 ≤ cntI p p.length (set.getD j 0))
theorem enTo_succ (least set p : List Int) (k : Nat) : enTo least set p (k + 1) = (enTo least set p k && decide (least.getD (set.getD k 0).toNat 0 ≤ cntI p p.length (set.getD k 0))) := by
  unfold enTo; rw [List.range_succ, List.all_append]; simp
theorem en_not {x : Tt} {least p : List Int} (hv : VT x) (hlb : leastB x least = true) (hne : hindP x least ≠ []) (hp : goodP x p = true) : enTo least (hindP x least) p (hindP x least).length = false := by
  obtain ⟨k, hk, h⟩ := hind_not hv hlb hne hp
  unfold enTo
  refine List.all_eq_false.2 ⟨k, List.mem_range.2 hk, ?_⟩
  have : (hindP x least).getD k 0 = (hindP x least)[k] := by simp [List.getD, hk]
  rw [this]
  simp only [decide_eq_true_eq]
  omega
/-- all need the same, and have the same credit, of the first k -/
def smTo (x : Tt) (least : List Int) (b : Bool) (k : Nat) : Bool := b && (List.range k).all fun j => decide (least.getD j 0 = least.getD 0 0) && decide ((x.G[j]?.map Gr.credit).getD 0 = (x.G[0]?.map Gr.credit).getD 0)
theorem smTo_succ (x : Tt) (least : List Int) (b : Bool) (k : Nat) : smTo x least b (k + 1) = (smTo x least b k && (decide (least.getD k 0 = least.getD 0 0) && decide ((x.G[k]?.map Gr.credit).getD 0 = (x.G[0]?.map Gr.credit).getD 0))) := by
  unfold smTo; rw [List.range_succ, List.all_append, Bool.and_assoc]; simp
set_option maxRecDepth 100000 in
set_option maxHeartbeats 8000000 in
theorem hinderLaw_any (x : Tt) (AH AG : Option Addr) (ch cg : Nat) (least : List Int) (A0 : Option Addr) (c0 : Nat) (by_ : List Int) (A1 : Option Addr) (c1 : Nat) (W : World) (hr : TR W W.heap.size x AH AG) (hle : IRow W W.heap.size A0 least) (hby : BRow W W.heap.size A1 by_) (hb8 : ∀ s ∈ by_, 0 ≤ s ∧ s ≤ 255) :
    Calls Try.prog 8 #[ttv x AH AG ch cg, .slice A0 least.length c0, .slice A1 by_.length c1] W (BoolPost true W) := by
  have hmix : Try.prog.follows .mixedOrders = true := by kernel_rfl
  have HB : Hid (VB W (W.alloc (.cells (ttc x AH AG ch cg) 25)) x AH AG ch cg) := ⟨below_one W _, Has.new W 25 _⟩
  have HR := Lib.hid (And.intro hr (And.intro hle hby))
  have HLg := Lib.hid (fun w => large_any x AH AG ch cg w)
  have HAw := Lib.hid (fun w => awake_any w)
  clear hr hle hby
  have hex : largeB x = true ∨ (largeB x = false ∧ (10 : Int) < least.length) ∨ (largeB x = false ∧ ¬ (10 : Int) < least.length ∧ by_.length = 0) ∨ (largeB x = false ∧ ¬ (10 : Int) < least.length ∧ by_.length ≠ 0) := by
    cases largeB x with
    | true => exact .inl rfl
    | false =>
      refine .inr ?_
      by_cases h : (10 : Int) < least.length
      · exact .inl ⟨rfl, h⟩
      · rcases Nat.eq_zero_or_pos by_.length with h' | h'
        · exact .inr (.inl ⟨rfl, h, h'⟩)
        · exact .inr (.inr ⟨rfl, h, by omega⟩)
  unfold ttv at *
  rcases hex with h1 | ⟨h1, h2⟩ | ⟨h1, h2, h3⟩ | ⟨h1, h2, h3⟩
  · as_aux_lemma =>
    clear hb8
    rw [h1] at HLg
    go_enter Try.func8, Try.ntmps8
    go_upto_region 1 with fail
    generalize W.alloc (.cells (ttc x AH AG ch cg) 25) = w0 at HB ⊢
    obtain ⟨x0, x1, x2⟩ := HB.out.cells
    go_wp2_with fail
    refine (HLg.out _).mono ?_
    rintro e w1 ⟨rfl, hb1⟩
    have H1 := Lib.hid (HB.out.step hb1)
    clear hb1 x0 x1 x2 HB HLg
    go_wp2_with fail
    refine (HAw.out _).mono ?_
    rintro e wz ⟨rfl, hbz⟩
    have HZ := Lib.hid (H1.out.step hbz)
    clear hbz
    go_wp2_with fail
    go_ret
    exact ⟨rfl, HZ.out.b⟩
  · as_aux_lemma =>
    clear hb8
    rw [h1] at HLg
    go_enter Try.func8, Try.ntmps8
    go_upto_region 1 with fail
    generalize W.alloc (.cells (ttc x AH AG ch cg) 25) = w0 at HB ⊢
    obtain ⟨x0, x1, x2⟩ := HB.out.cells
    go_wp2_with fail
    refine (HLg.out _).mono ?_
    rintro e w1 ⟨rfl, hb1⟩
    have H1 := Lib.hid (HB.out.step hb1)
    clear hb1 x0 x1 x2 HB HLg
    go_wp2_with fail
    refine (HAw.out _).mono ?_
    rintro e wz ⟨rfl, hbz⟩
    have HZ := Lib.hid (H1.out.step hbz)
    clear hbz
    go_wp2_with fail
    go_ret
    exact ⟨rfl, HZ.out.b⟩
  · have h3' : ((by_.length : Int) == 0) = true := beq_iff_eq.2 (by omega)
    clear hb8
    rw [h1] at HLg
    go_enter Try.func8, Try.ntmps8
    go_upto_region 1 with fail
    generalize W.alloc (.cells (ttc x AH AG ch cg) 25) = w0 at HB ⊢
    obtain ⟨x0, x1, x2⟩ := HB.out.cells
    go_wp2_with fail
    refine (HLg.out _).mono ?_
    rintro e w1 ⟨rfl, hb1⟩
    have H1 := Lib.hid (HB.out.step hb1)
    clear hb1 x0 x1 x2 HB HLg
    go_wp2_with fail
    refine (HAw.out _).mono ?_
    rintro e wz ⟨rfl, hbz⟩
    have HZ := Lib.hid (H1.out.step hbz)
    clear hbz
    go_wp2_with fail
    go_ret
    exact ⟨rfl, HZ.out.b⟩
  have h3' : ((by_.length : Int) == 0) = false := beq_eq_false_iff_ne.2 (by omega)
  have hlg : x.G.length ≤ 8 ∧ x.H.length ≤ 14 := by unfold largeB at h1; simp at h1; omega
  have HH := Lib.hid (fun w h h' => Hinders_any x AH AG ch cg least A0 c0 w h h')
  have HTt := Lib.hid (fun w h => Timetable_any x AH AG ch cg w h (by omega) (by omega))
  cases hT : ttB x
  · have hE : hindersR x least = ([], 1) := by unfold hindersR; simp [hT]
    rw [hE] at HH
    unfold ttv at HH
    clear hE hT HTt hb8 h3
    rw [h1] at HLg
    go_enter Try.func8, Try.ntmps8
    go_upto_region 1 with fail
    generalize W.alloc (.cells (ttc x AH AG ch cg) 25) = w0 at HB ⊢
    obtain ⟨x0, x1, x2⟩ := HB.out.cells
    go_wp2_with fail
    refine (HLg.out _).mono ?_
    rintro e w1 ⟨rfl, hb1⟩
    have H1 := Lib.hid (HB.out.step hb1)
    clear hb1 x0 x1 x2 HB HLg
    obtain ⟨x0, x1, x2⟩ := H1.out.cells
    go_wp2_with fail
    refine (HH.out _ (HR.out.1.step H1.out.b) (HR.out.2.1.step H1.out.b)).mono ?_
    rintro e w2 ⟨AS, cs, rfl, hr2, hb2⟩
    have H2 := Lib.hid (And.intro (H1.out.step hb2) hr2)
    clear hb2 hr2 x0 x1 x2 H1
    dsimp only [List.length_nil]
    go_wp2_with fail
    refine (HAw.out _).mono ?_
    rintro e wz ⟨rfl, hbz⟩
    have HZ := Lib.hid (H2.out.1.step hbz)
    clear hbz
    go_wp2_with fail
    go_ret
    exact ⟨rfl, HZ.out.b⟩
  have hv := ttB_vt hT
  cases hL : leastB x least
  · have hE : hindersR x least = ([], 2) := by unfold hindersR; simp [hT, hL]
    rw [hE] at HH
    unfold ttv at HH
    clear hE hT hL hv HTt hb8 h3
    rw [h1] at HLg
    go_enter Try.func8, Try.ntmps8
    go_upto_region 1 with fail
    generalize W.alloc (.cells (ttc x AH AG ch cg) 25) = w0 at HB ⊢
    obtain ⟨x0, x1, x2⟩ := HB.out.cells
    go_wp2_with fail
    refine (HLg.out _).mono ?_
    rintro e w1 ⟨rfl, hb1⟩
    have H1 := Lib.hid (HB.out.step hb1)
    clear hb1 x0 x1 x2 HB HLg
    obtain ⟨x0, x1, x2⟩ := H1.out.cells
    go_wp2_with fail
    refine (HH.out _ (HR.out.1.step H1.out.b) (HR.out.2.1.step H1.out.b)).mono ?_
    rintro e w2 ⟨AS, cs, rfl, hr2, hb2⟩
    have H2 := Lib.hid (And.intro (H1.out.step hb2) hr2)
    clear hb2 hr2 x0 x1 x2 H1
    dsimp only [List.length_nil]
    go_wp2_with fail
    refine (HAw.out _).mono ?_
    rintro e wz ⟨rfl, hbz⟩
    have HZ := Lib.hid (H2.out.1.step hbz)
    clear hbz
    go_wp2_with fail
    go_ret
    exact ⟨rfl, HZ.out.b⟩
  have hE : hindersR x least = (hindP x least, 0) := by unfold hindersR; simp [hT, hL]
  rw [hE] at HH
  rw [hT] at HTt
  have hng := hv.ng
  have hnh := hv.nh
  have HLB := Lib.hid (leastB_at hL)
  have hll : ((least.length : Int) != (x.G.length : Int)) = false := by have := HLB.out.1; simp; omega
  have HO := Lib.hid (fun w h h' => other_any x AH AG ch cg by_ A1 c1 w h hv h' hb8 (by intro e; exact h3 (by rw [e]; rfl)))
  have HFa : Hid (∀ w, TR w w.heap.size x AH AG → Calls Try.prog 17 #[ttv x AH AG ch cg] w (SEPost (fairP x, 0) w)) := Lib.hid fun w h => by
    have := Fairest_any x AH AG ch cg w h
    rw [show fairestR x = (fairP x, 0) by unfold fairestR; simp [hT]] at this
    exact this
  have HFg := Lib.hid (fair_good hv)
  have HPn := Lib.hid (fun l A c w h h' => Plan_any x AH AG ch cg l A c w (by omega) h h')
  have HCn : Hid (∀ l A c w, planB x l = true → IRow w w.heap.size A l → Calls Try.prog 30 #[ttv x AH AG ch cg, .slice A l.length c, .int .i64 l.length] w (RowPost (cntL x l l.length) w)) := Lib.hid fun l A c w hp h =>
    Counts_any x AH AG ch cg l A c l.length w (by omega) h (by have := (plan_ok hp).1; omega) (Nat.le_refl _) (fun i hi _ => by
      rcases (plan_ok hp).2 l[i] (List.getElem_mem hi) with h | h
      · exact .inl (by omega)
      · exact .inr h)
  have HHF : Hid (∀ i, i < (hindP x least).length → ∀ A c w, TR w w.heap.size x AH AG → IRow w w.heap.size A (fewTo least (hindP x least) i (hindP x least).length) → Calls Try.prog 19 #[ttv x AH AG ch cg, .slice A least.length c] w (SEPost ([], 0) w)) := Lib.hid fun i hi A c w h h' => by
    have := Hinders_any x AH AG ch cg _ A c w h h'
    rw [show hindersR x (fewTo least (hindP x least) i (hindP x least).length) = ([], 0) by unfold hindersR; simp [hT, few_least hL, hind_few hv hL hi], fewTo_len] at this
    exact this
  have HEN := Lib.hid (fun p hne hp => en_not (p := p) hv hL hne hp)
  have HAt := Lib.hid (fun k hk => hind_at (x := x) (least := least) (k := k) hk)
  have HRi := Lib.hid (fun k hk => hind_rise (x := x) (least := least) hv (k := k) hk)
  have HSm := Lib.hid (fun m c hno hm hc i hi => fair_same (x := x) (least := least) (m := m) (c := c) hv hL hno hm hc (i := i) hi)
  have HSl : Hid ((hindP x least).length ≤ 5) := Lib.hid (by
    rcases hTo_spec x least (2 ^ x.G.length) with ⟨h1, _⟩ | ⟨s0, _, h2, _⟩
    · have : hindP x least = [] := h1
      rw [this]; simp
    · have : hindP x least = memL s0 := h2
      rw [this]; exact memTo_len s0 5)
  obtain ⟨st, hst⟩ : ∃ s, s = hindP x least := ⟨_, rfl⟩
  rw [← hst] at HH HHF HSl HSm
  have HEN2 : Hid (∀ p, st ≠ [] → goodP x p = true → enTo least st p st.length = false) := Lib.hid (by rw [hst]; exact HEN.out)
  have HAt2 : Hid (∀ k (hk : k < st.length), ∃ g : Nat, st[k] = (g : Int) ∧ g < x.G.length) := Lib.hid (by
    intro k
    have : ∀ (l : List Int) (h : l = hindP x least) (hk : k < l.length), ∃ g : Nat, l[k] = (g : Int) ∧ g < x.G.length := by rintro l rfl hk; exact HAt.out k hk
    exact this st hst)
  have HRi2 : Hid (∀ k (hk : k + 1 < st.length), st[k]'(by omega) < st[k + 1]) := Lib.hid (by
    intro k
    have : ∀ (l : List Int) (h : l = hindP x least) (hk : k + 1 < l.length), l[k]'(by omega) < l[k + 1] := by rintro l rfl hk; exact HRi.out k hk
    exact this st hst)
  have hsl5 := HSl.out
  clear HEN HAt HRi HSl
  unfold ttv at HH HTt HO HFa HPn HCn HHF
  clear hE hT hL hv hst hb8 h3
  rw [h1] at HLg
  go_enter Try.func8, Try.ntmps8
  go_upto_region 1 with fail
  generalize W.alloc (.cells (ttc x AH AG ch cg) 25) = w0 at HB ⊢
  obtain ⟨x0, x1, x2⟩ := HB.out.cells
  go_wp2_with fail
  refine (HLg.out _).mono ?_
  rintro e w1 ⟨rfl, hb1⟩
  have H1 := Lib.hid (HB.out.step hb1)
  clear hb1 x0 x1 x2 HB HLg
  obtain ⟨x0, x1, x2⟩ := H1.out.cells
  go_wp2_with fail
  refine (HH.out _ (HR.out.1.step H1.out.b) (HR.out.2.1.step H1.out.b)).mono ?_
  rintro e w2 ⟨AS, cs, rfl, hr2, hb2⟩
  have H2 := Lib.hid (And.intro (H1.out.step hb2) hr2)
  clear hb2 hr2 x0 x1 x2 H1
  obtain ⟨x0, x1, x2⟩ := H2.out.1.cells
  dsimp only
  go_wp2_with fail
  refine (HTt.out _ (HR.out.1.step H2.out.1.b)).mono ?_
  rintro e w3 ⟨rfl, hb3⟩
  have H3 := Lib.hid (And.intro (H2.out.1.step hb3) (H2.out.2.step hb3))
  clear hb3 x0 x1 x2 H2 HTt HH
  obtain ⟨x0, x1, x2⟩ := H3.out.1.cells
  go_upto_region 8 with fail
  clear x0 x1 x2 hll
  have H6 := Lib.hid (And.intro (H3.out.1.step (Below.refl w3.heap.size w3).drew) (H3.out.2.step (Below.refl w3.heap.size w3).drew))
  have K6 := Lib.hid H6.out.1.cells
  clear H3
  refine wp_region_late (fun w' : World => w'.cell? ⟨W.heap.size, 0, none⟩ = some (.slice AH x.H.length ch) ∧ w'.cell? ⟨W.heap.size, 1, none⟩ = some (.slice AG x.G.length cg) ∧ w'.cell? ⟨W.heap.size, 2, none⟩ = some (.int .i64 x.R)) [] (by kernel_rfl) ?_
  generalize w3.drew = w6 at H6 K6 ⊢
  refine wpLate_take (i := 0) (oi := ?oi0r8_) (v := ?v0r8_) [7, 8] ?hi0r8_ (by kernel_rfl) (by kernel_rfl) (by kernel_rfl) (by kernel_rfl) (by kernel_rfl) ?hQ0r8_ (Or.inl ⟨?hw0r8_, ?hy0r8_⟩) K6.out ?rest0r8_
  case hi0r8_ => (simp only [List.getElem?_toArray, List.getElem?_cons_zero]; rfl)
  case hQ0r8_ => exact fun _ _ _ h => h
  case hw0r8_ => rfl
  case hy0r8_ =>
    intro w' hSw
    obtain ⟨r0, r1, r2⟩ := hSw
    go_simp
    try exact rfl
  try simp only [Act.put, List.setIfInBounds_toArray, List.set_cons_zero, List.set_cons_succ]
  refine wpLate_take (i := 1) (oi := ?oi1r8_) (v := ?v1r8_) [3, 7, 8] ?hi1r8_ (by kernel_rfl) (by kernel_rfl) (by kernel_rfl) (by kernel_rfl) (by kernel_rfl) ?hQ1r8_ (Or.inl ⟨?hw1r8_, ?hy1r8_⟩) K6.out ?rest1r8_
  case hi1r8_ => (simp only [List.getElem?_toArray, List.getElem?_cons_zero, List.getElem?_cons_succ]; rfl)
  case hQ1r8_ => exact fun _ _ _ h => h
  case hw1r8_ => rfl
  case hy1r8_ =>
    intro w' hSw
    obtain ⟨r0, r1, r2⟩ := hSw
    go_simp
    try exact rfl
  try simp only [Act.put, List.setIfInBounds_toArray, List.set_cons_zero, List.set_cons_succ]
  refine wpLate_take (i := 2) (oi := ?oi2r8_) (v := ?v2r8_) [3, 7, 8] ?hi2r8_ (by kernel_rfl) (by kernel_rfl) (by kernel_rfl) (by kernel_rfl) (by kernel_rfl) ?hQ2r8_ (Or.inl ⟨?hw2r8_, ?hy2r8_⟩) K6.out ?rest2r8_
  case hi2r8_ => (simp only [List.getElem?_toArray, List.getElem?_cons_zero, List.getElem?_cons_succ]; rfl)
  case hQ2r8_ => exact fun _ _ _ h => h
  case hw2r8_ => rfl
  case hy2r8_ =>
    intro w' hSw
    obtain ⟨r0, r1, r2⟩ := hSw
    go_simp
    try exact rfl
  try simp only [Act.put, List.setIfInBounds_toArray, List.set_cons_zero, List.set_cons_succ]
  refine wpLate_take (i := 4) (oi := ?oi4r8_) (v := ?v4r8_) [5, 6, 7, 8] ?hi4r8_ (by kernel_rfl) (by kernel_rfl) (by kernel_rfl) (by kernel_rfl) (by kernel_rfl) ?hQ4r8_ (Or.inl ⟨?hw4r8_, ?hy4r8_⟩) K6.out ?rest4r8_
  case hi4r8_ => (simp only [List.getElem?_toArray, List.getElem?_cons_zero, List.getElem?_cons_succ]; rfl)
  case hQ4r8_ => exact fun _ _ _ h => h
  case hw4r8_ => rfl
  case hy4r8_ =>
    intro w' hSw
    obtain ⟨r0, r1, r2⟩ := hSw
    go_simp
    try exact rfl
  try simp only [Act.put, List.setIfInBounds_toArray, List.set_cons_zero, List.set_cons_succ]
  refine wpLate_take (i := 5) (oi := ?oi5r8_) (v := ?v5r8_) [6, 7, 8] ?hi5r8_ (by kernel_rfl) (by kernel_rfl) (by kernel_rfl) (by kernel_rfl) (by kernel_rfl) ?hQ5r8_ (Or.inl ⟨?hw5r8_, ?hy5r8_⟩) K6.out ?rest5r8_
  case hi5r8_ => (simp only [List.getElem?_toArray, List.getElem?_cons_zero, List.getElem?_cons_succ]; rfl)
  case hQ5r8_ => exact fun _ _ _ h => h
  case hw5r8_ => rfl
  case hy5r8_ =>
    intro w' hSw
    obtain ⟨r0, r1, r2⟩ := hSw
    go_simp
    try exact rfl
  try simp only [Act.put, List.setIfInBounds_toArray, List.set_cons_zero, List.set_cons_succ]
  refine wpLate_take (i := 6) (oi := ?oi6r8_) (v := ?v6r8_) [7, 8] ?hi6r8_ (by kernel_rfl) (by kernel_rfl) (by kernel_rfl) (by kernel_rfl) (by kernel_rfl) ?hQ6r8_ (Or.inl ⟨?hw6r8_, ?hy6r8_⟩) K6.out ?rest6r8_
  case hi6r8_ => (simp only [List.getElem?_toArray, List.getElem?_cons_zero, List.getElem?_cons_succ]; rfl)
  case hQ6r8_ => exact fun _ _ _ h => h
  case hw6r8_ => rfl
  case hy6r8_ =>
    intro w' hSw
    obtain ⟨r0, r1, r2⟩ := hSw
    go_simp
    try exact rfl
  try simp only [Act.put, List.setIfInBounds_toArray, List.set_cons_zero, List.set_cons_succ]
  refine wpLate_one (i := 3) (o := ?o3r8_) (by kernel_rfl) ?ho3r8_ ?hk3r8_
  case ho3r8_ => (simp only [List.getElem?_toArray, List.getElem?_cons_zero, List.getElem?_cons_succ]; rfl)
  intro K hK
  go_simp
  refine (HO.out _ (HR.out.1.step H6.out.1.b) (brow_step HR.out.2.2 H6.out.1.b)).mono ?_
  rintro e W7 ⟨p, hpg, A7, c7, rfl, hr7, hb7⟩
  have H7 := Lib.hid (And.intro (H6.out.1.step hb7) (And.intro (H6.out.2.step hb7) hr7))
  have K7 := Lib.hid H7.out.1.cells
  have HPG := Lib.hid hpg
  have hplen := (plan_ok (good_plan hpg)).1
  have HC1 := Lib.hid (fun w h => HCn.out p A7 c7 w (good_plan hpg) h)
  rw [hplen] at HC1
  clear hr7 hb7 H6 K6 hpg
  rw [hplen]
  go_simp
  refine hK.out _ _ (fun h => K7.out) ?_
  clear hK K
  try simp only [Act.put, List.setIfInBounds_toArray, List.set_cons_zero, List.set_cons_succ]
  refine wpLate_one (i := 7) (o := ?o7r8_) (by kernel_rfl) ?ho7r8_ ?hk7r8_
  case ho7r8_ => (simp only [List.getElem?_toArray, List.getElem?_cons_zero, List.getElem?_cons_succ]; rfl)
  intro K hK
  go_simp
  refine (HC1.out _ H7.out.2.2).mono ?_
  rintro e W8 ⟨BC, hBC, rfl, hrw8, hb8⟩
  rw [cntL_len]
  have H8 := Lib.hid (And.intro (H7.out.1.step hb8) (And.intro (H7.out.2.1.step hb8) hrw8))
  have K8 := Lib.hid H8.out.1.cells
  clear hBC hrw8 hb8 H7 K7 HC1
  go_simp
  refine hK.out _ _ (fun h => K8.out) ?_
  clear hK K
  try simp only [Act.put, List.setIfInBounds_toArray, List.set_cons_zero, List.set_cons_succ]
  refine wpLate_one (i := 8) (o := ?o8r8_) (by kernel_rfl) ?ho8r8_ ?hk8r8_
  case ho8r8_ => (simp only [List.getElem?_toArray, List.getElem?_cons_zero, List.getElem?_cons_succ]; rfl)
  intro K hK
  go_simp
  refine hK.out _ _ (fun h => K8.out) ?_
  clear hK K
  try simp only [Act.put, List.setIfInBounds_toArray, List.set_cons_zero, List.set_cons_succ]
  refine wpLate_done (by kernel_rfl) ?_ _
  try simp only [Act.put, List.setIfInBounds_toArray, List.set_cons_zero, List.set_cons_succ]
  clear K8 HO
  have hpl := (plan_ok (good_plan HPG.out)).1
  have HCE : Hid (∀ g : Nat, g < x.G.length → (cntL x p x.H.length)[g]? = some (cntI p p.length (g : Int))) := Lib.hid fun g hg => by
    rw [List.getElem?_eq_getElem (by rw [cntL_len]; exact hg), cntL_at _ _ _ hg, hpl]
  have HEN := Lib.hid (fun hne => HEN2.out p hne HPG.out)
  clear hpl HEN2
  go_wp2_with fail
  go_loopg [10, 11] st.length (fun gk ev iv wr => ∃ k : Nat, k ≤ st.length ∧ st.length - k ≤ gk ∧ iv = .int .i64 k ∧ ev = .bool (enTo least st p k) ∧ Hid (Below W8.heap.size W8 wr))
  case atStart => exact ⟨0, Nat.zero_le _, Nat.le_refl _, rfl, rfl, Lib.hid (Below.refl _ _)⟩
  case round =>
    obtain ⟨k, hk, hgk, rfl, rfl, HW⟩ := hrel
    by_cases hlt : k < st.length
    · --ROUNDA
      as_aux_lemma =>
      have hlt2 : (k : Int) < st.length := by omega
      obtain ⟨g, hge, hgx⟩ := HAt2.out k hlt
      have hgx2 : (g : Int) < x.G.length := by omega
      have hgl : g < least.length := by have := HLB.out.1; omega
      have hgl2 : (g : Int) < least.length := by omega
      have hgl3 : ¬ (least.length : Int) ≤ (g : Int) := by omega
      have hg0 : ¬ (g : Int) < 0 := by omega
      have hg1 : (0 : Int) ≤ (g : Int) := by omega
      obtain ⟨gs, os, hgs, hgsl, hcs⟩ := H8.out.2.1 k hlt
      obtain ⟨gl, ol, hgl', hgll, hcl⟩ := (HR.out.2.1.below (H8.out.1.b.trans (HW.out.mono H8.out.1.b.size))) g hgl
      obtain ⟨lv, hlv⟩ : ∃ v, v = least[g] := ⟨_, rfl⟩
      obtain ⟨cv, hcv⟩ : ∃ v, v = cntI p p.length (g : Int) := ⟨_, rfl⟩
      have hes : enTo least st p (k + 1) = (enTo least st p k && decide (lv ≤ cv)) := by
        rw [enTo_succ]
        have : st.getD k 0 = (g : Int) := by rw [← hge]; simp [List.getD, hlt]
        simp only [this, Int.toNat_natCast, show least.getD g 0 = lv by rw [hlv]; simp [List.getD, hgl], ← hcv]
      have HCS : Hid (∀ w, Below W8.heap.size W8 w → ∀ i (hi : i < st.length), w.cell? ⟨gs, os + i, none⟩ = some (.int .i64 st[i])) := Lib.hid fun w hb i hi => by
        obtain ⟨g', o', e', hl', hc'⟩ := H8.out.2.1 i hi
        rw [hgs] at e'; cases e'
        exact (hb.cell (p := ⟨gs, _, none⟩) hl').trans hc'
      have HCL : Hid (∀ w, Below W8.heap.size W8 w → w.cell? ⟨gl, ol + g, none⟩ = some (.int .i64 lv)) := Lib.hid fun w hb => by
        obtain ⟨g', o', e', hl', hc'⟩ := (HR.out.2.1.below (H8.out.1.b.trans (hb.mono H8.out.1.b.size))) g hgl
        rw [hgl'] at e'; cases e'
        rw [hc', hlv]
      have HCC : Hid (∀ w, Below W8.heap.size W8 w → w.cell? ⟨BC, g, none⟩ = some (.int .i64 cv)) := Lib.hid fun w hb => ((hb.cell (p := ⟨BC, g, none⟩) H8.out.2.2.lt).trans (H8.out.2.2.cell g)).trans (by rw [ils_get, HCE.out g hgx, ← hcv]; rfl)
      have HGE := Lib.hid hge
      have HRk : Hid (∀ j (hj : j + 1 = k), st[j]'(by omega) < (g : Int)) := Lib.hid fun j hj => by
        subst hj
        rw [← hge]; exact HRi2.out j hlt
      subst hgs hgl'
      clear hge hcs hcl hgsl hgll hlv hcv
      go_upto_region 13 with fail
      haveI hne : Nonempty (Cls (fun w' => Below W8.heap.size W8 w')) := ⟨⟨_, HW.out.drew⟩⟩
      have hs0 : ∀ pc : Cls (fun w' => Below W8.heap.size W8 w'), pc.w.cell? ⟨gs, os + k, none⟩ = some (.int .i64 g) := fun pc => (HCS.out _ pc.h k hlt).trans (by rw [HGE.out])
      have hl0 : ∀ pc : Cls (fun w' => Below W8.heap.size W8 w'), pc.w.cell? ⟨gl, ol + g, none⟩ = some (.int .i64 lv) := fun pc => HCL.out _ pc.h
      have hc0 : ∀ pc : Cls (fun w' => Below W8.heap.size W8 w'), pc.w.cell? ⟨BC, g, none⟩ = some (.int .i64 cv) := fun pc => HCC.out _ pc.h
      have HES := Lib.hid hes
      clear hes
      have h3 : (enTo least st p k = false) ∨ (enTo least st p k = true ∧ lv ≤ cv) ∨ (enTo least st p k = true ∧ ¬ lv ≤ cv) := by
        cases enTo least st p k with
        | false => exact .inl rfl
        | true =>
          by_cases h : lv ≤ cv
          · exact .inr (.inl ⟨rfl, h⟩)
          · exact .inr (.inr ⟨rfl, h⟩)
      by_cases h0 : k = 0
      · as_aux_lemma =>
        have h0' : ¬ (0 : Int) < (k : Int) := by omega
        have h0'' : ¬ 0 < k := by omega
        clear h0
        refine wp_region_cls (fun w' => Below W8.heap.size W8 w') hmix (by kernel_rfl) HW.out.drew ?_
        repeat (quiet_step (fail))
        refine wpQuiet_nil ?_
        rintro w7 ⟨⟨_, hw7⟩, rfl⟩
        have H7 := Lib.hid hw7
        clear hw7
        try simp only []
        go_upto_region 15 with fail
        rcases h3 with h3 | ⟨h3, h4⟩ | ⟨h3, h4⟩
        · as_aux_lemma =>
          have HV := Lib.hid (show enTo least st p (k + 1) = false by rw [HES.out, h3]; rfl)
          rw [h3]
          clear h3
          refine wp_region_cls (fun w' => Below W8.heap.size W8 w') hmix (by kernel_rfl) H7.out.drew ?_
          repeat (quiet_step (fail))
          refine wpQuiet_nil ?_
          rintro w9 ⟨⟨_, hw9⟩, rfl⟩
          have H9 := Lib.hid hw9
          clear hw9
          try simp only []
          clear hs0 hl0 hc0 hne
          go_wp2_with fail
          go_roundg (st.length - (k + 1))
          case measure => omega
          case rel => exact ⟨k + 1, by omega, Nat.le_refl _, by go_num, by rw [HV.out], H9⟩
        · as_aux_lemma =>
          have HV := Lib.hid (show enTo least st p (k + 1) = true by rw [HES.out, h3, decide_eq_true h4]; rfl)
          rw [h3]
          clear h3
          refine wp_region_cls (fun w' => Below W8.heap.size W8 w') hmix (by kernel_rfl) H7.out.drew ?_
          repeat (quiet_step (fail))
          refine wpQuiet_nil ?_
          rintro w9 ⟨⟨_, hw9⟩, rfl⟩
          have H9 := Lib.hid hw9
          clear hw9
          try simp only []
          clear hs0 hl0 hc0 hne
          go_wp2_with fail
          go_roundg (st.length - (k + 1))
          case measure => omega
          case rel => exact ⟨k + 1, by omega, Nat.le_refl _, by go_num, by rw [HV.out], H9⟩
        · as_aux_lemma =>
          have HV := Lib.hid (show enTo least st p (k + 1) = false by rw [HES.out, h3, decide_eq_false h4]; rfl)
          rw [h3]
          clear h3
          refine wp_region_cls (fun w' => Below W8.heap.size W8 w') hmix (by kernel_rfl) H7.out.drew ?_
          repeat (quiet_step (fail))
          refine wpQuiet_nil ?_
          rintro w9 ⟨⟨_, hw9⟩, rfl⟩
          have H9 := Lib.hid hw9
          clear hw9
          try simp only []
          clear hs0 hl0 hc0 hne
          go_wp2_with fail
          go_roundg (st.length - (k + 1))
          case measure => omega
          case rel => exact ⟨k + 1, by omega, Nat.le_refl _, by go_num, by rw [HV.out], H9⟩
      as_aux_lemma =>
      obtain ⟨j, hj⟩ : ∃ j, j + 1 = k := ⟨k - 1, by omega⟩
      have hjl : j < st.length := by omega
      have hjl2 : (j : Int) < st.length := by omega
      have e1 : IntKind.i64.wrap ((k : Int) - 1) = (j : Int) := by rw [IntWalk.i64_in _ (by omega)]; omega
      have hK1 : (0 : Int) < (k : Int) := by omega
      have hK2 : 0 < k := by omega
      obtain ⟨u, hu⟩ : ∃ u, u = st[j] := ⟨_, rfl⟩
      have hug : ¬ (g : Int) ≤ u := by have := HRk.out j hj; omega
      have hu0 : ∀ pc : Cls (fun w' => Below W8.heap.size W8 w'), pc.w.cell? ⟨gs, os + j, none⟩ = some (.int .i64 u) := fun pc => (HCS.out _ pc.h j hjl).trans (by rw [← hu])
      clear h0 hu hj
      refine wp_region_cls (fun w' => Below W8.heap.size W8 w') hmix (by kernel_rfl) HW.out.drew ?_
      repeat (quiet_step (fail))
      refine wpQuiet_nil ?_
      rintro w7 ⟨⟨_, hw7⟩, rfl⟩
      have H7 := Lib.hid hw7
      clear hw7
      try simp only []
      go_upto_region 15 with fail
      rcases h3 with h3 | ⟨h3, h4⟩ | ⟨h3, h4⟩
      · as_aux_lemma =>
        have HV := Lib.hid (show enTo least st p (k + 1) = false by rw [HES.out, h3]; rfl)
        rw [h3]
        clear h3
        refine wp_region_cls (fun w' => Below W8.heap.size W8 w') hmix (by kernel_rfl) H7.out.drew ?_
        repeat (quiet_step (fail))
        refine wpQuiet_nil ?_
        rintro w9 ⟨⟨_, hw9⟩, rfl⟩
        have H9 := Lib.hid hw9
        clear hw9
        try simp only []
        clear hs0 hl0 hc0 hne
        go_wp2_with fail
        go_roundg (st.length - (k + 1))
        case measure => omega
        case rel => exact ⟨k + 1, by omega, Nat.le_refl _, by go_num, by rw [HV.out], H9⟩
      · as_aux_lemma =>
        have HV := Lib.hid (show enTo least st p (k + 1) = true by rw [HES.out, h3, decide_eq_true h4]; rfl)
        rw [h3]
        clear h3
        refine wp_region_cls (fun w' => Below W8.heap.size W8 w') hmix (by kernel_rfl) H7.out.drew ?_
        repeat (quiet_step (fail))
        refine wpQuiet_nil ?_
        rintro w9 ⟨⟨_, hw9⟩, rfl⟩
        have H9 := Lib.hid hw9
        clear hw9
        try simp only []
        clear hs0 hl0 hc0 hne
        go_wp2_with fail
        go_roundg (st.length - (k + 1))
        case measure => omega
        case rel => exact ⟨k + 1, by omega, Nat.le_refl _, by go_num, by rw [HV.out], H9⟩
      · as_aux_lemma =>
        have HV := Lib.hid (show enTo least st p (k + 1) = false by rw [HES.out, h3, decide_eq_false h4]; rfl)
        rw [h3]
        clear h3
        refine wp_region_cls (fun w' => Below W8.heap.size W8 w') hmix (by kernel_rfl) H7.out.drew ?_
        repeat (quiet_step (fail))
        refine wpQuiet_nil ?_
        rintro w9 ⟨⟨_, hw9⟩, rfl⟩
        have H9 := Lib.hid hw9
        clear hw9
        try simp only []
        clear hs0 hl0 hc0 hne
        go_wp2_with fail
        go_roundg (st.length - (k + 1))
        case measure => omega
        case rel => exact ⟨k + 1, by omega, Nat.le_refl _, by go_num, by rw [HV.out], H9⟩
    have hge : ¬ (k : Int) < st.length := by omega
    have HV : Hid (st ≠ [] → enTo least st p k = false) := Lib.hid fun hne => by rw [show k = st.length by omega]; exact HEN.out hne
    obtain ⟨en, hen⟩ : ∃ b, b = enTo least st p k := ⟨_, rfl⟩
    rw [← hen] at HV ⊢
    clear hen
    go_upto_region 16 with fail
    --ENDA
    go_cut [10, 131, 132, 133, 134, 135, 136] (fun u0 u1 u2 u3 u4 u5 u6 wx => u6 = .bool false ∧ wx = wr)
    case first =>
      as_aux_lemma =>
      by_cases hst : st = []
      · have hl0 : ¬ (0 : Int) < st.length := by rw [hst]; simp
        clear hst
        go_wp2_with fail
        go_meet
        exact ⟨rfl, rfl⟩
      · have hl0 : (0 : Int) < st.length := by have := List.length_pos_iff.2 hst; omega
        have hen := HV.out hst
        clear hst
        rw [hen]
        go_wp2_with fail
        go_meet
        exact ⟨rfl, rfl⟩
    case rest =>
      as_aux_lemma =>
      obtain ⟨rfl, rfl⟩ := hcut
      clear HV
      have HKE := Lib.hid (show k = st.length by omega)
      go_wp2_with fail
      go_loopg [12] st.length (fun gk iv wr => ∃ i : Nat, i ≤ st.length ∧ st.length - i ≤ gk ∧ iv = .int .i64 i ∧ Hid (Below W8.heap.size W8 wr))
      case atStart => exact ⟨0, Nat.zero_le _, Nat.le_refl _, rfl, HW⟩
      case round =>
        obtain ⟨i, hi, hgi, rfl, HY⟩ := hrel
        clear HW
        by_cases hit : i < st.length
        · --ROUNDB
          as_aux_lemma =>
          have hit2 : (i : Int) < st.length := by omega
          have hmk := make_ints least.length (by have := HLB.out.1; omega) wr
          have HF0 : Hid (Below W8.heap.size W8 (wr.alloc (.cells (ils (List.replicate least.length 0)) 3)) ∧ Has (wr.alloc (.cells (ils (List.replicate least.length 0)) 3)) wr.heap.size 3 (ils (fewTo least st i 0)) ∧ W8.heap.size ≤ wr.heap.size) := Lib.hid ⟨HY.out.trans ((below_one wr _).mono HY.out.size), by rw [fewTo_zero]; exact Has.new wr 3 _, HY.out.size⟩
          go_upto_region 22 with fail
          generalize wr.alloc (.cells (ils (List.replicate least.length 0)) 3) = wf at HF0 ⊢
          generalize wr.heap.size = BF at HF0 ⊢
          clear hmk
          go_wp2_with fail
          go_loopg [14] st.length (fun gk jv wr => ∃ j : Nat, j ≤ st.length ∧ st.length - j ≤ gk ∧ jv = .int .i64 j ∧ Hid (Below W8.heap.size W8 wr ∧ Has wr BF 3 (ils (fewTo least st i j)) ∧ W8.heap.size ≤ BF))
          case atStart => exact ⟨0, Nat.zero_le _, Nat.le_refl _, rfl, HF0⟩
          case round =>
            obtain ⟨j, hj, hgj, rfl, HZ⟩ := hrel
            clear HF0
            by_cases hjt : j < st.length
            · have hjt2 : (j : Int) < st.length := by omega
              by_cases hji : j = i
              · have hji' : ((j : Int) == (i : Int)) = true := by simp; omega
                have hji2 : ((j : Int) != (i : Int)) = false := by simp; omega
                have HN : Hid (fewTo least st i (j + 1) = fewTo least st i j) := Lib.hid (by rw [hji]; exact fewTo_skip least st i)
                clear hji
                go_wp2_with fail
                go_roundg (st.length - (j + 1))
                case measure => omega
                case rel => exact ⟨j + 1, by omega, Nat.le_refl _, by go_num, Lib.hid (by rw [HN.out]; exact HZ.out)⟩
              have hji' : ((j : Int) == (i : Int)) = false := by simp; omega
              have hji2 : ((j : Int) != (i : Int)) = true := by simp; omega
              obtain ⟨g, hge, hgx⟩ := HAt2.out j hjt
              have hgl : g < least.length := by have := HLB.out.1; omega
              have hgl2 : (g : Int) < least.length := by omega
              have hg1 : (0 : Int) ≤ (g : Int) := by omega
              have HN := Lib.hid (fewTo_put (least := least) (set := st) hji (by rw [← hge]; simp [List.getD, hjt]))
              obtain ⟨gs, os, hgs, hgsl, hcs⟩ := H8.out.2.1 j hjt
              obtain ⟨gl, ol, hgl', hgll, hcl⟩ := (HR.out.2.1.below (H8.out.1.b.trans (HZ.out.1.mono H8.out.1.b.size))) g hgl
              obtain ⟨lv, hlv⟩ : ∃ v, v = least.getD g 0 := ⟨_, rfl⟩
              rw [← hlv] at HN
              have hlv2 : least[g] = lv := by rw [hlv]; simp [List.getD, hgl]
              rw [hge] at hcs
              rw [hlv2] at hcl
              have s0 : wr.cell? ⟨gs, os + j, none⟩ = some (.int .i64 g) := (HZ.out.1.cell (p := ⟨gs, _, none⟩) hgsl).trans hcs
              have b0 : ∃ u, wr.cell? ⟨BF, g, none⟩ = some (.int .i64 u) := ⟨_, (HZ.out.2.1.cell g).trans (ils_at (show g < (fewTo least st i j).length by rw [fewTo_len]; exact hgl))⟩
              obtain ⟨u, b0⟩ := b0
              have bf := HZ.out.2.1.frozen
              have bl := HZ.out.2.1.lt
              subst hgs hgl'
              clear hji hge hcs hgsl hgll hlv hlv2
              go_upto_region 26 with fail
              refine still_tail 12 (by kernel_rfl) (by kernel_rfl) ?_
              simp only [List.take_succ_cons, List.take_zero, List.drop_succ_cons, List.drop_zero]
              repeat still_step
              refine wpStill_nil ?_
              go_wp2_with fail
              have HN2 := Lib.hid (show Below W8.heap.size W8 (wr.setCell ⟨BF, g, none⟩ (.int .i64 lv)) ∧ Has (wr.setCell ⟨BF, g, none⟩ (.int .i64 lv)) BF 3 (ils (fewTo least st i (j + 1))) ∧ W8.heap.size ≤ BF from ⟨HZ.out.1.setCell (p := ⟨BF, g, none⟩) HZ.out.2.2 _, by have := HZ.out.2.1.set g (.int .i64 lv); rwa [ils_set, HN.out] at this, HZ.out.2.2⟩)
              go_roundg (st.length - (j + 1))
              case measure => omega
              case rel => exact ⟨j + 1, by omega, Nat.le_refl _, by go_num, Lib.hid ⟨HN2.out.1.drew, HN2.out.2.1.drew, HN2.out.2.2⟩⟩
            have hge : ¬ (j : Int) < st.length := by omega
            have HRw : Hid (IRow wr wr.heap.size (some ⟨BF, 0, none⟩) (fewTo least st i st.length)) := Lib.hid (by
              rw [show st.length = j by omega]
              exact row_at (fun q hq => ⟨HZ.out.2.1.lt, by rw [Nat.zero_add]; exact (HZ.out.2.1.cell q).trans (ils_at hq)⟩))
            have HVz := Lib.hid (H8.out.1.step HZ.out.1)
            have HHi := Lib.hid (fun A c w h h' => HHF.out i hit A c w h h')
            obtain ⟨x0, x1, x2⟩ := HVz.out.cells
            go_wp2_with fail
            refine (HHi.out _ _ _ (HR.out.1.step HVz.out.b) HRw.out).mono ?_
            rintro e wq ⟨A9, c9, rfl, -, hb9⟩
            have HQ := Lib.hid (HZ.out.1.trans (hb9.mono HZ.out.1.size))
            clear hb9 x0 x1 x2
            dsimp only [List.length_nil]
            go_wp2_with fail
            go_roundg (st.length - (i + 1))
            case measure => omega
            case rel => exact ⟨i + 1, by omega, Nat.le_refl _, by go_num, HQ⟩
        --ENDB
        have hge : ¬ (i : Int) < st.length := by omega
        obtain ⟨sb, hsb⟩ : ∃ b, b = (decide (0 < least.length) && decide (st = [])) := ⟨_, rfl⟩
        have HSB := Lib.hid hsb
        clear hsb
        go_upto_region 30 with fail
        go_cut [17, 181, 182, 183, 184, 185, 186, 187, 188] (fun u0 u1 u2 u3 u4 u5 u6 u7 u8 wx => u0 = .bool sb ∧ wx = wr)
        case first =>
          as_aux_lemma =>
          by_cases hl0 : (0 : Int) < least.length
          · by_cases hst : st = []
            · have hs0 : ((st.length : Int) == 0) = true := by rw [hst]; rfl
              have hb : sb = true := by rw [HSB.out, decide_eq_true (show 0 < least.length by omega), decide_eq_true hst]; rfl
              have HBh := Lib.hid hb
              clear hst hb
              go_wp2_with fail
              go_meet
              exact ⟨by rw [HBh.out], rfl⟩
            · have hs0 : ((st.length : Int) == 0) = false := beq_eq_false_iff_ne.2 (by have := List.length_pos_iff.2 hst; omega)
              have hb : sb = false := by rw [HSB.out, decide_eq_false hst, Bool.and_false]
              have HBh := Lib.hid hb
              clear hst hb
              go_wp2_with fail
              go_meet
              exact ⟨by rw [HBh.out], rfl⟩
          · have hb : sb = false := by rw [HSB.out, decide_eq_false (show ¬ 0 < least.length by omega), Bool.false_and]
            have HBh := Lib.hid hb
            clear hb
            go_wp2_with fail
            go_meet
            exact ⟨by rw [HBh.out], rfl⟩
        case rest =>
          as_aux_lemma =>
          obtain ⟨rfl, rfl⟩ := hcut
          go_wp2_with fail
          go_loopg [17, 18] least.length (fun gk sv jv wr => ∃ j : Nat, j ≤ least.length ∧ least.length - j ≤ gk ∧ jv = .int .i64 j ∧ sv = .bool (smTo x least sb j) ∧ Hid (Below W8.heap.size W8 wr))
          case atStart => exact ⟨0, Nat.zero_le _, Nat.le_refl _, rfl, by unfold smTo; simp, HY⟩
          case round =>
            obtain ⟨j, hj, hgj, rfl, rfl, HZ⟩ := hrel
            clear HY
            by_cases hjt : j < least.length
            · --ROUNDD
              as_aux_lemma =>
              have hjt2 : (j : Int) < least.length := by omega
              have hl0 : 0 < least.length := by omega
              have hl02 : (0 : Int) < least.length := by omega
              have hjx : j < x.G.length := by have := HLB.out.1; omega
              have hjx2 : (j : Int) < x.G.length := by omega
              have hx0 : 0 < x.G.length := by omega
              have hx02 : (0 : Int) < x.G.length := by omega
              obtain ⟨gl, ol, hgl', hgll, hcl⟩ := HR.out.2.1 j hjt
              obtain ⟨gg, og, hgg, hggl, hcg⟩ := HR.out.1.g j hjx
              have HCL : Hid (∀ w, Below W8.heap.size W8 w → ∀ q (hq : q < least.length), w.cell? ⟨gl, ol + q, none⟩ = some (.int .i64 least[q])) := Lib.hid fun w hb q hq => by
                obtain ⟨g', o', e', hl', hc'⟩ := (HR.out.2.1.below (H8.out.1.b.trans (hb.mono H8.out.1.b.size))) q hq
                rw [hgl'] at e'; cases e'
                exact hc'
              have HCG : Hid (∀ w, Below W8.heap.size W8 w → ∀ q (hq : q < x.G.length), w.cell? ⟨gg, og + q * 5 + 4, none⟩ = some (.int .i64 x.G[q].credit)) := Lib.hid fun w hb q hq => by
                obtain ⟨g', o', e', hl', hc'⟩ := (HR.out.1.below (H8.out.1.b.trans (hb.mono H8.out.1.b.size))).g q hq
                rw [hgg] at e'; cases e'
                exact hc' 4 (by omega)
              obtain ⟨lj, hlj⟩ : ∃ v, v = least[j] := ⟨_, rfl⟩
              obtain ⟨l0, hl0e⟩ : ∃ v, v = least[0] := ⟨_, rfl⟩
              obtain ⟨cj, hcj⟩ : ∃ v, v = x.G[j].credit := ⟨_, rfl⟩
              obtain ⟨cz, hcz⟩ : ∃ v, v = x.G[0].credit := ⟨_, rfl⟩
              have hes : smTo x least sb (j + 1) = (smTo x least sb j && (decide (lj = l0) && decide (cj = cz))) := by
                rw [smTo_succ]
                simp only [show least.getD j 0 = lj by rw [hlj]; simp [List.getD, hjt], show least.getD 0 0 = l0 by rw [hl0e]; simp [List.getD, hl0], List.getElem?_eq_getElem hjx, List.getElem?_eq_getElem hx0, Option.map_some, Option.getD_some, ← hcj, ← hcz]
              have HES := Lib.hid hes
              have hr1 : ∀ pc : Cls (fun w' => Below W8.heap.size W8 w'), pc.w.cell? ⟨gl, ol + j, none⟩ = some (.int .i64 lj) := fun pc => by rw [hlj]; exact HCL.out _ pc.h j hjt
              have hr2 : ∀ pc : Cls (fun w' => Below W8.heap.size W8 w'), pc.w.cell? ⟨gl, ol, none⟩ = some (.int .i64 l0) := fun pc => by rw [hl0e]; exact HCL.out _ pc.h 0 hl0
              have hr3 : ∀ pc : Cls (fun w' => Below W8.heap.size W8 w'), pc.w.cell? ⟨gg, og + j * 5 + 4, none⟩ = some (.int .i64 cj) := fun pc => by rw [hcj]; exact HCG.out _ pc.h j hjx
              have hr4 : ∀ pc : Cls (fun w' => Below W8.heap.size W8 w'), pc.w.cell? ⟨gg, og + 4, none⟩ = some (.int .i64 cz) := fun pc => by rw [hcz]; have := HCG.out _ pc.h 0 hx0; simpa using this
              have hr5 : ∀ pc : Cls (fun w' => Below W8.heap.size W8 w'), pc.w.cell? ⟨W.heap.size, 1, none⟩ = some (.slice (some ⟨gg, og, none⟩) x.G.length cg) := fun pc => by rw [← hgg]; exact (H8.out.1.step pc.h).fx.cell 1
              subst hgg hgl'
              clear hes hlj hl0e hcj hcz hcl hcg hgll hggl
              go_upto_region 34 with fail
              haveI hne : Nonempty (Cls (fun w' => Below W8.heap.size W8 w')) := ⟨⟨_, HZ.out.drew⟩⟩
              have h3 : (smTo x least sb j = false) ∨ (smTo x least sb j = true ∧ ¬ lj = l0) ∨ (smTo x least sb j = true ∧ lj = l0 ∧ ¬ cj = cz) ∨ (smTo x least sb j = true ∧ lj = l0 ∧ cj = cz) := by
                cases smTo x least sb j with
                | false => exact .inl rfl
                | true =>
                  by_cases h : lj = l0
                  · by_cases h' : cj = cz
                    · exact .inr (.inr (.inr ⟨rfl, h, h'⟩))
                    · exact .inr (.inr (.inl ⟨rfl, h, h'⟩))
                  · exact .inr (.inl ⟨rfl, h⟩)
              rcases h3 with h3 | ⟨h3, h4⟩ | ⟨h3, h4, h5⟩ | ⟨h3, h4, h5⟩
              · as_aux_lemma =>
                have HV := Lib.hid (show smTo x least sb (j + 1) = false by rw [HES.out, h3]; rfl)
                rw [h3]
                clear h3 HES
                refine wp_region_cls (fun w' => Below W8.heap.size W8 w') hmix (by kernel_rfl) HZ.out.drew ?_
                repeat (quiet_step (fail))
                refine wpQuiet_nil ?_
                rintro w9 ⟨⟨_, hw9⟩, rfl⟩
                have H9 := Lib.hid hw9
                clear hw9
                try simp only []
                clear hr1 hr2 hr3 hr4 hr5 hne
                go_wp2_with fail
                go_roundg (least.length - (j + 1))
                case measure => omega
                case rel => exact ⟨j + 1, by omega, Nat.le_refl _, by go_num, by rw [HV.out], H9⟩
              · as_aux_lemma =>
                have HV := Lib.hid (show smTo x least sb (j + 1) = false by rw [HES.out, h3, decide_eq_false h4]; rfl)
                rw [h3]
                clear h3 HES
                have q4 : (lj == l0) = false := by simpa using h4
                clear h4
                refine wp_region_cls (fun w' => Below W8.heap.size W8 w') hmix (by kernel_rfl) HZ.out.drew ?_
                repeat (quiet_step (fail))
                refine wpQuiet_nil ?_
                rintro w9 ⟨⟨_, hw9⟩, rfl⟩
                have H9 := Lib.hid hw9
                clear hw9
                try simp only []
                clear hr1 hr2 hr3 hr4 hr5 hne
                go_wp2_with fail
                go_roundg (least.length - (j + 1))
                case measure => omega
                case rel => exact ⟨j + 1, by omega, Nat.le_refl _, by go_num, by rw [HV.out], H9⟩
              · as_aux_lemma =>
                have HV := Lib.hid (show smTo x least sb (j + 1) = false by rw [HES.out, h3, decide_eq_false h5, Bool.and_false, Bool.and_false])
                rw [h3]
                clear h3 HES
                have q4 : (lj == l0) = true := by simpa using h4
                have q5 : (cj == cz) = false := by simpa using h5
                clear h4 h5
                refine wp_region_cls (fun w' => Below W8.heap.size W8 w') hmix (by kernel_rfl) HZ.out.drew ?_
                repeat (quiet_step (fail))
                refine wpQuiet_nil ?_
                rintro w9 ⟨⟨_, hw9⟩, rfl⟩
                have H9 := Lib.hid hw9
                clear hw9
                try simp only []
                clear hr1 hr2 hr3 hr4 hr5 hne
                go_wp2_with fail
                go_roundg (least.length - (j + 1))
                case measure => omega
                case rel => exact ⟨j + 1, by omega, Nat.le_refl _, by go_num, by rw [HV.out], H9⟩
              · as_aux_lemma =>
                have HV := Lib.hid (show smTo x least sb (j + 1) = true by rw [HES.out, h3, decide_eq_true h4, decide_eq_true h5]; rfl)
                rw [h3]
                clear h3 HES
                have q4 : (lj == l0) = true := by simpa using h4
                have q5 : (cj == cz) = true := by simpa using h5
                clear h4 h5
                refine wp_region_cls (fun w' => Below W8.heap.size W8 w') hmix (by kernel_rfl) HZ.out.drew ?_
                repeat (quiet_step (fail))
                refine wpQuiet_nil ?_
                rintro w9 ⟨⟨_, hw9⟩, rfl⟩
                have H9 := Lib.hid hw9
                clear hw9
                try simp only []
                clear hr1 hr2 hr3 hr4 hr5 hne
                go_wp2_with fail
                go_roundg (least.length - (j + 1))
                case measure => omega
                case rel => exact ⟨j + 1, by omega, Nat.le_refl _, by go_num, by rw [HV.out], H9⟩
            --ENDD
            as_aux_lemma =>
            have hge : ¬ (j : Int) < least.length := by omega
            have HJE := Lib.hid (show j = least.length by omega)
            cases hsm : smTo x least sb j
            · go_wp2_with fail
              refine (HAw.out _).mono ?_
              rintro e wq ⟨rfl, hbq⟩
              have HQ := Lib.hid ((H8.out.1.step HZ.out).step hbq)
              clear hbq
              go_wp2_with fail
              go_ret
              exact ⟨rfl, HQ.out.b⟩
            have HMN : Hid (0 < least.length ∧ ∀ i, i < x.G.length → least.getD 0 0 ≤ cntI (fairP x) (fairP x).length (i : Int)) := Lib.hid (by
              rw [HJE.out] at hsm
              unfold smTo at hsm
              rw [Bool.and_eq_true, HSB.out, Bool.and_eq_true, List.all_eq_true] at hsm
              obtain ⟨⟨h1, h2⟩, h3⟩ := hsm
              have h1 := of_decide_eq_true h1
              have h2 := of_decide_eq_true h2
              have hlx := HLB.out.1
              refine ⟨h1, fun i hi => HSm.out (least.getD 0 0) ((x.G[0]?.map Gr.credit).getD 0) h2 (fun q hq => ?_) (fun a ha => ?_) i hi⟩
              · have := h3 q (List.mem_range.2 (by omega))
                simp only [Bool.and_eq_true, decide_eq_true_eq] at this
                exact this.1
              · obtain ⟨q, hq, rfl⟩ := List.getElem_of_mem ha
                have := h3 q (List.mem_range.2 (by omega))
                simp only [Bool.and_eq_true, decide_eq_true_eq] at this
                have h4 := this.2
                rw [List.getElem?_eq_getElem hq] at h4
                simpa using h4)
            have HVz := Lib.hid (H8.out.1.step HZ.out)
            have hfl := (plan_ok (good_plan HFg.out)).1
            have hfp := good_plan HFg.out
            obtain ⟨fp, hfpe⟩ : ∃ l, l = fairP x := ⟨_, rfl⟩
            rw [← hfpe] at HFa HMN hfl hfp
            have HPf := Lib.hid (fun A c w h => HPn.out fp A c w h (by omega))
            rw [hfp] at HPf
            have HCf := Lib.hid (fun A c w h => HCn.out fp A c w hfp h)
            have HFL := Lib.hid hfl
            clear hsm hfpe hfl hfp
            obtain ⟨x0, x1, x2⟩ := HVz.out.cells
            go_wp2_with fail
            refine (HFa.out _ (HR.out.1.step HVz.out.b)).mono ?_
            rintro e wq ⟨A9, c9, rfl, hr9, hb9⟩
            have HQ := Lib.hid (And.intro (HVz.out.step hb9) hr9)
            clear hr9 hb9 x0 x1 x2
            obtain ⟨x0, x1, x2⟩ := HQ.out.1.cells
            dsimp only
            go_wp2_with fail
            refine (HPf.out _ _ _ HQ.out.2).mono ?_
            rintro e wr2 ⟨rfl, hb10⟩
            have HR2 := Lib.hid (And.intro (HQ.out.1.step hb10) (HQ.out.2.step hb10))
            clear hb10 x0 x1 x2
            obtain ⟨x0, x1, x2⟩ := HR2.out.1.cells
            go_wp2_with fail
            refine (HCf.out _ _ _ HR2.out.2).mono ?_
            rintro e W9 ⟨BM, hBM, rfl, hrow, hb11⟩
            rw [cntL_len]
            have H9 := Lib.hid (And.intro (HR2.out.1.step hb11) hrow)
            clear hBM hrow hb11 x0 x1 x2 HQ HR2
            go_wp2_with fail
            go_loopg [22] x.G.length (fun gk qv wr => ∃ q : Nat, q ≤ x.G.length ∧ x.G.length - q ≤ gk ∧ qv = .int .i64 q ∧ Hid (Below W9.heap.size W9 wr))
            case atStart => exact ⟨0, Nat.zero_le _, Nat.le_refl _, rfl, Lib.hid (Below.refl _ _)⟩
            case round =>
              as_aux_lemma =>
              obtain ⟨q, hq, hgq, rfl, HU⟩ := hrel
              by_cases hqt : q < x.G.length
              · have hqt2 : (q : Int) < x.G.length := by omega
                have hl0 := HMN.out.1
                have hl02 : (0 : Int) < least.length := by omega
                obtain ⟨gl, ol, hgl', hgll, hcl⟩ := HR.out.2.1 0 hl0
                obtain ⟨l0, hl0e⟩ : ∃ v, v = least[0] := ⟨_, rfl⟩
                obtain ⟨cv, hcv⟩ : ∃ v, v = cntI fp fp.length (q : Int) := ⟨_, rfl⟩
                have hlc : ¬ cv < l0 := by
                  have := HMN.out.2 q hqt
                  rw [← hcv, show least.getD 0 0 = l0 by rw [hl0e]; simp [List.getD, hl0]] at this
                  omega
                rw [← hl0e] at hcl
                have hr1 : ∀ pc : Cls (fun w' => Below W9.heap.size W9 w'), pc.w.cell? ⟨gl, ol, none⟩ = some (.int .i64 l0) := fun pc => ((H9.out.1.b.trans (pc.h.mono H9.out.1.b.size)).cell (p := ⟨gl, _, none⟩) hgll).trans hcl
                have hr2 : ∀ pc : Cls (fun w' => Below W9.heap.size W9 w'), pc.w.cell? ⟨BM, q, none⟩ = some (.int .i64 cv) := fun pc => ((pc.h.cell (p := ⟨BM, q, none⟩) H9.out.2.lt).trans (H9.out.2.cell q)).trans ((ils_at (by rw [cntL_len]; exact hqt)).trans (by rw [cntL_at _ _ _ hqt, hcv]))
                subst hgl'
                clear hl0e hcv hcl
                go_upto_region 44 with fail
                haveI hne : Nonempty (Cls (fun w' => Below W9.heap.size W9 w')) := ⟨⟨_, HU.out.drew⟩⟩
                refine wp_region_cls (fun w' => Below W9.heap.size W9 w') hmix (by kernel_rfl) HU.out.drew ?_
                repeat (quiet_step (fail))
                refine wpQuiet_nil ?_
                rintro w7 ⟨⟨_, hw7⟩, rfl⟩
                have H7 := Lib.hid hw7
                clear hw7 hr1 hr2 hne
                try simp only []
                go_wp2_with fail
                go_roundg (x.G.length - (q + 1))
                case measure => omega
                case rel => exact ⟨q + 1, by omega, Nat.le_refl _, by go_num, H7⟩
              have hge : ¬ (q : Int) < x.G.length := by omega
              go_wp2_with fail
              refine (HAw.out _).mono ?_
              rintro e wv ⟨rfl, hbv⟩
              have HV := Lib.hid ((H9.out.1.step HU.out).step hbv)
              clear hbv
              go_wp2_with fail
              go_ret
              exact ⟨rfl, HV.out.b⟩
end Go.Proofs.Ytipejhfgfciabaa
