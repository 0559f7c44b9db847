/- The law of the ends of a swing. -/
import Derived.Test.YtmclchaalmonnaaEnB
namespace Go.Proofs.Ytmclchaalmonnaa
open Go.RowKit Go.Lib
attribute [local irreducible] wpQuiet
/-- the three boxes -/
structure EW (W w : World) (r : Ru) (A : Option Addr) (c : Nat) (l : List Sk) (L : Option Addr) (k0 : Nat) (j : Int) : Prop where
  b : Below W.heap.size W w
  f4 : Has w W.heap.size 24 (ruc r A c)
  f5 : Has w (W.heap.size + 1) 30 #[.slice L l.length k0]
  f6 : Has w (W.heap.size + 1 + 1) 3 #[.int .i64 j]
theorem EW.drew {W w : World} {r : Ru} {A : Option Addr} {c : Nat} {l : List Sk} {L : Option Addr} {k0 : Nat} {j : Int} (h : EW W w r A c l L k0 j) : EW W w.drew r A c l L k0 j := ⟨h.b.drew, h.f4.drew, h.f5.drew, h.f6.drew⟩
theorem EW.step {W w w' : World} {r : Ru} {A : Option Addr} {c : Nat} {l : List Sk} {L : Option Addr} {k0 : Nat} {j : Int} (h : EW W w r A c l L k0 j) (hb : Below w.heap.size w w') : EW W w' r A c l L k0 j := ⟨h.b.trans (hb.mono h.b.size), h.f4.below hb h.f4.lt, h.f5.below hb h.f5.lt, h.f6.below hb h.f6.lt⟩
/-- and the spans -/
structure EQ (W w : World) (r : Ru) (A : Option Addr) (c : Nat) (l : List Sk) (L : Option Addr) (k0 : Nat) (j : Int) (A2 : Option Addr) (q : List (Int × Int)) : Prop where
  e : EW W w r A c l L k0 j
  q : QRow w w.heap.size A2 q
section
variable {W w w' : World} {r : Ru} {A : Option Addr} {c : Nat} {l : List Sk} {L : Option Addr} {k0 : Nat} {j : Int} {A2 : Option Addr} {q : List (Int × Int)} {P : Nat} {v : Int}
theorem EQ.step (h : EQ W w r A c l L k0 j A2 q) (hb : Below w.heap.size w w') : EQ W w' r A c l L k0 j A2 q := ⟨h.e.step hb, h.q.step hb⟩
theorem EQ.drew (h : EQ W w r A c l L k0 j A2 q) : EQ W w.drew r A c l L k0 j A2 q := h.step ((Below.refl _ _).drew)
/-- and whom it is about; the span of that one -/
structure EWP (W w : World) (r : Ru) (A : Option Addr) (c : Nat) (l : List Sk) (L : Option Addr) (k0 : Nat) (j : Int) (P : Nat) (v : Int) (g o : Nat) (z1 z2 : Int) : Prop where
  e : EW W w r A c l L k0 j
  p : Has w P 3 #[.int .i64 v]
  gl : g < w.heap.size
  c1 : w.cell? ⟨g, o, none⟩ = some (.int .i64 z1)
  c2 : w.cell? ⟨g, o + 1, none⟩ = some (.int .i64 z2)
theorem EWP.step {g o : Nat} {z1 z2 : Int} (h : EWP W w r A c l L k0 j P v g o z1 z2) (hb : Below w.heap.size w w') : EWP W w' r A c l L k0 j P v g o z1 z2 :=
  ⟨h.e.step hb, h.p.below hb h.p.lt, Nat.lt_of_lt_of_le h.gl hb.size, (hb.cell (p := ⟨g, _, none⟩) h.gl).trans h.c1, (hb.cell (p := ⟨g, _, none⟩) h.gl).trans h.c2⟩
theorem EWP.drew {g o : Nat} {z1 z2 : Int} (h : EWP W w r A c l L k0 j P v g o z1 z2) : EWP W w.drew r A c l L k0 j P v g o z1 z2 := h.step ((Below.refl _ _).drew)
end
theorem swing_ok {r : Ru} {l : List Sk} {j : Int} (h : (swingR r l j).2 = 0) : contestB r l = true ∧ (0 ≤ j ∧ j < nP l) ∧ (swingR r l j).1 = swingP r l j.toNat ∧ jdP l = nP l := by
  unfold swingR at h ⊢
  by_cases h1 : (inspP r l).2 = 0
  rotate_left
  · rw [if_pos h1] at h; exact absurd h h1
  rw [if_neg (by simpa using h1)] at h ⊢
  have hi := (insp_ok h1).2.2.2
  have hc : contestB r l = true := by
    unfold inspP at h1
    split at h1
    · cases h1
    · split at h1
      · assumption
      · cases h1
  by_cases h2 : inB j 0 ((inspP r l).1 - 1) = true
  rotate_left
  · rw [if_neg h2] at h; exact absurd h (by decide)
  rw [if_pos h2]
  rw [hi] at h2
  have hj : 0 ≤ j ∧ j < nP l := by simp [inB] at h2; omega
  refine ⟨hc, hj, rfl, ?_⟩
  unfold jdP nP at *
  cases hp : judgesP l with
  | none => rw [hp] at hj; simp at hj; omega
  | some n => simp
theorem swing_err {r : Ru} {l : List Sk} {j : Int} (h : (swingR r l j).2 ≠ 0) : (swingR r l j).1 = [] := by
  unfold swingR at h ⊢
  split at h <;> rename_i h1
  · rw [if_pos h1]
  · rw [if_neg h1]
    split at h <;> rename_i h2
    · exact absurd rfl h
    · rw [if_neg h2]
theorem alive_cls {S : World → Prop} (hs : ∀ w w', S w → Below w.heap.size w w' → S w') : ∀ w, S w → Calls Try.prog 13 #[] w fun e w' => e = .returned (.bool true) ∧ S w' := fun w h => (alive_any w).mono fun _ w' h' => ⟨h'.1, hs w w' h h'.2⟩
set_option maxRecDepth 100000 in
set_option maxHeartbeats 4000000 in
theorem endsLaw_any (r : Ru) (A : Option Addr) (c : Nat) (l : List Sk) (L : Option Addr) (k0 : Nat) (j n3 : Int) (W : World) (hr : RuR W W.heap.size r A) (hs : SRow W W.heap.size L l) (hl : l.length ≤ big) (hn3 : 0 ≤ n3 ∧ n3 ≤ 255) :
    Calls Try.prog 8 #[ruv r A c, .slice L l.length k0, .int .i64 j, .int .u8 n3] W (BoolPost true W) := by
  have HB : Hid (EW W (((W.alloc (.cells (ruc r A c) 24)).alloc (.cells #[.slice L l.length k0] 30)).alloc (.cells #[.int .i64 j] 3)) r A c l L k0 j) := Lib.hid ⟨((below_one W _).alloc (by simp) _).alloc (by simp; omega) _, ((Has.new _ _ _).alloc _).alloc _, (has_newAt (by simp)).alloc _, has_newAt (by simp)⟩
  have HG := Lib.hid (fun w (h : Below W.heap.size W w) => great_any l L k0 8 w (by omega) ((hs.below h).more h.size) hl)
  have HAw := Lib.hid (fun w => alive_any w)
  have HSW := Lib.hid (fun w (h : Below W.heap.size W w) => Swing_any r A c l L k0 j w ((hr.below h).more h.size) ((hs.below h).more h.size) hl)
  have HCT := Lib.hid (fun w (h : Below W.heap.size W w) => Contest_any r A c l L k0 w ((hr.below h).more h.size) ((hs.below h).more h.size) hl)
  have HJD := Lib.hid (fun w (h : Below W.heap.size W w) => Judges_any l L k0 w ((hs.below h).more h.size) hl)
  have HSM : Hid (greatB l 8 = false → l.length ≤ 8) := Lib.hid fun h => (not_great h).1
  have HRS := Lib.hid (And.intro hr hs)
  have HOK := Lib.hid (swing_ok (r := r) (l := l) (j := j))
  have HER := Lib.hid (swing_err (r := r) (l := l) (j := j))
  have HN3 := Lib.hid hn3
  have hrl := hr.l
  unfold big at hrl hl
  obtain ⟨X, hX⟩ : ∃ X, X = swingR r l j := ⟨_, rfl⟩
  rw [← hX] at HSW HOK HER
  obtain ⟨sw, se⟩ := X
  generalize greatB l 8 = G at HG HSM
  unfold BoolPost at HG HAw HCT
  unfold SwEPost at HSW
  unfold IntPost at HJD
  dsimp only at HSW HOK HER HG
  clear hr hs hX hn3
  unfold ruv at *
  go_enter Try.func8, Try.ntmps8
  go_upto_region 1 with fail
  generalize ((W.alloc (.cells (ruc r A c) 24)).alloc (.cells #[.slice L l.length k0] 30)).alloc (.cells #[.int .i64 j] 3) = w0 at HB ⊢
  have x0 : w0.cell? ⟨W.heap.size, 0, none⟩ = some (.slice A r.bases.length c) := HB.out.f4.cell 0
  have y0 : w0.cell? ⟨W.heap.size + 1, 0, none⟩ = some (.slice L l.length k0) := HB.out.f5.cell 0
  by_cases h80 : (80 : Int) < r.bases.length
  · go_wp2_with fail
    refine (HAw.out _).mono ?_
    rintro e w1 ⟨rfl, hb1⟩
    have H1 := Lib.hid (HB.out.step hb1)
    clear hb1
    go_wp2_with fail
    go_ret
    exact ⟨rfl, H1.out.b⟩
  go_wp2_with fail
  refine (HG.out _ HB.out.b).mono ?_
  rintro e w1 ⟨rfl, hb1⟩
  have H1 := Lib.hid (HB.out.step hb1)
  clear hb1 x0 y0 HB HG h80
  cases G
  rotate_left
  · clear HSW HCT HJD HSM HOK HER
    go_wp2_with fail
    refine (HAw.out _).mono ?_
    rintro e w2 ⟨rfl, hb1⟩
    have H2 := Lib.hid (H1.out.step hb1)
    clear hb1
    go_wp2_with fail
    go_ret
    exact ⟨rfl, H2.out.b⟩
  have hl8 := HSM.out rfl
  have x0 : w1.cell? ⟨W.heap.size, 0, none⟩ = some (.slice A r.bases.length c) := H1.out.f4.cell 0
  have x1 : w1.cell? ⟨W.heap.size, 1, none⟩ = some (.int .i64 r.factor) := H1.out.f4.cell 1
  have x2 : w1.cell? ⟨W.heap.size, 2, none⟩ = some (.int .i64 r.most) := H1.out.f4.cell 2
  have y0 : w1.cell? ⟨W.heap.size + 1, 0, none⟩ = some (.slice L l.length k0) := H1.out.f5.cell 0
  have u0 : w1.cell? ⟨W.heap.size + 1 + 1, 0, none⟩ = some (.int .i64 j) := H1.out.f6.cell 0
  by_cases h0 : l.length = 0
  · have q0 : ((l.length : Int) == 0) = true := by simp [h0]
    have HL0 := Lib.hid h0
    clear HSW HCT HJD HSM HOK HER h0
    go_wp2_with fail
    refine (HAw.out _).mono ?_
    rintro e w2 ⟨rfl, hb1⟩
    have H2 := Lib.hid (H1.out.step hb1)
    clear hb1
    go_wp2_with fail
    go_ret
    exact ⟨rfl, H2.out.b⟩
  have q0 : ((l.length : Int) == 0) = false := by
    have : ¬ (l.length : Int) = 0 := by omega
    simpa using this
  clear HSM
  go_wp2_with fail
  refine (HSW.out _ H1.out.b).mono ?_
  rintro e w2 ⟨A2, c2, rfl, hq2, -, -, hb2⟩
  have H2 := Lib.hid (And.intro (H1.out.step hb2) hq2)
  clear hb2 hq2 x0 x1 x2 y0 u0 H1 HSW q0
  by_cases hse : se = 0
  rotate_left
  · have q1 : (se == 0) = false := by simpa using hse
    obtain rfl := HER.out hse
    have H3 := Lib.hid H2.out.1
    clear hse HER HOK HCT HJD H2
    go_wp2_with fail
    refine (HAw.out _).mono ?_
    rintro e w3 ⟨rfl, hb3⟩
    have H4 := Lib.hid (H3.out.step hb3)
    clear hb3
    go_wp2_with fail
    go_ret
    exact ⟨rfl, H4.out.b⟩
  subst hse
  obtain ⟨hct, hjb, hsw, hjd⟩ := HOK.out rfl
  subst hsw
  obtain ⟨jn, rfl⟩ : ∃ jn : Nat, j = (jn : Int) := ⟨j.toNat, by omega⟩
  simp only [Int.toNat_natCast] at H2 ⊢
  have hsl : (swingP r l jn).length = l.length := by simp [swingP]
  rw [hsl]
  have hjn : jn < nP l := by omega
  rw [hct] at HCT
  have hmix : Try.prog.follows .mixedOrders = true := by kernel_rfl
  have HCC := Lib.hid (fun w' (h : EQ W w' r A c l L k0 jn A2 ((swingP r l jn).map spp)) => (HCT.out w' h.e.b).mono (fun e w'' h' => (show e = .returned (.bool true) ∧ EQ W w'' r A c l L k0 jn A2 ((swingP r l jn).map spp) from ⟨h'.1, h.step h'.2⟩)))
  have HJJ := Lib.hid (fun w' (h : EQ W w' r A c l L k0 jn A2 ((swingP r l jn).map spp)) => (HJD.out w' h.e.b).mono (fun e w'' h' => (show e = .returned (.int .i64 (jdP l)) ∧ EQ W w'' r A c l L k0 jn A2 ((swingP r l jn).map spp) from ⟨h'.1, h.step h'.2⟩)))
  rw [hjd] at HJJ
  have HJN := Lib.hid (And.intro hjn hct)
  have g0 : decide ((jn : Int) < 0) = false := by simp
  have g2 : decide (nP l ≤ jn) = false := by simp; omega
  have g3 : decide ((jn : Int) ≥ (nP l : Int)) = false := by simp; omega
  have hcc := HCC.out
  have hjj := HJJ.out
  have hq0 : EQ W w2 r A c l L k0 jn A2 ((swingP r l jn).map spp) := ⟨H2.out.1, H2.out.2⟩
  have HQ0 := Lib.hid hq0
  have HLP := Lib.hid (show 0 < l.length by omega)
  clear H2 hq0
  go_upto_region 6 with fail
  haveI hne : Nonempty (Cls (fun w' => EQ W w' r A c l L k0 jn A2 ((swingP r l jn).map spp))) := ⟨⟨_, HQ0.out.drew⟩⟩
  have hx0 : ∀ pc : Cls (fun w' => EQ W w' r A c l L k0 jn A2 ((swingP r l jn).map spp)), pc.w.cell? ⟨W.heap.size, 0, none⟩ = some (.slice A r.bases.length c) := fun pc => pc.h.e.f4.cell 0
  have hx1 : ∀ pc : Cls (fun w' => EQ W w' r A c l L k0 jn A2 ((swingP r l jn).map spp)), pc.w.cell? ⟨W.heap.size, 1, none⟩ = some (.int .i64 r.factor) := fun pc => pc.h.e.f4.cell 1
  have hx2 : ∀ pc : Cls (fun w' => EQ W w' r A c l L k0 jn A2 ((swingP r l jn).map spp)), pc.w.cell? ⟨W.heap.size, 2, none⟩ = some (.int .i64 r.most) := fun pc => pc.h.e.f4.cell 2
  have hy0 : ∀ pc : Cls (fun w' => EQ W w' r A c l L k0 jn A2 ((swingP r l jn).map spp)), pc.w.cell? ⟨W.heap.size + 1, 0, none⟩ = some (.slice L l.length k0) := fun pc => pc.h.e.f5.cell 0
  have hu0 : ∀ pc : Cls (fun w' => EQ W w' r A c l L k0 jn A2 ((swingP r l jn).map spp)), pc.w.cell? ⟨W.heap.size + 1 + 1, 0, none⟩ = some (.int .i64 jn) := fun pc => pc.h.e.f6.cell 0
  clear hjb hjd hjn hsl hct
  refine wp_region_cls (fun w' => EQ W w' r A c l L k0 jn A2 ((swingP r l jn).map spp)) hmix (by kernel_rfl) HQ0.out.drew ?_
  repeat (quiet_step (first | (with_reducible exact cls_call hcc _) | (with_reducible exact cls_call hjj _)))
  refine wpQuiet_nil ?_
  rintro w7 ⟨⟨_, hw7⟩, rfl⟩
  try simp only []
  have H7 := Lib.hid hw7
  clear hw7 HQ0 hne hx0 hx1 hx2 hy0 hu0 g0 g2 g3 hcc hjj HCC HJJ HCT HJD
  have hn3 := HN3.out
  obtain ⟨K, hK⟩ : ∃ K, K = n3.toNat % l.length := ⟨_, rfl⟩
  have hKl : K < l.length := by rw [hK]; exact Nat.mod_lt _ HLP.out
  have hLz : ¬ (l.length : Int) = 0 := by have := HLP.out; omega
  have ec : IntKind.i64.wrap n3 = n3 := IntWalk.i64_in _ (by omega)
  have em : n3.tmod (l.length : Int) = (K : Int) := by
    rw [Int.tmod_eq_emod_of_nonneg hn3.1, hK]
    have h1 : n3 = ((n3.toNat : Nat) : Int) := by omega
    rw [Int.natCast_emod, ← h1]
  have y0 : w7.cell? ⟨W.heap.size + 1, 0, none⟩ = some (.slice L l.length k0) := H7.out.e.f5.cell 0
  obtain ⟨g, o, hg, hgs, c1, c2'⟩ := H7.out.q K (by simpa [swingP] using hKl)
  have hlo := mix_lo HJN.out.2 HJN.out.1 hKl
  have hhi := mix_hi HJN.out.2 HJN.out.1 hKl
  have hKs : K < (swingP r l jn).length := by simpa [swingP] using hKl
  rw [List.getElem?_eq_getElem hKs] at hlo hhi
  obtain ⟨z1, hz1⟩ : ∃ z, z = (swingP r l jn)[K].lo := ⟨_, rfl⟩
  obtain ⟨z2, hz2⟩ : ∃ z, z = (swingP r l jn)[K].hi := ⟨_, rfl⟩
  simp only [Option.map_some, ← hz1] at hlo
  simp only [Option.map_some, ← hz2] at hhi
  simp only [List.getElem_map, spp, ← hz1] at c1
  simp only [List.getElem_map, spp, ← hz2] at c2'
  have hP8 : Hid (EWP W (w7.alloc (.cells #[.int .i64 K] 3)) r A c l L k0 jn w7.heap.size K g (o + K * 2) z1 z2) :=
    Lib.hid ⟨H7.out.e.step (below_one _ _), Has.new _ _ _, by simp; omega, ((below_one w7 _).cell (p := ⟨g, _, none⟩) hgs).trans c1, ((below_one w7 _).cell (p := ⟨g, _, none⟩) hgs).trans c2'⟩
  have HLO := Lib.hid (And.intro hlo hhi)
  subst hg
  clear hK hgs c1 c2' hlo hhi hKs hz1 hz2 H7 hn3
  go_upto_region 9 with fail
  generalize w7.alloc (.cells #[.int .i64 K] 3) = w8 at hP8 ⊢
  generalize w7.heap.size = P at hP8 ⊢
  clear ec em hLz y0
  have HPT := Lib.hid (fun w' (h : EWP W w' r A c l L k0 jn P K g (o + K * 2) z1 z2) => (place32_any r A c l L k0 jn K true w' ((HRS.out.1.below h.e.b).more h.e.b.size) ((HRS.out.2.below h.e.b).more h.e.b.size) HJN.out.2 HJN.out.1 hl8 hKl _ P _ _ h.e.f5 h.p h.e.f4 h.e.f6).mono (fun e w'' h' => (show e = .returned (.int .i64 z1) ∧ EWP W w'' r A c l L k0 jn P K g (o + K * 2) z1 z2 from ⟨by rw [h'.1, List.getD_eq_getElem?_getD, HLO.out.1]; rfl, h.step h'.2⟩)))
  have HPF := Lib.hid (fun w' (h : EWP W w' r A c l L k0 jn P K g (o + K * 2) z1 z2) => (place32_any r A c l L k0 jn K false w' ((HRS.out.1.below h.e.b).more h.e.b.size) ((HRS.out.2.below h.e.b).more h.e.b.size) HJN.out.2 HJN.out.1 hl8 hKl _ P _ _ h.e.f5 h.p h.e.f4 h.e.f6).mono (fun e w'' h' => (show e = .returned (.int .i64 z2) ∧ EWP W w'' r A c l L k0 jn P K g (o + K * 2) z1 z2 from ⟨by rw [h'.1, List.getD_eq_getElem?_getD, HLO.out.2]; rfl, h.step h'.2⟩)))
  have HAL := Lib.hid (fun w' (h : EWP W w' r A c l L k0 jn P K g (o + K * 2) z1 z2) => (HAw.out w').mono (fun e w'' h' => (show e = .returned (.bool true) ∧ EWP W w'' r A c l L k0 jn P K g (o + K * 2) z1 z2 from ⟨h'.1, h.step h'.2⟩)))
  go_upto_region 10 with fail
  haveI hne : Nonempty (Cls (fun w' => EWP W w' r A c l L k0 jn P K g (o + K * 2) z1 z2)) := ⟨⟨_, hP8.out.drew⟩⟩
  have hx0 : ∀ pc : Cls (fun w' => EWP W w' r A c l L k0 jn P K g (o + K * 2) z1 z2), pc.w.cell? ⟨P, 0, none⟩ = some (.int .i64 K) := fun pc => pc.h.p.cell 0
  have hx1 : ∀ pc : Cls (fun w' => EWP W w' r A c l L k0 jn P K g (o + K * 2) z1 z2), pc.w.cell? ⟨g, o + K * 2, none⟩ = some (.int .i64 z1) := fun pc => pc.h.c1
  have hx2 : ∀ pc : Cls (fun w' => EWP W w' r A c l L k0 jn P K g (o + K * 2) z1 z2), pc.w.cell? ⟨g, o + K * 2 + 1, none⟩ = some (.int .i64 z2) := fun pc => pc.h.c2
  have hK2 : (K : Int) < l.length := by omega
  have ht := HPT.out
  have hf := HPF.out
  have ha := HAL.out
  refine wp_region_cls (fun w' => EWP W w' r A c l L k0 jn P K g (o + K * 2) z1 z2) hmix (by kernel_rfl) hP8.out.drew ?_
  repeat (quiet_step (first | (with_reducible exact cls_call ht _) | (with_reducible exact cls_call hf _) | (with_reducible exact cls_call ha _)))
  refine wpQuiet_nil ?_
  rintro w9 ⟨⟨_, hw9⟩, rfl⟩
  try simp only []
  have H9 := Lib.hid hw9
  clear hw9 hne hx0 hx1 hx2 ht hf ha
  go_wp2_with fail
  go_ret
  exact ⟨rfl, H9.out.e.b⟩
end Go.Proofs.Ytmclchaalmonnaa
