/- The law of a judge's swing. -/
import Derived.Test.YtmclchaalmonnaaSwA
namespace Go.Proofs.Ytmclchaalmonnaa
open Go.RowKit Go.Lib
attribute [local irreducible] wpQuiet
theorem swing_ok2 {r : Ru} {l : List Sk} {j : Int} (h : (swingR r l j).2 = 0) : contestB r l = true ∧ (0 ≤ j ∧ j < nP l) ∧ (swingR r l j).1 = swingP r l j.toNat ∧ jdP l = nP l := by
  unfold swingR at h ⊢
  by_cases h1 : (inspP r l).2 = 0
  rotate_left
  · rw [if_pos h1] at h; exact absurd h h1
  rw [if_neg (by simpa using h1)] at h ⊢
  have hi := (insp_ok h1).2.2.2
  have hc : contestB r l = true := by
    unfold inspP at h1
    split at h1
    · cases h1
    · split at h1
      · assumption
      · cases h1
  by_cases h2 : inB j 0 ((inspP r l).1 - 1) = true
  rotate_left
  · rw [if_neg h2] at h; exact absurd h (by decide)
  rw [if_pos h2]
  rw [hi] at h2
  have hj : 0 ≤ j ∧ j < nP l := by simp [inB] at h2; omega
  refine ⟨hc, hj, rfl, ?_⟩
  unfold jdP nP at *
  cases hp : judgesP l with
  | none => rw [hp] at hj; simp at hj; omega
  | some n => simp
theorem swing_err2 {r : Ru} {l : List Sk} {j : Int} (h : (swingR r l j).2 ≠ 0) : (swingR r l j).1 = [] := by
  unfold swingR at h ⊢
  split at h <;> rename_i h1
  · rw [if_pos h1]
  · rw [if_neg h1]
    split at h <;> rename_i h2
    · exact absurd rfl h
    · rw [if_neg h2]
/-- a round of the first loop: all that lies fixed, the copy of a skating, a score -/
structure SS5 (W w5 w : World) (B5 : Nat) (r : Ru) (A : Option Addr) (c E D1 : Nat) (x : Sk) (AC AP : Option Addr) (cc cp : Nat) (xa : Sc) (v1 v2 : Value) (b1 b2 : List Sc) : Prop where
  b : Below W.heap.size W w
  b5 : Below B5 w5 w
  fr : Has w W.heap.size 24 (ruc r A c)
  fe : Has w E 28 (skc x AC AP cc cp)
  fd : Has w D1 33 (scc xa)
  t : TwoR w B5 v1 v2 b1 b2
  h5 : B5 ≤ w.heap.size
theorem SS5.step {W w5 w w' : World} {B5 : Nat} {r : Ru} {A : Option Addr} {c E D1 : Nat} {x : Sk} {AC AP : Option Addr} {cc cp : Nat} {xa : Sc} {v1 v2 : Value} {b1 b2 : List Sc} (h : SS5 W w5 w B5 r A c E D1 x AC AP cc cp xa v1 v2 b1 b2) (hb : Below w.heap.size w w') : SS5 W w5 w' B5 r A c E D1 x AC AP cc cp xa v1 v2 b1 b2 :=
  ⟨h.b.trans (hb.mono h.b.size), h.b5.trans (hb.mono h.h5), h.fr.below hb h.fr.lt, h.fe.below hb h.fe.lt, h.fd.below hb h.fd.lt, h.t.step hb, Nat.le_trans h.h5 hb.size⟩
/-- the two rows, ahead of their appends -/
structure SA5 (W w5 w : World) (B5 H8 : Nat) (r : Ru) (A : Option Addr) (c : Nat) (v1 v2 : Value) (b1 b2 : List Sc) : Prop where
  b : Below W.heap.size W w
  b5 : Below B5 w5 w
  t : TwoR w B5 v1 v2 b1 b2
  h5 : B5 ≤ w.heap.size
  hW : W.heap.size ≤ B5
section
variable {W w5 w w' : World} {B5 H8 : Nat} {r : Ru} {A : Option Addr} {c : Nat} {v1 v2 : Value} {b1 b2 : List Sc}
theorem SA5.step (h : SA5 W w5 w B5 H8 r A c v1 v2 b1 b2) (hb : Below w.heap.size w w') : SA5 W w5 w' B5 H8 r A c v1 v2 b1 b2 := ⟨h.b.trans (hb.mono h.b.size), h.b5.trans (hb.mono h.h5), h.t.step hb, Nat.le_trans h.h5 hb.size, h.hW⟩
theorem SA5.app1 {g cap H : Nat} {x : Sc} (h : SA5 W w5 w B5 H8 r A c v1 v2 b1 b2) (hH : w.heap.size = H) (hown : w'.ownsRow B5 33 4 (.slice (some ⟨g, 0, none⟩) (b1.length + 1) cap) (b1.length + 1) (nvl scc b1 ++ nvl scc [x])) (hgr : w.grownBy w' v1.ownBlock) (hg : v1.ownBlock = some g ∨ g = H) : SA5 W w5 w' B5 H8 r A c (.slice (some ⟨g, 0, none⟩) (b1.length + 1) cap) v2 (b1 ++ [x]) b2 := by
  have hb : Below B5 w w' := grown_step hgr h.h5 (fun b hb => (own_block h.t.o1 b hb).1)
  exact ⟨h.b.trans (hb.mono h.hW), h.b5.trans hb, h.t.app1 hH hown hgr hg, Nat.le_trans h.h5 hb.size, h.hW⟩
theorem SA5.app2 {g cap H : Nat} {x : Sc} (h : SA5 W w5 w B5 H8 r A c v1 v2 b1 b2) (hH : w.heap.size = H) (hown : w'.ownsRow B5 33 4 (.slice (some ⟨g, 0, none⟩) (b2.length + 1) cap) (b2.length + 1) (nvl scc b2 ++ nvl scc [x])) (hgr : w.grownBy w' v2.ownBlock) (hg : v2.ownBlock = some g ∨ g = H) : SA5 W w5 w' B5 H8 r A c v1 (.slice (some ⟨g, 0, none⟩) (b2.length + 1) cap) b1 (b2 ++ [x]) := by
  have hb : Below B5 w w' := grown_step hgr h.h5 (fun b hb => (own_block h.t.o2 b hb).1)
  exact ⟨h.b.trans (hb.mono h.hW), h.b5.trans hb, h.t.app2 hH hown hgr hg, Nat.le_trans h.h5 hb.size, h.hW⟩
end
theorem has_kept {w w' : World} {b : Nat} {o : Option Nat} {t : TypeId} {cs : Array Value} (hg : w.grownBy w' o) (h : Has w b t cs) (ho : ∀ q, o = some q → q < b) : Has w' b t cs := by
  have := hg.block b h.lt (fun e => by have := ho b e.symm; omega)
  unfold Has at h ⊢
  rw [this]; exact h
theorem QRow.at {w : World} {B : Nat} {A : Option Addr} {m : List Sp} (h : QRow w B A (m.map spp)) {k : Nat} {s : Sp} (hs : m[k]? = some s) : ∃ g o, A = some ⟨g, o, none⟩ ∧ g < B ∧ w.cell? ⟨g, o + k * 2, none⟩ = some (.int .i64 s.lo) ∧ w.cell? ⟨g, o + k * 2 + 1, none⟩ = some (.int .i64 s.hi) := by
  obtain ⟨hk, rfl⟩ := List.getElem?_eq_some_iff.1 hs
  obtain ⟨g, o, e, hg, c0, c1⟩ := h k (by rw [List.length_map]; exact hk)
  simp only [List.getElem_map, spp] at c0 c1
  exact ⟨g, o, e, hg, c0, c1⟩
theorem IRow.at {w : World} {B : Nat} {A : Option Addr} {m : List Int} (h : IRow w B A m) {k : Nat} {x : Int} (hs : m[k]? = some x) : ∃ g o, A = some ⟨g, o, none⟩ ∧ g < B ∧ w.cell? ⟨g, o + k, none⟩ = some (.int .i64 x) := by
  obtain ⟨hk, rfl⟩ := List.getElem?_eq_some_iff.1 hs
  exact h k hk
theorem rip_row {l : List Int} {w w' : World} {A : Option Addr} (h : ∀ k (h : k < l.length), ∃ g o, A = some ⟨g, o, none⟩ ∧ w.heap.size ≤ g ∧ g < w'.heap.size ∧ w'.cell? ⟨g, o + k, none⟩ = some (.int .i64 l[k])) : IRow w' w'.heap.size A l := fun k hk => by
  obtain ⟨g, o, e, -, hg, c⟩ := h k hk
  exact ⟨g, o, e, hg, c⟩
theorem ScRow.more {w : World} {B B' : Nat} {A : Option Addr} {l : List Sc} (h : ScRow w B A l) (hB : B ≤ B') : ScRow w B' A l := fun k hk => by
  obtain ⟨g, o, e, hg, c⟩ := h k hk
  exact ⟨g, o, e, Nat.lt_of_lt_of_le hg hB, c⟩
/-- behind the swings: the rows of both rankings -/
structure SwE (W w : World) (r : Ru) (l : List Sk) (jn : Nat) (ol x y : List Int) (A2 A3 A4 A5 : Option Addr) : Prop where
  b : Below W.heap.size W w
  q : QRow w w.heap.size A2 ((swingP r l jn).map spp)
  o : IRow w w.heap.size A3 ol
  x : IRow w w.heap.size A4 x
  y : IRow w w.heap.size A5 y
/-- a round of the second loop -/
structure SwF (W w22 w : World) (P : Nat) (s : Sp) : Prop where
  b : Below W.heap.size W w
  b2 : Below w22.heap.size w22 w
  p : Has w P 56 #[.int .i64 s.lo, .int .i64 s.hi]
theorem SwF.drew {W w22 w : World} {P : Nat} {s : Sp} (h : SwF W w22 w P s) : SwF W w22 w.drew P s := ⟨h.b.drew, h.b2.drew, h.p.drew⟩
set_option maxRecDepth 100000 in
set_option maxHeartbeats 24000000 in
theorem swingLaw_any (r : Ru) (A : Option Addr) (c : Nat) (l : List Sk) (L : Option Addr) (k0 : Nat) (j first : Int) (by_ : List Int) (AB : Option Addr) (cb : Nat) (W : World) (hr : RuR W W.heap.size r A) (hs : SRow W W.heap.size L l) (hl : l.length ≤ big) (hbl : by_.length ≤ 9223372036854775807) (hbr : ∀ x ∈ by_, 0 ≤ x ∧ x ≤ 255) (hby : BRow W W.heap.size AB by_) :
    Calls Try.prog 7 #[ruv r A c, .slice L l.length k0, .int .i64 j, .int .i64 first, .slice AB by_.length cb] W (BoolPost true W) := by
  obtain ⟨i0, hi, hz0, hz1, hz2⟩ := info_parts Try.info33
  have HB : Hid (Below W.heap.size W (W.alloc (.cells (ruc r A c) 24)) ∧ Has (W.alloc (.cells (ruc r A c) 24)) W.heap.size 24 (ruc r A c)) := Lib.hid ⟨below_one W _, Has.new _ _ _⟩
  have HG := Lib.hid (fun w (h : Below W.heap.size W w) => great_any l L k0 8 w (by omega) ((hs.below h).more h.size) hl)
  have HAw := Lib.hid (fun w => alive_any w)
  have HSW := Lib.hid (fun w (h : Below W.heap.size W w) => Swing_any r A c l L k0 j w ((hr.below h).more h.size) ((hs.below h).more h.size) hl)
  have HOP := Lib.hid (fun w (h : Below W.heap.size W w) => Open_any r A c l L k0 first w ((hr.below h).more h.size) ((hs.below h).more h.size) hl)
  have HCT := Lib.hid (fun w (h : Below W.heap.size W w) => Contest_any r A c l L k0 w ((hr.below h).more h.size) ((hs.below h).more h.size) hl)
  have HJD := Lib.hid (fun w (h : Below W.heap.size W w) => Judges_any l L k0 w ((hs.below h).more h.size) hl)
  have HSM : Hid (greatB l 8 = false → l.length ≤ 8) := Lib.hid fun h => (not_great h).1
  have HRS := Lib.hid (And.intro hr (And.intro hs (And.intro hby hbr)))
  have HOK := Lib.hid (swing_ok2 (r := r) (l := l) (j := j))
  have HER := Lib.hid (swing_err2 (r := r) (l := l) (j := j))
  have HOM := Lib.hid (fun jn i s => open_mem (r := r) (l := l) (first := first) (j := jn) (i := i) (s := s))
  have hol : (openR r l first).1.length ≤ l.length := by
    unfold openR
    split
    · simp
    · split
      · simp only [openP, List.length_map]
        refine Nat.le_trans (List.length_filter_le _ _) ?_
        simp
      · simp
  have hrl := hr.l
  unfold big at hrl hl
  obtain ⟨X, hX⟩ : ∃ X, X = swingR r l j := ⟨_, rfl⟩
  rw [← hX] at HSW HOK HER
  obtain ⟨Y, hY⟩ : ∃ Y, Y = openR r l first := ⟨_, rfl⟩
  rw [← hY] at HOP HOM hol
  obtain ⟨sw, se⟩ := X
  obtain ⟨ol, oe⟩ := Y
  generalize greatB l 8 = G at HG HSM
  unfold BoolPost at HG HAw HCT
  unfold SwEPost at HSW
  unfold RI2 at HOP
  unfold IntPost at HJD
  dsimp only at HSW HOK HER HG HOP HOM hol
  clear hr hs hX hY hby hbr
  unfold ruv at *
  go_enter Try.func7, Try.ntmps7
  go_upto_region 1 with fail
  generalize W.alloc (.cells (ruc r A c) 24) = w0 at HB ⊢
  have x0 : w0.cell? ⟨W.heap.size, 0, none⟩ = some (.slice A r.bases.length c) := HB.out.2.cell 0
  have x1 : w0.cell? ⟨W.heap.size, 1, none⟩ = some (.int .i64 r.factor) := HB.out.2.cell 1
  have x2 : w0.cell? ⟨W.heap.size, 2, none⟩ = some (.int .i64 r.most) := HB.out.2.cell 2
  by_cases h80 : (80 : Int) < r.bases.length
  · go_wp2_with fail
    refine (HAw.out _).mono ?_
    rintro e w1 ⟨rfl, hb1⟩
    have H1z := Lib.hid (HB.out.1.trans (hb1.mono HB.out.1.size))
    clear hb1
    go_wp2_with fail
    go_ret
    exact ⟨rfl, H1z.out⟩
  go_wp2_with fail
  refine (HG.out _ HB.out.1).mono ?_
  rintro e w1 ⟨rfl, hb1⟩
  have H1 := Lib.hid (show Below W.heap.size W w1 ∧ Has w1 W.heap.size 24 (ruc r A c) from ⟨HB.out.1.trans (hb1.mono HB.out.1.size), HB.out.2.below hb1 HB.out.2.lt⟩)
  clear hb1 x0 x1 x2 HB HG h80
  cases G
  rotate_left
  · go_wp2_with fail
    refine (HAw.out _).mono ?_
    rintro e w1 ⟨rfl, hb1⟩
    have H1z := Lib.hid (H1.out.1.trans (hb1.mono H1.out.1.size))
    clear hb1
    go_wp2_with fail
    go_ret
    exact ⟨rfl, H1z.out⟩
  have hl8 := HSM.out rfl
  clear HSM
  by_cases hb0 : by_.length = 0
  · have q0 : ((by_.length : Int) == 0) = true := by simp [hb0]
    have HQ := Lib.hid hb0
    clear hb0
    go_wp2_with fail
    refine (HAw.out _).mono ?_
    rintro e w1 ⟨rfl, hb1⟩
    have H1z := Lib.hid (H1.out.1.trans (hb1.mono H1.out.1.size))
    clear hb1
    go_wp2_with fail
    go_ret
    exact ⟨rfl, H1z.out⟩
  have q0 : ((by_.length : Int) == 0) = false := by
    have : ¬ (by_.length : Int) = 0 := by omega
    simpa using this
  have HQ := Lib.hid hb0
  clear hb0
  have x0 : w1.cell? ⟨W.heap.size, 0, none⟩ = some (.slice A r.bases.length c) := H1.out.2.cell 0
  have x1 : w1.cell? ⟨W.heap.size, 1, none⟩ = some (.int .i64 r.factor) := H1.out.2.cell 1
  have x2 : w1.cell? ⟨W.heap.size, 2, none⟩ = some (.int .i64 r.most) := H1.out.2.cell 2
  go_wp2_with fail
  refine (HSW.out _ H1.out.1).mono ?_
  rintro e w2 ⟨A2, c2, rfl, hq2, -, -, hb2⟩
  have H2 := Lib.hid (show Below W.heap.size W w2 ∧ Has w2 W.heap.size 24 (ruc r A c) ∧ QRow w2 w2.heap.size A2 (sw.map spp) from ⟨H1.out.1.trans (hb2.mono H1.out.1.size), H1.out.2.below hb2 H1.out.2.lt, hq2⟩)
  clear hb2 hq2 x0 x1 x2 H1 HSW q0
  have x0 : w2.cell? ⟨W.heap.size, 0, none⟩ = some (.slice A r.bases.length c) := H2.out.2.1.cell 0
  have x1 : w2.cell? ⟨W.heap.size, 1, none⟩ = some (.int .i64 r.factor) := H2.out.2.1.cell 1
  have x2 : w2.cell? ⟨W.heap.size, 2, none⟩ = some (.int .i64 r.most) := H2.out.2.1.cell 2
  go_wp2_with fail
  refine (HOP.out _ H2.out.1).mono ?_
  rintro e w3 ⟨A3, c3, rfl, hr3, hb3⟩
  have H3 := Lib.hid (show Below W.heap.size W w3 ∧ Has w3 W.heap.size 24 (ruc r A c) ∧ QRow w3 w3.heap.size A2 (sw.map spp) ∧ IRow w3 w3.heap.size A3 ol from ⟨H2.out.1.trans (hb3.mono H2.out.1.size), H2.out.2.1.below hb3 H2.out.2.1.lt, H2.out.2.2.step hb3, hr3⟩)
  clear hb3 hr3 x0 x1 x2 H2 HOP
  by_cases hse : se = 0
  rotate_left
  · have q1 : (se == 0) = false := by simpa using hse
    have q2 : (se != 0) = true := by simpa using hse
    obtain rfl := HER.out hse
    clear hse HER HOK HCT HJD
    go_wp2_with fail
    refine (HAw.out _).mono ?_
    rintro e w1 ⟨rfl, hb1⟩
    have H1z := Lib.hid (H3.out.1.trans (hb1.mono H3.out.1.size))
    clear hb1
    go_wp2_with fail
    go_ret
    exact ⟨rfl, H1z.out⟩
  subst hse
  obtain ⟨hct, hjb, hsw, hjd⟩ := HOK.out rfl
  subst hsw
  obtain ⟨jn, rfl⟩ : ∃ jn : Nat, j = (jn : Int) := ⟨j.toNat, by omega⟩
  simp only [Int.toNat_natCast] at H3 ⊢
  have hsl : (swingP r l jn).length = l.length := by simp [swingP]
  rw [hsl]
  have hjn : jn < nP l := by omega
  rw [hct] at HCT
  rw [hjd] at HJD
  have HJN := Lib.hid (And.intro hct hjn)
  have hm : ¬ (nP l : Int) ≤ (jn : Int) := by omega
  have HSL := Lib.hid hsl
  have x0 : w3.cell? ⟨W.heap.size, 0, none⟩ = some (.slice A r.bases.length c) := H3.out.2.1.cell 0
  have x1 : w3.cell? ⟨W.heap.size, 1, none⟩ = some (.int .i64 r.factor) := H3.out.2.1.cell 1
  have x2 : w3.cell? ⟨W.heap.size, 2, none⟩ = some (.int .i64 r.most) := H3.out.2.1.cell 2
  clear hjd hjb hsl HOK HER hjn hct
  go_wp2_with fail
  refine (HCT.out _ H3.out.1).mono ?_
  rintro e w4 ⟨rfl, hb4⟩
  have H4 := Lib.hid (show Below W.heap.size W w4 ∧ Has w4 W.heap.size 24 (ruc r A c) ∧ QRow w4 w4.heap.size A2 ((swingP r l jn).map spp) ∧ IRow w4 w4.heap.size A3 ol from ⟨H3.out.1.trans (hb4.mono H3.out.1.size), H3.out.2.1.below hb4 H3.out.2.1.lt, H3.out.2.2.1.step hb4, H3.out.2.2.2.step hb4⟩)
  clear hb4 x0 x1 x2 H3 HCT
  go_wp2_with fail
  refine (HJD.out _ H4.out.1).mono ?_
  rintro e w5 ⟨rfl, hb5⟩
  have H5 := Lib.hid (show Below W.heap.size W w5 ∧ Has w5 W.heap.size 24 (ruc r A c) ∧ QRow w5 w5.heap.size A2 ((swingP r l jn).map spp) ∧ IRow w5 w5.heap.size A3 ol from ⟨H4.out.1.trans (hb5.mono H4.out.1.size), H4.out.2.1.below hb5 H4.out.2.1.lt, H4.out.2.2.1.step hb5, H4.out.2.2.2.step hb5⟩)
  clear hb5 H4 HJD
  go_upto_region 9 with fail
  clear hm
  obtain ⟨B5, hB5⟩ : ∃ B5, B5 = w5.heap.size := ⟨_, rfl⟩
  rw [← hB5] at H5
  have HBB := Lib.hid (show B5 = w5.heap.size ∧ W.heap.size < B5 from ⟨hB5, by rw [hB5]; exact H5.out.2.1.lt⟩)
  have hlen : ∀ s ∈ l, (∀ q ∈ s.calls, jn < q.marks.length ∧ q.marks.length ≤ 1000) ∧ (∀ m ∈ s.parts, jn < m.length ∧ m.length ≤ 1000) ∧ s.calls.length ≤ 1000 ∧ s.parts.length ≤ 1000 := fun s hsm => by
    have h1 := contest_each HJN.out.1 s hsm
    have h2 := (contest_ok HJN.out.1).2 s hsm
    have h3 := HJN.out.2
    obtain ⟨l1, l2⟩ := h1.len
    refine ⟨fun q hq => ?_, fun m hm => ?_, by have := h2.nc; omega, by have := h2.np; omega⟩
    · rw [l1 q hq]; have := (h2.c q hq).1.l9; rw [l1 q hq] at this; omega
    · rw [l2 m hm]; have := (h2.p m hm).2.1; rw [l2 m hm] at this; omega
  have HCG := Lib.hid (fun (x : Sk) (hx : x ∈ l) AC AP cc cp (z : Nat) (hz : z ≤ 1000) w (h : Below W.heap.size W w) (hsk : SkR w w.heap.size x AC AP) => changed_any x AC AP cc cp jn by_ AB cb z w hsk (hlen x hx).2.2.1 (hlen x hx).2.2.2 (hlen x hx).1 (hlen x hx).2.1 (fun k hk => by obtain ⟨g, o, e, hg, c⟩ := (HRS.out.2.2.1.below h) k hk; exact ⟨g, o, e, Nat.lt_of_lt_of_le hg h.size, c⟩) (by have := HQ.out; omega) hbl HRS.out.2.2.2 hz)
  unfold MkPost at HCG
  have HPA := Lib.hid (fun (x : Sk) (hx : x ∈ l) AC AP cc cp w (h : Below W.heap.size W w) (hsk : SkR w w.heap.size x AC AP) => (show Calls Try.prog 14 #[ruv r A c, skv x AC AP cc cp] w (SEPost (progP r x, 0) w) from by
    have h9 := Program_any r A c x AC AP cc cp w ((HRS.out.1.below h).more h.size) hsk
    rwa [progR_one (contest_one.2 ⟨_, contest_each HJN.out.1 x hx⟩)] at h9))
  have HPB := Lib.hid (fun (x : Sk) (hx : x ∈ l) (z : Nat) AC AP cc cp w (h : Below W.heap.size W w) (hsk : SkR w w.heap.size (changedS x jn by_ z) AC AP) => (show Calls Try.prog 14 #[ruv r A c, skv (changedS x jn by_ z) AC AP cc cp] w (SEPost (progP r (changedS x jn by_ z), 0) w) from by
    have h9 := Program_any r A c (changedS x jn by_ z) AC AP cc cp w ((HRS.out.1.below h).more h.size) hsk
    rwa [progR_one (show contestB r [changedS x jn by_ z] = true from put_ok (fun i _ => chF_rng by_ z i) (fun i _ => chG_rng by_ z i) (contest_one.2 ⟨_, contest_each HJN.out.1 x hx⟩))] at h9))
  unfold SEPost ruv skv scv at HPA HPB
  unfold skv at HCG
  dsimp only at HPA HPB
  clear hlen hB5
  go_wp2_with fail
  have hd1 : decide (nP l ≤ jn) = false := by have := HJN.out.2; simp; omega
  have hd2 : decide ((jn : Int) < 0) = false := by simp
  simp only [hd1, hd2, Bool.or_self]
  clear hd1 hd2
  go_loopg [91, 15, 16] l.length (fun gk i v1 v2 wr => ∃ k : Nat, k ≤ l.length ∧ l.length - k ≤ gk ∧ i = .int .i64 k ∧ ∃ b1 b2, Hid (Below W.heap.size W wr ∧ Below B5 w5 wr ∧ Has wr W.heap.size 24 (ruc r A c) ∧ TwoR wr B5 v1 v2 b1 b2 ∧ B5 ≤ wr.heap.size ∧ b1 = (l.take k).map (progP r) ∧ b2 = (l.take k).mapIdx (fun i s => progP r (changedS s jn by_ (3 * i)))))
  case atStart => exact ⟨0, Nat.zero_le _, Nat.le_refl _, rfl, [], [], Lib.hid ⟨H5.out.1, Below.refl _ _, H5.out.2.1, ⟨own_nil _ _ _ _, own_nil _ _ _ _, fun b hb => by cases hb⟩, Nat.le_of_eq HBB.out.1, by simp, by simp⟩⟩
  case round =>
    obtain ⟨k, hk, hgk, rfl, b1, b2, HW⟩ := hrel
    by_cases hlt : k < l.length
    rotate_left
    · have hge : ¬ (k : Int) < l.length := by omega
      obtain rfl : k = l.length := by omega
      have HBE : Hid (b1 = beforeP r l ∧ b2 = behindP r l jn by_) := Lib.hid ⟨by have := HW.out.2.2.2.2.2.1; rw [List.take_length] at this; exact this, by have := HW.out.2.2.2.2.2.2; rw [List.take_length] at this; exact this⟩
      clear hk hgk hlt HCG HPA HPB
      have hmix : Try.prog.follows .mixedOrders = true := by kernel_rfl
      obtain ⟨Aa, ca, rfl, ra⟩ := scrow_own HW.out.2.2.2.1.o1
      obtain ⟨Ab, cb2, rfl, rb⟩ := scrow_own HW.out.2.2.2.1.o2
      have HLB : Hid (b1.length = l.length ∧ b2.length = l.length) := Lib.hid ⟨by rw [HBE.out.1]; simp [beforeP], by rw [HBE.out.2]; simp [behindP]⟩
      have HRK := Lib.hid (fun (M : List Sc) A' k' w (hM : M.length = l.length) (ha : ScRow w w.heap.size A' M) => (show Calls Try.prog 19 #[.slice A' M.length k'] w (RIPost (ranksP M, 0) w) from by
        have h := Ranks_any M A' k' w ha (by unfold big; omega)
        rwa [show ranksR M = (ranksP M, 0) from by unfold ranksR; rw [if_neg (by omega)]] at h))
      unfold RIPost at HRK
      have H20 := Lib.hid (show Below W.heap.size W wr ∧ QRow wr wr.heap.size A2 ((swingP r l jn).map spp) ∧ IRow wr wr.heap.size A3 ol ∧ ScRow wr wr.heap.size Aa b1 ∧ ScRow wr wr.heap.size Ab b2 from ⟨HW.out.1, (H5.out.2.2.1.below HW.out.2.1).more HW.out.2.2.2.2.1, (H5.out.2.2.2.below HW.out.2.1).more HW.out.2.2.2.2.1, ra, rb⟩)
      clear ra rb HW H5 HBB
      go_wp2_with fail
      refine (HRK.out _ _ _ _ HLB.out.1 H20.out.2.2.2.1).mono ?_
      rintro e w20 ⟨A4, c4, rfl, hr20, -, hb20⟩
      have H21 := Lib.hid (show Below W.heap.size W w20 ∧ QRow w20 w20.heap.size A2 ((swingP r l jn).map spp) ∧ IRow w20 w20.heap.size A3 ol ∧ IRow w20 w20.heap.size A4 (ranksP b1) ∧ ScRow w20 w20.heap.size Ab b2 from ⟨H20.out.1.trans (hb20.mono H20.out.1.size), H20.out.2.1.step hb20, H20.out.2.2.1.step hb20, rip_row hr20, (H20.out.2.2.2.2.below hb20).more hb20.size⟩)
      clear hr20 hb20 H20
      have hp1 : (ranksP b1).length = l.length := by rw [← HLB.out.1]; simp [ranksP]
      dsimp only
      rw [hp1]
      go_wp2_with fail
      refine (HRK.out _ _ _ _ HLB.out.2 H21.out.2.2.2.2).mono ?_
      rintro e w22 ⟨A5, c5, rfl, hr22, -, hb22⟩
      have H22 := Lib.hid (show SwE W w22 r l jn ol (ranksP b1) (ranksP b2) A2 A3 A4 A5 from ⟨H21.out.1.trans (hb22.mono H21.out.1.size), H21.out.2.1.step hb22, H21.out.2.2.1.step hb22, H21.out.2.2.2.1.step hb22, rip_row hr22⟩)
      clear hr22 hb22 H21 HRK hp1
      have hp2 : (ranksP b2).length = l.length := by rw [← HLB.out.2]; simp [ranksP]
      dsimp only
      rw [hp2]
      clear hp2
      go_wp2_with fail
      go_loopg [160] l.length (fun gk i wr => ∃ k : Nat, k ≤ l.length ∧ l.length - k ≤ gk ∧ i = .int .i64 k ∧ Hid (Below W.heap.size W wr ∧ Below w22.heap.size w22 wr))
      case atStart => exact ⟨0, Nat.zero_le _, Nat.le_refl _, rfl, Lib.hid ⟨H22.out.b, Below.refl _ _⟩⟩
      case round =>
        obtain ⟨k, hk, hgk, rfl, HW2⟩ := hrel
        by_cases hlt : k < l.length
        rotate_left
        · have hge : ¬ (k : Int) < l.length := by omega
          go_wp2_with fail
          refine (HAw.out _).mono ?_
          rintro e w1 ⟨rfl, hb1⟩
          have H1z := Lib.hid (HW2.out.1.trans (hb1.mono HW2.out.1.size))
          clear hb1
          go_wp2_with fail
          go_ret
          exact ⟨rfl, H1z.out⟩
        have hlt2 : (k : Int) < l.length := by omega
        as_aux_lemma =>
          obtain ⟨s, hs⟩ : ∃ s, (swingP r l jn)[k]? = some s := ⟨_, List.getElem?_eq_getElem (by rw [HSL.out]; exact hlt)⟩
          obtain ⟨x, y, hx, hy, e1, e2, e3, e4, e5, e6⟩ := both_in (by_ := by_) HJN.out.1 HJN.out.2 hlt hs
          rw [← HBE.out.1] at hx
          rw [← HBE.out.2] at hy
          obtain ⟨gs, os, hgs, hgB, cs0, cs1⟩ := H22.out.q.at hs
          obtain ⟨gx, ox, hgx, hgxB, cx⟩ := H22.out.x.at hx
          obtain ⟨gy, oy, hgy, hgyB, cy⟩ := H22.out.y.at hy
          have HGB := Lib.hid (And.intro hgxB hgyB)
          have HCX := Lib.hid (And.intro cx cy)
          have HES := Lib.hid (show 1 ≤ s.lo ∧ s.lo ≤ x ∧ x ≤ s.hi ∧ s.lo ≤ y ∧ y ≤ s.hi ∧ s.hi ≤ l.length from ⟨e1, e2, e3, e4, e5, e6⟩)
          have HS := Lib.hid hs
          have z0 : wr.cell? ⟨gs, os + k * 2, none⟩ = some (.int .i64 s.lo) := (HW2.out.2.cell (p := ⟨gs, _, none⟩) hgB).trans cs0
          have z1 : wr.cell? ⟨gs, os + k * 2 + 1, none⟩ = some (.int .i64 s.hi) := (HW2.out.2.cell (p := ⟨gs, _, none⟩) hgB).trans cs1
          subst hgs hgx hgy
          clear hx hy hs e1 e2 e3 e4 e5 e6 hgB hgxB hgyB cs0 cs1 cx cy hk
          have H26 : Hid (SwF W w22 (wr.alloc (.cells #[.int .i64 s.lo, .int .i64 s.hi] 56)) wr.heap.size s) := Lib.hid ⟨HW2.out.1.trans ((below_one _ _).mono HW2.out.1.size), HW2.out.2.trans ((below_one _ _).mono HW2.out.2.size), Has.new _ _ _⟩
          clear HW2
          go_upto_region 26 with fail
          generalize wr.alloc (.cells #[.int .i64 s.lo, .int .i64 s.hi] 56) = w26 at H26 ⊢
          generalize wr.heap.size = P at H26 ⊢
          clear z0 z1
          have g0 : decide (s.lo < 1) = false := by have := HES.out; simp; omega
          have g1 : decide (x < s.lo) = false := by have := HES.out; simp; omega
          have g1' : decide (s.lo > x) = false := by have := HES.out; simp; omega
          have g2 : decide (s.hi < x) = false := by have := HES.out; simp; omega
          have g2' : decide (x > s.hi) = false := by have := HES.out; simp; omega
          have g3 : decide (y < s.lo) = false := by have := HES.out; simp; omega
          have g3' : decide (s.lo > y) = false := by have := HES.out; simp; omega
          have g4 : decide (s.hi < y) = false := by have := HES.out; simp; omega
          have g4' : decide (y > s.hi) = false := by have := HES.out; simp; omega
          have g5 : decide ((l.length : Int) < s.hi) = false := by have := HES.out; simp; omega
          have g5' : decide (s.hi > (l.length : Int)) = false := by have := HES.out; simp; omega
          haveI hne : Nonempty (Cls (fun w' => SwF W w22 w' P s)) := ⟨⟨_, H26.out.drew⟩⟩
          have hx0 : ∀ pc : Cls (fun w' => SwF W w22 w' P s), pc.w.cell? ⟨P, 0, none⟩ = some (.int .i64 s.lo) := fun pc => pc.h.p.cell 0
          have hx1 : ∀ pc : Cls (fun w' => SwF W w22 w' P s), pc.w.cell? ⟨P, 1, none⟩ = some (.int .i64 s.hi) := fun pc => pc.h.p.cell 1
          have hx2 : ∀ pc : Cls (fun w' => SwF W w22 w' P s), pc.w.cell? ⟨gx, ox + k, none⟩ = some (.int .i64 x) := fun pc => (pc.h.b2.cell (p := ⟨gx, _, none⟩) HGB.out.1).trans HCX.out.1
          have hx3 : ∀ pc : Cls (fun w' => SwF W w22 w' P s), pc.w.cell? ⟨gy, oy + k, none⟩ = some (.int .i64 y) := fun pc => (pc.h.b2.cell (p := ⟨gy, _, none⟩) HGB.out.2).trans HCX.out.2
          refine wp_region_cls (fun w' => SwF W w22 w' P s) hmix (by kernel_rfl) H26.out.drew ?_
          repeat (quiet_step (fail))
          refine wpQuiet_nil ?_
          rintro w27 ⟨⟨_, hw27⟩, rfl⟩
          try simp only []
          have Hw27 := Lib.hid hw27
          clear hw27 hne hx0 hx1 hx2 hx3
          clear H26 g0 g1 g1' g2 g2' g3 g3' g4 g4' g5 g5'
          by_cases hoe : oe = 0
          rotate_left
          · have q1 : (oe != 0) = true := by simpa using hoe
            have q2 : (oe == 0) = false := by simpa using hoe
            clear hoe
            go_wp2_with fail
            go_roundg (l.length - (k + 1))
            case measure => omega
            case rel => exact ⟨k + 1, by omega, Nat.le_refl _, by go_num, Lib.hid ⟨Hw27.out.b, Hw27.out.b2⟩⟩
          subst hoe
          have HME : Hid (s.lo ≤ first → first < s.hi → (k : Int) ∈ ol) := Lib.hid fun h1 h2 => HOM.out jn k s rfl HJN.out.2 HS.out h1 h2
          go_wp2_with fail
          go_loopg [215, 29] ol.length (fun gk2 i b wr => ∃ q : Nat, q ≤ ol.length ∧ ol.length - q ≤ gk2 ∧ i = .int .i64 q ∧ b = .bool ((ol.take q).any fun z => decide (z = (k : Int))) ∧ wr = w27)
          case atStart => exact ⟨0, Nat.zero_le _, Nat.le_refl _, rfl, by simp, rfl⟩
          case round =>
            obtain ⟨q, hq, hgq, rfl, rfl, rfl⟩ := hrel
            by_cases hltq : q < ol.length
            rotate_left
            · have hgeq : ¬ (q : Int) < ol.length := by omega
              obtain rfl : q = ol.length := by omega
              rw [List.take_length]
              obtain ⟨isb, hisb⟩ : ∃ isb, isb = ol.any (fun z => decide (z = (k : Int))) := ⟨_, rfl⟩
              rw [← hisb]
              have HIS : Hid (s.lo ≤ first → first < s.hi → isb = true) := Lib.hid fun h1 h2 => by rw [hisb, List.any_eq_true]; exact ⟨_, HME.out h1 h2, by simp⟩
              clear hisb HME hq hgq hltq
              go_upto_region 35 with fail
              by_cases c1 : x ≤ first
              · by_cases c2 : y ≤ first
                · have c1' : decide (x ≤ first) = true := by simpa using c1
                  have c2' : decide (y ≤ first) = true := by simpa using c2
                  have hE := HES.out
                  have hb1 : s.lo ≤ first := by omega
                  have hb1' : decide (s.lo ≤ first) = true := by simpa using hb1
                  by_cases hb2 : first < s.hi
                  · have hb2' : decide (first < s.hi) = true := by simpa using hb2
                    obtain rfl := HIS.out hb1 hb2
                    clear hE c1 c2 hb1 hb2 HIS
                    as_aux_lemma =>
                      haveI hne : Nonempty (Cls (fun w' => SwF W w22 w' P s)) := ⟨⟨_, Hw27.out.drew⟩⟩
                      have hx0 : ∀ pc : Cls (fun w' => SwF W w22 w' P s), pc.w.cell? ⟨P, 0, none⟩ = some (.int .i64 s.lo) := fun pc => pc.h.p.cell 0
                      have hx1 : ∀ pc : Cls (fun w' => SwF W w22 w' P s), pc.w.cell? ⟨P, 1, none⟩ = some (.int .i64 s.hi) := fun pc => pc.h.p.cell 1
                      have hx2 : ∀ pc : Cls (fun w' => SwF W w22 w' P s), pc.w.cell? ⟨gx, ox + k, none⟩ = some (.int .i64 x) := fun pc => (pc.h.b2.cell (p := ⟨gx, _, none⟩) HGB.out.1).trans HCX.out.1
                      have hx3 : ∀ pc : Cls (fun w' => SwF W w22 w' P s), pc.w.cell? ⟨gy, oy + k, none⟩ = some (.int .i64 y) := fun pc => (pc.h.b2.cell (p := ⟨gy, _, none⟩) HGB.out.2).trans HCX.out.2
                      refine wp_region_cls (fun w' => SwF W w22 w' P s) hmix (by kernel_rfl) Hw27.out.drew ?_
                      repeat (quiet_step (fail))
                      refine wpQuiet_nil ?_
                      rintro w36 ⟨⟨_, hw36⟩, rfl⟩
                      try simp only []
                      have Hw36 := Lib.hid hw36
                      clear hw36 hne hx0 hx1 hx2 hx3
                      go_wp2_with fail
                      go_roundg (l.length - (k + 1))
                      case measure => omega
                      case rel => exact ⟨k + 1, by omega, Nat.le_refl _, by go_num, Lib.hid ⟨Hw36.out.b, Hw36.out.b2⟩⟩
                  · have hb2' : decide (first < s.hi) = false := by simpa using hb2
                    clear hE c1 c2 hb1 hb2 HIS
                    as_aux_lemma =>
                      haveI hne : Nonempty (Cls (fun w' => SwF W w22 w' P s)) := ⟨⟨_, Hw27.out.drew⟩⟩
                      have hx0 : ∀ pc : Cls (fun w' => SwF W w22 w' P s), pc.w.cell? ⟨P, 0, none⟩ = some (.int .i64 s.lo) := fun pc => pc.h.p.cell 0
                      have hx1 : ∀ pc : Cls (fun w' => SwF W w22 w' P s), pc.w.cell? ⟨P, 1, none⟩ = some (.int .i64 s.hi) := fun pc => pc.h.p.cell 1
                      have hx2 : ∀ pc : Cls (fun w' => SwF W w22 w' P s), pc.w.cell? ⟨gx, ox + k, none⟩ = some (.int .i64 x) := fun pc => (pc.h.b2.cell (p := ⟨gx, _, none⟩) HGB.out.1).trans HCX.out.1
                      have hx3 : ∀ pc : Cls (fun w' => SwF W w22 w' P s), pc.w.cell? ⟨gy, oy + k, none⟩ = some (.int .i64 y) := fun pc => (pc.h.b2.cell (p := ⟨gy, _, none⟩) HGB.out.2).trans HCX.out.2
                      refine wp_region_cls (fun w' => SwF W w22 w' P s) hmix (by kernel_rfl) Hw27.out.drew ?_
                      repeat (quiet_step (fail))
                      refine wpQuiet_nil ?_
                      rintro w36 ⟨⟨_, hw36⟩, rfl⟩
                      try simp only []
                      have Hw36 := Lib.hid hw36
                      clear hw36 hne hx0 hx1 hx2 hx3
                      go_wp2_with fail
                      go_roundg (l.length - (k + 1))
                      case measure => omega
                      case rel => exact ⟨k + 1, by omega, Nat.le_refl _, by go_num, Lib.hid ⟨Hw36.out.b, Hw36.out.b2⟩⟩
                · have c1' : decide (x ≤ first) = true := by simpa using c1
                  have c2' : decide (y ≤ first) = false := by simpa using c2
                  have hE := HES.out
                  have hb1 : s.lo ≤ first := by omega
                  have hb1' : decide (s.lo ≤ first) = true := by simpa using hb1
                  have hb2 : first < s.hi := by omega
                  have hb2' : decide (first < s.hi) = true := by simpa using hb2
                  obtain rfl := HIS.out hb1 hb2
                  clear hE c1 c2 hb1 hb2 HIS
                  as_aux_lemma =>
                    haveI hne : Nonempty (Cls (fun w' => SwF W w22 w' P s)) := ⟨⟨_, Hw27.out.drew⟩⟩
                    have hx0 : ∀ pc : Cls (fun w' => SwF W w22 w' P s), pc.w.cell? ⟨P, 0, none⟩ = some (.int .i64 s.lo) := fun pc => pc.h.p.cell 0
                    have hx1 : ∀ pc : Cls (fun w' => SwF W w22 w' P s), pc.w.cell? ⟨P, 1, none⟩ = some (.int .i64 s.hi) := fun pc => pc.h.p.cell 1
                    have hx2 : ∀ pc : Cls (fun w' => SwF W w22 w' P s), pc.w.cell? ⟨gx, ox + k, none⟩ = some (.int .i64 x) := fun pc => (pc.h.b2.cell (p := ⟨gx, _, none⟩) HGB.out.1).trans HCX.out.1
                    have hx3 : ∀ pc : Cls (fun w' => SwF W w22 w' P s), pc.w.cell? ⟨gy, oy + k, none⟩ = some (.int .i64 y) := fun pc => (pc.h.b2.cell (p := ⟨gy, _, none⟩) HGB.out.2).trans HCX.out.2
                    refine wp_region_cls (fun w' => SwF W w22 w' P s) hmix (by kernel_rfl) Hw27.out.drew ?_
                    repeat (quiet_step (fail))
                    refine wpQuiet_nil ?_
                    rintro w36 ⟨⟨_, hw36⟩, rfl⟩
                    try simp only []
                    have Hw36 := Lib.hid hw36
                    clear hw36 hne hx0 hx1 hx2 hx3
                    go_wp2_with fail
                    go_roundg (l.length - (k + 1))
                    case measure => omega
                    case rel => exact ⟨k + 1, by omega, Nat.le_refl _, by go_num, Lib.hid ⟨Hw36.out.b, Hw36.out.b2⟩⟩
              · by_cases c2 : y ≤ first
                · have c1' : decide (x ≤ first) = false := by simpa using c1
                  have c2' : decide (y ≤ first) = true := by simpa using c2
                  have hE := HES.out
                  have hb1 : s.lo ≤ first := by omega
                  have hb1' : decide (s.lo ≤ first) = true := by simpa using hb1
                  have hb2 : first < s.hi := by omega
                  have hb2' : decide (first < s.hi) = true := by simpa using hb2
                  obtain rfl := HIS.out hb1 hb2
                  clear hE c1 c2 hb1 hb2 HIS
                  as_aux_lemma =>
                    haveI hne : Nonempty (Cls (fun w' => SwF W w22 w' P s)) := ⟨⟨_, Hw27.out.drew⟩⟩
                    have hx0 : ∀ pc : Cls (fun w' => SwF W w22 w' P s), pc.w.cell? ⟨P, 0, none⟩ = some (.int .i64 s.lo) := fun pc => pc.h.p.cell 0
                    have hx1 : ∀ pc : Cls (fun w' => SwF W w22 w' P s), pc.w.cell? ⟨P, 1, none⟩ = some (.int .i64 s.hi) := fun pc => pc.h.p.cell 1
                    have hx2 : ∀ pc : Cls (fun w' => SwF W w22 w' P s), pc.w.cell? ⟨gx, ox + k, none⟩ = some (.int .i64 x) := fun pc => (pc.h.b2.cell (p := ⟨gx, _, none⟩) HGB.out.1).trans HCX.out.1
                    have hx3 : ∀ pc : Cls (fun w' => SwF W w22 w' P s), pc.w.cell? ⟨gy, oy + k, none⟩ = some (.int .i64 y) := fun pc => (pc.h.b2.cell (p := ⟨gy, _, none⟩) HGB.out.2).trans HCX.out.2
                    refine wp_region_cls (fun w' => SwF W w22 w' P s) hmix (by kernel_rfl) Hw27.out.drew ?_
                    repeat (quiet_step (fail))
                    refine wpQuiet_nil ?_
                    rintro w36 ⟨⟨_, hw36⟩, rfl⟩
                    try simp only []
                    have Hw36 := Lib.hid hw36
                    clear hw36 hne hx0 hx1 hx2 hx3
                    go_wp2_with fail
                    go_roundg (l.length - (k + 1))
                    case measure => omega
                    case rel => exact ⟨k + 1, by omega, Nat.le_refl _, by go_num, Lib.hid ⟨Hw36.out.b, Hw36.out.b2⟩⟩
                · have c1' : decide (x ≤ first) = false := by simpa using c1
                  have c2' : decide (y ≤ first) = false := by simpa using c2
                  have hE := HES.out
                  have hb2 : first < s.hi := by omega
                  have hb2' : decide (first < s.hi) = true := by simpa using hb2
                  by_cases hb1 : s.lo ≤ first
                  · have hb1' : decide (s.lo ≤ first) = true := by simpa using hb1
                    obtain rfl := HIS.out hb1 hb2
                    clear hE c1 c2 hb1 hb2 HIS
                    as_aux_lemma =>
                      haveI hne : Nonempty (Cls (fun w' => SwF W w22 w' P s)) := ⟨⟨_, Hw27.out.drew⟩⟩
                      have hx0 : ∀ pc : Cls (fun w' => SwF W w22 w' P s), pc.w.cell? ⟨P, 0, none⟩ = some (.int .i64 s.lo) := fun pc => pc.h.p.cell 0
                      have hx1 : ∀ pc : Cls (fun w' => SwF W w22 w' P s), pc.w.cell? ⟨P, 1, none⟩ = some (.int .i64 s.hi) := fun pc => pc.h.p.cell 1
                      have hx2 : ∀ pc : Cls (fun w' => SwF W w22 w' P s), pc.w.cell? ⟨gx, ox + k, none⟩ = some (.int .i64 x) := fun pc => (pc.h.b2.cell (p := ⟨gx, _, none⟩) HGB.out.1).trans HCX.out.1
                      have hx3 : ∀ pc : Cls (fun w' => SwF W w22 w' P s), pc.w.cell? ⟨gy, oy + k, none⟩ = some (.int .i64 y) := fun pc => (pc.h.b2.cell (p := ⟨gy, _, none⟩) HGB.out.2).trans HCX.out.2
                      refine wp_region_cls (fun w' => SwF W w22 w' P s) hmix (by kernel_rfl) Hw27.out.drew ?_
                      repeat (quiet_step (fail))
                      refine wpQuiet_nil ?_
                      rintro w36 ⟨⟨_, hw36⟩, rfl⟩
                      try simp only []
                      have Hw36 := Lib.hid hw36
                      clear hw36 hne hx0 hx1 hx2 hx3
                      go_wp2_with fail
                      go_roundg (l.length - (k + 1))
                      case measure => omega
                      case rel => exact ⟨k + 1, by omega, Nat.le_refl _, by go_num, Lib.hid ⟨Hw36.out.b, Hw36.out.b2⟩⟩
                  · have hb1' : decide (s.lo ≤ first) = false := by simpa using hb1
                    clear hE c1 c2 hb2 HIS hb1
                    as_aux_lemma =>
                      haveI hne : Nonempty (Cls (fun w' => SwF W w22 w' P s)) := ⟨⟨_, Hw27.out.drew⟩⟩
                      have hx0 : ∀ pc : Cls (fun w' => SwF W w22 w' P s), pc.w.cell? ⟨P, 0, none⟩ = some (.int .i64 s.lo) := fun pc => pc.h.p.cell 0
                      have hx1 : ∀ pc : Cls (fun w' => SwF W w22 w' P s), pc.w.cell? ⟨P, 1, none⟩ = some (.int .i64 s.hi) := fun pc => pc.h.p.cell 1
                      have hx2 : ∀ pc : Cls (fun w' => SwF W w22 w' P s), pc.w.cell? ⟨gx, ox + k, none⟩ = some (.int .i64 x) := fun pc => (pc.h.b2.cell (p := ⟨gx, _, none⟩) HGB.out.1).trans HCX.out.1
                      have hx3 : ∀ pc : Cls (fun w' => SwF W w22 w' P s), pc.w.cell? ⟨gy, oy + k, none⟩ = some (.int .i64 y) := fun pc => (pc.h.b2.cell (p := ⟨gy, _, none⟩) HGB.out.2).trans HCX.out.2
                      refine wp_region_cls (fun w' => SwF W w22 w' P s) hmix (by kernel_rfl) Hw27.out.drew ?_
                      repeat (quiet_step (fail))
                      refine wpQuiet_nil ?_
                      rintro w36 ⟨⟨_, hw36⟩, rfl⟩
                      try simp only []
                      have Hw36 := Lib.hid hw36
                      clear hw36 hne hx0 hx1 hx2 hx3
                      go_wp2_with fail
                      go_roundg (l.length - (k + 1))
                      case measure => omega
                      case rel => exact ⟨k + 1, by omega, Nat.le_refl _, by go_num, Lib.hid ⟨Hw36.out.b, Hw36.out.b2⟩⟩
            have hltq2 : (q : Int) < ol.length := by omega
            obtain ⟨go, oo, hgo, hgoB, co⟩ := H22.out.o q hltq
            have c0 : wr.cell? ⟨go, oo + q, none⟩ = some (.int .i64 ol[q]) := (Hw27.out.b2.cell (p := ⟨go, _, none⟩) hgoB).trans co
            obtain ⟨v, hv⟩ : ∃ v, v = ol[q] := ⟨_, rfl⟩
            rw [← hv] at c0
            obtain ⟨bq, hbq⟩ : ∃ b, b = (ol.take q).any (fun z => decide (z = (k : Int))) := ⟨_, rfl⟩
            have HNQ : Hid ((ol.take (q + 1)).any (fun z => decide (z = (k : Int))) = (bq || decide (v = (k : Int)))) := Lib.hid (by rw [List.take_succ_eq_append_getElem hltq, List.any_append, ← hbq, hv]; simp)
            rw [← hbq]
            subst hgo
            clear hbq hv co hgoB
            cases bq
            all_goals
              go_wp2_with fail
              go_roundg (ol.length - (q + 1))
              case measure => omega
              case rel => exact ⟨q + 1, by omega, Nat.le_refl _, by go_num, by rw [HNQ.out]; first | rfl | simp, rfl⟩
    have hlt2 : (k : Int) < l.length := by omega
    obtain ⟨g, o, AC, AP, cc, cp, hg, hgs, hc, hsk⟩ := HRS.out.2.1 k hlt
    have HSK := Lib.hid hsk
    have hxm : l[k] ∈ l := List.getElem_mem hlt
    obtain ⟨x, hx⟩ : ∃ x, x = l[k] := ⟨_, rfl⟩
    rw [← hx] at hc hxm HSK
    have HXM := Lib.hid hxm
    have HNX : Hid (b1 ++ [progP r x] = (l.take (k + 1)).map (progP r) ∧ b2 ++ [progP r (changedS x jn by_ (3 * k))] = (l.take (k + 1)).mapIdx (fun i s => progP r (changedS s jn by_ (3 * i)))) := Lib.hid (by
      refine ⟨?_, ?_⟩
      · rw [HW.out.2.2.2.2.2.1, List.take_succ_eq_append_getElem hlt, List.map_append, hx]; rfl
      · rw [mapIdx_take _ _ hlt, ← HW.out.2.2.2.2.2.2, hx])
    subst hg
    have y0 : wr.cell? ⟨g, o + k * 3, none⟩ = some (.slice AC x.calls.length cc) := (HW.out.1.cell (p := ⟨g, _, none⟩) hgs).trans (hc 0 (by omega))
    have y1 : wr.cell? ⟨g, o + k * 3 + 1, none⟩ = some (.slice AP x.parts.length cp) := (HW.out.1.cell (p := ⟨g, _, none⟩) hgs).trans (hc 1 (by omega))
    have y2 : wr.cell? ⟨g, o + k * 3 + 2, none⟩ = some (.int .i64 x.over) := (HW.out.1.cell (p := ⟨g, _, none⟩) hgs).trans (hc 2 (by omega))
    obtain ⟨V1, c1, rfl, -⟩ := own_slice HW.out.2.2.2.1.o1
    obtain ⟨V2, c2', rfl, -⟩ := own_slice HW.out.2.2.2.1.o2
    have hb1l : b1.length ≤ 8 := by have := congrArg List.length HW.out.2.2.2.2.2.1; simp at this; omega
    have hb2l : b2.length ≤ 8 := by have := congrArg List.length HW.out.2.2.2.2.2.2; simp at this; omega
    have H6 : Hid (Below W.heap.size W (wr.alloc (.cells (skc x AC AP cc cp) 28)) ∧ Below B5 w5 (wr.alloc (.cells (skc x AC AP cc cp) 28)) ∧ Has (wr.alloc (.cells (skc x AC AP cc cp) 28)) W.heap.size 24 (ruc r A c) ∧ TwoR (wr.alloc (.cells (skc x AC AP cc cp) 28)) B5 (.slice V1 b1.length c1) (.slice V2 b2.length c2') b1 b2 ∧ B5 ≤ (wr.alloc (.cells (skc x AC AP cc cp) 28)).heap.size ∧ Has (wr.alloc (.cells (skc x AC AP cc cp) 28)) wr.heap.size 28 (skc x AC AP cc cp)) :=
      Lib.hid ⟨HW.out.1.trans ((below_one _ _).mono HW.out.1.size), HW.out.2.1.trans ((below_one _ _).mono HW.out.2.2.2.2.1), HW.out.2.2.1.alloc _, HW.out.2.2.2.1.step (below_one _ _), by have := HW.out.2.2.2.2.1; simp; omega, Has.new _ _ _⟩
    have HOB : Hid ((∀ b, (Value.slice V1 b1.length c1).ownBlock = some b → b < wr.heap.size) ∧ ∀ b, (Value.slice V2 b2.length c2').ownBlock = some b → b < wr.heap.size) := Lib.hid ⟨fun b hb => (own_block HW.out.2.2.2.1.o1 b hb).2, fun b hb => (own_block HW.out.2.2.2.1.o2 b hb).2⟩
    clear hgs hc hsk hxm hx HW hk
    go_upto_region 13 with fail
    generalize wr.alloc (.cells (skc x AC AP cc cp) 28) = w6 at H6 ⊢
    generalize wr.heap.size = E at H6 HOB ⊢
    clear y0 y1 y2
    have x0 : w6.cell? ⟨W.heap.size, 0, none⟩ = some (.slice A r.bases.length c) := H6.out.2.2.1.cell 0
    have x1 : w6.cell? ⟨W.heap.size, 1, none⟩ = some (.int .i64 r.factor) := H6.out.2.2.1.cell 1
    have x2 : w6.cell? ⟨W.heap.size, 2, none⟩ = some (.int .i64 r.most) := H6.out.2.2.1.cell 2
    have y0 : w6.cell? ⟨E, 0, none⟩ = some (.slice AC x.calls.length cc) := H6.out.2.2.2.2.2.cell 0
    have y1 : w6.cell? ⟨E, 1, none⟩ = some (.slice AP x.parts.length cp) := H6.out.2.2.2.2.2.cell 1
    have y2 : w6.cell? ⟨E, 2, none⟩ = some (.int .i64 x.over) := H6.out.2.2.2.2.2.cell 2
    go_wp2_with fail
    refine (HPA.out x HXM.out AC AP cc cp _ H6.out.1 ((HSK.out.below H6.out.1).more H6.out.1.size)).mono ?_
    rintro e w7 ⟨rfl, hb7⟩
    obtain ⟨xa, hxa⟩ : ∃ xa, xa = progP r x := ⟨_, rfl⟩
    obtain ⟨xb, hxb⟩ : ∃ xb, xb = progP r (changedS x jn by_ (3 * k)) := ⟨_, rfl⟩
    rw [← hxa, ← hxb] at HNX
    rw [← hxa]
    have HP2 := Lib.hid (fun AC AP cc cp w hb hsk => HPB.out x HXM.out (3 * k) AC AP cc cp w hb hsk)
    rw [← hxb] at HP2
    have H7 : Hid (SS5 W w5 (w7.alloc (.cells (scc xa) 33)) B5 r A c E w7.heap.size x AC AP cc cp xa (.slice V1 b1.length c1) (.slice V2 b2.length c2') b1 b2) :=
      Lib.hid (by
        have hb8 : Below w6.heap.size w6 (w7.alloc (.cells (scc xa) 33)) := hb7.trans ((below_one _ _).mono hb7.size)
        exact ⟨H6.out.1.trans (hb8.mono H6.out.1.size), H6.out.2.1.trans (hb8.mono H6.out.2.2.2.2.1), H6.out.2.2.1.below hb8 H6.out.2.2.1.lt, H6.out.2.2.2.2.2.below hb8 H6.out.2.2.2.2.2.lt, Has.new _ _ _, H6.out.2.2.2.1.step hb8, Nat.le_trans H6.out.2.2.2.2.1 hb8.size⟩)
    have HED := Lib.hid (show E < w7.heap.size from Nat.lt_of_lt_of_le H6.out.2.2.2.2.2.lt hb7.size)
    clear hxa hxb hb7 x0 x1 x2 y0 y1 y2 H6 HPA
    have ew : IntKind.i64.wrap (3 * (k : Int)) = ((3 * k : Nat) : Int) := by rw [IntWalk.i64_in _ (by omega)]; simp
    go_upto_region 14 with fail
    generalize w7.alloc (.cells (scc xa) 33) = w8 at H7 ⊢
    generalize w7.heap.size = D1 at H7 HED ⊢
    have HKP : Hid (∀ w', SS5 W w5 w' B5 r A c E D1 x AC AP cc cp xa (.slice V1 b1.length c1) (.slice V2 b2.length c2') b1 b2 → w'.cell? ⟨W.heap.size, 0, none⟩ = some (.slice A r.bases.length c) ∧ w'.cell? ⟨W.heap.size, 1, none⟩ = some (.int .i64 r.factor) ∧ w'.cell? ⟨W.heap.size, 2, none⟩ = some (.int .i64 r.most) ∧ w'.cell? ⟨E, 0, none⟩ = some (.slice AC x.calls.length cc) ∧ w'.cell? ⟨E, 1, none⟩ = some (.slice AP x.parts.length cp) ∧ w'.cell? ⟨E, 2, none⟩ = some (.int .i64 x.over)) := Lib.hid fun w' h => ⟨h.fr.cell 0, h.fr.cell 1, h.fr.cell 2, h.fe.cell 0, h.fe.cell 1, h.fe.cell 2⟩
    go_cut [21, 22] (fun uO uE wx => ∃ b9, uO = .pointer (some ⟨b9, 0, none⟩) ∧ uE = .int .i64 0 ∧ Hid ((SS5 W w5 wx B5 r A c E D1 x AC AP cc cp xa (.slice V1 b1.length c1) (.slice V2 b2.length c2') b1 b2) ∧ Has wx b9 33 (scc xb) ∧ D1 < b9))
    case first =>
      have H1p : Hid (SS5 W w5 w8.drew B5 r A c E D1 x AC AP cc cp xa (.slice V1 b1.length c1) (.slice V2 b2.length c2') b1 b2) := Lib.hid ((H7.out).step ((Below.refl _ _).drew))
      have K1p : Hid (w8.drew.cell? ⟨W.heap.size, 0, none⟩ = some (.slice A r.bases.length c) ∧ w8.drew.cell? ⟨W.heap.size, 1, none⟩ = some (.int .i64 r.factor) ∧ w8.drew.cell? ⟨W.heap.size, 2, none⟩ = some (.int .i64 r.most) ∧ w8.drew.cell? ⟨E, 0, none⟩ = some (.slice AC x.calls.length cc) ∧ w8.drew.cell? ⟨E, 1, none⟩ = some (.slice AP x.parts.length cp) ∧ w8.drew.cell? ⟨E, 2, none⟩ = some (.int .i64 x.over)) := Lib.hid (HKP.out _ (H1p.out))
      refine wp_region_late (fun w' : World => w'.cell? ⟨W.heap.size, 0, none⟩ = some (.slice A r.bases.length c) ∧ w'.cell? ⟨W.heap.size, 1, none⟩ = some (.int .i64 r.factor) ∧ w'.cell? ⟨W.heap.size, 2, none⟩ = some (.int .i64 r.most) ∧ w'.cell? ⟨E, 0, none⟩ = some (.slice AC x.calls.length cc) ∧ w'.cell? ⟨E, 1, none⟩ = some (.slice AP x.parts.length cp) ∧ w'.cell? ⟨E, 2, none⟩ = some (.int .i64 x.over)) [] (by kernel_rfl) ?_
      generalize w8.drew = w1p at H1p K1p ⊢
      obtain ⟨Np, hNp⟩ : ∃ N, N = w1p.heap.size := ⟨_, rfl⟩
      have Bbp : Hid (Below Np w1p w1p ∧ Np ≤ w1p.heap.size) := Lib.hid ⟨Below.refl _ _, Nat.le_of_eq hNp⟩
      have NHp := Lib.hid hNp
      clear hNp
      refine wpLate_take (i := 0) (oi := ?oi0p1_) (v := ?v0p1_) [7, 8, 9, 10, 12, 13] ?hi0p1_ (by kernel_rfl) (by kernel_rfl) (by kernel_rfl) (by kernel_rfl) (by kernel_rfl) ?hQ0p1_ (Or.inl ⟨?hw0p1_, ?hy0p1_⟩) K1p.out ?rest0p1_
      case hi0p1_ => (simp only [List.getElem?_toArray, List.getElem?_cons_zero]; rfl)
      case hQ0p1_ => exact fun _ _ _ h => h
      case hw0p1_ => rfl
      case hy0p1_ =>
        intro w' hSw
        obtain ⟨r0, r1, r2, r3, r4, r5⟩ := hSw
        go_simp
        try exact rfl
      try simp only [Act.put, List.setIfInBounds_toArray, List.set_cons_zero, List.set_cons_succ]
      refine wpLate_take (i := 1) (oi := ?oi1p2_) (v := ?v1p2_) [6, 7, 8, 9, 10, 12, 13] ?hi1p2_ (by kernel_rfl) (by kernel_rfl) (by kernel_rfl) (by kernel_rfl) (by kernel_rfl) ?hQ1p2_ (Or.inl ⟨?hw1p2_, ?hy1p2_⟩) K1p.out ?rest1p2_
      case hi1p2_ => (simp only [List.getElem?_toArray, List.getElem?_cons_zero, List.getElem?_cons_succ]; rfl)
      case hQ1p2_ => exact fun _ _ _ h => h
      case hw1p2_ => rfl
      case hy1p2_ =>
        intro w' hSw
        obtain ⟨r0, r1, r2, r3, r4, r5⟩ := hSw
        go_simp
        try exact rfl
      try simp only [Act.put, List.setIfInBounds_toArray, List.set_cons_zero, List.set_cons_succ]
      refine wpLate_take (i := 2) (oi := ?oi2p3_) (v := ?v2p3_) [6, 7, 8, 9, 10, 12, 13] ?hi2p3_ (by kernel_rfl) (by kernel_rfl) (by kernel_rfl) (by kernel_rfl) (by kernel_rfl) ?hQ2p3_ (Or.inl ⟨?hw2p3_, ?hy2p3_⟩) K1p.out ?rest2p3_
      case hi2p3_ => (simp only [List.getElem?_toArray, List.getElem?_cons_zero, List.getElem?_cons_succ]; rfl)
      case hQ2p3_ => exact fun _ _ _ h => h
      case hw2p3_ => rfl
      case hy2p3_ =>
        intro w' hSw
        obtain ⟨r0, r1, r2, r3, r4, r5⟩ := hSw
        go_simp
        try exact rfl
      try simp only [Act.put, List.setIfInBounds_toArray, List.set_cons_zero, List.set_cons_succ]
      refine wpLate_take (i := 3) (oi := ?oi3p4_) (v := ?v3p4_) [6, 7, 8, 9, 10, 12, 13] ?hi3p4_ (by kernel_rfl) (by kernel_rfl) (by kernel_rfl) (by kernel_rfl) (by kernel_rfl) ?hQ3p4_ (Or.inl ⟨?hw3p4_, ?hy3p4_⟩) K1p.out ?rest3p4_
      case hi3p4_ => (simp only [List.getElem?_toArray, List.getElem?_cons_zero, List.getElem?_cons_succ]; rfl)
      case hQ3p4_ => exact fun _ _ _ h => h
      case hw3p4_ => rfl
      case hy3p4_ =>
        intro w' hSw
        obtain ⟨r0, r1, r2, r3, r4, r5⟩ := hSw
        go_simp
        try exact rfl
      try simp only [Act.put, List.setIfInBounds_toArray, List.set_cons_zero, List.set_cons_succ]
      refine wpLate_take (i := 4) (oi := ?oi4p5_) (v := ?v4p5_) [5, 6, 7, 8, 9, 10, 12, 13] ?hi4p5_ (by kernel_rfl) (by kernel_rfl) (by kernel_rfl) (by kernel_rfl) (by kernel_rfl) ?hQ4p5_ (Or.inl ⟨?hw4p5_, ?hy4p5_⟩) K1p.out ?rest4p5_
      case hi4p5_ => (simp only [List.getElem?_toArray, List.getElem?_cons_zero, List.getElem?_cons_succ]; rfl)
      case hQ4p5_ => exact fun _ _ _ h => h
      case hw4p5_ => rfl
      case hy4p5_ =>
        intro w' hSw
        obtain ⟨r0, r1, r2, r3, r4, r5⟩ := hSw
        go_simp
        try exact rfl
      try simp only [Act.put, List.setIfInBounds_toArray, List.set_cons_zero, List.set_cons_succ]
      refine wpLate_take (i := 5) (oi := ?oi5p6_) (v := ?v5p6_) [6, 7, 8, 9, 10, 12, 13] ?hi5p6_ (by kernel_rfl) (by kernel_rfl) (by kernel_rfl) (by kernel_rfl) (by kernel_rfl) ?hQ5p6_ (Or.inl ⟨?hw5p6_, ?hy5p6_⟩) K1p.out ?rest5p6_
      case hi5p6_ => (simp only [List.getElem?_toArray, List.getElem?_cons_zero, List.getElem?_cons_succ]; rfl)
      case hQ5p6_ => exact fun _ _ _ h => h
      case hw5p6_ => rfl
      case hy5p6_ =>
        intro w' hSw
        obtain ⟨r0, r1, r2, r3, r4, r5⟩ := hSw
        go_simp
        try exact rfl
      try simp only [Act.put, List.setIfInBounds_toArray, List.set_cons_zero, List.set_cons_succ]
      refine wpLate_two (i := 6) (j := 11) (o := ?oAp7_) (u := ?uAp7_) (by kernel_rfl) ?hoAp7_ ?huAp7_ ?hkAp7_ ?hkBp7_
      case hoAp7_ => (simp only [List.getElem?_toArray, List.getElem?_cons_zero, List.getElem?_cons_succ]; rfl)
      case huAp7_ => (simp only [List.getElem?_toArray, List.getElem?_cons_zero, List.getElem?_cons_succ]; rfl)
      case hkAp7_ =>
        intro K hK
        go_simp
        refine (HCG.out x HXM.out AC AP cc cp (3 * k) (by omega) _ H1p.out.b ((HSK.out.below H1p.out.b).more H1p.out.b.size)).mono ?_
        rintro e wpa1 ⟨BC, BP, bc, bp, rfl, hsk9, hb9⟩
        have Mpa2 : Hid (SkR wpa1 wpa1.heap.size (changedS x jn by_ (3 * k)) BC BP) := Lib.hid hsk9
        clear hsk9
        have Hpa3 : Hid (SS5 W w5 wpa1 B5 r A c E D1 x AC AP cc cp xa (.slice V1 b1.length c1) (.slice V2 b2.length c2') b1 b2) := Lib.hid ((H1p.out).step hb9)
        have Kpa4 : Hid (wpa1.cell? ⟨W.heap.size, 0, none⟩ = some (.slice A r.bases.length c) ∧ wpa1.cell? ⟨W.heap.size, 1, none⟩ = some (.int .i64 r.factor) ∧ wpa1.cell? ⟨W.heap.size, 2, none⟩ = some (.int .i64 r.most) ∧ wpa1.cell? ⟨E, 0, none⟩ = some (.slice AC x.calls.length cc) ∧ wpa1.cell? ⟨E, 1, none⟩ = some (.slice AP x.parts.length cp) ∧ wpa1.cell? ⟨E, 2, none⟩ = some (.int .i64 x.over)) := Lib.hid (HKP.out _ (Hpa3.out))
        have Epa5 : Hid (Below Np w1p wpa1 ∧ Np ≤ wpa1.heap.size) := Lib.hid (⟨(Bbp.out).1.trans ((hb9).mono (Bbp.out).2), Nat.le_trans (Bbp.out).2 (hb9).size⟩)
        clear hb9
        go_simp
        refine hK.out _ _ (fun h => Kpa4.out) ?_
        clear hK K
        try simp only [Act.put, List.setIfInBounds_toArray, List.set_cons_zero, List.set_cons_succ]
        refine wpLate_two (i := 7) (j := 11) (o := ?oApa6_) (u := ?uApa6_) (by kernel_rfl) ?hoApa6_ ?huApa6_ ?hkApa6_ ?hkBpa6_
        case hoApa6_ => (simp only [List.getElem?_toArray, List.getElem?_cons_zero, List.getElem?_cons_succ]; rfl)
        case huApa6_ => (simp only [List.getElem?_toArray, List.getElem?_cons_zero, List.getElem?_cons_succ]; rfl)
        case hkApa6_ =>
          intro K hK
          go_simp
          refine (HP2.out _ _ _ _ _ Hpa3.out.b Mpa2.out).mono ?_
          rintro e wpac1 ⟨rfl, hb9⟩
          have Hpac2 : Hid (SS5 W w5 wpac1 B5 r A c E D1 x AC AP cc cp xa (.slice V1 b1.length c1) (.slice V2 b2.length c2') b1 b2) := Lib.hid ((Hpa3.out).step hb9)
          have Kpac3 : Hid (wpac1.cell? ⟨W.heap.size, 0, none⟩ = some (.slice A r.bases.length c) ∧ wpac1.cell? ⟨W.heap.size, 1, none⟩ = some (.int .i64 r.factor) ∧ wpac1.cell? ⟨W.heap.size, 2, none⟩ = some (.int .i64 r.most) ∧ wpac1.cell? ⟨E, 0, none⟩ = some (.slice AC x.calls.length cc) ∧ wpac1.cell? ⟨E, 1, none⟩ = some (.slice AP x.parts.length cp) ∧ wpac1.cell? ⟨E, 2, none⟩ = some (.int .i64 x.over)) := Lib.hid (HKP.out _ (Hpac2.out))
          have Epac4 : Hid (Below Np w1p wpac1 ∧ Np ≤ wpac1.heap.size) := Lib.hid (⟨(Epa5.out).1.trans ((hb9).mono (Epa5.out).2), Nat.le_trans (Epa5.out).2 (hb9).size⟩)
          have Epac5 : Hid (SkR wpac1 wpac1.heap.size (changedS x jn by_ (3 * k)) BC BP) := Lib.hid ((Mpa2.out).step hb9)
          clear hb9
          go_simp
          refine hK.out _ _ (fun h => Kpac3.out) ?_
          clear hK K
          try simp only [Act.put, List.setIfInBounds_toArray, List.set_cons_zero, List.set_cons_succ]
          refine wpLate_take (i := 8) (oi := ?oi8pac6_) (v := ?v8pac6_) [9, 10, 12, 13] ?hi8pac6_ (by kernel_rfl) (by kernel_rfl) (by kernel_rfl) (by kernel_rfl) (by kernel_rfl) ?hQ8pac6_ (Or.inl ⟨?hw8pac6_, ?hy8pac6_⟩) Kpac3.out ?rest8pac6_
          case hi8pac6_ => (simp only [List.getElem?_toArray, List.getElem?_cons_zero, List.getElem?_cons_succ]; rfl)
          case hQ8pac6_ => exact fun _ _ _ h => h
          case hw8pac6_ => rfl
          case hy8pac6_ =>
            intro w' hSw
            obtain ⟨r0, r1, r2, r3, r4, r5⟩ := hSw
            go_simp
            try exact rfl
          try simp only [Act.put, List.setIfInBounds_toArray, List.set_cons_zero, List.set_cons_succ]
          refine wpLate_take (i := 9) (oi := ?oi9pac7_) (v := ?v9pac7_) [12, 13] ?hi9pac7_ (by kernel_rfl) (by kernel_rfl) (by kernel_rfl) (by kernel_rfl) (by kernel_rfl) ?hQ9pac7_ (Or.inl ⟨?hw9pac7_, ?hy9pac7_⟩) Kpac3.out ?rest9pac7_
          case hi9pac7_ => (simp only [List.getElem?_toArray, List.getElem?_cons_zero, List.getElem?_cons_succ]; rfl)
          case hQ9pac7_ => exact fun _ _ _ h => h
          case hw9pac7_ => rfl
          case hy9pac7_ =>
            intro w' hSw
            obtain ⟨r0, r1, r2, r3, r4, r5⟩ := hSw
            go_simp
            try exact rfl
          try simp only [Act.put, List.setIfInBounds_toArray, List.set_cons_zero, List.set_cons_succ]
          refine wpLate_take (i := 10) (oi := ?oi10pac8_) (v := ?v10pac8_) [13] ?hi10pac8_ (by kernel_rfl) (by kernel_rfl) (by kernel_rfl) (by kernel_rfl) (by kernel_rfl) ?hQ10pac8_ (Or.inl ⟨?hw10pac8_, ?hy10pac8_⟩) Kpac3.out ?rest10pac8_
          case hi10pac8_ => (simp only [List.getElem?_toArray, List.getElem?_cons_zero, List.getElem?_cons_succ]; rfl)
          case hQ10pac8_ => exact fun _ _ _ h => h
          case hw10pac8_ => rfl
          case hy10pac8_ =>
            intro w' hSw
            obtain ⟨r0, r1, r2, r3, r4, r5⟩ := hSw
            go_simp
            try exact rfl
          try simp only [Act.put, List.setIfInBounds_toArray, List.set_cons_zero, List.set_cons_succ]
          refine wpLate_one (i := 11) (o := ?o11pac9_) (by kernel_rfl) ?ho11pac9_ ?hk11pac9_
          case ho11pac9_ => (simp only [List.getElem?_toArray, List.getElem?_cons_zero, List.getElem?_cons_succ]; rfl)
          intro K hK
          go_simp
          have Epac12 : Hid (Has (wpac1.alloc (.cells #[.int .i64 0, .int .i64 0, .int .i64 0, .int .i64 0] 33)) wpac1.heap.size 33 #[.int .i64 0, .int .i64 0, .int .i64 0, .int .i64 0] ∧ wpac1.heap.size < (wpac1.alloc (.cells #[.int .i64 0, .int .i64 0, .int .i64 0, .int .i64 0] 33)).heap.size ∧ Np ≤ wpac1.heap.size) := Lib.hid ⟨Has.new _ _ _, by simp, Epac4.out.2⟩
          have Hpac13 : Hid (SS5 W w5 (wpac1.alloc (.cells #[.int .i64 0, .int .i64 0, .int .i64 0, .int .i64 0] 33)) B5 r A c E D1 x AC AP cc cp xa (.slice V1 b1.length c1) (.slice V2 b2.length c2') b1 b2) := Lib.hid ((Hpac2.out).step (below_one wpac1 (.cells #[.int .i64 0, .int .i64 0, .int .i64 0, .int .i64 0] 33)))
          have Kpac14 : Hid ((wpac1.alloc (.cells #[.int .i64 0, .int .i64 0, .int .i64 0, .int .i64 0] 33)).cell? ⟨W.heap.size, 0, none⟩ = some (.slice A r.bases.length c) ∧ (wpac1.alloc (.cells #[.int .i64 0, .int .i64 0, .int .i64 0, .int .i64 0] 33)).cell? ⟨W.heap.size, 1, none⟩ = some (.int .i64 r.factor) ∧ (wpac1.alloc (.cells #[.int .i64 0, .int .i64 0, .int .i64 0, .int .i64 0] 33)).cell? ⟨W.heap.size, 2, none⟩ = some (.int .i64 r.most) ∧ (wpac1.alloc (.cells #[.int .i64 0, .int .i64 0, .int .i64 0, .int .i64 0] 33)).cell? ⟨E, 0, none⟩ = some (.slice AC x.calls.length cc) ∧ (wpac1.alloc (.cells #[.int .i64 0, .int .i64 0, .int .i64 0, .int .i64 0] 33)).cell? ⟨E, 1, none⟩ = some (.slice AP x.parts.length cp) ∧ (wpac1.alloc (.cells #[.int .i64 0, .int .i64 0, .int .i64 0, .int .i64 0] 33)).cell? ⟨E, 2, none⟩ = some (.int .i64 x.over)) := Lib.hid (HKP.out _ (Hpac13.out))
          have Epac15 : Hid (Below Np w1p (wpac1.alloc (.cells #[.int .i64 0, .int .i64 0, .int .i64 0, .int .i64 0] 33)) ∧ Np ≤ (wpac1.alloc (.cells #[.int .i64 0, .int .i64 0, .int .i64 0, .int .i64 0] 33)).heap.size) := Lib.hid (⟨(Epac4.out).1.trans (((below_one wpac1 (.cells #[.int .i64 0, .int .i64 0, .int .i64 0, .int .i64 0] 33))).mono (Epac4.out).2), Nat.le_trans (Epac4.out).2 ((below_one wpac1 (.cells #[.int .i64 0, .int .i64 0, .int .i64 0, .int .i64 0] 33))).size⟩)
          have Epac16 : Hid (SkR (wpac1.alloc (.cells #[.int .i64 0, .int .i64 0, .int .i64 0, .int .i64 0] 33)) (wpac1.alloc (.cells #[.int .i64 0, .int .i64 0, .int .i64 0, .int .i64 0] 33)).heap.size (changedS x jn by_ (3 * k)) BC BP) := Lib.hid ((Epac5.out).step (below_one wpac1 (.cells #[.int .i64 0, .int .i64 0, .int .i64 0, .int .i64 0] 33)))
          refine hK.out _ _ (fun h => Kpac14.out) ?_
          clear hK K
          try simp only [Act.put, List.setIfInBounds_toArray, List.set_cons_zero, List.set_cons_succ]
          generalize wpac1.alloc (.cells #[.int .i64 0, .int .i64 0, .int .i64 0, .int .i64 0] 33) = wpac10 at Hpac13 Kpac14 Epac15 Epac16 Epac12 ⊢
          generalize wpac1.heap.size = bpac11 at Epac12 ⊢
          refine wpLate_one (i := 12) (o := ?o12pac17_) (by kernel_rfl) ?ho12pac17_ ?hk12pac17_
          case ho12pac17_ => (simp only [List.getElem?_toArray, List.getElem?_cons_zero, List.getElem?_cons_succ]; rfl)
          intro K hK
          have l0 : wpac10.cell? ⟨bpac11, 0, none⟩ = some (.int .i64 0) := Epac12.out.1.cell 0
          have l1 : wpac10.cell? ⟨bpac11, 1, none⟩ = some (.int .i64 0) := Epac12.out.1.cell 1
          have l2 : wpac10.cell? ⟨bpac11, 2, none⟩ = some (.int .i64 0) := Epac12.out.1.cell 2
          have l3 : wpac10.cell? ⟨bpac11, 3, none⟩ = some (.int .i64 0) := Epac12.out.1.cell 3
          have f0 := Epac12.out.1.frozen 0
          have f1 := Epac12.out.1.frozen 1
          have f2 := Epac12.out.1.frozen 2
          have f3 := Epac12.out.1.frozen 3
          have HFpac : Hid ((SS5 W w5 ((((wpac10.setCell ⟨bpac11, 0, none⟩ (.int .i64 xb.elements)).setCell ⟨bpac11, 1, none⟩ (.int .i64 xb.parts)).setCell ⟨bpac11, 2, none⟩ (.int .i64 xb.off)).setCell ⟨bpac11, 3, none⟩ (.int .i64 xb.total)) B5 r A c E D1 x AC AP cc cp xa (.slice V1 b1.length c1) (.slice V2 b2.length c2') b1 b2) ∧ Has ((((wpac10.setCell ⟨bpac11, 0, none⟩ (.int .i64 xb.elements)).setCell ⟨bpac11, 1, none⟩ (.int .i64 xb.parts)).setCell ⟨bpac11, 2, none⟩ (.int .i64 xb.off)).setCell ⟨bpac11, 3, none⟩ (.int .i64 xb.total)) bpac11 33 (scc xb) ∧ D1 < bpac11) := Lib.hid ⟨(H1p.out).step (by rw [← NHp.out]; exact ((((Epac15.out.1.setCell Epac12.out.2.2 _).setCell Epac12.out.2.2 _).setCell Epac12.out.2.2 _).setCell Epac12.out.2.2 _)), (((Epac12.out.1.set 0 _).set 1 _).set 2 _).set 3 _, Nat.lt_of_lt_of_le (by rw [NHp.out]; exact (H1p.out).fd.lt) Epac12.out.2.2⟩
          go_simp
          refine hK.out _ _ (fun h => HKP.out _ (HFpac.out.1)) ?_
          clear hK K
          try simp only [Act.put, List.setIfInBounds_toArray, List.set_cons_zero, List.set_cons_succ]
          refine wpLate_one (i := 13) (o := ?o13pac18_) (by kernel_rfl) ?ho13pac18_ ?hk13pac18_
          case ho13pac18_ => (simp only [List.getElem?_toArray, List.getElem?_cons_zero, List.getElem?_cons_succ]; rfl)
          intro K hK
          go_simp
          refine hK.out _ _ (fun h => HKP.out _ (HFpac.out.1)) ?_
          clear hK K
          try simp only [Act.put, List.setIfInBounds_toArray, List.set_cons_zero, List.set_cons_succ]
          refine wpLate_done (by kernel_rfl) ?_ _
          try simp only [Act.put, List.setIfInBounds_toArray, List.set_cons_zero, List.set_cons_succ]
          try go_wp2_with fail
          go_meet
          exact ⟨bpac11, rfl, rfl, HFpac⟩
        case hkBpa6_ =>
          intro K hK
          go_simp
          have Epad3 : Hid (Has (wpa1.alloc (.cells #[.int .i64 0, .int .i64 0, .int .i64 0, .int .i64 0] 33)) wpa1.heap.size 33 #[.int .i64 0, .int .i64 0, .int .i64 0, .int .i64 0] ∧ wpa1.heap.size < (wpa1.alloc (.cells #[.int .i64 0, .int .i64 0, .int .i64 0, .int .i64 0] 33)).heap.size ∧ Np ≤ wpa1.heap.size) := Lib.hid ⟨Has.new _ _ _, by simp, Epa5.out.2⟩
          have Hpad4 : Hid (SS5 W w5 (wpa1.alloc (.cells #[.int .i64 0, .int .i64 0, .int .i64 0, .int .i64 0] 33)) B5 r A c E D1 x AC AP cc cp xa (.slice V1 b1.length c1) (.slice V2 b2.length c2') b1 b2) := Lib.hid ((Hpa3.out).step (below_one wpa1 (.cells #[.int .i64 0, .int .i64 0, .int .i64 0, .int .i64 0] 33)))
          have Kpad5 : Hid ((wpa1.alloc (.cells #[.int .i64 0, .int .i64 0, .int .i64 0, .int .i64 0] 33)).cell? ⟨W.heap.size, 0, none⟩ = some (.slice A r.bases.length c) ∧ (wpa1.alloc (.cells #[.int .i64 0, .int .i64 0, .int .i64 0, .int .i64 0] 33)).cell? ⟨W.heap.size, 1, none⟩ = some (.int .i64 r.factor) ∧ (wpa1.alloc (.cells #[.int .i64 0, .int .i64 0, .int .i64 0, .int .i64 0] 33)).cell? ⟨W.heap.size, 2, none⟩ = some (.int .i64 r.most) ∧ (wpa1.alloc (.cells #[.int .i64 0, .int .i64 0, .int .i64 0, .int .i64 0] 33)).cell? ⟨E, 0, none⟩ = some (.slice AC x.calls.length cc) ∧ (wpa1.alloc (.cells #[.int .i64 0, .int .i64 0, .int .i64 0, .int .i64 0] 33)).cell? ⟨E, 1, none⟩ = some (.slice AP x.parts.length cp) ∧ (wpa1.alloc (.cells #[.int .i64 0, .int .i64 0, .int .i64 0, .int .i64 0] 33)).cell? ⟨E, 2, none⟩ = some (.int .i64 x.over)) := Lib.hid (HKP.out _ (Hpad4.out))
          have Epad6 : Hid (Below Np w1p (wpa1.alloc (.cells #[.int .i64 0, .int .i64 0, .int .i64 0, .int .i64 0] 33)) ∧ Np ≤ (wpa1.alloc (.cells #[.int .i64 0, .int .i64 0, .int .i64 0, .int .i64 0] 33)).heap.size) := Lib.hid (⟨(Epa5.out).1.trans (((below_one wpa1 (.cells #[.int .i64 0, .int .i64 0, .int .i64 0, .int .i64 0] 33))).mono (Epa5.out).2), Nat.le_trans (Epa5.out).2 ((below_one wpa1 (.cells #[.int .i64 0, .int .i64 0, .int .i64 0, .int .i64 0] 33))).size⟩)
          have Epad7 : Hid (SkR (wpa1.alloc (.cells #[.int .i64 0, .int .i64 0, .int .i64 0, .int .i64 0] 33)) (wpa1.alloc (.cells #[.int .i64 0, .int .i64 0, .int .i64 0, .int .i64 0] 33)).heap.size (changedS x jn by_ (3 * k)) BC BP) := Lib.hid ((Mpa2.out).step (below_one wpa1 (.cells #[.int .i64 0, .int .i64 0, .int .i64 0, .int .i64 0] 33)))
          refine hK.out _ _ (fun h => Kpad5.out) ?_
          clear hK K
          try simp only [Act.put, List.setIfInBounds_toArray, List.set_cons_zero, List.set_cons_succ]
          generalize wpa1.alloc (.cells #[.int .i64 0, .int .i64 0, .int .i64 0, .int .i64 0] 33) = wpad1 at Hpad4 Kpad5 Epad6 Epad7 Epad3 ⊢
          generalize wpa1.heap.size = bpad2 at Epad3 ⊢
          refine wpLate_one (i := 7) (o := ?o7pad8_) (by kernel_rfl) ?ho7pad8_ ?hk7pad8_
          case ho7pad8_ => (simp only [List.getElem?_toArray, List.getElem?_cons_zero, List.getElem?_cons_succ]; rfl)
          intro K hK
          go_simp
          refine (HP2.out _ _ _ _ _ Hpad4.out.b Epad7.out).mono ?_
          rintro e wpad9 ⟨rfl, hb9⟩
          have Hpad10 : Hid (SS5 W w5 wpad9 B5 r A c E D1 x AC AP cc cp xa (.slice V1 b1.length c1) (.slice V2 b2.length c2') b1 b2) := Lib.hid ((Hpad4.out).step hb9)
          have Kpad11 : Hid (wpad9.cell? ⟨W.heap.size, 0, none⟩ = some (.slice A r.bases.length c) ∧ wpad9.cell? ⟨W.heap.size, 1, none⟩ = some (.int .i64 r.factor) ∧ wpad9.cell? ⟨W.heap.size, 2, none⟩ = some (.int .i64 r.most) ∧ wpad9.cell? ⟨E, 0, none⟩ = some (.slice AC x.calls.length cc) ∧ wpad9.cell? ⟨E, 1, none⟩ = some (.slice AP x.parts.length cp) ∧ wpad9.cell? ⟨E, 2, none⟩ = some (.int .i64 x.over)) := Lib.hid (HKP.out _ (Hpad10.out))
          have Epad12 : Hid (Below Np w1p wpad9 ∧ Np ≤ wpad9.heap.size) := Lib.hid (⟨(Epad6.out).1.trans ((hb9).mono (Epad6.out).2), Nat.le_trans (Epad6.out).2 (hb9).size⟩)
          have Epad13 : Hid (SkR wpad9 wpad9.heap.size (changedS x jn by_ (3 * k)) BC BP) := Lib.hid ((Epad7.out).step hb9)
          have Epad14 : Hid (Has wpad9 bpad2 33 #[.int .i64 0, .int .i64 0, .int .i64 0, .int .i64 0] ∧ bpad2 < wpad9.heap.size ∧ Np ≤ bpad2) := Lib.hid (⟨(Epad3.out).1.below hb9 (Epad3.out).2.1, Nat.lt_of_lt_of_le (Epad3.out).2.1 (hb9).size, (Epad3.out).2.2⟩)
          clear hb9
          go_simp
          refine hK.out _ _ (fun h => Kpad11.out) ?_
          clear hK K
          try simp only [Act.put, List.setIfInBounds_toArray, List.set_cons_zero, List.set_cons_succ]
          refine wpLate_take (i := 8) (oi := ?oi8pad15_) (v := ?v8pad15_) [9, 10, 12, 13] ?hi8pad15_ (by kernel_rfl) (by kernel_rfl) (by kernel_rfl) (by kernel_rfl) (by kernel_rfl) ?hQ8pad15_ (Or.inl ⟨?hw8pad15_, ?hy8pad15_⟩) Kpad11.out ?rest8pad15_
          case hi8pad15_ => (simp only [List.getElem?_toArray, List.getElem?_cons_zero, List.getElem?_cons_succ]; rfl)
          case hQ8pad15_ => exact fun _ _ _ h => h
          case hw8pad15_ => rfl
          case hy8pad15_ =>
            intro w' hSw
            obtain ⟨r0, r1, r2, r3, r4, r5⟩ := hSw
            go_simp
            try exact rfl
          try simp only [Act.put, List.setIfInBounds_toArray, List.set_cons_zero, List.set_cons_succ]
          refine wpLate_take (i := 9) (oi := ?oi9pad16_) (v := ?v9pad16_) [12, 13] ?hi9pad16_ (by kernel_rfl) (by kernel_rfl) (by kernel_rfl) (by kernel_rfl) (by kernel_rfl) ?hQ9pad16_ (Or.inl ⟨?hw9pad16_, ?hy9pad16_⟩) Kpad11.out ?rest9pad16_
          case hi9pad16_ => (simp only [List.getElem?_toArray, List.getElem?_cons_zero, List.getElem?_cons_succ]; rfl)
          case hQ9pad16_ => exact fun _ _ _ h => h
          case hw9pad16_ => rfl
          case hy9pad16_ =>
            intro w' hSw
            obtain ⟨r0, r1, r2, r3, r4, r5⟩ := hSw
            go_simp
            try exact rfl
          try simp only [Act.put, List.setIfInBounds_toArray, List.set_cons_zero, List.set_cons_succ]
          refine wpLate_take (i := 10) (oi := ?oi10pad17_) (v := ?v10pad17_) [13] ?hi10pad17_ (by kernel_rfl) (by kernel_rfl) (by kernel_rfl) (by kernel_rfl) (by kernel_rfl) ?hQ10pad17_ (Or.inl ⟨?hw10pad17_, ?hy10pad17_⟩) Kpad11.out ?rest10pad17_
          case hi10pad17_ => (simp only [List.getElem?_toArray, List.getElem?_cons_zero, List.getElem?_cons_succ]; rfl)
          case hQ10pad17_ => exact fun _ _ _ h => h
          case hw10pad17_ => rfl
          case hy10pad17_ =>
            intro w' hSw
            obtain ⟨r0, r1, r2, r3, r4, r5⟩ := hSw
            go_simp
            try exact rfl
          try simp only [Act.put, List.setIfInBounds_toArray, List.set_cons_zero, List.set_cons_succ]
          refine wpLate_one (i := 12) (o := ?o12pad18_) (by kernel_rfl) ?ho12pad18_ ?hk12pad18_
          case ho12pad18_ => (simp only [List.getElem?_toArray, List.getElem?_cons_zero, List.getElem?_cons_succ]; rfl)
          intro K hK
          have l0 : wpad9.cell? ⟨bpad2, 0, none⟩ = some (.int .i64 0) := Epad14.out.1.cell 0
          have l1 : wpad9.cell? ⟨bpad2, 1, none⟩ = some (.int .i64 0) := Epad14.out.1.cell 1
          have l2 : wpad9.cell? ⟨bpad2, 2, none⟩ = some (.int .i64 0) := Epad14.out.1.cell 2
          have l3 : wpad9.cell? ⟨bpad2, 3, none⟩ = some (.int .i64 0) := Epad14.out.1.cell 3
          have f0 := Epad14.out.1.frozen 0
          have f1 := Epad14.out.1.frozen 1
          have f2 := Epad14.out.1.frozen 2
          have f3 := Epad14.out.1.frozen 3
          have HFpad : Hid ((SS5 W w5 ((((wpad9.setCell ⟨bpad2, 0, none⟩ (.int .i64 xb.elements)).setCell ⟨bpad2, 1, none⟩ (.int .i64 xb.parts)).setCell ⟨bpad2, 2, none⟩ (.int .i64 xb.off)).setCell ⟨bpad2, 3, none⟩ (.int .i64 xb.total)) B5 r A c E D1 x AC AP cc cp xa (.slice V1 b1.length c1) (.slice V2 b2.length c2') b1 b2) ∧ Has ((((wpad9.setCell ⟨bpad2, 0, none⟩ (.int .i64 xb.elements)).setCell ⟨bpad2, 1, none⟩ (.int .i64 xb.parts)).setCell ⟨bpad2, 2, none⟩ (.int .i64 xb.off)).setCell ⟨bpad2, 3, none⟩ (.int .i64 xb.total)) bpad2 33 (scc xb) ∧ D1 < bpad2) := Lib.hid ⟨(H1p.out).step (by rw [← NHp.out]; exact ((((Epad12.out.1.setCell Epad14.out.2.2 _).setCell Epad14.out.2.2 _).setCell Epad14.out.2.2 _).setCell Epad14.out.2.2 _)), (((Epad14.out.1.set 0 _).set 1 _).set 2 _).set 3 _, Nat.lt_of_lt_of_le (by rw [NHp.out]; exact (H1p.out).fd.lt) Epad14.out.2.2⟩
          go_simp
          refine hK.out _ _ (fun h => HKP.out _ (HFpad.out.1)) ?_
          clear hK K
          try simp only [Act.put, List.setIfInBounds_toArray, List.set_cons_zero, List.set_cons_succ]
          refine wpLate_one (i := 13) (o := ?o13pad19_) (by kernel_rfl) ?ho13pad19_ ?hk13pad19_
          case ho13pad19_ => (simp only [List.getElem?_toArray, List.getElem?_cons_zero, List.getElem?_cons_succ]; rfl)
          intro K hK
          go_simp
          refine hK.out _ _ (fun h => HKP.out _ (HFpad.out.1)) ?_
          clear hK K
          try simp only [Act.put, List.setIfInBounds_toArray, List.set_cons_zero, List.set_cons_succ]
          refine wpLate_done (by kernel_rfl) ?_ _
          try simp only [Act.put, List.setIfInBounds_toArray, List.set_cons_zero, List.set_cons_succ]
          try go_wp2_with fail
          go_meet
          exact ⟨bpad2, rfl, rfl, HFpad⟩
      case hkBp7_ =>
        intro K hK
        go_simp
        have Epb3 : Hid (Has (w1p.alloc (.cells #[.int .i64 0, .int .i64 0, .int .i64 0, .int .i64 0] 33)) w1p.heap.size 33 #[.int .i64 0, .int .i64 0, .int .i64 0, .int .i64 0] ∧ w1p.heap.size < (w1p.alloc (.cells #[.int .i64 0, .int .i64 0, .int .i64 0, .int .i64 0] 33)).heap.size ∧ Np ≤ w1p.heap.size) := Lib.hid ⟨Has.new _ _ _, by simp, Bbp.out.2⟩
        have Hpb4 : Hid (SS5 W w5 (w1p.alloc (.cells #[.int .i64 0, .int .i64 0, .int .i64 0, .int .i64 0] 33)) B5 r A c E D1 x AC AP cc cp xa (.slice V1 b1.length c1) (.slice V2 b2.length c2') b1 b2) := Lib.hid ((H1p.out).step (below_one w1p (.cells #[.int .i64 0, .int .i64 0, .int .i64 0, .int .i64 0] 33)))
        have Kpb5 : Hid ((w1p.alloc (.cells #[.int .i64 0, .int .i64 0, .int .i64 0, .int .i64 0] 33)).cell? ⟨W.heap.size, 0, none⟩ = some (.slice A r.bases.length c) ∧ (w1p.alloc (.cells #[.int .i64 0, .int .i64 0, .int .i64 0, .int .i64 0] 33)).cell? ⟨W.heap.size, 1, none⟩ = some (.int .i64 r.factor) ∧ (w1p.alloc (.cells #[.int .i64 0, .int .i64 0, .int .i64 0, .int .i64 0] 33)).cell? ⟨W.heap.size, 2, none⟩ = some (.int .i64 r.most) ∧ (w1p.alloc (.cells #[.int .i64 0, .int .i64 0, .int .i64 0, .int .i64 0] 33)).cell? ⟨E, 0, none⟩ = some (.slice AC x.calls.length cc) ∧ (w1p.alloc (.cells #[.int .i64 0, .int .i64 0, .int .i64 0, .int .i64 0] 33)).cell? ⟨E, 1, none⟩ = some (.slice AP x.parts.length cp) ∧ (w1p.alloc (.cells #[.int .i64 0, .int .i64 0, .int .i64 0, .int .i64 0] 33)).cell? ⟨E, 2, none⟩ = some (.int .i64 x.over)) := Lib.hid (HKP.out _ (Hpb4.out))
        have Epb6 : Hid (Below Np w1p (w1p.alloc (.cells #[.int .i64 0, .int .i64 0, .int .i64 0, .int .i64 0] 33)) ∧ Np ≤ (w1p.alloc (.cells #[.int .i64 0, .int .i64 0, .int .i64 0, .int .i64 0] 33)).heap.size) := Lib.hid (⟨(Bbp.out).1.trans (((below_one w1p (.cells #[.int .i64 0, .int .i64 0, .int .i64 0, .int .i64 0] 33))).mono (Bbp.out).2), Nat.le_trans (Bbp.out).2 ((below_one w1p (.cells #[.int .i64 0, .int .i64 0, .int .i64 0, .int .i64 0] 33))).size⟩)
        refine hK.out _ _ (fun h => Kpb5.out) ?_
        clear hK K
        try simp only [Act.put, List.setIfInBounds_toArray, List.set_cons_zero, List.set_cons_succ]
        generalize w1p.alloc (.cells #[.int .i64 0, .int .i64 0, .int .i64 0, .int .i64 0] 33) = wpb1 at Hpb4 Kpb5 Epb6 Epb3 ⊢
        generalize w1p.heap.size = bpb2 at Epb3 ⊢
        refine wpLate_one (i := 6) (o := ?o6pb7_) (by kernel_rfl) ?ho6pb7_ ?hk6pb7_
        case ho6pb7_ => (simp only [List.getElem?_toArray, List.getElem?_cons_zero, List.getElem?_cons_succ]; rfl)
        intro K hK
        go_simp
        refine (HCG.out x HXM.out AC AP cc cp (3 * k) (by omega) _ Hpb4.out.b ((HSK.out.below Hpb4.out.b).more Hpb4.out.b.size)).mono ?_
        rintro e wpb8 ⟨BC, BP, bc, bp, rfl, hsk9, hb9⟩
        have Mpb9 : Hid (SkR wpb8 wpb8.heap.size (changedS x jn by_ (3 * k)) BC BP) := Lib.hid hsk9
        clear hsk9
        have Hpb10 : Hid (SS5 W w5 wpb8 B5 r A c E D1 x AC AP cc cp xa (.slice V1 b1.length c1) (.slice V2 b2.length c2') b1 b2) := Lib.hid ((Hpb4.out).step hb9)
        have Kpb11 : Hid (wpb8.cell? ⟨W.heap.size, 0, none⟩ = some (.slice A r.bases.length c) ∧ wpb8.cell? ⟨W.heap.size, 1, none⟩ = some (.int .i64 r.factor) ∧ wpb8.cell? ⟨W.heap.size, 2, none⟩ = some (.int .i64 r.most) ∧ wpb8.cell? ⟨E, 0, none⟩ = some (.slice AC x.calls.length cc) ∧ wpb8.cell? ⟨E, 1, none⟩ = some (.slice AP x.parts.length cp) ∧ wpb8.cell? ⟨E, 2, none⟩ = some (.int .i64 x.over)) := Lib.hid (HKP.out _ (Hpb10.out))
        have Epb12 : Hid (Below Np w1p wpb8 ∧ Np ≤ wpb8.heap.size) := Lib.hid (⟨(Epb6.out).1.trans ((hb9).mono (Epb6.out).2), Nat.le_trans (Epb6.out).2 (hb9).size⟩)
        have Epb13 : Hid (Has wpb8 bpb2 33 #[.int .i64 0, .int .i64 0, .int .i64 0, .int .i64 0] ∧ bpb2 < wpb8.heap.size ∧ Np ≤ bpb2) := Lib.hid (⟨(Epb3.out).1.below hb9 (Epb3.out).2.1, Nat.lt_of_lt_of_le (Epb3.out).2.1 (hb9).size, (Epb3.out).2.2⟩)
        clear hb9
        go_simp
        refine hK.out _ _ (fun h => Kpb11.out) ?_
        clear hK K
        try simp only [Act.put, List.setIfInBounds_toArray, List.set_cons_zero, List.set_cons_succ]
        refine wpLate_one (i := 7) (o := ?o7pb14_) (by kernel_rfl) ?ho7pb14_ ?hk7pb14_
        case ho7pb14_ => (simp only [List.getElem?_toArray, List.getElem?_cons_zero, List.getElem?_cons_succ]; rfl)
        intro K hK
        go_simp
        refine (HP2.out _ _ _ _ _ Hpb10.out.b Mpb9.out).mono ?_
        rintro e wpb15 ⟨rfl, hb9⟩
        have Hpb16 : Hid (SS5 W w5 wpb15 B5 r A c E D1 x AC AP cc cp xa (.slice V1 b1.length c1) (.slice V2 b2.length c2') b1 b2) := Lib.hid ((Hpb10.out).step hb9)
        have Kpb17 : Hid (wpb15.cell? ⟨W.heap.size, 0, none⟩ = some (.slice A r.bases.length c) ∧ wpb15.cell? ⟨W.heap.size, 1, none⟩ = some (.int .i64 r.factor) ∧ wpb15.cell? ⟨W.heap.size, 2, none⟩ = some (.int .i64 r.most) ∧ wpb15.cell? ⟨E, 0, none⟩ = some (.slice AC x.calls.length cc) ∧ wpb15.cell? ⟨E, 1, none⟩ = some (.slice AP x.parts.length cp) ∧ wpb15.cell? ⟨E, 2, none⟩ = some (.int .i64 x.over)) := Lib.hid (HKP.out _ (Hpb16.out))
        have Epb18 : Hid (Below Np w1p wpb15 ∧ Np ≤ wpb15.heap.size) := Lib.hid (⟨(Epb12.out).1.trans ((hb9).mono (Epb12.out).2), Nat.le_trans (Epb12.out).2 (hb9).size⟩)
        have Epb19 : Hid (Has wpb15 bpb2 33 #[.int .i64 0, .int .i64 0, .int .i64 0, .int .i64 0] ∧ bpb2 < wpb15.heap.size ∧ Np ≤ bpb2) := Lib.hid (⟨(Epb13.out).1.below hb9 (Epb13.out).2.1, Nat.lt_of_lt_of_le (Epb13.out).2.1 (hb9).size, (Epb13.out).2.2⟩)
        have Epb20 : Hid (SkR wpb15 wpb15.heap.size (changedS x jn by_ (3 * k)) BC BP) := Lib.hid ((Mpb9.out).step hb9)
        clear hb9
        go_simp
        refine hK.out _ _ (fun h => Kpb17.out) ?_
        clear hK K
        try simp only [Act.put, List.setIfInBounds_toArray, List.set_cons_zero, List.set_cons_succ]
        refine wpLate_take (i := 8) (oi := ?oi8pb21_) (v := ?v8pb21_) [9, 10, 12, 13] ?hi8pb21_ (by kernel_rfl) (by kernel_rfl) (by kernel_rfl) (by kernel_rfl) (by kernel_rfl) ?hQ8pb21_ (Or.inl ⟨?hw8pb21_, ?hy8pb21_⟩) Kpb17.out ?rest8pb21_
        case hi8pb21_ => (simp only [List.getElem?_toArray, List.getElem?_cons_zero, List.getElem?_cons_succ]; rfl)
        case hQ8pb21_ => exact fun _ _ _ h => h
        case hw8pb21_ => rfl
        case hy8pb21_ =>
          intro w' hSw
          obtain ⟨r0, r1, r2, r3, r4, r5⟩ := hSw
          go_simp
          try exact rfl
        try simp only [Act.put, List.setIfInBounds_toArray, List.set_cons_zero, List.set_cons_succ]
        refine wpLate_take (i := 9) (oi := ?oi9pb22_) (v := ?v9pb22_) [12, 13] ?hi9pb22_ (by kernel_rfl) (by kernel_rfl) (by kernel_rfl) (by kernel_rfl) (by kernel_rfl) ?hQ9pb22_ (Or.inl ⟨?hw9pb22_, ?hy9pb22_⟩) Kpb17.out ?rest9pb22_
        case hi9pb22_ => (simp only [List.getElem?_toArray, List.getElem?_cons_zero, List.getElem?_cons_succ]; rfl)
        case hQ9pb22_ => exact fun _ _ _ h => h
        case hw9pb22_ => rfl
        case hy9pb22_ =>
          intro w' hSw
          obtain ⟨r0, r1, r2, r3, r4, r5⟩ := hSw
          go_simp
          try exact rfl
        try simp only [Act.put, List.setIfInBounds_toArray, List.set_cons_zero, List.set_cons_succ]
        refine wpLate_take (i := 10) (oi := ?oi10pb23_) (v := ?v10pb23_) [13] ?hi10pb23_ (by kernel_rfl) (by kernel_rfl) (by kernel_rfl) (by kernel_rfl) (by kernel_rfl) ?hQ10pb23_ (Or.inl ⟨?hw10pb23_, ?hy10pb23_⟩) Kpb17.out ?rest10pb23_
        case hi10pb23_ => (simp only [List.getElem?_toArray, List.getElem?_cons_zero, List.getElem?_cons_succ]; rfl)
        case hQ10pb23_ => exact fun _ _ _ h => h
        case hw10pb23_ => rfl
        case hy10pb23_ =>
          intro w' hSw
          obtain ⟨r0, r1, r2, r3, r4, r5⟩ := hSw
          go_simp
          try exact rfl
        try simp only [Act.put, List.setIfInBounds_toArray, List.set_cons_zero, List.set_cons_succ]
        refine wpLate_one (i := 12) (o := ?o12pb24_) (by kernel_rfl) ?ho12pb24_ ?hk12pb24_
        case ho12pb24_ => (simp only [List.getElem?_toArray, List.getElem?_cons_zero, List.getElem?_cons_succ]; rfl)
        intro K hK
        have l0 : wpb15.cell? ⟨bpb2, 0, none⟩ = some (.int .i64 0) := Epb19.out.1.cell 0
        have l1 : wpb15.cell? ⟨bpb2, 1, none⟩ = some (.int .i64 0) := Epb19.out.1.cell 1
        have l2 : wpb15.cell? ⟨bpb2, 2, none⟩ = some (.int .i64 0) := Epb19.out.1.cell 2
        have l3 : wpb15.cell? ⟨bpb2, 3, none⟩ = some (.int .i64 0) := Epb19.out.1.cell 3
        have f0 := Epb19.out.1.frozen 0
        have f1 := Epb19.out.1.frozen 1
        have f2 := Epb19.out.1.frozen 2
        have f3 := Epb19.out.1.frozen 3
        have HFpb : Hid ((SS5 W w5 ((((wpb15.setCell ⟨bpb2, 0, none⟩ (.int .i64 xb.elements)).setCell ⟨bpb2, 1, none⟩ (.int .i64 xb.parts)).setCell ⟨bpb2, 2, none⟩ (.int .i64 xb.off)).setCell ⟨bpb2, 3, none⟩ (.int .i64 xb.total)) B5 r A c E D1 x AC AP cc cp xa (.slice V1 b1.length c1) (.slice V2 b2.length c2') b1 b2) ∧ Has ((((wpb15.setCell ⟨bpb2, 0, none⟩ (.int .i64 xb.elements)).setCell ⟨bpb2, 1, none⟩ (.int .i64 xb.parts)).setCell ⟨bpb2, 2, none⟩ (.int .i64 xb.off)).setCell ⟨bpb2, 3, none⟩ (.int .i64 xb.total)) bpb2 33 (scc xb) ∧ D1 < bpb2) := Lib.hid ⟨(H1p.out).step (by rw [← NHp.out]; exact ((((Epb18.out.1.setCell Epb19.out.2.2 _).setCell Epb19.out.2.2 _).setCell Epb19.out.2.2 _).setCell Epb19.out.2.2 _)), (((Epb19.out.1.set 0 _).set 1 _).set 2 _).set 3 _, Nat.lt_of_lt_of_le (by rw [NHp.out]; exact (H1p.out).fd.lt) Epb19.out.2.2⟩
        go_simp
        refine hK.out _ _ (fun h => HKP.out _ (HFpb.out.1)) ?_
        clear hK K
        try simp only [Act.put, List.setIfInBounds_toArray, List.set_cons_zero, List.set_cons_succ]
        refine wpLate_one (i := 13) (o := ?o13pb25_) (by kernel_rfl) ?ho13pb25_ ?hk13pb25_
        case ho13pb25_ => (simp only [List.getElem?_toArray, List.getElem?_cons_zero, List.getElem?_cons_succ]; rfl)
        intro K hK
        go_simp
        refine hK.out _ _ (fun h => HKP.out _ (HFpb.out.1)) ?_
        clear hK K
        try simp only [Act.put, List.setIfInBounds_toArray, List.set_cons_zero, List.set_cons_succ]
        refine wpLate_done (by kernel_rfl) ?_ _
        try simp only [Act.put, List.setIfInBounds_toArray, List.set_cons_zero, List.set_cons_succ]
        try go_wp2_with fail
        go_meet
        exact ⟨bpb2, rfl, rfl, HFpb⟩
    case rest =>
      obtain ⟨b9p, rfl, rfl, H9p⟩ := hcut
      rename World => w9p
      clear H7 HP2 HCG HPB HKP ew
      obtain ⟨D2, hD2⟩ : ∃ D2, D2 = b9p := ⟨_, rfl⟩
      rw [← hD2] at H9p ⊢
      clear hD2
      go_upto_region 17 with fail
      have H1u : Hid (SA5 W w5 w9p.drew B5 0 r A c (.slice V1 b1.length c1) (.slice V2 b2.length c2') b1 b2) := Lib.hid (SA5.step ⟨H9p.out.1.b, H9p.out.1.b5, H9p.out.1.t, H9p.out.1.h5, Nat.le_of_lt HBB.out.2⟩ ((Below.refl _ _).drew))
      have HD1 : Hid (Has w9p.drew D1 33 (scc xa)) := Lib.hid H9p.out.1.fd.drew
      have HD2 : Hid (Has w9p.drew D2 33 (scc xb)) := Lib.hid H9p.out.2.1.drew
      have K1u : Hid (w9p.drew.cell? ⟨D1, 0, none⟩ = some (.int .i64 xa.elements) ∧ w9p.drew.cell? ⟨D1, 1, none⟩ = some (.int .i64 xa.parts) ∧ w9p.drew.cell? ⟨D1, 2, none⟩ = some (.int .i64 xa.off) ∧ w9p.drew.cell? ⟨D1, 3, none⟩ = some (.int .i64 xa.total) ∧ w9p.drew.cell? ⟨D2, 0, none⟩ = some (.int .i64 xb.elements) ∧ w9p.drew.cell? ⟨D2, 1, none⟩ = some (.int .i64 xb.parts) ∧ w9p.drew.cell? ⟨D2, 2, none⟩ = some (.int .i64 xb.off) ∧ w9p.drew.cell? ⟨D2, 3, none⟩ = some (.int .i64 xb.total)) := Lib.hid ⟨HD1.out.cell 0, HD1.out.cell 1, HD1.out.cell 2, HD1.out.cell 3, HD2.out.cell 0, HD2.out.cell 1, HD2.out.cell 2, HD2.out.cell 3⟩
      have HLT := Lib.hid (show E < D1 ∧ D1 < D2 ∧ D2 < w9p.drew.heap.size from ⟨HED.out, H9p.out.2.2, H9p.out.2.1.lt⟩)
      clear H9p HED
      refine wp_region_late (fun w' : World => w'.cell? ⟨D1, 0, none⟩ = some (.int .i64 xa.elements) ∧ w'.cell? ⟨D1, 1, none⟩ = some (.int .i64 xa.parts) ∧ w'.cell? ⟨D1, 2, none⟩ = some (.int .i64 xa.off) ∧ w'.cell? ⟨D1, 3, none⟩ = some (.int .i64 xa.total) ∧ w'.cell? ⟨D2, 0, none⟩ = some (.int .i64 xb.elements) ∧ w'.cell? ⟨D2, 1, none⟩ = some (.int .i64 xb.parts) ∧ w'.cell? ⟨D2, 2, none⟩ = some (.int .i64 xb.off) ∧ w'.cell? ⟨D2, 3, none⟩ = some (.int .i64 xb.total)) [] (by kernel_rfl) ?_
      generalize w9p.drew = w1u at H1u K1u HD1 HD2 HLT ⊢
      obtain ⟨N, hN⟩ : ∃ N, N = w1u.heap.size := ⟨_, rfl⟩
      rw [← hN] at HLT
      have Bbu : Hid (Below N w1u w1u ∧ N ≤ w1u.heap.size) := Lib.hid ⟨by rw [hN]; exact Below.refl _ _, Nat.le_of_eq hN⟩
      clear hN
      refine wpLate_take (i := 0) (oi := ?oi0u1_) (v := ?v0u1_) [3, 7, 8, 9] ?hi0u1_ (by kernel_rfl) (by kernel_rfl) (by kernel_rfl) (by kernel_rfl) (by kernel_rfl) ?hQ0u1_ (Or.inl ⟨?hw0u1_, ?hy0u1_⟩) K1u.out ?rest0u1_
      case hi0u1_ => (simp only [List.getElem?_toArray, List.getElem?_cons_zero]; rfl)
      case hQ0u1_ => exact fun _ _ _ h => h
      case hw0u1_ => rfl
      case hy0u1_ =>
        intro w' hSw
        obtain ⟨r0, r1, r2, r3, r4, r5, r6, r7⟩ := hSw
        go_simp
        try exact rfl
      try simp only [Act.put, List.setIfInBounds_toArray, List.set_cons_zero, List.set_cons_succ]
      refine wpLate_take (i := 1) (oi := ?oi1u2_) (v := ?v1u2_) [2, 3, 7, 8, 9] ?hi1u2_ (by kernel_rfl) (by kernel_rfl) (by kernel_rfl) (by kernel_rfl) (by kernel_rfl) ?hQ1u2_ (Or.inl ⟨?hw1u2_, ?hy1u2_⟩) K1u.out ?rest1u2_
      case hi1u2_ => (simp only [List.getElem?_toArray, List.getElem?_cons_zero, List.getElem?_cons_succ]; rfl)
      case hQ1u2_ => exact fun _ _ _ h => h
      case hw1u2_ => rfl
      case hy1u2_ =>
        intro w' hSw
        obtain ⟨r0, r1, r2, r3, r4, r5, r6, r7⟩ := hSw
        go_simp
        try exact rfl
      try simp only [Act.put, List.setIfInBounds_toArray, List.set_cons_zero, List.set_cons_succ]
      refine wpLate_take (i := 4) (oi := ?oi4u3_) (v := ?v4u3_) [7, 8, 9] ?hi4u3_ (by kernel_rfl) (by kernel_rfl) (by kernel_rfl) (by kernel_rfl) (by kernel_rfl) ?hQ4u3_ (Or.inl ⟨?hw4u3_, ?hy4u3_⟩) K1u.out ?rest4u3_
      case hi4u3_ => (simp only [List.getElem?_toArray, List.getElem?_cons_zero, List.getElem?_cons_succ]; rfl)
      case hQ4u3_ => exact fun _ _ _ h => h
      case hw4u3_ => rfl
      case hy4u3_ =>
        intro w' hSw
        obtain ⟨r0, r1, r2, r3, r4, r5, r6, r7⟩ := hSw
        go_simp
        try exact rfl
      try simp only [Act.put, List.setIfInBounds_toArray, List.set_cons_zero, List.set_cons_succ]
      refine wpLate_take (i := 5) (oi := ?oi5u4_) (v := ?v5u4_) [6, 7, 8, 9] ?hi5u4_ (by kernel_rfl) (by kernel_rfl) (by kernel_rfl) (by kernel_rfl) (by kernel_rfl) ?hQ5u4_ (Or.inl ⟨?hw5u4_, ?hy5u4_⟩) K1u.out ?rest5u4_
      case hi5u4_ => (simp only [List.getElem?_toArray, List.getElem?_cons_zero, List.getElem?_cons_succ]; rfl)
      case hQ5u4_ => exact fun _ _ _ h => h
      case hw5u4_ => rfl
      case hy5u4_ =>
        intro w' hSw
        obtain ⟨r0, r1, r2, r3, r4, r5, r6, r7⟩ := hSw
        go_simp
        try exact rfl
      try simp only [Act.put, List.setIfInBounds_toArray, List.set_cons_zero, List.set_cons_succ]
      refine wpLate_two (i := 2) (j := 6) (o := ?oAu5_) (u := ?uAu5_) (by kernel_rfl) ?hoAu5_ ?huAu5_ ?hkAu5_ ?hkBu5_
      case hoAu5_ => (simp only [List.getElem?_toArray, List.getElem?_cons_zero, List.getElem?_cons_succ]; rfl)
      case huAu5_ => (simp only [List.getElem?_toArray, List.getElem?_cons_zero, List.getElem?_cons_succ]; rfl)
      case hkAu5_ =>
        intro K hK
        go_simp
        have Eua3 : Hid (Has (w1u.alloc (.cells (scc xa) 33)) w1u.heap.size 33 (scc xa) ∧ w1u.heap.size < (w1u.alloc (.cells (scc xa) 33)).heap.size ∧ N ≤ w1u.heap.size) := Lib.hid ⟨Has.new _ _ _, by simp, Bbu.out.2⟩
        have Hua4 : Hid (SA5 W w5 (w1u.alloc (.cells (scc xa) 33)) B5 0 r A c (.slice V1 b1.length c1) (.slice V2 b2.length c2') b1 b2) := Lib.hid ((H1u.out).step (below_one w1u (.cells (scc xa) 33)))
        have Eua6 : Hid (Below N w1u (w1u.alloc (.cells (scc xa) 33)) ∧ N ≤ (w1u.alloc (.cells (scc xa) 33)).heap.size) := Lib.hid (⟨(Bbu.out).1.trans (((below_one w1u (.cells (scc xa) 33))).mono (Bbu.out).2), Nat.le_trans (Bbu.out).2 ((below_one w1u (.cells (scc xa) 33))).size⟩)
        have Eua7 : Hid (Has (w1u.alloc (.cells (scc xa) 33)) D1 33 (scc xa)) := Lib.hid ((HD1.out).below (below_one w1u (.cells (scc xa) 33)) (HD1.out).lt)
        have Eua8 : Hid (Has (w1u.alloc (.cells (scc xa) 33)) D2 33 (scc xb)) := Lib.hid ((HD2.out).below (below_one w1u (.cells (scc xa) 33)) (HD2.out).lt)
        have Kua5 : Hid ((w1u.alloc (.cells (scc xa) 33)).cell? ⟨D1, 0, none⟩ = some (.int .i64 xa.elements) ∧ (w1u.alloc (.cells (scc xa) 33)).cell? ⟨D1, 1, none⟩ = some (.int .i64 xa.parts) ∧ (w1u.alloc (.cells (scc xa) 33)).cell? ⟨D1, 2, none⟩ = some (.int .i64 xa.off) ∧ (w1u.alloc (.cells (scc xa) 33)).cell? ⟨D1, 3, none⟩ = some (.int .i64 xa.total) ∧ (w1u.alloc (.cells (scc xa) 33)).cell? ⟨D2, 0, none⟩ = some (.int .i64 xb.elements) ∧ (w1u.alloc (.cells (scc xa) 33)).cell? ⟨D2, 1, none⟩ = some (.int .i64 xb.parts) ∧ (w1u.alloc (.cells (scc xa) 33)).cell? ⟨D2, 2, none⟩ = some (.int .i64 xb.off) ∧ (w1u.alloc (.cells (scc xa) 33)).cell? ⟨D2, 3, none⟩ = some (.int .i64 xb.total)) := Lib.hid ⟨Eua7.out.cell 0, Eua7.out.cell 1, Eua7.out.cell 2, Eua7.out.cell 3, Eua8.out.cell 0, Eua8.out.cell 1, Eua8.out.cell 2, Eua8.out.cell 3⟩
        refine hK.out _ _ (fun h => Kua5.out) ?_
        clear hK K
        try simp only [Act.put, List.setIfInBounds_toArray, List.set_cons_zero, List.set_cons_succ]
        generalize w1u.alloc (.cells (scc xa) 33) = wua1 at Hua4 Kua5 Eua6 Eua7 Eua8 Eua3 ⊢
        generalize w1u.heap.size = bua2 at Eua3 ⊢
        refine wpLate_two (i := 3) (j := 6) (o := ?oAua9_) (u := ?uAua9_) (by kernel_rfl) ?hoAua9_ ?huAua9_ ?hkAua9_ ?hkBua9_
        case hoAua9_ => (simp only [List.getElem?_toArray, List.getElem?_cons_zero, List.getElem?_cons_succ]; rfl)
        case huAua9_ => (simp only [List.getElem?_toArray, List.getElem?_cons_zero, List.getElem?_cons_succ]; rfl)
        case hkAua9_ =>
          intro K hK
          refine step_append_lies _ rfl (.tmp 119) (.tmp 121) 41 rfl B5 33 i0 (.agg #[.int .i64 0, .int .i64 0, .int .i64 0, .int .i64 0]) 4 32 Try.underlying41 hi hz0 hz1 hz2 rfl (by decide) (.slice V1 b1.length c1) b1.length (nvl scc b1) rfl Hua4.out.t.o1 ⟨bua2, 0, none⟩ 1 1 (nvl scc [xa]) rfl ?r1uac1 (sc_new Eua3.out.1) (nvl_one scc_one _) ?r2uac1 ?r3uac1 ?r4uac1 ?r5uac1 _ rfl ?_
          case r1uac1 => rfl
          case r2uac1 => omega
          case r3uac1 => unfold maxLen; omega
          case r4uac1 => omega
          case r5uac1 => exact Hua4.out.h5
          rintro guac1 quac1 wuac1 hown hgr hgg hlt
          have Huac2 : Hid (SA5 W w5 wuac1 B5 0 r A c (.slice (some ⟨guac1, 0, none⟩) (b1.length + 1) quac1) (.slice V2 b2.length c2') (b1 ++ [xa]) b2) := Lib.hid (Hua4.out.app1 rfl hown hgr hgg)
          have Euac4 : Hid (Has wuac1 D1 33 (scc xa)) := Lib.hid (has_kept hgr Eua7.out (fun q hq => by have := HOB.out.1 q hq; have := HLT.out; omega))
          have Euac5 : Hid (Has wuac1 D2 33 (scc xb)) := Lib.hid (has_kept hgr Eua8.out (fun q hq => by have := HOB.out.1 q hq; have := HLT.out; omega))
          have Euac6 : Hid (Has wuac1 bua2 33 (scc xa) ∧ bua2 < wuac1.heap.size ∧ N ≤ bua2) := Lib.hid ⟨has_kept hgr Eua3.out.1 (fun q hq => by have := HOB.out.1 q hq; have := HLT.out; have := Eua3.out.2.2; omega), Nat.lt_of_lt_of_le Eua3.out.2.1 hgr.size, Eua3.out.2.2⟩
          have Euac7 : Hid (Below 0 w1u wuac1 ∧ N ≤ wuac1.heap.size) := Lib.hid ⟨⟨hgr.os.trans Eua6.out.1.os, hgr.tape.trans Eua6.out.1.tape, hgr.output.trans Eua6.out.1.output, Nat.le_trans Eua6.out.1.size hgr.size, fun k hk => by omega⟩, Nat.le_trans Eua6.out.2 hgr.size⟩
          have Kuac3 : Hid (wuac1.cell? ⟨D1, 0, none⟩ = some (.int .i64 xa.elements) ∧ wuac1.cell? ⟨D1, 1, none⟩ = some (.int .i64 xa.parts) ∧ wuac1.cell? ⟨D1, 2, none⟩ = some (.int .i64 xa.off) ∧ wuac1.cell? ⟨D1, 3, none⟩ = some (.int .i64 xa.total) ∧ wuac1.cell? ⟨D2, 0, none⟩ = some (.int .i64 xb.elements) ∧ wuac1.cell? ⟨D2, 1, none⟩ = some (.int .i64 xb.parts) ∧ wuac1.cell? ⟨D2, 2, none⟩ = some (.int .i64 xb.off) ∧ wuac1.cell? ⟨D2, 3, none⟩ = some (.int .i64 xb.total)) := Lib.hid ⟨Euac4.out.cell 0, Euac4.out.cell 1, Euac4.out.cell 2, Euac4.out.cell 3, Euac5.out.cell 0, Euac5.out.cell 1, Euac5.out.cell 2, Euac5.out.cell 3⟩
          refine hK.out _ _ (fun h => Kuac3.out) ?_
          clear hK K hown hgr hgg hlt
          try simp only [Act.put, List.setIfInBounds_toArray, List.set_cons_zero, List.set_cons_succ]
          refine wpLate_one (i := 6) (o := ?o6uac8_) (by kernel_rfl) ?ho6uac8_ ?hk6uac8_
          case ho6uac8_ => (simp only [List.getElem?_toArray, List.getElem?_cons_zero, List.getElem?_cons_succ]; rfl)
          intro K hK
          go_simp
          have Euac11 : Hid (Has (wuac1.alloc (.cells (scc xb) 33)) wuac1.heap.size 33 (scc xb) ∧ wuac1.heap.size < (wuac1.alloc (.cells (scc xb) 33)).heap.size ∧ N ≤ wuac1.heap.size) := Lib.hid ⟨Has.new _ _ _, by simp, Euac7.out.2⟩
          have Huac12 : Hid (SA5 W w5 (wuac1.alloc (.cells (scc xb) 33)) B5 0 r A c (.slice (some ⟨guac1, 0, none⟩) (b1.length + 1) quac1) (.slice V2 b2.length c2') (b1 ++ [xa]) b2) := Lib.hid ((Huac2.out).step (below_one wuac1 (.cells (scc xb) 33)))
          have Euac14 : Hid (Below 0 w1u (wuac1.alloc (.cells (scc xb) 33)) ∧ N ≤ (wuac1.alloc (.cells (scc xb) 33)).heap.size) := Lib.hid (⟨(Euac7.out).1.trans (((below_one wuac1 (.cells (scc xb) 33))).mono (Nat.zero_le _)), Nat.le_trans (Euac7.out).2 ((below_one wuac1 (.cells (scc xb) 33))).size⟩)
          have Euac15 : Hid (Has (wuac1.alloc (.cells (scc xb) 33)) D1 33 (scc xa)) := Lib.hid ((Euac4.out).below (below_one wuac1 (.cells (scc xb) 33)) (Euac4.out).lt)
          have Euac16 : Hid (Has (wuac1.alloc (.cells (scc xb) 33)) D2 33 (scc xb)) := Lib.hid ((Euac5.out).below (below_one wuac1 (.cells (scc xb) 33)) (Euac5.out).lt)
          have Euac17 : Hid (Has (wuac1.alloc (.cells (scc xb) 33)) bua2 33 (scc xa) ∧ bua2 < (wuac1.alloc (.cells (scc xb) 33)).heap.size ∧ N ≤ bua2) := Lib.hid (⟨(Euac6.out).1.below (below_one wuac1 (.cells (scc xb) 33)) (Euac6.out).2.1, Nat.lt_of_lt_of_le (Euac6.out).2.1 ((below_one wuac1 (.cells (scc xb) 33))).size, (Euac6.out).2.2⟩)
          have Kuac13 : Hid ((wuac1.alloc (.cells (scc xb) 33)).cell? ⟨D1, 0, none⟩ = some (.int .i64 xa.elements) ∧ (wuac1.alloc (.cells (scc xb) 33)).cell? ⟨D1, 1, none⟩ = some (.int .i64 xa.parts) ∧ (wuac1.alloc (.cells (scc xb) 33)).cell? ⟨D1, 2, none⟩ = some (.int .i64 xa.off) ∧ (wuac1.alloc (.cells (scc xb) 33)).cell? ⟨D1, 3, none⟩ = some (.int .i64 xa.total) ∧ (wuac1.alloc (.cells (scc xb) 33)).cell? ⟨D2, 0, none⟩ = some (.int .i64 xb.elements) ∧ (wuac1.alloc (.cells (scc xb) 33)).cell? ⟨D2, 1, none⟩ = some (.int .i64 xb.parts) ∧ (wuac1.alloc (.cells (scc xb) 33)).cell? ⟨D2, 2, none⟩ = some (.int .i64 xb.off) ∧ (wuac1.alloc (.cells (scc xb) 33)).cell? ⟨D2, 3, none⟩ = some (.int .i64 xb.total)) := Lib.hid ⟨Euac15.out.cell 0, Euac15.out.cell 1, Euac15.out.cell 2, Euac15.out.cell 3, Euac16.out.cell 0, Euac16.out.cell 1, Euac16.out.cell 2, Euac16.out.cell 3⟩
          refine hK.out _ _ (fun h => Kuac13.out) ?_
          clear hK K
          try simp only [Act.put, List.setIfInBounds_toArray, List.set_cons_zero, List.set_cons_succ]
          generalize wuac1.alloc (.cells (scc xb) 33) = wuac9 at Huac12 Kuac13 Euac14 Euac15 Euac16 Euac17 Euac11 ⊢
          generalize wuac1.heap.size = buac10 at Euac11 ⊢
          refine wpLate_one (i := 7) (o := ?o7uac18_) (by kernel_rfl) ?ho7uac18_ ?hk7uac18_
          case ho7uac18_ => (simp only [List.getElem?_toArray, List.getElem?_cons_zero, List.getElem?_cons_succ]; rfl)
          intro K hK
          refine step_append_lies _ rfl (.tmp 123) (.tmp 125) 41 rfl B5 33 i0 (.agg #[.int .i64 0, .int .i64 0, .int .i64 0, .int .i64 0]) 4 32 Try.underlying41 hi hz0 hz1 hz2 rfl (by decide) (.slice V2 b2.length c2') b2.length (nvl scc b2) rfl Huac12.out.t.o2 ⟨buac10, 0, none⟩ 1 1 (nvl scc [xb]) rfl ?r1uac19 (sc_new Euac11.out.1) (nvl_one scc_one _) ?r2uac19 ?r3uac19 ?r4uac19 ?r5uac19 _ rfl ?_
          case r1uac19 => rfl
          case r2uac19 => omega
          case r3uac19 => unfold maxLen; omega
          case r4uac19 => omega
          case r5uac19 => exact Huac12.out.h5
          rintro guac19 quac19 wuac19 hown hgr hgg hlt
          have Huac20 : Hid (SA5 W w5 wuac19 B5 0 r A c (.slice (some ⟨guac1, 0, none⟩) (b1.length + 1) quac1) (.slice (some ⟨guac19, 0, none⟩) (b2.length + 1) quac19) (b1 ++ [xa]) (b2 ++ [xb])) := Lib.hid (Huac12.out.app2 rfl hown hgr hgg)
          have Euac22 : Hid (Has wuac19 D1 33 (scc xa)) := Lib.hid (has_kept hgr Euac15.out (fun q hq => by have := HOB.out.2 q hq; have := HLT.out; omega))
          have Euac23 : Hid (Has wuac19 D2 33 (scc xb)) := Lib.hid (has_kept hgr Euac16.out (fun q hq => by have := HOB.out.2 q hq; have := HLT.out; omega))
          have Euac24 : Hid (Has wuac19 bua2 33 (scc xa) ∧ bua2 < wuac19.heap.size ∧ N ≤ bua2) := Lib.hid ⟨has_kept hgr Euac17.out.1 (fun q hq => by have := HOB.out.2 q hq; have := HLT.out; have := Euac17.out.2.2; omega), Nat.lt_of_lt_of_le Euac17.out.2.1 hgr.size, Euac17.out.2.2⟩
          have Euac25 : Hid (Has wuac19 buac10 33 (scc xb) ∧ buac10 < wuac19.heap.size ∧ N ≤ buac10) := Lib.hid ⟨has_kept hgr Euac11.out.1 (fun q hq => by have := HOB.out.2 q hq; have := HLT.out; have := Euac11.out.2.2; omega), Nat.lt_of_lt_of_le Euac11.out.2.1 hgr.size, Euac11.out.2.2⟩
          have Euac26 : Hid (Below 0 w1u wuac19 ∧ N ≤ wuac19.heap.size) := Lib.hid ⟨⟨hgr.os.trans Euac14.out.1.os, hgr.tape.trans Euac14.out.1.tape, hgr.output.trans Euac14.out.1.output, Nat.le_trans Euac14.out.1.size hgr.size, fun k hk => by omega⟩, Nat.le_trans Euac14.out.2 hgr.size⟩
          have Kuac21 : Hid (wuac19.cell? ⟨D1, 0, none⟩ = some (.int .i64 xa.elements) ∧ wuac19.cell? ⟨D1, 1, none⟩ = some (.int .i64 xa.parts) ∧ wuac19.cell? ⟨D1, 2, none⟩ = some (.int .i64 xa.off) ∧ wuac19.cell? ⟨D1, 3, none⟩ = some (.int .i64 xa.total) ∧ wuac19.cell? ⟨D2, 0, none⟩ = some (.int .i64 xb.elements) ∧ wuac19.cell? ⟨D2, 1, none⟩ = some (.int .i64 xb.parts) ∧ wuac19.cell? ⟨D2, 2, none⟩ = some (.int .i64 xb.off) ∧ wuac19.cell? ⟨D2, 3, none⟩ = some (.int .i64 xb.total)) := Lib.hid ⟨Euac22.out.cell 0, Euac22.out.cell 1, Euac22.out.cell 2, Euac22.out.cell 3, Euac23.out.cell 0, Euac23.out.cell 1, Euac23.out.cell 2, Euac23.out.cell 3⟩
          refine hK.out _ _ (fun h => Kuac21.out) ?_
          clear hK K hown hgr hgg hlt
          try simp only [Act.put, List.setIfInBounds_toArray, List.set_cons_zero, List.set_cons_succ]
          refine wpLate_one (i := 8) (o := ?o8uac27_) (by kernel_rfl) ?ho8uac27_ ?hk8uac27_
          case ho8uac27_ => (simp only [List.getElem?_toArray, List.getElem?_cons_zero, List.getElem?_cons_succ]; rfl)
          intro K hK
          go_simp
          refine hK.out _ _ (fun h => Kuac21.out) ?_
          clear hK K
          try simp only [Act.put, List.setIfInBounds_toArray, List.set_cons_zero, List.set_cons_succ]
          refine wpLate_one (i := 9) (o := ?o9uac28_) (by kernel_rfl) ?ho9uac28_ ?hk9uac28_
          case ho9uac28_ => (simp only [List.getElem?_toArray, List.getElem?_cons_zero, List.getElem?_cons_succ]; rfl)
          intro K hK
          go_simp
          refine hK.out _ _ (fun h => Kuac21.out) ?_
          clear hK K
          try simp only [Act.put, List.setIfInBounds_toArray, List.set_cons_zero, List.set_cons_succ]
          refine wpLate_done (by kernel_rfl) ?_ _
          try simp only [Act.put, List.setIfInBounds_toArray, List.set_cons_zero, List.set_cons_succ]
          go_wp2_with fail
          go_roundg (l.length - (k + 1))
          case measure => omega
          case rel => exact ⟨k + 1, by omega, Nat.le_refl _, by go_num, b1 ++ [xa], b2 ++ [xb], Lib.hid ⟨Huac20.out.b, Huac20.out.b5, H5.out.2.1.below Huac20.out.b5 HBB.out.2, Huac20.out.t, Huac20.out.h5, HNX.out.1, HNX.out.2⟩⟩
        case hkBua9_ =>
          intro K hK
          go_simp
          have Euad3 : Hid (Has (wua1.alloc (.cells (scc xb) 33)) wua1.heap.size 33 (scc xb) ∧ wua1.heap.size < (wua1.alloc (.cells (scc xb) 33)).heap.size ∧ N ≤ wua1.heap.size) := Lib.hid ⟨Has.new _ _ _, by simp, Eua6.out.2⟩
          have Huad4 : Hid (SA5 W w5 (wua1.alloc (.cells (scc xb) 33)) B5 0 r A c (.slice V1 b1.length c1) (.slice V2 b2.length c2') b1 b2) := Lib.hid ((Hua4.out).step (below_one wua1 (.cells (scc xb) 33)))
          have Euad6 : Hid (Below N w1u (wua1.alloc (.cells (scc xb) 33)) ∧ N ≤ (wua1.alloc (.cells (scc xb) 33)).heap.size) := Lib.hid (⟨(Eua6.out).1.trans (((below_one wua1 (.cells (scc xb) 33))).mono (Eua6.out).2), Nat.le_trans (Eua6.out).2 ((below_one wua1 (.cells (scc xb) 33))).size⟩)
          have Euad7 : Hid (Has (wua1.alloc (.cells (scc xb) 33)) D1 33 (scc xa)) := Lib.hid ((Eua7.out).below (below_one wua1 (.cells (scc xb) 33)) (Eua7.out).lt)
          have Euad8 : Hid (Has (wua1.alloc (.cells (scc xb) 33)) D2 33 (scc xb)) := Lib.hid ((Eua8.out).below (below_one wua1 (.cells (scc xb) 33)) (Eua8.out).lt)
          have Euad9 : Hid (Has (wua1.alloc (.cells (scc xb) 33)) bua2 33 (scc xa) ∧ bua2 < (wua1.alloc (.cells (scc xb) 33)).heap.size ∧ N ≤ bua2) := Lib.hid (⟨(Eua3.out).1.below (below_one wua1 (.cells (scc xb) 33)) (Eua3.out).2.1, Nat.lt_of_lt_of_le (Eua3.out).2.1 ((below_one wua1 (.cells (scc xb) 33))).size, (Eua3.out).2.2⟩)
          have Kuad5 : Hid ((wua1.alloc (.cells (scc xb) 33)).cell? ⟨D1, 0, none⟩ = some (.int .i64 xa.elements) ∧ (wua1.alloc (.cells (scc xb) 33)).cell? ⟨D1, 1, none⟩ = some (.int .i64 xa.parts) ∧ (wua1.alloc (.cells (scc xb) 33)).cell? ⟨D1, 2, none⟩ = some (.int .i64 xa.off) ∧ (wua1.alloc (.cells (scc xb) 33)).cell? ⟨D1, 3, none⟩ = some (.int .i64 xa.total) ∧ (wua1.alloc (.cells (scc xb) 33)).cell? ⟨D2, 0, none⟩ = some (.int .i64 xb.elements) ∧ (wua1.alloc (.cells (scc xb) 33)).cell? ⟨D2, 1, none⟩ = some (.int .i64 xb.parts) ∧ (wua1.alloc (.cells (scc xb) 33)).cell? ⟨D2, 2, none⟩ = some (.int .i64 xb.off) ∧ (wua1.alloc (.cells (scc xb) 33)).cell? ⟨D2, 3, none⟩ = some (.int .i64 xb.total)) := Lib.hid ⟨Euad7.out.cell 0, Euad7.out.cell 1, Euad7.out.cell 2, Euad7.out.cell 3, Euad8.out.cell 0, Euad8.out.cell 1, Euad8.out.cell 2, Euad8.out.cell 3⟩
          refine hK.out _ _ (fun h => Kuad5.out) ?_
          clear hK K
          try simp only [Act.put, List.setIfInBounds_toArray, List.set_cons_zero, List.set_cons_succ]
          generalize wua1.alloc (.cells (scc xb) 33) = wuad1 at Huad4 Kuad5 Euad6 Euad7 Euad8 Euad9 Euad3 ⊢
          generalize wua1.heap.size = buad2 at Euad3 ⊢
          refine wpLate_one (i := 3) (o := ?o3uad10_) (by kernel_rfl) ?ho3uad10_ ?hk3uad10_
          case ho3uad10_ => (simp only [List.getElem?_toArray, List.getElem?_cons_zero, List.getElem?_cons_succ]; rfl)
          intro K hK
          refine step_append_lies _ rfl (.tmp 119) (.tmp 121) 41 rfl B5 33 i0 (.agg #[.int .i64 0, .int .i64 0, .int .i64 0, .int .i64 0]) 4 32 Try.underlying41 hi hz0 hz1 hz2 rfl (by decide) (.slice V1 b1.length c1) b1.length (nvl scc b1) rfl Huad4.out.t.o1 ⟨bua2, 0, none⟩ 1 1 (nvl scc [xa]) rfl ?r1uad11 (sc_new Euad9.out.1) (nvl_one scc_one _) ?r2uad11 ?r3uad11 ?r4uad11 ?r5uad11 _ rfl ?_
          case r1uad11 => rfl
          case r2uad11 => omega
          case r3uad11 => unfold maxLen; omega
          case r4uad11 => omega
          case r5uad11 => exact Huad4.out.h5
          rintro guad11 quad11 wuad11 hown hgr hgg hlt
          have Huad12 : Hid (SA5 W w5 wuad11 B5 0 r A c (.slice (some ⟨guad11, 0, none⟩) (b1.length + 1) quad11) (.slice V2 b2.length c2') (b1 ++ [xa]) b2) := Lib.hid (Huad4.out.app1 rfl hown hgr hgg)
          have Euad14 : Hid (Has wuad11 D1 33 (scc xa)) := Lib.hid (has_kept hgr Euad7.out (fun q hq => by have := HOB.out.1 q hq; have := HLT.out; omega))
          have Euad15 : Hid (Has wuad11 D2 33 (scc xb)) := Lib.hid (has_kept hgr Euad8.out (fun q hq => by have := HOB.out.1 q hq; have := HLT.out; omega))
          have Euad16 : Hid (Has wuad11 bua2 33 (scc xa) ∧ bua2 < wuad11.heap.size ∧ N ≤ bua2) := Lib.hid ⟨has_kept hgr Euad9.out.1 (fun q hq => by have := HOB.out.1 q hq; have := HLT.out; have := Euad9.out.2.2; omega), Nat.lt_of_lt_of_le Euad9.out.2.1 hgr.size, Euad9.out.2.2⟩
          have Euad17 : Hid (Has wuad11 buad2 33 (scc xb) ∧ buad2 < wuad11.heap.size ∧ N ≤ buad2) := Lib.hid ⟨has_kept hgr Euad3.out.1 (fun q hq => by have := HOB.out.1 q hq; have := HLT.out; have := Euad3.out.2.2; omega), Nat.lt_of_lt_of_le Euad3.out.2.1 hgr.size, Euad3.out.2.2⟩
          have Euad18 : Hid (Below 0 w1u wuad11 ∧ N ≤ wuad11.heap.size) := Lib.hid ⟨⟨hgr.os.trans Euad6.out.1.os, hgr.tape.trans Euad6.out.1.tape, hgr.output.trans Euad6.out.1.output, Nat.le_trans Euad6.out.1.size hgr.size, fun k hk => by omega⟩, Nat.le_trans Euad6.out.2 hgr.size⟩
          have Kuad13 : Hid (wuad11.cell? ⟨D1, 0, none⟩ = some (.int .i64 xa.elements) ∧ wuad11.cell? ⟨D1, 1, none⟩ = some (.int .i64 xa.parts) ∧ wuad11.cell? ⟨D1, 2, none⟩ = some (.int .i64 xa.off) ∧ wuad11.cell? ⟨D1, 3, none⟩ = some (.int .i64 xa.total) ∧ wuad11.cell? ⟨D2, 0, none⟩ = some (.int .i64 xb.elements) ∧ wuad11.cell? ⟨D2, 1, none⟩ = some (.int .i64 xb.parts) ∧ wuad11.cell? ⟨D2, 2, none⟩ = some (.int .i64 xb.off) ∧ wuad11.cell? ⟨D2, 3, none⟩ = some (.int .i64 xb.total)) := Lib.hid ⟨Euad14.out.cell 0, Euad14.out.cell 1, Euad14.out.cell 2, Euad14.out.cell 3, Euad15.out.cell 0, Euad15.out.cell 1, Euad15.out.cell 2, Euad15.out.cell 3⟩
          refine hK.out _ _ (fun h => Kuad13.out) ?_
          clear hK K hown hgr hgg hlt
          try simp only [Act.put, List.setIfInBounds_toArray, List.set_cons_zero, List.set_cons_succ]
          refine wpLate_one (i := 7) (o := ?o7uad19_) (by kernel_rfl) ?ho7uad19_ ?hk7uad19_
          case ho7uad19_ => (simp only [List.getElem?_toArray, List.getElem?_cons_zero, List.getElem?_cons_succ]; rfl)
          intro K hK
          refine step_append_lies _ rfl (.tmp 123) (.tmp 125) 41 rfl B5 33 i0 (.agg #[.int .i64 0, .int .i64 0, .int .i64 0, .int .i64 0]) 4 32 Try.underlying41 hi hz0 hz1 hz2 rfl (by decide) (.slice V2 b2.length c2') b2.length (nvl scc b2) rfl Huad12.out.t.o2 ⟨buad2, 0, none⟩ 1 1 (nvl scc [xb]) rfl ?r1uad20 (sc_new Euad17.out.1) (nvl_one scc_one _) ?r2uad20 ?r3uad20 ?r4uad20 ?r5uad20 _ rfl ?_
          case r1uad20 => rfl
          case r2uad20 => omega
          case r3uad20 => unfold maxLen; omega
          case r4uad20 => omega
          case r5uad20 => exact Huad12.out.h5
          rintro guad20 quad20 wuad20 hown hgr hgg hlt
          have Huad21 : Hid (SA5 W w5 wuad20 B5 0 r A c (.slice (some ⟨guad11, 0, none⟩) (b1.length + 1) quad11) (.slice (some ⟨guad20, 0, none⟩) (b2.length + 1) quad20) (b1 ++ [xa]) (b2 ++ [xb])) := Lib.hid (Huad12.out.app2 rfl hown hgr hgg)
          have Euad23 : Hid (Has wuad20 D1 33 (scc xa)) := Lib.hid (has_kept hgr Euad14.out (fun q hq => by have := HOB.out.2 q hq; have := HLT.out; omega))
          have Euad24 : Hid (Has wuad20 D2 33 (scc xb)) := Lib.hid (has_kept hgr Euad15.out (fun q hq => by have := HOB.out.2 q hq; have := HLT.out; omega))
          have Euad25 : Hid (Has wuad20 bua2 33 (scc xa) ∧ bua2 < wuad20.heap.size ∧ N ≤ bua2) := Lib.hid ⟨has_kept hgr Euad16.out.1 (fun q hq => by have := HOB.out.2 q hq; have := HLT.out; have := Euad16.out.2.2; omega), Nat.lt_of_lt_of_le Euad16.out.2.1 hgr.size, Euad16.out.2.2⟩
          have Euad26 : Hid (Has wuad20 buad2 33 (scc xb) ∧ buad2 < wuad20.heap.size ∧ N ≤ buad2) := Lib.hid ⟨has_kept hgr Euad17.out.1 (fun q hq => by have := HOB.out.2 q hq; have := HLT.out; have := Euad17.out.2.2; omega), Nat.lt_of_lt_of_le Euad17.out.2.1 hgr.size, Euad17.out.2.2⟩
          have Euad27 : Hid (Below 0 w1u wuad20 ∧ N ≤ wuad20.heap.size) := Lib.hid ⟨⟨hgr.os.trans Euad18.out.1.os, hgr.tape.trans Euad18.out.1.tape, hgr.output.trans Euad18.out.1.output, Nat.le_trans Euad18.out.1.size hgr.size, fun k hk => by omega⟩, Nat.le_trans Euad18.out.2 hgr.size⟩
          have Kuad22 : Hid (wuad20.cell? ⟨D1, 0, none⟩ = some (.int .i64 xa.elements) ∧ wuad20.cell? ⟨D1, 1, none⟩ = some (.int .i64 xa.parts) ∧ wuad20.cell? ⟨D1, 2, none⟩ = some (.int .i64 xa.off) ∧ wuad20.cell? ⟨D1, 3, none⟩ = some (.int .i64 xa.total) ∧ wuad20.cell? ⟨D2, 0, none⟩ = some (.int .i64 xb.elements) ∧ wuad20.cell? ⟨D2, 1, none⟩ = some (.int .i64 xb.parts) ∧ wuad20.cell? ⟨D2, 2, none⟩ = some (.int .i64 xb.off) ∧ wuad20.cell? ⟨D2, 3, none⟩ = some (.int .i64 xb.total)) := Lib.hid ⟨Euad23.out.cell 0, Euad23.out.cell 1, Euad23.out.cell 2, Euad23.out.cell 3, Euad24.out.cell 0, Euad24.out.cell 1, Euad24.out.cell 2, Euad24.out.cell 3⟩
          refine hK.out _ _ (fun h => Kuad22.out) ?_
          clear hK K hown hgr hgg hlt
          try simp only [Act.put, List.setIfInBounds_toArray, List.set_cons_zero, List.set_cons_succ]
          refine wpLate_one (i := 8) (o := ?o8uad28_) (by kernel_rfl) ?ho8uad28_ ?hk8uad28_
          case ho8uad28_ => (simp only [List.getElem?_toArray, List.getElem?_cons_zero, List.getElem?_cons_succ]; rfl)
          intro K hK
          go_simp
          refine hK.out _ _ (fun h => Kuad22.out) ?_
          clear hK K
          try simp only [Act.put, List.setIfInBounds_toArray, List.set_cons_zero, List.set_cons_succ]
          refine wpLate_one (i := 9) (o := ?o9uad29_) (by kernel_rfl) ?ho9uad29_ ?hk9uad29_
          case ho9uad29_ => (simp only [List.getElem?_toArray, List.getElem?_cons_zero, List.getElem?_cons_succ]; rfl)
          intro K hK
          go_simp
          refine hK.out _ _ (fun h => Kuad22.out) ?_
          clear hK K
          try simp only [Act.put, List.setIfInBounds_toArray, List.set_cons_zero, List.set_cons_succ]
          refine wpLate_done (by kernel_rfl) ?_ _
          try simp only [Act.put, List.setIfInBounds_toArray, List.set_cons_zero, List.set_cons_succ]
          go_wp2_with fail
          go_roundg (l.length - (k + 1))
          case measure => omega
          case rel => exact ⟨k + 1, by omega, Nat.le_refl _, by go_num, b1 ++ [xa], b2 ++ [xb], Lib.hid ⟨Huad21.out.b, Huad21.out.b5, H5.out.2.1.below Huad21.out.b5 HBB.out.2, Huad21.out.t, Huad21.out.h5, HNX.out.1, HNX.out.2⟩⟩
      case hkBu5_ =>
        intro K hK
        go_simp
        have Eub3 : Hid (Has (w1u.alloc (.cells (scc xb) 33)) w1u.heap.size 33 (scc xb) ∧ w1u.heap.size < (w1u.alloc (.cells (scc xb) 33)).heap.size ∧ N ≤ w1u.heap.size) := Lib.hid ⟨Has.new _ _ _, by simp, Bbu.out.2⟩
        have Hub4 : Hid (SA5 W w5 (w1u.alloc (.cells (scc xb) 33)) B5 0 r A c (.slice V1 b1.length c1) (.slice V2 b2.length c2') b1 b2) := Lib.hid ((H1u.out).step (below_one w1u (.cells (scc xb) 33)))
        have Eub6 : Hid (Below N w1u (w1u.alloc (.cells (scc xb) 33)) ∧ N ≤ (w1u.alloc (.cells (scc xb) 33)).heap.size) := Lib.hid (⟨(Bbu.out).1.trans (((below_one w1u (.cells (scc xb) 33))).mono (Bbu.out).2), Nat.le_trans (Bbu.out).2 ((below_one w1u (.cells (scc xb) 33))).size⟩)
        have Eub7 : Hid (Has (w1u.alloc (.cells (scc xb) 33)) D1 33 (scc xa)) := Lib.hid ((HD1.out).below (below_one w1u (.cells (scc xb) 33)) (HD1.out).lt)
        have Eub8 : Hid (Has (w1u.alloc (.cells (scc xb) 33)) D2 33 (scc xb)) := Lib.hid ((HD2.out).below (below_one w1u (.cells (scc xb) 33)) (HD2.out).lt)
        have Kub5 : Hid ((w1u.alloc (.cells (scc xb) 33)).cell? ⟨D1, 0, none⟩ = some (.int .i64 xa.elements) ∧ (w1u.alloc (.cells (scc xb) 33)).cell? ⟨D1, 1, none⟩ = some (.int .i64 xa.parts) ∧ (w1u.alloc (.cells (scc xb) 33)).cell? ⟨D1, 2, none⟩ = some (.int .i64 xa.off) ∧ (w1u.alloc (.cells (scc xb) 33)).cell? ⟨D1, 3, none⟩ = some (.int .i64 xa.total) ∧ (w1u.alloc (.cells (scc xb) 33)).cell? ⟨D2, 0, none⟩ = some (.int .i64 xb.elements) ∧ (w1u.alloc (.cells (scc xb) 33)).cell? ⟨D2, 1, none⟩ = some (.int .i64 xb.parts) ∧ (w1u.alloc (.cells (scc xb) 33)).cell? ⟨D2, 2, none⟩ = some (.int .i64 xb.off) ∧ (w1u.alloc (.cells (scc xb) 33)).cell? ⟨D2, 3, none⟩ = some (.int .i64 xb.total)) := Lib.hid ⟨Eub7.out.cell 0, Eub7.out.cell 1, Eub7.out.cell 2, Eub7.out.cell 3, Eub8.out.cell 0, Eub8.out.cell 1, Eub8.out.cell 2, Eub8.out.cell 3⟩
        refine hK.out _ _ (fun h => Kub5.out) ?_
        clear hK K
        try simp only [Act.put, List.setIfInBounds_toArray, List.set_cons_zero, List.set_cons_succ]
        generalize w1u.alloc (.cells (scc xb) 33) = wub1 at Hub4 Kub5 Eub6 Eub7 Eub8 Eub3 ⊢
        generalize w1u.heap.size = bub2 at Eub3 ⊢
        refine wpLate_one (i := 2) (o := ?o2ub9_) (by kernel_rfl) ?ho2ub9_ ?hk2ub9_
        case ho2ub9_ => (simp only [List.getElem?_toArray, List.getElem?_cons_zero, List.getElem?_cons_succ]; rfl)
        intro K hK
        go_simp
        have Eub12 : Hid (Has (wub1.alloc (.cells (scc xa) 33)) wub1.heap.size 33 (scc xa) ∧ wub1.heap.size < (wub1.alloc (.cells (scc xa) 33)).heap.size ∧ N ≤ wub1.heap.size) := Lib.hid ⟨Has.new _ _ _, by simp, Eub6.out.2⟩
        have Hub13 : Hid (SA5 W w5 (wub1.alloc (.cells (scc xa) 33)) B5 0 r A c (.slice V1 b1.length c1) (.slice V2 b2.length c2') b1 b2) := Lib.hid ((Hub4.out).step (below_one wub1 (.cells (scc xa) 33)))
        have Eub15 : Hid (Below N w1u (wub1.alloc (.cells (scc xa) 33)) ∧ N ≤ (wub1.alloc (.cells (scc xa) 33)).heap.size) := Lib.hid (⟨(Eub6.out).1.trans (((below_one wub1 (.cells (scc xa) 33))).mono (Eub6.out).2), Nat.le_trans (Eub6.out).2 ((below_one wub1 (.cells (scc xa) 33))).size⟩)
        have Eub16 : Hid (Has (wub1.alloc (.cells (scc xa) 33)) D1 33 (scc xa)) := Lib.hid ((Eub7.out).below (below_one wub1 (.cells (scc xa) 33)) (Eub7.out).lt)
        have Eub17 : Hid (Has (wub1.alloc (.cells (scc xa) 33)) D2 33 (scc xb)) := Lib.hid ((Eub8.out).below (below_one wub1 (.cells (scc xa) 33)) (Eub8.out).lt)
        have Eub18 : Hid (Has (wub1.alloc (.cells (scc xa) 33)) bub2 33 (scc xb) ∧ bub2 < (wub1.alloc (.cells (scc xa) 33)).heap.size ∧ N ≤ bub2) := Lib.hid (⟨(Eub3.out).1.below (below_one wub1 (.cells (scc xa) 33)) (Eub3.out).2.1, Nat.lt_of_lt_of_le (Eub3.out).2.1 ((below_one wub1 (.cells (scc xa) 33))).size, (Eub3.out).2.2⟩)
        have Kub14 : Hid ((wub1.alloc (.cells (scc xa) 33)).cell? ⟨D1, 0, none⟩ = some (.int .i64 xa.elements) ∧ (wub1.alloc (.cells (scc xa) 33)).cell? ⟨D1, 1, none⟩ = some (.int .i64 xa.parts) ∧ (wub1.alloc (.cells (scc xa) 33)).cell? ⟨D1, 2, none⟩ = some (.int .i64 xa.off) ∧ (wub1.alloc (.cells (scc xa) 33)).cell? ⟨D1, 3, none⟩ = some (.int .i64 xa.total) ∧ (wub1.alloc (.cells (scc xa) 33)).cell? ⟨D2, 0, none⟩ = some (.int .i64 xb.elements) ∧ (wub1.alloc (.cells (scc xa) 33)).cell? ⟨D2, 1, none⟩ = some (.int .i64 xb.parts) ∧ (wub1.alloc (.cells (scc xa) 33)).cell? ⟨D2, 2, none⟩ = some (.int .i64 xb.off) ∧ (wub1.alloc (.cells (scc xa) 33)).cell? ⟨D2, 3, none⟩ = some (.int .i64 xb.total)) := Lib.hid ⟨Eub16.out.cell 0, Eub16.out.cell 1, Eub16.out.cell 2, Eub16.out.cell 3, Eub17.out.cell 0, Eub17.out.cell 1, Eub17.out.cell 2, Eub17.out.cell 3⟩
        refine hK.out _ _ (fun h => Kub14.out) ?_
        clear hK K
        try simp only [Act.put, List.setIfInBounds_toArray, List.set_cons_zero, List.set_cons_succ]
        generalize wub1.alloc (.cells (scc xa) 33) = wub10 at Hub13 Kub14 Eub15 Eub16 Eub17 Eub18 Eub12 ⊢
        generalize wub1.heap.size = bub11 at Eub12 ⊢
        refine wpLate_one (i := 3) (o := ?o3ub19_) (by kernel_rfl) ?ho3ub19_ ?hk3ub19_
        case ho3ub19_ => (simp only [List.getElem?_toArray, List.getElem?_cons_zero, List.getElem?_cons_succ]; rfl)
        intro K hK
        refine step_append_lies _ rfl (.tmp 119) (.tmp 121) 41 rfl B5 33 i0 (.agg #[.int .i64 0, .int .i64 0, .int .i64 0, .int .i64 0]) 4 32 Try.underlying41 hi hz0 hz1 hz2 rfl (by decide) (.slice V1 b1.length c1) b1.length (nvl scc b1) rfl Hub13.out.t.o1 ⟨bub11, 0, none⟩ 1 1 (nvl scc [xa]) rfl ?r1ub20 (sc_new Eub12.out.1) (nvl_one scc_one _) ?r2ub20 ?r3ub20 ?r4ub20 ?r5ub20 _ rfl ?_
        case r1ub20 => rfl
        case r2ub20 => omega
        case r3ub20 => unfold maxLen; omega
        case r4ub20 => omega
        case r5ub20 => exact Hub13.out.h5
        rintro gub20 qub20 wub20 hown hgr hgg hlt
        have Hub21 : Hid (SA5 W w5 wub20 B5 0 r A c (.slice (some ⟨gub20, 0, none⟩) (b1.length + 1) qub20) (.slice V2 b2.length c2') (b1 ++ [xa]) b2) := Lib.hid (Hub13.out.app1 rfl hown hgr hgg)
        have Eub23 : Hid (Has wub20 D1 33 (scc xa)) := Lib.hid (has_kept hgr Eub16.out (fun q hq => by have := HOB.out.1 q hq; have := HLT.out; omega))
        have Eub24 : Hid (Has wub20 D2 33 (scc xb)) := Lib.hid (has_kept hgr Eub17.out (fun q hq => by have := HOB.out.1 q hq; have := HLT.out; omega))
        have Eub25 : Hid (Has wub20 bub2 33 (scc xb) ∧ bub2 < wub20.heap.size ∧ N ≤ bub2) := Lib.hid ⟨has_kept hgr Eub18.out.1 (fun q hq => by have := HOB.out.1 q hq; have := HLT.out; have := Eub18.out.2.2; omega), Nat.lt_of_lt_of_le Eub18.out.2.1 hgr.size, Eub18.out.2.2⟩
        have Eub26 : Hid (Has wub20 bub11 33 (scc xa) ∧ bub11 < wub20.heap.size ∧ N ≤ bub11) := Lib.hid ⟨has_kept hgr Eub12.out.1 (fun q hq => by have := HOB.out.1 q hq; have := HLT.out; have := Eub12.out.2.2; omega), Nat.lt_of_lt_of_le Eub12.out.2.1 hgr.size, Eub12.out.2.2⟩
        have Eub27 : Hid (Below 0 w1u wub20 ∧ N ≤ wub20.heap.size) := Lib.hid ⟨⟨hgr.os.trans Eub15.out.1.os, hgr.tape.trans Eub15.out.1.tape, hgr.output.trans Eub15.out.1.output, Nat.le_trans Eub15.out.1.size hgr.size, fun k hk => by omega⟩, Nat.le_trans Eub15.out.2 hgr.size⟩
        have Kub22 : Hid (wub20.cell? ⟨D1, 0, none⟩ = some (.int .i64 xa.elements) ∧ wub20.cell? ⟨D1, 1, none⟩ = some (.int .i64 xa.parts) ∧ wub20.cell? ⟨D1, 2, none⟩ = some (.int .i64 xa.off) ∧ wub20.cell? ⟨D1, 3, none⟩ = some (.int .i64 xa.total) ∧ wub20.cell? ⟨D2, 0, none⟩ = some (.int .i64 xb.elements) ∧ wub20.cell? ⟨D2, 1, none⟩ = some (.int .i64 xb.parts) ∧ wub20.cell? ⟨D2, 2, none⟩ = some (.int .i64 xb.off) ∧ wub20.cell? ⟨D2, 3, none⟩ = some (.int .i64 xb.total)) := Lib.hid ⟨Eub23.out.cell 0, Eub23.out.cell 1, Eub23.out.cell 2, Eub23.out.cell 3, Eub24.out.cell 0, Eub24.out.cell 1, Eub24.out.cell 2, Eub24.out.cell 3⟩
        refine hK.out _ _ (fun h => Kub22.out) ?_
        clear hK K hown hgr hgg hlt
        try simp only [Act.put, List.setIfInBounds_toArray, List.set_cons_zero, List.set_cons_succ]
        refine wpLate_one (i := 7) (o := ?o7ub28_) (by kernel_rfl) ?ho7ub28_ ?hk7ub28_
        case ho7ub28_ => (simp only [List.getElem?_toArray, List.getElem?_cons_zero, List.getElem?_cons_succ]; rfl)
        intro K hK
        refine step_append_lies _ rfl (.tmp 123) (.tmp 125) 41 rfl B5 33 i0 (.agg #[.int .i64 0, .int .i64 0, .int .i64 0, .int .i64 0]) 4 32 Try.underlying41 hi hz0 hz1 hz2 rfl (by decide) (.slice V2 b2.length c2') b2.length (nvl scc b2) rfl Hub21.out.t.o2 ⟨bub2, 0, none⟩ 1 1 (nvl scc [xb]) rfl ?r1ub29 (sc_new Eub25.out.1) (nvl_one scc_one _) ?r2ub29 ?r3ub29 ?r4ub29 ?r5ub29 _ rfl ?_
        case r1ub29 => rfl
        case r2ub29 => omega
        case r3ub29 => unfold maxLen; omega
        case r4ub29 => omega
        case r5ub29 => exact Hub21.out.h5
        rintro gub29 qub29 wub29 hown hgr hgg hlt
        have Hub30 : Hid (SA5 W w5 wub29 B5 0 r A c (.slice (some ⟨gub20, 0, none⟩) (b1.length + 1) qub20) (.slice (some ⟨gub29, 0, none⟩) (b2.length + 1) qub29) (b1 ++ [xa]) (b2 ++ [xb])) := Lib.hid (Hub21.out.app2 rfl hown hgr hgg)
        have Eub32 : Hid (Has wub29 D1 33 (scc xa)) := Lib.hid (has_kept hgr Eub23.out (fun q hq => by have := HOB.out.2 q hq; have := HLT.out; omega))
        have Eub33 : Hid (Has wub29 D2 33 (scc xb)) := Lib.hid (has_kept hgr Eub24.out (fun q hq => by have := HOB.out.2 q hq; have := HLT.out; omega))
        have Eub34 : Hid (Has wub29 bub2 33 (scc xb) ∧ bub2 < wub29.heap.size ∧ N ≤ bub2) := Lib.hid ⟨has_kept hgr Eub25.out.1 (fun q hq => by have := HOB.out.2 q hq; have := HLT.out; have := Eub25.out.2.2; omega), Nat.lt_of_lt_of_le Eub25.out.2.1 hgr.size, Eub25.out.2.2⟩
        have Eub35 : Hid (Has wub29 bub11 33 (scc xa) ∧ bub11 < wub29.heap.size ∧ N ≤ bub11) := Lib.hid ⟨has_kept hgr Eub26.out.1 (fun q hq => by have := HOB.out.2 q hq; have := HLT.out; have := Eub26.out.2.2; omega), Nat.lt_of_lt_of_le Eub26.out.2.1 hgr.size, Eub26.out.2.2⟩
        have Eub36 : Hid (Below 0 w1u wub29 ∧ N ≤ wub29.heap.size) := Lib.hid ⟨⟨hgr.os.trans Eub27.out.1.os, hgr.tape.trans Eub27.out.1.tape, hgr.output.trans Eub27.out.1.output, Nat.le_trans Eub27.out.1.size hgr.size, fun k hk => by omega⟩, Nat.le_trans Eub27.out.2 hgr.size⟩
        have Kub31 : Hid (wub29.cell? ⟨D1, 0, none⟩ = some (.int .i64 xa.elements) ∧ wub29.cell? ⟨D1, 1, none⟩ = some (.int .i64 xa.parts) ∧ wub29.cell? ⟨D1, 2, none⟩ = some (.int .i64 xa.off) ∧ wub29.cell? ⟨D1, 3, none⟩ = some (.int .i64 xa.total) ∧ wub29.cell? ⟨D2, 0, none⟩ = some (.int .i64 xb.elements) ∧ wub29.cell? ⟨D2, 1, none⟩ = some (.int .i64 xb.parts) ∧ wub29.cell? ⟨D2, 2, none⟩ = some (.int .i64 xb.off) ∧ wub29.cell? ⟨D2, 3, none⟩ = some (.int .i64 xb.total)) := Lib.hid ⟨Eub32.out.cell 0, Eub32.out.cell 1, Eub32.out.cell 2, Eub32.out.cell 3, Eub33.out.cell 0, Eub33.out.cell 1, Eub33.out.cell 2, Eub33.out.cell 3⟩
        refine hK.out _ _ (fun h => Kub31.out) ?_
        clear hK K hown hgr hgg hlt
        try simp only [Act.put, List.setIfInBounds_toArray, List.set_cons_zero, List.set_cons_succ]
        refine wpLate_one (i := 8) (o := ?o8ub37_) (by kernel_rfl) ?ho8ub37_ ?hk8ub37_
        case ho8ub37_ => (simp only [List.getElem?_toArray, List.getElem?_cons_zero, List.getElem?_cons_succ]; rfl)
        intro K hK
        go_simp
        refine hK.out _ _ (fun h => Kub31.out) ?_
        clear hK K
        try simp only [Act.put, List.setIfInBounds_toArray, List.set_cons_zero, List.set_cons_succ]
        refine wpLate_one (i := 9) (o := ?o9ub38_) (by kernel_rfl) ?ho9ub38_ ?hk9ub38_
        case ho9ub38_ => (simp only [List.getElem?_toArray, List.getElem?_cons_zero, List.getElem?_cons_succ]; rfl)
        intro K hK
        go_simp
        refine hK.out _ _ (fun h => Kub31.out) ?_
        clear hK K
        try simp only [Act.put, List.setIfInBounds_toArray, List.set_cons_zero, List.set_cons_succ]
        refine wpLate_done (by kernel_rfl) ?_ _
        try simp only [Act.put, List.setIfInBounds_toArray, List.set_cons_zero, List.set_cons_succ]
        go_wp2_with fail
        go_roundg (l.length - (k + 1))
        case measure => omega
        case rel => exact ⟨k + 1, by omega, Nat.le_refl _, by go_num, b1 ++ [xa], b2 ++ [xb], Lib.hid ⟨Hub30.out.b, Hub30.out.b5, H5.out.2.1.below Hub30.out.b5 HBB.out.2, Hub30.out.t, Hub30.out.h5, HNX.out.1, HNX.out.2⟩⟩
end Go.Proofs.Ytmclchaalmonnaa
