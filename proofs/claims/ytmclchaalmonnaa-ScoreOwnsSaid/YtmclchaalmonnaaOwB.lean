/- ScoreOwns: the law: no argument is changed, what is returned is new. -/
import Derived.Test.YtmclchaalmonnaaOwA
namespace Go.Proofs.Ytmclchaalmonnaa
open Go.RowKit Go.Lib
attribute [local irreducible] wpQuiet
/-- both boxes -/
structure OX (W w : World) (r : Ru) (A : Option Addr) (c : Nat) (l : List Sk) (L : Option Addr) (k0 : Nat) : Prop where
  b : Below W.heap.size W w
  f4 : Has w W.heap.size 24 (ruc r A c)
  f5 : Has w (W.heap.size + 1) 30 #[.slice L l.length k0]
section
variable {W w w' : World} {r : Ru} {A : Option Addr} {c : Nat} {l : List Sk} {L : Option Addr} {k0 : Nat}
theorem OX.step (h : OX W w r A c l L k0) (hb : Below w.heap.size w w') : OX W w' r A c l L k0 := ⟨h.b.trans (hb.mono h.b.size), h.f4.below hb h.f4.lt, h.f5.below hb h.f5.lt⟩
theorem OX.set (h : OX W w r A c l L k0) {p : Addr} (hp : W.heap.size + 1 < p.block) (u : Value) : OX W (w.setCell p u) r A c l L k0 :=
  ⟨h.b.setCell (by omega) _, h.f4.far (by omega) _, h.f5.far (by omega) _⟩
/-- .. the row that was laid first, and the copy of the spans -/
structure KW (W w : World) (r : Ru) (A : Option Addr) (c : Nat) (l : List Sk) (L : Option Addr) (k0 B2 B3 : Nat) (AK : Option Addr) (X : List Int) (v : Value) (q : List (Int × Int)) : Prop where
  o : OX W w r A c l L k0
  k : IRow w B2 AK X
  q : w.ownsRow B3 56 2 v q.length (pra q).toList
  h1 : W.heap.size + 1 < B2
  h2 : B2 ≤ B3
  h3 : B3 ≤ w.heap.size
variable {B2 B3 : Nat} {AK : Option Addr} {X : List Int} {v : Value} {q : List (Int × Int)}
theorem KW.step (h : KW W w r A c l L k0 B2 B3 AK X v q) (hb : Below w.heap.size w w') : KW W w' r A c l L k0 B2 B3 AK X v q :=
  ⟨h.o.step hb, h.k.below (hb.mono (Nat.le_trans h.h2 h.h3)), own_step h.q hb, h.h1, h.h2, Nat.le_trans h.h3 hb.size⟩
theorem KW.set (h : KW W w r A c l L k0 B2 B3 AK X v q) {p : Addr} (hp : B2 ≤ p.block) (hp2 : p.block < B3) (u : Value) : KW W (w.setCell p u) r A c l L k0 B2 B3 AK X v q :=
  ⟨h.o.set (Nat.lt_of_lt_of_le h.h1 hp) u, h.k.below ((Below.refl _ _).setCell hp _), own_far h.q hp2 u, h.h1, h.h2, by simpa [World.setCell] using h.h3⟩
end
theorem qrow_own {w : World} {base : Nat} {v : Value} {q : List (Int × Int)} (h : w.ownsRow base 56 2 v q.length (pra q).toList) : ∃ U cu, v = .slice U q.length cu ∧ QRow w w.heap.size U q := by
  obtain ⟨U, cu, rfl, h0, h1⟩ := own_slice h
  refine ⟨U, cu, rfl, fun k hk => ?_⟩
  cases U with
  | none => have := h0 rfl; omega
  | some a =>
    obtain ⟨hl, ⟨e, h9⟩ | ⟨g, cap, cur, e, hB, hgc, h2, h3, h4, h5⟩⟩ := h
    · cases e
    · cases e
      have hh : Has w g 56 cur := hgc
      have key : ∀ j, j < 2 → w.cell? ⟨g, 0 + k * 2 + j, none⟩ = (pra q)[k * 2 + j]? := fun j hj => by
        rw [Nat.zero_add, hh.cell]
        have h6 : (cur.toList.take (q.length * 2))[k * 2 + j]? = (pra q).toList[k * 2 + j]? := by rw [h5]
        rw [List.getElem?_take_of_lt (by omega)] at h6
        simpa using h6
      have hp := pra_get q k hk
      exact ⟨g, 0, rfl, hh.lt, (key 0 (by omega)).trans hp.1, (key 1 (by omega)).trans hp.2⟩
theorem flatP_le {r : Ru} {l : List Sk} (h80 : r.bases.length ≤ 80) (hl8 : l.length ≤ 8) (hsm : ∀ s ∈ l, Small s) : (flatP r l).length ≤ 1000000 := by
  have h1 := fm_le (f := skF) (l := l) (fun a ha => skF_le (hsm a ha))
  have h2 := Nat.mul_le_mul_right 792 hl8
  unfold flatP
  rw [List.length_append]; omega
theorem swingR_len (r : Ru) (l : List Sk) (j : Int) : (swingR r l j).1.length ≤ l.length := by
  unfold swingR
  split
  · simp
  · split
    · simp [swingP]
    · simp
theorem valsR_len (r : Ru) (s : Sk) : (valsR r s).1.length ≤ s.calls.length := by
  unfold valsR
  split
  · simp
  · simp [valsP]
theorem pra_one (q : List (Int × Int)) : ∀ u ∈ (pra q).toList, u.oneCell' = true := by
  intro u hu
  simp only [pra, List.mem_flatMap, List.mem_cons, List.not_mem_nil, or_false] at hu
  obtain ⟨p, -, rfl | rfl⟩ := hu <;> rfl
set_option maxRecDepth 100000 in
set_option maxHeartbeats 4000000 in
theorem ownsLaw_any (r : Ru) (A : Option Addr) (c : Nat) (l : List Sk) (L : Option Addr) (k0 : Nat) (j first : Int) (W : World) (hr : RuR W W.heap.size r A) (hs : SRow W W.heap.size L l) (hl : l.length ≤ big) :
    Calls Try.prog 11 #[ruv r A c, .slice L l.length k0, .int .i64 j, .int .i64 first] W (BoolPost true W) := by
  obtain ⟨i0, hi, hz0, hz1, hz2⟩ := info_parts Try.info56
  have hmf : ∀ (fn : Fn) (first cap : Array Value) (w : World), (Instr.makeFunc fn first cap).run Try.prog w = .ok (.func fn first cap) w := fun _ _ _ _ => rfl
  have HB : Hid (OX W ((W.alloc (.cells (ruc r A c) 24)).alloc (.cells #[.slice L l.length k0] 30)) r A c l L k0) := Lib.hid ⟨(below_one W _).alloc (by simp) _, (Has.new _ _ _).alloc _, has_newAt (by simp)⟩
  have HG := Lib.hid (fun w (h : Below W.heap.size W w) => great_any l L k0 8 w (by omega) ((hs.below h).more h.size) hl)
  have HAw := Lib.hid (fun w => alive_any w)
  have HSW := Lib.hid (fun w (h : Below W.heap.size W w) => Swing_any r A c l L k0 j w ((hr.below h).more h.size) ((hs.below h).more h.size) hl)
  have HOP := Lib.hid (fun w (h : Below W.heap.size W w) => Open_any r A c l L k0 first w ((hr.below h).more h.size) ((hs.below h).more h.size) hl)
  have HVA := Lib.hid (fun (x : Sk) AC AP cc cp w (h : Below W.heap.size W w) (hsk : SkR w w.heap.size x AC AP) => Values_any r A c x AC AP cc cp w ((hr.below h).more h.size) hsk)
  have HSM : Hid (greatB l 8 = false → l.length ≤ 8 ∧ ∀ s ∈ l, Small s) := Lib.hid fun h => not_great h
  have HRS := Lib.hid (And.intro hr hs)
  have hswl := swingR_len r l j
  have hrl := hr.l
  unfold big at hrl hl
  obtain ⟨SX, hSX⟩ : ∃ X, X = swingR r l j := ⟨_, rfl⟩
  rw [← hSX] at HSW hswl
  obtain ⟨sw, se⟩ := SX
  generalize greatB l 8 = G at HG HSM
  generalize openR r l first = OR at HOP
  obtain ⟨ol, oe⟩ := OR
  unfold BoolPost at HG HAw
  unfold SwEPost at HSW
  unfold RI2 at HOP
  unfold RIPost skv at HVA
  dsimp only at HSW HG HOP hswl
  clear hr hs hSX
  unfold ruv at *
  go_enter Try.func11, Try.ntmps11
  go_upto_region 1 with fail
  generalize (W.alloc (.cells (ruc r A c) 24)).alloc (.cells #[.slice L l.length k0] 30) = w0 at HB ⊢
  have x0 : w0.cell? ⟨W.heap.size, 0, none⟩ = some (.slice A r.bases.length c) := HB.out.f4.cell 0
  have y0 : w0.cell? ⟨W.heap.size + 1, 0, none⟩ = some (.slice L l.length k0) := HB.out.f5.cell 0
  by_cases h80 : (80 : Int) < r.bases.length
  · clear hmf
    go_wp2_with fail
    refine (HAw.out _).mono ?_
    rintro e w1 ⟨rfl, hb1⟩
    have H1 := Lib.hid (HB.out.step hb1)
    clear hb1
    go_wp2_with fail
    go_ret
    exact ⟨rfl, H1.out.b⟩
  go_wp2_with fail
  refine (HG.out _ HB.out.b).mono ?_
  rintro e w1 ⟨rfl, hb1⟩
  have H1 := Lib.hid (HB.out.step hb1)
  clear hb1 x0 y0 HB HG
  cases G
  rotate_left
  · clear HSW HSM hmf
    go_wp2_with fail
    refine (HAw.out _).mono ?_
    rintro e w2 ⟨rfl, hb1⟩
    have H2 := Lib.hid (H1.out.step hb1)
    clear hb1
    go_wp2_with fail
    go_ret
    exact ⟨rfl, H2.out.b⟩
  obtain ⟨hl8, hsm⟩ := HSM.out rfl
  have HFL := Lib.hid (fun w (h : OX W w r A c l L k0) => flat_any r A c l L k0 w ((HRS.out.1.b.below h.b).more h.b.size) ((HRS.out.2.below h.b).more h.b.size) (by omega) hl8 hsm _ _ h.f4 h.f5)
  have hFl := flatP_le (r := r) (by omega) hl8 hsm
  obtain ⟨X, hX⟩ : ∃ X, X = flatP r l := ⟨_, rfl⟩
  rw [← hX] at HFL hFl
  have HNT := Lib.hid (fun A A' c d w h1 h2 => ints_any X X A A' c d w h1 h2 hFl)
  rw [show decide (X = X) = true by simp] at HNT
  have HSP : Hid (∀ A A' c d w, QRow w w.heap.size A (sw.map spp) → QRow w w.heap.size A' (sw.map spp) → Calls Try.prog 25 #[.slice A sw.length c, .slice A' sw.length d] w (BoolPost true w)) := Lib.hid fun A A' c d w h1 h2 => by
    have h9 := spans_any (sw.map spp) (sw.map spp) A A' c d w h1 h2 (by simp; omega)
    simpa using h9
  unfold FlPost at HFL
  unfold BoolPost at HNT HSP
  clear hX hsm HSM h80
  go_wp2_with fail
  refine (HFL.out _ H1.out).mono ?_
  rintro e w2 ⟨AK, cK, rfl, hik, hb2⟩
  have H2 := Lib.hid (And.intro (H1.out.step hb2) hik)
  clear hb2 hik H1
  have x0 : w2.cell? ⟨W.heap.size, 0, none⟩ = some (.slice A r.bases.length c) := H2.out.1.f4.cell 0
  have x1 : w2.cell? ⟨W.heap.size, 1, none⟩ = some (.int .i64 r.factor) := H2.out.1.f4.cell 1
  have x2 : w2.cell? ⟨W.heap.size, 2, none⟩ = some (.int .i64 r.most) := H2.out.1.f4.cell 2
  have y0 : w2.cell? ⟨W.heap.size + 1, 0, none⟩ = some (.slice L l.length k0) := H2.out.1.f5.cell 0
  go_wp2_with fail
  refine (HSW.out _ H2.out.1.b).mono ?_
  rintro e w3 ⟨A2, c2, rfl, hq2, hh2, hn2, hb3⟩
  clear x0 x1 x2 y0
  have HA2 : Hid ((∀ g o, A2 = some ⟨g, o, none⟩ → w2.heap.size ≤ g ∧ g < w3.heap.size ∧ o = 0 ∧ Has w3 g 56 (pra (sw.map spp))) ∧ (A2 = none → sw.length = 0)) := Lib.hid ⟨fun g o e => ⟨(hh2 g o e).1, (hh2 g o e).2.2.lt, (hh2 g o e).2.1, (hh2 g o e).2.2⟩, fun e => by rw [(hn2 e).1]; rfl⟩
  obtain ⟨B2, hB2⟩ : ∃ B, B = w2.heap.size := ⟨_, rfl⟩
  obtain ⟨B3, hB3⟩ : ∃ B, B = w3.heap.size := ⟨_, rfl⟩
  rw [← hB2, ← hB3] at HA2
  have H3 : Hid (OX W w3 r A c l L k0 ∧ IRow w3 B2 AK X ∧ W.heap.size + 1 < B2 ∧ B2 ≤ B3 ∧ w3.heap.size = B3 ∧ QRow w3 B3 A2 (sw.map spp)) := Lib.hid ⟨H2.out.1.step hb3, by rw [hB2]; exact H2.out.2.below hb3, by rw [hB2]; exact H2.out.1.f5.lt, by rw [hB2, hB3]; exact hb3.size, hB3.symm, by rw [hB3]; exact hq2⟩
  clear hq2 hh2 hn2 hb3 hB2 hB3 H2
  have HN0 : Hid ((w3.alloc (.cells #[] 56)).ownsRow B3 56 2 (.slice (some ⟨w3.heap.size, 0, none⟩) 0 0) 0 []) := Lib.hid (own_empty_n w3 B3 (Nat.le_of_eq H3.out.2.2.2.2.1.symm) 56 2)
  have HNW : Hid (∀ ad, A2 = some ad → ∀ j u, (pra (sw.map spp)).toList[j]? = some u → (w3.alloc (.cells #[] 56)).cell? (ad.add j) = some u) := Lib.hid fun ad e j u hu => by
    obtain ⟨g, o, pth⟩ := ad
    by_cases h0 : sw.length = 0
    · have : sw = [] := List.eq_nil_of_length_eq_zero h0
      subst this
      simp [pra] at hu
    · obtain ⟨g', o', e', hg', -⟩ := H3.out.2.2.2.2.2 0 (by simp; omega)
      rw [e] at e'
      cases e'
      obtain ⟨q1, q2, rfl, q4⟩ := HA2.out.1 g o e
      rw [add_at, (q4.alloc _).cell, Nat.zero_add, ← hu]
      simp
  go_wp2_with (at_builtin; refine wpList_append_row3 rfl _ _ 43 rfl B3 56 i0 (.agg #[.int .i64 0, .int .i64 0]) 2 16 Try.underlying43 hi hz0 hz1 hz2 rfl (by decide) (.slice (some ⟨w3.heap.size, 0, none⟩) 0 0) 0 [] rfl HN0.out A2 sw.length c2 (pra (sw.map spp)).toList rfl HA2.out.2 ?q1 HNW.out (pra_one _) ?q3 ?q4 ?q5 ?_)
  case q1 => simp [pra_size]
  case q3 => unfold maxLen; omega
  case q4 => omega
  case q5 => have := H3.out.2.2.2.2.1; simp; omega
  intro v4 w4 hown hgr hat
  have H4 : Hid (KW W w4 r A c l L k0 B2 B3 AK X v4 (sw.map spp) ∧ ∀ g o, A2 = some ⟨g, o, none⟩ → ∃ cs, Has w4 g 56 cs ∧ cs.size = sw.length * 2) := Lib.hid (by
    have hb : Below w3.heap.size w3 w4 := by
      have h1 : Below B3 (w3.alloc (.cells #[] 56)) w4 := grown_step hgr (by have := H3.out.2.2.2.2.1; simp; omega) (fun b hb => (own_block HN0.out b hb).1)
      rw [← H3.out.2.2.2.2.1] at h1
      exact (below_one w3 _).trans h1
    refine ⟨⟨H3.out.1.step hb, H3.out.2.1.below (hb.mono (by have := H3.out.2.2.2; omega)), by simpa using hown, H3.out.2.2.1, H3.out.2.2.2.1, by have := hb.size; have := H3.out.2.2.2.2.1; omega⟩, fun g o e => ?_⟩
    obtain ⟨q1, q2, q3, q4⟩ := HA2.out.1 g o e
    exact ⟨_, q4.below hb q4.lt, by simp [pra_size]⟩)
  obtain ⟨U4, c4, rfl, hq4⟩ : ∃ U cu, v4 = .slice U sw.length cu ∧ QRow w4 w4.heap.size U (sw.map spp) := by
    obtain ⟨U, cu, e, hq⟩ := qrow_own H4.out.1.q
    exact ⟨U, cu, by simpa using e, hq⟩
  have HQ3 := Lib.hid H3.out.2.2.2.2.2
  clear hown hgr hat HN0 HNW H3 hq4
  go_wp2_with fail
  go_loopg [46] sw.length (fun gk i wr => ∃ k : Nat, k ≤ sw.length ∧ sw.length - k ≤ gk ∧ i = .int .i64 k ∧ Hid (KW W wr r A c l L k0 B2 B3 AK X (.slice U4 sw.length c4) (sw.map spp) ∧ ∀ g o, A2 = some ⟨g, o, none⟩ → ∃ cs, Has wr g 56 cs ∧ cs.size = sw.length * 2))
  case atStart => exact ⟨0, Nat.zero_le _, Nat.le_refl _, rfl, H4⟩
  case round =>
    obtain ⟨k, hk, hgk, rfl, HW⟩ := hrel
    clear H4
    by_cases hlt : k < sw.length
    · have hlt2 : (k : Int) < sw.length := by omega
      obtain ⟨g, o, hg, -, -⟩ := HQ3.out k (by simpa using hlt)
      obtain ⟨cs, hcs, hsz⟩ := HW.out.2 g o hg
      obtain ⟨q1, q2, q3, q4⟩ := HA2.out.1 g o hg
      obtain ⟨old, hold⟩ : ∃ u, cs[o + k * 2]? = some u := ⟨_, Array.getElem?_eq_getElem (show o + k * 2 < cs.size by omega)⟩
      have y0 : wr.cell? ⟨g, o + k * 2, none⟩ = some old := (hcs.cell _).trans hold
      have yf := hcs.frozen (o + k * 2)
      have H5 : Hid (KW W (wr.setCell ⟨g, o + k * 2, none⟩ (.int .i64 (-1))) r A c l L k0 B2 B3 AK X (.slice U4 sw.length c4) (sw.map spp) ∧ ∀ g' o', some (⟨g, o, none⟩ : Addr) = some ⟨g', o', none⟩ → ∃ cs, Has (wr.setCell ⟨g, o + k * 2, none⟩ (.int .i64 (-1))) g' 56 cs ∧ cs.size = sw.length * 2) := Lib.hid ⟨HW.out.1.set (p := ⟨g, _, none⟩) q1 q2 _, fun g' o' e => by
        cases e
        exact ⟨_, hcs.set _ _, by simpa using hsz⟩⟩
      subst hg
      clear HW hcs hsz hold q1 q2 q3 q4
      go_wp2_with fail
      go_roundg (sw.length - (k + 1))
      case measure => omega
      case rel => exact ⟨k + 1, by omega, Nat.le_refl _, by go_num, H5⟩
    have hge : ¬ (k : Int) < sw.length := by omega
    have H5 := Lib.hid HW.out.1
    have x0 : wr.cell? ⟨W.heap.size, 0, none⟩ = some (.slice A r.bases.length c) := H5.out.o.f4.cell 0
    have x1 : wr.cell? ⟨W.heap.size, 1, none⟩ = some (.int .i64 r.factor) := H5.out.o.f4.cell 1
    have x2 : wr.cell? ⟨W.heap.size, 2, none⟩ = some (.int .i64 r.most) := H5.out.o.f4.cell 2
    have y0 : wr.cell? ⟨W.heap.size + 1, 0, none⟩ = some (.slice L l.length k0) := H5.out.o.f5.cell 0
    clear HW hk hgk hlt HQ3
    go_wp2_with fail
    refine (HOP.out _ H5.out.o.b).mono ?_
    rintro e w5 ⟨A3, c3, rfl, -, hb5⟩
    have H6 := Lib.hid (H5.out.step hb5)
    have y1 : w5.cell? ⟨W.heap.size + 1, 0, none⟩ = some (.slice L l.length k0) := H6.out.o.f5.cell 0
    clear x0 x1 x2 y0 hb5 H5 hge
    go_wp2_with fail
    clear y1
    go_loopg [60] l.length (fun gk i wr => ∃ k : Nat, k ≤ l.length ∧ l.length - k ≤ gk ∧ i = .int .i64 k ∧ Hid (KW W wr r A c l L k0 B2 B3 AK X (.slice U4 sw.length c4) (sw.map spp)))
    case atStart => exact ⟨0, Nat.zero_le _, Nat.le_refl _, rfl, H6⟩
    case round =>
      obtain ⟨k, hk, hgk, rfl, HW⟩ := hrel
      clear H6
      by_cases hlt : k < l.length
      rotate_left
      · have hge : ¬ (k : Int) < l.length := by omega
        have x0 : wr.cell? ⟨W.heap.size, 0, none⟩ = some (.slice A r.bases.length c) := HW.out.o.f4.cell 0
        have x1 : wr.cell? ⟨W.heap.size, 1, none⟩ = some (.int .i64 r.factor) := HW.out.o.f4.cell 1
        have x2 : wr.cell? ⟨W.heap.size, 2, none⟩ = some (.int .i64 r.most) := HW.out.o.f4.cell 2
        have y0 : wr.cell? ⟨W.heap.size + 1, 0, none⟩ = some (.slice L l.length k0) := HW.out.o.f5.cell 0
        clear hk hgk hlt HVA HOP
        go_wp2_with fail
        refine (HSW.out _ HW.out.o.b).mono ?_
        rintro e w6 ⟨A6, c6, rfl, hq6, -, -, hb6⟩
        have H7 := Lib.hid (And.intro (HW.out.step hb6) hq6)
        clear hb6 hq6 x0 x1 x2 y0 HW hge
        go_wp2_with fail
        refine (HFL.out _ H7.out.1.o).mono ?_
        rintro e w7 ⟨A7, c7, rfl, hr7, hb7⟩
        have H8 := Lib.hid (And.intro (H7.out.1.step hb7) (And.intro (H7.out.2.step hb7) hr7))
        clear hb7 hr7 H7
        go_wp2_with fail
        refine (HNT.out _ _ _ _ _ (H8.out.1.k.more (Nat.le_trans H8.out.1.h2 H8.out.1.h3)) H8.out.2.2).mono ?_
        rintro e w8 ⟨rfl, hb8⟩
        have H9 := Lib.hid (And.intro (H8.out.1.step hb8) (H8.out.2.1.step hb8))
        have HQC : Hid (QRow w8 w8.heap.size U4 (sw.map spp)) := Lib.hid (by
          obtain ⟨U, cu, e, hq⟩ := qrow_own H9.out.1.q
          simp only [List.length_map, Value.slice.injEq] at e
          obtain ⟨rfl, -, rfl⟩ := e
          exact hq)
        clear hb8 H8
        go_wp2_with fail
        refine (HSP.out _ _ _ _ _ H9.out.2 HQC.out).mono ?_
        rintro e w9 ⟨rfl, hb9⟩
        have H10 := Lib.hid (H9.out.1.step hb9)
        clear hb9 H9 HQC
        go_wp2_with fail
        refine (HAw.out _).mono ?_
        rintro e w10 ⟨rfl, hb10⟩
        have H11 := Lib.hid (H10.out.step hb10)
        clear hb10 H10
        go_wp2_with fail
        go_ret
        exact ⟨rfl, H11.out.o.b⟩
      have hlt2 : (k : Int) < l.length := by omega
      obtain ⟨g, o, AC, AP, cc, cp, hg, hgs, hc, hsk⟩ := HRS.out.2 k hlt
      have HSK := Lib.hid (hsk.below HW.out.o.b)
      obtain ⟨x, hx⟩ : ∃ x, x = l[k] := ⟨_, rfl⟩
      rw [← hx] at hc HSK
      subst hg
      have y0 : wr.cell? ⟨g, o + k * 3, none⟩ = some (.slice AC x.calls.length cc) := (HW.out.o.b.cell (p := ⟨g, _, none⟩) hgs).trans (hc 0 (by omega))
      have y1 : wr.cell? ⟨g, o + k * 3 + 1, none⟩ = some (.slice AP x.parts.length cp) := (HW.out.o.b.cell (p := ⟨g, _, none⟩) hgs).trans (hc 1 (by omega))
      have y2 : wr.cell? ⟨g, o + k * 3 + 2, none⟩ = some (.int .i64 x.over) := (HW.out.o.b.cell (p := ⟨g, _, none⟩) hgs).trans (hc 2 (by omega))
      have z0 : wr.cell? ⟨W.heap.size + 1, 0, none⟩ = some (.slice (some ⟨g, o, none⟩) l.length k0) := HW.out.o.f5.cell 0
      have H7 : Hid (KW W (wr.alloc (.cells (skc x AC AP cc cp) 28)) r A c l (some ⟨g, o, none⟩) k0 B2 B3 AK X (.slice U4 sw.length c4) (sw.map spp) ∧ Has (wr.alloc (.cells (skc x AC AP cc cp) 28)) wr.heap.size 28 (skc x AC AP cc cp)) := Lib.hid ⟨HW.out.step (below_one _ _), Has.new _ _ _⟩
      have HSK2 : Hid (SkR (wr.alloc (.cells (skc x AC AP cc cp) 28)) (wr.alloc (.cells (skc x AC AP cc cp) 28)).heap.size x AC AP) := Lib.hid ((HSK.out.below ((below_one wr _).mono HW.out.o.b.size)).more H7.out.1.o.b.size)
      clear hgs hc hsk hx HW HSK
      go_upto_region 16 with fail
      generalize wr.alloc (.cells (skc x AC AP cc cp) 28) = w6 at H7 HSK2 ⊢
      generalize wr.heap.size = E at H7 ⊢
      clear y0 y1 y2 z0
      have x0 : w6.cell? ⟨W.heap.size, 0, none⟩ = some (.slice A r.bases.length c) := H7.out.1.o.f4.cell 0
      have x1 : w6.cell? ⟨W.heap.size, 1, none⟩ = some (.int .i64 r.factor) := H7.out.1.o.f4.cell 1
      have x2 : w6.cell? ⟨W.heap.size, 2, none⟩ = some (.int .i64 r.most) := H7.out.1.o.f4.cell 2
      have y0 : w6.cell? ⟨E, 0, none⟩ = some (.slice AC x.calls.length cc) := H7.out.2.cell 0
      have y1 : w6.cell? ⟨E, 1, none⟩ = some (.slice AP x.parts.length cp) := H7.out.2.cell 1
      have y2 : w6.cell? ⟨E, 2, none⟩ = some (.int .i64 x.over) := H7.out.2.cell 2
      have HVX := Lib.hid (HVA.out x AC AP cc cp)
      have hvl0 := valsR_len r x
      have hvl1 := HSK2.out.lc
      unfold big at hvl1
      generalize valsR r x = V at HVX hvl0
      obtain ⟨vl, ve⟩ := V
      dsimp only at HVX hvl0
      have hvl : vl.length ≤ 9223372036854775807 := by omega
      clear hvl0 hvl1
      go_wp2_with fail
      refine (HVX.out _ H7.out.1.o.b HSK2.out).mono ?_
      rintro e w7 ⟨A7, c7, rfl, hr7, hh7, hb7⟩
      obtain ⟨N, hN⟩ : ∃ N, N = w6.heap.size := ⟨_, rfl⟩
      have HR7 : Hid ((∀ k, k < vl.length → ∃ g o, A7 = some ⟨g, o, none⟩) ∧ ∀ g o, A7 = some ⟨g, o, none⟩ → N ≤ g ∧ o = 0 ∧ ∃ cs, Has w7 g 3 cs ∧ cs.size = vl.length) := Lib.hid ⟨fun k hk => by
        obtain ⟨g, o, e, -⟩ := hr7 k hk
        exact ⟨g, o, e⟩, fun g o e => ⟨by rw [hN]; exact (hh7 g o e).1, (hh7 g o e).2.1, _, (hh7 g o e).2.2, by simp [ils]⟩⟩
      have HB7 : Hid (Below N w6 w7 ∧ N = w6.heap.size) := Lib.hid ⟨by rw [hN]; exact hb7, hN⟩
      clear hr7 hh7 hb7 x0 x1 x2 y0 y1 y2 HVX HSK2 hN
      go_wp2_with fail
      go_loopg [72] vl.length (fun gk i wx => ∃ q : Nat, q ≤ vl.length ∧ vl.length - q ≤ gk ∧ i = .int .i64 q ∧ Hid (Below N w6 wx ∧ ∀ g o, A7 = some ⟨g, o, none⟩ → N ≤ g ∧ o = 0 ∧ ∃ cs, Has wx g 3 cs ∧ cs.size = vl.length))
      case atStart => exact ⟨0, Nat.zero_le _, Nat.le_refl _, rfl, Lib.hid ⟨HB7.out.1, HR7.out.2⟩⟩
      case round =>
        obtain ⟨q, hq, hgq, rfl, HW⟩ := hrel
        by_cases hqt : q < vl.length
        rotate_left
        · have hqe : ¬ (q : Int) < vl.length := by omega
          have H9 := Lib.hid (H7.out.1.step (by have := HW.out.1; rw [HB7.out.2] at this; exact this))
          clear hq hgq hqt HW HR7 HB7
          go_wp2_with fail
          go_roundg (l.length - (k + 1))
          case measure => omega
          case rel => exact ⟨k + 1, by omega, Nat.le_refl _, by go_num, H9⟩
        have hqt2 : (q : Int) < vl.length := by omega
        obtain ⟨g, o, hg⟩ := HR7.out.1 q hqt
        obtain ⟨q1, q2, cs, hcs, hsz⟩ := HW.out.2 g o hg
        obtain ⟨old, hold⟩ : ∃ u, cs[o + q]? = some u := ⟨_, Array.getElem?_eq_getElem (show o + q < cs.size by omega)⟩
        have y0 : wr.cell? ⟨g, o + q, none⟩ = some old := (hcs.cell _).trans hold
        have yf := hcs.frozen (o + q)
        have H8 : Hid (Below N w6 (wr.setCell ⟨g, o + q, none⟩ (.int .i64 (-1))) ∧ ∀ g' o', some (⟨g, o, none⟩ : Addr) = some ⟨g', o', none⟩ → N ≤ g' ∧ o' = 0 ∧ ∃ cs, Has (wr.setCell ⟨g, o + q, none⟩ (.int .i64 (-1))) g' 3 cs ∧ cs.size = vl.length) := Lib.hid ⟨HW.out.1.setCell q1 _, fun g' o' e => by
          cases e
          exact ⟨q1, q2, _, hcs.set _ _, by simpa using hsz⟩⟩
        subst hg
        clear HW hcs hsz hold q1 q2
        go_wp2_with fail
        go_roundg (vl.length - (q + 1))
        case measure => omega
        case rel => exact ⟨q + 1, by omega, Nat.le_refl _, by go_num, H8⟩
end Go.Proofs.Ytmclchaalmonnaa
