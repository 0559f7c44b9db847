/- ScoreNames: the law. -/
import Derived.Test.YtmclchaalmonnaaNmA
namespace Go.Proofs.Ytmclchaalmonnaa
open Go.RowKit Go.Lib
attribute [local irreducible] wpQuiet
section
variable {w w' : World} {n2 n4 n5 n6 n7 n8 n9 n10 n11 : Nat}
theorem SR.step (h : SR w n2 n4 n5 n6 n7 n8 n9 n10 n11) (hb : Below w.heap.size w w') : SR w' n2 n4 n5 n6 n7 n8 n9 n10 n11 :=
  ⟨h.h2.below hb h.h2.lt, h.h4.below hb h.h4.lt, h.h5.below hb h.h5.lt, h.h6.below hb h.h6.lt, h.h7.below hb h.h7.lt, h.h8.below hb h.h8.lt, h.h9.below hb h.h9.lt, h.h10.below hb h.h10.lt, h.h11.below hb h.h11.lt, h.e2, h.e4, h.e5, h.e6, h.e8, h.e9, h.e10, h.e11⟩
/-- all nine lie below B -/
def SRlt (B n2 n4 n5 n6 n7 n8 n9 n10 n11 : Nat) : Prop := n2 < B ∧ n4 < B ∧ n5 < B ∧ n6 < B ∧ n7 < B ∧ n8 < B ∧ n9 < B ∧ n10 < B ∧ n11 < B
theorem SR.lts (h : SR w n2 n4 n5 n6 n7 n8 n9 n10 n11) : SRlt w.heap.size n2 n4 n5 n6 n7 n8 n9 n10 n11 := ⟨h.h2.lt, h.h4.lt, h.h5.lt, h.h6.lt, h.h7.lt, h.h8.lt, h.h9.lt, h.h10.lt, h.h11.lt⟩
theorem SR.set {B : Nat} (h : SR w n2 n4 n5 n6 n7 n8 n9 n10 n11) (hl : SRlt B n2 n4 n5 n6 n7 n8 n9 n10 n11) {p : Addr} (hp : B ≤ p.block) (u : Value) : SR (w.setCell p u) n2 n4 n5 n6 n7 n8 n9 n10 n11 := by
  obtain ⟨l2, l4, l5, l6, l7, l8, l9, l10, l11⟩ := hl
  exact ⟨h.h2.far (by omega) _, h.h4.far (by omega) _, h.h5.far (by omega) _, h.h6.far (by omega) _, h.h7.far (by omega) _, h.h8.far (by omega) _, h.h9.far (by omega) _, h.h10.far (by omega) _, h.h11.far (by omega) _, h.e2, h.e4, h.e5, h.e6, h.e8, h.e9, h.e10, h.e11⟩
def smE (n4 n5 n6 : Nat) : List En := [⟨⟨1, 0, 0, false, false, [2, 3, 1, 2, -1]⟩, some ⟨n4, 0, none⟩, 5, 0⟩, ⟨⟨2, 1, 1, true, true, [-5, -5, -4, -5, -3]⟩, some ⟨n5, 0, none⟩, 5, 0⟩, ⟨⟨3, 2, 0, false, false, [0, 0, 0, 0, 0]⟩, some ⟨n6, 0, none⟩, 5, 0⟩]
def newE (z : Nat) : En := ⟨⟨0, 1, 0, false, false, [0, 0, 0, 0, 0]⟩, some ⟨z, 0, none⟩, 5, 0⟩
theorem SR.own (h : SR w n2 n4 n5 n6 n7 n8 n9 n10 n11) : w.ownsRow 0 52 6 (.slice (some ⟨n7, 0, none⟩) 3 3) 3 (fl6 (smE n4 n5 n6)) :=
  ⟨rfl, .inr ⟨n7, 3, _, rfl, Nat.zero_le _, h.h7, Nat.le_refl _, by unfold maxLen; omega, rfl, rfl⟩⟩
theorem has_grownN {b : Nat} {t : TypeId} {cs : Array Value} {n : Nat} (hg : w.grownBy w' (some n)) (h : Has w b t cs) (hn : b ≠ n) : Has w' b t cs := by
  have := hg.block b h.lt (fun e => hn (Option.some.inj e))
  unfold Has at h ⊢
  rw [this]; exact h
theorem SR.ru {r : Ru} (h : Has w n2 3 (ils [800, 500, 420])) (hr : r.bases = [800, 500, 420]) : RuR w w.heap.size r (some ⟨n2, 0, none⟩) := ⟨by rw [hr]; exact irow_has h, by rw [hr]; decide⟩
theorem parts_row (h8 : Has w n8 3 (ils [28, 30, 29, 31, 27])) (h9 : Has w n9 3 (ils [24, 24, 24, 24, 24])) (h10 : Has w n10 3 (ils [26, 26, 25, 27, 40])) (h11 : Has w n11 22 #[.slice (some ⟨n8, 0, none⟩) 5 5, .slice (some ⟨n9, 0, none⟩) 5 5, .slice (some ⟨n10, 0, none⟩) 5 5]) :
    PRow w w.heap.size (some ⟨n11, 0, none⟩) sampleS.parts := fun k hk => by
  have hk3 : k < 3 := hk
  match k, hk3 with
  | 0, _ => exact ⟨_, 0, some ⟨n8, 0, none⟩, 5, rfl, h11.lt, by rw [h11.cell]; rfl, irow_has h8, (show (5 : Nat) ≤ big by decide)⟩
  | 1, _ => exact ⟨_, 0, some ⟨n9, 0, none⟩, 5, rfl, h11.lt, by rw [h11.cell]; rfl, irow_has h9, (show (5 : Nat) ≤ big by decide)⟩
  | 2, _ => exact ⟨_, 0, some ⟨n10, 0, none⟩, 5, rfl, h11.lt, by rw [h11.cell]; rfl, irow_has h10, (show (5 : Nat) ≤ big by decide)⟩
theorem SR.rowc (h : SR w n2 n4 n5 n6 n7 n8 n9 n10 n11) : RowC w n7 (smE n4 n5 n6) := by
  obtain ⟨g, cap, e, -, hr, -⟩ := RowC.of_own (n := 3) (E := smE n4 n5 n6) rfl (by decide) h.own
  cases e
  exact hr
theorem SR.sk (h : SR w n2 n4 n5 n6 n7 n8 n9 n10 n11) : SkR w w.heap.size sampleS (some ⟨n7, 0, none⟩) (some ⟨n11, 0, none⟩) :=
  ⟨h.rowc.crow h.h7.lt (fun e he => by
    simp only [smE, List.mem_cons, List.not_mem_nil, or_false] at he
    rcases he with rfl | rfl | rfl
    · exact ⟨irow_has h.h4, (show (5 : Nat) ≤ big by decide)⟩
    · exact ⟨irow_has h.h5, (show (5 : Nat) ≤ big by decide)⟩
    · exact ⟨irow_has h.h6, (show (5 : Nat) ≤ big by decide)⟩), parts_row h.h8 h.h9 h.h10 h.h11, by decide, by decide⟩
end
def namR : Ru := ⟨[800, 500, 420], 160, 1⟩
def namS : Sk := ⟨sampleS.calls ++ [⟨0, 1, 0, false, false, [0, 0, 0, 0, 0]⟩], sampleS.parts, 7⟩
theorem vals_sample : valsR sampleR sampleS = ([933, 253, 420], 0) := by kernel_rfl
theorem vals_nam : valsR namR namS = ([933, 0, 420, 500], 0) := by kernel_rfl
def rkC : List Sc := [⟨5, 0, 0, 900⟩, ⟨6, 0, 0, 800⟩, ⟨7, 0, 0, 800⟩, ⟨8, 0, 0, 700⟩]
def rkD : List Sc := [⟨6, 0, 0, 800⟩, ⟨6, 0, 0, 800⟩, ⟨8, 0, 0, 700⟩]
theorem ranks_c : ranksR rkC = ([1, 3, 2, 4], 0) := by kernel_rfl
theorem ranks_d : ranksR rkD = ([1, 1, 3], 0) := by kernel_rfl
theorem swing_th0 : swingR threeR (threeL 3) 0 = ([⟨1, 3⟩, ⟨1, 3⟩, ⟨1, 3⟩], 0) := by kernel_rfl
theorem swing_th1 : swingR threeR (threeL 3) 1 = ([⟨1, 3⟩, ⟨1, 3⟩, ⟨1, 3⟩], 0) := by kernel_rfl
theorem swing_th2 : swingR threeR (threeL 3) 2 = ([⟨1, 3⟩, ⟨1, 3⟩, ⟨1, 3⟩], 0) := by kernel_rfl
theorem swing_three (q : Nat) (h : q < 3) : swingR threeR (threeL 3) q = ([⟨1, 3⟩, ⟨1, 3⟩, ⟨1, 3⟩], 0) := by
  match q, h with
  | 0, _ => exact swing_th0
  | 1, _ => exact swing_th1
  | 2, _ => exact swing_th2
theorem open_a : (openR threeR (threeL 5) 1).1 = [] := by kernel_rfl
theorem open_b : (openR threeR (threeL 3) 3).1 = [] := by kernel_rfl
theorem open_c : (openR threeR (threeL 3) 2).1 = [0, 1, 2] := by kernel_rfl
theorem scrow_of {w : World} {g : Nat} {l : List Sc} (h : Has w g 33 (nvl scc l).toArray) : ScRow w w.heap.size (some ⟨g, 0, none⟩) l := fun k hk => by
  refine ⟨g, 0, rfl, h.lt, fun j hj => ?_⟩
  rw [Nat.zero_add, h.cell]
  have := flat_get (fun a : Sc => (scc a).toList) 4 (fun _ => rfl) l k hk j hj
  simpa [nvl] using this
theorem irow_new {w w' : World} {l : List Int} {A : Option Addr} (h : ∀ k (h : k < l.length), ∃ g o, A = some ⟨g, o, none⟩ ∧ w.heap.size ≤ g ∧ g < w'.heap.size ∧ w'.cell? ⟨g, o + k, none⟩ = some (.int .i64 l[k])) : IRB w' w.heap.size w'.heap.size A l := fun k hk => by
  obtain ⟨g, o, e, h1, h2, h3⟩ := h k hk
  exact ⟨g, o, e, h1, h2, h3⟩
theorem irb_row {w : World} {lo hi : Nat} {A : Option Addr} {l : List Int} (h : IRB w lo hi A l) (hh : hi ≤ w.heap.size) : IRow w w.heap.size A l := fun k hk => by
  obtain ⟨b, f, e, -, h2, h3⟩ := h k hk
  exact ⟨b, f, e, by omega, h3⟩
theorem irb_grown {w w' : World} {lo hi n : Nat} {A : Option Addr} {l : List Int} (h : IRB w lo hi A l) (hg : w.grownBy w' (some n)) (hn : n < lo) (hh : hi ≤ w.heap.size) : IRB w' lo hi A l := fun k hk => by
  obtain ⟨b, f, e, h1, h2, h3⟩ := h k hk
  exact ⟨b, f, e, h1, h2, (World.cell?_of_block (a := ⟨b, _, none⟩) (hg.block b (by omega) (fun e => by have := Option.some.inj e; omega))).trans h3⟩
theorem outs_put3 {w : World} {base D : Nat} {v : Value} {es : List Se} (h : OutS w base v es) (hD : D < base) (a b c : Value) : OutS (put3 w D a b c) base v es := ((h.set (p := ⟨D, 0, none⟩) hD a).set (p := ⟨D, 1, none⟩) hD b).set (p := ⟨D, 2, none⟩) hD c
theorem outs_row {w : World} {base n k : Nat} {L : Option Addr} {es : List Se} {l : List Sk} (h : OutS w base (.slice L n k) es) (hl : es.map (·.s) = l) : SRow w w.heap.size L l := by
  obtain ⟨A, cap, e, hs⟩ := h.srow
  simp only [Value.slice.injEq] at e
  obtain ⟨rfl, -, -⟩ := e
  rw [hl] at hs
  exact hs
theorem ints_yes {l : List Int} (h : l.length ≤ 1000000) (A A' : Option Addr) (c d : Nat) (w : World) (h1 : IRow w w.heap.size A l) (h2 : IRow w w.heap.size A' l) : Calls Try.prog 18 #[.slice A l.length c, .slice A' l.length d] w (BoolPost true w) := by
  have := ints_any l l A A' c d w h1 h2 h
  rwa [show decide (l = l) = true by simp] at this
set_option maxRecDepth 100000 in
set_option maxHeartbeats 8000000 in
theorem namesLaw_any (W : World) : Calls Try.prog 5 #[] W (BoolPost true W) := by
  obtain ⟨i0, hi, hz0, hz1, hz2⟩ : ∃ i, Try.prog.info? 52 = some i ∧ i.zero = some (.agg #[.int .i64 0, .int .i64 0, .int .i64 0, .bool false, .bool false, .slice none 0 0]) ∧ i.size = 6 ∧ i.bytes = 56 := info_parts Try.info52
  have HS := Lib.hid (fun w => sampleX_any w)
  have HT3 := Lib.hid (fun w => threeX_any 3 (by omega) w)
  have HT5 := Lib.hid (fun w => threeX_any 5 (by omega) w)
  have HAw := Lib.hid (fun w => alive_any w)
  have HV1 := Lib.hid (fun A c AC AP cc cp w h1 h2 => Values_any sampleR A c sampleS AC AP cc cp w h1 h2)
  have HV2 := Lib.hid (fun A c AC AP cc cp w h1 h2 => Values_any namR A c namS AC AP cc cp w h1 h2)
  have HRC := Lib.hid (fun A k w h => Ranks_any rkC A k w h (by decide))
  have HRD := Lib.hid (fun A k w h => Ranks_any rkD A k w h (by decide))
  have HSW := Lib.hid (fun (q : Nat) (hq : q < 3) A c L k w h1 h2 => (by have h := Swing_any threeR A c (threeL 3) L k q w h1 h2 (by decide); rw [swing_three q hq] at h; exact h : Calls Try.prog 21 #[ruv threeR A c, .slice L (threeL 3).length k, .int .i64 q] w (SwEPost ([⟨1, 3⟩, ⟨1, 3⟩, ⟨1, 3⟩], 0) w)))
  have HOA := Lib.hid (fun A c L k w h1 h2 => Open_any threeR A c (threeL 5) L k 1 w h1 h2 (by decide))
  have HOB := Lib.hid (fun A c L k w h1 h2 => Open_any threeR A c (threeL 3) L k 3 w h1 h2 (by decide))
  have HOC := Lib.hid (fun A c L k w h1 h2 => Open_any threeR A c (threeL 3) L k 2 w h1 h2 (by decide))
  have HIA := Lib.hid (fun A A' c d w h1 h2 => ints_yes (l := [933, 253, 420]) (by decide) A A' c d w h1 h2)
  have HIB := Lib.hid (fun A A' c d w h1 h2 => ints_yes (l := [933, 0, 420, 500]) (by decide) A A' c d w h1 h2)
  have HIC := Lib.hid (fun A A' c d w h1 h2 => ints_yes (l := [1, 3, 2, 4]) (by decide) A A' c d w h1 h2)
  have HID := Lib.hid (fun A A' c d w h1 h2 => ints_yes (l := [1, 1, 3]) (by decide) A A' c d w h1 h2)
  have HIZ := Lib.hid (fun A A' c d w h1 h2 => ints_yes (l := [0, 1, 2]) (by decide) A A' c d w h1 h2)
  have HSP := Lib.hid (fun A A' c d w h1 h2 => spans_any [(1, 3), (1, 3), (1, 3)] [(1, 3), (1, 3), (1, 3)] A A' c d w h1 h2 (by decide))
  rw [show decide (([(1, 3), (1, 3), (1, 3)] : List (Int × Int)) = [(1, 3), (1, 3), (1, 3)]) = true by decide] at HSP
  unfold SamQ at HS
  unfold ThrQ at HT3 HT5
  unfold RIPost at HV1 HV2 HRC HRD
  unfold SwEPost at HSW
  unfold RI2 at HOA HOB HOC
  unfold BoolPost at HIA HIB HIC HID HIZ HSP HAw
  rw [vals_sample] at HV1
  rw [vals_nam] at HV2
  rw [ranks_c] at HRC
  rw [ranks_d] at HRD
  rw [open_a] at HOA
  rw [open_b] at HOB
  rw [open_c] at HOC
  generalize (openR threeR (threeL 5) 1).2 = eA at HOA
  generalize (openR threeR (threeL 3) 3).2 = eB at HOB
  generalize (openR threeR (threeL 3) 2).2 = eC at HOC
  have h33 : (threeL 3).length = 3 := rfl
  have h35 : (threeL 5).length = 3 := rfl
  rw [h33] at HT3 HSW HOB HOC
  rw [h35] at HT5 HOA
  unfold ruv skv at *
  dsimp only [threeR, sampleR, sampleS, namR, namS, rkC, rkD, List.length_cons, List.length_nil, List.length_append, List.map_cons, List.map_nil, List.cons_append, List.nil_append, spp] at HS HT3 HT5 HV1 HV2 HRC HRD HSW HOA HOB HOC HIA HIB HIC HID HIZ HSP
  go_enter Try.func5, Try.ntmps5
  go_wp2_with fail
  refine (HS.out _).mono ?_
  rintro e w1 ⟨n2, n4, n5, n6, n7, n8, n9, n10, n11, rfl, hsr, hn7, hb⟩
  have K1 : Hid (Below W.heap.size W ((w1.alloc (.cells #[.slice (some ⟨n2, 0, none⟩) 3 3, .int .i64 160, .int .i64 2] 24)).alloc (.cells #[.slice (some ⟨n7, 0, none⟩) 3 3, .slice (some ⟨n11, 0, none⟩) 3 3, .int .i64 7] 28)) ∧ SR ((w1.alloc (.cells #[.slice (some ⟨n2, 0, none⟩) 3 3, .int .i64 160, .int .i64 2] 24)).alloc (.cells #[.slice (some ⟨n7, 0, none⟩) 3 3, .slice (some ⟨n11, 0, none⟩) 3 3, .int .i64 7] 28)) n2 n4 n5 n6 n7 n8 n9 n10 n11 ∧ Has ((w1.alloc (.cells #[.slice (some ⟨n2, 0, none⟩) 3 3, .int .i64 160, .int .i64 2] 24)).alloc (.cells #[.slice (some ⟨n7, 0, none⟩) 3 3, .slice (some ⟨n11, 0, none⟩) 3 3, .int .i64 7] 28)) w1.heap.size 24 #[.slice (some ⟨n2, 0, none⟩) 3 3, .int .i64 160, .int .i64 2] ∧ Has ((w1.alloc (.cells #[.slice (some ⟨n2, 0, none⟩) 3 3, .int .i64 160, .int .i64 2] 24)).alloc (.cells #[.slice (some ⟨n7, 0, none⟩) 3 3, .slice (some ⟨n11, 0, none⟩) 3 3, .int .i64 7] 28)) (w1.heap.size + 1) 28 #[.slice (some ⟨n7, 0, none⟩) 3 3, .slice (some ⟨n11, 0, none⟩) 3 3, .int .i64 7] ∧ SRlt w1.heap.size n2 n4 n5 n6 n7 n8 n9 n10 n11 ∧ W.heap.size ≤ w1.heap.size ∧ ((w1.alloc (.cells #[.slice (some ⟨n2, 0, none⟩) 3 3, .int .i64 160, .int .i64 2] 24)).alloc (.cells #[.slice (some ⟨n7, 0, none⟩) 3 3, .slice (some ⟨n11, 0, none⟩) 3 3, .int .i64 7] 28)).heap.size = w1.heap.size + 2) := Lib.hid ⟨(hb.trans ((below_one w1 _).mono hb.size)).trans ((below_one _ _).mono (by simp; have := hb.size; omega)), (hsr.step (below_one _ _)).step (below_one _ _), (Has.new _ _ _).alloc _, has_newAt (by simp), hsr.lts, hb.size, by simp⟩
  clear hsr hb HS
  go_upto_region 2 with fail
  generalize (w1.alloc (.cells #[.slice (some ⟨n2, 0, none⟩) 3 3, .int .i64 160, .int .i64 2] 24)).alloc (.cells #[.slice (some ⟨n7, 0, none⟩) 3 3, .slice (some ⟨n11, 0, none⟩) 3 3, .int .i64 7] 28) = w2 at K1 ⊢
  generalize w1.heap.size = D at K1 ⊢
  have x0 : w2.cell? ⟨D, 0, none⟩ = some (.slice (some ⟨n2, 0, none⟩) 3 3) := K1.out.2.2.1.cell 0
  have x1 : w2.cell? ⟨D, 1, none⟩ = some (.int .i64 160) := K1.out.2.2.1.cell 1
  have x2 : w2.cell? ⟨D, 2, none⟩ = some (.int .i64 2) := K1.out.2.2.1.cell 2
  have y0 : w2.cell? ⟨D + 1, 0, none⟩ = some (.slice (some ⟨n7, 0, none⟩) 3 3) := K1.out.2.2.2.1.cell 0
  have y1 : w2.cell? ⟨D + 1, 1, none⟩ = some (.slice (some ⟨n11, 0, none⟩) 3 3) := K1.out.2.2.2.1.cell 1
  have y2 : w2.cell? ⟨D + 1, 2, none⟩ = some (.int .i64 7) := K1.out.2.2.2.1.cell 2
  go_wp2_with fail
  refine (HV1.out _ _ _ _ _ _ _ (SR.ru K1.out.2.1.h2 rfl) K1.out.2.1.sk).mono ?_
  rintro e w3 ⟨A3, c3, rfl, hr3, -, hb⟩
  have K3 : Hid (Below W.heap.size W w3 ∧ SR w3 n2 n4 n5 n6 n7 n8 n9 n10 n11 ∧ Has w3 D 24 #[.slice (some ⟨n2, 0, none⟩) 3 3, .int .i64 160, .int .i64 2] ∧ Has w3 (D + 1) 28 #[.slice (some ⟨n7, 0, none⟩) 3 3, .slice (some ⟨n11, 0, none⟩) 3 3, .int .i64 7] ∧ SRlt D n2 n4 n5 n6 n7 n8 n9 n10 n11 ∧ W.heap.size ≤ D ∧ D + 2 ≤ w3.heap.size ∧ IRB w3 (D + 2) w3.heap.size A3 [933, 253, 420]) := Lib.hid ⟨K1.out.1.trans (hb.mono K1.out.1.size), K1.out.2.1.step hb, K1.out.2.2.1.below hb K1.out.2.2.1.lt, K1.out.2.2.2.1.below hb K1.out.2.2.2.1.lt, K1.out.2.2.2.2.1, K1.out.2.2.2.2.2.1, by have := hb.size; have := K1.out.2.2.2.2.2.2; omega, by rw [← K1.out.2.2.2.2.2.2]; exact irow_new (l := [933, 253, 420]) hr3⟩
  clear hr3 hb K1 x0 x1 x2 y0 y1 y2 HV1
  have x2 : w3.cell? ⟨D, 2, none⟩ = some (.int .i64 2) := K3.out.2.2.1.cell 2
  have xf := K3.out.2.2.1.frozen 2
  obtain ⟨H3, hH3⟩ : ∃ H, H = w3.heap.size := ⟨_, rfl⟩
  go_upto_region 4 with fail
  have K4 : Hid (Below W.heap.size W (w3.setCell ⟨D, 2, none⟩ (.int .i64 1)) ∧ SR (w3.setCell ⟨D, 2, none⟩ (.int .i64 1)) n2 n4 n5 n6 n7 n8 n9 n10 n11 ∧ Has (w3.setCell ⟨D, 2, none⟩ (.int .i64 1)) D 24 #[.slice (some ⟨n2, 0, none⟩) 3 3, .int .i64 160, .int .i64 1] ∧ Has (w3.setCell ⟨D, 2, none⟩ (.int .i64 1)) (D + 1) 28 #[.slice (some ⟨n7, 0, none⟩) 3 3, .slice (some ⟨n11, 0, none⟩) 3 3, .int .i64 7] ∧ SRlt D n2 n4 n5 n6 n7 n8 n9 n10 n11 ∧ W.heap.size ≤ D ∧ D + 2 ≤ H3 ∧ IRB (w3.setCell ⟨D, 2, none⟩ (.int .i64 1)) (D + 2) H3 A3 [933, 253, 420] ∧ H3 ≤ (w3.setCell ⟨D, 2, none⟩ (.int .i64 1)).heap.size) := Lib.hid ⟨K3.out.1.setCell K3.out.2.2.2.2.2.1 _, K3.out.2.1.set K3.out.2.2.2.2.1 (p := ⟨D, 2, none⟩) (Nat.le_refl _) _, K3.out.2.2.1.set 2 _, K3.out.2.2.2.1.far (by simp only; omega) _, K3.out.2.2.2.2.1, K3.out.2.2.2.2.2.1, by rw [hH3]; exact K3.out.2.2.2.2.2.2.1, by rw [hH3]; exact K3.out.2.2.2.2.2.2.2.set (p := ⟨D, 2, none⟩) (by simp only; omega) _, by rw [hH3]; simp [World.setCell]⟩
  clear hH3 K3 x2 xf
  generalize w3.setCell ⟨D, 2, none⟩ (.int .i64 1) = w4 at K4 ⊢
  have y0 : w4.cell? ⟨D + 1, 0, none⟩ = some (.slice (some ⟨n7, 0, none⟩) 3 3) := K4.out.2.2.2.1.cell 0
  have K6 : Hid (Below w4.heap.size w4 ((w4.alloc (.cells #[.int .i64 0, .int .i64 0, .int .i64 0, .int .i64 0, .int .i64 0] 3)).alloc (.cells #[.int .i64 0, .int .i64 1, .int .i64 0, .bool false, .bool false, .slice (some ⟨w4.heap.size, 0, none⟩) 5 5] 52)) ∧ SR ((w4.alloc (.cells #[.int .i64 0, .int .i64 0, .int .i64 0, .int .i64 0, .int .i64 0] 3)).alloc (.cells #[.int .i64 0, .int .i64 1, .int .i64 0, .bool false, .bool false, .slice (some ⟨w4.heap.size, 0, none⟩) 5 5] 52)) n2 n4 n5 n6 n7 n8 n9 n10 n11 ∧ Has ((w4.alloc (.cells #[.int .i64 0, .int .i64 0, .int .i64 0, .int .i64 0, .int .i64 0] 3)).alloc (.cells #[.int .i64 0, .int .i64 1, .int .i64 0, .bool false, .bool false, .slice (some ⟨w4.heap.size, 0, none⟩) 5 5] 52)) w4.heap.size 3 #[.int .i64 0, .int .i64 0, .int .i64 0, .int .i64 0, .int .i64 0] ∧ Has ((w4.alloc (.cells #[.int .i64 0, .int .i64 0, .int .i64 0, .int .i64 0, .int .i64 0] 3)).alloc (.cells #[.int .i64 0, .int .i64 1, .int .i64 0, .bool false, .bool false, .slice (some ⟨w4.heap.size, 0, none⟩) 5 5] 52)) (w4.heap.size + 1) 52 #[.int .i64 0, .int .i64 1, .int .i64 0, .bool false, .bool false, .slice (some ⟨w4.heap.size, 0, none⟩) 5 5] ∧ ((w4.alloc (.cells #[.int .i64 0, .int .i64 0, .int .i64 0, .int .i64 0, .int .i64 0] 3)).alloc (.cells #[.int .i64 0, .int .i64 1, .int .i64 0, .bool false, .bool false, .slice (some ⟨w4.heap.size, 0, none⟩) 5 5] 52)).heap.size = w4.heap.size + 2) := Lib.hid ⟨(below_one w4 _).trans ((below_one _ _).mono (by simp)), (K4.out.2.1.step (below_one _ _)).step (below_one _ _), (Has.new _ _ _).alloc _, has_newAt (by simp), by simp⟩
  have HNEW : Hid (∀ i u, (fl6 [newE w4.heap.size])[i]? = some u → ((w4.alloc (.cells #[.int .i64 0, .int .i64 0, .int .i64 0, .int .i64 0, .int .i64 0] 3)).alloc (.cells #[.int .i64 0, .int .i64 1, .int .i64 0, .bool false, .bool false, .slice (some ⟨w4.heap.size, 0, none⟩) 5 5] 52)).cell? ((⟨w4.heap.size + 1, 0, none⟩ : Addr).add i) = some u) := Lib.hid fun i u hu => by
    rw [addr_add, K6.out.2.2.2.1.cell, Nat.zero_add, ← hu]
    simp [fl6, enc6, newE]
  go_wp2_with (at_builtin; refine wpList_append_lies _ rfl _ _ 25 rfl 0 52 i0 (.agg #[.int .i64 0, .int .i64 0, .int .i64 0, .bool false, .bool false, .slice none 0 0]) 6 56 Try.underlying25 hi hz0 hz1 hz2 rfl (by decide) (.slice (some ⟨n7, 0, none⟩) 3 3) 3 (fl6 (smE n4 n5 n6)) rfl K6.out.2.1.own ⟨w4.heap.size + 1, 0, none⟩ 1 1 (fl6 [newE w4.heap.size]) rfl ?q1 HNEW.out (fl6_one _) ?q2 ?q3 ?q4 ?q5 _ rfl ?_)
  all_goals (try (first | rfl | omega | (unfold maxLen; omega) | exact Nat.zero_le _))
  rintro g7 cap7 w7 hown hgr hgg hlt7
  obtain ⟨Z, hZ⟩ : ∃ Z, Z = w4.heap.size := ⟨_, rfl⟩
  have hgr' : World.grownBy _ w7 (some n7) := hgr
  have hgg' : g7 = n7 ∨ g7 = Z + 2 := by
    rcases hgg with e | e
    · exact .inl (Option.some.inj e).symm
    · exact .inr (by rw [hZ]; exact e)
  obtain ⟨gq, cq, eq_, -, hrc, -⟩ := RowC.of_own (n := 4) (E := smE n4 n5 n6 ++ [newE w4.heap.size]) rfl (by decide) (by rw [fl6_app]; exact hown)
  simp only [Value.slice.injEq, Option.some.injEq, Addr.mk.injEq] at eq_
  obtain ⟨⟨rfl, -⟩, -, -⟩ := eq_
  have K7 : Hid (Has w7 n2 3 (ils [800, 500, 420]) ∧ Has w7 n4 3 (ils [2, 3, 1, 2, -1]) ∧ Has w7 n5 3 (ils [-5, -5, -4, -5, -3]) ∧ Has w7 n6 3 (ils [0, 0, 0, 0, 0]) ∧ Has w7 n8 3 (ils [28, 30, 29, 31, 27]) ∧ Has w7 n9 3 (ils [24, 24, 24, 24, 24]) ∧ Has w7 n10 3 (ils [26, 26, 25, 27, 40]) ∧ Has w7 n11 22 #[.slice (some ⟨n8, 0, none⟩) 5 5, .slice (some ⟨n9, 0, none⟩) 5 5, .slice (some ⟨n10, 0, none⟩) 5 5] ∧ Has w7 Z 3 (ils [0, 0, 0, 0, 0]) ∧ Has w7 D 24 #[.slice (some ⟨n2, 0, none⟩) 3 3, .int .i64 160, .int .i64 1] ∧ Has w7 (D + 1) 28 #[.slice (some ⟨n7, 0, none⟩) 3 3, .slice (some ⟨n11, 0, none⟩) 3 3, .int .i64 7] ∧ IRB w7 (D + 2) H3 A3 [933, 253, 420] ∧ RowC w7 g7 (smE n4 n5 n6 ++ [newE Z])) := Lib.hid (by
    have hl := K4.out.2.2.2.2.1
    have hsr := K6.out.2.1
    have hH := K4.out.2.2.2.2.2.2.2.2
    have hd := K4.out.2.2.2.2.2.2.1
    obtain ⟨l2, l4, l5, l6, l7, l8, l9, l10, l11⟩ := hl
    refine ⟨has_grownN hgr' hsr.h2 hsr.e2, has_grownN hgr' hsr.h4 hsr.e4, has_grownN hgr' hsr.h5 hsr.e5, has_grownN hgr' hsr.h6 hsr.e6, has_grownN hgr' hsr.h8 hsr.e8, has_grownN hgr' hsr.h9 hsr.e9, has_grownN hgr' hsr.h10 hsr.e10, has_grownN hgr' hsr.h11 hsr.e11, ?_, ?_, ?_, ?_, ?_⟩
    · rw [hZ]; exact has_grownN hgr' K6.out.2.2.1 (by omega)
    · exact has_grownN hgr' (K4.out.2.2.1.below K6.out.1 K4.out.2.2.1.lt) (by omega)
    · exact has_grownN hgr' (K4.out.2.2.2.1.below K6.out.1 K4.out.2.2.2.1.lt) (by omega)
    · exact irb_grown (K4.out.2.2.2.2.2.2.2.1.below (K6.out.1.mono hH)) hgr' (by omega) (by have := K6.out.1.size; omega)
    · rw [hZ]; exact hrc)
  have K7b : Hid (SRlt D n2 n4 n5 n6 n7 n8 n9 n10 n11 ∧ D + 2 ≤ H3 ∧ H3 ≤ Z ∧ W.heap.size ≤ D ∧ (g7 = n7 ∨ g7 = Z + 2) ∧ H3 ≤ w7.heap.size) := Lib.hid ⟨K4.out.2.2.2.2.1, K4.out.2.2.2.2.2.2.1, by rw [hZ]; exact K4.out.2.2.2.2.2.2.2.2, K4.out.2.2.2.2.2.1, hgg', by have h1 := hgr.size; have h2 := K6.out.1.size; have h3 := K4.out.2.2.2.2.2.2.2.2; omega⟩
  have K7c : Hid (Below W.heap.size W w7) := Lib.hid (by
    have h1 := K4.out.1.trans (K6.out.1.mono K4.out.1.size)
    exact h1.trans (grown_step hgr' h1.size (fun b hb => by have := Option.some.inj hb; omega)))
  clear hown hgr hgr' hgg hgg' hlt7 hrc hZ K4 K6 HNEW y0
  have y0 : w7.cell? ⟨D + 1, 0, none⟩ = some (.slice (some ⟨n7, 0, none⟩) 3 3) := K7.out.2.2.2.2.2.2.2.2.2.2.1.cell 0
  have yf := K7.out.2.2.2.2.2.2.2.2.2.2.1.frozen 0
  go_upto_region 5 with fail
  have K8 : Hid (Below W.heap.size W (w7.setCell ⟨D + 1, 0, none⟩ (.slice (some ⟨g7, 0, none⟩) 4 cap7)) ∧ Has (w7.setCell ⟨D + 1, 0, none⟩ (.slice (some ⟨g7, 0, none⟩) 4 cap7)) D 24 #[.slice (some ⟨n2, 0, none⟩) 3 3, .int .i64 160, .int .i64 1] ∧ Has (w7.setCell ⟨D + 1, 0, none⟩ (.slice (some ⟨g7, 0, none⟩) 4 cap7)) (D + 1) 28 #[.slice (some ⟨g7, 0, none⟩) 4 cap7, .slice (some ⟨n11, 0, none⟩) 3 3, .int .i64 7] ∧ RuR (w7.setCell ⟨D + 1, 0, none⟩ (.slice (some ⟨g7, 0, none⟩) 4 cap7)) (w7.setCell ⟨D + 1, 0, none⟩ (.slice (some ⟨g7, 0, none⟩) 4 cap7)).heap.size namR (some ⟨n2, 0, none⟩) ∧ SkR (w7.setCell ⟨D + 1, 0, none⟩ (.slice (some ⟨g7, 0, none⟩) 4 cap7)) (w7.setCell ⟨D + 1, 0, none⟩ (.slice (some ⟨g7, 0, none⟩) 4 cap7)).heap.size namS (some ⟨g7, 0, none⟩) (some ⟨n11, 0, none⟩) ∧ IRow (w7.setCell ⟨D + 1, 0, none⟩ (.slice (some ⟨g7, 0, none⟩) 4 cap7)) (w7.setCell ⟨D + 1, 0, none⟩ (.slice (some ⟨g7, 0, none⟩) 4 cap7)).heap.size A3 [933, 253, 420]) := Lib.hid (by
    obtain ⟨k2, k4, k5, k6, k8, k9, k10, k11, kz, kd, ke, ka, kr⟩ := K7.out
    obtain ⟨⟨l2, l4, l5, l6, l7, l8, l9, l10, l11⟩, m1, m2, m3, m4, m5⟩ := K7b.out
    have f2 := k2.far (p := ⟨D + 1, 0, none⟩) (by simp only; omega) (.slice (some ⟨g7, 0, none⟩) 4 cap7)
    have f4 := k4.far (p := ⟨D + 1, 0, none⟩) (by simp only; omega) (.slice (some ⟨g7, 0, none⟩) 4 cap7)
    have f5 := k5.far (p := ⟨D + 1, 0, none⟩) (by simp only; omega) (.slice (some ⟨g7, 0, none⟩) 4 cap7)
    have f6 := k6.far (p := ⟨D + 1, 0, none⟩) (by simp only; omega) (.slice (some ⟨g7, 0, none⟩) 4 cap7)
    have f8 := k8.far (p := ⟨D + 1, 0, none⟩) (by simp only; omega) (.slice (some ⟨g7, 0, none⟩) 4 cap7)
    have f9 := k9.far (p := ⟨D + 1, 0, none⟩) (by simp only; omega) (.slice (some ⟨g7, 0, none⟩) 4 cap7)
    have f10 := k10.far (p := ⟨D + 1, 0, none⟩) (by simp only; omega) (.slice (some ⟨g7, 0, none⟩) 4 cap7)
    have f11 := k11.far (p := ⟨D + 1, 0, none⟩) (by simp only; omega) (.slice (some ⟨g7, 0, none⟩) 4 cap7)
    have fz := kz.far (p := ⟨D + 1, 0, none⟩) (by simp only; omega) (.slice (some ⟨g7, 0, none⟩) 4 cap7)
    have fr := kr.far (p := ⟨D + 1, 0, none⟩) (by simp only; omega) (.slice (some ⟨g7, 0, none⟩) 4 cap7)
    refine ⟨K7c.out.setCell (by simp only; omega) _, kd.far (by simp only; omega) _, ke.set 0 _, SR.ru f2 rfl, ⟨fr.crow fr.lt (fun e he => ?_), parts_row f8 f9 f10 f11, by decide, by decide⟩, irb_row (ka.set (p := ⟨D + 1, 0, none⟩) (by simp only; omega) _) (by simpa [World.setCell] using m5)⟩
    simp only [smE, List.cons_append, List.nil_append, List.mem_cons, List.not_mem_nil, or_false] at he
    rcases he with rfl | rfl | rfl | rfl
    · exact ⟨irow_has f4, (show (5 : Nat) ≤ big by decide)⟩
    · exact ⟨irow_has f5, (show (5 : Nat) ≤ big by decide)⟩
    · exact ⟨irow_has f6, (show (5 : Nat) ≤ big by decide)⟩
    · exact ⟨irow_has fz, (show (5 : Nat) ≤ big by decide)⟩)
  clear K7 K7b K7c y0 yf
  generalize w7.setCell ⟨D + 1, 0, none⟩ (.slice (some ⟨g7, 0, none⟩) 4 cap7) = w8 at K8 ⊢
  have x0 : w8.cell? ⟨D, 0, none⟩ = some (.slice (some ⟨n2, 0, none⟩) 3 3) := K8.out.2.1.cell 0
  have x1 : w8.cell? ⟨D, 1, none⟩ = some (.int .i64 160) := K8.out.2.1.cell 1
  have x2 : w8.cell? ⟨D, 2, none⟩ = some (.int .i64 1) := K8.out.2.1.cell 2
  have y0 : w8.cell? ⟨D + 1, 0, none⟩ = some (.slice (some ⟨g7, 0, none⟩) 4 cap7) := K8.out.2.2.1.cell 0
  have y1 : w8.cell? ⟨D + 1, 1, none⟩ = some (.slice (some ⟨n11, 0, none⟩) 3 3) := K8.out.2.2.1.cell 1
  have y2 : w8.cell? ⟨D + 1, 2, none⟩ = some (.int .i64 7) := K8.out.2.2.1.cell 2
  go_wp2_with fail
  refine (HV2.out _ _ _ _ _ _ _ K8.out.2.2.2.1 K8.out.2.2.2.2.1).mono ?_
  rintro e w9 ⟨A5, c5, rfl, hr5, -, hb⟩
  have Kb_1 : Hid (Below W.heap.size W w9) := Lib.hid (K8.out.1.trans (hb.mono K8.out.1.size))
  have Kra_2 : Hid (IRow w9 w9.heap.size A3 [933, 253, 420]) := Lib.hid (K8.out.2.2.2.2.2.step hb)
  have Krb_3 : Hid (IRow w9 w9.heap.size A5 [933, 0, 420, 500]) := Lib.hid (irb_row (irow_new (l := [933, 0, 420, 500]) hr5) (Nat.le_refl _))
  clear hb hr5 K8 x0 x1 x2 y0 y1 y2 HV2
  have Kb_4 : Hid (Below W.heap.size W (w9.alloc (.cells #[.int .i64 5, .int .i64 0, .int .i64 0, .int .i64 900, .int .i64 6, .int .i64 0, .int .i64 0, .int .i64 800, .int .i64 7, .int .i64 0, .int .i64 0, .int .i64 800, .int .i64 8, .int .i64 0, .int .i64 0, .int .i64 700] 33))) := Lib.hid ((Kb_1.out).trans (((below_one w9 (.cells #[.int .i64 5, .int .i64 0, .int .i64 0, .int .i64 900, .int .i64 6, .int .i64 0, .int .i64 0, .int .i64 800, .int .i64 7, .int .i64 0, .int .i64 0, .int .i64 800, .int .i64 8, .int .i64 0, .int .i64 0, .int .i64 700] 33))).mono (Kb_1.out).size))
  have Kra_5 : Hid (IRow (w9.alloc (.cells #[.int .i64 5, .int .i64 0, .int .i64 0, .int .i64 900, .int .i64 6, .int .i64 0, .int .i64 0, .int .i64 800, .int .i64 7, .int .i64 0, .int .i64 0, .int .i64 800, .int .i64 8, .int .i64 0, .int .i64 0, .int .i64 700] 33)) (w9.alloc (.cells #[.int .i64 5, .int .i64 0, .int .i64 0, .int .i64 900, .int .i64 6, .int .i64 0, .int .i64 0, .int .i64 800, .int .i64 7, .int .i64 0, .int .i64 0, .int .i64 800, .int .i64 8, .int .i64 0, .int .i64 0, .int .i64 700] 33)).heap.size A3 [933, 253, 420]) := Lib.hid ((Kra_2.out).step (below_one w9 (.cells #[.int .i64 5, .int .i64 0, .int .i64 0, .int .i64 900, .int .i64 6, .int .i64 0, .int .i64 0, .int .i64 800, .int .i64 7, .int .i64 0, .int .i64 0, .int .i64 800, .int .i64 8, .int .i64 0, .int .i64 0, .int .i64 700] 33)))
  have Krb_6 : Hid (IRow (w9.alloc (.cells #[.int .i64 5, .int .i64 0, .int .i64 0, .int .i64 900, .int .i64 6, .int .i64 0, .int .i64 0, .int .i64 800, .int .i64 7, .int .i64 0, .int .i64 0, .int .i64 800, .int .i64 8, .int .i64 0, .int .i64 0, .int .i64 700] 33)) (w9.alloc (.cells #[.int .i64 5, .int .i64 0, .int .i64 0, .int .i64 900, .int .i64 6, .int .i64 0, .int .i64 0, .int .i64 800, .int .i64 7, .int .i64 0, .int .i64 0, .int .i64 800, .int .i64 8, .int .i64 0, .int .i64 0, .int .i64 700] 33)).heap.size A5 [933, 0, 420, 500]) := Lib.hid ((Krb_3.out).step (below_one w9 (.cells #[.int .i64 5, .int .i64 0, .int .i64 0, .int .i64 900, .int .i64 6, .int .i64 0, .int .i64 0, .int .i64 800, .int .i64 7, .int .i64 0, .int .i64 0, .int .i64 800, .int .i64 8, .int .i64 0, .int .i64 0, .int .i64 700] 33)))
  clear Kb_1 Kra_2 Krb_3
  have HSC : Hid (ScRow (w9.alloc (.cells #[.int .i64 5, .int .i64 0, .int .i64 0, .int .i64 900, .int .i64 6, .int .i64 0, .int .i64 0, .int .i64 800, .int .i64 7, .int .i64 0, .int .i64 0, .int .i64 800, .int .i64 8, .int .i64 0, .int .i64 0, .int .i64 700] 33)) (w9.alloc (.cells #[.int .i64 5, .int .i64 0, .int .i64 0, .int .i64 900, .int .i64 6, .int .i64 0, .int .i64 0, .int .i64 800, .int .i64 7, .int .i64 0, .int .i64 0, .int .i64 800, .int .i64 8, .int .i64 0, .int .i64 0, .int .i64 700] 33)).heap.size (some ⟨w9.heap.size, 0, none⟩) rkC) := Lib.hid (scrow_of (l := rkC) (Has.new _ _ _))
  go_wp2_with fail
  refine (HRC.out _ _ _ HSC.out).mono ?_
  rintro e w11 ⟨A7, cA7, rfl, hr9, -, hb9⟩
  have Kb_7 : Hid (Below W.heap.size W w11) := Lib.hid ((Kb_4.out).trans ((hb9).mono (Kb_4.out).size))
  have Kra_8 : Hid (IRow w11 w11.heap.size A3 [933, 253, 420]) := Lib.hid ((Kra_5.out).step hb9)
  have Krb_9 : Hid (IRow w11 w11.heap.size A5 [933, 0, 420, 500]) := Lib.hid ((Krb_6.out).step hb9)
  clear Kb_4 Kra_5 Krb_6
  have Krc_10 : Hid (IRow w11 w11.heap.size A7 [1, 3, 2, 4]) := Lib.hid (irb_row (irow_new (l := [1, 3, 2, 4]) hr9) (Nat.le_refl _))
  clear hr9 hb9 HSC HRC
  have Kb_11 : Hid (Below W.heap.size W (w11.alloc (.cells #[.int .i64 6, .int .i64 0, .int .i64 0, .int .i64 800, .int .i64 6, .int .i64 0, .int .i64 0, .int .i64 800, .int .i64 8, .int .i64 0, .int .i64 0, .int .i64 700] 33))) := Lib.hid ((Kb_7.out).trans (((below_one w11 (.cells #[.int .i64 6, .int .i64 0, .int .i64 0, .int .i64 800, .int .i64 6, .int .i64 0, .int .i64 0, .int .i64 800, .int .i64 8, .int .i64 0, .int .i64 0, .int .i64 700] 33))).mono (Kb_7.out).size))
  have Kra_12 : Hid (IRow (w11.alloc (.cells #[.int .i64 6, .int .i64 0, .int .i64 0, .int .i64 800, .int .i64 6, .int .i64 0, .int .i64 0, .int .i64 800, .int .i64 8, .int .i64 0, .int .i64 0, .int .i64 700] 33)) (w11.alloc (.cells #[.int .i64 6, .int .i64 0, .int .i64 0, .int .i64 800, .int .i64 6, .int .i64 0, .int .i64 0, .int .i64 800, .int .i64 8, .int .i64 0, .int .i64 0, .int .i64 700] 33)).heap.size A3 [933, 253, 420]) := Lib.hid ((Kra_8.out).step (below_one w11 (.cells #[.int .i64 6, .int .i64 0, .int .i64 0, .int .i64 800, .int .i64 6, .int .i64 0, .int .i64 0, .int .i64 800, .int .i64 8, .int .i64 0, .int .i64 0, .int .i64 700] 33)))
  have Krb_13 : Hid (IRow (w11.alloc (.cells #[.int .i64 6, .int .i64 0, .int .i64 0, .int .i64 800, .int .i64 6, .int .i64 0, .int .i64 0, .int .i64 800, .int .i64 8, .int .i64 0, .int .i64 0, .int .i64 700] 33)) (w11.alloc (.cells #[.int .i64 6, .int .i64 0, .int .i64 0, .int .i64 800, .int .i64 6, .int .i64 0, .int .i64 0, .int .i64 800, .int .i64 8, .int .i64 0, .int .i64 0, .int .i64 700] 33)).heap.size A5 [933, 0, 420, 500]) := Lib.hid ((Krb_9.out).step (below_one w11 (.cells #[.int .i64 6, .int .i64 0, .int .i64 0, .int .i64 800, .int .i64 6, .int .i64 0, .int .i64 0, .int .i64 800, .int .i64 8, .int .i64 0, .int .i64 0, .int .i64 700] 33)))
  have Krc_14 : Hid (IRow (w11.alloc (.cells #[.int .i64 6, .int .i64 0, .int .i64 0, .int .i64 800, .int .i64 6, .int .i64 0, .int .i64 0, .int .i64 800, .int .i64 8, .int .i64 0, .int .i64 0, .int .i64 700] 33)) (w11.alloc (.cells #[.int .i64 6, .int .i64 0, .int .i64 0, .int .i64 800, .int .i64 6, .int .i64 0, .int .i64 0, .int .i64 800, .int .i64 8, .int .i64 0, .int .i64 0, .int .i64 700] 33)).heap.size A7 [1, 3, 2, 4]) := Lib.hid ((Krc_10.out).step (below_one w11 (.cells #[.int .i64 6, .int .i64 0, .int .i64 0, .int .i64 800, .int .i64 6, .int .i64 0, .int .i64 0, .int .i64 800, .int .i64 8, .int .i64 0, .int .i64 0, .int .i64 700] 33)))
  clear Kb_7 Kra_8 Krb_9 Krc_10
  have HSC : Hid (ScRow (w11.alloc (.cells #[.int .i64 6, .int .i64 0, .int .i64 0, .int .i64 800, .int .i64 6, .int .i64 0, .int .i64 0, .int .i64 800, .int .i64 8, .int .i64 0, .int .i64 0, .int .i64 700] 33)) (w11.alloc (.cells #[.int .i64 6, .int .i64 0, .int .i64 0, .int .i64 800, .int .i64 6, .int .i64 0, .int .i64 0, .int .i64 800, .int .i64 8, .int .i64 0, .int .i64 0, .int .i64 700] 33)).heap.size (some ⟨w11.heap.size, 0, none⟩) rkD) := Lib.hid (scrow_of (l := rkD) (Has.new _ _ _))
  go_wp2_with fail
  refine (HRD.out _ _ _ HSC.out).mono ?_
  rintro e w13 ⟨A9, cA9, rfl, hr9, -, hb9⟩
  have Kb_15 : Hid (Below W.heap.size W w13) := Lib.hid ((Kb_11.out).trans ((hb9).mono (Kb_11.out).size))
  have Kra_16 : Hid (IRow w13 w13.heap.size A3 [933, 253, 420]) := Lib.hid ((Kra_12.out).step hb9)
  have Krb_17 : Hid (IRow w13 w13.heap.size A5 [933, 0, 420, 500]) := Lib.hid ((Krb_13.out).step hb9)
  have Krc_18 : Hid (IRow w13 w13.heap.size A7 [1, 3, 2, 4]) := Lib.hid ((Krc_14.out).step hb9)
  clear Kb_11 Kra_12 Krb_13 Krc_14
  have Krd_19 : Hid (IRow w13 w13.heap.size A9 [1, 1, 3]) := Lib.hid (irb_row (irow_new (l := [1, 1, 3]) hr9) (Nat.le_refl _))
  clear hr9 hb9 HSC HRD
  have Kb_20 : Hid (Below W.heap.size W (w13.alloc (.cells #[.int .i64 933, .int .i64 253, .int .i64 420] 3))) := Lib.hid ((Kb_15.out).trans (((below_one w13 (.cells #[.int .i64 933, .int .i64 253, .int .i64 420] 3))).mono (Kb_15.out).size))
  have Kra_21 : Hid (IRow (w13.alloc (.cells #[.int .i64 933, .int .i64 253, .int .i64 420] 3)) (w13.alloc (.cells #[.int .i64 933, .int .i64 253, .int .i64 420] 3)).heap.size A3 [933, 253, 420]) := Lib.hid ((Kra_16.out).step (below_one w13 (.cells #[.int .i64 933, .int .i64 253, .int .i64 420] 3)))
  have Krb_22 : Hid (IRow (w13.alloc (.cells #[.int .i64 933, .int .i64 253, .int .i64 420] 3)) (w13.alloc (.cells #[.int .i64 933, .int .i64 253, .int .i64 420] 3)).heap.size A5 [933, 0, 420, 500]) := Lib.hid ((Krb_17.out).step (below_one w13 (.cells #[.int .i64 933, .int .i64 253, .int .i64 420] 3)))
  have Krc_23 : Hid (IRow (w13.alloc (.cells #[.int .i64 933, .int .i64 253, .int .i64 420] 3)) (w13.alloc (.cells #[.int .i64 933, .int .i64 253, .int .i64 420] 3)).heap.size A7 [1, 3, 2, 4]) := Lib.hid ((Krc_18.out).step (below_one w13 (.cells #[.int .i64 933, .int .i64 253, .int .i64 420] 3)))
  have Krd_24 : Hid (IRow (w13.alloc (.cells #[.int .i64 933, .int .i64 253, .int .i64 420] 3)) (w13.alloc (.cells #[.int .i64 933, .int .i64 253, .int .i64 420] 3)).heap.size A9 [1, 1, 3]) := Lib.hid ((Krd_19.out).step (below_one w13 (.cells #[.int .i64 933, .int .i64 253, .int .i64 420] 3)))
  clear Kb_15 Kra_16 Krb_17 Krc_18 Krd_19
  go_wp2_with fail
  refine (HIA.out _ _ _ _ _ Kra_21.out (irow_has (l := [933, 253, 420]) (Has.new _ _ _))).mono ?_
  rintro e w14 ⟨rfl, hb9⟩
  have Kb_25 : Hid (Below W.heap.size W w14) := Lib.hid ((Kb_20.out).trans ((hb9).mono (Kb_20.out).size))
  have Kra_26 : Hid (IRow w14 w14.heap.size A3 [933, 253, 420]) := Lib.hid ((Kra_21.out).step hb9)
  have Krb_27 : Hid (IRow w14 w14.heap.size A5 [933, 0, 420, 500]) := Lib.hid ((Krb_22.out).step hb9)
  have Krc_28 : Hid (IRow w14 w14.heap.size A7 [1, 3, 2, 4]) := Lib.hid ((Krc_23.out).step hb9)
  have Krd_29 : Hid (IRow w14 w14.heap.size A9 [1, 1, 3]) := Lib.hid ((Krd_24.out).step hb9)
  clear Kb_20 Kra_21 Krb_22 Krc_23 Krd_24
  clear hb9 HIA
  clear Kra_26
  have Kb_30 : Hid (Below W.heap.size W (w14.alloc (.cells #[.int .i64 933, .int .i64 0, .int .i64 420, .int .i64 500] 3))) := Lib.hid ((Kb_25.out).trans (((below_one w14 (.cells #[.int .i64 933, .int .i64 0, .int .i64 420, .int .i64 500] 3))).mono (Kb_25.out).size))
  have Krb_31 : Hid (IRow (w14.alloc (.cells #[.int .i64 933, .int .i64 0, .int .i64 420, .int .i64 500] 3)) (w14.alloc (.cells #[.int .i64 933, .int .i64 0, .int .i64 420, .int .i64 500] 3)).heap.size A5 [933, 0, 420, 500]) := Lib.hid ((Krb_27.out).step (below_one w14 (.cells #[.int .i64 933, .int .i64 0, .int .i64 420, .int .i64 500] 3)))
  have Krc_32 : Hid (IRow (w14.alloc (.cells #[.int .i64 933, .int .i64 0, .int .i64 420, .int .i64 500] 3)) (w14.alloc (.cells #[.int .i64 933, .int .i64 0, .int .i64 420, .int .i64 500] 3)).heap.size A7 [1, 3, 2, 4]) := Lib.hid ((Krc_28.out).step (below_one w14 (.cells #[.int .i64 933, .int .i64 0, .int .i64 420, .int .i64 500] 3)))
  have Krd_33 : Hid (IRow (w14.alloc (.cells #[.int .i64 933, .int .i64 0, .int .i64 420, .int .i64 500] 3)) (w14.alloc (.cells #[.int .i64 933, .int .i64 0, .int .i64 420, .int .i64 500] 3)).heap.size A9 [1, 1, 3]) := Lib.hid ((Krd_29.out).step (below_one w14 (.cells #[.int .i64 933, .int .i64 0, .int .i64 420, .int .i64 500] 3)))
  clear Kb_25 Krb_27 Krc_28 Krd_29
  go_wp2_with fail
  refine (HIB.out _ _ _ _ _ Krb_31.out (irow_has (l := [933, 0, 420, 500]) (Has.new _ _ _))).mono ?_
  rintro e w15 ⟨rfl, hb9⟩
  have Kb_34 : Hid (Below W.heap.size W w15) := Lib.hid ((Kb_30.out).trans ((hb9).mono (Kb_30.out).size))
  have Krb_35 : Hid (IRow w15 w15.heap.size A5 [933, 0, 420, 500]) := Lib.hid ((Krb_31.out).step hb9)
  have Krc_36 : Hid (IRow w15 w15.heap.size A7 [1, 3, 2, 4]) := Lib.hid ((Krc_32.out).step hb9)
  have Krd_37 : Hid (IRow w15 w15.heap.size A9 [1, 1, 3]) := Lib.hid ((Krd_33.out).step hb9)
  clear Kb_30 Krb_31 Krc_32 Krd_33
  clear hb9 HIB
  clear Krb_35
  have Kb_38 : Hid (Below W.heap.size W (w15.alloc (.cells #[.int .i64 1, .int .i64 3, .int .i64 2, .int .i64 4] 3))) := Lib.hid ((Kb_34.out).trans (((below_one w15 (.cells #[.int .i64 1, .int .i64 3, .int .i64 2, .int .i64 4] 3))).mono (Kb_34.out).size))
  have Krc_39 : Hid (IRow (w15.alloc (.cells #[.int .i64 1, .int .i64 3, .int .i64 2, .int .i64 4] 3)) (w15.alloc (.cells #[.int .i64 1, .int .i64 3, .int .i64 2, .int .i64 4] 3)).heap.size A7 [1, 3, 2, 4]) := Lib.hid ((Krc_36.out).step (below_one w15 (.cells #[.int .i64 1, .int .i64 3, .int .i64 2, .int .i64 4] 3)))
  have Krd_40 : Hid (IRow (w15.alloc (.cells #[.int .i64 1, .int .i64 3, .int .i64 2, .int .i64 4] 3)) (w15.alloc (.cells #[.int .i64 1, .int .i64 3, .int .i64 2, .int .i64 4] 3)).heap.size A9 [1, 1, 3]) := Lib.hid ((Krd_37.out).step (below_one w15 (.cells #[.int .i64 1, .int .i64 3, .int .i64 2, .int .i64 4] 3)))
  clear Kb_34 Krc_36 Krd_37
  go_wp2_with fail
  refine (HIC.out _ _ _ _ _ Krc_39.out (irow_has (l := [1, 3, 2, 4]) (Has.new _ _ _))).mono ?_
  rintro e w16 ⟨rfl, hb9⟩
  have Kb_41 : Hid (Below W.heap.size W w16) := Lib.hid ((Kb_38.out).trans ((hb9).mono (Kb_38.out).size))
  have Krc_42 : Hid (IRow w16 w16.heap.size A7 [1, 3, 2, 4]) := Lib.hid ((Krc_39.out).step hb9)
  have Krd_43 : Hid (IRow w16 w16.heap.size A9 [1, 1, 3]) := Lib.hid ((Krd_40.out).step hb9)
  clear Kb_38 Krc_39 Krd_40
  clear hb9 HIC
  clear Krc_42
  have Kb_44 : Hid (Below W.heap.size W (w16.alloc (.cells #[.int .i64 1, .int .i64 1, .int .i64 3] 3))) := Lib.hid ((Kb_41.out).trans (((below_one w16 (.cells #[.int .i64 1, .int .i64 1, .int .i64 3] 3))).mono (Kb_41.out).size))
  have Krd_45 : Hid (IRow (w16.alloc (.cells #[.int .i64 1, .int .i64 1, .int .i64 3] 3)) (w16.alloc (.cells #[.int .i64 1, .int .i64 1, .int .i64 3] 3)).heap.size A9 [1, 1, 3]) := Lib.hid ((Krd_43.out).step (below_one w16 (.cells #[.int .i64 1, .int .i64 1, .int .i64 3] 3)))
  clear Kb_41 Krd_43
  go_wp2_with fail
  refine (HID.out _ _ _ _ _ Krd_45.out (irow_has (l := [1, 1, 3]) (Has.new _ _ _))).mono ?_
  rintro e w17 ⟨rfl, hb9⟩
  have Kb_46 : Hid (Below W.heap.size W w17) := Lib.hid ((Kb_44.out).trans ((hb9).mono (Kb_44.out).size))
  have Krd_47 : Hid (IRow w17 w17.heap.size A9 [1, 1, 3]) := Lib.hid ((Krd_45.out).step hb9)
  clear Kb_44 Krd_45
  clear hb9 HID
  clear Krd_47
  go_wp2_with fail
  refine (HT3.out _).mono ?_
  rintro e w18 ⟨g3, c3', L3, k3, es3, rfl, hg3, hlo3, hos3, hes3, hb9⟩
  have Kb_48 : Hid (Below W.heap.size W w18) := Lib.hid ((Kb_46.out).trans ((hb9).mono (Kb_46.out).size))
  clear Kb_46
  clear hb9 HT3
  have KL : Hid (Below W.heap.size W (w18.alloc (.cells #[.slice (some ⟨g3, 0, none⟩) 1 c3', .int .i64 0, .int .i64 1] 24)) ∧ Has (w18.alloc (.cells #[.slice (some ⟨g3, 0, none⟩) 1 c3', .int .i64 0, .int .i64 1] 24)) g3 3 (ils [100]) ∧ SRow (w18.alloc (.cells #[.slice (some ⟨g3, 0, none⟩) 1 c3', .int .i64 0, .int .i64 1] 24)) w18.heap.size L3 (threeL 3) ∧ w18.heap.size ≤ (w18.alloc (.cells #[.slice (some ⟨g3, 0, none⟩) 1 c3', .int .i64 0, .int .i64 1] 24)).heap.size ∧ Has (w18.alloc (.cells #[.slice (some ⟨g3, 0, none⟩) 1 c3', .int .i64 0, .int .i64 1] 24)) w18.heap.size 24 #[.slice (some ⟨g3, 0, none⟩) 1 c3', .int .i64 0, .int .i64 1] ∧ W.heap.size ≤ w18.heap.size) := Lib.hid ⟨Kb_48.out.trans ((below_one _ _).mono Kb_48.out.size), hg3.alloc _, (outs_row hos3 hes3).below (below_one _ _), (below_one w18 _).size, Has.new _ _ _, Kb_48.out.size⟩
  clear hg3 hlo3 hos3 hes3
  clear Kb_48
  go_upto_region 12 with fail
  generalize w18.alloc (.cells #[.slice (some ⟨g3, 0, none⟩) 1 c3', .int .i64 0, .int .i64 1] 24) = w19 at KL ⊢
  generalize w18.heap.size = E at KL ⊢
  go_wp2_with fail
  go_loopg [15, 87] 3 (fun gk u i wr => ∃ q : Nat, q ≤ 3 ∧ 3 - q ≤ gk ∧ i = .int .i64 q ∧ u = .bool true ∧ Hid (Below W.heap.size W wr ∧ Has wr g3 3 (ils [100]) ∧ SRow wr E L3 (threeL 3) ∧ E ≤ wr.heap.size ∧ Has wr E 24 #[.slice (some ⟨g3, 0, none⟩) 1 c3', .int .i64 0, .int .i64 1] ∧ W.heap.size ≤ E))
  case atStart => exact ⟨0, by omega, by omega, rfl, rfl, KL⟩
  case round =>
    clear KL
    obtain ⟨q, hq, hgq, rfl, rfl, HW⟩ := hrel
    by_cases hlt : q < 3
    rotate_left
    · have hge : ¬ (q : Int) < 3 := by omega
      have KE := Lib.hid HW.out
      clear hq hgq hlt HW HSW HSP
      go_wp2_with fail
      refine (HT5.out _).mono ?_
      rintro e w20 ⟨g5, c5', L5, k5, es5, rfl, hg5, hlo5, hos5, hes5, hb9⟩
      have zx0 : w20.cell? ⟨E, 0, none⟩ = some (.slice (some ⟨g3, 0, none⟩) 1 c3') := (KE.out.2.2.2.2.1.below hb9 KE.out.2.2.2.2.1.lt).cell 0
      have zx1 : w20.cell? ⟨E, 1, none⟩ = some (.int .i64 0) := (KE.out.2.2.2.2.1.below hb9 KE.out.2.2.2.2.1.lt).cell 1
      have zx2 : w20.cell? ⟨E, 2, none⟩ = some (.int .i64 1) := (KE.out.2.2.2.2.1.below hb9 KE.out.2.2.2.2.1.lt).cell 2
      have zf0 := (KE.out.2.2.2.2.1.below hb9 KE.out.2.2.2.2.1.lt).frozen 0
      have zf1 := (KE.out.2.2.2.2.1.below hb9 KE.out.2.2.2.2.1.lt).frozen 1
      have zf2 := (KE.out.2.2.2.2.1.below hb9 KE.out.2.2.2.2.1.lt).frozen 2
      have KP : Hid (Below W.heap.size W (((w20.setCell ⟨E, 0, none⟩ (.slice (some ⟨g5, 0, none⟩) 1 c5')).setCell ⟨E, 1, none⟩ (.int .i64 0)).setCell ⟨E, 2, none⟩ (.int .i64 1)) ∧ Has (((w20.setCell ⟨E, 0, none⟩ (.slice (some ⟨g5, 0, none⟩) 1 c5')).setCell ⟨E, 1, none⟩ (.int .i64 0)).setCell ⟨E, 2, none⟩ (.int .i64 1)) g5 3 (ils [100]) ∧ SRow (((w20.setCell ⟨E, 0, none⟩ (.slice (some ⟨g5, 0, none⟩) 1 c5')).setCell ⟨E, 1, none⟩ (.int .i64 0)).setCell ⟨E, 2, none⟩ (.int .i64 1)) (((w20.setCell ⟨E, 0, none⟩ (.slice (some ⟨g5, 0, none⟩) 1 c5')).setCell ⟨E, 1, none⟩ (.int .i64 0)).setCell ⟨E, 2, none⟩ (.int .i64 1)).heap.size L5 (threeL 5) ∧ SRow (((w20.setCell ⟨E, 0, none⟩ (.slice (some ⟨g5, 0, none⟩) 1 c5')).setCell ⟨E, 1, none⟩ (.int .i64 0)).setCell ⟨E, 2, none⟩ (.int .i64 1)) E L3 (threeL 3) ∧ E ≤ (((w20.setCell ⟨E, 0, none⟩ (.slice (some ⟨g5, 0, none⟩) 1 c5')).setCell ⟨E, 1, none⟩ (.int .i64 0)).setCell ⟨E, 2, none⟩ (.int .i64 1)).heap.size ∧ Has (((w20.setCell ⟨E, 0, none⟩ (.slice (some ⟨g5, 0, none⟩) 1 c5')).setCell ⟨E, 1, none⟩ (.int .i64 0)).setCell ⟨E, 2, none⟩ (.int .i64 1)) E 24 #[.slice (some ⟨g5, 0, none⟩) 1 c5', .int .i64 0, .int .i64 1]) := Lib.hid (by
        have hE := KE.out.2.2.2.2.1.lt
        have hb := KE.out.1.trans (hb9.mono KE.out.1.size)
        have hp : Below E w20 (put3 w20 E (.slice (some ⟨g5, 0, none⟩) 1 c5') (.int .i64 0) (.int .i64 1)) := below_put3 (Below.refl _ _) (Nat.le_refl _)
        exact ⟨hb.trans (hp.mono KE.out.2.2.2.2.2), ((hg5.far (by simp only; omega) _).far (by simp only; omega) _).far (by simp only; omega) _, outs_row (outs_put3 hos5 hE _ _ _) hes5, (KE.out.2.2.1.below (hb9.mono KE.out.2.2.2.1)).below hp, Nat.le_trans (Nat.le_trans KE.out.2.2.2.1 hb9.size) hp.size, has_put3 (KE.out.2.2.2.2.1.below hb9 hE)⟩)
      clear hg5 hlo5 hos5 hes5 hb9 KE HT5
      go_upto_region 19 with fail
      generalize ((w20.setCell ⟨E, 0, none⟩ (.slice (some ⟨g5, 0, none⟩) 1 c5')).setCell ⟨E, 1, none⟩ (.int .i64 0)).setCell ⟨E, 2, none⟩ (.int .i64 1) = w21 at KP ⊢
      clear zx0 zx1 zx2 zf0 zf1 zf2
      have Kb_1 : Hid (Below W.heap.size W w21) := Lib.hid (KP.out.1)
      have Kr5_2 : Hid (Has w21 g5 3 (ils [100])) := Lib.hid (KP.out.2.1)
      have Kfew_3 : Hid (SRow w21 E L3 (threeL 3)) := Lib.hid (KP.out.2.2.2.1)
      have Ksz_4 : Hid (E ≤ w21.heap.size) := Lib.hid (KP.out.2.2.2.2.1)
      have Kbox_5 : Hid (Has w21 E 24 #[.slice (some ⟨g5, 0, none⟩) 1 c5', .int .i64 0, .int .i64 1]) := Lib.hid (KP.out.2.2.2.2.2)
      have Kfive_6 : Hid (SRow w21 w21.heap.size L5 (threeL 5)) := Lib.hid (KP.out.2.2.1)
      clear KP
      have x0 : w21.cell? ⟨E, 0, none⟩ = some (.slice (some ⟨g5, 0, none⟩) 1 c5') := Kbox_5.out.cell 0
      have x1 : w21.cell? ⟨E, 1, none⟩ = some (.int .i64 0) := Kbox_5.out.cell 1
      have x2 : w21.cell? ⟨E, 2, none⟩ = some (.int .i64 1) := Kbox_5.out.cell 2
      go_wp2_with fail
      refine (HOA.out _ _ _ _ _ ⟨irow_has Kr5_2.out, by decide⟩ Kfive_6.out).mono ?_
      rintro e w22 ⟨A20, cA20, rfl, hz9, hb9⟩
      have Kb_7 : Hid (Below W.heap.size W w22) := Lib.hid ((Kb_1.out).trans ((hb9).mono (Kb_1.out).size))
      have Kr5_8 : Hid (Has w22 g5 3 (ils [100])) := Lib.hid ((Kr5_2.out).below hb9 (Kr5_2.out).lt)
      have Kfew_9 : Hid (SRow w22 E L3 (threeL 3)) := Lib.hid ((Kfew_3.out).below ((hb9).mono Ksz_4.out))
      have Ksz_10 : Hid (E ≤ w22.heap.size) := Lib.hid (Nat.le_trans (Ksz_4.out) (hb9).size)
      have Kbox_11 : Hid (Has w22 E 24 #[.slice (some ⟨g5, 0, none⟩) 1 c5', .int .i64 0, .int .i64 1]) := Lib.hid ((Kbox_5.out).below hb9 (Kbox_5.out).lt)
      have Kfive_12 : Hid (SRow w22 w22.heap.size L5 (threeL 5)) := Lib.hid ((Kfive_6.out).step hb9)
      clear Kb_1 Kr5_2 Kfew_3 Ksz_4 Kbox_5 Kfive_6
      clear hb9 hz9 x0 x1 x2 HOA
      clear Kfive_12
      have x0 : w22.cell? ⟨E, 0, none⟩ = some (.slice (some ⟨g5, 0, none⟩) 1 c5') := Kbox_11.out.cell 0
      have x1 : w22.cell? ⟨E, 1, none⟩ = some (.int .i64 0) := Kbox_11.out.cell 1
      have x2 : w22.cell? ⟨E, 2, none⟩ = some (.int .i64 1) := Kbox_11.out.cell 2
      go_wp2_with fail
      refine (HOB.out _ _ _ _ _ ⟨irow_has Kr5_8.out, by decide⟩ (Kfew_9.out.more Ksz_10.out)).mono ?_
      rintro e w23 ⟨A22, cA22, rfl, hz9, hb9⟩
      have Kb_13 : Hid (Below W.heap.size W w23) := Lib.hid ((Kb_7.out).trans ((hb9).mono (Kb_7.out).size))
      have Kr5_14 : Hid (Has w23 g5 3 (ils [100])) := Lib.hid ((Kr5_8.out).below hb9 (Kr5_8.out).lt)
      have Kfew_15 : Hid (SRow w23 E L3 (threeL 3)) := Lib.hid ((Kfew_9.out).below ((hb9).mono Ksz_10.out))
      have Ksz_16 : Hid (E ≤ w23.heap.size) := Lib.hid (Nat.le_trans (Ksz_10.out) (hb9).size)
      have Kbox_17 : Hid (Has w23 E 24 #[.slice (some ⟨g5, 0, none⟩) 1 c5', .int .i64 0, .int .i64 1]) := Lib.hid ((Kbox_11.out).below hb9 (Kbox_11.out).lt)
      clear Kb_7 Kr5_8 Kfew_9 Ksz_10 Kbox_11
      clear hb9 hz9 x0 x1 x2 HOB
      have x0 : w23.cell? ⟨E, 0, none⟩ = some (.slice (some ⟨g5, 0, none⟩) 1 c5') := Kbox_17.out.cell 0
      have x1 : w23.cell? ⟨E, 1, none⟩ = some (.int .i64 0) := Kbox_17.out.cell 1
      have x2 : w23.cell? ⟨E, 2, none⟩ = some (.int .i64 1) := Kbox_17.out.cell 2
      go_wp2_with fail
      refine (HOC.out _ _ _ _ _ ⟨irow_has Kr5_14.out, by decide⟩ (Kfew_15.out.more Ksz_16.out)).mono ?_
      rintro e w24 ⟨A24, cA24, rfl, hz9, hb9⟩
      have Kb_18 : Hid (Below W.heap.size W w24) := Lib.hid ((Kb_13.out).trans ((hb9).mono (Kb_13.out).size))
      have Kr5_19 : Hid (Has w24 g5 3 (ils [100])) := Lib.hid ((Kr5_14.out).below hb9 (Kr5_14.out).lt)
      have Kfew_20 : Hid (SRow w24 E L3 (threeL 3)) := Lib.hid ((Kfew_15.out).below ((hb9).mono Ksz_16.out))
      have Ksz_21 : Hid (E ≤ w24.heap.size) := Lib.hid (Nat.le_trans (Ksz_16.out) (hb9).size)
      have Kbox_22 : Hid (Has w24 E 24 #[.slice (some ⟨g5, 0, none⟩) 1 c5', .int .i64 0, .int .i64 1]) := Lib.hid ((Kbox_17.out).below hb9 (Kbox_17.out).lt)
      clear Kb_13 Kr5_14 Kfew_15 Ksz_16 Kbox_17
      have Krz_23 : Hid (IRow w24 w24.heap.size A24 [0, 1, 2]) := Lib.hid (hz9)
      clear hb9 hz9 x0 x1 x2 HOC
      clear Kfew_20
      clear Ksz_21
      clear Kbox_22
      clear Kr5_19
      go_wp2_with fail
      refine (HAw.out _).mono ?_
      rintro e w25 ⟨rfl, hb9⟩
      have Kb_24 : Hid (Below W.heap.size W w25) := Lib.hid ((Kb_18.out).trans ((hb9).mono (Kb_18.out).size))
      have Krz_25 : Hid (IRow w25 w25.heap.size A24 [0, 1, 2]) := Lib.hid ((Krz_23.out).step hb9)
      clear Kb_18 Krz_23
      clear hb9
      have Kb_26 : Hid (Below W.heap.size W (w25.alloc (.cells #[.int .i64 0, .int .i64 1, .int .i64 2] 3))) := Lib.hid ((Kb_24.out).trans (((below_one w25 (.cells #[.int .i64 0, .int .i64 1, .int .i64 2] 3))).mono (Kb_24.out).size))
      have Krz_27 : Hid (IRow (w25.alloc (.cells #[.int .i64 0, .int .i64 1, .int .i64 2] 3)) (w25.alloc (.cells #[.int .i64 0, .int .i64 1, .int .i64 2] 3)).heap.size A24 [0, 1, 2]) := Lib.hid ((Krz_25.out).step (below_one w25 (.cells #[.int .i64 0, .int .i64 1, .int .i64 2] 3)))
      clear Kb_24 Krz_25
      go_wp2_with fail
      refine (HIZ.out _ _ _ _ _ Krz_27.out (irow_has (l := [0, 1, 2]) (Has.new _ _ _))).mono ?_
      rintro e w26 ⟨rfl, hb9⟩
      have Kb_28 : Hid (Below W.heap.size W w26) := Lib.hid ((Kb_26.out).trans ((hb9).mono (Kb_26.out).size))
      have Krz_29 : Hid (IRow w26 w26.heap.size A24 [0, 1, 2]) := Lib.hid ((Krz_27.out).step hb9)
      clear Kb_26 Krz_27
      clear hb9 HIZ
      clear Krz_29
      go_wp2_with fail
      go_ret
      exact ⟨rfl, Kb_28.out⟩
    have hlt2 : (q : Int) < 3 := by omega
    have x0 : wr.cell? ⟨E, 0, none⟩ = some (.slice (some ⟨g3, 0, none⟩) 1 c3') := HW.out.2.2.2.2.1.cell 0
    have x1 : wr.cell? ⟨E, 1, none⟩ = some (.int .i64 0) := HW.out.2.2.2.2.1.cell 1
    have x2 : wr.cell? ⟨E, 2, none⟩ = some (.int .i64 1) := HW.out.2.2.2.2.1.cell 2
    go_wp2_with fail
    refine (HSW.out q hlt _ _ _ _ _ ⟨irow_has HW.out.2.1, by decide⟩ (HW.out.2.2.1.more HW.out.2.2.2.1)).mono ?_
    rintro e w20 ⟨A17, c17, rfl, hq17, -, -, hb9⟩
    have KR : Hid (QRow w20 w20.heap.size A17 [(1, 3), (1, 3), (1, 3)] ∧ (Below W.heap.size W w20 ∧ Has w20 g3 3 (ils [100]) ∧ SRow w20 E L3 (threeL 3) ∧ E ≤ w20.heap.size ∧ Has w20 E 24 #[.slice (some ⟨g3, 0, none⟩) 1 c3', .int .i64 0, .int .i64 1] ∧ W.heap.size ≤ E)) := Lib.hid ⟨hq17, HW.out.1.trans (hb9.mono HW.out.1.size), HW.out.2.1.below hb9 HW.out.2.1.lt, HW.out.2.2.1.below (hb9.mono HW.out.2.2.2.1), Nat.le_trans HW.out.2.2.2.1 hb9.size, HW.out.2.2.2.2.1.below hb9 HW.out.2.2.2.2.1.lt, HW.out.2.2.2.2.2⟩
    clear hq17 hb9 x0 x1 x2 HW
    have KS : Hid (QRow (w20.alloc (.cells #[.int .i64 1, .int .i64 3, .int .i64 1, .int .i64 3, .int .i64 1, .int .i64 3] 56)) (w20.alloc (.cells #[.int .i64 1, .int .i64 3, .int .i64 1, .int .i64 3, .int .i64 1, .int .i64 3] 56)).heap.size A17 [(1, 3), (1, 3), (1, 3)] ∧ QRow (w20.alloc (.cells #[.int .i64 1, .int .i64 3, .int .i64 1, .int .i64 3, .int .i64 1, .int .i64 3] 56)) (w20.alloc (.cells #[.int .i64 1, .int .i64 3, .int .i64 1, .int .i64 3, .int .i64 1, .int .i64 3] 56)).heap.size (some ⟨w20.heap.size, 0, none⟩) [(1, 3), (1, 3), (1, 3)] ∧ (Below W.heap.size W (w20.alloc (.cells #[.int .i64 1, .int .i64 3, .int .i64 1, .int .i64 3, .int .i64 1, .int .i64 3] 56)) ∧ Has (w20.alloc (.cells #[.int .i64 1, .int .i64 3, .int .i64 1, .int .i64 3, .int .i64 1, .int .i64 3] 56)) g3 3 (ils [100]) ∧ SRow (w20.alloc (.cells #[.int .i64 1, .int .i64 3, .int .i64 1, .int .i64 3, .int .i64 1, .int .i64 3] 56)) E L3 (threeL 3) ∧ E ≤ (w20.alloc (.cells #[.int .i64 1, .int .i64 3, .int .i64 1, .int .i64 3, .int .i64 1, .int .i64 3] 56)).heap.size ∧ Has (w20.alloc (.cells #[.int .i64 1, .int .i64 3, .int .i64 1, .int .i64 3, .int .i64 1, .int .i64 3] 56)) E 24 #[.slice (some ⟨g3, 0, none⟩) 1 c3', .int .i64 0, .int .i64 1] ∧ W.heap.size ≤ E)) := Lib.hid ⟨KR.out.1.step (below_one _ _), qrow_of (l := [(1, 3), (1, 3), (1, 3)]) (Has.new _ _ _) (Has.new _ _ _).lt, KR.out.2.1.trans ((below_one _ _).mono KR.out.2.1.size), KR.out.2.2.1.alloc _, KR.out.2.2.2.1.below ((below_one _ _).mono KR.out.2.2.2.2.1), Nat.le_trans KR.out.2.2.2.2.1 (below_one w20 _).size, KR.out.2.2.2.2.2.1.alloc _, KR.out.2.2.2.2.2.2⟩
    clear KR
    go_wp2_with fail
    refine (HSP.out _ _ _ _ _ KS.out.1 KS.out.2.1).mono ?_
    rintro e w22 ⟨rfl, hb9⟩
    have KT : Hid (Below W.heap.size W w22 ∧ Has w22 g3 3 (ils [100]) ∧ SRow w22 E L3 (threeL 3) ∧ E ≤ w22.heap.size ∧ Has w22 E 24 #[.slice (some ⟨g3, 0, none⟩) 1 c3', .int .i64 0, .int .i64 1] ∧ W.heap.size ≤ E) := Lib.hid ⟨KS.out.2.2.1.trans (hb9.mono KS.out.2.2.1.size), KS.out.2.2.2.1.below hb9 KS.out.2.2.2.1.lt, KS.out.2.2.2.2.1.below (hb9.mono KS.out.2.2.2.2.2.1), Nat.le_trans KS.out.2.2.2.2.2.1 hb9.size, KS.out.2.2.2.2.2.2.1.below hb9 KS.out.2.2.2.2.2.2.1.lt, KS.out.2.2.2.2.2.2.2⟩
    clear KS hb9
    go_wp2_with fail
    go_roundg (3 - (q + 1))
    case measure => omega
    case rel => exact ⟨q + 1, by omega, Nat.le_refl _, by go_num, rfl, KT⟩
end Go.Proofs.Ytmclchaalmonnaa
