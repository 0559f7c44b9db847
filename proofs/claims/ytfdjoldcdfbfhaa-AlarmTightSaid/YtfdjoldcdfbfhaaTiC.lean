/- silent: a course that comes to what is asked. -/
import Derived.Test.YtfdjoldcdfbfhaaTiB
import Derived.Test.YtfdjoldcdfbfhaaRfC
namespace Go.Proofs.Ytfdjoldcdfbfhaa
open Go.Shelf Go.RowKit
def crs (c rise : Int) (m k : Nat) : List Int := (List.range k).map (fun (j : Nat) => max 0 (c - rise * ((m : Int) - j)))
theorem crs_len (c rise : Int) (m k : Nat) : (crs c rise m k).length = k := by simp [crs]
theorem crs_next (c rise : Int) (m k : Nat) : crs c rise m (k + 1) = crs c rise m k ++ [max 0 (c - rise * ((m : Int) - k))] := by
  unfold crs
  rw [List.range_succ, List.map_append]; rfl
theorem crs_get {c rise : Int} {m k j : Nat} (h : j < (crs c rise m k).length) : (crs c rise m k)[j] = max 0 (c - rise * ((m : Int) - j)) := by
  simp [crs]
structure JS (w : World) (b7 b5 b6 : Nat) (rise t : Int) (A0 : Option Addr) (cap0 : Nat) (l : List Sn) (V F : Int) : Prop where
  a : Has w b7 3 #[.int .i64 rise]
  d : Has w b5 24 #[.slice A0 l.length cap0, .int .i64 V, .int .i64 F]
  c : Has w b6 3 #[.int .i64 t]
  n : NRow w w.heap.size A0 l
theorem JS.step {w w' : World} {b7 b5 b6 : Nat} {rise t : Int} {A0 : Option Addr} {cap0 : Nat} {l : List Sn} {V F : Int} (h : JS w b7 b5 b6 rise t A0 cap0 l V F) (hb : Below w.heap.size w w') : JS w' b7 b5 b6 rise t A0 cap0 l V F :=
  ⟨h.a.below hb h.a.lt, h.d.below hb h.d.lt, h.c.below hb h.c.lt, h.n.step hb⟩
def SilPost (q : Prop) (W : World) (e : Ending) (W' : World) : Prop := ∃ b, e = .returned (.bool b) ∧ Below W.heap.size W W' ∧ (q → b = true)
theorem alarmR_in {l : List Sn} {V F t : Int} {L : List Sf} (hv : VV l V F) (ht : 0 ≤ t ∧ t ≤ 1048576) (hL : L.length ≤ 1024) : alarmR l V F t L = lisR V t l.length L := by
  unfold alarmR
  rw [(vvB_iff l V F).2 hv, if_neg (by simp), gasB_in, if_neg (by unfold inB; simp; omega), if_neg (by omega)]
theorem bls_at {w : World} {g k : Nat} {B : List Bool} {b : Bool} (h : Has w g 4 (bls B)) (hk : B[k]? = some b) : w.cell? ⟨g, k, none⟩ = some (.bool b) := by
  rw [h.cell, bls, List.getElem?_toArray, List.getElem?_map, hk]; rfl
set_option maxRecDepth 100000 in
set_option maxHeartbeats 8000000 in
theorem silent_any (l : List Sn) (A0 : Option Addr) (cap0 : Nat) (V F t rise c : Int) (m b7 b5 b6 : Nat) (W : World) (hJ : JS W b7 b5 b6 rise t A0 cap0 l V F) (hvv : VV l V F) (hm : m ≤ 60) (ht : 0 ≤ t ∧ t ≤ 1048576) (hri : 0 ≤ rise ∧ rise ≤ 1048576) (hc : 0 ≤ c ∧ c ≤ 1048576) :
    Calls Try.prog 30 #[.int .i64 m, .int .i64 c, .pointer (some ⟨b7, 0, none⟩), .pointer (some ⟨b5, 0, none⟩), .pointer (some ⟨b6, 0, none⟩)] W (SilPost (c < atN l (V + F).toNat t rise m) W) := by
  obtain ⟨i0, hi, hz0, hz1, hz2⟩ := info_parts Try.info3
  have HJ := Lib.hid hJ
  have HVV := Lib.hid hvv
  have h12 := hvv.h12
  have hmf : ∀ (fn : Fn) (first cap : Array Value) (w : World), (Instr.makeFunc fn first cap).run Try.prog w = .ok (.func fn first cap) w := fun _ _ _ _ => rfl
  clear hJ hvv
  go_enter Try.func30, Try.ntmps30
  go_wp2_with fail
  go_loopg [8, 22] (m + 1) (fun gk v i wr => ∃ k : Nat, k ≤ m + 1 ∧ m + 1 - k ≤ gk ∧ i = .int .i64 k ∧ Hid (Below W.heap.size W wr) ∧ Hid (wr.ownsRow W.heap.size 3 1 v k (ili (crs c rise m k))))
  case atStart => exact ⟨0, Nat.zero_le _, by omega, rfl, Below.refl _ _, World.ownsRow_nil _ W.heap.size 3 1⟩
  case round =>
    obtain ⟨k, hk, hgk, rfl, HX, HO⟩ := hrel
    obtain ⟨Av, cv, hva, hcv, hrv⟩ := own_irow HO.out (crs_len c rise m k).symm
    rw [crs_len] at hva hcv
    subst hva
    have HJX := Lib.hid (HJ.out.step HX.out)
    by_cases hlt : (k : Int) < (m : Int) + 1
    · have hp0 := Int.mul_nonneg hri.1 (show (0 : Int) ≤ (m : Int) - k by omega)
      have hp1 : rise * ((m : Int) - k) ≤ 1048576 * 60 := Int.mul_le_mul hri.2 (by omega) (by omega) (by omega)
      have hcn := crs_next c rise m k
      obtain ⟨p, hp⟩ : ∃ p, rise * ((m : Int) - k) = p := ⟨_, rfl⟩
      rw [hp] at hp0 hp1 hcn
      have HCN := Lib.hid hcn
      have r0 : wr.cell? ⟨b7, 0, none⟩ = some (.int .i64 rise) := HJX.out.a.cell 0
      have hw1 : IntKind.i64.wrap p = p := by rw [IntKind.wrap_i64]; omega
      have hw2 : IntKind.i64.wrap ((m : Int) - k) = (m : Int) - k := by rw [IntKind.wrap_i64]; omega
      have hw3 : IntKind.i64.wrap (c - p) = c - p := by rw [IntKind.wrap_i64]; omega
      have HO5 := Lib.hid (own_step HO.out (below_one wr (.cells #[.int .i64 (max 0 (c - p))] 3)))
      have hsX := HX.out.size
      clear hrv hcv hcn
      go_wp2_with (at_builtin; refine wpList_append_row rfl _ _ 52 rfl W.heap.size 3 i0 (.int .i64 0) 1 8 Try.underlying52 hi hz0 hz1 hz2 rfl (by decide) (.slice Av k cv) k (ili (crs c rise m k)) rfl HO5.out (some ⟨wr.heap.size, 0, none⟩) 1 1 (ili [max 0 (c - p)]) rfl (fun h => by cases h) rfl (fun ad had => by cases had; exact World.news_of_block (cs := #[.int .i64 (max 0 (c - p))]) (Has.new wr 3 #[.int .i64 (max 0 (c - p))])) (ili_one _) ?q1 ?q2 ?q3 ?_)
      case q1 => unfold maxLen; omega
      case q2 => omega
      case q3 => (try simp only [World.size_alloc]); omega
      intro v6 w6 hown6 hgrow6
      have hb6 : Below W.heap.size W w6 := (HX.out.trans ((below_one wr (.cells #[.int .i64 (max 0 (c - p))] 3)).mono hsX)).trans (grown_below hgrow6 (by rw [World.size_alloc]; exact Nat.le_succ_of_le hsX) (fun q hq => (HO5.out.lt q hq).1))
      have hown : w6.ownsRow W.heap.size 3 1 v6 (k + 1) (ili (crs c rise m (k + 1))) := by
        have : ili (crs c rise m (k + 1)) = ili (crs c rise m k) ++ ili [max 0 (c - p)] := by rw [HCN.out]; simp [ili]
        rw [this]; exact hown6
      have H6 := Lib.hid (And.intro hb6 hown)
      clear hb6 hown hown6 hgrow6 hsX
      go_wp2_with fail
      go_roundg (m - k)
      case measure => omega
      case rel => exact ⟨k + 1, by omega, by omega, by go_num, H6.out.1, H6.out.2⟩
    · have hke : k = m + 1 := by omega
      have d0 : wr.cell? ⟨b5, 0, none⟩ = some (.slice A0 l.length cap0) := HJX.out.d.cell 0
      have d2 : wr.cell? ⟨b5, 2, none⟩ = some (.int .i64 F) := HJX.out.d.cell 2
      have dl := HJX.out.d.lt
      have hmk := make_bools l.length (by omega)
      rw [hke] at hrv
      have HRV := Lib.hid (And.intro hcv hrv)
      clear hrv hcv
      go_wp2_with fail
      obtain ⟨w4, hw4⟩ : ∃ w4, w4 = wr := ⟨_, rfl⟩
      subst hw4
      have q0 : Below w4.heap.size w4 ((w4.alloc (.cells (bls (List.replicate l.length false)) 4)).alloc (.cells #[.slice (some ⟨w4.heap.size, 0, none⟩) l.length l.length] 50)) := (below_one _ _).alloc (by simp) _
      have q1 : Has ((w4.alloc (.cells (bls (List.replicate l.length false)) 4)).alloc (.cells #[.slice (some ⟨w4.heap.size, 0, none⟩) l.length l.length] 50)) (w4.heap.size + 1) 50 #[.slice (some ⟨w4.heap.size, 0, none⟩) l.length l.length] := has_newAt (by simp)
      have q2 : Has ((w4.alloc (.cells (bls (List.replicate l.length false)) 4)).alloc (.cells #[.slice (some ⟨w4.heap.size, 0, none⟩) l.length l.length] 50)) w4.heap.size 4 (bls (List.replicate l.length false)) := (Has.new _ _ _).alloc _
      have HQ := Lib.hid (And.intro q0 (And.intro q1 q2))
      generalize (w4.alloc (.cells (bls (List.replicate l.length false)) 4)).alloc (.cells #[.slice (some ⟨w4.heap.size, 0, none⟩) l.length l.length] 50) = w5 at HQ ⊢
      obtain ⟨gB, hgB⟩ : ∃ gB, gB = w4.heap.size := ⟨_, rfl⟩
      have HGB := Lib.hid hgB
      rw [← hgB] at HQ
      rw [← hgB]
      clear q0 q1 q2 d0 d2 dl hmk hgB hlt
      obtain ⟨N, hN⟩ : ∃ N, N = cnt c (nums t rise m l) := ⟨_, rfl⟩
      have HN := Lib.hid hN
      have hF := HVV.out.hF
      clear hN
      go_loopg [43] F.toNat (fun gk i wx => ∃ (f : Nat) (B : List Bool), (f : Int) ≤ F ∧ F - f ≤ gk ∧ i = .int .i64 f ∧ Hid (Below gB w4 wx ∧ Has wx (gB + 1) 50 #[.slice (some ⟨gB, 0, none⟩) l.length l.length] ∧ Has wx gB 4 (bls B)) ∧ Hid (B.length = l.length ∧ (gS l t rise m c B l.length = 0 ∨ gS l t rise m c B l.length + f ≤ N)))
      case atStart =>
        refine ⟨0, List.replicate l.length false, by omega, by omega, rfl, HQ.out, by simp, .inr ?_⟩
        have := gS_zero (l := l) (t := t) (rise := rise) (m := m) (c := c) (B := List.replicate l.length false) (fun i h => by
          obtain ⟨h1, h2⟩ := List.getElem?_eq_some_iff.1 h
          simp at h2) l.length (Nat.le_refl _)
        rw [List.take_length, ← HN.out] at this
        omega
      case round =>
        obtain ⟨f, B, hf, hgf, rfl, HY, HB⟩ := hrel
        clear HQ
        have HJY := Lib.hid (HJX.out.step (show Below w4.heap.size w4 wr by rw [← HGB.out]; exact HY.out.1))
        have d0 : wr.cell? ⟨b5, 0, none⟩ = some (.slice A0 l.length cap0) := HJY.out.d.cell 0
        have dl := HJY.out.d.lt
        by_cases hlf : (f : Int) < F
        · go_wp2_with fail
          obtain ⟨w7, hw7⟩ : ∃ w7, w7 = wr := ⟨_, rfl⟩
          subst hw7
          clear d0 dl
          go_loopg [11, 12, 48] l.length (fun g2 bb ll i wy => ∃ (k2 : Nat) (best least : Int), k2 ≤ l.length ∧ l.length - k2 ≤ g2 ∧ bb = .int .i64 best ∧ ll = .int .i64 least ∧ i = .int .i64 k2 ∧ (-1 ≤ best ∧ best < l.length) ∧ Hid (BestP l t rise m B k2 best least) ∧ Hid (Below w7.heap.size w7 wy))
          case atStart => exact ⟨0, -1, 0, Nat.zero_le _, Nat.le_refl _, rfl, rfl, rfl, by omega, .inl ⟨rfl, fun i hi => absurd hi (Nat.not_lt_zero _)⟩, Below.refl _ _⟩
          case round =>
            obtain ⟨k2, best, least, hk2, hg2, rfl, rfl, rfl, hbr, HP, HZ⟩ := hrel
            have HJZ := Lib.hid (HJY.out.step HZ.out)
            have HY2 := Lib.hid (And.intro HZ.out (And.intro (HY.out.2.1.below HZ.out HY.out.2.1.lt) (HY.out.2.2.below HZ.out HY.out.2.2.lt)))
            by_cases hl2 : k2 < l.length
            · have hl2' : (k2 : Int) < l.length := by omega
              obtain ⟨g, o, hA, hg, e0, e1, e2⟩ := HJZ.out.n k2 hl2
              have hvs := HVV.out.hL _ (List.getElem_mem hl2)
              have hcal := fun w => refSure_any l[k2] t rise m w hvs (by omega) hri (by omega)
              obtain ⟨s, hs⟩ : ∃ s, s = l[k2] := ⟨_, rfl⟩
              rw [← hs] at e0 e1 e2 hcal
              have HSS := Lib.hid hs
              have t0 : wr.cell? ⟨b6, 0, none⟩ = some (.int .i64 t) := HJZ.out.c.cell 0
              have r0 : wr.cell? ⟨b7, 0, none⟩ = some (.int .i64 rise) := HJZ.out.a.cell 0
              have tl0 := HJZ.out.c.lt
              have rl0 := HJZ.out.a.lt
              subst hA
              obtain ⟨bv, hbv⟩ : ∃ bv, B[k2]? = some bv := ⟨B[k2]'(by rw [HB.out.1]; exact hl2), List.getElem?_eq_getElem _⟩
              have HBV := Lib.hid hbv
              obtain ⟨x, hx⟩ : ∃ x, x = sureN t rise m s := ⟨_, rfl⟩
              rw [← hx] at hcal
              clear hvs hs hbv
              cases hsb : sureB m s <;> rw [hsb] at hcal
              · have HN2 := Lib.hid (show BestP l t rise m B (k2 + 1) best least from best_skip HP.out (.inr (fun hcd => by
                  obtain ⟨_, h1, _⟩ := hcd
                  unfold sureB at hsb
                  rw [decide_eq_false_iff_not] at hsb
                  rw [← HSS.out] at h1
                  exact hsb h1)))
                have HC := Lib.hid hcal
                unfold snv at HC
                clear hcal hx hsb
                go_wp2_with fail
                refine (HC.out _).mono ?_
                rintro e w3 ⟨rfl, hb3⟩
                have hbb : Below wr.heap.size wr w3 := below_seq (below_one wr _) hb3
                have H3 := Lib.hid (HZ.out.trans (hbb.mono HZ.out.size))
                have x0 : w3.cell? ⟨gB + 1, 0, none⟩ = some (.slice (some ⟨gB, 0, none⟩) l.length l.length) := (HY2.out.2.1.below hbb HY2.out.2.1.lt).cell 0
                have x1 : w3.cell? ⟨gB, k2, none⟩ = some (.bool bv) := bls_at (HY2.out.2.2.below hbb HY2.out.2.2.lt) HBV.out
                have xl1 := (HY2.out.2.1.below hbb HY2.out.2.1.lt).lt
                have xl2 := (HY2.out.2.2.below hbb HY2.out.2.2.lt).lt
                clear hb3 hbb t0 r0 e0 e1 e2 tl0 rl0
                go_wp2_with fail
                go_roundg (l.length - (k2 + 1))
                case measure => omega
                case rel => exact ⟨k2 + 1, best, least, by omega, Nat.le_refl _, rfl, rfl, by go_num, hbr, HN2.out, H3.out⟩
              have hfm : s.f ≤ (m : Int) := by unfold sureB at hsb; simpa using hsb
              have hxn : x = num t rise m l[k2] := by
                rw [hx, ← HSS.out]; unfold sureN; rw [if_neg (by omega)]
              have HC := Lib.hid hcal
              unfold snv at HC
              clear hcal hx hsb
              cases bv
              · have hcd : Cand l m B k2 := ⟨hl2, by rw [← HSS.out]; exact hfm, HBV.out⟩
                by_cases hb0 : best < 0
                · have HN2 := Lib.hid (show BestP l t rise m B (k2 + 1) k2 x by rw [hxn]; exact best_take hl2 HP.out hcd (.inl hb0))
                  clear hcd hxn hfm
                  go_wp2_with fail
                  refine (HC.out _).mono ?_
                  rintro e w3 ⟨rfl, hb3⟩
                  have hbb : Below wr.heap.size wr w3 := below_seq (below_one wr _) hb3
                  have H3 := Lib.hid (HZ.out.trans (hbb.mono HZ.out.size))
                  have x0 : w3.cell? ⟨gB + 1, 0, none⟩ = some (.slice (some ⟨gB, 0, none⟩) l.length l.length) := (HY2.out.2.1.below hbb HY2.out.2.1.lt).cell 0
                  have x1 : w3.cell? ⟨gB, k2, none⟩ = some (.bool false) := bls_at (HY2.out.2.2.below hbb HY2.out.2.2.lt) HBV.out
                  have xl1 := (HY2.out.2.1.below hbb HY2.out.2.1.lt).lt
                  have xl2 := (HY2.out.2.2.below hbb HY2.out.2.2.lt).lt
                  clear hb3 hbb t0 r0 e0 e1 e2 tl0 rl0
                  go_wp2_with fail
                  go_roundg (l.length - (k2 + 1))
                  case measure => omega
                  case rel => exact ⟨k2 + 1, k2, x, by omega, Nat.le_refl _, rfl, rfl, by go_num, by omega, HN2.out, H3.out⟩
                · by_cases hxl : x < least
                  · have HN2 := Lib.hid (show BestP l t rise m B (k2 + 1) k2 x by rw [hxn]; exact best_take hl2 HP.out hcd (.inr (by rw [← hxn]; exact hxl)))
                    clear hcd hxn hfm
                    go_wp2_with fail
                    refine (HC.out _).mono ?_
                    rintro e w3 ⟨rfl, hb3⟩
                    have hbb : Below wr.heap.size wr w3 := below_seq (below_one wr _) hb3
                    have H3 := Lib.hid (HZ.out.trans (hbb.mono HZ.out.size))
                    have x0 : w3.cell? ⟨gB + 1, 0, none⟩ = some (.slice (some ⟨gB, 0, none⟩) l.length l.length) := (HY2.out.2.1.below hbb HY2.out.2.1.lt).cell 0
                    have x1 : w3.cell? ⟨gB, k2, none⟩ = some (.bool false) := bls_at (HY2.out.2.2.below hbb HY2.out.2.2.lt) HBV.out
                    have xl1 := (HY2.out.2.1.below hbb HY2.out.2.1.lt).lt
                    have xl2 := (HY2.out.2.2.below hbb HY2.out.2.2.lt).lt
                    clear hb3 hbb t0 r0 e0 e1 e2 tl0 rl0
                    go_wp2_with fail
                    go_roundg (l.length - (k2 + 1))
                    case measure => omega
                    case rel => exact ⟨k2 + 1, k2, x, by omega, Nat.le_refl _, rfl, rfl, by go_num, by omega, HN2.out, H3.out⟩
                  · have HN2 := Lib.hid (show BestP l t rise m B (k2 + 1) best least from best_skip HP.out (.inl ⟨⟨best.toNat, by omega⟩, hl2, by rw [← hxn]; omega⟩))
                    have hxd : least ≤ x := by omega
                    clear hxl
                    clear hcd hxn hfm
                    go_wp2_with fail
                    refine (HC.out _).mono ?_
                    rintro e w3 ⟨rfl, hb3⟩
                    have hbb : Below wr.heap.size wr w3 := below_seq (below_one wr _) hb3
                    have H3 := Lib.hid (HZ.out.trans (hbb.mono HZ.out.size))
                    have x0 : w3.cell? ⟨gB + 1, 0, none⟩ = some (.slice (some ⟨gB, 0, none⟩) l.length l.length) := (HY2.out.2.1.below hbb HY2.out.2.1.lt).cell 0
                    have x1 : w3.cell? ⟨gB, k2, none⟩ = some (.bool false) := bls_at (HY2.out.2.2.below hbb HY2.out.2.2.lt) HBV.out
                    have xl1 := (HY2.out.2.1.below hbb HY2.out.2.1.lt).lt
                    have xl2 := (HY2.out.2.2.below hbb HY2.out.2.2.lt).lt
                    clear hb3 hbb t0 r0 e0 e1 e2 tl0 rl0
                    go_wp2_with fail
                    all_goals (try (exfalso; omega))
                    go_roundg (l.length - (k2 + 1))
                    case measure => omega
                    case rel => exact ⟨k2 + 1, best, least, by omega, Nat.le_refl _, rfl, rfl, by go_num, hbr, HN2.out, H3.out⟩
              · have HN2 := Lib.hid (show BestP l t rise m B (k2 + 1) best least from best_skip HP.out (.inr (fun hcd => by
                  obtain ⟨_, _, h2⟩ := hcd
                  rw [HBV.out] at h2
                  cases h2)))
                clear hxn hfm
                go_wp2_with fail
                refine (HC.out _).mono ?_
                rintro e w3 ⟨rfl, hb3⟩
                have hbb : Below wr.heap.size wr w3 := below_seq (below_one wr _) hb3
                have H3 := Lib.hid (HZ.out.trans (hbb.mono HZ.out.size))
                have x0 : w3.cell? ⟨gB + 1, 0, none⟩ = some (.slice (some ⟨gB, 0, none⟩) l.length l.length) := (HY2.out.2.1.below hbb HY2.out.2.1.lt).cell 0
                have x1 : w3.cell? ⟨gB, k2, none⟩ = some (.bool true) := bls_at (HY2.out.2.2.below hbb HY2.out.2.2.lt) HBV.out
                have xl1 := (HY2.out.2.1.below hbb HY2.out.2.1.lt).lt
                have xl2 := (HY2.out.2.2.below hbb HY2.out.2.2.lt).lt
                clear hb3 hbb t0 r0 e0 e1 e2 tl0 rl0
                go_wp2_with fail
                go_roundg (l.length - (k2 + 1))
                case measure => omega
                case rel => exact ⟨k2 + 1, best, least, by omega, Nat.le_refl _, rfl, rfl, by go_num, hbr, HN2.out, H3.out⟩
            · have hl2' : ¬ (k2 : Int) < l.length := by omega
              have hke2 : k2 = l.length := by omega
              have hgw : gB ≤ w7.heap.size := by have := HY.out.1.size; have := HGB.out; omega
              have HBG := Lib.hid (HY.out.1.trans (HZ.out.mono hgw))
              rcases HP.out with ⟨hb1, hnc⟩ | ⟨j, hj, hjk, hbj, hcj, hle, hmin⟩
              · have HN3 := Lib.hid (show B.length = l.length ∧ (gS l t rise m c B l.length = 0 ∨ gS l t rise m c B l.length + (f + 1) ≤ N) from ⟨HB.out.1, .inl (round_none hc.2 HB.out.1 (fun i hi => hnc i (by omega)))⟩)
                subst hb1
                clear hnc hbr hke2
                go_wp2_with fail
                go_roundg (F - f - 1).toNat
                case measure => omega
                case rel => exact ⟨f + 1, B, by omega, by omega, by go_num, ⟨HBG.out, HY2.out.2.1, HY2.out.2.2⟩, HN3.out⟩
              · have HN3 := Lib.hid (show (B.set j true).length = l.length ∧ (gS l t rise m c (B.set j true) l.length = 0 ∨ gS l t rise m c (B.set j true) l.length + (f + 1) ≤ N) from
                  ⟨by rw [List.length_set]; exact HB.out.1, round_take hc.2 HB.out.1 hj hcj (fun i hi hci => by have := hmin i hi (by omega) hci; omega) HB.out.2⟩)
                obtain ⟨_, _, hbf⟩ := hcj
                have x0 : wr.cell? ⟨gB + 1, 0, none⟩ = some (.slice (some ⟨gB, 0, none⟩) l.length l.length) := HY2.out.2.1.cell 0
                have x1 : wr.cell? ⟨gB, j, none⟩ = some (.bool false) := bls_at HY2.out.2.2 hbf
                have xf := HY2.out.2.2.frozen j
                have xl1 := HY2.out.2.1.lt
                have xl2 := HY2.out.2.2.lt
                have HYN := Lib.hid (show Below gB w4 (wr.setCell ⟨gB, j, none⟩ (.bool true)) ∧ Has (wr.setCell ⟨gB, j, none⟩ (.bool true)) (gB + 1) 50 #[.slice (some ⟨gB, 0, none⟩) l.length l.length] ∧ Has (wr.setCell ⟨gB, j, none⟩ (.bool true)) gB 4 (bls (B.set j true)) from
                  ⟨HBG.out.setCell (by simp only; omega) _, HY2.out.2.1.far (by simp only; omega) _, by rw [← bls_set]; exact HY2.out.2.2.set j _⟩)
                have hjl : (j : Int) < l.length := by omega
                subst hbj
                clear hmin hle hbf hbr hke2 hjk
                go_wp2_with fail
                go_roundg (F - f - 1).toNat
                case measure => omega
                case rel => exact ⟨f + 1, B.set j true, by omega, by omega, by go_num, HYN.out, HN3.out⟩
        · have hfe : (f : Int) = F := by omega
          have hbw : Below w4.heap.size w4 wr := by rw [← HGB.out]; exact HY.out.1
          have HRW := Lib.hid (HRV.out.2.step hbw)
          have d1 : wr.cell? ⟨b5, 1, none⟩ = some (.int .i64 V) := HJY.out.d.cell 1
          have d2 : wr.cell? ⟨b5, 2, none⟩ = some (.int .i64 F) := HJY.out.d.cell 2
          have HBW := Lib.hid (HX.out.trans (hbw.mono HX.out.size))
          have HFE := Lib.hid hfe
          clear hbw hfe
          go_wp2_with fail
          have hcl := crs_len c rise m (m + 1)
          have hcb : ∀ x ∈ crs c rise m (m + 1), 0 ≤ x ∧ x ≤ 1048576 := fun x hx => by
            obtain ⟨j, hj, rfl⟩ := List.mem_iff_getElem.1 hx
            rw [crs_get]
            have h1 : j < m + 1 := by rwa [crs_len] at hj
            have := Int.mul_nonneg hri.1 (show (0 : Int) ≤ (m : Int) - j by omega)
            omega
          have hrd := read3_any l A0 cap0 V F (crs c rise m (m + 1)) Av cv 32 (.pointer (some ⟨gB + 1, 0, none⟩)) (.pointer (some ⟨b6, 0, none⟩)) (.pointer (some ⟨b5, 0, none⟩)) (tlT B t l) wr HJY.out.n h12 HVV.out.hL HRW.out (by omega) (enters_of Try.func32 (by kernel_rfl) rfl)
            (fun w i j hi hj hb => by
              have hJT : JT wr (gB + 1) b6 b5 gB B t A0 cap0 l V F := ⟨HY.out.2.1, HJY.out.c, HJY.out.d, HY.out.2.2, HJY.out.n⟩
              exact tellsT_any _ _ _ _ B t A0 cap0 l V F w (hJT.step hb) i j _ hi (hcb _ (List.getElem_mem hj)) ht HVV.out.hL HB.out.1)
          have hLl := readN_len (l := l) (tl := tlT B t l) (cs := crs c rise m (m + 1)) (crs c rise m (m + 1)).length
          have hL2 : (crs c rise m (m + 1)).length * l.length ≤ 61 * 12 := Nat.mul_le_mul (by omega) h12
          have hR0 := alarmR_in (L := readN l (tlT B t l) (crs c rise m (m + 1)) (crs c rise m (m + 1)).length) HVV.out ht (by omega)
          have hres : c < atN l (V + F).toNat t rise m → alarmR l V F t (readN l (tlT B t l) (crs c rise m (m + 1)) (crs c rise m (m + 1)).length) = (0, 4) := fun hat => by
            rw [hR0]
            refine tight_none (B := B) HVV.out ht.1 hri.1 hc.1 hcl hm (fun j h => crs_get h) (fun i hi j h hh => tlT_says hi HB.out.1 hh) ?_
            have h1 := atN_le (L := l) (K := (V + F).toNat) (t := t) (rise := rise) (m := m) (x := c) (by have := HVV.out.hV; omega) hc.2
            have h2 : ¬ (V + F).toNat ≤ N := fun h => by rw [HN.out] at h; have := h1.2 h; omega
            have hV := HVV.out.hV
            have hfe := HFE.out
            rcases HB.out.2 with h | h <;> omega
          obtain ⟨M, hM⟩ : ∃ M, M = readN l (tlT B t l) (crs c rise m (m + 1)) (crs c rise m (m + 1)).length := ⟨_, rfl⟩
          rw [← hM] at hrd hLl hres
          rw [hcl] at hrd
          unfold vtv at hrd
          have HML := Lib.hid (show M.length ≤ 1024 by omega)
          have HRES := Lib.hid hres
          clear hM hLl hL2 hR0 hcl hcb hres
          refine hrd.mono ?_
          rintro e w6 ⟨Ar, cr, rfl, hcr, hfr2, hb⟩
          have H6 := Lib.hid (And.intro (HJY.out.step hb) (And.intro hfr2 (HBW.out.trans (hb.mono HBW.out.size))))
          have hal := fun w h h' => Alarm_any l A0 cap0 V F t M Ar cr w h (by omega) h' hcr (by have := HML.out; omega)
          unfold vtv at hal
          have HAL := Lib.hid hal
          clear hrd hfr2 hb d0 d1 d2 dl hcr hal
          have c0 : w6.cell? ⟨b5, 0, none⟩ = some (.slice A0 l.length cap0) := H6.out.1.d.cell 0
          have c1 : w6.cell? ⟨b5, 1, none⟩ = some (.int .i64 V) := H6.out.1.d.cell 1
          have c2 : w6.cell? ⟨b5, 2, none⟩ = some (.int .i64 F) := H6.out.1.d.cell 2
          have t0 : w6.cell? ⟨b6, 0, none⟩ = some (.int .i64 t) := H6.out.1.c.cell 0
          by_cases hat : c < atN l (V + F).toNat t rise m
          · rw [HRES.out hat] at HAL
            go_wp2_with fail
            refine (HAL.out _ H6.out.1.n H6.out.2.1).mono ?_
            rintro e w7 ⟨rfl, hb⟩
            have HF := Lib.hid (H6.out.2.2.trans (hb.mono H6.out.2.2.size))
            clear hb c0 c1 c2 t0
            go_wp2_with fail
            go_ret
            exact ⟨true, rfl, HF.out, fun _ => rfl⟩
          · obtain ⟨⟨ra, re⟩, hRR⟩ : ∃ R, R = alarmR l V F t M := ⟨_, rfl⟩
            rw [← hRR] at HAL
            have HAT := Lib.hid hat
            clear hat
            go_wp2_with fail
            refine (HAL.out _ H6.out.1.n H6.out.2.1).mono ?_
            rintro e w7 ⟨rfl, hb⟩
            have HF := Lib.hid (H6.out.2.2.trans (hb.mono H6.out.2.2.size))
            clear hb c0 c1 c2 t0
            dsimp only
            go_wp2_with fail
            go_ret
            exact ⟨_, rfl, HF.out, fun h => absurd h (by have := HAT.out; omega)⟩
end Go.Proofs.Ytfdjoldcdfbfhaa
