/- Contracts: validFar, validLeague. -/
import Derived.Test.YtljkgjfmambfoaaDoorLgB
namespace Go.Proofs.YtljkgjfmambfoaaDoor
open Go.RowKit
theorem farRow_cell {w : World} {B : Nat} {A : Option Addr} {F : List (List Int)} (h : PRow w B A F) {k : Nat} (hk : k < F.length) : ∃ g o M c, A = some ⟨g, o, none⟩ ∧ w.cell? ⟨g, o + k, none⟩ = some (.slice M F[k].length c) ∧ IRow w B M F[k] ∧ F[k].length ≤ big := by
  obtain ⟨g, o, M, c, e, -, h1, h2, h3⟩ := h k hk
  exact ⟨g, o, M, c, e, h1, h2, h3⟩
set_option maxRecDepth 100000 in
set_option maxHeartbeats 2000000 in
theorem validFar_any (F : List (List Int)) (A : Option Addr) (c : Nat) (W : World) (ha : PRow W W.heap.size A F) (hl : F.length ≤ big) :
    Calls Tryd.prog 49 #[.slice A F.length c] W fun e w' => e = .returned (.bool (farB F)) ∧ w' = W := by
  have HA := Lib.hid ha
  have HT : Hid (farB F = (decide (F.length ≤ 6) && F.all fun r => farRowB F.length r)) := Lib.hid rfl
  have hl' : F.length ≤ 9223372036854775807 := hl
  clear ha hl
  by_cases h6 : (6 : Int) < F.length
  · have HE : Hid (farB F = false) := Lib.hid (by rw [HT.out, decide_eq_false (by omega)]; rfl)
    go_enter Tryd.func49, Tryd.ntmps49
    go_wp2_with fail
    go_ret
    exact ⟨ret_bool HE.out.symm, rfl⟩
  have HT2 : Hid (farB F = F.all fun r => farRowB F.length r) := Lib.hid (by rw [HT.out, decide_eq_true (by omega)]; rfl)
  clear HT
  go_enter Tryd.func49, Tryd.ntmps49
  go_wp2_with fail
  go_loopg [12] F.length (fun gk i wr => ∃ k : Nat, k ≤ F.length ∧ F.length - k ≤ gk ∧ i = .int .i64 k ∧ wr = W ∧ Hid (∀ j (hj : j < F.length), j < k → farRowB F.length F[j] = true))
  case atStart => exact ⟨0, Nat.zero_le _, Nat.le_refl _, rfl, rfl, Lib.hid (fun j _ h => absurd h (by omega))⟩
  case round =>
    obtain ⟨k, hk, hgk, rfl, hw, HW⟩ := hrel
    obtain rfl : W = wr := hw.symm
    by_cases hlt : k < F.length
    rotate_left
    · have hge : ¬ (k : Int) < F.length := by omega
      have HE : Hid (farB F = true) := Lib.hid (by
        rw [HT2.out, List.all_eq_true]
        intro g hg
        obtain ⟨j, hj, rfl⟩ := List.getElem_of_mem hg
        exact HW.out j hj (by omega))
      clear HT2 HW
      go_wp2_with fail
      go_ret
      exact ⟨ret_bool HE.out.symm, rfl⟩
    have hlt2 : (k : Int) < F.length := by omega
    obtain ⟨g, o, M, m, hg, hc, hm, hml⟩ := farRow_cell HA.out hlt
    have HM := Lib.hid hm
    have hml' : F[k].length ≤ 9223372036854775807 := hml
    obtain ⟨r, hr⟩ : ∃ r, r = F[k] := ⟨_, rfl⟩
    rw [← hr] at hc HM hml'
    have HBE := Lib.hid hr
    subst hg
    clear hr hm hml
    by_cases hrl : (r.length : Int) = F.length
    rotate_left
    · have hrl1 : ((r.length : Int) == F.length) = false := by simpa using hrl
      have hrl2 : ((r.length : Int) != F.length) = true := by simpa using hrl
      have HE : Hid (farB F = false) := Lib.hid (by
        rw [HT2.out]
        refine List.all_eq_false.2 ⟨F[k], List.getElem_mem hlt, ?_⟩
        rw [← HBE.out]
        unfold farRowB
        rw [decide_eq_false hrl]; simp)
      clear hrl
      go_wp2_with fail
      go_ret
      exact ⟨ret_bool HE.out.symm, rfl⟩
    have hrl1 : ((r.length : Int) == F.length) = true := by simpa using hrl
    have hrl2 : ((r.length : Int) != F.length) = false := by simpa using hrl
    have HR : Hid (farRowB F.length r = r.all fun n => inB n 0 100000) := Lib.hid (by unfold farRowB; rw [decide_eq_true hrl]; rfl)
    clear hrl
    go_wp2_with fail
    clear hc
    go_loopg [23] r.length (fun gq i wr => ∃ q : Nat, q ≤ r.length ∧ r.length - q ≤ gq ∧ i = .int .i64 q ∧ wr = W ∧ Hid (∀ j (hj : j < r.length), j < q → inB r[j] 0 100000 = true))
    case atStart => exact ⟨0, Nat.zero_le _, Nat.le_refl _, rfl, rfl, Lib.hid (fun j _ h => absurd h (by omega))⟩
    case round =>
      obtain ⟨q, hq, hgq, rfl, hw, HQ⟩ := hrel
      obtain rfl : W = wr := hw.symm
      by_cases hqt : q < r.length
      rotate_left
      · have hge : ¬ (q : Int) < r.length := by omega
        have HN : Hid (∀ j (hj : j < F.length), j < k + 1 → farRowB F.length F[j] = true) := Lib.hid fun j hj hjk => by
          rcases Nat.lt_or_ge j k with h' | h'
          · exact HW.out j hj h'
          · have : j = k := by omega
            subst this
            rw [← HBE.out, HR.out, List.all_eq_true]
            intro n hn
            obtain ⟨i, hi, rfl⟩ := List.getElem_of_mem hn
            exact HQ.out i hi (by omega)
        go_wp2_with fail
        go_roundg (F.length - (k + 1))
        case measure => omega
        case rel => exact ⟨k + 1, by omega, Nat.le_refl _, by go_num, rfl, HN⟩
      have hqt2 : (q : Int) < r.length := by omega
      obtain ⟨g2, o2, hg2, -, hc⟩ := HM.out q hqt
      obtain ⟨v, hv⟩ : ∃ v, v = r[q] := ⟨_, rfl⟩
      rw [← hv] at hc
      have HVE := Lib.hid hv
      have HWI := Lib.hid (fun w => within_any v 0 100000 w)
      subst hg2
      clear hv
      cases hin : inB v 0 100000 <;> rw [hin] at HWI
      · have HE : Hid (farB F = false) := Lib.hid (by
          rw [HT2.out]
          refine List.all_eq_false.2 ⟨F[k], List.getElem_mem hlt, ?_⟩
          rw [← HBE.out, HR.out]
          rw [Bool.not_eq_true, List.all_eq_false]
          exact ⟨r[q], List.getElem_mem hqt, by rw [← HVE.out, hin]; decide⟩)
        clear hin HVE
        go_wp2_with fail
        refine (HWI.out _).mono ?_
        rintro e w2 ⟨rfl, rfl⟩
        go_wp2_with fail
        go_ret
        exact ⟨ret_bool HE.out.symm, rfl⟩
      · have HN : Hid (∀ j (hj : j < r.length), j < q + 1 → inB r[j] 0 100000 = true) := Lib.hid fun j hj hjk => by
          rcases Nat.lt_or_ge j q with h' | h'
          · exact HQ.out j hj h'
          · have : j = q := by omega
            subst this
            rw [← HVE.out]; exact hin
        clear hin HVE
        go_wp2_with fail
        refine (HWI.out _).mono ?_
        rintro e w2 ⟨rfl, rfl⟩
        go_wp2_with fail
        go_roundg (r.length - (q + 1))
        case measure => omega
        case rel => exact ⟨q + 1, by omega, Nat.le_refl _, by go_num, rfl, HN⟩
theorem openN_take {G : List Gm} {k : Nat} (h : k < G.length) : openN (G.take (k + 1)) = openN (G.take k) + if openB G[k] then 1 else 0 := by
  unfold openN
  rw [List.take_succ_eq_append_getElem h, List.filter_append, List.length_append]
  cases hq : openB G[k] <;> simp [hq]
theorem openN_le (G : List Gm) : openN G ≤ G.length := List.length_filter_le _ _
set_option maxRecDepth 100000 in
set_option maxHeartbeats 2000000 in
theorem validLeague_any (x : Lg) (AF AG : Option Addr) (cf cg : Nat) (W : World) (hr : LgR W W.heap.size x AF AG) :
    Calls Tryd.prog 28 #[lgv x AF AG cf cg] W (BoolPost (lgB x) W) := by
  have HB : Hid (LX W (W.alloc (.cells (lgc x AF AG cf cg) 25)) W.heap.size x AF AG cf cg) := Lib.hid (LX.start hr)
  have HT : Hid (lgB x = (farB x.F && (decide (x.G.length ≤ 64) && (x.G.all fun g => gameB x.F.length g)) && decide (openN x.G ≤ 8))) := Lib.hid rfl
  have H0 := Lib.hid (fun w (h : LX W w W.heap.size x AF AG cf cg) => validFar_any x.F AF cf w h.up.f h.up.lf)
  have H1 := Lib.hid (fun w (h : LX W w W.heap.size x AF AG cf cg) g => validGame_any x AF AG cf cg g w h.up)
  have H2 := Lib.hid (fun g w => isOpen_any g w)
  have hl : x.G.length ≤ 9223372036854775807 := hr.lg
  clear hr
  unfold lgv gmv at *
  cases h0 : farB x.F <;> rw [h0] at H0
  · have HE : Hid (lgB x = false) := Lib.hid (by rw [HT.out, h0]; rfl)
    clear h0 HT
    go_enter Tryd.func28, Tryd.ntmps28
    go_upto_region 1 with fail
    generalize W.alloc (.cells (lgc x AF AG cf cg) 25) = w9 at HB ⊢
    have x0 : w9.cell? ⟨W.heap.size, 0, none⟩ = some (.slice AF x.F.length cf) := HB.out.fx.cell 0
    have x1 : w9.cell? ⟨W.heap.size, 1, none⟩ = some (.slice AG x.G.length cg) := HB.out.fx.cell 1
    go_wp2_with fail
    refine (H0.out _ HB.out).mono ?_
    rintro e u0 ⟨rfl, rfl⟩
    go_wp2_with fail
    go_ret
    exact ⟨ret_bool HE.out.symm, HB.out.b⟩
  by_cases h64 : (64 : Int) < x.G.length
  · have HE : Hid (lgB x = false) := Lib.hid (by rw [HT.out, h0, decide_eq_false (by omega)]; rfl)
    clear h0 HT
    go_enter Tryd.func28, Tryd.ntmps28
    go_upto_region 1 with fail
    generalize W.alloc (.cells (lgc x AF AG cf cg) 25) = w9 at HB ⊢
    have x0 : w9.cell? ⟨W.heap.size, 0, none⟩ = some (.slice AF x.F.length cf) := HB.out.fx.cell 0
    have x1 : w9.cell? ⟨W.heap.size, 1, none⟩ = some (.slice AG x.G.length cg) := HB.out.fx.cell 1
    go_wp2_with fail
    refine (H0.out _ HB.out).mono ?_
    rintro e u0 ⟨rfl, rfl⟩
    go_wp2_with fail
    go_ret
    exact ⟨ret_bool HE.out.symm, HB.out.b⟩
  have HT2 : Hid (lgB x = ((x.G.all fun g => gameB x.F.length g) && decide (openN x.G ≤ 8))) := Lib.hid (by rw [HT.out, h0, decide_eq_true (by omega)]; rfl)
  have HO := Lib.hid (fun (k : Nat) (h : k < x.G.length) => openN_take h)
  have HOL := Lib.hid (fun k => openN_le (x.G.take k))
  clear h0 HT
  go_enter Tryd.func28, Tryd.ntmps28
  go_upto_region 1 with fail
  generalize W.alloc (.cells (lgc x AF AG cf cg) 25) = w9 at HB ⊢
  have x0 : w9.cell? ⟨W.heap.size, 0, none⟩ = some (.slice AF x.F.length cf) := HB.out.fx.cell 0
  have x1 : w9.cell? ⟨W.heap.size, 1, none⟩ = some (.slice AG x.G.length cg) := HB.out.fx.cell 1
  go_wp2_with fail
  refine (H0.out _ HB.out).mono ?_
  rintro e u0 ⟨rfl, rfl⟩
  go_wp2_with fail
  clear x0 x1
  go_loopg [19, 3] x.G.length (fun gk i n wr => ∃ k : Nat, k ≤ x.G.length ∧ x.G.length - k ≤ gk ∧ i = .int .i64 k ∧ n = .int .i64 (openN (x.G.take k) : Nat) ∧ Hid (LX W wr W.heap.size x AF AG cf cg) ∧ Hid (∀ j (hj : j < x.G.length), j < k → gameB x.F.length x.G[j] = true))
  case atStart => exact ⟨0, Nat.zero_le _, Nat.le_refl _, rfl, rfl, HB, Lib.hid (fun j _ h => absurd h (by omega))⟩
  case round =>
    clear HB
    obtain ⟨k, hk, hgk, rfl, rfl, HB, HW⟩ := hrel
    have hol : openN (x.G.take k) ≤ 64 := by have := HOL.out k; rw [List.length_take] at this; omega
    by_cases hlt : k < x.G.length
    rotate_left
    · have hge : ¬ (k : Int) < x.G.length := by omega
      have HE : Hid (lgB x = decide (openN (x.G.take k) ≤ 8)) := Lib.hid (by
        rw [HT2.out, List.take_of_length_le (by omega), show (x.G.all fun g => gameB x.F.length g) = true by
          rw [List.all_eq_true]
          intro g hg
          obtain ⟨j, hj, rfl⟩ := List.getElem_of_mem hg
          exact HW.out j hj (by omega)]; rfl)
      clear HT2 HW HO
      generalize openN (x.G.take k) = q at HE hol ⊢
      by_cases h8 : (q : Int) ≤ 8
      all_goals
        go_wp2_with fail
        go_ret
        exact ⟨ret_bool (by rw [HE.out]; simp; omega), HB.out.b⟩
    have hlt2 : (k : Int) < x.G.length := by omega
    have x1 : wr.cell? ⟨W.heap.size, 1, none⟩ = some (.slice AG x.G.length cg) := HB.out.fx.cell 1
    obtain ⟨B, o, hg, hgs, hc⟩ := HB.out.r.g k hlt
    obtain ⟨g, hb⟩ : ∃ g, g = x.G[k] := ⟨_, rfl⟩
    rw [← hb] at hc
    have HOk := Lib.hid (HO.out k hlt)
    rw [← hb] at HOk
    have HBE := Lib.hid hb
    have c0 : wr.cell? ⟨B, o + k * 6, none⟩ = some (.int .i64 g.day) := hc 0 (by omega)
    have c1 : wr.cell? ⟨B, o + k * 6 + 1, none⟩ = some (.int .i64 g.home) := hc 1 (by omega)
    have c2 : wr.cell? ⟨B, o + k * 6 + 2, none⟩ = some (.int .i64 g.away) := hc 2 (by omega)
    have c3 : wr.cell? ⟨B, o + k * 6 + 3, none⟩ = some (.int .i64 g.fin) := hc 3 (by omega)
    have c4 : wr.cell? ⟨B, o + k * 6 + 4, none⟩ = some (.int .i64 g.hg) := hc 4 (by omega)
    have c5 : wr.cell? ⟨B, o + k * 6 + 5, none⟩ = some (.int .i64 g.ag) := hc 5 (by omega)
    subst hg
    clear hb hc
    have HB1 : Hid (LG W (wr.alloc (.cells (gmc g) 53)) W.heap.size wr.heap.size x AF (some ⟨B, o, none⟩) cf cg g) := Lib.hid ⟨HB.out.step (below_one _ _), Has.new _ _ _⟩
    go_upto_region 7 with fail
    generalize wr.alloc (.cells (gmc g) 53) = w1 at HB1 ⊢
    generalize wr.heap.size = E at HB1 ⊢
    clear x1 c0 c1 c2 c3 c4 c5 HB hgs
    have x0 : w1.cell? ⟨W.heap.size, 0, none⟩ = some (.slice AF x.F.length cf) := HB1.out.x.fx.cell 0
    have x1 : w1.cell? ⟨W.heap.size, 1, none⟩ = some (.slice (some ⟨B, o, none⟩) x.G.length cg) := HB1.out.x.fx.cell 1
    have y0 : w1.cell? ⟨E, 0, none⟩ = some (.int .i64 g.day) := HB1.out.fg.cell 0
    have y1 : w1.cell? ⟨E, 1, none⟩ = some (.int .i64 g.home) := HB1.out.fg.cell 1
    have y2 : w1.cell? ⟨E, 2, none⟩ = some (.int .i64 g.away) := HB1.out.fg.cell 2
    have y3 : w1.cell? ⟨E, 3, none⟩ = some (.int .i64 g.fin) := HB1.out.fg.cell 3
    have y4 : w1.cell? ⟨E, 4, none⟩ = some (.int .i64 g.hg) := HB1.out.fg.cell 4
    have y5 : w1.cell? ⟨E, 5, none⟩ = some (.int .i64 g.ag) := HB1.out.fg.cell 5
    have H1g := Lib.hid (H1.out w1 HB1.out.x g)
    have H2g := Lib.hid (fun w => H2.out g w)
    cases hgB : gameB x.F.length g <;> rw [hgB] at H1g
    · have HE : Hid (lgB x = false) := Lib.hid (by
        rw [HT2.out, show (x.G.all fun g => gameB x.F.length g) = false from List.all_eq_false.2 ⟨x.G[k], List.getElem_mem hlt, by rw [← HBE.out, hgB]; decide⟩]; rfl)
      clear HBE hgB
      go_wp2_with fail
      refine H1g.out.mono ?_
      rintro e w2 ⟨rfl, hb2⟩
      have HB2 := Lib.hid (HB1.out.step hb2)
      clear hb2 x0 x1 y0 y1 y2 y3 y4 y5 HB1 H1g
      go_wp2_with fail
      go_ret
      exact ⟨ret_bool HE.out.symm, HB2.out.x.b⟩
    have HN : Hid (∀ j (hj : j < x.G.length), j < k + 1 → gameB x.F.length x.G[j] = true) := Lib.hid fun j hj hjk => by
      rcases Nat.lt_or_ge j k with h' | h'
      · exact HW.out j hj h'
      · have : j = k := by omega
        subst this
        rw [← HBE.out]; exact hgB
    clear HBE hgB HW
    go_wp2_with fail
    refine H1g.out.mono ?_
    rintro e w2 ⟨rfl, hb2⟩
    have HB2 := Lib.hid (HB1.out.step hb2)
    clear hb2 x0 x1 y0 y1 y2 y3 y4 y5 HB1 H1g
    have y0 : w2.cell? ⟨E, 0, none⟩ = some (.int .i64 g.day) := HB2.out.fg.cell 0
    have y1 : w2.cell? ⟨E, 1, none⟩ = some (.int .i64 g.home) := HB2.out.fg.cell 1
    have y2 : w2.cell? ⟨E, 2, none⟩ = some (.int .i64 g.away) := HB2.out.fg.cell 2
    have y3 : w2.cell? ⟨E, 3, none⟩ = some (.int .i64 g.fin) := HB2.out.fg.cell 3
    have y4 : w2.cell? ⟨E, 4, none⟩ = some (.int .i64 g.hg) := HB2.out.fg.cell 4
    have y5 : w2.cell? ⟨E, 5, none⟩ = some (.int .i64 g.ag) := HB2.out.fg.cell 5
    cases hop : openB g <;> rw [hop] at H2g HOk
    · have HQ : Hid (openN (x.G.take (k + 1)) = openN (x.G.take k)) := Lib.hid (by rw [HOk.out]; rfl)
      clear HOk hop
      go_wp2_with fail
      refine (H2g.out _).mono ?_
      rintro e w3 ⟨rfl, hb3⟩
      have HB3 := Lib.hid (HB2.out.x.step hb3)
      clear hb3 y0 y1 y2 y3 y4 y5 HB2 H2g
      go_wp2_with fail
      go_roundg (x.G.length - (k + 1))
      case measure => omega
      case rel => exact ⟨k + 1, by omega, Nat.le_refl _, by go_num, by rw [HQ.out], HB3, HN⟩
    · have HQ : Hid (openN (x.G.take (k + 1)) = openN (x.G.take k) + 1) := Lib.hid (by rw [HOk.out]; rfl)
      clear HOk hop
      generalize openN (x.G.take k) = q at HQ hol ⊢
      go_wp2_with fail
      refine (H2g.out _).mono ?_
      rintro e w3 ⟨rfl, hb3⟩
      have HB3 := Lib.hid (HB2.out.x.step hb3)
      clear hb3 y0 y1 y2 y3 y4 y5 HB2 H2g
      go_wp2_with fail
      go_roundg (x.G.length - (k + 1))
      case measure => omega
      case rel => exact ⟨k + 1, by omega, Nat.le_refl _, by go_num, by rw [HQ.out]; go_num, HB3, HN⟩
end Go.Proofs.YtljkgjfmambfoaaDoor
