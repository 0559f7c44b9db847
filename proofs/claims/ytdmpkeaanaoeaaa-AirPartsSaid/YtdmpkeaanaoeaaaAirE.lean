/- Contracts: BinarySearch, around, holds. -/
import Derived.Test.YtdmpkeaanaoeaaaAirD
namespace Go.Proofs.Ytdmpkeaanaoeaaa
open Go.RowKit
def fndB (T : List Int) (t : Int) : Bool := decide (idx T t < T.length ∧ T.getD (idx T t) 0 = t)
theorem results_tmp2 {fn : Func} {t u : Tmp} (h : fn.results = #[.tmp t, .tmp u]) (tmps : Array Value) (P : Program) (w : World) :
    (results fn tmps).run P w = .ok (.tuple #[tmps.getD t undef, tmps.getD u undef]) w := by
  simp [results, h]
theorem results_tmp3 {fn : Func} {t u v : Tmp} (h : fn.results = #[.tmp t, .tmp u, .tmp v]) (tmps : Array Value) (P : Program) (w : World) :
    (results fn tmps).run P w = .ok (.tuple #[tmps.getD t undef, tmps.getD u undef, tmps.getD v undef]) w := by
  simp [results, h]
set_option maxRecDepth 100000 in
set_option maxHeartbeats 2000000 in
theorem bsearch_any (T : List Int) (A : Option Addr) (ca : Nat) (t : Int) (W : World) (hr : IRow W W.heap.size A T) (hn : T.length ≤ 32) (hs : ∀ i j, i < j → j < T.length → T.getD i 0 < T.getD j 0) :
    Calls Try.prog 62 #[.slice A T.length ca, .int .i64 t] W fun e w' => e = .returned (.tuple #[.int .i64 (idx T t), .bool (fndB T t)]) ∧ w' = W := by
  have HR := Lib.hid hr
  have HS := Lib.hid hs
  have HL := Lib.hid (fun x w => less_any x t w)
  have HN := Lib.hid (fun x w => isNaN_any x w)
  clear hr hs
  go_enter Try.func62, Try.ntmps62
  go_wp2
  go_loopw [7, 8] (fun a b wr => ∃ i j : Nat, i ≤ j ∧ j ≤ T.length ∧ a = .int .i64 i ∧ b = .int .i64 j ∧ Hid (∀ k, k < i → T.getD k 0 < t) ∧ Hid (j < T.length → t ≤ T.getD j 0) ∧ wr = W) (fun a b _ => (intOf b).toNat - (intOf a).toNat)
  case atStart => exact ⟨0, T.length, by omega, by omega, rfl, rfl, (fun k h => absurd h (by omega)), (fun h => absurd h (by omega)), rfl⟩
  case round =>
    obtain ⟨i, j, hij, hjn, rfl, rfl, hI, hJ, rfl⟩ := hrel
    by_cases hlt : i < j
    · obtain ⟨m, hm⟩ : ∃ m : Nat, m = (i + j) / 2 := ⟨_, rfl⟩
      have hml : m < T.length := by omega
      have hmi : (m : Int) < T.length := by omega
      have hh1 : ((i : Int) + j) / 2 = (m : Int) := by omega
      have hm1 : i ≤ m ∧ m < j := by omega
      obtain ⟨g, o, rfl, hg, c0⟩ := HR.out m hml
      have hgd := getD_lt hml
      obtain ⟨x, hx⟩ : ∃ x, x = T[m] := ⟨_, rfl⟩
      rw [← hx] at c0 hgd
      have HG := Lib.hid hgd
      clear hx hgd hm hml
      by_cases hxt : x < t
      · go_wp2_with fail
        refine (HL.out _ _).mono ?_
        rintro e w1 ⟨rfl, rfl⟩
        have hd : decide (x < t) = true := decide_eq_true hxt
        go_wp2_with fail
        go_roundw
        case rel => exact ⟨m + 1, j, by omega, hjn, by go_num, rfl, (fun k hk => by
          rcases Nat.lt_succ_iff_lt_or_eq.1 hk with h | rfl
          · have := HS.out k m h (by omega); rw [HG.out] at this; omega
          · rw [HG.out]; exact hxt), hJ, trivial⟩
        case measure => simp [intOf]; omega
      · go_wp2_with fail
        refine (HL.out _ _).mono ?_
        rintro e w1 ⟨rfl, rfl⟩
        have hd : decide (x < t) = false := decide_eq_false (by omega)
        go_wp2_with fail
        go_roundw
        case rel => exact ⟨i, m, by omega, by omega, rfl, rfl, hI, (fun _ => by rw [HG.out]; omega), trivial⟩
        case measure => simp [intOf]; omega
    · obtain rfl : i = j := by omega
      have hid : idx T t = i := idx_of (fun k hk _ => hI.out k hk) hjn hJ.out
      have HE := Lib.hid hid
      have hf : fndB T t = decide (i < T.length ∧ T.getD i 0 = t) := by unfold fndB; rw [hid]
      clear hid
      by_cases hil : i < T.length
      · have hil' : (i : Int) < T.length := by omega
        obtain ⟨g, o, rfl, hg, c0⟩ := HR.out i hil
        have hgd := getD_lt hil
        rw [hgd] at hf
        obtain ⟨x, hx⟩ : ∃ x, x = T[i] := ⟨_, rfl⟩
        rw [← hx] at c0 hf
        clear hx hgd
        by_cases hxt : x = t
        · have HF := Lib.hid (hf.trans (decide_eq_true ⟨hil, hxt⟩))
          subst hxt
          clear hf
          go_wp2_with fail
          refine bodyPost_ret (results_tmp2 rfl _ _ _) rfl ?_
          exact ⟨by rw [HE.out, HF.out]; rfl, rfl⟩
        · have HF := Lib.hid (hf.trans (decide_eq_false (fun h => hxt h.2)))
          have hne : (x == t) = false := by simpa using hxt
          clear hf
          go_wp2_with fail
          refine (HN.out _ _).mono ?_
          rintro e w1 ⟨rfl, rfl⟩
          go_wp2_with fail
          refine bodyPost_ret (results_tmp2 rfl _ _ _) rfl ?_
          exact ⟨by rw [HE.out, HF.out]; rfl, rfl⟩
      · have hil' : ¬ (i : Int) < T.length := by omega
        have HF := Lib.hid (hf.trans (decide_eq_false (fun h => hil h.1)))
        clear hf
        go_wp2_with fail
        refine bodyPost_ret (results_tmp2 rfl _ _ _) rfl ?_
        exact ⟨by rw [HE.out, HF.out]; rfl, rfl⟩
def ArrPost (i j : Int) (W : World) (e : Ending) (W' : World) : Prop := e = .returned (.agg #[.int .i64 i, .int .i64 j]) ∧ Below W.heap.size W W'
set_option maxRecDepth 100000 in
set_option maxHeartbeats 2000000 in
theorem around_any (T : List Int) (A : Option Addr) (ca : Nat) (t : Int) (W : World) (hr : IRow W W.heap.size A T) (hn : T.length ≤ 32) (hs : ∀ i j, i < j → j < T.length → T.getD i 0 < T.getD j 0) :
    Calls Try.prog 55 #[.slice A T.length ca, .int .i64 t] W (ArrPost (if fndB T t = true then (idx T t : Int) else (idx T t : Int) - 1) (idx T t) W) := by
  have HB := Lib.hid (And.intro (below_one W (.cells #[.int .i64 0, .int .i64 0] 93)) (Has.new W 93 #[.int .i64 0, .int .i64 0]))
  have HC := Lib.hid (bsearch_any T A ca t (W.alloc (.cells #[.int .i64 0, .int .i64 0] 93)) (hr.step HB.out.1) hn hs)
  have hi := idx_le T t
  obtain ⟨i, hid⟩ : ∃ i, i = idx T t := ⟨_, rfl⟩
  rw [← hid] at HC hi ⊢
  cases hf : fndB T t <;> rw [hf] at HC
  · have HX := Lib.hid (show (if false = true then (i : Int) else (i : Int) - 1) = (i : Int) - 1 from rfl)
    clear hr hs hid hf
    go_enter Try.func55, Try.ntmps55
    go_wp2_with fail
    refine HC.out.mono ?_
    rintro e w1 ⟨rfl, rfl⟩
    have f0 := HB.out.2.frozen 0
    go_wp2_with fail
    refine bodyPost_ret (v := .agg #[.int .i64 ((i : Int) - 1), .int .i64 i]) (by simp [results, Try.results55, go_sem]) rfl ?_
    exact ⟨rfl, below_one W _⟩
  · have HX := Lib.hid (show (if true = true then (i : Int) else (i : Int) - 1) = (i : Int) from rfl)
    clear hr hs hid hf
    go_enter Try.func55, Try.ntmps55
    go_wp2_with fail
    refine HC.out.mono ?_
    rintro e w1 ⟨rfl, rfl⟩
    have f0 := HB.out.2.frozen 0
    go_wp2_with fail
    refine bodyPost_ret (v := .agg #[.int .i64 i, .int .i64 i]) (by simp [results, Try.results55, go_sem]) rfl ?_
    exact ⟨rfl, below_one W _⟩
theorem prod_bd {x y m n : Int} (hx : 0 ≤ x ∧ x ≤ m) (hy : 0 ≤ y ∧ y ≤ n) : 0 ≤ x * y ∧ x * y ≤ m * n := ⟨Int.mul_nonneg hx.1 hy.1, Int.mul_le_mul hx.2 hy.2 hy.1 (by omega)⟩
set_option maxRecDepth 100000 in
set_option maxHeartbeats 2000000 in
theorem holds_any (a : Air) (A B : Option Addr) (ca cb : Nat) (t : Int) (W : World) (h : AR W W.heap.size a A B) (hv : VA a) (ho : onB a t = true) : Calls Try.prog 34 #[airv a A B ca cb, .int .i64 t] W (IntPost (holdsP a t) W) := by
  have HB := Lib.hid (And.intro (below_one W (.cells (airc a A B ca cb) 26)) (box_air W a A B ca cb))
  have hat := at_of hv ho
  have HC := Lib.hid (around_any a.T A ca t _ (h.t.step HB.out.1) hv.n.2 (fun i j hij hj => hv.lt hij hj))
  obtain ⟨i, hi⟩ : ∃ i, i = idx a.T t := ⟨_, rfl⟩
  have hilt : i < a.T.length := by rw [hi]; exact hat.lt
  have hilh : i < a.H.length := by have := hv.l; omega
  have hf : fndB a.T t = decide (a.T.getD i 0 = t) := by
    unfold fndB; rw [← hi]; simp [hilt]
  rw [hf] at HC
  have hn := hv.n; have hR := hv.R
  by_cases he : a.T.getD i 0 = t
  · rw [decide_eq_true he, if_pos rfl, ← hi] at HC
    have HE := Lib.hid (show holdsP a t = a.H[i] * a.R by unfold holdsP; rw [← hi, if_pos he, getD_lt hilh])
    have hb := prod_bd (x := a.H[i]) (y := a.R) (m := 100000) (n := 1048576) (by have := hv.h i hilt; rw [getD_lt hilh] at this; omega) (by omega)
    have HR := Lib.hid (And.intro h.t h.h)
    clear h hv ho hat hi hf he
    unfold airv
    go_enter Try.func34, Try.ntmps34
    go_wp2_with fail
    refine HC.out.mono ?_
    rintro e w1 ⟨rfl, hb1⟩
    have HX := Lib.hid (And.intro (below_seq HB.out.1 hb1) (HB.out.2.below hb1 HB.out.2.lt))
    have c0 : w1.cell? ⟨W.heap.size, 0, none⟩ = some (.int .i64 a.R) := HX.out.2.cell 0
    have c1 : w1.cell? ⟨W.heap.size, 1, none⟩ = some (.slice A a.T.length ca) := HX.out.2.cell 1
    have c2 : w1.cell? ⟨W.heap.size, 2, none⟩ = some (.slice B a.H.length cb) := HX.out.2.cell 2
    obtain ⟨g, o, rfl, hg, d0⟩ := HR.out.1.below HX.out.1 i hilt
    obtain ⟨g', o', rfl, hg', d1⟩ := HR.out.2.below HX.out.1 i hilh
    have hgs : g < w1.heap.size := by have := HX.out.1.size; omega
    have hgs' : g' < w1.heap.size := by have := HX.out.1.size; omega
    have hws : W.heap.size < w1.heap.size := HX.out.2.lt
    have i1 : (i : Int) < a.T.length := by omega
    have i2 : (i : Int) < a.H.length := by omega
    clear hb1
    obtain ⟨x, hx⟩ : ∃ x, x = a.T[i] := ⟨_, rfl⟩
    obtain ⟨y, hy⟩ : ∃ y, y = a.H[i] := ⟨_, rfl⟩
    rw [← hx] at d0
    rw [← hy] at d1 HE hb
    clear hx hy
    go_wp2_with fail
    go_quiet (fail)
    go_wp2_with fail
    go_quiet (fail)
    go_wp2_with fail
    go_ret
    exact ⟨by rw [HE.out]; rfl, below_drN (HX.out.1.alloc (Nat.le_of_lt hws) _) _⟩
  · rw [decide_eq_false he, if_neg (by simp), ← hi] at HC
    have hp := hat.pos (by rw [← hi]; exact he)
    rw [← hi] at hp
    obtain ⟨j, hj⟩ : ∃ j, i = j + 1 := ⟨i - 1, by omega⟩
    have hjlt : j < a.T.length := by omega
    have hjlh : j < a.H.length := by omega
    rw [show (i : Int) - 1 = (j : Int) by omega] at HC
    have HE := Lib.hid (show holdsP a t = mid a.H[j] a.H[i] (t - a.T[j]) (a.T[i] - a.T[j]) * a.R by
      unfold holdsP; rw [← hi, if_neg he, show i - 1 = j by omega, getD_lt hilh, getD_lt hjlh, getD_lt hilt, getD_lt hjlt])
    have b1 := hat.before j (by omega)
    have b2 := hat.ge
    have b3 := hv.h i hilt
    have b4 := hv.h j hjlt
    have b5 := (hv.le (i := j) (j := i) (by omega) hilt).2
    have b6 := hv.t i hilt
    have b7 := hv.t j hjlt
    rw [← hi, getD_lt hilt] at b2
    rw [getD_lt hjlt] at b1 b7
    rw [getD_lt hilh] at b3
    rw [getD_lt hjlh] at b4
    rw [getD_lt hilh, getD_lt hjlh] at b5
    rw [getD_lt hilt] at b6
    have HR := Lib.hid (And.intro h.t h.h)
    have HV := Lib.hid hj
    rw [getD_lt hilt] at he
    clear h hv ho hat hi hf hp hj
    unfold airv
    go_enter Try.func34, Try.ntmps34
    go_wp2_with fail
    refine HC.out.mono ?_
    rintro e w1 ⟨rfl, hb1⟩
    have HX := Lib.hid (And.intro (below_seq HB.out.1 hb1) (HB.out.2.below hb1 HB.out.2.lt))
    have c0 : w1.cell? ⟨W.heap.size, 0, none⟩ = some (.int .i64 a.R) := HX.out.2.cell 0
    have c1 : w1.cell? ⟨W.heap.size, 1, none⟩ = some (.slice A a.T.length ca) := HX.out.2.cell 1
    have c2 : w1.cell? ⟨W.heap.size, 2, none⟩ = some (.slice B a.H.length cb) := HX.out.2.cell 2
    obtain ⟨g, o, hA, hg, d0⟩ := HR.out.1.below HX.out.1 i hilt
    obtain ⟨g2, o2, hA2, -, d2⟩ := HR.out.1.below HX.out.1 j hjlt
    subst hA
    simp only [Option.some.injEq, Addr.mk.injEq, and_true] at hA2
    obtain ⟨rfl, rfl⟩ := hA2
    obtain ⟨g', o', hA, hg', d1⟩ := HR.out.2.below HX.out.1 i hilh
    obtain ⟨g3, o3, hA2, -, d3⟩ := HR.out.2.below HX.out.1 j hjlh
    subst hA
    simp only [Option.some.injEq, Addr.mk.injEq, and_true] at hA2
    obtain ⟨rfl, rfl⟩ := hA2
    have hgs : g < w1.heap.size := by have := HX.out.1.size; omega
    have hgs' : g' < w1.heap.size := by have := HX.out.1.size; omega
    have hws : W.heap.size < w1.heap.size := HX.out.2.lt
    have i1 : (i : Int) < a.T.length := by omega
    have i2 : (i : Int) < a.H.length := by omega
    have i3 : (j : Int) < a.T.length := by omega
    have i4 : (j : Int) < a.H.length := by omega
    obtain ⟨x, hx⟩ : ∃ x, x = a.T[i] := ⟨_, rfl⟩
    obtain ⟨y, hy⟩ : ∃ y, y = a.H[i] := ⟨_, rfl⟩
    obtain ⟨u, hu⟩ : ∃ u, u = a.T[j] := ⟨_, rfl⟩
    obtain ⟨v, hv⟩ : ∃ v, v = a.H[j] := ⟨_, rfl⟩
    rw [← hx] at d0 HE b2 b6 he
    rw [← hy] at d1 HE b3 b5
    rw [← hu] at d2 HE b1 b7
    rw [← hv] at d3 HE b4 b5
    have hxu : (u == x) = false := by simp; omega
    have p1 := prod_bd (x := y - v) (y := t - u) (m := 100000) (n := 1000) (by omega) (by omega)
    have p2 := mid_bd (A := v) (B := y) (x := t - u) (y := x - u) b5 (by omega) (by omega) (by omega)
    have p3 := prod_bd (x := mid v y (t - u) (x - u)) (y := a.R) (m := 100000) (n := 1048576) (by omega) (by omega)
    have q6 := Int.tdiv_eq_ediv_of_nonneg (b := x - u) p1.1
    unfold mid at p2 p3 HE
    have q0 : IntKind.i64.wrap (y - v) = y - v := IntWalk.i64_in _ (by omega)
    have q1 : IntKind.i64.wrap (t - u) = t - u := IntWalk.i64_in _ (by omega)
    have q2 : IntKind.i64.wrap ((y - v) * (t - u)) = (y - v) * (t - u) := IntWalk.i64_in _ (by omega)
    have q3 : IntKind.i64.wrap (x - u) = x - u := IntWalk.i64_in _ (by omega)
    have q7 : ¬ x - u = 0 := by omega
    have q4 : IntKind.i64.wrap (v + (y - v) * (t - u) / (x - u)) = v + (y - v) * (t - u) / (x - u) := IntWalk.i64_in _ (by omega)
    have q8 : IntKind.i64.wrap ((y - v) * (t - u) / (x - u)) = (y - v) * (t - u) / (x - u) := IntWalk.i64_in _ (by omega)
    have q5 : IntKind.i64.wrap ((v + (y - v) * (t - u) / (x - u)) * a.R) = (v + (y - v) * (t - u) / (x - u)) * a.R := IntWalk.i64_in _ (by omega)
    clear hb1 hx hy hu hv p1 p2 p3 he
    go_wp2_with fail
    go_quiet (fail)
    go_wp2_with fail
    go_quiet (fail)
    go_wp2_with fail
    go_quiet (fail)
    go_wp2_with fail
    go_ret
    exact ⟨by rw [HE.out]; rfl, below_drN (below_drN (HX.out.1.alloc (Nat.le_of_lt hws) _) _) _⟩
end Go.Proofs.Ytdmpkeaanaoeaaa
