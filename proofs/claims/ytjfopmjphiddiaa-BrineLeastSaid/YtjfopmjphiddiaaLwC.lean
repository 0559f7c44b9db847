/- The law of Reuse: no other way buys less. -/
import Derived.Test.YtjfopmjphiddiaaOpA
namespace Go.Proofs.Ytjfopmjphiddiaa
open Go.RowKit Go.Shelf
/-- what came is what was used, is stored, or went into the air -/
theorem hrs_all {room start : Int} {comes needs : List Int} (hn : needs.length = comes.length) (k : Nat) (hk : k ≤ comes.length) :
    start + sumI (comes.take k) = sumI (needs.take k) - sumI (hrs room start ((comes.zip needs).take k)).b + (hrs room start ((comes.zip needs).take k)).h + (hrs room start ((comes.zip needs).take k)).a := by
  induction k with
  | zero => simp [hrs, sumI]
  | succ k ih =>
    have hlt : k < (comes.zip needs).length := by simp; omega
    have i1 := ih (by omega)
    rw [hrs_take room start _ k hlt, sumI_take comes k (by omega), sumI_take needs k (by omega)]
    rw [List.getElem_zip]
    generalize hrs room start ((comes.zip needs).take k) = s at i1
    simp only [hour, sumI_snoc]
    omega
theorem reErr_all {comes needs : List Int} {start room : Int} (h : reErr comes needs start room = 0) : (∀ x ∈ comes, 0 ≤ x ∧ x ≤ 1099511627776) ∧ (∀ x ∈ needs, 0 ≤ x ∧ x ≤ 1099511627776) := by
  unfold reErr at h
  split at h
  · omega
  split at h
  · omega
  split at h
  · omega
  rename_i h1 h2 h3
  simp only [Bool.not_eq_false, Bool.and_eq_true, decide_eq_true_eq, List.all_eq_true, hB] at h3
  exact ⟨fun x hx => by have := h3.1.1.1.1 x hx; omega, fun x hx => by have := h3.1.1.1.2 x hx; omega⟩
theorem hrs_ext (room : Int) (l : List (Int × Int)) (s0 : Rs) : ∃ tl, (l.foldl (hour room) s0).b = s0.b ++ tl := by
  induction l generalizing s0 with
  | nil => exact ⟨[], by simp⟩
  | cons x l ih =>
    obtain ⟨tl, h⟩ := ih (hour room s0 x)
    exact ⟨(x.2 - min (s0.h + x.1) x.2) :: tl, by rw [List.foldl_cons, h]; simp [hour]⟩
theorem hrs_pre {room start : Int} {l : List (Int × Int)} (h : okH l) (h0 : 0 ≤ start) (h1 : start ≤ room) (h2 : room ≤ 4294967296) (k : Nat) (hk : k ≤ l.length) :
    (hrs room start l).b.take k = (hrs room start (l.take k)).b := by
  have hb := (hrs_bd h h0 h1 h2 k hk).1
  obtain ⟨tl, e⟩ := hrs_ext room (l.drop k) (hrs room start (l.take k))
  have : hrs room start l = (l.drop k).foldl (hour room) (hrs room start (l.take k)) := by
    unfold hrs
    rw [← List.foldl_append, List.take_append_drop]
  rw [this, e, List.take_append_of_le_length (by omega), List.take_of_length_le (by omega)]
set_option maxRecDepth 100000 in
set_option maxHeartbeats 4000000 in
theorem leastLaw_any (comes needs by_ : List Int) (start room : Int) (A A' A4 : Option Addr) (cap cap' cap4 : Nat) (W : World) (hr : IRow W W.heap.size A comes) (hr' : IRow W W.heap.size A' needs) (hr4 : URow W W.heap.size A4 by_) (hl : comes.length ≤ 9223372036854775807) (hl' : needs.length ≤ 9223372036854775807) (hl4 : by_.length ≤ 9223372036854775807) (hw4 : ∀ s ∈ by_, 0 ≤ s ∧ s ≤ 4294967295) :
    Calls Try.prog 9 #[.slice A comes.length cap, .slice A' needs.length cap', .int .i64 start, .int .i64 room, .slice A4 by_.length cap4] W fun e W' => e = .returned (.bool true) ∧ Below W.heap.size W W' := by
  have HR := Lib.hid (And.intro hr (And.intro hr' (And.intro hr4 hw4)))
  clear hr hr' hr4 hw4
  by_cases hx : 60 < comes.length ∨ 210 < needs.length ∨ by_.length = 0
  · have hex : ((60 : Int) < comes.length) ∨ (¬ (60 : Int) < comes.length ∧ (210 : Int) < needs.length) ∨ (¬ (60 : Int) < comes.length ∧ ¬ (210 : Int) < needs.length ∧ ((by_.length : Int) == 0) = true) := by
      simp only [beq_iff_eq]; omega
    clear hx
    rcases hex with h1 | ⟨h1, h2⟩ | ⟨h1, h2, h3⟩
    all_goals
      go_enter Try.func9, Try.ntmps9
      go_wp2_with fail
      refine (alive_any _).mono ?_
      rintro e wb ⟨rfl, hb⟩
      go_wp2_with fail
      go_ret
      exact ⟨rfl, hb⟩
  have h1 : ¬ (60 : Int) < comes.length := by omega
  have h2 : ¬ (210 : Int) < needs.length := by omega
  have h3 : ((by_.length : Int) == 0) = false := by
    rw [Bool.eq_false_iff]; simp; intro h; apply hx; simp [h]
  have hby : 0 < by_.length := by omega
  clear hx
  by_cases hE : reErr comes needs start room = 0
  case neg =>
    obtain ⟨c, hc⟩ : ∃ c, c = reErr comes needs start room := ⟨_, rfl⟩
    have hX := Lib.hid (reuse_err hc.symm (by omega))
    have hq : (c != 0) = true := by simp; omega
    clear hE hc
    go_enter Try.func9, Try.ntmps9
    go_wp2_with fail
    refine (reuse_any comes needs start room A A' cap cap' W HR.out.1 HR.out.2.1 hl).mono ?_
    rw [hX.out]
    rintro e w1 ⟨A1, cap1, rfl, hb1, hI1⟩
    have H1 := Lib.hid hb1
    clear hb1 hI1
    go_wp2_with fail
    refine (alive_any _).mono ?_
    rintro e wb ⟨rfl, hb⟩
    have HB := Lib.hid (H1.out.trans (hb.mono H1.out.size))
    clear hb
    go_wp2_with fail
    go_ret
    exact ⟨rfl, HB.out⟩
  obtain ⟨-, hn, hok, hs0, hs1, hr2⟩ := reErr_ok hE
  have hae := Lib.hid (reErr_all hE)
  have hRR : reuseR comes needs start room = (hrs room start (comes.zip needs), 0) := by unfold reuseR; rw [if_pos hE]
  have hzl : (comes.zip needs).length = comes.length := by simp [hn]
  have hbd := hrs_bd hok hs0 hs1 hr2 comes.length (by omega)
  rw [List.take_of_length_le (by omega)] at hbd
  have hall := hrs_all (room := room) (start := start) hn comes.length (Nat.le_refl _)
  rw [List.take_of_length_le (by omega), List.take_of_length_le (by omega), List.take_of_length_le (by omega)] at hall
  obtain ⟨L, hL⟩ : ∃ L, L = comes.zip needs := ⟨_, rfl⟩
  rw [← hL] at hRR hzl hbd hok hall
  obtain ⟨s, hs⟩ : ∃ s, s = hrs room start L := ⟨_, rfl⟩
  rw [← hs] at hRR hbd hall
  have hq1 : ((s.b.length : Int) != (comes.length : Int)) = false := by simp [hbd.1]
  have hq2 : ((needs.length : Int) != (comes.length : Int)) = false := by simp [hn]
  have hq3 : decide (start < 0) = false := by simp; omega
  have hq4 : decide (room < start) = false := by simp; omega
  have HX := Lib.hid (And.intro hRR (And.intro hzl (And.intro hbd (And.intro hok (And.intro hall (And.intro hL (And.intro hs hn)))))))
  clear hRR hzl hbd hok hall hL hs hn hE
  go_enter Try.func9, Try.ntmps9
  go_wp2_with fail
  refine (reuse_any comes needs start room A A' cap cap' W HR.out.1 HR.out.2.1 hl).mono ?_
  rw [HX.out.1]
  rintro e w1 ⟨A1, cap1, rfl, hb1, hI1⟩
  have H1 := Lib.hid (And.intro hb1 hI1)
  clear hb1 hI1
  go_wp2_with fail
  go_loopw [88, 15, 16, 17, 18, 19] (fun i vg vs vm vu vc wr => ∃ k : Nat, ∃ g sm : Int, k ≤ comes.length ∧ i = .int .i64 k ∧ vg = .int .i64 g ∧ vs = .int .i64 sm ∧ vm = .int .i64 (sumI (s.b.take k)) ∧ vu = .int .i64 (sumI (needs.take k) - sumI (s.b.take k)) ∧ vc = .int .i64 (start + sumI (comes.take k)) ∧ (0 ≤ g ∧ g ≤ room) ∧ (0 ≤ sm ∧ sm ≤ k * 4294967296) ∧ Hid (sumI (s.b.take k) ≤ sm ∧ sumI (s.b.take k) + g - (hrs room start (L.take k)).h ≤ sm ∧ Below w1.heap.size w1 wr)) (fun i _ _ _ _ _ _ => comes.length - (intOf i).toNat)
  case atStart => exact ⟨0, start, 0, Nat.zero_le _, rfl, rfl, rfl, rfl, rfl, by simp [sumI], ⟨hs0, hs1⟩, by simp, by simp [sumI], by simp [sumI, hrs], Below.refl _ _⟩
  case round =>
    obtain ⟨k, g, sm, hk, rfl, rfl, rfl, rfl, rfl, rfl, ⟨hg0, hg1⟩, ⟨hm0, hm1⟩, HI⟩ := hrel
    by_cases hlt : k < comes.length
    · have hlt' : (k : Int) < comes.length := by omega
      have hnt : k < needs.length := by have := HX.out.2.2.2.2.2.2.2; omega
      have hnt' : (k : Int) < needs.length := by omega
      have hLk : k < L.length := by have := HX.out.2.1; omega
      have hbk : k < s.b.length := by have := HX.out.2.2.1.1; omega
      have hbk' : (k : Int) < s.b.length := by omega
      have hbd := hrs_bd HX.out.2.2.2.1 hs0 hs1 hr2 k (by omega)
      obtain ⟨-, ⟨b2, b3⟩, -, -⟩ := hbd
      have hxb := HX.out.2.2.2.1 _ (List.getElem_mem hLk)
      have hnext := hrs_take room start L k hLk
      have hp1 := hrs_pre HX.out.2.2.2.1 hs0 hs1 hr2 k (by omega)
      have hp2 := hrs_pre HX.out.2.2.2.1 hs0 hs1 hr2 (k + 1) (by omega)
      rw [← HX.out.2.2.2.2.2.2.1] at hp1 hp2
      have hst := sumI_take s.b k hbk
      have hst2 : sumI (s.b.take (k + 1)) = sumI (hrs room start (L.take (k + 1))).b := by rw [hp2]
      have hst3 : sumI (s.b.take k) = sumI (hrs room start (L.take k)).b := by rw [hp1]
      have hLx : L[k] = (comes[k], needs[k]) := by
        have e := HX.out.2.2.2.2.2.1
        subst e
        rw [List.getElem_zip]
      rw [hLx] at hxb hnext
      rw [hnext] at hst2
      simp only [hour, sumI_snoc] at hst2
      rw [← hst3] at hst2
      have hMb := sumI_bd s.b k (by omega) (fun x hx => by have := HX.out.2.2.1.2.2.2 x hx; omega)
      have hNb := sumI_bd needs k (by omega) hae.out.2
      have hCb := sumI_bd comes k (by omega) hae.out.1
      have hnh : (hrs room start (L.take (k + 1))).h = min room ((hrs room start (L.take k)).h + comes[k] - min ((hrs room start (L.take k)).h + comes[k]) needs[k]) := by rw [hnext]; rfl
      have hsn := sumI_take needs k hnt
      have hsc := sumI_take comes k hlt
      obtain ⟨gg, o, eA, hg, d0⟩ := (HR.out.1.below (H1.out.1.trans (HI.out.2.2.mono H1.out.1.size))) k hlt
      obtain ⟨g', o', eA', hg', d1⟩ := (HR.out.2.1.below (H1.out.1.trans (HI.out.2.2.mono H1.out.1.size))) k hnt
      obtain ⟨g2, o2, eA2, hg2, d2⟩ := (H1.out.2.below HI.out.2.2) k hbk
      have hq0 : k % by_.length < by_.length := Nat.mod_lt _ hby
      have hq1 : (k + 1) % by_.length < by_.length := Nat.mod_lt _ hby
      obtain ⟨g4, o4, eA4, hg4, d4⟩ := (HR.out.2.2.1.below (H1.out.1.trans (HI.out.2.2.mono H1.out.1.size))) (k % by_.length) hq0
      obtain ⟨g5, o5, eA5, -, d5⟩ := (HR.out.2.2.1.below (H1.out.1.trans (HI.out.2.2.mono H1.out.1.size))) 0 hby
      obtain ⟨g6, o6, eA6, -, d6⟩ := (HR.out.2.2.1.below (H1.out.1.trans (HI.out.2.2.mono H1.out.1.size))) ((k + 1) % by_.length) hq1
      rw [eA4] at eA5 eA6
      obtain ⟨rfl, rfl⟩ : g4 = g5 ∧ o4 = o5 := by simpa using eA5
      obtain ⟨rfl, rfl⟩ : g4 = g6 ∧ o4 = o6 := by simpa using eA6
      have hwr := HI.out.2.2.size
      have hwr1 := H1.out.1.size
      have l1 : gg < wr.heap.size := by omega
      have l2 : g' < wr.heap.size := by omega
      have l3 : g2 < wr.heap.size := by omega
      have l4 : g4 < wr.heap.size := by omega
      have u1 := HR.out.2.2.2 _ (List.getElem_mem hq0)
      have u2 := HR.out.2.2.2 _ (List.getElem_mem hby)
      have u3 := HR.out.2.2.2 _ (List.getElem_mem hq1)
      clear eA5 eA6 hg hg' hg2 hg4 hLx hp1 hp2 hst3
      subst eA eA' eA2 eA4
      obtain ⟨c, hc⟩ : ∃ c, c = comes[k] := ⟨_, rfl⟩
      obtain ⟨n, hn⟩ : ∃ n, n = needs[k] := ⟨_, rfl⟩
      obtain ⟨b, hb⟩ : ∃ b, b = s.b[k] := ⟨_, rfl⟩
      obtain ⟨y1, hy1⟩ : ∃ y, y = by_[k % by_.length] := ⟨_, rfl⟩
      obtain ⟨y2, hy2⟩ : ∃ y, y = by_[0] := ⟨_, rfl⟩
      obtain ⟨y3, hy3⟩ : ∃ y, y = by_[(k + 1) % by_.length] := ⟨_, rfl⟩
      rw [← hc] at d0 hxb hst2 hnh hsc
      rw [← hn] at d1 hxb hst2 hnh hsn
      rw [← hb] at d2 hst
      rw [← hy1] at d4 u1
      rw [← hy2] at d5 u2
      rw [Nat.add_zero] at d5
      rw [← hy3] at d6 u3
      obtain ⟨⟨x1, x2⟩, x3, x4⟩ := hxb
      obtain ⟨h, hh⟩ : ∃ h, h = (hrs room start (L.take k)).h := ⟨_, rfl⟩
      obtain ⟨h1', hh1⟩ : ∃ h, h = (hrs room start (L.take (k + 1))).h := ⟨_, rfl⟩
      rw [← hh] at b2 b3 hst2 hnh HI
      rw [← hh1] at hnh
      obtain ⟨M, hM⟩ : ∃ M, M = sumI (s.b.take k) := ⟨_, rfl⟩
      obtain ⟨M', hM'⟩ : ∃ M, M = sumI (s.b.take (k + 1)) := ⟨_, rfl⟩
      obtain ⟨N, hN⟩ : ∃ M, M = sumI (needs.take k) := ⟨_, rfl⟩
      obtain ⟨N', hN'⟩ : ∃ M, M = sumI (needs.take (k + 1)) := ⟨_, rfl⟩
      obtain ⟨C, hC⟩ : ∃ M, M = sumI (comes.take k) := ⟨_, rfl⟩
      obtain ⟨C', hC'⟩ : ∃ M, M = sumI (comes.take (k + 1)) := ⟨_, rfl⟩
      rw [← hM] at hst hst2 hMb HI ⊢
      rw [← hM'] at hst hst2
      rw [← hN] at hsn hNb ⊢
      rw [← hN'] at hsn
      rw [← hC] at hsc hCb ⊢
      rw [← hC'] at hsc
      have hbn : b = n - min (h + c) n := by omega
      have hb0 : 0 ≤ b ∧ b ≤ n := by omega
      have q15a : decide (c < 0) = false := by simp; omega
      have q15b : decide (n < 0) = false := by simp; omega
      have q15c : decide (b < 0) = false := by simp; omega
      have q15d : decide (n < b) = false := by simp; omega
      obtain ⟨m, hm⟩ : ∃ m, m = min (g + c) n := ⟨_, rfl⟩
      have hmb : 0 ≤ m ∧ m ≤ n ∧ m ≤ g + c := by omega
      have hmI : (if n < g + c then n else g + c) = m := by split <;> omega
      obtain ⟨q, hq⟩ : ∃ q, q = k % by_.length := ⟨_, rfl⟩
      obtain ⟨q', hq'⟩ : ∃ q, q = (k + 1) % by_.length := ⟨_, rfl⟩
      have t1 : (k : Int).tmod by_.length = (q : Int) := by rw [Int.tmod_eq_emod_of_nonneg (by omega), hq]; rfl
      have t2 : ((k : Int) + 1).tmod by_.length = (q' : Int) := by rw [Int.tmod_eq_emod_of_nonneg (by omega), hq']; rfl
      rw [← hq] at d4 hq0
      rw [← hq'] at d6 hq1
      have hq0' : (q : Int) < by_.length := by omega
      have hq1' : (q' : Int) < by_.length := by omega
      have hby' : (0 : Int) < by_.length := by omega
      have hby2 : (by_.length : Int) ≠ 0 := by omega
      have wm : IntKind.i64.wrap (m + 1) = m + 1 := IntWalk.i64_in _ (by omega)
      have wy1 : IntKind.i64.wrap y1 = y1 := IntWalk.i64_in _ (by omega)
      have wy3 : IntKind.i64.wrap y3 = y3 := IntWalk.i64_in _ (by omega)
      have hmne : ¬ m + 1 = 0 := by omega
      have hbne : ¬ by_ = [] := by intro h; simp [h] at hby
      obtain ⟨v1, hv1⟩ : ∃ v, v = y1 % (m + 1) := ⟨_, rfl⟩
      have hv1b : 0 ≤ v1 ∧ v1 ≤ m := by
        rw [hv1]
        have a := Int.emod_nonneg y1 (show m + 1 ≠ 0 by omega)
        have b := Int.emod_lt_of_pos y1 (show 0 < m + 1 by omega)
        omega
      have t3 : y1.tmod (m + 1) = v1 := by rw [Int.tmod_eq_emod_of_nonneg (by omega), hv1]
      have hm1 : m + 1 ≠ 0 := by omega
      obtain ⟨v3, hv3⟩ : ∃ v, v = y3 % 5 := ⟨_, rfl⟩
      have hv3b : 0 ≤ v3 ∧ v3 < 5 := by omega
      have t5 : y3.tmod 5 = v3 := by rw [Int.tmod_eq_emod_of_nonneg (by omega), hv3]
      obtain ⟨v2, hv2⟩ : ∃ v, v = y2 % 3 := ⟨_, rfl⟩
      have hv2b : 0 ≤ v2 ∧ v2 < 3 := by omega
      have t4 : y2.tmod 3 = v2 := by rw [Int.tmod_eq_emod_of_nonneg (by omega), hv2]
      have HY := Lib.hid (And.intro HI.out (And.intro hst (And.intro hst2 (And.intro hnh (And.intro hsn (And.intro hsc (And.intro hh1 (And.intro hM' (And.intro hN' hC')))))))))
      have HB2 := Lib.hid (And.intro hbn hm)
      clear HI hst hst2 hnh hsn hsc hh hh1 hM hM' hN hN' hC hC' hbn hm hq hq' hv1 hv2 hv3 hnext hc hn hb hy1 hy2 hy3
      go_wp2_with fail
      go_quiet (fail)
      go_wp2_with fail
      refine still_all (by kernel_rfl) (by kernel_rfl) ?_
      repeat still_step
      refine wpStill_nil ?_
      by_cases h18 : 0 < v2
      · have hm : 0 ≤ m ∧ m ≤ m := by omega
        obtain ⟨r20, hr20⟩ : ∃ r, r = min room (g + c - m) := ⟨_, rfl⟩
        have hr20I : (if g + c - m < room then g + c - m else room) = r20 := by split <;> omega
        have hr20b : 0 ≤ r20 ∧ r20 ≤ room ∧ r20 ≤ g + c - m := by omega
        obtain ⟨g1, hg1'⟩ : ∃ r, r = max 0 (r20 - v3) := ⟨_, rfl⟩
        have hg1I : (if v3 < r20 then r20 - v3 else 0) = g1 := by split <;> omega
        have hg1b : 0 ≤ g1 ∧ g1 ≤ room ∧ g1 ≤ g + c - m := by omega
        have hls : M + b ≤ sm + n - m ∧ M + b + g1 - h1' ≤ sm + n - m := by
          have e1 := HB2.out.1
          have e2 := HB2.out.2
          have e3 := HY.out.2.2.2.1
          have := least_step (room := room) (h := h) (g := g) (mine := M) (sum := sm) (c := c) (n := n) (v := m) (u := min (h + c) n) (g1 := g1) (h1 := h1') HY.out.1.1 HY.out.1.2.1 rfl e3 (by omega) hg1b.2.1 hg1b.2.2
          omega
        have q23 : decide (sm + n - m < M + b) = false := by simp; omega
        have hsmb : 0 ≤ sm + n - m ∧ sm + n - m ≤ ((k + 1 : Nat) : Int) * 4294967296 := by omega
        have ws1 : IntKind.i64.wrap (sm + n) = sm + n := IntWalk.i64_in _ (by omega)
        have ws2 : IntKind.i64.wrap (sm + n - m) = sm + n - m := IntWalk.i64_in _ (by omega)
        have ws3 : IntKind.i64.wrap (M + b) = M + b := IntWalk.i64_in _ (by omega)
        have ws4 : IntKind.i64.wrap (N - M + n) = N - M + n := IntWalk.i64_in _ (by omega)
        have ws5 : IntKind.i64.wrap (N - M + n - b) = N - M + n - b := IntWalk.i64_in _ (by omega)
        have HL := Lib.hid hls
        clear hls hr20 hg1'
        go_wp2_with fail
        refine still_all (by kernel_rfl) (by kernel_rfl) ?_
        repeat still_step
        refine wpStill_nil ?_
        go_wp2_with fail
        go_roundw
        case rel =>
          have e1 := HY.out.2.1
          have e2 := HY.out.2.2.2.2.1
          have e3 := HY.out.2.2.2.2.2.1
          have f1 := HY.out.2.2.2.2.2.2.2.1
          have f2 := HY.out.2.2.2.2.2.2.2.2.1
          have f3 := HY.out.2.2.2.2.2.2.2.2.2
          refine ⟨k + 1, g1, sm + n - m, by omega, by go_num, rfl, rfl, ?_, ?_, ?_, ⟨hg1b.1, hg1b.2.1⟩, hsmb, ?_⟩
          · rw [← f1, e1]
          · rw [← f1, ← f2]; congr 1; omega
          · rw [← f3]; congr 1; omega
          · rw [← f1, e1, ← HY.out.2.2.2.2.2.2.1]
            exact ⟨HL.out.1, HL.out.2, below_dr (below_dr (below_drewN HY.out.1.2.2 _))⟩
        case measure => simp [intOf]; omega
      · have h18' : decide (0 < v2) = false := by simp; omega
        have hv1 : 0 ≤ v1 ∧ v1 ≤ m := by omega
        obtain ⟨r20, hr20⟩ : ∃ r, r = min room (g + c - v1) := ⟨_, rfl⟩
        have hr20I : (if g + c - v1 < room then g + c - v1 else room) = r20 := by split <;> omega
        have hr20b : 0 ≤ r20 ∧ r20 ≤ room ∧ r20 ≤ g + c - v1 := by omega
        obtain ⟨g1, hg1'⟩ : ∃ r, r = max 0 (r20 - v3) := ⟨_, rfl⟩
        have hg1I : (if v3 < r20 then r20 - v3 else 0) = g1 := by split <;> omega
        have hg1b : 0 ≤ g1 ∧ g1 ≤ room ∧ g1 ≤ g + c - v1 := by omega
        have hls : M + b ≤ sm + n - v1 ∧ M + b + g1 - h1' ≤ sm + n - v1 := by
          have e1 := HB2.out.1
          have e2 := HB2.out.2
          have e3 := HY.out.2.2.2.1
          have := least_step (room := room) (h := h) (g := g) (mine := M) (sum := sm) (c := c) (n := n) (v := v1) (u := min (h + c) n) (g1 := g1) (h1 := h1') HY.out.1.1 HY.out.1.2.1 rfl e3 (by omega) hg1b.2.1 hg1b.2.2
          omega
        have q23 : decide (sm + n - v1 < M + b) = false := by simp; omega
        have hsmb : 0 ≤ sm + n - v1 ∧ sm + n - v1 ≤ ((k + 1 : Nat) : Int) * 4294967296 := by omega
        have ws1 : IntKind.i64.wrap (sm + n) = sm + n := IntWalk.i64_in _ (by omega)
        have ws2 : IntKind.i64.wrap (sm + n - v1) = sm + n - v1 := IntWalk.i64_in _ (by omega)
        have ws3 : IntKind.i64.wrap (M + b) = M + b := IntWalk.i64_in _ (by omega)
        have ws4 : IntKind.i64.wrap (N - M + n) = N - M + n := IntWalk.i64_in _ (by omega)
        have ws5 : IntKind.i64.wrap (N - M + n - b) = N - M + n - b := IntWalk.i64_in _ (by omega)
        have HL := Lib.hid hls
        clear hls hr20 hg1'
        go_wp2_with fail
        refine still_all (by kernel_rfl) (by kernel_rfl) ?_
        repeat still_step
        refine wpStill_nil ?_
        go_wp2_with fail
        go_roundw
        case rel =>
          have e1 := HY.out.2.1
          have e2 := HY.out.2.2.2.2.1
          have e3 := HY.out.2.2.2.2.2.1
          have f1 := HY.out.2.2.2.2.2.2.2.1
          have f2 := HY.out.2.2.2.2.2.2.2.2.1
          have f3 := HY.out.2.2.2.2.2.2.2.2.2
          refine ⟨k + 1, g1, sm + n - v1, by omega, by go_num, rfl, rfl, ?_, ?_, ?_, ⟨hg1b.1, hg1b.2.1⟩, hsmb, ?_⟩
          · rw [← f1, e1]
          · rw [← f1, ← f2]; congr 1; omega
          · rw [← f3]; congr 1; omega
          · rw [← f1, e1, ← HY.out.2.2.2.2.2.2.1]
            exact ⟨HL.out.1, HL.out.2, below_dr (below_dr (below_drewN HY.out.1.2.2 _))⟩
        case measure => simp [intOf]; omega
    · have hk' : ¬ (k : Int) < comes.length := by omega
      have hke : k = comes.length := by omega
      subst hke
      have hT1 : s.b.take comes.length = s.b := List.take_of_length_le (by have := HX.out.2.2.1.1; omega)
      have hT2 : needs.take comes.length = needs := List.take_of_length_le (by have := HX.out.2.2.2.2.2.2.2; omega)
      have hT3 : comes.take comes.length = comes := List.take_of_length_le (by omega)
      rw [hT1, hT2, hT3]
      have hbd := HX.out.2.2.1
      have hMb := sumI_bd s.b comes.length (by omega) (fun x hx => by have := hbd.2.2.2 x hx; omega)
      have hNb := sumI_bd needs comes.length (by have := HX.out.2.2.2.2.2.2.2; omega) hae.out.2
      have hCb := sumI_bd comes comes.length (by omega) hae.out.1
      rw [hT1] at hMb
      rw [hT2] at hNb
      rw [hT3] at hCb
      have hall := HX.out.2.2.2.2.1
      obtain ⟨-, ⟨p1, p2⟩, ⟨p3, p4⟩, -⟩ := hbd
      obtain ⟨M, hM⟩ : ∃ M, M = sumI s.b := ⟨_, rfl⟩
      obtain ⟨N, hN⟩ : ∃ M, M = sumI needs := ⟨_, rfl⟩
      obtain ⟨C, hC⟩ : ∃ M, M = sumI comes := ⟨_, rfl⟩
      rw [← hM] at hMb hall ⊢
      rw [← hN] at hNb hall ⊢
      rw [← hC] at hCb hall ⊢
      have z1 : decide (0 ≤ s.h) = true := by simp; omega
      have z2 : decide (s.h ≤ room) = true := by simp; omega
      have z3 : decide (0 ≤ s.a) = true := by simp; omega
      have z4 : ((start + C) == (N - M + s.h + s.a)) = true := by simp; omega
      have HI2 := Lib.hid (H1.out.1.trans (HI.out.2.2.mono H1.out.1.size))
      clear hall hM hN hC hT1 hT2 hT3 HI
      go_wp2_with fail
      refine (alive_any _).mono ?_
      rintro e wb ⟨rfl, hb⟩
      have HB := Lib.hid (HI2.out.trans (hb.mono HI2.out.size))
      clear hb
      go_wp2_with fail
      go_ret
      exact ⟨rfl, HB.out⟩
end Go.Proofs.Ytjfopmjphiddiaa
