/- The document's Round, counts, Off. -/
import Derived.Test.YtmclchaalmonnaaRfB
namespace Go.Proofs.Ytmclchaalmonnaa
open Go.RowKit Go.Lib
attribute [local irreducible] wpQuiet
set_option maxRecDepth 100000 in
theorem Round_pos (n b : Int) (w : World) (h0 : 0 ≤ n ∧ n ≤ 1000000000000) (h1 : 1 ≤ b ∧ b ≤ 1000000) : Calls Try.prog 64 #[.int .i64 n, .int .i64 b] w fun e w' => e = .returned (.int .i64 (rnd n b)) ∧ w' = w := by
  have hn : ¬ n < 0 := by omega
  have HR : Hid (rnd n b = (2 * n + b) / (2 * b)) := Lib.hid (by unfold rnd; rw [if_neg hn])
  have HT : Hid ((2 * n + b).tdiv (2 * b) = (2 * n + b) / (2 * b)) := Lib.hid (Int.tdiv_eq_ediv_of_nonneg (by omega))
  go_enter Try.func64, Try.ntmps64
  go_wp2_with fail
  go_ret
  exact ⟨ret_int HR.out.symm, rfl⟩
set_option maxRecDepth 100000 in
theorem Round_any (n b : Int) (w : World) (h0 : -1000000000000 ≤ n ∧ n ≤ 1000000000000) (h1 : 1 ≤ b ∧ b ≤ 1000000) : Calls Try.prog 64 #[.int .i64 n, .int .i64 b] w fun e w' => e = .returned (.int .i64 (rnd n b)) ∧ w' = w := by
  by_cases hn : 0 ≤ n
  · exact Round_pos n b w ⟨hn, h0.2⟩ h1
  have hn : n < 0 := by omega
  have HP := Lib.hid (Round_pos (-n) b w (by omega) h1)
  have HR : Hid (rnd n b = -(rnd (-n) b)) := Lib.hid (by unfold rnd; rw [if_pos hn, if_neg (by omega)])
  have hb : 0 ≤ rnd (-n) b ∧ rnd (-n) b ≤ 3000000000000 := by
    unfold rnd
    rw [if_neg (by omega)]
    have h2 : 0 ≤ (2 * -n + b) / (2 * b) := Int.ediv_nonneg (by omega) (by omega)
    have h3 : (2 * -n + b) / (2 * b) ≤ 2 * -n + b := Int.ediv_le_self _ (by omega)
    omega
  generalize rnd (-n) b = q at HP HR hb
  go_enter Try.func64, Try.ntmps64
  go_wp2_with fail
  refine HP.out.mono ?_
  rintro e w2 ⟨rfl, rfl⟩
  go_wp2_with fail
  go_ret
  exact ⟨ret_int HR.out.symm, rfl⟩

theorem perm_sum {l m : List Int} (h : l.Perm m) : l.sum = m.sum := by
  induction h with
  | nil => rfl
  | cons x _ ih => simp only [List.sum_cons, ih]
  | swap x y l => simp only [List.sum_cons]; omega
  | trans _ _ ih1 ih2 => rw [ih1, ih2]
def lmax (l : List Int) (a : Int) : Int := l.foldl max a
def lmin (l : List Int) (a : Int) : Int := l.foldl min a
theorem lmax_spec : ∀ (l : List Int) (a : Int), (a ≤ lmax l a ∧ ∀ x ∈ l, x ≤ lmax l a) ∧ (lmax l a = a ∨ lmax l a ∈ l)
  | [], a => by simp [lmax]
  | b :: l, a => by
    obtain ⟨⟨h1, h2⟩, h3⟩ := lmax_spec l (max a b)
    have e : lmax (b :: l) a = lmax l (max a b) := rfl
    rw [e]
    refine ⟨⟨by omega, fun x hx => ?_⟩, ?_⟩
    · rcases List.mem_cons.1 hx with rfl | hx
      · omega
      · exact h2 x hx
    · rcases h3 with h3 | h3
      · rw [h3]
        rcases Int.le_total a b with h | h
        · right; rw [Int.max_eq_right h]; exact List.mem_cons_self
        · left; rw [Int.max_eq_left h]
      · exact .inr (List.mem_cons_of_mem _ h3)
theorem lmin_spec : ∀ (l : List Int) (a : Int), (lmin l a ≤ a ∧ ∀ x ∈ l, lmin l a ≤ x) ∧ (lmin l a = a ∨ lmin l a ∈ l)
  | [], a => by simp [lmin]
  | b :: l, a => by
    obtain ⟨⟨h1, h2⟩, h3⟩ := lmin_spec l (min a b)
    have e : lmin (b :: l) a = lmin l (min a b) := rfl
    rw [e]
    refine ⟨⟨by omega, fun x hx => ?_⟩, ?_⟩
    · rcases List.mem_cons.1 hx with rfl | hx
      · omega
      · exact h2 x hx
    · rcases h3 with h3 | h3
      · rw [h3]
        rcases Int.le_total a b with h | h
        · left; rw [Int.min_eq_left h]
        · right; rw [Int.min_eq_right h]; exact List.mem_cons_self
      · exact .inr (List.mem_cons_of_mem _ h3)
/-- the marks that count, by the greatest and the least -/
theorem mid_sum {l : List Int} {a : Int} (ha : l[0]? = some a) (h5 : 5 ≤ l.length) : (mid l).sum = l.sum - lmax l a - lmin l a := by
  have hp := srt_perm l
  have hs := srt_sorted l
  have hl := srt_length l
  have hsum : (srt l).sum = l.sum := perm_sum hp
  have ham : a ∈ l := List.mem_of_getElem? ha
  unfold mid
  rw [if_pos h5]
  obtain ⟨s, hse⟩ : ∃ s, s = srt l := ⟨_, rfl⟩
  rw [← hse] at hp hs hl hsum ⊢
  have h0 : 0 < s.length := by omega
  have e1 : s.take (l.length - 1) ++ [s[s.length - 1]] = s := by
    have := List.take_append_getElem (l := s) (i := s.length - 1) (by omega)
    rw [show s.length - 1 + 1 = s.length by omega, List.take_of_length_le (Nat.le_refl _)] at this
    rw [← hl]; exact this
  have e2 : [s[0]] ++ (s.take (l.length - 1)).drop 1 = s.take (l.length - 1) := by
    have h1 : 0 < (s.take (l.length - 1)).length := by rw [List.length_take]; omega
    have h2 := List.drop_eq_getElem_cons (l := s.take (l.length - 1)) (i := 0) h1
    rw [List.drop_zero] at h2
    rw [List.getElem_take] at h2
    exact h2.symm
  have e3 : s.sum = s[0] + ((s.take (l.length - 1)).drop 1).sum + s[s.length - 1] := by
    conv => lhs; rw [← e1, ← e2]
    rw [List.sum_append, List.sum_append, List.sum_singleton, List.sum_singleton]
  have hmx : s[s.length - 1] = lmax l a := by
    obtain ⟨⟨h1, h2⟩, h3⟩ := lmax_spec l a
    have hm : lmax l a ∈ s := hp.mem_iff.2 (by rcases h3 with h3 | h3; (· rw [h3]; exact ham); exact h3)
    obtain ⟨i, hi, he⟩ := List.getElem_of_mem hm
    have h4 : s[i] ≤ s[s.length - 1] := by
      rcases Nat.lt_or_ge i (s.length - 1) with h | h
      · exact (List.pairwise_iff_getElem.1 hs) i (s.length - 1) hi (by omega) h
      · have : i = s.length - 1 := by omega
        subst this; exact Int.le_refl _
    have h5 := h2 _ (hp.mem_iff.1 (List.getElem_mem (l := s) (n := s.length - 1) (by omega)))
    omega
  have hmn : s[0] = lmin l a := by
    obtain ⟨⟨h1, h2⟩, h3⟩ := lmin_spec l a
    have hm : lmin l a ∈ s := hp.mem_iff.2 (by rcases h3 with h3 | h3; (· rw [h3]; exact ham); exact h3)
    obtain ⟨i, hi, he⟩ := List.getElem_of_mem hm
    have h4 : s[0] ≤ s[i] := by
      rcases Nat.eq_zero_or_pos i with h | h
      · subst h; exact Int.le_refl _
      · exact (List.pairwise_iff_getElem.1 hs) 0 i h0 hi h
    have h5 := h2 _ (hp.mem_iff.1 (List.getElem_mem (l := s) (n := 0) h0))
    omega
  omega
theorem mid_sum' {l : List Int} (h5 : ¬ 5 ≤ l.length) : (mid l).sum = l.sum := by
  unfold mid; rw [if_neg h5]; exact perm_sum (srt_perm l)
/-- two numbers -/
def TwoPost (a b : Int) (W : World) (e : Ending) (W' : World) : Prop := e = .returned (.tuple #[.int .i64 a, .int .i64 b]) ∧ Below W.heap.size W W'
theorem two_ret {a b c d : Int} (h1 : a = c) (h2 : b = d) : Ending.returned (.tuple #[.int .i64 a, .int .i64 b]) = .returned (.tuple #[.int .i64 c, .int .i64 d]) := by rw [h1, h2]
theorem fold_bd {l : List Int} {a : Int} (ha : a ∈ l) (h : ∀ x ∈ l, -1000 ≤ x ∧ x ≤ 1000) (k : Nat) : (-1000 ≤ lmax (l.take k) a ∧ lmax (l.take k) a ≤ 1000) ∧ (-1000 ≤ lmin (l.take k) a ∧ lmin (l.take k) a ≤ 1000) := by
  have h1 := lmax_spec (l.take k) a
  have h2 := lmin_spec (l.take k) a
  have h3 := h a ha
  refine ⟨?_, ?_⟩
  · rcases h1.2 with e | e
    · rw [e]; exact h3
    · exact h _ (List.mem_of_mem_take e)
  · rcases h2.2 with e | e
    · rw [e]; exact h3
    · exact h _ (List.mem_of_mem_take e)
theorem lmax_succ {l : List Int} {k : Nat} (h : k < l.length) (a : Int) : lmax (l.take (k + 1)) a = max (lmax (l.take k) a) l[k] := by
  unfold lmax; rw [List.take_succ_eq_append_getElem h, List.foldl_append]; rfl
theorem lmin_succ {l : List Int} {k : Nat} (h : k < l.length) (a : Int) : lmin (l.take (k + 1)) a = min (lmin (l.take k) a) l[k] := by
  unfold lmin; rw [List.take_succ_eq_append_getElem h, List.foldl_append]; rfl
set_option maxRecDepth 100000 in
set_option maxHeartbeats 2000000 in
theorem counts_any (l : List Int) (A : Option Addr) (c : Nat) (W : World) (ha : IRow W W.heap.size A l) (h1 : 1 ≤ l.length) (h9 : l.length ≤ 9) (hb : ∀ x ∈ l, -1000 ≤ x ∧ x ≤ 1000) :
    Calls Try.prog 63 #[.slice A l.length c] W (TwoPost (mid l).sum (mid l).length W) := by
  obtain ⟨g, o, rfl, hg, hc0⟩ := ha 0 (by omega)
  obtain ⟨a, haa⟩ : ∃ a, a = l[0] := ⟨_, rfl⟩
  rw [← haa] at hc0
  have ha0 : l[0]? = some a := by rw [haa]; exact List.getElem?_eq_getElem (by omega)
  have ham : a ∈ l := List.mem_of_getElem? ha0
  have HA := Lib.hid (show ∀ w, Below W.heap.size W w → ∀ k (h : k < l.length), w.cell? ⟨g, o + k, none⟩ = some (.int .i64 l[k]) from fun w hw k h => by obtain ⟨g', o', e, -, h'⟩ := (ha.below hw) k h; cases e; exact h')
  have HC0 : Hid (∀ w, Below W.heap.size W w → w.cell? ⟨g, o, none⟩ = some (.int .i64 a)) := Lib.hid fun w hw => by have := (hw.cell (p := ⟨g, o + 0, none⟩) hg).trans hc0; simpa using this
  have HBD := Lib.hid hb
  have HSU := Lib.hid (sum_take_bd hb)
  have HFB := Lib.hid (fold_bd ham hb)
  have HM := Lib.hid (And.intro (fun h => mid_sum ha0 h) (And.intro (mid_sum' (l := l)) (mid_length l)))
  have h1' : (0 : Int) < l.length := by omega
  clear ha hb ham haa ha0 hc0
  go_enter Try.func63, Try.ntmps63
  go_upto_region 1 with fail
  haveI hne : Nonempty (Cls (fun w' => Below W.heap.size W w')) := ⟨⟨_, (Below.refl _ _).drew⟩⟩
  have hmix : Try.prog.follows .mixedOrders = true := by kernel_rfl
  have hx0 : ∀ pc : Cls (fun w' => Below W.heap.size W w'), pc.w.cell? ⟨g, o, none⟩ = some (.int .i64 a) := fun pc => HC0.out _ pc.h
  have h1n : 0 < l.length := by omega
  refine wp_region_cls (fun w' => Below W.heap.size W w') hmix (by kernel_rfl) ((Below.refl _ _).drew) ?_
  repeat (quiet_step (fail))
  refine wpQuiet_nil ?_
  rintro w7 ⟨⟨_, hw7⟩, rfl⟩
  have H7 := Lib.hid hw7
  have HA7 := Lib.hid (HA.out _ hw7)
  clear hx0 hne hw7 HC0 HA
  try simp only []
  go_wp2_with fail
  go_loopg [7, 4, 5, 6] l.length (fun gk i n m q wr => ∃ k : Nat, k ≤ l.length ∧ l.length - k ≤ gk ∧ i = .int .i64 k ∧ n = .int .i64 (l.take k).sum ∧ m = .int .i64 (lmax (l.take k) a) ∧ q = .int .i64 (lmin (l.take k) a) ∧ wr = w7)
  case atStart => exact ⟨0, Nat.zero_le _, Nat.le_refl _, rfl, rfl, rfl, rfl, rfl⟩
  case round =>
    obtain ⟨k, hk, hgk, rfl, rfl, rfl, rfl, rfl⟩ := hrel
    have hb1 := HSU.out k hk
    have hb2 := HFB.out k
    by_cases hlt : k < l.length
    rotate_left
    · have hge : ¬ (k : Int) < l.length := by omega
      have hke : k = l.length := by omega
      rw [hke, List.take_length] at hb1 hb2 ⊢
      have HE1 : Hid (5 ≤ l.length → (mid l).sum = l.sum - lmax l a - lmin l a ∧ ((mid l).length : Int) = l.length - 2) := Lib.hid fun h => ⟨HM.out.1 h, by rw [HM.out.2.2, if_pos h]; omega⟩
      have HE2 : Hid (¬ 5 ≤ l.length → (mid l).sum = l.sum ∧ ((mid l).length : Int) = l.length) := Lib.hid fun h => ⟨HM.out.2.1 h, by rw [HM.out.2.2, if_neg h]⟩
      generalize l.sum = S at *
      generalize lmax l a = X at *
      generalize lmin l a = Y at *
      have hge2 : ¬ (l.length : Int) < l.length := by omega
      clear hke hge hlt
      by_cases h5 : 5 ≤ l.length
      · have HE := Lib.hid (HE1.out h5)
        have h5' : (5 : Int) ≤ l.length := by omega
        clear h5
        go_wp2_with fail
        refine bodyPost_ret (v := .tuple #[.int .i64 (S - X - Y), .int .i64 ((l.length : Int) - 2)]) (by simp [results, Try.results63, go_sem]) rfl ?_
        exact ⟨two_ret HE.out.1.symm HE.out.2.symm, H7.out⟩
      · have HE := Lib.hid (HE2.out h5)
        have h5' : ¬ (5 : Int) ≤ l.length := by omega
        clear h5
        go_wp2_with fail
        refine bodyPost_ret (v := .tuple #[.int .i64 S, .int .i64 (l.length : Int)]) (by simp [results, Try.results63, go_sem]) rfl ?_
        exact ⟨two_ret HE.out.1.symm HE.out.2.symm, H7.out⟩
    have hlt2 : (k : Int) < l.length := by omega
    have hc := HA7.out k hlt
    have hb3 := HBD.out l[k] (List.getElem_mem hlt)
    have HN := Lib.hid (And.intro (sum_take_succ hlt) (And.intro (lmax_succ hlt a) (lmin_succ hlt a)))
    obtain ⟨v, hv⟩ : ∃ v, v = l[k] := ⟨_, rfl⟩
    rw [← hv] at hb3 HN hc
    generalize (l.take k).sum = S at *
    generalize lmax (l.take k) a = X at *
    generalize lmin (l.take k) a = Y at *
    have e1 : IntKind.i64.wrap (S + v) = S + v := IntWalk.i64_in _ (by omega)
    clear hv
    go_wp2_with fail
    all_goals
      go_roundg (l.length - (k + 1))
      case measure => omega
      case rel => exact ⟨k + 1, by omega, Nat.le_refl _, by go_num, by rw [HN.out.1], by rw [HN.out.2.1]; try (congr 1; omega), by rw [HN.out.2.2]; try (congr 1; omega), rfl⟩
/-- what falls and time take off -/
def dOff (f s : Int) : Int := 100 * (f + max (f - 2) 0 + max (f - 4) 0 + (s + 4) / 5)
theorem offP_eq (s : Sk) : offP s = dOff (fallsP s.calls) s.over := rfl
set_option maxRecDepth 100000 in
set_option maxHeartbeats 2000000 in
theorem Off_any (f s : Nat) (W : World) (hf : f ≤ 1000) (hs : s ≤ 600) : Calls Try.prog 36 #[.int .i64 f, .int .i64 s] W (IntPost (dOff f s) W) := by
  have HV : Hid (dOff f s = 100 * ((f : Int) + max ((f : Int) - 2) 0 + max ((f : Int) - 4) 0 + ((s : Int) + 4) / 5)) := Lib.hid rfl
  generalize dOff f s = V at *
  go_enter Try.func36, Try.ntmps36
  go_wp2_with fail
  go_loopg [6, 5] (f + 1) (fun gk i n wr => ∃ k : Nat, 1 ≤ k ∧ k ≤ f + 1 ∧ f + 1 - k ≤ gk ∧ i = .int .i64 k ∧ n = .int .i64 (100 * (((k : Int) - 1) + max (((k : Int) - 1) - 2) 0 + max (((k : Int) - 1) - 4) 0)) ∧ wr = W)
  case atStart => exact ⟨1, by omega, by omega, by omega, rfl, rfl, rfl⟩
  case round =>
    obtain ⟨k, hk1, hk, hgk, rfl, rfl, rfl⟩ := hrel
    by_cases hlt : k ≤ f
    rotate_left
    · have hge : ¬ (k : Int) ≤ f := by omega
      obtain ⟨n, hn⟩ : ∃ n, n = 100 * (((k : Int) - 1) + max (((k : Int) - 1) - 2) 0 + max (((k : Int) - 1) - 4) 0) := ⟨_, rfl⟩
      have HN : Hid (V = n + 100 * (((s : Int) + 4) / 5)) := Lib.hid (by rw [HV.out, hn, show (k : Int) = f + 1 by omega]; omega)
      have hnb : 0 ≤ n ∧ n ≤ 1000000 := by omega
      rw [← hn]
      clear hn hk1 hk hgk hlt
      go_wp2_with fail
      clear hge
      obtain ⟨w3, rfl⟩ : ∃ w3, w3 = wr := ⟨_, rfl⟩
      go_loopg [7, 5] (s + 5) (fun gk i n' wr => ∃ q : Nat, 5 * q ≤ s + 4 ∧ s + 5 - 5 * q ≤ gk ∧ i = .int .i64 (5 * q : Nat) ∧ n' = .int .i64 (n + 100 * q) ∧ wr = w3)
      case atStart => exact ⟨0, by omega, by omega, rfl, by simp, rfl⟩
      case round =>
        obtain ⟨q, hq, hgq, rfl, rfl, rfl⟩ := hrel
        by_cases hqt : 5 * q < s
        rotate_left
        · have hqe : ¬ ((5 * q : Nat) : Int) < s := by omega
          have HE : Hid (V = n + 100 * q) := Lib.hid (by rw [HN.out]; omega)
          go_wp2_with fail
          go_ret
          exact ⟨ret_int HE.out.symm, Below.refl _ _⟩
        have hqt2 : ((5 * q : Nat) : Int) < s := by omega
        go_wp2_with fail
        go_roundg (s + 5 - 5 * (q + 1))
        case measure => omega
        case rel => exact ⟨q + 1, by omega, by omega, by first | rfl | (congr 1; omega), by first | rfl | (congr 1; omega), rfl⟩
    have hlt2 : (k : Int) ≤ f := by omega
    have ht : ((k : Int) + 1).tdiv 2 = ((k : Int) + 1) / 2 := Int.tdiv_eq_ediv_of_nonneg (by omega)
    obtain ⟨n, hn⟩ : ∃ n, n = 100 * (((k : Int) - 1) + max (((k : Int) - 1) - 2) 0 + max (((k : Int) - 1) - 4) 0) := ⟨_, rfl⟩
    have hnb : 0 ≤ n ∧ n ≤ 1000000 := by omega
    have HN := Lib.hid hn
    rw [← hn]
    clear hn
    go_wp2_with fail
    all_goals
      go_roundg (f + 1 - (k + 1))
      case measure => omega
      case rel => exact ⟨k + 1, by omega, by omega, Nat.le_refl _, by congr 1, by congr 1; rw [HN.out]; omega, rfl⟩
end Go.Proofs.Ytmclchaalmonnaa
