/- The document's Reuse and Room. -/
import Derived.Test.YtjfopmjphiddiaaMgP
namespace Go.Proofs.Ytjfopmjphiddiaa
open Go.RowKit Go.Shelf
def inB (n a b : Int) : Bool := decide (a ≤ n ∧ n ≤ b)
set_option maxHeartbeats 400000 in
theorem in_any (n a b : Int) (w : World) : Calls Try.prog 47 #[.int .i64 n, .int .i64 a, .int .i64 b] w fun e w' => e = .returned (.bool (inB n a b)) ∧ w' = w := by
  by_cases h1 : a ≤ n
  · by_cases h2 : n ≤ b
    · go_enter Try.func47, Try.ntmps47
      go_wp2
      go_ret
      exact ⟨ret_bool (by simp [inB, h1, h2]), rfl⟩
    · go_enter Try.func47, Try.ntmps47
      go_wp2
      go_ret
      exact ⟨ret_bool (by simp [inB]; omega), rfl⟩
  · go_enter Try.func47, Try.ntmps47
    go_wp2
    go_ret
    exact ⟨ret_bool (by simp [inB]; omega), rfl⟩
theorem inH (n : Int) : inB n 0 4294967296 = hB n := rfl
theorem hB_in (n : Int) (w : World) : Calls Try.prog 47 #[.int .i64 n, .int .i64 0, .int .i64 4294967296] w fun e w' => e = .returned (.bool (hB n)) ∧ w' = w := in_any n 0 4294967296 w
theorem allI_take (l : List Int) (k : Nat) (h : k < l.length) (hp : hB l[k] = true) (ht : (l.take k).all hB = true) : (l.take (k + 1)).all hB = true := by
  rw [List.take_succ_eq_append_getElem h, List.all_append, ht]; simp [hp]

set_option maxRecDepth 100000 in
set_option maxHeartbeats 4000000 in
theorem errors_any (comes needs : List Int) (start room : Int) (A A' : Option Addr) (cap cap' : Nat) (W : World) (hr : IRow W W.heap.size A comes) (hr' : IRow W W.heap.size A' needs) (hl : comes.length ≤ 9223372036854775807) :
    Calls Try.prog 41 #[.slice A comes.length cap, .slice A' needs.length cap', .int .i64 start, .int .i64 room] W fun e W' => e = .returned (.int .i64 (reErr comes needs start room)) ∧ W' = W := by
  by_cases h200 : 200 < comes.length
  · have hE := Lib.hid (show reErr comes needs start room = 3 by unfold reErr; rw [if_pos h200])
    have hI : (200 : Int) < comes.length := by omega
    clear hr hr'
    go_enter Try.func41, Try.ntmps41
    go_wp2
    go_ret
    rw [hE.out]; exact ⟨rfl, rfl⟩
  have hI : ¬ (200 : Int) < comes.length := by omega
  by_cases hn : needs.length = comes.length
  case neg =>
    have hE := Lib.hid (show reErr comes needs start room = 1 by unfold reErr; rw [if_neg h200, if_pos hn])
    have hq : ((needs.length : Int) != (comes.length : Int)) = true := by simp; omega
    clear hr hr'
    go_enter Try.func41, Try.ntmps41
    go_wp2
    go_ret
    rw [hE.out]; exact ⟨rfl, rfl⟩
  have hq : ((needs.length : Int) != (comes.length : Int)) = false := by simp [hn]
  have hE : reErr comes needs start room = if (comes.all hB && needs.all hB && hB room && decide (0 ≤ start) && decide (start ≤ room)) = false then 2 else 0 := by
    unfold reErr; rw [if_neg h200, if_neg (by omega)]
  have HE := Lib.hid (And.intro hE hn)
  have HR := Lib.hid (And.intro hr hr')
  clear hr hr' hE hn
  go_enter Try.func41, Try.ntmps41
  go_wp2
  go_loopw [9] (fun i wr => ∃ k : Nat, k ≤ comes.length ∧ i = .int .i64 k ∧ wr = W ∧ Hid ((comes.take k).all hB = true ∧ (needs.take k).all hB = true)) (fun i _ => comes.length - (intOf i).toNat)
  case atStart => exact ⟨0, Nat.zero_le _, rfl, rfl, rfl, rfl⟩
  case round =>
    obtain ⟨k, hk, rfl, rfl, HT⟩ := hrel
    by_cases hlt : k < comes.length
    · have hlt' : (k : Int) < comes.length := by omega
      have hnt : k < needs.length := by have := HE.out.2; omega
      have hnt' : (k : Int) < needs.length := by omega
      obtain ⟨g, o, eA, hg, d0⟩ := HR.out.1 k hlt
      obtain ⟨g', o', eA', hg', d1⟩ := HR.out.2 k hnt
      subst eA eA'
      obtain ⟨c, hc⟩ : ∃ c, c = comes[k] := ⟨_, rfl⟩
      obtain ⟨n, hn⟩ : ∃ n, n = needs[k] := ⟨_, rfl⟩
      rw [← hc] at d0
      rw [← hn] at d1
      have HC := Lib.hid (And.intro hc hn)
      clear hc hn
      cases h1 : hB c
      · have H1 := Lib.hid h1
        have H2 := Lib.hid (allH_take comes k hlt (by rw [← HC.out.1]; exact h1))
        clear h1
        go_wp2_with fail
        refine (hB_in c _).mono ?_
        rintro e w' ⟨rfl, rfl⟩
        rw [H1.out]
        go_wp2_with fail
        go_ret
        rw [HE.out.1, H2.out]; exact ⟨rfl, rfl⟩
      · cases h2 : hB n
        · have H1 := Lib.hid (And.intro h1 h2)
          have H2 := Lib.hid (allH_take needs k hnt (by rw [← HC.out.2]; exact h2))
          clear h1 h2
          go_wp2_with fail
          refine (hB_in c _).mono ?_
          rintro e w' ⟨rfl, rfl⟩
          rw [H1.out.1]
          go_wp2_with fail
          refine (hB_in n _).mono ?_
          rintro e w' ⟨rfl, rfl⟩
          rw [H1.out.2]
          go_wp2_with fail
          go_ret
          rw [HE.out.1, H2.out]; exact ⟨by simp, rfl⟩
        · have H1 := Lib.hid (And.intro h1 h2)
          clear h1 h2
          go_wp2_with fail
          refine (hB_in c _).mono ?_
          rintro e w' ⟨rfl, rfl⟩
          rw [H1.out.1]
          go_wp2_with fail
          refine (hB_in n _).mono ?_
          rintro e w' ⟨rfl, rfl⟩
          rw [H1.out.2]
          go_wp2_with fail
          go_roundw
          case rel => exact ⟨k + 1, by omega, by go_num, by first | rfl | trivial, allI_take comes k hlt (by rw [← HC.out.1]; exact H1.out.1) HT.out.1, allI_take needs k hnt (by rw [← HC.out.2]; exact H1.out.2) HT.out.2⟩
          case measure => simp [intOf]; omega
    · have hk' : ¬ (k : Int) < comes.length := by omega
      have hall : Hid (comes.all hB = true ∧ needs.all hB = true) := by
        have h := HT.out
        rw [List.take_of_length_le (by omega), List.take_of_length_le (by have := HE.out.2; omega)] at h
        exact h
      clear HT
      cases h1 : hB room
      · have H1 := Lib.hid h1
        clear h1
        go_wp2_with fail
        refine (hB_in room _).mono ?_
        rintro e w' ⟨rfl, rfl⟩
        rw [H1.out]
        go_wp2_with fail
        go_ret
        rw [HE.out.1, H1.out]; exact ⟨by simp, rfl⟩
      · cases h2 : inB start 0 room
        all_goals
          have H1 := Lib.hid (And.intro h1 h2)
          clear h1 h2
          go_wp2_with fail
          refine (hB_in room _).mono ?_
          rintro e w' ⟨rfl, rfl⟩
          rw [H1.out.1]
          go_wp2_with fail
          refine (in_any start 0 room _).mono ?_
          rintro e w' ⟨rfl, rfl⟩
          rw [H1.out.2]
          go_wp2_with fail
          go_ret
          have h3 := H1.out.2
          simp only [inB, decide_eq_true_eq, decide_eq_false_iff_not] at h3
          rw [HE.out.1, H1.out.1, hall.out.1, hall.out.2]
          refine ⟨?_, rfl⟩
          first
          | (rw [if_pos (by simp; omega)]; rfl)
          | (rw [if_neg (by simp; omega)]; rfl)
end Go.Proofs.Ytjfopmjphiddiaa
/- The document's reuse, Reuse, enough, Room. -/
namespace Go.Proofs.Ytjfopmjphiddiaa
open Go.RowKit Go.Shelf
def HrsPost (s : Rs) (W : World) (e : Ending) (W' : World) : Prop :=
  ∃ A cap, e = .returned (.tuple #[.slice A s.b.length cap, .int .i64 s.h, .int .i64 s.a]) ∧ Below W.heap.size W W' ∧ IRow W' W'.heap.size A s.b

set_option maxRecDepth 100000 in
set_option maxHeartbeats 4000000 in
theorem hrs_any (comes needs : List Int) (start room : Int) (A A' : Option Addr) (cap cap' : Nat) (W : World) (hr : IRow W W.heap.size A comes) (hr' : IRow W W.heap.size A' needs) (hE : reErr comes needs start room = 0) :
    Calls Try.prog 42 #[.slice A comes.length cap, .slice A' needs.length cap', .int .i64 start, .int .i64 room] W (HrsPost (hrs room start (comes.zip needs)) W) := by
  obtain ⟨i0, hi, hz0, hz1, hz2⟩ := info_parts Try.info3
  obtain ⟨hn200, hn, hok, hs0, hs1, hr2⟩ := reErr_ok hE
  have HO := Lib.hid (And.intro hok (And.intro (show (comes.zip needs).length = comes.length by simp [hn]) hn))
  obtain ⟨L, hL⟩ : ∃ L, L = comes.zip needs := ⟨_, rfl⟩
  have HL := Lib.hid hL
  have hRR := Lib.hid (And.intro hr hr')
  rw [← hL] at HO ⊢
  clear hn hok hE hL hr hr'
  go_enter Try.func42, Try.ntmps42
  go_wp2
  go_loopw [13, 11, 2, 12] (fun i v t a wr => ∃ k : Nat, k ≤ comes.length ∧ i = .int .i64 k ∧ t = .int .i64 (hrs room start (L.take k)).h ∧ a = .int .i64 (hrs room start (L.take k)).a ∧ Hid (Below W.heap.size W wr ∧ wr.ownsRow W.heap.size 3 1 v k ((hrs room start (L.take k)).b.map (Value.int .i64)))) (fun i _ _ _ _ => comes.length - (intOf i).toNat)
  case atStart => exact ⟨0, Nat.zero_le _, rfl, rfl, rfl, Below.refl _ _, World.ownsRow_nil _ _ _ _⟩
  case round =>
    obtain ⟨k, hk, rfl, rfl, rfl, HB⟩ := hrel
    obtain ⟨s, hs⟩ : ∃ s, s = hrs room start (L.take k) := ⟨_, rfl⟩
    rw [← hs] at HB ⊢
    by_cases hlt : k < comes.length
    · have hlt' : (k : Int) < comes.length := by omega
      have hnt : k < needs.length := by have := HO.out.2.2; omega
      have hnt' : (k : Int) < needs.length := by omega
      have hLk : k < L.length := by have := HO.out.2.1; omega
      obtain ⟨g, o, eA, hg, d0⟩ := (hRR.out.1.below HB.out.1) k hlt
      obtain ⟨g', o', eA', hg', d1⟩ := (hRR.out.2.below HB.out.1) k hnt
      have hsz := HB.out.1.size
      have hgw : g < wr.heap.size := by omega
      have hgw' : g' < wr.heap.size := by omega
      subst eA eA'
      have hbd := hrs_bd HO.out.1 hs0 hs1 hr2 k (by have := HO.out.2.1; omega)
      rw [← hs] at hbd
      obtain ⟨b1, ⟨b2, b3⟩, ⟨b4, b5⟩, b6⟩ := hbd
      have hxb := HO.out.1 _ (List.getElem_mem hLk)
      have hnext := hrs_take room start L k hLk
      rw [← hs] at hnext
      obtain ⟨c, hc⟩ : ∃ c, c = comes[k] := ⟨_, rfl⟩
      obtain ⟨n, hn⟩ : ∃ n, n = needs[k] := ⟨_, rfl⟩
      have hLx : L[k] = (c, n) := by
        have e := HL.out
        subst e
        rw [List.getElem_zip, hc, hn]
      rw [hLx] at hxb hnext
      rw [← hc] at d0
      rw [← hn] at d1
      simp only at hxb
      obtain ⟨⟨x1, x2⟩, x3, x4⟩ := hxb
      obtain ⟨u, hu⟩ : ∃ u, u = min (s.h + c) n := ⟨_, rfl⟩
      obtain ⟨l, hl⟩ : ∃ l, l = min room (s.h + c - u) := ⟨_, rfl⟩
      have hub : 0 ≤ u ∧ u ≤ s.h + c ∧ u ≤ n := by omega
      have hlb : 0 ≤ l ∧ l ≤ room ∧ l ≤ s.h + c - u := by omega
      have huI : (if n < s.h + c then n else s.h + c) = u := by split <;> omega
      have hlI : (if s.h + c - u < room then s.h + c - u else room) = l := by split <;> omega
      have HX := Lib.hid (And.intro b1 (And.intro hnext hs))
      have HU := Lib.hid (And.intro hu hl)
      clear b1 hnext hs hc hn hLx b6 hu hl
      have hso := HB.out.2
      go_wp2_with (at_builtin; refine wpList_append_own _ rfl _ _ 39 rfl W.heap.size 3 i0 (.int .i64 0) 1 8 Try.underlying39 hi hz0 hz1 hz2 rfl (by decide) _ _ _ rfl (hso.alloc _) ⟨wr.heap.size, 0, none⟩ 1 1 [.int .i64 (n - u)] rfl rfl ?c1 ?c2 ?c3 ?c4 ?c5 ?_)
      case c1 => exact cell_one_new wr (.int .i64 (n - u)) 3
      case c2 => simp [Value.oneCell']
      case c3 => unfold maxLen; omega
      case c4 => omega
      case c5 => simp; omega
      intro v' w3 hown' hgrow _
      have hb3 : Below W.heap.size W w3 := (HB.out.1.alloc (by omega) _).grown hgrow (by simp; omega) (fun k hk => by have := own_low hso k hk; omega)
      have HF := Lib.hid (And.intro hb3 hown')
      clear hb3 hown' hgrow hso
      go_wp2_with fail
      go_roundw
      case rel =>
        have e1 : s.b ++ [n - u] = (hrs room start (L.take (k + 1))).b := by rw [HX.out.2.1, HU.out.1]; rfl
        have e2 : l = (hrs room start (L.take (k + 1))).h := by
          rw [HX.out.2.1]
          simp only [hour]
          have := HU.out.1; have := HU.out.2
          omega
        have e3 : s.a + (s.h + c) - u - l = (hrs room start (L.take (k + 1))).a := by
          rw [HX.out.2.1]
          simp only [hour]
          have := HU.out.1; have := HU.out.2
          omega
        refine ⟨k + 1, by omega, by go_num, by rw [← e2], by rw [← e3], HF.out.1, ?_⟩
        rw [← e1, List.map_append]
        exact HF.out.2
      case measure => simp [intOf]; omega
    · have hk' : ¬ (k : Int) < comes.length := by omega
      have hke : k = comes.length := by omega
      have hs' : Hid (s = hrs room start L) := by
        show _ = _
        rw [hs, List.take_of_length_le (by have := HO.out.2; omega)]
      have hbl : Hid (k = s.b.length) := by
        show _ = _
        have := (hrs_bd HO.out.1 hs0 hs1 hr2 k (by have := HO.out.2; omega)).1
        rw [hs, this]
      clear hs hke
      go_wp2_with fail
      go_ret3
      rw [← hs'.out]
      obtain ⟨A1, cap1, e1, hI, _⟩ := own_slice HB.out.2 hbl.out
      exact ⟨A1, cap1, by rw [← e1]; rfl, HB.out.1, hI⟩
set_option maxRecDepth 100000 in
set_option maxHeartbeats 1000000 in
theorem refReuse_any (comes needs : List Int) (start room : Int) (A A' : Option Addr) (cap cap' : Nat) (W : World) (hr : IRow W W.heap.size A comes) (hr' : IRow W W.heap.size A' needs) (hl : comes.length ≤ 9223372036854775807) :
    Calls Try.prog 20 #[.slice A comes.length cap, .slice A' needs.length cap', .int .i64 start, .int .i64 room] W (ReusePost (reuseR comes needs start room) W) := by
  have HR := Lib.hid (And.intro hr hr')
  clear hr hr'
  by_cases hE : reErr comes needs start room = 0
  · have HE := Lib.hid (And.intro hE (show reuseR comes needs start room = (hrs room start (comes.zip needs), 0) by unfold reuseR; rw [if_pos hE]))
    clear hE
    go_enter Try.func20, Try.ntmps20
    go_wp2_with fail
    refine (errors_any comes needs start room A A' cap cap' W HR.out.1 HR.out.2 hl).mono ?_
    rw [HE.out.1]
    rintro e w' ⟨rfl, rfl⟩
    go_wp2_with fail
    refine (hrs_any comes needs start room A A' cap cap' _ HR.out.1 HR.out.2 HE.out.1).mono ?_
    rintro e w2 ⟨A1, cap1, rfl, hb, hI⟩
    have H := Lib.hid (And.intro hb hI)
    clear hb hI
    go_wp2_with fail
    refine bodyPost_ret (results_tmp4 rfl _ _ _) rfl ?_
    rw [HE.out.2]
    exact ⟨A1, cap1, rfl, H.out.1, H.out.2⟩
  · obtain ⟨c, hc⟩ : ∃ c, c = reErr comes needs start room := ⟨_, rfl⟩
    have hq : (c != 0) = true := by simp; omega
    have HE := Lib.hid (And.intro hc hE)
    clear hE hc
    go_enter Try.func20, Try.ntmps20
    go_wp2_with fail
    refine (errors_any comes needs start room A A' cap cap' W HR.out.1 HR.out.2 hl).mono ?_
    rw [← HE.out.1]
    rintro e w' ⟨rfl, rfl⟩
    go_wp2_with fail
    refine bodyPost_ret (results_tmp4 rfl _ _ _) rfl ?_
    exact reuse_bad HE.out.1.symm (by have := HE.out.1; have := HE.out.2; omega)
set_option maxRecDepth 100000 in
set_option maxHeartbeats 1000000 in
theorem refEnough_any (comes needs : List Int) (start room limit : Int) (A A' : Option Addr) (cap cap' : Nat) (W : World) (hr : IRow W W.heap.size A comes) (hr' : IRow W W.heap.size A' needs) (he : reErr comes needs start start = 0) (h0 : start ≤ room) (h2 : room ≤ 4294967296) :
    Calls Try.prog 48 #[.slice A comes.length cap, .slice A' needs.length cap', .int .i64 start, .int .i64 room, .int .i64 limit] W fun e W' => e = .returned (.bool (enoughB comes needs start limit room)) ∧ Below W.heap.size W W' := by
  obtain ⟨s, hs, hl, hbd, hsum⟩ := reuse_all he h0 h2
  have e1 := reErr_same he h0 h2
  have hs' : hrs room start (comes.zip needs) = s := by
    have := hs
    unfold reuseR at this
    rw [if_pos e1] at this
    exact (Prod.mk.inj this).1
  have hB : Hid (enoughB comes needs start limit room = decide (sumI s.b ≤ limit)) := by show _ = _; unfold enoughB; rw [hsum]
  have HR := Lib.hid (And.intro hr (And.intro hr' (And.intro e1 (And.intro hs' hbd))))
  clear hr hr' e1 hs hs' hbd hsum he
  go_enter Try.func48, Try.ntmps48
  go_wp2_with fail
  refine (hrs_any comes needs start room A A' cap cap' W HR.out.1 HR.out.2.1 HR.out.2.2.1).mono ?_
  rw [HR.out.2.2.2.1]
  rintro e w1 ⟨A1, cap1, rfl, hb, hI⟩
  have H := Lib.hid (And.intro hb hI)
  clear hb hI
  go_wp2_with fail
  go_loopw [15, 14] (fun i t wr => ∃ k : Nat, k ≤ s.b.length ∧ i = .int .i64 k ∧ t = .int .i64 (sumI (s.b.take k)) ∧ wr = w1) (fun i _ _ => s.b.length - (intOf i).toNat)
  case atStart => exact ⟨0, Nat.zero_le _, rfl, rfl, rfl⟩
  case round =>
    obtain ⟨k, hk, rfl, rfl, rfl⟩ := hrel
    by_cases hlt : k < s.b.length
    · obtain ⟨g, o, eA, hg, d0⟩ := H.out.2 k hlt
      have hlt' : (k : Int) < s.b.length := by omega
      subst eA
      have hbk := HR.out.2.2.2.2 _ (List.getElem_mem hlt)
      have hsb := sumI_bd s.b k hk HR.out.2.2.2.2
      have hw : IntKind.i64.wrap (sumI (s.b.take k) + s.b[k]) = sumI (s.b.take (k + 1)) := by
        rw [sumI_take s.b k hlt]
        exact IntWalk.i64_in _ (by omega)
      clear hbk hsb
      go_wp2_with fail
      go_roundw
      case rel => exact ⟨k + 1, by omega, by go_num, by first | rfl | (rw [← hw]; rfl), by first | rfl | trivial⟩
      case measure => simp [intOf]; omega
    · have hk' : ¬ (k : Int) < s.b.length := by omega
      have hke : k = s.b.length := by omega
      subst hke
      rw [List.take_length]
      go_wp2_with fail
      go_ret
      rw [hB.out]
      exact ⟨rfl, H.out.1⟩
set_option maxRecDepth 100000 in
set_option maxHeartbeats 4000000 in
theorem refRoom_any (comes needs : List Int) (start limit : Int) (A A' : Option Addr) (cap cap' : Nat) (W : World) (hr : IRow W W.heap.size A comes) (hr' : IRow W W.heap.size A' needs) (hl : comes.length ≤ 9223372036854775807) :
    Calls Try.prog 22 #[.slice A comes.length cap, .slice A' needs.length cap', .int .i64 start, .int .i64 limit] W (RoomPost comes needs start limit W) := by
  have HR := Lib.hid (And.intro hr hr')
  clear hr hr'
  by_cases hE : reErr comes needs start start = 0
  case neg =>
    obtain ⟨c, hc⟩ : ∃ c, c = reErr comes needs start start := ⟨_, rfl⟩
    have hq : (c != 0) = true := by simp; omega
    have hR := Lib.hid (show RoomR comes needs start limit 0 c by unfold RoomR; rw [if_pos hE, hc]; exact ⟨rfl, rfl⟩)
    have hX := Lib.hid hc
    clear hE hc
    go_enter Try.func22, Try.ntmps22
    go_wp2_with fail
    refine (errors_any comes needs start start A A' cap cap' W HR.out.1 HR.out.2 hl).mono ?_
    rw [← hX.out]
    rintro e w1 ⟨rfl, rfl⟩
    go_wp2_with fail
    go_ret2
    exact ⟨0, c, rfl, hR.out, Below.refl _ _⟩
  have hb0 := reErr_ok hE
  have hs0 := hb0.2.2.2.1
  have hs1 := hb0.2.2.2.2.2
  have HE := Lib.hid hE
  clear hb0 hE
  cases hlm : inB limit 0 1099511627776
  · have hR := Lib.hid (show RoomR comes needs start limit 0 2 by
      simp only [inB, decide_eq_false_iff_not] at hlm
      unfold RoomR; rw [if_neg (by simp [HE.out]), if_pos (by omega)]; exact ⟨rfl, rfl⟩)
    have HM := Lib.hid hlm
    clear hlm
    go_enter Try.func22, Try.ntmps22
    go_wp2_with fail
    refine (errors_any comes needs start start A A' cap cap' W HR.out.1 HR.out.2 hl).mono ?_
    rw [HE.out]
    rintro e w1 ⟨rfl, rfl⟩
    go_wp2_with fail
    refine (in_any limit 0 1099511627776 _).mono ?_
    rw [HM.out]
    rintro e w1 ⟨rfl, rfl⟩
    go_wp2_with fail
    go_ret2
    exact ⟨0, 2, rfl, hR.out, Below.refl _ _⟩
  have hlm' : ¬ (limit < 0 ∨ 1099511627776 < limit) := by
    simp only [inB, decide_eq_true_eq] at hlm; omega
  have HM := Lib.hid (And.intro hlm hlm')
  clear hlm hlm'
  cases hM : enoughB comes needs start limit 4294967296
  · have hR := Lib.hid (show RoomR comes needs start limit 0 4 by unfold RoomR; rw [if_neg (by simp [HE.out]), if_neg HM.out.2, if_pos hM]; exact ⟨rfl, rfl⟩)
    have HH := Lib.hid hM
    clear hM
    go_enter Try.func22, Try.ntmps22
    go_wp2_with fail
    refine (errors_any comes needs start start A A' cap cap' W HR.out.1 HR.out.2 hl).mono ?_
    rw [HE.out]
    rintro e w1 ⟨rfl, rfl⟩
    go_wp2_with fail
    refine (in_any limit 0 1099511627776 _).mono ?_
    rw [HM.out.1]
    rintro e w1 ⟨rfl, rfl⟩
    go_wp2_with fail
    refine (refEnough_any comes needs start 4294967296 limit A A' cap cap' _ HR.out.1 HR.out.2 HE.out (by omega) (by omega)).mono ?_
    rw [HH.out]
    rintro e w2 ⟨rfl, hb⟩
    go_wp2_with fail
    go_ret2
    exact ⟨0, 4, rfl, hR.out, hb⟩
  have HH := Lib.hid hM
  clear hM
  go_enter Try.func22, Try.ntmps22
  go_wp2_with fail
  refine (errors_any comes needs start start A A' cap cap' W HR.out.1 HR.out.2 hl).mono ?_
  rw [HE.out]
  rintro e w1 ⟨rfl, rfl⟩
  go_wp2_with fail
  refine (in_any limit 0 1099511627776 _).mono ?_
  rw [HM.out.1]
  rintro e w1 ⟨rfl, rfl⟩
  go_wp2_with fail
  refine (refEnough_any comes needs start 4294967296 limit A A' cap cap' _ HR.out.1 HR.out.2 HE.out (by omega) (by omega)).mono ?_
  rw [HH.out]
  rintro e w2 ⟨rfl, hb2⟩
  go_wp2_with fail
  go_loopw [11, 12] (fun a b wr => ∃ i j : Int, start ≤ i ∧ i ≤ j ∧ j ≤ 4294967296 ∧ a = .int .i64 i ∧ b = .int .i64 j ∧ Hid (start < i → enoughB comes needs start limit (i - 1) = false) ∧ Hid (enoughB comes needs start limit j = true) ∧ Below w1.heap.size w1 wr) (fun a b _ => (intOf b - intOf a).toNat)
  case atStart => exact ⟨start, 4294967296, by omega, by omega, by omega, rfl, rfl, (fun h => absurd h (by omega)), HH.out, hb2⟩
  case round =>
    obtain ⟨i, j, hi0, hij, hj, rfl, rfl, hI, hJ, hb⟩ := hrel
    by_cases hlt : i < j
    · obtain ⟨m, hm⟩ : ∃ m, m = (i + j) / 2 := ⟨_, rfl⟩
      have hm0 : start ≤ m ∧ m < j ∧ i ≤ m ∧ m ≤ 4294967296 := by omega
      have hmt : (i + j).tdiv 2 = m := by rw [Int.tdiv_eq_ediv_of_nonneg (by omega), hm]
      clear hm
      have henb : ∀ wx, Below w1.heap.size w1 wx → Calls Try.prog 48 #[.slice A comes.length cap, .slice A' needs.length cap', .int .i64 start, .int .i64 m, .int .i64 limit] wx fun e W' => e = .returned (.bool (enoughB comes needs start limit m)) ∧ Below wx.heap.size wx W' := fun wx hbx =>
        refEnough_any comes needs start m limit A A' cap cap' wx (HR.out.1.step hbx) (HR.out.2.step hbx) HE.out (by omega) (by omega)
      have HEN := Lib.hid henb
      clear henb
      cases hp : enoughB comes needs start limit m
      · have HP := Lib.hid hp
        have HI : Hid (start < m + 1 → enoughB comes needs start limit (m + 1 - 1) = false) := fun _ => by rw [show m + 1 - 1 = m by omega]; exact hp
        clear hp
        go_wp2_with fail
        refine (HEN.out wr hb).mono ?_
        rw [HP.out]
        rintro e w3 ⟨rfl, hb3⟩
        have HB := Lib.hid (hb.trans (hb3.mono hb.size))
        clear hb3
        go_wp2_with fail
        go_roundw
        case rel => exact ⟨m + 1, j, by omega, by omega, by omega, rfl, rfl, HI, hJ, HB.out⟩
        case measure => simp [intOf]; omega
      · have HP := Lib.hid hp
        clear hp
        go_wp2_with fail
        refine (HEN.out wr hb).mono ?_
        rw [HP.out]
        rintro e w3 ⟨rfl, hb3⟩
        have HB := Lib.hid (hb.trans (hb3.mono hb.size))
        clear hb3
        go_wp2_with fail
        go_roundw
        case rel => exact ⟨i, m, by omega, by omega, by omega, rfl, rfl, hI, HP, HB.out⟩
        case measure => simp [intOf]; omega
    · obtain rfl : i = j := by omega
      go_wp2_with fail
      go_ret2
      exact ⟨i, 0, rfl, by unfold RoomR; rw [if_neg (by simp [HE.out]), if_neg HM.out.2, if_neg (by simp [HH.out])]; exact ⟨rfl, hi0, hj, hJ.out, hI.out⟩, hb⟩
end Go.Proofs.Ytjfopmjphiddiaa
