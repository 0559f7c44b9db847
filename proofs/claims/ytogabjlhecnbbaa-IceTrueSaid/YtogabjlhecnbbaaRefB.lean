/- Contracts of the document's Side, goes, Water. -/
import Derived.Test.YtogabjlhecnbbaaRefA
import Derived.Test.YtogabjlhecnbbaaIceY
namespace Go.Proofs.Ytogabjlhecnbbaa
open Go.RowKit Go.Shelf

def side (n w p a : Int) : Int := max 0 (max 0 (n - w) - p) + a
theorem ret_int {a b : Int} (h : a = b) : Ending.returned (.int .i64 a) = .returned (iv b) := by rw [h]

set_option maxHeartbeats 400000 in
theorem side_any (n v p a : Int) (w : World) (h1 : 0 ≤ n) (h2 : n ≤ 10000000) (h3 : 0 ≤ v) (h4 : v ≤ 20000) (h5 : 0 ≤ p) (h6 : p ≤ 20000) (h7 : 0 ≤ a) (h8 : a ≤ 20000) :
    Calls Try.prog 72 #[iv n, iv v, iv p, iv a] w fun e w' => e = .returned (iv (side n v p a)) ∧ w = w' := by
  go_enter Try.func72, Try.ntmps72
  go_wp2
  all_goals
    go_ret
    exact ⟨ret_int (by unfold side; omega), rfl⟩

theorem two_boxes {w wr : World} {w1 w2 p1 p2 : Int} (h1 : Has wr w.heap.size 27 #[iv w1, iv w2]) (h2 : Has wr (w.heap.size + 1) 27 #[iv p1, iv p2]) :
    wr.cell? ⟨w.heap.size, 0, none⟩ = some (iv w1) ∧ wr.cell? ⟨w.heap.size, 1, none⟩ = some (iv w2) ∧ wr.cell? ⟨w.heap.size + 1, 0, none⟩ = some (iv p1) ∧ wr.cell? ⟨w.heap.size + 1, 1, none⟩ = some (iv p2) :=
  ⟨h1.cell 0, h1.cell 1, h2.cell 0, h2.cell 1⟩

set_option maxHeartbeats 2000000 in
theorem goesLo_any (w1 w2 p1 p2 water limit : Int) (n : Nat) (zs : List Zn) (A : Option Addr) (cap : Nat) (w : World) (hz : ZRow w w.heap.size A zs) (hl : zs.length ≤ 24) (hn : n ≤ 100)
    (hok : ∀ z ∈ zs, z.ok = true) (hw : win w1 w2 = true) (hp : win p1 p2 = true) (hwa : 0 ≤ water) (hwb : water ≤ 20000) :
    Calls Try.prog 62 #[.slice A zs.length cap, sv w1 w2, sv p1 p2, iv n, iv limit, iv water, .bool true] w
      fun e w' => e = .returned (.bool (!everB w1 w2 p1 p2 water (fun x _ => decide (x < limit)) n zs)) ∧ Below w.heap.size w w' := by
  obtain ⟨bad, hbadE⟩ : ∃ f : Int → Int → Bool, f = (fun x _ => decide (x < limit)) := ⟨_, rfl⟩
  rw [← hbadE]
  have HOK := Lib.hid hok
  have HW := Lib.hid hw
  have HP := Lib.hid hp
  have HBE := Lib.hid hbadE
  clear hok hw hp hbadE
  go_enter Try.func62, Try.ntmps62
  go_wp2_with fail
  go_loopw [15] (fun i wr => ∃ k : Nat, k ≤ zs.length ∧ i = .int .i64 k ∧ NoneTo (badZ w1 w2 p1 p2 water bad n) zs k ∧ Below w.heap.size w wr ∧ Has wr w.heap.size 27 #[iv w1, iv w2] ∧ Has wr (w.heap.size + 1) 27 #[iv p1, iv p2]) (fun i _ => zs.length - (intOf i).toNat)
  case atStart => exact ⟨0, Nat.zero_le _, rfl, fun j _ h => absurd h (by omega), (below1 _ _).alloc (by simp) _, (Has.new _ _ _).alloc _, Has.newAt (by simp)⟩
  case round =>
    obtain ⟨k, hk, rfl, hno, hb, hA, hB⟩ := hrel
    by_cases hlt : k < zs.length
    · obtain ⟨g, o, rfl, hg, c0, c1, c2, c3⟩ := hz k hlt
      rw [← hb.cell (p := ⟨g, _, none⟩) hg] at c0 c1 c2 c3
      have hgr : g < wr.heap.size := Nat.lt_of_lt_of_le hg hb.size
      have hzok := HOK.out zs[k] (List.getElem_mem hlt)
      have hz1 : (0 ≤ zs[k].a ∧ zs[k].a ≤ 20000) ∧ (0 ≤ zs[k].b ∧ zs[k].b ≤ 20000) := by
        simp only [Zn.ok, Bool.and_eq_true, win_iff] at hzok; omega
      have HZ := Lib.hid hz1
      clear hz1 hzok
      obtain ⟨wo, rfl⟩ : ∃ wo : World, wo = wr := ⟨_, rfl⟩
      go_wp2_with fail
      clear c0 c1 c2 c3
      go_loopw [17, 16] (fun j nw wi => ∃ m : Nat, m ≤ n ∧ j = .int .i64 m ∧ nw = iv (passN w1 w2 p1 p2 water (zs[k].a, zs[k].b) m).1 ∧ Fine w1 w2 p1 p2 water bad (zs[k].a, zs[k].b) m ∧ wi = wo) (fun j _ _ => n - (intOf j).toNat)
      case atStart => exact ⟨0, Nat.zero_le _, rfl, rfl, fun j h => absurd h (by omega), rfl⟩
      case round =>
        obtain ⟨m, hm, rfl, rfl, hfine, rfl⟩ := hrel
        by_cases hmn : m < n
        · obtain ⟨dA0, dA1, dB0, dB1⟩ := two_boxes hA hB
          have hbd := passN_bd (s := (zs[k].a, zs[k].b)) HW.out HP.out hwa hwb HZ.out.1 HZ.out.2 m
          obtain ⟨s1, hs1⟩ : ∃ s1, s1 = (passN w1 w2 p1 p2 water (zs[k].a, zs[k].b) m).1 := ⟨_, rfl⟩
          rw [← hs1] at hbd ⊢
          have hw' := win_iff.1 HW.out
          have hp' := win_iff.1 HP.out
          have hnx : (passN w1 w2 p1 p2 water (zs[k].a, zs[k].b) (m + 1)).1 = side s1 w2 p2 water := by
            simp only [passN, pass, side, ← hs1]
          have HN := Lib.hid hnx
          have HB := Lib.hid (And.intro hbd (And.intro hw' hp'))
          clear hnx hs1 hbd hw' hp'
          have hbv : Hid (bad (passN w1 w2 p1 p2 water (zs[k].a, zs[k].b) (m + 1)).1 (passN w1 w2 p1 p2 water (zs[k].a, zs[k].b) (m + 1)).2 = decide (side s1 w2 p2 water < limit)) := by
            show _ = _
            rw [HBE.out]; simp only [HN.out]
          have hsz := hA.lt
          have hsz1 := hB.lt
          go_wp2_with fail
          refine (side_any _ _ _ _ _ (by have := HB.out; omega) (by have := HB.out; omega) (by have := HB.out; omega) (by have := HB.out; omega) (by have := HB.out; omega) (by have := HB.out; omega) hwa hwb).mono ?_
          rintro e wd ⟨rfl, rfl⟩
          obtain ⟨t1, ht1⟩ : ∃ t1, t1 = side s1 w2 p2 water := ⟨_, rfl⟩
          rw [← ht1] at hbv HN ⊢
          clear ht1
          cases hbad : decide (t1 < limit)
          · have hfs := Lib.hid (fine_succ hfine (hbv.out.trans hbad))
            go_wp2_with fail
            go_roundw
            case rel => exact ⟨m + 1, by omega, by go_num, by rw [HN.out], hfs.out, trivial⟩
            case measure => simp [intOf]; omega
          · have hfa := any_yes (p := badZ w1 w2 p1 p2 water bad n) hlt (badZ_yes hmn (hbv.out.trans hbad))
            have HFA := Lib.hid hfa
            clear hfa
            go_wp2_with fail
            go_ret
            exact ⟨ret_bool (by unfold everB; rw [HFA.out]; rfl), hb⟩
        · have hfz := Lib.hid (badZ_no (n := n) (z := zs[k]) (by omega) hfine)
          have hmd : decide (m < n) = false := by simpa using hmn
          go_wp2_with fail
          go_roundw
          case rel => exact ⟨k + 1, by omega, by go_num, noneTo_succ (hk := hlt) hno hfz.out, hb, hA, hB⟩
          case measure => simp [intOf]; omega
    · have hkd : decide (k < zs.length) = false := by simpa using hlt
      have HFA := Lib.hid (any_no hno (by omega))
      go_wp2_with fail
      go_ret
      exact ⟨ret_bool (by unfold everB; rw [HFA.out]; rfl), hb⟩

set_option maxHeartbeats 2000000 in
theorem goesHi_any (w1 w2 p1 p2 water limit : Int) (n : Nat) (zs : List Zn) (A : Option Addr) (cap : Nat) (w : World) (hz : ZRow w w.heap.size A zs) (hl : zs.length ≤ 24) (hn : n ≤ 100)
    (hok : ∀ z ∈ zs, z.ok = true) (hw : win w1 w2 = true) (hp : win p1 p2 = true) (hwa : 0 ≤ water) (hwb : water ≤ 20000) :
    Calls Try.prog 62 #[.slice A zs.length cap, sv w1 w2, sv p1 p2, iv n, iv limit, iv water, .bool false] w
      fun e w' => e = .returned (.bool (!everB w1 w2 p1 p2 water (fun _ y => decide (limit < y)) n zs)) ∧ Below w.heap.size w w' := by
  obtain ⟨bad, hbadE⟩ : ∃ f : Int → Int → Bool, f = (fun _ y => decide (limit < y)) := ⟨_, rfl⟩
  rw [← hbadE]
  have HOK := Lib.hid hok
  have HW := Lib.hid hw
  have HP := Lib.hid hp
  have HBE := Lib.hid hbadE
  clear hok hw hp hbadE
  go_enter Try.func62, Try.ntmps62
  go_wp2_with fail
  go_loopw [15] (fun i wr => ∃ k : Nat, k ≤ zs.length ∧ i = .int .i64 k ∧ NoneTo (badZ w1 w2 p1 p2 water bad n) zs k ∧ Below w.heap.size w wr ∧ Has wr w.heap.size 27 #[iv w1, iv w2] ∧ Has wr (w.heap.size + 1) 27 #[iv p1, iv p2]) (fun i _ => zs.length - (intOf i).toNat)
  case atStart => exact ⟨0, Nat.zero_le _, rfl, fun j _ h => absurd h (by omega), (below1 _ _).alloc (by simp) _, (Has.new _ _ _).alloc _, Has.newAt (by simp)⟩
  case round =>
    obtain ⟨k, hk, rfl, hno, hb, hA, hB⟩ := hrel
    by_cases hlt : k < zs.length
    · obtain ⟨g, o, rfl, hg, c0, c1, c2, c3⟩ := hz k hlt
      rw [← hb.cell (p := ⟨g, _, none⟩) hg] at c0 c1 c2 c3
      have hgr : g < wr.heap.size := Nat.lt_of_lt_of_le hg hb.size
      have hzok := HOK.out zs[k] (List.getElem_mem hlt)
      have hz1 : (0 ≤ zs[k].a ∧ zs[k].a ≤ 20000) ∧ (0 ≤ zs[k].b ∧ zs[k].b ≤ 20000) := by
        simp only [Zn.ok, Bool.and_eq_true, win_iff] at hzok; omega
      have HZ := Lib.hid hz1
      clear hz1 hzok
      obtain ⟨wo, rfl⟩ : ∃ wo : World, wo = wr := ⟨_, rfl⟩
      go_wp2_with fail
      clear c0 c1 c2 c3
      go_loopw [17, 16] (fun j nw wi => ∃ m : Nat, m ≤ n ∧ j = .int .i64 m ∧ nw = iv (passN w1 w2 p1 p2 water (zs[k].a, zs[k].b) m).2 ∧ Fine w1 w2 p1 p2 water bad (zs[k].a, zs[k].b) m ∧ wi = wo) (fun j _ _ => n - (intOf j).toNat)
      case atStart => exact ⟨0, Nat.zero_le _, rfl, rfl, fun j h => absurd h (by omega), rfl⟩
      case round =>
        obtain ⟨m, hm, rfl, rfl, hfine, rfl⟩ := hrel
        by_cases hmn : m < n
        · obtain ⟨dA0, dA1, dB0, dB1⟩ := two_boxes hA hB
          have hbd := passN_bd (s := (zs[k].a, zs[k].b)) HW.out HP.out hwa hwb HZ.out.1 HZ.out.2 m
          obtain ⟨s1, hs1⟩ : ∃ s1, s1 = (passN w1 w2 p1 p2 water (zs[k].a, zs[k].b) m).2 := ⟨_, rfl⟩
          rw [← hs1] at hbd ⊢
          have hw' := win_iff.1 HW.out
          have hp' := win_iff.1 HP.out
          have hnx : (passN w1 w2 p1 p2 water (zs[k].a, zs[k].b) (m + 1)).2 = side s1 w1 p1 water := by
            simp only [passN, pass, side, ← hs1]
          have HN := Lib.hid hnx
          have HB := Lib.hid (And.intro hbd (And.intro hw' hp'))
          clear hnx hs1 hbd hw' hp'
          have hbv : Hid (bad (passN w1 w2 p1 p2 water (zs[k].a, zs[k].b) (m + 1)).1 (passN w1 w2 p1 p2 water (zs[k].a, zs[k].b) (m + 1)).2 = decide (limit < side s1 w1 p1 water)) := by
            show _ = _
            rw [HBE.out]; simp only [HN.out]
          have hsz := hA.lt
          have hsz1 := hB.lt
          go_wp2_with fail
          refine (side_any _ _ _ _ _ (by have := HB.out; omega) (by have := HB.out; omega) (by have := HB.out; omega) (by have := HB.out; omega) (by have := HB.out; omega) (by have := HB.out; omega) hwa hwb).mono ?_
          rintro e wd ⟨rfl, rfl⟩
          obtain ⟨t1, ht1⟩ : ∃ t1, t1 = side s1 w1 p1 water := ⟨_, rfl⟩
          rw [← ht1] at hbv HN ⊢
          clear ht1
          cases hbad : decide (limit < t1)
          · have hfs := Lib.hid (fine_succ hfine (hbv.out.trans hbad))
            go_wp2_with fail
            go_roundw
            case rel => exact ⟨m + 1, by omega, by go_num, by rw [HN.out], hfs.out, trivial⟩
            case measure => simp [intOf]; omega
          · have hfa := any_yes (p := badZ w1 w2 p1 p2 water bad n) hlt (badZ_yes hmn (hbv.out.trans hbad))
            have HFA := Lib.hid hfa
            clear hfa
            go_wp2_with fail
            go_ret
            exact ⟨ret_bool (by unfold everB; rw [HFA.out]; rfl), hb⟩
        · have hfz := Lib.hid (badZ_no (n := n) (z := zs[k]) (by omega) hfine)
          have hmd : decide (m < n) = false := by simpa using hmn
          go_wp2_with fail
          go_roundw
          case rel => exact ⟨k + 1, by omega, by go_num, noneTo_succ (hk := hlt) hno hfz.out, hb, hA, hB⟩
          case measure => simp [intOf]; omega
    · have hkd : decide (k < zs.length) = false := by simpa using hlt
      have HFA := Lib.hid (any_no hno (by omega))
      go_wp2_with fail
      go_ret
      exact ⟨ret_bool (by unfold everB; rw [HFA.out]; rfl), hb⟩

theorem srch_le (p : Int → Bool) (n : Nat) : srch p n ≤ n := by
  unfold srch
  cases h : (List.range n).find? (fun (k : Nat) => p (k : Int)) with
  | none => exact Nat.le_refl _
  | some r => exact Nat.le_of_lt (List.mem_range.1 (List.mem_of_find?_eq_some h))
theorem srch_iff {p : Int → Bool} {n j : Nat} (hm : ∀ x y : Nat, x ≤ y → y < n → p x = true → p y = true) (hj : j < n) : p j = decide (srch p n ≤ j) := by
  unfold srch
  cases h : (List.range n).find? (fun (k : Nat) => p (k : Int)) with
  | none =>
    rw [List.find?_eq_none] at h
    have := h j (List.mem_range.2 hj)
    have hnj : ¬ n ≤ j := by omega
    simp [hnj]; simpa using this
  | some r =>
    have h0 := h
    rw [List.find?_range_eq_some] at h
    obtain ⟨h1, h2, h3⟩ := h
    by_cases hr : r ≤ j
    · simp [hr]; exact hm r j hr hj h1
    · have := h3 j (by omega)
      simp [hr]; simpa using this

/-- what the document's loop holds ahead of round k -/
def acc (s1 s2 k : Nat) : Int × Int := if s1 < min k s2 then ((s1 : Int), (min k s2 : Nat) - 1) else (20001, -1)
theorem acc_yes {s1 s2 k : Nat} (hk : k ≤ 20000) (h1 : s1 ≤ k) (h2 : k < s2) : acc s1 s2 (k + 1) = (min (acc s1 s2 k).1 k, (k : Int)) := by
  unfold acc
  by_cases e : s1 = k
  · subst e
    rw [if_pos (by omega), if_neg (by omega)]
    ext <;> simp <;> omega
  · rw [if_pos (by omega), if_pos (by omega)]
    ext <;> simp <;> omega
theorem acc_no {s1 s2 k : Nat} (h : ¬ (s1 ≤ k ∧ k < s2)) : acc s1 s2 (k + 1) = acc s1 s2 k := by
  unfold acc
  by_cases h1 : s1 ≤ k
  · have : min (k + 1) s2 = min k s2 := by omega
    rw [this]
  · rw [if_neg (by omega), if_neg (by omega)]

structure WC (w W : World) (w1 w2 p1 p2 : Int) : Prop where
  b : Below w.heap.size w W
  h1 : Has W w.heap.size 27 #[iv w1, iv w2]
  h2 : Has W (w.heap.size + 1) 27 #[iv p1, iv p2]
  h3 : Has W (w.heap.size + 1 + 1) 27 #[iv 0, iv 0]
theorem WC.start (w : World) (w1 w2 p1 p2 : Int) :
    WC w (((w.alloc (.cells #[.int .i64 w1, .int .i64 w2] 27)).alloc (.cells #[.int .i64 p1, .int .i64 p2] 27)).alloc (.cells #[.int .i64 0, .int .i64 0] 27)) w1 w2 p1 p2 :=
  ⟨(((Below.refl _ w).alloc (Nat.le_refl _) _).alloc (by simp) _).alloc (by simp; omega) _, ((Has.new _ _ _).alloc _).alloc _, (Has.newAt (by simp)).alloc _, Has.newAt (by simp)⟩
theorem WC.below {w W W' : World} {w1 w2 p1 p2 : Int} (h : WC w W w1 w2 p1 p2) (hb : Below W.heap.size W W') : WC w W' w1 w2 p1 p2 :=
  ⟨h.b.trans (hb.mono h.b.size), h.h1.below hb h.h1.lt, h.h2.below hb h.h2.lt, h.h3.below hb h.h3.lt⟩
theorem WC.set {w W : World} {w1 w2 p1 p2 : Int} (h : WC w W w1 w2 p1 p2) {p : Addr} (hp : w.heap.size + 1 + 1 < p.block) (u : Value) : WC w (W.setCell p u) w1 w2 p1 p2 :=
  ⟨h.b.setCell (by omega) u, h.h1.far (by omega) u, h.h2.far (by omega) u, h.h3.far (by omega) u⟩
theorem WC.endB {w W : World} {w1 w2 p1 p2 : Int} (h : WC w W w1 w2 p1 p2) (x y : Value) :
    Below w.heap.size w ((W.setCell ⟨w.heap.size + 1 + 1, 0, none⟩ x).setCell ⟨w.heap.size + 1 + 1, 1, none⟩ y) :=
  (h.b.setCell (p := ⟨_, 0, none⟩) (by simp; omega) x).setCell (p := ⟨_, 1, none⟩) (by simp; omega) y
theorem WC.cs {w W : World} {w1 w2 p1 p2 : Int} (h : WC w W w1 w2 p1 p2) :
    (W.cell? ⟨w.heap.size, 0, none⟩ = some (iv w1) ∧ W.cell? ⟨w.heap.size, 1, none⟩ = some (iv w2) ∧ W.cell? ⟨w.heap.size + 1, 0, none⟩ = some (iv p1) ∧ W.cell? ⟨w.heap.size + 1, 1, none⟩ = some (iv p2)) ∧
    W.cell? ⟨w.heap.size + 1 + 1, 0, none⟩ = some (iv 0) ∧ W.cell? ⟨w.heap.size + 1 + 1, 1, none⟩ = some (iv 0) ∧ W.frozen? ⟨w.heap.size + 1 + 1, 0, none⟩ = false ∧ W.frozen? ⟨w.heap.size + 1 + 1, 1, none⟩ = false :=
  ⟨⟨h.h1.cell 0, h.h1.cell 1, h.h2.cell 0, h.h2.cell 1⟩, h.h3.cell 0, h.h3.cell 1, h.h3.frozen 0, h.h3.frozen 1⟩

set_option maxHeartbeats 2000000 in
theorem waterRef_any (w1 w2 p1 p2 passes least most : Int) (zs : List Zn) (A : Option Addr) (cap : Nat) (w : World) (hz : ZRow w w.heap.size A zs) (hl : zs.length ≤ 9223372036854775807) :
    Calls Try.prog 26 #[.slice A zs.length cap, sv w1 w2, sv p1 p2, iv passes, iv least, iv most] w fun e w' => e = .returned (wRes (waterR zs w1 w2 p1 p2 passes least most)) ∧ Below w.heap.size w w' := by
  have H0 := Lib.hid (WC.start w w1 w2 p1 p2)
  go_enter Try.func26, Try.ntmps26
  go_wp2_with fail
  refine (rinkR_any zs A cap _ ((hz.below H0.out.b).more H0.out.b.size) hl).mono ?_
  rintro e wa ⟨rfl, hb⟩
  have Ha := Lib.hid (H0.out.below hb)
  clear hb
  cases hr : rinkOk zs
  · have hR : Hid (waterR zs w1 w2 p1 p2 passes least most = (0, 0, 1)) := by show _ = _; simp [waterR, hr]
    obtain ⟨-, c0, c1, f0, f1⟩ := Ha.out.cs
    go_wp2_with fail
    refine bodyPost_ret (v := wRes (0, 0, 1)) (by simp [results, Try.results26, go_sem, wRes, c0, c1]) rfl ⟨by rw [hR.out], Ha.out.endB _ _⟩
  obtain ⟨⟨a0, a1, -, -⟩, -⟩ := Ha.out.cs
  have haz := Ha.out.h1.lt
  go_wp2_with fail
  refine (withinR_any w1 w2 _).mono ?_
  rintro e wb ⟨rfl, hb⟩
  have Hb := Lib.hid (Ha.out.below hb)
  clear hb a0 a1 haz
  cases hw : win w1 w2
  · have hR : Hid (waterR zs w1 w2 p1 p2 passes least most = (0, 0, 1)) := by show _ = _; simp [waterR, hw]
    obtain ⟨-, c0, c1, f0, f1⟩ := Hb.out.cs
    go_wp2_with fail
    refine bodyPost_ret (v := wRes (0, 0, 1)) (by simp [results, Try.results26, go_sem, wRes, c0, c1]) rfl ⟨by rw [hR.out], Hb.out.endB _ _⟩
  obtain ⟨⟨-, -, a0, a1⟩, -⟩ := Hb.out.cs
  have haz := Hb.out.h2.lt
  go_wp2_with fail
  refine (withinR_any p1 p2 _).mono ?_
  rintro e wc ⟨rfl, hb⟩
  have Hc := Lib.hid (Hb.out.below hb)
  clear hb a0 a1 haz Ha Hb H0
  cases hp : win p1 p2
  · have hR : Hid (waterR zs w1 w2 p1 p2 passes least most = (0, 0, 1)) := by show _ = _; simp [waterR, hp]
    obtain ⟨-, c0, c1, f0, f1⟩ := Hc.out.cs
    go_wp2_with fail
    refine bodyPost_ret (v := wRes (0, 0, 1)) (by simp [results, Try.results26, go_sem, wRes, c0, c1]) rfl ⟨by rw [hR.out], Hc.out.endB _ _⟩
  go_wp2_with fail
  refine (in_any _ _ _ _).mono ?_
  rintro e wd ⟨rfl, rfl⟩
  obtain ⟨-, c0, c1, f0, f1⟩ := Hc.out.cs
  cases b1 : inB passes 1 100
  · have hR : Hid (waterR zs w1 w2 p1 p2 passes least most = (0, 0, 2)) := by
      show _ = _
      simp only [waterR, hr, hw, hp, Bool.and_self, Bool.true_eq_false, if_false]
      rw [if_pos (by simp only [inB] at b1; rw [b1, Bool.false_and])]
    go_wp2_with fail
    refine bodyPost_ret (v := wRes (0, 0, 2)) (by simp [results, Try.results26, go_sem, wRes, c0, c1]) rfl ⟨by rw [hR.out], Hc.out.endB _ _⟩
  go_wp2_with fail
  refine (in_any _ _ _ _).mono ?_
  rintro e wd ⟨rfl, rfl⟩
  cases b2 : inB most 0 20000
  · have hR : Hid (waterR zs w1 w2 p1 p2 passes least most = (0, 0, 2)) := by
      show _ = _
      simp only [waterR, hr, hw, hp, Bool.and_self, Bool.true_eq_false, if_false]
      rw [if_pos (by rw [Bool.and_eq_false_iff]; right; simp only [inB, vb, decide_eq_false_iff_not] at b2 ⊢; omega)]
    go_wp2_with fail
    refine bodyPost_ret (v := wRes (0, 0, 2)) (by simp [results, Try.results26, go_sem, wRes, c0, c1]) rfl ⟨by rw [hR.out], Hc.out.endB _ _⟩
  go_wp2_with fail
  refine (in_any _ _ _ _).mono ?_
  rintro e wd ⟨rfl, rfl⟩
  cases b3 : inB least 0 most
  · have hR : Hid (waterR zs w1 w2 p1 p2 passes least most = (0, 0, 2)) := by
      show _ = _
      simp only [waterR, hr, hw, hp, Bool.and_self, Bool.true_eq_false, if_false]
      rw [if_pos (by rw [Bool.and_eq_false_iff]; right; simp only [inB, vb, decide_eq_false_iff_not] at b3 ⊢; omega)]
    go_wp2_with fail
    refine bodyPost_ret (v := wRes (0, 0, 2)) (by simp [results, Try.results26, go_sem, wRes, c0, c1]) rfl ⟨by rw [hR.out], Hc.out.endB _ _⟩
  have hv : vb least most = true := by simp only [inB, vb, decide_eq_true_eq] at b2 b3 ⊢; omega
  have hps : 1 ≤ passes ∧ passes ≤ 100 := by simpa only [inB, decide_eq_true_eq] using b1
  obtain ⟨n, rfl⟩ := Int.eq_ofNat_of_zero_le (show 0 ≤ passes by omega)
  have hlen : zs.length ≤ 24 ∧ ∀ z ∈ zs, z.ok = true := by
    simp only [rinkOk, Bool.and_eq_true, decide_eq_true_eq, List.all_eq_true] at hr
    exact ⟨hr.1.2, hr.2⟩
  have hR : Hid (waterR zs w1 w2 p1 p2 n least most = if srch (high w1 w2 p1 p2 n most zs) 20001 ≤ srch (low w1 w2 p1 p2 n least zs) 20001 then (0, 0, 4) else ((srch (low w1 w2 p1 p2 n least zs) 20001 : Int), (srch (high w1 w2 p1 p2 n most zs) 20001 : Int) - 1, 0)) := by
    show _ = _
    simp only [inB] at b1
    simp only [waterR, hr, hw, hp, hv, b1, Bool.and_self, Bool.true_eq_false, if_false, Int.toNat_natCast]
  have HL := Lib.hid (And.intro hlen (And.intro hw (And.intro hp hps)))
  have h1i := Lib.hid (fun j (hj : j < 20001) => srch_iff (p := low w1 w2 p1 p2 n least zs) (n := 20001) (j := j) (fun x y hxy _ h => low_mono (by omega) h) hj)
  have h2i := Lib.hid (fun j (hj : j < 20001) => srch_iff (p := high w1 w2 p1 p2 n most zs) (n := 20001) (j := j) (fun x y hxy _ h => high_mono (by omega) h) hj)
  have hs2l := srch_le (high w1 w2 p1 p2 n most zs) 20001
  obtain ⟨s1, hs1⟩ : ∃ s, s = srch (low w1 w2 p1 p2 n least zs) 20001 := ⟨_, rfl⟩
  obtain ⟨s2, hs2⟩ : ∃ s, s = srch (high w1 w2 p1 p2 n most zs) 20001 := ⟨_, rfl⟩
  rw [← hs1, ← hs2] at hR
  rw [← hs1] at h1i
  rw [← hs2] at h2i hs2l
  clear hs1 hs2 hlen hw hp hps hr hv b1 b2 b3
  have HS2 := Lib.hid hs2l
  clear hs2l
  go_wp2_with fail
  clear c0 c1 f0 f1
  have HB0 : Hid (Below wc.heap.size wc (wc.alloc (.cells #[.int .i64 20001, .int .i64 (-1)] 27))) := Lib.hid (below1 _ _)
  go_loopw [15] (fun i wr => ∃ k : Nat, k ≤ 20001 ∧ i = .int .i64 k ∧ WC w wr w1 w2 p1 p2 ∧ Has wr wc.heap.size 27 #[iv (acc s1 s2 k).1, iv (acc s1 s2 k).2]) (fun i _ => 20001 - (intOf i).toNat)
  case atStart => exact ⟨0, Nat.zero_le _, rfl, Hc.out.below HB0.out, Has.new _ _ _⟩
  case round =>
    obtain ⟨k, hk, rfl, hC, hO⟩ := hrel
    have HC := Lib.hid hC
    have HO := Lib.hid hO
    have hszc := Hc.out.h3.lt
    have HSZ := Lib.hid hszc
    clear hC hO hszc
    have hzr := Lib.hid ((hz.below HC.out.b).more HC.out.b.size)
    by_cases hlt : k ≤ 20000
    · have hltI : (k : Int) ≤ 20000 := by omega
      obtain ⟨⟨a0, a1, a2, a3⟩, -⟩ := HC.out.cs
      have q1 := HC.out.h1.lt
      have q2 := HC.out.h2.lt
      go_wp2_with fail
      refine (goesLo_any w1 w2 p1 p2 k least n zs A cap wr hzr.out HL.out.1.1 (by have := HL.out; omega) HL.out.1.2 HL.out.2.1 HL.out.2.2.1 (by omega) (by omega)).mono ?_
      rintro e wx ⟨rfl, hb⟩
      have HC1 := Lib.hid (HC.out.below hb)
      have HO1 := Lib.hid (HO.out.below hb HO.out.lt)
      have hzr1 := Lib.hid ((hz.below HC1.out.b).more HC1.out.b.size)
      clear hb a0 a1 a2 a3 q1 q2
      have hlow : low w1 w2 p1 p2 n least zs k = decide (s1 ≤ k) := h1i.out k (by omega)
      unfold low at hlow
      rw [hlow]
      clear hlow
      cases hd1 : decide (s1 ≤ k)
      · have ha := Lib.hid (acc_no (s1 := s1) (s2 := s2) (k := k) (by simp at hd1; omega))
        go_wp2_with fail
        go_roundw
        case rel => exact ⟨k + 1, by omega, by go_num, HC1.out, by rw [ha.out]; exact HO1.out⟩
        case measure => simp [intOf]; omega
      · obtain ⟨⟨a0, a1, a2, a3⟩, -⟩ := HC1.out.cs
        have q1 := HC1.out.h1.lt
        have q2 := HC1.out.h2.lt
        go_wp2_with fail
        refine (goesHi_any w1 w2 p1 p2 k most n zs A cap wx hzr1.out HL.out.1.1 (by have := HL.out; omega) HL.out.1.2 HL.out.2.1 HL.out.2.2.1 (by omega) (by omega)).mono ?_
        rintro e wy ⟨rfl, hb⟩
        have HC2 := Lib.hid (HC1.out.below hb)
        have HO2 := Lib.hid (HO1.out.below hb HO1.out.lt)
        clear hb a0 a1 a2 a3 q1 q2
        have hhigh : high w1 w2 p1 p2 n most zs k = decide (s2 ≤ k) := h2i.out k (by omega)
        unfold high at hhigh
        rw [hhigh]
        clear hhigh
        cases hd2 : decide (s2 ≤ k)
        · have ha := Lib.hid (acc_yes (s1 := s1) (s2 := s2) (k := k) hlt (by simpa using hd1) (by simpa using hd2))
          have o0 : wy.cell? ⟨wc.heap.size, 0, none⟩ = some (iv (acc s1 s2 k).1) := HO2.out.cell 0
          have o1 : wy.cell? ⟨wc.heap.size, 1, none⟩ = some (iv (acc s1 s2 k).2) := HO2.out.cell 1
          have g0 := HO2.out.frozen 0
          have g1 := HO2.out.frozen 1
          have gl := HO2.out.lt
          obtain ⟨m1, hm1⟩ : ∃ m, m = (acc s1 s2 k).1 := ⟨_, rfl⟩
          rw [← hm1] at o0 ha
          have HM := Lib.hid hm1
          clear hm1
          go_wp2_with fail
          all_goals go_roundw
          all_goals try (simp [intOf]; omega)
          refine ⟨k + 1, by omega, by go_num, (HC2.out.set (p := ⟨_, 0, none⟩) HSZ.out _).set (p := ⟨_, 1, none⟩) HSZ.out _, ?_⟩
          rw [ha.out]
          have hm : (if (k : Int) < m1 then (k : Int) else m1) = min m1 k := by split <;> omega
          have := (HO2.out.set 0 (iv (if (k : Int) < m1 then (k : Int) else m1))).set 1 (iv k)
          rw [← hm]
          exact this
        · have ha := Lib.hid (acc_no (s1 := s1) (s2 := s2) (k := k) (by simp at hd2; omega))
          go_wp2_with fail
          go_roundw
          case rel => exact ⟨k + 1, by omega, by go_num, HC2.out, by rw [ha.out]; exact HO2.out⟩
          case measure => simp [intOf]; omega
    · obtain rfl : k = 20001 := by omega
      obtain ⟨-, c0, c1, f0, f1⟩ := HC.out.cs
      have o0 : wr.cell? ⟨wc.heap.size, 0, none⟩ = some (iv (acc s1 s2 20001).1) := HO.out.cell 0
      have o1 : wr.cell? ⟨wc.heap.size, 1, none⟩ = some (iv (acc s1 s2 20001).2) := HO.out.cell 1
      have gl := HO.out.lt
      have hs2 := HS2.out
      by_cases hss : s2 ≤ s1
      · have he : acc s1 s2 20001 = (20001, -1) := by unfold acc; rw [if_neg (by omega)]
        have hR' := hR.out
        rw [if_pos hss] at hR'
        have HR := Lib.hid hR'
        rw [he] at o0 o1
        clear he hR' hR
        go_wp2_with fail
        refine bodyPost_ret (v := wRes (0, 0, 4)) (by simp [results, Try.results26, go_sem, wRes, c0, c1]) rfl ⟨by rw [HR.out], HC.out.endB _ _⟩
      · have he : acc s1 s2 20001 = ((s1 : Int), (s2 : Int) - 1) := by
          unfold acc; rw [if_pos (by omega)]; ext <;> simp <;> omega
        have hR' := hR.out
        rw [if_neg hss] at hR'
        have HR := Lib.hid hR'
        rw [he] at o0 o1
        clear he hR' hR
        go_wp2_with fail
        refine bodyPost_ret (v := wRes (s1, (s2 : Int) - 1, 0)) (by simp [results, Try.results26, go_sem, wRes, c0, c1]) rfl ⟨by rw [HR.out], HC.out.endB _ _⟩
end Go.Proofs.Ytogabjlhecnbbaa
