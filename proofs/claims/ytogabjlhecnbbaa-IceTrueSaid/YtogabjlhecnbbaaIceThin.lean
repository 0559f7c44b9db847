/- Contracts of Thin and Ints. -/
import Derived.Test.YtogabjlhecnbbaaIceLaw
import Derived.Laws.AppendOwn
import Derived.OwnWalk
import Derived.Maps.AppendAt
namespace Go.Proofs.Ytogabjlhecnbbaa
open Go.RowKit Go.Shelf
theorem Try.info3 : (Try.prog.info? 3).map (fun i => (i.zero, i.size, i.bytes)) = some (some (.int .i64 0), 1, 8) := by kernel_rfl

/-- the zones, of the first k, in which the paint may be covered by too little -/
def thinTo (zs : List Zn) (cover : Int) (k : Nat) : List Int := ((List.range k).filter fun i => decide ((zs.getD i zd).a - (zs.getD i zd).d < cover)).map fun (i : Nat) => (i : Int)
def thinR (zs : List Zn) (cover : Int) : List Int × Int :=
  if rinkOk zs = false then ([], 1) else if decide (0 ≤ cover ∧ cover ≤ 20000) = false then ([], 2) else (thinTo zs cover zs.length, 0)
theorem thinTo_len (zs : List Zn) (cover : Int) (k : Nat) : (thinTo zs cover k).length ≤ k := by
  unfold thinTo; rw [List.length_map]; have := List.length_filter_le (fun (i : Nat) => decide ((zs.getD i zd).a - (zs.getD i zd).d < cover)) (List.range k); simpa using this
theorem thinTo_yes {zs : List Zn} {cover : Int} {k : Nat} (h : (zs.getD k zd).a - (zs.getD k zd).d < cover) : thinTo zs cover (k + 1) = thinTo zs cover k ++ [(k : Int)] := by
  unfold thinTo; rw [List.range_succ, List.filter_append, List.map_append]; congr 1; rw [List.filter_cons, if_pos (by simpa using h)]; rfl
theorem thinTo_no {zs : List Zn} {cover : Int} {k : Nat} (h : ¬ (zs.getD k zd).a - (zs.getD k zd).d < cover) : thinTo zs cover (k + 1) = thinTo zs cover k := by
  unfold thinTo; rw [List.range_succ, List.filter_append, List.map_append, List.filter_cons, if_neg (by simpa using h)]; simp

/-- ints in a row of memory -/
def IRow (w : World) (B : Nat) (A : Option Addr) (xs : List Int) : Prop :=
  ∀ k (h : k < xs.length), ∃ g o, A = some ⟨g, o, none⟩ ∧ g < B ∧ w.cell? ⟨g, o + k, none⟩ = some (iv xs[k])
def ThinPost (R : List Int × Int) (w : World) (r : Ending) (w' : World) : Prop :=
  ∃ A cap, r = .returned (.tuple #[.slice A R.1.length cap, iv R.2]) ∧ Below w.heap.size w w' ∧ IRow w' w'.heap.size A R.1

theorem own_low {w : World} {B n : Nat} {e : TypeId} {size : Nat} {v : Value} {xs : List Value} (h : w.ownsRow B e size v n xs) : ∀ k, v.ownBlock = some k → B ≤ k := fun k hk => (h.lt k hk).1
theorem own_slice {w : World} {B n : Nat} {e : TypeId} {v : Value} {xs : List Int} (h : w.ownsRow B e 1 v n (xs.map (Value.int .i64))) (hn : n = xs.length) : ∃ A cap, v = .slice A xs.length cap ∧ IRow w w.heap.size A xs ∧ xs.length ≤ cap := by
  subst hn
  obtain ⟨_, (⟨rfl, h0⟩ | ⟨g, cap, cur, rfl, hB, hg, h1, h2, h3, h4⟩)⟩ := h
  · exact ⟨none, 0, by rw [h0], fun k hk => absurd hk (by omega), by omega⟩
  · refine ⟨some ⟨g, 0, none⟩, cap, rfl, fun k hk => ⟨g, 0, rfl, (Array.getElem?_eq_some_iff.1 hg).1, ?_⟩, h1⟩
    have hh : Has w g e cur := hg
    rw [Nat.zero_add, hh.cell]
    have hk2 : (cur.toList.take (xs.length * 1))[k]? = some (iv xs[k]) := by rw [h4]; simp [hk]
    rw [List.getElem?_take_of_lt (by omega)] at hk2
    simpa using hk2
set_option maxRecDepth 100000 in
set_option maxHeartbeats 2000000 in
theorem thin_any (zs : List Zn) (cover : Int) (A : Option Addr) (cap : Nat) (w : World) (hz : ZRow w w.heap.size A zs) (hl : zs.length ≤ 9223372036854775807) :
    Calls Try.prog 17 #[.slice A zs.length cap, iv cover] w (ThinPost (thinR zs cover) w) := by
  obtain ⟨i0, hi, hz0, hz1, hz2⟩ := info_parts Try.info3
  cases hr : rinkOk zs
  · have hR : Hid (thinR zs cover = ([], 1)) := by show _ = _; simp [thinR, hr]
    go_enter Try.func17, Try.ntmps17
    go_wp2_with fail
    refine (vr_any zs A cap _ hz hl).mono ?_
    rintro r wa ⟨rfl, hb⟩
    go_wp2_with fail
    go_ret2
    rw [hR.out]; exact ⟨none, 0, rfl, hb, fun k h => absurd h (by simp)⟩
  by_cases hc1 : cover < 0
  · have hR : Hid (thinR zs cover = ([], 2)) := by show _ = _; simp [thinR, hr]; omega
    go_enter Try.func17, Try.ntmps17
    go_wp2_with fail
    refine (vr_any zs A cap _ hz hl).mono ?_
    rintro r wa ⟨rfl, hb⟩
    go_wp2_with fail
    go_ret2
    rw [hR.out]; exact ⟨none, 0, rfl, hb, fun k h => absurd h (by simp)⟩
  have hd1 : decide (cover < 0) = false := by simpa using hc1
  by_cases hc2 : 20000 < cover
  · have hR : Hid (thinR zs cover = ([], 2)) := by show _ = _; simp [thinR, hr]; omega
    go_enter Try.func17, Try.ntmps17
    go_wp2_with fail
    refine (vr_any zs A cap _ hz hl).mono ?_
    rintro r wa ⟨rfl, hb⟩
    go_wp2_with fail
    go_ret2
    rw [hR.out]; exact ⟨none, 0, rfl, hb, fun k h => absurd h (by simp)⟩
  have hd2 : decide (20000 < cover) = false := by simpa using hc2
  have hR : Hid (thinR zs cover = (thinTo zs cover zs.length, 0)) := by show _ = _; simp [thinR, hr]; omega
  have HR := Lib.hid (rink_parts hr)
  have hzl : zs.length ≤ 24 := (rink_parts hr).1
  go_enter Try.func17, Try.ntmps17
  go_wp2_with fail
  refine (vr_any zs A cap _ hz hl).mono ?_
  rintro r wa ⟨rfl, hba⟩
  go_wp2_with fail
  clear hr
  go_loopw [20, 6] (fun t v wr => ∃ k : Nat, k ≤ zs.length ∧ t = .int .i64 k ∧ Below w.heap.size w wr ∧ wr.ownsRow w.heap.size 3 1 v (thinTo zs cover k).length ((thinTo zs cover k).map (Value.int .i64))) (fun t _ _ => zs.length - (intOf t).toNat)
  case atStart => exact ⟨0, Nat.zero_le _, rfl, hba, World.ownsRow_nil _ _ _ _⟩
  case round =>
    obtain ⟨k, hk, rfl, hb, hown⟩ := hrel
    by_cases hlt : k < zs.length
    · obtain ⟨g, o, rfl, hg, c0, c1, c2, c3⟩ := hz k hlt
      rw [← hb.cell (p := ⟨g, _, none⟩) hg] at c0 c1 c2 c3
      have hgr : g < wr.heap.size := Nat.lt_of_lt_of_le hg hb.size
      have hzk := HR.out.2.2 zs[k] (List.getElem_mem hlt)
      simp only [Zn.ok, Bool.and_eq_true, win_iff] at hzk
      obtain ⟨⟨x1, x2, x3⟩, x4, x5, x6⟩ := hzk
      have hgd : zs.getD k zd = zs[k] := by simp [hlt]
      by_cases hth : zs[k].a - zs[k].d < cover
      · have hTY := Lib.hid (thinTo_yes (zs := zs) (cover := cover) (k := k) (by rw [hgd]; exact hth))
        have hlen := thinTo_len zs cover k
        clear hgd
        go_wp2_with (at_builtin; refine wpList_append_own _ rfl _ _ 33 rfl w.heap.size 3 i0 (.int .i64 0) 1 8 Try.underlying33 hi hz0 hz1 hz2 rfl (by decide) _ _ _ rfl ((hown.alloc _).alloc _) ⟨wr.heap.size + 1, 0, none⟩ 1 1 [.int .i64 k] rfl rfl ?c1 ?c2 ?c3 ?c4 ?c5 ?_)
        case c1 =>
          have := cell_one_new (wr.alloc (.cells #[.int .i64 zs[k].a, .int .i64 zs[k].b, .int .i64 zs[k].c, .int .i64 zs[k].d] 60)) (.int .i64 k) 3
          rwa [World.size_alloc] at this
        case c2 => simp [Value.oneCell']
        case c3 => unfold maxLen; omega
        case c4 => omega
        case c5 => simp; have := hb.size; omega
        intro v' w1 hown' hgrow _
        have hb1 : Below w.heap.size w w1 := ((hb.alloc hb.size _).alloc (by have := hb.size; simp; omega) _).grown hgrow (by have := hb.size; simp; omega) (own_low hown)
        have hown2 : w1.ownsRow w.heap.size 3 1 v' (thinTo zs cover (k + 1)).length ((thinTo zs cover (k + 1)).map (Value.int .i64)) := by
          rw [hTY.out]; simpa using hown'
        clear hown' hgrow hTY hown
        go_wp2_with fail
        go_roundw
        case rel => exact ⟨k + 1, by omega, by go_num, hb1, hown2⟩
        case measure => simp [intOf]; omega
      · have hTN := Lib.hid (thinTo_no (zs := zs) (cover := cover) (k := k) (by rw [hgd]; exact hth))
        clear hgd
        go_wp2_with fail
        go_roundw
        case rel => exact ⟨k + 1, by omega, by go_num, hb.alloc hb.size _, by rw [hTN.out]; exact hown.alloc _⟩
        case measure => simp [intOf]; omega
    · have hkz : k = zs.length := by omega
      subst hkz
      go_wp2_with fail
      go_ret2
      obtain ⟨A1, cap1, e1, hI, _⟩ := own_slice hown rfl
      rw [hR.out]
      exact ⟨A1, cap1, by rw [← e1]; rfl, hb, hI⟩

set_option maxRecDepth 100000 in
set_option maxHeartbeats 800000 in
theorem ints_any (xs ys : List Int) (A A' : Option Addr) (cap cap' : Nat) (w : World) (hx : IRow w w.heap.size A xs) (hy : IRow w w.heap.size A' ys) (hl : xs.length ≤ 9223372036854775807) (hl' : ys.length ≤ 9223372036854775807) :
    Calls Try.prog 20 #[.slice A xs.length cap, .slice A' ys.length cap'] w fun e w' => e = .returned (.bool (decide (xs = ys))) ∧ Below w.heap.size w w' := by
  by_cases hlen : xs.length = ys.length
  · have hq : ((xs.length : Int) != (ys.length : Int)) = false := by simp [hlen]
    have HL := Lib.hid hlen
    clear hlen
    go_enter Try.func20, Try.ntmps20
    go_wp2
    go_loopw [5] (fun t wr => ∃ k : Nat, k ≤ xs.length ∧ t = .int .i64 k ∧ Hid (xs.take k = ys.take k) ∧ Below w.heap.size w wr) (fun t _ => xs.length - (intOf t).toNat)
    case atStart => exact ⟨0, Nat.zero_le _, rfl, (by show _ = _; simp), Below.refl _ _⟩
    case round =>
      obtain ⟨k, hk, rfl, hT, hb⟩ := hrel
      by_cases hlt : k < xs.length
      · have hlt' : k < ys.length := by have := HL.out; omega
        obtain ⟨g, o, rfl, hg, c0⟩ := hx k hlt
        obtain ⟨g', o', rfl, hg', d0⟩ := hy k hlt'
        rw [← hb.cell (p := ⟨g, _, none⟩) hg] at c0
        rw [← hb.cell (p := ⟨g', _, none⟩) hg'] at d0
        have hI : (k : Int) < xs.length := by omega
        have hI' : (k : Int) < ys.length := by omega
        by_cases hxy : xs[k] = ys[k]
        · have hqq : (xs[k] != ys[k]) = false := by simp [hxy]
          have HX : Hid (xs.take (k + 1) = ys.take (k + 1)) := by
            show _ = _
            rw [List.take_succ_eq_append_getElem hlt, List.take_succ_eq_append_getElem hlt', hT.out, hxy]
          clear hxy
          obtain ⟨x, hx0⟩ : ∃ x, x = xs[k] := ⟨_, rfl⟩
          obtain ⟨y, hy0⟩ : ∃ y, y = ys[k] := ⟨_, rfl⟩
          rw [← hx0] at c0 hqq
          rw [← hy0] at d0 hqq
          clear hx0 hy0
          go_wp2
          refine still_all (by kernel_rfl) (by kernel_rfl) ?_
          repeat still_step
          refine wpStill_nil ?_
          go_wp2
          go_roundw
          case rel => exact ⟨k + 1, by omega, by go_num, HX, hb.drew⟩
          case measure => simp [intOf]; omega
        · have hqq : (xs[k] != ys[k]) = true := by simp [hxy]
          have HX : Hid (decide (xs = ys) = false) := by
            show _ = _
            simp only [decide_eq_false_iff_not]
            intro e; subst e; exact hxy rfl
          clear hxy
          obtain ⟨x, hx0⟩ : ∃ x, x = xs[k] := ⟨_, rfl⟩
          obtain ⟨y, hy0⟩ : ∃ y, y = ys[k] := ⟨_, rfl⟩
          rw [← hx0] at c0 hqq
          rw [← hy0] at d0 hqq
          clear hx0 hy0
          go_wp2
          refine still_all (by kernel_rfl) (by kernel_rfl) ?_
          repeat still_step
          refine wpStill_nil ?_
          go_wp2
          go_ret
          exact ⟨ret_bool HX.out.symm, hb.drew⟩
      · have HX : Hid (decide (xs = ys) = true) := by
          show _ = _
          have h1 := hT.out
          have h2 := HL.out
          rw [List.take_of_length_le (by omega), List.take_of_length_le (by omega)] at h1
          simpa using h1
        go_wp2
        go_ret
        exact ⟨ret_bool HX.out.symm, hb⟩
  · have hq : ((xs.length : Int) != (ys.length : Int)) = true := by simp; omega
    have HX : Hid (decide (xs = ys) = false) := by
      show _ = _
      simp only [decide_eq_false_iff_not]
      intro e; subst e; exact hlen rfl
    clear hlen
    go_enter Try.func20, Try.ntmps20
    go_wp2
    go_ret
    exact ⟨ret_bool HX.out.symm, Below.refl _ _⟩
end Go.Proofs.Ytogabjlhecnbbaa
