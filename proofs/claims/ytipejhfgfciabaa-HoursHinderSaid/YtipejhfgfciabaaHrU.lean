/- Contracts: members, Or, ahead. -/
import Derived.Test.YtipejhfgfciabaaHrT
namespace Go.Proofs.Ytipejhfgfciabaa
open Go.RowKit Go.Shelf
def ivl (l : List Int) : List Value := l.map (Value.int .i64)
theorem ivl_one (l : List Int) : ∀ u ∈ ivl l, u.oneCell' = true := by
  intro u hu
  obtain ⟨z, _, rfl⟩ := List.mem_map.1 hu
  rfl
theorem own_step {w w' : World} {base n : Nat} {e : TypeId} {size : Nat} {v : Value} {xs : List Value} (h : w.ownsRow base e size v n xs) (hb : Below w.heap.size w w') : w'.ownsRow base e size v n xs :=
  h.kept (row := none) ⟨hb.os, hb.tape, hb.output, hb.size, fun k hk _ => hb.block k hk⟩ (Classical.em _)
theorem grown_below {B : Nat} {w w' : World} {row : Option Nat} (hg : w.grownBy w' row) (hB : B ≤ w.heap.size) (hr : ∀ k, row = some k → B ≤ k) : Below B w w' :=
  ⟨hg.os, hg.tape, hg.output, hg.size, fun k hk => hg.block k (by omega) (fun e => by have := hr k e.symm; omega)⟩
/-- the groups of a set of bits, of the first k -/
def memTo (s k : Nat) : List Int := ((List.range k).filter fun i => decide (s / 2 ^ i % 2 = 1)).map fun (i : Nat) => (i : Int)
abbrev memL (s : Nat) : List Int := memTo s 5
theorem memTo_yes {s k : Nat} (h : s / 2 ^ k % 2 = 1) : memTo s (k + 1) = memTo s k ++ [(k : Int)] := by
  unfold memTo; rw [List.range_succ, List.filter_append, List.map_append]; simp [h]
theorem memTo_no {s k : Nat} (h : ¬ s / 2 ^ k % 2 = 1) : memTo s (k + 1) = memTo s k := by
  unfold memTo; rw [List.range_succ, List.filter_append, List.map_append]; simp [h]
theorem memTo_len (s k : Nat) : (memTo s k).length ≤ k := by
  unfold memTo; rw [List.length_map]; exact Nat.le_trans (List.length_filter_le _ _) (by simp)
/-- a new row of numbers, nil where it is empty -/
def NilRow (l : List Int) (W : World) (e : Ending) (W' : World) : Prop :=
  ∃ A c, e = .returned (.slice A l.length c) ∧ IRow W' W'.heap.size A l ∧ Below W.heap.size W W' ∧ (l = [] → A = none ∧ c = 0) ∧ (l ≠ [] → ∃ g, A = some ⟨g, 0, none⟩)
set_option maxRecDepth 100000 in
set_option maxHeartbeats 1200000 in
theorem members_any (s : Nat) (hs : s < 32) (W : World) : Calls Try.prog 85 #[.int .i64 s] W (NilRow (memL s) W) := by
  obtain ⟨i0, hi, hz0, hz1, hz2⟩ := info_parts Try.info3
  have HLE := Lib.hid (fun k => memTo_len s k)
  have HAN : Hid (∀ k : Nat, bits BinOp.and IntKind.i64 ((s : Int) / 2 ^ k) 1 = ((s / 2 ^ k % 2 : Nat) : Int)) := Lib.hid fun k => by
    rw [and_one (shr_bd (k := k) ⟨by omega, by omega⟩)]
    simp
  go_enter Try.func85, Try.ntmps85
  go_wp2_with fail
  go_loopg [3, 5] 5 (fun gk v i wr => ∃ k : Nat, k ≤ 5 ∧ 5 - k ≤ gk ∧ i = .int .i64 k ∧ Hid (Below W.heap.size W wr ∧ wr.ownsRow W.heap.size 3 1 v (memTo s k).length (ivl (memTo s k)) ∧ (memTo s k = [] → v = .slice none 0 0)))
  case atStart => exact ⟨0, Nat.zero_le _, by omega, rfl, Lib.hid ⟨Below.refl _ _, World.ownsRow_nil _ W.heap.size 3 1, fun _ => rfl⟩⟩
  case round =>
    obtain ⟨k, hk, hgk, rfl, HW⟩ := hrel
    obtain ⟨A, c, hv, hrow⟩ := row_of_own HW.out.2.1
    subst hv
    have HRow := Lib.hid hrow
    clear hrow
    by_cases hlt : k < 5
    rotate_left
    · have hge : ¬ (k : Int) < 5 := by omega
      have hke : k = 5 := by omega
      subst hke
      go_wp2_with fail
      go_ret
      refine ⟨A, c, rfl, HRow.out, HW.out.1, fun h => ?_, fun h => ?_⟩
      · have := HW.out.2.2 h
        simp only [Value.slice.injEq] at this
        exact ⟨this.1, this.2.2⟩
      · obtain ⟨g, o, rfl, _, _⟩ := HRow.out 0 (List.length_pos_iff.2 h)
        rcases HW.out.2.1.2 with ⟨e, _⟩ | ⟨g', cap, cur, e, _⟩
        · cases e
        · cases e; exact ⟨g, rfl⟩
    have hlt2 : (k : Int) < 5 := by omega
    have hlen := HLE.out k
    have hand := HAN.out k
    obtain ⟨m, hm⟩ : ∃ m, m = (memTo s k).length := ⟨_, rfl⟩
    rw [← hm] at hlen
    by_cases hbit : s / 2 ^ k % 2 = 1
    · have q0 : bits BinOp.and IntKind.i64 ((s : Int) / 2 ^ k) 1 = 1 := by rw [hand, hbit]; rfl
      have HY := Lib.hid (memTo_yes hbit)
      have HO5 := Lib.hid (hm ▸ own_step HW.out.2.1 (below_one wr (.cells #[.int .i64 k] 3)))
      have hsX := HW.out.1.size
      have HM := Lib.hid hm
      rw [← hm]
      clear hand hbit hm
      go_wp2_with (at_builtin; refine wpList_append_own _ rfl _ _ 26 rfl W.heap.size 3 i0 (.int .i64 0) 1 8 Try.underlying26 hi hz0 hz1 hz2 rfl (by decide) (.slice A m c) m (ivl (memTo s k)) rfl HO5.out ⟨wr.heap.size, 0, none⟩ 1 1 (ivl [(k : Int)]) rfl rfl (World.news_of_block (cs := #[.int .i64 k]) (Has.new wr 3 #[.int .i64 k])) (ivl_one _) ?q1 ?q2 ?q3 ?_)
      case q1 => unfold maxLen; omega
      case q2 => omega
      case q3 => (try simp only [World.size_alloc]); omega
      intro v6 w6 hown6 hgrow6 _
      have hb6 : Below W.heap.size W w6 := (HW.out.1.trans ((below_one wr (.cells #[.int .i64 k] 3)).mono hsX)).trans (grown_below hgrow6 (by rw [World.size_alloc]; exact Nat.le_succ_of_le hsX) (fun q hq => (HO5.out.lt q hq).1))
      have hown : w6.ownsRow W.heap.size 3 1 v6 (memTo s (k + 1)).length (ivl (memTo s (k + 1))) := by
        rw [HY.out]
        simp only [List.length_append, List.length_singleton, ← HM.out]
        have : ivl (memTo s k ++ [(k : Int)]) = ivl (memTo s k) ++ ivl [(k : Int)] := by simp [ivl]
        rw [this]; exact hown6
      have H6 : Hid (Below W.heap.size W w6 ∧ w6.ownsRow W.heap.size 3 1 v6 (memTo s (k + 1)).length (ivl (memTo s (k + 1))) ∧ (memTo s (k + 1) = [] → v6 = .slice none 0 0)) := Lib.hid ⟨hb6, hown, fun h => by rw [HY.out] at h; simp at h⟩
      clear hb6 hown hown6 hgrow6 hsX
      go_wp2_with fail
      go_roundg (5 - (k + 1))
      case measure => omega
      case rel => exact ⟨k + 1, by omega, by omega, by go_num, H6⟩
    · have q0 : ¬ bits BinOp.and IntKind.i64 ((s : Int) / 2 ^ k) 1 = 1 := by rw [hand]; omega
      have q1 : (bits BinOp.and IntKind.i64 ((s : Int) / 2 ^ k) 1 == 1) = false := by simpa using q0
      have HY := Lib.hid (memTo_no hbit)
      have HM := Lib.hid hm
      rw [← hm]
      clear hand hbit hm
      go_wp2_with fail
      go_roundg (5 - (k + 1))
      case measure => omega
      case rel => exact ⟨k + 1, by omega, by omega, by go_num, Lib.hid (by rw [HY.out, ← HM.out]; exact HM.out ▸ HW.out)⟩
set_option maxRecDepth 100000 in
set_option maxHeartbeats 1200000 in
theorem or_any (a b : Int) (g : Nat) (W : World) (h0 : W.cell? ⟨g, 0, none⟩ = some (.int .i64 a)) (h1 : W.cell? ⟨g, 1, none⟩ = some (.int .i64 b)) :
    Calls Try.prog 99 #[.slice (some ⟨g, 0, none⟩) 2 2] W fun e w' => e = .returned (.int .i64 (if a = 0 then b else a)) ∧ w' = W := by
  obtain ⟨r, hr⟩ : ∃ r, r = if a = 0 then b else a := ⟨_, rfl⟩
  rw [← hr]
  have HR := Lib.hid hr
  clear hr
  go_enter Try.func99, Try.ntmps99
  go_wp2_with fail
  go_loopg [8] 2 (fun gk i wr => ∃ k : Nat, k ≤ 2 ∧ 2 - k ≤ gk ∧ i = .int .i64 k ∧ wr = W ∧ Hid ((0 < k → a = 0) ∧ (1 < k → b = 0)))
  case atStart => exact ⟨0, Nat.zero_le _, by omega, rfl, rfl, Lib.hid ⟨fun h => absurd h (by omega), fun h => absurd h (by omega)⟩⟩
  case round =>
    obtain ⟨k, hk, hgk, rfl, rfl, HK⟩ := hrel
    have h3 : k = 0 ∨ k = 1 ∨ k = 2 := by omega
    rcases h3 with rfl | rfl | rfl
    · by_cases ha : a = 0
      · have HN : Hid ((0 < 1 → a = 0) ∧ (1 < 1 → b = 0)) := Lib.hid ⟨fun _ => ha, fun h => absurd h (by omega)⟩
        subst ha
        go_wp2_with fail
        go_roundg (2 - (0 + 1))
        case measure => omega
        case rel => exact ⟨0 + 1, by omega, by omega, by go_num, rfl, HN⟩
      · have HE := Lib.hid (HR.out.trans (if_neg ha))
        have ha' : (a == 0) = false := by simpa using ha
        go_wp2_with fail
        go_ret
        exact ⟨ret_int HE.out.symm, rfl⟩
    · have ha := HK.out.1 (by omega)
      have HE := Lib.hid (HR.out.trans (if_pos ha))
      by_cases hb : b = 0
      · have HN : Hid ((0 < 2 → a = 0) ∧ (1 < 2 → b = 0)) := Lib.hid ⟨fun _ => ha, fun _ => hb⟩
        subst hb
        clear ha
        go_wp2_with fail
        go_roundg (2 - (1 + 1))
        case measure => omega
        case rel => exact ⟨1 + 1, by omega, by omega, by go_num, rfl, HN⟩
      · have hb' : (b == 0) = false := by simpa using hb
        clear ha
        go_wp2_with fail
        go_ret
        exact ⟨ret_int HE.out.symm, rfl⟩
    · have ha := HK.out.1 (by omega)
      have hb := HK.out.2 (by omega)
      have HE : Hid (r = 0) := Lib.hid ((HR.out.trans (if_pos ha)).trans hb)
      clear ha hb
      go_wp2_with fail
      go_ret
      exact ⟨ret_int HE.out.symm, rfl⟩
def aheadN (l m : List Int) : Int := if Lib.compareInt l.length m.length = 0 then cmpL l m else Lib.compareInt l.length m.length
def aheadB (l m : List Int) : Bool := decide (aheadN l m < 0)
set_option maxRecDepth 100000 in
set_option maxHeartbeats 1200000 in
theorem ahead_any (l m : List Int) (A A' : Option Addr) (c d B B' : Nat) (W : World) (h1 : IRow W B A l) (h2 : IRow W B' A' m) (hl : l.length ≤ 1000000) :
    Calls Try.prog 86 #[.slice A l.length c, .slice A' m.length d] W (BoolPost (aheadB l m) W) := by
  have HC := Lib.hid (fun w => Go.Proofs.Try.cmp_Compare_int (l.length : Int) (m.length : Int) w)
  have HS := Lib.hid (compareS_any l m A A' c d B B' W h1 h2 hl)
  have hd : aheadN l m = if Lib.compareInt (l.length : Int) (m.length : Int) = 0 then cmpL l m else Lib.compareInt (l.length : Int) (m.length : Int) := rfl
  have he : aheadB l m = decide (aheadN l m < 0) := rfl
  rw [he]
  clear he h1 h2
  obtain ⟨x, hx⟩ : ∃ x, x = Lib.compareInt (l.length : Int) (m.length : Int) := ⟨_, rfl⟩
  obtain ⟨y, hy⟩ : ∃ y, y = cmpL l m := ⟨_, rfl⟩
  obtain ⟨z, hz⟩ : ∃ z, z = aheadN l m := ⟨_, rfl⟩
  rw [← hx, ← hy, ← hz] at hd
  rw [← hz]
  rw [← hx] at HC
  rw [← hy] at HS
  have HD := Lib.hid hd
  clear hx hy hz hd
  go_enter Try.func86, Try.ntmps86
  go_wp2_with fail
  refine (HC.out _).mono ?_
  rintro e w1 ⟨rfl, rfl⟩
  go_wp2_with fail
  refine HS.out.mono ?_
  rintro e w2 ⟨rfl, rfl⟩
  have HO := Lib.hid (or_any x y w2.heap.size (w2.alloc (.cells #[.int .i64 x, .int .i64 y] 3)) ((Has.new w2 3 #[.int .i64 x, .int .i64 y]).cell 0) ((Has.new w2 3 #[.int .i64 x, .int .i64 y]).cell 1))
  rw [← HD.out] at HO
  go_wp2_with fail
  refine HO.out.mono ?_
  rintro e w3 ⟨rfl, rfl⟩
  by_cases hz : z < 0
  all_goals
    go_wp2_with fail
    go_ret
    exact ⟨ret_bool (by first | (simp; done) | (simp; omega)), below_one _ _⟩
end Go.Proofs.Ytipejhfgfciabaa
