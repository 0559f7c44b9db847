/- Contracts of sort.Search, Water and its closures. -/
import Derived.Test.YtogabjlhecnbbaaIceW
namespace Go.Proofs.Ytogabjlhecnbbaa
open Go.RowKit Go.Shelf

def vb (least most : Int) : Bool := decide (0 ≤ least ∧ least ≤ most ∧ most ≤ 20000)
set_option maxHeartbeats 400000 in
theorem vb_any (a b : Int) (w : World) : Calls Try.prog 50 #[iv a, iv b] w fun e w' => e = .returned (.bool (vb a b)) ∧ w = w' := by
  by_cases h1 : 0 ≤ a
  · by_cases h2 : a ≤ b
    · by_cases h3 : b ≤ 20000
      · go_enter Try.func50, Try.ntmps50
        go_wp2
        go_ret
        exact ⟨ret_bool (by simp [vb]; omega), rfl⟩
      · go_enter Try.func50, Try.ntmps50
        go_wp2
        go_ret
        exact ⟨ret_bool (by simp [vb]; omega), rfl⟩
    · go_enter Try.func50, Try.ntmps50
      go_wp2
      go_ret
      exact ⟨ret_bool (by simp [vb]; omega), rfl⟩
  · go_enter Try.func50, Try.ntmps50
    go_wp2
    go_ret
    exact ⟨ret_bool (by simp [vb]; omega), rfl⟩

set_option maxHeartbeats 400000 in
theorem lowBad (x y l : Int) (p : Nat) (t : TypeId) (w : World) (h : Has w p t #[iv l]) : Calls Try.prog 58 #[sv x y, .pointer (some ⟨p, 0, none⟩)] w fun e w' => e = .returned (.bool (decide (x < l))) ∧ Below w.heap.size w w' := by
  have hp := h.lt
  have c : w.cell? ⟨p, 0, none⟩ = some (iv l) := h.cell 0
  go_enter Try.func58, Try.ntmps58
  go_wp2
  go_ret
  exact ⟨rfl, below1 _ _⟩
set_option maxHeartbeats 400000 in
theorem highBad (x y l : Int) (p : Nat) (t : TypeId) (w : World) (h : Has w p t #[iv l]) : Calls Try.prog 60 #[sv x y, .pointer (some ⟨p, 0, none⟩)] w fun e w' => e = .returned (.bool (decide (l < y))) ∧ Below w.heap.size w w' := by
  have hp := h.lt
  have c : w.cell? ⟨p, 0, none⟩ = some (iv l) := h.cell 0
  go_enter Try.func60, Try.ntmps60
  go_wp2
  go_ret
  exact ⟨rfl, below1 _ _⟩

/-- what both closures of Water stand upon -/
structure WIn (w : World) (B1 B2 B3 : Nat) (w1 w2 p1 p2 : Int) (n : Nat) (zs : List Zn) (A : Option Addr) (cap : Nat) (l : Int) : Prop where
  wk : Has w B1 96 (wk w1 w2 p1 p2 n)
  rk : Has w B2 22 #[.slice A zs.length cap]
  lm : Has w B3 3 #[iv l]
  row : ZRow w w.heap.size A zs
  len : zs.length ≤ 24
  num : n ≤ 100
  ok : ∀ z ∈ zs, z.ok = true
  ww : win w1 w2 = true
  wp : win p1 p2 = true

theorem ZRow.below {w w' : World} {B : Nat} {A : Option Addr} {zs : List Zn} (h : ZRow w B A zs) (hb : Below B w w') : ZRow w' B A zs := fun k hk => by
  obtain ⟨g, o, e, hg, c0, c1, c2, c3⟩ := h k hk
  refine ⟨g, o, e, hg, ?_, ?_, ?_, ?_⟩ <;> rw [hb.cell (p := ⟨g, _, none⟩) hg] <;> assumption
theorem ZRow.more {w : World} {B B' : Nat} {A : Option Addr} {zs : List Zn} (h : ZRow w B A zs) (hb : B ≤ B') : ZRow w B' A zs := fun k hk => by
  obtain ⟨g, o, e, hg, c⟩ := h k hk
  exact ⟨g, o, e, Nat.lt_of_lt_of_le hg hb, c⟩
theorem WIn.below {w w' : World} {B1 B2 B3 : Nat} {w1 w2 p1 p2 : Int} {n : Nat} {zs : List Zn} {A : Option Addr} {cap : Nat} {l : Int} (h : WIn w B1 B2 B3 w1 w2 p1 p2 n zs A cap l) (hb : Below w.heap.size w w') : WIn w' B1 B2 B3 w1 w2 p1 p2 n zs A cap l :=
  ⟨h.wk.below hb h.wk.lt, h.rk.below hb h.rk.lt, h.lm.below hb h.lm.lt, (h.row.below hb).more hb.size, h.len, h.num, h.ok, h.ww, h.wp⟩

set_option maxHeartbeats 400000 in
theorem water1 (B1 B2 B3 : Nat) (w1 w2 p1 p2 l water : Int) (n : Nat) (zs : List Zn) (A : Option Addr) (cap : Nat) (w : World) (h : WIn w B1 B2 B3 w1 w2 p1 p2 n zs A cap l) (ha : 0 ≤ water) (hb : water ≤ 20000) :
    Calls Try.prog 56 #[iv water, .pointer (some ⟨B1, 0, none⟩), .pointer (some ⟨B2, 0, none⟩), .pointer (some ⟨B3, 0, none⟩)] w
      fun e w' => e = .returned (.bool (!everB w1 w2 p1 p2 water (fun x _ => decide (x < l)) n zs)) ∧ Below w.heap.size w w' := by
  have d0 : w.cell? ⟨B1, 0, none⟩ = some (iv w1) := h.wk.cell 0
  have d1 : w.cell? ⟨B1, 1, none⟩ = some (iv w2) := h.wk.cell 1
  have d2 : w.cell? ⟨B1, 2, none⟩ = some (iv p1) := h.wk.cell 2
  have d3 : w.cell? ⟨B1, 3, none⟩ = some (iv p2) := h.wk.cell 3
  have d4 : w.cell? ⟨B1, 4, none⟩ = some (iv n) := h.wk.cell 4
  have d5 : w.cell? ⟨B2, 0, none⟩ = some (.slice A zs.length cap) := h.rk.cell 0
  have H := Lib.hid h
  clear h
  have hmf : ∀ (fn : Fn) (first cap : Array Value) (w : World), (Instr.makeFunc fn first cap).run Try.prog w = .ok (.func fn first cap) w := fun _ _ _ _ => rfl
  go_enter Try.func56, Try.ntmps56
  go_wp2_with fail
  refine (ever_any 58 #[.pointer (some ⟨B3, 0, none⟩)] (fun x _ => decide (x < l)) w1 w2 p1 p2 water n zs A cap w H.out.row H.out.len H.out.num H.out.ok H.out.ww H.out.wp ha hb (enters_of Try.func58 (by kernel_rfl) rfl)
    (fun x y W hW => lowBad x y l B3 3 W (H.out.lm.below hW H.out.lm.lt))).mono ?_
  rintro e w' ⟨rfl, hb⟩
  go_wp2_with fail
  go_ret
  exact ⟨rfl, hb⟩
set_option maxHeartbeats 400000 in
theorem water2 (B1 B2 B3 : Nat) (w1 w2 p1 p2 l water : Int) (n : Nat) (zs : List Zn) (A : Option Addr) (cap : Nat) (w : World) (h : WIn w B1 B2 B3 w1 w2 p1 p2 n zs A cap l) (ha : 0 ≤ water) (hb : water ≤ 20000) :
    Calls Try.prog 59 #[iv water, .pointer (some ⟨B1, 0, none⟩), .pointer (some ⟨B2, 0, none⟩), .pointer (some ⟨B3, 0, none⟩)] w
      fun e w' => e = .returned (.bool (everB w1 w2 p1 p2 water (fun _ y => decide (l < y)) n zs)) ∧ Below w.heap.size w w' := by
  have d0 : w.cell? ⟨B1, 0, none⟩ = some (iv w1) := h.wk.cell 0
  have d1 : w.cell? ⟨B1, 1, none⟩ = some (iv w2) := h.wk.cell 1
  have d2 : w.cell? ⟨B1, 2, none⟩ = some (iv p1) := h.wk.cell 2
  have d3 : w.cell? ⟨B1, 3, none⟩ = some (iv p2) := h.wk.cell 3
  have d4 : w.cell? ⟨B1, 4, none⟩ = some (iv n) := h.wk.cell 4
  have d5 : w.cell? ⟨B2, 0, none⟩ = some (.slice A zs.length cap) := h.rk.cell 0
  have H := Lib.hid h
  clear h
  have hmf : ∀ (fn : Fn) (first cap : Array Value) (w : World), (Instr.makeFunc fn first cap).run Try.prog w = .ok (.func fn first cap) w := fun _ _ _ _ => rfl
  go_enter Try.func59, Try.ntmps59
  go_wp2_with fail
  refine (ever_any 60 #[.pointer (some ⟨B3, 0, none⟩)] (fun _ y => decide (l < y)) w1 w2 p1 p2 water n zs A cap w H.out.row H.out.len H.out.num H.out.ok H.out.ww H.out.wp ha hb (enters_of Try.func60 (by kernel_rfl) rfl)
    (fun x y W hW => highBad x y l B3 3 W (H.out.lm.below hW H.out.lm.lt))).mono ?_
  rintro e w' ⟨rfl, hb⟩
  go_wp2_with fail
  go_ret
  exact ⟨rfl, hb⟩

def SearchPost (p : Int → Bool) (n : Nat) (w : World) (e : Ending) (w' : World) : Prop :=
  ∃ r : Nat, e = .returned (iv r) ∧ r ≤ n ∧ (r < n → p r = true) ∧ (0 < r → p (r - 1) = false) ∧ Below w.heap.size w w'
set_option maxHeartbeats 400000 in
theorem search_any (f : Nat) (cp : Array Value) (p : Int → Bool) (n : Nat) (w : World) (hn : n ≤ 1000000)
    (eg : ∀ args w, (callFunc f args).run Try.prog w = .ok (.enter f args) w)
    (hf : ∀ (x : Int) W, 0 ≤ x → x < n → Below w.heap.size w W → Calls Try.prog f (#[iv x] ++ cp) W fun e w' => e = .returned (.bool (p x)) ∧ Below W.heap.size W w') :
    Calls Try.prog 55 #[iv n, .func (.func f) #[] cp] w (SearchPost p n w) := by
  have HF := Lib.hid hf
  clear hf
  go_enter Try.func55, Try.ntmps55
  go_wp2
  go_loopw [5, 6] (fun a b wr => ∃ i j : Nat, i ≤ j ∧ j ≤ n ∧ a = .int .i64 i ∧ b = .int .i64 j ∧ Hid (0 < i → p (i - 1) = false) ∧ Hid (j < n → p j = true) ∧ Below w.heap.size w wr) (fun a b _ => (intOf b).toNat - (intOf a).toNat)
  case atStart => exact ⟨0, n, by omega, by omega, rfl, rfl, (fun h => absurd h (by omega)), (fun h => absurd h (by omega)), Below.refl _ _⟩
  case round =>
    obtain ⟨i, j, hij, hjn, rfl, rfl, hI, hJ, hb⟩ := hrel
    by_cases hlt : i < j
    · go_wp2_with fail
      have hh1 : ((i : Int) + j) / 2 = (((i + j) / 2 : Nat) : Int) := by omega
      refine (HF.out _ _ (by omega) (by omega) hb).mono ?_
      rintro e w1 ⟨rfl, hb1⟩
      have hb2 : Below w.heap.size w w1 := hb.trans (hb1.mono hb.size)
      clear hh1
      cases hp : p (((i : Int) + j) / 2)
      · have hp' : Hid (0 < (i + j) / 2 + 1 → p ((((i + j) / 2 + 1 : Nat) : Int) - 1) = false) := fun _ => by
          rw [show ((((i + j) / 2 + 1 : Nat) : Int) - 1) = ((i : Int) + j) / 2 by omega]; exact hp
        go_wp2_with fail
        go_roundw
        case rel => exact ⟨(i + j) / 2 + 1, j, by omega, hjn, by go_num, rfl, hp', hJ, hb2⟩
        case measure => simp [intOf]; omega
      · have hp' : Hid ((i + j) / 2 < n → p (((i + j) / 2 : Nat) : Int) = true) := fun _ => by
          rw [show ((((i + j) / 2 : Nat) : Int)) = ((i : Int) + j) / 2 by omega]; exact hp
        go_wp2_with fail
        go_roundw
        case rel => exact ⟨i, (i + j) / 2, by omega, by omega, rfl, by go_num, hI, hp', hb2⟩
        case measure => simp [intOf]; omega
    · obtain rfl : i = j := by omega
      go_wp2_with fail
      go_ret
      exact ⟨i, rfl, hjn, hJ.out, hI.out, hb⟩
theorem search_at (f : Nat) (cp : Array Value) (p : Int → Bool) (n : Nat) (N : Int) (hN : (n : Int) = N) (w : World) (hn : n ≤ 1000000)
    (eg : ∀ args w, (callFunc f args).run Try.prog w = .ok (.enter f args) w)
    (hf : ∀ (x : Int) W, 0 ≤ x → x < n → Below w.heap.size w W → Calls Try.prog f (#[iv x] ++ cp) W fun e w' => e = .returned (.bool (p x)) ∧ Below W.heap.size W w') :
    Calls Try.prog 55 #[iv N, .func (.func f) #[] cp] w (SearchPost p n w) := by
  subst hN
  exact search_any f cp p n w hn eg hf
end Go.Proofs.Ytogabjlhecnbbaa
