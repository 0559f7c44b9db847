/- Contracts of the small functions of package ice: the walks of withinIce, validRink and what they call. -/
import Derived.Test.YtogabjlhecnbbaaProg
import Derived.WalkKit
import Derived.LoopTactic
import Derived.RegionTactic
import Derived.ChangeAlike
import Derived.Outline
import Derived.WalkLawsBesides
import Derived.WalkSpells
import Derived.Lib.Hide
import Derived.Below
import Derived.Deep.DeepFit
import Derived.BigGuardPart
import Derived.RangeFuncCalls
import Derived.Shelf.Abstract
namespace Go.Proofs.Ytogabjlhecnbbaa
open Go.RowKit Go.Shelf
def win (lo hi : Int) : Bool := decide (0 ≤ lo ∧ lo ≤ hi ∧ hi ≤ 20000)
theorem ret_bool {a b : Bool} (h : a = b) : Ending.returned (.bool a) = .returned (.bool b) := by rw [h]
theorem below1 (w : World) (o : Obj) : Below w.heap.size w (w.alloc o) := (Below.refl _ _).alloc (Nat.le_refl _) _
set_option maxHeartbeats 400000 in
theorem within_any (lo hi : Int) (w : World) : Calls Try.prog 54 #[.agg #[.int .i64 lo, .int .i64 hi]] w fun e w' => e = .returned (.bool (win lo hi)) ∧ Below w.heap.size w w' := by
  by_cases h1 : 0 ≤ lo
  · by_cases h2 : lo ≤ hi
    · by_cases h3 : hi ≤ 20000
      · go_enter Try.func54, Try.ntmps54
        go_wp2
        go_ret
        exact ⟨ret_bool (by simp [win, h1, h2, h3]), below1 _ _⟩
      · go_enter Try.func54, Try.ntmps54
        go_wp2
        go_ret
        exact ⟨ret_bool (by simp [win, h3]), below1 _ _⟩
    · have h2' : ¬ (0 ≤ lo ∧ lo ≤ hi ∧ hi ≤ 20000) := by omega
      go_enter Try.func54, Try.ntmps54
      go_wp2
      go_ret
      exact ⟨ret_bool (by simp [win]; omega), below1 _ _⟩
  · go_enter Try.func54, Try.ntmps54
    go_wp2
    go_ret
    exact ⟨ret_bool (by simp [win]; omega), below1 _ _⟩

/-- a zone as a value -/
structure Zn where
  a : Int
  b : Int
  c : Int
  d : Int
  deriving DecidableEq
def Zn.ok (z : Zn) : Bool := win z.a z.b && win z.c z.d
def Zn.cs (z : Zn) : List Value := [.int .i64 z.a, .int .i64 z.b, .int .i64 z.c, .int .i64 z.d]
abbrev zv (z : Zn) : Value := .agg #[.int .i64 z.a, .int .i64 z.b, .int .i64 z.c, .int .i64 z.d]

theorem bcell {W w1 : World} (hb : Below W.heap.size W w1) : (∀ b o, b < W.heap.size → w1.cell? ⟨b, o, none⟩ = W.cell? ⟨b, o, none⟩) ∧ (∀ b o, b < W.heap.size → w1.frozen? ⟨b, o, none⟩ = W.frozen? ⟨b, o, none⟩) :=
  ⟨fun b o h => hb.cell (p := ⟨b, o, none⟩) h, fun b o h => hb.frozen (p := ⟨b, o, none⟩) h⟩
theorem below2 {w w1 : World} {o : Obj} (hb : Below (w.alloc o).heap.size (w.alloc o) w1) : Below w.heap.size w w1 := (below1 w o).trans (hb.mono (by simp))
theorem belowT {w w1 w2 : World} (h1 : Below w.heap.size w w1) (h2 : Below w1.heap.size w1 w2) : Below w.heap.size w w2 := h1.trans (h2.mono h1.size)

set_option maxHeartbeats 400000 in
theorem vr1_any (z : Zn) (w : World) : Calls Try.prog 63 #[zv z] w fun e w' => e = .returned (.bool (!z.ok)) ∧ Below w.heap.size w w' := by
  cases h1 : win z.a z.b
  · go_enter Try.func63, Try.ntmps63
    go_wp2_with (go_at_call 54; refine (within_any _ _ _).mono ?_; rintro e w' ⟨rfl, hb⟩)
    go_ret
    exact ⟨ret_bool (by simp [Zn.ok, h1]), below2 hb⟩
  · go_enter Try.func63, Try.ntmps63
    go_wp2_with fail
    refine (within_any _ _ _).mono ?_
    rintro e w' ⟨rfl, hb⟩
    obtain ⟨hc, hf⟩ := bcell hb
    go_wp2_with fail
    refine (within_any _ _ _).mono ?_
    rintro e w2 ⟨rfl, hb2⟩
    go_wp2_with fail
    go_ret
    exact ⟨ret_bool (by simp [Zn.ok, h1]), belowT (below2 hb) hb2⟩

/-- cells of a row of zones in memory -/
def ZRow (w : World) (B : Nat) (A : Option Addr) (zs : List Zn) : Prop :=
  ∀ k (h : k < zs.length), ∃ g o, A = some ⟨g, o, none⟩ ∧ g < B ∧ w.cell? ⟨g, o + k * 4, none⟩ = some (.int .i64 zs[k].a) ∧ w.cell? ⟨g, o + k * 4 + 1, none⟩ = some (.int .i64 zs[k].b) ∧
    w.cell? ⟨g, o + k * 4 + 2, none⟩ = some (.int .i64 zs[k].c) ∧ w.cell? ⟨g, o + k * 4 + 3, none⟩ = some (.int .i64 zs[k].d)

def NoneTo {α : Type} (p : α → Bool) (xs : List α) (k : Nat) : Prop := ∀ j (h : j < xs.length), j < k → p xs[j] = false
/-- the first element that holds -/
def firstAt {α : Type} (p : α → Bool) (xs : List α) : Nat × Bool := match xs.findIdx? p with | some i => (i, true) | none => (0, false)

theorem noneTo_succ {α : Type} {p : α → Bool} {xs : List α} {k : Nat} {hk : k < xs.length} (h : NoneTo p xs k) (hp : p xs[k] = false) : NoneTo p xs (k + 1) := fun j hj hlt => by
  by_cases e : j = k
  · subst e; exact hp
  · exact h j hj (by omega)
theorem firstAt_yes {α : Type} {p : α → Bool} {xs : List α} {k : Nat} (h : NoneTo p xs k) (hk : k < xs.length) (hp : p xs[k] = true) : firstAt p xs = (k, true) := by
  have : xs.findIdx? p = some k := List.findIdx?_eq_some_iff_getElem.2 ⟨hk, hp, fun j hj => by have := h j (by omega) hj; simp [this]⟩
  simp [firstAt, this]
theorem firstAt_no {α : Type} {p : α → Bool} {xs : List α} {k : Nat} (h : NoneTo p xs k) (hk : xs.length ≤ k) : firstAt p xs = (0, false) := by
  have : xs.findIdx? p = none := List.findIdx?_eq_none_iff.2 fun x hx => by
    obtain ⟨j, hj, rfl⟩ := List.getElem_of_mem hx
    exact h j hj (by omega)
  simp [firstAt, this]
theorem firstAt_any {α : Type} (p : α → Bool) (xs : List α) : (firstAt p xs).2 = xs.any p := by
  unfold firstAt
  cases h : xs.findIdx? p with
  | none => 
    have := List.findIdx?_eq_none_iff.1 h
    simp only []
    symm; rw [Bool.eq_false_iff]; intro hh; rw [List.any_eq_true] at hh
    obtain ⟨x, hx, hp⟩ := hh
    exact absurd hp (by simp [this x hx])
  | some i =>
    obtain ⟨hi, hp, _⟩ := List.findIdx?_eq_some_iff_getElem.1 h
    symm; rw [List.any_eq_true]; exact ⟨_, List.getElem_mem hi, hp⟩
/-- the document's rink -/
def rinkOk (zs : List Zn) : Bool := decide (1 ≤ zs.length) && decide (zs.length ≤ 24) && zs.all Zn.ok

set_option maxHeartbeats 400000 in
theorem firstZ (f : Nat) (cp : Array Value) (p : Zn → Bool) (zs : List Zn) (A : Option Addr) (cap : Nat) (w : World) (hz : ZRow w w.heap.size A zs) (hl : zs.length ≤ 9223372036854775807)
    (eg : ∀ args w, (callFunc f args).run Try.prog w = .ok (.enter f args) w)
    (hf : ∀ z W, Below w.heap.size w W → Calls Try.prog f (#[zv z] ++ cp) W fun e w' => e = .returned (.bool (p z)) ∧ Below W.heap.size W w') :
    Calls Try.prog 51 #[.slice A zs.length cap, .func (.func f) #[] cp] w fun e w' => e = .returned (.tuple #[.int .i64 (firstAt p zs).1, .bool (firstAt p zs).2]) ∧ Below w.heap.size w w' := by
  have HF := Lib.hid hf
  clear hf
  go_enter Try.func51, Try.ntmps51
  go_wp2
  go_loopw [10] (fun i wr => ∃ k : Nat, k ≤ zs.length ∧ i = .int .i64 k ∧ NoneTo p zs k ∧ Below w.heap.size w wr) (fun i _ => zs.length - (intOf i).toNat)
  case atStart => exact ⟨0, Nat.zero_le _, rfl, fun j _ h => absurd h (by omega), Below.refl _ _⟩
  case round =>
    obtain ⟨k, hk, rfl, hn, hb⟩ := hrel
    by_cases hlt : k < zs.length
    · obtain ⟨g, o, rfl, hg, c0, c1, c2, c3⟩ := hz k hlt
      rw [← hb.cell (p := ⟨g, _, none⟩) hg] at c0 c1 c2 c3
      have hgr : g < wr.heap.size := Nat.lt_of_lt_of_le hg hb.size
      go_wp2_with fail
      refine (HF.out zs[k] _ (hb.alloc hb.size _)).mono ?_
      rintro e w1 ⟨rfl, hb1⟩
      have hbw : Below w.heap.size w w1 := belowT (hb.alloc hb.size _) hb1
      cases hp : p zs[k]
      · go_wp2_with fail
        go_roundw
        case rel => exact ⟨k + 1, by omega, by go_num, noneTo_succ hn hp, hbw⟩
        case measure => simp [intOf]; omega
      · have hfa := firstAt_yes hn hlt hp
        have HFA := Lib.hid hfa
        clear hfa
        go_wp2_with fail
        go_ret2
        exact ⟨by rw [HFA.out]; rfl, hbw⟩
    · have hfa := firstAt_no (xs := zs) hn (by omega)
      have HFA := Lib.hid hfa
      clear hfa
      go_wp2_with fail
      go_ret2
      exact ⟨by rw [HFA.out]; rfl, hb⟩
theorem rinkOk_of {zs : List Zn} (h1 : 1 ≤ zs.length) (h2 : zs.length ≤ 24) : (!(zs.any fun z => !z.ok)) = rinkOk zs := by
  simp [rinkOk, h1, h2, List.not_any_eq_all_not]
set_option maxHeartbeats 400000 in
theorem vr_any (zs : List Zn) (A : Option Addr) (cap : Nat) (w : World) (hz : ZRow w w.heap.size A zs) (hl : zs.length ≤ 9223372036854775807) :
    Calls Try.prog 37 #[.slice A zs.length cap] w fun e w' => e = .returned (.bool (rinkOk zs)) ∧ Below w.heap.size w w' := by
  by_cases h1 : zs.length < 1
  · go_enter Try.func37, Try.ntmps37
    go_wp2_with fail
    go_ret
    exact ⟨ret_bool (by simp [rinkOk]; omega), Below.refl _ _⟩
  · by_cases h2 : 24 < zs.length
    · have h1' : 1 ≤ (zs.length : Int) := by omega
      have h2' : 24 < (zs.length : Int) := by omega
      go_enter Try.func37, Try.ntmps37
      go_wp2_with fail
      go_ret
      exact ⟨ret_bool (by simp [rinkOk]; omega), Below.refl _ _⟩
    · have h1' : 1 ≤ (zs.length : Int) := by omega
      have h2' : (zs.length : Int) ≤ 24 := by omega
      have h1b : decide ((zs.length : Int) < 1) = false := by simp; omega
      have h2b : decide (24 < (zs.length : Int)) = false := by simp; omega
      go_enter Try.func37, Try.ntmps37
      go_wp2_with fail
      refine (firstZ 63 #[] (fun z => !z.ok) zs A cap w hz hl (enters_of Try.func63 (by kernel_rfl) rfl) (fun z W _ => vr1_any z W)).mono ?_
      rintro e w1 ⟨rfl, hb⟩
      go_wp2_with fail
      go_ret
      exact ⟨ret_bool (by rw [firstAt_any]; exact rinkOk_of (by omega) (by omega)), hb⟩
end Go.Proofs.Ytogabjlhecnbbaa
