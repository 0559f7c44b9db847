/- Rows in memory; contracts: within, allWithin. -/
import Derived.Test.YtmclchaalmonnaaMem
import Derived.Test.YtmclchaalmonnaaPost
import Derived.Test.YtmclchaalmonnaaScA
import Derived.Lib.Hide
import Derived.Outline
import Derived.BigQuiet
import Derived.Deep.QuietTactic
import Derived.IntWalk
import Derived.Deep.DeepCutAuto
import Derived.Deep.LoopGhost
namespace Go.Proofs.Ytmclchaalmonnaa
open Go.RowKit
def BoolPost (b : Bool) (W : World) (e : Ending) (W' : World) : Prop := e = .returned (.bool b) ∧ Below W.heap.size W W'
def IntPost (n : Int) (W : World) (e : Ending) (W' : World) : Prop := e = .returned (.int .i64 n) ∧ Below W.heap.size W W'
theorem ret_bool {a b : Bool} (h : a = b) : Ending.returned (.bool a) = .returned (.bool b) := by rw [h]
theorem ret_int {a b : Int} (h : a = b) : Ending.returned (.int .i64 a) = .returned (.int .i64 b) := by rw [h]
theorem below_drN {W w : World} (h : Below W.heap.size W w) (n : Nat) : Below W.heap.size W (w.drewN n) := ⟨h.os, h.tape, h.output, h.size, h.block⟩
theorem has_newAt {w : World} {t : TypeId} {cs : Array Value} {n : Nat} (h : n = w.heap.size) : Has (w.alloc (.cells cs t)) n t cs := by subst h; exact Has.new _ _ _
/-- a row of numbers that lies below B -/
def IRow (w : World) (B : Nat) (A : Option Addr) (l : List Int) : Prop :=
  ∀ k (h : k < l.length), ∃ g o, A = some ⟨g, o, none⟩ ∧ g < B ∧ w.cell? ⟨g, o + k, none⟩ = some (.int .i64 l[k])
theorem IRow.below {w w' : World} {B : Nat} {A : Option Addr} {l : List Int} (h : IRow w B A l) (hb : Below B w w') : IRow w' B A l := fun k hk => by
  obtain ⟨g, o, e, hg, c⟩ := h k hk
  exact ⟨g, o, e, hg, (hb.cell (p := ⟨g, _, none⟩) hg).trans c⟩
theorem IRow.more {w : World} {B B' : Nat} {A : Option Addr} {l : List Int} (h : IRow w B A l) (hB : B ≤ B') : IRow w B' A l := fun k hk => by
  obtain ⟨g, o, e, hg, c⟩ := h k hk
  exact ⟨g, o, e, by omega, c⟩
theorem IRow.step {w w' : World} {A : Option Addr} {l : List Int} (h : IRow w w.heap.size A l) (hb : Below w.heap.size w w') : IRow w' w'.heap.size A l := (h.below hb).more hb.size
theorem IRow.nil (w : World) (B : Nat) (A : Option Addr) : IRow w B A [] := fun k h => absurd h (by simp)
abbrev big : Nat := 9223372036854775807
abbrev ruc (r : Ru) (A : Option Addr) (c : Nat) : Array Value := #[.slice A r.bases.length c, .int .i64 r.factor, .int .i64 r.most]
def ruv (r : Ru) (A : Option Addr) (c : Nat) : Value := .agg (ruc r A c)
abbrev clc (c : Cl) (M : Option Addr) (k : Nat) : Array Value := #[.int .i64 c.place, .int .i64 c.element, .int .i64 c.under, .bool c.late, .bool c.fall, .slice M c.marks.length k]
def clv (c : Cl) (M : Option Addr) (k : Nat) : Value := .agg (clc c M k)
abbrev skc (s : Sk) (AC AP : Option Addr) (cc cp : Nat) : Array Value := #[.slice AC s.calls.length cc, .slice AP s.parts.length cp, .int .i64 s.over]
def skv (s : Sk) (AC AP : Option Addr) (cc cp : Nat) : Value := .agg (skc s AC AP cc cp)
/-- rules -/
structure RuR (w : World) (B : Nat) (r : Ru) (A : Option Addr) : Prop where
  b : IRow w B A r.bases
  l : r.bases.length ≤ big
/-- a row of calls -/
def CRow (w : World) (B : Nat) (A : Option Addr) (l : List Cl) : Prop :=
  ∀ k (h : k < l.length), ∃ g o M c, A = some ⟨g, o, none⟩ ∧ g < B ∧ (∀ j, j < 6 → w.cell? ⟨g, o + k * 6 + j, none⟩ = (clc l[k] M c)[j]?) ∧ IRow w B M l[k].marks ∧ l[k].marks.length ≤ big
/-- a row of rows of numbers -/
def PRow (w : World) (B : Nat) (A : Option Addr) (l : List (List Int)) : Prop :=
  ∀ k (h : k < l.length), ∃ g o M c, A = some ⟨g, o, none⟩ ∧ g < B ∧ w.cell? ⟨g, o + k, none⟩ = some (.slice M l[k].length c) ∧ IRow w B M l[k] ∧ l[k].length ≤ big
structure SkR (w : World) (B : Nat) (s : Sk) (AC AP : Option Addr) : Prop where
  c : CRow w B AC s.calls
  p : PRow w B AP s.parts
  lc : s.calls.length ≤ big
  lp : s.parts.length ≤ big
/-- a row of skatings -/
def SRow (w : World) (B : Nat) (A : Option Addr) (l : List Sk) : Prop :=
  ∀ k (h : k < l.length), ∃ g o AC AP cc cp, A = some ⟨g, o, none⟩ ∧ g < B ∧ (∀ j, j < 3 → w.cell? ⟨g, o + k * 3 + j, none⟩ = (skc l[k] AC AP cc cp)[j]?) ∧ SkR w B l[k] AC AP
section
variable {w w' : World} {B B' : Nat} {A AC AP : Option Addr}
theorem RuR.below {r : Ru} (h : RuR w B r A) (hb : Below B w w') : RuR w' B r A := ⟨h.b.below hb, h.l⟩
theorem RuR.more {r : Ru} (h : RuR w B r A) (hB : B ≤ B') : RuR w B' r A := ⟨h.b.more hB, h.l⟩
theorem RuR.step {r : Ru} (h : RuR w w.heap.size r A) (hb : Below w.heap.size w w') : RuR w' w'.heap.size r A := (h.below hb).more hb.size
theorem CRow.below {l : List Cl} (h : CRow w B A l) (hb : Below B w w') : CRow w' B A l := fun k hk => by
  obtain ⟨g, o, M, c, e, hg, hc, hm, hl⟩ := h k hk
  exact ⟨g, o, M, c, e, hg, fun j hj => (hb.cell (p := ⟨g, _, none⟩) hg).trans (hc j hj), hm.below hb, hl⟩
theorem CRow.more {l : List Cl} (h : CRow w B A l) (hB : B ≤ B') : CRow w B' A l := fun k hk => by
  obtain ⟨g, o, M, c, e, hg, hc, hm, hl⟩ := h k hk
  exact ⟨g, o, M, c, e, by omega, hc, hm.more hB, hl⟩
theorem CRow.step {l : List Cl} (h : CRow w w.heap.size A l) (hb : Below w.heap.size w w') : CRow w' w'.heap.size A l := (h.below hb).more hb.size
theorem PRow.below {l : List (List Int)} (h : PRow w B A l) (hb : Below B w w') : PRow w' B A l := fun k hk => by
  obtain ⟨g, o, M, c, e, hg, hc, hm, hl⟩ := h k hk
  exact ⟨g, o, M, c, e, hg, (hb.cell (p := ⟨g, _, none⟩) hg).trans hc, hm.below hb, hl⟩
theorem PRow.more {l : List (List Int)} (h : PRow w B A l) (hB : B ≤ B') : PRow w B' A l := fun k hk => by
  obtain ⟨g, o, M, c, e, hg, hc, hm, hl⟩ := h k hk
  exact ⟨g, o, M, c, e, by omega, hc, hm.more hB, hl⟩
theorem PRow.step {l : List (List Int)} (h : PRow w w.heap.size A l) (hb : Below w.heap.size w w') : PRow w' w'.heap.size A l := (h.below hb).more hb.size
theorem SkR.below {s : Sk} (h : SkR w B s AC AP) (hb : Below B w w') : SkR w' B s AC AP := ⟨h.c.below hb, h.p.below hb, h.lc, h.lp⟩
theorem SkR.more {s : Sk} (h : SkR w B s AC AP) (hB : B ≤ B') : SkR w B' s AC AP := ⟨h.c.more hB, h.p.more hB, h.lc, h.lp⟩
theorem SkR.step {s : Sk} (h : SkR w w.heap.size s AC AP) (hb : Below w.heap.size w w') : SkR w' w'.heap.size s AC AP := (h.below hb).more hb.size
theorem SRow.below {l : List Sk} (h : SRow w B A l) (hb : Below B w w') : SRow w' B A l := fun k hk => by
  obtain ⟨g, o, AC, AP, cc, cp, e, hg, hc, hs⟩ := h k hk
  exact ⟨g, o, AC, AP, cc, cp, e, hg, fun j hj => (hb.cell (p := ⟨g, _, none⟩) hg).trans (hc j hj), hs.below hb⟩
theorem SRow.more {l : List Sk} (h : SRow w B A l) (hB : B ≤ B') : SRow w B' A l := fun k hk => by
  obtain ⟨g, o, AC, AP, cc, cp, e, hg, hc, hs⟩ := h k hk
  exact ⟨g, o, AC, AP, cc, cp, e, by omega, hc, hs.more hB⟩
theorem SRow.step {l : List Sk} (h : SRow w w.heap.size A l) (hb : Below w.heap.size w w') : SRow w' w'.heap.size A l := (h.below hb).more hb.size
end
set_option maxRecDepth 100000 in
theorem within_any (n lo hi : Int) (w : World) : Calls Try.prog 46 #[.int .i64 n, .int .i64 lo, .int .i64 hi] w fun e w' => e = .returned (.bool (inB n lo hi)) ∧ w' = w := by
  have hn : ∀ c, (decide (lo ≤ n ∧ n ≤ hi) = c) → inB n lo hi = c := fun b h => h
  have h3 : ¬ lo ≤ n ∨ (lo ≤ n ∧ ¬ n ≤ hi) ∨ (lo ≤ n ∧ n ≤ hi) := by omega
  rcases h3 with h0 | ⟨h0, h1⟩ | ⟨h0, h1⟩
  rotate_right
  · have HN := Lib.hid (hn true (by simp; omega))
    clear hn
    go_enter Try.func46, Try.ntmps46
    go_wp2
    go_ret
    exact ⟨by rw [HN.out]; rfl, rfl⟩
  all_goals
    have HN := Lib.hid (hn false (by simp; omega))
    clear hn
    go_enter Try.func46, Try.ntmps46
    go_wp2
    go_ret
    exact ⟨by rw [HN.out]; rfl, rfl⟩
set_option maxRecDepth 100000 in
set_option maxHeartbeats 1000000 in
theorem allWithin_any (l : List Int) (A : Option Addr) (c : Nat) (lo hi : Int) (W : World) (ha : IRow W W.heap.size A l) (hl : l.length ≤ big) : Calls Try.prog 76 #[.slice A l.length c, .int .i64 lo, .int .i64 hi] W (BoolPost (allB l lo hi) W) := by
  have HA := Lib.hid ha
  have HT : Hid (allB l lo hi = l.all (fun g => inB g lo hi)) := Lib.hid rfl
  have hl' : l.length ≤ 9223372036854775807 := hl
  clear ha hl
  go_enter Try.func76, Try.ntmps76
  go_wp2_with fail
  go_loopg [11] l.length (fun gk i wr => ∃ k : Nat, k ≤ l.length ∧ l.length - k ≤ gk ∧ i = .int .i64 k ∧ Hid (Below W.heap.size W wr ∧ ∀ j (hj : j < l.length), j < k → inB l[j] lo hi = true))
  case atStart => exact ⟨0, Nat.zero_le _, Nat.le_refl _, rfl, Lib.hid ⟨Below.refl _ _, fun j _ h => absurd h (by omega)⟩⟩
  case round =>
    obtain ⟨k, hk, hgk, rfl, HW⟩ := hrel
    by_cases hlt : k < l.length
    rotate_left
    · have hge : ¬ (k : Int) < l.length := by omega
      have HE : Hid (allB l lo hi = true) := Lib.hid (by
        rw [HT.out, List.all_eq_true]
        intro g hg
        obtain ⟨j, hj, rfl⟩ := List.getElem_of_mem hg
        exact HW.out.2 j hj (by omega))
      go_wp2_with fail
      go_ret
      exact ⟨ret_bool HE.out.symm, HW.out.1⟩
    have hlt2 : (k : Int) < l.length := by omega
    obtain ⟨g, o, hg, hgs, hc⟩ := (HA.out.below HW.out.1) k hlt
    obtain ⟨v, hb⟩ : ∃ v, v = l[k] := ⟨_, rfl⟩
    rw [← hb] at hc
    have HBE := Lib.hid hb
    have HWI := Lib.hid (fun w => within_any v lo hi w)
    subst hg
    clear hb hgs
    cases hin : inB v lo hi <;> rw [hin] at HWI
    · have HN : Hid (allB l lo hi = false) := Lib.hid (by
        rw [HT.out]
        exact List.all_eq_false.2 ⟨l[k], List.getElem_mem hlt, by rw [← HBE.out, hin]; decide⟩)
      clear HBE hin
      go_wp2_with fail
      refine (HWI.out _).mono ?_
      rintro e w2 ⟨rfl, rfl⟩
      go_wp2_with fail
      go_ret
      exact ⟨ret_bool HN.out.symm, HW.out.1⟩
    · have HN : Hid (∀ j (hj : j < l.length), j < k + 1 → inB l[j] lo hi = true) := Lib.hid fun j hj hjk => by
        rcases Nat.lt_or_ge j k with h' | h'
        · exact HW.out.2 j hj h'
        · have : j = k := by omega
          subst this
          rw [← HBE.out]; exact hin
      clear HBE hin
      go_wp2_with fail
      refine (HWI.out _).mono ?_
      rintro e w2 ⟨rfl, rfl⟩
      go_wp2_with fail
      go_roundg (l.length - (k + 1))
      case measure => omega
      case rel => exact ⟨k + 1, by omega, Nat.le_refl _, by go_num, Lib.hid ⟨HW.out.1, HN.out⟩⟩
end Go.Proofs.Ytmclchaalmonnaa
