/- What is checked: plans, least numbers; plain. -/
import Derived.Test.YtipejhfgfciabaaHrQ
namespace Go.Proofs.Ytipejhfgfciabaa
open Go.RowKit
def planB (x : Tt) (l : List Int) : Bool := decide (l.length = x.H.length) && l.all (fun g => decide (g = -1) || inB g 0 ((x.G.length : Int) - 1))
def leastB (x : Tt) (l : List Int) : Bool := decide (l.length = x.G.length) && l.all (fun g => inB g 0 12)
theorem plan_ok {x : Tt} {l : List Int} (h : planB x l = true) : l.length = x.H.length ∧ ∀ g ∈ l, g = -1 ∨ ∃ i : Nat, g = (i : Int) ∧ i < x.G.length := by
  simp only [planB, Bool.and_eq_true, decide_eq_true_eq] at h
  refine ⟨h.1, fun g hg => ?_⟩
  have := List.all_eq_true.1 h.2 g hg
  simp only [Bool.or_eq_true, decide_eq_true_eq, inB] at this
  rcases this with h | h
  · exact .inl h
  · exact .inr ⟨g.toNat, by omega, by omega⟩
/-- what Check goes through: the errno, the hour, the place behind -/
def chkR (x : Tt) : Pl → List Int → Int × Nat × Pl
  | p, [] => (0, p.hour, p)
  | p, g :: l => if (giveR x p g).1 = 0 then chkR x (giveR x p g).2 l else ((giveR x p g).1, p.hour, zeroP)
def checkR (x : Tt) (l : List Int) : List Int × Nat × Int :=
  if ttB x = false then ([], 0, 1) else if planB x l = false then ([], 0, 2)
  else if (chkR x startP l).1 = 0 then (ownedL x (chkR x startP l).2.2, l.length, 0) else ([], (chkR x startP l).2.1, (chkR x startP l).1)
def compR (x : Tt) (a b : List Int) : Int × Int :=
  if (checkR x a).2.2 = 0 then if (checkR x b).2.2 = 0 then (cmpL (srt (checkR x a).1) (srt (checkR x b).1), 0) else (0, (checkR x b).2.2) else (0, (checkR x a).2.2)
theorem give_vp {x : Tt} {p q : Pl} {g : Int} (hv : VT x) (hp : VP x p) (hh : p.hour < x.H.length) (hg : g = -1 ∨ ∃ i : Nat, g = (i : Int) ∧ i < x.G.length) (h : giveR x p g = (0, q)) : VP x q ∧ q.hour = p.hour + 1 := by
  refine next_vp hv hp hh (g := g) (mem_nexts.2 ⟨?_, h⟩)
  unfold choices
  rcases hg with rfl | ⟨i, rfl, hi⟩
  · simp
  · exact List.mem_append.2 (.inl (List.mem_map.2 ⟨i, List.mem_range.2 hi, rfl⟩))
set_option maxRecDepth 100000 in
set_option maxHeartbeats 1200000 in
theorem validPlan_any (x : Tt) (AH AG : Option Addr) (ch cg : Nat) (l : List Int) (A : Option Addr) (c : Nat) (W : World) (hv : VT x) (ha : IRow W W.heap.size A l) : Calls Try.prog 39 #[ttv x AH AG ch cg, .slice A l.length c] W (BoolPost (planB x l) W) := by
  have HB : Hid (VB W (W.alloc (.cells (ttc x AH AG ch cg) 25)) x AH AG ch cg) := ⟨below_one W _, Has.new W 25 _⟩
  have HA := Lib.hid ha
  have hng := hv.ng
  have hnh := hv.nh
  have hn : ∀ c, planB x l = c → Hid (planB x l = c) := fun b h => h
  clear ha hv
  unfold ttv
  by_cases h1 : l.length = x.H.length
  rotate_left
  · have HE := hn false (by unfold planB; simp [h1])
    have h2 : ((l.length : Int) == (x.H.length : Int)) = false := by simp; omega
    clear hn h1
    go_enter Try.func39, Try.ntmps39
    go_wp2_with fail
    go_ret
    exact ⟨ret_bool HE.out.symm, HB.out.b⟩
  have h2 : ((l.length : Int) == (x.H.length : Int)) = true := by simp; omega
  have h2' : ((l.length : Int) != (x.H.length : Int)) = false := by simp; omega
  have HT : Hid (planB x l = l.all (fun g => decide (g = -1) || inB g 0 ((x.G.length : Int) - 1))) := Lib.hid (by
    unfold planB; simp only [h1, decide_true, Bool.true_and])
  have HL := Lib.hid h1
  have hl12 : l.length ≤ 12 := by omega
  clear hn h1 hnh
  go_enter Try.func39, Try.ntmps39
  go_wp2_with fail
  clear h2 h2'
  generalize W.alloc (.cells (ttc x AH AG ch cg) 25) = w0 at HB ⊢
  go_loopg [15] l.length (fun gk i wr => ∃ k : Nat, k ≤ l.length ∧ l.length - k ≤ gk ∧ i = .int .i64 k ∧ Hid (VB W wr x AH AG ch cg ∧ ∀ j (hj : j < l.length), j < k → (decide (l[j] = -1) || inB l[j] 0 ((x.G.length : Int) - 1)) = true))
  case atStart => exact ⟨0, Nat.zero_le _, Nat.le_refl _, rfl, Lib.hid ⟨HB.out, fun j _ h => absurd h (by omega)⟩⟩
  case round =>
    obtain ⟨k, hk, hgk, rfl, HW⟩ := hrel
    by_cases hlt : k < l.length
    rotate_left
    · have hge : ¬ (k : Int) < l.length := by omega
      have HE : Hid (planB x l = true) := Lib.hid (by
        rw [HT.out, List.all_eq_true]
        intro g hg
        obtain ⟨j, hj, rfl⟩ := List.getElem_of_mem hg
        exact HW.out.2 j hj (by omega))
      go_wp2_with fail
      go_ret
      exact ⟨ret_bool HE.out.symm, HW.out.1.b⟩
    have hlt2 : (k : Int) < l.length := by omega
    obtain ⟨g, o, hg, hgs, hc⟩ := (HA.out.below HW.out.1.b) k hlt
    obtain ⟨v, hb⟩ : ∃ v, v = l[k] := ⟨_, rfl⟩
    rw [← hb] at hc
    have HBE := Lib.hid hb
    have x1 : wr.cell? ⟨W.heap.size, 1, none⟩ = some (.slice AG x.G.length cg) := HW.out.1.fx.cell 1
    have e1 : IntKind.i64.wrap ((x.G.length : Int) - 1) = (x.G.length : Int) - 1 := IntWalk.i64_in _ (by omega)
    have HWI := Lib.hid (fun w => within_any v 0 ((x.G.length : Int) - 1) w)
    subst hg
    clear hb hgs
    have HNX : Hid ((decide (v = -1) || inB v 0 ((x.G.length : Int) - 1)) = true → ∀ j (hj : j < l.length), j < k + 1 → (decide (l[j] = -1) || inB l[j] 0 ((x.G.length : Int) - 1)) = true) := Lib.hid fun h j hj hjk => by
      rcases Nat.lt_or_ge j k with h' | h'
      · exact HW.out.2 j hj h'
      · have : j = k := by omega
        subst this
        rw [← HBE.out]; exact h
    have HNO : Hid ((decide (v = -1) || inB v 0 ((x.G.length : Int) - 1)) = false → planB x l = false) := Lib.hid fun h => by
      rw [HT.out]
      exact List.all_eq_false.2 ⟨l[k], List.getElem_mem hlt, by rw [← HBE.out, h]; decide⟩
    by_cases hm : v = -1
    · have HN := Lib.hid (HNX.out (by simp [hm]))
      subst hm
      clear HNX HNO HBE HWI
      go_wp2_with fail
      go_roundg (l.length - (k + 1))
      case measure => omega
      case rel => exact ⟨k + 1, by omega, Nat.le_refl _, by go_num, Lib.hid ⟨HW.out.1, HN.out⟩⟩
    have hm' : (v == -1) = false := by simpa using hm
    cases hin : inB v 0 ((x.G.length : Int) - 1) <;> rw [hin] at HWI
    · have HN := Lib.hid (HNO.out (by simp [hm, hin]))
      clear HNX HNO HBE hin
      go_wp2_with fail
      refine (HWI.out _).mono ?_
      rintro e w2 ⟨rfl, rfl⟩
      go_wp2_with fail
      go_ret
      exact ⟨ret_bool HN.out.symm, HW.out.1.b⟩
    · have HN := Lib.hid (HNX.out (by simp [hin]))
      clear HNX HNO HBE hin
      go_wp2_with fail
      refine (HWI.out _).mono ?_
      rintro e w2 ⟨rfl, rfl⟩
      go_wp2_with fail
      go_roundg (l.length - (k + 1))
      case measure => omega
      case rel => exact ⟨k + 1, by omega, Nat.le_refl _, by go_num, Lib.hid ⟨HW.out.1, HN.out⟩⟩
set_option maxRecDepth 100000 in
set_option maxHeartbeats 1200000 in
theorem validLeast_any (x : Tt) (AH AG : Option Addr) (ch cg : Nat) (l : List Int) (A : Option Addr) (c : Nat) (W : World) (hv : VT x) (ha : IRow W W.heap.size A l) : Calls Try.prog 50 #[ttv x AH AG ch cg, .slice A l.length c] W (BoolPost (leastB x l) W) := by
  have HB : Hid (VB W (W.alloc (.cells (ttc x AH AG ch cg) 25)) x AH AG ch cg) := ⟨below_one W _, Has.new W 25 _⟩
  have HA := Lib.hid ha
  have hng := hv.ng
  have hn : ∀ c, leastB x l = c → Hid (leastB x l = c) := fun b h => h
  clear ha hv
  unfold ttv
  by_cases h1 : l.length = x.G.length
  rotate_left
  · have HE := hn false (by unfold leastB; simp [h1])
    have h2 : ((l.length : Int) == (x.G.length : Int)) = false := by simp; omega
    clear hn h1
    go_enter Try.func50, Try.ntmps50
    go_wp2_with fail
    go_ret
    exact ⟨ret_bool HE.out.symm, HB.out.b⟩
  have h2 : ((l.length : Int) == (x.G.length : Int)) = true := by simp; omega
  have h2' : ((l.length : Int) != (x.G.length : Int)) = false := by simp; omega
  have HT : Hid (leastB x l = l.all (fun g => inB g 0 12)) := Lib.hid (by
    unfold leastB; simp only [h1, decide_true, Bool.true_and])
  have hl12 : l.length ≤ 12 := by omega
  clear hn h1
  go_enter Try.func50, Try.ntmps50
  go_wp2_with fail
  clear h2 h2'
  generalize W.alloc (.cells (ttc x AH AG ch cg) 25) = w0 at HB ⊢
  go_loopg [15] l.length (fun gk i wr => ∃ k : Nat, k ≤ l.length ∧ l.length - k ≤ gk ∧ i = .int .i64 k ∧ Hid (VB W wr x AH AG ch cg ∧ ∀ j (hj : j < l.length), j < k → inB l[j] 0 12 = true))
  case atStart => exact ⟨0, Nat.zero_le _, Nat.le_refl _, rfl, Lib.hid ⟨HB.out, fun j _ h => absurd h (by omega)⟩⟩
  case round =>
    obtain ⟨k, hk, hgk, rfl, HW⟩ := hrel
    by_cases hlt : k < l.length
    rotate_left
    · have hge : ¬ (k : Int) < l.length := by omega
      have HE : Hid (leastB x l = true) := Lib.hid (by
        rw [HT.out, List.all_eq_true]
        intro g hg
        obtain ⟨j, hj, rfl⟩ := List.getElem_of_mem hg
        exact HW.out.2 j hj (by omega))
      go_wp2_with fail
      go_ret
      exact ⟨ret_bool HE.out.symm, HW.out.1.b⟩
    have hlt2 : (k : Int) < l.length := by omega
    obtain ⟨g, o, hg, hgs, hc⟩ := (HA.out.below HW.out.1.b) k hlt
    obtain ⟨v, hb⟩ : ∃ v, v = l[k] := ⟨_, rfl⟩
    rw [← hb] at hc
    have HBE := Lib.hid hb
    have HWI := Lib.hid (fun w => within_any v 0 12 w)
    subst hg
    clear hb hgs
    cases hin : inB v 0 12 <;> rw [hin] at HWI
    · have HN : Hid (leastB x l = false) := Lib.hid (by
        rw [HT.out]
        exact List.all_eq_false.2 ⟨l[k], List.getElem_mem hlt, by rw [← HBE.out, hin]; decide⟩)
      clear HBE hin
      go_wp2_with fail
      refine (HWI.out _).mono ?_
      rintro e w2 ⟨rfl, rfl⟩
      go_wp2_with fail
      go_ret
      exact ⟨ret_bool HN.out.symm, HW.out.1.b⟩
    · have HN : Hid (∀ j (hj : j < l.length), j < k + 1 → inB l[j] 0 12 = true) := Lib.hid (fun j hj hjk => by
        rcases Nat.lt_or_ge j k with h' | h'
        · exact HW.out.2 j hj h'
        · have : j = k := by omega
          subst this
          rw [← HBE.out]; exact hin)
      clear HBE hin
      go_wp2_with fail
      refine (HWI.out _).mono ?_
      rintro e w2 ⟨rfl, rfl⟩
      go_wp2_with fail
      go_roundg (l.length - (k + 1))
      case measure => omega
      case rel => exact ⟨k + 1, by omega, Nat.le_refl _, by go_num, Lib.hid ⟨HW.out.1, HN.out⟩⟩
end Go.Proofs.Ytipejhfgfciabaa
