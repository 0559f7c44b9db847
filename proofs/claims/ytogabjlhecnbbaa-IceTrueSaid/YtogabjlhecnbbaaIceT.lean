/- Contracts of validEvent, deeds, touched and the deferred closure of take. -/
import Derived.Test.YtogabjlhecnbbaaIceP
import Derived.Recover
import Derived.RecoverIn
import Derived.Laws.EntriesVeiled
namespace Go.Proofs.Ytogabjlhecnbbaa
open Go.RowKit Go.Shelf
/-- a valid event for n zones -/
def Ev.ok (e : Ev) (n : Int) : Bool := decide (0 ≤ e.k ∧ e.k < 5 ∧ 0 ≤ e.f ∧ e.f < n) && (decide (e.k = 3) || decide (e.f ≤ e.t ∧ e.t < n)) && (decide (e.k = 4) || win e.x e.y)

set_option maxHeartbeats 800000 in
theorem ve_any (e : Ev) (n : Int) (w : World) : Calls Try.prog 64 #[evv e, iv n] w fun r w' => r = .returned (.bool (e.ok n)) ∧ Below w.heap.size w w' := by
  by_cases h1 : e.k < 0
  · go_enter Try.func64, Try.ntmps64
    go_wp2_with fail
    go_ret
    exact ⟨ret_bool (by simp [Ev.ok]; omega), below1 _ _⟩
  have g1 : decide (e.k < 0) = false := by simpa using h1
  by_cases h2 : 5 ≤ e.k
  · go_enter Try.func64, Try.ntmps64
    go_wp2_with fail
    go_ret
    exact ⟨ret_bool (by simp [Ev.ok]; omega), below1 _ _⟩
  have g2 : decide (5 ≤ e.k) = false := by simpa using h2
  by_cases h3 : e.f < 0
  · go_enter Try.func64, Try.ntmps64
    go_wp2_with fail
    go_ret
    exact ⟨ret_bool (by simp [Ev.ok]; omega), below1 _ _⟩
  have g3 : decide (e.f < 0) = false := by simpa using h3
  by_cases h4 : n ≤ e.f
  · go_enter Try.func64, Try.ntmps64
    go_wp2_with fail
    go_ret
    exact ⟨ret_bool (by simp [Ev.ok]; omega), below1 _ _⟩
  have g4 : decide (n ≤ e.f) = false := by simpa using h4
  by_cases h5 : e.k = 3
  · have k3 : (e.k != 3) = false := by simp [h5]
    have k4 : (e.k == 4) = false := by simp [h5]
    have hok : Hid (e.ok n = win e.x e.y) := by
      show _ = _
      simp [Ev.ok, h5]; omega
    clear h5
    go_enter Try.func64, Try.ntmps64
    go_wp2_with fail
    refine (within_any _ _ _).mono ?_
    rintro r w' ⟨rfl, hb⟩
    go_wp2_with fail
    go_ret
    exact ⟨ret_bool hok.out.symm, below2 hb⟩
  have k3 : (e.k != 3) = true := by simp [h5]
  by_cases h6 : e.t < e.f
  · go_enter Try.func64, Try.ntmps64
    go_wp2_with fail
    go_ret
    exact ⟨ret_bool (by simp [Ev.ok]; omega), below1 _ _⟩
  have g6 : decide (e.t < e.f) = false := by simpa using h6
  by_cases h7 : n ≤ e.t
  · go_enter Try.func64, Try.ntmps64
    go_wp2_with fail
    go_ret
    exact ⟨ret_bool (by simp [Ev.ok]; omega), below1 _ _⟩
  have g7 : decide (n ≤ e.t) = false := by simpa using h7
  by_cases h8 : e.k = 4
  · have k4 : (e.k == 4) = true := by simp [h8]
    have hok : Hid (e.ok n = true) := by
      show _ = _
      simp [Ev.ok, h8]; omega
    clear h8
    go_enter Try.func64, Try.ntmps64
    go_wp2_with fail
    go_ret
    exact ⟨ret_bool hok.out.symm, below1 _ _⟩
  · have k4 : (e.k == 4) = false := by simp [h8]
    have hok : Hid (e.ok n = win e.x e.y) := by
      show _ = _
      simp [Ev.ok, h8, h5]; omega
    clear h8
    go_enter Try.func64, Try.ntmps64
    go_wp2_with fail
    refine (within_any _ _ _).mono ?_
    rintro r w' ⟨rfl, hb⟩
    go_wp2_with fail
    go_ret
    exact ⟨ret_bool hok.out.symm, below2 hb⟩

abbrev deedsV (Bp : Nat) : Value := .agg #[.func (.func 73) #[] #[.pointer (some ⟨Bp, 0, none⟩)], .func (.func 75) #[] #[.pointer (some ⟨Bp, 0, none⟩)], .func (.func 76) #[] #[.pointer (some ⟨Bp, 0, none⟩)], .func (.func 77) #[] #[], .func (.func 79) #[] #[]]
set_option maxHeartbeats 800000 in
theorem deeds_any (a : Addr) (w : World) : Calls Try.prog 66 #[.pointer (some a)] w fun r w' => r = .returned (deedsV w.heap.size) ∧ Below w.heap.size w w' ∧ Has w' w.heap.size 77 #[.pointer (some a)] := by
  have hmf : ∀ (fn : Fn) (first cap : Array Value) (w : World), (Instr.makeFunc fn first cap).run Try.prog w = .ok (.func fn first cap) w := fun _ _ _ _ => rfl
  go_enter Try.func66, Try.ntmps66
  go_wp2
  refine bodyPost_ret (v := deedsV w.heap.size) (by simp [results, Try.results66, go_sem]) rfl ⟨rfl, (below1 _ _).alloc (by simp) _, (Has.new _ _ _).alloc _⟩

theorem Has.newAt' {w : World} {t : TypeId} {cs : Array Value} {n : Nat} (h : n = w.heap.size) : Has (w.alloc (.cells cs t)) n t cs := by subst h; exact Has.new _ _ _
/-- the last zone of an event -/
def Ev.last (e : Ev) : Int := if e.k = 3 then e.f else e.t
def TouchPost (a : Addr) (e : Ev) (w : World) (r : Ending) (w' : World) : Prop :=
  r = .returned (.func (.func 80) #[] #[.pointer (some ⟨w.heap.size + 1, 0, none⟩), .pointer (some ⟨w.heap.size + 1 + 1, 0, none⟩), .pointer (some ⟨w.heap.size, 0, none⟩)]) ∧
    Below w.heap.size w w' ∧ Has w' w.heap.size 77 #[.pointer (some a)] ∧ Has w' (w.heap.size + 1) 54 #[iv e.k, iv e.f, iv e.t, iv e.x, iv e.y] ∧ Has w' (w.heap.size + 1 + 1) 3 #[iv e.last]
theorem touchPost_of {a : Addr} {e : Ev} {w : World} {l : Int} (h : l = e.last) : TouchPost a e w (.returned (.func (.func 80) #[] #[.pointer (some ⟨w.heap.size + 1, 0, none⟩), .pointer (some ⟨w.heap.size + 1 + 1, 0, none⟩), .pointer (some ⟨w.heap.size, 0, none⟩)]))
    (((w.alloc (.cells #[.pointer (some a)] 77)).alloc (.cells #[iv e.k, iv e.f, iv e.t, iv e.x, iv e.y] 54)).alloc (.cells #[iv l] 3)) := by
  subst h
  exact ⟨rfl, ((below1 _ _).alloc (by simp) _).alloc (by simp; omega) _, ((Has.new _ _ _).alloc _).alloc _, (Has.newAt' (by simp)).alloc _, Has.newAt' (by simp)⟩
set_option maxHeartbeats 800000 in
theorem touched_any (a : Addr) (e : Ev) (w : World) : Calls Try.prog 67 #[.pointer (some a), evv e] w (TouchPost a e w) := by
  have hmf : ∀ (fn : Fn) (first cap : Array Value) (w : World), (Instr.makeFunc fn first cap).run Try.prog w = .ok (.func fn first cap) w := fun _ _ _ _ => rfl
  by_cases h : e.k = 3
  · obtain ⟨k, f, t, x, y⟩ := e
    simp only at h
    subst h
    go_enter Try.func67, Try.ntmps67
    go_wp2
    go_ret
    exact touchPost_of (by simp [Ev.last])
  · have k3 : (e.k == 3) = false := by simp [h]
    have hl : e.t = e.last := by simp [Ev.last, h]
    have HL := Lib.hid hl
    clear h hl
    go_enter Try.func67, Try.ntmps67
    go_wp2
    go_ret
    exact touchPost_of HL.out

theorem catch_hole (p : Addr) (x : Value) (older : List PanicEntry) (w : World) (hc : w.cell? p = some x) (hz : w.frozen? p = false) :
    CallsD Try.prog 65 #[.pointer (some p)] (.panicking ({ v := holeMsg, recovered := false } :: older)) w fun e u' w' =>
      e = .returned (.tuple #[]) ∧ u' = .panicking ({ v := holeMsg, recovered := true } :: older) ∧ w' = w.setCell p (iv 6) := by
  refine callsD_of_wpS Try.func65 rfl fun c₀ cs hu => ?_
  apply wpS_seq
  apply wpS_region
  simp [wpOpsS, go_sem, recoverD, hu, Try.ntmps65, Exit.thenS, holeMsg]
  refine wpS_cond (t := true) (by simp [Act.eval, Array.replicate]) ?_
  simp only [if_true]
  apply wpS_region
  simp [wpOpsS, go_sem, hc, hz, bodyPostS, results, Try.results65]
theorem catch_none (p : Addr) (w : World) :
    CallsD Try.prog 65 #[.pointer (some p)] .returning w fun e u' w' => e = .returned (.tuple #[]) ∧ u' = .returning ∧ w' = w := by
  refine callsD_of_wpS Try.func65 rfl fun c₀ cs hu => ?_
  apply wpS_seq
  apply wpS_region
  simp [wpOpsS, go_sem, recoverD, hu, Try.ntmps65, Exit.thenS]
  refine wpS_cond (t := false) (by simp [Act.eval, Array.replicate]) ?_
  simp only [Bool.false_eq_true, if_false]
  refine wpS_of_wp (wp_skip ?_)
  cases c₀
  simp_all [bodyPostS, results, Try.results65]
end Go.Proofs.Ytogabjlhecnbbaa
