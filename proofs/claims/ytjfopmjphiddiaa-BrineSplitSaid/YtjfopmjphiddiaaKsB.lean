/- Events in two parts: what the law calls. -/
import Derived.Test.YtjfopmjphiddiaaKsA
import Derived.Test.YtjfopmjphiddiaaLwE
import Derived.Test.YtjfopmjphiddiaaNmC
namespace Go.Proofs.Ytjfopmjphiddiaa
open Go.RowKit Go.Shelf
theorem plus28 (a b : Sl) (W : World) (h1 : -4611686018427387904 ≤ a.v + b.v ∧ a.v + b.v ≤ 4611686018427387904) (h2 : -4611686018427387904 ≤ a.h + b.h ∧ a.h + b.h ≤ 4611686018427387904) :
    Calls Try.prog 28 #[slv a, slv b] W fun e W' => e = .returned (slv (a.add b)) ∧ Below W.heap.size W W' := by
  have k1 : IntKind.i64.wrap (a.v + b.v) = a.v + b.v := IntWalk.i64_in _ (by omega)
  have k2 : IntKind.i64.wrap (a.h + b.h) = a.h + b.h := IntWalk.i64_in _ (by omega)
  clear h1 h2
  go_enter Try.func28, Try.ntmps28
  go_wp2
  refine bodyPost_ret (v := slv (a.add b)) (by simp [results, Try.results28, go_sem, Sl.add]) rfl ⟨rfl, ?_⟩
  exact ((below_one _ _).alloc (by simp) _).alloc (by simp; omega) _
theorem cut_hi (A : Option Addr) (n cap k : Nat) (hk : k ≤ cap) (w : World) :
    (Instr.sliceAt 27 (.slice A n cap) none (some (.int .i64 k)) none).run Try.prog w = .ok (.slice A k cap) w := by
  have h0 : (0 : Int) ≤ k := by omega
  have h1 : (k : Int) ≤ cap := by omega
  simp [go_sem, h0, h1, Try.underlying27, sliced, Result.andThen]
def offA (A : Option Addr) (cap k : Nat) : Option Addr := if cap = k then A else A.map (fun a => a.add (k * 4))
theorem cut_lo (A : Option Addr) (n cap k : Nat) (hk : k ≤ n) (w : World) :
    (Instr.sliceAt 27 (.slice A n cap) (some (.int .i64 k)) none none).run Try.prog w = .ok (.slice (offA A cap k) (n - k) (cap - k)) w := by
  have h0 : (0 : Int) ≤ k := by omega
  have h1 : (k : Int) ≤ n := by omega
  simp [go_sem, h0, h1, Try.underlying27, sliced, Result.andThen, offA]
theorem ERow.drop {w : World} {B : Nat} {A : Option Addr} {l : List Ev} (h : ERow w B A l) {cap : Nat} (hc : l.length ≤ cap) (n : Nat) : ERow w B (offA A cap n) (l.drop n) := fun k hk => by
  have hk' : n + k < l.length := by rw [List.length_drop] at hk; omega
  obtain ⟨g, o, rfl, hg, c0, c1, c2, c3⟩ := h (n + k) hk'
  have e : o + n * 4 + k * 4 = o + (n + k) * 4 := by omega
  refine ⟨g, o + n * 4, ?_, hg, ?_, ?_, ?_, ?_⟩
  · unfold offA; rw [if_neg (by omega)]; simp [Addr.add]
  all_goals simp only [List.getElem_drop, e]; assumption
theorem half_c {t : Sl} {ps : List Pp} {heat hroom : Int} {l : List Ev} {m : Yx} {k : Nat} (h : playR t ps heat hroom l = (some m, k, 0)) (A A' : Option Addr) (n cap cap' : Nat) (hn : l.length = n) (wa : World) (h1 : PRow wa wa.heap.size A ps) (h2 : ERow wa wa.heap.size A' l) (hm : ps.length ≤ maxLen) (hml : ∀ p ∈ ps, p.l.length ≤ maxLen) (hl : l.length ≤ 9223372036854775807) :
    Calls Try.prog 14 #[brv t A ps.length cap heat hroom, .slice A' n cap'] wa (POPost m.t m.ps m.r.heat m.r.room m.r.s k wa) := by
  subst hn
  refine (play_any t ps l A A' cap cap' heat hroom wa h1 h2 hm hml (by decide) hl).mono fun r wb hh => ?_
  rw [h] at hh
  exact play_st hh
end Go.Proofs.Ytjfopmjphiddiaa
