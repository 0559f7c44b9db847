/- Contracts: large. -/
import Derived.Test.YtljkgjfmambfoaaDoorLgX
namespace Go.Proofs.YtljkgjfmambfoaaDoor
open Go.RowKit Go.Shelf
attribute [local irreducible] wpQuiet
def largeB (x : Lg) (m : Int) : Bool := decide (9 < x.F.length) || decide (68 < x.G.length) || x.F.any (fun r => decide (9 < r.length)) || (decide (m < openN x.G) && decide (openN x.G ≤ 8))
theorem large_row {x : Lg} {m : Int} {k : Nat} (hk : k < x.F.length) (h : 9 < (x.F[k]).length) : largeB x m = true := by
  unfold largeB
  rw [show x.F.any (fun r => decide (9 < r.length)) = true from List.any_eq_true.2 ⟨x.F[k], List.getElem_mem hk, by simpa using h⟩]
  simp
theorem large_done {x : Lg} {m : Int} (h1 : x.F.length ≤ 9) (h2 : x.G.length ≤ 68) (h : ∀ j (hj : j < x.F.length), ¬ 9 < (x.F[j]).length) : largeB x m = (decide (m < openN x.G) && decide (openN x.G ≤ 8)) := by
  unfold largeB
  rw [decide_eq_false (p := 9 < x.F.length) (by omega), decide_eq_false (p := 68 < x.G.length) (by omega), show x.F.any (fun r => decide (9 < r.length)) = false from List.any_eq_false.2 fun r hr => by
    obtain ⟨j, hj, rfl⟩ := List.getElem_of_mem hr
    simpa using h j hj]
  simp
set_option maxRecDepth 100000 in
set_option maxHeartbeats 4000000 in
theorem large_any (x : Lg) (AF AG : Option Addr) (cf cg : Nat) (m : Int) (W : World) (hr : LgR W W.heap.size x AF AG) :
    Calls Tryd.prog 9 #[lgv x AF AG cf cg, .int .i64 m] W (BoolPost (largeB x m) W) := by
  have HB : Hid (LX W (W.alloc (.cells (lgc x AF AG cf cg) 25)) W.heap.size x AF AG cf cg) := Lib.hid (LX.start hr)
  have HO := Lib.hid (fun (k : Nat) (h : k < x.G.length) => openN_take h)
  have HOL := Lib.hid (fun k => openN_le (x.G.take k))
  have HLR := Lib.hid (fun k (hk : k < x.F.length) h => large_row (x := x) (m := m) (k := k) hk h)
  have HLD := Lib.hid (fun h1 h2 h => large_done (x := x) (m := m) h1 h2 h)
  have HL9 := Lib.hid (show 9 < x.F.length → largeB x m = true from fun h => by unfold largeB; rw [decide_eq_true h]; simp)
  have HL68 := Lib.hid (show 68 < x.G.length → largeB x m = true from fun h => by unfold largeB; rw [decide_eq_true (p := 68 < x.G.length) h]; simp)
  have hlf : x.F.length ≤ 9223372036854775807 := hr.lf
  have hlg : x.G.length ≤ 9223372036854775807 := hr.lg
  obtain ⟨X, hX⟩ : ∃ X, X = largeB x m := ⟨_, rfl⟩
  rw [← hX] at HLR HLD HL9 HL68 ⊢
  clear hr hX
  unfold lgv at *
  by_cases h9 : 9 < x.F.length
  · have HE := Lib.hid (HL9.out h9)
    have q9 : (9 : Int) < x.F.length := by omega
    go_enter Tryd.func9, Tryd.ntmps9
    go_upto_region 1 with fail
    generalize W.alloc (.cells (lgc x AF AG cf cg) 25) = w9 at HB ⊢
    have x0 : w9.cell? ⟨W.heap.size, 0, none⟩ = some (.slice AF x.F.length cf) := HB.out.fx.cell 0
    have x1 : w9.cell? ⟨W.heap.size, 1, none⟩ = some (.slice AG x.G.length cg) := HB.out.fx.cell 1
    go_wp2_with fail
    go_ret
    exact ⟨ret_bool HE.out.symm, HB.out.b⟩
  by_cases h68 : 68 < x.G.length
  · have HE := Lib.hid (HL68.out h68)
    have q9 : ¬ (9 : Int) < x.F.length := by omega
    have q68 : (68 : Int) < x.G.length := by omega
    go_enter Tryd.func9, Tryd.ntmps9
    go_upto_region 1 with fail
    generalize W.alloc (.cells (lgc x AF AG cf cg) 25) = w9 at HB ⊢
    have x0 : w9.cell? ⟨W.heap.size, 0, none⟩ = some (.slice AF x.F.length cf) := HB.out.fx.cell 0
    have x1 : w9.cell? ⟨W.heap.size, 1, none⟩ = some (.slice AG x.G.length cg) := HB.out.fx.cell 1
    go_wp2_with fail
    go_ret
    exact ⟨ret_bool HE.out.symm, HB.out.b⟩
  have q9 : ¬ (9 : Int) < x.F.length := by omega
  have q68 : ¬ (68 : Int) < x.G.length := by omega
  go_enter Tryd.func9, Tryd.ntmps9
  go_upto_region 1 with fail
  generalize W.alloc (.cells (lgc x AF AG cf cg) 25) = w9 at HB ⊢
  have x0 : w9.cell? ⟨W.heap.size, 0, none⟩ = some (.slice AF x.F.length cf) := HB.out.fx.cell 0
  have x1 : w9.cell? ⟨W.heap.size, 1, none⟩ = some (.slice AG x.G.length cg) := HB.out.fx.cell 1
  go_wp2_with fail
  go_loopg [5] x.F.length (fun gk i wr => ∃ k : Nat, k ≤ x.F.length ∧ x.F.length - k ≤ gk ∧ i = .int .i64 ((k : Nat) : Int) ∧ wr = w9 ∧ Hid (∀ j (hj : j < x.F.length), j < k → ¬ 9 < (x.F[j]).length))
  case atStart => exact ⟨0, by omega, by omega, rfl, rfl, Lib.hid (fun j _ h => absurd h (by omega))⟩
  case round =>
    obtain ⟨k, hk, hgk, rfl, hw, HW⟩ := hrel
    obtain rfl : w9 = wr := hw.symm
    clear hw
    by_cases hlt : k < x.F.length
    rotate_left
    · have hge : ¬ (k : Int) < x.F.length := by omega
      have HE := Lib.hid (HLD.out (by omega) (by omega) (fun j hj => HW.out j hj (by omega)))
      clear HW HLD HLR hlt hgk hk
      go_wp2_with fail
      go_loopg [6, 7] x.G.length (fun gk n i wr => ∃ k : Nat, k ≤ x.G.length ∧ x.G.length - k ≤ gk ∧ i = .int .i64 ((k : Nat) : Int) ∧ n = .int .i64 (openN (x.G.take k) : Nat) ∧ wr = w9)
      case atStart => exact ⟨0, by omega, by omega, rfl, rfl, rfl⟩
      case round =>
        obtain ⟨k, hk, hgk, rfl, rfl, hw⟩ := hrel
        obtain rfl : w9 = wr := hw.symm
        clear hw
        have hol : openN (x.G.take k) ≤ 68 := by have := HOL.out k; rw [List.length_take] at this; omega
        by_cases hlt : k < x.G.length
        rotate_left
        · have hge : ¬ (k : Int) < x.G.length := by omega
          have HE2 : Hid (X = (decide (m < (openN (x.G.take k) : Int)) && decide (openN (x.G.take k) ≤ 8))) := Lib.hid (by rw [List.take_of_length_le (by omega)]; exact HE.out)
          clear HO HE
          generalize openN (x.G.take k) = q at HE2 hol ⊢
          by_cases hm : m < (q : Int)
          · by_cases h8 : (q : Int) ≤ 8
            all_goals
              go_wp2_with fail
              go_ret
              exact ⟨ret_bool (by rw [HE2.out]; simp; omega), HB.out.b⟩
          · go_wp2_with fail
            go_ret
            exact ⟨ret_bool (by rw [HE2.out]; simp; omega), HB.out.b⟩
        have hlt3 : (k : Int) < x.G.length := by omega
        obtain ⟨B, o, hg, hgs, hc⟩ := HB.out.up.g k hlt
        obtain ⟨g, hb⟩ : ∃ g, g = x.G[k] := ⟨_, rfl⟩
        rw [← hb] at hc
        have HOk := Lib.hid (HO.out k hlt)
        rw [← hb] at HOk
        have c3 : w9.cell? ⟨B, o + k * 6 + 3, none⟩ = some (.int .i64 g.fin) := hc 3 (by omega)
        subst hg
        clear hb hc hgs
        obtain ⟨qo, hqo⟩ : ∃ qo, qo = openN (x.G.take k) := ⟨_, rfl⟩
        rw [← hqo] at hol HOk ⊢
        by_cases hop : g.fin = 0
        · have q1 : (g.fin == 0) = true := by simpa using hop
          have HQ : Hid (openN (x.G.take (k + 1)) = qo + 1) := Lib.hid (by rw [HOk.out]; unfold openB; rw [decide_eq_true hop]; rfl)
          clear HOk hop hqo
          go_wp2_with fail
          go_roundg (x.G.length - (k + 1))
          case measure => omega
          case rel => exact ⟨k + 1, by omega, Nat.le_refl _, by go_num, by rw [HQ.out]; go_num, rfl⟩
        · have q1 : (g.fin == 0) = false := by simpa using hop
          have HQ : Hid (openN (x.G.take (k + 1)) = qo) := Lib.hid (by rw [HOk.out]; unfold openB; rw [decide_eq_false hop]; rfl)
          clear HOk hop hqo
          go_wp2_with fail
          go_roundg (x.G.length - (k + 1))
          case measure => omega
          case rel => exact ⟨k + 1, by omega, Nat.le_refl _, by go_num, by rw [HQ.out], rfl⟩
    have hlt2 : (k : Int) < x.F.length := by omega
    obtain ⟨g, o, M, c, hg, hc, hm, hml⟩ := farRow_cell HB.out.up.f hlt
    have hml' : x.F[k].length ≤ 9223372036854775807 := hml
    obtain ⟨r, hr⟩ : ∃ r, r = x.F[k] := ⟨_, rfl⟩
    rw [← hr] at hc hml'
    have HBE := Lib.hid hr
    subst hg
    clear hr hm hml
    by_cases hrl : (9 : Int) < r.length
    · have HE := Lib.hid (HLR.out k hlt (by rw [← HBE.out]; omega))
      go_wp2_with fail
      go_ret
      exact ⟨ret_bool HE.out.symm, HB.out.b⟩
    · have HN : Hid (∀ j (hj : j < x.F.length), j < k + 1 → ¬ 9 < (x.F[j]).length) := Lib.hid fun j hj hjk => by
        rcases Nat.lt_or_ge j k with h' | h'
        · exact HW.out j hj h'
        · have : j = k := by omega
          subst this
          rw [← HBE.out]; omega
      clear HBE HW
      go_wp2_with fail
      go_roundg (x.F.length - (k + 1))
      case measure => omega
      case rel => exact ⟨k + 1, by omega, Nat.le_refl _, by go_num, rfl, HN⟩
end Go.Proofs.YtljkgjfmambfoaaDoor
