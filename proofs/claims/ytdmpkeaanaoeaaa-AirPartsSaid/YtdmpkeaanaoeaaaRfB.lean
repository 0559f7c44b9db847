/- The document's holds and Holds. -/
import Derived.Test.YtdmpkeaanaoeaaaRfA
namespace Go.Proofs.Ytdmpkeaanaoeaaa
open Go.RowKit
theorem idx_at {a : Air} {t : Int} {k : Nat} (hk : k < a.T.length) (hb : ∀ j, j < k → a.T.getD j 0 < t) (hge : t ≤ a.T.getD k 0) : idx a.T t = k := idx_of (fun j hj _ => hb j hj) (by omega) (fun _ => hge)
set_option maxRecDepth 100000 in
set_option maxHeartbeats 4000000 in
theorem rholds_any (a : Air) (A B : Option Addr) (ca cb : Nat) (t : Int) (W : World) (h : AR W W.heap.size a A B) (hv : VA a) (ho : onB a t = true) : Calls Try.prog 35 #[airv a A B ca cb, .int .i64 t] W (IntPost (holdsP a t) W) := by
  have HB := Lib.hid (And.intro (below_one W (.cells (airc a A B ca cb) 26)) (box_air W a A B ca cb))
  have HA := Lib.hid h
  have HV := Lib.hid (And.intro hv ho)
  have hat := at_of hv ho
  have hn := hv.n
  have hR := hv.R
  obtain ⟨N, hN⟩ : ∃ N, N = holdsP a t := ⟨_, rfl⟩
  rw [← hN]
  have HN := Lib.hid hN
  have HAT := Lib.hid hat
  unfold airv
  clear h hv ho hat hN
  go_enter Try.func35, Try.ntmps35
  go_wp2_with fail
  go_loopg [5] a.T.length (fun gk i wr => ∃ k : Nat, k ≤ a.T.length ∧ a.T.length - k ≤ gk ∧ i = .int .i64 k ∧ Hid (Below W.heap.size W wr ∧ Has wr W.heap.size 26 (airc a A B ca cb)) ∧ Hid (∀ j, j < k → a.T.getD j 0 < t))
  case atStart => exact ⟨0, Nat.zero_le _, Nat.le_refl _, rfl, HB.out, fun j hj => absurd hj (by omega)⟩
  case round =>
    obtain ⟨k, hk, hgk, rfl, HW, HC⟩ := hrel
    have b0 : wr.cell? ⟨W.heap.size, 0, none⟩ = some (.int .i64 a.R) := HW.out.2.cell 0
    have b1 : wr.cell? ⟨W.heap.size, 1, none⟩ = some (.slice A a.T.length ca) := HW.out.2.cell 1
    have b2 : wr.cell? ⟨W.heap.size, 2, none⟩ = some (.slice B a.H.length cb) := HW.out.2.cell 2
    have bl := HW.out.2.lt
    by_cases hlt : k < a.T.length
    · have hlt2 : (k : Int) < a.T.length := by omega
      have hltn : k < a.H.length := by have := HV.out.1.l; omega
      have hltH : (k : Int) < a.H.length := by omega
      obtain ⟨g, o, hA, hg, c0⟩ := HA.out.t.below HW.out.1 k hlt
      obtain ⟨g', o', hB, hg', d0⟩ := HA.out.h.below HW.out.1 k hltn
      have hgs : g < wr.heap.size := by have := HW.out.1.size; omega
      have hgs' : g' < wr.heap.size := by have := HW.out.1.size; omega
      rw [← getD_lt hlt] at c0
      rw [← getD_lt hltn] at d0
      have hyb := HV.out.1.h k hlt
      have hxb := HV.out.1.t k hlt
      by_cases he : a.T.getD k 0 = t
      · have hix : idx a.T t = k := idx_at hlt HC.out (by omega)
        have HE := Lib.hid (show N = a.H.getD k 0 * a.R by rw [HN.out]; unfold holdsP; rw [hix, if_pos he])
        have hb := prod_bd (x := a.H.getD k 0) (y := a.R) (m := 100000) (n := 1048576) (by omega) (by omega)
        subst hA hB
        rw [he] at c0
        obtain ⟨y, hy⟩ : ∃ y, y = a.H.getD k 0 := ⟨_, rfl⟩
        rw [← hy] at d0 HE hb
        have e1 : IntKind.i64.wrap (y * a.R) = y * a.R := IntWalk.i64_in _ (by omega)
        clear hy he hix hyb hxb
        go_wp2_with fail
        go_quiet (fail)
        go_wp2_with fail
        go_ret
        exact ⟨by rw [HE.out]; rfl, below_drN HW.out.1 _⟩
      · by_cases hlt3 : t < a.T.getD k 0
        · have hix : idx a.T t = k := idx_at hlt HC.out (by omega)
          have hp : 0 < k := by have := HAT.out.pos; rw [hix] at this; exact this he
          obtain ⟨j, hj⟩ : ∃ j, k = j + 1 := ⟨k - 1, by omega⟩
          have hjl : j < a.T.length := by omega
          have hjn : j < a.H.length := by omega
          obtain ⟨g2, o2, hA2, -, c2⟩ := HA.out.t.below HW.out.1 j hjl
          obtain ⟨g3, o3, hB2, -, d2⟩ := HA.out.h.below HW.out.1 j hjn
          subst hA hB
          simp only [Option.some.injEq, Addr.mk.injEq, and_true] at hA2 hB2
          obtain ⟨rfl, rfl⟩ := hA2
          obtain ⟨rfl, rfl⟩ := hB2
          rw [← getD_lt hjl] at c2
          rw [← getD_lt hjn] at d2
          have hbj := HC.out j (by omega)
          have hyj := HV.out.1.h j hjl
          have hxj := HV.out.1.t j hjl
          have hle := (HV.out.1.le (i := j) (j := k) (by omega) hlt).2
          have HE := Lib.hid (show N = mid (a.H.getD j 0) (a.H.getD k 0) (t - a.T.getD j 0) (a.T.getD k 0 - a.T.getD j 0) * a.R by
            rw [HN.out]; unfold holdsP; rw [hix, if_neg he, show k - 1 = j by omega])
          obtain ⟨x, hx⟩ : ∃ x, x = a.T.getD k 0 := ⟨_, rfl⟩
          obtain ⟨y, hy⟩ : ∃ y, y = a.H.getD k 0 := ⟨_, rfl⟩
          obtain ⟨u, hu⟩ : ∃ u, u = a.T.getD j 0 := ⟨_, rfl⟩
          obtain ⟨v, hvv⟩ : ∃ v, v = a.H.getD j 0 := ⟨_, rfl⟩
          rw [← hx] at c0 HE hlt3 hxb he
          rw [← hy] at d0 HE hyb hle
          rw [← hu] at c2 HE hbj hxj
          rw [← hvv] at d2 HE hyj hle
          have p1 := prod_bd (x := y - v) (y := t - u) (m := 100000) (n := 1000) (by omega) (by omega)
          have p2 := mid_bd (A := v) (B := y) (x := t - u) (y := x - u) hle (by omega) (by omega) (by omega)
          have p3 := prod_bd (x := mid v y (t - u) (x - u)) (y := a.R) (m := 100000) (n := 1048576) (by omega) (by omega)
          have q6 := Int.tdiv_eq_ediv_of_nonneg (b := x - u) p1.1
          unfold mid at p2 p3 HE
          have q0 : IntKind.i64.wrap (y - v) = y - v := IntWalk.i64_in _ (by omega)
          have q1 : IntKind.i64.wrap (t - u) = t - u := IntWalk.i64_in _ (by omega)
          have q2 : IntKind.i64.wrap ((y - v) * (t - u)) = (y - v) * (t - u) := IntWalk.i64_in _ (by omega)
          have q3 : IntKind.i64.wrap (x - u) = x - u := IntWalk.i64_in _ (by omega)
          have q7 : ¬ x - u = 0 := by omega
          have q4 : IntKind.i64.wrap (v + (y - v) * (t - u) / (x - u)) = v + (y - v) * (t - u) / (x - u) := IntWalk.i64_in _ (by omega)
          have q8 : IntKind.i64.wrap ((y - v) * (t - u) / (x - u)) = (y - v) * (t - u) / (x - u) := IntWalk.i64_in _ (by omega)
          have q5 : IntKind.i64.wrap ((v + (y - v) * (t - u) / (x - u)) * a.R) = (v + (y - v) * (t - u) / (x - u)) * a.R := IntWalk.i64_in _ (by omega)
          have k1 : ((k : Int) - 1).toNat = j := by omega
          have k2 : IntKind.i64.wrap ((k : Int) - 1) = (k : Int) - 1 := IntWalk.i64_in _ (by omega)
          have k3 : (k : Int) - 1 < a.T.length := by omega
          have k4 : (k : Int) - 1 < a.H.length := by omega
          have k5 : (0 : Int) ≤ (k : Int) - 1 := by omega
          have k6 : (1 : Int) ≤ k := by omega
          have k7 : (0 : Int) < k := by omega
          have k8 : (x == t) = false := by simp; omega
          have hup : ∀ w : World, Below wr.heap.size wr w → w.cell? ⟨W.heap.size, 0, none⟩ = some (.int .i64 a.R) := fun w hb => (hb.cell (p := ⟨W.heap.size, 0, none⟩) bl).trans b0
          have HJ := Lib.hid hj
          clear hx hy hu hvv p1 p2 p3 he hix hj hup hyb hxb hyj hxj hle
          go_wp2_with fail
          go_quiet (fail)
          go_wp2_with fail
          go_quiet (fail)
          go_wp2_with fail
          go_ret
          exact ⟨by rw [HE.out]; rfl, by first | exact below_drN HW.out.1 _ | exact below_drN (below_drN HW.out.1 _) _⟩
        · have hgt : a.T.getD k 0 < t := by omega
          obtain ⟨x, hx⟩ : ∃ x, x = a.T.getD k 0 := ⟨_, rfl⟩
          have HX := Lib.hid hx
          rw [← hx] at c0 hlt3 hgt he
          have k8 : (x == t) = false := by simp; omega
          have HGT := Lib.hid hgt
          rcases Nat.eq_zero_or_pos k with hk0 | hk0
          · subst hk0
            subst hA hB
            rw [Nat.add_zero] at c0 d0
            clear hx he d0
            go_wp2_with fail
            go_roundg (a.T.length - 1)
            case measure => omega
            case rel => exact ⟨1, by omega, Nat.le_refl _, by go_num, HW.out, fun j hj => by
              have : j = 0 := by omega
              subst this
              rw [← HX.out]; exact HGT.out⟩
          · have hjl : k - 1 < a.T.length := by omega
            obtain ⟨g2, o2, hA2, -, c2⟩ := HA.out.t.below HW.out.1 (k - 1) hjl
            subst hA hB
            simp only [Option.some.injEq, Addr.mk.injEq, and_true] at hA2
            obtain ⟨rfl, rfl⟩ := hA2
            rw [← getD_lt hjl] at c2
            have hbj := HC.out (k - 1) (by omega)
            obtain ⟨u, hu⟩ : ∃ u, u = a.T.getD (k - 1) 0 := ⟨_, rfl⟩
            rw [← hu] at c2 hbj
            have k1 : ((k : Int) - 1).toNat = k - 1 := by omega
            have k3 : (k : Int) - 1 < a.T.length := by omega
            have k5 : (0 : Int) ≤ (k : Int) - 1 := by omega
            have k6 : (1 : Int) ≤ k := by omega
            have k7 : (0 : Int) < k := by omega
            clear hx hu he d0
            go_wp2_with fail
            go_roundg (a.T.length - (k + 1))
            case measure => omega
            case rel => exact ⟨k + 1, by omega, Nat.le_refl _, by go_num, HW.out, fun j hj => by
              rcases Nat.lt_succ_iff_lt_or_eq.1 hj with h' | rfl
              · exact HC.out j h'
              · rw [← HX.out]; exact HGT.out⟩
    · exfalso
      have h1 := HAT.out.lt
      have h2 := HC.out _ (show idx a.T t < k by omega)
      have h3 := HAT.out.ge
      omega
end Go.Proofs.Ytdmpkeaanaoeaaa
