/- The document's sorted. -/
import Derived.Test.YtfdjoldcdfbfhaaRfB
namespace Go.Proofs.Ytfdjoldcdfbfhaa
open Go.Shelf Go.RowKit
theorem grown_below {B : Nat} {w w' : World} {row : Option Nat} (hg : w.grownBy w' row) (hB : B ≤ w.heap.size) (hr : ∀ k, row = some k → B ≤ k) : Below B w w' :=
  ⟨hg.os, hg.tape, hg.output, hg.size, fun k hk => hg.block k (by omega) (fun e => by have := hr k e.symm; omega)⟩
theorem below_one_drew (w : World) (o : Obj) : Below w.heap.size w (w.alloc o).drew := by
  have h := below_one w o
  exact ⟨h.os, h.tape, h.output, h.size, h.block⟩
theorem own_one (w : World) (e : TypeId) (v : Value) : (w.alloc (.cells #[v] e)).ownsRow w.heap.size e 1 (.slice (some ⟨w.heap.size, 0, none⟩) 1 1) 1 [v] :=
  ⟨by simp, .inr ⟨w.heap.size, 1, #[v], rfl, Nat.le_refl _, by have := Has.new w e #[v]; simpa [Has] using this, Nat.le_refl _, by unfold maxLen; omega, by simp, by simp⟩⟩
theorem offI_none {A : Option Addr} {cap k : Nat} (h : offI A cap k = none) : A = none := by
  unfold offI at h
  split at h
  · exact h
  · simpa using h
set_option maxRecDepth 100000 in
set_option maxHeartbeats 4000000 in
theorem sorted_any (xs : List Int) (A : Option Addr) (cap : Nat) (W : World) (hr : IRow W W.heap.size A xs) (hl : xs.length ≤ 20) :
    Calls Try.prog 67 #[.slice A xs.length cap] W (SortedPost xs W) := by
  obtain ⟨i0, hi, hz0, hz1, hz2⟩ := info_parts Try.info3
  have HR := Lib.hid hr
  clear hr
  go_enter Try.func67, Try.ntmps67
  go_wp2_with fail
  go_loopg [3, 4] xs.length (fun gk v i wr => ∃ (k : Nat) (A3 : Option Addr) (cap3 : Nat) (ys : List Int), k ≤ xs.length ∧ xs.length - k ≤ gk ∧ v = .slice A3 k cap3 ∧ i = .int .i64 k ∧ k ≤ cap3 ∧ ys.length = k ∧ Hid (Below W.heap.size W wr) ∧ Hid (IRow wr wr.heap.size A3 ys) ∧ Hid (ys.Perm (xs.take k) ∧ ys.Pairwise (· ≤ ·)))
  case atStart => exact ⟨0, none, 0, [], Nat.zero_le _, Nat.le_refl _, rfl, rfl, Nat.le_refl _, rfl, Below.refl _ _, irow_nil _ _ _, ⟨by simp, List.Pairwise.nil⟩⟩
  case round =>
    obtain ⟨k, A3, cap3, ys, hk, hgk, rfl, rfl, hkc, hyl, HB, HY, HP⟩ := hrel
    by_cases hlt : k < xs.length
    · have hlt' : (k : Int) < xs.length := by omega
      obtain ⟨g, o, rfl, hg, cx⟩ := (HR.out.below HB.out) k hlt
      have hgw : g < wr.heap.size := by have := HB.out.size; omega
      obtain ⟨x, hx⟩ : ∃ x, x = xs[k] := ⟨_, rfl⟩
      rw [← hx] at cx
      have HX := Lib.hid hx
      clear hx
      go_wp2_with fail
      obtain ⟨w2, rfl⟩ : ∃ w2, w2 = wr := ⟨_, rfl⟩
      go_loopg [5] k (fun g2 q wx => ∃ j : Nat, j ≤ k ∧ k - j ≤ g2 ∧ q = .int .i64 j ∧ Hid (Below w2.heap.size w2 wx) ∧ Hid (∀ n (h : n < ys.length), n < j → ys[n] ≤ x))
      case atStart => exact ⟨0, Nat.zero_le _, Nat.le_refl _, rfl, Below.refl _ _, fun n h h' => absurd h' (by omega)⟩
      case round =>
        obtain ⟨j, hj, hg2, rfl, HBX, HJ⟩ := hrel
        have hdx : ∀ n, (wr.drewN n).cell? ⟨g, o + k, none⟩ = some (.int .i64 x) := fun n => (HBX.out.cell (p := ⟨g, o + k, none⟩) hgw).trans cx
        have hgx : g < wr.heap.size := by have := HBX.out.size; omega
        have hstop : (j < k ∧ ∃ h : j < ys.length, ys[j] ≤ x) ∨ (j < k ∧ ∃ h : j < ys.length, x < ys[j]) ∨ j = k := by
          by_cases h : j < k
          · have hjy : j < ys.length := by omega
            by_cases hle : ys[j] ≤ x
            · exact .inl ⟨h, hjy, hle⟩
            · exact .inr (.inl ⟨h, hjy, by omega⟩)
          · exact .inr (.inr (by omega))
        rcases hstop with ⟨hjk, hjy, hle⟩ | hs
        · obtain ⟨g3, o3, rfl, hg3, c3⟩ := (HY.out.below HBX.out) j hjy
          have hjk' : (j : Int) < k := by omega
          have hd3 : ∀ n, (wr.drewN n).cell? ⟨g3, o3 + j, none⟩ = some (.int .i64 ys[j]) := fun _ => c3
          obtain ⟨z, hz⟩ : ∃ z, z = ys[j] := ⟨_, rfl⟩
          rw [← hz] at hd3 hle
          have HZ := Lib.hid hz
          clear hz c3
          go_wp2_with fail
          go_quiet (fail)
          go_wp2_with fail
          go_roundg (k - (j + 1))
          case measure => omega
          case rel =>
            refine ⟨j + 1, by omega, Nat.le_refl _, by go_num, ⟨HBX.out.os, HBX.out.tape, HBX.out.output, HBX.out.size, HBX.out.block⟩, fun n hn hnj => ?_⟩
            rcases Nat.lt_succ_iff_lt_or_eq.1 hnj with h | rfl
            · exact HJ.out n hn h
            · rw [← HZ.out]; exact hle
        · have HJ2 := Lib.hid (show ∀ h : j < ys.length, x < ys[j] from fun h => by rcases hs with ⟨_, _, h2⟩ | h2 <;> omega)
          have hsl : ∀ w, (Instr.sliceAt 52 (.slice A3 k cap3) (some (.int .i64 j)) none none).run Try.prog w = .ok (.slice (offI A3 cap3 j) (k - j) (cap3 - j)) w := cut52_lo A3 k cap3 j hj
          have hsl2 : ∀ w, (Instr.sliceAt 52 (.slice A3 k cap3) none (some (.int .i64 j)) none).run Try.prog w = .ok (.slice A3 j cap3) w := cut52_hi A3 k cap3 j (by omega)
          have hgo : ∀ w4 : World, Below w2.heap.size w2 w4 → True := fun _ _ => trivial
          clear hgo
          rcases hs with ⟨hjk, hjy, hlt3⟩ | hje
          · obtain ⟨g3, o3, rfl, hg3, c3⟩ := (HY.out.below HBX.out) j hjy
            have hjk' : (j : Int) < k := by omega
            have hd3 : ∀ n, (wr.drewN n).cell? ⟨g3, o3 + j, none⟩ = some (.int .i64 ys[j]) := fun _ => c3
            obtain ⟨z, hz⟩ : ∃ z, z = ys[j] := ⟨_, rfl⟩
            rw [← hz] at hd3 hlt3
            clear hz c3 hjy
            go_wp2_with fail
            go_quiet (fail)
            clear hd3
            have HB4 := Lib.hid (show Below w2.heap.size w2 (wr.drewN nq) from ⟨HBX.out.os, HBX.out.tape, HBX.out.output, HBX.out.size, HBX.out.block⟩)
            clear hdx hgx
            generalize wr.drewN nq = w4 at HB4 ⊢
            have hs4 := HB4.out.size
            have cx4 : w4.cell? ⟨g, o + k, none⟩ = some (.int .i64 x) := (HB4.out.cell (p := ⟨g, o + k, none⟩) hgw).trans cx
            have hg4 : g < w4.heap.size := by omega
            go_wp2_with fail
            have HYd0 := Lib.hid ((HY.out.step HB4.out).step (below_one_drew w4 (.cells #[.int .i64 x] 3)))
            have HYd : Hid (IRow w4 w4.heap.size (offI (some ⟨g3, o3, none⟩) cap3 j) (ys.drop j)) := (HY.out.step HB4.out).drop (by omega) j
            have HO1 : Hid (((w4.alloc (.cells #[.int .i64 x] 3)).drew).ownsRow w4.heap.size 3 1 (.slice (some ⟨w4.heap.size, 0, none⟩) 1 1) 1 (ili [x])) := own_one w4 3 (.int .i64 x)
            have HYe : Hid (IRow ((w4.alloc (.cells #[.int .i64 x] 3)).drew) ((w4.alloc (.cells #[.int .i64 x] 3)).drew).heap.size (offI (some ⟨g3, o3, none⟩) cap3 j) (ys.drop j)) := HYd0.out.drop (by omega) j
            have cx5 : ((w4.alloc (.cells #[.int .i64 x] 3)).drew).cell? ⟨g, o + k, none⟩ = some (.int .i64 x) := ((below_one w4 _).cell (p := ⟨g, o + k, none⟩) hg4).trans cx4
            have hle5 : w4.heap.size ≤ ((w4.alloc (.cells #[.int .i64 x] 3)).drew).heap.size := (below_one w4 _).size
            have hAn : offI (some ⟨g3, o3, none⟩) cap3 j = none → k - j = 0 := fun h => by have := irow_none HY.out (offI_none h); omega
            have hdl : (ili (ys.drop j)).length = (k - j) * 1 := by rw [ili_len, List.length_drop]; omega
            go_region_held_law (fun w' => w'.cell? ⟨g, o + k, none⟩ = some (.int .i64 x)) (first | exact cx4 | exact cx5 | exact cx6)
              (first
                | ((with_reducible refine step_at ((w4.alloc (.cells #[.int .i64 x] 3)).drew) ?_); refine step_append_row (by rfl) (.tmp 34) (.tmp 37) 52 (by rfl) (some 38) (by rfl) w4.heap.size 3 i0 (.int .i64 0) 1 8 Try.underlying52 hi hz0 hz1 hz2 rfl (by decide) (.slice (some ⟨w4.heap.size, 0, none⟩) 1 1) 1 (ili [x]) (by rfl) HO1.out (offI (some ⟨g3, o3, none⟩) cap3 j) (k - j) (cap3 - j) (ili (ys.drop j)) (by rfl) hAn hdl (irow_cells HYe.out) (ili_one _) (by unfold maxLen; omega) (by omega) hle5 ?_; intro v1 w5 hown hgrow hat; (have cx6 : w5.cell? ⟨g, o + k, none⟩ = some (.int .i64 x) := hgrow.cell cx5 (by simp only [Value.ownBlock, ne_eq, Option.some.injEq]; omega)); (have H5 := Lib.hid (And.intro hown hgrow)); clear hown hgrow hat))
            have hil : ili [x] ++ ili (ys.drop j) = ili (x :: ys.drop j) := rfl
            have hb5 : Below w2.heap.size w2 w5 := HB4.out.trans (((below_one_drew w4 (.cells #[.int .i64 x] 3)).mono hs4).trans (grown_below H5.out.2 (by have := (below_one_drew w4 (.cells #[.int .i64 x] 3)).size; omega) (fun q hq => by simp only [Value.ownBlock, Option.some.injEq] at hq; omega)))
            obtain ⟨A5, cap5, hv5, hcap5, hr5⟩ := own_irow (l := x :: ys.drop j) (hil ▸ H5.out.1) (by simp; omega)
            subst hv5
            have hlen5 : (x :: ys.drop j).length = 1 + (k - j) := by simp; omega
            have H6 := Lib.hid (And.intro hb5 hr5)
            clear hb5 hr5 hil cx6 H5
            have HYt : Hid (IRow (w5.alloc (.cells #[] 3)) (w5.alloc (.cells #[] 3)).heap.size (some ⟨g3, o3, none⟩) (ys.take j)) := ((HY.out.step H6.out.1).step (below_one w5 _)).take j
            have hAt : (some ⟨g3, o3, none⟩ : Option Addr) = none → j = 0 := fun h => by have := irow_none HY.out h; omega
            have htl : (ili (ys.take j)).length = j * 1 := by rw [ili_len, List.length_take]; omega
            have HM := Lib.hid (own_made w5 3 1)
            rw [hlen5]
            go_wp2_with (at_builtin; refine wpList_append_row rfl _ _ 52 rfl w5.heap.size 3 i0 (.int .i64 0) 1 8 Try.underlying52 hi hz0 hz1 hz2 rfl (by decide) (.slice (some ⟨w5.heap.size, 0, none⟩) 0 0) 0 [] rfl HM.out (some ⟨g3, o3, none⟩) j cap3 (ili (ys.take j)) rfl hAt htl (irow_cells HYt.out) (ili_one _) ?q1 ?q2 ?q3 ?_)
            case q1 => unfold maxLen; omega
            case q2 => omega
            case q3 => exact (below_one w5 _).size
            intro v6 w6 hown6 hgrow6
            have hb6 : Below w5.heap.size w5 w6 := (below_one w5 (.cells #[] 3)).trans (grown_below hgrow6 (by have := (below_one w5 (.cells #[] 3)).size; omega) (fun q hq => by simp only [Value.ownBlock, Option.some.injEq] at hq; omega))
            have H7 := Lib.hid (And.intro hown6 (And.intro hb6 (H6.out.2.step hb6)))
            have hs6 := hb6.size
            clear hown6 hgrow6 hb6
            have hA5 : A5 = none → 1 + (k - j) = 0 := fun h => by have := irow_none H6.out.2 h; omega
            have hl5 : (ili (x :: ys.drop j)).length = (1 + (k - j)) * 1 := by rw [ili_len, hlen5]
            go_wp2_with (at_builtin; refine wpList_append_row rfl _ _ 52 rfl w5.heap.size 3 i0 (.int .i64 0) 1 8 Try.underlying52 hi hz0 hz1 hz2 rfl (by decide) v6 j (ili (ys.take j)) rfl H7.out.1 A5 (1 + (k - j)) cap5 (ili (x :: ys.drop j)) rfl hA5 hl5 (irow_cells H7.out.2.2) (ili_one _) ?r1 ?r2 ?r3 ?_)
            case r1 => unfold maxLen; omega
            case r2 => omega
            case r3 => exact hs6
            intro v8 w8 hown8 hgrow8
            have hb8 : Below w5.heap.size w5 w8 := H7.out.2.1.trans (grown_below hgrow8 hs6 (fun q hq => (H7.out.1.lt q hq).1))
            have hil8 : ili (ys.take j) ++ ili (x :: ys.drop j) = ili (ys.take j ++ x :: ys.drop j) := by simp [ili]
            obtain ⟨A8, cap8, hv8, hcap8, hr8⟩ := own_irow (l := ys.take j ++ x :: ys.drop j) (hil8 ▸ hown8) (by simp; omega)
            subst hv8
            have hlen8 : (ys.take j ++ x :: ys.drop j).length = k + 1 := by simp; omega
            rw [hlen8] at hcap8
            rw [hlen8]
            have H8 := Lib.hid (And.intro (HB.out.trans ((H6.out.1.trans (hb8.mono H6.out.1.size)).mono HB.out.size)) hr8)
            clear hb8 hr8 hown8 hgrow8 hil8
            go_wp2_with fail
            go_roundg (xs.length - (k + 1))
            case measure => omega
            case rel =>
              refine ⟨k + 1, A8, cap8, ys.take j ++ x :: ys.drop j, by omega, Nat.le_refl _, rfl, by go_num, hcap8, hlen8, H8.out.1, H8.out.2, ?_, put_sorted HP.out.2 (by omega) HJ.out HJ2.out⟩
              refine (put_perm ys x j).trans ?_
              rw [List.take_succ_eq_append_getElem hlt, ← HX.out]
              exact (HP.out.1.cons x).trans (List.perm_append_singleton x _).symm
          · have hjk' : ¬ (j : Int) < k := by omega
            have hjd : decide (j < k) = false := decide_eq_false (by omega)
            clear hje
            go_wp2_with fail
            go_quiet (fail)
            have HB4 := Lib.hid (show Below w2.heap.size w2 (wr.drewN nq) from ⟨HBX.out.os, HBX.out.tape, HBX.out.output, HBX.out.size, HBX.out.block⟩)
            clear hdx hgx
            generalize wr.drewN nq = w4 at HB4 ⊢
            have hs4 := HB4.out.size
            have cx4 : w4.cell? ⟨g, o + k, none⟩ = some (.int .i64 x) := (HB4.out.cell (p := ⟨g, o + k, none⟩) hgw).trans cx
            have hg4 : g < w4.heap.size := by omega
            go_wp2_with fail
            have HYd0 := Lib.hid ((HY.out.step HB4.out).step (below_one_drew w4 (.cells #[.int .i64 x] 3)))
            have HYd : Hid (IRow w4 w4.heap.size (offI A3 cap3 j) (ys.drop j)) := (HY.out.step HB4.out).drop (by omega) j
            have HO1 : Hid (((w4.alloc (.cells #[.int .i64 x] 3)).drew).ownsRow w4.heap.size 3 1 (.slice (some ⟨w4.heap.size, 0, none⟩) 1 1) 1 (ili [x])) := own_one w4 3 (.int .i64 x)
            have HYe : Hid (IRow ((w4.alloc (.cells #[.int .i64 x] 3)).drew) ((w4.alloc (.cells #[.int .i64 x] 3)).drew).heap.size (offI A3 cap3 j) (ys.drop j)) := HYd0.out.drop (by omega) j
            have cx5 : ((w4.alloc (.cells #[.int .i64 x] 3)).drew).cell? ⟨g, o + k, none⟩ = some (.int .i64 x) := ((below_one w4 _).cell (p := ⟨g, o + k, none⟩) hg4).trans cx4
            have hle5 : w4.heap.size ≤ ((w4.alloc (.cells #[.int .i64 x] 3)).drew).heap.size := (below_one w4 _).size
            have hAn : offI A3 cap3 j = none → k - j = 0 := fun h => by have := irow_none HY.out (offI_none h); omega
            have hdl : (ili (ys.drop j)).length = (k - j) * 1 := by rw [ili_len, List.length_drop]; omega
            go_region_held_law (fun w' => w'.cell? ⟨g, o + k, none⟩ = some (.int .i64 x)) (first | exact cx4 | exact cx5 | exact cx6)
              (first
                | ((with_reducible refine step_at ((w4.alloc (.cells #[.int .i64 x] 3)).drew) ?_); refine step_append_row (by rfl) (.tmp 34) (.tmp 37) 52 (by rfl) (some 38) (by rfl) w4.heap.size 3 i0 (.int .i64 0) 1 8 Try.underlying52 hi hz0 hz1 hz2 rfl (by decide) (.slice (some ⟨w4.heap.size, 0, none⟩) 1 1) 1 (ili [x]) (by rfl) HO1.out (offI A3 cap3 j) (k - j) (cap3 - j) (ili (ys.drop j)) (by rfl) hAn hdl (irow_cells HYe.out) (ili_one _) (by unfold maxLen; omega) (by omega) hle5 ?_; intro v1 w5 hown hgrow hat; (have cx6 : w5.cell? ⟨g, o + k, none⟩ = some (.int .i64 x) := hgrow.cell cx5 (by simp only [Value.ownBlock, ne_eq, Option.some.injEq]; omega)); (have H5 := Lib.hid (And.intro hown hgrow)); clear hown hgrow hat))
            have hil : ili [x] ++ ili (ys.drop j) = ili (x :: ys.drop j) := rfl
            have hb5 : Below w2.heap.size w2 w5 := HB4.out.trans (((below_one_drew w4 (.cells #[.int .i64 x] 3)).mono hs4).trans (grown_below H5.out.2 (by have := (below_one_drew w4 (.cells #[.int .i64 x] 3)).size; omega) (fun q hq => by simp only [Value.ownBlock, Option.some.injEq] at hq; omega)))
            obtain ⟨A5, cap5, hv5, hcap5, hr5⟩ := own_irow (l := x :: ys.drop j) (hil ▸ H5.out.1) (by simp; omega)
            subst hv5
            have hlen5 : (x :: ys.drop j).length = 1 + (k - j) := by simp; omega
            have H6 := Lib.hid (And.intro hb5 hr5)
            clear hb5 hr5 hil cx6 H5
            have HYt : Hid (IRow (w5.alloc (.cells #[] 3)) (w5.alloc (.cells #[] 3)).heap.size A3 (ys.take j)) := ((HY.out.step H6.out.1).step (below_one w5 _)).take j
            have hAt : A3 = none → j = 0 := fun h => by have := irow_none HY.out h; omega
            have htl : (ili (ys.take j)).length = j * 1 := by rw [ili_len, List.length_take]; omega
            have HM := Lib.hid (own_made w5 3 1)
            rw [hlen5]
            go_wp2_with (at_builtin; refine wpList_append_row rfl _ _ 52 rfl w5.heap.size 3 i0 (.int .i64 0) 1 8 Try.underlying52 hi hz0 hz1 hz2 rfl (by decide) (.slice (some ⟨w5.heap.size, 0, none⟩) 0 0) 0 [] rfl HM.out A3 j cap3 (ili (ys.take j)) rfl hAt htl (irow_cells HYt.out) (ili_one _) ?q1 ?q2 ?q3 ?_)
            case q1 => unfold maxLen; omega
            case q2 => omega
            case q3 => exact (below_one w5 _).size
            intro v6 w6 hown6 hgrow6
            have hb6 : Below w5.heap.size w5 w6 := (below_one w5 (.cells #[] 3)).trans (grown_below hgrow6 (by have := (below_one w5 (.cells #[] 3)).size; omega) (fun q hq => by simp only [Value.ownBlock, Option.some.injEq] at hq; omega))
            have H7 := Lib.hid (And.intro hown6 (And.intro hb6 (H6.out.2.step hb6)))
            have hs6 := hb6.size
            clear hown6 hgrow6 hb6
            have hA5 : A5 = none → 1 + (k - j) = 0 := fun h => by have := irow_none H6.out.2 h; omega
            have hl5 : (ili (x :: ys.drop j)).length = (1 + (k - j)) * 1 := by rw [ili_len, hlen5]
            go_wp2_with (at_builtin; refine wpList_append_row rfl _ _ 52 rfl w5.heap.size 3 i0 (.int .i64 0) 1 8 Try.underlying52 hi hz0 hz1 hz2 rfl (by decide) v6 j (ili (ys.take j)) rfl H7.out.1 A5 (1 + (k - j)) cap5 (ili (x :: ys.drop j)) rfl hA5 hl5 (irow_cells H7.out.2.2) (ili_one _) ?r1 ?r2 ?r3 ?_)
            case r1 => unfold maxLen; omega
            case r2 => omega
            case r3 => exact hs6
            intro v8 w8 hown8 hgrow8
            have hb8 : Below w5.heap.size w5 w8 := H7.out.2.1.trans (grown_below hgrow8 hs6 (fun q hq => (H7.out.1.lt q hq).1))
            have hil8 : ili (ys.take j) ++ ili (x :: ys.drop j) = ili (ys.take j ++ x :: ys.drop j) := by simp [ili]
            obtain ⟨A8, cap8, hv8, hcap8, hr8⟩ := own_irow (l := ys.take j ++ x :: ys.drop j) (hil8 ▸ hown8) (by simp; omega)
            subst hv8
            have hlen8 : (ys.take j ++ x :: ys.drop j).length = k + 1 := by simp; omega
            rw [hlen8] at hcap8
            rw [hlen8]
            have H8 := Lib.hid (And.intro (HB.out.trans ((H6.out.1.trans (hb8.mono H6.out.1.size)).mono HB.out.size)) hr8)
            clear hb8 hr8 hown8 hgrow8 hil8
            go_wp2_with fail
            go_roundg (xs.length - (k + 1))
            case measure => omega
            case rel =>
              refine ⟨k + 1, A8, cap8, ys.take j ++ x :: ys.drop j, by omega, Nat.le_refl _, rfl, by go_num, hcap8, hlen8, H8.out.1, H8.out.2, ?_, put_sorted HP.out.2 (by omega) HJ.out HJ2.out⟩
              refine (put_perm ys x j).trans ?_
              rw [List.take_succ_eq_append_getElem hlt, ← HX.out]
              exact (HP.out.1.cons x).trans (List.perm_append_singleton x _).symm
    · have hlt' : ¬ (k : Int) < xs.length := by omega
      have HF := Lib.hid (show ys.Perm xs from by have := HP.out.1; rwa [List.take_of_length_le (by omega)] at this)
      have HYL := Lib.hid hyl
      subst hyl
      go_wp2_with fail
      go_ret
      exact ⟨_, _, ys, rfl, HB.out, HY.out, HF.out, HP.out.2⟩
end Go.Proofs.Ytfdjoldcdfbfhaa
