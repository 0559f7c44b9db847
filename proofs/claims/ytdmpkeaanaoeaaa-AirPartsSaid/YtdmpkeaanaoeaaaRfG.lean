/- The document's dry. -/
import Derived.Test.YtdmpkeaanaoeaaaRfF
import Derived.Test.YtdmpkeaanaoeaaaMoA
namespace Go.Proofs.Ytdmpkeaanaoeaaa
open Go.RowKit
/-- a step with another dryer -/
def wds (d : Int) (s : Stp) : Stp := { s with dry := d }
theorem moOf_wds (a : Air) (d : Int) (s : Stp) : moOf a (wds d s) = sd d (moOf a s) := rfl
theorem dryB_no {hi d : Int} {ms : List Mo} {k : Nat} (hk : k < ms.length) (h : 0 < (crs hi (·.c1) (wd d ms) (k + 1)).dew) : dryB hi ms d = false := by
  unfold dryB
  rw [decide_eq_false_iff_not, fogP_neg]
  exact fun h' => h' k hk h
theorem dryB_yes {hi d : Int} {ms : List Mo} {k : Nat} (hk : k = ms.length) (h : ∀ i, i < k → ¬ 0 < (crs hi (·.c1) (wd d ms) (i + 1)).dew) : dryB hi ms d = true := by
  unfold dryB
  rw [decide_eq_true_eq, fogP_neg]
  subst hk; exact h
set_option maxRecDepth 100000 in
set_option maxHeartbeats 4000000 in
theorem dry_any (a : Air) (A B : Option Addr) (ca cb : Nat) (lo hi d : Int) (L : List Stp) (AL : Option Addr) (cl : Nat) (W : World) (har : AR W W.heap.size a A B) (hr : SRow W W.heap.size AL L) (hg : insB a lo hi L = true) (hd : 0 ≤ d ∧ d ≤ 68719476736) :
    Calls Try.prog 50 #[airv a A B ca cb, .agg #[.int .i64 lo, .int .i64 hi], .slice AL L.length cl, .int .i64 d] W (BoolPost (dryB hi (msOf a L) d) W) := by
  have HB := Lib.hid (box_vb W a A B ca cb lo hi)
  have HA := Lib.hid (And.intro har hr)
  have C1 := Lib.hid (fun s w hv hs hw w1 h => greatest_any a A B ca cb s w w1 h hv hs hw)
  have HG := Lib.hid ((insB_iff a lo hi L).1 hg)
  have hgl := wd_good (ins_gl hg) hd
  have HL := Lib.hid (And.intro hgl (msOf_len a L))
  have HD := Lib.hid hd
  have hl2 : L.length ≤ 200 := HG.out.2.2.1
  unfold airv at *
  clear har hr hg hgl hd
  go_enter Try.func50, Try.ntmps50
  go_upto_region 1 with fail
  generalize ((W.alloc (.cells (airc a A B ca cb) 26)).alloc (.cells #[.int .i64 lo, .int .i64 hi] 24)) = w0 at HB ⊢
  have l1 : w0.cell? ⟨W.heap.size + 1, 1, none⟩ = some (.int .i64 hi) := HB.out.fw.cell 1
  go_wp2_with fail
  clear l1
  go_loopg [9, 10] L.length (fun gk n i wr => ∃ k : Nat, k ≤ L.length ∧ L.length - k ≤ gk ∧ i = .int .i64 k ∧ n = .int .i64 (crs hi (·.c1) (wd d (msOf a L)) k).w ∧ Hid (VB W wr a A B ca cb lo hi) ∧ Hid (∀ i, i < k → ¬ 0 < (crs hi (·.c1) (wd d (msOf a L)) (i + 1)).dew))
  case atStart => exact ⟨0, Nat.zero_le _, Nat.le_refl _, rfl, rfl, HB, Lib.hid (fun i hi => absurd hi (by omega))⟩
  case round =>
    obtain ⟨k, hk, hgk, rfl, rfl, HW, HC⟩ := hrel
    by_cases hlt : k < L.length
    rotate_left
    · have hge : ¬ (k : Int) < L.length := by omega
      have HX := Lib.hid (dryB_yes (k := k) (by rw [HL.out.2]; omega) HC.out)
      go_wp2_with fail
      go_ret
      exact ⟨ret_bool HX.out.symm, HW.out.b.b⟩
    have hlt2 : (k : Int) < L.length := by omega
    obtain ⟨g, o, hg, hgs, hc⟩ := (HA.out.2.below HW.out.b.b) k hlt
    have hkm : k < (msOf a L).length := by rw [HL.out.2]; exact hlt
    have hkw : k < (wd d (msOf a L)).length := by rw [wd_len]; exact hkm
    have hmk : (wd d (msOf a L))[k] = moOf a (wds d L[k]) := by rw [wd_get, moOf_wds]; simp [msOf]
    have hbh := crs_good (f := (·.c1)) HL.out.1.hi HL.out.1.g (fun m hm => by have := hm.c; omega) k (by omega)
    have hch := crs_step (w := hi) (f := (·.c1)) hkw
    rw [hmk, pass_one] at hch
    have hd0 : (crs hi (·.c1) (wd d (msOf a L)) k).dew = 0 := by
      rcases Nat.eq_zero_or_pos k with h1 | h1
      · subst h1; rfl
      · have h2 := HC.out (k - 1) (by omega)
        rw [show k - 1 + 1 = k by omega] at h2
        have := hbh.dew
        omega
    rw [hd0, Int.zero_add] at hch
    have hVS : VS a (wds d L[k]) := by
      obtain ⟨h1, h2, h3, h4, h5, h6⟩ := HG.out.2.2.2 _ (List.getElem_mem hlt)
      exact ⟨h1, h2, h3, h4, h5, HD.out⟩
    have c41 := C1.out (wds d L[k]) _ HG.out.1 hVS hbh.w
    change ∀ w1, _ → Calls Try.prog 41 _ w1 (FloPost (passP (one (crs hi (·.c1) (wd d (msOf a L)) k).w) (moOf a (wds d L[k])) (moOf a (wds d L[k])).c1) w1) at c41
    obtain ⟨Y, hY⟩ : ∃ Y, Y = passP (one (crs hi (·.c1) (wd d (msOf a L)) k).w) (moOf a (wds d L[k])) (moOf a (wds d L[k])).c1 := ⟨_, rfl⟩
    change _ = Co.mk (passP (one (crs hi (·.c1) (wd d (msOf a L)) k).w) (moOf a (wds d L[k])) (moOf a (wds d L[k])).c1).w _ _ _ (passP (one (crs hi (·.c1) (wd d (msOf a L)) k).w) (moOf a (wds d L[k])) (moOf a (wds d L[k])).c1).dew at hch
    rw [← hY] at c41 hch
    clear hY
    have HN := Lib.hid (And.intro (congrArg Co.w hch) (congrArg Co.dew hch))
    have HNo := Lib.hid (fun h => dryB_no (hi := hi) (d := d) hkm h)
    obtain ⟨hw, hhw⟩ : ∃ x, x = (crs hi (·.c1) (wd d (msOf a L)) k).w := ⟨_, rfl⟩
    rw [← hhw] at c41 ⊢
    obtain ⟨s, hs⟩ : ∃ s, s = L[k] := ⟨_, rfl⟩
    rw [← hs] at hc c41
    clear hs hhw hch hbh hVS hkm hmk hd0 hkw
    have hgw : g < wr.heap.size := by have := HW.out.b.b.size; omega
    have c0 : wr.cell? ⟨g, o + k * 8, none⟩ = some (.int .i64 s.cold) := hc 0 (by omega)
    have c1 : wr.cell? ⟨g, o + k * 8 + 1, none⟩ = some (.int .i64 s.ppl) := hc 1 (by omega)
    have c2 : wr.cell? ⟨g, o + k * 8 + 2, none⟩ = some (.int .i64 s.chg) := hc 2 (by omega)
    have c3 : wr.cell? ⟨g, o + k * 8 + 3, none⟩ = some (.int .i64 s.o0) := hc 3 (by omega)
    have c4 : wr.cell? ⟨g, o + k * 8 + 4, none⟩ = some (.int .i64 s.o1) := hc 4 (by omega)
    have c5 : wr.cell? ⟨g, o + k * 8 + 5, none⟩ = some (.int .i64 s.s0) := hc 5 (by omega)
    have c6 : wr.cell? ⟨g, o + k * 8 + 6, none⟩ = some (.int .i64 s.s1) := hc 6 (by omega)
    have c7 : wr.cell? ⟨g, o + k * 8 + 7, none⟩ = some (.int .i64 s.dry) := hc 7 (by omega)
    subst hg
    clear hc hgs
    go_upto_region 7 with fail
    have HW1 := Lib.hid (And.intro (HW.out.step (below_one wr (.cells (stpc (wds d s)) 50))) (show Has (wr.alloc (.cells (stpc (wds d s)) 50)) wr.heap.size 50 (stpc (wds d s)) from has_newAt rfl))
    have hcall := c41 _ (HA.out.1.step HW1.out.1.b.b)
    clear c0 c1 c2 c3 c4 c5 c6 c7 c41 hgw
    unfold stpv stpc wds at hcall
    unfold stpc wds at HW1
    simp only at hcall HW1
    generalize wr.heap.size = D at HW1 ⊢
    generalize wr.alloc (.cells #[.int .i64 s.cold, .int .i64 s.ppl, .int .i64 s.chg, .int .i64 s.o0, .int .i64 s.o1, .int .i64 s.s0, .int .i64 s.s1, .int .i64 d] 50) = w1 at HW1 hcall ⊢
    have a0 : w1.cell? ⟨W.heap.size, 0, none⟩ = some (.int .i64 a.R) := HW1.out.1.b.fa.cell 0
    have a1 : w1.cell? ⟨W.heap.size, 1, none⟩ = some (.slice A a.T.length ca) := HW1.out.1.b.fa.cell 1
    have a2 : w1.cell? ⟨W.heap.size, 2, none⟩ = some (.slice B a.H.length cb) := HW1.out.1.b.fa.cell 2
    have a3 : w1.cell? ⟨W.heap.size, 3, none⟩ = some (.int .i64 a.b0) := HW1.out.1.b.fa.cell 3
    have a4 : w1.cell? ⟨W.heap.size, 4, none⟩ = some (.int .i64 a.b1) := HW1.out.1.b.fa.cell 4
    have c0 : w1.cell? ⟨D, 0, none⟩ = some (.int .i64 s.cold) := HW1.out.2.cell 0
    have c1 : w1.cell? ⟨D, 1, none⟩ = some (.int .i64 s.ppl) := HW1.out.2.cell 1
    have c2 : w1.cell? ⟨D, 2, none⟩ = some (.int .i64 s.chg) := HW1.out.2.cell 2
    have c3 : w1.cell? ⟨D, 3, none⟩ = some (.int .i64 s.o0) := HW1.out.2.cell 3
    have c4 : w1.cell? ⟨D, 4, none⟩ = some (.int .i64 s.o1) := HW1.out.2.cell 4
    have c5 : w1.cell? ⟨D, 5, none⟩ = some (.int .i64 s.s0) := HW1.out.2.cell 5
    have c6 : w1.cell? ⟨D, 6, none⟩ = some (.int .i64 s.s1) := HW1.out.2.cell 6
    have c7 : w1.cell? ⟨D, 7, none⟩ = some (.int .i64 d) := HW1.out.2.cell 7
    go_wp2_with fail
    refine hcall.mono ?_
    rintro e w2 ⟨rfl, hb2⟩
    have HW2 := Lib.hid (HW1.out.1.step hb2)
    clear a0 a1 a2 a3 a4 c0 c1 c2 c3 c4 c5 c6 c7 hb2 hcall
    obtain ⟨Yw, Ya, Yo, Yd, yd⟩ := Y
    unfold coc
    simp only at HN ⊢
    have HW3 := Lib.hid (HW2.out.step (below_one w2 (.cells #[.int .i64 Yw, .int .i64 Ya, .int .i64 Yo, .int .i64 Yd, .int .i64 yd] 48)))
    by_cases hy : 0 < yd
    · have HX := Lib.hid (HNo.out (by rw [HN.out.2]; exact hy))
      go_wp2_with fail
      go_ret
      exact ⟨ret_bool HX.out.symm, HW3.out.b.b⟩
    · have HX := Lib.hid (show ∀ i, i < k + 1 → ¬ 0 < (crs hi (·.c1) (wd d (msOf a L)) (i + 1)).dew from fun i hi' => by
        by_cases hik : i = k
        · rw [hik, HN.out.2]; exact hy
        · exact Int.not_lt.2 (Int.not_lt.1 (fun h => absurd (HC.out i (by omega)) (by omega))))
      go_wp2_with fail
      go_roundg (L.length - (k + 1))
      case measure => omega
      case rel => exact ⟨k + 1, by omega, Nat.le_refl _, by go_num, by rw [HN.out.1], HW3.out, HX.out⟩
end Go.Proofs.Ytdmpkeaanaoeaaa
