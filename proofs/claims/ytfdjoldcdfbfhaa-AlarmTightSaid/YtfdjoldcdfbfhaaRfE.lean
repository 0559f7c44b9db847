/- The document's worst and Worst. -/
import Derived.Test.YtfdjoldcdfbfhaaRfD
namespace Go.Proofs.Ytfdjoldcdfbfhaa
open Go.Shelf Go.RowKit
def refWE (x : Option (Int × Int)) : (Int × Int) × Bool := match x with | none => ((0, 0), false) | some y => (y, true)
def RefWPost (x : (Int × Int) × Bool) (W : World) (e : Ending) (W' : World) : Prop :=
  e = .returned (.tuple #[.int .i64 x.1.1, .int .i64 x.1.2, .bool x.2]) ∧ Below W.heap.size W W'
theorem wP_next (f : Int → Int) (frm : Int) (k : Nat) {x : Int × Int} (h : worstP f frm k = some x) : worstP f frm (k + 1) = if 1048576 < f (frm + k) then none else if x.1 < f (frm + k) - 1 then some (f (frm + k) - 1, frm + k) else some x := by
  show (match worstP f frm k with | none => none | some x => _) = _
  rw [h]
theorem ref_step {f : Int → Int} {frm : Int} {k : Nat} {x : Int × Int} {n : Int} (hX : (k = 0 ∧ x = (-2, frm)) ∨ (1 ≤ k ∧ worstP f frm k = some x)) (hfn : f (frm + k) = if n ≤ 1048576 then n else 1048577) (hn0 : 0 ≤ n) :
    worstP f frm (k + 1) = if 1048576 < n then none else if x.1 < n - 1 then some (n - 1, frm + k) else some x := by
  rcases hX with ⟨rfl, rfl⟩ | ⟨h1, h2⟩
  · rw [wP_next f frm 0 (x := (-1, frm)) rfl]
    by_cases hg : n ≤ 1048576
    · rw [if_pos hg] at hfn
      rw [hfn, if_neg (show ¬ 1048576 < n by omega)]
      simp only
      by_cases hz : n = 0
      · subst hz; simp
      · rw [if_pos (show -1 < n - 1 by omega), if_neg (show ¬ 1048576 < n by omega), if_pos (show -2 < n - 1 by omega)]
    · rw [if_neg hg] at hfn
      rw [hfn, if_pos (show (1048576 : Int) < 1048577 by omega), if_pos (show 1048576 < n by omega)]
  · rw [wP_next f frm k h2]
    by_cases hg : n ≤ 1048576
    · rw [if_pos hg] at hfn
      rw [hfn]
    · rw [if_neg hg] at hfn
      rw [hfn, if_pos (show (1048576 : Int) < 1048577 by omega), if_pos (show 1048576 < n by omega)]
set_option maxRecDepth 100000 in
set_option maxHeartbeats 4000000 in
theorem refWorst_any (l : List Sn) (A : Option Addr) (cap : Nat) (V F t rise frm to : Int) (W : World) (hr : NRow W W.heap.size A l) (hv : VV l V F) (ht : 0 ≤ t ∧ t ≤ 4194304) (hri : 0 ≤ rise ∧ rise ≤ 1048576) (hf : 0 ≤ frm ∧ frm ≤ to ∧ to ≤ 2000) :
    Calls Try.prog 44 #[vtv A l.length cap V F, .int .i64 t, .int .i64 rise, .int .i64 frm, .int .i64 to] W (RefWPost (refWE (worstP (atN l (V + F).toNat t rise) frm (to - frm + 1).toNat)) W) := by
  have HR := Lib.hid hr
  have HA := Lib.hid (fun (m : Int) (hm : 0 ≤ m ∧ m ≤ 2000) (w : World) h => at_any l A cap V F t rise m w h hv ht hri hm)
  have hV := hv.hV; have hF := hv.hF
  have HN := Lib.hid (fun (m : Int) => atN_nonneg (m := m) hv.hL (show 1 ≤ (V + F).toNat by omega) ht.1 hri.1)
  obtain ⟨f, hfe⟩ : ∃ f, f = atN l (V + F).toNat t rise := ⟨_, rfl⟩
  rw [← hfe]
  have HA2 := Lib.hid (fun (m : Int) (hm : 0 ≤ m ∧ m ≤ 2000) (w : World) (h : NRow w w.heap.size A l) => show Calls Try.prog 59 #[vtv A l.length cap V F, .int .i64 t, .int .i64 rise, .int .i64 m] w (fun e W' => ∃ n, IntPost n w e W' ∧ (f m = if n ≤ 1048576 then n else 1048577) ∧ 0 ≤ n ∧ n ≤ 2200000000) by rw [hfe]; exact HA.out m hm w h)
  rw [← hfe] at HN
  have hh : Has (W.alloc (.cells #[.slice A l.length cap, .int .i64 V, .int .i64 F] 24)) W.heap.size 24 #[.slice A l.length cap, .int .i64 V, .int .i64 F] := Has.new W 24 _
  have hb0 := below_one W (.cells #[.slice A l.length cap, .int .i64 V, .int .i64 F] 24)
  obtain ⟨hf0, hf1, hf2⟩ := hf
  clear hr hv ht hri HA hfe hV hF
  unfold vtv at *
  go_enter Try.func44, Try.ntmps44
  go_wp2_with fail
  generalize W.alloc (.cells #[.slice A l.length cap, .int .i64 V, .int .i64 F] 24) = w0 at hh hb0 ⊢
  have HB := Lib.hid (And.intro hb0 hh)
  clear hb0 hh
  go_loopg [13, 14, 15] (to - frm + 1).toNat (fun gk a b i wr => ∃ (k : Nat) (x : Int × Int), (k : Int) ≤ to - frm + 1 ∧ to - frm + 1 - k ≤ gk ∧ a = .int .i64 x.1 ∧ b = .int .i64 x.2 ∧ i = .int .i64 (frm + k) ∧ Hid ((k = 0 ∧ x = (-2, frm)) ∨ (1 ≤ k ∧ worstP f frm k = some x)) ∧ (-2 ≤ x.1 ∧ x.1 ≤ 1048576) ∧ Hid (Below w0.heap.size w0 wr))
  case atStart => exact ⟨0, (-2, frm), by omega, by omega, rfl, rfl, by simp, .inl ⟨rfl, rfl⟩, by simp, Below.refl _ _⟩
  case round =>
    obtain ⟨k, x, hk, hgk, rfl, rfl, rfl, HX, hxb, HW⟩ := hrel
    have hbW : Below W.heap.size W wr := HB.out.1.trans (HW.out.mono HB.out.1.size)
    by_cases hle : frm + k ≤ to
    · have hH := HB.out.2.below HW.out HB.out.2.lt
      have v0 : wr.cell? ⟨W.heap.size, 0, none⟩ = some (.slice A l.length cap) := hH.cell 0
      have v1 : wr.cell? ⟨W.heap.size, 1, none⟩ = some (.int .i64 V) := hH.cell 1
      have v2 : wr.cell? ⟨W.heap.size, 2, none⟩ = some (.int .i64 F) := hH.cell 2
      have HBW := Lib.hid hbW
      clear hbW hH
      go_wp2_with fail
      refine (HA2.out (frm + k) (by omega) _ (HR.out.step HBW.out)).mono ?_
      rintro e w1 ⟨n, ⟨rfl, hb1⟩, hfn, hn0, hn1⟩
      have H1 := Lib.hid (And.intro (HW.out.trans (hb1.mono HW.out.size)) (HBW.out.trans (hb1.mono HBW.out.size)))
      have HFN := Lib.hid hfn
      have hnx := Lib.hid (ref_step HX.out hfn hn0)
      clear hb1 hfn v0 v1 v2
      by_cases hg : 1048576 < n
      · have HE := Lib.hid (show worstP f frm (to - frm + 1).toNat = none from worstP_none (k := k + 1) (by rw [hnx.out, if_pos hg]) _ (by omega))
        go_wp2_with fail
        refine bodyPost_ret (results_tmp3 rfl _ _ _) rfl ?_
        unfold RefWPost
        rw [HE.out]
        exact ⟨rfl, H1.out.2⟩
      · have hg1 : n - 1 < 1048576 := by omega
        by_cases hm : x.1 < n - 1
        · have HN1 := Lib.hid (show worstP f frm (k + 1) = some (n - 1, frm + k) by rw [hnx.out, if_neg hg, if_pos hm])
          go_wp2_with fail
          go_roundg (to - frm - k).toNat
          case measure => omega
          case rel => exact ⟨k + 1, (n - 1, frm + k), by omega, by omega, rfl, rfl, by go_num, .inr ⟨by omega, HN1.out⟩, by simp only; omega, H1.out.1⟩
        · have hk1 : 1 ≤ k := by
            rcases HX.out with ⟨h, h'⟩ | ⟨h, _⟩
            · rw [h'] at hm; simp only at hm; omega
            · exact h
          have HN1 := Lib.hid (show worstP f frm (k + 1) = some x by rw [hnx.out, if_neg hg, if_neg hm])
          go_wp2_with fail
          go_roundg (to - frm - k).toNat
          case measure => omega
          case rel => exact ⟨k + 1, x, by omega, by omega, rfl, rfl, by go_num, .inr ⟨by omega, HN1.out⟩, hxb, H1.out.1⟩
    · have HE := Lib.hid (show worstP f frm (to - frm + 1).toNat = some x by
        rcases HX.out with ⟨h, _⟩ | ⟨_, h⟩
        · omega
        · rw [← h]; congr 1; omega)
      have HBW := Lib.hid hbW
      clear hbW
      go_wp2_with fail
      refine bodyPost_ret (results_tmp3 rfl _ _ _) rfl ?_
      unfold RefWPost
      rw [HE.out]
      exact ⟨rfl, HBW.out⟩
end Go.Proofs.Ytfdjoldcdfbfhaa
