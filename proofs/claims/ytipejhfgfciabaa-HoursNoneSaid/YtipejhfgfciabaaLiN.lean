/- Lists compared: the document's fairer, the laws' compare. -/
import Derived.Test.YtipejhfgfciabaaLiI
namespace Go.Proofs.Ytipejhfgfciabaa
open Go.RowKit Go.Shelf
attribute [local irreducible] wpQuiet
theorem irow_cell {w : World} {B : Nat} {A : Option Addr} {l : List Int} (h : IRow w B A l) {g o : Nat} (hA : A = some ⟨g, o, none⟩) : ∀ i (hi : i < l.length), w.cell? ⟨g, o + i, none⟩ = some (.int .i64 l[i]) := fun i hi => by
  obtain ⟨g', o', e', _, hc'⟩ := h i hi
  rw [hA] at e'; cases e'
  exact hc'

set_option maxRecDepth 100000 in
set_option maxHeartbeats 2000000 in
theorem compare_any (l m : List Int) (A A' : Option Addr) (c d : Nat) (W2 : World) (h1 : IRow W2 W2.heap.size A l) (h2 : IRow W2 W2.heap.size A' m) (hl : l.length ≤ 1000000) (hlm : l.length = m.length) :
    Calls Try.prog 25 #[.slice A l.length c, .slice A' m.length d] W2 (IntPost (cmpL l m) W2) := by
  have hmix : Try.prog.follows .mixedOrders = true := by kernel_rfl
  have HR := Lib.hid (And.intro h1 h2)
  have HLM := Lib.hid hlm
  have HB2 := Lib.hid (Below.refl W2.heap.size W2)
  obtain ⟨r, hr⟩ : ∃ r, r = cmpL l m := ⟨_, rfl⟩
  rw [← hr]
  have HE := Lib.hid hr
  clear h1 h2 hlm hr
  go_enter Try.func25, Try.ntmps25
  go_wp2_with fail
  go_loopg [5] l.length (fun gk iv wr => ∃ k : Nat, k ≤ l.length ∧ l.length - k ≤ gk ∧ iv = .int .i64 k ∧ Hid (Below W2.heap.size W2 wr ∧ r = cmpL (l.drop k) (m.drop k)))
  case atStart => exact ⟨0, Nat.zero_le _, Nat.le_refl _, rfl, Lib.hid ⟨Below.refl _ _, HE.out⟩⟩
  case round =>
    obtain ⟨k, hk, hgk, rfl, HW⟩ := hrel
    by_cases hlt : k < l.length
    rotate_left
    · have hge : ¬ (k : Int) < l.length := by omega
      have HF : Hid (r = 0) := Lib.hid (by rw [HW.out.2, List.drop_eq_nil_of_le (by omega), List.drop_eq_nil_of_le (by have := HLM.out; omega)]; rfl)
      go_wp2_with fail
      go_ret
      exact ⟨ret_int HF.out.symm, HB2.out.trans (HW.out.1.mono HB2.out.size)⟩
    have hlt2 : (k : Int) < l.length := by omega
    have hlm : k < m.length := by have := HLM.out; omega
    have hlm2 : (k : Int) < m.length := by omega
    obtain ⟨g, o, hg, hgs, hc⟩ := HR.out.1 k hlt
    obtain ⟨g', o', hg', hgs', hc'⟩ := HR.out.2 k hlm
    have hd := cmpL_drop hlt hlm
    obtain ⟨v, hv⟩ : ∃ v, v = l[k] := ⟨_, rfl⟩
    obtain ⟨u, hu⟩ : ∃ u, u = m[k] := ⟨_, rfl⟩
    rw [← hv] at hc hd
    rw [← hu] at hc' hd
    have HD := Lib.hid hd
    have CA : Hid (∀ w, Below W2.heap.size W2 w → w.cell? ⟨g, o + k, none⟩ = some (.int .i64 v)) := Lib.hid fun w hb => (hb.cell (p := ⟨g, _, none⟩) hgs).trans hc
    have CB' : Hid (∀ w, Below W2.heap.size W2 w → w.cell? ⟨g', o' + k, none⟩ = some (.int .i64 u)) := Lib.hid fun w hb => (hb.cell (p := ⟨g', _, none⟩) hgs').trans hc'
    subst hg hg'
    clear hv hu hd hc hc' hgs hgs'
    have hx1 : ∀ pc : Cls (fun w' => Below W2.heap.size W2 w'), pc.w.cell? ⟨g, o + k, none⟩ = some (.int .i64 v) := fun pc => CA.out _ pc.h
    have hx2 : ∀ pc : Cls (fun w' => Below W2.heap.size W2 w'), pc.w.cell? ⟨g', o' + k, none⟩ = some (.int .i64 u) := fun pc => CB'.out _ pc.h
    go_upto_region 4 with fail
    haveI hne : Nonempty (Cls (fun w' => Below W2.heap.size W2 w')) := ⟨⟨_, HW.out.1.drew⟩⟩
    have h3 : u < v ∨ (¬ u < v ∧ v < u) ∨ (¬ u < v ∧ ¬ v < u) := by omega
    rcases h3 with h3 | ⟨h3, h4⟩ | ⟨h3, h4⟩
    · have HF : Hid (r = 1) := Lib.hid (by rw [HW.out.2, HD.out, if_neg (by omega), if_pos h3])
      refine wp_region_cls (fun w' => Below W2.heap.size W2 w') hmix (by kernel_rfl) HW.out.1.drew ?_
      repeat (quiet_step (fail))
      refine wpQuiet_nil ?_
      rintro w7 ⟨⟨_, hw7⟩, rfl⟩
      have H7 := Lib.hid hw7
      clear hw7 hx1 hx2 hne
      try simp only []
      go_wp2_with fail
      go_ret
      exact ⟨ret_int HF.out.symm, HB2.out.trans (H7.out.mono HB2.out.size)⟩
    all_goals
      refine wp_region_cls (fun w' => Below W2.heap.size W2 w') hmix (by kernel_rfl) HW.out.1.drew ?_
      repeat (quiet_step (fail))
      refine wpQuiet_nil ?_
      rintro w7 ⟨⟨_, hw7⟩, rfl⟩
      have H7 := Lib.hid hw7
      clear hw7
      try simp only []
      go_upto_region 6 with fail
      refine wp_region_cls (fun w' => Below W2.heap.size W2 w') hmix (by kernel_rfl) H7.out.drew ?_
      repeat (quiet_step (fail))
      refine wpQuiet_nil ?_
      rintro w8 ⟨⟨_, hw8⟩, rfl⟩
      have H8 := Lib.hid hw8
      clear hw8 hx1 hx2 hne
      try simp only []
    · have HF : Hid (r = -1) := Lib.hid (by rw [HW.out.2, HD.out, if_pos h4])
      go_wp2_with fail
      go_ret
      exact ⟨ret_int HF.out.symm, HB2.out.trans (H8.out.mono HB2.out.size)⟩
    · have HF : Hid (r = cmpL (l.drop (k + 1)) (m.drop (k + 1))) := Lib.hid (by rw [HW.out.2, HD.out, if_neg h4, if_neg h3])
      go_wp2_with fail
      go_roundg (l.length - (k + 1))
      case measure => omega
      case rel => exact ⟨k + 1, by omega, Nat.le_refl _, by go_num, Lib.hid ⟨H8.out, HF.out⟩⟩

set_option maxRecDepth 100000 in
set_option maxHeartbeats 2000000 in
theorem fairer_any (a b : List Int) (A A' : Option Addr) (c d : Nat) (W : World) (h1 : IRow W W.heap.size A a) (h2 : IRow W W.heap.size A' b) (hl : a.length ≤ 1000) (hab : a.length = b.length) :
    Calls Try.prog 47 #[.slice A a.length c, .slice A' b.length d] W (IntPost (cmpL (srt a) (srt b)) W) := by
  have hmix : Try.prog.follows .mixedOrders = true := by kernel_rfl
  have HS1 := Lib.hid (Sorted_any a A c W h1 hl)
  have HS2 := Lib.hid (fun w h => Sorted_any b A' d w h (by omega))
  have HR0 := Lib.hid h2
  obtain ⟨l, hle⟩ : ∃ l, l = srt a := ⟨_, rfl⟩
  obtain ⟨m, hme⟩ : ∃ m, m = srt b := ⟨_, rfl⟩
  have hll : l.length ≤ 1000 := by rw [hle, srt_length]; exact hl
  have HLM := Lib.hid (show l.length = m.length by rw [hle, hme, srt_length, srt_length]; exact hab)
  rw [← hle] at HS1 ⊢
  rw [← hme] at HS2 ⊢
  obtain ⟨r, hr⟩ : ∃ r, r = cmpL l m := ⟨_, rfl⟩
  rw [← hr]
  have HE := Lib.hid hr
  clear h1 h2 hab hr hle hme hl
  go_enter Try.func47, Try.ntmps47
  go_wp2_with fail
  refine HS1.out.mono ?_
  rintro e w1 ⟨A1, c1, rfl, hr1, hb1⟩
  have H1 := Lib.hid (And.intro hr1 hb1)
  clear hr1 hb1 HS1
  go_wp2_with fail
  refine (HS2.out _ (HR0.out.step H1.out.2)).mono ?_
  rintro e W2 ⟨A2, c2, rfl, hr2, hb2⟩
  have HR := Lib.hid (And.intro (H1.out.1.step hb2) hr2)
  have HB2 := Lib.hid (H1.out.2.trans (hb2.mono H1.out.2.size))
  clear hr2 hb2 HS2 H1
  go_wp2_with fail
  go_loopg [7] l.length (fun gk iv wr => ∃ k : Nat, k ≤ l.length ∧ l.length - k ≤ gk ∧ iv = .int .i64 k ∧ Hid (Below W2.heap.size W2 wr ∧ r = cmpL (l.drop k) (m.drop k)))
  case atStart => exact ⟨0, Nat.zero_le _, Nat.le_refl _, rfl, Lib.hid ⟨Below.refl _ _, HE.out⟩⟩
  case round =>
    obtain ⟨k, hk, hgk, rfl, HW⟩ := hrel
    by_cases hlt : k < l.length
    rotate_left
    · have hge : ¬ (k : Int) < l.length := by omega
      have HF : Hid (r = 0) := Lib.hid (by rw [HW.out.2, List.drop_eq_nil_of_le (by omega), List.drop_eq_nil_of_le (by have := HLM.out; omega)]; rfl)
      go_wp2_with fail
      go_ret
      exact ⟨ret_int HF.out.symm, HB2.out.trans (HW.out.1.mono HB2.out.size)⟩
    have hlt2 : (k : Int) < l.length := by omega
    have hlm : k < m.length := by have := HLM.out; omega
    have hlm2 : (k : Int) < m.length := by omega
    obtain ⟨g, o, hg, hgs, hc⟩ := HR.out.1 k hlt
    obtain ⟨g', o', hg', hgs', hc'⟩ := HR.out.2 k hlm
    have hd := cmpL_drop hlt hlm
    obtain ⟨v, hv⟩ : ∃ v, v = l[k] := ⟨_, rfl⟩
    obtain ⟨u, hu⟩ : ∃ u, u = m[k] := ⟨_, rfl⟩
    rw [← hv] at hc hd
    rw [← hu] at hc' hd
    have HD := Lib.hid hd
    have CA : Hid (∀ w, Below W2.heap.size W2 w → w.cell? ⟨g, o + k, none⟩ = some (.int .i64 v)) := Lib.hid fun w hb => (hb.cell (p := ⟨g, _, none⟩) hgs).trans hc
    have CB' : Hid (∀ w, Below W2.heap.size W2 w → w.cell? ⟨g', o' + k, none⟩ = some (.int .i64 u)) := Lib.hid fun w hb => (hb.cell (p := ⟨g', _, none⟩) hgs').trans hc'
    subst hg hg'
    clear hv hu hd hc hc' hgs hgs'
    have hx1 : ∀ pc : Cls (fun w' => Below W2.heap.size W2 w'), pc.w.cell? ⟨g, o + k, none⟩ = some (.int .i64 v) := fun pc => CA.out _ pc.h
    have hx2 : ∀ pc : Cls (fun w' => Below W2.heap.size W2 w'), pc.w.cell? ⟨g', o' + k, none⟩ = some (.int .i64 u) := fun pc => CB'.out _ pc.h
    go_upto_region 5 with fail
    haveI hne : Nonempty (Cls (fun w' => Below W2.heap.size W2 w')) := ⟨⟨_, HW.out.1.drew⟩⟩
    have h3 : u < v ∨ (¬ u < v ∧ v < u) ∨ (¬ u < v ∧ ¬ v < u) := by omega
    rcases h3 with h3 | ⟨h3, h4⟩ | ⟨h3, h4⟩
    · have HF : Hid (r = 1) := Lib.hid (by rw [HW.out.2, HD.out, if_neg (by omega), if_pos h3])
      refine wp_region_cls (fun w' => Below W2.heap.size W2 w') hmix (by kernel_rfl) HW.out.1.drew ?_
      repeat (quiet_step (fail))
      refine wpQuiet_nil ?_
      rintro w7 ⟨⟨_, hw7⟩, rfl⟩
      have H7 := Lib.hid hw7
      clear hw7 hx1 hx2 hne
      try simp only []
      go_wp2_with fail
      go_ret
      exact ⟨ret_int HF.out.symm, HB2.out.trans (H7.out.mono HB2.out.size)⟩
    all_goals
      refine wp_region_cls (fun w' => Below W2.heap.size W2 w') hmix (by kernel_rfl) HW.out.1.drew ?_
      repeat (quiet_step (fail))
      refine wpQuiet_nil ?_
      rintro w7 ⟨⟨_, hw7⟩, rfl⟩
      have H7 := Lib.hid hw7
      clear hw7
      try simp only []
      go_upto_region 7 with fail
      refine wp_region_cls (fun w' => Below W2.heap.size W2 w') hmix (by kernel_rfl) H7.out.drew ?_
      repeat (quiet_step (fail))
      refine wpQuiet_nil ?_
      rintro w8 ⟨⟨_, hw8⟩, rfl⟩
      have H8 := Lib.hid hw8
      clear hw8 hx1 hx2 hne
      try simp only []
    · have HF : Hid (r = -1) := Lib.hid (by rw [HW.out.2, HD.out, if_pos h4])
      go_wp2_with fail
      go_ret
      exact ⟨ret_int HF.out.symm, HB2.out.trans (H8.out.mono HB2.out.size)⟩
    · have HF : Hid (r = cmpL (l.drop (k + 1)) (m.drop (k + 1))) := Lib.hid (by rw [HW.out.2, HD.out, if_neg h4, if_neg h3])
      go_wp2_with fail
      go_roundg (l.length - (k + 1))
      case measure => omega
      case rel => exact ⟨k + 1, by omega, Nat.le_refl _, by go_num, Lib.hid ⟨H8.out, HF.out⟩⟩

end Go.Proofs.Ytipejhfgfciabaa
