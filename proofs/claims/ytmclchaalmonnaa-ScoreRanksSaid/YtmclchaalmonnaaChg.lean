/- Contracts: changed. -/
import Derived.Test.YtmclchaalmonnaaAll
import Derived.Test.YtmclchaalmonnaaOuA
namespace Go.Proofs.Ytmclchaalmonnaa
open Go.RowKit Go.Lib
attribute [local irreducible] wpQuiet
/-- what the judge gives instead -/
def chF (by_ : List Int) (z i : Nat) : Int := by_.getD ((z + i) % by_.length) 0 % 11 - 5
def chG (by_ : List Int) (z i : Nat) : Int := by_.getD ((z + i + 1) % by_.length) 0 % 41
def changedS (s : Sk) (j : Nat) (by_ : List Int) (z : Nat) : Sk := putS s j (chF by_ z) (chG by_ z)
theorem ch_at {by_ : List Int} (h : 0 < by_.length) (q : Nat) : ∃ h2 : q % by_.length < by_.length, by_.getD (q % by_.length) 0 = by_[q % by_.length] := by
  have h2 := Nat.mod_lt q h
  exact ⟨h2, by rw [List.getD_eq_getElem?_getD, List.getElem?_eq_getElem h2]; rfl⟩
theorem chF_rng (by_ : List Int) (z i : Nat) : -5 ≤ chF by_ z i ∧ chF by_ z i ≤ 5 := by
  unfold chF
  have h1 := Int.emod_nonneg (by_.getD ((z + i) % by_.length) 0) (show (11 : Int) ≠ 0 by decide)
  have h2 := Int.emod_lt_of_pos (by_.getD ((z + i) % by_.length) 0) (show (0 : Int) < 11 by decide)
  omega
theorem chG_rng (by_ : List Int) (z i : Nat) : 0 ≤ chG by_ z i ∧ chG by_ z i ≤ 40 := by
  unfold chG
  have h1 := Int.emod_nonneg (by_.getD ((z + i + 1) % by_.length) 0) (show (41 : Int) ≠ 0 by decide)
  have h2 := Int.emod_lt_of_pos (by_.getD ((z + i + 1) % by_.length) 0) (show (0 : Int) < 41 by decide)
  omega
theorem mapIdx_take {α β : Type} (f : Nat → α → β) (l : List α) {k : Nat} (h : k < l.length) : (l.take (k + 1)).mapIdx f = (l.take k).mapIdx f ++ [f k l[k]] := by
  rw [List.take_succ_eq_append_getElem h, List.mapIdx_append]
  have : (l.take k).length = k := by simp; omega
  simp [this]
theorem res31 {w : World} {D : Nat} {a b c : Value} {tmps : Array Value} (h : Has w D 28 #[a, b, c]) (h4 : tmps[8]?.getD undef = .pointer (some ⟨D, 0, none⟩)) :
    (results Try.f31 tmps).run Try.prog w = .ok (.agg #[a, b, c]) w := by
  have c0 := h.cell 0; have c1 := h.cell 1; have c2 := h.cell 2
  simp at c0 c1 c2
  simp [results, Try.results31, go_sem, h4, c0, c1, c2]
/-- a copy with one mark changed -/
theorem copied {w w1 w5 : World} {g cap : Nat} {l : List Int} (hw : w1 = w.alloc (.cells #[] 3)) (hown : w5.ownsRow w.heap.size 3 1 (.slice (some ⟨g, 0, none⟩) l.length cap) l.length ([] ++ ivl l)) (hgr : w1.grownBy w5 (Value.slice (some ⟨w.heap.size, 0, none⟩) 0 0).ownBlock) :
    (RowI w5 g l ∧ w.heap.size ≤ g) ∧ Below w.heap.size w w5 := by
  subst hw
  exact ⟨RowI.of_own (n := l.length) (l := l) rfl (by rw [Nat.zero_add]; exact hown), copy_below hgr⟩
set_option maxRecDepth 100000 in
set_option maxHeartbeats 2000000 in
theorem changed_any (s : Sk) (AC AP : Option Addr) (cc cp j : Nat) (by_ : List Int) (AB : Option Addr) (cb z : Nat) (W : World) (hs : SkR W W.heap.size s AC AP) (hn : s.calls.length ≤ 1000) (hnp : s.parts.length ≤ 1000) (hj : ∀ c ∈ s.calls, j < c.marks.length ∧ c.marks.length ≤ 1000) (hjp : ∀ m ∈ s.parts, j < m.length ∧ m.length ≤ 1000)
    (hby : BRow W W.heap.size AB by_) (hb0 : 0 < by_.length) (hbl : by_.length ≤ 9223372036854775807) (hbr : ∀ x ∈ by_, 0 ≤ x ∧ x ≤ 255) (hz : z ≤ 1000) :
    Calls Try.prog 31 #[skv s AC AP cc cp, .int .i64 j, .slice AB by_.length cb, .int .i64 z] W (MkPost (changedS s j by_ z) W) := by
  obtain ⟨i0, hi, hz0, hz1, hz2⟩ := info_parts Try.info52
  obtain ⟨j0, hji, hy0, hy1, hy2⟩ := info_parts Try.info22
  obtain ⟨n0, hni, hw0, hw1, hw2⟩ := info_parts Try.info3
  have HB : Hid (Below W.heap.size W (((W.alloc (.cells (skc s AC AP cc cp) 28)).alloc (.cells #[.slice none 0 0, .slice none 0 0, .int .i64 0] 28)).alloc (.cells #[.slice none 0 0, .slice none 0 0, .int .i64 s.over] 28)) ∧ Has (((W.alloc (.cells (skc s AC AP cc cp) 28)).alloc (.cells #[.slice none 0 0, .slice none 0 0, .int .i64 0] 28)).alloc (.cells #[.slice none 0 0, .slice none 0 0, .int .i64 s.over] 28)) W.heap.size 28 (skc s AC AP cc cp) ∧ Has (((W.alloc (.cells (skc s AC AP cc cp) 28)).alloc (.cells #[.slice none 0 0, .slice none 0 0, .int .i64 0] 28)).alloc (.cells #[.slice none 0 0, .slice none 0 0, .int .i64 s.over] 28)) (W.heap.size + 1) 28 #[.slice none 0 0, .slice none 0 0, .int .i64 0] ∧ Has (((W.alloc (.cells (skc s AC AP cc cp) 28)).alloc (.cells #[.slice none 0 0, .slice none 0 0, .int .i64 0] 28)).alloc (.cells #[.slice none 0 0, .slice none 0 0, .int .i64 s.over] 28)) (W.heap.size + 1 + 1) 28 #[.slice none 0 0, .slice none 0 0, .int .i64 s.over]) :=
    Lib.hid ⟨((below_one W _).alloc (by simp) _).alloc (by simp; omega) _, ((Has.new _ _ _).alloc _).alloc _, (has_newAt (by simp)).alloc _, has_newAt (by simp)⟩
  have HS := Lib.hid hs
  have HJ := Lib.hid (And.intro hj hjp)
  have HBY := Lib.hid (And.intro hby (And.intro hbr hb0))
  have HF : Hid (∀ q : Nat, ∃ h : q % by_.length < by_.length, by_.getD (q % by_.length) 0 = by_[q % by_.length] ∧ 0 ≤ by_[q % by_.length] ∧ by_[q % by_.length] ≤ 255) := Lib.hid fun q => by
    obtain ⟨h, e⟩ := ch_at hb0 q
    exact ⟨h, e, hbr _ (List.getElem_mem _)⟩
  have HCH : Hid (changedS s j by_ z = ⟨s.calls.mapIdx fun i c => markC j (chF by_ z i) c, s.parts.mapIdx fun i m => m.set j (chG by_ z i), s.over⟩) := Lib.hid rfl
  obtain ⟨T, hT⟩ : ∃ T, T = changedS s j by_ z := ⟨_, rfl⟩
  rw [← hT] at HCH ⊢
  clear hs hj hjp hby hbr hT
  unfold skv
  go_enter Try.func31, Try.ntmps31
  go_upto_region 2 with fail
  generalize ((W.alloc (.cells (skc s AC AP cc cp) 28)).alloc (.cells #[.slice none 0 0, .slice none 0 0, .int .i64 0] 28)).alloc (.cells #[.slice none 0 0, .slice none 0 0, .int .i64 s.over] 28) = w0 at HB ⊢
  obtain ⟨D, hD⟩ : ∃ D, D = W.heap.size + 1 + 1 := ⟨_, rfl⟩
  rw [← hD] at HB ⊢
  have HD := Lib.hid hD
  clear hD
  have y0 : w0.cell? ⟨W.heap.size, 0, none⟩ = some (.slice AC s.calls.length cc) := HB.out.2.1.cell 0
  go_wp2_with fail
  clear y0
  go_loopg [20] s.calls.length (fun gk i wr => ∃ k : Nat, k ≤ s.calls.length ∧ s.calls.length - k ≤ gk ∧ i = .int .i64 k ∧ ∃ v es, Hid (L1 w0 D wr v (.slice none 0 0) (.int .i64 s.over) es ∧ es.map (·.c) = (s.calls.take k).mapIdx (fun i c => markC j (chF by_ z i) c)))
  case atStart => exact ⟨0, Nat.zero_le _, Nat.le_refl _, rfl, .slice none 0 0, [], Lib.hid ⟨⟨Below.refl _ _, HB.out.2.2.2, OutC.nil _ _⟩, by simp⟩⟩
  case round =>
    obtain ⟨k, hk, hgk, rfl, v, es, HW⟩ := hrel
    have hbW : Below W.heap.size W wr := HB.out.1.trans (HW.out.1.b.mono (by have := HD.out; omega))
    have HBW := Lib.hid hbW
    clear hbW
    by_cases hlt : k < s.calls.length
    rotate_left
    · have hge : ¬ (k : Int) < s.calls.length := by omega
      have hke : s.calls.take k = s.calls := List.take_of_length_le (by omega)
      have HM : Hid (es.map (·.c) = T.calls) := Lib.hid (by have := HW.out.2; rw [hke] at this; rw [this, HCH.out])
      have hfb : Has wr W.heap.size 28 (skc s AC AP cc cp) := HB.out.2.1.below HW.out.1.b (by have := HD.out; omega)
      have y1 : wr.cell? ⟨W.heap.size, 1, none⟩ = some (.slice AP s.parts.length cp) := hfb.cell 1
      obtain ⟨A9, c9, rfl, h9⟩ := HW.out.1.next
      have H9 := Lib.hid h9
      clear hke hk hgk hlt HW h9 hfb
      go_wp2_with fail
      clear hge y1
      obtain ⟨w3, rfl⟩ : ∃ w3, w3 = wr := ⟨_, rfl⟩
      go_loopg [56] s.parts.length (fun gk i wr => ∃ k : Nat, k ≤ s.parts.length ∧ s.parts.length - k ≤ gk ∧ i = .int .i64 k ∧ ∃ y ps, Hid (L2 w0 D w3.heap.size wr (.slice A9 es.length c9) y (.int .i64 s.over) A9 (es.map (·.c)) ps ∧ ps.map (·.m) = (s.parts.take k).mapIdx (fun i m => m.set j (chG by_ z i))))
      case atStart => exact ⟨0, Nat.zero_le _, Nat.le_refl _, rfl, .slice none 0 0, [], Lib.hid ⟨H9.out, by simp⟩⟩
      case round =>
        clear HBW
        obtain ⟨k, hk, hgk, rfl, y, ps, HW⟩ := hrel
        have hbW : Below W.heap.size W wr := HB.out.1.trans (HW.out.1.b.mono (by have := HD.out; omega))
        have HBW := Lib.hid hbW
        by_cases hlt : k < s.parts.length
        rotate_left
        · have hge : ¬ (k : Int) < s.parts.length := by omega
          have hrz : Has wr (W.heap.size + 1) 28 #[.slice none 0 0, .slice none 0 0, .int .i64 0] := HB.out.2.2.1.below HW.out.1.b (by have := HD.out; omega)
          have hke : s.parts.take k = s.parts := List.take_of_length_le (by omega)
          have hpm : ps.map (·.m) = T.parts := by have := HW.out.2; rw [hke] at this; rw [this, HCH.out]
          have hel : es.length = s.calls.length := by have := congrArg List.length HM.out; rw [HCH.out] at this; simpa using this
          have e : (⟨es.map (·.c), T.parts, s.over⟩ : Sk) = T := by rw [HM.out, HCH.out]
          obtain ⟨AP9, cp9, rfl, hsk⟩ := HW.out.1.skr_put (s := ⟨es.map (·.c), T.parts, s.over⟩) hpm (by simp; rw [hel]; exact HS.out.lc) (by rw [HCH.out]; simp; exact HS.out.lp)
          rw [e] at hsk
          have hsk2 := fun a b c => hsk (W.heap.size + 1) a b c (by have := HD.out; omega)
          have hpl : ((⟨es.map (·.c), T.parts, s.over⟩ : Sk)).parts.length = s.parts.length := by rw [HCH.out]; simp
          rw [hpl] at HW
          rw [hel] at HW
          have d0 : wr.cell? ⟨D, 0, none⟩ = some (.slice A9 s.calls.length c9) := HW.out.1.d.cell 0
          have d1 : wr.cell? ⟨D, 1, none⟩ = some (.slice AP9 s.parts.length cp9) := HW.out.1.d.cell 1
          have d2 : wr.cell? ⟨D, 2, none⟩ = some (.int .i64 s.over) := HW.out.1.d.cell 2
          have f0 := hrz.frozen 0
          have f1 := hrz.frozen 1
          have f2 := hrz.frozen 2
          have q0 : wr.cell? ⟨W.heap.size + 1, 0, none⟩ = some (.slice none 0 0) := hrz.cell 0
          have q1 : wr.cell? ⟨W.heap.size + 1, 1, none⟩ = some (.slice none 0 0) := hrz.cell 1
          have q2 : wr.cell? ⟨W.heap.size + 1, 2, none⟩ = some (.int .i64 0) := hrz.cell 2
          have HEND := Lib.hid (And.intro hsk2 (And.intro hrz HBW.out))
          have HTL : Hid (T.calls.length = s.calls.length ∧ T.parts.length = s.parts.length ∧ T.over = s.over) := Lib.hid (by rw [HCH.out]; simp)
          clear hke e hpm hsk hsk2 hrz hk hgk hlt hpl hel HW hbW
          go_wp2_with fail
          refine bodyPost_ret (v := .agg #[.slice A9 s.calls.length c9, .slice AP9 s.parts.length cp9, .int .i64 s.over]) (res31 (D := W.heap.size + 1) (has_put3 HEND.out.2.1) rfl) rfl ?_
          refine ⟨A9, AP9, c9, cp9, ?_, ?_, below_put3 HEND.out.2.2 (by omega)⟩
          · simp [skv, skc, HTL.out.1, HTL.out.2.1, HTL.out.2.2]
          · exact HEND.out.1 _ _ _
        obtain ⟨g, o, M, m, hg, hgs, hc, hm, hml⟩ := HS.out.p k hlt
        have hjk := HJ.out.2 _ (List.getElem_mem hlt)
        obtain ⟨x, hx⟩ : ∃ x, x = s.parts[k] := ⟨_, rfl⟩
        rw [← hx] at hc hm hml hjk
        obtain ⟨qu, hqu⟩ : ∃ qu, qu = chG by_ z k := ⟨_, rfl⟩
        have HNX : Hid (ps.map (·.m) ++ [x.set j qu] = (s.parts.take (k + 1)).mapIdx (fun i m => m.set j (chG by_ z i))) := Lib.hid (by
          rw [mapIdx_take _ _ hlt, ← HW.out.2, hx, hqu])
        obtain ⟨gM, oM, hgM, -⟩ := hm 0 (by omega)
        subst hg hgM
        have hlt2 : (k : Int) < s.parts.length := by omega
        have y2 : wr.cell? ⟨g, o + k, none⟩ = some (.slice (some ⟨gM, oM, none⟩) x.length m) := (HBW.out.cell (p := ⟨g, _, none⟩) hgs).trans hc
        have hm2 : IRow wr wr.heap.size (some ⟨gM, oM, none⟩) x := (hm.below HBW.out).more HBW.out.size
        have HNC := Lib.hid (irow_news (hm2.below (below_one wr (.cells #[] 3))))
        have hmd := Lib.hid (own_made wr 3 1)
        have HLE : Hid (L2 w0 D w3.heap.size wr (.slice A9 es.length c9) y (.int .i64 s.over) A9 (es.map (·.c)) ps) := Lib.hid HW.out.1
        have hpsl : ps.length ≤ 1000 := by have := congrArg List.length HNX.out; simp at this; omega
        obtain ⟨AY, cY, rfl, -⟩ := own_slice HW.out.1.o.own
        clear hx hgs hc hm hm2 HW hbW
        go_wp2_with (at_builtin; refine wpList_append_lies _ rfl _ _ 22 rfl wr.heap.size 3 n0 (.int .i64 0) 1 8 Try.underlying22 hni hw0 hw1 hw2 rfl (by decide) (.slice (some ⟨wr.heap.size, 0, none⟩) 0 0) 0 [] rfl hmd.out ⟨gM, oM, none⟩ x.length m (ivl x) rfl ?q1 HNC.out (ivl_one _) ?q2 ?q3 ?q4 ?q5 _ rfl ?_)
        case q1 => simp [ivl]
        case q2 => omega
        case q3 => unfold maxLen; omega
        case q4 => omega
        case q5 => simp
        rintro g7 cap7 w7 hown7 hgr7 hat7 hlt7
        have h7 := copied rfl hown7 hgr7
        have H7 := Lib.hid (show L2 w0 D w3.heap.size w7 (.slice A9 es.length c9) (.slice AY ps.length cY) (.int .i64 s.over) A9 (es.map (·.c)) ps ∧ RowI w7 g7 x ∧ wr.heap.size ≤ g7 ∧ Below wr.heap.size wr w7 from ⟨HLE.out.step h7.2, h7.1.1, h7.1.2, h7.2⟩)
        clear hown7 hgr7 hat7 hlt7 h7 HNC hmd y2
        obtain ⟨hql, hqe, hqr⟩ := HF.out (z + k + 1)
        obtain ⟨t, ht⟩ : ∃ t, t = (z + k + 1) % by_.length := ⟨_, rfl⟩
        obtain ⟨gB, oB, hgB, hgBs, hcB⟩ := HBY.out.1 _ hql
        have hv : by_[(z + k + 1) % by_.length] % 41 = qu := by rw [hqu]; unfold chG; rw [hqe]
        obtain ⟨v9, hv9⟩ : ∃ v9, v9 = by_[(z + k + 1) % by_.length] := ⟨_, rfl⟩
        rw [← hv9] at hcB hv hqr
        rw [← ht] at hcB hql
        have b0 : w7.cell? ⟨gB, oB + t, none⟩ = some (.int .u8 v9) := ((HBW.out.trans (H7.out.2.2.2.mono HBW.out.size)).cell (p := ⟨gB, _, none⟩) hgBs).trans hcB
        have ew1 : IntKind.i64.wrap ((z : Int) + k) = (z : Int) + k := IntWalk.i64_in _ (by omega)
        have ew2 : IntKind.i64.wrap ((z : Int) + k + 1) = (z : Int) + k + 1 := IntWalk.i64_in _ (by omega)
        have em : ((z : Int) + k + 1).tmod (by_.length : Int) = (t : Int) := by
          rw [Int.tmod_eq_emod_of_nonneg (by omega), ht]
          simp
        have hLz : ¬ (by_.length : Int) = 0 := by omega
        have htl : (t : Int) < by_.length := by omega
        have ec : IntKind.i64.wrap v9 = v9 := IntWalk.i64_in _ (by omega)
        have ev : v9.tmod 41 = qu := by rw [Int.tmod_eq_emod_of_nonneg hqr.1]; exact hv
        have r0 : w7.cell? ⟨g7, j, none⟩ = some (.int .i64 x[j]) := H7.out.2.1.cell hjk.1
        have rf := H7.out.2.1.frozen j
        have hj2 : (j : Int) < x.length := by omega
        subst hgB
        clear hqe hv hv9 hcB hgBs ht hqu hqr
        go_upto_region 13 with fail
        go_upto_region 14 with fail
        clear ew1 ew2 em hLz htl ec ev r0 rf b0 hj2
        have H8 := Lib.hid (show L2 w0 D w3.heap.size (w7.setCell ⟨g7, j, none⟩ (.int .i64 qu)) (.slice A9 es.length c9) (.slice AY ps.length cY) (.int .i64 s.over) A9 (es.map (·.c)) ps ∧ IRA (w7.setCell ⟨g7, j, none⟩ (.int .i64 qu)) w3.heap.size (Value.slice AY ps.length cY).ownBlock (some ⟨g7, 0, none⟩) (x.set j qu) from by
          obtain ⟨k1, k2, k3, k4⟩ := H7.out
          refine ⟨HLE.out.step (k4.setCell k3 _), ?_⟩
          have h := (k2.set hjk.1 qu).irb k3
          exact h.ira HLE.out.h1 (Nat.le_refl _) (fun b hb => (own_block HLE.out.o.own b hb).2))
        have hxl : (x.set j qu).length = x.length := by simp
        have HXL := Lib.hid hxl
        generalize w7.setCell ⟨g7, j, none⟩ (.int .i64 qu) = w8 at H8 ⊢
        clear H7 hxl HLE
        have d1 : w8.cell? ⟨D, 1, none⟩ = some (.slice AY ps.length cY) := H8.out.1.d.cell 1
        have H9' := Lib.hid (show L2 w0 D w3.heap.size (w8.alloc (.cells #[.slice (some ⟨g7, 0, none⟩) x.length cap7] 22)) (.slice A9 es.length c9) (.slice AY ps.length cY) (.int .i64 s.over) A9 (es.map (·.c)) ps ∧ IRA (w8.alloc (.cells #[.slice (some ⟨g7, 0, none⟩) x.length cap7] 22)) w3.heap.size (Value.slice AY ps.length cY).ownBlock (some ⟨g7, 0, none⟩) (x.set j qu) from ⟨H8.out.1.step (below_one _ _), H8.out.2.step (below_one _ _)⟩)
        have HNEW : Hid (∀ i u, (fl1 [(⟨x.set j qu, some ⟨g7, 0, none⟩, cap7⟩ : Pe)])[i]? = some u → (w8.alloc (.cells #[.slice (some ⟨g7, 0, none⟩) x.length cap7] 22)).cell? ((⟨w8.heap.size, 0, none⟩ : Addr).add i) = some u) := Lib.hid fun i u hu => by
          rw [addr_add, (Has.new w8 22 #[.slice (some ⟨g7, 0, none⟩) x.length cap7]).cell, Nat.zero_add, ← hu]
          simp [fl1, enc1]
        go_wp2_with (at_builtin; refine wpList_append_lies _ rfl _ _ 26 rfl w3.heap.size 22 j0 (.slice none 0 0) 1 24 Try.underlying26 hji hy0 hy1 hy2 rfl (by decide) (.slice AY ps.length cY) ps.length (fl1 ps) rfl H9'.out.1.o.own ⟨w8.heap.size, 0, none⟩ 1 1 (fl1 [(⟨x.set j qu, some ⟨g7, 0, none⟩, cap7⟩ : Pe)]) rfl ?r1 HNEW.out (fl1_one _) ?r2 ?r3 ?r4 ?r5 _ rfl ?_)
        case r1 => rfl
        case r2 => omega
        case r3 => unfold maxLen; omega
        case r4 => omega
        case r5 => exact H9'.out.1.h1
        rintro g1 cap1 w5 hown1 hgr1 hgg1 hlt1
        have H6 := Lib.hid (And.intro (H9'.out.1.app (e := ⟨x.set j qu, some ⟨g7, 0, none⟩, cap7⟩) (H := w8.heap.size + 1) H9'.out.2 (by rw [HXL.out]; exact hml) (by simp) hown1 hgr1 hgg1) (H9'.out.1.app_d hgr1))
        have d1' : w5.cell? ⟨D, 1, none⟩ = some (.slice AY ps.length cY) := H6.out.2.1.cell 1
        have f1' := H6.out.2.1.frozen 1
        clear hown1 hgr1 hgg1 hlt1 d1
        go_wp2_with fail
        go_roundg (s.parts.length - (k + 1))
        case measure => omega
        case rel => exact ⟨k + 1, by omega, Nat.le_refl _, by go_num, .slice (some ⟨g1, 0, none⟩) (ps.length + 1) cap1, ps ++ [⟨x.set j qu, some ⟨g7, 0, none⟩, cap7⟩], Lib.hid ⟨H6.out.1, by rw [List.map_append]; exact HNX.out⟩⟩
    obtain ⟨g, o, M, m, hg, hgs, hc, hm, hml⟩ := HS.out.c k hlt
    have hjk := HJ.out.1 _ (List.getElem_mem hlt)
    obtain ⟨x, hx⟩ : ∃ x, x = s.calls[k] := ⟨_, rfl⟩
    rw [← hx] at hc hm hml hjk
    obtain ⟨gr, hgr⟩ : ∃ gr, gr = chF by_ z k := ⟨_, rfl⟩
    obtain ⟨y, hy⟩ : ∃ y, y = markC j gr x := ⟨_, rfl⟩
    have HNX : Hid (es.map (·.c) ++ [y] = (s.calls.take (k + 1)).mapIdx (fun i c => markC j (chF by_ z i) c)) := Lib.hid (by
      rw [mapIdx_take _ _ hlt, ← HW.out.2, hy, hx, hgr])
    obtain ⟨gM, oM, hgM, -⟩ := hm 0 (by omega)
    subst hg hgM
    have hlt2 : (k : Int) < s.calls.length := by omega
    have z0 : wr.cell? ⟨g, o + k * 6, none⟩ = some (.int .i64 x.place) := (HBW.out.cell (p := ⟨g, _, none⟩) hgs).trans (hc 0 (by omega))
    have z1 : wr.cell? ⟨g, o + k * 6 + 1, none⟩ = some (.int .i64 x.element) := (HBW.out.cell (p := ⟨g, _, none⟩) hgs).trans (hc 1 (by omega))
    have z2 : wr.cell? ⟨g, o + k * 6 + 2, none⟩ = some (.int .i64 x.under) := (HBW.out.cell (p := ⟨g, _, none⟩) hgs).trans (hc 2 (by omega))
    have z3 : wr.cell? ⟨g, o + k * 6 + 3, none⟩ = some (.bool x.late) := (HBW.out.cell (p := ⟨g, _, none⟩) hgs).trans (hc 3 (by omega))
    have z4 : wr.cell? ⟨g, o + k * 6 + 4, none⟩ = some (.bool x.fall) := (HBW.out.cell (p := ⟨g, _, none⟩) hgs).trans (hc 4 (by omega))
    have z5 : wr.cell? ⟨g, o + k * 6 + 5, none⟩ = some (.slice (some ⟨gM, oM, none⟩) x.marks.length m) := (HBW.out.cell (p := ⟨g, _, none⟩) hgs).trans (hc 5 (by omega))
    obtain ⟨A8, c8, rfl, -⟩ := own_slice HW.out.1.o.own
    obtain ⟨E, hE⟩ : ∃ E, E = wr.heap.size := ⟨_, rfl⟩
    have H1 := Lib.hid (show L1 w0 D wr (.slice A8 es.length c8) (.slice none 0 0) (.int .i64 s.over) es ∧ Has (wr.alloc (.cells (clc x (some ⟨gM, oM, none⟩) m) 52)) E 52 (clc x (some ⟨gM, oM, none⟩) m) ∧ IRow (wr.alloc (.cells (clc x (some ⟨gM, oM, none⟩) m) 52)) (wr.alloc (.cells (clc x (some ⟨gM, oM, none⟩) m) 52)).heap.size (some ⟨gM, oM, none⟩) x.marks ∧ D < E ∧ Below E wr (wr.alloc (.cells (clc x (some ⟨gM, oM, none⟩) m) 52)) ∧ E = wr.heap.size from
      by subst hE; exact ⟨HW.out.1, Has.new _ _ _, ((hm.below HBW.out).more HBW.out.size).step (below_one _ _), HW.out.1.d.lt, below_one _ _, rfl⟩)
    have HBW1 := Lib.hid HBW.out
    clear hgs hc hm HW hx
    go_upto_region 5 with fail
    generalize wr.alloc (.cells (clc x (some ⟨gM, oM, none⟩) m) 52) = w1 at H1 ⊢
    rw [← hE]
    clear z0 z1 z2 z3 z4 z5 hE HBW
    have t5 : (w1.alloc (.cells #[] 3)).cell? ⟨E, 5, none⟩ = some (.slice (some ⟨gM, oM, none⟩) x.marks.length m) := (H1.out.2.1.alloc _).cell 5
    have HNC := Lib.hid (irow_news (H1.out.2.2.1.below (below_one w1 (.cells #[] 3))))
    have hmd := Lib.hid (own_made w1 3 1)
    go_wp2_with (at_builtin; refine wpList_append_lies _ rfl _ _ 22 rfl w1.heap.size 3 n0 (.int .i64 0) 1 8 Try.underlying22 hni hw0 hw1 hw2 rfl (by decide) (.slice (some ⟨w1.heap.size, 0, none⟩) 0 0) 0 [] rfl hmd.out ⟨gM, oM, none⟩ x.marks.length m (ivl x.marks) rfl ?q1 HNC.out (ivl_one _) ?q2 ?q3 ?q4 ?q5 _ rfl ?_)
    case q1 => simp [ivl]
    case q2 => omega
    case q3 => unfold maxLen; omega
    case q4 => omega
    case q5 => simp
    rintro g7 cap7 w7 hown7 hgr7 hat7 hlt7
    have h7 := copied rfl hown7 hgr7
    have hE7 : Has w7 E 52 (clc x (some ⟨gM, oM, none⟩) m) := H1.out.2.1.below h7.2 H1.out.2.1.lt
    have t5' : w7.cell? ⟨E, 5, none⟩ = some (.slice (some ⟨gM, oM, none⟩) x.marks.length m) := hE7.cell 5
    have f5' := hE7.frozen 5
    have H7 := Lib.hid (show Has (w7.setCell ⟨E, 5, none⟩ (.slice (some ⟨g7, 0, none⟩) x.marks.length cap7)) E 52 (clc x (some ⟨g7, 0, none⟩) cap7) ∧ RowI (w7.setCell ⟨E, 5, none⟩ (.slice (some ⟨g7, 0, none⟩) x.marks.length cap7)) g7 x.marks ∧ E < g7 ∧ Below E wr (w7.setCell ⟨E, 5, none⟩ (.slice (some ⟨g7, 0, none⟩) x.marks.length cap7)) from by
      have hE1 := H1.out.2.1.lt
      refine ⟨hE7.set 5 _, h7.1.1.far (by have := h7.1.2; simp only; omega) _, by have := h7.1.2; omega, ?_⟩
      exact (H1.out.2.2.2.2.1.trans (h7.2.mono (Nat.le_of_lt hE1))).setCell (Nat.le_refl _) _)
    clear hown7 hgr7 hat7 hlt7 h7 HNC hmd t5 hE7
    go_upto_region 6 with fail
    generalize w7.setCell ⟨E, 5, none⟩ (.slice (some ⟨g7, 0, none⟩) x.marks.length cap7) = w9 at H7 ⊢
    clear t5' f5'
    have t5 : w9.cell? ⟨E, 5, none⟩ = some (.slice (some ⟨g7, 0, none⟩) x.marks.length cap7) := H7.out.1.cell 5
    obtain ⟨hql, hqe, hqr⟩ := HF.out (z + k)
    obtain ⟨t, ht⟩ : ∃ t, t = (z + k) % by_.length := ⟨_, rfl⟩
    obtain ⟨gB, oB, hgB, hgBs, hcB⟩ := HBY.out.1 _ hql
    have hv : by_[(z + k) % by_.length] % 11 - 5 = gr := by rw [hgr]; unfold chF; rw [hqe]
    obtain ⟨v9, hv9⟩ : ∃ v9, v9 = by_[(z + k) % by_.length] := ⟨_, rfl⟩
    rw [← hv9] at hcB hv hqr
    rw [← ht] at hcB hql
    have b0 : w9.cell? ⟨gB, oB + t, none⟩ = some (.int .u8 v9) := ((HBW1.out.trans (H7.out.2.2.2.mono (by have := H1.out.2.2.2.2.2; have := HBW1.out.size; omega))).cell (p := ⟨gB, _, none⟩) hgBs).trans hcB
    have ew1 : IntKind.i64.wrap ((z : Int) + k) = (z : Int) + k := IntWalk.i64_in _ (by omega)
    have em : ((z : Int) + k).tmod (by_.length : Int) = (t : Int) := by
      rw [Int.tmod_eq_emod_of_nonneg (by omega), ht]
      simp
    have hLz : ¬ (by_.length : Int) = 0 := by omega
    have htl : (t : Int) < by_.length := by omega
    have ec : IntKind.i64.wrap v9 = v9 := IntWalk.i64_in _ (by omega)
    obtain ⟨v8, hv8⟩ : ∃ v8, v8 = v9.tmod 11 := ⟨_, rfl⟩
    have ev : v9.tmod 11 = v8 := hv8.symm
    have hv88 : v8 = v9 % 11 := by rw [hv8, Int.tmod_eq_emod_of_nonneg hqr.1]
    have ew : IntKind.i64.wrap (v8 - 5) = gr := by rw [← hv, ← hv88]; exact IntWalk.i64_in _ (by omega)
    have r0 : w9.cell? ⟨g7, j, none⟩ = some (.int .i64 x.marks[j]) := H7.out.2.1.cell hjk.1
    have rf := H7.out.2.1.frozen j
    have hj2 : (j : Int) < x.marks.length := by omega
    subst hgB
    clear hqe hv hv9 hcB hgBs ht hqr hgr hv8 hv88
    go_region
    go_upto_region 7 with fail
    clear ew1 em hLz htl ec ev ew r0 rf b0 hj2 t5
    have HYL : Hid (x.marks.length = y.marks.length) := Lib.hid (by rw [hy]; simp [markC])
    have H3 := Lib.hid (show L1 w0 D (w9.setCell ⟨g7, j, none⟩ (.int .i64 gr)) (.slice A8 es.length c8) (.slice none 0 0) (.int .i64 s.over) es ∧ Has (w9.setCell ⟨g7, j, none⟩ (.int .i64 gr)) E 52 (clc y (some ⟨g7, 0, none⟩) cap7) ∧ IRA (w9.setCell ⟨g7, j, none⟩ (.int .i64 gr)) (D + 1) (Value.slice A8 es.length c8).ownBlock (some ⟨g7, 0, none⟩) y.marks ∧ y.marks.length ≤ big from by
      obtain ⟨k1, k2, -, k4, k5, k6⟩ := H1.out
      obtain ⟨p1, p2, p3, p4⟩ := H7.out
      refine ⟨k1.step (by rw [← k6]; exact p4.setCell (Nat.le_of_lt p3) _), ?_, ?_, by rw [← HYL.out]; exact hml⟩
      · have h := p1.far (p := ⟨g7, j, none⟩) (by simp only; omega) (.int .i64 gr)
        have e : clc y (some ⟨g7, 0, none⟩) cap7 = clc x (some ⟨g7, 0, none⟩) cap7 := by
          have : y.marks.length = x.marks.length := HYL.out.symm
          unfold clc
          rw [this, hy]
          rfl
        rw [e]
        exact h
      · have h := (p2.set hjk.1 gr).irb (lo := E) (Nat.le_of_lt p3)
        rw [hy]
        exact h.ira (by omega) (Nat.le_refl _) (fun b hb => by have := (own_block k1.o.own b hb).2; omega))
    replace H3 := Lib.hid (show L1 w0 D (w9.setCell ⟨g7, j, none⟩ (.int .i64 gr)).drew (.slice A8 es.length c8) (.slice none 0 0) (.int .i64 s.over) es ∧ Has (w9.setCell ⟨g7, j, none⟩ (.int .i64 gr)).drew E 52 (clc y (some ⟨g7, 0, none⟩) cap7) ∧ IRA (w9.setCell ⟨g7, j, none⟩ (.int .i64 gr)).drew (D + 1) (Value.slice A8 es.length c8).ownBlock (some ⟨g7, 0, none⟩) y.marks ∧ y.marks.length ≤ big from ⟨H3.out.1.drew, H3.out.2.1.drew, H3.out.2.2.1.step ((Below.refl _ _).drew), H3.out.2.2.2⟩)
    generalize (w9.setCell ⟨g7, j, none⟩ (.int .i64 gr)).drew = w3 at H3 ⊢
    clear H1 H7 hy
    obtain ⟨A2, hA2⟩ : ∃ A2, A2 = some (⟨g7, 0, none⟩ : Addr) := ⟨_, rfl⟩
    obtain ⟨c2, hc2⟩ : ∃ c2, c2 = cap7 := ⟨_, rfl⟩
    rw [← hA2, ← hc2] at H3
    clear hA2 hc2
    have e0 : w3.cell? ⟨E, 0, none⟩ = some (.int .i64 y.place) := H3.out.2.1.cell 0
    have e1 : w3.cell? ⟨E, 1, none⟩ = some (.int .i64 y.element) := H3.out.2.1.cell 1
    have e2 : w3.cell? ⟨E, 2, none⟩ = some (.int .i64 y.under) := H3.out.2.1.cell 2
    have e3 : w3.cell? ⟨E, 3, none⟩ = some (.bool y.late) := H3.out.2.1.cell 3
    have e4 : w3.cell? ⟨E, 4, none⟩ = some (.bool y.fall) := H3.out.2.1.cell 4
    have e5 : w3.cell? ⟨E, 5, none⟩ = some (.slice A2 y.marks.length c2) := H3.out.2.1.cell 5
    have d0 : w3.cell? ⟨D, 0, none⟩ = some (.slice A8 es.length c8) := H3.out.1.d.cell 0
    have H4 := Lib.hid (show L1 w0 D (w3.alloc (.cells (clc y A2 c2) 52)) (.slice A8 es.length c8) (.slice none 0 0) (.int .i64 s.over) es ∧ IRA (w3.alloc (.cells (clc y A2 c2) 52)) (D + 1) (Value.slice A8 es.length c8).ownBlock A2 y.marks ∧ y.marks.length ≤ big ∧ D + 1 ≤ (w3.alloc (.cells (clc y A2 c2) 52)).heap.size from
      ⟨H3.out.1.step (below_one _ _), H3.out.2.2.1.step (below_one _ _), H3.out.2.2.2, by have := H3.out.1.d.lt; simp; omega⟩)
    have HNEW : Hid (∀ i u, (fl6 [(⟨y, A2, c2, 0⟩ : En)])[i]? = some u → (w3.alloc (.cells (clc y A2 c2) 52)).cell? ((⟨w3.heap.size, 0, none⟩ : Addr).add i) = some u) := Lib.hid fun i u hu => by
      rw [addr_add, (Has.new w3 52 (clc y A2 c2)).cell, Nat.zero_add, ← hu]
      simp [fl6, enc6]
    have hesl : es.length ≤ 1000 := by have := congrArg List.length HNX.out; simp at this; omega
    clear H3 HYL
    go_wp2_with (at_builtin; refine wpList_append_lies _ rfl _ _ 25 rfl (D + 1) 52 i0 (.agg #[.int .i64 0, .int .i64 0, .int .i64 0, .bool false, .bool false, .slice none 0 0]) 6 56 Try.underlying25 hi hz0 hz1 hz2 rfl (by decide) (.slice A8 es.length c8) es.length (fl6 es) rfl H4.out.1.o.own ⟨w3.heap.size, 0, none⟩ 1 1 (fl6 [(⟨y, A2, c2, 0⟩ : En)]) rfl ?r1 HNEW.out (fl6_one _) ?r2 ?r3 ?r4 ?r5 _ rfl ?_)
    case r1 => rfl
    case r2 => omega
    case r3 => unfold maxLen; omega
    case r4 => omega
    case r5 => exact H4.out.2.2.2
    rintro g1 cap1 w5 hown1 hgr1 hgg1 hlt1
    have H6 := Lib.hid (And.intro (H4.out.1.app (e := ⟨y, A2, c2, 0⟩) (H := w3.heap.size + 1) H4.out.2.1 H4.out.2.2.1 (by simp) hown1 hgr1 hgg1) (H4.out.1.app_d hgr1))
    have d0' : w5.cell? ⟨D, 0, none⟩ = some (.slice A8 es.length c8) := H6.out.2.1.cell 0
    have f0' := H6.out.2.1.frozen 0
    clear hown1 hgr1 hgg1 hlt1 e0 e1 e2 e3 e4 e5 d0
    go_wp2_with fail
    go_roundg (s.calls.length - (k + 1))
    case measure => omega
    case rel => exact ⟨k + 1, by omega, Nat.le_refl _, by go_num, .slice (some ⟨g1, 0, none⟩) (es.length + 1) cap1, es ++ [⟨y, A2, c2, 0⟩], Lib.hid ⟨H6.out.1, by rw [List.map_append]; exact HNX.out⟩⟩
end Go.Proofs.Ytmclchaalmonnaa
