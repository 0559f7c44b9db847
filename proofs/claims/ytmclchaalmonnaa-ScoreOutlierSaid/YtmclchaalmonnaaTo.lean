/- Contracts: end (34): a list in which the judge gives the greatest, or the least, mark of the others. -/
import Derived.Test.YtmclchaalmonnaaChg
import Derived.Test.YtmclchaalmonnaaOuA
namespace Go.Proofs.Ytmclchaalmonnaa
open Go.RowKit Go.Lib
attribute [local irreducible] wpQuiet
def endC (most : Bool) (j : Nat) (l : List Int) (k : Nat) : List Int := match endK most j l k with | none => l | some x => l.set j x
theorem endC_len (most : Bool) (j : Nat) (l : List Int) (k : Nat) : (endC most j l k).length = l.length := by unfold endC; split <;> simp
theorem endC_end (most : Bool) (j : Nat) (l : List Int) : endC most j l l.length = endV most j l := rfl
theorem endK_at {most : Bool} {j : Nat} {l : List Int} {k : Nat} (h : k = j) : endK most j l (k + 1) = endK most j l k := by simp only [endK, if_pos h]
theorem endK_none {most : Bool} {j : Nat} {l : List Int} {k : Nat} (h : ¬ k = j) (he : endK most j l k = none) : endK most j l (k + 1) = some (l.getD k 0) := by simp only [endK, if_neg h, he]
theorem endK_cons {most : Bool} {j : Nat} {l : List Int} {k : Nat} {x : Int} (h : ¬ k = j) (he : endK most j l k = some x) : endK most j l (k + 1) = if (most && decide (x < l.getD k 0)) || (!most && decide (l.getD k 0 < x)) then some (l.getD k 0) else some x := by simp only [endK, if_neg h, he]
theorem getD_at {l : List Int} {k : Nat} (h : k < l.length) : l.getD k 0 = l[k] := by rw [List.getD_eq_getElem?_getD, List.getElem?_eq_getElem h]; rfl
set_option maxRecDepth 100000 in
set_option maxHeartbeats 2000000 in
theorem end_any (l : List Int) (A : Option Addr) (c : Nat) (most : Bool) (P j : Nat) (W : World) (ha : IRow W W.heap.size A l) (hP : Has W P 3 #[.int .i64 j]) (hj : j < l.length) (hl : l.length ≤ 1000) :
    Calls Try.prog 34 #[.slice A l.length c, .bool most, .pointer (some ⟨P, 0, none⟩)] W (WiPost (endV most j l) W) := by
  obtain ⟨n0, hni, hw0, hw1, hw2⟩ := info_parts Try.info3
  obtain ⟨g, o, rfl, -⟩ := ha 0 (by omega)
  have HA := Lib.hid ha
  have HP := Lib.hid hP
  have hmd := Lib.hid (own_made W 3 1)
  have HC := Lib.hid (irow_news (ha.below (below_one W (.cells #[] 3))))
  clear ha hP
  go_enter Try.func34, Try.ntmps34
  go_wp2_with (at_builtin; refine wpList_append_lies _ rfl _ _ 22 rfl W.heap.size 3 n0 (.int .i64 0) 1 8 Try.underlying22 hni hw0 hw1 hw2 rfl (by decide) (.slice (some ⟨W.heap.size, 0, none⟩) 0 0) 0 [] rfl hmd.out ⟨g, o, none⟩ l.length c (ivl l) rfl ?q1 HC.out (ivl_one _) ?q2 ?q3 ?q4 ?q5 _ rfl ?_)
  case q1 => simp [ivl]
  case q2 => omega
  case q3 => unfold maxLen; omega
  case q4 => omega
  case q5 => simp
  rintro g1 cap1 w1 hown hgr hat hlt
  have h1 := copied rfl hown hgr
  have H1 := Lib.hid h1
  have HG1 := Lib.hid h1.1.2
  clear hown hgr hat hlt HC hmd h1
  go_wp2_with fail
  go_loopg [15, 7] l.length (fun gk i f wr => ∃ k : Nat, k ≤ l.length ∧ l.length - k ≤ gk ∧ i = .int .i64 k ∧ f = .bool (endK most j l k).isNone ∧ Hid (Below W.heap.size W wr ∧ RowI wr g1 (endC most j l k)))
  case atStart => exact ⟨0, Nat.zero_le _, Nat.le_refl _, rfl, rfl, Lib.hid ⟨H1.out.2, H1.out.1.1⟩⟩
  case round =>
    clear H1
    obtain ⟨k, hk, hgk, rfl, rfl, HW⟩ := hrel
    by_cases hlt : k < l.length
    rotate_left
    · have hge : ¬ (k : Int) < l.length := by omega
      obtain rfl : k = l.length := by omega
      have H2 := Lib.hid (show Below W.heap.size W wr ∧ RowI wr g1 (endV most j l) from HW.out)
      clear HW hk hgk hlt
      go_wp2_with fail
      go_ret
      exact ⟨some ⟨g1, 0, none⟩, cap1, by rw [endV_len]; rfl, H2.out.2.irb HG1.out, H2.out.1⟩
    have hlt2 : (k : Int) < l.length := by omega
    obtain ⟨g', o', e9, hgs, hc⟩ := (HA.out.below HW.out.1) k hlt
    simp only [Option.some.injEq, Addr.mk.injEq] at e9
    obtain ⟨rfl, rfl, -⟩ := e9
    have p0 : wr.cell? ⟨P, 0, none⟩ = some (.int .i64 j) := (HP.out.below HW.out.1 HP.out.lt).cell 0
    obtain ⟨m, hm⟩ : ∃ m, m = l[k] := ⟨_, rfl⟩
    rw [← hm] at hc
    have HM := Lib.hid ((getD_at hlt).trans hm.symm)
    have hj2 : (j : Int) < l.length := by omega
    clear hgs hm
    by_cases hkj : k = j
    · have q : ((k : Int) == (j : Int)) = true := by simp [hkj]
      have q' : ((k : Int) != (j : Int)) = false := by simp [hkj]
      have HN : Hid (endK most j l (k + 1) = endK most j l k) := Lib.hid (endK_at hkj)
      obtain ⟨fb, hfb⟩ : ∃ fb, fb = (endK most j l k).isNone := ⟨_, rfl⟩
      rw [← hfb]
      have HFB := Lib.hid hfb
      clear hkj HM hfb
      go_wp2_with fail
      go_roundg (l.length - (k + 1))
      case measure => omega
      case rel => exact ⟨k + 1, by omega, Nat.le_refl _, by go_num, by rw [HN.out, HFB.out], Lib.hid ⟨HW.out.1, by have := HW.out.2; unfold endC at this ⊢; rw [HN.out]; exact this⟩⟩
    have q : ((k : Int) == (j : Int)) = false := by
      have : ¬ (k : Int) = j := by omega
      simpa using this
    have q' : ((k : Int) != (j : Int)) = true := by
      have : ¬ (k : Int) = j := by omega
      simpa using this
    cases he : endK most j l k with
    | none =>
      have HN : Hid (endK most j l (k + 1) = some m) := Lib.hid (by rw [endK_none hkj he, HM.out])
      have HR : Hid (RowI wr g1 l) := Lib.hid (by have := HW.out.2; unfold endC at this; rw [he] at this; exact this)
      have r0 : wr.cell? ⟨g1, j, none⟩ = some (.int .i64 l[j]) := HR.out.cell hj
      have rf := HR.out.frozen j
      have HX := Lib.hid (show Below W.heap.size W (wr.setCell ⟨g1, j, none⟩ (.int .i64 m)) ∧ RowI (wr.setCell ⟨g1, j, none⟩ (.int .i64 m)) g1 (endC most j l (k + 1)) from ⟨HW.out.1.setCell HG1.out _, by unfold endC; rw [HN.out]; exact HR.out.set hj m⟩)
      rw [show (none : Option Int).isNone = true from rfl]
      clear he HW HR hkj HM
      go_wp2_with fail
      go_roundg (l.length - (k + 1))
      case measure => omega
      case rel => exact ⟨k + 1, by omega, Nat.le_refl _, by go_num, by rw [HN.out]; rfl, HX⟩
    | some x =>
      have HS : Hid (endK most j l (k + 1) = if (most && decide (x < m)) || (!most && decide (m < x)) then some m else some x) := Lib.hid (by rw [endK_cons hkj he, HM.out])
      have HR : Hid (RowI wr g1 (l.set j x)) := Lib.hid (by have := HW.out.2; unfold endC at this; rw [he] at this; exact this)
      have hjs : j < (l.set j x).length := by simpa using hj
      have r0 : wr.cell? ⟨g1, j, none⟩ = some (.int .i64 x) := by have := HR.out.cell hjs; rwa [List.getElem_set_self] at this
      have rf := HR.out.frozen j
      have HX := Lib.hid (fun (hN : endK most j l (k + 1) = some m) => (show Below W.heap.size W (wr.setCell ⟨g1, j, none⟩ (.int .i64 m)) ∧ RowI (wr.setCell ⟨g1, j, none⟩ (.int .i64 m)) g1 (endC most j l (k + 1)) from ⟨HW.out.1.setCell HG1.out _, by unfold endC; rw [hN]; have h := HR.out.set hjs m; rwa [List.set_set] at h⟩))
      have HZ := Lib.hid (fun (hN : endK most j l (k + 1) = some x) => (show Below W.heap.size W wr ∧ RowI wr g1 (endC most j l (k + 1)) from ⟨HW.out.1, by unfold endC; rw [hN]; exact HR.out⟩))
      rw [show (some x : Option Int).isNone = false from rfl]
      clear he HW HR hjs hkj HM
      cases most
      · by_cases hx : m < x
        · have HN : Hid (endK false j l (k + 1) = some m) := Lib.hid (by rw [HS.out, if_pos (by simp [hx])])
          clear HS HZ
          go_wp2_with fail
          go_roundg (l.length - (k + 1))
          case measure => omega
          case rel => exact ⟨k + 1, by omega, Nat.le_refl _, by go_num, by rw [HN.out]; rfl, Lib.hid (HX.out HN.out)⟩
        · have HN : Hid (endK false j l (k + 1) = some x) := Lib.hid (by rw [HS.out, if_neg (by simp; omega)])
          clear HS HX
          go_wp2_with fail
          go_roundg (l.length - (k + 1))
          case measure => omega
          case rel => exact ⟨k + 1, by omega, Nat.le_refl _, by go_num, by rw [HN.out]; rfl, Lib.hid (HZ.out HN.out)⟩
      · by_cases hx : x < m
        · have HN : Hid (endK true j l (k + 1) = some m) := Lib.hid (by rw [HS.out, if_pos (by simp [hx])])
          clear HS HZ
          go_wp2_with fail
          go_roundg (l.length - (k + 1))
          case measure => omega
          case rel => exact ⟨k + 1, by omega, Nat.le_refl _, by go_num, by rw [HN.out]; rfl, Lib.hid (HX.out HN.out)⟩
        · have HN : Hid (endK true j l (k + 1) = some x) := Lib.hid (by rw [HS.out, if_neg (by simp; omega)])
          clear HS HX
          go_wp2_with fail
          go_roundg (l.length - (k + 1))
          case measure => omega
          case rel => exact ⟨k + 1, by omega, Nat.le_refl _, by go_num, by rw [HN.out]; rfl, Lib.hid (HZ.out HN.out)⟩
def endM (most : Bool) (j : Nat) (c : Cl) : Cl := { c with marks := endV most j c.marks }
theorem res35 {w : World} {D : Nat} {a b c : Value} {tmps : Array Value} (h : Has w D 28 #[a, b, c]) (h4 : tmps[4]?.getD undef = .pointer (some ⟨D, 0, none⟩)) :
    (results Try.f35 tmps).run Try.prog w = .ok (.agg #[a, b, c]) w := by
  have c0 := h.cell 0; have c1 := h.cell 1; have c2 := h.cell 2
  simp at c0 c1 c2
  simp [results, Try.results35, go_sem, h4, c0, c1, c2]
set_option maxRecDepth 100000 in
set_option maxHeartbeats 2000000 in
theorem to_any (s : Sk) (AC AP : Option Addr) (cc cp j : Nat) (most : Bool) (P1 P2 PJ : Nat) (W : World) (hs : SkR W W.heap.size s AC AP) (hn : s.calls.length ≤ 1000) (hnp : s.parts.length ≤ 1000) (hj : ∀ c ∈ s.calls, j < c.marks.length ∧ c.marks.length ≤ 1000) (hjp : ∀ m ∈ s.parts, j < m.length ∧ m.length ≤ 1000)
    (hP1 : Has W P1 28 (skc s AC AP cc cp)) (hP2 : Has W P2 67 #[.func (.func 34) #[] #[.pointer (some ⟨PJ, 0, none⟩)]]) (hPJ : Has W PJ 3 #[.int .i64 j]) :
    Calls Try.prog 35 #[.bool most, .pointer (some ⟨P1, 0, none⟩), .pointer (some ⟨P2, 0, none⟩)] W (MkPost (endS most j s) W) := by
  obtain ⟨i0, hi, hz0, hz1, hz2⟩ := info_parts Try.info52
  obtain ⟨j0, hji, hy0, hy1, hy2⟩ := info_parts Try.info22
  have HB : Hid (Below W.heap.size W ((W.alloc (.cells #[.slice none 0 0, .slice none 0 0, .int .i64 0] 28)).alloc (.cells #[.slice none 0 0, .slice none 0 0, .int .i64 s.over] 28)) ∧ Has ((W.alloc (.cells #[.slice none 0 0, .slice none 0 0, .int .i64 0] 28)).alloc (.cells #[.slice none 0 0, .slice none 0 0, .int .i64 s.over] 28)) W.heap.size 28 #[.slice none 0 0, .slice none 0 0, .int .i64 0] ∧ Has ((W.alloc (.cells #[.slice none 0 0, .slice none 0 0, .int .i64 0] 28)).alloc (.cells #[.slice none 0 0, .slice none 0 0, .int .i64 s.over] 28)) (W.heap.size + 1) 28 #[.slice none 0 0, .slice none 0 0, .int .i64 s.over]) :=
    Lib.hid ⟨(below_one W _).alloc (by simp) _, (Has.new _ _ _).alloc _, has_newAt (by simp)⟩
  have HS := Lib.hid hs
  have HJ := Lib.hid (And.intro hj hjp)
  have HC := Lib.hid (And.intro hP1 (And.intro hP2 hPJ))
  have HWI := Lib.hid (fun (l : List Int) A c w (ha : IRow w w.heap.size A l) (h : j < l.length ∧ l.length ≤ 1000) (hb : Below W.heap.size W w) => end_any l A c most PJ j w ha (hPJ.below hb hPJ.lt) h.1 h.2)
  unfold WiPost at HWI
  have HCH : Hid (endS most j s = ⟨s.calls.map (endM most j), s.parts.map (endV most j), s.over⟩) := Lib.hid rfl
  obtain ⟨T, hT⟩ : ∃ T, T = endS most j s := ⟨_, rfl⟩
  rw [← hT] at HCH ⊢
  have y2 : (W.alloc (.cells #[.slice none 0 0, .slice none 0 0, .int .i64 0] 28)).cell? ⟨P1, 2, none⟩ = some (.int .i64 s.over) := (hP1.alloc _).cell 2
  clear hs hj hjp hP1 hP2 hPJ hT
  go_enter Try.func35, Try.ntmps35
  go_upto_region 2 with fail
  clear y2
  generalize (W.alloc (.cells #[.slice none 0 0, .slice none 0 0, .int .i64 0] 28)).alloc (.cells #[.slice none 0 0, .slice none 0 0, .int .i64 s.over] 28) = w0 at HB ⊢
  obtain ⟨D, hD⟩ : ∃ D, D = W.heap.size + 1 := ⟨_, rfl⟩
  rw [← hD] at HB ⊢
  have HD := Lib.hid hD
  clear hD
  have y0 : w0.cell? ⟨P1, 0, none⟩ = some (.slice AC s.calls.length cc) := (HC.out.1.below HB.out.1 HC.out.1.lt).cell 0
  go_wp2_with fail
  clear y0
  go_loopg [16] s.calls.length (fun gk i wr => ∃ k : Nat, k ≤ s.calls.length ∧ s.calls.length - k ≤ gk ∧ i = .int .i64 k ∧ ∃ v es, Hid (L1 w0 D wr v (.slice none 0 0) (.int .i64 s.over) es ∧ es.map (·.c) = (s.calls.take k).map (endM most j)))
  case atStart => exact ⟨0, Nat.zero_le _, Nat.le_refl _, rfl, .slice none 0 0, [], Lib.hid ⟨⟨Below.refl _ _, HB.out.2.2, OutC.nil _ _⟩, by simp⟩⟩
  case round =>
    obtain ⟨k, hk, hgk, rfl, v, es, HW⟩ := hrel
    have hbW : Below W.heap.size W wr := HB.out.1.trans (HW.out.1.b.mono (by have := HD.out; omega))
    have HBW := Lib.hid hbW
    clear hbW
    by_cases hlt : k < s.calls.length
    rotate_left
    · have hge : ¬ (k : Int) < s.calls.length := by omega
      have hke : s.calls.take k = s.calls := List.take_of_length_le (by omega)
      have HM : Hid (es.map (·.c) = T.calls) := Lib.hid (by have := HW.out.2; rw [hke] at this; rw [this, HCH.out])
      have y1 : wr.cell? ⟨P1, 1, none⟩ = some (.slice AP s.parts.length cp) := (HC.out.1.below HBW.out HC.out.1.lt).cell 1
      obtain ⟨A9, c9, rfl, h9⟩ := HW.out.1.next
      have H9 := Lib.hid h9
      clear hke hk hgk hlt HW h9
      go_wp2_with fail
      clear hge y1
      obtain ⟨w3, rfl⟩ : ∃ w3, w3 = wr := ⟨_, rfl⟩
      go_loopg [36] s.parts.length (fun gk i wr => ∃ k : Nat, k ≤ s.parts.length ∧ s.parts.length - k ≤ gk ∧ i = .int .i64 k ∧ ∃ y ps, Hid (L2 w0 D w3.heap.size wr (.slice A9 es.length c9) y (.int .i64 s.over) A9 (es.map (·.c)) ps ∧ ps.map (·.m) = (s.parts.take k).map (endV most j)))
      case atStart => exact ⟨0, Nat.zero_le _, Nat.le_refl _, rfl, .slice none 0 0, [], Lib.hid ⟨H9.out, by simp⟩⟩
      case round =>
        clear HBW
        obtain ⟨k, hk, hgk, rfl, y, ps, HW⟩ := hrel
        have hbW : Below W.heap.size W wr := HB.out.1.trans (HW.out.1.b.mono (by have := HD.out; omega))
        have HBW := Lib.hid hbW
        by_cases hlt : k < s.parts.length
        rotate_left
        · have hge : ¬ (k : Int) < s.parts.length := by omega
          have hrz : Has wr W.heap.size 28 #[.slice none 0 0, .slice none 0 0, .int .i64 0] := HB.out.2.1.below HW.out.1.b (by have := HD.out; omega)
          have hke : s.parts.take k = s.parts := List.take_of_length_le (by omega)
          have hpm : ps.map (·.m) = T.parts := by have := HW.out.2; rw [hke] at this; rw [this, HCH.out]
          have hel : es.length = s.calls.length := by have := congrArg List.length HM.out; rw [HCH.out] at this; simpa using this
          have e : (⟨es.map (·.c), T.parts, s.over⟩ : Sk) = T := by rw [HM.out, HCH.out]
          obtain ⟨AP9, cp9, rfl, hsk⟩ := HW.out.1.skr_put (s := ⟨es.map (·.c), T.parts, s.over⟩) hpm (by simp; rw [hel]; exact HS.out.lc) (by rw [HCH.out]; simp; exact HS.out.lp)
          rw [e] at hsk
          have hsk2 := fun a b c => hsk W.heap.size a b c (by have := HD.out; omega)
          have hpl : ((⟨es.map (·.c), T.parts, s.over⟩ : Sk)).parts.length = s.parts.length := by rw [HCH.out]; simp
          rw [hpl] at HW
          rw [hel] at HW
          have d0 : wr.cell? ⟨D, 0, none⟩ = some (.slice A9 s.calls.length c9) := HW.out.1.d.cell 0
          have d1 : wr.cell? ⟨D, 1, none⟩ = some (.slice AP9 s.parts.length cp9) := HW.out.1.d.cell 1
          have d2 : wr.cell? ⟨D, 2, none⟩ = some (.int .i64 s.over) := HW.out.1.d.cell 2
          have f0 := hrz.frozen 0
          have f1 := hrz.frozen 1
          have f2 := hrz.frozen 2
          have q0 : wr.cell? ⟨W.heap.size, 0, none⟩ = some (.slice none 0 0) := hrz.cell 0
          have q1 : wr.cell? ⟨W.heap.size, 1, none⟩ = some (.slice none 0 0) := hrz.cell 1
          have q2 : wr.cell? ⟨W.heap.size, 2, none⟩ = some (.int .i64 0) := hrz.cell 2
          have HEND := Lib.hid (And.intro hsk2 (And.intro hrz HBW.out))
          have HTL : Hid (T.calls.length = s.calls.length ∧ T.parts.length = s.parts.length ∧ T.over = s.over) := Lib.hid (by rw [HCH.out]; simp)
          clear hke e hpm hsk hsk2 hrz hk hgk hlt hpl hel HW hbW
          go_wp2_with fail
          refine bodyPost_ret (v := .agg #[.slice A9 s.calls.length c9, .slice AP9 s.parts.length cp9, .int .i64 s.over]) (res35 (D := W.heap.size) (has_put3 HEND.out.2.1) rfl) rfl ?_
          refine ⟨A9, AP9, c9, cp9, ?_, ?_, below_put3 HEND.out.2.2 (by omega)⟩
          · simp [skv, skc, HTL.out.1, HTL.out.2.1, HTL.out.2.2]
          · exact HEND.out.1 _ _ _
        obtain ⟨g, o, M, m, hg, hgs, hc, hm, hml⟩ := HS.out.p k hlt
        have hjk := HJ.out.2 _ (List.getElem_mem hlt)
        obtain ⟨x, hx⟩ : ∃ x, x = s.parts[k] := ⟨_, rfl⟩
        rw [← hx] at hc hm hml hjk
        obtain ⟨xv, hxv⟩ : ∃ xv, xv = endV most j x := ⟨_, rfl⟩
        have HNX : Hid (ps.map (·.m) ++ [xv] = (s.parts.take (k + 1)).map (endV most j)) := Lib.hid (by
          rw [HW.out.2, List.take_succ_eq_append_getElem hlt, List.map_append, hxv, hx]; rfl)
        have HXV := Lib.hid (show xv.length = x.length by rw [hxv, endV_len])
        have HWX := Lib.hid (fun A c w ha h hb => HWI.out x A c w ha h hb)
        rw [← hxv, HXV.out] at HWX
        subst hg
        clear hx
        have hlt2 : (k : Int) < s.parts.length := by omega
        obtain ⟨AY, cY, rfl, -⟩ := own_slice HW.out.1.o.own
        have hpsl : ps.length ≤ 1000 := by have := congrArg List.length HNX.out; simp at this; omega
        have H1 := Lib.hid (show L2 w0 D w3.heap.size wr.drew (.slice A9 es.length c9) (.slice AY ps.length cY) (.int .i64 s.over) A9 (es.map (·.c)) ps ∧ IRow wr.drew wr.drew.heap.size M x ∧ P2 < D ∧ Below W.heap.size W wr.drew from
          ⟨HW.out.1.drew, ((hm.below HBW.out).more HBW.out.size).step ((Below.refl _ _).drew), by have := HD.out; have := HC.out.2.1.lt; omega, HBW.out.drew⟩)
        have K1 : Hid (wr.drew.cell? ⟨D, 1, none⟩ = some (.slice AY ps.length cY) ∧ wr.drew.cell? ⟨P2, 0, none⟩ = some (.func (.func 34) #[] #[.pointer (some ⟨PJ, 0, none⟩)])) := Lib.hid ⟨HW.out.1.drew.d.cell 1, (HC.out.2.1.below HBW.out HC.out.2.1.lt).drew.cell 0⟩
        have y2 : wr.cell? ⟨g, o + k, none⟩ = some (.slice M x.length m) := (HBW.out.cell (p := ⟨g, _, none⟩) hgs).trans hc
        clear hgs hc hm HW HBW hbW hxv
        go_upto_region 11 with fail
        clear y2
        refine wp_region_late (fun w' : World => w'.cell? ⟨D, 1, none⟩ = some (.slice AY ps.length cY) ∧ w'.cell? ⟨P2, 0, none⟩ = some (.func (.func 34) #[] #[.pointer (some ⟨PJ, 0, none⟩)])) [9] (by kernel_rfl) ?_
        generalize wr.drew = w6 at H1 K1 ⊢
        refine wpLate_take (i := 0) (oi := ?oi0r11_) (v := ?v0r11_) [1, 7, 8, 9] ?hi0r11_ (by kernel_rfl) (by kernel_rfl) (by kernel_rfl) (by kernel_rfl) (by kernel_rfl) ?hQ0r11_ (Or.inl ⟨?hw0r11_, ?hy0r11_⟩) K1.out ?rest0r11_
        case hi0r11_ => (simp only [List.getElem?_toArray, List.getElem?_cons_zero]; rfl)
        case hQ0r11_ => exact fun _ _ _ h => h
        case hw0r11_ => rfl
        case hy0r11_ =>
          intro w' hSw
          obtain ⟨r0, r1⟩ := hSw
          go_simp
          try exact rfl
        try simp only [Act.put, List.setIfInBounds_toArray, List.set_cons_zero, List.set_cons_succ]
        refine wpLate_take (i := 1) (oi := ?oi1r11_) (v := ?v1r11_) [7, 8, 9] ?hi1r11_ (by kernel_rfl) (by kernel_rfl) (by kernel_rfl) (by kernel_rfl) (by kernel_rfl) ?hQ1r11_ (Or.inl ⟨?hw1r11_, ?hy1r11_⟩) K1.out ?rest1r11_
        case hi1r11_ => (simp only [List.getElem?_toArray, List.getElem?_cons_zero, List.getElem?_cons_succ]; rfl)
        case hQ1r11_ => exact fun _ _ _ h => h
        case hw1r11_ => rfl
        case hy1r11_ =>
          intro w' hSw
          obtain ⟨r0, r1⟩ := hSw
          go_simp
          try exact rfl
        try simp only [Act.put, List.setIfInBounds_toArray, List.set_cons_zero, List.set_cons_succ]
        refine wpLate_take (i := 2) (oi := ?oi2r11_) (v := ?v2r11_) [5, 6, 7, 8, 9] ?hi2r11_ (by kernel_rfl) (by kernel_rfl) (by kernel_rfl) (by kernel_rfl) (by kernel_rfl) ?hQ2r11_ (Or.inl ⟨?hw2r11_, ?hy2r11_⟩) K1.out ?rest2r11_
        case hi2r11_ => (simp only [List.getElem?_toArray, List.getElem?_cons_zero, List.getElem?_cons_succ]; rfl)
        case hQ2r11_ => exact fun _ _ _ h => h
        case hw2r11_ => rfl
        case hy2r11_ =>
          intro w' hSw
          obtain ⟨r0, r1⟩ := hSw
          go_simp
          try exact rfl
        try simp only [Act.put, List.setIfInBounds_toArray, List.set_cons_zero, List.set_cons_succ]
        refine wpLate_take (i := 3) (oi := ?oi3r11_) (v := ?v3r11_) [5, 6, 7, 8, 9] ?hi3r11_ (by kernel_rfl) (by kernel_rfl) (by kernel_rfl) (by kernel_rfl) (by kernel_rfl) ?hQ3r11_ (Or.inl ⟨?hw3r11_, ?hy3r11_⟩) K1.out ?rest3r11_
        case hi3r11_ => (simp only [List.getElem?_toArray, List.getElem?_cons_zero, List.getElem?_cons_succ]; rfl)
        case hQ3r11_ => exact fun _ _ _ h => h
        case hw3r11_ => rfl
        case hy3r11_ =>
          intro w' hSw
          obtain ⟨r0, r1⟩ := hSw
          go_simp
          try exact rfl
        try simp only [Act.put, List.setIfInBounds_toArray, List.set_cons_zero, List.set_cons_succ]
        refine wpLate_take (i := 4) (oi := ?oi4r11_) (v := ?v4r11_) [5, 6, 7, 8, 9] ?hi4r11_ (by kernel_rfl) (by kernel_rfl) (by kernel_rfl) (by kernel_rfl) (by kernel_rfl) ?hQ4r11_ (Or.inl ⟨?hw4r11_, ?hy4r11_⟩) K1.out ?rest4r11_
        case hi4r11_ => (simp only [List.getElem?_toArray, List.getElem?_cons_zero, List.getElem?_cons_succ]; rfl)
        case hQ4r11_ => exact fun _ _ _ h => h
        case hw4r11_ => rfl
        case hy4r11_ =>
          intro w' hSw
          obtain ⟨r0, r1⟩ := hSw
          go_simp
          try exact rfl
        try simp only [Act.put, List.setIfInBounds_toArray, List.set_cons_zero, List.set_cons_succ]
        refine wpLate_one (i := 5) (o := ?o5r11_) (by kernel_rfl) ?ho5r11_ ?hk5r11_
        case ho5r11_ => (simp only [List.getElem?_toArray, List.getElem?_cons_zero, List.getElem?_cons_succ]; rfl)
        intro K hK
        go_simp
        refine (HWX.out _ _ _ H1.out.2.1 hjk H1.out.2.2.2).mono ?_
        rintro e w7 ⟨A2, c2, rfl, hirb, hb2⟩
        have H2 := Lib.hid (show L2 w0 D w3.heap.size w7 (.slice A9 es.length c9) (.slice AY ps.length cY) (.int .i64 s.over) A9 (es.map (·.c)) ps ∧ IRA w7 w3.heap.size (Value.slice AY ps.length cY).ownBlock A2 xv from ⟨H1.out.1.step hb2, hirb.ira H1.out.1.h1 (Nat.le_refl _) (fun b hb => (own_block H1.out.1.o.own b hb).2)⟩)
        have K2 : Hid (w7.cell? ⟨D, 1, none⟩ = some (.slice AY ps.length cY) ∧ w7.cell? ⟨P2, 0, none⟩ = some (.func (.func 34) #[] #[.pointer (some ⟨PJ, 0, none⟩)])) := Lib.hid ⟨H2.out.1.d.cell 1, (hb2.cell (p := ⟨P2, 0, none⟩) (by have := H1.out.1.d.lt; have := H1.out.2.2.1; simp only; omega)).trans K1.out.2⟩
        have HG := Lib.hid H1.out.2.2.1
        clear hirb hb2 H1 K1
        go_simp
        refine hK.out _ _ (fun h => K2.out) ?_
        clear hK K
        try simp only [Act.put, List.setIfInBounds_toArray, List.set_cons_zero, List.set_cons_succ]
        refine wpLate_one (i := 6) (o := ?o6r11_) (by kernel_rfl) ?ho6r11_ ?hk6r11_
        case ho6r11_ => (simp only [List.getElem?_toArray, List.getElem?_cons_zero, List.getElem?_cons_succ]; rfl)
        intro K hK
        go_simp
        have H3 := Lib.hid (show L2 w0 D w3.heap.size (w7.alloc (.cells #[.slice A2 x.length c2] 22)) (.slice A9 es.length c9) (.slice AY ps.length cY) (.int .i64 s.over) A9 (es.map (·.c)) ps ∧ IRA (w7.alloc (.cells #[.slice A2 x.length c2] 22)) w3.heap.size (Value.slice AY ps.length cY).ownBlock A2 xv from ⟨H2.out.1.step (below_one _ _), H2.out.2.step (below_one _ _)⟩)
        have K3 : Hid ((w7.alloc (.cells #[.slice A2 x.length c2] 22)).cell? ⟨D, 1, none⟩ = some (.slice AY ps.length cY) ∧ (w7.alloc (.cells #[.slice A2 x.length c2] 22)).cell? ⟨P2, 0, none⟩ = some (.func (.func 34) #[] #[.pointer (some ⟨PJ, 0, none⟩)])) := Lib.hid ⟨H3.out.1.d.cell 1, ((below_one w7 _).cell (p := ⟨P2, 0, none⟩) (by have := H2.out.1.d.lt; have := HG.out; simp only; omega)).trans K2.out.2⟩
        have HNEW : Hid (∀ i u, (fl1 [(⟨xv, A2, c2⟩ : Pe)])[i]? = some u → (w7.alloc (.cells #[.slice A2 x.length c2] 22)).cell? ((⟨w7.heap.size, 0, none⟩ : Addr).add i) = some u) := Lib.hid fun i u hu => by
          rw [addr_add, (Has.new w7 22 #[.slice A2 x.length c2]).cell, Nat.zero_add, ← hu]
          simp [fl1, enc1, HXV.out]
        refine hK.out _ _ (fun h => K3.out) ?_
        clear hK K
        try simp only [Act.put, List.setIfInBounds_toArray, List.set_cons_zero, List.set_cons_succ]
        refine wpLate_one (i := 7) (o := ?o7r11_) (by kernel_rfl) ?ho7r11_ ?hk7r11_
        case ho7r11_ => (simp only [List.getElem?_toArray, List.getElem?_cons_zero, List.getElem?_cons_succ]; rfl)
        intro K hK
        refine step_append_lies _ rfl (.tmp 41) (.tmp 46) 26 rfl w3.heap.size 22 j0 (.slice none 0 0) 1 24 Try.underlying26 hji hy0 hy1 hy2 rfl (by decide) (.slice AY ps.length cY) ps.length (fl1 ps) rfl H3.out.1.o.own ⟨w7.heap.size, 0, none⟩ 1 1 (fl1 [(⟨xv, A2, c2⟩ : Pe)]) rfl ?r1 HNEW.out (fl1_one _) ?r2 ?r3 ?r4 ?r5 _ rfl ?_
        case r1 => rfl
        case r2 => omega
        case r3 => unfold maxLen; omega
        case r4 => omega
        case r5 => exact H3.out.1.h1
        rintro g1 cap1 w5 hown1 hgr1 hgg1 hlt1
        have H6 := Lib.hid (And.intro (H3.out.1.app (e := ⟨xv, A2, c2⟩) H3.out.2 (by simp only; rw [HXV.out]; exact hml) rfl hown1 hgr1 hgg1) (H3.out.1.app_d hgr1))
        have hb5 := H3.out.1.app_b hgr1
        have K5 : Hid (w5.cell? ⟨D, 1, none⟩ = some (.slice AY ps.length cY) ∧ w5.cell? ⟨P2, 0, none⟩ = some (.func (.func 34) #[] #[.pointer (some ⟨PJ, 0, none⟩)])) := Lib.hid ⟨H6.out.2.1.cell 1, (hb5.cell (p := ⟨P2, 0, none⟩) (by have := H3.out.1.hD; have := HG.out; simp only; omega)).trans K3.out.2⟩
        clear hown1 hgr1 hgg1 hlt1 hb5
        refine hK.out _ _ (fun h => K5.out) ?_
        clear hK K
        try simp only [Act.put, List.setIfInBounds_toArray, List.set_cons_zero, List.set_cons_succ]
        refine wpLate_take (i := 8) (oi := ?oi8r11_) (v := ?v8r11_) [9] ?hi8r11_ (by kernel_rfl) (by kernel_rfl) (by kernel_rfl) (by kernel_rfl) (by kernel_rfl) ?hQ8r11_ (Or.inl ⟨?hw8r11_, ?hy8r11_⟩) K5.out ?rest8r11_
        case hi8r11_ => (simp only [List.getElem?_toArray, List.getElem?_cons_zero, List.getElem?_cons_succ]; rfl)
        case hQ8r11_ => exact fun _ _ _ h => h
        case hw8r11_ => rfl
        case hy8r11_ =>
          intro w' hSw
          obtain ⟨r0, r1⟩ := hSw
          go_simp
          try exact rfl
        try simp only [Act.put, List.setIfInBounds_toArray, List.set_cons_zero, List.set_cons_succ]
        refine wpLate_one (i := 9) (o := ?o9r11_) (by kernel_rfl) ?ho9r11_ ?hk9r11_
        case ho9r11_ => (simp only [List.getElem?_toArray, List.getElem?_cons_zero, List.getElem?_cons_succ]; rfl)
        intro K hK
        have l0 := K5.out.1
        have lf := H6.out.2.1.frozen 1
        go_simp
        refine hK.out _ _ (fun h => absurd h (by decide)) ?_
        clear hK K
        try simp only [Act.put, List.setIfInBounds_toArray, List.set_cons_zero, List.set_cons_succ]
        refine wpLate_done (by kernel_rfl) ?_ _
        try simp only [Act.put, List.setIfInBounds_toArray, List.set_cons_zero, List.set_cons_succ]
        go_wp2_with fail
        go_roundg (s.parts.length - (k + 1))
        case measure => omega
        case rel => exact ⟨k + 1, by omega, Nat.le_refl _, by go_num, .slice (some ⟨g1, 0, none⟩) (ps.length + 1) cap1, ps ++ [⟨xv, A2, c2⟩], Lib.hid ⟨H6.out.1, by rw [List.map_append]; exact HNX.out⟩⟩
    obtain ⟨g, o, M, m, hg, hgs, hc, hm, hml⟩ := HS.out.c k hlt
    have hjk := HJ.out.1 _ (List.getElem_mem hlt)
    obtain ⟨x, hx⟩ : ∃ x, x = s.calls[k] := ⟨_, rfl⟩
    rw [← hx] at hc hm hml hjk
    obtain ⟨y, hy⟩ : ∃ y, y = endM most j x := ⟨_, rfl⟩
    have HNX : Hid (es.map (·.c) ++ [y] = (s.calls.take (k + 1)).map (endM most j)) := Lib.hid (by
      rw [HW.out.2, List.take_succ_eq_append_getElem hlt, List.map_append, hy, hx]; rfl)
    have HY := Lib.hid hy
    have HYL : Hid (y.marks.length = x.marks.length) := Lib.hid (by rw [hy]; simp [endM, endV_len])
    have HWX := Lib.hid (fun A c w ha h hb => HWI.out x.marks A c w ha h hb)
    rw [show endV most j x.marks = y.marks by rw [hy]; rfl] at HWX
    subst hg
    clear hx hy
    have hlt2 : (k : Int) < s.calls.length := by omega
    have z0 : wr.cell? ⟨g, o + k * 6, none⟩ = some (.int .i64 x.place) := (HBW.out.cell (p := ⟨g, _, none⟩) hgs).trans (hc 0 (by omega))
    have z1 : wr.cell? ⟨g, o + k * 6 + 1, none⟩ = some (.int .i64 x.element) := (HBW.out.cell (p := ⟨g, _, none⟩) hgs).trans (hc 1 (by omega))
    have z2 : wr.cell? ⟨g, o + k * 6 + 2, none⟩ = some (.int .i64 x.under) := (HBW.out.cell (p := ⟨g, _, none⟩) hgs).trans (hc 2 (by omega))
    have z3 : wr.cell? ⟨g, o + k * 6 + 3, none⟩ = some (.bool x.late) := (HBW.out.cell (p := ⟨g, _, none⟩) hgs).trans (hc 3 (by omega))
    have z4 : wr.cell? ⟨g, o + k * 6 + 4, none⟩ = some (.bool x.fall) := (HBW.out.cell (p := ⟨g, _, none⟩) hgs).trans (hc 4 (by omega))
    have z5 : wr.cell? ⟨g, o + k * 6 + 5, none⟩ = some (.slice M x.marks.length m) := (HBW.out.cell (p := ⟨g, _, none⟩) hgs).trans (hc 5 (by omega))
    obtain ⟨A8, c8, rfl, -⟩ := own_slice HW.out.1.o.own
    obtain ⟨E, hE⟩ : ∃ E, E = wr.heap.size := ⟨_, rfl⟩
    have H1 := Lib.hid (show L1 w0 D wr (.slice A8 es.length c8) (.slice none 0 0) (.int .i64 s.over) es ∧ Has (wr.alloc (.cells (clc x M m) 52)) E 52 (clc x M m) ∧ IRow (wr.alloc (.cells (clc x M m) 52)) (wr.alloc (.cells (clc x M m) 52)).heap.size M x.marks ∧ D < E ∧ Below E wr (wr.alloc (.cells (clc x M m) 52)) ∧ E = wr.heap.size ∧ Below W.heap.size W (wr.alloc (.cells (clc x M m) 52)) from
      by subst hE; exact ⟨HW.out.1, Has.new _ _ _, ((hm.below HBW.out).more HBW.out.size).step (below_one _ _), HW.out.1.d.lt, below_one _ _, rfl, HBW.out.trans ((below_one _ _).mono HBW.out.size)⟩)
    clear hgs hc hm HW
    go_upto_region 5 with fail
    generalize wr.alloc (.cells (clc x M m) 52) = w1 at H1 ⊢
    rw [← hE]
    clear z0 z1 z2 z3 z4 z5 hE HBW
    have t5 : w1.cell? ⟨E, 5, none⟩ = some (.slice M x.marks.length m) := H1.out.2.1.cell 5
    have t2 : w1.cell? ⟨P2, 0, none⟩ = some (.func (.func 34) #[] #[.pointer (some ⟨PJ, 0, none⟩)]) := (HC.out.2.1.below H1.out.2.2.2.2.2.2 HC.out.2.1.lt).cell 0
    go_wp2_with fail
    refine (HWX.out _ _ _ H1.out.2.2.1 hjk H1.out.2.2.2.2.2.2).mono ?_
    rintro e w2 ⟨A2, c2, rfl, hirb, hb2⟩
    have t5' : w2.cell? ⟨E, 5, none⟩ = some (.slice M x.marks.length m) := (H1.out.2.1.below hb2 H1.out.2.1.lt).cell 5
    have f5 := (H1.out.2.1.below hb2 H1.out.2.1.lt).frozen 5
    have H3 := Lib.hid (show L1 w0 D (w2.setCell ⟨E, 5, none⟩ (.slice A2 y.marks.length c2)) (.slice A8 es.length c8) (.slice none 0 0) (.int .i64 s.over) es ∧ Has (w2.setCell ⟨E, 5, none⟩ (.slice A2 y.marks.length c2)) E 52 (clc y A2 c2) ∧ IRA (w2.setCell ⟨E, 5, none⟩ (.slice A2 y.marks.length c2)) (D + 1) (Value.slice A8 es.length c8).ownBlock A2 y.marks ∧ y.marks.length ≤ big from by
      obtain ⟨k1, k2, -, k4, k5, k6, -⟩ := H1.out
      have hob : ∀ b, (Value.slice A8 es.length c8).ownBlock = some b → b < w1.heap.size := fun b hb => by have := (own_block k1.o.own b hb).2; have := k2.lt; omega
      have hEs := k2.lt
      refine ⟨k1.step ?_, ?_, ?_, by rw [HYL.out]; exact hml⟩
      · rw [← k6]
        exact (k5.trans (hb2.mono (Nat.le_of_lt hEs))).setCell (Nat.le_refl _) _
      · have h := (k2.below hb2 hEs).set 5 (.slice A2 y.marks.length c2)
        have e : clc y A2 c2 = (clc x M m).setIfInBounds 5 (.slice A2 y.marks.length c2) := by rw [HY.out]; rfl
        rw [e]
        exact h
      · have h1 := hirb.ira (base := D + 1) (o := (Value.slice A8 es.length c8).ownBlock) (by omega) (Nat.le_refl _) hob
        exact fun i hi => by
          obtain ⟨b, f, e, q1, q2, q3, q4⟩ := h1 i hi
          obtain ⟨b', f', e', p1, p2, p3⟩ := hirb i hi
          rw [e] at e'
          cases e'
          exact ⟨b, f, e, by simpa [World.setCell] using q1, q2, q3, (cell_far (by simp only; omega)).trans q4⟩)
    clear hirb hb2 t5 t2 H1
    go_upto_region 6 with fail
    generalize w2.setCell ⟨E, 5, none⟩ (.slice A2 y.marks.length c2) = w3 at H3 ⊢
    clear t5' f5
    have e0 : w3.cell? ⟨E, 0, none⟩ = some (.int .i64 y.place) := H3.out.2.1.cell 0
    have e1 : w3.cell? ⟨E, 1, none⟩ = some (.int .i64 y.element) := H3.out.2.1.cell 1
    have e2 : w3.cell? ⟨E, 2, none⟩ = some (.int .i64 y.under) := H3.out.2.1.cell 2
    have e3 : w3.cell? ⟨E, 3, none⟩ = some (.bool y.late) := H3.out.2.1.cell 3
    have e4 : w3.cell? ⟨E, 4, none⟩ = some (.bool y.fall) := H3.out.2.1.cell 4
    have e5 : w3.cell? ⟨E, 5, none⟩ = some (.slice A2 y.marks.length c2) := H3.out.2.1.cell 5
    have d0 : w3.cell? ⟨D, 0, none⟩ = some (.slice A8 es.length c8) := H3.out.1.d.cell 0
    have H4 := Lib.hid (show L1 w0 D (w3.alloc (.cells (clc y A2 c2) 52)) (.slice A8 es.length c8) (.slice none 0 0) (.int .i64 s.over) es ∧ IRA (w3.alloc (.cells (clc y A2 c2) 52)) (D + 1) (Value.slice A8 es.length c8).ownBlock A2 y.marks ∧ y.marks.length ≤ big ∧ D + 1 ≤ (w3.alloc (.cells (clc y A2 c2) 52)).heap.size from
      ⟨H3.out.1.step (below_one _ _), H3.out.2.2.1.step (below_one _ _), H3.out.2.2.2, by have := H3.out.1.d.lt; simp; omega⟩)
    have HNEW : Hid (∀ i u, (fl6 [(⟨y, A2, c2, 0⟩ : En)])[i]? = some u → (w3.alloc (.cells (clc y A2 c2) 52)).cell? ((⟨w3.heap.size, 0, none⟩ : Addr).add i) = some u) := Lib.hid fun i u hu => by
      rw [addr_add, (Has.new w3 52 (clc y A2 c2)).cell, Nat.zero_add, ← hu]
      simp [fl6, enc6]
    have hesl : es.length ≤ 1000 := by have := congrArg List.length HNX.out; simp at this; omega
    clear H3
    go_wp2_with (at_builtin; refine wpList_append_lies _ rfl _ _ 25 rfl (D + 1) 52 i0 (.agg #[.int .i64 0, .int .i64 0, .int .i64 0, .bool false, .bool false, .slice none 0 0]) 6 56 Try.underlying25 hi hz0 hz1 hz2 rfl (by decide) (.slice A8 es.length c8) es.length (fl6 es) rfl H4.out.1.o.own ⟨w3.heap.size, 0, none⟩ 1 1 (fl6 [(⟨y, A2, c2, 0⟩ : En)]) rfl ?r1 HNEW.out (fl6_one _) ?r2 ?r3 ?r4 ?r5 _ rfl ?_)
    case r1 => rfl
    case r2 => omega
    case r3 => unfold maxLen; omega
    case r4 => omega
    case r5 => exact H4.out.2.2.2
    rintro g1 cap1 w5 hown1 hgr1 hgg1 hlt1
    have H6 := Lib.hid (And.intro (H4.out.1.app (e := ⟨y, A2, c2, 0⟩) (H := w3.heap.size + 1) H4.out.2.1 H4.out.2.2.1 (by simp) hown1 hgr1 hgg1) (H4.out.1.app_d hgr1))
    have d0' : w5.cell? ⟨D, 0, none⟩ = some (.slice A8 es.length c8) := H6.out.2.1.cell 0
    have f0' := H6.out.2.1.frozen 0
    clear hown1 hgr1 hgg1 hlt1 e0 e1 e2 e3 e4 e5 d0
    go_wp2_with fail
    go_roundg (s.calls.length - (k + 1))
    case measure => omega
    case rel => exact ⟨k + 1, by omega, Nat.le_refl _, by go_num, .slice (some ⟨g1, 0, none⟩) (es.length + 1) cap1, es ++ [⟨y, A2, c2, 0⟩], Lib.hid ⟨H6.out.1, by rw [List.map_append]; exact HNX.out⟩⟩
end Go.Proofs.Ytmclchaalmonnaa
