/- Contracts: with, All (the document's). -/
import Derived.Test.YtmclchaalmonnaaBuA
namespace Go.Proofs.Ytmclchaalmonnaa
open Go.RowKit Go.Lib
attribute [local irreducible] wpQuiet
theorem irow_news {w : World} {B g o : Nat} {l : List Int} (h : IRow w B (some ⟨g, o, none⟩) l) : ∀ j u, (ivl l)[j]? = some u → w.cell? ((⟨g, o, none⟩ : Addr).add j) = some u := fun j u hu => by
  have hj : j < l.length := by have := (List.getElem?_eq_some_iff.1 hu).1; simpa [ivl] using this
  obtain ⟨g', o', e, -, c⟩ := h j hj
  cases e
  rw [addr_add, c, ← hu]
  simp [ivl, hj]
theorem IRB.ira {w : World} {lo hi base : Nat} {o : Option Nat} {A : Option Addr} {l : List Int} (h : IRB w lo hi A l) (hb : base ≤ lo) (hh : hi ≤ w.heap.size) (ho : ∀ b, o = some b → b < lo) : IRA w base o A l := fun k hk => by
  obtain ⟨b, f, e, h1, h2, h3⟩ := h k hk
  exact ⟨b, f, e, by omega, by omega, fun e => by have := ho b e; omega, h3⟩
theorem RowI.irb {w : World} {lo g : Nat} {l : List Int} (h : RowI w g l) (hg : lo ≤ g) : IRB w lo w.heap.size (some ⟨g, 0, none⟩) l := fun k hk => ⟨g, 0, rfl, hg, h.lt, by rw [Nat.zero_add]; exact h.cell hk⟩
/-- a new row of numbers -/
def WiPost (r : List Int) (W : World) (e : Ending) (W' : World) : Prop := ∃ A c, e = .returned (.slice A r.length c) ∧ IRB W' W.heap.size W'.heap.size A r ∧ Below W.heap.size W W'
set_option maxRecDepth 100000 in
set_option maxHeartbeats 1000000 in
theorem with_any (l : List Int) (A : Option Addr) (c j : Nat) (q : Int) (W : World) (ha : IRow W W.heap.size A l) (hj : j < l.length) (hl : l.length ≤ 1000) :
    Calls Try.prog 53 #[.slice A l.length c, .int .i64 j, .int .i64 q] W (WiPost (l.set j q) W) := by
  obtain ⟨i0, hi, hz0, hz1, hz2⟩ := info_parts Try.info3
  obtain ⟨g, o, rfl, -⟩ := ha 0 (by omega)
  have hm := Lib.hid (own_made W 3 1)
  have HC := Lib.hid (irow_news (ha.below (below_one W (.cells #[] 3))))
  clear ha
  go_enter Try.func53, Try.ntmps53
  go_wp2_with (at_builtin; refine wpList_append_lies _ rfl _ _ 22 rfl W.heap.size 3 i0 (.int .i64 0) 1 8 Try.underlying22 hi hz0 hz1 hz2 rfl (by decide) (.slice (some ⟨W.heap.size, 0, none⟩) 0 0) 0 [] rfl hm.out ⟨g, o, none⟩ l.length c (ivl l) rfl ?q1 HC.out (ivl_one _) ?q2 ?q3 ?q4 ?q5 _ rfl ?_)
  case q1 => simp [ivl]
  case q2 => omega
  case q3 => unfold maxLen; omega
  case q4 => omega
  case q5 => simp
  rintro g1 cap1 w1 hown hgr hat hlt
  have HO := Lib.hid (And.intro (RowI.of_own (n := l.length) (l := l) rfl (by rw [Nat.zero_add, List.nil_append]; exact hown)) (copy_below hgr))
  have z0 : w1.cell? ⟨g1, j, none⟩ = some (.int .i64 l[j]) := HO.out.1.1.cell hj
  have zf := HO.out.1.1.frozen j
  have hj2 : (j : Int) < l.length := by omega
  clear hown hgr hat hlt HC hm
  go_wp2_with fail
  go_ret
  refine ⟨some ⟨g1, 0, none⟩, cap1, by simp, ?_, HO.out.2.setCell HO.out.1.2 _⟩
  have h := (HO.out.1.1.set hj q).irb HO.out.1.2
  simpa [World.setCell] using h
theorem res33 {w : World} {D : Nat} {a b c : Value} {tmps : Array Value} (h : Has w D 28 #[a, b, c]) (h4 : tmps[8]?.getD undef = .pointer (some ⟨D, 0, none⟩)) :
    (results Try.f33 tmps).run Try.prog w = .ok (.agg #[a, b, c]) w := by
  have c0 := h.cell 0; have c1 := h.cell 1; have c2 := h.cell 2
  simp at c0 c1 c2
  simp [results, Try.results33, go_sem, h4, c0, c1, c2]
set_option maxRecDepth 100000 in
set_option maxHeartbeats 2000000 in
theorem All_any (s : Sk) (AC AP : Option Addr) (cc cp j : Nat) (gr qu : Int) (W : World) (hs : SkR W W.heap.size s AC AP) (hn : s.calls.length ≤ 1000) (hnp : s.parts.length ≤ 1000) (hj : ∀ c ∈ s.calls, j < c.marks.length ∧ c.marks.length ≤ 1000) (hjp : ∀ m ∈ s.parts, j < m.length ∧ m.length ≤ 1000) :
    Calls Try.prog 33 #[skv s AC AP cc cp, .int .i64 j, .int .i64 gr, .int .i64 qu] W (MkPost (markP s j gr qu) W) := by
  obtain ⟨i0, hi, hz0, hz1, hz2⟩ := info_parts Try.info52
  obtain ⟨j0, hji, hy0, hy1, hy2⟩ := info_parts Try.info22
  have HB : Hid (Below W.heap.size W (((W.alloc (.cells (skc s AC AP cc cp) 28)).alloc (.cells #[.slice none 0 0, .slice none 0 0, .int .i64 0] 28)).alloc (.cells #[.slice none 0 0, .slice none 0 0, .int .i64 s.over] 28)) ∧ Has (((W.alloc (.cells (skc s AC AP cc cp) 28)).alloc (.cells #[.slice none 0 0, .slice none 0 0, .int .i64 0] 28)).alloc (.cells #[.slice none 0 0, .slice none 0 0, .int .i64 s.over] 28)) W.heap.size 28 (skc s AC AP cc cp) ∧ Has (((W.alloc (.cells (skc s AC AP cc cp) 28)).alloc (.cells #[.slice none 0 0, .slice none 0 0, .int .i64 0] 28)).alloc (.cells #[.slice none 0 0, .slice none 0 0, .int .i64 s.over] 28)) (W.heap.size + 1) 28 #[.slice none 0 0, .slice none 0 0, .int .i64 0] ∧ Has (((W.alloc (.cells (skc s AC AP cc cp) 28)).alloc (.cells #[.slice none 0 0, .slice none 0 0, .int .i64 0] 28)).alloc (.cells #[.slice none 0 0, .slice none 0 0, .int .i64 s.over] 28)) (W.heap.size + 1 + 1) 28 #[.slice none 0 0, .slice none 0 0, .int .i64 s.over]) :=
    Lib.hid ⟨((below_one W _).alloc (by simp) _).alloc (by simp; omega) _, ((Has.new _ _ _).alloc _).alloc _, (has_newAt (by simp)).alloc _, has_newAt (by simp)⟩
  have HS := Lib.hid hs
  have HJ := Lib.hid (And.intro hj hjp)
  have HWI := Lib.hid (fun (l : List Int) A c (q : Int) w (ha : IRow w w.heap.size A l) (h : j < l.length ∧ l.length ≤ 1000) => with_any l A c j q w ha h.1 h.2)
  unfold WiPost at HWI
  clear hs hj hjp
  unfold skv
  go_enter Try.func33, Try.ntmps33
  go_upto_region 2 with fail
  generalize ((W.alloc (.cells (skc s AC AP cc cp) 28)).alloc (.cells #[.slice none 0 0, .slice none 0 0, .int .i64 0] 28)).alloc (.cells #[.slice none 0 0, .slice none 0 0, .int .i64 s.over] 28) = w0 at HB ⊢
  obtain ⟨D, hD⟩ : ∃ D, D = W.heap.size + 1 + 1 := ⟨_, rfl⟩
  rw [← hD] at HB ⊢
  have HD := Lib.hid hD
  clear hD
  go_wp2_with fail
  go_loopg [10] s.calls.length (fun gk i wr => ∃ k : Nat, k ≤ s.calls.length ∧ s.calls.length - k ≤ gk ∧ i = .int .i64 k ∧ ∃ v es, Hid (L1 w0 D wr v (.slice none 0 0) (.int .i64 s.over) es ∧ es.map (·.c) = (s.calls.take k).map (markC j gr)))
  case atStart => exact ⟨0, Nat.zero_le _, Nat.le_refl _, rfl, .slice none 0 0, [], Lib.hid ⟨⟨Below.refl _ _, HB.out.2.2.2, OutC.nil _ _⟩, by simp⟩⟩
  case round =>
    obtain ⟨k, hk, hgk, rfl, v, es, HW⟩ := hrel
    have hbW : Below W.heap.size W wr := HB.out.1.trans (HW.out.1.b.mono (by have := HD.out; omega))
    have HBW := Lib.hid hbW
    have hfb : Has wr W.heap.size 28 (skc s AC AP cc cp) := HB.out.2.1.below HW.out.1.b (by have := HD.out; omega)
    have y0 : wr.cell? ⟨W.heap.size, 0, none⟩ = some (.slice AC s.calls.length cc) := hfb.cell 0
    clear hbW hfb
    by_cases hlt : k < s.calls.length
    rotate_left
    · have hge : ¬ (k : Int) < s.calls.length := by omega
      have hke : s.calls.take k = s.calls := List.take_of_length_le (by omega)
      have HM : Hid (es.map (·.c) = s.calls.map (markC j gr)) := Lib.hid (by rw [← hke]; exact HW.out.2)
      obtain ⟨A9, c9, rfl, h9⟩ := HW.out.1.next
      have H9 := Lib.hid h9
      clear hke hk hgk hlt HW h9
      go_wp2_with fail
      clear hge y0
      obtain ⟨w3, rfl⟩ : ∃ w3, w3 = wr := ⟨_, rfl⟩
      go_loopg [12] s.parts.length (fun gk i wr => ∃ k : Nat, k ≤ s.parts.length ∧ s.parts.length - k ≤ gk ∧ i = .int .i64 k ∧ ∃ y ps, Hid (L2 w0 D w3.heap.size wr (.slice A9 es.length c9) y (.int .i64 s.over) A9 (es.map (·.c)) ps ∧ ps.map (·.m) = (s.parts.take k).map (fun m => m.set j qu)))
      case atStart => exact ⟨0, Nat.zero_le _, Nat.le_refl _, rfl, .slice none 0 0, [], Lib.hid ⟨H9.out, by simp⟩⟩
      case round =>
        clear HBW
        obtain ⟨k, hk, hgk, rfl, y, ps, HW⟩ := hrel
        have hbW : Below W.heap.size W wr := HB.out.1.trans (HW.out.1.b.mono (by have := HD.out; omega))
        have HBW := Lib.hid hbW
        have hfb : Has wr W.heap.size 28 (skc s AC AP cc cp) := HB.out.2.1.below HW.out.1.b (by have := HD.out; omega)
        have HFB := Lib.hid hfb
        have hrz : Has wr (W.heap.size + 1) 28 #[.slice none 0 0, .slice none 0 0, .int .i64 0] := HB.out.2.2.1.below HW.out.1.b (by have := HD.out; omega)
        by_cases hlt : k < s.parts.length
        rotate_left
        · have y1 : wr.cell? ⟨W.heap.size, 1, none⟩ = some (.slice AP s.parts.length cp) := hfb.cell 1
          have hge : ¬ (k : Int) < s.parts.length := by omega
          have hke : s.parts.take k = s.parts := List.take_of_length_le (by omega)
          have hpm : ps.map (·.m) = (markP s j gr qu).parts := by rw [hke] at HW; exact HW.out.2
          have hel : es.length = s.calls.length := by have := congrArg List.length HM.out; simpa using this
          obtain ⟨AP9, cp9, rfl, hsk⟩ := HW.out.1.skr_put (s := ⟨es.map (·.c), (markP s j gr qu).parts, s.over⟩) hpm (by simp; rw [hel]; exact HS.out.lc) (by simp [markP]; exact HS.out.lp)
          have e : (⟨es.map (·.c), (markP s j gr qu).parts, s.over⟩ : Sk) = markP s j gr qu := by rw [HM.out]; rfl
          rw [e] at hsk
          have hsk2 := fun a b c => hsk (W.heap.size + 1) a b c (by have := HD.out; omega)
          have hpl : ((⟨es.map (·.c), (markP s j gr qu).parts, s.over⟩ : Sk)).parts.length = s.parts.length := by simp [markP]
          rw [hpl] at HW
          rw [hel] at HW
          have d0 : wr.cell? ⟨D, 0, none⟩ = some (.slice A9 s.calls.length c9) := HW.out.1.d.cell 0
          have d1 : wr.cell? ⟨D, 1, none⟩ = some (.slice AP9 s.parts.length cp9) := HW.out.1.d.cell 1
          have d2 : wr.cell? ⟨D, 2, none⟩ = some (.int .i64 s.over) := HW.out.1.d.cell 2
          have f0 := hrz.frozen 0
          have f1 := hrz.frozen 1
          have f2 := hrz.frozen 2
          have q0 : wr.cell? ⟨W.heap.size + 1, 0, none⟩ = some (.slice none 0 0) := hrz.cell 0
          have q1 : wr.cell? ⟨W.heap.size + 1, 1, none⟩ = some (.slice none 0 0) := hrz.cell 1
          have q2 : wr.cell? ⟨W.heap.size + 1, 2, none⟩ = some (.int .i64 0) := hrz.cell 2
          have HEND := Lib.hid (And.intro hsk2 (And.intro hrz HBW.out))
          clear hke e hpm hsk hsk2 hrz hfb hk hgk hlt hpl hel HW
          go_wp2_with fail
          refine bodyPost_ret (v := .agg #[.slice A9 s.calls.length c9, .slice AP9 s.parts.length cp9, .int .i64 s.over]) (res33 (D := W.heap.size + 1) (has_put3 HEND.out.2.1) rfl) rfl ?_
          refine ⟨A9, AP9, c9, cp9, ?_, ?_, below_put3 HEND.out.2.2 (by omega)⟩
          · simp [skv, skc, markP]
          · exact HEND.out.1 _ _ _
        obtain ⟨g, o, M, m, hg, hgs, hc, hm, hml⟩ := HS.out.p k hlt
        have hjk := HJ.out.2 _ (List.getElem_mem hlt)
        obtain ⟨x, hx⟩ : ∃ x, x = s.parts[k] := ⟨_, rfl⟩
        rw [← hx] at hc hm hml hjk
        have HNX : Hid (ps.map (·.m) ++ [x.set j qu] = (s.parts.take (k + 1)).map (fun m => m.set j qu)) := Lib.hid (by
          rw [HW.out.2, List.take_succ_eq_append_getElem hlt, List.map_append, hx]; rfl)
        subst hg
        clear hx
        have hlt2 : (k : Int) < s.parts.length := by omega
        obtain ⟨AY, cY, rfl, -⟩ := own_slice HW.out.1.o.own
        have hpsl : ps.length ≤ 1000 := by have := congrArg List.length HNX.out; simp at this; omega
        have H1 := Lib.hid (show L2 w0 D w3.heap.size wr.drew (.slice A9 es.length c9) (.slice AY ps.length cY) (.int .i64 s.over) A9 (es.map (·.c)) ps ∧ IRow wr.drew wr.drew.heap.size M x ∧ g < D ∧ W.heap.size < D from
          ⟨HW.out.1.drew, ((hm.below HBW.out).more HBW.out.size).step ((Below.refl _ _).drew), by have := HD.out; omega, by have := HD.out; omega⟩)
        have K1 : Hid (wr.drew.cell? ⟨D, 1, none⟩ = some (.slice AY ps.length cY) ∧ wr.drew.cell? ⟨W.heap.size, 1, none⟩ = some (.slice (some ⟨g, o, none⟩) s.parts.length cp) ∧ wr.drew.cell? ⟨g, o + k, none⟩ = some (.slice M x.length m)) := Lib.hid ⟨HW.out.1.drew.d.cell 1, HFB.out.drew.cell 1, (HBW.out.cell (p := ⟨g, _, none⟩) hgs).trans hc⟩
        have HK : Hid (∀ w v y', L2 w0 D w3.heap.size w v y' (.int .i64 s.over) A9 (es.map (·.c)) ps → Below D w0 w) := Lib.hid fun w v y' h => h.b
        have y1 : wr.cell? ⟨W.heap.size, 1, none⟩ = some (.slice (some ⟨g, o, none⟩) s.parts.length cp) := HFB.out.cell 1
        clear hgs hc hm HW HFB hfb hrz HBW
        go_upto_region 11 with fail
        clear y1
        refine wp_region_late (fun w' : World => w'.cell? ⟨D, 1, none⟩ = some (.slice AY ps.length cY) ∧ w'.cell? ⟨W.heap.size, 1, none⟩ = some (.slice (some ⟨g, o, none⟩) s.parts.length cp) ∧ w'.cell? ⟨g, o + k, none⟩ = some (.slice M x.length m)) [13] (by kernel_rfl) ?_
        generalize wr.drew = w6 at H1 K1 ⊢
        refine wpLate_take (i := 0) (oi := ?oi0r11_) (v := ?v0r11_) [1, 11, 12, 13] ?hi0r11_ (by kernel_rfl) (by kernel_rfl) (by kernel_rfl) (by kernel_rfl) (by kernel_rfl) ?hQ0r11_ (Or.inl ⟨?hw0r11_, ?hy0r11_⟩) K1.out ?rest0r11_
        case hi0r11_ => (simp only [List.getElem?_toArray, List.getElem?_cons_zero]; rfl)
        case hQ0r11_ => exact fun _ _ _ h => h
        case hw0r11_ => rfl
        case hy0r11_ =>
          intro w' hSw
          obtain ⟨r0, r1, r2⟩ := hSw
          go_simp
          try exact rfl
        try simp only [Act.put, List.setIfInBounds_toArray, List.set_cons_zero, List.set_cons_succ]
        refine wpLate_take (i := 1) (oi := ?oi1r11_) (v := ?v1r11_) [11, 12, 13] ?hi1r11_ (by kernel_rfl) (by kernel_rfl) (by kernel_rfl) (by kernel_rfl) (by kernel_rfl) ?hQ1r11_ (Or.inl ⟨?hw1r11_, ?hy1r11_⟩) K1.out ?rest1r11_
        case hi1r11_ => (simp only [List.getElem?_toArray, List.getElem?_cons_zero, List.getElem?_cons_succ]; rfl)
        case hQ1r11_ => exact fun _ _ _ h => h
        case hw1r11_ => rfl
        case hy1r11_ =>
          intro w' hSw
          obtain ⟨r0, r1, r2⟩ := hSw
          go_simp
          try exact rfl
        try simp only [Act.put, List.setIfInBounds_toArray, List.set_cons_zero, List.set_cons_succ]
        refine wpLate_take (i := 2) (oi := ?oi2r11_) (v := ?v2r11_) [3, 5, 6, 9, 10, 11, 12, 13] ?hi2r11_ (by kernel_rfl) (by kernel_rfl) (by kernel_rfl) (by kernel_rfl) (by kernel_rfl) ?hQ2r11_ (Or.inl ⟨?hw2r11_, ?hy2r11_⟩) K1.out ?rest2r11_
        case hi2r11_ => (simp only [List.getElem?_toArray, List.getElem?_cons_zero, List.getElem?_cons_succ]; rfl)
        case hQ2r11_ => exact fun _ _ _ h => h
        case hw2r11_ => rfl
        case hy2r11_ =>
          intro w' hSw
          obtain ⟨r0, r1, r2⟩ := hSw
          go_simp
          try exact rfl
        try simp only [Act.put, List.setIfInBounds_toArray, List.set_cons_zero, List.set_cons_succ]
        refine wpLate_take (i := 3) (oi := ?oi3r11_) (v := ?v3r11_) [5, 6, 9, 10, 11, 12, 13] ?hi3r11_ (by kernel_rfl) (by kernel_rfl) (by kernel_rfl) (by kernel_rfl) (by kernel_rfl) ?hQ3r11_ (Or.inl ⟨?hw3r11_, ?hy3r11_⟩) K1.out ?rest3r11_
        case hi3r11_ => (simp only [List.getElem?_toArray, List.getElem?_cons_zero, List.getElem?_cons_succ]; rfl)
        case hQ3r11_ => exact fun _ _ _ h => h
        case hw3r11_ => rfl
        case hy3r11_ =>
          intro w' hSw
          obtain ⟨r0, r1, r2⟩ := hSw
          go_simp
          try exact rfl
        try simp only [Act.put, List.setIfInBounds_toArray, List.set_cons_zero, List.set_cons_succ]
        refine wpLate_take (i := 4) (oi := ?oi4r11_) (v := ?v4r11_) [5, 6, 9, 10, 11, 12, 13] ?hi4r11_ (by kernel_rfl) (by kernel_rfl) (by kernel_rfl) (by kernel_rfl) (by kernel_rfl) ?hQ4r11_ (Or.inl ⟨?hw4r11_, ?hy4r11_⟩) K1.out ?rest4r11_
        case hi4r11_ => (simp only [List.getElem?_toArray, List.getElem?_cons_zero, List.getElem?_cons_succ]; rfl)
        case hQ4r11_ => exact fun _ _ _ h => h
        case hw4r11_ => rfl
        case hy4r11_ =>
          intro w' hSw
          obtain ⟨r0, r1, r2⟩ := hSw
          go_simp
          try exact rfl
        try simp only [Act.put, List.setIfInBounds_toArray, List.set_cons_zero, List.set_cons_succ]
        refine wpLate_take (i := 5) (oi := ?oi5r11_) (v := ?v5r11_) [6, 9, 10, 11, 12, 13] ?hi5r11_ (by kernel_rfl) (by kernel_rfl) (by kernel_rfl) (by kernel_rfl) (by kernel_rfl) ?hQ5r11_ (Or.inl ⟨?hw5r11_, ?hy5r11_⟩) K1.out ?rest5r11_
        case hi5r11_ => (simp only [List.getElem?_toArray, List.getElem?_cons_zero, List.getElem?_cons_succ]; rfl)
        case hQ5r11_ => exact fun _ _ _ h => h
        case hw5r11_ => rfl
        case hy5r11_ =>
          intro w' hSw
          obtain ⟨r0, r1, r2⟩ := hSw
          go_simp
          try exact rfl
        try simp only [Act.put, List.setIfInBounds_toArray, List.set_cons_zero, List.set_cons_succ]
        refine wpLate_take (i := 6) (oi := ?oi6r11_) (v := ?v6r11_) [9, 10, 11, 12, 13] ?hi6r11_ (by kernel_rfl) (by kernel_rfl) (by kernel_rfl) (by kernel_rfl) (by kernel_rfl) ?hQ6r11_ (Or.inl ⟨?hw6r11_, ?hy6r11_⟩) K1.out ?rest6r11_
        case hi6r11_ => (simp only [List.getElem?_toArray, List.getElem?_cons_zero, List.getElem?_cons_succ]; rfl)
        case hQ6r11_ => exact fun _ _ _ h => h
        case hw6r11_ => rfl
        case hy6r11_ =>
          intro w' hSw
          obtain ⟨r0, r1, r2⟩ := hSw
          go_simp
          try exact rfl
        try simp only [Act.put, List.setIfInBounds_toArray, List.set_cons_zero, List.set_cons_succ]
        refine wpLate_take (i := 7) (oi := ?oi7r11_) (v := ?v7r11_) [9, 10, 11, 12, 13] ?hi7r11_ (by kernel_rfl) (by kernel_rfl) (by kernel_rfl) (by kernel_rfl) (by kernel_rfl) ?hQ7r11_ (Or.inl ⟨?hw7r11_, ?hy7r11_⟩) K1.out ?rest7r11_
        case hi7r11_ => (simp only [List.getElem?_toArray, List.getElem?_cons_zero, List.getElem?_cons_succ]; rfl)
        case hQ7r11_ => exact fun _ _ _ h => h
        case hw7r11_ => rfl
        case hy7r11_ =>
          intro w' hSw
          obtain ⟨r0, r1, r2⟩ := hSw
          go_simp
          try exact rfl
        try simp only [Act.put, List.setIfInBounds_toArray, List.set_cons_zero, List.set_cons_succ]
        refine wpLate_take (i := 8) (oi := ?oi8r11_) (v := ?v8r11_) [9, 10, 11, 12, 13] ?hi8r11_ (by kernel_rfl) (by kernel_rfl) (by kernel_rfl) (by kernel_rfl) (by kernel_rfl) ?hQ8r11_ (Or.inl ⟨?hw8r11_, ?hy8r11_⟩) K1.out ?rest8r11_
        case hi8r11_ => (simp only [List.getElem?_toArray, List.getElem?_cons_zero, List.getElem?_cons_succ]; rfl)
        case hQ8r11_ => exact fun _ _ _ h => h
        case hw8r11_ => rfl
        case hy8r11_ =>
          intro w' hSw
          obtain ⟨r0, r1, r2⟩ := hSw
          go_simp
          try exact rfl
        try simp only [Act.put, List.setIfInBounds_toArray, List.set_cons_zero, List.set_cons_succ]
        refine wpLate_one (i := 9) (o := ?o9r11_) (by kernel_rfl) ?ho9r11_ ?hk9r11_
        case ho9r11_ => (simp only [List.getElem?_toArray, List.getElem?_cons_zero, List.getElem?_cons_succ]; rfl)
        intro K hK
        go_simp
        refine (HWI.out _ _ _ _ _ H1.out.2.1 hjk).mono ?_
        rintro e w7 ⟨A2, c2, rfl, hirb, hb2⟩
        have H2 := Lib.hid (show L2 w0 D w3.heap.size w7 (.slice A9 es.length c9) (.slice AY ps.length cY) (.int .i64 s.over) A9 (es.map (·.c)) ps ∧ IRA w7 w3.heap.size (Value.slice AY ps.length cY).ownBlock A2 (x.set j qu) from ⟨H1.out.1.step hb2, hirb.ira H1.out.1.h1 (Nat.le_refl _) (fun b hb => (own_block H1.out.1.o.own b hb).2)⟩)
        have K2 : Hid (w7.cell? ⟨D, 1, none⟩ = some (.slice AY ps.length cY) ∧ w7.cell? ⟨W.heap.size, 1, none⟩ = some (.slice (some ⟨g, o, none⟩) s.parts.length cp) ∧ w7.cell? ⟨g, o + k, none⟩ = some (.slice M x.length m)) := Lib.hid ⟨H2.out.1.d.cell 1, (hb2.cell (p := ⟨W.heap.size, 1, none⟩) (by have := H1.out.1.d.lt; have := H1.out.2.2.2; simp only; omega)).trans K1.out.2.1, (hb2.cell (p := ⟨g, _, none⟩) (by have := H1.out.1.d.lt; have := H1.out.2.2.1; simp only; omega)).trans K1.out.2.2⟩
        have HG := Lib.hid (And.intro H1.out.2.2.1 H1.out.2.2.2)
        clear hirb hb2 H1 K1
        go_simp
        refine hK.out _ _ (fun h => K2.out) ?_
        clear hK K
        try simp only [Act.put, List.setIfInBounds_toArray, List.set_cons_zero, List.set_cons_succ]
        refine wpLate_one (i := 10) (o := ?o10r11_) (by kernel_rfl) ?ho10r11_ ?hk10r11_
        case ho10r11_ => (simp only [List.getElem?_toArray, List.getElem?_cons_zero, List.getElem?_cons_succ]; rfl)
        intro K hK
        go_simp
        have H3 := Lib.hid (show L2 w0 D w3.heap.size (w7.alloc (.cells #[.slice A2 x.length c2] 22)) (.slice A9 es.length c9) (.slice AY ps.length cY) (.int .i64 s.over) A9 (es.map (·.c)) ps ∧ IRA (w7.alloc (.cells #[.slice A2 x.length c2] 22)) w3.heap.size (Value.slice AY ps.length cY).ownBlock A2 (x.set j qu) from ⟨H2.out.1.step (below_one _ _), H2.out.2.step (below_one _ _)⟩)
        have K3 : Hid ((w7.alloc (.cells #[.slice A2 x.length c2] 22)).cell? ⟨D, 1, none⟩ = some (.slice AY ps.length cY) ∧ (w7.alloc (.cells #[.slice A2 x.length c2] 22)).cell? ⟨W.heap.size, 1, none⟩ = some (.slice (some ⟨g, o, none⟩) s.parts.length cp) ∧ (w7.alloc (.cells #[.slice A2 x.length c2] 22)).cell? ⟨g, o + k, none⟩ = some (.slice M x.length m)) := Lib.hid ⟨H3.out.1.d.cell 1, ((below_one w7 _).cell (p := ⟨W.heap.size, 1, none⟩) (by have := H2.out.1.d.lt; have := HG.out.2; simp only; omega)).trans K2.out.2.1, ((below_one w7 _).cell (p := ⟨g, _, none⟩) (by have := H2.out.1.d.lt; have := HG.out.1; simp only; omega)).trans K2.out.2.2⟩
        have HNEW : Hid (∀ i u, (fl1 [(⟨x.set j qu, A2, c2⟩ : Pe)])[i]? = some u → (w7.alloc (.cells #[.slice A2 x.length c2] 22)).cell? ((⟨w7.heap.size, 0, none⟩ : Addr).add i) = some u) := Lib.hid fun i u hu => by
          rw [addr_add, (Has.new w7 22 #[.slice A2 x.length c2]).cell, Nat.zero_add, ← hu]
          simp [fl1, enc1]
        refine hK.out _ _ (fun h => K3.out) ?_
        clear hK K
        try simp only [Act.put, List.setIfInBounds_toArray, List.set_cons_zero, List.set_cons_succ]
        refine wpLate_one (i := 11) (o := ?o11r11_) (by kernel_rfl) ?ho11r11_ ?hk11r11_
        case ho11r11_ => (simp only [List.getElem?_toArray, List.getElem?_cons_zero, List.getElem?_cons_succ]; rfl)
        intro K hK
        refine step_append_lies _ rfl (.tmp 48) (.tmp 57) 26 rfl w3.heap.size 22 j0 (.slice none 0 0) 1 24 Try.underlying26 hji hy0 hy1 hy2 rfl (by decide) (.slice AY ps.length cY) ps.length (fl1 ps) rfl H3.out.1.o.own ⟨w7.heap.size, 0, none⟩ 1 1 (fl1 [(⟨x.set j qu, A2, c2⟩ : Pe)]) rfl ?r1 HNEW.out (fl1_one _) ?r2 ?r3 ?r4 ?r5 _ rfl ?_
        case r1 => rfl
        case r2 => omega
        case r3 => unfold maxLen; omega
        case r4 => omega
        case r5 => exact H3.out.1.h1
        rintro g1 cap1 w5 hown1 hgr1 hgg1 hlt1
        have H6 := Lib.hid (And.intro (H3.out.1.app (e := ⟨x.set j qu, A2, c2⟩) H3.out.2 (by simpa using hml) rfl hown1 hgr1 hgg1) (H3.out.1.app_d hgr1))
        have hb5 := H3.out.1.app_b hgr1
        have K5 : Hid (w5.cell? ⟨D, 1, none⟩ = some (.slice AY ps.length cY) ∧ w5.cell? ⟨W.heap.size, 1, none⟩ = some (.slice (some ⟨g, o, none⟩) s.parts.length cp) ∧ w5.cell? ⟨g, o + k, none⟩ = some (.slice M x.length m)) := Lib.hid ⟨H6.out.2.1.cell 1, (hb5.cell (p := ⟨W.heap.size, 1, none⟩) (by have := H3.out.1.hD; have := HG.out.2; simp only; omega)).trans K3.out.2.1, (hb5.cell (p := ⟨g, _, none⟩) (by have := H3.out.1.hD; have := HG.out.1; simp only; omega)).trans K3.out.2.2⟩
        clear hown1 hgr1 hgg1 hlt1 hb5
        refine hK.out _ _ (fun h => K5.out) ?_
        clear hK K
        try simp only [Act.put, List.setIfInBounds_toArray, List.set_cons_zero, List.set_cons_succ]
        refine wpLate_take (i := 12) (oi := ?oi12r11_) (v := ?v12r11_) [13] ?hi12r11_ (by kernel_rfl) (by kernel_rfl) (by kernel_rfl) (by kernel_rfl) (by kernel_rfl) ?hQ12r11_ (Or.inl ⟨?hw12r11_, ?hy12r11_⟩) K5.out ?rest12r11_
        case hi12r11_ => (simp only [List.getElem?_toArray, List.getElem?_cons_zero, List.getElem?_cons_succ]; rfl)
        case hQ12r11_ => exact fun _ _ _ h => h
        case hw12r11_ => rfl
        case hy12r11_ =>
          intro w' hSw
          obtain ⟨r0, r1, r2⟩ := hSw
          go_simp
          try exact rfl
        try simp only [Act.put, List.setIfInBounds_toArray, List.set_cons_zero, List.set_cons_succ]
        refine wpLate_one (i := 13) (o := ?o13r11_) (by kernel_rfl) ?ho13r11_ ?hk13r11_
        case ho13r11_ => (simp only [List.getElem?_toArray, List.getElem?_cons_zero, List.getElem?_cons_succ]; rfl)
        intro K hK
        have l0 := K5.out.1
        have lf := H6.out.2.1.frozen 1
        go_simp
        refine hK.out _ _ (fun h => absurd h (by decide)) ?_
        clear hK K
        try simp only [Act.put, List.setIfInBounds_toArray, List.set_cons_zero, List.set_cons_succ]
        refine wpLate_done (by kernel_rfl) ?_ _
        try simp only [Act.put, List.setIfInBounds_toArray, List.set_cons_zero, List.set_cons_succ]
        go_wp2_with fail
        go_roundg (s.parts.length - (k + 1))
        case measure => omega
        case rel => exact ⟨k + 1, by omega, Nat.le_refl _, by go_num, .slice (some ⟨g1, 0, none⟩) (ps.length + 1) cap1, ps ++ [⟨x.set j qu, A2, c2⟩], Lib.hid ⟨H6.out.1, by rw [List.map_append]; exact HNX.out⟩⟩
    obtain ⟨g, o, M, m, hg, hgs, hc, hm, hml⟩ := HS.out.c k hlt
    have hjk := HJ.out.1 _ (List.getElem_mem hlt)
    obtain ⟨x, hx⟩ : ∃ x, x = s.calls[k] := ⟨_, rfl⟩
    rw [← hx] at hc hm hml hjk
    have HNX : Hid (es.map (·.c) ++ [markC j gr x] = (s.calls.take (k + 1)).map (markC j gr)) := Lib.hid (by
      rw [HW.out.2, List.take_succ_eq_append_getElem hlt, List.map_append, hx]; rfl)
    subst hg
    clear hx
    have hlt2 : (k : Int) < s.calls.length := by omega
    have z0 : wr.cell? ⟨g, o + k * 6, none⟩ = some (.int .i64 x.place) := (HBW.out.cell (p := ⟨g, _, none⟩) hgs).trans (hc 0 (by omega))
    have z1 : wr.cell? ⟨g, o + k * 6 + 1, none⟩ = some (.int .i64 x.element) := (HBW.out.cell (p := ⟨g, _, none⟩) hgs).trans (hc 1 (by omega))
    have z2 : wr.cell? ⟨g, o + k * 6 + 2, none⟩ = some (.int .i64 x.under) := (HBW.out.cell (p := ⟨g, _, none⟩) hgs).trans (hc 2 (by omega))
    have z3 : wr.cell? ⟨g, o + k * 6 + 3, none⟩ = some (.bool x.late) := (HBW.out.cell (p := ⟨g, _, none⟩) hgs).trans (hc 3 (by omega))
    have z4 : wr.cell? ⟨g, o + k * 6 + 4, none⟩ = some (.bool x.fall) := (HBW.out.cell (p := ⟨g, _, none⟩) hgs).trans (hc 4 (by omega))
    have z5 : wr.cell? ⟨g, o + k * 6 + 5, none⟩ = some (.slice M x.marks.length m) := (HBW.out.cell (p := ⟨g, _, none⟩) hgs).trans (hc 5 (by omega))
    obtain ⟨A8, c8, rfl, -⟩ := own_slice HW.out.1.o.own
    obtain ⟨E, hE⟩ : ∃ E, E = wr.heap.size := ⟨_, rfl⟩
    have H1 := Lib.hid (show L1 w0 D wr (.slice A8 es.length c8) (.slice none 0 0) (.int .i64 s.over) es ∧ Has (wr.alloc (.cells (clc x M m) 52)) E 52 (clc x M m) ∧ IRow (wr.alloc (.cells (clc x M m) 52)) (wr.alloc (.cells (clc x M m) 52)).heap.size M x.marks ∧ D < E ∧ Below E wr (wr.alloc (.cells (clc x M m) 52)) ∧ E = wr.heap.size from
      by subst hE; exact ⟨HW.out.1, Has.new _ _ _, ((hm.below HBW.out).more HBW.out.size).step (below_one _ _), HW.out.1.d.lt, below_one _ _, rfl⟩)
    obtain ⟨y, hy⟩ : ∃ y, y = markC j gr x := ⟨_, rfl⟩
    rw [← hy] at HNX
    have HY := Lib.hid hy
    have HYL : Hid ((x.marks.set j gr).length = y.marks.length) := Lib.hid (by rw [hy]; rfl)
    clear hgs hc hm HW hy
    go_upto_region 6 with fail
    generalize wr.alloc (.cells (clc x M m) 52) = w1 at H1 ⊢
    rw [← hE]
    clear z0 z1 z2 z3 z4 z5 y0 hE
    have t5 : w1.cell? ⟨E, 5, none⟩ = some (.slice M x.marks.length m) := H1.out.2.1.cell 5
    go_wp2_with fail
    refine (HWI.out _ _ _ _ _ H1.out.2.2.1 hjk).mono ?_
    rintro e w2 ⟨A2, c2, rfl, hirb, hb2⟩
    rw [HYL.out]
    have t5' : w2.cell? ⟨E, 5, none⟩ = some (.slice M x.marks.length m) := (H1.out.2.1.below hb2 H1.out.2.1.lt).cell 5
    have f5 := (H1.out.2.1.below hb2 H1.out.2.1.lt).frozen 5
    have H3 := Lib.hid (show L1 w0 D (w2.setCell ⟨E, 5, none⟩ (.slice A2 y.marks.length c2)) (.slice A8 es.length c8) (.slice none 0 0) (.int .i64 s.over) es ∧ Has (w2.setCell ⟨E, 5, none⟩ (.slice A2 y.marks.length c2)) E 52 (clc y A2 c2) ∧ IRA (w2.setCell ⟨E, 5, none⟩ (.slice A2 y.marks.length c2)) (D + 1) (Value.slice A8 es.length c8).ownBlock A2 y.marks ∧ y.marks.length ≤ big from by
      obtain ⟨k1, k2, -, k4, k5, k6⟩ := H1.out
      have hob : ∀ b, (Value.slice A8 es.length c8).ownBlock = some b → b < w1.heap.size := fun b hb => by have := (own_block k1.o.own b hb).2; have := k2.lt; omega
      have hEs := k2.lt
      refine ⟨k1.step ?_, ?_, ?_, by rw [← HYL.out]; simpa using hml⟩
      · rw [← k6]
        exact (k5.trans (hb2.mono (Nat.le_of_lt hEs))).setCell (Nat.le_refl _) _
      · have h := (k2.below hb2 hEs).set 5 (.slice A2 y.marks.length c2)
        rw [HY.out] at h ⊢
        exact h
      · have h1 := hirb.ira (base := D + 1) (o := (Value.slice A8 es.length c8).ownBlock) (by omega) (Nat.le_refl _) hob
        rw [HY.out]
        exact fun i hi => by
          obtain ⟨b, f, e, q1, q2, q3, q4⟩ := h1 i hi
          obtain ⟨b', f', e', p1, p2, p3⟩ := hirb i hi
          rw [e] at e'
          cases e'
          exact ⟨b, f, e, by simpa [World.setCell] using q1, q2, q3, (cell_far (by simp only; omega)).trans q4⟩)
    clear hirb hb2 t5 H1
    go_upto_region 7 with fail
    generalize w2.setCell ⟨E, 5, none⟩ (.slice A2 y.marks.length c2) = w3 at H3 ⊢
    clear t5' f5
    have e0 : w3.cell? ⟨E, 0, none⟩ = some (.int .i64 y.place) := H3.out.2.1.cell 0
    have e1 : w3.cell? ⟨E, 1, none⟩ = some (.int .i64 y.element) := H3.out.2.1.cell 1
    have e2 : w3.cell? ⟨E, 2, none⟩ = some (.int .i64 y.under) := H3.out.2.1.cell 2
    have e3 : w3.cell? ⟨E, 3, none⟩ = some (.bool y.late) := H3.out.2.1.cell 3
    have e4 : w3.cell? ⟨E, 4, none⟩ = some (.bool y.fall) := H3.out.2.1.cell 4
    have e5 : w3.cell? ⟨E, 5, none⟩ = some (.slice A2 y.marks.length c2) := H3.out.2.1.cell 5
    have d0 : w3.cell? ⟨D, 0, none⟩ = some (.slice A8 es.length c8) := H3.out.1.d.cell 0
    have H4 := Lib.hid (show L1 w0 D (w3.alloc (.cells (clc y A2 c2) 52)) (.slice A8 es.length c8) (.slice none 0 0) (.int .i64 s.over) es ∧ IRA (w3.alloc (.cells (clc y A2 c2) 52)) (D + 1) (Value.slice A8 es.length c8).ownBlock A2 y.marks ∧ y.marks.length ≤ big ∧ D + 1 ≤ (w3.alloc (.cells (clc y A2 c2) 52)).heap.size from
      ⟨H3.out.1.step (below_one _ _), H3.out.2.2.1.step (below_one _ _), H3.out.2.2.2, by have := H3.out.1.d.lt; simp; omega⟩)
    have HNEW : Hid (∀ i u, (fl6 [(⟨y, A2, c2, 0⟩ : En)])[i]? = some u → (w3.alloc (.cells (clc y A2 c2) 52)).cell? ((⟨w3.heap.size, 0, none⟩ : Addr).add i) = some u) := Lib.hid fun i u hu => by
      rw [addr_add, (Has.new w3 52 (clc y A2 c2)).cell, Nat.zero_add, ← hu]
      simp [fl6, enc6]
    have hesl : es.length ≤ 1000 := by have := congrArg List.length HNX.out; simp at this; omega
    clear H3 HYL
    go_wp2_with (at_builtin; refine wpList_append_lies _ rfl _ _ 25 rfl (D + 1) 52 i0 (.agg #[.int .i64 0, .int .i64 0, .int .i64 0, .bool false, .bool false, .slice none 0 0]) 6 56 Try.underlying25 hi hz0 hz1 hz2 rfl (by decide) (.slice A8 es.length c8) es.length (fl6 es) rfl H4.out.1.o.own ⟨w3.heap.size, 0, none⟩ 1 1 (fl6 [(⟨y, A2, c2, 0⟩ : En)]) rfl ?r1 HNEW.out (fl6_one _) ?r2 ?r3 ?r4 ?r5 _ rfl ?_)
    case r1 => rfl
    case r2 => omega
    case r3 => unfold maxLen; omega
    case r4 => omega
    case r5 => exact H4.out.2.2.2
    rintro g1 cap1 w5 hown1 hgr1 hgg1 hlt1
    have H6 := Lib.hid (And.intro (H4.out.1.app (e := ⟨y, A2, c2, 0⟩) (H := w3.heap.size + 1) H4.out.2.1 H4.out.2.2.1 (by simp) hown1 hgr1 hgg1) (H4.out.1.app_d hgr1))
    have d0' : w5.cell? ⟨D, 0, none⟩ = some (.slice A8 es.length c8) := H6.out.2.1.cell 0
    have f0' := H6.out.2.1.frozen 0
    clear hown1 hgr1 hgg1 hlt1 e0 e1 e2 e3 e4 e5 d0
    go_wp2_with fail
    go_roundg (s.calls.length - (k + 1))
    case measure => omega
    case rel => exact ⟨k + 1, by omega, Nat.le_refl _, by go_num, .slice (some ⟨g1, 0, none⟩) (es.length + 1) cap1, es ++ [⟨y, A2, c2, 0⟩], Lib.hid ⟨H6.out.1, by rw [List.map_append]; exact HNX.out⟩⟩
end Go.Proofs.Ytmclchaalmonnaa
