/- The document's Program and Values. -/
import Derived.Test.YtmclchaalmonnaaRfE
namespace Go.Proofs.Ytmclchaalmonnaa
open Go.RowKit Go.Lib
attribute [local irreducible] wpQuiet
theorem progR_ct (r : Ru) (s : Sk) : progR r s = if contestB r [s] = true then (progP r s, 0) else (zeroSc, 1) := by
  unfold progR inspP
  cases h : contestB r [s] <;> simp
theorem valsR_ct (r : Ru) (s : Sk) : valsR r s = if contestB r [s] = true then (valsP r s, 0) else ([], 1) := by
  unfold valsR inspP
  cases h : contestB r [s] <;> simp
/-- a row and an errno -/
def RI2 (r : List Int × Int) (W : World) (e : Ending) (W' : World) : Prop := ∃ A c, e = .returned (.tuple #[.slice A r.1.length c, .int .i64 r.2]) ∧ IRow W' W'.heap.size A r.1 ∧ Below W.heap.size W W'
theorem res15 {w : World} {D : Nat} {a b c d r : Value} {tmps : Array Value} (h : Has w D 33 #[a, b, c, d]) (h4 : tmps[4]?.getD undef = .pointer (some ⟨D, 0, none⟩)) (h5 : tmps[5]?.getD undef = r) :
    (results Try.f15 tmps).run Try.prog w = .ok (.tuple #[.agg #[a, b, c, d], r]) w := by
  have c0 := h.cell 0; have c1 := h.cell 1; have c2 := h.cell 2; have c3 := h.cell 3
  simp at c0 c1 c2 c3
  simp [results, Try.results15, go_sem, h4, h5, c0, c1, c2, c3]
set_option maxRecDepth 100000 in
set_option maxHeartbeats 1000000 in
theorem Dprogram_any (r : Ru) (A : Option Addr) (c : Nat) (s : Sk) (AC AP : Option Addr) (cc cp : Nat) (W : World) (hr : RuR W W.heap.size r A) (hs : SkR W W.heap.size s AC AP) :
    Calls Try.prog 15 #[ruv r A c, skv s AC AP cc cp] W (SEPost (progR r s) W) := by
  have HB : Hid (PW W (((W.alloc (.cells (ruc r A c) 24)).alloc (.cells (skc s AC AP cc cp) 28)).alloc (.cells (scc zeroSc) 33)) r A c s AC AP cc cp zeroSc) :=
    Lib.hid ⟨((below_one W _).alloc (by simp) _).alloc (by simp; omega) _, ((Has.new _ _ _).alloc _).alloc _, (has_newAt (by simp)).alloc _, has_newAt (by simp)⟩
  have HR := Lib.hid (And.intro hr hs)
  have HI := Lib.hid (fun w (h : Below W.heap.size W w) g (hg : Has w g 28 (skc s AC AP cc cp)) => Contest_any r A c [s] (some ⟨g, 0, none⟩) 1 w ((hr.below h).more h.size) (srow_one hg hg.lt ((hs.below h).more h.size)) (by simp [big]))
  have HPG := Lib.hid (fun w (h : Below W.heap.size W w) hvr hvs => dprogram_any r A c s AC AP cc cp w ((hr.below h).more h.size) ((hs.below h).more h.size) hvr hvs)
  have HX : Hid (progR r s = if contestB r [s] = true then (progP r s, 0) else (zeroSc, 1)) := Lib.hid (progR_ct r s)
  have HOK := Lib.hid (fun h => contest_ok (r := r) (l := [s]) h)
  obtain ⟨X, hX⟩ : ∃ X, X = progR r s := ⟨_, rfl⟩
  obtain ⟨j, hj⟩ : ∃ j, j = contestB r [s] := ⟨_, rfl⟩
  rw [← hj] at HI HX HOK
  rw [← hX] at HX ⊢
  unfold BoolPost at HI
  unfold ScPost at HPG
  dsimp only [List.length_cons, List.length_nil] at HI HX HOK
  clear hr hs hX hj
  unfold ruv skv at *
  go_enter Try.func15, Try.ntmps15
  go_upto_region 1 with fail
  have HB' : Hid (PW W (((W.alloc (.cells (ruc r A c) 24)).alloc (.cells (skc s AC AP cc cp) 28)).alloc (.cells #[.int .i64 0, .int .i64 0, .int .i64 0, .int .i64 0] 33)) r A c s AC AP cc cp zeroSc) := HB
  clear HB
  generalize ((W.alloc (.cells (ruc r A c) 24)).alloc (.cells (skc s AC AP cc cp) 28)).alloc (.cells #[.int .i64 0, .int .i64 0, .int .i64 0, .int .i64 0] 33) = w0 at HB' ⊢
  have x0 : w0.cell? ⟨W.heap.size, 0, none⟩ = some (.slice A r.bases.length c) := HB'.out.fr.cell 0
  have x1 : w0.cell? ⟨W.heap.size, 1, none⟩ = some (.int .i64 r.factor) := HB'.out.fr.cell 1
  have x2 : w0.cell? ⟨W.heap.size, 2, none⟩ = some (.int .i64 r.most) := HB'.out.fr.cell 2
  have y0 : w0.cell? ⟨W.heap.size + 1, 0, none⟩ = some (.slice AC s.calls.length cc) := HB'.out.fs.cell 0
  have y1 : w0.cell? ⟨W.heap.size + 1, 1, none⟩ = some (.slice AP s.parts.length cp) := HB'.out.fs.cell 1
  have y2 : w0.cell? ⟨W.heap.size + 1, 2, none⟩ = some (.int .i64 s.over) := HB'.out.fs.cell 2
  have HB1 := Lib.hid (And.intro (HB'.out.step (below_one w0 (.cells (skc s AC AP cc cp) 28))) (Has.new w0 28 (skc s AC AP cc cp)))
  go_wp2_with fail
  refine (HI.out _ HB1.out.1.b _ HB1.out.2).mono ?_
  rintro e w1 ⟨rfl, hb1⟩
  have H1 := Lib.hid (HB1.out.1.step hb1)
  clear hb1 x0 x1 x2 y0 y1 y2 HB' HB1 HI
  have z0 : w1.cell? ⟨W.heap.size + 1 + 1, 0, none⟩ = some (.int .i64 0) := H1.out.fx.cell 0
  have z1 : w1.cell? ⟨W.heap.size + 1 + 1, 1, none⟩ = some (.int .i64 0) := H1.out.fx.cell 1
  have z2 : w1.cell? ⟨W.heap.size + 1 + 1, 2, none⟩ = some (.int .i64 0) := H1.out.fx.cell 2
  have z3 : w1.cell? ⟨W.heap.size + 1 + 1, 3, none⟩ = some (.int .i64 0) := H1.out.fx.cell 3
  have f0 := H1.out.fx.frozen 0
  have f1 := H1.out.fx.frozen 1
  have f2 := H1.out.fx.frozen 2
  have f3 := H1.out.fx.frozen 3
  cases j
  · have HE : Hid (X = (zeroSc, 1)) := Lib.hid (by rw [HX.out]; rfl)
    clear HX
    go_wp2_with fail
    refine bodyPost_ret (v := .tuple #[.agg #[.int .i64 0, .int .i64 0, .int .i64 0, .int .i64 0], .int .i64 1]) (res15 (D := W.heap.size + 1 + 1) (has_put4 H1.out.fx) rfl rfl) rfl ?_
    exact ⟨by rw [HE.out]; rfl, below_put4 H1.out.b (by omega)⟩
  · have HE : Hid (X = (progP r s, 0)) := Lib.hid (by rw [HX.out]; rfl)
    have HO2 := HOK.out rfl
    have HP2 := Lib.hid (fun w h => HPG.out w h HO2.1 (HO2.2 s List.mem_cons_self))
    clear HX HOK HPG HO2
    have x0 : w1.cell? ⟨W.heap.size, 0, none⟩ = some (.slice A r.bases.length c) := H1.out.fr.cell 0
    have x1 : w1.cell? ⟨W.heap.size, 1, none⟩ = some (.int .i64 r.factor) := H1.out.fr.cell 1
    have x2 : w1.cell? ⟨W.heap.size, 2, none⟩ = some (.int .i64 r.most) := H1.out.fr.cell 2
    have y0 : w1.cell? ⟨W.heap.size + 1, 0, none⟩ = some (.slice AC s.calls.length cc) := H1.out.fs.cell 0
    have y1 : w1.cell? ⟨W.heap.size + 1, 1, none⟩ = some (.slice AP s.parts.length cp) := H1.out.fs.cell 1
    have y2 : w1.cell? ⟨W.heap.size + 1, 2, none⟩ = some (.int .i64 s.over) := H1.out.fs.cell 2
    generalize progP r s = x at HE HP2
    unfold scv at HP2
    go_wp2_with fail
    refine (HP2.out _ H1.out.b).mono ?_
    rintro e w2 ⟨rfl, hb2⟩
    have H2 := Lib.hid (H1.out.step hb2)
    clear hb2 x0 x1 x2 y0 y1 y2 z0 z1 z2 z3 f0 f1 f2 f3 H1 HP2
    have z0 : w2.cell? ⟨W.heap.size + 1 + 1, 0, none⟩ = some (.int .i64 0) := H2.out.fx.cell 0
    have z1 : w2.cell? ⟨W.heap.size + 1 + 1, 1, none⟩ = some (.int .i64 0) := H2.out.fx.cell 1
    have z2 : w2.cell? ⟨W.heap.size + 1 + 1, 2, none⟩ = some (.int .i64 0) := H2.out.fx.cell 2
    have z3 : w2.cell? ⟨W.heap.size + 1 + 1, 3, none⟩ = some (.int .i64 0) := H2.out.fx.cell 3
    have f0 := H2.out.fx.frozen 0
    have f1 := H2.out.fx.frozen 1
    have f2 := H2.out.fx.frozen 2
    have f3 := H2.out.fx.frozen 3
    go_wp2_with fail
    refine bodyPost_ret (v := .tuple #[.agg #[.int .i64 x.elements, .int .i64 x.parts, .int .i64 x.off, .int .i64 x.total], .int .i64 0]) (res15 (D := W.heap.size + 1 + 1) (has_put4 H2.out.fx) rfl rfl) rfl ?_
    exact ⟨by rw [HE.out]; rfl, below_put4 H2.out.b (by omega)⟩
set_option maxRecDepth 100000 in
set_option maxHeartbeats 1000000 in
theorem Dvalues_any (r : Ru) (A : Option Addr) (c : Nat) (s : Sk) (AC AP : Option Addr) (cc cp : Nat) (W : World) (hr : RuR W W.heap.size r A) (hs : SkR W W.heap.size s AC AP) :
    Calls Try.prog 17 #[ruv r A c, skv s AC AP cc cp] W (RI2 (valsR r s) W) := by
  have HB : Hid (VL W ((W.alloc (.cells (ruc r A c) 24)).alloc (.cells (skc s AC AP cc cp) 28)) r A c s AC AP cc cp) := Lib.hid ⟨(below_one W _).alloc (by simp) _, (Has.new _ _ _).alloc _, has_newAt (by simp)⟩
  have HR := Lib.hid (And.intro hr hs)
  have HI := Lib.hid (fun w (h : Below W.heap.size W w) g (hg : Has w g 28 (skc s AC AP cc cp)) => Contest_any r A c [s] (some ⟨g, 0, none⟩) 1 w ((hr.below h).more h.size) (srow_one hg hg.lt ((hs.below h).more h.size)) (by simp [big]))
  have HPG := Lib.hid (fun hvr hvs w (h : Below W.heap.size W w) (k : Nat) (hk : k < s.calls.length) => dvalue_any r A c s AC AP cc cp k w ((hr.below h).more h.size) ((hs.below h).more h.size) hvr hvs hk)
  have HX : Hid (valsR r s = if contestB r [s] = true then (valsP r s, 0) else ([], 1)) := Lib.hid (valsR_ct r s)
  have HOK := Lib.hid (fun h => contest_ok (r := r) (l := [s]) h)
  obtain ⟨X, hX⟩ : ∃ X, X = valsR r s := ⟨_, rfl⟩
  obtain ⟨j, hj⟩ : ∃ j, j = contestB r [s] := ⟨_, rfl⟩
  rw [← hj] at HI HX HOK
  rw [← hX] at HX ⊢
  unfold BoolPost at HI
  unfold IntPost at HPG
  dsimp only [List.length_cons, List.length_nil] at HI HX HOK
  clear hr hs hX hj
  unfold ruv skv at *
  go_enter Try.func17, Try.ntmps17
  go_upto_region 1 with fail
  generalize (W.alloc (.cells (ruc r A c) 24)).alloc (.cells (skc s AC AP cc cp) 28) = w0 at HB ⊢
  have x0 : w0.cell? ⟨W.heap.size, 0, none⟩ = some (.slice A r.bases.length c) := HB.out.fr.cell 0
  have x1 : w0.cell? ⟨W.heap.size, 1, none⟩ = some (.int .i64 r.factor) := HB.out.fr.cell 1
  have x2 : w0.cell? ⟨W.heap.size, 2, none⟩ = some (.int .i64 r.most) := HB.out.fr.cell 2
  have y0 : w0.cell? ⟨W.heap.size + 1, 0, none⟩ = some (.slice AC s.calls.length cc) := HB.out.fs.cell 0
  have y1 : w0.cell? ⟨W.heap.size + 1, 1, none⟩ = some (.slice AP s.parts.length cp) := HB.out.fs.cell 1
  have y2 : w0.cell? ⟨W.heap.size + 1, 2, none⟩ = some (.int .i64 s.over) := HB.out.fs.cell 2
  have HB1 := Lib.hid (And.intro (HB.out.step (below_one w0 (.cells (skc s AC AP cc cp) 28))) (Has.new w0 28 (skc s AC AP cc cp)))
  go_wp2_with fail
  refine (HI.out _ HB1.out.1.b _ HB1.out.2).mono ?_
  rintro e w1 ⟨rfl, hb1⟩
  have H1 := Lib.hid (HB1.out.1.step hb1)
  clear hb1 x0 x1 x2 y0 y1 y2 HB HB1 HI
  cases j
  · have HE : Hid (X = ([], 1)) := Lib.hid (by rw [HX.out]; rfl)
    clear HX
    go_wp2_with fail
    refine bodyPost_ret (v := .tuple #[.slice none 0 0, .int .i64 1]) (by simp [results, Try.results17, go_sem]) rfl ?_
    exact ⟨none, 0, by rw [HE.out]; rfl, fun k hk => by rw [HE.out] at hk; exact absurd hk (by simp), H1.out.b⟩
  have HE : Hid (X = (valsP r s, 0)) := Lib.hid (by rw [HX.out]; rfl)
  have HO2 := HOK.out rfl
  have hnc := (HO2.2 s List.mem_cons_self).nc
  have HP2 := Lib.hid (HPG.out HO2.1 (HO2.2 s List.mem_cons_self))
  clear HX HOK HPG HO2
  obtain ⟨i0, hi, hz0, hz1, hz2⟩ : ∃ i, Try.prog.info? 3 = some i ∧ i.zero = some (.int .i64 0) ∧ i.size = 1 ∧ i.bytes = 8 := info_parts Try.info3
  have h0 := H1.out.b.size
  have hlo : W.heap.size + 1 < w1.heap.size := H1.out.fs.lt
  obtain ⟨vl, hvl⟩ : ∃ vl, vl = valsP r s := ⟨_, rfl⟩
  have HVL : Hid (vl.length = s.calls.length ∧ ∀ k (h : k < s.calls.length) (h' : k < vl.length), vl[k] = valP r s.calls s.calls[k]) := Lib.hid (by subst hvl; exact ⟨by simp [valsP], fun k h h' => by simp [valsP]⟩)
  rw [← hvl] at HE
  clear hvl
  go_wp2_with fail
  obtain ⟨D, hDl, hD1⟩ : ∃ D, W.heap.size + 1 < D ∧ D ≤ w1.heap.size := ⟨_, hlo, Nat.le_refl _⟩
  go_loopg [6, 7] s.calls.length (fun gk u i wr => ∃ k : Nat, k ≤ s.calls.length ∧ s.calls.length - k ≤ gk ∧ i = .int .i64 k ∧ ∃ U cu, u = .slice U k cu ∧ Hid (VL W wr r A c s AC AP cc cp ∧ wr.ownsRow D 3 1 (.slice U k cu) k (ivl (vl.take k)) ∧ D ≤ wr.heap.size))
  case atStart => exact ⟨0, Nat.zero_le _, Nat.le_refl _, rfl, none, 0, rfl, Lib.hid ⟨H1.out, own_nil _ _ _ _, by omega⟩⟩
  case round =>
    obtain ⟨k, hk, hgk, rfl, U, cu, rfl, HW⟩ := hrel
    clear H1
    have y0 : wr.cell? ⟨W.heap.size + 1, 0, none⟩ = some (.slice AC s.calls.length cc) := HW.out.1.fs.cell 0
    by_cases hlt : k < s.calls.length
    rotate_left
    · have hge : ¬ (k : Int) < s.calls.length := by omega
      have HKE : Hid (k = vl.length) := Lib.hid (by have := HVL.out.1; omega)
      clear hk hgk hlt
      go_wp2_with fail
      try simp only [Exit.inBlock, Exit.then]
      refine bodyPost_ret (v := .tuple #[.slice U k cu, .int .i64 0]) (by simp [results, Try.results17, go_sem]) rfl ?_
      have hw := HW.out
      have hke := HKE.out
      subst hke
      rw [List.take_length] at hw
      obtain ⟨A', cap', e', ha⟩ := own_ira hw.2.1
      cases e'
      exact ⟨_, _, by rw [HE.out], by rw [HE.out]; exact (ha none (fun _ h => by cases h)).row, hw.1.b⟩
    have hlt2 : (k : Int) < s.calls.length := by omega
    have hkv : k < vl.length := by rw [HVL.out.1]; exact hlt
    have HX : Hid (vl.take (k + 1) = vl.take k ++ [vl[k]]) := Lib.hid (List.take_succ_eq_append_getElem hkv)
    have HP3 := Lib.hid (HP2.out _ HW.out.1.b k hlt)
    rw [← HVL.out.2 k hlt hkv] at HP3
    generalize vl[k] = x at HX HP3
    have r0 : wr.cell? ⟨W.heap.size, 0, none⟩ = some (.slice A r.bases.length c) := HW.out.1.fr.cell 0
    have r1 : wr.cell? ⟨W.heap.size, 1, none⟩ = some (.int .i64 r.factor) := HW.out.1.fr.cell 1
    have r2 : wr.cell? ⟨W.heap.size, 2, none⟩ = some (.int .i64 r.most) := HW.out.1.fr.cell 2
    have y1 : wr.cell? ⟨W.heap.size + 1, 1, none⟩ = some (.slice AP s.parts.length cp) := HW.out.1.fs.cell 1
    have y2 : wr.cell? ⟨W.heap.size + 1, 2, none⟩ = some (.int .i64 s.over) := HW.out.1.fs.cell 2
    clear hkv HVL HP2
    go_wp2_with fail
    refine HP3.out.mono ?_
    rintro e w4 ⟨rfl, hb4⟩
    have HOW : Hid ((w4.alloc (.cells #[.int .i64 x] 3)).ownsRow D 3 1 (.slice U k cu) k (ivl (vl.take k))) := Lib.hid (own_step (own_step HW.out.2.1 hb4) (below_one _ _))
    have HNEW : Hid (∀ j u, (ivl [x])[j]? = some u → (w4.alloc (.cells #[.int .i64 x] 3)).cell? ((⟨w4.heap.size, 0, none⟩ : Addr).add j) = some u) := Lib.hid fun j u hu => by
      have hj : j < 1 := by have := (List.getElem?_eq_some_iff.1 hu).1; simpa [ivl] using this
      obtain rfl : j = 0 := by omega
      rw [addr_add, (Has.new w4 3 #[.int .i64 x]).cell]
      simpa [ivl] using hu
    have H4 := Lib.hid (And.intro (HW.out.1.step hb4) (Nat.le_trans HW.out.2.2 hb4.size))
    clear hb4 r0 r1 r2 y0 y1 y2 HP3 HW
    go_wp2_with (at_builtin; refine wpList_append_lies _ rfl _ _ 22 rfl D 3 i0 (.int .i64 0) 1 8 Try.underlying22 hi hz0 hz1 hz2 rfl (by decide) (.slice U k cu) k (ivl (vl.take k)) rfl HOW.out ⟨w4.heap.size, 0, none⟩ 1 1 (ivl [x]) rfl ?q1 HNEW.out (ivl_one _) ?q2 ?q3 ?q4 ?q5 _ rfl ?_)
    case q1 => rfl
    case q2 => omega
    case q3 => unfold maxLen; omega
    case q4 => omega
    case q5 => have := H4.out.2; simp; omega
    rintro g1 cap1 w5 hown1 hgr1 hgg1 hlt1
    have hb5 : Below D (w4.alloc (.cells #[.int .i64 x] 3)) w5 := grown_step hgr1 (by have := H4.out.2; simp; omega) (fun b hb => (own_block HOW.out b hb).1)
    have H5 := Lib.hid (show VL W w5 r A c s AC AP cc cp ∧ w5.ownsRow D 3 1 (.slice (some ⟨g1, 0, none⟩) (k + 1) cap1) (k + 1) (ivl (vl.take (k + 1))) ∧ D ≤ w5.heap.size from by
      have h2 : Below D w4 w5 := ((below_one _ _).mono H4.out.2).trans hb5
      refine ⟨⟨H4.out.1.b.trans (h2.mono (by omega)), H4.out.1.fr.below h2 (by omega), H4.out.1.fs.below h2 (by omega)⟩, ?_, by have := h2.size; have := H4.out.2; omega⟩
      rw [HX.out, show ivl (vl.take k ++ [x]) = ivl (vl.take k) ++ ivl [x] by simp [ivl]]
      exact hown1)
    clear hb5 hown1 hgr1 hgg1 hlt1 HOW HNEW H4 HX
    go_wp2_with fail
    go_roundg (s.calls.length - (k + 1))
    case measure => omega
    case rel => exact ⟨k + 1, by omega, Nat.le_refl _, by go_num, some ⟨g1, 0, none⟩, cap1, rfl, H5⟩
end Go.Proofs.Ytmclchaalmonnaa
