/- Contracts: Program, Values. -/
import Derived.Test.YtmclchaalmonnaaScO
namespace Go.Proofs.Ytmclchaalmonnaa
open Go.RowKit
theorem callsB_spec {r : Ru} {n : Int} : ∀ {l seen : List Cl}, callsB r n seen l = true → (∀ c ∈ l, clB r c n = true) ∧ (∀ c ∈ l, ∀ d ∈ seen, d.place ≠ c.place) ∧ (l.map (·.place)).Nodup
  | [], _, _ => by simp
  | c :: l, seen, h => by
    simp only [callsB, Bool.and_eq_true, Bool.not_eq_true', List.any_eq_false, decide_eq_true_eq] at h
    obtain ⟨h1, h2, h3⟩ := h
    obtain ⟨i1, i2, i3⟩ := callsB_spec h3
    refine ⟨?_, ?_, ?_⟩
    · intro d hd
      rcases List.mem_cons.1 hd with rfl | hd
      · exact h1
      · exact i1 d hd
    · intro d hd x hx
      rcases List.mem_cons.1 hd with rfl | hd
      · exact h2 x hx
      · exact i2 d hd x (List.mem_cons_of_mem _ hx)
    · rw [List.map_cons, List.nodup_cons]
      refine ⟨fun hm => ?_, i3⟩
      obtain ⟨d, hd, he⟩ := List.mem_map.1 hm
      exact i2 d hd c List.mem_cons_self he.symm
theorem judges_some {l : List Sk} {s : Sk} (hs : s ∈ l) (h : s.calls ≠ [] ∨ s.parts ≠ []) : ∃ n, judgesP l = some n := by
  induction l with
  | nil => cases hs
  | cons a l ih =>
    unfold judgesP
    cases h1 : a.calls with
    | cons c t => exact ⟨_, rfl⟩
    | nil =>
      cases h2 : a.parts with
      | cons c t => exact ⟨_, rfl⟩
      | nil =>
        rcases List.mem_cons.1 hs with rfl | hs
        · rcases h with h | h
          · exact absurd h1 h
          · exact absurd h2 h
        · exact ih hs
theorem allB_spec {l : List Int} {lo hi : Int} (h : allB l lo hi = true) : ∀ x ∈ l, lo ≤ x ∧ x ≤ hi := by
  intro x hx
  have := List.all_eq_true.1 h x hx
  simpa [inB] using this
theorem ruB_spec {r : Ru} (h : ruB r = true) : VR r := by
  simp only [ruB, inB, Bool.and_eq_true, decide_eq_true_eq] at h
  obtain ⟨h1, h2, h3, h4⟩ := h
  exact ⟨by omega, allB_spec h2, h3, h4⟩
theorem contest_ok {r : Ru} {l : List Sk} (h : contestB r l = true) : VR r ∧ ∀ s ∈ l, VS r s := by
  simp only [contestB, Bool.and_eq_true] at h
  obtain ⟨h1, h2, h3⟩ := h
  refine ⟨ruB_spec h1, fun s hs => ?_⟩
  have h4 := List.all_eq_true.1 h3 s hs
  simp only [skB, inB, Bool.and_eq_true, decide_eq_true_eq] at h4
  obtain ⟨a1, a2, a3, a4, a5⟩ := h4
  have hn : (s.calls ≠ [] ∨ s.parts ≠ []) → 1 ≤ nP l ∧ nP l ≤ 9 := fun hc => by
    obtain ⟨n, hn⟩ := judges_some hs hc
    unfold panelB at h2
    unfold nP
    rw [hn] at h2 ⊢
    simp [inB] at h2
    simp
    omega
  obtain ⟨c1, -, c3⟩ := callsB_spec a4
  refine ⟨a1, a2, a3, fun c hc => ?_, c3, fun m hm => ?_⟩
  · have h5 := c1 c hc
    simp only [clB, inB, Bool.and_eq_true, decide_eq_true_eq] at h5
    obtain ⟨b1, b2, b3, b4, b5⟩ := h5
    have := hn (.inl (by intro e; rw [e] at hc; cases hc))
    exact ⟨⟨b3, by omega, by omega, allB_spec b5⟩, by omega, b1⟩
  · have h5 := List.all_eq_true.1 a5 m hm
    simp only [Bool.and_eq_true, decide_eq_true_eq] at h5
    have := hn (.inr (by intro e; rw [e] at hm; cases hm))
    exact ⟨by omega, by omega, allB_spec h5.2⟩
theorem insp_ok {r : Ru} {l : List Sk} (h : (inspP r l).2 = 0) : VR r ∧ (∀ s ∈ l, VS r s) ∧ l.length ≤ 40 ∧ inspP r l = ((nP l : Int), 0) := by
  unfold inspP at h
  split at h
  · cases h
  · rename_i h40
    split at h
    · rename_i hc
      have := contest_ok hc
      exact ⟨this.1, this.2, by omega, by unfold inspP; rw [if_neg h40, if_pos hc]⟩
    · cases h
theorem srow_one {w : World} {g B : Nat} {s : Sk} {AC AP : Option Addr} {cc cp : Nat} (h : Has w g 28 (skc s AC AP cc cp)) (hg : g < B) (hs : SkR w B s AC AP) : SRow w B (some ⟨g, 0, none⟩) [s] := fun k hk => by
  have : k = 0 := by simpa using hk
  subst this
  exact ⟨g, 0, AC, AP, cc, cp, rfl, hg, fun j _ => by rw [h.cell]; simp, hs⟩
/-- a score and an errno -/
def SEPost (r : Sc × Int) (W : World) (e : Ending) (W' : World) : Prop := e = .returned (.tuple #[scv r.1, .int .i64 r.2]) ∧ Below W.heap.size W W'
theorem res14 {w : World} {D : Nat} {a b c d r : Value} {tmps : Array Value} (h : Has w D 33 #[a, b, c, d]) (h4 : tmps[4]?.getD undef = .pointer (some ⟨D, 0, none⟩)) (h5 : tmps[5]?.getD undef = r) :
    (results Try.f14 tmps).run Try.prog w = .ok (.tuple #[.agg #[a, b, c, d], r]) w := by
  have c0 := h.cell 0; have c1 := h.cell 1; have c2 := h.cell 2; have c3 := h.cell 3
  simp at c0 c1 c2 c3
  simp [results, Try.results14, go_sem, h4, h5, c0, c1, c2, c3]
set_option maxRecDepth 100000 in
set_option maxHeartbeats 1000000 in
theorem Program_any (r : Ru) (A : Option Addr) (c : Nat) (s : Sk) (AC AP : Option Addr) (cc cp : Nat) (W : World) (hr : RuR W W.heap.size r A) (hs : SkR W W.heap.size s AC AP) :
    Calls Try.prog 14 #[ruv r A c, skv s AC AP cc cp] W (SEPost (progR r s) W) := by
  have HB : Hid (PW W (((W.alloc (.cells (ruc r A c) 24)).alloc (.cells (skc s AC AP cc cp) 28)).alloc (.cells (scc zeroSc) 33)) r A c s AC AP cc cp zeroSc) :=
    Lib.hid ⟨((below_one W _).alloc (by simp) _).alloc (by simp; omega) _, ((Has.new _ _ _).alloc _).alloc _, (has_newAt (by simp)).alloc _, has_newAt (by simp)⟩
  have HR := Lib.hid (And.intro hr hs)
  have HI := Lib.hid (fun w (h : Below W.heap.size W w) g (hg : Has w g 28 (skc s AC AP cc cp)) => inspect_any r A c [s] (some ⟨g, 0, none⟩) 1 w ((hr.below h).more h.size) (srow_one hg hg.lt ((hs.below h).more h.size)) (by simp [big]))
  have HPG := Lib.hid (fun w (h : Below W.heap.size W w) hvr hvs => program_any r A c s AC AP cc cp w ((hr.below h).more h.size) ((hs.below h).more h.size) hvr hvs)
  have HX : Hid (progR r s = if (inspP r [s]).2 ≠ 0 then (zeroSc, (inspP r [s]).2) else (progP r s, 0)) := Lib.hid rfl
  have HOK := Lib.hid (fun h => insp_ok (r := r) (l := [s]) h)
  obtain ⟨X, hX⟩ : ∃ X, X = progR r s := ⟨_, rfl⟩
  obtain ⟨j, hj⟩ : ∃ j, j = inspP r [s] := ⟨_, rfl⟩
  rw [← hj] at HI HX HOK
  rw [← hX] at HX ⊢
  obtain ⟨jn, je⟩ := j
  unfold IEPost at HI
  unfold ScPost at HPG
  dsimp only [List.length_cons, List.length_nil] at HI HX HOK
  clear hr hs hX hj
  unfold ruv skv at *
  go_enter Try.func14, Try.ntmps14
  go_upto_region 1 with fail
  have HB' : Hid (PW W (((W.alloc (.cells (ruc r A c) 24)).alloc (.cells (skc s AC AP cc cp) 28)).alloc (.cells #[.int .i64 0, .int .i64 0, .int .i64 0, .int .i64 0] 33)) r A c s AC AP cc cp zeroSc) := HB
  clear HB
  generalize ((W.alloc (.cells (ruc r A c) 24)).alloc (.cells (skc s AC AP cc cp) 28)).alloc (.cells #[.int .i64 0, .int .i64 0, .int .i64 0, .int .i64 0] 33) = w0 at HB' ⊢
  have x0 : w0.cell? ⟨W.heap.size, 0, none⟩ = some (.slice A r.bases.length c) := HB'.out.fr.cell 0
  have x1 : w0.cell? ⟨W.heap.size, 1, none⟩ = some (.int .i64 r.factor) := HB'.out.fr.cell 1
  have x2 : w0.cell? ⟨W.heap.size, 2, none⟩ = some (.int .i64 r.most) := HB'.out.fr.cell 2
  have y0 : w0.cell? ⟨W.heap.size + 1, 0, none⟩ = some (.slice AC s.calls.length cc) := HB'.out.fs.cell 0
  have y1 : w0.cell? ⟨W.heap.size + 1, 1, none⟩ = some (.slice AP s.parts.length cp) := HB'.out.fs.cell 1
  have y2 : w0.cell? ⟨W.heap.size + 1, 2, none⟩ = some (.int .i64 s.over) := HB'.out.fs.cell 2
  have HB1 := Lib.hid (And.intro (HB'.out.step (below_one w0 (.cells (skc s AC AP cc cp) 28))) (Has.new w0 28 (skc s AC AP cc cp)))
  go_wp2_with fail
  refine (HI.out _ HB1.out.1.b _ HB1.out.2).mono ?_
  rintro e w1 ⟨rfl, hb1⟩
  have H1 := Lib.hid (HB1.out.1.step hb1)
  clear hb1 x0 x1 x2 y0 y1 y2 HB' HB1 HI
  have z0 : w1.cell? ⟨W.heap.size + 1 + 1, 0, none⟩ = some (.int .i64 0) := H1.out.fx.cell 0
  have z1 : w1.cell? ⟨W.heap.size + 1 + 1, 1, none⟩ = some (.int .i64 0) := H1.out.fx.cell 1
  have z2 : w1.cell? ⟨W.heap.size + 1 + 1, 2, none⟩ = some (.int .i64 0) := H1.out.fx.cell 2
  have z3 : w1.cell? ⟨W.heap.size + 1 + 1, 3, none⟩ = some (.int .i64 0) := H1.out.fx.cell 3
  have f0 := H1.out.fx.frozen 0
  have f1 := H1.out.fx.frozen 1
  have f2 := H1.out.fx.frozen 2
  have f3 := H1.out.fx.frozen 3
  by_cases hje : je = 0
  rotate_left
  · have hq : (je == 0) = false := by simpa using hje
    have hq' : (je != 0) = true := by simpa using hje
    have HE : Hid (X = (zeroSc, je)) := Lib.hid (by rw [HX.out, if_pos hje])
    clear hje HX
    go_wp2_with fail
    refine bodyPost_ret (v := .tuple #[.agg #[.int .i64 0, .int .i64 0, .int .i64 0, .int .i64 0], .int .i64 je]) (res14 (D := W.heap.size + 1 + 1) (has_put4 H1.out.fx) rfl rfl) rfl ?_
    exact ⟨by rw [HE.out]; rfl, below_put4 H1.out.b (by omega)⟩
  · subst hje
    have HE : Hid (X = (progP r s, 0)) := Lib.hid (by rw [HX.out]; rfl)
    have HO2 := HOK.out rfl
    have HP2 := Lib.hid (fun w h => HPG.out w h HO2.1 (HO2.2.1 s List.mem_cons_self))
    clear HX HOK HPG HO2
    have x0 : w1.cell? ⟨W.heap.size, 0, none⟩ = some (.slice A r.bases.length c) := H1.out.fr.cell 0
    have x1 : w1.cell? ⟨W.heap.size, 1, none⟩ = some (.int .i64 r.factor) := H1.out.fr.cell 1
    have x2 : w1.cell? ⟨W.heap.size, 2, none⟩ = some (.int .i64 r.most) := H1.out.fr.cell 2
    have y0 : w1.cell? ⟨W.heap.size + 1, 0, none⟩ = some (.slice AC s.calls.length cc) := H1.out.fs.cell 0
    have y1 : w1.cell? ⟨W.heap.size + 1, 1, none⟩ = some (.slice AP s.parts.length cp) := H1.out.fs.cell 1
    have y2 : w1.cell? ⟨W.heap.size + 1, 2, none⟩ = some (.int .i64 s.over) := H1.out.fs.cell 2
    generalize progP r s = x at HE HP2
    unfold scv at HP2
    go_wp2_with fail
    refine (HP2.out _ H1.out.b).mono ?_
    rintro e w2 ⟨rfl, hb2⟩
    have H2 := Lib.hid (H1.out.step hb2)
    clear hb2 x0 x1 x2 y0 y1 y2 z0 z1 z2 z3 f0 f1 f2 f3 H1 HP2
    have z0 : w2.cell? ⟨W.heap.size + 1 + 1, 0, none⟩ = some (.int .i64 0) := H2.out.fx.cell 0
    have z1 : w2.cell? ⟨W.heap.size + 1 + 1, 1, none⟩ = some (.int .i64 0) := H2.out.fx.cell 1
    have z2 : w2.cell? ⟨W.heap.size + 1 + 1, 2, none⟩ = some (.int .i64 0) := H2.out.fx.cell 2
    have z3 : w2.cell? ⟨W.heap.size + 1 + 1, 3, none⟩ = some (.int .i64 0) := H2.out.fx.cell 3
    have f0 := H2.out.fx.frozen 0
    have f1 := H2.out.fx.frozen 1
    have f2 := H2.out.fx.frozen 2
    have f3 := H2.out.fx.frozen 3
    go_wp2_with fail
    refine bodyPost_ret (v := .tuple #[.agg #[.int .i64 x.elements, .int .i64 x.parts, .int .i64 x.off, .int .i64 x.total], .int .i64 0]) (res14 (D := W.heap.size + 1 + 1) (has_put4 H2.out.fx) rfl rfl) rfl ?_
    exact ⟨by rw [HE.out]; rfl, below_put4 H2.out.b (by omega)⟩
/-- a new row and an errno; with an error: nil -/
def RIPost (r : List Int × Int) (W : World) (e : Ending) (W' : World) : Prop := ∃ A c, e = .returned (.tuple #[.slice A r.1.length c, .int .i64 r.2]) ∧ (∀ k (h : k < r.1.length), ∃ g o, A = some ⟨g, o, none⟩ ∧ W.heap.size ≤ g ∧ g < W'.heap.size ∧ W'.cell? ⟨g, o + k, none⟩ = some (.int .i64 r.1[k])) ∧ (∀ g o, A = some ⟨g, o, none⟩ → W.heap.size ≤ g ∧ o = 0 ∧ Has W' g 3 (ils r.1)) ∧ Below W.heap.size W W'
set_option maxRecDepth 100000 in
set_option maxHeartbeats 1000000 in
theorem Values_any (r : Ru) (A : Option Addr) (c : Nat) (s : Sk) (AC AP : Option Addr) (cc cp : Nat) (W : World) (hr : RuR W W.heap.size r A) (hs : SkR W W.heap.size s AC AP) :
    Calls Try.prog 16 #[ruv r A c, skv s AC AP cc cp] W (RIPost (valsR r s) W) := by
  have HB : Hid (VL W ((W.alloc (.cells (ruc r A c) 24)).alloc (.cells (skc s AC AP cc cp) 28)) r A c s AC AP cc cp) := Lib.hid ⟨(below_one W _).alloc (by simp) _, (Has.new _ _ _).alloc _, has_newAt (by simp)⟩
  have HR := Lib.hid (And.intro hr hs)
  have HI := Lib.hid (fun w (h : Below W.heap.size W w) g (hg : Has w g 28 (skc s AC AP cc cp)) => inspect_any r A c [s] (some ⟨g, 0, none⟩) 1 w ((hr.below h).more h.size) (srow_one hg hg.lt ((hs.below h).more h.size)) (by simp [big]))
  have HPG := Lib.hid (fun w (h : Below W.heap.size W w) hvr hvs => values_any r A c s AC AP cc cp w ((hr.below h).more h.size) ((hs.below h).more h.size) hvr hvs)
  have HX : Hid (valsR r s = if (inspP r [s]).2 ≠ 0 then ([], (inspP r [s]).2) else (valsP r s, 0)) := Lib.hid rfl
  have HOK := Lib.hid (fun h => insp_ok (r := r) (l := [s]) h)
  obtain ⟨X, hX⟩ : ∃ X, X = valsR r s := ⟨_, rfl⟩
  obtain ⟨j, hj⟩ : ∃ j, j = inspP r [s] := ⟨_, rfl⟩
  rw [← hj] at HI HX HOK
  rw [← hX] at HX ⊢
  obtain ⟨jn, je⟩ := j
  unfold IEPost at HI
  unfold RowPost at HPG
  dsimp only [List.length_cons, List.length_nil] at HI HX HOK
  clear hr hs hX hj
  unfold ruv skv at *
  go_enter Try.func16, Try.ntmps16
  go_upto_region 1 with fail
  generalize (W.alloc (.cells (ruc r A c) 24)).alloc (.cells (skc s AC AP cc cp) 28) = w0 at HB ⊢
  have x0 : w0.cell? ⟨W.heap.size, 0, none⟩ = some (.slice A r.bases.length c) := HB.out.fr.cell 0
  have x1 : w0.cell? ⟨W.heap.size, 1, none⟩ = some (.int .i64 r.factor) := HB.out.fr.cell 1
  have x2 : w0.cell? ⟨W.heap.size, 2, none⟩ = some (.int .i64 r.most) := HB.out.fr.cell 2
  have y0 : w0.cell? ⟨W.heap.size + 1, 0, none⟩ = some (.slice AC s.calls.length cc) := HB.out.fs.cell 0
  have y1 : w0.cell? ⟨W.heap.size + 1, 1, none⟩ = some (.slice AP s.parts.length cp) := HB.out.fs.cell 1
  have y2 : w0.cell? ⟨W.heap.size + 1, 2, none⟩ = some (.int .i64 s.over) := HB.out.fs.cell 2
  have HB1 := Lib.hid (And.intro (HB.out.step (below_one w0 (.cells (skc s AC AP cc cp) 28))) (Has.new w0 28 (skc s AC AP cc cp)))
  go_wp2_with fail
  refine (HI.out _ HB1.out.1.b _ HB1.out.2).mono ?_
  rintro e w1 ⟨rfl, hb1⟩
  have H1 := Lib.hid (HB1.out.1.step hb1)
  clear hb1 x0 x1 x2 y0 y1 y2 HB HB1 HI
  by_cases hje : je = 0
  rotate_left
  · have hq : (je == 0) = false := by simpa using hje
    have hq' : (je != 0) = true := by simpa using hje
    have HE : Hid (X = ([], je)) := Lib.hid (by rw [HX.out, if_pos hje])
    clear hje HX
    go_wp2_with fail
    refine bodyPost_ret (v := .tuple #[.slice none 0 0, .int .i64 je]) (by simp [results, Try.results16, go_sem]) rfl ?_
    exact ⟨none, 0, by rw [HE.out]; rfl, fun k hk => by rw [HE.out] at hk; exact absurd hk (by simp), fun g o h => (by cases h), H1.out.b⟩
  · subst hje
    have HE : Hid (X = (valsP r s, 0)) := Lib.hid (by rw [HX.out]; rfl)
    have HO2 := HOK.out rfl
    have HP2 := Lib.hid (fun w h => HPG.out w h HO2.1 (HO2.2.1 s List.mem_cons_self))
    clear HX HOK HPG HO2
    have x0 : w1.cell? ⟨W.heap.size, 0, none⟩ = some (.slice A r.bases.length c) := H1.out.fr.cell 0
    have x1 : w1.cell? ⟨W.heap.size, 1, none⟩ = some (.int .i64 r.factor) := H1.out.fr.cell 1
    have x2 : w1.cell? ⟨W.heap.size, 2, none⟩ = some (.int .i64 r.most) := H1.out.fr.cell 2
    have y0 : w1.cell? ⟨W.heap.size + 1, 0, none⟩ = some (.slice AC s.calls.length cc) := H1.out.fs.cell 0
    have y1 : w1.cell? ⟨W.heap.size + 1, 1, none⟩ = some (.slice AP s.parts.length cp) := H1.out.fs.cell 1
    have y2 : w1.cell? ⟨W.heap.size + 1, 2, none⟩ = some (.int .i64 s.over) := H1.out.fs.cell 2
    generalize valsP r s = x at HE HP2
    go_wp2_with fail
    refine (HP2.out _ H1.out.b).mono ?_
    rintro e w2 ⟨g, hg, rfl, hh, hb2⟩
    have H2 := Lib.hid (And.intro (H1.out.step hb2) (And.intro hg (And.intro hh H1.out.b.size)))
    clear hb2 hg hh x0 x1 x2 y0 y1 y2 H1 HP2
    go_wp2_with fail
    refine bodyPost_ret (v := .tuple #[.slice (some ⟨g, 0, none⟩) x.length x.length, .int .i64 0]) (by simp [results, Try.results16, go_sem]) rfl ?_
    refine ⟨some ⟨g, 0, none⟩, x.length, by rw [HE.out], fun k hk => ?_, fun g' o' h => ?_, H2.out.1.b⟩
    · have hk' : k < x.length := by rw [HE.out] at hk; exact hk
      refine ⟨g, 0, rfl, Nat.le_trans H2.out.2.2.2 H2.out.2.1, H2.out.2.2.1.lt, ?_⟩
      rw [H2.out.2.2.1.cell, Nat.zero_add, ils_at hk']
      congr 2
      simp [HE.out]
    · cases h
      exact ⟨Nat.le_trans H2.out.2.2.2 H2.out.2.1, rfl, by rw [HE.out]; exact H2.out.2.2.1⟩
end Go.Proofs.Ytmclchaalmonnaa
