/- The law of what Program and Values answer. -/
import Derived.Test.YtmclchaalmonnaaGrA
import Derived.Test.YtmclchaalmonnaaRfF
namespace Go.Proofs.Ytmclchaalmonnaa
open Go.RowKit Go.Lib
theorem vals_len (r : Ru) (s : Sk) : (valsR r s).1.length ≤ s.calls.length := by
  unfold valsR valsP
  split <;> simp
theorem rip_ri2 {r : List Int × Int} {W W' : World} {e : Ending} (h : RIPost r W e W') : RI2 r W e W' := by
  obtain ⟨A, c, rfl, h1, -, h3⟩ := h
  exact ⟨A, c, rfl, fun k hk => by obtain ⟨g, o, e, -, hg, hc⟩ := h1 k hk; exact ⟨g, o, e, hg, hc⟩, h3⟩
set_option maxRecDepth 100000 in
set_option maxHeartbeats 4000000 in
theorem valuesLaw_any (r : Ru) (A : Option Addr) (c : Nat) (s : Sk) (AC AP : Option Addr) (cc cp : Nat) (W : World) (hr : RuR W W.heap.size r A) (hs : SkR W W.heap.size s AC AP) :
    Calls Try.prog 3 #[ruv r A c, skv s AC AP cc cp] W (BoolPost true W) := by
  have HB : Hid (VL W ((W.alloc (.cells (ruc r A c) 24)).alloc (.cells (skc s AC AP cc cp) 28)) r A c s AC AP cc cp) := Lib.hid ⟨(below_one W _).alloc (by simp) _, (Has.new _ _ _).alloc _, has_newAt (by simp)⟩
  have HG := Lib.hid (fun w (h : Below W.heap.size W w) g (hg : Has w g 28 (skc s AC AP cc cp)) => great_any [s] (some ⟨g, 0, none⟩) 1 1 w (by omega) (srow_one hg hg.lt ((hs.below h).more h.size)) (by simp [big]))
  have HAw := Lib.hid (fun w => alive_any w)
  have HP := Lib.hid (fun w (h : Below W.heap.size W w) => Program_any r A c s AC AP cc cp w ((hr.below h).more h.size) ((hs.below h).more h.size))
  have HD := Lib.hid (fun w (h : Below W.heap.size W w) => Dprogram_any r A c s AC AP cc cp w ((hr.below h).more h.size) ((hs.below h).more h.size))
  have HV := Lib.hid (fun w (h : Below W.heap.size W w) => (Values_any r A c s AC AP cc cp w ((hr.below h).more h.size) ((hs.below h).more h.size)).mono fun _ _ h => rip_ri2 h)
  have HU := Lib.hid (fun w (h : Below W.heap.size W w) => Dvalues_any r A c s AC AP cc cp w ((hr.below h).more h.size) ((hs.below h).more h.size))
  have hvl := vals_len r s
  have HSM : Hid (greatB [s] 1 = false → s.calls.length ≤ 24) := Lib.hid fun h => ((not_great h).2 s List.mem_cons_self).c
  have hrl := hr.l
  unfold big at hrl
  obtain ⟨X, hX⟩ : ∃ X, X = progR r s := ⟨_, rfl⟩
  obtain ⟨Y, hY⟩ : ∃ X, X = valsR r s := ⟨_, rfl⟩
  rw [← hX] at HP HD
  rw [← hY] at HV HU hvl
  obtain ⟨x, xe⟩ := X
  obtain ⟨l, ye⟩ := Y
  generalize greatB [s] 1 = G at HG HSM
  unfold BoolPost at HG HAw
  unfold SEPost at HP HD
  unfold RI2 at HV HU
  dsimp only [List.length_cons, List.length_nil] at HG HP HD HV HU hvl
  unfold scv at HP HD
  clear hr hs hX hY
  unfold ruv skv at *
  go_enter Try.func3, Try.ntmps3
  go_upto_region 1 with fail
  generalize (W.alloc (.cells (ruc r A c) 24)).alloc (.cells (skc s AC AP cc cp) 28) = w0 at HB ⊢
  have x0 : w0.cell? ⟨W.heap.size, 0, none⟩ = some (.slice A r.bases.length c) := HB.out.fr.cell 0
  have x1 : w0.cell? ⟨W.heap.size, 1, none⟩ = some (.int .i64 r.factor) := HB.out.fr.cell 1
  have x2 : w0.cell? ⟨W.heap.size, 2, none⟩ = some (.int .i64 r.most) := HB.out.fr.cell 2
  have y0 : w0.cell? ⟨W.heap.size + 1, 0, none⟩ = some (.slice AC s.calls.length cc) := HB.out.fs.cell 0
  have y1 : w0.cell? ⟨W.heap.size + 1, 1, none⟩ = some (.slice AP s.parts.length cp) := HB.out.fs.cell 1
  have y2 : w0.cell? ⟨W.heap.size + 1, 2, none⟩ = some (.int .i64 s.over) := HB.out.fs.cell 2
  by_cases h80 : (80 : Int) < r.bases.length
  · go_wp2_with fail
    refine (HAw.out _).mono ?_
    rintro e w1 ⟨rfl, hb1⟩
    have H1 := Lib.hid (HB.out.step hb1)
    clear hb1
    go_wp2_with fail
    go_ret
    exact ⟨rfl, H1.out.b⟩
  have HB1 := Lib.hid (And.intro (HB.out.step (below_one w0 (.cells (skc s AC AP cc cp) 28))) (Has.new w0 28 (skc s AC AP cc cp)))
  go_wp2_with fail
  refine (HG.out _ HB1.out.1.b _ HB1.out.2).mono ?_
  rintro e w1 ⟨rfl, hb1⟩
  have H1 := Lib.hid (HB1.out.1.step hb1)
  clear hb1 x0 x1 x2 y0 y1 y2 HB HB1 HG h80
  cases G
  rotate_left
  · clear HP HD HV HU HSM
    go_wp2_with fail
    refine (HAw.out _).mono ?_
    rintro e w2 ⟨rfl, hb1⟩
    have H2 := Lib.hid (H1.out.step hb1)
    clear hb1
    go_wp2_with fail
    go_ret
    exact ⟨rfl, H2.out.b⟩
  have hl24 := HSM.out rfl
  have HI := Lib.hid (fun A A' c d w h h' => ints_any l l A A' c d w h h' (by omega))
  rw [show decide (l = l) = true by simp] at HI
  unfold BoolPost at HI
  clear hvl hl24 HSM
  have x0 : w1.cell? ⟨W.heap.size, 0, none⟩ = some (.slice A r.bases.length c) := H1.out.fr.cell 0
  have x1 : w1.cell? ⟨W.heap.size, 1, none⟩ = some (.int .i64 r.factor) := H1.out.fr.cell 1
  have x2 : w1.cell? ⟨W.heap.size, 2, none⟩ = some (.int .i64 r.most) := H1.out.fr.cell 2
  have y0 : w1.cell? ⟨W.heap.size + 1, 0, none⟩ = some (.slice AC s.calls.length cc) := H1.out.fs.cell 0
  have y1 : w1.cell? ⟨W.heap.size + 1, 1, none⟩ = some (.slice AP s.parts.length cp) := H1.out.fs.cell 1
  have y2 : w1.cell? ⟨W.heap.size + 1, 2, none⟩ = some (.int .i64 s.over) := H1.out.fs.cell 2
  go_wp2_with fail
  refine (HP.out _ H1.out.b).mono ?_
  rintro e w2 ⟨rfl, hb2⟩
  have H2 : Hid (VL W (w2.alloc (.cells #[.int .i64 x.elements, .int .i64 x.parts, .int .i64 x.off, .int .i64 x.total] 33)) r A c s AC AP cc cp ∧ Has (w2.alloc (.cells #[.int .i64 x.elements, .int .i64 x.parts, .int .i64 x.off, .int .i64 x.total] 33)) w2.heap.size 33 #[.int .i64 x.elements, .int .i64 x.parts, .int .i64 x.off, .int .i64 x.total]) := Lib.hid ⟨(H1.out.step hb2).step (below_one _ _), Has.new _ _ _⟩
  clear hb2 x0 x1 x2 y0 y1 y2 H1 HP
  go_upto_region 4 with fail
  generalize w2.alloc (.cells #[.int .i64 x.elements, .int .i64 x.parts, .int .i64 x.off, .int .i64 x.total] 33) = w3 at H2 ⊢
  generalize w2.heap.size = D at H2 ⊢
  have x0 : w3.cell? ⟨W.heap.size, 0, none⟩ = some (.slice A r.bases.length c) := H2.out.1.fr.cell 0
  have x1 : w3.cell? ⟨W.heap.size, 1, none⟩ = some (.int .i64 r.factor) := H2.out.1.fr.cell 1
  have x2 : w3.cell? ⟨W.heap.size, 2, none⟩ = some (.int .i64 r.most) := H2.out.1.fr.cell 2
  have y0 : w3.cell? ⟨W.heap.size + 1, 0, none⟩ = some (.slice AC s.calls.length cc) := H2.out.1.fs.cell 0
  have y1 : w3.cell? ⟨W.heap.size + 1, 1, none⟩ = some (.slice AP s.parts.length cp) := H2.out.1.fs.cell 1
  have y2 : w3.cell? ⟨W.heap.size + 1, 2, none⟩ = some (.int .i64 s.over) := H2.out.1.fs.cell 2
  go_wp2_with fail
  refine (HD.out _ H2.out.1.b).mono ?_
  rintro e w4 ⟨rfl, hb4⟩
  have H4 : Hid (VL W (w4.alloc (.cells #[.int .i64 x.elements, .int .i64 x.parts, .int .i64 x.off, .int .i64 x.total] 33)) r A c s AC AP cc cp ∧ Has (w4.alloc (.cells #[.int .i64 x.elements, .int .i64 x.parts, .int .i64 x.off, .int .i64 x.total] 33)) D 33 #[.int .i64 x.elements, .int .i64 x.parts, .int .i64 x.off, .int .i64 x.total] ∧ Has (w4.alloc (.cells #[.int .i64 x.elements, .int .i64 x.parts, .int .i64 x.off, .int .i64 x.total] 33)) w4.heap.size 33 #[.int .i64 x.elements, .int .i64 x.parts, .int .i64 x.off, .int .i64 x.total]) := Lib.hid ⟨(H2.out.1.step hb4).step (below_one _ _), (H2.out.2.below hb4 H2.out.2.lt).alloc _, Has.new _ _ _⟩
  clear hb4 x0 x1 x2 y0 y1 y2 H2 HD
  go_upto_region 5 with fail
  generalize w4.alloc (.cells #[.int .i64 x.elements, .int .i64 x.parts, .int .i64 x.off, .int .i64 x.total] 33) = w5 at H4 ⊢
  generalize w4.heap.size = E at H4 ⊢
  have x0 : w5.cell? ⟨W.heap.size, 0, none⟩ = some (.slice A r.bases.length c) := H4.out.1.fr.cell 0
  have x1 : w5.cell? ⟨W.heap.size, 1, none⟩ = some (.int .i64 r.factor) := H4.out.1.fr.cell 1
  have x2 : w5.cell? ⟨W.heap.size, 2, none⟩ = some (.int .i64 r.most) := H4.out.1.fr.cell 2
  have y0 : w5.cell? ⟨W.heap.size + 1, 0, none⟩ = some (.slice AC s.calls.length cc) := H4.out.1.fs.cell 0
  have y1 : w5.cell? ⟨W.heap.size + 1, 1, none⟩ = some (.slice AP s.parts.length cp) := H4.out.1.fs.cell 1
  have y2 : w5.cell? ⟨W.heap.size + 1, 2, none⟩ = some (.int .i64 s.over) := H4.out.1.fs.cell 2
  go_wp2_with fail
  refine (HV.out _ H4.out.1.b).mono ?_
  rintro e w6 ⟨B1, d1, rfl, hr6, hb6⟩
  have H6 := Lib.hid (And.intro (H4.out.1.step hb6) (And.intro (H4.out.2.1.below hb6 H4.out.2.1.lt) (And.intro (H4.out.2.2.below hb6 H4.out.2.2.lt) hr6)))
  clear hb6 hr6 x0 x1 x2 y0 y1 y2 H4 HV
  dsimp only
  have x0 : w6.cell? ⟨W.heap.size, 0, none⟩ = some (.slice A r.bases.length c) := H6.out.1.fr.cell 0
  have x1 : w6.cell? ⟨W.heap.size, 1, none⟩ = some (.int .i64 r.factor) := H6.out.1.fr.cell 1
  have x2 : w6.cell? ⟨W.heap.size, 2, none⟩ = some (.int .i64 r.most) := H6.out.1.fr.cell 2
  have y0 : w6.cell? ⟨W.heap.size + 1, 0, none⟩ = some (.slice AC s.calls.length cc) := H6.out.1.fs.cell 0
  have y1 : w6.cell? ⟨W.heap.size + 1, 1, none⟩ = some (.slice AP s.parts.length cp) := H6.out.1.fs.cell 1
  have y2 : w6.cell? ⟨W.heap.size + 1, 2, none⟩ = some (.int .i64 s.over) := H6.out.1.fs.cell 2
  go_wp2_with fail
  refine (HU.out _ H6.out.1.b).mono ?_
  rintro e w7 ⟨B2, d2, rfl, hr7, hb7⟩
  have H7 := Lib.hid (And.intro (H6.out.1.step hb7) (And.intro (H6.out.2.1.below hb7 H6.out.2.1.lt) (And.intro (H6.out.2.2.1.below hb7 H6.out.2.2.1.lt) (And.intro (H6.out.2.2.2.step hb7) hr7))))
  clear hb7 hr7 x0 x1 x2 y0 y1 y2 H6 HU
  dsimp only
  have a0 : w7.cell? ⟨D, 0, none⟩ = some (.int .i64 x.elements) := H7.out.2.1.cell 0
  have a1 : w7.cell? ⟨D, 1, none⟩ = some (.int .i64 x.parts) := H7.out.2.1.cell 1
  have a2 : w7.cell? ⟨D, 2, none⟩ = some (.int .i64 x.off) := H7.out.2.1.cell 2
  have a3 : w7.cell? ⟨D, 3, none⟩ = some (.int .i64 x.total) := H7.out.2.1.cell 3
  have b0 : w7.cell? ⟨E, 0, none⟩ = some (.int .i64 x.elements) := H7.out.2.2.1.cell 0
  have b1 : w7.cell? ⟨E, 1, none⟩ = some (.int .i64 x.parts) := H7.out.2.2.1.cell 1
  have b2 : w7.cell? ⟨E, 2, none⟩ = some (.int .i64 x.off) := H7.out.2.2.1.cell 2
  have b3 : w7.cell? ⟨E, 3, none⟩ = some (.int .i64 x.total) := H7.out.2.2.1.cell 3
  have he := fun w => eql33 x.elements x.parts x.off x.total x.elements x.parts x.off x.total w
  rw [show decide (x.elements = x.elements ∧ x.parts = x.parts ∧ x.off = x.off ∧ x.total = x.total) = true by simp] at he
  go_wp2_with fail
  refine (HI.out _ _ _ _ _ H7.out.2.2.2.1 H7.out.2.2.2.2).mono ?_
  rintro e w8 ⟨rfl, hb8⟩
  have H8 := Lib.hid (H7.out.1.step hb8)
  clear hb8 H7 HI a0 a1 a2 a3 b0 b1 b2 b3 he
  go_wp2_with fail
  refine (HAw.out _).mono ?_
  rintro e w9 ⟨rfl, hb9⟩
  have H9 := Lib.hid (H8.out.step hb9)
  clear hb9
  go_wp2_with fail
  go_ret
  exact ⟨rfl, H9.out.b⟩
end Go.Proofs.Ytmclchaalmonnaa
