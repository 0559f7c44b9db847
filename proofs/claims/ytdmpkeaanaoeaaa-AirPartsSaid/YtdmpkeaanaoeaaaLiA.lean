/- Holds; the example's air and steps. -/
import Derived.Test.YtdmpkeaanaoeaaaAirY
import Derived.Laws.StructEq
namespace Go.Proofs.Ytdmpkeaanaoeaaa
open Go.RowKit Go.Shelf
def holdsR (a : Air) (t : Int) : Int × Int := if airB a = true then (if onB a t = true then (holdsP a t, 0) else (0, 2)) else (0, 1)
set_option maxRecDepth 100000 in
set_option maxHeartbeats 2000000 in
theorem Holds_any (a : Air) (A B : Option Addr) (ca cb : Nat) (t : Int) (W : World) (h : AR W W.heap.size a A B) : Calls Try.prog 11 #[airv a A B ca cb, .int .i64 t] W (TwoPost (holdsR a t).1 (holdsR a t).2 W) := by
  have HA := Lib.hid h
  have HB := Lib.hid (And.intro (below_one W (.cells (airc a A B ca cb) 26)) (box_air W a A B ca cb))
  have H1 := Lib.hid (fun w h => validAir_any a A B ca cb w h)
  obtain ⟨R, hR⟩ : ∃ R, R = holdsR a t := ⟨_, rfl⟩
  rw [← hR]
  have HR := Lib.hid hR
  unfold airv at *
  clear h hR
  go_enter Try.func11, Try.ntmps11
  go_wp2_with fail
  generalize W.alloc (.cells (airc a A B ca cb) 26) = w0 at HB ⊢
  refine (H1.out _ (HA.out.step HB.out.1)).mono ?_
  rintro e w1 ⟨rfl, hb1⟩
  have H2 := Lib.hid (And.intro (below_seq HB.out.1 hb1) (HB.out.2.below hb1 HB.out.2.lt))
  clear hb1
  cases hv : airB a
  · have HE := Lib.hid (show R = (0, 1) by rw [HR.out]; unfold holdsR; rw [if_neg (by rw [hv]; simp)])
    clear hv
    go_wp2_with fail
    refine bodyPost_ret (results_tmp2 rfl _ _ _) rfl ?_
    exact ⟨by rw [HE.out]; rfl, H2.out.1⟩
  have HV := Lib.hid ((airB_iff a).1 hv)
  have HVB := Lib.hid hv
  have H3 := Lib.hid (fun w h => onCurve_any a A B ca cb t w h HV.out.n.1)
  unfold airv at H3
  have c0 : w1.cell? ⟨W.heap.size, 0, none⟩ = some (.int .i64 a.R) := H2.out.2.cell 0
  have c1 : w1.cell? ⟨W.heap.size, 1, none⟩ = some (.slice A a.T.length ca) := H2.out.2.cell 1
  have c2 : w1.cell? ⟨W.heap.size, 2, none⟩ = some (.slice B a.H.length cb) := H2.out.2.cell 2
  have c3 : w1.cell? ⟨W.heap.size, 3, none⟩ = some (.int .i64 a.b0) := H2.out.2.cell 3
  have c4 : w1.cell? ⟨W.heap.size, 4, none⟩ = some (.int .i64 a.b1) := H2.out.2.cell 4
  clear hv
  go_wp2_with fail
  refine (H3.out _ (HA.out.step H2.out.1)).mono ?_
  rintro e w2 ⟨rfl, hb2⟩
  have H4 := Lib.hid (And.intro (below_seq H2.out.1 hb2) (H2.out.2.below hb2 H2.out.2.lt))
  clear hb2 c0 c1 c2 c3 c4
  cases ho : onB a t
  · have HE := Lib.hid (show R = (0, 2) by rw [HR.out]; unfold holdsR; rw [if_pos HVB.out, if_neg (by rw [ho]; simp)])
    clear ho
    go_wp2_with fail
    refine bodyPost_ret (results_tmp2 rfl _ _ _) rfl ?_
    exact ⟨by rw [HE.out]; rfl, H4.out.1⟩
  have HE := Lib.hid (show R = (holdsP a t, 0) by rw [HR.out]; unfold holdsR; rw [if_pos HVB.out, if_pos ho])
  have H5 := Lib.hid (fun w h => holds_any a A B ca cb t w h HV.out ho)
  unfold airv at H5
  have c0 : w2.cell? ⟨W.heap.size, 0, none⟩ = some (.int .i64 a.R) := H4.out.2.cell 0
  have c1 : w2.cell? ⟨W.heap.size, 1, none⟩ = some (.slice A a.T.length ca) := H4.out.2.cell 1
  have c2 : w2.cell? ⟨W.heap.size, 2, none⟩ = some (.slice B a.H.length cb) := H4.out.2.cell 2
  have c3 : w2.cell? ⟨W.heap.size, 3, none⟩ = some (.int .i64 a.b0) := H4.out.2.cell 3
  have c4 : w2.cell? ⟨W.heap.size, 4, none⟩ = some (.int .i64 a.b1) := H4.out.2.cell 4
  clear ho
  go_wp2_with fail
  refine (H5.out _ (HA.out.step H4.out.1)).mono ?_
  rintro e w3 ⟨rfl, hb3⟩
  have H6 := Lib.hid (below_seq H4.out.1 hb3)
  clear hb3
  go_wp2_with fail
  refine bodyPost_ret (results_tmp2 rfl _ _ _) rfl ?_
  exact ⟨by rw [HE.out]; rfl, H6.out⟩
set_option maxRecDepth 100000 in
theorem span_any (x y : Int) (W : World) : Calls Try.prog 31 #[.int .i64 x, .int .i64 y] W fun e W' => e = .returned (.agg #[.int .i64 x, .int .i64 y]) ∧ W' = W.alloc (.cells #[.int .i64 x, .int .i64 y] 24) := by
  go_enter Try.func31, Try.ntmps31
  go_wp2
  refine bodyPost_ret (v := .agg #[.int .i64 x, .int .i64 y]) (by simp [results, Try.results31, go_sem]) rfl ?_
  exact ⟨rfl, rfl⟩
def smA : Air := ⟨10, [-50, 0, 100], [3000, 5000, 9500], 2, 3⟩
def smL : List Stp := [⟨-25, 100, 100, 4000, 5000, 500, 900, 3000⟩, ⟨-50, 0, 0, 0, 0, 0, 0, 2000⟩]
def SmpPost (W : World) (e : Ending) (W' : World) : Prop :=
  ∃ A B AL, e = .returned (.tuple #[airv smA A B 3 3, .slice AL smL.length 2]) ∧ Below W.heap.size W W' ∧ AR W' W'.heap.size smA A B ∧ SRow W' W'.heap.size AL smL
theorem irow_flat {w : World} {g : Nat} {t : TypeId} {l : List Int} (h : Has w g t (l.map (Value.int .i64)).toArray) : IRow w w.heap.size (some ⟨g, 0, none⟩) l := fun k hk =>
  ⟨g, 0, rfl, h.lt, by rw [Nat.zero_add, h.cell, List.getElem?_toArray, List.getElem?_map, List.getElem?_eq_getElem hk]; rfl⟩
theorem keepA {w w' : World} {g B : Nat} {a : Air} {A A' : Option Addr} {ca cb : Nat} (h : Has w g 26 (airc a A A' ca cb)) (hn : g ≠ B) (ho : Only (· = B) w w') :
    w'.cell? ⟨g, 0, none⟩ = some (.int .i64 a.R) ∧ w'.cell? ⟨g, 1, none⟩ = some (.slice A a.T.length ca) ∧ w'.cell? ⟨g, 2, none⟩ = some (.slice A' a.H.length cb) ∧ w'.cell? ⟨g, 3, none⟩ = some (.int .i64 a.b0) ∧ w'.cell? ⟨g, 4, none⟩ = some (.int .i64 a.b1) :=
  have h := h.only ho hn
  ⟨h.cell 0, h.cell 1, h.cell 2, h.cell 3, h.cell 4⟩
theorem sample_fin {W w2 : World} (H : Below W.heap.size W w2 ∧ Has w2 W.heap.size 26 #[.int .i64 0, .slice none 0 0, .slice none 0 0, .int .i64 0, .int .i64 0] ∧ Has w2 (W.heap.size + 1) 3 (smA.T.map (Value.int .i64)).toArray ∧ Has w2 (W.heap.size + 1 + 1) 3 (smA.H.map (Value.int .i64)).toArray ∧ Has w2 (W.heap.size + 1 + 1 + 1 + 1) 26 (airc smA (some ⟨W.heap.size + 1, 0, none⟩) (some ⟨W.heap.size + 1 + 1, 0, none⟩) 3 3)) :
    SmpPost W (.returned (.tuple #[airv smA (some ⟨W.heap.size + 1, 0, none⟩) (some ⟨W.heap.size + 1 + 1, 0, none⟩) 3 3, .slice (some ⟨w2.heap.size + 1 + 1, 0, none⟩) smL.length 2])) ((((((((((w2.setCell ⟨W.heap.size, 0, none⟩ (.int .i64 10)).setCell ⟨W.heap.size, 1, none⟩ (.slice (some ⟨W.heap.size + 1, 0, none⟩) 3 3)).setCell ⟨W.heap.size, 2, none⟩ (.slice (some ⟨W.heap.size + 1 + 1, 0, none⟩) 3 3)).setCell ⟨W.heap.size, 3, none⟩ (.int .i64 2)).setCell ⟨W.heap.size, 4, none⟩ (.int .i64 3))).alloc (.cells #[.int .i64 4000, .int .i64 5000] 24)).alloc (.cells #[.int .i64 500, .int .i64 900] 24)).alloc (.cells #[.int .i64 (-25), .int .i64 100, .int .i64 100, .int .i64 4000, .int .i64 5000, .int .i64 500, .int .i64 900, .int .i64 3000, .int .i64 (-50), .int .i64 0, .int .i64 0, .int .i64 0, .int .i64 0, .int .i64 0, .int .i64 0, .int .i64 2000] 50)).drew) := by
  obtain ⟨h0, h1, h2, h3, h4⟩ := H
  have hlt := h4.lt
  have ho : Only (· = W.heap.size) w2 ((((((w2.setCell ⟨W.heap.size, 0, none⟩ (.int .i64 10)).setCell ⟨W.heap.size, 1, none⟩ (.slice (some ⟨W.heap.size + 1, 0, none⟩) 3 3)).setCell ⟨W.heap.size, 2, none⟩ (.slice (some ⟨W.heap.size + 1 + 1, 0, none⟩) 3 3)).setCell ⟨W.heap.size, 3, none⟩ (.int .i64 2)).setCell ⟨W.heap.size, 4, none⟩ (.int .i64 3))) := one_only (one_only (one_only (one_only (one_only (Only.refl _ _) 0 _) 1 _) 2 _) 3 _) 4 _
  have hsz : ((((((w2.setCell ⟨W.heap.size, 0, none⟩ (.int .i64 10)).setCell ⟨W.heap.size, 1, none⟩ (.slice (some ⟨W.heap.size + 1, 0, none⟩) 3 3)).setCell ⟨W.heap.size, 2, none⟩ (.slice (some ⟨W.heap.size + 1 + 1, 0, none⟩) 3 3)).setCell ⟨W.heap.size, 3, none⟩ (.int .i64 2)).setCell ⟨W.heap.size, 4, none⟩ (.int .i64 3))).heap.size = w2.heap.size := by simp
  generalize (((((w2.setCell ⟨W.heap.size, 0, none⟩ (.int .i64 10)).setCell ⟨W.heap.size, 1, none⟩ (.slice (some ⟨W.heap.size + 1, 0, none⟩) 3 3)).setCell ⟨W.heap.size, 2, none⟩ (.slice (some ⟨W.heap.size + 1 + 1, 0, none⟩) 3 3)).setCell ⟨W.heap.size, 3, none⟩ (.int .i64 2)).setCell ⟨W.heap.size, 4, none⟩ (.int .i64 3)) = w3 at ho hsz ⊢
  have t2 := h2.only ho (show ¬ W.heap.size + 1 = W.heap.size by omega)
  have t3 := h3.only ho (show ¬ W.heap.size + 1 + 1 = W.heap.size by omega)
  have hs : Has (((w3.alloc (.cells #[.int .i64 4000, .int .i64 5000] 24)).alloc (.cells #[.int .i64 500, .int .i64 900] 24)).alloc (.cells #[.int .i64 (-25), .int .i64 100, .int .i64 100, .int .i64 4000, .int .i64 5000, .int .i64 500, .int .i64 900, .int .i64 3000, .int .i64 (-50), .int .i64 0, .int .i64 0, .int .i64 0, .int .i64 0, .int .i64 0, .int .i64 0, .int .i64 2000] 50)).drew (w2.heap.size + 1 + 1) 50 #[.int .i64 (-25), .int .i64 100, .int .i64 100, .int .i64 4000, .int .i64 5000, .int .i64 500, .int .i64 900, .int .i64 3000, .int .i64 (-50), .int .i64 0, .int .i64 0, .int .i64 0, .int .i64 0, .int .i64 0, .int .i64 0, .int .i64 2000] := Has.drew (has_newAt (by simp [hsz]))
  have hT := irow_flat (l := smA.T) (((t2.alloc (.cells #[.int .i64 4000, .int .i64 5000] 24)).alloc (.cells #[.int .i64 500, .int .i64 900] 24)).alloc (.cells #[.int .i64 (-25), .int .i64 100, .int .i64 100, .int .i64 4000, .int .i64 5000, .int .i64 500, .int .i64 900, .int .i64 3000, .int .i64 (-50), .int .i64 0, .int .i64 0, .int .i64 0, .int .i64 0, .int .i64 0, .int .i64 0, .int .i64 2000] 50)).drew
  have hH := irow_flat (l := smA.H) (((t3.alloc (.cells #[.int .i64 4000, .int .i64 5000] 24)).alloc (.cells #[.int .i64 500, .int .i64 900] 24)).alloc (.cells #[.int .i64 (-25), .int .i64 100, .int .i64 100, .int .i64 4000, .int .i64 5000, .int .i64 500, .int .i64 900, .int .i64 3000, .int .i64 (-50), .int .i64 0, .int .i64 0, .int .i64 0, .int .i64 0, .int .i64 0, .int .i64 0, .int .i64 2000] 50)).drew
  refine ⟨_, _, _, rfl, ?_, ⟨hT, hH, by decide, by decide⟩, ?_⟩
  · refine below_dr ((((h0.trans (ho.below (B := W.heap.size) (by omega) (fun i hi => by omega))).alloc (by omega) _).alloc (by simp; omega) _).alloc (by simp; omega) _)
  · intro k hk
    refine ⟨w2.heap.size + 1 + 1, 0, rfl, hs.lt, fun j hj => ?_⟩
    rw [Nat.zero_add, hs.cell]
    have h2' : k = 0 ∨ k = 1 := by simp [smL] at hk; omega
    have h8 : j = 0 ∨ j = 1 ∨ j = 2 ∨ j = 3 ∨ j = 4 ∨ j = 5 ∨ j = 6 ∨ j = 7 := by omega
    rcases h2' with rfl | rfl <;> rcases h8 with rfl | rfl | rfl | rfl | rfl | rfl | rfl | rfl <;> rfl
set_option maxRecDepth 100000 in
set_option maxHeartbeats 2000000 in
theorem sample_any (W : World) : Calls Try.prog 30 #[] W (SmpPost W) := by
  have HS := Lib.hid (fun x y w => span_any x y w)
  go_enter Try.func30, Try.ntmps30
  go_wp2_with fail
  refine (HS.out _ _ _).mono ?_
  rintro e w1 ⟨rfl, rfl⟩
  go_wp2_with fail
  have hW : ∀ w : World, w = (((((W.alloc (.cells #[.int .i64 0, .slice none 0 0, .slice none 0 0, .int .i64 0, .int .i64 0] 26)).alloc (.cells #[.int .i64 (-50), .int .i64 0, .int .i64 100] 3)).alloc (.cells #[.int .i64 3000, .int .i64 5000, .int .i64 9500] 3)).alloc (.cells #[.int .i64 2, .int .i64 3] 24)).alloc (.cells (airc smA (some ⟨W.heap.size + 1, 0, none⟩) (some ⟨W.heap.size + 1 + 1, 0, none⟩) 3 3) 26)) →
      Below W.heap.size W w ∧ Has w W.heap.size 26 #[.int .i64 0, .slice none 0 0, .slice none 0 0, .int .i64 0, .int .i64 0] ∧ Has w (W.heap.size + 1) 3 (smA.T.map (Value.int .i64)).toArray ∧ Has w (W.heap.size + 1 + 1) 3 (smA.H.map (Value.int .i64)).toArray ∧ Has w (W.heap.size + 1 + 1 + 1 + 1) 26 (airc smA (some ⟨W.heap.size + 1, 0, none⟩) (some ⟨W.heap.size + 1 + 1, 0, none⟩) 3 3) := by
    rintro w rfl
    exact ⟨((((below_one W _).alloc (by simp) _).alloc (by simp; omega) _).alloc (by simp; omega) _).alloc (by simp; omega) _, ((((Has.new _ _ _).alloc _).alloc _).alloc _).alloc _, (((has_newAt (by simp)).alloc _).alloc _).alloc _, ((has_newAt (by simp)).alloc _).alloc _, has_newAt (by simp)⟩
  generalize hw : (((((W.alloc (.cells #[.int .i64 0, .slice none 0 0, .slice none 0 0, .int .i64 0, .int .i64 0] 26)).alloc (.cells #[.int .i64 (-50), .int .i64 0, .int .i64 100] 3)).alloc (.cells #[.int .i64 3000, .int .i64 5000, .int .i64 9500] 3)).alloc (.cells #[.int .i64 2, .int .i64 3] 24)).alloc (.cells #[.int .i64 10, .slice (some ⟨W.heap.size + 1, 0, none⟩) 3 3, .slice (some ⟨W.heap.size + 1 + 1, 0, none⟩) 3 3, .int .i64 2, .int .i64 3] 26)) = w2
  have H2 := Lib.hid (hW w2 hw.symm)
  clear hW hw
  have k0 : w2.cell? ⟨W.heap.size + 1 + 1 + 1 + 1, 0, none⟩ = some (.int .i64 10) := H2.out.2.2.2.2.cell 0
  have k1 : w2.cell? ⟨W.heap.size + 1 + 1 + 1 + 1, 1, none⟩ = some (.slice (some ⟨W.heap.size + 1, 0, none⟩) 3 3) := H2.out.2.2.2.2.cell 1
  have k2 : w2.cell? ⟨W.heap.size + 1 + 1 + 1 + 1, 2, none⟩ = some (.slice (some ⟨W.heap.size + 1 + 1, 0, none⟩) 3 3) := H2.out.2.2.2.2.cell 2
  have k3 : w2.cell? ⟨W.heap.size + 1 + 1 + 1 + 1, 3, none⟩ = some (.int .i64 2) := H2.out.2.2.2.2.cell 3
  have k4 : w2.cell? ⟨W.heap.size + 1 + 1 + 1 + 1, 4, none⟩ = some (.int .i64 3) := H2.out.2.2.2.2.cell 4
  have r0 : w2.cell? ⟨W.heap.size, 0, none⟩ = some (.int .i64 0) := H2.out.2.1.cell 0
  have r1 : w2.cell? ⟨W.heap.size, 1, none⟩ = some (.slice none 0 0) := H2.out.2.1.cell 1
  have r2 : w2.cell? ⟨W.heap.size, 2, none⟩ = some (.slice none 0 0) := H2.out.2.1.cell 2
  have r3 : w2.cell? ⟨W.heap.size, 3, none⟩ = some (.int .i64 0) := H2.out.2.1.cell 3
  have r4 : w2.cell? ⟨W.heap.size, 4, none⟩ = some (.int .i64 0) := H2.out.2.1.cell 4
  have rf := H2.out.2.1.frozen
  have rl := H2.out.2.2.2.2.lt
  have rl0 : W.heap.size < w2.heap.size := by omega
  have rl1 : W.heap.size < w2.heap.size + 1 := by omega
  have rl2 : W.heap.size < w2.heap.size + 1 + 1 := by omega
  have hk2 := Lib.hid (keepA (w' := w2.drew) H2.out.2.2.2.2 (show W.heap.size + 1 + 1 + 1 + 1 ≠ W.heap.size by omega) (Only.refl _ _).drew)
  refine wp_region_late (fun w' : World => w'.cell? ⟨W.heap.size + 1 + 1 + 1 + 1, 0, none⟩ = some (.int .i64 10) ∧ w'.cell? ⟨W.heap.size + 1 + 1 + 1 + 1, 1, none⟩ = some (.slice (some ⟨W.heap.size + 1, 0, none⟩) 3 3) ∧ w'.cell? ⟨W.heap.size + 1 + 1 + 1 + 1, 2, none⟩ = some (.slice (some ⟨W.heap.size + 1 + 1, 0, none⟩) 3 3) ∧ w'.cell? ⟨W.heap.size + 1 + 1 + 1 + 1, 3, none⟩ = some (.int .i64 2) ∧ w'.cell? ⟨W.heap.size + 1 + 1 + 1 + 1, 4, none⟩ = some (.int .i64 3)) [7] (by kernel_rfl) ?_
  refine wpLate_take (i := 0) (oi := ?oi0) (v := ?v0) [6, 7] ?hi0 (by kernel_rfl) (by kernel_rfl) (by kernel_rfl) (by kernel_rfl) (by kernel_rfl) ?hQ0 (Or.inl ⟨?hw0, ?hy0⟩) hk2.out ?rest0
  case hi0 => (simp only [List.getElem?_toArray, List.getElem?_cons_zero]; rfl)
  case hQ0 => exact fun _ _ _ h => h
  case hw0 => rfl
  case hy0 =>
    intro w' hSw
    obtain ⟨s0, s1, s2, s3, s4⟩ := hSw
    go_simp
    try exact rfl
  try simp only [Act.put, List.setIfInBounds_toArray, List.set_cons_zero, List.set_cons_succ]
  refine wpLate_take (i := 4) (oi := ?oi4) (v := ?v4) [5, 7] ?hi4 (by kernel_rfl) (by kernel_rfl) (by kernel_rfl) (by kernel_rfl) (by kernel_rfl) ?hQ4 (Or.inl ⟨?hw4, ?hy4⟩) hk2.out ?rest4
  case hi4 => (simp only [List.getElem?_toArray, List.getElem?_cons_zero, List.getElem?_cons_succ]; rfl)
  case hQ4 => exact fun _ _ _ h => h
  case hw4 => rfl
  case hy4 =>
    intro w' hSw
    obtain ⟨s0, s1, s2, s3, s4⟩ := hSw
    go_simp
    try exact rfl
  try simp only [Act.put, List.setIfInBounds_toArray, List.set_cons_zero, List.set_cons_succ]
  refine wpLate_one (i := 1) (o := ?o1) (by kernel_rfl) ?ho1 ?hk1
  case ho1 => (simp only [List.getElem?_toArray, List.getElem?_cons_zero, List.getElem?_cons_succ]; rfl)
  intro K hK
  go_simp
  refine (HS.out _ _ _).mono ?_
  rintro r wb ⟨rfl, rfl⟩
  refine hK.out _ _ (fun h => keepA H2.out.2.2.2.2 (show W.heap.size + 1 + 1 + 1 + 1 ≠ W.heap.size by omega) (((Only.refl _ _).drew).alloc _)) ?_
  clear hK K
  try simp only [Act.put, List.setIfInBounds_toArray, List.set_cons_zero, List.set_cons_succ]
  refine wpLate_one (i := 2) (o := ?o2) (by kernel_rfl) ?ho2 ?hk2
  case ho2 => (simp only [List.getElem?_toArray, List.getElem?_cons_zero, List.getElem?_cons_succ]; rfl)
  intro K hK
  go_simp
  refine (HS.out _ _ _).mono ?_
  rintro r wb ⟨rfl, rfl⟩
  refine hK.out _ _ (fun h => keepA H2.out.2.2.2.2 (show W.heap.size + 1 + 1 + 1 + 1 ≠ W.heap.size by omega) ((((Only.refl _ _).drew).alloc _).alloc _)) ?_
  clear hK K
  try simp only [Act.put, List.setIfInBounds_toArray, List.set_cons_zero, List.set_cons_succ]
  have hk3 := Lib.hid (keepA (w' := ((w2.alloc (.cells #[.int .i64 4000, .int .i64 5000] 24)).alloc (.cells #[.int .i64 500, .int .i64 900] 24)).drew) H2.out.2.2.2.2 (show W.heap.size + 1 + 1 + 1 + 1 ≠ W.heap.size by omega) ((((Only.refl _ _).alloc _).alloc _).drew))
  refine wpLate_take (i := 3) (oi := ?oi3) (v := ?v3) [5, 7] ?hi3 (by kernel_rfl) (by kernel_rfl) (by kernel_rfl) (by kernel_rfl) (by kernel_rfl) ?hQ3 (Or.inl ⟨?hw3, ?hy3⟩) hk3.out ?rest3
  case hi3 => (simp only [List.getElem?_toArray, List.getElem?_cons_zero, List.getElem?_cons_succ]; rfl)
  case hQ3 => exact fun _ _ _ h => h
  case hw3 => rfl
  case hy3 =>
    intro w' hSw
    obtain ⟨s0, s1, s2, s3, s4⟩ := hSw
    go_simp
    try exact rfl
  try simp only [Act.put, List.setIfInBounds_toArray, List.set_cons_zero, List.set_cons_succ]
  have HF : Hid (SmpPost W (.returned (.tuple #[airv smA (some ⟨W.heap.size + 1, 0, none⟩) (some ⟨W.heap.size + 1 + 1, 0, none⟩) 3 3, .slice (some ⟨w2.heap.size + 1 + 1, 0, none⟩) smL.length 2])) ((((((((((w2.setCell ⟨W.heap.size, 0, none⟩ (.int .i64 10)).setCell ⟨W.heap.size, 1, none⟩ (.slice (some ⟨W.heap.size + 1, 0, none⟩) 3 3)).setCell ⟨W.heap.size, 2, none⟩ (.slice (some ⟨W.heap.size + 1 + 1, 0, none⟩) 3 3)).setCell ⟨W.heap.size, 3, none⟩ (.int .i64 2)).setCell ⟨W.heap.size, 4, none⟩ (.int .i64 3))).alloc (.cells #[.int .i64 4000, .int .i64 5000] 24)).alloc (.cells #[.int .i64 500, .int .i64 900] 24)).alloc (.cells #[.int .i64 (-25), .int .i64 100, .int .i64 100, .int .i64 4000, .int .i64 5000, .int .i64 500, .int .i64 900, .int .i64 3000, .int .i64 (-50), .int .i64 0, .int .i64 0, .int .i64 0, .int .i64 0, .int .i64 0, .int .i64 0, .int .i64 2000] 50)).drew)) := sample_fin H2.out
  refine wpLate_two (i := 5) (j := 6) (o := ?o5) (u := ?o6) (by kernel_rfl) ?ho5 ?ho6 ?hk5 ?hk6
  case ho5 => (simp only [List.getElem?_toArray, List.getElem?_cons_zero, List.getElem?_cons_succ]; rfl)
  case ho6 => (simp only [List.getElem?_toArray, List.getElem?_cons_zero, List.getElem?_cons_succ]; rfl)
  case hk5 =>
    intro K hK
    go_simp
    refine hK.out _ _ (fun h => keepA H2.out.2.2.2.2 (show W.heap.size + 1 + 1 + 1 + 1 ≠ W.heap.size by omega) (((((Only.refl _ _).alloc _).alloc _).alloc _).drew)) ?_
    clear hK K
    try simp only [Act.put, List.setIfInBounds_toArray, List.set_cons_zero, List.set_cons_succ]
    refine wpLate_one (i := 6) (o := ?o6a) (by kernel_rfl) ?ho6a ?hk6a
    case ho6a => (simp only [List.getElem?_toArray, List.getElem?_cons_zero, List.getElem?_cons_succ]; rfl)
    intro K hK
    go_simp
    refine hK.out _ _ (fun h => keepA H2.out.2.2.2.2 (show W.heap.size + 1 + 1 + 1 + 1 ≠ W.heap.size by omega) ((((((one_only (one_only (one_only (one_only (one_only (Only.refl _ _) 0 _) 1 _) 2 _) 3 _) 4 _)).alloc _).alloc _).alloc _).drew)) ?_
    clear hK K
    try simp only [Act.put, List.setIfInBounds_toArray, List.set_cons_zero, List.set_cons_succ]
    refine wpLate_one (i := 7) (o := ?o7a) (by kernel_rfl) ?ho7a ?hk7a
    case ho7a => (simp only [List.getElem?_toArray, List.getElem?_cons_zero, List.getElem?_cons_succ]; rfl)
    intro K hK
    go_simp
    refine hK.out _ _ (fun h => absurd h (by decide)) ?_
    clear hK K
    try simp only [Act.put, List.setIfInBounds_toArray, List.set_cons_zero, List.set_cons_succ]
    refine wpLate_done (by kernel_rfl) ?_ _
    try simp only [Act.put, List.setIfInBounds_toArray, List.set_cons_zero, List.set_cons_succ]
    go_wp2
    refine bodyPost_ret (v := .tuple #[airv smA (some ⟨W.heap.size + 1, 0, none⟩) (some ⟨W.heap.size + 1 + 1, 0, none⟩) 3 3, .slice (some ⟨w2.heap.size + 1 + 1, 0, none⟩) smL.length 2]) (by simp [results, Try.results30, go_sem, r0, r1, r2, r3, r4, rl0, rl1, rl2, airv]; exact ⟨⟨rfl, rfl, rfl, rfl, rfl⟩, rfl⟩) rfl ?_
    exact HF.out
  case hk6 =>
    intro K hK
    go_simp
    refine hK.out _ _ (fun h => keepA H2.out.2.2.2.2 (show W.heap.size + 1 + 1 + 1 + 1 ≠ W.heap.size by omega) (((((one_only (one_only (one_only (one_only (one_only (Only.refl _ _) 0 _) 1 _) 2 _) 3 _) 4 _)).alloc _).alloc _).drew)) ?_
    clear hK K
    try simp only [Act.put, List.setIfInBounds_toArray, List.set_cons_zero, List.set_cons_succ]
    refine wpLate_one (i := 5) (o := ?o5b) (by kernel_rfl) ?ho5b ?hk5b
    case ho5b => (simp only [List.getElem?_toArray, List.getElem?_cons_zero, List.getElem?_cons_succ]; rfl)
    intro K hK
    go_simp
    refine hK.out _ _ (fun h => keepA H2.out.2.2.2.2 (show W.heap.size + 1 + 1 + 1 + 1 ≠ W.heap.size by omega) ((((((one_only (one_only (one_only (one_only (one_only (Only.refl _ _) 0 _) 1 _) 2 _) 3 _) 4 _)).alloc _).alloc _).alloc _).drew)) ?_
    clear hK K
    try simp only [Act.put, List.setIfInBounds_toArray, List.set_cons_zero, List.set_cons_succ]
    refine wpLate_one (i := 7) (o := ?o7b) (by kernel_rfl) ?ho7b ?hk7b
    case ho7b => (simp only [List.getElem?_toArray, List.getElem?_cons_zero, List.getElem?_cons_succ]; rfl)
    intro K hK
    go_simp
    refine hK.out _ _ (fun h => absurd h (by decide)) ?_
    clear hK K
    try simp only [Act.put, List.setIfInBounds_toArray, List.set_cons_zero, List.set_cons_succ]
    refine wpLate_done (by kernel_rfl) ?_ _
    try simp only [Act.put, List.setIfInBounds_toArray, List.set_cons_zero, List.set_cons_succ]
    go_wp2
    refine bodyPost_ret (v := .tuple #[airv smA (some ⟨W.heap.size + 1, 0, none⟩) (some ⟨W.heap.size + 1 + 1, 0, none⟩) 3 3, .slice (some ⟨w2.heap.size + 1 + 1, 0, none⟩) smL.length 2]) (by simp [results, Try.results30, go_sem, r0, r1, r2, r3, r4, rl0, rl1, rl2, airv]; exact ⟨⟨rfl, rfl, rfl, rfl, rfl⟩, rfl⟩) rfl ?_
    exact HF.out
end Go.Proofs.Ytdmpkeaanaoeaaa
