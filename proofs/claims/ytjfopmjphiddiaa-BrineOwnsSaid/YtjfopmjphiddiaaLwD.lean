/- The law that litres and heat are conserved. -/
import Derived.Test.YtjfopmjphiddiaaRfC
import Derived.Test.YtjfopmjphiddiaaKpA
namespace Go.Proofs.Ytjfopmjphiddiaa
open Go.RowKit Go.Shelf
theorem bad_some {y : Yx} {l : List Ev} {i : Nat} {x : Int} (h : bad y l = some (i, x)) : i < l.length ∧ x ≠ 0 := by
  induction l generalizing y i with
  | nil => cases h
  | cons e l ih =>
    simp only [bad] at h
    by_cases he : errE y e = 0
    · rw [if_pos he] at h
      obtain ⟨⟨i', x'⟩, h1, h2⟩ := Option.map_eq_some_iff.1 h
      simp only [Prod.mk.injEq] at h2
      obtain ⟨rfl, rfl⟩ := h2
      have := ih h1
      exact ⟨by simp; omega, this.2⟩
    · rw [if_neg he] at h
      simp only [Option.some.injEq, Prod.mk.injEq] at h
      obtain ⟨rfl, rfl⟩ := h
      exact ⟨by simp, he⟩
theorem play_none {t : Sl} {ps : List Pp} {heat hroom : Int} {l : List Ev} (h : (playR t ps heat hroom l).1 = none) : (playR t ps heat hroom l).2.1 ≤ l.length ∧ (playR t ps heat hroom l).2.2 ≠ 0 := by
  unfold playR at h ⊢
  by_cases hb : brineB t ps heat hroom = false
  · rw [if_pos hb]; simp
  · rw [if_neg hb] at h ⊢
    by_cases h2 : 256 < l.length
    · rw [if_pos h2]; simp
    · rw [if_neg h2] at h ⊢
      cases hx : bad (y0 t ps heat hroom) l with
      | none => rw [hx] at h; cases h
      | some q =>
        obtain ⟨i, x⟩ := q
        have := bad_some hx
        exact ⟨by simp only; omega, this.2⟩
theorem play_some {t : Sl} {ps : List Pp} {heat hroom : Int} {l : List Ev} {z : Yx} (h : (playR t ps heat hroom l).1 = some z) :
    brineB t ps heat hroom = true ∧ bad (y0 t ps heat hroom) l = none ∧ z = evs (y0 t ps heat hroom) l ∧ (playR t ps heat hroom l).2.1 = l.length ∧ (playR t ps heat hroom l).2.2 = 0 ∧ l.length ≤ 256 := by
  unfold playR at h ⊢
  by_cases hb : brineB t ps heat hroom = false
  · rw [if_pos hb] at h; cases h
  · rw [if_neg hb] at h ⊢
    by_cases h2 : 256 < l.length
    · rw [if_pos h2] at h; cases h
    · rw [if_neg h2] at h ⊢
      cases hx : bad (y0 t ps heat hroom) l with
      | none =>
        rw [hx] at h
        simp only [Option.some.injEq] at h
        exact ⟨by simpa using hb, rfl, h.symm, rfl, rfl, by omega⟩
      | some q => rw [hx] at h; cases h
theorem prow_nil (W : World) (B : Nat) (A : Option Addr) : PRow W B A [] := fun k h => absurd h (by simp)
/-- all that the law asks of the end -/
structure KFacts (t : Sl) (ps : List Pp) (heat hroom : Int) (z : Yx) : Prop where
  len : z.ps.length = ps.length
  hroom : z.r.room = hroom
  h0 : 0 ≤ z.r.heat ∧ z.r.heat ≤ z.r.room ∧ z.r.room ≤ 4294967296
  t0 : 0 ≤ z.t.v ∧ 0 ≤ z.t.h
  dry : ¬ (z.t.v = 0 ∧ z.t.h ≠ 0)
  ok : okP z.ps
  rooms : ∀ k (h : k < z.ps.length) (h' : k < ps.length), z.ps[k].room = ps[k].room
  e : (allV z.t z.ps z.r.heat).v + z.r.s.lv = (allV t ps heat).v + z.r.s.fv
  f : (allV t ps heat).h + z.r.s.fh + z.r.s.wa + z.r.s.bo = (allV z.t z.ps z.r.heat).h + z.r.s.lh + z.r.s.ai + z.r.s.us
  b1 : 0 ≤ (allV t ps heat).v ∧ (allV t ps heat).v ≤ 1000000000 ∧ 0 ≤ (allV t ps heat).h ∧ (allV t ps heat).h ≤ 1000000000000
  b2 : 0 ≤ (allV z.t z.ps z.r.heat).v ∧ (allV z.t z.ps z.r.heat).v ≤ 1000000000 ∧ 0 ≤ (allV z.t z.ps z.r.heat).h ∧ (allV z.t z.ps z.r.heat).h ≤ 10000000000000
  s : (0 ≤ z.r.s.wa ∧ z.r.s.wa ≤ 10000000000000) ∧ (0 ≤ z.r.s.lv ∧ z.r.s.lv ≤ 10000000000000) ∧ (0 ≤ z.r.s.lh ∧ z.r.s.lh ≤ 10000000000000) ∧ (0 ≤ z.r.s.fv ∧ z.r.s.fv ≤ 10000000000000) ∧ (0 ≤ z.r.s.fh ∧ z.r.s.fh ≤ 10000000000000) ∧ (0 ≤ z.r.s.ai ∧ z.r.s.ai ≤ 10000000000000) ∧ (0 ≤ z.r.s.us ∧ z.r.s.us ≤ 10000000000000) ∧ (0 ≤ z.r.s.bo ∧ z.r.s.bo ≤ 10000000000000)
  p1 : ∀ k m, 0 ≤ (partV t heat ps k m).v ∧ (partV t heat ps k m).v ≤ 1000000000000 ∧ 0 ≤ (partV t heat ps k m).h ∧ (partV t heat ps k m).h ≤ 1000000000000000
  p2 : ∀ k m, 0 ≤ (partV z.t z.r.heat z.ps k m).v ∧ (partV z.t z.r.heat z.ps k m).v ≤ 1000000000000 ∧ 0 ≤ (partV z.t z.r.heat z.ps k m).h ∧ (partV z.t z.r.heat z.ps k m).h ≤ 1000000000000000
theorem dry_of {t : Sl} {ps : List Pp} {heat hroom : Int} (h : brineB t ps heat hroom = true) : Dry t := by
  simp only [brineB, Bool.and_eq_true] at h
  have ht := h.1.1.1.1.1.1
  simp only [tankB, Bool.or_eq_true, decide_eq_true_eq, Bool.and_eq_true] at ht
  intro hv
  rcases ht with rfl | ⟨a, -⟩
  · rfl
  · have := lB_iff.1 a; omega
theorem kfacts {t : Sl} {ps : List Pp} {heat hroom : Int} {l : List Ev} (hv : brineB t ps heat hroom = true) (hb : bad (y0 t ps heat hroom) l = none) (hl : l.length ≤ 256) : KFacts t ps heat hroom (evs (y0 t ps heat hroom) l) := by
  have h0 := y0_in hv
  obtain ⟨h1, h2⟩ := evs_whole h0 hb l.length (Nat.le_refl _)
  rw [List.take_length] at h1 h2
  have hd := h2.c.d (show Dry (y0 t ps heat hroom).t from dry_of hv)
  have hc1 := h2.c.v
  have hc2 := h2.c.h
  have hr := h2.room
  have hr2 := h2.hroom
  obtain ⟨z, hz⟩ : ∃ z, z = evs (y0 t ps heat hroom) l := ⟨_, rfl⟩
  rw [← hz] at h1 hd hc1 hc2 hr hr2 ⊢
  have hlen : z.ps.length = ps.length := by have := congrArg List.length hr; simpa [y0] using this
  have g1 := h1.heat; have g2 := h1.va; have g3 := h0.heat; have g4 := h0.va
  have x1 := h1.lv; have x2 := h1.lh; have x3 := h1.ch; have x4 := h1.lv1; have x5 := h1.fv; have x6 := h1.fh; have x7 := h1.wa; have x8 := h1.ai; have x9 := h1.us; have x10 := h1.bo
  have n1 := volP_nn h1.ps; have n0 := volP_nn h0.ps
  have t0 := h1.t0; have t1 := h1.th; have e0 := h1.e0; have e1 := h1.e1; have e2 := h1.e2
  have t0' := h0.t0; have t1' := h0.th; have e0' := h0.e0; have e1' := h0.e1; have e2' := h0.e2
  simp only [qV, qH, vA, hA, y0, Sm.zero] at *
  have hll : (l.length : Int) ≤ 256 := by omega
  refine ⟨hlen, hr2, ⟨e0, e1, e2⟩, ⟨t0, t1⟩, fun h => h.2 (hd h.1), h1.ps, fun k h h' => ?_, ?_, ?_, ?_, ?_, ?_, ?_, ?_⟩
  · have e := congrArg (fun l : List Int => l[k]?) hr
    simpa [h, h'] using e
  · simp only [allV]; omega
  · simp only [allV]; omega
  · simp only [allV]; omega
  · simp only [allV]; omega
  · omega
  · exact partV_le h0.ps t0' t1' e0' (by omega) (by omega)
  · exact partV_le h1.ps t0 t1 e0 (by omega) (by omega)
end Go.Proofs.Ytjfopmjphiddiaa
