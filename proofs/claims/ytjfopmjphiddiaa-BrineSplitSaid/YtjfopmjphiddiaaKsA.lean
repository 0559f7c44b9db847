/- Events in two parts: as plain lists. -/
import Derived.Test.YtjfopmjphiddiaaLwD
namespace Go.Proofs.Ytjfopmjphiddiaa
def Sm.add (a b : Sm) : Sm := ⟨a.wa + b.wa, a.lv + b.lv, a.lh + b.lh, a.fv + b.fv, a.fh + b.fh, a.ch + b.ch, a.ai + b.ai, a.us + b.us, a.bo + b.bo⟩
/-- the same circuit with other sums -/
def addS (d : Sm) (y : Yx) : Yx := ⟨y.ps, y.t, ⟨y.r.heat, y.r.room, d.add y.r.s⟩⟩
theorem errE_addS (d : Sm) (y : Yx) (e : Ev) : errE (addS d y) e = errE y e := rfl
theorem doE_addS (d : Sm) (y : Yx) (e : Ev) : doE (addS d y) e = addS d (doE y e) := by
  obtain ⟨k, p, a, w⟩ := e
  simp only [doE, doY]
  by_cases k0 : k = 0
  · rw [if_pos k0, if_pos k0]; rfl
  rw [if_neg k0, if_neg k0]
  by_cases k1 : k = 1
  · rw [if_pos k1, if_pos k1]
    simp only [warmY, addS, warmS, Sm.add, Int.add_assoc]
  rw [if_neg k1, if_neg k1]
  by_cases k2 : k = 2
  · rw [if_pos k2, if_pos k2]
    simp only [leakY, leakN, leakPs, leakR, addS, Sm.add, Int.add_assoc]
  rw [if_neg k2, if_neg k2]
  by_cases k3 : k = 3
  · rw [if_pos k3, if_pos k3]
    simp only [fillY, fillS, addS, Sm.add, Int.add_assoc]
  rw [if_neg k3, if_neg k3]
  by_cases k4 : k = 4
  · rw [if_pos k4, if_pos k4]
    simp only [chillY, chillS, addS, Sm.add, Int.add_assoc]
  rw [if_neg k4, if_neg k4]
  simp only [useY, useS, addS, Sm.add, Int.add_assoc]
theorem evs_addS (d : Sm) (l : List Ev) : ∀ y : Yx, evs (addS d y) l = addS d (evs y l) := by
  induction l with
  | nil => intro y; rfl
  | cons e l ih =>
    intro y
    unfold evs at ih ⊢
    rw [List.foldl_cons, List.foldl_cons, doE_addS, ih]
theorem bad_addS (d : Sm) (l : List Ev) : ∀ y : Yx, bad (addS d y) l = bad y l := by
  induction l with
  | nil => intro y; rfl
  | cons e l ih =>
    intro y
    simp only [bad, errE_addS, doE_addS, ih]
theorem addS_start (h : Yx) : addS h.r.s (y0 h.t h.ps h.r.heat h.r.room) = h := by
  obtain ⟨ps, t, heat, room, s⟩ := h
  simp [addS, y0, Sm.add, Sm.zero]
theorem bad_app (a b : List Ev) : ∀ y : Yx, bad y (a ++ b) = none → bad y a = none ∧ bad (evs y a) b = none := by
  induction a with
  | nil => intro y h; exact ⟨rfl, h⟩
  | cons e a ih =>
    intro y h
    simp only [List.cons_append, bad] at h ⊢
    by_cases he : errE y e = 0
    · rw [if_pos he, Option.map_eq_none_iff] at h
      obtain ⟨h1, h2⟩ := ih _ h
      rw [if_pos he, Option.map_eq_none_iff]
      exact ⟨h1, by unfold evs at h2 ⊢; exact h2⟩
    · rw [if_neg he] at h; cases h
/-- what the two parts leave -/
theorem split_play {t : Sl} {ps : List Pp} {heat hroom : Int} {l : List Ev} {z : Yx} {i : Nat} {e : Int} (h : playR t ps heat hroom l = (some z, i, e)) (k : Nat) (hk : k ≤ l.length) :
    ∃ m : Yx, playR t ps heat hroom (l.take k) = (some m, k, 0) ∧ (brineB m.t m.ps m.r.heat m.r.room = true → ∃ y : Yx, playR m.t m.ps m.r.heat m.r.room (l.drop k) = (some y, l.length - k, 0) ∧ z = addS m.r.s y) := by
  obtain ⟨hv, hb, hz, -, -, h256⟩ := play_some (t := t) (ps := ps) (heat := heat) (hroom := hroom) (l := l) (z := z) (by rw [h])
  have hb2 := hb
  rw [← List.take_append_drop k l] at hb2
  obtain ⟨b1, b2⟩ := bad_app _ _ _ hb2
  refine ⟨evs (y0 t ps heat hroom) (l.take k), ?_, fun hm => ?_⟩
  · unfold playR
    rw [if_neg (by simp [hv]), if_neg (by rw [List.length_take]; omega), b1]
    simp [Nat.min_eq_left hk]
  · obtain ⟨m, hm0⟩ : ∃ m, m = evs (y0 t ps heat hroom) (l.take k) := ⟨_, rfl⟩
    rw [← hm0] at hm b2 ⊢
    refine ⟨evs (y0 m.t m.ps m.r.heat m.r.room) (l.drop k), ?_, ?_⟩
    · have b3 : bad (y0 m.t m.ps m.r.heat m.r.room) (l.drop k) = none := by
        rw [← bad_addS m.r.s, addS_start]; exact b2
      unfold playR
      rw [if_neg (by simp [hm]), if_neg (by rw [List.length_drop]; omega), b3]
      simp
    · rw [← evs_addS, addS_start, hz, hm0]
      unfold evs
      rw [← List.foldl_append, List.take_append_drop]
end Go.Proofs.Ytjfopmjphiddiaa
