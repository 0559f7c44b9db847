/- Events in two parts: what the sums come to. -/
import Derived.Test.YtjfopmjphiddiaaKsB
namespace Go.Proofs.Ytjfopmjphiddiaa
open Go.RowKit Go.Shelf
theorem sums_in {t : Sl} {ps : List Pp} {heat hroom : Int} {l : List Ev} {z m : Yx} {u : Sm} (hv : brineB t ps heat hroom = true) (hb : bad (y0 t ps heat hroom) l = none) (hz : z = evs (y0 t ps heat hroom) l) (hl : l.length ≤ 256) (hs : z.r.s = m.r.s.add u) :
    ((∀ wa, Calls Try.prog 28 #[.agg #[.int .i64 m.r.s.lv, .int .i64 m.r.s.lh], .agg #[.int .i64 u.lv, .int .i64 u.lh]] wa fun e W' => e = .returned (.agg #[.int .i64 z.r.s.lv, .int .i64 z.r.s.lh]) ∧ Below wa.heap.size wa W') ∧ (∀ wa, Calls Try.prog 28 #[.agg #[.int .i64 m.r.s.fv, .int .i64 m.r.s.fh], .agg #[.int .i64 u.fv, .int .i64 u.fh]] wa fun e W' => e = .returned (.agg #[.int .i64 z.r.s.fv, .int .i64 z.r.s.fh]) ∧ Below wa.heap.size wa W')) ∧
    IntKind.i64.wrap (m.r.s.wa + u.wa) = z.r.s.wa ∧ IntKind.i64.wrap (m.r.s.ch + u.ch) = z.r.s.ch ∧ IntKind.i64.wrap (m.r.s.ai + u.ai) = z.r.s.ai ∧ IntKind.i64.wrap (m.r.s.us + u.us) = z.r.s.us ∧ IntKind.i64.wrap (m.r.s.bo + u.bo) = z.r.s.bo := by
  obtain ⟨h1, -⟩ := evs_whole (y0_in hv) hb l.length (Nat.le_refl _)
  rw [List.take_length, ← hz] at h1
  have hh := h1.heat; have hlh := h1.lh; have hch := h1.ch; have hlv := h1.lv; have hlv1 := h1.lv1
  have hfv := h1.fv; have hfh := h1.fh; have hwa := h1.wa; have hai := h1.ai; have hus := h1.us; have hbo := h1.bo
  have hn := (volP_nn h1.ps).2
  have ht := h1.th
  simp only [hA] at hh
  have e1 : z.r.s.wa = m.r.s.wa + u.wa := by rw [hs]; rfl
  have e2 : z.r.s.lv = m.r.s.lv + u.lv := by rw [hs]; rfl
  have e3 : z.r.s.lh = m.r.s.lh + u.lh := by rw [hs]; rfl
  have e4 : z.r.s.fv = m.r.s.fv + u.fv := by rw [hs]; rfl
  have e5 : z.r.s.fh = m.r.s.fh + u.fh := by rw [hs]; rfl
  have e6 : z.r.s.ch = m.r.s.ch + u.ch := by rw [hs]; rfl
  have e7 : z.r.s.ai = m.r.s.ai + u.ai := by rw [hs]; rfl
  have e8 : z.r.s.us = m.r.s.us + u.us := by rw [hs]; rfl
  have e9 : z.r.s.bo = m.r.s.bo + u.bo := by rw [hs]; rfl
  refine ⟨⟨fun wa => ?_, fun wa => ?_⟩, ?_, ?_, ?_, ?_, ?_⟩
  · rw [e2, e3]
    exact plus28 ⟨m.r.s.lv, m.r.s.lh⟩ ⟨u.lv, u.lh⟩ wa (by simp only; omega) (by simp only; omega)
  · rw [e4, e5]
    exact plus28 ⟨m.r.s.fv, m.r.s.fh⟩ ⟨u.fv, u.fh⟩ wa (by simp only; omega) (by simp only; omega)
  · rw [e1]; exact IntWalk.i64_in _ (by omega)
  · rw [e6]; exact IntWalk.i64_in _ (by omega)
  · rw [e7]; exact IntWalk.i64_in _ (by omega)
  · rw [e8]; exact IntWalk.i64_in _ (by omega)
  · rw [e9]; exact IntWalk.i64_in _ (by omega)
end Go.Proofs.Ytjfopmjphiddiaa
