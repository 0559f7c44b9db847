/- Two rows of scores that grow side by side; what a judge's swing and Open say of places. -/
import Derived.Test.YtmclchaalmonnaaOpn
import Derived.Test.YtmclchaalmonnaaChg
import Derived.Test.YtmclchaalmonnaaEnB
namespace Go.Proofs.Ytmclchaalmonnaa
open Go.RowKit Go.Lib
theorem own_kept2 {w w' : World} {base size n : Nat} {e : TypeId} {v : Value} {xs : List Value} {o : Option Nat} (h : w.ownsRow base e size v n xs) (hg : w.grownBy w' o) (ho : ∀ b, o = some b → v.ownBlock ≠ some b) : w'.ownsRow base e size v n xs := by
  obtain ⟨h0, (h1 | ⟨g, cap, cur, rfl, hb, hgc, h2⟩)⟩ := h
  · exact ⟨h0, .inl h1⟩
  · have hg1 : Has w g e cur := hgc
    have hg2 : Has w' g e cur := by
      have := hg.block g hg1.lt (fun e => ho g e.symm rfl)
      unfold Has at hg1 ⊢
      rw [this]; exact hg1
    exact ⟨h0, .inr ⟨g, cap, cur, rfl, hb, hg2, h2⟩⟩
/-- two rows of scores, in two blocks -/
structure TwoR (w : World) (base : Nat) (v1 v2 : Value) (l1 l2 : List Sc) : Prop where
  o1 : w.ownsRow base 33 4 v1 l1.length (nvl scc l1)
  o2 : w.ownsRow base 33 4 v2 l2.length (nvl scc l2)
  ne : ∀ b, v1.ownBlock = some b → v2.ownBlock ≠ some b
section
variable {w w' : World} {base g cap H : Nat} {v1 v2 : Value} {l1 l2 : List Sc} {x : Sc}
theorem TwoR.step (h : TwoR w base v1 v2 l1 l2) (hb : Below w.heap.size w w') : TwoR w' base v1 v2 l1 l2 := ⟨own_step h.o1 hb, own_step h.o2 hb, h.ne⟩
theorem TwoR.app1 (h : TwoR w base v1 v2 l1 l2) (hH : w.heap.size = H) (hown : w'.ownsRow base 33 4 (.slice (some ⟨g, 0, none⟩) (l1.length + 1) cap) (l1.length + 1) (nvl scc l1 ++ nvl scc [x])) (hgr : w.grownBy w' v1.ownBlock) (hg : v1.ownBlock = some g ∨ g = H) :
    TwoR w' base (.slice (some ⟨g, 0, none⟩) (l1.length + 1) cap) v2 (l1 ++ [x]) l2 := by
  refine ⟨by rw [nvl_append, List.length_append]; exact hown, own_kept2 h.o2 hgr (fun b hb => h.ne b hb), fun b hb => ?_⟩
  cases hb
  rcases hg with hg | hg
  · exact h.ne _ hg
  · intro e; have h9 : g < w.heap.size := (own_block h.o2 _ e).2; omega
theorem TwoR.app2 (h : TwoR w base v1 v2 l1 l2) (hH : w.heap.size = H) (hown : w'.ownsRow base 33 4 (.slice (some ⟨g, 0, none⟩) (l2.length + 1) cap) (l2.length + 1) (nvl scc l2 ++ nvl scc [x])) (hgr : w.grownBy w' v2.ownBlock) (hg : v2.ownBlock = some g ∨ g = H) :
    TwoR w' base v1 (.slice (some ⟨g, 0, none⟩) (l2.length + 1) cap) l1 (l2 ++ [x]) := by
  refine ⟨own_kept2 h.o1 hgr (fun b hb e => h.ne b e hb), by rw [nvl_append, List.length_append]; exact hown, fun b hb e => ?_⟩
  cases e
  rcases hg with hg | hg
  · exact h.ne _ hb hg
  · have h9 : g < w.heap.size := (own_block h.o1 _ hb).2; omega
end
/-- who is moved across the line by one judge is told by Open -/
theorem open_mem {r : Ru} {l : List Sk} {first : Int} {j i : Nat} {s : Sp} (h0 : (openR r l first).2 = 0) (hj : j < nP l) (hs : (swingP r l j)[i]? = some s) (h1 : s.lo ≤ first) (h2 : first < s.hi) : (i : Int) ∈ (openR r l first).1 := by
  have e : openR r l first = (openP r l first, 0) := by
    unfold openR at h0 ⊢
    by_cases he : (inspP r l).2 = 0
    · rw [if_neg (by simpa using he)] at h0 ⊢
      split at h0 <;> rename_i hb
      · rw [if_pos hb]
      · exact absurd h0 (by decide)
    · rw [if_pos he] at h0; exact absurd h0 he
  rw [e]
  have hi : i < l.length := by
    have := (List.getElem?_eq_some_iff.1 hs).1
    simpa [swingP] using this
  unfold openP
  refine List.mem_map.2 ⟨i, List.mem_filter.2 ⟨List.mem_range.2 hi, ?_⟩, rfl⟩
  unfold openB
  rw [List.any_eq_true]
  refine ⟨j, List.mem_range.2 hj, ?_⟩
  rw [hs]
  simp [h1, h2]
/-- the scores as they are, and as the judge makes them -/
def beforeP (r : Ru) (l : List Sk) : List Sc := l.map (progP r)
def behindP (r : Ru) (l : List Sk) (j : Nat) (by_ : List Int) : List Sc := l.mapIdx fun i s => progP r (changedS s j by_ (3 * i))
theorem both_in {r : Ru} {l : List Sk} {j : Nat} {by_ : List Int} (h : contestB r l = true) (hj : j < nP l) {i : Nat} (hi : i < l.length) {s : Sp} (hs : (swingP r l j)[i]? = some s) : ∃ x y, (ranksP (beforeP r l))[i]? = some x ∧ (ranksP (behindP r l j by_))[i]? = some y ∧ 1 ≤ s.lo ∧ s.lo ≤ x ∧ x ≤ s.hi ∧ s.lo ≤ y ∧ y ≤ s.hi ∧ s.hi ≤ l.length := by
  obtain ⟨x, hx⟩ : ∃ x, (ranksP (beforeP r l))[i]? = some x := ⟨_, List.getElem?_eq_getElem (by simpa [ranksP, beforeP] using hi)⟩
  obtain ⟨y, hy⟩ : ∃ y, (ranksP (behindP r l j by_))[i]? = some y := ⟨_, List.getElem?_eq_getElem (by simpa [ranksP, behindP] using hi)⟩
  have h1 := swing_in h hj (m := beforeP r l) (by simp [beforeP]) (fun q q1 q2 => by
    simp only [beforeP, List.getElem_map]
    exact own_between (contest_each h _ (List.getElem_mem q1)) hj) hi hx hs
  have h2 := swing_in h hj (m := behindP r l j by_) (by simp [behindP]) (fun q q1 q2 => by
    simp only [behindP, List.getElem_mapIdx]
    exact put_between (contest_each h _ (List.getElem_mem q1)) hj (fun _ _ => chF_rng _ _ _) (fun _ _ => chG_rng _ _ _)) hi hy hs
  exact ⟨x, y, hx, hy, h1.1, h1.2.1, h1.2.2.1, h2.2.1, h2.2.2.1, h1.2.2.2⟩
end Go.Proofs.Ytmclchaalmonnaa
