/- Plain: how many calls were skated ahead, by the sorted row; entries of a row of calls. -/
import Derived.Test.YtmclchaalmonnaaScK
namespace Go.Proofs.Ytmclchaalmonnaa
open Go.RowKit
/-- rules that can be -/
structure VR (r : Ru) : Prop where
  n : 1 ≤ r.bases.length ∧ r.bases.length ≤ 64
  b : ∀ x ∈ r.bases, 0 ≤ x ∧ x ≤ 2000
  f : 0 ≤ r.factor ∧ r.factor ≤ 1000
  m : 1 ≤ r.most ∧ r.most ≤ 16
/-- a skating that can be -/
structure VS (r : Ru) (s : Sk) : Prop where
  nc : s.calls.length ≤ 16
  np : s.parts.length ≤ 5
  o : 0 ≤ s.over ∧ s.over ≤ 600
  c : ∀ c ∈ s.calls, VC c ∧ (0 ≤ c.element ∧ c.element < r.bases.length) ∧ 0 ≤ c.place ∧ c.place ≤ 99
  d : (s.calls.map (·.place)).Nodup
  p : ∀ m ∈ s.parts, VP m
theorem ahead_sorted {l : List Cl} {E E' : List En} (hE : E.map (·.c) = l) (hp : E'.Perm E) (hs : E'.Pairwise (fun a b => a.c.place ≤ b.c.place)) (hd : (l.map (·.place)).Nodup) {k : Nat} (h : k < E'.length) :
    ahead l E'[k].c = (E'.take k).countP (fun e => decide (e.c.element = E'[k].c.element)) := by
  have hd' : (E'.map (fun e => e.c.place)).Nodup := by
    have h1 : (E'.map (fun e => e.c.place)).Perm (l.map (·.place)) := by
      rw [← hE, List.map_map]; exact hp.map _
    exact h1.nodup_iff.2 hd
  have hlt : E'.Pairwise (fun a b => a.c.place < b.c.place) := by
    rw [List.pairwise_iff_getElem] at hs ⊢
    intro i j hi hj hij
    have h1 := hs i j hi hj hij
    have h2 : E'[i].c.place ≠ E'[j].c.place := by
      intro e
      have h3 := (List.pairwise_iff_getElem.1 hd') i j (by simpa using hi) (by simpa using hj) hij
      simp only [List.getElem_map] at h3
      exact h3 e
    omega
  unfold ahead
  have e1 : l.countP (fun d => decide (d.element = E'[k].c.element) && decide (d.place < E'[k].c.place)) = E'.countP (fun e => decide (e.c.element = E'[k].c.element) && decide (e.c.place < E'[k].c.place)) := by
    rw [← hE, List.countP_map, ← hp.countP_eq]; rfl
  rw [e1]
  have e3 : ∀ q : En → Bool, E'.countP q = (E'.take k).countP q + (E'.drop k).countP q := fun q => by rw [← List.countP_append, List.take_append_drop]
  rw [e3]
  have e2 : (E'.drop k).countP (fun e => decide (e.c.element = E'[k].c.element) && decide (e.c.place < E'[k].c.place)) = 0 := by
    rw [List.countP_eq_zero]
    intro e he
    obtain ⟨i, hi, rfl⟩ := List.getElem_of_mem he
    rw [List.getElem_drop]
    rw [List.length_drop] at hi
    have : E'[k].c.place ≤ E'[k + i].c.place := by
      rcases Nat.eq_zero_or_pos i with h0 | h0
      · subst h0; exact Int.le_refl _
      · exact (List.pairwise_iff_getElem.1 hs) k (k + i) h (by omega) (by omega)
    simp
    omega
  rw [e2, Nat.add_zero]
  apply List.countP_congr
  intro e he
  obtain ⟨i, hi, rfl⟩ := List.getElem_of_mem he
  rw [List.getElem_take]
  rw [List.length_take] at hi
  have := (List.pairwise_iff_getElem.1 hlt) i k (by omega) h (by omega)
  simp [this]
/-- the entries of a row of calls -/
theorem ents_of {w : World} {B : Nat} {A : Option Addr} {l : List Cl} (h : CRow w B A l) : ∃ E : List En, E.length = l.length ∧ E.map (·.c) = l ∧ ∀ k (hk : k < l.length) (hk' : k < E.length), E[k].c = l[k] ∧ E[k].at_ = k ∧ ∃ g o, A = some ⟨g, o, none⟩ ∧ g < B ∧ (∀ j, j < 6 → w.cell? ⟨g, o + k * 6 + j, none⟩ = (clc l[k] E[k].M E[k].m)[j]?) ∧ IRow w B E[k].M l[k].marks := by
  have hall : ∀ k : Fin l.length, ∃ e : En, e.c = l[k.1] ∧ e.at_ = k.1 ∧ ∃ g o, A = some ⟨g, o, none⟩ ∧ g < B ∧ (∀ j, j < 6 → w.cell? ⟨g, o + k.1 * 6 + j, none⟩ = (clc l[k.1] e.M e.m)[j]?) ∧ IRow w B e.M l[k.1].marks := fun k => by
    obtain ⟨g, o, M, c, e, hg, hc, hm, _⟩ := h k.1 k.2
    exact ⟨⟨l[k.1], M, c, k.1⟩, rfl, rfl, g, o, e, hg, hc, hm⟩
  obtain ⟨f, hf⟩ := Classical.axiomOfChoice hall
  refine ⟨List.ofFn f, by simp, ?_, fun k hk hk' => ?_⟩
  · apply List.ext_getElem
    · simp
    · intro i h1 h2
      simp only [List.getElem_map, List.getElem_ofFn]
      exact (hf ⟨i, h2⟩).1
  · simp only [List.getElem_ofFn]
    exact hf ⟨k, hk⟩
/-- the values, written entry by entry -/
theorem vals_done {r : Ru} {l : List Cl} {E E' : List En} (hE : E.map (·.c) = l) (hat : ∀ k (h : k < E.length), E[k].at_ = k) (hp : E'.Perm E) {lv : List Int} (hl : lv.length = l.length)
    (hv : ∀ j (h : j < E'.length), lv[E'[j].at_]? = some (valP r l E'[j].c)) : lv = l.map (valP r l) := by
  have hel : E.length = l.length := by rw [← hE]; simp
  apply List.ext_getElem
  · simpa using hl
  · intro i h1 h2
    have hi : i < E.length := by omega
    obtain ⟨j, hj, he⟩ := List.getElem_of_mem (hp.mem_iff.2 (List.getElem_mem hi))
    have h3 := hv j hj
    rw [he, hat i hi, List.getElem?_eq_getElem h1] at h3
    rw [List.getElem_map]
    have h4 : E[i].c = l[i]'(by omega) := by
      have : (E.map (·.c))[i]? = l[i]? := by rw [hE]
      rw [List.getElem?_eq_getElem (by simpa using hi), List.getElem?_eq_getElem (by omega)] at this
      simpa using this
    rw [h4] at h3
    exact Option.some.inj h3
/-- the values behind k entries; how often each element was seen -/
def LvP (r : Ru) (l : List Cl) (E' : List En) (k : Nat) (lv : List Int) : Prop := lv.length = l.length ∧ ∀ j (h : j < E'.length), lv[E'[j].at_]? = some (if j < k then valP r l E'[j].c else 0)
def TvP (nb : Nat) (E' : List En) (k : Nat) (tv : List Int) : Prop := tv.length = nb ∧ ∀ e : Nat, e < nb → tv[e]? = some (((E'.take k).countP (fun x => decide (x.c.element = (e : Int))) : Nat) : Int)
theorem LvP.start {r : Ru} {l : List Cl} {E' : List En} (h : ∀ j (h : j < E'.length), E'[j].at_ < l.length) : LvP r l E' 0 (List.replicate l.length 0) :=
  ⟨by simp, fun j hj => by rw [if_neg (by omega)]; simp [h j hj]⟩
theorem LvP.skip {r : Ru} {l : List Cl} {E' : List En} {k : Nat} {lv : List Int} (h : LvP r l E' k lv) (hk : k < E'.length) (h0 : valP r l E'[k].c = 0) : LvP r l E' (k + 1) lv :=
  ⟨h.1, fun j hj => by
    rw [h.2 j hj]
    rcases Nat.lt_trichotomy j k with h' | rfl | h'
    · rw [if_pos h', if_pos (by omega)]
    · rw [if_neg (by omega), if_pos (by omega), h0]
    · rw [if_neg (by omega), if_neg (by omega)]⟩
theorem LvP.put {r : Ru} {l : List Cl} {E' : List En} {k : Nat} {lv : List Int} (h : LvP r l E' k lv) (hk : k < E'.length) (hn : (E'.map (·.at_)).Nodup) (hb : E'[k].at_ < l.length) : LvP r l E' (k + 1) (lv.set E'[k].at_ (valP r l E'[k].c)) :=
  ⟨by rw [List.length_set]; exact h.1, fun j hj => by
    rcases Nat.lt_trichotomy j k with h' | rfl | h'
    · have hne : E'[k].at_ ≠ E'[j].at_ := by
        intro e
        have := (List.pairwise_iff_getElem.1 hn) j k (by simpa using hj) (by simpa using hk) h'
        simp only [List.getElem_map] at this
        exact this e.symm
      rw [List.getElem?_set_ne hne, h.2 j hj, if_pos h', if_pos (by omega)]
    · rw [List.getElem?_set_self (by rw [h.1]; exact hb), if_pos (by omega)]
    · have hne : E'[k].at_ ≠ E'[j].at_ := by
        intro e
        have := (List.pairwise_iff_getElem.1 hn) k j (by simpa using hk) (by simpa using hj) h'
        simp only [List.getElem_map] at this
        exact this e
      rw [List.getElem?_set_ne hne, h.2 j hj, if_neg (by omega), if_neg (by omega)]⟩
theorem TvP.start (nb : Nat) (E' : List En) : TvP nb E' 0 (List.replicate nb 0) := ⟨by simp, fun e he => by simp [he]⟩
theorem TvP.put {nb : Nat} {E' : List En} {k : Nat} {tv : List Int} (h : TvP nb E' k tv) (hk : k < E'.length) {el : Nat} (he : E'[k].c.element = (el : Int)) (hel : el < nb) {v : Int} (hv : tv[el]? = some v) : TvP nb E' (k + 1) (tv.set el (v + 1)) :=
  ⟨by rw [List.length_set]; exact h.1, fun e hlt => by
    rw [List.take_succ_eq_append_getElem hk, List.countP_append]
    by_cases hee : el = e
    · subst hee
      rw [List.getElem?_set_self (by rw [h.1]; exact hel)]
      have := h.2 el hel
      rw [hv] at this
      have h2 : v = _ := Option.some.inj this
      rw [h2]
      simp [he]
    · rw [List.getElem?_set_ne hee, h.2 e hlt]
      have : ¬ (el : Int) = (e : Int) := by omega
      simp [he, this]⟩
theorem TvP.val {nb : Nat} {E' : List En} {k : Nat} {tv : List Int} (h : TvP nb E' k tv) {el : Nat} (hel : el < nb) : ∃ v : Int, tv[el]? = some v ∧ v = (((E'.take k).countP (fun x => decide (x.c.element = (el : Int))) : Nat) : Int) ∧ 0 ≤ v ∧ v ≤ k := by
  refine ⟨_, h.2 el hel, rfl, by omega, ?_⟩
  have : (E'.take k).countP (fun x => decide (x.c.element = (el : Int))) ≤ (E'.take k).length := List.countP_le_length
  rw [List.length_take] at this
  omega
/-- all that is known of the sorted entries -/
structure EP (W : World) (r : Ru) (l : List Cl) (E' : List En) : Prop where
  len : E'.length = l.length
  row : ∀ e ∈ E', IRow W W.heap.size e.M e.c.marks ∧ VC e.c ∧ 0 ≤ e.c.element ∧ e.c.element < r.bases.length ∧ e.at_ < l.length
  nod : (E'.map (·.at_)).Nodup
  ah : ∀ k (h : k < E'.length), ahead l E'[k].c = (E'.take k).countP (fun e => decide (e.c.element = E'[k].c.element))
  done : ∀ lv, LvP r l E' l.length lv → lv = l.map (valP r l)
theorem ep_of {W : World} {r : Ru} {s : Sk} {A : Option Addr} {E E' : List En} (hvs : VS r s) (hEl : E.length = s.calls.length) (hEc : E.map (·.c) = s.calls)
    (hE : ∀ k (hk : k < s.calls.length) (hk' : k < E.length), E[k].c = s.calls[k] ∧ E[k].at_ = k ∧ ∃ g o, A = some ⟨g, o, none⟩ ∧ g < W.heap.size ∧ (∀ j, j < 6 → W.cell? ⟨g, o + k * 6 + j, none⟩ = (clc s.calls[k] E[k].M E[k].m)[j]?) ∧ IRow W W.heap.size E[k].M s.calls[k].marks)
    (hp : E'.Perm E) (hs : E'.Pairwise (fun a b => a.c.place ≤ b.c.place)) : EP W r s.calls E' := by
  have hat : ∀ k (h : k < E.length), E[k].at_ = k := fun k h => (hE k (by omega) h).2.1
  refine ⟨by rw [hp.length_eq, hEl], fun e he => ?_, ?_, fun k h => ahead_sorted hEc hp hs hvs.d h, fun lv h => ?_⟩
  · obtain ⟨i, hi, rfl⟩ := List.getElem_of_mem (hp.mem_iff.1 he)
    have hi' : i < s.calls.length := by omega
    obtain ⟨h1, h2, g, o, -, -, -, h3⟩ := hE i hi' hi
    obtain ⟨c1, c2, -⟩ := hvs.c s.calls[i] (List.getElem_mem hi')
    rw [h1, h2]
    exact ⟨h3, c1, c2.1, c2.2, hi'⟩
  · have h1 : (E'.map (·.at_)).Perm (List.range E.length) := by
      refine (hp.map _).trans ?_
      have : E.map (·.at_) = List.range E.length := by
        apply List.ext_getElem
        · simp
        · intro i h1 h2
          simp only [List.getElem_map, List.getElem_range]
          exact hat i (by simpa using h2)
      rw [this]
    exact h1.nodup_iff.2 List.nodup_range
  · refine vals_done hEc hat hp h.1 (fun j hj => ?_)
    rw [h.2 j hj, if_pos (by rw [hp.length_eq, hEl] at hj; exact hj)]
end Go.Proofs.Ytmclchaalmonnaa
