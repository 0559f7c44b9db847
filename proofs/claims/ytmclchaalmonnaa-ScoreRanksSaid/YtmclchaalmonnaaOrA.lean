/- Plain: the order of marks, of calls does not matter. -/
import Derived.Test.YtmclchaalmonnaaTuA
namespace Go.Proofs.Ytmclchaalmonnaa
theorem turnN_rot (l : List Int) (n : Nat) : turnN l n = l.drop (n % l.length) ++ l.take (n % l.length) := by
  rcases Nat.eq_zero_or_pos l.length with h0 | h0
  · have : l = [] := List.eq_nil_of_length_eq_zero h0
    subst this
    simp [turnN]
  have hm := Nat.mod_lt n h0
  apply List.ext_getElem
  · simp [turnN]; omega
  · intro i h1 h2
    have hi : i < l.length := by simpa [turnN] using h1
    have hq : (i + n) % l.length = if i + n % l.length < l.length then i + n % l.length else i + n % l.length - l.length := by
      rw [Nat.add_mod, Nat.mod_eq_of_lt hi]
      split
      · rename_i h; exact Nat.mod_eq_of_lt h
      · rename_i h
        rw [Nat.mod_eq_sub_mod (by omega), Nat.mod_eq_of_lt (by omega)]
    have hlt : (i + n) % l.length < l.length := Nat.mod_lt _ h0
    simp only [turnN, List.getElem_map, List.getElem_range]
    rw [List.getD_eq_getElem?_getD, List.getElem?_eq_getElem hlt, Option.getD_some]
    rw [List.getElem_append]
    split
    · rename_i h
      simp only [List.length_drop] at h
      rw [List.getElem_drop]
      congr 1
      rw [hq, if_pos (by omega)]
      omega
    · rename_i h
      simp only [List.length_drop] at h
      rw [List.getElem_take]
      congr 1
      simp only [List.length_drop]
      rw [hq, if_neg (by omega)]
      omega
theorem turnN_perm (l : List Int) (n : Nat) : (turnN l n).Perm l := by
  rw [turnN_rot]
  refine List.perm_append_comm.trans ?_
  rw [List.take_append_drop]
theorem srt_of_perm {l m : List Int} (h : l.Perm m) : srt l = srt m := sorted_unique (((srt_perm l).trans h).trans (srt_perm m).symm) (srt_sorted l) (srt_sorted m)
theorem mid_of_perm {l m : List Int} (h : l.Perm m) : mid l = mid m := by
  unfold mid
  rw [srt_of_perm h, h.length_eq]
theorem part_of_perm (f : Int) {l m : List Int} (h : l.Perm m) : partP f l = partP f m := by
  unfold partP
  rw [mid_of_perm h]
def turnC (n : Nat) (c : Cl) : Cl := { c with marks := turnN c.marks n }
theorem val_turn (b : Int) (n : Nat) (c : Cl) : valC b (turnC n c) = valC b c := by
  unfold valC turnC
  simp only [mid_of_perm (turnN_perm c.marks n)]
theorem ahead_of_perm {l m : List Cl} (h : l.Perm m) (c : Cl) : ahead l c = ahead m c := h.countP_eq _
theorem ahead_turn (n : Nat) (l : List Cl) (c : Cl) : ahead (l.map (turnC n)) (turnC n c) = ahead l c := by
  unfold ahead
  rw [List.countP_map]
  rfl
theorem valP_turn {r : Ru} {n : Nat} {l m : List Cl} (h : m.Perm (l.map (turnC n))) (c : Cl) : valP r m (turnC n c) = valP r l c := by
  unfold valP
  rw [ahead_of_perm h, ahead_turn, val_turn]
  rfl
theorem falls_of_perm {l m : List Cl} (h : l.Perm m) : fallsP l = fallsP m := h.countP_eq _
theorem falls_turn (n : Nat) (l : List Cl) : fallsP (l.map (turnC n)) = fallsP l := by
  unfold fallsP
  rw [List.countP_map]
  rfl
/-- the score of a skating whose calls lie in another order, each with its marks turned, and whose parts do -/
theorem prog_turn {r : Ru} {s t : Sk} {n : Nat} (hc : t.calls.Perm (s.calls.map (turnC n))) (hp : t.parts.Perm (s.parts.map fun m => turnN m n)) (ho : t.over = s.over) : progP r t = progP r s := by
  have h1 : (valsP r t).sum = (valsP r s).sum := by
    unfold valsP
    have h2 : (t.calls.map (valP r t.calls)).Perm ((s.calls.map (turnC n)).map (valP r t.calls)) := hc.map _
    rw [perm_sum h2, List.map_map]
    congr 1
    apply List.map_congr_left
    intro c _
    exact valP_turn hc c
  have h3 : partsP r t = partsP r s := by
    unfold partsP
    rw [perm_sum (hp.map (partP r.factor)), List.map_map]
    congr 1
    apply List.map_congr_left
    intro m _
    exact part_of_perm _ (turnN_perm m n)
  have h4 : offP t = offP s := by
    unfold offP
    rw [falls_of_perm hc, falls_turn, ho]
  unfold progP
  rw [h1, h3, h4]
end Go.Proofs.Ytmclchaalmonnaa
