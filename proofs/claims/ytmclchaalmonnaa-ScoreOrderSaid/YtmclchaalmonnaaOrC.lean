/- Plain: the skating in another order. -/
import Derived.Test.YtmclchaalmonnaaOrB
namespace Go.Proofs.Ytmclchaalmonnaa
/-- which element comes i-th -/
def kap (n t : Nat) (back : Bool) (i : Nat) : Nat := if back then n - 1 - (i + t) % n else (i + t) % n
theorem kap_lt {n : Nat} (h : 0 < n) (t : Nat) (back : Bool) (i : Nat) : kap n t back i < n := by
  have := Nat.mod_lt (i + t) h
  unfold kap
  split <;> omega
theorem rot_perm (n t : Nat) : ((List.range n).map fun i => (i + t) % n).Perm (List.range n) := by
  have h := turnN_perm ((List.range n).map fun i : Nat => (i : Int)) t
  have h2 := h.map Int.toNat
  have e1 : (turnN ((List.range n).map fun i : Nat => (i : Int)) t).map Int.toNat = (List.range n).map fun i => (i + t) % n := by
    apply List.ext_getElem
    · simp [turnN]
    · intro i h1 h2
      have hi : i < n := by simpa using h2
      have hm : (i + t) % n < n := Nat.mod_lt _ (by omega)
      simp only [turnN, List.getElem_map, List.getElem_range, List.length_map, List.length_range]
      rw [List.getD_eq_getElem?_getD, List.getElem?_eq_getElem (by simpa using hm)]
      simp only [Option.getD_some, List.getElem_map, List.getElem_range]
      exact Int.toNat_natCast _
  have e2 : ((List.range n).map fun i : Nat => (i : Int)).map Int.toNat = List.range n := by
    apply List.ext_getElem
    · simp
    · intro i h1 h2; simp
  rwa [e1, e2] at h2
theorem kap_perm (n t : Nat) (back : Bool) : ((List.range n).map (kap n t back)).Perm (List.range n) := by
  cases back
  · exact rot_perm n t
  · have h := (rot_perm n t).map (fun q => n - 1 - q)
    have e1 : ((List.range n).map fun i => (i + t) % n).map (fun q => n - 1 - q) = (List.range n).map (kap n t true) := by
      rw [List.map_map]; rfl
    have e2 : (List.range n).map (fun q => n - 1 - q) = (List.range n).reverse := by
      apply List.ext_getElem
      · simp
      · intro i h1 h2
        simp
    rw [e1, e2] at h
    exact h.trans (List.reverse_perm _)
def cl0 : Cl := ⟨0, 0, 0, false, false, []⟩
def callO (s : Sk) (t j : Nat) (back : Bool) (i : Nat) : Cl := turnC j (s.calls.getD (kap s.calls.length t back i) cl0)
def partO (s : Sk) (t j : Nat) (i : Nat) : List Int := turnN (s.parts.getD ((i + t) % s.parts.length) []) j
def otherS (s : Sk) (t j : Nat) (back : Bool) : Sk := ⟨(List.range s.calls.length).map (callO s t j back), (List.range s.parts.length).map (partO s t j), s.over⟩
theorem map_getD {α β : Type} (f : α → β) (l : List α) (d : α) : (List.range l.length).map (fun i => f (l.getD i d)) = l.map f := by
  apply List.ext_getElem
  · simp
  · intro i h1 h2
    have hi : i < l.length := by simpa using h2
    simp only [List.getElem_map, List.getElem_range]
    rw [List.getD_eq_getElem?_getD, List.getElem?_eq_getElem hi]
    rfl
theorem other_calls (s : Sk) (t j : Nat) (back : Bool) : (otherS s t j back).calls.Perm (s.calls.map (turnC j)) := by
  have h := (kap_perm s.calls.length t back).map (fun q => turnC j (s.calls.getD q cl0))
  rw [List.map_map, map_getD] at h
  exact h
theorem other_parts (s : Sk) (t j : Nat) (back : Bool) : (otherS s t j back).parts.Perm (s.parts.map fun m => turnN m j) := by
  have h := (rot_perm s.parts.length t).map (fun q => turnN (s.parts.getD q []) j)
  rw [List.map_map] at h
  have e := map_getD (fun m => turnN m j) s.parts []
  rw [e] at h
  exact h
theorem other_prog (r : Ru) (s : Sk) (t j : Nat) (back : Bool) : progR r (otherS s t j back) = progR r s := progR_turn (other_calls s t j back) (other_parts s t j back) rfl
/-- what is wanted: the values, in the new order -/
def wantP (n t : Nat) (back : Bool) (vl : List Int) (k : Nat) : List Int := ((List.range k).map (kap n t back)).filterMap fun q => vl[q]?
theorem want_succ (n t : Nat) (back : Bool) (vl : List Int) (k : Nat) : wantP n t back vl (k + 1) = wantP n t back vl k ++ (match vl[kap n t back k]? with | some x => [x] | none => []) := by
  unfold wantP
  rw [List.range_succ, List.map_append, List.filterMap_append]
  congr 1
  cases h : vl[kap n t back k]? <;> simp [h]
theorem want_len (n t : Nat) (back : Bool) (vl : List Int) (k : Nat) : (wantP n t back vl k).length ≤ k := by
  have := List.length_filterMap_le (fun q => vl[q]?) ((List.range k).map (kap n t back))
  simpa [wantP] using this
theorem filterMap_all {α β : Type} {f : α → Option β} {g : α → β} : ∀ {l : List α}, (∀ a ∈ l, f a = some (g a)) → l.filterMap f = l.map g
  | [], _ => rfl
  | a :: l, h => by
    rw [List.filterMap_cons_some (h a List.mem_cons_self), List.map_cons, filterMap_all (fun x hx => h x (List.mem_cons_of_mem _ hx))]
theorem other_vals (r : Ru) (s : Sk) (t j : Nat) (back : Bool) : valsR r (otherS s t j back) = (wantP s.calls.length t back (valsR r s).1 s.calls.length, (valsR r s).2) := by
  rw [valsR_ct, valsR_ct, contest_turn (other_calls s t j back) (other_parts s t j back) rfl]
  by_cases hc : contestB r [s] = true
  · rw [if_pos hc, if_pos hc]
    congr 1
    unfold wantP
    have hl : (valsP r s).length = s.calls.length := by simp [valsP]
    have hg : ∀ q ∈ (List.range s.calls.length).map (kap s.calls.length t back), (valsP r s)[q]? = some (valP r s.calls (s.calls.getD q cl0)) := fun q hq => by
      obtain ⟨i, hi, rfl⟩ := List.mem_map.1 hq
      have hn : 0 < s.calls.length := by have := List.mem_range.1 hi; omega
      have hk := kap_lt hn t back i
      rw [List.getElem?_eq_getElem (by rw [hl]; exact hk), List.getD_eq_getElem?_getD, List.getElem?_eq_getElem hk]
      simp [valsP]
    simp only
    rw [filterMap_all hg, List.map_map]
    have h0 : valsP r (otherS s t j back) = (List.range s.calls.length).map fun i => valP r (otherS s t j back).calls (callO s t j back i) := by
      show List.map _ (List.map _ _) = _
      rw [List.map_map]; rfl
    rw [h0]
    apply List.map_congr_left
    intro i _
    exact valP_turn (other_calls s t j back) _
  · rw [if_neg hc, if_neg hc]
    simp only
    congr 1
    unfold wantP
    simp
theorem vals_sum (r : Ru) (s : Sk) (h : contestB r [s] = true) : ((valsR r s).1).length = s.calls.length ∧ ((valsR r s).1).sum = (progR r s).1.elements := by
  rw [valsR_ct, progR_ct, if_pos h, if_pos h]
  exact ⟨by simp [valsP], rfl⟩
end Go.Proofs.Ytmclchaalmonnaa
