/- Plain: the greatest and the least mark of the others; places, if a judge gives other marks. -/
import Derived.Test.YtmclchaalmonnaaOuA
namespace Go.Proofs.Ytmclchaalmonnaa
/-- the greatest (or the least) of the first k marks that are not the judge's -/
def endK (most : Bool) (j : Nat) (l : List Int) : Nat → Option Int
  | 0 => none
  | k + 1 => if k = j then endK most j l k else match endK most j l k with
    | none => some (l.getD k 0)
    | some x => if (most && decide (x < l.getD k 0)) || (!most && decide (l.getD k 0 < x)) then some (l.getD k 0) else some x
def endV (most : Bool) (j : Nat) (l : List Int) : List Int := match endK most j l l.length with | none => l | some x => l.set j x
theorem endK_spec {most : Bool} {j : Nat} {l : List Int} : ∀ k, k ≤ l.length → match endK most j l k with
    | none => k = 0 ∨ (k = 1 ∧ j = 0)
    | some x => (∃ i, ∃ h : i < l.length, i < k ∧ i ≠ j ∧ x = l[i]) ∧ ∀ i (h : i < l.length), i < k → i ≠ j → if most then l[i] ≤ x else x ≤ l[i]
  | 0, _ => by simp [endK]
  | k + 1, hk => by
    have ih := endK_spec (most := most) (j := j) (l := l) k (by omega)
    have hg : l.getD k 0 = l[k] := by rw [List.getD_eq_getElem?_getD, List.getElem?_eq_getElem (by omega)]; rfl
    unfold endK
    by_cases hkj : k = j
    · rw [if_pos hkj]
      cases he : endK most j l k with
      | none => rw [he] at ih; simp only at ih ⊢; omega
      | some x =>
        rw [he] at ih
        obtain ⟨⟨i, hi, h1, h2, h3⟩, h4⟩ := ih
        exact ⟨⟨i, hi, by omega, h2, h3⟩, fun i h h' hne => h4 i h (by omega) hne⟩
    · rw [if_neg hkj]
      cases he : endK most j l k with
      | none =>
        rw [he] at ih
        simp only at ih ⊢
        refine ⟨⟨k, by omega, by omega, hkj, hg⟩, fun i h h' hne => ?_⟩
        have : i = k := by omega
        subst this
        rw [hg]; split <;> exact Int.le_refl _
      | some x =>
        rw [he] at ih
        obtain ⟨⟨i, hi, h1, h2, h3⟩, h4⟩ := ih
        simp only
        rw [hg]
        have hnew : ∀ i (h : i < l.length), i < k + 1 → i ≠ j → i < k ∨ i = k := fun i _ h _ => by omega
        cases most
        · by_cases hc : l[k] < x
          · rw [if_pos (by simp [hc])]
            refine ⟨⟨k, by omega, by omega, hkj, rfl⟩, fun i h h' hne => ?_⟩
            rcases hnew i h h' hne with h5 | h5
            · have := h4 i h h5 hne
              simp only [Bool.false_eq_true, if_false] at this ⊢
              omega
            · subst h5; simp
          · rw [if_neg (by simp; omega)]
            refine ⟨⟨i, hi, by omega, h2, h3⟩, fun i h h' hne => ?_⟩
            rcases hnew i h h' hne with h5 | h5
            · exact h4 i h h5 hne
            · subst h5; simp; omega
        · by_cases hc : x < l[k]
          · rw [if_pos (by simp [hc])]
            refine ⟨⟨k, by omega, by omega, hkj, rfl⟩, fun i h h' hne => ?_⟩
            rcases hnew i h h' hne with h5 | h5
            · have := h4 i h h5 hne
              simp only [if_true] at this ⊢
              omega
            · subst h5; simp
          · rw [if_neg (by simp; omega)]
            refine ⟨⟨i, hi, by omega, h2, h3⟩, fun i h h' hne => ?_⟩
            rcases hnew i h h' hne with h5 | h5
            · exact h4 i h h5 hne
            · subst h5; simp; omega
theorem endK_some {most : Bool} {j : Nat} {l : List Int} (h : 2 ≤ l.length) : ∃ x, endK most j l l.length = some x ∧ endV most j l = l.set j x ∧ (∃ i, ∃ h : i < l.length, i ≠ j ∧ x = l[i]) ∧ ∀ i (h : i < l.length), i ≠ j → if most then l[i] ≤ x else x ≤ l[i] := by
  have h1 := endK_spec (most := most) (j := j) (l := l) l.length (Nat.le_refl _)
  cases he : endK most j l l.length with
  | none => rw [he] at h1; simp only at h1; omega
  | some x =>
    rw [he] at h1
    obtain ⟨⟨i, hi, -, h2, h3⟩, h4⟩ := h1
    exact ⟨x, rfl, by unfold endV; rw [he], ⟨i, hi, h2, h3⟩, fun i h hne => h4 i h h hne⟩
/-- beyond the greatest, or the least, of the others one judge alone does nothing -/
theorem mid_end {l : List Int} {j : Nat} (hj : j < l.length) (h5 : 5 ≤ l.length) (x : Int) : (mid (endV false j l)).sum ≤ (mid (l.set j x)).sum ∧ (mid (l.set j x)).sum ≤ (mid (endV true j l)).sum := by
  have key : ∀ y : Int, ∃ a, (l.set j y)[0]? = some a ∧ (mid (l.set j y)).sum = l.sum + y - l[j] - lmax (l.set j y) a - lmin (l.set j y) a ∧ a ∈ l.set j y := fun y => by
    obtain ⟨a, ha⟩ : ∃ a, (l.set j y)[0]? = some a := ⟨(l.set j y)[0]'(by simp; omega), List.getElem?_eq_getElem _⟩
    refine ⟨a, ha, ?_, List.mem_of_getElem? ha⟩
    rw [mid_sum ha (by simpa using h5), sum_set hj]
  have mem : ∀ (y z : Int), z ∈ l.set j y → z = y ∨ ∃ i, ∃ h : i < l.length, i ≠ j ∧ z = l[i] := fun y z hz => by
    obtain ⟨i, hi, rfl⟩ := List.getElem_of_mem hz
    have hi' : i < l.length := by simpa using hi
    by_cases hij : i = j
    · subst hij; left; simp
    · right; exact ⟨i, hi', hij, List.getElem_set_ne (by omega) _⟩
  have mem2 : ∀ (y : Int) i (h : i < l.length), i ≠ j → l[i] ∈ l.set j y := fun y i h hne => by
    have : (l.set j y)[i]'(by simpa using h) = l[i] := List.getElem_set_ne (by omega) _
    rw [← this]; exact List.getElem_mem _
  have memx : ∀ y : Int, y ∈ l.set j y := fun y => List.mem_set hj y
  constructor
  · obtain ⟨m, -, hV, ⟨i, hi, hne, hmi⟩, hall⟩ := endK_some (most := false) (j := j) (l := l) (by omega)
    simp only [Bool.false_eq_true, if_false] at hall
    rw [hV]
    by_cases hx : m ≤ x
    · exact mid_two hj hx
    · obtain ⟨a, ha, e1, a1⟩ := key m
      obtain ⟨b, hb, e2, b1⟩ := key x
      rw [e1, e2]
      obtain ⟨⟨p1, p2⟩, p3⟩ := lmax_spec (l.set j m) a
      obtain ⟨⟨q1, q2⟩, q3⟩ := lmin_spec (l.set j m) a
      obtain ⟨⟨r1, r2⟩, r3⟩ := lmax_spec (l.set j x) b
      obtain ⟨⟨s1, s2⟩, s3⟩ := lmin_spec (l.set j x) b
      have hM : lmax (l.set j x) b ∈ l.set j x := r3.elim (fun e => by rw [e]; exact b1) id
      have hm : lmin (l.set j m) a ∈ l.set j m := q3.elim (fun e => by rw [e]; exact a1) id
      have t1 := s2 _ (memx x)
      have t2 : lmin (l.set j m) a = m := by
        have := q2 _ (memx m)
        rcases mem _ _ hm with e | ⟨i', hi', hne', e⟩
        · exact e
        · have := hall i' hi' hne'; omega
      have t3 : lmax (l.set j x) b ≤ lmax (l.set j m) a := by
        rcases mem _ _ hM with e | ⟨i', hi', hne', e⟩
        · have h1 := r2 _ (mem2 x i hi hne)
          have h2 := p2 _ (memx m)
          omega
        · rw [e]; exact p2 _ (mem2 m i' hi' hne')
      omega
  · obtain ⟨m, -, hV, ⟨i, hi, hne, hmi⟩, hall⟩ := endK_some (most := true) (j := j) (l := l) (by omega)
    simp only [if_true] at hall
    rw [hV]
    by_cases hx : x ≤ m
    · exact mid_two hj hx
    · obtain ⟨a, ha, e1, a1⟩ := key m
      obtain ⟨b, hb, e2, b1⟩ := key x
      rw [e1, e2]
      obtain ⟨⟨p1, p2⟩, p3⟩ := lmax_spec (l.set j m) a
      obtain ⟨⟨q1, q2⟩, q3⟩ := lmin_spec (l.set j m) a
      obtain ⟨⟨r1, r2⟩, r3⟩ := lmax_spec (l.set j x) b
      obtain ⟨⟨s1, s2⟩, s3⟩ := lmin_spec (l.set j x) b
      have hM : lmax (l.set j m) a ∈ l.set j m := p3.elim (fun e => by rw [e]; exact a1) id
      have hm : lmin (l.set j x) b ∈ l.set j x := s3.elim (fun e => by rw [e]; exact b1) id
      have t1 := r2 _ (memx x)
      have t2 : lmax (l.set j m) a = m := by
        have := p2 _ (memx m)
        rcases mem _ _ hM with e | ⟨i', hi', hne', e⟩
        · exact e
        · have := hall i' hi' hne'; omega
      have t3 : lmin (l.set j m) a ≤ lmin (l.set j x) b := by
        rcases mem _ _ hm with e | ⟨i', hi', hne', e⟩
        · have h1 := s2 _ (mem2 x i hi hne)
          have h2 := q2 _ (memx m)
          omega
        · rw [e]; exact q2 _ (mem2 m i' hi' hne')
      omega
/-- a skating in which the judge gives the greatest, or the least, mark of the others -/
def endS (most : Bool) (j : Nat) (s : Sk) : Sk := ⟨s.calls.map fun c => { c with marks := endV most j c.marks }, s.parts.map (endV most j), s.over⟩
theorem endV_len (most : Bool) (j : Nat) (l : List Int) : (endV most j l).length = l.length := by unfold endV; split <;> simp
theorem endV_all {most : Bool} {j : Nat} {l : List Int} {lo hi : Int} (h : allB l lo hi = true) : allB (endV most j l) lo hi = true := by
  by_cases h2 : 2 ≤ l.length
  · obtain ⟨x, -, hV, ⟨i, hi', -, e⟩, -⟩ := endK_some (most := most) (j := j) (l := l) h2
    rw [hV]
    refine allB_set h ?_
    have := List.all_eq_true.1 h x (by rw [e]; exact List.getElem_mem _)
    simpa [inB] using this
  · have h1 := endK_spec (most := most) (j := j) (l := l) l.length (Nat.le_refl _)
    unfold endV
    cases he : endK most j l l.length with
    | none => exact h
    | some x =>
      rw [he] at h1
      obtain ⟨⟨i, hi', -, -, e⟩, -⟩ := h1
      refine allB_set h ?_
      have := List.all_eq_true.1 h x (by rw [e]; exact List.getElem_mem _)
      simpa [inB] using this
theorem end_same (most : Bool) (j : Nat) (s : Sk) : Same s (endS most j s) := by
  refine ⟨?_, ?_, rfl⟩
  · simp only [endS, List.map_map]
    apply List.map_congr_left
    intro c _
    simp [keyC, endV_len]
  · simp only [endS, List.map_map]
    apply List.map_congr_left
    intro c _
    simp [endV_len]
theorem end_ok {r : Ru} {s : Sk} (most : Bool) (j : Nat) (hs : contestB r [s] = true) : contestB r [endS most j s] = true := by
  obtain ⟨n, hn⟩ := contest_one.1 hs
  refine (end_same most j s).ok (fun c hc => ?_) (fun m hm => ?_) hs
  · obtain ⟨d, hd, rfl⟩ := List.mem_map.1 hc
    have h2 := hn.c _ hd
    simp only [clB, Bool.and_eq_true] at h2
    exact endV_all h2.2.2.2.2
  · obtain ⟨d, hd, rfl⟩ := List.mem_map.1 hm
    exact endV_all (hn.p _ hd).2
theorem out_le {r : Ru} {s : Sk} {j : Nat} {f g : Nat → Int} (hr : contestB r [s] = true) (hc : ∀ c ∈ s.calls, j < c.marks.length ∧ 5 ≤ c.marks.length) (hp : ∀ m ∈ s.parts, j < m.length ∧ 5 ≤ m.length)
    (hf : ∀ i, i < s.calls.length → -5 ≤ f i ∧ f i ≤ 5) (hg : ∀ i, i < s.parts.length → 0 ≤ g i ∧ g i ≤ 40) : LeSc (progP r (endS false j s)) (progP r (putS s j f g)) ∧ LeSc (progP r (putS s j f g)) (progP r (endS true j s)) := by
  have h1 := contest_ok (end_ok false j hr)
  have h2 := contest_ok (put_ok (j := j) hf hg hr)
  constructor
  · refine prog_le h1.1 (h1.2 _ List.mem_cons_self) ((end_same false j s).two (put_same s j f g)) ⟨fun i h1 h2 => ?_, fun i h1 h2 => ?_⟩
    · have hi : i < s.calls.length := by simpa [endS] using h1
      simp only [putS, endS, List.getElem_mapIdx, List.getElem_map, markC]
      have h := hc _ (List.getElem_mem hi)
      exact (mid_end h.1 h.2 _).1
    · have hi : i < s.parts.length := by simpa [endS] using h1
      simp only [putS, endS, List.getElem_mapIdx, List.getElem_map]
      have h := hp _ (List.getElem_mem hi)
      exact (mid_end h.1 h.2 _).1
  · refine prog_le h2.1 (h2.2 _ List.mem_cons_self) ((put_same s j f g).two (end_same true j s)) ⟨fun i h1 h2 => ?_, fun i h1 h2 => ?_⟩
    · have hi : i < s.calls.length := by simpa [endS] using h2
      simp only [putS, endS, List.getElem_mapIdx, List.getElem_map, markC]
      have h := hc _ (List.getElem_mem hi)
      exact (mid_end h.1 h.2 _).2
    · have hi : i < s.parts.length := by simpa [endS] using h2
      simp only [putS, endS, List.getElem_mapIdx, List.getElem_map]
      have h := hp _ (List.getElem_mem hi)
      exact (mid_end h.1 h.2 _).2
end Go.Proofs.Ytmclchaalmonnaa
