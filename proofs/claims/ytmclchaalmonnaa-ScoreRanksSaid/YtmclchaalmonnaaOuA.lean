/- Plain: a judge gives other marks: what is the same, and what is no less; the marks of the others; places, and both their ends. -/
import Derived.Test.YtmclchaalmonnaaOrB
import Derived.Test.YtmclchaalmonnaaMoA
namespace Go.Proofs.Ytmclchaalmonnaa
/-- all of a call but its marks -/
def keyC (c : Cl) : Int × Int × Int × Bool × Bool × Nat := (c.place, c.element, c.under, c.late, c.fall, c.marks.length)
/-- the same but for marks -/
structure Same (s t : Sk) : Prop where
  c : t.calls.map keyC = s.calls.map keyC
  p : t.parts.map List.length = s.parts.map List.length
  o : t.over = s.over
theorem map_at {α β : Type} {f : α → β} {l m : List α} (h : l.map f = m.map f) {i : Nat} (h1 : i < l.length) (h2 : i < m.length) : f l[i] = f m[i] := by
  have : (l.map f)[i]? = (m.map f)[i]? := by rw [h]
  rw [List.getElem?_map, List.getElem?_map, List.getElem?_eq_getElem h1, List.getElem?_eq_getElem h2] at this
  simpa using this
theorem map_comp {α β γ : Type} {f : α → β} (g : β → γ) {l m : List α} (h : l.map f = m.map f) : l.map (fun x => g (f x)) = m.map (fun x => g (f x)) := by
  have e : (l.map f).map g = (m.map f).map g := by rw [h]
  rw [List.map_map, List.map_map] at e
  exact e
section
variable {s t : Sk} {r : Ru}
theorem Same.lc (h : Same s t) : t.calls.length = s.calls.length := by simpa using congrArg List.length h.c
theorem Same.lp (h : Same s t) : t.parts.length = s.parts.length := by simpa using congrArg List.length h.p
theorem Same.one {n : Nat} (h : Same s t) (hm : ∀ c ∈ t.calls, allB c.marks (-5) 5 = true) (hp : ∀ m ∈ t.parts, allB m 0 40 = true) (hs : OneC r s n) : OneC r t n := by
  refine ⟨hs.ru, by rw [h.lc]; exact hs.nc, by rw [h.lp]; exact hs.np, by rw [h.o]; exact hs.o, ?_, ?_, fun c hc => ?_, fun m hm2 => ⟨?_, hp m hm2⟩⟩
  · have e : t.calls.map (·.place) = s.calls.map (·.place) := map_comp (fun k => k.1) h.c
    rw [e]; exact hs.nd
  · rcases hs.nn with h1 | h1
    · exact .inl ⟨List.eq_nil_of_length_eq_zero (by rw [h.lc, h1.1]; rfl), List.eq_nil_of_length_eq_zero (by rw [h.lp, h1.2]; rfl)⟩
    · exact .inr h1
  · have h2 := hm c hc
    obtain ⟨i, hi, rfl⟩ := List.getElem_of_mem hc
    have hi2 : i < s.calls.length := by rw [← h.lc]; exact hi
    have hk := map_at h.c hi hi2
    have h3 := hs.c _ (List.getElem_mem hi2)
    simp only [keyC, Prod.mk.injEq] at hk
    simp only [clB, Bool.and_eq_true, decide_eq_true_eq] at h3 ⊢
    obtain ⟨e1, e2, e3, -, -, e6⟩ := hk
    rw [e1, e2, e3, e6]
    exact ⟨h3.1, h3.2.1, h3.2.2.1, h3.2.2.2.1, h2⟩
  · obtain ⟨i, hi, rfl⟩ := List.getElem_of_mem hm2
    have hi2 : i < s.parts.length := by rw [← h.lp]; exact hi
    rw [map_at h.p hi hi2]
    exact (hs.p _ (List.getElem_mem hi2)).1
theorem Same.ok (h : Same s t) (hm : ∀ c ∈ t.calls, allB c.marks (-5) 5 = true) (hp : ∀ m ∈ t.parts, allB m 0 40 = true) (hs : contestB r [s] = true) : contestB r [t] = true := by
  obtain ⟨n, hn⟩ := contest_one.1 hs
  exact contest_one.2 ⟨n, h.one hm hp hn⟩
theorem Same.ahead (h : Same s t) (c : Cl) : ahead t.calls c = ahead s.calls c := by
  rw [ahead_map, ahead_map]
  have e : t.calls.map (fun d => (d.element, d.place)) = s.calls.map (fun d => (d.element, d.place)) := map_comp (fun k => (k.2.1, k.1)) h.c
  rw [e]
theorem Same.off (h : Same s t) : offP t = offP s := by
  have hm : ∀ l : List Cl, fallsP l = (l.map (·.fall)).countP id := fun l => by unfold fallsP; rw [List.countP_map]; rfl
  have e : t.calls.map (·.fall) = s.calls.map (·.fall) := map_comp (fun k => k.2.2.2.2.1) h.c
  unfold offP
  rw [hm, hm, e, h.o]
end
theorem sum_le : ∀ {l m : List Int}, l.length = m.length → (∀ i (h1 : i < l.length) (h2 : i < m.length), l[i] ≤ m[i]) → l.sum ≤ m.sum
  | [], [], _, _ => Int.le_refl _
  | [], _ :: _, h, _ => by cases h
  | _ :: _, [], h, _ => by cases h
  | a :: l, b :: m, h, hi => by
    have h1 : a ≤ b := hi 0 (by simp) (by simp)
    have h2 := sum_le (l := l) (m := m) (by simpa using h) (fun i h1 h2 => by have := hi (i + 1) (by simpa using h1) (by simpa using h2); simpa using this)
    simp only [List.sum_cons]
    omega
/-- no mark that counts is less -/
structure LeS (s t : Sk) : Prop where
  c : ∀ i (h1 : i < s.calls.length) (h2 : i < t.calls.length), (mid s.calls[i].marks).sum ≤ (mid t.calls[i].marks).sum
  p : ∀ i (h1 : i < s.parts.length) (h2 : i < t.parts.length), (mid s.parts[i]).sum ≤ (mid t.parts[i]).sum
theorem LeS.trans {s t u : Sk} (h : LeS s t) (k : LeS t u) (hc : t.calls.length = s.calls.length) (hp : t.parts.length = s.parts.length) : LeS s u :=
  ⟨fun i h1 h2 => Int.le_trans (h.c i h1 (by omega)) (k.c i (by omega) h2), fun i h1 h2 => Int.le_trans (h.p i h1 (by omega)) (k.p i (by omega) h2)⟩
theorem val_le {b : Int} {c d : Cl} (hb : 0 ≤ b) (hu : 0 ≤ c.under ∧ c.under ≤ 2) (hk : keyC d = keyC c) (hm : (mid c.marks).sum ≤ (mid d.marks).sum) (h1 : 1 ≤ c.marks.length) : valC b c ≤ valC b d := by
  simp only [keyC, Prod.mk.injEq] at hk
  obtain ⟨-, -, e3, e4, -, e6⟩ := hk
  have hl : (mid d.marks).length = (mid c.marks).length := by rw [mid_length, mid_length, e6]
  have hl1 : 1 ≤ ((mid c.marks).length : Int) := by
    rw [mid_length]
    split <;> omega
  have hp : 0 ≤ b * (10 - 2 * c.under) := Int.mul_nonneg hb (by omega)
  unfold valC
  rw [hl, e3, e4]
  have := rnd_mono (Int.mul_le_mul_of_nonneg_right hm hp) (show 1 ≤ 100 * ((mid c.marks).length : Int) by omega)
  omega
theorem part_le {f : Int} {m n : List Int} (hf : 0 ≤ f) (hl : n.length = m.length) (h1 : 1 ≤ m.length) (hm : (mid m).sum ≤ (mid n).sum) : partP f m ≤ partP f n := by
  have hl2 : (mid n).length = (mid m).length := by rw [mid_length, mid_length, hl]
  have hl1 : 1 ≤ ((mid m).length : Int) := by
    rw [mid_length]
    split <;> omega
  unfold partP
  rw [hl2]
  exact rnd_mono (Int.mul_le_mul_of_nonneg_right hm hf) (by omega)
/-- no score is less -/
structure LeSc (a b : Sc) : Prop where
  e : a.elements ≤ b.elements
  p : a.parts ≤ b.parts
  t : a.total ≤ b.total
theorem LeSc.trans {a b c : Sc} (h : LeSc a b) (k : LeSc b c) : LeSc a c := ⟨Int.le_trans h.e k.e, Int.le_trans h.p k.p, Int.le_trans h.t k.t⟩
theorem prog_le {r : Ru} {s t : Sk} (hr : VR r) (hs : VS r s) (h : Same s t) (hle : LeS s t) : LeSc (progP r s) (progP r t) := by
  have h1 : (valsP r s).sum ≤ (valsP r t).sum := by
    refine sum_le (by simp [valsP, h.lc]) fun i h1 h2 => ?_
    have h1' : i < s.calls.length := by simpa [valsP] using h1
    have h2' : i < t.calls.length := by simpa [valsP] using h2
    simp only [valsP, List.getElem_map]
    have hk := map_at h.c h2' h1'
    obtain ⟨hvc, hel, -⟩ := hs.c _ (List.getElem_mem h1')
    have hb : 0 ≤ r.bases.getD s.calls[i].element.toNat 0 := by
      rw [List.getD_eq_getElem?_getD, List.getElem?_eq_getElem (show s.calls[i].element.toNat < r.bases.length by omega)]
      exact (hr.b _ (List.getElem_mem _)).1
    have hk2 := hk
    simp only [keyC, Prod.mk.injEq] at hk2
    have ha : ahead t.calls t.calls[i] = ahead s.calls s.calls[i] := by
      rw [h.ahead]
      unfold ahead
      rw [hk2.1, hk2.2.1]
    unfold valP
    rw [ha, hk2.2.1]
    split
    · exact val_le hb hvc.under hk (hle.c i h1' h2') hvc.l1
    · exact Int.le_refl _
  have h2 : partsP r s ≤ partsP r t := by
    refine sum_le (by simp [h.lp]) fun i h1 h2 => ?_
    have h1' : i < s.parts.length := by simpa using h1
    have h2' : i < t.parts.length := by simpa using h2
    simp only [List.getElem_map]
    exact part_le hr.f.1 (map_at h.p h2' h1') (hs.p _ (List.getElem_mem h1')).1 (hle.p i h1' h2')
  have h3 := h.off
  refine ⟨h1, h2, ?_⟩
  show max _ _ ≤ max _ _
  rw [h3]
  omega
/-- a judge gives what is told, call by call, part by part -/
def putS (s : Sk) (j : Nat) (f g : Nat → Int) : Sk := ⟨s.calls.mapIdx fun i c => markC j (f i) c, s.parts.mapIdx fun i m => m.set j (g i), s.over⟩
theorem put_same (s : Sk) (j : Nat) (f g : Nat → Int) : Same s (putS s j f g) := by
  refine ⟨?_, ?_, rfl⟩
  · apply List.ext_getElem
    · simp [putS]
    · intro i h1 h2
      simp [putS, keyC, markC]
  · apply List.ext_getElem
    · simp [putS]
    · intro i h1 h2
      simp [putS]
theorem mark_put (s : Sk) (j : Nat) (g q : Int) : markP s j g q = putS s j (fun _ => g) (fun _ => q) := by
  unfold markP putS
  congr 1
  · apply List.ext_getElem
    · simp
    · intro i h1 h2; simp
  · apply List.ext_getElem
    · simp
    · intro i h1 h2; simp
theorem allB_set {l : List Int} {lo hi x : Int} {j : Nat} (h : allB l lo hi = true) (hx : lo ≤ x ∧ x ≤ hi) : allB (l.set j x) lo hi = true := by
  unfold allB at h ⊢
  rw [List.all_eq_true] at h ⊢
  intro z hz
  rcases List.mem_or_eq_of_mem_set hz with e | e
  · exact h z e
  · subst e; simp [inB]; exact hx
theorem put_ok {r : Ru} {s : Sk} {j : Nat} {f g : Nat → Int} (hf : ∀ i, i < s.calls.length → -5 ≤ f i ∧ f i ≤ 5) (hg : ∀ i, i < s.parts.length → 0 ≤ g i ∧ g i ≤ 40) (hs : contestB r [s] = true) : contestB r [putS s j f g] = true := by
  obtain ⟨n, hn⟩ := contest_one.1 hs
  refine (put_same s j f g).ok (fun c hc => ?_) (fun m hm => ?_) hs
  · obtain ⟨i, hi, rfl⟩ := List.getElem_of_mem hc
    have hi' : i < s.calls.length := by simpa [putS] using hi
    simp only [putS, List.getElem_mapIdx, markC]
    have h2 := hn.c _ (List.getElem_mem hi')
    simp only [clB, Bool.and_eq_true] at h2
    exact allB_set h2.2.2.2.2 (hf i hi')
  · obtain ⟨i, hi, rfl⟩ := List.getElem_of_mem hm
    have hi' : i < s.parts.length := by simpa [putS] using hi
    simp only [putS, List.getElem_mapIdx]
    exact allB_set (hn.p _ (List.getElem_mem hi')).2 (hg i hi')
theorem mid_two {l : List Int} {j : Nat} (h : j < l.length) {x y : Int} (hx : x ≤ y) : (mid (l.set j x)).sum ≤ (mid (l.set j y)).sum := by
  have := mid_set (l := l.set j x) (j := j) (by simpa using h) (x := y) (by simpa using hx)
  rwa [List.set_set] at this
/-- more from the judge -/
theorem put_le {s : Sk} {j : Nat} {f g f' g' : Nat → Int} (hc : ∀ c ∈ s.calls, j < c.marks.length) (hp : ∀ m ∈ s.parts, j < m.length) (hf : ∀ i, i < s.calls.length → f i ≤ f' i) (hg : ∀ i, i < s.parts.length → g i ≤ g' i) : LeS (putS s j f g) (putS s j f' g') := by
  refine ⟨fun i h1 h2 => ?_, fun i h1 h2 => ?_⟩
  · have hi' : i < s.calls.length := by simpa [putS] using h1
    simp only [putS, List.getElem_mapIdx, markC]
    exact mid_two (hc _ (List.getElem_mem hi')) (hf i hi')
  · have hi' : i < s.parts.length := by simpa [putS] using h1
    simp only [putS, List.getElem_mapIdx]
    exact mid_two (hp _ (List.getElem_mem hi')) (hg i hi')
/-- two skatings that are the same but for marks as a third -/
theorem Same.two {s t u : Sk} (h : Same s t) (k : Same s u) : Same t u := ⟨k.c.trans h.c.symm, k.p.trans h.p.symm, k.o.trans h.o.symm⟩
/-- as it was given, and with the least, and the most -/
theorem put_low {s : Sk} {j : Nat} {f g : Nat → Int} (hc : ∀ c ∈ s.calls, j < c.marks.length) (hp : ∀ m ∈ s.parts, j < m.length) (hf : ∀ i (h : i < s.calls.length) (h' : j < s.calls[i].marks.length), f i ≤ s.calls[i].marks[j]) (hg : ∀ i (h : i < s.parts.length) (h' : j < s.parts[i].length), g i ≤ s.parts[i][j]) : LeS (putS s j f g) s := by
  refine ⟨fun i h1 h2 => ?_, fun i h1 h2 => ?_⟩
  · simp only [putS, List.getElem_mapIdx, markC]
    have hj := hc _ (List.getElem_mem h2)
    have := mid_two hj (hf i h2 hj)
    rwa [List.set_getElem_self] at this
  · simp only [putS, List.getElem_mapIdx]
    have hj := hp _ (List.getElem_mem h2)
    have := mid_two hj (hg i h2 hj)
    rwa [List.set_getElem_self] at this
theorem put_high {s : Sk} {j : Nat} {f g : Nat → Int} (hc : ∀ c ∈ s.calls, j < c.marks.length) (hp : ∀ m ∈ s.parts, j < m.length) (hf : ∀ i (h : i < s.calls.length) (h' : j < s.calls[i].marks.length), s.calls[i].marks[j] ≤ f i) (hg : ∀ i (h : i < s.parts.length) (h' : j < s.parts[i].length), s.parts[i][j] ≤ g i) : LeS s (putS s j f g) := by
  refine ⟨fun i h1 h2 => ?_, fun i h1 h2 => ?_⟩
  · simp only [putS, List.getElem_mapIdx, markC]
    have hj := hc _ (List.getElem_mem h1)
    have := mid_two hj (hf i h1 hj)
    rwa [List.set_getElem_self] at this
  · simp only [putS, List.getElem_mapIdx]
    have hj := hp _ (List.getElem_mem h1)
    have := mid_two hj (hg i h1 hj)
    rwa [List.set_getElem_self] at this
/-- the greatest (or the least) of the first k marks that are not the judge's -/
def endK (most : Bool) (j : Nat) (l : List Int) : Nat → Option Int
  | 0 => none
  | k + 1 => if k = j then endK most j l k else match endK most j l k with
    | none => some (l.getD k 0)
    | some x => if (most && decide (x < l.getD k 0)) || (!most && decide (l.getD k 0 < x)) then some (l.getD k 0) else some x
def endV (most : Bool) (j : Nat) (l : List Int) : List Int := match endK most j l l.length with | none => l | some x => l.set j x
theorem endK_spec {most : Bool} {j : Nat} {l : List Int} : ∀ k, k ≤ l.length → match endK most j l k with
    | none => k = 0 ∨ (k = 1 ∧ j = 0)
    | some x => (∃ i, ∃ h : i < l.length, i < k ∧ i ≠ j ∧ x = l[i]) ∧ ∀ i (h : i < l.length), i < k → i ≠ j → if most then l[i] ≤ x else x ≤ l[i]
  | 0, _ => by simp [endK]
  | k + 1, hk => by
    have ih := endK_spec (most := most) (j := j) (l := l) k (by omega)
    have hg : l.getD k 0 = l[k] := by rw [List.getD_eq_getElem?_getD, List.getElem?_eq_getElem (by omega)]; rfl
    unfold endK
    by_cases hkj : k = j
    · rw [if_pos hkj]
      cases he : endK most j l k with
      | none => rw [he] at ih; simp only at ih ⊢; omega
      | some x =>
        rw [he] at ih
        obtain ⟨⟨i, hi, h1, h2, h3⟩, h4⟩ := ih
        exact ⟨⟨i, hi, by omega, h2, h3⟩, fun i h h' hne => h4 i h (by omega) hne⟩
    · rw [if_neg hkj]
      cases he : endK most j l k with
      | none =>
        rw [he] at ih
        simp only at ih ⊢
        refine ⟨⟨k, by omega, by omega, hkj, hg⟩, fun i h h' hne => ?_⟩
        have : i = k := by omega
        subst this
        rw [hg]; split <;> exact Int.le_refl _
      | some x =>
        rw [he] at ih
        obtain ⟨⟨i, hi, h1, h2, h3⟩, h4⟩ := ih
        simp only
        rw [hg]
        have hnew : ∀ i (h : i < l.length), i < k + 1 → i ≠ j → i < k ∨ i = k := fun i _ h _ => by omega
        cases most
        · by_cases hc : l[k] < x
          · rw [if_pos (by simp [hc])]
            refine ⟨⟨k, by omega, by omega, hkj, rfl⟩, fun i h h' hne => ?_⟩
            rcases hnew i h h' hne with h5 | h5
            · have := h4 i h h5 hne
              simp only [Bool.false_eq_true, if_false] at this ⊢
              omega
            · subst h5; simp
          · rw [if_neg (by simp; omega)]
            refine ⟨⟨i, hi, by omega, h2, h3⟩, fun i h h' hne => ?_⟩
            rcases hnew i h h' hne with h5 | h5
            · exact h4 i h h5 hne
            · subst h5; simp; omega
        · by_cases hc : x < l[k]
          · rw [if_pos (by simp [hc])]
            refine ⟨⟨k, by omega, by omega, hkj, rfl⟩, fun i h h' hne => ?_⟩
            rcases hnew i h h' hne with h5 | h5
            · have := h4 i h h5 hne
              simp only [if_true] at this ⊢
              omega
            · subst h5; simp
          · rw [if_neg (by simp; omega)]
            refine ⟨⟨i, hi, by omega, h2, h3⟩, fun i h h' hne => ?_⟩
            rcases hnew i h h' hne with h5 | h5
            · exact h4 i h h5 hne
            · subst h5; simp; omega
theorem endK_some {most : Bool} {j : Nat} {l : List Int} (h : 2 ≤ l.length) : ∃ x, endK most j l l.length = some x ∧ endV most j l = l.set j x ∧ (∃ i, ∃ h : i < l.length, i ≠ j ∧ x = l[i]) ∧ ∀ i (h : i < l.length), i ≠ j → if most then l[i] ≤ x else x ≤ l[i] := by
  have h1 := endK_spec (most := most) (j := j) (l := l) l.length (Nat.le_refl _)
  cases he : endK most j l l.length with
  | none => rw [he] at h1; simp only at h1; omega
  | some x =>
    rw [he] at h1
    obtain ⟨⟨i, hi, -, h2, h3⟩, h4⟩ := h1
    exact ⟨x, rfl, by unfold endV; rw [he], ⟨i, hi, h2, h3⟩, fun i h hne => h4 i h h hne⟩
/-- beyond the greatest, or the least, of the others one judge alone does nothing -/
theorem mid_end {l : List Int} {j : Nat} (hj : j < l.length) (h5 : 5 ≤ l.length) (x : Int) : (mid (endV false j l)).sum ≤ (mid (l.set j x)).sum ∧ (mid (l.set j x)).sum ≤ (mid (endV true j l)).sum := by
  have key : ∀ y : Int, ∃ a, (l.set j y)[0]? = some a ∧ (mid (l.set j y)).sum = l.sum + y - l[j] - lmax (l.set j y) a - lmin (l.set j y) a ∧ a ∈ l.set j y := fun y => by
    obtain ⟨a, ha⟩ : ∃ a, (l.set j y)[0]? = some a := ⟨(l.set j y)[0]'(by simp; omega), List.getElem?_eq_getElem _⟩
    refine ⟨a, ha, ?_, List.mem_of_getElem? ha⟩
    rw [mid_sum ha (by simpa using h5), sum_set hj]
  have mem : ∀ (y z : Int), z ∈ l.set j y → z = y ∨ ∃ i, ∃ h : i < l.length, i ≠ j ∧ z = l[i] := fun y z hz => by
    obtain ⟨i, hi, rfl⟩ := List.getElem_of_mem hz
    have hi' : i < l.length := by simpa using hi
    by_cases hij : i = j
    · subst hij; left; simp
    · right; exact ⟨i, hi', hij, List.getElem_set_ne (by omega) _⟩
  have mem2 : ∀ (y : Int) i (h : i < l.length), i ≠ j → l[i] ∈ l.set j y := fun y i h hne => by
    have : (l.set j y)[i]'(by simpa using h) = l[i] := List.getElem_set_ne (by omega) _
    rw [← this]; exact List.getElem_mem _
  have memx : ∀ y : Int, y ∈ l.set j y := fun y => List.mem_set hj y
  constructor
  · obtain ⟨m, -, hV, ⟨i, hi, hne, hmi⟩, hall⟩ := endK_some (most := false) (j := j) (l := l) (by omega)
    simp only [Bool.false_eq_true, if_false] at hall
    rw [hV]
    by_cases hx : m ≤ x
    · exact mid_two hj hx
    · obtain ⟨a, ha, e1, a1⟩ := key m
      obtain ⟨b, hb, e2, b1⟩ := key x
      rw [e1, e2]
      obtain ⟨⟨p1, p2⟩, p3⟩ := lmax_spec (l.set j m) a
      obtain ⟨⟨q1, q2⟩, q3⟩ := lmin_spec (l.set j m) a
      obtain ⟨⟨r1, r2⟩, r3⟩ := lmax_spec (l.set j x) b
      obtain ⟨⟨s1, s2⟩, s3⟩ := lmin_spec (l.set j x) b
      have hM : lmax (l.set j x) b ∈ l.set j x := r3.elim (fun e => by rw [e]; exact b1) id
      have hm : lmin (l.set j m) a ∈ l.set j m := q3.elim (fun e => by rw [e]; exact a1) id
      have t1 := s2 _ (memx x)
      have t2 : lmin (l.set j m) a = m := by
        have := q2 _ (memx m)
        rcases mem _ _ hm with e | ⟨i', hi', hne', e⟩
        · exact e
        · have := hall i' hi' hne'; omega
      have t3 : lmax (l.set j x) b ≤ lmax (l.set j m) a := by
        rcases mem _ _ hM with e | ⟨i', hi', hne', e⟩
        · have h1 := r2 _ (mem2 x i hi hne)
          have h2 := p2 _ (memx m)
          omega
        · rw [e]; exact p2 _ (mem2 m i' hi' hne')
      omega
  · obtain ⟨m, -, hV, ⟨i, hi, hne, hmi⟩, hall⟩ := endK_some (most := true) (j := j) (l := l) (by omega)
    simp only [if_true] at hall
    rw [hV]
    by_cases hx : x ≤ m
    · exact mid_two hj hx
    · obtain ⟨a, ha, e1, a1⟩ := key m
      obtain ⟨b, hb, e2, b1⟩ := key x
      rw [e1, e2]
      obtain ⟨⟨p1, p2⟩, p3⟩ := lmax_spec (l.set j m) a
      obtain ⟨⟨q1, q2⟩, q3⟩ := lmin_spec (l.set j m) a
      obtain ⟨⟨r1, r2⟩, r3⟩ := lmax_spec (l.set j x) b
      obtain ⟨⟨s1, s2⟩, s3⟩ := lmin_spec (l.set j x) b
      have hM : lmax (l.set j m) a ∈ l.set j m := p3.elim (fun e => by rw [e]; exact a1) id
      have hm : lmin (l.set j x) b ∈ l.set j x := s3.elim (fun e => by rw [e]; exact b1) id
      have t1 := r2 _ (memx x)
      have t2 : lmax (l.set j m) a = m := by
        have := p2 _ (memx m)
        rcases mem _ _ hM with e | ⟨i', hi', hne', e⟩
        · exact e
        · have := hall i' hi' hne'; omega
      have t3 : lmin (l.set j m) a ≤ lmin (l.set j x) b := by
        rcases mem _ _ hm with e | ⟨i', hi', hne', e⟩
        · have h1 := s2 _ (mem2 x i hi hne)
          have h2 := q2 _ (memx m)
          omega
        · rw [e]; exact q2 _ (mem2 m i' hi' hne')
      omega
/-- a skating in which the judge gives the greatest, or the least, mark of the others -/
def endS (most : Bool) (j : Nat) (s : Sk) : Sk := ⟨s.calls.map fun c => { c with marks := endV most j c.marks }, s.parts.map (endV most j), s.over⟩
theorem endV_len (most : Bool) (j : Nat) (l : List Int) : (endV most j l).length = l.length := by unfold endV; split <;> simp
theorem endV_all {most : Bool} {j : Nat} {l : List Int} {lo hi : Int} (h : allB l lo hi = true) : allB (endV most j l) lo hi = true := by
  by_cases h2 : 2 ≤ l.length
  · obtain ⟨x, -, hV, ⟨i, hi', -, e⟩, -⟩ := endK_some (most := most) (j := j) (l := l) h2
    rw [hV]
    refine allB_set h ?_
    have := List.all_eq_true.1 h x (by rw [e]; exact List.getElem_mem _)
    simpa [inB] using this
  · have h1 := endK_spec (most := most) (j := j) (l := l) l.length (Nat.le_refl _)
    unfold endV
    cases he : endK most j l l.length with
    | none => exact h
    | some x =>
      rw [he] at h1
      obtain ⟨⟨i, hi', -, -, e⟩, -⟩ := h1
      refine allB_set h ?_
      have := List.all_eq_true.1 h x (by rw [e]; exact List.getElem_mem _)
      simpa [inB] using this
theorem end_same (most : Bool) (j : Nat) (s : Sk) : Same s (endS most j s) := by
  refine ⟨?_, ?_, rfl⟩
  · simp only [endS, List.map_map]
    apply List.map_congr_left
    intro c _
    simp [keyC, endV_len]
  · simp only [endS, List.map_map]
    apply List.map_congr_left
    intro c _
    simp [endV_len]
theorem end_ok {r : Ru} {s : Sk} (most : Bool) (j : Nat) (hs : contestB r [s] = true) : contestB r [endS most j s] = true := by
  obtain ⟨n, hn⟩ := contest_one.1 hs
  refine (end_same most j s).ok (fun c hc => ?_) (fun m hm => ?_) hs
  · obtain ⟨d, hd, rfl⟩ := List.mem_map.1 hc
    have h2 := hn.c _ hd
    simp only [clB, Bool.and_eq_true] at h2
    exact endV_all h2.2.2.2.2
  · obtain ⟨d, hd, rfl⟩ := List.mem_map.1 hm
    exact endV_all (hn.p _ hd).2
theorem out_le {r : Ru} {s : Sk} {j : Nat} {f g : Nat → Int} (hr : contestB r [s] = true) (hc : ∀ c ∈ s.calls, j < c.marks.length ∧ 5 ≤ c.marks.length) (hp : ∀ m ∈ s.parts, j < m.length ∧ 5 ≤ m.length)
    (hf : ∀ i, i < s.calls.length → -5 ≤ f i ∧ f i ≤ 5) (hg : ∀ i, i < s.parts.length → 0 ≤ g i ∧ g i ≤ 40) : LeSc (progP r (endS false j s)) (progP r (putS s j f g)) ∧ LeSc (progP r (putS s j f g)) (progP r (endS true j s)) := by
  have h1 := contest_ok (end_ok false j hr)
  have h2 := contest_ok (put_ok (j := j) hf hg hr)
  constructor
  · refine prog_le h1.1 (h1.2 _ List.mem_cons_self) ((end_same false j s).two (put_same s j f g)) ⟨fun i h1 h2 => ?_, fun i h1 h2 => ?_⟩
    · have hi : i < s.calls.length := by simpa [endS] using h1
      simp only [putS, endS, List.getElem_mapIdx, List.getElem_map, markC]
      have h := hc _ (List.getElem_mem hi)
      exact (mid_end h.1 h.2 _).1
    · have hi : i < s.parts.length := by simpa [endS] using h1
      simp only [putS, endS, List.getElem_mapIdx, List.getElem_map]
      have h := hp _ (List.getElem_mem hi)
      exact (mid_end h.1 h.2 _).1
  · refine prog_le h2.1 (h2.2 _ List.mem_cons_self) ((put_same s j f g).two (end_same true j s)) ⟨fun i h1 h2 => ?_, fun i h1 h2 => ?_⟩
    · have hi : i < s.calls.length := by simpa [endS] using h2
      simp only [putS, endS, List.getElem_mapIdx, List.getElem_map, markC]
      have h := hc _ (List.getElem_mem hi)
      exact (mid_end h.1 h.2 _).2
    · have hi : i < s.parts.length := by simpa [endS] using h2
      simp only [putS, endS, List.getElem_mapIdx, List.getElem_map]
      have h := hp _ (List.getElem_mem hi)
      exact (mid_end h.1 h.2 _).2
structure LeSt (a b : St) : Prop where
  t : a.total ≤ b.total
  e : a.elements ≤ b.elements
theorem LeSc.st {a b : Sc} (h : LeSc a b) : LeSt (stOf a) (stOf b) := ⟨h.t, h.e⟩
theorem bet_mono {a a' b b' : St} (h : betB a b = true) (ha : LeSt a a') (hb : LeSt b' b) : betB a' b' = true := by
  obtain ⟨h1, h2⟩ := ha
  obtain ⟨h3, h4⟩ := hb
  simp only [betB, Bool.or_eq_true, Bool.and_eq_true, decide_eq_true_eq] at h ⊢
  omega
theorem bet_irr {a b : St} (h : LeSt a b) : betB a b = false := by
  obtain ⟨h1, h2⟩ := h
  have : ¬ betB a b = true := by
    simp only [betB, Bool.or_eq_true, Bool.and_eq_true, decide_eq_true_eq]
    omega
  simpa using this
theorem bet_ne {a b : St} (h : LeSt a b) : betB b a = !decide (b = a) := by
  obtain ⟨h1, h2⟩ := h
  apply Bool.eq_iff_iff.2
  simp only [betB, Bool.or_eq_true, Bool.and_eq_true, decide_eq_true_eq, Bool.not_eq_true', decide_eq_false_iff_not]
  constructor
  · intro h e
    subst e
    omega
  · intro h
    by_cases ht : a.total < b.total
    · exact .inl ht
    · right
      have : a.total = b.total := by omega
      refine ⟨this.symm, ?_⟩
      by_cases he : a.elements < b.elements
      · exact he
      · exfalso
        apply h
        cases a; cases b
        simp only [St.mk.injEq] at *
        omega
theorem countP_le_at {α β : Type} {p : α → Bool} {q : β → Bool} : ∀ {l : List α} {m : List β}, l.length = m.length → (∀ i (h1 : i < l.length) (h2 : i < m.length), p l[i] = true → q m[i] = true) → l.countP p ≤ m.countP q
  | [], [], _, _ => Nat.le_refl _
  | [], _ :: _, h, _ => by cases h
  | _ :: _, [], h, _ => by cases h
  | a :: l, b :: m, h, hi => by
    have h1 := hi 0 (by simp) (by simp)
    simp only [List.getElem_cons_zero] at h1
    have h2 := countP_le_at (p := p) (q := q) (l := l) (m := m) (by simpa using h) (fun i h1 h2 => by have := hi (i + 1) (by simpa using h1) (by simpa using h2); simpa using this)
    simp only [List.countP_cons]
    cases hp : p a
    · simp; omega
    · rw [h1 hp]; simp; exact h2
theorem countP_put {α : Type} {p : α → Bool} : ∀ {l : List α} {k : Nat} (h : k < l.length) (a : α), (l.set k a).countP p + (if p l[k] then 1 else 0) = l.countP p + (if p a then 1 else 0)
  | [], _, h, _ => by cases h
  | b :: l, 0, _, a => by simp only [List.set_cons_zero, List.countP_cons, List.getElem_cons_zero]; omega
  | b :: l, k + 1, h, a => by
    have := countP_put (p := p) (l := l) (k := k) (by simpa using h) a
    simp only [List.set_cons_succ, List.countP_cons, List.getElem_cons_succ]
    omega
/-- the place is within the span -/
theorem place_in {worst best m : List St} (hw : worst.length = m.length) (hb : best.length = m.length) (h : ∀ i (h0 : i < m.length) (h1 : i < worst.length) (h2 : i < best.length), LeSt worst[i] m[i] ∧ LeSt m[i] best[i]) {i : Nat} (h0 : i < m.length) (h1 : i < worst.length) (h2 : i < best.length) :
    plP best[i] worst ≤ plP m[i] m ∧ plP m[i] m ≤ plP worst[i] best - (if best[i] = worst[i] then 0 else 1) := by
  constructor
  · unfold plP
    have := countP_le_at (p := fun o => betB o best[i]) (q := fun o => betB o m[i]) hw (fun k k1 k2 hk => bet_mono hk (h k k2 k1 (by omega)).1 (h i h0 h1 h2).2)
    omega
  · have hwb : LeSt worst[i] best[i] := ⟨Int.le_trans (h i h0 h1 h2).1.t (h i h0 h1 h2).2.t, Int.le_trans (h i h0 h1 h2).1.e (h i h0 h1 h2).2.e⟩
    have h3 := countP_put (p := fun o => betB o worst[i]) h2 worst[i]
    have h4 : betB worst[i] worst[i] = false := bet_irr ⟨Int.le_refl _, Int.le_refl _⟩
    have h5 := bet_ne hwb
    have h6 := countP_le_at (p := fun o => betB o m[i]) (q := fun o => betB o worst[i]) (l := m) (m := best.set i worst[i]) (by simp [hb]) (fun k k1 k2 hk => by
      by_cases hki : i = k
      · subst hki
        rw [bet_irr (a := m[i]) (b := m[i]) ⟨Int.le_refl _, Int.le_refl _⟩] at hk
        cases hk
      · rw [List.getElem_set_ne hki]
        exact bet_mono hk (h k k1 (by omega) (by omega)).2 (h i h0 h1 h2).1)
    simp only [h4, h5] at h3
    unfold plP
    by_cases he : best[i] = worst[i]
    · rw [if_pos he]
      simp only [he, decide_true, Bool.not_true, Bool.false_eq_true, if_false] at h3
      omega
    · rw [if_neg he]
      simp only [he, decide_false, Bool.not_false, if_true, Bool.false_eq_true, if_false] at h3
      omega
/-- both ends -/
theorem end_lo {worst best : List St} (h : ∀ i (h1 : i < worst.length) (h2 : i < best.length), LeSt worst[i] best[i]) {i : Nat} (h1 : i < worst.length) (h2 : i < best.length) :
    plP best[i] (worst.set i best[i]) = plP best[i] worst := by
  have h3 := countP_put (p := fun o => betB o best[i]) h1 best[i]
  have h4 : betB best[i] best[i] = false := bet_irr ⟨Int.le_refl _, Int.le_refl _⟩
  have h5 := bet_irr (h i h1 h2)
  simp only [h4, h5, Bool.false_eq_true, if_false] at h3
  unfold plP
  omega
theorem end_hi {worst best : List St} (h : ∀ i (h1 : i < worst.length) (h2 : i < best.length), LeSt worst[i] best[i]) {i : Nat} (h1 : i < worst.length) (h2 : i < best.length) :
    plP worst[i] (best.set i worst[i]) = plP worst[i] best - (if best[i] = worst[i] then 0 else 1) := by
  have h3 := countP_put (p := fun o => betB o worst[i]) h2 worst[i]
  have h4 : betB worst[i] worst[i] = false := bet_irr ⟨Int.le_refl _, Int.le_refl _⟩
  have h5 := bet_ne (h i h1 h2)
  simp only [h4, h5] at h3
  unfold plP
  by_cases he : best[i] = worst[i]
  · rw [if_pos he]
    simp only [he, decide_true, Bool.not_true, Bool.false_eq_true, if_false] at h3
    omega
  · rw [if_neg he]
    simp only [he, decide_false, Bool.not_false, if_true, Bool.false_eq_true, if_false] at h3
    omega
/-- a contest holds skatings of contests -/
theorem contest_each {r : Ru} {l : List Sk} (h : contestB r l = true) : ∀ s ∈ l, OneC r s (nP l) := fun s hs => by
  simp only [contestB, Bool.and_eq_true] at h
  obtain ⟨h1, h2, h3⟩ := h
  have h4 := List.all_eq_true.1 h3 s hs
  simp only [skB, Bool.and_eq_true, decide_eq_true_eq] at h4
  obtain ⟨a1, a2, a3, a4, a5⟩ := h4
  obtain ⟨c1, -, c3⟩ := callsB_spec a4
  refine ⟨h1, a1, a2, a3, c3, ?_, c1, fun m hm => ?_⟩
  · by_cases hc : s.calls ≠ [] ∨ s.parts ≠ []
    · right
      obtain ⟨n, hn⟩ := judges_some hs hc
      unfold panelB at h2
      unfold nP
      rw [hn] at h2 ⊢
      simp [inB] at h2
      simp
      omega
    · left
      simpa using hc
  · have := List.all_eq_true.1 a5 m hm
    simpa using this
theorem OneC.len {r : Ru} {s : Sk} {n : Nat} (h : OneC r s n) : (∀ c ∈ s.calls, c.marks.length = n) ∧ ∀ m ∈ s.parts, m.length = n := by
  refine ⟨fun c hc => ?_, fun m hm => ?_⟩
  · have := h.c c hc
    simp only [clB, Bool.and_eq_true, decide_eq_true_eq] at this
    have := this.2.2.2.1
    omega
  · have := (h.p m hm).1
    omega
theorem OneC.rng {r : Ru} {s : Sk} {n : Nat} (h : OneC r s n) : (∀ c ∈ s.calls, ∀ x ∈ c.marks, -5 ≤ x ∧ x ≤ 5) ∧ ∀ m ∈ s.parts, ∀ x ∈ m, 0 ≤ x ∧ x ≤ 40 := by
  refine ⟨fun c hc x hx => ?_, fun m hm x hx => ?_⟩
  · have := h.c c hc
    simp only [clB, Bool.and_eq_true] at this
    have := List.all_eq_true.1 this.2.2.2.2 x hx
    simpa [inB] using this
  · have := List.all_eq_true.1 (h.p m hm).2 x hx
    simpa [inB] using this
/-- whatever the judge gives, the score is between both ends -/
theorem put_between {r : Ru} {s : Sk} {n j : Nat} (h : OneC r s n) (hj : j < n) {f g : Nat → Int} (hf : ∀ i, i < s.calls.length → -5 ≤ f i ∧ f i ≤ 5) (hg : ∀ i, i < s.parts.length → 0 ≤ g i ∧ g i ≤ 40) :
    LeSt (worstP r j s) (stOf (progP r (putS s j f g))) ∧ LeSt (stOf (progP r (putS s j f g))) (bestP r j s) := by
  have hs : contestB r [s] = true := contest_one.2 ⟨n, h⟩
  obtain ⟨l1, l2⟩ := h.len
  have hc : ∀ c ∈ s.calls, j < c.marks.length := fun c hc => by rw [l1 c hc]; exact hj
  have hp : ∀ m ∈ s.parts, j < m.length := fun m hm => by rw [l2 m hm]; exact hj
  have w1 := contest_ok (put_ok (s := s) (j := j) (f := fun _ => -5) (g := fun _ => 0) (fun _ _ => by omega) (fun _ _ => by omega) hs)
  have w2 := contest_ok (put_ok (s := s) (j := j) (f := f) (g := g) hf hg hs)
  unfold worstP bestP
  rw [mark_put, mark_put]
  exact ⟨(prog_le w1.1 (w1.2 _ List.mem_cons_self) ((put_same s j _ _).two (put_same s j _ _)) (put_le hc hp (fun i hi => (hf i hi).1) (fun i hi => (hg i hi).1))).st,
    (prog_le w2.1 (w2.2 _ List.mem_cons_self) ((put_same s j _ _).two (put_same s j _ _)) (put_le hc hp (fun i hi => (hf i hi).2) (fun i hi => (hg i hi).2))).st⟩
theorem own_between {r : Ru} {s : Sk} {n j : Nat} (h : OneC r s n) (hj : j < n) : LeSt (worstP r j s) (stOf (progP r s)) ∧ LeSt (stOf (progP r s)) (bestP r j s) := by
  have hs : contestB r [s] = true := contest_one.2 ⟨n, h⟩
  obtain ⟨l1, l2⟩ := h.len
  obtain ⟨g1, g2⟩ := h.rng
  have hc : ∀ c ∈ s.calls, j < c.marks.length := fun c hc => by rw [l1 c hc]; exact hj
  have hp : ∀ m ∈ s.parts, j < m.length := fun m hm => by rw [l2 m hm]; exact hj
  have w1 := contest_ok (put_ok (s := s) (j := j) (f := fun _ => -5) (g := fun _ => 0) (fun _ _ => by omega) (fun _ _ => by omega) hs)
  have w2 := contest_ok hs
  unfold worstP bestP
  rw [mark_put, mark_put]
  refine ⟨(prog_le w1.1 (w1.2 _ List.mem_cons_self) ?_ (put_low hc hp (fun i hi h' => (g1 _ (List.getElem_mem hi) _ (List.getElem_mem h')).1) (fun i hi h' => (g2 _ (List.getElem_mem hi) _ (List.getElem_mem h')).1))).st,
    (prog_le w2.1 (w2.2 _ List.mem_cons_self) (put_same s j _ _) (put_high hc hp (fun i hi h' => (g1 _ (List.getElem_mem hi) _ (List.getElem_mem h')).2) (fun i hi h' => (g2 _ (List.getElem_mem hi) _ (List.getElem_mem h')).2))).st⟩
  exact (put_same s j _ _).two ⟨rfl, rfl, rfl⟩
theorem worst_best {r : Ru} {s : Sk} {n j : Nat} (h : OneC r s n) (hj : j < n) : LeSt (worstP r j s) (bestP r j s) := by
  have := own_between h hj
  exact ⟨Int.le_trans this.1.t this.2.t, Int.le_trans this.1.e this.2.e⟩
/-- scores of which one is the best and all others the worst, or the other way round -/
def mixP (r : Ru) (l : List Sk) (j w : Nat) (b : Bool) : List Sc := l.mapIdx fun i s => if b = decide (i = w) then progP r (markP s j 5 40) else progP r (markP s j (-5) 0)
theorem mix_lo {r : Ru} {l : List Sk} {j w : Nat} (h : contestB r l = true) (hj : j < nP l) (hw : w < l.length) : (ranksP (mixP r l j w true))[w]? = (swingP r l j)[w]?.map (·.lo) := by
  have e : (mixP r l j w true).map stOf = (l.map (worstP r j)).set w (bestP r j l[w]) := by
    apply List.ext_getElem
    · simp [mixP]
    · intro i h1 h2
      simp only [mixP, List.getElem_map, List.getElem_mapIdx, List.getElem_set]
      by_cases hi : w = i
      · subst hi; simp [bestP]
      · have : ¬ i = w := fun e => hi e.symm
        simp [hi, this, worstP]
  have h1 := end_lo (worst := l.map (worstP r j)) (best := l.map (bestP r j)) (fun i h1 h2 => by simp only [List.getElem_map]; exact worst_best (contest_each h _ (List.getElem_mem _)) hj) (i := w) (by simpa using hw) (by simpa using hw)
  simp only [List.getElem_map] at h1
  unfold ranksP swingP
  rw [e, List.getElem?_map, List.getElem?_map, List.getElem?_set_self (by simpa using hw), List.getElem?_eq_getElem hw]
  simp only [Option.map_some, spanP]
  rw [h1]
theorem mix_hi {r : Ru} {l : List Sk} {j w : Nat} (h : contestB r l = true) (hj : j < nP l) (hw : w < l.length) : (ranksP (mixP r l j w false))[w]? = (swingP r l j)[w]?.map (·.hi) := by
  have e : (mixP r l j w false).map stOf = (l.map (bestP r j)).set w (worstP r j l[w]) := by
    apply List.ext_getElem
    · simp [mixP]
    · intro i h1 h2
      simp only [mixP, List.getElem_map, List.getElem_mapIdx, List.getElem_set]
      by_cases hi : w = i
      · subst hi; simp [worstP]
      · have : ¬ i = w := fun e => hi e.symm
        simp [hi, this, bestP]
  have h1 := end_hi (worst := l.map (worstP r j)) (best := l.map (bestP r j)) (fun i h1 h2 => by simp only [List.getElem_map]; exact worst_best (contest_each h _ (List.getElem_mem _)) hj) (i := w) (by simpa using hw) (by simpa using hw)
  simp only [List.getElem_map] at h1
  unfold ranksP swingP
  rw [e, List.getElem?_map, List.getElem?_map, List.getElem?_set_self (by simpa using hw), List.getElem?_eq_getElem hw]
  simp only [Option.map_some, spanP]
  rw [h1]
/-- places by what was given, and by what the judge gives instead -/
theorem swing_in {r : Ru} {l : List Sk} {j : Nat} (h : contestB r l = true) (hj : j < nP l) {m : List Sc} (hm : m.length = l.length) (hb : ∀ i (h1 : i < l.length) (h2 : i < m.length), LeSt (worstP r j l[i]) (stOf m[i]) ∧ LeSt (stOf m[i]) (bestP r j l[i]))
    {i : Nat} (hi : i < l.length) {x : Int} (hx : (ranksP m)[i]? = some x) {s : Sp} (hs : (swingP r l j)[i]? = some s) : 1 ≤ s.lo ∧ s.lo ≤ x ∧ x ≤ s.hi ∧ s.hi ≤ l.length := by
  have hx2 : plP (stOf (m[i]'(by omega))) (m.map stOf) = x := by
    unfold ranksP at hx
    rw [List.getElem?_map, List.getElem?_map, List.getElem?_eq_getElem (by omega)] at hx
    simpa using hx
  have hs2 : spanP r l j l[i] = s := by
    unfold swingP at hs
    rw [List.getElem?_map, List.getElem?_eq_getElem hi] at hs
    simpa using hs
  have h1 := place_in (worst := l.map (worstP r j)) (best := l.map (bestP r j)) (m := m.map stOf) (by simp [hm]) (by simp [hm]) (fun k k0 k1 k2 => by
    simp only [List.getElem_map]
    exact hb k (by simpa using k1) (by simpa using k0)) (i := i) (by simp; omega) (by simpa using hi) (by simpa using hi)
  simp only [List.getElem_map] at h1
  rw [hx2] at h1
  subst hs2
  refine ⟨by unfold spanP plP; simp; omega, h1.1, h1.2, ?_⟩
  unfold spanP plP
  simp only
  have hle := List.countP_le_length (p := fun o => betB o (worstP r j l[i])) (l := l.map (bestP r j))
  have hput := countP_put (p := fun o => betB o (worstP r j l[i])) (l := l.map (bestP r j)) (k := i) (by simpa using hi) (worstP r j l[i])
  have hle2 := List.countP_le_length (p := fun o => betB o (worstP r j l[i])) (l := (l.map (bestP r j)).set i (worstP r j l[i]))
  have hwb := worst_best (contest_each h _ (List.getElem_mem hi)) hj
  have h4 : betB (worstP r j l[i]) (worstP r j l[i]) = false := bet_irr ⟨Int.le_refl _, Int.le_refl _⟩
  have h5 := bet_ne hwb
  simp only [List.getElem_map, h4, h5, Bool.false_eq_true, if_false] at hput
  have hlt : (List.countP (fun o => betB o (worstP r j l[i])) ((l.map (bestP r j)).set i (worstP r j l[i]))) < l.length := by
    have : ¬ List.countP (fun o => betB o (worstP r j l[i])) ((l.map (bestP r j)).set i (worstP r j l[i])) = ((l.map (bestP r j)).set i (worstP r j l[i])).length := by
      rw [List.countP_eq_length]
      intro hall
      have := hall (worstP r j l[i]) (List.mem_set (by simpa using hi) _)
      rw [h4] at this
      cases this
    simp only [List.length_set, List.length_map] at this hle2
    omega
  by_cases he : bestP r j l[i] = worstP r j l[i]
  · rw [if_pos he]
    simp only [he, decide_true, Bool.not_true, Bool.false_eq_true, if_false] at hput
    omega
  · rw [if_neg he]
    simp only [he, decide_false, Bool.not_false, if_true] at hput
    omega
end Go.Proofs.Ytmclchaalmonnaa
