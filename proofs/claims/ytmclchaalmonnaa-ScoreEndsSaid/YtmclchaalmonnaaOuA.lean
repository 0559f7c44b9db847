/- Plain: a judge gives other marks: what is the same, and what is no less. -/
import Derived.Test.YtmclchaalmonnaaOrB
import Derived.Test.YtmclchaalmonnaaMoA
namespace Go.Proofs.Ytmclchaalmonnaa
/-- all of a call but its marks -/
def keyC (c : Cl) : Int × Int × Int × Bool × Bool × Nat := (c.place, c.element, c.under, c.late, c.fall, c.marks.length)
/-- the same but for marks -/
structure Same (s t : Sk) : Prop where
  c : t.calls.map keyC = s.calls.map keyC
  p : t.parts.map List.length = s.parts.map List.length
  o : t.over = s.over
theorem map_at {α β : Type} {f : α → β} {l m : List α} (h : l.map f = m.map f) {i : Nat} (h1 : i < l.length) (h2 : i < m.length) : f l[i] = f m[i] := by
  have : (l.map f)[i]? = (m.map f)[i]? := by rw [h]
  rw [List.getElem?_map, List.getElem?_map, List.getElem?_eq_getElem h1, List.getElem?_eq_getElem h2] at this
  simpa using this
theorem map_comp {α β γ : Type} {f : α → β} (g : β → γ) {l m : List α} (h : l.map f = m.map f) : l.map (fun x => g (f x)) = m.map (fun x => g (f x)) := by
  have e : (l.map f).map g = (m.map f).map g := by rw [h]
  rw [List.map_map, List.map_map] at e
  exact e
section
variable {s t : Sk} {r : Ru}
theorem Same.lc (h : Same s t) : t.calls.length = s.calls.length := by simpa using congrArg List.length h.c
theorem Same.lp (h : Same s t) : t.parts.length = s.parts.length := by simpa using congrArg List.length h.p
theorem Same.one {n : Nat} (h : Same s t) (hm : ∀ c ∈ t.calls, allB c.marks (-5) 5 = true) (hp : ∀ m ∈ t.parts, allB m 0 40 = true) (hs : OneC r s n) : OneC r t n := by
  refine ⟨hs.ru, by rw [h.lc]; exact hs.nc, by rw [h.lp]; exact hs.np, by rw [h.o]; exact hs.o, ?_, ?_, fun c hc => ?_, fun m hm2 => ⟨?_, hp m hm2⟩⟩
  · have e : t.calls.map (·.place) = s.calls.map (·.place) := map_comp (fun k => k.1) h.c
    rw [e]; exact hs.nd
  · rcases hs.nn with h1 | h1
    · exact .inl ⟨List.eq_nil_of_length_eq_zero (by rw [h.lc, h1.1]; rfl), List.eq_nil_of_length_eq_zero (by rw [h.lp, h1.2]; rfl)⟩
    · exact .inr h1
  · have h2 := hm c hc
    obtain ⟨i, hi, rfl⟩ := List.getElem_of_mem hc
    have hi2 : i < s.calls.length := by rw [← h.lc]; exact hi
    have hk := map_at h.c hi hi2
    have h3 := hs.c _ (List.getElem_mem hi2)
    simp only [keyC, Prod.mk.injEq] at hk
    simp only [clB, Bool.and_eq_true, decide_eq_true_eq] at h3 ⊢
    obtain ⟨e1, e2, e3, -, -, e6⟩ := hk
    rw [e1, e2, e3, e6]
    exact ⟨h3.1, h3.2.1, h3.2.2.1, h3.2.2.2.1, h2⟩
  · obtain ⟨i, hi, rfl⟩ := List.getElem_of_mem hm2
    have hi2 : i < s.parts.length := by rw [← h.lp]; exact hi
    rw [map_at h.p hi hi2]
    exact (hs.p _ (List.getElem_mem hi2)).1
theorem Same.ok (h : Same s t) (hm : ∀ c ∈ t.calls, allB c.marks (-5) 5 = true) (hp : ∀ m ∈ t.parts, allB m 0 40 = true) (hs : contestB r [s] = true) : contestB r [t] = true := by
  obtain ⟨n, hn⟩ := contest_one.1 hs
  exact contest_one.2 ⟨n, h.one hm hp hn⟩
theorem Same.ahead (h : Same s t) (c : Cl) : ahead t.calls c = ahead s.calls c := by
  rw [ahead_map, ahead_map]
  have e : t.calls.map (fun d => (d.element, d.place)) = s.calls.map (fun d => (d.element, d.place)) := map_comp (fun k => (k.2.1, k.1)) h.c
  rw [e]
theorem Same.off (h : Same s t) : offP t = offP s := by
  have hm : ∀ l : List Cl, fallsP l = (l.map (·.fall)).countP id := fun l => by unfold fallsP; rw [List.countP_map]; rfl
  have e : t.calls.map (·.fall) = s.calls.map (·.fall) := map_comp (fun k => k.2.2.2.2.1) h.c
  unfold offP
  rw [hm, hm, e, h.o]
end
theorem sum_le : ∀ {l m : List Int}, l.length = m.length → (∀ i (h1 : i < l.length) (h2 : i < m.length), l[i] ≤ m[i]) → l.sum ≤ m.sum
  | [], [], _, _ => Int.le_refl _
  | [], _ :: _, h, _ => by cases h
  | _ :: _, [], h, _ => by cases h
  | a :: l, b :: m, h, hi => by
    have h1 : a ≤ b := hi 0 (by simp) (by simp)
    have h2 := sum_le (l := l) (m := m) (by simpa using h) (fun i h1 h2 => by have := hi (i + 1) (by simpa using h1) (by simpa using h2); simpa using this)
    simp only [List.sum_cons]
    omega
/-- no mark that counts is less -/
structure LeS (s t : Sk) : Prop where
  c : ∀ i (h1 : i < s.calls.length) (h2 : i < t.calls.length), (mid s.calls[i].marks).sum ≤ (mid t.calls[i].marks).sum
  p : ∀ i (h1 : i < s.parts.length) (h2 : i < t.parts.length), (mid s.parts[i]).sum ≤ (mid t.parts[i]).sum
theorem LeS.trans {s t u : Sk} (h : LeS s t) (k : LeS t u) (hc : t.calls.length = s.calls.length) (hp : t.parts.length = s.parts.length) : LeS s u :=
  ⟨fun i h1 h2 => Int.le_trans (h.c i h1 (by omega)) (k.c i (by omega) h2), fun i h1 h2 => Int.le_trans (h.p i h1 (by omega)) (k.p i (by omega) h2)⟩
theorem val_le {b : Int} {c d : Cl} (hb : 0 ≤ b) (hu : 0 ≤ c.under ∧ c.under ≤ 2) (hk : keyC d = keyC c) (hm : (mid c.marks).sum ≤ (mid d.marks).sum) (h1 : 1 ≤ c.marks.length) : valC b c ≤ valC b d := by
  simp only [keyC, Prod.mk.injEq] at hk
  obtain ⟨-, -, e3, e4, -, e6⟩ := hk
  have hl : (mid d.marks).length = (mid c.marks).length := by rw [mid_length, mid_length, e6]
  have hl1 : 1 ≤ ((mid c.marks).length : Int) := by
    rw [mid_length]
    split <;> omega
  have hp : 0 ≤ b * (10 - 2 * c.under) := Int.mul_nonneg hb (by omega)
  unfold valC
  rw [hl, e3, e4]
  have := rnd_mono (Int.mul_le_mul_of_nonneg_right hm hp) (show 1 ≤ 100 * ((mid c.marks).length : Int) by omega)
  omega
theorem part_le {f : Int} {m n : List Int} (hf : 0 ≤ f) (hl : n.length = m.length) (h1 : 1 ≤ m.length) (hm : (mid m).sum ≤ (mid n).sum) : partP f m ≤ partP f n := by
  have hl2 : (mid n).length = (mid m).length := by rw [mid_length, mid_length, hl]
  have hl1 : 1 ≤ ((mid m).length : Int) := by
    rw [mid_length]
    split <;> omega
  unfold partP
  rw [hl2]
  exact rnd_mono (Int.mul_le_mul_of_nonneg_right hm hf) (by omega)
/-- no score is less -/
structure LeSc (a b : Sc) : Prop where
  e : a.elements ≤ b.elements
  p : a.parts ≤ b.parts
  t : a.total ≤ b.total
theorem LeSc.trans {a b c : Sc} (h : LeSc a b) (k : LeSc b c) : LeSc a c := ⟨Int.le_trans h.e k.e, Int.le_trans h.p k.p, Int.le_trans h.t k.t⟩
theorem prog_le {r : Ru} {s t : Sk} (hr : VR r) (hs : VS r s) (h : Same s t) (hle : LeS s t) : LeSc (progP r s) (progP r t) := by
  have h1 : (valsP r s).sum ≤ (valsP r t).sum := by
    refine sum_le (by simp [valsP, h.lc]) fun i h1 h2 => ?_
    have h1' : i < s.calls.length := by simpa [valsP] using h1
    have h2' : i < t.calls.length := by simpa [valsP] using h2
    simp only [valsP, List.getElem_map]
    have hk := map_at h.c h2' h1'
    obtain ⟨hvc, hel, -⟩ := hs.c _ (List.getElem_mem h1')
    have hb : 0 ≤ r.bases.getD s.calls[i].element.toNat 0 := by
      rw [List.getD_eq_getElem?_getD, List.getElem?_eq_getElem (show s.calls[i].element.toNat < r.bases.length by omega)]
      exact (hr.b _ (List.getElem_mem _)).1
    have hk2 := hk
    simp only [keyC, Prod.mk.injEq] at hk2
    have ha : ahead t.calls t.calls[i] = ahead s.calls s.calls[i] := by
      rw [h.ahead]
      unfold ahead
      rw [hk2.1, hk2.2.1]
    unfold valP
    rw [ha, hk2.2.1]
    split
    · exact val_le hb hvc.under hk (hle.c i h1' h2') hvc.l1
    · exact Int.le_refl _
  have h2 : partsP r s ≤ partsP r t := by
    refine sum_le (by simp [h.lp]) fun i h1 h2 => ?_
    have h1' : i < s.parts.length := by simpa using h1
    have h2' : i < t.parts.length := by simpa using h2
    simp only [List.getElem_map]
    exact part_le hr.f.1 (map_at h.p h2' h1') (hs.p _ (List.getElem_mem h1')).1 (hle.p i h1' h2')
  have h3 := h.off
  refine ⟨h1, h2, ?_⟩
  show max _ _ ≤ max _ _
  rw [h3]
  omega
/-- a judge gives what is told, call by call, part by part -/
def putS (s : Sk) (j : Nat) (f g : Nat → Int) : Sk := ⟨s.calls.mapIdx fun i c => markC j (f i) c, s.parts.mapIdx fun i m => m.set j (g i), s.over⟩
theorem put_same (s : Sk) (j : Nat) (f g : Nat → Int) : Same s (putS s j f g) := by
  refine ⟨?_, ?_, rfl⟩
  · apply List.ext_getElem
    · simp [putS]
    · intro i h1 h2
      simp [putS, keyC, markC]
  · apply List.ext_getElem
    · simp [putS]
    · intro i h1 h2
      simp [putS]
theorem mark_put (s : Sk) (j : Nat) (g q : Int) : markP s j g q = putS s j (fun _ => g) (fun _ => q) := by
  unfold markP putS
  congr 1
  · apply List.ext_getElem
    · simp
    · intro i h1 h2; simp
  · apply List.ext_getElem
    · simp
    · intro i h1 h2; simp
theorem allB_set {l : List Int} {lo hi x : Int} {j : Nat} (h : allB l lo hi = true) (hx : lo ≤ x ∧ x ≤ hi) : allB (l.set j x) lo hi = true := by
  unfold allB at h ⊢
  rw [List.all_eq_true] at h ⊢
  intro z hz
  rcases List.mem_or_eq_of_mem_set hz with e | e
  · exact h z e
  · subst e; simp [inB]; exact hx
theorem put_ok {r : Ru} {s : Sk} {j : Nat} {f g : Nat → Int} (hf : ∀ i, i < s.calls.length → -5 ≤ f i ∧ f i ≤ 5) (hg : ∀ i, i < s.parts.length → 0 ≤ g i ∧ g i ≤ 40) (hs : contestB r [s] = true) : contestB r [putS s j f g] = true := by
  obtain ⟨n, hn⟩ := contest_one.1 hs
  refine (put_same s j f g).ok (fun c hc => ?_) (fun m hm => ?_) hs
  · obtain ⟨i, hi, rfl⟩ := List.getElem_of_mem hc
    have hi' : i < s.calls.length := by simpa [putS] using hi
    simp only [putS, List.getElem_mapIdx, markC]
    have h2 := hn.c _ (List.getElem_mem hi')
    simp only [clB, Bool.and_eq_true] at h2
    exact allB_set h2.2.2.2.2 (hf i hi')
  · obtain ⟨i, hi, rfl⟩ := List.getElem_of_mem hm
    have hi' : i < s.parts.length := by simpa [putS] using hi
    simp only [putS, List.getElem_mapIdx]
    exact allB_set (hn.p _ (List.getElem_mem hi')).2 (hg i hi')
theorem mid_two {l : List Int} {j : Nat} (h : j < l.length) {x y : Int} (hx : x ≤ y) : (mid (l.set j x)).sum ≤ (mid (l.set j y)).sum := by
  have := mid_set (l := l.set j x) (j := j) (by simpa using h) (x := y) (by simpa using hx)
  rwa [List.set_set] at this
/-- more from the judge -/
theorem put_le {s : Sk} {j : Nat} {f g f' g' : Nat → Int} (hc : ∀ c ∈ s.calls, j < c.marks.length) (hp : ∀ m ∈ s.parts, j < m.length) (hf : ∀ i, i < s.calls.length → f i ≤ f' i) (hg : ∀ i, i < s.parts.length → g i ≤ g' i) : LeS (putS s j f g) (putS s j f' g') := by
  refine ⟨fun i h1 h2 => ?_, fun i h1 h2 => ?_⟩
  · have hi' : i < s.calls.length := by simpa [putS] using h1
    simp only [putS, List.getElem_mapIdx, markC]
    exact mid_two (hc _ (List.getElem_mem hi')) (hf i hi')
  · have hi' : i < s.parts.length := by simpa [putS] using h1
    simp only [putS, List.getElem_mapIdx]
    exact mid_two (hp _ (List.getElem_mem hi')) (hg i hi')
/-- two skatings that are the same but for marks as a third -/
theorem Same.two {s t u : Sk} (h : Same s t) (k : Same s u) : Same t u := ⟨k.c.trans h.c.symm, k.p.trans h.p.symm, k.o.trans h.o.symm⟩
/-- as it was given, and with the least, and the most -/
theorem put_low {s : Sk} {j : Nat} {f g : Nat → Int} (hc : ∀ c ∈ s.calls, j < c.marks.length) (hp : ∀ m ∈ s.parts, j < m.length) (hf : ∀ i (h : i < s.calls.length) (h' : j < s.calls[i].marks.length), f i ≤ s.calls[i].marks[j]) (hg : ∀ i (h : i < s.parts.length) (h' : j < s.parts[i].length), g i ≤ s.parts[i][j]) : LeS (putS s j f g) s := by
  refine ⟨fun i h1 h2 => ?_, fun i h1 h2 => ?_⟩
  · simp only [putS, List.getElem_mapIdx, markC]
    have hj := hc _ (List.getElem_mem h2)
    have := mid_two hj (hf i h2 hj)
    rwa [List.set_getElem_self] at this
  · simp only [putS, List.getElem_mapIdx]
    have hj := hp _ (List.getElem_mem h2)
    have := mid_two hj (hg i h2 hj)
    rwa [List.set_getElem_self] at this
theorem put_high {s : Sk} {j : Nat} {f g : Nat → Int} (hc : ∀ c ∈ s.calls, j < c.marks.length) (hp : ∀ m ∈ s.parts, j < m.length) (hf : ∀ i (h : i < s.calls.length) (h' : j < s.calls[i].marks.length), s.calls[i].marks[j] ≤ f i) (hg : ∀ i (h : i < s.parts.length) (h' : j < s.parts[i].length), s.parts[i][j] ≤ g i) : LeS s (putS s j f g) := by
  refine ⟨fun i h1 h2 => ?_, fun i h1 h2 => ?_⟩
  · simp only [putS, List.getElem_mapIdx, markC]
    have hj := hc _ (List.getElem_mem h1)
    have := mid_two hj (hf i h1 hj)
    rwa [List.set_getElem_self] at this
  · simp only [putS, List.getElem_mapIdx]
    have hj := hp _ (List.getElem_mem h1)
    have := mid_two hj (hg i h1 hj)
    rwa [List.set_getElem_self] at this
end Go.Proofs.Ytmclchaalmonnaa
