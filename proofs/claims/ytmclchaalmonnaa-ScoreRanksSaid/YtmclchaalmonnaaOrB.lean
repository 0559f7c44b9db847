/- Plain: a contest is one in any order of its calls and marks. -/
import Derived.Test.YtmclchaalmonnaaOrA
namespace Go.Proofs.Ytmclchaalmonnaa
theorem callsB_of {r : Ru} {n : Int} : ∀ {l seen : List Cl}, (∀ c ∈ l, clB r c n = true) → (∀ c ∈ l, ∀ d ∈ seen, d.place ≠ c.place) → (l.map (·.place)).Nodup → callsB r n seen l = true
  | [], _, _, _, _ => by simp [callsB]
  | c :: l, seen, h1, h2, h3 => by
    rw [List.map_cons, List.nodup_cons] at h3
    simp only [callsB, Bool.and_eq_true, Bool.not_eq_true', List.any_eq_false, decide_eq_true_eq]
    refine ⟨h1 c List.mem_cons_self, fun d hd => h2 c List.mem_cons_self d hd, callsB_of (fun x hx => h1 x (List.mem_cons_of_mem _ hx)) (fun x hx d hd => ?_) h3.2⟩
    rcases List.mem_cons.1 hd with rfl | hd
    · exact fun e => h3.1 (e ▸ List.mem_map_of_mem hx)
    · exact h2 x (List.mem_cons_of_mem _ hx) d hd
/-- what a contest of one is, without an order -/
structure OneC (r : Ru) (s : Sk) (n : Nat) : Prop where
  ru : ruB r = true
  nc : s.calls.length ≤ 16
  np : s.parts.length ≤ 5
  o : inB s.over 0 600 = true
  nd : (s.calls.map (·.place)).Nodup
  nn : (s.calls = [] ∧ s.parts = []) ∨ (1 ≤ n ∧ n ≤ 9)
  c : ∀ c ∈ s.calls, clB r c n = true
  p : ∀ m ∈ s.parts, ((m.length : Int) = n) ∧ allB m 0 40 = true
theorem contest_one {r : Ru} {s : Sk} : contestB r [s] = true ↔ ∃ n, OneC r s n := by
  constructor
  · intro h
    simp only [contestB, List.all_cons, List.all_nil, Bool.and_true, Bool.and_eq_true] at h
    obtain ⟨h1, h2, h3⟩ := h
    simp only [skB, Bool.and_eq_true, decide_eq_true_eq] at h3
    obtain ⟨a1, a2, a3, a4, a5⟩ := h3
    obtain ⟨c1, -, c3⟩ := callsB_spec a4
    refine ⟨nP [s], h1, a1, a2, a3, c3, ?_, c1, fun m hm => ?_⟩
    · by_cases hc : s.calls ≠ [] ∨ s.parts ≠ []
      · right
        obtain ⟨n, hn⟩ := judges_some List.mem_cons_self hc
        unfold panelB at h2
        unfold nP
        rw [hn] at h2 ⊢
        simp [inB] at h2
        simp
        omega
      · left
        simpa using hc
    · have := List.all_eq_true.1 a5 m hm
      simpa using this
  · rintro ⟨n, h⟩
    have hj : judgesP [s] = if s.calls = [] ∧ s.parts = [] then none else some n := by
      unfold judgesP
      cases hc : s.calls with
      | cons a l =>
        have := h.c a (by rw [hc]; exact List.mem_cons_self)
        simp only [clB, Bool.and_eq_true, decide_eq_true_eq] at this
        have h2 := this.2.2.2.1
        simp
        omega
      | nil =>
        cases hp : s.parts with
        | cons m l =>
          have := (h.p m (by rw [hp]; exact List.mem_cons_self)).1
          simp
          omega
        | nil => simp [judgesP]
    have hpn : panelB [s] = true ∧ ((s.calls = [] ∧ s.parts = []) ∨ nP [s] = n) := by
      unfold panelB nP
      rw [hj]
      by_cases he : s.calls = [] ∧ s.parts = []
      · rw [if_pos he]; exact ⟨rfl, .inl he⟩
      · rw [if_neg he]
        have := h.nn.resolve_left he
        exact ⟨by simp [inB]; omega, .inr rfl⟩
    simp only [contestB, List.all_cons, List.all_nil, Bool.and_true, Bool.and_eq_true]
    refine ⟨h.ru, hpn.1, ?_⟩
    simp only [skB, Bool.and_eq_true, decide_eq_true_eq]
    refine ⟨h.nc, h.np, h.o, ?_, ?_⟩
    · rcases hpn.2 with he | he
      · rw [he.1]; simp [callsB]
      · rw [he]; exact callsB_of h.c (fun _ _ _ hd => by cases hd) h.nd
    · rcases hpn.2 with he | he
      · rw [he.2]; rfl
      · rw [he]
        exact List.all_eq_true.2 fun m hm => by have := h.p m hm; simp [this.1, this.2]
theorem allB_perm {l m : List Int} (h : l.Perm m) (lo hi : Int) : allB l lo hi = allB m lo hi := by
  unfold allB
  apply Bool.eq_iff_iff.2
  rw [List.all_eq_true, List.all_eq_true]
  exact ⟨fun k x hx => k x (h.mem_iff.2 hx), fun k x hx => k x (h.mem_iff.1 hx)⟩
theorem cl_turn (r : Ru) (k : Nat) (c : Cl) (n : Int) : clB r (turnC k c) n = clB r c n := by
  unfold clB turnC
  simp only [turnN_len, allB_perm (turnN_perm c.marks k)]
theorem one_turn {r : Ru} {s t : Sk} {k n : Nat} (hc : t.calls.Perm (s.calls.map (turnC k))) (hp : t.parts.Perm (s.parts.map fun m => turnN m k)) (ho : t.over = s.over) (h : OneC r s n) : OneC r t n := by
  refine ⟨h.ru, by have := hc.length_eq; rw [List.length_map] at this; have := h.nc; omega, by have := hp.length_eq; rw [List.length_map] at this; have := h.np; omega, by rw [ho]; exact h.o, ?_, ?_, fun c hm => ?_, fun m hm => ?_⟩
  · have h1 := hc.map (·.place)
    rw [List.map_map] at h1
    exact (h1.nodup_iff).2 h.nd
  · rcases h.nn with h1 | h1
    · left
      have h2 := hc.length_eq
      have h3 := hp.length_eq
      rw [h1.1] at h2
      rw [h1.2] at h3
      exact ⟨List.eq_nil_of_length_eq_zero (by simpa using h2), List.eq_nil_of_length_eq_zero (by simpa using h3)⟩
    · exact .inr h1
  · obtain ⟨c', hc', rfl⟩ := List.mem_map.1 (hc.mem_iff.1 hm)
    rw [cl_turn]
    exact h.c c' hc'
  · obtain ⟨m', hm', rfl⟩ := List.mem_map.1 (hp.mem_iff.1 hm)
    rw [turnN_len, allB_perm (turnN_perm m' k)]
    exact h.p m' hm'
theorem one_back {r : Ru} {s t : Sk} {k n : Nat} (hc : t.calls.Perm (s.calls.map (turnC k))) (hp : t.parts.Perm (s.parts.map fun m => turnN m k)) (ho : t.over = s.over) (h : OneC r t n) : OneC r s n := by
  refine ⟨h.ru, by have := hc.length_eq; rw [List.length_map] at this; have := h.nc; omega, by have := hp.length_eq; rw [List.length_map] at this; have := h.np; omega, by rw [← ho]; exact h.o, ?_, ?_, fun c hm => ?_, fun m hm => ?_⟩
  · have h1 := hc.map (·.place)
    rw [List.map_map] at h1
    exact (h1.nodup_iff).1 h.nd
  · rcases h.nn with h1 | h1
    · left
      have h2 := hc.length_eq
      have h3 := hp.length_eq
      rw [h1.1, List.length_map] at h2
      rw [h1.2, List.length_map] at h3
      exact ⟨List.eq_nil_of_length_eq_zero h2.symm, List.eq_nil_of_length_eq_zero h3.symm⟩
    · exact .inr h1
  · have := h.c (turnC k c) (hc.mem_iff.2 (List.mem_map_of_mem hm))
    rwa [cl_turn] at this
  · have := h.p (turnN m k) (hp.mem_iff.2 (List.mem_map_of_mem (f := fun m => turnN m k) hm))
    rwa [turnN_len, allB_perm (turnN_perm m k)] at this
theorem contest_turn {r : Ru} {s t : Sk} {k : Nat} (hc : t.calls.Perm (s.calls.map (turnC k))) (hp : t.parts.Perm (s.parts.map fun m => turnN m k)) (ho : t.over = s.over) : contestB r [t] = contestB r [s] := by
  apply Bool.eq_iff_iff.2
  rw [contest_one, contest_one]
  exact ⟨fun ⟨n, h⟩ => ⟨n, one_back hc hp ho h⟩, fun ⟨n, h⟩ => ⟨n, one_turn hc hp ho h⟩⟩
/-- the same score, or the same error -/
theorem progR_turn {r : Ru} {s t : Sk} {k : Nat} (hc : t.calls.Perm (s.calls.map (turnC k))) (hp : t.parts.Perm (s.parts.map fun m => turnN m k)) (ho : t.over = s.over) : progR r t = progR r s := by
  rw [progR_ct, progR_ct, contest_turn hc hp ho, prog_turn hc hp ho]
end Go.Proofs.Ytmclchaalmonnaa
