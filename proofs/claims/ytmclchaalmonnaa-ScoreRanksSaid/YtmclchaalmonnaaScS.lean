/- Contracts: marked. -/
import Derived.Test.YtmclchaalmonnaaScR
namespace Go.Proofs.Ytmclchaalmonnaa
open Go.RowKit Go.Lib
attribute [local irreducible] wpQuiet
theorem ents_cells {w : World} {B : Nat} {A : Option Addr} {l : List Cl} {E : List En} (hEl : E.length = l.length)
    (h : ∀ k (hk : k < l.length) (hk' : k < E.length), E[k].c = l[k] ∧ E[k].at_ = k ∧ ∃ g o, A = some ⟨g, o, none⟩ ∧ g < B ∧ (∀ j, j < 6 → w.cell? ⟨g, o + k * 6 + j, none⟩ = (clc l[k] E[k].M E[k].m)[j]?) ∧ IRow w B E[k].M l[k].marks) :
    (∀ ad, A = some ad → E ≠ [] → ad.block < B) ∧ (A = none → E = []) ∧ ∀ ad, A = some ad → ∀ j u, (fl6 E)[j]? = some u → w.cell? (ad.add j) = some u := by
  refine ⟨fun ad hA hE => ?_, fun hA => ?_, fun ad hA j u hu => ?_⟩
  · have h0 : 0 < E.length := List.length_pos_iff.2 hE
    obtain ⟨-, -, g, o, e, hg, -⟩ := h 0 (by omega) h0
    rw [hA] at e; cases e; exact hg
  · cases E with
    | nil => rfl
    | cons a t =>
      obtain ⟨-, -, g, o, e, -⟩ := h 0 (by rw [← hEl]; simp) (by simp)
      rw [hA] at e; cases e
  · have hj : j < E.length * 6 := by have := (List.getElem?_eq_some_iff.1 hu).1; rwa [fl6_len] at this
    have hk : j / 6 < E.length := by omega
    obtain ⟨h1, -, g, o, e, -, hc, -⟩ := h (j / 6) (by omega) hk
    rw [hA] at e; cases e
    rw [addr_add]
    have h2 := flat_get enc6 6 enc6_len E (j / 6) hk (j % 6) (Nat.mod_lt _ (by omega))
    rw [show j / 6 * 6 + j % 6 = j by omega] at h2
    have h3 : (fl6 E)[j]? = (enc6 E[j / 6])[j % 6]? := h2
    rw [h3] at hu
    have h4 := hc (j % 6) (Nat.mod_lt _ (by omega))
    rw [show o + j / 6 * 6 + j % 6 = o + j by omega] at h4
    rw [h4, ← hu, ← h1]
    simp [enc6]
theorem pents_of {w : World} {B : Nat} {A : Option Addr} {l : List (List Int)} (h : PRow w B A l) : ∃ P : List Pe, P.length = l.length ∧ P.map (·.m) = l ∧ (∀ p ∈ P, IRow w B p.M p.m) ∧ (∀ ad, A = some ad → P ≠ [] → ad.block < B) ∧ (A = none → P = []) ∧ ∀ ad, A = some ad → ∀ j u, (fl1 P)[j]? = some u → w.cell? (ad.add j) = some u := by
  have hall : ∀ k : Fin l.length, ∃ e : Pe, e.m = l[k.1] ∧ ∃ g o, A = some ⟨g, o, none⟩ ∧ g < B ∧ w.cell? ⟨g, o + k.1, none⟩ = some (.slice e.M l[k.1].length e.k) ∧ IRow w B e.M l[k.1] := fun k => by
    obtain ⟨g, o, M, c, e, hg, hc, hm, _⟩ := h k.1 k.2
    exact ⟨⟨l[k.1], M, c⟩, rfl, g, o, e, hg, hc, hm⟩
  obtain ⟨f, hf⟩ := Classical.axiomOfChoice hall
  have hP : ∀ k (hk : k < l.length), (List.ofFn f)[k]'(by simpa using hk) = f ⟨k, hk⟩ := fun k hk => by simp
  refine ⟨List.ofFn f, by simp, ?_, fun p hp => ?_, fun ad hA hE => ?_, fun hA => ?_, fun ad hA j u hu => ?_⟩
  · apply List.ext_getElem
    · simp
    · intro i h1 h2
      simp only [List.getElem_map, List.getElem_ofFn]
      exact (hf ⟨i, h2⟩).1
  · obtain ⟨i, hi, rfl⟩ := List.getElem_of_mem hp
    have hi' : i < l.length := by simpa using hi
    rw [hP i hi']
    obtain ⟨h1, g, o, -, -, -, h3⟩ := hf ⟨i, hi'⟩
    rw [h1]; exact h3
  · have h0 : 0 < l.length := by have := List.length_pos_iff.2 hE; simpa using this
    obtain ⟨-, g, o, e, hg, -⟩ := hf ⟨0, h0⟩
    rw [hA] at e; cases e; exact hg
  · rcases Nat.eq_zero_or_pos l.length with h0 | h0
    · exact List.eq_nil_of_length_eq_zero (by simpa using h0)
    · obtain ⟨-, g, o, e, -⟩ := hf ⟨0, h0⟩
      rw [hA] at e; cases e
  · have hj : j < l.length := by have := (List.getElem?_eq_some_iff.1 hu).1; rw [fl1_len] at this; simpa using this
    obtain ⟨h1, g, o, e, -, hc, -⟩ := hf ⟨j, hj⟩
    rw [hA] at e; cases e
    rw [addr_add, hc, ← hu]
    have h2 := flat_get enc1 1 (fun _ => rfl) (List.ofFn f) j (by simpa using hj) 0 (by omega)
    rw [Nat.mul_one, Nat.add_zero] at h2
    have h3 : (fl1 (List.ofFn f))[j]? = (enc1 ((List.ofFn f)[j]'(by simpa using hj)))[0]? := h2
    rw [h3, hP j hj]
    simp [enc1, h1]
/-- a row apart from two blocks -/
def RowF (w : World) (g h z : Nat) (A : Option Addr) (l : List Int) : Prop := ∀ k (hk : k < l.length), ∃ b o, A = some ⟨b, o, none⟩ ∧ b < w.heap.size ∧ b ≠ g ∧ b ≠ h ∧ b ≠ z ∧ w.cell? ⟨b, o + k, none⟩ = some (.int .i64 l[k])
theorem RowF.step {w w' : World} {g h z : Nat} {A : Option Addr} {l : List Int} (r : RowF w g h z A l) (hb : Below w.heap.size w w') : RowF w' g h z A l := fun k hk => by
  obtain ⟨b, o, e, h1, h2, h3, h5, h4⟩ := r k hk
  exact ⟨b, o, e, Nat.lt_of_lt_of_le h1 hb.size, h2, h3, h5, (hb.cell (p := ⟨b, _, none⟩) h1).trans h4⟩
theorem cell_far {w : World} {b i : Nat} {p : Addr} {v : Value} (h : b ≠ p.block) : (w.setCell p v).cell? ⟨b, i, none⟩ = w.cell? ⟨b, i, none⟩ := by
  have := Below.heap_setCell w p v b h
  unfold World.cell?
  simp only [this]
theorem RowF.set {w : World} {g h z : Nat} {A : Option Addr} {l : List Int} (r : RowF w g h z A l) {p : Addr} (hp : p.block = g ∨ p.block = h) (v : Value) : RowF (w.setCell p v) g h z A l := fun k hk => by
  obtain ⟨b, o, e, h1, h2, h3, h5, h4⟩ := r k hk
  exact ⟨b, o, e, by simpa [World.setCell] using h1, h2, h3, h5, (cell_far (by rcases hp with hp | hp <;> rw [hp] <;> assumption)).trans h4⟩
theorem RowF.row {w : World} {g h z : Nat} {A : Option Addr} {l : List Int} (r : RowF w g h z A l) : IRow w w.heap.size A l := fun k hk => by
  obtain ⟨b, o, e, h1, h2, h3, h5, h4⟩ := r k hk
  exact ⟨b, o, e, h1, h4⟩
/-- what marked has laid -/
structure MB (W w : World) (s : Sk) (A1 A2 : Option Addr) (c1 c2 g h n np : Nat) (E : List En) (P : List Pe) : Prop where
  b : Below W.heap.size W w
  fs : Has w W.heap.size 28 #[.slice A1 n c1, .slice A2 np c2, .int .i64 s.over]
  fx : Has w (W.heap.size + 1) 28 #[.slice none 0 0, .slice none 0 0, .int .i64 0]
  le : E.length = n
  lp : P.length = np
  ge : 0 < n → A1 = some ⟨g, 0, none⟩ ∧ W.heap.size + 1 < g ∧ ∃ cur, Has w g 52 cur ∧ cur.toList.take (n * 6) = fl6 E
  he : 0 < np → A2 = some ⟨h, 0, none⟩ ∧ W.heap.size + 1 < h ∧ ∃ cur, Has w h 22 cur ∧ cur.toList.take (np * 1) = fl1 P
  gh : 0 < n → 0 < np → g ≠ h
  lo : g < w.heap.size ∧ h < w.heap.size
  re : ∀ e ∈ E, RowF w g h (W.heap.size + 1) e.M e.c.marks
  rp : ∀ p ∈ P, RowF w g h (W.heap.size + 1) p.M p.m
theorem MB.step {W w w' : World} {s : Sk} {A1 A2 : Option Addr} {c1 c2 g h n np : Nat} {E : List En} {P : List Pe} (m : MB W w s A1 A2 c1 c2 g h n np E P) (hb : Below w.heap.size w w') : MB W w' s A1 A2 c1 c2 g h n np E P :=
  ⟨m.b.trans (hb.mono m.b.size), m.fs.below hb m.fs.lt, m.fx.below hb m.fx.lt, m.le, m.lp,
   fun h0 => by obtain ⟨a, b, cur, c, d⟩ := m.ge h0; exact ⟨a, b, cur, c.below hb c.lt, d⟩,
   fun h0 => by obtain ⟨a, b, cur, c, d⟩ := m.he h0; exact ⟨a, b, cur, c.below hb c.lt, d⟩,
   m.gh, ⟨Nat.lt_of_lt_of_le m.lo.1 hb.size, Nat.lt_of_lt_of_le m.lo.2 hb.size⟩, fun e he => (m.re e he).step hb, fun p hp => (m.rp p hp).step hb⟩
theorem MB.drew {W w : World} {s : Sk} {A1 A2 : Option Addr} {c1 c2 g h n np : Nat} {E : List En} {P : List Pe} (m : MB W w s A1 A2 c1 c2 g h n np E P) : MB W w.drew s A1 A2 c1 c2 g h n np E P := m.step ((Below.refl _ _).drew)
theorem fl6_set {E : List En} {k : Nat} (hk : k < E.length) {e' : En} {v : Value} (h1 : enc6 e' = (enc6 E[k]).set 5 v) : fl6 (E.set k e') = (fl6 E).set (k * 6 + 5) v := by
  apply List.ext_getElem?
  intro t
  by_cases ht : t < E.length * 6
  · have hi : t / 6 < E.length := by omega
    have hj : t % 6 < 6 := Nat.mod_lt _ (by omega)
    have e1 := flat_get enc6 6 enc6_len (E.set k e') (t / 6) (by simpa using hi) (t % 6) hj
    have e2 := flat_get enc6 6 enc6_len E (t / 6) hi (t % 6) hj
    rw [show t / 6 * 6 + t % 6 = t by omega] at e1 e2
    rw [List.getElem?_set]
    show (List.flatMap enc6 (E.set k e'))[t]? = _
    rw [e1, List.getElem_set]
    by_cases hki : k = t / 6
    · rw [if_pos hki, h1, List.getElem?_set]
      by_cases h5 : t % 6 = 5
      · rw [if_pos (by omega), if_pos (by rw [enc6_len]; omega), if_pos (by omega), if_pos (by rw [fl6_len]; omega)]
      · rw [if_neg (by omega), if_neg (by omega)]
        show _ = (List.flatMap enc6 E)[t]?
        rw [e2]; simp only [hki]
    · rw [if_neg hki, if_neg (by omega)]
      exact e2.symm
  · rw [List.getElem?_eq_none (by rw [fl6_len, List.length_set]; omega), List.getElem?_eq_none (by rw [List.length_set, fl6_len]; omega)]
theorem fl1_set {P : List Pe} {k : Nat} (_hk : k < P.length) {p' : Pe} {v : Value} (h1 : enc1 p' = [v]) : fl1 (P.set k p') = (fl1 P).set k v := by
  have hm : ∀ l : List Pe, fl1 l = l.map (fun p => .slice p.M p.m.length p.k) := fun l => by
    induction l with
    | nil => rfl
    | cons a t ih => show enc1 a ++ fl1 t = _; rw [ih]; rfl
  rw [hm, hm, List.map_set]
  congr 1
  simpa [enc1] using h1
theorem MB.setC {W w : World} {s : Sk} {A1 A2 : Option Addr} {c1 c2 g h n np k : Nat} {E : List En} {P : List Pe} (m : MB W w s A1 A2 c1 c2 g h n np E P) (hk : k < n) (hk' : k < E.length) {R : Nat} {c' : Nat} {l : List Int} (hr : RowF w g h (W.heap.size + 1) (some ⟨R, 0, none⟩) l) :
    MB W (w.setCell ⟨g, k * 6 + 5, none⟩ (.slice (some ⟨R, 0, none⟩) l.length c')) s A1 A2 c1 c2 g h n np (E.set k ⟨{ E[k].c with marks := l }, some ⟨R, 0, none⟩, c', E[k].at_⟩) P := by
  obtain ⟨a, b, cur, c, d⟩ := m.ge (by omega)
  have hcs : n * 6 ≤ cur.size := by
    have : (cur.toList.take (n * 6)).length = n * 6 := by rw [d, fl6_len, m.le]
    rw [List.length_take] at this
    simp at this
    omega
  refine ⟨m.b.setCell (by simp only; omega) _, m.fs.far (by simp only; omega) _, m.fx.far (by simp only; omega) _, by rw [List.length_set]; exact m.le, m.lp, fun _ => ⟨a, b, _, c.set _ _, ?_⟩, fun h0 => ?_, m.gh, ?_, fun e he => ?_, fun p hp => (m.rp p hp).set (.inl rfl) _⟩
  · have hf := fl6_set hk' (e' := ⟨{ E[k].c with marks := l }, some ⟨R, 0, none⟩, c', E[k].at_⟩) (v := .slice (some ⟨R, 0, none⟩) l.length c') rfl
    rw [hf, ← d]
    rw [Array.toList_setIfInBounds, List.take_set]
  · obtain ⟨a', b', cur', c'', d'⟩ := m.he h0
    exact ⟨a', b', cur', c''.far (by have := m.gh (by omega) h0; simp only; omega) _, d'⟩
  · have h1 : (w.setCell ⟨g, k * 6 + 5, none⟩ (.slice (some ⟨R, 0, none⟩) l.length c')).heap.size = w.heap.size := by simp [World.setCell]
    rw [h1]; exact m.lo
  · rcases List.mem_or_eq_of_mem_set he with he | rfl
    · exact (m.re e he).set (.inl rfl) _
    · exact hr.set (.inl rfl) _
theorem MB.setP {W w : World} {s : Sk} {A1 A2 : Option Addr} {c1 c2 g h n np k : Nat} {E : List En} {P : List Pe} (m : MB W w s A1 A2 c1 c2 g h n np E P) (hk : k < np) (hk' : k < P.length) {R : Nat} {c' : Nat} {l : List Int} (hr : RowF w g h (W.heap.size + 1) (some ⟨R, 0, none⟩) l) :
    MB W (w.setCell ⟨h, k, none⟩ (.slice (some ⟨R, 0, none⟩) l.length c')) s A1 A2 c1 c2 g h n np E (P.set k ⟨l, some ⟨R, 0, none⟩, c'⟩) := by
  obtain ⟨a, b, cur, c, d⟩ := m.he (by omega)
  refine ⟨m.b.setCell (by simp only; omega) _, m.fs.far (by simp only; omega) _, m.fx.far (by simp only; omega) _, m.le, by rw [List.length_set]; exact m.lp, fun h0 => ?_, fun _ => ⟨a, b, _, c.set _ _, ?_⟩, m.gh, ?_, fun e he => (m.re e he).set (.inr rfl) _, fun p hp => ?_⟩
  · obtain ⟨a', b', cur', c'', d'⟩ := m.ge h0
    exact ⟨a', b', cur', c''.far (by have := m.gh h0 (by omega); simp only; omega) _, d'⟩
  · rw [fl1_set hk' (v := .slice (some ⟨R, 0, none⟩) l.length c') rfl, ← d]
    rw [Array.toList_setIfInBounds, List.take_set]
  · have h1 : (w.setCell ⟨h, k, none⟩ (.slice (some ⟨R, 0, none⟩) l.length c')).heap.size = w.heap.size := by simp [World.setCell]
    rw [h1]; exact m.lo
  · rcases List.mem_or_eq_of_mem_set hp with hp | rfl
    · exact (m.rp p hp).set (.inr rfl) _
    · exact hr.set (.inr rfl) _
/-- the first k of a row changed -/
def part {α : Type} (f : α → α) (l : List α) (k : Nat) : List α := (l.take k).map f ++ l.drop k
theorem part_zero {α : Type} (f : α → α) (l : List α) : part f l 0 = l := by simp [part]
theorem part_end {α : Type} (f : α → α) (l : List α) : part f l l.length = l.map f := by simp [part]
theorem part_at {α : Type} (f : α → α) (l : List α) (k : Nat) (h : k < l.length) : (part f l k)[k]? = some l[k] := by
  unfold part
  rw [List.getElem?_append_right (by rw [List.length_map, List.length_take]; omega)]
  simp [Nat.min_eq_left (Nat.le_of_lt h), h]
theorem part_step {α : Type} (f : α → α) (l : List α) (k : Nat) (h : k < l.length) : (part f l k).set k (f l[k]) = part f l (k + 1) := by
  unfold part
  have hk : min k l.length = k := Nat.min_eq_left (Nat.le_of_lt h)
  rw [List.set_append, if_neg (by simp; omega)]
  rw [List.length_map, List.length_take, hk, Nat.sub_self]
  rw [List.drop_eq_getElem_cons h, List.set_cons_zero, List.take_succ_eq_append_getElem h, List.map_append, List.append_assoc]
  rfl
end Go.Proofs.Ytmclchaalmonnaa
