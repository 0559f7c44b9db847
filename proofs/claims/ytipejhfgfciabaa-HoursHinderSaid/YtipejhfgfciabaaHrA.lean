/- Plain: timetables, places, what comes next, what is best. -/
namespace Go.Proofs.Ytipejhfgfciabaa
structure Hr where
  day : Int
  beg : Int
  fin : Int
structure Gr where
  days : Int
  early : Int
  late : Int
  most : Int
  credit : Int
structure Tt where
  H : List Hr
  G : List Gr
  R : Int
structure Pl where
  hour : Nat
  last : Int
  given : List Int
def mayB (g : Gr) (h : Hr) : Bool := decide (g.days / 2 ^ h.day.toNat % 2 = 1) && (decide (g.early ≤ h.beg) && decide (h.fin ≤ g.late))
def tightB (x : Tt) (i : Nat) : Bool := match x.H[i]?, x.H[i + 1]? with
  | some a, some b => decide (a.day = b.day) && decide (b.beg - a.fin < x.R)
  | _, _ => false
def startP : Pl := ⟨0, -1, List.replicate 5 0⟩
def zeroP : Pl := ⟨0, 0, List.replicate 5 0⟩
/-- the errno, and the place behind -/
def giveR (x : Tt) (p : Pl) (g : Int) : Int × Pl :=
  if g = -1 then (0, ⟨p.hour + 1, -1, p.given⟩)
  else match x.G[g.toNat]?, x.H[p.hour]? with
    | some gr, some h =>
      if mayB gr h = false then (11, zeroP)
      else if gr.most ≤ p.given.getD g.toNat 0 then (12, zeroP)
      else if p.last ≠ -1 ∧ p.last ≠ g then (6, zeroP)
      else (0, ⟨p.hour + 1, if tightB x p.hour then g else -1, p.given.set g.toNat (p.given.getD g.toNat 0 + 1)⟩)
    | _, _ => (11, zeroP)
def choices (x : Tt) : List Int := (List.range x.G.length).map (fun (i : Nat) => (i : Int)) ++ [-1]
def nexts (x : Tt) (p : Pl) : List (Int × Pl) := (choices x).filterMap fun g => if (giveR x p g).1 = 0 then some (g, (giveR x p g).2) else none
def ownedL (x : Tt) (p : Pl) : List Int := x.G.mapIdx fun i g => p.given.getD i 0 + g.credit
/-- insertion sort -/
def ins (a : Int) : List Int → List Int
  | [] => [a]
  | b :: l => if a ≤ b then a :: b :: l else b :: ins a l
def srt : List Int → List Int
  | [] => []
  | a :: l => ins a (srt l)
def cmpL : List Int → List Int → Int
  | [], [] => 0
  | [], _ :: _ => -1
  | _ :: _, [] => 1
  | a :: l, b :: m => if a < b then -1 else if b < a then 1 else cmpL l m
def stepMost (best : Pl → List Int) (most : List Int) (gq : Int × Pl) : List Int := if 0 < cmpL (best gq.2) most then best gq.2 else most
def bestP (x : Tt) : Nat → Pl → List Int
  | 0, p => srt (ownedL x p)
  | n + 1, p => (nexts x p).foldl (stepMost (bestP x n)) []
def planP (x : Tt) (aim : List Int) : Nat → Pl → List Int
  | 0, _ => []
  | n + 1, p => match (nexts x p).find? (fun gq => decide (bestP x n gq.2 = aim)) with
    | some (g, q) => g :: planP x aim n q
    | none => planP x aim n p
def fairP (x : Tt) : List Int := planP x (bestP x x.H.length startP) x.H.length startP
/-- the place behind a plan that goes on from one, if all is well -/
def runP (x : Tt) : Pl → List Int → Option Pl
  | p, [] => some p
  | p, g :: l => if g ∈ choices x ∧ (giveR x p g).1 = 0 then runP x (giveR x p g).2 l else none

/-! ### comparing -/
theorem cmpL_self : ∀ l, cmpL l l = 0
  | [] => rfl
  | a :: l => by simp [cmpL, cmpL_self l]
theorem cmpL_anti : ∀ l m, cmpL l m = - cmpL m l
  | [], [] => rfl
  | [], _ :: _ => rfl
  | _ :: _, [] => rfl
  | a :: l, b :: m => by
    unfold cmpL
    by_cases h : a < b
    · have : ¬ b < a := by omega
      simp [h, this]
    · by_cases h2 : b < a
      · simp [h, h2]
      · simp [h, h2]; exact cmpL_anti l m
theorem cmpL_range : ∀ l m, cmpL l m = -1 ∨ cmpL l m = 0 ∨ cmpL l m = 1
  | [], [] => by simp [cmpL]
  | [], _ :: _ => by simp [cmpL]
  | _ :: _, [] => by simp [cmpL]
  | a :: l, b :: m => by
    unfold cmpL
    split
    · simp
    · split
      · simp
      · exact cmpL_range l m
theorem cmpL_zero : ∀ l m, cmpL l m = 0 → l = m
  | [], [], _ => rfl
  | [], _ :: _, h => by simp [cmpL] at h
  | _ :: _, [], h => by simp [cmpL] at h
  | a :: l, b :: m, h => by
    unfold cmpL at h
    split at h
    · simp at h
    · split at h
      · simp at h
      · rw [cmpL_zero l m h, show a = b by omega]
/-- l ≤ m ≤ n -/
theorem cmpL_trans : ∀ l m n, cmpL l m ≤ 0 → cmpL m n ≤ 0 → cmpL l n ≤ 0
  | [], m, [], _, _ => by simp [cmpL]
  | [], _, _ :: _, _, _ => by simp [cmpL]
  | a :: l, [], _, h, _ => by simp [cmpL] at h
  | a :: l, b :: m, [], _, h => by simp [cmpL] at h
  | a :: l, b :: m, c :: n, h1, h2 => by
    unfold cmpL at h1 h2 ⊢
    by_cases hab : a < b
    · by_cases hbc : b < c
      · rw [if_pos (by omega)]; decide
      · by_cases hcb : c < b
        · simp [hbc, hcb] at h2
        · rw [if_pos (by omega)]; decide
    · by_cases hba : b < a
      · simp [hab, hba] at h1
      · by_cases hbc : b < c
        · rw [if_pos (by omega)]; decide
        · by_cases hcb : c < b
          · simp [hbc, hcb] at h2
          · rw [if_neg (by omega), if_neg (by omega)]
            simp [hab, hba] at h1
            simp [hbc, hcb] at h2
            exact cmpL_trans l m n h1 h2
theorem cmpL_nil (l : List Int) : 0 ≤ cmpL l [] := by cases l <;> simp [cmpL]

/-! ### the greatest of a fold -/
theorem foldMost_ge (best : Pl → List Int) : ∀ (L : List (Int × Pl)) (m : List Int), cmpL m (L.foldl (stepMost best) m) ≤ 0 ∧ (∀ gq ∈ L, cmpL (best gq.2) (L.foldl (stepMost best) m) ≤ 0) ∧ (L.foldl (stepMost best) m = m ∨ ∃ gq ∈ L, L.foldl (stepMost best) m = best gq.2)
  | [], m => by simp [cmpL_self]
  | gq :: L, m => by
    have ih := foldMost_ge best L (stepMost best m gq)
    have h1 : cmpL m (stepMost best m gq) ≤ 0 := by
      unfold stepMost
      split
      · rename_i h; have := cmpL_anti m (best gq.2); omega
      · rw [cmpL_self]; decide
    have h2 : cmpL (best gq.2) (stepMost best m gq) ≤ 0 := by
      unfold stepMost
      split
      · rw [cmpL_self]; decide
      · rename_i h; omega
    have h3 : stepMost best m gq = m ∨ stepMost best m gq = best gq.2 := by
      unfold stepMost
      split
      · exact .inr rfl
      · exact .inl rfl
    simp only [List.foldl_cons]
    refine ⟨cmpL_trans _ _ _ h1 ih.1, ?_, ?_⟩
    · intro gq' hg
      rcases List.mem_cons.1 hg with rfl | hg
      · exact cmpL_trans _ _ _ h2 ih.1
      · exact ih.2.1 gq' hg
    · rcases ih.2.2 with h | ⟨gq', hg, h⟩
      · rcases h3 with h3 | h3
        · exact .inl (h.trans h3)
        · exact .inr ⟨gq, by simp, h.trans h3⟩
      · exact .inr ⟨gq', by simp [hg], h⟩

theorem give_free (x : Tt) (p : Pl) : giveR x p (-1) = (0, ⟨p.hour + 1, -1, p.given⟩) := by simp [giveR]
theorem mem_nexts {x : Tt} {p : Pl} {g : Int} {q : Pl} : (g, q) ∈ nexts x p ↔ g ∈ choices x ∧ giveR x p g = (0, q) := by
  unfold nexts
  rw [List.mem_filterMap]
  constructor
  · rintro ⟨a, ha, h⟩
    split at h
    · rename_i h0
      cases h
      exact ⟨ha, by rw [← h0]⟩
    · cases h
  · rintro ⟨ha, h⟩
    exact ⟨g, ha, by simp [h]⟩
theorem free_mem (x : Tt) : (-1 : Int) ∈ choices x := by simp [choices]
theorem srt_length : ∀ l, (srt l).length = l.length
  | [] => rfl
  | a :: l => by
    have : ∀ (m : List Int), (ins a m).length = m.length + 1 := by
      intro m
      induction m with
      | nil => rfl
      | cons b m ih => unfold ins; split <;> simp [ih]
    simp [srt, this, srt_length l]
theorem owned_length (x : Tt) (p : Pl) : (ownedL x p).length = x.G.length := by simp [ownedL]
/-- what a plan that goes on gives is no more than the best, and the best is given by one -/
theorem best_spec (x : Tt) : ∀ (n : Nat) (p : Pl), (∀ l q, l.length = n → runP x p l = some q → cmpL (srt (ownedL x q)) (bestP x n p) ≤ 0) ∧ ∃ l q, l.length = n ∧ runP x p l = some q ∧ bestP x n p = srt (ownedL x q)
  | 0, p => by
    constructor
    · intro l q hl h
      cases l with
      | nil => simp [runP] at h; subst h; simp [bestP, cmpL_self]
      | cons => simp at hl
    · exact ⟨[], p, rfl, rfl, rfl⟩
  | n + 1, p => by
    have hF := foldMost_ge (bestP x n) (nexts x p) []
    constructor
    · intro l q hl h
      cases l with
      | nil => simp at hl
      | cons g l =>
        simp only [runP] at h
        split at h
        · rename_i hg
          have hm : (g, (giveR x p g).2) ∈ nexts x p := mem_nexts.2 ⟨hg.1, by rw [← hg.2]⟩
          exact cmpL_trans _ _ _ ((best_spec x n _).1 l q (by simpa using hl) h) (hF.2.1 (g, (giveR x p g).2) hm)
        · cases h
    · rcases hF.2.2 with h | ⟨⟨g, q⟩, hg, h⟩
      · -- nothing is more than nothing: no groups
        have hm : ((-1 : Int), (⟨p.hour + 1, -1, p.given⟩ : Pl)) ∈ nexts x p := mem_nexts.2 ⟨free_mem x, give_free x p⟩
        obtain ⟨l, q, hl, hr, hb⟩ := (best_spec x n ⟨p.hour + 1, -1, p.given⟩).2
        have h0 := hF.2.1 _ hm
        rw [h] at h0
        have h1 : cmpL (bestP x n ⟨p.hour + 1, -1, p.given⟩) [] = 0 := by have := cmpL_nil (bestP x n ⟨p.hour + 1, -1, p.given⟩); simp only at h0; omega
        refine ⟨-1 :: l, q, by simp [hl], ?_, ?_⟩
        · simp only [runP, give_free, free_mem, true_and, if_true]; exact hr
        · show (nexts x p).foldl (stepMost (bestP x n)) [] = _
          rw [h, ← hb, cmpL_zero _ _ h1]
      · obtain ⟨hc, hgv⟩ := mem_nexts.1 hg
        obtain ⟨l, q', hl, hr, hb⟩ := (best_spec x n q).2
        refine ⟨g :: l, q', by simp [hl], ?_, ?_⟩
        · simp only [runP, hgv, hc, true_and, if_true]; exact hr
        · show (nexts x p).foldl (stepMost (bestP x n)) [] = _
          rw [h]; exact hb
/-- before: plans in order, Free behind all groups -/
def key (x : Tt) (g : Int) : Int := if g = -1 then x.G.length else g
def lexLe (x : Tt) : List Int → List Int → Prop
  | [], _ => True
  | _ :: _, [] => True
  | a :: l, b :: m => key x a < key x b ∨ (a = b ∧ lexLe x l m)
theorem choices_sorted (x : Tt) : (choices x).Pairwise (fun a b => key x a < key x b) := by
  unfold choices
  rw [List.pairwise_append]
  refine ⟨?_, by simp, ?_⟩
  · rw [List.pairwise_map]
    have := List.pairwise_lt_range (n := x.G.length)
    refine this.imp ?_
    intro a b hab
    unfold key
    rw [if_neg (by omega), if_neg (by omega)]; omega
  · intro a ha b hb
    simp at ha hb
    obtain ⟨i, hi, rfl⟩ := ha
    subst hb
    unfold key
    rw [if_neg (by omega)]; simp; omega
theorem find_first {α} {r : α → α → Prop} {f : α → Bool} : ∀ {l : List α} {a : α}, l.Pairwise r → l.find? f = some a → f a = true ∧ a ∈ l ∧ ∀ b ∈ l, f b = true → b = a ∨ r a b
  | [], _, _, h => by simp at h
  | c :: l, a, hp, h => by
    obtain ⟨h1, h2⟩ := List.pairwise_cons.1 hp
    rw [List.find?_cons] at h
    split at h
    · rename_i hc
      cases h
      refine ⟨hc, by simp, ?_⟩
      intro b hb _
      rcases List.mem_cons.1 hb with rfl | hb
      · exact .inl rfl
      · exact .inr (h1 b hb)
    · rename_i hc
      obtain ⟨i1, i2, i3⟩ := find_first h2 h
      refine ⟨i1, by simp [i2], ?_⟩
      intro b hb hfb
      rcases List.mem_cons.1 hb with rfl | hb
      · rw [hfb] at hc; cases hc
      · exact i3 b hb hfb
theorem nexts_sorted (x : Tt) (p : Pl) : (nexts x p).Pairwise (fun a b => key x a.1 < key x b.1) := by
  unfold nexts
  rw [List.pairwise_filterMap]
  refine (choices_sorted x).imp ?_
  intro a b hab c hc d hd
  split at hc
  · cases hc
    split at hd
    · cases hd; exact hab
    · cases hd
  · cases hc
/-- the plan: it has the aim, and is the first such -/
theorem plan_spec (x : Tt) (aim : List Int) : ∀ (n : Nat) (p : Pl), (∃ l q, l.length = n ∧ runP x p l = some q ∧ srt (ownedL x q) = aim) → (∀ l q, l.length = n → runP x p l = some q → cmpL (srt (ownedL x q)) aim ≤ 0) →
    (planP x aim n p).length = n ∧ (∃ q, runP x p (planP x aim n p) = some q ∧ srt (ownedL x q) = aim) ∧ ∀ l q, l.length = n → runP x p l = some q → srt (ownedL x q) = aim → lexLe x (planP x aim n p) l
  | 0, p, ⟨l, q, hl, hr, ha⟩, _ => by
    cases l with
    | nil =>
      simp [runP] at hr; subst hr
      exact ⟨rfl, ⟨p, rfl, ha⟩, fun _ _ _ _ _ => trivial⟩
    | cons => simp at hl
  | n + 1, p, ⟨l, q, hl, hr, ha⟩, hmax => by
    cases l with
    | nil => simp at hl
    | cons g l =>
      simp only [runP] at hr
      split at hr
      rotate_left
      · cases hr
      rename_i hg
      have sub : ∀ g q', (g, q') ∈ nexts x p → ∀ l q, l.length = n → runP x q' l = some q → cmpL (srt (ownedL x q)) aim ≤ 0 := by
        intro g q' hm l q hl hr
        obtain ⟨hc, hgv⟩ := mem_nexts.1 hm
        exact hmax (g :: l) q (by simp [hl]) (by simp only [runP, hgv, hc, true_and, if_true]; exact hr)
      have bestAim : ∀ g q', (g, q') ∈ nexts x p → (∃ l q, l.length = n ∧ runP x q' l = some q ∧ srt (ownedL x q) = aim) → bestP x n q' = aim := by
        intro g q' hm ⟨l, q, hl, hr, ha⟩
        obtain ⟨h1, l2, q2, hl2, hr2, hb2⟩ := best_spec x n q'
        have e1 := h1 l q hl hr
        have e2 := sub g q' hm l2 q2 hl2 hr2
        rw [← hb2] at e2
        rw [ha] at e1
        have := cmpL_anti aim (bestP x n q')
        exact cmpL_zero _ _ (by omega)
      have hm : (g, (giveR x p g).2) ∈ nexts x p := mem_nexts.2 ⟨hg.1, by rw [← hg.2]⟩
      cases hf : (nexts x p).find? (fun gq => decide (bestP x n gq.2 = aim)) with
      | none =>
        have := List.find?_eq_none.1 hf _ hm
        exact absurd (bestAim g _ hm ⟨l, q, by simpa using hl, hr, ha⟩) (by simpa using this)
      | some gq =>
        obtain ⟨g', q'⟩ := gq
        obtain ⟨e1, e2, e3⟩ := find_first (nexts_sorted x p) hf
        have e1 : bestP x n q' = aim := of_decide_eq_true e1
        obtain ⟨hc', hgv'⟩ := mem_nexts.1 e2
        obtain ⟨h1, l2, q2, hl2, hr2, hb2⟩ := best_spec x n q'
        have ih := plan_spec x aim n q' ⟨l2, q2, hl2, hr2, by rw [← hb2, e1]⟩ (sub g' q' e2)
        have hP : planP x aim (n + 1) p = g' :: planP x aim n q' := by simp only [planP, hf]
        rw [hP]
        refine ⟨by simp [ih.1], ?_, ?_⟩
        · obtain ⟨q3, hr3, ha3⟩ := ih.2.1
          exact ⟨q3, by simp only [runP, hgv', hc', true_and, if_true]; exact hr3, ha3⟩
        · intro l3 q3 hl3 hr3 ha3
          cases l3 with
          | nil => simp at hl3
          | cons g3 l3 =>
            simp only [runP] at hr3
            split at hr3
            rotate_left
            · cases hr3
            rename_i hg3
            have hm3 : (g3, (giveR x p g3).2) ∈ nexts x p := mem_nexts.2 ⟨hg3.1, by rw [← hg3.2]⟩
            have hb3 := bestAim g3 _ hm3 ⟨l3, q3, by simpa using hl3, hr3, ha3⟩
            rcases e3 _ hm3 (decide_eq_true hb3) with h | h
            · cases h
              refine .inr ⟨rfl, ?_⟩
              exact ih.2.2 l3 q3 (by simpa using hl3) hr3 ha3
            · exact .inl h
/-- THE FAIREST PLAN -/
theorem fair_spec (x : Tt) : (fairP x).length = x.H.length ∧ ∃ q, runP x startP (fairP x) = some q ∧ (∀ l q', l.length = x.H.length → runP x startP l = some q' → cmpL (srt (ownedL x q')) (srt (ownedL x q)) ≤ 0 ∧ (srt (ownedL x q') = srt (ownedL x q) → lexLe x (fairP x) l)) := by
  obtain ⟨h1, l2, q2, hl2, hr2, hb2⟩ := best_spec x x.H.length startP
  obtain ⟨e1, ⟨q, e2, e3⟩, e4⟩ := plan_spec x (bestP x x.H.length startP) x.H.length startP ⟨l2, q2, hl2, hr2, hb2.symm⟩ h1
  refine ⟨e1, q, e2, fun l q' hl hr => ⟨?_, ?_⟩⟩
  · rw [e3]; exact h1 l q' hl hr
  · intro ha; exact e4 l q' hl hr (ha.trans e3)
end Go.Proofs.Ytipejhfgfciabaa
