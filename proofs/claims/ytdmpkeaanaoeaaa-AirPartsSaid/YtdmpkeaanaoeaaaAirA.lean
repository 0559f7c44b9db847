/- The air, plainly: what it holds, what a step does, what is known. -/
import Derived.WalkKit
namespace Go.Proofs.Ytdmpkeaanaoeaaa
structure Air where
  R : Int
  T : List Int
  H : List Int
  b0 : Int
  b1 : Int
structure Stp where
  cold : Int
  ppl : Int
  chg : Int
  o0 : Int
  o1 : Int
  s0 : Int
  s1 : Int
  dry : Int
structure Mo where
  ch : Int
  c0 : Int
  c1 : Int
  dr : Int
  ho : Int
structure Co where
  w : Int
  came : Int
  out : Int
  dried : Int
  dew : Int
def inB (n lo hi : Int) : Bool := decide (lo ≤ n ∧ n ≤ hi)
def spB (lo hi most : Int) : Bool := decide (0 ≤ lo ∧ lo ≤ hi ∧ hi ≤ most)
def crvAt (T H : List Int) (i : Nat) : Bool :=
  decide (-500 ≤ T.getD i 0 ∧ T.getD i 0 ≤ 500) && (decide (1 ≤ H.getD i 0 ∧ H.getD i 0 ≤ 100000) && (decide (i = 0) || decide (T.getD (i - 1) 0 < T.getD i 0 ∧ H.getD (i - 1) 0 ≤ H.getD i 0)))
def crvB (T H : List Int) (k : Nat) : Bool := (List.range k).all (crvAt T H)
theorem crvB_succ (T H : List Int) (k : Nat) : crvB T H (k + 1) = (crvB T H k && crvAt T H k) := by
  unfold crvB; rw [List.range_succ, List.all_append]; simp
def airB (a : Air) : Bool :=
  inB a.R 1 1048576 && (spB a.b0 a.b1 1048576 && (inB a.T.length 1 32 && (decide (a.T.length = a.H.length) && crvB a.T a.H a.T.length)))
structure VA (a : Air) : Prop where
  R : 1 ≤ a.R ∧ a.R ≤ 1048576
  b : 0 ≤ a.b0 ∧ a.b0 ≤ a.b1 ∧ a.b1 ≤ 1048576
  n : 1 ≤ a.T.length ∧ a.T.length ≤ 32
  l : a.T.length = a.H.length
  t : ∀ i, i < a.T.length → -500 ≤ a.T.getD i 0 ∧ a.T.getD i 0 ≤ 500
  h : ∀ i, i < a.T.length → 1 ≤ a.H.getD i 0 ∧ a.H.getD i 0 ≤ 100000
  s : ∀ i, i + 1 < a.T.length → a.T.getD i 0 < a.T.getD (i + 1) 0 ∧ a.H.getD i 0 ≤ a.H.getD (i + 1) 0
theorem airB_iff (a : Air) : airB a = true ↔ VA a := by
  unfold airB inB spB crvB crvAt
  simp only [Bool.and_eq_true, decide_eq_true_eq, List.all_eq_true, List.mem_range, Bool.or_eq_true]
  constructor
  · rintro ⟨h1, h2, h3, h4, h5⟩
    refine ⟨h1, h2, by omega, h4, fun i hi => (h5 i hi).1, fun i hi => (h5 i hi).2.1, fun i hi => ?_⟩
    rcases (h5 (i + 1) hi).2.2 with h | h
    · omega
    · simpa using h
  · rintro ⟨h1, h2, h3, h4, h5, h6, h7⟩
    refine ⟨h1, h2, by omega, h4, fun i hi => ⟨h5 i hi, h6 i hi, ?_⟩⟩
    cases i with
    | zero => exact .inl rfl
    | succ i => exact .inr (by simpa using h7 i hi)
def onB (a : Air) (t : Int) : Bool := decide (a.T.getD 0 0 ≤ t ∧ t ≤ a.T.getD (a.T.length - 1) 0)
/-- the place of the first number that is no less than t -/
def idx (T : List Int) (t : Int) : Nat := T.findIdx fun x => decide (t ≤ x)
theorem idx_of {T : List Int} {t : Int} {i : Nat} (h0 : ∀ k, k < i → k < T.length → T.getD k 0 < t) (hi : i ≤ T.length) (h1 : i < T.length → t ≤ T.getD i 0) : idx T t = i := by
  unfold idx
  rcases Nat.lt_or_ge i T.length with h | h
  · rw [List.findIdx_eq h]
    refine ⟨by have := h1 h; rw [List.getD_eq_getElem?_getD, List.getElem?_eq_getElem h] at this; simpa using this, fun j hj => ?_⟩
    have := h0 j hj (by omega)
    rw [List.getD_eq_getElem?_getD, List.getElem?_eq_getElem (show j < T.length by omega)] at this
    simpa using this
  · have hi' : i = T.length := by omega
    subst hi'
    rw [List.findIdx_eq_length]
    intro x hx
    obtain ⟨k, hk, rfl⟩ := List.mem_iff_getElem.1 hx
    have := h0 k hk hk
    rw [List.getD_eq_getElem?_getD, List.getElem?_eq_getElem hk] at this
    simpa using this
theorem idx_le (T : List Int) (t : Int) : idx T t ≤ T.length := List.findIdx_le_length
theorem idx_lt {T : List Int} {t : Int} : ∀ k, k < idx T t → k < T.length ∧ T.getD k 0 < t := fun k hk => by
  have hl := idx_le T t
  have := List.not_of_lt_findIdx (show k < T.findIdx _ from hk)
  refine ⟨by omega, ?_⟩
  rw [List.getD_eq_getElem?_getD, List.getElem?_eq_getElem (show k < T.length by omega)]
  simpa using this
theorem idx_ge {T : List Int} {t : Int} (h : idx T t < T.length) : t ≤ T.getD (idx T t) 0 := by
  have := List.findIdx_getElem (w := h)
  rw [List.getD_eq_getElem?_getD, List.getElem?_eq_getElem h]
  exact of_decide_eq_true this
def mid (A B x y : Int) : Int := A + (B - A) * x / y
def holdsP (a : Air) (t : Int) : Int :=
  if a.T.getD (idx a.T t) 0 = t then a.H.getD (idx a.T t) 0 * a.R
  else mid (a.H.getD (idx a.T t - 1) 0) (a.H.getD (idx a.T t) 0) (t - a.T.getD (idx a.T t - 1) 0) (a.T.getD (idx a.T t) 0 - a.T.getD (idx a.T t - 1) 0) * a.R
theorem VA.mono {a : Air} (h : VA a) : ∀ (d i : Nat), i + d < a.T.length → a.T.getD i 0 + d ≤ a.T.getD (i + d) 0 ∧ a.H.getD i 0 ≤ a.H.getD (i + d) 0
  | 0, i, _ => by simp
  | d + 1, i, hi => by
    have := h.mono d i (by omega)
    have := h.s (i + d) (by omega)
    rw [← Nat.add_assoc] 
    omega
theorem VA.le {a : Air} (h : VA a) {i j : Nat} (hij : i ≤ j) (hj : j < a.T.length) : a.T.getD i 0 ≤ a.T.getD j 0 ∧ a.H.getD i 0 ≤ a.H.getD j 0 := by
  have := h.mono (j - i) i (by omega)
  rw [show i + (j - i) = j by omega] at this
  omega
theorem VA.lt {a : Air} (h : VA a) {i j : Nat} (hij : i < j) (hj : j < a.T.length) : a.T.getD i 0 < a.T.getD j 0 := by
  have := h.mono (j - i) i (by omega)
  rw [show i + (j - i) = j by omega] at this
  omega
/-- where a temperature of the curve lies -/
structure At (a : Air) (t : Int) (i : Nat) : Prop where
  lt : i < a.T.length
  ge : t ≤ a.T.getD i 0
  before : ∀ k, k < i → a.T.getD k 0 < t
  pos : a.T.getD i 0 ≠ t → 0 < i
theorem at_of {a : Air} {t : Int} (h : VA a) (ho : onB a t = true) : At a t (idx a.T t) := by
  unfold onB at ho
  simp only [decide_eq_true_eq] at ho
  have hlt : idx a.T t < a.T.length := by
    rcases Nat.lt_or_ge (idx a.T t) a.T.length with h' | h'
    · exact h'
    · have := (idx_lt (T := a.T) (t := t) (a.T.length - 1) (by have := h.n; omega)).2
      omega
  have hge := idx_ge hlt
  refine ⟨hlt, hge, fun k hk => (idx_lt k hk).2, fun hne => ?_⟩
  rcases Nat.eq_zero_or_pos (idx a.T t) with h0 | h0
  · rw [h0] at hne hge; omega
  · exact h0
theorem At.idx {a : Air} {t : Int} {i : Nat} (h : At a t i) : idx a.T t = i := idx_of (fun k hk _ => h.before k hk) (by have := h.lt; omega) (fun _ => h.ge)
theorem mid_bd {A B x y : Int} (h : A ≤ B) (h0 : 0 ≤ x) (h1 : x ≤ y) (hy : 0 < y) : A ≤ mid A B x y ∧ mid A B x y ≤ B := by
  unfold mid
  have p0 : 0 ≤ (B - A) * x := Int.mul_nonneg (by omega) h0
  have p1 : (B - A) * x ≤ (B - A) * y := Int.mul_le_mul_of_nonneg_left h1 (by omega)
  have q0 : 0 ≤ (B - A) * x / y := Int.ediv_nonneg p0 (by omega)
  have q1 : (B - A) * x / y ≤ B - A := Int.ediv_le_of_le_mul hy p1
  omega
theorem mid_mono {A B x x' y : Int} (h : A ≤ B) (h1 : x ≤ x') (hy : 0 < y) : mid A B x y ≤ mid A B x' y := by
  unfold mid
  have p1 : (B - A) * x ≤ (B - A) * x' := Int.mul_le_mul_of_nonneg_left h1 (by omega)
  have := Int.ediv_le_ediv hy p1
  omega
/-- what the air holds for each unit of its room -/
def unitP (a : Air) (t : Int) : Int :=
  if a.T.getD (idx a.T t) 0 = t then a.H.getD (idx a.T t) 0
  else mid (a.H.getD (idx a.T t - 1) 0) (a.H.getD (idx a.T t) 0) (t - a.T.getD (idx a.T t - 1) 0) (a.T.getD (idx a.T t) 0 - a.T.getD (idx a.T t - 1) 0)
theorem holdsP_unit (a : Air) (t : Int) : holdsP a t = unitP a t * a.R := by unfold holdsP unitP; split <;> rfl
theorem unit_bd {a : Air} {t : Int} (h : VA a) (ho : onB a t = true) : a.H.getD 0 0 ≤ unitP a t ∧ a.H.getD (idx a.T t - 1) 0 ≤ unitP a t ∧ unitP a t ≤ a.H.getD (idx a.T t) 0 ∧ unitP a t ≤ a.H.getD (a.T.length - 1) 0 := by
  have hat := at_of h ho
  have h1 := (h.le (Nat.zero_le (idx a.T t)) hat.lt).2
  have h2 := (h.le (i := idx a.T t) (j := a.T.length - 1) (by have := hat.lt; omega) (by have := h.n; omega)).2
  have h3 := (h.le (i := idx a.T t - 1) (j := idx a.T t) (by omega) hat.lt).2
  have h4 := (h.le (i := 0) (j := idx a.T t - 1) (by omega) (by have := hat.lt; omega)).2
  unfold unitP
  split
  · omega
  · rename_i hne
    have hp := hat.pos hne
    have hb := hat.before (idx a.T t - 1) (by omega)
    have hg := hat.ge
    have := mid_bd (A := a.H.getD (idx a.T t - 1) 0) (B := a.H.getD (idx a.T t) 0) (x := t - a.T.getD (idx a.T t - 1) 0) (y := a.T.getD (idx a.T t) 0 - a.T.getD (idx a.T t - 1) 0) h3 (by omega) (by omega) (by omega)
    omega
theorem unit_pos {a : Air} {t : Int} (h : VA a) (ho : onB a t = true) : 1 ≤ unitP a t ∧ unitP a t ≤ 100000 := by
  have := unit_bd h ho
  have h1 := h.h 0 (by have := h.n; omega)
  have h2 := h.h (a.T.length - 1) (by have := h.n; omega)
  omega
theorem holds_bd {a : Air} {t : Int} (h : VA a) (ho : onB a t = true) : 1 ≤ holdsP a t ∧ holdsP a t ≤ 274877906944 := by
  have hu := unit_pos h ho
  have hR := h.R
  rw [holdsP_unit]
  have p0 : 1 * 1 ≤ unitP a t * a.R := Int.mul_le_mul hu.1 hR.1 (by omega) (by omega)
  have p1 : unitP a t * a.R ≤ 100000 * 1048576 := Int.mul_le_mul hu.2 hR.2 (by omega) (by omega)
  omega
/-- warmer air holds no less -/
theorem unit_mono {a : Air} {t t' : Int} (h : VA a) (ho : onB a t = true) (ho' : onB a t' = true) (htt : t ≤ t') : unitP a t ≤ unitP a t' := by
  have hat := at_of h ho
  have hat' := at_of h ho'
  have hb := unit_bd h ho
  have hb' := unit_bd h ho'
  have hij : idx a.T t ≤ idx a.T t' := by
    rcases Nat.lt_or_ge (idx a.T t') (idx a.T t) with hc | hc
    · have := hat.before _ hc
      have := hat'.ge
      omega
    · exact hc
  rcases Nat.lt_or_ge (idx a.T t) (idx a.T t') with hc | hc
  · have := (h.le (i := idx a.T t) (j := idx a.T t' - 1) (by omega) (by have := hat'.lt; omega)).2
    omega
  · have he : idx a.T t' = idx a.T t := by omega
    by_cases e : a.T.getD (idx a.T t) 0 = t
    · have : t' = t := by have := hat'.ge; rw [he] at this; omega
      subst this; exact Int.le_refl _
    · by_cases e' : a.T.getD (idx a.T t) 0 = t'
      · have : unitP a t' = a.H.getD (idx a.T t) 0 := by unfold unitP; rw [he, if_pos e']
        omega
      · unfold unitP
        rw [he, if_neg e, if_neg e']
        have hp := hat.pos e
        have hbf := hat.before (idx a.T t - 1) (by omega)
        have hg := hat.ge
        exact mid_mono (h.le (i := idx a.T t - 1) (j := idx a.T t) (by omega) hat.lt).2 (by omega) (by omega)
theorem on_at {a : Air} (h : VA a) {i : Nat} (hi : i < a.T.length) : onB a (a.T.getD i 0) = true := by
  unfold onB
  simp only [decide_eq_true_eq]
  exact ⟨(h.le (Nat.zero_le i) hi).1, (h.le (i := i) (j := a.T.length - 1) (by omega) (by omega)).1⟩
theorem unit_at {a : Air} (h : VA a) {i : Nat} (hi : i < a.T.length) : unitP a (a.T.getD i 0) = a.H.getD i 0 := by
  have : idx a.T (a.T.getD i 0) = i := idx_of (fun k hk _ => h.lt hk hi) (by omega) (fun _ => Int.le_refl _)
  unfold unitP
  rw [this, if_pos rfl]
/-- the step's own numbers -/
def stepB (a : Air) (s : Stp) : Bool :=
  onB a s.cold && (inB s.ppl 0 16384 && (inB s.chg 0 1000 && (spB s.o0 s.o1 100000 && (spB s.s0 s.s1 68719476736 && inB s.dry 0 68719476736))))
structure VS (a : Air) (s : Stp) : Prop where
  c : onB a s.cold = true
  p : 0 ≤ s.ppl ∧ s.ppl ≤ 16384
  g : 0 ≤ s.chg ∧ s.chg ≤ 1000
  o : 0 ≤ s.o0 ∧ s.o0 ≤ s.o1 ∧ s.o1 ≤ 100000
  st : 0 ≤ s.s0 ∧ s.s0 ≤ s.s1 ∧ s.s1 ≤ 68719476736
  d : 0 ≤ s.dry ∧ s.dry ≤ 68719476736
theorem stepB_iff (a : Air) (s : Stp) : stepB a s = true ↔ VS a s := by
  unfold stepB inB spB
  simp only [Bool.and_eq_true, decide_eq_true_eq]
  constructor
  · rintro ⟨h1, h2, h3, h4, h5, h6⟩; exact ⟨h1, h2, h3, h4, h5, h6⟩
  · rintro ⟨h1, h2, h3, h4, h5, h6⟩; exact ⟨h1, h2, h3, h4, h5, h6⟩
def partP (w th : Int) : Int := w * th / 1000
def comesLo (a : Air) (s : Stp) : Int := partP (a.R * s.o0) s.chg + s.ppl * a.b0 + s.s0
def comesHi (a : Air) (s : Stp) : Int := partP (a.R * s.o1) s.chg + s.ppl * a.b1 + s.s1
def moOf (a : Air) (s : Stp) : Mo := ⟨s.chg, comesLo a s, comesHi a s, s.dry, holdsP a s.cold⟩
def passP (c : Co) (m : Mo) (x : Int) : Co :=
  { w := min (partP c.w (1000 - m.ch) + x - min (partP c.w (1000 - m.ch) + x) m.dr) m.ho
    came := c.came + x
    out := c.out + (c.w - partP c.w (1000 - m.ch))
    dried := c.dried + min (partP c.w (1000 - m.ch) + x) m.dr
    dew := c.dew + (partP c.w (1000 - m.ch) + x - min (partP c.w (1000 - m.ch) + x) m.dr - min (partP c.w (1000 - m.ch) + x - min (partP c.w (1000 - m.ch) + x) m.dr) m.ho) }
/-- a moment that can be -/
structure GM (m : Mo) : Prop where
  ch : 0 ≤ m.ch ∧ m.ch ≤ 1000
  c : 0 ≤ m.c0 ∧ m.c0 ≤ m.c1 ∧ m.c1 ≤ 274877906944
  dr : 0 ≤ m.dr ∧ m.dr ≤ 68719476736
  ho : 1 ≤ m.ho ∧ m.ho ≤ 274877906944
theorem part_bd {w th : Int} (hw : 0 ≤ w) (h0 : 0 ≤ th) (h1 : th ≤ 1000) : 0 ≤ partP w th ∧ partP w th ≤ w := by
  unfold partP
  have p0 : 0 ≤ w * th := Int.mul_nonneg hw h0
  have p1 : w * th ≤ w * 1000 := Int.mul_le_mul_of_nonneg_left h1 hw
  omega
theorem part_mono {w w' th : Int} (hw : w ≤ w') (h0 : 0 ≤ th) (h1 : th ≤ 1000) : partP w th ≤ partP w' th ∧ partP w' th - partP w th ≤ w' - w := by
  unfold partP
  have p0 : w * th ≤ w' * th := Int.mul_le_mul_of_nonneg_right hw h0
  have p1 : (w' - w) * th ≤ (w' - w) * 1000 := Int.mul_le_mul_of_nonneg_left h1 (by omega)
  rw [Int.sub_mul] at p1
  omega
theorem comes_bd {a : Air} {s : Stp} (h : VA a) (hs : VS a s) : 0 ≤ comesLo a s ∧ comesLo a s ≤ comesHi a s ∧ comesHi a s ≤ 274877906944 := by
  have hR := h.R; have hb := h.b; have ho := hs.o; have hp := hs.p; have hss := hs.st
  have m0 : 0 ≤ a.R * s.o0 := Int.mul_nonneg (by omega) (by omega)
  have m1 : a.R * s.o0 ≤ a.R * s.o1 := Int.mul_le_mul_of_nonneg_left (by omega) (by omega)
  have m2 : a.R * s.o1 ≤ 1048576 * 100000 := Int.mul_le_mul (by omega) (by omega) (by omega) (by omega)
  have b0 : 0 ≤ s.ppl * a.b0 := Int.mul_nonneg (by omega) (by omega)
  have b1 : s.ppl * a.b0 ≤ s.ppl * a.b1 := Int.mul_le_mul_of_nonneg_left (by omega) (by omega)
  have b2 : s.ppl * a.b1 ≤ 16384 * 1048576 := Int.mul_le_mul (by omega) (by omega) (by omega) (by omega)
  have q0 := part_bd m0 hs.g.1 hs.g.2
  have q1 := part_bd (w := a.R * s.o1) (by omega) hs.g.1 hs.g.2
  have q2 := part_mono m1 hs.g.1 hs.g.2
  unfold comesLo comesHi
  omega
theorem moOf_good {a : Air} {s : Stp} (h : VA a) (hs : VS a s) : GM (moOf a s) := ⟨hs.g, comes_bd h hs, hs.d, holds_bd h hs.c⟩
/-- the course behind k moments -/
def crs (w : Int) (f : Mo → Int) (l : List Mo) : Nat → Co
  | 0 => ⟨w, 0, 0, 0, 0⟩
  | k + 1 => match l[k]? with | some m => passP (crs w f l k) m (f m) | none => crs w f l k
theorem crs_step {w : Int} {f : Mo → Int} {l : List Mo} {k : Nat} (h : k < l.length) : crs w f l (k + 1) = passP (crs w f l k) l[k] (f l[k]) := by
  show (match l[k]? with | some m => passP (crs w f l k) m (f m) | none => crs w f l k) = _
  rw [List.getElem?_eq_getElem h]
/-- a course that can be, behind k moments -/
structure GC (c : Co) (k : Nat) : Prop where
  w : 0 ≤ c.w ∧ c.w ≤ 274877906944
  came : 0 ≤ c.came ∧ c.came ≤ k * 274877906944
  out : 0 ≤ c.out ∧ c.out ≤ k * 274877906944
  dried : 0 ≤ c.dried ∧ c.dried ≤ k * 274877906944
  dew : 0 ≤ c.dew ∧ c.dew ≤ k * 549755813888
theorem pass_good {c : Co} {k : Nat} {m : Mo} {x : Int} (h : GC c k) (hm : GM m) (hx : 0 ≤ x ∧ x ≤ 274877906944) : GC (passP c m x) (k + 1) := by
  have hp := part_bd (w := c.w) (th := 1000 - m.ch) h.w.1 (by have := hm.ch; omega) (by have := hm.ch; omega)
  obtain ⟨h1, h2, h3, h4, h5⟩ := h
  obtain ⟨m1, m2, m3, m4⟩ := hm
  refine ⟨?_, ?_, ?_, ?_, ?_⟩ <;> unfold passP <;> simp only <;> push_cast <;> omega
theorem crs_good {w : Int} {f : Mo → Int} {l : List Mo} (hw : 0 ≤ w ∧ w ≤ 274877906944) (hl : ∀ m ∈ l, GM m) (hf : ∀ m, GM m → 0 ≤ f m ∧ f m ≤ 274877906944) : ∀ k, k ≤ l.length → GC (crs w f l k) k
  | 0, _ => ⟨hw, by simp [crs], by simp [crs], by simp [crs], by simp [crs]⟩
  | k + 1, hk => by
    rw [crs_step (show k < l.length by omega)]
    exact pass_good (crs_good hw hl hf k (by omega)) (hl _ (List.getElem_mem _)) (hf _ (hl _ (List.getElem_mem _)))
theorem lo_ok (m : Mo) (h : GM m) : 0 ≤ m.c0 ∧ m.c0 ≤ 274877906944 := by have := h.c; omega
theorem hi_ok (m : Mo) (h : GM m) : 0 ≤ m.c1 ∧ m.c1 ≤ 274877906944 := by have := h.c; omega
/-- more water never means less of anything later -/
structure LE (c d : Co) : Prop where
  w : c.w ≤ d.w
  came : c.came ≤ d.came
  out : c.out ≤ d.out
  dried : c.dried ≤ d.dried
  dew : c.dew ≤ d.dew
theorem pass_mono {c d : Co} {m : Mo} {x y : Int} (h : LE c d) (hm : GM m) (hxy : x ≤ y) : LE (passP c m x) (passP d m y) := by
  have hp := part_mono (th := 1000 - m.ch) h.w (by have := hm.ch; omega) (by have := hm.ch; omega)
  obtain ⟨h1, h2, h3, h4, h5⟩ := h
  refine ⟨?_, ?_, ?_, ?_, ?_⟩ <;> unfold passP <;> simp only <;> omega
/-- the first of k for which it is so, or -1 -/
def fstI (f : Nat → Bool) : Nat → Int
  | 0 => -1
  | k + 1 => if 0 ≤ fstI f k then fstI f k else if f k = true then (k : Int) else -1
/-- of how many it is so -/
def cntI (f : Nat → Bool) : Nat → Int
  | 0 => 0
  | k + 1 => cntI f k + if f k = true then 1 else 0
theorem fstI_bd (f : Nat → Bool) : ∀ k, -1 ≤ fstI f k ∧ fstI f k < k
  | 0 => by simp [fstI]
  | k + 1 => by
    have := fstI_bd f k
    unfold fstI
    split
    · omega
    · split <;> omega
theorem cntI_bd (f : Nat → Bool) : ∀ k, 0 ≤ cntI f k ∧ cntI f k ≤ k
  | 0 => by simp [cntI]
  | k + 1 => by
    have := cntI_bd f k
    unfold cntI
    split <;> omega
theorem fstI_congr {f g : Nat → Bool} : ∀ k, (∀ i, i < k → f i = g i) → fstI f k = fstI g k
  | 0, _ => rfl
  | k + 1, h => by unfold fstI; rw [fstI_congr k (fun i hi => h i (by omega)), h k (by omega)]
theorem cntI_congr {f g : Nat → Bool} : ∀ k, (∀ i, i < k → f i = g i) → cntI f k = cntI g k
  | 0, _ => rfl
  | k + 1, h => by unfold cntI; rw [cntI_congr k (fun i hi => h i (by omega)), h k (by omega)]
/-- -1 just if there is none; else the first one -/
theorem fstI_neg {f : Nat → Bool} : ∀ k, fstI f k < 0 ↔ ∀ i, i < k → f i = false
  | 0 => by simp [fstI]
  | k + 1 => by
    have ih := fstI_neg (f := f) k
    unfold fstI
    split
    · rename_i h
      constructor
      · omega
      · intro h'
        exact absurd (ih.2 (fun i hi => h' i (by omega))) (by omega)
    · rename_i h
      have h1 := ih.1 (by omega)
      split
      · rename_i hf
        constructor
        · omega
        · intro h'; rw [h' k (by omega)] at hf; cases hf
      · rename_i hf
        refine ⟨fun _ i hi => ?_, fun _ => by omega⟩
        rcases Nat.lt_succ_iff_lt_or_eq.1 hi with h | rfl
        · exact h1 i h
        · simpa using hf
theorem fstI_some {f : Nat → Bool} : ∀ k, 0 ≤ fstI f k → ∃ i, i < k ∧ fstI f k = (i : Int) ∧ f i = true ∧ ∀ j, j < i → f j = false
  | 0, h => by simp [fstI] at h
  | k + 1, h => by
    unfold fstI at h ⊢
    split
    · rename_i h0
      obtain ⟨i, hi, he, hf, hj⟩ := fstI_some k h0
      exact ⟨i, by omega, he, hf, hj⟩
    · rename_i h0
      rw [if_neg h0] at h
      split
      · rename_i hf
        exact ⟨k, by omega, rfl, hf, fun j hj => (fstI_neg k).1 (by omega) j hj⟩
      · rename_i hf
        rw [if_neg hf] at h
        omega
end Go.Proofs.Ytdmpkeaanaoeaaa
