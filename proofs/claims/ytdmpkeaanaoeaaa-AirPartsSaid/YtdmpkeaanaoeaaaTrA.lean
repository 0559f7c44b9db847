/- A true course (plain): between the two that are told; nothing is lost; its dew, its rust. -/
import Derived.Test.YtdmpkeaanaoeaaaLwD
namespace Go.Proofs.Ytdmpkeaanaoeaaa
/-- a course of the moments l, with x k coming in moment k -/
def crsX (w : Int) (x : Nat → Int) (l : List Mo) : Nat → Co
  | 0 => ⟨w, 0, 0, 0, 0⟩
  | k + 1 => match l[k]? with | some m => passP (crsX w x l k) m (x k) | none => crsX w x l k
theorem crsX_step {w : Int} {x : Nat → Int} {l : List Mo} {k : Nat} (h : k < l.length) : crsX w x l (k + 1) = passP (crsX w x l k) l[k] (x k) := by
  show (match l[k]? with | some m => passP (crsX w x l k) m (x k) | none => crsX w x l k) = _
  rw [List.getElem?_eq_getElem h]
/-- what comes is within what can -/
def Comes (x : Nat → Int) (l : List Mo) : Prop := ∀ k (h : k < l.length), l[k].c0 ≤ x k ∧ x k ≤ l[k].c1
theorem crsX_lo {lo w : Int} {x : Nat → Int} {l : List Mo} (hw : lo ≤ w) (hg : ∀ m ∈ l, GM m) (hx : Comes x l) : ∀ k, k ≤ l.length → LE (crs lo (·.c0) l k) (crsX w x l k)
  | 0, _ => ⟨hw, Int.le_refl _, Int.le_refl _, Int.le_refl _, Int.le_refl _⟩
  | k + 1, hk => by
    have hk' : k < l.length := by omega
    rw [crs_step hk', crsX_step hk']
    exact pass_mono (crsX_lo hw hg hx k (by omega)) (hg _ (List.getElem_mem hk')) (hx k hk').1
theorem crsX_hi {hi w : Int} {x : Nat → Int} {l : List Mo} (hw : w ≤ hi) (hg : ∀ m ∈ l, GM m) (hx : Comes x l) : ∀ k, k ≤ l.length → LE (crsX w x l k) (crs hi (·.c1) l k)
  | 0, _ => ⟨hw, Int.le_refl _, Int.le_refl _, Int.le_refl _, Int.le_refl _⟩
  | k + 1, hk => by
    have hk' : k < l.length := by omega
    rw [crs_step hk', crsX_step hk']
    exact pass_mono (crsX_hi hw hg hx k (by omega)) (hg _ (List.getElem_mem hk')) (hx k hk').2
/-- nothing is lost -/
theorem pass_sum (c : Co) (m : Mo) (x : Int) : (passP c m x).w + (passP c m x).out + (passP c m x).dried + (passP c m x).dew - (passP c m x).came = c.w + c.out + c.dried + c.dew - c.came := by
  unfold passP; simp only; omega
theorem crsX_sum (w : Int) (x : Nat → Int) (l : List Mo) : ∀ k, k ≤ l.length → w + (crsX w x l k).came = (crsX w x l k).w + (crsX w x l k).out + (crsX w x l k).dried + (crsX w x l k).dew
  | 0, _ => by simp [crsX]
  | k + 1, hk => by
    have ih := crsX_sum w x l k (by omega)
    rw [crsX_step (show k < l.length by omega)]
    have := pass_sum (crsX w x l k) (l[k]'(by omega)) (x k)
    omega
/-- the dew of step k alone -/
def ownX (w : Int) (x : Nat → Int) (l : List Mo) (k : Nat) : Int := (crsX w x l (k + 1)).dew - (crsX w x l k).dew
theorem ownX_eq {w : Int} {x : Nat → Int} {l : List Mo} {k : Nat} (h : k < l.length) : ownX w x l k = (passP (one (crsX w x l k).w) l[k] (x k)).dew := by
  unfold ownX
  rw [crsX_step h, pass_one]
  simp only
  omega
theorem dewOne_mono {w w' x x' : Int} {m : Mo} (hw : w ≤ w') (hm : GM m) (hx : x ≤ x') : (passP (one w) m x).dew ≤ (passP (one w') m x').dew :=
  (pass_mono (c := one w) (d := one w') ⟨hw, Int.le_refl _, Int.le_refl _, Int.le_refl _, Int.le_refl _⟩ hm hx).dew
/-- in the step in which there surely is dew, there is -/
theorem surely_dew {lo w : Int} {x : Nat → Int} {l : List Mo} {k : Nat} (hl : 0 ≤ lo ∧ lo ≤ 274877906944) (hw : lo ≤ w) (hg : ∀ m ∈ l, GM m) (hx : Comes x l) (hk : k < l.length) (hs : fogS lo l l.length = k) : 0 < ownX w x l k := by
  obtain ⟨i, hi, he, hf, hj⟩ := fstI_some (f := fun i => decide (0 < (crs lo (·.c0) l (i + 1)).dew)) l.length (by show 0 ≤ fogS lo l l.length; omega)
  have hik : i = k := by have : (i : Int) = k := by rw [← hs]; exact he.symm
                         omega
  subst hik
  have h1 := of_decide_eq_true hf
  have h0 : (crs lo (·.c0) l i).dew = 0 := by
    have hgc := (crs_good hl hg (fun m hm => by have := hm.c; omega) i (by omega) : GC (crs lo (·.c0) l i) i).dew
    rcases Nat.eq_zero_or_pos i with h2 | h2
    · subst h2; rfl
    · have h3 := of_decide_eq_false (hj (i - 1) (by omega))
      rw [show i - 1 + 1 = i by omega] at h3
      omega
  rw [crs_step hk, pass_one] at h1
  simp only [h0] at h1
  rw [ownX_eq hk]
  have := dewOne_mono (m := l[i]) (crsX_lo hw hg hx i (by omega)).w (hg _ (List.getElem_mem hk)) (hx i hk).1
  omega
/-- there is none ahead of the step in which there perhaps is -/
theorem perhaps_dew {hi w : Int} {x : Nat → Int} {l : List Mo} {k : Nat} (hl : 0 ≤ hi ∧ hi ≤ 274877906944) (hw : w ≤ hi) (hg : ∀ m ∈ l, GM m) (hx : Comes x l) (hk : k < l.length) (hd : 0 < ownX w x l k) : 0 ≤ fogP hi l l.length ∧ fogP hi l l.length ≤ k := by
  rw [ownX_eq hk] at hd
  have h1 := dewOne_mono (m := l[k]) (crsX_hi hw hg hx k (by omega)).w (hg _ (List.getElem_mem hk)) (hx k hk).2
  have h2 : 0 < (crs hi (·.c1) l (k + 1)).dew := by
    have hgc := (crs_good hl hg (fun m hm => by have := hm.c; omega) k (by omega) : GC (crs hi (·.c1) l k) k).dew
    rw [crs_step hk, pass_one]
    simp only
    omega
  have h3 : 0 ≤ fogP hi l l.length := by
    rcases Int.lt_or_le (fogP hi l l.length) 0 with h | h
    · exact absurd h2 (fogP_neg.1 h k hk)
    · exact h
  refine ⟨h3, ?_⟩
  obtain ⟨i, hi', he, hf, hj⟩ := fstI_some (f := fun i => decide (0 < (crs hi (·.c1) l (i + 1)).dew)) l.length h3
  rcases Nat.lt_or_ge k i with h | h
  · exact absurd h2 (of_decide_eq_false (hj k h))
  · have : fogP hi l l.length = (i : Int) := he
    omega
/-- the first step with dew -/
def firstX (w : Int) (x : Nat → Int) (l : List Mo) (k : Nat) : Int := fstI (fun i => decide (0 < ownX w x l i)) k
theorem firstX_step (w : Int) (x : Nat → Int) (l : List Mo) (k : Nat) : firstX w x l (k + 1) = if firstX w x l k < 0 ∧ 0 < ownX w x l k then (k : Int) else firstX w x l k := by
  unfold firstX
  rw [fstI_step]
  simp only [decide_eq_true_eq]
theorem firstX_surely {lo w : Int} {x : Nat → Int} {l : List Mo} (hl : 0 ≤ lo ∧ lo ≤ 274877906944) (hw : lo ≤ w) (hg : ∀ m ∈ l, GM m) (hx : Comes x l) (hs : 0 ≤ fogS lo l l.length) : 0 ≤ firstX w x l l.length ∧ firstX w x l l.length ≤ fogS lo l l.length := by
  obtain ⟨k, hk, he, -, -⟩ := fstI_some (f := fun i => decide (0 < (crs lo (·.c0) l (i + 1)).dew)) l.length hs
  have he' : fogS lo l l.length = (k : Int) := he
  have h1 := surely_dew hl hw hg hx hk he'
  have h2 : 0 ≤ firstX w x l l.length := by
    rcases Int.lt_or_le (firstX w x l l.length) 0 with h | h
    · have := of_decide_eq_false ((fstI_neg l.length).1 h k hk)
      exact absurd h1 this
    · exact h
  refine ⟨h2, ?_⟩
  obtain ⟨i, hi, hie, -, hj⟩ := fstI_some (f := fun i => decide (0 < ownX w x l i)) l.length h2
  have hie' : firstX w x l l.length = (i : Int) := hie
  rcases Nat.lt_or_ge k i with h | h
  · exact absurd h1 (of_decide_eq_false (hj k h))
  · omega
theorem firstX_none {hi w : Int} {x : Nat → Int} {l : List Mo} (hl : 0 ≤ hi ∧ hi ≤ 274877906944) (hw : w ≤ hi) (hg : ∀ m ∈ l, GM m) (hx : Comes x l) (hs : fogP hi l l.length < 0) : firstX w x l l.length < 0 := by
  refine (fstI_neg l.length).2 fun i hi' => decide_eq_false fun h => ?_
  have := perhaps_dew hl hw hg hx hi' h
  omega
/-- the steps with rust -/
def wetX (w : Int) (x : Nat → Int) (lim : Int) (l : List Mo) (k : Nat) : Bool := match l[k]? with | some m => wetB (crsX w x l (k + 1)).w lim m.ho | none => false
theorem cntI_le {f g : Nat → Bool} : ∀ k, (∀ i, i < k → f i = true → g i = true) → cntI f k ≤ cntI g k
  | 0, _ => Int.le_refl _
  | k + 1, h => by
    have ih := cntI_le (f := f) (g := g) k (fun i hi => h i (by omega))
    have h1 := h k (by omega)
    unfold cntI
    cases hf : f k <;> cases hg : g k <;> simp_all <;> omega
theorem wetX_le {lo w lim : Int} {x : Nat → Int} {l : List Mo} (hw : lo ≤ w) (hg : ∀ m ∈ l, GM m) (hx : Comes x l) : rustL lo lim l l.length ≤ cntI (wetX w x lim l) l.length := by
  refine cntI_le _ fun i hi h => ?_
  rw [wetAt_eq hi] at h
  unfold wetX
  rw [List.getElem?_eq_getElem hi]
  unfold wetB at h ⊢
  have h1 := of_decide_eq_true h
  have h2 := (crsX_lo hw hg hx (i + 1) (by omega)).w
  exact decide_eq_true (by omega)
theorem wetX_ge {hi w lim : Int} {x : Nat → Int} {l : List Mo} (hw : w ≤ hi) (hg : ∀ m ∈ l, GM m) (hx : Comes x l) : cntI (wetX w x lim l) l.length ≤ rustH hi lim l l.length := by
  refine cntI_le _ fun i hi h => ?_
  rw [wetAt_eq hi]
  unfold wetX at h
  rw [List.getElem?_eq_getElem hi] at h
  unfold wetB at h ⊢
  have h1 := of_decide_eq_true h
  have h2 := (crsX_hi hw hg hx (i + 1) (by omega)).w
  exact decide_eq_true (by omega)
theorem crsX_holds {w : Int} {x : Nat → Int} {l : List Mo} {k : Nat} (hk : k < l.length) : (crsX w x l (k + 1)).w ≤ l[k].ho := by
  rw [crsX_step hk]
  unfold passP
  simp only
  omega
end Go.Proofs.Ytdmpkeaanaoeaaa
