/- The alarm, plainly: thresholds. -/
import Derived.Test.YtfdjoldcdfbfhaaAlA
namespace Go.Proofs.Ytfdjoldcdfbfhaa

/-- a valid sensor -/
def vS (s : Sn) : Prop := (0 ≤ s.f ∧ s.f ≤ 2000) ∧ (1 ≤ s.e ∧ s.e ≤ 1000) ∧ (0 ≤ s.r ∧ s.r ≤ 1048576)
def nums (t rise m : Int) (L : List Sn) : List Int := L.map (num t rise m)
theorem tmod_bd {a b : Int} (ha : 0 ≤ a) (hb : 1 ≤ b) : 0 ≤ a.tmod b ∧ a.tmod b < b ∧ a.tmod b ≤ a := by
  rw [Int.tmod_eq_emod_of_nonneg ha]
  have h1 := Int.emod_nonneg a (show b ≠ 0 by omega)
  have h2 := Int.emod_lt_of_pos a (show 0 < b by omega)
  refine ⟨h1, h2, ?_⟩
  have := Int.emod_add_mul_ediv a b
  have := Int.mul_nonneg (show 0 ≤ b by omega) (Int.ediv_nonneg ha (show 0 ≤ b by omega))
  omega
theorem num_bd {t rise m : Int} {s : Sn} (h : vS s) (hr : 0 ≤ rise) (ht : 0 ≤ t) (hm : m ≤ 2000) (hr2 : rise ≤ 1048576) : 0 ≤ num t rise m s ∧ (num t rise m s ≤ t + 2097152000 ∨ num t rise m s = 1048577) := by
  unfold num
  split
  · omega
  · split
    · omega
    · obtain ⟨h1, h2, h3⟩ := h
      have hb := tmod_bd (a := m - s.f) (b := s.e) (by omega) h2.1
      generalize (m - s.f).tmod s.e = q at hb
      have h4 := Int.mul_nonneg hr hb.1
      have h5 : rise * q ≤ 1048576 * 999 := Int.mul_le_mul hr2 (by omega) hb.1 (by omega)
      omega
theorem num_ge {t rise m : Int} {s : Sn} (h : vS s) (hr : 0 ≤ rise) (ht : 0 ≤ t) : t ≤ num t rise m s ∨ num t rise m s = 1048577 := by
  unfold num
  split
  · omega
  · split
    · have := h.2.2; omega
    · obtain ⟨h1, h2, h3⟩ := h
      have hb := tmod_bd (a := m - s.f) (b := s.e) (by omega) h2.1
      have h4 := Int.mul_nonneg hr hb.1
      omega
theorem num_shift {t d rise m x : Int} {s : Sn} (h : vS s) (ht : 1 ≤ t) (hd : 0 ≤ d) (hx : x ≤ 1048576) : num (t + d) rise m s ≤ x ↔ num t rise m s ≤ x - d := by
  obtain ⟨-, -, h3⟩ := h
  unfold num
  by_cases hm : m < s.f
  · rw [if_pos hm, if_pos hm]; omega
  · rw [if_neg hm, if_neg hm, if_neg (by omega), if_neg (by omega)]; omega
theorem cnt_congr {α : Type} {L : List α} {f g : α → Int} {x y : Int} (h : ∀ s ∈ L, (f s ≤ x ↔ g s ≤ y)) : cnt x (L.map f) = cnt y (L.map g) := by
  induction L with
  | nil => rfl
  | cons a l ih =>
    rw [List.map_cons, List.map_cons, cnt_cons, cnt_cons, ih fun s hs => h s (List.mem_cons_of_mem _ hs)]
    have := h a List.mem_cons_self
    by_cases hx : f a ≤ x
    · rw [if_pos hx, if_pos (this.1 hx)]
    · rw [if_neg hx, if_neg (fun hy => hx (this.2 hy))]
theorem cnt_imp {α : Type} {L : List α} {f g : α → Int} {x y : Int} (h : ∀ s ∈ L, f s ≤ x → g s ≤ y) : cnt x (L.map f) ≤ cnt y (L.map g) := by
  induction L with
  | nil => simp [cnt]
  | cons a l ih =>
    rw [List.map_cons, List.map_cons, cnt_cons, cnt_cons]
    have h1 := ih fun s hs => h s (List.mem_cons_of_mem _ hs)
    have := h a List.mem_cons_self
    by_cases hx : f a ≤ x
    · rw [if_pos hx, if_pos (this hx)]; omega
    · rw [if_neg hx]; omega
/-- the concentration from which on there surely is an alarm in minute m -/
def atN (L : List Sn) (K : Nat) (t rise m : Int) : Int := atV (nums t rise m L) K
theorem atN_le {L : List Sn} {K : Nat} {t rise m x : Int} (hK : 1 ≤ K) (hx : x ≤ 1048576) : atN L K t rise m ≤ x ↔ K ≤ cnt x (nums t rise m L) := (atV_at _ hK).2 x hx
theorem atN_top {L : List Sn} {K : Nat} {t rise m : Int} (hK : 1 ≤ K) : atN L K t rise m ≤ 1048577 := (atV_at _ hK).1
theorem atN_shift {L : List Sn} {K : Nat} {t d rise m x : Int} (hL : ∀ s ∈ L, vS s) (hK : 1 ≤ K) (ht : 1 ≤ t) (hd : 0 ≤ d) (hx : x ≤ 1048576) : atN L K (t + d) rise m ≤ x ↔ atN L K t rise m ≤ x - d := by
  rw [atN_le hK hx, atN_le hK (by omega), show cnt x (nums (t + d) rise m L) = cnt (x - d) (nums t rise m L) from cnt_congr fun s hs => num_shift (hL s hs) ht hd hx]
theorem cnt_some {x : Int} {l : List Int} (h : 1 ≤ cnt x l) : ∃ a ∈ l, a ≤ x := by
  have : 0 < cnt x l := h
  unfold cnt at this
  obtain ⟨a, ha, hx⟩ := List.countP_pos_iff.1 this
  exact ⟨a, ha, by simpa using hx⟩
theorem atN_ge {L : List Sn} {K : Nat} {t rise m : Int} (hL : ∀ s ∈ L, vS s) (hK : 1 ≤ K) (ht : 0 ≤ t) (hr : 0 ≤ rise) : t ≤ atN L K t rise m ∨ atN L K t rise m = 1048577 := by
  have htop := atN_top (L := L) (K := K) (t := t) (rise := rise) (m := m) hK
  by_cases h : atN L K t rise m ≤ 1048576
  · have := (atN_le (L := L) (t := t) (rise := rise) (m := m) hK h).1 (Int.le_refl _)
    obtain ⟨a, ha, hx⟩ := cnt_some (show 1 ≤ cnt (atN L K t rise m) (nums t rise m L) by omega)
    obtain ⟨s, hs, rfl⟩ := List.mem_map.1 ha
    rcases num_ge (m := m) (hL s hs) hr ht with h | h <;> omega
  · omega
theorem atN_nonneg {L : List Sn} {K : Nat} {t rise m : Int} (hL : ∀ s ∈ L, vS s) (hK : 1 ≤ K) (ht : 0 ≤ t) (hr : 0 ≤ rise) : 0 ≤ atN L K t rise m := by
  rcases atN_ge (m := m) hL hK ht hr with h | h <;> omega
/-- two sorted rows of the same numbers are the same -/
theorem sorted_same {S S' : List Int} (hs : S.Pairwise (· ≤ ·)) (hs' : S'.Pairwise (· ≤ ·)) (hp : S.Perm S') {i : Nat} (h : i < S.length) (h' : i < S'.length) : S[i] = S'[i] := by
  have h1 := fun x => sorted_idx hs h x
  have h2 := fun x => sorted_idx hs' h' x
  have h3 := (h1 S[i]).1 (Int.le_refl _)
  have h4 := (h2 S'[i]).1 (Int.le_refl _)
  rw [cnt_perm hp] at h3
  rw [← cnt_perm hp] at h4
  have h5 := (h2 S[i]).2 h3
  have h6 := (h1 S'[i]).2 h4
  omega
def negs (L : List Sn) : List Int := L.map fun s => -s.r
/-- the least threshold that is quiet -/
def qf (L : List Sn) (V F : Int) (calm : Int) : Int := if V ≤ F then 1048577 else calm + 1 - (srt (negs L)).getD (V - F - 1).toNat 0
/-- how many can say yes at calm -/
def says (L : List Sn) (t calm : Int) : Nat := L.countP (fun s => decide (t ≤ calm + s.r))
theorem says_cnt (L : List Sn) (t calm : Int) : says L t calm = cnt (calm - t) (negs L) := by
  unfold says negs
  induction L with
  | nil => rfl
  | cons a l ih =>
    rw [List.countP_cons, List.map_cons, cnt_cons, ih]
    by_cases h : t ≤ calm + a.r
    · rw [if_pos (by simpa using h), if_pos (by omega)]
    · rw [if_neg (by simpa using h), if_neg (by omega)]
theorem qf_iff {L : List Sn} {V F calm t : Int} (hV : V ≤ L.length) (hF : 0 ≤ F) (ht : t ≤ 1048576) : qf L V F calm ≤ t ↔ says L t calm + F < V := by
  unfold qf
  split
  · omega
  · have hl : (srt (negs L)).length = L.length := by rw [(srt_perm _).length_eq]; simp [negs]
    have hi : (V - F - 1).toNat < (srt (negs L)).length := by omega
    rw [List.getD_eq_getElem?_getD, List.getElem?_eq_getElem hi, Option.getD_some]
    have := sorted_idx (srt_sorted (negs L)) hi (calm - t)
    rw [cnt_perm (srt_perm (negs L)), ← says_cnt] at this
    omega
theorem qf_eq {L : List Sn} {S : List Int} {V F calm : Int} (hV : V ≤ L.length) (hF : 0 ≤ F) (hs : S.Pairwise (· ≤ ·)) (hp : S.Perm (negs L)) (hVF : F < V) (h : (V - F - 1).toNat < S.length) : qf L V F calm = calm + 1 - S[(V - F - 1).toNat] := by
  unfold qf
  rw [if_neg (by omega)]
  have hl : (srt (negs L)).length = L.length := by rw [(srt_perm _).length_eq]; simp [negs]
  have hi : (V - F - 1).toNat < (srt (negs L)).length := by omega
  rw [List.getD_eq_getElem?_getD, List.getElem?_eq_getElem hi, Option.getD_some, sorted_same (srt_sorted _) hs ((srt_perm _).trans hp.symm) hi h]
theorem qf_bd {L : List Sn} {V F calm : Int} (hL : ∀ s ∈ L, vS s) (hV : V ≤ L.length) (hF : 0 ≤ F) (hc : 0 ≤ calm) (hc2 : calm ≤ 1048576) : 1 ≤ qf L V F calm ∧ qf L V F calm ≤ 2097153 := by
  unfold qf
  split
  · omega
  · have hl : (srt (negs L)).length = L.length := by rw [(srt_perm _).length_eq]; simp [negs]
    have hi : (V - F - 1).toNat < (srt (negs L)).length := by omega
    rw [List.getD_eq_getElem?_getD, List.getElem?_eq_getElem hi, Option.getD_some]
    have hm := List.getElem_mem hi
    have hm' := (srt_perm (negs L)).mem_iff.1 hm
    obtain ⟨s, hs, e⟩ := List.mem_map.1 hm'
    have := (hL s hs).2.2
    omega
/-- a threshold with which there never is limit -/
def soon (L : List Sn) (K : Nat) (limit rise frm : Int) (k : Nat) (t : Int) : Prop := ∀ j : Nat, j < k → atN L K t rise (frm + j) ≤ limit
/-- the span of thresholds -/
def thrP (L : List Sn) (V F limit rise calm frm : Int) (k : Nat) : Option (Int × Int) :=
  match worstP (atN L (V + F).toNat (qf L V F calm) rise) frm k with
  | none => none
  | some x => if limit ≤ x.1 then none else some (qf L V F calm, qf L V F calm + limit - 1 - x.1)
structure Ask (L : List Sn) (V F limit rise calm : Int) : Prop where
  hL : ∀ s ∈ L, vS s
  h1 : 1 ≤ L.length
  h12 : L.length ≤ 12
  hV : 1 ≤ V ∧ V ≤ L.length
  hF : 0 ≤ F ∧ F ≤ L.length
  hl : 0 ≤ limit ∧ limit ≤ 1048576
  hr : 0 ≤ rise ∧ rise ≤ 1048576
  hc : 0 ≤ calm ∧ calm ≤ 1048576
theorem soon_shift {L : List Sn} {V F limit rise calm frm : Int} {k : Nat} (h : Ask L V F limit rise calm) {t : Int} (ht : qf L V F calm ≤ t) :
    soon L (V + F).toNat limit rise frm k t ↔ ∀ j : Nat, j < k → atN L (V + F).toNat (qf L V F calm) rise (frm + j) ≤ limit - (t - qf L V F calm) := by
  have hq := (qf_bd (V := V) (F := F) h.hL h.hV.2 h.hF.1 h.hc.1 h.hc.2).1
  have hV := h.hV; have hF := h.hF
  unfold soon
  refine forall_congr' fun j => imp_congr_right fun hj => ?_
  rw [show t = qf L V F calm + (t - qf L V F calm) by omega, atN_shift h.hL (by omega) hq (by omega) h.hl.2]
  simp only [show qf L V F calm + (t - qf L V F calm) - qf L V F calm = t - qf L V F calm by omega]
theorem thrP_some {L : List Sn} {V F limit rise calm frm : Int} {k : Nat} (h : Ask L V F limit rise calm) (hk : 1 ≤ k) {s : Int × Int} (hs : thrP L V F limit rise calm frm k = some s) :
    1 ≤ s.1 ∧ s.1 ≤ s.2 ∧ s.2 ≤ 1048576 ∧ s.1 = qf L V F calm ∧ ∀ t, ((qf L V F calm ≤ t ∧ soon L (V + F).toNat limit rise frm k t) ↔ s.1 ≤ t ∧ t ≤ s.2) := by
  unfold thrP at hs
  have hq := qf_bd (V := V) (F := F) h.hL h.hV.2 h.hF.1 h.hc.1 h.hc.2
  have hV := h.hV; have hF := h.hF; have hl := h.hl
  have hsh := fun t ht => soon_shift (frm := frm) (k := k) (t := t) h ht
  have hge := fun t (ht : 0 ≤ t) => atN_ge (m := frm + (0 : Nat)) (t := t) h.hL (show 1 ≤ (V + F).toNat by omega) ht h.hr.1
  generalize qf L V F calm = q at *
  cases hw : worstP (atN L (V + F).toNat q rise) frm k with
  | none => rw [hw] at hs; cases hs
  | some x =>
    rw [hw] at hs
    simp only at hs
    split at hs
    · cases hs
    rename_i hx
    simp only [Option.some.injEq] at hs
    subst hs
    obtain ⟨w1, w2⟩ := worstP_some hw
    have hx0 : -1 < x.1 := by
      have := w1 0 (by omega)
      rcases hge q (by omega) with h | h <;> omega
    rcases w2 with ⟨w2, -⟩ | ⟨-, j, hj, -, e, -⟩
    · omega
    have hall : ∀ t, ((q ≤ t ∧ soon L (V + F).toNat limit rise frm k t) ↔ q ≤ t ∧ t ≤ q + limit - 1 - x.1) := by
      intro t
      refine and_congr_right fun ht => ?_
      rw [hsh t ht]
      constructor
      · intro h; have := h j hj; omega
      · intro h i hi; have := w1 i hi; omega
    refine ⟨hq.1, by simp only; omega, ?_, rfl, hall⟩
    have hs := ((hall (q + limit - 1 - x.1)).2 ⟨by omega, by omega⟩).2 0 (by omega)
    simp only
    rcases hge (q + limit - 1 - x.1) (by omega) with h | h <;> omega
theorem thrP_none {L : List Sn} {V F limit rise calm frm : Int} {k : Nat} (h : Ask L V F limit rise calm) (hs : thrP L V F limit rise calm frm k = none) :
    ∀ t, ¬ (qf L V F calm ≤ t ∧ soon L (V + F).toNat limit rise frm k t) := by
  unfold thrP at hs
  have hl := h.hl
  have hsh := fun t ht => soon_shift (frm := frm) (k := k) (t := t) h ht
  rintro t ⟨ht, hso⟩
  rw [hsh t ht] at hso
  generalize qf L V F calm = q at *
  obtain ⟨x, hx, hlt⟩ := (worst_soon (f := atN L (V + F).toNat q rise) (frm := frm) (k := k) hl.1 hl.2).2 fun j hj => by have := hso j hj; omega
  rw [hx] at hs
  simp only at hs
  rw [if_neg (by omega)] at hs
  cases hs
/-- the votes that leave the most thresholds, of those up to n -/
def bestP (f : Int → Option (Int × Int)) : Nat → Int × Int × Int
  | 0 => (0, 0, 0)
  | n + 1 => match f (n + 1) with
    | none => bestP f n
    | some s => if (bestP f n).1 = 0 ∨ (bestP f n).2.2 - (bestP f n).2.1 < s.2 - s.1 then (n + 1, s.1, s.2) else bestP f n
theorem bestP_spec (f : Int → Option (Int × Int)) (n : Nat) :
    (0 ≤ (bestP f n).1 ∧ (bestP f n).1 ≤ n) ∧ ((bestP f n).1 = 0 → bestP f n = (0, 0, 0) ∧ ∀ i : Nat, i < n → f (i + 1) = none) ∧ ((bestP f n).1 ≠ 0 → f (bestP f n).1 = some (bestP f n).2 ∧ ∀ i : Nat, i < n → ∀ s, f (i + 1) = some s → s.2 - s.1 ≤ (bestP f n).2.2 - (bestP f n).2.1 ∧ ((i : Int) + 1 < (bestP f n).1 → s.2 - s.1 < (bestP f n).2.2 - (bestP f n).2.1)) := by
  induction n with
  | zero => refine ⟨by simp [bestP], fun _ => ⟨rfl, fun i hi => absurd hi (by omega)⟩, fun h => absurd rfl h⟩
  | succ n ih =>
    obtain ⟨i1, i2, i3⟩ := ih
    cases hf : f (n + 1) with
    | none =>
      have e : bestP f (n + 1) = bestP f n := by show (match f (n + 1) with | none => _ | some s => _) = _; rw [hf]
      rw [e]
      refine ⟨⟨i1.1, by omega⟩, fun h0 => ⟨(i2 h0).1, fun i hi => ?_⟩, fun h0 => ⟨(i3 h0).1, fun i hi s hs => ?_⟩⟩
      · rcases Nat.lt_succ_iff_lt_or_eq.1 hi with hi | rfl
        · exact (i2 h0).2 i hi
        · exact hf
      · rcases Nat.lt_succ_iff_lt_or_eq.1 hi with hi | rfl
        · exact (i3 h0).2 i hi s hs
        · rw [hf] at hs; cases hs
    | some t =>
      have e : bestP f (n + 1) = if (bestP f n).1 = 0 ∨ (bestP f n).2.2 - (bestP f n).2.1 < t.2 - t.1 then ((n : Int) + 1, t.1, t.2) else bestP f n := by show (match f (n + 1) with | none => _ | some s => _) = _; rw [hf]
      rw [e]
      split
      · rename_i hc
        refine ⟨⟨by simp only; omega, by simp only; omega⟩, fun h0 => ?_, fun _ => ⟨hf, fun i hi s hs => ?_⟩⟩
        · simp only at h0; omega
        · simp only
          rcases Nat.lt_succ_iff_lt_or_eq.1 hi with hi | rfl
          · by_cases h0 : (bestP f n).1 = 0
            · rw [(i2 h0).2 i hi] at hs; cases hs
            · have := ((i3 h0).2 i hi s hs).1
              omega
          · rw [hf] at hs; cases hs; omega
      · rename_i hc
        have hc' : (bestP f n).1 ≠ 0 ∧ t.2 - t.1 ≤ (bestP f n).2.2 - (bestP f n).2.1 := by omega
        refine ⟨⟨i1.1, by omega⟩, fun h0 => absurd h0 hc'.1, fun h0 => ⟨(i3 h0).1, fun i hi s hs => ?_⟩⟩
        rcases Nat.lt_succ_iff_lt_or_eq.1 hi with hi | rfl
        · exact (i3 h0).2 i hi s hs
        · rw [hf] at hs; cases hs; omega
end Go.Proofs.Ytfdjoldcdfbfhaa
