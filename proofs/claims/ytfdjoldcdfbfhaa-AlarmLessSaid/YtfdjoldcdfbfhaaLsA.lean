/- Less, plainly: fewer that have failed, a lesser error, a slower rise; the best of the votes. -/
import Derived.Test.YtfdjoldcdfbfhaaLwA
import Derived.Test.YtfdjoldcdfbfhaaCls
import Derived.Test.YtfdjoldcdfbfhaaRfA
namespace Go.Proofs.Ytfdjoldcdfbfhaa
theorem num_rise {t rise rise' m : Int} {s : Sn} (h : vS s) (hr : rise' ≤ rise) : num t rise' m s ≤ num t rise m s := by
  unfold num
  by_cases hm : m < s.f
  · rw [if_pos hm, if_pos hm]; exact Int.le_refl _
  · rw [if_neg hm, if_neg hm]
    have hb := tmod_bd (a := m - s.f) (b := s.e) (by omega) h.2.1.1
    have h4 := Int.mul_le_mul_of_nonneg_right hr hb.1
    split <;> omega
theorem num_err {t rise m : Int} {s s' : Sn} (h : vS s) (h0 : 0 ≤ t) (hr : 0 ≤ rise) (hf : s'.f = s.f) (he : s'.e = s.e) (h1 : 0 ≤ s'.r) (h2 : s'.r ≤ s.r) : num t rise m s' ≤ num t rise m s := by
  unfold num
  rw [hf, he]
  by_cases hm : m < s.f
  · rw [if_pos hm, if_pos hm]; exact Int.le_refl _
  · rw [if_neg hm, if_neg hm]
    have hb := tmod_bd (a := m - s.f) (b := s.e) (by omega) h.2.1.1
    have h4 := Int.mul_nonneg hr hb.1
    split <;> split <;> omega
theorem cnt_set {t rise m x : Int} {s' : Sn} : ∀ (L : List Sn) (k : Nat), (∀ s, L[k]? = some s → num t rise m s' ≤ num t rise m s) → cnt x (nums t rise m L) ≤ cnt x (nums t rise m (L.set k s'))
  | [], _, _ => by simp
  | a :: l, 0, h => by
    have := h a rfl
    show cnt x (num t rise m a :: nums t rise m l) ≤ cnt x (num t rise m s' :: nums t rise m l)
    rw [cnt_cons, cnt_cons]
    split <;> split <;> omega
  | a :: l, k + 1, h => by
    have := cnt_set (x := x) l k (fun s hs => h s (by simpa using hs))
    show cnt x (num t rise m a :: nums t rise m l) ≤ cnt x (num t rise m a :: nums t rise m (l.set k s'))
    rw [cnt_cons, cnt_cons]
    omega
theorem atN_less {L L' : List Sn} {K K' : Nat} {t rise rise' m : Int} (hK : 1 ≤ K') (hKK : K' ≤ K) (h : ∀ x, cnt x (nums t rise m L) ≤ cnt x (nums t rise' m L')) : atN L' K' t rise' m ≤ atN L K t rise m := by
  have h1 := atN_top (L := L') (K := K') (t := t) (rise := rise') (m := m) hK
  by_cases hx : atN L K t rise m ≤ 1048576
  · have h2 := (atN_le (L := L) (t := t) (rise := rise) (m := m) (by omega) hx).1 (Int.le_refl _)
    exact (atN_le hK hx).2 (Nat.le_trans hKK (Nat.le_trans h2 (h _)))
  · omega
theorem worst_less {f g : Int → Int} {frm : Int} {k : Nat} {x : Int × Int} (h : worstP f frm k = some x) (hg : ∀ m, g m ≤ f m) : ∃ y, worstP g frm k = some y ∧ y.1 ≤ x.1 := by
  have hs := worstP_some h
  obtain ⟨y, hy⟩ := worstP_good (f := g) (frm := frm) (k := k) fun j hj => Int.le_trans (hg _) (hs.1 j hj).1
  refine ⟨y, hy, ?_⟩
  rcases (worstP_some hy).2 with ⟨a, -⟩ | ⟨-, j, hj, -, e, -⟩
  · rcases hs.2 with h | h <;> omega
  · have := hs.1 j hj; have := hg (frm + j); omega
theorem worst_ok {l : List Sn} {V F t rise frm to a b : Int} (h : worstR l V F t rise frm to = (a, b, 0)) : VV l V F ∧ (0 ≤ t ∧ t ≤ 1048576) ∧ (0 ≤ rise ∧ rise ≤ 1048576) ∧ minB frm to = true ∧ worstP (atN l (V + F).toNat t rise) frm (to - frm + 1).toNat = some (a, b) := by
  unfold worstR at h
  split at h
  · cases h
  split at h
  · cases h
  rename_i h1 h2
  simp only [Bool.not_eq_false, Bool.and_eq_true, gasB_iff] at h1 h2
  refine ⟨(vvB_iff _ _ _).1 h1, h2.1.1, h2.1.2, h2.2, ?_⟩
  cases hw : worstP (atN l (V + F).toNat t rise) frm (to - frm + 1).toNat with
  | none => rw [hw] at h; cases h
  | some y => rw [hw] at h; simp only [worstE, Prod.mk.injEq] at h; obtain ⟨rfl, rfl, -⟩ := h; rfl
theorem worst_cases (l : List Sn) (V F t rise frm to : Int) : (∃ a b, worstR l V F t rise frm to = (a, b, 0)) ∨ (∃ e, worstR l V F t rise frm to = (0, 0, e) ∧ (e = 1 ∨ e = 2 ∨ e = 4)) := by
  unfold worstR
  split
  · exact .inr ⟨1, rfl, by omega⟩
  split
  · exact .inr ⟨2, rfl, by omega⟩
  cases worstP (atN l (V + F).toNat t rise) frm (to - frm + 1).toNat with
  | none => exact .inr ⟨4, rfl, by omega⟩
  | some y => exact .inl ⟨y.1, y.2, rfl⟩
theorem less_ok {l l' : List Sn} {V F F' t rise rise' frm to a b : Int} (h : worstR l V F t rise frm to = (a, b, 0)) (hv : VV l' V F') (hr : 0 ≤ rise' ∧ rise' ≤ 1048576) (hF : F' ≤ F) (hc : ∀ m x, cnt x (nums t rise m l) ≤ cnt x (nums t rise' m l')) :
    ∃ a' b', worstR l' V F' t rise' frm to = (a', b', 0) ∧ a' ≤ a := by
  obtain ⟨h1, h2, h3, h4, h5⟩ := worst_ok h
  have k1 := hv.hV; have k2 := hv.hF
  obtain ⟨y, hy, hl⟩ := worst_less (g := atN l' (V + F').toNat t rise') h5 fun m => atN_less (by omega) (by omega) (hc m)
  refine ⟨y.1, y.2, ?_, hl⟩
  unfold worstR
  rw [if_neg (by rw [(vvB_iff _ _ _).2 hv]; simp), if_neg (by rw [(gasB_iff _).2 h2, (gasB_iff _).2 hr, h4]; simp), hy]
  rfl
/-- all that Less asks of Worst -/
theorem less_facts {l : List Sn} {V F t rise frm to a b : Int} (h : worstR l V F t rise frm to = (a, b, 0)) (n7 n8 : Int) (b7 : 0 ≤ n7) (b8 : 0 ≤ n8) :
    vvB l V F = true ∧ (1 ≤ l.length ∧ l.length ≤ 12) ∧ (0 ≤ F ∧ F ≤ 12) ∧ (0 ≤ rise ∧ rise ≤ 1048576) ∧ ∃ (k : Nat) (hk : k < l.length), n7.tmod l.length = k ∧ (0 ≤ l[k].r ∧ l[k].r ≤ 1048576) ∧
      (∃ a' b', worstR l V (max 0 (F - 1)) t rise frm to = (a', b', 0) ∧ a' ≤ a) ∧
      (∃ a' b', worstR (l.set k ⟨l[k].f, l[k].e, max 0 (l[k].r - n8)⟩) V F t rise frm to = (a', b', 0) ∧ a' ≤ a) ∧
      (∃ a' b', worstR l V F t (max 0 (rise - n8)) frm to = (a', b', 0) ∧ a' ≤ a) := by
  obtain ⟨hv, ht, hr, hm, hw⟩ := worst_ok h
  have k1 := hv.h1; have k2 := hv.h12; have k3 := hv.hV; have k4 := hv.hF
  have ht1 : n7.tmod l.length = n7 % l.length := Int.tmod_eq_emod_of_nonneg b7
  have ht2 := Int.emod_nonneg n7 (show (l.length : Int) ≠ 0 by omega)
  have ht3 := Int.emod_lt_of_pos n7 (show (0 : Int) < l.length by omega)
  have hk : (n7 % l.length).toNat < l.length := by omega
  have hs := hv.hL _ (List.getElem_mem hk)
  refine ⟨(vvB_iff _ _ _).2 hv, ⟨k1, k2⟩, ⟨k4.1, by omega⟩, hr, (n7 % l.length).toNat, hk, by omega, hs.2.2, ?_, ?_, ?_⟩
  · exact less_ok h ⟨hv.hL, hv.h1, hv.h12, hv.hV, by omega⟩ hr (by omega) fun m x => Nat.le_refl _
  · refine less_ok h ⟨fun s hm => ?_, by simpa using k1, by simpa using k2, by simpa using k3, by simpa using k4⟩ hr (Int.le_refl _) fun m x => ?_
    · rcases List.mem_or_eq_of_mem_set hm with hm | rfl
      · exact hv.hL _ hm
      · exact ⟨hs.1, hs.2.1, by have := hs.2.2; simp only; omega⟩
    · refine cnt_set l _ fun s e => ?_
      rw [List.getElem?_eq_getElem hk] at e
      obtain rfl := Option.some.inj e
      exact num_err hs ht.1 hr.1 rfl rfl (by simp only; omega) (by have := hs.2.2; simp only; omega)
  · exact less_ok h hv (by omega) (Int.le_refl _) fun m x => cnt_imp fun s hs hx => Int.le_trans (num_rise (hv.hL s hs) (by omega)) hx
/-- what the best of the votes is, against the others -/
def BestIs (l : List Sn) (F limit rise calm frm to : Int) (n lo hi e : Int) : Prop :=
  ((e = 1 ∨ e = 2) ∧ n = 0 ∧ lo = 0 ∧ hi = 0) ∨
  (e = 4 ∧ n = 0 ∧ lo = 0 ∧ hi = 0 ∧ ∀ k : Int, 1 ≤ k → k ≤ l.length → thrR l k F limit rise calm frm to = (0, 0, 4)) ∨
  (e = 0 ∧ (1 ≤ n ∧ n ≤ l.length) ∧ (1 ≤ lo ∧ lo ≤ hi ∧ hi ≤ 1048576) ∧ ∀ k : Int, 1 ≤ k → k ≤ l.length →
    (k ≠ n ∧ thrR l k F limit rise calm frm to = (0, 0, 4)) ∨ ∃ a b, thrR l k F limit rise calm frm to = (a, b, 0) ∧ (1 ≤ a ∧ a ≤ b ∧ b ≤ 1048576) ∧ b - a ≤ hi - lo ∧ (k < n → b - a < hi - lo) ∧ (k = n → a = lo ∧ b = hi))
theorem best_is (l : List Sn) (F limit rise calm frm to : Int) : BestIs l F limit rise calm frm to (bestR l F limit rise calm frm to).1 (bestR l F limit rise calm frm to).2.1.1 (bestR l F limit rise calm frm to).2.1.2 (bestR l F limit rise calm frm to).2.2 := by
  cases hv : vvB l 1 F
  · have h : bestR l F limit rise calm frm to = (0, (0, 0), 1) := by unfold bestR; rw [if_pos hv]
    rw [h]; exact .inl ⟨by simp, rfl, rfl, rfl⟩
  cases hs : searchB limit rise calm frm to
  · have h : bestR l F limit rise calm frm to = (0, (0, 0), 2) := by unfold bestR; rw [if_neg (by rw [hv]; simp), if_pos hs]
    rw [h]; exact .inl ⟨by simp, rfl, rfl, rfl⟩
  have hV := (vvB_iff l 1 F).1 hv
  obtain ⟨s1, s2, s3, s4⟩ := search_iff hs
  have ht : ∀ k : Int, 1 ≤ k → k ≤ l.length → thrR l k F limit rise calm frm to = thrE (thrP l k F limit rise calm frm (to - frm + 1).toNat) := fun k h1 h2 => by
    unfold thrR; rw [if_neg (by rw [(vvB_iff l k F).2 (hV.votes h1 h2)]; simp), if_neg (by rw [hs]; simp)]
  obtain ⟨p1, p2, p3⟩ := bestP_spec (fun k => thrP l k F limit rise calm frm (to - frm + 1).toNat) l.length
  have hb : bestR l F limit rise calm frm to = if (bestN l F limit rise calm frm to l.length).1 = 0 then (0, (0, 0), 4) else ((bestN l F limit rise calm frm to l.length).1, (bestN l F limit rise calm frm to l.length).2, 0) := by
    unfold bestR; rw [if_neg (by rw [hv]; simp), if_neg (by rw [hs]; simp)]
  have hd := (best_bd hV s1 s2 s3 s4 l.length (Nat.le_refl _))
  rw [hb]
  unfold bestN at hd ⊢
  by_cases h0 : (bestP (fun k => thrP l k F limit rise calm frm (to - frm + 1).toNat) l.length).1 = 0
  · rw [if_pos h0]
    refine .inr (.inl ⟨rfl, rfl, rfl, rfl, fun k h1 h2 => ?_⟩)
    have := (p2 h0).2 (k.toNat - 1) (by omega)
    have hk : (((k.toNat - 1 : Nat) : Int) + 1) = k := by omega
    simp only [hk] at this
    rw [ht k h1 h2, this]; rfl
  · rw [if_neg h0]
    obtain ⟨q1, q2⟩ := p3 h0
    have hbd := thr_bd (hV.votes (n := (bestP (fun k => thrP l k F limit rise calm frm (to - frm + 1).toNat) l.length).1) (by omega) (by omega)) s1 s2 s3 s4 q1
    refine .inr (.inr ⟨rfl, by simp only; omega, hbd, fun k h1 h2 => ?_⟩)
    rw [ht k h1 h2]
    have hk : (((k.toNat - 1 : Nat) : Int) + 1) = k := by omega
    cases hf : thrP l k F limit rise calm frm (to - frm + 1).toNat with
    | none =>
      refine .inl ⟨fun hkn => ?_, rfl⟩
      rw [← hkn] at q1
      rw [hf] at q1; cases q1
    | some s =>
      have hkb := thr_bd (hV.votes h1 h2) s1 s2 s3 s4 hf
      obtain ⟨r1, r2⟩ := q2 (k.toNat - 1) (by omega) s (by simp only [hk]; exact hf)
      rw [hk] at r2
      refine .inr ⟨s.1, s.2, rfl, hkb, r1, r2, fun hkn => ?_⟩
      rw [← hkn] at q1
      rw [hf] at q1
      obtain rfl := Option.some.inj q1
      exact ⟨rfl, rfl⟩
end Go.Proofs.Ytfdjoldcdfbfhaa
