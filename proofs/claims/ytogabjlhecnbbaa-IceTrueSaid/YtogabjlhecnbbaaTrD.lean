/- The law IceTrue: what it needs, plainly. -/
import Derived.Test.YtogabjlhecnbbaaTrC
namespace Go.Proofs.Ytogabjlhecnbbaa
open Go.RowKit Go.Shelf
def fI (zs : List Zn) (bs : List Int) (i : Nat) : Int := inn (zs.getD i zd).a (zs.getD i zd).b (bs.getD (i % bs.length) 0)
def fP (zs : List Zn) (bs : List Int) (i : Nat) : Int := inn (zs.getD i zd).c (zs.getD i zd).d (bs.getD ((i + 1) % bs.length) 0)
def icL (zs : List Zn) (bs : List Int) (k : Nat) : List Int := (List.range k).map (fI zs bs)
def paL (zs : List Zn) (bs : List Int) (k : Nat) : List Int := (List.range k).map (fP zs bs)
theorem icL_next (zs : List Zn) (bs : List Int) (k : Nat) : icL zs bs (k + 1) = icL zs bs k ++ [fI zs bs k] := by unfold icL; rw [List.range_succ]; simp
theorem paL_next (zs : List Zn) (bs : List Int) (k : Nat) : paL zs bs (k + 1) = paL zs bs k ++ [fP zs bs k] := by unfold paL; rw [List.range_succ]; simp
theorem icL_len (zs : List Zn) (bs : List Int) (k : Nat) : (icL zs bs k).length = k := by simp [icL]
theorem paL_len (zs : List Zn) (bs : List Int) (k : Nat) : (paL zs bs k).length = k := by simp [paL]
theorem icL_at {zs : List Zn} {bs : List Int} {k i : Nat} (h : i < k) : (icL zs bs k).getD i 0 = fI zs bs i := by simp [icL, h]
theorem paL_at {zs : List Zn} {bs : List Int} {k i : Nat} (h : i < k) : (paL zs bs k).getD i 0 = fP zs bs i := by simp [paL, h]
theorem sumL_snoc (l : List Int) (x : Int) : sumL (l ++ [x]) = sumL l + x := by
  induction l with
  | nil => simp [sumL]
  | cons y l ih => simp only [sumL, List.cons_append, List.foldr_cons] at ih ⊢; omega
theorem zs_ok {zs : List Zn} (hr : rinkOk zs = true) {i : Nat} (hi : i < zs.length) : (zs.getD i zd).ok = true := by
  have : zs.getD i zd = zs[i] := by simp [hi]
  rw [this]; exact (rink_parts hr).2.2 _ (List.getElem_mem hi)
theorem zn_parts {z : Zn} (h : z.ok = true) : (0 ≤ z.a ∧ z.a ≤ z.b ∧ z.b ≤ 20000) ∧ (0 ≤ z.c ∧ z.c ≤ z.d ∧ z.d ≤ 20000) := by
  simp only [Zn.ok, Bool.and_eq_true, win_iff] at h
  omega
def tr0 (zs : List Zn) (bs : List Int) : Tr := ⟨icL zs bs zs.length, paL zs bs zs.length, 0, 0, 0⟩
theorem inv0 {zs : List Zn} {bs : List Int} (hr : rinkOk zs = true) : Inv (sumL (icL zs bs zs.length)) (zs, Sm.zero) (tr0 zs bs) := by
  refine ⟨by simp [tr0, icL_len], by simp [tr0, paL_len], (rink_parts hr).2.2, fun k hk => ?_, by simp [tr0], by simp [tr0], by simp [tr0], by simp [tr0]⟩
  simp only at hk
  have hz := zn_parts (zs_ok hr hk)
  have h1 := inn_in (b := bs.getD (k % bs.length) 0) hz.1.2.1
  have h2 := inn_in (b := bs.getD ((k + 1) % bs.length) 0) hz.2.2.1
  simp only [tr0]
  rw [icL_at hk, paL_at hk]
  unfold In1 fI fP
  omega
theorem tb0 {zs : List Zn} {bs : List Int} (hr : rinkOk zs = true) : TB (tr0 zs bs) 20000 := by
  refine ⟨fun x hx => ?_, by simp [tr0], by simp [tr0], by simp [tr0]⟩
  simp only [tr0, icL, List.mem_map, List.mem_range] at hx
  obtain ⟨i, hi, rfl⟩ := hx
  have hz := zn_parts (zs_ok hr hi)
  have h1 := inn_in (b := bs.getD (i % bs.length) 0) hz.1.2.1
  unfold fI
  omega
/-- an event that is none -/
theorem playL_bad {n : Nat} : ∀ (es : List Ev) (st : List Zn × Sm) (i : Nat), st.1.length = n → (∃ e ∈ es, e.ok n = false) → (playL es st i).2.2 ≠ 0 ∧ (playL es st i).2.1 < i + es.length
  | [], _, _, _, h => by obtain ⟨e, he, _⟩ := h; cases he
  | e :: l, st, i, hl, h => by
    unfold playL
    by_cases h0 : (evDo e st).2 = 0
    · rw [if_pos h0]
      have hok : e.ok n = true := by
        cases ho : e.ok n with
        | true => rfl
        | false =>
          unfold evDo at h0
          rw [hl, ho] at h0
          simp at h0
      have h' : ∃ e ∈ l, e.ok n = false := by
        obtain ⟨e', he', hf⟩ := h
        rcases List.mem_cons.1 he' with rfl | he'
        · rw [hok] at hf; cases hf
        · exact ⟨e', he', hf⟩
      obtain ⟨g1, g2⟩ := playL_bad l (evDo e st).1 (i + 1) (by rw [evDo_len]; exact hl) h'
      exact ⟨g1, by simp only [List.length_cons]; omega⟩
    · rw [if_neg h0]
      exact ⟨h0, by simp⟩
theorem play_bad {zs : List Zn} {es : List Ev} (hr : rinkOk zs = true) (hl : es.length ≤ 60) (h : ∃ e ∈ es, e.ok zs.length = false) : (playR zs es).e ≠ 0 ∧ (playR zs es).i < es.length := by
  obtain ⟨g1, g2⟩ := playL_bad es (zs, Sm.zero) 0 rfl h
  unfold playR
  rw [hr, if_neg (by simp), if_neg (by omega), if_neg g1]
  exact ⟨g1, by simp only; omega⟩
/-- what Play tells where live lived -/
theorem play_live {zs : List Zn} {es : List Ev} {bs : List Int} (hr : rinkOk zs = true) (hl : es.length ≤ 60) (hok : ∀ e ∈ es, e.ok zs.length = true) {el : List Ev} {tt : Tr} (hL : (el, tt) = liveL (byF bs) es 0 (tr0 zs bs)) :
    ((playR zs el).e = 12 ∧ (playR zs el).i < es.length) ∨ ((playR zs el).e = 0 ∧ (playR zs el).i = es.length ∧ Inv (sumL (icL zs bs zs.length)) ((playR zs el).zs, (playR zs el).s) tt) := by
  have h := inv_play (byF bs) es (zs, Sm.zero) (tr0 zs bs) 0 0 hok (inv0 hr)
  have hlen := liveL_len1 (byF bs) es 0 (tr0 zs bs)
  rw [← hL] at h hlen
  simp only at h hlen
  unfold playR
  rw [hr, if_neg (by simp), if_neg (by omega)]
  rcases h with ⟨g1, g2, g3⟩ | ⟨g1, g2⟩
  · left
    rw [if_neg (by omega)]
    exact ⟨g1, by simp only; omega⟩
  · right
    rw [if_pos g1]
    exact ⟨rfl, by simp only; omega, g2⟩
/-- what is true is within -/
theorem inv_has {f : Int} {zz : List Zn} {s : Sm} {t : Tr} (h : Inv f (zz, s) t) {k : Nat} (hk : k < zz.length) : (zz[k].a ≤ t.ice.getD k 0 ∧ t.ice.getD k 0 ≤ zz[k].b) ∧ (zz[k].c ≤ t.paint.getD k 0 ∧ t.paint.getD k 0 ≤ zz[k].d) ∧ 0 ≤ zz[k].a ∧ zz[k].b ≤ 20000 := by
  have h1 := h.at_ k hk
  have h2 := zn_parts (h.ok _ (List.getElem_mem hk))
  have e : zz.getD k zd = zz[k] := by simp [hk]
  simp only at h1
  rw [e] at h1
  unfold In1 at h1
  omega
theorem inv_le {f : Int} {zz : List Zn} {s : Sm} {t : Tr} (h : Inv f (zz, s) t) : ∀ x ∈ t.ice, x ≤ 20000 := by
  intro x hx
  obtain ⟨k, hk, rfl⟩ := List.mem_iff_getElem.1 hx
  have hk' : k < zz.length := by have := h.li; simp only at this; omega
  have := inv_has h hk'
  have e : t.ice.getD k 0 = t.ice[k] := by simp [hk]
  omega
theorem inv_bd {f : Int} {zz : List Zn} {s : Sm} {t : Tr} (h : Inv f (zz, s) t) : ∀ x ∈ t.ice, 0 ≤ x ∧ x ≤ 20000 := by
  intro x hx
  obtain ⟨k, hk, rfl⟩ := List.mem_iff_getElem.1 hx
  have hk' : k < zz.length := by have := h.li; simp only at this; omega
  have := inv_has h hk'
  have e : t.ice.getD k 0 = t.ice[k] := by simp [hk]
  omega
theorem sum_bd {zs : List Zn} {bs : List Int} (hr : rinkOk zs = true) : ∀ k, k ≤ zs.length → 0 ≤ sumL (icL zs bs k) ∧ sumL (icL zs bs k) ≤ 20000 * k
  | 0, _ => by simp [icL, sumL]
  | k + 1, hk => by
    have ih := sum_bd (bs := bs) hr k (by omega)
    have hz := zn_parts (zs_ok hr (show k < zs.length by omega))
    have h1 := inn_in (b := bs.getD (k % bs.length) 0) hz.1.2.1
    rw [icL_next, sumL_snoc]
    unfold fI
    omega
theorem fI_bd {zs : List Zn} {bs : List Int} (hr : rinkOk zs = true) {k : Nat} (hk : k < zs.length) : 0 ≤ fI zs bs k ∧ fI zs bs k ≤ 20000 := by
  have hz := zn_parts (zs_ok hr hk)
  have h1 := inn_in (b := bs.getD (k % bs.length) 0) hz.1.2.1
  unfold fI
  omega
theorem sum_take {l : List Int} (h : ∀ x ∈ l, 0 ≤ x ∧ x ≤ 20000) : ∀ k, k ≤ l.length → 0 ≤ sumL (l.take k) ∧ sumL (l.take k) ≤ 20000 * k
  | 0, _ => by simp [sumL]
  | k + 1, hk => by
    have ih := sum_take h k (by omega)
    have hx := h l[k] (List.getElem_mem (by omega))
    rw [List.take_add_one, List.getElem?_eq_getElem (by omega), Option.toList_some, sumL_snoc]
    omega
theorem sum_next {l : List Int} {k : Nat} (hk : k < l.length) : sumL (l.take (k + 1)) = sumL (l.take k) + l.getD k 0 := by
  rw [List.take_add_one, List.getElem?_eq_getElem hk, Option.toList_some, sumL_snoc]
  simp [hk]
end Go.Proofs.Ytogabjlhecnbbaa
