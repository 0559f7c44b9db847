/- The document's Sorted. -/
import Derived.Test.YtipejhfgfciabaaLiG
namespace Go.Proofs.Ytipejhfgfciabaa
open Go.RowKit Go.Shelf
attribute [local irreducible] wpQuiet
def atL (m : List Int) (i : Nat) : Int := m.getD i 0
theorem atL_eq {m : List Int} {i : Nat} (h : i < m.length) : atL m i = m[i] := by simp [atL, List.getD, h]
theorem atL_set {m : List Int} {i j : Nat} {v : Int} (h : i < m.length) : atL (m.set i v) j = if i = j then v else atL m j := by unfold atL; exact getD_set h
/-- the first i of them rise -/
def upTo (m : List Int) (i : Nat) : Prop := ∀ a b, a < b → b < i → atL m a ≤ atL m b
/-- those up to i rise, but for what stands ahead of number k -/
def Sunk (m : List Int) (i k : Nat) : Prop := ∀ a b, a < b → b ≤ i → b ≠ k → atL m a ≤ atL m b
theorem Sunk.start {m : List Int} {i : Nat} (h : upTo m i) : Sunk m i i := fun a b hab hb hne => h a b hab (by omega)
theorem Sunk.zero {m : List Int} {i : Nat} (h : Sunk m i 0) : upTo m (i + 1) := fun a b hab hb => h a b hab (by omega) (by omega)
theorem Sunk.stop {m : List Int} {i k : Nat} (h : Sunk m i k) (hk : 0 < k) (hle : atL m (k - 1) ≤ atL m k) : upTo m (i + 1) := fun a b hab hb => by
  by_cases hbk : b = k
  · subst hbk
    by_cases ha : a = b - 1
    · subst ha; exact hle
    · exact Int.le_trans (h a (b - 1) (by omega) (by omega) (by omega)) hle
  · exact h a b hab (by omega) hbk
theorem Sunk.swap {m : List Int} {i j : Nat} (h : Sunk m i (j + 1)) (hj : j + 1 < m.length) (hji : j + 1 ≤ i) (hlt : atL m (j + 1) < atL m j) : Sunk ((m.set (j + 1) (atL m j)).set j (atL m (j + 1))) i j := fun a b hab hb hne => by
  have e : ∀ c, atL ((m.set (j + 1) (atL m j)).set j (atL m (j + 1))) c = if j = c then atL m (j + 1) else if j + 1 = c then atL m j else atL m c := fun c => by
    rw [atL_set (by simp; omega), atL_set (by omega)]
  rw [e a, e b]
  rw [if_neg (show ¬ j = b by omega)]
  by_cases hb1 : j + 1 = b
  · rw [if_pos hb1]
    subst hb1
    by_cases ha : j = a
    · rw [if_pos ha]; omega
    · rw [if_neg ha, if_neg (by omega)]
      exact h a j (by omega) (by omega) (by omega)
  · rw [if_neg hb1]
    by_cases ha : j = a
    · rw [if_pos ha]
      subst ha
      exact h (j + 1) b (by omega) hb (by omega)
    · rw [if_neg ha]
      by_cases ha1 : j + 1 = a
      · rw [if_pos ha1]
        exact h j b (by omega) hb (by omega)
      · rw [if_neg ha1]
        exact h a b hab hb (by omega)
theorem swap_perm {m : List Int} {j : Nat} (hj : j + 1 < m.length) : ((m.set (j + 1) (atL m j)).set j (atL m (j + 1))).Perm m := by
  rw [atL_eq (show j < m.length by omega), atL_eq hj]
  exact List.set_set_perm hj (show j < m.length by omega)
theorem srt_of {m l : List Int} (hp : m.Perm l) (h : upTo m m.length) : m = srt l := by
  refine sorted_unique (hp.trans (srt_perm l).symm) ?_ (srt_sorted l)
  rw [List.pairwise_iff_getElem]
  intro a b ha hb hab
  have := h a b hab hb
  rwa [atL_eq ha, atL_eq hb] at this
structure SR (W w : World) (BS : Nat) (m : List Int) : Prop where
  b : Below W.heap.size W w
  own : ∃ cur, Has w BS 3 cur ∧ ∀ j (h : j < m.length), cur[j]? = some (.int .i64 m[j])
  ge : W.heap.size ≤ BS
section
variable {W w w' : World} {BS : Nat} {m : List Int}
theorem SR.drew (h : SR W w BS m) : SR W w.drew BS m := by
  obtain ⟨cur, h1, h2⟩ := h.own
  exact ⟨h.b.drew, ⟨cur, h1.drew, h2⟩, h.ge⟩
theorem SR.cell (h : SR W w BS m) {j : Nat} (hj : j < m.length) : w.cell? ⟨BS, j, none⟩ = some (.int .i64 m[j]) := by
  obtain ⟨cur, h1, h2⟩ := h.own
  exact (h1.cell _).trans (h2 j hj)
theorem SR.lt (h : SR W w BS m) : BS < w.heap.size := by obtain ⟨cur, h1, h2⟩ := h.own; exact h1.lt
theorem SR.frozen (h : SR W w BS m) (i : Nat) : w.frozen? ⟨BS, i, none⟩ = false := by obtain ⟨cur, h1, h2⟩ := h.own; exact h1.frozen i
theorem SR.set (h : SR W w BS m) {i : Nat} (hi : i < m.length) (v : Int) : SR W (w.setCell ⟨BS, i, none⟩ (.int .i64 v)) BS (m.set i v) := by
  obtain ⟨cur, h1, h2⟩ := h.own
  refine ⟨h.b.setCell h.ge _, ⟨_, h1.set i _, fun j hj => ?_⟩, h.ge⟩
  simp only [List.length_set] at hj
  rw [Array.getElem?_setIfInBounds, List.getElem_set]
  by_cases hij : i = j
  · subst hij
    have hs : i < cur.size := by
      rcases Nat.lt_or_ge i cur.size with h | h
      · exact h
      · have := h2 i hi
        rw [Array.getElem?_eq_none h] at this
        cases this
    simp [hs]
  · rw [if_neg hij, if_neg hij, h2 j hj]
end
set_option maxRecDepth 100000 in
set_option maxHeartbeats 4000000 in
theorem Sorted_any (l : List Int) (A : Option Addr) (c : Nat) (W : World) (ha : IRow W W.heap.size A l) (hl : l.length ≤ 1000) : Calls Try.prog 27 #[.slice A l.length c] W (NewRow (srt l) W) := by
  obtain ⟨i0, hi, hz0, hz1, hz2⟩ := info_parts Try.info3
  have hmix : Try.prog.follows .mixedOrders = true := by kernel_rfl
  have HA := Lib.hid (And.intro (irow_none ha) (irow_news (ha.step (below_one W (.cells #[] 3)))))
  have HO := Lib.hid (own_empty W W.heap.size (Nat.le_refl _) 3)
  have HSR : Hid (∀ m, m.Perm l → upTo m m.length → m = srt l) := Lib.hid fun m h1 h2 => srt_of h1 h2
  clear ha
  go_enter Try.func27, Try.ntmps27
  go_wp2_with (at_builtin; refine wpList_append_row rfl _ _ 26 rfl W.heap.size 3 i0 (.int .i64 0) 1 8 Try.underlying26 hi hz0 hz1 hz2 rfl (by decide) (.slice (some ⟨W.heap.size, 0, none⟩) 0 0) 0 [] rfl HO.out A l.length c (ivl l) rfl HA.out.1 (by simp [ivl]) HA.out.2 (ivl_one _) ?q1 ?q2 ?q3 ?_)
  case q1 => unfold maxLen; omega
  case q2 => omega
  case q3 => (try simp only [World.size_alloc]); omega
  intro v1 w1 hown1 hgr1
  have hb1 : Below W.heap.size W w1 := (below_one W _).trans (grown_below hgr1 (by simp) (fun k hk => by simp only [Value.ownBlock, Option.some.injEq] at hk; omega))
  try rw [Nat.zero_add] at hown1
  try rw [List.nil_append] at hown1
  rcases hown1.2 with ⟨rfl, h0⟩ | ⟨BS, cap, cur, rfl, hB, hh, h1, h2, h3, h4⟩
  · have h0' : l = [] := List.eq_nil_of_length_eq_zero h0
    have HE := Lib.hid (show srt l = [] by rw [h0']; rfl)
    have HB1 := Lib.hid hb1
    clear hown1 hgr1 hb1 h0 h0'
    go_wp2_with fail
    go_loopg [4] 1 (fun gk i wr => i = .int .i64 1 ∧ wr = w1)
    case atStart => exact ⟨rfl, rfl⟩
    case round =>
      obtain ⟨rfl, rfl⟩ := hrel
      go_wp2_with fail
      go_ret
      show NewRow (srt l) W _ _
      rw [HE.out]
      exact ⟨none, 0, rfl, row_nil _ _, HB1.out⟩
  have HS1 := Lib.hid (show SR W w1 BS l from ⟨hb1, ⟨cur, hh, fun j hj => by
    have hk2 : (cur.toList.take (l.length * 1))[j]? = some (.int .i64 l[j]) := by rw [h4]; simp [ivl, hj]
    rw [List.getElem?_take_of_lt (by omega)] at hk2
    simpa using hk2⟩, hB⟩)
  clear hown1 hgr1 hb1 hB hh h1 h2 h3 h4
  obtain ⟨N, hN⟩ : ∃ N, N = l.length := ⟨_, rfl⟩
  have HN := Lib.hid hN
  rw [← hN] at hl ⊢
  clear hN
  go_wp2_with fail
  go_loopg [4] N (fun gk iv wr => ∃ (i : Nat) (m : List Int), 1 ≤ i ∧ (i ≤ N ∨ i = 1) ∧ N - i ≤ gk ∧ iv = .int .i64 i ∧ Hid (SR W wr BS m ∧ m.length = N ∧ m.Perm l ∧ upTo m i))
  case atStart => exact ⟨1, l, by omega, .inr rfl, by omega, rfl, Lib.hid ⟨HS1.out, HN.out.symm, .refl _, fun a b h1 h2 => by omega⟩⟩
  case round =>
    obtain ⟨i, m, hi1, hiN, hgi, rfl, HM⟩ := hrel
    clear HS1
    by_cases hlt : i < N
    rotate_left
    · have hge : ¬ (i : Int) < N := by omega
      have HE := Lib.hid (HSR.out m HM.out.2.2.1 (fun a b hab hb => HM.out.2.2.2 a b hab (by have := HM.out.2.1; omega)))
      go_wp2_with fail
      go_ret
      show NewRow (srt l) W _ _
      rw [← HE.out]
      exact ⟨_, cap, by rw [HM.out.2.1]; rfl, row_at (o := 0) (fun j hj => ⟨HM.out.1.lt, by rw [Nat.zero_add]; exact HM.out.1.cell hj⟩), HM.out.1.b⟩
    have hlt2 : (i : Int) < N := by omega
    have HM0 : Hid (∃ m, SR W wr BS m ∧ m.length = N ∧ m.Perm l ∧ Sunk m i i) := Lib.hid ⟨m, HM.out.1, HM.out.2.1, HM.out.2.2.1, .start HM.out.2.2.2⟩
    clear HM
    go_wp2_with fail
    go_loopg [5] i (fun gk kv wx => ∃ (k : Nat), k ≤ i ∧ k ≤ gk ∧ kv = .int .i64 k ∧ Hid (∃ m, SR W wx BS m ∧ m.length = N ∧ m.Perm l ∧ Sunk m i k))
    case atStart => exact ⟨i, Nat.le_refl _, Nat.le_refl _, rfl, HM0⟩
    case round =>
      obtain ⟨k, hki, hgk, rfl, HX⟩ := hrel
      clear HM0
      obtain ⟨m, hm1, hm2, hm3, hm4⟩ := HX.out
      have HM := Lib.hid (And.intro hm1 (And.intro hm2 (And.intro hm3 hm4)))
      clear hm1 hm2 hm3 hm4 HX
      have hkN : k < N := by omega
      have hkN2 : (k : Int) < N := by omega
      go_upto_region 6 with fail
      haveI hne : Nonempty (Cls (fun w' => SR W w' BS m)) := ⟨⟨_, HM.out.1.drew⟩⟩
      have HD := Lib.hid HM.out.1.drew
      by_cases h0 : k = 0
      · subst h0
        have HU := Lib.hid (Sunk.zero HM.out.2.2.2)
        refine wp_region_cls (fun w' => SR W w' BS m) hmix (by kernel_rfl) HD.out ?_
        repeat (quiet_step (fail))
        refine wpQuiet_nil ?_
        rintro w7 ⟨⟨_, hw7⟩, rfl⟩
        have H7 := Lib.hid hw7
        clear hne hw7 HD
        try simp only []
        go_wp2_with fail
        go_roundg (N - (i + 1))
        case measure => omega
        case rel => exact ⟨i + 1, m, by omega, .inl (by omega), Nat.le_refl _, by go_num, Lib.hid ⟨H7.out, HM.out.2.1, HM.out.2.2.1, HU.out⟩⟩
      obtain ⟨j, rfl⟩ : ∃ j, k = j + 1 := ⟨k - 1, by omega⟩
      have hjN : (j : Int) < N := by omega
      have hjm : j < m.length := by have := HM.out.2.1; omega
      have hkm : j + 1 < m.length := by have := HM.out.2.1; omega
      have e1 : IntKind.i64.wrap (((j + 1 : Nat) : Int) - 1) = (j : Int) := by rw [IntWalk.i64_in _ (by omega)]; omega
      obtain ⟨u, hu⟩ : ∃ u, u = m[j] := ⟨_, rfl⟩
      obtain ⟨v, hv⟩ : ∃ v, v = m[j + 1] := ⟨_, rfl⟩
      have HUV := Lib.hid (show atL m j = u ∧ atL m (j + 1) = v from ⟨by rw [atL_eq hjm, hu], by rw [atL_eq hkm, hv]⟩)
      have hx0 : ∀ pc : Cls (fun w' => SR W w' BS m), pc.w.cell? ⟨BS, j, none⟩ = some (.int .i64 u) := fun pc => by rw [hu]; exact pc.h.cell hjm
      have hx1 : ∀ pc : Cls (fun w' => SR W w' BS m), pc.w.cell? ⟨BS, j + 1, none⟩ = some (.int .i64 v) := fun pc => by rw [hv]; exact pc.h.cell hkm
      have HUV2 := Lib.hid (And.intro hu hv)
      have HLM := Lib.hid (And.intro hjm hkm)
      obtain ⟨K, hK0⟩ : ∃ K : Nat, K = j + 1 := ⟨_, rfl⟩
      rw [← hK0] at hx1 e1 hkN hkN2 ⊢
      have HK := Lib.hid hK0
      have hK1 : (0 : Int) < K := by omega
      have e6 : decide (0 < (K : Int)) = true := by simp; omega
      have hK2 : 0 < K := by omega
      clear hu hv h0 hK0
      by_cases hvu : v < u
      rotate_left
      · have HU := Lib.hid (Sunk.stop HM.out.2.2.2 (by omega) (by have h1 := HUV.out.1; have h2 := HUV.out.2; simp only [Nat.add_sub_cancel]; omega))
        refine wp_region_cls (fun w' => SR W w' BS m) hmix (by kernel_rfl) HD.out ?_
        repeat (quiet_step (fail))
        refine wpQuiet_nil ?_
        rintro w7 ⟨⟨_, hw7⟩, rfl⟩
        have H7 := Lib.hid hw7
        clear hx0 hx1 hne hw7 HD
        try simp only []
        go_wp2_with fail
        go_roundg (N - (i + 1))
        case measure => omega
        case rel => exact ⟨i + 1, m, by omega, .inl (by omega), Nat.le_refl _, by go_num, Lib.hid ⟨H7.out, HM.out.2.1, HM.out.2.2.1, HU.out⟩⟩
      refine wp_region_cls (fun w' => SR W w' BS m) hmix (by kernel_rfl) HD.out ?_
      repeat (quiet_step (fail))
      refine wpQuiet_nil ?_
      rintro w7 ⟨⟨_, hw7⟩, rfl⟩
      have H7 := Lib.hid hw7
      clear hx0 hx1 hne hw7 HD
      try simp only []
      go_upto_region 8 with fail
      have H8 := Lib.hid H7.out.drew
      clear H7
      have HMN := Lib.hid (show Hid (SR W (w7.drew) BS m) from H8)
      clear HMN
      refine wp_region_late (fun w' : World => True) [] (by kernel_rfl) ?_
      generalize w7.drew = w8 at H8 ⊢
      refine wpLate_take (i := 0) (oi := ?oi0r8_) (v := ?v0r8_) [14, 15, 16, 17] ?hi0r8_ (by kernel_rfl) (by kernel_rfl) (by kernel_rfl) (by kernel_rfl) (by kernel_rfl) ?hQ0r8_ (Or.inl ⟨?hw0r8_, ?hy0r8_⟩) trivial ?rest0r8_
      case hi0r8_ => (simp only [List.getElem?_toArray, List.getElem?_cons_zero]; rfl)
      case hQ0r8_ => exact fun _ _ _ h => h
      case hw0r8_ => rfl
      case hy0r8_ =>
        intro w' hSw
        obtain ⟨⟩ := hSw
        go_simp
        try exact rfl
      try simp only [Act.put, List.setIfInBounds_toArray, List.set_cons_zero, List.set_cons_succ]
      refine wpLate_take (i := 1) (oi := ?oi1r8_) (v := ?v1r8_) [14, 15, 16, 17] ?hi1r8_ (by kernel_rfl) (by kernel_rfl) (by kernel_rfl) (by kernel_rfl) (by kernel_rfl) ?hQ1r8_ (Or.inl ⟨?hw1r8_, ?hy1r8_⟩) trivial ?rest1r8_
      case hi1r8_ => (simp only [List.getElem?_toArray, List.getElem?_cons_zero, List.getElem?_cons_succ]; rfl)
      case hQ1r8_ => exact fun _ _ _ h => h
      case hw1r8_ => rfl
      case hy1r8_ =>
        intro w' hSw
        obtain ⟨⟩ := hSw
        go_simp
        try exact rfl
      try simp only [Act.put, List.setIfInBounds_toArray, List.set_cons_zero, List.set_cons_succ]
      refine wpLate_take (i := 2) (oi := ?oi2r8_) (v := ?v2r8_) [16, 17] ?hi2r8_ (by kernel_rfl) (by kernel_rfl) (by kernel_rfl) (by kernel_rfl) (by kernel_rfl) ?hQ2r8_ (Or.inl ⟨?hw2r8_, ?hy2r8_⟩) trivial ?rest2r8_
      case hi2r8_ => (simp only [List.getElem?_toArray, List.getElem?_cons_zero, List.getElem?_cons_succ]; rfl)
      case hQ2r8_ => exact fun _ _ _ h => h
      case hw2r8_ => rfl
      case hy2r8_ =>
        intro w' hSw
        obtain ⟨⟩ := hSw
        go_simp
        try exact rfl
      try simp only [Act.put, List.setIfInBounds_toArray, List.set_cons_zero, List.set_cons_succ]
      refine wpLate_take (i := 3) (oi := ?oi3r8_) (v := ?v3r8_) [4, 16, 17] ?hi3r8_ (by kernel_rfl) (by kernel_rfl) (by kernel_rfl) (by kernel_rfl) (by kernel_rfl) ?hQ3r8_ (Or.inl ⟨?hw3r8_, ?hy3r8_⟩) trivial ?rest3r8_
      case hi3r8_ => (simp only [List.getElem?_toArray, List.getElem?_cons_zero, List.getElem?_cons_succ]; rfl)
      case hQ3r8_ => exact fun _ _ _ h => h
      case hw3r8_ => rfl
      case hy3r8_ =>
        intro w' hSw
        obtain ⟨⟩ := hSw
        go_simp
        try exact rfl
      try simp only [Act.put, List.setIfInBounds_toArray, List.set_cons_zero, List.set_cons_succ]
      refine wpLate_take (i := 4) (oi := ?oi4r8_) (v := ?v4r8_) [16, 17] ?hi4r8_ (by kernel_rfl) (by kernel_rfl) (by kernel_rfl) (by kernel_rfl) (by kernel_rfl) ?hQ4r8_ (Or.inl ⟨?hw4r8_, ?hy4r8_⟩) trivial ?rest4r8_
      case hi4r8_ => (simp only [List.getElem?_toArray, List.getElem?_cons_zero, List.getElem?_cons_succ]; rfl)
      case hQ4r8_ => exact fun _ _ _ h => h
      case hw4r8_ => rfl
      case hy4r8_ =>
        intro w' hSw
        obtain ⟨⟩ := hSw
        go_simp
        try exact rfl
      try simp only [Act.put, List.setIfInBounds_toArray, List.set_cons_zero, List.set_cons_succ]
      refine wpLate_take (i := 5) (oi := ?oi5r8_) (v := ?v5r8_) [8, 9, 14, 15, 16, 17] ?hi5r8_ (by kernel_rfl) (by kernel_rfl) (by kernel_rfl) (by kernel_rfl) (by kernel_rfl) ?hQ5r8_ (Or.inl ⟨?hw5r8_, ?hy5r8_⟩) trivial ?rest5r8_
      case hi5r8_ => (simp only [List.getElem?_toArray, List.getElem?_cons_zero, List.getElem?_cons_succ]; rfl)
      case hQ5r8_ => exact fun _ _ _ h => h
      case hw5r8_ => rfl
      case hy5r8_ =>
        intro w' hSw
        obtain ⟨⟩ := hSw
        go_simp
        try exact rfl
      try simp only [Act.put, List.setIfInBounds_toArray, List.set_cons_zero, List.set_cons_succ]
      refine wpLate_take (i := 6) (oi := ?oi6r8_) (v := ?v6r8_) [7, 8, 9, 14, 15, 16, 17] ?hi6r8_ (by kernel_rfl) (by kernel_rfl) (by kernel_rfl) (by kernel_rfl) (by kernel_rfl) ?hQ6r8_ (Or.inl ⟨?hw6r8_, ?hy6r8_⟩) trivial ?rest6r8_
      case hi6r8_ => (simp only [List.getElem?_toArray, List.getElem?_cons_zero, List.getElem?_cons_succ]; rfl)
      case hQ6r8_ => exact fun _ _ _ h => h
      case hw6r8_ => rfl
      case hy6r8_ =>
        intro w' hSw
        obtain ⟨⟩ := hSw
        go_simp
        try exact rfl
      try simp only [Act.put, List.setIfInBounds_toArray, List.set_cons_zero, List.set_cons_succ]
      refine wpLate_take (i := 7) (oi := ?oi7r8_) (v := ?v7r8_) [8, 9, 14, 15, 16, 17] ?hi7r8_ (by kernel_rfl) (by kernel_rfl) (by kernel_rfl) (by kernel_rfl) (by kernel_rfl) ?hQ7r8_ (Or.inl ⟨?hw7r8_, ?hy7r8_⟩) trivial ?rest7r8_
      case hi7r8_ => (simp only [List.getElem?_toArray, List.getElem?_cons_zero, List.getElem?_cons_succ]; rfl)
      case hQ7r8_ => exact fun _ _ _ h => h
      case hw7r8_ => rfl
      case hy7r8_ =>
        intro w' hSw
        obtain ⟨⟩ := hSw
        go_simp
        try exact rfl
      try simp only [Act.put, List.setIfInBounds_toArray, List.set_cons_zero, List.set_cons_succ]
      refine wpLate_take (i := 8) (oi := ?oi8r8_) (v := ?v8r8_) [9, 14, 15, 16, 17] ?hi8r8_ (by kernel_rfl) (by kernel_rfl) (by kernel_rfl) (by kernel_rfl) (by kernel_rfl) ?hQ8r8_ (Or.inl ⟨?hw8r8_, ?hy8r8_⟩) trivial ?rest8r8_
      case hi8r8_ => (simp only [List.getElem?_toArray, List.getElem?_cons_zero, List.getElem?_cons_succ]; rfl)
      case hQ8r8_ => exact fun _ _ _ h => h
      case hw8r8_ => rfl
      case hy8r8_ =>
        intro w' hSw
        obtain ⟨⟩ := hSw
        go_simp
        try exact rfl
      try simp only [Act.put, List.setIfInBounds_toArray, List.set_cons_zero, List.set_cons_succ]
      refine wpLate_take (i := 10) (oi := ?oi10r8_) (v := ?v10r8_) [12, 13, 14, 15, 16, 17] ?hi10r8_ (by kernel_rfl) (by kernel_rfl) (by kernel_rfl) (by kernel_rfl) (by kernel_rfl) ?hQ10r8_ (Or.inl ⟨?hw10r8_, ?hy10r8_⟩) trivial ?rest10r8_
      case hi10r8_ => (simp only [List.getElem?_toArray, List.getElem?_cons_zero, List.getElem?_cons_succ]; rfl)
      case hQ10r8_ => exact fun _ _ _ h => h
      case hw10r8_ => rfl
      case hy10r8_ =>
        intro w' hSw
        obtain ⟨⟩ := hSw
        go_simp
        try exact rfl
      try simp only [Act.put, List.setIfInBounds_toArray, List.set_cons_zero, List.set_cons_succ]
      refine wpLate_take (i := 11) (oi := ?oi11r8_) (v := ?v11r8_) [12, 13, 14, 15, 16, 17] ?hi11r8_ (by kernel_rfl) (by kernel_rfl) (by kernel_rfl) (by kernel_rfl) (by kernel_rfl) ?hQ11r8_ (Or.inl ⟨?hw11r8_, ?hy11r8_⟩) trivial ?rest11r8_
      case hi11r8_ => (simp only [List.getElem?_toArray, List.getElem?_cons_zero, List.getElem?_cons_succ]; rfl)
      case hQ11r8_ => exact fun _ _ _ h => h
      case hw11r8_ => rfl
      case hy11r8_ =>
        intro w' hSw
        obtain ⟨⟩ := hSw
        go_simp
        try exact rfl
      try simp only [Act.put, List.setIfInBounds_toArray, List.set_cons_zero, List.set_cons_succ]
      refine wpLate_take (i := 12) (oi := ?oi12r8_) (v := ?v12r8_) [13, 14, 15, 16, 17] ?hi12r8_ (by kernel_rfl) (by kernel_rfl) (by kernel_rfl) (by kernel_rfl) (by kernel_rfl) ?hQ12r8_ (Or.inl ⟨?hw12r8_, ?hy12r8_⟩) trivial ?rest12r8_
      case hi12r8_ => (simp only [List.getElem?_toArray, List.getElem?_cons_zero, List.getElem?_cons_succ]; rfl)
      case hQ12r8_ => exact fun _ _ _ h => h
      case hw12r8_ => rfl
      case hy12r8_ =>
        intro w' hSw
        obtain ⟨⟩ := hSw
        go_simp
        try exact rfl
      try simp only [Act.put, List.setIfInBounds_toArray, List.set_cons_zero, List.set_cons_succ]
      have d0 : w8.cell? ⟨BS, j, none⟩ = some (.int .i64 u) := by rw [HUV2.out.1]; exact H8.out.cell HLM.out.1
      have d1 : w8.cell? ⟨BS, K, none⟩ = some (.int .i64 v) := by rw [HUV2.out.2, HK.out]; exact H8.out.cell HLM.out.2
      have df := H8.out.frozen
      have dl := H8.out.lt
      have HW8 : Hid (SR W (w8.setCell ⟨BS, K, none⟩ (.int .i64 u)) BS (m.set (j + 1) (atL m j)) ∧ j < (m.set (j + 1) (atL m j)).length) := Lib.hid ⟨by have := H8.out.set HLM.out.2 u; rw [← HK.out] at this; rw [HUV.out.1, ← HK.out]; exact this, by simp; exact HLM.out.1⟩
      have HF : Hid (∀ w, SR W w BS ((m.set (j + 1) (atL m j)).set j (atL m (j + 1))) → ∃ m', SR W w BS m' ∧ m'.length = N ∧ m'.Perm l ∧ Sunk m' i j) := Lib.hid fun w h => ⟨_, h, by simp; exact HM.out.2.1, (swap_perm HLM.out.2).trans HM.out.2.2.1, HM.out.2.2.2.swap HLM.out.2 (by have := HK.out; omega) (by rw [HUV.out.1, HUV.out.2]; exact hvu)⟩
      clear hvu
      refine wpLate_two (i := 9) (j := 13) (o := ?o9r) (u := ?u13r) (by kernel_rfl) ?ho9r ?hu13r ?hA ?hB
      case ho9r => (simp only [List.getElem?_toArray, List.getElem?_cons_zero, List.getElem?_cons_succ]; rfl)
      case hu13r => (simp only [List.getElem?_toArray, List.getElem?_cons_zero, List.getElem?_cons_succ]; rfl)
      case hA =>
        intro K0 hK
        go_simp
        refine hK.out _ _ (fun h => trivial) ?_
        clear hK K0
        try simp only [Act.put, List.setIfInBounds_toArray, List.set_cons_zero, List.set_cons_succ]
        refine wpLate_one (i := 13) (o := ?o13hA) (by kernel_rfl) ?ho13hA ?hk13hA
        case ho13hA => (simp only [List.getElem?_toArray, List.getElem?_cons_zero, List.getElem?_cons_succ]; rfl)
        intro K0 hK
        go_simp
        refine hK.out _ _ (fun h => trivial) ?_
        clear hK K0
        try simp only [Act.put, List.setIfInBounds_toArray, List.set_cons_zero, List.set_cons_succ]
        refine wpLate_one (i := 14) (o := ?o14hA) (by kernel_rfl) ?ho14hA ?hk14hA
        case ho14hA => (simp only [List.getElem?_toArray, List.getElem?_cons_zero, List.getElem?_cons_succ]; rfl)
        intro K0 hK
        go_simp
        refine hK.out _ _ (fun h => trivial) ?_
        clear hK K0
        try simp only [Act.put, List.setIfInBounds_toArray, List.set_cons_zero, List.set_cons_succ]
        refine wpLate_one (i := 15) (o := ?o15hA) (by kernel_rfl) ?ho15hA ?hk15hA
        case ho15hA => (simp only [List.getElem?_toArray, List.getElem?_cons_zero, List.getElem?_cons_succ]; rfl)
        intro K0 hK
        go_simp
        generalize w8.setCell ⟨BS, K, none⟩ (.int .i64 u) = w15 at HW8 ⊢
        have g0 : w15.cell? ⟨BS, j, none⟩ = some (.int .i64 ((m.set (j + 1) (atL m j))[j]'HW8.out.2)) := HW8.out.1.cell HW8.out.2
        have gf := HW8.out.1.frozen
        have gl := HW8.out.1.lt
        refine hK.out _ _ (fun h => trivial) ?_
        clear hK K0
        try simp only [Act.put, List.setIfInBounds_toArray, List.set_cons_zero, List.set_cons_succ]
        refine wpLate_one (i := 16) (o := ?o16hA) (by kernel_rfl) ?ho16hA ?hk16hA
        case ho16hA => (simp only [List.getElem?_toArray, List.getElem?_cons_zero, List.getElem?_cons_succ]; rfl)
        intro K0 hK
        go_simp
        refine hK.out _ _ (fun h => trivial) ?_
        clear hK K0
        try simp only [Act.put, List.setIfInBounds_toArray, List.set_cons_zero, List.set_cons_succ]
        refine wpLate_one (i := 17) (o := ?o17hA) (by kernel_rfl) ?ho17hA ?hk17hA
        case ho17hA => (simp only [List.getElem?_toArray, List.getElem?_cons_zero, List.getElem?_cons_succ]; rfl)
        intro K0 hK
        go_simp
        refine hK.out _ _ (fun h => trivial) ?_
        clear hK K0
        try simp only [Act.put, List.setIfInBounds_toArray, List.set_cons_zero, List.set_cons_succ]
        refine wpLate_done (by kernel_rfl) ?_ _
        try simp only [Act.put, List.setIfInBounds_toArray, List.set_cons_zero, List.set_cons_succ]
        have H17 := Lib.hid (HF.out _ (by have := HW8.out.1.set HW8.out.2 v; rw [HUV.out.2]; exact this))
        go_wp2_with fail
        go_roundg j
        case measure => have := HK.out; omega
        case rel => exact ⟨j, by have := HK.out; omega, Nat.le_refl _, by go_num, H17⟩
      case hB =>
        intro K0 hK
        go_simp
        refine hK.out _ _ (fun h => trivial) ?_
        clear hK K0
        try simp only [Act.put, List.setIfInBounds_toArray, List.set_cons_zero, List.set_cons_succ]
        refine wpLate_one (i := 9) (o := ?o9hB) (by kernel_rfl) ?ho9hB ?hk9hB
        case ho9hB => (simp only [List.getElem?_toArray, List.getElem?_cons_zero, List.getElem?_cons_succ]; rfl)
        intro K0 hK
        go_simp
        refine hK.out _ _ (fun h => trivial) ?_
        clear hK K0
        try simp only [Act.put, List.setIfInBounds_toArray, List.set_cons_zero, List.set_cons_succ]
        refine wpLate_one (i := 14) (o := ?o14hB) (by kernel_rfl) ?ho14hB ?hk14hB
        case ho14hB => (simp only [List.getElem?_toArray, List.getElem?_cons_zero, List.getElem?_cons_succ]; rfl)
        intro K0 hK
        go_simp
        refine hK.out _ _ (fun h => trivial) ?_
        clear hK K0
        try simp only [Act.put, List.setIfInBounds_toArray, List.set_cons_zero, List.set_cons_succ]
        refine wpLate_one (i := 15) (o := ?o15hB) (by kernel_rfl) ?ho15hB ?hk15hB
        case ho15hB => (simp only [List.getElem?_toArray, List.getElem?_cons_zero, List.getElem?_cons_succ]; rfl)
        intro K0 hK
        go_simp
        generalize w8.setCell ⟨BS, K, none⟩ (.int .i64 u) = w15 at HW8 ⊢
        have g0 : w15.cell? ⟨BS, j, none⟩ = some (.int .i64 ((m.set (j + 1) (atL m j))[j]'HW8.out.2)) := HW8.out.1.cell HW8.out.2
        have gf := HW8.out.1.frozen
        have gl := HW8.out.1.lt
        refine hK.out _ _ (fun h => trivial) ?_
        clear hK K0
        try simp only [Act.put, List.setIfInBounds_toArray, List.set_cons_zero, List.set_cons_succ]
        refine wpLate_one (i := 16) (o := ?o16hB) (by kernel_rfl) ?ho16hB ?hk16hB
        case ho16hB => (simp only [List.getElem?_toArray, List.getElem?_cons_zero, List.getElem?_cons_succ]; rfl)
        intro K0 hK
        go_simp
        refine hK.out _ _ (fun h => trivial) ?_
        clear hK K0
        try simp only [Act.put, List.setIfInBounds_toArray, List.set_cons_zero, List.set_cons_succ]
        refine wpLate_one (i := 17) (o := ?o17hB) (by kernel_rfl) ?ho17hB ?hk17hB
        case ho17hB => (simp only [List.getElem?_toArray, List.getElem?_cons_zero, List.getElem?_cons_succ]; rfl)
        intro K0 hK
        go_simp
        refine hK.out _ _ (fun h => trivial) ?_
        clear hK K0
        try simp only [Act.put, List.setIfInBounds_toArray, List.set_cons_zero, List.set_cons_succ]
        refine wpLate_done (by kernel_rfl) ?_ _
        try simp only [Act.put, List.setIfInBounds_toArray, List.set_cons_zero, List.set_cons_succ]
        have H17 := Lib.hid (HF.out _ (by have := HW8.out.1.set HW8.out.2 v; rw [HUV.out.2]; exact this))
        go_wp2_with fail
        go_roundg j
        case measure => have := HK.out; omega
        case rel => exact ⟨j, by have := HK.out; omega, Nat.le_refl _, by go_num, H17⟩
end Go.Proofs.Ytipejhfgfciabaa
