/- The law of what the air holds. -/
import Derived.Test.YtdmpkeaanaoeaaaOpA
namespace Go.Proofs.Ytdmpkeaanaoeaaa
open Go.RowKit
def manyB (a : Air) (n : Nat) (m : Int) : Bool := decide (40 < a.T.length) || (decide (40 < a.H.length) || ((decide (m < n) && decide (n ≤ 200)) || decide (204 < n)))
set_option maxRecDepth 100000 in
set_option maxHeartbeats 2000000 in
theorem many_any (a : Air) (A B AL : Option Addr) (ca cb cl n : Nat) (m : Int) (W : World) (hT : a.T.length ≤ 9223372036854775807) (hH : a.H.length ≤ 9223372036854775807) : Calls Try.prog 9 #[airv a A B ca cb, .slice AL n cl, .int .i64 m] W (BoolPost (manyB a n m) W) := by
  have HB := Lib.hid (below_one W (.cells (airc a A B ca cb) 26))
  have hn : ∀ c, manyB a n m = c → Hid (manyB a n m = c) := fun b h => h
  unfold airv
  by_cases h1 : 40 < a.T.length
  · have HE := hn true (by unfold manyB; rw [decide_eq_true h1]; rfl)
    have h1' : (40 : Int) < a.T.length := by omega
    clear hn
    go_enter Try.func9, Try.ntmps9
    go_wp2
    go_ret
    exact ⟨ret_bool HE.out.symm, HB.out⟩
  have h1' : ¬ (40 : Int) < a.T.length := by omega
  by_cases h2 : 40 < a.H.length
  · have HE := hn true (by unfold manyB; rw [decide_eq_true h2]; simp)
    have h2' : (40 : Int) < a.H.length := by omega
    clear hn
    go_enter Try.func9, Try.ntmps9
    go_wp2
    go_ret
    exact ⟨ret_bool HE.out.symm, HB.out⟩
  have h2' : ¬ (40 : Int) < a.H.length := by omega
  by_cases h3 : m < n
  · by_cases h4 : n ≤ 200
    · have HE := hn true (by unfold manyB; rw [decide_eq_true h3, decide_eq_true h4]; simp)
      have h4' : (n : Int) ≤ 200 := by omega
      clear hn
      go_enter Try.func9, Try.ntmps9
      go_wp2
      go_ret
      exact ⟨ret_bool HE.out.symm, HB.out⟩
    · have h4' : ¬ (n : Int) ≤ 200 := by omega
      by_cases h5 : 204 < n
      · have HE := hn true (by unfold manyB; rw [decide_eq_true h5]; simp)
        have h5' : (204 : Int) < n := by omega
        clear hn
        go_enter Try.func9, Try.ntmps9
        go_wp2
        go_ret
        exact ⟨ret_bool HE.out.symm, HB.out⟩
      · have HE := hn false (by unfold manyB; rw [decide_eq_false h1, decide_eq_false h2, decide_eq_false h4, decide_eq_false h5]; simp)
        have h5' : ¬ (204 : Int) < n := by omega
        clear hn
        go_enter Try.func9, Try.ntmps9
        go_wp2
        go_ret
        exact ⟨ret_bool HE.out.symm, HB.out⟩
  · by_cases h5 : 204 < n
    · have HE := hn true (by unfold manyB; rw [decide_eq_true h5]; simp)
      have h5' : (204 : Int) < n := by omega
      clear hn
      go_enter Try.func9, Try.ntmps9
      go_wp2
      go_ret
      exact ⟨ret_bool HE.out.symm, HB.out⟩
    · have HE := hn false (by unfold manyB; rw [decide_eq_false h1, decide_eq_false h2, decide_eq_false h3, decide_eq_false h5]; simp)
      have h5' : ¬ (204 : Int) < n := by omega
      clear hn
      go_enter Try.func9, Try.ntmps9
      go_wp2
      go_ret
      exact ⟨ret_bool HE.out.symm, HB.out⟩
/-- the box of the air -/
structure HK (W w : World) (a : Air) (A B : Option Addr) (ca cb : Nat) : Prop where
  b : Below W.heap.size W w
  fa : Has w W.heap.size 26 (airc a A B ca cb)
  ar : AR w W.heap.size a A B
theorem HK.step {W w w' : World} {a : Air} {A B : Option Addr} {ca cb : Nat} (h : HK W w a A B ca cb) (hb : Below w.heap.size w w') : HK W w' a A B ca cb :=
  ⟨h.b.trans (hb.mono h.b.size), h.fa.below hb h.fa.lt, h.ar.below (hb.mono h.b.size)⟩
theorem HK.ar' {W w : World} {a : Air} {A B : Option Addr} {ca cb : Nat} (h : HK W w a A B ca cb) : AR w w.heap.size a A B := h.ar.more h.b.size
set_option maxRecDepth 100000 in
set_option maxHeartbeats 8000000 in
theorem holdsLaw_any (a : Air) (A B : Option Addr) (ca cb : Nat) (t u : Int) (W : World) (har : AR W W.heap.size a A B) (hu : 0 ≤ u ∧ u ≤ 65535) :
    Calls Try.prog 8 #[airv a A B ca cb, .int .i64 t, .int .u16 u] W (BoolPost true W) := by
  have K0 : Hid (HK W (W.alloc (.cells (airc a A B ca cb) 26)) a A B ca cb) := ⟨below_one W _, box_air _ _ _ _ _ _, har.below (below_one W _)⟩
  have HMany := Lib.hid (fun w => many_any a A B none ca cb 0 0 0 w har.lt har.lh)
  have HH := Lib.hid (fun w h => Holds_any a A B ca cb t w h)
  have HAw := Lib.hid (fun w => awake_any w)
  have HRA := Lib.hid (fun w h => rAir_any a A B ca cb w h)
  unfold airv at *
  clear har
  go_enter Try.func8, Try.ntmps8
  go_wp2_with fail
  generalize W.alloc (.cells (airc a A B ca cb) 26) = w0 at K0 ⊢
  refine (HMany.out _).mono ?_
  rintro e w1 ⟨rfl, hb1⟩
  have K1 := Lib.hid (K0.out.step hb1)
  clear hb1
  cases hm : manyB a 0 0
  rotate_left
  · go_wp2_with fail
    refine (HAw.out _).mono ?_
    rintro e w2 ⟨rfl, hb2⟩
    have K2 := Lib.hid (K1.out.step hb2)
    clear hb2
    go_wp2_with fail
    go_ret
    exact ⟨rfl, K2.out.b⟩
  have HMB := Lib.hid hm
  have c0 : w1.cell? ⟨W.heap.size, 0, none⟩ = some (.int .i64 a.R) := K1.out.fa.cell 0
  have c1 : w1.cell? ⟨W.heap.size, 1, none⟩ = some (.slice A a.T.length ca) := K1.out.fa.cell 1
  have c2 : w1.cell? ⟨W.heap.size, 2, none⟩ = some (.slice B a.H.length cb) := K1.out.fa.cell 2
  have c3 : w1.cell? ⟨W.heap.size, 3, none⟩ = some (.int .i64 a.b0) := K1.out.fa.cell 3
  have c4 : w1.cell? ⟨W.heap.size, 4, none⟩ = some (.int .i64 a.b1) := K1.out.fa.cell 4
  clear hm
  go_wp2_with fail
  refine (HH.out _ K1.out.ar').mono ?_
  rintro e w2 ⟨rfl, hb2⟩
  have K2 := Lib.hid (K1.out.step hb2)
  clear hb2 c0 c1 c2 c3 c4
  cases hv : airB a
  · have HE := Lib.hid (show holdsR a t = (0, 1) by unfold holdsR; rw [if_neg (by rw [hv]; simp)])
    rw [HE.out]
    clear hv
    dsimp only
    go_wp2_with fail
    refine (HAw.out _).mono ?_
    rintro e w3 ⟨rfl, hb3⟩
    have K3 := Lib.hid (K2.out.step hb3)
    clear hb3
    go_wp2_with fail
    go_ret
    exact ⟨rfl, K3.out.b⟩
  have HVB := Lib.hid hv
  have HV := Lib.hid ((airB_iff a).1 hv)
  have HTm := Lib.hid (fun w h => rTemp_any a A B ca cb t w h HV.out.n.1)
  unfold airv at HTm
  rw [hv] at HRA
  clear hv
  cases ho : onB a t
  · have HE := Lib.hid (show holdsR a t = (0, 2) by unfold holdsR; rw [if_pos HVB.out, if_neg (by rw [ho]; simp)])
    rw [HE.out]
    clear ho
    dsimp only
    go_wp2_with fail
    refine (HAw.out _).mono ?_
    rintro e w3 ⟨rfl, hb3⟩
    have K3 := Lib.hid (K2.out.step hb3)
    clear hb3
    go_wp2_with fail
    go_ret
    exact ⟨rfl, K3.out.b⟩
  have HE := Lib.hid (show holdsR a t = (holdsP a t, 0) by unfold holdsR; rw [if_pos HVB.out, if_pos ho])
  rw [HE.out]
  have HO := Lib.hid ho
  rw [ho] at HTm
  clear ho
  dsimp only
  have c0 : w2.cell? ⟨W.heap.size, 0, none⟩ = some (.int .i64 a.R) := K2.out.fa.cell 0
  have c1 : w2.cell? ⟨W.heap.size, 1, none⟩ = some (.slice A a.T.length ca) := K2.out.fa.cell 1
  have c2 : w2.cell? ⟨W.heap.size, 2, none⟩ = some (.slice B a.H.length cb) := K2.out.fa.cell 2
  have c3 : w2.cell? ⟨W.heap.size, 3, none⟩ = some (.int .i64 a.b0) := K2.out.fa.cell 3
  have c4 : w2.cell? ⟨W.heap.size, 4, none⟩ = some (.int .i64 a.b1) := K2.out.fa.cell 4
  go_wp2_with fail
  refine (HRA.out _ K2.out.ar').mono ?_
  rintro e w3 ⟨rfl, hb3⟩
  have K3 := Lib.hid (K2.out.step hb3)
  clear hb3 c0 c1 c2 c3 c4
  have c0 : w3.cell? ⟨W.heap.size, 0, none⟩ = some (.int .i64 a.R) := K3.out.fa.cell 0
  have c1 : w3.cell? ⟨W.heap.size, 1, none⟩ = some (.slice A a.T.length ca) := K3.out.fa.cell 1
  have c2 : w3.cell? ⟨W.heap.size, 2, none⟩ = some (.slice B a.H.length cb) := K3.out.fa.cell 2
  have c3 : w3.cell? ⟨W.heap.size, 3, none⟩ = some (.int .i64 a.b0) := K3.out.fa.cell 3
  have c4 : w3.cell? ⟨W.heap.size, 4, none⟩ = some (.int .i64 a.b1) := K3.out.fa.cell 4
  go_wp2_with fail
  refine (HTm.out _ K3.out.ar').mono ?_
  rintro e w4 ⟨rfl, hb4⟩
  have K4 := Lib.hid (K3.out.step hb4)
  clear hb4 c0 c1 c2 c3 c4
  have c0 : w4.cell? ⟨W.heap.size, 0, none⟩ = some (.int .i64 a.R) := K4.out.fa.cell 0
  have c1 : w4.cell? ⟨W.heap.size, 1, none⟩ = some (.slice A a.T.length ca) := K4.out.fa.cell 1
  have c2 : w4.cell? ⟨W.heap.size, 2, none⟩ = some (.slice B a.H.length cb) := K4.out.fa.cell 2
  have c3 : w4.cell? ⟨W.heap.size, 3, none⟩ = some (.int .i64 a.b0) := K4.out.fa.cell 3
  have c4 : w4.cell? ⟨W.heap.size, 4, none⟩ = some (.int .i64 a.b1) := K4.out.fa.cell 4
  have n1 := HV.out.n
  go_upto_region 9 with fail
  obtain ⟨g, o, hA, hg, d0⟩ := K4.out.ar.t (a.T.length - 1) (by omega)
  obtain ⟨tl, htl⟩ : ∃ x, x = a.T[a.T.length - 1]'(by omega) := ⟨_, rfl⟩
  rw [← htl] at d0
  have HTL := Lib.hid (show a.T.getD (a.T.length - 1) 0 = tl by rw [htl]; exact getD_lt _)
  have hto := HO.out
  unfold onB at hto
  rw [HTL.out] at hto
  simp only [decide_eq_true_eq] at hto
  have htb := HV.out.t 0 (by omega)
  have htb2 := HV.out.t (a.T.length - 1) (by omega)
  rw [HTL.out] at htb2
  have e1 : ((a.T.length : Int) - 1).toNat = a.T.length - 1 := by omega
  have e2 : IntKind.i64.wrap (t + u) = t + u := IntWalk.i64_in _ (by omega)
  have e3 : 0 ≤ (a.T.length : Int) - 1 := by omega
  have e4 : (1 : Int) ≤ a.T.length := by omega
  have e5 : (a.T.length : Int) - 1 < a.T.length := by omega
  have hgs : g < w4.heap.size := by have := K4.out.b.size; omega
  have HH2 := Lib.hid (fun t w h => Holds_any a A B ca cb t w h)
  unfold airv at HH2
  subst hA
  obtain ⟨tt, htt⟩ : ∃ tt, (if t + u < tl then t + u else tl) = tt := ⟨_, rfl⟩
  have HT1 := Lib.hid (show t ≤ tt ∧ tt ≤ tl by rw [← htt]; split <;> omega)
  have e0 : IntKind.i64.wrap u = u := IntWalk.i64_in _ (by omega)
  have HO2 := Lib.hid (show onB a tt = true by unfold onB; rw [HTL.out, decide_eq_true_eq]; have := HT1.out; omega)
  have HT2 := Lib.hid (fun w h => by
    have := HH2.out tt w h
    rw [show holdsR a tt = (holdsP a tt, 0) by unfold holdsR; rw [if_pos HVB.out, if_pos HO2.out]] at this
    exact this)
  clear htl
  have KB : Hid (w4.drew.cell? ⟨W.heap.size, 0, none⟩ = some (.int .i64 a.R) ∧ w4.drew.cell? ⟨W.heap.size, 1, none⟩ = some (.slice (some ⟨g, o, none⟩) a.T.length ca) ∧ w4.drew.cell? ⟨W.heap.size, 2, none⟩ = some (.slice B a.H.length cb) ∧ w4.drew.cell? ⟨W.heap.size, 3, none⟩ = some (.int .i64 a.b0) ∧ w4.drew.cell? ⟨W.heap.size, 4, none⟩ = some (.int .i64 a.b1) ∧ w4.drew.cell? ⟨g, o + (a.T.length - 1), none⟩ = some (.int .i64 tl)) := ⟨c0, c1, c2, c3, c4, d0⟩
  refine wp_region_late (fun w' : World => w'.cell? ⟨W.heap.size, 0, none⟩ = some (.int .i64 a.R) ∧ w'.cell? ⟨W.heap.size, 1, none⟩ = some (.slice (some ⟨g, o, none⟩) a.T.length ca) ∧ w'.cell? ⟨W.heap.size, 2, none⟩ = some (.slice B a.H.length cb) ∧ w'.cell? ⟨W.heap.size, 3, none⟩ = some (.int .i64 a.b0) ∧ w'.cell? ⟨W.heap.size, 4, none⟩ = some (.int .i64 a.b1) ∧ w'.cell? ⟨g, o + (a.T.length - 1), none⟩ = some (.int .i64 tl)) [] (by kernel_rfl) ?_
  refine wpLate_take (i := 0) (oi := ?oi0) (v := ?v0) [11, 12, 13, 14, 15, 16] ?hi0 (by kernel_rfl) (by kernel_rfl) (by kernel_rfl) (by kernel_rfl) (by kernel_rfl) ?hQ0 (Or.inl ⟨?hw0, ?hy0⟩) KB.out ?rest0
  case hi0 => (simp only [List.getElem?_toArray, List.getElem?_cons_zero]; rfl)
  case hQ0 => exact fun _ _ _ h => h
  case hw0 => rfl
  case hy0 =>
    intro w' hSw
    obtain ⟨r0, r1, r2, r3, r4, r5⟩ := hSw
    go_simp
    try exact rfl
  try simp only [Act.put, List.setIfInBounds_toArray, List.set_cons_zero, List.set_cons_succ]
  refine wpLate_take (i := 1) (oi := ?oi1) (v := ?v1) [2, 4, 5, 10, 11, 12, 13, 14, 15, 16] ?hi1 (by kernel_rfl) (by kernel_rfl) (by kernel_rfl) (by kernel_rfl) (by kernel_rfl) ?hQ1 (Or.inl ⟨?hw1, ?hy1⟩) KB.out ?rest1
  case hi1 => (simp only [List.getElem?_toArray, List.getElem?_cons_zero, List.getElem?_cons_succ]; rfl)
  case hQ1 => exact fun _ _ _ h => h
  case hw1 => rfl
  case hy1 =>
    intro w' hSw
    obtain ⟨r0, r1, r2, r3, r4, r5⟩ := hSw
    go_simp
    try exact rfl
  try simp only [Act.put, List.setIfInBounds_toArray, List.set_cons_zero, List.set_cons_succ]
  refine wpLate_take (i := 2) (oi := ?oi2) (v := ?v2) [4, 5, 10, 11, 12, 13, 14, 15, 16] ?hi2 (by kernel_rfl) (by kernel_rfl) (by kernel_rfl) (by kernel_rfl) (by kernel_rfl) ?hQ2 (Or.inl ⟨?hw2, ?hy2⟩) KB.out ?rest2
  case hi2 => (simp only [List.getElem?_toArray, List.getElem?_cons_zero, List.getElem?_cons_succ]; rfl)
  case hQ2 => exact fun _ _ _ h => h
  case hw2 => rfl
  case hy2 =>
    intro w' hSw
    obtain ⟨r0, r1, r2, r3, r4, r5⟩ := hSw
    go_simp
    try exact rfl
  try simp only [Act.put, List.setIfInBounds_toArray, List.set_cons_zero, List.set_cons_succ]
  refine wpLate_take (i := 3) (oi := ?oi3) (v := ?v3) [4, 5, 10, 11, 12, 13, 14, 15, 16] ?hi3 (by kernel_rfl) (by kernel_rfl) (by kernel_rfl) (by kernel_rfl) (by kernel_rfl) ?hQ3 (Or.inl ⟨?hw3, ?hy3⟩) KB.out ?rest3
  case hi3 => (simp only [List.getElem?_toArray, List.getElem?_cons_zero, List.getElem?_cons_succ]; rfl)
  case hQ3 => exact fun _ _ _ h => h
  case hw3 => rfl
  case hy3 =>
    intro w' hSw
    obtain ⟨r0, r1, r2, r3, r4, r5⟩ := hSw
    go_simp
    try exact rfl
  try simp only [Act.put, List.setIfInBounds_toArray, List.set_cons_zero, List.set_cons_succ]
  refine wpLate_take (i := 4) (oi := ?oi4) (v := ?v4) [5, 10, 11, 12, 13, 14, 15, 16] ?hi4 (by kernel_rfl) (by kernel_rfl) (by kernel_rfl) (by kernel_rfl) (by kernel_rfl) ?hQ4 (Or.inl ⟨?hw4, ?hy4⟩) KB.out ?rest4
  case hi4 => (simp only [List.getElem?_toArray, List.getElem?_cons_zero, List.getElem?_cons_succ]; rfl)
  case hQ4 => exact fun _ _ _ h => h
  case hw4 => rfl
  case hy4 =>
    intro w' hSw
    obtain ⟨r0, r1, r2, r3, r4, r5⟩ := hSw
    go_simp
    try exact rfl
  try simp only [Act.put, List.setIfInBounds_toArray, List.set_cons_zero, List.set_cons_succ]
  refine wpLate_take (i := 5) (oi := ?oi5) (v := ?v5) [10, 11, 12, 13, 14, 15, 16] ?hi5 (by kernel_rfl) (by kernel_rfl) (by kernel_rfl) (by kernel_rfl) (by kernel_rfl) ?hQ5 (Or.inl ⟨?hw5, ?hy5⟩) KB.out ?rest5
  case hi5 => (simp only [List.getElem?_toArray, List.getElem?_cons_zero, List.getElem?_cons_succ]; rfl)
  case hQ5 => exact fun _ _ _ h => h
  case hw5 => rfl
  case hy5 =>
    intro w' hSw
    obtain ⟨r0, r1, r2, r3, r4, r5⟩ := hSw
    go_simp
    try exact rfl
  try simp only [Act.put, List.setIfInBounds_toArray, List.set_cons_zero, List.set_cons_succ]
  refine wpLate_take (i := 6) (oi := ?oi6) (v := ?v6) [9, 10, 11, 12, 13, 14, 15, 16] ?hi6 (by kernel_rfl) (by kernel_rfl) (by kernel_rfl) (by kernel_rfl) (by kernel_rfl) ?hQ6 (Or.inl ⟨?hw6, ?hy6⟩) KB.out ?rest6
  case hi6 => (simp only [List.getElem?_toArray, List.getElem?_cons_zero, List.getElem?_cons_succ]; rfl)
  case hQ6 => exact fun _ _ _ h => h
  case hw6 => rfl
  case hy6 =>
    intro w' hSw
    obtain ⟨r0, r1, r2, r3, r4, r5⟩ := hSw
    go_simp
    try exact rfl
  try simp only [Act.put, List.setIfInBounds_toArray, List.set_cons_zero, List.set_cons_succ]
  refine wpLate_take (i := 7) (oi := ?oi7) (v := ?v7) [8, 9, 10, 11, 12, 13, 14, 15, 16] ?hi7 (by kernel_rfl) (by kernel_rfl) (by kernel_rfl) (by kernel_rfl) (by kernel_rfl) ?hQ7 (Or.inl ⟨?hw7, ?hy7⟩) KB.out ?rest7
  case hi7 => (simp only [List.getElem?_toArray, List.getElem?_cons_zero, List.getElem?_cons_succ]; rfl)
  case hQ7 => exact fun _ _ _ h => h
  case hw7 => rfl
  case hy7 =>
    intro w' hSw
    obtain ⟨r0, r1, r2, r3, r4, r5⟩ := hSw
    go_simp
    try exact rfl
  try simp only [Act.put, List.setIfInBounds_toArray, List.set_cons_zero, List.set_cons_succ]
  refine wpLate_take (i := 8) (oi := ?oi8) (v := ?v8) [9, 10, 11, 12, 13, 14, 15, 16] ?hi8 (by kernel_rfl) (by kernel_rfl) (by kernel_rfl) (by kernel_rfl) (by kernel_rfl) ?hQ8 (Or.inl ⟨?hw8, ?hy8⟩) KB.out ?rest8
  case hi8 => (simp only [List.getElem?_toArray, List.getElem?_cons_zero, List.getElem?_cons_succ]; rfl)
  case hQ8 => exact fun _ _ _ h => h
  case hw8 => rfl
  case hy8 =>
    intro w' hSw
    obtain ⟨r0, r1, r2, r3, r4, r5⟩ := hSw
    go_simp
    try exact rfl
  try simp only [Act.put, List.setIfInBounds_toArray, List.set_cons_zero, List.set_cons_succ]
  refine wpLate_take (i := 9) (oi := ?oi9) (v := ?v9) [10, 11, 12, 13, 14, 15, 16] ?hi9 (by kernel_rfl) (by kernel_rfl) (by kernel_rfl) (by kernel_rfl) (by kernel_rfl) ?hQ9 (Or.inl ⟨?hw9, ?hy9⟩) KB.out ?rest9
  case hi9 => (simp only [List.getElem?_toArray, List.getElem?_cons_zero, List.getElem?_cons_succ]; rfl)
  case hQ9 => exact fun _ _ _ h => h
  case hw9 => rfl
  case hy9 =>
    intro w' hSw
    obtain ⟨r0, r1, r2, r3, r4, r5⟩ := hSw
    go_simp
    try exact rfl
  try simp only [Act.put, List.setIfInBounds_toArray, List.set_cons_zero, List.set_cons_succ]
  refine wpLate_take (i := 10) (oi := ?oi10) (v := ?v10) [11, 12, 13, 14, 15, 16] ?hi10 (by kernel_rfl) (by kernel_rfl) (by kernel_rfl) (by kernel_rfl) (by kernel_rfl) ?hQ10 (Or.inl ⟨?hw10, ?hy10⟩) KB.out ?rest10
  case hi10 => (simp only [List.getElem?_toArray, List.getElem?_cons_zero, List.getElem?_cons_succ]; rfl)
  case hQ10 => exact fun _ _ _ h => h
  case hw10 => rfl
  case hy10 =>
    intro w' hSw
    obtain ⟨r0, r1, r2, r3, r4, r5⟩ := hSw
    go_simp
    try exact rfl
  try simp only [Act.put, List.setIfInBounds_toArray, List.set_cons_zero, List.set_cons_succ]
  refine wpLate_one (i := 11) (o := ?o11) (by kernel_rfl) ?ho11 ?hk11
  case ho11 => (simp only [List.getElem?_toArray, List.getElem?_cons_zero, List.getElem?_cons_succ]; rfl)
  intro K hK
  go_simp
  refine (HT2.out _ (HK.ar' (HK.step K4.out (below_drew w4)))).mono ?_
  rintro r wb ⟨rfl, hbs⟩
  have K5 := Lib.hid (HK.step (HK.step K4.out (below_drew w4)) hbs)
  have KC : Hid (wb.cell? ⟨W.heap.size, 0, none⟩ = some (.int .i64 a.R) ∧ wb.cell? ⟨W.heap.size, 1, none⟩ = some (.slice (some ⟨g, o, none⟩) a.T.length ca) ∧ wb.cell? ⟨W.heap.size, 2, none⟩ = some (.slice B a.H.length cb) ∧ wb.cell? ⟨W.heap.size, 3, none⟩ = some (.int .i64 a.b0) ∧ wb.cell? ⟨W.heap.size, 4, none⟩ = some (.int .i64 a.b1) ∧ wb.cell? ⟨g, o + (a.T.length - 1), none⟩ = some (.int .i64 tl)) := ⟨K5.out.fa.cell 0, K5.out.fa.cell 1, K5.out.fa.cell 2, K5.out.fa.cell 3, K5.out.fa.cell 4, (hbs.cell (p := ⟨g, _, none⟩) hgs).trans d0⟩
  clear hbs
  refine hK.out _ _ (fun h => KC.out) ?_
  clear hK K
  refine wpLate_take (i := 12) (oi := ?oi12) (v := ?v12) [13, 14, 15, 16] ?hi12 (by kernel_rfl) (by kernel_rfl) (by kernel_rfl) (by kernel_rfl) (by kernel_rfl) ?hQ12 (Or.inl ⟨?hw12, ?hy12⟩) KC.out ?rest12
  case hi12 => (simp only [List.getElem?_toArray, List.getElem?_cons_zero, List.getElem?_cons_succ]; rfl)
  case hQ12 => exact fun _ _ _ h => h
  case hw12 => rfl
  case hy12 =>
    intro w' hSw
    obtain ⟨r0, r1, r2, r3, r4, r5⟩ := hSw
    go_simp
    try exact rfl
  try simp only [Act.put, List.setIfInBounds_toArray, List.set_cons_zero, List.set_cons_succ]
  refine wpLate_take (i := 13) (oi := ?oi13) (v := ?v13) [15, 16] ?hi13 (by kernel_rfl) (by kernel_rfl) (by kernel_rfl) (by kernel_rfl) (by kernel_rfl) ?hQ13 (Or.inl ⟨?hw13, ?hy13⟩) KC.out ?rest13
  case hi13 => (simp only [List.getElem?_toArray, List.getElem?_cons_zero, List.getElem?_cons_succ]; rfl)
  case hQ13 => exact fun _ _ _ h => h
  case hw13 => rfl
  case hy13 =>
    intro w' hSw
    obtain ⟨r0, r1, r2, r3, r4, r5⟩ := hSw
    go_simp
    try exact rfl
  try simp only [Act.put, List.setIfInBounds_toArray, List.set_cons_zero, List.set_cons_succ]
  refine wpLate_take (i := 14) (oi := ?oi14) (v := ?v14) [16] ?hi14 (by kernel_rfl) (by kernel_rfl) (by kernel_rfl) (by kernel_rfl) (by kernel_rfl) ?hQ14 (Or.inl ⟨?hw14, ?hy14⟩) KC.out ?rest14
  case hi14 => (simp only [List.getElem?_toArray, List.getElem?_cons_zero, List.getElem?_cons_succ]; rfl)
  case hQ14 => exact fun _ _ _ h => h
  case hw14 => rfl
  case hy14 =>
    intro w' hSw
    obtain ⟨r0, r1, r2, r3, r4, r5⟩ := hSw
    go_simp
    try exact rfl
  try simp only [Act.put, List.setIfInBounds_toArray, List.set_cons_zero, List.set_cons_succ]
  refine wpLate_one (i := 15) (o := ?o15) (by kernel_rfl) ?ho15 ?hk15
  case ho15 => (simp only [List.getElem?_toArray, List.getElem?_cons_zero, List.getElem?_cons_succ]; rfl)
  intro K hK
  go_simp
  refine hK.out _ _ (fun h => KC.out) ?_
  clear hK K
  try simp only [Act.put, List.setIfInBounds_toArray, List.set_cons_zero, List.set_cons_succ]
  refine wpLate_one (i := 16) (o := ?o16) (by kernel_rfl) ?ho16 ?hk16
  case ho16 => (simp only [List.getElem?_toArray, List.getElem?_cons_zero, List.getElem?_cons_succ]; rfl)
  intro K hK
  go_simp
  refine hK.out _ _ (fun h => KC.out) ?_
  clear hK K
  try simp only [Act.put, List.setIfInBounds_toArray, List.set_cons_zero, List.set_cons_succ]
  refine wpLate_done (by kernel_rfl) ?_ _
  try simp only [Act.put, List.setIfInBounds_toArray, List.set_cons_zero, List.set_cons_succ]
  have HNN := Lib.hid (show holdsP a t ≤ holdsP a tt ∧ a.R * a.H.getD 0 0 ≤ holdsP a t ∧ holdsP a t ≤ a.R * a.H.getD (a.T.length - 1) 0 ∧ holdsP a t % a.R = 0 ∧ 1 ≤ holdsP a t ∧ holdsP a t ≤ 274877906944 by
    have hu1 := unit_mono HV.out HO.out HO2.out HT1.out.1
    have hu2 := unit_bd HV.out HO.out
    have hR := HV.out.R
    have hb := holds_bd HV.out HO.out
    rw [holdsP_unit] at hb ⊢
    rw [holdsP_unit]
    refine ⟨Int.mul_le_mul_of_nonneg_right hu1 (by omega), ?_, ?_, Int.mul_emod_left _ _, hb⟩
    · rw [Int.mul_comm]; exact Int.mul_le_mul_of_nonneg_right hu2.1 (by omega)
    · rw [Int.mul_comm a.R]; exact Int.mul_le_mul_of_nonneg_right hu2.2.2.2 (by omega))
  clear c0 c1 c2 c3 c4 d0 hto htb htb2 e1 e2 e0 htt KB
  have KE := Lib.hid (K5.out.fa)
  obtain ⟨b0, b1, b2, b3, b4, -⟩ := KC.out
  obtain ⟨gH, oH, hB, hgH, x0⟩ := K5.out.ar.h 0 (by have := HV.out.l; omega)
  obtain ⟨g2, o2, hB2, -, x1⟩ := K5.out.ar.h (a.T.length - 1) (by have := HV.out.l; omega)
  subst hB
  simp only [Option.some.injEq, Addr.mk.injEq, and_true] at hB2
  obtain ⟨rfl, rfl⟩ := hB2
  have hx0 : a.H.getD 0 0 = a.H[0]'(by have := HV.out.l; omega) := getD_lt _
  have hx1 : a.H.getD (a.T.length - 1) 0 = a.H[a.T.length - 1]'(by have := HV.out.l; omega) := getD_lt _
  have hy0 := HV.out.h 0 (by omega)
  have hy1 := HV.out.h (a.T.length - 1) (by omega)
  rw [← hx0] at x0
  rw [← hx1] at x1
  rw [Nat.add_zero] at x0
  clear hx0 hx1
  obtain ⟨hA0, hh0⟩ : ∃ x, x = a.H.getD 0 0 := ⟨_, rfl⟩
  obtain ⟨hA1, hh1⟩ : ∃ x, x = a.H.getD (a.T.length - 1) 0 := ⟨_, rfl⟩
  have HNX := Lib.hid HNN.out
  obtain ⟨q1, q2, q3, q4, q5⟩ := HNN.out
  rw [← hh0] at x0 hy0 q2
  rw [← hh1] at x1 hy1 q3
  obtain ⟨nn, hnn⟩ : ∃ x, x = holdsP a t := ⟨_, rfl⟩
  obtain ⟨mm, hmm⟩ : ∃ x, x = holdsP a tt := ⟨_, rfl⟩
  have HNM := Lib.hid (And.intro hnn hmm)
  rw [← hnn] at q1 q2 q3 q4 q5 ⊢
  rw [← hmm] at q1 ⊢
  have hR := HV.out.R
  have p1 := prod_bd (x := a.R) (y := hA0) (m := 1048576) (n := 100000) (by omega) (by omega)
  have p2 := prod_bd (x := a.R) (y := hA1) (m := 1048576) (n := 100000) (by omega) (by omega)
  have e6 : IntKind.i64.wrap (a.R * hA0) = a.R * hA0 := IntWalk.i64_in _ (by omega)
  have e7 : IntKind.i64.wrap (a.R * hA1) = a.R * hA1 := IntWalk.i64_in _ (by omega)
  have e8 : nn.tmod a.R = 0 := by rw [Int.tmod_eq_emod_of_nonneg (by omega)]; exact q4
  have e9 : ¬ a.R = 0 := by omega
  have e10 : (a.T.length : Int) - 1 < a.H.length := by have := HV.out.l; omega
  have e11 : (0 : Int) < a.H.length := by omega
  have e12 : 0 < a.H.length := by omega
  have e13 : ((a.T.length : Int) - 1).toNat = a.T.length - 1 := by omega
  have g1 : decide (mm < nn) = false := decide_eq_false (by omega)
  have g2 : decide (nn < a.R * hA0) = false := decide_eq_false (by omega)
  have g3 : decide (a.R * hA1 < nn) = false := decide_eq_false (by omega)
  clear hnn hmm hh0 hh1 q4 KE HNN
  go_upto_region 10 with fail
  go_quiet (fail)
  have K6 := Lib.hid (HK.step K5.out (below_drN (Below.refl _ _) nq))
  have HFIN := Lib.hid (And.intro q1 (And.intro q2 (And.intro q3 q5)))
  have HRR := Lib.hid hR
  clear b0 b1 b2 b3 b4 x0 x1 e6 e7 e8 p1 p2 q1 q2 q3 hy0 hy1 KC e11 e10 e13 g1 g2 g3
  go_wp2_with fail
  generalize wb.drewN nq = wd at K6 ⊢
  go_loopg [12] a.T.length (fun gk i wr => ∃ k : Nat, k ≤ a.T.length ∧ a.T.length - k ≤ gk ∧ i = .int .i64 k ∧ Hid (HK W wr a (some ⟨g, o, none⟩) (some ⟨gH, oH, none⟩) ca cb))
  case atStart => exact ⟨0, Nat.zero_le _, Nat.le_refl _, rfl, K6⟩
  case round =>
    obtain ⟨k, hk, hgk, rfl, KR⟩ := hrel
    by_cases hlt : k < a.T.length
    · have hlt2 : (k : Int) ≤ (a.T.length : Int) - 1 := by omega
      have hlt3 : (k : Int) < a.T.length := by omega
      have hltH : (k : Int) < a.H.length := by have := HV.out.l; omega
      have hltn : k < a.H.length := by have := HV.out.l; omega
      have htk := getD_lt hlt
      have hhk := getD_lt hltn
      have hu := unit_at HV.out hlt
      have hon := on_at HV.out hlt
      have hyk := HV.out.h k hlt
      have HT3 := Lib.hid (fun w h => by
        have := HH2.out (a.T.getD k 0) w h
        rw [show holdsR a (a.T.getD k 0) = (a.R * a.H.getD k 0, 0) by unfold holdsR; rw [if_pos HVB.out, if_pos hon, holdsP_unit, hu, Int.mul_comm]] at this
        exact this)
      obtain ⟨tk, htk0⟩ : ∃ x, x = a.T.getD k 0 := ⟨_, rfl⟩
      obtain ⟨yk, hyk0⟩ : ∃ x, x = a.H.getD k 0 := ⟨_, rfl⟩
      rw [← htk0, ← hyk0] at HT3
      rw [← hyk0] at hyk
      have CELL : Hid (∀ w, HK W w a (some ⟨g, o, none⟩) (some ⟨gH, oH, none⟩) ca cb → (w.cell? ⟨W.heap.size, 0, none⟩ = some (.int .i64 a.R) ∧ w.cell? ⟨W.heap.size, 1, none⟩ = some (.slice (some ⟨g, o, none⟩) a.T.length ca) ∧ w.cell? ⟨W.heap.size, 2, none⟩ = some (.slice (some ⟨gH, oH, none⟩) a.H.length cb) ∧ w.cell? ⟨W.heap.size, 3, none⟩ = some (.int .i64 a.b0) ∧ w.cell? ⟨W.heap.size, 4, none⟩ = some (.int .i64 a.b1) ∧ w.cell? ⟨g, o + k, none⟩ = some (.int .i64 tk))) := fun w h => by
        obtain ⟨g2, o2, e, -, c⟩ := h.ar.t k hlt
        simp only [Option.some.injEq, Addr.mk.injEq, and_true] at e
        obtain ⟨rfl, rfl⟩ := e
        exact ⟨h.fa.cell 0, h.fa.cell 1, h.fa.cell 2, h.fa.cell 3, h.fa.cell 4, by rw [htk0, htk]; exact c⟩
      have CELLH : Hid (∀ w, HK W w a (some ⟨g, o, none⟩) (some ⟨gH, oH, none⟩) ca cb → w.cell? ⟨gH, oH + k, none⟩ = some (.int .i64 yk)) := fun w h => by
        obtain ⟨g2, o2, e, -, c⟩ := h.ar.h k hltn
        simp only [Option.some.injEq, Addr.mk.injEq, and_true] at e
        obtain ⟨rfl, rfl⟩ := e
        rw [hyk0, hhk]; exact c
      clear htk hhk hu hon htk0 hyk0
      go_upto_region 15 with fail
      have KW := Lib.hid (HK.step KR.out (below_drew wr))
      have KB := Lib.hid (CELL.out _ KW.out)
      refine wp_region_late (fun w' : World => w'.cell? ⟨W.heap.size, 0, none⟩ = some (.int .i64 a.R) ∧ w'.cell? ⟨W.heap.size, 1, none⟩ = some (.slice (some ⟨g, o, none⟩) a.T.length ca) ∧ w'.cell? ⟨W.heap.size, 2, none⟩ = some (.slice (some ⟨gH, oH, none⟩) a.H.length cb) ∧ w'.cell? ⟨W.heap.size, 3, none⟩ = some (.int .i64 a.b0) ∧ w'.cell? ⟨W.heap.size, 4, none⟩ = some (.int .i64 a.b1) ∧ w'.cell? ⟨g, o + k, none⟩ = some (.int .i64 tk)) [] (by kernel_rfl) ?_
      refine wpLate_take (i := 0) (oi := ?oi0z) (v := ?v0z) [6, 7, 8, 9, 10, 11] ?hi0z (by kernel_rfl) (by kernel_rfl) (by kernel_rfl) (by kernel_rfl) (by kernel_rfl) ?hQ0z (Or.inl ⟨?hw0z, ?hy0z⟩) KB.out ?rest0z
      case hi0z => (simp only [List.getElem?_toArray, List.getElem?_cons_zero]; rfl)
      case hQ0z => exact fun _ _ _ h => h
      case hw0z => rfl
      case hy0z =>
        intro w' hSw
        obtain ⟨r0, r1, r2, r3, r4, r5⟩ := hSw
        go_simp
        try exact rfl
      try simp only [Act.put, List.setIfInBounds_toArray, List.set_cons_zero, List.set_cons_succ]
      refine wpLate_take (i := 1) (oi := ?oi1z) (v := ?v1z) [2, 4, 5, 6, 7, 8, 9, 10, 11] ?hi1z (by kernel_rfl) (by kernel_rfl) (by kernel_rfl) (by kernel_rfl) (by kernel_rfl) ?hQ1z (Or.inl ⟨?hw1z, ?hy1z⟩) KB.out ?rest1z
      case hi1z => (simp only [List.getElem?_toArray, List.getElem?_cons_zero, List.getElem?_cons_succ]; rfl)
      case hQ1z => exact fun _ _ _ h => h
      case hw1z => rfl
      case hy1z =>
        intro w' hSw
        obtain ⟨r0, r1, r2, r3, r4, r5⟩ := hSw
        go_simp
        try exact rfl
      try simp only [Act.put, List.setIfInBounds_toArray, List.set_cons_zero, List.set_cons_succ]
      refine wpLate_take (i := 2) (oi := ?oi2z) (v := ?v2z) [4, 5, 6, 7, 8, 9, 10, 11] ?hi2z (by kernel_rfl) (by kernel_rfl) (by kernel_rfl) (by kernel_rfl) (by kernel_rfl) ?hQ2z (Or.inl ⟨?hw2z, ?hy2z⟩) KB.out ?rest2z
      case hi2z => (simp only [List.getElem?_toArray, List.getElem?_cons_zero, List.getElem?_cons_succ]; rfl)
      case hQ2z => exact fun _ _ _ h => h
      case hw2z => rfl
      case hy2z =>
        intro w' hSw
        obtain ⟨r0, r1, r2, r3, r4, r5⟩ := hSw
        go_simp
        try exact rfl
      try simp only [Act.put, List.setIfInBounds_toArray, List.set_cons_zero, List.set_cons_succ]
      refine wpLate_take (i := 3) (oi := ?oi3z) (v := ?v3z) [4, 5, 6, 7, 8, 9, 10, 11] ?hi3z (by kernel_rfl) (by kernel_rfl) (by kernel_rfl) (by kernel_rfl) (by kernel_rfl) ?hQ3z (Or.inl ⟨?hw3z, ?hy3z⟩) KB.out ?rest3z
      case hi3z => (simp only [List.getElem?_toArray, List.getElem?_cons_zero, List.getElem?_cons_succ]; rfl)
      case hQ3z => exact fun _ _ _ h => h
      case hw3z => rfl
      case hy3z =>
        intro w' hSw
        obtain ⟨r0, r1, r2, r3, r4, r5⟩ := hSw
        go_simp
        try exact rfl
      try simp only [Act.put, List.setIfInBounds_toArray, List.set_cons_zero, List.set_cons_succ]
      refine wpLate_take (i := 4) (oi := ?oi4z) (v := ?v4z) [5, 6, 7, 8, 9, 10, 11] ?hi4z (by kernel_rfl) (by kernel_rfl) (by kernel_rfl) (by kernel_rfl) (by kernel_rfl) ?hQ4z (Or.inl ⟨?hw4z, ?hy4z⟩) KB.out ?rest4z
      case hi4z => (simp only [List.getElem?_toArray, List.getElem?_cons_zero, List.getElem?_cons_succ]; rfl)
      case hQ4z => exact fun _ _ _ h => h
      case hw4z => rfl
      case hy4z =>
        intro w' hSw
        obtain ⟨r0, r1, r2, r3, r4, r5⟩ := hSw
        go_simp
        try exact rfl
      try simp only [Act.put, List.setIfInBounds_toArray, List.set_cons_zero, List.set_cons_succ]
      refine wpLate_take (i := 5) (oi := ?oi5z) (v := ?v5z) [6, 7, 8, 9, 10, 11] ?hi5z (by kernel_rfl) (by kernel_rfl) (by kernel_rfl) (by kernel_rfl) (by kernel_rfl) ?hQ5z (Or.inl ⟨?hw5z, ?hy5z⟩) KB.out ?rest5z
      case hi5z => (simp only [List.getElem?_toArray, List.getElem?_cons_zero, List.getElem?_cons_succ]; rfl)
      case hQ5z => exact fun _ _ _ h => h
      case hw5z => rfl
      case hy5z =>
        intro w' hSw
        obtain ⟨r0, r1, r2, r3, r4, r5⟩ := hSw
        go_simp
        try exact rfl
      try simp only [Act.put, List.setIfInBounds_toArray, List.set_cons_zero, List.set_cons_succ]
      refine wpLate_one (i := 6) (o := ?o6z) (by kernel_rfl) ?ho6z ?hk6z
      case ho6z => (simp only [List.getElem?_toArray, List.getElem?_cons_zero, List.getElem?_cons_succ]; rfl)
      intro K hK
      go_simp
      refine (HT3.out _ (HK.ar' KW.out)).mono ?_
      rintro r wc ⟨rfl, hbs⟩
      have KX := Lib.hid (HK.step KW.out hbs)
      have KD := Lib.hid (CELL.out wc KX.out)
      clear hbs
      refine hK.out _ _ (fun h => KD.out) ?_
      clear hK K
      refine wpLate_take (i := 7) (oi := ?oi7z) (v := ?v7z) [8, 9, 10, 11] ?hi7z (by kernel_rfl) (by kernel_rfl) (by kernel_rfl) (by kernel_rfl) (by kernel_rfl) ?hQ7z (Or.inl ⟨?hw7z, ?hy7z⟩) KD.out ?rest7z
      case hi7z => (simp only [List.getElem?_toArray, List.getElem?_cons_zero, List.getElem?_cons_succ]; rfl)
      case hQ7z => exact fun _ _ _ h => h
      case hw7z => rfl
      case hy7z =>
        intro w' hSw
        obtain ⟨r0, r1, r2, r3, r4, r5⟩ := hSw
        go_simp
        try exact rfl
      try simp only [Act.put, List.setIfInBounds_toArray, List.set_cons_zero, List.set_cons_succ]
      refine wpLate_take (i := 8) (oi := ?oi8z) (v := ?v8z) [10, 11] ?hi8z (by kernel_rfl) (by kernel_rfl) (by kernel_rfl) (by kernel_rfl) (by kernel_rfl) ?hQ8z (Or.inl ⟨?hw8z, ?hy8z⟩) KD.out ?rest8z
      case hi8z => (simp only [List.getElem?_toArray, List.getElem?_cons_zero, List.getElem?_cons_succ]; rfl)
      case hQ8z => exact fun _ _ _ h => h
      case hw8z => rfl
      case hy8z =>
        intro w' hSw
        obtain ⟨r0, r1, r2, r3, r4, r5⟩ := hSw
        go_simp
        try exact rfl
      try simp only [Act.put, List.setIfInBounds_toArray, List.set_cons_zero, List.set_cons_succ]
      refine wpLate_take (i := 9) (oi := ?oi9z) (v := ?v9z) [11] ?hi9z (by kernel_rfl) (by kernel_rfl) (by kernel_rfl) (by kernel_rfl) (by kernel_rfl) ?hQ9z (Or.inl ⟨?hw9z, ?hy9z⟩) KD.out ?rest9z
      case hi9z => (simp only [List.getElem?_toArray, List.getElem?_cons_zero, List.getElem?_cons_succ]; rfl)
      case hQ9z => exact fun _ _ _ h => h
      case hw9z => rfl
      case hy9z =>
        intro w' hSw
        obtain ⟨r0, r1, r2, r3, r4, r5⟩ := hSw
        go_simp
        try exact rfl
      try simp only [Act.put, List.setIfInBounds_toArray, List.set_cons_zero, List.set_cons_succ]
      refine wpLate_one (i := 10) (o := ?o10z) (by kernel_rfl) ?ho10z ?hk10z
      case ho10z => (simp only [List.getElem?_toArray, List.getElem?_cons_zero, List.getElem?_cons_succ]; rfl)
      intro K hK
      go_simp
      refine hK.out _ _ (fun h => KD.out) ?_
      clear hK K
      try simp only [Act.put, List.setIfInBounds_toArray, List.set_cons_zero, List.set_cons_succ]
      refine wpLate_one (i := 11) (o := ?o11z) (by kernel_rfl) ?ho11z ?hk11z
      case ho11z => (simp only [List.getElem?_toArray, List.getElem?_cons_zero, List.getElem?_cons_succ]; rfl)
      intro K hK
      go_simp
      refine hK.out _ _ (fun h => KD.out) ?_
      clear hK K
      try simp only [Act.put, List.setIfInBounds_toArray, List.set_cons_zero, List.set_cons_succ]
      refine wpLate_done (by kernel_rfl) ?_ _
      try simp only [Act.put, List.setIfInBounds_toArray, List.set_cons_zero, List.set_cons_succ]
      obtain ⟨b0, b1, b2, b3, b4, -⟩ := KD.out
      have x0 := CELLH.out wc KX.out
      have hR := HRR.out
      have p1 := prod_bd (x := a.R) (y := yk) (m := 1048576) (n := 100000) (by omega) (by omega)
      have e6 : IntKind.i64.wrap (a.R * yk) = a.R * yk := IntWalk.i64_in _ (by omega)
      clear p1 hR hyk
      go_upto_region 16 with fail
      go_quiet (fail)
      have KY := Lib.hid (HK.step KX.out (below_drN (Below.refl _ _) nq))
      clear b0 b1 b2 b3 b4 x0 e6
      go_wp2_with fail
      go_roundg (a.T.length - (k + 1))
      case measure => omega
      case rel => exact ⟨k + 1, by omega, Nat.le_refl _, by go_num, KY⟩
    · have hge : ¬ (k : Int) ≤ (a.T.length : Int) - 1 := by omega
      clear hlt hgk hk
      have b0 : wr.cell? ⟨W.heap.size, 0, none⟩ = some (.int .i64 a.R) := KR.out.fa.cell 0
      have hR := HRR.out
      by_cases hbig : 1048576 < 2 * a.R
      · go_wp2_with fail
        refine (HAw.out _).mono ?_
        rintro e w7 ⟨rfl, hb7⟩
        have K7 := Lib.hid (KR.out.step hb7)
        clear hb7
        go_wp2_with fail
        go_ret
        exact ⟨rfl, K7.out.b⟩
      · have bf := KR.out.fa.frozen 0
        have bl := KR.out.fa.lt
        obtain ⟨a2, ha2⟩ : ∃ a2 : Air, a2 = { a with R := 2 * a.R } := ⟨_, rfl⟩
        have KV : Hid (HK W (wr.setCell ⟨W.heap.size, 0, none⟩ (.int .i64 (2 * a.R))) a2 (some ⟨g, o, none⟩) (some ⟨gH, oH, none⟩) ca cb) := by
          subst ha2
          refine ⟨KR.out.b.setCell (by simp) _, KR.out.fa.set 0 _, ?_⟩
          have hbs : Below W.heap.size wr (wr.setCell ⟨W.heap.size, 0, none⟩ (.int .i64 (2 * a.R))) := (Below.refl _ _).setCell (by simp) _
          exact ⟨KR.out.ar.t.below hbs, KR.out.ar.h.below hbs, KR.out.ar.lt, KR.out.ar.lh⟩
        have HT4 := Lib.hid (fun (w : World) (h : AR w w.heap.size a2 (some ⟨g, o, none⟩) (some ⟨gH, oH, none⟩)) => by
          have hv2 : airB a2 = true := by
            rw [airB_iff, ha2]
            obtain ⟨v1, v2, v3, v4, v5, v6, v7⟩ := HV.out
            exact ⟨by simp only; omega, v2, v3, v4, v5, v6, v7⟩
          have hu2 : unitP a2 t = unitP a t := by rw [ha2]; rfl
          have ho2 : onB a2 t = true := by rw [ha2]; exact HO.out
          have := Holds_any a2 (some ⟨g, o, none⟩) (some ⟨gH, oH, none⟩) ca cb t w h
          rw [show holdsR a2 t = (2 * nn, 0) by
            unfold holdsR
            rw [if_pos hv2, if_pos ho2, holdsP_unit, hu2, HNM.out.1, holdsP_unit, ha2]
            simp only
            rw [Int.mul_comm 2 a.R, ← Int.mul_assoc, Int.mul_comm _ 2]] at this
          exact this)
        unfold airv at HT4
        have HA2 := Lib.hid ha2
        have hR2 : a2.R = 2 * a.R := by rw [ha2]
        have hT2 : a2.T = a.T := by rw [ha2]
        have hH2 : a2.H = a.H := by rw [ha2]
        have hb2 : a2.b0 = a.b0 ∧ a2.b1 = a.b1 := by rw [ha2]; exact ⟨rfl, rfl⟩
        have hnn2 := HFIN.out.2.2.2
        clear ha2
        go_upto_region 21 with fail
        generalize wr.setCell ⟨W.heap.size, 0, none⟩ (.int .i64 (2 * a.R)) = w7 at KV ⊢
        clear b0 bf bl
        have c0 : w7.cell? ⟨W.heap.size, 0, none⟩ = some (.int .i64 a2.R) := KV.out.fa.cell 0
        have c1 : w7.cell? ⟨W.heap.size, 1, none⟩ = some (.slice (some ⟨g, o, none⟩) a2.T.length ca) := KV.out.fa.cell 1
        have c2 : w7.cell? ⟨W.heap.size, 2, none⟩ = some (.slice (some ⟨gH, oH, none⟩) a2.H.length cb) := KV.out.fa.cell 2
        have c3 : w7.cell? ⟨W.heap.size, 3, none⟩ = some (.int .i64 a2.b0) := KV.out.fa.cell 3
        have c4 : w7.cell? ⟨W.heap.size, 4, none⟩ = some (.int .i64 a2.b1) := KV.out.fa.cell 4
        clear hR2 hT2 hH2 hb2
        go_wp2_with fail
        refine (HT4.out _ KV.out.ar').mono ?_
        rintro e w8 ⟨rfl, hb8⟩
        have K8 := Lib.hid (KV.out.step hb8)
        clear hb8 c0 c1 c2 c3 c4
        go_wp2_with fail
        refine (HAw.out _).mono ?_
        rintro e w9 ⟨rfl, hb9⟩
        have K9 := Lib.hid (K8.out.step hb9)
        clear hb9
        go_wp2_with fail
        go_ret
        exact ⟨rfl, K9.out.b⟩
end Go.Proofs.Ytdmpkeaanaoeaaa
