/- The document's Ranks. -/
import Derived.Test.YtmclchaalmonnaaRkA
import Derived.Test.YtmclchaalmonnaaMoB
namespace Go.Proofs.Ytmclchaalmonnaa
open Go.RowKit Go.Lib
attribute [local irreducible] wpQuiet
structure DR (W w : World) (D : Nat) (v : Value) (k : Nat) (rs : List Int) : Prop where
  b : Below W.heap.size W w
  own : w.ownsRow D 3 1 v k (ivl rs)
  hD : D ≤ w.heap.size
theorem DR.step {W w w' : World} {D k : Nat} {v : Value} {rs : List Int} (h : DR W w D v k rs) (hb : Below w.heap.size w w') : DR W w' D v k rs := ⟨h.b.trans (hb.mono h.b.size), own_step h.own hb, Nat.le_trans h.hD hb.size⟩
def cntR (l : List Sc) (x : Sc) (j : Nat) : Nat := (l.take j).countP fun o => betR o x
theorem cntR_succ {l : List Sc} {j : Nat} (h : j < l.length) (x : Sc) : cntR l x (j + 1) = cntR l x j + (if betR l[j] x then 1 else 0) := by
  unfold cntR
  rw [List.take_succ_eq_append_getElem h, List.countP_append]
  simp [List.countP_cons]
theorem cntR_le (l : List Sc) (x : Sc) (j : Nat) : cntR l x j ≤ j := Nat.le_trans List.countP_le_length (by rw [List.length_take]; omega)
theorem cntR_end {l : List Sc} {k : Nat} (h : k < l.length) (h' : k < (ranksP l).length) : (ranksP l)[k] = 1 + (cntR l l[k] l.length : Nat) := by
  simp only [ranksP, List.getElem_map, plP, cntR, List.take_length, List.countP_map]
  rfl
set_option maxRecDepth 100000 in
set_option maxHeartbeats 1000000 in
theorem Dranks_any (l : List Sc) (A : Option Addr) (k0 : Nat) (W : World) (ha : ScRow W W.heap.size A l) (hl : l.length ≤ big) :
    Calls Try.prog 20 #[.slice A l.length k0] W (RI2 (ranksR l) W) := by
  have HR : Hid (ranksR l = if 40 < l.length then ([], 3) else (ranksP l, 0)) := Lib.hid rfl
  have HA := Lib.hid ha
  have hl' : l.length ≤ 9223372036854775807 := hl
  obtain ⟨X, hX⟩ : ∃ X, X = ranksR l := ⟨_, rfl⟩
  rw [← hX] at HR ⊢
  clear ha hl hX
  by_cases h40 : 40 < l.length
  · have HE : Hid (X = ([], 3)) := Lib.hid (by rw [HR.out, if_pos h40])
    have h4 : (40 : Int) < l.length := by omega
    go_enter Try.func20, Try.ntmps20
    go_wp2_with fail
    refine bodyPost_ret (v := .tuple #[.slice none 0 0, .int .i64 3]) (by simp [results, Try.results20, go_sem]) rfl ?_
    exact ⟨none, 0, by rw [HE.out]; rfl, by rw [HE.out]; exact IRow.nil _ _ _, Below.refl _ _⟩
  have HE : Hid (X = (ranksP l, 0)) := Lib.hid (by rw [HR.out, if_neg h40])
  have h4 : ¬ (40 : Int) < l.length := by omega
  have HB := Lib.hid (fun (a b : Sc) w => Better_any a b w)
  unfold BoolPost scv at HB
  obtain ⟨i0, hi, hz0, hz1, hz2⟩ := info_parts Try.info3
  have HLN : Hid ((ranksP l).length = l.length) := Lib.hid (by simp [ranksP])
  clear HR
  go_enter Try.func20, Try.ntmps20
  go_wp2_with fail
  go_loopg [4, 5] l.length (fun gk u i wr => ∃ k : Nat, k ≤ l.length ∧ l.length - k ≤ gk ∧ i = .int .i64 k ∧ ∃ U cu, u = .slice U k cu ∧ Hid (DR W wr W.heap.size (.slice U k cu) k ((ranksP l).take k)))
  case atStart => exact ⟨0, Nat.zero_le _, Nat.le_refl _, rfl, none, 0, rfl, Lib.hid ⟨Below.refl _ _, own_nil _ _ _ _, Nat.le_refl _⟩⟩
  case round =>
    obtain ⟨k, hk, hgk, rfl, U, cu, rfl, HW⟩ := hrel
    by_cases hlt : k < l.length
    rotate_left
    · have hge : ¬ (k : Int) < l.length := by omega
      have HKE : Hid (k = (ranksP l).length) := Lib.hid (by have := HLN.out; omega)
      clear hk hgk hlt
      go_wp2_with fail
      try simp only [Exit.inBlock, Exit.then]
      refine bodyPost_ret (v := .tuple #[.slice U k cu, .int .i64 0]) (by simp [results, Try.results20, go_sem]) rfl ?_
      have hw := HW.out.own
      have hke := HKE.out
      subst hke
      rw [List.take_length] at hw
      obtain ⟨A', cap', e', ha⟩ := own_ira hw
      cases e'
      exact ⟨_, _, by rw [HE.out], by rw [HE.out]; exact (ha none (fun _ h => by cases h)).row, HW.out.b⟩
    have hlt2 : (k : Int) < l.length := by omega
    have hkv : k < (ranksP l).length := by rw [HLN.out]; exact hlt
    have HX : Hid ((ranksP l).take (k + 1) = (ranksP l).take k ++ [((1 + cntR l l[k] l.length : Nat) : Int)]) := Lib.hid (by rw [List.take_succ_eq_append_getElem hkv, cntR_end hlt]; simp)
    obtain ⟨g, o, hA, hg, hcx⟩ := HA.out k hlt
    have HXC : Hid (∀ w, Below W.heap.size W w → ∀ f, f < 4 → w.cell? ⟨g, o + k * 4 + f, none⟩ = (scc l[k])[f]?) := Lib.hid fun w hb f hf => (hb.cell (p := ⟨g, _, none⟩) hg).trans (hcx f hf)
    have HYC : Hid (∀ j (hj : j < l.length) w, Below W.heap.size W w → ∀ f, f < 4 → w.cell? ⟨g, o + j * 4 + f, none⟩ = (scc l[j])[f]?) := Lib.hid fun j hj w hb f hf => by
      obtain ⟨g', o', hA', hg', hc'⟩ := HA.out j hj
      rw [hA] at hA'
      cases hA'
      exact (hb.cell (p := ⟨g, _, none⟩) hg').trans (hc' f hf)
    obtain ⟨x, hx⟩ : ∃ x, x = l[k] := ⟨_, rfl⟩
    rw [← hx] at HX HXC
    have H0 := Lib.hid HW.out
    subst hA
    clear hx hcx hkv HW HA
    go_wp2_with fail
    go_loopg [6, 7] l.length (fun gk n i wr => ∃ j : Nat, j ≤ l.length ∧ l.length - j ≤ gk ∧ i = .int .i64 j ∧ n = .int .i64 (1 + cntR l x j : Nat) ∧ Hid (DR W wr W.heap.size (.slice U k cu) k ((ranksP l).take k)))
    case atStart => exact ⟨0, Nat.zero_le _, Nat.le_refl _, rfl, rfl, H0⟩
    case round =>
      clear H0
      obtain ⟨j, hj, hgj, rfl, rfl, HW⟩ := hrel
      by_cases hjl : j < l.length
      rotate_left
      · have hge : ¬ (j : Int) < l.length := by omega
        have HNE : Hid (cntR l x j = cntR l x l.length) := Lib.hid (by rw [show j = l.length by omega])
        have hcl := cntR_le l x j
        obtain ⟨n, hn⟩ : ∃ n, n = 1 + cntR l x j := ⟨_, rfl⟩
        rw [← hn]
        have hn41 : n ≤ 41 := by omega
        have HNX : Hid ((ranksP l).take (k + 1) = (ranksP l).take k ++ [(n : Int)]) := Lib.hid (by rw [HX.out, hn, HNE.out])
        have HOW : Hid ((wr.alloc (.cells #[.int .i64 n] 3)).ownsRow W.heap.size 3 1 (.slice U k cu) k (ivl ((ranksP l).take k))) := Lib.hid (own_step HW.out.own (below_one _ _))
        have HNEW : Hid (∀ j u, (ivl [(n : Int)])[j]? = some u → (wr.alloc (.cells #[.int .i64 n] 3)).cell? ((⟨wr.heap.size, 0, none⟩ : Addr).add j) = some u) := Lib.hid fun j u hu => by
          have hj : j < 1 := by have := (List.getElem?_eq_some_iff.1 hu).1; simpa [ivl] using this
          obtain rfl : j = 0 := by omega
          rw [addr_add, (Has.new wr 3 #[.int .i64 n]).cell]
          simpa [ivl] using hu
        clear hn hcl HX HNE HXC HYC HB
        go_wp2_with (at_builtin; refine wpList_append_lies _ rfl _ _ 22 rfl W.heap.size 3 i0 (.int .i64 0) 1 8 Try.underlying22 hi hz0 hz1 hz2 rfl (by decide) (.slice U k cu) k (ivl ((ranksP l).take k)) rfl HOW.out ⟨wr.heap.size, 0, none⟩ 1 1 (ivl [(n : Int)]) rfl ?q1 HNEW.out (ivl_one _) ?q2 ?q3 ?q4 ?q5 _ rfl ?_)
        case q1 => rfl
        case q3 => unfold maxLen; omega
        case q4 => omega
        case q5 => have := HW.out.hD; simp; omega
        rintro g1 cap1 w5 hown1 hgr1 hgg1 hlt1
        have hb5 : Below W.heap.size (wr.alloc (.cells #[.int .i64 n] 3)) w5 := grown_step hgr1 (by have := HW.out.hD; simp; omega) (fun b hb => (own_block HOW.out b hb).1)
        have H5 : Hid (DR W w5 W.heap.size (.slice (some ⟨g1, 0, none⟩) (k + 1) cap1) (k + 1) ((ranksP l).take (k + 1))) := Lib.hid (by
          have h2 : Below W.heap.size wr w5 := ((below_one _ _).mono HW.out.hD).trans hb5
          refine ⟨HW.out.b.trans h2, ?_, by have := h2.size; have := HW.out.hD; omega⟩
          rw [HNX.out, show ivl ((ranksP l).take k ++ [(n : Int)]) = ivl ((ranksP l).take k) ++ ivl [(n : Int)] by simp [ivl]]
          exact hown1)
        clear hb5 hown1 hgr1 hgg1 hlt1 HOW HNEW HW HNX
        go_wp2_with fail
        go_roundg (l.length - (k + 1))
        case measure => omega
        case rel => exact ⟨k + 1, by omega, Nat.le_refl _, by go_num, some ⟨g1, 0, none⟩, cap1, rfl, H5⟩
      · have hjl2 : (j : Int) < l.length := by omega
        have HN := Lib.hid (cntR_succ hjl x)
        have hcl := cntR_le l x j
        have HYJ := Lib.hid (HYC.out j hjl)
        have HBT0 := Lib.hid (fun w => HB.out l[j] x w)
        obtain ⟨y, hy⟩ : ∃ y, y = l[j] := ⟨_, rfl⟩
        rw [← hy] at HN HYJ HBT0
        obtain ⟨b, hb⟩ : ∃ b, b = betR y x := ⟨_, rfl⟩
        rw [← hb] at HN HBT0
        obtain ⟨n, hn⟩ : ∃ n, n = cntR l x j := ⟨_, rfl⟩
        rw [← hn] at HN hcl ⊢
        have HBT := HBT0
        have CS : Hid (∀ w', Below W.heap.size W w' → w'.cell? ⟨g, o + j * 4, none⟩ = some (.int .i64 y.elements) ∧ w'.cell? ⟨g, o + j * 4 + 1, none⟩ = some (.int .i64 y.parts) ∧ w'.cell? ⟨g, o + j * 4 + 2, none⟩ = some (.int .i64 y.off) ∧ w'.cell? ⟨g, o + j * 4 + 3, none⟩ = some (.int .i64 y.total) ∧ w'.cell? ⟨g, o + k * 4, none⟩ = some (.int .i64 x.elements) ∧ w'.cell? ⟨g, o + k * 4 + 1, none⟩ = some (.int .i64 x.parts) ∧ w'.cell? ⟨g, o + k * 4 + 2, none⟩ = some (.int .i64 x.off) ∧ w'.cell? ⟨g, o + k * 4 + 3, none⟩ = some (.int .i64 x.total)) := Lib.hid fun w' h => ⟨HYJ.out w' h 0 (by omega), HYJ.out w' h 1 (by omega), HYJ.out w' h 2 (by omega), HYJ.out w' h 3 (by omega), HXC.out w' h 0 (by omega), HXC.out w' h 1 (by omega), HXC.out w' h 2 (by omega), HXC.out w' h 3 (by omega)⟩
        clear hy hb hn HBT0 HYJ HXC HYC HB HX
        dsimp only [scc] at HBT
        go_upto_region 11 with fail
        have H5 := Lib.hid (HW.out.step ((Below.refl _ _).drew))
        have K5 := Lib.hid (CS.out _ H5.out.b)
        clear HW
        refine wp_region_late (fun w' : World => w'.cell? ⟨g, o + j * 4, none⟩ = some (.int .i64 y.elements) ∧ w'.cell? ⟨g, o + j * 4 + 1, none⟩ = some (.int .i64 y.parts) ∧ w'.cell? ⟨g, o + j * 4 + 2, none⟩ = some (.int .i64 y.off) ∧ w'.cell? ⟨g, o + j * 4 + 3, none⟩ = some (.int .i64 y.total) ∧ w'.cell? ⟨g, o + k * 4, none⟩ = some (.int .i64 x.elements) ∧ w'.cell? ⟨g, o + k * 4 + 1, none⟩ = some (.int .i64 x.parts) ∧ w'.cell? ⟨g, o + k * 4 + 2, none⟩ = some (.int .i64 x.off) ∧ w'.cell? ⟨g, o + k * 4 + 3, none⟩ = some (.int .i64 x.total)) [] (by kernel_rfl) ?_
        generalize wr.drew = w5 at H5 K5 ⊢
        refine wpLate_take (i := 0) (oi := ?oi0r11_) (v := ?v0r11_) [2, 3, 8] ?hi0r11_ (by kernel_rfl) (by kernel_rfl) (by kernel_rfl) (by kernel_rfl) (by kernel_rfl) ?hQ0r11_ (Or.inl ⟨?hw0r11_, ?hy0r11_⟩) K5.out ?rest0r11_
        case hi0r11_ => (simp only [List.getElem?_toArray, List.getElem?_cons_zero]; rfl)
        case hQ0r11_ => exact fun _ _ _ h => h
        case hw0r11_ => rfl
        case hy0r11_ =>
          intro w' hSw
          obtain ⟨r0, r1, r2, r3, r4, r5, r6, r7⟩ := hSw
          go_simp
          try exact rfl
        try simp only [Act.put, List.setIfInBounds_toArray, List.set_cons_zero, List.set_cons_succ]
        refine wpLate_take (i := 1) (oi := ?oi1r11_) (v := ?v1r11_) [2, 3, 8] ?hi1r11_ (by kernel_rfl) (by kernel_rfl) (by kernel_rfl) (by kernel_rfl) (by kernel_rfl) ?hQ1r11_ (Or.inl ⟨?hw1r11_, ?hy1r11_⟩) K5.out ?rest1r11_
        case hi1r11_ => (simp only [List.getElem?_toArray, List.getElem?_cons_zero, List.getElem?_cons_succ]; rfl)
        case hQ1r11_ => exact fun _ _ _ h => h
        case hw1r11_ => rfl
        case hy1r11_ =>
          intro w' hSw
          obtain ⟨r0, r1, r2, r3, r4, r5, r6, r7⟩ := hSw
          go_simp
          try exact rfl
        try simp only [Act.put, List.setIfInBounds_toArray, List.set_cons_zero, List.set_cons_succ]
        refine wpLate_take (i := 2) (oi := ?oi2r11_) (v := ?v2r11_) [3, 8] ?hi2r11_ (by kernel_rfl) (by kernel_rfl) (by kernel_rfl) (by kernel_rfl) (by kernel_rfl) ?hQ2r11_ (Or.inl ⟨?hw2r11_, ?hy2r11_⟩) K5.out ?rest2r11_
        case hi2r11_ => (simp only [List.getElem?_toArray, List.getElem?_cons_zero, List.getElem?_cons_succ]; rfl)
        case hQ2r11_ => exact fun _ _ _ h => h
        case hw2r11_ => rfl
        case hy2r11_ =>
          intro w' hSw
          obtain ⟨r0, r1, r2, r3, r4, r5, r6, r7⟩ := hSw
          go_simp
          try exact rfl
        try simp only [Act.put, List.setIfInBounds_toArray, List.set_cons_zero, List.set_cons_succ]
        refine wpLate_take (i := 3) (oi := ?oi3r11_) (v := ?v3r11_) [8] ?hi3r11_ (by kernel_rfl) (by kernel_rfl) (by kernel_rfl) (by kernel_rfl) (by kernel_rfl) ?hQ3r11_ (Or.inl ⟨?hw3r11_, ?hy3r11_⟩) K5.out ?rest3r11_
        case hi3r11_ => (simp only [List.getElem?_toArray, List.getElem?_cons_zero, List.getElem?_cons_succ]; rfl)
        case hQ3r11_ => exact fun _ _ _ h => h
        case hw3r11_ => rfl
        case hy3r11_ =>
          intro w' hSw
          obtain ⟨r0, r1, r2, r3, r4, r5, r6, r7⟩ := hSw
          go_simp
          try exact rfl
        try simp only [Act.put, List.setIfInBounds_toArray, List.set_cons_zero, List.set_cons_succ]
        refine wpLate_take (i := 4) (oi := ?oi4r11_) (v := ?v4r11_) [6, 7, 8] ?hi4r11_ (by kernel_rfl) (by kernel_rfl) (by kernel_rfl) (by kernel_rfl) (by kernel_rfl) ?hQ4r11_ (Or.inl ⟨?hw4r11_, ?hy4r11_⟩) K5.out ?rest4r11_
        case hi4r11_ => (simp only [List.getElem?_toArray, List.getElem?_cons_zero, List.getElem?_cons_succ]; rfl)
        case hQ4r11_ => exact fun _ _ _ h => h
        case hw4r11_ => rfl
        case hy4r11_ =>
          intro w' hSw
          obtain ⟨r0, r1, r2, r3, r4, r5, r6, r7⟩ := hSw
          go_simp
          try exact rfl
        try simp only [Act.put, List.setIfInBounds_toArray, List.set_cons_zero, List.set_cons_succ]
        refine wpLate_take (i := 5) (oi := ?oi5r11_) (v := ?v5r11_) [6, 7, 8] ?hi5r11_ (by kernel_rfl) (by kernel_rfl) (by kernel_rfl) (by kernel_rfl) (by kernel_rfl) ?hQ5r11_ (Or.inl ⟨?hw5r11_, ?hy5r11_⟩) K5.out ?rest5r11_
        case hi5r11_ => (simp only [List.getElem?_toArray, List.getElem?_cons_zero, List.getElem?_cons_succ]; rfl)
        case hQ5r11_ => exact fun _ _ _ h => h
        case hw5r11_ => rfl
        case hy5r11_ =>
          intro w' hSw
          obtain ⟨r0, r1, r2, r3, r4, r5, r6, r7⟩ := hSw
          go_simp
          try exact rfl
        try simp only [Act.put, List.setIfInBounds_toArray, List.set_cons_zero, List.set_cons_succ]
        refine wpLate_take (i := 6) (oi := ?oi6r11_) (v := ?v6r11_) [7, 8] ?hi6r11_ (by kernel_rfl) (by kernel_rfl) (by kernel_rfl) (by kernel_rfl) (by kernel_rfl) ?hQ6r11_ (Or.inl ⟨?hw6r11_, ?hy6r11_⟩) K5.out ?rest6r11_
        case hi6r11_ => (simp only [List.getElem?_toArray, List.getElem?_cons_zero, List.getElem?_cons_succ]; rfl)
        case hQ6r11_ => exact fun _ _ _ h => h
        case hw6r11_ => rfl
        case hy6r11_ =>
          intro w' hSw
          obtain ⟨r0, r1, r2, r3, r4, r5, r6, r7⟩ := hSw
          go_simp
          try exact rfl
        try simp only [Act.put, List.setIfInBounds_toArray, List.set_cons_zero, List.set_cons_succ]
        refine wpLate_take (i := 7) (oi := ?oi7r11_) (v := ?v7r11_) [8] ?hi7r11_ (by kernel_rfl) (by kernel_rfl) (by kernel_rfl) (by kernel_rfl) (by kernel_rfl) ?hQ7r11_ (Or.inl ⟨?hw7r11_, ?hy7r11_⟩) K5.out ?rest7r11_
        case hi7r11_ => (simp only [List.getElem?_toArray, List.getElem?_cons_zero, List.getElem?_cons_succ]; rfl)
        case hQ7r11_ => exact fun _ _ _ h => h
        case hw7r11_ => rfl
        case hy7r11_ =>
          intro w' hSw
          obtain ⟨r0, r1, r2, r3, r4, r5, r6, r7⟩ := hSw
          go_simp
          try exact rfl
        try simp only [Act.put, List.setIfInBounds_toArray, List.set_cons_zero, List.set_cons_succ]
        refine wpLate_one (i := 8) (o := ?o8r11_) (by kernel_rfl) ?ho8r11_ ?hk8r11_
        case ho8r11_ => (simp only [List.getElem?_toArray, List.getElem?_cons_zero, List.getElem?_cons_succ]; rfl)
        intro K hK
        go_simp
        refine (HBT.out _).mono ?_
        rintro e W6 ⟨rfl, hb⟩
        have H6 := Lib.hid (H5.out.step hb)
        have K6 := Lib.hid (CS.out _ H6.out.b)
        clear hb H5 K5
        go_simp
        refine hK.out _ _ (fun h => K6.out) ?_
        clear hK K
        try simp only [Act.put, List.setIfInBounds_toArray, List.set_cons_zero, List.set_cons_succ]
        refine wpLate_done (by kernel_rfl) ?_ _
        try simp only [Act.put, List.setIfInBounds_toArray, List.set_cons_zero, List.set_cons_succ]
        clear K6 CS
        cases b
        · go_wp2_with fail
          go_roundg (l.length - (j + 1))
          case measure => omega
          case rel => exact ⟨j + 1, by omega, Nat.le_refl _, by go_num, by rw [HN.out]; rfl, H6⟩
        · go_wp2_with fail
          go_roundg (l.length - (j + 1))
          case measure => omega
          case rel => exact ⟨j + 1, by omega, Nat.le_refl _, by go_num, by rw [HN.out]; go_num, H6⟩
end Go.Proofs.Ytmclchaalmonnaa
