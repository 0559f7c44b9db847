/- Contracts: marked. -/
import Derived.Test.YtmclchaalmonnaaScS
namespace Go.Proofs.Ytmclchaalmonnaa
open Go.RowKit Go.Lib
attribute [local irreducible] wpQuiet
theorem res72 {w : World} {D : Nat} {a b c : Value} {tmps : Array Value} (h : Has w D 28 #[a, b, c]) (h4 : tmps[8]?.getD undef = .pointer (some ⟨D, 0, none⟩)) :
    (results Try.f72 tmps).run Try.prog w = .ok (.agg #[a, b, c]) w := by
  have c0 := h.cell 0; have c1 := h.cell 1; have c2 := h.cell 2
  simp at c0 c1 c2
  simp [results, Try.results72, go_sem, h4, c0, c1, c2]
/-- a skating, anew -/
def MkPost (s : Sk) (W : World) (e : Ending) (W' : World) : Prop := ∃ AC AP cc cp, e = .returned (skv s AC AP cc cp) ∧ SkR W' W'.heap.size s AC AP ∧ Below W.heap.size W W'
theorem MB.skr {W w w' : World} {s s' : Sk} {A1 A2 : Option Addr} {c1 c2 g h n np : Nat} {E : List En} {P : List Pe} (m : MB W w s A1 A2 c1 c2 g h n np E P) (hcn : s'.calls.length = n) (hpn : s'.parts.length = np) (hE : E.map (·.c) = s'.calls) (hP : P.map (·.m) = s'.parts)
    (hcell : ∀ b i, b ≠ W.heap.size + 1 → w'.cell? ⟨b, i, none⟩ = w.cell? ⟨b, i, none⟩) (hsz : w'.heap.size = w.heap.size)
    (hc : s'.calls.length ≤ big) (hp : s'.parts.length ≤ big) (hcm : ∀ c ∈ s'.calls, c.marks.length ≤ big) (hpm : ∀ m ∈ s'.parts, m.length ≤ big) : SkR w' w'.heap.size s' A1 A2 := by
  have hrow : ∀ A l, RowF w g h (W.heap.size + 1) A l → IRow w' w'.heap.size A l := fun A l r k hk => by
    obtain ⟨b, o, e, h1, -, -, h2, h3⟩ := r k hk
    exact ⟨b, o, e, by omega, (hcell b _ h2).trans h3⟩
  refine ⟨fun k hk => ?_, fun k hk => ?_, hc, hp⟩
  · obtain ⟨a, b, cur, c, d⟩ := m.ge (by omega)
    have hkE : k < E.length := by rw [m.le]; omega
    have hEk : E[k].c = s'.calls[k] := by
      have : (E.map (·.c))[k]? = s'.calls[k]? := by rw [hE]
      rw [List.getElem?_eq_getElem (by simpa using hkE), List.getElem?_eq_getElem hk] at this
      simpa using this
    refine ⟨g, 0, E[k].M, E[k].m, a, by have := m.lo.1; omega, fun j hj => ?_, by rw [← hEk]; exact hrow _ _ (m.re _ (List.getElem_mem hkE)), hcm _ (List.getElem_mem hk)⟩
    rw [hcell _ _ (by omega), c.cell, Nat.zero_add]
    have h1 := flat_get enc6 6 enc6_len E k hkE j hj
    have h2 : (fl6 E)[k * 6 + j]? = (enc6 E[k])[j]? := h1
    rw [← d, List.getElem?_take_of_lt (by omega)] at h2
    rw [← hEk]
    have h3 : cur[k * 6 + j]? = (enc6 E[k])[j]? := by simpa using h2
    rw [h3]
    simp [enc6]
  · obtain ⟨a, b, cur, c, d⟩ := m.he (by omega)
    have hkP : k < P.length := by rw [m.lp]; omega
    have hPk : P[k].m = s'.parts[k] := by
      have : (P.map (·.m))[k]? = s'.parts[k]? := by rw [hP]
      rw [List.getElem?_eq_getElem (by simpa using hkP), List.getElem?_eq_getElem hk] at this
      simpa using this
    refine ⟨h, 0, P[k].M, P[k].k, a, by have := m.lo.2; omega, ?_, by rw [← hPk]; exact hrow _ _ (m.rp _ (List.getElem_mem hkP)), hpm _ (List.getElem_mem hk)⟩
    rw [hcell _ _ (by omega), c.cell, Nat.zero_add]
    have h1 := flat_get enc1 1 (fun _ => rfl) P k hkP 0 (by omega)
    have h2 : (fl1 P)[k * 1 + 0]? = (enc1 P[k])[0]? := h1
    rw [← d, List.getElem?_take_of_lt (by omega)] at h2
    rw [← hPk]
    have h3 : cur[k]? = (enc1 P[k])[0]? := by simpa using h2
    rw [h3]
    simp [enc1]
theorem rep_far {w w' : World} {g h z : Nat} {l : List Int} {j R : Nat} {q : Int} {cur : Array Value} (hlo : g < w.heap.size ∧ h < w.heap.size) (hz : z < w.heap.size) (hR : w.heap.size ≤ R) (hh : Has w' R 3 cur) (hc : ∀ k (h : k < (l.set j q).length), cur[k]? = some (.int .i64 (l.set j q)[k])) : RowF w' g h z (some ⟨R, 0, none⟩) (l.set j q) := fun k hk =>
  ⟨R, 0, rfl, hh.lt, by omega, by omega, by omega, by rw [hh.cell, Nat.zero_add]; exact hc k hk⟩
theorem MB.put {W w : World} {s : Sk} {A1 A2 : Option Addr} {c1 c2 g h n np : Nat} {E : List En} {P : List Pe} (m : MB W w s A1 A2 c1 c2 g h n np E P) (a : Option Addr) (b c : Nat) (d : Option Addr) (e f : Nat) (o : Int) :
    Has (((w.setCell ⟨W.heap.size + 1, 0, none⟩ (.slice a b c)).setCell ⟨W.heap.size + 1, 1, none⟩ (.slice d e f)).setCell ⟨W.heap.size + 1, 2, none⟩ (.int .i64 o)) (W.heap.size + 1) 28 #[.slice a b c, .slice d e f, .int .i64 o] ∧ Below W.heap.size W (((w.setCell ⟨W.heap.size + 1, 0, none⟩ (.slice a b c)).setCell ⟨W.heap.size + 1, 1, none⟩ (.slice d e f)).setCell ⟨W.heap.size + 1, 2, none⟩ (.int .i64 o)) ∧ True := by
  have h1 := m.fx.set 0 (.slice a b c)
  have h2 := h1.set 1 (.slice d e f)
  exact ⟨h2.set 2 (.int .i64 o), ((m.b.setCell (by simp) _).setCell (by simp) _).setCell (by simp) _, trivial⟩
theorem mb_start {W w1 W2 W3 : World} {s : Sk} {AC AP A1 A2 : Option Addr} {cc cp c1 c2 n np : Nat} {E : List En} {P : List Pe} (b : Below W.heap.size W W3) (fs : Has W3 W.heap.size 28 (skc s AC AP cc cp)) (fx : Has W3 (W.heap.size + 1) 28 #[.slice none 0 0, .slice none 0 0, .int .i64 0])
    (h12 : w1.heap.size ≤ W2.heap.size) (h1 : W.heap.size + 1 < w1.heap.size) (hb3 : Below W2.heap.size W2 W3)
    (hc1 : 0 < n → ∃ g cur, A1 = some ⟨g, 0, none⟩ ∧ w1.heap.size ≤ g ∧ Has W2 g 52 cur ∧ cur.toList.take (n * 6) = fl6 E) (hc2 : 0 < np → ∃ h cur, A2 = some ⟨h, 0, none⟩ ∧ W2.heap.size ≤ h ∧ Has W3 h 22 cur ∧ cur.toList.take (np * 1) = fl1 P)
    (hE : ∀ e ∈ E, IRow W W.heap.size e.M e.c.marks) (hP : ∀ p ∈ P, IRow W W.heap.size p.M p.m) (le : E.length = n) (lp : P.length = np) :
    ∃ g h, MB W ((W3.setCell ⟨W.heap.size, 0, none⟩ (.slice A1 n c1)).setCell ⟨W.heap.size, 1, none⟩ (.slice A2 np c2)) s A1 A2 c1 c2 g h n np E P := by
  obtain ⟨g, hg0, hgl, hge⟩ : ∃ g, W.heap.size ≤ g ∧ g < W2.heap.size ∧ (0 < n → A1 = some ⟨g, 0, none⟩ ∧ w1.heap.size ≤ g ∧ ∃ cur, Has W2 g 52 cur ∧ cur.toList.take (n * 6) = fl6 E) := by
    rcases Nat.eq_zero_or_pos n with h0 | h0
    · exact ⟨W.heap.size, Nat.le_refl _, by omega, fun h => by omega⟩
    · obtain ⟨g, cur, a, b', c, d⟩ := hc1 h0
      exact ⟨g, by omega, c.lt, fun _ => ⟨a, b', cur, c, d⟩⟩
  obtain ⟨h, hh0, hhl, hhe⟩ : ∃ h, W.heap.size ≤ h ∧ h < W3.heap.size ∧ (0 < np → A2 = some ⟨h, 0, none⟩ ∧ W2.heap.size ≤ h ∧ ∃ cur, Has W3 h 22 cur ∧ cur.toList.take (np * 1) = fl1 P) := by
    rcases Nat.eq_zero_or_pos np with h0 | h0
    · exact ⟨W.heap.size, Nat.le_refl _, fs.lt, fun h => by omega⟩
    · obtain ⟨h, cur, a, b', c, d⟩ := hc2 h0
      exact ⟨h, by omega, c.lt, fun _ => ⟨a, b', cur, c, d⟩⟩
  have hsz : ((W3.setCell ⟨W.heap.size, 0, none⟩ (.slice A1 n c1)).setCell ⟨W.heap.size, 1, none⟩ (.slice A2 np c2)).heap.size = W3.heap.size := by simp [World.setCell]
  have hbb : Below W.heap.size W ((W3.setCell ⟨W.heap.size, 0, none⟩ (.slice A1 n c1)).setCell ⟨W.heap.size, 1, none⟩ (.slice A2 np c2)) := (b.setCell (by simp) _).setCell (by simp) _
  have hrow : ∀ (A : Option Addr) (l : List Int), IRow W W.heap.size A l → RowF ((W3.setCell ⟨W.heap.size, 0, none⟩ (.slice A1 n c1)).setCell ⟨W.heap.size, 1, none⟩ (.slice A2 np c2)) g h (W.heap.size + 1) A l := fun A l hr k hk => by
    obtain ⟨x, o, e, h2, h3⟩ := (hr.below hbb) k hk
    exact ⟨x, o, e, by rw [hsz]; have := b.size; omega, by omega, by omega, by omega, h3⟩
  refine ⟨g, h, hbb, ?_, (fx.far (by simp) _).far (by simp) _, le, lp, fun h0 => ?_, fun h0 => ?_, fun h0 h0' => ?_, by rw [hsz]; exact ⟨by have := hb3.size; omega, hhl⟩, fun e he => hrow _ _ (hE e he), fun p hp => hrow _ _ (hP p hp)⟩
  · exact (fs.set 0 (.slice A1 n c1)).set 1 (.slice A2 np c2)
  · obtain ⟨a, b', cur, c, d⟩ := hge h0
    exact ⟨a, by omega, cur, ((c.below hb3 c.lt).far (by simp only; omega) _).far (by simp only; omega) _, d⟩
  · obtain ⟨a, b', cur, c, d⟩ := hhe h0
    exact ⟨a, by omega, cur, (c.far (by simp only; omega) _).far (by simp only; omega) _, d⟩
  · obtain ⟨a, b', cur, c, d⟩ := hhe h0'
    omega
set_option maxRecDepth 100000 in
set_option maxHeartbeats 1000000 in
theorem marked_any (s : Sk) (AC AP : Option Addr) (cc cp j : Nat) (gr qu : Int) (W : World) (hs : SkR W W.heap.size s AC AP) (hn : s.calls.length ≤ 1000) (hnp : s.parts.length ≤ 1000) (hj : ∀ c ∈ s.calls, j < c.marks.length ∧ c.marks.length ≤ 1000) (hjp : ∀ m ∈ s.parts, j < m.length ∧ m.length ≤ 1000) :
    Calls Try.prog 72 #[skv s AC AP cc cp, .int .i64 j, .int .i64 gr, .int .i64 qu] W (MkPost (markP s j gr qu) W) := by
  obtain ⟨E, hEl, hEc, hE⟩ := ents_of hs.c
  obtain ⟨P, hPl, hPm, hPr, hP1, hP2, hP3⟩ := pents_of hs.p
  obtain ⟨hE1, hE2, hE3⟩ := ents_cells hEl hE
  have HC1 := Lib.hid (fun w (hb : Below W.heap.size W w) => cloneC_any E AC cc w (fun ad hA jj u hu => by
      have hEn : E ≠ [] := by rintro rfl; simp [fl6] at hu
      have hb' : (ad.add jj).block < W.heap.size := by rw [show (ad.add jj).block = ad.block by unfold Addr.add; split <;> rfl]; exact hE1 ad hA hEn
      exact (hb.cell hb').trans (hE3 ad hA jj u hu)) (fun ad hA hne => Nat.lt_of_lt_of_le (hE1 ad hA hne) hb.size) hE2 (by omega))
  have HC2 := Lib.hid (fun w (hb : Below W.heap.size W w) => cloneP_any P AP cp w (fun ad hA jj u hu => by
      have hEn : P ≠ [] := by rintro rfl; simp [fl1] at hu
      have hb' : (ad.add jj).block < W.heap.size := by rw [show (ad.add jj).block = ad.block by unfold Addr.add; split <;> rfl]; exact hP1 ad hA hEn
      exact (hb.cell hb').trans (hP3 ad hA jj u hu)) (fun ad hA hne => Nat.lt_of_lt_of_le (hP1 ad hA hne) hb.size) hP2 (by omega))
  rw [hEl] at HC1
  rw [hPl] at HC2
  unfold ClonePost at HC1 HC2
  have HE := Lib.hid (show ∀ e ∈ E, IRow W W.heap.size e.M e.c.marks from fun e he => by
    obtain ⟨i, hi, rfl⟩ := List.getElem_of_mem he
    obtain ⟨h1, -, -, -, -, -, -, h2⟩ := hE i (by omega) hi
    rw [h1]; exact h2)
  have HP := Lib.hid hPr
  have HL := Lib.hid (And.intro hEl (And.intro hPl (And.intro hEc hPm)))
  have HJ := Lib.hid (And.intro hj hjp)
  have HLB := Lib.hid (And.intro hs.lc hs.lp)
  have HB : Hid (Below W.heap.size W ((W.alloc (.cells (skc s AC AP cc cp) 28)).alloc (.cells #[.slice none 0 0, .slice none 0 0, .int .i64 0] 28)) ∧ Has ((W.alloc (.cells (skc s AC AP cc cp) 28)).alloc (.cells #[.slice none 0 0, .slice none 0 0, .int .i64 0] 28)) W.heap.size 28 (skc s AC AP cc cp) ∧ Has ((W.alloc (.cells (skc s AC AP cc cp) 28)).alloc (.cells #[.slice none 0 0, .slice none 0 0, .int .i64 0] 28)) (W.heap.size + 1) 28 #[.slice none 0 0, .slice none 0 0, .int .i64 0]) :=
    Lib.hid ⟨(below_one W _).alloc (by simp) _, (Has.new _ _ _).alloc _, has_newAt (by simp)⟩
  clear hEl hPl hEc hPm hE hPr hP1 hP2 hP3 hE1 hE2 hE3 hs hj hjp
  unfold skv
  go_enter Try.func72, Try.ntmps72
  go_upto_region 1 with fail
  generalize (W.alloc (.cells (skc s AC AP cc cp) 28)).alloc (.cells #[.slice none 0 0, .slice none 0 0, .int .i64 0] 28) = w0 at HB ⊢
  have H1 := Lib.hid (show Below W.heap.size W w0.drew ∧ Has w0.drew W.heap.size 28 (skc s AC AP cc cp) ∧ Has w0.drew (W.heap.size + 1) 28 #[.slice none 0 0, .slice none 0 0, .int .i64 0] from ⟨HB.out.1.drew, HB.out.2.1.drew, HB.out.2.2.drew⟩)
  have K1 : Hid (w0.drew.cell? ⟨W.heap.size, 0, none⟩ = some (.slice AC s.calls.length cc) ∧ w0.drew.cell? ⟨W.heap.size, 1, none⟩ = some (.slice AP s.parts.length cp)) := Lib.hid ⟨H1.out.2.1.cell 0, H1.out.2.1.cell 1⟩
  clear HB
  refine wp_region_late (fun w' : World => w'.cell? ⟨W.heap.size, 0, none⟩ = some (.slice AC s.calls.length cc) ∧ w'.cell? ⟨W.heap.size, 1, none⟩ = some (.slice AP s.parts.length cp)) [7, 9] (by kernel_rfl) ?_
  generalize w0.drew = w1 at H1 K1 ⊢
  refine wpLate_take (i := 0) (oi := ?oi0r1_) (v := ?v0r1_) [1, 2, 5, 6, 7, 8, 9] ?hi0r1_ (by kernel_rfl) (by kernel_rfl) (by kernel_rfl) (by kernel_rfl) (by kernel_rfl) ?hQ0r1_ (Or.inl ⟨?hw0r1_, ?hy0r1_⟩) K1.out ?rest0r1_
  case hi0r1_ => (simp only [List.getElem?_toArray, List.getElem?_cons_zero]; rfl)
  case hQ0r1_ => exact fun _ _ _ h => h
  case hw0r1_ => rfl
  case hy0r1_ =>
    intro w' hSw
    obtain ⟨r0, r1⟩ := hSw
    go_simp
    try exact rfl
  try simp only [Act.put, List.setIfInBounds_toArray, List.set_cons_zero, List.set_cons_succ]
  refine wpLate_take (i := 1) (oi := ?oi1r1_) (v := ?v1r1_) [2, 5, 6, 7, 8, 9] ?hi1r1_ (by kernel_rfl) (by kernel_rfl) (by kernel_rfl) (by kernel_rfl) (by kernel_rfl) ?hQ1r1_ (Or.inl ⟨?hw1r1_, ?hy1r1_⟩) K1.out ?rest1r1_
  case hi1r1_ => (simp only [List.getElem?_toArray, List.getElem?_cons_zero, List.getElem?_cons_succ]; rfl)
  case hQ1r1_ => exact fun _ _ _ h => h
  case hw1r1_ => rfl
  case hy1r1_ =>
    intro w' hSw
    obtain ⟨r0, r1⟩ := hSw
    go_simp
    try exact rfl
  try simp only [Act.put, List.setIfInBounds_toArray, List.set_cons_zero, List.set_cons_succ]
  refine wpLate_take (i := 3) (oi := ?oi3r1_) (v := ?v3r1_) [4, 5, 6, 7, 8, 9] ?hi3r1_ (by kernel_rfl) (by kernel_rfl) (by kernel_rfl) (by kernel_rfl) (by kernel_rfl) ?hQ3r1_ (Or.inl ⟨?hw3r1_, ?hy3r1_⟩) K1.out ?rest3r1_
  case hi3r1_ => (simp only [List.getElem?_toArray, List.getElem?_cons_zero, List.getElem?_cons_succ]; rfl)
  case hQ3r1_ => exact fun _ _ _ h => h
  case hw3r1_ => rfl
  case hy3r1_ =>
    intro w' hSw
    obtain ⟨r0, r1⟩ := hSw
    go_simp
    try exact rfl
  try simp only [Act.put, List.setIfInBounds_toArray, List.set_cons_zero, List.set_cons_succ]
  refine wpLate_take (i := 4) (oi := ?oi4r1_) (v := ?v4r1_) [5, 6, 7, 8, 9] ?hi4r1_ (by kernel_rfl) (by kernel_rfl) (by kernel_rfl) (by kernel_rfl) (by kernel_rfl) ?hQ4r1_ (Or.inl ⟨?hw4r1_, ?hy4r1_⟩) K1.out ?rest4r1_
  case hi4r1_ => (simp only [List.getElem?_toArray, List.getElem?_cons_zero, List.getElem?_cons_succ]; rfl)
  case hQ4r1_ => exact fun _ _ _ h => h
  case hw4r1_ => rfl
  case hy4r1_ =>
    intro w' hSw
    obtain ⟨r0, r1⟩ := hSw
    go_simp
    try exact rfl
  try simp only [Act.put, List.setIfInBounds_toArray, List.set_cons_zero, List.set_cons_succ]
  refine wpLate_one (i := 2) (o := ?o2r1_) (by kernel_rfl) ?ho2r1_ ?hk2r1_
  case ho2r1_ => (simp only [List.getElem?_toArray, List.getElem?_cons_zero, List.getElem?_cons_succ]; rfl)
  intro K hK
  go_simp
  refine (HC1.out _ H1.out.1).mono ?_
  rintro e W2 ⟨A1, c1, rfl, hc1, hb2⟩
  have H2 := Lib.hid (show Below W.heap.size W W2 ∧ Has W2 W.heap.size 28 (skc s AC AP cc cp) ∧ Has W2 (W.heap.size + 1) 28 #[.slice none 0 0, .slice none 0 0, .int .i64 0] ∧ w1.heap.size ≤ W2.heap.size ∧ W.heap.size + 1 < w1.heap.size from ⟨H1.out.1.trans (hb2.mono H1.out.1.size), H1.out.2.1.below hb2 H1.out.2.1.lt, H1.out.2.2.below hb2 H1.out.2.2.lt, hb2.size, H1.out.2.2.lt⟩)
  have HD1 := Lib.hid hc1
  have K2 : Hid (W2.cell? ⟨W.heap.size, 0, none⟩ = some (.slice AC s.calls.length cc) ∧ W2.cell? ⟨W.heap.size, 1, none⟩ = some (.slice AP s.parts.length cp)) := Lib.hid ⟨H2.out.2.1.cell 0, H2.out.2.1.cell 1⟩
  clear hc1 hb2 H1 K1
  go_simp
  refine hK.out _ _ (fun h => K2.out) ?_
  clear hK K
  try simp only [Act.put, List.setIfInBounds_toArray, List.set_cons_zero, List.set_cons_succ]
  refine wpLate_take (i := 6) (oi := ?oi6r1_) (v := ?v6r1_) [7, 8, 9] ?hi6r1_ (by kernel_rfl) (by kernel_rfl) (by kernel_rfl) (by kernel_rfl) (by kernel_rfl) ?hQ6r1_ (Or.inl ⟨?hw6r1_, ?hy6r1_⟩) K2.out ?rest6r1_
  case hi6r1_ => (simp only [List.getElem?_toArray, List.getElem?_cons_zero, List.getElem?_cons_succ]; rfl)
  case hQ6r1_ => exact fun _ _ _ h => h
  case hw6r1_ => rfl
  case hy6r1_ =>
    intro w' hSw
    obtain ⟨r0, r1⟩ := hSw
    go_simp
    try exact rfl
  try simp only [Act.put, List.setIfInBounds_toArray, List.set_cons_zero, List.set_cons_succ]
  refine wpLate_one (i := 5) (o := ?o5r1_) (by kernel_rfl) ?ho5r1_ ?hk5r1_
  case ho5r1_ => (simp only [List.getElem?_toArray, List.getElem?_cons_zero, List.getElem?_cons_succ]; rfl)
  intro K hK
  go_simp
  refine (HC2.out _ H2.out.1).mono ?_
  rintro e W3 ⟨A2, c2, rfl, hc2, hb3⟩
  have H3 := Lib.hid (show Below W.heap.size W W3 ∧ Has W3 W.heap.size 28 (skc s AC AP cc cp) ∧ Has W3 (W.heap.size + 1) 28 #[.slice none 0 0, .slice none 0 0, .int .i64 0] ∧ w1.heap.size ≤ W2.heap.size ∧ W.heap.size + 1 < w1.heap.size ∧ Below W2.heap.size W2 W3 from ⟨H2.out.1.trans (hb3.mono H2.out.1.size), H2.out.2.1.below hb3 H2.out.2.1.lt, H2.out.2.2.1.below hb3 H2.out.2.2.1.lt, H2.out.2.2.2.1, H2.out.2.2.2.2, hb3⟩)
  have HD2 := Lib.hid hc2
  have K3 : Hid (W3.cell? ⟨W.heap.size, 0, none⟩ = some (.slice AC s.calls.length cc) ∧ W3.cell? ⟨W.heap.size, 1, none⟩ = some (.slice AP s.parts.length cp)) := Lib.hid ⟨H3.out.2.1.cell 0, H3.out.2.1.cell 1⟩
  clear hc2 hb3 H2 K2
  go_simp
  refine hK.out _ _ (fun h => K3.out) ?_
  clear hK K
  try simp only [Act.put, List.setIfInBounds_toArray, List.set_cons_zero, List.set_cons_succ]
  refine wpLate_one (i := 7) (o := ?o7r1_) (by kernel_rfl) ?ho7r1_ ?hk7r1_
  case ho7r1_ => (simp only [List.getElem?_toArray, List.getElem?_cons_zero, List.getElem?_cons_succ]; rfl)
  intro K hK
  obtain ⟨l0, l1⟩ := K3.out
  have lf0 := H3.out.2.1.frozen 0
  have lf1 := H3.out.2.1.frozen 1
  go_simp
  refine hK.out _ _ (fun h => absurd h (by decide)) ?_
  clear hK K
  try simp only [Act.put, List.setIfInBounds_toArray, List.set_cons_zero, List.set_cons_succ]
  refine wpLate_one (i := 8) (o := ?o8r1_) (by kernel_rfl) ?ho8r1_ ?hk8r1_
  case ho8r1_ => (simp only [List.getElem?_toArray, List.getElem?_cons_zero, List.getElem?_cons_succ]; rfl)
  intro K hK
  go_simp
  refine hK.out _ _ (fun h => absurd h (by decide)) ?_
  clear hK K
  try simp only [Act.put, List.setIfInBounds_toArray, List.set_cons_zero, List.set_cons_succ]
  refine wpLate_one (i := 9) (o := ?o9r1_) (by kernel_rfl) ?ho9r1_ ?hk9r1_
  case ho9r1_ => (simp only [List.getElem?_toArray, List.getElem?_cons_zero, List.getElem?_cons_succ]; rfl)
  intro K hK
  go_simp
  refine hK.out _ _ (fun h => absurd h (by decide)) ?_
  clear hK K
  try simp only [Act.put, List.setIfInBounds_toArray, List.set_cons_zero, List.set_cons_succ]
  refine wpLate_done (by kernel_rfl) ?_ _
  try simp only [Act.put, List.setIfInBounds_toArray, List.set_cons_zero, List.set_cons_succ]
  obtain ⟨g, h, hmb⟩ := mb_start (c1 := c1) (c2 := c2) H3.out.1 H3.out.2.1 H3.out.2.2.1 H3.out.2.2.2.1 H3.out.2.2.2.2.1 H3.out.2.2.2.2.2 HD1.out HD2.out HE.out HP.out HL.out.1 HL.out.2.1
  have HM := Lib.hid hmb
  clear hmb l0 l1 lf0 lf1 K3 H3 HD1 HD2 HC1 HC2 HE HP
  generalize (W3.setCell ⟨W.heap.size, 0, none⟩ (.slice A1 s.calls.length c1)).setCell ⟨W.heap.size, 1, none⟩ (.slice A2 s.parts.length c2) = w4 at HM ⊢
  have x0 : w4.cell? ⟨W.heap.size, 0, none⟩ = some (.slice A1 s.calls.length c1) := HM.out.fs.cell 0
  go_wp2_with fail
  clear x0
  go_loopg [24] s.calls.length (fun gk i wr => ∃ k : Nat, k ≤ s.calls.length ∧ s.calls.length - k ≤ gk ∧ i = .int .i64 k ∧ ∃ E, Hid (MB W wr s A1 A2 c1 c2 g h s.calls.length s.parts.length E P ∧ E.map (·.c) = part (markC j gr) s.calls k))
  case atStart => exact ⟨0, Nat.zero_le _, Nat.le_refl _, rfl, E, Lib.hid ⟨HM.out, by rw [part_zero]; exact HL.out.2.2.1⟩⟩
  case round =>
    obtain ⟨k, hk, hgk, rfl, E1, HW⟩ := hrel
    by_cases hlt : k < s.calls.length
    rotate_left
    · have hge : ¬ (k : Int) < s.calls.length := by omega
      have HE1 : Hid (E1.map (·.c) = s.calls.map (markC j gr)) := Lib.hid (by rw [HW.out.2, show k = s.calls.length by omega, part_end])
      have HM1 := Lib.hid HW.out.1
      clear hk hgk hlt HW HM
      have x1 : wr.cell? ⟨W.heap.size, 1, none⟩ = some (.slice A2 s.parts.length c2) := HM1.out.fs.cell 1
      go_wp2_with fail
      clear x1 hge
      obtain ⟨w5, rfl⟩ : ∃ w5, w5 = wr := ⟨_, rfl⟩
      go_loopg [43] s.parts.length (fun gk i wr => ∃ k : Nat, k ≤ s.parts.length ∧ s.parts.length - k ≤ gk ∧ i = .int .i64 k ∧ ∃ P, Hid (MB W wr s A1 A2 c1 c2 g h s.calls.length s.parts.length E1 P ∧ P.map (·.m) = part (fun m => m.set j qu) s.parts k))
      case atStart => exact ⟨0, Nat.zero_le _, Nat.le_refl _, rfl, P, Lib.hid ⟨HM1.out, by rw [part_zero]; exact HL.out.2.2.2⟩⟩
      case round =>
        obtain ⟨k, hk, hgk, rfl, P1, HW⟩ := hrel
        by_cases hlt : k < s.parts.length
        rotate_left
        · have hge : ¬ (k : Int) < s.parts.length := by omega
          have HP1 : Hid (P1.map (·.m) = s.parts.map (fun m => m.set j qu)) := Lib.hid (by rw [HW.out.2, show k = s.parts.length by omega, part_end])
          have HM2 := Lib.hid HW.out.1
          clear hk hgk hlt HW HM1
          have y0 : wr.cell? ⟨W.heap.size, 0, none⟩ = some (.slice A1 s.calls.length c1) := HM2.out.fs.cell 0
          have y1 : wr.cell? ⟨W.heap.size, 1, none⟩ = some (.slice A2 s.parts.length c2) := HM2.out.fs.cell 1
          have y2 : wr.cell? ⟨W.heap.size, 2, none⟩ = some (.int .i64 s.over) := HM2.out.fs.cell 2
          have z0 : wr.cell? ⟨W.heap.size + 1, 0, none⟩ = some (.slice none 0 0) := HM2.out.fx.cell 0
          have z1 : wr.cell? ⟨W.heap.size + 1, 1, none⟩ = some (.slice none 0 0) := HM2.out.fx.cell 1
          have z2 : wr.cell? ⟨W.heap.size + 1, 2, none⟩ = some (.int .i64 0) := HM2.out.fx.cell 2
          have f0 := HM2.out.fx.frozen 0
          have f1 := HM2.out.fx.frozen 1
          have f2 := HM2.out.fx.frozen 2
          go_wp2_with fail
          have HM3 := Lib.hid (HM2.out.put A1 s.calls.length c1 A2 s.parts.length c2 s.over)
          refine bodyPost_ret (v := .agg #[.slice A1 s.calls.length c1, .slice A2 s.parts.length c2, .int .i64 s.over]) (res72 (D := W.heap.size + 1) HM3.out.1 rfl) rfl ?_
          have hcl : (markP s j gr qu).calls.length = s.calls.length := by simp [markP]
          have hpl : (markP s j gr qu).parts.length = s.parts.length := by simp [markP]
          refine ⟨A1, A2, c1, c2, ?_, ?_, HM3.out.2.1⟩
          · unfold skv skc
            rw [hcl, hpl]; rfl
          · refine HM2.out.skr (s' := markP s j gr qu) hcl hpl HE1.out HP1.out (fun b i hb => ?_) (by simp [World.setCell]) ?_ ?_ ?_ ?_
            · rw [cell_far hb, cell_far hb, cell_far hb]
            · rw [hcl]; exact HLB.out.1
            · rw [hpl]; exact HLB.out.2
            · intro c hc
              obtain ⟨d, hd, rfl⟩ := List.mem_map.1 hc
              have := (HJ.out.1 d hd).2
              simp [markC, big]
              omega
            · intro m hm
              obtain ⟨d, hd, rfl⟩ := List.mem_map.1 hm
              have := (HJ.out.2 d hd).2
              simp [big]
              omega
        have hlt2 : (k : Int) < s.parts.length := by omega
        obtain ⟨rfl, hgW, cur, hcur, hct⟩ := HW.out.1.he (by omega)
        have hkP : k < P1.length := by rw [HW.out.1.lp]; exact hlt
        have hct2 : cur[k]? = some (.slice P1[k].M P1[k].m.length P1[k].k) := by
          have h1 := flat_get enc1 1 (fun _ => rfl) P1 k hkP 0 (by omega)
          have h2 : (fl1 P1)[k * 1 + 0]? = (enc1 P1[k])[0]? := h1
          rw [← hct, List.getElem?_take_of_lt (by omega)] at h2
          simpa [enc1] using h2
        have hPk : P1[k].m = s.parts[k] := by
          have : (P1.map (·.m))[k]? = some s.parts[k] := by rw [HW.out.2, part_at _ _ _ hlt]
          rw [List.getElem?_eq_getElem (by simpa using hkP)] at this
          simpa using this
        have HNE := Lib.hid (part_step (fun m : List Int => m.set j qu) s.parts k hlt)
        have HST : Hid (∀ w', MB W w' s A1 (some ⟨h, 0, none⟩) c1 c2 g h s.calls.length s.parts.length E1 P1 → ∀ R c', RowF w' g h (W.heap.size + 1) (some ⟨R, 0, none⟩) (s.parts[k].set j qu) → MB W (w'.setCell ⟨h, k, none⟩ (.slice (some ⟨R, 0, none⟩) (s.parts[k].set j qu).length c')) s A1 (some ⟨h, 0, none⟩) c1 c2 g h s.calls.length s.parts.length E1 (P1.set k ⟨s.parts[k].set j qu, some ⟨R, 0, none⟩, c'⟩)) :=
          Lib.hid fun w' hm R c' hr => hm.setP hlt hkP hr
        have HNM : Hid (∀ R c', (P1.set k ⟨s.parts[k].set j qu, some ⟨R, 0, none⟩, c'⟩).map (·.m) = part (fun m => m.set j qu) s.parts (k + 1)) := Lib.hid fun R c' => by
          rw [List.map_set, HW.out.2, ← HNE.out]
        have HOLD : Hid (∀ w', MB W w' s A1 (some ⟨h, 0, none⟩) c1 c2 g h s.calls.length s.parts.length E1 P1 → (∃ v, w'.cell? ⟨h, k, none⟩ = some v) ∧ w'.frozen? ⟨h, k, none⟩ = false) := Lib.hid fun w' hm => by
          obtain ⟨-, -, cur', hcur', hct'⟩ := hm.he (by omega)
          have h1 : k < (cur'.toList.take (s.parts.length * 1)).length := by rw [hct', fl1_len, hm.lp]; omega
          rw [List.length_take] at h1
          have h2 : k < cur'.size := by simp at h1; omega
          exact ⟨⟨cur'[k], (hcur'.cell k).trans (Array.getElem?_eq_getElem h2)⟩, hcur'.frozen k⟩
        have HME := Lib.hid (List.getElem_mem (l := P1) hkP)
        obtain ⟨M, hM⟩ : ∃ M, M = P1[k].M := ⟨_, rfl⟩
        obtain ⟨m, hm'⟩ : ∃ M, M = P1[k].k := ⟨_, rfl⟩
        rw [hPk, ← hM, ← hm'] at hct2
        have HMR : Hid (∀ w', MB W w' s A1 (some ⟨h, 0, none⟩) c1 c2 g h s.calls.length s.parts.length E1 P1 → IRow w' w'.heap.size M s.parts[k]) := Lib.hid fun w' hm => by
          have := (hm.rp _ HME.out).row
          rw [hPk, ← hM] at this
          exact this
        have hJ := HJ.out.2 _ (List.getElem_mem hlt)
        obtain ⟨x, hx⟩ : ∃ x, x = s.parts[k] := ⟨_, rfl⟩
        rw [← hx] at hct2 HNE HST HNM HMR hJ
        have HRP := Lib.hid (fun w hr => replaced_any x M m j qu w hr hJ.1 hJ.2)
        unfold RepPost at HRP
        have z0 : wr.cell? ⟨h, k, none⟩ = some (.slice M x.length m) := (hcur.cell k).trans hct2
        have H6 := Lib.hid HW.out.1
        have hxl : (x.set j qu).length = x.length := by simp
        have HXL := Lib.hid hxl
        clear hM hm' hx hcur hct hct2 hPk hJ hxl HW hgW HM1
        go_upto_region 10 with fail
        clear z0
        replace H6 := Lib.hid H6.out.drew
        have K6 : Hid (wr.drew.cell? ⟨W.heap.size, 1, none⟩ = some (.slice (some ⟨h, 0, none⟩) s.parts.length c2) ∧ wr.drew.cell? ⟨W.heap.size, 2, none⟩ = some (.int .i64 s.over)) := Lib.hid ⟨H6.out.fs.cell 1, H6.out.fs.cell 2⟩
        refine wp_region_late (fun w' : World => w'.cell? ⟨W.heap.size, 1, none⟩ = some (.slice (some ⟨h, 0, none⟩) s.parts.length c2) ∧ w'.cell? ⟨W.heap.size, 2, none⟩ = some (.int .i64 s.over)) [8] (by kernel_rfl) ?_
        generalize wr.drew = w6 at H6 K6 ⊢
        refine wpLate_take (i := 0) (oi := ?oi0r10_) (v := ?v0r10_) [1, 7, 8] ?hi0r10_ (by kernel_rfl) (by kernel_rfl) (by kernel_rfl) (by kernel_rfl) (by kernel_rfl) ?hQ0r10_ (Or.inl ⟨?hw0r10_, ?hy0r10_⟩) K6.out ?rest0r10_
        case hi0r10_ => (simp only [List.getElem?_toArray, List.getElem?_cons_zero]; rfl)
        case hQ0r10_ => exact fun _ _ _ h => h
        case hw0r10_ => rfl
        case hy0r10_ =>
          intro w' hSw
          obtain ⟨r0, r1⟩ := hSw
          go_simp
          try exact rfl
        try simp only [Act.put, List.setIfInBounds_toArray, List.set_cons_zero, List.set_cons_succ]
        refine wpLate_take (i := 1) (oi := ?oi1r10_) (v := ?v1r10_) [7, 8] ?hi1r10_ (by kernel_rfl) (by kernel_rfl) (by kernel_rfl) (by kernel_rfl) (by kernel_rfl) ?hQ1r10_ (Or.inl ⟨?hw1r10_, ?hy1r10_⟩) K6.out ?rest1r10_
        case hi1r10_ => (simp only [List.getElem?_toArray, List.getElem?_cons_zero, List.getElem?_cons_succ]; rfl)
        case hQ1r10_ => exact fun _ _ _ h => h
        case hw1r10_ => rfl
        case hy1r10_ =>
          intro w' hSw
          obtain ⟨r0, r1⟩ := hSw
          go_simp
          try exact rfl
        try simp only [Act.put, List.setIfInBounds_toArray, List.set_cons_zero, List.set_cons_succ]
        refine wpLate_take (i := 2) (oi := ?oi2r10_) (v := ?v2r10_) [7, 8] ?hi2r10_ (by kernel_rfl) (by kernel_rfl) (by kernel_rfl) (by kernel_rfl) (by kernel_rfl) ?hQ2r10_ (Or.inl ⟨?hw2r10_, ?hy2r10_⟩) K6.out ?rest2r10_
        case hi2r10_ => (simp only [List.getElem?_toArray, List.getElem?_cons_zero, List.getElem?_cons_succ]; rfl)
        case hQ2r10_ => exact fun _ _ _ h => h
        case hw2r10_ => rfl
        case hy2r10_ =>
          intro w' hSw
          obtain ⟨r0, r1⟩ := hSw
          go_simp
          try exact rfl
        try simp only [Act.put, List.setIfInBounds_toArray, List.set_cons_zero, List.set_cons_succ]
        refine wpLate_take (i := 3) (oi := ?oi3r10_) (v := ?v3r10_) [6, 7, 8] ?hi3r10_ (by kernel_rfl) (by kernel_rfl) (by kernel_rfl) (by kernel_rfl) (by kernel_rfl) ?hQ3r10_ (Or.inl ⟨?hw3r10_, ?hy3r10_⟩) K6.out ?rest3r10_
        case hi3r10_ => (simp only [List.getElem?_toArray, List.getElem?_cons_zero, List.getElem?_cons_succ]; rfl)
        case hQ3r10_ => exact fun _ _ _ h => h
        case hw3r10_ => rfl
        case hy3r10_ =>
          intro w' hSw
          obtain ⟨r0, r1⟩ := hSw
          go_simp
          try exact rfl
        try simp only [Act.put, List.setIfInBounds_toArray, List.set_cons_zero, List.set_cons_succ]
        refine wpLate_take (i := 4) (oi := ?oi4r10_) (v := ?v4r10_) [6, 7, 8] ?hi4r10_ (by kernel_rfl) (by kernel_rfl) (by kernel_rfl) (by kernel_rfl) (by kernel_rfl) ?hQ4r10_ (Or.inl ⟨?hw4r10_, ?hy4r10_⟩) K6.out ?rest4r10_
        case hi4r10_ => (simp only [List.getElem?_toArray, List.getElem?_cons_zero, List.getElem?_cons_succ]; rfl)
        case hQ4r10_ => exact fun _ _ _ h => h
        case hw4r10_ => rfl
        case hy4r10_ =>
          intro w' hSw
          obtain ⟨r0, r1⟩ := hSw
          go_simp
          try exact rfl
        try simp only [Act.put, List.setIfInBounds_toArray, List.set_cons_zero, List.set_cons_succ]
        refine wpLate_take (i := 5) (oi := ?oi5r10_) (v := ?v5r10_) [6, 7, 8] ?hi5r10_ (by kernel_rfl) (by kernel_rfl) (by kernel_rfl) (by kernel_rfl) (by kernel_rfl) ?hQ5r10_ (Or.inl ⟨?hw5r10_, ?hy5r10_⟩) K6.out ?rest5r10_
        case hi5r10_ => (simp only [List.getElem?_toArray, List.getElem?_cons_zero, List.getElem?_cons_succ]; rfl)
        case hQ5r10_ => exact fun _ _ _ h => h
        case hw5r10_ => rfl
        case hy5r10_ =>
          intro w' hSw
          obtain ⟨r0, r1⟩ := hSw
          go_simp
          try exact rfl
        try simp only [Act.put, List.setIfInBounds_toArray, List.set_cons_zero, List.set_cons_succ]
        refine wpLate_one (i := 6) (o := ?o6r10_) (by kernel_rfl) ?ho6r10_ ?hk6r10_
        case ho6r10_ => (simp only [List.getElem?_toArray, List.getElem?_cons_zero, List.getElem?_cons_succ]; rfl)
        intro K hK
        go_simp
        refine (HRP.out _ (HMR.out _ H6.out)).mono ?_
        rintro e W7 ⟨R, cR, cur2, rfl, hRg, hRh, hRc, hb7⟩
        have HF := Lib.hid (rep_far (z := W.heap.size + 1) H6.out.lo H6.out.fx.lt hRg hRh hRc)
        have H7 := Lib.hid (H6.out.step hb7)
        have K7 : Hid (W7.cell? ⟨W.heap.size, 1, none⟩ = some (.slice (some ⟨h, 0, none⟩) s.parts.length c2) ∧ W7.cell? ⟨W.heap.size, 2, none⟩ = some (.int .i64 s.over)) := Lib.hid ⟨H7.out.fs.cell 1, H7.out.fs.cell 2⟩
        clear hRg hRh hRc hb7 H6 K6
        go_simp
        refine hK.out _ _ (fun h => K7.out) ?_
        clear hK K
        try simp only [Act.put, List.setIfInBounds_toArray, List.set_cons_zero, List.set_cons_succ]
        refine wpLate_take (i := 7) (oi := ?oi7r10_) (v := ?v7r10_) [8] ?hi7r10_ (by kernel_rfl) (by kernel_rfl) (by kernel_rfl) (by kernel_rfl) (by kernel_rfl) ?hQ7r10_ (Or.inl ⟨?hw7r10_, ?hy7r10_⟩) K7.out ?rest7r10_
        case hi7r10_ => (simp only [List.getElem?_toArray, List.getElem?_cons_zero, List.getElem?_cons_succ]; rfl)
        case hQ7r10_ => exact fun _ _ _ h => h
        case hw7r10_ => rfl
        case hy7r10_ =>
          intro w' hSw
          obtain ⟨r0, r1⟩ := hSw
          go_simp
          try exact rfl
        try simp only [Act.put, List.setIfInBounds_toArray, List.set_cons_zero, List.set_cons_succ]
        refine wpLate_one (i := 8) (o := ?o8r10_) (by kernel_rfl) ?ho8r10_ ?hk8r10_
        case ho8r10_ => (simp only [List.getElem?_toArray, List.getElem?_cons_zero, List.getElem?_cons_succ]; rfl)
        intro K hK
        obtain ⟨⟨vo, l0⟩, lf⟩ := HOLD.out _ H7.out
        go_simp
        refine hK.out _ _ (fun h => absurd h (by decide)) ?_
        clear hK K
        try simp only [Act.put, List.setIfInBounds_toArray, List.set_cons_zero, List.set_cons_succ]
        refine wpLate_done (by kernel_rfl) ?_ _
        try simp only [Act.put, List.setIfInBounds_toArray, List.set_cons_zero, List.set_cons_succ]
        rename_i _
        clear l0 lf K7
        have H8 := Lib.hid (HST.out _ H7.out R cR HF.out)
        rw [HXL.out] at H8
        go_wp2_with fail
        go_roundg (s.parts.length - (k + 1))
        case measure => omega
        case rel => exact ⟨k + 1, by omega, Nat.le_refl _, by go_num, _, Lib.hid ⟨H8.out, HNM.out _ _⟩⟩
    have hlt2 : (k : Int) < s.calls.length := by omega
    obtain ⟨rfl, hgW, cur, hcur, hct⟩ := HW.out.1.ge (by omega)
    have hkE : k < E1.length := by rw [HW.out.1.le]; exact hlt
    have hct2 : ∀ i, i < 6 → cur[k * 6 + i]? = (enc6 E1[k])[i]? := fun i hi => by
      have h1 := flat_get enc6 6 enc6_len E1 k hkE i hi
      have h2 : (fl6 E1)[k * 6 + i]? = (enc6 E1[k])[i]? := h1
      rw [← hct, List.getElem?_take_of_lt (by omega)] at h2
      simpa using h2
    have hEk : E1[k].c = s.calls[k] := by
      have : (E1.map (·.c))[k]? = some s.calls[k] := by rw [HW.out.2, part_at _ _ _ hlt]
      rw [List.getElem?_eq_getElem (by simpa using hkE)] at this
      simpa using this
    have HNE := Lib.hid (part_step (markC j gr) s.calls k hlt)
    have HST : Hid (∀ w', MB W w' s (some ⟨g, 0, none⟩) A2 c1 c2 g h s.calls.length s.parts.length E1 P → ∀ R c', RowF w' g h (W.heap.size + 1) (some ⟨R, 0, none⟩) (s.calls[k].marks.set j gr) → MB W (w'.setCell ⟨g, k * 6 + 5, none⟩ (.slice (some ⟨R, 0, none⟩) (s.calls[k].marks.set j gr).length c')) s (some ⟨g, 0, none⟩) A2 c1 c2 g h s.calls.length s.parts.length (E1.set k ⟨{ E1[k].c with marks := s.calls[k].marks.set j gr }, some ⟨R, 0, none⟩, c', E1[k].at_⟩) P) :=
      Lib.hid fun w' hm R c' hr => hm.setC hlt hkE hr
    have HNM : Hid (∀ R c', (E1.set k ⟨{ E1[k].c with marks := s.calls[k].marks.set j gr }, some ⟨R, 0, none⟩, c', E1[k].at_⟩).map (·.c) = part (markC j gr) s.calls (k + 1)) := Lib.hid fun R c' => by
      rw [List.map_set, HW.out.2, ← HNE.out, hEk]; rfl
    have HOLD : Hid (∀ w', MB W w' s (some ⟨g, 0, none⟩) A2 c1 c2 g h s.calls.length s.parts.length E1 P → (∃ v, w'.cell? ⟨g, k * 6 + 5, none⟩ = some v) ∧ w'.frozen? ⟨g, k * 6 + 5, none⟩ = false) := Lib.hid fun w' hm => by
      obtain ⟨-, -, cur', hcur', hct'⟩ := hm.ge (by omega)
      have h1 : k * 6 + 5 < (cur'.toList.take (s.calls.length * 6)).length := by rw [hct', fl6_len, hm.le]; omega
      rw [List.length_take] at h1
      have h2 : k * 6 + 5 < cur'.size := by simp at h1; omega
      exact ⟨⟨cur'[k * 6 + 5], (hcur'.cell _).trans (Array.getElem?_eq_getElem h2)⟩, hcur'.frozen _⟩
    have HME := Lib.hid (List.getElem_mem (l := E1) hkE)
    obtain ⟨M, hM⟩ : ∃ M, M = E1[k].M := ⟨_, rfl⟩
    obtain ⟨m, hm'⟩ : ∃ M, M = E1[k].m := ⟨_, rfl⟩
    have HMR : Hid (∀ w', MB W w' s (some ⟨g, 0, none⟩) A2 c1 c2 g h s.calls.length s.parts.length E1 P → IRow w' w'.heap.size M s.calls[k].marks) := Lib.hid fun w' hm => by
      have := (hm.re _ HME.out).row
      rw [hEk, ← hM] at this
      exact this
    have hJ := HJ.out.1 _ (List.getElem_mem hlt)
    have hen : enc6 E1[k] = [.int .i64 s.calls[k].place, .int .i64 s.calls[k].element, .int .i64 s.calls[k].under, .bool s.calls[k].late, .bool s.calls[k].fall, .slice M s.calls[k].marks.length m] := by
      unfold enc6; rw [hEk, hM, hm']
    obtain ⟨x, hx⟩ : ∃ x, x = s.calls[k] := ⟨_, rfl⟩
    rw [← hx] at hen HNE HST HNM HMR hJ
    rw [hen] at hct2
    have HRP := Lib.hid (fun w hr => replaced_any x.marks M m j gr w hr hJ.1 hJ.2)
    unfold RepPost at HRP
    have z0 : wr.cell? ⟨g, k * 6, none⟩ = some (.int .i64 x.place) := (hcur.cell _).trans (hct2 0 (by omega))
    have z1 : wr.cell? ⟨g, k * 6 + 1, none⟩ = some (.int .i64 x.element) := (hcur.cell _).trans (hct2 1 (by omega))
    have z2 : wr.cell? ⟨g, k * 6 + 2, none⟩ = some (.int .i64 x.under) := (hcur.cell _).trans (hct2 2 (by omega))
    have z3 : wr.cell? ⟨g, k * 6 + 3, none⟩ = some (.bool x.late) := (hcur.cell _).trans (hct2 3 (by omega))
    have z4 : wr.cell? ⟨g, k * 6 + 4, none⟩ = some (.bool x.fall) := (hcur.cell _).trans (hct2 4 (by omega))
    have z5 : wr.cell? ⟨g, k * 6 + 5, none⟩ = some (.slice M x.marks.length m) := (hcur.cell _).trans (hct2 5 (by omega))
    have hxl : (x.marks.set j gr).length = x.marks.length := by simp
    have HXL := Lib.hid hxl
    have H6 := Lib.hid (show MB W (wr.alloc (.cells (clc x M m) 52)) s (some ⟨g, 0, none⟩) A2 c1 c2 g h s.calls.length s.parts.length E1 P ∧ Has (wr.alloc (.cells (clc x M m) 52)) wr.heap.size 52 (clc x M m) from ⟨HW.out.1.step (below_one _ _), Has.new _ _ _⟩)
    clear hM hm' hx hcur hct hct2 hEk hen hJ hxl HW hgW HM
    go_upto_region 5 with fail
    clear z0 z1 z2 z3 z4 z5
    generalize wr.alloc (.cells (clc x M m) 52) = w5 at H6 ⊢
    generalize wr.heap.size = D at H6 ⊢
    replace H6 := Lib.hid (show MB W w5.drew s (some ⟨g, 0, none⟩) A2 c1 c2 g h s.calls.length s.parts.length E1 P ∧ Has w5.drew D 52 (clc x M m) from ⟨H6.out.1.drew, H6.out.2.drew⟩)
    have K6 : Hid (w5.drew.cell? ⟨W.heap.size, 0, none⟩ = some (.slice (some ⟨g, 0, none⟩) s.calls.length c1) ∧ w5.drew.cell? ⟨D, 5, none⟩ = some (.slice M x.marks.length m)) := Lib.hid ⟨H6.out.1.fs.cell 0, H6.out.2.cell 5⟩
    refine wp_region_late (fun w' : World => w'.cell? ⟨W.heap.size, 0, none⟩ = some (.slice (some ⟨g, 0, none⟩) s.calls.length c1) ∧ w'.cell? ⟨D, 5, none⟩ = some (.slice M x.marks.length m)) [10] (by kernel_rfl) ?_
    generalize w5.drew = w6 at H6 K6 ⊢
    refine wpLate_take (i := 0) (oi := ?oi0r5_) (v := ?v0r5_) [1, 8, 9, 10] ?hi0r5_ (by kernel_rfl) (by kernel_rfl) (by kernel_rfl) (by kernel_rfl) (by kernel_rfl) ?hQ0r5_ (Or.inl ⟨?hw0r5_, ?hy0r5_⟩) K6.out ?rest0r5_
    case hi0r5_ => (simp only [List.getElem?_toArray, List.getElem?_cons_zero]; rfl)
    case hQ0r5_ => exact fun _ _ _ h => h
    case hw0r5_ => rfl
    case hy0r5_ =>
      intro w' hSw
      obtain ⟨r0, r1⟩ := hSw
      go_simp
      try exact rfl
    try simp only [Act.put, List.setIfInBounds_toArray, List.set_cons_zero, List.set_cons_succ]
    refine wpLate_take (i := 1) (oi := ?oi1r5_) (v := ?v1r5_) [8, 9, 10] ?hi1r5_ (by kernel_rfl) (by kernel_rfl) (by kernel_rfl) (by kernel_rfl) (by kernel_rfl) ?hQ1r5_ (Or.inl ⟨?hw1r5_, ?hy1r5_⟩) K6.out ?rest1r5_
    case hi1r5_ => (simp only [List.getElem?_toArray, List.getElem?_cons_zero, List.getElem?_cons_succ]; rfl)
    case hQ1r5_ => exact fun _ _ _ h => h
    case hw1r5_ => rfl
    case hy1r5_ =>
      intro w' hSw
      obtain ⟨r0, r1⟩ := hSw
      go_simp
      try exact rfl
    try simp only [Act.put, List.setIfInBounds_toArray, List.set_cons_zero, List.set_cons_succ]
    refine wpLate_take (i := 2) (oi := ?oi2r5_) (v := ?v2r5_) [8, 9, 10] ?hi2r5_ (by kernel_rfl) (by kernel_rfl) (by kernel_rfl) (by kernel_rfl) (by kernel_rfl) ?hQ2r5_ (Or.inl ⟨?hw2r5_, ?hy2r5_⟩) K6.out ?rest2r5_
    case hi2r5_ => (simp only [List.getElem?_toArray, List.getElem?_cons_zero, List.getElem?_cons_succ]; rfl)
    case hQ2r5_ => exact fun _ _ _ h => h
    case hw2r5_ => rfl
    case hy2r5_ =>
      intro w' hSw
      obtain ⟨r0, r1⟩ := hSw
      go_simp
      try exact rfl
    try simp only [Act.put, List.setIfInBounds_toArray, List.set_cons_zero, List.set_cons_succ]
    refine wpLate_take (i := 3) (oi := ?oi3r5_) (v := ?v3r5_) [4, 7, 8, 9, 10] ?hi3r5_ (by kernel_rfl) (by kernel_rfl) (by kernel_rfl) (by kernel_rfl) (by kernel_rfl) ?hQ3r5_ (Or.inl ⟨?hw3r5_, ?hy3r5_⟩) K6.out ?rest3r5_
    case hi3r5_ => (simp only [List.getElem?_toArray, List.getElem?_cons_zero, List.getElem?_cons_succ]; rfl)
    case hQ3r5_ => exact fun _ _ _ h => h
    case hw3r5_ => rfl
    case hy3r5_ =>
      intro w' hSw
      obtain ⟨r0, r1⟩ := hSw
      go_simp
      try exact rfl
    try simp only [Act.put, List.setIfInBounds_toArray, List.set_cons_zero, List.set_cons_succ]
    refine wpLate_take (i := 4) (oi := ?oi4r5_) (v := ?v4r5_) [7, 8, 9, 10] ?hi4r5_ (by kernel_rfl) (by kernel_rfl) (by kernel_rfl) (by kernel_rfl) (by kernel_rfl) ?hQ4r5_ (Or.inl ⟨?hw4r5_, ?hy4r5_⟩) K6.out ?rest4r5_
    case hi4r5_ => (simp only [List.getElem?_toArray, List.getElem?_cons_zero, List.getElem?_cons_succ]; rfl)
    case hQ4r5_ => exact fun _ _ _ h => h
    case hw4r5_ => rfl
    case hy4r5_ =>
      intro w' hSw
      obtain ⟨r0, r1⟩ := hSw
      go_simp
      try exact rfl
    try simp only [Act.put, List.setIfInBounds_toArray, List.set_cons_zero, List.set_cons_succ]
    refine wpLate_take (i := 5) (oi := ?oi5r5_) (v := ?v5r5_) [7, 8, 9, 10] ?hi5r5_ (by kernel_rfl) (by kernel_rfl) (by kernel_rfl) (by kernel_rfl) (by kernel_rfl) ?hQ5r5_ (Or.inl ⟨?hw5r5_, ?hy5r5_⟩) K6.out ?rest5r5_
    case hi5r5_ => (simp only [List.getElem?_toArray, List.getElem?_cons_zero, List.getElem?_cons_succ]; rfl)
    case hQ5r5_ => exact fun _ _ _ h => h
    case hw5r5_ => rfl
    case hy5r5_ =>
      intro w' hSw
      obtain ⟨r0, r1⟩ := hSw
      go_simp
      try exact rfl
    try simp only [Act.put, List.setIfInBounds_toArray, List.set_cons_zero, List.set_cons_succ]
    refine wpLate_take (i := 6) (oi := ?oi6r5_) (v := ?v6r5_) [7, 8, 9, 10] ?hi6r5_ (by kernel_rfl) (by kernel_rfl) (by kernel_rfl) (by kernel_rfl) (by kernel_rfl) ?hQ6r5_ (Or.inl ⟨?hw6r5_, ?hy6r5_⟩) K6.out ?rest6r5_
    case hi6r5_ => (simp only [List.getElem?_toArray, List.getElem?_cons_zero, List.getElem?_cons_succ]; rfl)
    case hQ6r5_ => exact fun _ _ _ h => h
    case hw6r5_ => rfl
    case hy6r5_ =>
      intro w' hSw
      obtain ⟨r0, r1⟩ := hSw
      go_simp
      try exact rfl
    try simp only [Act.put, List.setIfInBounds_toArray, List.set_cons_zero, List.set_cons_succ]
    refine wpLate_one (i := 7) (o := ?o7r5_) (by kernel_rfl) ?ho7r5_ ?hk7r5_
    case ho7r5_ => (simp only [List.getElem?_toArray, List.getElem?_cons_zero, List.getElem?_cons_succ]; rfl)
    intro K hK
    go_simp
    refine (HRP.out _ (HMR.out _ H6.out.1)).mono ?_
    rintro e W7 ⟨R, cR, cur2, rfl, hRg, hRh, hRc, hb7⟩
    have HF := Lib.hid (rep_far (z := W.heap.size + 1) H6.out.1.lo H6.out.1.fx.lt hRg hRh hRc)
    have H7 := Lib.hid (And.intro (H6.out.1.step hb7) (H6.out.2.below hb7 H6.out.2.lt))
    have K7 : Hid (W7.cell? ⟨W.heap.size, 0, none⟩ = some (.slice (some ⟨g, 0, none⟩) s.calls.length c1) ∧ W7.cell? ⟨D, 5, none⟩ = some (.slice M x.marks.length m)) := Lib.hid ⟨H7.out.1.fs.cell 0, H7.out.2.cell 5⟩
    clear hRg hRh hRc hb7 H6 K6
    go_simp
    refine hK.out _ _ (fun h => K7.out) ?_
    clear hK K
    try simp only [Act.put, List.setIfInBounds_toArray, List.set_cons_zero, List.set_cons_succ]
    refine wpLate_take (i := 8) (oi := ?oi8r5_) (v := ?v8r5_) [9, 10] ?hi8r5_ (by kernel_rfl) (by kernel_rfl) (by kernel_rfl) (by kernel_rfl) (by kernel_rfl) ?hQ8r5_ (Or.inl ⟨?hw8r5_, ?hy8r5_⟩) K7.out ?rest8r5_
    case hi8r5_ => (simp only [List.getElem?_toArray, List.getElem?_cons_zero, List.getElem?_cons_succ]; rfl)
    case hQ8r5_ => exact fun _ _ _ h => h
    case hw8r5_ => rfl
    case hy8r5_ =>
      intro w' hSw
      obtain ⟨r0, r1⟩ := hSw
      go_simp
      try exact rfl
    try simp only [Act.put, List.setIfInBounds_toArray, List.set_cons_zero, List.set_cons_succ]
    refine wpLate_take (i := 9) (oi := ?oi9r5_) (v := ?v9r5_) [10] ?hi9r5_ (by kernel_rfl) (by kernel_rfl) (by kernel_rfl) (by kernel_rfl) (by kernel_rfl) ?hQ9r5_ (Or.inl ⟨?hw9r5_, ?hy9r5_⟩) K7.out ?rest9r5_
    case hi9r5_ => (simp only [List.getElem?_toArray, List.getElem?_cons_zero, List.getElem?_cons_succ]; rfl)
    case hQ9r5_ => exact fun _ _ _ h => h
    case hw9r5_ => rfl
    case hy9r5_ =>
      intro w' hSw
      obtain ⟨r0, r1⟩ := hSw
      go_simp
      try exact rfl
    try simp only [Act.put, List.setIfInBounds_toArray, List.set_cons_zero, List.set_cons_succ]
    refine wpLate_one (i := 10) (o := ?o10r5_) (by kernel_rfl) ?ho10r5_ ?hk10r5_
    case ho10r5_ => (simp only [List.getElem?_toArray, List.getElem?_cons_zero, List.getElem?_cons_succ]; rfl)
    intro K hK
    obtain ⟨⟨vo, l0⟩, lf⟩ := HOLD.out _ H7.out.1
    go_simp
    refine hK.out _ _ (fun h => absurd h (by decide)) ?_
    clear hK K
    try simp only [Act.put, List.setIfInBounds_toArray, List.set_cons_zero, List.set_cons_succ]
    refine wpLate_done (by kernel_rfl) ?_ _
    try simp only [Act.put, List.setIfInBounds_toArray, List.set_cons_zero, List.set_cons_succ]
    clear l0 lf K7
    have H8 := Lib.hid (HST.out _ H7.out.1 R cR HF.out)
    rw [HXL.out] at H8
    go_wp2_with fail
    go_roundg (s.calls.length - (k + 1))
    case measure => omega
    case rel => exact ⟨k + 1, by omega, Nat.le_refl _, by go_num, _, Lib.hid ⟨H8.out, HNM.out _ _⟩⟩
end Go.Proofs.Ytmclchaalmonnaa
