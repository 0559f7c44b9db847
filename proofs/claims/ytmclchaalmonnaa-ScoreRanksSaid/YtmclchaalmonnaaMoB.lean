/- Rows of calls that were copied, and are written to. -/
import Derived.Test.YtmclchaalmonnaaGrA
import Derived.Test.YtmclchaalmonnaaMoA
namespace Go.Proofs.Ytmclchaalmonnaa
open Go.RowKit Go.Lib
theorem VL.drew {W w : World} {r : Ru} {A : Option Addr} {c : Nat} {s : Sk} {AC AP : Option Addr} {cc cp : Nat} (h : VL W w r A c s AC AP cc cp) : VL W w.drew r A c s AC AP cc cp := h.step ((Below.refl _ _).drew)
/-- both boxes, and a score -/
structure XW (W w : World) (r : Ru) (A : Option Addr) (c : Nat) (s : Sk) (AC AP : Option Addr) (cc cp D : Nat) (x : Sc) : Prop where
  v : VL W w r A c s AC AP cc cp
  fx : Has w D 33 #[.int .i64 x.elements, .int .i64 x.parts, .int .i64 x.off, .int .i64 x.total]
theorem XW.step {W w w' : World} {r : Ru} {A : Option Addr} {c : Nat} {s : Sk} {AC AP : Option Addr} {cc cp D : Nat} {x : Sc} (h : XW W w r A c s AC AP cc cp D x) (hb : Below w.heap.size w w') : XW W w' r A c s AC AP cc cp D x := ⟨h.v.step hb, h.fx.below hb h.fx.lt⟩
theorem XW.drew {W w : World} {r : Ru} {A : Option Addr} {c : Nat} {s : Sk} {AC AP : Option Addr} {cc cp D : Nat} {x : Sc} (h : XW W w r A c s AC AP cc cp D x) : XW W w.drew r A c s AC AP cc cp D x := h.step ((Below.refl _ _).drew)
/-- a row of calls in a block of its own -/
def RowC (w : World) (g : Nat) (E : List En) : Prop := ∃ cur, Has w g 52 cur ∧ ∀ k (h : k < E.length) j, j < 6 → cur[k * 6 + j]? = (enc6 E[k])[j]?
section
variable {w w' : World} {g : Nat} {E : List En}
theorem RowC.lt (h : RowC w g E) : g < w.heap.size := by obtain ⟨cur, hh, -⟩ := h; exact hh.lt
theorem RowC.below (h : RowC w g E) {B : Nat} (hb : Below B w w') (hg : g < B) : RowC w' g E := by
  obtain ⟨cur, hh, hc⟩ := h
  exact ⟨cur, hh.below hb hg, hc⟩
theorem RowC.step (h : RowC w g E) (hb : Below w.heap.size w w') : RowC w' g E := h.below hb h.lt
theorem RowC.far (h : RowC w g E) {p : Addr} (hp : g ≠ p.block) (v : Value) : RowC (w.setCell p v) g E := by
  obtain ⟨cur, hh, hc⟩ := h
  exact ⟨cur, hh.far hp v, hc⟩
theorem RowC.cell (h : RowC w g E) {k : Nat} (hk : k < E.length) {j : Nat} (hj : j < 6) : w.cell? ⟨g, k * 6 + j, none⟩ = (enc6 E[k])[j]? := by
  obtain ⟨cur, hh, hc⟩ := h
  rw [hh.cell]
  exact hc k hk j hj
theorem RowC.frozen (h : RowC w g E) (i : Nat) : w.frozen? ⟨g, i, none⟩ = false := by
  obtain ⟨cur, hh, -⟩ := h
  exact hh.frozen i
theorem RowC.set (h : RowC w g E) {k : Nat} (hk : k < E.length) {j : Nat} (hj : j < 6) {e : En} {v : Value} (he : enc6 e = (enc6 E[k]).set j v) : RowC (w.setCell ⟨g, k * 6 + j, none⟩ v) g (E.set k e) := by
  obtain ⟨cur, hh, hc⟩ := h
  refine ⟨cur.setIfInBounds (k * 6 + j) v, hh.set _ _, fun i hi q hq => ?_⟩
  have hi' : i < E.length := by simpa using hi
  rw [Array.getElem?_setIfInBounds, List.getElem_set]
  have hsz : k * 6 + j < cur.size := by
    have := hc k hk j hj
    rw [List.getElem?_eq_getElem (by simp [enc6]; omega)] at this
    exact (Array.getElem?_eq_some_iff.1 this).1
  by_cases hki : k = i
  · subst hki
    rw [if_pos rfl, he]
    by_cases hjq : j = q
    · subst hjq
      rw [if_pos rfl, if_pos hsz, List.getElem?_set_self (by simp [enc6]; omega)]
    · rw [if_neg (by omega), List.getElem?_set_ne hjq]
      exact hc k hk q hq
  · rw [if_neg (by omega), if_neg hki]
    exact hc i hi' q hq
theorem RowC.of_own {base n : Nat} {v : Value} (hn : E.length = n) (h0 : 0 < n) (h : w.ownsRow base 52 6 v n (fl6 E)) : ∃ g cap, v = .slice (some ⟨g, 0, none⟩) n cap ∧ base ≤ g ∧ RowC w g E ∧ n ≤ cap := by
  obtain ⟨hl, ⟨rfl, h1⟩ | ⟨g, cap, cur, rfl, hB, hgc, h1, h2, h3, h4⟩⟩ := h
  · omega
  · have hh : Has w g 52 cur := hgc
    refine ⟨g, cap, rfl, hB, ⟨cur, hh, fun k hk j hj => ?_⟩, h1⟩
    have h5 : (cur.toList.take (n * 6))[k * 6 + j]? = (fl6 E)[k * 6 + j]? := by rw [h4]
    rw [List.getElem?_take_of_lt (by omega)] at h5
    have h6 : (fl6 E)[k * 6 + j]? = (enc6 E[k])[j]? := flat_get enc6 6 enc6_len E k hk j hj
    rw [← h6, ← h5]
    simp
theorem RowC.crow (h : RowC w g E) {B : Nat} (hg : g < B) (hE : ∀ e ∈ E, IRow w B e.M e.c.marks ∧ e.c.marks.length ≤ big) : CRow w B (some ⟨g, 0, none⟩) (E.map (·.c)) := fun k hk => by
  have hk' : k < E.length := by simpa using hk
  have he := hE _ (List.getElem_mem hk')
  refine ⟨g, 0, E[k].M, E[k].m, rfl, hg, fun j hj => ?_, ?_, ?_⟩
  · rw [Nat.zero_add, h.cell hk' hj]
    simp [enc6]
  · simpa using he.1
  · simpa using he.2
end
/-- an empty row of calls in a block of its own, above H -/
def Emp (w : World) (H b : Nat) : Prop := H ≤ b ∧ Has w b 52 #[]
theorem Emp.own {w : World} {H b : Nat} (h : Emp w H b) : w.ownsRow b 52 6 (.slice (some ⟨b, 0, none⟩) 0 0) 0 [] :=
  ⟨by simp, .inr ⟨b, 0, #[], rfl, Nat.le_refl _, by have := h.2; simpa [Has] using this, Nat.le_refl _, by unfold maxLen; omega, by simp, by simp⟩⟩
theorem Emp.new (w : World) {H : Nat} (h : H ≤ w.heap.size) : Emp (w.alloc (.cells #[] 52)) H w.heap.size := ⟨h, Has.new _ _ _⟩
theorem Emp.step {w w' : World} {H b : Nat} (h : Emp w H b) (hb : Below w.heap.size w w') : Emp w' H b := ⟨h.1, h.2.below hb h.2.lt⟩
theorem has_grown {w w' : World} {b g : Nat} {t : TypeId} {cs : Array Value} (hg : w.grownBy w' (some b)) (h : Has w g t cs) (hne : g ≠ b) : Has w' g t cs := by
  have := hg.block g h.lt (fun e => hne (Option.some.inj e))
  unfold Has at h ⊢
  rw [this]; exact h
theorem RowC.grown {w w' : World} {b g : Nat} {E : List En} (hg : w.grownBy w' (some b)) (h : RowC w g E) (hne : g ≠ b) : RowC w' g E := by
  obtain ⟨cur, hh, hc⟩ := h
  exact ⟨cur, has_grown hg hh hne, hc⟩
theorem Emp.grown {w w' : World} {b b1 H : Nat} (hg : w.grownBy w' (some b)) (h : Emp w H b1) (hne : b1 ≠ b) : Emp w' H b1 := ⟨h.1, has_grown hg h.2 hne⟩
theorem Emp.fill {w w' : World} {H b g cap n : Nat} {E : List En} (h : Emp w H b) (hn : E.length = n) (h0 : 0 < n) (hown : w'.ownsRow b 52 6 (.slice (some ⟨g, 0, none⟩) (0 + n) cap) (0 + n) ([] ++ fl6 E)) (hgr : w.grownBy w' (some b)) :
    RowC w' g E ∧ H ≤ g ∧ Below H w w' := by
  rw [Nat.zero_add, List.nil_append] at hown
  obtain ⟨g', cap', e, h1, h2, -⟩ := RowC.of_own hn h0 hown
  cases e
  have := h.2.lt
  have := h.1
  exact ⟨h2, by omega, grown_step hgr (by omega) (fun q hq => by cases hq; exact h.1)⟩
/-- two copies of a skating -/
structure YW (W w : World) (r : Ru) (A : Option Addr) (c : Nat) (s : Sk) (AC AP : Option Addr) (cc cp D F p q : Nat) (x : Sc) (fv pa qa : Array Value) : Prop where
  x : XW W w r A c s AC AP cc cp D x
  ff : Has w F 33 fv
  fp : Has w p 28 pa
  fq : Has w q 28 qa
  hF : D < F
  hp : F < p
  hq : F < q
  hpq : p ≠ q
  hD : W.heap.size + 1 < D
section
variable {W w w' : World} {r : Ru} {A : Option Addr} {c : Nat} {s : Sk} {AC AP : Option Addr} {cc cp D F p q : Nat} {x : Sc} {fv pa qa : Array Value}
theorem YW.step (h : YW W w r A c s AC AP cc cp D F p q x fv pa qa) (hb : Below w.heap.size w w') : YW W w' r A c s AC AP cc cp D F p q x fv pa qa := ⟨h.x.step hb, h.ff.below hb h.ff.lt, h.fp.below hb h.fp.lt, h.fq.below hb h.fq.lt, h.hF, h.hp, h.hq, h.hpq, h.hD⟩
theorem YW.drew (h : YW W w r A c s AC AP cc cp D F p q x fv pa qa) : YW W w.drew r A c s AC AP cc cp D F p q x fv pa qa := h.step ((Below.refl _ _).drew)
theorem XW.high (h : XW W w r A c s AC AP cc cp D x) (hD : W.heap.size + 1 < D) {B : Nat} (hB : D < B) (hb : Below B w w') : XW W w' r A c s AC AP cc cp D x := ⟨h.v.high hb (by omega), h.fx.below hb hB⟩
/-- what is written lies above the score's block, and in none of the three -/
theorem YW.far (h : YW W w r A c s AC AP cc cp D F p q x fv pa qa) {a : Addr} (h1 : F < a.block) (h2 : p ≠ a.block) (h3 : q ≠ a.block) (v : Value) : YW W (w.setCell a v) r A c s AC AP cc cp D F p q x fv pa qa := by
  have hb : Below (D + 1) w (w.setCell a v) := (Below.refl _ _).setCell (by have := h.hF; omega) v
  exact ⟨h.x.high h.hD (by omega) hb, h.ff.far (by omega) v, h.fp.far h2 v, h.fq.far h3 v, h.hF, h.hp, h.hq, h.hpq, h.hD⟩
theorem YW.setP (h : YW W w r A c s AC AP cc cp D F p q x fv pa qa) (i : Nat) (v : Value) {pa' : Array Value} (e : pa.setIfInBounds i v = pa') : YW W (w.setCell ⟨p, i, none⟩ v) r A c s AC AP cc cp D F p q x fv pa' qa := by
  have hb : Below (D + 1) w (w.setCell ⟨p, i, none⟩ v) := (Below.refl _ _).setCell (by have := h.hF; have := h.hp; simp only; omega) v
  exact ⟨h.x.high h.hD (by omega) hb, h.ff.far (by have := h.hp; simp only; omega) v, e ▸ h.fp.set i v, h.fq.far (fun e => h.hpq e.symm) v, h.hF, h.hp, h.hq, h.hpq, h.hD⟩
theorem YW.setQ (h : YW W w r A c s AC AP cc cp D F p q x fv pa qa) (i : Nat) (v : Value) {qa' : Array Value} (e : qa.setIfInBounds i v = qa') : YW W (w.setCell ⟨q, i, none⟩ v) r A c s AC AP cc cp D F p q x fv pa qa' := by
  have hb : Below (D + 1) w (w.setCell ⟨q, i, none⟩ v) := (Below.refl _ _).setCell (by have := h.hF; have := h.hq; simp only; omega) v
  exact ⟨h.x.high h.hD (by omega) hb, h.ff.far (by have := h.hq; simp only; omega) v, h.fp.far h.hpq v, e ▸ h.fq.set i v, h.hF, h.hp, h.hq, h.hpq, h.hD⟩
end
theorem YW.low {W w w' : World} {r : Ru} {A : Option Addr} {c : Nat} {s : Sk} {AC AP : Option Addr} {cc cp D F p q H : Nat} {x : Sc} {fv pa qa : Array Value} (h : YW W w r A c s AC AP cc cp D F p q x fv pa qa) (hb : Below H w w') (hp : p < H) (hq : q < H) : YW W w' r A c s AC AP cc cp D F p q x fv pa qa := by
  have := h.hF
  have := h.hp
  exact ⟨h.x.high h.hD (by omega) hb, h.ff.below hb (by omega), h.fp.below hb hp, h.fq.below hb hq, h.hF, h.hp, h.hq, h.hpq, h.hD⟩
/-- a row of numbers in a block of its own -/
def RowI (w : World) (g : Nat) (l : List Int) : Prop := ∃ cur, Has w g 3 cur ∧ ∀ k (h : k < l.length), cur[k]? = some (.int .i64 l[k])
section
variable {w w' : World} {g : Nat} {l : List Int}
theorem RowI.lt (h : RowI w g l) : g < w.heap.size := by obtain ⟨cur, hh, -⟩ := h; exact hh.lt
theorem RowI.step (h : RowI w g l) (hb : Below w.heap.size w w') : RowI w' g l := by
  have hl := h.lt
  obtain ⟨cur, hh, hc⟩ := h
  exact ⟨cur, hh.below hb hl, hc⟩
theorem RowI.far (h : RowI w g l) {p : Addr} (hp : g ≠ p.block) (v : Value) : RowI (w.setCell p v) g l := by
  obtain ⟨cur, hh, hc⟩ := h
  exact ⟨cur, hh.far hp v, hc⟩
theorem RowI.cell (h : RowI w g l) {k : Nat} (hk : k < l.length) : w.cell? ⟨g, k, none⟩ = some (.int .i64 l[k]) := by
  obtain ⟨cur, hh, hc⟩ := h
  rw [hh.cell]
  exact hc k hk
theorem RowI.frozen (h : RowI w g l) (i : Nat) : w.frozen? ⟨g, i, none⟩ = false := by
  obtain ⟨cur, hh, -⟩ := h
  exact hh.frozen i
theorem RowI.set (h : RowI w g l) {k : Nat} (hk : k < l.length) (x : Int) : RowI (w.setCell ⟨g, k, none⟩ (.int .i64 x)) g (l.set k x) := by
  obtain ⟨cur, hh, hc⟩ := h
  refine ⟨cur.setIfInBounds k (.int .i64 x), hh.set _ _, fun i hi => ?_⟩
  have hi' : i < l.length := by simpa using hi
  have hsz : k < cur.size := (Array.getElem?_eq_some_iff.1 (hc k hk)).1
  rw [Array.getElem?_setIfInBounds, List.getElem_set]
  by_cases hki : k = i
  · rw [if_pos hki, if_pos hki, if_pos hsz]
  · rw [if_neg hki, if_neg hki]
    exact hc i hi'
theorem RowI.irow (h : RowI w g l) : IRow w w.heap.size (some ⟨g, 0, none⟩) l := fun k hk => ⟨g, 0, rfl, h.lt, by rw [Nat.zero_add]; exact h.cell hk⟩
theorem RowI.of_own {base n cap : Nat} (hn : l.length = n) (h : w.ownsRow base 3 1 (.slice (some ⟨g, 0, none⟩) (0 + n) cap) (0 + n) ([] ++ ivl l)) : RowI w g l ∧ base ≤ g := by
  rw [Nat.zero_add, List.nil_append] at h
  obtain ⟨hl, ⟨e, h1⟩ | ⟨g', cap', cur, e, hB, hgc, h1, h2, h3, h4⟩⟩ := h
  · cases e
  · cases e
    have hh : Has w g 3 cur := hgc
    refine ⟨⟨cur, hh, fun k hk => ?_⟩, hB⟩
    have h5 : (cur.toList.take (n * 1))[k]? = (ivl l)[k]? := by rw [h4]
    rw [List.getElem?_take_of_lt (by omega)] at h5
    simpa [ivl, hk] using h5
end
def betR (a b : Sc) : Bool := decide (b.total < a.total) || (decide (a.total = b.total) && decide (b.elements < a.elements))
set_option maxRecDepth 100000 in
theorem Better_any (a b : Sc) (W : World) : Calls Try.prog 37 #[scv a, scv b] W (BoolPost (betR a b) W) := by
  have HB : Hid (Below W.heap.size W ((W.alloc (.cells (scc a) 33)).alloc (.cells (scc b) 33)) ∧ Has ((W.alloc (.cells (scc a) 33)).alloc (.cells (scc b) 33)) W.heap.size 33 (scc a) ∧ Has ((W.alloc (.cells (scc a) 33)).alloc (.cells (scc b) 33)) (W.heap.size + 1) 33 (scc b)) := Lib.hid ⟨(below_one W _).alloc (by simp) _, (Has.new _ _ _).alloc _, has_newAt (by simp)⟩
  have h3 : b.total < a.total ∨ (¬ b.total < a.total ∧ ¬ a.total = b.total) ∨ (¬ b.total < a.total ∧ a.total = b.total ∧ b.elements < a.elements) ∨ (¬ b.total < a.total ∧ a.total = b.total ∧ ¬ b.elements < a.elements) := by omega
  unfold scv
  go_enter Try.func37, Try.ntmps37
  go_upto_region 1 with fail
  generalize (W.alloc (.cells (scc a) 33)).alloc (.cells (scc b) 33) = w0 at HB ⊢
  have a0 : w0.cell? ⟨W.heap.size, 0, none⟩ = some (.int .i64 a.elements) := HB.out.2.1.cell 0
  have a3 : w0.cell? ⟨W.heap.size, 3, none⟩ = some (.int .i64 a.total) := HB.out.2.1.cell 3
  have b0 : w0.cell? ⟨W.heap.size + 1, 0, none⟩ = some (.int .i64 b.elements) := HB.out.2.2.cell 0
  have b3 : w0.cell? ⟨W.heap.size + 1, 3, none⟩ = some (.int .i64 b.total) := HB.out.2.2.cell 3
  rcases h3 with h0 | ⟨h0, h1⟩ | ⟨h0, h1, h2⟩ | ⟨h0, h1, h2⟩
  · have HE : Hid (betR a b = true) := Lib.hid (by simp [betR, h0])
    go_wp2_with fail
    go_ret
    exact ⟨ret_bool HE.out.symm, HB.out.1⟩
  · have HE : Hid (betR a b = false) := Lib.hid (by simp [betR, h0, h1])
    have q : (a.total == b.total) = false := by simpa using h1
    clear h1
    go_wp2_with fail
    go_ret
    exact ⟨ret_bool HE.out.symm, HB.out.1⟩
  · have HE : Hid (betR a b = true) := Lib.hid (by simp [betR, h1, h2])
    have q : (a.total == b.total) = true := by simpa using h1
    clear h1
    go_wp2_with fail
    go_ret
    exact ⟨ret_bool HE.out.symm, HB.out.1⟩
  · have HE : Hid (betR a b = false) := Lib.hid (by simp [betR, h1]; omega)
    have q : (a.total == b.total) = true := by simpa using h1
    clear h1
    go_wp2_with fail
    go_ret
    exact ⟨ret_bool HE.out.symm, HB.out.1⟩
theorem irow_own {w : World} {g : Nat} {t : TypeId} {l : List Int} (h : Has w g t (ils l)) : IRow w w.heap.size (some ⟨g, 0, none⟩) l := irow_has h
theorem sk_set {W w : World} {s : Sk} {AC AP : Option Addr} (hs : SkR W W.heap.size s AC AP) (hb : Below W.heap.size W w) {E : List En} (hE : E.map (·.c) = s.calls) (hER : ∀ e ∈ E, IRow W W.heap.size e.M e.c.marks ∧ e.c.marks.length ≤ big) {k : Nat} {e : En} (he : IRow w w.heap.size e.M e.c.marks ∧ e.c.marks.length ≤ big) {g : Nat} (h : RowC w g (E.set k e)) : SkR w w.heap.size (setC s k e.c) (some ⟨g, 0, none⟩) AP := by
  have h1 := h.crow h.lt (fun x hx => (List.mem_or_eq_of_mem_set hx).elim (fun h' => ⟨((hER x h').1.below hb).more hb.size, (hER x h').2⟩) (fun e' => by rw [e']; exact he))
  rw [List.map_set, hE] at h1
  exact ⟨h1, (hs.p.below hb).more hb.size, by simp only [setC, List.length_set]; exact hs.lc, hs.lp⟩
theorem YW.setF {W w : World} {r : Ru} {A : Option Addr} {c : Nat} {s : Sk} {AC AP : Option Addr} {cc cp D F p q : Nat} {x : Sc} {fv pa qa : Array Value} (h : YW W w r A c s AC AP cc cp D F p q x fv pa qa) (i : Nat) (v : Value) {fv' : Array Value} (e : fv.setIfInBounds i v = fv') : YW W (w.setCell ⟨F, i, none⟩ v) r A c s AC AP cc cp D F p q x fv' pa qa := by
  have hb : Below (D + 1) w (w.setCell ⟨F, i, none⟩ v) := (Below.refl _ _).setCell (by have := h.hF; simp only; omega) v
  exact ⟨h.x.high h.hD (by omega) hb, e ▸ h.ff.set i v, h.fp.far (by have := h.hp; simp only; omega) v, h.fq.far (by have := h.hq; simp only; omega) v, h.hF, h.hp, h.hq, h.hpq, h.hD⟩
end Go.Proofs.Ytmclchaalmonnaa
