/- Copies of rows by append, and rows that lie apart from a block. -/
import Derived.Test.YtogabjlhecnbbaaPlays
import Derived.Laws.AppendOwnNone
namespace Go.Proofs.Ytogabjlhecnbbaa
open Go.RowKit Go.Shelf
theorem Try.info54 : (Try.prog.info? 54).map (fun i => (i.zero, i.size, i.bytes)) = some (some (.agg #[iv 0, iv 0, iv 0, iv 0, iv 0]), 5, 40) := by kernel_rfl

theorem wpList_append_copy {P : Program} {w : World} {ops : Array Oper} {rest : List Oper} {o : Oper} {a : Act} {Q : Exit → Act → World → Prop} (hgd : o.guard = none) (s x : Operand) (t : TypeId)
    (ho : o.op = .call { callee := .builtin .append, args := #[s, x], argTypes := #[t, t] })
    (base : Nat) (e : TypeId) (i : TypeInfo) (z : Value) (size bytes : Nat) (ht : P.underlying t = some (.slice e)) (hi : P.info? e = some i) (hz : i.zero = some z)
    (hsize : i.size = size) (hby : i.bytes = bytes) (hzs : z.cells.size = size) (hsz : 0 < size)
    (v : Value) (n : Nat) (xs : List Value) (hs : a.eval s = v) (hown : w.ownsRow base e size v n xs)
    (A : Option Addr) (m c : Nat) (news : List Value) (hx : a.eval x = .slice A m c) (hA : A = none → m = 0 ∧ c = 0) (hl : news.length = m * size) (hnews : ∀ ad, A = some ad → ∀ j u, news[j]? = some u → w.cell? (ad.add j) = some u) (h1 : ∀ u ∈ news, u.oneCell' = true)
    (h63 : n + m ≤ maxLen) (hbytes : (n + m) * bytes ≤ 140737488355328) (hbase : base ≤ w.heap.size)
    (h : ∀ v' w', w'.ownsRow base e size v' (n + m) (xs ++ news) → w.grownBy w' v.ownBlock → wpList P ops Q rest (a.put o.dst v') w') : wpList P ops Q (o :: rest) a w := by
  cases A with
  | some ad => exact wpList_append_own w hgd s x t ho base e i z size bytes ht hi hz hsize hby hzs hsz v n xs hs hown ad m c news hx hl (hnews ad rfl) h1 h63 hbytes hbase (fun v' w' g1 g2 _ => h v' w' g1 g2)
  | none =>
    obtain ⟨rfl, rfl⟩ := hA rfl
    obtain rfl : news = [] := List.eq_nil_of_length_eq_zero (by omega)
    refine wpList_append_own_none hgd s x t ho base e i size ht hi v n xs hs hown hx (h v w ?_ ⟨rfl, rfl, rfl, Nat.le_refl _, fun _ _ _ => rfl⟩)
    simpa using hown

/-- zones in a row that lies apart from a block -/
def ZAp (w : World) (B : Nat) (A : Option Addr) (zs : List Zn) : Prop :=
  ∀ k (h : k < zs.length), ∃ g o, A = some ⟨g, o, none⟩ ∧ g < w.heap.size ∧ g ≠ B ∧ w.cell? ⟨g, o + k * 4, none⟩ = some (iv zs[k].a) ∧ w.cell? ⟨g, o + k * 4 + 1, none⟩ = some (iv zs[k].b) ∧
    w.cell? ⟨g, o + k * 4 + 2, none⟩ = some (iv zs[k].c) ∧ w.cell? ⟨g, o + k * 4 + 3, none⟩ = some (iv zs[k].d)
def EAp (w : World) (B : Nat) (A : Option Addr) (es : List Ev) : Prop :=
  ∀ k (h : k < es.length), ∃ g o, A = some ⟨g, o, none⟩ ∧ g < w.heap.size ∧ g ≠ B ∧ w.cell? ⟨g, o + k * 5, none⟩ = some (iv es[k].k) ∧ w.cell? ⟨g, o + k * 5 + 1, none⟩ = some (iv es[k].f) ∧
    w.cell? ⟨g, o + k * 5 + 2, none⟩ = some (iv es[k].t) ∧ w.cell? ⟨g, o + k * 5 + 3, none⟩ = some (iv es[k].x) ∧ w.cell? ⟨g, o + k * 5 + 4, none⟩ = some (iv es[k].y)
section
variable {w w' : World} {B N : Nat} {A : Option Addr} {zs : List Zn} {es : List Ev}
theorem ZAp.row (h : ZAp w B A zs) : ZRow w w.heap.size A zs := fun k hk => by
  obtain ⟨g, o, e, hg, _, c⟩ := h k hk
  exact ⟨g, o, e, hg, c⟩
theorem EAp.row (h : EAp w B A es) : ERow w w.heap.size A es := fun k hk => by
  obtain ⟨g, o, e, hg, _, c⟩ := h k hk
  exact ⟨g, o, e, hg, c⟩
theorem ZAp.of (h : ZRow w N A zs) (h1 : N ≤ B) (h2 : N ≤ w.heap.size) : ZAp w B A zs := fun k hk => by
  obtain ⟨g, o, e, hg, c⟩ := h k hk
  exact ⟨g, o, e, by omega, by omega, c⟩
theorem EAp.of (h : ERow w N A es) (h1 : N ≤ B) (h2 : N ≤ w.heap.size) : EAp w B A es := fun k hk => by
  obtain ⟨g, o, e, hg, c⟩ := h k hk
  exact ⟨g, o, e, by omega, by omega, c⟩
theorem only_cell {g i : Nat} (h : Only (fun j => j = B) w w') (hg : g < w.heap.size) (hB : g ≠ B) : w'.cell? ⟨g, i, none⟩ = w.cell? ⟨g, i, none⟩ := World.cell?_of_block (h.block g hg hB)
theorem ZAp.only (h : ZAp w B A zs) (ho : Only (fun j => j = B) w w') : ZAp w' B A zs := fun k hk => by
  obtain ⟨g, o, e, hg, hB, c0, c1, c2, c3⟩ := h k hk
  have := ho.size
  exact ⟨g, o, e, by omega, hB, (only_cell ho hg hB).trans c0, (only_cell ho hg hB).trans c1, (only_cell ho hg hB).trans c2, (only_cell ho hg hB).trans c3⟩
theorem EAp.only (h : EAp w B A es) (ho : Only (fun j => j = B) w w') : EAp w' B A es := fun k hk => by
  obtain ⟨g, o, e, hg, hB, c0, c1, c2, c3, c4⟩ := h k hk
  have := ho.size
  exact ⟨g, o, e, by omega, hB, (only_cell ho hg hB).trans c0, (only_cell ho hg hB).trans c1, (only_cell ho hg hB).trans c2, (only_cell ho hg hB).trans c3, (only_cell ho hg hB).trans c4⟩
theorem own_zap {base : Nat} {v : Value} (h : w.ownsRow base 60 4 v zs.length (flat zs).toList) (hB : 0 < zs.length → ∀ g, base ≤ g → g < w.heap.size → g ≠ B) : ∃ A cap, v = .slice A zs.length cap ∧ (A = none → zs.length = 0 ∧ cap = 0) ∧ ZAp w B A zs := by
  obtain ⟨_, (⟨rfl, h0⟩ | ⟨g, cap, cur, rfl, hb, hg, h1, h2, h3, h4⟩)⟩ := h
  · exact ⟨none, 0, by rw [h0], fun _ => ⟨h0, rfl⟩, fun k hk => absurd hk (by omega)⟩
  · refine ⟨some ⟨g, 0, none⟩, cap, rfl, (fun h => by cases h), fun k hk => ?_⟩
    have hg1 : Has w g 60 cur := hg
    have hgl := hg1.lt
    have hc : ∀ j, j < zs.length * 4 → cur[j]? = (flat zs)[j]? := fun j hj => by
      have := congrArg (fun l : List Value => l[j]?) h4
      simp only [List.getElem?_take_of_lt hj] at this
      simpa using this
    obtain ⟨y0, y1, y2, y3⟩ := flat_at hk
    refine ⟨g, 0, rfl, hgl, hB (by omega) g hb hgl, ?_, ?_, ?_, ?_⟩ <;> simp only [Nat.zero_add]
    · rw [hg1.cell, hc _ (by omega)]; exact y0
    · rw [hg1.cell, hc _ (by omega)]; exact y1
    · rw [hg1.cell, hc _ (by omega)]; exact y2
    · rw [hg1.cell, hc _ (by omega)]; exact y3
theorem eflat_size (es : List Ev) : (eflat es).size = es.length * 5 := by
  unfold eflat
  simp only [List.size_toArray]
  induction es with
  | nil => rfl
  | cons z zs ih => simp only [List.flatMap_cons, List.length_append, List.length_cons, List.length_nil, ih]; omega
theorem eflat_one (es : List Ev) : ∀ u ∈ (eflat es).toList, u.oneCell' = true := by
  intro u hu
  unfold eflat at hu
  simp only [List.mem_flatMap] at hu
  obtain ⟨z, _, hz⟩ := hu
  simp only [List.mem_cons, List.not_mem_nil, or_false] at hz
  rcases hz with rfl | rfl | rfl | rfl | rfl <;> rfl
theorem own_eap {base : Nat} {v : Value} (h : w.ownsRow base 54 5 v es.length (eflat es).toList) (hB : 0 < es.length → ∀ g, base ≤ g → g < w.heap.size → g ≠ B) : ∃ A cap, v = .slice A es.length cap ∧ EAp w B A es := by
  obtain ⟨_, (⟨rfl, h0⟩ | ⟨g, cap, cur, rfl, hb, hg, h1, h2, h3, h4⟩)⟩ := h
  · exact ⟨none, 0, by rw [h0], fun k hk => absurd hk (by omega)⟩
  · refine ⟨some ⟨g, 0, none⟩, cap, rfl, fun k hk => ?_⟩
    have hg1 : Has w g 54 cur := hg
    have hgl := hg1.lt
    have hc : ∀ j, j < es.length * 5 → cur[j]? = (eflat es)[j]? := fun j hj => by
      have := congrArg (fun l : List Value => l[j]?) h4
      simp only [List.getElem?_take_of_lt hj] at this
      simpa using this
    have y : ∀ j, j < 5 → cur[k * 5 + j]? = [iv es[k].k, iv es[k].f, iv es[k].t, iv es[k].x, iv es[k].y][j]? := fun j hj => (hc _ (by omega)).trans (eflat_get es k hk j hj)
    refine ⟨g, 0, rfl, hgl, hB (by omega) g hb hgl, ?_, ?_, ?_, ?_, ?_⟩ <;> simp only [Nat.zero_add] <;> rw [hg1.cell]
    · exact y 0 (by omega)
    · exact y 1 (by omega)
    · exact y 2 (by omega)
    · exact y 3 (by omega)
    · exact y 4 (by omega)
theorem zrow_news (h : ZRow w N A zs) : ∀ ad, A = some ad → ∀ j u, (flat zs).toList[j]? = some u → w.cell? (ad.add j) = some u := by
  rintro ad rfl j u hu
  have hj : j < zs.length * 4 := by
    have := (List.getElem?_eq_some_iff.1 hu).1
    have hs := flat_size zs
    simp only [Array.length_toList] at this
    omega
  obtain ⟨g, o, e, _, _⟩ := h 0 (by omega)
  have e' : ad = ⟨g, o, none⟩ := by simpa using e
  subst e'
  rw [show (⟨g, o, none⟩ : Addr).add j = ⟨g, o + j, none⟩ from by unfold Addr.add; split <;> simp_all]
  have hd : j / 4 * 4 + j % 4 = j := by omega
  have hq : j / 4 < zs.length := by omega
  obtain ⟨g', o', e, hg, c0, c1, c2, c3⟩ := h (j / 4) hq
  obtain ⟨rfl, rfl⟩ : g = g' ∧ o = o' := by simpa using e
  have hf := flat_get zs (j / 4) hq (j % 4) (by omega)
  rw [hd] at hf
  rw [Array.getElem?_toList, hf] at hu
  have h4 : j % 4 = 0 ∨ j % 4 = 1 ∨ j % 4 = 2 ∨ j % 4 = 3 := by omega
  rcases h4 with e4 | e4 | e4 | e4 <;> rw [e4] at hu hd <;> simp only [List.getElem?_cons_zero, List.getElem?_cons_succ, Option.some.injEq] at hu <;> subst hu
  · rw [show o + j = o + j / 4 * 4 by omega]; exact c0
  · rw [show o + j = o + j / 4 * 4 + 1 by omega]; exact c1
  · rw [show o + j = o + j / 4 * 4 + 2 by omega]; exact c2
  · rw [show o + j = o + j / 4 * 4 + 3 by omega]; exact c3
theorem erow_news (h : ERow w N A es) : ∀ ad, A = some ad → ∀ j u, (eflat es).toList[j]? = some u → w.cell? (ad.add j) = some u := by
  rintro ad rfl j u hu
  have hj : j < es.length * 5 := by
    have := (List.getElem?_eq_some_iff.1 hu).1
    have hs := eflat_size es
    simp only [Array.length_toList] at this
    omega
  obtain ⟨g, o, e, _, _⟩ := h 0 (by omega)
  have e' : ad = ⟨g, o, none⟩ := by simpa using e
  subst e'
  rw [show (⟨g, o, none⟩ : Addr).add j = ⟨g, o + j, none⟩ from by unfold Addr.add; split <;> simp_all]
  have hd : j / 5 * 5 + j % 5 = j := by omega
  have hq : j / 5 < es.length := by omega
  obtain ⟨g', o', e, hg, c0, c1, c2, c3, c4⟩ := h (j / 5) hq
  obtain ⟨rfl, rfl⟩ : g = g' ∧ o = o' := by simpa using e
  have hf := eflat_get es (j / 5) hq (j % 5) (by omega)
  rw [hd] at hf
  rw [Array.getElem?_toList, hf] at hu
  have h4 : j % 5 = 0 ∨ j % 5 = 1 ∨ j % 5 = 2 ∨ j % 5 = 3 ∨ j % 5 = 4 := by omega
  rcases h4 with e4 | e4 | e4 | e4 | e4 <;> rw [e4] at hu hd <;> simp only [List.getElem?_cons_zero, List.getElem?_cons_succ, Option.some.injEq] at hu <;> subst hu
  · rw [show o + j = o + j / 5 * 5 by omega]; exact c0
  · rw [show o + j = o + j / 5 * 5 + 1 by omega]; exact c1
  · rw [show o + j = o + j / 5 * 5 + 2 by omega]; exact c2
  · rw [show o + j = o + j / 5 * 5 + 3 by omega]; exact c3
  · rw [show o + j = o + j / 5 * 5 + 4 by omega]; exact c4
/-- an empty slice that is made -/
theorem own_made (e : TypeId) (size : Nat) : (w.alloc (.cells #[] e)).ownsRow w.heap.size e size (.slice (some ⟨w.heap.size, 0, none⟩) 0 0) 0 [] :=
  ⟨by simp, .inr ⟨w.heap.size, 0, #[], rfl, Nat.le_refl _, by have := Has.new w e #[]; simpa [Has] using this, Nat.le_refl _, by unfold maxLen; omega, by simp, by simp⟩⟩
theorem own_madeAt {n : Nat} (h : n = w.heap.size) (e : TypeId) (size : Nat) : (w.alloc (.cells #[] e)).ownsRow n e size (.slice (some ⟨n, 0, none⟩) 0 0) 0 [] := by subst h; exact own_made e size
end
theorem play_own {zs : List Zn} {es : List Ev} {w w' : World} {r : Ending} (h : PlayPost (playR zs es) w r w') :
    ∃ A cap B, r = .returned (.tuple #[.slice A (playR zs es).zs.length cap, smv (playR zs es).s, iv (playR zs es).i, iv (playR zs es).e]) ∧ Below w.heap.size w w' ∧ ZRow w' w'.heap.size A (playR zs es).zs ∧
      (A = none → (playR zs es).zs.length = 0 ∧ cap = 0) ∧ w.heap.size ≤ B ∧ B ≠ w'.heap.size ∧ (0 < (playR zs es).zs.length → A = some ⟨B, 0, none⟩ ∧ Has w' B 60 (flat (playR zs es).zs)) := by
  obtain ⟨sl, rfl, hb, ⟨h0, rfl⟩ | ⟨_, B, hBl, rfl, hB⟩⟩ := h
  · rw [playR_nil h0]; exact ⟨none, 0, w'.heap.size + 1, rfl, hb, zrow_nil _, fun _ => ⟨rfl, rfl⟩, by have := hb.size; omega, by omega, fun h => absurd h (by simp)⟩
  · exact ⟨_, _, B, rfl, hb, zrow_app (tl := #[]) (by simpa using hB), (fun h => by cases h), hBl, by have := hB.lt; omega, fun _ => ⟨rfl, hB⟩⟩
theorem Try.stood54 : Try.prog.stoodInHeld 54 = false := by kernel_rfl
theorem Try.fields54 : Try.prog.underlying 54 = some (.struct (Try.prog.fieldsOf 54)) := by kernel_rfl
theorem equal54 (n : Nat) (x : Ev) (w : World) : (Op.equalIn (n + 3) 54 (evv x) (evv x)).run Try.prog w = .ok true w := by
  rw [run_equalIn_struct w (n + 2) 54 _ _ Try.fields54 Try.stood54]
  obtain ⟨a, b, c, d, e⟩ := x
  simp [Program.fieldsOf, Try.underlying54, Op.eqFields, go_sem]
theorem neq54 (x : Ev) (w : World) : (binOp .neq 54 (evv x) (evv x)).run Try.prog w = .ok (.bool false) w := by
  rw [run_neq_struct, equal54 9997]; rfl
end Go.Proofs.Ytogabjlhecnbbaa
