/- What the law that nothing is shared needs: rows copied by append, and the end of Play as blocks that may be written to. -/
import Derived.Test.YtjfopmjphiddiaaWhC
import Derived.Test.YtjfopmjphiddiaaLwE
namespace Go.Proofs.Ytjfopmjphiddiaa
open Go.RowKit Go.Shelf
theorem run_append_none_cap {P : Program} {w : World} (base : Nat) (t ty e : TypeId) (i : TypeInfo) (size : Nat) (ht : P.underlying t = some (.slice e)) (hi : P.info? e = some i)
    (v : Value) (n : Nat) (xs : List Value) (hown : w.ownsRow base e size v n xs) (c : Nat) :
    (Builtin.append_ #[t, t] ty #[v, .slice none 0 c]).run P w = .ok v w := by
  rcases hown.2 with ⟨rfl, rfl⟩ | ⟨g, cap, cur, rfl, _, _, hnc, _⟩
  · simp [Builtin.append_, run_underlying ht, sizeOf, typeInfo, hi, Builtin.lenOf, Builtin.firstCells]
  · simp [Builtin.append_, run_underlying ht, sizeOf, typeInfo, hi, Builtin.lenOf, Builtin.firstCells, hnc, storeCells]
theorem wpList_append_row {P : Program} {w : World} {ops : Array Oper} {rest : List Oper} {o : Oper} {a : Act} {Q : Exit → Act → World → Prop} (hgd : o.guard = none) (s x : Operand) (t : TypeId)
    (ho : o.op = .call { callee := .builtin .append, args := #[s, x], argTypes := #[t, t] })
    (base : Nat) (e : TypeId) (i : TypeInfo) (z : Value) (size bytes : Nat) (ht : P.underlying t = some (.slice e)) (hi : P.info? e = some i) (hz : i.zero = some z)
    (hsize : i.size = size) (hby : i.bytes = bytes) (hzs : z.cells.size = size) (hsz : 0 < size)
    (v : Value) (n : Nat) (xs : List Value) (hs : a.eval s = v) (hown : w.ownsRow base e size v n xs)
    (A : Option Addr) (m c : Nat) (news : List Value) (hx : a.eval x = .slice A m c) (hA : A = none → m = 0) (hl : news.length = m * size) (hnews : ∀ ad, A = some ad → ∀ j u, news[j]? = some u → w.cell? (ad.add j) = some u) (h1 : ∀ u ∈ news, u.oneCell' = true)
    (h63 : n + m ≤ maxLen) (hbytes : (n + m) * bytes ≤ 140737488355328) (hbase : base ≤ w.heap.size)
    (h : ∀ v' w', w'.ownsRow base e size v' (n + m) (xs ++ news) → w.grownBy w' v.ownBlock → wpList P ops Q rest (a.put o.dst v') w') : wpList P ops Q (o :: rest) a w := by
  cases A with
  | some ad => exact wpList_append_own w hgd s x t ho base e i z size bytes ht hi hz hsize hby hzs hsz v n xs hs hown ad m c news hx hl (hnews ad rfl) h1 h63 hbytes hbase (fun v' w' g1 g2 _ => h v' w' g1 g2)
  | none =>
    obtain rfl := hA rfl
    obtain rfl : news = [] := List.eq_nil_of_length_eq_zero (by omega)
    refine wpList_plain hgd fun K hK => ?_
    have hrun := run_append_none_cap (P := P) (w := w) base t o.type e i size ht hi v n xs hown c
    unfold Oper.wp
    simp [execOp, ho, resolve, invoke, builtin, hs, hx, hrun, Result.andThen]
    exact hK _ _ (h v w (by simpa using hown) ⟨rfl, rfl, rfl, Nat.le_refl _, fun _ _ _ => rfl⟩)
theorem srow_none {w : World} {B : Nat} {A : Option Addr} {l : List Sl} (h : SRow w B A l) : A = none → l.length = 0 := fun hA => by
  cases l with
  | nil => rfl
  | cons s t => obtain ⟨_, _, e, _⟩ := h 0 (by simp); rw [hA] at e; cases e
theorem erow_none {w : World} {B : Nat} {A : Option Addr} {l : List Ev} (h : ERow w B A l) : A = none → l.length = 0 := fun hA => by
  cases l with
  | nil => rfl
  | cons s t => obtain ⟨_, _, e, _⟩ := h 0 (by simp); rw [hA] at e; cases e
theorem eli_one (l : List Ev) : ∀ u ∈ eli l, u.oneCell' = true := by
  intro u hu
  unfold eli at hu
  simp only [List.mem_flatMap] at hu
  obtain ⟨z, _, hz⟩ := hu
  simp only [List.mem_cons, List.not_mem_nil, or_false] at hz
  rcases hz with rfl | rfl | rfl | rfl <;> rfl
theorem erow_cells {w : World} {B : Nat} {A : Option Addr} {l : List Ev} (h : ERow w B A l) (ad : Addr) (hA : A = some ad) : ∀ j u, (eli l)[j]? = some u → w.cell? (ad.add j) = some u := by
  intro j u hu
  have hj : j < l.length * 4 := by have := (List.getElem?_eq_some_iff.1 hu).1; rwa [eli_len] at this
  have hk : j / 4 < l.length := by omega
  obtain ⟨g, o, e, _, x0, x1, x2, x3⟩ := h (j / 4) hk
  rw [hA] at e; cases e
  rw [addr_add]
  have y : ∀ i, i < 4 → (eli l)[j / 4 * 4 + i]? = [iv l[j / 4].k, iv l[j / 4].p, iv l[j / 4].a, iv l[j / 4].h][i]? := fun i hi => flat_get (fun e : Ev => [iv e.k, iv e.p, iv e.a, iv e.h]) 4 (fun _ => rfl) l (j / 4) hk i hi
  have h4 : j = j / 4 * 4 ∨ j = j / 4 * 4 + 1 ∨ j = j / 4 * 4 + 2 ∨ j = j / 4 * 4 + 3 := by omega
  rcases h4 with e | e | e | e
  · have y0 := y 0 (by omega); rw [Nat.add_zero, ← e, hu] at y0; cases y0; rw [show o + j = o + j / 4 * 4 by omega]; exact x0
  · have y0 := y 1 (by omega); rw [← e, hu] at y0; cases y0; rw [show o + j = o + j / 4 * 4 + 1 by omega]; exact x1
  · have y0 := y 2 (by omega); rw [← e, hu] at y0; cases y0; rw [show o + j = o + j / 4 * 4 + 2 by omega]; exact x2
  · have y0 := y 3 (by omega); rw [← e, hu] at y0; cases y0; rw [show o + j = o + j / 4 * 4 + 3 by omega]; exact x3
theorem own_made (w : World) (e : TypeId) (size : Nat) : (w.alloc (.cells #[] e)).ownsRow w.heap.size e size (.slice (some ⟨w.heap.size, 0, none⟩) 0 0) 0 [] :=
  ⟨by simp, .inr ⟨w.heap.size, 0, #[], rfl, Nat.le_refl _, by have := Has.new w e #[]; simpa [Has] using this, Nat.le_refl _, by unfold maxLen; omega, by simp, by simp⟩⟩
/-- the end of Play, as blocks that may be written to -/
structure EndI (W : World) (A : Option Addr) (qs : List Qu) (N B : Nat) : Prop where
  p : ∀ i (h : i < qs.length), ∃ Bn r cs, A = some ⟨Bn, 0, none⟩ ∧ N ≤ Bn ∧ Bn < B ∧ Has W Bn 51 cs ∧ cs[i * 2]? = some (iv r) ∧ cs[i * 2 + 1]? = some qs[i].sv
  q : ∀ q ∈ qs, ∃ cur, Has W q.g 23 cur ∧ q.off + q.l.length * 2 ≤ cur.size ∧ N ≤ q.g ∧ q.g < B
theorem has_ne {W : World} {g g' : Nat} {t t' : TypeId} {cs cs' : Array Value} (h : Has W g t cs) (h' : Has W g' t' cs') (hne : t ≠ t') : g ≠ g' := fun e => by
  subst e
  unfold Has at h h'
  rw [h] at h'
  simp only [Option.some.injEq, Obj.cells.injEq] at h'
  exact hne h'.2.1
theorem EndI.set23 {W : World} {A : Option Addr} {qs : List Qu} {N B : Nat} (h : EndI W A qs N B) {g : Nat} {cur : Array Value} (hg : Has W g 23 cur) (o : Nat) (v : Value) : EndI (W.setCell ⟨g, o, none⟩ v) A qs N B := by
  refine ⟨fun i hi => ?_, fun q hq => ?_⟩
  · obtain ⟨Bn, r, cs, e, h1, h2, h3, h4, h5⟩ := h.p i hi
    exact ⟨Bn, r, cs, e, h1, h2, h3.far (p := ⟨g, o, none⟩) (has_ne h3 hg (by decide)) v, h4, h5⟩
  · obtain ⟨cur', h1, h2, h3, h4⟩ := h.q q hq
    by_cases hgg : q.g = g
    · refine ⟨cur'.setIfInBounds o v, ?_, by simpa using h2, h3, h4⟩
      have := h1.set o v
      rwa [hgg] at this ⊢
    · exact ⟨cur', h1.far (p := ⟨g, o, none⟩) hgg v, h2, h3, h4⟩
theorem EndI.set51 {W : World} {A : Option Addr} {qs : List Qu} {N B : Nat} (h : EndI W A qs N B) {Bn i : Nat} (hA : A = some ⟨Bn, 0, none⟩) (hi : i < qs.length) (x : Int) : EndI (W.setCell ⟨Bn, i * 2, none⟩ (.int .i64 x)) A qs N B := by
  obtain ⟨B0, r0, cs0, e0, a1, a2, a3, a4, a5⟩ := h.p i hi
  obtain rfl : B0 = Bn := by rw [hA] at e0; simpa using e0.symm
  have hlt : i * 2 < cs0.size := (Array.getElem?_eq_some_iff.1 a4).1
  refine ⟨fun j hj => ?_, fun q hq => ?_⟩
  · obtain ⟨B1, r, cs, e, h1, h2, h3, h4, h5⟩ := h.p j hj
    obtain rfl : B1 = B0 := by rw [hA] at e; simpa using e.symm
    have hcs : cs = cs0 := by
      unfold Has at h3 a3
      rw [h3] at a3
      simp only [Option.some.injEq, Obj.cells.injEq] at a3
      exact a3.1
    subst hcs
    by_cases hij : i = j
    · subst hij
      refine ⟨B1, x, _, e, h1, h2, a3.set (i * 2) _, ?_, ?_⟩
      · simp [hlt]
      · rw [Array.getElem?_setIfInBounds_ne (by omega)]; exact h5
    · refine ⟨B1, r, _, e, h1, h2, a3.set (i * 2) _, ?_, ?_⟩
      · rw [Array.getElem?_setIfInBounds_ne (by omega)]; exact h4
      · rw [Array.getElem?_setIfInBounds_ne (by omega)]; exact h5
  · obtain ⟨cur', h1, h2, h3, h4⟩ := h.q q hq
    exact ⟨cur', h1.far (p := ⟨B0, i * 2, none⟩) (has_ne h1 a3 (by decide)) _, h2, h3, h4⟩
theorem EndI.alloc {W : World} {A : Option Addr} {qs : List Qu} {N B : Nat} (h : EndI W A qs N B) (o : Obj) : EndI (W.alloc o) A qs N B :=
  ⟨fun i hi => by obtain ⟨Bn, r, cs, e, h1, h2, h3, h4⟩ := h.p i hi; exact ⟨Bn, r, cs, e, h1, h2, h3.alloc o, h4⟩, fun q hq => by obtain ⟨cur, h1, h2⟩ := h.q q hq; exact ⟨cur, h1.alloc o, h2⟩⟩
def zY : Yx := ⟨[], sl0, ⟨0, 0, Sm.zero⟩⟩
/-- what Play returns, whether it ends well or not -/
def endY (x : Option Yx × Nat × Int) : Yx := x.1.getD zY
theorem play_end {x : Option Yx × Nat × Int} {W W' : World} {e : Ending} (h : PlayPost x W e W') :
    ∃ A cap qs, e = .returned (.tuple #[brv (endY x).t A qs.length cap (endY x).r.heat (endY x).r.room, smv (endY x).r.s, .int .i64 x.2.1, .int .i64 x.2.2]) ∧ qs.map Qu.pp = (endY x).ps ∧ Below W.heap.size W W' ∧ EndI W' A qs W.heap.size W'.heap.size ∧ PRow W' W'.heap.size A (endY x).ps := by
  obtain ⟨hb, h⟩ := h
  unfold endY
  cases hx : x.1 with
  | none =>
    rw [hx] at h
    simp only at h
    exact ⟨none, 0, [], h, rfl, hb, ⟨fun i hi => absurd hi (by simp), fun q hq => by cases hq⟩, prow_nil _ _ _⟩
  | some z =>
    rw [hx] at h
    obtain ⟨Bn, qs, rfl, hm, hh, hq, -, hB⟩ := h
    refine ⟨some ⟨Bn, 0, none⟩, qs.length, qs, rfl, hm, hb, ⟨fun i hi => ?_, fun q hq' => ?_⟩, ?_⟩
    · have g0 := flat_get (fun q : Qu => [iv q.room, q.sv]) 2 (fun _ => rfl) qs i hi 0 (by omega)
      have g1 := flat_get (fun q : Qu => [iv q.room, q.sv]) 2 (fun _ => rfl) qs i hi 1 (by omega)
      refine ⟨Bn, qs[i].room, _, rfl, hB, hh.lt, hh, ?_, ?_⟩
      · simpa [qcells, qcl] using g0
      · simpa [qcells, qcl] using g1
    · obtain ⟨⟨⟨cur, hc, hs, -⟩, hle, -⟩, h2, -⟩ := hq q hq'
      exact ⟨cur, hc, by have := Nat.mul_le_mul_right 2 hle; omega, h2, hc.lt⟩
    · show PRow _ _ _ z.ps
      rw [← hm]
      exact prow_q hh (fun q hq' => (hq q hq').1)
end Go.Proofs.Ytjfopmjphiddiaa
