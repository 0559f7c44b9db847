/- Helpers for the law IceApart: bounds of sums, the events of one zone, one zone of a row. -/
import Derived.Test.YtogabjlhecnbbaaApart
import Derived.Deep.AppendLies
namespace Go.Proofs.Ytogabjlhecnbbaa
open Go.RowKit Go.Shelf
theorem playL_bd : ∀ (l : List Ev) (st : List Zn × Sm) (i : Nat) (c : Int), st.1.length ≤ 24 → (∀ z ∈ st.1, z.ok = true) → st.2.Bd c → (playL l st i).2.2 = 0 → (playL l st i).1.2.Bd (c + l.length * 480000)
  | [], st, i, c, _, _, h, _ => bd_mono h (by simp)
  | e :: l, st, i, c, h1, h2, h3, h4 => by
    unfold playL at h4 ⊢
    by_cases h0 : (evDo e st).2 = 0
    · rw [if_pos h0] at h4 ⊢
      obtain ⟨g1, g2, g3⟩ := evDo_inv h1 h2 h3 h0
      exact bd_mono (playL_bd l _ _ _ (by omega) g2 g3 h4) (by simp only [List.length_cons]; omega)
    · rw [if_neg h0] at h4; exact absurd h4 h0
theorem playR_bd {zs : List Zn} {es : List Ev} (h : (playR zs es).e = 0) (hl : es.length ≤ 40) : (playR zs es).s.Bd 100000000 := by
  obtain ⟨hr, _, h0, e1⟩ := playR_ok h
  have hp := rink_parts hr
  rw [e1]
  exact bd_mono (playL_bd es (zs, Sm.zero) 0 0 hp.1 hp.2.2 (by unfold Sm.Bd; simp) h0) (by omega)
theorem newAdd {W wy : World} (t u : Sm) (hB : Below W.heap.size W wy) : Has (wy.alloc (.cells #[.int .i64 (t.f1 + u.f1), .int .i64 (t.f2 + u.f2), .int .i64 (t.p1 + u.p1), .int .i64 (t.p2 + u.p2), .int .i64 (t.w1 + u.w1), .int .i64 (t.w2 + u.w2)] 29)) wy.heap.size 29 (smc (t.add u)) ∧
    Below W.heap.size W (wy.alloc (.cells #[.int .i64 (t.f1 + u.f1), .int .i64 (t.f2 + u.f2), .int .i64 (t.p1 + u.p1), .int .i64 (t.p2 + u.p2), .int .i64 (t.w1 + u.w1), .int .i64 (t.w2 + u.w2)] 29)) := new6b (t.add u) hB
theorem setAdd {W wy : World} {p : Nat} (t u : Sm) (hB : Below W.heap.size W wy) (n : Has wy p 29 #[iv 0, iv 0, iv 0, iv 0, iv 0, iv 0]) (hp : W.heap.size ≤ p) :
    Has ((((((wy.setCell ⟨p, 0, none⟩ (.int .i64 (t.f1 + u.f1))).setCell ⟨p, 1, none⟩ (.int .i64 (t.f2 + u.f2))).setCell ⟨p, 2, none⟩ (.int .i64 (t.p1 + u.p1))).setCell ⟨p, 3, none⟩ (.int .i64 (t.p2 + u.p2))).setCell ⟨p, 4, none⟩ (.int .i64 (t.w1 + u.w1))).setCell ⟨p, 5, none⟩ (.int .i64 (t.w2 + u.w2))) p 29 (smc (t.add u)) ∧
    Below W.heap.size W ((((((wy.setCell ⟨p, 0, none⟩ (.int .i64 (t.f1 + u.f1))).setCell ⟨p, 1, none⟩ (.int .i64 (t.f2 + u.f2))).setCell ⟨p, 2, none⟩ (.int .i64 (t.p1 + u.p1))).setCell ⟨p, 3, none⟩ (.int .i64 (t.p2 + u.p2))).setCell ⟨p, 4, none⟩ (.int .i64 (t.w1 + u.w1))).setCell ⟨p, 5, none⟩ (.int .i64 (t.w2 + u.w2))) := set6b (t.add u) hB n hp
theorem neq29s (s : Sm) (w : World) : (binOp .neq 29 (.agg #[.int .i64 s.f1, .int .i64 s.f2, .int .i64 s.p1, .int .i64 s.p2, .int .i64 s.w1, .int .i64 s.w2]) (.agg #[.int .i64 s.f1, .int .i64 s.f2, .int .i64 s.p1, .int .i64 s.p2, .int .i64 s.w1, .int .i64 s.w2])).run Try.prog w = .ok (.bool false) w := by
  have := neq29 s s w
  simpa [smv] using this
theorem eql60s (a b c d : Int) (w : World) : (binOp .eql 60 (.agg #[.int .i64 a, .int .i64 b, .int .i64 c, .int .i64 d]) (.agg #[.int .i64 a, .int .i64 b, .int .i64 c, .int .i64 d])).run Try.prog w = .ok (.bool true) w := by
  have := eql60 ⟨a, b, c, d⟩ ⟨a, b, c, d⟩ w
  simpa [zv] using this
def offZ (A : Option Addr) (cap k : Nat) : Option Addr := if cap = k then A else A.map (fun x => x.add (k * 4))
theorem cut22 {A : Option Addr} {n cap k : Nat} (h0 : k + 1 ≤ cap) (w : World) :
    (Instr.sliceAt 22 (.slice A n cap) (some (.int .i64 k)) (some (.int .i64 ((k : Int) + 1))) none).run Try.prog w = .ok (.slice (offZ A cap k) 1 (cap - k)) w := by
  have h1 : (k : Int) + 1 ≤ cap := by omega
  have h2 : (k : Int) ≤ (k : Int) + 1 := by omega
  simp [go_sem, h1, h2, Try.underlying22, sliced, Result.andThen, offZ]
theorem ZRow.one {w : World} {B cap k : Nat} {A : Option Addr} {zs : List Zn} (h : ZRow w B A zs) (hk : k < zs.length) (hc : zs.length ≤ cap) : ZRow w B (offZ A cap k) [zs.getD k zd] := fun j hj => by
  obtain rfl : j = 0 := by simp at hj; omega
  obtain ⟨g, o, e, hg, c⟩ := h k hk
  refine ⟨g, o + k * 4, ?_, hg, ?_⟩
  · unfold offZ
    rw [if_neg (by omega), e]
    simp only [Option.map_some]
    congr 1
    unfold Addr.add
    split <;> simp_all
  · have hx : ([zs.getD k zd] : List Zn)[0]'(by simp) = zs[k] := by simp [hk]
    rw [hx]
    simpa using c
theorem erow_own {w : World} {base : Nat} {v : Value} {es : List Ev} (h : w.ownsRow base 54 5 v es.length (eflat es).toList) : ∃ A cap, v = .slice A es.length cap ∧ ERow w w.heap.size A es := by
  obtain ⟨A, cap, e, hr⟩ := own_eap (B := w.heap.size) h (fun _ g _ h2 => by omega)
  exact ⟨A, cap, e, hr.row⟩
theorem eflat_app (l l' : List Ev) : (eflat (l ++ l')).toList = (eflat l).toList ++ (eflat l').toList := by simp [eflat]
theorem cell_new5 (w : World) (a b c d e : Value) (t : TypeId) : ∀ j u, [a, b, c, d, e][j]? = some u → (w.alloc (.cells #[a, b, c, d, e] t)).cell? ((⟨w.heap.size, 0, none⟩ : Addr).add j) = some u := fun j u hu =>
  World.news_of_block (cs := #[a, b, c, d, e]) (heap_alloc_new w _) j u hu
theorem has_grown {w w' : World} {row : Option Nat} {g : Nat} {t : TypeId} {cs : Array Value} (h : Has w g t cs) (hg : w.grownBy w' row) (hr : row ≠ some g) : Has w' g t cs := (hg.block g h.lt (fun e => hr e.symm)).trans h
theorem only_set (w : World) (g i : Nat) (v : Value) : Only (fun k => k = g) w (w.setCell ⟨g, i, none⟩ v) := Only.setCell (S := fun k => k = g) (p := ⟨g, i, none⟩) (Only.refl _ w) (.inl rfl) v
theorem grown_only {w w' : World} {g : Nat} (h : Only (fun k => k = g) w w') : w.grownBy w' (some g) := ⟨h.os, h.tape, h.output, h.size, fun k hk hn => h.block k hk (fun e => hn (by rw [e]))⟩
def owns (z : Nat) (l : List Ev) : List Ev := l.filterMap (ownE z)
theorem owns_yes {z k : Nat} {es : List Ev} (hk : k < es.length) {e' : Ev} (h : ownE z es[k] = some e') : owns z (es.take (k + 1)) = owns z (es.take k) ++ [e'] := by
  unfold owns
  rw [List.take_add_one, List.filterMap_append]
  simp [hk, h]
theorem owns_no {z k : Nat} {es : List Ev} (hk : k < es.length) (h : ownE z es[k] = none) : owns z (es.take (k + 1)) = owns z (es.take k) := by
  unfold owns
  rw [List.take_add_one, List.filterMap_append]
  simp [hk, h]
theorem owns_len (z : Nat) (l : List Ev) : (owns z l).length ≤ l.length := List.length_filterMap_le _ _
/-- two zones that are read last -/
structure ApK (w W : World) (g6 o6 g1 o1 z : Nat) (a b c d : Int) : Prop where
  bl : Below w.heap.size w W
  l6 : g6 < W.heap.size
  l1 : g1 < W.heap.size
  c6 : W.cell? ⟨g6, o6, none⟩ = some (.int .i64 a) ∧ W.cell? ⟨g6, o6 + 1, none⟩ = some (.int .i64 b) ∧ W.cell? ⟨g6, o6 + 2, none⟩ = some (.int .i64 c) ∧ W.cell? ⟨g6, o6 + 3, none⟩ = some (.int .i64 d)
  c1 : W.cell? ⟨g1, o1 + z * 4, none⟩ = some (.int .i64 a) ∧ W.cell? ⟨g1, o1 + z * 4 + 1, none⟩ = some (.int .i64 b) ∧ W.cell? ⟨g1, o1 + z * 4 + 2, none⟩ = some (.int .i64 c) ∧ W.cell? ⟨g1, o1 + z * 4 + 3, none⟩ = some (.int .i64 d)
theorem ApK.step {w W W' : World} {g6 o6 g1 o1 z : Nat} {a b c d : Int} (h : ApK w W g6 o6 g1 o1 z a b c d) (hb : Below W.heap.size W W') : ApK w W' g6 o6 g1 o1 z a b c d := by
  have hs := hb.size
  have e6 : ∀ i, W'.cell? ⟨g6, i, none⟩ = W.cell? ⟨g6, i, none⟩ := fun i => World.cell?_of_block (hb.block g6 h.l6)
  have e1 : ∀ i, W'.cell? ⟨g1, i, none⟩ = W.cell? ⟨g1, i, none⟩ := fun i => World.cell?_of_block (hb.block g1 h.l1)
  obtain ⟨p0, p1, p2, p3⟩ := h.c6
  obtain ⟨q0, q1, q2, q3⟩ := h.c1
  exact ⟨belowT h.bl hb, by have := h.l6; omega, by have := h.l1; omega, ⟨(e6 _).trans p0, (e6 _).trans p1, (e6 _).trans p2, (e6 _).trans p3⟩, ⟨(e1 _).trans q0, (e1 _).trans q1, (e1 _).trans q2, (e1 _).trans q3⟩⟩
theorem ApK.keep {w W : World} {g6 o6 g1 o1 z : Nat} {a b c d : Int} (h : ApK w W g6 o6 g1 o1 z a b c d) : W.cell? ⟨g6, o6, none⟩ = some (.int .i64 a) ∧ W.cell? ⟨g6, o6 + 1, none⟩ = some (.int .i64 b) ∧ W.cell? ⟨g6, o6 + 2, none⟩ = some (.int .i64 c) ∧ W.cell? ⟨g6, o6 + 3, none⟩ = some (.int .i64 d) ∧
    W.cell? ⟨g1, o1 + z * 4, none⟩ = some (.int .i64 a) ∧ W.cell? ⟨g1, o1 + z * 4 + 1, none⟩ = some (.int .i64 b) ∧ W.cell? ⟨g1, o1 + z * 4 + 2, none⟩ = some (.int .i64 c) ∧ W.cell? ⟨g1, o1 + z * 4 + 3, none⟩ = some (.int .i64 d) :=
  ⟨h.c6.1, h.c6.2.1, h.c6.2.2.1, h.c6.2.2.2, h.c1.1, h.c1.2.1, h.c1.2.2.1, h.c1.2.2.2⟩
/-- .. out of rows -/
theorem ApK.of {w W : World} {A6 A1 : Option Addr} {z : Nat} {y : Zn} {rz : List Zn} (hb : Below w.heap.size w W) (h1 : ZRow W W.heap.size A1 rz) (h6 : ZRow W W.heap.size A6 [y]) (hz : z < rz.length) (hy : y = rz.getD z zd) :
    ∃ g6 o6 g1 o1, A6 = some ⟨g6, o6, none⟩ ∧ A1 = some ⟨g1, o1, none⟩ ∧ ApK w W g6 o6 g1 o1 z y.a y.b y.c y.d := by
  obtain ⟨g6, o6, e6, l6, p0, p1, p2, p3⟩ := h6 0 (by simp)
  obtain ⟨g1, o1, e1, l1, q0, q1, q2, q3⟩ := h1 z hz
  have hy' : rz[z] = y := by rw [hy]; simp [hz]
  rw [hy'] at q0 q1 q2 q3
  simp only [Nat.zero_mul, Nat.add_zero, List.getElem_cons_zero] at p0 p1 p2 p3
  exact ⟨g6, o6, g1, o1, e6, e1, hb, l6, l1, ⟨p0, p1, p2, p3⟩, ⟨q0, q1, q2, q3⟩⟩
end Go.Proofs.Ytogabjlhecnbbaa
