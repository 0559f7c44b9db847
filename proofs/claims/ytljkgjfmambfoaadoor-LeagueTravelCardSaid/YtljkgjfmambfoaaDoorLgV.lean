/- Contracts: sample, Standings. -/
import Derived.Test.YtljkgjfmambfoaaDoorLgU
import Derived.Laws.StructEq
namespace Go.Proofs.YtljkgjfmambfoaaDoor
open Go.RowKit Go.Shelf
attribute [local irreducible] wpQuiet
attribute [local go_sem] Oper.semAt_some
/-- the document's league -/
def samX : Lg := ⟨[[0, 10, 20], [10, 0, 5], [20, 5, 0]], [⟨1, 0, 1, 1, 3, 1⟩, ⟨2, 1, 2, 2, 2, 1⟩, ⟨4, 2, 0, 1, 4, 2⟩, ⟨6, 0, 2, 0, 0, 0⟩, ⟨8, 1, 0, 0, 0, 0⟩]⟩
def SamPost (W : World) (e : Ending) (W' : World) : Prop := ∃ AF AG, e = .returned (lgv samX AF AG 3 5) ∧ LgR W' W'.heap.size samX AF AG ∧ Below W.heap.size W W'
theorem irow_has {w : World} {a b c : Int} {D : Nat} (h : Has w D 3 #[.int .i64 a, .int .i64 b, .int .i64 c]) : IRow w w.heap.size (some ⟨D, 0, none⟩) [a, b, c] := fun k hk => by
  have hk3 : k < 3 := hk
  refine ⟨D, 0, rfl, h.lt, ?_⟩
  rw [Nat.zero_add, h.cell]
  match k, hk3 with
  | 0, _ => rfl
  | 1, _ => rfl
  | 2, _ => rfl
theorem sam_row {w : World} {h0 h1 h2 h3 h4 : Nat} (q0 : Has w h0 3 #[.int .i64 0, .int .i64 10, .int .i64 20]) (q1 : Has w h1 3 #[.int .i64 10, .int .i64 0, .int .i64 5]) (q2 : Has w h2 3 #[.int .i64 20, .int .i64 5, .int .i64 0])
    (q3 : Has w h3 43 #[.slice (some ⟨h0, 0, none⟩) 3 3, .slice (some ⟨h1, 0, none⟩) 3 3, .slice (some ⟨h2, 0, none⟩) 3 3])
    (q4 : Has w h4 53 #[.int .i64 1, .int .i64 0, .int .i64 1, .int .i64 1, .int .i64 3, .int .i64 1, .int .i64 2, .int .i64 1, .int .i64 2, .int .i64 2, .int .i64 2, .int .i64 1, .int .i64 4, .int .i64 2, .int .i64 0, .int .i64 1, .int .i64 4, .int .i64 2, .int .i64 6, .int .i64 0, .int .i64 2, .int .i64 0, .int .i64 0, .int .i64 0, .int .i64 8, .int .i64 1, .int .i64 0, .int .i64 0, .int .i64 0, .int .i64 0]) :
    LgR w w.heap.size samX (some ⟨h3, 0, none⟩) (some ⟨h4, 0, none⟩) := by
  refine ⟨fun k hk => ?_, fun k hk => ?_, by decide, by decide⟩
  · have hk3 : k < 3 := hk
    match k, hk3 with
    | 0, _ => exact ⟨_, 0, some ⟨h0, 0, none⟩, 3, rfl, q3.lt, by rw [q3.cell]; rfl, irow_has q0, (show (3 : Nat) ≤ big by decide)⟩
    | 1, _ => exact ⟨_, 0, some ⟨h1, 0, none⟩, 3, rfl, q3.lt, by rw [q3.cell]; rfl, irow_has q1, (show (3 : Nat) ≤ big by decide)⟩
    | 2, _ => exact ⟨_, 0, some ⟨h2, 0, none⟩, 3, rfl, q3.lt, by rw [q3.cell]; rfl, irow_has q2, (show (3 : Nat) ≤ big by decide)⟩
  · have hk5 : k < 5 := hk
    refine ⟨_, 0, rfl, q4.lt, fun j hj => ?_⟩
    rw [q4.cell]
    match k, hk5, j, hj with
    | 0, _, 0, _ => rfl
    | 0, _, 1, _ => rfl
    | 0, _, 2, _ => rfl
    | 0, _, 3, _ => rfl
    | 0, _, 4, _ => rfl
    | 0, _, 5, _ => rfl
    | 1, _, 0, _ => rfl
    | 1, _, 1, _ => rfl
    | 1, _, 2, _ => rfl
    | 1, _, 3, _ => rfl
    | 1, _, 4, _ => rfl
    | 1, _, 5, _ => rfl
    | 2, _, 0, _ => rfl
    | 2, _, 1, _ => rfl
    | 2, _, 2, _ => rfl
    | 2, _, 3, _ => rfl
    | 2, _, 4, _ => rfl
    | 2, _, 5, _ => rfl
    | 3, _, 0, _ => rfl
    | 3, _, 1, _ => rfl
    | 3, _, 2, _ => rfl
    | 3, _, 3, _ => rfl
    | 3, _, 4, _ => rfl
    | 3, _, 5, _ => rfl
    | 4, _, 0, _ => rfl
    | 4, _, 1, _ => rfl
    | 4, _, 2, _ => rfl
    | 4, _, 3, _ => rfl
    | 4, _, 4, _ => rfl
    | 4, _, 5, _ => rfl
theorem res_lg {f : Func} {w : World} {D : Nat} {A B : Value} {tmps : Array Value} (h : Has w D 25 #[A, B]) {n : Nat} (h4 : tmps[n]?.getD undef = .pointer (some ⟨D, 0, none⟩)) (hf : f.results = #[.cell n 25]) :
    (results f tmps).run Tryd.prog w = .ok (.agg #[A, B]) w := by
  have c0 := h.cell 0; have c1 := h.cell 1
  simp at c0 c1
  simp [results, hf, go_sem, h4, c0, c1]
set_option maxRecDepth 100000 in
set_option maxHeartbeats 4000000 in
theorem sample_any (W : World) : Calls Tryd.prog 27 #[] W (SamPost W) := by
  go_enter Tryd.func27, Tryd.ntmps27
  go_wp2_with fail
  refine bodyPost_ret (v := lgv samX (some ⟨W.heap.size + 4, 0, none⟩) (some ⟨W.heap.size + 5, 0, none⟩) 3 5) (res_lg (D := W.heap.size) (n := 0) (((((Has.new _ _ _ |>.alloc _).alloc _).alloc _).alloc _).alloc _) rfl rfl) rfl ?_
  refine ⟨_, _, rfl, sam_row (h0 := W.heap.size + 1) (h1 := W.heap.size + 2) (h2 := W.heap.size + 3) ((((has_newAt (by simp)).alloc _).alloc _).alloc _ |>.alloc _) (((has_newAt (by simp)).alloc _).alloc _ |>.alloc _) ((has_newAt (by simp)).alloc _ |>.alloc _) ((has_newAt (by simp)).alloc _) (has_newAt (by simp)), ?_⟩
  exact ((((((Gr.refl W).alloc _).alloc _).alloc _).alloc _).alloc _).alloc _ |>.below
theorem Tryd.stood46 : Tryd.prog.stoodInHeld 46 = false := by kernel_rfl
theorem Tryd.fields46 : Tryd.prog.underlying 46 = some (.struct (Tryd.prog.fieldsOf 46)) := by kernel_rfl
/-- the standing of a row -/
def stq (r : Rw) : Int × Int × Int × Int × Int := (r.team, r.games, r.pts, r.gf, r.ga)
theorem equal46 (n : Nat) (x y : Rw) (w : World) : (Op.equalIn (n + 3) 46 (.agg (stc x)) (.agg (stc y))).run Tryd.prog w = .ok (decide (stq x = stq y)) w := by
  rw [run_equalIn_struct w (n + 2) 46 _ _ Tryd.fields46 Tryd.stood46]
  obtain ⟨a, b, c, d, e, f⟩ := x
  obtain ⟨a', b', c', d', e', f'⟩ := y
  simp [stc, stq, Program.fieldsOf, Tryd.underlying46, Op.eqFields, go_sem]
  repeat (split <;> simp_all)
def stdB (l m : List Rw) : Bool := decide (l.map stq = m.map stq)
/-- Standings, at work -/
structure SdI (l m : List Rw) (k : Nat) : Prop where
  eq : (l.take k).map stq = (m.take k).map stq
theorem sd_len {l m : List Rw} (h : l.length ≠ m.length) : stdB l m = false := by
  unfold stdB
  rw [decide_eq_false_iff_not]
  intro e
  have := congrArg List.length e
  simp at this
  exact h this
theorem sd_done {l m : List Rw} (hl : l.length = m.length) (h : ∀ j (h : j < l.length) (h' : j < m.length), stq l[j] = stq m[j]) : stdB l m = true := by
  unfold stdB
  rw [decide_eq_true_eq]
  refine List.ext_getElem (by simp [hl]) fun i h1 h2 => ?_
  simp only [List.getElem_map]
  exact h i (by simpa using h1) (by simpa using h2)
theorem sd_no {l m : List Rw} {k : Nat} (h : k < l.length) (h' : k < m.length) (hn : ¬ stq l[k] = stq m[k]) : stdB l m = false := by
  unfold stdB
  rw [decide_eq_false_iff_not]
  intro e
  have := congrArg (fun l => l[k]?) e
  simp only [List.getElem?_map, List.getElem?_eq_getElem h, List.getElem?_eq_getElem h', Option.map_some, Option.some.injEq] at this
  exact hn this
set_option maxRecDepth 100000 in
set_option maxHeartbeats 2000000 in
theorem Standings_any (l m : List Rw) (A B : Option Addr) (c d : Nat) (W : World) (hl : NRow stc 5 W W.heap.size A l) (hm : NRow stc 5 W W.heap.size B m) (h1 : l.length ≤ 1000) :
    Calls Tryd.prog 17 #[.slice A l.length c, .slice B m.length d] W (BoolPost (stdB l m) W) := by
  have HR := Lib.hid (And.intro hl hm)
  have HE := Lib.hid (fun x y w => equal46 9997 x y w)
  have HLN := Lib.hid (fun h => sd_len (l := l) (m := m) h)
  have HD := Lib.hid (fun hl h => sd_done (l := l) (m := m) hl h)
  have HN := Lib.hid (fun k h h' hn => sd_no (l := l) (m := m) (k := k) h h' hn)
  obtain ⟨b, hb⟩ : ∃ b, b = stdB l m := ⟨_, rfl⟩
  rw [← hb] at HLN HD HN ⊢
  clear hl hm hb
  by_cases hlen : l.length = m.length
  rotate_left
  · have n1 : ((l.length : Int) == (m.length : Int)) = false := by simp; omega
    have n2 : ((l.length : Int) != (m.length : Int)) = true := by simp; omega
    have n3 : ¬ (l.length : Int) = m.length := by omega
    have HB := Lib.hid (HLN.out hlen)
    clear hlen HLN HD HN
    go_enter Tryd.func17, Tryd.ntmps17
    go_wp2_with fail
    go_ret
    exact ⟨ret_bool HB.out.symm, Below.refl _ _⟩
  have HL := Lib.hid hlen
  obtain ⟨n, hn⟩ : ∃ n, n = l.length := ⟨_, rfl⟩
  have HNN : Hid (n = l.length ∧ n = m.length) := Lib.hid ⟨hn, by omega⟩
  rw [← hlen, ← hn]
  have hn1 : n ≤ 1000 := by omega
  clear hlen hn HLN h1
  go_enter Tryd.func17, Tryd.ntmps17
  go_wp2_with fail
  go_loopg [5] n (fun gk i wr => ∃ k : Nat, k ≤ n ∧ n - k ≤ gk ∧ i = .int .i64 ((k : Nat) : Int) ∧ Hid (Below W.heap.size W wr ∧ ∀ j (h : j < l.length) (h' : j < m.length), j < k → stq l[j] = stq m[j]))
  case atStart => exact ⟨0, by omega, by omega, rfl, Lib.hid ⟨Below.refl _ _, fun j _ _ h => by omega⟩⟩
  case round =>
    obtain ⟨k, hk, hgk, rfl, HB⟩ := hrel
    by_cases hlt : k < n
    rotate_left
    · have hge : ¬ (k : Int) < n := by omega
      have HB1 := Lib.hid (HD.out HL.out (fun j h h' => HB.out.2 j h h' (by have := HNN.out.1; omega)))
      go_wp2_with fail
      go_ret
      exact ⟨ret_bool HB1.out.symm, HB.out.1⟩
    have hlt2 : (k : Int) < n := by omega
    have hkl : k < l.length := by have := HNN.out.1; omega
    have hkm : k < m.length := by have := HNN.out.2; omega
    obtain ⟨g, o, hA, hg, hcA⟩ := HR.out.1 k hkl
    obtain ⟨g', o', hB, hg', hcB⟩ := HR.out.2 k hkm
    subst hA hB
    have hc := fun j hj => (HB.out.1.cell (p := ⟨g, _, none⟩) hg).trans (hcA j hj)
    have hc' := fun j hj => (HB.out.1.cell (p := ⟨g', _, none⟩) hg').trans (hcB j hj)
    obtain ⟨x, hx⟩ : ∃ x, x = l[k] := ⟨_, rfl⟩
    obtain ⟨y, hy⟩ : ∃ y, y = m[k] := ⟨_, rfl⟩
    rw [← hx] at hc
    rw [← hy] at hc'
    have HXY := Lib.hid (And.intro hx hy)
    have c0 : wr.cell? ⟨g, o + k * 5, none⟩ = some (.int .i64 x.team) := hc 0 (by omega)
    have d0 : wr.cell? ⟨g', o' + k * 5, none⟩ = some (.int .i64 y.team) := hc' 0 (by omega)
    have c1 : wr.cell? ⟨g, o + k * 5 + 1, none⟩ = some (.int .i64 x.games) := hc 1 (by omega)
    have d1 : wr.cell? ⟨g', o' + k * 5 + 1, none⟩ = some (.int .i64 y.games) := hc' 1 (by omega)
    have c2 : wr.cell? ⟨g, o + k * 5 + 2, none⟩ = some (.int .i64 x.pts) := hc 2 (by omega)
    have d2 : wr.cell? ⟨g', o' + k * 5 + 2, none⟩ = some (.int .i64 y.pts) := hc' 2 (by omega)
    have c3 : wr.cell? ⟨g, o + k * 5 + 3, none⟩ = some (.int .i64 x.gf) := hc 3 (by omega)
    have d3 : wr.cell? ⟨g', o' + k * 5 + 3, none⟩ = some (.int .i64 y.gf) := hc' 3 (by omega)
    have c4 : wr.cell? ⟨g, o + k * 5 + 4, none⟩ = some (.int .i64 x.ga) := hc 4 (by omega)
    have d4 : wr.cell? ⟨g', o' + k * 5 + 4, none⟩ = some (.int .i64 y.ga) := hc' 4 (by omega)
    have hq : ∀ w, (Op.equalIn 10000 46 (.agg #[.int .i64 x.team, .int .i64 x.games, .int .i64 x.pts, .int .i64 x.gf, .int .i64 x.ga]) (.agg #[.int .i64 y.team, .int .i64 y.games, .int .i64 y.pts, .int .i64 y.gf, .int .i64 y.ga])).run Tryd.prog w = .ok (decide (stq x = stq y)) w := fun w => HE.out x y w
    obtain ⟨t, ht⟩ : ∃ t, t = decide (stq x = stq y) := ⟨_, rfl⟩
    rw [← ht] at hq
    have HT := Lib.hid ht
    clear hc hc' hcA hcB hx hy ht
    have HKL := Lib.hid (And.intro hkl hkm)
    cases t
    · have HB1 : Hid (b = false) := Lib.hid (HN.out k HKL.out.1 HKL.out.2 (by have := HT.out; rw [HXY.out.1, HXY.out.2] at this; simpa using this))
      go_upto_region 6 with fail
      go_quiet (fail)
      clear hq c0 c1 c2 c3 c4 d0 d1 d2 d3 d4
      go_wp2_with fail
      go_ret
      exact ⟨ret_bool HB1.out.symm, below_drN HB.out.1 _⟩
    · have HX : Hid (stq l[k] = stq m[k]) := Lib.hid (by have := HT.out; rw [HXY.out.1, HXY.out.2] at this; simpa using this)
      go_upto_region 6 with fail
      go_quiet (fail)
      have H2 : Hid (Below W.heap.size W (wr.drewN nq) ∧ ∀ j (h : j < l.length) (h' : j < m.length), j < k + 1 → stq l[j] = stq m[j]) := Lib.hid ⟨below_drN HB.out.1 _, fun j h h' hj => by
        rcases Nat.lt_or_ge j k with h1 | h1
        · exact HB.out.2 j h h' h1
        · obtain rfl : j = k := by omega
          exact HX.out⟩
      clear hq c0 c1 c2 c3 c4 d0 d1 d2 d3 d4 HX HB
      go_wp2_with fail
      go_roundg (n - (k + 1))
      case measure => omega
      case rel => exact ⟨k + 1, by omega, Nat.le_refl _, by go_num, H2⟩
end Go.Proofs.YtljkgjfmambfoaaDoor
