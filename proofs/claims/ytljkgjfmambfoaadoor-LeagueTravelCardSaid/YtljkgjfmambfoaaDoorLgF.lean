/- Contracts: points: endingOf, behind, earned, and. -/
import Derived.Test.YtljkgjfmambfoaaDoorLgE
import Derived.Test.YtljkgjfmambfoaaDoorLate
import Derived.Test.YtljkgjfmambfoaaDoorCls
namespace Go.Proofs.YtljkgjfmambfoaaDoor
open Go.RowKit Go.Shelf
attribute [local irreducible] wpQuiet
abbrev ptc (p : Pt) : Array Value := #[.int .i64 (p[0]?.getD 0), .int .i64 (p[1]?.getD 0), .int .i64 (p[2]?.getD 0), .int .i64 (p[3]?.getD 0), .int .i64 (p[4]?.getD 0), .int .i64 (p[5]?.getD 0)]
def ptv (p : Pt) : Value := .agg (ptc p)
def PtPost (p : Pt) (W : World) (e : Ending) (W' : World) : Prop := e = .returned (ptv p) ∧ Below W.heap.size W W'
theorem ptc_at {p : Pt} {h : Nat} (hh : h < 6) : (ptc p)[h]? = some (.int .i64 (p.getD h 0)) := by
  rw [List.getD_eq_getElem?_getD]
  match h, hh with
  | 0, _ => rfl
  | 1, _ => rfl
  | 2, _ => rfl
  | 3, _ => rfl
  | 4, _ => rfl
  | 5, _ => rfl
theorem ptc_set {p : Pt} {h : Nat} (hp : p.length = 6) (hh : h < 6) (v : Int) : (ptc p).setIfInBounds h (.int .i64 v) = ptc (p.set h v) := by
  match p, hp with
  | [a, b, c, d, e, f], _ =>
    match h, hh with
    | 0, _ => rfl
    | 1, _ => rfl
    | 2, _ => rfl
    | 3, _ => rfl
    | 4, _ => rfl
    | 5, _ => rfl
/-- points that are not great -/
structure PB (M : Int) (p : Pt) : Prop where
  l : p.length = 6
  b : ∀ i : Nat, 0 ≤ p.getD i 0 ∧ p.getD i 0 ≤ M
theorem PB.zero : PB 0 zeroP := ⟨rfl, fun i => by
  match i with
  | 0 => decide
  | 1 => decide
  | 2 => decide
  | 3 => decide
  | 4 => decide
  | 5 => decide
  | i + 6 => simp [zeroP, List.getD_eq_getElem?_getD]⟩
theorem PB.mono {M M' : Int} {p : Pt} (h : PB M p) (hM : M ≤ M') : PB M' p := ⟨h.l, fun i => ⟨(h.b i).1, by have := (h.b i).2; omega⟩⟩
theorem getD_set_pt {p : Pt} {i j : Nat} {v : Int} (h : i < p.length) : (p.set i v).getD j 0 = if i = j then v else p.getD j 0 := by
  simp only [List.getD_eq_getElem?_getD, List.getElem?_set]
  by_cases hij : i = j
  · simp [hij ▸ h, hij]
  · simp [hij]
theorem PB.add {M n : Int} {p : Pt} (h : PB M p) {i : Nat} (hi : i < 6) (hn : 0 ≤ n) : PB (M + n) (addAt p i n) := by
  unfold addAt
  refine ⟨by rw [List.length_set]; exact h.l, fun j => ?_⟩
  rw [getD_set_pt (by rw [h.l]; exact hi)]
  have h1 := h.b i
  have h2 := h.b j
  split <;> omega
theorem worthH_bd (e : Nat) : 0 ≤ worthH e ∧ worthH e ≤ 3 := by
  match e with
  | 0 => decide
  | 1 => decide
  | 2 => decide
  | e + 3 => exact (show (0 : Int) ≤ 0 ∧ (0 : Int) ≤ 3 by decide)
theorem worthA_bd (e : Nat) : 0 ≤ worthA e ∧ worthA e ≤ 3 := by
  match e with
  | 0 => decide
  | 1 => decide
  | 2 => decide
  | e + 3 => exact (show (0 : Int) ≤ 3 ∧ (3 : Int) ≤ 3 by decide)
/-- two teams of six -/
def okG (g : Gm) : Prop := (0 ≤ g.home ∧ g.home < 6) ∧ (0 ≤ g.away ∧ g.away < 6)
theorem behind_pb {M : Int} {p : Pt} {g : Gm} (h : PB M p) (hg : okG g) (e : Nat) : PB (M + 6) (behindP p g e) := by
  have h1 := h.add (i := g.home.toNat) (by have := hg.1; omega) (worthH_bd e).1
  have h2 := h1.add (i := g.away.toNat) (by have := hg.2; omega) (worthA_bd e).1
  exact h2.mono (by have := (worthH_bd e).2; have := (worthA_bd e).2; omega)
/-- the table of what an ending is worth -/
abbrev worthC : Array Value := #[.int .i64 3, .int .i64 0, .int .i64 2, .int .i64 1, .int .i64 1, .int .i64 2, .int .i64 0, .int .i64 3]
structure Wo (w : World) : Prop where
  lt : 0 < w.heap.size
  c : ∀ i, i < 8 → w.cell? ⟨0, i, none⟩ = worthC[i]?
theorem Wo.step {w w' : World} (h : Wo w) (hb : Below w.heap.size w w') : Wo w' := ⟨by have := h.lt; have := hb.size; omega, fun i hi => (hb.cell (p := ⟨0, i, none⟩) h.lt).trans (h.c i hi)⟩
theorem Wo.below {W w : World} (h : Wo W) (hb : Below W.heap.size W w) : Wo w := h.step hb
theorem Wo.home {w : World} (h : Wo w) {e : Nat} (he : e < 4) : w.cell? ⟨0, e * 2, none⟩ = some (.int .i64 (worthH e)) := by
  rw [h.c _ (by omega)]
  match e, he with
  | 0, _ => rfl
  | 1, _ => rfl
  | 2, _ => rfl
  | 3, _ => rfl
theorem Wo.away {w : World} (h : Wo w) {e : Nat} (he : e < 4) : w.cell? ⟨0, e * 2 + 1, none⟩ = some (.int .i64 (worthA e)) := by
  rw [h.c _ (by omega)]
  match e, he with
  | 0, _ => rfl
  | 1, _ => rfl
  | 2, _ => rfl
  | 3, _ => rfl
theorem endOf_lt (g : Gm) : endOf g < 4 := by unfold endOf; split <;> split <;> omega
set_option maxRecDepth 100000 in
set_option maxHeartbeats 1000000 in
theorem endingOf_any (g : Gm) (W : World) : Calls Tryd.prog 68 #[gmv g] W (IntPost (endOf g) W) := by
  have HE : Hid (endOf g = if g.ag < g.hg then (if g.fin = 2 then 1 else 0) else (if g.fin = 2 then 2 else 3)) := Lib.hid rfl
  have HB := Lib.hid (And.intro (below_one W (.cells (gmc g) 53)) (Has.new W 53 (gmc g)))
  unfold gmv
  by_cases h1 : g.ag < g.hg
  all_goals
    by_cases h2 : g.fin = 2
    all_goals
      first
        | have h2b : (g.fin == 2) = true := by simpa using h2
        | have h2b : (g.fin == 2) = false := by simpa using h2
      have HE2 : Hid (∃ n, endOf g = n ∧ n = if g.ag < g.hg then (if g.fin = 2 then 1 else 0) else (if g.fin = 2 then 2 else 3)) := Lib.hid ⟨_, rfl, HE.out⟩
      have HE3 : Hid (endOf g = if g.ag < g.hg then (if g.fin = 2 then 1 else 0) else (if g.fin = 2 then 2 else 3)) := HE
      simp only [h1, h2, if_true, if_false] at HE3
      clear HE HE2 h2
      go_enter Tryd.func68, Tryd.ntmps68
      go_upto_region 1 with fail
      generalize W.alloc (.cells (gmc g) 53) = w9 at HB ⊢
      have y0 : w9.cell? ⟨W.heap.size, 0, none⟩ = some (.int .i64 g.day) := HB.out.2.cell 0
      have y3 : w9.cell? ⟨W.heap.size, 3, none⟩ = some (.int .i64 g.fin) := HB.out.2.cell 3
      have y4 : w9.cell? ⟨W.heap.size, 4, none⟩ = some (.int .i64 g.hg) := HB.out.2.cell 4
      have y5 : w9.cell? ⟨W.heap.size, 5, none⟩ = some (.int .i64 g.ag) := HB.out.2.cell 5
      go_quiet (fail)
      go_wp2_with fail
      go_ret
      exact ⟨ret_int (by rw [HE3.out]; rfl), below_drN HB.out.1 _⟩
/-- behind, at work: its boxes -/
structure BhI (W w : World) (p : Pt) (g : Gm) : Prop where
  b : Below W.heap.size W w
  fp : Has w W.heap.size 77 (ptc p)
  fg : Has w (W.heap.size + 1) 53 (gmc g)
  fr : Has w (W.heap.size + 1 + 1) 77 (ptc zeroP)
  wo : Wo w
theorem BhI.set {W w : World} {p : Pt} {g : Gm} (h : BhI W w p g) (hp : p.length = 6) {i : Nat} (hi : i < 6) (v : Int) : BhI W (w.setCell ⟨W.heap.size, i, none⟩ (.int .i64 v)) (p.set i v) g := by
  have hb : Below W.heap.size w (w.setCell ⟨W.heap.size, i, none⟩ (.int .i64 v)) := (Below.refl _ _).setCell (p := ⟨W.heap.size, i, none⟩) (Nat.le_refl _) _
  have ho := only_cell w W.heap.size i (.int .i64 v)
  refine ⟨h.b.trans hb, by rw [← ptc_set hp hi]; exact h.fp.set i _, h.fg.only ho (by show ¬ W.heap.size + 1 = W.heap.size; omega), h.fr.only ho (by show ¬ W.heap.size + 1 + 1 = W.heap.size; omega), ?_⟩
  have hW : 0 < W.heap.size ∨ W.heap.size = 0 := by omega
  refine ⟨by have := h.wo.lt; simpa [World.setCell] using this, fun j hj => ?_⟩
  rcases hW with hW | hW
  · exact (hb.cell (p := ⟨0, j, none⟩) hW).trans (h.wo.c j hj)
  · exfalso
    have c0 := h.wo.c 6 (by omega)
    have c1 := h.fp.cell 6
    rw [hW] at c1
    rw [c1] at c0
    simp at c0
theorem BhI.drew {W w : World} {p : Pt} {g : Gm} (h : BhI W w p g) : BhI W w.drew p g := ⟨below_drN h.b 1, h.fp, h.fg, h.fr, h.wo.step (Below.refl _ _).drew⟩
theorem res_pt {f : Func} {w : World} {D : Nat} {p : Pt} {tmps : Array Value} (h : Has w D 77 (ptc p)) {n : Nat} (h4 : tmps[n]?.getD undef = .pointer (some ⟨D, 0, none⟩)) (hf : f.results = #[.cell n 77]) :
    (results f tmps).run Tryd.prog w = .ok (ptv p) w := by
  have c0 := h.cell 0; have c1 := h.cell 1; have c2 := h.cell 2; have c3 := h.cell 3; have c4 := h.cell 4; have c5 := h.cell 5
  simp at c0 c1 c2 c3 c4 c5
  simp [results, hf, go_sem, h4, c0, c1, c2, c3, c4, c5, ptv]
/-- six cells written -/
abbrev putPt (w : World) (B : Nat) (q : Pt) : World := (((((w.setCell ⟨B, 0, none⟩ (.int .i64 (q[0]?.getD 0))).setCell ⟨B, 1, none⟩ (.int .i64 (q[1]?.getD 0))).setCell ⟨B, 2, none⟩ (.int .i64 (q[2]?.getD 0))).setCell ⟨B, 3, none⟩ (.int .i64 (q[3]?.getD 0))).setCell ⟨B, 4, none⟩ (.int .i64 (q[4]?.getD 0))).setCell ⟨B, 5, none⟩ (.int .i64 (q[5]?.getD 0))
theorem has_putPt {w : World} {B : Nat} {p : Pt} (q : Pt) (h : Has w B 77 (ptc p)) : Has (putPt w B q) B 77 (ptc q) := by
  have := (((((h.set 0 (.int .i64 (q[0]?.getD 0))).set 1 (.int .i64 (q[1]?.getD 0))).set 2 (.int .i64 (q[2]?.getD 0))).set 3 (.int .i64 (q[3]?.getD 0))).set 4 (.int .i64 (q[4]?.getD 0))).set 5 (.int .i64 (q[5]?.getD 0))
  simpa using this
theorem only_putPt (w : World) (B : Nat) (q : Pt) : Only (· = B) w (putPt w B q) :=
  (((((only_cell w B 0 _).trans (only_cell _ B 1 _)).trans (only_cell _ B 2 _)).trans (only_cell _ B 3 _)).trans (only_cell _ B 4 _)).trans (only_cell _ B 5 _)
theorem below_putPt {w : World} {B D : Nat} (q : Pt) (h : D ≤ B) : Below D w (putPt w B q) :=
  ((((((Below.refl D w).setCell (p := ⟨B, 0, none⟩) h _).setCell (p := ⟨B, 1, none⟩) h _).setCell (p := ⟨B, 2, none⟩) h _).setCell (p := ⟨B, 3, none⟩) h _).setCell (p := ⟨B, 4, none⟩) h _).setCell (p := ⟨B, 5, none⟩) h _
set_option maxRecDepth 100000 in
set_option maxHeartbeats 2000000 in
theorem behind_any (p : Pt) (g : Gm) (e : Nat) (W : World) (hW : Wo W) (hp : PB 100000 p) (hg : okG g) (he : e < 4) : Calls Tryd.prog 67 #[ptv p, gmv g, .int .i64 e] W (PtPost (behindP p g e) W) := by
  have HE : Hid (behindP p g e = addAt (addAt p g.home.toNat (worthH e)) g.away.toNat (worthA e)) := Lib.hid rfl
  have HB : Hid (BhI W (((W.alloc (.cells (ptc p) 77)).alloc (.cells (gmc g) 53)).alloc (.cells (ptc zeroP) 77)) p g) := Lib.hid
    ⟨((below_one W _).alloc (by simp) _).alloc (by simp; omega) _, ((Has.new _ _ _).alloc _).alloc _, (has_newAt (by simp)).alloc _, has_newAt (by simp), hW.step (((below_one W _).alloc (by simp) _).alloc (by simp; omega) _)⟩
  obtain ⟨⟨h1, h2⟩, h3, h4⟩ := hg
  obtain ⟨h, hh⟩ : ∃ h : Nat, g.home = h := ⟨g.home.toNat, by omega⟩
  obtain ⟨a, ha⟩ : ∃ a : Nat, g.away = a := ⟨g.away.toNat, by omega⟩
  have hh6 : h < 6 := by omega
  have ha6 : a < 6 := by omega
  have HP1 := Lib.hid (hp.add hh6 (worthH_bd e).1)
  have hp1 := hp.b h
  have hw1 := worthH_bd e
  have hw2 := worthA_bd e
  have HP := Lib.hid hp
  have HEE : Hid (behindP p g e = addAt (addAt p h (worthH e)) a (worthA e)) := Lib.hid (by rw [HE.out, hh, ha]; rfl)
  have HHA := Lib.hid (And.intro hh ha)
  have HWo := Lib.hid hW
  obtain ⟨q, hq⟩ : ∃ q, q = behindP p g e := ⟨_, rfl⟩
  rw [← hq] at HEE ⊢
  obtain ⟨u, hu⟩ : ∃ u, u = worthH e := ⟨_, rfl⟩
  obtain ⟨v, hv⟩ : ∃ v, v = worthA e := ⟨_, rfl⟩
  have HUV := Lib.hid (And.intro hu hv)
  rw [← hu, ← hv] at HEE
  rw [← hu] at HP1 hw1
  rw [← hv] at hw2
  clear hq HE hh ha h1 h2 h3 h4 hp hW hu hv
  obtain ⟨c, hc⟩ : ∃ c, c = p.getD h 0 := ⟨_, rfl⟩
  rw [← hc] at hp1
  have HC := Lib.hid hc
  clear hc
  have e1 : IntKind.i64.wrap (c + u) = c + u := IntWalk.i64_in _ (by omega)
  have hh' : (h : Int) < 6 := by omega
  have ha' : (a : Int) < 6 := by omega
  have he' : (e : Int) < 4 := by omega
  unfold gmv ptv
  go_enter Tryd.func67, Tryd.ntmps67
  go_upto_region 1 with fail
  have HZ : Hid (((W.alloc (.cells (ptc p) 77)).alloc (.cells (gmc g) 53)).alloc (.cells (ptc zeroP) 77) = (((W.alloc (.cells (ptc p) 77)).alloc (.cells (gmc g) 53)).alloc (.cells #[.int .i64 0, .int .i64 0, .int .i64 0, .int .i64 0, .int .i64 0, .int .i64 0] 77))) := Lib.hid rfl
  rw [HZ.out] at HB
  generalize ((W.alloc (.cells (ptc p) 77)).alloc (.cells (gmc g) 53)).alloc (.cells #[.int .i64 0, .int .i64 0, .int .i64 0, .int .i64 0, .int .i64 0, .int .i64 0] 77) = w9 at HB ⊢
  clear HZ
  have y1 : w9.cell? ⟨W.heap.size + 1, 1, none⟩ = some (.int .i64 h) := by rw [← HHA.out.1]; exact HB.out.fg.cell 1
  have y2 : w9.cell? ⟨W.heap.size + 1, 2, none⟩ = some (.int .i64 a) := by rw [← HHA.out.2]; exact HB.out.fg.cell 2
  have p0 : w9.cell? ⟨W.heap.size, h, none⟩ = some (.int .i64 c) := by rw [HC.out]; exact (HB.out.fp.cell h).trans (ptc_at hh6)
  have pf := HB.out.fp.frozen h
  have pl := HB.out.fp.lt
  have o0 : w9.cell? ⟨0, e * 2, none⟩ = some (.int .i64 u) := by rw [HUV.out.1]; exact HB.out.wo.home he
  refine still_tail 10 (by kernel_rfl) (by kernel_rfl) ?_
  simp only [List.take_succ_cons, List.take_zero, List.drop_succ_cons, List.drop_zero]
  repeat still_step
  refine wpStill_nil ?_
  go_upto_region 2 with fail
  have HB1 : Hid (BhI W ((w9.setCell ⟨W.heap.size, h, none⟩ (.int .i64 (c + u))).drew) (addAt p h u) g) := Lib.hid (by
    have := (HB.out.set HP.out.l hh6 (c + u)).drew
    rwa [show p.set h (c + u) = addAt p h u by rw [HC.out]; rfl] at this)
  clear y1 y2 p0 pf pl o0 HB e1
  generalize (w9.setCell ⟨W.heap.size, h, none⟩ (.int .i64 (c + u))).drew = w1 at HB1 ⊢
  clear HP hp1
  have hp1 := HP1.out.b a
  obtain ⟨d, hd⟩ : ∃ d, d = (addAt p h u).getD a 0 := ⟨_, rfl⟩
  rw [← hd] at hp1
  have HD := Lib.hid hd
  clear hd
  have e1 : IntKind.i64.wrap (d + v) = d + v := IntWalk.i64_in _ (by omega)
  have y1 : w1.cell? ⟨W.heap.size + 1, 1, none⟩ = some (.int .i64 h) := by rw [← HHA.out.1]; exact HB1.out.fg.cell 1
  have y2 : w1.cell? ⟨W.heap.size + 1, 2, none⟩ = some (.int .i64 a) := by rw [← HHA.out.2]; exact HB1.out.fg.cell 2
  have p0 : w1.cell? ⟨W.heap.size, a, none⟩ = some (.int .i64 d) := by rw [HD.out]; exact (HB1.out.fp.cell a).trans (ptc_at ha6)
  have pf := HB1.out.fp.frozen a
  have pl := HB1.out.fp.lt
  have o0 : w1.cell? ⟨0, e * 2 + 1, none⟩ = some (.int .i64 v) := by rw [HUV.out.2]; exact HB1.out.wo.away he
  refine still_tail 10 (by kernel_rfl) (by kernel_rfl) ?_
  simp only [List.take_succ_cons, List.take_zero, List.drop_succ_cons, List.drop_zero]
  repeat still_step
  refine wpStill_nil ?_
  go_upto_region 3 with fail
  have HB2 : Hid (BhI W ((w1.setCell ⟨W.heap.size, a, none⟩ (.int .i64 (d + v))).drew) q g) := Lib.hid (by
    have := (HB1.out.set HP1.out.l ha6 (d + v)).drew
    rw [HEE.out]
    rwa [show (addAt p h u).set a (d + v) = addAt (addAt p h u) a v by rw [HD.out]; rfl] at this)
  clear y1 y2 p0 pf pl o0 HB1 e1
  generalize (w1.setCell ⟨W.heap.size, a, none⟩ (.int .i64 (d + v))).drew = w2 at HB2 ⊢
  clear HEE HD HC HP1 HUV HHA hp1
  have q0 : w2.cell? ⟨W.heap.size, 0, none⟩ = some (.int .i64 (q[0]?.getD 0)) := HB2.out.fp.cell 0
  have q1 : w2.cell? ⟨W.heap.size, 1, none⟩ = some (.int .i64 (q[1]?.getD 0)) := HB2.out.fp.cell 1
  have q2 : w2.cell? ⟨W.heap.size, 2, none⟩ = some (.int .i64 (q[2]?.getD 0)) := HB2.out.fp.cell 2
  have q3 : w2.cell? ⟨W.heap.size, 3, none⟩ = some (.int .i64 (q[3]?.getD 0)) := HB2.out.fp.cell 3
  have q4 : w2.cell? ⟨W.heap.size, 4, none⟩ = some (.int .i64 (q[4]?.getD 0)) := HB2.out.fp.cell 4
  have q5 : w2.cell? ⟨W.heap.size, 5, none⟩ = some (.int .i64 (q[5]?.getD 0)) := HB2.out.fp.cell 5
  have r0 : w2.cell? ⟨W.heap.size + 1 + 1, 0, none⟩ = some (.int .i64 0) := HB2.out.fr.cell 0
  have r1 : w2.cell? ⟨W.heap.size + 1 + 1, 1, none⟩ = some (.int .i64 0) := HB2.out.fr.cell 1
  have r2 : w2.cell? ⟨W.heap.size + 1 + 1, 2, none⟩ = some (.int .i64 0) := HB2.out.fr.cell 2
  have r3 : w2.cell? ⟨W.heap.size + 1 + 1, 3, none⟩ = some (.int .i64 0) := HB2.out.fr.cell 3
  have r4 : w2.cell? ⟨W.heap.size + 1 + 1, 4, none⟩ = some (.int .i64 0) := HB2.out.fr.cell 4
  have r5 : w2.cell? ⟨W.heap.size + 1 + 1, 5, none⟩ = some (.int .i64 0) := HB2.out.fr.cell 5
  have f0 := HB2.out.fr.frozen 0
  have f1 := HB2.out.fr.frozen 1
  have f2 := HB2.out.fr.frozen 2
  have f3 := HB2.out.fr.frozen 3
  have f4 := HB2.out.fr.frozen 4
  have f5 := HB2.out.fr.frozen 5
  have fl := HB2.out.fr.lt
  go_wp2_with fail
  refine bodyPost_ret (v := ptv q) (res_pt (D := W.heap.size + 1 + 1) (n := 6) (has_putPt q HB2.out.fr) rfl rfl) rfl ?_
  exact ⟨rfl, HB2.out.b.trans (below_putPt q (by omega))⟩
end Go.Proofs.YtljkgjfmambfoaaDoor
