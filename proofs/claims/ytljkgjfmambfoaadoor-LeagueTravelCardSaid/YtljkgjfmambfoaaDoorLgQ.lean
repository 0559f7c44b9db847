/- Contracts: rows. -/
import Derived.Test.YtljkgjfmambfoaaDoorLgP
namespace Go.Proofs.YtljkgjfmambfoaaDoor
open Go.RowKit Go.Shelf
attribute [local irreducible] wpQuiet
attribute [local go_sem] Oper.semAt_some
def mk (D : Nat) : Deferred := { target := .collected D, args := #[] }
theorem leave_marks {P : Program} {fn : Func} {tmps : Array Value} {R : Ending → World → Prop} {v : Value} (hr : ∀ W, (results fn tmps).run P W = .ok v W) : ∀ (Ds : List Nat) (W : World), Ds.Nodup → (∀ D ∈ Ds, W.heap[D]? = some (.deferred (some []))) → (∀ W', Only (· ∈ Ds) W W' → R (.returned v) W') →
    LeavesInM Fence.wide 3 P fn tmps R (Ds.map mk) .returning W
  | [], W, _, _, hR => ⟨v, hr W, hR W (Only.refl _ _)⟩
  | D :: Ds, W, nd, hD, hR => by
    refine ⟨by simp, .inl ⟨D, _, rfl, run_takeDeferred (hD D (by simp)), ?_⟩⟩
    obtain ⟨n1, n2⟩ := List.nodup_cons.1 nd
    refine leave_marks hr Ds _ n2 (fun D' h' => (World.putObj_heap_other (by rintro rfl; exact n1 h')).trans (hD D' (by simp [h']))) fun W' ho => hR W' ?_
    exact ((only_put _).weak (fun g hg => by rw [hg]; simp)).trans (ho.weak (fun g hg => by simp [show g ∈ Ds from hg]))
theorem own_upon {w w' : World} {base size n l : Nat} {e : TypeId} {v : Value} {xs : List Value} (h : w.ownsRow base e size v n xs) (ho : Only (· = l) w w') (hne : ∀ b, v.ownBlock = some b → b ≠ l) : w'.ownsRow base e size v n xs := by
  obtain ⟨hl, h0 | ⟨g, cap, cur, rfl, hB, hgc, h1, h2, h3, h4⟩⟩ := h
  · exact ⟨hl, .inl h0⟩
  · have hh : Has w g e cur := hgc
    exact ⟨hl, .inr ⟨g, cap, cur, rfl, hB, hh.only ho (hne g rfl), h1, h2, h3, h4⟩⟩
/-- a region that is shown not to panic, in a function with marks -/
def NoPan (Q : Exit → Act → World → Prop) : Exit → Act → World → Prop
  | .normal, a, w => Q .normal a w
  | _, _, _ => False
theorem wp_nopan {P : Program} {c : Code} {Q : Exit → Act → World → Prop} {a : Act} {w : World} (h : c.wp P (NoPan Q) a w) : c.wp P Q a w :=
  wp_mono h (fun e a w he => by cases e <;> first | exact he | exact he.elim)
/-- the rows, at work -/
structure RoI (W w : World) (x : Lg) (AF AG : Option Addr) (cf cg M M2 k : Nat) (v : Value) (Ds : List Nat) : Prop where
  lx : LX W w W.heap.size x AF AG cf cg
  fa : Has w M 77 (ptc (earnedP x.G))
  fm : Has w M2 77 (ptc (earnedP (sameG x.G (earnedP x.G))))
  ow : w.ownsRow (M2 + 1) 66 6 v k (nvl rwc ((rowsP x).take k))
  wo : Wo w
  ds : ∀ D ∈ Ds, w.heap[D]? = some (.deferred (some []))
  dl : ∀ D ∈ Ds, M2 < D
  nd : Ds.Nodup
  lt : W.heap.size < M ∧ M < M2
section
variable {W w w' : World} {x : Lg} {AF AG : Option Addr} {cf cg M M2 k : Nat} {v : Value} {Ds : List Nat}
theorem RoI.step (h : RoI W w x AF AG cf cg M M2 k v Ds) (hb : Below w.heap.size w w') : RoI W w' x AF AG cf cg M M2 k v Ds :=
  ⟨h.lx.step hb, h.fa.below hb h.fa.lt, h.fm.below hb h.fm.lt, own_step h.ow hb, h.wo.step hb, fun D hD => (hb.block D (Array.getElem?_eq_some_iff.1 (h.ds D hD)).1).trans (h.ds D hD), h.dl, h.nd, h.lt⟩
theorem RoI.upon {l : Nat} (h : RoI W w x AF AG cf cg M M2 k v Ds) (hl : M2 < l) (hn : ∀ D ∈ Ds, D ≠ l) (hv : ∀ b, v.ownBlock = some b → b ≠ l) (ho : Only (· = l) w w') : RoI W w' x AF AG cf cg M M2 k v Ds := by
  have hlt := h.lt
  have hb : Below W.heap.size w w' := ho.below h.lx.b.size (fun i hi e => by have e : i = l := e; omega)
  exact ⟨⟨h.lx.b.trans hb, h.lx.fx.only ho (by show ¬ W.heap.size = l; omega), h.lx.r.below hb⟩, h.fa.only ho (by show ¬ M = l; omega), h.fm.only ho (by show ¬ M2 = l; omega), own_upon h.ow ho hv,
    ⟨by have := h.wo.lt; have := ho.size; omega, fun i hi => (World.cell?_of_block (ho.block 0 h.wo.lt (by show ¬ 0 = l; omega))).trans (h.wo.c i hi)⟩,
    fun D hD => (ho.block D (Array.getElem?_eq_some_iff.1 (h.ds D hD)).1 (hn D hD)).trans (h.ds D hD), h.dl, h.nd, h.lt⟩
theorem RoI.loop {l : Nat} {rc : Loop} (h : RoI W w x AF AG cf cg M M2 k v Ds) (hl2 : M2 < l) (hl : w.heap[l]? = some (.loop rc)) (ho : Only (· = l) w w') : RoI W w' x AF AG cf cg M M2 k v Ds :=
  h.upon hl2 (fun D hD e => by have := h.ds D hD; rw [e, hl] at this; cases this) (fun b hb e => by
    obtain ⟨_, h0 | ⟨g, cap, cur, rfl, hB, hgc, _⟩⟩ := h.ow
    · rw [h0.1] at hb; cases hb
    · cases hb
      have hh : Has w g 66 cur := hgc
      exact has_ne_loop hh hl e) ho
theorem RoI.grown {v' : Value} (h : RoI W w x AF AG cf cg M M2 k v Ds) (hg : w.grownBy w' v.ownBlock) (ho : w'.ownsRow (M2 + 1) 66 6 v' (k + 1) (nvl rwc ((rowsP x).take (k + 1)))) : RoI W w' x AF AG cf cg M M2 (k + 1) v' Ds := by
  have hlt := h.lt
  have hb : Below (M2 + 1) w w' := ⟨hg.os, hg.tape, hg.output, hg.size, fun i hi => hg.block i (by have := h.fm.lt; omega) (fun e => by have := (own_block h.ow i e.symm).1; omega)⟩
  refine ⟨⟨h.lx.b.trans (hb.mono (by omega)), h.lx.fx.below hb (by omega), h.lx.r.below (hb.mono (by omega))⟩, h.fa.below hb (by omega), h.fm.below hb (by omega), ho, ⟨by have := h.wo.lt; have := hb.size; omega, fun i hi => (hb.cell (p := ⟨0, i, none⟩) (by show 0 < M2 + 1; omega)).trans (h.wo.c i hi)⟩, fun D hD => ?_, h.dl, h.nd, hlt⟩
  refine (hg.block D (Array.getElem?_eq_some_iff.1 (h.ds D hD)).1 (fun e => ?_)).trans (h.ds D hD)
  obtain ⟨_, h0 | ⟨g, cap, cur, rfl, hB, hgc, _⟩⟩ := h.ow
  · rw [h0.1] at e; cases e
  · cases e
    have h1 := h.ds _ hD
    have hh : Has w g 66 cur := hgc
    unfold Has at hh
    rw [h1] at hh; cases hh
theorem RoI.mark (h : RoI W w x AF AG cf cg M M2 k v Ds) {D : Nat} (hD : w.heap[D]? = some (.deferred (some []))) (hM : M2 < D) (hn : D ∉ Ds) : RoI W w x AF AG cf cg M M2 k v (D :: Ds) :=
  ⟨h.lx, h.fa, h.fm, h.ow, h.wo, fun D' h' => by rcases List.mem_cons.1 h' with rfl | h'; exact hD; exact h.ds D' h', fun D' h' => by rcases List.mem_cons.1 h' with rfl | h'; exact hM; exact h.dl D' h', List.nodup_cons.2 ⟨hn, h.nd⟩, h.lt⟩
end
/-- a row, at work over the games of its team -/
structure RiI (W w : World) (x : Lg) (AF AG : Option Addr) (cf cg M M2 k : Nat) (v : Value) (Ds : List Nat) (R : Nat) (r : Rw) : Prop where
  ro : RoI W w x AF AG cf cg M M2 k v Ds
  fr : Has w R 66 (rwc r)
  hR : M2 < R
  hv : ∀ b, v.ownBlock = some b → b ≠ R
  hn : ∀ D ∈ Ds, D < R
  it : GIt w (R + 1) (R + 1 + 1) x.G k AG cg
section
variable {W w w' : World} {x : Lg} {AF AG : Option Addr} {cf cg M M2 k R : Nat} {v : Value} {Ds : List Nat} {r : Rw}
theorem RiI.step (h : RiI W w x AF AG cf cg M M2 k v Ds R r) (hb : Below w.heap.size w w') : RiI W w' x AF AG cf cg M M2 k v Ds R r := ⟨h.ro.step hb, h.fr.below hb h.fr.lt, h.hR, h.hv, h.hn, h.it.step hb⟩
theorem RiI.loop {l : Nat} {rc : Loop} (h : RiI W w x AF AG cf cg M M2 k v Ds R r) (hl2 : M2 < l) (hl : w.heap[l]? = some (.loop rc)) (ho : Only (· = l) w w') : RiI W w' x AF AG cf cg M M2 k v Ds R r :=
  ⟨h.ro.loop hl2 hl ho, h.fr.only ho (has_ne_loop h.fr hl), h.hR, h.hv, h.hn, h.it.loop hl ho⟩
theorem RiI.put {r' : Rw} (h : RiI W w x AF AG cf cg M M2 k v Ds R r) (ho : Only (· = R) w w') (hr : Has w' R 66 (rwc r')) : RiI W w' x AF AG cf cg M M2 k v Ds R r' := by
  have h1 := h.ro.upon h.hR (fun D hD e => by have := h.hn D hD; omega) h.hv ho
  exact ⟨h1, hr, h.hR, h.hv, h.hn, ⟨h.it.fg.only ho (by show ¬ R + 1 = R; omega), h.it.ft.only ho (by show ¬ R + 1 + 1 = R; omega), h1.lx.up.g, h.it.l⟩⟩
end
def row0 (x : Lg) (k : Nat) : Rw := ⟨k, 0, (earnedP x.G).getD k 0, 0, 0, (earnedP (sameG x.G (earnedP x.G))).getD k 0⟩
def accK (x : Lg) (k j : Nat) : Rw := (((ofT k x.G).take j).filter shut).foldl addG (row0 x k)
theorem acc_succ {x : Lg} {k j : Nat} {g : Gm} (h : (ofT k x.G)[j]? = some g) : accK x k (j + 1) = if openB g then accK x k j else addG (accK x k j) g := by
  obtain ⟨hj, rfl⟩ := List.getElem?_eq_some_iff.1 h
  unfold accK
  rw [List.take_succ_eq_append_getElem hj, List.filter_append, List.foldl_append]
  cases ho : openB (ofT k x.G)[j] <;> simp [shut, ho]
theorem acc_full (x : Lg) (k : Nat) : accK x k (ofT k x.G).length = rowP x.G k := by
  unfold accK rowP row0
  rw [List.take_of_length_le (Nat.le_refl _)]
theorem shut_goals {x : Lg} (h : VL x) {k : Int} {g : Gm} (hg : g ∈ ofT k x.G) (ho : openB g = false) : goalsOK g := by
  have h1 := (h.g g (ofT_mem hg)).go (by unfold openB at ho; simpa using ho)
  exact ⟨h1.1, h1.2.1⟩
theorem acc_rb {x : Lg} (h : VL x) (k : Nat) : ∀ j, j ≤ (ofT k x.G).length → RB (99 * j) (accK x k j)
  | 0, _ => by
    have : accK x k 0 = row0 x k := rfl
    rw [this]
    exact ⟨by simp [row0], by simp [row0], by simp [row0]⟩
  | j + 1, hj => by
    have ih := acc_rb h k j (by omega)
    rw [acc_succ (List.getElem?_eq_getElem (by omega))]
    cases ho : openB (ofT (k : Int) x.G)[j]
    · have := rb_add ih (shut_goals h (List.getElem_mem _) ho)
      obtain ⟨h1, h2, h3⟩ := this
      exact ⟨by simp; omega, by simp; omega, by simp; omega⟩
    · obtain ⟨h1, h2, h3⟩ := ih
      exact ⟨by simp; omega, by simp; omega, by simp; omega⟩
theorem acc_bd {x : Lg} (h : VL x) {k j : Nat} (hj : j ≤ (ofT k x.G).length) : RB 1000000 (accK x k j) := by
  obtain ⟨h1, h2, h3⟩ := acc_rb h k j hj
  have h4 : (ofT (k : Int) x.G).length ≤ x.G.length := List.length_filter_le _ _
  have := h.ng
  exact ⟨by omega, by omega, by omega⟩
theorem rows_get {x : Lg} {k : Nat} (h : k < (rowsP x).length) : (rowsP x)[k] = rowP x.G k := by simp [rowsP]
theorem rows_len (x : Lg) : (rowsP x).length = x.F.length := by simp [rowsP]
theorem rows_take {x : Lg} {k : Nat} (h : k < x.F.length) : nvl rwc ((rowsP x).take k) ++ (rwc (rowP x.G k)).toList = nvl rwc ((rowsP x).take (k + 1)) := by
  have hl : k < (rowsP x).length := by rw [rows_len]; exact h
  rw [List.take_succ_eq_append_getElem hl, nvl_append, rows_get hl]
  simp [nvl]
theorem rwc_size (r : Rw) : (rwc r).size = 6 := rfl
theorem rwc_one (r : Rw) : ∀ u ∈ (rwc r).toList, u.oneCell' = true := by
  intro u hu
  simp only [rwc, List.mem_cons, List.not_mem_nil, or_false] at hu
  rcases hu with rfl | rfl | rfl | rfl | rfl | rfl <;> rfl
theorem Tryd.info66 : (Tryd.prog.info? 66).map (fun i => (i.zero, i.size, i.bytes)) = some (some (.agg #[.int .i64 0, .int .i64 0, .int .i64 0, .int .i64 0, .int .i64 0, .int .i64 0]), 6, 48) := by kernel_rfl
def RowsPost (l : List Rw) (W : World) (e : Ending) (W' : World) : Prop := ∃ A c, e = .returned (.slice A l.length c) ∧ NRow rwc 6 W' W'.heap.size A l ∧ Below W.heap.size W W'
set_option maxRecDepth 100000 in
set_option maxHeartbeats 4000000 in
theorem rows_any (x : Lg) (AF AG : Option Addr) (cf cg : Nat) (W : World) (hW : Wo W) (hr : LgR W W.heap.size x AF AG) (hv : VL x) :
    Calls Tryd.prog 34 #[lgv x AF AG cf cg] W (RowsPost (rowsP x) W) := by
  have HB : Hid (LX W (W.alloc (.cells (lgc x AF AG cf cg) 25)) W.heap.size x AF AG cf cg ∧ Wo (W.alloc (.cells (lgc x AF AG cf cg) 25))) := Lib.hid ⟨LX.start hr, hW.step (below_one _ _)⟩
  have HV := Lib.hid hv
  have HE := Lib.hid (fun w (hW : Wo w) (h : GRow w w.heap.size AG x.G) => earned_any x.G AG cg w hW h (fun g hg => hv.ok hg) hv.ng)
  have HM := Lib.hid (fun p w (h : GRow w w.heap.size AG x.G) => amongSame_any x.G AG cg p w h (fun g hg => hv.ok hg) hv.ng)
  have HE2 := Lib.hid (fun p A c w (hW : Wo w) (h : GRow w w.heap.size A (sameG x.G p)) => earned_any (sameG x.G p) A c w hW h (fun g hg => hv.ok (List.mem_filter.1 hg).1) (Nat.le_trans (List.length_filter_le _ _) hv.ng))
  have HGO := Lib.hid (fun w (k : Nat) => gamesOf_any AG x.G.length cg (k : Int) w)
  have HO := Lib.hid (fun g w => isOpen_any g w)
  have HAD := Lib.hid (fun r g R w h hb hg => add_any r g R w h hb hg)
  have HPB := Lib.hid (earned_pb' (G := x.G) (fun g hg => hv.ok hg))
  have hnf := hv.nf
  unfold PtPost ptv at HE HE2
  unfold RowPost ptv at HM
  clear hW hr hv
  unfold lgv
  refine (callsIn_wide (n := 3)).1 ?_
  refine callsIn_of_wp_marks Tryd.func34 rfl trivial ?_
  simp only [Tryd.ntmps34, List.size_toArray, List.length_cons, List.length_nil, Nat.reduceAdd, Nat.reduceSub, Array.replicate_succ, Array.replicate_zero, List.push_toArray, List.append_toArray, List.nil_append, List.cons_append]
  refine wpIn_wide.2 ?_
  go_upto_region 1 with fail
  generalize W.alloc (.cells (lgc x AF AG cf cg) 25) = w9 at HB ⊢
  have x0 : w9.cell? ⟨W.heap.size, 0, none⟩ = some (.slice AF x.F.length cf) := HB.out.1.fx.cell 0
  have x1 : w9.cell? ⟨W.heap.size, 1, none⟩ = some (.slice AG x.G.length cg) := HB.out.1.fx.cell 1
  go_wp2_with fail
  refine (HE.out _ HB.out.2 HB.out.1.up.g).mono ?_
  rintro e w1 ⟨rfl, hb1⟩
  obtain ⟨p, hp⟩ : ∃ p, p = earnedP x.G := ⟨_, rfl⟩
  have HP := Lib.hid hp
  rw [← hp]
  have H1 := Lib.hid (show LX W (w1.alloc (.cells (ptc p) 77)) W.heap.size x AF AG cf cg ∧ Wo (w1.alloc (.cells (ptc p) 77)) ∧ Has (w1.alloc (.cells (ptc p) 77)) w1.heap.size 77 (ptc p) ∧ W.heap.size < w1.heap.size from
    ⟨(HB.out.1.step hb1).step (below_one _ _), (HB.out.2.step hb1).step (below_one _ _), Has.new _ _ _, Nat.lt_of_lt_of_le HB.out.1.fx.lt hb1.size⟩)
  clear hb1 x0 x1 HB hp
  go_upto_region 2 with fail
  generalize w1.alloc (.cells (ptc p) 77) = w2 at H1 ⊢
  generalize w1.heap.size = M at H1 ⊢
  have x0 : w2.cell? ⟨W.heap.size, 0, none⟩ = some (.slice AF x.F.length cf) := H1.out.1.fx.cell 0
  have x1 : w2.cell? ⟨W.heap.size, 1, none⟩ = some (.slice AG x.G.length cg) := H1.out.1.fx.cell 1
  have q0 : w2.cell? ⟨M, 0, none⟩ = some (.int .i64 (p[0]?.getD 0)) := H1.out.2.2.1.cell 0
  have q1 : w2.cell? ⟨M, 1, none⟩ = some (.int .i64 (p[1]?.getD 0)) := H1.out.2.2.1.cell 1
  have q2 : w2.cell? ⟨M, 2, none⟩ = some (.int .i64 (p[2]?.getD 0)) := H1.out.2.2.1.cell 2
  have q3 : w2.cell? ⟨M, 3, none⟩ = some (.int .i64 (p[3]?.getD 0)) := H1.out.2.2.1.cell 3
  have q4 : w2.cell? ⟨M, 4, none⟩ = some (.int .i64 (p[4]?.getD 0)) := H1.out.2.2.1.cell 4
  have q5 : w2.cell? ⟨M, 5, none⟩ = some (.int .i64 (p[5]?.getD 0)) := H1.out.2.2.1.cell 5
  go_wp2_with fail
  refine (HM.out p _ H1.out.1.up.g).mono ?_
  rintro e w3 ⟨A3, c3, rfl, hg3, hb3⟩
  have H3 := Lib.hid (And.intro hg3 (And.intro (H1.out.1.step hb3) (And.intro (H1.out.2.1.step hb3) (And.intro (H1.out.2.2.1.below hb3 H1.out.2.2.1.lt) H1.out.2.2.2))))
  clear hg3 hb3 x0 x1 q0 q1 q2 q3 q4 q5 H1
  go_wp2_with fail
  refine (HE2.out p A3 c3 _ H3.out.2.2.1 H3.out.1).mono ?_
  rintro e w4 ⟨rfl, hb4⟩
  obtain ⟨q, hq⟩ : ∃ q, q = earnedP (sameG x.G p) := ⟨_, rfl⟩
  have HQ : Hid (q = earnedP (sameG x.G (earnedP x.G))) := Lib.hid (by rw [hq, HP.out])
  rw [← hq]
  have H4 := Lib.hid (show RoI W (w4.alloc (.cells (ptc q) 77)) x AF AG cf cg M w4.heap.size 0 (.slice none 0 0) [] from
    ⟨(H3.out.2.1.step hb4).step (below_one _ _), by rw [← HP.out]; exact (H3.out.2.2.2.1.below hb4 H3.out.2.2.2.1.lt).alloc _, by rw [← HQ.out]; exact Has.new _ _ _, by simpa [nvl] using own_nil _ _ _ _, (H3.out.2.2.1.step hb4).step (below_one _ _), fun D h => (by cases h), fun D h => (by cases h), .nil, H3.out.2.2.2.2, Nat.lt_of_lt_of_le H3.out.2.2.2.1.lt hb4.size⟩)
  clear hb4 H3 hq HE HM HE2 HP HQ HPB
  go_upto_region 3 with fail
  generalize w4.alloc (.cells (ptc q) 77) = w5 at H4 ⊢
  generalize w4.heap.size = M2 at H4 ⊢

  have x0 : w5.cell? ⟨W.heap.size, 0, none⟩ = some (.slice AF x.F.length cf) := H4.out.lx.fx.cell 0
  go_wp2_with fail
  refine wp_loop_ghost_k (fun gk a wr => ∃ u0 u2 u6 u7 u8 u9 u10 u11 u12 u13 u14 u15 u16 u17 u18 u21 u22 u23 u24 u25 u26 u27 u28 u29 u30 u31 u32 u33 u34 u35 u36 u37 u38 u39 u40 u41 u42 u43 u44 u45 u46 u47 v5 i20 dl, (∃ (k : Nat) (Ds : List Nat), k ≤ x.F.length ∧ x.F.length - k ≤ gk ∧ i20 = .int .i64 ((k : Nat) : Int) ∧ Hid (RoI W wr x AF AG cf cg M M2 k v5 Ds ∧ dl = Ds.map mk)) ∧ a = { tmps := #[u0, .pointer (some ⟨W.heap.size, 0, none⟩), u2, .pointer (some ⟨M, 0, none⟩), .pointer (some ⟨M2, 0, none⟩), v5, u6, u7, u8, u9, u10, u11, u12, u13, u14, u15, u16, u17, u18, .int .i64 (x.F.length : Int), i20, u21, u22, u23, u24, u25, u26, u27, u28, u29, u30, u31, u32, u33, u34, u35, u36, u37, u38, u39, u40, u41, u42, u43, u44, u45, u46, u47], defers := dl }) x.F.length ?start ?round
  case start =>
    (repeat apply Exists.intro)
    refine ⟨?_, rfl⟩
    exact ⟨0, [], by omega, by omega, rfl, Lib.hid ⟨H4.out, rfl⟩⟩
  case round =>
    intro gk _ wr hinv
    obtain ⟨u0, u2, u6, u7, u8, u9, u10, u11, u12, u13, u14, u15, u16, u17, u18, u21, u22, u23, u24, u25, u26, u27, u28, u29, u30, u31, u32, u33, u34, u35, u36, u37, u38, u39, u40, u41, u42, u43, u44, u45, u46, u47, v5, i20, dl, ⟨k, Ds, hk, hgk, rfl, HB⟩, ha⟩ := hinv
    subst ha
    try dsimp only
    intro _ _ _ _
    clear x0 H4
    by_cases hlt : k < x.F.length
    rotate_left
    · have hge : ¬ (k : Int) < x.F.length := by omega
      obtain rfl : k = x.F.length := by omega
      clear hk hgk hlt
      go_wp2_with fail
      rw [HB.out.2]
      obtain ⟨A, cap, rfl, hA⟩ := own_nrow (l := rowsP x) rwc_size (by
        have := HB.out.1.ow
        rw [List.take_of_length_le (by rw [rows_len]; exact Nat.le_refl _)] at this
        rw [rows_len]; exact this)
      refine leave_marks (v := .slice A (rowsP x).length cap) (fun W => by simp [results, Tryd.results34, go_sem]) Ds wr HB.out.1.nd HB.out.1.ds fun W' ho => ⟨A, cap, rfl, ?_, HB.out.1.lx.b.trans (ho.below HB.out.1.lx.b.size (fun i hi hD => by have := HB.out.1.dl i hD; have := HB.out.1.lt; omega))⟩
      intro i hi
      obtain ⟨g, o, e, hg, c⟩ := hA i hi
      refine ⟨g, o, e, Nat.lt_of_lt_of_le hg ho.size, fun j hj => (World.cell?_of_block (ho.block g hg (fun hD => ?_))).trans (c j hj)⟩
      have h1 := HB.out.1.ds g hD
      have h2 := c 0 (by omega)
      have e0 : (rwc (rowsP x)[i])[0]? = some (.int .i64 (rowsP x)[i].team) := rfl
      rw [e0] at h2
      simp [World.cell?, h1] at h2
    have hlt2 : (k : Int) < x.F.length := by omega
    have hk6 : k < 6 := by omega
    obtain ⟨a, ha⟩ : ∃ a, a = (earnedP x.G).getD k 0 := ⟨_, rfl⟩
    obtain ⟨b, hb⟩ : ∃ b, b = (earnedP (sameG x.G (earnedP x.G))).getD k 0 := ⟨_, rfl⟩
    have HR0 : Hid (row0 x k = ⟨k, 0, a, 0, 0, b⟩) := Lib.hid (by rw [ha, hb]; rfl)
    have p1 : wr.cell? ⟨M, k, none⟩ = some (.int .i64 a) := by rw [HB.out.1.fa.cell, ptc_at hk6, ha]
    have p2 : wr.cell? ⟨M2, k, none⟩ = some (.int .i64 b) := by rw [HB.out.1.fm.cell, ptc_at hk6, hb]
    have hk6i : (k : Int) < 6 := by omega
    have K1 : Hid (wr.drew.cell? ⟨M, k, none⟩ = some (.int .i64 a) ∧ wr.drew.cell? ⟨M2, k, none⟩ = some (.int .i64 b)) := Lib.hid ⟨p1, p2⟩
    have K9 : Hid ((wr.drew.alloc (.cells #[.int .i64 0, .int .i64 0, .int .i64 0, .int .i64 0, .int .i64 0, .int .i64 0] 66)).cell? ⟨M, k, none⟩ = some (.int .i64 a) ∧ (wr.drew.alloc (.cells #[.int .i64 0, .int .i64 0, .int .i64 0, .int .i64 0, .int .i64 0, .int .i64 0] 66)).cell? ⟨M2, k, none⟩ = some (.int .i64 b)) := Lib.hid ⟨(Has.alloc (HB.out.1.fa.drew) _).cell k |>.trans (by rw [ptc_at hk6, ha]), (Has.alloc (HB.out.1.fm.drew) _).cell k |>.trans (by rw [ptc_at hk6, hb])⟩
    clear ha hb p1 p2
    go_upto_region 7 with fail
    refine wp_nopan ?_
    refine wp_region_late (fun w' : World => w'.cell? ⟨M, k, none⟩ = some (.int .i64 a) ∧ w'.cell? ⟨M2, k, none⟩ = some (.int .i64 b)) [10] (by kernel_rfl) ?_
    refine wpLate_take (i := 0) (oi := ?oi0e7_) (v := ?v0e7_) [4, 8, 10] ?hi0e7_ (by kernel_rfl) (by kernel_rfl) (by kernel_rfl) (by kernel_rfl) (by kernel_rfl) ?hQ0e7_ (Or.inl ⟨?hw0e7_, ?hy0e7_⟩) K1.out ?rest0e7_
    case hi0e7_ => (simp only [List.getElem?_toArray, List.getElem?_cons_zero]; rfl)
    case hQ0e7_ => exact fun _ _ _ h => h
    case hw0e7_ => rfl
    case hy0e7_ =>
      intro w' hSw
      obtain ⟨r0, r1⟩ := hSw
      go_simp
      try exact rfl
    try simp only [Act.put, List.setIfInBounds_toArray, List.set_cons_zero, List.set_cons_succ]
    refine wpLate_take (i := 1) (oi := ?oi1e7_) (v := ?v1e7_) [2, 3, 4, 8, 10] ?hi1e7_ (by kernel_rfl) (by kernel_rfl) (by kernel_rfl) (by kernel_rfl) (by kernel_rfl) ?hQ1e7_ (Or.inl ⟨?hw1e7_, ?hy1e7_⟩) K1.out ?rest1e7_
    case hi1e7_ => (simp only [List.getElem?_toArray, List.getElem?_cons_zero, List.getElem?_cons_succ]; rfl)
    case hQ1e7_ => exact fun _ _ _ h => h
    case hw1e7_ => rfl
    case hy1e7_ =>
      intro w' hSw
      obtain ⟨r0, r1⟩ := hSw
      go_simp
      try exact rfl
    try simp only [Act.put, List.setIfInBounds_toArray, List.set_cons_zero, List.set_cons_succ]
    refine wpLate_take (i := 2) (oi := ?oi2e7_) (v := ?v2e7_) [3, 4, 8, 10] ?hi2e7_ (by kernel_rfl) (by kernel_rfl) (by kernel_rfl) (by kernel_rfl) (by kernel_rfl) ?hQ2e7_ (Or.inl ⟨?hw2e7_, ?hy2e7_⟩) K1.out ?rest2e7_
    case hi2e7_ => (simp only [List.getElem?_toArray, List.getElem?_cons_zero, List.getElem?_cons_succ]; rfl)
    case hQ2e7_ => exact fun _ _ _ h => h
    case hw2e7_ => rfl
    case hy2e7_ =>
      intro w' hSw
      obtain ⟨r0, r1⟩ := hSw
      go_simp
      try exact rfl
    try simp only [Act.put, List.setIfInBounds_toArray, List.set_cons_zero, List.set_cons_succ]
    refine wpLate_take (i := 3) (oi := ?oi3e7_) (v := ?v3e7_) [4, 8, 10] ?hi3e7_ (by kernel_rfl) (by kernel_rfl) (by kernel_rfl) (by kernel_rfl) (by kernel_rfl) ?hQ3e7_ (Or.inl ⟨?hw3e7_, ?hy3e7_⟩) K1.out ?rest3e7_
    case hi3e7_ => (simp only [List.getElem?_toArray, List.getElem?_cons_zero, List.getElem?_cons_succ]; rfl)
    case hQ3e7_ => exact fun _ _ _ h => h
    case hw3e7_ => rfl
    case hy3e7_ =>
      intro w' hSw
      obtain ⟨r0, r1⟩ := hSw
      go_simp
      try exact rfl
    try simp only [Act.put, List.setIfInBounds_toArray, List.set_cons_zero, List.set_cons_succ]
    refine wpLate_take (i := 4) (oi := ?oi4e7_) (v := ?v4e7_) [8, 10] ?hi4e7_ (by kernel_rfl) (by kernel_rfl) (by kernel_rfl) (by kernel_rfl) (by kernel_rfl) ?hQ4e7_ (Or.inl ⟨?hw4e7_, ?hy4e7_⟩) K1.out ?rest4e7_
    case hi4e7_ => (simp only [List.getElem?_toArray, List.getElem?_cons_zero, List.getElem?_cons_succ]; rfl)
    case hQ4e7_ => exact fun _ _ _ h => h
    case hw4e7_ => rfl
    case hy4e7_ =>
      intro w' hSw
      obtain ⟨r0, r1⟩ := hSw
      go_simp
      try exact rfl
    try simp only [Act.put, List.setIfInBounds_toArray, List.set_cons_zero, List.set_cons_succ]
    refine wpLate_take (i := 5) (oi := ?oi5e7_) (v := ?v5e7_) [6, 7, 8, 10] ?hi5e7_ (by kernel_rfl) (by kernel_rfl) (by kernel_rfl) (by kernel_rfl) (by kernel_rfl) ?hQ5e7_ (Or.inl ⟨?hw5e7_, ?hy5e7_⟩) K1.out ?rest5e7_
    case hi5e7_ => (simp only [List.getElem?_toArray, List.getElem?_cons_zero, List.getElem?_cons_succ]; rfl)
    case hQ5e7_ => exact fun _ _ _ h => h
    case hw5e7_ => rfl
    case hy5e7_ =>
      intro w' hSw
      obtain ⟨r0, r1⟩ := hSw
      go_simp
      try exact rfl
    try simp only [Act.put, List.setIfInBounds_toArray, List.set_cons_zero, List.set_cons_succ]
    refine wpLate_take (i := 6) (oi := ?oi6e7_) (v := ?v6e7_) [7, 8, 10] ?hi6e7_ (by kernel_rfl) (by kernel_rfl) (by kernel_rfl) (by kernel_rfl) (by kernel_rfl) ?hQ6e7_ (Or.inl ⟨?hw6e7_, ?hy6e7_⟩) K1.out ?rest6e7_
    case hi6e7_ => (simp only [List.getElem?_toArray, List.getElem?_cons_zero, List.getElem?_cons_succ]; rfl)
    case hQ6e7_ => exact fun _ _ _ h => h
    case hw6e7_ => rfl
    case hy6e7_ =>
      intro w' hSw
      obtain ⟨r0, r1⟩ := hSw
      go_simp
      try exact rfl
    try simp only [Act.put, List.setIfInBounds_toArray, List.set_cons_zero, List.set_cons_succ]
    refine wpLate_take (i := 7) (oi := ?oi7e7_) (v := ?v7e7_) [8, 10] ?hi7e7_ (by kernel_rfl) (by kernel_rfl) (by kernel_rfl) (by kernel_rfl) (by kernel_rfl) ?hQ7e7_ (Or.inl ⟨?hw7e7_, ?hy7e7_⟩) K1.out ?rest7e7_
    case hi7e7_ => (simp only [List.getElem?_toArray, List.getElem?_cons_zero, List.getElem?_cons_succ]; rfl)
    case hQ7e7_ => exact fun _ _ _ h => h
    case hw7e7_ => rfl
    case hy7e7_ =>
      intro w' hSw
      obtain ⟨r0, r1⟩ := hSw
      go_simp
      try exact rfl
    try simp only [Act.put, List.setIfInBounds_toArray, List.set_cons_zero, List.set_cons_succ]
    refine wpLate_take (i := 8) (oi := ?oi8e7_) (v := ?v8e7_) [10] ?hi8e7_ (by kernel_rfl) (by kernel_rfl) (by kernel_rfl) (by kernel_rfl) (by kernel_rfl) ?hQ8e7_ (Or.inl ⟨?hw8e7_, ?hy8e7_⟩) K1.out ?rest8e7_
    case hi8e7_ => (simp only [List.getElem?_toArray, List.getElem?_cons_zero, List.getElem?_cons_succ]; rfl)
    case hQ8e7_ => exact fun _ _ _ h => h
    case hw8e7_ => rfl
    case hy8e7_ =>
      intro w' hSw
      obtain ⟨r0, r1⟩ := hSw
      go_simp
      try exact rfl
    try simp only [Act.put, List.setIfInBounds_toArray, List.set_cons_zero, List.set_cons_succ]
    refine wpLate_one (i := 9) (o := ?o9e7_) (by kernel_rfl) ?ho9e7_ ?hk9e7_
    case ho9e7_ => (simp only [List.getElem?_toArray, List.getElem?_cons_zero, List.getElem?_cons_succ]; rfl)
    intro K hK
    go_simp
    refine hK.out _ _ (fun h => K9.out) ?_
    clear hK K
    try simp only [Act.put, List.setIfInBounds_toArray, List.set_cons_zero, List.set_cons_succ]
    refine wpLate_one (i := 10) (o := ?o10e7_) (by kernel_rfl) ?ho10e7_ ?hk10e7_
    case ho10e7_ => (simp only [List.getElem?_toArray, List.getElem?_cons_zero, List.getElem?_cons_succ]; rfl)
    intro K hK
    go_simp
    refine hK.out _ _ (fun h => absurd h (by decide)) ?_
    clear hK K
    try simp only [Act.put, List.setIfInBounds_toArray, List.set_cons_zero, List.set_cons_succ]
    refine wpLate_done (by kernel_rfl) ?_ _
    try simp only [Act.put, List.setIfInBounds_toArray, List.set_cons_zero, List.set_cons_succ]
    dsimp only [NoPan]
    have H7 : Hid (RoI W (wr.alloc (.cells #[.int .i64 k, .int .i64 0, .int .i64 a, .int .i64 0, .int .i64 0, .int .i64 b] 66)).drew x AF AG cf cg M M2 k v5 Ds ∧ Has (wr.alloc (.cells #[.int .i64 k, .int .i64 0, .int .i64 a, .int .i64 0, .int .i64 0, .int .i64 b] 66)).drew wr.heap.size 66 (rwc (accK x k 0)) ∧ M2 < wr.heap.size ∧ (∀ b, v5.ownBlock = some b → b ≠ wr.heap.size) ∧ (∀ D ∈ Ds, D < wr.heap.size) ∧ dl = Ds.map mk) := by
      refine Lib.hid ⟨(HB.out.1.step (below_one _ _)).step (Below.refl _ _).drew, ?_, HB.out.1.fm.lt, fun b hb => by have := (own_block HB.out.1.ow b hb).2; omega, fun D hD => (Array.getElem?_eq_some_iff.1 (HB.out.1.ds D hD)).1, HB.out.2⟩
      have e : accK x k 0 = row0 x k := rfl
      rw [e, HR0.out]
      exact Has.drew (Has.new _ _ _)
    go_upto_region 8 with fail
    have hz : (wr.alloc (.cells #[.int .i64 k, .int .i64 0, .int .i64 a, .int .i64 0, .int .i64 0, .int .i64 b] 66)).drew.heap.size = wr.heap.size + 1 := by simp
    generalize (wr.alloc (.cells #[.int .i64 k, .int .i64 0, .int .i64 a, .int .i64 0, .int .i64 0, .int .i64 b] 66)).drew = w6 at H7 hz ⊢
    generalize wr.heap.size = R at H7 hz ⊢
    clear K1 K9 HR0 HB
    have x1 : w6.cell? ⟨W.heap.size, 1, none⟩ = some (.slice AG x.G.length cg) := H7.out.1.lx.fx.cell 1
    have HZ := Lib.hid hz
    clear hz
    go_wp2_with fail
    refine (HGO.out _ k).mono ?_
    rintro e w7 ⟨rfl, rfl⟩
    have H8 : Hid (RiI W ((w6.alloc (.cells #[.slice AG x.G.length cg] 23)).alloc (.cells #[.int .i64 (k : Int)] 3)) x AF AG cf cg M M2 k v5 Ds R (accK x k 0)) := by
      have h1 := git_new (W := w6) (c := cg) (t := (k : Int)) H7.out.1.lx.up.g H7.out.1.lx.r.lg
      rw [HZ.out] at h1
      exact Lib.hid ⟨H7.out.1.step (below_two _ _ _), (H7.out.2.1.alloc _).alloc _, H7.out.2.2.1, H7.out.2.2.2.1, H7.out.2.2.2.2.1, h1⟩
    have HZ4 : Hid (((w6.alloc (.cells #[.slice AG x.G.length cg] 23)).alloc (.cells #[.int .i64 (k : Int)] 3)).heap.size = R + 3 ∧ dl = Ds.map mk ∧ M2 < R ∧ (∀ D ∈ Ds, D < R)) := Lib.hid ⟨by simp [HZ.out], H7.out.2.2.2.2.2, H7.out.2.2.1, H7.out.2.2.2.2.1⟩
    have hz := HZ.out
    clear x1 H7
    go_wp2_with fail
    clear hz HZ
    generalize (w6.alloc (.cells #[.slice AG x.G.length cg] 23)).alloc (.cells #[.int .i64 (k : Int)] 3) = w0 at H8 HZ4 ⊢
    have HAS := Lib.hid (fun j g (h : (ofT (k : Int) x.G)[j]? = some g) => acc_succ h)
    have HGL := Lib.hid (fun g (h : g ∈ ofT (k : Int) x.G) ho => shut_goals HV.out h ho)
    have HBD := Lib.hid (fun j (h : j ≤ (ofT (k : Int) x.G).length) => acc_bd HV.out h)
    have HRT := Lib.hid (rows_take hlt)
    have HAF := Lib.hid (acc_full x k)
    refine wp_range_seq (gf := 53) (xs := (ofT (k : Int) x.G).map fun g => #[gmv g]) (Rd := fun w => GIt w (R + 1) (R + 1 + 1) x.G k AG cg) (by first | rfl | (rw [show R + 2 = R + 1 + 1 from rfl])) enters53 (games_it _ _ x.G k AG cg) xs_size
      (· = R) (fun j w => RiI W w x AF AG cf cg M M2 k v5 Ds R (accK x k j)) (fun _ _ => False)
      (fun i hi => by have := HZ4.out.1; have hi : i = R := hi; omega) (fun j w h => h.it) (fun j w w' h hb => h.step hb) (fun j l w w' rc h h1 h2 h3 => h.loop (by have := HZ4.out.1; have := HZ4.out.2.2.1; omega) h2 h3) (fun cd l w w' rc h h1 h2 h3 => h)
      H8.out ?rd ?q0 ?q1
    case rd =>
      intro j args l rc W1 hj hI hll hlr
      obtain ⟨g, hg, rfl⟩ := xs_at hj
      have HI := Lib.hid (And.intro hI (And.intro hll hlr))
      have HSk := Lib.hid (HAS.out j g hg)
      have HMem := Lib.hid (List.mem_of_getElem? hg)
      have HBj := Lib.hid (HBD.out j (Nat.le_of_lt (List.getElem?_eq_some_iff.1 hg).1))
      clear hj hI hg hll hlr H8 HRT HAF
      unfold gmv at *
      rw [zip1]
      gi_wp2_with (fail)
      have H1 : Hid (RiI W (W1.alloc (.cells (gmc g) 53)) x AF AG cf cg M M2 k v5 Ds R (accK x k j) ∧ Has (W1.alloc (.cells (gmc g) 53)) W1.heap.size 53 (gmc g) ∧ (W1.alloc (.cells (gmc g) 53)).heap[l]? = some (.loop rc) ∧ l < W1.heap.size) := Lib.hid ⟨HI.out.1.step (below_one _ _), Has.new _ _ _, (Below.heap_alloc _ _ _ (Array.getElem?_eq_some_iff.1 HI.out.2.2).1).trans HI.out.2.2, (Array.getElem?_eq_some_iff.1 HI.out.2.2).1⟩
      refine (show Below _ _ _ ∧ _ from ⟨below_one _ _, ?_⟩)
      generalize W1.alloc (.cells (gmc g) 53) = w1 at H1 ⊢
      generalize W1.heap.size = E at H1 ⊢
      intro w2 rc' ho hl2
      have H2 : Hid (RiI W w2 x AF AG cf cg M M2 k v5 Ds R (accK x k j) ∧ Has w2 E 53 (gmc g)) := Lib.hid ⟨H1.out.1.loop (by have := HI.out.2.1; have := HZ4.out.1; have := HZ4.out.2.2.1; omega) H1.out.2.2.1 ho, H1.out.2.1.only ho (by have := H1.out.2.2.2; show ¬ E = l; omega)⟩
      have HOk := Lib.hid (fun w => HO.out g w)
      clear ho hl2 H1 HI
      have y0 : w2.cell? ⟨E, 0, none⟩ = some (.int .i64 g.day) := H2.out.2.cell 0
      have y1 : w2.cell? ⟨E, 1, none⟩ = some (.int .i64 g.home) := H2.out.2.cell 1
      have y2 : w2.cell? ⟨E, 2, none⟩ = some (.int .i64 g.away) := H2.out.2.cell 2
      have y3 : w2.cell? ⟨E, 3, none⟩ = some (.int .i64 g.fin) := H2.out.2.cell 3
      have y4 : w2.cell? ⟨E, 4, none⟩ = some (.int .i64 g.hg) := H2.out.2.cell 4
      have y5 : w2.cell? ⟨E, 5, none⟩ = some (.int .i64 g.ag) := H2.out.2.cell 5
      obtain ⟨m, hm⟩ : ∃ m, m = accK x k j := ⟨_, rfl⟩
      rw [← hm] at H2 HBj HSk
      clear hm
      unfold gmv at *
      cases hop : openB g <;> rw [hop] at HOk HSk
      · have HQ : Hid (accK x k (j + 1) = addG m g) := Lib.hid (by rw [HSk.out]; simp)
        have HADk := Lib.hid (fun w h => HAD.out m g R w h HBj.out (HGL.out g HMem.out hop))
        unfold AddPost at HADk
        clear hop HSk
        gi_wp2_with (fail)
        refine ⟨trivial, CallsIn.inRound _ ((callsIn_wide.2 (HOk.out _)).mono ?_)⟩
        rintro e w3 ⟨rfl, hb3⟩
        have H3 := Lib.hid (And.intro hb3 (And.intro (H2.out.1.step hb3) (H2.out.2.below hb3 H2.out.2.lt)))
        clear hb3 H2 y0 y1 y2 y3 y4 y5
        have y0 : w3.cell? ⟨E, 0, none⟩ = some (.int .i64 g.day) := H3.out.2.2.cell 0
        have y1 : w3.cell? ⟨E, 1, none⟩ = some (.int .i64 g.home) := H3.out.2.2.cell 1
        have y2 : w3.cell? ⟨E, 2, none⟩ = some (.int .i64 g.away) := H3.out.2.2.cell 2
        have y3 : w3.cell? ⟨E, 3, none⟩ = some (.int .i64 g.fin) := H3.out.2.2.cell 3
        have y4 : w3.cell? ⟨E, 4, none⟩ = some (.int .i64 g.hg) := H3.out.2.2.cell 4
        have y5 : w3.cell? ⟨E, 5, none⟩ = some (.int .i64 g.ag) := H3.out.2.2.cell 5
        gi_wp2_with (fail)
        refine ⟨trivial, CallsIn.inRound _ ((callsIn_wide.2 (HADk.out _ H3.out.2.1.fr)).mono ?_)⟩
        rintro e w4 ⟨rfl, hr4, ho4⟩
        have H4 := Lib.hid (And.intro ho4 (H3.out.2.1.put ho4 hr4))
        clear hr4 ho4 y0 y1 y2 y3 y4 y5
        gi_wp2_with (fail)
        exact RQ.next ((Only.of_below H3.out.1).trans H4.out.1) (by rw [HQ.out]; exact H4.out.2)
      · have HQ : Hid (accK x k (j + 1) = m) := Lib.hid (by rw [HSk.out]; simp)
        clear hop HSk
        gi_wp2_with (fail)
        refine ⟨trivial, CallsIn.inRound _ ((callsIn_wide.2 (HOk.out _)).mono ?_)⟩
        rintro e w3 ⟨rfl, hb3⟩
        have H3 := Lib.hid (And.intro hb3 (H2.out.1.step hb3))
        clear hb3 H2 y0 y1 y2 y3 y4 y5
        gi_wp2_with (fail)
        exact RQ.next (Only.of_below H3.out.1) (by rw [HQ.out]; exact H3.out.2)
    case q1 => exact fun _ _ h => h.elim
    case q0 =>
      intro w' hI hD
      rw [List.length_map, HAF.out] at hI
      obtain ⟨r, hrr⟩ : ∃ r, r = rowP x.G k := ⟨_, rfl⟩
      rw [← hrr] at hI
      have HRT2 : Hid (nvl rwc ((rowsP x).take k) ++ (rwc r).toList = nvl rwc ((rowsP x).take (k + 1))) := Lib.hid (by rw [hrr]; exact HRT.out)
      have HI := Lib.hid (And.intro (hI.ro.mark hD (by have := HZ4.out.1; have := HZ4.out.2.2.1; omega) (fun h => by have := HZ4.out.2.2.2 _ h; have := HZ4.out.1; omega)) hI.fr)
      clear hI hD H8 hrr HAS HGL HBD HRT HAF
      have r0 : w'.cell? ⟨R, 0, none⟩ = some (.int .i64 r.team) := HI.out.2.cell 0
      have r1 : w'.cell? ⟨R, 1, none⟩ = some (.int .i64 r.games) := HI.out.2.cell 1
      have r2 : w'.cell? ⟨R, 2, none⟩ = some (.int .i64 r.pts) := HI.out.2.cell 2
      have r3 : w'.cell? ⟨R, 3, none⟩ = some (.int .i64 r.gf) := HI.out.2.cell 3
      have r4 : w'.cell? ⟨R, 4, none⟩ = some (.int .i64 r.ga) := HI.out.2.cell 4
      have r5 : w'.cell? ⟨R, 5, none⟩ = some (.int .i64 r.among) := HI.out.2.cell 5
      obtain ⟨i0, hi, hz0, hz1, hz2⟩ := info_parts Tryd.info66
      have HA : Hid (RoI W (w'.alloc (.cells (rwc r) 66)) x AF AG cf cg M M2 k v5 (w0.heap.size :: Ds) ∧ Has (w'.alloc (.cells (rwc r) 66)) w'.heap.size 66 (rwc r)) := Lib.hid ⟨HI.out.1.step (below_one _ _), Has.new _ _ _⟩
      clear HI
      unfold rwc at HA
      go_wp2_with (at_builtin; refine wpList_append_row rfl _ _ 63 rfl (M2 + 1) 66 i0 (.agg #[.int .i64 0, .int .i64 0, .int .i64 0, .int .i64 0, .int .i64 0, .int .i64 0]) 6 48 Tryd.underlying63 hi hz0 hz1 hz2 rfl (by decide) v5 k (nvl rwc ((rowsP x).take k)) rfl HA.out.1.ow (some ⟨w'.heap.size, 0, none⟩) 1 1 (rwc r).toList rfl ?g1 rfl ?g2 (rwc_one r) ?g3 ?g4 ?g5 ?_)
      case g1 => intro h; cases h
      case g2 =>
        intro ad had j u hu
        cases had
        rw [addr_add, HA.out.2.cell]
        simpa [rwc] using hu
      case g3 => unfold maxLen; omega
      case g4 => omega
      case g5 => have := HA.out.1.fm.lt; omega
      intro v' w'' hown hgr
      have HZ5 := Lib.hid (show RoI W w'' x AF AG cf cg M M2 (k + 1) v' (w0.heap.size :: Ds) from HA.out.1.grown hgr (by rw [← HRT2.out]; exact hown))
      have HDL : Hid (({ target := .collected w0.heap.size, args := #[] } :: dl : List Deferred) = (w0.heap.size :: Ds).map mk) := Lib.hid (by rw [HZ4.out.2.1]; rfl)
      clear hown hgr HA HRT2 r0 r1 r2 r3 r4 r5 hi hz0 hz1 hz2
      go_wp2_with fail
      go_roundg (x.F.length - (k + 1))
      case measure => omega
      case rel => exact ⟨k + 1, w0.heap.size :: Ds, by omega, Nat.le_refl _, by go_num, Lib.hid ⟨HZ5.out, HDL.out⟩⟩
end Go.Proofs.YtljkgjfmambfoaaDoor
