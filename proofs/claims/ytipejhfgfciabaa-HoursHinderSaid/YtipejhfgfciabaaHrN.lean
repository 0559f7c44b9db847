/- The fairest plan: the law of a range over a function, plain facts, memory. -/
import Derived.Test.YtipejhfgfciabaaHrM
import Derived.Test.YtipejhfgfciabaaLate
import Derived.RangeFuncIn
import Derived.RangeFuncLeaves
import Derived.Sort.LoopGhostIn
import Derived.WalkMore
import Derived.Laws.EntriesVeiled
namespace Go.Proofs.Ytipejhfgfciabaa
open Go.RowKit Go.Shelf
theorem wp_rangeFunc_wide {P : Program} {g : Operand} {ps : Array Tmp} {assign body : Code} {Q : Exit → Act → World → Prop} {a : Act} {w : World} {gf : Nat} {lb : Array Value} (hg : a.eval g = .func (.func gf) #[] lb) (eg : Enters P gf)
    (h : ∀ fn, CallsIn Fence.wide 2 P gf (#[.func (.yield (w.heap.size + 1)) #[] #[]] ++ lb) ((w.alloc (.deferred (some []))).alloc (.loop (loopRec fn a.tmps ps assign body w.heap.size .ready none)))
      (rangePost Fence.wide 3 P (w.heap.size + 1) Q { a with defers := { target := .collected w.heap.size, args := #[] } :: a.defers })) :
    (Code.rangeFunc g ps assign body).wp P Q a w := by
  refine (wpIn_wide (n := 3)).1 ?_
  have hres : ∀ fn, (resolve a.eval (rangeCall g (w.heap.size + 1)) 0).run P ((w.alloc (.deferred (some []))).alloc (.loop (loopRec fn a.tmps ps assign body w.heap.size .ready none))) =
      .ok { target := .fn (.func gf) lb, args := #[.func (.yield (w.heap.size + 1)) #[] #[]] } ((w.alloc (.deferred (some []))).alloc (.loop (loopRec fn a.tmps ps assign body w.heap.size .ready none))) := fun fn => by
    simp only [resolve, hg]
    simp [go_sem]
  have hinv : ∀ fn, (invoke (.fn (.func gf) lb) #[.func (.yield (w.heap.size + 1)) #[] #[]]).run P ((w.alloc (.deferred (some []))).alloc (.loop (loopRec fn a.tmps ps assign body w.heap.size .ready none))) =
      .ok (.enter gf (#[.func (.yield (w.heap.size + 1)) #[] #[]] ++ lb)) ((w.alloc (.deferred (some []))).alloc (.loop (loopRec fn a.tmps ps assign body w.heap.size .ready none))) := fun fn => by
    have := eg
    unfold Enters at this
    simp [invoke, go_sem, this]
  refine wpIn_rangeFunc (F := Fence.wide) (n := 3) ?_
  intro fn _
  have h1 := run_enterLoop_outer (P := P) (w := w) fn a.tmps ps assign body
  have h2 := hres fn
  have h3 := hinv fn
  have h4 := h fn
  obtain ⟨w1, hw1⟩ : ∃ w1, w1 = (w.alloc (.deferred (some []))).alloc (.loop (loopRec fn a.tmps ps assign body w.heap.size .ready none)) := ⟨_, rfl⟩
  rw [← hw1] at h2 h3 h4
  refine ⟨w.heap.size + 1, [{ target := .collected w.heap.size, args := #[] }], w1, { target := .fn (.func gf) lb, args := #[.func (.yield (w.heap.size + 1)) #[] #[]] }, w1, gf, #[.func (.yield (w.heap.size + 1)) #[] #[]] ++ lb, w1, ?_, h2, fun _ _ => trivial, h3, ?_, ?_⟩
  · rw [hw1]; exact h1
  · intro _; decide
  · exact h4
theorem cmpL_le_nil {l : List Int} (h : cmpL l [] ≤ 0) : l = [] := by
  cases l with
  | nil => rfl
  | cons => simp [cmpL] at h
/-- what is best goes on with what is best -/
theorem best_found (x : Tt) (n : Nat) (p : Pl) : ∃ gq ∈ nexts x p, bestP x n gq.2 = bestP x (n + 1) p := by
  have hF := foldMost_ge (bestP x n) (nexts x p) []
  rcases hF.2.2 with h | ⟨gq, hm, h⟩
  · have hm : ((-1 : Int), freeP p) ∈ nexts x p := by rw [nexts_eq]; simp
    have h0 := hF.2.1 _ hm
    rw [h] at h0
    exact ⟨_, hm, by rw [cmpL_le_nil h0]; exact h.symm⟩
  · exact ⟨gq, hm, h.symm⟩
theorem find_at {α : Type} {f : α → Bool} : ∀ {l : List α} {k : Nat} {a : α}, l[k]? = some a → f a = true → (∀ j b, j < k → l[j]? = some b → f b = false) → l.find? f = some a
  | [], _, _, h, _, _ => by simp at h
  | c :: l, 0, a, h, hf, _ => by
    simp at h; subst h
    simp [hf]
  | c :: l, k + 1, a, h, hf, hj => by
    have h0 := hj 0 c (by omega) (by simp)
    rw [List.find?_cons, h0]
    exact find_at (k := k) (by simpa using h) hf (fun j b hjk hb => hj (j + 1) b (by omega) (by simpa using hb))
/-- the next hour of the plan -/
theorem plan_step {x : Tt} {n : Nat} {p : Pl} {aim : List Int} {k : Nat} {g : Int} {q : Pl} (hk : (nexts x p)[k]? = some (g, q)) (hb : bestP x n q = aim) (hj : ∀ j b, j < k → (nexts x p)[j]? = some b → bestP x n b.2 ≠ aim) : planP x aim (n + 1) p = g :: planP x aim n q := by
  have := find_at (f := fun gq : Int × Pl => decide (bestP x n gq.2 = aim)) hk (by simpa using hb) (fun j b h1 h2 => by simpa using hj j b h1 h2)
  simp only [planP, this]
theorem own_cells {w : World} {B : Nat} {v : Value} {n : Nat} {xs : List Value} (h : w.ownsRow B 3 1 v n xs) {g : Nat} (hg : v.ownBlock = some g) : ∃ cur, Has w g 3 cur ∧ B ≤ g := by
  obtain ⟨_, ⟨rfl, _⟩ | ⟨g', cap, cur, rfl, hb, hh, _⟩⟩ := h
  · cases hg
  · cases hg; exact ⟨cur, hh, hb⟩
theorem has_type {w : World} {g : Nat} {t t' : TypeId} {cs cs' : Array Value} (h : Has w g t cs) (h' : Has w g t' cs') : t = t' := by
  unfold Has at h h'; rw [h] at h'; cases h'; rfl
theorem grown_of_only {w w' : World} {D : Nat} (h : Only (· = D) w w') : w.grownBy w' (some D) := ⟨h.os, h.tape, h.output, h.size, fun k hk hn => h.block k hk (fun e => hn (by rw [e]))⟩
theorem only_of_grown {w w' : World} {r : Option Nat} (h : w.grownBy w' r) : Only (fun g => r = some g) w w' := ⟨h.os, h.tape, h.output, h.size, fun k hk hn => h.block k hk (fun e => hn e.symm)⟩
/-- the blocks of the plan's own row, and of the place -/
abbrev OwnS (W : World) (v : Value) : Nat → Prop := fun g => v.ownBlock = some g ∨ g = W.heap.size + 7
theorem Only.weak {S S' : Nat → Prop} {w w' : World} (h : Only S w w') (hS : ∀ g, S g → S' g) : Only S' w w' := h.mono (fun g _ hg => hS g hg)
theorem IRowS.turnTo {S S' : Nat → Prop} {w w' : World} {A : Option Addr} {l : List Int} (h : IRowS S w A l) (ho : Only S w w') (hS : ∀ g, g < w.heap.size → ¬ S g → ¬ S' g) : IRowS S' w' A l := fun k hk => by
  obtain ⟨g, o, e, hg, hn, c⟩ := h k hk
  exact ⟨g, o, e, by have := ho.size; omega, hS g hg hn, (World.cell?_of_block (ho.block g hg hn)).trans c⟩
theorem MI.turnTo {S S' : Nat → Prop} {w w' : World} {Bx BK BB BM m : Nat} {x : Tt} {AH AG : Option Addr} {ch cg : Nat} (h : MI S w Bx BK BB BM x AH AG ch cg m) (ho : Only S w w') (hd : ¬ S Bx ∧ ¬ S BK ∧ ¬ S BB ∧ ¬ S BM) (hS : ∀ g, g < w.heap.size → ¬ S g → ¬ S' g) (hb : ∀ g, S' g → g < w'.heap.size) : MI S' w' Bx BK BB BM x AH AG ch cg m :=
  ⟨h.fx.only ho hd.1, h.fk.only ho hd.2.1, h.fb.only ho hd.2.2.1, h.tr.turn h.ta ho, h.mm.imp (ho.block _ h.mm.lt hd.2.2.2) (fun _ _ ⟨p, A, c, h1, h2, h3, h4⟩ => ⟨p, A, c, h1, h2, h3, h4.turnTo ho hS⟩), h.ta.swap h.tr hS, hb⟩
/-- what fairest works with -/
structure FS (W w : World) (x : Tt) (AH AG : Option Addr) (ch cg m BA : Nat) (pl : List Int) (pv : Value) (p : Pl) (A : Option Addr) (c : Nat) (aim : List Int) (dl : List Nat) : Prop where
  mi : MI (OwnS W pv) w W.heap.size (W.heap.size + 1 + 1) (W.heap.size + 1 + 1 + 1) (W.heap.size + 1) x AH AG ch cg m
  b : Below W.heap.size W w
  pc : Has w (W.heap.size + 6) 26 #[pv]
  po : w.ownsRow W.heap.size 3 1 pv pl.length (pl.map (Value.int .i64))
  pq : Has w (W.heap.size + 7) 75 (plc p)
  fa : Has w BA 26 #[.slice A aim.length c]
  ra : IRowS (OwnS W pv) w A aim
  lt : W.heap.size + 7 < BA
  ds : ∀ D ∈ dl, W.heap.size + 7 < D ∧ w.heap[D]? = some (.deferred (some []))
section
variable {W w w' : World} {x : Tt} {AH AG : Option Addr} {ch cg m BA : Nat} {pl : List Int} {pv : Value} {p : Pl} {A : Option Addr} {c : Nat} {aim : List Int} {dl : List Nat}
theorem FS.step (h : FS W w x AH AG ch cg m BA pl pv p A c aim dl) (hb : Below w.heap.size w w') : FS W w' x AH AG ch cg m BA pl pv p A c aim dl :=
  ⟨h.mi.step hb, h.b.trans (hb.mono h.b.size), h.pc.below hb h.pc.lt, h.po.kept (grown_of_only (Only.of_below (S := (· = w.heap.size)) hb)) (by
    cases hv : pv.ownBlock with
    | none => exact .inl rfl
    | some g => exact .inr (fun e => by obtain ⟨cur, hh, _⟩ := own_cells h.po hv; have := hh.lt; cases e; omega)), h.pq.below hb h.pq.lt, h.fa.below hb h.fa.lt, h.ra.step hb, h.lt,
   fun D hD => ⟨(h.ds D hD).1, (hb.block _ (Array.getElem?_eq_some_iff.1 (h.ds D hD).2).1).trans (h.ds D hD).2⟩⟩
/-- a block is written that holds nothing of this -/
theorem FS.only {D : Nat} (h : FS W w x AH AG ch cg m BA pl pv p A c aim dl) (ho : Only (· = D) w w') (h7 : W.heap.size + 7 < D) (hBA : D ≠ BA) (hdl : D ∉ dl) (hD : ∀ o n, w.cell? ⟨D, o, none⟩ ≠ some (.int .i64 n)) (hnc : ∀ cs, ¬ Has w D 3 cs) : FS W w' x AH AG ch cg m BA pl pv p A c aim dl :=
  ⟨h.mi.only ho ⟨by omega, by omega, by omega, by omega⟩ hD, ⟨ho.os.trans h.b.os, ho.tape.trans h.b.tape, ho.output.trans h.b.output, Nat.le_trans h.b.size ho.size, fun k hk => (ho.block k (by have := h.b.size; omega) (by omega)).trans (h.b.block k hk)⟩,
   h.pc.only ho (by omega), h.po.kept (grown_of_only ho) (by
    cases hv : pv.ownBlock with
    | none => exact .inl rfl
    | some g => exact .inr (fun e => by obtain ⟨cur, hh, _⟩ := own_cells h.po hv; cases e; exact hnc _ hh)), h.pq.only ho (by omega), h.fa.only ho (fun e => hBA e.symm), h.ra.only ho hD, h.lt,
   fun D' hD' => ⟨(h.ds D' hD').1, (ho.block _ (Array.getElem?_eq_some_iff.1 (h.ds D' hD').2).1 (fun e => hdl (e ▸ hD'))).trans (h.ds D' hD').2⟩⟩
/-- the map is written -/
theorem FS.wrote {m' : Nat} (h : FS W w x AH AG ch cg m BA pl pv p A c aim dl) (ho : Only (· = W.heap.size + 1) w w') (hm : MI (OwnS W pv) w' W.heap.size (W.heap.size + 1 + 1) (W.heap.size + 1 + 1 + 1) (W.heap.size + 1) x AH AG ch cg m') : FS W w' x AH AG ch cg m' BA pl pv p A c aim dl :=
  ⟨hm, ⟨ho.os.trans h.b.os, ho.tape.trans h.b.tape, ho.output.trans h.b.output, Nat.le_trans h.b.size ho.size, fun k hk => (ho.block k (by have := h.b.size; omega) (by omega)).trans (h.b.block k hk)⟩,
   h.pc.only ho (by omega), h.po.kept (grown_of_only ho) (by
    cases hv : pv.ownBlock with
    | none => exact .inl rfl
    | some g => exact .inr (fun e => by obtain ⟨cur, hh, _⟩ := own_cells h.po hv; cases e; exact h.mi.mm.ne_has hh rfl)), h.pq.only ho (by omega), h.fa.only ho (by have := h.lt; omega), h.ra.only ho h.mi.notInt, h.lt,
   fun D hD => ⟨(h.ds D hD).1, (ho.block _ (Array.getElem?_eq_some_iff.1 (h.ds D hD).2).1 (by have := (h.ds D hD).1; omega)).trans (h.ds D hD).2⟩⟩
/-- an hour is given -/
theorem FS.appended {w2 : World} {v' : Value} {g : Int} (h : FS W w x AH AG ch cg m BA pl pv p A c aim dl) (hown : w2.ownsRow W.heap.size 3 1 v' (pl.length + 1) (pl.map (Value.int .i64) ++ [.int .i64 g])) (hgr : w.grownBy w2 pv.ownBlock) (hloc : v'.ownBlock = pv.ownBlock ∨ v'.ownBlock = some w.heap.size) (q : Pl) :
    FS W (putP (w2.setCell ⟨W.heap.size + 6, 0, none⟩ v') (W.heap.size + 7) q) x AH AG ch cg m BA (pl ++ [g]) v' q A c aim dl := by
  have ho1 := only_of_grown hgr
  have hoS : Only (OwnS W pv) w w2 := ho1.weak (fun g hg => .inl hg)
  have hno : ∀ {D t cs}, Has w D t cs → t ≠ 3 → ¬ pv.ownBlock = some D := fun hD ht e => by
    obtain ⟨cur, hh, _⟩ := own_cells h.po e
    exact ht (has_type hD hh)
  have hnS : ∀ {D t cs}, Has w D t cs → t ≠ 3 → D ≠ W.heap.size + 7 → ¬ OwnS W pv D := fun hD ht h7 e => e.elim (hno hD ht) h7
  have hBM : ¬ pv.ownBlock = some (W.heap.size + 1) := fun e => by
    obtain ⟨cur, hh, _⟩ := own_cells h.po e
    exact h.mi.mm.ne_has hh rfl
  have hS : ∀ g, g < w.heap.size → ¬ OwnS W pv g → ¬ OwnS W v' g := fun g hg hn e => by
    rcases e with e | e
    · rcases hloc with hl | hl
      · exact hn (.inl (hl ▸ e))
      · rw [hl] at e; cases e; omega
    · exact hn (.inr e)
  have hsb : ∀ g, OwnS W v' g → g < w2.heap.size := fun g hg => by
    rcases hg with hg | hg
    · exact (hown.lt g hg).2
    · subst hg; exact Nat.lt_of_lt_of_le h.pq.lt ho1.size
  have m2 := h.mi.turnTo hoS ⟨hnS h.mi.fx (by decide) (by omega), hnS h.mi.fk (by decide) (by omega), hnS h.mi.fb (by decide) (by omega), fun e => e.elim hBM (by omega)⟩ hS hsb
  have hlt := h.lt
  have pc2 := h.pc.only ho1 (hno h.pc (by decide))
  have pq2 := h.pq.only ho1 (hno h.pq (by decide))
  have fa2 := h.fa.only ho1 (hno h.fa (by decide))
  have ra2 := h.ra.turnTo hoS hS
  have ds2 : ∀ D ∈ dl, w2.heap[D]? = some (.deferred (some [])) := fun D hD => (ho1.block _ (Array.getElem?_eq_some_iff.1 (h.ds D hD).2).1 (fun e => by
    obtain ⟨cur, hh, _⟩ := own_cells h.po e
    have := (h.ds D hD).2
    unfold Has at hh
    rw [this] at hh; cases hh)).trans (h.ds D hD).2
  have hB2 : Below W.heap.size W w2 := ⟨hgr.os.trans h.b.os, hgr.tape.trans h.b.tape, hgr.output.trans h.b.output, Nat.le_trans h.b.size hgr.size, fun k hk => (hgr.block k (by have := h.b.size; omega) (fun e => by
    obtain ⟨cur, hh, hb⟩ := own_cells h.po e.symm
    omega)).trans (h.b.block k hk)⟩
  -- the plan's cell
  have ho3 : Only (· = W.heap.size + 6) w2 (w2.setCell ⟨W.heap.size + 6, 0, none⟩ v') := (Only.refl (· = W.heap.size + 6) w2).setCell (p := ⟨W.heap.size + 6, 0, none⟩) (.inl rfl) _
  have hD3 : ∀ o n, w2.cell? ⟨W.heap.size + 6, o, none⟩ ≠ some (.int .i64 n) := fun o n e => by
    rw [pc2.cell o] at e
    match o, e with
    | 0, e =>
      simp at e
      rcases h.po.2 with ⟨e2, _⟩ | ⟨g', cap, cur, e2, _⟩ <;> rw [e2] at e <;> cases e
    | o + 1, e => simp at e
  have hno2 : ∀ {D t cs}, Has w2 D t cs → t ≠ 3 → ¬ v'.ownBlock = some D := fun hD ht e => by
    obtain ⟨cur, hh, _⟩ := own_cells hown e
    exact ht (has_type hD hh)
  have m3 := m2.only ho3 ⟨by omega, by omega, by omega, by omega⟩ hD3
  have pc3 := pc2.set 0 v'
  have pq3 := pq2.only ho3 (by omega)
  have fa3 := fa2.only ho3 (by omega)
  have ra3 := ra2.only ho3 hD3
  have po3 := hown.kept (grown_of_only ho3) (by
    cases hv : v'.ownBlock with
    | none => exact .inl rfl
    | some g => exact .inr (fun e => by cases e; exact hno2 pc2 (by decide) hv))
  have hB3 := hB2.setCell (p := ⟨W.heap.size + 6, 0, none⟩) (by simp only; omega) v'
  have ds3 : ∀ D ∈ dl, (w2.setCell ⟨W.heap.size + 6, 0, none⟩ v').heap[D]? = some (.deferred (some [])) := fun D hD => (ho3.block _ (Array.getElem?_eq_some_iff.1 (ds2 D hD)).1 (by have := (h.ds D hD).1; omega)).trans (ds2 D hD)
  generalize w2.setCell ⟨W.heap.size + 6, 0, none⟩ v' = w3 at m3 pc3 pq3 fa3 ra3 po3 hB3 ds3 ⊢
  -- the place
  have ho4 : Only (· = W.heap.size + 7) w3 (putP w3 (W.heap.size + 7) q) :=
    ((((((((Only.refl (· = W.heap.size + 7) w3).setCell (p := ⟨W.heap.size + 7, 0, none⟩) (.inl rfl) _).setCell (p := ⟨W.heap.size + 7, 1, none⟩) (.inl rfl) _).setCell (p := ⟨W.heap.size + 7, 2, none⟩) (.inl rfl) _).setCell (p := ⟨W.heap.size + 7, 3, none⟩) (.inl rfl) _).setCell (p := ⟨W.heap.size + 7, 4, none⟩) (.inl rfl) _).setCell (p := ⟨W.heap.size + 7, 5, none⟩) (.inl rfl) _).setCell (p := ⟨W.heap.size + 7, 6, none⟩) (.inl rfl) _)
  have ho4S : Only (OwnS W v') w3 (putP w3 (W.heap.size + 7) q) := ho4.weak (fun g hg => .inr hg)
  have hno3 : ∀ {D t cs}, Has w3 D t cs → t ≠ 3 → ¬ v'.ownBlock = some D := fun hD ht e => by
    obtain ⟨cur, hh, _⟩ := own_cells po3 e
    exact ht (has_type hD hh)
  have m4 := m3.turn ho4S ⟨fun e => e.elim (hno3 m3.fx (by decide)) (by omega), fun e => e.elim (hno3 m3.fk (by decide)) (by omega), fun e => e.elim (hno3 m3.fb (by decide)) (by omega), fun e => e.elim (fun e => by
    obtain ⟨cur, hh, _⟩ := own_cells po3 e
    exact m3.mm.ne_has hh rfl) (by omega)⟩
  refine ⟨m4, below_putP q hB3 (by omega), pc3.only ho4 (by omega), ?_, has_putP q pq3, fa3.only ho4 (by omega), ra3.turn ho4S, hlt, fun D hD => ⟨(h.ds D hD).1, (ho4.block _ (Array.getElem?_eq_some_iff.1 (ds3 D hD)).1 (by have := (h.ds D hD).1; omega)).trans (ds3 D hD)⟩⟩
  have := po3.kept (grown_of_only ho4) (by
    cases hv : v'.ownBlock with
    | none => exact .inl rfl
    | some g => exact .inr (fun e => by cases e; exact hno3 pq3 (by decide) hv))
  simpa using this
end
end Go.Proofs.Ytipejhfgfciabaa
