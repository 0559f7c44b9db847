/- The best from a place on: plain facts, memory. -/
import Derived.Test.YtipejhfgfciabaaHrI
namespace Go.Proofs.Ytipejhfgfciabaa
open Go.RowKit Go.Shelf
theorem best_len (x : Tt) (n : Nat) (p : Pl) : (bestP x n p).length = x.G.length := by
  obtain ⟨l, q, _, _, hb⟩ := (best_spec x n p).2
  rw [hb, srt_length, owned_length]
theorem getD_set {l : List Int} {i j : Nat} {v : Int} (h : i < l.length) : (l.set i v).getD j 0 = if i = j then v else l.getD j 0 := by
  simp only [List.getD_eq_getElem?_getD, List.getElem?_set]
  by_cases hij : i = j
  · simp [hij ▸ h, hij]
  · simp [hij]
/-- what comes next can be, an hour later -/
theorem next_vp {x : Tt} {p q : Pl} {g : Int} (hv : VT x) (hp : VP x p) (hh : p.hour < x.H.length) (h : (g, q) ∈ nexts x p) : VP x q ∧ q.hour = p.hour + 1 := by
  obtain ⟨hc, hg⟩ := mem_nexts.1 h
  unfold choices at hc
  rcases List.mem_append.1 hc with hc | hc
  · obtain ⟨i, hi, rfl⟩ := List.mem_map.1 hc
    have hi : i < x.G.length := by simpa using hi
    rw [nxt_of hi hh] at hg
    have hi5 : i < 5 := by have := hv.ng; omega
    split at hg
    · cases hg
    · split at hg
      · cases hg
      · rename_i hm
        split at hg
        · cases hg
        · cases hg
          have hl := hp.l
          have hgi := hp.g i hi5
          have hvg := hv.g _ (List.getElem_mem hi)
          refine ⟨⟨by simpa using hl, by simp only; omega, fun j hj => ?_, ?_⟩, rfl⟩
          · simp only
            rw [getD_set (by omega)]
            split
            · omega
            · exact hp.g j hj
          · simp only
            split <;> omega
  · simp at hc
    subst hc
    rw [give_free] at hg
    cases hg
    exact ⟨⟨hp.l, by simp only; omega, hp.g, by simp only; omega⟩, rfl⟩
theorem nexts_le (x : Tt) (p : Pl) (hv : VT x) : (nexts x p).length ≤ 6 := by
  unfold nexts
  refine Nat.le_trans (List.length_filterMap_le _ _) ?_
  have := hv.ng
  simp [choices]; omega
def cntB : Nat → Nat
  | 0 => 0
  | n + 1 => 6 * cntB n + 1
theorem IRow.only {w w' : World} {B D : Nat} {A : Option Addr} {l : List Int} (h : IRow w B A l) (ho : Only (· = D) w w') (hD : ∀ o n, w.cell? ⟨D, o, none⟩ ≠ some (.int .i64 n)) : IRow w' B A l := fun k hk => by
  obtain ⟨g, o, e, hg, c⟩ := h k hk
  have hne : g ≠ D := fun e => hD (o + k) l[k] (e ▸ c)
  refine ⟨g, o, e, hg, ?_⟩
  have hlt := World.block_lt_of_cell? w _ c
  exact (World.cell?_of_block (ho.block g hlt hne)).trans c
theorem TR.only {w w' : World} {B D : Nat} {x : Tt} {AH AG : Option Addr} (h : TR w B x AH AG) (ho : Only (· = D) w w') (hD : ∀ o n, w.cell? ⟨D, o, none⟩ ≠ some (.int .i64 n)) : TR w' B x AH AG := by
  refine ⟨fun k hk => ?_, fun k hk => ?_, h.lh, h.lg⟩
  · obtain ⟨g, o, e, hg, c⟩ := h.h k hk
    refine ⟨g, o, e, hg, fun j hj => ?_⟩
    have c0 : w.cell? ⟨g, o + k * 3, none⟩ = some (.int .i64 x.H[k].day) := c 0 (by omega)
    have hne : g ≠ D := fun e => hD _ _ (e ▸ c0)
    exact (World.cell?_of_block (ho.block g (World.block_lt_of_cell? w _ c0) hne)).trans (c j hj)
  · obtain ⟨g, o, e, hg, c⟩ := h.g k hk
    refine ⟨g, o, e, hg, fun j hj => ?_⟩
    have c0 : w.cell? ⟨g, o + k * 5, none⟩ = some (.int .i64 x.G[k].days) := c 0 (by omega)
    have hne : g ≠ D := fun e => hD _ _ (e ▸ c0)
    exact (World.cell?_of_block (ho.block g (World.block_lt_of_cell? w _ c0) hne)).trans (c j hj)
/-- a row of numbers, in blocks that are none of S -/
def IRowS (S : Nat → Prop) (w : World) (A : Option Addr) (l : List Int) : Prop :=
  ∀ k (h : k < l.length), ∃ g o, A = some ⟨g, o, none⟩ ∧ g < w.heap.size ∧ ¬ S g ∧ w.cell? ⟨g, o + k, none⟩ = some (.int .i64 l[k])
theorem IRowS.row {S : Nat → Prop} {w : World} {A : Option Addr} {l : List Int} (h : IRowS S w A l) : IRow w w.heap.size A l := fun k hk => by
  obtain ⟨g, o, e, hg, _, c⟩ := h k hk
  exact ⟨g, o, e, hg, c⟩
theorem IRowS.step {S : Nat → Prop} {w w' : World} {A : Option Addr} {l : List Int} (h : IRowS S w A l) (hb : Below w.heap.size w w') : IRowS S w' A l := fun k hk => by
  obtain ⟨g, o, e, hg, hn, c⟩ := h k hk
  exact ⟨g, o, e, by have := hb.size; omega, hn, (hb.cell (p := ⟨g, _, none⟩) hg).trans c⟩
theorem IRowS.only {S : Nat → Prop} {w w' : World} {D : Nat} {A : Option Addr} {l : List Int} (h : IRowS S w A l) (ho : Only (· = D) w w') (hD : ∀ o n, w.cell? ⟨D, o, none⟩ ≠ some (.int .i64 n)) : IRowS S w' A l := fun k hk => by
  obtain ⟨g, o, e, hg, hn, c⟩ := h k hk
  have hne : g ≠ D := fun e => hD (o + k) l[k] (e ▸ c)
  exact ⟨g, o, e, by have := ho.size; omega, hn, (World.cell?_of_block (ho.block g hg hne)).trans c⟩
/-- blocks of S alone have turned -/
theorem IRowS.turn {S : Nat → Prop} {w w' : World} {A : Option Addr} {l : List Int} (h : IRowS S w A l) (ho : Only S w w') : IRowS S w' A l := fun k hk => by
  obtain ⟨g, o, e, hg, hn, c⟩ := h k hk
  exact ⟨g, o, e, by have := ho.size; omega, hn, (World.cell?_of_block (ho.block g hg hn)).trans c⟩
/-- others are to be let alone: such as are newer -/
theorem IRowS.swap {S S' : Nat → Prop} {w : World} {A : Option Addr} {l : List Int} (h : IRowS S w A l) (hS : ∀ g, g < w.heap.size → ¬ S g → ¬ S' g) : IRowS S' w A l := fun k hk => by
  obtain ⟨g, o, e, hg, hn, c⟩ := h k hk
  exact ⟨g, o, e, hg, hS g hg hn, c⟩
/-- the timetable's rows are none of S -/
def TAv (S : Nat → Prop) (x : Tt) (AH AG : Option Addr) : Prop := (0 < x.H.length → ∀ g o, AH = some ⟨g, o, none⟩ → ¬ S g) ∧ (0 < x.G.length → ∀ g o, AG = some ⟨g, o, none⟩ → ¬ S g)
theorem TR.turn {S : Nat → Prop} {w w' : World} {x : Tt} {AH AG : Option Addr} (h : TR w w.heap.size x AH AG) (ha : TAv S x AH AG) (ho : Only S w w') : TR w' w'.heap.size x AH AG := by
  refine ⟨fun k hk => ?_, fun k hk => ?_, h.lh, h.lg⟩
  · obtain ⟨g, o, e, hg, c⟩ := h.h k hk
    have hn := ha.1 (by omega) g o e
    exact ⟨g, o, e, by have := ho.size; omega, fun j hj => (World.cell?_of_block (ho.block g hg hn)).trans (c j hj)⟩
  · obtain ⟨g, o, e, hg, c⟩ := h.g k hk
    have hn := ha.2 (by omega) g o e
    exact ⟨g, o, e, by have := ho.size; omega, fun j hj => (World.cell?_of_block (ho.block g hg hn)).trans (c j hj)⟩
theorem TAv.swap {S S' : Nat → Prop} {w : World} {x : Tt} {AH AG : Option Addr} (ha : TAv S x AH AG) (h : TR w w.heap.size x AH AG) (hS : ∀ g, g < w.heap.size → ¬ S g → ¬ S' g) : TAv S' x AH AG :=
  ⟨fun h0 g o e => by
    obtain ⟨g', o', e', hg, _⟩ := h.h 0 h0
    have hn := ha.1 h0 g o e
    rw [e] at e'; cases e'
    exact hS g hg hn, fun h0 g o e => by
    obtain ⟨g', o', e', hg, _⟩ := h.g 0 h0
    have hn := ha.2 h0 g o e
    rw [e] at e'; cases e'
    exact hS g hg hn⟩
/-- an entry of what is known -/
def bInv (S : Nat → Prop) (x : Tt) (w : World) (k v : Value) : Prop :=
  ∃ p A c, VP x p ∧ k = plv p ∧ v = .slice A (bestP x (x.H.length - p.hour) p).length c ∧ IRowS S w A (bestP x (x.H.length - p.hour) p)
/-- what the search reads -/
structure MI (S : Nat → Prop) (w : World) (Bx BK BB BM : Nat) (x : Tt) (AH AG : Option Addr) (ch cg m : Nat) : Prop where
  fx : Has w Bx 25 (ttc x AH AG ch cg)
  fk : Has w BK 114 #[.map (some BM)]
  fb : Has w BB 115 #[.func (.func 82) #[] #[.pointer (some ⟨Bx, 0, none⟩), .pointer (some ⟨BK, 0, none⟩), .pointer (some ⟨BB, 0, none⟩)]]
  tr : TR w w.heap.size x AH AG
  mm : Memo w BM m (bInv S x w)
  ta : TAv S x AH AG
  sb : ∀ g, S g → g < w.heap.size
section
variable {S S' : Nat → Prop} {w w' : World} {Bx BK BB BM m D : Nat} {x : Tt} {AH AG : Option Addr} {ch cg : Nat}
theorem MI.step (h : MI S w Bx BK BB BM x AH AG ch cg m) (hb : Below w.heap.size w w') : MI S w' Bx BK BB BM x AH AG ch cg m :=
  ⟨h.fx.below hb h.fx.lt, h.fk.below hb h.fk.lt, h.fb.below hb h.fb.lt, h.tr.step hb, h.mm.imp (hb.block _ h.mm.lt) (fun _ _ ⟨p, A, c, h1, h2, h3, h4⟩ => ⟨p, A, c, h1, h2, h3, h4.step hb⟩), h.ta, fun g hg => Nat.lt_of_lt_of_le (h.sb g hg) hb.size⟩
theorem MI.more {m' : Nat} (h : MI S w Bx BK BB BM x AH AG ch cg m) (hm : m ≤ m') : MI S w Bx BK BB BM x AH AG ch cg m' := ⟨h.fx, h.fk, h.fb, h.tr, h.mm.more hm, h.ta, h.sb⟩
/-- another block, no row of numbers, is written -/
theorem MI.only (h : MI S w Bx BK BB BM x AH AG ch cg m) (ho : Only (· = D) w w') (hd : D ≠ Bx ∧ D ≠ BK ∧ D ≠ BB ∧ D ≠ BM) (hD : ∀ o n, w.cell? ⟨D, o, none⟩ ≠ some (.int .i64 n)) : MI S w' Bx BK BB BM x AH AG ch cg m :=
  ⟨h.fx.only ho (fun e => hd.1 e.symm), h.fk.only ho (fun e => hd.2.1 e.symm), h.fb.only ho (fun e => hd.2.2.1 e.symm), (h.tr.only ho hD).more ho.size,
   h.mm.imp (ho.block _ h.mm.lt (fun e => hd.2.2.2 e.symm)) (fun _ _ ⟨p, A, c, h1, h2, h3, h4⟩ => ⟨p, A, c, h1, h2, h3, h4.only ho hD⟩), h.ta, fun g hg => Nat.lt_of_lt_of_le (h.sb g hg) ho.size⟩
/-- blocks of S have turned -/
theorem MI.turn (h : MI S w Bx BK BB BM x AH AG ch cg m) (ho : Only S w w') (hd : ¬ S Bx ∧ ¬ S BK ∧ ¬ S BB ∧ ¬ S BM) : MI S w' Bx BK BB BM x AH AG ch cg m :=
  ⟨h.fx.only ho hd.1, h.fk.only ho hd.2.1, h.fb.only ho hd.2.2.1, h.tr.turn h.ta ho, h.mm.imp (ho.block _ h.mm.lt hd.2.2.2) (fun _ _ ⟨p, A, c, h1, h2, h3, h4⟩ => ⟨p, A, c, h1, h2, h3, h4.turn ho⟩), h.ta, fun g hg => Nat.lt_of_lt_of_le (h.sb g hg) ho.size⟩
/-- others are to be let alone -/
theorem MI.swap (h : MI S w Bx BK BB BM x AH AG ch cg m) (hS : ∀ g, g < w.heap.size → ¬ S g → ¬ S' g) (hb : ∀ g, S' g → g < w.heap.size) : MI S' w Bx BK BB BM x AH AG ch cg m :=
  ⟨h.fx, h.fk, h.fb, h.tr, h.mm.imp rfl (fun _ _ ⟨p, A, c, h1, h2, h3, h4⟩ => ⟨p, A, c, h1, h2, h3, h4.swap hS⟩), h.ta.swap h.tr hS, hb⟩
/-- the map is written -/
theorem MI.wrote {m' : Nat} (h : MI S w Bx BK BB BM x AH AG ch cg m) (ho : Only (· = BM) w w') (hm : Memo w' BM m' (bInv S x w)) : MI S w' Bx BK BB BM x AH AG ch cg m' := by
  have hD : ∀ o n, w.cell? ⟨BM, o, none⟩ ≠ some (.int .i64 n) := fun o n e => h.mm.ne e rfl
  exact ⟨h.fx.only ho (fun e => h.mm.ne_has h.fx e), h.fk.only ho (fun e => h.mm.ne_has h.fk e), h.fb.only ho (fun e => h.mm.ne_has h.fb e), (h.tr.only ho hD).more ho.size,
    hm.imp rfl (fun _ _ ⟨p, A, c, h1, h2, h3, h4⟩ => ⟨p, A, c, h1, h2, h3, h4.only ho hD⟩), h.ta, fun g hg => Nat.lt_of_lt_of_le (h.sb g hg) ho.size⟩
theorem MI.notInt (h : MI S w Bx BK BB BM x AH AG ch cg m) : ∀ o n, w.cell? ⟨BM, o, none⟩ ≠ some (.int .i64 n) := fun _ _ e => h.mm.ne e rfl
end
/-- a row, the map written -/
def BestPost (S : Nat → Prop) (l : List Int) (Bx BK BB BM : Nat) (x : Tt) (AH AG : Option Addr) (ch cg m : Nat) (W : World) (e : Ending) (W' : World) : Prop :=
  ∃ A c, e = .returned (.slice A l.length c) ∧ IRowS S W' A l ∧ Only (· = BM) W W' ∧ MI S W' Bx BK BB BM x AH AG ch cg m
set_option maxRecDepth 100000 in
set_option maxHeartbeats 1000000 in
theorem longer_any (x : Tt) (AH AG : Option Addr) (ch cg : Nat) (p : Pl) (W : World) :
    Calls Try.prog 83 #[ttv x AH AG ch cg, plv p] W fun e W' => e = .returned (.func (.func 98) #[] #[.pointer (some ⟨W.heap.size, 0, none⟩), .pointer (some ⟨W.heap.size + 1, 0, none⟩)]) ∧ W' = (W.alloc (.cells (ttc x AH AG ch cg) 25)).alloc (.cells (plc p) 75) := by
  have hmf : ∀ (fn : Fn) (first cap : Array Value) (w : World), (Instr.makeFunc fn first cap).run Try.prog w = .ok (.func fn first cap) w := fun _ _ _ _ => rfl
  unfold ttv plv
  go_enter Try.func83, Try.ntmps83
  go_wp2
  go_ret
  exact ⟨rfl, rfl⟩
end Go.Proofs.Ytipejhfgfciabaa
