/- Contracts: add. -/
import Derived.Test.YtljkgjfmambfoaaDoorLgO
namespace Go.Proofs.YtljkgjfmambfoaaDoor
open Go.RowKit Go.Shelf
attribute [local irreducible] wpQuiet
def rwc (r : Rw) : Array Value := #[.int .i64 r.team, .int .i64 r.games, .int .i64 r.pts, .int .i64 r.gf, .int .i64 r.ga, .int .i64 r.among]
structure RB (M : Int) (r : Rw) : Prop where
  g : 0 ≤ r.games ∧ r.games ≤ M
  f : 0 ≤ r.gf ∧ r.gf ≤ M
  a : 0 ≤ r.ga ∧ r.ga ≤ M
def goalsOK (g : Gm) : Prop := (0 ≤ g.hg ∧ g.hg ≤ 99) ∧ (0 ≤ g.ag ∧ g.ag ≤ 99)
theorem rb_add {M : Int} {r : Rw} {g : Gm} (h : RB M r) (hg : goalsOK g) : RB (M + 99) (addG r g) := by
  obtain ⟨h1, h2, h3⟩ := h
  obtain ⟨h4, h5⟩ := hg
  unfold addG gforOf gagOf
  refine ⟨?_, ?_, ?_⟩ <;> dsimp only <;> (try split) <;> omega
def AddPost (r : Rw) (g : Gm) (R : Nat) (W : World) (e : Ending) (W' : World) : Prop := e = .returned (.tuple #[]) ∧ Has W' R 66 (rwc (addG r g)) ∧ Only (· = R) W W'
theorem put_add {w : World} {R : Nat} {r r' : Rw} (h : Has w R 66 (rwc r)) (e1 : r'.team = r.team) (e2 : r'.pts = r.pts) (e3 : r'.among = r.among) :
    Has (((w.setCell ⟨R, 1, none⟩ (.int .i64 r'.games)).setCell ⟨R, 3, none⟩ (.int .i64 r'.gf)).setCell ⟨R, 4, none⟩ (.int .i64 r'.ga)) R 66 (rwc r') := by
  have := ((h.set 1 (.int .i64 r'.games)).set 3 (.int .i64 r'.gf)).set 4 (.int .i64 r'.ga)
  have e : (((rwc r).setIfInBounds 1 (.int .i64 r'.games)).setIfInBounds 3 (.int .i64 r'.gf)).setIfInBounds 4 (.int .i64 r'.ga) = rwc r' := by
    unfold rwc; rw [e1, e2, e3]; rfl
  rwa [e] at this
theorem put_only (w : World) (R : Nat) (u v x : Value) : Only (· = R) w (((w.setCell ⟨R, 1, none⟩ u).setCell ⟨R, 3, none⟩ v).setCell ⟨R, 4, none⟩ x) :=
  ((only_cell w R 1 u).trans (only_cell _ R 3 v)).trans (only_cell _ R 4 x)
set_option maxRecDepth 100000 in
set_option maxHeartbeats 2000000 in
theorem add_any (r : Rw) (g : Gm) (R : Nat) (W : World) (h : Has W R 66 (rwc r)) (hb : RB 1000000 r) (hg : goalsOK g) :
    Calls Tryd.prog 57 #[.pointer (some ⟨R, 0, none⟩), gmv g] W (AddPost r g R W) := by
  have HB := Lib.hid (show Has (W.alloc (.cells (gmc g) 53)) R 66 (rwc r) ∧ Has (W.alloc (.cells (gmc g) 53)) W.heap.size 53 (gmc g) ∧ Only (· = R) W (W.alloc (.cells (gmc g) 53)) from ⟨h.alloc _, Has.new _ _ _, (Only.refl _ _).alloc _⟩)
  obtain ⟨⟨b1, b2⟩, ⟨b3, b4⟩, ⟨b5, b6⟩⟩ := hb
  obtain ⟨⟨g1, g2⟩, ⟨g3, g4⟩⟩ := hg
  clear h
  unfold gmv
  by_cases hA : g.away = r.team
  · obtain ⟨s, hs⟩ : ∃ s, s = addG r g := ⟨_, rfl⟩
    have HS : Hid (s = addG r g ∧ s.games = r.games + 1 ∧ s.gf = r.gf + g.ag ∧ s.ga = r.ga + g.hg) := Lib.hid (by
      refine ⟨hs, ?_, ?_, ?_⟩ <;> rw [hs] <;> simp [addG, gforOf, gagOf, hA])
    have q0 : (g.away == r.team) = true := by simpa using hA
    clear hs hA
    go_enter Tryd.func57, Tryd.ntmps57
    go_upto_region 1 with fail
    generalize W.alloc (.cells (gmc g) 53) = w1 at HB ⊢
    generalize W.heap.size = E at HB ⊢
    have y2 : w1.cell? ⟨E, 2, none⟩ = some (.int .i64 g.away) := HB.out.2.1.cell 2
    have y4 : w1.cell? ⟨E, 4, none⟩ = some (.int .i64 g.hg) := HB.out.2.1.cell 4
    have y5 : w1.cell? ⟨E, 5, none⟩ = some (.int .i64 g.ag) := HB.out.2.1.cell 5
    have r0 : w1.cell? ⟨R, 0, none⟩ = some (.int .i64 r.team) := HB.out.1.cell 0
    have r1 : w1.cell? ⟨R, 1, none⟩ = some (.int .i64 r.games) := HB.out.1.cell 1
    have r3 : w1.cell? ⟨R, 3, none⟩ = some (.int .i64 r.gf) := HB.out.1.cell 3
    have r4 : w1.cell? ⟨R, 4, none⟩ = some (.int .i64 r.ga) := HB.out.1.cell 4
    have f1 := HB.out.1.frozen 1
    have f3 := HB.out.1.frozen 3
    have f4 := HB.out.1.frozen 4
    have fl := HB.out.1.lt
    go_quiet (fail)
    go_upto_region 2 with fail
    go_quiet (fail)
    go_wp2_with fail
    refine bodyPost_ret (v := .tuple #[]) (by simp [results, Tryd.results57, go_sem]) rfl ?_
    refine ⟨rfl, ?_, ?_⟩
    · have := put_add (r' := addG r g) HB.out.1 rfl rfl rfl
      rw [← HS.out.1, HS.out.2.1, HS.out.2.2.1, HS.out.2.2.2] at this
      rw [← HS.out.1]
      exact this
    · exact (HB.out.2.2.drewN _).trans (put_only _ _ _ _ _)
  · obtain ⟨s, hs⟩ : ∃ s, s = addG r g := ⟨_, rfl⟩
    have HS : Hid (s = addG r g ∧ s.games = r.games + 1 ∧ s.gf = r.gf + g.hg ∧ s.ga = r.ga + g.ag) := Lib.hid (by
      refine ⟨hs, ?_, ?_, ?_⟩ <;> rw [hs] <;> simp [addG, gforOf, gagOf, hA])
    have q0 : (g.away == r.team) = false := by simpa using hA
    clear hs
    go_enter Tryd.func57, Tryd.ntmps57
    go_upto_region 1 with fail
    generalize W.alloc (.cells (gmc g) 53) = w1 at HB ⊢
    generalize W.heap.size = E at HB ⊢
    have y2 : w1.cell? ⟨E, 2, none⟩ = some (.int .i64 g.away) := HB.out.2.1.cell 2
    have y4 : w1.cell? ⟨E, 4, none⟩ = some (.int .i64 g.hg) := HB.out.2.1.cell 4
    have y5 : w1.cell? ⟨E, 5, none⟩ = some (.int .i64 g.ag) := HB.out.2.1.cell 5
    have r0 : w1.cell? ⟨R, 0, none⟩ = some (.int .i64 r.team) := HB.out.1.cell 0
    have r1 : w1.cell? ⟨R, 1, none⟩ = some (.int .i64 r.games) := HB.out.1.cell 1
    have r3 : w1.cell? ⟨R, 3, none⟩ = some (.int .i64 r.gf) := HB.out.1.cell 3
    have r4 : w1.cell? ⟨R, 4, none⟩ = some (.int .i64 r.ga) := HB.out.1.cell 4
    have f1 := HB.out.1.frozen 1
    have f3 := HB.out.1.frozen 3
    have f4 := HB.out.1.frozen 4
    have fl := HB.out.1.lt
    go_quiet (fail)
    go_upto_region 2 with fail
    go_quiet (fail)
    go_wp2_with fail
    refine bodyPost_ret (v := .tuple #[]) (by simp [results, Tryd.results57, go_sem]) rfl ?_
    refine ⟨rfl, ?_, ?_⟩
    · have := put_add (r' := addG r g) HB.out.1 rfl rfl rfl
      rw [← HS.out.1, HS.out.2.1, HS.out.2.2.1, HS.out.2.2.2] at this
      rw [← HS.out.1]
      exact this
    · exact (HB.out.2.2.drewN _).trans (put_only _ _ _ _ _)
end Go.Proofs.YtljkgjfmambfoaaDoor
