/- Contracts: owned. -/
import Derived.Test.YtipejhfgfciabaaHrD
import Derived.Deep.LoopGhost
namespace Go.Proofs.Ytipejhfgfciabaa
open Go.RowKit
def ils (l : List Int) : Array Value := (l.map (Value.int .i64)).toArray
theorem ils_set (l : List Int) (i : Nat) (n : Int) : (ils l).setIfInBounds i (.int .i64 n) = ils (l.set i n) := by
  unfold ils; rw [List.setIfInBounds_toArray, List.map_set]
theorem ils_get (l : List Int) (i : Nat) : (ils l)[i]? = (l[i]?).map (Value.int .i64) := by unfold ils; simp
theorem ils_at {l : List Int} {i : Nat} (h : i < l.length) : (ils l)[i]? = some (.int .i64 l[i]) := by rw [ils_get, List.getElem?_eq_getElem h]; rfl
theorem made_one (v : Value) (n : Nat) : madeCells #[v] (n * 1) = (List.replicate n v).toArray := by
  apply Array.ext
  · simp [madeCells]
  · intro i h1 h2
    simp [madeCells, Nat.mod_one]
theorem Try.info3 : (Try.prog.info? 3).map (fun i => (i.zero, i.size, i.bytes)) = some (some (.int .i64 0), 1, 8) := by kernel_rfl
theorem make_ints (n : Nat) (hn : n ≤ 1000000) (w : World) : (Instr.makeSlice 26 (.int .i64 n) (.int .i64 n)).run Try.prog w = .ok (.slice (some ⟨w.heap.size, 0, none⟩) n n) (w.alloc (.cells (ils (List.replicate n 0)) 3)) := by
  obtain ⟨i, hi, hz0, hz1, hz2⟩ := info_parts Try.info3
  have := run_make (P := Try.prog) w 26 3 i _ Try.underlying26 hi hz0 .i64 .i64 n n (by omega) (by omega) (by rw [hz2]; omega) (by omega)
  rw [this, hz1]
  simp only [Int.toNat_natCast]
  rw [show ils (List.replicate n 0) = (List.replicate n (Value.int .i64 0)).toArray by simp [ils], ← made_one]; rfl
/-- the first k of them written -/
def wrt (l : List Int) (k : Nat) : List Int := l.take k ++ List.replicate (l.length - k) 0
theorem wrt_zero (l : List Int) : wrt l 0 = List.replicate l.length 0 := by simp [wrt]
theorem wrt_end (l : List Int) : wrt l l.length = l := by simp [wrt]
theorem wrt_step (l : List Int) (k : Nat) (h : k < l.length) : (wrt l k).set k l[k] = wrt l (k + 1) := by
  unfold wrt
  rw [List.set_append, if_neg (by simp; omega)]
  rw [List.take_succ_eq_append_getElem h, List.append_assoc]
  congr 1
  have : l.length - k = (l.length - (k + 1)) + 1 := by omega
  rw [this, List.replicate_succ]
  simp
  have : k - min k l.length = 0 := by omega
  rw [this]
  rfl
theorem wrt_len (l : List Int) (k : Nat) (h : k ≤ l.length) : (wrt l k).length = l.length := by simp [wrt]; omega
theorem owned_at (x : Tt) (p : Pl) (k : Nat) (h : k < x.G.length) : (ownedL x p)[k]'(by rw [owned_length]; exact h) = p.given.getD k 0 + x.G[k].credit := by
  simp [ownedL]
structure OB (W w : World) (x : Tt) (AH AG : Option Addr) (ch cg : Nat) (p : Pl) (l : List Int) : Prop where
  b : Below W.heap.size W w
  fx : Has w W.heap.size 25 (ttc x AH AG ch cg)
  fp : Has w (W.heap.size + 1) 75 (plc p)
  fl : Has w (W.heap.size + 1 + 1) 3 (ils l)
theorem OB.step {W w w' : World} {x : Tt} {AH AG : Option Addr} {ch cg : Nat} {p : Pl} {l : List Int} (h : OB W w x AH AG ch cg p l) (hb : Below w.heap.size w w') : OB W w' x AH AG ch cg p l :=
  ⟨h.b.trans (hb.mono h.b.size), h.fx.below hb h.fx.lt, h.fp.below hb h.fp.lt, h.fl.below hb h.fl.lt⟩
theorem OB.drew {W w : World} {x : Tt} {AH AG : Option Addr} {ch cg : Nat} {p : Pl} {l : List Int} (h : OB W w x AH AG ch cg p l) : OB W w.drew x AH AG ch cg p l := ⟨⟨h.b.os, h.b.tape, h.b.output, h.b.size, h.b.block⟩, h.fx.drew, h.fp.drew, h.fl.drew⟩
theorem OB.set {W w : World} {x : Tt} {AH AG : Option Addr} {ch cg : Nat} {p : Pl} {l : List Int} (h : OB W w x AH AG ch cg p l) (i : Nat) (n : Int) : OB W (w.setCell ⟨W.heap.size + 1 + 1, i, none⟩ (.int .i64 n)) x AH AG ch cg p (l.set i n) :=
  ⟨h.b.setCell (by simp only; omega) _, h.fx.far (by simp only; omega) _, h.fp.far (by simp only; omega) _, by have := h.fl.set i (.int .i64 n); rwa [ils_set] at this⟩
/-- a new row of numbers -/
def RowPost (l : List Int) (W : World) (e : Ending) (W' : World) : Prop := ∃ g, W.heap.size ≤ g ∧ e = .returned (.slice (some ⟨g, 0, none⟩) l.length l.length) ∧ Has W' g 3 (ils l) ∧ Below W.heap.size W W'
set_option maxRecDepth 100000 in
set_option maxHeartbeats 2000000 in
theorem owned_any (x : Tt) (AH AG : Option Addr) (ch cg : Nat) (p : Pl) (W : World) (hr : TR W W.heap.size x AH AG) (hv : VT x) (hp : VP x p) :
    Calls Try.prog 42 #[ttv x AH AG ch cg, plv p] W (RowPost (ownedL x p) W) := by
  have hng := hv.ng
  have HV := Lib.hid (And.intro hv (And.intro hr hp))
  have HB : Hid (OB W (((W.alloc (.cells (ttc x AH AG ch cg) 25)).alloc (.cells (plc p) 75)).alloc (.cells (ils (List.replicate x.G.length 0)) 3)) x AH AG ch cg p (wrt (ownedL x p) 0)) :=
    ⟨((below_one W _).alloc (by simp) _).alloc (by simp; omega) _, ((Has.new _ _ _).alloc _).alloc _, (has_newAt (by simp)).alloc _, by rw [wrt_zero, owned_length]; exact has_newAt (by simp)⟩
  have hmk := make_ints x.G.length (by omega) ((W.alloc (.cells (ttc x AH AG ch cg) 25)).alloc (.cells (plc p) 75))
  clear hr hv hp
  unfold ttv plv
  go_enter Try.func42, Try.ntmps42
  go_upto_region 2 with fail
  generalize ((W.alloc (.cells (ttc x AH AG ch cg) 25)).alloc (.cells (plc p) 75)).alloc (.cells (ils (List.replicate x.G.length 0)) 3) = w0 at HB ⊢
  clear hmk
  have x1 : w0.cell? ⟨W.heap.size, 1, none⟩ = some (.slice AG x.G.length cg) := HB.out.fx.cell 1
  go_wp2_with fail
  clear x1
  have HL := Lib.hid (owned_length x p)
  go_loopg [15] x.G.length (fun gk i wr => ∃ k : Nat, k ≤ x.G.length ∧ x.G.length - k ≤ gk ∧ i = .int .i64 k ∧ Hid (OB W wr x AH AG ch cg p (wrt (ownedL x p) k)))
  case atStart => exact ⟨0, Nat.zero_le _, Nat.le_refl _, rfl, HB⟩
  case round =>
    obtain ⟨k, hk, hgk, rfl, HW⟩ := hrel
    by_cases hlt : k < x.G.length
    rotate_left
    · have hge : ¬ (k : Int) < x.G.length := by omega
      have hke : k = x.G.length := by omega
      have HF := HW.out.fl
      rw [hke, ← HL.out, wrt_end] at HF
      have HL2 := Lib.hid HF
      clear HF hke
      go_wp2_with fail
      go_ret
      exact ⟨W.heap.size + 1 + 1, by omega, by rw [HL.out]; rfl, HL2.out, HW.out.b⟩
    have hlt2 : (k : Int) < x.G.length := by omega
    obtain ⟨g, o, hg, hgs, hc⟩ := (HV.out.2.1.below HW.out.b).g k hlt
    have vb := HV.out.1.g _ (List.getElem_mem hlt)
    have gp := HV.out.2.2.g k (by omega)
    have HAT := Lib.hid (owned_at x p k hlt)
    have HST := Lib.hid (wrt_step (ownedL x p) k (by rw [HL.out]; exact hlt))
    obtain ⟨b, hb⟩ : ∃ b, b = x.G[k] := ⟨_, rfl⟩
    rw [← hb] at hc vb HAT
    have hgc : wr.cell? ⟨W.heap.size + 1, 2 + k, none⟩ = some (.int .i64 (p.given.getD k 0)) := (HW.out.fp.cell _).trans (plc_get (by omega))
    have hc0 : wr.cell? ⟨g, o + k * 5, none⟩ = some (.int .i64 b.days) := hc 0 (by omega)
    have hc1 : wr.cell? ⟨g, o + k * 5 + 1, none⟩ = some (.int .i64 b.early) := hc 1 (by omega)
    have hc2 : wr.cell? ⟨g, o + k * 5 + 2, none⟩ = some (.int .i64 b.late) := hc 2 (by omega)
    have hc3 : wr.cell? ⟨g, o + k * 5 + 3, none⟩ = some (.int .i64 b.most) := hc 3 (by omega)
    have hc4 : wr.cell? ⟨g, o + k * 5 + 4, none⟩ = some (.int .i64 b.credit) := hc 4 (by omega)
    subst hg
    clear hc hb hgs
    go_upto_region 5 with fail
    have HW1 := Lib.hid (And.intro (HW.out.step (below_one wr (.cells (grc b) 49))) (Has.new wr 49 (grc b)))
    obtain ⟨c, hc'⟩ : ∃ c, c = p.given.getD k 0 := ⟨_, rfl⟩
    rw [← hc'] at hgc gp HAT
    have HC := Lib.hid hc'
    clear hc0 hc1 hc2 hc3 hc4 hc' hgc
    unfold grc at HW1
    generalize wr.heap.size = D at HW1 ⊢
    generalize wr.alloc (.cells #[.int .i64 b.days, .int .i64 b.early, .int .i64 b.late, .int .i64 b.most, .int .i64 b.credit] 49) = w1 at HW1 ⊢
    have hgc : w1.cell? ⟨W.heap.size + 1, 2 + k, none⟩ = some (.int .i64 c) := (HW1.out.1.fp.cell _).trans (by rw [plc_get (by omega), HC.out])
    have hd4 : w1.cell? ⟨D, 4, none⟩ = some (.int .i64 b.credit) := HW1.out.2.cell 4
    have hk5 : (k : Int) < 5 := by omega
    have hlw : k < (wrt (ownedL x p) k).length := by rw [wrt_len _ _ (by rw [HL.out]; omega), HL.out]; exact hlt
    obtain ⟨z, hl0⟩ : ∃ z, w1.cell? ⟨W.heap.size + 1 + 1, k, none⟩ = some (.int .i64 z) := ⟨_, (HW1.out.1.fl.cell _).trans (ils_at hlw)⟩
    have hlf := HW1.out.1.fl.frozen
    have hll := HW1.out.1.fl.lt
    have e1 : IntKind.i64.wrap (c + b.credit) = c + b.credit := IntWalk.i64_in _ (by omega)
    clear hlw
    refine still_tail 10 (by kernel_rfl) (by kernel_rfl) ?_
    simp only [List.take_succ_cons, List.take_zero, List.drop_succ_cons, List.drop_zero]
    repeat still_step
    refine wpStill_nil ?_
    go_wp2_with fail
    have HW2 := Lib.hid (show OB W (w1.setCell ⟨W.heap.size + 1 + 1, k, none⟩ (.int .i64 (c + b.credit))) x AH (some ⟨g, o, none⟩) ch cg p (wrt (ownedL x p) (k + 1)) from by
      have h := HW1.out.1.set k (c + b.credit)
      rw [← HAT.out, HST.out] at h
      rw [HAT.out] at h
      exact h)
    go_roundg (x.G.length - (k + 1))
    case measure => omega
    case rel => exact ⟨k + 1, by omega, Nat.le_refl _, by go_num, Lib.hid HW2.out.drew⟩
end Go.Proofs.Ytipejhfgfciabaa
