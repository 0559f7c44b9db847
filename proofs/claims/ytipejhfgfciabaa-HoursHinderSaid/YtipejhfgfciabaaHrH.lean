/- What comes next: the iterator. -/
import Derived.Test.YtipejhfgfciabaaHrG
import Derived.Test.YtipejhfgfciabaaRnd
import Derived.Test.YtipejhfgfciabaaRange
import Derived.Shelf.RegionOpen
import Derived.LoopIn
import Derived.TacticsInMore
namespace Go.Proofs.Ytipejhfgfciabaa
open Go.RowKit Go.Shelf
attribute [local go_sem] Oper.semAt_some
def fN (x : Tt) (p : Pl) (g : Int) : Option (Int × Pl) := if (giveR x p g).1 = 0 then some (g, (giveR x p g).2) else none
def nextsTo (x : Tt) (p : Pl) (i : Nat) : List (Int × Pl) := ((List.range i).map (fun (i : Nat) => (i : Int))).filterMap (fN x p)
theorem nextsTo_zero (x : Tt) (p : Pl) : nextsTo x p 0 = [] := rfl
theorem nextsTo_yes {x : Tt} {p : Pl} {i : Nat} (h : (giveR x p i).1 = 0) : nextsTo x p (i + 1) = nextsTo x p i ++ [((i : Int), (giveR x p i).2)] := by
  unfold nextsTo
  rw [List.range_succ, List.map_append, List.filterMap_append]
  congr 1
  simp [fN, h]
theorem nextsTo_no {x : Tt} {p : Pl} {i : Nat} (h : (giveR x p i).1 ≠ 0) : nextsTo x p (i + 1) = nextsTo x p i := by
  unfold nextsTo
  rw [List.range_succ, List.map_append, List.filterMap_append]
  simp [fN, h]
def freeP (p : Pl) : Pl := ⟨p.hour + 1, -1, p.given⟩
theorem nexts_eq (x : Tt) (p : Pl) : nexts x p = nextsTo x p x.G.length ++ [(-1, freeP p)] := by
  unfold nexts nextsTo choices
  rw [List.filterMap_append]
  congr 1
theorem nextsTo_pre (x : Tt) (p : Pl) : ∀ (d i : Nat), ∃ l, nextsTo x p (i + d) = nextsTo x p i ++ l
  | 0, _ => ⟨[], by simp⟩
  | d + 1, i => by
    obtain ⟨l, hl⟩ := nextsTo_pre x p d i
    by_cases h : (giveR x p (i + d : Nat)).1 = 0
    · exact ⟨l ++ [_], by rw [← Nat.add_assoc, nextsTo_yes h, hl, List.append_assoc]⟩
    · exact ⟨l, by rw [← Nat.add_assoc, nextsTo_no h, hl]⟩
theorem nexts_at {x : Tt} {p : Pl} {i : Nat} (hi : i < x.G.length) (h : (giveR x p i).1 = 0) : (nexts x p)[(nextsTo x p i).length]? = some ((i : Int), (giveR x p i).2) := by
  obtain ⟨l, hl⟩ := nextsTo_pre x p (x.G.length - (i + 1)) (i + 1)
  rw [show i + 1 + (x.G.length - (i + 1)) = x.G.length by omega, nextsTo_yes h] at hl
  rw [nexts_eq, hl]
  simp
theorem nexts_last (x : Tt) (p : Pl) : (nexts x p)[(nextsTo x p x.G.length).length]? = some (-1, freeP p) := by
  rw [nexts_eq]; simp
theorem nexts_len (x : Tt) (p : Pl) : (nexts x p).length = (nextsTo x p x.G.length).length + 1 := by rw [nexts_eq]; simp
/-- what the iterator reads -/
structure LIt (w : World) (Bx Bp : Nat) (x : Tt) (AH AG : Option Addr) (ch cg : Nat) (p : Pl) : Prop where
  fx : Has w Bx 25 (ttc x AH AG ch cg)
  fp : Has w Bp 75 (plc p)
  tr : TR w w.heap.size x AH AG
set_option maxRecDepth 100000 in
set_option maxHeartbeats 2000000 in
theorem next_any (l Bx Bp : Nat) (x : Tt) (AH AG : Option Addr) (ch cg : Nat) (p : Pl) (hv : VT x) (hp : VP x p) (hh : p.hour < x.H.length) (W : World) (J S : Nat → World → Prop)
    (hJ : ∀ k w, J k w → LIt w Bx Bp x AH AG ch cg p) (hJB : ∀ k w w', J k w → Below w.heap.size w w' → J k w')
    (hY : ∀ k g q w, (nexts x p)[k]? = some (g, q) → J k w → YieldAt Fence.wide 2 Try.prog l #[.int .i64 g, plv q] w fun e w' => (e = .returned (.bool true) ∧ J (k + 1) w') ∨ (e = .returned (.bool false) ∧ S k w'))
    (h0 : J 0 W) :
    CallsIn Fence.wide 3 Try.prog 98 #[.func (.yield l) #[] #[], .pointer (some ⟨Bx, 0, none⟩), .pointer (some ⟨Bp, 0, none⟩)] W (fun e W' => (∃ v, e = .returned v) ∧ (J (nexts x p).length W' ∨ ∃ k, S k W')) := by
  have I0 := hJ _ _ h0
  have HJ := Lib.hid hJ
  have HJB := Lib.hid hJB
  have HY := Lib.hid hY
  have H0 := Lib.hid (show J (nextsTo x p 0).length W from h0)
  have HG := Lib.hid (fun (g : Nat) (hg : g < x.G.length) (w : World) (h : LIt w Bx Bp x AH AG ch cg p) => give_any x AH AG ch cg p g w h.tr hv hp hg hh)
  have HFr := Lib.hid (fun (w : World) => give_free_any x AH AG ch cg p w hp hv.nh)
  have HN := Lib.hid (And.intro (nexts_last x p) (nexts_len x p))
  have HNA := Lib.hid (fun i (hi : i < x.G.length) h => nexts_at (x := x) (p := p) hi h)
  have hng := hv.ng
  clear hJ hJB hY h0 hv hp hh
  unfold ttv plv at *
  have x0 : W.cell? ⟨Bx, 0, none⟩ = some (.slice AH x.H.length ch) := I0.fx.cell 0
  have x1 : W.cell? ⟨Bx, 1, none⟩ = some (.slice AG x.G.length cg) := I0.fx.cell 1
  have x2 : W.cell? ⟨Bx, 2, none⟩ = some (.int .i64 x.R) := I0.fx.cell 2
  have hxl := I0.fx.lt
  refine callsIn_of_wp Try.func98 rfl trivial ?_ rfl
  simp only [Try.ntmps98, List.size_toArray, List.length_cons, List.length_nil, Nat.reduceAdd, Nat.reduceSub, Array.replicate_succ, Array.replicate_zero, List.push_toArray, List.append_toArray, List.nil_append, List.cons_append]
  gi_wp2
  clear x0 x1 x2 I0 hxl
  gi_loopw [12] (fun it wr => ∃ i : Nat, i ≤ x.G.length ∧ it = .int .i64 i ∧ Hid (J (nextsTo x p i).length wr)) (fun it _ => x.G.length - (intOf it).toNat)
  case atStart => exact ⟨0, Nat.zero_le _, rfl, H0⟩
  case round =>
    obtain ⟨i, hi, rfl, HI⟩ := hrel
    clear H0
    have I1 := HJ.out _ wr HI.out
    have x0 : wr.cell? ⟨Bx, 0, none⟩ = some (.slice AH x.H.length ch) := I1.fx.cell 0
    have x1 : wr.cell? ⟨Bx, 1, none⟩ = some (.slice AG x.G.length cg) := I1.fx.cell 1
    have x2 : wr.cell? ⟨Bx, 2, none⟩ = some (.int .i64 x.R) := I1.fx.cell 2
    have p0 : wr.cell? ⟨Bp, 0, none⟩ = some (.int .i64 p.hour) := I1.fp.cell 0
    have p1 : wr.cell? ⟨Bp, 1, none⟩ = some (.int .i64 p.last) := I1.fp.cell 1
    have p2 : wr.cell? ⟨Bp, 2, none⟩ = some (.int .i64 (p.given[0]?.getD 0)) := I1.fp.cell 2
    have p3 : wr.cell? ⟨Bp, 3, none⟩ = some (.int .i64 (p.given[1]?.getD 0)) := I1.fp.cell 3
    have p4 : wr.cell? ⟨Bp, 4, none⟩ = some (.int .i64 (p.given[2]?.getD 0)) := I1.fp.cell 4
    have p5 : wr.cell? ⟨Bp, 5, none⟩ = some (.int .i64 (p.given[3]?.getD 0)) := I1.fp.cell 5
    have p6 : wr.cell? ⟨Bp, 6, none⟩ = some (.int .i64 (p.given[4]?.getD 0)) := I1.fp.cell 6
    by_cases hlt : i < x.G.length
    · have hlt' : (i : Int) < x.G.length := by omega
      have HGi := Lib.hid (fun w h => HG.out i hlt w h)
      have HNi := Lib.hid (fun h => HNA.out i hlt h)
      have HS1 := Lib.hid (fun (h : (giveR x p i).1 = 0) => nextsTo_yes h)
      have HS0 := Lib.hid (fun (h : (giveR x p i).1 ≠ 0) => nextsTo_no h)
      obtain ⟨er, q, hgr⟩ : ∃ er q, giveR x p i = (er, q) := ⟨_, _, rfl⟩
      rw [hgr] at HGi HNi HS1 HS0
      have HE := Lib.hid hgr
      clear hgr
      by_cases her : er = 0
      · subst her
        have HNx := Lib.hid (HNi.out rfl)
        have HSx := Lib.hid (HS1.out rfl)
        clear HNi HS1 HS0
        gi_wp2_with (fail)
        refine ⟨trivial, (callsIn_wide.2 (HGi.out _ I1)).mono ?_⟩
        rintro e w1 ⟨rfl, hb1⟩
        have HI1 := Lib.hid (HJB.out _ _ _ (HJB.out _ _ _ HI.out hb1) (below_one w1 (.cells (plc q) 75)))
        clear hb1 x0 x1 x2 p0 p1 p2 p3 p4 p5 p6 I1 HI
        obtain ⟨fn, tmps, assign, body, hy, hR⟩ := HY.out _ _ _ _ HNx.out HI1.out
        unfold plv plc at *
        dsimp only
        gi_wp2_with (fail)
        refine hR.mono ?_
        rintro e w2 (⟨rfl, h⟩ | ⟨rfl, h⟩)
        · have HJ2 := Lib.hid h
          clear h hy hR
          gi_wp2
          go_roundw
          case rel => exact ⟨i + 1, by omega, by go_num, by rw [HSx.out, List.length_append]; exact HJ2.out⟩
          case measure => simp [intOf]; omega
        · have HS2 := Lib.hid h
          clear h hy hR
          gi_wp2
          refine bodyPost_ret (results_none rfl _ _ _) rfl ?_
          exact ⟨⟨_, rfl⟩, .inr ⟨_, HS2.out⟩⟩
      · have HSx := Lib.hid (HS0.out her)
        have her' : (er == 0) = false := by simpa using her
        clear HNi HS1 HS0
        gi_wp2_with (fail)
        refine ⟨trivial, (callsIn_wide.2 (HGi.out _ I1)).mono ?_⟩
        rintro e w1 ⟨rfl, hb1⟩
        have HI1 := Lib.hid (HJB.out _ _ _ (HJB.out _ _ _ HI.out hb1) (below_one w1 (.cells (plc q) 75)))
        clear hb1 x0 x1 x2 p0 p1 p2 p3 p4 p5 p6 I1 HI
        unfold plv plc at *
        dsimp only
        gi_wp2_with (fail)
        repeat (refine ⟨(fun _ h => by cases h), ?_⟩; try gi_wp2_with (fail))
        go_roundw
        case rel => exact ⟨i + 1, by omega, by go_num, by rw [HSx.out]; exact HI1.out⟩
        case measure => simp [intOf]; omega
    · have hge : ¬ (i : Int) < x.G.length := by omega
      have hil : i = x.G.length := by omega
      subst hil
      have HFg := Lib.hid (fun w => (show PlPost (giveR x p (-1)) w = PlPost (0, freeP p) w by rw [give_free]; rfl) ▸ HFr.out w)
      gi_wp2_with (fail)
      refine ⟨trivial, (callsIn_wide.2 (HFg.out _)).mono ?_⟩
      rintro e w1 ⟨rfl, hb1⟩
      have HI1 := Lib.hid (HJB.out _ _ _ (HJB.out _ _ _ HI.out hb1) (below_one w1 (.cells (plc (freeP p)) 75)))
      clear hb1 x0 x1 x2 p0 p1 p2 p3 p4 p5 p6 I1 HI
      obtain ⟨fn, tmps, assign, body, hy, hR⟩ := HY.out _ _ _ _ HN.out.1 HI1.out
      obtain ⟨q, hq⟩ : ∃ q, q = freeP p := ⟨_, rfl⟩
      rw [← hq] at hy hR HI1 ⊢
      clear hq
      unfold plv plc at *
      dsimp only
      gi_wp2_with (fail)
      refine hR.mono ?_
      rintro e w2 (⟨rfl, h⟩ | ⟨rfl, h⟩)
      · have HJ2 := Lib.hid h
        clear h hy hR
        gi_wp2
        go_end0
        exact ⟨⟨_, rfl⟩, .inl (by rw [HN.out.2]; exact HJ2.out)⟩
      · have HS2 := Lib.hid h
        clear h hy hR
        gi_wp2
        go_end0
        exact ⟨⟨_, rfl⟩, .inr ⟨_, HS2.out⟩⟩
end Go.Proofs.Ytipejhfgfciabaa
