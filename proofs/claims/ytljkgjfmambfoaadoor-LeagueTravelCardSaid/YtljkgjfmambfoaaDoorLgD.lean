/- The games of a team: the iterator; plays, mostToGain. -/
import Derived.Test.YtljkgjfmambfoaaDoorLgC
import Derived.Test.YtljkgjfmambfoaaDoorSeq
import Derived.Test.YtljkgjfmambfoaaDoorRnd
import Derived.Shelf.RegionOpen
import Derived.LoopIn
import Derived.LoopNIn
import Derived.TacticsInMore
import Derived.BigGuardPart
import Derived.Sort.LoopGhostIn
import Derived.Sort.CutIn
import Derived.Laws.EntriesVeiled
namespace Go.Proofs.YtljkgjfmambfoaaDoor
open Go.RowKit Go.Shelf
attribute [local go_sem] Oper.semAt_some
theorem ofT_yes {t : Int} {G : List Gm} {i : Nat} (hi : i < G.length) (h : hasB t G[i] = true) : ofT t (G.take (i + 1)) = ofT t (G.take i) ++ [G[i]] := by
  unfold ofT
  rw [List.take_succ_eq_append_getElem hi, List.filter_append]
  simp [h]
theorem ofT_no {t : Int} {G : List Gm} {i : Nat} (hi : i < G.length) (h : hasB t G[i] = false) : ofT t (G.take (i + 1)) = ofT t (G.take i) := by
  unfold ofT
  rw [List.take_succ_eq_append_getElem hi, List.filter_append]
  simp [h]
theorem ofT_at {t : Int} {G : List Gm} {i : Nat} (hi : i < G.length) (h : hasB t G[i] = true) : (ofT t G)[(ofT t (G.take i)).length]? = some G[i] := by
  have h1 : ofT t G = ofT t (G.take i) ++ (G[i] :: ofT t (G.drop (i + 1))) := by
    conv => lhs; rw [← List.take_append_drop i G]
    unfold ofT
    rw [List.filter_append, List.drop_eq_getElem_cons hi, List.filter_cons, if_pos h]
  rw [h1]
  simp
/-- what the iterator reads -/
structure GIt (w : World) (Bg Bt : Nat) (G : List Gm) (t : Int) (AG : Option Addr) (cg : Nat) : Prop where
  fg : Has w Bg 23 #[.slice AG G.length cg]
  ft : Has w Bt 3 #[.int .i64 t]
  r : GRow w w.heap.size AG G
  l : G.length ≤ big
theorem GIt.step {w w' : World} {Bg Bt : Nat} {G : List Gm} {t : Int} {AG : Option Addr} {cg : Nat} (h : GIt w Bg Bt G t AG cg) (hb : Below w.heap.size w w') : GIt w' Bg Bt G t AG cg := ⟨h.fg.below hb h.fg.lt, h.ft.below hb h.ft.lt, h.r.step hb, h.l⟩
set_option maxRecDepth 100000 in
set_option maxHeartbeats 4000000 in
theorem games_it (Bg Bt : Nat) (G : List Gm) (t : Int) (AG : Option Addr) (cg : Nat) : IterOK Tryd.prog 53 #[.pointer (some ⟨Bg, 0, none⟩), .pointer (some ⟨Bt, 0, none⟩)] ((ofT t G).map fun g => #[gmv g]) (fun w => GIt w Bg Bt G t AG cg) := by
  intro l W J S hJ hJB hY0 h0
  refine callsIn_wide.2 ((callsIn_wide (n := 3)).1 ?_)
  have hY : ∀ k g w, (ofT t G)[k]? = some g → J k w → YieldAt Fence.wide 2 Tryd.prog l #[gmv g] w fun e w' => (e = .returned (.bool true) ∧ J (k + 1) w') ∨ (e = .returned (.bool false) ∧ S k w') := fun k g w hk hw => hY0 k _ w (by rw [List.getElem?_map, hk]; rfl) hw
  rw [List.length_map]
  have I0 := hJ _ _ h0
  have HJ := Lib.hid hJ
  have HJB := Lib.hid hJB
  have HY := Lib.hid hY
  have H0 := Lib.hid (show J (ofT t (G.take 0)).length W from h0)
  have HNA := Lib.hid (fun i (hi : i < G.length) h => ofT_at (t := t) hi h)
  have HS1 := Lib.hid (fun i (hi : i < G.length) h => ofT_yes (t := t) hi h)
  have HS0 := Lib.hid (fun i (hi : i < G.length) h => ofT_no (t := t) hi h)
  have hl : G.length ≤ 9223372036854775807 := I0.l
  clear hJ hJB hY hY0 h0
  unfold gmv at *
  have x0 : W.cell? ⟨Bg, 0, none⟩ = some (.slice AG G.length cg) := I0.fg.cell 0
  have x1 : W.cell? ⟨Bt, 0, none⟩ = some (.int .i64 t) := I0.ft.cell 0
  refine callsIn_of_wp Tryd.func53 rfl trivial ?_ rfl
  simp only [Tryd.ntmps53, List.size_toArray, List.length_cons, List.length_nil, Nat.reduceAdd, Nat.reduceSub, Array.replicate_succ, Array.replicate_zero, List.push_toArray, List.append_toArray, List.nil_append, List.cons_append]
  gi_wp2
  clear x0 x1 I0
  gi_loopw [8] (fun it wr => ∃ i : Nat, i ≤ G.length ∧ it = .int .i64 i ∧ Hid (J (ofT t (G.take i)).length wr)) (fun it _ => G.length - (intOf it).toNat)
  case atStart => exact ⟨0, Nat.zero_le _, rfl, H0⟩
  case round =>
    obtain ⟨i, hi, rfl, HI⟩ := hrel
    clear H0
    by_cases hlt : i < G.length
    rotate_left
    · have hge : ¬ (i : Int) < G.length := by omega
      have HE : Hid (J (ofT t G).length wr) := Lib.hid (by have := HI.out; rwa [List.take_of_length_le (by omega)] at this)
      gi_wp2_with (fail)
      go_end0
      exact ⟨⟨_, rfl⟩, .inl HE.out⟩
    have hlt' : (i : Int) < G.length := by omega
    have I1 := HJ.out _ wr HI.out
    obtain ⟨B, o, hg, hgs, hc⟩ := I1.r i hlt
    obtain ⟨g, hb⟩ : ∃ g, g = G[i] := ⟨_, rfl⟩
    rw [← hb] at hc
    have HNi := Lib.hid (HNA.out i hlt)
    have HSy := Lib.hid (HS1.out i hlt)
    have HSn := Lib.hid (HS0.out i hlt)
    rw [← hb] at HNi HSy HSn
    have c0 : wr.cell? ⟨B, o + i * 6, none⟩ = some (.int .i64 g.day) := hc 0 (by omega)
    have c1 : wr.cell? ⟨B, o + i * 6 + 1, none⟩ = some (.int .i64 g.home) := hc 1 (by omega)
    have c2 : wr.cell? ⟨B, o + i * 6 + 2, none⟩ = some (.int .i64 g.away) := hc 2 (by omega)
    have c3 : wr.cell? ⟨B, o + i * 6 + 3, none⟩ = some (.int .i64 g.fin) := hc 3 (by omega)
    have c4 : wr.cell? ⟨B, o + i * 6 + 4, none⟩ = some (.int .i64 g.hg) := hc 4 (by omega)
    have c5 : wr.cell? ⟨B, o + i * 6 + 5, none⟩ = some (.int .i64 g.ag) := hc 5 (by omega)
    have x1 : wr.cell? ⟨Bt, 0, none⟩ = some (.int .i64 t) := I1.ft.cell 0
    have hBt := I1.ft.lt
    subst hg
    clear hc hb
    have HI1 : Hid (J (ofT t (G.take i)).length (wr.alloc (.cells (gmc g) 53)) ∧ Has (wr.alloc (.cells (gmc g) 53)) wr.heap.size 53 (gmc g)) := Lib.hid ⟨HJB.out _ _ _ HI.out (below_one _ _), Has.new _ _ _⟩
    gi_upto_region 3 with (fail)
    clear x1 c0 c1 c2 c3 c4 c5 HI hgs I1 hBt
    generalize wr.alloc (.cells (gmc g) 53) = w1 at HI1 ⊢
    generalize wr.heap.size = E at HI1 ⊢
    have I2 := HJ.out _ w1 HI1.out.1
    have x1 : w1.cell? ⟨Bt, 0, none⟩ = some (.int .i64 t) := I2.ft.cell 0
    have y0 : w1.cell? ⟨E, 0, none⟩ = some (.int .i64 g.day) := HI1.out.2.cell 0
    have y1 : w1.cell? ⟨E, 1, none⟩ = some (.int .i64 g.home) := HI1.out.2.cell 1
    have y2 : w1.cell? ⟨E, 2, none⟩ = some (.int .i64 g.away) := HI1.out.2.cell 2
    have y3 : w1.cell? ⟨E, 3, none⟩ = some (.int .i64 g.fin) := HI1.out.2.cell 3
    have y4 : w1.cell? ⟨E, 4, none⟩ = some (.int .i64 g.hg) := HI1.out.2.cell 4
    have y5 : w1.cell? ⟨E, 5, none⟩ = some (.int .i64 g.ag) := HI1.out.2.cell 5
    clear I2
    have hcases : (g.home = t) ∨ (¬ g.home = t ∧ g.away = t) ∨ (¬ g.home = t ∧ ¬ g.away = t) := by omega
    have HGo : Hid (hasB t g = true → YieldAt Fence.wide 2 Tryd.prog l #[.agg (gmc g)] w1 fun e w' => (e = .returned (.bool true) ∧ J ((ofT t (G.take i)).length + 1) w') ∨ (e = .returned (.bool false) ∧ S (ofT t (G.take i)).length w')) := Lib.hid fun h => HY.out _ _ _ (HNi.out h) HI1.out.1
    rcases hcases with h1 | ⟨h1, h2⟩ | ⟨h1, h2⟩
    · have HH : Hid (hasB t g = true) := Lib.hid (by unfold hasB; rw [decide_eq_true h1]; rfl)
      have h1b : (g.home == t) = true := by simpa using h1
      have HSx := Lib.hid (HSy.out HH.out)
      obtain ⟨fn, tmps, assign, body, hy, hRR⟩ := HGo.out HH.out
      clear h1 HSy HSn HGo HNi
      gi_wp2_with (fail)
      refine hRR.mono ?_
      rintro e w2 (⟨rfl, h⟩ | ⟨rfl, h⟩)
      · have HJ2 := Lib.hid h
        clear h hy hRR y0 y1 y2 y3 y4 y5 x1 HI1
        gi_wp2
        go_roundw
        case rel => exact ⟨i + 1, by omega, by go_num, by rw [HSx.out, List.length_append]; exact HJ2⟩
        case measure => simp [intOf]; omega
      · have HS2 := Lib.hid h
        clear h hy hRR y0 y1 y2 y3 y4 y5 x1 HI1
        gi_wp2
        refine bodyPost_ret (results_none rfl _ _ _) rfl ?_
        exact ⟨⟨_, rfl⟩, .inr ⟨_, HS2.out⟩⟩
    · have HH : Hid (hasB t g = true) := Lib.hid (by unfold hasB; rw [decide_eq_true h2, Bool.or_true])
      have h1b : (g.home == t) = false := by simpa using h1
      have h2b : (g.away == t) = true := by simpa using h2
      have HSx := Lib.hid (HSy.out HH.out)
      obtain ⟨fn, tmps, assign, body, hy, hRR⟩ := HGo.out HH.out
      clear h1 h2 HSy HSn HGo HNi
      gi_wp2_with (fail)
      refine hRR.mono ?_
      rintro e w2 (⟨rfl, h⟩ | ⟨rfl, h⟩)
      · have HJ2 := Lib.hid h
        clear h hy hRR y0 y1 y2 y3 y4 y5 x1 HI1
        gi_wp2
        go_roundw
        case rel => exact ⟨i + 1, by omega, by go_num, by rw [HSx.out, List.length_append]; exact HJ2⟩
        case measure => simp [intOf]; omega
      · have HS2 := Lib.hid h
        clear h hy hRR y0 y1 y2 y3 y4 y5 x1 HI1
        gi_wp2
        refine bodyPost_ret (results_none rfl _ _ _) rfl ?_
        exact ⟨⟨_, rfl⟩, .inr ⟨_, HS2.out⟩⟩
    · have HH : Hid (hasB t g = false) := Lib.hid (by unfold hasB; rw [decide_eq_false h1, decide_eq_false h2]; rfl)
      have h1b : (g.home == t) = false := by simpa using h1
      have h2b : (g.away == t) = false := by simpa using h2
      have HSx := Lib.hid (HSn.out HH.out)
      clear h1 h2 HSy HSn HGo HNi
      gi_wp2_with (fail)
      repeat (refine ⟨(fun _ h => by cases h), ?_⟩; try gi_wp2_with (fail))
      go_roundw
      case rel => exact ⟨i + 1, by omega, by go_num, by rw [HSx.out]; exact Lib.hid HI1.out.1⟩
      case measure => simp [intOf]; omega
end Go.Proofs.YtljkgjfmambfoaaDoor
