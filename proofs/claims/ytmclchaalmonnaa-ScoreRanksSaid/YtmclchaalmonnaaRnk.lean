/- The document's swing, Swing and Open; the law of ranks. -/
import Derived.Test.YtmclchaalmonnaaSwA
import Derived.Test.YtmclchaalmonnaaRkB
namespace Go.Proofs.Ytmclchaalmonnaa
open Go.RowKit Go.Lib
attribute [local irreducible] wpQuiet
def wsc (r : Ru) (j : Nat) (s : Sk) : Sc := progP r (markP s j (-5) 0)
def bsc (r : Ru) (j : Nat) (s : Sk) : Sc := progP r (markP s j 5 40)
/-- how many of the first j are better, but for one -/
def cntE (l : List Sc) (x : Sc) (i j : Nat) : Nat := (List.range j).countP fun k => decide (k ≠ i) && ((l[k]?).map fun a => betR a x).getD false
theorem cntE_succ {l : List Sc} {x : Sc} {i j : Nat} (h : j < l.length) : cntE l x i (j + 1) = cntE l x i j + (if j = i then 0 else if betR l[j] x then 1 else 0) := by
  unfold cntE
  rw [List.range_succ, List.countP_append, List.countP_cons, List.countP_nil]
  rw [List.getElem?_eq_getElem h]
  by_cases e : j = i
  · simp [e]
  · simp [e]
theorem cntE_le (l : List Sc) (x : Sc) (i j : Nat) : cntE l x i j ≤ j := by
  unfold cntE
  refine Nat.le_trans List.countP_le_length ?_
  simp
theorem cntE_all {l : List Sc} {x : Sc} {i : Nat} (hi : i < l.length) : ∀ j, j ≤ l.length → cntE l x i j + (if i < j then (if betR l[i] x then 1 else 0) else 0) = (l.take j).countP fun o => betR o x := by
  intro j
  induction j with
  | zero => intro _; simp [cntE]
  | succ j ih =>
    intro hj
    have h1 := ih (by omega)
    have hj' : j < l.length := by omega
    rw [cntE_succ hj', List.take_succ_eq_append_getElem hj', List.countP_append, List.countP_cons, List.countP_nil, ← h1]
    by_cases e : j = i
    · subst e
      rw [if_pos rfl, if_pos (Nat.lt_succ_self _), if_neg (Nat.lt_irrefl _)]
      omega
    · rw [if_neg e]
      have e2 : (if i < j + 1 then (if betR l[i] x then 1 else 0) else 0) = (if i < j then (if betR l[i] x then 1 else 0) else 0 : Nat) := by
        by_cases h2 : i < j
        · rw [if_pos h2, if_pos (Nat.lt_succ_of_lt h2)]
        · rw [if_neg h2, if_neg (fun h3 => h2 (Nat.lt_of_le_of_ne (Nat.le_of_lt_succ h3) (fun h4 => e h4.symm)))]
      rw [e2]; omega
theorem span_doc {r : Ru} {l : List Sk} {j i : Nat} (h : contestB r l = true) (hj : j < nP l) (hi : i < l.length) :
    (swingP r l j)[i]? = some ⟨1 + (cntE (l.map (wsc r j)) (bsc r j l[i]) i l.length : Nat), 1 + (cntE (l.map (bsc r j)) (wsc r j l[i]) i l.length : Nat)⟩ := by
  have hle := worst_best (contest_each h _ (List.getElem_mem hi)) hj
  have h1 := cntE_all (l := l.map (wsc r j)) (x := bsc r j l[i]) (i := i) (by simpa using hi) l.length (by simp)
  have h2 := cntE_all (l := l.map (bsc r j)) (x := wsc r j l[i]) (i := i) (by simpa using hi) l.length (by simp)
  rw [if_pos hi, List.take_of_length_le (by simp), List.getElem_map, List.countP_map] at h1 h2
  have h3 : betR (wsc r j l[i]) (bsc r j l[i]) = false := bet_irr hle
  have h4 : betR (bsc r j l[i]) (wsc r j l[i]) = !decide (bestP r j l[i] = worstP r j l[i]) := bet_ne hle
  rw [h3] at h1
  rw [h4] at h2
  unfold swingP
  rw [List.getElem?_map, List.getElem?_eq_getElem hi, Option.map_some]
  congr 1
  unfold spanP plP
  rw [List.countP_map, List.countP_map]
  simp only [Bool.false_eq_true, if_false, Nat.add_zero] at h1
  have e1 : (l.countP ((fun o => betB o (bestP r j l[i])) ∘ worstP r j)) = l.countP ((fun o => betR o (bsc r j l[i])) ∘ wsc r j) := rfl
  have e2 : (l.countP ((fun o => betB o (worstP r j l[i])) ∘ bestP r j)) = l.countP ((fun o => betR o (wsc r j l[i])) ∘ bsc r j) := rfl
  rw [e1, e2, ← h1, ← h2]
  congr 1
  by_cases he : bestP r j l[i] = worstP r j l[i]
  · rw [if_pos he]; simp [he]
  · rw [if_neg he]; simp [he]; omega
/-- two rows of scores, and the box of the rules -/
structure DS (W w : World) (r : Ru) (A : Option Addr) (c : Nat) (v1 v2 : Value) (b1 b2 : List Sc) : Prop where
  b : Below W.heap.size W w
  fr : Has w W.heap.size 24 (ruc r A c)
  t : TwoR w (W.heap.size + 1) v1 v2 b1 b2
section
variable {W w w' : World} {r : Ru} {A : Option Addr} {c : Nat} {v1 v2 : Value} {b1 b2 : List Sc}
theorem DS.step (h : DS W w r A c v1 v2 b1 b2) (hb : Below w.heap.size w w') : DS W w' r A c v1 v2 b1 b2 := ⟨h.b.trans (hb.mono h.b.size), h.fr.below hb h.fr.lt, h.t.step hb⟩
theorem DS.app1 {g cap H : Nat} {x : Sc} (h : DS W w r A c v1 v2 b1 b2) (hH : w.heap.size = H) (hown : w'.ownsRow (W.heap.size + 1) 33 4 (.slice (some ⟨g, 0, none⟩) (b1.length + 1) cap) (b1.length + 1) (nvl scc b1 ++ nvl scc [x])) (hgr : w.grownBy w' v1.ownBlock) (hg : v1.ownBlock = some g ∨ g = H) : DS W w' r A c (.slice (some ⟨g, 0, none⟩) (b1.length + 1) cap) v2 (b1 ++ [x]) b2 := by
  have hb : Below (W.heap.size + 1) w w' := grown_step hgr h.fr.lt (fun b hb => (own_block h.t.o1 b hb).1)
  exact ⟨h.b.trans (hb.mono (by omega)), h.fr.below hb (by omega), h.t.app1 hH hown hgr hg⟩
theorem DS.app2 {g cap H : Nat} {x : Sc} (h : DS W w r A c v1 v2 b1 b2) (hH : w.heap.size = H) (hown : w'.ownsRow (W.heap.size + 1) 33 4 (.slice (some ⟨g, 0, none⟩) (b2.length + 1) cap) (b2.length + 1) (nvl scc b2 ++ nvl scc [x])) (hgr : w.grownBy w' v2.ownBlock) (hg : v2.ownBlock = some g ∨ g = H) : DS W w' r A c v1 (.slice (some ⟨g, 0, none⟩) (b2.length + 1) cap) b1 (b2 ++ [x]) := by
  have hb : Below (W.heap.size + 1) w w' := grown_step hgr h.fr.lt (fun b hb => (own_block h.t.o2 b hb).1)
  exact ⟨h.b.trans (hb.mono (by omega)), h.fr.below hb (by omega), h.t.app2 hH hown hgr hg⟩
end
theorem pra_app (q : List (Int × Int)) (x : Int × Int) : (pra (q ++ [x])).toList = (pra q).toList ++ [.int .i64 x.1, .int .i64 x.2] := by simp [pra]
/-- the spans so far, in a row of their own -/
structure DQ (w1 w : World) (v : Value) (n : Nat) (q : List (Int × Int)) : Prop where
  b : Below w1.heap.size w1 w
  o : w.ownsRow w1.heap.size 56 2 v n (pra q).toList
theorem DQ.step {w1 w w' : World} {v : Value} {n : Nat} {q : List (Int × Int)} (h : DQ w1 w v n q) (hb : Below w.heap.size w w') : DQ w1 w' v n q := ⟨h.b.trans (hb.mono h.b.size), own_step h.o hb⟩
theorem dq_qrow {w : World} {base : Nat} {v : Value} {q : List (Int × Int)} (h : w.ownsRow base 56 2 v q.length (pra q).toList) : ∃ U cu, v = .slice U q.length cu ∧ QRow w w.heap.size U q := by
  obtain ⟨U, cu, rfl, h0, h1⟩ := own_slice h
  refine ⟨U, cu, rfl, fun k hk => ?_⟩
  cases U with
  | none => have := h0 rfl; omega
  | some a =>
    obtain ⟨hl, ⟨e, h9⟩ | ⟨g, cap, cur, e, hB, hgc, h2, h3, h4, h5⟩⟩ := h
    · cases e
    · cases e
      have hh : Has w g 56 cur := hgc
      have key : ∀ j, j < 2 → w.cell? ⟨g, 0 + k * 2 + j, none⟩ = (pra q)[k * 2 + j]? := fun j hj => by
        rw [Nat.zero_add, hh.cell]
        have h6 : (cur.toList.take (q.length * 2))[k * 2 + j]? = (pra q).toList[k * 2 + j]? := by rw [h5]
        rw [List.getElem?_take_of_lt (by omega)] at h6
        simpa using h6
      have hp := pra_get q k hk
      exact ⟨g, 0, rfl, hh.lt, (key 0 (by omega)).trans hp.1, (key 1 (by omega)).trans hp.2⟩
def DSwPost (q : List Sp) (W : World) (e : Ending) (W' : World) : Prop := ∃ A c, e = .returned (.slice A q.length c) ∧ QRow W' W'.heap.size A (q.map spp) ∧ Below W.heap.size W W'
theorem dsw_post {W w1 w : World} {U : Option Addr} {cu n : Nat} {Q : List Sp} (h : DQ w1 w (.slice U n cu) n (Q.map spp)) (hn : n = Q.length) (hb : Below W.heap.size W w1) : DSwPost Q W (.returned (.slice U n cu)) w := by
  subst hn
  obtain ⟨U', cu', e, hq⟩ := dq_qrow (q := Q.map spp) (by rw [List.length_map]; exact h.o)
  simp only [List.length_map, Value.slice.injEq] at e
  obtain ⟨rfl, -, rfl⟩ := e
  exact ⟨U, cu, rfl, hq, hb.trans (h.b.mono hb.size)⟩
/-- a round of the count -/
structure DC (wS w : World) (a1 a2 : Int) : Prop where
  b : Below wS.heap.size wS w
  p : Has w wS.heap.size 56 #[.int .i64 a1, .int .i64 a2]
theorem DC.step {wS w w' : World} {a1 a2 : Int} (h : DC wS w a1 a2) (hb : Below w.heap.size w w') : DC wS w' a1 a2 := ⟨h.b.trans (hb.mono h.b.size), h.p.below hb h.p.lt⟩
theorem DC.one {wS w : World} {a1 a2 : Int} (h : DC wS w a1 a2) (x : Int) : DC wS (w.setCell ⟨wS.heap.size, 0, none⟩ (.int .i64 x)) x a2 := ⟨h.b.setCell (Nat.le_refl _) _, h.p.set 0 _⟩
theorem DC.two {wS w : World} {a1 a2 : Int} (h : DC wS w a1 a2) (x : Int) : DC wS (w.setCell ⟨wS.heap.size, 1, none⟩ (.int .i64 x)) a1 x := ⟨h.b.setCell (Nat.le_refl _) _, h.p.set 1 _⟩
theorem sc_cells {w : World} {B k : Nat} {V : Option Addr} {l : List Sc} (h : ScRow w B V l) (hk : k < l.length) : ∃ g o, V = some ⟨g, o, none⟩ ∧ ∀ w', Below B w w' → w'.cell? ⟨g, o + k * 4, none⟩ = some (.int .i64 l[k].elements) ∧ w'.cell? ⟨g, o + k * 4 + 1, none⟩ = some (.int .i64 l[k].parts) ∧ w'.cell? ⟨g, o + k * 4 + 2, none⟩ = some (.int .i64 l[k].off) ∧ w'.cell? ⟨g, o + k * 4 + 3, none⟩ = some (.int .i64 l[k].total) := by
  obtain ⟨g, o, e, hg, c⟩ := h k hk
  refine ⟨g, o, e, fun w' hb => ⟨?_, ?_, ?_, ?_⟩⟩
  · exact (hb.cell (p := ⟨g, _, none⟩) hg).trans (c 0 (by omega))
  · exact (hb.cell (p := ⟨g, _, none⟩) hg).trans (c 1 (by omega))
  · exact (hb.cell (p := ⟨g, _, none⟩) hg).trans (c 2 (by omega))
  · exact (hb.cell (p := ⟨g, _, none⟩) hg).trans (c 3 (by omega))
set_option maxRecDepth 100000 in
set_option maxHeartbeats 4000000 in
theorem dswing_any (r : Ru) (A : Option Addr) (c : Nat) (l : List Sk) (L : Option Addr) (k0 : Nat) (j : Nat) (W : World) (hr : RuR W W.heap.size r A) (hs : SRow W W.heap.size L l) (h40 : l.length ≤ 40) (hct : contestB r l = true) (hj : j < nP l) :
    Calls Try.prog 49 #[ruv r A c, .slice L l.length k0, .int .i64 j] W (DSwPost (swingP r l j) W) := by
  obtain ⟨i0, hi, hz0, hz1, hz2⟩ := info_parts Try.info33
  obtain ⟨n0, hni, hw0, hw1, hw2⟩ := info_parts Try.info56
  have hmix : Try.prog.follows .mixedOrders = true := by kernel_rfl
  have hlen : ∀ s ∈ l, (∀ q ∈ s.calls, j < q.marks.length ∧ q.marks.length ≤ 1000) ∧ (∀ m ∈ s.parts, j < m.length ∧ m.length ≤ 1000) ∧ s.calls.length ≤ 1000 ∧ s.parts.length ≤ 1000 := fun s hsm => by
    have h1 := contest_each hct s hsm
    have h2 := (contest_ok hct).2 s hsm
    obtain ⟨l1, l2⟩ := h1.len
    refine ⟨fun q hq => ?_, fun m hm => ?_, by have := h2.nc; omega, by have := h2.np; omega⟩
    · rw [l1 q hq]; have := (h2.c q hq).1.l9; rw [l1 q hq] at this; omega
    · rw [l2 m hm]; have := (h2.p m hm).2.1; rw [l2 m hm] at this; omega
  have HRS := Lib.hid (And.intro hr hs)
  have HSD := Lib.hid (fun (i : Nat) (hi : i < l.length) => span_doc (r := r) hct hj hi)
  have HQL : Hid ((swingP r l j).length = l.length) := Lib.hid (by simp [swingP])
  have HAL := Lib.hid (fun (x : Sk) (hx : x ∈ l) AC AP cc cp (gr qu : Int) w (hsk : SkR w w.heap.size x AC AP) => All_any x AC AP cc cp j gr qu w hsk (hlen x hx).2.2.1 (hlen x hx).2.2.2 (hlen x hx).1 (hlen x hx).2.1)
  have HDP := Lib.hid (fun (x : Sk) (hx : x ∈ l) (gr qu : Int) (hg : (-5 ≤ gr ∧ gr ≤ 5) ∧ 0 ≤ qu ∧ qu ≤ 40) AC AP cc cp w (hb : Below W.heap.size W w) (hsk : SkR w w.heap.size (markP x j gr qu) AC AP) =>
    (show Calls Try.prog 41 #[ruv r A c, skv (markP x j gr qu) AC AP cc cp] w (ScPost (progP r (markP x j gr qu)) w) from
      dprogram_any r A c (markP x j gr qu) AC AP cc cp w ((hr.below hb).more hb.size) hsk (contest_ok hct).1 (by
        have h := put_ok (r := r) (s := x) (j := j) (f := fun _ => gr) (g := fun _ => qu) (fun _ _ => hg.1) (fun _ _ => hg.2) (contest_one.2 ⟨_, contest_each hct x hx⟩)
        rw [← mark_put] at h
        exact (contest_ok h).2 _ List.mem_cons_self)))
  have HBT := Lib.hid (fun (a b : Sc) w => Better_any a b w)
  have H0 : Hid (DS W (W.alloc (.cells (ruc r A c) 24)) r A c (.slice none 0 0) (.slice none 0 0) [] []) := Lib.hid ⟨below_one _ _, Has.new _ _ _, own_nil _ _ _ _, own_nil _ _ _ _, fun b hb => by cases hb⟩
  unfold MkPost skv at HAL
  unfold ScPost ruv skv scv at HDP
  unfold scv BoolPost at HBT
  have hrl := hr.l
  unfold big at hrl
  clear hr hs hlen hct
  unfold ruv
  go_enter Try.func49, Try.ntmps49
  go_upto_region 1 with fail
  generalize W.alloc (.cells (ruc r A c) 24) = w0 at H0 ⊢
  go_wp2_with fail
  go_loopg [7, 8, 9] l.length (fun gk v1 v2 i wr => ∃ k : Nat, k ≤ l.length ∧ l.length - k ≤ gk ∧ i = .int .i64 k ∧ ∃ (b1 b2 : List Sc) (V1 : Option Addr) (c1 : Nat) (V2 : Option Addr) (c2 : Nat), v1 = .slice V1 b1.length c1 ∧ v2 = .slice V2 b2.length c2 ∧ Hid (DS W wr r A c (.slice V1 b1.length c1) (.slice V2 b2.length c2) b1 b2 ∧ b1 = (l.take k).map (wsc r j) ∧ b2 = (l.take k).map (bsc r j)))
  case atStart => exact ⟨0, Nat.zero_le _, Nat.le_refl _, rfl, [], [], none, 0, none, 0, rfl, rfl, Lib.hid ⟨H0.out, by simp, by simp⟩⟩
  case round =>
    obtain ⟨k, hk, hgk, rfl, b1, b2, V1, c1, V2, c2, rfl, rfl, HW⟩ := hrel
    clear H0
    by_cases hlt : k < l.length
    rotate_left
    · have hge : ¬ (k : Int) < l.length := by omega
      have HE : Hid (b1 = l.map (wsc r j) ∧ b2 = l.map (bsc r j)) := Lib.hid (by have h1 := HW.out.2; rw [List.take_of_length_le (by omega)] at h1; exact h1)
      clear hk hgk hlt HAL HDP hz0 hz1 hz2
      obtain ⟨w1, rfl⟩ : ∃ w1, w1 = wr := ⟨_, rfl⟩
      have HR1 : Hid (ScRow w1 w1.heap.size V1 b1 ∧ ScRow w1 w1.heap.size V2 b2) := Lib.hid (by
        obtain ⟨A1, q1, e1, h1⟩ := scrow_own HW.out.1.t.o1
        obtain ⟨A2, q2, e2, h2⟩ := scrow_own HW.out.1.t.o2
        cases e1; cases e2; exact ⟨h1, h2⟩)
      have hl1 : b1.length = l.length := by rw [HE.out.1]; simp
      have hl2 : b2.length = l.length := by rw [HE.out.2]; simp
      have HL := Lib.hid (And.intro hl1 hl2)
      have HB1 := Lib.hid HW.out.1.b
      have hb1 : l.length ≤ b1.length := by omega
      have hb2 : l.length ≤ b2.length := by omega
      have hb3 : b1.length ≤ l.length := by omega
      have hb4 : b2.length ≤ l.length := by omega
      clear HW hl1 hl2
      go_wp2_with fail
      go_loopg [10, 11] l.length (fun gk v i wx => ∃ k : Nat, k ≤ l.length ∧ l.length - k ≤ gk ∧ i = .int .i64 k ∧ ∃ (U : Option Addr) (cu : Nat), v = .slice U k cu ∧ Hid (DQ w1 wx (.slice U k cu) k (((swingP r l j).take k).map spp)))
      case atStart => exact ⟨0, Nat.zero_le _, Nat.le_refl _, rfl, none, 0, rfl, Lib.hid ⟨Below.refl _ _, by simpa [pra] using own_nil w1 w1.heap.size 2 56⟩⟩
      case round =>
        obtain ⟨k, hk, hgk, rfl, U, cu, rfl, HW⟩ := hrel
        clear hge
        by_cases hlt : k < l.length
        rotate_left
        · have hge : ¬ (k : Int) < l.length := by omega
          have HP : Hid (k = (swingP r l j).length ∧ (swingP r l j).take k = swingP r l j) := Lib.hid (by
            have := HQL.out
            exact ⟨by omega, List.take_of_length_le (by omega)⟩)
          have HQ := Lib.hid HW.out
          clear hk hgk hlt HW hb1 hb2 hb3 hb4
          go_wp2_with fail
          go_ret
          exact dsw_post (Q := swingP r l j) (by have := HQ.out; rw [HP.out.2] at this; exact this) HP.out.1 HB1.out
        have hlt2 : (k : Int) < l.length := by omega
        have hk1 : k < b1.length := by omega
        have hk2 : k < b2.length := by omega
        obtain ⟨y1, hy1⟩ : ∃ y, y = b1[k] := ⟨_, rfl⟩
        obtain ⟨y2, hy2⟩ : ∃ y, y = b2[k] := ⟨_, rfl⟩
        have HSP : Hid ((swingP r l j)[k]? = some ⟨1 + (cntE b1 y2 k l.length : Nat), 1 + (cntE b2 y1 k l.length : Nat)⟩) := Lib.hid (by
          have h := HSD.out k hlt
          obtain ⟨e1, e2⟩ := HE.out
          subst e1 e2
          rw [hy1, hy2, List.getElem_map, List.getElem_map]
          exact h)
        obtain ⟨g1, o1, hV1, c1f⟩ := sc_cells HR1.out.1 hk1
        obtain ⟨g2, o2, hV2, c2f⟩ := sc_cells HR1.out.2 hk2
        rw [← hy1] at c1f
        rw [← hy2] at c2f
        have HC1 := Lib.hid c1f
        have HC2 := Lib.hid c2f
        obtain ⟨wS, rfl⟩ : ∃ wS, wS = wr := ⟨_, rfl⟩
        have H2 : Hid (DC wS (wS.alloc (.cells #[.int .i64 1, .int .i64 1] 56)) 1 1) := Lib.hid ⟨below_one _ _, Has.new _ _ _⟩
        have HWS := Lib.hid HW.out.b
        subst hV1 hV2
        clear hy1 hy2 c1f c2f hk
        go_wp2_with fail
        generalize wS.alloc (.cells #[.int .i64 1, .int .i64 1] 56) = w2 at H2 ⊢
        go_loopg [13] l.length (fun gk2 i wx => ∃ q : Nat, q ≤ l.length ∧ l.length - q ≤ gk2 ∧ i = .int .i64 q ∧ ∃ a1 a2 : Int, Hid (DC wS wx a1 a2 ∧ a1 = 1 + (cntE b1 y2 k q : Nat) ∧ a2 = 1 + (cntE b2 y1 k q : Nat)))
        case atStart => exact ⟨0, Nat.zero_le _, Nat.le_refl _, rfl, 1, 1, Lib.hid ⟨H2.out, by simp [cntE], by simp [cntE]⟩⟩
        case round =>
          obtain ⟨q, hq, hgq, rfl, a1, a2, HD⟩ := hrel
          clear H2
          by_cases hqt : q < l.length
          rotate_left
          · have hqe : ¬ (q : Int) < l.length := by omega
            obtain rfl : q = l.length := by omega
            have p0 : wr.cell? ⟨wS.heap.size, 0, none⟩ = some (.int .i64 a1) := HD.out.1.p.cell 0
            have p1 : wr.cell? ⟨wS.heap.size, 1, none⟩ = some (.int .i64 a2) := HD.out.1.p.cell 1
            obtain ⟨q0, hq0⟩ : ∃ q, q = ((swingP r l j).take k).map spp := ⟨_, rfl⟩
            have HO : Hid ((wr.alloc (.cells #[.int .i64 a1, .int .i64 a2] 56)).ownsRow w1.heap.size 56 2 (.slice U k cu) k (pra q0).toList) := Lib.hid (by rw [hq0]; exact own_step (own_step HW.out.o HD.out.1.b) (below_one _ _))
            have HNEW : Hid (∀ i u, ([.int .i64 a1, .int .i64 a2] : List Value)[i]? = some u → (wr.alloc (.cells #[.int .i64 a1, .int .i64 a2] 56)).cell? ((⟨wr.heap.size, 0, none⟩ : Addr).add i) = some u) := Lib.hid fun i u hu => by
              rw [addr_add, (Has.new wr 56 #[.int .i64 a1, .int .i64 a2]).cell, Nat.zero_add, ← hu]
              simp
            have HON : Hid (∀ u ∈ ([.int .i64 a1, .int .i64 a2] : List Value), u.oneCell' = true) := Lib.hid fun u hu => by
              simp only [List.mem_cons, List.not_mem_nil, or_false] at hu
              rcases hu with rfl | rfl <;> rfl
            have HBW : Hid (Below w1.heap.size w1 (wr.alloc (.cells #[.int .i64 a1, .int .i64 a2] 56))) := Lib.hid ((HWS.out.trans (HD.out.1.b.mono HWS.out.size)).trans ((below_one _ _).mono (HWS.out.trans (HD.out.1.b.mono HWS.out.size)).size))
            have HTK : Hid (((swingP r l j).take (k + 1)).map spp = q0 ++ [(a1, a2)]) := Lib.hid (by
              have h1 := HSP.out
              obtain ⟨hk', e⟩ := List.getElem?_eq_some_iff.1 h1
              rw [List.take_succ_eq_append_getElem hk', List.map_append, e, hq0, HD.out.2.1, HD.out.2.2]
              rfl)
            clear hq0 hq hgq hqt HD HW hb1 hb2 hb3 hb4 hk1 hk2
            go_wp2_with (at_builtin; refine wpList_append_lies _ rfl _ _ 43 rfl w1.heap.size 56 n0 (.agg #[.int .i64 0, .int .i64 0]) 2 16 Try.underlying43 hni hw0 hw1 hw2 rfl (by decide) (.slice U k cu) k (pra q0).toList rfl HO.out ⟨wr.heap.size, 0, none⟩ 1 1 [.int .i64 a1, .int .i64 a2] rfl ?m1 HNEW.out HON.out ?m2 ?m3 ?m4 ?m5 _ rfl ?_)
            case m3 => unfold maxLen; omega
            case m4 => omega
            case m5 => have := HBW.out.size; simp at this; omega
            rintro g9 cap9 w9 hown hgr hgb hlt9
            have H9 : Hid (DQ w1 w9 (.slice (some ⟨g9, 0, none⟩) (k + 1) cap9) (k + 1) (((swingP r l j).take (k + 1)).map spp)) := Lib.hid ⟨HBW.out.trans (grown_step hgr HBW.out.size (fun b hb => (own_block HO.out b hb).1)), by rw [HTK.out, pra_app]; exact hown⟩
            clear hown hgr hgb hlt9 p0 p1 HO HNEW HBW HTK hqe
            go_wp2_with fail
            go_roundg (l.length - (k + 1))
            case measure => omega
            case rel => exact ⟨k + 1, by omega, Nat.le_refl _, by go_num, some ⟨g9, 0, none⟩, cap9, rfl, H9⟩
          have hqt2 : (q : Int) < l.length := by omega
          have hq1 : q < b1.length := by omega
          have hq2 : q < b2.length := by omega
          have HS1 := Lib.hid (And.intro (cntE_succ (x := y2) (i := k) hq1) (cntE_succ (x := y1) (i := k) hq2))
          have ha : (1 ≤ a1 ∧ a1 ≤ 41) ∧ 1 ≤ a2 ∧ a2 ≤ 41 := by
            have h1 := cntE_le b1 y2 k q
            have h2 := cntE_le b2 y1 k q
            have h3 := HD.out.2
            omega
          obtain ⟨z1, hz1'⟩ : ∃ z, z = b1[q] := ⟨_, rfl⟩
          obtain ⟨z2, hz2'⟩ : ∃ z, z = b2[q] := ⟨_, rfl⟩
          rw [← hz1', ← hz2'] at HS1
          obtain ⟨g3, o3, hV3, c3f⟩ := sc_cells HR1.out.1 hq1
          obtain ⟨g4, o4, hV4, c4f⟩ := sc_cells HR1.out.2 hq2
          rw [← hz1'] at c3f
          rw [← hz2'] at c4f
          cases hV3
          cases hV4
          have HC3 := Lib.hid c3f
          have HC4 := Lib.hid c4f
          have HD1 := Lib.hid HD.out.1
          have HDE := Lib.hid HD.out.2
          clear hz1' hz2' c3f c4f HD hq
          by_cases hqk : q = k
          · have f0 : ((q : Int) != (k : Int)) = false := by simp [hqk]
            have HS2 : Hid (cntE b1 y2 k (q + 1) = cntE b1 y2 k q ∧ cntE b2 y1 k (q + 1) = cntE b2 y1 k q) := Lib.hid (by have h := HS1.out; rw [if_pos hqk, if_pos hqk] at h; exact h)
            clear hqk HS1
            go_upto_region 15 with fail
            haveI hnea : Nonempty (Cls (fun w' => DC wS w' a1 a2)) := ⟨⟨_, (HD1.out.step ((Below.refl _ _).drew))⟩⟩
            refine wp_region_cls (fun w' => DC wS w' a1 a2) hmix (by kernel_rfl) (HD1.out.step ((Below.refl _ _).drew)) ?_
            repeat (first | quiet_step (fail) | (refine wpQuiet_step (fun K hK => ?_); refine ⟨(fun _ h => by cases h), ?_⟩))
            refine wpQuiet_nil ?_
            rintro w7a ⟨⟨_, hw7⟩, rfl⟩
            try simp only []
            have H7 := Lib.hid hw7
            clear hw7 hnea 
            go_upto_region 17 with fail
            haveI hneb : Nonempty (Cls (fun w' => DC wS w' a1 a2)) := ⟨⟨_, (H7.out.step ((Below.refl _ _).drew))⟩⟩
            refine wp_region_cls (fun w' => DC wS w' a1 a2) hmix (by kernel_rfl) (H7.out.step ((Below.refl _ _).drew)) ?_
            repeat (first | quiet_step (fail) | (refine wpQuiet_step (fun K hK => ?_); refine ⟨(fun _ h => by cases h), ?_⟩))
            refine wpQuiet_nil ?_
            rintro w7b ⟨⟨_, hw7⟩, rfl⟩
            try simp only []
            have H8 := Lib.hid hw7
            clear hw7 hneb 
            go_wp2_with fail
            go_roundg (l.length - (q + 1))
            case measure => omega
            case rel => exact ⟨q + 1, by omega, Nat.le_refl _, by go_num, a1, a2, Lib.hid ⟨H8.out, by rw [HS2.out.1]; exact HDE.out.1, by rw [HS2.out.2]; exact HDE.out.2⟩⟩
          have f0 : ((q : Int) != (k : Int)) = true := by
            have : ¬ (q : Int) = k := by omega
            simpa using this
          have HS2 : Hid (cntE b1 y2 k (q + 1) = cntE b1 y2 k q + (if betR z1 y2 then 1 else 0) ∧ cntE b2 y1 k (q + 1) = cntE b2 y1 k q + (if betR z2 y1 then 1 else 0)) := Lib.hid (by have h := HS1.out; rw [if_neg hqk, if_neg hqk] at h; exact h)
          have HT1 := Lib.hid (fun w => HBT.out z1 y2 w)
          have HT2 := Lib.hid (fun w => HBT.out z2 y1 w)
          generalize betR z1 y2 = B1 at HS2 HT1
          generalize betR z2 y1 = B2 at HS2 HT2
          clear hqk HS1
          cases B1
          · go_upto_region 15 with fail
            haveI hnecf : Nonempty (Cls (fun w' => DC wS w' a1 a2)) := ⟨⟨_, (HD1.out.step ((Below.refl _ _).drew))⟩⟩
            have hxcf0_ : ∀ pc : Cls (fun w' => DC wS w' a1 a2), pc.w.cell? ⟨g1, o1 + q * 4, none⟩ = some (.int .i64 z1.elements) := fun pc => (HC3.out _ (HWS.out.trans (pc.h.b.mono HWS.out.size))).1
            have hxcf1_ : ∀ pc : Cls (fun w' => DC wS w' a1 a2), pc.w.cell? ⟨g1, o1 + q * 4 + 1, none⟩ = some (.int .i64 z1.parts) := fun pc => (HC3.out _ (HWS.out.trans (pc.h.b.mono HWS.out.size))).2.1
            have hxcf2_ : ∀ pc : Cls (fun w' => DC wS w' a1 a2), pc.w.cell? ⟨g1, o1 + q * 4 + 2, none⟩ = some (.int .i64 z1.off) := fun pc => (HC3.out _ (HWS.out.trans (pc.h.b.mono HWS.out.size))).2.2.1
            have hxcf3_ : ∀ pc : Cls (fun w' => DC wS w' a1 a2), pc.w.cell? ⟨g1, o1 + q * 4 + 3, none⟩ = some (.int .i64 z1.total) := fun pc => (HC3.out _ (HWS.out.trans (pc.h.b.mono HWS.out.size))).2.2.2
            have hxcf4_ : ∀ pc : Cls (fun w' => DC wS w' a1 a2), pc.w.cell? ⟨g2, o2 + k * 4, none⟩ = some (.int .i64 y2.elements) := fun pc => (HC2.out _ (HWS.out.trans (pc.h.b.mono HWS.out.size))).1
            have hxcf5_ : ∀ pc : Cls (fun w' => DC wS w' a1 a2), pc.w.cell? ⟨g2, o2 + k * 4 + 1, none⟩ = some (.int .i64 y2.parts) := fun pc => (HC2.out _ (HWS.out.trans (pc.h.b.mono HWS.out.size))).2.1
            have hxcf6_ : ∀ pc : Cls (fun w' => DC wS w' a1 a2), pc.w.cell? ⟨g2, o2 + k * 4 + 2, none⟩ = some (.int .i64 y2.off) := fun pc => (HC2.out _ (HWS.out.trans (pc.h.b.mono HWS.out.size))).2.2.1
            have hxcf7_ : ∀ pc : Cls (fun w' => DC wS w' a1 a2), pc.w.cell? ⟨g2, o2 + k * 4 + 3, none⟩ = some (.int .i64 y2.total) := fun pc => (HC2.out _ (HWS.out.trans (pc.h.b.mono HWS.out.size))).2.2.2
            have htcf := (fun w' (h : DC wS w' a1 a2) => (HT1.out w').mono (fun e w'' h' => (show e = .returned (.bool false) ∧ DC wS w'' a1 a2 from ⟨h'.1, h.step h'.2⟩)))
            refine wp_region_cls (fun w' => DC wS w' a1 a2) hmix (by kernel_rfl) (HD1.out.step ((Below.refl _ _).drew)) ?_
            repeat (quiet_step (first | (with_reducible exact cls_call htcf _)))
            refine wpQuiet_nil ?_
            rintro w7cf ⟨⟨_, hw7⟩, rfl⟩
            try simp only []
            have H7 := Lib.hid hw7
            clear hw7 hnecf hxcf0_ hxcf1_ hxcf2_ hxcf3_ hxcf4_ hxcf5_ hxcf6_ hxcf7_ htcf
            have HX1 : Hid (a1 = 1 + (cntE b1 y2 k (q + 1) : Nat)) := Lib.hid (by have := HDE.out.1; have h2 := HS2.out.1; simp only [Bool.false_eq_true, if_false] at h2; omega)
            go_upto_region 17 with fail
            cases B2
            · haveI hnedff : Nonempty (Cls (fun w' => DC wS w' a1 a2)) := ⟨⟨_, (H7.out.step ((Below.refl _ _).drew))⟩⟩
              have hxdff0_ : ∀ pc : Cls (fun w' => DC wS w' a1 a2), pc.w.cell? ⟨g2, o2 + q * 4, none⟩ = some (.int .i64 z2.elements) := fun pc => (HC4.out _ (HWS.out.trans (pc.h.b.mono HWS.out.size))).1
              have hxdff1_ : ∀ pc : Cls (fun w' => DC wS w' a1 a2), pc.w.cell? ⟨g2, o2 + q * 4 + 1, none⟩ = some (.int .i64 z2.parts) := fun pc => (HC4.out _ (HWS.out.trans (pc.h.b.mono HWS.out.size))).2.1
              have hxdff2_ : ∀ pc : Cls (fun w' => DC wS w' a1 a2), pc.w.cell? ⟨g2, o2 + q * 4 + 2, none⟩ = some (.int .i64 z2.off) := fun pc => (HC4.out _ (HWS.out.trans (pc.h.b.mono HWS.out.size))).2.2.1
              have hxdff3_ : ∀ pc : Cls (fun w' => DC wS w' a1 a2), pc.w.cell? ⟨g2, o2 + q * 4 + 3, none⟩ = some (.int .i64 z2.total) := fun pc => (HC4.out _ (HWS.out.trans (pc.h.b.mono HWS.out.size))).2.2.2
              have hxdff4_ : ∀ pc : Cls (fun w' => DC wS w' a1 a2), pc.w.cell? ⟨g1, o1 + k * 4, none⟩ = some (.int .i64 y1.elements) := fun pc => (HC1.out _ (HWS.out.trans (pc.h.b.mono HWS.out.size))).1
              have hxdff5_ : ∀ pc : Cls (fun w' => DC wS w' a1 a2), pc.w.cell? ⟨g1, o1 + k * 4 + 1, none⟩ = some (.int .i64 y1.parts) := fun pc => (HC1.out _ (HWS.out.trans (pc.h.b.mono HWS.out.size))).2.1
              have hxdff6_ : ∀ pc : Cls (fun w' => DC wS w' a1 a2), pc.w.cell? ⟨g1, o1 + k * 4 + 2, none⟩ = some (.int .i64 y1.off) := fun pc => (HC1.out _ (HWS.out.trans (pc.h.b.mono HWS.out.size))).2.2.1
              have hxdff7_ : ∀ pc : Cls (fun w' => DC wS w' a1 a2), pc.w.cell? ⟨g1, o1 + k * 4 + 3, none⟩ = some (.int .i64 y1.total) := fun pc => (HC1.out _ (HWS.out.trans (pc.h.b.mono HWS.out.size))).2.2.2
              have htdff := (fun w' (h : DC wS w' a1 a2) => (HT2.out w').mono (fun e w'' h' => (show e = .returned (.bool false) ∧ DC wS w'' a1 a2 from ⟨h'.1, h.step h'.2⟩)))
              refine wp_region_cls (fun w' => DC wS w' a1 a2) hmix (by kernel_rfl) (H7.out.step ((Below.refl _ _).drew)) ?_
              repeat (quiet_step (first | (with_reducible exact cls_call htdff _)))
              refine wpQuiet_nil ?_
              rintro w7dff ⟨⟨_, hw7⟩, rfl⟩
              try simp only []
              have H8 := Lib.hid hw7
              clear hw7 hnedff hxdff0_ hxdff1_ hxdff2_ hxdff3_ hxdff4_ hxdff5_ hxdff6_ hxdff7_ htdff
              have HX2 : Hid (a2 = 1 + (cntE b2 y1 k (q + 1) : Nat)) := Lib.hid (by have := HDE.out.2; have h2 := HS2.out.2; simp only [Bool.false_eq_true, if_false] at h2; omega)
              go_wp2_with fail
              go_roundg (l.length - (q + 1))
              case measure => omega
              case rel => exact ⟨q + 1, by omega, Nat.le_refl _, by go_num, a1, a2, Lib.hid ⟨H8.out, HX1.out, HX2.out⟩⟩
            · haveI hnedft : Nonempty (Cls (fun w' => DC wS w' a1 a2)) := ⟨⟨_, (H7.out.step ((Below.refl _ _).drew))⟩⟩
              have hxdft0_ : ∀ pc : Cls (fun w' => DC wS w' a1 a2), pc.w.cell? ⟨g2, o2 + q * 4, none⟩ = some (.int .i64 z2.elements) := fun pc => (HC4.out _ (HWS.out.trans (pc.h.b.mono HWS.out.size))).1
              have hxdft1_ : ∀ pc : Cls (fun w' => DC wS w' a1 a2), pc.w.cell? ⟨g2, o2 + q * 4 + 1, none⟩ = some (.int .i64 z2.parts) := fun pc => (HC4.out _ (HWS.out.trans (pc.h.b.mono HWS.out.size))).2.1
              have hxdft2_ : ∀ pc : Cls (fun w' => DC wS w' a1 a2), pc.w.cell? ⟨g2, o2 + q * 4 + 2, none⟩ = some (.int .i64 z2.off) := fun pc => (HC4.out _ (HWS.out.trans (pc.h.b.mono HWS.out.size))).2.2.1
              have hxdft3_ : ∀ pc : Cls (fun w' => DC wS w' a1 a2), pc.w.cell? ⟨g2, o2 + q * 4 + 3, none⟩ = some (.int .i64 z2.total) := fun pc => (HC4.out _ (HWS.out.trans (pc.h.b.mono HWS.out.size))).2.2.2
              have hxdft4_ : ∀ pc : Cls (fun w' => DC wS w' a1 a2), pc.w.cell? ⟨g1, o1 + k * 4, none⟩ = some (.int .i64 y1.elements) := fun pc => (HC1.out _ (HWS.out.trans (pc.h.b.mono HWS.out.size))).1
              have hxdft5_ : ∀ pc : Cls (fun w' => DC wS w' a1 a2), pc.w.cell? ⟨g1, o1 + k * 4 + 1, none⟩ = some (.int .i64 y1.parts) := fun pc => (HC1.out _ (HWS.out.trans (pc.h.b.mono HWS.out.size))).2.1
              have hxdft6_ : ∀ pc : Cls (fun w' => DC wS w' a1 a2), pc.w.cell? ⟨g1, o1 + k * 4 + 2, none⟩ = some (.int .i64 y1.off) := fun pc => (HC1.out _ (HWS.out.trans (pc.h.b.mono HWS.out.size))).2.2.1
              have hxdft7_ : ∀ pc : Cls (fun w' => DC wS w' a1 a2), pc.w.cell? ⟨g1, o1 + k * 4 + 3, none⟩ = some (.int .i64 y1.total) := fun pc => (HC1.out _ (HWS.out.trans (pc.h.b.mono HWS.out.size))).2.2.2
              have htdft := (fun w' (h : DC wS w' a1 a2) => (HT2.out w').mono (fun e w'' h' => (show e = .returned (.bool true) ∧ DC wS w'' a1 a2 from ⟨h'.1, h.step h'.2⟩)))
              refine wp_region_cls (fun w' => DC wS w' a1 a2) hmix (by kernel_rfl) (H7.out.step ((Below.refl _ _).drew)) ?_
              repeat (quiet_step (first | (with_reducible exact cls_call htdft _)))
              refine wpQuiet_nil ?_
              rintro w7dft ⟨⟨_, hw7⟩, rfl⟩
              try simp only []
              have H8 := Lib.hid hw7
              clear hw7 hnedft hxdft0_ hxdft1_ hxdft2_ hxdft3_ hxdft4_ hxdft5_ hxdft6_ hxdft7_ htdft
              have p0 : w7dft.cell? ⟨wS.heap.size, 1, none⟩ = some (.int .i64 a2) := H8.out.p.cell 1
              have pf := H8.out.p.frozen 1
              have H9 := Lib.hid (H8.out.two (a2 + 1))
              clear H8
              have HX2 : Hid (a2 + 1 = 1 + (cntE b2 y1 k (q + 1) : Nat)) := Lib.hid (by have := HDE.out.2; have h2 := HS2.out.2; simp only [if_true] at h2; omega)
              go_wp2_with fail
              go_roundg (l.length - (q + 1))
              case measure => omega
              case rel => exact ⟨q + 1, by omega, Nat.le_refl _, by go_num, a1, a2 + 1, Lib.hid ⟨H9.out, HX1.out, HX2.out⟩⟩
          · go_upto_region 15 with fail
            haveI hnect : Nonempty (Cls (fun w' => DC wS w' a1 a2)) := ⟨⟨_, (HD1.out.step ((Below.refl _ _).drew))⟩⟩
            have hxct0_ : ∀ pc : Cls (fun w' => DC wS w' a1 a2), pc.w.cell? ⟨g1, o1 + q * 4, none⟩ = some (.int .i64 z1.elements) := fun pc => (HC3.out _ (HWS.out.trans (pc.h.b.mono HWS.out.size))).1
            have hxct1_ : ∀ pc : Cls (fun w' => DC wS w' a1 a2), pc.w.cell? ⟨g1, o1 + q * 4 + 1, none⟩ = some (.int .i64 z1.parts) := fun pc => (HC3.out _ (HWS.out.trans (pc.h.b.mono HWS.out.size))).2.1
            have hxct2_ : ∀ pc : Cls (fun w' => DC wS w' a1 a2), pc.w.cell? ⟨g1, o1 + q * 4 + 2, none⟩ = some (.int .i64 z1.off) := fun pc => (HC3.out _ (HWS.out.trans (pc.h.b.mono HWS.out.size))).2.2.1
            have hxct3_ : ∀ pc : Cls (fun w' => DC wS w' a1 a2), pc.w.cell? ⟨g1, o1 + q * 4 + 3, none⟩ = some (.int .i64 z1.total) := fun pc => (HC3.out _ (HWS.out.trans (pc.h.b.mono HWS.out.size))).2.2.2
            have hxct4_ : ∀ pc : Cls (fun w' => DC wS w' a1 a2), pc.w.cell? ⟨g2, o2 + k * 4, none⟩ = some (.int .i64 y2.elements) := fun pc => (HC2.out _ (HWS.out.trans (pc.h.b.mono HWS.out.size))).1
            have hxct5_ : ∀ pc : Cls (fun w' => DC wS w' a1 a2), pc.w.cell? ⟨g2, o2 + k * 4 + 1, none⟩ = some (.int .i64 y2.parts) := fun pc => (HC2.out _ (HWS.out.trans (pc.h.b.mono HWS.out.size))).2.1
            have hxct6_ : ∀ pc : Cls (fun w' => DC wS w' a1 a2), pc.w.cell? ⟨g2, o2 + k * 4 + 2, none⟩ = some (.int .i64 y2.off) := fun pc => (HC2.out _ (HWS.out.trans (pc.h.b.mono HWS.out.size))).2.2.1
            have hxct7_ : ∀ pc : Cls (fun w' => DC wS w' a1 a2), pc.w.cell? ⟨g2, o2 + k * 4 + 3, none⟩ = some (.int .i64 y2.total) := fun pc => (HC2.out _ (HWS.out.trans (pc.h.b.mono HWS.out.size))).2.2.2
            have htct := (fun w' (h : DC wS w' a1 a2) => (HT1.out w').mono (fun e w'' h' => (show e = .returned (.bool true) ∧ DC wS w'' a1 a2 from ⟨h'.1, h.step h'.2⟩)))
            refine wp_region_cls (fun w' => DC wS w' a1 a2) hmix (by kernel_rfl) (HD1.out.step ((Below.refl _ _).drew)) ?_
            repeat (quiet_step (first | (with_reducible exact cls_call htct _)))
            refine wpQuiet_nil ?_
            rintro w7ct ⟨⟨_, hw7⟩, rfl⟩
            try simp only []
            have H7 := Lib.hid hw7
            clear hw7 hnect hxct0_ hxct1_ hxct2_ hxct3_ hxct4_ hxct5_ hxct6_ hxct7_ htct
            have p0 : w7ct.cell? ⟨wS.heap.size, 0, none⟩ = some (.int .i64 a1) := H7.out.p.cell 0
            have pf := H7.out.p.frozen 0
            have H7' := Lib.hid (H7.out.one (a1 + 1))
            clear H7
            go_upto_region 17 with fail
            generalize w7ct.setCell ⟨wS.heap.size, 0, none⟩ (.int .i64 (a1 + 1)) = w8 at H7' ⊢
            clear p0 pf
            obtain ⟨x1, hx1⟩ : ∃ x, x = a1 + 1 := ⟨_, rfl⟩
            rw [← hx1] at H7'
            have HX1 : Hid (x1 = 1 + (cntE b1 y2 k (q + 1) : Nat)) := Lib.hid (by have := HDE.out.1; have h2 := HS2.out.1; simp only [if_true] at h2; omega)
            have hx2 : 1 ≤ x1 ∧ x1 ≤ 42 := by omega
            clear hx1
            cases B2
            · haveI hnedtf : Nonempty (Cls (fun w' => DC wS w' x1 a2)) := ⟨⟨_, (H7'.out.step ((Below.refl _ _).drew))⟩⟩
              have hxdtf0_ : ∀ pc : Cls (fun w' => DC wS w' x1 a2), pc.w.cell? ⟨g2, o2 + q * 4, none⟩ = some (.int .i64 z2.elements) := fun pc => (HC4.out _ (HWS.out.trans (pc.h.b.mono HWS.out.size))).1
              have hxdtf1_ : ∀ pc : Cls (fun w' => DC wS w' x1 a2), pc.w.cell? ⟨g2, o2 + q * 4 + 1, none⟩ = some (.int .i64 z2.parts) := fun pc => (HC4.out _ (HWS.out.trans (pc.h.b.mono HWS.out.size))).2.1
              have hxdtf2_ : ∀ pc : Cls (fun w' => DC wS w' x1 a2), pc.w.cell? ⟨g2, o2 + q * 4 + 2, none⟩ = some (.int .i64 z2.off) := fun pc => (HC4.out _ (HWS.out.trans (pc.h.b.mono HWS.out.size))).2.2.1
              have hxdtf3_ : ∀ pc : Cls (fun w' => DC wS w' x1 a2), pc.w.cell? ⟨g2, o2 + q * 4 + 3, none⟩ = some (.int .i64 z2.total) := fun pc => (HC4.out _ (HWS.out.trans (pc.h.b.mono HWS.out.size))).2.2.2
              have hxdtf4_ : ∀ pc : Cls (fun w' => DC wS w' x1 a2), pc.w.cell? ⟨g1, o1 + k * 4, none⟩ = some (.int .i64 y1.elements) := fun pc => (HC1.out _ (HWS.out.trans (pc.h.b.mono HWS.out.size))).1
              have hxdtf5_ : ∀ pc : Cls (fun w' => DC wS w' x1 a2), pc.w.cell? ⟨g1, o1 + k * 4 + 1, none⟩ = some (.int .i64 y1.parts) := fun pc => (HC1.out _ (HWS.out.trans (pc.h.b.mono HWS.out.size))).2.1
              have hxdtf6_ : ∀ pc : Cls (fun w' => DC wS w' x1 a2), pc.w.cell? ⟨g1, o1 + k * 4 + 2, none⟩ = some (.int .i64 y1.off) := fun pc => (HC1.out _ (HWS.out.trans (pc.h.b.mono HWS.out.size))).2.2.1
              have hxdtf7_ : ∀ pc : Cls (fun w' => DC wS w' x1 a2), pc.w.cell? ⟨g1, o1 + k * 4 + 3, none⟩ = some (.int .i64 y1.total) := fun pc => (HC1.out _ (HWS.out.trans (pc.h.b.mono HWS.out.size))).2.2.2
              have htdtf := (fun w' (h : DC wS w' x1 a2) => (HT2.out w').mono (fun e w'' h' => (show e = .returned (.bool false) ∧ DC wS w'' x1 a2 from ⟨h'.1, h.step h'.2⟩)))
              refine wp_region_cls (fun w' => DC wS w' x1 a2) hmix (by kernel_rfl) (H7'.out.step ((Below.refl _ _).drew)) ?_
              repeat (quiet_step (first | (with_reducible exact cls_call htdtf _)))
              refine wpQuiet_nil ?_
              rintro w7dtf ⟨⟨_, hw7⟩, rfl⟩
              try simp only []
              have H8 := Lib.hid hw7
              clear hw7 hnedtf hxdtf0_ hxdtf1_ hxdtf2_ hxdtf3_ hxdtf4_ hxdtf5_ hxdtf6_ hxdtf7_ htdtf
              have HX2 : Hid (a2 = 1 + (cntE b2 y1 k (q + 1) : Nat)) := Lib.hid (by have := HDE.out.2; have h2 := HS2.out.2; simp only [Bool.false_eq_true, if_false] at h2; omega)
              go_wp2_with fail
              go_roundg (l.length - (q + 1))
              case measure => omega
              case rel => exact ⟨q + 1, by omega, Nat.le_refl _, by go_num, x1, a2, Lib.hid ⟨H8.out, HX1.out, HX2.out⟩⟩
            · haveI hnedtt : Nonempty (Cls (fun w' => DC wS w' x1 a2)) := ⟨⟨_, (H7'.out.step ((Below.refl _ _).drew))⟩⟩
              have hxdtt0_ : ∀ pc : Cls (fun w' => DC wS w' x1 a2), pc.w.cell? ⟨g2, o2 + q * 4, none⟩ = some (.int .i64 z2.elements) := fun pc => (HC4.out _ (HWS.out.trans (pc.h.b.mono HWS.out.size))).1
              have hxdtt1_ : ∀ pc : Cls (fun w' => DC wS w' x1 a2), pc.w.cell? ⟨g2, o2 + q * 4 + 1, none⟩ = some (.int .i64 z2.parts) := fun pc => (HC4.out _ (HWS.out.trans (pc.h.b.mono HWS.out.size))).2.1
              have hxdtt2_ : ∀ pc : Cls (fun w' => DC wS w' x1 a2), pc.w.cell? ⟨g2, o2 + q * 4 + 2, none⟩ = some (.int .i64 z2.off) := fun pc => (HC4.out _ (HWS.out.trans (pc.h.b.mono HWS.out.size))).2.2.1
              have hxdtt3_ : ∀ pc : Cls (fun w' => DC wS w' x1 a2), pc.w.cell? ⟨g2, o2 + q * 4 + 3, none⟩ = some (.int .i64 z2.total) := fun pc => (HC4.out _ (HWS.out.trans (pc.h.b.mono HWS.out.size))).2.2.2
              have hxdtt4_ : ∀ pc : Cls (fun w' => DC wS w' x1 a2), pc.w.cell? ⟨g1, o1 + k * 4, none⟩ = some (.int .i64 y1.elements) := fun pc => (HC1.out _ (HWS.out.trans (pc.h.b.mono HWS.out.size))).1
              have hxdtt5_ : ∀ pc : Cls (fun w' => DC wS w' x1 a2), pc.w.cell? ⟨g1, o1 + k * 4 + 1, none⟩ = some (.int .i64 y1.parts) := fun pc => (HC1.out _ (HWS.out.trans (pc.h.b.mono HWS.out.size))).2.1
              have hxdtt6_ : ∀ pc : Cls (fun w' => DC wS w' x1 a2), pc.w.cell? ⟨g1, o1 + k * 4 + 2, none⟩ = some (.int .i64 y1.off) := fun pc => (HC1.out _ (HWS.out.trans (pc.h.b.mono HWS.out.size))).2.2.1
              have hxdtt7_ : ∀ pc : Cls (fun w' => DC wS w' x1 a2), pc.w.cell? ⟨g1, o1 + k * 4 + 3, none⟩ = some (.int .i64 y1.total) := fun pc => (HC1.out _ (HWS.out.trans (pc.h.b.mono HWS.out.size))).2.2.2
              have htdtt := (fun w' (h : DC wS w' x1 a2) => (HT2.out w').mono (fun e w'' h' => (show e = .returned (.bool true) ∧ DC wS w'' x1 a2 from ⟨h'.1, h.step h'.2⟩)))
              refine wp_region_cls (fun w' => DC wS w' x1 a2) hmix (by kernel_rfl) (H7'.out.step ((Below.refl _ _).drew)) ?_
              repeat (quiet_step (first | (with_reducible exact cls_call htdtt _)))
              refine wpQuiet_nil ?_
              rintro w7dtt ⟨⟨_, hw7⟩, rfl⟩
              try simp only []
              have H8 := Lib.hid hw7
              clear hw7 hnedtt hxdtt0_ hxdtt1_ hxdtt2_ hxdtt3_ hxdtt4_ hxdtt5_ hxdtt6_ hxdtt7_ htdtt
              have p0 : w7dtt.cell? ⟨wS.heap.size, 1, none⟩ = some (.int .i64 a2) := H8.out.p.cell 1
              have pf := H8.out.p.frozen 1
              have H9 := Lib.hid (H8.out.two (a2 + 1))
              clear H8
              have HX2 : Hid (a2 + 1 = 1 + (cntE b2 y1 k (q + 1) : Nat)) := Lib.hid (by have := HDE.out.2; have h2 := HS2.out.2; simp only [if_true] at h2; omega)
              go_wp2_with fail
              go_roundg (l.length - (q + 1))
              case measure => omega
              case rel => exact ⟨q + 1, by omega, Nat.le_refl _, by go_num, x1, a2 + 1, Lib.hid ⟨H9.out, HX1.out, HX2.out⟩⟩
    have hlt2 : (k : Int) < l.length := by omega
    obtain ⟨g, o, AC, AP, cc, cp, hg, hgs, hc, hsk⟩ := HRS.out.2 k hlt
    have HSK := Lib.hid hsk
    have HXM := Lib.hid (List.getElem_mem hlt)
    have HNX : Hid ((l.take (k + 1)).map (wsc r j) = (l.take k).map (wsc r j) ++ [wsc r j l[k]] ∧ (l.take (k + 1)).map (bsc r j) = (l.take k).map (bsc r j) ++ [bsc r j l[k]]) := Lib.hid (by rw [List.take_succ_eq_append_getElem hlt, List.map_append, List.map_append]; exact ⟨rfl, rfl⟩)
    have hbl1 : b1.length ≤ 40 := by rw [HW.out.2.1]; simp; omega
    have hbl2 : b2.length ≤ 40 := by rw [HW.out.2.2]; simp; omega
    obtain ⟨x, hx⟩ : ∃ x, x = l[k] := ⟨_, rfl⟩
    rw [← hx] at hc HSK HXM HNX
    have HKP : Hid (∀ w', Below W.heap.size W w' ∧ Has w' W.heap.size 24 (ruc r A c) → w'.cell? ⟨W.heap.size, 0, none⟩ = some (.slice A r.bases.length c) ∧ w'.cell? ⟨W.heap.size, 1, none⟩ = some (.int .i64 r.factor) ∧ w'.cell? ⟨W.heap.size, 2, none⟩ = some (.int .i64 r.most) ∧ w'.cell? ⟨g, o + k * 3, none⟩ = some (.slice AC x.calls.length cc) ∧ w'.cell? ⟨g, o + k * 3 + 1, none⟩ = some (.slice AP x.parts.length cp) ∧ w'.cell? ⟨g, o + k * 3 + 2, none⟩ = some (.int .i64 x.over)) := Lib.hid fun w' h => ⟨h.2.cell 0, h.2.cell 1, h.2.cell 2, (h.1.cell (p := ⟨g, _, none⟩) hgs).trans (hc 0 (by omega)), (h.1.cell (p := ⟨g, _, none⟩) hgs).trans (hc 1 (by omega)), (h.1.cell (p := ⟨g, _, none⟩) hgs).trans (hc 2 (by omega))⟩
    have HPW := Lib.hid (fun AC AP cc cp w hb hsk => HDP.out x HXM.out (-5) 0 (by omega) AC AP cc cp w hb hsk)
    have HPB := Lib.hid (fun AC AP cc cp w hb hsk => HDP.out x HXM.out 5 40 (by omega) AC AP cc cp w hb hsk)
    obtain ⟨xw, hxw⟩ : ∃ y, y = wsc r j x := ⟨_, rfl⟩
    obtain ⟨xb, hxb⟩ : ∃ y, y = bsc r j x := ⟨_, rfl⟩
    rw [← hxw, ← hxb] at HNX
    rw [show progP r (markP x j (-5) 0) = xw from hxw.symm] at HPW
    rw [show progP r (markP x j 5 40) = xb from hxb.symm] at HPB
    subst hg
    have H1 := Lib.hid HW.out.1
    have HWE := Lib.hid HW.out.2
    clear hgs hc hsk hx hxw hxb HW hk HDP
    go_upto_region 5 with fail
    have H2 : Hid (DS W wr.drew r A c (.slice V1 b1.length c1) (.slice V2 b2.length c2) b1 b2) := Lib.hid (H1.out.step ((Below.refl _ _).drew))
    have K2 : Hid (wr.drew.cell? ⟨W.heap.size, 0, none⟩ = some (.slice A r.bases.length c) ∧ wr.drew.cell? ⟨W.heap.size, 1, none⟩ = some (.int .i64 r.factor) ∧ wr.drew.cell? ⟨W.heap.size, 2, none⟩ = some (.int .i64 r.most) ∧ wr.drew.cell? ⟨g, o + k * 3, none⟩ = some (.slice AC x.calls.length cc) ∧ wr.drew.cell? ⟨g, o + k * 3 + 1, none⟩ = some (.slice AP x.parts.length cp) ∧ wr.drew.cell? ⟨g, o + k * 3 + 2, none⟩ = some (.int .i64 x.over)) := Lib.hid (HKP.out _ ⟨H2.out.b, H2.out.fr⟩)
    clear H1
    refine wp_region_late (fun w' : World => w'.cell? ⟨W.heap.size, 0, none⟩ = some (.slice A r.bases.length c) ∧ w'.cell? ⟨W.heap.size, 1, none⟩ = some (.int .i64 r.factor) ∧ w'.cell? ⟨W.heap.size, 2, none⟩ = some (.int .i64 r.most) ∧ w'.cell? ⟨g, o + k * 3, none⟩ = some (.slice AC x.calls.length cc) ∧ w'.cell? ⟨g, o + k * 3 + 1, none⟩ = some (.slice AP x.parts.length cp) ∧ w'.cell? ⟨g, o + k * 3 + 2, none⟩ = some (.int .i64 x.over)) [] (by kernel_rfl) ?_
    generalize wr.drew = w2 at H2 K2 ⊢
    refine wpLate_take (i := 0) (oi := ?oi0p_) (v := ?v0p_) [10, 11] ?hi0p_ (by kernel_rfl) (by kernel_rfl) (by kernel_rfl) (by kernel_rfl) (by kernel_rfl) ?hQ0p_ (Or.inl ⟨?hw0p_, ?hy0p_⟩) K2.out ?rest0p_
    case hi0p_ => (simp only [List.getElem?_toArray, List.getElem?_cons_zero]; rfl)
    case hQ0p_ => exact fun _ _ _ h => h
    case hw0p_ => rfl
    case hy0p_ =>
      intro w' hSw
      obtain ⟨r0, r1, r2, r3, r4, r5⟩ := hSw
      go_simp
      try exact rfl
    try simp only [Act.put, List.setIfInBounds_toArray, List.set_cons_zero, List.set_cons_succ]
    refine wpLate_take (i := 1) (oi := ?oi1p_) (v := ?v1p_) [8, 9, 10, 11] ?hi1p_ (by kernel_rfl) (by kernel_rfl) (by kernel_rfl) (by kernel_rfl) (by kernel_rfl) ?hQ1p_ (Or.inl ⟨?hw1p_, ?hy1p_⟩) K2.out ?rest1p_
    case hi1p_ => (simp only [List.getElem?_toArray, List.getElem?_cons_zero, List.getElem?_cons_succ]; rfl)
    case hQ1p_ => exact fun _ _ _ h => h
    case hw1p_ => rfl
    case hy1p_ =>
      intro w' hSw
      obtain ⟨r0, r1, r2, r3, r4, r5⟩ := hSw
      go_simp
      try exact rfl
    try simp only [Act.put, List.setIfInBounds_toArray, List.set_cons_zero, List.set_cons_succ]
    refine wpLate_take (i := 2) (oi := ?oi2p_) (v := ?v2p_) [4, 5, 7, 8, 9, 10, 11] ?hi2p_ (by kernel_rfl) (by kernel_rfl) (by kernel_rfl) (by kernel_rfl) (by kernel_rfl) ?hQ2p_ (Or.inl ⟨?hw2p_, ?hy2p_⟩) K2.out ?rest2p_
    case hi2p_ => (simp only [List.getElem?_toArray, List.getElem?_cons_zero, List.getElem?_cons_succ]; rfl)
    case hQ2p_ => exact fun _ _ _ h => h
    case hw2p_ => rfl
    case hy2p_ =>
      intro w' hSw
      obtain ⟨r0, r1, r2, r3, r4, r5⟩ := hSw
      go_simp
      try exact rfl
    try simp only [Act.put, List.setIfInBounds_toArray, List.set_cons_zero, List.set_cons_succ]
    refine wpLate_take (i := 3) (oi := ?oi3p_) (v := ?v3p_) [4, 5, 7, 8, 9, 10, 11] ?hi3p_ (by kernel_rfl) (by kernel_rfl) (by kernel_rfl) (by kernel_rfl) (by kernel_rfl) ?hQ3p_ (Or.inl ⟨?hw3p_, ?hy3p_⟩) K2.out ?rest3p_
    case hi3p_ => (simp only [List.getElem?_toArray, List.getElem?_cons_zero, List.getElem?_cons_succ]; rfl)
    case hQ3p_ => exact fun _ _ _ h => h
    case hw3p_ => rfl
    case hy3p_ =>
      intro w' hSw
      obtain ⟨r0, r1, r2, r3, r4, r5⟩ := hSw
      go_simp
      try exact rfl
    try simp only [Act.put, List.setIfInBounds_toArray, List.set_cons_zero, List.set_cons_succ]
    refine wpLate_take (i := 4) (oi := ?oi4p_) (v := ?v4p_) [5, 7, 8, 9, 10, 11] ?hi4p_ (by kernel_rfl) (by kernel_rfl) (by kernel_rfl) (by kernel_rfl) (by kernel_rfl) ?hQ4p_ (Or.inl ⟨?hw4p_, ?hy4p_⟩) K2.out ?rest4p_
    case hi4p_ => (simp only [List.getElem?_toArray, List.getElem?_cons_zero, List.getElem?_cons_succ]; rfl)
    case hQ4p_ => exact fun _ _ _ h => h
    case hw4p_ => rfl
    case hy4p_ =>
      intro w' hSw
      obtain ⟨r0, r1, r2, r3, r4, r5⟩ := hSw
      go_simp
      try exact rfl
    try simp only [Act.put, List.setIfInBounds_toArray, List.set_cons_zero, List.set_cons_succ]
    refine wpLate_take (i := 5) (oi := ?oi5p_) (v := ?v5p_) [7, 8, 9, 10, 11] ?hi5p_ (by kernel_rfl) (by kernel_rfl) (by kernel_rfl) (by kernel_rfl) (by kernel_rfl) ?hQ5p_ (Or.inl ⟨?hw5p_, ?hy5p_⟩) K2.out ?rest5p_
    case hi5p_ => (simp only [List.getElem?_toArray, List.getElem?_cons_zero, List.getElem?_cons_succ]; rfl)
    case hQ5p_ => exact fun _ _ _ h => h
    case hw5p_ => rfl
    case hy5p_ =>
      intro w' hSw
      obtain ⟨r0, r1, r2, r3, r4, r5⟩ := hSw
      go_simp
      try exact rfl
    try simp only [Act.put, List.setIfInBounds_toArray, List.set_cons_zero, List.set_cons_succ]
    refine wpLate_take (i := 6) (oi := ?oi6p_) (v := ?v6p_) [7, 8, 9, 10, 11] ?hi6p_ (by kernel_rfl) (by kernel_rfl) (by kernel_rfl) (by kernel_rfl) (by kernel_rfl) ?hQ6p_ (Or.inl ⟨?hw6p_, ?hy6p_⟩) K2.out ?rest6p_
    case hi6p_ => (simp only [List.getElem?_toArray, List.getElem?_cons_zero, List.getElem?_cons_succ]; rfl)
    case hQ6p_ => exact fun _ _ _ h => h
    case hw6p_ => rfl
    case hy6p_ =>
      intro w' hSw
      obtain ⟨r0, r1, r2, r3, r4, r5⟩ := hSw
      go_simp
      try exact rfl
    try simp only [Act.put, List.setIfInBounds_toArray, List.set_cons_zero, List.set_cons_succ]
    refine wpLate_one (i := 7) (o := ?o7p_) (by kernel_rfl) ?ho7p_ ?hk7p_
    case ho7p_ => (simp only [List.getElem?_toArray, List.getElem?_cons_zero, List.getElem?_cons_succ]; rfl)
    intro K hK
    go_simp
    refine (HAL.out x HXM.out AC AP cc cp (-5) 0 _ ((HSK.out.below H2.out.b).more H2.out.b.size)).mono ?_
    rintro e w3 ⟨BC, BP, bc, bp, rfl, hsk9, hb9⟩
    have H3p := Lib.hid (And.intro (H2.out.step hb9) hsk9)
    clear hsk9 hb9
    go_simp
    refine hK.out _ _ (fun h => HKP.out _ ⟨H3p.out.1.b, H3p.out.1.fr⟩) ?_
    clear hK K
    try simp only [Act.put, List.setIfInBounds_toArray, List.set_cons_zero, List.set_cons_succ]
    refine wpLate_one (i := 8) (o := ?o8p_) (by kernel_rfl) ?ho8p_ ?hk8p_
    case ho8p_ => (simp only [List.getElem?_toArray, List.getElem?_cons_zero, List.getElem?_cons_succ]; rfl)
    intro K hK
    go_simp
    refine (HPW.out BC BP bc bp _ H3p.out.1.b H3p.out.2).mono ?_
    rintro e w4 ⟨rfl, hb9⟩
    have H4p := Lib.hid (H3p.out.1.step hb9)
    clear hb9
    go_simp
    refine hK.out _ _ (fun h => HKP.out _ ⟨H4p.out.b, H4p.out.fr⟩) ?_
    clear hK K
    try simp only [Act.put, List.setIfInBounds_toArray, List.set_cons_zero, List.set_cons_succ]
    refine wpLate_one (i := 9) (o := ?o9p_) (by kernel_rfl) ?ho9p_ ?hk9p_
    case ho9p_ => (simp only [List.getElem?_toArray, List.getElem?_cons_zero, List.getElem?_cons_succ]; rfl)
    intro K hK
    go_simp
    have H5p : Hid (DS W (w4.alloc (.cells (scc xw) 33)) r A c (.slice V1 b1.length c1) (.slice V2 b2.length c2) (b1) (b2) ∧ Has (w4.alloc (.cells (scc xw) 33)) w4.heap.size 33 (scc xw)) := Lib.hid ⟨H4p.out.step (below_one _ _), Has.new _ _ _⟩
    generalize w4.alloc (.cells (scc xw) 33) = w5 at H5p ⊢
    generalize w4.heap.size = Gp at H5p ⊢
    refine hK.out _ _ (fun h => HKP.out _ ⟨H5p.out.1.b, H5p.out.1.fr⟩) ?_
    clear hK K
    try simp only [Act.put, List.setIfInBounds_toArray, List.set_cons_zero, List.set_cons_succ]
    refine wpLate_one (i := 10) (o := ?o10p_) (by kernel_rfl) ?ho10p_ ?hk10p_
    case ho10p_ => (simp only [List.getElem?_toArray, List.getElem?_cons_zero, List.getElem?_cons_succ]; rfl)
    intro K hK
    refine step_append_lies _ rfl (.tmp 20) (.tmp 29) 41 rfl (W.heap.size + 1) 33 i0 (.agg #[.int .i64 0, .int .i64 0, .int .i64 0, .int .i64 0]) 4 32 Try.underlying41 hi hz0 hz1 hz2 rfl (by decide) (.slice V1 b1.length c1) b1.length (nvl scc (b1)) rfl H5p.out.1.t.o1 ⟨Gp, 0, none⟩ 1 1 (nvl scc [xw]) rfl ?r1p (sc_new H5p.out.2) (nvl_one scc_one _) ?r2p ?r3p ?r4p ?r5p _ rfl ?_
    case r1p => rfl
    case r2p => omega
    case r3p => unfold maxLen; omega
    case r4p => omega
    case r5p => exact H5p.out.1.fr.lt
    intro g6 cap6 w6 hown hgr hgb hlt9
    have H6 := Lib.hid (H5p.out.1.app1 (x := xw) rfl hown hgr hgb)
    clear hown hgr hgb hlt9
    refine hK.out _ _ (fun h => HKP.out _ ⟨H6.out.b, H6.out.fr⟩) ?_
    clear hK K
    try simp only [Act.put, List.setIfInBounds_toArray, List.set_cons_zero, List.set_cons_succ]
    refine wpLate_one (i := 11) (o := ?o11p_) (by kernel_rfl) ?ho11p_ ?hk11p_
    case ho11p_ => (simp only [List.getElem?_toArray, List.getElem?_cons_zero, List.getElem?_cons_succ]; rfl)
    intro K hK
    go_simp
    refine hK.out _ _ (fun h => HKP.out _ ⟨H6.out.b, H6.out.fr⟩) ?_
    clear hK K
    try simp only [Act.put, List.setIfInBounds_toArray, List.set_cons_zero, List.set_cons_succ]
    refine wpLate_done (by kernel_rfl) ?_ _
    try simp only [Act.put, List.setIfInBounds_toArray, List.set_cons_zero, List.set_cons_succ]
    go_upto_region 6 with fail
    have H5' : Hid (DS W w6.drew r A c (.slice (some ⟨g6, 0, none⟩) (b1.length + 1) cap6) (.slice V2 b2.length c2) (b1 ++ [xw]) b2) := Lib.hid (H6.out.step ((Below.refl _ _).drew))
    have K5' : Hid (w6.drew.cell? ⟨W.heap.size, 0, none⟩ = some (.slice A r.bases.length c) ∧ w6.drew.cell? ⟨W.heap.size, 1, none⟩ = some (.int .i64 r.factor) ∧ w6.drew.cell? ⟨W.heap.size, 2, none⟩ = some (.int .i64 r.most) ∧ w6.drew.cell? ⟨g, o + k * 3, none⟩ = some (.slice AC x.calls.length cc) ∧ w6.drew.cell? ⟨g, o + k * 3 + 1, none⟩ = some (.slice AP x.parts.length cp) ∧ w6.drew.cell? ⟨g, o + k * 3 + 2, none⟩ = some (.int .i64 x.over)) := Lib.hid (HKP.out _ ⟨H5'.out.b, H5'.out.fr⟩)
    clear H6
    refine wp_region_late (fun w' : World => w'.cell? ⟨W.heap.size, 0, none⟩ = some (.slice A r.bases.length c) ∧ w'.cell? ⟨W.heap.size, 1, none⟩ = some (.int .i64 r.factor) ∧ w'.cell? ⟨W.heap.size, 2, none⟩ = some (.int .i64 r.most) ∧ w'.cell? ⟨g, o + k * 3, none⟩ = some (.slice AC x.calls.length cc) ∧ w'.cell? ⟨g, o + k * 3 + 1, none⟩ = some (.slice AP x.parts.length cp) ∧ w'.cell? ⟨g, o + k * 3 + 2, none⟩ = some (.int .i64 x.over)) [] (by kernel_rfl) ?_
    generalize w6.drew = w7 at H5' K5' ⊢
    refine wpLate_take (i := 0) (oi := ?oi0q_) (v := ?v0q_) [10, 11] ?hi0q_ (by kernel_rfl) (by kernel_rfl) (by kernel_rfl) (by kernel_rfl) (by kernel_rfl) ?hQ0q_ (Or.inl ⟨?hw0q_, ?hy0q_⟩) K5'.out ?rest0q_
    case hi0q_ => (simp only [List.getElem?_toArray, List.getElem?_cons_zero]; rfl)
    case hQ0q_ => exact fun _ _ _ h => h
    case hw0q_ => rfl
    case hy0q_ =>
      intro w' hSw
      obtain ⟨r0, r1, r2, r3, r4, r5⟩ := hSw
      go_simp
      try exact rfl
    try simp only [Act.put, List.setIfInBounds_toArray, List.set_cons_zero, List.set_cons_succ]
    refine wpLate_take (i := 1) (oi := ?oi1q_) (v := ?v1q_) [8, 9, 10, 11] ?hi1q_ (by kernel_rfl) (by kernel_rfl) (by kernel_rfl) (by kernel_rfl) (by kernel_rfl) ?hQ1q_ (Or.inl ⟨?hw1q_, ?hy1q_⟩) K5'.out ?rest1q_
    case hi1q_ => (simp only [List.getElem?_toArray, List.getElem?_cons_zero, List.getElem?_cons_succ]; rfl)
    case hQ1q_ => exact fun _ _ _ h => h
    case hw1q_ => rfl
    case hy1q_ =>
      intro w' hSw
      obtain ⟨r0, r1, r2, r3, r4, r5⟩ := hSw
      go_simp
      try exact rfl
    try simp only [Act.put, List.setIfInBounds_toArray, List.set_cons_zero, List.set_cons_succ]
    refine wpLate_take (i := 2) (oi := ?oi2q_) (v := ?v2q_) [4, 5, 7, 8, 9, 10, 11] ?hi2q_ (by kernel_rfl) (by kernel_rfl) (by kernel_rfl) (by kernel_rfl) (by kernel_rfl) ?hQ2q_ (Or.inl ⟨?hw2q_, ?hy2q_⟩) K5'.out ?rest2q_
    case hi2q_ => (simp only [List.getElem?_toArray, List.getElem?_cons_zero, List.getElem?_cons_succ]; rfl)
    case hQ2q_ => exact fun _ _ _ h => h
    case hw2q_ => rfl
    case hy2q_ =>
      intro w' hSw
      obtain ⟨r0, r1, r2, r3, r4, r5⟩ := hSw
      go_simp
      try exact rfl
    try simp only [Act.put, List.setIfInBounds_toArray, List.set_cons_zero, List.set_cons_succ]
    refine wpLate_take (i := 3) (oi := ?oi3q_) (v := ?v3q_) [4, 5, 7, 8, 9, 10, 11] ?hi3q_ (by kernel_rfl) (by kernel_rfl) (by kernel_rfl) (by kernel_rfl) (by kernel_rfl) ?hQ3q_ (Or.inl ⟨?hw3q_, ?hy3q_⟩) K5'.out ?rest3q_
    case hi3q_ => (simp only [List.getElem?_toArray, List.getElem?_cons_zero, List.getElem?_cons_succ]; rfl)
    case hQ3q_ => exact fun _ _ _ h => h
    case hw3q_ => rfl
    case hy3q_ =>
      intro w' hSw
      obtain ⟨r0, r1, r2, r3, r4, r5⟩ := hSw
      go_simp
      try exact rfl
    try simp only [Act.put, List.setIfInBounds_toArray, List.set_cons_zero, List.set_cons_succ]
    refine wpLate_take (i := 4) (oi := ?oi4q_) (v := ?v4q_) [5, 7, 8, 9, 10, 11] ?hi4q_ (by kernel_rfl) (by kernel_rfl) (by kernel_rfl) (by kernel_rfl) (by kernel_rfl) ?hQ4q_ (Or.inl ⟨?hw4q_, ?hy4q_⟩) K5'.out ?rest4q_
    case hi4q_ => (simp only [List.getElem?_toArray, List.getElem?_cons_zero, List.getElem?_cons_succ]; rfl)
    case hQ4q_ => exact fun _ _ _ h => h
    case hw4q_ => rfl
    case hy4q_ =>
      intro w' hSw
      obtain ⟨r0, r1, r2, r3, r4, r5⟩ := hSw
      go_simp
      try exact rfl
    try simp only [Act.put, List.setIfInBounds_toArray, List.set_cons_zero, List.set_cons_succ]
    refine wpLate_take (i := 5) (oi := ?oi5q_) (v := ?v5q_) [7, 8, 9, 10, 11] ?hi5q_ (by kernel_rfl) (by kernel_rfl) (by kernel_rfl) (by kernel_rfl) (by kernel_rfl) ?hQ5q_ (Or.inl ⟨?hw5q_, ?hy5q_⟩) K5'.out ?rest5q_
    case hi5q_ => (simp only [List.getElem?_toArray, List.getElem?_cons_zero, List.getElem?_cons_succ]; rfl)
    case hQ5q_ => exact fun _ _ _ h => h
    case hw5q_ => rfl
    case hy5q_ =>
      intro w' hSw
      obtain ⟨r0, r1, r2, r3, r4, r5⟩ := hSw
      go_simp
      try exact rfl
    try simp only [Act.put, List.setIfInBounds_toArray, List.set_cons_zero, List.set_cons_succ]
    refine wpLate_take (i := 6) (oi := ?oi6q_) (v := ?v6q_) [7, 8, 9, 10, 11] ?hi6q_ (by kernel_rfl) (by kernel_rfl) (by kernel_rfl) (by kernel_rfl) (by kernel_rfl) ?hQ6q_ (Or.inl ⟨?hw6q_, ?hy6q_⟩) K5'.out ?rest6q_
    case hi6q_ => (simp only [List.getElem?_toArray, List.getElem?_cons_zero, List.getElem?_cons_succ]; rfl)
    case hQ6q_ => exact fun _ _ _ h => h
    case hw6q_ => rfl
    case hy6q_ =>
      intro w' hSw
      obtain ⟨r0, r1, r2, r3, r4, r5⟩ := hSw
      go_simp
      try exact rfl
    try simp only [Act.put, List.setIfInBounds_toArray, List.set_cons_zero, List.set_cons_succ]
    refine wpLate_one (i := 7) (o := ?o7q_) (by kernel_rfl) ?ho7q_ ?hk7q_
    case ho7q_ => (simp only [List.getElem?_toArray, List.getElem?_cons_zero, List.getElem?_cons_succ]; rfl)
    intro K hK
    go_simp
    refine (HAL.out x HXM.out AC AP cc cp (5) 40 _ ((HSK.out.below H5'.out.b).more H5'.out.b.size)).mono ?_
    rintro e w8 ⟨BC, BP, bc, bp, rfl, hsk9, hb9⟩
    have H3q := Lib.hid (And.intro (H5'.out.step hb9) hsk9)
    clear hsk9 hb9
    go_simp
    refine hK.out _ _ (fun h => HKP.out _ ⟨H3q.out.1.b, H3q.out.1.fr⟩) ?_
    clear hK K
    try simp only [Act.put, List.setIfInBounds_toArray, List.set_cons_zero, List.set_cons_succ]
    refine wpLate_one (i := 8) (o := ?o8q_) (by kernel_rfl) ?ho8q_ ?hk8q_
    case ho8q_ => (simp only [List.getElem?_toArray, List.getElem?_cons_zero, List.getElem?_cons_succ]; rfl)
    intro K hK
    go_simp
    refine (HPB.out BC BP bc bp _ H3q.out.1.b H3q.out.2).mono ?_
    rintro e w10 ⟨rfl, hb9⟩
    have H4q := Lib.hid (H3q.out.1.step hb9)
    clear hb9
    go_simp
    refine hK.out _ _ (fun h => HKP.out _ ⟨H4q.out.b, H4q.out.fr⟩) ?_
    clear hK K
    try simp only [Act.put, List.setIfInBounds_toArray, List.set_cons_zero, List.set_cons_succ]
    refine wpLate_one (i := 9) (o := ?o9q_) (by kernel_rfl) ?ho9q_ ?hk9q_
    case ho9q_ => (simp only [List.getElem?_toArray, List.getElem?_cons_zero, List.getElem?_cons_succ]; rfl)
    intro K hK
    go_simp
    have H5q : Hid (DS W (w10.alloc (.cells (scc xb) 33)) r A c (.slice (some ⟨g6, 0, none⟩) (b1.length + 1) cap6) (.slice V2 b2.length c2) (b1 ++ [xw]) (b2) ∧ Has (w10.alloc (.cells (scc xb) 33)) w10.heap.size 33 (scc xb)) := Lib.hid ⟨H4q.out.step (below_one _ _), Has.new _ _ _⟩
    generalize w10.alloc (.cells (scc xb) 33) = w11 at H5q ⊢
    generalize w10.heap.size = Gq at H5q ⊢
    refine hK.out _ _ (fun h => HKP.out _ ⟨H5q.out.1.b, H5q.out.1.fr⟩) ?_
    clear hK K
    try simp only [Act.put, List.setIfInBounds_toArray, List.set_cons_zero, List.set_cons_succ]
    refine wpLate_one (i := 10) (o := ?o10q_) (by kernel_rfl) ?ho10q_ ?hk10q_
    case ho10q_ => (simp only [List.getElem?_toArray, List.getElem?_cons_zero, List.getElem?_cons_succ]; rfl)
    intro K hK
    refine step_append_lies _ rfl (.tmp 31) (.tmp 40) 41 rfl (W.heap.size + 1) 33 i0 (.agg #[.int .i64 0, .int .i64 0, .int .i64 0, .int .i64 0]) 4 32 Try.underlying41 hi hz0 hz1 hz2 rfl (by decide) (.slice V2 b2.length c2) b2.length (nvl scc (b2)) rfl H5q.out.1.t.o2 ⟨Gq, 0, none⟩ 1 1 (nvl scc [xb]) rfl ?r1q (sc_new H5q.out.2) (nvl_one scc_one _) ?r2q ?r3q ?r4q ?r5q _ rfl ?_
    case r1q => rfl
    case r2q => omega
    case r3q => unfold maxLen; omega
    case r4q => omega
    case r5q => exact H5q.out.1.fr.lt
    intro g9 cap9 w12 hown hgr hgb hlt9
    have H9 := Lib.hid (H5q.out.1.app2 (x := xb) rfl hown hgr hgb)
    clear hown hgr hgb hlt9
    refine hK.out _ _ (fun h => HKP.out _ ⟨H9.out.b, H9.out.fr⟩) ?_
    clear hK K
    try simp only [Act.put, List.setIfInBounds_toArray, List.set_cons_zero, List.set_cons_succ]
    refine wpLate_one (i := 11) (o := ?o11q_) (by kernel_rfl) ?ho11q_ ?hk11q_
    case ho11q_ => (simp only [List.getElem?_toArray, List.getElem?_cons_zero, List.getElem?_cons_succ]; rfl)
    intro K hK
    go_simp
    refine hK.out _ _ (fun h => HKP.out _ ⟨H9.out.b, H9.out.fr⟩) ?_
    clear hK K
    try simp only [Act.put, List.setIfInBounds_toArray, List.set_cons_zero, List.set_cons_succ]
    refine wpLate_done (by kernel_rfl) ?_ _
    try simp only [Act.put, List.setIfInBounds_toArray, List.set_cons_zero, List.set_cons_succ]
    go_wp2_with fail
    go_roundg (l.length - (k + 1))
    case measure => omega
    case rel => exact ⟨k + 1, by omega, Nat.le_refl _, by go_num, b1 ++ [xw], b2 ++ [xb], some ⟨g6, 0, none⟩, cap6, some ⟨g9, 0, none⟩, cap9, by simp, by simp, Lib.hid ⟨by simpa using H9.out, by rw [HNX.out.1, HWE.out.1], by rw [HNX.out.2, HWE.out.2]⟩⟩
end Go.Proofs.Ytmclchaalmonnaa
namespace Go.Proofs.Ytmclchaalmonnaa
open Go.RowKit Go.Lib
attribute [local irreducible] wpQuiet
/-- the box of the rules -/
structure R1 (W w : World) (r : Ru) (A : Option Addr) (c : Nat) : Prop where
  b : Below W.heap.size W w
  fr : Has w W.heap.size 24 (ruc r A c)
theorem R1.step {W w w' : World} {r : Ru} {A : Option Addr} {c : Nat} (h : R1 W w r A c) (hb : Below w.heap.size w w') : R1 W w' r A c := ⟨h.b.trans (hb.mono h.b.size), h.fr.below hb h.fr.lt⟩
def QEPost (r : List Sp × Int) (W : World) (e : Ending) (W' : World) : Prop := ∃ A c, e = .returned (.tuple #[.slice A r.1.length c, .int .i64 r.2]) ∧ QRow W' W'.heap.size A (r.1.map spp) ∧ Below W.heap.size W W'
theorem in_jd (l : List Sk) (j : Int) : inB j 0 (jdP l - 1) = inB j 0 ((nP l : Int) - 1) := by
  unfold jdP nP
  cases judgesP l with
  | none =>
    have h1 : inB j 0 (-1 - 1) = false := by simp [inB]; omega
    have h2 : inB j 0 ((((none : Option Nat).getD 0 : Nat) : Int) - 1) = false := by simp [inB]; omega
    rw [h2]; exact h1
  | some n => rfl
theorem jd_bd {r : Ru} {l : List Sk} (h : contestB r l = true) : -1 ≤ jdP l ∧ jdP l ≤ 9 := by
  have h1 := np_le h
  unfold jdP
  unfold nP at h1
  cases hp : judgesP l with
  | none => simp
  | some n => rw [hp] at h1; simp at h1 ⊢; omega
theorem jd_lt (l : List Sk) (q : Nat) : (q : Int) < jdP l ↔ q < nP l := by
  unfold jdP nP
  cases judgesP l with
  | none => simp <;> omega
  | some n => simp
theorem insp_ct {r : Ru} {l : List Sk} (h : ¬ 40 < l.length) (hc : contestB r l = true) : inspP r l = ((nP l : Int), 0) := by
  unfold inspP; rw [if_neg h, if_pos hc]
theorem insp_no {r : Ru} {l : List Sk} (h : ¬ 40 < l.length) (hc : contestB r l = false) : inspP r l = (0, 1) := by
  unfold inspP; rw [if_neg h, if_neg (by simp [hc])]
theorem insp_long {r : Ru} {l : List Sk} (h : 40 < l.length) : inspP r l = (0, 3) := by
  unfold inspP; rw [if_pos h]
set_option maxRecDepth 100000 in
set_option maxHeartbeats 2000000 in
theorem Dswing_any (r : Ru) (A : Option Addr) (c : Nat) (l : List Sk) (L : Option Addr) (k0 : Nat) (j : Int) (W : World) (hr : RuR W W.heap.size r A) (hs : SRow W W.heap.size L l) (hl : l.length ≤ big) :
    Calls Try.prog 22 #[ruv r A c, .slice L l.length k0, .int .i64 j] W (QEPost (swingR r l j) W) := by
  have HB : Hid (R1 W (W.alloc (.cells (ruc r A c) 24)) r A c) := Lib.hid ⟨below_one _ _, Has.new _ _ _⟩
  have HX : Hid (swingR r l j = if (inspP r l).2 ≠ 0 then ([], (inspP r l).2) else if inB j 0 ((inspP r l).1 - 1) then (swingP r l j.toNat, 0) else ([], 2)) := Lib.hid rfl
  have HCT := Lib.hid (fun w (h : Below W.heap.size W w) => Contest_any r A c l L k0 w ((hr.below h).more h.size) ((hs.below h).more h.size) hl)
  have HJD := Lib.hid (fun w (h : Below W.heap.size W w) => Judges_any l L k0 w ((hs.below h).more h.size) hl)
  have HSW := Lib.hid (fun (jn : Nat) w (h : Below W.heap.size W w) h40 hct hj => dswing_any r A c l L k0 jn w ((hr.below h).more h.size) ((hs.below h).more h.size) h40 hct hj)
  have hrl := hr.l
  unfold big at hl hrl
  obtain ⟨X, hX⟩ : ∃ X, X = swingR r l j := ⟨_, rfl⟩
  rw [← hX] at HX ⊢
  unfold BoolPost at HCT
  unfold IntPost at HJD
  unfold DSwPost at HSW
  clear hr hs hX
  unfold ruv at *
  by_cases h40 : 40 < l.length
  · have HE : Hid (X = ([], 3)) := Lib.hid (by rw [HX.out, insp_long h40]; rfl)
    have h4 : (40 : Int) < l.length := by omega
    clear HX HCT HJD HSW
    go_enter Try.func22, Try.ntmps22
    go_upto_region 1 with fail
    generalize W.alloc (.cells (ruc r A c) 24) = w0 at HB ⊢
    go_wp2_with fail
    refine bodyPost_ret (v := .tuple #[.slice none 0 0, .int .i64 3]) (by simp [results, Try.results22, go_sem]) rfl ?_
    exact ⟨none, 0, by rw [HE.out]; rfl, fun k hk => by rw [HE.out] at hk; exact absurd hk (by simp), HB.out.b⟩
  have h4 : ¬ (40 : Int) < l.length := by omega
  obtain ⟨ct, hct⟩ : ∃ b, b = contestB r l := ⟨_, rfl⟩
  rw [← hct] at HCT
  have HH := Lib.hid hct
  clear hct
  go_enter Try.func22, Try.ntmps22
  go_upto_region 1 with fail
  generalize W.alloc (.cells (ruc r A c) 24) = w0 at HB ⊢
  have x0 : w0.cell? ⟨W.heap.size, 0, none⟩ = some (.slice A r.bases.length c) := HB.out.fr.cell 0
  have x1 : w0.cell? ⟨W.heap.size, 1, none⟩ = some (.int .i64 r.factor) := HB.out.fr.cell 1
  have x2 : w0.cell? ⟨W.heap.size, 2, none⟩ = some (.int .i64 r.most) := HB.out.fr.cell 2
  go_wp2_with fail
  refine (HCT.out _ HB.out.b).mono ?_
  rintro e w1 ⟨rfl, hb1⟩
  have H1 := Lib.hid (HB.out.step hb1)
  clear hb1 x0 x1 x2 HB HCT
  cases ct
  · have HE : Hid (X = ([], 1)) := Lib.hid (by rw [HX.out, insp_no h40 HH.out.symm]; rfl)
    clear HX HJD HSW
    go_wp2_with fail
    refine bodyPost_ret (v := .tuple #[.slice none 0 0, .int .i64 1]) (by simp [results, Try.results22, go_sem]) rfl ?_
    exact ⟨none, 0, by rw [HE.out]; rfl, fun k hk => by rw [HE.out] at hk; exact absurd hk (by simp), H1.out.b⟩
  have hjb := jd_bd HH.out.symm
  have HIN := Lib.hid (fun w => in_any j 0 (jdP l - 1) w)
  rw [in_jd] at HIN
  have HX2 : Hid (X = if inB j 0 ((nP l : Int) - 1) then (swingP r l j.toNat, 0) else ([], 2)) := Lib.hid (by rw [HX.out, insp_ct h40 HH.out.symm]; rfl)
  obtain ⟨J, hJ⟩ : ∃ J, J = jdP l := ⟨_, rfl⟩
  rw [← hJ] at HIN HJD hjb
  clear hJ HX
  obtain ⟨bi, hbi⟩ : ∃ b, b = inB j 0 ((nP l : Int) - 1) := ⟨_, rfl⟩
  rw [← hbi] at HIN HX2
  have HBI := Lib.hid hbi
  clear hbi
  go_wp2_with fail
  refine (HJD.out _ H1.out.b).mono ?_
  rintro e w2 ⟨rfl, hb2⟩
  have H2 := Lib.hid (H1.out.step hb2)
  clear hb2 H1 HJD
  go_wp2_with fail
  refine (HIN.out _).mono ?_
  rintro e w3 ⟨rfl, rfl⟩
  clear HIN
  cases bi
  · have HE : Hid (X = ([], 2)) := Lib.hid (by rw [HX2.out]; rfl)
    clear HX2 HSW
    go_wp2_with fail
    refine bodyPost_ret (v := .tuple #[.slice none 0 0, .int .i64 2]) (by simp [results, Try.results22, go_sem]) rfl ?_
    exact ⟨none, 0, by rw [HE.out]; rfl, fun k hk => by rw [HE.out] at hk; exact absurd hk (by simp), H2.out.b⟩
  have HE : Hid (X = (swingP r l j.toNat, 0)) := Lib.hid (by rw [HX2.out]; rfl)
  have hjr : 0 ≤ j ∧ j < nP l := by
    have := HBI.out
    simp [inB] at this
    omega
  obtain ⟨jn, rfl⟩ : ∃ jn : Nat, j = (jn : Int) := ⟨j.toNat, by omega⟩
  have HQ := Lib.hid (HSW.out jn _ H2.out.b (by omega) HH.out.symm (by omega))
  rw [Int.toNat_natCast] at HE
  have x0 : w3.cell? ⟨W.heap.size, 0, none⟩ = some (.slice A r.bases.length c) := H2.out.fr.cell 0
  have x1 : w3.cell? ⟨W.heap.size, 1, none⟩ = some (.int .i64 r.factor) := H2.out.fr.cell 1
  have x2 : w3.cell? ⟨W.heap.size, 2, none⟩ = some (.int .i64 r.most) := H2.out.fr.cell 2
  clear HX2 HSW hjr HBI hjb
  go_wp2_with fail
  refine HQ.out.mono ?_
  rintro e w4 ⟨U, cu, rfl, hq, hb4⟩
  have H4 := Lib.hid (And.intro (H2.out.step hb4) hq)
  clear hb4 hq x0 x1 x2 HQ
  go_wp2_with fail
  refine bodyPost_ret (v := .tuple #[.slice U (swingP r l jn).length cu, .int .i64 0]) (by simp [results, Try.results22, go_sem]) rfl ?_
  exact ⟨U, cu, by rw [HE.out], by rw [HE.out]; exact H4.out.2, H4.out.1.b⟩
/-- the skaters found so far, in a row of their own -/
structure DO (W w : World) (r : Ru) (A : Option Addr) (c : Nat) (v : Value) (K : List Int) : Prop where
  r : R1 W w r A c
  o : w.ownsRow (W.heap.size + 1) 3 1 v K.length (ivl K)
theorem DO.step {W w w' : World} {r : Ru} {A : Option Addr} {c : Nat} {v : Value} {K : List Int} (h : DO W w r A c v K) (hb : Below w.heap.size w w') : DO W w' r A c v K := ⟨h.r.step hb, own_step h.o hb⟩
theorem filter_range_succ (p : Nat → Bool) (k : Nat) : ((List.range (k + 1)).filter p).map (fun i : Nat => (i : Int)) = ((List.range k).filter p).map (fun i : Nat => (i : Int)) ++ (if p k then [(k : Int)] else []) := by
  rw [List.range_succ, List.filter_append, List.map_append, List.filter_cons, List.filter_nil]
  split <;> rfl
theorem filter_range_le (p : Nat → Bool) (k : Nat) : (((List.range k).filter p).map (fun i : Nat => (i : Int))).length ≤ k := by
  rw [List.length_map]
  refine Nat.le_trans (List.length_filter_le _ _) ?_
  simp
theorem any_range_succ (p : Nat → Bool) (k : Nat) : (List.range (k + 1)).any p = ((List.range k).any p || p k) := by
  rw [List.range_succ, List.any_append]; simp
theorem open_any_at (r : Ru) (l : List Sk) (first : Int) (i : Nat) : openB r l first i = (List.range (nP l)).any fun j => opAt r l first j i := by
  rw [← mkD_done]; simp [mkD]
set_option maxRecDepth 100000 in
set_option maxHeartbeats 4000000 in
theorem Dopen_any (r : Ru) (A : Option Addr) (c : Nat) (l : List Sk) (L : Option Addr) (k0 : Nat) (first : Int) (W : World) (hr : RuR W W.heap.size r A) (hs : SRow W W.heap.size L l) (hl : l.length ≤ big) :
    Calls Try.prog 24 #[ruv r A c, .slice L l.length k0, .int .i64 first] W (RI2 (openR r l first) W) := by
  obtain ⟨i0, hi, hz0, hz1, hz2⟩ := info_parts Try.info3
  have HB : Hid (R1 W (W.alloc (.cells (ruc r A c) 24)) r A c) := Lib.hid ⟨below_one _ _, Has.new _ _ _⟩
  have HX : Hid (openR r l first = if (inspP r l).2 ≠ 0 then ([], (inspP r l).2) else if inB first 1 40 then (openP r l first, 0) else ([], 2)) := Lib.hid rfl
  have HCT := Lib.hid (fun w (h : Below W.heap.size W w) => Contest_any r A c l L k0 w ((hr.below h).more h.size) ((hs.below h).more h.size) hl)
  have HJD := Lib.hid (fun w (h : Below W.heap.size W w) => Judges_any l L k0 w ((hs.below h).more h.size) hl)
  have HSW := Lib.hid (fun (jn : Nat) w (h : Below W.heap.size W w) h40 hct hj => dswing_any r A c l L k0 jn w ((hr.below h).more h.size) ((hs.below h).more h.size) h40 hct hj)
  have HIN := Lib.hid (fun w => in_any first 1 40 w)
  have HJL := Lib.hid (jd_lt l)
  have hrl := hr.l
  unfold big at hl hrl
  obtain ⟨X, hX⟩ : ∃ X, X = openR r l first := ⟨_, rfl⟩
  rw [← hX] at HX ⊢
  unfold BoolPost at HCT
  unfold IntPost at HJD
  unfold DSwPost at HSW
  clear hr hs hX
  unfold ruv at *
  by_cases h40 : 40 < l.length
  · have HE : Hid (X = ([], 3)) := Lib.hid (by rw [HX.out, insp_long h40]; rfl)
    have h4 : (40 : Int) < l.length := by omega
    clear HX HCT HJD HSW HIN HJL
    go_enter Try.func24, Try.ntmps24
    go_upto_region 1 with fail
    generalize W.alloc (.cells (ruc r A c) 24) = w0 at HB ⊢
    go_wp2_with fail
    refine bodyPost_ret (v := .tuple #[.slice none 0 0, .int .i64 3]) (by simp [results, Try.results24, go_sem]) rfl ?_
    exact ⟨none, 0, by rw [HE.out]; rfl, fun k hk => by rw [HE.out] at hk; exact absurd hk (by simp), HB.out.b⟩
  have h4 : ¬ (40 : Int) < l.length := by omega
  obtain ⟨ct, hct⟩ : ∃ b, b = contestB r l := ⟨_, rfl⟩
  rw [← hct] at HCT
  have HH := Lib.hid hct
  clear hct
  go_enter Try.func24, Try.ntmps24
  go_upto_region 1 with fail
  generalize W.alloc (.cells (ruc r A c) 24) = w0 at HB ⊢
  have x0 : w0.cell? ⟨W.heap.size, 0, none⟩ = some (.slice A r.bases.length c) := HB.out.fr.cell 0
  have x1 : w0.cell? ⟨W.heap.size, 1, none⟩ = some (.int .i64 r.factor) := HB.out.fr.cell 1
  have x2 : w0.cell? ⟨W.heap.size, 2, none⟩ = some (.int .i64 r.most) := HB.out.fr.cell 2
  go_wp2_with fail
  refine (HCT.out _ HB.out.b).mono ?_
  rintro e w1 ⟨rfl, hb1⟩
  have H1 := Lib.hid (HB.out.step hb1)
  clear hb1 x0 x1 x2 HB HCT
  cases ct
  · have HE : Hid (X = ([], 1)) := Lib.hid (by rw [HX.out, insp_no h40 HH.out.symm]; rfl)
    clear HX HJD HSW HIN HJL
    go_wp2_with fail
    refine bodyPost_ret (v := .tuple #[.slice none 0 0, .int .i64 1]) (by simp [results, Try.results24, go_sem]) rfl ?_
    exact ⟨none, 0, by rw [HE.out]; rfl, fun k hk => by rw [HE.out] at hk; exact absurd hk (by simp), H1.out.b⟩
  have HX2 : Hid (X = if inB first 1 40 then (openP r l first, 0) else ([], 2)) := Lib.hid (by rw [HX.out, insp_ct h40 HH.out.symm]; rfl)
  clear HX
  generalize inB first 1 40 = bi at HIN HX2
  go_wp2_with fail
  refine (HIN.out _).mono ?_
  rintro e w2 ⟨rfl, rfl⟩
  clear HIN
  cases bi
  · have HE : Hid (X = ([], 2)) := Lib.hid (by rw [HX2.out]; rfl)
    clear HX2 HSW HJD HJL
    go_wp2_with fail
    refine bodyPost_ret (v := .tuple #[.slice none 0 0, .int .i64 2]) (by simp [results, Try.results24, go_sem]) rfl ?_
    exact ⟨none, 0, by rw [HE.out]; rfl, fun k hk => by rw [HE.out] at hk; exact absurd hk (by simp), H1.out.b⟩
  have HE : Hid (X = (openP r l first, 0)) := Lib.hid (by rw [HX2.out]; rfl)
  have hn9 : nP l ≤ 9 := np_le HH.out.symm
  have HSW2 := Lib.hid (fun (jn : Nat) (hj : jn < nP l) w (h : Below W.heap.size W w) => (HSW.out jn w h (by omega) HH.out.symm hj))
  obtain ⟨J, hJ⟩ : ∃ J, J = jdP l := ⟨_, rfl⟩
  rw [← hJ] at HJL HJD
  clear HX2 HSW hJ
  go_wp2_with fail
  go_loopg [8, 9] l.length (fun gk u i wr => ∃ k : Nat, k ≤ l.length ∧ l.length - k ≤ gk ∧ i = .int .i64 k ∧ ∃ (K : List Int) (U : Option Addr) (cu : Nat), u = .slice U K.length cu ∧ Hid (DO W wr r A c (.slice U K.length cu) K ∧ K = ((List.range k).filter (openB r l first)).map fun i : Nat => (i : Int)))
  case atStart => exact ⟨0, Nat.zero_le _, Nat.le_refl _, rfl, [], none, 0, rfl, Lib.hid ⟨⟨H1.out, own_nil _ _ _ _⟩, by simp⟩⟩
  case round =>
    obtain ⟨k, hk, hgk, rfl, K, U, cu, rfl, HW⟩ := hrel
    clear H1
    by_cases hlt : k < l.length
    rotate_left
    · have hge : ¬ (k : Int) < l.length := by omega
      have HK : Hid (K = openP r l first) := Lib.hid (by rw [HW.out.2, show k = l.length by omega]; rfl)
      clear hk hgk hlt HJD HSW2 HJL
      go_wp2_with fail
      try simp only [Exit.inBlock, Exit.then]
      refine bodyPost_ret (v := .tuple #[.slice U K.length cu, .int .i64 0]) (by simp [results, Try.results24, go_sem]) rfl ?_
      obtain ⟨A', cap', e', ha⟩ := own_ira HW.out.1.o
      cases e'
      have hke := HK.out
      subst hke
      exact ⟨_, _, by rw [HE.out], by rw [HE.out]; exact (ha none (fun _ h => by cases h)).row, HW.out.1.r.b⟩
    have hlt2 : (k : Int) < l.length := by omega
    have hkl : K.length ≤ 40 := by rw [HW.out.2]; have := filter_range_le (openB r l first) k; omega
    have H2 := Lib.hid HW.out.1
    have HKE := Lib.hid HW.out.2
    clear HW hk
    go_wp2_with fail
    obtain ⟨w3, rfl⟩ : ∃ w3, w3 = wr := ⟨_, rfl⟩
    go_loopg [10, 11] (nP l) (fun gk2 b i wx => ∃ q : Nat, q ≤ nP l ∧ nP l - q ≤ gk2 ∧ i = .int .i64 q ∧ ∃ bb : Bool, b = .bool bb ∧ Hid (DO W wx r A c (.slice U K.length cu) K ∧ bb = (List.range q).any fun j => opAt r l first j k))
    case atStart => exact ⟨0, Nat.zero_le _, Nat.le_refl _, rfl, false, rfl, Lib.hid ⟨H2.out, by simp⟩⟩
    case round =>
      obtain ⟨q, hq, hgq, rfl, bb, rfl, HD⟩ := hrel
      clear H2
      go_wp2_with fail
      refine (HJD.out _ HD.out.1.r.b).mono ?_
      rintro e w4 ⟨rfl, hb4⟩
      have H4 := Lib.hid (HD.out.1.step hb4)
      have HBB := Lib.hid HD.out.2
      clear hb4 HD
      by_cases hqt : q < nP l
      rotate_left
      · have hqe : ¬ (q : Int) < J := fun h => hqt ((HJL.out q).1 h)
        have HO : Hid (bb = openB r l first k) := Lib.hid (by rw [HBB.out, open_any_at, show q = nP l by omega])
        have HFS := Lib.hid (filter_range_succ (openB r l first) k)
        rw [← HO.out] at HFS
        clear hq hgq hqt HBB HO HJD HSW2
        cases bb
        · go_wp2_with fail
          go_roundg (l.length - (k + 1))
          case measure => omega
          case rel => exact ⟨k + 1, by omega, Nat.le_refl _, by go_num, K, U, cu, rfl, Lib.hid ⟨H4.out, by rw [HFS.out, ← HKE.out]; simp⟩⟩
        have HOW : Hid ((w4.alloc (.cells #[.int .i64 k] 3)).ownsRow (W.heap.size + 1) 3 1 (.slice U K.length cu) K.length (ivl K)) := Lib.hid (own_step H4.out.o (below_one _ _))
        have HNEW : Hid (∀ j u, (ivl [(k : Int)])[j]? = some u → (w4.alloc (.cells #[.int .i64 k] 3)).cell? ((⟨w4.heap.size, 0, none⟩ : Addr).add j) = some u) := Lib.hid fun j u hu => by
          have hj : j < 1 := by have := (List.getElem?_eq_some_iff.1 hu).1; simpa [ivl] using this
          obtain rfl : j = 0 := by omega
          rw [addr_add, (Has.new w4 3 #[.int .i64 (k : Int)]).cell]
          simpa [ivl] using hu
        go_wp2_with (at_builtin; refine wpList_append_lies _ rfl _ _ 22 rfl (W.heap.size + 1) 3 i0 (.int .i64 0) 1 8 Try.underlying22 hi hz0 hz1 hz2 rfl (by decide) (.slice U K.length cu) K.length (ivl K) rfl HOW.out ⟨w4.heap.size, 0, none⟩ 1 1 (ivl [(k : Int)]) rfl ?q1 HNEW.out (ivl_one _) ?q2 ?q3 ?q4 ?q5 _ rfl ?_)
        case q1 => rfl
        case q2 => omega
        case q3 => unfold maxLen; omega
        case q4 => omega
        case q5 => have := H4.out.r.fr.lt; simp; omega
        rintro g1 cap1 w5 hown1 hgr1 hgg1 hlt1
        have H5 : Hid (DO W w5 r A c (.slice (some ⟨g1, 0, none⟩) (K.length + 1) cap1) (K ++ [(k : Int)])) := Lib.hid (by
          have hb5 : Below (W.heap.size + 1) (w4.alloc (.cells #[.int .i64 k] 3)) w5 := grown_step hgr1 (by have := H4.out.r.fr.lt; simp; omega) (fun b hb => (own_block HOW.out b hb).1)
          have h2 : Below (W.heap.size + 1) w4 w5 := ((below_one _ _).mono H4.out.r.fr.lt).trans hb5
          exact ⟨⟨H4.out.r.b.trans (h2.mono (by omega)), H4.out.r.fr.below h2 (by omega)⟩, by rw [List.length_append, show ivl (K ++ [(k : Int)]) = ivl K ++ ivl [(k : Int)] by simp [ivl]]; exact hown1⟩)
        clear hown1 hgr1 hgg1 hlt1 HOW HNEW H4
        go_wp2_with fail
        go_roundg (l.length - (k + 1))
        case measure => omega
        case rel => exact ⟨k + 1, by omega, Nat.le_refl _, by go_num, K ++ [(k : Int)], some ⟨g1, 0, none⟩, cap1, by simp, Lib.hid ⟨by simpa using H5.out, by rw [HFS.out, ← HKE.out]; simp⟩⟩
      have hqt2 : (q : Int) < J := (HJL.out q).2 hqt
      have HQ := Lib.hid (HSW2.out q hqt _ H4.out.r.b)
      have hsl : (swingP r l q).length = l.length := by simp [swingP]
      rw [hsl] at HQ
      have HSL := Lib.hid hsl
      have x0 : w4.cell? ⟨W.heap.size, 0, none⟩ = some (.slice A r.bases.length c) := H4.out.r.fr.cell 0
      have x1 : w4.cell? ⟨W.heap.size, 1, none⟩ = some (.int .i64 r.factor) := H4.out.r.fr.cell 1
      have x2 : w4.cell? ⟨W.heap.size, 2, none⟩ = some (.int .i64 r.most) := H4.out.r.fr.cell 2
      clear hsl hq
      go_wp2_with fail
      refine HQ.out.mono ?_
      rintro e w5 ⟨A5, c5, rfl, hq5, hb5⟩
      obtain ⟨g5, o5, hA5, hg5, c0f, c1f⟩ := hq5 k (by rw [List.length_map, HSL.out]; exact hlt)
      have hks : k < (swingP r l q).length := by rw [HSL.out]; exact hlt
      obtain ⟨s, hs⟩ : ∃ s, s = (swingP r l q)[k] := ⟨_, rfl⟩
      rw [List.getElem_map, ← hs] at c0f c1f
      have HOA : Hid (opAt r l first q k = (decide (s.lo ≤ first) && decide (first < s.hi))) := Lib.hid (by
        unfold opAt
        rw [List.getElem?_eq_getElem hks, ← hs])
      obtain ⟨lo, hi'⟩ := s
      dsimp only [spp] at c0f c1f HOA
      have H5 : Hid (DO W (w5.alloc (.cells #[.int .i64 lo, .int .i64 hi'] 56)) r A c (.slice U K.length cu) K ∧ Has (w5.alloc (.cells #[.int .i64 lo, .int .i64 hi'] 56)) w5.heap.size 56 #[.int .i64 lo, .int .i64 hi']) := Lib.hid ⟨(H4.out.step hb5).step (below_one _ _), Has.new _ _ _⟩
      have HAN := Lib.hid (any_range_succ (fun j => opAt r l first j k) q)
      rw [← HBB.out, HOA.out] at HAN
      subst hA5
      clear hs hks hq5 hb5 x0 x1 x2 HQ H4 HSL HOA HBB
      go_upto_region 16 with fail
      generalize w5.alloc (.cells #[.int .i64 lo, .int .i64 hi'] 56) = w6 at H5 ⊢
      generalize w5.heap.size = E at H5 ⊢
      clear c0f c1f hg5
      have y0 : w6.cell? ⟨E, 0, none⟩ = some (.int .i64 lo) := H5.out.2.cell 0
      have y1 : w6.cell? ⟨E, 1, none⟩ = some (.int .i64 hi') := H5.out.2.cell 1
      cases bb
      · by_cases h1 : lo ≤ first
        · by_cases h2 : first < hi'
          · have HV : Hid ((false || (decide (lo ≤ first) && decide (first < hi'))) = true) := Lib.hid (by simp [h1, h2])
            go_wp2_with fail
            go_roundg (nP l - (q + 1))
            case measure => omega
            case rel => exact ⟨q + 1, by omega, Nat.le_refl _, by go_num, true, rfl, Lib.hid ⟨H5.out.1, by rw [HAN.out, HV.out]⟩⟩
          · have HV : Hid ((false || (decide (lo ≤ first) && decide (first < hi'))) = false) := Lib.hid (by simp [h2])
            go_wp2_with fail
            go_roundg (nP l - (q + 1))
            case measure => omega
            case rel => exact ⟨q + 1, by omega, Nat.le_refl _, by go_num, false, rfl, Lib.hid ⟨H5.out.1, by rw [HAN.out, HV.out]⟩⟩
        · have HV : Hid ((false || (decide (lo ≤ first) && decide (first < hi'))) = false) := Lib.hid (by simp [h1])
          go_wp2_with fail
          go_roundg (nP l - (q + 1))
          case measure => omega
          case rel => exact ⟨q + 1, by omega, Nat.le_refl _, by go_num, false, rfl, Lib.hid ⟨H5.out.1, by rw [HAN.out, HV.out]⟩⟩
      · go_wp2_with fail
        go_roundg (nP l - (q + 1))
        case measure => omega
        case rel => exact ⟨q + 1, by omega, Nat.le_refl _, by go_num, true, rfl, Lib.hid ⟨H5.out.1, by rw [HAN.out]; simp⟩⟩
end Go.Proofs.Ytmclchaalmonnaa
namespace Go.Proofs.Ytmclchaalmonnaa
open Go.RowKit Go.Lib
attribute [local irreducible] wpQuiet
theorem swing_len (r : Ru) (l : List Sk) (j : Int) : (swingR r l j).1.length ≤ l.length := by
  unfold swingR
  split
  · simp
  · split
    · simp [swingP]
    · simp
theorem open_len (r : Ru) (l : List Sk) (first : Int) : (openR r l first).1.length ≤ l.length := by
  unfold openR
  split
  · simp
  · split
    · exact filter_range_le _ _
    · simp
theorem rip_ir {l : List Int} {w w' : World} {A : Option Addr} (h : ∀ k (h : k < l.length), ∃ g o, A = some ⟨g, o, none⟩ ∧ w.heap.size ≤ g ∧ g < w'.heap.size ∧ w'.cell? ⟨g, o + k, none⟩ = some (.int .i64 l[k])) : IRow w' w'.heap.size A l := fun k hk => by
  obtain ⟨g, o, e, -, hg, c⟩ := h k hk
  exact ⟨g, o, e, hg, c⟩
theorem rank_len (l : List Sc) : (ranksR l).1.length ≤ 40 := by
  unfold ranksR
  split
  · simp
  · simp [ranksP]; omega
theorem scr_more {w : World} {B B' : Nat} {A : Option Addr} {l : List Sc} (h : ScRow w B A l) (hB : B ≤ B') : ScRow w B' A l := fun k hk => by
  obtain ⟨g, o, e, hg, c⟩ := h k hk
  exact ⟨g, o, e, Nat.lt_of_lt_of_le hg hB, c⟩
set_option maxRecDepth 100000 in
set_option maxHeartbeats 4000000 in
theorem ranksLaw_any (ls : List Sc) (AL : Option Addr) (cl : Nat) (r : Ru) (A : Option Addr) (c : Nat) (l : List Sk) (L : Option Addr) (k0 : Nat) (j first : Int) (W : World) (hsc : ScRow W W.heap.size AL ls) (hls : ls.length ≤ big) (hr : RuR W W.heap.size r A) (hs : SRow W W.heap.size L l) (hl : l.length ≤ big) :
    Calls Try.prog 4 #[.slice AL ls.length cl, ruv r A c, .slice L l.length k0, .int .i64 j, .int .i64 first] W (BoolPost true W) := by
  have HB : Hid (R1 W (W.alloc (.cells (ruc r A c) 24)) r A c) := Lib.hid ⟨below_one _ _, Has.new _ _ _⟩
  have HG := Lib.hid (fun w (h : Below W.heap.size W w) => great_any l L k0 43 w (by omega) ((hs.below h).more h.size) hl)
  have HAw := Lib.hid (fun w => alive_any w)
  have HSM : Hid (greatB l 43 = false → l.length ≤ 43) := Lib.hid fun h => (not_great h).1
  have hswl := swing_len r l j
  have hopl := open_len r l first
  have hrkl := rank_len ls
  have HC1 := Lib.hid (fun w (h : Below W.heap.size W w) => Ranks_any ls AL cl w (scr_more (hsc.below h) h.size) hls)
  have HC2 := Lib.hid (fun w (h : Below W.heap.size W w) => Dranks_any ls AL cl w (scr_more (hsc.below h) h.size) hls)
  have HC3 := Lib.hid (fun w (h : Below W.heap.size W w) => Swing_any r A c l L k0 j w ((hr.below h).more h.size) ((hs.below h).more h.size) hl)
  have HC4 := Lib.hid (fun w (h : Below W.heap.size W w) => Dswing_any r A c l L k0 j w ((hr.below h).more h.size) ((hs.below h).more h.size) hl)
  have HC5 := Lib.hid (fun w (h : Below W.heap.size W w) => Open_any r A c l L k0 first w ((hr.below h).more h.size) ((hs.below h).more h.size) hl)
  have HC6 := Lib.hid (fun w (h : Below W.heap.size W w) => Dopen_any r A c l L k0 first w ((hr.below h).more h.size) ((hs.below h).more h.size) hl)
  have hrl := hr.l
  unfold big at hrl hl hls
  obtain ⟨X1, hX1⟩ : ∃ X, X = ranksR ls := ⟨_, rfl⟩
  obtain ⟨X3, hX3⟩ : ∃ X, X = swingR r l j := ⟨_, rfl⟩
  obtain ⟨X5, hX5⟩ : ∃ X, X = openR r l first := ⟨_, rfl⟩
  rw [← hX1] at HC1 HC2 hrkl
  rw [← hX3] at HC3 HC4 hswl
  rw [← hX5] at HC5 HC6 hopl
  obtain ⟨ra, re⟩ := X1
  obtain ⟨sw, se⟩ := X3
  obtain ⟨ol, oe⟩ := X5
  generalize greatB l 43 = G at HG HSM
  unfold BoolPost at HG HAw
  unfold RIPost at HC1
  unfold RI2 at HC2 HC5 HC6
  unfold SwEPost at HC3
  unfold QEPost at HC4
  dsimp only at HC1 HC2 HC3 HC4 HC5 HC6 HG hswl hopl hrkl
  clear hr hs hsc hX1 hX3 hX5
  unfold ruv at *
  go_enter Try.func4, Try.ntmps4
  go_upto_region 1 with fail
  generalize W.alloc (.cells (ruc r A c) 24) = w0 at HB ⊢
  have x0 : w0.cell? ⟨W.heap.size, 0, none⟩ = some (.slice A r.bases.length c) := HB.out.fr.cell 0
  by_cases h60 : (60 : Int) < ls.length
  · go_wp2_with fail
    refine (HAw.out _).mono ?_
    rintro e wz ⟨rfl, hbz⟩
    have HZ := Lib.hid ((HB.out.b).trans (hbz.mono (HB.out.b).size))
    clear hbz
    go_wp2_with fail
    go_ret
    exact ⟨rfl, HZ.out⟩
  by_cases h80 : (80 : Int) < r.bases.length
  · go_wp2_with fail
    refine (HAw.out _).mono ?_
    rintro e wz ⟨rfl, hbz⟩
    have HZ := Lib.hid ((HB.out.b).trans (hbz.mono (HB.out.b).size))
    clear hbz
    go_wp2_with fail
    go_ret
    exact ⟨rfl, HZ.out⟩
  by_cases h8 : (8 : Int) < l.length ∧ (l.length : Int) ≤ 40
  · obtain ⟨h8a, h8b⟩ := h8
    go_wp2_with fail
    refine (HAw.out _).mono ?_
    rintro e wz ⟨rfl, hbz⟩
    have HZ := Lib.hid ((HB.out.b).trans (hbz.mono (HB.out.b).size))
    clear hbz
    go_wp2_with fail
    go_ret
    exact ⟨rfl, HZ.out⟩
  have HGG : Hid (∀ P : Prop, (¬ (8 : Int) < l.length → P) → ((8 : Int) < l.length → ¬ (l.length : Int) ≤ 40 → P) → P) := Lib.hid fun P h1 h2 => by
    by_cases h : (8 : Int) < l.length
    · exact h2 h (fun h' => h8 ⟨h, h'⟩)
    · exact h1 h
  clear h8
  refine HGG.out _ (fun h8a => ?_) (fun h8a h8b => ?_)
  all_goals
    clear HGG
    go_wp2_with fail
    refine (HG.out _ HB.out.b).mono ?_
    rintro e w1 ⟨rfl, hb1⟩
    have H1 := Lib.hid (HB.out.step hb1)
    clear hb1 x0 HB HG h60 h80
    cases G
    rotate_left
    · clear HC1 HC2 HC3 HC4 HC5 HC6 HSM
      go_wp2_with fail
      refine (HAw.out _).mono ?_
      rintro e wz ⟨rfl, hbz⟩
      have HZ := Lib.hid ((H1.out.b).trans (hbz.mono (H1.out.b).size))
      clear hbz
      go_wp2_with fail
      go_ret
      exact ⟨rfl, HZ.out⟩
    have hl43 := HSM.out rfl
    have HNT1 := Lib.hid (fun A A' c d w h1 h2 => ints_any ra ra A A' c d w h1 h2 (by omega))
    have HNT2 := Lib.hid (fun A A' c d w h1 h2 => ints_any ol ol A A' c d w h1 h2 (by omega))
    rw [show decide (ra = ra) = true by simp] at HNT1
    rw [show decide (ol = ol) = true by simp] at HNT2
    have HSP : Hid (∀ A A' c d w, QRow w w.heap.size A (sw.map spp) → QRow w w.heap.size A' (sw.map spp) → Calls Try.prog 25 #[.slice A sw.length c, .slice A' sw.length d] w (BoolPost true w)) := Lib.hid fun A A' c d w h1 h2 => by
      have h9 := spans_any (sw.map spp) (sw.map spp) A A' c d w h1 h2 (by simp; omega)
      simpa using h9
    unfold BoolPost at HNT1 HNT2 HSP
    clear HSM
    go_wp2_with fail
    refine (HC1.out _ H1.out.b).mono ?_
    rintro e w2 ⟨A1, c1, rfl, h2, -, hb2⟩
    have H2 := Lib.hid (show R1 W w2 r A c ∧ IRow w2 w2.heap.size A1 ra from ⟨H1.out.step hb2, rip_ir h2⟩)
    clear hb2 h2 H1 HC1
    go_wp2_with fail
    refine (HC2.out _ H2.out.1.b).mono ?_
    rintro e w3 ⟨A2, c2, rfl, h2, hb2⟩
    have H3 := Lib.hid (show R1 W w3 r A c ∧ IRow w3 w3.heap.size A1 ra ∧ IRow w3 w3.heap.size A2 ra from ⟨H2.out.1.step hb2, H2.out.2.step hb2, h2⟩)
    clear hb2 h2 H2 HC2
    have x0 : w3.cell? ⟨W.heap.size, 0, none⟩ = some (.slice A r.bases.length c) := H3.out.1.fr.cell 0
    have x1 : w3.cell? ⟨W.heap.size, 1, none⟩ = some (.int .i64 r.factor) := H3.out.1.fr.cell 1
    have x2 : w3.cell? ⟨W.heap.size, 2, none⟩ = some (.int .i64 r.most) := H3.out.1.fr.cell 2
    go_wp2_with fail
    refine (HC3.out _ H3.out.1.b).mono ?_
    rintro e w4 ⟨A3, c3, rfl, h2, -, -, hb2⟩
    have H4 := Lib.hid (show R1 W w4 r A c ∧ IRow w4 w4.heap.size A1 ra ∧ IRow w4 w4.heap.size A2 ra ∧ QRow w4 w4.heap.size A3 (sw.map spp) from ⟨H3.out.1.step hb2, H3.out.2.1.step hb2, H3.out.2.2.step hb2, h2⟩)
    clear hb2 h2 H3 HC3 x0 x1 x2
    have x0 : w4.cell? ⟨W.heap.size, 0, none⟩ = some (.slice A r.bases.length c) := H4.out.1.fr.cell 0
    have x1 : w4.cell? ⟨W.heap.size, 1, none⟩ = some (.int .i64 r.factor) := H4.out.1.fr.cell 1
    have x2 : w4.cell? ⟨W.heap.size, 2, none⟩ = some (.int .i64 r.most) := H4.out.1.fr.cell 2
    go_wp2_with fail
    refine (HC4.out _ H4.out.1.b).mono ?_
    rintro e w5 ⟨A4, c4, rfl, h2, hb2⟩
    have H5 := Lib.hid (show R1 W w5 r A c ∧ IRow w5 w5.heap.size A1 ra ∧ IRow w5 w5.heap.size A2 ra ∧ QRow w5 w5.heap.size A3 (sw.map spp) ∧ QRow w5 w5.heap.size A4 (sw.map spp) from ⟨H4.out.1.step hb2, H4.out.2.1.step hb2, H4.out.2.2.1.step hb2, H4.out.2.2.2.step hb2, h2⟩)
    clear hb2 h2 H4 HC4 x0 x1 x2
    have x0 : w5.cell? ⟨W.heap.size, 0, none⟩ = some (.slice A r.bases.length c) := H5.out.1.fr.cell 0
    have x1 : w5.cell? ⟨W.heap.size, 1, none⟩ = some (.int .i64 r.factor) := H5.out.1.fr.cell 1
    have x2 : w5.cell? ⟨W.heap.size, 2, none⟩ = some (.int .i64 r.most) := H5.out.1.fr.cell 2
    go_wp2_with fail
    refine (HC5.out _ H5.out.1.b).mono ?_
    rintro e w6 ⟨A5, c5, rfl, h2, hb2⟩
    have H6 := Lib.hid (show R1 W w6 r A c ∧ IRow w6 w6.heap.size A1 ra ∧ IRow w6 w6.heap.size A2 ra ∧ QRow w6 w6.heap.size A3 (sw.map spp) ∧ QRow w6 w6.heap.size A4 (sw.map spp) ∧ IRow w6 w6.heap.size A5 ol from ⟨H5.out.1.step hb2, H5.out.2.1.step hb2, H5.out.2.2.1.step hb2, H5.out.2.2.2.1.step hb2, H5.out.2.2.2.2.step hb2, h2⟩)
    clear hb2 h2 H5 HC5 x0 x1 x2
    have x0 : w6.cell? ⟨W.heap.size, 0, none⟩ = some (.slice A r.bases.length c) := H6.out.1.fr.cell 0
    have x1 : w6.cell? ⟨W.heap.size, 1, none⟩ = some (.int .i64 r.factor) := H6.out.1.fr.cell 1
    have x2 : w6.cell? ⟨W.heap.size, 2, none⟩ = some (.int .i64 r.most) := H6.out.1.fr.cell 2
    go_wp2_with fail
    refine (HC6.out _ H6.out.1.b).mono ?_
    rintro e w7 ⟨A6, c6, rfl, h2, hb2⟩
    have H7 := Lib.hid (show R1 W w7 r A c ∧ IRow w7 w7.heap.size A1 ra ∧ IRow w7 w7.heap.size A2 ra ∧ QRow w7 w7.heap.size A3 (sw.map spp) ∧ QRow w7 w7.heap.size A4 (sw.map spp) ∧ IRow w7 w7.heap.size A5 ol ∧ IRow w7 w7.heap.size A6 ol from ⟨H6.out.1.step hb2, H6.out.2.1.step hb2, H6.out.2.2.1.step hb2, H6.out.2.2.2.1.step hb2, H6.out.2.2.2.2.1.step hb2, H6.out.2.2.2.2.2.step hb2, h2⟩)
    clear hb2 h2 H6 HC6 x0 x1 x2
    go_wp2_with fail
    refine (HNT1.out _ _ _ _ _ H7.out.2.1 H7.out.2.2.1).mono ?_
    rintro e w8 ⟨rfl, hb2⟩
    have H8 := Lib.hid (show Below W.heap.size W w8 ∧ QRow w8 w8.heap.size A3 (sw.map spp) ∧ QRow w8 w8.heap.size A4 (sw.map spp) ∧ IRow w8 w8.heap.size A5 ol ∧ IRow w8 w8.heap.size A6 ol from ⟨(H7.out.1.step hb2).b, H7.out.2.2.2.1.step hb2, H7.out.2.2.2.2.1.step hb2, H7.out.2.2.2.2.2.1.step hb2, H7.out.2.2.2.2.2.2.step hb2⟩)
    clear hb2 H7 HNT1
    go_wp2_with fail
    refine (HSP.out _ _ _ _ _ H8.out.2.1 H8.out.2.2.1).mono ?_
    rintro e w9 ⟨rfl, hb2⟩
    have H9 := Lib.hid (show Below W.heap.size W w9 ∧ IRow w9 w9.heap.size A5 ol ∧ IRow w9 w9.heap.size A6 ol from ⟨H8.out.1.trans (hb2.mono H8.out.1.size), H8.out.2.2.2.1.step hb2, H8.out.2.2.2.2.step hb2⟩)
    clear hb2 H8 HSP
    go_wp2_with fail
    refine (HNT2.out _ _ _ _ _ H9.out.2.1 H9.out.2.2).mono ?_
    rintro e w10 ⟨rfl, hb2⟩
    have H10 := Lib.hid (H9.out.1.trans (hb2.mono H9.out.1.size))
    clear hb2 H9 HNT2
    go_wp2_with fail
    refine (HAw.out _).mono ?_
    rintro e w11 ⟨rfl, hb2⟩
    have H11 := Lib.hid (H10.out.trans (hb2.mono H10.out.size))
    clear hb2 H10
    go_wp2_with fail
    go_ret
    exact ⟨rfl, H11.out⟩
end Go.Proofs.Ytmclchaalmonnaa
