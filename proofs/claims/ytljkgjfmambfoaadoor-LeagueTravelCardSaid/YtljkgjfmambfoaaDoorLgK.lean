/- Maps whose keys are points; the contract of outcomes. -/
import Derived.Test.YtljkgjfmambfoaaDoorLgL
import Derived.Test.YtljkgjfmambfoaaDoorStays
import Derived.Maps.RangeWalk
import Derived.Maps.OwnSet
import Derived.DeepKeys4
namespace Go.Proofs.YtljkgjfmambfoaaDoor
open Go.RowKit Go.Shelf Go.Maps Go.WideElems
theorem law77 : Keyed Tryd.prog 77 := Keyed.of_law (deep_law_laid laidOut (m := 4) (by omega) (of_decide_eq_true (by kernel_rfl)) (by kernel_rfl) (by kernel_rfl))
theorem key_of (a b c d e f : Int) (ha : 0 ≤ a ∧ a ≤ 1000000) (hb : 0 ≤ b ∧ b ≤ 1000000) (hc : 0 ≤ c ∧ c ≤ 1000000) (hd : 0 ≤ d ∧ d ≤ 1000000) (he : 0 ≤ e ∧ e ≤ 1000000) (hf : 0 ≤ f ∧ f ≤ 1000000) :
    ∃ kl, keyOf Tryd.prog 77 (.agg #[.int .i64 a, .int .i64 b, .int .i64 c, .int .i64 d, .int .i64 e, .int .i64 f]) = some kl := by
  have h1 : Tryd.prog.keyType 77 = true := by kernel_rfl
  have u77 := Tryd.underlying77
  have u3 := Tryd.underlying3
  have c77 : Tryd.prog.cellsOf 77 = 6 := by kernel_rfl
  have c3 : Tryd.prog.cellsOf 3 = 1 := by kernel_rfl
  have hs : 3 ≤ Tryd.prog.types.size := of_decide_eq_true (by kernel_rfl)
  obtain ⟨D, hD⟩ : ∃ D, Tryd.prog.types.size + 1 = D + 1 + 1 + 1 := ⟨Tryd.prog.types.size - 2, by omega⟩
  have w1 := WalkArith.wf_i64 (n := a) (by omega)
  have w2 := WalkArith.wf_i64 (n := b) (by omega)
  have w3 := WalkArith.wf_i64 (n := c) (by omega)
  have w4 := WalkArith.wf_i64 (n := d) (by omega)
  have w5 := WalkArith.wf_i64 (n := e) (by omega)
  have w6 := WalkArith.wf_i64 (n := f) (by omega)
  unfold keyOf
  rw [u77]
  simp only [h1, Bool.true_and, Value.formed, u77, c77, hD]
  simp [Program.keyLits, u77, u3, c77, c3, w1, w2, w3, w4, w5, w6, Value.cells, List.range_succ]
theorem key_pt {M : Int} {p : Pt} (h : PB M p) (hM : M ≤ 1000000) : ∃ kl, keyOf Tryd.prog 77 (ptv p) = some kl := by
  have b : ∀ i : Nat, 0 ≤ p[i]?.getD 0 ∧ p[i]?.getD 0 ≤ 1000000 := fun i => by
    have := h.b i
    rw [List.getD_eq_getElem?_getD] at this
    omega
  exact key_of _ _ _ _ _ _ (b 0) (b 1) (b 2) (b 3) (b 4) (b 5)
theorem ptv_inj {p q : Pt} (hp : p.length = 6) (hq : q.length = 6) (h : ptv p = ptv q) : p = q := by
  match p, hp, q, hq with
  | [c0, c1, c2, c3, c4, c5], _, [d0, d1, d2, d3, d4, d5], _ =>
    simp [ptv] at h
    obtain ⟨h1, h2, h3, h4, h5, h6⟩ := h
    simp [h1, h2, h3, h4, h5, h6]
/-- the map has just these keys -/
structure MK (D : DataW Unit) (L : List Pt) : Prop where
  m : IsMap D
  l : ∀ p ∈ L, p.length = 6
  h : ∀ p kl, p ∈ L → keyOf Tryd.prog 77 (ptv p) = some kl → Maps.has D kl = true
  k : ∀ kl, Maps.has D kl = true → ∃ p ∈ L, keyOf Tryd.prog 77 (ptv p) = some kl
theorem MK.nil : MK (.map []) [] := ⟨⟨[], rfl⟩, fun _ h => (by cases h), fun _ _ h => (by cases h), fun _ h => (by cases h)⟩
theorem MK.put {D : DataW Unit} {L : List Pt} (h : MK D L) {q : Pt} (hq : q.length = 6) {kl : Lit} (hk : keyOf Tryd.prog 77 (ptv q) = some kl) (d : DataW Unit) : MK (D.put kl d) (L ++ [q]) := by
  refine ⟨?_, fun p hp => ?_, fun p kl' hp hk' => ?_, fun kl' hkl => ?_⟩
  · obtain ⟨es, rfl⟩ := h.m
    exact ⟨_, rfl⟩
  · rcases List.mem_append.1 hp with hp | hp
    · exact h.l p hp
    · rw [List.mem_singleton] at hp; rw [hp]; exact hq
  · by_cases e : kl' = kl
    · rw [e]; exact has_put_same h.m (law77.key hk) d
    · rw [has_put_other e]
      rcases List.mem_append.1 hp with hp | hp
      · exact h.h p kl' hp hk'
      · rw [List.mem_singleton] at hp
        rw [hp, hk] at hk'
        exact absurd (Option.some.inj hk').symm e
  · by_cases e : kl' = kl
    · exact ⟨q, by simp, e ▸ hk⟩
    · rw [has_put_other e] at hkl
      obtain ⟨p, hp, hk'⟩ := h.k kl' hkl
      exact ⟨p, by simp [hp], hk'⟩
theorem MK.congr {D : DataW Unit} {L L' : List Pt} (h : MK D L) (e : ∀ p, p ∈ L' ↔ p ∈ L) : MK D L' :=
  ⟨h.m, fun p hp => h.l p ((e p).1 hp), fun p kl hp hk => h.h p kl ((e p).1 hp) hk, fun kl hk => by obtain ⟨p, hp, h2⟩ := h.k kl hk; exact ⟨p, (e p).2 hp, h2⟩⟩
/-- those that have come so far -/
structure Vis (D : DataW Unit) (L : List Pt) (left : Lit → Bool) (V : List Pt) : Prop where
  d : MK D L
  s : ∀ kl, left kl = true → Maps.has D kl = true
  v1 : ∀ p ∈ V, p ∈ L
  v2 : ∀ p kl, p ∈ L → keyOf Tryd.prog 77 (ptv p) = some kl → left kl = false → p ∈ V
theorem Vis.start {D : DataW Unit} {L : List Pt} (h : MK D L) : Vis D L (Maps.has D) [] :=
  ⟨h, fun _ h => h, fun _ h => (by cases h), fun p kl hp hk hl => by rw [h.h p kl hp hk] at hl; cases hl⟩
theorem Vis.next {D : DataW Unit} {L : List Pt} {left : Lit → Bool} {V : List Pt} (h : Vis D L left V) {x : Value} {kl : Lit} (hk : keyOf Tryd.prog 77 x = some kl) (hl : left kl = true) :
    ∃ p, x = ptv p ∧ p ∈ L ∧ Vis D L (fun z => left z && !z.sameKey kl) (V ++ [p]) := by
  obtain ⟨p, hp, hkp⟩ := h.d.k kl (h.s kl hl)
  refine ⟨p, law77.inj hk hkp, hp, h.d, fun kl' h' => h.s kl' (by simp only [Bool.and_eq_true] at h'; exact h'.1), fun q hq => ?_, fun q kl' hq hk' hl' => ?_⟩
  · rcases List.mem_append.1 hq with hq | hq
    · exact h.v1 q hq
    · rw [List.mem_singleton] at hq; rw [hq]; exact hp
  · by_cases e : kl'.sameKey kl = true
    · have e2 := WideAt.sameKey_eq e
      subst e2
      have := ptv_inj (h.d.l q hq) (h.d.l p hp) (law77.inj hk' hkp)
      simp [this]
    · have e3 : kl'.sameKey kl = false := by simpa using e
      rw [e3] at hl'
      exact List.mem_append_left _ (h.v2 q kl' hq hk' (by simpa using hl'))
theorem Vis.done {D : DataW Unit} {L : List Pt} {left : Lit → Bool} {V : List Pt} (h : Vis D L left V) (hk : ∀ p ∈ L, ∃ kl, keyOf Tryd.prog 77 (ptv p) = some kl) (hl : ∀ kl, left kl = false) (p : Pt) : p ∈ V ↔ p ∈ L :=
  ⟨h.v1 p, fun hp => by obtain ⟨kl, hk'⟩ := hk p hp; exact h.v2 p kl hp hk' (hl kl)⟩
theorem own_size {w : World} {b n : Nat} {D : DataW Unit} (h : w.ownsMap Tryd.prog 77 (plainElem Tryd.prog 4) b n D) : Maps.size D ≤ n := by
  obtain ⟨es, clock, hb, F, hs, rfl⟩ := h
  have : (es.toList.map (rg Tryd.prog 77 (plainElem (H := Unit) Tryd.prog 4))).foldr DataW.insert [] = (es.toList.map (rg Tryd.prog 77 (plainElem (H := Unit) Tryd.prog 4))).foldr DataW.insert [] := rfl
  simp only [Maps.size, length_sorted]
  simpa using hs
theorem wpList_insert_own {H : Type} {P : Program} (w : World) {ops : Array Oper} {rest : List Oper} {o : Oper} {a : Act} {Q : Exit → Act → World → Prop}
    (hg : o.guard = none) (m x v : Operand) (t : TypeId) (hop : o.op = Op.insert t m x v)
    (k e : TypeId) (K : Keyed P k) (ht : P.underlying t = some (.map k e)) (R : Value → Option (DataW H × List MemPlace)) (b n : Nat) (D : DataW H)
    (hm : a.eval m = .map (some b)) (hown : w.ownsMap P k R b n D) (hn : n < maxLen) (key val : Value) (kl : Lit) (hx : a.eval x = key) (hv : a.eval v = val) (hkey : keyOf P k key = some kl)
    (d : DataW H) (ps : List MemPlace) (hval : R val = some (d, ps))
    (hK : ∀ w', w'.ownsMap P k R b (n + 1) (D.put kl d) → w.grownBy w' (some b) → wpList P ops Q rest (a.put o.dst undef) w') :
    wpList P ops Q (o :: rest) a w := by
  refine wpList_plain hg fun K' hK' => ?_
  obtain ⟨w', hrun, r1, r2⟩ := hown.update K ht hn hkey hval
  unfold Oper.wp
  simp [execOp, hop, hm, hx, hv, hrun, Result.andThen]
  exact hK' _ _ (hK w' r1 r2)
theorem grown_step {w w' : World} {o : Option Nat} {B : Nat} (hg : w.grownBy w' o) (hB : B ≤ w.heap.size) (ho : ∀ b, o = some b → B ≤ b) : Below B w w' :=
  ⟨hg.os, hg.tape, hg.output, hg.size, fun k hk => hg.block k (by omega) (fun e => by have := ho k e.symm; omega)⟩
theorem map_below {P : Program} {k : TypeId} {R : Value → Option (DataW Unit × List MemPlace)} {w w' : World} {b n : Nat} {D : DataW Unit} (h : w.ownsMap P k R b n D) (hb : Below w.heap.size w w') : w'.ownsMap P k R b n D :=
  h.kept (row := none) ⟨hb.os, hb.tape, hb.output, hb.size, fun i hi _ => hb.block i hi⟩ (by simp)
theorem rng_below {P : Program} {k : TypeId} {R : Value → Option (DataW Unit × List MemPlace)} {w w' : World} {b r n cnt : Nat} {D : DataW Unit} {left : Lit → Bool} (h : w.ranges P k R b r n D left cnt) (hb : Below w.heap.size w w') : w'.ranges P k R b r n D left cnt :=
  h.kept (row := none) ⟨hb.os, hb.tape, hb.output, hb.size, fun i hi _ => hb.block i hi⟩ (by simp) (by simp)
theorem LX.grown {W w w' : World} {x : Lg} {AF AG : Option Addr} {cf cg b : Nat} (h : LX W w W.heap.size x AF AG cf cg) (hg : w.grownBy w' (some b)) (hb : W.heap.size < b) : LX W w' W.heap.size x AF AG cf cg := by
  have h1 : Below (W.heap.size + 1) w w' := grown_step hg (by have := h.fx.lt; omega) (fun b' e => by cases e; exact hb)
  exact ⟨h.b.trans (h1.mono (by omega)), h.fx.below h1 (by omega), h.r.below (h1.mono (by omega))⟩
/-- plain facts on outcomes -/
theorem outs_take {G : List Gm} {k : Nat} (h : k < G.length) : outsP (G.take (k + 1)) = if openB G[k] then (outsP (G.take k)).flatMap (fun p => (List.range 4).map (behindP p G[k])) else outsP (G.take k) := by
  unfold outsP
  rw [List.take_succ_eq_append_getElem h, List.foldl_append]
  rfl
theorem outs_pb {G : List Gm} (hG : ∀ g ∈ G, okG g) : ∀ k, k ≤ G.length → ∀ p ∈ outsP (G.take k), PB (6 * k) p
  | 0, _, p, hp => by
    have : p = zeroP := by simpa [outsP] using hp
    rw [this]; exact PB.zero
  | k + 1, h, p, hp => by
    have ih := outs_pb hG k (by omega)
    rw [outs_take (by omega)] at hp
    split at hp
    · obtain ⟨q, hq, hp⟩ := List.mem_flatMap.1 hp
      obtain ⟨e, -, rfl⟩ := List.mem_map.1 hp
      exact (behind_pb (ih q hq) (hG _ (List.getElem_mem (by omega))) e).mono (by omega)
    · exact (ih p hp).mono (by omega)
theorem outs_pb' {G : List Gm} (hG : ∀ g ∈ G, okG g) : ∀ p ∈ outsP G, PB (6 * G.length) p := by
  have := outs_pb hG G.length (Nat.le_refl _)
  rwa [List.take_of_length_le (Nat.le_refl _)] at this
/-- what has been put behind those that came, and a part of the next one's -/
def putL (V : List Pt) (g : Gm) (p : Pt) (e : Nat) : List Pt := V.flatMap (fun p => (List.range 4).map (behindP p g)) ++ (List.range e).map (behindP p g)
theorem putL_succ (V : List Pt) (g : Gm) (p : Pt) (e : Nat) : putL V g p (e + 1) = putL V g p e ++ [behindP p g e] := by
  unfold putL
  rw [List.range_succ (n := e), List.map_append, List.append_assoc]
  rfl
theorem putL_four (V : List Pt) (g : Gm) (p : Pt) : putL V g p 4 = (V ++ [p]).flatMap (fun p => (List.range 4).map (behindP p g)) := by
  unfold putL
  rw [List.flatMap_append]
  simp
theorem putL_zero (V : List Pt) (g : Gm) (p : Pt) : putL V g p 0 = V.flatMap (fun p => (List.range 4).map (behindP p g)) := by simp [putL]
theorem flat_congr {V L : List Pt} (g : Gm) (h : ∀ p, p ∈ V ↔ p ∈ L) (q : Pt) : q ∈ L.flatMap (fun p => (List.range 4).map (behindP p g)) ↔ q ∈ V.flatMap (fun p => (List.range 4).map (behindP p g)) := by
  simp only [List.mem_flatMap]
  exact ⟨fun ⟨p, hp, h2⟩ => ⟨p, (h p).2 hp, h2⟩, fun ⟨p, hp, h2⟩ => ⟨p, (h p).1 hp, h2⟩⟩
/-- the map that outcomes returns -/
def OutPost (L : List Pt) (W : World) (e : Ending) (W' : World) : Prop :=
  ∃ B n D, e = .returned (.map (some B)) ∧ n ≤ 65536 ∧ W'.ownsMap Tryd.prog 77 (plainElem Tryd.prog 4) B n D ∧ MK D L ∧ Below W.heap.size W W' ∧ W.heap.size ≤ B
theorem pow_le_eight {n : Nat} (h : n ≤ 8) : 4 ^ n ≤ 65536 := by
  have := Nat.pow_le_pow_right (n := 4) (by omega) h
  simpa using this
/-- outcomes, at work: between the games -/
structure OcI (W w : World) (x : Lg) (AF AG : Option Addr) (cf cg B n : Nat) (D : DataW Unit) (L : List Pt) : Prop where
  lx : LX W w W.heap.size x AF AG cf cg
  m : w.ownsMap Tryd.prog 77 (plainElem Tryd.prog 4) B n D
  d : MK D L
  lt : W.heap.size < B
theorem OcI.step {W w w' : World} {x : Lg} {AF AG : Option Addr} {cf cg B n : Nat} {D : DataW Unit} {L : List Pt} (h : OcI W w x AF AG cf cg B n D L) (hb : Below w.heap.size w w') : OcI W w' x AF AG cf cg B n D L := ⟨h.lx.step hb, map_below h.m hb, h.d, h.lt⟩
/-- outcomes, at work: behind those that have come -/
structure OdI (W w : World) (x : Lg) (AF AG : Option Addr) (cf cg B n R E B' n' : Nat) (D D' : DataW Unit) (L L' : List Pt) (left : Lit → Bool) (cnt : Nat) (V : List Pt) (g : Gm) : Prop where
  lx : LX W w W.heap.size x AF AG cf cg
  fg : Has w E 53 (gmc g)
  r : w.ranges Tryd.prog 77 (plainElem Tryd.prog 4) B R n D left cnt
  v : Vis D L left V
  m : w.ownsMap Tryd.prog 77 (plainElem Tryd.prog 4) B' n' D'
  d : MK D' L'
  lt : W.heap.size < B ∧ B < E ∧ E < B' ∧ B' < R
section
variable {W w w' : World} {x : Lg} {AF AG : Option Addr} {cf cg B n R E B' n' : Nat} {D D' : DataW Unit} {L L' : List Pt} {left : Lit → Bool} {cnt : Nat} {V : List Pt} {g : Gm}
theorem OdI.step (h : OdI W w x AF AG cf cg B n R E B' n' D D' L L' left cnt V g) (hb : Below w.heap.size w w') : OdI W w' x AF AG cf cg B n R E B' n' D D' L L' left cnt V g :=
  ⟨h.lx.step hb, h.fg.below hb h.fg.lt, rng_below h.r hb, h.v, map_below h.m hb, h.d, h.lt⟩
theorem OdI.put (h : OdI W w x AF AG cf cg B n R E B' n' D D' L L' left cnt V g) {q : Pt} {kl : Lit} {d : DataW Unit} (hq : q.length = 6) (hk : keyOf Tryd.prog 77 (ptv q) = some kl) (hm : w'.ownsMap Tryd.prog 77 (plainElem Tryd.prog 4) B' (n' + 1) (D'.put kl d)) (hg : w.grownBy w' (some B')) :
    OdI W w' x AF AG cf cg B n R E B' (n' + 1) D (D'.put kl d) L (L' ++ [q]) left cnt V g := by
  have hlt := h.lt
  refine ⟨h.lx.grown hg (by omega), ?_, h.r.kept hg (by simp; omega) (by simp; omega), h.v, hm, h.d.put hq hk d, hlt⟩
  have h1 : Below (E + 1) w w' := grown_step hg (by have := h.fg.lt; omega) (fun b' e => by cases e; omega)
  exact h.fg.below h1 (by omega)
theorem OdI.next (h : OdI W w x AF AG cf cg B n R E B' n' D D' L L' left cnt V g) {left' : Lit → Bool} {cnt' : Nat} {p : Pt} (hr : w'.ranges Tryd.prog 77 (plainElem Tryd.prog 4) B R n D left' cnt') (hv : Vis D L left' (V ++ [p])) (hg : w.grownBy w' (some R)) :
    OdI W w' x AF AG cf cg B n R E B' n' D D' L L' left' cnt' (V ++ [p]) g := by
  have hlt := h.lt
  refine ⟨h.lx.grown hg (by omega), ?_, hr, hv, h.m.kept hg (by simp; omega), h.d, hlt⟩
  have h1 : Below (E + 1) w w' := grown_step hg (by have := h.fg.lt; omega) (fun b' e => by cases e; omega)
  exact h.fg.below h1 (by omega)
end
set_option maxRecDepth 100000 in
set_option maxHeartbeats 4000000 in
theorem outcomes_any (x : Lg) (AF AG : Option Addr) (cf cg : Nat) (W : World) (hW : Wo W) (hr : LgR W W.heap.size x AF AG) (hv : VL x) :
    Calls Tryd.prog 40 #[lgv x AF AG cf cg] W (OutPost (outsP x.G) W) := by
  have HB : Hid (LX W (W.alloc (.cells (lgc x AF AG cf cg) 25)) W.heap.size x AF AG cf cg) := Lib.hid (LX.start hr)
  have HW := Lib.hid hW
  have HT := Lib.hid (fun (k : Nat) (h : k < x.G.length) => outs_take h)
  have HPB := Lib.hid (outs_pb (G := x.G) (fun g hg => hv.ok hg))
  have HO := Lib.hid (fun (k : Nat) (h : k < x.G.length) => openN_take h)
  have HOL : Hid (∀ k, openN (x.G.take k) ≤ 8) := Lib.hid fun k => by
    have h1 := hv.o
    have h2 : openN (x.G.take k) ≤ openN x.G := by
      unfold openN
      exact List.Sublist.length_le ((List.take_sublist k x.G).filter _)
    omega
  have HOk := Lib.hid (fun g w => isOpen_any g w)
  have HVL := Lib.hid hv
  have hl : x.G.length ≤ 64 := hv.ng
  have hmm := @run_makeMap Tryd.prog
  clear hW hr hv
  unfold lgv
  go_enter Tryd.func40, Tryd.ntmps40
  go_upto_region 1 with fail
  generalize W.alloc (.cells (lgc x AF AG cf cg) 25) = w9 at HB ⊢
  have H0 : Hid (LX W (w9.alloc (.map #[] 0)) W.heap.size x AF AG cf cg ∧ (w9.alloc (.map #[] 0)).ownsMap Tryd.prog 77 (plainElem (H := Unit) Tryd.prog 4) w9.heap.size 0 (.map []) ∧ W.heap.size < w9.heap.size) := Lib.hid ⟨HB.out.step (below_one _ _), World.ownsMap_made _ _ _ _, HB.out.fx.lt⟩
  obtain ⟨kl0, hk0⟩ := key_pt PB.zero (by decide : (0 : Int) ≤ 1000000)
  have HK0 := Lib.hid hk0
  clear hk0
  go_wp2_with (refine wpList_insert_own _ rfl _ _ _ 79 rfl 77 4 law77 Tryd.underlying79 (plainElem (H := Unit) Tryd.prog 4) w9.heap.size 0 (.map []) rfl H0.out.2.1 (by unfold maxLen; omega) (ptv zeroP) (.bool true) kl0 rfl rfl HK0.out (.lit (.bool true)) [] (plainElem_bool Tryd.underlying4 true) ?_)
  intro w2 hown2 hgr2
  have H2 : Hid (OcI W w2 x AF AG cf cg w9.heap.size 1 ((DataW.map []).put kl0 (.lit (.bool true))) (outsP (x.G.take 0))) := Lib.hid ⟨H0.out.1.grown hgr2 H0.out.2.2, hown2, MK.nil.put rfl HK0.out _, H0.out.2.2⟩
  clear hown2 hgr2 H0 HB HK0
  generalize w9.heap.size = B at H2 ⊢
  have x1 : w2.cell? ⟨W.heap.size, 1, none⟩ = some (.slice AG x.G.length cg) := H2.out.lx.fx.cell 1
  go_wp2_with fail
  clear x1
  go_loopg [15, 3] x.G.length (fun gk i m wr => ∃ k : Nat, k ≤ x.G.length ∧ x.G.length - k ≤ gk ∧ i = .int .i64 k ∧ ∃ B n D, m = .map (some B) ∧ n ≤ 4 ^ openN (x.G.take k) ∧ Hid (OcI W wr x AF AG cf cg B n D (outsP (x.G.take k))))
  case atStart => exact ⟨0, Nat.zero_le _, Nat.le_refl _, rfl, B, 1, _, rfl, Nat.le_refl _, H2⟩
  case round =>
    clear H2
    obtain ⟨k, hk, hgk, rfl, B, n, D, rfl, hn, HB⟩ := hrel
    by_cases hlt : k < x.G.length
    rotate_left
    · have hge : ¬ (k : Int) < x.G.length := by omega
      have HE := Lib.hid (show outsP (x.G.take k) = outsP x.G by rw [List.take_of_length_le (by omega)])
      have HN := Lib.hid (Nat.le_trans hn (pow_le_eight (HOL.out k)))
      rw [HE.out] at HB
      clear hn hmm
      go_wp2_with fail
      go_ret
      exact ⟨B, n, D, rfl, HN.out, HB.out.m, HB.out.d, HB.out.lx.b, Nat.le_of_lt HB.out.lt⟩
    have hlt2 : (k : Int) < x.G.length := by omega
    have x1 : wr.cell? ⟨W.heap.size, 1, none⟩ = some (.slice AG x.G.length cg) := HB.out.lx.fx.cell 1
    obtain ⟨B0, o, hg, hgs, hc⟩ := HB.out.lx.r.g k hlt
    obtain ⟨g, hb⟩ : ∃ g, g = x.G[k] := ⟨_, rfl⟩
    have HGk : Hid (okG g) := Lib.hid (by rw [hb]; exact HVL.out.ok (List.getElem_mem hlt))
    have HTk := Lib.hid (HT.out k hlt)
    have HOo := Lib.hid (HO.out k hlt)
    rw [← hb] at hc HTk HOo
    have HLP := Lib.hid (fun p hp => (HPB.out k hk p hp).mono (M' := 10000) (by omega))
    obtain ⟨L, hL⟩ : ∃ L, L = outsP (x.G.take k) := ⟨_, rfl⟩
    rw [← hL] at HB HTk HLP
    have HOg := Lib.hid (fun w => HOk.out g w)
    have HN8 := Lib.hid (And.intro hn (HOL.out (k + 1)))
    have c0 : wr.cell? ⟨B0, o + k * 6, none⟩ = some (.int .i64 g.day) := hc 0 (by omega)
    have c1 : wr.cell? ⟨B0, o + k * 6 + 1, none⟩ = some (.int .i64 g.home) := hc 1 (by omega)
    have c2 : wr.cell? ⟨B0, o + k * 6 + 2, none⟩ = some (.int .i64 g.away) := hc 2 (by omega)
    have c3 : wr.cell? ⟨B0, o + k * 6 + 3, none⟩ = some (.int .i64 g.fin) := hc 3 (by omega)
    have c4 : wr.cell? ⟨B0, o + k * 6 + 4, none⟩ = some (.int .i64 g.hg) := hc 4 (by omega)
    have c5 : wr.cell? ⟨B0, o + k * 6 + 5, none⟩ = some (.int .i64 g.ag) := hc 5 (by omega)
    subst hg
    clear hb hc hn hL
    have HB1 : Hid (OcI W (wr.alloc (.cells (gmc g) 53)) x AF (some ⟨B0, o, none⟩) cf cg B n D L ∧ Has (wr.alloc (.cells (gmc g) 53)) wr.heap.size 53 (gmc g) ∧ B < wr.heap.size) := Lib.hid ⟨HB.out.step (below_one _ _), Has.new _ _ _, HB.out.m.lt⟩
    go_upto_region 5 with fail
    generalize wr.alloc (.cells (gmc g) 53) = w1 at HB1 ⊢
    generalize wr.heap.size = E at HB1 ⊢
    clear x1 c0 c1 c2 c3 c4 c5 HB hgs
    have y0 : w1.cell? ⟨E, 0, none⟩ = some (.int .i64 g.day) := HB1.out.2.1.cell 0
    have y1 : w1.cell? ⟨E, 1, none⟩ = some (.int .i64 g.home) := HB1.out.2.1.cell 1
    have y2 : w1.cell? ⟨E, 2, none⟩ = some (.int .i64 g.away) := HB1.out.2.1.cell 2
    have y3 : w1.cell? ⟨E, 3, none⟩ = some (.int .i64 g.fin) := HB1.out.2.1.cell 3
    have y4 : w1.cell? ⟨E, 4, none⟩ = some (.int .i64 g.hg) := HB1.out.2.1.cell 4
    have y5 : w1.cell? ⟨E, 5, none⟩ = some (.int .i64 g.ag) := HB1.out.2.1.cell 5
    unfold gmv at HOg
    cases hop : openB g <;> rw [hop] at HOg HTk HOo
    · have HQ : Hid (outsP (x.G.take (k + 1)) = L ∧ openN (x.G.take (k + 1)) = openN (x.G.take k)) := Lib.hid ⟨by rw [HTk.out]; rfl, by rw [HOo.out]; rfl⟩
      clear HTk hop HOo hmm
      go_wp2_with fail
      refine (HOg.out _).mono ?_
      rintro e w2 ⟨rfl, hb2⟩
      have H2 := Lib.hid (HB1.out.1.step hb2)
      clear hb2 y0 y1 y2 y3 y4 y5 HB1 HOg
      go_wp2_with fail
      go_roundg (x.G.length - (k + 1))
      case measure => omega
      case rel => exact ⟨k + 1, by omega, Nat.le_refl _, by go_num, B, n, D, rfl, by rw [HQ.out.2]; exact HN8.out.1, by rw [HQ.out.1]; exact H2⟩
    have HQ : Hid (outsP (x.G.take (k + 1)) = L.flatMap (fun p => (List.range 4).map (behindP p g)) ∧ openN (x.G.take (k + 1)) = openN (x.G.take k) + 1) := Lib.hid ⟨by rw [HTk.out]; rfl, by rw [HOo.out]; rfl⟩
    clear HTk hop HOo
    have HBh := Lib.hid (fun (p : Pt) (e : Nat) w (h : Wo w) (hp : p ∈ L) (he : e < 4) => behind_any p g e w h ((HLP.out p hp).mono (by omega)) HGk.out he)
    have HKP := Lib.hid (fun (p : Pt) (e : Nat) (hp : p ∈ L) => key_pt (behind_pb (HLP.out p hp) HGk.out e) (by omega))
    have HKL := Lib.hid (fun (p : Pt) (hp : p ∈ L) => key_pt (HLP.out p hp) (by omega))
    go_wp2_with fail
    refine (HOg.out _).mono ?_
    rintro e w2 ⟨rfl, hb2⟩
    have H2 := Lib.hid (And.intro ((HB1.out.1.step hb2).step (below_one w2 (.map #[] 0))) (And.intro ((HB1.out.2.1.below hb2 HB1.out.2.1.lt).alloc (.map #[] 0)) (And.intro (World.ownsMap_made w2 Tryd.prog 77 (plainElem (H := Unit) Tryd.prog 4)) (And.intro HB1.out.2.2 (show E < w2.heap.size from Nat.lt_of_lt_of_le HB1.out.2.1.lt hb2.size)))))
    clear hb2 y0 y1 y2 y3 y4 y5 HB1 HOg
    go_upto_region 7 with fail
    clear hmm
    generalize w2.alloc (.map #[] 0) = w3 at H2 ⊢
    generalize w2.heap.size = B' at H2 ⊢
    go_wp2_with (at_range; refine wpList_range_own _ rfl _ 79 rfl 77 4 law77 Tryd.underlying79 _ B n D rfl H2.out.1.m ?_; intro w4 hrg0 hg0 hs0)
    have HSZ := Lib.hid (own_size H2.out.1.m)
    have H4 := Lib.hid (show OdI W w4 x AF (some ⟨B0, o, none⟩) cf cg B n w3.heap.size E B' 0 D (.map []) L (putL [] g zeroP 0) (Maps.has D) (Maps.size D) [] g from by
      have hb : Below w3.heap.size w3 w4 := grown_step hg0 (Nat.le_refl _) (fun b e => by cases e)
      have h1 := H2.out.1.step hb
      exact ⟨h1.lx, H2.out.2.1.below hb H2.out.2.1.lt, hrg0, Vis.start H2.out.1.d, map_below H2.out.2.2.1 hb, MK.nil, ⟨H2.out.1.lt, H2.out.2.2.2.1, H2.out.2.2.2.2, H2.out.2.2.1.lt⟩⟩)
    clear hrg0 hg0 hs0 H2
    generalize w3.heap.size = R at H4 ⊢
    obtain ⟨wq, rfl⟩ : ∃ wq, wq = wr := ⟨_, rfl⟩
    go_frame
    go_loopg [25] (Maps.size D) (fun gq v wx => ∃ (left : Lit → Bool) (cnt n' : Nat) (D' : DataW Unit) (V : List Pt), cnt ≤ gq ∧ n' + 4 * cnt ≤ 4 * n ∧ Hid (OdI W wx x AF (some ⟨B0, o, none⟩) cf cg B n R E B' n' D D' L (putL V g zeroP 0) left cnt V g))
    case atStart => exact ⟨_, _, 0, _, [], Nat.le_refl _, by have := HSZ.out; omega, H4⟩
    case round =>
      clear H4
      obtain ⟨left, cnt, n', D', V, hcnt, hn', HW1⟩ := hrel
      go_wp2_with (at_next; refine wpList_next_ranges _ rfl _ rfl 77 law77 (plainElem (H := Unit) Tryd.prog 4) (fun v : Value => v) (fun v : Value => v) (fun key kl hkey => ⟨key, rfl⟩) (fun v y hv => ⟨v, rfl⟩) B R n D left cnt rfl HW1.out.r ?d1 ?d2)
      case d1 =>
        intro hc0 hl0
        have hdone := HW1.out.v.done (fun p hp => HKL.out p hp) hl0
        have hpow : n' ≤ 4 ^ openN (x.G.take (k + 1)) := by
          rw [HQ.out.2, Nat.pow_succ]
          have := HN8.out.1
          omega
        have HEnd := Lib.hid (show OcI W wr x AF (some ⟨B0, o, none⟩) cf cg B' n' D' (outsP (x.G.take (k + 1))) from by
          refine ⟨HW1.out.lx, HW1.out.m, HW1.out.d.congr (fun q => ?_), by have := HW1.out.lt; omega⟩
          rw [HQ.out.1, putL_zero]
          exact flat_congr g hdone q)
        have HPW := Lib.hid hpow
        clear hc0 hl0 hdone hpow HW1
        go_wp2_with fail
        go_roundg (x.G.length - (k + 1))
        case measure => omega
        case rel => exact ⟨k + 1, by omega, Nat.le_refl _, by go_num, B', n', D', rfl, HPW.out, HEnd⟩
      case d2 =>
        intro xv bb kl ya yb w7 cnt7 hkey hlx hv7 hat hrg7 hlt7 hg7 hs7 hen
        obtain ⟨p, rfl, hpL, hvis⟩ := HW1.out.v.next hkey hlx
        have H7 := Lib.hid (HW1.out.next hrg7 hvis hg7)
        have HPL := Lib.hid hpL
        have hcq : cnt7 < gk := by omega
        have hn7 : n' + 4 * cnt7 + 4 ≤ 4 * n := by omega
        have HBp := Lib.hid (fun (e : Nat) w (h : Wo w) (he : e < 4) => HBh.out p e w h HPL.out he)
        have HKp := Lib.hid (fun (e : Nat) => HKP.out p e HPL.out)
        have HLp := Lib.hid (fun (e : Nat) => (behind_pb (HLP.out p HPL.out) HGk.out e).l)
        unfold ptv at hen
        unfold ptv gmv PtPost at HBp
        have H8 := Lib.hid (show OdI W (w7.alloc (.cells (ptc p) 77)) x AF (some ⟨B0, o, none⟩) cf cg B n R E B' n' D D' L (putL V g p 0) (fun z => left z && !z.sameKey kl) cnt7 (V ++ [p]) g ∧ Has (w7.alloc (.cells (ptc p) 77)) w7.heap.size 77 (ptc p) ∧ R < w7.heap.size from by
          have h1 := H7.out.step (below_one w7 (.cells (ptc p) 77))
          rw [putL_zero] at h1
          exact ⟨by rw [putL_zero]; exact h1, Has.new _ _ _, H7.out.r.lt⟩)
        have HP9 := Lib.hid (And.intro (putL_four V g p) (putL_zero (V ++ [p]) g zeroP))
        have HPS := Lib.hid (fun e => putL_succ V g p e)
        obtain ⟨lf, hlf⟩ : ∃ lf, lf = (fun z : Lit => left z && !z.sameKey kl) := ⟨_, rfl⟩
        rw [← hlf] at H8
        clear hkey hlx hv7 hat hrg7 hlt7 hg7 hs7 hvis hpL HW1 hcnt hn' H7 hlf
        go_upto_region 10 with fail
        clear hen
        generalize w7.alloc (.cells (ptc p) 77) = w8 at H8 ⊢
        generalize w7.heap.size = P at H8 ⊢
        obtain ⟨wz, rfl⟩ : ∃ wz, wz = wr := ⟨_, rfl⟩
        go_wp2_with fail
        go_loopg [29] 4 (fun gk i wx => ∃ e : Nat, e ≤ 4 ∧ 4 - e ≤ gk ∧ i = .int .i64 e ∧ ∃ n'' D'', n'' + 4 * cnt7 + (4 - e) ≤ 4 * n ∧ Hid (OdI W wx x AF (some ⟨B0, o, none⟩) cf cg B n R E B' n'' D D'' L (putL V g p e) lf cnt7 (V ++ [p]) g ∧ Has wx P 77 (ptc p) ∧ R < P))
        case atStart => exact ⟨0, Nat.zero_le _, Nat.le_refl _, rfl, n', D', by omega, H8⟩
        case round =>
          clear H8
          obtain ⟨e, he, hge, rfl, n'', D'', hn'', HW2⟩ := hrel
          by_cases hel : e < 4
          rotate_left
          · have hge4 : ¬ (e : Int) < 4 := by omega
            obtain rfl : e = 4 := by omega
            have HEnd : Hid (OdI W wr x AF (some ⟨B0, o, none⟩) cf cg B n R E B' n'' D D'' L (putL (V ++ [p]) g zeroP 0) lf cnt7 (V ++ [p]) g) := Lib.hid (by
              have h1 := HW2.out.1
              rw [HP9.out.1, ← HP9.out.2] at h1
              exact h1)
            clear HW2 HP9 HPS HBp HKp HLp
            go_wp2_with fail
            go_roundg cnt7
            case measure => omega
            case rel => exact ⟨lf, cnt7, n'', D'', V ++ [p], Nat.le_refl _, by omega, HEnd⟩
          have hel2 : (e : Int) < 4 := by omega
          have HBe := Lib.hid (fun w h => HBp.out e w h hel)
          obtain ⟨kq, hkq⟩ := HKp.out e
          have HKQ := Lib.hid (And.intro hkq (And.intro (HLp.out e) (HPS.out e)))
          obtain ⟨q, hq⟩ : ∃ q, q = behindP p g e := ⟨_, rfl⟩
          rw [← hq] at HKQ HBe
          have p0 : wr.cell? ⟨P, 0, none⟩ = some (.int .i64 (p[0]?.getD 0)) := HW2.out.2.1.cell 0
          have p1 : wr.cell? ⟨P, 1, none⟩ = some (.int .i64 (p[1]?.getD 0)) := HW2.out.2.1.cell 1
          have p2 : wr.cell? ⟨P, 2, none⟩ = some (.int .i64 (p[2]?.getD 0)) := HW2.out.2.1.cell 2
          have p3 : wr.cell? ⟨P, 3, none⟩ = some (.int .i64 (p[3]?.getD 0)) := HW2.out.2.1.cell 3
          have p4 : wr.cell? ⟨P, 4, none⟩ = some (.int .i64 (p[4]?.getD 0)) := HW2.out.2.1.cell 4
          have p5 : wr.cell? ⟨P, 5, none⟩ = some (.int .i64 (p[5]?.getD 0)) := HW2.out.2.1.cell 5
          have y0 : wr.cell? ⟨E, 0, none⟩ = some (.int .i64 g.day) := HW2.out.1.fg.cell 0
          have y1 : wr.cell? ⟨E, 1, none⟩ = some (.int .i64 g.home) := HW2.out.1.fg.cell 1
          have y2 : wr.cell? ⟨E, 2, none⟩ = some (.int .i64 g.away) := HW2.out.1.fg.cell 2
          have y3 : wr.cell? ⟨E, 3, none⟩ = some (.int .i64 g.fin) := HW2.out.1.fg.cell 3
          have y4 : wr.cell? ⟨E, 4, none⟩ = some (.int .i64 g.hg) := HW2.out.1.fg.cell 4
          have y5 : wr.cell? ⟨E, 5, none⟩ = some (.int .i64 g.ag) := HW2.out.1.fg.cell 5
          have HWo := Lib.hid (HW.out.below HW2.out.1.lx.b)
          have hN := HN8.out
          have hpow := pow_le_eight (HOL.out k)
          have hnm : n'' < 1000000 := by omega
          clear hkq hq hN hpow
          go_wp2_with fail
          refine (HBe.out _ HWo.out).mono ?_
          rintro e9 w9' ⟨rfl, hb9⟩
          have H9 := Lib.hid (show OdI W w9' x AF (some ⟨B0, o, none⟩) cf cg B n R E B' n'' D D'' L (putL V g p e) lf cnt7 (V ++ [p]) g ∧ Has w9' P 77 (ptc p) ∧ R < P from ⟨HW2.out.1.step hb9, HW2.out.2.1.below hb9 HW2.out.2.1.lt, HW2.out.2.2⟩)
          clear hb9 p0 p1 p2 p3 p4 p5 y0 y1 y2 y3 y4 y5 HW2 HBe HWo
          go_wp2_with (at_mapUpdate; refine wpList_mapUpdate_own _ rfl _ _ _ 79 rfl 77 4 law77 Tryd.underlying79 (plainElem (H := Unit) Tryd.prog 4) B' n'' D'' rfl H9.out.1.m (by unfold maxLen; omega) (ptv q) (.bool true) kq rfl rfl HKQ.out.1 (.lit (.bool true)) [] (plainElem_bool Tryd.underlying4 true) ?_; intro w10 hown10 hgr10)
          have H10 := Lib.hid (show OdI W w10 x AF (some ⟨B0, o, none⟩) cf cg B n R E B' (n'' + 1) D (D''.put kq (.lit (.bool true))) L (putL V g p (e + 1)) lf cnt7 (V ++ [p]) g ∧ Has w10 P 77 (ptc p) ∧ R < P from by
            refine ⟨?_, ?_, H9.out.2.2⟩
            · rw [HKQ.out.2.2]
              exact H9.out.1.put HKQ.out.2.1 HKQ.out.1 hown10 hgr10
            · have h1 : P ≠ B' := by have := H9.out.1.lt; have := H9.out.2.2; omega
              have h2 := hgr10.block P H9.out.2.1.lt (fun e => h1 (Option.some.inj e))
              exact h2.trans H9.out.2.1)
          clear hown10 hgr10 H9
          go_wp2_with fail
          go_roundg (4 - (e + 1))
          case measure => omega
          case rel => exact ⟨e + 1, by omega, Nat.le_refl _, by go_num, n'' + 1, _, by omega, H10⟩
end Go.Proofs.YtljkgjfmambfoaaDoor
