/- A region that draws its order, in a round of a loop over a function: it goes there as it goes elsewhere. -/
import Derived.Test.YtjfopmjphiddiaaMgB
import Derived.OrdersIn
import Derived.TacticsIn
import Derived.RangeFuncCalls
import Derived.Test.YtjfopmjphiddiaaMgC
namespace Go.Proofs.Ytjfopmjphiddiaa
open Go.RowKit

section
variable {P : Program} {ops : Array Oper} {Q : Exit → Act → World → Prop} {md : Region.Mode} {l n : Nat}
theorem operIn_of {o : Oper} {a : Act} {w : World} {K K' : Act → World → Prop} (hnd : ∀ c, o.op ≠ Op.defer c) (hK : ∀ a w, K a w → K' a w) (h : o.wp P a w K Q) : o.wpIn (Fence.wide.inRound l) n P a w K' Q := by
  refine ⟨fun _ _ => trivial, ?_⟩
  rw [Fence.inRound_round, Oper.semAt_some l a.eval o hnd]
  unfold Oper.wp at h
  generalize (execOp a.eval o).run P w = r at h
  cases r with
  | ok x w' =>
    cases x with
    | value v => exact hK _ _ h
    | skip => exact hK _ _ h
    | defer d => exact hK _ _ h
    | enter f args =>
      refine ⟨(fun h => by cases h), ?_⟩
      exact (CallsIn.inRound l (callsIn_wide.2 h)).mono (fun e w'' he => by cases e <;> first | exact hK _ _ he | exact he)
    | row row args =>
      refine ⟨(fun h => by cases h), fun c cs _ => ?_⟩
      obtain ⟨v, w', r, s⟩ := h c cs
      exact ⟨v, w', hK _ _ r, stepsIn_wide.2 s⟩
    | _ => exact h.elim
  | halt x w' =>
    cases x with
    | panic v => exact h
    | _ => exact h.elim
theorem wpAnyIn_of_any (hnd : ∀ (i : Nat) (o : Oper) c, ops[i]? = some o → o.op ≠ Op.defer c) (hlo : ¬ LetsOut Q) :
    ∀ (fuel : Nat) (listed : Array Bool) (a : Act) (w : World), wpAny P md ops Q fuel listed a w → wpAnyIn (Fence.wide.inRound l) n P md ops Q fuel listed a w
  | 0, _, _, _, h => h
  | fuel + 1, listed, a, w, h => ⟨h.1, fun i hi => by
    have h1 := h.2 i hi
    unfold wpOp at h1
    unfold wpOpIn
    cases ho : ops[i]? with
    | none =>
      simp only [ho] at h1
      exact wpAnyIn_of_any hnd hlo fuel _ a w h1
    | some o =>
      simp only [ho] at h1
      simp only
      split
      · rename_i hw
        rw [if_pos hw] at h1
        rcases h1 with h1 | h1
        · exact operIn_of (fun c => hnd i o c ho) (fun a w => wpAnyIn_of_any hnd hlo fuel _ a w) h1
        · exact absurd h1.2 hlo
      · rename_i hw
        rw [if_neg hw] at h1
        exact ⟨fun _ _ => trivial, wpAnyIn_of_any hnd hlo fuel _ _ w h1⟩⟩
def noDefer (ops : Array Oper) : Bool := ops.all fun o => match o.op with | .defer _ => false | _ => true
theorem noDefer_spec (h : noDefer ops = true) : ∀ (i : Nat) (o : Oper) c, ops[i]? = some o → o.op ≠ Op.defer c := fun i o c ho he => by
  unfold noDefer at h
  rw [Array.all_eq_true] at h
  obtain ⟨hi, rfl⟩ := Array.getElem?_eq_some_iff.1 ho
  have := h i hi
  rw [he] at this
  cases this
theorem wp_region_late_in (S : World → Prop) (late : List Nat) {id : Nat} {a : Act} {w : World} (hm : P.follows .mixedOrders = true) (hnd : noDefer ops = true) (hlo : ¬ LetsOut Q)
    (h : wpLate P .any ops Q S late ops.size (Array.replicate ops.size false) a w.drew) : (Code.region id ops true).wpIn (Fence.wide.inRound l) n P Q a w :=
  wpIn_region_any hm (wpAnyIn_of_any (noDefer_spec hnd) hlo _ _ _ _ (wpAny_of_late _ _ _ _ h))
/-- a region that draws, in a round: what it achieves elsewhere, if no operation defers and nothing runs out -/
theorem wpIn_region_of_any {id : Nat} {a : Act} {w : World} (hm : P.follows .mixedOrders = true) (hnd : noDefer ops = true) (hlo : ¬ LetsOut Q)
    (h : wpAny P .any ops Q ops.size (Array.replicate ops.size false) a w.drew) : (Code.region id ops true).wpIn (Fence.wide.inRound l) n P Q a w :=
  wpIn_region_any hm (wpAnyIn_of_any (noDefer_spec hnd) hlo _ _ _ _ h)
end
end Go.Proofs.Ytjfopmjphiddiaa
/- A round of pass: a slug comes in, and what flows out is handed on. -/
namespace Go.Proofs.Ytjfopmjphiddiaa
open Go.RowKit Go.Shelf
attribute [local go_sem] Oper.semAt_some

/-- a loop over a function, within a round, whose rounds leave no jump -/
theorem wpIn_range_inner {l2 n : Nat} {r2 : Loop} {P : Program} {g : Operand} {ps : Array Tmp} {assign body : Code} {Q : Exit → Act → World → Prop} {a : Act} {w : World} {gf : Nat} {lb : Array Value}
    (hl2 : w.heap[l2]? = some (.loop r2)) (hg : a.eval g = .func (.func gf) #[] lb) (eg : Enters P gf)
    (h : ∀ fn, CallsIn Fence.wide (n - 1) P gf (#[.func (.yield w.heap.size) #[] #[]] ++ lb) (w.alloc (.loop (recAt fn a.tmps ps assign body r2.defers)))
      fun e W3 => (∃ v, e = .returned v) ∧ W3.heap[w.heap.size]? = some (.loop (recAt fn a.tmps ps assign body r2.defers)) ∧ ∀ r, Q .normal a (W3.putObj w.heap.size (.loop r))) :
    (Code.rangeFunc g ps assign body).wpIn (Fence.wide.inRound l2) n P Q a w := by
  refine wpIn_rangeFunc fun fn _ => ?_
  refine ⟨w.heap.size, [], w.alloc (.loop (recAt fn a.tmps ps assign body r2.defers)), { target := .fn (.func gf) lb, args := #[.func (.yield w.heap.size) #[] #[]] }, w.alloc (.loop (recAt fn a.tmps ps assign body r2.defers)), gf, #[.func (.yield w.heap.size) #[] #[]] ++ lb, w.alloc (.loop (recAt fn a.tmps ps assign body r2.defers)), run_enterLoop_inner hl2 _ _ _ _ _, ?_, ?_, ?_, (fun h => by cases h), ?_⟩
  · simp only [resolve, hg]
    simp [go_sem]
  · intro f' _; trivial
  · have := eg
    unfold Enters at this
    simp [invoke, go_sem, this]
  · refine (CallsIn.inRound l2 (h fn)).mono ?_
    rintro e W3 ⟨⟨v, rfl⟩, hl, hq⟩
    exact ⟨none, _, run_endLoop hl (by simp), hq _⟩
theorem enters76 : Enters Try.prog 76 := enters_of Try.func76 (by kernel_rfl) rfl
end Go.Proofs.Ytjfopmjphiddiaa
/- A round of pass, walked: a slug comes in, what is too much flows out and is handed on. -/
namespace Go.Proofs.Ytjfopmjphiddiaa
open Go.RowKit Go.Shelf
attribute [local go_sem] Oper.semAt_some

def S3 (Bp o bq bs : Nat) (q : Qu) (s : Sl) (w : World) : Prop :=
  w.cell? ⟨bq, 0, none⟩ = some (.pointer (some ⟨Bp, o, none⟩)) ∧ w.cell? ⟨Bp, o + 1, none⟩ = some (.slice (some ⟨q.g, q.off, none⟩) q.l.length q.cap) ∧ w.cell? ⟨bs, 0, none⟩ = some (.int .i64 s.v) ∧ w.cell? ⟨bs, 1, none⟩ = some (.int .i64 s.h)
def S4 (Bp o bq : Nat) (room : Int) (w : World) : Prop :=
  w.cell? ⟨bq, 0, none⟩ = some (.pointer (some ⟨Bp, o, none⟩)) ∧ w.cell? ⟨Bp, o, none⟩ = some (.int .i64 room)

theorem cell_lt {w : World} {a : Addr} {v : Value} (h : w.cell? a = some v) : a.block < w.heap.size := by
  unfold World.cell? at h
  cases ho : w.heap[a.block]? with
  | none => simp [ho] at h
  | some o => exact (Array.getElem?_eq_some_iff.1 ho).1
theorem cell_below {w w' : World} {a : Addr} {v : Value} (h : w.cell? a = some v) (hb : Below w.heap.size w w') : w'.cell? a = some v := (hb.cell (cell_lt h)).trans h
theorem cell_only {S : Nat → Prop} {w w' : World} {a : Addr} {v : Value} (h : w.cell? a = some v) (ho : Only S w w') (hS : ¬ S a.block) : w'.cell? a = some v := (World.cell?_of_block (ho.block a.block (cell_lt h) hS)).trans h
theorem QHas.below {w w' : World} {q : Qu} (h : QHas w q) (hb : Below w.heap.size w w') : QHas w' q := h.only (S := fun _ => False) (Only.of_below hb) (fun h => h)
theorem S3.only {Bp o bq bs : Nat} {q : Qu} {s : Sl} {w w' : World} (h : S3 Bp o bq bs q s w) (ho : Only (fun k => k = q.g) w w') (h1 : bq ≠ q.g) (h2 : Bp ≠ q.g) (h3 : bs ≠ q.g) : S3 Bp o bq bs q s w' :=
  ⟨cell_only h.1 ho h1, cell_only h.2.1 ho h2, cell_only h.2.2.1 ho h3, cell_only h.2.2.2 ho h3⟩
theorem S3.below {Bp o bq bs : Nat} {q : Qu} {s : Sl} {w w' : World} (h : S3 Bp o bq bs q s w) (hb : Below w.heap.size w w') : S3 Bp o bq bs q s w' :=
  ⟨cell_below h.1 hb, cell_below h.2.1 hb, cell_below h.2.2.1 hb, cell_below h.2.2.2 hb⟩
theorem S4.below {Bp o bq : Nat} {r : Int} {w w' : World} (h : S4 Bp o bq r w) (hb : Below w.heap.size w w') : S4 Bp o bq r w' := ⟨cell_below h.1 hb, cell_below h.2 hb⟩
/-- behind a round -/
def RoundPost (Bc Bp : Nat) (W : World) (hd qs : List Qu) (q : Qu) (y : Yx) (F : Yx → Sl → Yx) (s : Sl) (e : Ending) (W2 : World) : Prop :=
  e = .returned (.bool true) ∧ ∃ qs2 q2, Mv Bc Bp W qs W2 qs2 ∧ q2.pp = q.pp.enter s ∧ Here W2 Bc Bp hd q2 ((q.pp.outs s).foldl F y) qs2

set_option maxRecDepth 100000 in
set_option maxHeartbeats 4000000 in
theorem round74a (fn0 : FuncId) (l l2 bi bq Bx D Bc Bp : Nat) (hd qs0 qs : List Qu) (q : Qu) (y : Yx) (s : Sl) (F : Yx → Sl → Yx) (G : Yx → Sl → Prop) (W0 W : World) (u0 u4 u5 u6 u7 u8 u9 u10 u11 u12 u13 u14 u15 u16 u17 u18 u19 u20 u21 u22 u23 u24 u25 u26 u27 u28 u29 u30 u31 u32 u33 : Value) {assign body : Code}
    (hab : some (assign, body) = (Try.f74.body.map loopParts).bind (·[0]?))
    (hl : W.heap[l2]? = some (.loop (recAt fn0 #[u0, .pointer (some ⟨bi, 0, none⟩), .pointer (some ⟨bq, 0, none⟩), .pointer (some ⟨Bx, 0, none⟩), u4, u5, u6, u7, u8, u9, u10, u11, u12, u13, u14, u15, u16, u17, u18, u19, u20, u21, u22, u23, u24, u25, u26, u27, u28, u29, u30, u31, u32, u33] #[7] assign body D)))
    (hx : Has W Bx 86 #[.func (.yield l) #[] #[]]) (nx : ¬ CS Bc Bp qs Bx) (hq : Has W bq 109 #[.pointer (some ⟨Bp, hd.length * 2, none⟩)]) (nq : ¬ CS Bc Bp qs bq)
    (hH : Here W Bc Bp hd q y qs) (hM : Mv Bc Bp W0 qs0 W qs) (hC : ∃ t r, Circ W0 Bc Bp t qs0 r) (hl0 : W0.heap.size ≤ l2)
    (hp : q.pp.ok) (hs : okS s) (hsv : s.v ≤ 1048576) (hsh : hea q.l + s.h ≤ 2199023255552)
    (hG : ∀ a s' b, q.pp.outs s = a ++ s' :: b → G (a.foldl F y) s') (hY : Taker l Bc Bp W0 hd qs0 F G) :
    YieldAt Fence.wide 2 Try.prog l2 #[slv s] W (RoundPost Bc Bp W hd qs q y F s) := by
  obtain ⟨rc, hrc⟩ : ∃ rc, rc = recAt fn0 #[u0, .pointer (some ⟨bi, 0, none⟩), .pointer (some ⟨bq, 0, none⟩), .pointer (some ⟨Bx, 0, none⟩), u4, u5, u6, u7, u8, u9, u10, u11, u12, u13, u14, u15, u16, u17, u18, u19, u20, u21, u22, u23, u24, u25, u26, u27, u28, u29, u30, u31, u32, u33] #[7] assign body D := ⟨_, rfl⟩
  rw [← hrc] at hl
  have hy := run_yield (P := Try.prog) (args := #[slv s]) hl (by rw [hrc]; rfl)
  refine ⟨fn0, _, assign, body, by rw [hy, hrc], roundIn_of_wpIn trivial ?_⟩
  clear hy
  have hab0 := hab
  simp only [Try.f74, Option.map_some, Option.bind_some, loopParts, List.append_nil, List.nil_append, List.getElem?_cons_zero, Option.some.injEq, Prod.mk.injEq] at hab
  obtain ⟨ha, hb⟩ := hab
  obtain ⟨Wa, hWa⟩ : ∃ Wa, Wa = W.alloc (Obj.cells #[Value.int IntKind.i64 s.v, Value.int IntKind.i64 s.h] 23) := ⟨_, rfl⟩
  have hba : Below W.heap.size W Wa := by rw [hWa]; exact below_one _ _
  have hla := heap_below hba hl
  have hbeg := run_beginRound (P := Try.prog) hla (by rw [hrc])
  obtain ⟨W2, hW2⟩ : ∃ W2, Wa.putObj l2 (.loop { rc with state := .busy }) = W2 := ⟨_, rfl⟩
  obtain ⟨t0, r0, hC0⟩ := hC
  have hM2 : Mv Bc Bp W0 qs0 W2 qs := by rw [← hW2]; exact (hM.trans (Mv.below hba) hC0).put hl0 _
  have hH2 : Here W2 Bc Bp hd q y qs := by rw [← hW2]; exact (hH.below hba).putObj hla _
  have hx2 : Has W2 Bx 86 #[.func (.yield l) #[] #[]] := by rw [← hW2]; exact (hx.below hba hx.lt).putObj hla _
  have hq2 : Has W2 bq 109 #[.pointer (some ⟨Bp, hd.length * 2, none⟩)] := by rw [← hW2]; exact (hq.below hba hq.lt).putObj hla _
  have hl2 : W2.heap[l2]? = some (.loop { rc with state := .busy }) := by rw [← hW2]; exact World.putObj_heap_same (Array.getElem?_eq_some_iff.1 hla).1
  have hs2 : Has W2 W.heap.size 23 #[iv s.v, iv s.h] := by rw [← hW2]; exact Has.putObj (by rw [hWa]; exact Has.new _ _ _) hla _
  have nxs : ¬ CS Bc Bp qs W.heap.size := fun h => by have := hH.circ.lt h; omega
  have hEnd : ∀ W3, (∃ qs2 q2, Mv Bc Bp W2 qs W3 qs2 ∧ q2.pp = q.pp.enter s ∧ Here W3 Bc Bp hd q2 ((q.pp.outs s).foldl F y) qs2) → ∃ v w', (Instr.endRound l2 none).run Try.prog W3 = .ok v w' ∧ RoundPost Bc Bp W hd qs q y F s (.returned v) w' := by
    rintro W3 ⟨qs2, q2, m1, m3, m2⟩
    have hl3 := m1.block hl2 (loop_not hH2.circ hl2)
    have hend := run_endRound (P := Try.prog) none hl3
    refine ⟨_, _, hend, rfl, qs2, q2, ?_, m3, m2.putObj hl3 _⟩
    have e : ({ rc with state := if (none : Option Code).isNone then .ready else .done, pending := none } : Loop) = rc := by rw [hrc]; rfl
    refine (Mv.below hba).trans ?_ hH.circ
    show Mv Bc Bp Wa qs (W3.putObj l2 (.loop { { rc with state := .busy } with state := if (none : Option Code).isNone then .ready else .done, pending := none })) qs2
    rw [show ({ ({ rc with state := .busy } : Loop) with state := if (none : Option Code).isNone then .ready else .done, pending := none } : Loop) = rc from e]
    exact Mv.round hla (loop_not (hH.below hba).circ hla) (by rw [hW2]; exact m1) hl3
  have HE := Lib.hid hEnd
  have HR := Lib.hid hrc
  rw [ha]
  have hzip : ∀ (t : Array Value) (v : Value), (#[7].zip #[v]).foldl (fun tmps (p : Tmp × Value) => match p with | (t, a) => tmps.setIfInBounds t a) t = t.setIfInBounds 7 v := fun t v => by simp [Array.zip]
  rw [hzip]
  clear hzip
  rw [hW2, hWa] at hbeg
  have HB2 := Lib.hid hbeg
  have hS0 : (S3 Bp (hd.length * 2) bq W.heap.size q s) W2.drew := ⟨hq2.cell 0, (hH2.circ.p.cell _).trans (by rw [hH2.pc.2, Qu.sv]), hs2.cell 0, hs2.cell 1⟩
  have HS0 := Lib.hid hS0
  have HX := Lib.hid (And.intro hx2 (And.intro hq2 (And.intro hl2 hs2)))
  have HH := Lib.hid (And.intro hH2 (And.intro hM2 hC0))
  have HP := Lib.hid (And.intro hp (And.intro hs (And.intro hsv hsh)))
  have HG := Lib.hid (And.intro hG hY)
  have HN := Lib.hid (And.intro nx (And.intro nq nxs))
  have HA := Lib.hid (And.intro hab0 hl0)
  clear hab0 hEnd hbeg hWa hba hla hM2 hH2 hx2 hq2 hl2 hs2 hl hx hq nx nq nxs hH hM hC0 hl0 hY hG ha hW2 hrc hp hs hsv hsh hS0
  change Code.wpIn _ _ _ _ _ { tmps := (#[u0, .pointer (some ⟨bi, 0, none⟩), .pointer (some ⟨bq, 0, none⟩), .pointer (some ⟨Bx, 0, none⟩), u4, u5, u6, u7, u8, u9, u10, u11, u12, u13, u14, u15, u16, u17, u18, u19, u20, u21, u22, u23, u24, u25, u26, u27, u28, u29, u30, u31, u32, u33] : Array Value).setIfInBounds 7 (slv s), defers := [] } W
  gi_wp2
  refine ⟨W2, HB2.out, ?_⟩
  clear hb HB2
  gi_wp2
  refine wp_region_late_in (S3 Bp (hd.length * 2) bq W.heap.size q s) [10] (by kernel_rfl) (by kernel_rfl) (by rintro ⟨_, _, h⟩; exact h) ?_
  refine wpLate_take (i := 0) (oi := ?oi0) (v := ?v0) [8, 9, 10] ?hi0 (by kernel_rfl) (by kernel_rfl) (by kernel_rfl) (by kernel_rfl) (by kernel_rfl) ?hQ0 (Or.inl ⟨?hw0, ?hy0⟩) HS0.out ?rest0
  case hi0 => (simp only [List.getElem?_toArray, List.getElem?_cons_zero]; rfl)
  case hQ0 => exact fun _ _ _ h => h
  case hw0 => rfl
  case hy0 =>
    intro w' hSw
    obtain ⟨r0, r1, r2, r3⟩ := hSw
    go_simp
    try exact rfl
  simp only [Act.put, List.setIfInBounds_toArray, List.set_cons_zero, List.set_cons_succ]
  refine wpLate_take (i := 1) (oi := ?oi1) (v := ?v1) [2, 3, 4, 7, 10] ?hi1 (by kernel_rfl) (by kernel_rfl) (by kernel_rfl) (by kernel_rfl) (by kernel_rfl) ?hQ1 (Or.inl ⟨?hw1, ?hy1⟩) HS0.out ?rest1
  case hi1 => (simp only [List.getElem?_toArray, List.getElem?_cons_zero, List.getElem?_cons_succ]; rfl)
  case hQ1 => exact fun _ _ _ h => h
  case hw1 => rfl
  case hy1 =>
    intro w' hSw
    obtain ⟨r0, r1, r2, r3⟩ := hSw
    go_simp
    try exact rfl
  simp only [Act.put, List.setIfInBounds_toArray, List.set_cons_zero, List.set_cons_succ]
  refine wpLate_take (i := 2) (oi := ?oi2) (v := ?v2) [3, 4, 7, 10] ?hi2 (by kernel_rfl) (by kernel_rfl) (by kernel_rfl) (by kernel_rfl) (by kernel_rfl) ?hQ2 (Or.inl ⟨?hw2, ?hy2⟩) HS0.out ?rest2
  case hi2 => (simp only [List.getElem?_toArray, List.getElem?_cons_zero, List.getElem?_cons_succ]; rfl)
  case hQ2 => exact fun _ _ _ h => h
  case hw2 => rfl
  case hy2 =>
    intro w' hSw
    obtain ⟨r0, r1, r2, r3⟩ := hSw
    go_simp
    try exact rfl
  simp only [Act.put, List.setIfInBounds_toArray, List.set_cons_zero, List.set_cons_succ]
  refine wpLate_take (i := 3) (oi := ?oi3) (v := ?v3) [4, 7, 10] ?hi3 (by kernel_rfl) (by kernel_rfl) (by kernel_rfl) (by kernel_rfl) (by kernel_rfl) ?hQ3 (Or.inl ⟨?hw3, ?hy3⟩) HS0.out ?rest3
  case hi3 => (simp only [List.getElem?_toArray, List.getElem?_cons_zero, List.getElem?_cons_succ]; rfl)
  case hQ3 => exact fun _ _ _ h => h
  case hw3 => rfl
  case hy3 =>
    intro w' hSw
    obtain ⟨r0, r1, r2, r3⟩ := hSw
    go_simp
    try exact rfl
  simp only [Act.put, List.setIfInBounds_toArray, List.set_cons_zero, List.set_cons_succ]
  refine wpLate_take (i := 4) (oi := ?oi4) (v := ?v4) [7, 10] ?hi4 (by kernel_rfl) (by kernel_rfl) (by kernel_rfl) (by kernel_rfl) (by kernel_rfl) ?hQ4 (Or.inl ⟨?hw4, ?hy4⟩) HS0.out ?rest4
  case hi4 => (simp only [List.getElem?_toArray, List.getElem?_cons_zero, List.getElem?_cons_succ]; rfl)
  case hQ4 => exact fun _ _ _ h => h
  case hw4 => rfl
  case hy4 =>
    intro w' hSw
    obtain ⟨r0, r1, r2, r3⟩ := hSw
    go_simp
    try exact rfl
  simp only [Act.put, List.setIfInBounds_toArray, List.set_cons_zero, List.set_cons_succ]
  refine wpLate_take (i := 5) (oi := ?oi5) (v := ?v5) [6, 7, 10] ?hi5 (by kernel_rfl) (by kernel_rfl) (by kernel_rfl) (by kernel_rfl) (by kernel_rfl) ?hQ5 (Or.inl ⟨?hw5, ?hy5⟩) HS0.out ?rest5
  case hi5 => (simp only [List.getElem?_toArray, List.getElem?_cons_zero, List.getElem?_cons_succ]; rfl)
  case hQ5 => exact fun _ _ _ h => h
  case hw5 => rfl
  case hy5 =>
    intro w' hSw
    obtain ⟨r0, r1, r2, r3⟩ := hSw
    go_simp
    try exact rfl
  simp only [Act.put, List.setIfInBounds_toArray, List.set_cons_zero, List.set_cons_succ]
  refine wpLate_one (i := 6) (o := ?o6) (by kernel_rfl) ?ho6 ?hk6
  case ho6 => (simp only [List.getElem?_toArray, List.getElem?_cons_zero, List.getElem?_cons_succ]; rfl)
  intro K hK
  go_simp
  refine hK.out _ _ (fun _ => HS0.out.below (below_one _ _)) ?_
  clear hK K
  try simp only [Act.put, List.setIfInBounds_toArray, List.set_cons_zero, List.set_cons_succ]
  refine wpLate_one (i := 7) (o := ?o7) (by kernel_rfl) ?ho7 ?hk7
  case ho7 => (simp only [List.getElem?_toArray, List.getElem?_cons_zero, List.getElem?_cons_succ]; rfl)
  intro K hK
  obtain ⟨hp, hs, hsv, hsh⟩ := HP.out
  have hp16 := hp.len
  refine step_append_q rfl (.tmp 12) (.tmp 14) rfl q (HH.out.1.qhas.below (Below.drew (below_one _ _))) rfl W2.heap.size 1 s rfl (Has.drew (Has.new _ _ _)) (by simp only [Qu.pp] at hp16; omega) ?_
  intro q1 w5 e1 e2 e3 hq5 ho5
  obtain ⟨nx, nq, nxs⟩ := HN.out
  have hqg : CS Bc Bp qs q.g := .inr (.inr (by obtain ⟨hi, e⟩ := HH.out.1.at; rw [← e]; exact mem_g hi))
  have hS5 : S3 Bp (hd.length * 2) bq W.heap.size q s w5 := ((HS0.out.below (below_one _ _))).only ho5 (fun e => nq (by rw [e]; exact hqg)) (Ne.symm HH.out.1.ne) (fun e => nxs (by rw [e]; exact hqg))
  have HS5 := Lib.hid hS5
  refine hK.out _ _ (fun _ => hS5) ?_
  clear hK K
  try simp only [Act.put, List.setIfInBounds_toArray, List.set_cons_zero, List.set_cons_succ]
  have hp5 : Has w5 Bp 88 (qcells qs) := Has.only (Has.drew (Has.alloc HH.out.1.circ.p _)) ho5 (Ne.symm HH.out.1.ne)
  have p0 := hS5.2.1
  have pf := hp5.frozen (hd.length * 2 + 1)
  have pl := hp5.lt
  have h6 : Has (w5.setCell ⟨Bp, hd.length * 2 + 1, none⟩ q1.sv) Bp 88 ((qcells qs).setIfInBounds (hd.length * 2 + 1) q1.sv) := hp5.set _ _
  have ho6 : Only (fun k => k = Bp ∨ k = q.g) W2 (w5.setCell ⟨Bp, hd.length * 2 + 1, none⟩ q1.sv) := by
    refine Only.setCell (Only.from_ (Only.drew (Only.alloc (Only.refl _ W2) _)) ho5 (fun _ _ h => .inr h)) ?_ _
    exact .inl (.inl rfl)
  have hq16 : QHas (w5.setCell ⟨Bp, hd.length * 2 + 1, none⟩ q1.sv) q1 := by
    refine hq5.only (S := fun k => k = Bp) (Only.setCell (Only.refl _ _) ?_ _) ?_
    · exact .inl rfl
    rcases e3 with e3 | e3
    · rw [e3]; exact HH.out.1.ne
    · have := HH.out.1.circ.p.lt
      simp only [World.size_drew, World.size_alloc] at e3
      omega
  obtain ⟨qs1, k1, k2⟩ := HH.out.1.upd (q' := q1) e2 (e3.imp id (fun h => by simp only [World.size_drew, World.size_alloc] at h; omega)) h6 hq16 ho6
  have K1 := Lib.hid (And.intro k1 (And.intro k2 (And.intro e1 e2)))
  clear hp hs hsv hsh hp16 e1 e2 e3 hq5 ho5 hS5 hp5 h6 ho6 hq16 k1 k2 hqg nx nq nxs
  refine wpLate_one (i := 8) (o := ?o8) (by kernel_rfl) ?ho8 ?hk8
  case ho8 => (simp only [List.getElem?_toArray, List.getElem?_cons_zero, List.getElem?_cons_succ]; rfl)
  intro K hK
  go_simp
  refine hK.out _ _ (fun _ => HS5.out) ?_
  clear hK K
  try simp only [Act.put, List.setIfInBounds_toArray, List.set_cons_zero, List.set_cons_succ]
  refine wpLate_one (i := 9) (o := ?o9) (by kernel_rfl) ?ho9 ?hk9
  case ho9 => (simp only [List.getElem?_toArray, List.getElem?_cons_zero, List.getElem?_cons_succ]; rfl)
  intro K hK
  go_simp
  refine hK.out _ _ (fun _ => HS5.out) ?_
  clear hK K
  try simp only [Act.put, List.setIfInBounds_toArray, List.set_cons_zero, List.set_cons_succ]
  refine wpLate_one (i := 10) (o := ?o10) (by kernel_rfl) ?ho10 ?hk10
  case ho10 => (simp only [List.getElem?_toArray, List.getElem?_cons_zero, List.getElem?_cons_succ]; rfl)
  intro K hK
  obtain ⟨w6, hw6⟩ : ∃ w6, w6 = w5.setCell ⟨Bp, hd.length * 2 + 1, none⟩ (.slice (some ⟨q1.g, q1.off, none⟩) q1.l.length q1.cap) := ⟨_, rfl⟩
  have hK1 := K1.out
  simp only [Qu.sv] at hK1
  rw [← hw6] at hK1
  have hbx6 : Has w6 Bx 86 #[.func (.yield l) #[] #[]] := by
    have h := hK1.2.1.only
    exact HX.out.1.only h HN.out.1
  have hbq6 : Has w6 bq 109 #[.pointer (some ⟨Bp, hd.length * 2, none⟩)] := HX.out.2.1.only hK1.2.1.only HN.out.2.1
  have hl6 := hK1.2.1.block HX.out.2.2.1 (loop_not HH.out.1.circ HX.out.2.2.1)
  have hM6 : Mv Bc Bp W0 qs0 w6 qs1 := HH.out.2.1.trans hK1.2.1 HH.out.2.2
  have K2 := Lib.hid (And.intro hK1 (And.intro hbx6 (And.intro hbq6 (And.intro hl6 hM6))))
  have HW6 := Lib.hid hw6
  clear K1 hK1 hbx6 hbq6 hl6 hM6 hw6
  simp only [Qu.sv]
  go_simp
  rw [← HW6.out]
  refine hK.out _ _ (fun h => absurd (show false = true from h) (by decide)) ?_
  clear hK K p0 pf pl HS5 HS0 HW6
  refine wpLate_done (by kernel_rfl) ?_ _
  try simp only [Act.put, List.setIfInBounds_toArray, List.set_cons_zero, List.set_cons_succ]
  gi_wp2
  obtain ⟨⟨k1, k2, e1, e2⟩, hbx6, hbq6, hl6, hM6⟩ := K2.out
  have hS4 : (S4 Bp (hd.length * 2) bq q.room) w6.drew := ⟨hbq6.cell 0, (k1.circ.p.cell _).trans (by rw [k1.pc.1, e2])⟩
  have HS4 := Lib.hid hS4
  have hok1 : okL q1.l := by rw [e1]; exact okL_app.2 ⟨HP.out.1.sl, okL_cons.2 ⟨HP.out.2.1, okL_nil⟩⟩
  have hv1 : vol q1.l = vol q.l + s.v := by rw [e1]; simp [vol_app, vol]
  have hh1 : hea q1.l = hea q.l + s.h := by rw [e1]; simp [hea_app, hea]
  have hle := HP.out.1.le
  have hr1 := HP.out.1.r1
  have hr2 := HP.out.1.r2
  have hnn := vol_nn HP.out.1.sl
  simp only [Qu.pp] at hle hr1 hr2 hnn
  have hs1 := HP.out.2.1.1
  have hsv := HP.out.2.2.1
  have hsh := HP.out.2.2.2
  have kw : IntKind.i64.wrap (vol q1.l - q.room) = vol q1.l - q.room := IntWalk.i64_in _ (by omega)
  have HV := Lib.hid (And.intro hok1 (And.intro hv1 (And.intro hh1 (And.intro hle (And.intro hr1 (And.intro hr2 (And.intro hnn (And.intro hs1 (And.intro hsv hsh)))))))))
  clear hS4 hok1 hv1 hh1 hle hr1 hr2 hnn hs1 hsv hsh k1 k2 e1 e2 hbx6 hbq6 hl6 hM6
  refine wp_region_late_in (S4 Bp (hd.length * 2) bq q.room) [] (by kernel_rfl) (by kernel_rfl) (by rintro ⟨_, _, h⟩; exact h) ?_
  refine wpLate_take (i := 0) (oi := ?pi0) (v := ?w0) [8] ?hj0 (by kernel_rfl) (by kernel_rfl) (by kernel_rfl) (by kernel_rfl) (by kernel_rfl) ?hR0 (Or.inl ⟨?hx0, ?hz0⟩) HS4.out ?resu0
  case hj0 => (simp only [List.getElem?_toArray, List.getElem?_cons_zero]; rfl)
  case hR0 => exact fun _ _ _ h => h
  case hx0 => rfl
  case hz0 =>
    intro w' hSw
    obtain ⟨r0, r1⟩ := hSw
    go_simp
    try exact rfl
  simp only [Act.put, List.setIfInBounds_toArray, List.set_cons_zero, List.set_cons_succ]
  refine wpLate_take (i := 1) (oi := ?pi1) (v := ?w1) [2, 7, 8] ?hj1 (by kernel_rfl) (by kernel_rfl) (by kernel_rfl) (by kernel_rfl) (by kernel_rfl) ?hR1 (Or.inl ⟨?hx1, ?hz1⟩) HS4.out ?resu1
  case hj1 => (simp only [List.getElem?_toArray, List.getElem?_cons_zero, List.getElem?_cons_succ]; rfl)
  case hR1 => exact fun _ _ _ h => h
  case hx1 => rfl
  case hz1 =>
    intro w' hSw
    obtain ⟨r0, r1⟩ := hSw
    go_simp
    try exact rfl
  simp only [Act.put, List.setIfInBounds_toArray, List.set_cons_zero, List.set_cons_succ]
  refine wpLate_take (i := 3) (oi := ?pi3) (v := ?w3) [4, 5, 6, 7, 8] ?hj3 (by kernel_rfl) (by kernel_rfl) (by kernel_rfl) (by kernel_rfl) (by kernel_rfl) ?hR3 (Or.inl ⟨?hx3, ?hz3⟩) HS4.out ?resu3
  case hj3 => (simp only [List.getElem?_toArray, List.getElem?_cons_zero, List.getElem?_cons_succ]; rfl)
  case hR3 => exact fun _ _ _ h => h
  case hx3 => rfl
  case hz3 =>
    intro w' hSw
    obtain ⟨r0, r1⟩ := hSw
    go_simp
    try exact rfl
  simp only [Act.put, List.setIfInBounds_toArray, List.set_cons_zero, List.set_cons_succ]
  refine wpLate_take (i := 4) (oi := ?pi4) (v := ?w4) [5, 6, 7, 8] ?hj4 (by kernel_rfl) (by kernel_rfl) (by kernel_rfl) (by kernel_rfl) (by kernel_rfl) ?hR4 (Or.inl ⟨?hx4, ?hz4⟩) HS4.out ?resu4
  case hj4 => (simp only [List.getElem?_toArray, List.getElem?_cons_zero, List.getElem?_cons_succ]; rfl)
  case hR4 => exact fun _ _ _ h => h
  case hx4 => rfl
  case hz4 =>
    intro w' hSw
    obtain ⟨r0, r1⟩ := hSw
    go_simp
    try exact rfl
  simp only [Act.put, List.setIfInBounds_toArray, List.set_cons_zero, List.set_cons_succ]
  refine wpLate_take (i := 5) (oi := ?pi5) (v := ?w5) [6, 7, 8] ?hj5 (by kernel_rfl) (by kernel_rfl) (by kernel_rfl) (by kernel_rfl) (by kernel_rfl) ?hR5 (Or.inl ⟨?hx5, ?hz5⟩) HS4.out ?resu5
  case hj5 => (simp only [List.getElem?_toArray, List.getElem?_cons_zero, List.getElem?_cons_succ]; rfl)
  case hR5 => exact fun _ _ _ h => h
  case hx5 => rfl
  case hz5 =>
    intro w' hSw
    obtain ⟨r0, r1⟩ := hSw
    go_simp
    try exact rfl
  simp only [Act.put, List.setIfInBounds_toArray, List.set_cons_zero, List.set_cons_succ]
  refine wpLate_take (i := 6) (oi := ?pi6) (v := ?w6) [7, 8] ?hj6 (by kernel_rfl) (by kernel_rfl) (by kernel_rfl) (by kernel_rfl) (by kernel_rfl) ?hR6 (Or.inl ⟨?hx6, ?hz6⟩) HS4.out ?resu6
  case hj6 => (simp only [List.getElem?_toArray, List.getElem?_cons_zero, List.getElem?_cons_succ]; rfl)
  case hR6 => exact fun _ _ _ h => h
  case hx6 => rfl
  case hz6 =>
    intro w' hSw
    obtain ⟨r0, r1⟩ := hSw
    go_simp
    try exact rfl
  simp only [Act.put, List.setIfInBounds_toArray, List.set_cons_zero, List.set_cons_succ]
  refine wpLate_one (i := 2) (o := ?p2) (by kernel_rfl) ?hp2 ?hl2
  case hp2 => (simp only [List.getElem?_toArray, List.getElem?_cons_zero, List.getElem?_cons_succ]; rfl)
  intro K hK
  go_simp
  have k1d := K2.out.1.1.below (Below.drew (Below.refl _ w6))
  refine (litres_any Bp (hd.length * 2) q1 w6.drew ((k1d.circ.p.cell _).trans k1d.pc.2) k1d.qhas HV.out.1 (by have := HV.out; omega)).mono ?_
  rintro e w7 ⟨rfl, hb7⟩
  try (gi_wp2_with fail)
  refine hK.out _ _ (fun _ => HS4.out.below hb7) ?_
  clear hK K k1d
  try simp only [Act.put, List.setIfInBounds_toArray, List.set_cons_zero, List.set_cons_succ]
  refine wpLate_one (i := 7) (o := ?p7) (by kernel_rfl) ?hp7 ?hl7
  case hp7 => (simp only [List.getElem?_toArray, List.getElem?_cons_zero, List.getElem?_cons_succ]; rfl)
  intro K hK
  go_simp
  refine hK.out _ _ (fun _ => HS4.out.below hb7) ?_
  clear hK K
  try simp only [Act.put, List.setIfInBounds_toArray, List.set_cons_zero, List.set_cons_succ]
  refine wpLate_one (i := 8) (o := ?p8) (by kernel_rfl) ?hp8 ?hl8
  case hp8 => (simp only [List.getElem?_toArray, List.getElem?_cons_zero, List.getElem?_cons_succ]; rfl)
  intro K hK
  go_simp
  refine (drain_any ⟨Bp, hd.length * 2, none⟩ (vol q1.l - q.room) w7).mono ?_
  rintro e w8 ⟨vd, rfl, hb8, hD⟩
  try (gi_wp2_with fail)
  refine hK.out _ _ (fun _ => (HS4.out.below hb7).below hb8) ?_
  clear hK K
  try simp only [Act.put, List.setIfInBounds_toArray, List.set_cons_zero, List.set_cons_succ]
  refine wpLate_done (by kernel_rfl) ?_ _
  try simp only [Act.put, List.setIfInBounds_toArray, List.set_cons_zero, List.set_cons_succ]
  obtain ⟨Bl, Bq, rfl, hdl, hdq, hbl, hbq⟩ := hD
  have hb68 : Below w6.heap.size w6 w8 := (Below.drew (Below.refl _ w6)).trans (hb7.trans (hb8.mono hb7.size))
  have K3 := Lib.hid (And.intro hb68 (And.intro hdl (And.intro hdq (And.intro hbl (And.intro hbq hb7.size)))))
  clear hb7 hb8 hdl hdq hbl hbq hb68 HS4
  gi_wp2
  refine wpIn_range_inner (heap_below K3.out.1 K2.out.2.2.2.1) rfl enters76 ?_
  intro fn
  obtain ⟨⟨k1, k2, e1, e2⟩, hbx6, hbq6, hl6, hM6⟩ := K2.out
  obtain ⟨hb68, hdl, hdq, hbl, hbq, hsz⟩ := K3.out
  obtain ⟨nx, nq, nxs⟩ := HN.out
  simp only [World.size_drew] at hsz
  have hb6r : ∀ o : Obj, Below w6.heap.size w6 (w8.alloc o) := fun o => hb68.alloc hb68.size _
  have hvs := HV.out
  have hnG : ∀ a s' b, (drainL q1.l (vol q1.l - q.room)).1 = a ++ s' :: b → G (a.foldl F y) s' := fun a s' b h => HG.out.1 a s' b (by rw [← h, e1]; rfl)
  have nqB : ¬ CS Bc Bp qs1 Bq := fun h => by have := k1.circ.lt h; omega
  have hW0 := HA.out.2
  have hl02 : W0.heap.size ≤ w8.heap.size := by
    have h1 := hM6.only.size; have h2 := hb68.size; omega
  refine (callsIn_wide.2 (callsIn_wide.1 (drain1_any w8.heap.size Bl Bq Bc Bp (vol q1.l - q.room) _ hd qs1 q1 y F G (k1.below (hb6r _)) (hdl.alloc _) (hdq.alloc _) nqB hvs.1 (by omega) (by omega) (by omega) hnG
    (fun W1 qs2 q2 y1 s1 hM1 hH1 hs1 hG1 => ?taker)))).mono ?_
  case taker =>
    have hr := hM1.block (World.alloc_heap_new w8 _) (fun h => by have := (k1.below hb68).circ.lt h; omega)
    have hx1 : Has W1 Bx 86 #[.func (.yield l) #[] #[]] := (hbx6.below (hb6r _) hbx6.lt).only hM1.only (k2.out (by have := HX.out.1.lt; exact this) nx)
    refine round74b fn l w8.heap.size Bx _ Bc Bp hd qs0 qs2 q2 y1 s1 F W0 W1 _ _ _ _ _ _ _ _ _ _ _ _ _ _ _ _ _ _ _ _ _ _ _ _ _ _ _ _ _ _ _ _ _ ?hab hr hx1 hH1 ?hm (.inr ⟨_, _, HH.out.2.2⟩) hl02 ?hy
    case hab => rfl
    case hm => exact (hM6.trans (Mv.below (hb6r _)) HH.out.2.2).trans hM1 HH.out.2.2
    case hy => exact fun W1' hm hh => HG.out.2 W1' qs2 q2 y1 s1 hm hh hs1 hG1
  · rintro e w9 ⟨hv, qs3, q3, m1, m2, m3, m4⟩
    have hr := m1.block (World.alloc_heap_new w8 _) (fun h => by have := (k1.below hb68).circ.lt h; omega)
    refine ⟨hv, hr, fun r => ?_⟩
    obtain ⟨w10, hw10⟩ : ∃ w10, w10 = w9.putObj w8.heap.size (.loop r) := ⟨_, rfl⟩
    rw [← hw10]
    have h10 : Here w10 Bc Bp hd q3 ((drainL q1.l (vol q1.l - q.room)).1.foldl F y) qs3 := by rw [hw10]; exact m4.putObj hr _
    have hbq9 : Has w10 bq 109 #[.pointer (some ⟨Bp, hd.length * 2, none⟩)] := by
      rw [hw10]
      exact ((hbq6.below (hb6r _) hbq6.lt).only m1.only (k2.out (by have := HX.out.2.1.lt; exact this) nq)).putObj hr _
    have b0 : w10.cell? ⟨bq, 0, none⟩ = some (.pointer (some ⟨Bp, hd.length * 2, none⟩)) := hbq9.cell 0
    have hen := enter_ok HP.out.1 HP.out.2.1
    have el : q1.l = q.pp.l ++ [s] := e1
    have er : q.room = q.pp.room := rfl
    have e3 : q3.l = q.pp.rest s := by rw [m3, el, er]; rfl
    have e4 : (drainL q1.l (vol q1.l - q.room)).1 = q.pp.outs s := by rw [el, er]; rfl
    rw [e4] at h10
    have hno := hea_nn hen.1
    have hle9 := hen.2.1.le
    have hr9 := hen.2.1.r2
    have hv9 := vol_nn hen.2.1.sl
    have hj := join_any Bp (hd.length * 2) (qcells qs3) q3 w10 h10.circ.p h10.pc.2 h10.qhas h10.ne (by rw [e3]; exact hen.2.2.2.2.2.2.1) (by rw [e3, hen.2.2.2.2.2.2.2.2]; exact Int.le_trans hle9 (Int.le_trans hr9 (by omega))) (by rw [e3, hen.2.2.2.2.2.2.2.1]; have h := hen.2.2.2.1; have e5 : hea q.pp.l = hea q.l := rfl; omega)
    have HJ := Lib.hid hj
    have hfin : ∀ w11 q4, q4.l = joinL q3.l → q4.room = q3.room → q4.g = q3.g → Has w11 Bp 88 ((qcells qs3).setIfInBounds (hd.length * 2 + 1) q4.sv) → QHas w11 q4 → Only (fun k => k = Bp ∨ k = q3.g) w10 w11 →
        ∃ qs2 q2, Mv Bc Bp W2 qs w11 qs2 ∧ q2.pp = q.pp.enter s ∧ Here w11 Bc Bp hd q2 ((q.pp.outs s).foldl F y) qs2 := by
      intro w11 q4 f1 f2 f3 f4 f5 f6
      obtain ⟨qs4, g1, g2⟩ := h10.upd (q' := q4) f2 (.inl f3) f4 f5 f6
      refine ⟨qs4, q4, ?_, ?_, g1⟩
      · have hm10 : Mv Bc Bp W2 qs w10 qs3 := by
          rw [hw10]
          exact ((k2.trans (Mv.below (hb6r _)) HH.out.1.circ).trans m1 HH.out.1.circ).put (by have h1 := k2.only.size; have h2 := hb68.size; omega) _
        exact hm10.trans g2 HH.out.1.circ
      · unfold Qu.pp Pp.enter
        rw [f1, f2, m2, e2, e3]
        rfl
    have HF := Lib.hid hfin
    clear hfin hj hen el er e3 e4 hno hle9 hr9 hv9 h10 hbq9 m1 m2 m3 m4 hr hv hnG nqB hl02 hW0 hvs hb6r hb68 hdl hdq hbl hbq hsz nx nq nxs k1 k2 e1 e2 hbx6 hbq6 hl6 hM6 hw10
    gi_wp2_with fail
    refine ⟨trivial, ?_⟩
    refine (CallsIn.inRound l2 (callsIn_wide.2 HJ.out)).mono ?_
    rintro e w11 ⟨⟨v, rfl⟩, q4, f1, f2, f3, f4, f5, f6⟩
    have HE2 := Lib.hid (HE.out w11 (HF.out w11 q4 f1 f2 f3 f4 f5 f6))
    clear f1 f2 f3 f4 f5 f6
    gi_wp2
    exact HE2.out
end Go.Proofs.Ytjfopmjphiddiaa
