/- leak: the round in which what flows out is lost. -/
import Derived.Test.YtjfopmjphiddiaaMgG
namespace Go.Proofs.Ytjfopmjphiddiaa
open Go.RowKit Go.Shelf
attribute [local go_sem] Oper.semAt_some

def toLeak (y : Yx) (s : Sl) : Yx := ⟨y.ps, y.t, ⟨y.r.heat, y.r.room, { y.r.s with lv := y.r.s.lv + s.v, lh := y.r.s.lh + s.h }⟩⟩
def leakOk (y : Yx) (s : Sl) : Prop := (0 ≤ y.r.s.lv + s.v ∧ y.r.s.lv + s.v ≤ 1099511627776) ∧ (0 ≤ y.r.s.lh + s.h ∧ y.r.s.lh + s.h ≤ 1099511627776000)

set_option maxRecDepth 100000 in
set_option maxHeartbeats 4000000 in
theorem round57 (fn0 : FuncId) (l2 bc D Bc Bp : Nat) (hd qs : List Qu) (y : Yx) (s : Sl) (W : World) (u0 u1 u3 u4 u5 u6 u7 u8 u9 u10 u11 u12 u13 u14 u15 u16 u17 u18 u19 u20 u21 u22 u23 u24 u25 u26 : Value) {assign body : Code}
    (hab : some (assign, body) = (Try.f57.body.map loopParts).bind (·[0]?))
    (hl : W.heap[l2]? = some (.loop (recAt fn0 #[u0, u1, .pointer (some ⟨bc, 0, none⟩), u3, u4, u5, u6, u7, u8, u9, u10, u11, u12, u13, u14, u15, u16, u17, u18, u19, u20, u21, u22, u23, u24, u25, u26] #[20] assign body D)))
    (hx : Has W bc 63 #[.pointer (some ⟨Bc, 0, none⟩)]) (nx : bc ≠ Bc) (hH : HereT W Bc Bp hd y qs) (hg : leakOk y s) :
    YieldAt Fence.wide 2 Try.prog l2 #[slv s] W (TakePost Bc Bp W hd qs (toLeak y s)) := by
  obtain ⟨rc, hrc⟩ : ∃ rc, rc = recAt fn0 #[u0, u1, .pointer (some ⟨bc, 0, none⟩), u3, u4, u5, u6, u7, u8, u9, u10, u11, u12, u13, u14, u15, u16, u17, u18, u19, u20, u21, u22, u23, u24, u25, u26] #[20] assign body D := ⟨_, rfl⟩
  rw [← hrc] at hl
  have hy := run_yield (P := Try.prog) (args := #[slv s]) hl (by rw [hrc]; rfl)
  refine ⟨fn0, _, assign, body, by rw [hy, hrc], roundIn_of_wpIn trivial ?_⟩
  clear hy
  simp only [Try.f57, Option.map_some, Option.bind_some, loopParts, List.nil_append, List.getElem?_cons_zero, Option.some.injEq, Prod.mk.injEq] at hab
  obtain ⟨ha, hb⟩ := hab
  obtain ⟨Wa, hWa⟩ : ∃ Wa, Wa = W.alloc (Obj.cells #[Value.int IntKind.i64 s.v, Value.int IntKind.i64 s.h] 23) := ⟨_, rfl⟩
  have hba : Below W.heap.size W Wa := by rw [hWa]; exact below_one _ _
  have hla := heap_below hba hl
  have hbeg := run_beginRound (P := Try.prog) hla (by rw [hrc])
  obtain ⟨W2, hW2⟩ : ∃ W2, Wa.putObj l2 (.loop { rc with state := .busy }) = W2 := ⟨_, rfl⟩
  have hH2 : HereT W2 Bc Bp hd y qs := by rw [← hW2]; exact (hH.below hba).put hla (fun _ _ _ e => by cases e) _
  have hx2 : Has W2 bc 63 #[.pointer (some ⟨Bc, 0, none⟩)] := by rw [← hW2]; exact (hx.below hba hx.lt).putObj hla _
  have hl2 : W2.heap[l2]? = some (.loop { rc with state := .busy }) := by rw [← hW2]; exact World.putObj_heap_same (Array.getElem?_eq_some_iff.1 hla).1
  have hs2 : Has W2 W.heap.size 23 #[iv s.v, iv s.h] := by rw [← hW2]; exact Has.putObj (by rw [hWa]; exact Has.new _ _ _) hla _
  have hEnd : ∀ W3, (∃ qs2, Mv Bc Bp W2 qs W3 qs2 ∧ HereT W3 Bc Bp hd (toLeak y s) qs2) → ∃ v w', (Instr.endRound l2 none).run Try.prog W3 = .ok v w' ∧ TakePost Bc Bp W hd qs (toLeak y s) (.returned v) w' := by
    rintro W3 ⟨qs2, m1, m2⟩
    have hl3 := m1.block hl2 (loop_not hH2.circ hl2)
    have hend := run_endRound (P := Try.prog) none hl3
    refine ⟨_, _, hend, rfl, qs2, ?_, m2.put hl3 (fun _ _ _ e => by cases e) _⟩
    have e : ({ rc with state := if (none : Option Code).isNone then .ready else .done, pending := none } : Loop) = rc := by rw [hrc]; rfl
    refine (Mv.below hba).trans ?_ hH.circ
    show Mv Bc Bp Wa qs (W3.putObj l2 (.loop { { rc with state := .busy } with state := if (none : Option Code).isNone then .ready else .done, pending := none })) qs2
    rw [show ({ ({ rc with state := .busy } : Loop) with state := if (none : Option Code).isNone then .ready else .done, pending := none } : Loop) = rc from e]
    exact Mv.round hla (loop_not (hH.below hba).circ hla) (by rw [hW2]; exact m1) hl3
  have HE := Lib.hid hEnd
  rw [ha]
  have hzip : ∀ (t : Array Value) (v : Value), (#[20].zip #[v]).foldl (fun tmps (p : Tmp × Value) => match p with | (t, a) => tmps.setIfInBounds t a) t = t.setIfInBounds 20 v := fun t v => by simp [Array.zip]
  rw [hzip]
  clear hzip
  rw [hW2, hWa] at hbeg
  have HB2 := Lib.hid hbeg
  have hS0 : (S11 Bc bc W.heap.size s) W2.drew := ⟨hx2.cell 0, hs2.cell 0, hs2.cell 1⟩
  have HS0 := Lib.hid hS0
  have HH := Lib.hid (And.intro hH2 (And.intro hg nx))
  clear hEnd hbeg hWa hba hla hH2 hx2 hl2 hs2 hl hx hH ha hW2 hrc hS0 hg
  change Code.wpIn _ _ _ _ _ { tmps := (#[u0, u1, .pointer (some ⟨bc, 0, none⟩), u3, u4, u5, u6, u7, u8, u9, u10, u11, u12, u13, u14, u15, u16, u17, u18, u19, u20, u21, u22, u23, u24, u25, u26] : Array Value).setIfInBounds 20 (slv s), defers := [] } W
  gi_wp2
  refine ⟨W2, HB2.out, ?_⟩
  try rw [hb]
  clear hb HB2
  gi_wp2
  refine wp_region_late_in (S11 Bc bc W.heap.size s) [5] (by kernel_rfl) (by kernel_rfl) ?hlo ?_
  case hlo => rintro ⟨_, _, h⟩; exact h
  refine wpLate_take (i := 0) (oi := ?oi0) (v := ?v0) [1, 2, 3, 5] ?hi0 (by kernel_rfl) (by kernel_rfl) (by kernel_rfl) (by kernel_rfl) (by kernel_rfl) ?hQ0 (Or.inl ⟨?hw0, ?hy0⟩) HS0.out ?rest0
  case hi0 => (simp only [List.getElem?_toArray, List.getElem?_cons_zero]; rfl)
  case hQ0 => exact fun _ _ _ h => h
  case hw0 => rfl
  case hy0 =>
    intro w' hSw
    obtain ⟨r0, r1, r2⟩ := hSw
    go_simp
    try exact rfl
  simp only [Act.put, List.setIfInBounds_toArray, List.set_cons_zero, List.set_cons_succ]
  refine wpLate_take (i := 1) (oi := ?oi1) (v := ?v1) [2, 3, 5] ?hi1 (by kernel_rfl) (by kernel_rfl) (by kernel_rfl) (by kernel_rfl) (by kernel_rfl) ?hQ1 (Or.inl ⟨?hw1, ?hy1⟩) HS0.out ?rest1
  case hi1 => (simp only [List.getElem?_toArray, List.getElem?_cons_zero, List.getElem?_cons_succ]; rfl)
  case hQ1 => exact fun _ _ _ h => h
  case hw1 => rfl
  case hy1 =>
    intro w' hSw
    obtain ⟨r0, r1, r2⟩ := hSw
    go_simp
    try exact rfl
  simp only [Act.put, List.setIfInBounds_toArray, List.set_cons_zero, List.set_cons_succ]
  refine wpLate_take (i := 2) (oi := ?oi2) (v := ?v2) [3, 5] ?hi2 (by kernel_rfl) (by kernel_rfl) (by kernel_rfl) (by kernel_rfl) (by kernel_rfl) ?hQ2 (Or.inl ⟨?hw2, ?hy2⟩) HS0.out ?rest2
  case hi2 => (simp only [List.getElem?_toArray, List.getElem?_cons_zero, List.getElem?_cons_succ]; rfl)
  case hQ2 => exact fun _ _ _ h => h
  case hw2 => rfl
  case hy2 =>
    intro w' hSw
    obtain ⟨r0, r1, r2⟩ := hSw
    go_simp
    try exact rfl
  simp only [Act.put, List.setIfInBounds_toArray, List.set_cons_zero, List.set_cons_succ]
  refine wpLate_take (i := 3) (oi := ?oi3) (v := ?v3) [5] ?hi3 (by kernel_rfl) (by kernel_rfl) (by kernel_rfl) (by kernel_rfl) (by kernel_rfl) ?hQ3 (Or.inl ⟨?hw3, ?hy3⟩) HS0.out ?rest3
  case hi3 => (simp only [List.getElem?_toArray, List.getElem?_cons_zero, List.getElem?_cons_succ]; rfl)
  case hQ3 => exact fun _ _ _ h => h
  case hw3 => rfl
  case hy3 =>
    intro w' hSw
    obtain ⟨r0, r1, r2⟩ := hSw
    go_simp
    try exact rfl
  simp only [Act.put, List.setIfInBounds_toArray, List.set_cons_zero, List.set_cons_succ]
  refine wpLate_take (i := 4) (oi := ?oi4) (v := ?v4) [5] ?hi4 (by kernel_rfl) (by kernel_rfl) (by kernel_rfl) (by kernel_rfl) (by kernel_rfl) ?hQ4 (Or.inl ⟨?hw4, ?hy4⟩) HS0.out ?rest4
  case hi4 => (simp only [List.getElem?_toArray, List.getElem?_cons_zero, List.getElem?_cons_succ]; rfl)
  case hQ4 => exact fun _ _ _ h => h
  case hw4 => rfl
  case hy4 =>
    intro w' hSw
    obtain ⟨r0, r1, r2⟩ := hSw
    go_simp
    try exact rfl
  simp only [Act.put, List.setIfInBounds_toArray, List.set_cons_zero, List.set_cons_succ]
  refine wpLate_one (i := 5) (o := ?o4) (by kernel_rfl) ?ho4 ?hk4
  case ho4 => (simp only [List.getElem?_toArray, List.getElem?_cons_zero, List.getElem?_cons_succ]; rfl)
  intro K hK
  go_simp
  have hc := HH.out.1.circ
  refine (add_any Bc 6 70 (ccells y.t Bp qs.length y.r) ⟨y.r.s.lv, y.r.s.lh⟩ s W2.drew hc.c.drew rfl rfl HH.out.2.1.1 HH.out.2.1.2).mono ?_
  rintro e w7 ⟨⟨v, rfl⟩, ho, hw⟩
  have hw2 : Has w7 Bc 70 (ccells y.t Bp qs.length (toLeak y s).r) := hw
  have ho2 : Only (fun k => k = Bc) W2 w7 := Only.from_ (Only.drew (Only.refl _ W2)) ho (fun _ _ h => h)
  have hF : Hid (∃ qs2, Mv Bc Bp W2 qs w7 qs2 ∧ HereT w7 Bc Bp hd (toLeak y s) qs2) := by
    obtain ⟨tl, h1, h2, h3⟩ := HH.out.1
    obtain ⟨k1, k2⟩ := h3.own (t' := y.t) (r' := (toLeak y s).r) hw2 ho2
    exact ⟨qs, k2, tl, h1, h2, k1⟩
  try (gi_wp2_with fail)
  refine hK.out _ _ (fun h => absurd (show false = true from h) (by decide)) ?_
  clear hK K hw hw2 ho ho2 hc
  try simp only [Act.put, List.setIfInBounds_toArray, List.set_cons_zero, List.set_cons_succ]
  refine wpLate_done (by kernel_rfl) ?_ _
  try simp only [Act.put, List.setIfInBounds_toArray, List.set_cons_zero, List.set_cons_succ]
  gi_wp2
  exact HE.out w7 hF.out
end Go.Proofs.Ytjfopmjphiddiaa
/- leak. -/
namespace Go.Proofs.Ytjfopmjphiddiaa
open Go.RowKit Go.Shelf
attribute [local go_sem] Oper.semAt_some

def S57 (Bc Bp bs n j : Nat) (w : World) : Prop :=
  w.cell? ⟨bs, 0, none⟩ = some (.pointer (some ⟨Bc, 0, none⟩)) ∧ w.cell? ⟨Bc, 2, none⟩ = some (.slice (some ⟨Bp, 0, none⟩) n n) ∧ w.cell? ⟨bs + 1, 1, none⟩ = some (.int .i64 j)
def leakR (r : Ho) (v h : Int) : Ho := ⟨r.heat, r.room, { r.s with lv := r.s.lv + v, lh := r.s.lh + h }⟩
theorem fold_leak (l : List Sl) (y : Yx) : l.foldl toLeak y = ⟨y.ps, y.t, leakR y.r (vol l) (hea l)⟩ := by
  induction l generalizing y with
  | nil => simp [leakR, vol, hea]
  | cons s l ih =>
    simp only [List.foldl_cons]
    rw [ih]
    simp [toLeak, leakR, vol, hea, Int.add_assoc]
def leakPs (ps : List Pp) (j : Nat) (n : Int) : List Pp := ps.set j ⟨(ps.getD j ⟨0, []⟩).room, (drainL (ps.getD j ⟨0, []⟩).l n).2⟩
def leakN (y : Yx) (j : Nat) (n : Int) : Yx :=
  ⟨leakPs y.ps j n, y.t, leakR y.r (vol (drainL (y.ps.getD j ⟨0, []⟩).l n).1) (hea (drainL (y.ps.getD j ⟨0, []⟩).l n).1)⟩
theorem here_split {W : World} {Bc Bp j : Nat} {y : Yx} {qs : List Qu} (hC : Circ W Bc Bp y.t qs y.r) (hj : j < qs.length) : Here W Bc Bp (qs.take j) qs[j] ⟨(qs.drop (j + 1)).map Qu.pp, y.t, y.r⟩ qs :=
  ⟨qs.drop (j + 1), by rw [← List.drop_eq_getElem_cons hj, List.take_append_drop], rfl, hC⟩
theorem leak_end {W' : World} {Bc Bp j : Nat} {y : Yx} {qs qs' : List Qu} {q' : Qu} {n : Int} (hps : qs.map Qu.pp = y.ps) (hj : j < qs.length) (hr : q'.room = qs[j].room) (hl : q'.l = (drainL qs[j].l n).2)
    (h : Here W' Bc Bp (qs.take j) q' ((drainL qs[j].l n).1.foldl toLeak ⟨(qs.drop (j + 1)).map Qu.pp, y.t, y.r⟩) qs') : HereT W' Bc Bp [] (leakN y j n) qs' := by
  rw [fold_leak] at h
  obtain ⟨tl, h1, h2, h3⟩ := h
  have hg : y.ps.getD j ⟨0, []⟩ = qs[j].pp := by rw [← hps]; simp [List.getD, hj]
  refine ⟨qs', rfl, ?_, ?_⟩
  · unfold leakN leakPs
    dsimp only at h2 ⊢
    rw [hg, h1, ← hps]
    apply List.ext_getElem?
    intro i
    simp only [List.map_append, List.map_cons, h2]
    rw [List.getElem?_set]
    by_cases e : j = i
    · subst e
      rw [if_pos rfl]
      rw [List.getElem?_append_right (by simp; omega)]
      have : (List.map Qu.pp (List.take j qs)).length = j := by simp; omega
      rw [this]
      simp [hj, Qu.pp, hr, hl]
    · rw [if_neg e]
      by_cases h4 : i < j
      · rw [List.getElem?_append_left (by simp; omega)]
        simp [h4]
      · rw [List.getElem?_append_right (by simp; omega)]
        have : (List.map Qu.pp (List.take j qs)).length = j := by simp; omega
        rw [this]
        obtain ⟨m, hm⟩ : ∃ m, i - j = m + 1 := ⟨i - j - 1, by omega⟩
        rw [hm]
        have : i = j + 1 + m := by omega
        subst this
        simp
  · unfold leakN
    dsimp only at h3 ⊢
    rw [hg]
    exact h3

set_option maxRecDepth 100000 in
set_option maxHeartbeats 4000000 in
theorem leak_less (Bc Bp j : Nat) (qs : List Qu) (y : Yx) (k a h : Int) (W : World) (hj : j < qs.length) (hC : Circ W Bc Bp y.t qs y.r) (hps : qs.map Qu.pp = y.ps) (h9 : qs.length ≤ 1000) (hok : okL qs[j].l) (hv : vol qs[j].l ≤ 1048576) (hh : hea qs[j].l ≤ 2199023255552) (h1 : 1 ≤ a)
    (b1 : 0 ≤ y.r.s.lv ∧ y.r.s.lv ≤ 1099511627776 - 1048576) (b2 : 0 ≤ y.r.s.lh ∧ y.r.s.lh ≤ 1099511627776000 - 2199023255552) (hk : a < vol qs[j].l) :
    Calls Try.prog 57 #[.pointer (some ⟨Bc, 0, none⟩), evv k j a h] W (DonePost Bc Bp W qs (leakN y j a)) := by
  obtain ⟨q0, hq0⟩ : ∃ q0, q0 = qs[j] := ⟨_, rfl⟩
  rw [← hq0] at hok hv hh hk
  try rw [← hq0]
  have hcl := hC.c.lt
  have hpl := hC.p.lt
  have nX : ∀ i, W.heap.size ≤ i → ¬ CS Bc Bp qs i := fun i hi h => by have := hC.lt h; omega
  have hb0 : Below W.heap.size W ((W.alloc (Obj.cells #[.pointer (some ⟨Bc, 0, none⟩)] 63)).alloc (Obj.cells #[.int .i64 k, .int .i64 j, .int .i64 a, .int .i64 h] 56)).drew := Below.drew (Below.alloc (Below.alloc (Below.refl _ _) (Nat.le_refl _) _) (by simp) _)
  have hS0 : (S57 Bc Bp W.heap.size qs.length j) ((W.alloc (Obj.cells #[.pointer (some ⟨Bc, 0, none⟩)] 63)).alloc (Obj.cells #[.int .i64 k, .int .i64 j, .int .i64 a, .int .i64 h] 56)).drew :=
    ⟨((Has.new W 63 _).alloc _).cell 0, ((hC.c.alloc _).alloc _).cell 2, (Has.newAt (w := W.alloc (Obj.cells #[.pointer (some ⟨Bc, 0, none⟩)] 63)) (by simp)).cell 1⟩
  have hbx0 : Has ((W.alloc (Obj.cells #[.pointer (some ⟨Bc, 0, none⟩)] 63)).alloc (Obj.cells #[.int .i64 k, .int .i64 j, .int .i64 a, .int .i64 h] 56)).drew W.heap.size 63 #[.pointer (some ⟨Bc, 0, none⟩)] := (Has.new W 63 _).alloc _
  have hc2 : ((W.alloc (Obj.cells #[.pointer (some ⟨Bc, 0, none⟩)] 63)).alloc (Obj.cells #[.int .i64 k, .int .i64 j, .int .i64 a, .int .i64 h] 56)).drew.drew.cell? ⟨W.heap.size + 1, 2, none⟩ = some (.int .i64 a) := (Has.newAt (w := W.alloc (Obj.cells #[.pointer (some ⟨Bc, 0, none⟩)] 63)) (by simp)).cell 2
  have HS0 := Lib.hid hS0
  have HC := Lib.hid (And.intro hC (And.intro hps (And.intro hb0 (And.intro hbx0 nX))))
  have HN := Lib.hid (And.intro hok (And.intro hv (And.intro hh (And.intro b1 (And.intro b2 hq0)))))
  have hlt' : (j : Int) < qs.length := by omega
  have H9 := Lib.hid (And.intro h9 h1)
  have hj9 : (j : Int) ≤ 1000 := by omega
  clear hS0 hC hb0 hbx0 hps nX hok hv hh b1 b2 hq0 h1
  refine callsIn_wide.1 (callsIn_of_wp_marks (n := 3) Try.func57 rfl trivial ?_ rfl)
  refine wpIn_wide.2 ?_
  simp only [Try.ntmps57, List.size_toArray, List.length_cons, List.length_nil, Nat.reduceAdd, Nat.reduceSub, Array.replicate_succ, Array.replicate_zero, List.push_toArray, List.append_toArray, List.nil_append, List.cons_append]
  go_wp2
  refine wp_region_noPanic ?_
  refine wp_region_late (S57 Bc Bp W.heap.size qs.length j) [] (by kernel_rfl) ?_
  refine wpLate_take (i := 0) (oi := ?oi0) (v := ?v0) [1, 2, 3, 6, 7] ?hi0 (by kernel_rfl) (by kernel_rfl) (by kernel_rfl) (by kernel_rfl) (by kernel_rfl) ?hQ0 (Or.inl ⟨?hw0, ?hy0⟩) HS0.out ?rest0
  case hi0 => (simp only [List.getElem?_toArray, List.getElem?_cons_zero]; rfl)
  case hQ0 => exact fun _ _ _ h => h
  case hw0 => rfl
  case hy0 =>
    intro w' hSw
    obtain ⟨r0, r1, r2⟩ := hSw
    go_simp
    try exact rfl
  simp only [Act.put, List.setIfInBounds_toArray, List.set_cons_zero, List.set_cons_succ]
  refine wpLate_take (i := 1) (oi := ?oi1) (v := ?v1) [2, 3, 6, 7] ?hi1 (by kernel_rfl) (by kernel_rfl) (by kernel_rfl) (by kernel_rfl) (by kernel_rfl) ?hQ1 (Or.inl ⟨?hw1, ?hy1⟩) HS0.out ?rest1
  case hi1 => (simp only [List.getElem?_toArray, List.getElem?_cons_zero, List.getElem?_cons_succ]; rfl)
  case hQ1 => exact fun _ _ _ h => h
  case hw1 => rfl
  case hy1 =>
    intro w' hSw
    obtain ⟨r0, r1, r2⟩ := hSw
    go_simp
    try exact rfl
  simp only [Act.put, List.setIfInBounds_toArray, List.set_cons_zero, List.set_cons_succ]
  refine wpLate_take (i := 2) (oi := ?oi2) (v := ?v2) [3, 6, 7] ?hi2 (by kernel_rfl) (by kernel_rfl) (by kernel_rfl) (by kernel_rfl) (by kernel_rfl) ?hQ2 (Or.inl ⟨?hw2, ?hy2⟩) HS0.out ?rest2
  case hi2 => (simp only [List.getElem?_toArray, List.getElem?_cons_zero, List.getElem?_cons_succ]; rfl)
  case hQ2 => exact fun _ _ _ h => h
  case hw2 => rfl
  case hy2 =>
    intro w' hSw
    obtain ⟨r0, r1, r2⟩ := hSw
    go_simp
    try exact rfl
  simp only [Act.put, List.setIfInBounds_toArray, List.set_cons_zero, List.set_cons_succ]
  refine wpLate_take (i := 3) (oi := ?oi3) (v := ?v3) [6, 7] ?hi3 (by kernel_rfl) (by kernel_rfl) (by kernel_rfl) (by kernel_rfl) (by kernel_rfl) ?hQ3 (Or.inl ⟨?hw3, ?hy3⟩) HS0.out ?rest3
  case hi3 => (simp only [List.getElem?_toArray, List.getElem?_cons_zero, List.getElem?_cons_succ]; rfl)
  case hQ3 => exact fun _ _ _ h => h
  case hw3 => rfl
  case hy3 =>
    intro w' hSw
    obtain ⟨r0, r1, r2⟩ := hSw
    go_simp
    try exact rfl
  simp only [Act.put, List.setIfInBounds_toArray, List.set_cons_zero, List.set_cons_succ]
  refine wpLate_take (i := 4) (oi := ?oi4) (v := ?v4) [5, 6, 7] ?hi4 (by kernel_rfl) (by kernel_rfl) (by kernel_rfl) (by kernel_rfl) (by kernel_rfl) ?hQ4 (Or.inl ⟨?hw4, ?hy4⟩) HS0.out ?rest4
  case hi4 => (simp only [List.getElem?_toArray, List.getElem?_cons_zero, List.getElem?_cons_succ]; rfl)
  case hQ4 => exact fun _ _ _ h => h
  case hw4 => rfl
  case hy4 =>
    intro w' hSw
    obtain ⟨r0, r1, r2⟩ := hSw
    go_simp
    try exact rfl
  simp only [Act.put, List.setIfInBounds_toArray, List.set_cons_zero, List.set_cons_succ]
  refine wpLate_take (i := 5) (oi := ?oi5) (v := ?v5) [6, 7] ?hi5 (by kernel_rfl) (by kernel_rfl) (by kernel_rfl) (by kernel_rfl) (by kernel_rfl) ?hQ5 (Or.inl ⟨?hw5, ?hy5⟩) HS0.out ?rest5
  case hi5 => (simp only [List.getElem?_toArray, List.getElem?_cons_zero, List.getElem?_cons_succ]; rfl)
  case hQ5 => exact fun _ _ _ h => h
  case hw5 => rfl
  case hy5 =>
    intro w' hSw
    obtain ⟨r0, r1, r2⟩ := hSw
    go_simp
    try exact rfl
  simp only [Act.put, List.setIfInBounds_toArray, List.set_cons_zero, List.set_cons_succ]
  refine wpLate_take (i := 6) (oi := ?oi6) (v := ?v6) [7] ?hi6 (by kernel_rfl) (by kernel_rfl) (by kernel_rfl) (by kernel_rfl) (by kernel_rfl) ?hQ6 (Or.inl ⟨?hw6, ?hy6⟩) HS0.out ?rest6
  case hi6 => (simp only [List.getElem?_toArray, List.getElem?_cons_zero, List.getElem?_cons_succ]; rfl)
  case hQ6 => exact fun _ _ _ h => h
  case hw6 => rfl
  case hy6 =>
    intro w' hSw
    obtain ⟨r0, r1, r2⟩ := hSw
    go_simp
    try exact rfl
  simp only [Act.put, List.setIfInBounds_toArray, List.set_cons_zero, List.set_cons_succ]
  refine wpLate_one (i := 7) (o := ?o7) (by kernel_rfl) ?ho7 ?hk7
  case ho7 => (simp only [List.getElem?_toArray, List.getElem?_cons_zero, List.getElem?_cons_succ]; rfl)
  intro K hK
  go_simp
  refine hK.out _ _ (fun _ => HS0.out) ?_
  clear hK K
  try simp only [Act.put, List.setIfInBounds_toArray, List.set_cons_zero, List.set_cons_succ]
  refine wpLate_done (by kernel_rfl) ?_ _
  refine NoPanic.normal ?_
  try simp only [Act.put, List.setIfInBounds_toArray, List.set_cons_zero, List.set_cons_succ]
  go_wp2
  refine wp_region_noPanic ?_
  refine wp_region_late (fun w : World => w.cell? ⟨W.heap.size + 1, 2, none⟩ = some (.int .i64 a)) [] (by kernel_rfl) ?_
  refine wpLate_take (i := 0) (oi := ?boi0) (v := ?bv0) [6] ?bhi0 (by kernel_rfl) (by kernel_rfl) (by kernel_rfl) (by kernel_rfl) (by kernel_rfl) ?bhQ0 (Or.inl ⟨?bhw0, ?bhy0⟩) hc2 ?brest0
  case bhi0 => (simp only [List.getElem?_toArray, List.getElem?_cons_zero]; rfl)
  case bhQ0 => exact fun _ _ _ h => h
  case bhw0 => rfl
  case bhy0 =>
    intro w' hSw
    go_simp
    try exact rfl
  simp only [Act.put, List.setIfInBounds_toArray, List.set_cons_zero, List.set_cons_succ]
  refine wpLate_take (i := 1) (oi := ?boi1) (v := ?bv1) [2, 5, 6] ?bhi1 (by kernel_rfl) (by kernel_rfl) (by kernel_rfl) (by kernel_rfl) (by kernel_rfl) ?bhQ1 (Or.inl ⟨?bhw1, ?bhy1⟩) hc2 ?brest1
  case bhi1 => (simp only [List.getElem?_toArray, List.getElem?_cons_zero, List.getElem?_cons_succ]; rfl)
  case bhQ1 => exact fun _ _ _ h => h
  case bhw1 => rfl
  case bhy1 =>
    intro w' hSw
    go_simp
    try exact rfl
  simp only [Act.put, List.setIfInBounds_toArray, List.set_cons_zero, List.set_cons_succ]
  refine wpLate_take (i := 2) (oi := ?boi2) (v := ?bv2) [5, 6] ?bhi2 (by kernel_rfl) (by kernel_rfl) (by kernel_rfl) (by kernel_rfl) (by kernel_rfl) ?bhQ2 (Or.inl ⟨?bhw2, ?bhy2⟩) hc2 ?brest2
  case bhi2 => (simp only [List.getElem?_toArray, List.getElem?_cons_zero, List.getElem?_cons_succ]; rfl)
  case bhQ2 => exact fun _ _ _ h => h
  case bhw2 => rfl
  case bhy2 =>
    intro w' hSw
    go_simp
    try exact rfl
  simp only [Act.put, List.setIfInBounds_toArray, List.set_cons_zero, List.set_cons_succ]
  refine wpLate_take (i := 3) (oi := ?boi3) (v := ?bv3) [4, 5, 6] ?bhi3 (by kernel_rfl) (by kernel_rfl) (by kernel_rfl) (by kernel_rfl) (by kernel_rfl) ?bhQ3 (Or.inl ⟨?bhw3, ?bhy3⟩) hc2 ?brest3
  case bhi3 => (simp only [List.getElem?_toArray, List.getElem?_cons_zero, List.getElem?_cons_succ]; rfl)
  case bhQ3 => exact fun _ _ _ h => h
  case bhw3 => rfl
  case bhy3 =>
    intro w' hSw
    go_simp
    try exact rfl
  simp only [Act.put, List.setIfInBounds_toArray, List.set_cons_zero, List.set_cons_succ]
  have hb1 : Below W.heap.size W (((W.alloc (Obj.cells #[.pointer (some ⟨Bc, 0, none⟩)] 63)).alloc (Obj.cells #[.int .i64 k, .int .i64 j, .int .i64 a, .int .i64 h] 56)).drew.drew) := Below.drew HC.out.2.2.1
  have hCd := HC.out.1.below hb1
  have hpc := qcells_at qs j hj
  have hqm : q0 ∈ qs := by rw [HN.out.2.2.2.2.2]; exact List.getElem_mem hj
  have hlit := litres_any Bp (j * 2) q0 _ ((hCd.p.cell _).trans (by rw [HN.out.2.2.2.2.2]; exact hpc.2)) (hCd.q q0 hqm) HN.out.1 (by have := HN.out.2.1; omega)
  have HL := Lib.hid hlit
  have hvn := vol_nn HN.out.1
  have hvm := HN.out.2.1
  have HVB := Lib.hid (And.intro hvn hvm)
  clear hlit hCd hpc hvn hvm
  refine wpLate_one (i := 4) (o := ?p4) (by kernel_rfl) ?hp4 ?hl4
  case hp4 => (simp only [List.getElem?_toArray, List.getElem?_cons_zero, List.getElem?_cons_succ]; rfl)
  intro K hK
  go_simp
  refine HL.out.mono ?_
  rintro e w2 ⟨rfl, hb2⟩
  have hc3 : w2.cell? ⟨W.heap.size + 1, 2, none⟩ = some (.int .i64 a) := cell_below hc2 hb2
  try (go_wp2_with fail)
  refine hK.out _ _ (fun _ => hc3) ?_
  clear hK K
  try simp only [Act.put, List.setIfInBounds_toArray, List.set_cons_zero, List.set_cons_succ]
  refine wpLate_one (i := 5) (o := ?p5) (by kernel_rfl) ?hp5 ?hl5
  case hp5 => (simp only [List.getElem?_toArray, List.getElem?_cons_zero, List.getElem?_cons_succ]; rfl)
  intro K hK
  go_wp2_with fail
  refine hK.out _ _ (fun _ => hc3) ?_
  clear hK K
  try simp only [Act.put, List.setIfInBounds_toArray, List.set_cons_zero, List.set_cons_succ]
  refine wpLate_one (i := 6) (o := ?p6) (by kernel_rfl) ?hp6 ?hl6
  case hp6 => (simp only [List.getElem?_toArray, List.getElem?_cons_zero, List.getElem?_cons_succ]; rfl)
  intro K hK
  go_simp
  refine (drain_any ⟨Bp, j * 2, none⟩ a w2).mono ?_
  rintro e w3 ⟨vd, rfl, hb3, hD⟩
  try (go_wp2_with fail)
  refine hK.out _ _ (fun _ => cell_below hc3 hb3) ?_
  clear hK K
  try simp only [Act.put, List.setIfInBounds_toArray, List.set_cons_zero, List.set_cons_succ]
  refine wpLate_done (by kernel_rfl) ?_ _
  refine NoPanic.normal ?_
  try simp only [Act.put, List.setIfInBounds_toArray, List.set_cons_zero, List.set_cons_succ]
  obtain ⟨Bl, Bq, rfl, hdl, hdq, hbl, hbq⟩ := hD
  have hs2 := hb2.size
  have hs1 := hb1.size
  have hb13 : Below W.heap.size W w3 := (hb1.trans (hb2.mono hs1)).trans (hb3.mono (by omega))
  have hbx3 : Has w3 W.heap.size 63 #[.pointer (some ⟨Bc, 0, none⟩)] := by
    have h := HC.out.2.2.2.1
    exact (((h.drew).below hb2 h.drew.lt).below hb3 (by have := h.drew.lt; omega))
  have K3 := Lib.hid (And.intro hb13 (And.intro hdl (And.intro hdq (And.intro hbl (And.intro hbq (And.intro hs2 (And.intro hs1 hbx3)))))))
  clear hb2 hb3 hdl hdq hbl hbq hb13 hc2 hc3 hb1 hs1 hs2 hbx3 HS0 HL
  go_wp2
  refine wpIn_wide.1 (wpIn_range_outer (n := 3) rfl enters76 ?hr)
  case hr =>
    intro fn
    obtain ⟨hC, hps, hb0, hbx0, nX⟩ := HC.out
    obtain ⟨hok, hv, hh, b1, b2, hq0⟩ := HN.out
    obtain ⟨hb13, hdl, hdq, hbl, hbq, hs2, hs1, hbx3⟩ := K3.out
    have hH : Here W Bc Bp (qs.take j) q0 ⟨(qs.drop (j + 1)).map Qu.pp, y.t, y.r⟩ qs := by rw [hq0]; exact here_split hC hj
    have htl : (qs.take j).length = j := by simp; omega
    have hbr : ∀ o, Below W.heap.size W ((w3.alloc (.deferred (some []))).alloc o) := fun o => (hb13.alloc hb13.size _).alloc (by simp; have := hb13.size; omega) _
    have hbr3 : ∀ o, Below w3.heap.size w3 ((w3.alloc (.deferred (some []))).alloc o) := fun o => (((Below.refl _ _).alloc (Nat.le_refl _) _).alloc (by simp) _)
    have hbs := hb13.size
    have hTk : ∀ (u0 u1 u3 u4 u5 u6 u7 u8 u9 u10 u11 u12 u13 u14 u15 u16 u17 u18 u19 u20 u21 u22 u23 u24 u25 u26 : Value) (A B : Code), some (A, B) = (Try.f57.body.map loopParts).bind (·[0]?) →
        Taker (w3.heap.size + 1) Bc Bp ((w3.alloc (.deferred (some []))).alloc (.loop (recAt fn #[u0, u1, .pointer (some ⟨W.heap.size, 0, none⟩), u3, u4, u5, u6, u7, u8, u9, u10, u11, u12, u13, u14, u15, u16, u17, u18, u19, u20, u21, u22, u23, u24, u25, u26] #[20] A B w3.heap.size))) (qs.take j) qs toLeak leakOk := by
      intro u0 u1 u3 u4 u5 u6 u7 u8 u9 u10 u11 u12 u13 u14 u15 u16 u17 u18 u19 u20 u21 u22 u23 u24 u25 u26 A B hAB W1 qs1 q1 y1 s1 hM1 hH1 hs1 hg1
      have hlr := hM1.block (rec_heap _ _ _) (nX _ (by omega))
      have hbx1 := (hbx3.below (hbr3 _) hbx3.lt).only hM1.only (nX _ (Nat.le_refl _))
      obtain ⟨fn2, tm2, a2, b2, hy2, hR2⟩ := round57 fn (w3.heap.size + 1) W.heap.size _ Bc Bp (qs.take j ++ [q1]) qs1 y1 s1 W1 _ _ _ _ _ _ _ _ _ _ _ _ _ _ _ _ _ _ _ _ _ _ _ _ _ _ hAB hlr hbx1 (by omega) (hereT_of hH1) hg1
      exact ⟨fn2, tm2, a2, b2, hy2, hR2.mono (fun e W3 ⟨h1, qs3, h2, h3⟩ => ⟨h1, qs3, h2, of_hereT h3⟩)⟩
    have hdr := drain_ok q0.l hok a (by have := HVB.out; have := H9.out; omega) (by have := HVB.out; omega)
    have hG : ∀ a' s' b', (drainL q0.l a).1 = a' ++ s' :: b' → leakOk (a'.foldl toLeak ⟨(qs.drop (j + 1)).map Qu.pp, y.t, y.r⟩) s' := by
      intro a' s' b' e
      have hoo := hdr.oo
      have hvo := hdr.vo
      have hho := hdr.hr
      rw [e] at hoo hvo hho
      obtain ⟨o1, o2⟩ := okL_app.1 hoo
      obtain ⟨o3, o4⟩ := okL_cons.1 o2
      have n1 := vol_nn o1; have n2 := hea_nn o1; have n3 := vol_nn o4; have n4 := hea_nn o4; have n5 := hea_nn hdr.or
      have n6 := o3.1; have n7 := o3.2
      have nV := HVB.out
      simp only [vol_app, hea_app, vol, hea] at hvo hho
      rw [fold_leak]
      exact ⟨⟨by simp only [leakR]; omega, by simp only [leakR]; omega⟩, ⟨by simp only [leakR]; omega, by simp only [leakR]; omega⟩⟩
    refine (callsIn_wide.2 (callsIn_wide.1 (drain1_any (w3.heap.size + 1) Bl Bq Bc Bp a _ (qs.take j) qs q0 _ toLeak leakOk (hH.below (hbr _)) ((hdl.alloc _).alloc _) (by rw [htl]; exact (hdq.alloc _).alloc _) (nX _ (by omega)) hok (by have := HVB.out; omega) (by omega) hh hG (hTk _ _ _ _ _ _ _ _ _ _ _ _ _ _ _ _ _ _ _ _ _ _ _ _ _ _ _ _ rfl)))).mono ?_
    rintro e W3 ⟨h1', qs3, q3, m1, m2, m3, m4⟩
    have hl3 := m1.block (rec_heap _ _ _) (nX _ (by omega))
    refine ⟨h1', hl3, fun rr => ?_⟩
    have hd3 : W3.heap[w3.heap.size]? = some (.deferred (some [])) := m1.block ((Below.heap_alloc _ _ _ (by simp)).trans (World.alloc_heap_new w3 _)) (nX _ hbs)
    have hd4 : (W3.putObj (w3.heap.size + 1) (.loop rr)).heap[w3.heap.size]? = some (.deferred (some [])) := (World.putObj_heap_other (by omega)).trans hd3
    have hfin : DonePost Bc Bp W qs (leakN y j a) (.returned (.tuple #[])) ((W3.putObj (w3.heap.size + 1) (.loop rr)).putObj w3.heap.size (.deferred none)) := by
      rw [hq0] at m2 m3 m4
      have h3 := leak_end hps hj m2 m3 m4
      refine ⟨⟨_, rfl⟩, qs3, ?_, ?_⟩
      · exact (((Mv.below (hbr _)).trans m1 hC).put (by omega) _).put hbs _
      · have h5 := (h3.put hl3 (fun _ _ _ e => by cases e) (.loop rr)).put hd4 (fun _ _ _ e => by cases e) (.deferred none)
        exact h5
    refine ⟨by simp, .inl ⟨_, _, rfl, run_takeDeferred hd4, ?_⟩⟩
    exact ⟨_, results_none rfl _ _ _, hfin⟩

set_option maxRecDepth 100000 in
set_option maxHeartbeats 4000000 in
theorem leak_more (Bc Bp j : Nat) (qs : List Qu) (y : Yx) (k a h : Int) (W : World) (hj : j < qs.length) (hC : Circ W Bc Bp y.t qs y.r) (hps : qs.map Qu.pp = y.ps) (h9 : qs.length ≤ 1000) (hok : okL qs[j].l) (hv : vol qs[j].l ≤ 1048576) (hh : hea qs[j].l ≤ 2199023255552) (h1 : 1 ≤ a)
    (b1 : 0 ≤ y.r.s.lv ∧ y.r.s.lv ≤ 1099511627776 - 1048576) (b2 : 0 ≤ y.r.s.lh ∧ y.r.s.lh ≤ 1099511627776000 - 2199023255552) (hk : vol qs[j].l < a) :
    Calls Try.prog 57 #[.pointer (some ⟨Bc, 0, none⟩), evv k j a h] W (DonePost Bc Bp W qs (leakN y j (vol qs[j].l))) := by
  obtain ⟨q0, hq0⟩ : ∃ q0, q0 = qs[j] := ⟨_, rfl⟩
  rw [← hq0] at hok hv hh hk
  try rw [← hq0]
  have hcl := hC.c.lt
  have hpl := hC.p.lt
  have nX : ∀ i, W.heap.size ≤ i → ¬ CS Bc Bp qs i := fun i hi h => by have := hC.lt h; omega
  have hb0 : Below W.heap.size W ((W.alloc (Obj.cells #[.pointer (some ⟨Bc, 0, none⟩)] 63)).alloc (Obj.cells #[.int .i64 k, .int .i64 j, .int .i64 a, .int .i64 h] 56)).drew := Below.drew (Below.alloc (Below.alloc (Below.refl _ _) (Nat.le_refl _) _) (by simp) _)
  have hS0 : (S57 Bc Bp W.heap.size qs.length j) ((W.alloc (Obj.cells #[.pointer (some ⟨Bc, 0, none⟩)] 63)).alloc (Obj.cells #[.int .i64 k, .int .i64 j, .int .i64 a, .int .i64 h] 56)).drew :=
    ⟨((Has.new W 63 _).alloc _).cell 0, ((hC.c.alloc _).alloc _).cell 2, (Has.newAt (w := W.alloc (Obj.cells #[.pointer (some ⟨Bc, 0, none⟩)] 63)) (by simp)).cell 1⟩
  have hbx0 : Has ((W.alloc (Obj.cells #[.pointer (some ⟨Bc, 0, none⟩)] 63)).alloc (Obj.cells #[.int .i64 k, .int .i64 j, .int .i64 a, .int .i64 h] 56)).drew W.heap.size 63 #[.pointer (some ⟨Bc, 0, none⟩)] := (Has.new W 63 _).alloc _
  have hc2 : ((W.alloc (Obj.cells #[.pointer (some ⟨Bc, 0, none⟩)] 63)).alloc (Obj.cells #[.int .i64 k, .int .i64 j, .int .i64 a, .int .i64 h] 56)).drew.drew.cell? ⟨W.heap.size + 1, 2, none⟩ = some (.int .i64 a) := (Has.newAt (w := W.alloc (Obj.cells #[.pointer (some ⟨Bc, 0, none⟩)] 63)) (by simp)).cell 2
  have HS0 := Lib.hid hS0
  have HC := Lib.hid (And.intro hC (And.intro hps (And.intro hb0 (And.intro hbx0 nX))))
  have HN := Lib.hid (And.intro hok (And.intro hv (And.intro hh (And.intro b1 (And.intro b2 hq0)))))
  have hlt' : (j : Int) < qs.length := by omega
  have H9 := Lib.hid (And.intro h9 h1)
  have hj9 : (j : Int) ≤ 1000 := by omega
  clear hS0 hC hb0 hbx0 hps nX hok hv hh b1 b2 hq0 h1
  refine callsIn_wide.1 (callsIn_of_wp_marks (n := 3) Try.func57 rfl trivial ?_ rfl)
  refine wpIn_wide.2 ?_
  simp only [Try.ntmps57, List.size_toArray, List.length_cons, List.length_nil, Nat.reduceAdd, Nat.reduceSub, Array.replicate_succ, Array.replicate_zero, List.push_toArray, List.append_toArray, List.nil_append, List.cons_append]
  go_wp2
  refine wp_region_noPanic ?_
  refine wp_region_late (S57 Bc Bp W.heap.size qs.length j) [] (by kernel_rfl) ?_
  refine wpLate_take (i := 0) (oi := ?oi0) (v := ?v0) [1, 2, 3, 6, 7] ?hi0 (by kernel_rfl) (by kernel_rfl) (by kernel_rfl) (by kernel_rfl) (by kernel_rfl) ?hQ0 (Or.inl ⟨?hw0, ?hy0⟩) HS0.out ?rest0
  case hi0 => (simp only [List.getElem?_toArray, List.getElem?_cons_zero]; rfl)
  case hQ0 => exact fun _ _ _ h => h
  case hw0 => rfl
  case hy0 =>
    intro w' hSw
    obtain ⟨r0, r1, r2⟩ := hSw
    go_simp
    try exact rfl
  simp only [Act.put, List.setIfInBounds_toArray, List.set_cons_zero, List.set_cons_succ]
  refine wpLate_take (i := 1) (oi := ?oi1) (v := ?v1) [2, 3, 6, 7] ?hi1 (by kernel_rfl) (by kernel_rfl) (by kernel_rfl) (by kernel_rfl) (by kernel_rfl) ?hQ1 (Or.inl ⟨?hw1, ?hy1⟩) HS0.out ?rest1
  case hi1 => (simp only [List.getElem?_toArray, List.getElem?_cons_zero, List.getElem?_cons_succ]; rfl)
  case hQ1 => exact fun _ _ _ h => h
  case hw1 => rfl
  case hy1 =>
    intro w' hSw
    obtain ⟨r0, r1, r2⟩ := hSw
    go_simp
    try exact rfl
  simp only [Act.put, List.setIfInBounds_toArray, List.set_cons_zero, List.set_cons_succ]
  refine wpLate_take (i := 2) (oi := ?oi2) (v := ?v2) [3, 6, 7] ?hi2 (by kernel_rfl) (by kernel_rfl) (by kernel_rfl) (by kernel_rfl) (by kernel_rfl) ?hQ2 (Or.inl ⟨?hw2, ?hy2⟩) HS0.out ?rest2
  case hi2 => (simp only [List.getElem?_toArray, List.getElem?_cons_zero, List.getElem?_cons_succ]; rfl)
  case hQ2 => exact fun _ _ _ h => h
  case hw2 => rfl
  case hy2 =>
    intro w' hSw
    obtain ⟨r0, r1, r2⟩ := hSw
    go_simp
    try exact rfl
  simp only [Act.put, List.setIfInBounds_toArray, List.set_cons_zero, List.set_cons_succ]
  refine wpLate_take (i := 3) (oi := ?oi3) (v := ?v3) [6, 7] ?hi3 (by kernel_rfl) (by kernel_rfl) (by kernel_rfl) (by kernel_rfl) (by kernel_rfl) ?hQ3 (Or.inl ⟨?hw3, ?hy3⟩) HS0.out ?rest3
  case hi3 => (simp only [List.getElem?_toArray, List.getElem?_cons_zero, List.getElem?_cons_succ]; rfl)
  case hQ3 => exact fun _ _ _ h => h
  case hw3 => rfl
  case hy3 =>
    intro w' hSw
    obtain ⟨r0, r1, r2⟩ := hSw
    go_simp
    try exact rfl
  simp only [Act.put, List.setIfInBounds_toArray, List.set_cons_zero, List.set_cons_succ]
  refine wpLate_take (i := 4) (oi := ?oi4) (v := ?v4) [5, 6, 7] ?hi4 (by kernel_rfl) (by kernel_rfl) (by kernel_rfl) (by kernel_rfl) (by kernel_rfl) ?hQ4 (Or.inl ⟨?hw4, ?hy4⟩) HS0.out ?rest4
  case hi4 => (simp only [List.getElem?_toArray, List.getElem?_cons_zero, List.getElem?_cons_succ]; rfl)
  case hQ4 => exact fun _ _ _ h => h
  case hw4 => rfl
  case hy4 =>
    intro w' hSw
    obtain ⟨r0, r1, r2⟩ := hSw
    go_simp
    try exact rfl
  simp only [Act.put, List.setIfInBounds_toArray, List.set_cons_zero, List.set_cons_succ]
  refine wpLate_take (i := 5) (oi := ?oi5) (v := ?v5) [6, 7] ?hi5 (by kernel_rfl) (by kernel_rfl) (by kernel_rfl) (by kernel_rfl) (by kernel_rfl) ?hQ5 (Or.inl ⟨?hw5, ?hy5⟩) HS0.out ?rest5
  case hi5 => (simp only [List.getElem?_toArray, List.getElem?_cons_zero, List.getElem?_cons_succ]; rfl)
  case hQ5 => exact fun _ _ _ h => h
  case hw5 => rfl
  case hy5 =>
    intro w' hSw
    obtain ⟨r0, r1, r2⟩ := hSw
    go_simp
    try exact rfl
  simp only [Act.put, List.setIfInBounds_toArray, List.set_cons_zero, List.set_cons_succ]
  refine wpLate_take (i := 6) (oi := ?oi6) (v := ?v6) [7] ?hi6 (by kernel_rfl) (by kernel_rfl) (by kernel_rfl) (by kernel_rfl) (by kernel_rfl) ?hQ6 (Or.inl ⟨?hw6, ?hy6⟩) HS0.out ?rest6
  case hi6 => (simp only [List.getElem?_toArray, List.getElem?_cons_zero, List.getElem?_cons_succ]; rfl)
  case hQ6 => exact fun _ _ _ h => h
  case hw6 => rfl
  case hy6 =>
    intro w' hSw
    obtain ⟨r0, r1, r2⟩ := hSw
    go_simp
    try exact rfl
  simp only [Act.put, List.setIfInBounds_toArray, List.set_cons_zero, List.set_cons_succ]
  refine wpLate_one (i := 7) (o := ?o7) (by kernel_rfl) ?ho7 ?hk7
  case ho7 => (simp only [List.getElem?_toArray, List.getElem?_cons_zero, List.getElem?_cons_succ]; rfl)
  intro K hK
  go_simp
  refine hK.out _ _ (fun _ => HS0.out) ?_
  clear hK K
  try simp only [Act.put, List.setIfInBounds_toArray, List.set_cons_zero, List.set_cons_succ]
  refine wpLate_done (by kernel_rfl) ?_ _
  refine NoPanic.normal ?_
  try simp only [Act.put, List.setIfInBounds_toArray, List.set_cons_zero, List.set_cons_succ]
  go_wp2
  refine wp_region_noPanic ?_
  refine wp_region_late (fun w : World => w.cell? ⟨W.heap.size + 1, 2, none⟩ = some (.int .i64 a)) [] (by kernel_rfl) ?_
  refine wpLate_take (i := 0) (oi := ?boi0) (v := ?bv0) [6] ?bhi0 (by kernel_rfl) (by kernel_rfl) (by kernel_rfl) (by kernel_rfl) (by kernel_rfl) ?bhQ0 (Or.inl ⟨?bhw0, ?bhy0⟩) hc2 ?brest0
  case bhi0 => (simp only [List.getElem?_toArray, List.getElem?_cons_zero]; rfl)
  case bhQ0 => exact fun _ _ _ h => h
  case bhw0 => rfl
  case bhy0 =>
    intro w' hSw
    go_simp
    try exact rfl
  simp only [Act.put, List.setIfInBounds_toArray, List.set_cons_zero, List.set_cons_succ]
  refine wpLate_take (i := 1) (oi := ?boi1) (v := ?bv1) [2, 5, 6] ?bhi1 (by kernel_rfl) (by kernel_rfl) (by kernel_rfl) (by kernel_rfl) (by kernel_rfl) ?bhQ1 (Or.inl ⟨?bhw1, ?bhy1⟩) hc2 ?brest1
  case bhi1 => (simp only [List.getElem?_toArray, List.getElem?_cons_zero, List.getElem?_cons_succ]; rfl)
  case bhQ1 => exact fun _ _ _ h => h
  case bhw1 => rfl
  case bhy1 =>
    intro w' hSw
    go_simp
    try exact rfl
  simp only [Act.put, List.setIfInBounds_toArray, List.set_cons_zero, List.set_cons_succ]
  refine wpLate_take (i := 2) (oi := ?boi2) (v := ?bv2) [5, 6] ?bhi2 (by kernel_rfl) (by kernel_rfl) (by kernel_rfl) (by kernel_rfl) (by kernel_rfl) ?bhQ2 (Or.inl ⟨?bhw2, ?bhy2⟩) hc2 ?brest2
  case bhi2 => (simp only [List.getElem?_toArray, List.getElem?_cons_zero, List.getElem?_cons_succ]; rfl)
  case bhQ2 => exact fun _ _ _ h => h
  case bhw2 => rfl
  case bhy2 =>
    intro w' hSw
    go_simp
    try exact rfl
  simp only [Act.put, List.setIfInBounds_toArray, List.set_cons_zero, List.set_cons_succ]
  refine wpLate_take (i := 3) (oi := ?boi3) (v := ?bv3) [4, 5, 6] ?bhi3 (by kernel_rfl) (by kernel_rfl) (by kernel_rfl) (by kernel_rfl) (by kernel_rfl) ?bhQ3 (Or.inl ⟨?bhw3, ?bhy3⟩) hc2 ?brest3
  case bhi3 => (simp only [List.getElem?_toArray, List.getElem?_cons_zero, List.getElem?_cons_succ]; rfl)
  case bhQ3 => exact fun _ _ _ h => h
  case bhw3 => rfl
  case bhy3 =>
    intro w' hSw
    go_simp
    try exact rfl
  simp only [Act.put, List.setIfInBounds_toArray, List.set_cons_zero, List.set_cons_succ]
  have hb1 : Below W.heap.size W (((W.alloc (Obj.cells #[.pointer (some ⟨Bc, 0, none⟩)] 63)).alloc (Obj.cells #[.int .i64 k, .int .i64 j, .int .i64 a, .int .i64 h] 56)).drew.drew) := Below.drew HC.out.2.2.1
  have hCd := HC.out.1.below hb1
  have hpc := qcells_at qs j hj
  have hqm : q0 ∈ qs := by rw [HN.out.2.2.2.2.2]; exact List.getElem_mem hj
  have hlit := litres_any Bp (j * 2) q0 _ ((hCd.p.cell _).trans (by rw [HN.out.2.2.2.2.2]; exact hpc.2)) (hCd.q q0 hqm) HN.out.1 (by have := HN.out.2.1; omega)
  have HL := Lib.hid hlit
  have hvn := vol_nn HN.out.1
  have hvm := HN.out.2.1
  have HVB := Lib.hid (And.intro hvn hvm)
  clear hlit hCd hpc hvn hvm
  refine wpLate_one (i := 4) (o := ?p4) (by kernel_rfl) ?hp4 ?hl4
  case hp4 => (simp only [List.getElem?_toArray, List.getElem?_cons_zero, List.getElem?_cons_succ]; rfl)
  intro K hK
  go_simp
  refine HL.out.mono ?_
  rintro e w2 ⟨rfl, hb2⟩
  have hc3 : w2.cell? ⟨W.heap.size + 1, 2, none⟩ = some (.int .i64 a) := cell_below hc2 hb2
  try (go_wp2_with fail)
  refine hK.out _ _ (fun _ => hc3) ?_
  clear hK K
  try simp only [Act.put, List.setIfInBounds_toArray, List.set_cons_zero, List.set_cons_succ]
  refine wpLate_one (i := 5) (o := ?p5) (by kernel_rfl) ?hp5 ?hl5
  case hp5 => (simp only [List.getElem?_toArray, List.getElem?_cons_zero, List.getElem?_cons_succ]; rfl)
  intro K hK
  go_wp2_with fail
  refine hK.out _ _ (fun _ => hc3) ?_
  clear hK K
  try simp only [Act.put, List.setIfInBounds_toArray, List.set_cons_zero, List.set_cons_succ]
  refine wpLate_one (i := 6) (o := ?p6) (by kernel_rfl) ?hp6 ?hl6
  case hp6 => (simp only [List.getElem?_toArray, List.getElem?_cons_zero, List.getElem?_cons_succ]; rfl)
  intro K hK
  go_simp
  refine (drain_any ⟨Bp, j * 2, none⟩ (vol q0.l) w2).mono ?_
  rintro e w3 ⟨vd, rfl, hb3, hD⟩
  try (go_wp2_with fail)
  refine hK.out _ _ (fun _ => cell_below hc3 hb3) ?_
  clear hK K
  try simp only [Act.put, List.setIfInBounds_toArray, List.set_cons_zero, List.set_cons_succ]
  refine wpLate_done (by kernel_rfl) ?_ _
  refine NoPanic.normal ?_
  try simp only [Act.put, List.setIfInBounds_toArray, List.set_cons_zero, List.set_cons_succ]
  obtain ⟨Bl, Bq, rfl, hdl, hdq, hbl, hbq⟩ := hD
  have hs2 := hb2.size
  have hs1 := hb1.size
  have hb13 : Below W.heap.size W w3 := (hb1.trans (hb2.mono hs1)).trans (hb3.mono (by omega))
  have hbx3 : Has w3 W.heap.size 63 #[.pointer (some ⟨Bc, 0, none⟩)] := by
    have h := HC.out.2.2.2.1
    exact (((h.drew).below hb2 h.drew.lt).below hb3 (by have := h.drew.lt; omega))
  have K3 := Lib.hid (And.intro hb13 (And.intro hdl (And.intro hdq (And.intro hbl (And.intro hbq (And.intro hs2 (And.intro hs1 hbx3)))))))
  clear hb2 hb3 hdl hdq hbl hbq hb13 hc2 hc3 hb1 hs1 hs2 hbx3 HS0 HL
  go_wp2
  refine wpIn_wide.1 (wpIn_range_outer (n := 3) rfl enters76 ?hr)
  case hr =>
    intro fn
    obtain ⟨hC, hps, hb0, hbx0, nX⟩ := HC.out
    obtain ⟨hok, hv, hh, b1, b2, hq0⟩ := HN.out
    obtain ⟨hb13, hdl, hdq, hbl, hbq, hs2, hs1, hbx3⟩ := K3.out
    have hH : Here W Bc Bp (qs.take j) q0 ⟨(qs.drop (j + 1)).map Qu.pp, y.t, y.r⟩ qs := by rw [hq0]; exact here_split hC hj
    have htl : (qs.take j).length = j := by simp; omega
    have hbr : ∀ o, Below W.heap.size W ((w3.alloc (.deferred (some []))).alloc o) := fun o => (hb13.alloc hb13.size _).alloc (by simp; have := hb13.size; omega) _
    have hbr3 : ∀ o, Below w3.heap.size w3 ((w3.alloc (.deferred (some []))).alloc o) := fun o => (((Below.refl _ _).alloc (Nat.le_refl _) _).alloc (by simp) _)
    have hbs := hb13.size
    have hTk : ∀ (u0 u1 u3 u4 u5 u6 u7 u8 u9 u10 u11 u12 u13 u14 u15 u16 u17 u18 u19 u20 u21 u22 u23 u24 u25 u26 : Value) (A B : Code), some (A, B) = (Try.f57.body.map loopParts).bind (·[0]?) →
        Taker (w3.heap.size + 1) Bc Bp ((w3.alloc (.deferred (some []))).alloc (.loop (recAt fn #[u0, u1, .pointer (some ⟨W.heap.size, 0, none⟩), u3, u4, u5, u6, u7, u8, u9, u10, u11, u12, u13, u14, u15, u16, u17, u18, u19, u20, u21, u22, u23, u24, u25, u26] #[20] A B w3.heap.size))) (qs.take j) qs toLeak leakOk := by
      intro u0 u1 u3 u4 u5 u6 u7 u8 u9 u10 u11 u12 u13 u14 u15 u16 u17 u18 u19 u20 u21 u22 u23 u24 u25 u26 A B hAB W1 qs1 q1 y1 s1 hM1 hH1 hs1 hg1
      have hlr := hM1.block (rec_heap _ _ _) (nX _ (by omega))
      have hbx1 := (hbx3.below (hbr3 _) hbx3.lt).only hM1.only (nX _ (Nat.le_refl _))
      obtain ⟨fn2, tm2, a2, b2, hy2, hR2⟩ := round57 fn (w3.heap.size + 1) W.heap.size _ Bc Bp (qs.take j ++ [q1]) qs1 y1 s1 W1 _ _ _ _ _ _ _ _ _ _ _ _ _ _ _ _ _ _ _ _ _ _ _ _ _ _ hAB hlr hbx1 (by omega) (hereT_of hH1) hg1
      exact ⟨fn2, tm2, a2, b2, hy2, hR2.mono (fun e W3 ⟨h1, qs3, h2, h3⟩ => ⟨h1, qs3, h2, of_hereT h3⟩)⟩
    have hdr := drain_ok q0.l hok (vol q0.l) (by have := HVB.out; have := H9.out; omega) (by have := HVB.out; omega)
    have hG : ∀ a' s' b', (drainL q0.l (vol q0.l)).1 = a' ++ s' :: b' → leakOk (a'.foldl toLeak ⟨(qs.drop (j + 1)).map Qu.pp, y.t, y.r⟩) s' := by
      intro a' s' b' e
      have hoo := hdr.oo
      have hvo := hdr.vo
      have hho := hdr.hr
      rw [e] at hoo hvo hho
      obtain ⟨o1, o2⟩ := okL_app.1 hoo
      obtain ⟨o3, o4⟩ := okL_cons.1 o2
      have n1 := vol_nn o1; have n2 := hea_nn o1; have n3 := vol_nn o4; have n4 := hea_nn o4; have n5 := hea_nn hdr.or
      have n6 := o3.1; have n7 := o3.2
      have nV := HVB.out
      simp only [vol_app, hea_app, vol, hea] at hvo hho
      rw [fold_leak]
      exact ⟨⟨by simp only [leakR]; omega, by simp only [leakR]; omega⟩, ⟨by simp only [leakR]; omega, by simp only [leakR]; omega⟩⟩
    refine (callsIn_wide.2 (callsIn_wide.1 (drain1_any (w3.heap.size + 1) Bl Bq Bc Bp (vol q0.l) _ (qs.take j) qs q0 _ toLeak leakOk (hH.below (hbr _)) ((hdl.alloc _).alloc _) (by rw [htl]; exact (hdq.alloc _).alloc _) (nX _ (by omega)) hok (by have := HVB.out; omega) (by omega) hh hG (hTk _ _ _ _ _ _ _ _ _ _ _ _ _ _ _ _ _ _ _ _ _ _ _ _ _ _ _ _ rfl)))).mono ?_
    rintro e W3 ⟨h1', qs3, q3, m1, m2, m3, m4⟩
    have hl3 := m1.block (rec_heap _ _ _) (nX _ (by omega))
    refine ⟨h1', hl3, fun rr => ?_⟩
    have hd3 : W3.heap[w3.heap.size]? = some (.deferred (some [])) := m1.block ((Below.heap_alloc _ _ _ (by simp)).trans (World.alloc_heap_new w3 _)) (nX _ hbs)
    have hd4 : (W3.putObj (w3.heap.size + 1) (.loop rr)).heap[w3.heap.size]? = some (.deferred (some [])) := (World.putObj_heap_other (by omega)).trans hd3
    have hfin : DonePost Bc Bp W qs (leakN y j (vol q0.l)) (.returned (.tuple #[])) ((W3.putObj (w3.heap.size + 1) (.loop rr)).putObj w3.heap.size (.deferred none)) := by
      rw [hq0] at m2 m3 m4
      have h3 := leak_end hps hj m2 m3 m4
      refine ⟨⟨_, rfl⟩, qs3, ?_, ?_⟩
      · exact (((Mv.below (hbr _)).trans m1 hC).put (by omega) _).put hbs _
      · have h5 := (h3.put hl3 (fun _ _ _ e => by cases e) (.loop rr)).put hd4 (fun _ _ _ e => by cases e) (.deferred none)
        rw [hq0]; exact h5
    refine ⟨by simp, .inl ⟨_, _, rfl, run_takeDeferred hd4, ?_⟩⟩
    exact ⟨_, results_none rfl _ _ _, hfin⟩

set_option maxRecDepth 100000 in
set_option maxHeartbeats 4000000 in
theorem leak_just (Bc Bp j : Nat) (qs : List Qu) (y : Yx) (k a h : Int) (W : World) (hj : j < qs.length) (hC : Circ W Bc Bp y.t qs y.r) (hps : qs.map Qu.pp = y.ps) (h9 : qs.length ≤ 1000) (hok : okL qs[j].l) (hv : vol qs[j].l ≤ 1048576) (hh : hea qs[j].l ≤ 2199023255552) (h1 : 1 ≤ a)
    (b1 : 0 ≤ y.r.s.lv ∧ y.r.s.lv ≤ 1099511627776 - 1048576) (b2 : 0 ≤ y.r.s.lh ∧ y.r.s.lh ≤ 1099511627776000 - 2199023255552) (hk : a = vol qs[j].l) :
    Calls Try.prog 57 #[.pointer (some ⟨Bc, 0, none⟩), evv k j a h] W (DonePost Bc Bp W qs (leakN y j (vol qs[j].l))) := by
  obtain ⟨q0, hq0⟩ : ∃ q0, q0 = qs[j] := ⟨_, rfl⟩
  rw [← hq0] at hok hv hh hk
  try rw [← hq0]
  subst hk
  have hcl := hC.c.lt
  have hpl := hC.p.lt
  have nX : ∀ i, W.heap.size ≤ i → ¬ CS Bc Bp qs i := fun i hi h => by have := hC.lt h; omega
  have hb0 : Below W.heap.size W ((W.alloc (Obj.cells #[.pointer (some ⟨Bc, 0, none⟩)] 63)).alloc (Obj.cells #[.int .i64 k, .int .i64 j, .int .i64 (vol q0.l), .int .i64 h] 56)).drew := Below.drew (Below.alloc (Below.alloc (Below.refl _ _) (Nat.le_refl _) _) (by simp) _)
  have hS0 : (S57 Bc Bp W.heap.size qs.length j) ((W.alloc (Obj.cells #[.pointer (some ⟨Bc, 0, none⟩)] 63)).alloc (Obj.cells #[.int .i64 k, .int .i64 j, .int .i64 (vol q0.l), .int .i64 h] 56)).drew :=
    ⟨((Has.new W 63 _).alloc _).cell 0, ((hC.c.alloc _).alloc _).cell 2, (Has.newAt (w := W.alloc (Obj.cells #[.pointer (some ⟨Bc, 0, none⟩)] 63)) (by simp)).cell 1⟩
  have hbx0 : Has ((W.alloc (Obj.cells #[.pointer (some ⟨Bc, 0, none⟩)] 63)).alloc (Obj.cells #[.int .i64 k, .int .i64 j, .int .i64 (vol q0.l), .int .i64 h] 56)).drew W.heap.size 63 #[.pointer (some ⟨Bc, 0, none⟩)] := (Has.new W 63 _).alloc _
  have hc2 : ((W.alloc (Obj.cells #[.pointer (some ⟨Bc, 0, none⟩)] 63)).alloc (Obj.cells #[.int .i64 k, .int .i64 j, .int .i64 (vol q0.l), .int .i64 h] 56)).drew.drew.cell? ⟨W.heap.size + 1, 2, none⟩ = some (.int .i64 (vol q0.l)) := (Has.newAt (w := W.alloc (Obj.cells #[.pointer (some ⟨Bc, 0, none⟩)] 63)) (by simp)).cell 2
  have HS0 := Lib.hid hS0
  have HC := Lib.hid (And.intro hC (And.intro hps (And.intro hb0 (And.intro hbx0 nX))))
  have HN := Lib.hid (And.intro hok (And.intro hv (And.intro hh (And.intro b1 (And.intro b2 hq0)))))
  have hlt' : (j : Int) < qs.length := by omega
  have H9 := Lib.hid (And.intro h9 h1)
  have hj9 : (j : Int) ≤ 1000 := by omega
  clear hS0 hC hb0 hbx0 hps nX hok hv hh b1 b2 hq0 h1
  refine callsIn_wide.1 (callsIn_of_wp_marks (n := 3) Try.func57 rfl trivial ?_ rfl)
  refine wpIn_wide.2 ?_
  simp only [Try.ntmps57, List.size_toArray, List.length_cons, List.length_nil, Nat.reduceAdd, Nat.reduceSub, Array.replicate_succ, Array.replicate_zero, List.push_toArray, List.append_toArray, List.nil_append, List.cons_append]
  go_wp2
  refine wp_region_noPanic ?_
  refine wp_region_late (S57 Bc Bp W.heap.size qs.length j) [] (by kernel_rfl) ?_
  refine wpLate_take (i := 0) (oi := ?oi0) (v := ?v0) [1, 2, 3, 6, 7] ?hi0 (by kernel_rfl) (by kernel_rfl) (by kernel_rfl) (by kernel_rfl) (by kernel_rfl) ?hQ0 (Or.inl ⟨?hw0, ?hy0⟩) HS0.out ?rest0
  case hi0 => (simp only [List.getElem?_toArray, List.getElem?_cons_zero]; rfl)
  case hQ0 => exact fun _ _ _ h => h
  case hw0 => rfl
  case hy0 =>
    intro w' hSw
    obtain ⟨r0, r1, r2⟩ := hSw
    go_simp
    try exact rfl
  simp only [Act.put, List.setIfInBounds_toArray, List.set_cons_zero, List.set_cons_succ]
  refine wpLate_take (i := 1) (oi := ?oi1) (v := ?v1) [2, 3, 6, 7] ?hi1 (by kernel_rfl) (by kernel_rfl) (by kernel_rfl) (by kernel_rfl) (by kernel_rfl) ?hQ1 (Or.inl ⟨?hw1, ?hy1⟩) HS0.out ?rest1
  case hi1 => (simp only [List.getElem?_toArray, List.getElem?_cons_zero, List.getElem?_cons_succ]; rfl)
  case hQ1 => exact fun _ _ _ h => h
  case hw1 => rfl
  case hy1 =>
    intro w' hSw
    obtain ⟨r0, r1, r2⟩ := hSw
    go_simp
    try exact rfl
  simp only [Act.put, List.setIfInBounds_toArray, List.set_cons_zero, List.set_cons_succ]
  refine wpLate_take (i := 2) (oi := ?oi2) (v := ?v2) [3, 6, 7] ?hi2 (by kernel_rfl) (by kernel_rfl) (by kernel_rfl) (by kernel_rfl) (by kernel_rfl) ?hQ2 (Or.inl ⟨?hw2, ?hy2⟩) HS0.out ?rest2
  case hi2 => (simp only [List.getElem?_toArray, List.getElem?_cons_zero, List.getElem?_cons_succ]; rfl)
  case hQ2 => exact fun _ _ _ h => h
  case hw2 => rfl
  case hy2 =>
    intro w' hSw
    obtain ⟨r0, r1, r2⟩ := hSw
    go_simp
    try exact rfl
  simp only [Act.put, List.setIfInBounds_toArray, List.set_cons_zero, List.set_cons_succ]
  refine wpLate_take (i := 3) (oi := ?oi3) (v := ?v3) [6, 7] ?hi3 (by kernel_rfl) (by kernel_rfl) (by kernel_rfl) (by kernel_rfl) (by kernel_rfl) ?hQ3 (Or.inl ⟨?hw3, ?hy3⟩) HS0.out ?rest3
  case hi3 => (simp only [List.getElem?_toArray, List.getElem?_cons_zero, List.getElem?_cons_succ]; rfl)
  case hQ3 => exact fun _ _ _ h => h
  case hw3 => rfl
  case hy3 =>
    intro w' hSw
    obtain ⟨r0, r1, r2⟩ := hSw
    go_simp
    try exact rfl
  simp only [Act.put, List.setIfInBounds_toArray, List.set_cons_zero, List.set_cons_succ]
  refine wpLate_take (i := 4) (oi := ?oi4) (v := ?v4) [5, 6, 7] ?hi4 (by kernel_rfl) (by kernel_rfl) (by kernel_rfl) (by kernel_rfl) (by kernel_rfl) ?hQ4 (Or.inl ⟨?hw4, ?hy4⟩) HS0.out ?rest4
  case hi4 => (simp only [List.getElem?_toArray, List.getElem?_cons_zero, List.getElem?_cons_succ]; rfl)
  case hQ4 => exact fun _ _ _ h => h
  case hw4 => rfl
  case hy4 =>
    intro w' hSw
    obtain ⟨r0, r1, r2⟩ := hSw
    go_simp
    try exact rfl
  simp only [Act.put, List.setIfInBounds_toArray, List.set_cons_zero, List.set_cons_succ]
  refine wpLate_take (i := 5) (oi := ?oi5) (v := ?v5) [6, 7] ?hi5 (by kernel_rfl) (by kernel_rfl) (by kernel_rfl) (by kernel_rfl) (by kernel_rfl) ?hQ5 (Or.inl ⟨?hw5, ?hy5⟩) HS0.out ?rest5
  case hi5 => (simp only [List.getElem?_toArray, List.getElem?_cons_zero, List.getElem?_cons_succ]; rfl)
  case hQ5 => exact fun _ _ _ h => h
  case hw5 => rfl
  case hy5 =>
    intro w' hSw
    obtain ⟨r0, r1, r2⟩ := hSw
    go_simp
    try exact rfl
  simp only [Act.put, List.setIfInBounds_toArray, List.set_cons_zero, List.set_cons_succ]
  refine wpLate_take (i := 6) (oi := ?oi6) (v := ?v6) [7] ?hi6 (by kernel_rfl) (by kernel_rfl) (by kernel_rfl) (by kernel_rfl) (by kernel_rfl) ?hQ6 (Or.inl ⟨?hw6, ?hy6⟩) HS0.out ?rest6
  case hi6 => (simp only [List.getElem?_toArray, List.getElem?_cons_zero, List.getElem?_cons_succ]; rfl)
  case hQ6 => exact fun _ _ _ h => h
  case hw6 => rfl
  case hy6 =>
    intro w' hSw
    obtain ⟨r0, r1, r2⟩ := hSw
    go_simp
    try exact rfl
  simp only [Act.put, List.setIfInBounds_toArray, List.set_cons_zero, List.set_cons_succ]
  refine wpLate_one (i := 7) (o := ?o7) (by kernel_rfl) ?ho7 ?hk7
  case ho7 => (simp only [List.getElem?_toArray, List.getElem?_cons_zero, List.getElem?_cons_succ]; rfl)
  intro K hK
  go_simp
  refine hK.out _ _ (fun _ => HS0.out) ?_
  clear hK K
  try simp only [Act.put, List.setIfInBounds_toArray, List.set_cons_zero, List.set_cons_succ]
  refine wpLate_done (by kernel_rfl) ?_ _
  refine NoPanic.normal ?_
  try simp only [Act.put, List.setIfInBounds_toArray, List.set_cons_zero, List.set_cons_succ]
  go_wp2
  refine wp_region_noPanic ?_
  refine wp_region_late (fun w : World => w.cell? ⟨W.heap.size + 1, 2, none⟩ = some (.int .i64 (vol q0.l))) [] (by kernel_rfl) ?_
  refine wpLate_take (i := 0) (oi := ?boi0) (v := ?bv0) [6] ?bhi0 (by kernel_rfl) (by kernel_rfl) (by kernel_rfl) (by kernel_rfl) (by kernel_rfl) ?bhQ0 (Or.inl ⟨?bhw0, ?bhy0⟩) hc2 ?brest0
  case bhi0 => (simp only [List.getElem?_toArray, List.getElem?_cons_zero]; rfl)
  case bhQ0 => exact fun _ _ _ h => h
  case bhw0 => rfl
  case bhy0 =>
    intro w' hSw
    go_simp
    try exact rfl
  simp only [Act.put, List.setIfInBounds_toArray, List.set_cons_zero, List.set_cons_succ]
  refine wpLate_take (i := 1) (oi := ?boi1) (v := ?bv1) [2, 5, 6] ?bhi1 (by kernel_rfl) (by kernel_rfl) (by kernel_rfl) (by kernel_rfl) (by kernel_rfl) ?bhQ1 (Or.inl ⟨?bhw1, ?bhy1⟩) hc2 ?brest1
  case bhi1 => (simp only [List.getElem?_toArray, List.getElem?_cons_zero, List.getElem?_cons_succ]; rfl)
  case bhQ1 => exact fun _ _ _ h => h
  case bhw1 => rfl
  case bhy1 =>
    intro w' hSw
    go_simp
    try exact rfl
  simp only [Act.put, List.setIfInBounds_toArray, List.set_cons_zero, List.set_cons_succ]
  refine wpLate_take (i := 2) (oi := ?boi2) (v := ?bv2) [5, 6] ?bhi2 (by kernel_rfl) (by kernel_rfl) (by kernel_rfl) (by kernel_rfl) (by kernel_rfl) ?bhQ2 (Or.inl ⟨?bhw2, ?bhy2⟩) hc2 ?brest2
  case bhi2 => (simp only [List.getElem?_toArray, List.getElem?_cons_zero, List.getElem?_cons_succ]; rfl)
  case bhQ2 => exact fun _ _ _ h => h
  case bhw2 => rfl
  case bhy2 =>
    intro w' hSw
    go_simp
    try exact rfl
  simp only [Act.put, List.setIfInBounds_toArray, List.set_cons_zero, List.set_cons_succ]
  refine wpLate_take (i := 3) (oi := ?boi3) (v := ?bv3) [4, 5, 6] ?bhi3 (by kernel_rfl) (by kernel_rfl) (by kernel_rfl) (by kernel_rfl) (by kernel_rfl) ?bhQ3 (Or.inl ⟨?bhw3, ?bhy3⟩) hc2 ?brest3
  case bhi3 => (simp only [List.getElem?_toArray, List.getElem?_cons_zero, List.getElem?_cons_succ]; rfl)
  case bhQ3 => exact fun _ _ _ h => h
  case bhw3 => rfl
  case bhy3 =>
    intro w' hSw
    go_simp
    try exact rfl
  simp only [Act.put, List.setIfInBounds_toArray, List.set_cons_zero, List.set_cons_succ]
  have hb1 : Below W.heap.size W (((W.alloc (Obj.cells #[.pointer (some ⟨Bc, 0, none⟩)] 63)).alloc (Obj.cells #[.int .i64 k, .int .i64 j, .int .i64 (vol q0.l), .int .i64 h] 56)).drew.drew) := Below.drew HC.out.2.2.1
  have hCd := HC.out.1.below hb1
  have hpc := qcells_at qs j hj
  have hqm : q0 ∈ qs := by rw [HN.out.2.2.2.2.2]; exact List.getElem_mem hj
  have hlit := litres_any Bp (j * 2) q0 _ ((hCd.p.cell _).trans (by rw [HN.out.2.2.2.2.2]; exact hpc.2)) (hCd.q q0 hqm) HN.out.1 (by have := HN.out.2.1; omega)
  have HL := Lib.hid hlit
  have hvn := vol_nn HN.out.1
  have hvm := HN.out.2.1
  have HVB := Lib.hid (And.intro hvn hvm)
  clear hlit hCd hpc hvn hvm
  refine wpLate_one (i := 4) (o := ?p4) (by kernel_rfl) ?hp4 ?hl4
  case hp4 => (simp only [List.getElem?_toArray, List.getElem?_cons_zero, List.getElem?_cons_succ]; rfl)
  intro K hK
  go_simp
  refine HL.out.mono ?_
  rintro e w2 ⟨rfl, hb2⟩
  have hc3 : w2.cell? ⟨W.heap.size + 1, 2, none⟩ = some (.int .i64 (vol q0.l)) := cell_below hc2 hb2
  try (go_wp2_with fail)
  refine hK.out _ _ (fun _ => hc3) ?_
  clear hK K
  try simp only [Act.put, List.setIfInBounds_toArray, List.set_cons_zero, List.set_cons_succ]
  refine wpLate_one (i := 5) (o := ?p5) (by kernel_rfl) ?hp5 ?hl5
  case hp5 => (simp only [List.getElem?_toArray, List.getElem?_cons_zero, List.getElem?_cons_succ]; rfl)
  intro K hK
  go_wp2_with fail
  refine hK.out _ _ (fun _ => hc3) ?_
  clear hK K
  try simp only [Act.put, List.setIfInBounds_toArray, List.set_cons_zero, List.set_cons_succ]
  refine wpLate_one (i := 6) (o := ?p6) (by kernel_rfl) ?hp6 ?hl6
  case hp6 => (simp only [List.getElem?_toArray, List.getElem?_cons_zero, List.getElem?_cons_succ]; rfl)
  intro K hK
  go_simp
  refine (drain_any ⟨Bp, j * 2, none⟩ (vol q0.l) w2).mono ?_
  rintro e w3 ⟨vd, rfl, hb3, hD⟩
  try (go_wp2_with fail)
  refine hK.out _ _ (fun _ => cell_below hc3 hb3) ?_
  clear hK K
  try simp only [Act.put, List.setIfInBounds_toArray, List.set_cons_zero, List.set_cons_succ]
  refine wpLate_done (by kernel_rfl) ?_ _
  refine NoPanic.normal ?_
  try simp only [Act.put, List.setIfInBounds_toArray, List.set_cons_zero, List.set_cons_succ]
  obtain ⟨Bl, Bq, rfl, hdl, hdq, hbl, hbq⟩ := hD
  have hs2 := hb2.size
  have hs1 := hb1.size
  have hb13 : Below W.heap.size W w3 := (hb1.trans (hb2.mono hs1)).trans (hb3.mono (by omega))
  have hbx3 : Has w3 W.heap.size 63 #[.pointer (some ⟨Bc, 0, none⟩)] := by
    have h := HC.out.2.2.2.1
    exact (((h.drew).below hb2 h.drew.lt).below hb3 (by have := h.drew.lt; omega))
  have K3 := Lib.hid (And.intro hb13 (And.intro hdl (And.intro hdq (And.intro hbl (And.intro hbq (And.intro hs2 (And.intro hs1 hbx3)))))))
  clear hb2 hb3 hdl hdq hbl hbq hb13 hc2 hc3 hb1 hs1 hs2 hbx3 HS0 HL
  go_wp2
  refine wpIn_wide.1 (wpIn_range_outer (n := 3) rfl enters76 ?hr)
  case hr =>
    intro fn
    obtain ⟨hC, hps, hb0, hbx0, nX⟩ := HC.out
    obtain ⟨hok, hv, hh, b1, b2, hq0⟩ := HN.out
    obtain ⟨hb13, hdl, hdq, hbl, hbq, hs2, hs1, hbx3⟩ := K3.out
    have hH : Here W Bc Bp (qs.take j) q0 ⟨(qs.drop (j + 1)).map Qu.pp, y.t, y.r⟩ qs := by rw [hq0]; exact here_split hC hj
    have htl : (qs.take j).length = j := by simp; omega
    have hbr : ∀ o, Below W.heap.size W ((w3.alloc (.deferred (some []))).alloc o) := fun o => (hb13.alloc hb13.size _).alloc (by simp; have := hb13.size; omega) _
    have hbr3 : ∀ o, Below w3.heap.size w3 ((w3.alloc (.deferred (some []))).alloc o) := fun o => (((Below.refl _ _).alloc (Nat.le_refl _) _).alloc (by simp) _)
    have hbs := hb13.size
    have hTk : ∀ (u0 u1 u3 u4 u5 u6 u7 u8 u9 u10 u11 u12 u13 u14 u15 u16 u17 u18 u19 u20 u21 u22 u23 u24 u25 u26 : Value) (A B : Code), some (A, B) = (Try.f57.body.map loopParts).bind (·[0]?) →
        Taker (w3.heap.size + 1) Bc Bp ((w3.alloc (.deferred (some []))).alloc (.loop (recAt fn #[u0, u1, .pointer (some ⟨W.heap.size, 0, none⟩), u3, u4, u5, u6, u7, u8, u9, u10, u11, u12, u13, u14, u15, u16, u17, u18, u19, u20, u21, u22, u23, u24, u25, u26] #[20] A B w3.heap.size))) (qs.take j) qs toLeak leakOk := by
      intro u0 u1 u3 u4 u5 u6 u7 u8 u9 u10 u11 u12 u13 u14 u15 u16 u17 u18 u19 u20 u21 u22 u23 u24 u25 u26 A B hAB W1 qs1 q1 y1 s1 hM1 hH1 hs1 hg1
      have hlr := hM1.block (rec_heap _ _ _) (nX _ (by omega))
      have hbx1 := (hbx3.below (hbr3 _) hbx3.lt).only hM1.only (nX _ (Nat.le_refl _))
      obtain ⟨fn2, tm2, a2, b2, hy2, hR2⟩ := round57 fn (w3.heap.size + 1) W.heap.size _ Bc Bp (qs.take j ++ [q1]) qs1 y1 s1 W1 _ _ _ _ _ _ _ _ _ _ _ _ _ _ _ _ _ _ _ _ _ _ _ _ _ _ hAB hlr hbx1 (by omega) (hereT_of hH1) hg1
      exact ⟨fn2, tm2, a2, b2, hy2, hR2.mono (fun e W3 ⟨h1, qs3, h2, h3⟩ => ⟨h1, qs3, h2, of_hereT h3⟩)⟩
    have hdr := drain_ok q0.l hok (vol q0.l) (by have := HVB.out; have := H9.out; omega) (by have := HVB.out; omega)
    have hG : ∀ a' s' b', (drainL q0.l (vol q0.l)).1 = a' ++ s' :: b' → leakOk (a'.foldl toLeak ⟨(qs.drop (j + 1)).map Qu.pp, y.t, y.r⟩) s' := by
      intro a' s' b' e
      have hoo := hdr.oo
      have hvo := hdr.vo
      have hho := hdr.hr
      rw [e] at hoo hvo hho
      obtain ⟨o1, o2⟩ := okL_app.1 hoo
      obtain ⟨o3, o4⟩ := okL_cons.1 o2
      have n1 := vol_nn o1; have n2 := hea_nn o1; have n3 := vol_nn o4; have n4 := hea_nn o4; have n5 := hea_nn hdr.or
      have n6 := o3.1; have n7 := o3.2
      have nV := HVB.out
      simp only [vol_app, hea_app, vol, hea] at hvo hho
      rw [fold_leak]
      exact ⟨⟨by simp only [leakR]; omega, by simp only [leakR]; omega⟩, ⟨by simp only [leakR]; omega, by simp only [leakR]; omega⟩⟩
    refine (callsIn_wide.2 (callsIn_wide.1 (drain1_any (w3.heap.size + 1) Bl Bq Bc Bp (vol q0.l) _ (qs.take j) qs q0 _ toLeak leakOk (hH.below (hbr _)) ((hdl.alloc _).alloc _) (by rw [htl]; exact (hdq.alloc _).alloc _) (nX _ (by omega)) hok (by have := HVB.out; omega) (by omega) hh hG (hTk _ _ _ _ _ _ _ _ _ _ _ _ _ _ _ _ _ _ _ _ _ _ _ _ _ _ _ _ rfl)))).mono ?_
    rintro e W3 ⟨h1', qs3, q3, m1, m2, m3, m4⟩
    have hl3 := m1.block (rec_heap _ _ _) (nX _ (by omega))
    refine ⟨h1', hl3, fun rr => ?_⟩
    have hd3 : W3.heap[w3.heap.size]? = some (.deferred (some [])) := m1.block ((Below.heap_alloc _ _ _ (by simp)).trans (World.alloc_heap_new w3 _)) (nX _ hbs)
    have hd4 : (W3.putObj (w3.heap.size + 1) (.loop rr)).heap[w3.heap.size]? = some (.deferred (some [])) := (World.putObj_heap_other (by omega)).trans hd3
    have hfin : DonePost Bc Bp W qs (leakN y j (vol q0.l)) (.returned (.tuple #[])) ((W3.putObj (w3.heap.size + 1) (.loop rr)).putObj w3.heap.size (.deferred none)) := by
      rw [hq0] at m2 m3 m4
      have h3 := leak_end hps hj m2 m3 m4
      refine ⟨⟨_, rfl⟩, qs3, ?_, ?_⟩
      · exact (((Mv.below (hbr _)).trans m1 hC).put (by omega) _).put hbs _
      · have h5 := (h3.put hl3 (fun _ _ _ e => by cases e) (.loop rr)).put hd4 (fun _ _ _ e => by cases e) (.deferred none)
        rw [hq0]; exact h5
    refine ⟨by simp, .inl ⟨_, _, rfl, run_takeDeferred hd4, ?_⟩⟩
    exact ⟨_, results_none rfl _ _ _, hfin⟩

def leakY (y : Yx) (j : Nat) (a : Int) : Yx := leakN y j (min a (vol (y.ps.getD j ⟨0, []⟩).l))
theorem leak_any (Bc Bp j : Nat) (qs : List Qu) (y : Yx) (k a h : Int) (W : World) (hj : j < qs.length) (hC : Circ W Bc Bp y.t qs y.r) (hps : qs.map Qu.pp = y.ps) (h9 : qs.length ≤ 1000) (hok : okL qs[j].l) (hv : vol qs[j].l ≤ 1048576) (hh : hea qs[j].l ≤ 2199023255552) (h1 : 1 ≤ a)
    (b1 : 0 ≤ y.r.s.lv ∧ y.r.s.lv ≤ 1099511627776 - 1048576) (b2 : 0 ≤ y.r.s.lh ∧ y.r.s.lh ≤ 1099511627776000 - 2199023255552) :
    Calls Try.prog 57 #[.pointer (some ⟨Bc, 0, none⟩), evv k j a h] W (DonePost Bc Bp W qs (leakY y j a)) := by
  have hg : (y.ps.getD j ⟨0, []⟩).l = qs[j].l := by rw [← hps]; simp [List.getD, hj, Qu.pp]
  unfold leakY
  rw [hg]
  rcases Int.lt_trichotomy a (vol qs[j].l) with x | x | x
  · rw [Int.min_eq_left (by omega)]; exact leak_less Bc Bp j qs y k a h W hj hC hps h9 hok hv hh h1 b1 b2 x
  · rw [x, Int.min_self]; rw [x] at h1; exact leak_just Bc Bp j qs y k (vol qs[j].l) h W hj hC hps h9 hok hv hh h1 b1 b2 rfl
  · rw [Int.min_eq_right (by omega)]; exact leak_more Bc Bp j qs y k a h W hj hC hps h9 hok hv hh h1 b1 b2 x
end Go.Proofs.Ytjfopmjphiddiaa
