/- The fairest plan: a round of what is found next. -/
import Derived.Test.YtipejhfgfciabaaHrN
import Derived.Test.YtipejhfgfciabaaRnd
import Derived.Maps.AppendAt
import Derived.Deep.AppendLies
import Derived.OwnWalk
import Derived.WalkSmall
namespace Go.Proofs.Ytipejhfgfciabaa
open Go.RowKit Go.Shelf
attribute [local go_sem] Oper.semAt_some
def loopParts2 : Code → Option (Code × Code)
  | .rangeFunc _ _ a b => some (a, b)
  | .seq a b => match loopParts2 a with | some p => some p | none => loopParts2 b
  | .block _ c => loopParts2 c
  | .loop c => loopParts2 c
  | .scope c => loopParts2 c
  | _ => none
theorem step_append_some {P : Program} {w : World} {ops : Array Oper} {o : Oper} {a : Act} {K : Act → World → Prop} {Q : Exit → Act → World → Prop} {E : Prop} (hgd : o.guard = none) (s x : Operand) (t : TypeId)
    (ho : o.op = .call { callee := .builtin .append, args := #[s, x], argTypes := #[t, t] }) (dd : Option Tmp) (hdd : o.dst = dd)
    (base : Nat) (e : TypeId) (i : TypeInfo) (z : Value) (size bytes : Nat) (ht : P.underlying t = some (.slice e)) (hi : P.info? e = some i) (hz : i.zero = some z)
    (hsize : i.size = size) (hby : i.bytes = bytes) (hzs : z.cells.size = size) (hsz : 0 < size)
    (v : Value) (n : Nat) (xs : List Value) (hs : a.eval s = v) (hown : w.ownsRow base e size v n xs)
    (ad : Addr) (m c : Nat) (news : List Value) (hx : a.eval x = .slice (some ad) m c) (hl : news.length = m * size) (hnews : ∀ j u, news[j]? = some u → w.cell? (ad.add j) = some u) (h1 : ∀ u ∈ news, u.oneCell' = true)
    (h63 : n + m ≤ maxLen) (hbytes : (n + m) * bytes ≤ 140737488355328) (hbase : base ≤ w.heap.size)
    (h : ∀ v' w', w'.ownsRow base e size v' (n + m) (xs ++ news) → w.grownBy w' v.ownBlock → (v'.ownBlock = v.ownBlock ∨ v'.ownBlock = some w.heap.size) → K (a.put dd v') w') :
    if Region.wanted o (yielded ops a.tmps) = true then Oper.wp P o a w K Q else E := by
  rw [if_pos (by unfold Region.wanted; rw [hgd])]
  subst hdd
  obtain ⟨v', w', hr, h2, h3, _, h5⟩ := run_append_own_at (P := P) w base t o.type e i z size bytes ht hi hz hsize hby hzs hsz v n xs hown ad m c news hl hnews h1 h63 hbytes hbase
  unfold Oper.wp execOp
  simp only [ho, resolve, invoke, builtin, Sem.run_bind, Sem.run_pure, Result.andThen_ok, List.map_toArray, List.map_cons, List.map_nil, hs, hx, hr]
  exact h v' w' h2 h3 h5
theorem own_slice {w : World} {B e z : Nat} {v : Value} {n : Nat} {xs : List Value} (h : w.ownsRow B e z v n xs) : ∃ A k c, v = .slice A k c := by
  obtain ⟨_, ⟨rfl, _⟩ | ⟨g', cap, cur, rfl, _⟩⟩ := h
  · exact ⟨_, _, _, rfl⟩
  · exact ⟨_, _, _, rfl⟩
/-- what a round of fairest works with: the iterator's own boxes, and the loop's record -/
structure RS (W0 w : World) (x : Tt) (AH AG : Option Addr) (ch cg m BA : Nat) (pl : List Int) (pv : Value) (p : Pl) (A : Option Addr) (c : Nat) (aim : List Int) (dl : List Nat) (Bi Bj l : Nat) (rc : Loop) : Prop where
  fs : FS W0 w x AH AG ch cg m BA pl pv p A c aim dl
  ix : Has w Bi 25 (ttc x AH AG ch cg)
  ip : Has w Bj 75 (plc p)
  ll : w.heap[l]? = some (.loop rc)
  l7 : W0.heap.size + 7 < l
section
variable {W0 w w' : World} {x : Tt} {AH AG : Option Addr} {ch cg m BA : Nat} {pl : List Int} {pv : Value} {p : Pl} {A : Option Addr} {c : Nat} {aim : List Int} {dl : List Nat} {Bi Bj l : Nat} {rc rc' : Loop}
theorem RS.lit (h : RS W0 w x AH AG ch cg m BA pl pv p A c aim dl Bi Bj l rc) : LIt w Bi Bj x AH AG ch cg p := ⟨h.ix, h.ip, h.fs.mi.tr⟩
theorem RS.step (h : RS W0 w x AH AG ch cg m BA pl pv p A c aim dl Bi Bj l rc) (hb : Below w.heap.size w w') : RS W0 w' x AH AG ch cg m BA pl pv p A c aim dl Bi Bj l rc :=
  ⟨h.fs.step hb, h.ix.below hb h.ix.lt, h.ip.below hb h.ip.lt, (hb.block _ (Array.getElem?_eq_some_iff.1 h.ll).1).trans h.ll, h.l7⟩
theorem not_has_loop {t : TypeId} {cs : Array Value} {B : Nat} (h : w.heap[l]? = some (.loop rc)) (hB : Has w B t cs) : ¬ B = l := fun e => by
  unfold Has at hB
  rw [e, h] at hB
  cases hB
theorem FS.putL (h : FS W0 w x AH AG ch cg m BA pl pv p A c aim dl) (hl : w.heap[l]? = some (.loop rc)) (l7 : W0.heap.size + 7 < l) (o : Obj) : FS W0 (w.putObj l o) x AH AG ch cg m BA pl pv p A c aim dl := by
  have ho : Only (· = l) w (w.putObj l o) := ⟨rfl, rfl, rfl, by simp, fun k _ hn => World.putObj_heap_other (fun e => hn e)⟩
  have hD : ∀ o n, w.cell? ⟨l, o, none⟩ ≠ some (.int .i64 n) := fun o n e => by simp [World.cell?, hl] at e
  refine h.only ho l7 (fun e => not_has_loop hl h.fa e.symm) (fun hm => ?_) hD (fun cs hc => not_has_loop hl hc rfl)
  have := (h.ds l hm).2
  rw [hl] at this
  cases this
theorem RS.put (h : RS W0 w x AH AG ch cg m BA pl pv p A c aim dl Bi Bj l rc) (rc' : Loop) : RS W0 (w.putObj l (.loop rc')) x AH AG ch cg m BA pl pv p A c aim dl Bi Bj l rc' := by
  have ho : Only (· = l) w (w.putObj l (.loop rc')) := ⟨rfl, rfl, rfl, by simp, fun k _ hn => World.putObj_heap_other (fun e => hn e)⟩
  exact ⟨h.fs.putL h.ll h.l7 _, h.ix.only ho (not_has_loop h.ll h.ix), h.ip.only ho (not_has_loop h.ll h.ip), World.putObj_heap_same (Array.getElem?_eq_some_iff.1 h.ll).1, h.l7⟩
theorem only_putP {B : Nat} (q : Pl) : Only (· = B) w (putP w B q) :=
  ((((((((Only.refl (· = B) w).setCell (p := ⟨B, 0, none⟩) (.inl rfl) _).setCell (p := ⟨B, 1, none⟩) (.inl rfl) _).setCell (p := ⟨B, 2, none⟩) (.inl rfl) _).setCell (p := ⟨B, 3, none⟩) (.inl rfl) _).setCell (p := ⟨B, 4, none⟩) (.inl rfl) _).setCell (p := ⟨B, 5, none⟩) (.inl rfl) _).setCell (p := ⟨B, 6, none⟩) (.inl rfl) _)
theorem RS.wrote {m' : Nat} (h : RS W0 w x AH AG ch cg m BA pl pv p A c aim dl Bi Bj l rc) (ho : Only (· = W0.heap.size + 1) w w') (hm : MI (OwnS W0 pv) w' W0.heap.size (W0.heap.size + 1 + 1) (W0.heap.size + 1 + 1 + 1) (W0.heap.size + 1) x AH AG ch cg m') : RS W0 w' x AH AG ch cg m' BA pl pv p A c aim dl Bi Bj l rc :=
  ⟨h.fs.wrote ho hm, h.ix.only ho (fun e => h.fs.mi.mm.ne_has h.ix e), h.ip.only ho (fun e => h.fs.mi.mm.ne_has h.ip e), (ho.block _ (Array.getElem?_eq_some_iff.1 h.ll).1 (by have := h.l7; omega)).trans h.ll, h.l7⟩
theorem RS.grownL {q : Pl} {gb : Nat} (h : RS W0 w x AH AG ch cg m BA pl pv p A c aim dl Bi Bj l rc) (hgr : w.grownBy w' pv.ownBlock) (hq : Has w gb 75 (plc q)) : Hid (w'.heap[l]? = some (.loop rc) ∧ Has w' (W0.heap.size + 6) 26 #[pv] ∧ Has w' (W0.heap.size + 7) 75 (plc p) ∧ Has w' gb 75 (plc q)) := by
  have ho1 := only_of_grown hgr
  have hno : ∀ {D t cs}, Has w D t cs → t ≠ 3 → ¬ pv.ownBlock = some D := fun hD ht e => by
    obtain ⟨cur, hh, _⟩ := own_cells h.fs.po e
    exact ht (has_type hD hh)
  refine Lib.hid ⟨(ho1.block _ (Array.getElem?_eq_some_iff.1 h.ll).1 (fun e => ?_)).trans h.ll, h.fs.pc.only ho1 (hno h.fs.pc (by decide)), h.fs.pq.only ho1 (hno h.fs.pq (by decide)), hq.only ho1 (hno hq (by decide))⟩
  obtain ⟨cur, hh, _⟩ := own_cells h.fs.po e
  exact not_has_loop h.ll hh rfl
end
abbrev tF (B BA k : Nat) (x : Tt) (AH AG : Option Addr) (ch cg : Nat) (u : Nat → Value) : Array Value :=
  #[.agg (ttc x AH AG ch cg), .pointer (some ⟨B, 0, none⟩), .slice none 0 0, .pointer (some ⟨B + 1 + 1, 0, none⟩), .pointer (some ⟨B + 1 + 1 + 1, 0, none⟩), .pointer (some ⟨B + 6, 0, none⟩), .pointer (some ⟨B + 7, 0, none⟩), .pointer (some ⟨BA, 0, none⟩),
    u 8, u 9, u 10, u 11, u 12, u 13, u 14, u 15, u 16, u 17, u 18, .int .i64 x.H.length, .int .i64 k, u 21, u 22, u 23, u 24, u 25, u 26, u 27, u 28, u 29, u 30, u 31, u 32, u 33, u 34, u 35, u 36, u 37, u 38]
set_option maxRecDepth 100000 in
set_option maxHeartbeats 2000000 in
theorem fairRound (fn : FuncId) (W0 W : World) (BA l D Bi Bj m n k : Nat) (x : Tt) (AH AG : Option Addr) (ch cg : Nat) (pl : List Int) (pv : Value) (p q : Pl) (g : Int) (A : Option Addr) (c : Nat) (aim : List Int) (dl : List Nat) (u : Nat → Value) {assign body : Code}
    (hv : VT x) (hq : VP x q) (hn : q.hour + n = x.H.length) (hmax : m + cntB n ≤ 1000000000000) (hlen : aim.length ≤ 1000000) (hpl : pl.length ≤ 1000000)
    (hab : some (assign, body) = Try.f48.body.bind loopParts2)
    (hS : RS W0 W x AH AG ch cg m BA pl pv p A c aim dl Bi Bj l (loopRec fn (tF W0.heap.size BA k x AH AG ch cg u) #[25, 26] assign body D .ready none)) :
    YieldAt Fence.wide 2 Try.prog l #[.int .i64 g, plv q] W fun e W' =>
      (bestP x n q ≠ aim ∧ e = .returned (.bool true) ∧ RS W0 W' x AH AG ch cg (m + cntB n) BA pl pv p A c aim dl Bi Bj l (loopRec fn (tF W0.heap.size BA k x AH AG ch cg u) #[25, 26] assign body D .ready none)) ∨
      (bestP x n q = aim ∧ e = .returned (.bool false) ∧ ∃ v', FS W0 W' x AH AG ch cg (m + cntB n) BA (pl ++ [g]) v' q A c aim dl ∧ W'.heap[l]? = some (.loop (loopRec fn (tF W0.heap.size BA k x AH AG ch cg u) #[25, 26] assign body D .done (some (.exit 1))))) := by
  obtain ⟨rc, hrc⟩ : ∃ rc, rc = loopRec fn (tF W0.heap.size BA k x AH AG ch cg u) #[25, 26] assign body D := ⟨_, rfl⟩
  rw [← hrc] at hS ⊢
  have HIH := Lib.hid (fun W m h1 h2 => best_any (OwnS W0 pv) x AH AG ch cg W0.heap.size (W0.heap.size + 1 + 1) (W0.heap.size + 1 + 1 + 1) (W0.heap.size + 1) hv n q W m hq hn h1 h2)
  have HLE := Lib.hid (And.intro hlen (And.intro (show (bestP x n q).length ≤ 1000000 by rw [best_len]; have := hv.ng; omega) hpl))
  obtain ⟨lq, hlq⟩ : ∃ l, l = bestP x n q := ⟨_, rfl⟩
  rw [← hlq] at HIH HLE ⊢
  have HMX := Lib.hid hmax
  obtain ⟨i1, hi1, hy0, hy1, hy2⟩ := info_parts Try.info3
  clear hlq hmax hlen hpl hv hq hn
  have hy := run_yield (P := Try.prog) (args := #[.int .i64 g, plv q]) hS.ll (by rw [hrc]; rfl)
  refine ⟨fn, _, assign, body, by rw [hy, hrc], roundIn_of_wpIn trivial ?_⟩
  clear hy
  simp only [Try.f48, Option.bind_some, loopParts2, Option.some.injEq, Prod.mk.injEq] at hab
  obtain ⟨ha, hb⟩ := hab
  have HR := Lib.hid hrc
  rw [ha]
  have hzip : ∀ (t : Array Value) (u v : Value), (#[25, 26].zip #[u, v]).foldl (fun tmps (p : Tmp × Value) => match p with | (t, a) => tmps.setIfInBounds t a) t = (t.setIfInBounds 25 u).setIfInBounds 26 v := fun t u v => by simp [Array.zip]
  rw [hzip]
  clear hzip
  change Code.wpIn _ _ _ _ _ { tmps := ((tF W0.heap.size BA k x AH AG ch cg u).setIfInBounds 25 (.int .i64 g)).setIfInBounds 26 (plv q), defers := [] } W
  have H0 := Lib.hid hS
  clear hrc hS ha
  unfold plv at *
  gi_wp2
  have H1 : Hid (RS W0 (W.alloc (.cells (plc q) 75)) x AH AG ch cg m BA pl pv p A c aim dl Bi Bj l (rc .ready none) ∧ Has (W.alloc (.cells (plc q) 75)) W.heap.size 75 (plc q)) :=
    ⟨H0.out.step (below_one W (.cells (plc q) 75)), Has.new W 75 (plc q)⟩
  refine (show ∃ w₂, (Instr.beginRound l).run Try.prog (W.alloc (.cells (plc q) 75)) = .ok () w₂ ∧ _ from ?_)
  generalize W.alloc (.cells (plc q) 75) = W1 at H1 ⊢
  generalize W.heap.size = gb at H1 ⊢
  clear H0
  have hbeg := run_beginRound (P := Try.prog) H1.out.1.ll (by rw [HR.out])
  obtain ⟨W2, hW2⟩ : ∃ W2, W1.putObj l (.loop { rc .ready none with state := .busy }) = W2 := ⟨_, rfl⟩
  have H2 : Hid (RS W0 W2.drew x AH AG ch cg m BA pl pv p A c aim dl Bi Bj l (rc .busy none) ∧ Has W2.drew gb 75 (plc q)) := by
    have h2 := H1.out.1.put (rc .busy none)
    have e2 : W1.putObj l (.loop (rc .busy none)) = W2 := by rw [← hW2, HR.out]
    rw [e2] at h2
    refine ⟨h2.step (Below.refl _ _).drew, Has.drew ?_⟩
    rw [← e2]; exact (World.putObj_heap_other (not_has_loop H1.out.1.ll H1.out.2)).trans H1.out.2
  rw [hW2] at hbeg
  refine ⟨W2, hbeg, ?_⟩
  clear hbeg hW2 H1
  rw [hb]
  clear hb
  gi_upto_region 11 with fail
  have K2 : Hid (W2.drew.cell? ⟨W0.heap.size + 1 + 1 + 1, 0, none⟩ = some (.func (.func 82) #[] #[.pointer (some ⟨W0.heap.size, 0, none⟩), .pointer (some ⟨W0.heap.size + 1 + 1, 0, none⟩), .pointer (some ⟨W0.heap.size + 1 + 1 + 1, 0, none⟩)]) ∧ W2.drew.cell? ⟨gb, 0, none⟩ = some (.int .i64 q.hour) ∧ W2.drew.cell? ⟨gb, 1, none⟩ = some (.int .i64 q.last) ∧ W2.drew.cell? ⟨gb, 2, none⟩ = some (.int .i64 (q.given[0]?.getD 0)) ∧ W2.drew.cell? ⟨gb, 3, none⟩ = some (.int .i64 (q.given[1]?.getD 0)) ∧ W2.drew.cell? ⟨gb, 4, none⟩ = some (.int .i64 (q.given[2]?.getD 0)) ∧ W2.drew.cell? ⟨gb, 5, none⟩ = some (.int .i64 (q.given[3]?.getD 0)) ∧ W2.drew.cell? ⟨gb, 6, none⟩ = some (.int .i64 (q.given[4]?.getD 0)) ∧ W2.drew.cell? ⟨BA, 0, none⟩ = some (.slice A aim.length c)) := ⟨H2.out.1.fs.mi.fb.cell 0, H2.out.2.cell 0, H2.out.2.cell 1, H2.out.2.cell 2, H2.out.2.cell 3, H2.out.2.cell 4, H2.out.2.cell 5, H2.out.2.cell 6, H2.out.1.fs.fa.cell 0⟩
  refine wpIn_region_of_any (by kernel_rfl) (by kernel_rfl) (by rintro ⟨_, _, h⟩; exact h) ?_
  refine wpAny_of_late (S := fun w' : World => w'.cell? ⟨W0.heap.size + 1 + 1 + 1, 0, none⟩ = some (.func (.func 82) #[] #[.pointer (some ⟨W0.heap.size, 0, none⟩), .pointer (some ⟨W0.heap.size + 1 + 1, 0, none⟩), .pointer (some ⟨W0.heap.size + 1 + 1 + 1, 0, none⟩)]) ∧ w'.cell? ⟨gb, 0, none⟩ = some (.int .i64 q.hour) ∧ w'.cell? ⟨gb, 1, none⟩ = some (.int .i64 q.last) ∧ w'.cell? ⟨gb, 2, none⟩ = some (.int .i64 (q.given[0]?.getD 0)) ∧ w'.cell? ⟨gb, 3, none⟩ = some (.int .i64 (q.given[1]?.getD 0)) ∧ w'.cell? ⟨gb, 4, none⟩ = some (.int .i64 (q.given[2]?.getD 0)) ∧ w'.cell? ⟨gb, 5, none⟩ = some (.int .i64 (q.given[3]?.getD 0)) ∧ w'.cell? ⟨gb, 6, none⟩ = some (.int .i64 (q.given[4]?.getD 0)) ∧ w'.cell? ⟨BA, 0, none⟩ = some (.slice A aim.length c)) (late := []) _ _ _ _ ?_
  refine wpLate_take (i := 0) (oi := ?oi0r11_) (v := ?v0r11_) [2, 4] ?hi0r11_ (by kernel_rfl) (by kernel_rfl) (by kernel_rfl) (by kernel_rfl) (by kernel_rfl) ?hQ0r11_ (Or.inl ⟨?hw0r11_, ?hy0r11_⟩) K2.out ?rest0r11_
  case hi0r11_ => (simp only [List.getElem?_toArray, List.getElem?_cons_zero]; rfl)
  case hQ0r11_ => exact fun _ _ _ h => h
  case hw0r11_ => rfl
  case hy0r11_ =>
    intro w' hSw
    obtain ⟨r0, r1, r2, r3, r4, r5, r6, r7, r8⟩ := hSw
    go_simp
    try exact rfl
  try simp only [Act.put, List.setIfInBounds_toArray, List.set_cons_zero, List.set_cons_succ]
  refine wpLate_take (i := 1) (oi := ?oi1r11_) (v := ?v1r11_) [2, 4] ?hi1r11_ (by kernel_rfl) (by kernel_rfl) (by kernel_rfl) (by kernel_rfl) (by kernel_rfl) ?hQ1r11_ (Or.inl ⟨?hw1r11_, ?hy1r11_⟩) K2.out ?rest1r11_
  case hi1r11_ => (simp only [List.getElem?_toArray, List.getElem?_cons_zero, List.getElem?_cons_succ]; rfl)
  case hQ1r11_ => exact fun _ _ _ h => h
  case hw1r11_ => rfl
  case hy1r11_ =>
    intro w' hSw
    obtain ⟨r0, r1, r2, r3, r4, r5, r6, r7, r8⟩ := hSw
    go_simp
    try exact rfl
  try simp only [Act.put, List.setIfInBounds_toArray, List.set_cons_zero, List.set_cons_succ]
  refine wpLate_take (i := 3) (oi := ?oi3r11_) (v := ?v3r11_) [4] ?hi3r11_ (by kernel_rfl) (by kernel_rfl) (by kernel_rfl) (by kernel_rfl) (by kernel_rfl) ?hQ3r11_ (Or.inl ⟨?hw3r11_, ?hy3r11_⟩) K2.out ?rest3r11_
  case hi3r11_ => (simp only [List.getElem?_toArray, List.getElem?_cons_zero, List.getElem?_cons_succ]; rfl)
  case hQ3r11_ => exact fun _ _ _ h => h
  case hw3r11_ => rfl
  case hy3r11_ =>
    intro w' hSw
    obtain ⟨r0, r1, r2, r3, r4, r5, r6, r7, r8⟩ := hSw
    go_simp
    try exact rfl
  try simp only [Act.put, List.setIfInBounds_toArray, List.set_cons_zero, List.set_cons_succ]
  refine wpLate_one (i := 2) (o := ?o2r11_) (by kernel_rfl) ?ho2r11_ ?hk2r11_
  case ho2r11_ => (simp only [List.getElem?_toArray, List.getElem?_cons_zero, List.getElem?_cons_succ]; rfl)
  intro K hK
  go_simp
  refine (HIH.out _ _ H2.out.1.fs.mi HMX.out).mono ?_
  rintro e W3 ⟨A', c', rfl, hrow, ho, hmi⟩
  have H3 : Hid (RS W0 W3 x AH AG ch cg (m + cntB n) BA pl pv p A c aim dl Bi Bj l (rc .busy none) ∧ Has W3 gb 75 (plc q)) := ⟨H2.out.1.wrote ho hmi, H2.out.2.only ho (fun e => H2.out.1.fs.mi.mm.ne_has H2.out.2 e)⟩
  have HR3 := Lib.hid hrow
  clear hrow ho hmi H2
  have K3 : Hid (W3.cell? ⟨W0.heap.size + 1 + 1 + 1, 0, none⟩ = some (.func (.func 82) #[] #[.pointer (some ⟨W0.heap.size, 0, none⟩), .pointer (some ⟨W0.heap.size + 1 + 1, 0, none⟩), .pointer (some ⟨W0.heap.size + 1 + 1 + 1, 0, none⟩)]) ∧ W3.cell? ⟨gb, 0, none⟩ = some (.int .i64 q.hour) ∧ W3.cell? ⟨gb, 1, none⟩ = some (.int .i64 q.last) ∧ W3.cell? ⟨gb, 2, none⟩ = some (.int .i64 (q.given[0]?.getD 0)) ∧ W3.cell? ⟨gb, 3, none⟩ = some (.int .i64 (q.given[1]?.getD 0)) ∧ W3.cell? ⟨gb, 4, none⟩ = some (.int .i64 (q.given[2]?.getD 0)) ∧ W3.cell? ⟨gb, 5, none⟩ = some (.int .i64 (q.given[3]?.getD 0)) ∧ W3.cell? ⟨gb, 6, none⟩ = some (.int .i64 (q.given[4]?.getD 0)) ∧ W3.cell? ⟨BA, 0, none⟩ = some (.slice A aim.length c)) := ⟨H3.out.1.fs.mi.fb.cell 0, H3.out.2.cell 0, H3.out.2.cell 1, H3.out.2.cell 2, H3.out.2.cell 3, H3.out.2.cell 4, H3.out.2.cell 5, H3.out.2.cell 6, H3.out.1.fs.fa.cell 0⟩
  go_simp
  refine hK.out _ _ (fun h => K3.out) ?_
  clear hK K
  try simp only [Act.put, List.setIfInBounds_toArray, List.set_cons_zero, List.set_cons_succ]
  refine wpLate_one (i := 4) (o := ?o4r11_) (by kernel_rfl) ?ho4r11_ ?hk4r11_
  case ho4r11_ => (simp only [List.getElem?_toArray, List.getElem?_cons_zero, List.getElem?_cons_succ]; rfl)
  intro K hK
  go_simp
  have hcm := Lib.hid (equal_any lq aim A' A c' c _ _ W3 HR3.out.row H3.out.1.fs.ra.row HLE.out.2.1 HLE.out.1)
  refine (hcm.out).mono ?_
  rintro e W4 ⟨rfl, nd, rfl⟩
  have H4 : Hid (RS W0 (W3.drewN nd) x AH AG ch cg (m + cntB n) BA pl pv p A c aim dl Bi Bj l (rc .busy none) ∧ Has (W3.drewN nd) gb 75 (plc q)) := ⟨H3.out.1.step (below_drewN (Below.refl _ _) nd), H3.out.2.below (below_drewN (Below.refl _ _) nd) H3.out.2.lt⟩
  have K4 : Hid ((W3.drewN nd).cell? ⟨W0.heap.size + 1 + 1 + 1, 0, none⟩ = some (.func (.func 82) #[] #[.pointer (some ⟨W0.heap.size, 0, none⟩), .pointer (some ⟨W0.heap.size + 1 + 1, 0, none⟩), .pointer (some ⟨W0.heap.size + 1 + 1 + 1, 0, none⟩)]) ∧ (W3.drewN nd).cell? ⟨gb, 0, none⟩ = some (.int .i64 q.hour) ∧ (W3.drewN nd).cell? ⟨gb, 1, none⟩ = some (.int .i64 q.last) ∧ (W3.drewN nd).cell? ⟨gb, 2, none⟩ = some (.int .i64 (q.given[0]?.getD 0)) ∧ (W3.drewN nd).cell? ⟨gb, 3, none⟩ = some (.int .i64 (q.given[1]?.getD 0)) ∧ (W3.drewN nd).cell? ⟨gb, 4, none⟩ = some (.int .i64 (q.given[2]?.getD 0)) ∧ (W3.drewN nd).cell? ⟨gb, 5, none⟩ = some (.int .i64 (q.given[3]?.getD 0)) ∧ (W3.drewN nd).cell? ⟨gb, 6, none⟩ = some (.int .i64 (q.given[4]?.getD 0)) ∧ (W3.drewN nd).cell? ⟨BA, 0, none⟩ = some (.slice A aim.length c)) := ⟨H4.out.1.fs.mi.fb.cell 0, H4.out.2.cell 0, H4.out.2.cell 1, H4.out.2.cell 2, H4.out.2.cell 3, H4.out.2.cell 4, H4.out.2.cell 5, H4.out.2.cell 6, H4.out.1.fs.fa.cell 0⟩
  generalize W3.drewN nd = W4 at H4 K4 ⊢
  clear H3 K3 HR3 hcm
  go_simp
  refine hK.out _ _ (fun h => K4.out) ?_
  clear hK K
  try simp only [Act.put, List.setIfInBounds_toArray, List.set_cons_zero, List.set_cons_succ]
  refine wpLate_done (by kernel_rfl) ?_ _
  try simp only [Act.put, List.setIfInBounds_toArray, List.set_cons_zero, List.set_cons_succ]
  have fin : ∀ (W5 : World), RS W0 W5 x AH AG ch cg (m + cntB n) BA pl pv p A c aim dl Bi Bj l (rc .busy none) → ¬ lq = aim → ∀ a,
      roundPost Try.prog l (fun e W' => (lq ≠ aim ∧ e = .returned (.bool true) ∧ RS W0 W' x AH AG ch cg (m + cntB n) BA pl pv p A c aim dl Bi Bj l (rc .ready none)) ∨ (lq = aim ∧ e = .returned (.bool false) ∧ ∃ v', FS W0 W' x AH AG ch cg (m + cntB n) BA (pl ++ [g]) v' q A c aim dl ∧ W'.heap[l]? = some (.loop (rc .done (some (.exit 1)))))) Exit.normal a W5 := by
    intro W5 h1 h2 a
    have hend := run_endRound (P := Try.prog) none h1.ll
    refine ⟨_, _, hend, .inl ⟨h2, rfl, ?_⟩⟩
    have h3 := h1.put (rc .ready none)
    rw [HR.out] at h3 ⊢
    exact h3
  by_cases hc : lq = aim
  · have hcd : decide (lq = aim) = true := by simpa using hc
    rw [hcd]
    gi_upto_region 12 with fail
    have H5 : Hid (RS W0 W4.drew x AH AG ch cg (m + cntB n) BA pl pv p A c aim dl Bi Bj l (rc .busy none) ∧ Has W4.drew gb 75 (plc q)) := ⟨H4.out.1.step (Below.refl _ _).drew, H4.out.2.drew⟩
    have K5 : Hid (W4.drew.cell? ⟨gb, 0, none⟩ = some (.int .i64 q.hour) ∧ W4.drew.cell? ⟨gb, 1, none⟩ = some (.int .i64 q.last) ∧ W4.drew.cell? ⟨gb, 2, none⟩ = some (.int .i64 (q.given[0]?.getD 0)) ∧ W4.drew.cell? ⟨gb, 3, none⟩ = some (.int .i64 (q.given[1]?.getD 0)) ∧ W4.drew.cell? ⟨gb, 4, none⟩ = some (.int .i64 (q.given[2]?.getD 0)) ∧ W4.drew.cell? ⟨gb, 5, none⟩ = some (.int .i64 (q.given[3]?.getD 0)) ∧ W4.drew.cell? ⟨gb, 6, none⟩ = some (.int .i64 (q.given[4]?.getD 0))) := ⟨H5.out.2.cell 0, H5.out.2.cell 1, H5.out.2.cell 2, H5.out.2.cell 3, H5.out.2.cell 4, H5.out.2.cell 5, H5.out.2.cell 6⟩
    clear H4 K4
    refine wpIn_region_of_any (by kernel_rfl) (by kernel_rfl) (by rintro ⟨_, _, h⟩; exact h) ?_
    refine wpAny_of_late (S := fun w' : World => w'.cell? ⟨gb, 0, none⟩ = some (.int .i64 q.hour) ∧ w'.cell? ⟨gb, 1, none⟩ = some (.int .i64 q.last) ∧ w'.cell? ⟨gb, 2, none⟩ = some (.int .i64 (q.given[0]?.getD 0)) ∧ w'.cell? ⟨gb, 3, none⟩ = some (.int .i64 (q.given[1]?.getD 0)) ∧ w'.cell? ⟨gb, 4, none⟩ = some (.int .i64 (q.given[2]?.getD 0)) ∧ w'.cell? ⟨gb, 5, none⟩ = some (.int .i64 (q.given[3]?.getD 0)) ∧ w'.cell? ⟨gb, 6, none⟩ = some (.int .i64 (q.given[4]?.getD 0))) (late := [6]) _ _ _ _ ?_
    generalize W4.drew = W5 at H5 K5 ⊢
    refine wpLate_take (i := 4) (oi := ?oi4r12_) (v := ?v4r12_) [6] ?hi4r12_ (by kernel_rfl) (by kernel_rfl) (by kernel_rfl) (by kernel_rfl) (by kernel_rfl) ?hQ4r12_ (Or.inl ⟨?hw4r12_, ?hy4r12_⟩) K5.out ?rest4r12_
    case hi4r12_ => (simp only [List.getElem?_toArray, List.getElem?_cons_zero, List.getElem?_cons_succ]; rfl)
    case hQ4r12_ => exact fun _ _ _ h => h
    case hw4r12_ => rfl
    case hy4r12_ =>
      intro w' hSw
      obtain ⟨r0, r1, r2, r3, r4, r5, r6⟩ := hSw
      go_simp
      try exact rfl
    try simp only [Act.put, List.setIfInBounds_toArray, List.set_cons_zero, List.set_cons_succ]
    refine wpLate_take (i := 1) (oi := ?oi1r12_) (v := ?v1r12_) [2, 3, 5, 6] ?hi1r12_ (by kernel_rfl) (by kernel_rfl) (by kernel_rfl) (by kernel_rfl) (by kernel_rfl) ?hQ1r12_ (Or.inl ⟨?hw1r12_, ?hy1r12_⟩) K5.out ?rest1r12_
    case hi1r12_ => (simp only [List.getElem?_toArray, List.getElem?_cons_zero, List.getElem?_cons_succ]; rfl)
    case hQ1r12_ => exact fun _ _ _ h => h
    case hw1r12_ => rfl
    case hy1r12_ =>
      intro w' hSw
      obtain ⟨r0, r1, r2, r3, r4, r5, r6⟩ := hSw
      go_simp
      try exact rfl
    try simp only [Act.put, List.setIfInBounds_toArray, List.set_cons_zero, List.set_cons_succ]
    refine wpLate_two (i := 0) (j := 2) (o := ?o0r) (u := ?u2r) (by kernel_rfl) ?ho0r ?hu2r ?hA ?hB
    case ho0r => (simp only [List.getElem?_toArray, List.getElem?_cons_zero]; rfl)
    case hu2r => (simp only [List.getElem?_toArray, List.getElem?_cons_zero, List.getElem?_cons_succ]; rfl)
    case hA =>
      intro K hK
      have b0 : W5.cell? ⟨W0.heap.size + 6, 0, none⟩ = some pv := H5.out.1.fs.pc.cell 0
      go_simp
      refine hK.out _ _ (fun h => K5.out) ?_
      clear hK K b0
      try simp only [Act.put, List.setIfInBounds_toArray, List.set_cons_zero, List.set_cons_succ]
      refine wpLate_one (i := 2) (o := ?o2A) (by kernel_rfl) ?ho2A ?hk2A
      case ho2A => (simp only [List.getElem?_toArray, List.getElem?_cons_zero, List.getElem?_cons_succ]; rfl)
      intro K hK
      go_simp
      have H6 : Hid (RS W0 (W5.alloc (.cells #[.int .i64 g] 3)) x AH AG ch cg (m + cntB n) BA pl pv p A c aim dl Bi Bj l (rc .busy none) ∧ Has (W5.alloc (.cells #[.int .i64 g] 3)) gb 75 (plc q) ∧ Has (W5.alloc (.cells #[.int .i64 g] 3)) W5.heap.size 3 #[.int .i64 g]) := ⟨H5.out.1.step (below_one _ _), H5.out.2.below (below_one _ _) H5.out.2.lt, Has.new _ _ _⟩
      have K6 : Hid ((W5.alloc (.cells #[.int .i64 g] 3)).cell? ⟨gb, 0, none⟩ = some (.int .i64 q.hour) ∧ (W5.alloc (.cells #[.int .i64 g] 3)).cell? ⟨gb, 1, none⟩ = some (.int .i64 q.last) ∧ (W5.alloc (.cells #[.int .i64 g] 3)).cell? ⟨gb, 2, none⟩ = some (.int .i64 (q.given[0]?.getD 0)) ∧ (W5.alloc (.cells #[.int .i64 g] 3)).cell? ⟨gb, 3, none⟩ = some (.int .i64 (q.given[1]?.getD 0)) ∧ (W5.alloc (.cells #[.int .i64 g] 3)).cell? ⟨gb, 4, none⟩ = some (.int .i64 (q.given[2]?.getD 0)) ∧ (W5.alloc (.cells #[.int .i64 g] 3)).cell? ⟨gb, 5, none⟩ = some (.int .i64 (q.given[3]?.getD 0)) ∧ (W5.alloc (.cells #[.int .i64 g] 3)).cell? ⟨gb, 6, none⟩ = some (.int .i64 (q.given[4]?.getD 0))) := ⟨H6.out.2.1.cell 0, H6.out.2.1.cell 1, H6.out.2.1.cell 2, H6.out.2.1.cell 3, H6.out.2.1.cell 4, H6.out.2.1.cell 5, H6.out.2.1.cell 6⟩
      generalize W5.heap.size = gn at H6 ⊢
      generalize W5.alloc (.cells #[.int .i64 g] 3) = W6 at H6 K6 ⊢
      refine hK.out _ _ (fun h => K6.out) ?_
      clear hK K
      try simp only [Act.put, List.setIfInBounds_toArray, List.set_cons_zero, List.set_cons_succ]
      refine wpLate_one (i := 3) (o := ?o3A) (by kernel_rfl) ?ho3A ?hk3A
      case ho3A => (simp only [List.getElem?_toArray, List.getElem?_cons_zero, List.getElem?_cons_succ]; rfl)
      intro K hK
      refine step_append_some (by rfl) (.tmp 32) (.tmp 34) 26 (by rfl) (some 35) (by rfl) W0.heap.size 3 i1 (.int .i64 0) 1 8 Try.underlying26 hi1 hy0 hy1 hy2 rfl (by decide) pv pl.length (pl.map (Value.int .i64)) (by rfl) H6.out.1.fs.po ⟨gn, 0, none⟩ 1 1 [.int .i64 g] (by rfl) rfl (World.news_of_block (cs := #[.int .i64 g]) H6.out.2.2) (by simp [Value.oneCell']) (by have := HLE.out.2.2; unfold maxLen; omega) (by have := HLE.out.2.2; omega) (Nat.le_trans H6.out.1.fs.b.size (Nat.le_refl _)) ?_
      intro v' W7 hown hgr hloc
      obtain ⟨Av, nv, cv, rfl⟩ := own_slice hown
      have HAP := Lib.hid (H6.out.1.fs.appended hown hgr hloc q)
      clear hown hloc
      have HL7 : Hid (W7.heap[l]? = some (.loop (rc .busy none)) ∧ Has W7 (W0.heap.size + 6) 26 #[pv] ∧ Has W7 (W0.heap.size + 7) 75 (plc p) ∧ Has W7 gb 75 (plc q)) := H6.out.1.grownL hgr H6.out.2.1
      have K7 : Hid (W7.cell? ⟨gb, 0, none⟩ = some (.int .i64 q.hour) ∧ W7.cell? ⟨gb, 1, none⟩ = some (.int .i64 q.last) ∧ W7.cell? ⟨gb, 2, none⟩ = some (.int .i64 (q.given[0]?.getD 0)) ∧ W7.cell? ⟨gb, 3, none⟩ = some (.int .i64 (q.given[1]?.getD 0)) ∧ W7.cell? ⟨gb, 4, none⟩ = some (.int .i64 (q.given[2]?.getD 0)) ∧ W7.cell? ⟨gb, 5, none⟩ = some (.int .i64 (q.given[3]?.getD 0)) ∧ W7.cell? ⟨gb, 6, none⟩ = some (.int .i64 (q.given[4]?.getD 0))) := ⟨HL7.out.2.2.2.cell 0, HL7.out.2.2.2.cell 1, HL7.out.2.2.2.cell 2, HL7.out.2.2.2.cell 3, HL7.out.2.2.2.cell 4, HL7.out.2.2.2.cell 5, HL7.out.2.2.2.cell 6⟩
      have o0 : W7.cell? ⟨W0.heap.size + 6, 0, none⟩ = some pv := HL7.out.2.1.cell 0
      have f0 := HL7.out.2.1.frozen 0
      have l0 := HL7.out.2.1.lt
      refine hK.out _ _ (fun h => K7.out) ?_
      clear hK K
      try simp only [Act.put, List.setIfInBounds_toArray, List.set_cons_zero, List.set_cons_succ]
      refine wpLate_one (i := 5) (o := ?o5A) (by kernel_rfl) ?ho5A ?hk5A
      case ho5A => (simp only [List.getElem?_toArray, List.getElem?_cons_zero, List.getElem?_cons_succ]; rfl)
      intro K hK
      go_simp
      have H8 : Hid (Has (W7.setCell ⟨W0.heap.size + 6, 0, none⟩ (.slice Av nv cv)) (W0.heap.size + 7) 75 (plc p) ∧ (W7.setCell ⟨W0.heap.size + 6, 0, none⟩ (.slice Av nv cv)).heap[l]? = some (.loop (rc .busy none)) ∧ Has (W7.setCell ⟨W0.heap.size + 6, 0, none⟩ (.slice Av nv cv)) gb 75 (plc q)) := ⟨HL7.out.2.2.1.only ((Only.refl (· = W0.heap.size + 6) W7).setCell (p := ⟨W0.heap.size + 6, 0, none⟩) (.inl rfl) _) (by show ¬ W0.heap.size + 7 = W0.heap.size + 6; omega), (((Only.refl (· = W0.heap.size + 6) W7).setCell (p := ⟨W0.heap.size + 6, 0, none⟩) (.inl rfl) _).block _ (Array.getElem?_eq_some_iff.1 HL7.out.1).1 (by have := H6.out.1.l7; show ¬ l = W0.heap.size + 6; omega)).trans HL7.out.1, HL7.out.2.2.2.only ((Only.refl (· = W0.heap.size + 6) W7).setCell (p := ⟨W0.heap.size + 6, 0, none⟩) (.inl rfl) _) (fun e => absurd (has_type (e ▸ HL7.out.2.2.2) HL7.out.2.1) (by decide))⟩
      have K8 : Hid ((W7.setCell ⟨W0.heap.size + 6, 0, none⟩ (.slice Av nv cv)).cell? ⟨gb, 0, none⟩ = some (.int .i64 q.hour) ∧ (W7.setCell ⟨W0.heap.size + 6, 0, none⟩ (.slice Av nv cv)).cell? ⟨gb, 1, none⟩ = some (.int .i64 q.last) ∧ (W7.setCell ⟨W0.heap.size + 6, 0, none⟩ (.slice Av nv cv)).cell? ⟨gb, 2, none⟩ = some (.int .i64 (q.given[0]?.getD 0)) ∧ (W7.setCell ⟨W0.heap.size + 6, 0, none⟩ (.slice Av nv cv)).cell? ⟨gb, 3, none⟩ = some (.int .i64 (q.given[1]?.getD 0)) ∧ (W7.setCell ⟨W0.heap.size + 6, 0, none⟩ (.slice Av nv cv)).cell? ⟨gb, 4, none⟩ = some (.int .i64 (q.given[2]?.getD 0)) ∧ (W7.setCell ⟨W0.heap.size + 6, 0, none⟩ (.slice Av nv cv)).cell? ⟨gb, 5, none⟩ = some (.int .i64 (q.given[3]?.getD 0)) ∧ (W7.setCell ⟨W0.heap.size + 6, 0, none⟩ (.slice Av nv cv)).cell? ⟨gb, 6, none⟩ = some (.int .i64 (q.given[4]?.getD 0))) := ⟨H8.out.2.2.cell 0, H8.out.2.2.cell 1, H8.out.2.2.cell 2, H8.out.2.2.cell 3, H8.out.2.2.cell 4, H8.out.2.2.cell 5, H8.out.2.2.cell 6⟩
      generalize W7.setCell ⟨W0.heap.size + 6, 0, none⟩ (.slice Av nv cv) = W8 at H8 K8 HAP ⊢
      clear o0 f0 l0
      refine hK.out _ _ (fun h => K8.out) ?_
      clear hK K
      try simp only [Act.put, List.setIfInBounds_toArray, List.set_cons_zero, List.set_cons_succ]
      refine wpLate_one (i := 6) (o := ?o6A) (by kernel_rfl) ?ho6A ?hk6A
      case ho6A => (simp only [List.getElem?_toArray, List.getElem?_cons_zero, List.getElem?_cons_succ]; rfl)
      intro K hK
      have y0 := H8.out.1.cell 0
      have y1 := H8.out.1.cell 1
      have y2 := H8.out.1.cell 2
      have y3 := H8.out.1.cell 3
      have y4 := H8.out.1.cell 4
      have y5 := H8.out.1.cell 5
      have y6 := H8.out.1.cell 6
      have z0 := H8.out.1.frozen 0
      have z1 := H8.out.1.frozen 1
      have z2 := H8.out.1.frozen 2
      have z3 := H8.out.1.frozen 3
      have z4 := H8.out.1.frozen 4
      have z5 := H8.out.1.frozen 5
      have z6 := H8.out.1.frozen 6
      have zl := H8.out.1.lt
      simp only [plc, List.getElem?_toArray, List.getElem?_cons_zero, List.getElem?_cons_succ] at y0 y1 y2 y3 y4 y5 y6
      go_simp
      refine hK.out _ _ (fun h => absurd h (by decide)) ?_
      clear hK K
      try simp only [Act.put, List.setIfInBounds_toArray, List.set_cons_zero, List.set_cons_succ]
      refine wpLate_done (by kernel_rfl) ?_ _
      try simp only [Act.put, List.setIfInBounds_toArray, List.set_cons_zero, List.set_cons_succ]
      gi_wp2
      have HL9 : (putP W8 (W0.heap.size + 7) q).heap[l]? = some (.loop (rc .busy none)) := ((only_putP q).block _ (Array.getElem?_eq_some_iff.1 H8.out.2.1).1 (by have := H6.out.1.l7; show ¬ l = W0.heap.size + 7; omega)).trans H8.out.2.1
      have hend := run_endRound (P := Try.prog) (some (.exit 1)) HL9
      refine ⟨_, _, hend, .inr ⟨hc, rfl, _, HAP.out.putL HL9 H6.out.1.l7 _, ?_⟩⟩
      rw [World.putObj_heap_same (Array.getElem?_eq_some_iff.1 HL9).1, HR.out]
      rfl
    case hB =>
      intro K hK
      go_simp
      have H6 : Hid (RS W0 (W5.alloc (.cells #[.int .i64 g] 3)) x AH AG ch cg (m + cntB n) BA pl pv p A c aim dl Bi Bj l (rc .busy none) ∧ Has (W5.alloc (.cells #[.int .i64 g] 3)) gb 75 (plc q) ∧ Has (W5.alloc (.cells #[.int .i64 g] 3)) W5.heap.size 3 #[.int .i64 g]) := ⟨H5.out.1.step (below_one _ _), H5.out.2.below (below_one _ _) H5.out.2.lt, Has.new _ _ _⟩
      have K6 : Hid ((W5.alloc (.cells #[.int .i64 g] 3)).cell? ⟨gb, 0, none⟩ = some (.int .i64 q.hour) ∧ (W5.alloc (.cells #[.int .i64 g] 3)).cell? ⟨gb, 1, none⟩ = some (.int .i64 q.last) ∧ (W5.alloc (.cells #[.int .i64 g] 3)).cell? ⟨gb, 2, none⟩ = some (.int .i64 (q.given[0]?.getD 0)) ∧ (W5.alloc (.cells #[.int .i64 g] 3)).cell? ⟨gb, 3, none⟩ = some (.int .i64 (q.given[1]?.getD 0)) ∧ (W5.alloc (.cells #[.int .i64 g] 3)).cell? ⟨gb, 4, none⟩ = some (.int .i64 (q.given[2]?.getD 0)) ∧ (W5.alloc (.cells #[.int .i64 g] 3)).cell? ⟨gb, 5, none⟩ = some (.int .i64 (q.given[3]?.getD 0)) ∧ (W5.alloc (.cells #[.int .i64 g] 3)).cell? ⟨gb, 6, none⟩ = some (.int .i64 (q.given[4]?.getD 0))) := ⟨H6.out.2.1.cell 0, H6.out.2.1.cell 1, H6.out.2.1.cell 2, H6.out.2.1.cell 3, H6.out.2.1.cell 4, H6.out.2.1.cell 5, H6.out.2.1.cell 6⟩
      generalize W5.heap.size = gn at H6 ⊢
      generalize W5.alloc (.cells #[.int .i64 g] 3) = W6 at H6 K6 ⊢
      refine hK.out _ _ (fun h => K6.out) ?_
      clear hK K
      try simp only [Act.put, List.setIfInBounds_toArray, List.set_cons_zero, List.set_cons_succ]
      refine wpLate_one (i := 0) (o := ?o0B0) (by kernel_rfl) ?ho0B0 ?hk0B0
      case ho0B0 => (simp only [List.getElem?_toArray, List.getElem?_cons_zero]; rfl)
      intro K hK
      have b0 : W6.cell? ⟨W0.heap.size + 6, 0, none⟩ = some pv := H6.out.1.fs.pc.cell 0
      go_simp
      refine hK.out _ _ (fun h => K6.out) ?_
      clear hK K
      try simp only [Act.put, List.setIfInBounds_toArray, List.set_cons_zero, List.set_cons_succ]
      refine wpLate_one (i := 3) (o := ?o3B) (by kernel_rfl) ?ho3B ?hk3B
      case ho3B => (simp only [List.getElem?_toArray, List.getElem?_cons_zero, List.getElem?_cons_succ]; rfl)
      intro K hK
      refine step_append_some (by rfl) (.tmp 32) (.tmp 34) 26 (by rfl) (some 35) (by rfl) W0.heap.size 3 i1 (.int .i64 0) 1 8 Try.underlying26 hi1 hy0 hy1 hy2 rfl (by decide) pv pl.length (pl.map (Value.int .i64)) (by rfl) H6.out.1.fs.po ⟨gn, 0, none⟩ 1 1 [.int .i64 g] (by rfl) rfl (World.news_of_block (cs := #[.int .i64 g]) H6.out.2.2) (by simp [Value.oneCell']) (by have := HLE.out.2.2; unfold maxLen; omega) (by have := HLE.out.2.2; omega) (Nat.le_trans H6.out.1.fs.b.size (Nat.le_refl _)) ?_
      intro v' W7 hown hgr hloc
      obtain ⟨Av, nv, cv, rfl⟩ := own_slice hown
      have HAP := Lib.hid (H6.out.1.fs.appended hown hgr hloc q)
      clear hown hloc
      have HL7 : Hid (W7.heap[l]? = some (.loop (rc .busy none)) ∧ Has W7 (W0.heap.size + 6) 26 #[pv] ∧ Has W7 (W0.heap.size + 7) 75 (plc p) ∧ Has W7 gb 75 (plc q)) := H6.out.1.grownL hgr H6.out.2.1
      have K7 : Hid (W7.cell? ⟨gb, 0, none⟩ = some (.int .i64 q.hour) ∧ W7.cell? ⟨gb, 1, none⟩ = some (.int .i64 q.last) ∧ W7.cell? ⟨gb, 2, none⟩ = some (.int .i64 (q.given[0]?.getD 0)) ∧ W7.cell? ⟨gb, 3, none⟩ = some (.int .i64 (q.given[1]?.getD 0)) ∧ W7.cell? ⟨gb, 4, none⟩ = some (.int .i64 (q.given[2]?.getD 0)) ∧ W7.cell? ⟨gb, 5, none⟩ = some (.int .i64 (q.given[3]?.getD 0)) ∧ W7.cell? ⟨gb, 6, none⟩ = some (.int .i64 (q.given[4]?.getD 0))) := ⟨HL7.out.2.2.2.cell 0, HL7.out.2.2.2.cell 1, HL7.out.2.2.2.cell 2, HL7.out.2.2.2.cell 3, HL7.out.2.2.2.cell 4, HL7.out.2.2.2.cell 5, HL7.out.2.2.2.cell 6⟩
      have o0 : W7.cell? ⟨W0.heap.size + 6, 0, none⟩ = some pv := HL7.out.2.1.cell 0
      have f0 := HL7.out.2.1.frozen 0
      have l0 := HL7.out.2.1.lt
      refine hK.out _ _ (fun h => K7.out) ?_
      clear hK K
      try simp only [Act.put, List.setIfInBounds_toArray, List.set_cons_zero, List.set_cons_succ]
      refine wpLate_one (i := 5) (o := ?o5B) (by kernel_rfl) ?ho5B ?hk5B
      case ho5B => (simp only [List.getElem?_toArray, List.getElem?_cons_zero, List.getElem?_cons_succ]; rfl)
      intro K hK
      go_simp
      have H8 : Hid (Has (W7.setCell ⟨W0.heap.size + 6, 0, none⟩ (.slice Av nv cv)) (W0.heap.size + 7) 75 (plc p) ∧ (W7.setCell ⟨W0.heap.size + 6, 0, none⟩ (.slice Av nv cv)).heap[l]? = some (.loop (rc .busy none)) ∧ Has (W7.setCell ⟨W0.heap.size + 6, 0, none⟩ (.slice Av nv cv)) gb 75 (plc q)) := ⟨HL7.out.2.2.1.only ((Only.refl (· = W0.heap.size + 6) W7).setCell (p := ⟨W0.heap.size + 6, 0, none⟩) (.inl rfl) _) (by show ¬ W0.heap.size + 7 = W0.heap.size + 6; omega), (((Only.refl (· = W0.heap.size + 6) W7).setCell (p := ⟨W0.heap.size + 6, 0, none⟩) (.inl rfl) _).block _ (Array.getElem?_eq_some_iff.1 HL7.out.1).1 (by have := H6.out.1.l7; show ¬ l = W0.heap.size + 6; omega)).trans HL7.out.1, HL7.out.2.2.2.only ((Only.refl (· = W0.heap.size + 6) W7).setCell (p := ⟨W0.heap.size + 6, 0, none⟩) (.inl rfl) _) (fun e => absurd (has_type (e ▸ HL7.out.2.2.2) HL7.out.2.1) (by decide))⟩
      have K8 : Hid ((W7.setCell ⟨W0.heap.size + 6, 0, none⟩ (.slice Av nv cv)).cell? ⟨gb, 0, none⟩ = some (.int .i64 q.hour) ∧ (W7.setCell ⟨W0.heap.size + 6, 0, none⟩ (.slice Av nv cv)).cell? ⟨gb, 1, none⟩ = some (.int .i64 q.last) ∧ (W7.setCell ⟨W0.heap.size + 6, 0, none⟩ (.slice Av nv cv)).cell? ⟨gb, 2, none⟩ = some (.int .i64 (q.given[0]?.getD 0)) ∧ (W7.setCell ⟨W0.heap.size + 6, 0, none⟩ (.slice Av nv cv)).cell? ⟨gb, 3, none⟩ = some (.int .i64 (q.given[1]?.getD 0)) ∧ (W7.setCell ⟨W0.heap.size + 6, 0, none⟩ (.slice Av nv cv)).cell? ⟨gb, 4, none⟩ = some (.int .i64 (q.given[2]?.getD 0)) ∧ (W7.setCell ⟨W0.heap.size + 6, 0, none⟩ (.slice Av nv cv)).cell? ⟨gb, 5, none⟩ = some (.int .i64 (q.given[3]?.getD 0)) ∧ (W7.setCell ⟨W0.heap.size + 6, 0, none⟩ (.slice Av nv cv)).cell? ⟨gb, 6, none⟩ = some (.int .i64 (q.given[4]?.getD 0))) := ⟨H8.out.2.2.cell 0, H8.out.2.2.cell 1, H8.out.2.2.cell 2, H8.out.2.2.cell 3, H8.out.2.2.cell 4, H8.out.2.2.cell 5, H8.out.2.2.cell 6⟩
      generalize W7.setCell ⟨W0.heap.size + 6, 0, none⟩ (.slice Av nv cv) = W8 at H8 K8 HAP ⊢
      clear o0 f0 l0
      refine hK.out _ _ (fun h => K8.out) ?_
      clear hK K
      try simp only [Act.put, List.setIfInBounds_toArray, List.set_cons_zero, List.set_cons_succ]
      refine wpLate_one (i := 6) (o := ?o6B) (by kernel_rfl) ?ho6B ?hk6B
      case ho6B => (simp only [List.getElem?_toArray, List.getElem?_cons_zero, List.getElem?_cons_succ]; rfl)
      intro K hK
      have y0 := H8.out.1.cell 0
      have y1 := H8.out.1.cell 1
      have y2 := H8.out.1.cell 2
      have y3 := H8.out.1.cell 3
      have y4 := H8.out.1.cell 4
      have y5 := H8.out.1.cell 5
      have y6 := H8.out.1.cell 6
      have z0 := H8.out.1.frozen 0
      have z1 := H8.out.1.frozen 1
      have z2 := H8.out.1.frozen 2
      have z3 := H8.out.1.frozen 3
      have z4 := H8.out.1.frozen 4
      have z5 := H8.out.1.frozen 5
      have z6 := H8.out.1.frozen 6
      have zl := H8.out.1.lt
      simp only [plc, List.getElem?_toArray, List.getElem?_cons_zero, List.getElem?_cons_succ] at y0 y1 y2 y3 y4 y5 y6
      go_simp
      refine hK.out _ _ (fun h => absurd h (by decide)) ?_
      clear hK K
      try simp only [Act.put, List.setIfInBounds_toArray, List.set_cons_zero, List.set_cons_succ]
      refine wpLate_done (by kernel_rfl) ?_ _
      try simp only [Act.put, List.setIfInBounds_toArray, List.set_cons_zero, List.set_cons_succ]
      gi_wp2
      have HL9 : (putP W8 (W0.heap.size + 7) q).heap[l]? = some (.loop (rc .busy none)) := ((only_putP q).block _ (Array.getElem?_eq_some_iff.1 H8.out.2.1).1 (by have := H6.out.1.l7; show ¬ l = W0.heap.size + 7; omega)).trans H8.out.2.1
      have hend := run_endRound (P := Try.prog) (some (.exit 1)) HL9
      refine ⟨_, _, hend, .inr ⟨hc, rfl, _, HAP.out.putL HL9 H6.out.1.l7 _, ?_⟩⟩
      rw [World.putObj_heap_same (Array.getElem?_eq_some_iff.1 HL9).1, HR.out]
      rfl
  · have hcd : decide (lq = aim) = false := by simpa using hc
    rw [hcd]
    gi_wp2
    exact fin _ H4.out.1 hc _
end Go.Proofs.Ytipejhfgfciabaa
