/- The fairest plan: the loop over the hours. -/
import Derived.Test.YtipejhfgfciabaaHrO
namespace Go.Proofs.Ytipejhfgfciabaa
open Go.RowKit Go.Shelf
attribute [local go_sem] Oper.semAt_some
set_option maxRecDepth 100000 in
set_option maxHeartbeats 2000000 in
theorem start_any (W : World) : Calls Try.prog 40 #[] W fun e W' => e = .returned (plv startP) ∧ W' = W.alloc (.cells (plc startP) 75) := by
  go_enter Try.func40, Try.ntmps40
  go_wp2
  exact bodyPost_ret (v := plv startP) (by simp [results, Try.results40, go_sem]; rfl) rfl ⟨rfl, rfl⟩
theorem vp_start (x : Tt) : VP x startP := by
  refine ⟨rfl, Nat.zero_le _, fun i hi => ?_, by decide⟩
  have : startP.given.getD i 0 = 0 := by
    match i, hi with
    | 0, _ => rfl
    | 1, _ => rfl
    | 2, _ => rfl
    | 3, _ => rfl
    | 4, _ => rfl
  rw [this]; omega
theorem cntB_le : ∀ {n : Nat}, n ≤ 12 → cntB n ≤ 10000000000 := by
  have h : ∀ d n : Nat, n + d = 12 → cntB n ≤ cntB 12 := by
    intro d
    induction d with
    | zero => intro n hn; have : n = 12 := by omega
              subst this; exact Nat.le_refl _
    | succ d ih => intro n hn; have h1 := ih (n + 1) (by omega)
                   have h2 : cntB (n + 1) = 6 * cntB n + 1 := rfl
                   omega
  intro n hn
  refine Nat.le_trans (h (12 - n) n (by omega)) (by decide)
abbrev dlF (dl : List Nat) : List Deferred := dl.map fun D => { target := .collected D, args := #[] }
def shutL (w : World) (dl : List Nat) : World := dl.foldl (fun w D => w.putObj D (.deferred none)) w
theorem shut_only : ∀ (dl : List Nat) (w : World), Only (fun g => g ∈ dl) w (shutL w dl)
  | [], w => Only.refl _ w
  | D :: dl, w => by
    have h1 : Only (fun g => g ∈ D :: dl) w (w.putObj D (.deferred none)) := ⟨rfl, rfl, rfl, by simp, fun k _ hn => World.putObj_heap_other (fun e => hn (by simp [e]))⟩
    exact h1.trans ((shut_only dl (w.putObj D (.deferred none))).weak (fun g hg => by simp [hg]))
theorem leave_many {fn : Func} {tmps : Array Value} {R : Ending → World → Prop} {v : Value} : ∀ (dl : List Nat) (w : World), (∀ D ∈ dl, w.heap[D]? = some (.deferred (some []))) → dl.Nodup →
    (results fn tmps).run Try.prog (shutL w dl) = .ok v (shutL w dl) → R (.returned v) (shutL w dl) → LeavesInM Fence.wide 3 Try.prog fn tmps R (dlF dl) .returning w
  | [], w, _, _, hr, hR => leave_ret00 hr hR
  | D :: dl, w, hd, hn, hr, hR => by
    refine ⟨by simp, .inl ⟨D, _, rfl, run_takeDeferred (hd D (by simp)), ?_⟩⟩
    have hn' := List.nodup_cons.1 hn
    exact leave_many dl _ (fun D' hD' => (World.putObj_heap_other (fun e => hn'.1 (by rw [← e]; exact hD'))).trans (hd D' (by simp [hD']))) hn'.2 hr hR
theorem FS.leave {W w : World} {x : Tt} {AH AG : Option Addr} {ch cg m BA : Nat} {pl : List Int} {pv : Value} {p : Pl} {A : Option Addr} {c : Nat} {aim : List Int} {dl : List Nat} (h : FS W w x AH AG ch cg m BA pl pv p A c aim dl) :
    Below W.heap.size W (shutL w dl) ∧ (shutL w dl).ownsRow W.heap.size 3 1 pv pl.length (pl.map (Value.int .i64)) := by
  have ho := shut_only dl w
  have hb := h.b
  refine ⟨⟨ho.os.trans hb.os, ho.tape.trans hb.tape, ho.output.trans hb.output, Nat.le_trans hb.size ho.size, fun k hk => (ho.block k (by have := hb.size; omega) (fun hm => by have := (h.ds k hm).1; omega)).trans (hb.block k hk)⟩, ?_⟩
  have hpo := h.po
  obtain ⟨h1, ⟨rfl, h2⟩ | ⟨g, cap, cur, rfl, hg, hh, h3⟩⟩ := hpo
  · exact ⟨h1, .inl ⟨rfl, h2⟩⟩
  · refine ⟨h1, .inr ⟨g, cap, cur, rfl, hg, (ho.block g (Array.getElem?_eq_some_iff.1 hh).1 (fun hm => ?_)).trans hh, h3⟩⟩
    have := (h.ds g hm).2
    rw [hh] at this
    cases this
theorem FS.pushD {W w : World} {x : Tt} {AH AG : Option Addr} {ch cg m BA : Nat} {pl : List Int} {pv : Value} {p : Pl} {A : Option Addr} {c : Nat} {aim : List Int} {dl : List Nat} (h : FS W w x AH AG ch cg m BA pl pv p A c aim dl) {D : Nat} (h7 : W.heap.size + 7 < D) (hD : w.heap[D]? = some (.deferred (some []))) : FS W w x AH AG ch cg m BA pl pv p A c aim (D :: dl) :=
  ⟨h.mi, h.b, h.pc, h.po, h.pq, h.fa, h.ra, h.lt, fun D' hD' => by
    rcases List.mem_cons.1 hD' with rfl | hm
    · exact ⟨h7, hD⟩
    · exact h.ds D' hm⟩
set_option maxRecDepth 100000 in
set_option maxHeartbeats 2000000 in
theorem fairHour (fn : FuncId) (W0 w : World) (BA Bi Bj m n k : Nat) (x : Tt) (AH AG : Option Addr) (ch cg : Nat) (pl : List Int) (pv : Value) (p : Pl) (A : Option Addr) (c : Nat) (aim : List Int) (dl : List Nat) (u : Nat → Value) {assign body : Code}
    (hv : VT x) (hp : VP x p) (hn : p.hour + (n + 1) = x.H.length) (hmax : m + cntB (n + 1) ≤ 1000000000000) (haim : bestP x (n + 1) p = aim) (hpl : pl.length ≤ 1000000)
    (hab : some (assign, body) = Try.f48.body.bind loopParts2)
    (hS : FS W0 w x AH AG ch cg m BA pl pv p A c aim dl) (hi : Has w Bi 25 (ttc x AH AG ch cg)) (hj : Has w Bj 75 (plc p)) :
    CallsIn Fence.wide 3 Try.prog 98 #[.func (.yield (w.heap.size + 1)) #[] #[], .pointer (some ⟨Bi, 0, none⟩), .pointer (some ⟨Bj, 0, none⟩)]
      ((w.alloc (.deferred (some []))).alloc (.loop (loopRec fn (tF W0.heap.size BA k x AH AG ch cg u) #[25, 26] assign body w.heap.size .ready none)))
      (fun e W' => (∃ v, e = .returned v) ∧ ∃ g q m' v', VP x q ∧ q.hour = p.hour + 1 ∧ bestP x n q = aim ∧ planP x aim (n + 1) p = g :: planP x aim n q ∧ m' ≤ m + cntB (n + 1) ∧
        FS W0 W' x AH AG ch cg m' BA (pl ++ [g]) v' q A c aim (w.heap.size :: dl) ∧ W'.heap[w.heap.size + 1]? = some (.loop (loopRec fn (tF W0.heap.size BA k x AH AG ch cg u) #[25, 26] assign body w.heap.size .done (some (.exit 1))))) := by
  have hh : p.hour < x.H.length := by omega
  have hnl := nexts_le x p hv
  have hcb : cntB (n + 1) = 6 * cntB n + 1 := rfl
  have hal : aim.length ≤ 1000000 := by rw [← haim, best_len]; have := hv.ng; omega
  have hb2 := below_two w (.deferred (some [])) (.loop (loopRec fn (tF W0.heap.size BA k x AH AG ch cg u) #[25, 26] assign body w.heap.size .ready none))
  have h7 : W0.heap.size + 7 < w.heap.size := by have := hS.fa.lt; have := hS.lt; omega
  refine (next_any (w.heap.size + 1) Bi Bj x AH AG ch cg p hv hp hh _
    (fun k' w' => ∃ m', m' ≤ m + k' * cntB n ∧ RS W0 w' x AH AG ch cg m' BA pl pv p A c aim (w.heap.size :: dl) Bi Bj (w.heap.size + 1) (loopRec fn (tF W0.heap.size BA k x AH AG ch cg u) #[25, 26] assign body w.heap.size .ready none) ∧ ∀ j b, j < k' → (nexts x p)[j]? = some b → bestP x n b.2 ≠ aim)
    (fun _ w' => ∃ g q m' v', VP x q ∧ q.hour = p.hour + 1 ∧ bestP x n q = aim ∧ planP x aim (n + 1) p = g :: planP x aim n q ∧ m' ≤ m + cntB (n + 1) ∧
        FS W0 w' x AH AG ch cg m' BA (pl ++ [g]) v' q A c aim (w.heap.size :: dl) ∧ w'.heap[w.heap.size + 1]? = some (.loop (loopRec fn (tF W0.heap.size BA k x AH AG ch cg u) #[25, 26] assign body w.heap.size .done (some (.exit 1)))))
    ?_ ?_ ?_ ?_).mono ?_
  · rintro k' w' ⟨m', _, h, _⟩
    exact h.lit
  · rintro k' w' w'' ⟨m', h1, h, h2⟩ hb
    exact ⟨m', h1, h.step hb, h2⟩
  · rintro k' g q w' hq ⟨m', h1, h, h2⟩
    have hk6 : k' < 6 := Nat.lt_of_lt_of_le (List.getElem?_eq_some_iff.1 hq).1 hnl
    obtain ⟨hvq, hqh⟩ := next_vp hv hp hh (List.mem_of_getElem? hq)
    have hkc : k' * cntB n + cntB n ≤ cntB (n + 1) := by
      have h3 : (k' + 1) * cntB n ≤ 6 * cntB n := Nat.mul_le_mul_right _ (by omega)
      rw [Nat.add_mul, Nat.one_mul] at h3
      omega
    refine yield_mono (fairRound fn W0 w' BA (w.heap.size + 1) w.heap.size Bi Bj m' n k x AH AG ch cg pl pv p q g A c aim (w.heap.size :: dl) u hv hvq (by omega) (by omega) hal hpl hab h) ?_
    rintro e W' (⟨hne, rfl, hR⟩ | ⟨he, rfl, v', hF, hl⟩)
    · refine .inl ⟨rfl, _, ?_, hR, fun j b hj hjb => ?_⟩
      · rw [Nat.add_mul, Nat.one_mul]; omega
      · rcases Nat.lt_or_ge j k' with hlt | hge
        · exact h2 j b hlt hjb
        · have : j = k' := by omega
          subst this
          rw [hq] at hjb
          cases hjb
          exact hne
    · exact .inr ⟨rfl, g, q, _, v', hvq, hqh, he, plan_step hq he h2, by omega, hF, hl⟩
  · refine ⟨m, by omega, ⟨(hS.step hb2).pushD h7 (((below_one _ _).block _ (by simp)).trans (Go.MapKept.heap_alloc w _).1), hi.below hb2 hi.lt, hj.below hb2 hj.lt, ?_, by omega⟩, fun j b hj => absurd hj (by omega)⟩
    have := (Go.MapKept.heap_alloc (w.alloc (.deferred (some []))) (.loop (loopRec fn (tF W0.heap.size BA k x AH AG ch cg u) #[25, 26] assign body w.heap.size .ready none))).1
    simpa using this
  · rintro e W' ⟨he, ⟨m', _, _, hno⟩ | ⟨_, h⟩⟩
    · exfalso
      obtain ⟨gq, hm, hb⟩ := best_found x n p
      obtain ⟨j, hj⟩ := List.getElem?_of_mem hm
      exact hno j gq (List.getElem?_eq_some_iff.1 hj).1 hj (hb.trans haim)
    · exact ⟨he, h⟩
def FairPost (x : Tt) (W : World) (e : Ending) (W' : World) : Prop := ∃ v, e = .returned v ∧ Below W.heap.size W W' ∧ W'.ownsRow W.heap.size 3 1 v (fairP x).length ((fairP x).map (Value.int .i64))
theorem ex_u {B BA k : Nat} {x : Tt} {AH AG : Option Addr} {ch cg : Nat} {t : Array Value} (h : t = tF B BA k x AH AG ch cg (fun i => t.getD i undef)) : ∃ u, t = tF B BA k x AH AG ch cg u := ⟨_, h⟩
/-- the range over what comes next, as the walk meets it -/
theorem fairRange {W0 w : World} {BA Bi Bj m n k : Nat} {x : Tt} {AH AG : Option Addr} {ch cg : Nat} {pl : List Int} {pv : Value} {p : Pl} {A : Option Addr} {c : Nat} {aim : List Int} {dl : List Nat} {t : Array Value} {assign body : Code} {Q : Exit → Act → World → Prop}
    (ht : t = tF W0.heap.size BA k x AH AG ch cg (fun i => t.getD i undef)) (hg : ({ tmps := t, defers := dlF dl } : Act).eval (.tmp 24) = .func (.func 98) #[] #[.pointer (some ⟨Bi, 0, none⟩), .pointer (some ⟨Bj, 0, none⟩)])
    (hv : VT x) (hp : VP x p) (hn : p.hour + (n + 1) = x.H.length) (hmax : m + cntB (n + 1) ≤ 1000000000000) (haim : bestP x (n + 1) p = aim) (hpl : pl.length ≤ 1000000)
    (hab : some (assign, body) = Try.f48.body.bind loopParts2)
    (hS : FS W0 w x AH AG ch cg m BA pl pv p A c aim dl) (hi : Has w Bi 25 (ttc x AH AG ch cg)) (hj : Has w Bj 75 (plc p)) (hnd : dl.Nodup)
    (hQ : ∀ (W' : World) g q m' v', VP x q → q.hour = p.hour + 1 → bestP x n q = aim → planP x aim (n + 1) p = g :: planP x aim n q → m' ≤ m + cntB (n + 1) → (w.heap.size :: dl).Nodup →
      FS W0 W' x AH AG ch cg m' BA (pl ++ [g]) v' q A c aim (w.heap.size :: dl) → (Code.exit 1).wp Try.prog Q { tmps := t, defers := dlF (w.heap.size :: dl) } W') :
    (Code.rangeFunc (.tmp 24) #[25, 26] assign body).wp Try.prog Q { tmps := t, defers := dlF dl } w := by
  obtain ⟨u, hu⟩ := ex_u ht
  clear ht
  subst hu
  have h7 : W0.heap.size + 7 < w.heap.size := by have := hS.fa.lt; have := hS.lt; omega
  refine wp_rangeFunc_wide (gf := 98) (lb := #[.pointer (some ⟨Bi, 0, none⟩), .pointer (some ⟨Bj, 0, none⟩)]) hg (enters_of Try.func98 (by kernel_rfl) rfl) ?_
  intro fn
  refine callsIn_wide.2 (callsIn_wide.1 ((fairHour fn W0 w BA Bi Bj m n k x AH AG ch cg pl pv p A c aim dl u hv hp hn hmax haim hpl hab hS hi hj).mono ?_))
  rintro e W' ⟨⟨v, rfl⟩, g, q, m', v', h1, h2, h3, h4, h5, hF, hl⟩
  refine ⟨some (.exit 1), _, run_endLoop hl (by simp), ?_⟩
  refine wpIn_wide.2 ?_
  exact hQ _ g q m' v' h1 h2 h3 h4 h5 (List.nodup_cons.2 ⟨fun hm => by
    have h := (Array.getElem?_eq_some_iff.1 (hS.ds _ hm).2).1
    omega, hnd⟩) (hF.putL hl (by omega) _)
/-- what the loop over the hours goes on with -/
def FI (W : World) (x : Tt) (AH AG : Option Addr) (ch cg BA : Nat) (A : Option Addr) (c : Nat) (aim : List Int) (n : Nat) (a : Act) (w : World) : Prop :=
  ∃ (p : Pl) (pl : List Int) (pv : Value) (m : Nat) (dl : List Nat), p.hour + n = x.H.length ∧ VP x p ∧ bestP x n p = aim ∧ fairP x = pl ++ planP x aim n p ∧ pl.length = p.hour ∧ m ≤ (p.hour + 1) * 10000000000 ∧ dl.Nodup ∧
    FS W w x AH AG ch cg m BA pl pv p A c aim dl ∧ a.defers = dlF dl ∧ ∃ u, a.tmps = tF W.heap.size BA p.hour x AH AG ch cg u
set_option maxRecDepth 100000 in
set_option maxHeartbeats 2000000 in
theorem fairest_any (x : Tt) (AH AG : Option Addr) (ch cg : Nat) (W : World) (hr : TR W W.heap.size x AH AG) (hv : VT x) :
    Calls Try.prog 48 #[ttv x AH AG ch cg] W (FairPost x W) := by
  have hmf : ∀ (fn : Fn) (first cap : Array Value) (w : World), (Instr.makeFunc fn first cap).run Try.prog w = .ok (.func fn first cap) w := fun _ _ _ _ => rfl
  have hmm := @run_makeMap Try.prog
  have HS := Lib.hid (fun w => start_any w)
  have HV := Lib.hid hv
  have HRW := Lib.hid hr
  clear hv hr
  refine (callsIn_wide (n := 3)).1 ?_
  refine callsIn_of_wp_marks Try.func48 rfl trivial ?_
  simp only [Try.ntmps48, List.size_toArray, List.length_cons, List.length_nil, Nat.reduceAdd, Nat.reduceSub, Array.replicate_succ, Array.replicate_zero, List.push_toArray, List.append_toArray, List.nil_append, List.cons_append]
  unfold ttv plv at *
  refine wpIn_wide.2 ?_
  go_wp2_with fail
  go_step3
  go_wp2_with fail
  refine (HS.out _).mono ?_
  rintro e w1 ⟨rfl, rfl⟩
  go_wp2_with fail
  have HM : Hid (∃ w8, w8 = ((((((((W.alloc (.cells (ttc x AH AG ch cg) 25)).alloc (.map #[] 0)).alloc (.cells #[.map (some (W.heap.size + 1))] 114)).alloc
      (.cells #[.func (.func 82) #[] #[.pointer (some ⟨W.heap.size, 0, none⟩), .pointer (some ⟨W.heap.size + 1 + 1, 0, none⟩), .pointer (some ⟨W.heap.size + 1 + 1 + 1, 0, none⟩)]] 115)).alloc (.cells #[] 3)).alloc (.cells (plc startP) 75)).alloc
      (.cells #[.slice (some ⟨W.heap.size + 1 + 1 + 1 + 1, 0, none⟩) 0 0] 26)).alloc (.cells (plc startP) 75))) := Lib.hid ⟨_, rfl⟩
  obtain ⟨w8, hw8⟩ := HM.out
  clear HM
  change Calls _ _ _ ((((((((W.alloc (.cells (ttc x AH AG ch cg) 25)).alloc (.map #[] 0)).alloc (.cells #[.map (some (W.heap.size + 1))] 114)).alloc
      (.cells #[.func (.func 82) #[] #[.pointer (some ⟨W.heap.size, 0, none⟩), .pointer (some ⟨W.heap.size + 1 + 1, 0, none⟩), .pointer (some ⟨W.heap.size + 1 + 1 + 1, 0, none⟩)]] 115)).alloc (.cells #[] 3)).alloc (.cells (plc startP) 75)).alloc
      (.cells #[.slice (some ⟨W.heap.size + 1 + 1 + 1 + 1, 0, none⟩) 0 0] 26)).alloc (.cells (plc startP) 75)) _
  rw [← hw8]
  have H8 : Hid (MI (OwnS W (.slice (some ⟨W.heap.size + 4, 0, none⟩) 0 0)) w8 W.heap.size (W.heap.size + 1 + 1) (W.heap.size + 1 + 1 + 1) (W.heap.size + 1) x AH AG ch cg 0 ∧ Below W.heap.size W w8 ∧ Has w8 (W.heap.size + 6) 26 #[.slice (some ⟨W.heap.size + 4, 0, none⟩) 0 0] ∧
      w8.ownsRow W.heap.size 3 1 (.slice (some ⟨W.heap.size + 4, 0, none⟩) 0 0) 0 [] ∧ Has w8 (W.heap.size + 7) 75 (plc startP)) := by
    have hsz : w8.heap.size = W.heap.size + 8 := by rw [hw8]; simp
    have hB : Below W.heap.size W w8 := by
      rw [hw8]
      exact (((((((below_one W _).alloc (by simp) _).alloc (by first | (simp; done) | (simp; omega)) _).alloc (by first | (simp; done) | (simp; omega)) _).alloc (by first | (simp; done) | (simp; omega)) _).alloc (by first | (simp; done) | (simp; omega)) _).alloc (by first | (simp; done) | (simp; omega)) _).alloc (by first | (simp; done) | (simp; omega)) _
    have g0 : Has w8 W.heap.size 25 (ttc x AH AG ch cg) := by rw [hw8]; exact (((((((Has.new W 25 _).alloc _).alloc _).alloc _).alloc _).alloc _).alloc _).alloc _
    have g2 : Has w8 (W.heap.size + 1 + 1) 114 #[.map (some (W.heap.size + 1))] := by rw [hw8]; exact (((((has_newAt (by simp)).alloc _).alloc _).alloc _).alloc _).alloc _
    have g3 : Has w8 (W.heap.size + 1 + 1 + 1) 115 #[.func (.func 82) #[] #[.pointer (some ⟨W.heap.size, 0, none⟩), .pointer (some ⟨W.heap.size + 1 + 1, 0, none⟩), .pointer (some ⟨W.heap.size + 1 + 1 + 1, 0, none⟩)]] := by rw [hw8]; exact ((((has_newAt (by simp)).alloc _).alloc _).alloc _).alloc _
    have g4 : Has w8 (W.heap.size + 4) 3 #[] := by rw [hw8]; exact (((has_newAt (by simp)).alloc _).alloc _).alloc _
    have g6 : Has w8 (W.heap.size + 6) 26 #[.slice (some ⟨W.heap.size + 4, 0, none⟩) 0 0] := by rw [hw8]; exact (has_newAt (by simp)).alloc _
    have g7 : Has w8 (W.heap.size + 7) 75 (plc startP) := by rw [hw8]; exact has_newAt (by simp)
    have gm : ∀ Inv, Memo w8 (W.heap.size + 1) 0 Inv := fun Inv => by
      have h0 := Memo.new (W.alloc (.cells (ttc x AH AG ch cg) 25)) Inv
      have hB2 : Below ((W.alloc (.cells (ttc x AH AG ch cg) 25)).alloc (.map #[] 0)).heap.size ((W.alloc (.cells (ttc x AH AG ch cg) 25)).alloc (.map #[] 0)) w8 := by
        rw [hw8]
        exact (((((below_one _ _).alloc (by simp) _).alloc (by first | (simp; done) | (simp; omega)) _).alloc (by first | (simp; done) | (simp; omega)) _).alloc (by first | (simp; done) | (simp; omega)) _).alloc (by first | (simp; done) | (simp; omega)) _
      have h1 := h0.imp (hB2.block _ h0.lt) (fun _ _ h => h)
      simpa using h1
    have hSn : ∀ g, g < W.heap.size → ¬ OwnS W (.slice (some ⟨W.heap.size + 4, 0, none⟩) 0 0) g := fun g hg e => by
      rcases e with e | e
      · simp only [Value.ownBlock, Option.some.injEq] at e; omega
      · omega
    refine Lib.hid ⟨⟨g0, g2, g3, HRW.out.step hB, gm _, ⟨fun h0 g o e => ?_, fun h0 g o e => ?_⟩, fun g hg => ?_⟩, hB, g6, ⟨rfl, .inr ⟨_, 0, #[], rfl, by omega, g4, Nat.le_refl _, by decide, rfl, rfl⟩⟩, g7⟩
    · obtain ⟨g', o', e', hg', _⟩ := HRW.out.h 0 h0
      rw [e] at e'; cases e'
      exact hSn _ hg'
    · obtain ⟨g', o', e', hg', _⟩ := HRW.out.g 0 h0
      rw [e] at e'; cases e'
      exact hSn _ hg'
    · rcases hg with e | e
      · simp only [Value.ownBlock, Option.some.injEq] at e; omega
      · omega
  clear hw8 hmf hmm HS
  refine (best_any _ x AH AG ch cg _ _ _ _ HV.out x.H.length startP w8 0 (vp_start x) (by simp [startP]) H8.out.1 (by have := HV.out.nh; have := cntB_le (n := x.H.length) (by omega); omega)).mono ?_
  rintro e w9 ⟨A, c, rfl, hrow, ho, hmi⟩
  have HBW := Lib.hid (And.intro hrow (And.intro ho hmi))
  clear hrow ho hmi
  obtain ⟨aim, haim⟩ : ∃ a, a = bestP x x.H.length startP := ⟨_, rfl⟩
  rw [← haim] at HBW ⊢
  go_wp2_with fail
  rw [← haim]
  have HF : Hid (FS W (w9.alloc (.cells #[.slice A aim.length c] 26)) x AH AG ch cg (0 + cntB x.H.length) w9.heap.size [] (.slice (some ⟨W.heap.size + 4, 0, none⟩) 0 0) startP A c aim []) := by
    obtain ⟨hrow, ho, hmi⟩ := HBW.out
    obtain ⟨h1, h2, h3, h4, h5⟩ := H8.out
    have hb := below_one w9 (.cells #[.slice A aim.length c] 26)
    have hBw9 : Below W.heap.size W w9 := ⟨ho.os.trans h2.os, ho.tape.trans h2.tape, ho.output.trans h2.output, Nat.le_trans h2.size ho.size, fun k hk => (ho.block k (by have := h2.size; omega) (by omega)).trans (h2.block k hk)⟩
    have p3 := h3.only ho (by omega)
    have p5 := h5.only ho (by omega)
    refine Lib.hid ⟨hmi.step hb, hBw9.trans (hb.mono hBw9.size), p3.alloc _, ?_, p5.alloc _, Has.new _ _ _, hrow.step hb, by have := p5.lt; omega, fun D hD => by simp at hD⟩
    have h6 := h4.kept (grown_of_only ho) (.inr (by simp only [Value.ownBlock, ne_eq, Option.some.injEq]; omega))
    simpa using h6.alloc (.cells #[.slice A aim.length c] 26)
  clear HBW H8
  generalize w9.alloc (.cells #[.slice A aim.length c] 26) = w10 at HF ⊢
  generalize w9.heap.size = BA at HF ⊢
  have x0 : w10.cell? ⟨W.heap.size, 0, none⟩ = some (.slice AH x.H.length ch) := HF.out.mi.fx.cell 0
  go_step3
  go_wp2_with fail
  refine (wpIn_wide (n := 3)).1 (wpIn_loop_ghost (FI W x AH AG ch cg BA A c aim) x.H.length ?_ ?_)
  · exact ⟨startP, [], _, _, [], by simp [startP], vp_start x, haim.symm, by rw [List.nil_append, haim]; rfl, rfl, by have := cntB_le (n := x.H.length) (by have := HV.out.nh; omega); simp [startP]; omega, List.nodup_nil, HF.out, rfl, ex_u rfl⟩
  clear HF x0 haim
  rintro n ⟨t, ds⟩ w ⟨p, pl, pv, m, dl, hpn, hvp, hb, hf, hpl, hm, hnd, hS, hds, u, hu⟩
  simp only at hds hu
  subst hds hu
  have HLo := Lib.hid (fun W => longer_any x AH AG ch cg p W)
  refine wpIn_wide.2 ?_
  have HI := Lib.hid (And.intro hpn (And.intro hvp (And.intro hb (And.intro hf (And.intro hpl (And.intro hm hnd))))))
  have HF := Lib.hid hS
  clear hpn hvp hb hf hpl hm hnd hS
  unfold ttv plv at *
  cases n with
  | zero =>
    have hlt : ¬ (p.hour : Int) < x.H.length := by have := HI.out.1; omega
    have c6 : w.cell? ⟨W.heap.size + 6, 0, none⟩ = some pv := HF.out.pc.cell 0
    go_wp2_with fail
    have hL := HF.out.leave
    obtain ⟨hpn, hvp, hb, hf, hpl, hm, hnd⟩ := HI.out
    have hf' : fairP x = pl := by rw [hf]; simp [planP]
    exact leave_many dl w (fun D hD => (HF.out.ds D hD).2) hnd (v := pv) (by simp [results, Try.results48, go_sem]) ⟨pv, rfl, hL.1, by rw [hf']; exact hL.2⟩
  | succ n =>
    have hlt : (p.hour : Int) < x.H.length := by have := HI.out.1; omega
    have x0 : w.cell? ⟨W.heap.size, 0, none⟩ = some (.slice AH x.H.length ch) := HF.out.mi.fx.cell 0
    have x1 : w.cell? ⟨W.heap.size, 1, none⟩ = some (.slice AG x.G.length cg) := HF.out.mi.fx.cell 1
    have x2 : w.cell? ⟨W.heap.size, 2, none⟩ = some (.int .i64 x.R) := HF.out.mi.fx.cell 2
    have p0 : w.cell? ⟨W.heap.size + 7, 0, none⟩ = some (.int .i64 p.hour) := HF.out.pq.cell 0
    have p1 : w.cell? ⟨W.heap.size + 7, 1, none⟩ = some (.int .i64 p.last) := HF.out.pq.cell 1
    have p2 : w.cell? ⟨W.heap.size + 7, 2, none⟩ = some (.int .i64 (p.given[0]?.getD 0)) := HF.out.pq.cell 2
    have p3 : w.cell? ⟨W.heap.size + 7, 3, none⟩ = some (.int .i64 (p.given[1]?.getD 0)) := HF.out.pq.cell 3
    have p4 : w.cell? ⟨W.heap.size + 7, 4, none⟩ = some (.int .i64 (p.given[2]?.getD 0)) := HF.out.pq.cell 4
    have p5 : w.cell? ⟨W.heap.size + 7, 5, none⟩ = some (.int .i64 (p.given[3]?.getD 0)) := HF.out.pq.cell 5
    have p6 : w.cell? ⟨W.heap.size + 7, 6, none⟩ = some (.int .i64 (p.given[4]?.getD 0)) := HF.out.pq.cell 6
    go_wp2_with fail
    refine (HLo.out _).mono ?_
    rintro e w1 ⟨rfl, rfl⟩
    clear x0 x1 x2 p0 p1 p2 p3 p4 p5 p6
    have hb1 := below_two w (.cells (ttc x AH AG ch cg) 25) (.cells (plc p) 75)
    have HF1 := Lib.hid (HF.out.step hb1)
    have HB1 : Hid (Has ((w.alloc (.cells (ttc x AH AG ch cg) 25)).alloc (.cells (plc p) 75)) w.heap.size 25 (ttc x AH AG ch cg) ∧ Has ((w.alloc (.cells (ttc x AH AG ch cg) 25)).alloc (.cells (plc p) 75)) (w.heap.size + 1) 75 (plc p)) := ⟨(Has.new w 25 _).alloc _, has_newAt (by simp)⟩
    clear hb1 HF HLo
    dsimp only
    go_wp2_with fail
    generalize (w.alloc (.cells (ttc x AH AG ch cg) 25)).alloc (.cells (plc p) 75) = w1 at HF1 HB1 ⊢
    generalize w.heap.size = Bi at HB1 ⊢
    obtain ⟨hpn, hvp, hb, hf, hpl, hm, hnd⟩ := HI.out
    have hH := HV.out.nh
    have hc12 := cntB_le (n := n + 1) (by omega)
    refine fairRange (Bj := Bi + 1) rfl rfl HV.out hvp hpn (by omega) hb (by omega) rfl HF1.out HB1.out.1 HB1.out.2 hnd ?_
    clear hH hc12 hb hvp
    intro W' g q m' v' h1 h2 h3 h4 h5 h6 hF
    have HQ := Lib.hid (And.intro h1 (And.intro h2 (And.intro h3 (And.intro h4 (And.intro h5 (And.intro h6 hF))))))
    clear h1 h2 h3 h4 h5 h6 hF HF1 HB1
    have hp12 : (p.hour : Int) ≤ 12 := by have := HV.out.nh; omega
    have HPl := Lib.hid (And.intro hpn (And.intro hf (And.intro hpl hm)))
    clear hpn hf hpl hm hnd HI
    obtain ⟨D, hD⟩ : ∃ D, D = w1.heap.size := ⟨_, rfl⟩
    rw [← hD] at HQ ⊢
    clear hD
    go_wp2_with fail
    obtain ⟨h1, h2, h3, h4, h5, h6, hF⟩ := HQ.out
    obtain ⟨hpn, hf, hpl, hm⟩ := HPl.out
    have e1 : (p.hour : Int) + 1 = (q.hour : Int) := by omega
    rw [e1]
    refine ⟨n, by omega, q, pl ++ [g], v', m', D :: dl, by omega, h1, h3, by rw [hf, h4, List.append_assoc]; rfl, by rw [List.length_append, hpl, h2]; rfl, ?_, h6, hF, rfl, ex_u rfl⟩
    have hc12 := cntB_le (n := n + 1) (by have := HV.out.nh; omega)
    rw [h2, Nat.add_mul (p.hour + 1) 1]
    omega
end Go.Proofs.Ytipejhfgfciabaa
