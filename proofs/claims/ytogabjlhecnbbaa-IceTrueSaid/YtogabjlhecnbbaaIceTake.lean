/- The contract of take. -/
import Derived.Test.YtogabjlhecnbbaaIceLoop
namespace Go.Proofs.Ytogabjlhecnbbaa
open Go.RowKit Go.Shelf

def TakePost (e : Ev) (Bk Bz : Nat) (zs : List Zn) (s : Sm) (w : World) (r : Ending) (w' : World) : Prop :=
  r = .returned (iv (evDo e (zs, s)).2) ∧ OnlyKZ Bk Bz w w' ∧ ((evDo e (zs, s)).2 = 0 → KIn w' Bk Bz (evDo e (zs, s)).1.1 (evDo e (zs, s)).1.2)

theorem wpAt_mid {P : Program} {f : FuncId} {Q : Exit → Act → World → Prop} {a : Act} {w : World} {x y : Code} {M : Act → World → Prop} (hx : x.wp P (Exit.then M (fun _ _ _ => False)) a w) (hy : ∀ a w, M a w → wpAt P f y Q a w) : wpAt P f (x.seq y) Q a w :=
  wpAt_seq_wp (wp_mono hx fun e a w h => by
    cases e with
    | normal => exact hy _ _ h
    | _ => exact h.elim)
theorem idx_0 (Bp : Nat) (w : World) : (Instr.index 106 (deedsV Bp) (iv 0)).run Try.prog w = .ok (.func (.func 73) #[] #[.pointer (some ⟨Bp, 0, none⟩)]) w := by kernel_rfl
theorem idx_1 (Bp : Nat) (w : World) : (Instr.index 106 (deedsV Bp) (iv 1)).run Try.prog w = .ok (.func (.func 75) #[] #[.pointer (some ⟨Bp, 0, none⟩)]) w := by kernel_rfl
theorem idx_2 (Bp : Nat) (w : World) : (Instr.index 106 (deedsV Bp) (iv 2)).run Try.prog w = .ok (.func (.func 76) #[] #[.pointer (some ⟨Bp, 0, none⟩)]) w := by kernel_rfl
theorem idx_3 (Bp : Nat) (w : World) : (Instr.index 106 (deedsV Bp) (iv 3)).run Try.prog w = .ok (.func (.func 77) #[] #[]) w := by kernel_rfl
theorem idx_4 (Bp : Nat) (w : World) : (Instr.index 106 (deedsV Bp) (iv 4)).run Try.prog w = .ok (.func (.func 79) #[] #[]) w := by kernel_rfl
theorem idx_deed (k : Int) (hk : 0 ≤ k ∧ k < 5) (Bp : Nat) (w : World) : (Instr.index 106 (deedsV Bp) (iv k)).run Try.prog w = .ok (.func (.func (fnOf k)) #[] (capOf k Bp)) w := by
  have hkk : k = 0 ∨ k = 1 ∨ k = 2 ∨ k = 3 ∨ k = 4 := by omega
  rcases hkk with rfl | rfl | rfl | rfl | rfl
  · exact idx_0 Bp w
  · exact idx_1 Bp w
  · exact idx_2 Bp w
  · exact idx_3 Bp w
  · exact idx_4 Bp w
/-- behind 'do := k.deeds()[v.Kind]' -/
def MidPost (e : Ev) (Bk Bz : Nat) (zs : List Zn) (s : Sm) (w : World) (a : Act) (W : World) : Prop :=
  ∃ (B5 Bp : Nat) (u7 u8 u9 u10 u11 u12 u13 u14 u15 u16 u17 u18 u19 u20 : Value),
    a = { tmps := #[.pointer (some ⟨Bk, 0, none⟩), evv e, undef, .pointer (some ⟨w.heap.size, 0, none⟩), .pointer (some ⟨w.heap.size + 1, 0, none⟩), .pointer (some ⟨B5, 0, none⟩), undef, u7, u8, u9, u10, u11, u12, u13, u14, u15, u16, u17, u18, u19, u20, undef, undef, undef, undef, undef, undef, undef, undef, undef, undef, undef, undef, undef, undef, undef],
          defers := [{ target := .fn (.func 65) #[.pointer (some ⟨w.heap.size + 1, 0, none⟩)], args := #[] }] } ∧
    Has W B5 105 #[deedF e.k Bp] ∧ Has W Bp 77 #[.pointer (some ⟨Bk, 0, none⟩)] ∧ Has W w.heap.size 54 #[iv e.k, iv e.f, iv e.t, iv e.x, iv e.y] ∧ Has W (w.heap.size + 1) 30 #[iv 0] ∧ KIn W Bk Bz zs s ∧ OnlyKZ Bk Bz w W ∧ w.heap.size ≤ B5 ∧ w.heap.size ≤ Bp

theorem leave_ret {W : World} {D Be : Nat} {x : Int} {tmps : Array Value} {R : Ending → World → Prop} (hD : W.heap[D]? = some (.deferred (some []))) (hB : Has W Be 30 #[iv x]) (ht : tmps[4]?.getD undef = .pointer (some ⟨Be, 0, none⟩))
    (hR : R (.returned (iv x)) (W.putObj D (.deferred none))) :
    LeavesInM Fence.wide 3 Try.prog Try.f39 tmps R [{ target := .collected D, args := #[] }, { target := .fn (.func 65) #[.pointer (some ⟨Be, 0, none⟩)], args := #[] }] .returning W := by
  have hB' : Has (W.putObj D (.deferred none)) Be 30 #[iv x] := (World.putObj_heap_other (fun e => by subst e; unfold Has at hB; rw [hD] at hB; cases hB)).trans hB
  have hc : (W.putObj D (.deferred none)).cell? ⟨Be, 0, none⟩ = some (iv x) := hB'.cell 0
  refine ⟨by simp, .inl ⟨D, _, rfl, run_takeDeferred hD, ?_⟩⟩
  refine ⟨by simp, .inr ⟨fun h => by simp [Fence.wide] at h, .func 65, _, 65, #[.pointer (some ⟨Be, 0, none⟩)], rfl, by simp [go_sem], fun _ _ => trivial, ?_⟩⟩
  refine (catch_none_in ⟨Be, 0, none⟩ _ _).mono ?_
  rintro e u' w' ⟨rfl, rfl, rfl⟩
  refine ⟨iv x, ?_, hR⟩
  simp [results, Try.results39, go_sem, ht, hc]
theorem leave_hole {W : World} {D Be : Nat} {x : Int} {tmps : Array Value} {R : Ending → World → Prop} (hD : W.heap[D]? = some (.deferred (some []))) (hB : Has W Be 30 #[iv x]) (ht : tmps[4]?.getD undef = .pointer (some ⟨Be, 0, none⟩))
    (hR : R (.returned (iv 6)) ((W.putObj D (.deferred none)).setCell ⟨Be, 0, none⟩ (iv 6))) :
    LeavesInM Fence.wide 3 Try.prog Try.f39 tmps R [{ target := .collected D, args := #[] }, { target := .fn (.func 65) #[.pointer (some ⟨Be, 0, none⟩)], args := #[] }] (.panicking [{ v := holeMsg, recovered := false }]) W := by
  have hB' : Has (W.putObj D (.deferred none)) Be 30 #[iv x] := (World.putObj_heap_other (fun e => by subst e; unfold Has at hB; rw [hD] at hB; cases hB)).trans hB
  have hc : (W.putObj D (.deferred none)).cell? ⟨Be, 0, none⟩ = some (iv x) := hB'.cell 0
  have hc6 : ((W.putObj D (.deferred none)).setCell ⟨Be, 0, none⟩ (iv 6)).cell? ⟨Be, 0, none⟩ = some (iv 6) := (hB'.set 0 (iv 6)).cell 0
  refine ⟨by simp, .inl ⟨D, _, rfl, run_takeDeferred hD, ?_⟩⟩
  refine ⟨by simp, .inr ⟨fun h => by simp [Fence.wide] at h, .func 65, _, 65, #[.pointer (some ⟨Be, 0, none⟩)], rfl, by simp [go_sem], fun _ _ => trivial, ?_⟩⟩
  refine (catch_hole_in ⟨Be, 0, none⟩ (iv x) [] _ _ hc (hB'.frozen 0)).mono ?_
  rintro e u' w' ⟨rfl, rfl, rfl⟩
  refine ⟨iv 6, ?_, hR⟩
  simp [results, Try.results39, go_sem, ht, hc6]

set_option maxRecDepth 100000 in
set_option maxHeartbeats 2000000 in
theorem take_any (e : Ev) (Bk Bz : Nat) (zs : List Zn) (s : Sm) (c : Int) (w : World) (h : KIn w Bk Bz zs s) (hlen : zs.length ≤ 24) (hok : ∀ z ∈ zs, z.ok = true) (hs : s.Bd c) (hc : c ≤ 500000000) :
    Calls Try.prog 39 #[.pointer (some ⟨Bk, 0, none⟩), evv e] w (TakePost e Bk Bz zs s w) := by
  have hmf : ∀ (fn : Fn) (first cap : Array Value) (w : World), (Instr.makeFunc fn first cap).run Try.prog w = .ok (.func fn first cap) w := fun _ _ _ _ => rfl
  have hbk := h.k.lt
  have hbz := h.z.lt
  have H := Lib.hid h
  have HO := Lib.hid (And.intro hok hs)
  have hbk1 : Bk < w.heap.size + 1 := by omega
  have ck : w.cell? ⟨Bk, 0, none⟩ = some (.slice (some ⟨Bz, 0, none⟩) zs.length zs.length) := h.k.cell 0
  clear h hok hs
  refine calls_of_at (n := 3) Try.func39 rfl ?_
  simp only [Try.ntmps39, List.size_toArray, List.length_cons, List.length_nil, Nat.reduceAdd, Nat.reduceSub, Array.replicate_succ, Array.replicate_zero, List.push_toArray, List.append_toArray, List.nil_append, List.cons_append]
  refine wpAt_seq_wp ?_
  go_wp2
  refine wpAt_seq_wp ?_
  go_wp2
  refine still_tail 6 (by kernel_rfl) (by kernel_rfl) ?_
  simp only [List.take_succ_cons, List.take_zero, List.drop_succ_cons, List.drop_zero]
  repeat still_step
  refine wpStill_nil ?_
  go_wp2_with fail
  refine (ve_any e zs.length _).mono ?_
  rintro r wa ⟨rfl, hb⟩
  have Hv : Has wa w.heap.size 54 #[iv e.k, iv e.f, iv e.t, iv e.x, iv e.y] := (((Has.new w 54 _).alloc _).drew).below hb (by simp; omega)
  have He : Has wa (w.heap.size + 1) 30 #[iv 0] := (Has.newAt (w := w.alloc (.cells #[iv e.k, iv e.f, iv e.t, iv e.x, iv e.y] 54)) (by simp)).drew.below hb (by simp)
  have Ka : KIn wa Bk Bz zs s := ⟨((H.out.k.alloc _).alloc _).drew.below hb (by simp; omega), ((H.out.z.alloc _).alloc _).drew.below hb (by simp; omega), H.out.ne⟩
  have Oa : OnlyKZ Bk Bz w wa := (((Only.refl _ w).alloc _).alloc _).drew.andBelow hb
  have e0 : wa.cell? ⟨w.heap.size + 1, 0, none⟩ = some (iv 0) := He.cell 0
  have e1 := He.frozen 0
  have HA := Lib.hid (And.intro Hv (And.intro He (And.intro Ka Oa)))
  clear hb Hv He Ka Oa ck hbk1
  cases hev : e.ok zs.length
  · have hR : Hid (evDo e (zs, s) = ((zs, s), 1)) := by show _ = _; simp [evDo, hev]
    go_wp2
    refine ⟨iv 1, by simp [results, Try.results39, go_sem, e0], ?_⟩
    refine ⟨by rw [hR.out], HA.out.2.2.2.setCell (p := ⟨w.heap.size + 1, 0, none⟩) (.inr (by simp)) _, fun h => by rw [hR.out] at h; cases h⟩
  · go_wp2
    refine wpAt_seq_wp ?_
    go_wp2
    have hek : 0 ≤ e.k ∧ e.k < 5 := by simp only [Ev.ok, Bool.and_eq_true, decide_eq_true_eq] at hev; omega
    have hix := idx_deed e.k hek
    obtain ⟨f, hf⟩ : ∃ f, f = fnOf e.k := ⟨_, rfl⟩
    rw [← hf] at hix
    have v0 : wa.cell? ⟨w.heap.size, 0, none⟩ = some (iv e.k) := HA.out.1.cell 0
    have hvl : w.heap.size < wa.heap.size := HA.out.1.lt
    have hvl1 : w.heap.size < wa.heap.size + 1 := by omega
    refine wpAt_mid (M := MidPost e Bk Bz zs s w) ?_ ?_
    · have HEK := Lib.hid (And.intro hek (And.intro hf hev))
      clear hek hf hev e0 e1
      go_wp2
      go_region_held3 (fun w' => w'.cell? ⟨w.heap.size, 0, none⟩ = some (iv e.k)) (first | exact v0 | exact v1 | exact v7 _ | go_keep) (first | (go_at_call 66; refine (deeds_any ⟨Bk, 0, none⟩ _).mono ?_; rintro r wb ⟨rfl, hb, hp⟩; have v1 : wb.cell? ⟨w.heap.size, 0, none⟩ = some (iv e.k) := ((HA.out.1.alloc _).drew.below hb (by simp; omega)).cell 0; have h5 : Has wb wa.heap.size 105 #[.nilFunc] := ((Has.new wa 105 #[.nilFunc]).drew).below hb (by simp); have v5 : wb.cell? ⟨wa.heap.size, 0, none⟩ = some .nilFunc := h5.cell 0; have v6 := h5.frozen 0; have v7 : ∀ x, (wb.setCell ⟨wa.heap.size, 0, none⟩ x).cell? ⟨w.heap.size, 0, none⟩ = some (iv e.k) := fun x => (World.cell?_setCell_other _ _ _ _ (by intro h; injection h; omega)).trans v1) | (go_at_call 66; refine (deeds_any ⟨Bk, 0, none⟩ _).mono ?_; rintro r wb ⟨rfl, hb, hp⟩; have v1 : wb.cell? ⟨w.heap.size, 0, none⟩ = some (iv e.k) := (HA.out.1.drew.below hb (by simp; omega)).cell 0))
      all_goals
        show MidPost e Bk Bz zs s w _ _
        obtain ⟨a1, a2, a3, a4⟩ := HA.out
        have hfk : (.func (.func f) #[] (capOf e.k wa.heap.size) : Value) = deedF e.k wa.heap.size := by rw [HEK.out.2.1]; rfl
        have hfk1 : (.func (.func f) #[] (capOf e.k (wa.heap.size + 1)) : Value) = deedF e.k (wa.heap.size + 1) := by rw [HEK.out.2.1]; rfl
        have hg := a4.size
        first
        | refine ⟨wb.heap.size, wa.heap.size, _, _, _, _, _, _, _, _, _, _, _, _, _, _, rfl, ?_, ?_, ?_, ?_, ?_, ?_, ?_, ?_⟩
          · rw [← hfk]; exact Has.new _ _ _
          · exact hp.alloc _
          · exact (a1.drew.below hb a1.lt).alloc _
          · exact (a2.drew.below hb a2.lt).alloc _
          · exact ⟨(a3.k.drew.below hb a3.k.lt).alloc _, (a3.z.drew.below hb a3.z.lt).alloc _, a3.ne⟩
          · exact (a4.drew.andBelow hb).alloc _
          · have := hb.size; simp at this; omega
          · exact hg
        | refine ⟨wa.heap.size, wa.heap.size + 1, _, _, _, _, _, _, _, _, _, _, _, _, _, _, rfl, ?_, ?_, ?_, ?_, ?_, ?_, ?_, ?_⟩
          · rw [← hfk1]; exact h5.set 0 _
          · have hp' : Has wb (wa.heap.size + 1) 77 #[.pointer (some ⟨Bk, 0, none⟩)] := by simpa using hp
            exact hp'.far (p := ⟨wa.heap.size, 0, none⟩) (by simp) _
          · exact (((a1.alloc _).drew.below hb (by have := a1.lt; simp; omega)).far (p := ⟨wa.heap.size, 0, none⟩) (by have := a1.lt; simp; omega) _)
          · exact (((a2.alloc _).drew.below hb (by have := a2.lt; simp; omega)).far (p := ⟨wa.heap.size, 0, none⟩) (by have := a2.lt; simp; omega) _)
          · exact ⟨(((a3.k.alloc _).drew.below hb (by have := a3.k.lt; simp; omega)).far (p := ⟨wa.heap.size, 0, none⟩) (by have := a3.k.lt; simp; omega) _), (((a3.z.alloc _).drew.below hb (by have := a3.z.lt; simp; omega)).far (p := ⟨wa.heap.size, 0, none⟩) (by have := a3.z.lt; simp; omega) _), a3.ne⟩
          · exact (((a4.alloc _).drew.andBelow hb).setCell (p := ⟨wa.heap.size, 0, none⟩) (.inr hg) _)
          · exact hg
          · omega
    · rintro a W ⟨B5, Bp, u7, u8, u9, u10, u11, u12, u13, u14, u15, u16, u17, u18, u19, u20, rfl, m1, m2, m3, m4, m5, m6, m7, m8⟩
      have HM := Lib.hid (And.intro m1 (And.intro m2 (And.intro m3 (And.intro m4 (And.intro m5 m6)))))
      have w0 : W.cell? ⟨w.heap.size, 0, none⟩ = some (iv e.k) := m3.cell 0
      have w1 : W.cell? ⟨w.heap.size, 1, none⟩ = some (iv e.f) := m3.cell 1
      have w2 : W.cell? ⟨w.heap.size, 2, none⟩ = some (iv e.t) := m3.cell 2
      have w3 : W.cell? ⟨w.heap.size, 3, none⟩ = some (iv e.x) := m3.cell 3
      have w4 : W.cell? ⟨w.heap.size, 4, none⟩ = some (iv e.y) := m3.cell 4
      clear m1 m2 m3 m4 m5 m6 e0 e1 hix hf HA v0 hvl hvl1
      refine wpAt_seq (wpAt_seq_wp ?_)
      go_wp2_with fail
      refine (touched_any ⟨Bk, 0, none⟩ e _).mono ?_
      rintro r wc ⟨rfl, hb, t0, t1, t2⟩
      clear w0 w1 w2 w3 w4
      go_wp2
      refine wpAt_block ?_
      refine wpAt_rangeFunc (n := 3) (gf := 80) (lb := #[.pointer (some ⟨W.heap.size + 1, 0, none⟩), .pointer (some ⟨W.heap.size + 1 + 1, 0, none⟩), .pointer (some ⟨W.heap.size, 0, none⟩)]) rfl (enters_of Try.func80 (by kernel_rfl) rfl) ?_
      obtain ⟨m1, m2, m3, m4, m5, m6⟩ := HM.out
      have hl0 : e.last = (e.last.toNat : Int) ∧ w.heap.size ≤ W.heap.size := by
        refine ⟨?_, m6.size⟩
        simp only [Ev.ok, Bool.and_eq_true, decide_eq_true_eq, Bool.or_eq_true] at hev
        unfold Ev.last
        split <;> omega
      have hbs := hb.size
      have g1 : ∀ (o : Obj) {g t cs}, Has W g t cs → Has ((wc.alloc (.deferred (some []))).alloc o) g t cs := fun o _ _ _ h => ((h.below hb h.lt).alloc _).alloc _
      have g2 : ∀ (o : Obj) {g t cs}, Has wc g t cs → Has ((wc.alloc (.deferred (some []))).alloc o) g t cs := fun o _ _ _ h => (h.alloc _).alloc _
      rw [hl0.1] at t2
      obtain ⟨q, hq⟩ : ∃ q : Pl, q = ⟨Bk, Bz, w.heap.size, w.heap.size + 1, B5, Bp, W.heap.size, W.heap.size + 1, W.heap.size + 1 + 1, wc.heap.size⟩ := ⟨_, rfl⟩
      have hT : ∀ o : Obj, TS w ((wc.alloc (.deferred (some []))).alloc o) q e e.last.toNat := fun o => by
        subst hq
        exact ⟨((m6.andBelow hb).alloc _).alloc _, g1 o m3, ⟨0, g1 o m4⟩, g1 o m1, g1 o m2, g2 o t0, g2 o t1, g2 o t2, (Below.heap_alloc _ _ _ (by simp)).trans (World.alloc_heap_new wc _), hbk, hbz, Nat.le_refl _, by simp, m7, m8, hl0.2, by simp; omega, by simp; omega, by simp; omega⟩
      have hK : ∀ o : Obj, KIn ((wc.alloc (.deferred (some []))).alloc o) q.Bk q.Bz zs s := fun o => by
        subst hq
        exact ⟨g1 o m5.k, g1 o m5.z, m5.ne⟩
      have hL : LoopIn w q e e.last.toNat zs s c := ⟨hev, hl0.1, hlen, HO.out.1, HO.out.2, hc⟩
      have key := fun (A B : Code) (hab : some (A, B) = Try.f39.body.bind loopParts) => loop_any w ((wc.alloc (.deferred (some []))).alloc (.loop (loopRec 39 (takeTmps q e u7 u8 u9 u10 u11 u12 u13 u14 u15 u16 u17 u18 u19 u20 (.pointer (some ⟨Bk, 0, none⟩)) (evv e)) #[24] A B q.D .ready none))) q e e.last.toNat (wc.heap.size + 1) zs s c u7 u8 u9 u10 u11 u12 u13 u14 u15 u16 u17 u18 u19 u20 (.pointer (some ⟨Bk, 0, none⟩)) (evv e) hab (by have := World.alloc_heap_new (wc.alloc (.deferred (some []))) (.loop (loopRec 39 (takeTmps q e u7 u8 u9 u10 u11 u12 u13 u14 u15 u16 u17 u18 u19 u20 (.pointer (some ⟨Bk, 0, none⟩)) (evv e)) #[24] A B q.D .ready none)); rwa [World.size_alloc] at this) (hT _) (hK _) hL (by omega)
      have key2 := key _ _ rfl
      clear key hT hK g1 g2
      subst hq
      refine key2.mono ?_
      clear key2
      rintro r W' (⟨v, rfl, w4, hrun, hT, h0, hK⟩ | ⟨v, rfl, w4, hrun, hT, hBe, h12⟩ | ⟨rfl, hT, h6⟩)
      · refine ⟨none, w4, hrun, fun i => by simp, fun i => by simp, ?_⟩
        obtain ⟨x, hx⟩ := hT.r
        have e0 : w4.cell? ⟨w.heap.size + 1, 0, none⟩ = some (iv x) := hx.cell 0
        have e1 : w4.frozen? ⟨w.heap.size + 1, 0, none⟩ = false := hx.frozen 0
        have HF := Lib.hid (And.intro hT (And.intro h0 hK))
        clear hrun hT h0 hK hx
        refine wpAt_seq_wp ?_
        go_wp2
        refine wpAt_of_wp ?_
        go_wp2
        obtain ⟨hT, h0, hK⟩ := HF.out
        have hT' := hT.setE 0
        obtain ⟨x', hx'⟩ := hT.r
        have hBe : Has (w4.setCell ⟨w.heap.size + 1, 0, none⟩ (iv 0)) (w.heap.size + 1) 30 #[iv 0] := hx'.set 0 _
        refine leave_ret (Be := w.heap.size + 1) hT'.dd hBe rfl ⟨by rw [h0], hT'.o.putObj (by omega) _, fun _ => ?_⟩
        have f : ∀ {g t cs}, Has w4 g t cs → t ≠ 30 → Has ((w4.setCell ⟨w.heap.size + 1, 0, none⟩ (iv 0)).putObj wc.heap.size (.deferred none)) g t cs := fun {g t cs} hh hn =>
          have h1 := hh.far (p := ⟨w.heap.size + 1, 0, none⟩) (hh.ne hx' hn) (iv 0)
          (World.putObj_heap_other (fun e' => by
            have h2 := hT'.dd
            unfold Has at h1
            simp only at h2
            rw [← e', h1] at h2; cases h2)).trans h1
        exact ⟨f hK.k (by decide), f hK.z (by decide), hK.ne⟩
      · refine ⟨some .ret, w4, hrun, wpAt_of_wp ?_⟩
        have HF := Lib.hid (And.intro hT (And.intro h12 hBe))
        clear hrun hT h12 hBe
        go_wp2
        obtain ⟨hT, h12, hBe⟩ := HF.out
        exact leave_ret (Be := w.heap.size + 1) hT.dd hBe rfl ⟨by rw [h12], hT.o.putObj (by omega) _, fun h => by rw [h12] at h; cases h⟩
      · refine ⟨fun i => by simp, fun i => by simp, ?_⟩
        obtain ⟨x, hx⟩ := hT.r
        exact leave_hole (Be := w.heap.size + 1) hT.dd hx rfl ⟨by rw [h6], (hT.o.putObj (by omega) _).setCell (p := ⟨w.heap.size + 1, 0, none⟩) (.inr (by simp)) _, fun h => by rw [h6] at h; cases h⟩
end Go.Proofs.Ytogabjlhecnbbaa
