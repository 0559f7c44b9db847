/- The second example: three. -/
import Derived.Test.YtmclchaalmonnaaScY
namespace Go.Proofs.Ytmclchaalmonnaa
open Go.RowKit Go.Lib
/-- a skating, and where its rows lie -/
structure Se where
  s : Sk
  AC : Option Addr
  AP : Option Addr
  cc : Nat
  cp : Nat
abbrev sec (e : Se) : Array Value := skc e.s e.AC e.AP e.cc e.cp
theorem sec_one (e : Se) : ∀ u ∈ (sec e).toList, u.oneCell' = true := by
  intro u hu
  simp only [List.mem_cons, List.not_mem_nil, or_false] at hu
  rcases hu with rfl | rfl | rfl <;> rfl
structure SeA (w : World) (base : Nat) (o : Option Nat) (e : Se) : Prop where
  c : ∀ k (h : k < e.s.calls.length), ∃ b f M c, e.AC = some ⟨b, f, none⟩ ∧ b < w.heap.size ∧ base ≤ b ∧ o ≠ some b ∧ (∀ j, j < 6 → w.cell? ⟨b, f + k * 6 + j, none⟩ = (clc e.s.calls[k] M c)[j]?) ∧ IRA w base o M e.s.calls[k].marks ∧ e.s.calls[k].marks.length ≤ big
  p : ∀ k (h : k < e.s.parts.length), ∃ b f M c, e.AP = some ⟨b, f, none⟩ ∧ b < w.heap.size ∧ base ≤ b ∧ o ≠ some b ∧ w.cell? ⟨b, f + k, none⟩ = some (.slice M e.s.parts[k].length c) ∧ IRA w base o M e.s.parts[k] ∧ e.s.parts[k].length ≤ big
  lc : e.s.calls.length ≤ big
  lp : e.s.parts.length ≤ big
section
variable {w w' : World} {base : Nat} {o o' : Option Nat} {e : Se}
theorem SeA.step (h : SeA w base o e) (hb : Below w.heap.size w w') : SeA w' base o e :=
  ⟨fun k hk => by
    obtain ⟨b, f, M, c, e1, h1, h2, h3, h4, h5, h6⟩ := h.c k hk
    exact ⟨b, f, M, c, e1, Nat.lt_of_lt_of_le h1 hb.size, h2, h3, fun j hj => (hb.cell (p := ⟨b, _, none⟩) h1).trans (h4 j hj), h5.step hb, h6⟩,
   fun k hk => by
    obtain ⟨b, f, M, c, e1, h1, h2, h3, h4, h5, h6⟩ := h.p k hk
    exact ⟨b, f, M, c, e1, Nat.lt_of_lt_of_le h1 hb.size, h2, h3, (hb.cell (p := ⟨b, _, none⟩) h1).trans h4, h5.step hb, h6⟩, h.lc, h.lp⟩
theorem moved_ne {b : Nat} (h1 : b < w.heap.size) (h3 : o ≠ some b) (hm : Moved w o o') : o' ≠ some b := by
  rcases hm with rfl | ⟨g, rfl, hgl⟩
  · exact h3
  · intro e; cases e; omega
theorem SeA.grown (h : SeA w base o e) (hg : w.grownBy w' o) (hm : Moved w o o') : SeA w' base o' e :=
  ⟨fun k hk => by
    obtain ⟨b, f, M, c, e1, h1, h2, h3, h4, h5, h6⟩ := h.c k hk
    exact ⟨b, f, M, c, e1, Nat.lt_of_lt_of_le h1 hg.size, h2, moved_ne h1 h3 hm, fun j hj => (World.cell?_of_block (a := ⟨b, _, none⟩) (hg.block b h1 (fun e => h3 e.symm))).trans (h4 j hj), h5.grown hg hm, h6⟩,
   fun k hk => by
    obtain ⟨b, f, M, c, e1, h1, h2, h3, h4, h5, h6⟩ := h.p k hk
    exact ⟨b, f, M, c, e1, Nat.lt_of_lt_of_le h1 hg.size, h2, moved_ne h1 h3 hm, (World.cell?_of_block (a := ⟨b, _, none⟩) (hg.block b h1 (fun e => h3 e.symm))).trans h4, h5.grown hg hm, h6⟩, h.lc, h.lp⟩
theorem SeA.set (h : SeA w base o e) {p : Addr} (hp : p.block < base) (v : Value) : SeA (w.setCell p v) base o e :=
  ⟨fun k hk => by
    obtain ⟨b, f, M, c, e1, h1, h2, h3, h4, h5, h6⟩ := h.c k hk
    exact ⟨b, f, M, c, e1, by simpa [World.setCell] using h1, h2, h3, fun j hj => (cell_far (by omega)).trans (h4 j hj), h5.set hp v, h6⟩,
   fun k hk => by
    obtain ⟨b, f, M, c, e1, h1, h2, h3, h4, h5, h6⟩ := h.p k hk
    exact ⟨b, f, M, c, e1, by simpa [World.setCell] using h1, h2, h3, (cell_far (by omega)).trans h4, h5.set hp v, h6⟩, h.lc, h.lp⟩
theorem SeA.skr (h : SeA w base o e) : SkR w w.heap.size e.s e.AC e.AP :=
  ⟨fun k hk => by
    obtain ⟨b, f, M, c, e1, h1, h2, h3, h4, h5, h6⟩ := h.c k hk
    exact ⟨b, f, M, c, e1, h1, h4, h5.row, h6⟩,
   fun k hk => by
    obtain ⟨b, f, M, c, e1, h1, h2, h3, h4, h5, h6⟩ := h.p k hk
    exact ⟨b, f, M, c, e1, h1, h4, h5.row, h6⟩, h.lc, h.lp⟩
end
/-- skatings in an own row -/
structure OutS (w : World) (base : Nat) (v : Value) (es : List Se) : Prop where
  own : w.ownsRow base 28 3 v es.length (nvl sec es)
  nest : ∀ e ∈ es, SeA w base v.ownBlock e
theorem OutS.step {w w' : World} {base : Nat} {v : Value} {es : List Se} (h : OutS w base v es) (hb : Below w.heap.size w w') : OutS w' base v es := ⟨own_step h.own hb, fun e he => (h.nest e he).step hb⟩
theorem OutS.set {w : World} {base : Nat} {v : Value} {es : List Se} (h : OutS w base v es) {p : Addr} (hp : p.block < base) (u : Value) : OutS (w.setCell p u) base v es := ⟨own_far h.own hp u, fun e he => (h.nest e he).set hp u⟩
theorem moved_of {w : World} {o : Option Nat} {g H n c : Nat} (hH : w.heap.size = H) (h : o = some g ∨ g = H) : Moved w o (Value.slice (some ⟨g, 0, none⟩) n c).ownBlock := by
  rcases h with h | h
  · exact .inl h.symm
  · exact .inr ⟨g, rfl, by omega⟩
theorem OutS.append {w w' : World} {base g cap H : Nat} {v : Value} {es : List Se} {e : Se} (h : OutS w base v es) (he : SeA w base v.ownBlock e) (hH : w.heap.size = H)
    (hown : w'.ownsRow base 28 3 (.slice (some ⟨g, 0, none⟩) (es.length + 1) cap) (es.length + 1) (nvl sec es ++ nvl sec [e])) (hgr : w.grownBy w' v.ownBlock) (hg : v.ownBlock = some g ∨ g = H) : OutS w' base (.slice (some ⟨g, 0, none⟩) (es.length + 1) cap) (es ++ [e]) := by
  refine ⟨by rw [nvl_append, List.length_append]; exact hown, fun x hx => ?_⟩
  rcases List.mem_append.1 hx with hx | hx
  · exact (h.nest x hx).grown hgr (moved_of hH hg)
  · rw [List.mem_singleton.1 hx]; exact he.grown hgr (moved_of hH hg)
def put3 (w : World) (D : Nat) (a b c : Value) : World := ((w.setCell ⟨D, 0, none⟩ a).setCell ⟨D, 1, none⟩ b).setCell ⟨D, 2, none⟩ c
theorem has_put3 {w : World} {D : Nat} {t : TypeId} {a b c a' b' c' : Value} (h : Has w D t #[a, b, c]) : Has (put3 w D a' b' c') D t #[a', b', c'] := by
  have h1 : Has (w.setCell ⟨D, 0, none⟩ a') D t #[a', b, c] := h.set 0 a'
  have h2 : Has ((w.setCell ⟨D, 0, none⟩ a').setCell ⟨D, 1, none⟩ b') D t #[a', b', c] := h1.set 1 b'
  exact h2.set 2 c'
theorem below_put3 {W w : World} {D B : Nat} {a b c : Value} (h : Below B W w) (hD : B ≤ D) : Below B W (put3 w D a b c) := ((h.setCell hD _).setCell hD _).setCell hD _
theorem OutS.srow {w : World} {base : Nat} {v : Value} {es : List Se} (h : OutS w base v es) : ∃ A cap, v = .slice A es.length cap ∧ SRow w w.heap.size A (es.map (·.s)) := by
  obtain ⟨A, cap, rfl, hr⟩ := own_nrow (f := sec) (fun _ => rfl) h.own
  refine ⟨A, cap, rfl, fun k hk => ?_⟩
  have hk' : k < es.length := by simpa using hk
  obtain ⟨g, f, e1, h1, h2⟩ := hr k hk'
  simp only [List.getElem_map]
  exact ⟨g, f, es[k].AC, es[k].AP, es[k].cc, es[k].cp, e1, h1, h2, (h.nest _ (List.getElem_mem hk')).skr⟩
theorem Try.info28 : (Try.prog.info? 28).map (fun i => (i.zero, i.size, i.bytes)) = some (some (.agg #[.slice none 0 0, .slice none 0 0, .int .i64 0]), 3, 56) := by kernel_rfl
def threeS (n : Nat) (m : Int) : Sk := ⟨[⟨0, 0, 0, false, false, List.replicate n m⟩], [], 0⟩
def threeL (n : Nat) : List Sk := [threeS n 0, threeS n 1, threeS n 3]
def threeR : Ru := ⟨[100], 0, 1⟩
def ThrPost (n : Nat) (W : World) (e : Ending) (W' : World) : Prop := ∃ A c L k, e = .returned (.tuple #[ruv threeR A c, .slice L (threeL n).length k]) ∧ RuR W' W'.heap.size threeR A ∧ SRow W' W'.heap.size L (threeL n) ∧ Below W.heap.size W W'
theorem res27 {w : World} {D : Nat} {a b c r : Value} {tmps : Array Value} (h : Has w D 24 #[a, b, c]) (h4 : tmps[2]?.getD undef = .pointer (some ⟨D, 0, none⟩)) (h5 : tmps[3]?.getD undef = r) :
    (results Try.f27 tmps).run Try.prog w = .ok (.tuple #[.agg #[a, b, c], r]) w := by
  have c0 := h.cell 0; have c1 := h.cell 1; have c2 := h.cell 2
  simp at c0 c1 c2
  simp [results, Try.results27, go_sem, h4, h5, c0, c1, c2]
set_option maxRecDepth 100000 in
set_option maxHeartbeats 1000000 in
theorem three_any (n : Nat) (hn : n ≤ 9) (W : World) : Calls Try.prog 27 #[.int .i64 n] W (ThrPost n W) := by
  obtain ⟨i0, hi, hz0, hz1, hz2⟩ := info_parts Try.info3
  obtain ⟨j0, hj, hy0, hy1, hy2⟩ := info_parts Try.info28
  have HB : Hid (Below W.heap.size W ((W.alloc (.cells #[.slice none 0 0, .int .i64 0, .int .i64 0] 24)).alloc (.cells (ils [0, 1, 3]) 3)) ∧ Has ((W.alloc (.cells #[.slice none 0 0, .int .i64 0, .int .i64 0] 24)).alloc (.cells (ils [0, 1, 3]) 3)) W.heap.size 24 #[.slice none 0 0, .int .i64 0, .int .i64 0] ∧ Has ((W.alloc (.cells #[.slice none 0 0, .int .i64 0, .int .i64 0] 24)).alloc (.cells (ils [0, 1, 3]) 3)) (W.heap.size + 1) 3 (ils [0, 1, 3])) :=
    Lib.hid ⟨(below_one W _).alloc (by simp) _, (Has.new _ _ _).alloc _, has_newAt (by simp)⟩
  go_enter Try.func27, Try.ntmps27
  go_upto_region 3 with fail
  have HB' : Hid (Below W.heap.size W ((W.alloc (.cells #[.slice none 0 0, .int .i64 0, .int .i64 0] 24)).alloc (.cells #[.int .i64 0, .int .i64 1, .int .i64 3] 3)) ∧ Has ((W.alloc (.cells #[.slice none 0 0, .int .i64 0, .int .i64 0] 24)).alloc (.cells #[.int .i64 0, .int .i64 1, .int .i64 3] 3)) W.heap.size 24 #[.slice none 0 0, .int .i64 0, .int .i64 0] ∧ Has ((W.alloc (.cells #[.slice none 0 0, .int .i64 0, .int .i64 0] 24)).alloc (.cells #[.int .i64 0, .int .i64 1, .int .i64 3] 3)) (W.heap.size + 1) 3 (ils [0, 1, 3])) := HB
  clear HB
  generalize (W.alloc (.cells #[.slice none 0 0, .int .i64 0, .int .i64 0] 24)).alloc (.cells #[.int .i64 0, .int .i64 1, .int .i64 3] 3) = w0 at HB' ⊢
  go_loopg [10, 4] 3 (fun gk i v wr => ∃ k : Nat, k ≤ 3 ∧ 3 - k ≤ gk ∧ i = .int .i64 k ∧ ∃ es, Hid (Below W.heap.size W wr ∧ Has wr W.heap.size 24 #[.slice none 0 0, .int .i64 0, .int .i64 0] ∧ Has wr (W.heap.size + 1) 3 (ils [0, 1, 3]) ∧ OutS wr (W.heap.size + 1 + 1) v es ∧ es.map (·.s) = (threeL n).take k))
  case atStart => exact ⟨0, by omega, by omega, rfl, [], Lib.hid ⟨HB'.out.1, HB'.out.2.1, HB'.out.2.2, ⟨own_nil _ _ _ _, fun e he => absurd he (by simp)⟩, rfl⟩⟩
  case round =>
    clear HB'
    obtain ⟨k, hk, hgk, rfl, es, HW⟩ := hrel
    obtain ⟨A4, c4, rfl, hsrow⟩ := HW.out.2.2.2.1.srow
    by_cases hlt : k < 3
    rotate_left
    · have hge : ¬ (k : Int) < 3 := by omega
      have HF : Hid (es.map (·.s) = threeL n) := Lib.hid (by rw [HW.out.2.2.2.2, List.take_of_length_le (by show 3 ≤ k; omega)])
      have hel : es.length = 3 := by have := congrArg List.length HF.out; simpa [threeL] using this
      have HS := Lib.hid hsrow
      have HW1 := Lib.hid (And.intro HW.out.1 HW.out.2.1)
      rw [hel]
      have f0 := HW1.out.2.frozen 0
      have f1 := HW1.out.2.frozen 1
      have f2 := HW1.out.2.frozen 2
      have z0 : wr.cell? ⟨W.heap.size, 0, none⟩ = some (.slice none 0 0) := HW1.out.2.cell 0
      have z1 : wr.cell? ⟨W.heap.size, 1, none⟩ = some (.int .i64 0) := HW1.out.2.cell 1
      have z2 : wr.cell? ⟨W.heap.size, 2, none⟩ = some (.int .i64 0) := HW1.out.2.cell 2
      have HO : Hid (∀ a b c, OutS (put3 wr W.heap.size a b c) (W.heap.size + 1 + 1) (.slice A4 es.length c4) es) := Lib.hid fun a b c => ((HW.out.2.2.2.1.set (p := ⟨W.heap.size, 0, none⟩) (by simp only; omega) _).set (p := ⟨W.heap.size, 1, none⟩) (by simp only; omega) _).set (p := ⟨W.heap.size, 2, none⟩) (by simp only; omega) _
      have HEL := Lib.hid hel
      have hWs : W.heap.size < wr.heap.size := HW1.out.2.lt
      clear hsrow hel hlt hk hgk HW HS
      go_wp2_with fail
      have HX : Hid (Has ((put3 wr W.heap.size (.slice (some ⟨wr.heap.size, 0, none⟩) 1 1) (.int .i64 0) (.int .i64 1)).alloc (.cells (ils [100]) 3)) W.heap.size 24 #[.slice (some ⟨wr.heap.size, 0, none⟩) 1 1, .int .i64 0, .int .i64 1] ∧ Has ((put3 wr W.heap.size (.slice (some ⟨wr.heap.size, 0, none⟩) 1 1) (.int .i64 0) (.int .i64 1)).alloc (.cells (ils [100]) 3)) wr.heap.size 3 (ils [100]) ∧ Below W.heap.size W ((put3 wr W.heap.size (.slice (some ⟨wr.heap.size, 0, none⟩) 1 1) (.int .i64 0) (.int .i64 1)).alloc (.cells (ils [100]) 3)) ∧ OutS ((put3 wr W.heap.size (.slice (some ⟨wr.heap.size, 0, none⟩) 1 1) (.int .i64 0) (.int .i64 1)).alloc (.cells (ils [100]) 3)) (W.heap.size + 1 + 1) (.slice A4 es.length c4) es) := Lib.hid (by
        refine ⟨(has_put3 HW1.out.2).alloc _, has_newAt (by simp [put3, World.setCell]), ?_, (HO.out _ _ _).step (below_one _ _)⟩
        exact (below_put3 HW1.out.1 (Nat.le_refl _)).trans ((below_one _ _).mono (by have := HW1.out.1.size; simp [put3, World.setCell]; omega)))
      obtain ⟨A5, c5, he5, hs5⟩ := HX.out.2.2.2.srow
      cases he5
      refine bodyPost_ret (v := .tuple #[.agg #[.slice (some ⟨wr.heap.size, 0, none⟩) 1 1, .int .i64 0, .int .i64 1], .slice A4 3 c4]) (res27 (D := W.heap.size) HX.out.1 rfl rfl) rfl ?_
      refine ⟨some ⟨wr.heap.size, 0, none⟩, 1, A4, c4, rfl, ⟨irow_has HX.out.2.1, by decide⟩, ?_, HX.out.2.2.1⟩
      rw [HF.out] at hs5
      exact hs5
    have hlt2 : (k : Int) < 3 := by omega
    obtain ⟨m, hm⟩ : ∃ m, ([0, 1, 3] : List Int)[k]? = some m := ⟨_, List.getElem?_eq_getElem (show k < 3 from hlt)⟩
    have z0 : wr.cell? ⟨W.heap.size + 1, k, none⟩ = some (.int .i64 m) := (HW.out.2.2.1.cell k).trans (by rw [ils_get, hm]; rfl)
    have HNX : Hid (es.map (·.s) ++ [threeS n m] = (threeL n).take (k + 1)) := Lib.hid (by
      rw [HW.out.2.2.2.2]
      match k, hlt with
      | 0, _ => cases hm; rfl
      | 1, _ => cases hm; rfl
      | 2, _ => cases hm; rfl)
    have HX : Hid (Below W.heap.size W (wr.alloc (.cells #[.int .i64 0, .int .i64 0, .int .i64 0, .bool false, .bool false, .slice none 0 0] 52)) ∧ Has (wr.alloc (.cells #[.int .i64 0, .int .i64 0, .int .i64 0, .bool false, .bool false, .slice none 0 0] 52)) wr.heap.size 52 #[.int .i64 0, .int .i64 0, .int .i64 0, .bool false, .bool false, .slice none 0 0] ∧ Below wr.heap.size wr (wr.alloc (.cells #[.int .i64 0, .int .i64 0, .int .i64 0, .bool false, .bool false, .slice none 0 0] 52)) ∧ wr.heap.size + 1 = (wr.alloc (.cells #[.int .i64 0, .int .i64 0, .int .i64 0, .bool false, .bool false, .slice none 0 0] 52)).heap.size) :=
      Lib.hid ⟨HW.out.1.trans ((below_one wr _).mono HW.out.1.size), Has.new _ _ _, below_one wr _, by simp⟩
    have HW2 := Lib.hid HW.out
    have hel : es.length ≤ 3 := by have := congrArg List.length HW.out.2.2.2.2; simp [threeL] at this; omega
    clear hm hsrow HW
    go_upto_region 6 with fail
    clear z0
    generalize wr.alloc (.cells #[.int .i64 0, .int .i64 0, .int .i64 0, .bool false, .bool false, .slice none 0 0] 52) = w1 at HX ⊢
    obtain ⟨D, hD⟩ : ∃ D, D = wr.heap.size := ⟨_, rfl⟩
    rw [← hD] at HX ⊢
    have HD := Lib.hid hD
    clear hD
    go_wp2_with fail
    obtain ⟨w2, rfl⟩ : ∃ w2, w2 = wr := ⟨_, rfl⟩
    go_loopg [16] n (fun gk2 i2 wx => ∃ q : Nat, q ≤ n ∧ n - q ≤ gk2 ∧ i2 = .int .i64 q ∧ ∃ M c, Hid (Below W.heap.size W wx ∧ Has wx D 52 #[.int .i64 0, .int .i64 0, .int .i64 0, .bool false, .bool false, .slice M q c] ∧ Below D w2 wx ∧ wx.ownsRow (D + 1) 3 1 (.slice M q c) (List.replicate q m).length (ivl (List.replicate q m)) ∧ D + 1 ≤ wx.heap.size))
    case atStart => exact ⟨0, Nat.zero_le _, Nat.le_refl _, rfl, none, 0, Lib.hid ⟨HX.out.1, HX.out.2.1, HX.out.2.2.1, own_nil _ _ _ _, by rw [HX.out.2.2.2]; exact Nat.le_refl _⟩⟩
    case round =>
      obtain ⟨q, hq, hgq, rfl, M, c, HQ⟩ := hrel
      by_cases hqt : q < n
      rotate_left
      · have hqe : ¬ (q : Int) < n := by omega
        obtain rfl : q = n := by omega
        have y0 : wr.cell? ⟨D, 0, none⟩ = some (.int .i64 0) := HQ.out.2.1.cell 0
        have y1 : wr.cell? ⟨D, 1, none⟩ = some (.int .i64 0) := HQ.out.2.1.cell 1
        have y2 : wr.cell? ⟨D, 2, none⟩ = some (.int .i64 0) := HQ.out.2.1.cell 2
        have y3 : wr.cell? ⟨D, 3, none⟩ = some (.bool false) := HQ.out.2.1.cell 3
        have y4 : wr.cell? ⟨D, 4, none⟩ = some (.bool false) := HQ.out.2.1.cell 4
        have y5 : wr.cell? ⟨D, 5, none⟩ = some (.slice M q c) := HQ.out.2.1.cell 5
        obtain ⟨A9, c9, he9, hira⟩ := own_ira HQ.out.2.2.2.1
        rw [List.length_replicate] at he9
        cases he9
        have hbw : Below w2.heap.size w2 wr := by have := HQ.out.2.2.1; rwa [HD.out] at this
        have HO2 := Lib.hid (HW2.out.2.2.2.1.step hbw)
        have hob : ∀ b, (Value.slice A4 es.length c4).ownBlock = some b → b < D := fun b hb => by rw [HD.out]; exact (own_block HW2.out.2.2.2.1.own b hb).2
        have hDs : D < wr.heap.size := HQ.out.2.1.lt
        have hWD : W.heap.size + 1 < D := by have := HW2.out.2.2.1.lt; rw [← HD.out] at this; exact this
        obtain ⟨w3, hw3⟩ : ∃ w3, w3 = (wr.alloc (.cells #[.int .i64 0, .int .i64 0, .int .i64 0, .bool false, .bool false, .slice M q c] 52)).alloc (.cells #[.slice (some ⟨wr.heap.size, 0, none⟩) 1 1, .slice none 0 0, .int .i64 0] 28) := ⟨_, rfl⟩
        have hb3 : Below wr.heap.size wr w3 := by rw [hw3]; exact (below_one _ _).alloc (by simp) _
        have hs3 : w3.heap.size = wr.heap.size + 1 + 1 := by rw [hw3]; simp
        have hE1 : Has w3 wr.heap.size 52 #[.int .i64 0, .int .i64 0, .int .i64 0, .bool false, .bool false, .slice M q c] := by rw [hw3]; exact (Has.new _ _ _).alloc _
        have hE2 : Has w3 (wr.heap.size + 1) 28 #[.slice (some ⟨wr.heap.size, 0, none⟩) 1 1, .slice none 0 0, .int .i64 0] := by rw [hw3]; exact has_newAt (by simp)
        have HO3 := Lib.hid (HO2.out.step hb3)
        have HSE : Hid (SeA w3 (W.heap.size + 1 + 1) (Value.slice A4 es.length c4).ownBlock ⟨threeS q m, some ⟨wr.heap.size, 0, none⟩, none, 1, 0⟩) := Lib.hid ⟨fun kk hkk => by
            have : kk = 0 := by simpa [threeS] using hkk
            subst this
            refine ⟨wr.heap.size, 0, M, c, rfl, hE1.lt, by omega, fun e => by have := hob _ e; omega, fun jj _ => by rw [hE1.cell]; simp [threeS], ?_, ?_⟩
            · exact ((hira _ (fun b hb => by have := hob b hb; omega)).step hb3).low (by omega)
            · simp [threeS, big]; omega, fun kk hkk => absurd hkk (by simp [threeS]), by simp [threeS, big], by simp [threeS, big]⟩
        have HNEW : Hid (∀ j u, (nvl sec [(⟨threeS q m, some ⟨wr.heap.size, 0, none⟩, none, 1, 0⟩ : Se)])[j]? = some u → w3.cell? ((⟨wr.heap.size + 1, 0, none⟩ : Addr).add j) = some u) := Lib.hid fun j u hu => by
          rw [addr_add, hE2.cell, Nat.zero_add, ← hu]
          simp [nvl, threeS]
        have HW3 := Lib.hid (And.intro hb3 (And.intro (HQ.out.1.trans (hb3.mono HQ.out.1.size)) (And.intro (hbw.trans (hb3.mono hbw.size)) hs3)))
        have HWD := Lib.hid (And.intro hWD hw3)
        have hes3 : es.length ≤ 3 := hel
        clear hira hbw hob hb3 hs3 hE1 hE2 hw3 hWD
        go_wp2_with (at_builtin; rw [show (wr.alloc (.cells #[.int .i64 0, .int .i64 0, .int .i64 0, .bool false, .bool false, .slice M q c] 52)).alloc (.cells #[.slice (some ⟨wr.heap.size, 0, none⟩) 1 1, .slice none 0 0, .int .i64 0] 28) = w3 from HWD.out.2.symm]; refine wpList_append_lies _ rfl _ _ 30 rfl (W.heap.size + 1 + 1) 28 j0 (.agg #[.slice none 0 0, .slice none 0 0, .int .i64 0]) 3 56 Try.underlying30 hj hy0 hy1 hy2 rfl (by decide) (.slice A4 es.length c4) es.length (nvl sec es) rfl HO3.out.own ⟨wr.heap.size + 1, 0, none⟩ 1 1 (nvl sec [(⟨threeS q m, some ⟨wr.heap.size, 0, none⟩, none, 1, 0⟩ : Se)]) rfl ?r1 HNEW.out (nvl_one (f := sec) sec_one _) ?r2 ?r3 ?r4 ?r5 _ rfl ?_)
        case r1 => rfl
        case r3 => unfold maxLen; omega
        case r4 => omega
        case r5 => have := HW3.out.2.2.2; have := HWD.out.1; omega
        rintro g1 cap1 w5 hown1 hgr1 hgg1 hlt1
        have HO5 := Lib.hid (HO3.out.append HSE.out rfl hown1 hgr1 hgg1)
        have hb5 : Below (W.heap.size + 1 + 1) w3 w5 := grown_step hgr1 (by have := HW3.out.2.2.2; have := HWD.out.1; omega) (fun b hb => (own_block HO3.out.own b hb).1)
        have H5 := Lib.hid (show Below W.heap.size W w5 ∧ Has w5 W.heap.size 24 #[.slice none 0 0, .int .i64 0, .int .i64 0] ∧ Has w5 (W.heap.size + 1) 3 (ils [0, 1, 3]) from
          ⟨HW3.out.2.1.trans (hb5.mono (by omega)), (HW2.out.2.1.below HW3.out.2.2.1 HW2.out.2.1.lt).below hb5 (by omega), (HW2.out.2.2.1.below HW3.out.2.2.1 HW2.out.2.2.1.lt).below hb5 (by omega)⟩)
        have HLN : Hid ((es ++ [(⟨threeS q m, some ⟨wr.heap.size, 0, none⟩, none, 1, 0⟩ : Se)]).map (·.s) = (threeL q).take (k + 1)) := Lib.hid (by rw [List.map_append]; exact HNX.out)
        clear hown1 hgr1 hgg1 hlt1 hb5 y0 y1 y2 y3 y4 y5
        go_wp2_with fail
        go_roundg (3 - (k + 1))
        case measure => omega
        case rel => exact ⟨k + 1, by omega, Nat.le_refl _, by go_num, _, Lib.hid ⟨H5.out.1, H5.out.2.1, H5.out.2.2, HO5.out, HLN.out⟩⟩
      have hqt2 : (q : Int) < n := by omega
      have t5 : wr.cell? ⟨D, 5, none⟩ = some (.slice M q c) := HQ.out.2.1.cell 5
      have tf5 := HQ.out.2.1.frozen 5
      have hDs : D < wr.heap.size := HQ.out.2.1.lt
      have HOW : Hid ((wr.alloc (.cells #[.int .i64 m] 3)).ownsRow (D + 1) 3 1 (.slice M q c) (List.replicate q m).length (ivl (List.replicate q m))) := Lib.hid (own_step HQ.out.2.2.2.1 (below_one _ _))
      rw [List.length_replicate] at HOW
      have HNEW : Hid (∀ j u, (ivl [m])[j]? = some u → (wr.alloc (.cells #[.int .i64 m] 3)).cell? ((⟨wr.heap.size, 0, none⟩ : Addr).add j) = some u) := Lib.hid fun j u hu => by
        have hj : j < 1 := by have := (List.getElem?_eq_some_iff.1 hu).1; simpa [ivl] using this
        obtain rfl : j = 0 := by omega
        rw [addr_add, (Has.new wr 3 #[.int .i64 m]).cell]
        simpa [ivl] using hu
      go_wp2_with (at_builtin; refine wpList_append_lies _ rfl _ _ 22 rfl (D + 1) 3 i0 (.int .i64 0) 1 8 Try.underlying22 hi hz0 hz1 hz2 rfl (by decide) (.slice M q c) q (ivl (List.replicate q m)) rfl HOW.out ⟨wr.heap.size, 0, none⟩ 1 1 (ivl [m]) rfl ?q1 HNEW.out (ivl_one _) ?q2 ?q3 ?q4 ?q5 _ rfl ?_)
      case q1 => rfl
      case q2 => omega
      case q3 => unfold maxLen; omega
      case q4 => omega
      case q5 => have := HQ.out.2.2.2.2; simp; omega
      rintro g1 cap1 w5 hown1 hgr1 hgg1 hlt1
      have hb5 : Below (D + 1) (wr.alloc (.cells #[.int .i64 m] 3)) w5 := grown_step hgr1 (by simp; omega) (fun b hb => (own_block HOW.out b hb).1)
      have H5 := Lib.hid (show Below W.heap.size W w5 ∧ Has w5 D 52 #[.int .i64 0, .int .i64 0, .int .i64 0, .bool false, .bool false, .slice M q c] ∧ Below D w2 w5 ∧ w5.ownsRow (D + 1) 3 1 (.slice (some ⟨g1, 0, none⟩) (q + 1) cap1) (List.replicate (q + 1) m).length (ivl (List.replicate (q + 1) m)) ∧ D + 1 ≤ w5.heap.size from by
        have hWD : W.heap.size + 1 < D := by have := HW2.out.2.2.1.lt; rw [← HD.out] at this; exact this
        have h1 : Below (D + 1) wr (wr.alloc (.cells #[.int .i64 m] 3)) := (below_one _ _).mono (by omega)
        have h2 := h1.trans hb5
        refine ⟨HQ.out.1.trans (h2.mono (by omega)), HQ.out.2.1.below h2 (by omega), HQ.out.2.2.1.trans (h2.mono (by omega)), ?_, by have := h2.size; omega⟩
        rw [List.length_replicate, List.replicate_succ']
        have : ivl (List.replicate q m ++ [m]) = ivl (List.replicate q m) ++ ivl [m] := by simp [ivl]
        rw [this]; exact hown1)
      have t5' : w5.cell? ⟨D, 5, none⟩ = some (.slice M q c) := H5.out.2.1.cell 5
      have tf5' := H5.out.2.1.frozen 5
      clear hb5 hown1 hgr1 hgg1 hlt1 t5 tf5 hDs
      go_wp2_with fail
      have H6 := Lib.hid (show Below W.heap.size W (w5.setCell ⟨D, 5, none⟩ (.slice (some ⟨g1, 0, none⟩) (q + 1) cap1)) ∧ Has (w5.setCell ⟨D, 5, none⟩ (.slice (some ⟨g1, 0, none⟩) (q + 1) cap1)) D 52 #[.int .i64 0, .int .i64 0, .int .i64 0, .bool false, .bool false, .slice (some ⟨g1, 0, none⟩) (q + 1) cap1] ∧ Below D w2 (w5.setCell ⟨D, 5, none⟩ (.slice (some ⟨g1, 0, none⟩) (q + 1) cap1)) ∧ (w5.setCell ⟨D, 5, none⟩ (.slice (some ⟨g1, 0, none⟩) (q + 1) cap1)).ownsRow (D + 1) 3 1 (.slice (some ⟨g1, 0, none⟩) (q + 1) cap1) (List.replicate (q + 1) m).length (ivl (List.replicate (q + 1) m)) ∧ D + 1 ≤ (w5.setCell ⟨D, 5, none⟩ (.slice (some ⟨g1, 0, none⟩) (q + 1) cap1)).heap.size from by
        have hWD : W.heap.size + 1 < D := by have := HW2.out.2.2.1.lt; rw [← HD.out] at this; exact this
        exact ⟨H5.out.1.setCell (by simp only; omega) _, H5.out.2.1.set 5 _, H5.out.2.2.1.setCell (Nat.le_refl _) _, own_far H5.out.2.2.2.1 (by simp) _, by simp [World.setCell]; exact H5.out.2.2.2.2⟩)
      go_roundg (n - (q + 1))
      case measure => omega
      case rel => exact ⟨q + 1, by omega, Nat.le_refl _, by go_num, some ⟨g1, 0, none⟩, cap1, H6⟩
end Go.Proofs.Ytmclchaalmonnaa
