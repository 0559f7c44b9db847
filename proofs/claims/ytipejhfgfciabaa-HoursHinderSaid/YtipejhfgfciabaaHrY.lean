/- Whether a set of groups can have what it needs: satisfied, the walk. -/
import Derived.Test.YtipejhfgfciabaaHrX
namespace Go.Proofs.Ytipejhfgfciabaa
open Go.RowKit Go.Shelf
attribute [local irreducible] wpQuiet
theorem below_set5 {W w : World} {D o B : Nat} {a b c d e : Value} (h : Below B W w) (hD : B ≤ D) : Below B W (set5 w D o a b c d e) := ((((h.setCell hD _).setCell hD _).setCell hD _).setCell hD _).setCell hD _
theorem has_set5_far {w : World} {D o k : Nat} {t : TypeId} {cs : Array Value} {a b c d e : Value} (h : Has w k t cs) (hg : k ≠ D) : Has (set5 w D o a b c d e) k t cs :=
  ((((h.far (p := ⟨D, o, none⟩) hg _).far (p := ⟨D, o + 1, none⟩) hg _).far (p := ⟨D, o + 2, none⟩) hg _).far (p := ⟨D, o + 3, none⟩) hg _).far (p := ⟨D, o + 4, none⟩) hg _
structure SS (W w : World) (x : Tt) (AH AG : Option Addr) (ch cg BG : Nat) (L : List Gr) : Prop where
  v : VB W w x AH AG ch cg
  gh : GH w BG L
  lt : W.heap.size < BG
section
variable {W w w' : World} {x : Tt} {AH AG : Option Addr} {ch cg BG : Nat} {L : List Gr}
theorem SS.step (h : SS W w x AH AG ch cg BG L) (hb : Below w.heap.size w w') : SS W w' x AH AG ch cg BG L := ⟨h.v.step hb, h.gh.below hb, h.lt⟩
theorem SS.drew (h : SS W w x AH AG ch cg BG L) : SS W w.drew x AH AG ch cg BG L := ⟨⟨h.v.b.drew, h.v.fx.drew⟩, h.gh, h.lt⟩
theorem SS.put (h : SS W w x AH AG ch cg BG L) {i : Nat} (hi : i < L.length) (g : Gr) : SS W (set5 w BG (i * 5) (.int .i64 g.days) (.int .i64 g.early) (.int .i64 g.late) (.int .i64 g.most) (.int .i64 g.credit)) x AH AG ch cg BG (L.set i g) :=
  ⟨⟨below_set5 h.v.b (Nat.le_of_lt h.lt), has_set5_far h.v.fx (Nat.ne_of_lt h.lt)⟩, h.gh.put hi g, h.lt⟩
theorem SS.setMost (h : SS W w x AH AG ch cg BG L) {i : Nat} (hi : i < L.length) (m : Int) : SS W (w.setCell ⟨BG, i * 5 + 3, none⟩ (.int .i64 m)) x AH AG ch cg BG (L.set i { L[i] with most := m }) :=
  ⟨⟨h.v.b.setCell (Nat.le_of_lt h.lt) _, h.v.fx.far (p := ⟨BG, i * 5 + 3, none⟩) (Nat.ne_of_lt h.lt) _⟩, h.gh.setMost hi m, h.lt⟩
end
theorem sat_no {x : Tt} {least l : List Int} {k : Nat} (hk : k < l.length) (h : mostOf x l[k] < least.getD l[k].toNat 0) : satP x least l = false := by
  unfold satP
  have : (l.all fun g => decide (least.getD g.toNat 0 ≤ mostOf x g)) = false := List.all_eq_false.2 ⟨_, List.getElem_mem hk, by simp only [decide_eq_true_eq]; omega⟩
  rw [this]; rfl
theorem sat_yes {x : Tt} {least l : List Int} (h : ∀ j (hj : j < l.length), least.getD l[j].toNat 0 ≤ mostOf x l[j]) : satP x least l = canP (narrow x least l) x.H.length startP (needT least l) := by
  unfold satP
  have : (l.all fun g => decide (least.getD g.toNat 0 ≤ mostOf x g)) = true := List.all_eq_true.2 (fun g hg => by
    obtain ⟨j, hj, rfl⟩ := List.getElem_of_mem hg
    simpa using h j hj)
  rw [this]; rfl
theorem cm_new {W wr : World} {x : Tt} {AH AG : Option Addr} {ch cg : Nat} {least l : List Int} {T : Int} (h : SS W wr x AH AG ch cg (W.heap.size + 1) (narG x least l)) (hr : TR W W.heap.size x AH AG) (hng : x.G.length ≤ 5) :
    let w9 := (((wr.setCell ⟨W.heap.size, 1, none⟩ (.slice (some ⟨W.heap.size + 1, 0, none⟩) x.G.length x.G.length)).alloc (.map #[] 0)).alloc (.cells #[.map (some wr.heap.size)] 138)).alloc (.cells #[.func (.func 100) #[] #[.pointer (some ⟨W.heap.size, 0, none⟩), .pointer (some ⟨wr.heap.size + 1, 0, none⟩), .pointer (some ⟨wr.heap.size + 1 + 1, 0, none⟩)]] 139)
    CM w9 W.heap.size (wr.heap.size + 1) (wr.heap.size + 1 + 1) wr.heap.size (narrow x least l) AH (some ⟨W.heap.size + 1, 0, none⟩) ch x.G.length T 0 ∧ Below W.heap.size W w9 := by
  intro w9
  have hB : Below W.heap.size W w9 := (((h.v.b.setCell (p := ⟨W.heap.size, 1, none⟩) (by simp) _).alloc (by simp; have := h.v.fx.lt; omega) _).alloc (by simp; have := h.v.fx.lt; omega) _).alloc (by simp; have := h.v.fx.lt; omega) _
  have hw9 : w9 = (((wr.setCell ⟨W.heap.size, 1, none⟩ (.slice (some ⟨W.heap.size + 1, 0, none⟩) x.G.length x.G.length)).alloc (.map #[] 0)).alloc (.cells #[.map (some wr.heap.size)] 138)).alloc (.cells #[.func (.func 100) #[] #[.pointer (some ⟨W.heap.size, 0, none⟩), .pointer (some ⟨wr.heap.size + 1, 0, none⟩), .pointer (some ⟨wr.heap.size + 1 + 1, 0, none⟩)]] 139) := rfl
  have fx1 : Has (wr.setCell ⟨W.heap.size, 1, none⟩ (.slice (some ⟨W.heap.size + 1, 0, none⟩) x.G.length x.G.length)) W.heap.size 25 (ttc (narrow x least l) AH (some ⟨W.heap.size + 1, 0, none⟩) ch x.G.length) := by
    have := h.v.fx.set 1 (.slice (some ⟨W.heap.size + 1, 0, none⟩) x.G.length x.G.length)
    have e : (narrow x least l).G.length = x.G.length := narG_len x least l
    unfold ttc
    rw [e]
    exact this
  have gh1 : GH (wr.setCell ⟨W.heap.size, 1, none⟩ (.slice (some ⟨W.heap.size + 1, 0, none⟩) x.G.length x.G.length)) (W.heap.size + 1) (narG x least l) := by
    obtain ⟨cur, h1, h2⟩ := h.gh
    exact ⟨cur, h1.far (p := ⟨W.heap.size, 1, none⟩) (by show ¬ W.heap.size + 1 = W.heap.size; omega) _, h2⟩
  have hsz : (wr.setCell ⟨W.heap.size, 1, none⟩ (.slice (some ⟨W.heap.size + 1, 0, none⟩) x.G.length x.G.length)).heap.size = wr.heap.size := by simp
  rw [hw9] at hB ⊢
  clear hw9 w9
  have mm1 := Memo.new (wr.setCell ⟨W.heap.size, 1, none⟩ (.slice (some ⟨W.heap.size + 1, 0, none⟩) x.G.length x.G.length)) (cInv (narrow x least l) T)
  rw [hsz] at mm1
  generalize wr.setCell ⟨W.heap.size, 1, none⟩ (.slice (some ⟨W.heap.size + 1, 0, none⟩) x.G.length x.G.length) = w1 at *
  have b3 : Below w1.heap.size w1 (((w1.alloc (.map #[] 0)).alloc (.cells #[.map (some wr.heap.size)] 138)).alloc (.cells #[.func (.func 100) #[] #[.pointer (some ⟨W.heap.size, 0, none⟩), .pointer (some ⟨wr.heap.size + 1, 0, none⟩), .pointer (some ⟨wr.heap.size + 1 + 1, 0, none⟩)]] 139)) := ((below_one w1 _).alloc (by simp) _).alloc (by simp; omega) _
  have b2 : Below (w1.alloc (.map #[] 0)).heap.size (w1.alloc (.map #[] 0)) (((w1.alloc (.map #[] 0)).alloc (.cells #[.map (some wr.heap.size)] 138)).alloc (.cells #[.func (.func 100) #[] #[.pointer (some ⟨W.heap.size, 0, none⟩), .pointer (some ⟨wr.heap.size + 1, 0, none⟩), .pointer (some ⟨wr.heap.size + 1 + 1, 0, none⟩)]] 139)) := (below_one _ _).alloc (by simp) _
  refine ⟨⟨fx1.below b3 fx1.lt, (has_newAt (by simp [hsz])).alloc _, has_newAt (by simp [hsz]), ⟨fun k hk => ?_, fun k hk => ?_, hr.lh, ?_⟩, mm1.imp (b2.block _ mm1.lt) (fun _ _ h => h)⟩, hB⟩
  · obtain ⟨g, o, e, hg, c⟩ := hr.h k hk
    exact ⟨g, o, e, by have := hB.size; omega, fun j hj => (hB.cell (p := ⟨g, _, none⟩) hg).trans (c j hj)⟩
  · have hg9 := gh1.below b3
    refine ⟨W.heap.size + 1, 0, rfl, hg9.lt, fun j hj => ?_⟩
    have := hg9.cell (k := k) hk hj
    rw [Nat.zero_add]
    exact this
  · show (narG x least l).length ≤ _
    rw [narG_len]; omega
theorem sum_start : sumG startP = 0 := by decide
set_option maxRecDepth 100000 in
set_option maxHeartbeats 2000000 in
theorem satisfied_any (x : Tt) (AH AG : Option Addr) (ch cg : Nat) (least : List Int) (A1 : Option Addr) (c1 : Nat) (l : List Int) (A2 : Option Addr) (c2 : Nat) (W : World) (hr : TR W W.heap.size x AH AG) (hv : VT x) (h1 : IRow W W.heap.size A1 least) (h2 : IRow W W.heap.size A2 l)
    (hlb : leastB x least = true) (hl : ∀ g ∈ l, ∃ i : Nat, g = (i : Int) ∧ i < x.G.length) (hl5 : l.length ≤ 5) :
    Calls Try.prog 87 #[ttv x AH AG ch cg, .slice A1 least.length c1, .slice A2 l.length c2] W (BoolPost (satP x least l) W) := by
  have hng := hv.ng
  have hmk := make_groups x.G.length (by omega) (W.alloc (.cells (ttc x AH AG ch cg) 25))
  have HS0 : Hid (SS W ((W.alloc (.cells (ttc x AH AG ch cg) 25)).alloc (.cells (madeCells #[.int .i64 0, .int .i64 0, .int .i64 0, .int .i64 0, .int .i64 0] (x.G.length * 5)) 49)) x AH AG ch cg (W.heap.size + 1) (narG x least (l.take 0))) := by
    have h := made_gh (W.alloc (.cells (ttc x AH AG ch cg) 25)) x.G.length
    refine ⟨⟨(below_one W _).alloc (by simp) _, (Has.new W 25 _).alloc _⟩, ?_, by omega⟩
    rw [List.take_zero, narG_nil]
    simpa using h
  have HV := Lib.hid (And.intro hv (And.intro hr (And.intro h1 h2)))
  have HL := Lib.hid (And.intro hl (leastB_at hlb))
  have HNB := Lib.hid (fun k => needT_bd hlb (l.take k) (fun g hg => hl g (List.mem_of_mem_take hg)))
  have HVN := Lib.hid (vt_narrow (l := l) hv hlb)
  have HLL := Lib.hid (leastB_at hlb).1
  clear hr hv h1 h2 hlb hl
  have hmix : Try.prog.follows .mixedOrders = true := by kernel_rfl
  have hmf : ∀ (fn : Fn) (first cap : Array Value) (w : World), (Instr.makeFunc fn first cap).run Try.prog w = .ok (.func fn first cap) w := fun _ _ _ _ => rfl
  have hmm := @run_makeMap Try.prog
  unfold ttv at *
  go_enter Try.func87, Try.ntmps87
  go_upto_region 2 with fail
  generalize (W.alloc (.cells (ttc x AH AG ch cg) 25)).alloc (.cells (madeCells #[.int .i64 0, .int .i64 0, .int .i64 0, .int .i64 0, .int .i64 0] (x.G.length * 5)) 49) = w0 at HS0 ⊢
  clear hmk
  go_wp2_with fail
  go_loopg [8, 19] l.length (fun gk mv i wr => ∃ k : Nat, k ≤ l.length ∧ l.length - k ≤ gk ∧ i = .int .i64 k ∧ mv = .int .i64 (needT least (l.take k)) ∧ Hid (SS W wr x AH AG ch cg (W.heap.size + 1) (narG x least (l.take k)) ∧ ∀ j (hj : j < l.length), j < k → least.getD l[j].toNat 0 ≤ mostOf x l[j]))
  case atStart => exact ⟨0, Nat.zero_le _, Nat.le_refl _, rfl, rfl, Lib.hid ⟨HS0.out, fun j _ h => absurd h (by omega)⟩⟩
  case round =>
    clear HS0
    obtain ⟨k, hk, hgk, rfl, rfl, HW⟩ := hrel
    by_cases hlt : k < l.length
    rotate_left
    · have hge : ¬ (k : Int) < l.length := by omega
      have hke : k = l.length := by omega
      have HSF := Lib.hid (show SS W wr x AH AG ch cg (W.heap.size + 1) (narG x least l) by
        have h := HW.out.1
        rw [hke, List.take_length] at h
        exact h)
      have HE := Lib.hid (sat_yes (x := x) (least := least) (l := l) (fun j hj => HW.out.2 j hj (by omega)))
      have hT : needT least (l.take k) = needT least l := by rw [hke, List.take_length]
      have HTB := Lib.hid (show 0 ≤ needT least l by have := HNB.out k; rw [hT] at this; exact this.1)
      rw [hT]
      obtain ⟨T, hTe⟩ : ∃ T, T = needT least l := ⟨_, rfl⟩
      rw [← hTe] at HE HTB ⊢
      have x1 : wr.cell? ⟨W.heap.size, 1, none⟩ = some (.slice AG x.G.length cg) := HSF.out.v.fx.cell 1
      have xf := HSF.out.v.fx.frozen 1
      have xl := HSF.out.v.fx.lt
      clear hT hTe hke HW HLL HNB HL
      go_upto_region 15 with fail
      clear x1 xf xl
      have HCM := Lib.hid (cm_new (T := T) HSF.out HV.out.2.1 hng)
      have hsl : W.heap.size < wr.heap.size := HSF.out.v.fx.lt
      simp only at HCM
      generalize (((wr.setCell ⟨W.heap.size, 1, none⟩ (.slice (some ⟨W.heap.size + 1, 0, none⟩) x.G.length x.G.length)).alloc (.map #[] 0)).alloc (.cells #[.map (some wr.heap.size)] 138)).alloc (.cells #[.func (.func 100) #[] #[.pointer (some ⟨W.heap.size, 0, none⟩), .pointer (some ⟨wr.heap.size + 1, 0, none⟩), .pointer (some ⟨wr.heap.size + 1 + 1, 0, none⟩)]] 139) = w8 at HCM ⊢
      obtain ⟨s1, hs1⟩ : ∃ s, s = wr.heap.size + 1 := ⟨_, rfl⟩
      obtain ⟨s0, hs0⟩ : ∃ s, s = wr.heap.size := ⟨_, rfl⟩
      rw [← hs1] at HCM ⊢
      rw [← hs0] at HCM
      have HS0 : Hid (W.heap.size < s0) := Lib.hid (by omega)
      clear hs0 hs1 hsl HSF
      have H9 := Lib.hid (HCM.out.1.step (Below.refl w8.heap.size w8).drew)
      have HB9 := Lib.hid HCM.out.2.drew
      have K9 : Hid (w8.drew.cell? ⟨s1 + 1, 0, none⟩ = some (.func (.func 100) #[] #[.pointer (some ⟨W.heap.size, 0, none⟩), .pointer (some ⟨s1, 0, none⟩), .pointer (some ⟨s1 + 1, 0, none⟩)])) := Lib.hid (H9.out.fc.cell 0)
      clear HCM
      refine wp_region_late (fun w' : World => w'.cell? ⟨s1 + 1, 0, none⟩ = some (.func (.func 100) #[] #[.pointer (some ⟨W.heap.size, 0, none⟩), .pointer (some ⟨s1, 0, none⟩), .pointer (some ⟨s1 + 1, 0, none⟩)])) [] (by kernel_rfl) ?_
      generalize w8.drew = w9 at H9 HB9 K9 ⊢
      refine wpLate_take (i := 0) (oi := ?oi0r15_) (v := ?v0r15_) [3, 4] ?hi0r15_ (by kernel_rfl) (by kernel_rfl) (by kernel_rfl) (by kernel_rfl) (by kernel_rfl) ?hQ0r15_ (Or.inl ⟨?hw0r15_, ?hy0r15_⟩) K9.out ?rest0r15_
      case hi0r15_ => (simp only [List.getElem?_toArray, List.getElem?_cons_zero]; rfl)
      case hQ0r15_ => exact fun _ _ _ h => h
      case hw0r15_ => rfl
      case hy0r15_ =>
        intro w' hSw
        have r0 := hSw
        go_simp
        try exact rfl
      try simp only [Act.put, List.setIfInBounds_toArray, List.set_cons_zero, List.set_cons_succ]
      refine wpLate_take (i := 2) (oi := ?oi2r15_) (v := ?v2r15_) [3, 4] ?hi2r15_ (by kernel_rfl) (by kernel_rfl) (by kernel_rfl) (by kernel_rfl) (by kernel_rfl) ?hQ2r15_ (Or.inl ⟨?hw2r15_, ?hy2r15_⟩) K9.out ?rest2r15_
      case hi2r15_ => (simp only [List.getElem?_toArray, List.getElem?_cons_zero, List.getElem?_cons_succ]; rfl)
      case hQ2r15_ => exact fun _ _ _ h => h
      case hw2r15_ => rfl
      case hy2r15_ =>
        intro w' hSw
        have r0 := hSw
        go_simp
        try exact rfl
      try simp only [Act.put, List.setIfInBounds_toArray, List.set_cons_zero, List.set_cons_succ]
      refine wpLate_one (i := 1) (o := ?o1r15_) (by kernel_rfl) ?ho1r15_ ?hk1r15_
      case ho1r15_ => (simp only [List.getElem?_toArray, List.getElem?_cons_zero, List.getElem?_cons_succ]; rfl)
      intro K hK
      go_simp
      refine (start_any _).mono ?_
      rintro e W3 ⟨rfl, rfl⟩
      have H3 := Lib.hid (H9.out.step (below_one w9 (.cells (plc startP) 75)))
      have K3 : Hid ((w9.alloc (.cells (plc startP) 75)).cell? ⟨s1 + 1, 0, none⟩ = some (.func (.func 100) #[] #[.pointer (some ⟨W.heap.size, 0, none⟩), .pointer (some ⟨s1, 0, none⟩), .pointer (some ⟨s1 + 1, 0, none⟩)])) := Lib.hid (H3.out.fc.cell 0)
      have B3 := Lib.hid (HB9.out.trans ((below_one w9 (.cells (plc startP) 75)).mono HB9.out.size))
      generalize w9.alloc (.cells (plc startP) 75) = W3 at H3 K3 B3 ⊢
      go_simp
      refine hK.out _ _ (fun h => K3.out) ?_
      clear hK K
      try simp only [Act.put, List.setIfInBounds_toArray, List.set_cons_zero, List.set_cons_succ]
      refine wpLate_one (i := 3) (o := ?o3r15_) (by kernel_rfl) ?ho3r15_ ?hk3r15_
      case ho3r15_ => (simp only [List.getElem?_toArray, List.getElem?_cons_zero, List.getElem?_cons_succ]; rfl)
      intro K hK
      go_simp
      have HCAN := Lib.hid (can_any (narrow x least l) AH _ ch _ _ _ _ _ T HVN.out x.H.length startP W3 0 (vp_start _) (by show 0 + x.H.length = x.H.length; omega) (by rw [sum_start]; have := HTB.out; omega) H3.out (by have := HV.out.1.nh; have := cntB_le (n := x.H.length) (by omega); omega))
      rw [sum_start, Int.sub_zero, ← HE.out] at HCAN
      refine HCAN.out.mono ?_
      rintro e W4 ⟨rfl, ho4, hm4⟩
      have K4 : Hid (W4.cell? ⟨s1 + 1, 0, none⟩ = some (.func (.func 100) #[] #[.pointer (some ⟨W.heap.size, 0, none⟩), .pointer (some ⟨s1, 0, none⟩), .pointer (some ⟨s1 + 1, 0, none⟩)])) := Lib.hid (hm4.fc.cell 0)
      have B4 : Hid (Below W.heap.size W W4) := Lib.hid ⟨ho4.os.trans B3.out.os, ho4.tape.trans B3.out.tape, ho4.output.trans B3.out.output, Nat.le_trans B3.out.size ho4.size, fun k hk => (ho4.block k (by have := B3.out.size; omega) (fun e => by have e' : k = s0 := e; have := HS0.out; omega)).trans (B3.out.block k hk)⟩
      clear ho4 hm4 HCAN
      go_simp
      refine hK.out _ _ (fun h => K4.out) ?_
      clear hK K
      try simp only [Act.put, List.setIfInBounds_toArray, List.set_cons_zero, List.set_cons_succ]
      refine wpLate_one (i := 4) (o := ?o4r15_) (by kernel_rfl) ?ho4r15_ ?hk4r15_
      case ho4r15_ => (simp only [List.getElem?_toArray, List.getElem?_cons_zero, List.getElem?_cons_succ]; rfl)
      intro K hK
      go_simp
      refine hK.out _ _ (fun h => K4.out) ?_
      clear hK K
      try simp only [Act.put, List.setIfInBounds_toArray, List.set_cons_zero, List.set_cons_succ]
      refine wpLate_done (by kernel_rfl) ?_ _
      try simp only [Act.put, List.setIfInBounds_toArray, List.set_cons_zero, List.set_cons_succ]
      go_wp2_with fail
      go_ret
      exact ⟨rfl, B4.out⟩
    have hlt2 : (k : Int) < l.length := by omega
    obtain ⟨g2, o2, hg2, -, hc2⟩ := (HV.out.2.2.2.below HW.out.1.v.b) k hlt
    obtain ⟨i, hgi, hix⟩ := HL.out.1 l[k] (List.getElem_mem hlt)
    rw [hgi] at hc2
    have hil : i < least.length := by have := HLL.out; omega
    obtain ⟨gg, og, hgg, hggl, hcg⟩ := HV.out.2.1.g i hix
    obtain ⟨gl, ol, hgl, hgll, hcl⟩ := HV.out.2.2.1 i (by omega)
    obtain ⟨v, hve⟩ : ∃ v, v = least[i]'(by omega) := ⟨_, rfl⟩
    obtain ⟨b, hbe⟩ : ∃ b, b = x.G[i] := ⟨_, rfl⟩
    rw [← hve] at hcl
    rw [← hbe] at hcg
    have hvd : least.getD i 0 = v := by rw [hve]; simp [List.getD, show i < least.length by omega]
    have hvb := HL.out.2.2 i hix
    rw [hvd] at hvb
    have HX := Lib.hid (And.intro hgi (And.intro hvd (show mostOf x (l[k]) = b.most by rw [hgi, hbe]; unfold mostOf; simp [hix])))
    have HNG := Lib.hid (show narG x least (l.take (k + 1)) = (narG x least (l.take k)).set i { b with most := v } by
      rw [List.take_succ_eq_append_getElem hlt, hgi, narG_snoc _ _ _ _ hix, hvd, ← hbe])
    have HNT := Lib.hid (show needT least (l.take (k + 1)) = needT least (l.take k) + v by
      rw [List.take_succ_eq_append_getElem hlt, needT_snoc, hgi]; simp only [Int.toNat_natCast]; rw [hvd])
    have CG : Hid (∀ w, Below W.heap.size W w → ∀ j, j < 5 → w.cell? ⟨gg, og + i * 5 + j, none⟩ = (grc b)[j]?) := fun w hb j hj => (hb.cell (p := ⟨gg, _, none⟩) hggl).trans (hcg j hj)
    have CLs : Hid (∀ w, Below W.heap.size W w → w.cell? ⟨gl, ol + i, none⟩ = some (.int .i64 v)) := fun w hb => (hb.cell (p := ⟨gl, _, none⟩) hgll).trans hcl
    have hnl := narG_len x least (l.take k)
    have hnb := HNB.out k
    have hix2 : (i : Int) < x.G.length := by omega
    have hix3 : (i : Int) < least.length := by omega
    obtain ⟨T, hT⟩ : ∃ T, T = needT least (l.take k) := ⟨_, rfl⟩
    rw [← hT] at HNT hnb ⊢
    obtain ⟨L, hL⟩ : ∃ L, L = narG x least (l.take k) := ⟨_, rfl⟩
    have HW1 := Lib.hid (show SS W wr x AH AG ch cg (W.heap.size + 1) L by rw [hL]; exact HW.out.1)
    rw [← hL] at HNG hnl
    subst hg2 hgg hgl
    clear hT hL hcg hcl hggl hgll hgi hve hbe hvd
    go_upto_region 5 with fail
    clear hc2
    haveI hne : Nonempty (Cls (fun w' => SS W w' x AH (some ⟨gg, og, none⟩) ch cg (W.heap.size + 1) L)) := ⟨⟨_, HW1.out.drew⟩⟩
    have HD := Lib.hid (SS.drew HW1.out)
    have hx1 : ∀ pc : Cls (fun w' => SS W w' x AH (some ⟨gg, og, none⟩) ch cg (W.heap.size + 1) L), pc.w.cell? ⟨W.heap.size, 1, none⟩ = some (.slice (some ⟨gg, og, none⟩) x.G.length cg) := fun pc => pc.h.v.fx.cell 1
    have hx2 : ∀ pc : Cls (fun w' => SS W w' x AH (some ⟨gg, og, none⟩) ch cg (W.heap.size + 1) L), pc.w.cell? ⟨gl, ol + i, none⟩ = some (.int .i64 v) := fun pc => CLs.out _ pc.h.v.b
    have hx3 : ∀ pc : Cls (fun w' => SS W w' x AH (some ⟨gg, og, none⟩) ch cg (W.heap.size + 1) L), pc.w.cell? ⟨gg, og + i * 5 + 3, none⟩ = some (.int .i64 b.most) := fun pc => CG.out _ pc.h.v.b 3 (by omega)
    refine wp_region_cls (fun w' => SS W w' x AH (some ⟨gg, og, none⟩) ch cg (W.heap.size + 1) L) hmix (by kernel_rfl) HD.out ?_
    repeat (quiet_step (fail))
    refine wpQuiet_nil ?_
    rintro w7 ⟨⟨_, hw7⟩, rfl⟩
    have H7 := Lib.hid hw7
    clear hx1 hx2 hx3 hne hw7 HD HW1
    try simp only []
    by_cases hgt : b.most < v
    · have HE : Hid (satP x least l = false) := Lib.hid (sat_no hlt (by rw [HX.out.2.2, HX.out.1]; simp only [Int.toNat_natCast]; rw [HX.out.2.1]; exact hgt))
      go_wp2_with fail
      go_ret
      exact ⟨ret_bool HE.out.symm, H7.out.v.b⟩
    have x1 : w7.cell? ⟨W.heap.size, 1, none⟩ = some (.slice (some ⟨gg, og, none⟩) x.G.length cg) := H7.out.v.fx.cell 1
    have a0 : w7.cell? ⟨gg, og + i * 5, none⟩ = some (.int .i64 b.days) := CG.out _ H7.out.v.b 0 (by omega)
    have a1 : w7.cell? ⟨gg, og + i * 5 + 1, none⟩ = some (.int .i64 b.early) := CG.out _ H7.out.v.b 1 (by omega)
    have a2 : w7.cell? ⟨gg, og + i * 5 + 2, none⟩ = some (.int .i64 b.late) := CG.out _ H7.out.v.b 2 (by omega)
    have a3 : w7.cell? ⟨gg, og + i * 5 + 3, none⟩ = some (.int .i64 b.most) := CG.out _ H7.out.v.b 3 (by omega)
    have a4 : w7.cell? ⟨gg, og + i * 5 + 4, none⟩ = some (.int .i64 b.credit) := CG.out _ H7.out.v.b 4 (by omega)
    have hiL : i < L.length := by rw [hnl]; exact hix
    obtain ⟨o, ho⟩ : ∃ o, o = L[i] := ⟨_, rfl⟩
    have d0 : w7.cell? ⟨W.heap.size + 1, i * 5, none⟩ = some (.int .i64 o.days) := by have := H7.out.gh.cell hiL (j := 0) (by omega); rw [← ho] at this; exact this
    have d1 : w7.cell? ⟨W.heap.size + 1, i * 5 + 1, none⟩ = some (.int .i64 o.early) := by have := H7.out.gh.cell hiL (j := 1) (by omega); rw [← ho] at this; exact this
    have d2 : w7.cell? ⟨W.heap.size + 1, i * 5 + 2, none⟩ = some (.int .i64 o.late) := by have := H7.out.gh.cell hiL (j := 2) (by omega); rw [← ho] at this; exact this
    have d3 : w7.cell? ⟨W.heap.size + 1, i * 5 + 3, none⟩ = some (.int .i64 o.most) := by have := H7.out.gh.cell hiL (j := 3) (by omega); rw [← ho] at this; exact this
    have d4 : w7.cell? ⟨W.heap.size + 1, i * 5 + 4, none⟩ = some (.int .i64 o.credit) := by have := H7.out.gh.cell hiL (j := 4) (by omega); rw [← ho] at this; exact this
    have df := H7.out.gh.frozen
    have dl := H7.out.gh.lt
    go_upto_region 8 with fail
    change Code.wp _ _ _ _ (set5 w7 (W.heap.size + 1) (i * 5) (.int .i64 b.days) (.int .i64 b.early) (.int .i64 b.late) (.int .i64 b.most) (.int .i64 b.credit))
    have H8 := Lib.hid (H7.out.put hiL b)
    clear x1 a0 a1 a2 a3 a4 d0 d1 d2 d3 d4 df dl H7 ho
    generalize set5 w7 (W.heap.size + 1) (i * 5) (.int .i64 b.days) (.int .i64 b.early) (.int .i64 b.late) (.int .i64 b.most) (.int .i64 b.credit) = w8 at H8 ⊢
    have hiL2 : i < (L.set i b).length := by simpa using hiL
    have a0 : w8.cell? ⟨gl, ol + i, none⟩ = some (.int .i64 v) := CLs.out _ H8.out.v.b
    have d3 : w8.cell? ⟨W.heap.size + 1, i * 5 + 3, none⟩ = some (.int .i64 b.most) := by have := H8.out.gh.cell hiL2 (j := 3) (by omega); rw [List.getElem_set_self] at this; exact this
    have df := H8.out.gh.frozen
    have dl := H8.out.gh.lt
    have H9 := Lib.hid (H8.out.setMost hiL2 v)
    go_upto_region 9 with fail
    clear a0 d3 df dl H8
    generalize w8.setCell ⟨W.heap.size + 1, i * 5 + 3, none⟩ (.int .i64 v) = w9 at H9 ⊢
    have H10 := Lib.hid (show SS W w9 x AH (some ⟨gg, og, none⟩) ch cg (W.heap.size + 1) (narG x least (l.take (k + 1))) by
      have h := H9.out
      rw [List.getElem_set_self, List.set_set] at h
      rw [HNG.out]; exact h)
    clear H9
    have a0 : w9.cell? ⟨gl, ol + i, none⟩ = some (.int .i64 v) := CLs.out _ H10.out.v.b
    have hkl : (l.take k).length ≤ 5 := by simp; omega
    have e1 : IntKind.i64.wrap (T + v) = T + v := IntWalk.i64_in _ (by omega)
    go_wp2_with fail
    go_roundg (l.length - (k + 1))
    case measure => omega
    case rel =>
      refine ⟨k + 1, by omega, Nat.le_refl _, by go_num, by rw [HNT.out], Lib.hid ⟨H10.out, fun j hj hjk => ?_⟩⟩
      rcases Nat.lt_or_ge j k with h | h
      · exact HW.out.2 j hj h
      · have : j = k := by omega
        subst this
        rw [HX.out.2.2, HX.out.1]; simp only [Int.toNat_natCast]; rw [HX.out.2.1]; omega
end Go.Proofs.Ytipejhfgfciabaa
