/- Contracts: Ranks. -/
import Derived.Test.YtmclchaalmonnaaScV
import Derived.Test.YtmclchaalmonnaaOpA
namespace Go.Proofs.Ytmclchaalmonnaa
open Go.RowKit Go.Lib
/-- the standings, as far as they are laid -/
structure RKW (W w : World) (p : Nat) (ws : List (Int × Int)) : Prop where
  b : Below W.heap.size W w
  fp : Has w p 82 (pra ws)
  hp : W.heap.size ≤ p
section
variable {W w w' : World} {p q : Nat} {ws : List (Int × Int)} {rs : List Int}
theorem RKW.step (h : RKW W w p ws) (hb : Below w.heap.size w w') : RKW W w' p ws := ⟨h.b.trans (hb.mono h.b.size), h.fp.below hb h.fp.lt, h.hp⟩
theorem RKW.set (h : RKW W w p ws) {k : Nat} (hk : k < ws.length) (a b : Int) : RKW W ((w.setCell ⟨p, k * 2, none⟩ (.int .i64 a)).setCell ⟨p, k * 2 + 1, none⟩ (.int .i64 b)) p (ws.set k (a, b)) := by
  refine ⟨(h.b.setCell h.hp _).setCell h.hp _, ?_, h.hp⟩
  rw [← pra_set _ _ hk]
  exact (h.fp.set _ _).set _ _
/-- and the places -/
structure RKQ (W w : World) (p q : Nat) (ws : List (Int × Int)) (rs : List Int) : Prop where
  v : RKW W w p ws
  fq : Has w q 3 (ils rs)
  pq : p < q
theorem RKQ.step (h : RKQ W w p q ws rs) (hb : Below w.heap.size w w') : RKQ W w' p q ws rs := ⟨h.v.step hb, h.fq.below hb h.fq.lt, h.pq⟩
theorem RKQ.set (h : RKQ W w p q ws rs) (k : Nat) (a : Int) : RKQ W (w.setCell ⟨q, k, none⟩ (.int .i64 a)) p q ws (rs.set k a) := by
  have h1 := h.v.hp
  have h2 := h.pq
  exact ⟨⟨h.v.b.setCell (by simp only; omega) _, h.v.fp.far (by simp only; omega) _, h.v.hp⟩, by rw [← ils_set]; exact h.fq.set _ _, h.pq⟩
end
theorem places_done {l : List St} {rs : List Int} (h : rs.length = l.length) (h2 : ∀ i (hi : i < l.length), rs[i]? = some (plP l[i] l)) : rs = l.map fun s => plP s l := by
  apply List.ext_getElem
  · simpa using h
  · intro i h1 h3
    have hi : i < l.length := by simpa using h3
    have := h2 i hi
    rw [List.getElem?_eq_getElem h1] at this
    simpa using this
set_option maxRecDepth 100000 in
set_option maxHeartbeats 1000000 in
theorem Ranks_any (l : List Sc) (A : Option Addr) (k0 : Nat) (W : World) (ha : ScRow W W.heap.size A l) (hl : l.length ≤ big) :
    Calls Try.prog 19 #[.slice A l.length k0] W (RIPost (ranksR l) W) := by
  have HR : Hid (ranksR l = if 40 < l.length then ([], 3) else (ranksP l, 0)) := Lib.hid rfl
  have HA := Lib.hid ha
  have hl' : l.length ≤ 9223372036854775807 := hl
  obtain ⟨X, hX⟩ : ∃ X, X = ranksR l := ⟨_, rfl⟩
  rw [← hX] at HR ⊢
  clear ha hl hX
  by_cases h40 : 40 < l.length
  · have HE : Hid (X = ([], 3)) := Lib.hid (by rw [HR.out, if_pos h40])
    have h4 : (40 : Int) < l.length := by omega
    go_enter Try.func19, Try.ntmps19
    go_wp2_with fail
    refine bodyPost_ret (v := .tuple #[.slice none 0 0, .int .i64 3]) (by simp [results, Try.results19, go_sem]) rfl ?_
    exact ⟨none, 0, by rw [HE.out]; rfl, fun k hk => by rw [HE.out] at hk; exact absurd hk (by simp), fun g o h => (by cases h), Below.refl _ _⟩
  have HE : Hid (X = (ranksP l, 0)) := Lib.hid (by rw [HR.out, if_neg h40])
  have h4 : ¬ (40 : Int) < l.length := by omega
  have HST := Lib.hid (fun x w => standingOf_any x w)
  have HPL := Lib.hid (fun (s : St) (ss : List St) p c w (h : StRow w w.heap.size (some ⟨p, 0, none⟩) ss) (hl : ss.length ≤ 1000000) => place_any s ss (some ⟨p, 0, none⟩) c w h hl)
  unfold StPost at HST
  unfold IntPost at HPL
  unfold scv at HST
  unfold stv at HST HPL
  have mk := make_sts l.length (by omega) W
  have MK2 := Lib.hid (fun w => make_ints l.length (by omega) w)
  clear HR
  go_enter Try.func19, Try.ntmps19
  go_upto_region 4 with fail
  have H1 : Hid (RKW W (W.alloc (.cells (pra (List.replicate l.length (0, 0))) 82)) W.heap.size (List.replicate l.length (0, 0))) := Lib.hid ⟨below_one _ _, Has.new _ _ _, Nat.le_refl _⟩
  generalize W.alloc (.cells (pra (List.replicate l.length (0, 0))) 82) = w1 at H1 ⊢
  clear mk
  obtain ⟨p, hp⟩ : ∃ p, p = W.heap.size := ⟨_, rfl⟩
  rw [← hp] at H1
  try rw [← hp]
  have HP := Lib.hid hp
  clear hp
  go_wp2_with fail
  go_loopg [18] l.length (fun gk i wr => ∃ k : Nat, k ≤ l.length ∧ l.length - k ≤ gk ∧ i = .int .i64 k ∧ ∃ ws, Hid (RKW W wr p ws ∧ Wr stOf stp l k ws))
  case atStart => exact ⟨0, Nat.zero_le _, Nat.le_refl _, rfl, _, Lib.hid ⟨H1.out, Wr.start _ _ _⟩⟩
  case round =>
    clear H1
    obtain ⟨k, hk, hgk, rfl, ws, HW⟩ := hrel
    by_cases hlt : k < l.length
    rotate_left
    · have hge : ¬ (k : Int) < l.length := by omega
      have HF : Hid (ws = (l.map stOf).map stp) := Lib.hid ((show k = l.length by omega) ▸ HW.out.2 |>.done)
      have H2 := Lib.hid HW.out.1
      clear HW hk hgk hlt HST
      have hws := HF.out
      subst hws
      clear HF
      have mk2 := MK2.out wr
      go_upto_region 10 with fail
      have H3 : Hid (RKQ W (wr.alloc (.cells (ils (List.replicate l.length 0)) 3)) p wr.heap.size ((l.map stOf).map stp) (List.replicate l.length 0)) := Lib.hid ⟨H2.out.step (below_one _ _), Has.new _ _ _, H2.out.fp.lt⟩
      generalize wr.alloc (.cells (ils (List.replicate l.length 0)) 3) = w3 at H3 ⊢
      generalize wr.heap.size = q at H3 ⊢
      clear mk2 MK2 H2
      go_wp2_with fail
      clear hge
      go_loopg [34] l.length (fun gk i wr => ∃ k : Nat, k ≤ l.length ∧ l.length - k ≤ gk ∧ i = .int .i64 k ∧ ∃ rs, Hid (RKQ W wr p q ((l.map stOf).map stp) rs ∧ rs.length = l.length ∧ ∀ i (hi : i < (l.map stOf).length), i < k → rs[i]? = some (plP (l.map stOf)[i] (l.map stOf))))
      case atStart => exact ⟨0, Nat.zero_le _, Nat.le_refl _, rfl, _, Lib.hid ⟨H3.out, by simp, fun i _ h => absurd h (by omega)⟩⟩
      case round =>
        clear H3
        obtain ⟨k, hk, hgk, rfl, rs, HW⟩ := hrel
        by_cases hlt : k < l.length
        rotate_left
        · have hge : ¬ (k : Int) < l.length := by omega
          have HF : Hid (rs = ranksP l) := Lib.hid (places_done (l := l.map stOf) (by rw [HW.out.2.1]; simp) (fun i hi => HW.out.2.2 i hi (by simp at hi; omega)))
          go_wp2_with fail
          try simp only [Exit.inBlock, Exit.then]
          refine bodyPost_ret (v := .tuple #[.slice (some ⟨q, 0, none⟩) l.length l.length, .int .i64 0]) (by simp [results, Try.results19, go_sem]) rfl ?_
          have hw := HW.out.1
          have hl1 : (ranksP l).length = l.length := by simp [ranksP]
          have hpq := hw.pq
          have hpw := HP.out
          have hfq := hw.fq
          rw [HF.out] at hfq
          refine ⟨some ⟨q, 0, none⟩, l.length, by rw [HE.out, hl1], fun k hk => ⟨q, 0, rfl, by omega, hfq.lt, ?_⟩, fun g o e => ?_, hw.v.b⟩
          · have hk' : k < (ranksP l).length := by rw [HE.out] at hk; exact hk
            rw [hfq.cell, Nat.zero_add, ils_at hk']
            congr 2
            simp [HE.out]
          · cases e
            exact ⟨by omega, rfl, by rw [HE.out]; exact hfq⟩
        have hlt2 : (k : Int) < l.length := by omega
        have hkS : k < (l.map stOf).length := by simpa using hlt
        have HCP : Hid (∀ w ss, RKQ W w p q ((l.map stOf).map stp) ss → w.cell? ⟨p, k * 2, none⟩ = some (.int .i64 (l.map stOf)[k].total) ∧ w.cell? ⟨p, k * 2 + 1, none⟩ = some (.int .i64 (l.map stOf)[k].elements)) := Lib.hid fun w ss h => by
          have h1 := pra_get ((l.map stOf).map stp) k (by simpa using hlt)
          rw [List.getElem_map] at h1
          exact ⟨(h.v.fp.cell _).trans h1.1, (h.v.fp.cell _).trans h1.2⟩
        have HPW : Hid (∀ w ss, RKQ W w p q ((l.map stOf).map stp) ss → Calls Try.prog 45 #[.agg (stc (l.map stOf)[k]), .slice (some ⟨p, 0, none⟩) l.length l.length] w fun e W' => e = .returned (.int .i64 (plP (l.map stOf)[k] (l.map stOf))) ∧ Below w.heap.size w W') := Lib.hid fun w ss h => by
          have := HPL.out (l.map stOf)[k] (l.map stOf) p l.length w (strow_of h.v.fp h.v.fp.lt) (by rw [List.length_map]; omega)
          rw [List.length_map] at this
          exact this
        obtain ⟨y, hy⟩ : ∃ y, y = (l.map stOf)[k] := ⟨_, rfl⟩
        obtain ⟨v, hv⟩ : ∃ v, v = plP y (l.map stOf) := ⟨_, rfl⟩
        rw [← hy, ← hv] at HPW
        rw [← hy] at HCP
        have HV : Hid (v = plP (l.map stOf)[k] (l.map stOf)) := Lib.hid (by rw [hv, hy])
        have hkr : k < rs.length := by rw [HW.out.2.1]; exact hlt
        obtain ⟨t0, t1⟩ := HCP.out _ _ HW.out.1
        have HX : Hid (RKQ W (wr.alloc (.cells (stc y) 82)) p q ((l.map stOf).map stp) rs ∧ Has (wr.alloc (.cells (stc y) 82)) wr.heap.size 82 (stc y)) := Lib.hid ⟨HW.out.1.step (below_one _ _), Has.new _ _ _⟩
        have HL := Lib.hid (And.intro HW.out.2.1 HW.out.2.2)
        clear hy hv HPL HW
        go_upto_region 13 with fail
        generalize wr.alloc (.cells (stc y) 82) = w5 at HX ⊢
        generalize wr.heap.size = E at HX ⊢
        clear t0 t1
        have t0 : w5.cell? ⟨E, 0, none⟩ = some (.int .i64 y.total) := HX.out.2.cell 0
        have t1 : w5.cell? ⟨E, 1, none⟩ = some (.int .i64 y.elements) := HX.out.2.cell 1
        go_wp2_with fail
        refine (HPW.out _ _ HX.out.1).mono ?_
        rintro e w6 ⟨rfl, hb6⟩
        have H6 := Lib.hid (HX.out.1.step hb6)
        clear hb6 t0 t1 HX HPW
        have q0 : w6.cell? ⟨q, k, none⟩ = some (.int .i64 rs[k]) := (H6.out.fq.cell _).trans (ils_at hkr)
        have qf := H6.out.fq.frozen k
        have H7 := Lib.hid (H6.out.set k v)
        clear H6
        go_wp2_with fail
        go_roundg (l.length - (k + 1))
        case measure => omega
        case rel =>
          refine ⟨k + 1, by omega, Nat.le_refl _, by go_num, rs.set k v, Lib.hid ⟨H7.out, by rw [List.length_set]; exact HL.out.1, fun i hi hik => ?_⟩⟩
          by_cases he : k = i
          · subst he
            rw [List.getElem?_set_self hkr, HV.out]
          · rw [List.getElem?_set_ne he]
            exact HL.out.2 i hi (by omega)
    have hlt2 : (k : Int) < l.length := by omega
    obtain ⟨g, o, hA, hg, hc⟩ := HA.out k hlt
    obtain ⟨x, hx⟩ : ∃ x, x = l[k] := ⟨_, rfl⟩
    have HNX := Lib.hid (HW.out.2.put hlt)
    rw [← hx] at hc HNX
    have hb := HW.out.1.b
    have z0 : wr.cell? ⟨g, o + k * 4, none⟩ = some (.int .i64 x.elements) := (hb.cell (p := ⟨g, _, none⟩) hg).trans (hc 0 (by omega))
    have z1 : wr.cell? ⟨g, o + k * 4 + 1, none⟩ = some (.int .i64 x.parts) := (hb.cell (p := ⟨g, _, none⟩) hg).trans (hc 1 (by omega))
    have z2 : wr.cell? ⟨g, o + k * 4 + 2, none⟩ = some (.int .i64 x.off) := (hb.cell (p := ⟨g, _, none⟩) hg).trans (hc 2 (by omega))
    have z3 : wr.cell? ⟨g, o + k * 4 + 3, none⟩ = some (.int .i64 x.total) := (hb.cell (p := ⟨g, _, none⟩) hg).trans (hc 3 (by omega))
    have hkw : k < ws.length := by rw [HW.out.2.1]; exact hlt
    have HX : Hid (RKW W (wr.alloc (.cells (scc x) 33)) p ws ∧ Has (wr.alloc (.cells (scc x) 33)) wr.heap.size 33 (scc x)) := Lib.hid ⟨HW.out.1.step (below_one _ _), Has.new _ _ _⟩
    subst hA
    clear hx hc hg hb HW
    go_upto_region 7 with fail
    generalize wr.alloc (.cells (scc x) 33) = w5 at HX ⊢
    generalize wr.heap.size = E at HX ⊢
    clear z0 z1 z2 z3
    have t0 : w5.cell? ⟨E, 0, none⟩ = some (.int .i64 x.elements) := HX.out.2.cell 0
    have t1 : w5.cell? ⟨E, 1, none⟩ = some (.int .i64 x.parts) := HX.out.2.cell 1
    have t2 : w5.cell? ⟨E, 2, none⟩ = some (.int .i64 x.off) := HX.out.2.cell 2
    have t3 : w5.cell? ⟨E, 3, none⟩ = some (.int .i64 x.total) := HX.out.2.cell 3
    go_wp2_with fail
    refine (HST.out x _).mono ?_
    rintro e w6 ⟨rfl, hb6⟩
    have H6 := Lib.hid (HX.out.1.step hb6)
    clear hb6 t0 t1 t2 t3 HX
    have l0 : w6.cell? ⟨p, k * 2, none⟩ = some (.int .i64 ws[k].1) := (H6.out.fp.cell _).trans (pra_get ws k hkw).1
    have l1 : w6.cell? ⟨p, k * 2 + 1, none⟩ = some (.int .i64 ws[k].2) := (H6.out.fp.cell _).trans (pra_get ws k hkw).2
    have lf0 := H6.out.fp.frozen (k * 2)
    have lf1 := H6.out.fp.frozen (k * 2 + 1)
    have H7 := Lib.hid (H6.out.set hkw (stOf x).total (stOf x).elements)
    clear H6
    go_wp2_with fail
    go_roundg (l.length - (k + 1))
    case measure => omega
    case rel => exact ⟨k + 1, by omega, Nat.le_refl _, by go_num, _, Lib.hid ⟨H7.out, HNX.out⟩⟩
end Go.Proofs.Ytmclchaalmonnaa
