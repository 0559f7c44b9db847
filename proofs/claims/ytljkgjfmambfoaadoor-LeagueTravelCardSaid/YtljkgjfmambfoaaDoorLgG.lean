/- Contracts: earned, and. -/
import Derived.Test.YtljkgjfmambfoaaDoorLgF
namespace Go.Proofs.YtljkgjfmambfoaaDoor
open Go.RowKit Go.Shelf
attribute [local irreducible] wpQuiet
theorem earned_take {G : List Gm} {k : Nat} (h : k < G.length) : earnedP (G.take (k + 1)) = if openB G[k] then earnedP (G.take k) else behindP (earnedP (G.take k)) G[k] (endOf G[k]) := by
  unfold earnedP
  rw [List.take_succ_eq_append_getElem h, List.foldl_append]
  rfl
theorem earned_pb {G : List Gm} (hG : ∀ g ∈ G, okG g) : ∀ k, k ≤ G.length → PB (6 * k) (earnedP (G.take k))
  | 0, _ => by
    have : earnedP (G.take 0) = zeroP := rfl
    rw [this]; exact PB.zero
  | k + 1, h => by
    have ih := earned_pb hG k (by omega)
    rw [earned_take (by omega)]
    split
    · exact ih.mono (by omega)
    · exact (behind_pb ih (hG _ (List.getElem_mem (by omega))) _).mono (by omega)
theorem earned_pb' {G : List Gm} (hG : ∀ g ∈ G, okG g) : PB (6 * G.length) (earnedP G) := by
  have := earned_pb hG G.length (Nat.le_refl _)
  rwa [List.take_of_length_le (Nat.le_refl _)] at this
/-- earned, at work -/
structure ErI (W w : World) (p : Pt) (A : Option Addr) (G : List Gm) : Prop where
  b : Below W.heap.size W w
  fr : Has w W.heap.size 77 (ptc zeroP)
  fp : Has w (W.heap.size + 1) 77 (ptc p)
  wo : Wo w
  gr : GRow w W.heap.size A G
section
variable {W w w' : World} {p : Pt} {A : Option Addr} {G : List Gm}
theorem ErI.step (h : ErI W w p A G) (hb : Below w.heap.size w w') : ErI W w' p A G := ⟨h.b.trans (hb.mono h.b.size), h.fr.below hb h.fr.lt, h.fp.below hb h.fp.lt, h.wo.step hb, h.gr.below (hb.mono h.b.size)⟩
theorem ErI.put (h : ErI W w p A G) (q : Pt) : ErI W (putPt w (W.heap.size + 1) q) q A G := by
  have hb : Below (W.heap.size + 1) w (putPt w (W.heap.size + 1) q) := below_putPt q (Nat.le_refl _)
  exact ⟨h.b.trans (hb.mono (by omega)), h.fr.below hb (by omega), has_putPt q h.fp, ⟨by have := h.wo.lt; have := hb.size; omega, fun i hi => (hb.cell (p := ⟨0, i, none⟩) (by simp)).trans (h.wo.c i hi)⟩, h.gr.below (hb.mono (by omega))⟩
theorem er_keep {E : Nat} {g : Gm} (h : ErI W w p A G) (hE : Has w E 53 (gmc g)) : w.cell? ⟨W.heap.size + 1, 0, none⟩ = some (.int .i64 (p[0]?.getD 0)) ∧ w.cell? ⟨W.heap.size + 1, 1, none⟩ = some (.int .i64 (p[1]?.getD 0)) ∧ w.cell? ⟨W.heap.size + 1, 2, none⟩ = some (.int .i64 (p[2]?.getD 0)) ∧ w.cell? ⟨W.heap.size + 1, 3, none⟩ = some (.int .i64 (p[3]?.getD 0)) ∧ w.cell? ⟨W.heap.size + 1, 4, none⟩ = some (.int .i64 (p[4]?.getD 0)) ∧ w.cell? ⟨W.heap.size + 1, 5, none⟩ = some (.int .i64 (p[5]?.getD 0)) ∧ w.cell? ⟨E, 0, none⟩ = some (.int .i64 g.day) ∧ w.cell? ⟨E, 1, none⟩ = some (.int .i64 g.home) ∧ w.cell? ⟨E, 2, none⟩ = some (.int .i64 g.away) ∧ w.cell? ⟨E, 3, none⟩ = some (.int .i64 g.fin) ∧ w.cell? ⟨E, 4, none⟩ = some (.int .i64 g.hg) ∧ w.cell? ⟨E, 5, none⟩ = some (.int .i64 g.ag) :=
  ⟨h.fp.cell 0, h.fp.cell 1, h.fp.cell 2, h.fp.cell 3, h.fp.cell 4, h.fp.cell 5, hE.cell 0, hE.cell 1, hE.cell 2, hE.cell 3, hE.cell 4, hE.cell 5⟩
end
set_option maxRecDepth 100000 in
set_option maxHeartbeats 2000000 in
theorem earned_any (G : List Gm) (A : Option Addr) (c : Nat) (W : World) (hW : Wo W) (hr : GRow W W.heap.size A G) (hG : ∀ g ∈ G, okG g) (hl : G.length ≤ 64) :
    Calls Tryd.prog 39 #[.slice A G.length c] W (PtPost (earnedP G) W) := by
  have HB : Hid (ErI W ((W.alloc (.cells (ptc zeroP) 77)).alloc (.cells (ptc zeroP) 77)) (earnedP (G.take 0)) A G) := Lib.hid
    ⟨below_two W _ _, (Has.new _ _ _).alloc _, has_newAt (by simp), hW.step (below_two W _ _), hr.below (below_two W _ _)⟩
  have HZ : Hid ((W.alloc (.cells (ptc zeroP) 77)).alloc (.cells (ptc zeroP) 77) = (W.alloc (.cells #[.int .i64 0, .int .i64 0, .int .i64 0, .int .i64 0, .int .i64 0, .int .i64 0] 77)).alloc (.cells #[.int .i64 0, .int .i64 0, .int .i64 0, .int .i64 0, .int .i64 0, .int .i64 0] 77)) := Lib.hid rfl
  rw [HZ.out] at HB
  have HT := Lib.hid (fun (k : Nat) (h : k < G.length) => earned_take h)
  have HPB := Lib.hid (earned_pb hG)
  have HG := Lib.hid hG
  have HO := Lib.hid (fun g w => isOpen_any g w)
  have HEn := Lib.hid (fun g w => endingOf_any g w)
  clear hW hr hG HZ
  go_enter Tryd.func39, Tryd.ntmps39
  go_upto_region 2 with fail
  generalize (W.alloc (.cells #[.int .i64 0, .int .i64 0, .int .i64 0, .int .i64 0, .int .i64 0, .int .i64 0] 77)).alloc (.cells #[.int .i64 0, .int .i64 0, .int .i64 0, .int .i64 0, .int .i64 0, .int .i64 0] 77) = w9 at HB ⊢
  go_wp2_with fail
  go_loopg [8] G.length (fun gk i wr => ∃ k : Nat, k ≤ G.length ∧ G.length - k ≤ gk ∧ i = .int .i64 k ∧ Hid (ErI W wr (earnedP (G.take k)) A G))
  case atStart => exact ⟨0, Nat.zero_le _, Nat.le_refl _, rfl, HB⟩
  case round =>
    clear HB
    obtain ⟨k, hk, hgk, rfl, HB⟩ := hrel
    by_cases hlt : k < G.length
    rotate_left
    · have hge : ¬ (k : Int) < G.length := by omega
      have HE : Hid (earnedP (G.take k) = earnedP G) := Lib.hid (by rw [List.take_of_length_le (by omega)])
      generalize earnedP (G.take k) = p at HB HE
      have q0 : wr.cell? ⟨W.heap.size + 1, 0, none⟩ = some (.int .i64 (p[0]?.getD 0)) := HB.out.fp.cell 0
      have q1 : wr.cell? ⟨W.heap.size + 1, 1, none⟩ = some (.int .i64 (p[1]?.getD 0)) := HB.out.fp.cell 1
      have q2 : wr.cell? ⟨W.heap.size + 1, 2, none⟩ = some (.int .i64 (p[2]?.getD 0)) := HB.out.fp.cell 2
      have q3 : wr.cell? ⟨W.heap.size + 1, 3, none⟩ = some (.int .i64 (p[3]?.getD 0)) := HB.out.fp.cell 3
      have q4 : wr.cell? ⟨W.heap.size + 1, 4, none⟩ = some (.int .i64 (p[4]?.getD 0)) := HB.out.fp.cell 4
      have q5 : wr.cell? ⟨W.heap.size + 1, 5, none⟩ = some (.int .i64 (p[5]?.getD 0)) := HB.out.fp.cell 5
      have r0 : wr.cell? ⟨W.heap.size, 0, none⟩ = some (.int .i64 0) := HB.out.fr.cell 0
      have r1 : wr.cell? ⟨W.heap.size, 1, none⟩ = some (.int .i64 0) := HB.out.fr.cell 1
      have r2 : wr.cell? ⟨W.heap.size, 2, none⟩ = some (.int .i64 0) := HB.out.fr.cell 2
      have r3 : wr.cell? ⟨W.heap.size, 3, none⟩ = some (.int .i64 0) := HB.out.fr.cell 3
      have r4 : wr.cell? ⟨W.heap.size, 4, none⟩ = some (.int .i64 0) := HB.out.fr.cell 4
      have r5 : wr.cell? ⟨W.heap.size, 5, none⟩ = some (.int .i64 0) := HB.out.fr.cell 5
      have f0 := HB.out.fr.frozen 0
      have f1 := HB.out.fr.frozen 1
      have f2 := HB.out.fr.frozen 2
      have f3 := HB.out.fr.frozen 3
      have f4 := HB.out.fr.frozen 4
      have f5 := HB.out.fr.frozen 5
      have fl := HB.out.fr.lt
      go_wp2_with fail
      refine bodyPost_ret (v := ptv p) (res_pt (D := W.heap.size) (n := 2) (has_putPt p HB.out.fr) rfl rfl) rfl ?_
      exact ⟨by rw [HE.out], HB.out.b.trans (below_putPt p (Nat.le_refl _))⟩
    have hlt2 : (k : Int) < G.length := by omega
    obtain ⟨B, o, hg, hgs, hc⟩ := HB.out.gr k hlt
    obtain ⟨g, hb⟩ : ∃ g, g = G[k] := ⟨_, rfl⟩
    have HTk := Lib.hid (HT.out k hlt)
    have HPk := Lib.hid ((HPB.out k hk).mono (M' := 100000) (by omega))
    have HGk : Hid (okG g) := Lib.hid (by rw [hb]; exact HG.out _ (List.getElem_mem hlt))
    rw [← hb] at hc HTk
    have HOk := Lib.hid (fun w => HO.out g w)
    generalize earnedP (G.take k) = p at HB HTk HPk
    have c0 : wr.cell? ⟨B, o + k * 6, none⟩ = some (.int .i64 g.day) := hc 0 (by omega)
    have c1 : wr.cell? ⟨B, o + k * 6 + 1, none⟩ = some (.int .i64 g.home) := hc 1 (by omega)
    have c2 : wr.cell? ⟨B, o + k * 6 + 2, none⟩ = some (.int .i64 g.away) := hc 2 (by omega)
    have c3 : wr.cell? ⟨B, o + k * 6 + 3, none⟩ = some (.int .i64 g.fin) := hc 3 (by omega)
    have c4 : wr.cell? ⟨B, o + k * 6 + 4, none⟩ = some (.int .i64 g.hg) := hc 4 (by omega)
    have c5 : wr.cell? ⟨B, o + k * 6 + 5, none⟩ = some (.int .i64 g.ag) := hc 5 (by omega)
    subst hg
    clear hb hc
    have HB1 : Hid (ErI W (wr.alloc (.cells (gmc g) 53)) p (some ⟨B, o, none⟩) G ∧ Has (wr.alloc (.cells (gmc g) 53)) wr.heap.size 53 (gmc g)) := Lib.hid ⟨HB.out.step (below_one _ _), Has.new _ _ _⟩
    go_upto_region 5 with fail
    generalize wr.alloc (.cells (gmc g) 53) = w1 at HB1 ⊢
    generalize wr.heap.size = E at HB1 ⊢
    clear c0 c1 c2 c3 c4 c5 HB hgs
    have y0 : w1.cell? ⟨E, 0, none⟩ = some (.int .i64 g.day) := HB1.out.2.cell 0
    have y1 : w1.cell? ⟨E, 1, none⟩ = some (.int .i64 g.home) := HB1.out.2.cell 1
    have y2 : w1.cell? ⟨E, 2, none⟩ = some (.int .i64 g.away) := HB1.out.2.cell 2
    have y3 : w1.cell? ⟨E, 3, none⟩ = some (.int .i64 g.fin) := HB1.out.2.cell 3
    have y4 : w1.cell? ⟨E, 4, none⟩ = some (.int .i64 g.hg) := HB1.out.2.cell 4
    have y5 : w1.cell? ⟨E, 5, none⟩ = some (.int .i64 g.ag) := HB1.out.2.cell 5
    unfold gmv at HOk
    cases hop : openB g <;> rw [hop] at HOk HTk
    · have HQ : Hid (earnedP (G.take (k + 1)) = behindP p g (endOf g)) := Lib.hid (by rw [HTk.out]; rfl)
      have HEnd := Lib.hid (fun w => HEn.out g w)
      have HBh := Lib.hid (fun w (h : Wo w) => behind_any p g (endOf g) w h HPk.out HGk.out (endOf_lt g))
      obtain ⟨e, he⟩ : ∃ e, e = endOf g := ⟨_, rfl⟩
      obtain ⟨q, hq⟩ : ∃ q, q = behindP p g (endOf g) := ⟨_, rfl⟩
      rw [← hq] at HQ HBh
      rw [← he] at HEnd HBh
      unfold gmv IntPost at HEnd
      unfold gmv PtPost ptv at HBh
      clear HTk hop he hq
      go_wp2_with fail
      refine (HOk.out _).mono ?_
      rintro e w2 ⟨rfl, hb2⟩
      have H2 := Lib.hid (And.intro ((HB1.out.1.step hb2).step (Below.refl _ _).drew) (Has.drew (HB1.out.2.below hb2 HB1.out.2.lt)))
      have K2 := Lib.hid (er_keep H2.out.1 H2.out.2)
      clear hb2 y0 y1 y2 y3 y4 y5 HB1 HOk
      go_upto_region 6 with fail
      refine wp_region_late (fun w' : World => w'.cell? ⟨W.heap.size + 1, 0, none⟩ = some (.int .i64 (p[0]?.getD 0)) ∧ w'.cell? ⟨W.heap.size + 1, 1, none⟩ = some (.int .i64 (p[1]?.getD 0)) ∧ w'.cell? ⟨W.heap.size + 1, 2, none⟩ = some (.int .i64 (p[2]?.getD 0)) ∧ w'.cell? ⟨W.heap.size + 1, 3, none⟩ = some (.int .i64 (p[3]?.getD 0)) ∧ w'.cell? ⟨W.heap.size + 1, 4, none⟩ = some (.int .i64 (p[4]?.getD 0)) ∧ w'.cell? ⟨W.heap.size + 1, 5, none⟩ = some (.int .i64 (p[5]?.getD 0)) ∧ w'.cell? ⟨E, 0, none⟩ = some (.int .i64 g.day) ∧ w'.cell? ⟨E, 1, none⟩ = some (.int .i64 g.home) ∧ w'.cell? ⟨E, 2, none⟩ = some (.int .i64 g.away) ∧ w'.cell? ⟨E, 3, none⟩ = some (.int .i64 g.fin) ∧ w'.cell? ⟨E, 4, none⟩ = some (.int .i64 g.hg) ∧ w'.cell? ⟨E, 5, none⟩ = some (.int .i64 g.ag)) [5] (by kernel_rfl) ?_
      refine wpLate_take (i := 0) (oi := ?oi0e6_) (v := ?v0e6_) [4, 5] ?hi0e6_ (by kernel_rfl) (by kernel_rfl) (by kernel_rfl) (by kernel_rfl) (by kernel_rfl) ?hQ0e6_ (Or.inl ⟨?hw0e6_, ?hy0e6_⟩) K2.out ?rest0e6_
      case hi0e6_ => (simp only [List.getElem?_toArray, List.getElem?_cons_zero]; rfl)
      case hQ0e6_ => exact fun _ _ _ h => h
      case hw0e6_ => rfl
      case hy0e6_ =>
        intro w' hSw
        obtain ⟨r0, r1, r2, r3, r4, r5, r6, r7, r8, r9, r10, r11⟩ := hSw
        go_simp
        try exact rfl
      try simp only [Act.put, List.setIfInBounds_toArray, List.set_cons_zero, List.set_cons_succ]
      refine wpLate_take (i := 1) (oi := ?oi1e6_) (v := ?v1e6_) [4, 5] ?hi1e6_ (by kernel_rfl) (by kernel_rfl) (by kernel_rfl) (by kernel_rfl) (by kernel_rfl) ?hQ1e6_ (Or.inl ⟨?hw1e6_, ?hy1e6_⟩) K2.out ?rest1e6_
      case hi1e6_ => (simp only [List.getElem?_toArray, List.getElem?_cons_zero, List.getElem?_cons_succ]; rfl)
      case hQ1e6_ => exact fun _ _ _ h => h
      case hw1e6_ => rfl
      case hy1e6_ =>
        intro w' hSw
        obtain ⟨r0, r1, r2, r3, r4, r5, r6, r7, r8, r9, r10, r11⟩ := hSw
        go_simp
        try exact rfl
      try simp only [Act.put, List.setIfInBounds_toArray, List.set_cons_zero, List.set_cons_succ]
      refine wpLate_take (i := 2) (oi := ?oi2e6_) (v := ?v2e6_) [3, 4, 5] ?hi2e6_ (by kernel_rfl) (by kernel_rfl) (by kernel_rfl) (by kernel_rfl) (by kernel_rfl) ?hQ2e6_ (Or.inl ⟨?hw2e6_, ?hy2e6_⟩) K2.out ?rest2e6_
      case hi2e6_ => (simp only [List.getElem?_toArray, List.getElem?_cons_zero, List.getElem?_cons_succ]; rfl)
      case hQ2e6_ => exact fun _ _ _ h => h
      case hw2e6_ => rfl
      case hy2e6_ =>
        intro w' hSw
        obtain ⟨r0, r1, r2, r3, r4, r5, r6, r7, r8, r9, r10, r11⟩ := hSw
        go_simp
        try exact rfl
      try simp only [Act.put, List.setIfInBounds_toArray, List.set_cons_zero, List.set_cons_succ]
      refine wpLate_one (i := 3) (o := ?o3e6_) (by kernel_rfl) ?ho3e6_ ?hk3e6_
      case ho3e6_ => (simp only [List.getElem?_toArray, List.getElem?_cons_zero, List.getElem?_cons_succ]; rfl)
      intro K hK
      go_simp
      go_simp
      refine (HEnd.out _).mono ?_
      rintro e w3 ⟨rfl, hb3⟩
      have H3 := Lib.hid (And.intro (H2.out.1.step hb3) (H2.out.2.below hb3 H2.out.2.lt))
      have K3 := Lib.hid (er_keep H3.out.1 H3.out.2)
      clear hb3 H2 K2
      go_simp
      refine hK.out _ _ (fun h => K3.out) ?_
      clear hK K
      try simp only [Act.put, List.setIfInBounds_toArray, List.set_cons_zero, List.set_cons_succ]
      refine wpLate_one (i := 4) (o := ?o4e6_) (by kernel_rfl) ?ho4e6_ ?hk4e6_
      case ho4e6_ => (simp only [List.getElem?_toArray, List.getElem?_cons_zero, List.getElem?_cons_succ]; rfl)
      intro K hK
      go_simp
      go_simp
      refine (HBh.out _ H3.out.1.wo).mono ?_
      rintro e w4 ⟨rfl, hb4⟩
      have H4 := Lib.hid (And.intro (H3.out.1.step hb4) (H3.out.2.below hb4 H3.out.2.lt))
      have K4 := Lib.hid (er_keep H4.out.1 H4.out.2)
      clear hb4 H3 K3
      go_simp
      refine hK.out _ _ (fun h => K4.out) ?_
      clear hK K
      try simp only [Act.put, List.setIfInBounds_toArray, List.set_cons_zero, List.set_cons_succ]
      refine wpLate_one (i := 5) (o := ?o5e6_) (by kernel_rfl) ?ho5e6_ ?hk5e6_
      case ho5e6_ => (simp only [List.getElem?_toArray, List.getElem?_cons_zero, List.getElem?_cons_succ]; rfl)
      intro K hK
      go_simp
      have f0 := H4.out.1.fp.frozen 0
      have f1 := H4.out.1.fp.frozen 1
      have f2 := H4.out.1.fp.frozen 2
      have f3 := H4.out.1.fp.frozen 3
      have f4 := H4.out.1.fp.frozen 4
      have f5 := H4.out.1.fp.frozen 5
      have fl := H4.out.1.fp.lt
      obtain ⟨k0, k1, k2, k3, k4, k5, k6, k7, k8, k9, k10, k11⟩ := K4.out
      go_simp
      refine hK.out _ _ (fun h => absurd h (by decide)) ?_
      clear hK K
      try simp only [Act.put, List.setIfInBounds_toArray, List.set_cons_zero, List.set_cons_succ]
      refine wpLate_done (by kernel_rfl) ?_ _
      try simp only [Act.put, List.setIfInBounds_toArray, List.set_cons_zero, List.set_cons_succ]
      go_upto_region 7 with fail
      have H5 := Lib.hid (H4.out.1.put q)
      clear H4 K4
      go_wp2_with fail
      go_roundg (G.length - (k + 1))
      case measure => omega
      case rel => exact ⟨k + 1, by omega, Nat.le_refl _, by go_num, by rw [HQ.out]; exact H5⟩
    · have HQ : Hid (earnedP (G.take (k + 1)) = p) := Lib.hid (by rw [HTk.out]; rfl)
      clear HTk hop
      go_wp2_with fail
      refine (HOk.out _).mono ?_
      rintro e w2 ⟨rfl, hb2⟩
      have H2 := Lib.hid (HB1.out.1.step hb2)
      clear hb2 y0 y1 y2 y3 y4 y5 HB1 HOk
      go_wp2_with fail
      go_roundg (G.length - (k + 1))
      case measure => omega
      case rel => exact ⟨k + 1, by omega, Nat.le_refl _, by go_num, by rw [HQ.out]; exact H2⟩
end Go.Proofs.YtljkgjfmambfoaaDoor
