/- Contracts: Fairest, Check. -/
import Derived.Test.YtipejhfgfciabaaHrR
namespace Go.Proofs.Ytipejhfgfciabaa
open Go.RowKit Go.Shelf
/-- what Check keeps -/
structure CS (W w : World) (x : Tt) (AH AG : Option Addr) (ch cg D : Nat) (p : Pl) : Prop where
  v : VB W w x AH AG ch cg
  fp : Has w D 75 (plc p)
  lt : W.heap.size < D
theorem CS.step {W w w' : World} {x : Tt} {AH AG : Option Addr} {ch cg D : Nat} {p : Pl} (h : CS W w x AH AG ch cg D p) (hb : Below w.heap.size w w') : CS W w' x AH AG ch cg D p := ⟨h.v.step hb, h.fp.below hb h.fp.lt, h.lt⟩
theorem CS.put {W w : World} {x : Tt} {AH AG : Option Addr} {ch cg D : Nat} {p : Pl} (h : CS W w x AH AG ch cg D p) (q : Pl) : CS W (putP w D q) x AH AG ch cg D q :=
  ⟨⟨below_putP q h.v.b (Nat.le_of_lt h.lt), has_putP_far q h.v.fx (Nat.ne_of_lt h.lt)⟩, has_putP q h.fp, h.lt⟩
def CheckPost (r : List Int × Nat × Int) (W : World) (e : Ending) (W' : World) : Prop :=
  ∃ A c, e = .returned (.tuple #[.slice A r.1.length c, .int .i64 r.2.1, .int .i64 r.2.2]) ∧ IRow W' W'.heap.size A r.1 ∧ Below W.heap.size W W' ∧ (r.2.2 = 0 → ∃ g o, A = some ⟨g, o, none⟩)
theorem row_nil (w : World) (B : Nat) : IRow w B none [] := fun k hk => absurd hk (by simp)
set_option maxRecDepth 100000 in
set_option maxHeartbeats 1200000 in
theorem Check_any (x : Tt) (AH AG : Option Addr) (ch cg : Nat) (l : List Int) (A : Option Addr) (c : Nat) (W : World) (hr : TR W W.heap.size x AH AG) (ha : IRow W W.heap.size A l) : Calls Try.prog 11 #[ttv x AH AG ch cg, .slice A l.length c] W (CheckPost (checkR x l) W) := by
  have HB : Hid (VB W (W.alloc (.cells (ttc x AH AG ch cg) 25)) x AH AG ch cg) := ⟨below_one W _, Has.new W 25 _⟩
  have HA := Lib.hid ha
  have HR := Lib.hid hr
  have HV := Lib.hid (fun w (h : TR w w.heap.size x AH AG) => validTimetable_any x AH AG ch cg w h)
  have hn : ∀ r, checkR x l = r → Hid (checkR x l = r) := fun b h => h
  clear ha hr
  cases hT : ttB x <;> rw [hT] at HV
  · have HE := hn ([], 0, 1) (by unfold checkR; simp [hT])
    clear hn hT
    rw [HE.out]
    unfold ttv at *
    go_enter Try.func11, Try.ntmps11
    go_upto_region 1 with fail
    generalize W.alloc (.cells (ttc x AH AG ch cg) 25) = w0 at HB ⊢
    have x0 : w0.cell? ⟨W.heap.size, 0, none⟩ = some (.slice AH x.H.length ch) := HB.out.fx.cell 0
    have x1 : w0.cell? ⟨W.heap.size, 1, none⟩ = some (.slice AG x.G.length cg) := HB.out.fx.cell 1
    have x2 : w0.cell? ⟨W.heap.size, 2, none⟩ = some (.int .i64 x.R) := HB.out.fx.cell 2
    go_wp2_with fail
    refine (HV.out _ (HR.out.step HB.out.b)).mono ?_
    rintro e w1 ⟨rfl, hb1⟩
    have HB1 := Lib.hid (HB.out.step hb1)
    clear hb1
    go_wp2_with fail
    refine bodyPost_ret (v := .tuple #[.slice none 0 0, .int .i64 0, .int .i64 1]) (by simp [results, Try.results11, go_sem]) rfl ?_
    exact ⟨none, 0, rfl, row_nil _ _, HB1.out.b, fun h => absurd h (by decide)⟩
  have hv := ttB_vt hT
  have HP := Lib.hid (fun w (h : IRow w w.heap.size A l) => validPlan_any x AH AG ch cg l A c w hv h)
  cases hP : planB x l <;> rw [hP] at HP
  · have HE := hn ([], 0, 2) (by unfold checkR; simp [hT, hP])
    clear hn hT hP hv
    rw [HE.out]
    unfold ttv at *
    go_enter Try.func11, Try.ntmps11
    go_upto_region 1 with fail
    generalize W.alloc (.cells (ttc x AH AG ch cg) 25) = w0 at HB ⊢
    have x0 : w0.cell? ⟨W.heap.size, 0, none⟩ = some (.slice AH x.H.length ch) := HB.out.fx.cell 0
    have x1 : w0.cell? ⟨W.heap.size, 1, none⟩ = some (.slice AG x.G.length cg) := HB.out.fx.cell 1
    have x2 : w0.cell? ⟨W.heap.size, 2, none⟩ = some (.int .i64 x.R) := HB.out.fx.cell 2
    go_wp2_with fail
    refine (HV.out _ (HR.out.step HB.out.b)).mono ?_
    rintro e w1 ⟨rfl, hb1⟩
    have HB1 := Lib.hid (HB.out.step hb1)
    clear hb1 x0 x1 x2
    have x0 : w1.cell? ⟨W.heap.size, 0, none⟩ = some (.slice AH x.H.length ch) := HB1.out.fx.cell 0
    have x1 : w1.cell? ⟨W.heap.size, 1, none⟩ = some (.slice AG x.G.length cg) := HB1.out.fx.cell 1
    have x2 : w1.cell? ⟨W.heap.size, 2, none⟩ = some (.int .i64 x.R) := HB1.out.fx.cell 2
    go_wp2_with fail
    refine (HP.out _ (HA.out.step HB1.out.b)).mono ?_
    rintro e w2 ⟨rfl, hb2⟩
    have HB2 := Lib.hid (HB1.out.step hb2)
    clear hb2
    go_wp2_with fail
    refine bodyPost_ret (v := .tuple #[.slice none 0 0, .int .i64 0, .int .i64 2]) (by simp [results, Try.results11, go_sem]) rfl ?_
    exact ⟨none, 0, rfl, row_nil _ _, HB2.out.b, fun h => absurd h (by decide)⟩
  have HE := hn (if (chkR x startP l).1 = 0 then (ownedL x (chkR x startP l).2.2, l.length, 0) else ([], (chkR x startP l).2.1, (chkR x startP l).1)) (by unfold checkR; simp [hT, hP])
  have HPL := Lib.hid (plan_ok hP)
  have HVT := Lib.hid hv
  have hl12 : l.length ≤ 12 := by have := HPL.out.1; have := hv.nh; omega
  have HG := Lib.hid (fun p (i : Nat) w (h : TR w w.heap.size x AH AG) hp hi hh => give_any x AH AG ch cg p i w h hv hp hi hh)
  have HF := Lib.hid (fun p w hp => give_free_any x AH AG ch cg p w hp hv.nh)
  have HO := Lib.hid (fun p w (h : TR w w.heap.size x AH AG) hp => owned_any x AH AG ch cg p w h hv hp)
  have HST := Lib.hid (fun w => start_any w)
  clear hn hT hP hv
  unfold ttv plv at *
  go_enter Try.func11, Try.ntmps11
  go_upto_region 1 with fail
  generalize W.alloc (.cells (ttc x AH AG ch cg) 25) = w0 at HB ⊢
  have x0 : w0.cell? ⟨W.heap.size, 0, none⟩ = some (.slice AH x.H.length ch) := HB.out.fx.cell 0
  have x1 : w0.cell? ⟨W.heap.size, 1, none⟩ = some (.slice AG x.G.length cg) := HB.out.fx.cell 1
  have x2 : w0.cell? ⟨W.heap.size, 2, none⟩ = some (.int .i64 x.R) := HB.out.fx.cell 2
  go_wp2_with fail
  refine (HV.out _ (HR.out.step HB.out.b)).mono ?_
  rintro e w1 ⟨rfl, hb1⟩
  have HB1 := Lib.hid (HB.out.step hb1)
  clear hb1 x0 x1 x2 HB
  have x0 : w1.cell? ⟨W.heap.size, 0, none⟩ = some (.slice AH x.H.length ch) := HB1.out.fx.cell 0
  have x1 : w1.cell? ⟨W.heap.size, 1, none⟩ = some (.slice AG x.G.length cg) := HB1.out.fx.cell 1
  have x2 : w1.cell? ⟨W.heap.size, 2, none⟩ = some (.int .i64 x.R) := HB1.out.fx.cell 2
  go_wp2_with fail
  refine (HP.out _ (HA.out.step HB1.out.b)).mono ?_
  rintro e w2 ⟨rfl, hb2⟩
  have HB2 := Lib.hid (HB1.out.step hb2)
  clear hb2 x0 x1 x2 HB1 HP HV
  go_wp2_with fail
  refine (HST.out _).mono ?_
  rintro e w3 ⟨rfl, rfl⟩
  clear HST
  dsimp only
  go_upto_region 6 with fail
  have HC : Hid (CS W ((w2.alloc (.cells (plc startP) 75)).alloc (.cells (plc startP) 75)) x AH AG ch cg (w2.heap.size + 1) startP) :=
    ⟨HB2.out.step (below_two w2 _ _), has_newAt (by simp), by have := HB2.out.fx.lt; omega⟩
  change Code.wp _ _ _ _ ((w2.alloc (.cells (plc startP) 75)).alloc (.cells (plc startP) 75))
  generalize (w2.alloc (.cells (plc startP) 75)).alloc (.cells (plc startP) 75) = w3 at HC ⊢
  generalize w2.heap.size + 1 = D at HC ⊢
  clear HB2
  go_wp2_with fail
  go_loopg [20] l.length (fun gk i wr => ∃ k : Nat, k ≤ l.length ∧ l.length - k ≤ gk ∧ i = .int .i64 k ∧ Hid (∃ p, CS W wr x AH AG ch cg D p ∧ VP x p ∧ p.hour = k ∧ chkR x startP l = chkR x p (l.drop k)))
  case atStart => exact ⟨0, Nat.zero_le _, Nat.le_refl _, rfl, Lib.hid ⟨startP, HC.out, vp_start x, rfl, rfl⟩⟩
  case round =>
    clear HC
    obtain ⟨k, hk, hgk, rfl, HWX⟩ := hrel
    obtain ⟨p, hcs, hvp, hph, hch⟩ := HWX.out
    have HW := Lib.hid (And.intro hcs (And.intro hvp (And.intro hph hch)))
    clear hcs hvp hph hch HWX
    have x0 : wr.cell? ⟨W.heap.size, 0, none⟩ = some (.slice AH x.H.length ch) := HW.out.1.v.fx.cell 0
    have x1 : wr.cell? ⟨W.heap.size, 1, none⟩ = some (.slice AG x.G.length cg) := HW.out.1.v.fx.cell 1
    have x2 : wr.cell? ⟨W.heap.size, 2, none⟩ = some (.int .i64 x.R) := HW.out.1.v.fx.cell 2
    have p0 : wr.cell? ⟨D, 0, none⟩ = some (.int .i64 p.hour) := HW.out.1.fp.cell 0
    have p1 : wr.cell? ⟨D, 1, none⟩ = some (.int .i64 p.last) := HW.out.1.fp.cell 1
    have p2 : wr.cell? ⟨D, 2, none⟩ = some (.int .i64 (p.given[0]?.getD 0)) := HW.out.1.fp.cell 2
    have p3 : wr.cell? ⟨D, 3, none⟩ = some (.int .i64 (p.given[1]?.getD 0)) := HW.out.1.fp.cell 3
    have p4 : wr.cell? ⟨D, 4, none⟩ = some (.int .i64 (p.given[2]?.getD 0)) := HW.out.1.fp.cell 4
    have p5 : wr.cell? ⟨D, 5, none⟩ = some (.int .i64 (p.given[3]?.getD 0)) := HW.out.1.fp.cell 5
    have p6 : wr.cell? ⟨D, 6, none⟩ = some (.int .i64 (p.given[4]?.getD 0)) := HW.out.1.fp.cell 6
    by_cases hlt : k < l.length
    rotate_left
    · have hge : ¬ (k : Int) < l.length := by omega
      have HE2 : Hid (checkR x l = (ownedL x p, l.length, 0)) := Lib.hid (by
        rw [HE.out, HW.out.2.2.2, List.drop_eq_nil_of_le (by omega)]; rfl)
      clear HE
      go_wp2_with fail
      refine (HO.out p _ (HR.out.step HW.out.1.v.b) HW.out.2.1).mono ?_
      rintro e w4 ⟨g, hg, rfl, hrow, hb4⟩
      have HB4 := Lib.hid (HW.out.1.v.step hb4)
      have HRow := Lib.hid hrow
      clear hrow hb4 hg
      go_wp2_with fail
      refine bodyPost_ret (v := .tuple #[.slice (some ⟨g, 0, none⟩) (ownedL x p).length (ownedL x p).length, .int .i64 l.length, .int .i64 0]) (by simp [results, Try.results11, go_sem]) rfl ?_
      show CheckPost (checkR x l) W _ _
      rw [HE2.out]
      exact ⟨_, _, rfl, fun j hj => ⟨g, 0, rfl, HRow.out.lt, by rw [Nat.zero_add]; exact (HRow.out.cell j).trans (ils_at hj)⟩, HB4.out.b, fun _ => ⟨g, 0, rfl⟩⟩
    have hlt2 : (k : Int) < l.length := by omega
    obtain ⟨g, o, hg, hgs, hc⟩ := (HA.out.below HW.out.1.v.b) k hlt
    obtain ⟨v, hb⟩ : ∃ v, v = l[k] := ⟨_, rfl⟩
    have hch : chkR x startP l = if (giveR x p v).1 = 0 then chkR x (giveR x p v).2 (l.drop (k + 1)) else ((giveR x p v).1, p.hour, zeroP) := by
      rw [HW.out.2.2.2, List.drop_eq_getElem_cons hlt, hb]; rfl
    have hvm : v = -1 ∨ ∃ i : Nat, v = (i : Int) ∧ i < x.G.length := HPL.out.2 v (hb ▸ List.getElem_mem hlt)
    rw [← hb] at hc
    have hhl : p.hour < x.H.length := by have := HW.out.2.2.1; have := HPL.out.1; omega
    have HK : Hid (∀ w, TR w w.heap.size x AH AG → Calls Try.prog 41 #[.agg (ttc x AH AG ch cg), .agg (plc p), .int .i64 v] w (PlPost (giveR x p v) w)) := Lib.hid fun w hw => by
      rcases hvm with rfl | ⟨i, rfl, hi⟩
      · exact HF.out p w HW.out.2.1
      · exact HG.out p i w hw HW.out.2.1 hi hhl
    have HNX := Lib.hid (fun q (h : giveR x p v = (0, q)) => give_vp HVT.out HW.out.2.1 hhl hvm h)
    have HCH := Lib.hid hch
    obtain ⟨er, q, hgr⟩ : ∃ er q, giveR x p v = (er, q) := ⟨_, _, rfl⟩
    rw [hgr] at HCH HK HNX
    subst hg
    clear hb hgs hch hvm hgr hhl HO HG HF
    simp only at HCH
    by_cases her : er = 0
    · subst her
      have HQ := Lib.hid (And.intro (HNX.out q rfl) (HCH.out.trans (if_pos rfl)))
      clear HNX HCH
      go_wp2_with fail
      refine (HK.out _ (HR.out.step HW.out.1.v.b)).mono ?_
      rintro e w4 ⟨rfl, hb4⟩
      have HB4 := Lib.hid (HW.out.1.step hb4)
      clear hb4 x0 x1 x2 p0 p1 p2 p3 p4 p5 p6 hc
      unfold plv plc at *
      have hp7 := HB4.out.fp.lt
      have hp8 := HB4.out.fp.frozen
      have q0 : w4.cell? ⟨D, 0, none⟩ = some (.int .i64 p.hour) := HB4.out.fp.cell 0
      have q1 : w4.cell? ⟨D, 1, none⟩ = some (.int .i64 p.last) := HB4.out.fp.cell 1
      have q2 : w4.cell? ⟨D, 2, none⟩ = some (.int .i64 (p.given[0]?.getD 0)) := HB4.out.fp.cell 2
      have q3 : w4.cell? ⟨D, 3, none⟩ = some (.int .i64 (p.given[1]?.getD 0)) := HB4.out.fp.cell 3
      have q4 : w4.cell? ⟨D, 4, none⟩ = some (.int .i64 (p.given[2]?.getD 0)) := HB4.out.fp.cell 4
      have q5 : w4.cell? ⟨D, 5, none⟩ = some (.int .i64 (p.given[3]?.getD 0)) := HB4.out.fp.cell 5
      have q6 : w4.cell? ⟨D, 6, none⟩ = some (.int .i64 (p.given[4]?.getD 0)) := HB4.out.fp.cell 6
      dsimp only
      go_wp2_with fail
      go_roundg (l.length - (k + 1))
      case measure => omega
      case rel => exact ⟨k + 1, by omega, Nat.le_refl _, by go_num, Lib.hid ⟨q, HB4.out.put q, HQ.out.1.1, by rw [HQ.out.1.2, HW.out.2.2.1], HQ.out.2⟩⟩
    · have HQ : Hid (checkR x l = ([], k, er)) := Lib.hid (by
        rw [HE.out, HCH.out, if_neg her]; simp only [if_neg her]; rw [HW.out.2.2.1])
      have her' : (er == 0) = false := by simpa using her
      have HER := Lib.hid her
      clear HNX HCH her HE
      go_wp2_with fail
      refine (HK.out _ (HR.out.step HW.out.1.v.b)).mono ?_
      rintro e w4 ⟨rfl, hb4⟩
      have HB4 := Lib.hid (HW.out.1.step hb4)
      clear hb4 x0 x1 x2 p0 p1 p2 p3 p4 p5 p6 hc
      unfold plv plc at *
      have hp7 := HB4.out.fp.lt
      have hp8 := HB4.out.fp.frozen
      have q0 : w4.cell? ⟨D, 0, none⟩ = some (.int .i64 p.hour) := HB4.out.fp.cell 0
      have q1 : w4.cell? ⟨D, 1, none⟩ = some (.int .i64 p.last) := HB4.out.fp.cell 1
      have q2 : w4.cell? ⟨D, 2, none⟩ = some (.int .i64 (p.given[0]?.getD 0)) := HB4.out.fp.cell 2
      have q3 : w4.cell? ⟨D, 3, none⟩ = some (.int .i64 (p.given[1]?.getD 0)) := HB4.out.fp.cell 3
      have q4 : w4.cell? ⟨D, 4, none⟩ = some (.int .i64 (p.given[2]?.getD 0)) := HB4.out.fp.cell 4
      have q5 : w4.cell? ⟨D, 5, none⟩ = some (.int .i64 (p.given[3]?.getD 0)) := HB4.out.fp.cell 5
      have q6 : w4.cell? ⟨D, 6, none⟩ = some (.int .i64 (p.given[4]?.getD 0)) := HB4.out.fp.cell 6
      dsimp only
      go_wp2_with fail
      refine bodyPost_ret (v := .tuple #[.slice none 0 0, .int .i64 k, .int .i64 er]) (by simp [results, Try.results11, go_sem]) rfl ?_
      show CheckPost (checkR x l) W _ _
      rw [HQ.out]
      exact ⟨none, 0, rfl, row_nil _ _, (HB4.out.put q).v.b, fun h => absurd h HER.out⟩
end Go.Proofs.Ytipejhfgfciabaa
