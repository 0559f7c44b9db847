/- The document's Run. -/
import Derived.Test.YtdmpkeaanaoeaaaRfF
namespace Go.Proofs.Ytdmpkeaanaoeaaa
open Go.RowKit
abbrev zc : Co := ⟨0, 0, 0, 0, 0⟩
structure RD (W w : World) (a : Air) (A B : Option Addr) (ca cb : Nat) (lo hi : Int) (c d : Co) : Prop where
  v : VB W w a A B ca cb lo hi
  f6 : Has w (W.heap.size + 2) 24 #[.int .i64 0, .int .i64 0]
  f7 : Has w (W.heap.size + 3) 34 (moi zc zc)
  fm : Has w (W.heap.size + 4) 34 (moi c d)
section
variable {W w w' : World} {a : Air} {A B : Option Addr} {ca cb : Nat} {lo hi : Int} {c d : Co}
theorem RD.step (h : RD W w a A B ca cb lo hi c d) (hb : Below w.heap.size w w') : RD W w' a A B ca cb lo hi c d :=
  ⟨h.v.step hb, h.f6.below hb h.f6.lt, h.f7.below hb h.f7.lt, h.fm.below hb h.fm.lt⟩
theorem RD.setW (h : RD W w a A B ca cb lo hi c d) (x y : Int) : RD W ((w.setCell ⟨W.heap.size + 1, 0, none⟩ (.int .i64 x)).setCell ⟨W.heap.size + 1, 1, none⟩ (.int .i64 y)) a A B ca cb x y c d :=
  ⟨h.v.setW x y, (h.f6.far (by simp) _).far (by simp) _, (h.f7.far (by simp) _).far (by simp) _, (h.fm.far (by simp) _).far (by simp) _⟩
theorem RD.setM (h : RD W w a A B ca cb lo hi c d) (c' d' : Co) : RD W (set8 w (W.heap.size + 4) c' d') a A B ca cb lo hi c' d' := by
  have ho := set8_only w (W.heap.size + 4) c' d'
  exact ⟨⟨⟨h.v.b.b.trans (ho.below h.v.b.b.size (fun i hi => by omega)), h.v.b.fa.only ho (show ¬ W.heap.size = W.heap.size + 4 by omega)⟩, h.v.fw.only ho (show ¬ W.heap.size + 1 = W.heap.size + 4 by omega)⟩, h.f6.only ho (show ¬ W.heap.size + 2 = W.heap.size + 4 by omega), h.f7.only ho (show ¬ W.heap.size + 3 = W.heap.size + 4 by omega), set8_has h.fm⟩
theorem RD.mid (h : RD W w a A B ca cb lo hi c d) (x y : Int) : Below W.heap.size W ((w.setCell ⟨W.heap.size + 2, 0, none⟩ (.int .i64 x)).setCell ⟨W.heap.size + 2, 1, none⟩ (.int .i64 y)) ∧ Has ((w.setCell ⟨W.heap.size + 2, 0, none⟩ (.int .i64 x)).setCell ⟨W.heap.size + 2, 1, none⟩ (.int .i64 y)) (W.heap.size + 2) 24 #[.int .i64 x, .int .i64 y] ∧ Has ((w.setCell ⟨W.heap.size + 2, 0, none⟩ (.int .i64 x)).setCell ⟨W.heap.size + 2, 1, none⟩ (.int .i64 y)) (W.heap.size + 3) 34 (moi zc zc) :=
  ⟨(h.v.b.b.setCell (by simp only; omega) _).setCell (by simp only; omega) _, (h.f6.set 0 _).set 1 _, (h.f7.far (by simp) _).far (by simp) _⟩
theorem rd_fin {x y : Int} {c' d' : Co} (h : Below W.heap.size W w ∧ Has w (W.heap.size + 2) 24 #[.int .i64 x, .int .i64 y] ∧ Has w (W.heap.size + 3) 34 (moi c d)) : Below W.heap.size W (set8 w (W.heap.size + 3) c' d') ∧ Has (set8 w (W.heap.size + 3) c' d') (W.heap.size + 2) 24 #[.int .i64 x, .int .i64 y] ∧ Has (set8 w (W.heap.size + 3) c' d') (W.heap.size + 3) 34 (moi c' d') := by
  have ho := set8_only w (W.heap.size + 3) c' d'
  exact ⟨h.1.trans (ho.below h.1.size (fun i hi => by omega)), h.2.1.only ho (show ¬ W.heap.size + 2 = W.heap.size + 3 by omega), set8_has h.2.2⟩
theorem RD.drew (h : RD W w a A B ca cb lo hi c d) : RD W w.drew a A B ca cb lo hi c d := ⟨⟨⟨below_dr' h.v.b.b, h.v.b.fa.drew⟩, h.v.fw.drew⟩, h.f6.drew, h.f7.drew, h.fm.drew⟩
theorem rd_step {D1 D2 : Nat} {x y : Array Value} (h : RD W w a A B ca cb lo hi c d ∧ Has w D1 48 x ∧ Has w D2 48 y) (hb : Below w.heap.size w w') : RD W w' a A B ca cb lo hi c d ∧ Has w' D1 48 x ∧ Has w' D2 48 y :=
  ⟨h.1.step hb, h.2.1.below hb h.2.1.lt, h.2.2.below hb h.2.2.lt⟩
end
theorem box_rd (W : World) (a : Air) (A B : Option Addr) (ca cb : Nat) (lo hi : Int) : RD W (((((W.alloc (.cells (airc a A B ca cb) 26)).alloc (.cells #[.int .i64 lo, .int .i64 hi] 24)).alloc (.cells #[.int .i64 0, .int .i64 0] 24)).alloc (.cells (moi zc zc) 34)).alloc (.cells (moi zc zc) 34)) a A B ca cb lo hi zc zc :=
  ⟨⟨⟨((((below_one W _).alloc (by simp) _).alloc (by simp; omega) _).alloc (by simp; omega) _).alloc (by simp; omega) _, ((((box_air W a A B ca cb).alloc _).alloc _).alloc _).alloc _⟩, (((has_newAt (by simp)).alloc _).alloc _).alloc _⟩, ((has_newAt (by simp)).alloc _).alloc _, (has_newAt (by simp)).alloc _, has_newAt (by simp)⟩
set_option maxRecDepth 100000 in
set_option maxHeartbeats 8000000 in
theorem dRun_any (a : Air) (A B : Option Addr) (ca cb : Nat) (lo hi : Int) (L : List Stp) (AL : Option Addr) (cl : Nat) (W : World) (har : AR W W.heap.size a A B) (hr : SRow W W.heap.size AL L) (hL : L.length ≤ 9223372036854775807) :
    Calls Try.prog 14 #[airv a A B ca cb, .agg #[.int .i64 lo, .int .i64 hi], .slice AL L.length cl] W (ValPost (runE a lo hi L) W) := by
  have HB := Lib.hid (box_rd W a A B ca cb lo hi)
  have HA := Lib.hid (And.intro har hr)
  have H1 := Lib.hid (fun w h1 h2 => Valid_any a A B ca cb lo hi L AL cl w h1 h2 hL)
  have C0 := Lib.hid (fun s w hv hs hw w1 h => least_any a A B ca cb s w w1 h hv hs hw)
  have C1 := Lib.hid (fun s w hv hs hw w1 h => greatest_any a A B ca cb s w w1 h hv hs hw)
  obtain ⟨R, hR⟩ : ∃ R, R = runE a lo hi L := ⟨_, rfl⟩
  rw [← hR]
  have HRE := Lib.hid hR
  clear hR
  unfold airv at *
  clear har hr
  go_enter Try.func14, Try.ntmps14
  go_upto_region 2 with fail
  generalize (((((W.alloc (.cells (airc a A B ca cb) 26)).alloc (.cells #[.int .i64 lo, .int .i64 hi] 24)).alloc (.cells #[.int .i64 0, .int .i64 0] 24)).alloc (.cells (moi zc zc) 34)).alloc (.cells (moi zc zc) 34)) = w0 at HB ⊢
  have hcall := H1.out w0 (HA.out.1.step HB.out.v.b.b) ((HA.out.2.below HB.out.v.b.b).more HB.out.v.b.b.size)
  have a0 : w0.cell? ⟨W.heap.size, 0, none⟩ = some (.int .i64 a.R) := HB.out.v.b.fa.cell 0
  have a1 : w0.cell? ⟨W.heap.size, 1, none⟩ = some (.slice A a.T.length ca) := HB.out.v.b.fa.cell 1
  have a2 : w0.cell? ⟨W.heap.size, 2, none⟩ = some (.slice B a.H.length cb) := HB.out.v.b.fa.cell 2
  have a3 : w0.cell? ⟨W.heap.size, 3, none⟩ = some (.int .i64 a.b0) := HB.out.v.b.fa.cell 3
  have a4 : w0.cell? ⟨W.heap.size, 4, none⟩ = some (.int .i64 a.b1) := HB.out.v.b.fa.cell 4
  have l0 : w0.cell? ⟨W.heap.size + 1, 0, none⟩ = some (.int .i64 lo) := HB.out.v.fw.cell 0
  have l1 : w0.cell? ⟨W.heap.size + 1, 1, none⟩ = some (.int .i64 hi) := HB.out.v.fw.cell 1
  cases hg : insB a lo hi L <;> rw [hg] at hcall
  · have HX := Lib.hid (show R = .tuple #[.agg #[.int .i64 0, .int .i64 0], .agg (moi zc zc), .int .i64 1] by rw [HRE.out]; unfold runE; rw [if_neg (by rw [hg]; simp)])
    clear HRE hg
    go_wp2_with fail
    refine hcall.mono ?_
    rintro e w1 ⟨rfl, hb1⟩
    have X1 := Lib.hid (HB.out.step hb1)
    clear a0 a1 a2 a3 a4 l0 l1 hb1 hcall
    go_upto_region 3 with fail
    have KR := Lib.hid X1.out.drew
    refine wp_region_late (fun w' : World => w'.cell? ⟨W.heap.size + 1 + 1 + 1 + 1, 0, none⟩ = some (.int .i64 zc.came) ∧ w'.cell? ⟨W.heap.size + 1 + 1 + 1 + 1, 1, none⟩ = some (.int .i64 zc.came) ∧ w'.cell? ⟨W.heap.size + 1 + 1 + 1 + 1, 2, none⟩ = some (.int .i64 zc.out) ∧ w'.cell? ⟨W.heap.size + 1 + 1 + 1 + 1, 3, none⟩ = some (.int .i64 zc.out) ∧ w'.cell? ⟨W.heap.size + 1 + 1 + 1 + 1, 4, none⟩ = some (.int .i64 zc.dried) ∧ w'.cell? ⟨W.heap.size + 1 + 1 + 1 + 1, 5, none⟩ = some (.int .i64 zc.dried) ∧ w'.cell? ⟨W.heap.size + 1 + 1 + 1 + 1, 6, none⟩ = some (.int .i64 zc.dew) ∧ w'.cell? ⟨W.heap.size + 1 + 1 + 1 + 1, 7, none⟩ = some (.int .i64 zc.dew)) [3, 4] (by kernel_rfl) ?_
    generalize w1.drew = wd at KR ⊢
    refine wpLate_take (i := 0) (oi := ?oi0r3) (v := ?v0r3) [2, 3, 4] ?hi0r3 (by kernel_rfl) (by kernel_rfl) (by kernel_rfl) (by kernel_rfl) (by kernel_rfl) ?hQ0r3 (Or.inl ⟨?hw0r3, ?hy0r3⟩) (⟨KR.out.fm.cell 0, KR.out.fm.cell 1, KR.out.fm.cell 2, KR.out.fm.cell 3, KR.out.fm.cell 4, KR.out.fm.cell 5, KR.out.fm.cell 6, KR.out.fm.cell 7⟩) ?rest0r3
    case hi0r3 => (simp only [List.getElem?_toArray, List.getElem?_cons_zero]; rfl)
    case hQ0r3 => exact fun _ _ _ h => h
    case hw0r3 => rfl
    case hy0r3 =>
      intro w' hSw
      obtain ⟨r0, r1, r2, r3, r4, r5, r6, r7⟩ := hSw
      go_simp
      try exact rfl
    try simp only [Act.put, List.setIfInBounds_toArray, List.set_cons_zero, List.set_cons_succ]
    refine wpLate_take (i := 1) (oi := ?oi1r3) (v := ?v1r3) [3, 4] ?hi1r3 (by kernel_rfl) (by kernel_rfl) (by kernel_rfl) (by kernel_rfl) (by kernel_rfl) ?hQ1r3 (Or.inl ⟨?hw1r3, ?hy1r3⟩) (⟨KR.out.fm.cell 0, KR.out.fm.cell 1, KR.out.fm.cell 2, KR.out.fm.cell 3, KR.out.fm.cell 4, KR.out.fm.cell 5, KR.out.fm.cell 6, KR.out.fm.cell 7⟩) ?rest1r3
    case hi1r3 => (simp only [List.getElem?_toArray, List.getElem?_cons_zero, List.getElem?_cons_succ]; rfl)
    case hQ1r3 => exact fun _ _ _ h => h
    case hw1r3 => rfl
    case hy1r3 =>
      intro w' hSw
      obtain ⟨r0, r1, r2, r3, r4, r5, r6, r7⟩ := hSw
      go_simp
      try exact rfl
    try simp only [Act.put, List.setIfInBounds_toArray, List.set_cons_zero, List.set_cons_succ]
    refine wpLate_one (i := 2) (o := ?o2r3) (by kernel_rfl) ?ho2r3 ?hk2r3
    case ho2r3 => (simp only [List.getElem?_toArray, List.getElem?_cons_zero, List.getElem?_cons_succ]; rfl)
    have z0 : wd.cell? ⟨W.heap.size + 1 + 1, 0, none⟩ = some (.int .i64 0) := KR.out.f6.cell 0
    have z1 : wd.cell? ⟨W.heap.size + 1 + 1, 1, none⟩ = some (.int .i64 0) := KR.out.f6.cell 1
    have zf := KR.out.f6.frozen
    have zl := KR.out.f6.lt
    have KS2 : Hid (((wd.setCell ⟨W.heap.size + 1 + 1, 0, none⟩ (.int .i64 0)).setCell ⟨W.heap.size + 1 + 1, 1, none⟩ (.int .i64 0)).cell? ⟨W.heap.size + 1 + 1 + 1 + 1, 0, none⟩ = some (.int .i64 zc.came) ∧ ((wd.setCell ⟨W.heap.size + 1 + 1, 0, none⟩ (.int .i64 0)).setCell ⟨W.heap.size + 1 + 1, 1, none⟩ (.int .i64 0)).cell? ⟨W.heap.size + 1 + 1 + 1 + 1, 1, none⟩ = some (.int .i64 zc.came) ∧ ((wd.setCell ⟨W.heap.size + 1 + 1, 0, none⟩ (.int .i64 0)).setCell ⟨W.heap.size + 1 + 1, 1, none⟩ (.int .i64 0)).cell? ⟨W.heap.size + 1 + 1 + 1 + 1, 2, none⟩ = some (.int .i64 zc.out) ∧ ((wd.setCell ⟨W.heap.size + 1 + 1, 0, none⟩ (.int .i64 0)).setCell ⟨W.heap.size + 1 + 1, 1, none⟩ (.int .i64 0)).cell? ⟨W.heap.size + 1 + 1 + 1 + 1, 3, none⟩ = some (.int .i64 zc.out) ∧ ((wd.setCell ⟨W.heap.size + 1 + 1, 0, none⟩ (.int .i64 0)).setCell ⟨W.heap.size + 1 + 1, 1, none⟩ (.int .i64 0)).cell? ⟨W.heap.size + 1 + 1 + 1 + 1, 4, none⟩ = some (.int .i64 zc.dried) ∧ ((wd.setCell ⟨W.heap.size + 1 + 1, 0, none⟩ (.int .i64 0)).setCell ⟨W.heap.size + 1 + 1, 1, none⟩ (.int .i64 0)).cell? ⟨W.heap.size + 1 + 1 + 1 + 1, 5, none⟩ = some (.int .i64 zc.dried) ∧ ((wd.setCell ⟨W.heap.size + 1 + 1, 0, none⟩ (.int .i64 0)).setCell ⟨W.heap.size + 1 + 1, 1, none⟩ (.int .i64 0)).cell? ⟨W.heap.size + 1 + 1 + 1 + 1, 6, none⟩ = some (.int .i64 zc.dew) ∧ ((wd.setCell ⟨W.heap.size + 1 + 1, 0, none⟩ (.int .i64 0)).setCell ⟨W.heap.size + 1 + 1, 1, none⟩ (.int .i64 0)).cell? ⟨W.heap.size + 1 + 1 + 1 + 1, 7, none⟩ = some (.int .i64 zc.dew)) := ⟨((KR.out.fm.far (by simp) _).far (by simp) _).cell 0, ((KR.out.fm.far (by simp) _).far (by simp) _).cell 1, ((KR.out.fm.far (by simp) _).far (by simp) _).cell 2, ((KR.out.fm.far (by simp) _).far (by simp) _).cell 3, ((KR.out.fm.far (by simp) _).far (by simp) _).cell 4, ((KR.out.fm.far (by simp) _).far (by simp) _).cell 5, ((KR.out.fm.far (by simp) _).far (by simp) _).cell 6, ((KR.out.fm.far (by simp) _).far (by simp) _).cell 7⟩
    intro K hK
    go_simp
    refine hK.out _ _ (fun h => KS2.out) ?_
    clear hK K
    try simp only [Act.put, List.setIfInBounds_toArray, List.set_cons_zero, List.set_cons_succ]
    refine wpLate_one (i := 3) (o := ?o3r3) (by kernel_rfl) ?ho3r3 ?hk3r3
    case ho3r3 => (simp only [List.getElem?_toArray, List.getElem?_cons_zero, List.getElem?_cons_succ]; rfl)
    clear z0 z1 zf zl
    have KM2 := Lib.hid (KR.out.mid 0 0)
    clear KS2
    generalize (wd.setCell ⟨W.heap.size + 1 + 1, 0, none⟩ (.int .i64 0)).setCell ⟨W.heap.size + 1 + 1, 1, none⟩ (.int .i64 0) = wz at KM2 ⊢
    have z0 : wz.cell? ⟨W.heap.size + 1 + 1 + 1, 0, none⟩ = some (.int .i64 0) := KM2.out.2.2.cell 0
    have z1 : wz.cell? ⟨W.heap.size + 1 + 1 + 1, 1, none⟩ = some (.int .i64 0) := KM2.out.2.2.cell 1
    have z2 : wz.cell? ⟨W.heap.size + 1 + 1 + 1, 2, none⟩ = some (.int .i64 0) := KM2.out.2.2.cell 2
    have z3 : wz.cell? ⟨W.heap.size + 1 + 1 + 1, 3, none⟩ = some (.int .i64 0) := KM2.out.2.2.cell 3
    have z4 : wz.cell? ⟨W.heap.size + 1 + 1 + 1, 4, none⟩ = some (.int .i64 0) := KM2.out.2.2.cell 4
    have z5 : wz.cell? ⟨W.heap.size + 1 + 1 + 1, 5, none⟩ = some (.int .i64 0) := KM2.out.2.2.cell 5
    have z6 : wz.cell? ⟨W.heap.size + 1 + 1 + 1, 6, none⟩ = some (.int .i64 0) := KM2.out.2.2.cell 6
    have z7 : wz.cell? ⟨W.heap.size + 1 + 1 + 1, 7, none⟩ = some (.int .i64 0) := KM2.out.2.2.cell 7
    have zf := KM2.out.2.2.frozen
    have zl := KM2.out.2.2.lt
    intro K hK
    go_simp
    refine hK.out _ _ (fun h => absurd h (by decide)) ?_
    clear hK K
    try simp only [Act.put, List.setIfInBounds_toArray, List.set_cons_zero, List.set_cons_succ]
    refine wpLate_one (i := 4) (o := ?o4r3) (by kernel_rfl) ?ho4r3 ?hk4r3
    case ho4r3 => (simp only [List.getElem?_toArray, List.getElem?_cons_zero, List.getElem?_cons_succ]; rfl)
    intro K hK
    go_simp
    refine hK.out _ _ (fun h => absurd h (by decide)) ?_
    clear hK K
    try simp only [Act.put, List.setIfInBounds_toArray, List.set_cons_zero, List.set_cons_succ]
    refine wpLate_done (by kernel_rfl) ?_ _
    try simp only [Act.put, List.setIfInBounds_toArray, List.set_cons_zero, List.set_cons_succ]

    go_wp2_with fail
    have KF := Lib.hid (rd_fin (c' := zc) (d' := zc) KM2.out)
    refine (show bodyPost _ _ _ _ _ (set8 wz (W.heap.size + 3) zc zc) from ?_)
    generalize set8 wz (W.heap.size + 3) zc zc = wf at KF ⊢
    have q0 : wf.cell? ⟨W.heap.size + 1 + 1, 0, none⟩ = some (.int .i64 0) := KF.out.2.1.cell 0
    have q1 : wf.cell? ⟨W.heap.size + 1 + 1, 1, none⟩ = some (.int .i64 0) := KF.out.2.1.cell 1
    have r0 : wf.cell? ⟨W.heap.size + 1 + 1 + 1, 0, none⟩ = some (.int .i64 zc.came) := KF.out.2.2.cell 0
    have r1 : wf.cell? ⟨W.heap.size + 1 + 1 + 1, 1, none⟩ = some (.int .i64 zc.came) := KF.out.2.2.cell 1
    have r2 : wf.cell? ⟨W.heap.size + 1 + 1 + 1, 2, none⟩ = some (.int .i64 zc.out) := KF.out.2.2.cell 2
    have r3 : wf.cell? ⟨W.heap.size + 1 + 1 + 1, 3, none⟩ = some (.int .i64 zc.out) := KF.out.2.2.cell 3
    have r4 : wf.cell? ⟨W.heap.size + 1 + 1 + 1, 4, none⟩ = some (.int .i64 zc.dried) := KF.out.2.2.cell 4
    have r5 : wf.cell? ⟨W.heap.size + 1 + 1 + 1, 5, none⟩ = some (.int .i64 zc.dried) := KF.out.2.2.cell 5
    have r6 : wf.cell? ⟨W.heap.size + 1 + 1 + 1, 6, none⟩ = some (.int .i64 zc.dew) := KF.out.2.2.cell 6
    have r7 : wf.cell? ⟨W.heap.size + 1 + 1 + 1, 7, none⟩ = some (.int .i64 zc.dew) := KF.out.2.2.cell 7
    refine bodyPost_ret (v := .tuple #[.agg #[.int .i64 0, .int .i64 0], .agg (moi zc zc), .int .i64 1]) (by simp [results, Try.results14, go_sem, q0, q1, r0, r1, r2, r3, r4, r5, r6, r7]) rfl ?_
    exact ⟨by rw [HX.out], KF.out.1⟩
  have HG := Lib.hid ((insB_iff a lo hi L).1 hg)
  have HL := Lib.hid (And.intro (ins_gl hg) (msOf_len a L))
  have HK := Lib.hid hg
  clear hg
  go_wp2_with fail
  refine hcall.mono ?_
  rintro e w1 ⟨rfl, hb1⟩
  have X1 := Lib.hid (HB.out.step hb1)
  clear a0 a1 a2 a3 a4 l0 l1 hb1 hcall
  go_wp2_with fail
  go_loopg [10] L.length (fun gk i wr => ∃ k : Nat, k ≤ L.length ∧ L.length - k ≤ gk ∧ i = .int .i64 k ∧ Hid (RD W wr a A B ca cb (crs lo (·.c0) (msOf a L) k).w (crs hi (·.c1) (msOf a L) k).w (crs lo (·.c0) (msOf a L) k) (crs hi (·.c1) (msOf a L) k)))
  case atStart => exact ⟨0, Nat.zero_le _, Nat.le_refl _, rfl, Lib.hid ⟨X1.out.v, X1.out.f6, X1.out.f7, X1.out.fm⟩⟩
  case round =>
    obtain ⟨k, hk, hgk, rfl, HW⟩ := hrel
    by_cases hlt : k < L.length
    rotate_left
    · have hge : ¬ (k : Int) < L.length := by omega
      have hke : k = L.length := by omega
      obtain ⟨c, hcc⟩ : ∃ x, x = crs lo (·.c0) (msOf a L) k := ⟨_, rfl⟩
      obtain ⟨d, hdd⟩ : ∃ x, x = crs hi (·.c1) (msOf a L) k := ⟨_, rfl⟩
      have HX := Lib.hid (show R = .tuple #[.agg #[.int .i64 c.w, .int .i64 d.w], .agg (moi c d), .int .i64 0] by rw [HRE.out]; unfold runE; rw [if_pos HK.out]; unfold runL runH; rw [← hke, ← hcc, ← hdd])
      rw [← hcc, ← hdd] at HW
      clear hcc hdd hke
      go_upto_region 10 with fail
      have KR := Lib.hid HW.out.drew
      refine wp_region_late (fun w' : World => w'.cell? ⟨W.heap.size + 1, 0, none⟩ = some (.int .i64 c.w) ∧ w'.cell? ⟨W.heap.size + 1, 1, none⟩ = some (.int .i64 d.w) ∧ w'.cell? ⟨W.heap.size + 1 + 1 + 1 + 1, 0, none⟩ = some (.int .i64 c.came) ∧ w'.cell? ⟨W.heap.size + 1 + 1 + 1 + 1, 1, none⟩ = some (.int .i64 d.came) ∧ w'.cell? ⟨W.heap.size + 1 + 1 + 1 + 1, 2, none⟩ = some (.int .i64 c.out) ∧ w'.cell? ⟨W.heap.size + 1 + 1 + 1 + 1, 3, none⟩ = some (.int .i64 d.out) ∧ w'.cell? ⟨W.heap.size + 1 + 1 + 1 + 1, 4, none⟩ = some (.int .i64 c.dried) ∧ w'.cell? ⟨W.heap.size + 1 + 1 + 1 + 1, 5, none⟩ = some (.int .i64 d.dried) ∧ w'.cell? ⟨W.heap.size + 1 + 1 + 1 + 1, 6, none⟩ = some (.int .i64 c.dew) ∧ w'.cell? ⟨W.heap.size + 1 + 1 + 1 + 1, 7, none⟩ = some (.int .i64 d.dew)) [3, 4] (by kernel_rfl) ?_
      generalize wr.drew = wd at KR ⊢
      refine wpLate_take (i := 0) (oi := ?oi0r10) (v := ?v0r10) [2, 3, 4] ?hi0r10 (by kernel_rfl) (by kernel_rfl) (by kernel_rfl) (by kernel_rfl) (by kernel_rfl) ?hQ0r10 (Or.inl ⟨?hw0r10, ?hy0r10⟩) (⟨KR.out.v.fw.cell 0, KR.out.v.fw.cell 1, KR.out.fm.cell 0, KR.out.fm.cell 1, KR.out.fm.cell 2, KR.out.fm.cell 3, KR.out.fm.cell 4, KR.out.fm.cell 5, KR.out.fm.cell 6, KR.out.fm.cell 7⟩) ?rest0r10
      case hi0r10 => (simp only [List.getElem?_toArray, List.getElem?_cons_zero]; rfl)
      case hQ0r10 => exact fun _ _ _ h => h
      case hw0r10 => rfl
      case hy0r10 =>
        intro w' hSw
        obtain ⟨r0, r1, r2, r3, r4, r5, r6, r7, r8, r9⟩ := hSw
        go_simp
        try exact rfl
      try simp only [Act.put, List.setIfInBounds_toArray, List.set_cons_zero, List.set_cons_succ]
      refine wpLate_take (i := 1) (oi := ?oi1r10) (v := ?v1r10) [3, 4] ?hi1r10 (by kernel_rfl) (by kernel_rfl) (by kernel_rfl) (by kernel_rfl) (by kernel_rfl) ?hQ1r10 (Or.inl ⟨?hw1r10, ?hy1r10⟩) (⟨KR.out.v.fw.cell 0, KR.out.v.fw.cell 1, KR.out.fm.cell 0, KR.out.fm.cell 1, KR.out.fm.cell 2, KR.out.fm.cell 3, KR.out.fm.cell 4, KR.out.fm.cell 5, KR.out.fm.cell 6, KR.out.fm.cell 7⟩) ?rest1r10
      case hi1r10 => (simp only [List.getElem?_toArray, List.getElem?_cons_zero, List.getElem?_cons_succ]; rfl)
      case hQ1r10 => exact fun _ _ _ h => h
      case hw1r10 => rfl
      case hy1r10 =>
        intro w' hSw
        obtain ⟨r0, r1, r2, r3, r4, r5, r6, r7, r8, r9⟩ := hSw
        go_simp
        try exact rfl
      try simp only [Act.put, List.setIfInBounds_toArray, List.set_cons_zero, List.set_cons_succ]
      refine wpLate_one (i := 2) (o := ?o2r10) (by kernel_rfl) ?ho2r10 ?hk2r10
      case ho2r10 => (simp only [List.getElem?_toArray, List.getElem?_cons_zero, List.getElem?_cons_succ]; rfl)
      have z0 : wd.cell? ⟨W.heap.size + 1 + 1, 0, none⟩ = some (.int .i64 0) := KR.out.f6.cell 0
      have z1 : wd.cell? ⟨W.heap.size + 1 + 1, 1, none⟩ = some (.int .i64 0) := KR.out.f6.cell 1
      have zf := KR.out.f6.frozen
      have zl := KR.out.f6.lt
      have KS2 : Hid (((wd.setCell ⟨W.heap.size + 1 + 1, 0, none⟩ (.int .i64 c.w)).setCell ⟨W.heap.size + 1 + 1, 1, none⟩ (.int .i64 d.w)).cell? ⟨W.heap.size + 1, 0, none⟩ = some (.int .i64 c.w) ∧ ((wd.setCell ⟨W.heap.size + 1 + 1, 0, none⟩ (.int .i64 c.w)).setCell ⟨W.heap.size + 1 + 1, 1, none⟩ (.int .i64 d.w)).cell? ⟨W.heap.size + 1, 1, none⟩ = some (.int .i64 d.w) ∧ ((wd.setCell ⟨W.heap.size + 1 + 1, 0, none⟩ (.int .i64 c.w)).setCell ⟨W.heap.size + 1 + 1, 1, none⟩ (.int .i64 d.w)).cell? ⟨W.heap.size + 1 + 1 + 1 + 1, 0, none⟩ = some (.int .i64 c.came) ∧ ((wd.setCell ⟨W.heap.size + 1 + 1, 0, none⟩ (.int .i64 c.w)).setCell ⟨W.heap.size + 1 + 1, 1, none⟩ (.int .i64 d.w)).cell? ⟨W.heap.size + 1 + 1 + 1 + 1, 1, none⟩ = some (.int .i64 d.came) ∧ ((wd.setCell ⟨W.heap.size + 1 + 1, 0, none⟩ (.int .i64 c.w)).setCell ⟨W.heap.size + 1 + 1, 1, none⟩ (.int .i64 d.w)).cell? ⟨W.heap.size + 1 + 1 + 1 + 1, 2, none⟩ = some (.int .i64 c.out) ∧ ((wd.setCell ⟨W.heap.size + 1 + 1, 0, none⟩ (.int .i64 c.w)).setCell ⟨W.heap.size + 1 + 1, 1, none⟩ (.int .i64 d.w)).cell? ⟨W.heap.size + 1 + 1 + 1 + 1, 3, none⟩ = some (.int .i64 d.out) ∧ ((wd.setCell ⟨W.heap.size + 1 + 1, 0, none⟩ (.int .i64 c.w)).setCell ⟨W.heap.size + 1 + 1, 1, none⟩ (.int .i64 d.w)).cell? ⟨W.heap.size + 1 + 1 + 1 + 1, 4, none⟩ = some (.int .i64 c.dried) ∧ ((wd.setCell ⟨W.heap.size + 1 + 1, 0, none⟩ (.int .i64 c.w)).setCell ⟨W.heap.size + 1 + 1, 1, none⟩ (.int .i64 d.w)).cell? ⟨W.heap.size + 1 + 1 + 1 + 1, 5, none⟩ = some (.int .i64 d.dried) ∧ ((wd.setCell ⟨W.heap.size + 1 + 1, 0, none⟩ (.int .i64 c.w)).setCell ⟨W.heap.size + 1 + 1, 1, none⟩ (.int .i64 d.w)).cell? ⟨W.heap.size + 1 + 1 + 1 + 1, 6, none⟩ = some (.int .i64 c.dew) ∧ ((wd.setCell ⟨W.heap.size + 1 + 1, 0, none⟩ (.int .i64 c.w)).setCell ⟨W.heap.size + 1 + 1, 1, none⟩ (.int .i64 d.w)).cell? ⟨W.heap.size + 1 + 1 + 1 + 1, 7, none⟩ = some (.int .i64 d.dew)) := ⟨((KR.out.v.fw.far (by simp) _).far (by simp) _).cell 0, ((KR.out.v.fw.far (by simp) _).far (by simp) _).cell 1, ((KR.out.fm.far (by simp) _).far (by simp) _).cell 0, ((KR.out.fm.far (by simp) _).far (by simp) _).cell 1, ((KR.out.fm.far (by simp) _).far (by simp) _).cell 2, ((KR.out.fm.far (by simp) _).far (by simp) _).cell 3, ((KR.out.fm.far (by simp) _).far (by simp) _).cell 4, ((KR.out.fm.far (by simp) _).far (by simp) _).cell 5, ((KR.out.fm.far (by simp) _).far (by simp) _).cell 6, ((KR.out.fm.far (by simp) _).far (by simp) _).cell 7⟩
      intro K hK
      go_simp
      refine hK.out _ _ (fun h => KS2.out) ?_
      clear hK K
      try simp only [Act.put, List.setIfInBounds_toArray, List.set_cons_zero, List.set_cons_succ]
      refine wpLate_one (i := 3) (o := ?o3r10) (by kernel_rfl) ?ho3r10 ?hk3r10
      case ho3r10 => (simp only [List.getElem?_toArray, List.getElem?_cons_zero, List.getElem?_cons_succ]; rfl)
      clear z0 z1 zf zl
      have KM2 := Lib.hid (KR.out.mid c.w d.w)
      clear KS2
      generalize (wd.setCell ⟨W.heap.size + 1 + 1, 0, none⟩ (.int .i64 c.w)).setCell ⟨W.heap.size + 1 + 1, 1, none⟩ (.int .i64 d.w) = wz at KM2 ⊢
      have z0 : wz.cell? ⟨W.heap.size + 1 + 1 + 1, 0, none⟩ = some (.int .i64 0) := KM2.out.2.2.cell 0
      have z1 : wz.cell? ⟨W.heap.size + 1 + 1 + 1, 1, none⟩ = some (.int .i64 0) := KM2.out.2.2.cell 1
      have z2 : wz.cell? ⟨W.heap.size + 1 + 1 + 1, 2, none⟩ = some (.int .i64 0) := KM2.out.2.2.cell 2
      have z3 : wz.cell? ⟨W.heap.size + 1 + 1 + 1, 3, none⟩ = some (.int .i64 0) := KM2.out.2.2.cell 3
      have z4 : wz.cell? ⟨W.heap.size + 1 + 1 + 1, 4, none⟩ = some (.int .i64 0) := KM2.out.2.2.cell 4
      have z5 : wz.cell? ⟨W.heap.size + 1 + 1 + 1, 5, none⟩ = some (.int .i64 0) := KM2.out.2.2.cell 5
      have z6 : wz.cell? ⟨W.heap.size + 1 + 1 + 1, 6, none⟩ = some (.int .i64 0) := KM2.out.2.2.cell 6
      have z7 : wz.cell? ⟨W.heap.size + 1 + 1 + 1, 7, none⟩ = some (.int .i64 0) := KM2.out.2.2.cell 7
      have zf := KM2.out.2.2.frozen
      have zl := KM2.out.2.2.lt
      intro K hK
      go_simp
      refine hK.out _ _ (fun h => absurd h (by decide)) ?_
      clear hK K
      try simp only [Act.put, List.setIfInBounds_toArray, List.set_cons_zero, List.set_cons_succ]
      refine wpLate_one (i := 4) (o := ?o4r10) (by kernel_rfl) ?ho4r10 ?hk4r10
      case ho4r10 => (simp only [List.getElem?_toArray, List.getElem?_cons_zero, List.getElem?_cons_succ]; rfl)
      intro K hK
      go_simp
      refine hK.out _ _ (fun h => absurd h (by decide)) ?_
      clear hK K
      try simp only [Act.put, List.setIfInBounds_toArray, List.set_cons_zero, List.set_cons_succ]
      refine wpLate_done (by kernel_rfl) ?_ _
      try simp only [Act.put, List.setIfInBounds_toArray, List.set_cons_zero, List.set_cons_succ]

      go_wp2_with fail
      have KF := Lib.hid (rd_fin (c' := c) (d' := d) KM2.out)
      refine (show bodyPost _ _ _ _ _ (set8 wz (W.heap.size + 3) c d) from ?_)
      generalize set8 wz (W.heap.size + 3) c d = wf at KF ⊢
      have q0 : wf.cell? ⟨W.heap.size + 1 + 1, 0, none⟩ = some (.int .i64 c.w) := KF.out.2.1.cell 0
      have q1 : wf.cell? ⟨W.heap.size + 1 + 1, 1, none⟩ = some (.int .i64 d.w) := KF.out.2.1.cell 1
      have r0 : wf.cell? ⟨W.heap.size + 1 + 1 + 1, 0, none⟩ = some (.int .i64 c.came) := KF.out.2.2.cell 0
      have r1 : wf.cell? ⟨W.heap.size + 1 + 1 + 1, 1, none⟩ = some (.int .i64 d.came) := KF.out.2.2.cell 1
      have r2 : wf.cell? ⟨W.heap.size + 1 + 1 + 1, 2, none⟩ = some (.int .i64 c.out) := KF.out.2.2.cell 2
      have r3 : wf.cell? ⟨W.heap.size + 1 + 1 + 1, 3, none⟩ = some (.int .i64 d.out) := KF.out.2.2.cell 3
      have r4 : wf.cell? ⟨W.heap.size + 1 + 1 + 1, 4, none⟩ = some (.int .i64 c.dried) := KF.out.2.2.cell 4
      have r5 : wf.cell? ⟨W.heap.size + 1 + 1 + 1, 5, none⟩ = some (.int .i64 d.dried) := KF.out.2.2.cell 5
      have r6 : wf.cell? ⟨W.heap.size + 1 + 1 + 1, 6, none⟩ = some (.int .i64 c.dew) := KF.out.2.2.cell 6
      have r7 : wf.cell? ⟨W.heap.size + 1 + 1 + 1, 7, none⟩ = some (.int .i64 d.dew) := KF.out.2.2.cell 7
      refine bodyPost_ret (v := .tuple #[.agg #[.int .i64 c.w, .int .i64 d.w], .agg (moi c d), .int .i64 0]) (by simp [results, Try.results14, go_sem, q0, q1, r0, r1, r2, r3, r4, r5, r6, r7]) rfl ?_
      exact ⟨by rw [HX.out], KF.out.1⟩
    have hlt2 : (k : Int) < L.length := by omega
    obtain ⟨g, o, hg, hgs, hc⟩ := (HA.out.2.below HW.out.v.b.b) k hlt
    have hkm : k < (msOf a L).length := by rw [HL.out.2]; exact hlt
    have hmk : (msOf a L)[k] = moOf a L[k] := by simp [msOf]
    have hbl := crs_good (f := (·.c0)) HL.out.1.lo HL.out.1.g (fun m hm => by have := hm.c; omega) k (by omega)
    have hbh := crs_good (f := (·.c1)) HL.out.1.hi HL.out.1.g (fun m hm => by have := hm.c; omega) k (by omega)
    have hcl := crs_step (w := lo) (f := (·.c0)) hkm
    have hch := crs_step (w := hi) (f := (·.c1)) hkm
    rw [hmk] at hcl hch
    rw [pass_one] at hcl hch
    have hVS := HG.out.2.2.2 _ (List.getElem_mem hlt)
    have c40 := C0.out L[k] _ HG.out.1 hVS hbl.w
    have c41 := C1.out L[k] _ HG.out.1 hVS hbh.w
    change ∀ w1, _ → Calls Try.prog 40 _ w1 (FloPost (passP (one (crs lo (·.c0) (msOf a L) k).w) (moOf a L[k]) (moOf a L[k]).c0) w1) at c40
    change ∀ w1, _ → Calls Try.prog 41 _ w1 (FloPost (passP (one (crs hi (·.c1) (msOf a L) k).w) (moOf a L[k]) (moOf a L[k]).c1) w1) at c41
    have hmo := moOf_good HG.out.1 hVS
    have hXg := pass_good (c := one (crs lo (·.c0) (msOf a L) k).w) (k := 0) ⟨hbl.w, by simp [one], by simp [one], by simp [one], by simp [one]⟩ hmo (show 0 ≤ (moOf a L[k]).c0 ∧ (moOf a L[k]).c0 ≤ 274877906944 by have := hmo.c; omega)
    have hYg := pass_good (c := one (crs hi (·.c1) (msOf a L) k).w) (k := 0) ⟨hbh.w, by simp [one], by simp [one], by simp [one], by simp [one]⟩ hmo (show 0 ≤ (moOf a L[k]).c1 ∧ (moOf a L[k]).c1 ≤ 274877906944 by have := hmo.c; omega)
    change crs lo (·.c0) (msOf a L) (k + 1) = Co.mk (passP (one (crs lo (·.c0) (msOf a L) k).w) (moOf a L[k]) (moOf a L[k]).c0).w (_ + (passP (one (crs lo (·.c0) (msOf a L) k).w) (moOf a L[k]) (moOf a L[k]).c0).came) (_ + (passP (one (crs lo (·.c0) (msOf a L) k).w) (moOf a L[k]) (moOf a L[k]).c0).out) (_ + (passP (one (crs lo (·.c0) (msOf a L) k).w) (moOf a L[k]) (moOf a L[k]).c0).dried) (_ + (passP (one (crs lo (·.c0) (msOf a L) k).w) (moOf a L[k]) (moOf a L[k]).c0).dew) at hcl
    change crs hi (·.c1) (msOf a L) (k + 1) = Co.mk (passP (one (crs hi (·.c1) (msOf a L) k).w) (moOf a L[k]) (moOf a L[k]).c1).w (_ + (passP (one (crs hi (·.c1) (msOf a L) k).w) (moOf a L[k]) (moOf a L[k]).c1).came) (_ + (passP (one (crs hi (·.c1) (msOf a L) k).w) (moOf a L[k]) (moOf a L[k]).c1).out) (_ + (passP (one (crs hi (·.c1) (msOf a L) k).w) (moOf a L[k]) (moOf a L[k]).c1).dried) (_ + (passP (one (crs hi (·.c1) (msOf a L) k).w) (moOf a L[k]) (moOf a L[k]).c1).dew) at hch
    obtain ⟨X, hX⟩ : ∃ X, X = passP (one (crs lo (·.c0) (msOf a L) k).w) (moOf a L[k]) (moOf a L[k]).c0 := ⟨_, rfl⟩
    obtain ⟨Y, hY⟩ : ∃ Y, Y = passP (one (crs hi (·.c1) (msOf a L) k).w) (moOf a L[k]) (moOf a L[k]).c1 := ⟨_, rfl⟩
    rw [← hX] at c40 hcl hXg
    rw [← hY] at c41 hch hYg
    clear hX hY hmo
    obtain ⟨c, hcc⟩ : ∃ x, x = crs lo (·.c0) (msOf a L) k := ⟨_, rfl⟩
    obtain ⟨d, hdd⟩ : ∃ x, x = crs hi (·.c1) (msOf a L) k := ⟨_, rfl⟩
    rw [← hcc] at c40 HW hcl hbl
    rw [← hdd] at c41 HW hch hbh
    have HN := Lib.hid (And.intro hcl hch)
    have hk200 : k ≤ 200 := by have := HG.out.2.2.1; omega
    have b1 := hbl.came; have b2 := hbl.out; have b3 := hbl.dried; have b4 := hbl.dew
    have b5 := hbh.came; have b6 := hbh.out; have b7 := hbh.dried; have b8 := hbh.dew
    have g1 := hXg.came; have g2 := hXg.out; have g3 := hXg.dried; have g4 := hXg.dew
    have g5 := hYg.came; have g6 := hYg.out; have g7 := hYg.dried; have g8 := hYg.dew
    have HP0 := Lib.hid (fun w => plus_any c.came d.came X.came Y.came w (by omega) (by omega) (by omega) (by omega))
    have HP1 := Lib.hid (fun w => plus_any c.out d.out X.out Y.out w (by omega) (by omega) (by omega) (by omega))
    have HP2 := Lib.hid (fun w => plus_any c.dried d.dried X.dried Y.dried w (by omega) (by omega) (by omega) (by omega))
    have HP3 := Lib.hid (fun w => plus_any c.dew d.dew X.dew Y.dew w (by omega) (by omega) (by omega) (by omega))
    clear b1 b2 b3 b4 b5 b6 b7 b8 g1 g2 g3 g4 g5 g6 g7 g8 hXg hYg hk200
    obtain ⟨s, hs⟩ : ∃ s, s = L[k] := ⟨_, rfl⟩
    rw [← hs] at hc c40 c41
    clear hs hcc hdd hcl hch hbl hbh hVS hkm hmk
    have C40 := Lib.hid (fun w (hb : Below wr.heap.size wr w) => c40 w (HA.out.1.step (HW.out.step hb).v.b.b))
    have C41 := Lib.hid (fun w (hb : Below wr.heap.size wr w) => c41 w (HA.out.1.step (HW.out.step hb).v.b.b))
    have hgw : g < wr.heap.size := by have := HW.out.v.b.b.size; omega
    have KS : Hid (∀ w', Below wr.heap.size wr w' → w'.cell? ⟨W.heap.size, 0, none⟩ = some (.int .i64 a.R) ∧ w'.cell? ⟨W.heap.size, 1, none⟩ = some (.slice A a.T.length ca) ∧ w'.cell? ⟨W.heap.size, 2, none⟩ = some (.slice B a.H.length cb) ∧ w'.cell? ⟨W.heap.size, 3, none⟩ = some (.int .i64 a.b0) ∧ w'.cell? ⟨W.heap.size, 4, none⟩ = some (.int .i64 a.b1) ∧ w'.cell? ⟨W.heap.size + 1, 0, none⟩ = some (.int .i64 c.w) ∧ w'.cell? ⟨W.heap.size + 1, 1, none⟩ = some (.int .i64 d.w) ∧ w'.cell? ⟨g, o + k * 8, none⟩ = some (.int .i64 s.cold) ∧ w'.cell? ⟨g, o + k * 8 + 1, none⟩ = some (.int .i64 s.ppl) ∧ w'.cell? ⟨g, o + k * 8 + 2, none⟩ = some (.int .i64 s.chg) ∧ w'.cell? ⟨g, o + k * 8 + 3, none⟩ = some (.int .i64 s.o0) ∧ w'.cell? ⟨g, o + k * 8 + 4, none⟩ = some (.int .i64 s.o1) ∧ w'.cell? ⟨g, o + k * 8 + 5, none⟩ = some (.int .i64 s.s0) ∧ w'.cell? ⟨g, o + k * 8 + 6, none⟩ = some (.int .i64 s.s1) ∧ w'.cell? ⟨g, o + k * 8 + 7, none⟩ = some (.int .i64 s.dry)) := Lib.hid (fun w' hb => ⟨(HW.out.step hb).v.b.fa.cell 0, (HW.out.step hb).v.b.fa.cell 1, (HW.out.step hb).v.b.fa.cell 2, (HW.out.step hb).v.b.fa.cell 3, (HW.out.step hb).v.b.fa.cell 4, (HW.out.step hb).v.fw.cell 0, (HW.out.step hb).v.fw.cell 1, (hb.cell (p := ⟨g, _, none⟩) hgw).trans (hc 0 (by omega)), (hb.cell (p := ⟨g, _, none⟩) hgw).trans (hc 1 (by omega)), (hb.cell (p := ⟨g, _, none⟩) hgw).trans (hc 2 (by omega)), (hb.cell (p := ⟨g, _, none⟩) hgw).trans (hc 3 (by omega)), (hb.cell (p := ⟨g, _, none⟩) hgw).trans (hc 4 (by omega)), (hb.cell (p := ⟨g, _, none⟩) hgw).trans (hc 5 (by omega)), (hb.cell (p := ⟨g, _, none⟩) hgw).trans (hc 6 (by omega)), (hb.cell (p := ⟨g, _, none⟩) hgw).trans (hc 7 (by omega))⟩)
    subst hg
    clear hc hgs hgw c40 c41
    go_upto_region 7 with fail
    go_cut [11, 12] (fun u v wx => ∃ D1 D2, u = .pointer (some ⟨D1, 0, none⟩) ∧ v = .pointer (some ⟨D2, 0, none⟩) ∧ Hid (TF wr wx D1 D2 (coc X) (coc Y)))
    case first =>
      have KT := Lib.hid (TW.start wr)
      refine wp_region_late (fun w' : World => w'.cell? ⟨W.heap.size, 0, none⟩ = some (.int .i64 a.R) ∧ w'.cell? ⟨W.heap.size, 1, none⟩ = some (.slice A a.T.length ca) ∧ w'.cell? ⟨W.heap.size, 2, none⟩ = some (.slice B a.H.length cb) ∧ w'.cell? ⟨W.heap.size, 3, none⟩ = some (.int .i64 a.b0) ∧ w'.cell? ⟨W.heap.size, 4, none⟩ = some (.int .i64 a.b1) ∧ w'.cell? ⟨W.heap.size + 1, 0, none⟩ = some (.int .i64 c.w) ∧ w'.cell? ⟨W.heap.size + 1, 1, none⟩ = some (.int .i64 d.w) ∧ w'.cell? ⟨g, o + k * 8, none⟩ = some (.int .i64 s.cold) ∧ w'.cell? ⟨g, o + k * 8 + 1, none⟩ = some (.int .i64 s.ppl) ∧ w'.cell? ⟨g, o + k * 8 + 2, none⟩ = some (.int .i64 s.chg) ∧ w'.cell? ⟨g, o + k * 8 + 3, none⟩ = some (.int .i64 s.o0) ∧ w'.cell? ⟨g, o + k * 8 + 4, none⟩ = some (.int .i64 s.o1) ∧ w'.cell? ⟨g, o + k * 8 + 5, none⟩ = some (.int .i64 s.s0) ∧ w'.cell? ⟨g, o + k * 8 + 6, none⟩ = some (.int .i64 s.s1) ∧ w'.cell? ⟨g, o + k * 8 + 7, none⟩ = some (.int .i64 s.dry)) [18, 19] (by kernel_rfl) ?_
      generalize wr.drew = wd at KT ⊢
      refine wpLate_take (i := 0) (oi := ?oit0) (v := ?vt0) [7, 15, 18, 19] ?hit0 (by kernel_rfl) (by kernel_rfl) (by kernel_rfl) (by kernel_rfl) (by kernel_rfl) ?hQt0 (Or.inl ⟨?hwt0, ?hyt0⟩) (KS.out _ KT.out.b) ?restt0
      case hit0 => (simp only [List.getElem?_toArray, List.getElem?_cons_zero]; rfl)
      case hQt0 => exact fun _ _ _ h => h
      case hwt0 => rfl
      case hyt0 =>
        intro w' hSw
        obtain ⟨r0, r1, r2, r3, r4, r5, r6, r7, r8, r9, r10, r11, r12, r13, r14⟩ := hSw
        go_simp
        try exact rfl
      try simp only [Act.put, List.setIfInBounds_toArray, List.set_cons_zero, List.set_cons_succ]
      refine wpLate_take (i := 1) (oi := ?oit1) (v := ?vt1) [2, 7, 15, 18, 19] ?hit1 (by kernel_rfl) (by kernel_rfl) (by kernel_rfl) (by kernel_rfl) (by kernel_rfl) ?hQt1 (Or.inl ⟨?hwt1, ?hyt1⟩) (KS.out _ KT.out.b) ?restt1
      case hit1 => (simp only [List.getElem?_toArray, List.getElem?_cons_zero, List.getElem?_cons_succ]; rfl)
      case hQt1 => exact fun _ _ _ h => h
      case hwt1 => rfl
      case hyt1 =>
        intro w' hSw
        obtain ⟨r0, r1, r2, r3, r4, r5, r6, r7, r8, r9, r10, r11, r12, r13, r14⟩ := hSw
        go_simp
        try exact rfl
      try simp only [Act.put, List.setIfInBounds_toArray, List.set_cons_zero, List.set_cons_succ]
      refine wpLate_take (i := 2) (oi := ?oit2) (v := ?vt2) [7, 15, 18, 19] ?hit2 (by kernel_rfl) (by kernel_rfl) (by kernel_rfl) (by kernel_rfl) (by kernel_rfl) ?hQt2 (Or.inl ⟨?hwt2, ?hyt2⟩) (KS.out _ KT.out.b) ?restt2
      case hit2 => (simp only [List.getElem?_toArray, List.getElem?_cons_zero, List.getElem?_cons_succ]; rfl)
      case hQt2 => exact fun _ _ _ h => h
      case hwt2 => rfl
      case hyt2 =>
        intro w' hSw
        obtain ⟨r0, r1, r2, r3, r4, r5, r6, r7, r8, r9, r10, r11, r12, r13, r14⟩ := hSw
        go_simp
        try exact rfl
      try simp only [Act.put, List.setIfInBounds_toArray, List.set_cons_zero, List.set_cons_succ]
      refine wpLate_take (i := 3) (oi := ?oit3) (v := ?vt3) [5, 6, 7, 15, 18, 19] ?hit3 (by kernel_rfl) (by kernel_rfl) (by kernel_rfl) (by kernel_rfl) (by kernel_rfl) ?hQt3 (Or.inl ⟨?hwt3, ?hyt3⟩) (KS.out _ KT.out.b) ?restt3
      case hit3 => (simp only [List.getElem?_toArray, List.getElem?_cons_zero, List.getElem?_cons_succ]; rfl)
      case hQt3 => exact fun _ _ _ h => h
      case hwt3 => rfl
      case hyt3 =>
        intro w' hSw
        obtain ⟨r0, r1, r2, r3, r4, r5, r6, r7, r8, r9, r10, r11, r12, r13, r14⟩ := hSw
        go_simp
        try exact rfl
      try simp only [Act.put, List.setIfInBounds_toArray, List.set_cons_zero, List.set_cons_succ]
      refine wpLate_take (i := 4) (oi := ?oit4) (v := ?vt4) [5, 6, 7, 15, 18, 19] ?hit4 (by kernel_rfl) (by kernel_rfl) (by kernel_rfl) (by kernel_rfl) (by kernel_rfl) ?hQt4 (Or.inl ⟨?hwt4, ?hyt4⟩) (KS.out _ KT.out.b) ?restt4
      case hit4 => (simp only [List.getElem?_toArray, List.getElem?_cons_zero, List.getElem?_cons_succ]; rfl)
      case hQt4 => exact fun _ _ _ h => h
      case hwt4 => rfl
      case hyt4 =>
        intro w' hSw
        obtain ⟨r0, r1, r2, r3, r4, r5, r6, r7, r8, r9, r10, r11, r12, r13, r14⟩ := hSw
        go_simp
        try exact rfl
      try simp only [Act.put, List.setIfInBounds_toArray, List.set_cons_zero, List.set_cons_succ]
      refine wpLate_take (i := 5) (oi := ?oit5) (v := ?vt5) [6, 7, 15, 18, 19] ?hit5 (by kernel_rfl) (by kernel_rfl) (by kernel_rfl) (by kernel_rfl) (by kernel_rfl) ?hQt5 (Or.inl ⟨?hwt5, ?hyt5⟩) (KS.out _ KT.out.b) ?restt5
      case hit5 => (simp only [List.getElem?_toArray, List.getElem?_cons_zero, List.getElem?_cons_succ]; rfl)
      case hQt5 => exact fun _ _ _ h => h
      case hwt5 => rfl
      case hyt5 =>
        intro w' hSw
        obtain ⟨r0, r1, r2, r3, r4, r5, r6, r7, r8, r9, r10, r11, r12, r13, r14⟩ := hSw
        go_simp
        try exact rfl
      try simp only [Act.put, List.setIfInBounds_toArray, List.set_cons_zero, List.set_cons_succ]
      refine wpLate_take (i := 6) (oi := ?oit6) (v := ?vt6) [7, 15, 18, 19] ?hit6 (by kernel_rfl) (by kernel_rfl) (by kernel_rfl) (by kernel_rfl) (by kernel_rfl) ?hQt6 (Or.inl ⟨?hwt6, ?hyt6⟩) (KS.out _ KT.out.b) ?restt6
      case hit6 => (simp only [List.getElem?_toArray, List.getElem?_cons_zero, List.getElem?_cons_succ]; rfl)
      case hQt6 => exact fun _ _ _ h => h
      case hwt6 => rfl
      case hyt6 =>
        intro w' hSw
        obtain ⟨r0, r1, r2, r3, r4, r5, r6, r7, r8, r9, r10, r11, r12, r13, r14⟩ := hSw
        go_simp
        try exact rfl
      try simp only [Act.put, List.setIfInBounds_toArray, List.set_cons_zero, List.set_cons_succ]
      refine wpLate_take (i := 8) (oi := ?oit8) (v := ?vt8) [15, 18, 19] ?hit8 (by kernel_rfl) (by kernel_rfl) (by kernel_rfl) (by kernel_rfl) (by kernel_rfl) ?hQt8 (Or.inl ⟨?hwt8, ?hyt8⟩) (KS.out _ KT.out.b) ?restt8
      case hit8 => (simp only [List.getElem?_toArray, List.getElem?_cons_zero, List.getElem?_cons_succ]; rfl)
      case hQt8 => exact fun _ _ _ h => h
      case hwt8 => rfl
      case hyt8 =>
        intro w' hSw
        obtain ⟨r0, r1, r2, r3, r4, r5, r6, r7, r8, r9, r10, r11, r12, r13, r14⟩ := hSw
        go_simp
        try exact rfl
      try simp only [Act.put, List.setIfInBounds_toArray, List.set_cons_zero, List.set_cons_succ]
      refine wpLate_take (i := 9) (oi := ?oit9) (v := ?vt9) [10, 15, 18, 19] ?hit9 (by kernel_rfl) (by kernel_rfl) (by kernel_rfl) (by kernel_rfl) (by kernel_rfl) ?hQt9 (Or.inl ⟨?hwt9, ?hyt9⟩) (KS.out _ KT.out.b) ?restt9
      case hit9 => (simp only [List.getElem?_toArray, List.getElem?_cons_zero, List.getElem?_cons_succ]; rfl)
      case hQt9 => exact fun _ _ _ h => h
      case hwt9 => rfl
      case hyt9 =>
        intro w' hSw
        obtain ⟨r0, r1, r2, r3, r4, r5, r6, r7, r8, r9, r10, r11, r12, r13, r14⟩ := hSw
        go_simp
        try exact rfl
      try simp only [Act.put, List.setIfInBounds_toArray, List.set_cons_zero, List.set_cons_succ]
      refine wpLate_take (i := 10) (oi := ?oit10) (v := ?vt10) [15, 18, 19] ?hit10 (by kernel_rfl) (by kernel_rfl) (by kernel_rfl) (by kernel_rfl) (by kernel_rfl) ?hQt10 (Or.inl ⟨?hwt10, ?hyt10⟩) (KS.out _ KT.out.b) ?restt10
      case hit10 => (simp only [List.getElem?_toArray, List.getElem?_cons_zero, List.getElem?_cons_succ]; rfl)
      case hQt10 => exact fun _ _ _ h => h
      case hwt10 => rfl
      case hyt10 =>
        intro w' hSw
        obtain ⟨r0, r1, r2, r3, r4, r5, r6, r7, r8, r9, r10, r11, r12, r13, r14⟩ := hSw
        go_simp
        try exact rfl
      try simp only [Act.put, List.setIfInBounds_toArray, List.set_cons_zero, List.set_cons_succ]
      refine wpLate_take (i := 11) (oi := ?oit11) (v := ?vt11) [13, 14, 15, 18, 19] ?hit11 (by kernel_rfl) (by kernel_rfl) (by kernel_rfl) (by kernel_rfl) (by kernel_rfl) ?hQt11 (Or.inl ⟨?hwt11, ?hyt11⟩) (KS.out _ KT.out.b) ?restt11
      case hit11 => (simp only [List.getElem?_toArray, List.getElem?_cons_zero, List.getElem?_cons_succ]; rfl)
      case hQt11 => exact fun _ _ _ h => h
      case hwt11 => rfl
      case hyt11 =>
        intro w' hSw
        obtain ⟨r0, r1, r2, r3, r4, r5, r6, r7, r8, r9, r10, r11, r12, r13, r14⟩ := hSw
        go_simp
        try exact rfl
      try simp only [Act.put, List.setIfInBounds_toArray, List.set_cons_zero, List.set_cons_succ]
      refine wpLate_take (i := 12) (oi := ?oit12) (v := ?vt12) [13, 14, 15, 18, 19] ?hit12 (by kernel_rfl) (by kernel_rfl) (by kernel_rfl) (by kernel_rfl) (by kernel_rfl) ?hQt12 (Or.inl ⟨?hwt12, ?hyt12⟩) (KS.out _ KT.out.b) ?restt12
      case hit12 => (simp only [List.getElem?_toArray, List.getElem?_cons_zero, List.getElem?_cons_succ]; rfl)
      case hQt12 => exact fun _ _ _ h => h
      case hwt12 => rfl
      case hyt12 =>
        intro w' hSw
        obtain ⟨r0, r1, r2, r3, r4, r5, r6, r7, r8, r9, r10, r11, r12, r13, r14⟩ := hSw
        go_simp
        try exact rfl
      try simp only [Act.put, List.setIfInBounds_toArray, List.set_cons_zero, List.set_cons_succ]
      refine wpLate_take (i := 13) (oi := ?oit13) (v := ?vt13) [14, 15, 18, 19] ?hit13 (by kernel_rfl) (by kernel_rfl) (by kernel_rfl) (by kernel_rfl) (by kernel_rfl) ?hQt13 (Or.inl ⟨?hwt13, ?hyt13⟩) (KS.out _ KT.out.b) ?restt13
      case hit13 => (simp only [List.getElem?_toArray, List.getElem?_cons_zero, List.getElem?_cons_succ]; rfl)
      case hQt13 => exact fun _ _ _ h => h
      case hwt13 => rfl
      case hyt13 =>
        intro w' hSw
        obtain ⟨r0, r1, r2, r3, r4, r5, r6, r7, r8, r9, r10, r11, r12, r13, r14⟩ := hSw
        go_simp
        try exact rfl
      try simp only [Act.put, List.setIfInBounds_toArray, List.set_cons_zero, List.set_cons_succ]
      refine wpLate_take (i := 14) (oi := ?oit14) (v := ?vt14) [15, 18, 19] ?hit14 (by kernel_rfl) (by kernel_rfl) (by kernel_rfl) (by kernel_rfl) (by kernel_rfl) ?hQt14 (Or.inl ⟨?hwt14, ?hyt14⟩) (KS.out _ KT.out.b) ?restt14
      case hit14 => (simp only [List.getElem?_toArray, List.getElem?_cons_zero, List.getElem?_cons_succ]; rfl)
      case hQt14 => exact fun _ _ _ h => h
      case hwt14 => rfl
      case hyt14 =>
        intro w' hSw
        obtain ⟨r0, r1, r2, r3, r4, r5, r6, r7, r8, r9, r10, r11, r12, r13, r14⟩ := hSw
        go_simp
        try exact rfl
      try simp only [Act.put, List.setIfInBounds_toArray, List.set_cons_zero, List.set_cons_succ]
      refine wpLate_three (i := 7) (j := 16) (k := 17) (o := ?on1_7) (u := ?on1_16) (v := ?on1_17) (by kernel_rfl) ?hon1_7 ?hon1_16 ?hon1_17 ?hkn1_7 ?hkn1_16 ?hkn1_17
      case hon1_7 => (simp only [List.getElem?_toArray, List.getElem?_cons_zero, List.getElem?_cons_succ]; rfl)
      case hon1_16 => (simp only [List.getElem?_toArray, List.getElem?_cons_zero, List.getElem?_cons_succ]; rfl)
      case hon1_17 => (simp only [List.getElem?_toArray, List.getElem?_cons_zero, List.getElem?_cons_succ]; rfl)
      case hkn1_7 =>
        intro K hK
        go_simp
        refine (C40.out _ KT.out.b).mono ?_
        rintro r w102 ⟨rfl, hbs⟩
        replace KT := Lib.hid (KT.out.call hbs)
        clear hbs
        go_simp
        refine hK.out _ _ (fun _ => KS.out _ KT.out.b) ?_
        clear hK K
        try simp only [Act.put, List.setIfInBounds_toArray, List.set_cons_zero, List.set_cons_succ]
        refine wpLate_three (i := 15) (j := 16) (k := 17) (o := ?on3_15) (u := ?on3_16) (v := ?on3_17) (by kernel_rfl) ?hon3_15 ?hon3_16 ?hon3_17 ?hkn3_15 ?hkn3_16 ?hkn3_17
        case hon3_15 => (simp only [List.getElem?_toArray, List.getElem?_cons_zero, List.getElem?_cons_succ]; rfl)
        case hon3_16 => (simp only [List.getElem?_toArray, List.getElem?_cons_zero, List.getElem?_cons_succ]; rfl)
        case hon3_17 => (simp only [List.getElem?_toArray, List.getElem?_cons_zero, List.getElem?_cons_succ]; rfl)
        case hkn3_15 =>
          intro K hK
          go_simp
          refine (C41.out _ KT.out.b).mono ?_
          rintro r w104 ⟨rfl, hbs⟩
          replace KT := Lib.hid (KT.out.call hbs)
          clear hbs
          go_simp
          refine hK.out _ _ (fun _ => KS.out _ KT.out.b) ?_
          clear hK K
          try simp only [Act.put, List.setIfInBounds_toArray, List.set_cons_zero, List.set_cons_succ]
          refine wpLate_two (i := 16) (j := 17) (o := ?on5_16) (u := ?on5_17) (by kernel_rfl) ?hon5_16 ?hon5_17 ?hkn5_16 ?hkn5_17
          case hon5_16 => (simp only [List.getElem?_toArray, List.getElem?_cons_zero, List.getElem?_cons_succ]; rfl)
          case hon5_17 => (simp only [List.getElem?_toArray, List.getElem?_cons_zero, List.getElem?_cons_succ]; rfl)
          case hkn5_16 =>
            intro K hK
            go_simp
            replace KT := Lib.hid (KT.out.al1)
            refine hK.out _ _ (fun _ => KS.out _ KT.out.b) ?_
            clear hK K
            obtain ⟨Da, hDn⟩ : ∃ D, D = (World.heap w104).size := ⟨_, rfl⟩
            rw [← hDn] at KT ⊢
            clear hDn
            generalize World.alloc w104 (.cells z5 48) = w106 at KT ⊢
            try simp only [Act.put, List.setIfInBounds_toArray, List.set_cons_zero, List.set_cons_succ]
            refine wpLate_one (i := 17) (o := ?on7_17) (by kernel_rfl) ?hon7_17 ?hkn7_17
            case hon7_17 => (simp only [List.getElem?_toArray, List.getElem?_cons_zero, List.getElem?_cons_succ]; rfl)
            intro K hK
            go_simp
            replace KT := Lib.hid (KT.out.al2)
            refine hK.out _ _ (fun _ => KS.out _ KT.out.b) ?_
            clear hK K
            obtain ⟨Db, hDn⟩ : ∃ D, D = (World.heap w106).size := ⟨_, rfl⟩
            rw [← hDn] at KT ⊢
            clear hDn
            generalize World.alloc w106 (.cells z5 48) = w108 at KT ⊢
            try simp only [Act.put, List.setIfInBounds_toArray, List.set_cons_zero, List.set_cons_succ]
            replace KT := Lib.hid KT.out.fin
            have x0 : World.cell? w108 ⟨Da, 0, none⟩ = some (.int .i64 0) := KT.out.d1.2.cell 0
            have x1 : World.cell? w108 ⟨Da, 1, none⟩ = some (.int .i64 0) := KT.out.d1.2.cell 1
            have x2 : World.cell? w108 ⟨Da, 2, none⟩ = some (.int .i64 0) := KT.out.d1.2.cell 2
            have x3 : World.cell? w108 ⟨Da, 3, none⟩ = some (.int .i64 0) := KT.out.d1.2.cell 3
            have x4 : World.cell? w108 ⟨Da, 4, none⟩ = some (.int .i64 0) := KT.out.d1.2.cell 4
            have xf := KT.out.d1.2.frozen
            have xl := KT.out.d1.2.lt
            refine wpLate_one (i := 18) (o := ?of9_18) (by kernel_rfl) ?hof9_18 ?hkf9_18
            case hof9_18 => (simp only [List.getElem?_toArray, List.getElem?_cons_zero, List.getElem?_cons_succ]; rfl)
            intro K hK
            go_simp
            replace KT := Lib.hid (KT.out.put1 X)
            refine hK.out _ _ (fun h => absurd h (by decide)) ?_
            clear hK K x0 x1 x2 x3 x4 xf xl
            refine (show wpLate _ _ _ _ _ _ _ _ _ (put5 w108 Da X) from ?_)
            generalize put5 w108 Da X = w110 at KT ⊢
            try simp only [Act.put, List.setIfInBounds_toArray, List.set_cons_zero, List.set_cons_succ]
            have x0 : World.cell? w110 ⟨Db, 0, none⟩ = some (.int .i64 0) := KT.out.d2.2.cell 0
            have x1 : World.cell? w110 ⟨Db, 1, none⟩ = some (.int .i64 0) := KT.out.d2.2.cell 1
            have x2 : World.cell? w110 ⟨Db, 2, none⟩ = some (.int .i64 0) := KT.out.d2.2.cell 2
            have x3 : World.cell? w110 ⟨Db, 3, none⟩ = some (.int .i64 0) := KT.out.d2.2.cell 3
            have x4 : World.cell? w110 ⟨Db, 4, none⟩ = some (.int .i64 0) := KT.out.d2.2.cell 4
            have xf := KT.out.d2.2.frozen
            have xl := KT.out.d2.2.lt
            refine wpLate_one (i := 19) (o := ?of9_19) (by kernel_rfl) ?hof9_19 ?hkf9_19
            case hof9_19 => (simp only [List.getElem?_toArray, List.getElem?_cons_zero, List.getElem?_cons_succ]; rfl)
            intro K hK
            go_simp
            replace KT := Lib.hid (KT.out.put2 Y)
            refine hK.out _ _ (fun h => absurd h (by decide)) ?_
            clear hK K x0 x1 x2 x3 x4 xf xl
            refine (show wpLate _ _ _ _ _ _ _ _ _ (put5 w110 Db Y) from ?_)
            generalize put5 w110 Db Y = w111 at KT ⊢
            try simp only [Act.put, List.setIfInBounds_toArray, List.set_cons_zero, List.set_cons_succ]
            refine wpLate_done (by kernel_rfl) ?_ _
            try simp only [Act.put, List.setIfInBounds_toArray, List.set_cons_zero, List.set_cons_succ]
            go_wp2_with fail
            go_meet
            exact ⟨_, _, rfl, rfl, KT⟩
          case hkn5_17 =>
            intro K hK
            go_simp
            replace KT := Lib.hid (KT.out.al2)
            refine hK.out _ _ (fun _ => KS.out _ KT.out.b) ?_
            clear hK K
            obtain ⟨Db, hDn⟩ : ∃ D, D = (World.heap w104).size := ⟨_, rfl⟩
            rw [← hDn] at KT ⊢
            clear hDn
            generalize World.alloc w104 (.cells z5 48) = w112 at KT ⊢
            try simp only [Act.put, List.setIfInBounds_toArray, List.set_cons_zero, List.set_cons_succ]
            refine wpLate_one (i := 16) (o := ?on13_16) (by kernel_rfl) ?hon13_16 ?hkn13_16
            case hon13_16 => (simp only [List.getElem?_toArray, List.getElem?_cons_zero, List.getElem?_cons_succ]; rfl)
            intro K hK
            go_simp
            replace KT := Lib.hid (KT.out.al1)
            refine hK.out _ _ (fun _ => KS.out _ KT.out.b) ?_
            clear hK K
            obtain ⟨Da, hDn⟩ : ∃ D, D = (World.heap w112).size := ⟨_, rfl⟩
            rw [← hDn] at KT ⊢
            clear hDn
            generalize World.alloc w112 (.cells z5 48) = w114 at KT ⊢
            try simp only [Act.put, List.setIfInBounds_toArray, List.set_cons_zero, List.set_cons_succ]
            replace KT := Lib.hid KT.out.fin
            have x0 : World.cell? w114 ⟨Da, 0, none⟩ = some (.int .i64 0) := KT.out.d1.2.cell 0
            have x1 : World.cell? w114 ⟨Da, 1, none⟩ = some (.int .i64 0) := KT.out.d1.2.cell 1
            have x2 : World.cell? w114 ⟨Da, 2, none⟩ = some (.int .i64 0) := KT.out.d1.2.cell 2
            have x3 : World.cell? w114 ⟨Da, 3, none⟩ = some (.int .i64 0) := KT.out.d1.2.cell 3
            have x4 : World.cell? w114 ⟨Da, 4, none⟩ = some (.int .i64 0) := KT.out.d1.2.cell 4
            have xf := KT.out.d1.2.frozen
            have xl := KT.out.d1.2.lt
            refine wpLate_one (i := 18) (o := ?of15_18) (by kernel_rfl) ?hof15_18 ?hkf15_18
            case hof15_18 => (simp only [List.getElem?_toArray, List.getElem?_cons_zero, List.getElem?_cons_succ]; rfl)
            intro K hK
            go_simp
            replace KT := Lib.hid (KT.out.put1 X)
            refine hK.out _ _ (fun h => absurd h (by decide)) ?_
            clear hK K x0 x1 x2 x3 x4 xf xl
            refine (show wpLate _ _ _ _ _ _ _ _ _ (put5 w114 Da X) from ?_)
            generalize put5 w114 Da X = w116 at KT ⊢
            try simp only [Act.put, List.setIfInBounds_toArray, List.set_cons_zero, List.set_cons_succ]
            have x0 : World.cell? w116 ⟨Db, 0, none⟩ = some (.int .i64 0) := KT.out.d2.2.cell 0
            have x1 : World.cell? w116 ⟨Db, 1, none⟩ = some (.int .i64 0) := KT.out.d2.2.cell 1
            have x2 : World.cell? w116 ⟨Db, 2, none⟩ = some (.int .i64 0) := KT.out.d2.2.cell 2
            have x3 : World.cell? w116 ⟨Db, 3, none⟩ = some (.int .i64 0) := KT.out.d2.2.cell 3
            have x4 : World.cell? w116 ⟨Db, 4, none⟩ = some (.int .i64 0) := KT.out.d2.2.cell 4
            have xf := KT.out.d2.2.frozen
            have xl := KT.out.d2.2.lt
            refine wpLate_one (i := 19) (o := ?of15_19) (by kernel_rfl) ?hof15_19 ?hkf15_19
            case hof15_19 => (simp only [List.getElem?_toArray, List.getElem?_cons_zero, List.getElem?_cons_succ]; rfl)
            intro K hK
            go_simp
            replace KT := Lib.hid (KT.out.put2 Y)
            refine hK.out _ _ (fun h => absurd h (by decide)) ?_
            clear hK K x0 x1 x2 x3 x4 xf xl
            refine (show wpLate _ _ _ _ _ _ _ _ _ (put5 w116 Db Y) from ?_)
            generalize put5 w116 Db Y = w117 at KT ⊢
            try simp only [Act.put, List.setIfInBounds_toArray, List.set_cons_zero, List.set_cons_succ]
            refine wpLate_done (by kernel_rfl) ?_ _
            try simp only [Act.put, List.setIfInBounds_toArray, List.set_cons_zero, List.set_cons_succ]
            go_wp2_with fail
            go_meet
            exact ⟨_, _, rfl, rfl, KT⟩
        case hkn3_16 =>
          intro K hK
          go_simp
          replace KT := Lib.hid (KT.out.al1)
          refine hK.out _ _ (fun _ => KS.out _ KT.out.b) ?_
          clear hK K
          obtain ⟨Da, hDn⟩ : ∃ D, D = (World.heap w102).size := ⟨_, rfl⟩
          rw [← hDn] at KT ⊢
          clear hDn
          generalize World.alloc w102 (.cells z5 48) = w118 at KT ⊢
          try simp only [Act.put, List.setIfInBounds_toArray, List.set_cons_zero, List.set_cons_succ]
          refine wpLate_two (i := 15) (j := 17) (o := ?on19_15) (u := ?on19_17) (by kernel_rfl) ?hon19_15 ?hon19_17 ?hkn19_15 ?hkn19_17
          case hon19_15 => (simp only [List.getElem?_toArray, List.getElem?_cons_zero, List.getElem?_cons_succ]; rfl)
          case hon19_17 => (simp only [List.getElem?_toArray, List.getElem?_cons_zero, List.getElem?_cons_succ]; rfl)
          case hkn19_15 =>
            intro K hK
            go_simp
            refine (C41.out _ KT.out.b).mono ?_
            rintro r w120 ⟨rfl, hbs⟩
            replace KT := Lib.hid (KT.out.call hbs)
            clear hbs
            go_simp
            refine hK.out _ _ (fun _ => KS.out _ KT.out.b) ?_
            clear hK K
            try simp only [Act.put, List.setIfInBounds_toArray, List.set_cons_zero, List.set_cons_succ]
            refine wpLate_one (i := 17) (o := ?on21_17) (by kernel_rfl) ?hon21_17 ?hkn21_17
            case hon21_17 => (simp only [List.getElem?_toArray, List.getElem?_cons_zero, List.getElem?_cons_succ]; rfl)
            intro K hK
            go_simp
            replace KT := Lib.hid (KT.out.al2)
            refine hK.out _ _ (fun _ => KS.out _ KT.out.b) ?_
            clear hK K
            obtain ⟨Db, hDn⟩ : ∃ D, D = (World.heap w120).size := ⟨_, rfl⟩
            rw [← hDn] at KT ⊢
            clear hDn
            generalize World.alloc w120 (.cells z5 48) = w122 at KT ⊢
            try simp only [Act.put, List.setIfInBounds_toArray, List.set_cons_zero, List.set_cons_succ]
            replace KT := Lib.hid KT.out.fin
            have x0 : World.cell? w122 ⟨Da, 0, none⟩ = some (.int .i64 0) := KT.out.d1.2.cell 0
            have x1 : World.cell? w122 ⟨Da, 1, none⟩ = some (.int .i64 0) := KT.out.d1.2.cell 1
            have x2 : World.cell? w122 ⟨Da, 2, none⟩ = some (.int .i64 0) := KT.out.d1.2.cell 2
            have x3 : World.cell? w122 ⟨Da, 3, none⟩ = some (.int .i64 0) := KT.out.d1.2.cell 3
            have x4 : World.cell? w122 ⟨Da, 4, none⟩ = some (.int .i64 0) := KT.out.d1.2.cell 4
            have xf := KT.out.d1.2.frozen
            have xl := KT.out.d1.2.lt
            refine wpLate_one (i := 18) (o := ?of23_18) (by kernel_rfl) ?hof23_18 ?hkf23_18
            case hof23_18 => (simp only [List.getElem?_toArray, List.getElem?_cons_zero, List.getElem?_cons_succ]; rfl)
            intro K hK
            go_simp
            replace KT := Lib.hid (KT.out.put1 X)
            refine hK.out _ _ (fun h => absurd h (by decide)) ?_
            clear hK K x0 x1 x2 x3 x4 xf xl
            refine (show wpLate _ _ _ _ _ _ _ _ _ (put5 w122 Da X) from ?_)
            generalize put5 w122 Da X = w124 at KT ⊢
            try simp only [Act.put, List.setIfInBounds_toArray, List.set_cons_zero, List.set_cons_succ]
            have x0 : World.cell? w124 ⟨Db, 0, none⟩ = some (.int .i64 0) := KT.out.d2.2.cell 0
            have x1 : World.cell? w124 ⟨Db, 1, none⟩ = some (.int .i64 0) := KT.out.d2.2.cell 1
            have x2 : World.cell? w124 ⟨Db, 2, none⟩ = some (.int .i64 0) := KT.out.d2.2.cell 2
            have x3 : World.cell? w124 ⟨Db, 3, none⟩ = some (.int .i64 0) := KT.out.d2.2.cell 3
            have x4 : World.cell? w124 ⟨Db, 4, none⟩ = some (.int .i64 0) := KT.out.d2.2.cell 4
            have xf := KT.out.d2.2.frozen
            have xl := KT.out.d2.2.lt
            refine wpLate_one (i := 19) (o := ?of23_19) (by kernel_rfl) ?hof23_19 ?hkf23_19
            case hof23_19 => (simp only [List.getElem?_toArray, List.getElem?_cons_zero, List.getElem?_cons_succ]; rfl)
            intro K hK
            go_simp
            replace KT := Lib.hid (KT.out.put2 Y)
            refine hK.out _ _ (fun h => absurd h (by decide)) ?_
            clear hK K x0 x1 x2 x3 x4 xf xl
            refine (show wpLate _ _ _ _ _ _ _ _ _ (put5 w124 Db Y) from ?_)
            generalize put5 w124 Db Y = w125 at KT ⊢
            try simp only [Act.put, List.setIfInBounds_toArray, List.set_cons_zero, List.set_cons_succ]
            refine wpLate_done (by kernel_rfl) ?_ _
            try simp only [Act.put, List.setIfInBounds_toArray, List.set_cons_zero, List.set_cons_succ]
            go_wp2_with fail
            go_meet
            exact ⟨_, _, rfl, rfl, KT⟩
          case hkn19_17 =>
            intro K hK
            go_simp
            replace KT := Lib.hid (KT.out.al2)
            refine hK.out _ _ (fun _ => KS.out _ KT.out.b) ?_
            clear hK K
            obtain ⟨Db, hDn⟩ : ∃ D, D = (World.heap w118).size := ⟨_, rfl⟩
            rw [← hDn] at KT ⊢
            clear hDn
            generalize World.alloc w118 (.cells z5 48) = w126 at KT ⊢
            try simp only [Act.put, List.setIfInBounds_toArray, List.set_cons_zero, List.set_cons_succ]
            refine wpLate_one (i := 15) (o := ?on27_15) (by kernel_rfl) ?hon27_15 ?hkn27_15
            case hon27_15 => (simp only [List.getElem?_toArray, List.getElem?_cons_zero, List.getElem?_cons_succ]; rfl)
            intro K hK
            go_simp
            refine (C41.out _ KT.out.b).mono ?_
            rintro r w128 ⟨rfl, hbs⟩
            replace KT := Lib.hid (KT.out.call hbs)
            clear hbs
            go_simp
            refine hK.out _ _ (fun _ => KS.out _ KT.out.b) ?_
            clear hK K
            try simp only [Act.put, List.setIfInBounds_toArray, List.set_cons_zero, List.set_cons_succ]
            replace KT := Lib.hid KT.out.fin
            have x0 : World.cell? w128 ⟨Da, 0, none⟩ = some (.int .i64 0) := KT.out.d1.2.cell 0
            have x1 : World.cell? w128 ⟨Da, 1, none⟩ = some (.int .i64 0) := KT.out.d1.2.cell 1
            have x2 : World.cell? w128 ⟨Da, 2, none⟩ = some (.int .i64 0) := KT.out.d1.2.cell 2
            have x3 : World.cell? w128 ⟨Da, 3, none⟩ = some (.int .i64 0) := KT.out.d1.2.cell 3
            have x4 : World.cell? w128 ⟨Da, 4, none⟩ = some (.int .i64 0) := KT.out.d1.2.cell 4
            have xf := KT.out.d1.2.frozen
            have xl := KT.out.d1.2.lt
            refine wpLate_one (i := 18) (o := ?of29_18) (by kernel_rfl) ?hof29_18 ?hkf29_18
            case hof29_18 => (simp only [List.getElem?_toArray, List.getElem?_cons_zero, List.getElem?_cons_succ]; rfl)
            intro K hK
            go_simp
            replace KT := Lib.hid (KT.out.put1 X)
            refine hK.out _ _ (fun h => absurd h (by decide)) ?_
            clear hK K x0 x1 x2 x3 x4 xf xl
            refine (show wpLate _ _ _ _ _ _ _ _ _ (put5 w128 Da X) from ?_)
            generalize put5 w128 Da X = w130 at KT ⊢
            try simp only [Act.put, List.setIfInBounds_toArray, List.set_cons_zero, List.set_cons_succ]
            have x0 : World.cell? w130 ⟨Db, 0, none⟩ = some (.int .i64 0) := KT.out.d2.2.cell 0
            have x1 : World.cell? w130 ⟨Db, 1, none⟩ = some (.int .i64 0) := KT.out.d2.2.cell 1
            have x2 : World.cell? w130 ⟨Db, 2, none⟩ = some (.int .i64 0) := KT.out.d2.2.cell 2
            have x3 : World.cell? w130 ⟨Db, 3, none⟩ = some (.int .i64 0) := KT.out.d2.2.cell 3
            have x4 : World.cell? w130 ⟨Db, 4, none⟩ = some (.int .i64 0) := KT.out.d2.2.cell 4
            have xf := KT.out.d2.2.frozen
            have xl := KT.out.d2.2.lt
            refine wpLate_one (i := 19) (o := ?of29_19) (by kernel_rfl) ?hof29_19 ?hkf29_19
            case hof29_19 => (simp only [List.getElem?_toArray, List.getElem?_cons_zero, List.getElem?_cons_succ]; rfl)
            intro K hK
            go_simp
            replace KT := Lib.hid (KT.out.put2 Y)
            refine hK.out _ _ (fun h => absurd h (by decide)) ?_
            clear hK K x0 x1 x2 x3 x4 xf xl
            refine (show wpLate _ _ _ _ _ _ _ _ _ (put5 w130 Db Y) from ?_)
            generalize put5 w130 Db Y = w131 at KT ⊢
            try simp only [Act.put, List.setIfInBounds_toArray, List.set_cons_zero, List.set_cons_succ]
            refine wpLate_done (by kernel_rfl) ?_ _
            try simp only [Act.put, List.setIfInBounds_toArray, List.set_cons_zero, List.set_cons_succ]
            go_wp2_with fail
            go_meet
            exact ⟨_, _, rfl, rfl, KT⟩
        case hkn3_17 =>
          intro K hK
          go_simp
          replace KT := Lib.hid (KT.out.al2)
          refine hK.out _ _ (fun _ => KS.out _ KT.out.b) ?_
          clear hK K
          obtain ⟨Db, hDn⟩ : ∃ D, D = (World.heap w102).size := ⟨_, rfl⟩
          rw [← hDn] at KT ⊢
          clear hDn
          generalize World.alloc w102 (.cells z5 48) = w132 at KT ⊢
          try simp only [Act.put, List.setIfInBounds_toArray, List.set_cons_zero, List.set_cons_succ]
          refine wpLate_two (i := 15) (j := 16) (o := ?on33_15) (u := ?on33_16) (by kernel_rfl) ?hon33_15 ?hon33_16 ?hkn33_15 ?hkn33_16
          case hon33_15 => (simp only [List.getElem?_toArray, List.getElem?_cons_zero, List.getElem?_cons_succ]; rfl)
          case hon33_16 => (simp only [List.getElem?_toArray, List.getElem?_cons_zero, List.getElem?_cons_succ]; rfl)
          case hkn33_15 =>
            intro K hK
            go_simp
            refine (C41.out _ KT.out.b).mono ?_
            rintro r w134 ⟨rfl, hbs⟩
            replace KT := Lib.hid (KT.out.call hbs)
            clear hbs
            go_simp
            refine hK.out _ _ (fun _ => KS.out _ KT.out.b) ?_
            clear hK K
            try simp only [Act.put, List.setIfInBounds_toArray, List.set_cons_zero, List.set_cons_succ]
            refine wpLate_one (i := 16) (o := ?on35_16) (by kernel_rfl) ?hon35_16 ?hkn35_16
            case hon35_16 => (simp only [List.getElem?_toArray, List.getElem?_cons_zero, List.getElem?_cons_succ]; rfl)
            intro K hK
            go_simp
            replace KT := Lib.hid (KT.out.al1)
            refine hK.out _ _ (fun _ => KS.out _ KT.out.b) ?_
            clear hK K
            obtain ⟨Da, hDn⟩ : ∃ D, D = (World.heap w134).size := ⟨_, rfl⟩
            rw [← hDn] at KT ⊢
            clear hDn
            generalize World.alloc w134 (.cells z5 48) = w136 at KT ⊢
            try simp only [Act.put, List.setIfInBounds_toArray, List.set_cons_zero, List.set_cons_succ]
            replace KT := Lib.hid KT.out.fin
            have x0 : World.cell? w136 ⟨Da, 0, none⟩ = some (.int .i64 0) := KT.out.d1.2.cell 0
            have x1 : World.cell? w136 ⟨Da, 1, none⟩ = some (.int .i64 0) := KT.out.d1.2.cell 1
            have x2 : World.cell? w136 ⟨Da, 2, none⟩ = some (.int .i64 0) := KT.out.d1.2.cell 2
            have x3 : World.cell? w136 ⟨Da, 3, none⟩ = some (.int .i64 0) := KT.out.d1.2.cell 3
            have x4 : World.cell? w136 ⟨Da, 4, none⟩ = some (.int .i64 0) := KT.out.d1.2.cell 4
            have xf := KT.out.d1.2.frozen
            have xl := KT.out.d1.2.lt
            refine wpLate_one (i := 18) (o := ?of37_18) (by kernel_rfl) ?hof37_18 ?hkf37_18
            case hof37_18 => (simp only [List.getElem?_toArray, List.getElem?_cons_zero, List.getElem?_cons_succ]; rfl)
            intro K hK
            go_simp
            replace KT := Lib.hid (KT.out.put1 X)
            refine hK.out _ _ (fun h => absurd h (by decide)) ?_
            clear hK K x0 x1 x2 x3 x4 xf xl
            refine (show wpLate _ _ _ _ _ _ _ _ _ (put5 w136 Da X) from ?_)
            generalize put5 w136 Da X = w138 at KT ⊢
            try simp only [Act.put, List.setIfInBounds_toArray, List.set_cons_zero, List.set_cons_succ]
            have x0 : World.cell? w138 ⟨Db, 0, none⟩ = some (.int .i64 0) := KT.out.d2.2.cell 0
            have x1 : World.cell? w138 ⟨Db, 1, none⟩ = some (.int .i64 0) := KT.out.d2.2.cell 1
            have x2 : World.cell? w138 ⟨Db, 2, none⟩ = some (.int .i64 0) := KT.out.d2.2.cell 2
            have x3 : World.cell? w138 ⟨Db, 3, none⟩ = some (.int .i64 0) := KT.out.d2.2.cell 3
            have x4 : World.cell? w138 ⟨Db, 4, none⟩ = some (.int .i64 0) := KT.out.d2.2.cell 4
            have xf := KT.out.d2.2.frozen
            have xl := KT.out.d2.2.lt
            refine wpLate_one (i := 19) (o := ?of37_19) (by kernel_rfl) ?hof37_19 ?hkf37_19
            case hof37_19 => (simp only [List.getElem?_toArray, List.getElem?_cons_zero, List.getElem?_cons_succ]; rfl)
            intro K hK
            go_simp
            replace KT := Lib.hid (KT.out.put2 Y)
            refine hK.out _ _ (fun h => absurd h (by decide)) ?_
            clear hK K x0 x1 x2 x3 x4 xf xl
            refine (show wpLate _ _ _ _ _ _ _ _ _ (put5 w138 Db Y) from ?_)
            generalize put5 w138 Db Y = w139 at KT ⊢
            try simp only [Act.put, List.setIfInBounds_toArray, List.set_cons_zero, List.set_cons_succ]
            refine wpLate_done (by kernel_rfl) ?_ _
            try simp only [Act.put, List.setIfInBounds_toArray, List.set_cons_zero, List.set_cons_succ]
            go_wp2_with fail
            go_meet
            exact ⟨_, _, rfl, rfl, KT⟩
          case hkn33_16 =>
            intro K hK
            go_simp
            replace KT := Lib.hid (KT.out.al1)
            refine hK.out _ _ (fun _ => KS.out _ KT.out.b) ?_
            clear hK K
            obtain ⟨Da, hDn⟩ : ∃ D, D = (World.heap w132).size := ⟨_, rfl⟩
            rw [← hDn] at KT ⊢
            clear hDn
            generalize World.alloc w132 (.cells z5 48) = w140 at KT ⊢
            try simp only [Act.put, List.setIfInBounds_toArray, List.set_cons_zero, List.set_cons_succ]
            refine wpLate_one (i := 15) (o := ?on41_15) (by kernel_rfl) ?hon41_15 ?hkn41_15
            case hon41_15 => (simp only [List.getElem?_toArray, List.getElem?_cons_zero, List.getElem?_cons_succ]; rfl)
            intro K hK
            go_simp
            refine (C41.out _ KT.out.b).mono ?_
            rintro r w142 ⟨rfl, hbs⟩
            replace KT := Lib.hid (KT.out.call hbs)
            clear hbs
            go_simp
            refine hK.out _ _ (fun _ => KS.out _ KT.out.b) ?_
            clear hK K
            try simp only [Act.put, List.setIfInBounds_toArray, List.set_cons_zero, List.set_cons_succ]
            replace KT := Lib.hid KT.out.fin
            have x0 : World.cell? w142 ⟨Da, 0, none⟩ = some (.int .i64 0) := KT.out.d1.2.cell 0
            have x1 : World.cell? w142 ⟨Da, 1, none⟩ = some (.int .i64 0) := KT.out.d1.2.cell 1
            have x2 : World.cell? w142 ⟨Da, 2, none⟩ = some (.int .i64 0) := KT.out.d1.2.cell 2
            have x3 : World.cell? w142 ⟨Da, 3, none⟩ = some (.int .i64 0) := KT.out.d1.2.cell 3
            have x4 : World.cell? w142 ⟨Da, 4, none⟩ = some (.int .i64 0) := KT.out.d1.2.cell 4
            have xf := KT.out.d1.2.frozen
            have xl := KT.out.d1.2.lt
            refine wpLate_one (i := 18) (o := ?of43_18) (by kernel_rfl) ?hof43_18 ?hkf43_18
            case hof43_18 => (simp only [List.getElem?_toArray, List.getElem?_cons_zero, List.getElem?_cons_succ]; rfl)
            intro K hK
            go_simp
            replace KT := Lib.hid (KT.out.put1 X)
            refine hK.out _ _ (fun h => absurd h (by decide)) ?_
            clear hK K x0 x1 x2 x3 x4 xf xl
            refine (show wpLate _ _ _ _ _ _ _ _ _ (put5 w142 Da X) from ?_)
            generalize put5 w142 Da X = w144 at KT ⊢
            try simp only [Act.put, List.setIfInBounds_toArray, List.set_cons_zero, List.set_cons_succ]
            have x0 : World.cell? w144 ⟨Db, 0, none⟩ = some (.int .i64 0) := KT.out.d2.2.cell 0
            have x1 : World.cell? w144 ⟨Db, 1, none⟩ = some (.int .i64 0) := KT.out.d2.2.cell 1
            have x2 : World.cell? w144 ⟨Db, 2, none⟩ = some (.int .i64 0) := KT.out.d2.2.cell 2
            have x3 : World.cell? w144 ⟨Db, 3, none⟩ = some (.int .i64 0) := KT.out.d2.2.cell 3
            have x4 : World.cell? w144 ⟨Db, 4, none⟩ = some (.int .i64 0) := KT.out.d2.2.cell 4
            have xf := KT.out.d2.2.frozen
            have xl := KT.out.d2.2.lt
            refine wpLate_one (i := 19) (o := ?of43_19) (by kernel_rfl) ?hof43_19 ?hkf43_19
            case hof43_19 => (simp only [List.getElem?_toArray, List.getElem?_cons_zero, List.getElem?_cons_succ]; rfl)
            intro K hK
            go_simp
            replace KT := Lib.hid (KT.out.put2 Y)
            refine hK.out _ _ (fun h => absurd h (by decide)) ?_
            clear hK K x0 x1 x2 x3 x4 xf xl
            refine (show wpLate _ _ _ _ _ _ _ _ _ (put5 w144 Db Y) from ?_)
            generalize put5 w144 Db Y = w145 at KT ⊢
            try simp only [Act.put, List.setIfInBounds_toArray, List.set_cons_zero, List.set_cons_succ]
            refine wpLate_done (by kernel_rfl) ?_ _
            try simp only [Act.put, List.setIfInBounds_toArray, List.set_cons_zero, List.set_cons_succ]
            go_wp2_with fail
            go_meet
            exact ⟨_, _, rfl, rfl, KT⟩
      case hkn1_16 =>
        intro K hK
        go_simp
        replace KT := Lib.hid (KT.out.al1)
        refine hK.out _ _ (fun _ => KS.out _ KT.out.b) ?_
        clear hK K
        obtain ⟨Da, hDn⟩ : ∃ D, D = (World.heap wd).size := ⟨_, rfl⟩
        rw [← hDn] at KT ⊢
        clear hDn
        generalize World.alloc wd (.cells z5 48) = w146 at KT ⊢
        try simp only [Act.put, List.setIfInBounds_toArray, List.set_cons_zero, List.set_cons_succ]
        refine wpLate_two (i := 7) (j := 17) (o := ?on47_7) (u := ?on47_17) (by kernel_rfl) ?hon47_7 ?hon47_17 ?hkn47_7 ?hkn47_17
        case hon47_7 => (simp only [List.getElem?_toArray, List.getElem?_cons_zero, List.getElem?_cons_succ]; rfl)
        case hon47_17 => (simp only [List.getElem?_toArray, List.getElem?_cons_zero, List.getElem?_cons_succ]; rfl)
        case hkn47_7 =>
          intro K hK
          go_simp
          refine (C40.out _ KT.out.b).mono ?_
          rintro r w148 ⟨rfl, hbs⟩
          replace KT := Lib.hid (KT.out.call hbs)
          clear hbs
          go_simp
          refine hK.out _ _ (fun _ => KS.out _ KT.out.b) ?_
          clear hK K
          try simp only [Act.put, List.setIfInBounds_toArray, List.set_cons_zero, List.set_cons_succ]
          refine wpLate_two (i := 15) (j := 17) (o := ?on49_15) (u := ?on49_17) (by kernel_rfl) ?hon49_15 ?hon49_17 ?hkn49_15 ?hkn49_17
          case hon49_15 => (simp only [List.getElem?_toArray, List.getElem?_cons_zero, List.getElem?_cons_succ]; rfl)
          case hon49_17 => (simp only [List.getElem?_toArray, List.getElem?_cons_zero, List.getElem?_cons_succ]; rfl)
          case hkn49_15 =>
            intro K hK
            go_simp
            refine (C41.out _ KT.out.b).mono ?_
            rintro r w150 ⟨rfl, hbs⟩
            replace KT := Lib.hid (KT.out.call hbs)
            clear hbs
            go_simp
            refine hK.out _ _ (fun _ => KS.out _ KT.out.b) ?_
            clear hK K
            try simp only [Act.put, List.setIfInBounds_toArray, List.set_cons_zero, List.set_cons_succ]
            refine wpLate_one (i := 17) (o := ?on51_17) (by kernel_rfl) ?hon51_17 ?hkn51_17
            case hon51_17 => (simp only [List.getElem?_toArray, List.getElem?_cons_zero, List.getElem?_cons_succ]; rfl)
            intro K hK
            go_simp
            replace KT := Lib.hid (KT.out.al2)
            refine hK.out _ _ (fun _ => KS.out _ KT.out.b) ?_
            clear hK K
            obtain ⟨Db, hDn⟩ : ∃ D, D = (World.heap w150).size := ⟨_, rfl⟩
            rw [← hDn] at KT ⊢
            clear hDn
            generalize World.alloc w150 (.cells z5 48) = w152 at KT ⊢
            try simp only [Act.put, List.setIfInBounds_toArray, List.set_cons_zero, List.set_cons_succ]
            replace KT := Lib.hid KT.out.fin
            have x0 : World.cell? w152 ⟨Da, 0, none⟩ = some (.int .i64 0) := KT.out.d1.2.cell 0
            have x1 : World.cell? w152 ⟨Da, 1, none⟩ = some (.int .i64 0) := KT.out.d1.2.cell 1
            have x2 : World.cell? w152 ⟨Da, 2, none⟩ = some (.int .i64 0) := KT.out.d1.2.cell 2
            have x3 : World.cell? w152 ⟨Da, 3, none⟩ = some (.int .i64 0) := KT.out.d1.2.cell 3
            have x4 : World.cell? w152 ⟨Da, 4, none⟩ = some (.int .i64 0) := KT.out.d1.2.cell 4
            have xf := KT.out.d1.2.frozen
            have xl := KT.out.d1.2.lt
            refine wpLate_one (i := 18) (o := ?of53_18) (by kernel_rfl) ?hof53_18 ?hkf53_18
            case hof53_18 => (simp only [List.getElem?_toArray, List.getElem?_cons_zero, List.getElem?_cons_succ]; rfl)
            intro K hK
            go_simp
            replace KT := Lib.hid (KT.out.put1 X)
            refine hK.out _ _ (fun h => absurd h (by decide)) ?_
            clear hK K x0 x1 x2 x3 x4 xf xl
            refine (show wpLate _ _ _ _ _ _ _ _ _ (put5 w152 Da X) from ?_)
            generalize put5 w152 Da X = w154 at KT ⊢
            try simp only [Act.put, List.setIfInBounds_toArray, List.set_cons_zero, List.set_cons_succ]
            have x0 : World.cell? w154 ⟨Db, 0, none⟩ = some (.int .i64 0) := KT.out.d2.2.cell 0
            have x1 : World.cell? w154 ⟨Db, 1, none⟩ = some (.int .i64 0) := KT.out.d2.2.cell 1
            have x2 : World.cell? w154 ⟨Db, 2, none⟩ = some (.int .i64 0) := KT.out.d2.2.cell 2
            have x3 : World.cell? w154 ⟨Db, 3, none⟩ = some (.int .i64 0) := KT.out.d2.2.cell 3
            have x4 : World.cell? w154 ⟨Db, 4, none⟩ = some (.int .i64 0) := KT.out.d2.2.cell 4
            have xf := KT.out.d2.2.frozen
            have xl := KT.out.d2.2.lt
            refine wpLate_one (i := 19) (o := ?of53_19) (by kernel_rfl) ?hof53_19 ?hkf53_19
            case hof53_19 => (simp only [List.getElem?_toArray, List.getElem?_cons_zero, List.getElem?_cons_succ]; rfl)
            intro K hK
            go_simp
            replace KT := Lib.hid (KT.out.put2 Y)
            refine hK.out _ _ (fun h => absurd h (by decide)) ?_
            clear hK K x0 x1 x2 x3 x4 xf xl
            refine (show wpLate _ _ _ _ _ _ _ _ _ (put5 w154 Db Y) from ?_)
            generalize put5 w154 Db Y = w155 at KT ⊢
            try simp only [Act.put, List.setIfInBounds_toArray, List.set_cons_zero, List.set_cons_succ]
            refine wpLate_done (by kernel_rfl) ?_ _
            try simp only [Act.put, List.setIfInBounds_toArray, List.set_cons_zero, List.set_cons_succ]
            go_wp2_with fail
            go_meet
            exact ⟨_, _, rfl, rfl, KT⟩
          case hkn49_17 =>
            intro K hK
            go_simp
            replace KT := Lib.hid (KT.out.al2)
            refine hK.out _ _ (fun _ => KS.out _ KT.out.b) ?_
            clear hK K
            obtain ⟨Db, hDn⟩ : ∃ D, D = (World.heap w148).size := ⟨_, rfl⟩
            rw [← hDn] at KT ⊢
            clear hDn
            generalize World.alloc w148 (.cells z5 48) = w156 at KT ⊢
            try simp only [Act.put, List.setIfInBounds_toArray, List.set_cons_zero, List.set_cons_succ]
            refine wpLate_one (i := 15) (o := ?on57_15) (by kernel_rfl) ?hon57_15 ?hkn57_15
            case hon57_15 => (simp only [List.getElem?_toArray, List.getElem?_cons_zero, List.getElem?_cons_succ]; rfl)
            intro K hK
            go_simp
            refine (C41.out _ KT.out.b).mono ?_
            rintro r w158 ⟨rfl, hbs⟩
            replace KT := Lib.hid (KT.out.call hbs)
            clear hbs
            go_simp
            refine hK.out _ _ (fun _ => KS.out _ KT.out.b) ?_
            clear hK K
            try simp only [Act.put, List.setIfInBounds_toArray, List.set_cons_zero, List.set_cons_succ]
            replace KT := Lib.hid KT.out.fin
            have x0 : World.cell? w158 ⟨Da, 0, none⟩ = some (.int .i64 0) := KT.out.d1.2.cell 0
            have x1 : World.cell? w158 ⟨Da, 1, none⟩ = some (.int .i64 0) := KT.out.d1.2.cell 1
            have x2 : World.cell? w158 ⟨Da, 2, none⟩ = some (.int .i64 0) := KT.out.d1.2.cell 2
            have x3 : World.cell? w158 ⟨Da, 3, none⟩ = some (.int .i64 0) := KT.out.d1.2.cell 3
            have x4 : World.cell? w158 ⟨Da, 4, none⟩ = some (.int .i64 0) := KT.out.d1.2.cell 4
            have xf := KT.out.d1.2.frozen
            have xl := KT.out.d1.2.lt
            refine wpLate_one (i := 18) (o := ?of59_18) (by kernel_rfl) ?hof59_18 ?hkf59_18
            case hof59_18 => (simp only [List.getElem?_toArray, List.getElem?_cons_zero, List.getElem?_cons_succ]; rfl)
            intro K hK
            go_simp
            replace KT := Lib.hid (KT.out.put1 X)
            refine hK.out _ _ (fun h => absurd h (by decide)) ?_
            clear hK K x0 x1 x2 x3 x4 xf xl
            refine (show wpLate _ _ _ _ _ _ _ _ _ (put5 w158 Da X) from ?_)
            generalize put5 w158 Da X = w160 at KT ⊢
            try simp only [Act.put, List.setIfInBounds_toArray, List.set_cons_zero, List.set_cons_succ]
            have x0 : World.cell? w160 ⟨Db, 0, none⟩ = some (.int .i64 0) := KT.out.d2.2.cell 0
            have x1 : World.cell? w160 ⟨Db, 1, none⟩ = some (.int .i64 0) := KT.out.d2.2.cell 1
            have x2 : World.cell? w160 ⟨Db, 2, none⟩ = some (.int .i64 0) := KT.out.d2.2.cell 2
            have x3 : World.cell? w160 ⟨Db, 3, none⟩ = some (.int .i64 0) := KT.out.d2.2.cell 3
            have x4 : World.cell? w160 ⟨Db, 4, none⟩ = some (.int .i64 0) := KT.out.d2.2.cell 4
            have xf := KT.out.d2.2.frozen
            have xl := KT.out.d2.2.lt
            refine wpLate_one (i := 19) (o := ?of59_19) (by kernel_rfl) ?hof59_19 ?hkf59_19
            case hof59_19 => (simp only [List.getElem?_toArray, List.getElem?_cons_zero, List.getElem?_cons_succ]; rfl)
            intro K hK
            go_simp
            replace KT := Lib.hid (KT.out.put2 Y)
            refine hK.out _ _ (fun h => absurd h (by decide)) ?_
            clear hK K x0 x1 x2 x3 x4 xf xl
            refine (show wpLate _ _ _ _ _ _ _ _ _ (put5 w160 Db Y) from ?_)
            generalize put5 w160 Db Y = w161 at KT ⊢
            try simp only [Act.put, List.setIfInBounds_toArray, List.set_cons_zero, List.set_cons_succ]
            refine wpLate_done (by kernel_rfl) ?_ _
            try simp only [Act.put, List.setIfInBounds_toArray, List.set_cons_zero, List.set_cons_succ]
            go_wp2_with fail
            go_meet
            exact ⟨_, _, rfl, rfl, KT⟩
        case hkn47_17 =>
          intro K hK
          go_simp
          replace KT := Lib.hid (KT.out.al2)
          refine hK.out _ _ (fun _ => KS.out _ KT.out.b) ?_
          clear hK K
          obtain ⟨Db, hDn⟩ : ∃ D, D = (World.heap w146).size := ⟨_, rfl⟩
          rw [← hDn] at KT ⊢
          clear hDn
          generalize World.alloc w146 (.cells z5 48) = w162 at KT ⊢
          try simp only [Act.put, List.setIfInBounds_toArray, List.set_cons_zero, List.set_cons_succ]
          refine wpLate_one (i := 7) (o := ?on63_7) (by kernel_rfl) ?hon63_7 ?hkn63_7
          case hon63_7 => (simp only [List.getElem?_toArray, List.getElem?_cons_zero, List.getElem?_cons_succ]; rfl)
          intro K hK
          go_simp
          refine (C40.out _ KT.out.b).mono ?_
          rintro r w164 ⟨rfl, hbs⟩
          replace KT := Lib.hid (KT.out.call hbs)
          clear hbs
          go_simp
          refine hK.out _ _ (fun _ => KS.out _ KT.out.b) ?_
          clear hK K
          try simp only [Act.put, List.setIfInBounds_toArray, List.set_cons_zero, List.set_cons_succ]
          refine wpLate_one (i := 15) (o := ?on65_15) (by kernel_rfl) ?hon65_15 ?hkn65_15
          case hon65_15 => (simp only [List.getElem?_toArray, List.getElem?_cons_zero, List.getElem?_cons_succ]; rfl)
          intro K hK
          go_simp
          refine (C41.out _ KT.out.b).mono ?_
          rintro r w166 ⟨rfl, hbs⟩
          replace KT := Lib.hid (KT.out.call hbs)
          clear hbs
          go_simp
          refine hK.out _ _ (fun _ => KS.out _ KT.out.b) ?_
          clear hK K
          try simp only [Act.put, List.setIfInBounds_toArray, List.set_cons_zero, List.set_cons_succ]
          replace KT := Lib.hid KT.out.fin
          have x0 : World.cell? w166 ⟨Da, 0, none⟩ = some (.int .i64 0) := KT.out.d1.2.cell 0
          have x1 : World.cell? w166 ⟨Da, 1, none⟩ = some (.int .i64 0) := KT.out.d1.2.cell 1
          have x2 : World.cell? w166 ⟨Da, 2, none⟩ = some (.int .i64 0) := KT.out.d1.2.cell 2
          have x3 : World.cell? w166 ⟨Da, 3, none⟩ = some (.int .i64 0) := KT.out.d1.2.cell 3
          have x4 : World.cell? w166 ⟨Da, 4, none⟩ = some (.int .i64 0) := KT.out.d1.2.cell 4
          have xf := KT.out.d1.2.frozen
          have xl := KT.out.d1.2.lt
          refine wpLate_one (i := 18) (o := ?of67_18) (by kernel_rfl) ?hof67_18 ?hkf67_18
          case hof67_18 => (simp only [List.getElem?_toArray, List.getElem?_cons_zero, List.getElem?_cons_succ]; rfl)
          intro K hK
          go_simp
          replace KT := Lib.hid (KT.out.put1 X)
          refine hK.out _ _ (fun h => absurd h (by decide)) ?_
          clear hK K x0 x1 x2 x3 x4 xf xl
          refine (show wpLate _ _ _ _ _ _ _ _ _ (put5 w166 Da X) from ?_)
          generalize put5 w166 Da X = w168 at KT ⊢
          try simp only [Act.put, List.setIfInBounds_toArray, List.set_cons_zero, List.set_cons_succ]
          have x0 : World.cell? w168 ⟨Db, 0, none⟩ = some (.int .i64 0) := KT.out.d2.2.cell 0
          have x1 : World.cell? w168 ⟨Db, 1, none⟩ = some (.int .i64 0) := KT.out.d2.2.cell 1
          have x2 : World.cell? w168 ⟨Db, 2, none⟩ = some (.int .i64 0) := KT.out.d2.2.cell 2
          have x3 : World.cell? w168 ⟨Db, 3, none⟩ = some (.int .i64 0) := KT.out.d2.2.cell 3
          have x4 : World.cell? w168 ⟨Db, 4, none⟩ = some (.int .i64 0) := KT.out.d2.2.cell 4
          have xf := KT.out.d2.2.frozen
          have xl := KT.out.d2.2.lt
          refine wpLate_one (i := 19) (o := ?of67_19) (by kernel_rfl) ?hof67_19 ?hkf67_19
          case hof67_19 => (simp only [List.getElem?_toArray, List.getElem?_cons_zero, List.getElem?_cons_succ]; rfl)
          intro K hK
          go_simp
          replace KT := Lib.hid (KT.out.put2 Y)
          refine hK.out _ _ (fun h => absurd h (by decide)) ?_
          clear hK K x0 x1 x2 x3 x4 xf xl
          refine (show wpLate _ _ _ _ _ _ _ _ _ (put5 w168 Db Y) from ?_)
          generalize put5 w168 Db Y = w169 at KT ⊢
          try simp only [Act.put, List.setIfInBounds_toArray, List.set_cons_zero, List.set_cons_succ]
          refine wpLate_done (by kernel_rfl) ?_ _
          try simp only [Act.put, List.setIfInBounds_toArray, List.set_cons_zero, List.set_cons_succ]
          go_wp2_with fail
          go_meet
          exact ⟨_, _, rfl, rfl, KT⟩
      case hkn1_17 =>
        intro K hK
        go_simp
        replace KT := Lib.hid (KT.out.al2)
        refine hK.out _ _ (fun _ => KS.out _ KT.out.b) ?_
        clear hK K
        obtain ⟨Db, hDn⟩ : ∃ D, D = (World.heap wd).size := ⟨_, rfl⟩
        rw [← hDn] at KT ⊢
        clear hDn
        generalize World.alloc wd (.cells z5 48) = w170 at KT ⊢
        try simp only [Act.put, List.setIfInBounds_toArray, List.set_cons_zero, List.set_cons_succ]
        refine wpLate_two (i := 7) (j := 16) (o := ?on71_7) (u := ?on71_16) (by kernel_rfl) ?hon71_7 ?hon71_16 ?hkn71_7 ?hkn71_16
        case hon71_7 => (simp only [List.getElem?_toArray, List.getElem?_cons_zero, List.getElem?_cons_succ]; rfl)
        case hon71_16 => (simp only [List.getElem?_toArray, List.getElem?_cons_zero, List.getElem?_cons_succ]; rfl)
        case hkn71_7 =>
          intro K hK
          go_simp
          refine (C40.out _ KT.out.b).mono ?_
          rintro r w172 ⟨rfl, hbs⟩
          replace KT := Lib.hid (KT.out.call hbs)
          clear hbs
          go_simp
          refine hK.out _ _ (fun _ => KS.out _ KT.out.b) ?_
          clear hK K
          try simp only [Act.put, List.setIfInBounds_toArray, List.set_cons_zero, List.set_cons_succ]
          refine wpLate_two (i := 15) (j := 16) (o := ?on73_15) (u := ?on73_16) (by kernel_rfl) ?hon73_15 ?hon73_16 ?hkn73_15 ?hkn73_16
          case hon73_15 => (simp only [List.getElem?_toArray, List.getElem?_cons_zero, List.getElem?_cons_succ]; rfl)
          case hon73_16 => (simp only [List.getElem?_toArray, List.getElem?_cons_zero, List.getElem?_cons_succ]; rfl)
          case hkn73_15 =>
            intro K hK
            go_simp
            refine (C41.out _ KT.out.b).mono ?_
            rintro r w174 ⟨rfl, hbs⟩
            replace KT := Lib.hid (KT.out.call hbs)
            clear hbs
            go_simp
            refine hK.out _ _ (fun _ => KS.out _ KT.out.b) ?_
            clear hK K
            try simp only [Act.put, List.setIfInBounds_toArray, List.set_cons_zero, List.set_cons_succ]
            refine wpLate_one (i := 16) (o := ?on75_16) (by kernel_rfl) ?hon75_16 ?hkn75_16
            case hon75_16 => (simp only [List.getElem?_toArray, List.getElem?_cons_zero, List.getElem?_cons_succ]; rfl)
            intro K hK
            go_simp
            replace KT := Lib.hid (KT.out.al1)
            refine hK.out _ _ (fun _ => KS.out _ KT.out.b) ?_
            clear hK K
            obtain ⟨Da, hDn⟩ : ∃ D, D = (World.heap w174).size := ⟨_, rfl⟩
            rw [← hDn] at KT ⊢
            clear hDn
            generalize World.alloc w174 (.cells z5 48) = w176 at KT ⊢
            try simp only [Act.put, List.setIfInBounds_toArray, List.set_cons_zero, List.set_cons_succ]
            replace KT := Lib.hid KT.out.fin
            have x0 : World.cell? w176 ⟨Da, 0, none⟩ = some (.int .i64 0) := KT.out.d1.2.cell 0
            have x1 : World.cell? w176 ⟨Da, 1, none⟩ = some (.int .i64 0) := KT.out.d1.2.cell 1
            have x2 : World.cell? w176 ⟨Da, 2, none⟩ = some (.int .i64 0) := KT.out.d1.2.cell 2
            have x3 : World.cell? w176 ⟨Da, 3, none⟩ = some (.int .i64 0) := KT.out.d1.2.cell 3
            have x4 : World.cell? w176 ⟨Da, 4, none⟩ = some (.int .i64 0) := KT.out.d1.2.cell 4
            have xf := KT.out.d1.2.frozen
            have xl := KT.out.d1.2.lt
            refine wpLate_one (i := 18) (o := ?of77_18) (by kernel_rfl) ?hof77_18 ?hkf77_18
            case hof77_18 => (simp only [List.getElem?_toArray, List.getElem?_cons_zero, List.getElem?_cons_succ]; rfl)
            intro K hK
            go_simp
            replace KT := Lib.hid (KT.out.put1 X)
            refine hK.out _ _ (fun h => absurd h (by decide)) ?_
            clear hK K x0 x1 x2 x3 x4 xf xl
            refine (show wpLate _ _ _ _ _ _ _ _ _ (put5 w176 Da X) from ?_)
            generalize put5 w176 Da X = w178 at KT ⊢
            try simp only [Act.put, List.setIfInBounds_toArray, List.set_cons_zero, List.set_cons_succ]
            have x0 : World.cell? w178 ⟨Db, 0, none⟩ = some (.int .i64 0) := KT.out.d2.2.cell 0
            have x1 : World.cell? w178 ⟨Db, 1, none⟩ = some (.int .i64 0) := KT.out.d2.2.cell 1
            have x2 : World.cell? w178 ⟨Db, 2, none⟩ = some (.int .i64 0) := KT.out.d2.2.cell 2
            have x3 : World.cell? w178 ⟨Db, 3, none⟩ = some (.int .i64 0) := KT.out.d2.2.cell 3
            have x4 : World.cell? w178 ⟨Db, 4, none⟩ = some (.int .i64 0) := KT.out.d2.2.cell 4
            have xf := KT.out.d2.2.frozen
            have xl := KT.out.d2.2.lt
            refine wpLate_one (i := 19) (o := ?of77_19) (by kernel_rfl) ?hof77_19 ?hkf77_19
            case hof77_19 => (simp only [List.getElem?_toArray, List.getElem?_cons_zero, List.getElem?_cons_succ]; rfl)
            intro K hK
            go_simp
            replace KT := Lib.hid (KT.out.put2 Y)
            refine hK.out _ _ (fun h => absurd h (by decide)) ?_
            clear hK K x0 x1 x2 x3 x4 xf xl
            refine (show wpLate _ _ _ _ _ _ _ _ _ (put5 w178 Db Y) from ?_)
            generalize put5 w178 Db Y = w179 at KT ⊢
            try simp only [Act.put, List.setIfInBounds_toArray, List.set_cons_zero, List.set_cons_succ]
            refine wpLate_done (by kernel_rfl) ?_ _
            try simp only [Act.put, List.setIfInBounds_toArray, List.set_cons_zero, List.set_cons_succ]
            go_wp2_with fail
            go_meet
            exact ⟨_, _, rfl, rfl, KT⟩
          case hkn73_16 =>
            intro K hK
            go_simp
            replace KT := Lib.hid (KT.out.al1)
            refine hK.out _ _ (fun _ => KS.out _ KT.out.b) ?_
            clear hK K
            obtain ⟨Da, hDn⟩ : ∃ D, D = (World.heap w172).size := ⟨_, rfl⟩
            rw [← hDn] at KT ⊢
            clear hDn
            generalize World.alloc w172 (.cells z5 48) = w180 at KT ⊢
            try simp only [Act.put, List.setIfInBounds_toArray, List.set_cons_zero, List.set_cons_succ]
            refine wpLate_one (i := 15) (o := ?on81_15) (by kernel_rfl) ?hon81_15 ?hkn81_15
            case hon81_15 => (simp only [List.getElem?_toArray, List.getElem?_cons_zero, List.getElem?_cons_succ]; rfl)
            intro K hK
            go_simp
            refine (C41.out _ KT.out.b).mono ?_
            rintro r w182 ⟨rfl, hbs⟩
            replace KT := Lib.hid (KT.out.call hbs)
            clear hbs
            go_simp
            refine hK.out _ _ (fun _ => KS.out _ KT.out.b) ?_
            clear hK K
            try simp only [Act.put, List.setIfInBounds_toArray, List.set_cons_zero, List.set_cons_succ]
            replace KT := Lib.hid KT.out.fin
            have x0 : World.cell? w182 ⟨Da, 0, none⟩ = some (.int .i64 0) := KT.out.d1.2.cell 0
            have x1 : World.cell? w182 ⟨Da, 1, none⟩ = some (.int .i64 0) := KT.out.d1.2.cell 1
            have x2 : World.cell? w182 ⟨Da, 2, none⟩ = some (.int .i64 0) := KT.out.d1.2.cell 2
            have x3 : World.cell? w182 ⟨Da, 3, none⟩ = some (.int .i64 0) := KT.out.d1.2.cell 3
            have x4 : World.cell? w182 ⟨Da, 4, none⟩ = some (.int .i64 0) := KT.out.d1.2.cell 4
            have xf := KT.out.d1.2.frozen
            have xl := KT.out.d1.2.lt
            refine wpLate_one (i := 18) (o := ?of83_18) (by kernel_rfl) ?hof83_18 ?hkf83_18
            case hof83_18 => (simp only [List.getElem?_toArray, List.getElem?_cons_zero, List.getElem?_cons_succ]; rfl)
            intro K hK
            go_simp
            replace KT := Lib.hid (KT.out.put1 X)
            refine hK.out _ _ (fun h => absurd h (by decide)) ?_
            clear hK K x0 x1 x2 x3 x4 xf xl
            refine (show wpLate _ _ _ _ _ _ _ _ _ (put5 w182 Da X) from ?_)
            generalize put5 w182 Da X = w184 at KT ⊢
            try simp only [Act.put, List.setIfInBounds_toArray, List.set_cons_zero, List.set_cons_succ]
            have x0 : World.cell? w184 ⟨Db, 0, none⟩ = some (.int .i64 0) := KT.out.d2.2.cell 0
            have x1 : World.cell? w184 ⟨Db, 1, none⟩ = some (.int .i64 0) := KT.out.d2.2.cell 1
            have x2 : World.cell? w184 ⟨Db, 2, none⟩ = some (.int .i64 0) := KT.out.d2.2.cell 2
            have x3 : World.cell? w184 ⟨Db, 3, none⟩ = some (.int .i64 0) := KT.out.d2.2.cell 3
            have x4 : World.cell? w184 ⟨Db, 4, none⟩ = some (.int .i64 0) := KT.out.d2.2.cell 4
            have xf := KT.out.d2.2.frozen
            have xl := KT.out.d2.2.lt
            refine wpLate_one (i := 19) (o := ?of83_19) (by kernel_rfl) ?hof83_19 ?hkf83_19
            case hof83_19 => (simp only [List.getElem?_toArray, List.getElem?_cons_zero, List.getElem?_cons_succ]; rfl)
            intro K hK
            go_simp
            replace KT := Lib.hid (KT.out.put2 Y)
            refine hK.out _ _ (fun h => absurd h (by decide)) ?_
            clear hK K x0 x1 x2 x3 x4 xf xl
            refine (show wpLate _ _ _ _ _ _ _ _ _ (put5 w184 Db Y) from ?_)
            generalize put5 w184 Db Y = w185 at KT ⊢
            try simp only [Act.put, List.setIfInBounds_toArray, List.set_cons_zero, List.set_cons_succ]
            refine wpLate_done (by kernel_rfl) ?_ _
            try simp only [Act.put, List.setIfInBounds_toArray, List.set_cons_zero, List.set_cons_succ]
            go_wp2_with fail
            go_meet
            exact ⟨_, _, rfl, rfl, KT⟩
        case hkn71_16 =>
          intro K hK
          go_simp
          replace KT := Lib.hid (KT.out.al1)
          refine hK.out _ _ (fun _ => KS.out _ KT.out.b) ?_
          clear hK K
          obtain ⟨Da, hDn⟩ : ∃ D, D = (World.heap w170).size := ⟨_, rfl⟩
          rw [← hDn] at KT ⊢
          clear hDn
          generalize World.alloc w170 (.cells z5 48) = w186 at KT ⊢
          try simp only [Act.put, List.setIfInBounds_toArray, List.set_cons_zero, List.set_cons_succ]
          refine wpLate_one (i := 7) (o := ?on87_7) (by kernel_rfl) ?hon87_7 ?hkn87_7
          case hon87_7 => (simp only [List.getElem?_toArray, List.getElem?_cons_zero, List.getElem?_cons_succ]; rfl)
          intro K hK
          go_simp
          refine (C40.out _ KT.out.b).mono ?_
          rintro r w188 ⟨rfl, hbs⟩
          replace KT := Lib.hid (KT.out.call hbs)
          clear hbs
          go_simp
          refine hK.out _ _ (fun _ => KS.out _ KT.out.b) ?_
          clear hK K
          try simp only [Act.put, List.setIfInBounds_toArray, List.set_cons_zero, List.set_cons_succ]
          refine wpLate_one (i := 15) (o := ?on89_15) (by kernel_rfl) ?hon89_15 ?hkn89_15
          case hon89_15 => (simp only [List.getElem?_toArray, List.getElem?_cons_zero, List.getElem?_cons_succ]; rfl)
          intro K hK
          go_simp
          refine (C41.out _ KT.out.b).mono ?_
          rintro r w190 ⟨rfl, hbs⟩
          replace KT := Lib.hid (KT.out.call hbs)
          clear hbs
          go_simp
          refine hK.out _ _ (fun _ => KS.out _ KT.out.b) ?_
          clear hK K
          try simp only [Act.put, List.setIfInBounds_toArray, List.set_cons_zero, List.set_cons_succ]
          replace KT := Lib.hid KT.out.fin
          have x0 : World.cell? w190 ⟨Da, 0, none⟩ = some (.int .i64 0) := KT.out.d1.2.cell 0
          have x1 : World.cell? w190 ⟨Da, 1, none⟩ = some (.int .i64 0) := KT.out.d1.2.cell 1
          have x2 : World.cell? w190 ⟨Da, 2, none⟩ = some (.int .i64 0) := KT.out.d1.2.cell 2
          have x3 : World.cell? w190 ⟨Da, 3, none⟩ = some (.int .i64 0) := KT.out.d1.2.cell 3
          have x4 : World.cell? w190 ⟨Da, 4, none⟩ = some (.int .i64 0) := KT.out.d1.2.cell 4
          have xf := KT.out.d1.2.frozen
          have xl := KT.out.d1.2.lt
          refine wpLate_one (i := 18) (o := ?of91_18) (by kernel_rfl) ?hof91_18 ?hkf91_18
          case hof91_18 => (simp only [List.getElem?_toArray, List.getElem?_cons_zero, List.getElem?_cons_succ]; rfl)
          intro K hK
          go_simp
          replace KT := Lib.hid (KT.out.put1 X)
          refine hK.out _ _ (fun h => absurd h (by decide)) ?_
          clear hK K x0 x1 x2 x3 x4 xf xl
          refine (show wpLate _ _ _ _ _ _ _ _ _ (put5 w190 Da X) from ?_)
          generalize put5 w190 Da X = w192 at KT ⊢
          try simp only [Act.put, List.setIfInBounds_toArray, List.set_cons_zero, List.set_cons_succ]
          have x0 : World.cell? w192 ⟨Db, 0, none⟩ = some (.int .i64 0) := KT.out.d2.2.cell 0
          have x1 : World.cell? w192 ⟨Db, 1, none⟩ = some (.int .i64 0) := KT.out.d2.2.cell 1
          have x2 : World.cell? w192 ⟨Db, 2, none⟩ = some (.int .i64 0) := KT.out.d2.2.cell 2
          have x3 : World.cell? w192 ⟨Db, 3, none⟩ = some (.int .i64 0) := KT.out.d2.2.cell 3
          have x4 : World.cell? w192 ⟨Db, 4, none⟩ = some (.int .i64 0) := KT.out.d2.2.cell 4
          have xf := KT.out.d2.2.frozen
          have xl := KT.out.d2.2.lt
          refine wpLate_one (i := 19) (o := ?of91_19) (by kernel_rfl) ?hof91_19 ?hkf91_19
          case hof91_19 => (simp only [List.getElem?_toArray, List.getElem?_cons_zero, List.getElem?_cons_succ]; rfl)
          intro K hK
          go_simp
          replace KT := Lib.hid (KT.out.put2 Y)
          refine hK.out _ _ (fun h => absurd h (by decide)) ?_
          clear hK K x0 x1 x2 x3 x4 xf xl
          refine (show wpLate _ _ _ _ _ _ _ _ _ (put5 w192 Db Y) from ?_)
          generalize put5 w192 Db Y = w193 at KT ⊢
          try simp only [Act.put, List.setIfInBounds_toArray, List.set_cons_zero, List.set_cons_succ]
          refine wpLate_done (by kernel_rfl) ?_ _
          try simp only [Act.put, List.setIfInBounds_toArray, List.set_cons_zero, List.set_cons_succ]
          go_wp2_with fail
          go_meet
          exact ⟨_, _, rfl, rfl, KT⟩
    obtain ⟨D1, D2, rfl, rfl, HT⟩ := hcut
    rename World => wx
    have HNE := Lib.hid (show D1 ≠ W.heap.size + 1 ∧ D2 ≠ W.heap.size + 1 from ⟨by have := HT.out.d1.1; have := HW.out.v.fw.lt; omega, by have := HT.out.d2.1; have := HW.out.v.fw.lt; omega⟩)
    have HW2 := Lib.hid (HW.out.step HT.out.b)
    have d0 : wx.cell? ⟨D1, 0, none⟩ = some (.int .i64 X.w) := HT.out.d1.2.cell 0
    have d1 : wx.cell? ⟨D2, 0, none⟩ = some (.int .i64 Y.w) := HT.out.d2.2.cell 0
    have l0 : wx.cell? ⟨W.heap.size + 1, 0, none⟩ = some (.int .i64 c.w) := HW2.out.v.fw.cell 0
    have l1 : wx.cell? ⟨W.heap.size + 1, 1, none⟩ = some (.int .i64 d.w) := HW2.out.v.fw.cell 1
    have lf := HW2.out.v.fw.frozen
    have ll := HW2.out.v.fw.lt
    go_upto_region 9 with fail
    have KR0 := Lib.hid (And.intro (HW2.out.setW X.w Y.w) (And.intro ((HT.out.d1.2.far (p := ⟨W.heap.size + 1, 0, none⟩) HNE.out.1 (.int .i64 X.w)).far (p := ⟨W.heap.size + 1, 1, none⟩) HNE.out.1 (.int .i64 Y.w)) ((HT.out.d2.2.far (p := ⟨W.heap.size + 1, 0, none⟩) HNE.out.2 (.int .i64 X.w)).far (p := ⟨W.heap.size + 1, 1, none⟩) HNE.out.2 (.int .i64 Y.w))))
    clear d0 d1 l0 l1 lf ll
    generalize (wx.setCell ⟨W.heap.size + 1, 0, none⟩ (.int .i64 X.w)).setCell ⟨W.heap.size + 1, 1, none⟩ (.int .i64 Y.w) = w9 at KR0 ⊢
    have KR : Hid (RD W w9.drew a A B ca cb X.w Y.w c d ∧ Has w9.drew D1 48 (coc X) ∧ Has w9.drew D2 48 (coc Y)) := ⟨⟨⟨⟨below_dr' KR0.out.1.v.b.b, KR0.out.1.v.b.fa.drew⟩, KR0.out.1.v.fw.drew⟩, KR0.out.1.f6.drew, KR0.out.1.f7.drew, KR0.out.1.fm.drew⟩, KR0.out.2.1.drew, KR0.out.2.2.drew⟩
    clear KR0 HT HW2 HW KS C40 C41 HNE
    refine wp_region_late (fun w' : World => w'.cell? ⟨W.heap.size + 1 + 1 + 1 + 1, 0, none⟩ = some (.int .i64 c.came) ∧ w'.cell? ⟨W.heap.size + 1 + 1 + 1 + 1, 1, none⟩ = some (.int .i64 d.came) ∧ w'.cell? ⟨W.heap.size + 1 + 1 + 1 + 1, 2, none⟩ = some (.int .i64 c.out) ∧ w'.cell? ⟨W.heap.size + 1 + 1 + 1 + 1, 3, none⟩ = some (.int .i64 d.out) ∧ w'.cell? ⟨W.heap.size + 1 + 1 + 1 + 1, 4, none⟩ = some (.int .i64 c.dried) ∧ w'.cell? ⟨W.heap.size + 1 + 1 + 1 + 1, 5, none⟩ = some (.int .i64 d.dried) ∧ w'.cell? ⟨W.heap.size + 1 + 1 + 1 + 1, 6, none⟩ = some (.int .i64 c.dew) ∧ w'.cell? ⟨W.heap.size + 1 + 1 + 1 + 1, 7, none⟩ = some (.int .i64 d.dew) ∧ w'.cell? ⟨D1, 1, none⟩ = some (.int .i64 X.came) ∧ w'.cell? ⟨D1, 2, none⟩ = some (.int .i64 X.out) ∧ w'.cell? ⟨D1, 3, none⟩ = some (.int .i64 X.dried) ∧ w'.cell? ⟨D1, 4, none⟩ = some (.int .i64 X.dew) ∧ w'.cell? ⟨D2, 1, none⟩ = some (.int .i64 Y.came) ∧ w'.cell? ⟨D2, 2, none⟩ = some (.int .i64 Y.out) ∧ w'.cell? ⟨D2, 3, none⟩ = some (.int .i64 Y.dried) ∧ w'.cell? ⟨D2, 4, none⟩ = some (.int .i64 Y.dew)) [29] (by kernel_rfl) ?_
    refine wpLate_take (i := 0) (oi := ?oi0r9) (v := ?v0r9) [1, 6, 13, 20, 27, 28, 29] ?hi0r9 (by kernel_rfl) (by kernel_rfl) (by kernel_rfl) (by kernel_rfl) (by kernel_rfl) ?hQ0r9 (Or.inl ⟨?hw0r9, ?hy0r9⟩) (⟨KR.out.1.fm.cell 0, KR.out.1.fm.cell 1, KR.out.1.fm.cell 2, KR.out.1.fm.cell 3, KR.out.1.fm.cell 4, KR.out.1.fm.cell 5, KR.out.1.fm.cell 6, KR.out.1.fm.cell 7, KR.out.2.1.cell 1, KR.out.2.1.cell 2, KR.out.2.1.cell 3, KR.out.2.1.cell 4, KR.out.2.2.cell 1, KR.out.2.2.cell 2, KR.out.2.2.cell 3, KR.out.2.2.cell 4⟩) ?rest0r9
    case hi0r9 => (simp only [List.getElem?_toArray, List.getElem?_cons_zero]; rfl)
    case hQ0r9 => exact fun _ _ _ h => h
    case hw0r9 => rfl
    case hy0r9 =>
      intro w' hSw
      obtain ⟨r0, r1, r2, r3, r4, r5, r6, r7, r8, r9, r10, r11, r12, r13, r14, r15⟩ := hSw
      go_simp
      try exact rfl
    try simp only [Act.put, List.setIfInBounds_toArray, List.set_cons_zero, List.set_cons_succ]
    refine wpLate_take (i := 1) (oi := ?oi1r9) (v := ?v1r9) [6, 13, 20, 27, 28, 29] ?hi1r9 (by kernel_rfl) (by kernel_rfl) (by kernel_rfl) (by kernel_rfl) (by kernel_rfl) ?hQ1r9 (Or.inl ⟨?hw1r9, ?hy1r9⟩) (⟨KR.out.1.fm.cell 0, KR.out.1.fm.cell 1, KR.out.1.fm.cell 2, KR.out.1.fm.cell 3, KR.out.1.fm.cell 4, KR.out.1.fm.cell 5, KR.out.1.fm.cell 6, KR.out.1.fm.cell 7, KR.out.2.1.cell 1, KR.out.2.1.cell 2, KR.out.2.1.cell 3, KR.out.2.1.cell 4, KR.out.2.2.cell 1, KR.out.2.2.cell 2, KR.out.2.2.cell 3, KR.out.2.2.cell 4⟩) ?rest1r9
    case hi1r9 => (simp only [List.getElem?_toArray, List.getElem?_cons_zero, List.getElem?_cons_succ]; rfl)
    case hQ1r9 => exact fun _ _ _ h => h
    case hw1r9 => rfl
    case hy1r9 =>
      intro w' hSw
      obtain ⟨r0, r1, r2, r3, r4, r5, r6, r7, r8, r9, r10, r11, r12, r13, r14, r15⟩ := hSw
      go_simp
      try exact rfl
    try simp only [Act.put, List.setIfInBounds_toArray, List.set_cons_zero, List.set_cons_succ]
    refine wpLate_take (i := 2) (oi := ?oi2r9) (v := ?v2r9) [3, 6, 13, 20, 27, 28, 29] ?hi2r9 (by kernel_rfl) (by kernel_rfl) (by kernel_rfl) (by kernel_rfl) (by kernel_rfl) ?hQ2r9 (Or.inl ⟨?hw2r9, ?hy2r9⟩) (⟨KR.out.1.fm.cell 0, KR.out.1.fm.cell 1, KR.out.1.fm.cell 2, KR.out.1.fm.cell 3, KR.out.1.fm.cell 4, KR.out.1.fm.cell 5, KR.out.1.fm.cell 6, KR.out.1.fm.cell 7, KR.out.2.1.cell 1, KR.out.2.1.cell 2, KR.out.2.1.cell 3, KR.out.2.1.cell 4, KR.out.2.2.cell 1, KR.out.2.2.cell 2, KR.out.2.2.cell 3, KR.out.2.2.cell 4⟩) ?rest2r9
    case hi2r9 => (simp only [List.getElem?_toArray, List.getElem?_cons_zero, List.getElem?_cons_succ]; rfl)
    case hQ2r9 => exact fun _ _ _ h => h
    case hw2r9 => rfl
    case hy2r9 =>
      intro w' hSw
      obtain ⟨r0, r1, r2, r3, r4, r5, r6, r7, r8, r9, r10, r11, r12, r13, r14, r15⟩ := hSw
      go_simp
      try exact rfl
    try simp only [Act.put, List.setIfInBounds_toArray, List.set_cons_zero, List.set_cons_succ]
    refine wpLate_take (i := 3) (oi := ?oi3r9) (v := ?v3r9) [6, 13, 20, 27, 28, 29] ?hi3r9 (by kernel_rfl) (by kernel_rfl) (by kernel_rfl) (by kernel_rfl) (by kernel_rfl) ?hQ3r9 (Or.inl ⟨?hw3r9, ?hy3r9⟩) (⟨KR.out.1.fm.cell 0, KR.out.1.fm.cell 1, KR.out.1.fm.cell 2, KR.out.1.fm.cell 3, KR.out.1.fm.cell 4, KR.out.1.fm.cell 5, KR.out.1.fm.cell 6, KR.out.1.fm.cell 7, KR.out.2.1.cell 1, KR.out.2.1.cell 2, KR.out.2.1.cell 3, KR.out.2.1.cell 4, KR.out.2.2.cell 1, KR.out.2.2.cell 2, KR.out.2.2.cell 3, KR.out.2.2.cell 4⟩) ?rest3r9
    case hi3r9 => (simp only [List.getElem?_toArray, List.getElem?_cons_zero, List.getElem?_cons_succ]; rfl)
    case hQ3r9 => exact fun _ _ _ h => h
    case hw3r9 => rfl
    case hy3r9 =>
      intro w' hSw
      obtain ⟨r0, r1, r2, r3, r4, r5, r6, r7, r8, r9, r10, r11, r12, r13, r14, r15⟩ := hSw
      go_simp
      try exact rfl
    try simp only [Act.put, List.setIfInBounds_toArray, List.set_cons_zero, List.set_cons_succ]
    refine wpLate_take (i := 4) (oi := ?oi4r9) (v := ?v4r9) [5, 6, 13, 20, 27, 28, 29] ?hi4r9 (by kernel_rfl) (by kernel_rfl) (by kernel_rfl) (by kernel_rfl) (by kernel_rfl) ?hQ4r9 (Or.inl ⟨?hw4r9, ?hy4r9⟩) (⟨KR.out.1.fm.cell 0, KR.out.1.fm.cell 1, KR.out.1.fm.cell 2, KR.out.1.fm.cell 3, KR.out.1.fm.cell 4, KR.out.1.fm.cell 5, KR.out.1.fm.cell 6, KR.out.1.fm.cell 7, KR.out.2.1.cell 1, KR.out.2.1.cell 2, KR.out.2.1.cell 3, KR.out.2.1.cell 4, KR.out.2.2.cell 1, KR.out.2.2.cell 2, KR.out.2.2.cell 3, KR.out.2.2.cell 4⟩) ?rest4r9
    case hi4r9 => (simp only [List.getElem?_toArray, List.getElem?_cons_zero, List.getElem?_cons_succ]; rfl)
    case hQ4r9 => exact fun _ _ _ h => h
    case hw4r9 => rfl
    case hy4r9 =>
      intro w' hSw
      obtain ⟨r0, r1, r2, r3, r4, r5, r6, r7, r8, r9, r10, r11, r12, r13, r14, r15⟩ := hSw
      go_simp
      try exact rfl
    try simp only [Act.put, List.setIfInBounds_toArray, List.set_cons_zero, List.set_cons_succ]
    refine wpLate_take (i := 5) (oi := ?oi5r9) (v := ?v5r9) [6, 13, 20, 27, 28, 29] ?hi5r9 (by kernel_rfl) (by kernel_rfl) (by kernel_rfl) (by kernel_rfl) (by kernel_rfl) ?hQ5r9 (Or.inl ⟨?hw5r9, ?hy5r9⟩) (⟨KR.out.1.fm.cell 0, KR.out.1.fm.cell 1, KR.out.1.fm.cell 2, KR.out.1.fm.cell 3, KR.out.1.fm.cell 4, KR.out.1.fm.cell 5, KR.out.1.fm.cell 6, KR.out.1.fm.cell 7, KR.out.2.1.cell 1, KR.out.2.1.cell 2, KR.out.2.1.cell 3, KR.out.2.1.cell 4, KR.out.2.2.cell 1, KR.out.2.2.cell 2, KR.out.2.2.cell 3, KR.out.2.2.cell 4⟩) ?rest5r9
    case hi5r9 => (simp only [List.getElem?_toArray, List.getElem?_cons_zero, List.getElem?_cons_succ]; rfl)
    case hQ5r9 => exact fun _ _ _ h => h
    case hw5r9 => rfl
    case hy5r9 =>
      intro w' hSw
      obtain ⟨r0, r1, r2, r3, r4, r5, r6, r7, r8, r9, r10, r11, r12, r13, r14, r15⟩ := hSw
      go_simp
      try exact rfl
    try simp only [Act.put, List.setIfInBounds_toArray, List.set_cons_zero, List.set_cons_succ]
    refine wpLate_take (i := 7) (oi := ?oi7r9) (v := ?v7r9) [8, 13, 20, 27, 28, 29] ?hi7r9 (by kernel_rfl) (by kernel_rfl) (by kernel_rfl) (by kernel_rfl) (by kernel_rfl) ?hQ7r9 (Or.inl ⟨?hw7r9, ?hy7r9⟩) (⟨KR.out.1.fm.cell 0, KR.out.1.fm.cell 1, KR.out.1.fm.cell 2, KR.out.1.fm.cell 3, KR.out.1.fm.cell 4, KR.out.1.fm.cell 5, KR.out.1.fm.cell 6, KR.out.1.fm.cell 7, KR.out.2.1.cell 1, KR.out.2.1.cell 2, KR.out.2.1.cell 3, KR.out.2.1.cell 4, KR.out.2.2.cell 1, KR.out.2.2.cell 2, KR.out.2.2.cell 3, KR.out.2.2.cell 4⟩) ?rest7r9
    case hi7r9 => (simp only [List.getElem?_toArray, List.getElem?_cons_zero, List.getElem?_cons_succ]; rfl)
    case hQ7r9 => exact fun _ _ _ h => h
    case hw7r9 => rfl
    case hy7r9 =>
      intro w' hSw
      obtain ⟨r0, r1, r2, r3, r4, r5, r6, r7, r8, r9, r10, r11, r12, r13, r14, r15⟩ := hSw
      go_simp
      try exact rfl
    try simp only [Act.put, List.setIfInBounds_toArray, List.set_cons_zero, List.set_cons_succ]
    refine wpLate_take (i := 8) (oi := ?oi8r9) (v := ?v8r9) [13, 20, 27, 28, 29] ?hi8r9 (by kernel_rfl) (by kernel_rfl) (by kernel_rfl) (by kernel_rfl) (by kernel_rfl) ?hQ8r9 (Or.inl ⟨?hw8r9, ?hy8r9⟩) (⟨KR.out.1.fm.cell 0, KR.out.1.fm.cell 1, KR.out.1.fm.cell 2, KR.out.1.fm.cell 3, KR.out.1.fm.cell 4, KR.out.1.fm.cell 5, KR.out.1.fm.cell 6, KR.out.1.fm.cell 7, KR.out.2.1.cell 1, KR.out.2.1.cell 2, KR.out.2.1.cell 3, KR.out.2.1.cell 4, KR.out.2.2.cell 1, KR.out.2.2.cell 2, KR.out.2.2.cell 3, KR.out.2.2.cell 4⟩) ?rest8r9
    case hi8r9 => (simp only [List.getElem?_toArray, List.getElem?_cons_zero, List.getElem?_cons_succ]; rfl)
    case hQ8r9 => exact fun _ _ _ h => h
    case hw8r9 => rfl
    case hy8r9 =>
      intro w' hSw
      obtain ⟨r0, r1, r2, r3, r4, r5, r6, r7, r8, r9, r10, r11, r12, r13, r14, r15⟩ := hSw
      go_simp
      try exact rfl
    try simp only [Act.put, List.setIfInBounds_toArray, List.set_cons_zero, List.set_cons_succ]
    refine wpLate_take (i := 9) (oi := ?oi9r9) (v := ?v9r9) [10, 13, 20, 27, 28, 29] ?hi9r9 (by kernel_rfl) (by kernel_rfl) (by kernel_rfl) (by kernel_rfl) (by kernel_rfl) ?hQ9r9 (Or.inl ⟨?hw9r9, ?hy9r9⟩) (⟨KR.out.1.fm.cell 0, KR.out.1.fm.cell 1, KR.out.1.fm.cell 2, KR.out.1.fm.cell 3, KR.out.1.fm.cell 4, KR.out.1.fm.cell 5, KR.out.1.fm.cell 6, KR.out.1.fm.cell 7, KR.out.2.1.cell 1, KR.out.2.1.cell 2, KR.out.2.1.cell 3, KR.out.2.1.cell 4, KR.out.2.2.cell 1, KR.out.2.2.cell 2, KR.out.2.2.cell 3, KR.out.2.2.cell 4⟩) ?rest9r9
    case hi9r9 => (simp only [List.getElem?_toArray, List.getElem?_cons_zero, List.getElem?_cons_succ]; rfl)
    case hQ9r9 => exact fun _ _ _ h => h
    case hw9r9 => rfl
    case hy9r9 =>
      intro w' hSw
      obtain ⟨r0, r1, r2, r3, r4, r5, r6, r7, r8, r9, r10, r11, r12, r13, r14, r15⟩ := hSw
      go_simp
      try exact rfl
    try simp only [Act.put, List.setIfInBounds_toArray, List.set_cons_zero, List.set_cons_succ]
    refine wpLate_take (i := 10) (oi := ?oi10r9) (v := ?v10r9) [13, 20, 27, 28, 29] ?hi10r9 (by kernel_rfl) (by kernel_rfl) (by kernel_rfl) (by kernel_rfl) (by kernel_rfl) ?hQ10r9 (Or.inl ⟨?hw10r9, ?hy10r9⟩) (⟨KR.out.1.fm.cell 0, KR.out.1.fm.cell 1, KR.out.1.fm.cell 2, KR.out.1.fm.cell 3, KR.out.1.fm.cell 4, KR.out.1.fm.cell 5, KR.out.1.fm.cell 6, KR.out.1.fm.cell 7, KR.out.2.1.cell 1, KR.out.2.1.cell 2, KR.out.2.1.cell 3, KR.out.2.1.cell 4, KR.out.2.2.cell 1, KR.out.2.2.cell 2, KR.out.2.2.cell 3, KR.out.2.2.cell 4⟩) ?rest10r9
    case hi10r9 => (simp only [List.getElem?_toArray, List.getElem?_cons_zero, List.getElem?_cons_succ]; rfl)
    case hQ10r9 => exact fun _ _ _ h => h
    case hw10r9 => rfl
    case hy10r9 =>
      intro w' hSw
      obtain ⟨r0, r1, r2, r3, r4, r5, r6, r7, r8, r9, r10, r11, r12, r13, r14, r15⟩ := hSw
      go_simp
      try exact rfl
    try simp only [Act.put, List.setIfInBounds_toArray, List.set_cons_zero, List.set_cons_succ]
    refine wpLate_take (i := 11) (oi := ?oi11r9) (v := ?v11r9) [12, 13, 20, 27, 28, 29] ?hi11r9 (by kernel_rfl) (by kernel_rfl) (by kernel_rfl) (by kernel_rfl) (by kernel_rfl) ?hQ11r9 (Or.inl ⟨?hw11r9, ?hy11r9⟩) (⟨KR.out.1.fm.cell 0, KR.out.1.fm.cell 1, KR.out.1.fm.cell 2, KR.out.1.fm.cell 3, KR.out.1.fm.cell 4, KR.out.1.fm.cell 5, KR.out.1.fm.cell 6, KR.out.1.fm.cell 7, KR.out.2.1.cell 1, KR.out.2.1.cell 2, KR.out.2.1.cell 3, KR.out.2.1.cell 4, KR.out.2.2.cell 1, KR.out.2.2.cell 2, KR.out.2.2.cell 3, KR.out.2.2.cell 4⟩) ?rest11r9
    case hi11r9 => (simp only [List.getElem?_toArray, List.getElem?_cons_zero, List.getElem?_cons_succ]; rfl)
    case hQ11r9 => exact fun _ _ _ h => h
    case hw11r9 => rfl
    case hy11r9 =>
      intro w' hSw
      obtain ⟨r0, r1, r2, r3, r4, r5, r6, r7, r8, r9, r10, r11, r12, r13, r14, r15⟩ := hSw
      go_simp
      try exact rfl
    try simp only [Act.put, List.setIfInBounds_toArray, List.set_cons_zero, List.set_cons_succ]
    refine wpLate_take (i := 12) (oi := ?oi12r9) (v := ?v12r9) [13, 20, 27, 28, 29] ?hi12r9 (by kernel_rfl) (by kernel_rfl) (by kernel_rfl) (by kernel_rfl) (by kernel_rfl) ?hQ12r9 (Or.inl ⟨?hw12r9, ?hy12r9⟩) (⟨KR.out.1.fm.cell 0, KR.out.1.fm.cell 1, KR.out.1.fm.cell 2, KR.out.1.fm.cell 3, KR.out.1.fm.cell 4, KR.out.1.fm.cell 5, KR.out.1.fm.cell 6, KR.out.1.fm.cell 7, KR.out.2.1.cell 1, KR.out.2.1.cell 2, KR.out.2.1.cell 3, KR.out.2.1.cell 4, KR.out.2.2.cell 1, KR.out.2.2.cell 2, KR.out.2.2.cell 3, KR.out.2.2.cell 4⟩) ?rest12r9
    case hi12r9 => (simp only [List.getElem?_toArray, List.getElem?_cons_zero, List.getElem?_cons_succ]; rfl)
    case hQ12r9 => exact fun _ _ _ h => h
    case hw12r9 => rfl
    case hy12r9 =>
      intro w' hSw
      obtain ⟨r0, r1, r2, r3, r4, r5, r6, r7, r8, r9, r10, r11, r12, r13, r14, r15⟩ := hSw
      go_simp
      try exact rfl
    try simp only [Act.put, List.setIfInBounds_toArray, List.set_cons_zero, List.set_cons_succ]
    refine wpLate_take (i := 14) (oi := ?oi14r9) (v := ?v14r9) [15, 20, 27, 28, 29] ?hi14r9 (by kernel_rfl) (by kernel_rfl) (by kernel_rfl) (by kernel_rfl) (by kernel_rfl) ?hQ14r9 (Or.inl ⟨?hw14r9, ?hy14r9⟩) (⟨KR.out.1.fm.cell 0, KR.out.1.fm.cell 1, KR.out.1.fm.cell 2, KR.out.1.fm.cell 3, KR.out.1.fm.cell 4, KR.out.1.fm.cell 5, KR.out.1.fm.cell 6, KR.out.1.fm.cell 7, KR.out.2.1.cell 1, KR.out.2.1.cell 2, KR.out.2.1.cell 3, KR.out.2.1.cell 4, KR.out.2.2.cell 1, KR.out.2.2.cell 2, KR.out.2.2.cell 3, KR.out.2.2.cell 4⟩) ?rest14r9
    case hi14r9 => (simp only [List.getElem?_toArray, List.getElem?_cons_zero, List.getElem?_cons_succ]; rfl)
    case hQ14r9 => exact fun _ _ _ h => h
    case hw14r9 => rfl
    case hy14r9 =>
      intro w' hSw
      obtain ⟨r0, r1, r2, r3, r4, r5, r6, r7, r8, r9, r10, r11, r12, r13, r14, r15⟩ := hSw
      go_simp
      try exact rfl
    try simp only [Act.put, List.setIfInBounds_toArray, List.set_cons_zero, List.set_cons_succ]
    refine wpLate_take (i := 15) (oi := ?oi15r9) (v := ?v15r9) [20, 27, 28, 29] ?hi15r9 (by kernel_rfl) (by kernel_rfl) (by kernel_rfl) (by kernel_rfl) (by kernel_rfl) ?hQ15r9 (Or.inl ⟨?hw15r9, ?hy15r9⟩) (⟨KR.out.1.fm.cell 0, KR.out.1.fm.cell 1, KR.out.1.fm.cell 2, KR.out.1.fm.cell 3, KR.out.1.fm.cell 4, KR.out.1.fm.cell 5, KR.out.1.fm.cell 6, KR.out.1.fm.cell 7, KR.out.2.1.cell 1, KR.out.2.1.cell 2, KR.out.2.1.cell 3, KR.out.2.1.cell 4, KR.out.2.2.cell 1, KR.out.2.2.cell 2, KR.out.2.2.cell 3, KR.out.2.2.cell 4⟩) ?rest15r9
    case hi15r9 => (simp only [List.getElem?_toArray, List.getElem?_cons_zero, List.getElem?_cons_succ]; rfl)
    case hQ15r9 => exact fun _ _ _ h => h
    case hw15r9 => rfl
    case hy15r9 =>
      intro w' hSw
      obtain ⟨r0, r1, r2, r3, r4, r5, r6, r7, r8, r9, r10, r11, r12, r13, r14, r15⟩ := hSw
      go_simp
      try exact rfl
    try simp only [Act.put, List.setIfInBounds_toArray, List.set_cons_zero, List.set_cons_succ]
    refine wpLate_take (i := 16) (oi := ?oi16r9) (v := ?v16r9) [17, 20, 27, 28, 29] ?hi16r9 (by kernel_rfl) (by kernel_rfl) (by kernel_rfl) (by kernel_rfl) (by kernel_rfl) ?hQ16r9 (Or.inl ⟨?hw16r9, ?hy16r9⟩) (⟨KR.out.1.fm.cell 0, KR.out.1.fm.cell 1, KR.out.1.fm.cell 2, KR.out.1.fm.cell 3, KR.out.1.fm.cell 4, KR.out.1.fm.cell 5, KR.out.1.fm.cell 6, KR.out.1.fm.cell 7, KR.out.2.1.cell 1, KR.out.2.1.cell 2, KR.out.2.1.cell 3, KR.out.2.1.cell 4, KR.out.2.2.cell 1, KR.out.2.2.cell 2, KR.out.2.2.cell 3, KR.out.2.2.cell 4⟩) ?rest16r9
    case hi16r9 => (simp only [List.getElem?_toArray, List.getElem?_cons_zero, List.getElem?_cons_succ]; rfl)
    case hQ16r9 => exact fun _ _ _ h => h
    case hw16r9 => rfl
    case hy16r9 =>
      intro w' hSw
      obtain ⟨r0, r1, r2, r3, r4, r5, r6, r7, r8, r9, r10, r11, r12, r13, r14, r15⟩ := hSw
      go_simp
      try exact rfl
    try simp only [Act.put, List.setIfInBounds_toArray, List.set_cons_zero, List.set_cons_succ]
    refine wpLate_take (i := 17) (oi := ?oi17r9) (v := ?v17r9) [20, 27, 28, 29] ?hi17r9 (by kernel_rfl) (by kernel_rfl) (by kernel_rfl) (by kernel_rfl) (by kernel_rfl) ?hQ17r9 (Or.inl ⟨?hw17r9, ?hy17r9⟩) (⟨KR.out.1.fm.cell 0, KR.out.1.fm.cell 1, KR.out.1.fm.cell 2, KR.out.1.fm.cell 3, KR.out.1.fm.cell 4, KR.out.1.fm.cell 5, KR.out.1.fm.cell 6, KR.out.1.fm.cell 7, KR.out.2.1.cell 1, KR.out.2.1.cell 2, KR.out.2.1.cell 3, KR.out.2.1.cell 4, KR.out.2.2.cell 1, KR.out.2.2.cell 2, KR.out.2.2.cell 3, KR.out.2.2.cell 4⟩) ?rest17r9
    case hi17r9 => (simp only [List.getElem?_toArray, List.getElem?_cons_zero, List.getElem?_cons_succ]; rfl)
    case hQ17r9 => exact fun _ _ _ h => h
    case hw17r9 => rfl
    case hy17r9 =>
      intro w' hSw
      obtain ⟨r0, r1, r2, r3, r4, r5, r6, r7, r8, r9, r10, r11, r12, r13, r14, r15⟩ := hSw
      go_simp
      try exact rfl
    try simp only [Act.put, List.setIfInBounds_toArray, List.set_cons_zero, List.set_cons_succ]
    refine wpLate_take (i := 18) (oi := ?oi18r9) (v := ?v18r9) [19, 20, 27, 28, 29] ?hi18r9 (by kernel_rfl) (by kernel_rfl) (by kernel_rfl) (by kernel_rfl) (by kernel_rfl) ?hQ18r9 (Or.inl ⟨?hw18r9, ?hy18r9⟩) (⟨KR.out.1.fm.cell 0, KR.out.1.fm.cell 1, KR.out.1.fm.cell 2, KR.out.1.fm.cell 3, KR.out.1.fm.cell 4, KR.out.1.fm.cell 5, KR.out.1.fm.cell 6, KR.out.1.fm.cell 7, KR.out.2.1.cell 1, KR.out.2.1.cell 2, KR.out.2.1.cell 3, KR.out.2.1.cell 4, KR.out.2.2.cell 1, KR.out.2.2.cell 2, KR.out.2.2.cell 3, KR.out.2.2.cell 4⟩) ?rest18r9
    case hi18r9 => (simp only [List.getElem?_toArray, List.getElem?_cons_zero, List.getElem?_cons_succ]; rfl)
    case hQ18r9 => exact fun _ _ _ h => h
    case hw18r9 => rfl
    case hy18r9 =>
      intro w' hSw
      obtain ⟨r0, r1, r2, r3, r4, r5, r6, r7, r8, r9, r10, r11, r12, r13, r14, r15⟩ := hSw
      go_simp
      try exact rfl
    try simp only [Act.put, List.setIfInBounds_toArray, List.set_cons_zero, List.set_cons_succ]
    refine wpLate_take (i := 19) (oi := ?oi19r9) (v := ?v19r9) [20, 27, 28, 29] ?hi19r9 (by kernel_rfl) (by kernel_rfl) (by kernel_rfl) (by kernel_rfl) (by kernel_rfl) ?hQ19r9 (Or.inl ⟨?hw19r9, ?hy19r9⟩) (⟨KR.out.1.fm.cell 0, KR.out.1.fm.cell 1, KR.out.1.fm.cell 2, KR.out.1.fm.cell 3, KR.out.1.fm.cell 4, KR.out.1.fm.cell 5, KR.out.1.fm.cell 6, KR.out.1.fm.cell 7, KR.out.2.1.cell 1, KR.out.2.1.cell 2, KR.out.2.1.cell 3, KR.out.2.1.cell 4, KR.out.2.2.cell 1, KR.out.2.2.cell 2, KR.out.2.2.cell 3, KR.out.2.2.cell 4⟩) ?rest19r9
    case hi19r9 => (simp only [List.getElem?_toArray, List.getElem?_cons_zero, List.getElem?_cons_succ]; rfl)
    case hQ19r9 => exact fun _ _ _ h => h
    case hw19r9 => rfl
    case hy19r9 =>
      intro w' hSw
      obtain ⟨r0, r1, r2, r3, r4, r5, r6, r7, r8, r9, r10, r11, r12, r13, r14, r15⟩ := hSw
      go_simp
      try exact rfl
    try simp only [Act.put, List.setIfInBounds_toArray, List.set_cons_zero, List.set_cons_succ]
    refine wpLate_take (i := 21) (oi := ?oi21r9) (v := ?v21r9) [22, 27, 28, 29] ?hi21r9 (by kernel_rfl) (by kernel_rfl) (by kernel_rfl) (by kernel_rfl) (by kernel_rfl) ?hQ21r9 (Or.inl ⟨?hw21r9, ?hy21r9⟩) (⟨KR.out.1.fm.cell 0, KR.out.1.fm.cell 1, KR.out.1.fm.cell 2, KR.out.1.fm.cell 3, KR.out.1.fm.cell 4, KR.out.1.fm.cell 5, KR.out.1.fm.cell 6, KR.out.1.fm.cell 7, KR.out.2.1.cell 1, KR.out.2.1.cell 2, KR.out.2.1.cell 3, KR.out.2.1.cell 4, KR.out.2.2.cell 1, KR.out.2.2.cell 2, KR.out.2.2.cell 3, KR.out.2.2.cell 4⟩) ?rest21r9
    case hi21r9 => (simp only [List.getElem?_toArray, List.getElem?_cons_zero, List.getElem?_cons_succ]; rfl)
    case hQ21r9 => exact fun _ _ _ h => h
    case hw21r9 => rfl
    case hy21r9 =>
      intro w' hSw
      obtain ⟨r0, r1, r2, r3, r4, r5, r6, r7, r8, r9, r10, r11, r12, r13, r14, r15⟩ := hSw
      go_simp
      try exact rfl
    try simp only [Act.put, List.setIfInBounds_toArray, List.set_cons_zero, List.set_cons_succ]
    refine wpLate_take (i := 22) (oi := ?oi22r9) (v := ?v22r9) [27, 28, 29] ?hi22r9 (by kernel_rfl) (by kernel_rfl) (by kernel_rfl) (by kernel_rfl) (by kernel_rfl) ?hQ22r9 (Or.inl ⟨?hw22r9, ?hy22r9⟩) (⟨KR.out.1.fm.cell 0, KR.out.1.fm.cell 1, KR.out.1.fm.cell 2, KR.out.1.fm.cell 3, KR.out.1.fm.cell 4, KR.out.1.fm.cell 5, KR.out.1.fm.cell 6, KR.out.1.fm.cell 7, KR.out.2.1.cell 1, KR.out.2.1.cell 2, KR.out.2.1.cell 3, KR.out.2.1.cell 4, KR.out.2.2.cell 1, KR.out.2.2.cell 2, KR.out.2.2.cell 3, KR.out.2.2.cell 4⟩) ?rest22r9
    case hi22r9 => (simp only [List.getElem?_toArray, List.getElem?_cons_zero, List.getElem?_cons_succ]; rfl)
    case hQ22r9 => exact fun _ _ _ h => h
    case hw22r9 => rfl
    case hy22r9 =>
      intro w' hSw
      obtain ⟨r0, r1, r2, r3, r4, r5, r6, r7, r8, r9, r10, r11, r12, r13, r14, r15⟩ := hSw
      go_simp
      try exact rfl
    try simp only [Act.put, List.setIfInBounds_toArray, List.set_cons_zero, List.set_cons_succ]
    refine wpLate_take (i := 23) (oi := ?oi23r9) (v := ?v23r9) [24, 27, 28, 29] ?hi23r9 (by kernel_rfl) (by kernel_rfl) (by kernel_rfl) (by kernel_rfl) (by kernel_rfl) ?hQ23r9 (Or.inl ⟨?hw23r9, ?hy23r9⟩) (⟨KR.out.1.fm.cell 0, KR.out.1.fm.cell 1, KR.out.1.fm.cell 2, KR.out.1.fm.cell 3, KR.out.1.fm.cell 4, KR.out.1.fm.cell 5, KR.out.1.fm.cell 6, KR.out.1.fm.cell 7, KR.out.2.1.cell 1, KR.out.2.1.cell 2, KR.out.2.1.cell 3, KR.out.2.1.cell 4, KR.out.2.2.cell 1, KR.out.2.2.cell 2, KR.out.2.2.cell 3, KR.out.2.2.cell 4⟩) ?rest23r9
    case hi23r9 => (simp only [List.getElem?_toArray, List.getElem?_cons_zero, List.getElem?_cons_succ]; rfl)
    case hQ23r9 => exact fun _ _ _ h => h
    case hw23r9 => rfl
    case hy23r9 =>
      intro w' hSw
      obtain ⟨r0, r1, r2, r3, r4, r5, r6, r7, r8, r9, r10, r11, r12, r13, r14, r15⟩ := hSw
      go_simp
      try exact rfl
    try simp only [Act.put, List.setIfInBounds_toArray, List.set_cons_zero, List.set_cons_succ]
    refine wpLate_take (i := 24) (oi := ?oi24r9) (v := ?v24r9) [27, 28, 29] ?hi24r9 (by kernel_rfl) (by kernel_rfl) (by kernel_rfl) (by kernel_rfl) (by kernel_rfl) ?hQ24r9 (Or.inl ⟨?hw24r9, ?hy24r9⟩) (⟨KR.out.1.fm.cell 0, KR.out.1.fm.cell 1, KR.out.1.fm.cell 2, KR.out.1.fm.cell 3, KR.out.1.fm.cell 4, KR.out.1.fm.cell 5, KR.out.1.fm.cell 6, KR.out.1.fm.cell 7, KR.out.2.1.cell 1, KR.out.2.1.cell 2, KR.out.2.1.cell 3, KR.out.2.1.cell 4, KR.out.2.2.cell 1, KR.out.2.2.cell 2, KR.out.2.2.cell 3, KR.out.2.2.cell 4⟩) ?rest24r9
    case hi24r9 => (simp only [List.getElem?_toArray, List.getElem?_cons_zero, List.getElem?_cons_succ]; rfl)
    case hQ24r9 => exact fun _ _ _ h => h
    case hw24r9 => rfl
    case hy24r9 =>
      intro w' hSw
      obtain ⟨r0, r1, r2, r3, r4, r5, r6, r7, r8, r9, r10, r11, r12, r13, r14, r15⟩ := hSw
      go_simp
      try exact rfl
    try simp only [Act.put, List.setIfInBounds_toArray, List.set_cons_zero, List.set_cons_succ]
    refine wpLate_take (i := 25) (oi := ?oi25r9) (v := ?v25r9) [26, 27, 28, 29] ?hi25r9 (by kernel_rfl) (by kernel_rfl) (by kernel_rfl) (by kernel_rfl) (by kernel_rfl) ?hQ25r9 (Or.inl ⟨?hw25r9, ?hy25r9⟩) (⟨KR.out.1.fm.cell 0, KR.out.1.fm.cell 1, KR.out.1.fm.cell 2, KR.out.1.fm.cell 3, KR.out.1.fm.cell 4, KR.out.1.fm.cell 5, KR.out.1.fm.cell 6, KR.out.1.fm.cell 7, KR.out.2.1.cell 1, KR.out.2.1.cell 2, KR.out.2.1.cell 3, KR.out.2.1.cell 4, KR.out.2.2.cell 1, KR.out.2.2.cell 2, KR.out.2.2.cell 3, KR.out.2.2.cell 4⟩) ?rest25r9
    case hi25r9 => (simp only [List.getElem?_toArray, List.getElem?_cons_zero, List.getElem?_cons_succ]; rfl)
    case hQ25r9 => exact fun _ _ _ h => h
    case hw25r9 => rfl
    case hy25r9 =>
      intro w' hSw
      obtain ⟨r0, r1, r2, r3, r4, r5, r6, r7, r8, r9, r10, r11, r12, r13, r14, r15⟩ := hSw
      go_simp
      try exact rfl
    try simp only [Act.put, List.setIfInBounds_toArray, List.set_cons_zero, List.set_cons_succ]
    refine wpLate_take (i := 26) (oi := ?oi26r9) (v := ?v26r9) [27, 28, 29] ?hi26r9 (by kernel_rfl) (by kernel_rfl) (by kernel_rfl) (by kernel_rfl) (by kernel_rfl) ?hQ26r9 (Or.inl ⟨?hw26r9, ?hy26r9⟩) (⟨KR.out.1.fm.cell 0, KR.out.1.fm.cell 1, KR.out.1.fm.cell 2, KR.out.1.fm.cell 3, KR.out.1.fm.cell 4, KR.out.1.fm.cell 5, KR.out.1.fm.cell 6, KR.out.1.fm.cell 7, KR.out.2.1.cell 1, KR.out.2.1.cell 2, KR.out.2.1.cell 3, KR.out.2.1.cell 4, KR.out.2.2.cell 1, KR.out.2.2.cell 2, KR.out.2.2.cell 3, KR.out.2.2.cell 4⟩) ?rest26r9
    case hi26r9 => (simp only [List.getElem?_toArray, List.getElem?_cons_zero, List.getElem?_cons_succ]; rfl)
    case hQ26r9 => exact fun _ _ _ h => h
    case hw26r9 => rfl
    case hy26r9 =>
      intro w' hSw
      obtain ⟨r0, r1, r2, r3, r4, r5, r6, r7, r8, r9, r10, r11, r12, r13, r14, r15⟩ := hSw
      go_simp
      try exact rfl
    try simp only [Act.put, List.setIfInBounds_toArray, List.set_cons_zero, List.set_cons_succ]
    refine wpLate_one (i := 6) (o := ?o6r9) (by kernel_rfl) ?ho6r9 ?hk6r9
    case ho6r9 => (simp only [List.getElem?_toArray, List.getElem?_cons_zero, List.getElem?_cons_succ]; rfl)
    intro K hK
    go_simp
    refine (HP0.out _).mono ?_
    rintro r wp0 ⟨rfl, hbs⟩
    replace KR := Lib.hid (rd_step KR.out hbs)
    clear hbs
    go_simp
    refine hK.out _ _ (fun h => ⟨KR.out.1.fm.cell 0, KR.out.1.fm.cell 1, KR.out.1.fm.cell 2, KR.out.1.fm.cell 3, KR.out.1.fm.cell 4, KR.out.1.fm.cell 5, KR.out.1.fm.cell 6, KR.out.1.fm.cell 7, KR.out.2.1.cell 1, KR.out.2.1.cell 2, KR.out.2.1.cell 3, KR.out.2.1.cell 4, KR.out.2.2.cell 1, KR.out.2.2.cell 2, KR.out.2.2.cell 3, KR.out.2.2.cell 4⟩) ?_
    clear hK K
    try simp only [Act.put, List.setIfInBounds_toArray, List.set_cons_zero, List.set_cons_succ]
    refine wpLate_one (i := 13) (o := ?o13r9) (by kernel_rfl) ?ho13r9 ?hk13r9
    case ho13r9 => (simp only [List.getElem?_toArray, List.getElem?_cons_zero, List.getElem?_cons_succ]; rfl)
    intro K hK
    go_simp
    refine (HP1.out _).mono ?_
    rintro r wp1 ⟨rfl, hbs⟩
    replace KR := Lib.hid (rd_step KR.out hbs)
    clear hbs
    go_simp
    refine hK.out _ _ (fun h => ⟨KR.out.1.fm.cell 0, KR.out.1.fm.cell 1, KR.out.1.fm.cell 2, KR.out.1.fm.cell 3, KR.out.1.fm.cell 4, KR.out.1.fm.cell 5, KR.out.1.fm.cell 6, KR.out.1.fm.cell 7, KR.out.2.1.cell 1, KR.out.2.1.cell 2, KR.out.2.1.cell 3, KR.out.2.1.cell 4, KR.out.2.2.cell 1, KR.out.2.2.cell 2, KR.out.2.2.cell 3, KR.out.2.2.cell 4⟩) ?_
    clear hK K
    try simp only [Act.put, List.setIfInBounds_toArray, List.set_cons_zero, List.set_cons_succ]
    refine wpLate_one (i := 20) (o := ?o20r9) (by kernel_rfl) ?ho20r9 ?hk20r9
    case ho20r9 => (simp only [List.getElem?_toArray, List.getElem?_cons_zero, List.getElem?_cons_succ]; rfl)
    intro K hK
    go_simp
    refine (HP2.out _).mono ?_
    rintro r wp2 ⟨rfl, hbs⟩
    replace KR := Lib.hid (rd_step KR.out hbs)
    clear hbs
    go_simp
    refine hK.out _ _ (fun h => ⟨KR.out.1.fm.cell 0, KR.out.1.fm.cell 1, KR.out.1.fm.cell 2, KR.out.1.fm.cell 3, KR.out.1.fm.cell 4, KR.out.1.fm.cell 5, KR.out.1.fm.cell 6, KR.out.1.fm.cell 7, KR.out.2.1.cell 1, KR.out.2.1.cell 2, KR.out.2.1.cell 3, KR.out.2.1.cell 4, KR.out.2.2.cell 1, KR.out.2.2.cell 2, KR.out.2.2.cell 3, KR.out.2.2.cell 4⟩) ?_
    clear hK K
    try simp only [Act.put, List.setIfInBounds_toArray, List.set_cons_zero, List.set_cons_succ]
    refine wpLate_one (i := 27) (o := ?o27r9) (by kernel_rfl) ?ho27r9 ?hk27r9
    case ho27r9 => (simp only [List.getElem?_toArray, List.getElem?_cons_zero, List.getElem?_cons_succ]; rfl)
    intro K hK
    go_simp
    refine (HP3.out _).mono ?_
    rintro r wp3 ⟨rfl, hbs⟩
    replace KR := Lib.hid (rd_step KR.out hbs)
    clear hbs
    go_simp
    refine hK.out _ _ (fun h => ⟨KR.out.1.fm.cell 0, KR.out.1.fm.cell 1, KR.out.1.fm.cell 2, KR.out.1.fm.cell 3, KR.out.1.fm.cell 4, KR.out.1.fm.cell 5, KR.out.1.fm.cell 6, KR.out.1.fm.cell 7, KR.out.2.1.cell 1, KR.out.2.1.cell 2, KR.out.2.1.cell 3, KR.out.2.1.cell 4, KR.out.2.2.cell 1, KR.out.2.2.cell 2, KR.out.2.2.cell 3, KR.out.2.2.cell 4⟩) ?_
    clear hK K
    try simp only [Act.put, List.setIfInBounds_toArray, List.set_cons_zero, List.set_cons_succ]
    refine wpLate_take (i := 28) (oi := ?oi28r9) (v := ?v28r9) [29] ?hi28r9 (by kernel_rfl) (by kernel_rfl) (by kernel_rfl) (by kernel_rfl) (by kernel_rfl) ?hQ28r9 (Or.inl ⟨?hw28r9, ?hy28r9⟩) (⟨KR.out.1.fm.cell 0, KR.out.1.fm.cell 1, KR.out.1.fm.cell 2, KR.out.1.fm.cell 3, KR.out.1.fm.cell 4, KR.out.1.fm.cell 5, KR.out.1.fm.cell 6, KR.out.1.fm.cell 7, KR.out.2.1.cell 1, KR.out.2.1.cell 2, KR.out.2.1.cell 3, KR.out.2.1.cell 4, KR.out.2.2.cell 1, KR.out.2.2.cell 2, KR.out.2.2.cell 3, KR.out.2.2.cell 4⟩) ?rest28r9
    case hi28r9 => (simp only [List.getElem?_toArray, List.getElem?_cons_zero, List.getElem?_cons_succ]; rfl)
    case hQ28r9 => exact fun _ _ _ h => h
    case hw28r9 => rfl
    case hy28r9 =>
      intro w' hSw
      obtain ⟨r0, r1, r2, r3, r4, r5, r6, r7, r8, r9, r10, r11, r12, r13, r14, r15⟩ := hSw
      go_simp
      try exact rfl
    try simp only [Act.put, List.setIfInBounds_toArray, List.set_cons_zero, List.set_cons_succ]
    refine wpLate_one (i := 29) (o := ?or9z) (by kernel_rfl) ?hor9z ?hkr9z
    case hor9z => (simp only [List.getElem?_toArray, List.getElem?_cons_zero, List.getElem?_cons_succ]; rfl)
    have m0 : wp3.cell? ⟨W.heap.size + 1 + 1 + 1 + 1, 0, none⟩ = some (.int .i64 c.came) := KR.out.1.fm.cell 0
    have m1 : wp3.cell? ⟨W.heap.size + 1 + 1 + 1 + 1, 1, none⟩ = some (.int .i64 d.came) := KR.out.1.fm.cell 1
    have m2 : wp3.cell? ⟨W.heap.size + 1 + 1 + 1 + 1, 2, none⟩ = some (.int .i64 c.out) := KR.out.1.fm.cell 2
    have m3 : wp3.cell? ⟨W.heap.size + 1 + 1 + 1 + 1, 3, none⟩ = some (.int .i64 d.out) := KR.out.1.fm.cell 3
    have m4 : wp3.cell? ⟨W.heap.size + 1 + 1 + 1 + 1, 4, none⟩ = some (.int .i64 c.dried) := KR.out.1.fm.cell 4
    have m5 : wp3.cell? ⟨W.heap.size + 1 + 1 + 1 + 1, 5, none⟩ = some (.int .i64 d.dried) := KR.out.1.fm.cell 5
    have m6 : wp3.cell? ⟨W.heap.size + 1 + 1 + 1 + 1, 6, none⟩ = some (.int .i64 c.dew) := KR.out.1.fm.cell 6
    have m7 : wp3.cell? ⟨W.heap.size + 1 + 1 + 1 + 1, 7, none⟩ = some (.int .i64 d.dew) := KR.out.1.fm.cell 7
    have mf := KR.out.1.fm.frozen
    have ml := KR.out.1.fm.lt
    intro K hK
    go_simp
    have KM := Lib.hid (KR.out.1.setM ⟨X.w, c.came + X.came, c.out + X.out, c.dried + X.dried, c.dew + X.dew⟩ ⟨Y.w, d.came + Y.came, d.out + Y.out, d.dried + Y.dried, d.dew + Y.dew⟩)
    refine hK.out _ _ (fun h => absurd h (by decide)) ?_
    clear hK K m0 m1 m2 m3 m4 m5 m6 m7 mf ml
    refine (show wpLate _ _ _ _ _ _ _ _ _ (set8 wp3 (W.heap.size + 4) ⟨X.w, c.came + X.came, c.out + X.out, c.dried + X.dried, c.dew + X.dew⟩ ⟨Y.w, d.came + Y.came, d.out + Y.out, d.dried + Y.dried, d.dew + Y.dew⟩) from ?_)
    generalize set8 wp3 (W.heap.size + 4) ⟨X.w, c.came + X.came, c.out + X.out, c.dried + X.dried, c.dew + X.dew⟩ ⟨Y.w, d.came + Y.came, d.out + Y.out, d.dried + Y.dried, d.dew + Y.dew⟩ = wm at KM ⊢
    try simp only [Act.put, List.setIfInBounds_toArray, List.set_cons_zero, List.set_cons_succ]
    refine wpLate_done (by kernel_rfl) ?_ _
    try simp only [Act.put, List.setIfInBounds_toArray, List.set_cons_zero, List.set_cons_succ]
    go_wp2_with fail
    go_roundg (L.length - (k + 1))
    case measure => omega
    case rel => exact ⟨k + 1, by omega, Nat.le_refl _, by go_num, by rw [HN.out.1, HN.out.2]; exact KM⟩
end Go.Proofs.Ytdmpkeaanaoeaaa
