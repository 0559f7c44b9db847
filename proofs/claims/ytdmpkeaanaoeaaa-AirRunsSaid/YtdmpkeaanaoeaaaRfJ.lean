/- The document's Rust. -/
import Derived.Test.YtdmpkeaanaoeaaaRfF
import Derived.Test.YtdmpkeaanaoeaaaAirY
namespace Go.Proofs.Ytdmpkeaanaoeaaa
open Go.RowKit
/-- air, water, the result, and in block D what is counted -/
structure UD (W w : World) (D : Nat) (a : Air) (A B : Option Addr) (ca cb : Nat) (lo hi p q : Int) : Prop where
  v : VB W w a A B ca cb lo hi
  f8 : Has w (W.heap.size + 2) 24 #[.int .i64 0, .int .i64 0]
  fo : Has w D 24 #[.int .i64 p, .int .i64 q]
  lt : W.heap.size + 2 < D
section
variable {W w w' : World} {D : Nat} {a : Air} {A B : Option Addr} {ca cb : Nat} {lo hi p q : Int}
theorem UD.step (h : UD W w D a A B ca cb lo hi p q) (hb : Below w.heap.size w w') : UD W w' D a A B ca cb lo hi p q :=
  ⟨h.v.step hb, h.f8.below hb h.f8.lt, h.fo.below hb h.fo.lt, h.lt⟩
theorem UD.setW (h : UD W w D a A B ca cb lo hi p q) (x y : Int) : UD W ((w.setCell ⟨W.heap.size + 1, 0, none⟩ (.int .i64 x)).setCell ⟨W.heap.size + 1, 1, none⟩ (.int .i64 y)) D a A B ca cb x y p q :=
  ⟨h.v.setW x y, (h.f8.far (by simp) _).far (by simp) _, (h.fo.far (by have := h.lt; simp only; omega) _).far (by have := h.lt; simp only; omega) _, h.lt⟩
theorem UD.set0 (h : UD W w D a A B ca cb lo hi p q) (x : Int) : UD W (w.setCell ⟨D, 0, none⟩ (.int .i64 x)) D a A B ca cb lo hi x q :=
  ⟨⟨⟨h.v.b.b.setCell (by have := h.lt; simp only; omega) _, h.v.b.fa.far (by have := h.lt; simp only; omega) _⟩, h.v.fw.far (by have := h.lt; simp only; omega) _⟩, h.f8.far (by have := h.lt; simp only; omega) _, h.fo.set 0 _, h.lt⟩
theorem UD.set1 (h : UD W w D a A B ca cb lo hi p q) (x : Int) : UD W (w.setCell ⟨D, 1, none⟩ (.int .i64 x)) D a A B ca cb lo hi p x :=
  ⟨⟨⟨h.v.b.b.setCell (by have := h.lt; simp only; omega) _, h.v.b.fa.far (by have := h.lt; simp only; omega) _⟩, h.v.fw.far (by have := h.lt; simp only; omega) _⟩, h.f8.far (by have := h.lt; simp only; omega) _, h.fo.set 1 _, h.lt⟩
theorem UD.drew (h : UD W w D a A B ca cb lo hi p q) : UD W w.drew D a A B ca cb lo hi p q := ⟨⟨⟨below_dr' h.v.b.b, h.v.b.fa.drew⟩, h.v.fw.drew⟩, h.f8.drew, h.fo.drew, h.lt⟩
/-- ahead of the count -/
structure UC (W w : World) (a : Air) (A B : Option Addr) (ca cb : Nat) (lo hi : Int) : Prop where
  v : VB W w a A B ca cb lo hi
  f8 : Has w (W.heap.size + 2) 24 #[.int .i64 0, .int .i64 0]
theorem UC.step (h : UC W w a A B ca cb lo hi) (hb : Below w.heap.size w w') : UC W w' a A B ca cb lo hi := ⟨h.v.step hb, h.f8.below hb h.f8.lt⟩
theorem UC.count (h : UC W w a A B ca cb lo hi) : UD W (w.alloc (.cells #[.int .i64 0, .int .i64 0] 24)) w.heap.size a A B ca cb lo hi 0 0 :=
  ⟨h.v.step (below_one w _), h.f8.alloc _, Has.new _ _ _, h.f8.lt⟩
theorem res2 (hb : Below W.heap.size W w) (h : Has w (W.heap.size + 2) 24 #[.int .i64 0, .int .i64 0]) (x y : Int) : Below W.heap.size W ((w.setCell ⟨W.heap.size + 2, 0, none⟩ (.int .i64 x)).setCell ⟨W.heap.size + 2, 1, none⟩ (.int .i64 y)) ∧ Has ((w.setCell ⟨W.heap.size + 2, 0, none⟩ (.int .i64 x)).setCell ⟨W.heap.size + 2, 1, none⟩ (.int .i64 y)) (W.heap.size + 2) 24 #[.int .i64 x, .int .i64 y] :=
  ⟨(hb.setCell (by simp only; omega) _).setCell (by simp only; omega) _, (h.set 0 _).set 1 _⟩
end
theorem box_uc (W : World) (a : Air) (A B : Option Addr) (ca cb : Nat) (lo hi : Int) : UC W (((W.alloc (.cells (airc a A B ca cb) 26)).alloc (.cells #[.int .i64 lo, .int .i64 hi] 24)).alloc (.cells #[.int .i64 0, .int .i64 0] 24)) a A B ca cb lo hi :=
  ⟨⟨⟨((below_one W _).alloc (by simp) _).alloc (by simp; omega) _, ((box_air W a A B ca cb).alloc _).alloc _⟩, (has_newAt (by simp)).alloc _⟩, has_newAt (by simp)⟩
set_option maxRecDepth 100000 in
set_option maxHeartbeats 8000000 in
theorem dRust_any (a : Air) (A B : Option Addr) (ca cb : Nat) (lo hi lim : Int) (L : List Stp) (AL : Option Addr) (cl : Nat) (W : World) (har : AR W W.heap.size a A B) (hr : SRow W W.heap.size AL L) (hL : L.length ≤ 9223372036854775807) :
    Calls Try.prog 18 #[airv a A B ca cb, .agg #[.int .i64 lo, .int .i64 hi], .slice AL L.length cl, .int .i64 lim] W (SEPost (rustR a lo hi lim L) W) := by
  have HB := Lib.hid (box_uc W a A B ca cb lo hi)
  have HA := Lib.hid (And.intro har hr)
  have H1 := Lib.hid (fun w h1 h2 => Valid_any a A B ca cb lo hi L AL cl w h1 h2 hL)
  have HIN := Lib.hid (fun w => rin_any lim 0 1000 w)
  have HR5 := Lib.hid (fun t w h hv ho => rholds_any a A B ca cb t w h hv ho)
  have C0 := Lib.hid (fun s w hv hs hw w1 h => least_any a A B ca cb s w w1 h hv hs hw)
  have C1 := Lib.hid (fun s w hv hs hw w1 h => greatest_any a A B ca cb s w w1 h hv hs hw)
  obtain ⟨R, hR⟩ : ∃ R, R = rustR a lo hi lim L := ⟨_, rfl⟩
  rw [← hR]
  have HRE := Lib.hid hR
  clear hR
  unfold airv at *
  clear har hr
  go_enter Try.func18, Try.ntmps18
  go_upto_region 1 with fail
  generalize (((W.alloc (.cells (airc a A B ca cb) 26)).alloc (.cells #[.int .i64 lo, .int .i64 hi] 24)).alloc (.cells #[.int .i64 0, .int .i64 0] 24)) = w0 at HB ⊢
  have hcall := H1.out w0 (HA.out.1.step HB.out.v.b.b) ((HA.out.2.below HB.out.v.b.b).more HB.out.v.b.b.size)
  have a0 : w0.cell? ⟨W.heap.size, 0, none⟩ = some (.int .i64 a.R) := HB.out.v.b.fa.cell 0
  have a1 : w0.cell? ⟨W.heap.size, 1, none⟩ = some (.slice A a.T.length ca) := HB.out.v.b.fa.cell 1
  have a2 : w0.cell? ⟨W.heap.size, 2, none⟩ = some (.slice B a.H.length cb) := HB.out.v.b.fa.cell 2
  have a3 : w0.cell? ⟨W.heap.size, 3, none⟩ = some (.int .i64 a.b0) := HB.out.v.b.fa.cell 3
  have a4 : w0.cell? ⟨W.heap.size, 4, none⟩ = some (.int .i64 a.b1) := HB.out.v.b.fa.cell 4
  have l0 : w0.cell? ⟨W.heap.size + 1, 0, none⟩ = some (.int .i64 lo) := HB.out.v.fw.cell 0
  have l1 : w0.cell? ⟨W.heap.size + 1, 1, none⟩ = some (.int .i64 hi) := HB.out.v.fw.cell 1
  cases hg : insB a lo hi L <;> rw [hg] at hcall
  · have HX := Lib.hid (show R = (0, 0, 1) by rw [HRE.out]; unfold rustR; rw [if_neg (by rw [hg]; simp)])
    clear HRE hg
    go_wp2_with fail
    refine hcall.mono ?_
    rintro e w1 ⟨rfl, hb1⟩
    have X1 := Lib.hid (HB.out.step hb1)
    clear a0 a1 a2 a3 a4 l0 l1 hb1 hcall
    have z0 : w1.cell? ⟨W.heap.size + 1 + 1, 0, none⟩ = some (.int .i64 0) := X1.out.f8.cell 0
    have z1 : w1.cell? ⟨W.heap.size + 1 + 1, 1, none⟩ = some (.int .i64 0) := X1.out.f8.cell 1
    have zf := X1.out.f8.frozen
    have zl := X1.out.f8.lt
    go_wp2_with fail
    have KF := Lib.hid (res2 X1.out.v.b.b X1.out.f8 0 0)
    clear z0 z1 zf zl
    generalize (w1.setCell ⟨W.heap.size + 1 + 1, 0, none⟩ (.int .i64 0)).setCell ⟨W.heap.size + 1 + 1, 1, none⟩ (.int .i64 0) = wf at KF ⊢
    have q0 : wf.cell? ⟨W.heap.size + 1 + 1, 0, none⟩ = some (.int .i64 0) := KF.out.2.cell 0
    have q1 : wf.cell? ⟨W.heap.size + 1 + 1, 1, none⟩ = some (.int .i64 0) := KF.out.2.cell 1
    refine bodyPost_ret (v := .tuple #[.agg #[.int .i64 0, .int .i64 0], .int .i64 1]) (by simp [results, Try.results18, go_sem, q0, q1]) rfl ?_
    exact ⟨by rw [HX.out], KF.out.1⟩
  have HG := Lib.hid ((insB_iff a lo hi L).1 hg)
  have HL := Lib.hid (And.intro (ins_gl hg) (msOf_len a L))
  have HK := Lib.hid hg
  clear hg
  go_wp2_with fail
  refine hcall.mono ?_
  rintro e w1 ⟨rfl, hb1⟩
  have X1 := Lib.hid (HB.out.step hb1)
  clear a0 a1 a2 a3 a4 l0 l1 hb1 hcall
  cases hlim : inB lim 0 1000 <;> rw [hlim] at HIN
  · have HX := Lib.hid (show R = (0, 0, 2) by rw [HRE.out]; unfold rustR; rw [if_pos HK.out, if_neg (by rw [hlim]; simp)])
    clear HRE hlim
    go_wp2_with fail
    refine (HIN.out _).mono ?_
    rintro e w2 ⟨rfl, rfl⟩
    have z0 : w2.cell? ⟨W.heap.size + 1 + 1, 0, none⟩ = some (.int .i64 0) := X1.out.f8.cell 0
    have z1 : w2.cell? ⟨W.heap.size + 1 + 1, 1, none⟩ = some (.int .i64 0) := X1.out.f8.cell 1
    have zf := X1.out.f8.frozen
    have zl := X1.out.f8.lt
    go_wp2_with fail
    have KF := Lib.hid (res2 X1.out.v.b.b X1.out.f8 0 0)
    clear z0 z1 zf zl
    generalize (w2.setCell ⟨W.heap.size + 1 + 1, 0, none⟩ (.int .i64 0)).setCell ⟨W.heap.size + 1 + 1, 1, none⟩ (.int .i64 0) = wf at KF ⊢
    have q0 : wf.cell? ⟨W.heap.size + 1 + 1, 0, none⟩ = some (.int .i64 0) := KF.out.2.cell 0
    have q1 : wf.cell? ⟨W.heap.size + 1 + 1, 1, none⟩ = some (.int .i64 0) := KF.out.2.cell 1
    refine bodyPost_ret (v := .tuple #[.agg #[.int .i64 0, .int .i64 0], .int .i64 2]) (by simp [results, Try.results18, go_sem, q0, q1]) rfl ?_
    exact ⟨by rw [HX.out], KF.out.1⟩
  have HLM := Lib.hid hlim
  have hlb : 0 ≤ lim ∧ lim ≤ 1000 := by unfold inB at hlim; exact of_decide_eq_true hlim
  clear hlim
  go_wp2_with fail
  refine (HIN.out _).mono ?_
  rintro e w2 ⟨rfl, rfl⟩
  go_upto_region 6 with fail
  have X2 := Lib.hid X1.out.count
  generalize hDD : w2.heap.size = D at X2 ⊢
  clear hDD
  generalize w2.alloc (.cells #[.int .i64 0, .int .i64 0] 24) = w3 at X2 ⊢
  go_wp2_with fail
  go_loopg [11] L.length (fun gk i wr => ∃ k : Nat, k ≤ L.length ∧ L.length - k ≤ gk ∧ i = .int .i64 k ∧ Hid (UD W wr D a A B ca cb (crs lo (·.c0) (msOf a L) k).w (crs hi (·.c1) (msOf a L) k).w (rustL lo lim (msOf a L) k) (rustH hi lim (msOf a L) k)))
  case atStart => exact ⟨0, Nat.zero_le _, Nat.le_refl _, rfl, X2⟩
  case round =>
    obtain ⟨k, hk, hgk, rfl, HW⟩ := hrel
    by_cases hlt : k < L.length
    rotate_left
    · have hge : ¬ (k : Int) < L.length := by omega
      have hke : k = L.length := by omega
      have HX := Lib.hid (show R = (rustL lo lim (msOf a L) k, rustH hi lim (msOf a L) k, 0) by rw [HRE.out]; unfold rustR; rw [if_pos HK.out, if_pos HLM.out, hke])
      obtain ⟨x, hx⟩ : ∃ x, x = rustL lo lim (msOf a L) k := ⟨_, rfl⟩
      obtain ⟨y, hy⟩ : ∃ y, y = rustH hi lim (msOf a L) k := ⟨_, rfl⟩
      rw [← hx, ← hy] at HX HW
      clear hx hy hke
      have u0 : wr.cell? ⟨D, 0, none⟩ = some (.int .i64 x) := HW.out.fo.cell 0
      have u1 : wr.cell? ⟨D, 1, none⟩ = some (.int .i64 y) := HW.out.fo.cell 1
      have z0 : wr.cell? ⟨W.heap.size + 1 + 1, 0, none⟩ = some (.int .i64 0) := HW.out.f8.cell 0
      have z1 : wr.cell? ⟨W.heap.size + 1 + 1, 1, none⟩ = some (.int .i64 0) := HW.out.f8.cell 1
      have zf := HW.out.f8.frozen
      have zl := HW.out.f8.lt
      go_wp2_with fail
      have KF := Lib.hid (res2 HW.out.v.b.b HW.out.f8 x y)
      clear z0 z1 zf zl
      generalize (wr.setCell ⟨W.heap.size + 1 + 1, 0, none⟩ (.int .i64 x)).setCell ⟨W.heap.size + 1 + 1, 1, none⟩ (.int .i64 y) = wf at KF ⊢
      have q0 : wf.cell? ⟨W.heap.size + 1 + 1, 0, none⟩ = some (.int .i64 x) := KF.out.2.cell 0
      have q1 : wf.cell? ⟨W.heap.size + 1 + 1, 1, none⟩ = some (.int .i64 y) := KF.out.2.cell 1
      refine bodyPost_ret (v := .tuple #[.agg #[.int .i64 x, .int .i64 y], .int .i64 0]) (by simp [results, Try.results18, go_sem, q0, q1]) rfl ?_
      exact ⟨by rw [HX.out], KF.out.1⟩
    have hlt2 : (k : Int) < L.length := by omega
    obtain ⟨g, o, hg, hgs, hc⟩ := (HA.out.2.below HW.out.v.b.b) k hlt
    have hkm : k < (msOf a L).length := by rw [HL.out.2]; exact hlt
    have hmk : (msOf a L)[k] = moOf a L[k] := by simp [msOf]
    have hbl := crs_good (f := (·.c0)) HL.out.1.lo HL.out.1.g (fun m hm => by have := hm.c; omega) k (by omega)
    have hbh := crs_good (f := (·.c1)) HL.out.1.hi HL.out.1.g (fun m hm => by have := hm.c; omega) k (by omega)
    have hcl := crs_step (w := lo) (f := (·.c0)) hkm
    have hch := crs_step (w := hi) (f := (·.c1)) hkm
    rw [hmk] at hcl hch
    rw [pass_one] at hcl hch
    have hVS := HG.out.2.2.2 _ (List.getElem_mem hlt)
    have c40 := C0.out L[k] _ HG.out.1 hVS hbl.w
    have c41 := C1.out L[k] _ HG.out.1 hVS hbh.w
    change ∀ w1, _ → Calls Try.prog 40 _ w1 (FloPost (passP (one (crs lo (·.c0) (msOf a L) k).w) (moOf a L[k]) (moOf a L[k]).c0) w1) at c40
    change ∀ w1, _ → Calls Try.prog 41 _ w1 (FloPost (passP (one (crs hi (·.c1) (msOf a L) k).w) (moOf a L[k]) (moOf a L[k]).c1) w1) at c41
    have hrl := rustL_step (lo := lo) (lim := lim) hkm
    have hrh := rustH_step (hi := hi) (lim := lim) hkm
    rw [hmk] at hrl hrh
    have hwl := congrArg Co.w hcl
    have hwh := congrArg Co.w hch
    change (crs lo (·.c0) (msOf a L) (k + 1)).w = (passP (one (crs lo (·.c0) (msOf a L) k).w) (moOf a L[k]) (moOf a L[k]).c0).w at hwl
    change (crs hi (·.c1) (msOf a L) (k + 1)).w = (passP (one (crs hi (·.c1) (msOf a L) k).w) (moOf a L[k]) (moOf a L[k]).c1).w at hwh
    rw [hwl] at hrl
    rw [hwh] at hrh
    have hmo := moOf_good HG.out.1 hVS
    have hxb := (pass_good (c := one (crs lo (·.c0) (msOf a L) k).w) (k := 0) ⟨hbl.w, by simp [one], by simp [one], by simp [one], by simp [one]⟩ hmo (show 0 ≤ (moOf a L[k]).c0 ∧ (moOf a L[k]).c0 ≤ 274877906944 by have := hmo.c; omega)).w
    have hyb := (pass_good (c := one (crs hi (·.c1) (msOf a L) k).w) (k := 0) ⟨hbh.w, by simp [one], by simp [one], by simp [one], by simp [one]⟩ hmo (show 0 ≤ (moOf a L[k]).c1 ∧ (moOf a L[k]).c1 ≤ 274877906944 by have := hmo.c; omega)).w
    have HH := Lib.hid (fun w h => HR5.out L[k].cold w h HG.out.1 hVS.c)
    have hho := holds_bd HG.out.1 hVS.c
    change rustL lo lim (msOf a L) (k + 1) = _ + bit (wetB _ lim (holdsP a L[k].cold)) at hrl
    change rustH hi lim (msOf a L) (k + 1) = _ + bit (wetB _ lim (holdsP a L[k].cold)) at hrh
    obtain ⟨ho, hoo⟩ : ∃ x, x = holdsP a L[k].cold := ⟨_, rfl⟩
    rw [← hoo] at hrl hrh HH hho
    have hpb := cntI_bd (wetAt lo (·.c0) lim (msOf a L)) k
    have hqb := cntI_bd (wetAt hi (·.c1) lim (msOf a L)) k
    change 0 ≤ rustL lo lim (msOf a L) k ∧ rustL lo lim (msOf a L) k ≤ k at hpb
    change 0 ≤ rustH hi lim (msOf a L) k ∧ rustH hi lim (msOf a L) k ≤ k at hqb
    obtain ⟨p, hp⟩ : ∃ x, x = rustL lo lim (msOf a L) k := ⟨_, rfl⟩
    obtain ⟨q, hq⟩ : ∃ x, x = rustH hi lim (msOf a L) k := ⟨_, rfl⟩
    rw [← hp] at hrl hpb HW
    rw [← hq] at hrh hqb HW
    have hk200 : k ≤ 200 := by have := HG.out.2.2.1; omega
    obtain ⟨X, hX⟩ : ∃ X, X = passP (one (crs lo (·.c0) (msOf a L) k).w) (moOf a L[k]) (moOf a L[k]).c0 := ⟨_, rfl⟩
    obtain ⟨Y, hY⟩ : ∃ Y, Y = passP (one (crs hi (·.c1) (msOf a L) k).w) (moOf a L[k]) (moOf a L[k]).c1 := ⟨_, rfl⟩
    rw [← hX] at c40 hwl hrl hxb
    rw [← hY] at c41 hwh hrh hyb
    clear hX hY hmo hp hq hoo
    have HN := Lib.hid (And.intro (And.intro hrl hrh) (And.intro hwl hwh))
    obtain ⟨lw, hlw⟩ : ∃ x, x = (crs lo (·.c0) (msOf a L) k).w := ⟨_, rfl⟩
    obtain ⟨hw, hhw⟩ : ∃ x, x = (crs hi (·.c1) (msOf a L) k).w := ⟨_, rfl⟩
    rw [← hlw] at c40 HW
    rw [← hhw] at c41 HW
    obtain ⟨s, hs⟩ : ∃ s, s = L[k] := ⟨_, rfl⟩
    rw [← hs] at hc c40 c41 HH
    clear hs hlw hhw hcl hch hwl hwh hrl hrh hbl hbh hVS hkm hmk
    have C40 := Lib.hid (fun w (hb : Below wr.heap.size wr w) => c40 w (HA.out.1.step (HW.out.step hb).v.b.b))
    have C41 := Lib.hid (fun w (hb : Below wr.heap.size wr w) => c41 w (HA.out.1.step (HW.out.step hb).v.b.b))
    have hgw : g < wr.heap.size := by have := HW.out.v.b.b.size; omega
    have KS : Hid (∀ w', Below wr.heap.size wr w' → w'.cell? ⟨W.heap.size, 0, none⟩ = some (.int .i64 a.R) ∧ w'.cell? ⟨W.heap.size, 1, none⟩ = some (.slice A a.T.length ca) ∧ w'.cell? ⟨W.heap.size, 2, none⟩ = some (.slice B a.H.length cb) ∧ w'.cell? ⟨W.heap.size, 3, none⟩ = some (.int .i64 a.b0) ∧ w'.cell? ⟨W.heap.size, 4, none⟩ = some (.int .i64 a.b1) ∧ w'.cell? ⟨W.heap.size + 1, 0, none⟩ = some (.int .i64 lw) ∧ w'.cell? ⟨W.heap.size + 1, 1, none⟩ = some (.int .i64 hw) ∧ w'.cell? ⟨g, o + k * 8, none⟩ = some (.int .i64 s.cold) ∧ w'.cell? ⟨g, o + k * 8 + 1, none⟩ = some (.int .i64 s.ppl) ∧ w'.cell? ⟨g, o + k * 8 + 2, none⟩ = some (.int .i64 s.chg) ∧ w'.cell? ⟨g, o + k * 8 + 3, none⟩ = some (.int .i64 s.o0) ∧ w'.cell? ⟨g, o + k * 8 + 4, none⟩ = some (.int .i64 s.o1) ∧ w'.cell? ⟨g, o + k * 8 + 5, none⟩ = some (.int .i64 s.s0) ∧ w'.cell? ⟨g, o + k * 8 + 6, none⟩ = some (.int .i64 s.s1) ∧ w'.cell? ⟨g, o + k * 8 + 7, none⟩ = some (.int .i64 s.dry)) := Lib.hid (fun w' hb => ⟨(HW.out.step hb).v.b.fa.cell 0, (HW.out.step hb).v.b.fa.cell 1, (HW.out.step hb).v.b.fa.cell 2, (HW.out.step hb).v.b.fa.cell 3, (HW.out.step hb).v.b.fa.cell 4, (HW.out.step hb).v.fw.cell 0, (HW.out.step hb).v.fw.cell 1, (hb.cell (p := ⟨g, _, none⟩) hgw).trans (hc 0 (by omega)), (hb.cell (p := ⟨g, _, none⟩) hgw).trans (hc 1 (by omega)), (hb.cell (p := ⟨g, _, none⟩) hgw).trans (hc 2 (by omega)), (hb.cell (p := ⟨g, _, none⟩) hgw).trans (hc 3 (by omega)), (hb.cell (p := ⟨g, _, none⟩) hgw).trans (hc 4 (by omega)), (hb.cell (p := ⟨g, _, none⟩) hgw).trans (hc 5 (by omega)), (hb.cell (p := ⟨g, _, none⟩) hgw).trans (hc 6 (by omega)), (hb.cell (p := ⟨g, _, none⟩) hgw).trans (hc 7 (by omega))⟩)
    have HGW := Lib.hid (And.intro hgs hgw)
    have HC0 := Lib.hid (hc 0 (by omega))
    subst hg
    clear hc hgs hgw c40 c41
    go_upto_region 9 with fail
    go_cut [12, 13] (fun u v wx => ∃ D1 D2, u = .pointer (some ⟨D1, 0, none⟩) ∧ v = .pointer (some ⟨D2, 0, none⟩) ∧ Hid (TF wr wx D1 D2 (coc X) (coc Y)))
    case first =>
      have KT := Lib.hid (TW.start wr)
      refine wp_region_late (fun w' : World => w'.cell? ⟨W.heap.size, 0, none⟩ = some (.int .i64 a.R) ∧ w'.cell? ⟨W.heap.size, 1, none⟩ = some (.slice A a.T.length ca) ∧ w'.cell? ⟨W.heap.size, 2, none⟩ = some (.slice B a.H.length cb) ∧ w'.cell? ⟨W.heap.size, 3, none⟩ = some (.int .i64 a.b0) ∧ w'.cell? ⟨W.heap.size, 4, none⟩ = some (.int .i64 a.b1) ∧ w'.cell? ⟨W.heap.size + 1, 0, none⟩ = some (.int .i64 lw) ∧ w'.cell? ⟨W.heap.size + 1, 1, none⟩ = some (.int .i64 hw) ∧ w'.cell? ⟨g, o + k * 8, none⟩ = some (.int .i64 s.cold) ∧ w'.cell? ⟨g, o + k * 8 + 1, none⟩ = some (.int .i64 s.ppl) ∧ w'.cell? ⟨g, o + k * 8 + 2, none⟩ = some (.int .i64 s.chg) ∧ w'.cell? ⟨g, o + k * 8 + 3, none⟩ = some (.int .i64 s.o0) ∧ w'.cell? ⟨g, o + k * 8 + 4, none⟩ = some (.int .i64 s.o1) ∧ w'.cell? ⟨g, o + k * 8 + 5, none⟩ = some (.int .i64 s.s0) ∧ w'.cell? ⟨g, o + k * 8 + 6, none⟩ = some (.int .i64 s.s1) ∧ w'.cell? ⟨g, o + k * 8 + 7, none⟩ = some (.int .i64 s.dry)) [18, 19] (by kernel_rfl) ?_
      generalize wr.drew = wd at KT ⊢
      refine wpLate_take (i := 0) (oi := ?oit0) (v := ?vt0) [7, 15, 18, 19] ?hit0 (by kernel_rfl) (by kernel_rfl) (by kernel_rfl) (by kernel_rfl) (by kernel_rfl) ?hQt0 (Or.inl ⟨?hwt0, ?hyt0⟩) (KS.out _ KT.out.b) ?restt0
      case hit0 => (simp only [List.getElem?_toArray, List.getElem?_cons_zero]; rfl)
      case hQt0 => exact fun _ _ _ h => h
      case hwt0 => rfl
      case hyt0 =>
        intro w' hSw
        obtain ⟨r0, r1, r2, r3, r4, r5, r6, r7, r8, r9, r10, r11, r12, r13, r14⟩ := hSw
        go_simp
        try exact rfl
      try simp only [Act.put, List.setIfInBounds_toArray, List.set_cons_zero, List.set_cons_succ]
      refine wpLate_take (i := 1) (oi := ?oit1) (v := ?vt1) [2, 7, 15, 18, 19] ?hit1 (by kernel_rfl) (by kernel_rfl) (by kernel_rfl) (by kernel_rfl) (by kernel_rfl) ?hQt1 (Or.inl ⟨?hwt1, ?hyt1⟩) (KS.out _ KT.out.b) ?restt1
      case hit1 => (simp only [List.getElem?_toArray, List.getElem?_cons_zero, List.getElem?_cons_succ]; rfl)
      case hQt1 => exact fun _ _ _ h => h
      case hwt1 => rfl
      case hyt1 =>
        intro w' hSw
        obtain ⟨r0, r1, r2, r3, r4, r5, r6, r7, r8, r9, r10, r11, r12, r13, r14⟩ := hSw
        go_simp
        try exact rfl
      try simp only [Act.put, List.setIfInBounds_toArray, List.set_cons_zero, List.set_cons_succ]
      refine wpLate_take (i := 2) (oi := ?oit2) (v := ?vt2) [7, 15, 18, 19] ?hit2 (by kernel_rfl) (by kernel_rfl) (by kernel_rfl) (by kernel_rfl) (by kernel_rfl) ?hQt2 (Or.inl ⟨?hwt2, ?hyt2⟩) (KS.out _ KT.out.b) ?restt2
      case hit2 => (simp only [List.getElem?_toArray, List.getElem?_cons_zero, List.getElem?_cons_succ]; rfl)
      case hQt2 => exact fun _ _ _ h => h
      case hwt2 => rfl
      case hyt2 =>
        intro w' hSw
        obtain ⟨r0, r1, r2, r3, r4, r5, r6, r7, r8, r9, r10, r11, r12, r13, r14⟩ := hSw
        go_simp
        try exact rfl
      try simp only [Act.put, List.setIfInBounds_toArray, List.set_cons_zero, List.set_cons_succ]
      refine wpLate_take (i := 3) (oi := ?oit3) (v := ?vt3) [5, 6, 7, 15, 18, 19] ?hit3 (by kernel_rfl) (by kernel_rfl) (by kernel_rfl) (by kernel_rfl) (by kernel_rfl) ?hQt3 (Or.inl ⟨?hwt3, ?hyt3⟩) (KS.out _ KT.out.b) ?restt3
      case hit3 => (simp only [List.getElem?_toArray, List.getElem?_cons_zero, List.getElem?_cons_succ]; rfl)
      case hQt3 => exact fun _ _ _ h => h
      case hwt3 => rfl
      case hyt3 =>
        intro w' hSw
        obtain ⟨r0, r1, r2, r3, r4, r5, r6, r7, r8, r9, r10, r11, r12, r13, r14⟩ := hSw
        go_simp
        try exact rfl
      try simp only [Act.put, List.setIfInBounds_toArray, List.set_cons_zero, List.set_cons_succ]
      refine wpLate_take (i := 4) (oi := ?oit4) (v := ?vt4) [5, 6, 7, 15, 18, 19] ?hit4 (by kernel_rfl) (by kernel_rfl) (by kernel_rfl) (by kernel_rfl) (by kernel_rfl) ?hQt4 (Or.inl ⟨?hwt4, ?hyt4⟩) (KS.out _ KT.out.b) ?restt4
      case hit4 => (simp only [List.getElem?_toArray, List.getElem?_cons_zero, List.getElem?_cons_succ]; rfl)
      case hQt4 => exact fun _ _ _ h => h
      case hwt4 => rfl
      case hyt4 =>
        intro w' hSw
        obtain ⟨r0, r1, r2, r3, r4, r5, r6, r7, r8, r9, r10, r11, r12, r13, r14⟩ := hSw
        go_simp
        try exact rfl
      try simp only [Act.put, List.setIfInBounds_toArray, List.set_cons_zero, List.set_cons_succ]
      refine wpLate_take (i := 5) (oi := ?oit5) (v := ?vt5) [6, 7, 15, 18, 19] ?hit5 (by kernel_rfl) (by kernel_rfl) (by kernel_rfl) (by kernel_rfl) (by kernel_rfl) ?hQt5 (Or.inl ⟨?hwt5, ?hyt5⟩) (KS.out _ KT.out.b) ?restt5
      case hit5 => (simp only [List.getElem?_toArray, List.getElem?_cons_zero, List.getElem?_cons_succ]; rfl)
      case hQt5 => exact fun _ _ _ h => h
      case hwt5 => rfl
      case hyt5 =>
        intro w' hSw
        obtain ⟨r0, r1, r2, r3, r4, r5, r6, r7, r8, r9, r10, r11, r12, r13, r14⟩ := hSw
        go_simp
        try exact rfl
      try simp only [Act.put, List.setIfInBounds_toArray, List.set_cons_zero, List.set_cons_succ]
      refine wpLate_take (i := 6) (oi := ?oit6) (v := ?vt6) [7, 15, 18, 19] ?hit6 (by kernel_rfl) (by kernel_rfl) (by kernel_rfl) (by kernel_rfl) (by kernel_rfl) ?hQt6 (Or.inl ⟨?hwt6, ?hyt6⟩) (KS.out _ KT.out.b) ?restt6
      case hit6 => (simp only [List.getElem?_toArray, List.getElem?_cons_zero, List.getElem?_cons_succ]; rfl)
      case hQt6 => exact fun _ _ _ h => h
      case hwt6 => rfl
      case hyt6 =>
        intro w' hSw
        obtain ⟨r0, r1, r2, r3, r4, r5, r6, r7, r8, r9, r10, r11, r12, r13, r14⟩ := hSw
        go_simp
        try exact rfl
      try simp only [Act.put, List.setIfInBounds_toArray, List.set_cons_zero, List.set_cons_succ]
      refine wpLate_take (i := 8) (oi := ?oit8) (v := ?vt8) [15, 18, 19] ?hit8 (by kernel_rfl) (by kernel_rfl) (by kernel_rfl) (by kernel_rfl) (by kernel_rfl) ?hQt8 (Or.inl ⟨?hwt8, ?hyt8⟩) (KS.out _ KT.out.b) ?restt8
      case hit8 => (simp only [List.getElem?_toArray, List.getElem?_cons_zero, List.getElem?_cons_succ]; rfl)
      case hQt8 => exact fun _ _ _ h => h
      case hwt8 => rfl
      case hyt8 =>
        intro w' hSw
        obtain ⟨r0, r1, r2, r3, r4, r5, r6, r7, r8, r9, r10, r11, r12, r13, r14⟩ := hSw
        go_simp
        try exact rfl
      try simp only [Act.put, List.setIfInBounds_toArray, List.set_cons_zero, List.set_cons_succ]
      refine wpLate_take (i := 9) (oi := ?oit9) (v := ?vt9) [10, 15, 18, 19] ?hit9 (by kernel_rfl) (by kernel_rfl) (by kernel_rfl) (by kernel_rfl) (by kernel_rfl) ?hQt9 (Or.inl ⟨?hwt9, ?hyt9⟩) (KS.out _ KT.out.b) ?restt9
      case hit9 => (simp only [List.getElem?_toArray, List.getElem?_cons_zero, List.getElem?_cons_succ]; rfl)
      case hQt9 => exact fun _ _ _ h => h
      case hwt9 => rfl
      case hyt9 =>
        intro w' hSw
        obtain ⟨r0, r1, r2, r3, r4, r5, r6, r7, r8, r9, r10, r11, r12, r13, r14⟩ := hSw
        go_simp
        try exact rfl
      try simp only [Act.put, List.setIfInBounds_toArray, List.set_cons_zero, List.set_cons_succ]
      refine wpLate_take (i := 10) (oi := ?oit10) (v := ?vt10) [15, 18, 19] ?hit10 (by kernel_rfl) (by kernel_rfl) (by kernel_rfl) (by kernel_rfl) (by kernel_rfl) ?hQt10 (Or.inl ⟨?hwt10, ?hyt10⟩) (KS.out _ KT.out.b) ?restt10
      case hit10 => (simp only [List.getElem?_toArray, List.getElem?_cons_zero, List.getElem?_cons_succ]; rfl)
      case hQt10 => exact fun _ _ _ h => h
      case hwt10 => rfl
      case hyt10 =>
        intro w' hSw
        obtain ⟨r0, r1, r2, r3, r4, r5, r6, r7, r8, r9, r10, r11, r12, r13, r14⟩ := hSw
        go_simp
        try exact rfl
      try simp only [Act.put, List.setIfInBounds_toArray, List.set_cons_zero, List.set_cons_succ]
      refine wpLate_take (i := 11) (oi := ?oit11) (v := ?vt11) [13, 14, 15, 18, 19] ?hit11 (by kernel_rfl) (by kernel_rfl) (by kernel_rfl) (by kernel_rfl) (by kernel_rfl) ?hQt11 (Or.inl ⟨?hwt11, ?hyt11⟩) (KS.out _ KT.out.b) ?restt11
      case hit11 => (simp only [List.getElem?_toArray, List.getElem?_cons_zero, List.getElem?_cons_succ]; rfl)
      case hQt11 => exact fun _ _ _ h => h
      case hwt11 => rfl
      case hyt11 =>
        intro w' hSw
        obtain ⟨r0, r1, r2, r3, r4, r5, r6, r7, r8, r9, r10, r11, r12, r13, r14⟩ := hSw
        go_simp
        try exact rfl
      try simp only [Act.put, List.setIfInBounds_toArray, List.set_cons_zero, List.set_cons_succ]
      refine wpLate_take (i := 12) (oi := ?oit12) (v := ?vt12) [13, 14, 15, 18, 19] ?hit12 (by kernel_rfl) (by kernel_rfl) (by kernel_rfl) (by kernel_rfl) (by kernel_rfl) ?hQt12 (Or.inl ⟨?hwt12, ?hyt12⟩) (KS.out _ KT.out.b) ?restt12
      case hit12 => (simp only [List.getElem?_toArray, List.getElem?_cons_zero, List.getElem?_cons_succ]; rfl)
      case hQt12 => exact fun _ _ _ h => h
      case hwt12 => rfl
      case hyt12 =>
        intro w' hSw
        obtain ⟨r0, r1, r2, r3, r4, r5, r6, r7, r8, r9, r10, r11, r12, r13, r14⟩ := hSw
        go_simp
        try exact rfl
      try simp only [Act.put, List.setIfInBounds_toArray, List.set_cons_zero, List.set_cons_succ]
      refine wpLate_take (i := 13) (oi := ?oit13) (v := ?vt13) [14, 15, 18, 19] ?hit13 (by kernel_rfl) (by kernel_rfl) (by kernel_rfl) (by kernel_rfl) (by kernel_rfl) ?hQt13 (Or.inl ⟨?hwt13, ?hyt13⟩) (KS.out _ KT.out.b) ?restt13
      case hit13 => (simp only [List.getElem?_toArray, List.getElem?_cons_zero, List.getElem?_cons_succ]; rfl)
      case hQt13 => exact fun _ _ _ h => h
      case hwt13 => rfl
      case hyt13 =>
        intro w' hSw
        obtain ⟨r0, r1, r2, r3, r4, r5, r6, r7, r8, r9, r10, r11, r12, r13, r14⟩ := hSw
        go_simp
        try exact rfl
      try simp only [Act.put, List.setIfInBounds_toArray, List.set_cons_zero, List.set_cons_succ]
      refine wpLate_take (i := 14) (oi := ?oit14) (v := ?vt14) [15, 18, 19] ?hit14 (by kernel_rfl) (by kernel_rfl) (by kernel_rfl) (by kernel_rfl) (by kernel_rfl) ?hQt14 (Or.inl ⟨?hwt14, ?hyt14⟩) (KS.out _ KT.out.b) ?restt14
      case hit14 => (simp only [List.getElem?_toArray, List.getElem?_cons_zero, List.getElem?_cons_succ]; rfl)
      case hQt14 => exact fun _ _ _ h => h
      case hwt14 => rfl
      case hyt14 =>
        intro w' hSw
        obtain ⟨r0, r1, r2, r3, r4, r5, r6, r7, r8, r9, r10, r11, r12, r13, r14⟩ := hSw
        go_simp
        try exact rfl
      try simp only [Act.put, List.setIfInBounds_toArray, List.set_cons_zero, List.set_cons_succ]
      refine wpLate_three (i := 7) (j := 16) (k := 17) (o := ?on1_7) (u := ?on1_16) (v := ?on1_17) (by kernel_rfl) ?hon1_7 ?hon1_16 ?hon1_17 ?hkn1_7 ?hkn1_16 ?hkn1_17
      case hon1_7 => (simp only [List.getElem?_toArray, List.getElem?_cons_zero, List.getElem?_cons_succ]; rfl)
      case hon1_16 => (simp only [List.getElem?_toArray, List.getElem?_cons_zero, List.getElem?_cons_succ]; rfl)
      case hon1_17 => (simp only [List.getElem?_toArray, List.getElem?_cons_zero, List.getElem?_cons_succ]; rfl)
      case hkn1_7 =>
        intro K hK
        go_simp
        refine (C40.out _ KT.out.b).mono ?_
        rintro r w102 ⟨rfl, hbs⟩
        replace KT := Lib.hid (KT.out.call hbs)
        clear hbs
        go_simp
        refine hK.out _ _ (fun _ => KS.out _ KT.out.b) ?_
        clear hK K
        try simp only [Act.put, List.setIfInBounds_toArray, List.set_cons_zero, List.set_cons_succ]
        refine wpLate_three (i := 15) (j := 16) (k := 17) (o := ?on3_15) (u := ?on3_16) (v := ?on3_17) (by kernel_rfl) ?hon3_15 ?hon3_16 ?hon3_17 ?hkn3_15 ?hkn3_16 ?hkn3_17
        case hon3_15 => (simp only [List.getElem?_toArray, List.getElem?_cons_zero, List.getElem?_cons_succ]; rfl)
        case hon3_16 => (simp only [List.getElem?_toArray, List.getElem?_cons_zero, List.getElem?_cons_succ]; rfl)
        case hon3_17 => (simp only [List.getElem?_toArray, List.getElem?_cons_zero, List.getElem?_cons_succ]; rfl)
        case hkn3_15 =>
          intro K hK
          go_simp
          refine (C41.out _ KT.out.b).mono ?_
          rintro r w104 ⟨rfl, hbs⟩
          replace KT := Lib.hid (KT.out.call hbs)
          clear hbs
          go_simp
          refine hK.out _ _ (fun _ => KS.out _ KT.out.b) ?_
          clear hK K
          try simp only [Act.put, List.setIfInBounds_toArray, List.set_cons_zero, List.set_cons_succ]
          refine wpLate_two (i := 16) (j := 17) (o := ?on5_16) (u := ?on5_17) (by kernel_rfl) ?hon5_16 ?hon5_17 ?hkn5_16 ?hkn5_17
          case hon5_16 => (simp only [List.getElem?_toArray, List.getElem?_cons_zero, List.getElem?_cons_succ]; rfl)
          case hon5_17 => (simp only [List.getElem?_toArray, List.getElem?_cons_zero, List.getElem?_cons_succ]; rfl)
          case hkn5_16 =>
            intro K hK
            go_simp
            replace KT := Lib.hid (KT.out.al1)
            refine hK.out _ _ (fun _ => KS.out _ KT.out.b) ?_
            clear hK K
            obtain ⟨Da, hDn⟩ : ∃ D, D = (World.heap w104).size := ⟨_, rfl⟩
            rw [← hDn] at KT ⊢
            clear hDn
            generalize World.alloc w104 (.cells z5 48) = w106 at KT ⊢
            try simp only [Act.put, List.setIfInBounds_toArray, List.set_cons_zero, List.set_cons_succ]
            refine wpLate_one (i := 17) (o := ?on7_17) (by kernel_rfl) ?hon7_17 ?hkn7_17
            case hon7_17 => (simp only [List.getElem?_toArray, List.getElem?_cons_zero, List.getElem?_cons_succ]; rfl)
            intro K hK
            go_simp
            replace KT := Lib.hid (KT.out.al2)
            refine hK.out _ _ (fun _ => KS.out _ KT.out.b) ?_
            clear hK K
            obtain ⟨Db, hDn⟩ : ∃ D, D = (World.heap w106).size := ⟨_, rfl⟩
            rw [← hDn] at KT ⊢
            clear hDn
            generalize World.alloc w106 (.cells z5 48) = w108 at KT ⊢
            try simp only [Act.put, List.setIfInBounds_toArray, List.set_cons_zero, List.set_cons_succ]
            replace KT := Lib.hid KT.out.fin
            have x0 : World.cell? w108 ⟨Da, 0, none⟩ = some (.int .i64 0) := KT.out.d1.2.cell 0
            have x1 : World.cell? w108 ⟨Da, 1, none⟩ = some (.int .i64 0) := KT.out.d1.2.cell 1
            have x2 : World.cell? w108 ⟨Da, 2, none⟩ = some (.int .i64 0) := KT.out.d1.2.cell 2
            have x3 : World.cell? w108 ⟨Da, 3, none⟩ = some (.int .i64 0) := KT.out.d1.2.cell 3
            have x4 : World.cell? w108 ⟨Da, 4, none⟩ = some (.int .i64 0) := KT.out.d1.2.cell 4
            have xf := KT.out.d1.2.frozen
            have xl := KT.out.d1.2.lt
            refine wpLate_one (i := 18) (o := ?of9_18) (by kernel_rfl) ?hof9_18 ?hkf9_18
            case hof9_18 => (simp only [List.getElem?_toArray, List.getElem?_cons_zero, List.getElem?_cons_succ]; rfl)
            intro K hK
            go_simp
            replace KT := Lib.hid (KT.out.put1 X)
            refine hK.out _ _ (fun h => absurd h (by decide)) ?_
            clear hK K x0 x1 x2 x3 x4 xf xl
            refine (show wpLate _ _ _ _ _ _ _ _ _ (put5 w108 Da X) from ?_)
            generalize put5 w108 Da X = w110 at KT ⊢
            try simp only [Act.put, List.setIfInBounds_toArray, List.set_cons_zero, List.set_cons_succ]
            have x0 : World.cell? w110 ⟨Db, 0, none⟩ = some (.int .i64 0) := KT.out.d2.2.cell 0
            have x1 : World.cell? w110 ⟨Db, 1, none⟩ = some (.int .i64 0) := KT.out.d2.2.cell 1
            have x2 : World.cell? w110 ⟨Db, 2, none⟩ = some (.int .i64 0) := KT.out.d2.2.cell 2
            have x3 : World.cell? w110 ⟨Db, 3, none⟩ = some (.int .i64 0) := KT.out.d2.2.cell 3
            have x4 : World.cell? w110 ⟨Db, 4, none⟩ = some (.int .i64 0) := KT.out.d2.2.cell 4
            have xf := KT.out.d2.2.frozen
            have xl := KT.out.d2.2.lt
            refine wpLate_one (i := 19) (o := ?of9_19) (by kernel_rfl) ?hof9_19 ?hkf9_19
            case hof9_19 => (simp only [List.getElem?_toArray, List.getElem?_cons_zero, List.getElem?_cons_succ]; rfl)
            intro K hK
            go_simp
            replace KT := Lib.hid (KT.out.put2 Y)
            refine hK.out _ _ (fun h => absurd h (by decide)) ?_
            clear hK K x0 x1 x2 x3 x4 xf xl
            refine (show wpLate _ _ _ _ _ _ _ _ _ (put5 w110 Db Y) from ?_)
            generalize put5 w110 Db Y = w111 at KT ⊢
            try simp only [Act.put, List.setIfInBounds_toArray, List.set_cons_zero, List.set_cons_succ]
            refine wpLate_done (by kernel_rfl) ?_ _
            try simp only [Act.put, List.setIfInBounds_toArray, List.set_cons_zero, List.set_cons_succ]
            go_wp2_with fail
            go_meet
            exact ⟨_, _, rfl, rfl, KT⟩
          case hkn5_17 =>
            intro K hK
            go_simp
            replace KT := Lib.hid (KT.out.al2)
            refine hK.out _ _ (fun _ => KS.out _ KT.out.b) ?_
            clear hK K
            obtain ⟨Db, hDn⟩ : ∃ D, D = (World.heap w104).size := ⟨_, rfl⟩
            rw [← hDn] at KT ⊢
            clear hDn
            generalize World.alloc w104 (.cells z5 48) = w112 at KT ⊢
            try simp only [Act.put, List.setIfInBounds_toArray, List.set_cons_zero, List.set_cons_succ]
            refine wpLate_one (i := 16) (o := ?on13_16) (by kernel_rfl) ?hon13_16 ?hkn13_16
            case hon13_16 => (simp only [List.getElem?_toArray, List.getElem?_cons_zero, List.getElem?_cons_succ]; rfl)
            intro K hK
            go_simp
            replace KT := Lib.hid (KT.out.al1)
            refine hK.out _ _ (fun _ => KS.out _ KT.out.b) ?_
            clear hK K
            obtain ⟨Da, hDn⟩ : ∃ D, D = (World.heap w112).size := ⟨_, rfl⟩
            rw [← hDn] at KT ⊢
            clear hDn
            generalize World.alloc w112 (.cells z5 48) = w114 at KT ⊢
            try simp only [Act.put, List.setIfInBounds_toArray, List.set_cons_zero, List.set_cons_succ]
            replace KT := Lib.hid KT.out.fin
            have x0 : World.cell? w114 ⟨Da, 0, none⟩ = some (.int .i64 0) := KT.out.d1.2.cell 0
            have x1 : World.cell? w114 ⟨Da, 1, none⟩ = some (.int .i64 0) := KT.out.d1.2.cell 1
            have x2 : World.cell? w114 ⟨Da, 2, none⟩ = some (.int .i64 0) := KT.out.d1.2.cell 2
            have x3 : World.cell? w114 ⟨Da, 3, none⟩ = some (.int .i64 0) := KT.out.d1.2.cell 3
            have x4 : World.cell? w114 ⟨Da, 4, none⟩ = some (.int .i64 0) := KT.out.d1.2.cell 4
            have xf := KT.out.d1.2.frozen
            have xl := KT.out.d1.2.lt
            refine wpLate_one (i := 18) (o := ?of15_18) (by kernel_rfl) ?hof15_18 ?hkf15_18
            case hof15_18 => (simp only [List.getElem?_toArray, List.getElem?_cons_zero, List.getElem?_cons_succ]; rfl)
            intro K hK
            go_simp
            replace KT := Lib.hid (KT.out.put1 X)
            refine hK.out _ _ (fun h => absurd h (by decide)) ?_
            clear hK K x0 x1 x2 x3 x4 xf xl
            refine (show wpLate _ _ _ _ _ _ _ _ _ (put5 w114 Da X) from ?_)
            generalize put5 w114 Da X = w116 at KT ⊢
            try simp only [Act.put, List.setIfInBounds_toArray, List.set_cons_zero, List.set_cons_succ]
            have x0 : World.cell? w116 ⟨Db, 0, none⟩ = some (.int .i64 0) := KT.out.d2.2.cell 0
            have x1 : World.cell? w116 ⟨Db, 1, none⟩ = some (.int .i64 0) := KT.out.d2.2.cell 1
            have x2 : World.cell? w116 ⟨Db, 2, none⟩ = some (.int .i64 0) := KT.out.d2.2.cell 2
            have x3 : World.cell? w116 ⟨Db, 3, none⟩ = some (.int .i64 0) := KT.out.d2.2.cell 3
            have x4 : World.cell? w116 ⟨Db, 4, none⟩ = some (.int .i64 0) := KT.out.d2.2.cell 4
            have xf := KT.out.d2.2.frozen
            have xl := KT.out.d2.2.lt
            refine wpLate_one (i := 19) (o := ?of15_19) (by kernel_rfl) ?hof15_19 ?hkf15_19
            case hof15_19 => (simp only [List.getElem?_toArray, List.getElem?_cons_zero, List.getElem?_cons_succ]; rfl)
            intro K hK
            go_simp
            replace KT := Lib.hid (KT.out.put2 Y)
            refine hK.out _ _ (fun h => absurd h (by decide)) ?_
            clear hK K x0 x1 x2 x3 x4 xf xl
            refine (show wpLate _ _ _ _ _ _ _ _ _ (put5 w116 Db Y) from ?_)
            generalize put5 w116 Db Y = w117 at KT ⊢
            try simp only [Act.put, List.setIfInBounds_toArray, List.set_cons_zero, List.set_cons_succ]
            refine wpLate_done (by kernel_rfl) ?_ _
            try simp only [Act.put, List.setIfInBounds_toArray, List.set_cons_zero, List.set_cons_succ]
            go_wp2_with fail
            go_meet
            exact ⟨_, _, rfl, rfl, KT⟩
        case hkn3_16 =>
          intro K hK
          go_simp
          replace KT := Lib.hid (KT.out.al1)
          refine hK.out _ _ (fun _ => KS.out _ KT.out.b) ?_
          clear hK K
          obtain ⟨Da, hDn⟩ : ∃ D, D = (World.heap w102).size := ⟨_, rfl⟩
          rw [← hDn] at KT ⊢
          clear hDn
          generalize World.alloc w102 (.cells z5 48) = w118 at KT ⊢
          try simp only [Act.put, List.setIfInBounds_toArray, List.set_cons_zero, List.set_cons_succ]
          refine wpLate_two (i := 15) (j := 17) (o := ?on19_15) (u := ?on19_17) (by kernel_rfl) ?hon19_15 ?hon19_17 ?hkn19_15 ?hkn19_17
          case hon19_15 => (simp only [List.getElem?_toArray, List.getElem?_cons_zero, List.getElem?_cons_succ]; rfl)
          case hon19_17 => (simp only [List.getElem?_toArray, List.getElem?_cons_zero, List.getElem?_cons_succ]; rfl)
          case hkn19_15 =>
            intro K hK
            go_simp
            refine (C41.out _ KT.out.b).mono ?_
            rintro r w120 ⟨rfl, hbs⟩
            replace KT := Lib.hid (KT.out.call hbs)
            clear hbs
            go_simp
            refine hK.out _ _ (fun _ => KS.out _ KT.out.b) ?_
            clear hK K
            try simp only [Act.put, List.setIfInBounds_toArray, List.set_cons_zero, List.set_cons_succ]
            refine wpLate_one (i := 17) (o := ?on21_17) (by kernel_rfl) ?hon21_17 ?hkn21_17
            case hon21_17 => (simp only [List.getElem?_toArray, List.getElem?_cons_zero, List.getElem?_cons_succ]; rfl)
            intro K hK
            go_simp
            replace KT := Lib.hid (KT.out.al2)
            refine hK.out _ _ (fun _ => KS.out _ KT.out.b) ?_
            clear hK K
            obtain ⟨Db, hDn⟩ : ∃ D, D = (World.heap w120).size := ⟨_, rfl⟩
            rw [← hDn] at KT ⊢
            clear hDn
            generalize World.alloc w120 (.cells z5 48) = w122 at KT ⊢
            try simp only [Act.put, List.setIfInBounds_toArray, List.set_cons_zero, List.set_cons_succ]
            replace KT := Lib.hid KT.out.fin
            have x0 : World.cell? w122 ⟨Da, 0, none⟩ = some (.int .i64 0) := KT.out.d1.2.cell 0
            have x1 : World.cell? w122 ⟨Da, 1, none⟩ = some (.int .i64 0) := KT.out.d1.2.cell 1
            have x2 : World.cell? w122 ⟨Da, 2, none⟩ = some (.int .i64 0) := KT.out.d1.2.cell 2
            have x3 : World.cell? w122 ⟨Da, 3, none⟩ = some (.int .i64 0) := KT.out.d1.2.cell 3
            have x4 : World.cell? w122 ⟨Da, 4, none⟩ = some (.int .i64 0) := KT.out.d1.2.cell 4
            have xf := KT.out.d1.2.frozen
            have xl := KT.out.d1.2.lt
            refine wpLate_one (i := 18) (o := ?of23_18) (by kernel_rfl) ?hof23_18 ?hkf23_18
            case hof23_18 => (simp only [List.getElem?_toArray, List.getElem?_cons_zero, List.getElem?_cons_succ]; rfl)
            intro K hK
            go_simp
            replace KT := Lib.hid (KT.out.put1 X)
            refine hK.out _ _ (fun h => absurd h (by decide)) ?_
            clear hK K x0 x1 x2 x3 x4 xf xl
            refine (show wpLate _ _ _ _ _ _ _ _ _ (put5 w122 Da X) from ?_)
            generalize put5 w122 Da X = w124 at KT ⊢
            try simp only [Act.put, List.setIfInBounds_toArray, List.set_cons_zero, List.set_cons_succ]
            have x0 : World.cell? w124 ⟨Db, 0, none⟩ = some (.int .i64 0) := KT.out.d2.2.cell 0
            have x1 : World.cell? w124 ⟨Db, 1, none⟩ = some (.int .i64 0) := KT.out.d2.2.cell 1
            have x2 : World.cell? w124 ⟨Db, 2, none⟩ = some (.int .i64 0) := KT.out.d2.2.cell 2
            have x3 : World.cell? w124 ⟨Db, 3, none⟩ = some (.int .i64 0) := KT.out.d2.2.cell 3
            have x4 : World.cell? w124 ⟨Db, 4, none⟩ = some (.int .i64 0) := KT.out.d2.2.cell 4
            have xf := KT.out.d2.2.frozen
            have xl := KT.out.d2.2.lt
            refine wpLate_one (i := 19) (o := ?of23_19) (by kernel_rfl) ?hof23_19 ?hkf23_19
            case hof23_19 => (simp only [List.getElem?_toArray, List.getElem?_cons_zero, List.getElem?_cons_succ]; rfl)
            intro K hK
            go_simp
            replace KT := Lib.hid (KT.out.put2 Y)
            refine hK.out _ _ (fun h => absurd h (by decide)) ?_
            clear hK K x0 x1 x2 x3 x4 xf xl
            refine (show wpLate _ _ _ _ _ _ _ _ _ (put5 w124 Db Y) from ?_)
            generalize put5 w124 Db Y = w125 at KT ⊢
            try simp only [Act.put, List.setIfInBounds_toArray, List.set_cons_zero, List.set_cons_succ]
            refine wpLate_done (by kernel_rfl) ?_ _
            try simp only [Act.put, List.setIfInBounds_toArray, List.set_cons_zero, List.set_cons_succ]
            go_wp2_with fail
            go_meet
            exact ⟨_, _, rfl, rfl, KT⟩
          case hkn19_17 =>
            intro K hK
            go_simp
            replace KT := Lib.hid (KT.out.al2)
            refine hK.out _ _ (fun _ => KS.out _ KT.out.b) ?_
            clear hK K
            obtain ⟨Db, hDn⟩ : ∃ D, D = (World.heap w118).size := ⟨_, rfl⟩
            rw [← hDn] at KT ⊢
            clear hDn
            generalize World.alloc w118 (.cells z5 48) = w126 at KT ⊢
            try simp only [Act.put, List.setIfInBounds_toArray, List.set_cons_zero, List.set_cons_succ]
            refine wpLate_one (i := 15) (o := ?on27_15) (by kernel_rfl) ?hon27_15 ?hkn27_15
            case hon27_15 => (simp only [List.getElem?_toArray, List.getElem?_cons_zero, List.getElem?_cons_succ]; rfl)
            intro K hK
            go_simp
            refine (C41.out _ KT.out.b).mono ?_
            rintro r w128 ⟨rfl, hbs⟩
            replace KT := Lib.hid (KT.out.call hbs)
            clear hbs
            go_simp
            refine hK.out _ _ (fun _ => KS.out _ KT.out.b) ?_
            clear hK K
            try simp only [Act.put, List.setIfInBounds_toArray, List.set_cons_zero, List.set_cons_succ]
            replace KT := Lib.hid KT.out.fin
            have x0 : World.cell? w128 ⟨Da, 0, none⟩ = some (.int .i64 0) := KT.out.d1.2.cell 0
            have x1 : World.cell? w128 ⟨Da, 1, none⟩ = some (.int .i64 0) := KT.out.d1.2.cell 1
            have x2 : World.cell? w128 ⟨Da, 2, none⟩ = some (.int .i64 0) := KT.out.d1.2.cell 2
            have x3 : World.cell? w128 ⟨Da, 3, none⟩ = some (.int .i64 0) := KT.out.d1.2.cell 3
            have x4 : World.cell? w128 ⟨Da, 4, none⟩ = some (.int .i64 0) := KT.out.d1.2.cell 4
            have xf := KT.out.d1.2.frozen
            have xl := KT.out.d1.2.lt
            refine wpLate_one (i := 18) (o := ?of29_18) (by kernel_rfl) ?hof29_18 ?hkf29_18
            case hof29_18 => (simp only [List.getElem?_toArray, List.getElem?_cons_zero, List.getElem?_cons_succ]; rfl)
            intro K hK
            go_simp
            replace KT := Lib.hid (KT.out.put1 X)
            refine hK.out _ _ (fun h => absurd h (by decide)) ?_
            clear hK K x0 x1 x2 x3 x4 xf xl
            refine (show wpLate _ _ _ _ _ _ _ _ _ (put5 w128 Da X) from ?_)
            generalize put5 w128 Da X = w130 at KT ⊢
            try simp only [Act.put, List.setIfInBounds_toArray, List.set_cons_zero, List.set_cons_succ]
            have x0 : World.cell? w130 ⟨Db, 0, none⟩ = some (.int .i64 0) := KT.out.d2.2.cell 0
            have x1 : World.cell? w130 ⟨Db, 1, none⟩ = some (.int .i64 0) := KT.out.d2.2.cell 1
            have x2 : World.cell? w130 ⟨Db, 2, none⟩ = some (.int .i64 0) := KT.out.d2.2.cell 2
            have x3 : World.cell? w130 ⟨Db, 3, none⟩ = some (.int .i64 0) := KT.out.d2.2.cell 3
            have x4 : World.cell? w130 ⟨Db, 4, none⟩ = some (.int .i64 0) := KT.out.d2.2.cell 4
            have xf := KT.out.d2.2.frozen
            have xl := KT.out.d2.2.lt
            refine wpLate_one (i := 19) (o := ?of29_19) (by kernel_rfl) ?hof29_19 ?hkf29_19
            case hof29_19 => (simp only [List.getElem?_toArray, List.getElem?_cons_zero, List.getElem?_cons_succ]; rfl)
            intro K hK
            go_simp
            replace KT := Lib.hid (KT.out.put2 Y)
            refine hK.out _ _ (fun h => absurd h (by decide)) ?_
            clear hK K x0 x1 x2 x3 x4 xf xl
            refine (show wpLate _ _ _ _ _ _ _ _ _ (put5 w130 Db Y) from ?_)
            generalize put5 w130 Db Y = w131 at KT ⊢
            try simp only [Act.put, List.setIfInBounds_toArray, List.set_cons_zero, List.set_cons_succ]
            refine wpLate_done (by kernel_rfl) ?_ _
            try simp only [Act.put, List.setIfInBounds_toArray, List.set_cons_zero, List.set_cons_succ]
            go_wp2_with fail
            go_meet
            exact ⟨_, _, rfl, rfl, KT⟩
        case hkn3_17 =>
          intro K hK
          go_simp
          replace KT := Lib.hid (KT.out.al2)
          refine hK.out _ _ (fun _ => KS.out _ KT.out.b) ?_
          clear hK K
          obtain ⟨Db, hDn⟩ : ∃ D, D = (World.heap w102).size := ⟨_, rfl⟩
          rw [← hDn] at KT ⊢
          clear hDn
          generalize World.alloc w102 (.cells z5 48) = w132 at KT ⊢
          try simp only [Act.put, List.setIfInBounds_toArray, List.set_cons_zero, List.set_cons_succ]
          refine wpLate_two (i := 15) (j := 16) (o := ?on33_15) (u := ?on33_16) (by kernel_rfl) ?hon33_15 ?hon33_16 ?hkn33_15 ?hkn33_16
          case hon33_15 => (simp only [List.getElem?_toArray, List.getElem?_cons_zero, List.getElem?_cons_succ]; rfl)
          case hon33_16 => (simp only [List.getElem?_toArray, List.getElem?_cons_zero, List.getElem?_cons_succ]; rfl)
          case hkn33_15 =>
            intro K hK
            go_simp
            refine (C41.out _ KT.out.b).mono ?_
            rintro r w134 ⟨rfl, hbs⟩
            replace KT := Lib.hid (KT.out.call hbs)
            clear hbs
            go_simp
            refine hK.out _ _ (fun _ => KS.out _ KT.out.b) ?_
            clear hK K
            try simp only [Act.put, List.setIfInBounds_toArray, List.set_cons_zero, List.set_cons_succ]
            refine wpLate_one (i := 16) (o := ?on35_16) (by kernel_rfl) ?hon35_16 ?hkn35_16
            case hon35_16 => (simp only [List.getElem?_toArray, List.getElem?_cons_zero, List.getElem?_cons_succ]; rfl)
            intro K hK
            go_simp
            replace KT := Lib.hid (KT.out.al1)
            refine hK.out _ _ (fun _ => KS.out _ KT.out.b) ?_
            clear hK K
            obtain ⟨Da, hDn⟩ : ∃ D, D = (World.heap w134).size := ⟨_, rfl⟩
            rw [← hDn] at KT ⊢
            clear hDn
            generalize World.alloc w134 (.cells z5 48) = w136 at KT ⊢
            try simp only [Act.put, List.setIfInBounds_toArray, List.set_cons_zero, List.set_cons_succ]
            replace KT := Lib.hid KT.out.fin
            have x0 : World.cell? w136 ⟨Da, 0, none⟩ = some (.int .i64 0) := KT.out.d1.2.cell 0
            have x1 : World.cell? w136 ⟨Da, 1, none⟩ = some (.int .i64 0) := KT.out.d1.2.cell 1
            have x2 : World.cell? w136 ⟨Da, 2, none⟩ = some (.int .i64 0) := KT.out.d1.2.cell 2
            have x3 : World.cell? w136 ⟨Da, 3, none⟩ = some (.int .i64 0) := KT.out.d1.2.cell 3
            have x4 : World.cell? w136 ⟨Da, 4, none⟩ = some (.int .i64 0) := KT.out.d1.2.cell 4
            have xf := KT.out.d1.2.frozen
            have xl := KT.out.d1.2.lt
            refine wpLate_one (i := 18) (o := ?of37_18) (by kernel_rfl) ?hof37_18 ?hkf37_18
            case hof37_18 => (simp only [List.getElem?_toArray, List.getElem?_cons_zero, List.getElem?_cons_succ]; rfl)
            intro K hK
            go_simp
            replace KT := Lib.hid (KT.out.put1 X)
            refine hK.out _ _ (fun h => absurd h (by decide)) ?_
            clear hK K x0 x1 x2 x3 x4 xf xl
            refine (show wpLate _ _ _ _ _ _ _ _ _ (put5 w136 Da X) from ?_)
            generalize put5 w136 Da X = w138 at KT ⊢
            try simp only [Act.put, List.setIfInBounds_toArray, List.set_cons_zero, List.set_cons_succ]
            have x0 : World.cell? w138 ⟨Db, 0, none⟩ = some (.int .i64 0) := KT.out.d2.2.cell 0
            have x1 : World.cell? w138 ⟨Db, 1, none⟩ = some (.int .i64 0) := KT.out.d2.2.cell 1
            have x2 : World.cell? w138 ⟨Db, 2, none⟩ = some (.int .i64 0) := KT.out.d2.2.cell 2
            have x3 : World.cell? w138 ⟨Db, 3, none⟩ = some (.int .i64 0) := KT.out.d2.2.cell 3
            have x4 : World.cell? w138 ⟨Db, 4, none⟩ = some (.int .i64 0) := KT.out.d2.2.cell 4
            have xf := KT.out.d2.2.frozen
            have xl := KT.out.d2.2.lt
            refine wpLate_one (i := 19) (o := ?of37_19) (by kernel_rfl) ?hof37_19 ?hkf37_19
            case hof37_19 => (simp only [List.getElem?_toArray, List.getElem?_cons_zero, List.getElem?_cons_succ]; rfl)
            intro K hK
            go_simp
            replace KT := Lib.hid (KT.out.put2 Y)
            refine hK.out _ _ (fun h => absurd h (by decide)) ?_
            clear hK K x0 x1 x2 x3 x4 xf xl
            refine (show wpLate _ _ _ _ _ _ _ _ _ (put5 w138 Db Y) from ?_)
            generalize put5 w138 Db Y = w139 at KT ⊢
            try simp only [Act.put, List.setIfInBounds_toArray, List.set_cons_zero, List.set_cons_succ]
            refine wpLate_done (by kernel_rfl) ?_ _
            try simp only [Act.put, List.setIfInBounds_toArray, List.set_cons_zero, List.set_cons_succ]
            go_wp2_with fail
            go_meet
            exact ⟨_, _, rfl, rfl, KT⟩
          case hkn33_16 =>
            intro K hK
            go_simp
            replace KT := Lib.hid (KT.out.al1)
            refine hK.out _ _ (fun _ => KS.out _ KT.out.b) ?_
            clear hK K
            obtain ⟨Da, hDn⟩ : ∃ D, D = (World.heap w132).size := ⟨_, rfl⟩
            rw [← hDn] at KT ⊢
            clear hDn
            generalize World.alloc w132 (.cells z5 48) = w140 at KT ⊢
            try simp only [Act.put, List.setIfInBounds_toArray, List.set_cons_zero, List.set_cons_succ]
            refine wpLate_one (i := 15) (o := ?on41_15) (by kernel_rfl) ?hon41_15 ?hkn41_15
            case hon41_15 => (simp only [List.getElem?_toArray, List.getElem?_cons_zero, List.getElem?_cons_succ]; rfl)
            intro K hK
            go_simp
            refine (C41.out _ KT.out.b).mono ?_
            rintro r w142 ⟨rfl, hbs⟩
            replace KT := Lib.hid (KT.out.call hbs)
            clear hbs
            go_simp
            refine hK.out _ _ (fun _ => KS.out _ KT.out.b) ?_
            clear hK K
            try simp only [Act.put, List.setIfInBounds_toArray, List.set_cons_zero, List.set_cons_succ]
            replace KT := Lib.hid KT.out.fin
            have x0 : World.cell? w142 ⟨Da, 0, none⟩ = some (.int .i64 0) := KT.out.d1.2.cell 0
            have x1 : World.cell? w142 ⟨Da, 1, none⟩ = some (.int .i64 0) := KT.out.d1.2.cell 1
            have x2 : World.cell? w142 ⟨Da, 2, none⟩ = some (.int .i64 0) := KT.out.d1.2.cell 2
            have x3 : World.cell? w142 ⟨Da, 3, none⟩ = some (.int .i64 0) := KT.out.d1.2.cell 3
            have x4 : World.cell? w142 ⟨Da, 4, none⟩ = some (.int .i64 0) := KT.out.d1.2.cell 4
            have xf := KT.out.d1.2.frozen
            have xl := KT.out.d1.2.lt
            refine wpLate_one (i := 18) (o := ?of43_18) (by kernel_rfl) ?hof43_18 ?hkf43_18
            case hof43_18 => (simp only [List.getElem?_toArray, List.getElem?_cons_zero, List.getElem?_cons_succ]; rfl)
            intro K hK
            go_simp
            replace KT := Lib.hid (KT.out.put1 X)
            refine hK.out _ _ (fun h => absurd h (by decide)) ?_
            clear hK K x0 x1 x2 x3 x4 xf xl
            refine (show wpLate _ _ _ _ _ _ _ _ _ (put5 w142 Da X) from ?_)
            generalize put5 w142 Da X = w144 at KT ⊢
            try simp only [Act.put, List.setIfInBounds_toArray, List.set_cons_zero, List.set_cons_succ]
            have x0 : World.cell? w144 ⟨Db, 0, none⟩ = some (.int .i64 0) := KT.out.d2.2.cell 0
            have x1 : World.cell? w144 ⟨Db, 1, none⟩ = some (.int .i64 0) := KT.out.d2.2.cell 1
            have x2 : World.cell? w144 ⟨Db, 2, none⟩ = some (.int .i64 0) := KT.out.d2.2.cell 2
            have x3 : World.cell? w144 ⟨Db, 3, none⟩ = some (.int .i64 0) := KT.out.d2.2.cell 3
            have x4 : World.cell? w144 ⟨Db, 4, none⟩ = some (.int .i64 0) := KT.out.d2.2.cell 4
            have xf := KT.out.d2.2.frozen
            have xl := KT.out.d2.2.lt
            refine wpLate_one (i := 19) (o := ?of43_19) (by kernel_rfl) ?hof43_19 ?hkf43_19
            case hof43_19 => (simp only [List.getElem?_toArray, List.getElem?_cons_zero, List.getElem?_cons_succ]; rfl)
            intro K hK
            go_simp
            replace KT := Lib.hid (KT.out.put2 Y)
            refine hK.out _ _ (fun h => absurd h (by decide)) ?_
            clear hK K x0 x1 x2 x3 x4 xf xl
            refine (show wpLate _ _ _ _ _ _ _ _ _ (put5 w144 Db Y) from ?_)
            generalize put5 w144 Db Y = w145 at KT ⊢
            try simp only [Act.put, List.setIfInBounds_toArray, List.set_cons_zero, List.set_cons_succ]
            refine wpLate_done (by kernel_rfl) ?_ _
            try simp only [Act.put, List.setIfInBounds_toArray, List.set_cons_zero, List.set_cons_succ]
            go_wp2_with fail
            go_meet
            exact ⟨_, _, rfl, rfl, KT⟩
      case hkn1_16 =>
        intro K hK
        go_simp
        replace KT := Lib.hid (KT.out.al1)
        refine hK.out _ _ (fun _ => KS.out _ KT.out.b) ?_
        clear hK K
        obtain ⟨Da, hDn⟩ : ∃ D, D = (World.heap wd).size := ⟨_, rfl⟩
        rw [← hDn] at KT ⊢
        clear hDn
        generalize World.alloc wd (.cells z5 48) = w146 at KT ⊢
        try simp only [Act.put, List.setIfInBounds_toArray, List.set_cons_zero, List.set_cons_succ]
        refine wpLate_two (i := 7) (j := 17) (o := ?on47_7) (u := ?on47_17) (by kernel_rfl) ?hon47_7 ?hon47_17 ?hkn47_7 ?hkn47_17
        case hon47_7 => (simp only [List.getElem?_toArray, List.getElem?_cons_zero, List.getElem?_cons_succ]; rfl)
        case hon47_17 => (simp only [List.getElem?_toArray, List.getElem?_cons_zero, List.getElem?_cons_succ]; rfl)
        case hkn47_7 =>
          intro K hK
          go_simp
          refine (C40.out _ KT.out.b).mono ?_
          rintro r w148 ⟨rfl, hbs⟩
          replace KT := Lib.hid (KT.out.call hbs)
          clear hbs
          go_simp
          refine hK.out _ _ (fun _ => KS.out _ KT.out.b) ?_
          clear hK K
          try simp only [Act.put, List.setIfInBounds_toArray, List.set_cons_zero, List.set_cons_succ]
          refine wpLate_two (i := 15) (j := 17) (o := ?on49_15) (u := ?on49_17) (by kernel_rfl) ?hon49_15 ?hon49_17 ?hkn49_15 ?hkn49_17
          case hon49_15 => (simp only [List.getElem?_toArray, List.getElem?_cons_zero, List.getElem?_cons_succ]; rfl)
          case hon49_17 => (simp only [List.getElem?_toArray, List.getElem?_cons_zero, List.getElem?_cons_succ]; rfl)
          case hkn49_15 =>
            intro K hK
            go_simp
            refine (C41.out _ KT.out.b).mono ?_
            rintro r w150 ⟨rfl, hbs⟩
            replace KT := Lib.hid (KT.out.call hbs)
            clear hbs
            go_simp
            refine hK.out _ _ (fun _ => KS.out _ KT.out.b) ?_
            clear hK K
            try simp only [Act.put, List.setIfInBounds_toArray, List.set_cons_zero, List.set_cons_succ]
            refine wpLate_one (i := 17) (o := ?on51_17) (by kernel_rfl) ?hon51_17 ?hkn51_17
            case hon51_17 => (simp only [List.getElem?_toArray, List.getElem?_cons_zero, List.getElem?_cons_succ]; rfl)
            intro K hK
            go_simp
            replace KT := Lib.hid (KT.out.al2)
            refine hK.out _ _ (fun _ => KS.out _ KT.out.b) ?_
            clear hK K
            obtain ⟨Db, hDn⟩ : ∃ D, D = (World.heap w150).size := ⟨_, rfl⟩
            rw [← hDn] at KT ⊢
            clear hDn
            generalize World.alloc w150 (.cells z5 48) = w152 at KT ⊢
            try simp only [Act.put, List.setIfInBounds_toArray, List.set_cons_zero, List.set_cons_succ]
            replace KT := Lib.hid KT.out.fin
            have x0 : World.cell? w152 ⟨Da, 0, none⟩ = some (.int .i64 0) := KT.out.d1.2.cell 0
            have x1 : World.cell? w152 ⟨Da, 1, none⟩ = some (.int .i64 0) := KT.out.d1.2.cell 1
            have x2 : World.cell? w152 ⟨Da, 2, none⟩ = some (.int .i64 0) := KT.out.d1.2.cell 2
            have x3 : World.cell? w152 ⟨Da, 3, none⟩ = some (.int .i64 0) := KT.out.d1.2.cell 3
            have x4 : World.cell? w152 ⟨Da, 4, none⟩ = some (.int .i64 0) := KT.out.d1.2.cell 4
            have xf := KT.out.d1.2.frozen
            have xl := KT.out.d1.2.lt
            refine wpLate_one (i := 18) (o := ?of53_18) (by kernel_rfl) ?hof53_18 ?hkf53_18
            case hof53_18 => (simp only [List.getElem?_toArray, List.getElem?_cons_zero, List.getElem?_cons_succ]; rfl)
            intro K hK
            go_simp
            replace KT := Lib.hid (KT.out.put1 X)
            refine hK.out _ _ (fun h => absurd h (by decide)) ?_
            clear hK K x0 x1 x2 x3 x4 xf xl
            refine (show wpLate _ _ _ _ _ _ _ _ _ (put5 w152 Da X) from ?_)
            generalize put5 w152 Da X = w154 at KT ⊢
            try simp only [Act.put, List.setIfInBounds_toArray, List.set_cons_zero, List.set_cons_succ]
            have x0 : World.cell? w154 ⟨Db, 0, none⟩ = some (.int .i64 0) := KT.out.d2.2.cell 0
            have x1 : World.cell? w154 ⟨Db, 1, none⟩ = some (.int .i64 0) := KT.out.d2.2.cell 1
            have x2 : World.cell? w154 ⟨Db, 2, none⟩ = some (.int .i64 0) := KT.out.d2.2.cell 2
            have x3 : World.cell? w154 ⟨Db, 3, none⟩ = some (.int .i64 0) := KT.out.d2.2.cell 3
            have x4 : World.cell? w154 ⟨Db, 4, none⟩ = some (.int .i64 0) := KT.out.d2.2.cell 4
            have xf := KT.out.d2.2.frozen
            have xl := KT.out.d2.2.lt
            refine wpLate_one (i := 19) (o := ?of53_19) (by kernel_rfl) ?hof53_19 ?hkf53_19
            case hof53_19 => (simp only [List.getElem?_toArray, List.getElem?_cons_zero, List.getElem?_cons_succ]; rfl)
            intro K hK
            go_simp
            replace KT := Lib.hid (KT.out.put2 Y)
            refine hK.out _ _ (fun h => absurd h (by decide)) ?_
            clear hK K x0 x1 x2 x3 x4 xf xl
            refine (show wpLate _ _ _ _ _ _ _ _ _ (put5 w154 Db Y) from ?_)
            generalize put5 w154 Db Y = w155 at KT ⊢
            try simp only [Act.put, List.setIfInBounds_toArray, List.set_cons_zero, List.set_cons_succ]
            refine wpLate_done (by kernel_rfl) ?_ _
            try simp only [Act.put, List.setIfInBounds_toArray, List.set_cons_zero, List.set_cons_succ]
            go_wp2_with fail
            go_meet
            exact ⟨_, _, rfl, rfl, KT⟩
          case hkn49_17 =>
            intro K hK
            go_simp
            replace KT := Lib.hid (KT.out.al2)
            refine hK.out _ _ (fun _ => KS.out _ KT.out.b) ?_
            clear hK K
            obtain ⟨Db, hDn⟩ : ∃ D, D = (World.heap w148).size := ⟨_, rfl⟩
            rw [← hDn] at KT ⊢
            clear hDn
            generalize World.alloc w148 (.cells z5 48) = w156 at KT ⊢
            try simp only [Act.put, List.setIfInBounds_toArray, List.set_cons_zero, List.set_cons_succ]
            refine wpLate_one (i := 15) (o := ?on57_15) (by kernel_rfl) ?hon57_15 ?hkn57_15
            case hon57_15 => (simp only [List.getElem?_toArray, List.getElem?_cons_zero, List.getElem?_cons_succ]; rfl)
            intro K hK
            go_simp
            refine (C41.out _ KT.out.b).mono ?_
            rintro r w158 ⟨rfl, hbs⟩
            replace KT := Lib.hid (KT.out.call hbs)
            clear hbs
            go_simp
            refine hK.out _ _ (fun _ => KS.out _ KT.out.b) ?_
            clear hK K
            try simp only [Act.put, List.setIfInBounds_toArray, List.set_cons_zero, List.set_cons_succ]
            replace KT := Lib.hid KT.out.fin
            have x0 : World.cell? w158 ⟨Da, 0, none⟩ = some (.int .i64 0) := KT.out.d1.2.cell 0
            have x1 : World.cell? w158 ⟨Da, 1, none⟩ = some (.int .i64 0) := KT.out.d1.2.cell 1
            have x2 : World.cell? w158 ⟨Da, 2, none⟩ = some (.int .i64 0) := KT.out.d1.2.cell 2
            have x3 : World.cell? w158 ⟨Da, 3, none⟩ = some (.int .i64 0) := KT.out.d1.2.cell 3
            have x4 : World.cell? w158 ⟨Da, 4, none⟩ = some (.int .i64 0) := KT.out.d1.2.cell 4
            have xf := KT.out.d1.2.frozen
            have xl := KT.out.d1.2.lt
            refine wpLate_one (i := 18) (o := ?of59_18) (by kernel_rfl) ?hof59_18 ?hkf59_18
            case hof59_18 => (simp only [List.getElem?_toArray, List.getElem?_cons_zero, List.getElem?_cons_succ]; rfl)
            intro K hK
            go_simp
            replace KT := Lib.hid (KT.out.put1 X)
            refine hK.out _ _ (fun h => absurd h (by decide)) ?_
            clear hK K x0 x1 x2 x3 x4 xf xl
            refine (show wpLate _ _ _ _ _ _ _ _ _ (put5 w158 Da X) from ?_)
            generalize put5 w158 Da X = w160 at KT ⊢
            try simp only [Act.put, List.setIfInBounds_toArray, List.set_cons_zero, List.set_cons_succ]
            have x0 : World.cell? w160 ⟨Db, 0, none⟩ = some (.int .i64 0) := KT.out.d2.2.cell 0
            have x1 : World.cell? w160 ⟨Db, 1, none⟩ = some (.int .i64 0) := KT.out.d2.2.cell 1
            have x2 : World.cell? w160 ⟨Db, 2, none⟩ = some (.int .i64 0) := KT.out.d2.2.cell 2
            have x3 : World.cell? w160 ⟨Db, 3, none⟩ = some (.int .i64 0) := KT.out.d2.2.cell 3
            have x4 : World.cell? w160 ⟨Db, 4, none⟩ = some (.int .i64 0) := KT.out.d2.2.cell 4
            have xf := KT.out.d2.2.frozen
            have xl := KT.out.d2.2.lt
            refine wpLate_one (i := 19) (o := ?of59_19) (by kernel_rfl) ?hof59_19 ?hkf59_19
            case hof59_19 => (simp only [List.getElem?_toArray, List.getElem?_cons_zero, List.getElem?_cons_succ]; rfl)
            intro K hK
            go_simp
            replace KT := Lib.hid (KT.out.put2 Y)
            refine hK.out _ _ (fun h => absurd h (by decide)) ?_
            clear hK K x0 x1 x2 x3 x4 xf xl
            refine (show wpLate _ _ _ _ _ _ _ _ _ (put5 w160 Db Y) from ?_)
            generalize put5 w160 Db Y = w161 at KT ⊢
            try simp only [Act.put, List.setIfInBounds_toArray, List.set_cons_zero, List.set_cons_succ]
            refine wpLate_done (by kernel_rfl) ?_ _
            try simp only [Act.put, List.setIfInBounds_toArray, List.set_cons_zero, List.set_cons_succ]
            go_wp2_with fail
            go_meet
            exact ⟨_, _, rfl, rfl, KT⟩
        case hkn47_17 =>
          intro K hK
          go_simp
          replace KT := Lib.hid (KT.out.al2)
          refine hK.out _ _ (fun _ => KS.out _ KT.out.b) ?_
          clear hK K
          obtain ⟨Db, hDn⟩ : ∃ D, D = (World.heap w146).size := ⟨_, rfl⟩
          rw [← hDn] at KT ⊢
          clear hDn
          generalize World.alloc w146 (.cells z5 48) = w162 at KT ⊢
          try simp only [Act.put, List.setIfInBounds_toArray, List.set_cons_zero, List.set_cons_succ]
          refine wpLate_one (i := 7) (o := ?on63_7) (by kernel_rfl) ?hon63_7 ?hkn63_7
          case hon63_7 => (simp only [List.getElem?_toArray, List.getElem?_cons_zero, List.getElem?_cons_succ]; rfl)
          intro K hK
          go_simp
          refine (C40.out _ KT.out.b).mono ?_
          rintro r w164 ⟨rfl, hbs⟩
          replace KT := Lib.hid (KT.out.call hbs)
          clear hbs
          go_simp
          refine hK.out _ _ (fun _ => KS.out _ KT.out.b) ?_
          clear hK K
          try simp only [Act.put, List.setIfInBounds_toArray, List.set_cons_zero, List.set_cons_succ]
          refine wpLate_one (i := 15) (o := ?on65_15) (by kernel_rfl) ?hon65_15 ?hkn65_15
          case hon65_15 => (simp only [List.getElem?_toArray, List.getElem?_cons_zero, List.getElem?_cons_succ]; rfl)
          intro K hK
          go_simp
          refine (C41.out _ KT.out.b).mono ?_
          rintro r w166 ⟨rfl, hbs⟩
          replace KT := Lib.hid (KT.out.call hbs)
          clear hbs
          go_simp
          refine hK.out _ _ (fun _ => KS.out _ KT.out.b) ?_
          clear hK K
          try simp only [Act.put, List.setIfInBounds_toArray, List.set_cons_zero, List.set_cons_succ]
          replace KT := Lib.hid KT.out.fin
          have x0 : World.cell? w166 ⟨Da, 0, none⟩ = some (.int .i64 0) := KT.out.d1.2.cell 0
          have x1 : World.cell? w166 ⟨Da, 1, none⟩ = some (.int .i64 0) := KT.out.d1.2.cell 1
          have x2 : World.cell? w166 ⟨Da, 2, none⟩ = some (.int .i64 0) := KT.out.d1.2.cell 2
          have x3 : World.cell? w166 ⟨Da, 3, none⟩ = some (.int .i64 0) := KT.out.d1.2.cell 3
          have x4 : World.cell? w166 ⟨Da, 4, none⟩ = some (.int .i64 0) := KT.out.d1.2.cell 4
          have xf := KT.out.d1.2.frozen
          have xl := KT.out.d1.2.lt
          refine wpLate_one (i := 18) (o := ?of67_18) (by kernel_rfl) ?hof67_18 ?hkf67_18
          case hof67_18 => (simp only [List.getElem?_toArray, List.getElem?_cons_zero, List.getElem?_cons_succ]; rfl)
          intro K hK
          go_simp
          replace KT := Lib.hid (KT.out.put1 X)
          refine hK.out _ _ (fun h => absurd h (by decide)) ?_
          clear hK K x0 x1 x2 x3 x4 xf xl
          refine (show wpLate _ _ _ _ _ _ _ _ _ (put5 w166 Da X) from ?_)
          generalize put5 w166 Da X = w168 at KT ⊢
          try simp only [Act.put, List.setIfInBounds_toArray, List.set_cons_zero, List.set_cons_succ]
          have x0 : World.cell? w168 ⟨Db, 0, none⟩ = some (.int .i64 0) := KT.out.d2.2.cell 0
          have x1 : World.cell? w168 ⟨Db, 1, none⟩ = some (.int .i64 0) := KT.out.d2.2.cell 1
          have x2 : World.cell? w168 ⟨Db, 2, none⟩ = some (.int .i64 0) := KT.out.d2.2.cell 2
          have x3 : World.cell? w168 ⟨Db, 3, none⟩ = some (.int .i64 0) := KT.out.d2.2.cell 3
          have x4 : World.cell? w168 ⟨Db, 4, none⟩ = some (.int .i64 0) := KT.out.d2.2.cell 4
          have xf := KT.out.d2.2.frozen
          have xl := KT.out.d2.2.lt
          refine wpLate_one (i := 19) (o := ?of67_19) (by kernel_rfl) ?hof67_19 ?hkf67_19
          case hof67_19 => (simp only [List.getElem?_toArray, List.getElem?_cons_zero, List.getElem?_cons_succ]; rfl)
          intro K hK
          go_simp
          replace KT := Lib.hid (KT.out.put2 Y)
          refine hK.out _ _ (fun h => absurd h (by decide)) ?_
          clear hK K x0 x1 x2 x3 x4 xf xl
          refine (show wpLate _ _ _ _ _ _ _ _ _ (put5 w168 Db Y) from ?_)
          generalize put5 w168 Db Y = w169 at KT ⊢
          try simp only [Act.put, List.setIfInBounds_toArray, List.set_cons_zero, List.set_cons_succ]
          refine wpLate_done (by kernel_rfl) ?_ _
          try simp only [Act.put, List.setIfInBounds_toArray, List.set_cons_zero, List.set_cons_succ]
          go_wp2_with fail
          go_meet
          exact ⟨_, _, rfl, rfl, KT⟩
      case hkn1_17 =>
        intro K hK
        go_simp
        replace KT := Lib.hid (KT.out.al2)
        refine hK.out _ _ (fun _ => KS.out _ KT.out.b) ?_
        clear hK K
        obtain ⟨Db, hDn⟩ : ∃ D, D = (World.heap wd).size := ⟨_, rfl⟩
        rw [← hDn] at KT ⊢
        clear hDn
        generalize World.alloc wd (.cells z5 48) = w170 at KT ⊢
        try simp only [Act.put, List.setIfInBounds_toArray, List.set_cons_zero, List.set_cons_succ]
        refine wpLate_two (i := 7) (j := 16) (o := ?on71_7) (u := ?on71_16) (by kernel_rfl) ?hon71_7 ?hon71_16 ?hkn71_7 ?hkn71_16
        case hon71_7 => (simp only [List.getElem?_toArray, List.getElem?_cons_zero, List.getElem?_cons_succ]; rfl)
        case hon71_16 => (simp only [List.getElem?_toArray, List.getElem?_cons_zero, List.getElem?_cons_succ]; rfl)
        case hkn71_7 =>
          intro K hK
          go_simp
          refine (C40.out _ KT.out.b).mono ?_
          rintro r w172 ⟨rfl, hbs⟩
          replace KT := Lib.hid (KT.out.call hbs)
          clear hbs
          go_simp
          refine hK.out _ _ (fun _ => KS.out _ KT.out.b) ?_
          clear hK K
          try simp only [Act.put, List.setIfInBounds_toArray, List.set_cons_zero, List.set_cons_succ]
          refine wpLate_two (i := 15) (j := 16) (o := ?on73_15) (u := ?on73_16) (by kernel_rfl) ?hon73_15 ?hon73_16 ?hkn73_15 ?hkn73_16
          case hon73_15 => (simp only [List.getElem?_toArray, List.getElem?_cons_zero, List.getElem?_cons_succ]; rfl)
          case hon73_16 => (simp only [List.getElem?_toArray, List.getElem?_cons_zero, List.getElem?_cons_succ]; rfl)
          case hkn73_15 =>
            intro K hK
            go_simp
            refine (C41.out _ KT.out.b).mono ?_
            rintro r w174 ⟨rfl, hbs⟩
            replace KT := Lib.hid (KT.out.call hbs)
            clear hbs
            go_simp
            refine hK.out _ _ (fun _ => KS.out _ KT.out.b) ?_
            clear hK K
            try simp only [Act.put, List.setIfInBounds_toArray, List.set_cons_zero, List.set_cons_succ]
            refine wpLate_one (i := 16) (o := ?on75_16) (by kernel_rfl) ?hon75_16 ?hkn75_16
            case hon75_16 => (simp only [List.getElem?_toArray, List.getElem?_cons_zero, List.getElem?_cons_succ]; rfl)
            intro K hK
            go_simp
            replace KT := Lib.hid (KT.out.al1)
            refine hK.out _ _ (fun _ => KS.out _ KT.out.b) ?_
            clear hK K
            obtain ⟨Da, hDn⟩ : ∃ D, D = (World.heap w174).size := ⟨_, rfl⟩
            rw [← hDn] at KT ⊢
            clear hDn
            generalize World.alloc w174 (.cells z5 48) = w176 at KT ⊢
            try simp only [Act.put, List.setIfInBounds_toArray, List.set_cons_zero, List.set_cons_succ]
            replace KT := Lib.hid KT.out.fin
            have x0 : World.cell? w176 ⟨Da, 0, none⟩ = some (.int .i64 0) := KT.out.d1.2.cell 0
            have x1 : World.cell? w176 ⟨Da, 1, none⟩ = some (.int .i64 0) := KT.out.d1.2.cell 1
            have x2 : World.cell? w176 ⟨Da, 2, none⟩ = some (.int .i64 0) := KT.out.d1.2.cell 2
            have x3 : World.cell? w176 ⟨Da, 3, none⟩ = some (.int .i64 0) := KT.out.d1.2.cell 3
            have x4 : World.cell? w176 ⟨Da, 4, none⟩ = some (.int .i64 0) := KT.out.d1.2.cell 4
            have xf := KT.out.d1.2.frozen
            have xl := KT.out.d1.2.lt
            refine wpLate_one (i := 18) (o := ?of77_18) (by kernel_rfl) ?hof77_18 ?hkf77_18
            case hof77_18 => (simp only [List.getElem?_toArray, List.getElem?_cons_zero, List.getElem?_cons_succ]; rfl)
            intro K hK
            go_simp
            replace KT := Lib.hid (KT.out.put1 X)
            refine hK.out _ _ (fun h => absurd h (by decide)) ?_
            clear hK K x0 x1 x2 x3 x4 xf xl
            refine (show wpLate _ _ _ _ _ _ _ _ _ (put5 w176 Da X) from ?_)
            generalize put5 w176 Da X = w178 at KT ⊢
            try simp only [Act.put, List.setIfInBounds_toArray, List.set_cons_zero, List.set_cons_succ]
            have x0 : World.cell? w178 ⟨Db, 0, none⟩ = some (.int .i64 0) := KT.out.d2.2.cell 0
            have x1 : World.cell? w178 ⟨Db, 1, none⟩ = some (.int .i64 0) := KT.out.d2.2.cell 1
            have x2 : World.cell? w178 ⟨Db, 2, none⟩ = some (.int .i64 0) := KT.out.d2.2.cell 2
            have x3 : World.cell? w178 ⟨Db, 3, none⟩ = some (.int .i64 0) := KT.out.d2.2.cell 3
            have x4 : World.cell? w178 ⟨Db, 4, none⟩ = some (.int .i64 0) := KT.out.d2.2.cell 4
            have xf := KT.out.d2.2.frozen
            have xl := KT.out.d2.2.lt
            refine wpLate_one (i := 19) (o := ?of77_19) (by kernel_rfl) ?hof77_19 ?hkf77_19
            case hof77_19 => (simp only [List.getElem?_toArray, List.getElem?_cons_zero, List.getElem?_cons_succ]; rfl)
            intro K hK
            go_simp
            replace KT := Lib.hid (KT.out.put2 Y)
            refine hK.out _ _ (fun h => absurd h (by decide)) ?_
            clear hK K x0 x1 x2 x3 x4 xf xl
            refine (show wpLate _ _ _ _ _ _ _ _ _ (put5 w178 Db Y) from ?_)
            generalize put5 w178 Db Y = w179 at KT ⊢
            try simp only [Act.put, List.setIfInBounds_toArray, List.set_cons_zero, List.set_cons_succ]
            refine wpLate_done (by kernel_rfl) ?_ _
            try simp only [Act.put, List.setIfInBounds_toArray, List.set_cons_zero, List.set_cons_succ]
            go_wp2_with fail
            go_meet
            exact ⟨_, _, rfl, rfl, KT⟩
          case hkn73_16 =>
            intro K hK
            go_simp
            replace KT := Lib.hid (KT.out.al1)
            refine hK.out _ _ (fun _ => KS.out _ KT.out.b) ?_
            clear hK K
            obtain ⟨Da, hDn⟩ : ∃ D, D = (World.heap w172).size := ⟨_, rfl⟩
            rw [← hDn] at KT ⊢
            clear hDn
            generalize World.alloc w172 (.cells z5 48) = w180 at KT ⊢
            try simp only [Act.put, List.setIfInBounds_toArray, List.set_cons_zero, List.set_cons_succ]
            refine wpLate_one (i := 15) (o := ?on81_15) (by kernel_rfl) ?hon81_15 ?hkn81_15
            case hon81_15 => (simp only [List.getElem?_toArray, List.getElem?_cons_zero, List.getElem?_cons_succ]; rfl)
            intro K hK
            go_simp
            refine (C41.out _ KT.out.b).mono ?_
            rintro r w182 ⟨rfl, hbs⟩
            replace KT := Lib.hid (KT.out.call hbs)
            clear hbs
            go_simp
            refine hK.out _ _ (fun _ => KS.out _ KT.out.b) ?_
            clear hK K
            try simp only [Act.put, List.setIfInBounds_toArray, List.set_cons_zero, List.set_cons_succ]
            replace KT := Lib.hid KT.out.fin
            have x0 : World.cell? w182 ⟨Da, 0, none⟩ = some (.int .i64 0) := KT.out.d1.2.cell 0
            have x1 : World.cell? w182 ⟨Da, 1, none⟩ = some (.int .i64 0) := KT.out.d1.2.cell 1
            have x2 : World.cell? w182 ⟨Da, 2, none⟩ = some (.int .i64 0) := KT.out.d1.2.cell 2
            have x3 : World.cell? w182 ⟨Da, 3, none⟩ = some (.int .i64 0) := KT.out.d1.2.cell 3
            have x4 : World.cell? w182 ⟨Da, 4, none⟩ = some (.int .i64 0) := KT.out.d1.2.cell 4
            have xf := KT.out.d1.2.frozen
            have xl := KT.out.d1.2.lt
            refine wpLate_one (i := 18) (o := ?of83_18) (by kernel_rfl) ?hof83_18 ?hkf83_18
            case hof83_18 => (simp only [List.getElem?_toArray, List.getElem?_cons_zero, List.getElem?_cons_succ]; rfl)
            intro K hK
            go_simp
            replace KT := Lib.hid (KT.out.put1 X)
            refine hK.out _ _ (fun h => absurd h (by decide)) ?_
            clear hK K x0 x1 x2 x3 x4 xf xl
            refine (show wpLate _ _ _ _ _ _ _ _ _ (put5 w182 Da X) from ?_)
            generalize put5 w182 Da X = w184 at KT ⊢
            try simp only [Act.put, List.setIfInBounds_toArray, List.set_cons_zero, List.set_cons_succ]
            have x0 : World.cell? w184 ⟨Db, 0, none⟩ = some (.int .i64 0) := KT.out.d2.2.cell 0
            have x1 : World.cell? w184 ⟨Db, 1, none⟩ = some (.int .i64 0) := KT.out.d2.2.cell 1
            have x2 : World.cell? w184 ⟨Db, 2, none⟩ = some (.int .i64 0) := KT.out.d2.2.cell 2
            have x3 : World.cell? w184 ⟨Db, 3, none⟩ = some (.int .i64 0) := KT.out.d2.2.cell 3
            have x4 : World.cell? w184 ⟨Db, 4, none⟩ = some (.int .i64 0) := KT.out.d2.2.cell 4
            have xf := KT.out.d2.2.frozen
            have xl := KT.out.d2.2.lt
            refine wpLate_one (i := 19) (o := ?of83_19) (by kernel_rfl) ?hof83_19 ?hkf83_19
            case hof83_19 => (simp only [List.getElem?_toArray, List.getElem?_cons_zero, List.getElem?_cons_succ]; rfl)
            intro K hK
            go_simp
            replace KT := Lib.hid (KT.out.put2 Y)
            refine hK.out _ _ (fun h => absurd h (by decide)) ?_
            clear hK K x0 x1 x2 x3 x4 xf xl
            refine (show wpLate _ _ _ _ _ _ _ _ _ (put5 w184 Db Y) from ?_)
            generalize put5 w184 Db Y = w185 at KT ⊢
            try simp only [Act.put, List.setIfInBounds_toArray, List.set_cons_zero, List.set_cons_succ]
            refine wpLate_done (by kernel_rfl) ?_ _
            try simp only [Act.put, List.setIfInBounds_toArray, List.set_cons_zero, List.set_cons_succ]
            go_wp2_with fail
            go_meet
            exact ⟨_, _, rfl, rfl, KT⟩
        case hkn71_16 =>
          intro K hK
          go_simp
          replace KT := Lib.hid (KT.out.al1)
          refine hK.out _ _ (fun _ => KS.out _ KT.out.b) ?_
          clear hK K
          obtain ⟨Da, hDn⟩ : ∃ D, D = (World.heap w170).size := ⟨_, rfl⟩
          rw [← hDn] at KT ⊢
          clear hDn
          generalize World.alloc w170 (.cells z5 48) = w186 at KT ⊢
          try simp only [Act.put, List.setIfInBounds_toArray, List.set_cons_zero, List.set_cons_succ]
          refine wpLate_one (i := 7) (o := ?on87_7) (by kernel_rfl) ?hon87_7 ?hkn87_7
          case hon87_7 => (simp only [List.getElem?_toArray, List.getElem?_cons_zero, List.getElem?_cons_succ]; rfl)
          intro K hK
          go_simp
          refine (C40.out _ KT.out.b).mono ?_
          rintro r w188 ⟨rfl, hbs⟩
          replace KT := Lib.hid (KT.out.call hbs)
          clear hbs
          go_simp
          refine hK.out _ _ (fun _ => KS.out _ KT.out.b) ?_
          clear hK K
          try simp only [Act.put, List.setIfInBounds_toArray, List.set_cons_zero, List.set_cons_succ]
          refine wpLate_one (i := 15) (o := ?on89_15) (by kernel_rfl) ?hon89_15 ?hkn89_15
          case hon89_15 => (simp only [List.getElem?_toArray, List.getElem?_cons_zero, List.getElem?_cons_succ]; rfl)
          intro K hK
          go_simp
          refine (C41.out _ KT.out.b).mono ?_
          rintro r w190 ⟨rfl, hbs⟩
          replace KT := Lib.hid (KT.out.call hbs)
          clear hbs
          go_simp
          refine hK.out _ _ (fun _ => KS.out _ KT.out.b) ?_
          clear hK K
          try simp only [Act.put, List.setIfInBounds_toArray, List.set_cons_zero, List.set_cons_succ]
          replace KT := Lib.hid KT.out.fin
          have x0 : World.cell? w190 ⟨Da, 0, none⟩ = some (.int .i64 0) := KT.out.d1.2.cell 0
          have x1 : World.cell? w190 ⟨Da, 1, none⟩ = some (.int .i64 0) := KT.out.d1.2.cell 1
          have x2 : World.cell? w190 ⟨Da, 2, none⟩ = some (.int .i64 0) := KT.out.d1.2.cell 2
          have x3 : World.cell? w190 ⟨Da, 3, none⟩ = some (.int .i64 0) := KT.out.d1.2.cell 3
          have x4 : World.cell? w190 ⟨Da, 4, none⟩ = some (.int .i64 0) := KT.out.d1.2.cell 4
          have xf := KT.out.d1.2.frozen
          have xl := KT.out.d1.2.lt
          refine wpLate_one (i := 18) (o := ?of91_18) (by kernel_rfl) ?hof91_18 ?hkf91_18
          case hof91_18 => (simp only [List.getElem?_toArray, List.getElem?_cons_zero, List.getElem?_cons_succ]; rfl)
          intro K hK
          go_simp
          replace KT := Lib.hid (KT.out.put1 X)
          refine hK.out _ _ (fun h => absurd h (by decide)) ?_
          clear hK K x0 x1 x2 x3 x4 xf xl
          refine (show wpLate _ _ _ _ _ _ _ _ _ (put5 w190 Da X) from ?_)
          generalize put5 w190 Da X = w192 at KT ⊢
          try simp only [Act.put, List.setIfInBounds_toArray, List.set_cons_zero, List.set_cons_succ]
          have x0 : World.cell? w192 ⟨Db, 0, none⟩ = some (.int .i64 0) := KT.out.d2.2.cell 0
          have x1 : World.cell? w192 ⟨Db, 1, none⟩ = some (.int .i64 0) := KT.out.d2.2.cell 1
          have x2 : World.cell? w192 ⟨Db, 2, none⟩ = some (.int .i64 0) := KT.out.d2.2.cell 2
          have x3 : World.cell? w192 ⟨Db, 3, none⟩ = some (.int .i64 0) := KT.out.d2.2.cell 3
          have x4 : World.cell? w192 ⟨Db, 4, none⟩ = some (.int .i64 0) := KT.out.d2.2.cell 4
          have xf := KT.out.d2.2.frozen
          have xl := KT.out.d2.2.lt
          refine wpLate_one (i := 19) (o := ?of91_19) (by kernel_rfl) ?hof91_19 ?hkf91_19
          case hof91_19 => (simp only [List.getElem?_toArray, List.getElem?_cons_zero, List.getElem?_cons_succ]; rfl)
          intro K hK
          go_simp
          replace KT := Lib.hid (KT.out.put2 Y)
          refine hK.out _ _ (fun h => absurd h (by decide)) ?_
          clear hK K x0 x1 x2 x3 x4 xf xl
          refine (show wpLate _ _ _ _ _ _ _ _ _ (put5 w192 Db Y) from ?_)
          generalize put5 w192 Db Y = w193 at KT ⊢
          try simp only [Act.put, List.setIfInBounds_toArray, List.set_cons_zero, List.set_cons_succ]
          refine wpLate_done (by kernel_rfl) ?_ _
          try simp only [Act.put, List.setIfInBounds_toArray, List.set_cons_zero, List.set_cons_succ]
          go_wp2_with fail
          go_meet
          exact ⟨_, _, rfl, rfl, KT⟩
    obtain ⟨D1, D2, rfl, rfl, HT⟩ := hcut
    rename World => wx
    have HNE := Lib.hid (show D1 ≠ W.heap.size + 1 ∧ D2 ≠ W.heap.size + 1 from ⟨by have := HT.out.d1.1; have := HW.out.v.fw.lt; omega, by have := HT.out.d2.1; have := HW.out.v.fw.lt; omega⟩)
    have HW2 := Lib.hid (HW.out.step HT.out.b)
    have HCOLD : Hid (wx.cell? ⟨g, o + k * 8, none⟩ = some (.int .i64 s.cold)) := (HT.out.b.cell (p := ⟨g, o + k * 8, none⟩) HGW.out.2).trans HC0.out
    have hgW := HGW.out.1
    have e1 : IntKind.i64.wrap (ho * lim) = ho * lim := by
      have := prod_bd (x := ho) (y := lim) (m := 274877906944) (n := 1000) (by omega) (by omega)
      exact IntWalk.i64_in _ (by omega)
    have d0 : wx.cell? ⟨D1, 0, none⟩ = some (.int .i64 X.w) := HT.out.d1.2.cell 0
    have d1 : wx.cell? ⟨D2, 0, none⟩ = some (.int .i64 Y.w) := HT.out.d2.2.cell 0
    have l0 : wx.cell? ⟨W.heap.size + 1, 0, none⟩ = some (.int .i64 lw) := HW2.out.v.fw.cell 0
    have l1 : wx.cell? ⟨W.heap.size + 1, 1, none⟩ = some (.int .i64 hw) := HW2.out.v.fw.cell 1
    have lf := HW2.out.v.fw.frozen
    have ll := HW2.out.v.fw.lt
    go_upto_region 11 with fail
    have KU : Hid (UD W ((wx.setCell ⟨W.heap.size + 1, 0, none⟩ (.int .i64 X.w)).setCell ⟨W.heap.size + 1, 1, none⟩ (.int .i64 Y.w)).drew D a A B ca cb X.w Y.w p q ∧ ((wx.setCell ⟨W.heap.size + 1, 0, none⟩ (.int .i64 X.w)).setCell ⟨W.heap.size + 1, 1, none⟩ (.int .i64 Y.w)).drew.cell? ⟨g, o + k * 8, none⟩ = some (.int .i64 s.cold)) :=
      ⟨(HW2.out.setW X.w Y.w).drew, ((Below.cell ((Below.refl (W.heap.size) _).setCell (p := ⟨W.heap.size + 1, 1, none⟩) (by simp) _) (p := ⟨g, o + k * 8, none⟩) HGW.out.1).trans ((Below.cell ((Below.refl (W.heap.size) _).setCell (p := ⟨W.heap.size + 1, 0, none⟩) (by simp) _) (p := ⟨g, o + k * 8, none⟩) HGW.out.1).trans HCOLD.out))⟩
    clear d0 d1 l0 l1 lf ll
    generalize (wx.setCell ⟨W.heap.size + 1, 0, none⟩ (.int .i64 X.w)).setCell ⟨W.heap.size + 1, 1, none⟩ (.int .i64 Y.w) = w9 at KU ⊢
    clear HT HW2 HW KS C40 C41 HNE HCOLD
    refine wp_region_late (fun w' : World => w'.cell? ⟨W.heap.size, 0, none⟩ = some (.int .i64 a.R) ∧ w'.cell? ⟨W.heap.size, 1, none⟩ = some (.slice A a.T.length ca) ∧ w'.cell? ⟨W.heap.size, 2, none⟩ = some (.slice B a.H.length cb) ∧ w'.cell? ⟨W.heap.size, 3, none⟩ = some (.int .i64 a.b0) ∧ w'.cell? ⟨W.heap.size, 4, none⟩ = some (.int .i64 a.b1) ∧ w'.cell? ⟨g, o + k * 8, none⟩ = some (.int .i64 s.cold)) [] (by kernel_rfl) ?_
    generalize w9.drew = wd at KU ⊢
    refine wpLate_take (i := 0) (oi := ?oi0r11) (v := ?v0r11) [6, 8, 9] ?hi0r11 (by kernel_rfl) (by kernel_rfl) (by kernel_rfl) (by kernel_rfl) (by kernel_rfl) ?hQ0r11 (Or.inl ⟨?hw0r11, ?hy0r11⟩) (⟨KU.out.1.v.b.fa.cell 0, KU.out.1.v.b.fa.cell 1, KU.out.1.v.b.fa.cell 2, KU.out.1.v.b.fa.cell 3, KU.out.1.v.b.fa.cell 4, KU.out.2⟩) ?rest0r11
    case hi0r11 => (simp only [List.getElem?_toArray, List.getElem?_cons_zero]; rfl)
    case hQ0r11 => exact fun _ _ _ h => h
    case hw0r11 => rfl
    case hy0r11 =>
      intro w' hSw
      obtain ⟨r0, r1, r2, r3, r4, r5⟩ := hSw
      go_simp
      try exact rfl
    try simp only [Act.put, List.setIfInBounds_toArray, List.set_cons_zero, List.set_cons_succ]
    refine wpLate_take (i := 1) (oi := ?oi1r11) (v := ?v1r11) [3, 4, 5, 6, 8, 9] ?hi1r11 (by kernel_rfl) (by kernel_rfl) (by kernel_rfl) (by kernel_rfl) (by kernel_rfl) ?hQ1r11 (Or.inl ⟨?hw1r11, ?hy1r11⟩) (⟨KU.out.1.v.b.fa.cell 0, KU.out.1.v.b.fa.cell 1, KU.out.1.v.b.fa.cell 2, KU.out.1.v.b.fa.cell 3, KU.out.1.v.b.fa.cell 4, KU.out.2⟩) ?rest1r11
    case hi1r11 => (simp only [List.getElem?_toArray, List.getElem?_cons_zero, List.getElem?_cons_succ]; rfl)
    case hQ1r11 => exact fun _ _ _ h => h
    case hw1r11 => rfl
    case hy1r11 =>
      intro w' hSw
      obtain ⟨r0, r1, r2, r3, r4, r5⟩ := hSw
      go_simp
      try exact rfl
    try simp only [Act.put, List.setIfInBounds_toArray, List.set_cons_zero, List.set_cons_succ]
    refine wpLate_take (i := 2) (oi := ?oi2r11) (v := ?v2r11) [3, 4, 5, 6, 8, 9] ?hi2r11 (by kernel_rfl) (by kernel_rfl) (by kernel_rfl) (by kernel_rfl) (by kernel_rfl) ?hQ2r11 (Or.inl ⟨?hw2r11, ?hy2r11⟩) (⟨KU.out.1.v.b.fa.cell 0, KU.out.1.v.b.fa.cell 1, KU.out.1.v.b.fa.cell 2, KU.out.1.v.b.fa.cell 3, KU.out.1.v.b.fa.cell 4, KU.out.2⟩) ?rest2r11
    case hi2r11 => (simp only [List.getElem?_toArray, List.getElem?_cons_zero, List.getElem?_cons_succ]; rfl)
    case hQ2r11 => exact fun _ _ _ h => h
    case hw2r11 => rfl
    case hy2r11 =>
      intro w' hSw
      obtain ⟨r0, r1, r2, r3, r4, r5⟩ := hSw
      go_simp
      try exact rfl
    try simp only [Act.put, List.setIfInBounds_toArray, List.set_cons_zero, List.set_cons_succ]
    refine wpLate_take (i := 3) (oi := ?oi3r11) (v := ?v3r11) [4, 5, 6, 8, 9] ?hi3r11 (by kernel_rfl) (by kernel_rfl) (by kernel_rfl) (by kernel_rfl) (by kernel_rfl) ?hQ3r11 (Or.inl ⟨?hw3r11, ?hy3r11⟩) (⟨KU.out.1.v.b.fa.cell 0, KU.out.1.v.b.fa.cell 1, KU.out.1.v.b.fa.cell 2, KU.out.1.v.b.fa.cell 3, KU.out.1.v.b.fa.cell 4, KU.out.2⟩) ?rest3r11
    case hi3r11 => (simp only [List.getElem?_toArray, List.getElem?_cons_zero, List.getElem?_cons_succ]; rfl)
    case hQ3r11 => exact fun _ _ _ h => h
    case hw3r11 => rfl
    case hy3r11 =>
      intro w' hSw
      obtain ⟨r0, r1, r2, r3, r4, r5⟩ := hSw
      go_simp
      try exact rfl
    try simp only [Act.put, List.setIfInBounds_toArray, List.set_cons_zero, List.set_cons_succ]
    refine wpLate_take (i := 4) (oi := ?oi4r11) (v := ?v4r11) [5, 6, 8, 9] ?hi4r11 (by kernel_rfl) (by kernel_rfl) (by kernel_rfl) (by kernel_rfl) (by kernel_rfl) ?hQ4r11 (Or.inl ⟨?hw4r11, ?hy4r11⟩) (⟨KU.out.1.v.b.fa.cell 0, KU.out.1.v.b.fa.cell 1, KU.out.1.v.b.fa.cell 2, KU.out.1.v.b.fa.cell 3, KU.out.1.v.b.fa.cell 4, KU.out.2⟩) ?rest4r11
    case hi4r11 => (simp only [List.getElem?_toArray, List.getElem?_cons_zero, List.getElem?_cons_succ]; rfl)
    case hQ4r11 => exact fun _ _ _ h => h
    case hw4r11 => rfl
    case hy4r11 =>
      intro w' hSw
      obtain ⟨r0, r1, r2, r3, r4, r5⟩ := hSw
      go_simp
      try exact rfl
    try simp only [Act.put, List.setIfInBounds_toArray, List.set_cons_zero, List.set_cons_succ]
    refine wpLate_take (i := 5) (oi := ?oi5r11) (v := ?v5r11) [6, 8, 9] ?hi5r11 (by kernel_rfl) (by kernel_rfl) (by kernel_rfl) (by kernel_rfl) (by kernel_rfl) ?hQ5r11 (Or.inl ⟨?hw5r11, ?hy5r11⟩) (⟨KU.out.1.v.b.fa.cell 0, KU.out.1.v.b.fa.cell 1, KU.out.1.v.b.fa.cell 2, KU.out.1.v.b.fa.cell 3, KU.out.1.v.b.fa.cell 4, KU.out.2⟩) ?rest5r11
    case hi5r11 => (simp only [List.getElem?_toArray, List.getElem?_cons_zero, List.getElem?_cons_succ]; rfl)
    case hQ5r11 => exact fun _ _ _ h => h
    case hw5r11 => rfl
    case hy5r11 =>
      intro w' hSw
      obtain ⟨r0, r1, r2, r3, r4, r5⟩ := hSw
      go_simp
      try exact rfl
    try simp only [Act.put, List.setIfInBounds_toArray, List.set_cons_zero, List.set_cons_succ]
    refine wpLate_take (i := 7) (oi := ?oi7r11) (v := ?v7r11) [8, 9] ?hi7r11 (by kernel_rfl) (by kernel_rfl) (by kernel_rfl) (by kernel_rfl) (by kernel_rfl) ?hQ7r11 (Or.inl ⟨?hw7r11, ?hy7r11⟩) (⟨KU.out.1.v.b.fa.cell 0, KU.out.1.v.b.fa.cell 1, KU.out.1.v.b.fa.cell 2, KU.out.1.v.b.fa.cell 3, KU.out.1.v.b.fa.cell 4, KU.out.2⟩) ?rest7r11
    case hi7r11 => (simp only [List.getElem?_toArray, List.getElem?_cons_zero, List.getElem?_cons_succ]; rfl)
    case hQ7r11 => exact fun _ _ _ h => h
    case hw7r11 => rfl
    case hy7r11 =>
      intro w' hSw
      obtain ⟨r0, r1, r2, r3, r4, r5⟩ := hSw
      go_simp
      try exact rfl
    try simp only [Act.put, List.setIfInBounds_toArray, List.set_cons_zero, List.set_cons_succ]
    refine wpLate_one (i := 6) (o := ?o6r11) (by kernel_rfl) ?ho6r11 ?hk6r11
    case ho6r11 => (simp only [List.getElem?_toArray, List.getElem?_cons_zero, List.getElem?_cons_succ]; rfl)
    intro K hK
    go_simp
    refine (HH.out _ (HA.out.1.step KU.out.1.v.b.b)).mono ?_
    rintro r wh ⟨rfl, hbs⟩
    replace KU : Hid (UD W wh D a A B ca cb X.w Y.w p q ∧ wh.cell? ⟨g, o + k * 8, none⟩ = some (.int .i64 s.cold)) := ⟨KU.out.1.step hbs, (hbs.cell (p := ⟨g, _, none⟩) (by simp only; have := KU.out.1.v.b.b.size; omega)).trans KU.out.2⟩
    clear hbs
    go_simp
    refine hK.out _ _ (fun h => ⟨KU.out.1.v.b.fa.cell 0, KU.out.1.v.b.fa.cell 1, KU.out.1.v.b.fa.cell 2, KU.out.1.v.b.fa.cell 3, KU.out.1.v.b.fa.cell 4, KU.out.2⟩) ?_
    clear hK K
    try simp only [Act.put, List.setIfInBounds_toArray, List.set_cons_zero, List.set_cons_succ]
    refine wpLate_one (i := 8) (o := ?o8r11) (by kernel_rfl) ?ho8r11 ?hk8r11
    case ho8r11 => (simp only [List.getElem?_toArray, List.getElem?_cons_zero, List.getElem?_cons_succ]; rfl)
    intro K hK
    go_simp
    refine hK.out _ _ (fun h => ⟨KU.out.1.v.b.fa.cell 0, KU.out.1.v.b.fa.cell 1, KU.out.1.v.b.fa.cell 2, KU.out.1.v.b.fa.cell 3, KU.out.1.v.b.fa.cell 4, KU.out.2⟩) ?_
    clear hK K
    try simp only [Act.put, List.setIfInBounds_toArray, List.set_cons_zero, List.set_cons_succ]
    refine wpLate_one (i := 9) (o := ?o9r11) (by kernel_rfl) ?ho9r11 ?hk9r11
    case ho9r11 => (simp only [List.getElem?_toArray, List.getElem?_cons_zero, List.getElem?_cons_succ]; rfl)
    intro K hK
    go_simp
    refine hK.out _ _ (fun h => ⟨KU.out.1.v.b.fa.cell 0, KU.out.1.v.b.fa.cell 1, KU.out.1.v.b.fa.cell 2, KU.out.1.v.b.fa.cell 3, KU.out.1.v.b.fa.cell 4, KU.out.2⟩) ?_
    clear hK K
    try simp only [Act.put, List.setIfInBounds_toArray, List.set_cons_zero, List.set_cons_succ]
    refine wpLate_done (by kernel_rfl) ?_ _
    try simp only [Act.put, List.setIfInBounds_toArray, List.set_cons_zero, List.set_cons_succ]

    have KV := Lib.hid KU.out.1
    clear KU
    have l0 : wh.cell? ⟨W.heap.size + 1, 0, none⟩ = some (.int .i64 X.w) := KV.out.v.fw.cell 0
    have l1 : wh.cell? ⟨W.heap.size + 1, 1, none⟩ = some (.int .i64 Y.w) := KV.out.v.fw.cell 1
    have u0 : wh.cell? ⟨D, 0, none⟩ = some (.int .i64 p) := KV.out.fo.cell 0
    have u1 : wh.cell? ⟨D, 1, none⟩ = some (.int .i64 q) := KV.out.fo.cell 1
    have uf := KV.out.fo.frozen
    have ul := KV.out.fo.lt
    have hk200' : (k : Int) ≤ 200 := by omega
    by_cases hx : ho * lim < X.w * 1000 <;> by_cases hy : ho * lim < Y.w * 1000
    · have HE := Lib.hid (show rustL lo lim (msOf a L) (k + 1) = p + 1 ∧ rustH hi lim (msOf a L) (k + 1) = q + 1 from ⟨by rw [HN.out.1.1]; unfold wetB; rw [Int.mul_comm lim ho, decide_eq_true hx]; simp [bit], by rw [HN.out.1.2]; unfold wetB; rw [Int.mul_comm lim ho, decide_eq_true hy]; simp [bit]⟩)
      have u1' : (wh.setCell ⟨D, 0, none⟩ (.int .i64 (p + 1))).cell? ⟨D, 1, none⟩ = some (.int .i64 q) := (KV.out.set0 (p + 1)).fo.cell 1
      have uf' := (KV.out.set0 (p + 1)).fo.frozen
      have ul' := (KV.out.set0 (p + 1)).fo.lt
      have KW := Lib.hid ((KV.out.set0 (p + 1)).set1 (q + 1))
      go_wp2_with fail
      clear u0 u1 uf ul l0 l1 u1' uf' ul'
      generalize ((wh.setCell ⟨D, 0, none⟩ (.int .i64 (p + 1))).setCell ⟨D, 1, none⟩ (.int .i64 (q + 1))) = wn at KW ⊢
      go_roundg (L.length - (k + 1))
      case measure => omega
      case rel => exact ⟨k + 1, by omega, Nat.le_refl _, by go_num, by rw [HN.out.2.1, HN.out.2.2, HE.out.1, HE.out.2]; exact KW⟩
    · have HE := Lib.hid (show rustL lo lim (msOf a L) (k + 1) = p + 1 ∧ rustH hi lim (msOf a L) (k + 1) = q from ⟨by rw [HN.out.1.1]; unfold wetB; rw [Int.mul_comm lim ho, decide_eq_true hx]; simp [bit], by rw [HN.out.1.2]; unfold wetB; rw [Int.mul_comm lim ho, decide_eq_false hy]; simp [bit]⟩)
      have KW := Lib.hid (KV.out.set0 (p + 1))
      go_wp2_with fail
      clear u0 u1 uf ul l0 l1
      generalize (wh.setCell ⟨D, 0, none⟩ (.int .i64 (p + 1))) = wn at KW ⊢
      go_roundg (L.length - (k + 1))
      case measure => omega
      case rel => exact ⟨k + 1, by omega, Nat.le_refl _, by go_num, by rw [HN.out.2.1, HN.out.2.2, HE.out.1, HE.out.2]; exact KW⟩
    · have HE := Lib.hid (show rustL lo lim (msOf a L) (k + 1) = p ∧ rustH hi lim (msOf a L) (k + 1) = q + 1 from ⟨by rw [HN.out.1.1]; unfold wetB; rw [Int.mul_comm lim ho, decide_eq_false hx]; simp [bit], by rw [HN.out.1.2]; unfold wetB; rw [Int.mul_comm lim ho, decide_eq_true hy]; simp [bit]⟩)
      have KW := Lib.hid (KV.out.set1 (q + 1))
      go_wp2_with fail
      clear u0 u1 uf ul l0 l1
      generalize (wh.setCell ⟨D, 1, none⟩ (.int .i64 (q + 1))) = wn at KW ⊢
      go_roundg (L.length - (k + 1))
      case measure => omega
      case rel => exact ⟨k + 1, by omega, Nat.le_refl _, by go_num, by rw [HN.out.2.1, HN.out.2.2, HE.out.1, HE.out.2]; exact KW⟩
    · have HE := Lib.hid (show rustL lo lim (msOf a L) (k + 1) = p ∧ rustH hi lim (msOf a L) (k + 1) = q from ⟨by rw [HN.out.1.1]; unfold wetB; rw [Int.mul_comm lim ho, decide_eq_false hx]; simp [bit], by rw [HN.out.1.2]; unfold wetB; rw [Int.mul_comm lim ho, decide_eq_false hy]; simp [bit]⟩)
      have KW := Lib.hid KV.out
      go_wp2_with fail
      go_roundg (L.length - (k + 1))
      case measure => omega
      case rel => exact ⟨k + 1, by omega, Nat.le_refl _, by go_num, by rw [HN.out.2.1, HN.out.2.2, HE.out.1, HE.out.2]; exact KW⟩
end Go.Proofs.Ytdmpkeaanaoeaaa
