/- The document's Fog. -/
import Derived.Test.YtdmpkeaanaoeaaaRfE
import Derived.Test.YtdmpkeaanaoeaaaLate
namespace Go.Proofs.Ytdmpkeaanaoeaaa
open Go.RowKit
section
variable {P : Program} {ops : Array Oper} {Q : Exit → Act → World → Prop} {md : Region.Mode} {S : World → Prop} {late : List Nat}
theorem wpLate_three {i j k : Nat} {o u v : Oper} {fuel : Nat} {listed : Array Bool} {a : Act} {w : World} (hr : Region.ready md ops listed = [i, j, k]) (ho : ops[i]? = some o) (hu : ops[j]? = some u) (hv : ops[k]? = some v)
    (h : ∀ K' : Act → World → Prop, Shut (∀ a w, (lateOff late listed i = true → S w) → wpLate P md ops Q S late fuel (listed.setIfInBounds i true) a w → K' a w) → if Region.wanted o (yielded ops a.tmps) = true then Oper.wp P o a w K' Q else K' (a.put o.dst undef) w)
    (g : ∀ K' : Act → World → Prop, Shut (∀ a w, (lateOff late listed j = true → S w) → wpLate P md ops Q S late fuel (listed.setIfInBounds j true) a w → K' a w) → if Region.wanted u (yielded ops a.tmps) = true then Oper.wp P u a w K' Q else K' (a.put u.dst undef) w)
    (f : ∀ K' : Act → World → Prop, Shut (∀ a w, (lateOff late listed k = true → S w) → wpLate P md ops Q S late fuel (listed.setIfInBounds k true) a w → K' a w) → if Region.wanted v (yielded ops a.tmps) = true then Oper.wp P v a w K' Q else K' (a.put v.dst undef) w) :
    wpLate P md ops Q S late (fuel + 1) listed a w :=
  ⟨fun h0 => absurd (hr ▸ h0) (by simp), fun m hm => by
    rw [hr] at hm
    rcases List.mem_cons.1 hm with rfl | hm
    · exact wpOp_step ho (fun K' hK => h K' (fun a w hS hW => hK a w ⟨hS, hW⟩))
    · rcases List.mem_cons.1 hm with rfl | hm
      · exact wpOp_step hu (fun K' hK => g K' (fun a w hS hW => hK a w ⟨hS, hW⟩))
      · obtain rfl := List.mem_singleton.1 hm
        exact wpOp_step hv (fun K' hK => f K' (fun a w hS hW => hK a w ⟨hS, hW⟩))⟩
end
/-- between the operations of 'x, y := ..': whichever blocks there are -/
structure TW (w0 w : World) (D1 D2 : Option Nat) : Prop where
  b : Below w0.heap.size w0 w
  d1 : ∀ x, D1 = some x → w0.heap.size ≤ x ∧ Has w x 48 z5
  d2 : ∀ x, D2 = some x → w0.heap.size ≤ x ∧ Has w x 48 z5
  ne : ∀ x y, D1 = some x → D2 = some y → x ≠ y
theorem TW.start (w : World) : TW w w.drew none none := ⟨⟨rfl, rfl, rfl, Nat.le_refl _, fun _ _ => rfl⟩, fun _ h => (by cases h), fun _ h => (by cases h), fun _ _ h => (by cases h)⟩
theorem TW.call {w0 w w' : World} {D1 D2 : Option Nat} (h : TW w0 w D1 D2) (hb : Below w.heap.size w w') : TW w0 w' D1 D2 :=
  ⟨h.b.trans (hb.mono h.b.size), fun x e => ⟨(h.d1 x e).1, (h.d1 x e).2.below hb (h.d1 x e).2.lt⟩, fun x e => ⟨(h.d2 x e).1, (h.d2 x e).2.below hb (h.d2 x e).2.lt⟩, h.ne⟩
theorem TW.al1 {w0 w : World} {D2 : Option Nat} (h : TW w0 w none D2) : TW w0 (w.alloc (.cells z5 48)) (some w.heap.size) D2 :=
  ⟨h.b.alloc h.b.size _, fun x e => by cases e; exact ⟨h.b.size, Has.new _ _ _⟩, fun x e => ⟨(h.d2 x e).1, (h.d2 x e).2.alloc _⟩, fun x y e f => by cases e; have := (h.d2 y f).2.lt; omega⟩
theorem TW.al2 {w0 w : World} {D1 : Option Nat} (h : TW w0 w D1 none) : TW w0 (w.alloc (.cells z5 48)) D1 (some w.heap.size) :=
  ⟨h.b.alloc h.b.size _, fun x e => ⟨(h.d1 x e).1, (h.d1 x e).2.alloc _⟩, fun x e => by cases e; exact ⟨h.b.size, Has.new _ _ _⟩, fun x y e f => by cases f; have := (h.d1 x e).2.lt; omega⟩
/-- behind it -/
structure TF (w0 w : World) (D1 D2 : Nat) (x y : Array Value) : Prop where
  b : Below w0.heap.size w0 w
  d1 : w0.heap.size ≤ D1 ∧ Has w D1 48 x
  d2 : w0.heap.size ≤ D2 ∧ Has w D2 48 y
  ne : D1 ≠ D2
theorem TW.fin {w0 w : World} {D1 D2 : Nat} (h : TW w0 w (some D1) (some D2)) : TF w0 w D1 D2 z5 z5 := ⟨h.b, h.d1 _ rfl, h.d2 _ rfl, h.ne _ _ rfl rfl⟩
theorem TF.set1 {w0 w : World} {D1 D2 : Nat} {x y : Array Value} (h : TF w0 w D1 D2 x y) (i : Nat) (v : Value) : TF w0 (w.setCell ⟨D1, i, none⟩ v) D1 D2 (x.setIfInBounds i v) y :=
  ⟨h.b.setCell h.d1.1 _, ⟨h.d1.1, h.d1.2.set i v⟩, ⟨h.d2.1, h.d2.2.far (fun e => h.ne e.symm) _⟩, h.ne⟩
theorem TF.set2 {w0 w : World} {D1 D2 : Nat} {x y : Array Value} (h : TF w0 w D1 D2 x y) (i : Nat) (v : Value) : TF w0 (w.setCell ⟨D2, i, none⟩ v) D1 D2 x (y.setIfInBounds i v) :=
  ⟨h.b.setCell h.d2.1 _, ⟨h.d1.1, h.d1.2.far h.ne _⟩, ⟨h.d2.1, h.d2.2.set i v⟩, h.ne⟩
def put5 (w : World) (D : Nat) (c : Co) : World := ((((w.setCell ⟨D, 0, none⟩ (.int .i64 c.w)).setCell ⟨D, 1, none⟩ (.int .i64 c.came)).setCell ⟨D, 2, none⟩ (.int .i64 c.out)).setCell ⟨D, 3, none⟩ (.int .i64 c.dried)).setCell ⟨D, 4, none⟩ (.int .i64 c.dew)
theorem TF.put1 {w0 w : World} {D1 D2 : Nat} {y : Array Value} (h : TF w0 w D1 D2 z5 y) (c : Co) : TF w0 (put5 w D1 c) D1 D2 (coc c) y := ((((h.set1 0 _).set1 1 _).set1 2 _).set1 3 _).set1 4 _
theorem TF.put2 {w0 w : World} {D1 D2 : Nat} {x : Array Value} (h : TF w0 w D1 D2 x z5) (c : Co) : TF w0 (put5 w D2 c) D1 D2 x (coc c) := ((((h.set2 0 _).set2 1 _).set2 2 _).set2 3 _).set2 4 _
theorem VB.setW {W w : World} {a : Air} {A B : Option Addr} {ca cb : Nat} {lo hi : Int} (h : VB W w a A B ca cb lo hi) (x y : Int) : VB W ((w.setCell ⟨W.heap.size + 1, 0, none⟩ (.int .i64 x)).setCell ⟨W.heap.size + 1, 1, none⟩ (.int .i64 y)) a A B ca cb x y :=
  ⟨⟨(h.b.b.setCell (by simp only; omega) _).setCell (by simp only; omega) _, (h.b.fa.far (by simp) _).far (by simp) _⟩, (h.fw.set 0 _).set 1 _⟩
theorem pass_one (c : Co) (m : Mo) (x : Int) : passP c m x = ⟨(passP (one c.w) m x).w, c.came + (passP (one c.w) m x).came, c.out + (passP (one c.w) m x).out, c.dried + (passP (one c.w) m x).dried, c.dew + (passP (one c.w) m x).dew⟩ := by
  unfold passP one; simp only [Int.zero_add]
theorem nxt_own {w : Int} {f : Mo → Int} {ms : List Mo} {k : Nat} (hk : k < ms.length) (hw : 0 ≤ w ∧ w ≤ 274877906944) (hl : ∀ m ∈ ms, GM m) (hf : ∀ m, GM m → 0 ≤ f m ∧ f m ≤ 274877906944) :
    fstI (fun i => decide (0 < (crs w f ms (i + 1)).dew)) (k + 1) = if fstI (fun i => decide (0 < (crs w f ms (i + 1)).dew)) k < 0 ∧ 0 < (passP (one (crs w f ms k).w) ms[k] (f ms[k])).dew then (k : Int) else fstI (fun i => decide (0 < (crs w f ms (i + 1)).dew)) k := by
  rw [fstI_step]
  by_cases h : fstI (fun i => decide (0 < (crs w f ms (i + 1)).dew)) k < 0
  · have h0 : (crs w f ms k).dew = 0 := by
      have hg := (crs_good hw hl hf k (by omega)).dew
      rcases Nat.eq_zero_or_pos k with h1 | h1
      · subst h1; rfl
      · have h2 := (fstI_neg k).1 h (k - 1) (by omega)
        rw [show k - 1 + 1 = k by omega] at h2
        have h3 := of_decide_eq_false h2
        omega
    have h4 : (crs w f ms (k + 1)).dew = (passP (one (crs w f ms k).w) ms[k] (f ms[k])).dew := by
      rw [crs_step hk, pass_one]
      show (crs w f ms k).dew + _ = _
      rw [h0, Int.zero_add]
    simp only [decide_eq_true_eq]
    rw [h4]
  · rw [if_neg (fun h' => h h'.1), if_neg (fun h' => h h'.1)]
set_option maxRecDepth 100000 in
set_option maxHeartbeats 4000000 in
theorem dFog_any (a : Air) (A B : Option Addr) (ca cb : Nat) (lo hi : Int) (L : List Stp) (AL : Option Addr) (cl : Nat) (W : World) (har : AR W W.heap.size a A B) (hr : SRow W W.heap.size AL L) (hL : L.length ≤ 9223372036854775807) :
    Calls Try.prog 16 #[airv a A B ca cb, .agg #[.int .i64 lo, .int .i64 hi], .slice AL L.length cl] W (TripPost (fogR a lo hi L) W) := by
  have HB := Lib.hid (box_vb W a A B ca cb lo hi)
  have HA := Lib.hid (And.intro har hr)
  have H1 := Lib.hid (fun w h1 h2 => Valid_any a A B ca cb lo hi L AL cl w h1 h2 hL)
  have C0 := Lib.hid (fun s w hv hs hw w1 h => least_any a A B ca cb s w w1 h hv hs hw)
  have C1 := Lib.hid (fun s w hv hs hw w1 h => greatest_any a A B ca cb s w w1 h hv hs hw)
  obtain ⟨R, hR⟩ : ∃ R, R = fogR a lo hi L := ⟨_, rfl⟩
  rw [← hR]
  have HRE := Lib.hid hR
  clear hR
  unfold airv at *
  clear har hr
  go_enter Try.func16, Try.ntmps16
  go_upto_region 1 with fail
  generalize ((W.alloc (.cells (airc a A B ca cb) 26)).alloc (.cells #[.int .i64 lo, .int .i64 hi] 24)) = w0 at HB ⊢
  have hcall := H1.out w0 (HA.out.1.step HB.out.b.b) ((HA.out.2.below HB.out.b.b).more HB.out.b.b.size)
  have a0 : w0.cell? ⟨W.heap.size, 0, none⟩ = some (.int .i64 a.R) := HB.out.b.fa.cell 0
  have a1 : w0.cell? ⟨W.heap.size, 1, none⟩ = some (.slice A a.T.length ca) := HB.out.b.fa.cell 1
  have a2 : w0.cell? ⟨W.heap.size, 2, none⟩ = some (.slice B a.H.length cb) := HB.out.b.fa.cell 2
  have a3 : w0.cell? ⟨W.heap.size, 3, none⟩ = some (.int .i64 a.b0) := HB.out.b.fa.cell 3
  have a4 : w0.cell? ⟨W.heap.size, 4, none⟩ = some (.int .i64 a.b1) := HB.out.b.fa.cell 4
  have l0 : w0.cell? ⟨W.heap.size + 1, 0, none⟩ = some (.int .i64 lo) := HB.out.fw.cell 0
  have l1 : w0.cell? ⟨W.heap.size + 1, 1, none⟩ = some (.int .i64 hi) := HB.out.fw.cell 1
  cases hg : insB a lo hi L <;> rw [hg] at hcall
  · have HX := Lib.hid (show R = (0, 0, 1) by rw [HRE.out]; unfold fogR; rw [if_neg (by rw [hg]; simp)])
    clear HRE hg
    go_wp2_with fail
    refine hcall.mono ?_
    rintro e w1 ⟨rfl, hb1⟩
    have X1 := Lib.hid (HB.out.step hb1)
    clear a0 a1 a2 a3 a4 l0 l1 hb1 hcall
    go_wp2_with fail
    refine bodyPost_ret (results_tmp3 rfl _ _ _) rfl ?_
    exact ⟨by rw [HX.out]; rfl, X1.out.b.b⟩
  have HG := Lib.hid ((insB_iff a lo hi L).1 hg)
  have HL := Lib.hid (And.intro (ins_gl hg) (msOf_len a L))
  have HK := Lib.hid hg
  clear hg
  go_wp2_with fail
  refine hcall.mono ?_
  rintro e w1 ⟨rfl, hb1⟩
  have X1 := Lib.hid (HB.out.step hb1)
  clear a0 a1 a2 a3 a4 l0 l1 hb1 hcall
  go_wp2_with fail
  go_loopg [9, 10, 11] L.length (fun gk si pi i wr => ∃ k : Nat, k ≤ L.length ∧ L.length - k ≤ gk ∧ i = .int .i64 k ∧ si = .int .i64 (fogS lo (msOf a L) k) ∧ pi = .int .i64 (fogP hi (msOf a L) k) ∧ Hid (VB W wr a A B ca cb (crs lo (·.c0) (msOf a L) k).w (crs hi (·.c1) (msOf a L) k).w))
  case atStart => exact ⟨0, Nat.zero_le _, Nat.le_refl _, rfl, rfl, rfl, X1⟩
  case round =>
    obtain ⟨k, hk, hgk, rfl, rfl, rfl, HW⟩ := hrel
    by_cases hlt : k < L.length
    rotate_left
    · have hge : ¬ (k : Int) < L.length := by omega
      have hke : k = L.length := by omega
      have HRX := Lib.hid (show R = if fogP hi (msOf a L) k < 0 then (0, 0, 4) else (fogS lo (msOf a L) k, fogP hi (msOf a L) k, 0) by rw [HRE.out, hke]; unfold fogR; rw [if_pos HK.out])
      obtain ⟨x, hx⟩ : ∃ x, x = fogS lo (msOf a L) k := ⟨_, rfl⟩
      obtain ⟨y, hy⟩ : ∃ y, y = fogP hi (msOf a L) k := ⟨_, rfl⟩
      rw [← hx, ← hy] at HRX ⊢
      clear hx hy hke
      by_cases hneg : y < 0
      · have HX := Lib.hid (show R = (0, 0, 4) by rw [HRX.out, if_pos hneg])
        go_wp2_with fail
        refine bodyPost_ret (results_tmp3 rfl _ _ _) rfl ?_
        exact ⟨by rw [HX.out]; rfl, HW.out.b.b⟩
      · have HX := Lib.hid (show R = (x, y, 0) by rw [HRX.out, if_neg hneg])
        go_wp2_with fail
        refine bodyPost_ret (results_tmp3 rfl _ _ _) rfl ?_
        exact ⟨by rw [HX.out]; rfl, HW.out.b.b⟩
    have hlt2 : (k : Int) < L.length := by omega
    obtain ⟨g, o, hg, hgs, hc⟩ := (HA.out.2.below HW.out.b.b) k hlt
    have hkm : k < (msOf a L).length := by rw [HL.out.2]; exact hlt
    have hmk : (msOf a L)[k] = moOf a L[k] := by simp [msOf]
    have hbl := crs_good (f := (·.c0)) HL.out.1.lo HL.out.1.g (fun m hm => by have := hm.c; omega) k (by omega)
    have hbh := crs_good (f := (·.c1)) HL.out.1.hi HL.out.1.g (fun m hm => by have := hm.c; omega) k (by omega)
    have hsl := nxt_own (f := (·.c0)) hkm HL.out.1.lo HL.out.1.g (fun m hm => by have := hm.c; omega)
    have hsh := nxt_own (f := (·.c1)) hkm HL.out.1.hi HL.out.1.g (fun m hm => by have := hm.c; omega)
    have hcl := crs_step (w := lo) (f := (·.c0)) hkm
    have hch := crs_step (w := hi) (f := (·.c1)) hkm
    rw [hmk] at hsl hsh hcl hch
    rw [pass_one] at hcl hch
    have hVS := HG.out.2.2.2 _ (List.getElem_mem hlt)
    have c40 := C0.out L[k] _ HG.out.1 hVS hbl.w
    have c41 := C1.out L[k] _ HG.out.1 hVS hbh.w
    change fogS lo (msOf a L) (k + 1) = _ at hsl
    change fogP hi (msOf a L) (k + 1) = _ at hsh
    change ∀ w1, _ → Calls Try.prog 40 _ w1 (FloPost (passP (one (crs lo (·.c0) (msOf a L) k).w) (moOf a L[k]) (moOf a L[k]).c0) w1) at c40
    change ∀ w1, _ → Calls Try.prog 41 _ w1 (FloPost (passP (one (crs hi (·.c1) (msOf a L) k).w) (moOf a L[k]) (moOf a L[k]).c1) w1) at c41
    change _ = if fogS lo (msOf a L) k < 0 ∧ 0 < (passP (one (crs lo (·.c0) (msOf a L) k).w) (moOf a L[k]) (moOf a L[k]).c0).dew then _ else fogS lo (msOf a L) k at hsl
    change _ = if fogP hi (msOf a L) k < 0 ∧ 0 < (passP (one (crs hi (·.c1) (msOf a L) k).w) (moOf a L[k]) (moOf a L[k]).c1).dew then _ else fogP hi (msOf a L) k at hsh
    obtain ⟨X, hX⟩ : ∃ X, X = passP (one (crs lo (·.c0) (msOf a L) k).w) (moOf a L[k]) (moOf a L[k]).c0 := ⟨_, rfl⟩
    obtain ⟨Y, hY⟩ : ∃ Y, Y = passP (one (crs hi (·.c1) (msOf a L) k).w) (moOf a L[k]) (moOf a L[k]).c1 := ⟨_, rfl⟩
    rw [← hX] at c40 hsl hcl
    rw [← hY] at c41 hsh hch
    clear hX hY
    have HN := Lib.hid (And.intro (And.intro hsl hsh) (And.intro (congrArg Co.w hcl) (congrArg Co.w hch)))
    obtain ⟨lw, hlw⟩ : ∃ x, x = (crs lo (·.c0) (msOf a L) k).w := ⟨_, rfl⟩
    obtain ⟨hw, hhw⟩ : ∃ x, x = (crs hi (·.c1) (msOf a L) k).w := ⟨_, rfl⟩
    rw [← hlw] at c40 HW
    rw [← hhw] at c41 HW
    obtain ⟨s, hs⟩ : ∃ s, s = L[k] := ⟨_, rfl⟩
    rw [← hs] at hc c40 c41
    clear hs hlw hhw hsl hsh hcl hch hbl hbh hVS hkm hmk
    have C40 := Lib.hid (fun w (hb : Below wr.heap.size wr w) => c40 w (HA.out.1.step (HW.out.step hb).b.b))
    have C41 := Lib.hid (fun w (hb : Below wr.heap.size wr w) => c41 w (HA.out.1.step (HW.out.step hb).b.b))
    have hgw : g < wr.heap.size := by have := HW.out.b.b.size; omega
    have KS : Hid (∀ w', Below wr.heap.size wr w' → w'.cell? ⟨W.heap.size, 0, none⟩ = some (.int .i64 a.R) ∧ w'.cell? ⟨W.heap.size, 1, none⟩ = some (.slice A a.T.length ca) ∧ w'.cell? ⟨W.heap.size, 2, none⟩ = some (.slice B a.H.length cb) ∧ w'.cell? ⟨W.heap.size, 3, none⟩ = some (.int .i64 a.b0) ∧ w'.cell? ⟨W.heap.size, 4, none⟩ = some (.int .i64 a.b1) ∧ w'.cell? ⟨W.heap.size + 1, 0, none⟩ = some (.int .i64 lw) ∧ w'.cell? ⟨W.heap.size + 1, 1, none⟩ = some (.int .i64 hw) ∧ w'.cell? ⟨g, o + k * 8, none⟩ = some (.int .i64 s.cold) ∧ w'.cell? ⟨g, o + k * 8 + 1, none⟩ = some (.int .i64 s.ppl) ∧ w'.cell? ⟨g, o + k * 8 + 2, none⟩ = some (.int .i64 s.chg) ∧ w'.cell? ⟨g, o + k * 8 + 3, none⟩ = some (.int .i64 s.o0) ∧ w'.cell? ⟨g, o + k * 8 + 4, none⟩ = some (.int .i64 s.o1) ∧ w'.cell? ⟨g, o + k * 8 + 5, none⟩ = some (.int .i64 s.s0) ∧ w'.cell? ⟨g, o + k * 8 + 6, none⟩ = some (.int .i64 s.s1) ∧ w'.cell? ⟨g, o + k * 8 + 7, none⟩ = some (.int .i64 s.dry)) := Lib.hid (fun w' hb => ⟨(HW.out.step hb).b.fa.cell 0, (HW.out.step hb).b.fa.cell 1, (HW.out.step hb).b.fa.cell 2, (HW.out.step hb).b.fa.cell 3, (HW.out.step hb).b.fa.cell 4, (HW.out.step hb).fw.cell 0, (HW.out.step hb).fw.cell 1, (hb.cell (p := ⟨g, _, none⟩) hgw).trans (hc 0 (by omega)), (hb.cell (p := ⟨g, _, none⟩) hgw).trans (hc 1 (by omega)), (hb.cell (p := ⟨g, _, none⟩) hgw).trans (hc 2 (by omega)), (hb.cell (p := ⟨g, _, none⟩) hgw).trans (hc 3 (by omega)), (hb.cell (p := ⟨g, _, none⟩) hgw).trans (hc 4 (by omega)), (hb.cell (p := ⟨g, _, none⟩) hgw).trans (hc 5 (by omega)), (hb.cell (p := ⟨g, _, none⟩) hgw).trans (hc 6 (by omega)), (hb.cell (p := ⟨g, _, none⟩) hgw).trans (hc 7 (by omega))⟩)
    subst hg
    clear hc hgs hgw c40 c41
    go_upto_region 7 with fail
    go_cut [12, 13] (fun u v wx => ∃ D1 D2, u = .pointer (some ⟨D1, 0, none⟩) ∧ v = .pointer (some ⟨D2, 0, none⟩) ∧ Hid (TF wr wx D1 D2 (coc X) (coc Y)))
    case first =>
      have KT := Lib.hid (TW.start wr)
      refine wp_region_late (fun w' : World => w'.cell? ⟨W.heap.size, 0, none⟩ = some (.int .i64 a.R) ∧ w'.cell? ⟨W.heap.size, 1, none⟩ = some (.slice A a.T.length ca) ∧ w'.cell? ⟨W.heap.size, 2, none⟩ = some (.slice B a.H.length cb) ∧ w'.cell? ⟨W.heap.size, 3, none⟩ = some (.int .i64 a.b0) ∧ w'.cell? ⟨W.heap.size, 4, none⟩ = some (.int .i64 a.b1) ∧ w'.cell? ⟨W.heap.size + 1, 0, none⟩ = some (.int .i64 lw) ∧ w'.cell? ⟨W.heap.size + 1, 1, none⟩ = some (.int .i64 hw) ∧ w'.cell? ⟨g, o + k * 8, none⟩ = some (.int .i64 s.cold) ∧ w'.cell? ⟨g, o + k * 8 + 1, none⟩ = some (.int .i64 s.ppl) ∧ w'.cell? ⟨g, o + k * 8 + 2, none⟩ = some (.int .i64 s.chg) ∧ w'.cell? ⟨g, o + k * 8 + 3, none⟩ = some (.int .i64 s.o0) ∧ w'.cell? ⟨g, o + k * 8 + 4, none⟩ = some (.int .i64 s.o1) ∧ w'.cell? ⟨g, o + k * 8 + 5, none⟩ = some (.int .i64 s.s0) ∧ w'.cell? ⟨g, o + k * 8 + 6, none⟩ = some (.int .i64 s.s1) ∧ w'.cell? ⟨g, o + k * 8 + 7, none⟩ = some (.int .i64 s.dry)) [18, 19] (by kernel_rfl) ?_
      generalize wr.drew = wd at KT ⊢
      refine wpLate_take (i := 0) (oi := ?oit0) (v := ?vt0) [7, 15, 18, 19] ?hit0 (by kernel_rfl) (by kernel_rfl) (by kernel_rfl) (by kernel_rfl) (by kernel_rfl) ?hQt0 (Or.inl ⟨?hwt0, ?hyt0⟩) (KS.out _ KT.out.b) ?restt0
      case hit0 => (simp only [List.getElem?_toArray, List.getElem?_cons_zero]; rfl)
      case hQt0 => exact fun _ _ _ h => h
      case hwt0 => rfl
      case hyt0 =>
        intro w' hSw
        obtain ⟨r0, r1, r2, r3, r4, r5, r6, r7, r8, r9, r10, r11, r12, r13, r14⟩ := hSw
        go_simp
        try exact rfl
      try simp only [Act.put, List.setIfInBounds_toArray, List.set_cons_zero, List.set_cons_succ]
      refine wpLate_take (i := 1) (oi := ?oit1) (v := ?vt1) [2, 7, 15, 18, 19] ?hit1 (by kernel_rfl) (by kernel_rfl) (by kernel_rfl) (by kernel_rfl) (by kernel_rfl) ?hQt1 (Or.inl ⟨?hwt1, ?hyt1⟩) (KS.out _ KT.out.b) ?restt1
      case hit1 => (simp only [List.getElem?_toArray, List.getElem?_cons_zero, List.getElem?_cons_succ]; rfl)
      case hQt1 => exact fun _ _ _ h => h
      case hwt1 => rfl
      case hyt1 =>
        intro w' hSw
        obtain ⟨r0, r1, r2, r3, r4, r5, r6, r7, r8, r9, r10, r11, r12, r13, r14⟩ := hSw
        go_simp
        try exact rfl
      try simp only [Act.put, List.setIfInBounds_toArray, List.set_cons_zero, List.set_cons_succ]
      refine wpLate_take (i := 2) (oi := ?oit2) (v := ?vt2) [7, 15, 18, 19] ?hit2 (by kernel_rfl) (by kernel_rfl) (by kernel_rfl) (by kernel_rfl) (by kernel_rfl) ?hQt2 (Or.inl ⟨?hwt2, ?hyt2⟩) (KS.out _ KT.out.b) ?restt2
      case hit2 => (simp only [List.getElem?_toArray, List.getElem?_cons_zero, List.getElem?_cons_succ]; rfl)
      case hQt2 => exact fun _ _ _ h => h
      case hwt2 => rfl
      case hyt2 =>
        intro w' hSw
        obtain ⟨r0, r1, r2, r3, r4, r5, r6, r7, r8, r9, r10, r11, r12, r13, r14⟩ := hSw
        go_simp
        try exact rfl
      try simp only [Act.put, List.setIfInBounds_toArray, List.set_cons_zero, List.set_cons_succ]
      refine wpLate_take (i := 3) (oi := ?oit3) (v := ?vt3) [5, 6, 7, 15, 18, 19] ?hit3 (by kernel_rfl) (by kernel_rfl) (by kernel_rfl) (by kernel_rfl) (by kernel_rfl) ?hQt3 (Or.inl ⟨?hwt3, ?hyt3⟩) (KS.out _ KT.out.b) ?restt3
      case hit3 => (simp only [List.getElem?_toArray, List.getElem?_cons_zero, List.getElem?_cons_succ]; rfl)
      case hQt3 => exact fun _ _ _ h => h
      case hwt3 => rfl
      case hyt3 =>
        intro w' hSw
        obtain ⟨r0, r1, r2, r3, r4, r5, r6, r7, r8, r9, r10, r11, r12, r13, r14⟩ := hSw
        go_simp
        try exact rfl
      try simp only [Act.put, List.setIfInBounds_toArray, List.set_cons_zero, List.set_cons_succ]
      refine wpLate_take (i := 4) (oi := ?oit4) (v := ?vt4) [5, 6, 7, 15, 18, 19] ?hit4 (by kernel_rfl) (by kernel_rfl) (by kernel_rfl) (by kernel_rfl) (by kernel_rfl) ?hQt4 (Or.inl ⟨?hwt4, ?hyt4⟩) (KS.out _ KT.out.b) ?restt4
      case hit4 => (simp only [List.getElem?_toArray, List.getElem?_cons_zero, List.getElem?_cons_succ]; rfl)
      case hQt4 => exact fun _ _ _ h => h
      case hwt4 => rfl
      case hyt4 =>
        intro w' hSw
        obtain ⟨r0, r1, r2, r3, r4, r5, r6, r7, r8, r9, r10, r11, r12, r13, r14⟩ := hSw
        go_simp
        try exact rfl
      try simp only [Act.put, List.setIfInBounds_toArray, List.set_cons_zero, List.set_cons_succ]
      refine wpLate_take (i := 5) (oi := ?oit5) (v := ?vt5) [6, 7, 15, 18, 19] ?hit5 (by kernel_rfl) (by kernel_rfl) (by kernel_rfl) (by kernel_rfl) (by kernel_rfl) ?hQt5 (Or.inl ⟨?hwt5, ?hyt5⟩) (KS.out _ KT.out.b) ?restt5
      case hit5 => (simp only [List.getElem?_toArray, List.getElem?_cons_zero, List.getElem?_cons_succ]; rfl)
      case hQt5 => exact fun _ _ _ h => h
      case hwt5 => rfl
      case hyt5 =>
        intro w' hSw
        obtain ⟨r0, r1, r2, r3, r4, r5, r6, r7, r8, r9, r10, r11, r12, r13, r14⟩ := hSw
        go_simp
        try exact rfl
      try simp only [Act.put, List.setIfInBounds_toArray, List.set_cons_zero, List.set_cons_succ]
      refine wpLate_take (i := 6) (oi := ?oit6) (v := ?vt6) [7, 15, 18, 19] ?hit6 (by kernel_rfl) (by kernel_rfl) (by kernel_rfl) (by kernel_rfl) (by kernel_rfl) ?hQt6 (Or.inl ⟨?hwt6, ?hyt6⟩) (KS.out _ KT.out.b) ?restt6
      case hit6 => (simp only [List.getElem?_toArray, List.getElem?_cons_zero, List.getElem?_cons_succ]; rfl)
      case hQt6 => exact fun _ _ _ h => h
      case hwt6 => rfl
      case hyt6 =>
        intro w' hSw
        obtain ⟨r0, r1, r2, r3, r4, r5, r6, r7, r8, r9, r10, r11, r12, r13, r14⟩ := hSw
        go_simp
        try exact rfl
      try simp only [Act.put, List.setIfInBounds_toArray, List.set_cons_zero, List.set_cons_succ]
      refine wpLate_take (i := 8) (oi := ?oit8) (v := ?vt8) [15, 18, 19] ?hit8 (by kernel_rfl) (by kernel_rfl) (by kernel_rfl) (by kernel_rfl) (by kernel_rfl) ?hQt8 (Or.inl ⟨?hwt8, ?hyt8⟩) (KS.out _ KT.out.b) ?restt8
      case hit8 => (simp only [List.getElem?_toArray, List.getElem?_cons_zero, List.getElem?_cons_succ]; rfl)
      case hQt8 => exact fun _ _ _ h => h
      case hwt8 => rfl
      case hyt8 =>
        intro w' hSw
        obtain ⟨r0, r1, r2, r3, r4, r5, r6, r7, r8, r9, r10, r11, r12, r13, r14⟩ := hSw
        go_simp
        try exact rfl
      try simp only [Act.put, List.setIfInBounds_toArray, List.set_cons_zero, List.set_cons_succ]
      refine wpLate_take (i := 9) (oi := ?oit9) (v := ?vt9) [10, 15, 18, 19] ?hit9 (by kernel_rfl) (by kernel_rfl) (by kernel_rfl) (by kernel_rfl) (by kernel_rfl) ?hQt9 (Or.inl ⟨?hwt9, ?hyt9⟩) (KS.out _ KT.out.b) ?restt9
      case hit9 => (simp only [List.getElem?_toArray, List.getElem?_cons_zero, List.getElem?_cons_succ]; rfl)
      case hQt9 => exact fun _ _ _ h => h
      case hwt9 => rfl
      case hyt9 =>
        intro w' hSw
        obtain ⟨r0, r1, r2, r3, r4, r5, r6, r7, r8, r9, r10, r11, r12, r13, r14⟩ := hSw
        go_simp
        try exact rfl
      try simp only [Act.put, List.setIfInBounds_toArray, List.set_cons_zero, List.set_cons_succ]
      refine wpLate_take (i := 10) (oi := ?oit10) (v := ?vt10) [15, 18, 19] ?hit10 (by kernel_rfl) (by kernel_rfl) (by kernel_rfl) (by kernel_rfl) (by kernel_rfl) ?hQt10 (Or.inl ⟨?hwt10, ?hyt10⟩) (KS.out _ KT.out.b) ?restt10
      case hit10 => (simp only [List.getElem?_toArray, List.getElem?_cons_zero, List.getElem?_cons_succ]; rfl)
      case hQt10 => exact fun _ _ _ h => h
      case hwt10 => rfl
      case hyt10 =>
        intro w' hSw
        obtain ⟨r0, r1, r2, r3, r4, r5, r6, r7, r8, r9, r10, r11, r12, r13, r14⟩ := hSw
        go_simp
        try exact rfl
      try simp only [Act.put, List.setIfInBounds_toArray, List.set_cons_zero, List.set_cons_succ]
      refine wpLate_take (i := 11) (oi := ?oit11) (v := ?vt11) [13, 14, 15, 18, 19] ?hit11 (by kernel_rfl) (by kernel_rfl) (by kernel_rfl) (by kernel_rfl) (by kernel_rfl) ?hQt11 (Or.inl ⟨?hwt11, ?hyt11⟩) (KS.out _ KT.out.b) ?restt11
      case hit11 => (simp only [List.getElem?_toArray, List.getElem?_cons_zero, List.getElem?_cons_succ]; rfl)
      case hQt11 => exact fun _ _ _ h => h
      case hwt11 => rfl
      case hyt11 =>
        intro w' hSw
        obtain ⟨r0, r1, r2, r3, r4, r5, r6, r7, r8, r9, r10, r11, r12, r13, r14⟩ := hSw
        go_simp
        try exact rfl
      try simp only [Act.put, List.setIfInBounds_toArray, List.set_cons_zero, List.set_cons_succ]
      refine wpLate_take (i := 12) (oi := ?oit12) (v := ?vt12) [13, 14, 15, 18, 19] ?hit12 (by kernel_rfl) (by kernel_rfl) (by kernel_rfl) (by kernel_rfl) (by kernel_rfl) ?hQt12 (Or.inl ⟨?hwt12, ?hyt12⟩) (KS.out _ KT.out.b) ?restt12
      case hit12 => (simp only [List.getElem?_toArray, List.getElem?_cons_zero, List.getElem?_cons_succ]; rfl)
      case hQt12 => exact fun _ _ _ h => h
      case hwt12 => rfl
      case hyt12 =>
        intro w' hSw
        obtain ⟨r0, r1, r2, r3, r4, r5, r6, r7, r8, r9, r10, r11, r12, r13, r14⟩ := hSw
        go_simp
        try exact rfl
      try simp only [Act.put, List.setIfInBounds_toArray, List.set_cons_zero, List.set_cons_succ]
      refine wpLate_take (i := 13) (oi := ?oit13) (v := ?vt13) [14, 15, 18, 19] ?hit13 (by kernel_rfl) (by kernel_rfl) (by kernel_rfl) (by kernel_rfl) (by kernel_rfl) ?hQt13 (Or.inl ⟨?hwt13, ?hyt13⟩) (KS.out _ KT.out.b) ?restt13
      case hit13 => (simp only [List.getElem?_toArray, List.getElem?_cons_zero, List.getElem?_cons_succ]; rfl)
      case hQt13 => exact fun _ _ _ h => h
      case hwt13 => rfl
      case hyt13 =>
        intro w' hSw
        obtain ⟨r0, r1, r2, r3, r4, r5, r6, r7, r8, r9, r10, r11, r12, r13, r14⟩ := hSw
        go_simp
        try exact rfl
      try simp only [Act.put, List.setIfInBounds_toArray, List.set_cons_zero, List.set_cons_succ]
      refine wpLate_take (i := 14) (oi := ?oit14) (v := ?vt14) [15, 18, 19] ?hit14 (by kernel_rfl) (by kernel_rfl) (by kernel_rfl) (by kernel_rfl) (by kernel_rfl) ?hQt14 (Or.inl ⟨?hwt14, ?hyt14⟩) (KS.out _ KT.out.b) ?restt14
      case hit14 => (simp only [List.getElem?_toArray, List.getElem?_cons_zero, List.getElem?_cons_succ]; rfl)
      case hQt14 => exact fun _ _ _ h => h
      case hwt14 => rfl
      case hyt14 =>
        intro w' hSw
        obtain ⟨r0, r1, r2, r3, r4, r5, r6, r7, r8, r9, r10, r11, r12, r13, r14⟩ := hSw
        go_simp
        try exact rfl
      try simp only [Act.put, List.setIfInBounds_toArray, List.set_cons_zero, List.set_cons_succ]
      refine wpLate_three (i := 7) (j := 16) (k := 17) (o := ?on1_7) (u := ?on1_16) (v := ?on1_17) (by kernel_rfl) ?hon1_7 ?hon1_16 ?hon1_17 ?hkn1_7 ?hkn1_16 ?hkn1_17
      case hon1_7 => (simp only [List.getElem?_toArray, List.getElem?_cons_zero, List.getElem?_cons_succ]; rfl)
      case hon1_16 => (simp only [List.getElem?_toArray, List.getElem?_cons_zero, List.getElem?_cons_succ]; rfl)
      case hon1_17 => (simp only [List.getElem?_toArray, List.getElem?_cons_zero, List.getElem?_cons_succ]; rfl)
      case hkn1_7 =>
        intro K hK
        go_simp
        refine (C40.out _ KT.out.b).mono ?_
        rintro r w102 ⟨rfl, hbs⟩
        replace KT := Lib.hid (KT.out.call hbs)
        clear hbs
        go_simp
        refine hK.out _ _ (fun _ => KS.out _ KT.out.b) ?_
        clear hK K
        try simp only [Act.put, List.setIfInBounds_toArray, List.set_cons_zero, List.set_cons_succ]
        refine wpLate_three (i := 15) (j := 16) (k := 17) (o := ?on3_15) (u := ?on3_16) (v := ?on3_17) (by kernel_rfl) ?hon3_15 ?hon3_16 ?hon3_17 ?hkn3_15 ?hkn3_16 ?hkn3_17
        case hon3_15 => (simp only [List.getElem?_toArray, List.getElem?_cons_zero, List.getElem?_cons_succ]; rfl)
        case hon3_16 => (simp only [List.getElem?_toArray, List.getElem?_cons_zero, List.getElem?_cons_succ]; rfl)
        case hon3_17 => (simp only [List.getElem?_toArray, List.getElem?_cons_zero, List.getElem?_cons_succ]; rfl)
        case hkn3_15 =>
          intro K hK
          go_simp
          refine (C41.out _ KT.out.b).mono ?_
          rintro r w104 ⟨rfl, hbs⟩
          replace KT := Lib.hid (KT.out.call hbs)
          clear hbs
          go_simp
          refine hK.out _ _ (fun _ => KS.out _ KT.out.b) ?_
          clear hK K
          try simp only [Act.put, List.setIfInBounds_toArray, List.set_cons_zero, List.set_cons_succ]
          refine wpLate_two (i := 16) (j := 17) (o := ?on5_16) (u := ?on5_17) (by kernel_rfl) ?hon5_16 ?hon5_17 ?hkn5_16 ?hkn5_17
          case hon5_16 => (simp only [List.getElem?_toArray, List.getElem?_cons_zero, List.getElem?_cons_succ]; rfl)
          case hon5_17 => (simp only [List.getElem?_toArray, List.getElem?_cons_zero, List.getElem?_cons_succ]; rfl)
          case hkn5_16 =>
            intro K hK
            go_simp
            replace KT := Lib.hid (KT.out.al1)
            refine hK.out _ _ (fun _ => KS.out _ KT.out.b) ?_
            clear hK K
            obtain ⟨Da, hDn⟩ : ∃ D, D = (World.heap w104).size := ⟨_, rfl⟩
            rw [← hDn] at KT ⊢
            clear hDn
            generalize World.alloc w104 (.cells z5 48) = w106 at KT ⊢
            try simp only [Act.put, List.setIfInBounds_toArray, List.set_cons_zero, List.set_cons_succ]
            refine wpLate_one (i := 17) (o := ?on7_17) (by kernel_rfl) ?hon7_17 ?hkn7_17
            case hon7_17 => (simp only [List.getElem?_toArray, List.getElem?_cons_zero, List.getElem?_cons_succ]; rfl)
            intro K hK
            go_simp
            replace KT := Lib.hid (KT.out.al2)
            refine hK.out _ _ (fun _ => KS.out _ KT.out.b) ?_
            clear hK K
            obtain ⟨Db, hDn⟩ : ∃ D, D = (World.heap w106).size := ⟨_, rfl⟩
            rw [← hDn] at KT ⊢
            clear hDn
            generalize World.alloc w106 (.cells z5 48) = w108 at KT ⊢
            try simp only [Act.put, List.setIfInBounds_toArray, List.set_cons_zero, List.set_cons_succ]
            replace KT := Lib.hid KT.out.fin
            have x0 : World.cell? w108 ⟨Da, 0, none⟩ = some (.int .i64 0) := KT.out.d1.2.cell 0
            have x1 : World.cell? w108 ⟨Da, 1, none⟩ = some (.int .i64 0) := KT.out.d1.2.cell 1
            have x2 : World.cell? w108 ⟨Da, 2, none⟩ = some (.int .i64 0) := KT.out.d1.2.cell 2
            have x3 : World.cell? w108 ⟨Da, 3, none⟩ = some (.int .i64 0) := KT.out.d1.2.cell 3
            have x4 : World.cell? w108 ⟨Da, 4, none⟩ = some (.int .i64 0) := KT.out.d1.2.cell 4
            have xf := KT.out.d1.2.frozen
            have xl := KT.out.d1.2.lt
            refine wpLate_one (i := 18) (o := ?of9_18) (by kernel_rfl) ?hof9_18 ?hkf9_18
            case hof9_18 => (simp only [List.getElem?_toArray, List.getElem?_cons_zero, List.getElem?_cons_succ]; rfl)
            intro K hK
            go_simp
            replace KT := Lib.hid (KT.out.put1 X)
            refine hK.out _ _ (fun h => absurd h (by decide)) ?_
            clear hK K x0 x1 x2 x3 x4 xf xl
            refine (show wpLate _ _ _ _ _ _ _ _ _ (put5 w108 Da X) from ?_)
            generalize put5 w108 Da X = w110 at KT ⊢
            try simp only [Act.put, List.setIfInBounds_toArray, List.set_cons_zero, List.set_cons_succ]
            have x0 : World.cell? w110 ⟨Db, 0, none⟩ = some (.int .i64 0) := KT.out.d2.2.cell 0
            have x1 : World.cell? w110 ⟨Db, 1, none⟩ = some (.int .i64 0) := KT.out.d2.2.cell 1
            have x2 : World.cell? w110 ⟨Db, 2, none⟩ = some (.int .i64 0) := KT.out.d2.2.cell 2
            have x3 : World.cell? w110 ⟨Db, 3, none⟩ = some (.int .i64 0) := KT.out.d2.2.cell 3
            have x4 : World.cell? w110 ⟨Db, 4, none⟩ = some (.int .i64 0) := KT.out.d2.2.cell 4
            have xf := KT.out.d2.2.frozen
            have xl := KT.out.d2.2.lt
            refine wpLate_one (i := 19) (o := ?of9_19) (by kernel_rfl) ?hof9_19 ?hkf9_19
            case hof9_19 => (simp only [List.getElem?_toArray, List.getElem?_cons_zero, List.getElem?_cons_succ]; rfl)
            intro K hK
            go_simp
            replace KT := Lib.hid (KT.out.put2 Y)
            refine hK.out _ _ (fun h => absurd h (by decide)) ?_
            clear hK K x0 x1 x2 x3 x4 xf xl
            refine (show wpLate _ _ _ _ _ _ _ _ _ (put5 w110 Db Y) from ?_)
            generalize put5 w110 Db Y = w111 at KT ⊢
            try simp only [Act.put, List.setIfInBounds_toArray, List.set_cons_zero, List.set_cons_succ]
            refine wpLate_done (by kernel_rfl) ?_ _
            try simp only [Act.put, List.setIfInBounds_toArray, List.set_cons_zero, List.set_cons_succ]
            go_wp2_with fail
            go_meet
            exact ⟨_, _, rfl, rfl, KT⟩
          case hkn5_17 =>
            intro K hK
            go_simp
            replace KT := Lib.hid (KT.out.al2)
            refine hK.out _ _ (fun _ => KS.out _ KT.out.b) ?_
            clear hK K
            obtain ⟨Db, hDn⟩ : ∃ D, D = (World.heap w104).size := ⟨_, rfl⟩
            rw [← hDn] at KT ⊢
            clear hDn
            generalize World.alloc w104 (.cells z5 48) = w112 at KT ⊢
            try simp only [Act.put, List.setIfInBounds_toArray, List.set_cons_zero, List.set_cons_succ]
            refine wpLate_one (i := 16) (o := ?on13_16) (by kernel_rfl) ?hon13_16 ?hkn13_16
            case hon13_16 => (simp only [List.getElem?_toArray, List.getElem?_cons_zero, List.getElem?_cons_succ]; rfl)
            intro K hK
            go_simp
            replace KT := Lib.hid (KT.out.al1)
            refine hK.out _ _ (fun _ => KS.out _ KT.out.b) ?_
            clear hK K
            obtain ⟨Da, hDn⟩ : ∃ D, D = (World.heap w112).size := ⟨_, rfl⟩
            rw [← hDn] at KT ⊢
            clear hDn
            generalize World.alloc w112 (.cells z5 48) = w114 at KT ⊢
            try simp only [Act.put, List.setIfInBounds_toArray, List.set_cons_zero, List.set_cons_succ]
            replace KT := Lib.hid KT.out.fin
            have x0 : World.cell? w114 ⟨Da, 0, none⟩ = some (.int .i64 0) := KT.out.d1.2.cell 0
            have x1 : World.cell? w114 ⟨Da, 1, none⟩ = some (.int .i64 0) := KT.out.d1.2.cell 1
            have x2 : World.cell? w114 ⟨Da, 2, none⟩ = some (.int .i64 0) := KT.out.d1.2.cell 2
            have x3 : World.cell? w114 ⟨Da, 3, none⟩ = some (.int .i64 0) := KT.out.d1.2.cell 3
            have x4 : World.cell? w114 ⟨Da, 4, none⟩ = some (.int .i64 0) := KT.out.d1.2.cell 4
            have xf := KT.out.d1.2.frozen
            have xl := KT.out.d1.2.lt
            refine wpLate_one (i := 18) (o := ?of15_18) (by kernel_rfl) ?hof15_18 ?hkf15_18
            case hof15_18 => (simp only [List.getElem?_toArray, List.getElem?_cons_zero, List.getElem?_cons_succ]; rfl)
            intro K hK
            go_simp
            replace KT := Lib.hid (KT.out.put1 X)
            refine hK.out _ _ (fun h => absurd h (by decide)) ?_
            clear hK K x0 x1 x2 x3 x4 xf xl
            refine (show wpLate _ _ _ _ _ _ _ _ _ (put5 w114 Da X) from ?_)
            generalize put5 w114 Da X = w116 at KT ⊢
            try simp only [Act.put, List.setIfInBounds_toArray, List.set_cons_zero, List.set_cons_succ]
            have x0 : World.cell? w116 ⟨Db, 0, none⟩ = some (.int .i64 0) := KT.out.d2.2.cell 0
            have x1 : World.cell? w116 ⟨Db, 1, none⟩ = some (.int .i64 0) := KT.out.d2.2.cell 1
            have x2 : World.cell? w116 ⟨Db, 2, none⟩ = some (.int .i64 0) := KT.out.d2.2.cell 2
            have x3 : World.cell? w116 ⟨Db, 3, none⟩ = some (.int .i64 0) := KT.out.d2.2.cell 3
            have x4 : World.cell? w116 ⟨Db, 4, none⟩ = some (.int .i64 0) := KT.out.d2.2.cell 4
            have xf := KT.out.d2.2.frozen
            have xl := KT.out.d2.2.lt
            refine wpLate_one (i := 19) (o := ?of15_19) (by kernel_rfl) ?hof15_19 ?hkf15_19
            case hof15_19 => (simp only [List.getElem?_toArray, List.getElem?_cons_zero, List.getElem?_cons_succ]; rfl)
            intro K hK
            go_simp
            replace KT := Lib.hid (KT.out.put2 Y)
            refine hK.out _ _ (fun h => absurd h (by decide)) ?_
            clear hK K x0 x1 x2 x3 x4 xf xl
            refine (show wpLate _ _ _ _ _ _ _ _ _ (put5 w116 Db Y) from ?_)
            generalize put5 w116 Db Y = w117 at KT ⊢
            try simp only [Act.put, List.setIfInBounds_toArray, List.set_cons_zero, List.set_cons_succ]
            refine wpLate_done (by kernel_rfl) ?_ _
            try simp only [Act.put, List.setIfInBounds_toArray, List.set_cons_zero, List.set_cons_succ]
            go_wp2_with fail
            go_meet
            exact ⟨_, _, rfl, rfl, KT⟩
        case hkn3_16 =>
          intro K hK
          go_simp
          replace KT := Lib.hid (KT.out.al1)
          refine hK.out _ _ (fun _ => KS.out _ KT.out.b) ?_
          clear hK K
          obtain ⟨Da, hDn⟩ : ∃ D, D = (World.heap w102).size := ⟨_, rfl⟩
          rw [← hDn] at KT ⊢
          clear hDn
          generalize World.alloc w102 (.cells z5 48) = w118 at KT ⊢
          try simp only [Act.put, List.setIfInBounds_toArray, List.set_cons_zero, List.set_cons_succ]
          refine wpLate_two (i := 15) (j := 17) (o := ?on19_15) (u := ?on19_17) (by kernel_rfl) ?hon19_15 ?hon19_17 ?hkn19_15 ?hkn19_17
          case hon19_15 => (simp only [List.getElem?_toArray, List.getElem?_cons_zero, List.getElem?_cons_succ]; rfl)
          case hon19_17 => (simp only [List.getElem?_toArray, List.getElem?_cons_zero, List.getElem?_cons_succ]; rfl)
          case hkn19_15 =>
            intro K hK
            go_simp
            refine (C41.out _ KT.out.b).mono ?_
            rintro r w120 ⟨rfl, hbs⟩
            replace KT := Lib.hid (KT.out.call hbs)
            clear hbs
            go_simp
            refine hK.out _ _ (fun _ => KS.out _ KT.out.b) ?_
            clear hK K
            try simp only [Act.put, List.setIfInBounds_toArray, List.set_cons_zero, List.set_cons_succ]
            refine wpLate_one (i := 17) (o := ?on21_17) (by kernel_rfl) ?hon21_17 ?hkn21_17
            case hon21_17 => (simp only [List.getElem?_toArray, List.getElem?_cons_zero, List.getElem?_cons_succ]; rfl)
            intro K hK
            go_simp
            replace KT := Lib.hid (KT.out.al2)
            refine hK.out _ _ (fun _ => KS.out _ KT.out.b) ?_
            clear hK K
            obtain ⟨Db, hDn⟩ : ∃ D, D = (World.heap w120).size := ⟨_, rfl⟩
            rw [← hDn] at KT ⊢
            clear hDn
            generalize World.alloc w120 (.cells z5 48) = w122 at KT ⊢
            try simp only [Act.put, List.setIfInBounds_toArray, List.set_cons_zero, List.set_cons_succ]
            replace KT := Lib.hid KT.out.fin
            have x0 : World.cell? w122 ⟨Da, 0, none⟩ = some (.int .i64 0) := KT.out.d1.2.cell 0
            have x1 : World.cell? w122 ⟨Da, 1, none⟩ = some (.int .i64 0) := KT.out.d1.2.cell 1
            have x2 : World.cell? w122 ⟨Da, 2, none⟩ = some (.int .i64 0) := KT.out.d1.2.cell 2
            have x3 : World.cell? w122 ⟨Da, 3, none⟩ = some (.int .i64 0) := KT.out.d1.2.cell 3
            have x4 : World.cell? w122 ⟨Da, 4, none⟩ = some (.int .i64 0) := KT.out.d1.2.cell 4
            have xf := KT.out.d1.2.frozen
            have xl := KT.out.d1.2.lt
            refine wpLate_one (i := 18) (o := ?of23_18) (by kernel_rfl) ?hof23_18 ?hkf23_18
            case hof23_18 => (simp only [List.getElem?_toArray, List.getElem?_cons_zero, List.getElem?_cons_succ]; rfl)
            intro K hK
            go_simp
            replace KT := Lib.hid (KT.out.put1 X)
            refine hK.out _ _ (fun h => absurd h (by decide)) ?_
            clear hK K x0 x1 x2 x3 x4 xf xl
            refine (show wpLate _ _ _ _ _ _ _ _ _ (put5 w122 Da X) from ?_)
            generalize put5 w122 Da X = w124 at KT ⊢
            try simp only [Act.put, List.setIfInBounds_toArray, List.set_cons_zero, List.set_cons_succ]
            have x0 : World.cell? w124 ⟨Db, 0, none⟩ = some (.int .i64 0) := KT.out.d2.2.cell 0
            have x1 : World.cell? w124 ⟨Db, 1, none⟩ = some (.int .i64 0) := KT.out.d2.2.cell 1
            have x2 : World.cell? w124 ⟨Db, 2, none⟩ = some (.int .i64 0) := KT.out.d2.2.cell 2
            have x3 : World.cell? w124 ⟨Db, 3, none⟩ = some (.int .i64 0) := KT.out.d2.2.cell 3
            have x4 : World.cell? w124 ⟨Db, 4, none⟩ = some (.int .i64 0) := KT.out.d2.2.cell 4
            have xf := KT.out.d2.2.frozen
            have xl := KT.out.d2.2.lt
            refine wpLate_one (i := 19) (o := ?of23_19) (by kernel_rfl) ?hof23_19 ?hkf23_19
            case hof23_19 => (simp only [List.getElem?_toArray, List.getElem?_cons_zero, List.getElem?_cons_succ]; rfl)
            intro K hK
            go_simp
            replace KT := Lib.hid (KT.out.put2 Y)
            refine hK.out _ _ (fun h => absurd h (by decide)) ?_
            clear hK K x0 x1 x2 x3 x4 xf xl
            refine (show wpLate _ _ _ _ _ _ _ _ _ (put5 w124 Db Y) from ?_)
            generalize put5 w124 Db Y = w125 at KT ⊢
            try simp only [Act.put, List.setIfInBounds_toArray, List.set_cons_zero, List.set_cons_succ]
            refine wpLate_done (by kernel_rfl) ?_ _
            try simp only [Act.put, List.setIfInBounds_toArray, List.set_cons_zero, List.set_cons_succ]
            go_wp2_with fail
            go_meet
            exact ⟨_, _, rfl, rfl, KT⟩
          case hkn19_17 =>
            intro K hK
            go_simp
            replace KT := Lib.hid (KT.out.al2)
            refine hK.out _ _ (fun _ => KS.out _ KT.out.b) ?_
            clear hK K
            obtain ⟨Db, hDn⟩ : ∃ D, D = (World.heap w118).size := ⟨_, rfl⟩
            rw [← hDn] at KT ⊢
            clear hDn
            generalize World.alloc w118 (.cells z5 48) = w126 at KT ⊢
            try simp only [Act.put, List.setIfInBounds_toArray, List.set_cons_zero, List.set_cons_succ]
            refine wpLate_one (i := 15) (o := ?on27_15) (by kernel_rfl) ?hon27_15 ?hkn27_15
            case hon27_15 => (simp only [List.getElem?_toArray, List.getElem?_cons_zero, List.getElem?_cons_succ]; rfl)
            intro K hK
            go_simp
            refine (C41.out _ KT.out.b).mono ?_
            rintro r w128 ⟨rfl, hbs⟩
            replace KT := Lib.hid (KT.out.call hbs)
            clear hbs
            go_simp
            refine hK.out _ _ (fun _ => KS.out _ KT.out.b) ?_
            clear hK K
            try simp only [Act.put, List.setIfInBounds_toArray, List.set_cons_zero, List.set_cons_succ]
            replace KT := Lib.hid KT.out.fin
            have x0 : World.cell? w128 ⟨Da, 0, none⟩ = some (.int .i64 0) := KT.out.d1.2.cell 0
            have x1 : World.cell? w128 ⟨Da, 1, none⟩ = some (.int .i64 0) := KT.out.d1.2.cell 1
            have x2 : World.cell? w128 ⟨Da, 2, none⟩ = some (.int .i64 0) := KT.out.d1.2.cell 2
            have x3 : World.cell? w128 ⟨Da, 3, none⟩ = some (.int .i64 0) := KT.out.d1.2.cell 3
            have x4 : World.cell? w128 ⟨Da, 4, none⟩ = some (.int .i64 0) := KT.out.d1.2.cell 4
            have xf := KT.out.d1.2.frozen
            have xl := KT.out.d1.2.lt
            refine wpLate_one (i := 18) (o := ?of29_18) (by kernel_rfl) ?hof29_18 ?hkf29_18
            case hof29_18 => (simp only [List.getElem?_toArray, List.getElem?_cons_zero, List.getElem?_cons_succ]; rfl)
            intro K hK
            go_simp
            replace KT := Lib.hid (KT.out.put1 X)
            refine hK.out _ _ (fun h => absurd h (by decide)) ?_
            clear hK K x0 x1 x2 x3 x4 xf xl
            refine (show wpLate _ _ _ _ _ _ _ _ _ (put5 w128 Da X) from ?_)
            generalize put5 w128 Da X = w130 at KT ⊢
            try simp only [Act.put, List.setIfInBounds_toArray, List.set_cons_zero, List.set_cons_succ]
            have x0 : World.cell? w130 ⟨Db, 0, none⟩ = some (.int .i64 0) := KT.out.d2.2.cell 0
            have x1 : World.cell? w130 ⟨Db, 1, none⟩ = some (.int .i64 0) := KT.out.d2.2.cell 1
            have x2 : World.cell? w130 ⟨Db, 2, none⟩ = some (.int .i64 0) := KT.out.d2.2.cell 2
            have x3 : World.cell? w130 ⟨Db, 3, none⟩ = some (.int .i64 0) := KT.out.d2.2.cell 3
            have x4 : World.cell? w130 ⟨Db, 4, none⟩ = some (.int .i64 0) := KT.out.d2.2.cell 4
            have xf := KT.out.d2.2.frozen
            have xl := KT.out.d2.2.lt
            refine wpLate_one (i := 19) (o := ?of29_19) (by kernel_rfl) ?hof29_19 ?hkf29_19
            case hof29_19 => (simp only [List.getElem?_toArray, List.getElem?_cons_zero, List.getElem?_cons_succ]; rfl)
            intro K hK
            go_simp
            replace KT := Lib.hid (KT.out.put2 Y)
            refine hK.out _ _ (fun h => absurd h (by decide)) ?_
            clear hK K x0 x1 x2 x3 x4 xf xl
            refine (show wpLate _ _ _ _ _ _ _ _ _ (put5 w130 Db Y) from ?_)
            generalize put5 w130 Db Y = w131 at KT ⊢
            try simp only [Act.put, List.setIfInBounds_toArray, List.set_cons_zero, List.set_cons_succ]
            refine wpLate_done (by kernel_rfl) ?_ _
            try simp only [Act.put, List.setIfInBounds_toArray, List.set_cons_zero, List.set_cons_succ]
            go_wp2_with fail
            go_meet
            exact ⟨_, _, rfl, rfl, KT⟩
        case hkn3_17 =>
          intro K hK
          go_simp
          replace KT := Lib.hid (KT.out.al2)
          refine hK.out _ _ (fun _ => KS.out _ KT.out.b) ?_
          clear hK K
          obtain ⟨Db, hDn⟩ : ∃ D, D = (World.heap w102).size := ⟨_, rfl⟩
          rw [← hDn] at KT ⊢
          clear hDn
          generalize World.alloc w102 (.cells z5 48) = w132 at KT ⊢
          try simp only [Act.put, List.setIfInBounds_toArray, List.set_cons_zero, List.set_cons_succ]
          refine wpLate_two (i := 15) (j := 16) (o := ?on33_15) (u := ?on33_16) (by kernel_rfl) ?hon33_15 ?hon33_16 ?hkn33_15 ?hkn33_16
          case hon33_15 => (simp only [List.getElem?_toArray, List.getElem?_cons_zero, List.getElem?_cons_succ]; rfl)
          case hon33_16 => (simp only [List.getElem?_toArray, List.getElem?_cons_zero, List.getElem?_cons_succ]; rfl)
          case hkn33_15 =>
            intro K hK
            go_simp
            refine (C41.out _ KT.out.b).mono ?_
            rintro r w134 ⟨rfl, hbs⟩
            replace KT := Lib.hid (KT.out.call hbs)
            clear hbs
            go_simp
            refine hK.out _ _ (fun _ => KS.out _ KT.out.b) ?_
            clear hK K
            try simp only [Act.put, List.setIfInBounds_toArray, List.set_cons_zero, List.set_cons_succ]
            refine wpLate_one (i := 16) (o := ?on35_16) (by kernel_rfl) ?hon35_16 ?hkn35_16
            case hon35_16 => (simp only [List.getElem?_toArray, List.getElem?_cons_zero, List.getElem?_cons_succ]; rfl)
            intro K hK
            go_simp
            replace KT := Lib.hid (KT.out.al1)
            refine hK.out _ _ (fun _ => KS.out _ KT.out.b) ?_
            clear hK K
            obtain ⟨Da, hDn⟩ : ∃ D, D = (World.heap w134).size := ⟨_, rfl⟩
            rw [← hDn] at KT ⊢
            clear hDn
            generalize World.alloc w134 (.cells z5 48) = w136 at KT ⊢
            try simp only [Act.put, List.setIfInBounds_toArray, List.set_cons_zero, List.set_cons_succ]
            replace KT := Lib.hid KT.out.fin
            have x0 : World.cell? w136 ⟨Da, 0, none⟩ = some (.int .i64 0) := KT.out.d1.2.cell 0
            have x1 : World.cell? w136 ⟨Da, 1, none⟩ = some (.int .i64 0) := KT.out.d1.2.cell 1
            have x2 : World.cell? w136 ⟨Da, 2, none⟩ = some (.int .i64 0) := KT.out.d1.2.cell 2
            have x3 : World.cell? w136 ⟨Da, 3, none⟩ = some (.int .i64 0) := KT.out.d1.2.cell 3
            have x4 : World.cell? w136 ⟨Da, 4, none⟩ = some (.int .i64 0) := KT.out.d1.2.cell 4
            have xf := KT.out.d1.2.frozen
            have xl := KT.out.d1.2.lt
            refine wpLate_one (i := 18) (o := ?of37_18) (by kernel_rfl) ?hof37_18 ?hkf37_18
            case hof37_18 => (simp only [List.getElem?_toArray, List.getElem?_cons_zero, List.getElem?_cons_succ]; rfl)
            intro K hK
            go_simp
            replace KT := Lib.hid (KT.out.put1 X)
            refine hK.out _ _ (fun h => absurd h (by decide)) ?_
            clear hK K x0 x1 x2 x3 x4 xf xl
            refine (show wpLate _ _ _ _ _ _ _ _ _ (put5 w136 Da X) from ?_)
            generalize put5 w136 Da X = w138 at KT ⊢
            try simp only [Act.put, List.setIfInBounds_toArray, List.set_cons_zero, List.set_cons_succ]
            have x0 : World.cell? w138 ⟨Db, 0, none⟩ = some (.int .i64 0) := KT.out.d2.2.cell 0
            have x1 : World.cell? w138 ⟨Db, 1, none⟩ = some (.int .i64 0) := KT.out.d2.2.cell 1
            have x2 : World.cell? w138 ⟨Db, 2, none⟩ = some (.int .i64 0) := KT.out.d2.2.cell 2
            have x3 : World.cell? w138 ⟨Db, 3, none⟩ = some (.int .i64 0) := KT.out.d2.2.cell 3
            have x4 : World.cell? w138 ⟨Db, 4, none⟩ = some (.int .i64 0) := KT.out.d2.2.cell 4
            have xf := KT.out.d2.2.frozen
            have xl := KT.out.d2.2.lt
            refine wpLate_one (i := 19) (o := ?of37_19) (by kernel_rfl) ?hof37_19 ?hkf37_19
            case hof37_19 => (simp only [List.getElem?_toArray, List.getElem?_cons_zero, List.getElem?_cons_succ]; rfl)
            intro K hK
            go_simp
            replace KT := Lib.hid (KT.out.put2 Y)
            refine hK.out _ _ (fun h => absurd h (by decide)) ?_
            clear hK K x0 x1 x2 x3 x4 xf xl
            refine (show wpLate _ _ _ _ _ _ _ _ _ (put5 w138 Db Y) from ?_)
            generalize put5 w138 Db Y = w139 at KT ⊢
            try simp only [Act.put, List.setIfInBounds_toArray, List.set_cons_zero, List.set_cons_succ]
            refine wpLate_done (by kernel_rfl) ?_ _
            try simp only [Act.put, List.setIfInBounds_toArray, List.set_cons_zero, List.set_cons_succ]
            go_wp2_with fail
            go_meet
            exact ⟨_, _, rfl, rfl, KT⟩
          case hkn33_16 =>
            intro K hK
            go_simp
            replace KT := Lib.hid (KT.out.al1)
            refine hK.out _ _ (fun _ => KS.out _ KT.out.b) ?_
            clear hK K
            obtain ⟨Da, hDn⟩ : ∃ D, D = (World.heap w132).size := ⟨_, rfl⟩
            rw [← hDn] at KT ⊢
            clear hDn
            generalize World.alloc w132 (.cells z5 48) = w140 at KT ⊢
            try simp only [Act.put, List.setIfInBounds_toArray, List.set_cons_zero, List.set_cons_succ]
            refine wpLate_one (i := 15) (o := ?on41_15) (by kernel_rfl) ?hon41_15 ?hkn41_15
            case hon41_15 => (simp only [List.getElem?_toArray, List.getElem?_cons_zero, List.getElem?_cons_succ]; rfl)
            intro K hK
            go_simp
            refine (C41.out _ KT.out.b).mono ?_
            rintro r w142 ⟨rfl, hbs⟩
            replace KT := Lib.hid (KT.out.call hbs)
            clear hbs
            go_simp
            refine hK.out _ _ (fun _ => KS.out _ KT.out.b) ?_
            clear hK K
            try simp only [Act.put, List.setIfInBounds_toArray, List.set_cons_zero, List.set_cons_succ]
            replace KT := Lib.hid KT.out.fin
            have x0 : World.cell? w142 ⟨Da, 0, none⟩ = some (.int .i64 0) := KT.out.d1.2.cell 0
            have x1 : World.cell? w142 ⟨Da, 1, none⟩ = some (.int .i64 0) := KT.out.d1.2.cell 1
            have x2 : World.cell? w142 ⟨Da, 2, none⟩ = some (.int .i64 0) := KT.out.d1.2.cell 2
            have x3 : World.cell? w142 ⟨Da, 3, none⟩ = some (.int .i64 0) := KT.out.d1.2.cell 3
            have x4 : World.cell? w142 ⟨Da, 4, none⟩ = some (.int .i64 0) := KT.out.d1.2.cell 4
            have xf := KT.out.d1.2.frozen
            have xl := KT.out.d1.2.lt
            refine wpLate_one (i := 18) (o := ?of43_18) (by kernel_rfl) ?hof43_18 ?hkf43_18
            case hof43_18 => (simp only [List.getElem?_toArray, List.getElem?_cons_zero, List.getElem?_cons_succ]; rfl)
            intro K hK
            go_simp
            replace KT := Lib.hid (KT.out.put1 X)
            refine hK.out _ _ (fun h => absurd h (by decide)) ?_
            clear hK K x0 x1 x2 x3 x4 xf xl
            refine (show wpLate _ _ _ _ _ _ _ _ _ (put5 w142 Da X) from ?_)
            generalize put5 w142 Da X = w144 at KT ⊢
            try simp only [Act.put, List.setIfInBounds_toArray, List.set_cons_zero, List.set_cons_succ]
            have x0 : World.cell? w144 ⟨Db, 0, none⟩ = some (.int .i64 0) := KT.out.d2.2.cell 0
            have x1 : World.cell? w144 ⟨Db, 1, none⟩ = some (.int .i64 0) := KT.out.d2.2.cell 1
            have x2 : World.cell? w144 ⟨Db, 2, none⟩ = some (.int .i64 0) := KT.out.d2.2.cell 2
            have x3 : World.cell? w144 ⟨Db, 3, none⟩ = some (.int .i64 0) := KT.out.d2.2.cell 3
            have x4 : World.cell? w144 ⟨Db, 4, none⟩ = some (.int .i64 0) := KT.out.d2.2.cell 4
            have xf := KT.out.d2.2.frozen
            have xl := KT.out.d2.2.lt
            refine wpLate_one (i := 19) (o := ?of43_19) (by kernel_rfl) ?hof43_19 ?hkf43_19
            case hof43_19 => (simp only [List.getElem?_toArray, List.getElem?_cons_zero, List.getElem?_cons_succ]; rfl)
            intro K hK
            go_simp
            replace KT := Lib.hid (KT.out.put2 Y)
            refine hK.out _ _ (fun h => absurd h (by decide)) ?_
            clear hK K x0 x1 x2 x3 x4 xf xl
            refine (show wpLate _ _ _ _ _ _ _ _ _ (put5 w144 Db Y) from ?_)
            generalize put5 w144 Db Y = w145 at KT ⊢
            try simp only [Act.put, List.setIfInBounds_toArray, List.set_cons_zero, List.set_cons_succ]
            refine wpLate_done (by kernel_rfl) ?_ _
            try simp only [Act.put, List.setIfInBounds_toArray, List.set_cons_zero, List.set_cons_succ]
            go_wp2_with fail
            go_meet
            exact ⟨_, _, rfl, rfl, KT⟩
      case hkn1_16 =>
        intro K hK
        go_simp
        replace KT := Lib.hid (KT.out.al1)
        refine hK.out _ _ (fun _ => KS.out _ KT.out.b) ?_
        clear hK K
        obtain ⟨Da, hDn⟩ : ∃ D, D = (World.heap wd).size := ⟨_, rfl⟩
        rw [← hDn] at KT ⊢
        clear hDn
        generalize World.alloc wd (.cells z5 48) = w146 at KT ⊢
        try simp only [Act.put, List.setIfInBounds_toArray, List.set_cons_zero, List.set_cons_succ]
        refine wpLate_two (i := 7) (j := 17) (o := ?on47_7) (u := ?on47_17) (by kernel_rfl) ?hon47_7 ?hon47_17 ?hkn47_7 ?hkn47_17
        case hon47_7 => (simp only [List.getElem?_toArray, List.getElem?_cons_zero, List.getElem?_cons_succ]; rfl)
        case hon47_17 => (simp only [List.getElem?_toArray, List.getElem?_cons_zero, List.getElem?_cons_succ]; rfl)
        case hkn47_7 =>
          intro K hK
          go_simp
          refine (C40.out _ KT.out.b).mono ?_
          rintro r w148 ⟨rfl, hbs⟩
          replace KT := Lib.hid (KT.out.call hbs)
          clear hbs
          go_simp
          refine hK.out _ _ (fun _ => KS.out _ KT.out.b) ?_
          clear hK K
          try simp only [Act.put, List.setIfInBounds_toArray, List.set_cons_zero, List.set_cons_succ]
          refine wpLate_two (i := 15) (j := 17) (o := ?on49_15) (u := ?on49_17) (by kernel_rfl) ?hon49_15 ?hon49_17 ?hkn49_15 ?hkn49_17
          case hon49_15 => (simp only [List.getElem?_toArray, List.getElem?_cons_zero, List.getElem?_cons_succ]; rfl)
          case hon49_17 => (simp only [List.getElem?_toArray, List.getElem?_cons_zero, List.getElem?_cons_succ]; rfl)
          case hkn49_15 =>
            intro K hK
            go_simp
            refine (C41.out _ KT.out.b).mono ?_
            rintro r w150 ⟨rfl, hbs⟩
            replace KT := Lib.hid (KT.out.call hbs)
            clear hbs
            go_simp
            refine hK.out _ _ (fun _ => KS.out _ KT.out.b) ?_
            clear hK K
            try simp only [Act.put, List.setIfInBounds_toArray, List.set_cons_zero, List.set_cons_succ]
            refine wpLate_one (i := 17) (o := ?on51_17) (by kernel_rfl) ?hon51_17 ?hkn51_17
            case hon51_17 => (simp only [List.getElem?_toArray, List.getElem?_cons_zero, List.getElem?_cons_succ]; rfl)
            intro K hK
            go_simp
            replace KT := Lib.hid (KT.out.al2)
            refine hK.out _ _ (fun _ => KS.out _ KT.out.b) ?_
            clear hK K
            obtain ⟨Db, hDn⟩ : ∃ D, D = (World.heap w150).size := ⟨_, rfl⟩
            rw [← hDn] at KT ⊢
            clear hDn
            generalize World.alloc w150 (.cells z5 48) = w152 at KT ⊢
            try simp only [Act.put, List.setIfInBounds_toArray, List.set_cons_zero, List.set_cons_succ]
            replace KT := Lib.hid KT.out.fin
            have x0 : World.cell? w152 ⟨Da, 0, none⟩ = some (.int .i64 0) := KT.out.d1.2.cell 0
            have x1 : World.cell? w152 ⟨Da, 1, none⟩ = some (.int .i64 0) := KT.out.d1.2.cell 1
            have x2 : World.cell? w152 ⟨Da, 2, none⟩ = some (.int .i64 0) := KT.out.d1.2.cell 2
            have x3 : World.cell? w152 ⟨Da, 3, none⟩ = some (.int .i64 0) := KT.out.d1.2.cell 3
            have x4 : World.cell? w152 ⟨Da, 4, none⟩ = some (.int .i64 0) := KT.out.d1.2.cell 4
            have xf := KT.out.d1.2.frozen
            have xl := KT.out.d1.2.lt
            refine wpLate_one (i := 18) (o := ?of53_18) (by kernel_rfl) ?hof53_18 ?hkf53_18
            case hof53_18 => (simp only [List.getElem?_toArray, List.getElem?_cons_zero, List.getElem?_cons_succ]; rfl)
            intro K hK
            go_simp
            replace KT := Lib.hid (KT.out.put1 X)
            refine hK.out _ _ (fun h => absurd h (by decide)) ?_
            clear hK K x0 x1 x2 x3 x4 xf xl
            refine (show wpLate _ _ _ _ _ _ _ _ _ (put5 w152 Da X) from ?_)
            generalize put5 w152 Da X = w154 at KT ⊢
            try simp only [Act.put, List.setIfInBounds_toArray, List.set_cons_zero, List.set_cons_succ]
            have x0 : World.cell? w154 ⟨Db, 0, none⟩ = some (.int .i64 0) := KT.out.d2.2.cell 0
            have x1 : World.cell? w154 ⟨Db, 1, none⟩ = some (.int .i64 0) := KT.out.d2.2.cell 1
            have x2 : World.cell? w154 ⟨Db, 2, none⟩ = some (.int .i64 0) := KT.out.d2.2.cell 2
            have x3 : World.cell? w154 ⟨Db, 3, none⟩ = some (.int .i64 0) := KT.out.d2.2.cell 3
            have x4 : World.cell? w154 ⟨Db, 4, none⟩ = some (.int .i64 0) := KT.out.d2.2.cell 4
            have xf := KT.out.d2.2.frozen
            have xl := KT.out.d2.2.lt
            refine wpLate_one (i := 19) (o := ?of53_19) (by kernel_rfl) ?hof53_19 ?hkf53_19
            case hof53_19 => (simp only [List.getElem?_toArray, List.getElem?_cons_zero, List.getElem?_cons_succ]; rfl)
            intro K hK
            go_simp
            replace KT := Lib.hid (KT.out.put2 Y)
            refine hK.out _ _ (fun h => absurd h (by decide)) ?_
            clear hK K x0 x1 x2 x3 x4 xf xl
            refine (show wpLate _ _ _ _ _ _ _ _ _ (put5 w154 Db Y) from ?_)
            generalize put5 w154 Db Y = w155 at KT ⊢
            try simp only [Act.put, List.setIfInBounds_toArray, List.set_cons_zero, List.set_cons_succ]
            refine wpLate_done (by kernel_rfl) ?_ _
            try simp only [Act.put, List.setIfInBounds_toArray, List.set_cons_zero, List.set_cons_succ]
            go_wp2_with fail
            go_meet
            exact ⟨_, _, rfl, rfl, KT⟩
          case hkn49_17 =>
            intro K hK
            go_simp
            replace KT := Lib.hid (KT.out.al2)
            refine hK.out _ _ (fun _ => KS.out _ KT.out.b) ?_
            clear hK K
            obtain ⟨Db, hDn⟩ : ∃ D, D = (World.heap w148).size := ⟨_, rfl⟩
            rw [← hDn] at KT ⊢
            clear hDn
            generalize World.alloc w148 (.cells z5 48) = w156 at KT ⊢
            try simp only [Act.put, List.setIfInBounds_toArray, List.set_cons_zero, List.set_cons_succ]
            refine wpLate_one (i := 15) (o := ?on57_15) (by kernel_rfl) ?hon57_15 ?hkn57_15
            case hon57_15 => (simp only [List.getElem?_toArray, List.getElem?_cons_zero, List.getElem?_cons_succ]; rfl)
            intro K hK
            go_simp
            refine (C41.out _ KT.out.b).mono ?_
            rintro r w158 ⟨rfl, hbs⟩
            replace KT := Lib.hid (KT.out.call hbs)
            clear hbs
            go_simp
            refine hK.out _ _ (fun _ => KS.out _ KT.out.b) ?_
            clear hK K
            try simp only [Act.put, List.setIfInBounds_toArray, List.set_cons_zero, List.set_cons_succ]
            replace KT := Lib.hid KT.out.fin
            have x0 : World.cell? w158 ⟨Da, 0, none⟩ = some (.int .i64 0) := KT.out.d1.2.cell 0
            have x1 : World.cell? w158 ⟨Da, 1, none⟩ = some (.int .i64 0) := KT.out.d1.2.cell 1
            have x2 : World.cell? w158 ⟨Da, 2, none⟩ = some (.int .i64 0) := KT.out.d1.2.cell 2
            have x3 : World.cell? w158 ⟨Da, 3, none⟩ = some (.int .i64 0) := KT.out.d1.2.cell 3
            have x4 : World.cell? w158 ⟨Da, 4, none⟩ = some (.int .i64 0) := KT.out.d1.2.cell 4
            have xf := KT.out.d1.2.frozen
            have xl := KT.out.d1.2.lt
            refine wpLate_one (i := 18) (o := ?of59_18) (by kernel_rfl) ?hof59_18 ?hkf59_18
            case hof59_18 => (simp only [List.getElem?_toArray, List.getElem?_cons_zero, List.getElem?_cons_succ]; rfl)
            intro K hK
            go_simp
            replace KT := Lib.hid (KT.out.put1 X)
            refine hK.out _ _ (fun h => absurd h (by decide)) ?_
            clear hK K x0 x1 x2 x3 x4 xf xl
            refine (show wpLate _ _ _ _ _ _ _ _ _ (put5 w158 Da X) from ?_)
            generalize put5 w158 Da X = w160 at KT ⊢
            try simp only [Act.put, List.setIfInBounds_toArray, List.set_cons_zero, List.set_cons_succ]
            have x0 : World.cell? w160 ⟨Db, 0, none⟩ = some (.int .i64 0) := KT.out.d2.2.cell 0
            have x1 : World.cell? w160 ⟨Db, 1, none⟩ = some (.int .i64 0) := KT.out.d2.2.cell 1
            have x2 : World.cell? w160 ⟨Db, 2, none⟩ = some (.int .i64 0) := KT.out.d2.2.cell 2
            have x3 : World.cell? w160 ⟨Db, 3, none⟩ = some (.int .i64 0) := KT.out.d2.2.cell 3
            have x4 : World.cell? w160 ⟨Db, 4, none⟩ = some (.int .i64 0) := KT.out.d2.2.cell 4
            have xf := KT.out.d2.2.frozen
            have xl := KT.out.d2.2.lt
            refine wpLate_one (i := 19) (o := ?of59_19) (by kernel_rfl) ?hof59_19 ?hkf59_19
            case hof59_19 => (simp only [List.getElem?_toArray, List.getElem?_cons_zero, List.getElem?_cons_succ]; rfl)
            intro K hK
            go_simp
            replace KT := Lib.hid (KT.out.put2 Y)
            refine hK.out _ _ (fun h => absurd h (by decide)) ?_
            clear hK K x0 x1 x2 x3 x4 xf xl
            refine (show wpLate _ _ _ _ _ _ _ _ _ (put5 w160 Db Y) from ?_)
            generalize put5 w160 Db Y = w161 at KT ⊢
            try simp only [Act.put, List.setIfInBounds_toArray, List.set_cons_zero, List.set_cons_succ]
            refine wpLate_done (by kernel_rfl) ?_ _
            try simp only [Act.put, List.setIfInBounds_toArray, List.set_cons_zero, List.set_cons_succ]
            go_wp2_with fail
            go_meet
            exact ⟨_, _, rfl, rfl, KT⟩
        case hkn47_17 =>
          intro K hK
          go_simp
          replace KT := Lib.hid (KT.out.al2)
          refine hK.out _ _ (fun _ => KS.out _ KT.out.b) ?_
          clear hK K
          obtain ⟨Db, hDn⟩ : ∃ D, D = (World.heap w146).size := ⟨_, rfl⟩
          rw [← hDn] at KT ⊢
          clear hDn
          generalize World.alloc w146 (.cells z5 48) = w162 at KT ⊢
          try simp only [Act.put, List.setIfInBounds_toArray, List.set_cons_zero, List.set_cons_succ]
          refine wpLate_one (i := 7) (o := ?on63_7) (by kernel_rfl) ?hon63_7 ?hkn63_7
          case hon63_7 => (simp only [List.getElem?_toArray, List.getElem?_cons_zero, List.getElem?_cons_succ]; rfl)
          intro K hK
          go_simp
          refine (C40.out _ KT.out.b).mono ?_
          rintro r w164 ⟨rfl, hbs⟩
          replace KT := Lib.hid (KT.out.call hbs)
          clear hbs
          go_simp
          refine hK.out _ _ (fun _ => KS.out _ KT.out.b) ?_
          clear hK K
          try simp only [Act.put, List.setIfInBounds_toArray, List.set_cons_zero, List.set_cons_succ]
          refine wpLate_one (i := 15) (o := ?on65_15) (by kernel_rfl) ?hon65_15 ?hkn65_15
          case hon65_15 => (simp only [List.getElem?_toArray, List.getElem?_cons_zero, List.getElem?_cons_succ]; rfl)
          intro K hK
          go_simp
          refine (C41.out _ KT.out.b).mono ?_
          rintro r w166 ⟨rfl, hbs⟩
          replace KT := Lib.hid (KT.out.call hbs)
          clear hbs
          go_simp
          refine hK.out _ _ (fun _ => KS.out _ KT.out.b) ?_
          clear hK K
          try simp only [Act.put, List.setIfInBounds_toArray, List.set_cons_zero, List.set_cons_succ]
          replace KT := Lib.hid KT.out.fin
          have x0 : World.cell? w166 ⟨Da, 0, none⟩ = some (.int .i64 0) := KT.out.d1.2.cell 0
          have x1 : World.cell? w166 ⟨Da, 1, none⟩ = some (.int .i64 0) := KT.out.d1.2.cell 1
          have x2 : World.cell? w166 ⟨Da, 2, none⟩ = some (.int .i64 0) := KT.out.d1.2.cell 2
          have x3 : World.cell? w166 ⟨Da, 3, none⟩ = some (.int .i64 0) := KT.out.d1.2.cell 3
          have x4 : World.cell? w166 ⟨Da, 4, none⟩ = some (.int .i64 0) := KT.out.d1.2.cell 4
          have xf := KT.out.d1.2.frozen
          have xl := KT.out.d1.2.lt
          refine wpLate_one (i := 18) (o := ?of67_18) (by kernel_rfl) ?hof67_18 ?hkf67_18
          case hof67_18 => (simp only [List.getElem?_toArray, List.getElem?_cons_zero, List.getElem?_cons_succ]; rfl)
          intro K hK
          go_simp
          replace KT := Lib.hid (KT.out.put1 X)
          refine hK.out _ _ (fun h => absurd h (by decide)) ?_
          clear hK K x0 x1 x2 x3 x4 xf xl
          refine (show wpLate _ _ _ _ _ _ _ _ _ (put5 w166 Da X) from ?_)
          generalize put5 w166 Da X = w168 at KT ⊢
          try simp only [Act.put, List.setIfInBounds_toArray, List.set_cons_zero, List.set_cons_succ]
          have x0 : World.cell? w168 ⟨Db, 0, none⟩ = some (.int .i64 0) := KT.out.d2.2.cell 0
          have x1 : World.cell? w168 ⟨Db, 1, none⟩ = some (.int .i64 0) := KT.out.d2.2.cell 1
          have x2 : World.cell? w168 ⟨Db, 2, none⟩ = some (.int .i64 0) := KT.out.d2.2.cell 2
          have x3 : World.cell? w168 ⟨Db, 3, none⟩ = some (.int .i64 0) := KT.out.d2.2.cell 3
          have x4 : World.cell? w168 ⟨Db, 4, none⟩ = some (.int .i64 0) := KT.out.d2.2.cell 4
          have xf := KT.out.d2.2.frozen
          have xl := KT.out.d2.2.lt
          refine wpLate_one (i := 19) (o := ?of67_19) (by kernel_rfl) ?hof67_19 ?hkf67_19
          case hof67_19 => (simp only [List.getElem?_toArray, List.getElem?_cons_zero, List.getElem?_cons_succ]; rfl)
          intro K hK
          go_simp
          replace KT := Lib.hid (KT.out.put2 Y)
          refine hK.out _ _ (fun h => absurd h (by decide)) ?_
          clear hK K x0 x1 x2 x3 x4 xf xl
          refine (show wpLate _ _ _ _ _ _ _ _ _ (put5 w168 Db Y) from ?_)
          generalize put5 w168 Db Y = w169 at KT ⊢
          try simp only [Act.put, List.setIfInBounds_toArray, List.set_cons_zero, List.set_cons_succ]
          refine wpLate_done (by kernel_rfl) ?_ _
          try simp only [Act.put, List.setIfInBounds_toArray, List.set_cons_zero, List.set_cons_succ]
          go_wp2_with fail
          go_meet
          exact ⟨_, _, rfl, rfl, KT⟩
      case hkn1_17 =>
        intro K hK
        go_simp
        replace KT := Lib.hid (KT.out.al2)
        refine hK.out _ _ (fun _ => KS.out _ KT.out.b) ?_
        clear hK K
        obtain ⟨Db, hDn⟩ : ∃ D, D = (World.heap wd).size := ⟨_, rfl⟩
        rw [← hDn] at KT ⊢
        clear hDn
        generalize World.alloc wd (.cells z5 48) = w170 at KT ⊢
        try simp only [Act.put, List.setIfInBounds_toArray, List.set_cons_zero, List.set_cons_succ]
        refine wpLate_two (i := 7) (j := 16) (o := ?on71_7) (u := ?on71_16) (by kernel_rfl) ?hon71_7 ?hon71_16 ?hkn71_7 ?hkn71_16
        case hon71_7 => (simp only [List.getElem?_toArray, List.getElem?_cons_zero, List.getElem?_cons_succ]; rfl)
        case hon71_16 => (simp only [List.getElem?_toArray, List.getElem?_cons_zero, List.getElem?_cons_succ]; rfl)
        case hkn71_7 =>
          intro K hK
          go_simp
          refine (C40.out _ KT.out.b).mono ?_
          rintro r w172 ⟨rfl, hbs⟩
          replace KT := Lib.hid (KT.out.call hbs)
          clear hbs
          go_simp
          refine hK.out _ _ (fun _ => KS.out _ KT.out.b) ?_
          clear hK K
          try simp only [Act.put, List.setIfInBounds_toArray, List.set_cons_zero, List.set_cons_succ]
          refine wpLate_two (i := 15) (j := 16) (o := ?on73_15) (u := ?on73_16) (by kernel_rfl) ?hon73_15 ?hon73_16 ?hkn73_15 ?hkn73_16
          case hon73_15 => (simp only [List.getElem?_toArray, List.getElem?_cons_zero, List.getElem?_cons_succ]; rfl)
          case hon73_16 => (simp only [List.getElem?_toArray, List.getElem?_cons_zero, List.getElem?_cons_succ]; rfl)
          case hkn73_15 =>
            intro K hK
            go_simp
            refine (C41.out _ KT.out.b).mono ?_
            rintro r w174 ⟨rfl, hbs⟩
            replace KT := Lib.hid (KT.out.call hbs)
            clear hbs
            go_simp
            refine hK.out _ _ (fun _ => KS.out _ KT.out.b) ?_
            clear hK K
            try simp only [Act.put, List.setIfInBounds_toArray, List.set_cons_zero, List.set_cons_succ]
            refine wpLate_one (i := 16) (o := ?on75_16) (by kernel_rfl) ?hon75_16 ?hkn75_16
            case hon75_16 => (simp only [List.getElem?_toArray, List.getElem?_cons_zero, List.getElem?_cons_succ]; rfl)
            intro K hK
            go_simp
            replace KT := Lib.hid (KT.out.al1)
            refine hK.out _ _ (fun _ => KS.out _ KT.out.b) ?_
            clear hK K
            obtain ⟨Da, hDn⟩ : ∃ D, D = (World.heap w174).size := ⟨_, rfl⟩
            rw [← hDn] at KT ⊢
            clear hDn
            generalize World.alloc w174 (.cells z5 48) = w176 at KT ⊢
            try simp only [Act.put, List.setIfInBounds_toArray, List.set_cons_zero, List.set_cons_succ]
            replace KT := Lib.hid KT.out.fin
            have x0 : World.cell? w176 ⟨Da, 0, none⟩ = some (.int .i64 0) := KT.out.d1.2.cell 0
            have x1 : World.cell? w176 ⟨Da, 1, none⟩ = some (.int .i64 0) := KT.out.d1.2.cell 1
            have x2 : World.cell? w176 ⟨Da, 2, none⟩ = some (.int .i64 0) := KT.out.d1.2.cell 2
            have x3 : World.cell? w176 ⟨Da, 3, none⟩ = some (.int .i64 0) := KT.out.d1.2.cell 3
            have x4 : World.cell? w176 ⟨Da, 4, none⟩ = some (.int .i64 0) := KT.out.d1.2.cell 4
            have xf := KT.out.d1.2.frozen
            have xl := KT.out.d1.2.lt
            refine wpLate_one (i := 18) (o := ?of77_18) (by kernel_rfl) ?hof77_18 ?hkf77_18
            case hof77_18 => (simp only [List.getElem?_toArray, List.getElem?_cons_zero, List.getElem?_cons_succ]; rfl)
            intro K hK
            go_simp
            replace KT := Lib.hid (KT.out.put1 X)
            refine hK.out _ _ (fun h => absurd h (by decide)) ?_
            clear hK K x0 x1 x2 x3 x4 xf xl
            refine (show wpLate _ _ _ _ _ _ _ _ _ (put5 w176 Da X) from ?_)
            generalize put5 w176 Da X = w178 at KT ⊢
            try simp only [Act.put, List.setIfInBounds_toArray, List.set_cons_zero, List.set_cons_succ]
            have x0 : World.cell? w178 ⟨Db, 0, none⟩ = some (.int .i64 0) := KT.out.d2.2.cell 0
            have x1 : World.cell? w178 ⟨Db, 1, none⟩ = some (.int .i64 0) := KT.out.d2.2.cell 1
            have x2 : World.cell? w178 ⟨Db, 2, none⟩ = some (.int .i64 0) := KT.out.d2.2.cell 2
            have x3 : World.cell? w178 ⟨Db, 3, none⟩ = some (.int .i64 0) := KT.out.d2.2.cell 3
            have x4 : World.cell? w178 ⟨Db, 4, none⟩ = some (.int .i64 0) := KT.out.d2.2.cell 4
            have xf := KT.out.d2.2.frozen
            have xl := KT.out.d2.2.lt
            refine wpLate_one (i := 19) (o := ?of77_19) (by kernel_rfl) ?hof77_19 ?hkf77_19
            case hof77_19 => (simp only [List.getElem?_toArray, List.getElem?_cons_zero, List.getElem?_cons_succ]; rfl)
            intro K hK
            go_simp
            replace KT := Lib.hid (KT.out.put2 Y)
            refine hK.out _ _ (fun h => absurd h (by decide)) ?_
            clear hK K x0 x1 x2 x3 x4 xf xl
            refine (show wpLate _ _ _ _ _ _ _ _ _ (put5 w178 Db Y) from ?_)
            generalize put5 w178 Db Y = w179 at KT ⊢
            try simp only [Act.put, List.setIfInBounds_toArray, List.set_cons_zero, List.set_cons_succ]
            refine wpLate_done (by kernel_rfl) ?_ _
            try simp only [Act.put, List.setIfInBounds_toArray, List.set_cons_zero, List.set_cons_succ]
            go_wp2_with fail
            go_meet
            exact ⟨_, _, rfl, rfl, KT⟩
          case hkn73_16 =>
            intro K hK
            go_simp
            replace KT := Lib.hid (KT.out.al1)
            refine hK.out _ _ (fun _ => KS.out _ KT.out.b) ?_
            clear hK K
            obtain ⟨Da, hDn⟩ : ∃ D, D = (World.heap w172).size := ⟨_, rfl⟩
            rw [← hDn] at KT ⊢
            clear hDn
            generalize World.alloc w172 (.cells z5 48) = w180 at KT ⊢
            try simp only [Act.put, List.setIfInBounds_toArray, List.set_cons_zero, List.set_cons_succ]
            refine wpLate_one (i := 15) (o := ?on81_15) (by kernel_rfl) ?hon81_15 ?hkn81_15
            case hon81_15 => (simp only [List.getElem?_toArray, List.getElem?_cons_zero, List.getElem?_cons_succ]; rfl)
            intro K hK
            go_simp
            refine (C41.out _ KT.out.b).mono ?_
            rintro r w182 ⟨rfl, hbs⟩
            replace KT := Lib.hid (KT.out.call hbs)
            clear hbs
            go_simp
            refine hK.out _ _ (fun _ => KS.out _ KT.out.b) ?_
            clear hK K
            try simp only [Act.put, List.setIfInBounds_toArray, List.set_cons_zero, List.set_cons_succ]
            replace KT := Lib.hid KT.out.fin
            have x0 : World.cell? w182 ⟨Da, 0, none⟩ = some (.int .i64 0) := KT.out.d1.2.cell 0
            have x1 : World.cell? w182 ⟨Da, 1, none⟩ = some (.int .i64 0) := KT.out.d1.2.cell 1
            have x2 : World.cell? w182 ⟨Da, 2, none⟩ = some (.int .i64 0) := KT.out.d1.2.cell 2
            have x3 : World.cell? w182 ⟨Da, 3, none⟩ = some (.int .i64 0) := KT.out.d1.2.cell 3
            have x4 : World.cell? w182 ⟨Da, 4, none⟩ = some (.int .i64 0) := KT.out.d1.2.cell 4
            have xf := KT.out.d1.2.frozen
            have xl := KT.out.d1.2.lt
            refine wpLate_one (i := 18) (o := ?of83_18) (by kernel_rfl) ?hof83_18 ?hkf83_18
            case hof83_18 => (simp only [List.getElem?_toArray, List.getElem?_cons_zero, List.getElem?_cons_succ]; rfl)
            intro K hK
            go_simp
            replace KT := Lib.hid (KT.out.put1 X)
            refine hK.out _ _ (fun h => absurd h (by decide)) ?_
            clear hK K x0 x1 x2 x3 x4 xf xl
            refine (show wpLate _ _ _ _ _ _ _ _ _ (put5 w182 Da X) from ?_)
            generalize put5 w182 Da X = w184 at KT ⊢
            try simp only [Act.put, List.setIfInBounds_toArray, List.set_cons_zero, List.set_cons_succ]
            have x0 : World.cell? w184 ⟨Db, 0, none⟩ = some (.int .i64 0) := KT.out.d2.2.cell 0
            have x1 : World.cell? w184 ⟨Db, 1, none⟩ = some (.int .i64 0) := KT.out.d2.2.cell 1
            have x2 : World.cell? w184 ⟨Db, 2, none⟩ = some (.int .i64 0) := KT.out.d2.2.cell 2
            have x3 : World.cell? w184 ⟨Db, 3, none⟩ = some (.int .i64 0) := KT.out.d2.2.cell 3
            have x4 : World.cell? w184 ⟨Db, 4, none⟩ = some (.int .i64 0) := KT.out.d2.2.cell 4
            have xf := KT.out.d2.2.frozen
            have xl := KT.out.d2.2.lt
            refine wpLate_one (i := 19) (o := ?of83_19) (by kernel_rfl) ?hof83_19 ?hkf83_19
            case hof83_19 => (simp only [List.getElem?_toArray, List.getElem?_cons_zero, List.getElem?_cons_succ]; rfl)
            intro K hK
            go_simp
            replace KT := Lib.hid (KT.out.put2 Y)
            refine hK.out _ _ (fun h => absurd h (by decide)) ?_
            clear hK K x0 x1 x2 x3 x4 xf xl
            refine (show wpLate _ _ _ _ _ _ _ _ _ (put5 w184 Db Y) from ?_)
            generalize put5 w184 Db Y = w185 at KT ⊢
            try simp only [Act.put, List.setIfInBounds_toArray, List.set_cons_zero, List.set_cons_succ]
            refine wpLate_done (by kernel_rfl) ?_ _
            try simp only [Act.put, List.setIfInBounds_toArray, List.set_cons_zero, List.set_cons_succ]
            go_wp2_with fail
            go_meet
            exact ⟨_, _, rfl, rfl, KT⟩
        case hkn71_16 =>
          intro K hK
          go_simp
          replace KT := Lib.hid (KT.out.al1)
          refine hK.out _ _ (fun _ => KS.out _ KT.out.b) ?_
          clear hK K
          obtain ⟨Da, hDn⟩ : ∃ D, D = (World.heap w170).size := ⟨_, rfl⟩
          rw [← hDn] at KT ⊢
          clear hDn
          generalize World.alloc w170 (.cells z5 48) = w186 at KT ⊢
          try simp only [Act.put, List.setIfInBounds_toArray, List.set_cons_zero, List.set_cons_succ]
          refine wpLate_one (i := 7) (o := ?on87_7) (by kernel_rfl) ?hon87_7 ?hkn87_7
          case hon87_7 => (simp only [List.getElem?_toArray, List.getElem?_cons_zero, List.getElem?_cons_succ]; rfl)
          intro K hK
          go_simp
          refine (C40.out _ KT.out.b).mono ?_
          rintro r w188 ⟨rfl, hbs⟩
          replace KT := Lib.hid (KT.out.call hbs)
          clear hbs
          go_simp
          refine hK.out _ _ (fun _ => KS.out _ KT.out.b) ?_
          clear hK K
          try simp only [Act.put, List.setIfInBounds_toArray, List.set_cons_zero, List.set_cons_succ]
          refine wpLate_one (i := 15) (o := ?on89_15) (by kernel_rfl) ?hon89_15 ?hkn89_15
          case hon89_15 => (simp only [List.getElem?_toArray, List.getElem?_cons_zero, List.getElem?_cons_succ]; rfl)
          intro K hK
          go_simp
          refine (C41.out _ KT.out.b).mono ?_
          rintro r w190 ⟨rfl, hbs⟩
          replace KT := Lib.hid (KT.out.call hbs)
          clear hbs
          go_simp
          refine hK.out _ _ (fun _ => KS.out _ KT.out.b) ?_
          clear hK K
          try simp only [Act.put, List.setIfInBounds_toArray, List.set_cons_zero, List.set_cons_succ]
          replace KT := Lib.hid KT.out.fin
          have x0 : World.cell? w190 ⟨Da, 0, none⟩ = some (.int .i64 0) := KT.out.d1.2.cell 0
          have x1 : World.cell? w190 ⟨Da, 1, none⟩ = some (.int .i64 0) := KT.out.d1.2.cell 1
          have x2 : World.cell? w190 ⟨Da, 2, none⟩ = some (.int .i64 0) := KT.out.d1.2.cell 2
          have x3 : World.cell? w190 ⟨Da, 3, none⟩ = some (.int .i64 0) := KT.out.d1.2.cell 3
          have x4 : World.cell? w190 ⟨Da, 4, none⟩ = some (.int .i64 0) := KT.out.d1.2.cell 4
          have xf := KT.out.d1.2.frozen
          have xl := KT.out.d1.2.lt
          refine wpLate_one (i := 18) (o := ?of91_18) (by kernel_rfl) ?hof91_18 ?hkf91_18
          case hof91_18 => (simp only [List.getElem?_toArray, List.getElem?_cons_zero, List.getElem?_cons_succ]; rfl)
          intro K hK
          go_simp
          replace KT := Lib.hid (KT.out.put1 X)
          refine hK.out _ _ (fun h => absurd h (by decide)) ?_
          clear hK K x0 x1 x2 x3 x4 xf xl
          refine (show wpLate _ _ _ _ _ _ _ _ _ (put5 w190 Da X) from ?_)
          generalize put5 w190 Da X = w192 at KT ⊢
          try simp only [Act.put, List.setIfInBounds_toArray, List.set_cons_zero, List.set_cons_succ]
          have x0 : World.cell? w192 ⟨Db, 0, none⟩ = some (.int .i64 0) := KT.out.d2.2.cell 0
          have x1 : World.cell? w192 ⟨Db, 1, none⟩ = some (.int .i64 0) := KT.out.d2.2.cell 1
          have x2 : World.cell? w192 ⟨Db, 2, none⟩ = some (.int .i64 0) := KT.out.d2.2.cell 2
          have x3 : World.cell? w192 ⟨Db, 3, none⟩ = some (.int .i64 0) := KT.out.d2.2.cell 3
          have x4 : World.cell? w192 ⟨Db, 4, none⟩ = some (.int .i64 0) := KT.out.d2.2.cell 4
          have xf := KT.out.d2.2.frozen
          have xl := KT.out.d2.2.lt
          refine wpLate_one (i := 19) (o := ?of91_19) (by kernel_rfl) ?hof91_19 ?hkf91_19
          case hof91_19 => (simp only [List.getElem?_toArray, List.getElem?_cons_zero, List.getElem?_cons_succ]; rfl)
          intro K hK
          go_simp
          replace KT := Lib.hid (KT.out.put2 Y)
          refine hK.out _ _ (fun h => absurd h (by decide)) ?_
          clear hK K x0 x1 x2 x3 x4 xf xl
          refine (show wpLate _ _ _ _ _ _ _ _ _ (put5 w192 Db Y) from ?_)
          generalize put5 w192 Db Y = w193 at KT ⊢
          try simp only [Act.put, List.setIfInBounds_toArray, List.set_cons_zero, List.set_cons_succ]
          refine wpLate_done (by kernel_rfl) ?_ _
          try simp only [Act.put, List.setIfInBounds_toArray, List.set_cons_zero, List.set_cons_succ]
          go_wp2_with fail
          go_meet
          exact ⟨_, _, rfl, rfl, KT⟩
    obtain ⟨D1, D2, rfl, rfl, HT⟩ := hcut
    rename World => wx
    have HNE := Lib.hid (show D1 ≠ W.heap.size + 1 ∧ D2 ≠ W.heap.size + 1 from ⟨by have := HT.out.d1.1; have := HW.out.fw.lt; omega, by have := HT.out.d2.1; have := HW.out.fw.lt; omega⟩)
    have HW2 := Lib.hid (HW.out.step HT.out.b)
    have d0 : wx.cell? ⟨D1, 0, none⟩ = some (.int .i64 X.w) := HT.out.d1.2.cell 0
    have d1 : wx.cell? ⟨D2, 0, none⟩ = some (.int .i64 Y.w) := HT.out.d2.2.cell 0
    have l0 : wx.cell? ⟨W.heap.size + 1, 0, none⟩ = some (.int .i64 lw) := HW2.out.fw.cell 0
    have l1 : wx.cell? ⟨W.heap.size + 1, 1, none⟩ = some (.int .i64 hw) := HW2.out.fw.cell 1
    have lf := HW2.out.fw.frozen
    have ll := HW2.out.fw.lt
    go_upto_region 9 with fail
    have HW3 := Lib.hid (HW2.out.setW X.w Y.w)
    have HT3 := Lib.hid (And.intro ((HT.out.d1.2.far (p := ⟨W.heap.size + 1, 0, none⟩) HNE.out.1 (.int .i64 X.w)).far (p := ⟨W.heap.size + 1, 1, none⟩) HNE.out.1 (.int .i64 Y.w)) ((HT.out.d2.2.far (p := ⟨W.heap.size + 1, 0, none⟩) HNE.out.2 (.int .i64 X.w)).far (p := ⟨W.heap.size + 1, 1, none⟩) HNE.out.2 (.int .i64 Y.w)))
    clear d0 d1 l0 l1 lf ll
    generalize (wx.setCell ⟨W.heap.size + 1, 0, none⟩ (.int .i64 X.w)).setCell ⟨W.heap.size + 1, 1, none⟩ (.int .i64 Y.w) = w9 at HW3 HT3 ⊢
    have e0 : w9.cell? ⟨D1, 4, none⟩ = some (.int .i64 X.dew) := HT3.out.1.cell 4
    have e1 : w9.cell? ⟨D2, 4, none⟩ = some (.int .i64 Y.dew) := HT3.out.2.cell 4
    obtain ⟨sv, hsv⟩ : ∃ x, x = fogS lo (msOf a L) k := ⟨_, rfl⟩
    obtain ⟨pv, hpv⟩ : ∃ x, x = fogP hi (msOf a L) k := ⟨_, rfl⟩
    rw [← hsv, ← hpv] at HN ⊢
    clear hsv hpv HT HW2 HW KS C40 C41 HNE
    obtain ⟨xd, hxd⟩ : ∃ x, x = X.dew := ⟨_, rfl⟩
    obtain ⟨yd, hyd⟩ : ∃ x, x = Y.dew := ⟨_, rfl⟩
    rw [← hxd] at e0 HN
    rw [← hyd] at e1 HN
    clear hxd hyd
    have hx3 : ¬ 0 < xd ∨ (0 < xd ∧ ¬ sv < 0) ∨ (0 < xd ∧ sv < 0) := by omega
    have hy3 : ¬ 0 < yd ∨ (0 < yd ∧ ¬ pv < 0) ∨ (0 < yd ∧ pv < 0) := by omega
    rcases hx3 with hx | ⟨hx, hx'⟩ | ⟨hx, hx'⟩ <;> rcases hy3 with hy | ⟨hy, hy'⟩ | ⟨hy, hy'⟩
    all_goals
      first
      | have N1 := HN.out.1.1.trans (if_neg (fun h => hx h.2))
      | have N1 := HN.out.1.1.trans (if_neg (fun h => hx' h.1))
      | have N1 := HN.out.1.1.trans (if_pos ⟨hx', hx⟩)
      first
      | have N2 := HN.out.1.2.trans (if_neg (fun h => hy h.2))
      | have N2 := HN.out.1.2.trans (if_neg (fun h => hy' h.1))
      | have N2 := HN.out.1.2.trans (if_pos ⟨hy', hy⟩)
      have HE := Lib.hid (And.intro (And.intro N1 N2) HN.out.2)
      clear N1 N2 HN
      go_wp2_with fail
      go_roundg (L.length - (k + 1))
      case measure => omega
      case rel => exact ⟨k + 1, by omega, Nat.le_refl _, by go_num, by rw [HE.out.1.1], by rw [HE.out.1.2], by rw [HE.out.2.1, HE.out.2.2]; exact HW3⟩
end Go.Proofs.Ytdmpkeaanaoeaaa
