/- Contract: Travel. -/
import Derived.Test.YtljkgjfmambfoaaDoorLgH
namespace Go.Proofs.YtljkgjfmambfoaaDoor
open Go.RowKit Go.Shelf
attribute [local go_sem] Oper.semAt_some
attribute [local irreducible] wpQuiet
def wayK (F : List (List Int)) (t : Int) (G : List Gm) (k : Nat) : Int × Int := ((ofT t G).take k).foldl (fun s g => (s.1 + farA F s.2 g.home, g.home)) (0, t)
theorem way_succ {F : List (List Int)} {t : Int} {G : List Gm} {k : Nat} {g : Gm} (h : (ofT t G)[k]? = some g) : wayK F t G (k + 1) = ((wayK F t G k).1 + farA F (wayK F t G k).2 g.home, g.home) := by
  obtain ⟨hk, rfl⟩ := List.getElem?_eq_some_iff.1 h
  unfold wayK
  rw [List.take_succ_eq_append_getElem hk, List.foldl_append]
  rfl
theorem way_all (F : List (List Int)) (t : Int) (G : List Gm) : wayK F t G (ofT t G).length = wayP F t G := by
  unfold wayK wayP
  rw [List.take_of_length_le (Nat.le_refl _)]
theorem far_bd {x : Lg} (h : VL x) (a b : Int) : 0 ≤ farA x.F a b ∧ farA x.F a b ≤ 100000 := by
  unfold farA
  by_cases h1 : a.toNat < x.F.length
  · rw [List.getElem?_eq_getElem h1]
    have hr := h.fr _ (List.getElem_mem h1)
    simp only [Option.getD_some]
    by_cases h2 : b.toNat < x.F[a.toNat].length
    · rw [List.getElem?_eq_getElem h2]
      exact hr.2 _ (List.getElem_mem h2)
    · rw [List.getElem?_eq_none (by omega)]; decide
  · have e : x.F[a.toNat]? = none := List.getElem?_eq_none (by omega)
    rw [e]; simp
theorem way_bd {x : Lg} (hv : VL x) {t : Int} (ht : teamB x.F.length t = true) : ∀ k, k ≤ (ofT t x.G).length → (0 ≤ (wayK x.F t x.G k).1 ∧ (wayK x.F t x.G k).1 ≤ 100000 * k) ∧ 0 ≤ (wayK x.F t x.G k).2 ∧ (wayK x.F t x.G k).2 < x.F.length
  | 0, _ => by
    have h0 : wayK x.F t x.G 0 = (0, t) := by simp [wayK]
    rw [h0]
    unfold teamB inB at ht
    simp only [decide_eq_true_eq] at ht
    exact ⟨⟨Int.le_refl _, by simp⟩, by simp only; omega, by simp only; omega⟩
  | k + 1, hk => by
    have ih := way_bd hv ht k (by omega)
    have hg : (ofT t x.G)[k]? = some (ofT t x.G)[k] := List.getElem?_eq_getElem (by omega)
    rw [way_succ hg]
    have h1 := far_bd hv (wayK x.F t x.G k).2 (ofT t x.G)[k].home
    have h2 := (hv.g _ (ofT_mem (List.getElem_mem (by omega : k < (ofT t x.G).length)))).h
    exact ⟨by simp only; omega, by simp only; exact h2⟩
/-- what is found in the table of ways -/
theorem far_cells {w : World} {B : Nat} {x : Lg} {AF AG : Option Addr} (h : LgR w B x AF AG) (hv : VL x) {a b : Nat} (ha : a < x.F.length) (hb : b < x.F.length) :
    ∃ g o g' o' c, AF = some ⟨g, o, none⟩ ∧ w.cell? ⟨g, o + a, none⟩ = some (.slice (some ⟨g', o', none⟩) x.F.length c) ∧ w.cell? ⟨g', o' + b, none⟩ = some (.int .i64 (farA x.F a b)) := by
  obtain ⟨g, o, M, c, e, h1, h2, -⟩ := farRow_cell h.f ha
  have hl := (hv.fr _ (List.getElem_mem ha)).1
  obtain ⟨g', o', e', -, h3⟩ := h2 b (by omega)
  subst e'
  refine ⟨g, o, g', o', c, e, by rw [h1, hl], ?_⟩
  rw [h3]
  unfold farA
  simp only [Int.toNat_natCast]
  rw [List.getElem?_eq_getElem ha]
  simp only [Option.getD_some]
  rw [List.getElem?_eq_getElem (by omega)]
  rfl
/-- Travel, at work -/
structure TrI (W w : World) (D : Nat) (x : Lg) (AF AG : Option Addr) (cf cg : Nat) (t n h : Int) : Prop where
  lx : LX W w W.heap.size x AF AG cf cg
  fl : Has w D 3 #[.int .i64 n]
  fh : Has w (D + 1) 3 #[.int .i64 h]
  it : GIt w (D + 1 + 1) (D + 1 + 1 + 1) x.G t AG cg
  lt : W.heap.size < D
section
variable {W w w' : World} {D : Nat} {x : Lg} {AF AG : Option Addr} {cf cg : Nat} {t n h : Int}
theorem TrI.step (H : TrI W w D x AF AG cf cg t n h) (hb : Below w.heap.size w w') : TrI W w' D x AF AG cf cg t n h := ⟨H.lx.step hb, H.fl.below hb H.fl.lt, H.fh.below hb H.fh.lt, H.it.step hb, H.lt⟩
theorem LX.loop {E l : Nat} {rc : Loop} (H : LX W w E x AF AG cf cg) (hWl : W.heap.size ≤ l) (hl : w.heap[l]? = some (.loop rc)) (ho : Only (· = l) w w') : LX W w' E x AF AG cf cg :=
  ⟨below_loop H.b hWl ho, H.fx.only ho (has_ne_loop H.fx hl), H.r.below (below_loop (W := W) (w := w) (w' := w') H.b hWl ho |> fun _ => ⟨ho.os, ho.tape, ho.output, ho.size, fun k hk => ho.block k (by have := H.b.size; omega) (by omega)⟩)⟩
theorem TrI.loop {l : Nat} {rc : Loop} (H : TrI W w D x AF AG cf cg t n h) (hWl : W.heap.size ≤ l) (hl : w.heap[l]? = some (.loop rc)) (ho : Only (· = l) w w') : TrI W w' D x AF AG cf cg t n h :=
  ⟨H.lx.loop hWl hl ho, H.fl.only ho (has_ne_loop H.fl hl), H.fh.only ho (has_ne_loop H.fh hl), H.it.loop hl ho, H.lt⟩
theorem LX.far {E P : Nat} (H : LX W w E x AF AG cf cg) (hP : W.heap.size ≤ P) (hE : E ≠ P) (v : Value) : LX W (w.setCell ⟨P, 0, none⟩ v) E x AF AG cf cg := by
  have hb : Below W.heap.size w (w.setCell ⟨P, 0, none⟩ v) := (Below.refl _ _).setCell (p := ⟨P, 0, none⟩) hP _
  exact ⟨H.b.trans hb, H.fx.only (only_cell w P 0 v) hE, H.r.below hb⟩
theorem TrI.setL (H : TrI W w D x AF AG cf cg t n h) (m : Int) : TrI W (w.setCell ⟨D, 0, none⟩ (.int .i64 m)) D x AF AG cf cg t m h := by
  have ho := only_cell w D 0 (.int .i64 m)
  have hlt := H.lt
  exact ⟨H.lx.far (by omega) (by omega) _, H.fl.set 0 _, H.fh.only ho (by show ¬ D + 1 = D; omega), ⟨H.it.fg.only ho (by show ¬ D + 1 + 1 = D; omega), H.it.ft.only ho (by show ¬ D + 1 + 1 + 1 = D; omega), row_far (n := 0) H.it.r H.fl (by simp) _, H.it.l⟩, hlt⟩
theorem TrI.setH (H : TrI W w D x AF AG cf cg t n h) (m : Int) : TrI W (w.setCell ⟨D + 1, 0, none⟩ (.int .i64 m)) D x AF AG cf cg t n m := by
  have ho := only_cell w (D + 1) 0 (.int .i64 m)
  have hlt := H.lt
  exact ⟨H.lx.far (by omega) (by omega) _, H.fl.only ho (by show ¬ D = D + 1; omega), H.fh.set 0 _, ⟨H.it.fg.only ho (by show ¬ D + 1 + 1 = D + 1; omega), H.it.ft.only ho (by show ¬ D + 1 + 1 + 1 = D + 1; omega), row_far (n := 0) H.it.r H.fh (by simp) _, H.it.l⟩, hlt⟩
end
theorem has_ne {w : World} {A B : Nat} {t t' : TypeId} {cs cs' : Array Value} (h : Has w A t cs) (h' : Has w B t' cs') (ht : t ≠ t') : ¬ A = B := fun e => by
  unfold Has at h h'
  rw [e, h'] at h
  cases h
  exact ht rfl
set_option maxRecDepth 100000 in
set_option maxHeartbeats 2000000 in
theorem Travel_any (x : Lg) (AF AG : Option Addr) (cf cg : Nat) (t : Int) (W : World) (hr : LgR W W.heap.size x AF AG) :
    Calls Tryd.prog 13 #[lgv x AF AG cf cg, .int .i64 t] W (IEPost (travR x t) W) := by
  have HB : Hid (LX W (W.alloc (.cells (lgc x AF AG cf cg) 25)) W.heap.size x AF AG cf cg) := Lib.hid (LX.start hr)
  have HV := Lib.hid (fun w (h : LX W w W.heap.size x AF AG cf cg) => validLeague_any x AF AG cf cg w h.up)
  have HT := Lib.hid (fun w (h : LX W w W.heap.size x AF AG cf cg) => isTeam_any x AF AG cf cg t w h.up)
  have HG := Lib.hid (fun w => gamesOf_any AG x.G.length cg t w)
  have HX : Hid (travR x t = if lgB x then if teamB x.F.length t then ((wayP x.F t x.G).1 + farA x.F (wayP x.F t x.G).2 t, 0) else (0, 2) else (0, 1)) := Lib.hid rfl
  have HL := Lib.hid hr.lg
  obtain ⟨X, hX⟩ : ∃ X, X = travR x t := ⟨_, rfl⟩
  rw [← hX] at HX ⊢
  clear hr hX
  unfold lgv at *
  refine (callsIn_wide (n := 3)).1 ?_
  refine callsIn_of_wp_marks Tryd.func13 rfl trivial ?_
  simp only [Tryd.ntmps13, List.size_toArray, List.length_cons, List.length_nil, Nat.reduceAdd, Nat.reduceSub, Array.replicate_succ, Array.replicate_zero, List.push_toArray, List.append_toArray, List.nil_append, List.cons_append]
  refine wpIn_wide.2 ?_
  go_upto_region 1 with fail
  generalize W.alloc (.cells (lgc x AF AG cf cg) 25) = w9 at HB ⊢
  have x0 : w9.cell? ⟨W.heap.size, 0, none⟩ = some (.slice AF x.F.length cf) := HB.out.fx.cell 0
  have x1 : w9.cell? ⟨W.heap.size, 1, none⟩ = some (.slice AG x.G.length cg) := HB.out.fx.cell 1
  have HV9 := Lib.hid (HV.out w9 HB.out)
  clear HV
  cases hlg : lgB x <;> rw [hlg] at HV9
  · have HE : Hid (X = (0, 1)) := Lib.hid (by rw [HX.out, hlg]; rfl)
    clear HX hlg
    go_wp2_with fail
    refine HV9.out.mono ?_
    rintro e w1 ⟨rfl, hb1⟩
    have H1 := Lib.hid (HB.out.step hb1)
    clear hb1 x0 x1 HB
    go_wp2_with fail
    exact leave_ret00 (v := .tuple #[.int .i64 0, .int .i64 1]) (by simp [results, Tryd.results13, go_sem]) ⟨ie_ret HE.out, H1.out.b⟩
  have HVL := Lib.hid (vl_of hlg)
  go_wp2_with fail
  refine HV9.out.mono ?_
  rintro e w1 ⟨rfl, hb1⟩
  have H1 := Lib.hid (HB.out.step hb1)
  clear hb1 x0 x1 HB HV9
  have x0 : w1.cell? ⟨W.heap.size, 0, none⟩ = some (.slice AF x.F.length cf) := H1.out.fx.cell 0
  have x1 : w1.cell? ⟨W.heap.size, 1, none⟩ = some (.slice AG x.G.length cg) := H1.out.fx.cell 1
  have HT1 := Lib.hid (HT.out w1 H1.out)
  clear HT
  cases htm : teamB x.F.length t <;> rw [htm] at HT1
  · have HE : Hid (X = (0, 2)) := Lib.hid (by rw [HX.out, hlg, htm]; rfl)
    clear HX hlg htm
    go_wp2_with fail
    refine HT1.out.mono ?_
    rintro e w2 ⟨rfl, hb2⟩
    have H2 := Lib.hid (H1.out.step hb2)
    clear hb2 x0 x1 H1
    go_wp2_with fail
    exact leave_ret00 (v := .tuple #[.int .i64 0, .int .i64 2]) (by simp [results, Tryd.results13, go_sem]) ⟨ie_ret HE.out, H2.out.b⟩
  have HE : Hid (X = ((wayP x.F t x.G).1 + farA x.F (wayP x.F t x.G).2 t, 0)) := Lib.hid (by rw [HX.out, hlg, htm]; rfl)
  have HBD := Lib.hid (fun k hk => way_bd HVL.out htm k hk)
  have HWS := Lib.hid (fun k g (h : (ofT t x.G)[k]? = some g) => way_succ (F := x.F) h)
  have HLen : Hid ((ofT t x.G).length ≤ 64) := Lib.hid (by have := List.length_filter_le (hasB t) x.G; have := HVL.out.ng; unfold ofT; omega)
  have HTM : Hid (0 ≤ t ∧ t < x.F.length) := Lib.hid (by unfold teamB inB at htm; simp only [decide_eq_true_eq] at htm; omega)
  have HFB := Lib.hid (fun a b => far_bd HVL.out a b)
  clear HX hlg htm
  go_wp2_with fail
  refine HT1.out.mono ?_
  rintro e w2 ⟨rfl, hb2⟩
  have H2 := Lib.hid (H1.out.step hb2)
  clear hb2 x0 x1 H1 HT1
  have x1 : w2.cell? ⟨W.heap.size, 1, none⟩ = some (.slice AG x.G.length cg) := H2.out.fx.cell 1
  have xl := H2.out.fx.lt
  go_wp2_with fail
  refine (HG.out _).mono ?_
  rintro e w3 ⟨rfl, rfl⟩
  have H0 : Hid (TrI W ((((w2.alloc (.cells #[.int .i64 0] 3)).alloc (.cells #[.int .i64 t] 3)).alloc (.cells #[.slice AG x.G.length cg] 23)).alloc (.cells #[.int .i64 t] 3)) w2.heap.size x AF AG cf cg t (wayK x.F t x.G 0).1 (wayK x.F t x.G 0).2) := by
    have h1 : Below w2.heap.size w2 ((w2.alloc (.cells #[.int .i64 0] 3)).alloc (.cells #[.int .i64 t] 3)) := below_two w2 _ _
    have h2 := git_new (W := (w2.alloc (.cells #[.int .i64 0] 3)).alloc (.cells #[.int .i64 t] 3)) (c := cg) (t := t) ((H2.out.up.g.below h1).more h1.size) HL.out
    rw [World.size_alloc, World.size_alloc] at h2
    have h3 : Below w2.heap.size w2 ((((w2.alloc (.cells #[.int .i64 0] 3)).alloc (.cells #[.int .i64 t] 3)).alloc (.cells #[.slice AG x.G.length cg] 23)).alloc (.cells #[.int .i64 t] 3)) := h1.trans ((below_two _ _ _).mono (by simp; omega))
    have e0 : wayK x.F t x.G 0 = (0, t) := by simp [wayK]
    rw [e0]
    exact Lib.hid ⟨H2.out.step h3, (((Has.new _ _ _).alloc _).alloc _).alloc _, ((has_newAt (by simp)).alloc _).alloc _, h2, xl⟩
  have HZ4 : Hid (((((w2.alloc (.cells #[.int .i64 0] 3)).alloc (.cells #[.int .i64 t] 3)).alloc (.cells #[.slice AG x.G.length cg] 23)).alloc (.cells #[.int .i64 t] 3)).heap.size = w2.heap.size + 4 ∧ W.heap.size < w2.heap.size) := Lib.hid ⟨by simp, xl⟩
  clear x1 xl H2 HG
  go_wp2_with fail
  generalize (((w2.alloc (.cells #[.int .i64 0] 3)).alloc (.cells #[.int .i64 t] 3)).alloc (.cells #[.slice AG x.G.length cg] 23)).alloc (.cells #[.int .i64 t] 3) = w0 at H0 HZ4 ⊢
  generalize w2.heap.size = D at H0 HZ4 ⊢
  refine wp_range_seq (gf := 53) (xs := (ofT t x.G).map fun g => #[gmv g]) (Rd := fun w => GIt w (D + 1 + 1) (D + 1 + 1 + 1) x.G t AG cg) rfl enters53 (games_it _ _ x.G t AG cg) xs_size
    (fun i => i = D ∨ i = D + 1) (fun k w => TrI W w D x AF AG cf cg t (wayK x.F t x.G k).1 (wayK x.F t x.G k).2) (fun _ _ => False)
    (fun i hi => by have := HZ4.out; omega) (fun k w h => h.it) (fun k w w' h hb => h.step hb) (fun k l w w' rc h h1 h2 h3 => h.loop (by have := HZ4.out; omega) h2 h3) (fun cd l w w' rc h h1 h2 h3 => h)
    H0.out ?round ?q0 ?q1
  case round =>
    intro k args l rc W1 hk hI hlt hlr
    obtain ⟨g, hg, rfl⟩ := xs_at hk
    have hkl := (List.getElem?_eq_some_iff.1 hg).1
    have HI := Lib.hid (And.intro hI (And.intro hlt hlr))
    have HSk := Lib.hid (HWS.out k g hg)
    have HVG := Lib.hid (HVL.out.g g (ofT_mem (List.mem_of_getElem? hg)))
    have hbd := HBD.out k (by omega)
    have hkb : (k : Int) ≤ 64 := by have := HLen.out; omega
    clear hk hI hg hlt hlr H0 HE hkl
    rw [show gmv g = .agg (gmc g) from rfl, zip1]
    gi_wp2_with (fail)
    have H1 : Hid (TrI W (W1.alloc (.cells (gmc g) 53)) D x AF AG cf cg t (wayK x.F t x.G k).1 (wayK x.F t x.G k).2 ∧ Has (W1.alloc (.cells (gmc g) 53)) W1.heap.size 53 (gmc g) ∧ (W1.alloc (.cells (gmc g) 53)).heap[l]? = some (.loop rc) ∧ l < W1.heap.size) := Lib.hid ⟨HI.out.1.step (below_one _ _), Has.new _ _ _, (Below.heap_alloc _ _ _ (Array.getElem?_eq_some_iff.1 HI.out.2.2).1).trans HI.out.2.2, (Array.getElem?_eq_some_iff.1 HI.out.2.2).1⟩
    refine (show Below _ _ _ ∧ _ from ⟨below_one _ _, ?_⟩)
    generalize W1.alloc (.cells (gmc g) 53) = w1 at H1 ⊢
    generalize W1.heap.size = E at H1 ⊢
    intro w2 rc' ho hl2
    have H2 : Hid (TrI W w2 D x AF AG cf cg t (wayK x.F t x.G k).1 (wayK x.F t x.G k).2 ∧ Has w2 E 53 (gmc g)) := Lib.hid ⟨H1.out.1.loop (by have := HI.out.2.1; have := HZ4.out; omega) H1.out.2.2.1 ho, H1.out.2.1.only ho (by have := H1.out.2.2.2; omega)⟩
    clear ho hl2 H1 HI
    obtain ⟨n, hn⟩ : ∃ n, n = (wayK x.F t x.G k).1 := ⟨_, rfl⟩
    obtain ⟨h, hh⟩ : ∃ h : Nat, (wayK x.F t x.G k).2 = (h : Int) := ⟨(wayK x.F t x.G k).2.toNat, by omega⟩
    rw [hh, ← hn] at H2 hbd HSk
    obtain ⟨j, hj⟩ : ∃ j : Nat, g.home = (j : Int) := ⟨g.home.toNat, by have := HVG.out.h; omega⟩
    have hj2 : j < x.F.length := by have := HVG.out.h; omega
    have hh2 : h < x.F.length := by omega
    rw [hj] at HSk
    have HJ := Lib.hid hj
    have hfb := HFB.out h j
    obtain ⟨gF, oF, gR, oR, cR, hAF, cF, cR2⟩ := far_cells H2.out.1.lx.r HVL.out hh2 hj2
    obtain ⟨v, hv⟩ : ∃ v, v = farA x.F h j := ⟨_, rfl⟩
    rw [← hv] at HSk hfb cR2
    clear hn hh hj hv
    have y1 : w2.cell? ⟨E, 1, none⟩ = some (.int .i64 (j : Int)) := by rw [← HJ.out]; exact H2.out.2.cell 1
    have x0 : w2.cell? ⟨W.heap.size, 0, none⟩ = some (.slice AF x.F.length cf) := H2.out.1.lx.fx.cell 0
    have n0 : w2.cell? ⟨D, 0, none⟩ = some (.int .i64 n) := H2.out.1.fl.cell 0
    have h0 : w2.cell? ⟨D + 1, 0, none⟩ = some (.int .i64 (h : Int)) := H2.out.1.fh.cell 0
    have nf := H2.out.1.fl.frozen 0
    have nl := H2.out.1.fl.lt
    have e1 : IntKind.i64.wrap (n + v) = n + v := IntWalk.i64_in _ (by omega)
    have hj3 : (j : Int) < x.F.length := by omega
    have hh3 : (h : Int) < x.F.length := by omega
    rw [hAF] at x0
    have HAF := Lib.hid hAF
    clear hAF hfb
    gi_upto_region 8 with (fail)
    refine still_tail_round 11 (by kernel_rfl) (by kernel_rfl) (by kernel_rfl) (by rintro ⟨_, _, h⟩; exact h) ?_
    simp only [List.take_succ_cons, List.take_zero, List.drop_succ_cons, List.drop_zero]
    repeat still_step
    refine wpStill_nil ?_
    go_wp2_with fail
    have H3 := Lib.hid (And.intro ((H2.out.1.setL (n + v)).step (Below.refl _ _).drew) (And.intro (Has.drew (H2.out.2.only (only_cell w2 D 0 (.int .i64 (n + v))) (has_ne H2.out.2 H2.out.1.fl (by decide)))) (Only.drew ((only_cell w2 D 0 (.int .i64 (n + v))).weak (S' := fun i => i = D ∨ i = D + 1) (fun i hi => .inl hi)))))
    generalize (w2.setCell ⟨D, 0, none⟩ (.int .i64 (n + v))).drew = w3 at H3 ⊢
    clear y1 x0 n0 h0 nf nl e1 H2 cF cR2
    have y1 : w3.cell? ⟨E, 1, none⟩ = some (.int .i64 (j : Int)) := by rw [← HJ.out]; exact H3.out.2.1.cell 1
    have h0 : w3.cell? ⟨D + 1, 0, none⟩ = some (.int .i64 (h : Int)) := H3.out.1.fh.cell 0
    have hf := H3.out.1.fh.frozen 0
    have hl := H3.out.1.fh.lt
    gi_wp2_with (fail)
    exact RQ.next (H3.out.2.2.trans ((only_cell w3 (D + 1) 0 (.int .i64 (j : Int))).weak (S' := fun i => i = D ∨ i = D + 1) (fun i hi => .inr hi))) (by rw [HSk.out]; exact H3.out.1.setH (j : Int))
  case q0 =>
    intro w' hI hD
    rw [List.length_map] at hI
    have HI := Lib.hid (And.intro hI hD)
    have hbd := HBD.out _ (Nat.le_refl _)
    have hkb : ((ofT t x.G).length : Int) ≤ 64 := by have := HLen.out; omega
    clear hI hD H0
    rw [way_all] at HI hbd
    obtain ⟨n, hn⟩ : ∃ n, n = (wayP x.F t x.G).1 := ⟨_, rfl⟩
    obtain ⟨h, hh⟩ : ∃ h : Nat, (wayP x.F t x.G).2 = (h : Int) := ⟨(wayP x.F t x.G).2.toNat, by omega⟩
    rw [hh, ← hn] at HI hbd HE
    have hh2 : h < x.F.length := by omega
    obtain ⟨j, hj⟩ : ∃ j : Nat, t = (j : Int) := ⟨t.toNat, by have := HTM.out; omega⟩
    have hj2 : j < x.F.length := by have := HTM.out; omega
    have hfb := HFB.out h j
    rw [hj] at HE HI ⊢
    obtain ⟨gF, oF, gR, oR, cR, hAF, cF, cR2⟩ := far_cells HI.out.1.lx.r HVL.out hh2 hj2
    obtain ⟨v, hv⟩ : ∃ v, v = farA x.F h j := ⟨_, rfl⟩
    rw [← hv] at HE hfb cR2
    clear hn hh hj hv
    have x0 : w'.cell? ⟨W.heap.size, 0, none⟩ = some (.slice AF x.F.length cf) := HI.out.1.lx.fx.cell 0
    have n0 : w'.cell? ⟨D, 0, none⟩ = some (.int .i64 n) := HI.out.1.fl.cell 0
    have h0 : w'.cell? ⟨D + 1, 0, none⟩ = some (.int .i64 (h : Int)) := HI.out.1.fh.cell 0
    have e1 : IntKind.i64.wrap (n + v) = n + v := IntWalk.i64_in _ (by omega)
    have hj3 : (j : Int) < x.F.length := by omega
    have hh3 : (h : Int) < x.F.length := by omega
    rw [hAF] at x0
    clear hAF hfb
    go_upto_region 10 with fail
    go_quiet (fail)
    go_wp2_with fail
    have HD2 := Lib.hid (And.intro HI.out.2 HI.out.1.lx.b)
    exact leave_ret0 (D := w0.heap.size) (v := .tuple #[.int .i64 (n + v), .int .i64 0]) HD2.out.1 (by simp [results, Tryd.results13, go_sem]) ⟨ie_ret HE.out, below_loop (below_drN HD2.out.2 _) (by have := HZ4.out; omega) (only_put _)⟩
  case q1 => exact fun _ _ h => h.elim
end Go.Proofs.YtljkgjfmambfoaaDoor
