/- Contracts: Clinched, Needs. -/
import Derived.Test.YtljkgjfmambfoaaDoorLgK
namespace Go.Proofs.YtljkgjfmambfoaaDoor
open Go.RowKit Go.Shelf Go.Maps Go.WideElems
attribute [local irreducible] wpQuiet
theorem all_congr {V L : List Pt} (h : ∀ p, p ∈ V ↔ p ∈ L) (f : Pt → Bool) : V.all f = L.all f := by
  rw [Bool.eq_iff_iff, List.all_eq_true, List.all_eq_true]
  exact ⟨fun h1 p hp => h1 p ((h p).2 hp), fun h1 p hp => h1 p ((h p).1 hp)⟩
/-- the greatest of those that are not c -/
def topV (c : Pt → Bool) (v : Pt → Int) (V : List Pt) : Int := V.foldl (fun n p => if c p then n else max n (v p)) 0
theorem top_fold (c : Pt → Bool) (v : Pt → Int) : ∀ (V : List Pt) (n : Int), n ≤ V.foldl (fun n p => if c p then n else max n (v p)) n ∧ (∀ p ∈ V, c p = false → v p ≤ V.foldl (fun n p => if c p then n else max n (v p)) n) ∧ (V.foldl (fun n p => if c p then n else max n (v p)) n = n ∨ ∃ p ∈ V, c p = false ∧ V.foldl (fun n p => if c p then n else max n (v p)) n = v p)
  | [], n => ⟨Int.le_refl _, fun _ h => (by cases h), .inl rfl⟩
  | q :: V, n => by
    rw [List.foldl_cons]
    cases hc : c q
    · have ih := top_fold c v V (max n (v q))
      simp only [Bool.false_eq_true, if_false]
      refine ⟨by omega, fun p hp hcp => ?_, ?_⟩
      · rcases List.mem_cons.1 hp with rfl | hp
        · omega
        · exact ih.2.1 p hp hcp
      · rcases ih.2.2 with h | ⟨p, hp, h1, h2⟩
        · by_cases h3 : v q ≤ n
          · exact .inl (by rw [h]; omega)
          · exact .inr ⟨q, by simp, hc, by rw [h]; omega⟩
        · exact .inr ⟨p, by simp [hp], h1, h2⟩
    · have ih := top_fold c v V n
      simp only [if_true]
      refine ⟨ih.1, fun p hp hcp => ?_, ?_⟩
      · rcases List.mem_cons.1 hp with rfl | hp
        · rw [hc] at hcp; cases hcp
        · exact ih.2.1 p hp hcp
      · rcases ih.2.2 with h | ⟨p, hp, h1, h2⟩
        · exact .inl h
        · exact .inr ⟨p, by simp [hp], h1, h2⟩
theorem top_le {c : Pt → Bool} {v : Pt → Int} {V L : List Pt} (h : ∀ p, p ∈ V → p ∈ L) : topV c v V ≤ topV c v L := by
  have h1 := top_fold c v V 0
  have h2 := top_fold c v L 0
  unfold topV
  rcases h1.2.2 with h3 | ⟨p, hp, h4, h5⟩
  · rw [h3]; exact h2.1
  · rw [h5]; exact h2.2.1 p (h p hp) h4
theorem top_congr {c : Pt → Bool} {v : Pt → Int} {V L : List Pt} (h : ∀ p, p ∈ V ↔ p ∈ L) : topV c v V = topV c v L :=
  Int.le_antisymm (top_le fun p hp => (h p).1 hp) (top_le fun p hp => (h p).2 hp)
theorem top_snoc (c : Pt → Bool) (v : Pt → Int) (V : List Pt) (p : Pt) : topV c v (V ++ [p]) = if c p then topV c v V else max (topV c v V) (v p) := by
  unfold topV
  rw [List.foldl_append]
  rfl
theorem top_bd {c : Pt → Bool} {v : Pt → Int} {V : List Pt} {M : Int} (hM : 0 ≤ M) (h : ∀ p ∈ V, v p ≤ M) : 0 ≤ topV c v V ∧ topV c v V ≤ M := by
  have h1 := top_fold c v V 0
  unfold topV
  refine ⟨h1.1, ?_⟩
  rcases h1.2.2 with h3 | ⟨p, hp, h4, h5⟩
  · rw [h3]; exact hM
  · rw [h5]; exact h p hp
theorem all_snoc (V : List Pt) (p : Pt) (f : Pt → Bool) : (V ++ [p]).all f = (V.all f && f p) := by simp
/-- two answers and an errno -/
def ClPost (r : Bool × Bool × Int) (W : World) (e : Ending) (W' : World) : Prop := e = .returned (.tuple #[.bool r.1, .bool r.2.1, .int .i64 r.2.2]) ∧ Below W.heap.size W W'
theorem cl_ret {a b : Bool} {c : Int} {r : Bool × Bool × Int} (h : r = (a, b, c)) : Ending.returned (.tuple #[.bool a, .bool b, .int .i64 c]) = .returned (.tuple #[.bool r.1, .bool r.2.1, .int .i64 r.2.2]) := by rw [h]
/-- at work over the outcomes -/
structure ClI (W w : World) (x : Lg) (AF AG : Option Addr) (cf cg M H B n R : Nat) (D : DataW Unit) (a b c : Int) (had : Pt) (L : List Pt) (left : Lit → Bool) (cnt : Nat) (V : List Pt) : Prop where
  lx : LX W w W.heap.size x AF AG cf cg
  fa : Has w M 73 (amc a b c)
  fh : Has w H 77 (ptc had)
  r : w.ranges Tryd.prog 77 (plainElem Tryd.prog 4) B R n D left cnt
  v : Vis D L left V
  lt : W.heap.size < M ∧ M < H ∧ H < B ∧ B < R
section
variable {W w w' : World} {x : Lg} {AF AG : Option Addr} {cf cg M H B n R : Nat} {D : DataW Unit} {a b c : Int} {had : Pt} {L : List Pt} {left : Lit → Bool} {cnt : Nat} {V : List Pt}
theorem ClI.step (h : ClI W w x AF AG cf cg M H B n R D a b c had L left cnt V) (hb : Below w.heap.size w w') : ClI W w' x AF AG cf cg M H B n R D a b c had L left cnt V :=
  ⟨h.lx.step hb, h.fa.below hb h.fa.lt, h.fh.below hb h.fh.lt, rng_below h.r hb, h.v, h.lt⟩
theorem ClI.next (h : ClI W w x AF AG cf cg M H B n R D a b c had L left cnt V) {left' : Lit → Bool} {cnt' : Nat} {p : Pt} (hr : w'.ranges Tryd.prog 77 (plainElem Tryd.prog 4) B R n D left' cnt') (hv : Vis D L left' (V ++ [p])) (hg : w.grownBy w' (some R)) :
    ClI W w' x AF AG cf cg M H B n R D a b c had L left' cnt' (V ++ [p]) := by
  have hlt := h.lt
  have h1 : Below (H + 1) w w' := grown_step hg (by have := h.fh.lt; omega) (fun b' e => by cases e; omega)
  exact ⟨h.lx.grown hg (by omega), h.fa.below h1 (by omega), h.fh.below h1 (by omega), hr, hv, hlt⟩
end
set_option maxRecDepth 100000 in
set_option maxHeartbeats 4000000 in
theorem Clinched_any (x : Lg) (AF AG : Option Addr) (cf cg : Nat) (t pl : Int) (W : World) (hW : Wo W) (hr : LgR W W.heap.size x AF AG) :
    Calls Tryd.prog 18 #[lgv x AF AG cf cg, .int .i64 t, .int .i64 pl] W (ClPost (clinR x t pl) W) := by
  have HB : Hid (LX W (W.alloc (.cells (lgc x AF AG cf cg) 25)) W.heap.size x AF AG cf cg) := Lib.hid (LX.start hr)
  have HW := Lib.hid hW
  have HA := Lib.hid (fun w (h : LX W w W.heap.size x AF AG cf cg) => aimOf_any x AF AG cf cg t pl w h.up)
  unfold AimPost amv at HA
  have HAV : Hid (aimR x t pl = 0 → VL x ∧ (0 ≤ t ∧ t < x.F.length)) := Lib.hid (fun h => by
    unfold aimR at h
    cases hl : lgB x
    · rw [hl] at h; simp at h
    · refine ⟨vl_of hl, ?_⟩
      rw [hl, if_pos rfl] at h
      cases ht : teamB x.F.length t
      · rw [ht] at h; simp at h
      · unfold teamB inB at ht
        simp only [decide_eq_true_eq] at ht
        omega)
  have HE9 := Lib.hid (fun (hv : VL x) w (h : LX W w W.heap.size x AF AG cf cg) => earned_any x.G AG cg w (HW.out.below h.b) h.up.g (fun g hg => hv.ok hg) hv.ng)
  have HO9 := Lib.hid (fun (hv : VL x) w (h : LX W w W.heap.size x AF AG cf cg) => outcomes_any x AF AG cf cg w (HW.out.below h.b) h.up hv)
  obtain ⟨er, her⟩ : ∃ er, er = aimR x t pl := ⟨_, rfl⟩
  obtain ⟨X, hX⟩ : ∃ X, X = clinR x t pl := ⟨_, rfl⟩
  have HXE := Lib.hid (And.intro hX her)
  rw [← her] at HA HAV
  rw [← hX]
  clear hW hr her hX
  unfold lgv at *
  go_enter Tryd.func18, Tryd.ntmps18
  go_upto_region 1 with fail
  generalize W.alloc (.cells (lgc x AF AG cf cg) 25) = w9 at HB ⊢
  have x0 : w9.cell? ⟨W.heap.size, 0, none⟩ = some (.slice AF x.F.length cf) := HB.out.fx.cell 0
  have x1 : w9.cell? ⟨W.heap.size, 1, none⟩ = some (.slice AG x.G.length cg) := HB.out.fx.cell 1
  go_wp2_with fail
  refine (HA.out _ HB.out).mono ?_
  rintro e w1 ⟨n, a, b, rfl, hz, hb1⟩
  have H1 := Lib.hid (show LX W (w1.alloc (.cells (amc n a b) 73)) W.heap.size x AF AG cf cg ∧ Has (w1.alloc (.cells (amc n a b) 73)) w1.heap.size 73 (amc n a b) ∧ W.heap.size < w1.heap.size from ⟨(HB.out.step hb1).step (below_one _ _), Has.new _ _ _, Nat.lt_of_lt_of_le HB.out.fx.lt hb1.size⟩)
  have HZ := Lib.hid hz
  clear hz hb1 x0 x1 HB HA
  dsimp only
  go_upto_region 2 with fail
  generalize w1.alloc (.cells (amc n a b) 73) = w2 at H1 ⊢
  generalize w1.heap.size = M at H1 ⊢
  by_cases h0 : er = 0
  rotate_left
  · have hb1 : (er == 0) = false := by simpa using h0
    have hb2 : (er != 0) = true := by simpa using h0
    have HX : Hid (X = (false, false, er)) := Lib.hid (by rw [HXE.out.1]; unfold clinR; rw [if_neg (by rw [← HXE.out.2]; exact h0), ← HXE.out.2])
    clear h0 HXE HZ
    go_wp2_with fail
    refine bodyPost_ret (v := .tuple #[.bool false, .bool false, .int .i64 er]) (by simp [results, Tryd.results18, go_sem]) rfl ?_
    exact ⟨cl_ret HX.out, H1.out.1.b⟩
  obtain ⟨rfl, hz2, hz3⟩ := HZ.out h0
  obtain rfl : t = a := hz2.symm
  obtain rfl : pl = b := hz3.symm
  obtain ⟨hvl, htm⟩ := HAV.out h0
  subst h0
  have HVL := Lib.hid hvl
  have HEv := Lib.hid (fun w h => HE9.out hvl w h)
  have HOv := Lib.hid (fun w h => HO9.out hvl w h)
  have HHad := Lib.hid (earned_pb' (G := x.G) (fun g hg => hvl.ok hg))
  have HLP := Lib.hid (fun p hp => ((outs_pb' (G := x.G) (fun g hg => hvl.ok hg)) p hp).mono (M' := 10000) (by have := hvl.ng; omega))
  have HKL := Lib.hid (fun (p : Pt) hp => key_pt (HLP.out p hp) (by omega))
  have HAnd := Lib.hid (fun (p : Pt) w hp => and_any (earnedP x.G) p w (HHad.out.mono (by have := hvl.ng; omega)) ((HLP.out p hp).mono (by omega)))
  have HPL := Lib.hid (fun (p : Pt) hp => (plus_pb HHad.out (HLP.out p hp)).mono (M' := 1000000) (by have := hvl.ng; omega))
  have HIn := Lib.hid (fun (p : Pt) w hp => isIn_any x.F.length t pl (plusP (earnedP x.G) p) w hvl.nf htm (HPL.out p hp))
  have HOut := Lib.hid (fun (p : Pt) w hp => isOut_any x.F.length t pl (plusP (earnedP x.G) p) w hvl.nf htm (HPL.out p hp))
  have HXX : Hid (X = ((outsP x.G).all (fun p => isInB x.F.length t pl (plusP (earnedP x.G) p)), (outsP x.G).all (fun p => isOutB x.F.length t pl (plusP (earnedP x.G) p)), 0)) := Lib.hid (by rw [HXE.out.1]; unfold clinR; rw [if_pos HXE.out.2.symm])
  have HTM := Lib.hid htm
  clear hvl htm HZ HAV HE9 HO9 HXE
  unfold PtPost ptv at HEv HAnd
  unfold amv ptv at HIn HOut
  unfold OutPost at HOv
  obtain ⟨had, hhad⟩ : ∃ h, h = earnedP x.G := ⟨_, rfl⟩
  rw [← hhad] at HEv HAnd HIn HOut HHad HPL HXX
  obtain ⟨L, hL⟩ : ∃ L, L = outsP x.G := ⟨_, rfl⟩
  rw [← hL] at HOv HLP HKL HAnd HIn HOut HPL HXX
  have HHE := Lib.hid (And.intro hhad hL)
  clear hhad hL
  have x1 : w2.cell? ⟨W.heap.size, 1, none⟩ = some (.slice AG x.G.length cg) := H1.out.1.fx.cell 1
  go_wp2_with fail
  refine (HEv.out _ H1.out.1).mono ?_
  rintro e w3 ⟨rfl, hb3⟩
  have H3 := Lib.hid (show LX W (w3.alloc (.cells (ptc had) 77)) W.heap.size x AF AG cf cg ∧ Has (w3.alloc (.cells (ptc had) 77)) M 73 (amc x.F.length t pl) ∧ Has (w3.alloc (.cells (ptc had) 77)) w3.heap.size 77 (ptc had) ∧ W.heap.size < M ∧ M < w3.heap.size from
    ⟨(H1.out.1.step hb3).step (below_one _ _), (H1.out.2.1.below hb3 H1.out.2.1.lt).alloc _, Has.new _ _ _, H1.out.2.2, Nat.lt_of_lt_of_le H1.out.2.1.lt hb3.size⟩)
  clear hb3 x1 H1 HEv
  go_upto_region 6 with fail
  generalize w3.alloc (.cells (ptc had) 77) = w4 at H3 ⊢
  generalize w3.heap.size = H at H3 ⊢
  have x0 : w4.cell? ⟨W.heap.size, 0, none⟩ = some (.slice AF x.F.length cf) := H3.out.1.fx.cell 0
  have x1 : w4.cell? ⟨W.heap.size, 1, none⟩ = some (.slice AG x.G.length cg) := H3.out.1.fx.cell 1
  go_wp2_with fail
  refine (HOv.out _ H3.out.1).mono ?_
  rintro e w5 ⟨B, nm, D, rfl, hnm, hown, hmk, hb5, hB5⟩
  have H5 := Lib.hid (show LX W w5 W.heap.size x AF AG cf cg ∧ Has w5 M 73 (amc x.F.length t pl) ∧ Has w5 H 77 (ptc had) ∧ w5.ownsMap Tryd.prog 77 (plainElem Tryd.prog 4) B nm D ∧ MK D L ∧ W.heap.size < M ∧ M < H ∧ H < B from
    ⟨H3.out.1.step hb5, H3.out.2.1.below hb5 H3.out.2.1.lt, H3.out.2.2.1.below hb5 H3.out.2.2.1.lt, hown, hmk, H3.out.2.2.2.1, H3.out.2.2.2.2, by have := H3.out.2.2.1.lt; omega⟩)
  clear hnm hown hmk hb5 hB5 x0 x1 H3 HOv
  go_wp2_with (at_range; refine wpList_range_own _ rfl _ 79 rfl 77 4 law77 Tryd.underlying79 _ B nm D rfl H5.out.2.2.2.1 ?_; intro w6 hrg0 hg0 hs0)
  have H6 := Lib.hid (show ClI W w6 x AF AG cf cg M H B nm w5.heap.size D x.F.length t pl had L (Maps.has D) (Maps.size D) [] from by
    have hb : Below w5.heap.size w5 w6 := grown_step hg0 (Nat.le_refl _) (fun b e => by cases e)
    exact ⟨H5.out.1.step hb, H5.out.2.1.below hb H5.out.2.1.lt, H5.out.2.2.1.below hb H5.out.2.2.1.lt, hrg0, Vis.start H5.out.2.2.2.2.1, ⟨H5.out.2.2.2.2.2.1, H5.out.2.2.2.2.2.2.1, H5.out.2.2.2.2.2.2.2, H5.out.2.2.2.1.lt⟩⟩)
  clear hrg0 hg0 hs0 H5
  generalize w5.heap.size = R at H6 ⊢
  go_frame
  go_loopg [6, 7] (Maps.size D) (fun gk u v wx => ∃ (left : Lit → Bool) (cnt : Nat) (V : List Pt), cnt ≤ gk ∧ u = .bool (V.all fun p => isInB x.F.length t pl (plusP had p)) ∧ v = .bool (V.all fun p => isOutB x.F.length t pl (plusP had p)) ∧ Hid (ClI W wx x AF AG cf cg M H B nm R D x.F.length t pl had L left cnt V))
  case atStart => exact ⟨_, _, [], Nat.le_refl _, rfl, rfl, H6⟩
  case round =>
    clear H6
    obtain ⟨left, cnt, V, hcnt, rfl, rfl, HB⟩ := hrel
    obtain ⟨ia, hia⟩ : ∃ ia, ia = V.all fun p => isInB x.F.length t pl (plusP had p) := ⟨_, rfl⟩
    obtain ⟨ob, hob⟩ : ∃ ob, ob = V.all fun p => isOutB x.F.length t pl (plusP had p) := ⟨_, rfl⟩
    rw [← hia, ← hob]
    have HIO := Lib.hid (And.intro hia hob)
    clear hia hob
    go_wp2_with (at_next; refine wpList_next_ranges _ rfl _ rfl 77 law77 (plainElem (H := Unit) Tryd.prog 4) (fun v : Value => v) (fun v : Value => v) (fun key kl hkey => ⟨key, rfl⟩) (fun v y hv => ⟨v, rfl⟩) B R nm D left cnt rfl HB.out.r ?d1 ?d2)
    case d1 =>
      intro hc0 hl0
      have hdone := HB.out.v.done (fun p hp => HKL.out p hp) hl0
      have HXF : Hid (X = (ia, ob, 0)) := Lib.hid (by rw [HXX.out, HIO.out.1, HIO.out.2, all_congr hdone, all_congr hdone])
      have HBb := Lib.hid HB.out.lx.b
      clear hc0 hl0 hdone HB HXX HIO
      go_wp2_with fail
      refine bodyPost_ret (v := .tuple #[.bool ia, .bool ob, .int .i64 0]) (by simp [results, Tryd.results18, go_sem]) rfl ?_
      exact ⟨cl_ret HXF.out, HBb.out⟩
    case d2 =>
      intro xv bb kl ya yb w7 cnt7 hkey hlx hv7 hat hrg7 hlt7 hg7 hs7 hen
      obtain ⟨p, rfl, hpL, hvis⟩ := HB.out.v.next hkey hlx
      have H7 := Lib.hid (HB.out.next hrg7 hvis hg7)
      have HPp := Lib.hid hpL
      have HAp := Lib.hid (fun w => HAnd.out p w HPp.out)
      have HIp := Lib.hid (fun w => HIn.out p w HPp.out)
      have HOp := Lib.hid (fun w => HOut.out p w HPp.out)
      have HQp := Lib.hid (HPL.out p HPp.out)
      have hcq : cnt7 < gk := by omega
      unfold ptv at hen
      have H8 := Lib.hid (show ClI W (w7.alloc (.cells (ptc p) 77)) x AF AG cf cg M H B nm R D x.F.length t pl had L (fun z => left z && !z.sameKey kl) cnt7 (V ++ [p]) ∧ Has (w7.alloc (.cells (ptc p) 77)) w7.heap.size 77 (ptc p) from ⟨H7.out.step (below_one _ _), Has.new _ _ _⟩)
      obtain ⟨lf, hlf⟩ : ∃ lf, lf = (fun z : Lit => left z && !z.sameKey kl) := ⟨_, rfl⟩
      rw [← hlf] at H8
      obtain ⟨q, hq⟩ : ∃ q, q = plusP had p := ⟨_, rfl⟩
      rw [← hq] at HAp HIp HOp HQp
      have HQE := Lib.hid hq
      clear hkey hlx hv7 hat hrg7 hlt7 hg7 hs7 hvis hpL HB hcnt H7 hlf hq
      go_upto_region 9 with fail
      clear hen
      generalize w7.alloc (.cells (ptc p) 77) = w8 at H8 ⊢
      generalize w7.heap.size = P at H8 ⊢
      have h0 : w8.cell? ⟨H, 0, none⟩ = some (.int .i64 (had[0]?.getD 0)) := H8.out.1.fh.cell 0
      have h1 : w8.cell? ⟨H, 1, none⟩ = some (.int .i64 (had[1]?.getD 0)) := H8.out.1.fh.cell 1
      have h2 : w8.cell? ⟨H, 2, none⟩ = some (.int .i64 (had[2]?.getD 0)) := H8.out.1.fh.cell 2
      have h3 : w8.cell? ⟨H, 3, none⟩ = some (.int .i64 (had[3]?.getD 0)) := H8.out.1.fh.cell 3
      have h4 : w8.cell? ⟨H, 4, none⟩ = some (.int .i64 (had[4]?.getD 0)) := H8.out.1.fh.cell 4
      have h5 : w8.cell? ⟨H, 5, none⟩ = some (.int .i64 (had[5]?.getD 0)) := H8.out.1.fh.cell 5
      have p0 : w8.cell? ⟨P, 0, none⟩ = some (.int .i64 (p[0]?.getD 0)) := H8.out.2.cell 0
      have p1 : w8.cell? ⟨P, 1, none⟩ = some (.int .i64 (p[1]?.getD 0)) := H8.out.2.cell 1
      have p2 : w8.cell? ⟨P, 2, none⟩ = some (.int .i64 (p[2]?.getD 0)) := H8.out.2.cell 2
      have p3 : w8.cell? ⟨P, 3, none⟩ = some (.int .i64 (p[3]?.getD 0)) := H8.out.2.cell 3
      have p4 : w8.cell? ⟨P, 4, none⟩ = some (.int .i64 (p[4]?.getD 0)) := H8.out.2.cell 4
      have p5 : w8.cell? ⟨P, 5, none⟩ = some (.int .i64 (p[5]?.getD 0)) := H8.out.2.cell 5
      go_wp2_with fail
      refine (HAp.out _).mono ?_
      rintro e w10 ⟨rfl, hb10⟩
      have H10 := Lib.hid (show ClI W (w10.alloc (.cells (ptc q) 77)) x AF AG cf cg M H B nm R D x.F.length t pl had L lf cnt7 (V ++ [p]) ∧ Has (w10.alloc (.cells (ptc q) 77)) w10.heap.size 77 (ptc q) from ⟨(H8.out.1.step hb10).step (below_one _ _), Has.new _ _ _⟩)
      have HS1 : Hid (((V ++ [p]).all fun p => isInB x.F.length t pl (plusP had p)) = (ia && isInB x.F.length t pl q)) := Lib.hid (by rw [all_snoc, ← HIO.out.1, HQE.out])
      have HS2 : Hid (((V ++ [p]).all fun p => isOutB x.F.length t pl (plusP had p)) = (ob && isOutB x.F.length t pl q)) := Lib.hid (by rw [all_snoc, ← HIO.out.2, HQE.out])
      obtain ⟨iq, hiq⟩ : ∃ iq, iq = isInB x.F.length t pl q := ⟨_, rfl⟩
      obtain ⟨oq, hoq⟩ : ∃ oq, oq = isOutB x.F.length t pl q := ⟨_, rfl⟩
      rw [← hiq] at HS1 HIp
      rw [← hoq] at HS2 HOp
      clear hb10 H8 h0 h1 h2 h3 h4 h5 p0 p1 p2 p3 p4 p5 HIO hiq hoq
      go_upto_region 10 with fail
      generalize w10.alloc (.cells (ptc q) 77) = w11 at H10 ⊢
      generalize w10.heap.size = Pq at H10 ⊢
      have a0 : w11.cell? ⟨M, 0, none⟩ = some (.int .i64 (x.F.length : Int)) := H10.out.1.fa.cell 0
      have a1 : w11.cell? ⟨M, 1, none⟩ = some (.int .i64 t) := H10.out.1.fa.cell 1
      have a2 : w11.cell? ⟨M, 2, none⟩ = some (.int .i64 pl) := H10.out.1.fa.cell 2
      have p0 : w11.cell? ⟨Pq, 0, none⟩ = some (.int .i64 (q[0]?.getD 0)) := H10.out.2.cell 0
      have p1 : w11.cell? ⟨Pq, 1, none⟩ = some (.int .i64 (q[1]?.getD 0)) := H10.out.2.cell 1
      have p2 : w11.cell? ⟨Pq, 2, none⟩ = some (.int .i64 (q[2]?.getD 0)) := H10.out.2.cell 2
      have p3 : w11.cell? ⟨Pq, 3, none⟩ = some (.int .i64 (q[3]?.getD 0)) := H10.out.2.cell 3
      have p4 : w11.cell? ⟨Pq, 4, none⟩ = some (.int .i64 (q[4]?.getD 0)) := H10.out.2.cell 4
      have p5 : w11.cell? ⟨Pq, 5, none⟩ = some (.int .i64 (q[5]?.getD 0)) := H10.out.2.cell 5
      go_cut [6] (fun u6 wx => u6 = .bool (ia && iq) ∧ Hid (ClI W wx x AF AG cf cg M H B nm R D x.F.length t pl had L lf cnt7 (V ++ [p]) ∧ Has wx Pq 77 (ptc q)))
      case first =>
        cases ia
        · go_wp2_with fail
          go_meet
          exact ⟨rfl, H10⟩
        · go_wp2_with fail
          refine (HIp.out _).mono ?_
          rintro e w12 ⟨rfl, hb12⟩
          have H12 := Lib.hid (And.intro (H10.out.1.step hb12) (H10.out.2.below hb12 H10.out.2.lt))
          clear hb12 H10 a0 a1 a2 p0 p1 p2 p3 p4 p5
          go_wp2_with fail
          go_meet
          exact ⟨rfl, H12⟩
      case rest =>
        obtain ⟨rfl, H12⟩ := hcut
        rename World => w12
        clear a0 a1 a2 p0 p1 p2 p3 p4 p5 H10
        have a0 : w12.cell? ⟨M, 0, none⟩ = some (.int .i64 (x.F.length : Int)) := H12.out.1.fa.cell 0
        have a1 : w12.cell? ⟨M, 1, none⟩ = some (.int .i64 t) := H12.out.1.fa.cell 1
        have a2 : w12.cell? ⟨M, 2, none⟩ = some (.int .i64 pl) := H12.out.1.fa.cell 2
        have p0 : w12.cell? ⟨Pq, 0, none⟩ = some (.int .i64 (q[0]?.getD 0)) := H12.out.2.cell 0
        have p1 : w12.cell? ⟨Pq, 1, none⟩ = some (.int .i64 (q[1]?.getD 0)) := H12.out.2.cell 1
        have p2 : w12.cell? ⟨Pq, 2, none⟩ = some (.int .i64 (q[2]?.getD 0)) := H12.out.2.cell 2
        have p3 : w12.cell? ⟨Pq, 3, none⟩ = some (.int .i64 (q[3]?.getD 0)) := H12.out.2.cell 3
        have p4 : w12.cell? ⟨Pq, 4, none⟩ = some (.int .i64 (q[4]?.getD 0)) := H12.out.2.cell 4
        have p5 : w12.cell? ⟨Pq, 5, none⟩ = some (.int .i64 (q[5]?.getD 0)) := H12.out.2.cell 5
        cases ob
        · go_wp2_with fail
          go_roundg cnt7
          case measure => omega
          case rel => exact ⟨lf, cnt7, V ++ [p], Nat.le_refl _, by rw [HS1.out], by rw [HS2.out]; rfl, Lib.hid H12.out.1⟩
        · go_wp2_with fail
          refine (HOp.out _).mono ?_
          rintro e w13 ⟨rfl, hb13⟩
          have H13 := Lib.hid (H12.out.1.step hb13)
          clear hb13 H12 a0 a1 a2 p0 p1 p2 p3 p4 p5
          go_wp2_with fail
          go_roundg cnt7
          case measure => omega
          case rel => exact ⟨lf, cnt7, V ++ [p], Nat.le_refl _, by rw [HS1.out], by rw [HS2.out]; rfl, H13⟩
set_option maxRecDepth 100000 in
set_option maxHeartbeats 4000000 in
theorem Needs_any (x : Lg) (AF AG : Option Addr) (cf cg : Nat) (t pl : Int) (W : World) (hW : Wo W) (hr : LgR W W.heap.size x AF AG) :
    Calls Tryd.prog 20 #[lgv x AF AG cf cg, .int .i64 t, .int .i64 pl] W (IEPost (needR x t pl) W) := by
  have HB : Hid (LX W (W.alloc (.cells (lgc x AF AG cf cg) 25)) W.heap.size x AF AG cf cg) := Lib.hid (LX.start hr)
  have HW := Lib.hid hW
  have HA := Lib.hid (fun w (h : LX W w W.heap.size x AF AG cf cg) => aimOf_any x AF AG cf cg t pl w h.up)
  unfold AimPost amv at HA
  have HAV : Hid (aimR x t pl = 0 → VL x ∧ (0 ≤ t ∧ t < x.F.length)) := Lib.hid (fun h => by
    unfold aimR at h
    cases hl : lgB x
    · rw [hl] at h; simp at h
    · refine ⟨vl_of hl, ?_⟩
      rw [hl, if_pos rfl] at h
      cases ht : teamB x.F.length t
      · rw [ht] at h; simp at h
      · unfold teamB inB at ht
        simp only [decide_eq_true_eq] at ht
        omega)
  have HE9 := Lib.hid (fun (hv : VL x) w (h : LX W w W.heap.size x AF AG cf cg) => earned_any x.G AG cg w (HW.out.below h.b) h.up.g (fun g hg => hv.ok hg) hv.ng)
  have HO9 := Lib.hid (fun (hv : VL x) w (h : LX W w W.heap.size x AF AG cf cg) => outcomes_any x AF AG cf cg w (HW.out.below h.b) h.up hv)
  obtain ⟨er, her⟩ : ∃ er, er = aimR x t pl := ⟨_, rfl⟩
  obtain ⟨X, hX⟩ : ∃ X, X = needR x t pl := ⟨_, rfl⟩
  have HXE := Lib.hid (And.intro hX her)
  rw [← her] at HA HAV
  rw [← hX]
  clear hW hr her hX
  unfold lgv at *
  go_enter Tryd.func20, Tryd.ntmps20
  go_upto_region 1 with fail
  generalize W.alloc (.cells (lgc x AF AG cf cg) 25) = w9 at HB ⊢
  have x0 : w9.cell? ⟨W.heap.size, 0, none⟩ = some (.slice AF x.F.length cf) := HB.out.fx.cell 0
  have x1 : w9.cell? ⟨W.heap.size, 1, none⟩ = some (.slice AG x.G.length cg) := HB.out.fx.cell 1
  go_wp2_with fail
  refine (HA.out _ HB.out).mono ?_
  rintro e w1 ⟨n, a, b, rfl, hz, hb1⟩
  have H1 := Lib.hid (show LX W (w1.alloc (.cells (amc n a b) 73)) W.heap.size x AF AG cf cg ∧ Has (w1.alloc (.cells (amc n a b) 73)) w1.heap.size 73 (amc n a b) ∧ W.heap.size < w1.heap.size from ⟨(HB.out.step hb1).step (below_one _ _), Has.new _ _ _, Nat.lt_of_lt_of_le HB.out.fx.lt hb1.size⟩)
  have HZ := Lib.hid hz
  clear hz hb1 x0 x1 HB HA
  dsimp only
  go_upto_region 2 with fail
  generalize w1.alloc (.cells (amc n a b) 73) = w2 at H1 ⊢
  generalize w1.heap.size = M at H1 ⊢
  by_cases h0 : er = 0
  rotate_left
  · have hb1 : (er == 0) = false := by simpa using h0
    have hb2 : (er != 0) = true := by simpa using h0
    have HX : Hid (X = (0, er)) := Lib.hid (by rw [HXE.out.1]; unfold needR; rw [if_neg (by rw [← HXE.out.2]; exact h0), ← HXE.out.2])
    clear h0 HXE HZ
    go_wp2_with fail
    refine bodyPost_ret (v := .tuple #[.int .i64 0, .int .i64 er]) (by simp [results, Tryd.results20, go_sem]) rfl ?_
    exact ⟨ie_ret HX.out, H1.out.1.b⟩
  obtain ⟨rfl, hz2, hz3⟩ := HZ.out h0
  obtain rfl : t = a := hz2.symm
  obtain rfl : pl = b := hz3.symm
  obtain ⟨hvl, htm⟩ := HAV.out h0
  subst h0
  have HVL := Lib.hid hvl
  have HEv := Lib.hid (fun w h => HE9.out hvl w h)
  have HOv := Lib.hid (fun w h => HO9.out hvl w h)
  have HHad := Lib.hid (earned_pb' (G := x.G) (fun g hg => hvl.ok hg))
  have HLP := Lib.hid (fun p hp => ((outs_pb' (G := x.G) (fun g hg => hvl.ok hg)) p hp).mono (M' := 10000) (by have := hvl.ng; omega))
  have HKL := Lib.hid (fun (p : Pt) hp => key_pt (HLP.out p hp) (by omega))
  have HAnd := Lib.hid (fun (p : Pt) w hp => and_any (earnedP x.G) p w (HHad.out.mono (by have := hvl.ng; omega)) ((HLP.out p hp).mono (by omega)))
  have HPL := Lib.hid (fun (p : Pt) hp => (plus_pb HHad.out (HLP.out p hp)).mono (M' := 1000000) (by have := hvl.ng; omega))
  have HIn := Lib.hid (fun (p : Pt) w hp => isIn_any x.F.length t pl (plusP (earnedP x.G) p) w hvl.nf htm (HPL.out p hp))
  have HOut := Lib.hid (fun (p : Pt) w hp => isOut_any x.F.length t pl (plusP (earnedP x.G) p) w hvl.nf htm (HPL.out p hp))
  have HXX : Hid (X = if mostP x.G t < needP x t pl then (0, 4) else (needP x t pl, 0)) := Lib.hid (by rw [HXE.out.1]; unfold needR; rw [if_pos HXE.out.2.symm])
  have HTM := Lib.hid htm
  clear hvl htm HZ HAV HE9 HO9 HXE
  unfold PtPost ptv at HEv HAnd
  unfold amv ptv at HIn HOut
  unfold OutPost at HOv
  obtain ⟨had, hhad⟩ : ∃ h, h = earnedP x.G := ⟨_, rfl⟩
  rw [← hhad] at HEv HAnd HIn HOut HHad HPL 
  obtain ⟨L, hL⟩ : ∃ L, L = outsP x.G := ⟨_, rfl⟩
  rw [← hL] at HOv HLP HKL HAnd HIn HOut HPL 
  have HHE := Lib.hid (And.intro hhad hL)
  clear hhad hL
  have x1 : w2.cell? ⟨W.heap.size, 1, none⟩ = some (.slice AG x.G.length cg) := H1.out.1.fx.cell 1
  go_wp2_with fail
  refine (HEv.out _ H1.out.1).mono ?_
  rintro e w3 ⟨rfl, hb3⟩
  have H3 := Lib.hid (show LX W (w3.alloc (.cells (ptc had) 77)) W.heap.size x AF AG cf cg ∧ Has (w3.alloc (.cells (ptc had) 77)) M 73 (amc x.F.length t pl) ∧ Has (w3.alloc (.cells (ptc had) 77)) w3.heap.size 77 (ptc had) ∧ W.heap.size < M ∧ M < w3.heap.size from
    ⟨(H1.out.1.step hb3).step (below_one _ _), (H1.out.2.1.below hb3 H1.out.2.1.lt).alloc _, Has.new _ _ _, H1.out.2.2, Nat.lt_of_lt_of_le H1.out.2.1.lt hb3.size⟩)
  clear hb3 x1 H1 HEv
  go_upto_region 5 with fail
  generalize w3.alloc (.cells (ptc had) 77) = w4 at H3 ⊢
  generalize w3.heap.size = H at H3 ⊢
  have x0 : w4.cell? ⟨W.heap.size, 0, none⟩ = some (.slice AF x.F.length cf) := H3.out.1.fx.cell 0
  have x1 : w4.cell? ⟨W.heap.size, 1, none⟩ = some (.slice AG x.G.length cg) := H3.out.1.fx.cell 1
  go_wp2_with fail
  refine (HOv.out _ H3.out.1).mono ?_
  rintro e w5 ⟨B, nm, D, rfl, hnm, hown, hmk, hb5, hB5⟩
  have H5 := Lib.hid (show LX W w5 W.heap.size x AF AG cf cg ∧ Has w5 M 73 (amc x.F.length t pl) ∧ Has w5 H 77 (ptc had) ∧ w5.ownsMap Tryd.prog 77 (plainElem Tryd.prog 4) B nm D ∧ MK D L ∧ W.heap.size < M ∧ M < H ∧ H < B from
    ⟨H3.out.1.step hb5, H3.out.2.1.below hb5 H3.out.2.1.lt, H3.out.2.2.1.below hb5 H3.out.2.2.1.lt, hown, hmk, H3.out.2.2.2.1, H3.out.2.2.2.2, by have := H3.out.2.2.1.lt; omega⟩)
  clear hnm hown hmk hb5 hB5 x0 x1 H3 HOv
  go_wp2_with (at_range; refine wpList_range_own _ rfl _ 79 rfl 77 4 law77 Tryd.underlying79 _ B nm D rfl H5.out.2.2.2.1 ?_; intro w6 hrg0 hg0 hs0)
  have H6 := Lib.hid (show ClI W w6 x AF AG cf cg M H B nm w5.heap.size D x.F.length t pl had L (Maps.has D) (Maps.size D) [] from by
    have hb : Below w5.heap.size w5 w6 := grown_step hg0 (Nat.le_refl _) (fun b e => by cases e)
    exact ⟨H5.out.1.step hb, H5.out.2.1.below hb H5.out.2.1.lt, H5.out.2.2.1.below hb H5.out.2.2.1.lt, hrg0, Vis.start H5.out.2.2.2.2.1, ⟨H5.out.2.2.2.2.2.1, H5.out.2.2.2.2.2.2.1, H5.out.2.2.2.2.2.2.2, H5.out.2.2.2.1.lt⟩⟩)
  clear hrg0 hg0 hs0 H5
  generalize w5.heap.size = R at H6 ⊢
  go_frame
  have HNP := Lib.hid (show needP x t pl = topV (fun p => isInB x.F.length t pl (plusP (earnedP x.G) p)) (fun p => p.getD t.toNat 0 + 1) (outsP x.G) from rfl)
  obtain ⟨tn, htn⟩ : ∃ tn : Nat, t = (tn : Int) := ⟨t.toNat, by have := HTM.out; omega⟩
  have ht6 : tn < 6 := by have := HTM.out; have := HVL.out.nf; omega
  have ht7 : (tn : Int) < 6 := by omega
  subst htn
  have HBd := Lib.hid (fun (V : List Pt) c (h : ∀ p ∈ V, p ∈ L) => top_bd (c := c) (v := fun p => p.getD (tn : Int).toNat 0 + 1) (V := V) (M := 10001) (by decide) (fun p hp => by have := ((HLP.out p (h p hp)).b (tn : Int).toNat).2; omega))
  go_loopg [10] (Maps.size D) (fun gk u wx => ∃ (left : Lit → Bool) (cnt : Nat) (V : List Pt), cnt ≤ gk ∧ u = .int .i64 (topV (fun p => isInB x.F.length tn pl (plusP had p)) (fun p => p.getD (tn : Int).toNat 0 + 1) V) ∧ Hid (ClI W wx x AF AG cf cg M H B nm R D x.F.length tn pl had L left cnt V))
  case atStart => exact ⟨_, _, [], Nat.le_refl _, rfl, H6⟩
  case round =>
    clear H6
    obtain ⟨left, cnt, V, hcnt, rfl, HB⟩ := hrel
    obtain ⟨m, hm⟩ : ∃ m, m = topV (fun p => isInB x.F.length tn pl (plusP had p)) (fun p => p.getD (tn : Int).toNat 0 + 1) V := ⟨_, rfl⟩
    rw [← hm]
    have HMM := Lib.hid hm
    have hmb := HBd.out V (fun p => isInB x.F.length tn pl (plusP had p)) (fun p hp => HB.out.v.v1 p hp)
    rw [← hm] at hmb
    clear hm
    go_wp2_with (at_next; refine wpList_next_ranges _ rfl _ rfl 77 law77 (plainElem (H := Unit) Tryd.prog 4) (fun v : Value => v) (fun v : Value => v) (fun key kl hkey => ⟨key, rfl⟩) (fun v y hv => ⟨v, rfl⟩) B R nm D left cnt rfl HB.out.r ?d1 ?d2)
    case d1 =>
      intro hc0 hl0
      have hdone := HB.out.v.done (fun p hp => HKL.out p hp) hl0
      have HMO := Lib.hid (fun w (h : LX W w W.heap.size x AF AG cf cg) => mostToGain_any x AF AG cf cg tn w (HW.out.below h.b) h.up HVL.out.ng)
      have HXF : Hid (X = if mostP x.G tn < m then (0, 4) else (m, 0)) := Lib.hid (by
        have e : needP x tn pl = m := by
          rw [HMM.out, top_congr hdone, HNP.out, ← HHE.out.1, ← HHE.out.2]
        rw [HXX.out, e])
      unfold lgv IntPost at HMO
      generalize mostP x.G tn = mo at HMO HXF
      clear hc0 hl0 hdone HXX HMM HNP
      have x0 : wr.cell? ⟨W.heap.size, 0, none⟩ = some (.slice AF x.F.length cf) := HB.out.lx.fx.cell 0
      have x1 : wr.cell? ⟨W.heap.size, 1, none⟩ = some (.slice AG x.G.length cg) := HB.out.lx.fx.cell 1
      by_cases hlt : mo < m
      · have HX2 : Hid (X = (0, 4)) := Lib.hid (by rw [HXF.out, if_pos hlt])
        clear HXF
        go_wp2_with fail
        refine (HMO.out _ HB.out.lx).mono ?_
        rintro e w10 ⟨rfl, hb10⟩
        have H10 := Lib.hid (HB.out.lx.step hb10)
        clear hb10 x0 x1 HB
        go_wp2_with fail
        refine bodyPost_ret (v := .tuple #[.int .i64 0, .int .i64 4]) (by simp [results, Tryd.results20, go_sem]) rfl ?_
        exact ⟨ie_ret HX2.out, H10.out.b⟩
      · have HX2 : Hid (X = (m, 0)) := Lib.hid (by rw [HXF.out, if_neg hlt])
        clear HXF
        go_wp2_with fail
        refine (HMO.out _ HB.out.lx).mono ?_
        rintro e w10 ⟨rfl, hb10⟩
        have H10 := Lib.hid (HB.out.lx.step hb10)
        clear hb10 x0 x1 HB
        go_wp2_with fail
        refine bodyPost_ret (v := .tuple #[.int .i64 m, .int .i64 0]) (by simp [results, Tryd.results20, go_sem]) rfl ?_
        exact ⟨ie_ret HX2.out, H10.out.b⟩
    case d2 =>
      intro xv bb kl ya yb w7 cnt7 hkey hlx hv7 hat hrg7 hlt7 hg7 hs7 hen
      obtain ⟨p, rfl, hpL, hvis⟩ := HB.out.v.next hkey hlx
      have H7 := Lib.hid (HB.out.next hrg7 hvis hg7)
      have HPp := Lib.hid hpL
      have HAp := Lib.hid (fun w => HAnd.out p w HPp.out)
      have HIp := Lib.hid (fun w => HIn.out p w HPp.out)
      have HOp := Lib.hid (fun w => HOut.out p w HPp.out)
      have HQp := Lib.hid (HPL.out p HPp.out)
      have hcq : cnt7 < gk := by omega
      unfold ptv at hen
      have H8 := Lib.hid (show ClI W (w7.alloc (.cells (ptc p) 77)) x AF AG cf cg M H B nm R D x.F.length tn pl had L (fun z => left z && !z.sameKey kl) cnt7 (V ++ [p]) ∧ Has (w7.alloc (.cells (ptc p) 77)) w7.heap.size 77 (ptc p) from ⟨H7.out.step (below_one _ _), Has.new _ _ _⟩)
      obtain ⟨lf, hlf⟩ : ∃ lf, lf = (fun z : Lit => left z && !z.sameKey kl) := ⟨_, rfl⟩
      rw [← hlf] at H8
      obtain ⟨q, hq⟩ : ∃ q, q = plusP had p := ⟨_, rfl⟩
      rw [← hq] at HAp HIp HOp HQp
      have HQE := Lib.hid hq
      clear hkey hlx hv7 hat hrg7 hlt7 hg7 hs7 hvis hpL HB hcnt H7 hlf hq
      go_upto_region 8 with fail
      clear hen
      generalize w7.alloc (.cells (ptc p) 77) = w8 at H8 ⊢
      generalize w7.heap.size = P at H8 ⊢
      have h0 : w8.cell? ⟨H, 0, none⟩ = some (.int .i64 (had[0]?.getD 0)) := H8.out.1.fh.cell 0
      have h1 : w8.cell? ⟨H, 1, none⟩ = some (.int .i64 (had[1]?.getD 0)) := H8.out.1.fh.cell 1
      have h2 : w8.cell? ⟨H, 2, none⟩ = some (.int .i64 (had[2]?.getD 0)) := H8.out.1.fh.cell 2
      have h3 : w8.cell? ⟨H, 3, none⟩ = some (.int .i64 (had[3]?.getD 0)) := H8.out.1.fh.cell 3
      have h4 : w8.cell? ⟨H, 4, none⟩ = some (.int .i64 (had[4]?.getD 0)) := H8.out.1.fh.cell 4
      have h5 : w8.cell? ⟨H, 5, none⟩ = some (.int .i64 (had[5]?.getD 0)) := H8.out.1.fh.cell 5
      have p0 : w8.cell? ⟨P, 0, none⟩ = some (.int .i64 (p[0]?.getD 0)) := H8.out.2.cell 0
      have p1 : w8.cell? ⟨P, 1, none⟩ = some (.int .i64 (p[1]?.getD 0)) := H8.out.2.cell 1
      have p2 : w8.cell? ⟨P, 2, none⟩ = some (.int .i64 (p[2]?.getD 0)) := H8.out.2.cell 2
      have p3 : w8.cell? ⟨P, 3, none⟩ = some (.int .i64 (p[3]?.getD 0)) := H8.out.2.cell 3
      have p4 : w8.cell? ⟨P, 4, none⟩ = some (.int .i64 (p[4]?.getD 0)) := H8.out.2.cell 4
      have p5 : w8.cell? ⟨P, 5, none⟩ = some (.int .i64 (p[5]?.getD 0)) := H8.out.2.cell 5
      have HS1 : Hid (topV (fun p => isInB x.F.length tn pl (plusP had p)) (fun p => p.getD (tn : Int).toNat 0 + 1) (V ++ [p]) = if isInB x.F.length tn pl q then m else max m (p.getD tn 0 + 1)) := Lib.hid (by rw [top_snoc, ← HMM.out, HQE.out]; rfl)
      obtain ⟨iq, hiq⟩ : ∃ iq, iq = isInB x.F.length tn pl q := ⟨_, rfl⟩
      rw [← hiq] at HS1 HIp
      have hpb := (HLP.out p HPp.out).b tn
      obtain ⟨c, hc⟩ : ∃ c, c = p.getD tn 0 := ⟨_, rfl⟩
      rw [← hc] at hpb HS1
      have HCC := Lib.hid hc
      clear h0 h1 h2 h3 h4 h5 p0 p1 p2 p3 p4 p5 hiq HOp hc
      haveI hne : Nonempty (Cls (fun w' => ClI W w' x AF AG cf cg M H B nm R D x.F.length tn pl had L lf cnt7 (V ++ [p]) ∧ Has w' P 77 (ptc p))) := ⟨⟨_, H8.out⟩⟩
      have HD := Lib.hid (show (fun w' => ClI W w' x AF AG cf cg M H B nm R D x.F.length tn pl had L lf cnt7 (V ++ [p]) ∧ Has w' P 77 (ptc p)) w8.drew from ⟨H8.out.1.step (Below.refl _ _).drew, H8.out.2.drew⟩)
      have k0 : ∀ pc : Cls (fun w' => ClI W w' x AF AG cf cg M H B nm R D x.F.length tn pl had L lf cnt7 (V ++ [p]) ∧ Has w' P 77 (ptc p)), pc.w.cell? ⟨H, 0, none⟩ = some (.int .i64 (had[0]?.getD 0)) := fun pc => pc.h.1.fh.cell 0
      have k1 : ∀ pc : Cls (fun w' => ClI W w' x AF AG cf cg M H B nm R D x.F.length tn pl had L lf cnt7 (V ++ [p]) ∧ Has w' P 77 (ptc p)), pc.w.cell? ⟨H, 1, none⟩ = some (.int .i64 (had[1]?.getD 0)) := fun pc => pc.h.1.fh.cell 1
      have k2 : ∀ pc : Cls (fun w' => ClI W w' x AF AG cf cg M H B nm R D x.F.length tn pl had L lf cnt7 (V ++ [p]) ∧ Has w' P 77 (ptc p)), pc.w.cell? ⟨H, 2, none⟩ = some (.int .i64 (had[2]?.getD 0)) := fun pc => pc.h.1.fh.cell 2
      have k3 : ∀ pc : Cls (fun w' => ClI W w' x AF AG cf cg M H B nm R D x.F.length tn pl had L lf cnt7 (V ++ [p]) ∧ Has w' P 77 (ptc p)), pc.w.cell? ⟨H, 3, none⟩ = some (.int .i64 (had[3]?.getD 0)) := fun pc => pc.h.1.fh.cell 3
      have k4 : ∀ pc : Cls (fun w' => ClI W w' x AF AG cf cg M H B nm R D x.F.length tn pl had L lf cnt7 (V ++ [p]) ∧ Has w' P 77 (ptc p)), pc.w.cell? ⟨H, 4, none⟩ = some (.int .i64 (had[4]?.getD 0)) := fun pc => pc.h.1.fh.cell 4
      have k5 : ∀ pc : Cls (fun w' => ClI W w' x AF AG cf cg M H B nm R D x.F.length tn pl had L lf cnt7 (V ++ [p]) ∧ Has w' P 77 (ptc p)), pc.w.cell? ⟨H, 5, none⟩ = some (.int .i64 (had[5]?.getD 0)) := fun pc => pc.h.1.fh.cell 5
      have l0 : ∀ pc : Cls (fun w' => ClI W w' x AF AG cf cg M H B nm R D x.F.length tn pl had L lf cnt7 (V ++ [p]) ∧ Has w' P 77 (ptc p)), pc.w.cell? ⟨P, 0, none⟩ = some (.int .i64 (p[0]?.getD 0)) := fun pc => pc.h.2.cell 0
      have l1 : ∀ pc : Cls (fun w' => ClI W w' x AF AG cf cg M H B nm R D x.F.length tn pl had L lf cnt7 (V ++ [p]) ∧ Has w' P 77 (ptc p)), pc.w.cell? ⟨P, 1, none⟩ = some (.int .i64 (p[1]?.getD 0)) := fun pc => pc.h.2.cell 1
      have l2 : ∀ pc : Cls (fun w' => ClI W w' x AF AG cf cg M H B nm R D x.F.length tn pl had L lf cnt7 (V ++ [p]) ∧ Has w' P 77 (ptc p)), pc.w.cell? ⟨P, 2, none⟩ = some (.int .i64 (p[2]?.getD 0)) := fun pc => pc.h.2.cell 2
      have l3 : ∀ pc : Cls (fun w' => ClI W w' x AF AG cf cg M H B nm R D x.F.length tn pl had L lf cnt7 (V ++ [p]) ∧ Has w' P 77 (ptc p)), pc.w.cell? ⟨P, 3, none⟩ = some (.int .i64 (p[3]?.getD 0)) := fun pc => pc.h.2.cell 3
      have l4 : ∀ pc : Cls (fun w' => ClI W w' x AF AG cf cg M H B nm R D x.F.length tn pl had L lf cnt7 (V ++ [p]) ∧ Has w' P 77 (ptc p)), pc.w.cell? ⟨P, 4, none⟩ = some (.int .i64 (p[4]?.getD 0)) := fun pc => pc.h.2.cell 4
      have l5 : ∀ pc : Cls (fun w' => ClI W w' x AF AG cf cg M H B nm R D x.F.length tn pl had L lf cnt7 (V ++ [p]) ∧ Has w' P 77 (ptc p)), pc.w.cell? ⟨P, 5, none⟩ = some (.int .i64 (p[5]?.getD 0)) := fun pc => pc.h.2.cell 5
      have a0 : ∀ pc : Cls (fun w' => ClI W w' x AF AG cf cg M H B nm R D x.F.length tn pl had L lf cnt7 (V ++ [p]) ∧ Has w' P 77 (ptc p)), pc.w.cell? ⟨M, 0, none⟩ = some (.int .i64 (x.F.length : Int)) := fun pc => pc.h.1.fa.cell 0
      have a1 : ∀ pc : Cls (fun w' => ClI W w' x AF AG cf cg M H B nm R D x.F.length tn pl had L lf cnt7 (V ++ [p]) ∧ Has w' P 77 (ptc p)), pc.w.cell? ⟨M, 1, none⟩ = some (.int .i64 (tn : Int)) := fun pc => pc.h.1.fa.cell 1
      have a2 : ∀ pc : Cls (fun w' => ClI W w' x AF AG cf cg M H B nm R D x.F.length tn pl had L lf cnt7 (V ++ [p]) ∧ Has w' P 77 (ptc p)), pc.w.cell? ⟨M, 2, none⟩ = some (.int .i64 pl) := fun pc => pc.h.1.fa.cell 2
      have hc1 : ∀ w, (fun w' => ClI W w' x AF AG cf cg M H B nm R D x.F.length tn pl had L lf cnt7 (V ++ [p]) ∧ Has w' P 77 (ptc p)) w → Calls Tryd.prog 41 #[.agg (ptc had), .agg (ptc p)] w fun e w' => e = .returned (.agg (ptc q)) ∧ (fun w' => ClI W w' x AF AG cf cg M H B nm R D x.F.length tn pl had L lf cnt7 (V ++ [p]) ∧ Has w' P 77 (ptc p)) w' := fun w h => (HAp.out w).mono fun e w' ⟨he, hb⟩ => ⟨he, h.1.step hb, h.2.below hb h.2.lt⟩
      have hc2 : ∀ w, (fun w' => ClI W w' x AF AG cf cg M H B nm R D x.F.length tn pl had L lf cnt7 (V ++ [p]) ∧ Has w' P 77 (ptc p)) w → Calls Tryd.prog 42 #[.agg (amc x.F.length tn pl), .agg (ptc q)] w fun e w' => e = .returned (.bool iq) ∧ (fun w' => ClI W w' x AF AG cf cg M H B nm R D x.F.length tn pl had L lf cnt7 (V ++ [p]) ∧ Has w' P 77 (ptc p)) w' := fun w h => (HIp.out w).mono fun e w' ⟨he, hb⟩ => ⟨he, h.1.step hb, h.2.below hb h.2.lt⟩
      refine wp_region_cls (fun w' => ClI W w' x AF AG cf cg M H B nm R D x.F.length tn pl had L lf cnt7 (V ++ [p]) ∧ Has w' P 77 (ptc p)) hmix (by kernel_rfl) HD.out ?_
      repeat (quiet_step (first | (with_reducible exact cls_call hc1 _) | (with_reducible exact cls_call hc2 _)))
      refine wpQuiet_nil ?_
      rintro w11 ⟨⟨_, hw11⟩, rfl⟩
      have H11 := Lib.hid hw11
      clear k0 k1 k2 k3 k4 k5 l0 l1 l2 l3 l4 l5 a0 a1 a2 hc1 hc2 hne HD hw11 H8
      try simp only []
      cases iq
      · have HQ : Hid (topV (fun p => isInB x.F.length tn pl (plusP had p)) (fun p => p.getD (tn : Int).toNat 0 + 1) (V ++ [p]) = max m (c + 1)) := Lib.hid (by rw [HS1.out]; rfl)
        have t0 : w11.cell? ⟨P, tn, none⟩ = some (.int .i64 c) := by rw [HCC.out]; exact (H11.out.2.cell tn).trans (ptc_at ht6)
        clear HS1
        by_cases hmc : m < c + 1
        · have HQ2 := Lib.hid (show topV (fun p => isInB x.F.length tn pl (plusP had p)) (fun p => p.getD (tn : Int).toNat 0 + 1) (V ++ [p]) = c + 1 by rw [HQ.out]; omega)
          clear HQ
          go_wp2_with fail
          go_roundg cnt7
          case measure => omega
          case rel => exact ⟨lf, cnt7, V ++ [p], Nat.le_refl _, by rw [HQ2.out], Lib.hid H11.out.1⟩
        · have HQ2 := Lib.hid (show topV (fun p => isInB x.F.length tn pl (plusP had p)) (fun p => p.getD (tn : Int).toNat 0 + 1) (V ++ [p]) = m by rw [HQ.out]; omega)
          clear HQ
          go_wp2_with fail
          go_roundg cnt7
          case measure => omega
          case rel => exact ⟨lf, cnt7, V ++ [p], Nat.le_refl _, by rw [HQ2.out], Lib.hid H11.out.1⟩
      · have HQ : Hid (topV (fun p => isInB x.F.length tn pl (plusP had p)) (fun p => p.getD (tn : Int).toNat 0 + 1) (V ++ [p]) = m) := Lib.hid (by rw [HS1.out]; rfl)
        clear HS1
        go_wp2_with fail
        go_roundg cnt7
        case measure => omega
        case rel => exact ⟨lf, cnt7, V ++ [p], Nat.le_refl _, by rw [HQ.out], Lib.hid H11.out.1⟩
end Go.Proofs.YtljkgjfmambfoaaDoor
