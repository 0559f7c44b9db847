/- The law's good. -/
import Derived.Test.YtipejhfgfciabaaLiD
import Derived.Test.YtipejhfgfciabaaLiE
namespace Go.Proofs.Ytipejhfgfciabaa
open Go.RowKit Go.Shelf
attribute [local irreducible] wpQuiet
def cntL (x : Tt) (l : List Int) (k : Nat) : List Int := (List.range x.G.length).map fun (g : Nat) => cntI l k (g : Int)
theorem cntL_len (x : Tt) (l : List Int) (k : Nat) : (cntL x l k).length = x.G.length := by simp [cntL]
theorem cntL_at (x : Tt) (l : List Int) (k : Nat) {g : Nat} (hg : g < x.G.length) : (cntL x l k)[g]'(by rw [cntL_len]; exact hg) = cntI l k (g : Int) := by simp [cntL]
theorem cntL_zero (x : Tt) (l : List Int) : cntL x l 0 = List.replicate x.G.length 0 := by
  refine List.ext_getElem (by simp [cntL]) (fun i h1 h2 => ?_)
  rw [cntL_len] at h1
  rw [cntL_at _ _ _ h1, cntI_zero, List.getElem_replicate]
theorem cntL_step {x : Tt} {l : List Int} {k : Nat} (hk : k < l.length) {g : Nat} (_ : g < x.G.length) (h : l[k] = (g : Int)) : (cntL x l k).set g (cntI l k (g : Int) + 1) = cntL x l (k + 1) := by
  refine List.ext_getElem (by simp [cntL]) (fun i h1 h2 => ?_)
  rw [cntL_len] at h2
  rw [List.getElem_set, cntL_at _ _ _ h2, cntL_at _ _ _ h2, cntI_succ hk, h]
  by_cases hi : g = i
  · subst hi; simp
  · rw [if_neg hi, if_neg (by omega)]; simp
theorem cntL_neg {x : Tt} {l : List Int} {k : Nat} (hk : k < l.length) (h : l[k] < 0) : cntL x l (k + 1) = cntL x l k := by
  refine List.ext_getElem (by simp [cntL]) (fun i h1 h2 => ?_)
  rw [cntL_len] at h2
  rw [cntL_at _ _ _ h2, cntL_at _ _ _ h2, cntI_succ hk, if_neg (by omega)]; simp
theorem cntI_bd (l : List Int) (k : Nat) (g : Int) : 0 ≤ cntI l k g ∧ cntI l k g ≤ k := by
  unfold cntI
  have h1 := List.count_le_length (a := g) (l := l.take k)
  have h2 : (l.take k).length ≤ k := by simp; omega
  omega
structure GS (W w : World) (x : Tt) (AH AG : Option Addr) (ch cg BN : Nat) (L : List Int) : Prop where
  v : VB W w x AH AG ch cg
  fn : Has w BN 3 (ils L)
  lt : W.heap.size < BN
section
variable {W w w' : World} {x : Tt} {AH AG : Option Addr} {ch cg BN : Nat} {L : List Int}
theorem GS.step (h : GS W w x AH AG ch cg BN L) (hb : Below w.heap.size w w') : GS W w' x AH AG ch cg BN L := ⟨h.v.step hb, h.fn.below hb h.fn.lt, h.lt⟩
theorem GS.drew (h : GS W w x AH AG ch cg BN L) : GS W w.drew x AH AG ch cg BN L := ⟨⟨h.v.b.drew, h.v.fx.drew⟩, h.fn.drew, h.lt⟩
theorem GS.set (h : GS W w x AH AG ch cg BN L) (i : Nat) (n : Int) : GS W (w.setCell ⟨BN, i, none⟩ (.int .i64 n)) x AH AG ch cg BN (L.set i n) :=
  ⟨⟨h.v.b.setCell (Nat.le_of_lt h.lt) _, h.v.fx.far (p := ⟨BN, i, none⟩) (Nat.ne_of_lt h.lt) _⟩, by have := h.fn.set i (.int .i64 n); rwa [ils_set] at this, h.lt⟩
end
set_option maxRecDepth 100000 in
set_option maxHeartbeats 4000000 in
theorem good_any (x : Tt) (AH AG : Option Addr) (ch cg : Nat) (l : List Int) (A : Option Addr) (c : Nat) (W : World) (hr : TR W W.heap.size x AH AG) (hv : VT x) (ha : IRow W W.heap.size A l) (hl : l.length ≤ 1000000) :
    Calls Try.prog 23 #[ttv x AH AG ch cg, .slice A l.length c] W (BoolPost (goodP x l) W) := by
  have hmix : Try.prog.follows .mixedOrders = true := by kernel_rfl
  have HB : Hid (VB W (W.alloc (.cells (ttc x AH AG ch cg) 25)) x AH AG ch cg) := ⟨below_one W _, Has.new W 25 _⟩
  have HA := Lib.hid ha
  have HR := Lib.hid hr
  have hng := hv.ng
  have HP := Lib.hid (fun w (h : IRow w w.heap.size A l) => Plan_any x AH AG ch cg l A c w (by omega) h hl)
  clear ha hr hl
  cases hP : planB x l <;> rw [hP] at HP
  · have HE : Hid (goodP x l = false) := Lib.hid (by unfold goodP; rw [hP]; rfl)
    clear hP hv
    unfold ttv at *
    go_enter Try.func23, Try.ntmps23
    go_upto_region 1 with fail
    generalize W.alloc (.cells (ttc x AH AG ch cg) 25) = w0 at HB ⊢
    have x0 : w0.cell? ⟨W.heap.size, 0, none⟩ = some (.slice AH x.H.length ch) := HB.out.fx.cell 0
    have x1 : w0.cell? ⟨W.heap.size, 1, none⟩ = some (.slice AG x.G.length cg) := HB.out.fx.cell 1
    have x2 : w0.cell? ⟨W.heap.size, 2, none⟩ = some (.int .i64 x.R) := HB.out.fx.cell 2
    go_wp2_with fail
    refine (HP.out _ (HA.out.step HB.out.b)).mono ?_
    rintro e w1 ⟨rfl, hb1⟩
    have HB1 := Lib.hid (HB.out.step hb1)
    clear hb1
    go_wp2_with fail
    go_ret
    exact ⟨ret_bool HE.out.symm, HB1.out.b⟩
  have HPL := Lib.hid (plan_ok hP)
  have HGP := Lib.hid (goodP_of hP)
  have HM := Lib.hid (fun (b : Gr) (a : Hr) w (hb : b ∈ x.G) (ha : a ∈ x.H) => May_any b a w (hv.g b hb).1 (hv.h a ha).1)
  have HVH := Lib.hid (And.intro hv.R hv.h)
  have hl12 : l.length ≤ 12 := by have := HPL.out.1; have := hv.nh; omega
  have hnh := hv.nh
  clear hP hv
  unfold ttv at *
  go_enter Try.func23, Try.ntmps23
  go_upto_region 1 with fail
  generalize W.alloc (.cells (ttc x AH AG ch cg) 25) = w0 at HB ⊢
  have x0 : w0.cell? ⟨W.heap.size, 0, none⟩ = some (.slice AH x.H.length ch) := HB.out.fx.cell 0
  have x1 : w0.cell? ⟨W.heap.size, 1, none⟩ = some (.slice AG x.G.length cg) := HB.out.fx.cell 1
  have x2 : w0.cell? ⟨W.heap.size, 2, none⟩ = some (.int .i64 x.R) := HB.out.fx.cell 2
  go_wp2_with fail
  refine (HP.out _ (HA.out.step HB.out.b)).mono ?_
  rintro e w1 ⟨rfl, hb1⟩
  have HB1 := Lib.hid (HB.out.step hb1)
  clear hb1 x0 x1 x2 HB HP
  have x1 : w1.cell? ⟨W.heap.size, 1, none⟩ = some (.slice AG x.G.length cg) := HB1.out.fx.cell 1
  have hmk := make_ints x.G.length (by omega) w1
  go_upto_region 4 with fail
  have HG0 : Hid (GS W (w1.alloc (.cells (ils (List.replicate x.G.length 0)) 3)) x AH AG ch cg w1.heap.size (cntL x l 0)) := Lib.hid ⟨HB1.out.step (below_one w1 _), by rw [cntL_zero]; exact Has.new w1 3 _, HB1.out.fx.lt⟩
  generalize w1.alloc (.cells (ils (List.replicate x.G.length 0)) 3) = w2 at HG0 ⊢
  generalize w1.heap.size = BN at HG0 ⊢
  clear hmk x1 HB1
  go_wp2_with fail
  go_loopg [6] l.length (fun gk i wr => ∃ k : Nat, k ≤ l.length ∧ l.length - k ≤ gk ∧ i = .int .i64 k ∧ Hid (GS W wr x AH AG ch cg BN (cntL x l k) ∧ ∀ j, j < k → goodI x l j = true))
  case atStart => exact ⟨0, Nat.zero_le _, Nat.le_refl _, rfl, Lib.hid ⟨HG0.out, fun j h => absurd h (by omega)⟩⟩
  case round =>
    obtain ⟨k, hk, hgk, rfl, HW⟩ := hrel
    clear HG0
    by_cases hlt : k < l.length
    rotate_left
    · have hge : ¬ (k : Int) < l.length := by omega
      have HE : Hid (goodP x l = true) := Lib.hid (HGP.out.2 (fun i hi => HW.out.2 i (by omega)))
      go_wp2_with fail
      go_ret
      exact ⟨ret_bool HE.out.symm, HW.out.1.v.b⟩
    have hlt2 : (k : Int) < l.length := by omega
    obtain ⟨gl, ol, hgl, hgls, hcl⟩ := HA.out k hlt
    have CL : Hid (∀ w, Below W.heap.size W w → ∀ i (hi : i < l.length), w.cell? ⟨gl, ol + i, none⟩ = some (.int .i64 l[i])) := Lib.hid fun w hb i hi => by
      obtain ⟨g', o', e', _, hc'⟩ := (HA.out.below hb) i hi
      rw [hgl] at e'; cases e'
      exact hc'
    obtain ⟨v, hve⟩ : ∃ v, v = l[k] := ⟨_, rfl⟩
    have hvm := HPL.out.2 v (hve ▸ List.getElem_mem hlt)
    have HVE := Lib.hid hve
    have c0 : wr.cell? ⟨gl, ol + k, none⟩ = some (.int .i64 v) := by rw [hve]; exact CL.out _ HW.out.1.v.b k hlt
    have HNO : Hid (goodI x l k = false → goodP x l = false) := Lib.hid fun h => by
      cases hg : goodP x l with
      | false => rfl
      | true => have := HGP.out.1 hg k hlt; rw [h] at this; cases this
    have HNX : Hid (goodI x l k = true → ∀ j, j < k + 1 → goodI x l j = true) := Lib.hid fun h j hj => by
      rcases Nat.lt_or_ge j k with h' | h'
      · exact HW.out.2 j h'
      · have : j = k := by omega
        subst this; exact h
    subst hgl
    clear hgls hcl hve
    by_cases hneg : v < 0
    · have HE := Lib.hid (HNX.out (goodI_neg hlt (by rw [← HVE.out]; exact hneg)))
      have HC := Lib.hid (cntL_neg (x := x) hlt (by rw [← HVE.out]; exact hneg))
      go_wp2_with fail
      go_roundg (l.length - (k + 1))
      case measure => omega
      case rel => exact ⟨k + 1, by omega, Nat.le_refl _, by go_num, Lib.hid ⟨by rw [HC.out]; exact HW.out.1, HE.out⟩⟩
    obtain ⟨g, hgv, hgx⟩ : ∃ g : Nat, v = (g : Int) ∧ g < x.G.length := by
      rcases hvm with h | h
      · omega
      · exact h
    subst hgv
    have hgx2 : (g : Int) < x.G.length := by omega
    have hkh : k < x.H.length := by have := HPL.out.1; omega
    have hkh2 : (k : Int) < x.H.length := by omega
    have HGI := goodI_at (x := x) hlt HVE.out.symm hgx hkh
    have HST := Lib.hid (cntL_step (x := x) hlt hgx HVE.out.symm)
    have hcb := cntI_bd l k (g : Int)
    have hcs := cntI_succ hlt (g : Int)
    rw [← HVE.out, if_pos rfl] at hcs
    obtain ⟨gg, og, hgg, hggs, -⟩ := HR.out.g g hgx
    obtain ⟨gh, oh, hgh, hghs, -⟩ := HR.out.h k hkh
    have CG : Hid (∀ w, Below W.heap.size W w → ∀ j, j < 5 → w.cell? ⟨gg, og + g * 5 + j, none⟩ = (grc x.G[g])[j]?) := Lib.hid fun w hb j hj => by
      obtain ⟨g', o', e', _, hc'⟩ := (HR.out.below hb).g g hgx
      rw [hgg] at e'; cases e'
      exact hc' j hj
    have CH : Hid (∀ w, Below W.heap.size W w → ∀ i (hi : i < x.H.length), ∀ j, j < 3 → w.cell? ⟨gh, oh + i * 3 + j, none⟩ = (hrc x.H[i])[j]?) := Lib.hid fun w hb i hi j hj => by
      obtain ⟨g', o', e', _, hc'⟩ := (HR.out.below hb).h i hi
      rw [hgh] at e'; cases e'
      exact hc' j hj
    have HMB := Lib.hid (fun w => HM.out x.G[g] x.H[k] w (List.getElem_mem hgx) (List.getElem_mem hkh))
    have hvk := HVH.out.2 _ (List.getElem_mem hkh)
    have HAE : Hid (∀ i (hi : i < x.H.length), i = k → x.H[i] = x.H[k]) := Lib.hid fun i hi e => by subst e; rfl
    obtain ⟨b, hb⟩ : ∃ b, b = x.G[g] := ⟨_, rfl⟩
    obtain ⟨a, hae⟩ : ∃ a, a = x.H[k] := ⟨_, rfl⟩
    rw [← hb] at CG HMB HGI
    rw [← hae] at HMB hvk HGI
    have HAA := Lib.hid hae
    have CA : Hid (∀ w, Below W.heap.size W w → ∀ j, j < 3 → w.cell? ⟨gh, oh + k * 3 + j, none⟩ = (hrc a)[j]?) := Lib.hid (by rw [hae]; exact fun w hb j hj => CH.out w hb k hkh j hj)
    obtain ⟨n0, hn0⟩ : ∃ n, n = cntI l k (g : Int) := ⟨_, rfl⟩
    obtain ⟨n1, hn1⟩ : ∃ n, n = cntI l (k + 1) (g : Int) := ⟨_, rfl⟩
    have hnn : n1 = n0 + 1 := by rw [hn0, hn1]; exact hcs
    have s0 : wr.cell? ⟨BN, g, none⟩ = some (.int .i64 n0) := (HW.out.1.fn.cell _).trans ((ils_at (by rw [cntL_len]; exact hgx)).trans (by rw [cntL_at _ _ _ hgx, hn0]))
    rw [← hn0] at HST hcb
    rw [← hn1] at HGI
    have HGI := Lib.hid HGI
    have HN1 := Lib.hid hn1
    have sf := HW.out.1.fn.frozen
    have sl := HW.out.1.fn.lt
    have e1 : IntKind.i64.wrap (n0 + 1) = n0 + 1 := IntWalk.i64_in _ (by omega)
    subst hgg hgh
    clear hb hae hn0 hn1 hcs hvm hneg hggs hghs HM
    go_upto_region 10 with fail
    have HW1 := Lib.hid (HW.out.1.set g (n0 + 1))
    rw [HST.out] at HW1
    clear s0 sf sl c0 e1 HST
    generalize wr.setCell ⟨BN, g, none⟩ (.int .i64 (n0 + 1)) = w3 at HW1 ⊢
    rw [← hnn]
    obtain ⟨L, hL⟩ : ∃ L, L = cntL x l (k + 1) := ⟨_, rfl⟩
    rw [← hL] at HW1
    have HLe := Lib.hid hL
    have hLg : L[g]? = some n1 := by rw [hL, List.getElem?_eq_getElem (by rw [cntL_len]; exact hgx), cntL_at _ _ _ hgx, HN1.out]
    clear hL hnn
    haveI hne : Nonempty (Cls (fun w' => GS W w' x (some ⟨gh, oh, none⟩) (some ⟨gg, og, none⟩) ch cg BN L)) := ⟨⟨_, HW1.out.drew⟩⟩
    have HD := Lib.hid (GS.drew HW1.out)
    have hx0 : ∀ pc : Cls (fun w' => GS W w' x (some ⟨gh, oh, none⟩) (some ⟨gg, og, none⟩) ch cg BN L), pc.w.cell? ⟨W.heap.size, 0, none⟩ = some (.slice (some ⟨gh, oh, none⟩) x.H.length ch) := fun pc => pc.h.v.fx.cell 0
    have hx1 : ∀ pc : Cls (fun w' => GS W w' x (some ⟨gh, oh, none⟩) (some ⟨gg, og, none⟩) ch cg BN L), pc.w.cell? ⟨W.heap.size, 1, none⟩ = some (.slice (some ⟨gg, og, none⟩) x.G.length cg) := fun pc => pc.h.v.fx.cell 1
    have hx2 : ∀ pc : Cls (fun w' => GS W w' x (some ⟨gh, oh, none⟩) (some ⟨gg, og, none⟩) ch cg BN L), pc.w.cell? ⟨W.heap.size, 2, none⟩ = some (.int .i64 x.R) := fun pc => pc.h.v.fx.cell 2
    have hs0 : ∀ pc : Cls (fun w' => GS W w' x (some ⟨gh, oh, none⟩) (some ⟨gg, og, none⟩) ch cg BN L), pc.w.cell? ⟨BN, g, none⟩ = some (.int .i64 n1) := fun pc => (pc.h.fn.cell _).trans (by rw [ils_get, hLg]; rfl)
    have hg0 : ∀ pc : Cls (fun w' => GS W w' x (some ⟨gh, oh, none⟩) (some ⟨gg, og, none⟩) ch cg BN L), pc.w.cell? ⟨gg, og + g * 5, none⟩ = some (.int .i64 b.days) := fun pc => CG.out _ pc.h.v.b 0 (by omega)
    have hg1 : ∀ pc : Cls (fun w' => GS W w' x (some ⟨gh, oh, none⟩) (some ⟨gg, og, none⟩) ch cg BN L), pc.w.cell? ⟨gg, og + g * 5 + 1, none⟩ = some (.int .i64 b.early) := fun pc => CG.out _ pc.h.v.b 1 (by omega)
    have hg2 : ∀ pc : Cls (fun w' => GS W w' x (some ⟨gh, oh, none⟩) (some ⟨gg, og, none⟩) ch cg BN L), pc.w.cell? ⟨gg, og + g * 5 + 2, none⟩ = some (.int .i64 b.late) := fun pc => CG.out _ pc.h.v.b 2 (by omega)
    have hg3 : ∀ pc : Cls (fun w' => GS W w' x (some ⟨gh, oh, none⟩) (some ⟨gg, og, none⟩) ch cg BN L), pc.w.cell? ⟨gg, og + g * 5 + 3, none⟩ = some (.int .i64 b.most) := fun pc => CG.out _ pc.h.v.b 3 (by omega)
    have hg4 : ∀ pc : Cls (fun w' => GS W w' x (some ⟨gh, oh, none⟩) (some ⟨gg, og, none⟩) ch cg BN L), pc.w.cell? ⟨gg, og + g * 5 + 4, none⟩ = some (.int .i64 b.credit) := fun pc => CG.out _ pc.h.v.b 4 (by omega)
    have hh0 : ∀ pc : Cls (fun w' => GS W w' x (some ⟨gh, oh, none⟩) (some ⟨gg, og, none⟩) ch cg BN L), pc.w.cell? ⟨gh, oh + k * 3, none⟩ = some (.int .i64 a.day) := fun pc => CA.out _ pc.h.v.b 0 (by omega)
    have hh1 : ∀ pc : Cls (fun w' => GS W w' x (some ⟨gh, oh, none⟩) (some ⟨gg, og, none⟩) ch cg BN L), pc.w.cell? ⟨gh, oh + k * 3 + 1, none⟩ = some (.int .i64 a.beg) := fun pc => CA.out _ pc.h.v.b 1 (by omega)
    have hh2 : ∀ pc : Cls (fun w' => GS W w' x (some ⟨gh, oh, none⟩) (some ⟨gg, og, none⟩) ch cg BN L), pc.w.cell? ⟨gh, oh + k * 3 + 2, none⟩ = some (.int .i64 a.fin) := fun pc => CA.out _ pc.h.v.b 2 (by omega)
    clear hLg
    have HFR := Lib.hid (fun (w : World) (h : GS W w x (some ⟨gh, oh, none⟩) (some ⟨gg, og, none⟩) ch cg BN L) => (HMB.out w).mono (fun e w' (h' : BoolPost (mayB b a) w e w') => (show e = .returned (.bool (mayB b a)) ∧ GS W w' x (some ⟨gh, oh, none⟩) (some ⟨gg, og, none⟩) ch cg BN L from ⟨h'.1, h.step h'.2⟩)))
    unfold grv hrv at HFR
    clear HMB
    by_cases hmo : b.most < n1
    · have HE := Lib.hid (HNO.out (by rw [HGI.out, decide_eq_false (show ¬ n1 ≤ b.most by omega)]; rfl))
      clear HNO HNX HGI
      refine wp_region_cls (fun w' => GS W w' x (some ⟨gh, oh, none⟩) (some ⟨gg, og, none⟩) ch cg BN L) hmix (by kernel_rfl) HD.out ?_
      repeat (quiet_step (fail))
      refine wpQuiet_nil ?_
      rintro w7 ⟨⟨_, hw7⟩, rfl⟩
      have H7 := Lib.hid hw7
      clear hw7 hx0 hx1 hx2 hs0 hg0 hg1 hg2 hg3 hg4 hh0 hh1 hh2 hne HD HFR
      try simp only []
      go_wp2_with fail
      go_ret
      exact ⟨ret_bool HE.out.symm, H7.out.v.b⟩
    have HGI := Lib.hid (HGI.out.trans (by rw [decide_eq_true (show n1 ≤ b.most by omega), Bool.true_and]))
    cases hmy : mayB b a <;> rw [hmy] at HFR HGI
    · have HE := Lib.hid (HNO.out HGI.out)
      have hcl := HFR.out
      clear HNO HNX HGI hmy
      refine wp_region_cls (fun w' => GS W w' x (some ⟨gh, oh, none⟩) (some ⟨gg, og, none⟩) ch cg BN L) hmix (by kernel_rfl) HD.out ?_
      repeat (quiet_step (exact cls_call hcl _))
      refine wpQuiet_nil ?_
      rintro w7 ⟨⟨_, hw7⟩, rfl⟩
      have H7 := Lib.hid hw7
      clear hw7 hx0 hx1 hx2 hs0 hg0 hg1 hg2 hg3 hg4 hh0 hh1 hh2 hne HD HFR hcl
      try simp only []
      go_wp2_with fail
      go_ret
      exact ⟨ret_bool HE.out.symm, H7.out.v.b⟩
    rw [Bool.true_and] at HGI
    have hcl := HFR.out
    clear hmy
    refine wp_region_cls (fun w' => GS W w' x (some ⟨gh, oh, none⟩) (some ⟨gg, og, none⟩) ch cg BN L) hmix (by kernel_rfl) HD.out ?_
    repeat (quiet_step (exact cls_call hcl _))
    refine wpQuiet_nil ?_
    rintro w7 ⟨⟨_, hw7⟩, rfl⟩
    have H7 := Lib.hid hw7
    clear hw7 HD HFR hcl
    try simp only []
    go_upto_region 12 with fail
    have HD := Lib.hid (GS.drew H7.out)
    have hk0 : ∀ pc : Cls (fun w' => GS W w' x (some ⟨gh, oh, none⟩) (some ⟨gg, og, none⟩) ch cg BN L), pc.w.cell? ⟨gl, ol + k, none⟩ = some (.int .i64 g) := fun pc => (CL.out _ pc.h.v.b k hlt).trans (by rw [← HVE.out])
    clear hs0 hg0 hg1 hg2 hg3 hg4 hx1
    by_cases h0 : k = 0
    · have HE := Lib.hid (HNX.out (by rw [HGI.out]; simp [h0]))
      have h0' : ((k : Int) == 0) = true := by simp; omega
      clear HNO HNX HGI h0
      refine wp_region_cls (fun w' => GS W w' x (some ⟨gh, oh, none⟩) (some ⟨gg, og, none⟩) ch cg BN L) hmix (by kernel_rfl) HD.out ?_
      repeat (quiet_step (fail))
      refine wpQuiet_nil ?_
      rintro w8 ⟨⟨_, hw8⟩, rfl⟩
      have H8 := Lib.hid hw8
      clear hw8 hx0 hx2 hh0 hh1 hh2 hk0 hne HD
      try simp only []
      go_wp2_with fail
      go_roundg (l.length - (k + 1))
      case measure => omega
      case rel => exact ⟨k + 1, by omega, Nat.le_refl _, by go_num, Lib.hid ⟨by rw [← HLe.out]; exact H8.out, HE.out⟩⟩
    obtain ⟨i, hi⟩ : ∃ i, i = k - 1 := ⟨_, rfl⟩
    have hil : i < l.length := by omega
    have hil2 : (i : Int) < l.length := by omega
    have hih : i < x.H.length := by omega
    have hih2 : (i : Int) < x.H.length := by omega
    have e1 : IntKind.i64.wrap ((k : Int) - 1) = (i : Int) := by rw [IntWalk.i64_in _ (by omega)]; omega
    have h0' : ((k : Int) == 0) = false := by simp; omega
    have HVI := HVH.out.2 _ (List.getElem_mem hih)
    obtain ⟨u, hu⟩ : ∃ u, u = l[i] := ⟨_, rfl⟩
    obtain ⟨p, hp⟩ : ∃ p, p = x.H[i] := ⟨_, rfl⟩
    rw [← hp] at HVI
    have hah : ahd l k = u := by
      unfold ahd; rw [if_neg h0, ← hi, hu]; simp [List.getD, hil]
    have htg : tightB x (k - 1) = (decide (p.day = a.day) && decide (a.beg - p.fin < x.R)) := by
      rw [← hi]
      unfold tightB
      rw [List.getElem?_eq_getElem hih, show i + 1 = k by omega, List.getElem?_eq_getElem hkh, ← hp, ← HAA.out]
    have HGI := Lib.hid (HGI.out.trans (by rw [hah, htg, decide_eq_false h0, Bool.false_or]))
    have hu0 : ∀ pc : Cls (fun w' => GS W w' x (some ⟨gh, oh, none⟩) (some ⟨gg, og, none⟩) ch cg BN L), pc.w.cell? ⟨gl, ol + i, none⟩ = some (.int .i64 u) := fun pc => (CL.out _ pc.h.v.b i hil).trans (by rw [← hu])
    have hp0 : ∀ pc : Cls (fun w' => GS W w' x (some ⟨gh, oh, none⟩) (some ⟨gg, og, none⟩) ch cg BN L), pc.w.cell? ⟨gh, oh + i * 3, none⟩ = some (.int .i64 p.day) := fun pc => (CH.out _ pc.h.v.b i hih 0 (by omega)).trans (by rw [← hp]; rfl)
    have hp2 : ∀ pc : Cls (fun w' => GS W w' x (some ⟨gh, oh, none⟩) (some ⟨gg, og, none⟩) ch cg BN L), pc.w.cell? ⟨gh, oh + i * 3 + 2, none⟩ = some (.int .i64 p.fin) := fun pc => (CH.out _ pc.h.v.b i hih 2 (by omega)).trans (by rw [← hp]; rfl)
    have hvr := HVH.out.1
    obtain ⟨⟨hv1, hv2⟩, hv3, hv4, hv5⟩ := hvk
    obtain ⟨⟨hw1, hw2⟩, hw3, hw4, hw5⟩ := HVI
    clear hah htg hu hp hi
    have hkz := Lib.hid h0
    clear h0
    by_cases hun : u < 0
    · have HE := Lib.hid (HNX.out (by rw [HGI.out]; simp [hun]))
      clear HNO HNX HGI
      refine wp_region_cls (fun w' => GS W w' x (some ⟨gh, oh, none⟩) (some ⟨gg, og, none⟩) ch cg BN L) hmix (by kernel_rfl) HD.out ?_
      repeat (quiet_step (fail))
      refine wpQuiet_nil ?_
      rintro w8 ⟨⟨_, hw8⟩, rfl⟩
      have H8 := Lib.hid hw8
      clear hw8 hx0 hx2 hh0 hh1 hh2 hk0 hu0 hp0 hp2 hne HD
      try simp only []
      go_wp2_with fail
      go_roundg (l.length - (k + 1))
      case measure => omega
      case rel => exact ⟨k + 1, by omega, Nat.le_refl _, by go_num, Lib.hid ⟨by rw [← HLe.out]; exact H8.out, HE.out⟩⟩
    by_cases hug : u = (g : Int)
    · have HE := Lib.hid (HNX.out (by rw [HGI.out]; simp [hug]))
      have hug' : (u == (g : Int)) = true := by simpa using hug
      clear HNO HNX HGI hug
      refine wp_region_cls (fun w' => GS W w' x (some ⟨gh, oh, none⟩) (some ⟨gg, og, none⟩) ch cg BN L) hmix (by kernel_rfl) HD.out ?_
      repeat (quiet_step (fail))
      refine wpQuiet_nil ?_
      rintro w8 ⟨⟨_, hw8⟩, rfl⟩
      have H8 := Lib.hid hw8
      clear hw8 hx0 hx2 hh0 hh1 hh2 hk0 hu0 hp0 hp2 hne HD
      try simp only []
      go_wp2_with fail
      go_roundg (l.length - (k + 1))
      case measure => omega
      case rel => exact ⟨k + 1, by omega, Nat.le_refl _, by go_num, Lib.hid ⟨by rw [← HLe.out]; exact H8.out, HE.out⟩⟩
    have hug' : (u == (g : Int)) = false := by simpa using hug
    have HGI := Lib.hid (HGI.out.trans (by rw [decide_eq_false hun, decide_eq_false hug, Bool.false_or, Bool.false_or]))
    clear hug
    by_cases hdy : p.day = a.day
    rotate_left
    · have HE := Lib.hid (HNX.out (by rw [HGI.out]; simp [hdy]))
      have hdy' : (p.day == a.day) = false := by simpa using hdy
      clear HNO HNX HGI hdy
      refine wp_region_cls (fun w' => GS W w' x (some ⟨gh, oh, none⟩) (some ⟨gg, og, none⟩) ch cg BN L) hmix (by kernel_rfl) HD.out ?_
      repeat (quiet_step (fail))
      refine wpQuiet_nil ?_
      rintro w8 ⟨⟨_, hw8⟩, rfl⟩
      have H8 := Lib.hid hw8
      clear hw8 hx0 hx2 hh0 hh1 hh2 hk0 hu0 hp0 hp2 hne HD
      try simp only []
      go_wp2_with fail
      go_roundg (l.length - (k + 1))
      case measure => omega
      case rel => exact ⟨k + 1, by omega, Nat.le_refl _, by go_num, Lib.hid ⟨by rw [← HLe.out]; exact H8.out, HE.out⟩⟩
    have hdy' : (p.day == a.day) = true := by simpa using hdy
    have hdy2 : (p.day != a.day) = false := by simpa using hdy
    have HGI := Lib.hid (HGI.out.trans (by rw [decide_eq_true hdy, Bool.true_and]))
    clear hdy
    refine wp_region_cls (fun w' => GS W w' x (some ⟨gh, oh, none⟩) (some ⟨gg, og, none⟩) ch cg BN L) hmix (by kernel_rfl) HD.out ?_
    repeat (quiet_step (fail))
    refine wpQuiet_nil ?_
    rintro w8 ⟨⟨_, hw8⟩, rfl⟩
    have H8 := Lib.hid hw8
    clear hw8 HD
    try simp only []
    go_upto_region 13 with fail
    have HD := Lib.hid (GS.drew H8.out)
    have e2 : IntKind.i64.wrap (a.beg - p.fin) = a.beg - p.fin := IntWalk.i64_in _ (by omega)
    by_cases hti : a.beg - p.fin < x.R
    · have HE := Lib.hid (HNO.out (by rw [HGI.out]; simp [hti]))
      clear HNO HNX HGI
      refine wp_region_cls (fun w' => GS W w' x (some ⟨gh, oh, none⟩) (some ⟨gg, og, none⟩) ch cg BN L) hmix (by kernel_rfl) HD.out ?_
      repeat (quiet_step (fail))
      refine wpQuiet_nil ?_
      rintro w9 ⟨⟨_, hw9⟩, rfl⟩
      have H9 := Lib.hid hw9
      clear hw9 hx0 hx2 hh0 hh1 hh2 hk0 hu0 hp0 hp2 hne HD
      try simp only []
      go_wp2_with fail
      go_ret
      exact ⟨ret_bool HE.out.symm, H9.out.v.b⟩
    · have HE := Lib.hid (HNX.out (by rw [HGI.out]; simp [hti]))
      clear HNO HNX HGI
      refine wp_region_cls (fun w' => GS W w' x (some ⟨gh, oh, none⟩) (some ⟨gg, og, none⟩) ch cg BN L) hmix (by kernel_rfl) HD.out ?_
      repeat (quiet_step (fail))
      refine wpQuiet_nil ?_
      rintro w9 ⟨⟨_, hw9⟩, rfl⟩
      have H9 := Lib.hid hw9
      clear hw9 hx0 hx2 hh0 hh1 hh2 hk0 hu0 hp0 hp2 hne HD
      try simp only []
      go_wp2_with fail
      go_roundg (l.length - (k + 1))
      case measure => omega
      case rel => exact ⟨k + 1, by omega, Nat.le_refl _, by go_num, Lib.hid ⟨by rw [← HLe.out]; exact H9.out, HE.out⟩⟩
end Go.Proofs.Ytipejhfgfciabaa
