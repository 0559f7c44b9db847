/- The laws' other: a good plan by remainders. -/
import Derived.Test.YtipejhfgfciabaaLwG
import Derived.Test.YtipejhfgfciabaaOpA
namespace Go.Proofs.Ytipejhfgfciabaa
open Go.RowKit Go.Shelf
attribute [local irreducible] wpQuiet
theorem own_set {w : World} {B g n c i : Nat} {l : List Int} (h : w.ownsRow B 3 1 (.slice (some ⟨g, 0, none⟩) n c) n (ivl l)) (hi : i < n) (v : Int) : (w.setCell ⟨g, i, none⟩ (.int .i64 v)).ownsRow B 3 1 (.slice (some ⟨g, 0, none⟩) n c) n (ivl (l.set i v)) := by
  obtain ⟨h0, ⟨e, _⟩ | ⟨g', cap, cur, e, hB, hh, h1, h2, h3, h4⟩⟩ := h
  · cases e
  · cases e
    refine ⟨by simpa [ivl] using h0, .inr ⟨g, c, cur.setIfInBounds i (.int .i64 v), rfl, hB, ?_, h1, h2, by simpa using h3, ?_⟩⟩
    · exact Has.set hh i (.int .i64 v)
    · have hl : l.length = n := by simpa [ivl] using h0
      rw [Array.toList_setIfInBounds]
      refine List.ext_getElem? (fun j => ?_)
      have e4 := congrArg (fun t => t[j]?) h4
      simp only [List.getElem?_take, Nat.mul_one, List.getElem?_set, ivl, List.getElem?_map] at e4 ⊢
      by_cases hj : j < n
      · rw [if_pos hj] at e4 ⊢
        by_cases hij : i = j
        · subst hij
          have hcs : i < cur.toList.length := by
            rcases Nat.lt_or_ge i cur.toList.length with h | h
            · exact h
            · rw [List.getElem?_eq_none h, List.getElem?_eq_getElem (by omega)] at e4
              cases e4
          rw [if_pos rfl, if_pos rfl, if_pos hcs, if_pos (by omega)]
          rfl
        · rw [if_neg hij, if_neg hij]
          exact e4
      · rw [if_neg hj, if_neg (show ¬ i = j by omega), List.getElem?_eq_none (by omega)]
        rfl
theorem pad_snoc (o : List Int) {N : Nat} (h : o.length < N) : padP (o ++ [-1]) N = padP o N := by
  unfold padP
  rw [List.append_assoc]
  congr 1
  have : N - o.length = (N - (o ++ [-1]).length) + 1 := by simp; omega
  rw [this, List.replicate_succ]
  rfl
theorem pad_full (o : List Int) {N : Nat} (h : o.length = N) : padP o N = o := by unfold padP; simp [h]
theorem pad_nil_good (x : Tt) : goodP x (padP [] x.H.length) = true := by
  have hp : planB x (padP [] x.H.length) = true := by
    unfold planB padP
    simp only [Bool.and_eq_true, decide_eq_true_eq, List.all_eq_true]
    refine ⟨by simp, fun g hg => ?_⟩
    simp only [List.nil_append] at hg
    rw [List.eq_of_mem_replicate hg]; rfl
  rw [goodP_of hp]
  intro i hi
  refine goodI_neg hi ?_
  unfold padP
  simp
structure OT (W w : World) (x : Tt) (AH AG : Option Addr) (ch cg : Nat) (v : Value) (o : List Int) : Prop where
  vb : VB W w x AH AG ch cg
  own : w.ownsRow W.heap.size 3 1 v o.length (ivl o)
section
variable {W w w' : World} {x : Tt} {AH AG : Option Addr} {ch cg : Nat} {v : Value} {o : List Int}
theorem OT.step (h : OT W w x AH AG ch cg v o) (hb : Below w.heap.size w w') : OT W w' x AH AG ch cg v o := ⟨h.vb.step hb, own_step h.own hb⟩
theorem OT.drew (h : OT W w x AH AG ch cg v o) : OT W w.drew x AH AG ch cg v o := h.step (Below.refl _ _).drew
end
set_option maxRecDepth 100000 in
set_option maxHeartbeats 4000000 in
theorem other_any (x : Tt) (AH AG : Option Addr) (ch cg : Nat) (by_ : List Int) (A : Option Addr) (c : Nat) (W : World) (hr : TR W W.heap.size x AH AG) (hv : VT x) (hby : BRow W W.heap.size A by_) (hb8 : ∀ s ∈ by_, 0 ≤ s ∧ s ≤ 255) (hne : by_ ≠ []) :
    Calls Try.prog 24 #[ttv x AH AG ch cg, .slice A by_.length c] W (fun e W' => ∃ p, goodP x p = true ∧ NewRow p W e W') := by
  obtain ⟨i0, hi, hz0, hz1, hz2⟩ := info_parts Try.info3
  have hmix : Try.prog.follows .mixedOrders = true := by kernel_rfl
  have hng := hv.ng
  have hnh := hv.nh
  have hL0 : 0 < by_.length := List.length_pos_iff.2 hne
  have HOT : Hid (OT W ((W.alloc (.cells (ttc x AH AG ch cg) 25)).alloc (.cells #[] 3)) x AH AG ch cg (.slice (some ⟨W.heap.size + 1, 0, none⟩) 0 0) []) := Lib.hid
    ⟨⟨(below_one W _).alloc (by simp) _, (Has.new W 25 _).alloc _⟩, by have := own_empty (W.alloc (.cells (ttc x AH AG ch cg) 25)) W.heap.size (by simp) 3; simpa [ivl] using this⟩
  have HR := Lib.hid (And.intro hr hby)
  have HPa := Lib.hid (fun l' A' c' w h h' => padded_any l' A' c' x.H.length w h h' (by omega))
  have HGd := Lib.hid (fun l' A' c' w h h' h'' => good_any x AH AG ch cg l' A' c' w h hv h' h'')
  have HB8 := Lib.hid hb8
  clear hr hby hb8 hv
  unfold ttv at *
  go_enter Try.func24, Try.ntmps24
  go_upto_region 2 with fail
  generalize (W.alloc (.cells (ttc x AH AG ch cg) 25)).alloc (.cells #[] 3) = w0 at HOT ⊢
  go_wp2_with fail
  go_loopg [5, 6] x.H.length (fun gk v iv wr => ∃ (k : Nat) (o : List Int), k ≤ x.H.length ∧ x.H.length - k ≤ gk ∧ iv = .int .i64 k ∧ Hid (OT W wr x AH AG ch cg v o ∧ o.length = k ∧ goodP x (padP o x.H.length) = true))
  case atStart => exact ⟨0, [], Nat.zero_le _, Nat.le_refl _, rfl, Lib.hid ⟨HOT.out, rfl, pad_nil_good x⟩⟩
  case round =>
    obtain ⟨k, o, hk, hgk, rfl, HW⟩ := hrel
    clear HOT
    obtain ⟨A2, c2, hv2, hrow⟩ := row_of_own HW.out.1.own
    subst hv2
    have HRow := Lib.hid hrow
    clear hrow
    have x0 : wr.cell? ⟨W.heap.size, 0, none⟩ = some (.slice AH x.H.length ch) := HW.out.1.vb.fx.cell 0
    by_cases hlt : k < x.H.length
    rotate_left
    · have hge : ¬ (k : Int) < x.H.length := by omega
      have HE := Lib.hid (show goodP x o = true by have := HW.out.2.2; rwa [pad_full o (by have := HW.out.2.1; omega)] at this)
      go_wp2_with fail
      go_ret
      exact ⟨o, HE.out, A2, c2, rfl, HRow.out, HW.out.1.vb.b⟩
    have hlt2 : (k : Int) < x.H.length := by omega
    obtain ⟨j, hj⟩ : ∃ j, j = k % by_.length := ⟨_, rfl⟩
    have hjl : j < by_.length := by rw [hj]; exact Nat.mod_lt _ hL0
    have hjl2 : (j : Int) < by_.length := by omega
    have hjk : j ≤ k := by rw [hj]; exact Nat.mod_le _ _
    have em : (k : Int).tmod (by_.length : Int) = (j : Int) := by
      rw [Int.tmod_eq_emod_of_nonneg (by omega), hj]; simp
    have hLz : ¬ (by_.length : Int) = 0 := by omega
    obtain ⟨gb, ob, hgb, hgbs, hcb⟩ := HR.out.2 j hjl
    obtain ⟨bv, hbv⟩ : ∃ bv, bv = by_[j] := ⟨_, rfl⟩
    have hb255 := HB8.out bv (hbv ▸ List.getElem_mem hjl)
    rw [← hbv] at hcb
    have CB : Hid (∀ w, Below W.heap.size W w → w.cell? ⟨gb, ob + j, none⟩ = some (.int .u8 bv)) := Lib.hid fun w hb => (hb.cell (p := ⟨gb, _, none⟩) hgbs).trans hcb
    obtain ⟨g, hg⟩ : ∃ g, g = bv.toNat % (x.G.length + 1) := ⟨_, rfl⟩
    have hgn : g ≤ x.G.length := by have := Nat.mod_lt bv.toNat (show 0 < x.G.length + 1 by omega); omega
    have ew : IntKind.i64.wrap ((x.G.length : Int) + 1) = (x.G.length : Int) + 1 := IntWalk.i64_in _ (by omega)
    have ec : IntKind.i64.wrap bv = bv := IntWalk.i64_in _ (by omega)
    have en : bv.tmod ((x.G.length : Int) + 1) = (g : Int) := by
      rw [Int.tmod_eq_emod_of_nonneg hb255.1, hg]
      have h1 : bv = ((bv.toNat : Nat) : Int) := by omega
      have h2 : (x.G.length : Int) + 1 = ((x.G.length + 1 : Nat) : Int) := by omega
      rw [h2, Int.natCast_emod, ← h1]
    have eg : IntKind.i64.wrap (g : Int) = (g : Int) := IntWalk.i64_in _ (by omega)
    have ej : IntKind.i64.wrap (j : Int) = (j : Int) := IntWalk.i64_in _ (by omega)
    have hnz : ¬ ((x.G.length : Int) + 1) = 0 := by omega
    subst hgb
    clear hj hbv hcb hgbs hg
    go_upto_region 5 with fail
    clear x0
    haveI hne' : Nonempty (Cls (fun w' => OT W w' x AH AG ch cg (.slice A2 o.length c2) o)) := ⟨⟨_, HW.out.1.drew⟩⟩
    have hx1 : ∀ pc : Cls (fun w' => OT W w' x AH AG ch cg (.slice A2 o.length c2) o), pc.w.cell? ⟨W.heap.size, 1, none⟩ = some (.slice AG x.G.length cg) := fun pc => pc.h.vb.fx.cell 1
    have hb1 : ∀ pc : Cls (fun w' => OT W w' x AH AG ch cg (.slice A2 o.length c2) o), pc.w.cell? ⟨gb, ob + j, none⟩ = some (.int .u8 bv) := fun pc => CB.out _ pc.h.vb.b
    refine wp_region_cls (fun w' => OT W w' x AH AG ch cg (.slice A2 o.length c2) o) hmix (by kernel_rfl) HW.out.1.drew ?_
    repeat (quiet_step (fail))
    refine wpQuiet_nil ?_
    rintro w7 ⟨⟨_, hw7⟩, rfl⟩
    have H7 := Lib.hid hw7
    clear hw7 hx1 hb1 hne' em ew ec en eg ej hb255 hjl hjl2
    try simp only []
    have HO5 := Lib.hid (own_step H7.out.own (below_one w7 (.cells #[.int .i64 g] 3)))
    have hsX := H7.out.vb.b.size
    have hol12 : o.length ≤ 12 := by have := HW.out.2.1; omega
    go_wp2_with (at_builtin; refine wpList_append_own _ rfl _ _ 26 rfl W.heap.size 3 i0 (.int .i64 0) 1 8 Try.underlying26 hi hz0 hz1 hz2 rfl (by decide) (.slice A2 o.length c2) o.length (ivl o) rfl HO5.out ⟨w7.heap.size, 0, none⟩ 1 1 (ivl [(g : Int)]) rfl rfl (World.news_of_block (cs := #[.int .i64 g]) (Has.new w7 3 #[.int .i64 g])) (ivl_one _) ?q1 ?q2 ?q3 ?_)
    case q1 => unfold maxLen; omega
    case q2 => omega
    case q3 => (try simp only [World.size_alloc]); omega
    intro v6 w6 hown6 hgrow6 _
    obtain ⟨g6, c6, rfl⟩ : ∃ g6 c6, v6 = .slice (some ⟨g6, 0, none⟩) (o.length + 1) c6 := by
      rcases hown6.2 with ⟨_, h⟩ | ⟨g', cap, cur, e, _⟩
      · omega
      · exact ⟨g', cap, e⟩
    have hgr7 : Below w7.heap.size w7 (w7.alloc (.cells #[.int .i64 g] 3)) := below_one _ _
    have H6 : Hid (OT W w6 x AH AG ch cg (.slice (some ⟨g6, 0, none⟩) (o.length + 1) c6) (o ++ [(g : Int)])) := by
      have hb6 : Below W.heap.size W w6 := (H7.out.vb.b.trans (hgr7.mono hsX)).trans (grown_below hgrow6 (by rw [World.size_alloc]; exact Nat.le_succ_of_le hsX) (fun q hq => (HO5.out.lt q hq).1))
      refine Lib.hid ⟨⟨hb6, ?_⟩, ?_⟩
      · have f1 := H7.out.vb.fx.below hgr7 H7.out.vb.fx.lt
        refine f1.only (only_of_grown hgrow6) (fun e => ?_)
        obtain ⟨cur, hh, _⟩ := own_cells HO5.out e
        exact absurd (has_type f1 hh) (by decide)
      · simp only [List.length_append, List.length_singleton]
        have : ivl (o ++ [(g : Int)]) = ivl o ++ ivl [(g : Int)] := by simp [ivl]
        rw [this]; exact hown6
    clear hown6 hgrow6 hgr7 HO5 hsX
    have HLo := Lib.hid (show (o ++ [(g : Int)]).length = o.length + 1 by simp)
    have HPg : Hid (∀ (q : List Int), q.length = k + 1 → goodP x (padP q x.H.length) = true → ∀ w6 v6, OT W w6 x AH AG ch cg v6 q → ∃ k' o', k' ≤ x.H.length ∧ x.H.length - k' ≤ x.H.length - (k + 1) ∧ (.int .i64 ((k : Int) + 1) : Value) = .int .i64 k' ∧ Hid (OT W w6 x AH AG ch cg v6 o' ∧ o'.length = k' ∧ goodP x (padP o' x.H.length) = true)) := Lib.hid fun q h1 h2 w6 v6 h3 => ⟨k + 1, q, by omega, Nat.le_refl _, by go_num, Lib.hid ⟨h3, h1, h2⟩⟩
    have HBK : Hid (∀ w, OT W w x AH AG ch cg (.slice (some ⟨g6, 0, none⟩) (o.length + 1) c6) (o ++ [(g : Int)]) → OT W (w.setCell ⟨g6, k, none⟩ (.int .i64 (-1))) x AH AG ch cg (.slice (some ⟨g6, 0, none⟩) (o.length + 1) c6) (o ++ [-1]) ∧ (∃ u, w.cell? ⟨g6, k, none⟩ = some u) ∧ (∀ i, w.frozen? ⟨g6, i, none⟩ = false) ∧ g6 < w.heap.size) := Lib.hid fun w h => by
      have hko : k = o.length := HW.out.2.1.symm
      have hown := h.own
      rw [HLo.out] at hown
      have hs := own_set hown (i := k) (by omega) (-1)
      obtain ⟨cur, hh, hbg⟩ := own_cells hown (g := g6) rfl
      refine ⟨⟨⟨h.vb.b.setCell (p := ⟨g6, k, none⟩) hbg _, h.vb.fx.far (p := ⟨g6, k, none⟩) (fun e => ?_) _⟩, ?_⟩, ?_, hh.frozen, hh.lt⟩
      · have e' : W.heap.size = g6 := e
        subst e'
        exact absurd (has_type h.vb.fx hh) (by decide)
      · have e1 : (o ++ [(g : Int)]).set k (-1) = o ++ [-1] := by
          rw [List.set_append_right _ _ (by omega), hko]; simp
        rw [e1] at hs
        rw [show (o ++ [(-1 : Int)]).length = o.length + 1 by simp]
        exact hs
      · obtain ⟨A9, c9, e9, hr9⟩ := row_of_own h.own
        rw [HLo.out] at e9
        cases e9
        have hc9 := row_cells hr9 k (by rw [HLo.out]; omega)
        rw [Nat.zero_add] at hc9
        exact ⟨_, hc9⟩
    by_cases hgN : g = x.G.length
    · have hd : ((g : Int) == (x.G.length : Int)) = true := by simp; omega
      go_upto_region 7 with fail
      clear hgN
      haveI hne' : Nonempty (Cls (fun w' => OT W w' x AH AG ch cg (.slice (some ⟨g6, 0, none⟩) (o.length + 1) c6) (o ++ [(g : Int)]))) := ⟨⟨_, H6.out.drew⟩⟩
      have hx1 : ∀ pc : Cls (fun w' => OT W w' x AH AG ch cg (.slice (some ⟨g6, 0, none⟩) (o.length + 1) c6) (o ++ [(g : Int)])), pc.w.cell? ⟨W.heap.size, 1, none⟩ = some (.slice AG x.G.length cg) := fun pc => pc.h.vb.fx.cell 1
      refine wp_region_cls (fun w' => OT W w' x AH AG ch cg (.slice (some ⟨g6, 0, none⟩) (o.length + 1) c6) (o ++ [(g : Int)])) hmix (by kernel_rfl) H6.out.drew ?_
      repeat (quiet_step (fail))
      refine wpQuiet_nil ?_
      rintro w8 ⟨⟨_, hw8⟩, rfl⟩
      have H8 := Lib.hid (HBK.out _ hw8)
      clear hw8 hx1 hne' H6 HBK
      try simp only []
      obtain ⟨u, u0⟩ := H8.out.2.1
      have uf := H8.out.2.2.1
      have ul := H8.out.2.2.2
      have hk1 : (k : Int) < (o.length : Int) + 1 := by have := HW.out.2.1; omega
      go_wp2_with fail
      have HZ := Lib.hid (HPg.out _ (by rw [List.length_append, HW.out.2.1]; rfl) (by rw [pad_snoc o (by have := HW.out.2.1; omega)]; exact HW.out.2.2) _ _ H8.out.1)
      go_roundg (x.H.length - (k + 1))
      case measure => omega
      case rel => exact HZ.out
    have hd : ((g : Int) == (x.G.length : Int)) = false := by simp; omega
    have HPd := Lib.hid (fun w h => HPa.out (o ++ [(g : Int)]) (some ⟨g6, 0, none⟩) c6 w h (by rw [HLo.out]; have := HW.out.2.1; omega))
    rw [HLo.out] at HPd
    have hplen : (padP (o ++ [(g : Int)]) x.H.length).length ≤ 1000000 := by
      unfold padP
      simp only [List.length_append, List.length_replicate, List.length_singleton]
      have := HW.out.2.1; omega
    obtain ⟨q, hq⟩ : ∃ q, q = padP (o ++ [(g : Int)]) x.H.length := ⟨_, rfl⟩
    rw [← hq] at HPd hplen
    have HQe := Lib.hid hq
    have HGq := Lib.hid (fun A' c' w h h' => HGd.out q A' c' w h h' hplen)
    clear hgN hq hplen
    have HIR : Hid (∀ w, OT W w x AH AG ch cg (.slice (some ⟨g6, 0, none⟩) (o.length + 1) c6) (o ++ [(g : Int)]) → IRow w w.heap.size (some ⟨g6, 0, none⟩) (o ++ [(g : Int)])) := Lib.hid fun w h => by
      obtain ⟨A9, c9, e9, hr9⟩ := row_of_own h.own
      rw [HLo.out] at e9
      cases e9
      exact hr9
    go_upto_region 7 with fail
    have H8 := Lib.hid H6.out.drew
    clear H6
    have K8 := Lib.hid H8.out.vb.cells
    refine wp_region_late (fun w' : World => w'.cell? ⟨W.heap.size, 0, none⟩ = some (.slice AH x.H.length ch) ∧ w'.cell? ⟨W.heap.size, 1, none⟩ = some (.slice AG x.G.length cg) ∧ w'.cell? ⟨W.heap.size, 2, none⟩ = some (.int .i64 x.R)) [] (by kernel_rfl) ?_
    generalize w6.drew = w8 at H8 K8 ⊢
    refine wpLate_take (i := 0) (oi := ?oi0r7_) (v := ?v0r7_) [4, 5, 6, 7, 8, 9, 10, 11, 12, 13, 14] ?hi0r7_ (by kernel_rfl) (by kernel_rfl) (by kernel_rfl) (by kernel_rfl) (by kernel_rfl) ?hQ0r7_ (Or.inl ⟨?hw0r7_, ?hy0r7_⟩) K8.out ?rest0r7_
    case hi0r7_ => (simp only [List.getElem?_toArray, List.getElem?_cons_zero]; rfl)
    case hQ0r7_ => exact fun _ _ _ h => h
    case hw0r7_ => rfl
    case hy0r7_ =>
      intro w' hSw
      obtain ⟨r0, r1, r2⟩ := hSw
      go_simp
      try exact rfl
    try simp only [Act.put, List.setIfInBounds_toArray, List.set_cons_zero, List.set_cons_succ]
    refine wpLate_take (i := 1) (oi := ?oi1r7_) (v := ?v1r7_) [2, 3, 4, 5, 6, 7, 8, 9, 10, 11, 12, 13, 14] ?hi1r7_ (by kernel_rfl) (by kernel_rfl) (by kernel_rfl) (by kernel_rfl) (by kernel_rfl) ?hQ1r7_ (Or.inl ⟨?hw1r7_, ?hy1r7_⟩) K8.out ?rest1r7_
    case hi1r7_ => (simp only [List.getElem?_toArray, List.getElem?_cons_zero, List.getElem?_cons_succ]; rfl)
    case hQ1r7_ => exact fun _ _ _ h => h
    case hw1r7_ => rfl
    case hy1r7_ =>
      intro w' hSw
      obtain ⟨r0, r1, r2⟩ := hSw
      go_simp
      try exact rfl
    try simp only [Act.put, List.setIfInBounds_toArray, List.set_cons_zero, List.set_cons_succ]
    refine wpLate_take (i := 2) (oi := ?oi2r7_) (v := ?v2r7_) [3, 4, 5, 6, 7, 8, 9, 10, 11, 12, 13, 14] ?hi2r7_ (by kernel_rfl) (by kernel_rfl) (by kernel_rfl) (by kernel_rfl) (by kernel_rfl) ?hQ2r7_ (Or.inl ⟨?hw2r7_, ?hy2r7_⟩) K8.out ?rest2r7_
    case hi2r7_ => (simp only [List.getElem?_toArray, List.getElem?_cons_zero, List.getElem?_cons_succ]; rfl)
    case hQ2r7_ => exact fun _ _ _ h => h
    case hw2r7_ => rfl
    case hy2r7_ =>
      intro w' hSw
      obtain ⟨r0, r1, r2⟩ := hSw
      go_simp
      try exact rfl
    try simp only [Act.put, List.setIfInBounds_toArray, List.set_cons_zero, List.set_cons_succ]
    refine wpLate_take (i := 3) (oi := ?oi3r7_) (v := ?v3r7_) [4, 5, 6, 7, 8, 9, 10, 11, 12, 13, 14] ?hi3r7_ (by kernel_rfl) (by kernel_rfl) (by kernel_rfl) (by kernel_rfl) (by kernel_rfl) ?hQ3r7_ (Or.inl ⟨?hw3r7_, ?hy3r7_⟩) K8.out ?rest3r7_
    case hi3r7_ => (simp only [List.getElem?_toArray, List.getElem?_cons_zero, List.getElem?_cons_succ]; rfl)
    case hQ3r7_ => exact fun _ _ _ h => h
    case hw3r7_ => rfl
    case hy3r7_ =>
      intro w' hSw
      obtain ⟨r0, r1, r2⟩ := hSw
      go_simp
      try exact rfl
    try simp only [Act.put, List.setIfInBounds_toArray, List.set_cons_zero, List.set_cons_succ]
    refine wpLate_take (i := 4) (oi := ?oi4r7_) (v := ?v4r7_) [5, 6, 7, 8, 9, 10, 11, 12, 13, 14] ?hi4r7_ (by kernel_rfl) (by kernel_rfl) (by kernel_rfl) (by kernel_rfl) (by kernel_rfl) ?hQ4r7_ (Or.inl ⟨?hw4r7_, ?hy4r7_⟩) K8.out ?rest4r7_
    case hi4r7_ => (simp only [List.getElem?_toArray, List.getElem?_cons_zero, List.getElem?_cons_succ]; rfl)
    case hQ4r7_ => exact fun _ _ _ h => h
    case hw4r7_ => rfl
    case hy4r7_ =>
      intro w' hSw
      obtain ⟨r0, r1, r2⟩ := hSw
      go_simp
      try exact rfl
    try simp only [Act.put, List.setIfInBounds_toArray, List.set_cons_zero, List.set_cons_succ]
    refine wpLate_take (i := 5) (oi := ?oi5r7_) (v := ?v5r7_) [6, 7, 8, 9, 10, 11, 12, 13, 14] ?hi5r7_ (by kernel_rfl) (by kernel_rfl) (by kernel_rfl) (by kernel_rfl) (by kernel_rfl) ?hQ5r7_ (Or.inl ⟨?hw5r7_, ?hy5r7_⟩) K8.out ?rest5r7_
    case hi5r7_ => (simp only [List.getElem?_toArray, List.getElem?_cons_zero, List.getElem?_cons_succ]; rfl)
    case hQ5r7_ => exact fun _ _ _ h => h
    case hw5r7_ => rfl
    case hy5r7_ =>
      intro w' hSw
      obtain ⟨r0, r1, r2⟩ := hSw
      go_simp
      try exact rfl
    try simp only [Act.put, List.setIfInBounds_toArray, List.set_cons_zero, List.set_cons_succ]
    refine wpLate_take (i := 6) (oi := ?oi6r7_) (v := ?v6r7_) [12, 13, 14] ?hi6r7_ (by kernel_rfl) (by kernel_rfl) (by kernel_rfl) (by kernel_rfl) (by kernel_rfl) ?hQ6r7_ (Or.inl ⟨?hw6r7_, ?hy6r7_⟩) K8.out ?rest6r7_
    case hi6r7_ => (simp only [List.getElem?_toArray, List.getElem?_cons_zero, List.getElem?_cons_succ]; rfl)
    case hQ6r7_ => exact fun _ _ _ h => h
    case hw6r7_ => rfl
    case hy6r7_ =>
      intro w' hSw
      obtain ⟨r0, r1, r2⟩ := hSw
      go_simp
      try exact rfl
    try simp only [Act.put, List.setIfInBounds_toArray, List.set_cons_zero, List.set_cons_succ]
    refine wpLate_take (i := 7) (oi := ?oi7r7_) (v := ?v7r7_) [11, 12, 13, 14] ?hi7r7_ (by kernel_rfl) (by kernel_rfl) (by kernel_rfl) (by kernel_rfl) (by kernel_rfl) ?hQ7r7_ (Or.inl ⟨?hw7r7_, ?hy7r7_⟩) K8.out ?rest7r7_
    case hi7r7_ => (simp only [List.getElem?_toArray, List.getElem?_cons_zero, List.getElem?_cons_succ]; rfl)
    case hQ7r7_ => exact fun _ _ _ h => h
    case hw7r7_ => rfl
    case hy7r7_ =>
      intro w' hSw
      obtain ⟨r0, r1, r2⟩ := hSw
      go_simp
      try exact rfl
    try simp only [Act.put, List.setIfInBounds_toArray, List.set_cons_zero, List.set_cons_succ]
    refine wpLate_take (i := 8) (oi := ?oi8r7_) (v := ?v8r7_) [9, 10, 11, 12, 13, 14] ?hi8r7_ (by kernel_rfl) (by kernel_rfl) (by kernel_rfl) (by kernel_rfl) (by kernel_rfl) ?hQ8r7_ (Or.inl ⟨?hw8r7_, ?hy8r7_⟩) K8.out ?rest8r7_
    case hi8r7_ => (simp only [List.getElem?_toArray, List.getElem?_cons_zero, List.getElem?_cons_succ]; rfl)
    case hQ8r7_ => exact fun _ _ _ h => h
    case hw8r7_ => rfl
    case hy8r7_ =>
      intro w' hSw
      obtain ⟨r0, r1, r2⟩ := hSw
      go_simp
      try exact rfl
    try simp only [Act.put, List.setIfInBounds_toArray, List.set_cons_zero, List.set_cons_succ]
    refine wpLate_take (i := 9) (oi := ?oi9r7_) (v := ?v9r7_) [10, 11, 12, 13, 14] ?hi9r7_ (by kernel_rfl) (by kernel_rfl) (by kernel_rfl) (by kernel_rfl) (by kernel_rfl) ?hQ9r7_ (Or.inl ⟨?hw9r7_, ?hy9r7_⟩) K8.out ?rest9r7_
    case hi9r7_ => (simp only [List.getElem?_toArray, List.getElem?_cons_zero, List.getElem?_cons_succ]; rfl)
    case hQ9r7_ => exact fun _ _ _ h => h
    case hw9r7_ => rfl
    case hy9r7_ =>
      intro w' hSw
      obtain ⟨r0, r1, r2⟩ := hSw
      go_simp
      try exact rfl
    try simp only [Act.put, List.setIfInBounds_toArray, List.set_cons_zero, List.set_cons_succ]
    refine wpLate_take (i := 10) (oi := ?oi10r7_) (v := ?v10r7_) [11, 12, 13, 14] ?hi10r7_ (by kernel_rfl) (by kernel_rfl) (by kernel_rfl) (by kernel_rfl) (by kernel_rfl) ?hQ10r7_ (Or.inl ⟨?hw10r7_, ?hy10r7_⟩) K8.out ?rest10r7_
    case hi10r7_ => (simp only [List.getElem?_toArray, List.getElem?_cons_zero, List.getElem?_cons_succ]; rfl)
    case hQ10r7_ => exact fun _ _ _ h => h
    case hw10r7_ => rfl
    case hy10r7_ =>
      intro w' hSw
      obtain ⟨r0, r1, r2⟩ := hSw
      go_simp
      try exact rfl
    try simp only [Act.put, List.setIfInBounds_toArray, List.set_cons_zero, List.set_cons_succ]
    refine wpLate_one (i := 11) (o := ?o11r7_) (by kernel_rfl) ?ho11r7_ ?hk11r7_
    case ho11r7_ => (simp only [List.getElem?_toArray, List.getElem?_cons_zero, List.getElem?_cons_succ]; rfl)
    intro K hK
    go_simp
    refine (HPd.out _ (HIR.out _ H8.out)).mono ?_
    rintro e W9 ⟨A9, c9, rfl, hr9, hb9⟩
    have H9 := Lib.hid (And.intro (H8.out.step hb9) hr9)
    have K9 := Lib.hid H9.out.1.vb.cells
    clear hr9 hb9 H8 K8
    go_simp
    refine hK.out _ _ (fun h => K9.out) ?_
    clear hK K
    try simp only [Act.put, List.setIfInBounds_toArray, List.set_cons_zero, List.set_cons_succ]
    refine wpLate_one (i := 12) (o := ?o12r7_) (by kernel_rfl) ?ho12r7_ ?hk12r7_
    case ho12r7_ => (simp only [List.getElem?_toArray, List.getElem?_cons_zero, List.getElem?_cons_succ]; rfl)
    intro K hK
    go_simp
    refine (HGq.out _ _ _ (HR.out.1.step H9.out.1.vb.b) H9.out.2).mono ?_
    rintro e W10 ⟨rfl, hb10⟩
    have H10 := Lib.hid (H9.out.1.step hb10)
    have K10 := Lib.hid H10.out.vb.cells
    clear hb10 H9 K9
    go_simp
    refine hK.out _ _ (fun h => K10.out) ?_
    clear hK K
    try simp only [Act.put, List.setIfInBounds_toArray, List.set_cons_zero, List.set_cons_succ]
    refine wpLate_take (i := 13) (oi := ?oi13r7_) (v := ?v13r7_) [14] ?hi13r7_ (by kernel_rfl) (by kernel_rfl) (by kernel_rfl) (by kernel_rfl) (by kernel_rfl) ?hQ13r7_ (Or.inl ⟨?hw13r7_, ?hy13r7_⟩) K10.out ?rest13r7_
    case hi13r7_ => (simp only [List.getElem?_toArray, List.getElem?_cons_zero, List.getElem?_cons_succ]; rfl)
    case hQ13r7_ => exact fun _ _ _ h => h
    case hw13r7_ => rfl
    case hy13r7_ =>
      intro w' hSw
      obtain ⟨r0, r1, r2⟩ := hSw
      go_simp
      try exact rfl
    try simp only [Act.put, List.setIfInBounds_toArray, List.set_cons_zero, List.set_cons_succ]
    refine wpLate_one (i := 14) (o := ?o14r7_) (by kernel_rfl) ?ho14r7_ ?hk14r7_
    case ho14r7_ => (simp only [List.getElem?_toArray, List.getElem?_cons_zero, List.getElem?_cons_succ]; rfl)
    intro K hK
    go_simp
    refine hK.out _ _ (fun h => K10.out) ?_
    clear hK K
    try simp only [Act.put, List.setIfInBounds_toArray, List.set_cons_zero, List.set_cons_succ]
    refine wpLate_done (by kernel_rfl) ?_ _
    try simp only [Act.put, List.setIfInBounds_toArray, List.set_cons_zero, List.set_cons_succ]
    cases hgq : goodP x q
    · have H11 := Lib.hid (HBK.out _ H10.out)
      clear K10 H10 HBK
      obtain ⟨u, u0⟩ := H11.out.2.1
      have uf := H11.out.2.2.1
      have ul := H11.out.2.2.2
      have hk1 : (k : Int) < (o.length : Int) + 1 := by have := HW.out.2.1; omega
      go_wp2_with fail
      have HZ := Lib.hid (HPg.out _ (by rw [List.length_append, HW.out.2.1]; rfl) (by rw [pad_snoc o (by have := HW.out.2.1; omega)]; exact HW.out.2.2) _ _ H11.out.1)
      go_roundg (x.H.length - (k + 1))
      case measure => omega
      case rel => exact HZ.out
    · have HZ := Lib.hid (HPg.out _ (by rw [List.length_append, HW.out.2.1]; rfl) (by rw [← HQe.out]; exact hgq) _ _ H10.out)
      clear K10 hgq
      go_wp2_with fail
      go_roundg (x.H.length - (k + 1))
      case measure => omega
      case rel => exact HZ.out
end Go.Proofs.Ytipejhfgfciabaa
