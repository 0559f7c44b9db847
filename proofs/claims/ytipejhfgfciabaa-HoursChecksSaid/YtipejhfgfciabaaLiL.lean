/- The document's near and hourOf. -/
import Derived.Test.YtipejhfgfciabaaLiJ
namespace Go.Proofs.Ytipejhfgfciabaa
open Go.RowKit Go.Shelf
attribute [local irreducible] wpQuiet
def nearB (x : Tt) (i : Nat) : Bool := decide (0 < i) && tightB x (i - 1)
theorem hrow_all {w : World} {B : Nat} {A : Option Addr} {l : List Hr} (h : HRow w B A l) {g o : Nat} (hA : A = some ⟨g, o, none⟩) : ∀ i (hi : i < l.length), ∀ j, j < 3 → w.cell? ⟨g, o + i * 3 + j, none⟩ = (hrc l[i])[j]? := fun i hi j hj => by
  obtain ⟨g', o', e', _, hc'⟩ := h i hi
  rw [hA] at e'; cases e'
  exact hc' j hj
set_option maxRecDepth 100000 in
set_option maxHeartbeats 2000000 in
theorem near_any (x : Tt) (AH AG : Option Addr) (ch cg k : Nat) (W : World) (hr : TR W W.heap.size x AH AG) (hv : VT x) (hk : k < x.H.length) :
    Calls Try.prog 78 #[ttv x AH AG ch cg, .int .i64 k] W (BoolPost (nearB x k) W) := by
  have hmix : Try.prog.follows .mixedOrders = true := by kernel_rfl
  have HB : Hid (VB W (W.alloc (.cells (ttc x AH AG ch cg) 25)) x AH AG ch cg) := ⟨below_one W _, Has.new W 25 _⟩
  have hn : ∀ c, nearB x k = c → Hid (nearB x k = c) := fun b h => h
  have hnh := hv.nh
  have hvr := hv.R
  obtain ⟨gh, oh, hgh, -, -⟩ := hr.h k hk
  have CH : Hid (∀ w, Below W.heap.size W w → ∀ i (hi : i < x.H.length), ∀ j, j < 3 → w.cell? ⟨gh, oh + i * 3 + j, none⟩ = (hrc x.H[i])[j]?) := Lib.hid fun w hb => hrow_all (hr.below hb).h hgh
  have HVH := Lib.hid hv.h
  have hk2 : (k : Int) < x.H.length := by omega
  subst hgh
  clear hr hv
  unfold ttv
  by_cases h0 : k = 0
  · have HE := hn false (by unfold nearB; simp [h0])
    subst h0
    clear hn
    go_enter Try.func78, Try.ntmps78
    go_upto_region 1 with fail
    generalize W.alloc (.cells (ttc x (some ⟨gh, oh, none⟩) AG ch cg) 25) = w0 at HB ⊢
    haveI hne : Nonempty (Cls (fun w' => VB W w' x (some ⟨gh, oh, none⟩) AG ch cg)) := ⟨⟨_, HB.out.step (Below.refl _ _).drew⟩⟩
    refine wp_region_cls (fun w' => VB W w' x (some ⟨gh, oh, none⟩) AG ch cg) hmix (by kernel_rfl) (HB.out.step (Below.refl _ _).drew) ?_
    repeat (quiet_step (fail))
    refine wpQuiet_nil ?_
    rintro w7 ⟨⟨_, hw7⟩, rfl⟩
    have H7 := Lib.hid hw7
    clear hne hw7
    try simp only []
    go_wp2_with fail
    go_ret
    exact ⟨ret_bool HE.out.symm, H7.out.b⟩
  obtain ⟨i, hi⟩ : ∃ i, i = k - 1 := ⟨_, rfl⟩
  have hih : i < x.H.length := by omega
  have hih2 : (i : Int) < x.H.length := by omega
  have e1 : IntKind.i64.wrap ((k : Int) - 1) = (i : Int) := by rw [IntWalk.i64_in _ (by omega)]; omega
  have hK1 : (0 : Int) < k := by omega
  have hK2 : 0 < k := by omega
  have hva := HVH.out _ (List.getElem_mem hk)
  have hvp := HVH.out _ (List.getElem_mem hih)
  have htg : nearB x k = (decide (x.H[i].day = x.H[k].day) && decide (x.H[k].beg - x.H[i].fin < x.R)) := by
    unfold nearB
    rw [decide_eq_true hK2, Bool.true_and, ← hi]
    unfold tightB
    rw [List.getElem?_eq_getElem hih, show i + 1 = k by omega, List.getElem?_eq_getElem hk]
  obtain ⟨a, ha⟩ : ∃ a, a = x.H[k] := ⟨_, rfl⟩
  obtain ⟨p, hp⟩ : ∃ p, p = x.H[i] := ⟨_, rfl⟩
  have CA : Hid (∀ w, Below W.heap.size W w → ∀ j, j < 3 → w.cell? ⟨gh, oh + k * 3 + j, none⟩ = (hrc a)[j]?) := Lib.hid (by rw [ha]; exact fun w hb j hj => CH.out w hb k hk j hj)
  have CP : Hid (∀ w, Below W.heap.size W w → ∀ j, j < 3 → w.cell? ⟨gh, oh + i * 3 + j, none⟩ = (hrc p)[j]?) := Lib.hid (by rw [hp]; exact fun w hb j hj => CH.out w hb i hih j hj)
  rw [← ha, ← hp] at htg
  rw [← ha] at hva
  rw [← hp] at hvp
  have HTG := Lib.hid htg
  have hkz := Lib.hid h0
  obtain ⟨⟨hv1, hv2⟩, hv3, hv4, hv5⟩ := hva
  obtain ⟨⟨hw1, hw2⟩, hw3, hw4, hw5⟩ := hvp
  have e2 : IntKind.i64.wrap (a.beg - p.fin) = a.beg - p.fin := IntWalk.i64_in _ (by omega)
  clear ha hp hi h0 htg hn CH
  go_enter Try.func78, Try.ntmps78
  go_upto_region 1 with fail
  generalize W.alloc (.cells (ttc x (some ⟨gh, oh, none⟩) AG ch cg) 25) = w0 at HB ⊢
  haveI hne : Nonempty (Cls (fun w' => VB W w' x (some ⟨gh, oh, none⟩) AG ch cg)) := ⟨⟨_, HB.out.step (Below.refl _ _).drew⟩⟩
  have hx0 : ∀ pc : Cls (fun w' => VB W w' x (some ⟨gh, oh, none⟩) AG ch cg), pc.w.cell? ⟨W.heap.size, 0, none⟩ = some (.slice (some ⟨gh, oh, none⟩) x.H.length ch) := fun pc => pc.h.fx.cell 0
  have hx2 : ∀ pc : Cls (fun w' => VB W w' x (some ⟨gh, oh, none⟩) AG ch cg), pc.w.cell? ⟨W.heap.size, 2, none⟩ = some (.int .i64 x.R) := fun pc => pc.h.fx.cell 2
  have ha0 : ∀ pc : Cls (fun w' => VB W w' x (some ⟨gh, oh, none⟩) AG ch cg), pc.w.cell? ⟨gh, oh + k * 3, none⟩ = some (.int .i64 a.day) := fun pc => CA.out _ pc.h.b 0 (by omega)
  have ha1 : ∀ pc : Cls (fun w' => VB W w' x (some ⟨gh, oh, none⟩) AG ch cg), pc.w.cell? ⟨gh, oh + k * 3 + 1, none⟩ = some (.int .i64 a.beg) := fun pc => CA.out _ pc.h.b 1 (by omega)
  have hp0 : ∀ pc : Cls (fun w' => VB W w' x (some ⟨gh, oh, none⟩) AG ch cg), pc.w.cell? ⟨gh, oh + i * 3, none⟩ = some (.int .i64 p.day) := fun pc => CP.out _ pc.h.b 0 (by omega)
  have hp2 : ∀ pc : Cls (fun w' => VB W w' x (some ⟨gh, oh, none⟩) AG ch cg), pc.w.cell? ⟨gh, oh + i * 3 + 2, none⟩ = some (.int .i64 p.fin) := fun pc => CP.out _ pc.h.b 2 (by omega)
  by_cases hdy : p.day = a.day
  rotate_left
  · have HE : Hid (nearB x k = false) := Lib.hid (by rw [HTG.out]; simp [hdy])
    have hdy' : (a.day == p.day) = false := by simp; omega
    clear HTG hdy
    refine wp_region_cls (fun w' => VB W w' x (some ⟨gh, oh, none⟩) AG ch cg) hmix (by kernel_rfl) (HB.out.step (Below.refl _ _).drew) ?_
    repeat (quiet_step (fail))
    refine wpQuiet_nil ?_
    rintro w7 ⟨⟨_, hw7⟩, rfl⟩
    have H7 := Lib.hid hw7
    clear hne hw7 hx0 hx2 ha0 ha1 hp0 hp2
    try simp only []
    go_wp2_with fail
    go_ret
    exact ⟨ret_bool HE.out.symm, H7.out.b⟩
  have HTG := Lib.hid (HTG.out.trans (by rw [decide_eq_true hdy, Bool.true_and]))
  have hdy' : (a.day == p.day) = true := by simp; omega
  clear hdy
  by_cases hti : a.beg - p.fin < x.R
  all_goals
    have HE := Lib.hid HTG.out
    clear HTG
    refine wp_region_cls (fun w' => VB W w' x (some ⟨gh, oh, none⟩) AG ch cg) hmix (by kernel_rfl) (HB.out.step (Below.refl _ _).drew) ?_
    repeat (quiet_step (fail))
    refine wpQuiet_nil ?_
    rintro w7 ⟨⟨_, hw7⟩, rfl⟩
    have H7 := Lib.hid hw7
    clear hne hw7 hx0 hx2 ha0 ha1 hp0 hp2
    try simp only []
    go_wp2_with fail
    go_ret
    exact ⟨ret_bool (by rw [HE.out]; first | (simp [hti]; done) | (simp; omega)), H7.out.b⟩
/-- the error of an hour of a plan -/
def hourE (x : Tt) (l : List Int) (k : Nat) : Int := (giveR x (placeOf x l k) (l.getD k (-1))).1
theorem hour_free {x : Tt} {l : List Int} {k : Nat} (hk : k < l.length) (h : l[k] = -1) : hourE x l k = 0 := by
  unfold hourE
  rw [show l.getD k (-1) = l[k] by simp [List.getD, hk], h, give_free]
theorem hour_at {x : Tt} {l : List Int} {k g : Nat} (hv : VT x) (hall : ∀ g ∈ l, g = -1 ∨ ∃ i : Nat, g = (i : Int) ∧ i < x.G.length) (hk : k < l.length) (hh : k < x.H.length) (h : l[k] = (g : Int)) (hg : g < x.G.length) :
    hourE x l k = if mayB x.G[g] x.H[k] = false then 11 else if x.G[g].most < cntI l (k + 1) (g : Int) then 12 else if nearB x k = true ∧ 0 ≤ ahd l k ∧ ahd l k ≠ (g : Int) then 6 else 0 := by
  have hng := hv.ng
  have hah : ahd l k = -1 ∨ 0 ≤ ahd l k := by
    unfold ahd
    split
    · exact .inl rfl
    · have : k - 1 < l.length := by omega
      have h := hall (l[k - 1]) (List.getElem_mem this)
      simp only [List.getD, List.getElem?_eq_getElem this, Option.getD_some]
      rcases h with h | ⟨j, h, _⟩
      · exact .inl h
      · exact .inr (by omega)
  unfold hourE
  rw [show l.getD k (-1) = l[k] by simp [List.getD, hk], h]
  have e1 : (placeOf x l k).hour = k := rfl
  have e2 : (placeOf x l k).last = lastOf x l k := rfl
  rw [nxt_of (x := x) (p := placeOf x l k) (g := g) hg (by rw [e1]; exact hh)]
  simp only [e1, e2]
  rw [given_at _ _ _ (show g < 5 by omega)]
  have hc := cntI_succ hk (g : Int)
  rw [h, if_pos rfl] at hc
  by_cases hm : mayB x.G[g] x.H[k] = false
  · rw [if_pos hm, if_pos hm]
  rw [if_neg hm, if_neg hm]
  by_cases hmo : x.G[g].most ≤ cntI l k (g : Int)
  · rw [if_pos hmo, if_pos (show x.G[g].most < cntI l (k + 1) (g : Int) by omega)]
  rw [if_neg hmo, if_neg (show ¬ x.G[g].most < cntI l (k + 1) (g : Int) by omega)]
  have hla : (lastOf x l k ≠ -1 ∧ lastOf x l k ≠ (g : Int)) ↔ (nearB x k = true ∧ 0 ≤ ahd l k ∧ ahd l k ≠ (g : Int)) := by
    unfold lastOf nearB
    by_cases h0 : k = 0
    · simp [h0]
    · rw [if_neg h0]
      by_cases h1 : ahd l k = -1
      · simp [h1]
      · have h2 : 0 ≤ ahd l k := by rcases hah with h | h <;> omega
        rw [if_neg h1]
        have h3 : 0 < k := by omega
        cases tightB x (k - 1) <;> simp [h1, h2, h3]
  by_cases hx : lastOf x l k ≠ -1 ∧ lastOf x l k ≠ (g : Int)
  · rw [if_pos hx, if_pos (hla.1 hx)]
  · rw [if_neg hx, if_neg (fun h => hx (hla.2 h))]
set_option maxRecDepth 100000 in
set_option maxHeartbeats 4000000 in
theorem hourOf_any (x : Tt) (AH AG : Option Addr) (ch cg : Nat) (l : List Int) (A : Option Addr) (c k : Nat) (W : World) (hr : TR W W.heap.size x AH AG) (hv : VT x) (ha : IRow W W.heap.size A l)
    (hall : ∀ g ∈ l, g = -1 ∨ ∃ i : Nat, g = (i : Int) ∧ i < x.G.length) (hk : k < l.length) (hh : k < x.H.length) (hl : l.length ≤ 1000) :
    Calls Try.prog 43 #[ttv x AH AG ch cg, .slice A l.length c, .int .i64 k] W (IntPost (hourE x l k) W) := by
  have hmix : Try.prog.follows .mixedOrders = true := by kernel_rfl
  have HB : Hid (VB W (W.alloc (.cells (ttc x AH AG ch cg) 25)) x AH AG ch cg) := ⟨below_one W _, Has.new W 25 _⟩
  have hng := hv.ng
  have HR := Lib.hid (And.intro hr ha)
  have hkl2 : (k : Int) < l.length := by omega
  obtain ⟨gl, ol, hgl, hgls, hcl⟩ := ha k hk
  have CL : Hid (∀ w, Below W.heap.size W w → ∀ i (hi : i < l.length), w.cell? ⟨gl, ol + i, none⟩ = some (.int .i64 l[i])) := Lib.hid fun w hb i hi => by
    obtain ⟨g', o', e', _, hc'⟩ := (ha.below hb) i hi
    rw [hgl] at e'; cases e'
    exact hc'
  have HFree := Lib.hid (fun h => hour_free (x := x) (l := l) hk h)
  have HAt := Lib.hid (fun g h hg => hour_at (x := x) (l := l) (k := k) (g := g) hv hall hk hh h hg)
  have hvm := hall l[k] (List.getElem_mem hk)
  have HNe := Lib.hid (fun w h => near_any x AH AG ch cg k w h hv hh)
  have HCo : Hid (∀ w, IRow w w.heap.size A l → Calls Try.prog 30 #[ttv x AH AG ch cg, .slice A l.length c, .int .i64 ((k : Int) + 1)] w (RowPost (cntL x l (k + 1)) w)) := Lib.hid fun w h => by
    have := Counts_any x AH AG ch cg l A c (k + 1) w (by omega) h (by omega) (by omega) (fun i hi _ => by
      rcases hall l[i] (List.getElem_mem hi) with h | h
      · exact .inl (by omega)
      · exact .inr h)
    simpa using this
  have HM := Lib.hid (fun (b : Gr) (a : Hr) w (hb : b ∈ x.G) (ha : a ∈ x.H) => May_any b a w (hv.g b hb).1 (hv.h a ha).1)
  have HAB : Hid (∀ i (hi : i < l.length), l[i] = -1 ∨ 0 ≤ l[i]) := Lib.hid fun i hi => by
    rcases hall l[i] (List.getElem_mem hi) with h | ⟨j, h, _⟩
    · exact .inl h
    · exact .inr (by omega)
  obtain ⟨v, hve⟩ : ∃ v, v = l[k] := ⟨_, rfl⟩
  rw [← hve] at hvm
  have HVE := Lib.hid hve
  subst hgl
  clear hgls hcl hve hr ha hall hv
  unfold ttv at *
  by_cases hneg : v < 0
  · have hm1 : v = -1 := by rcases hvm with h | ⟨j, h, _⟩ <;> omega
    have HE := Lib.hid (HFree.out (HVE.out.symm.trans hm1))
    go_enter Try.func43, Try.ntmps43
    go_upto_region 1 with fail
    generalize W.alloc (.cells (ttc x AH AG ch cg) 25) = w0 at HB ⊢
    have c0 : w0.cell? ⟨gl, ol + k, none⟩ = some (.int .i64 v) := by rw [HVE.out]; exact CL.out _ HB.out.b k hk
    clear hvm hm1
    go_wp2_with fail
    go_ret
    exact ⟨ret_int HE.out.symm, HB.out.b⟩
  obtain ⟨g, hgv, hgx⟩ : ∃ g : Nat, v = (g : Int) ∧ g < x.G.length := by
    rcases hvm with h | h
    · omega
    · exact h
  subst hgv
  have hgx2 : (g : Int) < x.G.length := by omega
  have hgc : (g : Int) < (cntL x l (k + 1)).length := by rw [cntL_len]; omega
  have hhk2 : (k : Int) < x.H.length := by omega
  have HE0 := HAt.out g HVE.out.symm hgx
  obtain ⟨gg, og, hgg, hggs, -⟩ := HR.out.1.g g hgx
  obtain ⟨gh, oh, hgh, hghs, -⟩ := HR.out.1.h k hh
  have CG : Hid (∀ w, Below W.heap.size W w → ∀ j, j < 5 → w.cell? ⟨gg, og + g * 5 + j, none⟩ = (grc x.G[g])[j]?) := Lib.hid fun w hb j hj => by
    obtain ⟨g', o', e', _, hc'⟩ := (HR.out.1.below hb).g g hgx
    rw [hgg] at e'; cases e'
    exact hc' j hj
  have CH : Hid (∀ w, Below W.heap.size W w → ∀ j, j < 3 → w.cell? ⟨gh, oh + k * 3 + j, none⟩ = (hrc x.H[k])[j]?) := Lib.hid fun w hb j hj => hrow_all (HR.out.1.below hb).h hgh k hh j hj
  have HMB := Lib.hid (fun w => HM.out x.G[g] x.H[k] w (List.getElem_mem hgx) (List.getElem_mem hh))
  obtain ⟨b, hb⟩ : ∃ b, b = x.G[g] := ⟨_, rfl⟩
  obtain ⟨a, hae⟩ : ∃ a, a = x.H[k] := ⟨_, rfl⟩
  rw [← hb] at CG HMB HE0
  rw [← hae] at CH HMB HE0
  obtain ⟨n1, hn1⟩ : ∃ n, n = cntI l (k + 1) (g : Int) := ⟨_, rfl⟩
  rw [← hn1] at HE0
  have HCN : Hid ((cntL x l (k + 1))[g]? = some n1) := Lib.hid (by rw [List.getElem?_eq_getElem (by rw [cntL_len]; exact hgx), cntL_at _ _ _ hgx, hn1])
  replace HE0 := Lib.hid HE0
  subst hgg hgh
  clear hvm hneg hb hae hn1 hggs hghs HM HAt HFree
  have HFR := Lib.hid (fun (w : World) (h : VB W w x (some ⟨gh, oh, none⟩) (some ⟨gg, og, none⟩) ch cg) => (HMB.out w).mono (fun e w' (h' : BoolPost (mayB b a) w e w') => (show e = .returned (.bool (mayB b a)) ∧ VB W w' x (some ⟨gh, oh, none⟩) (some ⟨gg, og, none⟩) ch cg from ⟨h'.1, h.step h'.2⟩)))
  unfold grv hrv at HFR
  clear HMB
  have hg0i : (0 : Int) ≤ (g : Int) := by omega
  have hgn : ¬ (g : Int) < 0 := by omega
  go_enter Try.func43, Try.ntmps43
  go_upto_region 1 with fail
  generalize W.alloc (.cells (ttc x (some ⟨gh, oh, none⟩) (some ⟨gg, og, none⟩) ch cg) 25) = w0 at HB ⊢
  have c0 : w0.cell? ⟨gl, ol + k, none⟩ = some (.int .i64 g) := by rw [HVE.out]; exact CL.out _ HB.out.b k hk
  go_upto_region 4 with fail
  clear c0
  haveI hne : Nonempty (Cls (fun w' => VB W w' x (some ⟨gh, oh, none⟩) (some ⟨gg, og, none⟩) ch cg)) := ⟨⟨_, HB.out.step (Below.refl _ _).drew⟩⟩
  have hx0 : ∀ pc : Cls (fun w' => VB W w' x (some ⟨gh, oh, none⟩) (some ⟨gg, og, none⟩) ch cg), pc.w.cell? ⟨W.heap.size, 0, none⟩ = some (.slice (some ⟨gh, oh, none⟩) x.H.length ch) := fun pc => pc.h.fx.cell 0
  have hx1 : ∀ pc : Cls (fun w' => VB W w' x (some ⟨gh, oh, none⟩) (some ⟨gg, og, none⟩) ch cg), pc.w.cell? ⟨W.heap.size, 1, none⟩ = some (.slice (some ⟨gg, og, none⟩) x.G.length cg) := fun pc => pc.h.fx.cell 1
  have hg0 : ∀ pc : Cls (fun w' => VB W w' x (some ⟨gh, oh, none⟩) (some ⟨gg, og, none⟩) ch cg), pc.w.cell? ⟨gg, og + g * 5, none⟩ = some (.int .i64 b.days) := fun pc => CG.out _ pc.h.b 0 (by omega)
  have hg1 : ∀ pc : Cls (fun w' => VB W w' x (some ⟨gh, oh, none⟩) (some ⟨gg, og, none⟩) ch cg), pc.w.cell? ⟨gg, og + g * 5 + 1, none⟩ = some (.int .i64 b.early) := fun pc => CG.out _ pc.h.b 1 (by omega)
  have hg2 : ∀ pc : Cls (fun w' => VB W w' x (some ⟨gh, oh, none⟩) (some ⟨gg, og, none⟩) ch cg), pc.w.cell? ⟨gg, og + g * 5 + 2, none⟩ = some (.int .i64 b.late) := fun pc => CG.out _ pc.h.b 2 (by omega)
  have hg3 : ∀ pc : Cls (fun w' => VB W w' x (some ⟨gh, oh, none⟩) (some ⟨gg, og, none⟩) ch cg), pc.w.cell? ⟨gg, og + g * 5 + 3, none⟩ = some (.int .i64 b.most) := fun pc => CG.out _ pc.h.b 3 (by omega)
  have hg4 : ∀ pc : Cls (fun w' => VB W w' x (some ⟨gh, oh, none⟩) (some ⟨gg, og, none⟩) ch cg), pc.w.cell? ⟨gg, og + g * 5 + 4, none⟩ = some (.int .i64 b.credit) := fun pc => CG.out _ pc.h.b 4 (by omega)
  have hh0 : ∀ pc : Cls (fun w' => VB W w' x (some ⟨gh, oh, none⟩) (some ⟨gg, og, none⟩) ch cg), pc.w.cell? ⟨gh, oh + k * 3, none⟩ = some (.int .i64 a.day) := fun pc => CH.out _ pc.h.b 0 (by omega)
  have hh1 : ∀ pc : Cls (fun w' => VB W w' x (some ⟨gh, oh, none⟩) (some ⟨gg, og, none⟩) ch cg), pc.w.cell? ⟨gh, oh + k * 3 + 1, none⟩ = some (.int .i64 a.beg) := fun pc => CH.out _ pc.h.b 1 (by omega)
  have hh2 : ∀ pc : Cls (fun w' => VB W w' x (some ⟨gh, oh, none⟩) (some ⟨gg, og, none⟩) ch cg), pc.w.cell? ⟨gh, oh + k * 3 + 2, none⟩ = some (.int .i64 a.fin) := fun pc => CH.out _ pc.h.b 2 (by omega)
  cases hmy : mayB b a <;> rw [hmy] at HFR HE0
  · have HE := Lib.hid (HE0.out.trans (if_pos rfl))
    have hcl := HFR.out
    clear HE0 hmy
    refine wp_region_cls (fun w' => VB W w' x (some ⟨gh, oh, none⟩) (some ⟨gg, og, none⟩) ch cg) hmix (by kernel_rfl) (HB.out.step (Below.refl _ _).drew) ?_
    repeat (quiet_step (exact cls_call hcl _))
    refine wpQuiet_nil ?_
    rintro w7 ⟨⟨_, hw7⟩, rfl⟩
    have H7 := Lib.hid hw7
    clear hne hw7 hcl HFR HB hx0 hx1 hg0 hg1 hg2 hg3 hg4 hh0 hh1 hh2
    try simp only []
    go_wp2_with fail
    go_ret
    exact ⟨ret_int HE.out.symm, H7.out.b⟩
  have HE0 := Lib.hid (HE0.out.trans (if_neg (by decide)))
  have hcl := HFR.out
  clear hmy
  refine wp_region_cls (fun w' => VB W w' x (some ⟨gh, oh, none⟩) (some ⟨gg, og, none⟩) ch cg) hmix (by kernel_rfl) (HB.out.step (Below.refl _ _).drew) ?_
  repeat (quiet_step (exact cls_call hcl _))
  refine wpQuiet_nil ?_
  rintro w7 ⟨⟨_, hw7⟩, rfl⟩
  have H7 := Lib.hid hw7
  clear hne hw7 hcl HFR HB hx0 hx1 hg0 hg1 hg2 hg3 hg4 hh0 hh1 hh2
  try simp only []
  have e1 : IntKind.i64.wrap ((k : Int) + 1) = (k : Int) + 1 := IntWalk.i64_in _ (by omega)
  go_upto_region 6 with fail
  have H8 := Lib.hid (H7.out.step (Below.refl w7.heap.size w7).drew)
  have HS : Hid (∀ w', VB W w' x (some ⟨gh, oh, none⟩) (some ⟨gg, og, none⟩) ch cg → w'.cell? ⟨W.heap.size, 0, none⟩ = some (.slice (some ⟨gh, oh, none⟩) x.H.length ch) ∧ w'.cell? ⟨W.heap.size, 1, none⟩ = some (.slice (some ⟨gg, og, none⟩) x.G.length cg) ∧ w'.cell? ⟨W.heap.size, 2, none⟩ = some (.int .i64 x.R) ∧ w'.cell? ⟨gg, og + g * 5 + 3, none⟩ = some (.int .i64 b.most)) := Lib.hid fun w' h => ⟨h.fx.cell 0, h.fx.cell 1, h.fx.cell 2, CG.out _ h.b 3 (by omega)⟩
  have K8 := Lib.hid (HS.out _ H8.out)
  refine wp_region_late (fun w' : World => w'.cell? ⟨W.heap.size, 0, none⟩ = some (.slice (some ⟨gh, oh, none⟩) x.H.length ch) ∧ w'.cell? ⟨W.heap.size, 1, none⟩ = some (.slice (some ⟨gg, og, none⟩) x.G.length cg) ∧ w'.cell? ⟨W.heap.size, 2, none⟩ = some (.int .i64 x.R) ∧ w'.cell? ⟨gg, og + g * 5 + 3, none⟩ = some (.int .i64 b.most)) [] (by kernel_rfl) ?_
  generalize w7.drew = w8 at H8 K8 ⊢
  refine wpLate_take (i := 0) (oi := ?oi0r6_) (v := ?v0r6_) [4, 6, 7, 14] ?hi0r6_ (by kernel_rfl) (by kernel_rfl) (by kernel_rfl) (by kernel_rfl) (by kernel_rfl) ?hQ0r6_ (Or.inl ⟨?hw0r6_, ?hy0r6_⟩) K8.out ?rest0r6_
  case hi0r6_ => (simp only [List.getElem?_toArray, List.getElem?_cons_zero]; rfl)
  case hQ0r6_ => exact fun _ _ _ h => h
  case hw0r6_ => rfl
  case hy0r6_ =>
    intro w' hSw
    obtain ⟨r0, r1, r2, r3⟩ := hSw
    go_simp
    try exact rfl
  try simp only [Act.put, List.setIfInBounds_toArray, List.set_cons_zero, List.set_cons_succ]
  refine wpLate_take (i := 1) (oi := ?oi1r6_) (v := ?v1r6_) [4, 6, 7, 14] ?hi1r6_ (by kernel_rfl) (by kernel_rfl) (by kernel_rfl) (by kernel_rfl) (by kernel_rfl) ?hQ1r6_ (Or.inl ⟨?hw1r6_, ?hy1r6_⟩) K8.out ?rest1r6_
  case hi1r6_ => (simp only [List.getElem?_toArray, List.getElem?_cons_zero, List.getElem?_cons_succ]; rfl)
  case hQ1r6_ => exact fun _ _ _ h => h
  case hw1r6_ => rfl
  case hy1r6_ =>
    intro w' hSw
    obtain ⟨r0, r1, r2, r3⟩ := hSw
    go_simp
    try exact rfl
  try simp only [Act.put, List.setIfInBounds_toArray, List.set_cons_zero, List.set_cons_succ]
  refine wpLate_take (i := 2) (oi := ?oi2r6_) (v := ?v2r6_) [3, 4, 6, 7, 14] ?hi2r6_ (by kernel_rfl) (by kernel_rfl) (by kernel_rfl) (by kernel_rfl) (by kernel_rfl) ?hQ2r6_ (Or.inl ⟨?hw2r6_, ?hy2r6_⟩) K8.out ?rest2r6_
  case hi2r6_ => (simp only [List.getElem?_toArray, List.getElem?_cons_zero, List.getElem?_cons_succ]; rfl)
  case hQ2r6_ => exact fun _ _ _ h => h
  case hw2r6_ => rfl
  case hy2r6_ =>
    intro w' hSw
    obtain ⟨r0, r1, r2, r3⟩ := hSw
    go_simp
    try exact rfl
  try simp only [Act.put, List.setIfInBounds_toArray, List.set_cons_zero, List.set_cons_succ]
  refine wpLate_take (i := 3) (oi := ?oi3r6_) (v := ?v3r6_) [4, 6, 7, 14] ?hi3r6_ (by kernel_rfl) (by kernel_rfl) (by kernel_rfl) (by kernel_rfl) (by kernel_rfl) ?hQ3r6_ (Or.inl ⟨?hw3r6_, ?hy3r6_⟩) K8.out ?rest3r6_
  case hi3r6_ => (simp only [List.getElem?_toArray, List.getElem?_cons_zero, List.getElem?_cons_succ]; rfl)
  case hQ3r6_ => exact fun _ _ _ h => h
  case hw3r6_ => rfl
  case hy3r6_ =>
    intro w' hSw
    obtain ⟨r0, r1, r2, r3⟩ := hSw
    go_simp
    try exact rfl
  try simp only [Act.put, List.setIfInBounds_toArray, List.set_cons_zero, List.set_cons_succ]
  refine wpLate_take (i := 5) (oi := ?oi5r6_) (v := ?v5r6_) [6, 7, 14] ?hi5r6_ (by kernel_rfl) (by kernel_rfl) (by kernel_rfl) (by kernel_rfl) (by kernel_rfl) ?hQ5r6_ (Or.inl ⟨?hw5r6_, ?hy5r6_⟩) K8.out ?rest5r6_
  case hi5r6_ => (simp only [List.getElem?_toArray, List.getElem?_cons_zero, List.getElem?_cons_succ]; rfl)
  case hQ5r6_ => exact fun _ _ _ h => h
  case hw5r6_ => rfl
  case hy5r6_ =>
    intro w' hSw
    obtain ⟨r0, r1, r2, r3⟩ := hSw
    go_simp
    try exact rfl
  try simp only [Act.put, List.setIfInBounds_toArray, List.set_cons_zero, List.set_cons_succ]
  refine wpLate_take (i := 8) (oi := ?oi8r6_) (v := ?v8r6_) [9, 11, 12, 13, 14] ?hi8r6_ (by kernel_rfl) (by kernel_rfl) (by kernel_rfl) (by kernel_rfl) (by kernel_rfl) ?hQ8r6_ (Or.inl ⟨?hw8r6_, ?hy8r6_⟩) K8.out ?rest8r6_
  case hi8r6_ => (simp only [List.getElem?_toArray, List.getElem?_cons_zero, List.getElem?_cons_succ]; rfl)
  case hQ8r6_ => exact fun _ _ _ h => h
  case hw8r6_ => rfl
  case hy8r6_ =>
    intro w' hSw
    obtain ⟨r0, r1, r2, r3⟩ := hSw
    go_simp
    try exact rfl
  try simp only [Act.put, List.setIfInBounds_toArray, List.set_cons_zero, List.set_cons_succ]
  refine wpLate_take (i := 9) (oi := ?oi9r6_) (v := ?v9r6_) [11, 12, 13, 14] ?hi9r6_ (by kernel_rfl) (by kernel_rfl) (by kernel_rfl) (by kernel_rfl) (by kernel_rfl) ?hQ9r6_ (Or.inl ⟨?hw9r6_, ?hy9r6_⟩) K8.out ?rest9r6_
  case hi9r6_ => (simp only [List.getElem?_toArray, List.getElem?_cons_zero, List.getElem?_cons_succ]; rfl)
  case hQ9r6_ => exact fun _ _ _ h => h
  case hw9r6_ => rfl
  case hy9r6_ =>
    intro w' hSw
    obtain ⟨r0, r1, r2, r3⟩ := hSw
    go_simp
    try exact rfl
  try simp only [Act.put, List.setIfInBounds_toArray, List.set_cons_zero, List.set_cons_succ]
  refine wpLate_take (i := 10) (oi := ?oi10r6_) (v := ?v10r6_) [11, 12, 13, 14] ?hi10r6_ (by kernel_rfl) (by kernel_rfl) (by kernel_rfl) (by kernel_rfl) (by kernel_rfl) ?hQ10r6_ (Or.inl ⟨?hw10r6_, ?hy10r6_⟩) K8.out ?rest10r6_
  case hi10r6_ => (simp only [List.getElem?_toArray, List.getElem?_cons_zero, List.getElem?_cons_succ]; rfl)
  case hQ10r6_ => exact fun _ _ _ h => h
  case hw10r6_ => rfl
  case hy10r6_ =>
    intro w' hSw
    obtain ⟨r0, r1, r2, r3⟩ := hSw
    go_simp
    try exact rfl
  try simp only [Act.put, List.setIfInBounds_toArray, List.set_cons_zero, List.set_cons_succ]
  refine wpLate_take (i := 11) (oi := ?oi11r6_) (v := ?v11r6_) [12, 13, 14] ?hi11r6_ (by kernel_rfl) (by kernel_rfl) (by kernel_rfl) (by kernel_rfl) (by kernel_rfl) ?hQ11r6_ (Or.inl ⟨?hw11r6_, ?hy11r6_⟩) K8.out ?rest11r6_
  case hi11r6_ => (simp only [List.getElem?_toArray, List.getElem?_cons_zero, List.getElem?_cons_succ]; rfl)
  case hQ11r6_ => exact fun _ _ _ h => h
  case hw11r6_ => rfl
  case hy11r6_ =>
    intro w' hSw
    obtain ⟨r0, r1, r2, r3⟩ := hSw
    go_simp
    try exact rfl
  try simp only [Act.put, List.setIfInBounds_toArray, List.set_cons_zero, List.set_cons_succ]
  refine wpLate_take (i := 12) (oi := ?oi12r6_) (v := ?v12r6_) [13, 14] ?hi12r6_ (by kernel_rfl) (by kernel_rfl) (by kernel_rfl) (by kernel_rfl) (by kernel_rfl) ?hQ12r6_ (Or.inl ⟨?hw12r6_, ?hy12r6_⟩) K8.out ?rest12r6_
  case hi12r6_ => (simp only [List.getElem?_toArray, List.getElem?_cons_zero, List.getElem?_cons_succ]; rfl)
  case hQ12r6_ => exact fun _ _ _ h => h
  case hw12r6_ => rfl
  case hy12r6_ =>
    intro w' hSw
    obtain ⟨r0, r1, r2, r3⟩ := hSw
    go_simp
    try exact rfl
  try simp only [Act.put, List.setIfInBounds_toArray, List.set_cons_zero, List.set_cons_succ]
  refine wpLate_take (i := 13) (oi := ?oi13r6_) (v := ?v13r6_) [14] ?hi13r6_ (by kernel_rfl) (by kernel_rfl) (by kernel_rfl) (by kernel_rfl) (by kernel_rfl) ?hQ13r6_ (Or.inl ⟨?hw13r6_, ?hy13r6_⟩) K8.out ?rest13r6_
  case hi13r6_ => (simp only [List.getElem?_toArray, List.getElem?_cons_zero, List.getElem?_cons_succ]; rfl)
  case hQ13r6_ => exact fun _ _ _ h => h
  case hw13r6_ => rfl
  case hy13r6_ =>
    intro w' hSw
    obtain ⟨r0, r1, r2, r3⟩ := hSw
    go_simp
    try exact rfl
  try simp only [Act.put, List.setIfInBounds_toArray, List.set_cons_zero, List.set_cons_succ]
  refine wpLate_one (i := 4) (o := ?o4r6_) (by kernel_rfl) ?ho4r6_ ?hk4r6_
  case ho4r6_ => (simp only [List.getElem?_toArray, List.getElem?_cons_zero, List.getElem?_cons_succ]; rfl)
  intro K hK
  go_simp
  refine (HCo.out _ (HR.out.2.step H8.out.b)).mono ?_
  rintro e W9 ⟨BN, hBN, rfl, hrow, hb9⟩
  have H9 := Lib.hid (H8.out.step hb9)
  have K9 := Lib.hid (HS.out _ H9.out)
  have s0 : W9.cell? ⟨BN, g, none⟩ = some (.int .i64 n1) := (hrow.cell _).trans (by rw [ils_get, HCN.out]; rfl)
  clear hBN hrow hb9 H8 K8
  go_simp
  refine hK.out _ _ (fun h => K9.out) ?_
  clear hK K
  try simp only [Act.put, List.setIfInBounds_toArray, List.set_cons_zero, List.set_cons_succ]
  refine wpLate_one (i := 6) (o := ?o6r6_) (by kernel_rfl) ?ho6r6_ ?hk6r6_
  case ho6r6_ => (simp only [List.getElem?_toArray, List.getElem?_cons_zero, List.getElem?_cons_succ]; rfl)
  intro K hK
  go_simp
  refine hK.out _ _ (fun h => K9.out) ?_
  clear hK K
  try simp only [Act.put, List.setIfInBounds_toArray, List.set_cons_zero, List.set_cons_succ]
  refine wpLate_one (i := 7) (o := ?o7r6_) (by kernel_rfl) ?ho7r6_ ?hk7r6_
  case ho7r6_ => (simp only [List.getElem?_toArray, List.getElem?_cons_zero, List.getElem?_cons_succ]; rfl)
  intro K hK
  go_simp
  refine hK.out _ _ (fun h => K9.out) ?_
  clear hK K
  try simp only [Act.put, List.setIfInBounds_toArray, List.set_cons_zero, List.set_cons_succ]
  refine wpLate_one (i := 14) (o := ?o14r6_) (by kernel_rfl) ?ho14r6_ ?hk14r6_
  case ho14r6_ => (simp only [List.getElem?_toArray, List.getElem?_cons_zero, List.getElem?_cons_succ]; rfl)
  intro K hK
  go_simp
  refine hK.out _ _ (fun h => K9.out) ?_
  clear hK K
  try simp only [Act.put, List.setIfInBounds_toArray, List.set_cons_zero, List.set_cons_succ]
  refine wpLate_done (by kernel_rfl) ?_ _
  try simp only [Act.put, List.setIfInBounds_toArray, List.set_cons_zero, List.set_cons_succ]
  clear s0
  by_cases hmo : b.most < n1
  · have HE := Lib.hid (HE0.out.trans (if_pos hmo))
    clear HE0
    go_wp2_with fail
    go_ret
    exact ⟨ret_int HE.out.symm, H9.out.b⟩
  have HE0 := Lib.hid (HE0.out.trans (if_neg hmo))
  clear K9 HS
  have x0 : W9.cell? ⟨W.heap.size, 0, none⟩ = some (.slice (some ⟨gh, oh, none⟩) x.H.length ch) := H9.out.fx.cell 0
  have x1 : W9.cell? ⟨W.heap.size, 1, none⟩ = some (.slice (some ⟨gg, og, none⟩) x.G.length cg) := H9.out.fx.cell 1
  have x2 : W9.cell? ⟨W.heap.size, 2, none⟩ = some (.int .i64 x.R) := H9.out.fx.cell 2
  cases hnr : nearB x k <;> rw [hnr] at HNe HE0
  · have HE := Lib.hid (HE0.out.trans (if_neg (fun h => by simp at h)))
    clear HE0 hnr
    go_wp2_with fail
    refine (HNe.out _ (HR.out.1.step H9.out.b)).mono ?_
    rintro e w10 ⟨rfl, hb10⟩
    have H10 := Lib.hid (H9.out.step hb10)
    clear hb10 x0 x1 x2
    go_wp2_with fail
    go_ret
    exact ⟨ret_int HE.out.symm, H10.out.b⟩
  have hk0 : 0 < k := by unfold nearB at hnr; simp at hnr; exact hnr.1
  obtain ⟨i, hi⟩ : ∃ i, i = k - 1 := ⟨_, rfl⟩
  have hil : i < l.length := by omega
  have hil2 : (i : Int) < l.length := by omega
  have e2 : IntKind.i64.wrap ((k : Int) - 1) = (i : Int) := by rw [IntWalk.i64_in _ (by omega)]; omega
  obtain ⟨u, hu⟩ : ∃ u, u = l[i] := ⟨_, rfl⟩
  have hah : ahd l k = u := by
    unfold ahd; rw [if_neg (by omega), ← hi, hu]; simp [List.getD, hil]
  rw [hah] at HE0
  have HUE := Lib.hid hu
  clear hnr hah hi hu
  go_wp2_with fail
  refine (HNe.out _ (HR.out.1.step H9.out.b)).mono ?_
  rintro e w10 ⟨rfl, hb10⟩
  have H10 := Lib.hid (H9.out.step hb10)
  clear hb10 x0 x1 x2
  have u0 : w10.cell? ⟨gl, ol + i, none⟩ = some (.int .i64 u) := by rw [HUE.out]; exact CL.out _ H10.out.b i hil
  by_cases hu0 : 0 ≤ u
  rotate_left
  · have HE := Lib.hid (HE0.out.trans (if_neg (fun h => hu0 h.2.1)))
    clear HE0
    go_wp2_with fail
    go_ret
    exact ⟨ret_int HE.out.symm, H10.out.b⟩
  by_cases hug : u = (g : Int)
  · have HE := Lib.hid (HE0.out.trans (if_neg (fun h => h.2.2 hug)))
    have hug' : (u != (g : Int)) = false := by simpa using hug
    clear HE0 hug
    go_wp2_with fail
    go_ret
    exact ⟨ret_int HE.out.symm, H10.out.b⟩
  · have HE := Lib.hid (HE0.out.trans (if_pos ⟨by first | rfl | trivial, hu0, hug⟩))
    have hug' : (u != (g : Int)) = true := by simpa using hug
    clear HE0 hug
    go_wp2_with fail
    go_ret
    exact ⟨ret_int HE.out.symm, H10.out.b⟩
end Go.Proofs.Ytipejhfgfciabaa
