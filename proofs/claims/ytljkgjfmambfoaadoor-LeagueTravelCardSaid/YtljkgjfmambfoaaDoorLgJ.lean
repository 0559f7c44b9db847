/- Contract: Check. -/
import Derived.Test.YtljkgjfmambfoaaDoorLgI
namespace Go.Proofs.YtljkgjfmambfoaaDoor
open Go.RowKit Go.Shelf
attribute [local irreducible] wpQuiet
theorem hmix : Tryd.prog.follows .mixedOrders = true := by kernel_rfl
theorem find_at {α : Type} {f : α → Bool} : ∀ {l : List α} {k : Nat} {a : α}, l[k]? = some a → f a = true → (∀ j b, j < k → l[j]? = some b → f b = false) → l.find? f = some a
  | [], _, _, h, _, _ => by simp at h
  | c :: l, 0, a, h, hf, _ => by
    simp at h; subst h
    simp [hf]
  | c :: l, k + 1, a, h, hf, hj => by
    have h0 := hj 0 c (by omega) (by simp)
    rw [List.find?_cons, h0]
    exact find_at (k := k) (by simpa using h) hf (fun j b hjk hb => hj (j + 1) b (by omega) (by simpa using hb))
theorem chk_bad {x : Lg} (h : lgB x = false) : chkR x = (0, 1) := by unfold chkR; rw [h]; rfl
theorem chk_ok {x : Lg} (h : lgB x = true) (hn : ∀ j, j < x.G.length → chkAt x.G j = 0) : chkR x = ((x.G.length : Int), 0) := by
  unfold chkR
  rw [h, if_pos rfl]
  have : (List.range x.G.length).find? (fun i => decide (chkAt x.G i ≠ 0)) = none := by
    rw [List.find?_eq_none]
    intro j hj
    have := hn j (List.mem_range.1 hj)
    simp [this]
  rw [this]
theorem chk_at {x : Lg} (h : lgB x = true) {k : Nat} (hk : k < x.G.length) (hn : ∀ j, j < k → chkAt x.G j = 0) (he : chkAt x.G k ≠ 0) : chkR x = ((k : Int), chkAt x.G k) := by
  unfold chkR
  rw [h, if_pos rfl]
  rw [find_at (k := k) (a := k) (by rw [List.getElem?_range hk]) (by simpa using he) (fun j b hj hb => by
    have hj' : j < x.G.length := by omega
    rw [List.getElem?_range hj'] at hb
    cases hb
    have := hn j hj
    simp [this])]
theorem chkAt_eq {G : List Gm} {k : Nat} (hk : k < G.length) : chkAt G k = if 0 < k ∧ G[k].day < (G[k - 1]?.getD default).day then 7 else if playsB (G.take k) G[k].home G[k].day || playsB (G.take k) G[k].away G[k].day then 5 else 0 := by
  unfold chkAt
  rw [List.getElem?_eq_getElem hk]
set_option maxRecDepth 100000 in
set_option maxHeartbeats 4000000 in
theorem Check_any (x : Lg) (AF AG : Option Addr) (cf cg : Nat) (W : World) (hr : LgR W W.heap.size x AF AG) (hcg : x.G.length ≤ cg) :
    Calls Tryd.prog 11 #[lgv x AF AG cf cg] W (IEPost (chkR x) W) := by
  have HB : Hid (LX W (W.alloc (.cells (lgc x AF AG cf cg) 25)) W.heap.size x AF AG cf cg) := Lib.hid (LX.start hr)
  have HV := Lib.hid (fun w (h : LX W w W.heap.size x AF AG cf cg) => validLeague_any x AF AG cf cg w h.up)
  have HC0 := Lib.hid (fun (h : lgB x = false) => chk_bad h)
  have HC1 := Lib.hid (fun (h : lgB x = true) => chk_ok h)
  have HC2 := Lib.hid (fun (h : lgB x = true) (k : Nat) (hk : k < x.G.length) => chk_at h hk)
  have HC3 := Lib.hid (fun (k : Nat) (hk : k < x.G.length) => chkAt_eq hk)
  have HL := Lib.hid hr.lg
  have hl : x.G.length ≤ 9223372036854775807 := hr.lg
  have HP := Lib.hid (fun (k : Nat) (t d : Int) w (hk : k ≤ x.G.length) (h : LX W w W.heap.size x AF AG cf cg) => (show Calls Tryd.prog 29 #[.slice AG k cg, .int .i64 t, .int .i64 d] w (BoolPost (playsB (x.G.take k) t d) w) from by
    have := plays_any (x.G.take k) AG cg t d w (h.up.g.take k) (by rw [List.length_take]; have := h.up.lg; omega)
    rwa [List.length_take, Nat.min_eq_left hk] at this))
  obtain ⟨X, hX⟩ : ∃ X, X = chkR x := ⟨_, rfl⟩
  rw [← hX] at HC0 HC1 HC2 ⊢
  clear hr hX
  unfold lgv at *
  go_enter Tryd.func11, Tryd.ntmps11
  go_upto_region 1 with fail
  generalize W.alloc (.cells (lgc x AF AG cf cg) 25) = w9 at HB ⊢
  have x0 : w9.cell? ⟨W.heap.size, 0, none⟩ = some (.slice AF x.F.length cf) := HB.out.fx.cell 0
  have x1 : w9.cell? ⟨W.heap.size, 1, none⟩ = some (.slice AG x.G.length cg) := HB.out.fx.cell 1
  have HV9 := Lib.hid (HV.out w9 HB.out)
  clear HV
  cases hlg : lgB x <;> rw [hlg] at HV9
  · have HE : Hid (X = (0, 1)) := Lib.hid (HC0.out hlg)
    clear HC0 HC1 HC2 hlg
    go_wp2_with fail
    refine HV9.out.mono ?_
    rintro e w1 ⟨rfl, hb1⟩
    have H1 := Lib.hid (HB.out.step hb1)
    clear hb1 x0 x1 HB
    go_wp2_with fail
    refine bodyPost_ret (v := .tuple #[.int .i64 0, .int .i64 1]) (by simp [results, Tryd.results11, go_sem]) rfl ?_
    exact ⟨ie_ret HE.out, H1.out.b⟩
  have HD1 := Lib.hid (HC1.out hlg)
  have HD2 := Lib.hid (HC2.out hlg)
  clear HC0 HC1 HC2 hlg
  go_wp2_with fail
  refine HV9.out.mono ?_
  rintro e w1 ⟨rfl, hb1⟩
  have H1 := Lib.hid (HB.out.step hb1)
  clear hb1 x0 x1 HB HV9
  have x1 : w1.cell? ⟨W.heap.size, 1, none⟩ = some (.slice AG x.G.length cg) := H1.out.fx.cell 1
  go_wp2_with fail
  clear x1
  go_loopg [12] x.G.length (fun gk i wr => ∃ k : Nat, k ≤ x.G.length ∧ x.G.length - k ≤ gk ∧ i = .int .i64 k ∧ Hid (LX W wr W.heap.size x AF AG cf cg) ∧ Hid (∀ j, j < k → chkAt x.G j = 0))
  case atStart => exact ⟨0, Nat.zero_le _, Nat.le_refl _, rfl, H1, Lib.hid (fun j h => absurd h (by omega))⟩
  case round =>
    clear H1
    obtain ⟨k, hk, hgk, rfl, HB, HW⟩ := hrel
    by_cases hlt : k < x.G.length
    rotate_left
    · have hge : ¬ (k : Int) < x.G.length := by omega
      have HE : Hid (X = ((x.G.length : Int), 0)) := Lib.hid (HD1.out (fun j hj => HW.out j (by omega)))
      have x1 : wr.cell? ⟨W.heap.size, 1, none⟩ = some (.slice AG x.G.length cg) := HB.out.fx.cell 1
      clear HD1 HD2 HC3 HW
      go_wp2_with fail
      refine bodyPost_ret (v := .tuple #[.int .i64 x.G.length, .int .i64 0]) (by simp [results, Tryd.results11, go_sem]) rfl ?_
      exact ⟨ie_ret HE.out, HB.out.b⟩
    have hlt2 : (k : Int) < x.G.length := by omega
    have x1 : wr.cell? ⟨W.heap.size, 1, none⟩ = some (.slice AG x.G.length cg) := HB.out.fx.cell 1
    obtain ⟨B, o, hg, hgs, hc⟩ := HB.out.r.g k hlt
    obtain ⟨g, hb⟩ : ∃ g, g = x.G[k] := ⟨_, rfl⟩
    rw [← hb] at hc
    have HCk := Lib.hid (HC3.out k hlt)
    rw [← hb] at HCk
    have HX2 := Lib.hid (HD2.out k hlt HW.out)
    have c0 : wr.cell? ⟨B, o + k * 6, none⟩ = some (.int .i64 g.day) := hc 0 (by omega)
    have c1 : wr.cell? ⟨B, o + k * 6 + 1, none⟩ = some (.int .i64 g.home) := hc 1 (by omega)
    have c2 : wr.cell? ⟨B, o + k * 6 + 2, none⟩ = some (.int .i64 g.away) := hc 2 (by omega)
    have c3 : wr.cell? ⟨B, o + k * 6 + 3, none⟩ = some (.int .i64 g.fin) := hc 3 (by omega)
    have c4 : wr.cell? ⟨B, o + k * 6 + 4, none⟩ = some (.int .i64 g.hg) := hc 4 (by omega)
    have c5 : wr.cell? ⟨B, o + k * 6 + 5, none⟩ = some (.int .i64 g.ag) := hc 5 (by omega)
    subst hg
    have HNX : Hid (chkAt x.G k = 0 → ∀ j, j < k + 1 → chkAt x.G j = 0) := Lib.hid fun h j hj => by
      rcases Nat.lt_or_ge j k with h' | h'
      · exact HW.out j h'
      · have : j = k := by omega
        subst this
        exact h
    clear hb hc
    have HB1 : Hid (LG W (wr.alloc (.cells (gmc g) 53)) W.heap.size wr.heap.size x AF (some ⟨B, o, none⟩) cf cg g) := Lib.hid ⟨HB.out.step (below_one _ _), Has.new _ _ _⟩
    go_upto_region 6 with fail
    generalize wr.alloc (.cells (gmc g) 53) = w1 at HB1 ⊢
    generalize wr.heap.size = E at HB1 ⊢
    clear x1 c0 c1 c2 c3 c4 c5 HB hgs HW HD1 HD2 HC3
    -- behind region 6: the plays
    have REST : Hid (∀ (w7 : World), LG W w7 W.heap.size E x AF (some ⟨B, o, none⟩) cf cg g → True) := Lib.hid fun _ _ => trivial
    haveI hne : Nonempty (Cls (fun w' => LG W w' W.heap.size E x AF (some ⟨B, o, none⟩) cf cg g)) := ⟨⟨_, HB1.out⟩⟩
    have HD := Lib.hid (HB1.out.step (Below.refl _ _).drew)
    have hx1 : ∀ pc : Cls (fun w' => LG W w' W.heap.size E x AF (some ⟨B, o, none⟩) cf cg g), pc.w.cell? ⟨W.heap.size, 1, none⟩ = some (.slice (some ⟨B, o, none⟩) x.G.length cg) := fun pc => pc.h.x.fx.cell 1
    have hy0 : ∀ pc : Cls (fun w' => LG W w' W.heap.size E x AF (some ⟨B, o, none⟩) cf cg g), pc.w.cell? ⟨E, 0, none⟩ = some (.int .i64 g.day) := fun pc => pc.h.fg.cell 0
    have hy1 : ∀ pc : Cls (fun w' => LG W w' W.heap.size E x AF (some ⟨B, o, none⟩) cf cg g), pc.w.cell? ⟨E, 1, none⟩ = some (.int .i64 g.home) := fun pc => pc.h.fg.cell 1
    have hy2 : ∀ pc : Cls (fun w' => LG W w' W.heap.size E x AF (some ⟨B, o, none⟩) cf cg g), pc.w.cell? ⟨E, 2, none⟩ = some (.int .i64 g.away) := fun pc => pc.h.fg.cell 2
    go_cut [30] (fun u30 wx => ∃ b : Bool, u30 = .bool b ∧ (b = true ↔ (0 < k ∧ g.day < (x.G[k - 1]?.getD default).day)) ∧ Hid (LG W wx W.heap.size E x AF (some ⟨B, o, none⟩) cf cg g))
    case first =>
      by_cases h0 : k = 0
      · have d1 : decide ((0 : Int) < (k : Int)) = false := by simp; omega
        have d2 : decide (0 < k) = false := by simp; omega
        have HIF : Hid (false = true ↔ (0 < k ∧ g.day < (x.G[k - 1]?.getD default).day)) := Lib.hid ⟨fun h => (by cases h), fun h => by omega⟩
        clear h0 hlt hlt2 hk hgk
        refine wp_region_cls (fun w' => LG W w' W.heap.size E x AF (some ⟨B, o, none⟩) cf cg g) hmix (by kernel_rfl) HD.out ?_
        repeat (quiet_step (fail))
        refine wpQuiet_nil ?_
        rintro w7 ⟨⟨_, hw7⟩, rfl⟩
        go_wp2_with fail
        go_meet
        exact ⟨false, rfl, HIF.out, Lib.hid hw7⟩
      · obtain ⟨j, hj⟩ : ∃ j, k = j + 1 := ⟨k - 1, by omega⟩
        have hjl : j < x.G.length := by omega
        have d1 : decide ((0 : Int) < (k : Int)) = true := by simp; omega
        have d2 : decide (0 < k) = true := by simp; omega
        have e1 : IntKind.i64.wrap ((k : Int) - 1) = (j : Int) := by rw [IntWalk.i64_in _ (by omega)]; omega
        have hjl2 : (j : Int) < x.G.length := by omega
        obtain ⟨p, hp⟩ : ∃ p, p = x.G[j] := ⟨_, rfl⟩
        have HIF : Hid (∀ b : Bool, b = decide (g.day < p.day) → (b = true ↔ (0 < k ∧ g.day < (x.G[k - 1]?.getD default).day))) := Lib.hid fun b hb => by
          rw [show k - 1 = j by omega, List.getElem?_eq_getElem hjl, Option.getD_some, ← hp, hb, decide_eq_true_eq]
          exact ⟨fun h => ⟨by omega, h⟩, fun h => h.2⟩
        have hz : ∀ pc : Cls (fun w' => LG W w' W.heap.size E x AF (some ⟨B, o, none⟩) cf cg g), pc.w.cell? ⟨B, o + j * 6, none⟩ = some (.int .i64 p.day) := fun pc => by
          obtain ⟨B', o', e', -, hc'⟩ := pc.h.x.r.g j hjl
          cases e'
          rw [hp]; exact hc' 0 (by omega)
        clear h0 hj hlt hlt2 hk hgk hp hjl
        obtain ⟨b, hb⟩ : ∃ b, b = decide (g.day < p.day) := ⟨_, rfl⟩
        have HI2 := Lib.hid (HIF.out b hb)
        have hbe : decide (g.day < p.day) = b := hb.symm
        clear HIF hb
        refine wp_region_cls (fun w' => LG W w' W.heap.size E x AF (some ⟨B, o, none⟩) cf cg g) hmix (by kernel_rfl) HD.out ?_
        repeat (quiet_step (fail))
        refine wpQuiet_nil ?_
        rintro w7 ⟨⟨_, hw7⟩, rfl⟩
        go_wp2_with fail
        go_meet
        exact ⟨b, rfl, HI2.out, Lib.hid hw7⟩
    case rest =>
      obtain ⟨b, rfl, hb, HB2⟩ := hcut
      rename World => w2
      have HBI := Lib.hid hb
      clear hb HB1 HD
      have HR := Lib.hid (HB2.out.x.b)
      cases b
      rotate_left
      · have HE : Hid (X = ((k : Int), 7)) := Lib.hid (by
          have h1 := HCk.out
          rw [if_pos (HBI.out.1 rfl)] at h1
          have h2 := HX2.out (by rw [h1]; decide)
          rw [h1] at h2
          exact h2)
        clear HX2 HCk HBI hx1 hy0 hy1 hy2 hne HNX
        go_wp2_with fail
        refine bodyPost_ret (v := .tuple #[.int .i64 (k : Int), .int .i64 7]) (by simp [results, Tryd.results11, go_sem]) rfl ?_
        exact ⟨ie_ret HE.out, HR.out⟩
      have HC4 : Hid (chkAt x.G k = if playsB (x.G.take k) g.home g.day || playsB (x.G.take k) g.away g.day then 5 else 0) := Lib.hid (by
        have h1 := HCk.out
        rwa [if_neg (fun h => by have := HBI.out.2 h; cases this)] at h1)
      clear HCk HBI
      have hc1 : ∀ w, LG W w W.heap.size E x AF (some ⟨B, o, none⟩) cf cg g → Calls Tryd.prog 29 #[.slice (some ⟨B, o, none⟩) k cg, .int .i64 g.home, .int .i64 g.day] w fun e w' => e = .returned (.bool (playsB (x.G.take k) g.home g.day)) ∧ LG W w' W.heap.size E x AF (some ⟨B, o, none⟩) cf cg g := fun w h => (HP.out k g.home g.day w hk h.x).mono fun e w' ⟨he, hb⟩ => ⟨he, h.step hb⟩
      have hc2 : ∀ w, LG W w W.heap.size E x AF (some ⟨B, o, none⟩) cf cg g → Calls Tryd.prog 29 #[.slice (some ⟨B, o, none⟩) k cg, .int .i64 g.away, .int .i64 g.day] w fun e w' => e = .returned (.bool (playsB (x.G.take k) g.away g.day)) ∧ LG W w' W.heap.size E x AF (some ⟨B, o, none⟩) cf cg g := fun w h => (HP.out k g.away g.day w hk h.x).mono fun e w' ⟨he, hb⟩ => ⟨he, h.step hb⟩
      generalize playsB (x.G.take k) g.home g.day = b1 at hc1 HC4
      generalize playsB (x.G.take k) g.away g.day = b2 at hc2 HC4
      have HD := Lib.hid (HB2.out.step (Below.refl _ _).drew)
      have hkc : (k : Int) ≤ cg := by omega
      have hkc2 : k ≤ cg := by omega
      have hk0 : (0 : Int) ≤ (k : Int) := by omega
      go_upto_region 8 with fail
      cases b1
      · refine wp_region_cls (fun w' => LG W w' W.heap.size E x AF (some ⟨B, o, none⟩) cf cg g) hmix (by kernel_rfl) HD.out ?_
        repeat (quiet_step (first | (with_reducible exact cls_call hc1 _) | (with_reducible exact cls_call hc2 _)))
        refine wpQuiet_nil ?_
        rintro w7 ⟨⟨_, hw7⟩, rfl⟩
        have H7 := Lib.hid hw7
        clear hx1 hy0 hy1 hy2 hc1 hc2 hne hw7 HD HB2
        try simp only []
        cases b2
        · have HN := Lib.hid (HNX.out (by rw [HC4.out]; rfl))
          clear HC4 HX2 HNX
          go_wp2_with fail
          go_roundg (x.G.length - (k + 1))
          case measure => omega
          case rel => exact ⟨k + 1, by omega, Nat.le_refl _, by go_num, Lib.hid H7.out.x, HN⟩
        · have HE : Hid (X = ((k : Int), 5)) := Lib.hid (by
            have h1 := HC4.out
            have h2 := HX2.out (by rw [h1]; decide)
            rw [h1] at h2
            exact h2)
          clear HC4 HX2 HNX
          go_wp2_with fail
          refine bodyPost_ret (v := .tuple #[.int .i64 (k : Int), .int .i64 5]) (by simp [results, Tryd.results11, go_sem]) rfl ?_
          exact ⟨ie_ret HE.out, H7.out.x.b⟩
      · refine wp_region_cls (fun w' => LG W w' W.heap.size E x AF (some ⟨B, o, none⟩) cf cg g) hmix (by kernel_rfl) HD.out ?_
        repeat (quiet_step (first | (with_reducible exact cls_call hc1 _) | (with_reducible exact cls_call hc2 _)))
        refine wpQuiet_nil ?_
        rintro w7 ⟨⟨_, hw7⟩, rfl⟩
        have H7 := Lib.hid hw7
        clear hx1 hy0 hy1 hy2 hc1 hc2 hne hw7 HD HB2
        try simp only []
        have HE : Hid (X = ((k : Int), 5)) := Lib.hid (by
          have h1 := HC4.out
          have h2 := HX2.out (by rw [h1]; simp)
          rw [h1] at h2
          simpa using h2)
        clear HC4 HX2 HNX
        go_wp2_with fail
        refine bodyPost_ret (v := .tuple #[.int .i64 (k : Int), .int .i64 5]) (by simp [results, Tryd.results11, go_sem]) rfl ?_
        exact ⟨ie_ret HE.out, H7.out.x.b⟩
end Go.Proofs.YtljkgjfmambfoaaDoor
