/- Contracts: swing. -/
import Derived.Test.YtmclchaalmonnaaScU
namespace Go.Proofs.Ytmclchaalmonnaa
open Go.RowKit Go.Lib
attribute [local irreducible] wpQuiet
/-- a list written from its beginning -/
def Wr {α β : Type} (f : α → β) (g : β → Int × Int) (l : List α) (k : Nat) (ws : List (Int × Int)) : Prop := ws.length = l.length ∧ ∀ i (h : i < l.length), i < k → ws[i]? = some (g (f l[i]))
theorem Wr.start {α β : Type} (f : α → β) (g : β → Int × Int) (l : List α) : Wr f g l 0 (List.replicate l.length (0, 0)) := ⟨by simp, fun i _ h => absurd h (by omega)⟩
theorem Wr.put {α β : Type} {f : α → β} {g : β → Int × Int} {l : List α} {k : Nat} {ws : List (Int × Int)} (h : Wr f g l k ws) (hk : k < l.length) : Wr f g l (k + 1) (ws.set k (g (f l[k]))) :=
  ⟨by rw [List.length_set]; exact h.1, fun i hi hik => by
    by_cases he : k = i
    · subst he
      rw [List.getElem?_set_self (by rw [h.1]; exact hk)]
    · rw [List.getElem?_set_ne he]
      exact h.2 i hi (by omega)⟩
theorem Wr.done {α β : Type} {f : α → β} {g : β → Int × Int} {l : List α} {ws : List (Int × Int)} (h : Wr f g l l.length ws) : ws = (l.map f).map g := by
  apply List.ext_getElem
  · simpa using h.1
  · intro i h1 h2
    have hi : i < l.length := by simpa using h2
    have := h.2 i hi hi
    rw [List.getElem?_eq_getElem h1] at this
    simpa using this
/-- what swing has laid -/
structure SWs (W w : World) (r : Ru) (A : Option Addr) (c p q : Nat) (ws bs : List (Int × Int)) : Prop where
  b : Below W.heap.size W w
  fr : Has w W.heap.size 24 (ruc r A c)
  fp : Has w p 82 (pra ws)
  fq : Has w q 82 (pra bs)
  hp : W.heap.size < p
  hq : W.heap.size < q
  hpq : p ≠ q
section
variable {W w w' : World} {r : Ru} {A : Option Addr} {c p q : Nat} {ws bs : List (Int × Int)}
theorem SWs.step (h : SWs W w r A c p q ws bs) (hb : Below w.heap.size w w') : SWs W w' r A c p q ws bs :=
  ⟨h.b.trans (hb.mono h.b.size), h.fr.below hb h.fr.lt, h.fp.below hb h.fp.lt, h.fq.below hb h.fq.lt, h.hp, h.hq, h.hpq⟩
theorem SWs.drew (h : SWs W w r A c p q ws bs) : SWs W w.drew r A c p q ws bs := h.step ((Below.refl _ _).drew)
theorem SWs.setP (h : SWs W w r A c p q ws bs) {k : Nat} (hk : k < ws.length) (a b : Int) : SWs W ((w.setCell ⟨p, k * 2, none⟩ (.int .i64 a)).setCell ⟨p, k * 2 + 1, none⟩ (.int .i64 b)) r A c p q (ws.set k (a, b)) bs := by
  have hp := h.hp
  refine ⟨(h.b.setCell (by simp only; omega) _).setCell (by simp only; omega) _, (h.fr.far (by simp only; omega) _).far (by simp only; omega) _, ?_, (h.fq.far (fun e => h.hpq e.symm) _).far (fun e => h.hpq e.symm) _, h.hp, h.hq, h.hpq⟩
  rw [← pra_set _ _ hk]
  exact (h.fp.set _ _).set _ _
theorem SWs.setQ (h : SWs W w r A c p q ws bs) {k : Nat} (hk : k < bs.length) (a b : Int) : SWs W ((w.setCell ⟨q, k * 2, none⟩ (.int .i64 a)).setCell ⟨q, k * 2 + 1, none⟩ (.int .i64 b)) r A c p q ws (bs.set k (a, b)) := by
  have hq := h.hq
  refine ⟨(h.b.setCell (by simp only; omega) _).setCell (by simp only; omega) _, (h.fr.far (by simp only; omega) _).far (by simp only; omega) _, (h.fp.far h.hpq _).far h.hpq _, ?_, h.hp, h.hq, h.hpq⟩
  rw [← pra_set _ _ hk]
  exact (h.fq.set _ _).set _ _
theorem SWs.two (hb : Below W.heap.size W w) (hr : Has w W.heap.size 24 (ruc r A c)) (l1 l2 : List (Int × Int)) : SWs W ((w.alloc (.cells (pra l1) 82)).alloc (.cells (pra l2) 82)).drew r A c w.heap.size (w.heap.size + 1) l1 l2 :=
  SWs.drew ⟨(hb.trans ((below_one w _).mono hb.size)).trans ((below_one _ _).mono (by simp; have := hb.size; omega)), (hr.alloc _).alloc _, (Has.new _ _ _).alloc _, has_newAt (by simp), hr.lt, by have := hr.lt; omega, by omega⟩
theorem SWs.two' (hb : Below W.heap.size W w) (hr : Has w W.heap.size 24 (ruc r A c)) (l1 l2 : List (Int × Int)) : SWs W ((w.alloc (.cells (pra l2) 82)).alloc (.cells (pra l1) 82)).drew r A c (w.heap.size + 1) w.heap.size l1 l2 :=
  SWs.drew ⟨(hb.trans ((below_one w _).mono hb.size)).trans ((below_one _ _).mono (by simp; have := hb.size; omega)), (hr.alloc _).alloc _, has_newAt (by simp), (Has.new _ _ _).alloc _, by have := hr.lt; omega, hr.lt, by omega⟩
end
structure ST (W w : World) (r : Ru) (A : Option Addr) (c p q t : Nat) (ws bs ss : List (Int × Int)) : Prop where
  s : SWs W w r A c p q ws bs
  ft : Has w t 56 (pra ss)
  hp : p < t
  hq : q < t
section
variable {W w w' : World} {r : Ru} {A : Option Addr} {c p q t : Nat} {ws bs ss : List (Int × Int)}
theorem ST.step (h : ST W w r A c p q t ws bs ss) (hb : Below w.heap.size w w') : ST W w' r A c p q t ws bs ss := ⟨h.s.step hb, h.ft.below hb h.ft.lt, h.hp, h.hq⟩
theorem ST.drew (h : ST W w r A c p q t ws bs ss) : ST W w.drew r A c p q t ws bs ss := h.step ((Below.refl _ _).drew)
theorem SWs.far (h : SWs W w r A c p q ws bs) (hp : p < t) (hq : q < t) (i : Nat) (v : Value) : SWs W (w.setCell ⟨t, i, none⟩ v) r A c p q ws bs := by
  have := h.hp
  exact ⟨h.b.setCell (by simp only; omega) _, h.fr.far (by simp only; omega) _, h.fp.far (by simp only; omega) _, h.fq.far (by simp only; omega) _, h.hp, h.hq, h.hpq⟩
theorem ST.set (h : ST W w r A c p q t ws bs ss) {k : Nat} (hk : k < ss.length) (a b : Int) : ST W ((w.setCell ⟨t, k * 2, none⟩ (.int .i64 a)).setCell ⟨t, k * 2 + 1, none⟩ (.int .i64 b)) r A c p q t ws bs (ss.set k (a, b)) := by
  refine ⟨(h.s.far h.hp h.hq _ _).far h.hp h.hq _ _, ?_, h.hp, h.hq⟩
  rw [← pra_set _ _ hk]
  exact (h.ft.set _ _).set _ _
theorem ST.set2 (h : ST W w r A c p q t ws bs ss) {k : Nat} (hk : k < ss.length) (b : Int) : ST W (w.setCell ⟨t, k * 2 + 1, none⟩ (.int .i64 b)) r A c p q t ws bs (ss.set k (ss[k].1, b)) := by
  refine ⟨h.s.far h.hp h.hq _ _, ?_, h.hp, h.hq⟩
  rw [← pra_set2 _ _ hk]
  exact h.ft.set _ _
end
/-- spans in a new block -/
def SwPost (l : List Sp) (W : World) (e : Ending) (W' : World) : Prop := ∃ g, W.heap.size ≤ g ∧ e = .returned (.slice (some ⟨g, 0, none⟩) l.length l.length) ∧ Has W' g 56 (pra (l.map spp)) ∧ Below W.heap.size W W'
set_option maxRecDepth 100000 in
set_option maxHeartbeats 1000000 in
theorem swing_any (r : Ru) (A : Option Addr) (c : Nat) (l : List Sk) (L : Option Addr) (k0 : Nat) (j : Nat) (W : World) (hr : RuR W W.heap.size r A) (hs : SRow W W.heap.size L l) (hl : l.length ≤ 40) (hvr : VR r) (hvs : ∀ s ∈ l, VS r s)
    (hj : ∀ s ∈ l, (∀ c ∈ s.calls, j < c.marks.length) ∧ ∀ m ∈ s.parts, j < m.length) :
    Calls Try.prog 47 #[ruv r A c, .slice L l.length k0, .int .i64 j] W (SwPost (swingP r l j) W) := by
  have HB : Hid (RB W (W.alloc (.cells (ruc r A c) 24)) W.heap.size r A c) := Lib.hid (RB.start hr)
  have HR := Lib.hid (And.intro hr (And.intro hs (And.intro hvs hj)))
  have HMK := Lib.hid (And.intro (fun w => make_sts l.length (by omega) w) (fun w => make_sps l.length (by omega) w))
  have HMA := Lib.hid (fun (s : Sk) (hsm : s ∈ l) AC AP cc cp gr qu w (hb : SkR w w.heap.size s AC AP) => marked_any s AC AP cc cp j gr qu w hb (by have := (hvs s hsm).nc; omega) (by have := (hvs s hsm).np; omega) (fun c hc => ⟨(hj s hsm).1 c hc, by have := ((hvs s hsm).c c hc).1.l9; omega⟩) (fun m hm => ⟨(hj s hsm).2 m hm, by have := ((hvs s hsm).p m hm).2.1; omega⟩))
  have HPR := Lib.hid (fun (s : Sk) (hv : VS r s) AC AP cc cp w (hb : Below W.heap.size W w) (hk : SkR w w.heap.size s AC AP) => program_any r A c s AC AP cc cp w ((hr.below hb).more hb.size) hk hvr hv)
  have HST := Lib.hid (fun x w => standingOf_any x w)
  have HPL := Lib.hid (fun (s : St) (ss : List St) p c w (h : StRow w w.heap.size (some ⟨p, 0, none⟩) ss) (hl : ss.length ≤ 1000000) => place_any s ss (some ⟨p, 0, none⟩) c w h hl)
  unfold MkPost at HMA
  unfold ScPost at HPR
  unfold StPost at HST
  unfold IntPost at HPL
  unfold skv at HMA HPR
  unfold scv at HPR HST
  unfold stv at HST HPL
  clear hr hs hvr hvs hj
  unfold ruv at *
  go_enter Try.func47, Try.ntmps47
  go_upto_region 1 with fail
  generalize W.alloc (.cells (ruc r A c) 24) = w0 at HB ⊢
  have mk1 := HMK.out.1
  go_cut [7, 8, 13, 14, 15, 16, 17, 18] (fun u7 u8 u13 u14 u15 u16 u17 u18 wx => ∃ p q, u7 = .slice (some ⟨p, 0, none⟩) l.length l.length ∧ u8 = .slice (some ⟨q, 0, none⟩) l.length l.length ∧ Hid (SWs W wx r A c p q (List.replicate l.length (0, 0)) (List.replicate l.length (0, 0))))
  case first =>
    go_region_held3 (fun w' => True) (go_keep) (fail)
    all_goals (try go_wp2_with fail)
    all_goals go_meet
    all_goals first | exact ⟨_, _, rfl, rfl, Lib.hid (SWs.two HB.out.b HB.out.fr _ _)⟩ | exact ⟨_, _, rfl, rfl, Lib.hid (SWs.two' HB.out.b HB.out.fr _ _)⟩
  case rest =>
    obtain ⟨p, q, rfl, rfl, H1⟩ := hcut
    rename World => w1
    clear mk1 HB
    go_wp2_with fail
    go_loopg [21] l.length (fun gk i wr => ∃ k : Nat, k ≤ l.length ∧ l.length - k ≤ gk ∧ i = .int .i64 k ∧ ∃ ws bs, Hid (SWs W wr r A c p q ws bs ∧ Wr (worstP r j) stp l k ws ∧ Wr (bestP r j) stp l k bs))
    case atStart => exact ⟨0, Nat.zero_le _, Nat.le_refl _, rfl, _, _, Lib.hid ⟨H1.out, Wr.start _ _ _, Wr.start _ _ _⟩⟩
    case round =>
      obtain ⟨k, hk, hgk, rfl, ws, bs, HW⟩ := hrel
      by_cases hlt : k < l.length
      rotate_left
      · have hge : ¬ (k : Int) < l.length := by omega
        have HF : Hid (ws = (l.map (worstP r j)).map stp ∧ bs = (l.map (bestP r j)).map stp) := Lib.hid ⟨(show k = l.length by omega) ▸ HW.out.2.1 |>.done, (show k = l.length by omega) ▸ HW.out.2.2 |>.done⟩
        have H2 := Lib.hid HW.out.1
        clear HW H1 hk hgk hlt HMA HPR HST
        obtain ⟨hf1, hf2⟩ := HF.out
        subst hf1 hf2
        clear HF
        have mk2 := HMK.out.2 wr
        clear HMK
        go_upto_region 9 with fail
        have H3 := Lib.hid (show ST W (wr.alloc (.cells (pra (List.replicate l.length (0, 0))) 56)) r A c p q wr.heap.size ((l.map (worstP r j)).map stp) ((l.map (bestP r j)).map stp) (List.replicate l.length (0, 0)) from ⟨H2.out.step (below_one _ _), Has.new _ _ _, H2.out.fp.lt, H2.out.fq.lt⟩)
        generalize wr.alloc (.cells (pra (List.replicate l.length (0, 0))) 56) = w2 at H3 ⊢
        generalize wr.heap.size = t at H3 ⊢
        clear mk2 H2
        have HPW : Hid (∀ w ss (st : St), ST W w r A c p q t ((l.map (worstP r j)).map stp) ((l.map (bestP r j)).map stp) ss → Calls Try.prog 45 #[.agg (stc st), .slice (some ⟨p, 0, none⟩) l.length l.length] w fun e W' => e = .returned (.int .i64 (plP st (l.map (worstP r j)))) ∧ Below w.heap.size w W') := Lib.hid fun w ss st h => by
          have := HPL.out st (l.map (worstP r j)) p l.length w (strow_of h.s.fp h.s.fp.lt) (by rw [List.length_map]; omega)
          rw [List.length_map] at this
          exact this
        have HPB : Hid (∀ w ss (st : St), ST W w r A c p q t ((l.map (worstP r j)).map stp) ((l.map (bestP r j)).map stp) ss → Calls Try.prog 45 #[.agg (stc st), .slice (some ⟨q, 0, none⟩) l.length l.length] w fun e W' => e = .returned (.int .i64 (plP st (l.map (bestP r j)))) ∧ Below w.heap.size w W') := Lib.hid fun w ss st h => by
          have := HPL.out st (l.map (bestP r j)) q l.length w (strow_of h.s.fq h.s.fq.lt) (by rw [List.length_map]; omega)
          rw [List.length_map] at this
          exact this
        clear HPL
        go_wp2_with fail
        clear hge
        obtain ⟨w3, rfl⟩ : ∃ w3, w3 = wr := ⟨_, rfl⟩
        go_loopg [50] l.length (fun gk i wr => ∃ k : Nat, k ≤ l.length ∧ l.length - k ≤ gk ∧ i = .int .i64 k ∧ ∃ ss, Hid (ST W wr r A c p q t ((l.map (worstP r j)).map stp) ((l.map (bestP r j)).map stp) ss ∧ Wr (spanP r l j) spp l k ss))
        case atStart => exact ⟨0, Nat.zero_le _, Nat.le_refl _, rfl, _, Lib.hid ⟨H3.out, Wr.start _ _ _⟩⟩
        case round =>
          obtain ⟨k, hk, hgk, rfl, ss, HW⟩ := hrel
          by_cases hlt : k < l.length
          rotate_left
          · have hge : ¬ (k : Int) < l.length := by omega
            have HF : Hid (ss = (l.map (spanP r l j)).map spp) := Lib.hid ((show k = l.length by omega) ▸ HW.out.2 |>.done)
            have H4 := Lib.hid HW.out.1
            clear HW H3 hk hgk hlt
            go_wp2_with fail
            go_ret
            refine ⟨t, by have := H4.out.hp; have := H4.out.s.hp; omega, by simp only [swingP, List.length_map]; rfl, ?_, H4.out.s.b⟩
            have := H4.out.ft
            rw [HF.out] at this
            exact this
          have hlt2 : (k : Int) < l.length := by omega
          have hks : k < ss.length := by rw [HW.out.2.1]; exact hlt
          have HNX := Lib.hid (HW.out.2.put hlt)
          have H4 := Lib.hid HW.out.1
          obtain ⟨s, hb⟩ : ∃ s, s = l[k] := ⟨_, rfl⟩
          rw [← hb] at HNX
          obtain ⟨wt, hwt⟩ : ∃ x, x = worstP r j s := ⟨_, rfl⟩
          obtain ⟨bt, hbt⟩ : ∃ x, x = bestP r j s := ⟨_, rfl⟩
          have HCW : Hid (∀ w' ss, ST W w' r A c p q t ((l.map (worstP r j)).map stp) ((l.map (bestP r j)).map stp) ss → w'.cell? ⟨q, k * 2, none⟩ = some (.int .i64 bt.total) ∧ w'.cell? ⟨q, k * 2 + 1, none⟩ = some (.int .i64 bt.elements) ∧ w'.cell? ⟨p, k * 2, none⟩ = some (.int .i64 wt.total) ∧ w'.cell? ⟨p, k * 2 + 1, none⟩ = some (.int .i64 wt.elements)) := Lib.hid fun w' ss h => by
            have h1 := pra_get ((l.map (worstP r j)).map stp) k (by simpa using hlt)
            have h2 := pra_get ((l.map (bestP r j)).map stp) k (by simpa using hlt)
            simp only [List.getElem_map, ← hb, ← hwt, ← hbt] at h1 h2
            exact ⟨(h.s.fq.cell _).trans h2.1, (h.s.fq.cell _).trans h2.2, (h.s.fp.cell _).trans h1.1, (h.s.fp.cell _).trans h1.2⟩
          have HSP : Hid (spp (spanP r l j s) = (plP bt (l.map (worstP r j)), plP wt (l.map (bestP r j)) - (if bt = wt then 0 else 1))) := Lib.hid (by unfold spanP spp; rw [← hwt, ← hbt])
          rw [HSP.out] at HNX
          have hb1 : 1 ≤ plP bt (l.map (worstP r j)) ∧ plP bt (l.map (worstP r j)) ≤ 41 := by
            unfold plP
            have : (l.map (worstP r j)).countP (fun o => betB o bt) ≤ (l.map (worstP r j)).length := List.countP_le_length
            rw [List.length_map] at this
            omega
          have hb2 : 1 ≤ plP wt (l.map (bestP r j)) ∧ plP wt (l.map (bestP r j)) ≤ 41 := by
            unfold plP
            have : (l.map (bestP r j)).countP (fun o => betB o wt) ≤ (l.map (bestP r j)).length := List.countP_le_length
            rw [List.length_map] at this
            omega
          clear hb hwt hbt HSP HW H3
          have HPW2 := Lib.hid (fun w ss h => HPW.out w ss bt h)
          have HPB2 := Lib.hid (fun w ss h => HPB.out w ss wt h)
          obtain ⟨a, ha⟩ : ∃ a, a = plP bt (l.map (worstP r j)) := ⟨_, rfl⟩
          obtain ⟨b, hbb⟩ : ∃ a, a = plP wt (l.map (bestP r j)) := ⟨_, rfl⟩
          rw [← ha] at hb1 HPW2 HNX
          rw [← hbb] at hb2 HPB2 HNX
          clear ha hbb
          have HKS := Lib.hid hks
          have HLN : Hid (∀ w', ST W w' r A c p q t ((l.map (worstP r j)).map stp) ((l.map (bestP r j)).map stp) ss → w'.cell? ⟨t, k * 2, none⟩ = some (.int .i64 (ss[k]'HKS.out).1) ∧ w'.cell? ⟨t, k * 2 + 1, none⟩ = some (.int .i64 (ss[k]'HKS.out).2)) := Lib.hid fun w' h => ⟨(h.ft.cell _).trans (pra_get ss k HKS.out).1, (h.ft.cell _).trans (pra_get ss k HKS.out).2⟩
          clear hks
          go_upto_region 12 with fail
          replace H4 := Lib.hid H4.out.drew
          have K4 := Lib.hid (HCW.out _ _ H4.out)
          refine wp_region_late (fun w' : World => w'.cell? ⟨q, k * 2, none⟩ = some (.int .i64 bt.total) ∧ w'.cell? ⟨q, k * 2 + 1, none⟩ = some (.int .i64 bt.elements) ∧ w'.cell? ⟨p, k * 2, none⟩ = some (.int .i64 wt.total) ∧ w'.cell? ⟨p, k * 2 + 1, none⟩ = some (.int .i64 wt.elements)) [16] (by kernel_rfl) ?_
          generalize wr.drew = w4 at H4 K4 ⊢
          refine wpLate_take (i := 0) (oi := ?oi0r12_) (v := ?v0r12_) [15, 16] ?hi0r12_ (by kernel_rfl) (by kernel_rfl) (by kernel_rfl) (by kernel_rfl) (by kernel_rfl) ?hQ0r12_ (Or.inl ⟨?hw0r12_, ?hy0r12_⟩) K4.out ?rest0r12_
          case hi0r12_ => (simp only [List.getElem?_toArray, List.getElem?_cons_zero]; rfl)
          case hQ0r12_ => exact fun _ _ _ h => h
          case hw0r12_ => rfl
          case hy0r12_ =>
            intro w' hSw
            obtain ⟨r0, r1, r2, r3⟩ := hSw
            go_simp
            try exact rfl
          try simp only [Act.put, List.setIfInBounds_toArray, List.set_cons_zero, List.set_cons_succ]
          refine wpLate_take (i := 1) (oi := ?oi1r12_) (v := ?v1r12_) [15, 16] ?hi1r12_ (by kernel_rfl) (by kernel_rfl) (by kernel_rfl) (by kernel_rfl) (by kernel_rfl) ?hQ1r12_ (Or.inl ⟨?hw1r12_, ?hy1r12_⟩) K4.out ?rest1r12_
          case hi1r12_ => (simp only [List.getElem?_toArray, List.getElem?_cons_zero, List.getElem?_cons_succ]; rfl)
          case hQ1r12_ => exact fun _ _ _ h => h
          case hw1r12_ => rfl
          case hy1r12_ =>
            intro w' hSw
            obtain ⟨r0, r1, r2, r3⟩ := hSw
            go_simp
            try exact rfl
          try simp only [Act.put, List.setIfInBounds_toArray, List.set_cons_zero, List.set_cons_succ]
          refine wpLate_take (i := 2) (oi := ?oi2r12_) (v := ?v2r12_) [4, 5, 7, 13, 14, 15, 16] ?hi2r12_ (by kernel_rfl) (by kernel_rfl) (by kernel_rfl) (by kernel_rfl) (by kernel_rfl) ?hQ2r12_ (Or.inl ⟨?hw2r12_, ?hy2r12_⟩) K4.out ?rest2r12_
          case hi2r12_ => (simp only [List.getElem?_toArray, List.getElem?_cons_zero, List.getElem?_cons_succ]; rfl)
          case hQ2r12_ => exact fun _ _ _ h => h
          case hw2r12_ => rfl
          case hy2r12_ =>
            intro w' hSw
            obtain ⟨r0, r1, r2, r3⟩ := hSw
            go_simp
            try exact rfl
          try simp only [Act.put, List.setIfInBounds_toArray, List.set_cons_zero, List.set_cons_succ]
          refine wpLate_take (i := 3) (oi := ?oi3r12_) (v := ?v3r12_) [4, 5, 7, 13, 14, 15, 16] ?hi3r12_ (by kernel_rfl) (by kernel_rfl) (by kernel_rfl) (by kernel_rfl) (by kernel_rfl) ?hQ3r12_ (Or.inl ⟨?hw3r12_, ?hy3r12_⟩) K4.out ?rest3r12_
          case hi3r12_ => (simp only [List.getElem?_toArray, List.getElem?_cons_zero, List.getElem?_cons_succ]; rfl)
          case hQ3r12_ => exact fun _ _ _ h => h
          case hw3r12_ => rfl
          case hy3r12_ =>
            intro w' hSw
            obtain ⟨r0, r1, r2, r3⟩ := hSw
            go_simp
            try exact rfl
          try simp only [Act.put, List.setIfInBounds_toArray, List.set_cons_zero, List.set_cons_succ]
          refine wpLate_take (i := 4) (oi := ?oi4r12_) (v := ?v4r12_) [5, 7, 13, 14, 15, 16] ?hi4r12_ (by kernel_rfl) (by kernel_rfl) (by kernel_rfl) (by kernel_rfl) (by kernel_rfl) ?hQ4r12_ (Or.inl ⟨?hw4r12_, ?hy4r12_⟩) K4.out ?rest4r12_
          case hi4r12_ => (simp only [List.getElem?_toArray, List.getElem?_cons_zero, List.getElem?_cons_succ]; rfl)
          case hQ4r12_ => exact fun _ _ _ h => h
          case hw4r12_ => rfl
          case hy4r12_ =>
            intro w' hSw
            obtain ⟨r0, r1, r2, r3⟩ := hSw
            go_simp
            try exact rfl
          try simp only [Act.put, List.setIfInBounds_toArray, List.set_cons_zero, List.set_cons_succ]
          refine wpLate_take (i := 5) (oi := ?oi5r12_) (v := ?v5r12_) [7, 13, 14, 15, 16] ?hi5r12_ (by kernel_rfl) (by kernel_rfl) (by kernel_rfl) (by kernel_rfl) (by kernel_rfl) ?hQ5r12_ (Or.inl ⟨?hw5r12_, ?hy5r12_⟩) K4.out ?rest5r12_
          case hi5r12_ => (simp only [List.getElem?_toArray, List.getElem?_cons_zero, List.getElem?_cons_succ]; rfl)
          case hQ5r12_ => exact fun _ _ _ h => h
          case hw5r12_ => rfl
          case hy5r12_ =>
            intro w' hSw
            obtain ⟨r0, r1, r2, r3⟩ := hSw
            go_simp
            try exact rfl
          try simp only [Act.put, List.setIfInBounds_toArray, List.set_cons_zero, List.set_cons_succ]
          refine wpLate_take (i := 6) (oi := ?oi6r12_) (v := ?v6r12_) [7, 13, 14, 15, 16] ?hi6r12_ (by kernel_rfl) (by kernel_rfl) (by kernel_rfl) (by kernel_rfl) (by kernel_rfl) ?hQ6r12_ (Or.inl ⟨?hw6r12_, ?hy6r12_⟩) K4.out ?rest6r12_
          case hi6r12_ => (simp only [List.getElem?_toArray, List.getElem?_cons_zero, List.getElem?_cons_succ]; rfl)
          case hQ6r12_ => exact fun _ _ _ h => h
          case hw6r12_ => rfl
          case hy6r12_ =>
            intro w' hSw
            obtain ⟨r0, r1, r2, r3⟩ := hSw
            go_simp
            try exact rfl
          try simp only [Act.put, List.setIfInBounds_toArray, List.set_cons_zero, List.set_cons_succ]
          refine wpLate_take (i := 8) (oi := ?oi8r12_) (v := ?v8r12_) [10, 11, 13, 14, 15, 16] ?hi8r12_ (by kernel_rfl) (by kernel_rfl) (by kernel_rfl) (by kernel_rfl) (by kernel_rfl) ?hQ8r12_ (Or.inl ⟨?hw8r12_, ?hy8r12_⟩) K4.out ?rest8r12_
          case hi8r12_ => (simp only [List.getElem?_toArray, List.getElem?_cons_zero, List.getElem?_cons_succ]; rfl)
          case hQ8r12_ => exact fun _ _ _ h => h
          case hw8r12_ => rfl
          case hy8r12_ =>
            intro w' hSw
            obtain ⟨r0, r1, r2, r3⟩ := hSw
            go_simp
            try exact rfl
          try simp only [Act.put, List.setIfInBounds_toArray, List.set_cons_zero, List.set_cons_succ]
          refine wpLate_take (i := 9) (oi := ?oi9r12_) (v := ?v9r12_) [10, 11, 13, 14, 15, 16] ?hi9r12_ (by kernel_rfl) (by kernel_rfl) (by kernel_rfl) (by kernel_rfl) (by kernel_rfl) ?hQ9r12_ (Or.inl ⟨?hw9r12_, ?hy9r12_⟩) K4.out ?rest9r12_
          case hi9r12_ => (simp only [List.getElem?_toArray, List.getElem?_cons_zero, List.getElem?_cons_succ]; rfl)
          case hQ9r12_ => exact fun _ _ _ h => h
          case hw9r12_ => rfl
          case hy9r12_ =>
            intro w' hSw
            obtain ⟨r0, r1, r2, r3⟩ := hSw
            go_simp
            try exact rfl
          try simp only [Act.put, List.setIfInBounds_toArray, List.set_cons_zero, List.set_cons_succ]
          refine wpLate_take (i := 10) (oi := ?oi10r12_) (v := ?v10r12_) [11, 13, 14, 15, 16] ?hi10r12_ (by kernel_rfl) (by kernel_rfl) (by kernel_rfl) (by kernel_rfl) (by kernel_rfl) ?hQ10r12_ (Or.inl ⟨?hw10r12_, ?hy10r12_⟩) K4.out ?rest10r12_
          case hi10r12_ => (simp only [List.getElem?_toArray, List.getElem?_cons_zero, List.getElem?_cons_succ]; rfl)
          case hQ10r12_ => exact fun _ _ _ h => h
          case hw10r12_ => rfl
          case hy10r12_ =>
            intro w' hSw
            obtain ⟨r0, r1, r2, r3⟩ := hSw
            go_simp
            try exact rfl
          try simp only [Act.put, List.setIfInBounds_toArray, List.set_cons_zero, List.set_cons_succ]
          refine wpLate_take (i := 11) (oi := ?oi11r12_) (v := ?v11r12_) [13, 14, 15, 16] ?hi11r12_ (by kernel_rfl) (by kernel_rfl) (by kernel_rfl) (by kernel_rfl) (by kernel_rfl) ?hQ11r12_ (Or.inl ⟨?hw11r12_, ?hy11r12_⟩) K4.out ?rest11r12_
          case hi11r12_ => (simp only [List.getElem?_toArray, List.getElem?_cons_zero, List.getElem?_cons_succ]; rfl)
          case hQ11r12_ => exact fun _ _ _ h => h
          case hw11r12_ => rfl
          case hy11r12_ =>
            intro w' hSw
            obtain ⟨r0, r1, r2, r3⟩ := hSw
            go_simp
            try exact rfl
          try simp only [Act.put, List.setIfInBounds_toArray, List.set_cons_zero, List.set_cons_succ]
          refine wpLate_take (i := 12) (oi := ?oi12r12_) (v := ?v12r12_) [13, 14, 15, 16] ?hi12r12_ (by kernel_rfl) (by kernel_rfl) (by kernel_rfl) (by kernel_rfl) (by kernel_rfl) ?hQ12r12_ (Or.inl ⟨?hw12r12_, ?hy12r12_⟩) K4.out ?rest12r12_
          case hi12r12_ => (simp only [List.getElem?_toArray, List.getElem?_cons_zero, List.getElem?_cons_succ]; rfl)
          case hQ12r12_ => exact fun _ _ _ h => h
          case hw12r12_ => rfl
          case hy12r12_ =>
            intro w' hSw
            obtain ⟨r0, r1, r2, r3⟩ := hSw
            go_simp
            try exact rfl
          try simp only [Act.put, List.setIfInBounds_toArray, List.set_cons_zero, List.set_cons_succ]
          refine wpLate_one (i := 7) (o := ?o7r12_) (by kernel_rfl) ?ho7r12_ ?hk7r12_
          case ho7r12_ => (simp only [List.getElem?_toArray, List.getElem?_cons_zero, List.getElem?_cons_succ]; rfl)
          intro K hK
          go_simp
          refine (HPW2.out _ _ H4.out).mono ?_
          rintro e W5 ⟨rfl, hb⟩
          have H5 := Lib.hid (H4.out.step hb)
          have K5 := Lib.hid (HCW.out _ _ H5.out)
          clear hb H4 K4
          go_simp
          refine hK.out _ _ (fun h => K5.out) ?_
          clear hK K
          try simp only [Act.put, List.setIfInBounds_toArray, List.set_cons_zero, List.set_cons_succ]
          refine wpLate_one (i := 13) (o := ?o13r12_) (by kernel_rfl) ?ho13r12_ ?hk13r12_
          case ho13r12_ => (simp only [List.getElem?_toArray, List.getElem?_cons_zero, List.getElem?_cons_succ]; rfl)
          intro K hK
          go_simp
          refine (HPB2.out _ _ H5.out).mono ?_
          rintro e W6 ⟨rfl, hb⟩
          have H6 := Lib.hid (H5.out.step hb)
          have K6 := Lib.hid (HCW.out _ _ H6.out)
          clear hb H5 K5
          go_simp
          refine hK.out _ _ (fun h => K6.out) ?_
          clear hK K
          try simp only [Act.put, List.setIfInBounds_toArray, List.set_cons_zero, List.set_cons_succ]
          refine wpLate_take (i := 14) (oi := ?oi14r12_) (v := ?v14r12_) [15, 16] ?hi14r12_ (by kernel_rfl) (by kernel_rfl) (by kernel_rfl) (by kernel_rfl) (by kernel_rfl) ?hQ14r12_ (Or.inl ⟨?hw14r12_, ?hy14r12_⟩) K6.out ?rest14r12_
          case hi14r12_ => (simp only [List.getElem?_toArray, List.getElem?_cons_zero, List.getElem?_cons_succ]; rfl)
          case hQ14r12_ => exact fun _ _ _ h => h
          case hw14r12_ => rfl
          case hy14r12_ =>
            intro w' hSw
            obtain ⟨r0, r1, r2, r3⟩ := hSw
            go_simp
            try exact rfl
          try simp only [Act.put, List.setIfInBounds_toArray, List.set_cons_zero, List.set_cons_succ]
          refine wpLate_take (i := 15) (oi := ?oi15r12_) (v := ?v15r12_) [16] ?hi15r12_ (by kernel_rfl) (by kernel_rfl) (by kernel_rfl) (by kernel_rfl) (by kernel_rfl) ?hQ15r12_ (Or.inl ⟨?hw15r12_, ?hy15r12_⟩) K6.out ?rest15r12_
          case hi15r12_ => (simp only [List.getElem?_toArray, List.getElem?_cons_zero, List.getElem?_cons_succ]; rfl)
          case hQ15r12_ => exact fun _ _ _ h => h
          case hw15r12_ => rfl
          case hy15r12_ =>
            intro w' hSw
            obtain ⟨r0, r1, r2, r3⟩ := hSw
            go_simp
            try exact rfl
          try simp only [Act.put, List.setIfInBounds_toArray, List.set_cons_zero, List.set_cons_succ]
          refine wpLate_one (i := 16) (o := ?o16r12_) (by kernel_rfl) ?ho16r12_ ?hk16r12_
          case ho16r12_ => (simp only [List.getElem?_toArray, List.getElem?_cons_zero, List.getElem?_cons_succ]; rfl)
          intro K hK
          obtain ⟨l0, l1⟩ := HLN.out _ H6.out
          have lf0 := H6.out.ft.frozen (k * 2)
          have lf1 := H6.out.ft.frozen (k * 2 + 1)
          go_simp
          refine hK.out _ _ (fun h => absurd h (by decide)) ?_
          clear hK K
          try simp only [Act.put, List.setIfInBounds_toArray, List.set_cons_zero, List.set_cons_succ]
          refine wpLate_done (by kernel_rfl) ?_ _
          try simp only [Act.put, List.setIfInBounds_toArray, List.set_cons_zero, List.set_cons_succ]
          have H9 := Lib.hid (H6.out.set HKS.out a b)
          clear l0 l1 lf0 lf1 K6 H6 HLN
          generalize (W6.setCell ⟨t, k * 2, none⟩ (.int .i64 a)).setCell ⟨t, k * 2 + 1, none⟩ (.int .i64 b) = w6 at H9 ⊢
          go_upto_region 13 with fail
          obtain ⟨x0, x1, x2, x3⟩ := HCW.out _ _ H9.out
          have hne := fun w => neq82 bt.total bt.elements wt.total wt.elements w
          by_cases hbw : bt = wt
          · have hd : (!decide (bt.total = wt.total ∧ bt.elements = wt.elements)) = false := by subst hbw; simp
            rw [hd] at hne
            have HNY := Lib.hid (show Wr (spanP r l j) spp l (k + 1) (ss.set k (a, b)) by have := HNX.out; rw [if_pos hbw, Int.sub_zero] at this; exact this)
            clear hbw hd HNX HCW
            refine still_tail 8 (by kernel_rfl) (by kernel_rfl) ?_
            simp only [List.take_succ_cons, List.take_zero, List.drop_succ_cons, List.drop_zero]
            repeat still_step
            refine wpStill_nil ?_
            go_wp2_with fail
            have H10 := Lib.hid H9.out.drew
            go_roundg (l.length - (k + 1))
            case measure => omega
            case rel => exact ⟨k + 1, by omega, Nat.le_refl _, by go_num, _, Lib.hid ⟨H10.out, HNY.out⟩⟩
          · have hd : (!decide (bt.total = wt.total ∧ bt.elements = wt.elements)) = true := by
              simp only [Bool.not_eq_true', decide_eq_false_iff_not]
              rintro ⟨h1, h2⟩
              apply hbw
              cases bt; cases wt; simp_all
            rw [hd] at hne
            have HNY := Lib.hid (show Wr (spanP r l j) spp l (k + 1) (ss.set k (a, b - 1)) by have := HNX.out; rw [if_neg hbw] at this; exact this)
            clear hbw hd HNX HCW
            refine still_tail 8 (by kernel_rfl) (by kernel_rfl) ?_
            simp only [List.take_succ_cons, List.take_zero, List.drop_succ_cons, List.drop_zero]
            repeat still_step
            refine wpStill_nil ?_
            have hks2 : k < (ss.set k (a, b)).length := by rw [List.length_set]; exact HKS.out
            have hgs := pra_get (ss.set k (a, b)) k hks2
            rw [List.getElem_set_self] at hgs
            have t1 : w6.cell? ⟨t, k * 2 + 1, none⟩ = some (.int .i64 b) := (H9.out.ft.cell _).trans hgs.2
            have tf := H9.out.ft.frozen (k * 2 + 1)
            have H10 := Lib.hid ((H9.out.set2 hks2 (b - 1)).drew)
            rw [List.getElem_set_self, List.set_set] at H10
            clear hks2 hgs x0 x1 x2 x3 H9
            go_wp2_with fail
            go_roundg (l.length - (k + 1))
            case measure => omega
            case rel => exact ⟨k + 1, by omega, Nat.le_refl _, by go_num, _, Lib.hid ⟨H10.out, HNY.out⟩⟩
      have hlt2 : (k : Int) < l.length := by omega
      have HSM := Lib.hid (List.getElem_mem hlt)
      obtain ⟨g, o, AC, AP, cc, cp, hg, hgs, hc, hsk⟩ := HR.out.2.1 k hlt
      have HNX := Lib.hid (And.intro (HW.out.2.1.put hlt) (HW.out.2.2.put hlt))
      have hkl : k < ws.length ∧ k < bs.length := ⟨by rw [HW.out.2.1.1]; exact hlt, by rw [HW.out.2.2.1]; exact hlt⟩
      have HKL := Lib.hid hkl
      have hc := fun jj hj => (HW.out.1.b.cell (p := ⟨g, o + k * 3 + jj, none⟩) hgs).trans (hc jj hj)
      obtain ⟨s, hb⟩ : ∃ s, s = l[k] := ⟨_, rfl⟩
      rw [← hb] at hc hsk HNX HSM
      have HSK := Lib.hid hsk
      have HVMa := Lib.hid (vs_mark (j := j) (g := -5) (q := 0) (HR.out.2.2.1 s HSM.out) (by omega) (by omega))
      have HVMb := Lib.hid (vs_mark (j := j) (g := 5) (q := 40) (HR.out.2.2.1 s HSM.out) (by omega) (by omega))
      have z0 : wr.cell? ⟨g, o + k * 3, none⟩ = some (.slice AC s.calls.length cc) := hc 0 (by omega)
      have z1 : wr.cell? ⟨g, o + k * 3 + 1, none⟩ = some (.slice AP s.parts.length cp) := hc 1 (by omega)
      have z2 : wr.cell? ⟨g, o + k * 3 + 2, none⟩ = some (.int .i64 s.over) := hc 2 (by omega)
      have HX : Hid (SWs W (wr.alloc (.cells (skc s AC AP cc cp) 28)) r A c p q ws bs ∧ Has (wr.alloc (.cells (skc s AC AP cc cp) 28)) wr.heap.size 28 (skc s AC AP cc cp) ∧ p < wr.heap.size ∧ q < wr.heap.size) :=
        Lib.hid ⟨HW.out.1.step (below_one _ _), Has.new _ _ _, HW.out.1.fp.lt, HW.out.1.fq.lt⟩
      subst hg
      clear hb hgs hc hsk hkl HW H1
      go_upto_region 5 with fail
      clear z0 z1 z2
      generalize wr.alloc (.cells (skc s AC AP cc cp) 28) = w4 at HX ⊢
      generalize wr.heap.size = D at HX ⊢
      have HPD := Lib.hid HX.out.2.2
      have CS : Hid (∀ w' {ws bs}, SWs W w' r A c p q ws bs → Has w' D 28 (skc s AC AP cc cp) → w'.cell? ⟨W.heap.size, 0, none⟩ = some (.slice A r.bases.length c) ∧ w'.cell? ⟨W.heap.size, 1, none⟩ = some (.int .i64 r.factor) ∧ w'.cell? ⟨W.heap.size, 2, none⟩ = some (.int .i64 r.most) ∧ w'.cell? ⟨D, 0, none⟩ = some (.slice AC s.calls.length cc) ∧ w'.cell? ⟨D, 1, none⟩ = some (.slice AP s.parts.length cp) ∧ w'.cell? ⟨D, 2, none⟩ = some (.int .i64 s.over)) := Lib.hid fun w' _ _ h1 h2 => ⟨h1.fr.cell 0, h1.fr.cell 1, h1.fr.cell 2, h2.cell 0, h2.cell 1, h2.cell 2⟩
      have HLNa : Hid (∀ w' {bs}, SWs W w' r A c p q ws bs → w'.cell? ⟨p, k * 2, none⟩ = some (.int .i64 (ws[k]'HKL.out.1).1) ∧ w'.cell? ⟨p, k * 2 + 1, none⟩ = some (.int .i64 (ws[k]'HKL.out.1).2)) := Lib.hid fun w' _ h => ⟨(h.fp.cell _).trans (pra_get ws k HKL.out.1).1, (h.fp.cell _).trans (pra_get ws k HKL.out.1).2⟩
      have HLNb : Hid (∀ w' {ws}, SWs W w' r A c p q ws bs → w'.cell? ⟨q, k * 2, none⟩ = some (.int .i64 (bs[k]'HKL.out.2).1) ∧ w'.cell? ⟨q, k * 2 + 1, none⟩ = some (.int .i64 (bs[k]'HKL.out.2).2)) := Lib.hid fun w' _ h => ⟨(h.fq.cell _).trans (pra_get bs k HKL.out.2).1, (h.fq.cell _).trans (pra_get bs k HKL.out.2).2⟩
      have Ha0 := Lib.hid (show SWs W w4.drew r A c p q ws bs ∧ Has w4.drew D 28 (skc s AC AP cc cp) from ⟨HX.out.1.drew, HX.out.2.1.drew⟩)
      have Ka0 := Lib.hid (CS.out _ Ha0.out.1 Ha0.out.2)
      clear HX
      refine wp_region_late (fun w' : World => w'.cell? ⟨W.heap.size, 0, none⟩ = some (.slice A r.bases.length c) ∧ w'.cell? ⟨W.heap.size, 1, none⟩ = some (.int .i64 r.factor) ∧ w'.cell? ⟨W.heap.size, 2, none⟩ = some (.int .i64 r.most) ∧ w'.cell? ⟨D, 0, none⟩ = some (.slice AC s.calls.length cc) ∧ w'.cell? ⟨D, 1, none⟩ = some (.slice AP s.parts.length cp) ∧ w'.cell? ⟨D, 2, none⟩ = some (.int .i64 s.over)) [9] (by kernel_rfl) ?_
      generalize w4.drew = w5 at Ha0 Ka0 ⊢
      refine wpLate_take (i := 0) (oi := ?oi0r5_) (v := ?v0r5_) [8, 9] ?hi0r5_ (by kernel_rfl) (by kernel_rfl) (by kernel_rfl) (by kernel_rfl) (by kernel_rfl) ?hQ0r5_ (Or.inl ⟨?hw0r5_, ?hy0r5_⟩) Ka0.out ?rest0r5_
      case hi0r5_ => (simp only [List.getElem?_toArray, List.getElem?_cons_zero]; rfl)
      case hQ0r5_ => exact fun _ _ _ h => h
      case hw0r5_ => rfl
      case hy0r5_ =>
        intro w' hSw
        obtain ⟨r0, r1, r2, r3, r4, r5⟩ := hSw
        go_simp
        try exact rfl
      try simp only [Act.put, List.setIfInBounds_toArray, List.set_cons_zero, List.set_cons_succ]
      refine wpLate_take (i := 1) (oi := ?oi1r5_) (v := ?v1r5_) [8, 9] ?hi1r5_ (by kernel_rfl) (by kernel_rfl) (by kernel_rfl) (by kernel_rfl) (by kernel_rfl) ?hQ1r5_ (Or.inl ⟨?hw1r5_, ?hy1r5_⟩) Ka0.out ?rest1r5_
      case hi1r5_ => (simp only [List.getElem?_toArray, List.getElem?_cons_zero, List.getElem?_cons_succ]; rfl)
      case hQ1r5_ => exact fun _ _ _ h => h
      case hw1r5_ => rfl
      case hy1r5_ =>
        intro w' hSw
        obtain ⟨r0, r1, r2, r3, r4, r5⟩ := hSw
        go_simp
        try exact rfl
      try simp only [Act.put, List.setIfInBounds_toArray, List.set_cons_zero, List.set_cons_succ]
      refine wpLate_take (i := 2) (oi := ?oi2r5_) (v := ?v2r5_) [6, 7, 8, 9] ?hi2r5_ (by kernel_rfl) (by kernel_rfl) (by kernel_rfl) (by kernel_rfl) (by kernel_rfl) ?hQ2r5_ (Or.inl ⟨?hw2r5_, ?hy2r5_⟩) Ka0.out ?rest2r5_
      case hi2r5_ => (simp only [List.getElem?_toArray, List.getElem?_cons_zero, List.getElem?_cons_succ]; rfl)
      case hQ2r5_ => exact fun _ _ _ h => h
      case hw2r5_ => rfl
      case hy2r5_ =>
        intro w' hSw
        obtain ⟨r0, r1, r2, r3, r4, r5⟩ := hSw
        go_simp
        try exact rfl
      try simp only [Act.put, List.setIfInBounds_toArray, List.set_cons_zero, List.set_cons_succ]
      refine wpLate_take (i := 3) (oi := ?oi3r5_) (v := ?v3r5_) [5, 6, 7, 8, 9] ?hi3r5_ (by kernel_rfl) (by kernel_rfl) (by kernel_rfl) (by kernel_rfl) (by kernel_rfl) ?hQ3r5_ (Or.inl ⟨?hw3r5_, ?hy3r5_⟩) Ka0.out ?rest3r5_
      case hi3r5_ => (simp only [List.getElem?_toArray, List.getElem?_cons_zero, List.getElem?_cons_succ]; rfl)
      case hQ3r5_ => exact fun _ _ _ h => h
      case hw3r5_ => rfl
      case hy3r5_ =>
        intro w' hSw
        obtain ⟨r0, r1, r2, r3, r4, r5⟩ := hSw
        go_simp
        try exact rfl
      try simp only [Act.put, List.setIfInBounds_toArray, List.set_cons_zero, List.set_cons_succ]
      refine wpLate_take (i := 4) (oi := ?oi4r5_) (v := ?v4r5_) [5, 6, 7, 8, 9] ?hi4r5_ (by kernel_rfl) (by kernel_rfl) (by kernel_rfl) (by kernel_rfl) (by kernel_rfl) ?hQ4r5_ (Or.inl ⟨?hw4r5_, ?hy4r5_⟩) Ka0.out ?rest4r5_
      case hi4r5_ => (simp only [List.getElem?_toArray, List.getElem?_cons_zero, List.getElem?_cons_succ]; rfl)
      case hQ4r5_ => exact fun _ _ _ h => h
      case hw4r5_ => rfl
      case hy4r5_ =>
        intro w' hSw
        obtain ⟨r0, r1, r2, r3, r4, r5⟩ := hSw
        go_simp
        try exact rfl
      try simp only [Act.put, List.setIfInBounds_toArray, List.set_cons_zero, List.set_cons_succ]
      refine wpLate_one (i := 5) (o := ?o5r5_) (by kernel_rfl) ?ho5r5_ ?hk5r5_
      case ho5r5_ => (simp only [List.getElem?_toArray, List.getElem?_cons_zero, List.getElem?_cons_succ]; rfl)
      intro K hK
      go_simp
      refine (HMA.out s HSM.out AC AP cc cp (-5) 0 _ ((HSK.out.below Ha0.out.1.b).more Ha0.out.1.b.size)).mono ?_
      rintro e Wa1 ⟨BC, BP, bc, bp, rfl, hsk, hb⟩
      have Ha1 := Lib.hid (show SWs W Wa1 r A c p q ws bs ∧ Has Wa1 D 28 (skc s AC AP cc cp) ∧ SkR Wa1 Wa1.heap.size (markP s j (-5) 0) BC BP from ⟨Ha0.out.1.step hb, Ha0.out.2.below hb Ha0.out.2.lt, hsk⟩)
      have Ka1 := Lib.hid (CS.out _ Ha1.out.1 Ha1.out.2.1)
      clear hsk hb Ha0 Ka0
      go_simp
      refine hK.out _ _ (fun h => Ka1.out) ?_
      clear hK K
      try simp only [Act.put, List.setIfInBounds_toArray, List.set_cons_zero, List.set_cons_succ]
      refine wpLate_one (i := 6) (o := ?o6r5_) (by kernel_rfl) ?ho6r5_ ?hk6r5_
      case ho6r5_ => (simp only [List.getElem?_toArray, List.getElem?_cons_zero, List.getElem?_cons_succ]; rfl)
      intro K hK
      go_simp
      refine (HPR.out (markP s j (-5) 0) (HVMa.out) BC BP bc bp _ Ha1.out.1.b Ha1.out.2.2).mono ?_
      rintro e Wa2 ⟨rfl, hb⟩
      have Ha2 := Lib.hid (show SWs W Wa2 r A c p q ws bs ∧ Has Wa2 D 28 (skc s AC AP cc cp) from ⟨Ha1.out.1.step hb, Ha1.out.2.1.below hb Ha1.out.2.1.lt⟩)
      have Ka2 := Lib.hid (CS.out _ Ha2.out.1 Ha2.out.2)
      clear hb Ha1 Ka1
      go_simp
      refine hK.out _ _ (fun h => Ka2.out) ?_
      clear hK K
      try simp only [Act.put, List.setIfInBounds_toArray, List.set_cons_zero, List.set_cons_succ]
      refine wpLate_one (i := 7) (o := ?o7r5_) (by kernel_rfl) ?ho7r5_ ?hk7r5_
      case ho7r5_ => (simp only [List.getElem?_toArray, List.getElem?_cons_zero, List.getElem?_cons_succ]; rfl)
      intro K hK
      go_simp
      refine (HST.out _ _).mono ?_
      rintro e Wa3 ⟨rfl, hb⟩
      have Ha3 := Lib.hid (show SWs W Wa3 r A c p q ws bs ∧ Has Wa3 D 28 (skc s AC AP cc cp) from ⟨Ha2.out.1.step hb, Ha2.out.2.below hb Ha2.out.2.lt⟩)
      have Ka3 := Lib.hid (CS.out _ Ha3.out.1 Ha3.out.2)
      clear hb Ha2 Ka2
      go_simp
      refine hK.out _ _ (fun h => Ka3.out) ?_
      clear hK K
      try simp only [Act.put, List.setIfInBounds_toArray, List.set_cons_zero, List.set_cons_succ]
      refine wpLate_take (i := 8) (oi := ?oi8r5_) (v := ?v8r5_) [9] ?hi8r5_ (by kernel_rfl) (by kernel_rfl) (by kernel_rfl) (by kernel_rfl) (by kernel_rfl) ?hQ8r5_ (Or.inl ⟨?hw8r5_, ?hy8r5_⟩) Ka3.out ?rest8r5_
      case hi8r5_ => (simp only [List.getElem?_toArray, List.getElem?_cons_zero, List.getElem?_cons_succ]; rfl)
      case hQ8r5_ => exact fun _ _ _ h => h
      case hw8r5_ => rfl
      case hy8r5_ =>
        intro w' hSw
        obtain ⟨r0, r1, r2, r3, r4, r5⟩ := hSw
        go_simp
        try exact rfl
      try simp only [Act.put, List.setIfInBounds_toArray, List.set_cons_zero, List.set_cons_succ]
      refine wpLate_one (i := 9) (o := ?o9r5_) (by kernel_rfl) ?ho9r5_ ?hk9r5_
      case ho9r5_ => (simp only [List.getElem?_toArray, List.getElem?_cons_zero, List.getElem?_cons_succ]; rfl)
      intro K hK
      obtain ⟨l0, l1⟩ := HLNa.out _ Ha3.out.1
      have lf0 := Ha3.out.1.fp.frozen (k * 2)
      have lf1 := Ha3.out.1.fp.frozen (k * 2 + 1)
      go_simp
      refine hK.out _ _ (fun h => absurd h (by decide)) ?_
      clear hK K
      try simp only [Act.put, List.setIfInBounds_toArray, List.set_cons_zero, List.set_cons_succ]
      refine wpLate_done (by kernel_rfl) ?_ _
      try simp only [Act.put, List.setIfInBounds_toArray, List.set_cons_zero, List.set_cons_succ]
      have H9 := Lib.hid (show SWs W ((Wa3.setCell ⟨p, k * 2, none⟩ (.int .i64 (stOf (progP r (markP s j (-5) 0))).total)).setCell ⟨p, k * 2 + 1, none⟩ (.int .i64 (stOf (progP r (markP s j (-5) 0))).elements)) r A c p q (ws.set k ((stOf (progP r (markP s j (-5) 0))).total, (stOf (progP r (markP s j (-5) 0))).elements)) bs ∧ Has ((Wa3.setCell ⟨p, k * 2, none⟩ (.int .i64 (stOf (progP r (markP s j (-5) 0))).total)).setCell ⟨p, k * 2 + 1, none⟩ (.int .i64 (stOf (progP r (markP s j (-5) 0))).elements)) D 28 (skc s AC AP cc cp) from ⟨Ha3.out.1.setP HKL.out.1 _ _, (Ha3.out.2.far (by have := HPD.out.1; simp only; omega) _).far (by have := HPD.out.1; simp only; omega) _⟩)
      clear l0 l1 lf0 lf1 Ka3 Ha3 HLNa
      generalize (Wa3.setCell ⟨p, k * 2, none⟩ (.int .i64 (stOf (progP r (markP s j (-5) 0))).total)).setCell ⟨p, k * 2 + 1, none⟩ (.int .i64 (stOf (progP r (markP s j (-5) 0))).elements) = w6 at H9 ⊢
      obtain ⟨ws', hws'⟩ : ∃ ws', ws' = ws.set k ((stOf (progP r (markP s j (-5) 0))).total, (stOf (progP r (markP s j (-5) 0))).elements) := ⟨_, rfl⟩
      rw [← hws'] at H9
      have HWS := Lib.hid hws'
      clear hws'
      go_upto_region 6 with fail
      have Hb0 := Lib.hid (show SWs W w6.drew r A c p q ws' bs ∧ Has w6.drew D 28 (skc s AC AP cc cp) from ⟨H9.out.1.drew, H9.out.2.drew⟩)
      have Kb0 := Lib.hid (CS.out _ Hb0.out.1 Hb0.out.2)
      clear H9
      refine wp_region_late (fun w' : World => w'.cell? ⟨W.heap.size, 0, none⟩ = some (.slice A r.bases.length c) ∧ w'.cell? ⟨W.heap.size, 1, none⟩ = some (.int .i64 r.factor) ∧ w'.cell? ⟨W.heap.size, 2, none⟩ = some (.int .i64 r.most) ∧ w'.cell? ⟨D, 0, none⟩ = some (.slice AC s.calls.length cc) ∧ w'.cell? ⟨D, 1, none⟩ = some (.slice AP s.parts.length cp) ∧ w'.cell? ⟨D, 2, none⟩ = some (.int .i64 s.over)) [9] (by kernel_rfl) ?_
      generalize w6.drew = w7 at Hb0 Kb0 ⊢
      refine wpLate_take (i := 0) (oi := ?oi0r6_) (v := ?v0r6_) [8, 9] ?hi0r6_ (by kernel_rfl) (by kernel_rfl) (by kernel_rfl) (by kernel_rfl) (by kernel_rfl) ?hQ0r6_ (Or.inl ⟨?hw0r6_, ?hy0r6_⟩) Kb0.out ?rest0r6_
      case hi0r6_ => (simp only [List.getElem?_toArray, List.getElem?_cons_zero]; rfl)
      case hQ0r6_ => exact fun _ _ _ h => h
      case hw0r6_ => rfl
      case hy0r6_ =>
        intro w' hSw
        obtain ⟨r0, r1, r2, r3, r4, r5⟩ := hSw
        go_simp
        try exact rfl
      try simp only [Act.put, List.setIfInBounds_toArray, List.set_cons_zero, List.set_cons_succ]
      refine wpLate_take (i := 1) (oi := ?oi1r6_) (v := ?v1r6_) [8, 9] ?hi1r6_ (by kernel_rfl) (by kernel_rfl) (by kernel_rfl) (by kernel_rfl) (by kernel_rfl) ?hQ1r6_ (Or.inl ⟨?hw1r6_, ?hy1r6_⟩) Kb0.out ?rest1r6_
      case hi1r6_ => (simp only [List.getElem?_toArray, List.getElem?_cons_zero, List.getElem?_cons_succ]; rfl)
      case hQ1r6_ => exact fun _ _ _ h => h
      case hw1r6_ => rfl
      case hy1r6_ =>
        intro w' hSw
        obtain ⟨r0, r1, r2, r3, r4, r5⟩ := hSw
        go_simp
        try exact rfl
      try simp only [Act.put, List.setIfInBounds_toArray, List.set_cons_zero, List.set_cons_succ]
      refine wpLate_take (i := 2) (oi := ?oi2r6_) (v := ?v2r6_) [6, 7, 8, 9] ?hi2r6_ (by kernel_rfl) (by kernel_rfl) (by kernel_rfl) (by kernel_rfl) (by kernel_rfl) ?hQ2r6_ (Or.inl ⟨?hw2r6_, ?hy2r6_⟩) Kb0.out ?rest2r6_
      case hi2r6_ => (simp only [List.getElem?_toArray, List.getElem?_cons_zero, List.getElem?_cons_succ]; rfl)
      case hQ2r6_ => exact fun _ _ _ h => h
      case hw2r6_ => rfl
      case hy2r6_ =>
        intro w' hSw
        obtain ⟨r0, r1, r2, r3, r4, r5⟩ := hSw
        go_simp
        try exact rfl
      try simp only [Act.put, List.setIfInBounds_toArray, List.set_cons_zero, List.set_cons_succ]
      refine wpLate_take (i := 3) (oi := ?oi3r6_) (v := ?v3r6_) [5, 6, 7, 8, 9] ?hi3r6_ (by kernel_rfl) (by kernel_rfl) (by kernel_rfl) (by kernel_rfl) (by kernel_rfl) ?hQ3r6_ (Or.inl ⟨?hw3r6_, ?hy3r6_⟩) Kb0.out ?rest3r6_
      case hi3r6_ => (simp only [List.getElem?_toArray, List.getElem?_cons_zero, List.getElem?_cons_succ]; rfl)
      case hQ3r6_ => exact fun _ _ _ h => h
      case hw3r6_ => rfl
      case hy3r6_ =>
        intro w' hSw
        obtain ⟨r0, r1, r2, r3, r4, r5⟩ := hSw
        go_simp
        try exact rfl
      try simp only [Act.put, List.setIfInBounds_toArray, List.set_cons_zero, List.set_cons_succ]
      refine wpLate_take (i := 4) (oi := ?oi4r6_) (v := ?v4r6_) [5, 6, 7, 8, 9] ?hi4r6_ (by kernel_rfl) (by kernel_rfl) (by kernel_rfl) (by kernel_rfl) (by kernel_rfl) ?hQ4r6_ (Or.inl ⟨?hw4r6_, ?hy4r6_⟩) Kb0.out ?rest4r6_
      case hi4r6_ => (simp only [List.getElem?_toArray, List.getElem?_cons_zero, List.getElem?_cons_succ]; rfl)
      case hQ4r6_ => exact fun _ _ _ h => h
      case hw4r6_ => rfl
      case hy4r6_ =>
        intro w' hSw
        obtain ⟨r0, r1, r2, r3, r4, r5⟩ := hSw
        go_simp
        try exact rfl
      try simp only [Act.put, List.setIfInBounds_toArray, List.set_cons_zero, List.set_cons_succ]
      refine wpLate_one (i := 5) (o := ?o5r6_) (by kernel_rfl) ?ho5r6_ ?hk5r6_
      case ho5r6_ => (simp only [List.getElem?_toArray, List.getElem?_cons_zero, List.getElem?_cons_succ]; rfl)
      intro K hK
      go_simp
      refine (HMA.out s HSM.out AC AP cc cp 5 40 _ ((HSK.out.below Hb0.out.1.b).more Hb0.out.1.b.size)).mono ?_
      rintro e Wb1 ⟨BC, BP, bc, bp, rfl, hsk, hb⟩
      have Hb1 := Lib.hid (show SWs W Wb1 r A c p q ws' bs ∧ Has Wb1 D 28 (skc s AC AP cc cp) ∧ SkR Wb1 Wb1.heap.size (markP s j 5 40) BC BP from ⟨Hb0.out.1.step hb, Hb0.out.2.below hb Hb0.out.2.lt, hsk⟩)
      have Kb1 := Lib.hid (CS.out _ Hb1.out.1 Hb1.out.2.1)
      clear hsk hb Hb0 Kb0
      go_simp
      refine hK.out _ _ (fun h => Kb1.out) ?_
      clear hK K
      try simp only [Act.put, List.setIfInBounds_toArray, List.set_cons_zero, List.set_cons_succ]
      refine wpLate_one (i := 6) (o := ?o6r6_) (by kernel_rfl) ?ho6r6_ ?hk6r6_
      case ho6r6_ => (simp only [List.getElem?_toArray, List.getElem?_cons_zero, List.getElem?_cons_succ]; rfl)
      intro K hK
      go_simp
      refine (HPR.out (markP s j 5 40) (HVMb.out) BC BP bc bp _ Hb1.out.1.b Hb1.out.2.2).mono ?_
      rintro e Wb2 ⟨rfl, hb⟩
      have Hb2 := Lib.hid (show SWs W Wb2 r A c p q ws' bs ∧ Has Wb2 D 28 (skc s AC AP cc cp) from ⟨Hb1.out.1.step hb, Hb1.out.2.1.below hb Hb1.out.2.1.lt⟩)
      have Kb2 := Lib.hid (CS.out _ Hb2.out.1 Hb2.out.2)
      clear hb Hb1 Kb1
      go_simp
      refine hK.out _ _ (fun h => Kb2.out) ?_
      clear hK K
      try simp only [Act.put, List.setIfInBounds_toArray, List.set_cons_zero, List.set_cons_succ]
      refine wpLate_one (i := 7) (o := ?o7r6_) (by kernel_rfl) ?ho7r6_ ?hk7r6_
      case ho7r6_ => (simp only [List.getElem?_toArray, List.getElem?_cons_zero, List.getElem?_cons_succ]; rfl)
      intro K hK
      go_simp
      refine (HST.out _ _).mono ?_
      rintro e Wb3 ⟨rfl, hb⟩
      have Hb3 := Lib.hid (show SWs W Wb3 r A c p q ws' bs ∧ Has Wb3 D 28 (skc s AC AP cc cp) from ⟨Hb2.out.1.step hb, Hb2.out.2.below hb Hb2.out.2.lt⟩)
      have Kb3 := Lib.hid (CS.out _ Hb3.out.1 Hb3.out.2)
      clear hb Hb2 Kb2
      go_simp
      refine hK.out _ _ (fun h => Kb3.out) ?_
      clear hK K
      try simp only [Act.put, List.setIfInBounds_toArray, List.set_cons_zero, List.set_cons_succ]
      refine wpLate_take (i := 8) (oi := ?oi8r6_) (v := ?v8r6_) [9] ?hi8r6_ (by kernel_rfl) (by kernel_rfl) (by kernel_rfl) (by kernel_rfl) (by kernel_rfl) ?hQ8r6_ (Or.inl ⟨?hw8r6_, ?hy8r6_⟩) Kb3.out ?rest8r6_
      case hi8r6_ => (simp only [List.getElem?_toArray, List.getElem?_cons_zero, List.getElem?_cons_succ]; rfl)
      case hQ8r6_ => exact fun _ _ _ h => h
      case hw8r6_ => rfl
      case hy8r6_ =>
        intro w' hSw
        obtain ⟨r0, r1, r2, r3, r4, r5⟩ := hSw
        go_simp
        try exact rfl
      try simp only [Act.put, List.setIfInBounds_toArray, List.set_cons_zero, List.set_cons_succ]
      refine wpLate_one (i := 9) (o := ?o9r6_) (by kernel_rfl) ?ho9r6_ ?hk9r6_
      case ho9r6_ => (simp only [List.getElem?_toArray, List.getElem?_cons_zero, List.getElem?_cons_succ]; rfl)
      intro K hK
      obtain ⟨l0, l1⟩ := HLNb.out _ Hb3.out.1
      have lf0 := Hb3.out.1.fq.frozen (k * 2)
      have lf1 := Hb3.out.1.fq.frozen (k * 2 + 1)
      go_simp
      refine hK.out _ _ (fun h => absurd h (by decide)) ?_
      clear hK K
      try simp only [Act.put, List.setIfInBounds_toArray, List.set_cons_zero, List.set_cons_succ]
      refine wpLate_done (by kernel_rfl) ?_ _
      try simp only [Act.put, List.setIfInBounds_toArray, List.set_cons_zero, List.set_cons_succ]
      have H10 := Lib.hid (Hb3.out.1.setQ HKL.out.2 (stOf (progP r (markP s j 5 40))).total (stOf (progP r (markP s j 5 40))).elements)
      clear l0 l1 lf0 lf1 Kb3 Hb3 HLNb
      go_wp2_with fail
      go_roundg (l.length - (k + 1))
      case measure => omega
      case rel => exact ⟨k + 1, by omega, Nat.le_refl _, by go_num, _, _, Lib.hid ⟨H10.out, by rw [HWS.out]; exact HNX.out.1, HNX.out.2⟩⟩
end Go.Proofs.Ytmclchaalmonnaa
