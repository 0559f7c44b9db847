/- Towards the law IceApart: small lemmas, and the walk as far as it goes (in the remark). -/
import Derived.Test.YtogabjlhecnbbaaApartA
import Derived.Test.YtogabjlhecnbbaaClos
import Derived.Test.YtogabjlhecnbbaaCopy
import Derived.Deep.DeepCutAuto
import Derived.Deep.Cut
import Derived.Deep.CutRange
namespace Go.Proofs.Ytogabjlhecnbbaa
open Go.RowKit Go.Shelf
theorem playR_err {zs : List Zn} {es : List Ev} (h : (playR zs es).e ≠ 0) : (playR zs es).zs = [] ∧ (playR zs es).s = Sm.zero := by
  refine ⟨playR_nil h, ?_⟩
  unfold playR at h ⊢
  split
  · rfl
  · rename_i h1
    rw [if_neg h1] at h
    split
    · rfl
    · rename_i h2
      rw [if_neg h2] at h
      split
      · rename_i h3
        rw [if_pos h3] at h
        exact absurd rfl h
      · rfl
theorem erow_left {w : World} {B : Nat} {A : Option Addr} {l1 l2 : List Ev} (h : ERow w B A (l1 ++ l2)) : ERow w B A l1 := fun k hk => by
  obtain ⟨g, o, e, hg, c⟩ := h k (by simp; omega)
  rw [List.getElem_append_left hk] at c
  exact ⟨g, o, e, hg, c⟩
theorem erow_right {w : World} {B cap : Nat} {A : Option Addr} {l1 l2 : List Ev} (h : ERow w B A (l1 ++ l2)) (hc : (l1 ++ l2).length ≤ cap) :
    ERow w B (if cap = l1.length then A else Option.map (fun x => x.add (l1.length * 5)) A) l2 := fun k hk => by
  obtain ⟨g, o, e, hg, c⟩ := h (l1.length + k) (by simp; omega)
  rw [List.length_append] at hc
  rw [if_neg (by omega), e]
  have hx : (l1 ++ l2)[l1.length + k]'(by simp; omega) = l2[k] := by rw [List.getElem_append_right (by omega)]; simp
  rw [hx] at c
  refine ⟨g, o + l1.length * 5, ?_, hg, ?_⟩
  · simp only [Option.map_some]
    congr 1
    unfold Addr.add
    split <;> simp_all
  · have e1 : ∀ j, o + l1.length * 5 + k * 5 + j = o + (l1.length + k) * 5 + j := fun j => by omega
    have e0 : o + l1.length * 5 + k * 5 = o + (l1.length + k) * 5 := by omega
    rw [e0]
    exact c
theorem arm_mid {W wp wy : World} (hB : Below W.heap.size W wp) (h : Below (wp.alloc s29).heap.size (wp.alloc s29) wy) : Below W.heap.size W wy ∧ Has wy wp.heap.size 29 #[iv 0, iv 0, iv 0, iv 0, iv 0, iv 0] ∧ W.heap.size ≤ wp.heap.size :=
  ⟨arm_below (hB.alloc hB.size _) h, (Has.new wp 29 _).below h (by simp), hB.size⟩
theorem arm_b1 {W wy : World} (h : Below ((W.alloc s29).drew).heap.size ((W.alloc s29).drew) wy) : Below W.heap.size W wy ∧ Has wy W.heap.size 29 #[iv 0, iv 0, iv 0, iv 0, iv 0, iv 0] ∧ W.heap.size ≤ W.heap.size :=
  ⟨(arm_b h).1, (arm_b h).2, Nat.le_refl _⟩
theorem s18b {W W' : World} {Sb q : Nat} {s t : Sm} (hb : Below W.heap.size W W') (h : Has W Sb 29 (smc s)) (k : Has W q 29 (smc t)) : S18 Sb q s t W' := s18 (h.below hb h.lt) (k.below hb k.lt)
theorem set6b {W wy : World} {p : Nat} (s : Sm) (hB : Below W.heap.size W wy) (n : Has wy p 29 #[iv 0, iv 0, iv 0, iv 0, iv 0, iv 0]) (hp : W.heap.size ≤ p) :
    Has ((((((wy.setCell ⟨p, 0, none⟩ (iv s.f1)).setCell ⟨p, 1, none⟩ (iv s.f2)).setCell ⟨p, 2, none⟩ (iv s.p1)).setCell ⟨p, 3, none⟩ (iv s.p2)).setCell ⟨p, 4, none⟩ (iv s.w1)).setCell ⟨p, 5, none⟩ (iv s.w2)) p 29 (smc s) ∧
    Below W.heap.size W ((((((wy.setCell ⟨p, 0, none⟩ (iv s.f1)).setCell ⟨p, 1, none⟩ (iv s.f2)).setCell ⟨p, 2, none⟩ (iv s.p1)).setCell ⟨p, 3, none⟩ (iv s.p2)).setCell ⟨p, 4, none⟩ (iv s.w1)).setCell ⟨p, 5, none⟩ (iv s.w2)) :=
  ⟨(((((n.set 0 _).set 1 _).set 2 _).set 3 _).set 4 _).set 5 _, (((((hB.setCell (p := ⟨p, 0, none⟩) hp _).setCell (p := ⟨p, 1, none⟩) hp _).setCell (p := ⟨p, 2, none⟩) hp _).setCell (p := ⟨p, 3, none⟩) hp _).setCell (p := ⟨p, 4, none⟩) hp _).setCell (p := ⟨p, 5, none⟩) hp _⟩
theorem new6b {W wy : World} (s : Sm) (hB : Below W.heap.size W wy) : Has (wy.alloc (.cells (smc s) 29)) wy.heap.size 29 (smc s) ∧ Below W.heap.size W (wy.alloc (.cells (smc s) 29)) := ⟨Has.new _ _ _, hB.alloc hB.size _⟩
/- THE WALK SO FAR. Up to 'go_cut [23]' it goes through; behind held3 the four orders came up right (77 s); with 'rw [hk]' ahead of the cut (slot 13 must read the same on both sides of go_meet) the last 'first' had not ended after 200 s: give the world and p outright instead of the two plain 'exact'.
set_option maxRecDepth 100000 in
set_option maxHeartbeats 4000000 in
theorem apart_any (cut which : Int) (zs : List Zn) (es : List Ev) (A A' : Option Addr) (cap cap' : Nat) (w : World) (hz : ZRow w w.heap.size A zs) (he : ERow w w.heap.size A' es) (hl : zs.length ≤ 9223372036854775807) (hl' : es.length ≤ 9223372036854775807)
    (hc : zs.length ≤ cap) (hc' : es.length ≤ cap') (hcm : cap ≤ 9223372036854775807) (hcm' : cap' ≤ 9223372036854775807) (hcut : 0 ≤ cut ∧ cut ≤ 255) (hwh : 0 ≤ which ∧ which ≤ 255) :
    Calls Try.prog 9 #[.slice A zs.length cap, .slice A' es.length cap', .int .u8 cut, .int .u8 which] w fun e w' => e = .returned (.bool true) ∧ Below w.heap.size w w' := by
  by_cases h40 : 40 < (es.length : Int)
  · go_enter Try.func9, Try.ntmps9
    go_wp2_with fail
    refine (alive_any _).mono ?_
    rintro e wb ⟨rfl, hb⟩
    go_wp2_with fail
    go_ret
    exact ⟨rfl, hb⟩
  have h40' : decide (40 < (es.length : Int)) = false := by simpa using h40
  have hq := eq29s
  go_enter Try.func9, Try.ntmps9
  go_wp2_with fail
  refine (play_any zs es A cap A' cap' w hz he hl hl').mono ?_
  intro r wb hp
  obtain ⟨A1, cap1, rfl, hb, hz1⟩ := play_row hp
  clear hp
  by_cases h0 : (playR zs es).e = 0
  rotate_left
  · obtain ⟨e1, e2⟩ := playR_err h0
    have hne : ((playR zs es).e != 0) = true := by simpa using h0
    obtain ⟨pe, hpe⟩ : ∃ pe, pe = (playR zs es).e := ⟨_, rfl⟩
    rw [← hpe] at hne
    rw [e1, e2, ← hpe]
    have hbb := belowT hb (below1 wb (.cells #[iv 0, iv 0, iv 0, iv 0, iv 0, iv 0] 29))
    clear hpe h0 e1 e2 hz1 hb
    go_wp2_with fail
    refine (alive_any _).mono ?_
    rintro e wc ⟨rfl, hb⟩
    have HE := Lib.hid (belowT hbb hb)
    go_wp2_with fail
    go_ret
    exact ⟨rfl, HE.out⟩
  have hsame := playR_same h0
  have HOK := Lib.hid (playR_ok h0).1
  have HP0 := Lib.hid h0
  obtain ⟨⟨zz, s, i, e⟩, hR⟩ : ∃ R, R = playR zs es := ⟨_, rfl⟩
  rw [← hR] at hz1 h0 hsame ⊢
  simp only at hz1 h0 hsame ⊢
  subst h0
  have HR := Lib.hid hR
  clear hR
  have HB1 := Lib.hid (belowT hb (below1 wb (.cells #[iv s.f1, iv s.f2, iv s.p1, iv s.p2, iv s.w1, iv s.w2] 29)))
  have HS1 : Hid (Has (wb.alloc (.cells #[iv s.f1, iv s.f2, iv s.p1, iv s.p2, iv s.w1, iv s.w2] 29)) wb.heap.size 29 (smc s)) := Has.new _ _ _
  have HZ1 := Lib.hid (hz1.step (below1 wb (.cells #[iv s.f1, iv s.f2, iv s.p1, iv s.p2, iv s.w1, iv s.w2] 29)))
  clear hb hz1
  rw [hsame]
  go_wp2_with fail
  refine (rinkR_any zs A cap _ (hz.step HB1.out) hl).mono ?_
  rintro r wc ⟨rfl, hb⟩
  rw [HOK.out]
  have HBc := Lib.hid (belowT HB1.out hb)
  have HSc := Lib.hid (HS1.out.below hb HS1.out.lt)
  have HZc := Lib.hid (HZ1.out.step hb)
  clear hb HB1 HS1 HZ1
  obtain ⟨l1, l2, hes, hk⟩ : ∃ l1 l2, es = l1 ++ l2 ∧ cut % ((es.length : Int) + 1) = (l1.length : Int) := by
    have h1 := Int.emod_nonneg cut (show (es.length : Int) + 1 ≠ 0 by omega)
    have h2 := Int.emod_lt_of_pos cut (show (0 : Int) < (es.length : Int) + 1 by omega)
    obtain ⟨k, hk⟩ := Int.eq_ofNat_of_zero_le h1
    refine ⟨es.take k, es.drop k, by simp, ?_⟩
    rw [hk, List.length_take]
    omega
  have hlen : es.length = l1.length + l2.length := by rw [hes, List.length_append]
  have hk1 : (l1.length : Int) ≤ cap' := by omega
  have hk2 : (l1.length : Int) ≤ es.length := by omega
  have HES := Lib.hid (And.intro hes hlen)
  clear hes hlen
  have HER := Lib.hid (show ERow w w.heap.size A' (l1 ++ l2) from HES.out.1 ▸ he)
  have HTW := Lib.hid (play_two (zs := zs) (l1 := l1) (l2 := l2) (by rw [← HES.out.1]; exact HP0.out))
  go_wp2_with fail
  refine (play_any zs l1 A cap A' cap' wc (hz.step HBc.out) ((erow_left HER.out).step HBc.out) hl (by omega)).mono ?_
  intro r wd hp
  obtain ⟨A2, cap2, rfl, hb, hz2⟩ := play_row hp
  clear hp
  have hlen2 := playR_len zs l1
  obtain ⟨⟨hz_, t, n1, f1⟩, hR1⟩ : ∃ R, R = playR zs l1 := ⟨_, rfl⟩
  rw [← hR1] at hz2 HTW hlen2 ⊢
  simp only at hz2 HTW hlen2 ⊢
  clear hR1
  obtain ⟨rfl, rfl, hT⟩ := HTW.out
  have HTW2 := Lib.hid hT
  clear hT HTW
  have HBd := Lib.hid (belowT (belowT HBc.out hb) (below1 wd (.cells #[iv t.f1, iv t.f2, iv t.p1, iv t.p2, iv t.w1, iv t.w2] 29)))
  have HSd := Lib.hid ((HSc.out.below hb HSc.out.lt).alloc (.cells #[iv t.f1, iv t.f2, iv t.p1, iv t.p2, iv t.w1, iv t.w2] 29))
  have HZd := Lib.hid ((HZc.out.step hb).step (below1 wd (.cells #[iv t.f1, iv t.f2, iv t.p1, iv t.p2, iv t.w1, iv t.w2] 29)))
  have HTd : Hid (Has (wd.alloc (.cells #[iv t.f1, iv t.f2, iv t.p1, iv t.p2, iv t.w1, iv t.w2] 29)) wd.heap.size 29 (smc t)) := Has.new _ _ _
  have HHd := Lib.hid (hz2.step (below1 wd (.cells #[iv t.f1, iv t.f2, iv t.p1, iv t.p2, iv t.w1, iv t.w2] 29)))
  clear hb hz2 HBc HSc HZc
  have hsub : es.length - l1.length = l2.length := by have := HES.out.2; omega
  obtain ⟨A2', hA2'⟩ : ∃ A2', (if cap' = l1.length then A' else Option.map (fun x => x.add (l1.length * 5)) A') = A2' := ⟨_, rfl⟩
  have HE2 : Hid (ERow w w.heap.size A2' l2) := by
    show ERow _ _ _ _
    rw [← hA2']
    exact erow_right HER.out (by rw [← HES.out.1]; exact hc')
  go_wp2_with fail
  refine (play_any hz_ l2 A2 cap2 A2' (cap' - l1.length) _ HHd.out ((HE2.out.below HBd.out).more HBd.out.size) (by omega) (by omega)).mono ?_
  intro r we hp
  obtain ⟨A3, cap3, rfl, hb, hz3⟩ := play_row hp
  clear hp
  obtain ⟨⟨rz, u, n2, f2⟩, hR2⟩ : ∃ R, R = playR hz_ l2 := ⟨_, rfl⟩
  rw [← hR2] at hz3 HTW2 ⊢
  simp only at hz3 HTW2 ⊢
  clear hR2
  obtain ⟨rfl, rfl, hT⟩ := HTW2.out
  rw [← HES.out.1, ← HR.out] at hT
  simp only at hT
  obtain ⟨rfl, hsum⟩ := hT
  have HSU := Lib.hid hsum
  clear hsum HTW2
  have HAX : Hid (Below w.heap.size w (we.alloc (.cells #[iv u.f1, iv u.f2, iv u.p1, iv u.p2, iv u.w1, iv u.w2] 29)) ∧ Has (we.alloc (.cells #[iv u.f1, iv u.f2, iv u.p1, iv u.p2, iv u.w1, iv u.w2] 29)) wb.heap.size 29 (smc s) ∧ Has (we.alloc (.cells #[iv u.f1, iv u.f2, iv u.p1, iv u.p2, iv u.w1, iv u.w2] 29)) wd.heap.size 29 (smc t) ∧ Has (we.alloc (.cells #[iv u.f1, iv u.f2, iv u.p1, iv u.p2, iv u.w1, iv u.w2] 29)) we.heap.size 29 (smc u) ∧ ZRow (we.alloc (.cells #[iv u.f1, iv u.f2, iv u.p1, iv u.p2, iv u.w1, iv u.w2] 29)) (we.alloc (.cells #[iv u.f1, iv u.f2, iv u.p1, iv u.p2, iv u.w1, iv u.w2] 29)).heap.size A1 rz ∧ ZRow (we.alloc (.cells #[iv u.f1, iv u.f2, iv u.p1, iv u.p2, iv u.w1, iv u.w2] 29)) (we.alloc (.cells #[iv u.f1, iv u.f2, iv u.p1, iv u.p2, iv u.w1, iv u.w2] 29)).heap.size A3 rz) :=
    ⟨belowT (belowT HBd.out hb) (below1 _ _), (HSd.out.below hb HSd.out.lt).alloc _, (HTd.out.below hb HTd.out.lt).alloc _, Has.new _ _ _, (HZd.out.step hb).step (below1 _ _), hz3.step (below1 _ _)⟩
  clear hb hz3 HBd HSd HZd HTd HHd hA2' hsub
  have HNr : Hid (Near (t.f1 + u.f1) ∧ Near (t.f2 + u.f2) ∧ Near (t.p1 + u.p1) ∧ Near (t.p2 + u.p2) ∧ Near (t.w1 + u.w1) ∧ Near (t.w2 + u.w2)) := -- TO BE SHOWN: from the bounds of the two sums (Sm.Bd)
  go_wp2_with fail
  refine (?_ : ∀ W9, (Below w.heap.size w W9 ∧ Has W9 wb.heap.size 29 (smc s) ∧ Has W9 wd.heap.size 29 (smc t) ∧ Has W9 we.heap.size 29 (smc u) ∧ ZRow W9 W9.heap.size A1 rz ∧ ZRow W9 W9.heap.size A3 rz) → Code.wp Try.prog _ _ _ W9) _ HAX.out
  clear HAX
  intro W9 h9
  have H9 := Lib.hid h9
  clear h9
  have h9t := H9.out.2.2.1
  have h9u := H9.out.2.2.2.1
  have ltt := h9t.lt
  have ltu := h9u.lt
  rw [hk]
  clear hk
  go_cut [23] (fun a wx => ∃ p, a = .pointer (some ⟨p, 0, none⟩) ∧ Hid (Has wx p 29 (smc (t.add u)) ∧ Below W9.heap.size W9 wx))
  case first =>
    go_region_held3 (fun w' => w'.cell? ⟨wd.heap.size, 0, none⟩ = some (iv t.f1) ∧ w'.cell? ⟨wd.heap.size, 1, none⟩ = some (iv t.f2) ∧ w'.cell? ⟨wd.heap.size, 2, none⟩ = some (iv t.p1) ∧ w'.cell? ⟨wd.heap.size, 3, none⟩ = some (iv t.p2) ∧ w'.cell? ⟨wd.heap.size, 4, none⟩ = some (iv t.w1) ∧ w'.cell? ⟨wd.heap.size, 5, none⟩ = some (iv t.w2) ∧ w'.cell? ⟨we.heap.size, 0, none⟩ = some (iv u.f1) ∧ w'.cell? ⟨we.heap.size, 1, none⟩ = some (iv u.f2) ∧ w'.cell? ⟨we.heap.size, 2, none⟩ = some (iv u.p1) ∧ w'.cell? ⟨we.heap.size, 3, none⟩ = some (iv u.p2) ∧ w'.cell? ⟨we.heap.size, 4, none⟩ = some (iv u.w1) ∧ w'.cell? ⟨we.heap.size, 5, none⟩ = some (iv u.w2)) ((refine s18b ?_ h9t h9u; repeat' (first | (with_reducible exact hB) | (with_reducible exact hBs) | omega | (with_reducible exact Below.refl _ _) | (with_reducible apply Below.drew) | (with_reducible refine Below.alloc ?_ ?_ _) | (with_reducible refine Below.setCell ?_ ?_ _) | simp))) ((go_at_call 35; refine (addS_any _ _ _ _ _ (by first | exact HNr.out.1 | exact HNr.out.2.2.1 | exact HNr.out.2.2.2.2.1) (by first | exact HNr.out.2.1 | exact HNr.out.2.2.2.1 | exact HNr.out.2.2.2.2.2)).mono ?_; rintro r wy ⟨rfl, hby⟩; (first | ((with_reducible have n := arm_b1 hby); obtain ⟨hB, n29, hpl⟩ := n; obtain ⟨u0, u1, u2, u3, u4', u5, fu0, fu1, fu2, fu3, fu4, fu5⟩ := new29 n29; have lq := n29.lt) | (with_reducible have hB := arm_0 hby) | ((with_reducible have hB := arm_below hB hby); have n29 := n29.below hby n29.lt; obtain ⟨u0, u1, u2, u3, u4', u5, fu0, fu1, fu2, fu3, fu4, fu5⟩ := new29 n29; have lq := n29.lt) | ((with_reducible have n := arm_mid hB hby); obtain ⟨hB, n29, hpl⟩ := n; obtain ⟨u0, u1, u2, u3, u4', u5, fu0, fu1, fu2, fu3, fu4, fu5⟩ := new29 n29; have lq := n29.lt) | (with_reducible have hB := arm_below hB hby)); have hBs := hB.size))
    all_goals (try go_wp2_with fail)
    all_goals go_meet
    all_goals first
      | with_reducible exact ⟨_, rfl, Lib.hid (new6b (t.add u) hB)⟩
      | with_reducible exact ⟨_, rfl, Lib.hid (set6b (t.add u) hB n29 hpl)⟩
      | exact ⟨_, rfl, Lib.hid (new6b (t.add u) hB)⟩
      | exact ⟨_, rfl, Lib.hid (set6b (t.add u) hB n29 hpl)⟩
  case rest =>
    obtain ⟨p, rfl, HSp⟩ := hcut
    -- HERE: region 13 and on
-/
end Go.Proofs.Ytogabjlhecnbbaa
