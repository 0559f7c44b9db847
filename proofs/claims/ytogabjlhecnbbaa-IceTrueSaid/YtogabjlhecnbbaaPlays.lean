/- The law IcePlays. -/
import Derived.Test.YtogabjlhecnbbaaRefG
import Derived.Test.YtogabjlhecnbbaaIceAlive
namespace Go.Proofs.Ytogabjlhecnbbaa
open Go.RowKit Go.Shelf
theorem loopE_len (e : Ev) : ∀ (n i : Nat) (st : List Zn × Sm), (loopE e i n st).1.1.length = st.1.length
  | 0, _, _ => rfl
  | n + 1, i, st => by
    unfold loopE
    split
    · rw [loopE_len e n (i + 1) (zStep e i st)]; simp [zStep]
    · rfl
theorem evDo_len (e : Ev) (st : List Zn × Sm) : (evDo e st).1.1.length = st.1.length := by
  unfold evDo
  split
  · exact loopE_len ..
  · rfl
theorem playL_len : ∀ (es : List Ev) (st : List Zn × Sm) (i : Nat), (playL es st i).1.1.length = st.1.length
  | [], _, _ => rfl
  | e :: l, st, i => by
    unfold playL
    split
    · rw [playL_len l, evDo_len]
    · rfl
theorem playR_len (zs : List Zn) (es : List Ev) : (playR zs es).zs.length ≤ zs.length := by
  unfold playR
  split
  · simp
  · split
    · simp
    · split
      · simp only; rw [playL_len]; exact Nat.le_refl _
      · simp
theorem playR_nil {zs : List Zn} {es : List Ev} (h : (playR zs es).e ≠ 0) : (playR zs es).zs = [] := by
  unfold playR at h ⊢
  split
  · rfl
  · rename_i h1
    rw [if_neg h1] at h
    split
    · rfl
    · rename_i h2
      rw [if_neg h2] at h
      split
      · rename_i h3
        rw [if_pos h3] at h
        exact absurd rfl h
      · rfl
theorem zrow_nil (w : World) : ZRow w w.heap.size none [] := fun k h => absurd h (by simp)
theorem play_row {zs : List Zn} {es : List Ev} {w w' : World} {r : Ending} (h : PlayPost (playR zs es) w r w') :
    ∃ A cap, r = .returned (.tuple #[.slice A (playR zs es).zs.length cap, smv (playR zs es).s, iv (playR zs es).i, iv (playR zs es).e]) ∧ Below w.heap.size w w' ∧ ZRow w' w'.heap.size A (playR zs es).zs := by
  obtain ⟨sl, rfl, hb, ⟨h0, rfl⟩ | ⟨_, B, _, rfl, hB⟩⟩ := h
  · rw [playR_nil h0]; exact ⟨none, 0, rfl, hb, zrow_nil _⟩
  · exact ⟨_, _, rfl, hb, zrow_app (tl := #[]) (by simpa using hB)⟩
theorem rplay_row {zs : List Zn} {es : List Ev} {w w' : World} {r : Ending} (h : RPost (playR zs es) w r w') :
    ∃ A cap, r = .returned (.tuple #[.slice A (playR zs es).zs.length cap, smv (playR zs es).s, iv (playR zs es).i, iv (playR zs es).e]) ∧ Below w.heap.size w w' ∧ ZRow w' w'.heap.size A (playR zs es).zs := by
  obtain ⟨sl, rfl, hb, ⟨h0, rfl⟩ | ⟨_, B, cap, tl, _, rfl, hB⟩⟩ := h
  · rw [playR_nil h0]; exact ⟨none, 0, rfl, hb, zrow_nil _⟩
  · exact ⟨_, _, rfl, hb, zrow_app hB⟩
theorem thinR_len (zs : List Zn) (cover : Int) : (thinR zs cover).1.length ≤ zs.length := by
  unfold thinR
  split
  · simp
  · split
    · simp
    · exact thinTo_len ..
theorem irow_below {w w' : World} {B : Nat} {A : Option Addr} {xs : List Int} (h : IRow w B A xs) (hb : Below B w w') : IRow w' B A xs := fun k hk => by
  obtain ⟨g, o, e, hg, c⟩ := h k hk
  exact ⟨g, o, e, hg, (hb.cell (p := ⟨g, _, none⟩) hg).trans c⟩
theorem irow_more {w : World} {B B' : Nat} {A : Option Addr} {xs : List Int} (h : IRow w B A xs) (hb : B ≤ B') : IRow w B' A xs := fun k hk => by
  obtain ⟨g, o, e, hg, c⟩ := h k hk
  exact ⟨g, o, e, by omega, c⟩
set_option maxHeartbeats 800000 in
theorem many_any (n cap : Nat) (m : Int) (A : Option Addr) (w : World) (_hl : n ≤ 9223372036854775807) : Calls Try.prog 13 #[.slice A n cap, iv m] w fun e w' => ∃ b, e = .returned (.bool b) ∧ w = w' := by
  by_cases h1 : m < (n : Int)
  · by_cases h2 : (n : Int) ≤ 256
    · go_enter Try.func13, Try.ntmps13
      go_wp2_with fail
      go_ret
      first | exact ⟨_, rfl, rfl⟩ | rfl | exact ⟨.inl rfl, rfl⟩ | exact ⟨.inr rfl, rfl⟩
    · have h2' : decide ((n : Int) ≤ 256) = false := by simpa using h2
      by_cases h3 : 261 < (n : Int)
      · go_enter Try.func13, Try.ntmps13
        go_wp2_with fail
        go_ret
        first | exact ⟨_, rfl, rfl⟩ | rfl | exact ⟨.inl rfl, rfl⟩ | exact ⟨.inr rfl, rfl⟩
      · have h3' : decide (261 < (n : Int)) = false := by simpa using h3
        go_enter Try.func13, Try.ntmps13
        go_wp2_with fail
        go_ret
        first | exact ⟨_, rfl, rfl⟩ | rfl | exact ⟨.inl rfl, rfl⟩ | exact ⟨.inr rfl, rfl⟩
  · have h1' : decide (m < (n : Int)) = false := by simpa using h1
    by_cases h3 : 261 < (n : Int)
    · go_enter Try.func13, Try.ntmps13
      go_wp2_with fail
      go_ret
      first | exact ⟨_, rfl, rfl⟩ | rfl | exact ⟨.inl rfl, rfl⟩ | exact ⟨.inr rfl, rfl⟩
    · have h3' : decide (261 < (n : Int)) = false := by simpa using h3
      go_enter Try.func13, Try.ntmps13
      go_wp2_with fail
      go_ret
      first | exact ⟨_, rfl, rfl⟩ | rfl | exact ⟨.inl rfl, rfl⟩ | exact ⟨.inr rfl, rfl⟩

theorem ZRow.step {w w' : World} {A : Option Addr} {zs : List Zn} (h : ZRow w w.heap.size A zs) (hb : Below w.heap.size w w') : ZRow w' w'.heap.size A zs := (h.below hb).more hb.size
theorem IRow.step {w w' : World} {A : Option Addr} {xs : List Int} (h : IRow w w.heap.size A xs) (hb : Below w.heap.size w w') : IRow w' w'.heap.size A xs := irow_more (irow_below h hb) hb.size
theorem ERow.step {w w' : World} {A : Option Addr} {es : List Ev} (h : ERow w w.heap.size A es) (hb : Below w.heap.size w w') : ERow w' w'.heap.size A es := (h.below hb).more hb.size
/-- what the law holds of the two plays -/
structure PX (w W : World) (B1 B2 : Nat) (s : Sm) (A1 A2 : Option Addr) (zz : List Zn) : Prop where
  b : Below w.heap.size w W
  s1 : Has W B1 29 (smc s)
  s2 : Has W B2 29 (smc s)
  z1 : ZRow W W.heap.size A1 zz
  z2 : ZRow W W.heap.size A2 zz
theorem PX.step {w W W' : World} {B1 B2 : Nat} {s : Sm} {A1 A2 : Option Addr} {zz : List Zn} (h : PX w W B1 B2 s A1 A2 zz) (hb : Below W.heap.size W W') : PX w W' B1 B2 s A1 A2 zz :=
  ⟨belowT h.b hb, h.s1.below hb h.s1.lt, h.s2.below hb h.s2.lt, h.z1.step hb, h.z2.step hb⟩
theorem eq29s (x : Sm) (w : World) : (binOp .eql 29 (smv x) (smv x)).run Try.prog w = .ok (.bool true) w := by rw [eql29]; simp
set_option maxRecDepth 100000 in
set_option maxHeartbeats 4000000 in
theorem plays_any (cover : Int) (zs : List Zn) (es : List Ev) (A A' : Option Addr) (cap cap' : Nat) (w : World) (hz : ZRow w w.heap.size A zs) (he : ERow w w.heap.size A' es) (hl : zs.length ≤ 9223372036854775807) (hl' : es.length ≤ 9223372036854775807) :
    Calls Try.prog 3 #[.slice A zs.length cap, .slice A' es.length cap', iv cover] w fun e w' => e = .returned (.bool true) ∧ Below w.heap.size w w' := by
  have hq := eq29s
  by_cases h30 : 30 < (zs.length : Int)
  · go_enter Try.func3, Try.ntmps3
    go_wp2_with fail
    refine (alive_any _).mono ?_
    rintro e wb ⟨rfl, hb⟩
    go_wp2_with fail
    go_ret
    exact ⟨rfl, hb⟩
  have h30' : decide (30 < (zs.length : Int)) = false := by simpa using h30
  go_enter Try.func3, Try.ntmps3
  go_wp2_with fail
  refine (many_any _ _ _ _ _ hl').mono ?_
  rintro e wa ⟨b, rfl, rfl⟩
  cases b
  rotate_left
  · go_wp2_with fail
    refine (alive_any _).mono ?_
    rintro e wb ⟨rfl, hb⟩
    go_wp2_with fail
    go_ret
    exact ⟨rfl, hb⟩
  have hlen := Nat.le_trans (playR_len zs es) hl
  have htlen := Nat.le_trans (thinR_len zs cover) hl
  have HLn := Lib.hid (And.intro hlen htlen)
  clear hlen htlen
  have HQ := Lib.hid hq
  clear hq
  go_wp2_with fail
  refine (play_any zs es A cap A' cap' w hz he hl hl').mono ?_
  intro r wb hp
  obtain ⟨A1, cap1, rfl, hb, hz1⟩ := play_row hp
  clear hp
  obtain ⟨⟨zz, s, i, e⟩, hR⟩ : ∃ R, R = playR zs es := ⟨_, rfl⟩
  rw [← hR] at hz1 HLn ⊢
  simp only at hz1 HLn ⊢
  have HR := Lib.hid hR
  have HZ1 := Lib.hid hz1
  clear hR hz1
  have HB1 := Lib.hid (belowT hb (below1 wb (.cells #[iv s.f1, iv s.f2, iv s.p1, iv s.p2, iv s.w1, iv s.w2] 29)))
  have HS1 : Hid (Has (wb.alloc (.cells #[iv s.f1, iv s.f2, iv s.p1, iv s.p2, iv s.w1, iv s.w2] 29)) wb.heap.size 29 #[iv s.f1, iv s.f2, iv s.p1, iv s.p2, iv s.w1, iv s.w2]) := Has.new _ _ _
  have HZ1' := Lib.hid ((HZ1.out.below (below1 wb (.cells #[iv s.f1, iv s.f2, iv s.p1, iv s.p2, iv s.w1, iv s.w2] 29))).more (Nat.le_succ _))
  clear hb HZ1
  go_wp2_with fail
  refine (play16_any zs es A cap A' cap' _ ((hz.below HB1.out).more HB1.out.size) (ERow.more (he.below HB1.out) HB1.out.size) hl hl').mono ?_
  intro r wc hp
  obtain ⟨A2, cap2, rfl, hb, hz2⟩ := rplay_row hp
  clear hp
  rw [← HR.out] at hz2 ⊢
  simp only at hz2 ⊢
  have HB2 := Lib.hid (belowT HB1.out hb)
  have HS2 := Lib.hid (HS1.out.below hb HS1.out.lt)
  have HZ1b := Lib.hid ((HZ1'.out.below (hb.mono (by simp))).more (by have := hb.size; simpa using this))
  have HZ2 := Lib.hid hz2
  clear hb hz2 HR HS1 HZ1' HB1
  have HP3 : Hid (PX w (wc.alloc (.cells #[iv s.f1, iv s.f2, iv s.p1, iv s.p2, iv s.w1, iv s.w2] 29)) wb.heap.size wc.heap.size s A1 A2 zz) :=
    ⟨belowT HB2.out (below1 _ _), HS2.out.alloc _, Has.new _ _ _, HZ1b.out.step (below1 _ _), HZ2.out.step (below1 _ _)⟩
  clear HB2 HS2 HZ1b HZ2
  go_wp2_with fail
  refine (thin_any zs cover A cap _ (hz.step HP3.out.b) hl).mono ?_
  rintro r wd ⟨A3, cap3, rfl, hb, hi3⟩
  have HP4 := Lib.hid (HP3.out.step hb)
  have HI3 := Lib.hid hi3
  clear hb hi3 HP3
  obtain ⟨⟨tt, te⟩, hT⟩ : ∃ R, R = thinR zs cover := ⟨_, rfl⟩
  rw [← hT] at HLn HI3 ⊢
  simp only at HLn HI3 ⊢
  have HT := Lib.hid hT
  clear hT
  go_wp2_with fail
  refine (thin18_any zs cover A cap _ (hz.step HP4.out.b) hl).mono ?_
  rintro r we ⟨A4, cap4, rfl, hb, hi4⟩
  rw [← HT.out] at hi4 ⊢
  simp only at hi4 ⊢
  have HP := Lib.hid (HP4.out.step hb)
  have HI := Lib.hid (And.intro (HI3.out.step hb) hi4)
  clear hb hi4 HP4 HI3 HT
  go_wp2_with fail
  refine (same_any zz zz A1 A2 cap1 cap2 we HP.out.z1 HP.out.z2 HLn.out.1 HLn.out.1).mono ?_
  rintro r wf ⟨rfl, hb⟩
  rw [show decide (zz = zz) = true from by simp]
  have HPf := Lib.hid (HP.out.step hb)
  have HIf := Lib.hid (And.intro (HI.out.1.step hb) (HI.out.2.step hb))
  clear hb HP HI
  have x0 : wf.cell? ⟨wb.heap.size, 0, none⟩ = some (iv s.f1) := HPf.out.s1.cell 0
  have y0 : wf.cell? ⟨wc.heap.size, 0, none⟩ = some (iv s.f1) := HPf.out.s2.cell 0
  have x1 : wf.cell? ⟨wb.heap.size, 1, none⟩ = some (iv s.f2) := HPf.out.s1.cell 1
  have y1 : wf.cell? ⟨wc.heap.size, 1, none⟩ = some (iv s.f2) := HPf.out.s2.cell 1
  have x2 : wf.cell? ⟨wb.heap.size, 2, none⟩ = some (iv s.p1) := HPf.out.s1.cell 2
  have y2 : wf.cell? ⟨wc.heap.size, 2, none⟩ = some (iv s.p1) := HPf.out.s2.cell 2
  have x3 : wf.cell? ⟨wb.heap.size, 3, none⟩ = some (iv s.p2) := HPf.out.s1.cell 3
  have y3 : wf.cell? ⟨wc.heap.size, 3, none⟩ = some (iv s.p2) := HPf.out.s2.cell 3
  have x4 : wf.cell? ⟨wb.heap.size, 4, none⟩ = some (iv s.w1) := HPf.out.s1.cell 4
  have y4 : wf.cell? ⟨wc.heap.size, 4, none⟩ = some (iv s.w1) := HPf.out.s2.cell 4
  have x5 : wf.cell? ⟨wb.heap.size, 5, none⟩ = some (iv s.w2) := HPf.out.s1.cell 5
  have y5 : wf.cell? ⟨wc.heap.size, 5, none⟩ = some (iv s.w2) := HPf.out.s2.cell 5
  have xl := HPf.out.s1.lt
  have yl := HPf.out.s2.lt
  have hq := HQ.out
  go_wp2_with fail
  refine (ints_any tt tt A3 A4 cap3 cap4 wf HIf.out.1 HIf.out.2 HLn.out.2 HLn.out.2).mono ?_
  rintro r wg ⟨rfl, hb⟩
  rw [show decide (tt = tt) = true from by simp]
  have HBg := Lib.hid (belowT HPf.out.b hb)
  clear hb x0 x1 x2 x3 x4 x5 y0 y1 y2 y3 y4 y5 xl yl hq
  go_wp2_with fail
  refine (alive_any _).mono ?_
  rintro r wh ⟨rfl, hb⟩
  have HBh := Lib.hid (belowT HBg.out hb)
  go_wp2_with fail
  go_ret
  exact ⟨rfl, HBh.out⟩
end Go.Proofs.Ytogabjlhecnbbaa
