/- Contracts: inspect. -/
import Derived.Test.YtmclchaalmonnaaScE
import Derived.WalkMore
import Derived.ScopeJumps
namespace Go.Proofs.Ytmclchaalmonnaa
open Go.RowKit
/-- a number and an errno -/
def IEPost (r : Int × Int) (W : World) (e : Ending) (W' : World) : Prop := e = .returned (.tuple #[.int .i64 r.1, .int .i64 r.2]) ∧ Below W.heap.size W W'
theorem ie_ret {a b : Int} {r : Int × Int} (h : r = (a, b)) : Ending.returned (.tuple #[.int .i64 a, .int .i64 b]) = .returned (.tuple #[.int .i64 r.1, .int .i64 r.2]) := by rw [h]
section
variable {J : Act → World → Prop} {Q : Exit → Act → World → Prop} {a : Act} {w : World} {n : Nat}
theorem jump_ret : Exit.jump n J Q .ret a w = Q .ret a w := rfl
end
theorem skip_all {r : Ru} {l : List Sk} {n : Int} {k : Nat} (h : k < l.length) : ((l.drop k).all fun s => skB r s n) = (skB r l[k] n && (l.drop (k + 1)).all fun s => skB r s n) := by
  rw [List.drop_eq_getElem_cons h]; rfl
def flat42 (t : Array Value) : Array Value := #[t.getD 0 undef, t.getD 1 undef, t.getD 2 undef, t.getD 3 undef, t.getD 4 undef, t.getD 5 undef, t.getD 6 undef, t.getD 7 undef, t.getD 8 undef, t.getD 9 undef, t.getD 10 undef, t.getD 11 undef, t.getD 12 undef, t.getD 13 undef, t.getD 14 undef, t.getD 15 undef, t.getD 16 undef, t.getD 17 undef, t.getD 18 undef, t.getD 19 undef, t.getD 20 undef, t.getD 21 undef, t.getD 22 undef, t.getD 23 undef, t.getD 24 undef, t.getD 25 undef, t.getD 26 undef, t.getD 27 undef, t.getD 28 undef, t.getD 29 undef, t.getD 30 undef, t.getD 31 undef, t.getD 32 undef, t.getD 33 undef, t.getD 34 undef, t.getD 35 undef, t.getD 36 undef, t.getD 37 undef, t.getD 38 undef, t.getD 39 undef, t.getD 40 undef, t.getD 41 undef]
set_option maxRecDepth 100000 in
set_option maxHeartbeats 1000000 in
theorem inspect_any (r : Ru) (A : Option Addr) (c : Nat) (l : List Sk) (L : Option Addr) (k0 : Nat) (W : World) (hr : RuR W W.heap.size r A) (hs : SRow W W.heap.size L l) (hl : l.length ≤ big) :
    Calls Try.prog 39 #[ruv r A c, .slice L l.length k0] W (IEPost (inspP r l) W) := by
  have HB : Hid (RB W (W.alloc (.cells (ruc r A c) 24)) W.heap.size r A c) := Lib.hid (RB.start hr)
  have HS := Lib.hid hs
  have hl' : l.length ≤ 9223372036854775807 := hl
  have HL := Lib.hid hl
  have hn : ∀ b, inspP r l = b → Hid (inspP r l = b) := fun b h => h
  clear hr hs hl
  unfold ruv
  by_cases h1 : 40 < l.length
  · have h1' : (40 : Int) < l.length := by omega
    have HE := hn (0, 3) (by unfold inspP; rw [if_pos h1])
    clear hn h1
    go_enter Try.func39, Try.ntmps39
    go_upto_region 1 with fail
    generalize W.alloc (.cells (ruc r A c) 24) = w9 at HB ⊢
    go_step3
    go_wp2_with fail
    rw [Exit.noGoto_ret]
    refine bodyPost_ret (v := .tuple #[.int .i64 0, .int .i64 3]) (by simp [results, Try.results39, go_sem]) rfl ?_
    exact ⟨ie_ret HE.out, HB.out.b⟩
  have h1' : ¬ (40 : Int) < l.length := by omega
  have HI := Lib.hid (show ∀ b, (contestB r l = b) → inspP r l = if b then ((nP l : Int), 0) else (0, 1) from fun b h => by unfold inspP; rw [if_neg h1, h])
  clear h1 hn
  have HP := Lib.hid (fun w (h : RB W w W.heap.size r A c) => panel_any l L k0 w ((HS.out.below h.b).more h.b.size) HL.out)
  unfold PanPost at HP
  go_enter Try.func39, Try.ntmps39
  go_upto_region 1 with fail
  generalize W.alloc (.cells (ruc r A c) 24) = w9 at HB ⊢
  refine wp_scope_jumps 0 (fun a' w' => a'.defers = [] ∧ a'.tmps = flat42 a'.tmps ∧ Hid (Below W.heap.size W w' ∧ inspP r l = (0, 1))) (fun _ _ => 0) rfl ?_ ?_
  rotate_left
  · rintro ⟨t, d⟩ w' ⟨hd, ht, HJ⟩
    dsimp only at hd ht
    subst hd
    rw [ht]
    unfold flat42
    clear ht
    go_wp2_with fail
    simp only [jump_ret]
    refine bodyPost_ret (v := .tuple #[.int .i64 0, .int .i64 1]) (by simp [results, Try.results39, go_sem]) rfl ?_
    exact ⟨ie_ret HJ.out.2, HJ.out.1⟩
  go_wp2_with fail
  refine (HP.out _ HB.out).mono ?_
  rintro e w1 ⟨rfl, hb1⟩
  have H1 := Lib.hid (HB.out.step hb1)
  clear hb1 HB HP
  go_upto_region 4 with fail
  have x0 : w1.cell? ⟨W.heap.size, 0, none⟩ = some (.slice A r.bases.length c) := H1.out.fr.cell 0
  have x1 : w1.cell? ⟨W.heap.size, 1, none⟩ = some (.int .i64 r.factor) := H1.out.fr.cell 1
  have x2 : w1.cell? ⟨W.heap.size, 2, none⟩ = some (.int .i64 r.most) := H1.out.fr.cell 2
  have HR := Lib.hid (validRules_any r A c w1 (H1.out.rr.more H1.out.b.size))
  unfold ruv at HR
  have HGV : Hid (∀ b, b = (judgesP l).isSome → (b = false → panelB l = true) ∧ (b = true → panelB l = inB (nP l) 1 9)) := Lib.hid (by
    rintro b rfl
    unfold panelB nP
    cases judgesP l <;> simp)
  obtain ⟨gv, hgv⟩ : ∃ b, b = (judgesP l).isSome := ⟨_, rfl⟩
  obtain ⟨nj, hnj⟩ : ∃ b, b = (nP l : Int) := ⟨_, rfl⟩
  have HG2 := Lib.hid (HGV.out gv hgv)
  rw [← hgv, ← hnj]
  rw [← hnj] at HG2
  have HN := Lib.hid hnj
  have H0 := Lib.hid (fun w => within_any nj 1 9 w)
  clear hgv hnj HGV
  go_cut [18, 19, 20, 21, 22, 23, 24, 25, 26, 27, 28] (fun u18 u19 u20 u21 u22 u23 u24 u25 u26 u27 u28 wx => u28 = .bool (!(ruB r && panelB l)) ∧ Hid (RB W wx W.heap.size r A c))
  case first =>
    obtain ⟨rb, hrb⟩ : ∃ b, b = ruB r := ⟨_, rfl⟩
    obtain ⟨pb, hpb⟩ : ∃ b, b = panelB l := ⟨_, rfl⟩
    rw [← hrb] at HR
    rw [← hpb] at HG2
    have HRB := Lib.hid (And.intro hrb hpb)
    clear hrb hpb
    cases rb
    · go_wp2_with fail
      refine HR.out.mono ?_
      rintro e w2 ⟨rfl, hb2⟩
      have H2 := Lib.hid (H1.out.step hb2)
      clear hb2 x0 x1 x2
      go_wp2_with fail
      go_meet
      exact ⟨by rw [← HRB.out.1]; rfl, H2⟩
    · cases gv
      · have hp : pb = true := HG2.out.1 rfl
        have HPT := Lib.hid hp
        clear hp
        go_wp2_with fail
        refine HR.out.mono ?_
        rintro e w2 ⟨rfl, hb2⟩
        have H2 := Lib.hid (H1.out.step hb2)
        clear hb2 x0 x1 x2
        go_wp2_with fail
        go_meet
        exact ⟨by rw [← HRB.out.1, ← HRB.out.2, HPT.out]; rfl, H2⟩
      · have hp : pb = inB nj 1 9 := HG2.out.2 rfl
        rw [← hp] at H0
        clear hp HG2
        go_wp2_with fail
        refine HR.out.mono ?_
        rintro e w2 ⟨rfl, hb2⟩
        have H2 := Lib.hid (H1.out.step hb2)
        clear hb2 x0 x1 x2
        go_wp2_with fail
        refine (H0.out _).mono ?_
        rintro e w3 ⟨rfl, rfl⟩
        cases pb
        all_goals
          go_wp2_with fail
          go_meet
          exact ⟨by rw [← HRB.out.1, ← HRB.out.2]; rfl, H2⟩
  case rest =>
    obtain ⟨rfl, H2⟩ := hcut
    rename World => w2
    clear HR H0 HG2 H1 x0 x1 x2
    cases hrp : (ruB r && panelB l)
    · have HE : Hid (inspP r l = (0, 1)) := Lib.hid (by
        rw [HI.out false (by unfold contestB; rw [← Bool.and_assoc, hrp]; rfl)]; rfl)
      clear hrp
      go_wp2_with fail
      go_step3
      exact ⟨rfl, rfl, rfl, Lib.hid ⟨H2.out.b, HE.out⟩⟩
    have HA : Hid (∀ b, (l.all fun s => skB r s nj) = b → inspP r l = if b then (nj, 0) else (0, 1)) := Lib.hid fun b h => by
      rw [HI.out b (by unfold contestB; rw [← Bool.and_assoc, hrp, ← HN.out]; exact h), HN.out]
    clear hrp HI
    go_wp2_with fail
    go_loopg [31] l.length (fun gk i wr => ∃ k : Nat, k ≤ l.length ∧ l.length - k ≤ gk ∧ i = .int .i64 k ∧ Hid (RB W wr W.heap.size r A c ∧ (l.all fun s => skB r s nj) = (l.drop k).all fun s => skB r s nj))
    case atStart => exact ⟨0, Nat.zero_le _, Nat.le_refl _, rfl, Lib.hid ⟨H2.out, by simp⟩⟩
    case round =>
      obtain ⟨k, hk, hgk, rfl, HW⟩ := hrel
      by_cases hlt : k < l.length
      rotate_left
      · have hge : ¬ (k : Int) < l.length := by omega
        have HE : Hid (inspP r l = (nj, 0)) := Lib.hid (by
          rw [HA.out true (by rw [HW.out.2, List.drop_eq_nil_of_le (by omega)]; rfl)]; rfl)
        go_wp2_with fail
        simp only [jump_ret]
        refine bodyPost_ret (v := .tuple #[.int .i64 nj, .int .i64 0]) (by simp [results, Try.results39, go_sem]) rfl ?_
        exact ⟨ie_ret HE.out, HW.out.1.b⟩
      have hlt2 : (k : Int) < l.length := by omega
      obtain ⟨g, o, AC, AP, cc, cp, hg, hgs, hc, hsk⟩ := ((HS.out.below HW.out.1.b).more HW.out.1.b.size) k hlt
      have HSP := Lib.hid (skip_all (r := r) (n := nj) hlt)
      obtain ⟨s, hb⟩ : ∃ s, s = l[k] := ⟨_, rfl⟩
      rw [← hb] at hc hsk HSP
      have z0 : wr.cell? ⟨g, o + k * 3, none⟩ = some (.slice AC s.calls.length cc) := hc 0 (by omega)
      have z1 : wr.cell? ⟨g, o + k * 3 + 1, none⟩ = some (.slice AP s.parts.length cp) := hc 1 (by omega)
      have z2 : wr.cell? ⟨g, o + k * 3 + 2, none⟩ = some (.int .i64 s.over) := hc 2 (by omega)
      have HX : Hid (RB W (wr.alloc (.cells (skc s AC AP cc cp) 28)) W.heap.size r A c ∧ Has (wr.alloc (.cells (skc s AC AP cc cp) 28)) wr.heap.size 28 (skc s AC AP cc cp) ∧ SkR (wr.alloc (.cells (skc s AC AP cc cp) 28)) (wr.alloc (.cells (skc s AC AP cc cp) 28)).heap.size s AC AP) :=
        Lib.hid ⟨HW.out.1.step (below_one _ _), Has.new _ _ _, hsk.step (below_one wr _)⟩
      subst hg
      clear hb hgs hc hsk
      go_upto_region 8 with fail
      clear z0 z1 z2
      generalize wr.alloc (.cells (skc s AC AP cc cp) 28) = w4 at HX ⊢
      generalize wr.heap.size = D at HX ⊢
      have x0 : w4.cell? ⟨W.heap.size, 0, none⟩ = some (.slice A r.bases.length c) := HX.out.1.fr.cell 0
      have x1 : w4.cell? ⟨W.heap.size, 1, none⟩ = some (.int .i64 r.factor) := HX.out.1.fr.cell 1
      have x2 : w4.cell? ⟨W.heap.size, 2, none⟩ = some (.int .i64 r.most) := HX.out.1.fr.cell 2
      have y0 : w4.cell? ⟨D, 0, none⟩ = some (.slice AC s.calls.length cc) := HX.out.2.1.cell 0
      have y1 : w4.cell? ⟨D, 1, none⟩ = some (.slice AP s.parts.length cp) := HX.out.2.1.cell 1
      have y2 : w4.cell? ⟨D, 2, none⟩ = some (.int .i64 s.over) := HX.out.2.1.cell 2
      have HV := Lib.hid (validSkating_any r A c s AC AP cc cp nj w4 (HX.out.1.rr.more HX.out.1.b.size) HX.out.2.2)
      unfold ruv skv at HV
      cases hsb : skB r s nj <;> rw [hsb] at HV
      · have HE : Hid (inspP r l = (0, 1)) := Lib.hid (by rw [HA.out false (by rw [HW.out.2, HSP.out, hsb]; rfl)]; rfl)
        clear hsb HSP
        go_wp2_with fail
        refine HV.out.mono ?_
        rintro e w5 ⟨rfl, hb5⟩
        have H5 := Lib.hid (HX.out.1.step hb5)
        clear hb5 x0 x1 x2 y0 y1 y2
        go_wp2_with fail
        go_step3
        exact ⟨rfl, rfl, rfl, Lib.hid ⟨H5.out.b, HE.out⟩⟩
      · have HNX : Hid ((l.all fun s => skB r s nj) = (l.drop (k + 1)).all fun s => skB r s nj) := Lib.hid (by rw [HW.out.2, HSP.out, hsb]; rfl)
        clear hsb HSP
        go_wp2_with fail
        refine HV.out.mono ?_
        rintro e w5 ⟨rfl, hb5⟩
        have H5 := Lib.hid (HX.out.1.step hb5)
        clear hb5 x0 x1 x2 y0 y1 y2
        go_wp2_with fail
        go_roundg (l.length - (k + 1))
        case measure => omega
        case rel => exact ⟨k + 1, by omega, Nat.le_refl _, by go_num, Lib.hid ⟨H5.out, HNX.out⟩⟩
end Go.Proofs.Ytmclchaalmonnaa
