/- The law that litres and heat are conserved: the walk. -/
import Derived.Test.YtjfopmjphiddiaaLwD
namespace Go.Proofs.Ytjfopmjphiddiaa
open Go.RowKit Go.Shelf
/-- the box of the brine that came in, and what came in -/
structure Bxb (w W : World) (t : Sl) (ps : List Pp) (A : Option Addr) (cap : Nat) (heat hroom : Int) (l : List Ev) (A' : Option Addr) : Prop where
  bl : Below w.heap.size w W
  b : Has W w.heap.size 26 (bcells t A ps.length cap heat hroom)
  p : PRow W W.heap.size A ps
  e : ERow W W.heap.size A' l
theorem Bxb.step {w W W' : World} {t : Sl} {ps : List Pp} {A : Option Addr} {cap : Nat} {heat hroom : Int} {l : List Ev} {A' : Option Addr} (h : Bxb w W t ps A cap heat hroom l A') (hb : Below W.heap.size W W') : Bxb w W' t ps A cap heat hroom l A' :=
  ⟨h.bl.trans (hb.mono h.bl.size), h.b.below hb h.b.lt, h.p.step hb, h.e.step hb⟩
theorem Bxb.start (w : World) (t : Sl) (ps : List Pp) (A : Option Addr) (cap : Nat) (heat hroom : Int) (l : List Ev) (A' : Option Addr) (hr : PRow w w.heap.size A ps) (he : ERow w w.heap.size A' l) : Bxb w (w.alloc (.cells (bcells t A ps.length cap heat hroom) 26)) t ps A cap heat hroom l A' :=
  ⟨below_one _ _, Has.new _ _ _, hr.step (below_one _ _), he.step (below_one _ _)⟩
abbrev scells (s : Sm) : Array Value := #[.int .i64 s.wa, .int .i64 s.lv, .int .i64 s.lh, .int .i64 s.fv, .int .i64 s.fh, .int .i64 s.ch, .int .i64 s.ai, .int .i64 s.us, .int .i64 s.bo]
theorem same_zero (W : World) : Calls Try.prog 18 #[zbr, zbr] W fun e W' => e = .returned (.bool true) ∧ Below W.heap.size W W' :=
  same_any sl0 [] 0 0 none none 0 0 W (prow_nil _ _ _) (prow_nil _ _ _) (by decide) (by simp)
structure Kp (w W : World) (t : Sl) (ps : List Pp) (A : Option Addr) (cap : Nat) (heat hroom : Int) (l : List Ev) (A' : Option Addr) (z : Yx) (A5 : Option Addr) (cap5 B5 B9 : Nat) (F : Sl) : Prop where
  x : Bxb w W t ps A cap heat hroom l A'
  e : Has W B5 26 (bcells z.t A5 z.ps.length cap5 z.r.heat z.r.room)
  s : Has W (B5 + 1) 31 (scells z.r.s)
  q : PRow W W.heap.size A5 z.ps
  f : Has W B9 23 #[.int .i64 F.v, .int .i64 F.h]
theorem Kp.step {w W W' : World} {t : Sl} {ps : List Pp} {A : Option Addr} {cap : Nat} {heat hroom : Int} {l : List Ev} {A' : Option Addr} {z : Yx} {A5 : Option Addr} {cap5 B5 B9 : Nat} {F : Sl} (h : Kp w W t ps A cap heat hroom l A' z A5 cap5 B5 B9 F) (hb : Below W.heap.size W W') : Kp w W' t ps A cap heat hroom l A' z A5 cap5 B5 B9 F :=
  ⟨h.x.step hb, h.e.below hb h.e.lt, h.s.below hb h.s.lt, h.q.step hb, h.f.below hb h.f.lt⟩
theorem Kp.keep {w W : World} {t : Sl} {ps : List Pp} {A : Option Addr} {cap : Nat} {heat hroom : Int} {l : List Ev} {A' : Option Addr} {z : Yx} {A5 : Option Addr} {cap5 B5 B9 : Nat} {F : Sl} (h : Kp w W t ps A cap heat hroom l A' z A5 cap5 B5 B9 F) :
    W.cell? ⟨w.heap.size, 0, none⟩ = some (.int .i64 t.v) ∧ W.cell? ⟨w.heap.size, 1, none⟩ = some (.int .i64 t.h) ∧ W.cell? ⟨w.heap.size, 2, none⟩ = some (.slice A ps.length cap) ∧ W.cell? ⟨w.heap.size, 3, none⟩ = some (.int .i64 heat) ∧ W.cell? ⟨w.heap.size, 4, none⟩ = some (.int .i64 hroom) ∧ W.cell? ⟨B5, 0, none⟩ = some (.int .i64 z.t.v) ∧ W.cell? ⟨B5, 1, none⟩ = some (.int .i64 z.t.h) ∧ W.cell? ⟨B5, 2, none⟩ = some (.slice A5 z.ps.length cap5) ∧ W.cell? ⟨B5, 3, none⟩ = some (.int .i64 z.r.heat) ∧ W.cell? ⟨B5, 4, none⟩ = some (.int .i64 z.r.room) ∧ W.cell? ⟨B9, 0, none⟩ = some (.int .i64 F.v) ∧ W.cell? ⟨B9, 1, none⟩ = some (.int .i64 F.h) :=
  ⟨h.x.b.cell 0, h.x.b.cell 1, h.x.b.cell 2, h.x.b.cell 3, h.x.b.cell 4, h.e.cell 0, h.e.cell 1, h.e.cell 2, h.e.cell 3, h.e.cell 4, h.f.cell 0, h.f.cell 1⟩
set_option maxRecDepth 100000 in
set_option maxHeartbeats 4000000 in
theorem keepsLaw_any (t : Sl) (ps : List Pp) (l : List Ev) (A A' : Option Addr) (cap cap' : Nat) (heat hroom : Int) (W : World) (hr : PRow W W.heap.size A ps) (he : ERow W W.heap.size A' l) (hm : ps.length ≤ maxLen) (hml : ∀ p ∈ ps, p.l.length ≤ maxLen) (hl : l.length ≤ 9223372036854775807) :
    Calls Try.prog 6 #[brv t A ps.length cap heat hroom, .slice A' l.length cap'] W fun e W' => e = .returned (.bool true) ∧ Below W.heap.size W W' := by
  have hm2 : ps.length ≤ 9223372036854775807 := hm
  have hml2 : ∀ p ∈ ps, p.l.length ≤ 9223372036854775807 := hml
  have H0 := Lib.hid (Bxb.start W t ps A cap heat hroom l A' hr he)
  have HM := Lib.hid (And.intro hm (And.intro hml hml2))
  clear hr he hm hml hml2
  cases hg : greatB ps
  case true =>
    have HG := Lib.hid hg
    clear hg
    go_enter Try.func6, Try.ntmps6
    go_wp2_with fail
    refine (great_any t ps heat hroom A cap _ H0.out.p hm2).mono ?_
    rw [HG.out]
    rintro e w1 ⟨rfl, hb1⟩
    have H1 := Lib.hid (H0.out.step hb1)
    clear hb1
    go_wp2_with fail
    refine (alive_any _).mono ?_
    rintro e wb ⟨rfl, hb⟩
    have HB := Lib.hid (H1.out.bl.trans (hb.mono H1.out.bl.size))
    clear hb
    go_wp2_with fail
    go_ret
    exact ⟨rfl, HB.out⟩
  have HG := Lib.hid hg
  clear hg
  by_cases h60 : (60 : Int) < l.length
  · go_enter Try.func6, Try.ntmps6
    go_wp2_with fail
    refine (great_any t ps heat hroom A cap _ H0.out.p hm2).mono ?_
    rw [HG.out]
    rintro e w1 ⟨rfl, hb1⟩
    have H1 := Lib.hid (H0.out.step hb1)
    clear hb1
    go_wp2_with fail
    refine (alive_any _).mono ?_
    rintro e wb ⟨rfl, hb⟩
    have HB := Lib.hid (H1.out.bl.trans (hb.mono H1.out.bl.size))
    clear hb
    go_wp2_with fail
    go_ret
    exact ⟨rfl, HB.out⟩
  have h60' : decide ((60 : Int) < l.length) = false := by simpa using h60
  go_enter Try.func6, Try.ntmps6
  go_wp2_with fail
  refine (great_any t ps heat hroom A cap _ H0.out.p hm2).mono ?_
  rw [HG.out]
  rintro e w1 ⟨rfl, hb1⟩
  have H1 := Lib.hid (H0.out.step hb1)
  have c0 : w1.cell? ⟨W.heap.size, 0, none⟩ = some (.int .i64 t.v) := H1.out.b.cell 0
  have c1 : w1.cell? ⟨W.heap.size, 1, none⟩ = some (.int .i64 t.h) := H1.out.b.cell 1
  have c2 : w1.cell? ⟨W.heap.size, 2, none⟩ = some (.slice A ps.length cap) := H1.out.b.cell 2
  have c3 : w1.cell? ⟨W.heap.size, 3, none⟩ = some (.int .i64 heat) := H1.out.b.cell 3
  have c4 : w1.cell? ⟨W.heap.size, 4, none⟩ = some (.int .i64 hroom) := H1.out.b.cell 4
  clear hb1
  go_wp2_with fail
  refine (play_any t ps l A A' cap cap' heat hroom w1 H1.out.p H1.out.e HM.out.1 HM.out.2.1 (by decide) hl).mono fun r w2 hpl0 => ?_
  have hpl := play_row hpl0
  clear hpl0
  have hb2 := hpl.1
  cases hx : (playR t ps heat hroom l).1
  case none =>
    obtain ⟨-, hpl⟩ := hpl
    rw [hx] at hpl
    subst hpl
    obtain ⟨hi, hne⟩ := play_none hx
    obtain ⟨i, hi0⟩ : ∃ i, i = (playR t ps heat hroom l).2.1 := ⟨_, rfl⟩
    obtain ⟨x, hx0⟩ : ∃ x, x = (playR t ps heat hroom l).2.2 := ⟨_, rfl⟩
    rw [← hi0] at hi ⊢
    rw [← hx0] at hne ⊢
    have hq : (x != 0) = true := by simpa using hne
    have hi' : (i : Int) ≤ l.length := by omega
    have hi2 : (0 : Int) ≤ i := by omega
    have H2 := Lib.hid (H1.out.bl.trans (hb2.mono H1.out.bl.size))
    clear hx hi hne hi0 hx0 hb2
    have hq31 : ∀ w, (binOp .eql 31 zsm zsm).run Try.prog w = .ok (.bool true) w := fun w => eql31s Sm.zero w
    clear c0 c1 c2 c3 c4
    have hS0 : Has ((w2.alloc (.cells #[.int .i64 0, .int .i64 0, .slice none 0 0, .int .i64 0, .int .i64 0] 26)).alloc (.cells #[.int .i64 0, .int .i64 0, .int .i64 0, .int .i64 0, .int .i64 0, .int .i64 0, .int .i64 0, .int .i64 0, .int .i64 0] 31)) (w2.heap.size + 1) 31 #[.int .i64 0, .int .i64 0, .int .i64 0, .int .i64 0, .int .i64 0, .int .i64 0, .int .i64 0, .int .i64 0, .int .i64 0] := Has.newAt (by simp)
    have hB0 : Below w2.heap.size w2 ((w2.alloc (.cells #[.int .i64 0, .int .i64 0, .slice none 0 0, .int .i64 0, .int .i64 0] 26)).alloc (.cells #[.int .i64 0, .int .i64 0, .int .i64 0, .int .i64 0, .int .i64 0, .int .i64 0, .int .i64 0, .int .i64 0, .int .i64 0] 31)) := (below_one _ _).alloc (by simp) _
    have HS0 := Lib.hid (And.intro hS0 hB0)
    clear hS0 hB0
    go_wp2_with fail
    refine (same_zero _).mono ?_
    rintro e w3 ⟨rfl, hb3⟩
    have hS3 := HS0.out.1.below hb3 HS0.out.1.lt
    have s0 : w3.cell? ⟨w2.heap.size + 1, 0, none⟩ = some (.int .i64 0) := hS3.cell 0
    have s1 : w3.cell? ⟨w2.heap.size + 1, 1, none⟩ = some (.int .i64 0) := hS3.cell 1
    have s2 : w3.cell? ⟨w2.heap.size + 1, 2, none⟩ = some (.int .i64 0) := hS3.cell 2
    have s3 : w3.cell? ⟨w2.heap.size + 1, 3, none⟩ = some (.int .i64 0) := hS3.cell 3
    have s4 : w3.cell? ⟨w2.heap.size + 1, 4, none⟩ = some (.int .i64 0) := hS3.cell 4
    have s5 : w3.cell? ⟨w2.heap.size + 1, 5, none⟩ = some (.int .i64 0) := hS3.cell 5
    have s6 : w3.cell? ⟨w2.heap.size + 1, 6, none⟩ = some (.int .i64 0) := hS3.cell 6
    have s7 : w3.cell? ⟨w2.heap.size + 1, 7, none⟩ = some (.int .i64 0) := hS3.cell 7
    have s8 : w3.cell? ⟨w2.heap.size + 1, 8, none⟩ = some (.int .i64 0) := hS3.cell 8
    have sl := hS3.lt
    have H3 := Lib.hid (H2.out.trans ((HS0.out.2.trans (hb3.mono HS0.out.2.size)).mono H2.out.size))
    clear hS3 hb3
    go_wp2_with fail
    refine (alive_any _).mono ?_
    rintro e wb ⟨rfl, hb⟩
    have HB := Lib.hid (H3.out.trans (hb.mono H3.out.size))
    clear hb
    go_wp2_with fail
    go_ret
    exact ⟨rfl, HB.out⟩
  case some z =>
    obtain ⟨-, hpl⟩ := hpl
    rw [hx] at hpl
    obtain ⟨A5, cap5, rfl, hp5⟩ := hpl
    obtain ⟨hv, hbd, hz, hidx, her, h256⟩ := play_some hx
    have hK := kfacts hv hbd h256
    rw [← hz] at hK
    rw [hidx, her]
    have HK := Lib.hid (And.intro hK hv)
    clear hK hv hbd hz hidx her h256 hx
    have hC2 := H1.out.step hb2
    have c0 : w2.cell? ⟨W.heap.size, 0, none⟩ = some (.int .i64 t.v) := hC2.b.cell 0
    have c1 : w2.cell? ⟨W.heap.size, 1, none⟩ = some (.int .i64 t.h) := hC2.b.cell 1
    have c2 : w2.cell? ⟨W.heap.size, 2, none⟩ = some (.slice A ps.length cap) := hC2.b.cell 2
    have c3 : w2.cell? ⟨W.heap.size, 3, none⟩ = some (.int .i64 heat) := hC2.b.cell 3
    have c4 : w2.cell? ⟨W.heap.size, 4, none⟩ = some (.int .i64 hroom) := hC2.b.cell 4
    have cl := hC2.b.lt
    have hB0 : Below w2.heap.size w2 ((w2.alloc (.cells (bcells z.t A5 z.ps.length cap5 z.r.heat z.r.room) 26)).alloc (.cells (scells z.r.s) 31)) := (below_one _ _).alloc (by simp) _
    have hE0 : Has ((w2.alloc (.cells (bcells z.t A5 z.ps.length cap5 z.r.heat z.r.room) 26)).alloc (.cells (scells z.r.s) 31)) w2.heap.size 26 (bcells z.t A5 z.ps.length cap5 z.r.heat z.r.room) := (Has.new _ _ _).alloc _
    have hS0 : Has ((w2.alloc (.cells (bcells z.t A5 z.ps.length cap5 z.r.heat z.r.room) 26)).alloc (.cells (scells z.r.s) 31)) (w2.heap.size + 1) 31 (scells z.r.s) := Has.newAt (by simp)
    have H2 := Lib.hid (And.intro (hC2.step hB0) (And.intro hE0 (And.intro hS0 (hp5.step hB0))))
    have hs12 := hb2.size
    clear hB0 hE0 hS0 hp5 hb2 hC2
    go_wp2_with fail
    obtain ⟨F, hF⟩ : ∃ F, F = allV t ps heat := ⟨_, rfl⟩
    have HF := Lib.hid hF
    have hT : totalR t ps heat hroom = (F, 0) := by unfold totalR; rw [if_pos HK.out.2, hF]; rfl
    have HT := Lib.hid hT
    clear hT hF c0 c1 c2 c3 c4 cl
    refine (total_any t ps A cap heat hroom _ H2.out.1.p HM.out.1 HM.out.2.1).mono ?_
    rw [HT.out]
    rintro e w3 ⟨rfl, hb3⟩
    have H3 : Hid (Kp W (w3.alloc (.cells #[.int .i64 F.v, .int .i64 F.h] 23)) t ps A cap heat hroom l A' z A5 cap5 w2.heap.size w3.heap.size F) := by
      have hb := hb3.trans ((below_one w3 (.cells #[.int .i64 F.v, .int .i64 F.h] 23)).mono hb3.size)
      exact ⟨H2.out.1.step hb, H2.out.2.1.below hb H2.out.2.1.lt, H2.out.2.2.1.below hb H2.out.2.2.1.lt, H2.out.2.2.2.step hb, Has.new _ _ _⟩
    have HC3 := Lib.hid (H2.out.1.step hb3)
    have c0 : w3.cell? ⟨W.heap.size, 0, none⟩ = some (.int .i64 t.v) := HC3.out.b.cell 0
    have c1 : w3.cell? ⟨W.heap.size, 1, none⟩ = some (.int .i64 t.h) := HC3.out.b.cell 1
    have c2 : w3.cell? ⟨W.heap.size, 2, none⟩ = some (.slice A ps.length cap) := HC3.out.b.cell 2
    have c3 : w3.cell? ⟨W.heap.size, 3, none⟩ = some (.int .i64 heat) := HC3.out.b.cell 3
    have c4 : w3.cell? ⟨W.heap.size, 4, none⟩ = some (.int .i64 hroom) := HC3.out.b.cell 4
    have cl := HC3.out.b.lt
    clear hb3
    have k1 := HK.out.1.h0
    have k2 := HK.out.1.t0
    have hqn : ((l.length : Int) != (l.length : Int)) = false := by simp
    have hqF := neq23s F
    have q1 : ((z.ps.length : Int) != (ps.length : Int)) = false := by simp [HK.out.1.len]
    have q2 : (z.r.room != hroom) = false := by simp [HK.out.1.hroom]
    have q3 : decide (z.r.heat < 0) = false := by simp; omega
    have q4 : decide (z.r.room < z.r.heat) = false := by simp; omega
    have q5 : decide (z.t.v < 0) = false := by simp; omega
    have q6 : decide (z.t.h < 0) = false := by simp; omega
    have hdry : ((z.t.v == 0) = true ∧ (z.t.h != 0) = false) ∨ (z.t.v == 0) = false := by
      have := HK.out.1.dry
      by_cases h : z.t.v = 0
      · exact .inl ⟨by simp [h], by simp; omega⟩
      · exact .inr (by simp [h])
    clear k1 k2
    have HKK := Lib.hid hdry
    clear hdry
    go_wp2_with fail
    simp only [List.append]
    clear c0 c1 c2 c3 c4 cl
    have HKd := Lib.hid (H3.out.step (below_dr (Below.refl _ _)))
    have cl2 := H3.out.x.b.lt
    have el2 := H3.out.e.lt
    go_cut [132] (fun b wx => b = .bool false ∧ Hid (Kp W wx t ps A cap heat hroom l A' z A5 cap5 w2.heap.size w3.heap.size F))
    case first =>
      rcases HKK.out with ⟨d1, d2⟩ | d1
      · skip
        refine wp_region_late (fun w' : World => w'.cell? ⟨W.heap.size, 0, none⟩ = some (.int .i64 t.v) ∧ w'.cell? ⟨W.heap.size, 1, none⟩ = some (.int .i64 t.h) ∧ w'.cell? ⟨W.heap.size, 2, none⟩ = some (.slice A ps.length cap) ∧ w'.cell? ⟨W.heap.size, 3, none⟩ = some (.int .i64 heat) ∧ w'.cell? ⟨W.heap.size, 4, none⟩ = some (.int .i64 hroom) ∧ w'.cell? ⟨w2.heap.size, 0, none⟩ = some (.int .i64 z.t.v) ∧ w'.cell? ⟨w2.heap.size, 1, none⟩ = some (.int .i64 z.t.h) ∧ w'.cell? ⟨w2.heap.size, 2, none⟩ = some (.slice A5 z.ps.length cap5) ∧ w'.cell? ⟨w2.heap.size, 3, none⟩ = some (.int .i64 z.r.heat) ∧ w'.cell? ⟨w2.heap.size, 4, none⟩ = some (.int .i64 z.r.room) ∧ w'.cell? ⟨w3.heap.size, 0, none⟩ = some (.int .i64 F.v) ∧ w'.cell? ⟨w3.heap.size, 1, none⟩ = some (.int .i64 F.h)) [] (by kernel_rfl) ?_
        refine wpLate_take (i := 0) (oi := ?oia0) (v := ?va0) [] ?hia0 (by kernel_rfl) (by kernel_rfl) (by kernel_rfl) (by kernel_rfl) (by kernel_rfl) ?hQa0 (Or.inl ⟨?hwa0, ?hya0⟩) HKd.out.keep ?resta0
        case hia0 => (simp only [List.getElem?_toArray, List.getElem?_cons_zero]; rfl)
        case hQa0 => exact fun _ _ _ h => h
        case hwa0 => rfl
        case hya0 =>
          intro w' hSw
          obtain ⟨r0, r1, r2, r3, r4, r5, r6, r7, r8, r9, r10, r11⟩ := hSw
          go_simp
          try exact rfl
        simp only [Act.put, List.setIfInBounds_toArray, List.set_cons_zero, List.set_cons_succ]
        refine wpLate_one (i := 1) (o := ?oa1) (by kernel_rfl) ?hoa1 ?hka1
        case hoa1 => (simp only [List.getElem?_toArray, List.getElem?_cons_zero, List.getElem?_cons_succ]; rfl)
        intro K hK
        go_simp
        refine (brine_any t ps heat hroom A cap _ HKd.out.x.p hm2 HM.out.2.2).mono ?_
        rw [HK.out.2]
        rintro e w4 ⟨rfl, hb4⟩
        have HKn := Lib.hid (HKd.out.step hb4)
        clear hb4 HKd
        try (go_wp2_with fail)
        refine hK.out _ _ (fun _ => HKn.out.keep) ?_
        clear hK K
        try simp only [Act.put, List.setIfInBounds_toArray, List.set_cons_zero, List.set_cons_succ]
        refine wpLate_take (i := 2) (oi := ?oia2) (v := ?va2) [] ?hia2 (by kernel_rfl) (by kernel_rfl) (by kernel_rfl) (by kernel_rfl) (by kernel_rfl) ?hQa2 (Or.inl ⟨?hwa2, ?hya2⟩) HKn.out.keep ?resta2
        case hia2 => (simp only [List.getElem?_toArray, List.getElem?_cons_zero, List.getElem?_cons_succ]; rfl)
        case hQa2 => exact fun _ _ _ h => h
        case hwa2 => rfl
        case hya2 =>
          intro w' hSw
          obtain ⟨r0, r1, r2, r3, r4, r5, r6, r7, r8, r9, r10, r11⟩ := hSw
          go_simp
          try exact rfl
        simp only [Act.put, List.setIfInBounds_toArray, List.set_cons_zero, List.set_cons_succ]
        refine wpLate_take (i := 3) (oi := ?oia3) (v := ?va3) [] ?hia3 (by kernel_rfl) (by kernel_rfl) (by kernel_rfl) (by kernel_rfl) (by kernel_rfl) ?hQa3 (Or.inl ⟨?hwa3, ?hya3⟩) HKn.out.keep ?resta3
        case hia3 => (simp only [List.getElem?_toArray, List.getElem?_cons_zero, List.getElem?_cons_succ]; rfl)
        case hQa3 => exact fun _ _ _ h => h
        case hwa3 => rfl
        case hya3 =>
          intro w' hSw
          obtain ⟨r0, r1, r2, r3, r4, r5, r6, r7, r8, r9, r10, r11⟩ := hSw
          go_simp
          try exact rfl
        simp only [Act.put, List.setIfInBounds_toArray, List.set_cons_zero, List.set_cons_succ]
        refine wpLate_take (i := 4) (oi := ?oia4) (v := ?va4) [] ?hia4 (by kernel_rfl) (by kernel_rfl) (by kernel_rfl) (by kernel_rfl) (by kernel_rfl) ?hQa4 (Or.inl ⟨?hwa4, ?hya4⟩) HKn.out.keep ?resta4
        case hia4 => (simp only [List.getElem?_toArray, List.getElem?_cons_zero, List.getElem?_cons_succ]; rfl)
        case hQa4 => exact fun _ _ _ h => h
        case hwa4 => rfl
        case hya4 =>
          intro w' hSw
          obtain ⟨r0, r1, r2, r3, r4, r5, r6, r7, r8, r9, r10, r11⟩ := hSw
          go_simp
          try exact rfl
        simp only [Act.put, List.setIfInBounds_toArray, List.set_cons_zero, List.set_cons_succ]
        refine wpLate_take (i := 5) (oi := ?oia5) (v := ?va5) [] ?hia5 (by kernel_rfl) (by kernel_rfl) (by kernel_rfl) (by kernel_rfl) (by kernel_rfl) ?hQa5 (Or.inl ⟨?hwa5, ?hya5⟩) HKn.out.keep ?resta5
        case hia5 => (simp only [List.getElem?_toArray, List.getElem?_cons_zero, List.getElem?_cons_succ]; rfl)
        case hQa5 => exact fun _ _ _ h => h
        case hwa5 => rfl
        case hya5 =>
          intro w' hSw
          obtain ⟨r0, r1, r2, r3, r4, r5, r6, r7, r8, r9, r10, r11⟩ := hSw
          go_simp
          try exact rfl
        simp only [Act.put, List.setIfInBounds_toArray, List.set_cons_zero, List.set_cons_succ]
        refine wpLate_take (i := 6) (oi := ?oia6) (v := ?va6) [] ?hia6 (by kernel_rfl) (by kernel_rfl) (by kernel_rfl) (by kernel_rfl) (by kernel_rfl) ?hQa6 (Or.inl ⟨?hwa6, ?hya6⟩) HKn.out.keep ?resta6
        case hia6 => (simp only [List.getElem?_toArray, List.getElem?_cons_zero, List.getElem?_cons_succ]; rfl)
        case hQa6 => exact fun _ _ _ h => h
        case hwa6 => rfl
        case hya6 =>
          intro w' hSw
          obtain ⟨r0, r1, r2, r3, r4, r5, r6, r7, r8, r9, r10, r11⟩ := hSw
          go_simp
          try exact rfl
        simp only [Act.put, List.setIfInBounds_toArray, List.set_cons_zero, List.set_cons_succ]
        refine wpLate_take (i := 7) (oi := ?oia7) (v := ?va7) [] ?hia7 (by kernel_rfl) (by kernel_rfl) (by kernel_rfl) (by kernel_rfl) (by kernel_rfl) ?hQa7 (Or.inl ⟨?hwa7, ?hya7⟩) HKn.out.keep ?resta7
        case hia7 => (simp only [List.getElem?_toArray, List.getElem?_cons_zero, List.getElem?_cons_succ]; rfl)
        case hQa7 => exact fun _ _ _ h => h
        case hwa7 => rfl
        case hya7 =>
          intro w' hSw
          obtain ⟨r0, r1, r2, r3, r4, r5, r6, r7, r8, r9, r10, r11⟩ := hSw
          go_simp
          try exact rfl
        simp only [Act.put, List.setIfInBounds_toArray, List.set_cons_zero, List.set_cons_succ]
        refine wpLate_take (i := 8) (oi := ?oia8) (v := ?va8) [] ?hia8 (by kernel_rfl) (by kernel_rfl) (by kernel_rfl) (by kernel_rfl) (by kernel_rfl) ?hQa8 (Or.inl ⟨?hwa8, ?hya8⟩) HKn.out.keep ?resta8
        case hia8 => (simp only [List.getElem?_toArray, List.getElem?_cons_zero, List.getElem?_cons_succ]; rfl)
        case hQa8 => exact fun _ _ _ h => h
        case hwa8 => rfl
        case hya8 =>
          intro w' hSw
          obtain ⟨r0, r1, r2, r3, r4, r5, r6, r7, r8, r9, r10, r11⟩ := hSw
          go_simp
          try exact rfl
        simp only [Act.put, List.setIfInBounds_toArray, List.set_cons_zero, List.set_cons_succ]
        refine wpLate_take (i := 9) (oi := ?oia9) (v := ?va9) [] ?hia9 (by kernel_rfl) (by kernel_rfl) (by kernel_rfl) (by kernel_rfl) (by kernel_rfl) ?hQa9 (Or.inl ⟨?hwa9, ?hya9⟩) HKn.out.keep ?resta9
        case hia9 => (simp only [List.getElem?_toArray, List.getElem?_cons_zero, List.getElem?_cons_succ]; rfl)
        case hQa9 => exact fun _ _ _ h => h
        case hwa9 => rfl
        case hya9 =>
          intro w' hSw
          obtain ⟨r0, r1, r2, r3, r4, r5, r6, r7, r8, r9, r10, r11⟩ := hSw
          go_simp
          try exact rfl
        simp only [Act.put, List.setIfInBounds_toArray, List.set_cons_zero, List.set_cons_succ]
        refine wpLate_take (i := 10) (oi := ?oia10) (v := ?va10) [] ?hia10 (by kernel_rfl) (by kernel_rfl) (by kernel_rfl) (by kernel_rfl) (by kernel_rfl) ?hQa10 (Or.inl ⟨?hwa10, ?hya10⟩) HKn.out.keep ?resta10
        case hia10 => (simp only [List.getElem?_toArray, List.getElem?_cons_zero, List.getElem?_cons_succ]; rfl)
        case hQa10 => exact fun _ _ _ h => h
        case hwa10 => rfl
        case hya10 =>
          intro w' hSw
          obtain ⟨r0, r1, r2, r3, r4, r5, r6, r7, r8, r9, r10, r11⟩ := hSw
          go_simp
          try exact rfl
        simp only [Act.put, List.setIfInBounds_toArray, List.set_cons_zero, List.set_cons_succ]
        refine wpLate_take (i := 11) (oi := ?oia11) (v := ?va11) [] ?hia11 (by kernel_rfl) (by kernel_rfl) (by kernel_rfl) (by kernel_rfl) (by kernel_rfl) ?hQa11 (Or.inl ⟨?hwa11, ?hya11⟩) HKn.out.keep ?resta11
        case hia11 => (simp only [List.getElem?_toArray, List.getElem?_cons_zero, List.getElem?_cons_succ]; rfl)
        case hQa11 => exact fun _ _ _ h => h
        case hwa11 => rfl
        case hya11 =>
          intro w' hSw
          obtain ⟨r0, r1, r2, r3, r4, r5, r6, r7, r8, r9, r10, r11⟩ := hSw
          go_simp
          try exact rfl
        simp only [Act.put, List.setIfInBounds_toArray, List.set_cons_zero, List.set_cons_succ]
        refine wpLate_take (i := 12) (oi := ?oia12) (v := ?va12) [] ?hia12 (by kernel_rfl) (by kernel_rfl) (by kernel_rfl) (by kernel_rfl) (by kernel_rfl) ?hQa12 (Or.inl ⟨?hwa12, ?hya12⟩) HKn.out.keep ?resta12
        case hia12 => (simp only [List.getElem?_toArray, List.getElem?_cons_zero, List.getElem?_cons_succ]; rfl)
        case hQa12 => exact fun _ _ _ h => h
        case hwa12 => rfl
        case hya12 =>
          intro w' hSw
          obtain ⟨r0, r1, r2, r3, r4, r5, r6, r7, r8, r9, r10, r11⟩ := hSw
          go_simp
          try exact rfl
        simp only [Act.put, List.setIfInBounds_toArray, List.set_cons_zero, List.set_cons_succ]
        refine wpLate_take (i := 13) (oi := ?oia13) (v := ?va13) [] ?hia13 (by kernel_rfl) (by kernel_rfl) (by kernel_rfl) (by kernel_rfl) (by kernel_rfl) ?hQa13 (Or.inl ⟨?hwa13, ?hya13⟩) HKn.out.keep ?resta13
        case hia13 => (simp only [List.getElem?_toArray, List.getElem?_cons_zero, List.getElem?_cons_succ]; rfl)
        case hQa13 => exact fun _ _ _ h => h
        case hwa13 => rfl
        case hya13 =>
          intro w' hSw
          obtain ⟨r0, r1, r2, r3, r4, r5, r6, r7, r8, r9, r10, r11⟩ := hSw
          go_simp
          try exact rfl
        simp only [Act.put, List.setIfInBounds_toArray, List.set_cons_zero, List.set_cons_succ]
        refine wpLate_take (i := 14) (oi := ?oia14) (v := ?va14) [] ?hia14 (by kernel_rfl) (by kernel_rfl) (by kernel_rfl) (by kernel_rfl) (by kernel_rfl) ?hQa14 (Or.inl ⟨?hwa14, ?hya14⟩) HKn.out.keep ?resta14
        case hia14 => (simp only [List.getElem?_toArray, List.getElem?_cons_zero, List.getElem?_cons_succ]; rfl)
        case hQa14 => exact fun _ _ _ h => h
        case hwa14 => rfl
        case hya14 =>
          intro w' hSw
          obtain ⟨r0, r1, r2, r3, r4, r5, r6, r7, r8, r9, r10, r11⟩ := hSw
          go_simp
          try exact rfl
        simp only [Act.put, List.setIfInBounds_toArray, List.set_cons_zero, List.set_cons_succ]
        refine wpLate_take (i := 15) (oi := ?oia15) (v := ?va15) [] ?hia15 (by kernel_rfl) (by kernel_rfl) (by kernel_rfl) (by kernel_rfl) (by kernel_rfl) ?hQa15 (Or.inl ⟨?hwa15, ?hya15⟩) HKn.out.keep ?resta15
        case hia15 => (simp only [List.getElem?_toArray, List.getElem?_cons_zero, List.getElem?_cons_succ]; rfl)
        case hQa15 => exact fun _ _ _ h => h
        case hwa15 => rfl
        case hya15 =>
          intro w' hSw
          obtain ⟨r0, r1, r2, r3, r4, r5, r6, r7, r8, r9, r10, r11⟩ := hSw
          go_simp
          try exact rfl
        simp only [Act.put, List.setIfInBounds_toArray, List.set_cons_zero, List.set_cons_succ]
        refine wpLate_one (i := 16) (o := ?oa16) (by kernel_rfl) ?hoa16 ?hka16
        case hoa16 => (simp only [List.getElem?_toArray, List.getElem?_cons_zero, List.getElem?_cons_succ]; rfl)
        intro K hK
        go_simp
        refine (sumRef_any t ps heat hroom A cap _ HKn.out.x.p hm2 HM.out.2.2 HK.out.1.p1).mono ?_
        rw [← HF.out]
        rintro e w5 ⟨rfl, hb5⟩
        have HKm := Lib.hid (HKn.out.step hb5)
        clear hb5
        try (go_wp2_with fail)
        refine hK.out _ _ (fun _ => HKm.out.keep) ?_
        clear hK K
        try simp only [Act.put, List.setIfInBounds_toArray, List.set_cons_zero, List.set_cons_succ]
        refine wpLate_take (i := 17) (oi := ?oia17) (v := ?va17) [] ?hia17 (by kernel_rfl) (by kernel_rfl) (by kernel_rfl) (by kernel_rfl) (by kernel_rfl) ?hQa17 (Or.inl ⟨?hwa17, ?hya17⟩) HKm.out.keep ?resta17
        case hia17 => (simp only [List.getElem?_toArray, List.getElem?_cons_zero, List.getElem?_cons_succ]; rfl)
        case hQa17 => exact fun _ _ _ h => h
        case hwa17 => rfl
        case hya17 =>
          intro w' hSw
          obtain ⟨r0, r1, r2, r3, r4, r5, r6, r7, r8, r9, r10, r11⟩ := hSw
          go_simp
          try exact rfl
        simp only [Act.put, List.setIfInBounds_toArray, List.set_cons_zero, List.set_cons_succ]
        refine wpLate_take (i := 18) (oi := ?oia18) (v := ?va18) [] ?hia18 (by kernel_rfl) (by kernel_rfl) (by kernel_rfl) (by kernel_rfl) (by kernel_rfl) ?hQa18 (Or.inl ⟨?hwa18, ?hya18⟩) HKm.out.keep ?resta18
        case hia18 => (simp only [List.getElem?_toArray, List.getElem?_cons_zero, List.getElem?_cons_succ]; rfl)
        case hQa18 => exact fun _ _ _ h => h
        case hwa18 => rfl
        case hya18 =>
          intro w' hSw
          obtain ⟨r0, r1, r2, r3, r4, r5, r6, r7, r8, r9, r10, r11⟩ := hSw
          go_simp
          try exact rfl
        simp only [Act.put, List.setIfInBounds_toArray, List.set_cons_zero, List.set_cons_succ]
        refine wpLate_take (i := 19) (oi := ?oia19) (v := ?va19) [] ?hia19 (by kernel_rfl) (by kernel_rfl) (by kernel_rfl) (by kernel_rfl) (by kernel_rfl) ?hQa19 (Or.inl ⟨?hwa19, ?hya19⟩) HKm.out.keep ?resta19
        case hia19 => (simp only [List.getElem?_toArray, List.getElem?_cons_zero, List.getElem?_cons_succ]; rfl)
        case hQa19 => exact fun _ _ _ h => h
        case hwa19 => rfl
        case hya19 =>
          intro w' hSw
          obtain ⟨r0, r1, r2, r3, r4, r5, r6, r7, r8, r9, r10, r11⟩ := hSw
          go_simp
          try exact rfl
        simp only [Act.put, List.setIfInBounds_toArray, List.set_cons_zero, List.set_cons_succ]
        refine wpLate_take (i := 20) (oi := ?oia20) (v := ?va20) [] ?hia20 (by kernel_rfl) (by kernel_rfl) (by kernel_rfl) (by kernel_rfl) (by kernel_rfl) ?hQa20 (Or.inl ⟨?hwa20, ?hya20⟩) HKm.out.keep ?resta20
        case hia20 => (simp only [List.getElem?_toArray, List.getElem?_cons_zero, List.getElem?_cons_succ]; rfl)
        case hQa20 => exact fun _ _ _ h => h
        case hwa20 => rfl
        case hya20 =>
          intro w' hSw
          obtain ⟨r0, r1, r2, r3, r4, r5, r6, r7, r8, r9, r10, r11⟩ := hSw
          go_simp
          try exact rfl
        simp only [Act.put, List.setIfInBounds_toArray, List.set_cons_zero, List.set_cons_succ]
        refine wpLate_take (i := 21) (oi := ?oia21) (v := ?va21) [] ?hia21 (by kernel_rfl) (by kernel_rfl) (by kernel_rfl) (by kernel_rfl) (by kernel_rfl) ?hQa21 (Or.inl ⟨?hwa21, ?hya21⟩) HKm.out.keep ?resta21
        case hia21 => (simp only [List.getElem?_toArray, List.getElem?_cons_zero, List.getElem?_cons_succ]; rfl)
        case hQa21 => exact fun _ _ _ h => h
        case hwa21 => rfl
        case hya21 =>
          intro w' hSw
          obtain ⟨r0, r1, r2, r3, r4, r5, r6, r7, r8, r9, r10, r11⟩ := hSw
          go_simp
          try exact rfl
        simp only [Act.put, List.setIfInBounds_toArray, List.set_cons_zero, List.set_cons_succ]
        refine wpLate_take (i := 22) (oi := ?oia22) (v := ?va22) [] ?hia22 (by kernel_rfl) (by kernel_rfl) (by kernel_rfl) (by kernel_rfl) (by kernel_rfl) ?hQa22 (Or.inl ⟨?hwa22, ?hya22⟩) HKm.out.keep ?resta22
        case hia22 => (simp only [List.getElem?_toArray, List.getElem?_cons_zero, List.getElem?_cons_succ]; rfl)
        case hQa22 => exact fun _ _ _ h => h
        case hwa22 => rfl
        case hya22 =>
          intro w' hSw
          obtain ⟨r0, r1, r2, r3, r4, r5, r6, r7, r8, r9, r10, r11⟩ := hSw
          go_simp
          try exact rfl
        simp only [Act.put, List.setIfInBounds_toArray, List.set_cons_zero, List.set_cons_succ]
        refine wpLate_take (i := 23) (oi := ?oia23) (v := ?va23) [] ?hia23 (by kernel_rfl) (by kernel_rfl) (by kernel_rfl) (by kernel_rfl) (by kernel_rfl) ?hQa23 (Or.inl ⟨?hwa23, ?hya23⟩) HKm.out.keep ?resta23
        case hia23 => (simp only [List.getElem?_toArray, List.getElem?_cons_zero, List.getElem?_cons_succ]; rfl)
        case hQa23 => exact fun _ _ _ h => h
        case hwa23 => rfl
        case hya23 =>
          intro w' hSw
          obtain ⟨r0, r1, r2, r3, r4, r5, r6, r7, r8, r9, r10, r11⟩ := hSw
          go_simp
          try exact rfl
        simp only [Act.put, List.setIfInBounds_toArray, List.set_cons_zero, List.set_cons_succ]
        refine wpLate_take (i := 24) (oi := ?oia24) (v := ?va24) [] ?hia24 (by kernel_rfl) (by kernel_rfl) (by kernel_rfl) (by kernel_rfl) (by kernel_rfl) ?hQa24 (Or.inl ⟨?hwa24, ?hya24⟩) HKm.out.keep ?resta24
        case hia24 => (simp only [List.getElem?_toArray, List.getElem?_cons_zero, List.getElem?_cons_succ]; rfl)
        case hQa24 => exact fun _ _ _ h => h
        case hwa24 => rfl
        case hya24 =>
          intro w' hSw
          obtain ⟨r0, r1, r2, r3, r4, r5, r6, r7, r8, r9, r10, r11⟩ := hSw
          go_simp
          try exact rfl
        simp only [Act.put, List.setIfInBounds_toArray, List.set_cons_zero, List.set_cons_succ]
        refine wpLate_take (i := 25) (oi := ?oia25) (v := ?va25) [] ?hia25 (by kernel_rfl) (by kernel_rfl) (by kernel_rfl) (by kernel_rfl) (by kernel_rfl) ?hQa25 (Or.inl ⟨?hwa25, ?hya25⟩) HKm.out.keep ?resta25
        case hia25 => (simp only [List.getElem?_toArray, List.getElem?_cons_zero, List.getElem?_cons_succ]; rfl)
        case hQa25 => exact fun _ _ _ h => h
        case hwa25 => rfl
        case hya25 =>
          intro w' hSw
          obtain ⟨r0, r1, r2, r3, r4, r5, r6, r7, r8, r9, r10, r11⟩ := hSw
          go_simp
          try exact rfl
        simp only [Act.put, List.setIfInBounds_toArray, List.set_cons_zero, List.set_cons_succ]
        refine wpLate_take (i := 26) (oi := ?oia26) (v := ?va26) [] ?hia26 (by kernel_rfl) (by kernel_rfl) (by kernel_rfl) (by kernel_rfl) (by kernel_rfl) ?hQa26 (Or.inl ⟨?hwa26, ?hya26⟩) HKm.out.keep ?resta26
        case hia26 => (simp only [List.getElem?_toArray, List.getElem?_cons_zero, List.getElem?_cons_succ]; rfl)
        case hQa26 => exact fun _ _ _ h => h
        case hwa26 => rfl
        case hya26 =>
          intro w' hSw
          obtain ⟨r0, r1, r2, r3, r4, r5, r6, r7, r8, r9, r10, r11⟩ := hSw
          go_simp
          try exact rfl
        simp only [Act.put, List.setIfInBounds_toArray, List.set_cons_zero, List.set_cons_succ]
        refine wpLate_take (i := 27) (oi := ?oia27) (v := ?va27) [] ?hia27 (by kernel_rfl) (by kernel_rfl) (by kernel_rfl) (by kernel_rfl) (by kernel_rfl) ?hQa27 (Or.inl ⟨?hwa27, ?hya27⟩) HKm.out.keep ?resta27
        case hia27 => (simp only [List.getElem?_toArray, List.getElem?_cons_zero, List.getElem?_cons_succ]; rfl)
        case hQa27 => exact fun _ _ _ h => h
        case hwa27 => rfl
        case hya27 =>
          intro w' hSw
          obtain ⟨r0, r1, r2, r3, r4, r5, r6, r7, r8, r9, r10, r11⟩ := hSw
          go_simp
          try exact rfl
        simp only [Act.put, List.setIfInBounds_toArray, List.set_cons_zero, List.set_cons_succ]
        refine wpLate_take (i := 28) (oi := ?oia28) (v := ?va28) [] ?hia28 (by kernel_rfl) (by kernel_rfl) (by kernel_rfl) (by kernel_rfl) (by kernel_rfl) ?hQa28 (Or.inl ⟨?hwa28, ?hya28⟩) HKm.out.keep ?resta28
        case hia28 => (simp only [List.getElem?_toArray, List.getElem?_cons_zero, List.getElem?_cons_succ]; rfl)
        case hQa28 => exact fun _ _ _ h => h
        case hwa28 => rfl
        case hya28 =>
          intro w' hSw
          obtain ⟨r0, r1, r2, r3, r4, r5, r6, r7, r8, r9, r10, r11⟩ := hSw
          go_simp
          try exact rfl
        simp only [Act.put, List.setIfInBounds_toArray, List.set_cons_zero, List.set_cons_succ]
        refine wpLate_take (i := 29) (oi := ?oia29) (v := ?va29) [] ?hia29 (by kernel_rfl) (by kernel_rfl) (by kernel_rfl) (by kernel_rfl) (by kernel_rfl) ?hQa29 (Or.inl ⟨?hwa29, ?hya29⟩) HKm.out.keep ?resta29
        case hia29 => (simp only [List.getElem?_toArray, List.getElem?_cons_zero, List.getElem?_cons_succ]; rfl)
        case hQa29 => exact fun _ _ _ h => h
        case hwa29 => rfl
        case hya29 =>
          intro w' hSw
          obtain ⟨r0, r1, r2, r3, r4, r5, r6, r7, r8, r9, r10, r11⟩ := hSw
          go_simp
          try exact rfl
        simp only [Act.put, List.setIfInBounds_toArray, List.set_cons_zero, List.set_cons_succ]
        refine wpLate_take (i := 30) (oi := ?oia30) (v := ?va30) [] ?hia30 (by kernel_rfl) (by kernel_rfl) (by kernel_rfl) (by kernel_rfl) (by kernel_rfl) ?hQa30 (Or.inl ⟨?hwa30, ?hya30⟩) HKm.out.keep ?resta30
        case hia30 => (simp only [List.getElem?_toArray, List.getElem?_cons_zero, List.getElem?_cons_succ]; rfl)
        case hQa30 => exact fun _ _ _ h => h
        case hwa30 => rfl
        case hya30 =>
          intro w' hSw
          obtain ⟨r0, r1, r2, r3, r4, r5, r6, r7, r8, r9, r10, r11⟩ := hSw
          go_simp
          try exact rfl
        simp only [Act.put, List.setIfInBounds_toArray, List.set_cons_zero, List.set_cons_succ]
        refine wpLate_take (i := 31) (oi := ?oia31) (v := ?va31) [] ?hia31 (by kernel_rfl) (by kernel_rfl) (by kernel_rfl) (by kernel_rfl) (by kernel_rfl) ?hQa31 (Or.inl ⟨?hwa31, ?hya31⟩) HKm.out.keep ?resta31
        case hia31 => (simp only [List.getElem?_toArray, List.getElem?_cons_zero, List.getElem?_cons_succ]; rfl)
        case hQa31 => exact fun _ _ _ h => h
        case hwa31 => rfl
        case hya31 =>
          intro w' hSw
          obtain ⟨r0, r1, r2, r3, r4, r5, r6, r7, r8, r9, r10, r11⟩ := hSw
          go_simp
          try exact rfl
        simp only [Act.put, List.setIfInBounds_toArray, List.set_cons_zero, List.set_cons_succ]
        refine wpLate_take (i := 32) (oi := ?oia32) (v := ?va32) [] ?hia32 (by kernel_rfl) (by kernel_rfl) (by kernel_rfl) (by kernel_rfl) (by kernel_rfl) ?hQa32 (Or.inl ⟨?hwa32, ?hya32⟩) HKm.out.keep ?resta32
        case hia32 => (simp only [List.getElem?_toArray, List.getElem?_cons_zero, List.getElem?_cons_succ]; rfl)
        case hQa32 => exact fun _ _ _ h => h
        case hwa32 => rfl
        case hya32 =>
          intro w' hSw
          obtain ⟨r0, r1, r2, r3, r4, r5, r6, r7, r8, r9, r10, r11⟩ := hSw
          go_simp
          try exact rfl
        simp only [Act.put, List.setIfInBounds_toArray, List.set_cons_zero, List.set_cons_succ]
        refine wpLate_take (i := 33) (oi := ?oia33) (v := ?va33) [] ?hia33 (by kernel_rfl) (by kernel_rfl) (by kernel_rfl) (by kernel_rfl) (by kernel_rfl) ?hQa33 (Or.inl ⟨?hwa33, ?hya33⟩) HKm.out.keep ?resta33
        case hia33 => (simp only [List.getElem?_toArray, List.getElem?_cons_zero, List.getElem?_cons_succ]; rfl)
        case hQa33 => exact fun _ _ _ h => h
        case hwa33 => rfl
        case hya33 =>
          intro w' hSw
          obtain ⟨r0, r1, r2, r3, r4, r5, r6, r7, r8, r9, r10, r11⟩ := hSw
          go_simp
          try exact rfl
        simp only [Act.put, List.setIfInBounds_toArray, List.set_cons_zero, List.set_cons_succ]
        refine wpLate_take (i := 34) (oi := ?oia34) (v := ?va34) [] ?hia34 (by kernel_rfl) (by kernel_rfl) (by kernel_rfl) (by kernel_rfl) (by kernel_rfl) ?hQa34 (Or.inl ⟨?hwa34, ?hya34⟩) HKm.out.keep ?resta34
        case hia34 => (simp only [List.getElem?_toArray, List.getElem?_cons_zero, List.getElem?_cons_succ]; rfl)
        case hQa34 => exact fun _ _ _ h => h
        case hwa34 => rfl
        case hya34 =>
          intro w' hSw
          obtain ⟨r0, r1, r2, r3, r4, r5, r6, r7, r8, r9, r10, r11⟩ := hSw
          go_simp
          try exact rfl
        simp only [Act.put, List.setIfInBounds_toArray, List.set_cons_zero, List.set_cons_succ]
        refine wpLate_take (i := 35) (oi := ?oia35) (v := ?va35) [] ?hia35 (by kernel_rfl) (by kernel_rfl) (by kernel_rfl) (by kernel_rfl) (by kernel_rfl) ?hQa35 (Or.inl ⟨?hwa35, ?hya35⟩) HKm.out.keep ?resta35
        case hia35 => (simp only [List.getElem?_toArray, List.getElem?_cons_zero, List.getElem?_cons_succ]; rfl)
        case hQa35 => exact fun _ _ _ h => h
        case hwa35 => rfl
        case hya35 =>
          intro w' hSw
          obtain ⟨r0, r1, r2, r3, r4, r5, r6, r7, r8, r9, r10, r11⟩ := hSw
          go_simp
          try exact rfl
        simp only [Act.put, List.setIfInBounds_toArray, List.set_cons_zero, List.set_cons_succ]
        refine wpLate_take (i := 36) (oi := ?oia36) (v := ?va36) [] ?hia36 (by kernel_rfl) (by kernel_rfl) (by kernel_rfl) (by kernel_rfl) (by kernel_rfl) ?hQa36 (Or.inl ⟨?hwa36, ?hya36⟩) HKm.out.keep ?resta36
        case hia36 => (simp only [List.getElem?_toArray, List.getElem?_cons_zero, List.getElem?_cons_succ]; rfl)
        case hQa36 => exact fun _ _ _ h => h
        case hwa36 => rfl
        case hya36 =>
          intro w' hSw
          obtain ⟨r0, r1, r2, r3, r4, r5, r6, r7, r8, r9, r10, r11⟩ := hSw
          go_simp
          try exact rfl
        simp only [Act.put, List.setIfInBounds_toArray, List.set_cons_zero, List.set_cons_succ]
        refine wpLate_take (i := 37) (oi := ?oia37) (v := ?va37) [] ?hia37 (by kernel_rfl) (by kernel_rfl) (by kernel_rfl) (by kernel_rfl) (by kernel_rfl) ?hQa37 (Or.inl ⟨?hwa37, ?hya37⟩) HKm.out.keep ?resta37
        case hia37 => (simp only [List.getElem?_toArray, List.getElem?_cons_zero, List.getElem?_cons_succ]; rfl)
        case hQa37 => exact fun _ _ _ h => h
        case hwa37 => rfl
        case hya37 =>
          intro w' hSw
          obtain ⟨r0, r1, r2, r3, r4, r5, r6, r7, r8, r9, r10, r11⟩ := hSw
          go_simp
          try exact rfl
        simp only [Act.put, List.setIfInBounds_toArray, List.set_cons_zero, List.set_cons_succ]
        refine wpLate_take (i := 38) (oi := ?oia38) (v := ?va38) [] ?hia38 (by kernel_rfl) (by kernel_rfl) (by kernel_rfl) (by kernel_rfl) (by kernel_rfl) ?hQa38 (Or.inl ⟨?hwa38, ?hya38⟩) HKm.out.keep ?resta38
        case hia38 => (simp only [List.getElem?_toArray, List.getElem?_cons_zero, List.getElem?_cons_succ]; rfl)
        case hQa38 => exact fun _ _ _ h => h
        case hwa38 => rfl
        case hya38 =>
          intro w' hSw
          obtain ⟨r0, r1, r2, r3, r4, r5, r6, r7, r8, r9, r10, r11⟩ := hSw
          go_simp
          try exact rfl
        simp only [Act.put, List.setIfInBounds_toArray, List.set_cons_zero, List.set_cons_succ]
        refine wpLate_take (i := 39) (oi := ?oia39) (v := ?va39) [] ?hia39 (by kernel_rfl) (by kernel_rfl) (by kernel_rfl) (by kernel_rfl) (by kernel_rfl) ?hQa39 (Or.inl ⟨?hwa39, ?hya39⟩) HKm.out.keep ?resta39
        case hia39 => (simp only [List.getElem?_toArray, List.getElem?_cons_zero, List.getElem?_cons_succ]; rfl)
        case hQa39 => exact fun _ _ _ h => h
        case hwa39 => rfl
        case hya39 =>
          intro w' hSw
          obtain ⟨r0, r1, r2, r3, r4, r5, r6, r7, r8, r9, r10, r11⟩ := hSw
          go_simp
          try exact rfl
        simp only [Act.put, List.setIfInBounds_toArray, List.set_cons_zero, List.set_cons_succ]
        refine wpLate_take (i := 40) (oi := ?oia40) (v := ?va40) [] ?hia40 (by kernel_rfl) (by kernel_rfl) (by kernel_rfl) (by kernel_rfl) (by kernel_rfl) ?hQa40 (Or.inl ⟨?hwa40, ?hya40⟩) HKm.out.keep ?resta40
        case hia40 => (simp only [List.getElem?_toArray, List.getElem?_cons_zero, List.getElem?_cons_succ]; rfl)
        case hQa40 => exact fun _ _ _ h => h
        case hwa40 => rfl
        case hya40 =>
          intro w' hSw
          obtain ⟨r0, r1, r2, r3, r4, r5, r6, r7, r8, r9, r10, r11⟩ := hSw
          go_simp
          try exact rfl
        simp only [Act.put, List.setIfInBounds_toArray, List.set_cons_zero, List.set_cons_succ]
        refine wpLate_take (i := 41) (oi := ?oia41) (v := ?va41) [] ?hia41 (by kernel_rfl) (by kernel_rfl) (by kernel_rfl) (by kernel_rfl) (by kernel_rfl) ?hQa41 (Or.inl ⟨?hwa41, ?hya41⟩) HKm.out.keep ?resta41
        case hia41 => (simp only [List.getElem?_toArray, List.getElem?_cons_zero, List.getElem?_cons_succ]; rfl)
        case hQa41 => exact fun _ _ _ h => h
        case hwa41 => rfl
        case hya41 =>
          intro w' hSw
          obtain ⟨r0, r1, r2, r3, r4, r5, r6, r7, r8, r9, r10, r11⟩ := hSw
          go_simp
          try exact rfl
        simp only [Act.put, List.setIfInBounds_toArray, List.set_cons_zero, List.set_cons_succ]
        refine wpLate_take (i := 42) (oi := ?oia42) (v := ?va42) [] ?hia42 (by kernel_rfl) (by kernel_rfl) (by kernel_rfl) (by kernel_rfl) (by kernel_rfl) ?hQa42 (Or.inl ⟨?hwa42, ?hya42⟩) HKm.out.keep ?resta42
        case hia42 => (simp only [List.getElem?_toArray, List.getElem?_cons_zero, List.getElem?_cons_succ]; rfl)
        case hQa42 => exact fun _ _ _ h => h
        case hwa42 => rfl
        case hya42 =>
          intro w' hSw
          obtain ⟨r0, r1, r2, r3, r4, r5, r6, r7, r8, r9, r10, r11⟩ := hSw
          go_simp
          try exact rfl
        simp only [Act.put, List.setIfInBounds_toArray, List.set_cons_zero, List.set_cons_succ]
        refine wpLate_take (i := 43) (oi := ?oia43) (v := ?va43) [] ?hia43 (by kernel_rfl) (by kernel_rfl) (by kernel_rfl) (by kernel_rfl) (by kernel_rfl) ?hQa43 (Or.inl ⟨?hwa43, ?hya43⟩) HKm.out.keep ?resta43
        case hia43 => (simp only [List.getElem?_toArray, List.getElem?_cons_zero, List.getElem?_cons_succ]; rfl)
        case hQa43 => exact fun _ _ _ h => h
        case hwa43 => rfl
        case hya43 =>
          intro w' hSw
          obtain ⟨r0, r1, r2, r3, r4, r5, r6, r7, r8, r9, r10, r11⟩ := hSw
          go_simp
          try exact rfl
        simp only [Act.put, List.setIfInBounds_toArray, List.set_cons_zero, List.set_cons_succ]
        refine wpLate_take (i := 44) (oi := ?oia44) (v := ?va44) [] ?hia44 (by kernel_rfl) (by kernel_rfl) (by kernel_rfl) (by kernel_rfl) (by kernel_rfl) ?hQa44 (Or.inl ⟨?hwa44, ?hya44⟩) HKm.out.keep ?resta44
        case hia44 => (simp only [List.getElem?_toArray, List.getElem?_cons_zero, List.getElem?_cons_succ]; rfl)
        case hQa44 => exact fun _ _ _ h => h
        case hwa44 => rfl
        case hya44 =>
          intro w' hSw
          obtain ⟨r0, r1, r2, r3, r4, r5, r6, r7, r8, r9, r10, r11⟩ := hSw
          go_simp
          try exact rfl
        simp only [Act.put, List.setIfInBounds_toArray, List.set_cons_zero, List.set_cons_succ]
        refine wpLate_take (i := 45) (oi := ?oia45) (v := ?va45) [] ?hia45 (by kernel_rfl) (by kernel_rfl) (by kernel_rfl) (by kernel_rfl) (by kernel_rfl) ?hQa45 (Or.inl ⟨?hwa45, ?hya45⟩) HKm.out.keep ?resta45
        case hia45 => (simp only [List.getElem?_toArray, List.getElem?_cons_zero, List.getElem?_cons_succ]; rfl)
        case hQa45 => exact fun _ _ _ h => h
        case hwa45 => rfl
        case hya45 =>
          intro w' hSw
          obtain ⟨r0, r1, r2, r3, r4, r5, r6, r7, r8, r9, r10, r11⟩ := hSw
          go_simp
          try exact rfl
        simp only [Act.put, List.setIfInBounds_toArray, List.set_cons_zero, List.set_cons_succ]
        refine wpLate_take (i := 46) (oi := ?oia46) (v := ?va46) [] ?hia46 (by kernel_rfl) (by kernel_rfl) (by kernel_rfl) (by kernel_rfl) (by kernel_rfl) ?hQa46 (Or.inl ⟨?hwa46, ?hya46⟩) HKm.out.keep ?resta46
        case hia46 => (simp only [List.getElem?_toArray, List.getElem?_cons_zero, List.getElem?_cons_succ]; rfl)
        case hQa46 => exact fun _ _ _ h => h
        case hwa46 => rfl
        case hya46 =>
          intro w' hSw
          obtain ⟨r0, r1, r2, r3, r4, r5, r6, r7, r8, r9, r10, r11⟩ := hSw
          go_simp
          try exact rfl
        simp only [Act.put, List.setIfInBounds_toArray, List.set_cons_zero, List.set_cons_succ]
        refine wpLate_take (i := 47) (oi := ?oia47) (v := ?va47) [] ?hia47 (by kernel_rfl) (by kernel_rfl) (by kernel_rfl) (by kernel_rfl) (by kernel_rfl) ?hQa47 (Or.inl ⟨?hwa47, ?hya47⟩) HKm.out.keep ?resta47
        case hia47 => (simp only [List.getElem?_toArray, List.getElem?_cons_zero, List.getElem?_cons_succ]; rfl)
        case hQa47 => exact fun _ _ _ h => h
        case hwa47 => rfl
        case hya47 =>
          intro w' hSw
          obtain ⟨r0, r1, r2, r3, r4, r5, r6, r7, r8, r9, r10, r11⟩ := hSw
          go_simp
          try exact rfl
        simp only [Act.put, List.setIfInBounds_toArray, List.set_cons_zero, List.set_cons_succ]
        refine wpLate_take (i := 48) (oi := ?oia48) (v := ?va48) [] ?hia48 (by kernel_rfl) (by kernel_rfl) (by kernel_rfl) (by kernel_rfl) (by kernel_rfl) ?hQa48 (Or.inl ⟨?hwa48, ?hya48⟩) HKm.out.keep ?resta48
        case hia48 => (simp only [List.getElem?_toArray, List.getElem?_cons_zero, List.getElem?_cons_succ]; rfl)
        case hQa48 => exact fun _ _ _ h => h
        case hwa48 => rfl
        case hya48 =>
          intro w' hSw
          obtain ⟨r0, r1, r2, r3, r4, r5, r6, r7, r8, r9, r10, r11⟩ := hSw
          go_simp
          try exact rfl
        simp only [Act.put, List.setIfInBounds_toArray, List.set_cons_zero, List.set_cons_succ]
        refine wpLate_take (i := 49) (oi := ?oia49) (v := ?va49) [] ?hia49 (by kernel_rfl) (by kernel_rfl) (by kernel_rfl) (by kernel_rfl) (by kernel_rfl) ?hQa49 (Or.inl ⟨?hwa49, ?hya49⟩) HKm.out.keep ?resta49
        case hia49 => (simp only [List.getElem?_toArray, List.getElem?_cons_zero, List.getElem?_cons_succ]; rfl)
        case hQa49 => exact fun _ _ _ h => h
        case hwa49 => rfl
        case hya49 =>
          intro w' hSw
          obtain ⟨r0, r1, r2, r3, r4, r5, r6, r7, r8, r9, r10, r11⟩ := hSw
          go_simp
          try exact rfl
        simp only [Act.put, List.setIfInBounds_toArray, List.set_cons_zero, List.set_cons_succ]
        refine wpLate_take (i := 50) (oi := ?oia50) (v := ?va50) [] ?hia50 (by kernel_rfl) (by kernel_rfl) (by kernel_rfl) (by kernel_rfl) (by kernel_rfl) ?hQa50 (Or.inl ⟨?hwa50, ?hya50⟩) HKm.out.keep ?resta50
        case hia50 => (simp only [List.getElem?_toArray, List.getElem?_cons_zero, List.getElem?_cons_succ]; rfl)
        case hQa50 => exact fun _ _ _ h => h
        case hwa50 => rfl
        case hya50 =>
          intro w' hSw
          obtain ⟨r0, r1, r2, r3, r4, r5, r6, r7, r8, r9, r10, r11⟩ := hSw
          go_simp
          try exact rfl
        simp only [Act.put, List.setIfInBounds_toArray, List.set_cons_zero, List.set_cons_succ]
        refine wpLate_take (i := 51) (oi := ?oia51) (v := ?va51) [] ?hia51 (by kernel_rfl) (by kernel_rfl) (by kernel_rfl) (by kernel_rfl) (by kernel_rfl) ?hQa51 (Or.inl ⟨?hwa51, ?hya51⟩) HKm.out.keep ?resta51
        case hia51 => (simp only [List.getElem?_toArray, List.getElem?_cons_zero, List.getElem?_cons_succ]; rfl)
        case hQa51 => exact fun _ _ _ h => h
        case hwa51 => rfl
        case hya51 =>
          intro w' hSw
          obtain ⟨r0, r1, r2, r3, r4, r5, r6, r7, r8, r9, r10, r11⟩ := hSw
          go_simp
          try exact rfl
        simp only [Act.put, List.setIfInBounds_toArray, List.set_cons_zero, List.set_cons_succ]
        refine wpLate_take (i := 52) (oi := ?oia52) (v := ?va52) [] ?hia52 (by kernel_rfl) (by kernel_rfl) (by kernel_rfl) (by kernel_rfl) (by kernel_rfl) ?hQa52 (Or.inl ⟨?hwa52, ?hya52⟩) HKm.out.keep ?resta52
        case hia52 => (simp only [List.getElem?_toArray, List.getElem?_cons_zero, List.getElem?_cons_succ]; rfl)
        case hQa52 => exact fun _ _ _ h => h
        case hwa52 => rfl
        case hya52 =>
          intro w' hSw
          obtain ⟨r0, r1, r2, r3, r4, r5, r6, r7, r8, r9, r10, r11⟩ := hSw
          go_simp
          try exact rfl
        simp only [Act.put, List.setIfInBounds_toArray, List.set_cons_zero, List.set_cons_succ]
        refine wpLate_take (i := 53) (oi := ?oia53) (v := ?va53) [] ?hia53 (by kernel_rfl) (by kernel_rfl) (by kernel_rfl) (by kernel_rfl) (by kernel_rfl) ?hQa53 (Or.inl ⟨?hwa53, ?hya53⟩) HKm.out.keep ?resta53
        case hia53 => (simp only [List.getElem?_toArray, List.getElem?_cons_zero, List.getElem?_cons_succ]; rfl)
        case hQa53 => exact fun _ _ _ h => h
        case hwa53 => rfl
        case hya53 =>
          intro w' hSw
          obtain ⟨r0, r1, r2, r3, r4, r5, r6, r7, r8, r9, r10, r11⟩ := hSw
          go_simp
          try exact rfl
        simp only [Act.put, List.setIfInBounds_toArray, List.set_cons_zero, List.set_cons_succ]
        refine wpLate_take (i := 54) (oi := ?oia54) (v := ?va54) [] ?hia54 (by kernel_rfl) (by kernel_rfl) (by kernel_rfl) (by kernel_rfl) (by kernel_rfl) ?hQa54 (Or.inl ⟨?hwa54, ?hya54⟩) HKm.out.keep ?resta54
        case hia54 => (simp only [List.getElem?_toArray, List.getElem?_cons_zero, List.getElem?_cons_succ]; rfl)
        case hQa54 => exact fun _ _ _ h => h
        case hwa54 => rfl
        case hya54 =>
          intro w' hSw
          obtain ⟨r0, r1, r2, r3, r4, r5, r6, r7, r8, r9, r10, r11⟩ := hSw
          go_simp
          try exact rfl
        simp only [Act.put, List.setIfInBounds_toArray, List.set_cons_zero, List.set_cons_succ]
        refine wpLate_take (i := 55) (oi := ?oia55) (v := ?va55) [] ?hia55 (by kernel_rfl) (by kernel_rfl) (by kernel_rfl) (by kernel_rfl) (by kernel_rfl) ?hQa55 (Or.inl ⟨?hwa55, ?hya55⟩) HKm.out.keep ?resta55
        case hia55 => (simp only [List.getElem?_toArray, List.getElem?_cons_zero, List.getElem?_cons_succ]; rfl)
        case hQa55 => exact fun _ _ _ h => h
        case hwa55 => rfl
        case hya55 =>
          intro w' hSw
          obtain ⟨r0, r1, r2, r3, r4, r5, r6, r7, r8, r9, r10, r11⟩ := hSw
          go_simp
          try exact rfl
        simp only [Act.put, List.setIfInBounds_toArray, List.set_cons_zero, List.set_cons_succ]
        refine wpLate_take (i := 56) (oi := ?oia56) (v := ?va56) [] ?hia56 (by kernel_rfl) (by kernel_rfl) (by kernel_rfl) (by kernel_rfl) (by kernel_rfl) ?hQa56 (Or.inl ⟨?hwa56, ?hya56⟩) HKm.out.keep ?resta56
        case hia56 => (simp only [List.getElem?_toArray, List.getElem?_cons_zero, List.getElem?_cons_succ]; rfl)
        case hQa56 => exact fun _ _ _ h => h
        case hwa56 => rfl
        case hya56 =>
          intro w' hSw
          obtain ⟨r0, r1, r2, r3, r4, r5, r6, r7, r8, r9, r10, r11⟩ := hSw
          go_simp
          try exact rfl
        simp only [Act.put, List.setIfInBounds_toArray, List.set_cons_zero, List.set_cons_succ]
        refine wpLate_take (i := 57) (oi := ?oia57) (v := ?va57) [] ?hia57 (by kernel_rfl) (by kernel_rfl) (by kernel_rfl) (by kernel_rfl) (by kernel_rfl) ?hQa57 (Or.inl ⟨?hwa57, ?hya57⟩) HKm.out.keep ?resta57
        case hia57 => (simp only [List.getElem?_toArray, List.getElem?_cons_zero, List.getElem?_cons_succ]; rfl)
        case hQa57 => exact fun _ _ _ h => h
        case hwa57 => rfl
        case hya57 =>
          intro w' hSw
          obtain ⟨r0, r1, r2, r3, r4, r5, r6, r7, r8, r9, r10, r11⟩ := hSw
          go_simp
          try exact rfl
        simp only [Act.put, List.setIfInBounds_toArray, List.set_cons_zero, List.set_cons_succ]
        refine wpLate_take (i := 58) (oi := ?oia58) (v := ?va58) [] ?hia58 (by kernel_rfl) (by kernel_rfl) (by kernel_rfl) (by kernel_rfl) (by kernel_rfl) ?hQa58 (Or.inl ⟨?hwa58, ?hya58⟩) HKm.out.keep ?resta58
        case hia58 => (simp only [List.getElem?_toArray, List.getElem?_cons_zero, List.getElem?_cons_succ]; rfl)
        case hQa58 => exact fun _ _ _ h => h
        case hwa58 => rfl
        case hya58 =>
          intro w' hSw
          obtain ⟨r0, r1, r2, r3, r4, r5, r6, r7, r8, r9, r10, r11⟩ := hSw
          go_simp
          try exact rfl
        simp only [Act.put, List.setIfInBounds_toArray, List.set_cons_zero, List.set_cons_succ]
        refine wpLate_take (i := 59) (oi := ?oia59) (v := ?va59) [] ?hia59 (by kernel_rfl) (by kernel_rfl) (by kernel_rfl) (by kernel_rfl) (by kernel_rfl) ?hQa59 (Or.inl ⟨?hwa59, ?hya59⟩) HKm.out.keep ?resta59
        case hia59 => (simp only [List.getElem?_toArray, List.getElem?_cons_zero, List.getElem?_cons_succ]; rfl)
        case hQa59 => exact fun _ _ _ h => h
        case hwa59 => rfl
        case hya59 =>
          intro w' hSw
          obtain ⟨r0, r1, r2, r3, r4, r5, r6, r7, r8, r9, r10, r11⟩ := hSw
          go_simp
          try exact rfl
        simp only [Act.put, List.setIfInBounds_toArray, List.set_cons_zero, List.set_cons_succ]
        refine wpLate_take (i := 60) (oi := ?oia60) (v := ?va60) [] ?hia60 (by kernel_rfl) (by kernel_rfl) (by kernel_rfl) (by kernel_rfl) (by kernel_rfl) ?hQa60 (Or.inl ⟨?hwa60, ?hya60⟩) HKm.out.keep ?resta60
        case hia60 => (simp only [List.getElem?_toArray, List.getElem?_cons_zero, List.getElem?_cons_succ]; rfl)
        case hQa60 => exact fun _ _ _ h => h
        case hwa60 => rfl
        case hya60 =>
          intro w' hSw
          obtain ⟨r0, r1, r2, r3, r4, r5, r6, r7, r8, r9, r10, r11⟩ := hSw
          go_simp
          try exact rfl
        simp only [Act.put, List.setIfInBounds_toArray, List.set_cons_zero, List.set_cons_succ]
        refine wpLate_take (i := 61) (oi := ?oia61) (v := ?va61) [] ?hia61 (by kernel_rfl) (by kernel_rfl) (by kernel_rfl) (by kernel_rfl) (by kernel_rfl) ?hQa61 (Or.inl ⟨?hwa61, ?hya61⟩) HKm.out.keep ?resta61
        case hia61 => (simp only [List.getElem?_toArray, List.getElem?_cons_zero, List.getElem?_cons_succ]; rfl)
        case hQa61 => exact fun _ _ _ h => h
        case hwa61 => rfl
        case hya61 =>
          intro w' hSw
          obtain ⟨r0, r1, r2, r3, r4, r5, r6, r7, r8, r9, r10, r11⟩ := hSw
          go_simp
          try exact rfl
        simp only [Act.put, List.setIfInBounds_toArray, List.set_cons_zero, List.set_cons_succ]
        refine wpLate_take (i := 62) (oi := ?oia62) (v := ?va62) [] ?hia62 (by kernel_rfl) (by kernel_rfl) (by kernel_rfl) (by kernel_rfl) (by kernel_rfl) ?hQa62 (Or.inl ⟨?hwa62, ?hya62⟩) HKm.out.keep ?resta62
        case hia62 => (simp only [List.getElem?_toArray, List.getElem?_cons_zero, List.getElem?_cons_succ]; rfl)
        case hQa62 => exact fun _ _ _ h => h
        case hwa62 => rfl
        case hya62 =>
          intro w' hSw
          obtain ⟨r0, r1, r2, r3, r4, r5, r6, r7, r8, r9, r10, r11⟩ := hSw
          go_simp
          try exact rfl
        simp only [Act.put, List.setIfInBounds_toArray, List.set_cons_zero, List.set_cons_succ]
        refine wpLate_take (i := 63) (oi := ?oia63) (v := ?va63) [] ?hia63 (by kernel_rfl) (by kernel_rfl) (by kernel_rfl) (by kernel_rfl) (by kernel_rfl) ?hQa63 (Or.inl ⟨?hwa63, ?hya63⟩) HKm.out.keep ?resta63
        case hia63 => (simp only [List.getElem?_toArray, List.getElem?_cons_zero, List.getElem?_cons_succ]; rfl)
        case hQa63 => exact fun _ _ _ h => h
        case hwa63 => rfl
        case hya63 =>
          intro w' hSw
          obtain ⟨r0, r1, r2, r3, r4, r5, r6, r7, r8, r9, r10, r11⟩ := hSw
          go_simp
          try exact rfl
        simp only [Act.put, List.setIfInBounds_toArray, List.set_cons_zero, List.set_cons_succ]
        refine wpLate_take (i := 64) (oi := ?oia64) (v := ?va64) [] ?hia64 (by kernel_rfl) (by kernel_rfl) (by kernel_rfl) (by kernel_rfl) (by kernel_rfl) ?hQa64 (Or.inl ⟨?hwa64, ?hya64⟩) HKm.out.keep ?resta64
        case hia64 => (simp only [List.getElem?_toArray, List.getElem?_cons_zero, List.getElem?_cons_succ]; rfl)
        case hQa64 => exact fun _ _ _ h => h
        case hwa64 => rfl
        case hya64 =>
          intro w' hSw
          obtain ⟨r0, r1, r2, r3, r4, r5, r6, r7, r8, r9, r10, r11⟩ := hSw
          go_simp
          try exact rfl
        simp only [Act.put, List.setIfInBounds_toArray, List.set_cons_zero, List.set_cons_succ]
        refine wpLate_take (i := 65) (oi := ?oia65) (v := ?va65) [] ?hia65 (by kernel_rfl) (by kernel_rfl) (by kernel_rfl) (by kernel_rfl) (by kernel_rfl) ?hQa65 (Or.inl ⟨?hwa65, ?hya65⟩) HKm.out.keep ?resta65
        case hia65 => (simp only [List.getElem?_toArray, List.getElem?_cons_zero, List.getElem?_cons_succ]; rfl)
        case hQa65 => exact fun _ _ _ h => h
        case hwa65 => rfl
        case hya65 =>
          intro w' hSw
          obtain ⟨r0, r1, r2, r3, r4, r5, r6, r7, r8, r9, r10, r11⟩ := hSw
          go_simp
          try exact rfl
        simp only [Act.put, List.setIfInBounds_toArray, List.set_cons_zero, List.set_cons_succ]
        refine wpLate_take (i := 66) (oi := ?oia66) (v := ?va66) [] ?hia66 (by kernel_rfl) (by kernel_rfl) (by kernel_rfl) (by kernel_rfl) (by kernel_rfl) ?hQa66 (Or.inl ⟨?hwa66, ?hya66⟩) HKm.out.keep ?resta66
        case hia66 => (simp only [List.getElem?_toArray, List.getElem?_cons_zero, List.getElem?_cons_succ]; rfl)
        case hQa66 => exact fun _ _ _ h => h
        case hwa66 => rfl
        case hya66 =>
          intro w' hSw
          obtain ⟨r0, r1, r2, r3, r4, r5, r6, r7, r8, r9, r10, r11⟩ := hSw
          go_simp
          try exact rfl
        simp only [Act.put, List.setIfInBounds_toArray, List.set_cons_zero, List.set_cons_succ]
        refine wpLate_take (i := 67) (oi := ?oia67) (v := ?va67) [] ?hia67 (by kernel_rfl) (by kernel_rfl) (by kernel_rfl) (by kernel_rfl) (by kernel_rfl) ?hQa67 (Or.inl ⟨?hwa67, ?hya67⟩) HKm.out.keep ?resta67
        case hia67 => (simp only [List.getElem?_toArray, List.getElem?_cons_zero, List.getElem?_cons_succ]; rfl)
        case hQa67 => exact fun _ _ _ h => h
        case hwa67 => rfl
        case hya67 =>
          intro w' hSw
          obtain ⟨r0, r1, r2, r3, r4, r5, r6, r7, r8, r9, r10, r11⟩ := hSw
          go_simp
          try exact rfl
        simp only [Act.put, List.setIfInBounds_toArray, List.set_cons_zero, List.set_cons_succ]
        refine wpLate_take (i := 68) (oi := ?oia68) (v := ?va68) [] ?hia68 (by kernel_rfl) (by kernel_rfl) (by kernel_rfl) (by kernel_rfl) (by kernel_rfl) ?hQa68 (Or.inl ⟨?hwa68, ?hya68⟩) HKm.out.keep ?resta68
        case hia68 => (simp only [List.getElem?_toArray, List.getElem?_cons_zero, List.getElem?_cons_succ]; rfl)
        case hQa68 => exact fun _ _ _ h => h
        case hwa68 => rfl
        case hya68 =>
          intro w' hSw
          obtain ⟨r0, r1, r2, r3, r4, r5, r6, r7, r8, r9, r10, r11⟩ := hSw
          go_simp
          try exact rfl
        simp only [Act.put, List.setIfInBounds_toArray, List.set_cons_zero, List.set_cons_succ]
        refine wpLate_take (i := 69) (oi := ?oia69) (v := ?va69) [] ?hia69 (by kernel_rfl) (by kernel_rfl) (by kernel_rfl) (by kernel_rfl) (by kernel_rfl) ?hQa69 (Or.inl ⟨?hwa69, ?hya69⟩) HKm.out.keep ?resta69
        case hia69 => (simp only [List.getElem?_toArray, List.getElem?_cons_zero, List.getElem?_cons_succ]; rfl)
        case hQa69 => exact fun _ _ _ h => h
        case hwa69 => rfl
        case hya69 =>
          intro w' hSw
          obtain ⟨r0, r1, r2, r3, r4, r5, r6, r7, r8, r9, r10, r11⟩ := hSw
          go_simp
          try exact rfl
        simp only [Act.put, List.setIfInBounds_toArray, List.set_cons_zero, List.set_cons_succ]
        refine wpLate_take (i := 70) (oi := ?oia70) (v := ?va70) [] ?hia70 (by kernel_rfl) (by kernel_rfl) (by kernel_rfl) (by kernel_rfl) (by kernel_rfl) ?hQa70 (Or.inl ⟨?hwa70, ?hya70⟩) HKm.out.keep ?resta70
        case hia70 => (simp only [List.getElem?_toArray, List.getElem?_cons_zero, List.getElem?_cons_succ]; rfl)
        case hQa70 => exact fun _ _ _ h => h
        case hwa70 => rfl
        case hya70 =>
          intro w' hSw
          obtain ⟨r0, r1, r2, r3, r4, r5, r6, r7, r8, r9, r10, r11⟩ := hSw
          go_simp
          try exact rfl
        simp only [Act.put, List.setIfInBounds_toArray, List.set_cons_zero, List.set_cons_succ]
        refine wpLate_done (by kernel_rfl) ?_ _
        try simp only [Act.put, List.setIfInBounds_toArray, List.set_cons_zero, List.set_cons_succ]
        try go_wp2_with fail
        go_meet
        exact ⟨rfl, HKm.out⟩
      · skip
        refine wp_region_late (fun w' : World => w'.cell? ⟨W.heap.size, 0, none⟩ = some (.int .i64 t.v) ∧ w'.cell? ⟨W.heap.size, 1, none⟩ = some (.int .i64 t.h) ∧ w'.cell? ⟨W.heap.size, 2, none⟩ = some (.slice A ps.length cap) ∧ w'.cell? ⟨W.heap.size, 3, none⟩ = some (.int .i64 heat) ∧ w'.cell? ⟨W.heap.size, 4, none⟩ = some (.int .i64 hroom) ∧ w'.cell? ⟨w2.heap.size, 0, none⟩ = some (.int .i64 z.t.v) ∧ w'.cell? ⟨w2.heap.size, 1, none⟩ = some (.int .i64 z.t.h) ∧ w'.cell? ⟨w2.heap.size, 2, none⟩ = some (.slice A5 z.ps.length cap5) ∧ w'.cell? ⟨w2.heap.size, 3, none⟩ = some (.int .i64 z.r.heat) ∧ w'.cell? ⟨w2.heap.size, 4, none⟩ = some (.int .i64 z.r.room) ∧ w'.cell? ⟨w3.heap.size, 0, none⟩ = some (.int .i64 F.v) ∧ w'.cell? ⟨w3.heap.size, 1, none⟩ = some (.int .i64 F.h)) [] (by kernel_rfl) ?_
        refine wpLate_take (i := 0) (oi := ?oi0) (v := ?v0) [] ?hi0 (by kernel_rfl) (by kernel_rfl) (by kernel_rfl) (by kernel_rfl) (by kernel_rfl) ?hQ0 (Or.inl ⟨?hw0, ?hy0⟩) HKd.out.keep ?rest0
        case hi0 => (simp only [List.getElem?_toArray, List.getElem?_cons_zero]; rfl)
        case hQ0 => exact fun _ _ _ h => h
        case hw0 => rfl
        case hy0 =>
          intro w' hSw
          obtain ⟨r0, r1, r2, r3, r4, r5, r6, r7, r8, r9, r10, r11⟩ := hSw
          go_simp
          try exact rfl
        simp only [Act.put, List.setIfInBounds_toArray, List.set_cons_zero, List.set_cons_succ]
        refine wpLate_one (i := 1) (o := ?o1) (by kernel_rfl) ?ho1 ?hk1
        case ho1 => (simp only [List.getElem?_toArray, List.getElem?_cons_zero, List.getElem?_cons_succ]; rfl)
        intro K hK
        go_simp
        refine (brine_any t ps heat hroom A cap _ HKd.out.x.p hm2 HM.out.2.2).mono ?_
        rw [HK.out.2]
        rintro e w4 ⟨rfl, hb4⟩
        have HKn := Lib.hid (HKd.out.step hb4)
        clear hb4 HKd
        try (go_wp2_with fail)
        refine hK.out _ _ (fun _ => HKn.out.keep) ?_
        clear hK K
        try simp only [Act.put, List.setIfInBounds_toArray, List.set_cons_zero, List.set_cons_succ]
        refine wpLate_take (i := 2) (oi := ?oi2) (v := ?v2) [] ?hi2 (by kernel_rfl) (by kernel_rfl) (by kernel_rfl) (by kernel_rfl) (by kernel_rfl) ?hQ2 (Or.inl ⟨?hw2, ?hy2⟩) HKn.out.keep ?rest2
        case hi2 => (simp only [List.getElem?_toArray, List.getElem?_cons_zero, List.getElem?_cons_succ]; rfl)
        case hQ2 => exact fun _ _ _ h => h
        case hw2 => rfl
        case hy2 =>
          intro w' hSw
          obtain ⟨r0, r1, r2, r3, r4, r5, r6, r7, r8, r9, r10, r11⟩ := hSw
          go_simp
          try exact rfl
        simp only [Act.put, List.setIfInBounds_toArray, List.set_cons_zero, List.set_cons_succ]
        refine wpLate_take (i := 3) (oi := ?oi3) (v := ?v3) [] ?hi3 (by kernel_rfl) (by kernel_rfl) (by kernel_rfl) (by kernel_rfl) (by kernel_rfl) ?hQ3 (Or.inl ⟨?hw3, ?hy3⟩) HKn.out.keep ?rest3
        case hi3 => (simp only [List.getElem?_toArray, List.getElem?_cons_zero, List.getElem?_cons_succ]; rfl)
        case hQ3 => exact fun _ _ _ h => h
        case hw3 => rfl
        case hy3 =>
          intro w' hSw
          obtain ⟨r0, r1, r2, r3, r4, r5, r6, r7, r8, r9, r10, r11⟩ := hSw
          go_simp
          try exact rfl
        simp only [Act.put, List.setIfInBounds_toArray, List.set_cons_zero, List.set_cons_succ]
        refine wpLate_take (i := 4) (oi := ?oi4) (v := ?v4) [] ?hi4 (by kernel_rfl) (by kernel_rfl) (by kernel_rfl) (by kernel_rfl) (by kernel_rfl) ?hQ4 (Or.inl ⟨?hw4, ?hy4⟩) HKn.out.keep ?rest4
        case hi4 => (simp only [List.getElem?_toArray, List.getElem?_cons_zero, List.getElem?_cons_succ]; rfl)
        case hQ4 => exact fun _ _ _ h => h
        case hw4 => rfl
        case hy4 =>
          intro w' hSw
          obtain ⟨r0, r1, r2, r3, r4, r5, r6, r7, r8, r9, r10, r11⟩ := hSw
          go_simp
          try exact rfl
        simp only [Act.put, List.setIfInBounds_toArray, List.set_cons_zero, List.set_cons_succ]
        refine wpLate_take (i := 5) (oi := ?oi5) (v := ?v5) [] ?hi5 (by kernel_rfl) (by kernel_rfl) (by kernel_rfl) (by kernel_rfl) (by kernel_rfl) ?hQ5 (Or.inl ⟨?hw5, ?hy5⟩) HKn.out.keep ?rest5
        case hi5 => (simp only [List.getElem?_toArray, List.getElem?_cons_zero, List.getElem?_cons_succ]; rfl)
        case hQ5 => exact fun _ _ _ h => h
        case hw5 => rfl
        case hy5 =>
          intro w' hSw
          obtain ⟨r0, r1, r2, r3, r4, r5, r6, r7, r8, r9, r10, r11⟩ := hSw
          go_simp
          try exact rfl
        simp only [Act.put, List.setIfInBounds_toArray, List.set_cons_zero, List.set_cons_succ]
        refine wpLate_take (i := 6) (oi := ?oi6) (v := ?v6) [] ?hi6 (by kernel_rfl) (by kernel_rfl) (by kernel_rfl) (by kernel_rfl) (by kernel_rfl) ?hQ6 (Or.inl ⟨?hw6, ?hy6⟩) HKn.out.keep ?rest6
        case hi6 => (simp only [List.getElem?_toArray, List.getElem?_cons_zero, List.getElem?_cons_succ]; rfl)
        case hQ6 => exact fun _ _ _ h => h
        case hw6 => rfl
        case hy6 =>
          intro w' hSw
          obtain ⟨r0, r1, r2, r3, r4, r5, r6, r7, r8, r9, r10, r11⟩ := hSw
          go_simp
          try exact rfl
        simp only [Act.put, List.setIfInBounds_toArray, List.set_cons_zero, List.set_cons_succ]
        refine wpLate_take (i := 7) (oi := ?oi7) (v := ?v7) [] ?hi7 (by kernel_rfl) (by kernel_rfl) (by kernel_rfl) (by kernel_rfl) (by kernel_rfl) ?hQ7 (Or.inl ⟨?hw7, ?hy7⟩) HKn.out.keep ?rest7
        case hi7 => (simp only [List.getElem?_toArray, List.getElem?_cons_zero, List.getElem?_cons_succ]; rfl)
        case hQ7 => exact fun _ _ _ h => h
        case hw7 => rfl
        case hy7 =>
          intro w' hSw
          obtain ⟨r0, r1, r2, r3, r4, r5, r6, r7, r8, r9, r10, r11⟩ := hSw
          go_simp
          try exact rfl
        simp only [Act.put, List.setIfInBounds_toArray, List.set_cons_zero, List.set_cons_succ]
        refine wpLate_take (i := 8) (oi := ?oi8) (v := ?v8) [] ?hi8 (by kernel_rfl) (by kernel_rfl) (by kernel_rfl) (by kernel_rfl) (by kernel_rfl) ?hQ8 (Or.inl ⟨?hw8, ?hy8⟩) HKn.out.keep ?rest8
        case hi8 => (simp only [List.getElem?_toArray, List.getElem?_cons_zero, List.getElem?_cons_succ]; rfl)
        case hQ8 => exact fun _ _ _ h => h
        case hw8 => rfl
        case hy8 =>
          intro w' hSw
          obtain ⟨r0, r1, r2, r3, r4, r5, r6, r7, r8, r9, r10, r11⟩ := hSw
          go_simp
          try exact rfl
        simp only [Act.put, List.setIfInBounds_toArray, List.set_cons_zero, List.set_cons_succ]
        refine wpLate_take (i := 9) (oi := ?oi9) (v := ?v9) [] ?hi9 (by kernel_rfl) (by kernel_rfl) (by kernel_rfl) (by kernel_rfl) (by kernel_rfl) ?hQ9 (Or.inl ⟨?hw9, ?hy9⟩) HKn.out.keep ?rest9
        case hi9 => (simp only [List.getElem?_toArray, List.getElem?_cons_zero, List.getElem?_cons_succ]; rfl)
        case hQ9 => exact fun _ _ _ h => h
        case hw9 => rfl
        case hy9 =>
          intro w' hSw
          obtain ⟨r0, r1, r2, r3, r4, r5, r6, r7, r8, r9, r10, r11⟩ := hSw
          go_simp
          try exact rfl
        simp only [Act.put, List.setIfInBounds_toArray, List.set_cons_zero, List.set_cons_succ]
        refine wpLate_take (i := 10) (oi := ?oi10) (v := ?v10) [] ?hi10 (by kernel_rfl) (by kernel_rfl) (by kernel_rfl) (by kernel_rfl) (by kernel_rfl) ?hQ10 (Or.inl ⟨?hw10, ?hy10⟩) HKn.out.keep ?rest10
        case hi10 => (simp only [List.getElem?_toArray, List.getElem?_cons_zero, List.getElem?_cons_succ]; rfl)
        case hQ10 => exact fun _ _ _ h => h
        case hw10 => rfl
        case hy10 =>
          intro w' hSw
          obtain ⟨r0, r1, r2, r3, r4, r5, r6, r7, r8, r9, r10, r11⟩ := hSw
          go_simp
          try exact rfl
        simp only [Act.put, List.setIfInBounds_toArray, List.set_cons_zero, List.set_cons_succ]
        refine wpLate_take (i := 11) (oi := ?oi11) (v := ?v11) [] ?hi11 (by kernel_rfl) (by kernel_rfl) (by kernel_rfl) (by kernel_rfl) (by kernel_rfl) ?hQ11 (Or.inl ⟨?hw11, ?hy11⟩) HKn.out.keep ?rest11
        case hi11 => (simp only [List.getElem?_toArray, List.getElem?_cons_zero, List.getElem?_cons_succ]; rfl)
        case hQ11 => exact fun _ _ _ h => h
        case hw11 => rfl
        case hy11 =>
          intro w' hSw
          obtain ⟨r0, r1, r2, r3, r4, r5, r6, r7, r8, r9, r10, r11⟩ := hSw
          go_simp
          try exact rfl
        simp only [Act.put, List.setIfInBounds_toArray, List.set_cons_zero, List.set_cons_succ]
        refine wpLate_take (i := 12) (oi := ?oi12) (v := ?v12) [] ?hi12 (by kernel_rfl) (by kernel_rfl) (by kernel_rfl) (by kernel_rfl) (by kernel_rfl) ?hQ12 (Or.inl ⟨?hw12, ?hy12⟩) HKn.out.keep ?rest12
        case hi12 => (simp only [List.getElem?_toArray, List.getElem?_cons_zero, List.getElem?_cons_succ]; rfl)
        case hQ12 => exact fun _ _ _ h => h
        case hw12 => rfl
        case hy12 =>
          intro w' hSw
          obtain ⟨r0, r1, r2, r3, r4, r5, r6, r7, r8, r9, r10, r11⟩ := hSw
          go_simp
          try exact rfl
        simp only [Act.put, List.setIfInBounds_toArray, List.set_cons_zero, List.set_cons_succ]
        refine wpLate_take (i := 13) (oi := ?oi13) (v := ?v13) [] ?hi13 (by kernel_rfl) (by kernel_rfl) (by kernel_rfl) (by kernel_rfl) (by kernel_rfl) ?hQ13 (Or.inl ⟨?hw13, ?hy13⟩) HKn.out.keep ?rest13
        case hi13 => (simp only [List.getElem?_toArray, List.getElem?_cons_zero, List.getElem?_cons_succ]; rfl)
        case hQ13 => exact fun _ _ _ h => h
        case hw13 => rfl
        case hy13 =>
          intro w' hSw
          obtain ⟨r0, r1, r2, r3, r4, r5, r6, r7, r8, r9, r10, r11⟩ := hSw
          go_simp
          try exact rfl
        simp only [Act.put, List.setIfInBounds_toArray, List.set_cons_zero, List.set_cons_succ]
        refine wpLate_take (i := 14) (oi := ?oi14) (v := ?v14) [] ?hi14 (by kernel_rfl) (by kernel_rfl) (by kernel_rfl) (by kernel_rfl) (by kernel_rfl) ?hQ14 (Or.inl ⟨?hw14, ?hy14⟩) HKn.out.keep ?rest14
        case hi14 => (simp only [List.getElem?_toArray, List.getElem?_cons_zero, List.getElem?_cons_succ]; rfl)
        case hQ14 => exact fun _ _ _ h => h
        case hw14 => rfl
        case hy14 =>
          intro w' hSw
          obtain ⟨r0, r1, r2, r3, r4, r5, r6, r7, r8, r9, r10, r11⟩ := hSw
          go_simp
          try exact rfl
        simp only [Act.put, List.setIfInBounds_toArray, List.set_cons_zero, List.set_cons_succ]
        refine wpLate_take (i := 15) (oi := ?oi15) (v := ?v15) [] ?hi15 (by kernel_rfl) (by kernel_rfl) (by kernel_rfl) (by kernel_rfl) (by kernel_rfl) ?hQ15 (Or.inl ⟨?hw15, ?hy15⟩) HKn.out.keep ?rest15
        case hi15 => (simp only [List.getElem?_toArray, List.getElem?_cons_zero, List.getElem?_cons_succ]; rfl)
        case hQ15 => exact fun _ _ _ h => h
        case hw15 => rfl
        case hy15 =>
          intro w' hSw
          obtain ⟨r0, r1, r2, r3, r4, r5, r6, r7, r8, r9, r10, r11⟩ := hSw
          go_simp
          try exact rfl
        simp only [Act.put, List.setIfInBounds_toArray, List.set_cons_zero, List.set_cons_succ]
        refine wpLate_one (i := 16) (o := ?o16) (by kernel_rfl) ?ho16 ?hk16
        case ho16 => (simp only [List.getElem?_toArray, List.getElem?_cons_zero, List.getElem?_cons_succ]; rfl)
        intro K hK
        go_simp
        refine (sumRef_any t ps heat hroom A cap _ HKn.out.x.p hm2 HM.out.2.2 HK.out.1.p1).mono ?_
        rw [← HF.out]
        rintro e w5 ⟨rfl, hb5⟩
        have HKm := Lib.hid (HKn.out.step hb5)
        clear hb5
        try (go_wp2_with fail)
        refine hK.out _ _ (fun _ => HKm.out.keep) ?_
        clear hK K
        try simp only [Act.put, List.setIfInBounds_toArray, List.set_cons_zero, List.set_cons_succ]
        refine wpLate_take (i := 17) (oi := ?oi17) (v := ?v17) [] ?hi17 (by kernel_rfl) (by kernel_rfl) (by kernel_rfl) (by kernel_rfl) (by kernel_rfl) ?hQ17 (Or.inl ⟨?hw17, ?hy17⟩) HKm.out.keep ?rest17
        case hi17 => (simp only [List.getElem?_toArray, List.getElem?_cons_zero, List.getElem?_cons_succ]; rfl)
        case hQ17 => exact fun _ _ _ h => h
        case hw17 => rfl
        case hy17 =>
          intro w' hSw
          obtain ⟨r0, r1, r2, r3, r4, r5, r6, r7, r8, r9, r10, r11⟩ := hSw
          go_simp
          try exact rfl
        simp only [Act.put, List.setIfInBounds_toArray, List.set_cons_zero, List.set_cons_succ]
        refine wpLate_take (i := 18) (oi := ?oi18) (v := ?v18) [] ?hi18 (by kernel_rfl) (by kernel_rfl) (by kernel_rfl) (by kernel_rfl) (by kernel_rfl) ?hQ18 (Or.inl ⟨?hw18, ?hy18⟩) HKm.out.keep ?rest18
        case hi18 => (simp only [List.getElem?_toArray, List.getElem?_cons_zero, List.getElem?_cons_succ]; rfl)
        case hQ18 => exact fun _ _ _ h => h
        case hw18 => rfl
        case hy18 =>
          intro w' hSw
          obtain ⟨r0, r1, r2, r3, r4, r5, r6, r7, r8, r9, r10, r11⟩ := hSw
          go_simp
          try exact rfl
        simp only [Act.put, List.setIfInBounds_toArray, List.set_cons_zero, List.set_cons_succ]
        refine wpLate_take (i := 19) (oi := ?oi19) (v := ?v19) [] ?hi19 (by kernel_rfl) (by kernel_rfl) (by kernel_rfl) (by kernel_rfl) (by kernel_rfl) ?hQ19 (Or.inl ⟨?hw19, ?hy19⟩) HKm.out.keep ?rest19
        case hi19 => (simp only [List.getElem?_toArray, List.getElem?_cons_zero, List.getElem?_cons_succ]; rfl)
        case hQ19 => exact fun _ _ _ h => h
        case hw19 => rfl
        case hy19 =>
          intro w' hSw
          obtain ⟨r0, r1, r2, r3, r4, r5, r6, r7, r8, r9, r10, r11⟩ := hSw
          go_simp
          try exact rfl
        simp only [Act.put, List.setIfInBounds_toArray, List.set_cons_zero, List.set_cons_succ]
        refine wpLate_take (i := 20) (oi := ?oi20) (v := ?v20) [] ?hi20 (by kernel_rfl) (by kernel_rfl) (by kernel_rfl) (by kernel_rfl) (by kernel_rfl) ?hQ20 (Or.inl ⟨?hw20, ?hy20⟩) HKm.out.keep ?rest20
        case hi20 => (simp only [List.getElem?_toArray, List.getElem?_cons_zero, List.getElem?_cons_succ]; rfl)
        case hQ20 => exact fun _ _ _ h => h
        case hw20 => rfl
        case hy20 =>
          intro w' hSw
          obtain ⟨r0, r1, r2, r3, r4, r5, r6, r7, r8, r9, r10, r11⟩ := hSw
          go_simp
          try exact rfl
        simp only [Act.put, List.setIfInBounds_toArray, List.set_cons_zero, List.set_cons_succ]
        refine wpLate_take (i := 21) (oi := ?oi21) (v := ?v21) [] ?hi21 (by kernel_rfl) (by kernel_rfl) (by kernel_rfl) (by kernel_rfl) (by kernel_rfl) ?hQ21 (Or.inl ⟨?hw21, ?hy21⟩) HKm.out.keep ?rest21
        case hi21 => (simp only [List.getElem?_toArray, List.getElem?_cons_zero, List.getElem?_cons_succ]; rfl)
        case hQ21 => exact fun _ _ _ h => h
        case hw21 => rfl
        case hy21 =>
          intro w' hSw
          obtain ⟨r0, r1, r2, r3, r4, r5, r6, r7, r8, r9, r10, r11⟩ := hSw
          go_simp
          try exact rfl
        simp only [Act.put, List.setIfInBounds_toArray, List.set_cons_zero, List.set_cons_succ]
        refine wpLate_take (i := 22) (oi := ?oi22) (v := ?v22) [] ?hi22 (by kernel_rfl) (by kernel_rfl) (by kernel_rfl) (by kernel_rfl) (by kernel_rfl) ?hQ22 (Or.inl ⟨?hw22, ?hy22⟩) HKm.out.keep ?rest22
        case hi22 => (simp only [List.getElem?_toArray, List.getElem?_cons_zero, List.getElem?_cons_succ]; rfl)
        case hQ22 => exact fun _ _ _ h => h
        case hw22 => rfl
        case hy22 =>
          intro w' hSw
          obtain ⟨r0, r1, r2, r3, r4, r5, r6, r7, r8, r9, r10, r11⟩ := hSw
          go_simp
          try exact rfl
        simp only [Act.put, List.setIfInBounds_toArray, List.set_cons_zero, List.set_cons_succ]
        refine wpLate_take (i := 23) (oi := ?oi23) (v := ?v23) [] ?hi23 (by kernel_rfl) (by kernel_rfl) (by kernel_rfl) (by kernel_rfl) (by kernel_rfl) ?hQ23 (Or.inl ⟨?hw23, ?hy23⟩) HKm.out.keep ?rest23
        case hi23 => (simp only [List.getElem?_toArray, List.getElem?_cons_zero, List.getElem?_cons_succ]; rfl)
        case hQ23 => exact fun _ _ _ h => h
        case hw23 => rfl
        case hy23 =>
          intro w' hSw
          obtain ⟨r0, r1, r2, r3, r4, r5, r6, r7, r8, r9, r10, r11⟩ := hSw
          go_simp
          try exact rfl
        simp only [Act.put, List.setIfInBounds_toArray, List.set_cons_zero, List.set_cons_succ]
        refine wpLate_take (i := 24) (oi := ?oi24) (v := ?v24) [] ?hi24 (by kernel_rfl) (by kernel_rfl) (by kernel_rfl) (by kernel_rfl) (by kernel_rfl) ?hQ24 (Or.inl ⟨?hw24, ?hy24⟩) HKm.out.keep ?rest24
        case hi24 => (simp only [List.getElem?_toArray, List.getElem?_cons_zero, List.getElem?_cons_succ]; rfl)
        case hQ24 => exact fun _ _ _ h => h
        case hw24 => rfl
        case hy24 =>
          intro w' hSw
          obtain ⟨r0, r1, r2, r3, r4, r5, r6, r7, r8, r9, r10, r11⟩ := hSw
          go_simp
          try exact rfl
        simp only [Act.put, List.setIfInBounds_toArray, List.set_cons_zero, List.set_cons_succ]
        refine wpLate_take (i := 25) (oi := ?oi25) (v := ?v25) [] ?hi25 (by kernel_rfl) (by kernel_rfl) (by kernel_rfl) (by kernel_rfl) (by kernel_rfl) ?hQ25 (Or.inl ⟨?hw25, ?hy25⟩) HKm.out.keep ?rest25
        case hi25 => (simp only [List.getElem?_toArray, List.getElem?_cons_zero, List.getElem?_cons_succ]; rfl)
        case hQ25 => exact fun _ _ _ h => h
        case hw25 => rfl
        case hy25 =>
          intro w' hSw
          obtain ⟨r0, r1, r2, r3, r4, r5, r6, r7, r8, r9, r10, r11⟩ := hSw
          go_simp
          try exact rfl
        simp only [Act.put, List.setIfInBounds_toArray, List.set_cons_zero, List.set_cons_succ]
        refine wpLate_take (i := 26) (oi := ?oi26) (v := ?v26) [] ?hi26 (by kernel_rfl) (by kernel_rfl) (by kernel_rfl) (by kernel_rfl) (by kernel_rfl) ?hQ26 (Or.inl ⟨?hw26, ?hy26⟩) HKm.out.keep ?rest26
        case hi26 => (simp only [List.getElem?_toArray, List.getElem?_cons_zero, List.getElem?_cons_succ]; rfl)
        case hQ26 => exact fun _ _ _ h => h
        case hw26 => rfl
        case hy26 =>
          intro w' hSw
          obtain ⟨r0, r1, r2, r3, r4, r5, r6, r7, r8, r9, r10, r11⟩ := hSw
          go_simp
          try exact rfl
        simp only [Act.put, List.setIfInBounds_toArray, List.set_cons_zero, List.set_cons_succ]
        refine wpLate_take (i := 27) (oi := ?oi27) (v := ?v27) [] ?hi27 (by kernel_rfl) (by kernel_rfl) (by kernel_rfl) (by kernel_rfl) (by kernel_rfl) ?hQ27 (Or.inl ⟨?hw27, ?hy27⟩) HKm.out.keep ?rest27
        case hi27 => (simp only [List.getElem?_toArray, List.getElem?_cons_zero, List.getElem?_cons_succ]; rfl)
        case hQ27 => exact fun _ _ _ h => h
        case hw27 => rfl
        case hy27 =>
          intro w' hSw
          obtain ⟨r0, r1, r2, r3, r4, r5, r6, r7, r8, r9, r10, r11⟩ := hSw
          go_simp
          try exact rfl
        simp only [Act.put, List.setIfInBounds_toArray, List.set_cons_zero, List.set_cons_succ]
        refine wpLate_take (i := 28) (oi := ?oi28) (v := ?v28) [] ?hi28 (by kernel_rfl) (by kernel_rfl) (by kernel_rfl) (by kernel_rfl) (by kernel_rfl) ?hQ28 (Or.inl ⟨?hw28, ?hy28⟩) HKm.out.keep ?rest28
        case hi28 => (simp only [List.getElem?_toArray, List.getElem?_cons_zero, List.getElem?_cons_succ]; rfl)
        case hQ28 => exact fun _ _ _ h => h
        case hw28 => rfl
        case hy28 =>
          intro w' hSw
          obtain ⟨r0, r1, r2, r3, r4, r5, r6, r7, r8, r9, r10, r11⟩ := hSw
          go_simp
          try exact rfl
        simp only [Act.put, List.setIfInBounds_toArray, List.set_cons_zero, List.set_cons_succ]
        refine wpLate_take (i := 29) (oi := ?oi29) (v := ?v29) [] ?hi29 (by kernel_rfl) (by kernel_rfl) (by kernel_rfl) (by kernel_rfl) (by kernel_rfl) ?hQ29 (Or.inl ⟨?hw29, ?hy29⟩) HKm.out.keep ?rest29
        case hi29 => (simp only [List.getElem?_toArray, List.getElem?_cons_zero, List.getElem?_cons_succ]; rfl)
        case hQ29 => exact fun _ _ _ h => h
        case hw29 => rfl
        case hy29 =>
          intro w' hSw
          obtain ⟨r0, r1, r2, r3, r4, r5, r6, r7, r8, r9, r10, r11⟩ := hSw
          go_simp
          try exact rfl
        simp only [Act.put, List.setIfInBounds_toArray, List.set_cons_zero, List.set_cons_succ]
        refine wpLate_take (i := 30) (oi := ?oi30) (v := ?v30) [] ?hi30 (by kernel_rfl) (by kernel_rfl) (by kernel_rfl) (by kernel_rfl) (by kernel_rfl) ?hQ30 (Or.inl ⟨?hw30, ?hy30⟩) HKm.out.keep ?rest30
        case hi30 => (simp only [List.getElem?_toArray, List.getElem?_cons_zero, List.getElem?_cons_succ]; rfl)
        case hQ30 => exact fun _ _ _ h => h
        case hw30 => rfl
        case hy30 =>
          intro w' hSw
          obtain ⟨r0, r1, r2, r3, r4, r5, r6, r7, r8, r9, r10, r11⟩ := hSw
          go_simp
          try exact rfl
        simp only [Act.put, List.setIfInBounds_toArray, List.set_cons_zero, List.set_cons_succ]
        refine wpLate_take (i := 31) (oi := ?oi31) (v := ?v31) [] ?hi31 (by kernel_rfl) (by kernel_rfl) (by kernel_rfl) (by kernel_rfl) (by kernel_rfl) ?hQ31 (Or.inl ⟨?hw31, ?hy31⟩) HKm.out.keep ?rest31
        case hi31 => (simp only [List.getElem?_toArray, List.getElem?_cons_zero, List.getElem?_cons_succ]; rfl)
        case hQ31 => exact fun _ _ _ h => h
        case hw31 => rfl
        case hy31 =>
          intro w' hSw
          obtain ⟨r0, r1, r2, r3, r4, r5, r6, r7, r8, r9, r10, r11⟩ := hSw
          go_simp
          try exact rfl
        simp only [Act.put, List.setIfInBounds_toArray, List.set_cons_zero, List.set_cons_succ]
        refine wpLate_take (i := 32) (oi := ?oi32) (v := ?v32) [] ?hi32 (by kernel_rfl) (by kernel_rfl) (by kernel_rfl) (by kernel_rfl) (by kernel_rfl) ?hQ32 (Or.inl ⟨?hw32, ?hy32⟩) HKm.out.keep ?rest32
        case hi32 => (simp only [List.getElem?_toArray, List.getElem?_cons_zero, List.getElem?_cons_succ]; rfl)
        case hQ32 => exact fun _ _ _ h => h
        case hw32 => rfl
        case hy32 =>
          intro w' hSw
          obtain ⟨r0, r1, r2, r3, r4, r5, r6, r7, r8, r9, r10, r11⟩ := hSw
          go_simp
          try exact rfl
        simp only [Act.put, List.setIfInBounds_toArray, List.set_cons_zero, List.set_cons_succ]
        refine wpLate_take (i := 33) (oi := ?oi33) (v := ?v33) [] ?hi33 (by kernel_rfl) (by kernel_rfl) (by kernel_rfl) (by kernel_rfl) (by kernel_rfl) ?hQ33 (Or.inl ⟨?hw33, ?hy33⟩) HKm.out.keep ?rest33
        case hi33 => (simp only [List.getElem?_toArray, List.getElem?_cons_zero, List.getElem?_cons_succ]; rfl)
        case hQ33 => exact fun _ _ _ h => h
        case hw33 => rfl
        case hy33 =>
          intro w' hSw
          obtain ⟨r0, r1, r2, r3, r4, r5, r6, r7, r8, r9, r10, r11⟩ := hSw
          go_simp
          try exact rfl
        simp only [Act.put, List.setIfInBounds_toArray, List.set_cons_zero, List.set_cons_succ]
        refine wpLate_take (i := 34) (oi := ?oi34) (v := ?v34) [] ?hi34 (by kernel_rfl) (by kernel_rfl) (by kernel_rfl) (by kernel_rfl) (by kernel_rfl) ?hQ34 (Or.inl ⟨?hw34, ?hy34⟩) HKm.out.keep ?rest34
        case hi34 => (simp only [List.getElem?_toArray, List.getElem?_cons_zero, List.getElem?_cons_succ]; rfl)
        case hQ34 => exact fun _ _ _ h => h
        case hw34 => rfl
        case hy34 =>
          intro w' hSw
          obtain ⟨r0, r1, r2, r3, r4, r5, r6, r7, r8, r9, r10, r11⟩ := hSw
          go_simp
          try exact rfl
        simp only [Act.put, List.setIfInBounds_toArray, List.set_cons_zero, List.set_cons_succ]
        refine wpLate_take (i := 35) (oi := ?oi35) (v := ?v35) [] ?hi35 (by kernel_rfl) (by kernel_rfl) (by kernel_rfl) (by kernel_rfl) (by kernel_rfl) ?hQ35 (Or.inl ⟨?hw35, ?hy35⟩) HKm.out.keep ?rest35
        case hi35 => (simp only [List.getElem?_toArray, List.getElem?_cons_zero, List.getElem?_cons_succ]; rfl)
        case hQ35 => exact fun _ _ _ h => h
        case hw35 => rfl
        case hy35 =>
          intro w' hSw
          obtain ⟨r0, r1, r2, r3, r4, r5, r6, r7, r8, r9, r10, r11⟩ := hSw
          go_simp
          try exact rfl
        simp only [Act.put, List.setIfInBounds_toArray, List.set_cons_zero, List.set_cons_succ]
        refine wpLate_take (i := 36) (oi := ?oi36) (v := ?v36) [] ?hi36 (by kernel_rfl) (by kernel_rfl) (by kernel_rfl) (by kernel_rfl) (by kernel_rfl) ?hQ36 (Or.inl ⟨?hw36, ?hy36⟩) HKm.out.keep ?rest36
        case hi36 => (simp only [List.getElem?_toArray, List.getElem?_cons_zero, List.getElem?_cons_succ]; rfl)
        case hQ36 => exact fun _ _ _ h => h
        case hw36 => rfl
        case hy36 =>
          intro w' hSw
          obtain ⟨r0, r1, r2, r3, r4, r5, r6, r7, r8, r9, r10, r11⟩ := hSw
          go_simp
          try exact rfl
        simp only [Act.put, List.setIfInBounds_toArray, List.set_cons_zero, List.set_cons_succ]
        refine wpLate_take (i := 37) (oi := ?oi37) (v := ?v37) [] ?hi37 (by kernel_rfl) (by kernel_rfl) (by kernel_rfl) (by kernel_rfl) (by kernel_rfl) ?hQ37 (Or.inl ⟨?hw37, ?hy37⟩) HKm.out.keep ?rest37
        case hi37 => (simp only [List.getElem?_toArray, List.getElem?_cons_zero, List.getElem?_cons_succ]; rfl)
        case hQ37 => exact fun _ _ _ h => h
        case hw37 => rfl
        case hy37 =>
          intro w' hSw
          obtain ⟨r0, r1, r2, r3, r4, r5, r6, r7, r8, r9, r10, r11⟩ := hSw
          go_simp
          try exact rfl
        simp only [Act.put, List.setIfInBounds_toArray, List.set_cons_zero, List.set_cons_succ]
        refine wpLate_take (i := 38) (oi := ?oi38) (v := ?v38) [] ?hi38 (by kernel_rfl) (by kernel_rfl) (by kernel_rfl) (by kernel_rfl) (by kernel_rfl) ?hQ38 (Or.inl ⟨?hw38, ?hy38⟩) HKm.out.keep ?rest38
        case hi38 => (simp only [List.getElem?_toArray, List.getElem?_cons_zero, List.getElem?_cons_succ]; rfl)
        case hQ38 => exact fun _ _ _ h => h
        case hw38 => rfl
        case hy38 =>
          intro w' hSw
          obtain ⟨r0, r1, r2, r3, r4, r5, r6, r7, r8, r9, r10, r11⟩ := hSw
          go_simp
          try exact rfl
        simp only [Act.put, List.setIfInBounds_toArray, List.set_cons_zero, List.set_cons_succ]
        refine wpLate_take (i := 39) (oi := ?oi39) (v := ?v39) [] ?hi39 (by kernel_rfl) (by kernel_rfl) (by kernel_rfl) (by kernel_rfl) (by kernel_rfl) ?hQ39 (Or.inl ⟨?hw39, ?hy39⟩) HKm.out.keep ?rest39
        case hi39 => (simp only [List.getElem?_toArray, List.getElem?_cons_zero, List.getElem?_cons_succ]; rfl)
        case hQ39 => exact fun _ _ _ h => h
        case hw39 => rfl
        case hy39 =>
          intro w' hSw
          obtain ⟨r0, r1, r2, r3, r4, r5, r6, r7, r8, r9, r10, r11⟩ := hSw
          go_simp
          try exact rfl
        simp only [Act.put, List.setIfInBounds_toArray, List.set_cons_zero, List.set_cons_succ]
        refine wpLate_take (i := 40) (oi := ?oi40) (v := ?v40) [] ?hi40 (by kernel_rfl) (by kernel_rfl) (by kernel_rfl) (by kernel_rfl) (by kernel_rfl) ?hQ40 (Or.inl ⟨?hw40, ?hy40⟩) HKm.out.keep ?rest40
        case hi40 => (simp only [List.getElem?_toArray, List.getElem?_cons_zero, List.getElem?_cons_succ]; rfl)
        case hQ40 => exact fun _ _ _ h => h
        case hw40 => rfl
        case hy40 =>
          intro w' hSw
          obtain ⟨r0, r1, r2, r3, r4, r5, r6, r7, r8, r9, r10, r11⟩ := hSw
          go_simp
          try exact rfl
        simp only [Act.put, List.setIfInBounds_toArray, List.set_cons_zero, List.set_cons_succ]
        refine wpLate_take (i := 41) (oi := ?oi41) (v := ?v41) [] ?hi41 (by kernel_rfl) (by kernel_rfl) (by kernel_rfl) (by kernel_rfl) (by kernel_rfl) ?hQ41 (Or.inl ⟨?hw41, ?hy41⟩) HKm.out.keep ?rest41
        case hi41 => (simp only [List.getElem?_toArray, List.getElem?_cons_zero, List.getElem?_cons_succ]; rfl)
        case hQ41 => exact fun _ _ _ h => h
        case hw41 => rfl
        case hy41 =>
          intro w' hSw
          obtain ⟨r0, r1, r2, r3, r4, r5, r6, r7, r8, r9, r10, r11⟩ := hSw
          go_simp
          try exact rfl
        simp only [Act.put, List.setIfInBounds_toArray, List.set_cons_zero, List.set_cons_succ]
        refine wpLate_take (i := 42) (oi := ?oi42) (v := ?v42) [] ?hi42 (by kernel_rfl) (by kernel_rfl) (by kernel_rfl) (by kernel_rfl) (by kernel_rfl) ?hQ42 (Or.inl ⟨?hw42, ?hy42⟩) HKm.out.keep ?rest42
        case hi42 => (simp only [List.getElem?_toArray, List.getElem?_cons_zero, List.getElem?_cons_succ]; rfl)
        case hQ42 => exact fun _ _ _ h => h
        case hw42 => rfl
        case hy42 =>
          intro w' hSw
          obtain ⟨r0, r1, r2, r3, r4, r5, r6, r7, r8, r9, r10, r11⟩ := hSw
          go_simp
          try exact rfl
        simp only [Act.put, List.setIfInBounds_toArray, List.set_cons_zero, List.set_cons_succ]
        refine wpLate_take (i := 43) (oi := ?oi43) (v := ?v43) [] ?hi43 (by kernel_rfl) (by kernel_rfl) (by kernel_rfl) (by kernel_rfl) (by kernel_rfl) ?hQ43 (Or.inl ⟨?hw43, ?hy43⟩) HKm.out.keep ?rest43
        case hi43 => (simp only [List.getElem?_toArray, List.getElem?_cons_zero, List.getElem?_cons_succ]; rfl)
        case hQ43 => exact fun _ _ _ h => h
        case hw43 => rfl
        case hy43 =>
          intro w' hSw
          obtain ⟨r0, r1, r2, r3, r4, r5, r6, r7, r8, r9, r10, r11⟩ := hSw
          go_simp
          try exact rfl
        simp only [Act.put, List.setIfInBounds_toArray, List.set_cons_zero, List.set_cons_succ]
        refine wpLate_take (i := 44) (oi := ?oi44) (v := ?v44) [] ?hi44 (by kernel_rfl) (by kernel_rfl) (by kernel_rfl) (by kernel_rfl) (by kernel_rfl) ?hQ44 (Or.inl ⟨?hw44, ?hy44⟩) HKm.out.keep ?rest44
        case hi44 => (simp only [List.getElem?_toArray, List.getElem?_cons_zero, List.getElem?_cons_succ]; rfl)
        case hQ44 => exact fun _ _ _ h => h
        case hw44 => rfl
        case hy44 =>
          intro w' hSw
          obtain ⟨r0, r1, r2, r3, r4, r5, r6, r7, r8, r9, r10, r11⟩ := hSw
          go_simp
          try exact rfl
        simp only [Act.put, List.setIfInBounds_toArray, List.set_cons_zero, List.set_cons_succ]
        refine wpLate_take (i := 45) (oi := ?oi45) (v := ?v45) [] ?hi45 (by kernel_rfl) (by kernel_rfl) (by kernel_rfl) (by kernel_rfl) (by kernel_rfl) ?hQ45 (Or.inl ⟨?hw45, ?hy45⟩) HKm.out.keep ?rest45
        case hi45 => (simp only [List.getElem?_toArray, List.getElem?_cons_zero, List.getElem?_cons_succ]; rfl)
        case hQ45 => exact fun _ _ _ h => h
        case hw45 => rfl
        case hy45 =>
          intro w' hSw
          obtain ⟨r0, r1, r2, r3, r4, r5, r6, r7, r8, r9, r10, r11⟩ := hSw
          go_simp
          try exact rfl
        simp only [Act.put, List.setIfInBounds_toArray, List.set_cons_zero, List.set_cons_succ]
        refine wpLate_take (i := 46) (oi := ?oi46) (v := ?v46) [] ?hi46 (by kernel_rfl) (by kernel_rfl) (by kernel_rfl) (by kernel_rfl) (by kernel_rfl) ?hQ46 (Or.inl ⟨?hw46, ?hy46⟩) HKm.out.keep ?rest46
        case hi46 => (simp only [List.getElem?_toArray, List.getElem?_cons_zero, List.getElem?_cons_succ]; rfl)
        case hQ46 => exact fun _ _ _ h => h
        case hw46 => rfl
        case hy46 =>
          intro w' hSw
          obtain ⟨r0, r1, r2, r3, r4, r5, r6, r7, r8, r9, r10, r11⟩ := hSw
          go_simp
          try exact rfl
        simp only [Act.put, List.setIfInBounds_toArray, List.set_cons_zero, List.set_cons_succ]
        refine wpLate_take (i := 47) (oi := ?oi47) (v := ?v47) [] ?hi47 (by kernel_rfl) (by kernel_rfl) (by kernel_rfl) (by kernel_rfl) (by kernel_rfl) ?hQ47 (Or.inl ⟨?hw47, ?hy47⟩) HKm.out.keep ?rest47
        case hi47 => (simp only [List.getElem?_toArray, List.getElem?_cons_zero, List.getElem?_cons_succ]; rfl)
        case hQ47 => exact fun _ _ _ h => h
        case hw47 => rfl
        case hy47 =>
          intro w' hSw
          obtain ⟨r0, r1, r2, r3, r4, r5, r6, r7, r8, r9, r10, r11⟩ := hSw
          go_simp
          try exact rfl
        simp only [Act.put, List.setIfInBounds_toArray, List.set_cons_zero, List.set_cons_succ]
        refine wpLate_take (i := 48) (oi := ?oi48) (v := ?v48) [] ?hi48 (by kernel_rfl) (by kernel_rfl) (by kernel_rfl) (by kernel_rfl) (by kernel_rfl) ?hQ48 (Or.inl ⟨?hw48, ?hy48⟩) HKm.out.keep ?rest48
        case hi48 => (simp only [List.getElem?_toArray, List.getElem?_cons_zero, List.getElem?_cons_succ]; rfl)
        case hQ48 => exact fun _ _ _ h => h
        case hw48 => rfl
        case hy48 =>
          intro w' hSw
          obtain ⟨r0, r1, r2, r3, r4, r5, r6, r7, r8, r9, r10, r11⟩ := hSw
          go_simp
          try exact rfl
        simp only [Act.put, List.setIfInBounds_toArray, List.set_cons_zero, List.set_cons_succ]
        refine wpLate_take (i := 49) (oi := ?oi49) (v := ?v49) [] ?hi49 (by kernel_rfl) (by kernel_rfl) (by kernel_rfl) (by kernel_rfl) (by kernel_rfl) ?hQ49 (Or.inl ⟨?hw49, ?hy49⟩) HKm.out.keep ?rest49
        case hi49 => (simp only [List.getElem?_toArray, List.getElem?_cons_zero, List.getElem?_cons_succ]; rfl)
        case hQ49 => exact fun _ _ _ h => h
        case hw49 => rfl
        case hy49 =>
          intro w' hSw
          obtain ⟨r0, r1, r2, r3, r4, r5, r6, r7, r8, r9, r10, r11⟩ := hSw
          go_simp
          try exact rfl
        simp only [Act.put, List.setIfInBounds_toArray, List.set_cons_zero, List.set_cons_succ]
        refine wpLate_take (i := 50) (oi := ?oi50) (v := ?v50) [] ?hi50 (by kernel_rfl) (by kernel_rfl) (by kernel_rfl) (by kernel_rfl) (by kernel_rfl) ?hQ50 (Or.inl ⟨?hw50, ?hy50⟩) HKm.out.keep ?rest50
        case hi50 => (simp only [List.getElem?_toArray, List.getElem?_cons_zero, List.getElem?_cons_succ]; rfl)
        case hQ50 => exact fun _ _ _ h => h
        case hw50 => rfl
        case hy50 =>
          intro w' hSw
          obtain ⟨r0, r1, r2, r3, r4, r5, r6, r7, r8, r9, r10, r11⟩ := hSw
          go_simp
          try exact rfl
        simp only [Act.put, List.setIfInBounds_toArray, List.set_cons_zero, List.set_cons_succ]
        refine wpLate_take (i := 51) (oi := ?oi51) (v := ?v51) [] ?hi51 (by kernel_rfl) (by kernel_rfl) (by kernel_rfl) (by kernel_rfl) (by kernel_rfl) ?hQ51 (Or.inl ⟨?hw51, ?hy51⟩) HKm.out.keep ?rest51
        case hi51 => (simp only [List.getElem?_toArray, List.getElem?_cons_zero, List.getElem?_cons_succ]; rfl)
        case hQ51 => exact fun _ _ _ h => h
        case hw51 => rfl
        case hy51 =>
          intro w' hSw
          obtain ⟨r0, r1, r2, r3, r4, r5, r6, r7, r8, r9, r10, r11⟩ := hSw
          go_simp
          try exact rfl
        simp only [Act.put, List.setIfInBounds_toArray, List.set_cons_zero, List.set_cons_succ]
        refine wpLate_take (i := 52) (oi := ?oi52) (v := ?v52) [] ?hi52 (by kernel_rfl) (by kernel_rfl) (by kernel_rfl) (by kernel_rfl) (by kernel_rfl) ?hQ52 (Or.inl ⟨?hw52, ?hy52⟩) HKm.out.keep ?rest52
        case hi52 => (simp only [List.getElem?_toArray, List.getElem?_cons_zero, List.getElem?_cons_succ]; rfl)
        case hQ52 => exact fun _ _ _ h => h
        case hw52 => rfl
        case hy52 =>
          intro w' hSw
          obtain ⟨r0, r1, r2, r3, r4, r5, r6, r7, r8, r9, r10, r11⟩ := hSw
          go_simp
          try exact rfl
        simp only [Act.put, List.setIfInBounds_toArray, List.set_cons_zero, List.set_cons_succ]
        refine wpLate_take (i := 53) (oi := ?oi53) (v := ?v53) [] ?hi53 (by kernel_rfl) (by kernel_rfl) (by kernel_rfl) (by kernel_rfl) (by kernel_rfl) ?hQ53 (Or.inl ⟨?hw53, ?hy53⟩) HKm.out.keep ?rest53
        case hi53 => (simp only [List.getElem?_toArray, List.getElem?_cons_zero, List.getElem?_cons_succ]; rfl)
        case hQ53 => exact fun _ _ _ h => h
        case hw53 => rfl
        case hy53 =>
          intro w' hSw
          obtain ⟨r0, r1, r2, r3, r4, r5, r6, r7, r8, r9, r10, r11⟩ := hSw
          go_simp
          try exact rfl
        simp only [Act.put, List.setIfInBounds_toArray, List.set_cons_zero, List.set_cons_succ]
        refine wpLate_take (i := 54) (oi := ?oi54) (v := ?v54) [] ?hi54 (by kernel_rfl) (by kernel_rfl) (by kernel_rfl) (by kernel_rfl) (by kernel_rfl) ?hQ54 (Or.inl ⟨?hw54, ?hy54⟩) HKm.out.keep ?rest54
        case hi54 => (simp only [List.getElem?_toArray, List.getElem?_cons_zero, List.getElem?_cons_succ]; rfl)
        case hQ54 => exact fun _ _ _ h => h
        case hw54 => rfl
        case hy54 =>
          intro w' hSw
          obtain ⟨r0, r1, r2, r3, r4, r5, r6, r7, r8, r9, r10, r11⟩ := hSw
          go_simp
          try exact rfl
        simp only [Act.put, List.setIfInBounds_toArray, List.set_cons_zero, List.set_cons_succ]
        refine wpLate_take (i := 55) (oi := ?oi55) (v := ?v55) [] ?hi55 (by kernel_rfl) (by kernel_rfl) (by kernel_rfl) (by kernel_rfl) (by kernel_rfl) ?hQ55 (Or.inl ⟨?hw55, ?hy55⟩) HKm.out.keep ?rest55
        case hi55 => (simp only [List.getElem?_toArray, List.getElem?_cons_zero, List.getElem?_cons_succ]; rfl)
        case hQ55 => exact fun _ _ _ h => h
        case hw55 => rfl
        case hy55 =>
          intro w' hSw
          obtain ⟨r0, r1, r2, r3, r4, r5, r6, r7, r8, r9, r10, r11⟩ := hSw
          go_simp
          try exact rfl
        simp only [Act.put, List.setIfInBounds_toArray, List.set_cons_zero, List.set_cons_succ]
        refine wpLate_take (i := 56) (oi := ?oi56) (v := ?v56) [] ?hi56 (by kernel_rfl) (by kernel_rfl) (by kernel_rfl) (by kernel_rfl) (by kernel_rfl) ?hQ56 (Or.inl ⟨?hw56, ?hy56⟩) HKm.out.keep ?rest56
        case hi56 => (simp only [List.getElem?_toArray, List.getElem?_cons_zero, List.getElem?_cons_succ]; rfl)
        case hQ56 => exact fun _ _ _ h => h
        case hw56 => rfl
        case hy56 =>
          intro w' hSw
          obtain ⟨r0, r1, r2, r3, r4, r5, r6, r7, r8, r9, r10, r11⟩ := hSw
          go_simp
          try exact rfl
        simp only [Act.put, List.setIfInBounds_toArray, List.set_cons_zero, List.set_cons_succ]
        refine wpLate_take (i := 57) (oi := ?oi57) (v := ?v57) [] ?hi57 (by kernel_rfl) (by kernel_rfl) (by kernel_rfl) (by kernel_rfl) (by kernel_rfl) ?hQ57 (Or.inl ⟨?hw57, ?hy57⟩) HKm.out.keep ?rest57
        case hi57 => (simp only [List.getElem?_toArray, List.getElem?_cons_zero, List.getElem?_cons_succ]; rfl)
        case hQ57 => exact fun _ _ _ h => h
        case hw57 => rfl
        case hy57 =>
          intro w' hSw
          obtain ⟨r0, r1, r2, r3, r4, r5, r6, r7, r8, r9, r10, r11⟩ := hSw
          go_simp
          try exact rfl
        simp only [Act.put, List.setIfInBounds_toArray, List.set_cons_zero, List.set_cons_succ]
        refine wpLate_take (i := 58) (oi := ?oi58) (v := ?v58) [] ?hi58 (by kernel_rfl) (by kernel_rfl) (by kernel_rfl) (by kernel_rfl) (by kernel_rfl) ?hQ58 (Or.inl ⟨?hw58, ?hy58⟩) HKm.out.keep ?rest58
        case hi58 => (simp only [List.getElem?_toArray, List.getElem?_cons_zero, List.getElem?_cons_succ]; rfl)
        case hQ58 => exact fun _ _ _ h => h
        case hw58 => rfl
        case hy58 =>
          intro w' hSw
          obtain ⟨r0, r1, r2, r3, r4, r5, r6, r7, r8, r9, r10, r11⟩ := hSw
          go_simp
          try exact rfl
        simp only [Act.put, List.setIfInBounds_toArray, List.set_cons_zero, List.set_cons_succ]
        refine wpLate_take (i := 59) (oi := ?oi59) (v := ?v59) [] ?hi59 (by kernel_rfl) (by kernel_rfl) (by kernel_rfl) (by kernel_rfl) (by kernel_rfl) ?hQ59 (Or.inl ⟨?hw59, ?hy59⟩) HKm.out.keep ?rest59
        case hi59 => (simp only [List.getElem?_toArray, List.getElem?_cons_zero, List.getElem?_cons_succ]; rfl)
        case hQ59 => exact fun _ _ _ h => h
        case hw59 => rfl
        case hy59 =>
          intro w' hSw
          obtain ⟨r0, r1, r2, r3, r4, r5, r6, r7, r8, r9, r10, r11⟩ := hSw
          go_simp
          try exact rfl
        simp only [Act.put, List.setIfInBounds_toArray, List.set_cons_zero, List.set_cons_succ]
        refine wpLate_take (i := 60) (oi := ?oi60) (v := ?v60) [] ?hi60 (by kernel_rfl) (by kernel_rfl) (by kernel_rfl) (by kernel_rfl) (by kernel_rfl) ?hQ60 (Or.inl ⟨?hw60, ?hy60⟩) HKm.out.keep ?rest60
        case hi60 => (simp only [List.getElem?_toArray, List.getElem?_cons_zero, List.getElem?_cons_succ]; rfl)
        case hQ60 => exact fun _ _ _ h => h
        case hw60 => rfl
        case hy60 =>
          intro w' hSw
          obtain ⟨r0, r1, r2, r3, r4, r5, r6, r7, r8, r9, r10, r11⟩ := hSw
          go_simp
          try exact rfl
        simp only [Act.put, List.setIfInBounds_toArray, List.set_cons_zero, List.set_cons_succ]
        refine wpLate_take (i := 61) (oi := ?oi61) (v := ?v61) [] ?hi61 (by kernel_rfl) (by kernel_rfl) (by kernel_rfl) (by kernel_rfl) (by kernel_rfl) ?hQ61 (Or.inl ⟨?hw61, ?hy61⟩) HKm.out.keep ?rest61
        case hi61 => (simp only [List.getElem?_toArray, List.getElem?_cons_zero, List.getElem?_cons_succ]; rfl)
        case hQ61 => exact fun _ _ _ h => h
        case hw61 => rfl
        case hy61 =>
          intro w' hSw
          obtain ⟨r0, r1, r2, r3, r4, r5, r6, r7, r8, r9, r10, r11⟩ := hSw
          go_simp
          try exact rfl
        simp only [Act.put, List.setIfInBounds_toArray, List.set_cons_zero, List.set_cons_succ]
        refine wpLate_take (i := 62) (oi := ?oi62) (v := ?v62) [] ?hi62 (by kernel_rfl) (by kernel_rfl) (by kernel_rfl) (by kernel_rfl) (by kernel_rfl) ?hQ62 (Or.inl ⟨?hw62, ?hy62⟩) HKm.out.keep ?rest62
        case hi62 => (simp only [List.getElem?_toArray, List.getElem?_cons_zero, List.getElem?_cons_succ]; rfl)
        case hQ62 => exact fun _ _ _ h => h
        case hw62 => rfl
        case hy62 =>
          intro w' hSw
          obtain ⟨r0, r1, r2, r3, r4, r5, r6, r7, r8, r9, r10, r11⟩ := hSw
          go_simp
          try exact rfl
        simp only [Act.put, List.setIfInBounds_toArray, List.set_cons_zero, List.set_cons_succ]
        refine wpLate_take (i := 63) (oi := ?oi63) (v := ?v63) [] ?hi63 (by kernel_rfl) (by kernel_rfl) (by kernel_rfl) (by kernel_rfl) (by kernel_rfl) ?hQ63 (Or.inl ⟨?hw63, ?hy63⟩) HKm.out.keep ?rest63
        case hi63 => (simp only [List.getElem?_toArray, List.getElem?_cons_zero, List.getElem?_cons_succ]; rfl)
        case hQ63 => exact fun _ _ _ h => h
        case hw63 => rfl
        case hy63 =>
          intro w' hSw
          obtain ⟨r0, r1, r2, r3, r4, r5, r6, r7, r8, r9, r10, r11⟩ := hSw
          go_simp
          try exact rfl
        simp only [Act.put, List.setIfInBounds_toArray, List.set_cons_zero, List.set_cons_succ]
        refine wpLate_take (i := 64) (oi := ?oi64) (v := ?v64) [] ?hi64 (by kernel_rfl) (by kernel_rfl) (by kernel_rfl) (by kernel_rfl) (by kernel_rfl) ?hQ64 (Or.inl ⟨?hw64, ?hy64⟩) HKm.out.keep ?rest64
        case hi64 => (simp only [List.getElem?_toArray, List.getElem?_cons_zero, List.getElem?_cons_succ]; rfl)
        case hQ64 => exact fun _ _ _ h => h
        case hw64 => rfl
        case hy64 =>
          intro w' hSw
          obtain ⟨r0, r1, r2, r3, r4, r5, r6, r7, r8, r9, r10, r11⟩ := hSw
          go_simp
          try exact rfl
        simp only [Act.put, List.setIfInBounds_toArray, List.set_cons_zero, List.set_cons_succ]
        refine wpLate_take (i := 65) (oi := ?oi65) (v := undef) [] ?hi65 (by kernel_rfl) (by kernel_rfl) (by kernel_rfl) (by kernel_rfl) (by kernel_rfl) ?hQ65 (Or.inr ⟨?hw65, rfl⟩) HKm.out.keep ?rest65
        case hi65 => (simp only [List.getElem?_toArray, List.getElem?_cons_zero, List.getElem?_cons_succ]; rfl)
        case hQ65 => exact fun _ _ _ h => h
        case hw65 => rfl
        simp only [Act.put, List.setIfInBounds_toArray, List.set_cons_zero, List.set_cons_succ]
        refine wpLate_take (i := 66) (oi := ?oi66) (v := undef) [] ?hi66 (by kernel_rfl) (by kernel_rfl) (by kernel_rfl) (by kernel_rfl) (by kernel_rfl) ?hQ66 (Or.inr ⟨?hw66, rfl⟩) HKm.out.keep ?rest66
        case hi66 => (simp only [List.getElem?_toArray, List.getElem?_cons_zero, List.getElem?_cons_succ]; rfl)
        case hQ66 => exact fun _ _ _ h => h
        case hw66 => rfl
        simp only [Act.put, List.setIfInBounds_toArray, List.set_cons_zero, List.set_cons_succ]
        refine wpLate_take (i := 67) (oi := ?oi67) (v := undef) [] ?hi67 (by kernel_rfl) (by kernel_rfl) (by kernel_rfl) (by kernel_rfl) (by kernel_rfl) ?hQ67 (Or.inr ⟨?hw67, rfl⟩) HKm.out.keep ?rest67
        case hi67 => (simp only [List.getElem?_toArray, List.getElem?_cons_zero, List.getElem?_cons_succ]; rfl)
        case hQ67 => exact fun _ _ _ h => h
        case hw67 => rfl
        simp only [Act.put, List.setIfInBounds_toArray, List.set_cons_zero, List.set_cons_succ]
        refine wpLate_take (i := 68) (oi := ?oi68) (v := undef) [] ?hi68 (by kernel_rfl) (by kernel_rfl) (by kernel_rfl) (by kernel_rfl) (by kernel_rfl) ?hQ68 (Or.inr ⟨?hw68, rfl⟩) HKm.out.keep ?rest68
        case hi68 => (simp only [List.getElem?_toArray, List.getElem?_cons_zero, List.getElem?_cons_succ]; rfl)
        case hQ68 => exact fun _ _ _ h => h
        case hw68 => rfl
        simp only [Act.put, List.setIfInBounds_toArray, List.set_cons_zero, List.set_cons_succ]
        refine wpLate_take (i := 69) (oi := ?oi69) (v := ?v69) [] ?hi69 (by kernel_rfl) (by kernel_rfl) (by kernel_rfl) (by kernel_rfl) (by kernel_rfl) ?hQ69 (Or.inl ⟨?hw69, ?hy69⟩) HKm.out.keep ?rest69
        case hi69 => (simp only [List.getElem?_toArray, List.getElem?_cons_zero, List.getElem?_cons_succ]; rfl)
        case hQ69 => exact fun _ _ _ h => h
        case hw69 => rfl
        case hy69 =>
          intro w' hSw
          obtain ⟨r0, r1, r2, r3, r4, r5, r6, r7, r8, r9, r10, r11⟩ := hSw
          go_simp
          try exact rfl
        simp only [Act.put, List.setIfInBounds_toArray, List.set_cons_zero, List.set_cons_succ]
        refine wpLate_take (i := 70) (oi := ?oi70) (v := ?v70) [] ?hi70 (by kernel_rfl) (by kernel_rfl) (by kernel_rfl) (by kernel_rfl) (by kernel_rfl) ?hQ70 (Or.inl ⟨?hw70, ?hy70⟩) HKm.out.keep ?rest70
        case hi70 => (simp only [List.getElem?_toArray, List.getElem?_cons_zero, List.getElem?_cons_succ]; rfl)
        case hQ70 => exact fun _ _ _ h => h
        case hw70 => rfl
        case hy70 =>
          intro w' hSw
          obtain ⟨r0, r1, r2, r3, r4, r5, r6, r7, r8, r9, r10, r11⟩ := hSw
          go_simp
          try exact rfl
        simp only [Act.put, List.setIfInBounds_toArray, List.set_cons_zero, List.set_cons_succ]
        refine wpLate_done (by kernel_rfl) ?_ _
        try simp only [Act.put, List.setIfInBounds_toArray, List.set_cons_zero, List.set_cons_succ]
        try go_wp2_with fail
        go_meet
        exact ⟨rfl, HKm.out⟩
    case rest =>
      obtain ⟨rfl, HC⟩ := hcut
      clear HKd cl2 el2 H3 HC3 H2 H1 H0 hqn hqF q1 q2 q3 q4 q5 q6
      have e2 : World.cell? _ ⟨w2.heap.size, 2, none⟩ = some (.slice A5 z.ps.length cap5) := HC.out.e.cell 2
      have el := HC.out.e.lt
      have hzl : z.ps.length ≤ 9223372036854775807 := by have := HK.out.1.len; omega
      go_wp2_with fail
      go_loopw [136] (fun i wr => ∃ k : Nat, k ≤ z.ps.length ∧ i = .int .i64 k ∧ Hid (Kp W wr t ps A cap heat hroom l A' z A5 cap5 w2.heap.size w3.heap.size F)) (fun i _ => z.ps.length - (intOf i).toNat)
      case atStart => exact ⟨0, Nat.zero_le _, rfl, HC.out⟩
      case round =>
        obtain ⟨k, hk, rfl, HR⟩ := hrel
        clear HC e2 el
        by_cases hlt : k < z.ps.length
        · have hlt' : (k : Int) < z.ps.length := by omega
          have hkp : k < ps.length := by have := HK.out.1.len; omega
          have hkp' : (k : Int) < ps.length := by omega
          obtain ⟨g, o, A6, cap6, eA, hgw, d0, d1, hs⟩ := HR.out.q k hlt
          obtain ⟨g7, o7, A7, cap7, eA7, hgw7, b0, -, -⟩ := HR.out.x.p k hkp
          subst eA eA7
          have hok := HK.out.1.ok _ (List.getElem_mem hlt)
          have hrm := HK.out.1.rooms k hlt hkp
          obtain ⟨p, hp⟩ : ∃ p, p = z.ps[k] := ⟨_, rfl⟩
          rw [← hp] at d0 d1 hs hok hrm
          rw [← hrm] at b0
          have hlen := hok.len
          have hle := hok.le
          have hr2 := hok.r2
          have c2 : wr.cell? ⟨W.heap.size, 2, none⟩ = some (.slice (some ⟨g7, o7, none⟩) ps.length cap) := HR.out.x.b.cell 2
          have cl := HR.out.x.b.lt
          have HP := Lib.hid (And.intro hs (And.intro hok hp))
          clear hs hok hrm hp
          go_wp2_with fail
          have hH1 := HR.out.step (below_one wr (.cells #[.int .i64 p.room, .slice A6 p.l.length cap6] 51))
          have hN1 : Has (wr.alloc (.cells #[.int .i64 p.room, .slice A6 p.l.length cap6] 51)) wr.heap.size 51 #[.int .i64 p.room, .slice A6 p.l.length cap6] := Has.new _ _ _
          have hS1 := HP.out.1.below ((below_one wr (.cells #[.int .i64 p.room, .slice A6 p.l.length cap6] 51)))
          have HN := Lib.hid (And.intro hH1 (And.intro hN1 hS1))
          have HB0 := Lib.hid b0
          clear hH1 hN1 hS1 d0 d1 c2 b0
          obtain ⟨Bk, hBk⟩ : ∃ Bk, Bk = wr.heap.size := ⟨_, rfl⟩
          obtain ⟨wo, hwo⟩ : ∃ wo, wo = wr.alloc (.cells #[.int .i64 p.room, .slice A6 p.l.length cap6] 51) := ⟨_, rfl⟩
          have HBo : Hid (Below wr.heap.size wr wo) := by rw [hwo]; exact below_one _ _
          rw [← hwo] at HN ⊢
          rw [← hBk] at HN hgw hgw7 HBo cl ⊢
          have HBk := Lib.hid (And.intro hBk hwo)
          clear hBk hwo
          obtain ⟨wp, rfl⟩ : ∃ wp, wp = wr := ⟨_, rfl⟩
          go_loopw [144, 13] (fun j s wx => ∃ m : Nat, m ≤ p.l.length ∧ j = .int .i64 m ∧ s = .int .i64 (vol (p.l.take m)) ∧ Hid (Below wo.heap.size wo wx)) (fun j _ _ => p.l.length - (intOf j).toNat)
          case atStart => exact ⟨0, Nat.zero_le _, rfl, rfl, Below.refl _ _⟩
          case round =>
            obtain ⟨m, hm, rfl, rfl, HX⟩ := hrel
            have hvt := volt_le HP.out.2.1.sl m
            have hv0 := hvt.1
            have hv1 := hvt.2.1
            clear hvt
            have hwx := HX.out.size
            have hno := HN.out.2.1.lt
            by_cases hmt : m < p.l.length
            · have hmt' : (m : Int) < p.l.length := by omega
              obtain ⟨g8, o8, eA8, hg8, y0, y1⟩ := (HN.out.2.2.below (HX.out.mono (by omega))) m hmt
              subst eA8
              have hg8w : g8 < wr.heap.size := by omega
              have hos := HP.out.2.1.sl _ (List.getElem_mem hmt)
              have hvs := (vol_take p.l m hmt).1
              obtain ⟨x, hx⟩ : ∃ x, x = p.l[m] := ⟨_, rfl⟩
              rw [← hx] at y0 y1 hos hvs
              obtain ⟨hx1, hx2⟩ := hos
              have hvx := (volt_le HP.out.2.1.sl (m + 1)).2.1
              rw [hvs] at hvx
              have z1 : decide (x.v < 1) = false := by simp; omega
              have z2 : decide (x.h < 0) = false := by simp; omega
              have HVS := Lib.hid hvs
              have HX2 := Lib.hid (HX.out.trans ((below_one wr (.cells #[.int .i64 x.v, .int .i64 x.h] 23)).mono hwx))
              clear hvs hx
              go_wp2_with fail
              go_roundw
              case rel => exact ⟨m + 1, by omega, by go_num, by rw [HVS.out], HX2.out⟩
              case measure => simp [intOf]; omega
            · have hmt' : ¬ (m : Int) < p.l.length := by omega
              have hme : p.l.take m = p.l := List.take_of_length_le (by omega)
              rw [hme] at hv0 hv1 ⊢
              have hstep := HN.out.1.step HX.out
              have x0 : wr.cell? ⟨Bk, 0, none⟩ = some (.int .i64 p.room) := (HN.out.2.1.below HX.out hno).cell 0
              have x1 : wr.cell? ⟨Bk, 1, none⟩ = some (.slice A6 p.l.length cap6) := (HN.out.2.1.below HX.out hno).cell 1
              have x2 : wr.cell? ⟨W.heap.size, 2, none⟩ = some (.slice (some ⟨g7, o7, none⟩) ps.length cap) := hstep.x.b.cell 2
              have xl := hstep.x.b.lt
              have xk : Bk < wr.heap.size := by omega
              have x3 : wr.cell? ⟨g7, o7 + k * 2, none⟩ = some (.int .i64 p.room) := by
                have a := HBo.out.cell (p := ⟨g7, o7 + k * 2, none⟩) hgw7
                have b := HX.out.cell (p := ⟨g7, o7 + k * 2, none⟩) (by simp only; omega)
                rw [b, a]; exact HB0.out
              have xg : g7 < wr.heap.size := by omega
              have z1 : (p.room != p.room) = false := by simp
              have z2 : decide (p.room < vol p.l) = false := by simp; omega
              have z3 : decide ((16 : Int) < p.l.length) = false := by simp; omega
              have HE := Lib.hid hstep
              clear hstep hme
              go_wp2_with fail
              go_quiet (fail)
              have HE2 := Lib.hid (fun n => HE.out.step (below_drewN (Below.refl wr.heap.size wr) n))
              go_wp2_with fail
              go_roundw
              case rel => exact ⟨k + 1, by omega, by go_num, HE2.out _⟩
              case measure => simp [intOf]; omega
        · have hk' : ¬ (k : Int) < z.ps.length := by omega
          have hml5 : ∀ p ∈ z.ps, p.l.length ≤ 9223372036854775807 := fun p hp => by have := (HK.out.1.ok p hp).len; omega
          have e0 : wr.cell? ⟨w2.heap.size, 0, none⟩ = some (.int .i64 z.t.v) := HR.out.e.cell 0
          have e1 : wr.cell? ⟨w2.heap.size, 1, none⟩ = some (.int .i64 z.t.h) := HR.out.e.cell 1
          have e2 : wr.cell? ⟨w2.heap.size, 2, none⟩ = some (.slice A5 z.ps.length cap5) := HR.out.e.cell 2
          have e3 : wr.cell? ⟨w2.heap.size, 3, none⟩ = some (.int .i64 z.r.heat) := HR.out.e.cell 3
          have e4 : wr.cell? ⟨w2.heap.size, 4, none⟩ = some (.int .i64 z.r.room) := HR.out.e.cell 4
          have el := HR.out.e.lt
          have HML := Lib.hid hml5
          clear hml5
          go_wp2_with fail
          refine (sumRef_any z.t z.ps z.r.heat z.r.room A5 cap5 wr HR.out.q hzl HML.out HK.out.1.p2).mono ?_
          rintro e w5 ⟨rfl, hb5⟩
          have H5 := Lib.hid (HR.out.step hb5)
          have hb1 := HK.out.1.b1
          have hb2 := HK.out.1.b2
          have hcv := HK.out.1.e
          have hch := HK.out.1.f
          have hsb := HK.out.1.s
          rw [← HF.out] at hb1 hcv hch
          obtain ⟨E, hE⟩ : ∃ E, E = allV z.t z.ps z.r.heat := ⟨_, rfl⟩
          rw [← hE] at hb2 hcv hch ⊢
          obtain ⟨⟨a1, a2⟩, ⟨a3, a4⟩, ⟨a5, a6⟩, ⟨a7, a8⟩, ⟨a9, a10⟩, ⟨a11, a12⟩, ⟨a13, a14⟩, ⟨a15, a16⟩⟩ := hsb
          obtain ⟨i1, i2, i3, i4⟩ := hb1
          obtain ⟨j1, j2, j3, j4⟩ := hb2
          have z1 : ((F.h + z.r.s.fh + z.r.s.wa + z.r.s.bo) == (E.h + z.r.s.lh + z.r.s.ai + z.r.s.us)) = true := by simp; omega
          have z2 : ((F.v + z.r.s.fv) == (E.v + z.r.s.lv)) = true := by simp; omega
          have s0 : w5.cell? ⟨w2.heap.size + 1, 0, none⟩ = some (.int .i64 z.r.s.wa) := H5.out.s.cell 0
          have s1 : w5.cell? ⟨w2.heap.size + 1, 1, none⟩ = some (.int .i64 z.r.s.lv) := H5.out.s.cell 1
          have s2 : w5.cell? ⟨w2.heap.size + 1, 2, none⟩ = some (.int .i64 z.r.s.lh) := H5.out.s.cell 2
          have s3 : w5.cell? ⟨w2.heap.size + 1, 3, none⟩ = some (.int .i64 z.r.s.fv) := H5.out.s.cell 3
          have s4 : w5.cell? ⟨w2.heap.size + 1, 4, none⟩ = some (.int .i64 z.r.s.fh) := H5.out.s.cell 4
          have s5 : w5.cell? ⟨w2.heap.size + 1, 5, none⟩ = some (.int .i64 z.r.s.ch) := H5.out.s.cell 5
          have s6 : w5.cell? ⟨w2.heap.size + 1, 6, none⟩ = some (.int .i64 z.r.s.ai) := H5.out.s.cell 6
          have s7 : w5.cell? ⟨w2.heap.size + 1, 7, none⟩ = some (.int .i64 z.r.s.us) := H5.out.s.cell 7
          have s8 : w5.cell? ⟨w2.heap.size + 1, 8, none⟩ = some (.int .i64 z.r.s.bo) := H5.out.s.cell 8
          have sl := H5.out.s.lt
          have f0 : w5.cell? ⟨w3.heap.size, 0, none⟩ = some (.int .i64 F.v) := H5.out.f.cell 0
          have f1 : w5.cell? ⟨w3.heap.size, 1, none⟩ = some (.int .i64 F.h) := H5.out.f.cell 1
          have fl := H5.out.f.lt
          clear e0 e1 e2 e3 e4 el hb5 hcv hch hE
          go_wp2_with fail
          refine (alive_any _).mono ?_
          rintro e wb ⟨rfl, hb⟩
          have HB := Lib.hid (H5.out.x.bl.trans (((below_one w5 (.cells #[.int .i64 E.v, .int .i64 E.h] 23)).trans (hb.mono (by simp))).mono H5.out.x.bl.size))
          clear hb
          go_wp2_with fail
          go_ret
          exact ⟨rfl, HB.out⟩
end Go.Proofs.Ytjfopmjphiddiaa
