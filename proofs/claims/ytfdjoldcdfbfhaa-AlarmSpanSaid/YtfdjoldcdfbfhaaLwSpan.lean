/- The law of the span. -/
import Derived.Test.YtfdjoldcdfbfhaaLwA
import Derived.Test.YtfdjoldcdfbfhaaCls
namespace Go.Proofs.Ytfdjoldcdfbfhaa
open Go.Shelf Go.RowKit
/-- the law's own blocks -/
structure SB (W w : World) (A : Option Addr) (n cap : Nat) (V F limit rise calm frm to : Int) : Prop where
  b : Below W.heap.size W w
  v : Has w W.heap.size 24 #[.slice A n cap, .int .i64 V, .int .i64 F]
  l : Has w (W.heap.size + 1) 3 #[.int .i64 limit]
  r : Has w (W.heap.size + 1 + 1) 3 #[.int .i64 rise]
  c : Has w (W.heap.size + 1 + 1 + 1) 3 #[.int .i64 calm]
  f : Has w (W.heap.size + 1 + 1 + 1 + 1) 3 #[.int .i64 frm]
  t : Has w (W.heap.size + 1 + 1 + 1 + 1 + 1) 3 #[.int .i64 to]
theorem SB.below {W w w' : World} {A : Option Addr} {n cap : Nat} {V F limit rise calm frm to : Int} (h : SB W w A n cap V F limit rise calm frm to) (hb : Below w.heap.size w w') : SB W w' A n cap V F limit rise calm frm to :=
  ⟨h.b.trans (hb.mono h.b.size), h.v.below hb h.v.lt, h.l.below hb h.l.lt, h.r.below hb h.r.lt, h.c.below hb h.c.lt, h.f.below hb h.f.lt, h.t.below hb h.t.lt⟩
theorem SB.drew {W w : World} {A : Option Addr} {n cap : Nat} {V F limit rise calm frm to : Int} (h : SB W w A n cap V F limit rise calm frm to) : SB W w.drew A n cap V F limit rise calm frm to :=
  ⟨⟨h.b.os, h.b.tape, h.b.output, h.b.size, h.b.block⟩, h.v, h.l, h.r, h.c, h.f, h.t⟩
theorem SB.start (W : World) (A : Option Addr) (n cap : Nat) (V F limit rise calm frm to : Int) :
    SB W ((((((W.alloc (.cells #[.slice A n cap, .int .i64 V, .int .i64 F] 24)).alloc (.cells #[.int .i64 limit] 3)).alloc (.cells #[.int .i64 rise] 3)).alloc (.cells #[.int .i64 calm] 3)).alloc (.cells #[.int .i64 frm] 3)).alloc (.cells #[.int .i64 to] 3)) A n cap V F limit rise calm frm to := by
  have n0 := Has.new W 24 #[.slice A n cap, .int .i64 V, .int .i64 F]
  have n1 := Has.new (W.alloc (.cells #[.slice A n cap, .int .i64 V, .int .i64 F] 24)) 3 #[.int .i64 limit]
  have n2 := Has.new ((W.alloc (.cells #[.slice A n cap, .int .i64 V, .int .i64 F] 24)).alloc (.cells #[.int .i64 limit] 3)) 3 #[.int .i64 rise]
  have n3 := Has.new (((W.alloc (.cells #[.slice A n cap, .int .i64 V, .int .i64 F] 24)).alloc (.cells #[.int .i64 limit] 3)).alloc (.cells #[.int .i64 rise] 3)) 3 #[.int .i64 calm]
  have n4 := Has.new ((((W.alloc (.cells #[.slice A n cap, .int .i64 V, .int .i64 F] 24)).alloc (.cells #[.int .i64 limit] 3)).alloc (.cells #[.int .i64 rise] 3)).alloc (.cells #[.int .i64 calm] 3)) 3 #[.int .i64 frm]
  have n5 := Has.new (((((W.alloc (.cells #[.slice A n cap, .int .i64 V, .int .i64 F] 24)).alloc (.cells #[.int .i64 limit] 3)).alloc (.cells #[.int .i64 rise] 3)).alloc (.cells #[.int .i64 calm] 3)).alloc (.cells #[.int .i64 frm] 3)) 3 #[.int .i64 to]
  simp only [World.size_alloc] at n1 n2 n3 n4 n5
  have hb := (((((below_one W (.cells #[.slice A n cap, .int .i64 V, .int .i64 F] 24)).alloc (by simp) (.cells #[.int .i64 limit] 3)).alloc (by simp; omega) (.cells #[.int .i64 rise] 3)).alloc (by simp; omega) (.cells #[.int .i64 calm] 3)).alloc (by simp; omega) (.cells #[.int .i64 frm] 3)).alloc (by simp; omega) (.cells #[.int .i64 to] 3)
  exact ⟨hb, ((((n0.alloc _).alloc _).alloc _).alloc _).alloc _, (((n1.alloc _).alloc _).alloc _).alloc _, ((n2.alloc _).alloc _).alloc _, (n3.alloc _).alloc _, n4.alloc _, n5⟩
set_option maxRecDepth 100000 in
set_option maxHeartbeats 4000000 in
theorem spanLaw_any (l : List Sn) (A : Option Addr) (cap : Nat) (V F limit rise calm frm to n6 : Int) (W : World) (hr : NRow W W.heap.size A l) (hl : l.length ≤ 9223372036854775807) (b6 : 0 ≤ n6 ∧ n6 ≤ 4294967295) :
    Calls Try.prog 10 #[vtv A l.length cap V F, .int .i64 limit, .int .i64 rise, .int .i64 calm, .int .i64 frm, .int .i64 to, .int .u32 n6] W (BoolPost true W) := by
  have HS := Lib.hid (SB.start W A l.length cap V F limit rise calm frm to)
  have HR := Lib.hid hr
  clear hr
  unfold vtv
  by_cases hx : 20 < l.length ∨ (60 < to ∧ to ≤ 2000)
  · have hex : ((20 : Int) < l.length) ∨ (¬ (20 : Int) < l.length ∧ (60 < to ∧ to ≤ 2000)) := by omega
    clear hx
    rcases hex with h1 | ⟨h1, h2, h3⟩
    all_goals
      go_enter Try.func10, Try.ntmps10
      go_wp2_with fail
      generalize ((((((W.alloc (.cells #[.slice A l.length cap, .int .i64 V, .int .i64 F] 24)).alloc (.cells #[.int .i64 limit] 3)).alloc (.cells #[.int .i64 rise] 3)).alloc (.cells #[.int .i64 calm] 3)).alloc (.cells #[.int .i64 frm] 3)).alloc (.cells #[.int .i64 to] 3)) = w0 at HS ⊢
      refine (alive_any _).mono ?_
      rintro e wb ⟨rfl, hb⟩
      have HF := Lib.hid (HS.out.below hb)
      clear hb
      go_wp2_with fail
      go_ret
      exact ⟨rfl, HF.out.b⟩
  have hex : (¬ (20 : Int) < l.length ∧ ¬ 60 < to) ∨ (¬ (20 : Int) < l.length ∧ 60 < to ∧ ¬ to ≤ 2000) := by omega
  have HT := Lib.hid (fun w h => Thresholds_any l A cap V F limit rise calm frm to w h hl)
  have HD := Lib.hid (fun (n : Int) (w : World) (h : SB W w A l.length cap V F limit rise calm frm to) => does_any l A cap V F limit rise calm frm to n _ _ _ _ _ _ w (HR.out.step h.b) hl h.v h.r h.f h.t h.c h.l)
  have hcs := thrR_cases l V F limit rise calm frm to
  obtain ⟨D, hD⟩ : ∃ D, D = doesB l V F limit rise calm frm to := ⟨_, rfl⟩
  rw [← hD] at HD hcs
  obtain ⟨T, hT⟩ : ∃ T, T = thrR l V F limit rise calm frm to := ⟨_, rfl⟩
  rw [← hT] at HT hcs
  clear hD hT hx
  have heq : ∀ w, (binOp .eql 38 (.agg #[.int .i64 0, .int .i64 0]) (.agg #[.int .i64 0, .int .i64 0])).run Try.prog w = .ok (.bool true) w := fun w => by rw [eql38]; rfl
  have hmf : ∀ (fn : Fn) (first cap : Array Value) (w : World), (Instr.makeFunc fn first cap).run Try.prog w = .ok (.func fn first cap) w := fun _ _ _ _ => rfl
  unfold vtv at HT
  have HEX := Lib.hid hex
  clear hex
  rcases hcs with he | ⟨he, hdn, hse⟩ | ⟨lo, hi, he, b1, b2, b3, hdn, hse⟩
  · have hex := HEX.out
    rcases hex with ⟨h1, h2⟩ | ⟨h1, h2, h3⟩ <;> rcases he with rfl | rfl
    all_goals
      go_enter Try.func10, Try.ntmps10
      go_wp2_with fail
      generalize ((((((W.alloc (.cells #[.slice A l.length cap, .int .i64 V, .int .i64 F] 24)).alloc (.cells #[.int .i64 limit] 3)).alloc (.cells #[.int .i64 rise] 3)).alloc (.cells #[.int .i64 calm] 3)).alloc (.cells #[.int .i64 frm] 3)).alloc (.cells #[.int .i64 to] 3)) = w0 at HS ⊢
      refine (HT.out _ (HR.out.step HS.out.b)).mono ?_
      rintro e w1 ⟨rfl, hb1⟩
      have H1 := Lib.hid (HS.out.below hb1)
      clear hb1
      go_wp2_with fail
      refine (alive_any _).mono ?_
      rintro e wb ⟨rfl, hb⟩
      have HF := Lib.hid ((H1.out.below (below_one _ _)).below hb)
      clear hb
      go_wp2_with fail
      go_ret
      exact ⟨rfl, HF.out.b⟩
  · have hsplit : (¬ (20 : Int) < l.length ∧ ¬ 60 < to ∧ n6 % 2 = 0) ∨ (¬ (20 : Int) < l.length ∧ ¬ 60 < to ∧ n6 % 2 = 1) := by
      have := HEX.out
      have := (search_iff hse).2.2.2
      omega
    have hcb := (search_iff hse).2.2.1
    have HDF := Lib.hid (fun (n : Int) (w : World) (h : SB W w A l.length cap V F limit rise calm frm to) => by have := HD.out n w h; rwa [hdn] at this)
    subst he
    clear hdn hse HD
    rcases hsplit with ⟨h1, h2, h3⟩ | ⟨h1, h2, h3⟩
    all_goals
      go_enter Try.func10, Try.ntmps10
      go_wp2_with fail
      generalize ((((((W.alloc (.cells #[.slice A l.length cap, .int .i64 V, .int .i64 F] 24)).alloc (.cells #[.int .i64 limit] 3)).alloc (.cells #[.int .i64 rise] 3)).alloc (.cells #[.int .i64 calm] 3)).alloc (.cells #[.int .i64 frm] 3)).alloc (.cells #[.int .i64 to] 3)) = w0 at HS ⊢
      refine (HT.out _ (HR.out.step HS.out.b)).mono ?_
      rintro e w1 ⟨rfl, hb1⟩
      have H1 := Lib.hid (HS.out.below hb1)
      have cc : ∀ o, (w1.alloc o).cell? ⟨W.heap.size + 1 + 1 + 1, 0, none⟩ = some (.int .i64 calm) := fun o => (H1.out.c.alloc o).cell 0
      clear hb1
      go_wp2_with fail
      refine (HDF.out _ _ (H1.out.below (below_one _ _))).mono ?_
      rintro e w2 ⟨rfl, hb2⟩
      have H2 := Lib.hid ((H1.out.below (below_one _ _)).below hb2)
      clear hb2
      go_wp2_with fail
      refine (alive_any _).mono ?_
      rintro e wb ⟨rfl, hb⟩
      have HF := Lib.hid (H2.out.below hb)
      clear hb
      go_wp2_with fail
      go_ret
      exact ⟨rfl, HF.out.b⟩
  · have hsplit : (¬ (20 : Int) < l.length ∧ ¬ 60 < to ∧ n6 % 2 = 0) ∨ (¬ (20 : Int) < l.length ∧ ¬ 60 < to ∧ n6 % 2 = 1) := by
      have := HEX.out
      have := (search_iff hse).2.2.2
      omega
    have hcb := (search_iff hse).2.2.1
    have hd1 := Lib.hid (show D lo = true by rw [hdn]; exact decide_eq_true (by omega))
    have hd2 := Lib.hid (show D hi = true by rw [hdn]; exact decide_eq_true (by omega))
    have hd3 := Lib.hid (show D (lo - 1) = false by rw [hdn]; exact decide_eq_false (by omega))
    have hd4 := Lib.hid (show D (hi + 1) = false by rw [hdn]; exact decide_eq_false (by omega))
    have HDN := Lib.hid hdn
    subst he
    clear hdn hse
    rcases hsplit with ⟨h1, h2, h3⟩ | ⟨h1, h2, h3⟩
    · go_enter Try.func10, Try.ntmps10
      go_wp2_with fail
      generalize ((((((W.alloc (.cells #[.slice A l.length cap, .int .i64 V, .int .i64 F] 24)).alloc (.cells #[.int .i64 limit] 3)).alloc (.cells #[.int .i64 rise] 3)).alloc (.cells #[.int .i64 calm] 3)).alloc (.cells #[.int .i64 frm] 3)).alloc (.cells #[.int .i64 to] 3)) = w0 at HS ⊢
      refine (HT.out _ (HR.out.step HS.out.b)).mono ?_
      rintro e w1 ⟨rfl, hb1⟩
      have H1 := Lib.hid (HS.out.below hb1)
      have cc : ∀ o, (w1.alloc o).cell? ⟨W.heap.size + 1 + 1 + 1, 0, none⟩ = some (.int .i64 calm) := fun o => (H1.out.c.alloc o).cell 0
      clear hb1
      have b0 : 0 ≤ lo := by omega
      have HX2 := Lib.hid (And.intro (H1.out.below (below_one w1 (.cells #[.int .i64 lo, .int .i64 hi] 38))) (Has.new w1 38 #[.int .i64 lo, .int .i64 hi]))
      go_wp2_with fail
      generalize w1.alloc (.cells #[.int .i64 lo, .int .i64 hi] 38) = w2 at HX2 ⊢
      generalize w1.heap.size = gb at HX2 ⊢
      have l20 : w2.cell? ⟨gb, 0, none⟩ = some (.int .i64 lo) := HX2.out.2.cell 0
      have l21 : w2.cell? ⟨gb, 1, none⟩ = some (.int .i64 hi) := HX2.out.2.cell 1
      clear cc
      refine (HD.out lo _ (HX2.out.1)).mono ?_
      rintro e w3 ⟨he, hb⟩
      rw [hd1.out] at he
      obtain rfl := he
      have HX3 := Lib.hid (And.intro (HX2.out.1.below hb) (HX2.out.2.below hb HX2.out.2.lt))
      have l30 : w3.cell? ⟨gb, 0, none⟩ = some (.int .i64 lo) := HX3.out.2.cell 0
      have l31 : w3.cell? ⟨gb, 1, none⟩ = some (.int .i64 hi) := HX3.out.2.cell 1
      clear hb l20 l21
      go_wp2_with fail
      refine (HD.out hi _ (HX3.out.1)).mono ?_
      rintro e w4 ⟨he, hb⟩
      rw [hd2.out] at he
      obtain rfl := he
      have HX4 := Lib.hid (And.intro (HX3.out.1.below hb) (HX3.out.2.below hb HX3.out.2.lt))
      have l40 : w4.cell? ⟨gb, 0, none⟩ = some (.int .i64 lo) := HX4.out.2.cell 0
      have l41 : w4.cell? ⟨gb, 1, none⟩ = some (.int .i64 hi) := HX4.out.2.cell 1
      clear hb l30 l31
      go_wp2_with fail
      refine (HD.out (lo - 1) _ (HX4.out.1)).mono ?_
      rintro e w5 ⟨he, hb⟩
      rw [hd3.out] at he
      obtain rfl := he
      have HX5 := Lib.hid (And.intro (HX4.out.1.below hb) (HX4.out.2.below hb HX4.out.2.lt))
      have l50 : w5.cell? ⟨gb, 0, none⟩ = some (.int .i64 lo) := HX5.out.2.cell 0
      have l51 : w5.cell? ⟨gb, 1, none⟩ = some (.int .i64 hi) := HX5.out.2.cell 1
      clear hb l40 l41
      go_wp2_with fail
      refine (HD.out (hi + 1) _ (HX5.out.1)).mono ?_
      rintro e w6 ⟨he, hb⟩
      rw [hd4.out] at he
      obtain rfl := he
      have HX6 := Lib.hid (And.intro (HX5.out.1.below hb) (HX5.out.2.below hb HX5.out.2.lt))
      have l60 : w6.cell? ⟨gb, 0, none⟩ = some (.int .i64 lo) := HX6.out.2.cell 0
      have l61 : w6.cell? ⟨gb, 1, none⟩ = some (.int .i64 hi) := HX6.out.2.cell 1
      clear hb l50 l51
      go_wp2_with fail
      have hdn := HDN.out (calm + n6 / 2 % 50)
      generalize (calm + n6 / 2 % 50) = n at hdn ⊢
      have S0 := Lib.hid (And.intro HX6.out.1.drew (show Has w6.drew gb 38 #[.int .i64 lo, .int .i64 hi] from HX6.out.2))
      haveI hne : Nonempty (Cls (fun w' => SB W w' A l.length cap V F limit rise calm frm to ∧ Has w' gb 38 #[.int .i64 lo, .int .i64 hi])) := ⟨⟨_, S0.out⟩⟩
      have hp0 : ∀ p : Cls (fun w' => SB W w' A l.length cap V F limit rise calm frm to ∧ Has w' gb 38 #[.int .i64 lo, .int .i64 hi]), p.w.cell? ⟨gb, 0, none⟩ = some (.int .i64 lo) := fun p => p.h.2.cell 0
      have hp1 : ∀ p : Cls (fun w' => SB W w' A l.length cap V F limit rise calm frm to ∧ Has w' gb 38 #[.int .i64 lo, .int .i64 hi]), p.w.cell? ⟨gb, 1, none⟩ = some (.int .i64 hi) := fun p => p.h.2.cell 1
      have hcA : ∀ w, (SB W w A l.length cap V F limit rise calm frm to ∧ Has w gb 38 #[.int .i64 lo, .int .i64 hi]) → Calls Try.prog 13 #[] w fun e w' => e = .returned (.bool true) ∧ (SB W w' A l.length cap V F limit rise calm frm to ∧ Has w' gb 38 #[.int .i64 lo, .int .i64 hi]) := fun w h => (alive_any w).mono fun e w' ⟨he, hb⟩ => ⟨he, h.1.below hb, h.2.below hb h.2.lt⟩
      have hcD := fun (w : World) (h : SB W w A l.length cap V F limit rise calm frm to ∧ Has w gb 38 #[.int .i64 lo, .int .i64 hi]) => (HD.out n w h.1).mono (fun e w' (h' : BoolPost (D n) w e w') => (show e = .returned (.bool (D n)) ∧ (SB W w' A l.length cap V F limit rise calm frm to ∧ Has w' gb 38 #[.int .i64 lo, .int .i64 hi]) from ⟨h'.1, h.1.below h'.2, h.2.below h'.2 h.2.lt⟩))
      have hmix : Try.prog.follows .mixedOrders = true := by kernel_rfl
      rw [hdn] at hcD
      clear hdn
      by_cases q1 : lo ≤ n
      · by_cases q2 : n ≤ hi
        · rw [show decide (lo ≤ n ∧ n ≤ hi) = true from decide_eq_true ⟨q1, q2⟩] at hcD
          have e1 : decide (lo ≤ n) = true := decide_eq_true q1
          have e2 : decide (n ≤ hi) = true := decide_eq_true q2
          refine wp_region_cls (fun w' => SB W w' A l.length cap V F limit rise calm frm to ∧ Has w' gb 38 #[.int .i64 lo, .int .i64 hi]) hmix (by kernel_rfl) S0.out ?_
          repeat (quiet_step (first | exact cls_call hcD _ | exact cls_call hcA _))
          refine wpQuiet_nil ?_
          rintro _ ⟨⟨w7, hw7⟩, rfl⟩
          go_wp2
          go_ret
          exact ⟨rfl, hw7.1.b⟩
        · rw [show decide (lo ≤ n ∧ n ≤ hi) = false from decide_eq_false (by omega)] at hcD
          have e1 : decide (lo ≤ n) = true := decide_eq_true q1
          have e2 : decide (n ≤ hi) = false := decide_eq_false q2
          refine wp_region_cls (fun w' => SB W w' A l.length cap V F limit rise calm frm to ∧ Has w' gb 38 #[.int .i64 lo, .int .i64 hi]) hmix (by kernel_rfl) S0.out ?_
          repeat (quiet_step (first | exact cls_call hcD _ | exact cls_call hcA _))
          refine wpQuiet_nil ?_
          rintro _ ⟨⟨w7, hw7⟩, rfl⟩
          go_wp2
          go_ret
          exact ⟨rfl, hw7.1.b⟩
      · rw [show decide (lo ≤ n ∧ n ≤ hi) = false from decide_eq_false (by omega)] at hcD
        have e1 : decide (lo ≤ n) = false := decide_eq_false q1
        refine wp_region_cls (fun w' => SB W w' A l.length cap V F limit rise calm frm to ∧ Has w' gb 38 #[.int .i64 lo, .int .i64 hi]) hmix (by kernel_rfl) S0.out ?_
        repeat (quiet_step (first | exact cls_call hcD _ | exact cls_call hcA _))
        refine wpQuiet_nil ?_
        rintro _ ⟨⟨w7, hw7⟩, rfl⟩
        go_wp2
        go_ret
        exact ⟨rfl, hw7.1.b⟩
    · go_enter Try.func10, Try.ntmps10
      go_wp2_with fail
      generalize ((((((W.alloc (.cells #[.slice A l.length cap, .int .i64 V, .int .i64 F] 24)).alloc (.cells #[.int .i64 limit] 3)).alloc (.cells #[.int .i64 rise] 3)).alloc (.cells #[.int .i64 calm] 3)).alloc (.cells #[.int .i64 frm] 3)).alloc (.cells #[.int .i64 to] 3)) = w0 at HS ⊢
      refine (HT.out _ (HR.out.step HS.out.b)).mono ?_
      rintro e w1 ⟨rfl, hb1⟩
      have H1 := Lib.hid (HS.out.below hb1)
      have cc : ∀ o, (w1.alloc o).cell? ⟨W.heap.size + 1 + 1 + 1, 0, none⟩ = some (.int .i64 calm) := fun o => (H1.out.c.alloc o).cell 0
      clear hb1
      have b0 : 0 ≤ lo := by omega
      have HX2 := Lib.hid (And.intro (H1.out.below (below_one w1 (.cells #[.int .i64 lo, .int .i64 hi] 38))) (Has.new w1 38 #[.int .i64 lo, .int .i64 hi]))
      go_wp2_with fail
      any_goals (exfalso; omega)
      generalize w1.alloc (.cells #[.int .i64 lo, .int .i64 hi] 38) = w2 at HX2 ⊢
      generalize w1.heap.size = gb at HX2 ⊢
      have l20 : w2.cell? ⟨gb, 0, none⟩ = some (.int .i64 lo) := HX2.out.2.cell 0
      have l21 : w2.cell? ⟨gb, 1, none⟩ = some (.int .i64 hi) := HX2.out.2.cell 1
      clear cc
      refine (HD.out lo _ (HX2.out.1)).mono ?_
      rintro e w3 ⟨he, hb⟩
      rw [hd1.out] at he
      obtain rfl := he
      have HX3 := Lib.hid (And.intro (HX2.out.1.below hb) (HX2.out.2.below hb HX2.out.2.lt))
      have l30 : w3.cell? ⟨gb, 0, none⟩ = some (.int .i64 lo) := HX3.out.2.cell 0
      have l31 : w3.cell? ⟨gb, 1, none⟩ = some (.int .i64 hi) := HX3.out.2.cell 1
      clear hb l20 l21
      go_wp2_with fail
      refine (HD.out hi _ (HX3.out.1)).mono ?_
      rintro e w4 ⟨he, hb⟩
      rw [hd2.out] at he
      obtain rfl := he
      have HX4 := Lib.hid (And.intro (HX3.out.1.below hb) (HX3.out.2.below hb HX3.out.2.lt))
      have l40 : w4.cell? ⟨gb, 0, none⟩ = some (.int .i64 lo) := HX4.out.2.cell 0
      have l41 : w4.cell? ⟨gb, 1, none⟩ = some (.int .i64 hi) := HX4.out.2.cell 1
      clear hb l30 l31
      go_wp2_with fail
      refine (HD.out (lo - 1) _ (HX4.out.1)).mono ?_
      rintro e w5 ⟨he, hb⟩
      rw [hd3.out] at he
      obtain rfl := he
      have HX5 := Lib.hid (And.intro (HX4.out.1.below hb) (HX4.out.2.below hb HX4.out.2.lt))
      have l50 : w5.cell? ⟨gb, 0, none⟩ = some (.int .i64 lo) := HX5.out.2.cell 0
      have l51 : w5.cell? ⟨gb, 1, none⟩ = some (.int .i64 hi) := HX5.out.2.cell 1
      clear hb l40 l41
      go_wp2_with fail
      refine (HD.out (hi + 1) _ (HX5.out.1)).mono ?_
      rintro e w6 ⟨he, hb⟩
      rw [hd4.out] at he
      obtain rfl := he
      have HX6 := Lib.hid (And.intro (HX5.out.1.below hb) (HX5.out.2.below hb HX5.out.2.lt))
      have l60 : w6.cell? ⟨gb, 0, none⟩ = some (.int .i64 lo) := HX6.out.2.cell 0
      have l61 : w6.cell? ⟨gb, 1, none⟩ = some (.int .i64 hi) := HX6.out.2.cell 1
      clear hb l50 l51
      go_wp2_with fail
      have hdn := HDN.out (n6 % 1048577)
      generalize (n6 % 1048577) = n at hdn ⊢
      have S0 := Lib.hid (And.intro HX6.out.1.drew (show Has w6.drew gb 38 #[.int .i64 lo, .int .i64 hi] from HX6.out.2))
      haveI hne : Nonempty (Cls (fun w' => SB W w' A l.length cap V F limit rise calm frm to ∧ Has w' gb 38 #[.int .i64 lo, .int .i64 hi])) := ⟨⟨_, S0.out⟩⟩
      have hp0 : ∀ p : Cls (fun w' => SB W w' A l.length cap V F limit rise calm frm to ∧ Has w' gb 38 #[.int .i64 lo, .int .i64 hi]), p.w.cell? ⟨gb, 0, none⟩ = some (.int .i64 lo) := fun p => p.h.2.cell 0
      have hp1 : ∀ p : Cls (fun w' => SB W w' A l.length cap V F limit rise calm frm to ∧ Has w' gb 38 #[.int .i64 lo, .int .i64 hi]), p.w.cell? ⟨gb, 1, none⟩ = some (.int .i64 hi) := fun p => p.h.2.cell 1
      have hcA : ∀ w, (SB W w A l.length cap V F limit rise calm frm to ∧ Has w gb 38 #[.int .i64 lo, .int .i64 hi]) → Calls Try.prog 13 #[] w fun e w' => e = .returned (.bool true) ∧ (SB W w' A l.length cap V F limit rise calm frm to ∧ Has w' gb 38 #[.int .i64 lo, .int .i64 hi]) := fun w h => (alive_any w).mono fun e w' ⟨he, hb⟩ => ⟨he, h.1.below hb, h.2.below hb h.2.lt⟩
      have hcD := fun (w : World) (h : SB W w A l.length cap V F limit rise calm frm to ∧ Has w gb 38 #[.int .i64 lo, .int .i64 hi]) => (HD.out n w h.1).mono (fun e w' (h' : BoolPost (D n) w e w') => (show e = .returned (.bool (D n)) ∧ (SB W w' A l.length cap V F limit rise calm frm to ∧ Has w' gb 38 #[.int .i64 lo, .int .i64 hi]) from ⟨h'.1, h.1.below h'.2, h.2.below h'.2 h.2.lt⟩))
      have hmix : Try.prog.follows .mixedOrders = true := by kernel_rfl
      rw [hdn] at hcD
      clear hdn
      by_cases q1 : lo ≤ n
      · by_cases q2 : n ≤ hi
        · rw [show decide (lo ≤ n ∧ n ≤ hi) = true from decide_eq_true ⟨q1, q2⟩] at hcD
          have e1 : decide (lo ≤ n) = true := decide_eq_true q1
          have e2 : decide (n ≤ hi) = true := decide_eq_true q2
          refine wp_region_cls (fun w' => SB W w' A l.length cap V F limit rise calm frm to ∧ Has w' gb 38 #[.int .i64 lo, .int .i64 hi]) hmix (by kernel_rfl) S0.out ?_
          repeat (quiet_step (first | exact cls_call hcD _ | exact cls_call hcA _))
          refine wpQuiet_nil ?_
          rintro _ ⟨⟨w7, hw7⟩, rfl⟩
          go_wp2
          go_ret
          exact ⟨rfl, hw7.1.b⟩
        · rw [show decide (lo ≤ n ∧ n ≤ hi) = false from decide_eq_false (by omega)] at hcD
          have e1 : decide (lo ≤ n) = true := decide_eq_true q1
          have e2 : decide (n ≤ hi) = false := decide_eq_false q2
          refine wp_region_cls (fun w' => SB W w' A l.length cap V F limit rise calm frm to ∧ Has w' gb 38 #[.int .i64 lo, .int .i64 hi]) hmix (by kernel_rfl) S0.out ?_
          repeat (quiet_step (first | exact cls_call hcD _ | exact cls_call hcA _))
          refine wpQuiet_nil ?_
          rintro _ ⟨⟨w7, hw7⟩, rfl⟩
          go_wp2
          go_ret
          exact ⟨rfl, hw7.1.b⟩
      · rw [show decide (lo ≤ n ∧ n ≤ hi) = false from decide_eq_false (by omega)] at hcD
        have e1 : decide (lo ≤ n) = false := decide_eq_false q1
        refine wp_region_cls (fun w' => SB W w' A l.length cap V F limit rise calm frm to ∧ Has w' gb 38 #[.int .i64 lo, .int .i64 hi]) hmix (by kernel_rfl) S0.out ?_
        repeat (quiet_step (first | exact cls_call hcD _ | exact cls_call hcA _))
        refine wpQuiet_nil ?_
        rintro _ ⟨⟨w7, hw7⟩, rfl⟩
        go_wp2
        go_ret
        exact ⟨rfl, hw7.1.b⟩
end Go.Proofs.Ytfdjoldcdfbfhaa
