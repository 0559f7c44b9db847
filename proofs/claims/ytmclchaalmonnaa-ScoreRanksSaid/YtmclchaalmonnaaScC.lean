/- Contracts: what is valid. -/
import Derived.Test.YtmclchaalmonnaaScB
import Derived.RegionTactic
import Derived.Deep.RegionHeld3
namespace Go.Proofs.Ytmclchaalmonnaa
open Go.RowKit
structure RB (W w : World) (B : Nat) (r : Ru) (A : Option Addr) (c : Nat) : Prop where
  b : Below W.heap.size W w
  fr : Has w B 24 (ruc r A c)
  rr : RuR w W.heap.size r A
theorem RB.step {W w w' : World} {B : Nat} {r : Ru} {A : Option Addr} {c : Nat} (h : RB W w B r A c) (hb : Below w.heap.size w w') : RB W w' B r A c := ⟨h.b.trans (hb.mono h.b.size), h.fr.below hb h.fr.lt, h.rr.below (hb.mono h.b.size)⟩
theorem RB.start {W : World} {r : Ru} {A : Option Addr} {c : Nat} (h : RuR W W.heap.size r A) : RB W (W.alloc (.cells (ruc r A c) 24)) W.heap.size r A c := ⟨below_one W _, Has.new W 24 _, h.below (below_one W _)⟩
set_option maxRecDepth 100000 in
set_option maxHeartbeats 1000000 in
theorem validRules_any (r : Ru) (A : Option Addr) (c : Nat) (W : World) (hr : RuR W W.heap.size r A) : Calls Try.prog 55 #[ruv r A c] W (BoolPost (ruB r) W) := by
  have HB : Hid (RB W (W.alloc (.cells (ruc r A c) 24)) W.heap.size r A c) := Lib.hid (RB.start hr)
  have H0 := Lib.hid (fun w => within_any (r.bases.length : Int) 1 64 w)
  have H1 := Lib.hid (fun w (h : RB W w W.heap.size r A c) => allWithin_any r.bases A c 0 2000 w (h.rr.more h.b.size).b h.rr.l)
  have H2 := Lib.hid (fun w => within_any r.factor 0 1000 w)
  have H3 := Lib.hid (fun w => within_any r.most 1 16 w)
  have hn : ∀ b, ruB r = b → Hid (ruB r = b) := fun b h => h
  have hl := hr.l
  unfold big at hl
  clear hr
  unfold ruv
  cases h0 : inB (r.bases.length : Int) 1 64 <;> rw [h0] at H0
  · have HE := hn false (by unfold ruB; rw [h0]; rfl)
    clear hn h0
    go_enter Try.func55, Try.ntmps55
    go_upto_region 1 with fail
    generalize W.alloc (.cells (ruc r A c) 24) = w9 at HB ⊢
    have x0 : w9.cell? ⟨W.heap.size, 0, none⟩ = some (.slice A r.bases.length c) := HB.out.fr.cell 0
    go_wp2_with fail
    refine (H0.out _).mono ?_
    rintro e u0 ⟨rfl, rfl⟩
    go_wp2_with fail
    go_ret
    exact ⟨ret_bool HE.out.symm, HB.out.b⟩
  cases h1 : allB r.bases 0 2000 <;> rw [h1] at H1
  · have HE := hn false (by unfold ruB; rw [h0, h1]; rfl)
    clear hn h0 h1
    go_enter Try.func55, Try.ntmps55
    go_upto_region 1 with fail
    generalize W.alloc (.cells (ruc r A c) 24) = w9 at HB ⊢
    have x0 : w9.cell? ⟨W.heap.size, 0, none⟩ = some (.slice A r.bases.length c) := HB.out.fr.cell 0
    go_wp2_with fail
    refine (H0.out _).mono ?_
    rintro e u0 ⟨rfl, rfl⟩
    go_wp2_with fail
    refine (H1.out _ HB.out).mono ?_
    rintro e u1 ⟨rfl, hb⟩
    replace HB := Lib.hid (HB.out.step hb)
    clear hb x0
    have x1 : u1.cell? ⟨W.heap.size, 1, none⟩ = some (.int .i64 r.factor) := HB.out.fr.cell 1
    have x2 : u1.cell? ⟨W.heap.size, 2, none⟩ = some (.int .i64 r.most) := HB.out.fr.cell 2
    go_wp2_with fail
    go_ret
    exact ⟨ret_bool HE.out.symm, HB.out.b⟩
  cases h2 : inB r.factor 0 1000 <;> rw [h2] at H2
  · have HE := hn false (by unfold ruB; rw [h0, h1, h2]; rfl)
    clear hn h0 h1 h2
    go_enter Try.func55, Try.ntmps55
    go_upto_region 1 with fail
    generalize W.alloc (.cells (ruc r A c) 24) = w9 at HB ⊢
    have x0 : w9.cell? ⟨W.heap.size, 0, none⟩ = some (.slice A r.bases.length c) := HB.out.fr.cell 0
    go_wp2_with fail
    refine (H0.out _).mono ?_
    rintro e u0 ⟨rfl, rfl⟩
    go_wp2_with fail
    refine (H1.out _ HB.out).mono ?_
    rintro e u1 ⟨rfl, hb⟩
    replace HB := Lib.hid (HB.out.step hb)
    clear hb x0
    have x1 : u1.cell? ⟨W.heap.size, 1, none⟩ = some (.int .i64 r.factor) := HB.out.fr.cell 1
    have x2 : u1.cell? ⟨W.heap.size, 2, none⟩ = some (.int .i64 r.most) := HB.out.fr.cell 2
    go_wp2_with fail
    refine (H2.out _).mono ?_
    rintro e u2 ⟨rfl, rfl⟩
    go_wp2_with fail
    go_ret
    exact ⟨ret_bool HE.out.symm, HB.out.b⟩
  cases h3 : inB r.most 1 16 <;> rw [h3] at H3
  · have HE := hn false (by unfold ruB; rw [h0, h1, h2, h3]; rfl)
    clear hn h0 h1 h2 h3
    go_enter Try.func55, Try.ntmps55
    go_upto_region 1 with fail
    generalize W.alloc (.cells (ruc r A c) 24) = w9 at HB ⊢
    have x0 : w9.cell? ⟨W.heap.size, 0, none⟩ = some (.slice A r.bases.length c) := HB.out.fr.cell 0
    go_wp2_with fail
    refine (H0.out _).mono ?_
    rintro e u0 ⟨rfl, rfl⟩
    go_wp2_with fail
    refine (H1.out _ HB.out).mono ?_
    rintro e u1 ⟨rfl, hb⟩
    replace HB := Lib.hid (HB.out.step hb)
    clear hb x0
    have x1 : u1.cell? ⟨W.heap.size, 1, none⟩ = some (.int .i64 r.factor) := HB.out.fr.cell 1
    have x2 : u1.cell? ⟨W.heap.size, 2, none⟩ = some (.int .i64 r.most) := HB.out.fr.cell 2
    go_wp2_with fail
    refine (H2.out _).mono ?_
    rintro e u2 ⟨rfl, rfl⟩
    go_wp2_with fail
    refine (H3.out _).mono ?_
    rintro e u3 ⟨rfl, rfl⟩
    go_wp2_with fail
    go_ret
    exact ⟨ret_bool HE.out.symm, HB.out.b⟩
  have HE := hn true (by unfold ruB; rw [h0, h1, h2, h3]; rfl)
  clear hn h0 h1 h2 h3
  go_enter Try.func55, Try.ntmps55
  go_upto_region 1 with fail
  generalize W.alloc (.cells (ruc r A c) 24) = w9 at HB ⊢
  have x0 : w9.cell? ⟨W.heap.size, 0, none⟩ = some (.slice A r.bases.length c) := HB.out.fr.cell 0
  go_wp2_with fail
  refine (H0.out _).mono ?_
  rintro e u0 ⟨rfl, rfl⟩
  go_wp2_with fail
  refine (H1.out _ HB.out).mono ?_
  rintro e u1 ⟨rfl, hb⟩
  replace HB := Lib.hid (HB.out.step hb)
  clear hb x0
  have x1 : u1.cell? ⟨W.heap.size, 1, none⟩ = some (.int .i64 r.factor) := HB.out.fr.cell 1
  have x2 : u1.cell? ⟨W.heap.size, 2, none⟩ = some (.int .i64 r.most) := HB.out.fr.cell 2
  go_wp2_with fail
  refine (H2.out _).mono ?_
  rintro e u2 ⟨rfl, rfl⟩
  go_wp2_with fail
  refine (H3.out _).mono ?_
  rintro e u3 ⟨rfl, rfl⟩
  go_wp2_with fail
  go_ret
  exact ⟨ret_bool HE.out.symm, HB.out.b⟩
structure LB (W w : World) (B D : Nat) (r : Ru) (A : Option Addr) (c : Nat) (x : Cl) (M : Option Addr) (m : Nat) : Prop where
  r : RB W w B r A c
  fc : Has w D 52 (clc x M m)
  rm : IRow w W.heap.size M x.marks
theorem LB.step {W w w' : World} {B D : Nat} {r : Ru} {A : Option Addr} {c : Nat} {x : Cl} {M : Option Addr} {m : Nat} (h : LB W w B D r A c x M m) (hb : Below w.heap.size w w') : LB W w' B D r A c x M m := ⟨h.r.step hb, h.fc.below hb h.fc.lt, h.rm.below (hb.mono h.r.b.size)⟩
set_option maxRecDepth 100000 in
set_option maxHeartbeats 1000000 in
theorem validCall_any (r : Ru) (A : Option Addr) (c : Nat) (x : Cl) (M : Option Addr) (m : Nat) (n : Int) (W : World) (hr : RuR W W.heap.size r A) (hm : IRow W W.heap.size M x.marks) (hml : x.marks.length ≤ big) : Calls Try.prog 77 #[ruv r A c, clv x M m, .int .i64 n] W (BoolPost (clB r x n) W) := by
  have HB : Hid (LB W ((W.alloc (.cells (ruc r A c) 24)).alloc (.cells (clc x M m) 52)) W.heap.size (W.heap.size + 1) r A c x M m) := Lib.hid ⟨(RB.start hr).step (below_one _ _), has_newAt (by simp), (hm.below (below_one W _)).below ((below_one _ _).mono (by simp))⟩
  have H0 := Lib.hid (fun w => within_any x.place 0 99 w)
  have H1 := Lib.hid (fun w => within_any x.element 0 ((r.bases.length : Int) - 1) w)
  have H2 := Lib.hid (fun w => within_any x.under 0 2 w)
  have H4 := Lib.hid (fun w (h : LB W w W.heap.size (W.heap.size + 1) r A c x M m) => allWithin_any x.marks M m (-5) 5 w (h.rm.more h.r.b.size) hml)
  have hn : ∀ b, clB r x n = b → Hid (clB r x n = b) := fun b h => h
  have hl := hr.l
  unfold big at hl hml
  have e1 : IntKind.i64.wrap ((r.bases.length : Int) - 1) = (r.bases.length : Int) - 1 := IntWalk.i64_in _ (by omega)
  clear hr hm
  unfold ruv clv
  cases h0 : inB x.place 0 99 <;> rw [h0] at H0
  · have HE := hn false (by unfold clB; rw [h0]; rfl)
    clear hn h0
    go_enter Try.func77, Try.ntmps77
    go_upto_region 1 with fail
    generalize (W.alloc (.cells (ruc r A c) 24)).alloc (.cells (clc x M m) 52) = w9 at HB ⊢
    have x0 : w9.cell? ⟨W.heap.size, 0, none⟩ = some (.slice A r.bases.length c) := HB.out.r.fr.cell 0
    have y0 : w9.cell? ⟨W.heap.size + 1, 0, none⟩ = some (.int .i64 x.place) := HB.out.fc.cell 0
    have y1 : w9.cell? ⟨W.heap.size + 1, 1, none⟩ = some (.int .i64 x.element) := HB.out.fc.cell 1
    have y2 : w9.cell? ⟨W.heap.size + 1, 2, none⟩ = some (.int .i64 x.under) := HB.out.fc.cell 2
    have y5 : w9.cell? ⟨W.heap.size + 1, 5, none⟩ = some (.slice M x.marks.length m) := HB.out.fc.cell 5
    go_wp2_with fail
    refine (H0.out _).mono ?_
    rintro e u0 ⟨rfl, rfl⟩
    go_wp2_with fail
    go_ret
    exact ⟨ret_bool HE.out.symm, HB.out.r.b⟩
  cases h1 : inB x.element 0 ((r.bases.length : Int) - 1) <;> rw [h1] at H1
  · have HE := hn false (by unfold clB; rw [h0, h1]; rfl)
    clear hn h0 h1
    go_enter Try.func77, Try.ntmps77
    go_upto_region 1 with fail
    generalize (W.alloc (.cells (ruc r A c) 24)).alloc (.cells (clc x M m) 52) = w9 at HB ⊢
    have x0 : w9.cell? ⟨W.heap.size, 0, none⟩ = some (.slice A r.bases.length c) := HB.out.r.fr.cell 0
    have y0 : w9.cell? ⟨W.heap.size + 1, 0, none⟩ = some (.int .i64 x.place) := HB.out.fc.cell 0
    have y1 : w9.cell? ⟨W.heap.size + 1, 1, none⟩ = some (.int .i64 x.element) := HB.out.fc.cell 1
    have y2 : w9.cell? ⟨W.heap.size + 1, 2, none⟩ = some (.int .i64 x.under) := HB.out.fc.cell 2
    have y5 : w9.cell? ⟨W.heap.size + 1, 5, none⟩ = some (.slice M x.marks.length m) := HB.out.fc.cell 5
    go_wp2_with fail
    refine (H0.out _).mono ?_
    rintro e u0 ⟨rfl, rfl⟩
    go_wp2_with fail
    refine (H1.out _).mono ?_
    rintro e u1 ⟨rfl, rfl⟩
    go_wp2_with fail
    go_ret
    exact ⟨ret_bool HE.out.symm, HB.out.r.b⟩
  cases h2 : inB x.under 0 2 <;> rw [h2] at H2
  · have HE := hn false (by unfold clB; rw [h0, h1, h2]; rfl)
    clear hn h0 h1 h2
    go_enter Try.func77, Try.ntmps77
    go_upto_region 1 with fail
    generalize (W.alloc (.cells (ruc r A c) 24)).alloc (.cells (clc x M m) 52) = w9 at HB ⊢
    have x0 : w9.cell? ⟨W.heap.size, 0, none⟩ = some (.slice A r.bases.length c) := HB.out.r.fr.cell 0
    have y0 : w9.cell? ⟨W.heap.size + 1, 0, none⟩ = some (.int .i64 x.place) := HB.out.fc.cell 0
    have y1 : w9.cell? ⟨W.heap.size + 1, 1, none⟩ = some (.int .i64 x.element) := HB.out.fc.cell 1
    have y2 : w9.cell? ⟨W.heap.size + 1, 2, none⟩ = some (.int .i64 x.under) := HB.out.fc.cell 2
    have y5 : w9.cell? ⟨W.heap.size + 1, 5, none⟩ = some (.slice M x.marks.length m) := HB.out.fc.cell 5
    go_wp2_with fail
    refine (H0.out _).mono ?_
    rintro e u0 ⟨rfl, rfl⟩
    go_wp2_with fail
    refine (H1.out _).mono ?_
    rintro e u1 ⟨rfl, rfl⟩
    go_wp2_with fail
    refine (H2.out _).mono ?_
    rintro e u2 ⟨rfl, rfl⟩
    go_wp2_with fail
    go_ret
    exact ⟨ret_bool HE.out.symm, HB.out.r.b⟩
  cases h3 : decide ((x.marks.length : Int) = n)
  · have HE := hn false (by unfold clB; rw [h0, h1, h2, h3]; rfl)
    have q3 : ((x.marks.length : Int) == n) = false := by simpa using h3
    clear hn h0 h1 h2 h3
    go_enter Try.func77, Try.ntmps77
    go_upto_region 1 with fail
    generalize (W.alloc (.cells (ruc r A c) 24)).alloc (.cells (clc x M m) 52) = w9 at HB ⊢
    have x0 : w9.cell? ⟨W.heap.size, 0, none⟩ = some (.slice A r.bases.length c) := HB.out.r.fr.cell 0
    have y0 : w9.cell? ⟨W.heap.size + 1, 0, none⟩ = some (.int .i64 x.place) := HB.out.fc.cell 0
    have y1 : w9.cell? ⟨W.heap.size + 1, 1, none⟩ = some (.int .i64 x.element) := HB.out.fc.cell 1
    have y2 : w9.cell? ⟨W.heap.size + 1, 2, none⟩ = some (.int .i64 x.under) := HB.out.fc.cell 2
    have y5 : w9.cell? ⟨W.heap.size + 1, 5, none⟩ = some (.slice M x.marks.length m) := HB.out.fc.cell 5
    go_wp2_with fail
    refine (H0.out _).mono ?_
    rintro e u0 ⟨rfl, rfl⟩
    go_wp2_with fail
    refine (H1.out _).mono ?_
    rintro e u1 ⟨rfl, rfl⟩
    go_wp2_with fail
    refine (H2.out _).mono ?_
    rintro e u2 ⟨rfl, rfl⟩
    go_wp2_with fail
    go_ret
    exact ⟨ret_bool HE.out.symm, HB.out.r.b⟩
  cases h4 : allB x.marks (-5) 5 <;> rw [h4] at H4
  · have HE := hn false (by unfold clB; rw [h0, h1, h2, h3, h4]; rfl)
    have q3 : ((x.marks.length : Int) == n) = true := by simpa using h3
    clear hn h0 h1 h2 h3 h4
    go_enter Try.func77, Try.ntmps77
    go_upto_region 1 with fail
    generalize (W.alloc (.cells (ruc r A c) 24)).alloc (.cells (clc x M m) 52) = w9 at HB ⊢
    have x0 : w9.cell? ⟨W.heap.size, 0, none⟩ = some (.slice A r.bases.length c) := HB.out.r.fr.cell 0
    have y0 : w9.cell? ⟨W.heap.size + 1, 0, none⟩ = some (.int .i64 x.place) := HB.out.fc.cell 0
    have y1 : w9.cell? ⟨W.heap.size + 1, 1, none⟩ = some (.int .i64 x.element) := HB.out.fc.cell 1
    have y2 : w9.cell? ⟨W.heap.size + 1, 2, none⟩ = some (.int .i64 x.under) := HB.out.fc.cell 2
    have y5 : w9.cell? ⟨W.heap.size + 1, 5, none⟩ = some (.slice M x.marks.length m) := HB.out.fc.cell 5
    go_wp2_with fail
    refine (H0.out _).mono ?_
    rintro e u0 ⟨rfl, rfl⟩
    go_wp2_with fail
    refine (H1.out _).mono ?_
    rintro e u1 ⟨rfl, rfl⟩
    go_wp2_with fail
    refine (H2.out _).mono ?_
    rintro e u2 ⟨rfl, rfl⟩
    go_wp2_with fail
    refine (H4.out _ HB.out).mono ?_
    rintro e u4 ⟨rfl, hb⟩
    replace HB := Lib.hid (HB.out.step hb)
    clear hb
    go_wp2_with fail
    go_ret
    exact ⟨ret_bool HE.out.symm, HB.out.r.b⟩
  have HE := hn true (by unfold clB; rw [h0, h1, h2, h3, h4]; rfl)
  have q3 : ((x.marks.length : Int) == n) = true := by simpa using h3
  clear hn h0 h1 h2 h3 h4
  go_enter Try.func77, Try.ntmps77
  go_upto_region 1 with fail
  generalize (W.alloc (.cells (ruc r A c) 24)).alloc (.cells (clc x M m) 52) = w9 at HB ⊢
  have x0 : w9.cell? ⟨W.heap.size, 0, none⟩ = some (.slice A r.bases.length c) := HB.out.r.fr.cell 0
  have y0 : w9.cell? ⟨W.heap.size + 1, 0, none⟩ = some (.int .i64 x.place) := HB.out.fc.cell 0
  have y1 : w9.cell? ⟨W.heap.size + 1, 1, none⟩ = some (.int .i64 x.element) := HB.out.fc.cell 1
  have y2 : w9.cell? ⟨W.heap.size + 1, 2, none⟩ = some (.int .i64 x.under) := HB.out.fc.cell 2
  have y5 : w9.cell? ⟨W.heap.size + 1, 5, none⟩ = some (.slice M x.marks.length m) := HB.out.fc.cell 5
  go_wp2_with fail
  refine (H0.out _).mono ?_
  rintro e u0 ⟨rfl, rfl⟩
  go_wp2_with fail
  refine (H1.out _).mono ?_
  rintro e u1 ⟨rfl, rfl⟩
  go_wp2_with fail
  refine (H2.out _).mono ?_
  rintro e u2 ⟨rfl, rfl⟩
  go_wp2_with fail
  refine (H4.out _ HB.out).mono ?_
  rintro e u4 ⟨rfl, hb⟩
  replace HB := Lib.hid (HB.out.step hb)
  clear hb
  go_wp2_with fail
  go_ret
  exact ⟨ret_bool HE.out.symm, HB.out.r.b⟩
end Go.Proofs.Ytmclchaalmonnaa
