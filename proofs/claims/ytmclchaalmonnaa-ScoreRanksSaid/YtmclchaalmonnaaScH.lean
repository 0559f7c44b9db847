/- Contracts: value, off, program$1. -/
import Derived.Test.YtmclchaalmonnaaScG
namespace Go.Proofs.Ytmclchaalmonnaa
open Go.RowKit
/-- a call that can be -/
structure VC (c : Cl) : Prop where
  under : 0 ≤ c.under ∧ c.under ≤ 2
  l1 : 1 ≤ c.marks.length
  l9 : c.marks.length ≤ 9
  m : ∀ x ∈ c.marks, -5 ≤ x ∧ x ≤ 5
theorem sum_bd {l : List Int} {M : Int} (h : ∀ x ∈ l, -M ≤ x ∧ x ≤ M) : -(M * l.length) ≤ l.sum ∧ l.sum ≤ M * l.length := by
  have := sum_take_bd h l.length (Nat.le_refl _)
  rwa [List.take_length] at this
theorem mid_len_bd {l : List Int} (h1 : 1 ≤ l.length) (h9 : l.length ≤ 9) : 1 ≤ (mid l).length ∧ (mid l).length ≤ 9 := by
  rw [mid_length]; split <;> omega
theorem mid_sum_bd {l : List Int} {M : Int} (hM : 0 ≤ M) (h1 : 1 ≤ l.length) (h9 : l.length ≤ 9) (h : ∀ x ∈ l, -M ≤ x ∧ x ≤ M) : -(M * 9) ≤ (mid l).sum ∧ (mid l).sum ≤ M * 9 := by
  have h2 := mid_len_bd h1 h9
  have h3 := sum_bd (l := mid l) (M := M) (fun x hx => h x (mid_mem hx))
  have h4 : M * ((mid l).length : Int) ≤ M * 9 := Int.mul_le_mul_of_nonneg_left (by omega) hM
  omega
theorem mul_bd {a b A B : Int} (ha : -A ≤ a ∧ a ≤ A) (hb : 0 ≤ b ∧ b ≤ B) (_hA : 0 ≤ A) : -(A * B) ≤ a * b ∧ a * b ≤ A * B := by
  have h1 : a * b ≤ A * b := Int.mul_le_mul_of_nonneg_right ha.2 hb.1
  have h2 : A * b ≤ A * B := Int.mul_le_mul_of_nonneg_left hb.2 (by omega)
  have h3 : -A * b ≤ a * b := Int.mul_le_mul_of_nonneg_right ha.1 hb.1
  have h4 : -A * b = -(A * b) := Int.neg_mul _ _
  omega
structure CB (W w : World) (D : Nat) (x : Cl) (M : Option Addr) (m : Nat) : Prop where
  b : Below W.heap.size W w
  fc : Has w D 52 (clc x M m)
  rm : IRow w W.heap.size M x.marks
theorem CB.step {W w w' : World} {D : Nat} {x : Cl} {M : Option Addr} {m : Nat} (h : CB W w D x M m) (hb : Below w.heap.size w w') : CB W w' D x M m := ⟨h.b.trans (hb.mono h.b.size), h.fc.below hb h.fc.lt, h.rm.below (hb.mono h.b.size)⟩
set_option maxRecDepth 100000 in
set_option maxHeartbeats 2000000 in
theorem value_any (b : Int) (x : Cl) (M : Option Addr) (m : Nat) (W : World) (hv : VC x) (hb : 0 ≤ b ∧ b ≤ 2000) (hm : IRow W W.heap.size M x.marks) :
    Calls Try.prog 67 #[.int .i64 b, clv x M m] W (IntPost (valC b x) W) := by
  have HB : Hid (CB W (W.alloc (.cells (clc x M m) 52)) W.heap.size x M m) := Lib.hid ⟨below_one W _, Has.new W 52 _, hm.below (below_one W _)⟩
  have HC := Lib.hid (fun w (h : CB W w W.heap.size x M m) => counting_any x.marks M m w (h.rm.more h.b.size) hv.l1 hv.l9)
  have hml := mid_len_bd hv.l1 hv.l9
  have hms := mid_sum_bd (M := 5) (by omega) hv.l1 hv.l9 (fun y hy => hv.m y hy)
  have HT := Lib.hid (fun A c w (h : IRow w w.heap.size A (mid x.marks)) => total_any (mid x.marks) A c w h (by omega) (fun y hy => by have := hv.m y (mid_mem hy); omega))
  have hu := hv.under
  have hV : valC b x = rnd (b * (10 - 2 * x.under) * (if x.late then 11 else 10)) 100 + rnd ((mid x.marks).sum * (b * (10 - 2 * x.under))) (100 * ((mid x.marks).length : Int)) := rfl
  unfold CntPost at HC
  generalize hk : valC b x = V at *
  clear hk
  generalize (mid x.marks).sum = S at *
  obtain ⟨p, hp⟩ : ∃ p, p = b * (10 - 2 * x.under) := ⟨_, rfl⟩
  have hpb : 0 ≤ p ∧ p ≤ 20000 := by
    have h1 := mul_bd (a := b) (b := 10 - 2 * x.under) (A := 2000) (B := 10) (by omega) (by omega) (by omega)
    have h2 : 0 ≤ b * (10 - 2 * x.under) := Int.mul_nonneg hb.1 (by omega)
    omega
  rw [← hp] at hV
  obtain ⟨q, hq⟩ : ∃ q, q = S * p := ⟨_, rfl⟩
  have hqb : -900000 ≤ q ∧ q ≤ 900000 := by
    have := mul_bd (a := S) (b := p) (A := 45) (B := 20000) (by omega) hpb (by omega)
    omega
  rw [← hq] at hV
  have hp' := hp.symm
  have hq' := hq.symm
  obtain ⟨n, hn⟩ : ∃ n, n = (mid x.marks).length := ⟨_, rfl⟩
  rw [← hn] at hml hV
  have HN := Lib.hid hn
  have HR2 := Lib.hid (fun w => rounded_any q (100 * (n : Int)) w (by omega) (by omega))
  have hr2 := rnd_bd (n := q) (b := 100 * (n : Int)) (M := 900000) (by omega) (by omega)
  rw [← hn] at HT HC
  unfold IntPost at HT
  clear hm hv hp hq hn hms
  unfold clv
  cases hla : x.late
  · simp only [hla, Bool.false_eq_true, if_false] at hV
    have HR1 := Lib.hid (fun w => rounded_any (p * 10) 100 w (by omega) (by omega))
    have hr1 := rnd_bd (n := p * 10) (b := 100) (M := 220000) (by omega) (by omega)
    generalize rnd (p * 10) 100 = r1 at hV HR1 hr1
    generalize rnd q (100 * (n : Int)) = r2 at hV HR2 hr2
    have HV := Lib.hid hV
    clear hV
    have HLA := Lib.hid hla
    clear hla
    go_enter Try.func67, Try.ntmps67
    go_upto_region 1 with fail
    generalize W.alloc (.cells _ 52) = w0 at HB ⊢
    have y2 : w0.cell? ⟨W.heap.size, 2, none⟩ = some (.int .i64 x.under) := HB.out.fc.cell 2
    have y3 : w0.cell? ⟨W.heap.size, 3, none⟩ = some (.bool false) := (HB.out.fc.cell 3).trans (by simp [HLA.out])
    have y5 : w0.cell? ⟨W.heap.size, 5, none⟩ = some (.slice M x.marks.length m) := HB.out.fc.cell 5
    go_wp2_with fail
    refine (HC.out _ HB.out).mono ?_
    rintro e w1 ⟨A1, c1, rfl, hr1', hb1⟩
    have H1 := Lib.hid (And.intro (HB.out.step hb1) hr1')
    clear hr1' hb1 y2 y3 y5
    go_wp2_with fail
    refine (HR1.out _).mono ?_
    rintro e w2 ⟨rfl, rfl⟩
    go_wp2_with fail
    refine (HT.out _ _ _ H1.out.2).mono ?_
    rintro e w3 ⟨rfl, hb3⟩
    have H3 := Lib.hid (H1.out.1.step hb3)
    clear hb3
    go_wp2_with fail
    refine (HR2.out _).mono ?_
    rintro e w4 ⟨rfl, rfl⟩
    go_wp2_with fail
    go_ret
    exact ⟨ret_int HV.out.symm, H3.out.b⟩
  · simp only [hla, if_true] at hV
    have HR1 := Lib.hid (fun w => rounded_any (p * 11) 100 w (by omega) (by omega))
    have hr1 := rnd_bd (n := p * 11) (b := 100) (M := 220000) (by omega) (by omega)
    generalize rnd (p * 11) 100 = r1 at hV HR1 hr1
    generalize rnd q (100 * (n : Int)) = r2 at hV HR2 hr2
    have HV := Lib.hid hV
    clear hV
    have HLA := Lib.hid hla
    clear hla
    go_enter Try.func67, Try.ntmps67
    go_upto_region 1 with fail
    generalize W.alloc (.cells _ 52) = w0 at HB ⊢
    have y2 : w0.cell? ⟨W.heap.size, 2, none⟩ = some (.int .i64 x.under) := HB.out.fc.cell 2
    have y3 : w0.cell? ⟨W.heap.size, 3, none⟩ = some (.bool true) := (HB.out.fc.cell 3).trans (by simp [HLA.out])
    have y5 : w0.cell? ⟨W.heap.size, 5, none⟩ = some (.slice M x.marks.length m) := HB.out.fc.cell 5
    go_wp2_with fail
    refine (HC.out _ HB.out).mono ?_
    rintro e w1 ⟨A1, c1, rfl, hr1', hb1⟩
    have H1 := Lib.hid (And.intro (HB.out.step hb1) hr1')
    clear hr1' hb1 y2 y3 y5
    go_wp2_with fail
    refine (HR1.out _).mono ?_
    rintro e w2 ⟨rfl, rfl⟩
    go_wp2_with fail
    refine (HT.out _ _ _ H1.out.2).mono ?_
    rintro e w3 ⟨rfl, hb3⟩
    have H3 := Lib.hid (H1.out.1.step hb3)
    clear hb3
    go_wp2_with fail
    refine (HR2.out _).mono ?_
    rintro e w4 ⟨rfl, rfl⟩
    go_wp2_with fail
    go_ret
    exact ⟨ret_int HV.out.symm, H3.out.b⟩
end Go.Proofs.Ytmclchaalmonnaa
