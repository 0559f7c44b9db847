/- Contracts: off, program$1, the sum over parts. -/
import Derived.Test.YtmclchaalmonnaaScH
import Derived.Test.YtmclchaalmonnaaCls
namespace Go.Proofs.Ytmclchaalmonnaa
open Go.RowKit
attribute [local irreducible] wpQuiet
set_option maxRecDepth 100000 in
set_option maxHeartbeats 1000000 in
theorem fallen_any (x : Cl) (M : Option Addr) (m : Nat) (W : World) : Calls Try.prog 82 #[clv x M m] W (BoolPost x.fall W) := by
  have HB := Lib.hid (And.intro (below_one W (.cells (clc x M m) 52)) (Has.new W 52 (clc x M m)))
  unfold clv
  go_enter Try.func82, Try.ntmps82
  go_upto_region 1 with fail
  generalize W.alloc (.cells (clc x M m) 52) = w0 at HB ⊢
  have y4 : w0.cell? ⟨W.heap.size, 4, none⟩ = some (.bool x.fall) := HB.out.2.cell 4
  go_wp2_with fail
  go_ret
  exact ⟨rfl, HB.out.1⟩
theorem falls_succ {l : List Cl} {k : Nat} (h : k < l.length) : fallsP (l.take (k + 1)) = fallsP (l.take k) + (if l[k].fall then 1 else 0) := by
  unfold fallsP
  rw [List.take_succ_eq_append_getElem h, List.countP_append]
  simp [List.countP_cons]
theorem falls_le (l : List Cl) (k : Nat) : fallsP (l.take k) ≤ k := Nat.le_trans List.countP_le_length (by rw [List.length_take]; omega)
set_option maxRecDepth 100000 in
set_option maxHeartbeats 1000000 in
theorem falls_any (l : List Cl) (A : Option Addr) (c : Nat) (W : World) (ha : CRow W W.heap.size A l) (hl : l.length ≤ 1000) :
    Calls Try.prog 81 #[.slice A l.length c, .func (.func 82) #[] #[]] W (IntPost (fallsP l) W) := by
  have HA := Lib.hid ha
  have HF := Lib.hid (fun (x : Cl) M m w => fallen_any x M m w)
  unfold clv at HF
  clear ha
  go_enter Try.func81, Try.ntmps81
  go_wp2_with fail
  go_loopg [10, 5] l.length (fun gk i n wr => ∃ k : Nat, k ≤ l.length ∧ l.length - k ≤ gk ∧ i = .int .i64 k ∧ n = .int .i64 (fallsP (l.take k)) ∧ Hid (Below W.heap.size W wr))
  case atStart => exact ⟨0, Nat.zero_le _, Nat.le_refl _, rfl, rfl, Lib.hid (Below.refl _ _)⟩
  case round =>
    obtain ⟨k, hk, hgk, rfl, rfl, HW⟩ := hrel
    by_cases hlt : k < l.length
    rotate_left
    · have hge : ¬ (k : Int) < l.length := by omega
      have HE : Hid (fallsP (l.take k) = fallsP l) := Lib.hid (by rw [List.take_of_length_le (by omega)])
      generalize fallsP (l.take k) = q at *
      go_wp2_with fail
      go_ret
      exact ⟨ret_int (by rw [HE.out]), HW.out⟩
    have hlt2 : (k : Int) < l.length := by omega
    obtain ⟨g, o, M, m, hg, hgs, hc, hm, hml⟩ := (HA.out.below HW.out) k hlt
    have hq := falls_le l k
    have HN := Lib.hid (falls_succ hlt)
    obtain ⟨q, hqe⟩ : ∃ q, q = fallsP (l.take k) := ⟨_, rfl⟩
    obtain ⟨x, hx⟩ : ∃ x, x = l[k] := ⟨_, rfl⟩
    rw [← hqe] at hq HN ⊢
    rw [← hx] at hc hm HN
    have z0 : wr.cell? ⟨g, o + k * 6, none⟩ = some (.int .i64 x.place) := hc 0 (by omega)
    have z1 : wr.cell? ⟨g, o + k * 6 + 1, none⟩ = some (.int .i64 x.element) := hc 1 (by omega)
    have z2 : wr.cell? ⟨g, o + k * 6 + 2, none⟩ = some (.int .i64 x.under) := hc 2 (by omega)
    have z3 : wr.cell? ⟨g, o + k * 6 + 3, none⟩ = some (.bool x.late) := hc 3 (by omega)
    have z4 : wr.cell? ⟨g, o + k * 6 + 4, none⟩ = some (.bool x.fall) := hc 4 (by omega)
    have z5 : wr.cell? ⟨g, o + k * 6 + 5, none⟩ = some (.slice M x.marks.length m) := hc 5 (by omega)
    have HX : Hid (Below W.heap.size W (wr.alloc (.cells (clc x M m) 52)) ∧ Has (wr.alloc (.cells (clc x M m) 52)) wr.heap.size 52 (clc x M m)) :=
      Lib.hid ⟨HW.out.trans ((below_one _ _).mono HW.out.size), Has.new _ _ _⟩
    subst hg
    clear hqe hx hgs hc hm hml
    go_upto_region 5 with fail
    clear z0 z1 z2 z3 z4 z5
    generalize wr.alloc (.cells (clc x M m) 52) = w2 at HX ⊢
    generalize wr.heap.size = E at HX ⊢
    have z0 : w2.cell? ⟨E, 0, none⟩ = some (.int .i64 x.place) := HX.out.2.cell 0
    have z1 : w2.cell? ⟨E, 1, none⟩ = some (.int .i64 x.element) := HX.out.2.cell 1
    have z2 : w2.cell? ⟨E, 2, none⟩ = some (.int .i64 x.under) := HX.out.2.cell 2
    have z3 : w2.cell? ⟨E, 3, none⟩ = some (.bool x.late) := HX.out.2.cell 3
    have z4 : w2.cell? ⟨E, 4, none⟩ = some (.bool x.fall) := HX.out.2.cell 4
    have z5 : w2.cell? ⟨E, 5, none⟩ = some (.slice M x.marks.length m) := HX.out.2.cell 5
    go_wp2_with fail
    refine (HF.out x M m _).mono ?_
    rintro e w3 ⟨rfl, hb3⟩
    have H3 := Lib.hid (HX.out.1.trans (hb3.mono HX.out.1.size))
    clear hb3 z0 z1 z2 z3 z4 z5
    cases hfl : x.fall <;> rw [hfl] at HN
    · have HN2 := Lib.hid (show fallsP (l.take (k + 1)) = q from by rw [HN.out]; rfl)
      clear hfl
      go_wp2_with fail
      go_roundg (l.length - (k + 1))
      case measure => omega
      case rel => exact ⟨k + 1, by omega, Nat.le_refl _, by go_num, by rw [HN2.out], H3⟩
    · have HN2 := Lib.hid (show fallsP (l.take (k + 1)) = q + 1 from by rw [HN.out]; rfl)
      clear hfl
      go_wp2_with fail
      go_roundg (l.length - (k + 1))
      case measure => omega
      case rel => exact ⟨k + 1, by omega, Nat.le_refl _, by go_num, by rw [HN2.out]; go_num, H3⟩
structure SB (W w : World) (D : Nat) (s : Sk) (AC AP : Option Addr) (cc cp : Nat) : Prop where
  b : Below W.heap.size W w
  fs : Has w D 28 (skc s AC AP cc cp)
  rs : SkR w W.heap.size s AC AP
theorem SB.step {W w w' : World} {D : Nat} {s : Sk} {AC AP : Option Addr} {cc cp : Nat} (h : SB W w D s AC AP cc cp) (hb : Below w.heap.size w w') : SB W w' D s AC AP cc cp := ⟨h.b.trans (hb.mono h.b.size), h.fs.below hb h.fs.lt, h.rs.below (hb.mono h.b.size)⟩
set_option maxRecDepth 100000 in
set_option maxHeartbeats 1000000 in
theorem off_any (s : Sk) (AC AP : Option Addr) (cc cp : Nat) (W : World) (hs : SkR W W.heap.size s AC AP) (h16 : s.calls.length ≤ 1000) (ho : 0 ≤ s.over ∧ s.over ≤ 600) :
    Calls Try.prog 62 #[skv s AC AP cc cp] W (IntPost (offP s) W) := by
  have HB : Hid (SB W (W.alloc (.cells (skc s AC AP cc cp) 28)) W.heap.size s AC AP cc cp) := Lib.hid ⟨below_one W _, Has.new W 28 _, hs.below (below_one W _)⟩
  have HF := Lib.hid (fun w (h : SB W w W.heap.size s AC AP cc cp) => falls_any s.calls AC cc w (h.rs.more h.b.size).c h16)
  have hf : fallsP s.calls ≤ 1000 := Nat.le_trans List.countP_le_length h16
  have hV : Hid (offP s = 100 * ((fallsP s.calls : Int) + max ((fallsP s.calls : Int) - 2) 0 + max ((fallsP s.calls : Int) - 4) 0 + (s.over + 4) / 5)) := Lib.hid rfl
  have hd : 0 ≤ (s.over + 4) / 5 ∧ (s.over + 4) / 5 ≤ 604 := by omega
  generalize fallsP s.calls = f at *
  generalize hop : offP s = V at *
  clear hs hop
  unfold skv
  go_enter Try.func62, Try.ntmps62
  go_upto_region 1 with fail
  generalize W.alloc (.cells (skc s AC AP cc cp) 28) = w0 at HB ⊢
  have x0 : w0.cell? ⟨W.heap.size, 0, none⟩ = some (.slice AC s.calls.length cc) := HB.out.fs.cell 0
  go_wp2_with fail
  refine (HF.out _ HB.out).mono ?_
  rintro e w1 ⟨rfl, hb1⟩
  have H1 := Lib.hid (HB.out.step hb1)
  clear hb1 x0
  have x2 : w1.cell? ⟨W.heap.size, 2, none⟩ = some (.int .i64 s.over) := H1.out.fs.cell 2
  go_wp2_with fail
  all_goals
    go_ret
    refine ⟨ret_int ?_, H1.out.b⟩
    first
    | (rw [hV.out]; done)
    | (rw [hV.out]; omega)
/-- what a part of valid rules is worth: rules in a block, the marks that count in a row -/
structure FB (W w : World) (R : Nat) (r : Ru) (A : Option Addr) (c : Nat) (M : Option Addr) (l : List Int) : Prop where
  b : Below W.heap.size W w
  fr : Has w R 24 (ruc r A c)
  rm : IRow w w.heap.size M l
theorem FB.step {W w w' : World} {R : Nat} {r : Ru} {A : Option Addr} {c : Nat} {M : Option Addr} {l : List Int} (h : FB W w R r A c M l) (hb : Below w.heap.size w w') : FB W w' R r A c M l := ⟨h.b.trans (hb.mono h.b.size), h.fr.below hb h.fr.lt, h.rm.step hb⟩
theorem FB.drew {W w : World} {R : Nat} {r : Ru} {A : Option Addr} {c : Nat} {M : Option Addr} {l : List Int} (h : FB W w R r A c M l) : FB W w.drew R r A c M l := ⟨h.b.drew, h.fr.drew, fun k hk => h.rm k hk⟩
set_option maxRecDepth 100000 in
set_option maxHeartbeats 2000000 in
theorem part_any (r : Ru) (A : Option Addr) (c : Nat) (R : Nat) (l : List Int) (M : Option Addr) (m : Nat) (W : World) (hR : Has W R 24 (ruc r A c)) (hf : 0 ≤ r.factor ∧ r.factor ≤ 1000) (hm : IRow W W.heap.size M l) (h1 : 1 ≤ l.length) (h9 : l.length ≤ 9) (hl : ∀ x ∈ l, 0 ≤ x ∧ x ≤ 40) :
    Calls Try.prog 59 #[.slice M l.length m, .pointer (some ⟨R, 0, none⟩)] W (IntPost (partP r.factor l) W) := by
  have HC := Lib.hid (counting_any l M m W hm h1 h9)
  have HR := Lib.hid hR
  have hml := mid_len_bd h1 h9
  have hms := mid_sum_bd (M := 40) (by omega) h1 h9 (fun y hy => by have := hl y hy; omega)
  have HT := Lib.hid (fun A c w (h : IRow w w.heap.size A (mid l)) => total_any (mid l) A c w h (by omega) (fun y hy => by have := hl y (mid_mem hy); omega))
  have hV : partP r.factor l = rnd ((mid l).sum * r.factor) (4 * ((mid l).length : Int)) := rfl
  unfold CntPost at HC
  generalize hk : partP r.factor l = V at *
  clear hk
  generalize (mid l).sum = S at *
  obtain ⟨q, hq⟩ : ∃ q, q = S * r.factor := ⟨_, rfl⟩
  have hqb : -360000 ≤ q ∧ q ≤ 360000 := by
    have := mul_bd (a := S) (b := r.factor) (A := 360) (B := 1000) (by omega) hf (by omega)
    omega
  rw [← hq] at hV
  have hq' : IntKind.i64.wrap (S * r.factor) = q := by rw [← hq]; exact IntWalk.i64_in _ (by omega)
  obtain ⟨n, hn⟩ : ∃ n, n = (mid l).length := ⟨_, rfl⟩
  rw [← hn] at hml hV
  have HN := Lib.hid hn
  have HR2 := Lib.hid (fun w => rounded_any q (4 * (n : Int)) w (by omega) (by omega))
  rw [← hn] at HT HC
  unfold IntPost at HT
  have HV := Lib.hid hV
  clear hm hR hq hn hms hV hl
  go_enter Try.func59, Try.ntmps59
  go_wp2_with fail
  refine HC.out.mono ?_
  rintro e w1 ⟨A1, c1, rfl, hr1, hb1⟩
  have H1 := Lib.hid (show FB W w1 R r A c A1 (mid l) from ⟨hb1, HR.out.below hb1 HR.out.lt, hr1⟩)
  clear hr1 hb1
  go_upto_region 2 with fail
  have HD := Lib.hid (FB.drew H1.out)
  haveI hne : Nonempty (Cls (fun w' => FB W w' R r A c A1 (mid l))) := ⟨⟨_, HD.out⟩⟩
  have hmix : Try.prog.follows .mixedOrders = true := by kernel_rfl
  have hx1 : ∀ pc : Cls (fun w' => FB W w' R r A c A1 (mid l)), pc.w.cell? ⟨R, 1, none⟩ = some (.int .i64 r.factor) := fun pc => pc.h.fr.cell 1
  have HFT := Lib.hid (fun (w : World) (v : FB W w R r A c A1 (mid l)) => (HT.out A1 c1 w v.rm).mono (fun e w' h' => (show e = .returned (.int .i64 S) ∧ FB W w' R r A c A1 (mid l) from ⟨h'.1, v.step h'.2⟩)))
  have HFR := Lib.hid (fun (w : World) (v : FB W w R r A c A1 (mid l)) => (HR2.out w).mono (fun e w' h' => (show e = .returned (.int .i64 (rnd q (4 * (n : Int)))) ∧ FB W w' R r A c A1 (mid l) from ⟨h'.1, h'.2 ▸ v⟩)))
  have e2 : IntKind.i64.wrap (4 * (n : Int)) = 4 * (n : Int) := IntWalk.i64_in _ (by omega)
  have hc := HFT.out
  have hg := HFR.out
  generalize rnd q (4 * (n : Int)) = r2 at HV hg HFR
  refine wp_region_cls (fun w' => FB W w' R r A c A1 (mid l)) hmix (by kernel_rfl) HD.out ?_
  repeat (quiet_step (first | (with_reducible exact cls_call hc _) | (with_reducible exact cls_call hg _)))
  refine wpQuiet_nil ?_
  rintro w7 ⟨⟨_, hw7⟩, rfl⟩
  have H7 := Lib.hid hw7
  clear hx1 hc hg hne hw7
  try simp only []
  go_wp2_with fail
  go_ret
  exact ⟨ret_int HV.out.symm, H7.out.b⟩
end Go.Proofs.Ytmclchaalmonnaa
