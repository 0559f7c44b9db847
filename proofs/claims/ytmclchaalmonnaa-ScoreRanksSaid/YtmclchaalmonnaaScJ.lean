/- Contracts: the sum over parts. -/
import Derived.Test.YtmclchaalmonnaaScI
namespace Go.Proofs.Ytmclchaalmonnaa
open Go.RowKit
/-- marks of parts that can be -/
def VP (m : List Int) : Prop := 1 ≤ m.length ∧ m.length ≤ 9 ∧ ∀ x ∈ m, 0 ≤ x ∧ x ≤ 40
theorem part_bd {f : Int} {m : List Int} (hm : VP m) (hf : 0 ≤ f ∧ f ≤ 1000) : -1000000 ≤ partP f m ∧ partP f m ≤ 1000000 := by
  obtain ⟨h1, h9, hl⟩ := hm
  have hml := mid_len_bd h1 h9
  have hms := mid_sum_bd (M := 40) (by omega) h1 h9 (fun y hy => by have := hl y hy; omega)
  have h2 := mul_bd (a := (mid m).sum) (b := f) (A := 360) (B := 1000) (by omega) hf (by omega)
  have := rnd_bd (n := (mid m).sum * f) (b := 4 * ((mid m).length : Int)) (M := 360000) (by omega) (by omega)
  unfold partP
  omega
theorem val_bd {b : Int} {x : Cl} (hv : VC x) (hb : 0 ≤ b ∧ b ≤ 2000) : -3000000 ≤ valC b x ∧ valC b x ≤ 3000000 := by
  have hml := mid_len_bd hv.l1 hv.l9
  have hms := mid_sum_bd (M := 5) (by omega) hv.l1 hv.l9 (fun y hy => hv.m y hy)
  have hu := hv.under
  unfold valC
  have hpb : 0 ≤ b * (10 - 2 * x.under) ∧ b * (10 - 2 * x.under) ≤ 20000 := by
    have h1 := mul_bd (a := b) (b := 10 - 2 * x.under) (A := 2000) (B := 10) (by omega) (by omega) (by omega)
    have h2 : 0 ≤ b * (10 - 2 * x.under) := Int.mul_nonneg hb.1 (by omega)
    omega
  generalize b * (10 - 2 * x.under) = p at *
  have hqb := mul_bd (a := (mid x.marks).sum) (b := p) (A := 45) (B := 20000) (by omega) hpb (by omega)
  have h1 := rnd_bd (n := (mid x.marks).sum * p) (b := 100 * ((mid x.marks).length : Int)) (M := 900000) (by omega) (by omega)
  have h2 := rnd_bd (n := p * (if x.late then 11 else 10)) (b := 100) (M := 220000) (by split <;> omega) (by omega)
  omega
set_option maxRecDepth 100000 in
set_option maxHeartbeats 1000000 in
theorem parts_any (r : Ru) (A : Option Addr) (c : Nat) (R : Nat) (l : List (List Int)) (L : Option Addr) (k0 : Nat) (W : World) (hR : Has W R 24 (ruc r A c)) (hf : 0 ≤ r.factor ∧ r.factor ≤ 1000) (ha : PRow W W.heap.size L l) (hl : l.length ≤ 1000) (hv : ∀ m ∈ l, VP m) :
    Calls Try.prog 58 #[.slice L l.length k0, .func (.func 59) #[] #[.pointer (some ⟨R, 0, none⟩)]] W (IntPost (l.map (partP r.factor)).sum W) := by
  have HA := Lib.hid ha
  have HV := Lib.hid hv
  have HBD : Hid (∀ x ∈ l.map (partP r.factor), -1000000 ≤ x ∧ x ≤ 1000000) := Lib.hid (by
    intro x hx
    obtain ⟨m, hm, rfl⟩ := List.mem_map.1 hx
    exact part_bd (hv m hm) hf)
  have HSU := Lib.hid (sum_take_bd HBD.out)
  have HPT := Lib.hid (fun (m : List Int) M k w (h : Has w R 24 (ruc r A c)) (hm : IRow w w.heap.size M m) (hv : VP m) => part_any r A c R m M k w h hf hm hv.1 hv.2.1 hv.2.2)
  have HR := Lib.hid hR
  clear ha hv hR
  have hlm : (l.map (partP r.factor)).length = l.length := by simp
  obtain ⟨pl, hpl⟩ : ∃ pl, pl = l.map (partP r.factor) := ⟨_, rfl⟩
  rw [← hpl] at HSU HBD hlm ⊢
  have HPL := Lib.hid (And.intro hpl hlm)
  clear hpl hlm
  go_enter Try.func58, Try.ntmps58
  go_wp2_with fail
  go_loopg [10, 5] l.length (fun gk i n wr => ∃ k : Nat, k ≤ l.length ∧ l.length - k ≤ gk ∧ i = .int .i64 k ∧ n = .int .i64 (pl.take k).sum ∧ Hid (Below W.heap.size W wr))
  case atStart => exact ⟨0, Nat.zero_le _, Nat.le_refl _, rfl, rfl, Lib.hid (Below.refl _ _)⟩
  case round =>
    obtain ⟨k, hk, hgk, rfl, rfl, HW⟩ := hrel
    by_cases hlt : k < l.length
    rotate_left
    · have hge : ¬ (k : Int) < l.length := by omega
      have HE : Hid ((pl.take k).sum = pl.sum) := Lib.hid (by rw [List.take_of_length_le (by rw [HPL.out.2]; omega)])
      generalize (pl.take k).sum = q at *
      go_wp2_with fail
      go_ret
      exact ⟨ret_int HE.out, HW.out⟩
    have hlt2 : (k : Int) < l.length := by omega
    obtain ⟨g, o, M, m, hg, hgs, hc, hm, hml⟩ := ((HA.out.below HW.out).more HW.out.size) k hlt
    have hb1 := HSU.out k (by rw [HPL.out.2]; omega)
    have hb2 := HBD.out (pl[k]'(by rw [HPL.out.2]; omega)) (List.getElem_mem _)
    have HN := Lib.hid (sum_take_succ (l := pl) (k := k) (by rw [HPL.out.2]; omega))
    have hpv : pl[k]'(by rw [HPL.out.2]; omega) = partP r.factor l[k] := by
      have := HPL.out.1
      subst this
      simp
    have HVM := HV.out l[k] (List.getElem_mem hlt)
    obtain ⟨q, hq⟩ : ∃ q, q = (pl.take k).sum := ⟨_, rfl⟩
    obtain ⟨x, hx⟩ : ∃ x, x = l[k] := ⟨_, rfl⟩
    rw [← hq] at hb1 HN ⊢
    rw [hpv] at hb2 HN
    rw [← hx] at hb2 HN hc hm hml HVM
    have HCL := Lib.hid (HPT.out x M m wr (HR.out.below HW.out HR.out.lt) hm HVM)
    unfold IntPost at HCL
    generalize partP r.factor x = v at *
    have e1 : IntKind.i64.wrap (q + v) = q + v := IntWalk.i64_in _ (by omega)
    unfold big at hml
    subst hg
    clear hq hx hgs hb1 hb2 hm hpv HVM
    go_wp2_with fail
    refine HCL.out.mono ?_
    rintro e w2 ⟨rfl, hb⟩
    have H2 := Lib.hid (HW.out.trans (hb.mono HW.out.size))
    clear hb hc
    go_wp2_with fail
    go_roundg (l.length - (k + 1))
    case measure => omega
    case rel => exact ⟨k + 1, by omega, Nat.le_refl _, by go_num, by rw [HN.out], H2⟩
end Go.Proofs.Ytmclchaalmonnaa
