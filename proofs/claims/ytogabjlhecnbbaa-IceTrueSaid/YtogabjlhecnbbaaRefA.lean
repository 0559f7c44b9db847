/- Contracts of the document's small functions: in, Within, Rink. -/
import Derived.Test.YtogabjlhecnbbaaIceA
namespace Go.Proofs.Ytogabjlhecnbbaa
open Go.RowKit Go.Shelf

def inB (n low high : Int) : Bool := decide (low ≤ n ∧ n ≤ high)

set_option maxHeartbeats 400000 in
theorem in_any (n low high : Int) (w : World) : Calls Try.prog 42 #[.int .i64 n, .int .i64 low, .int .i64 high] w fun e w' => e = .returned (.bool (inB n low high)) ∧ w = w' := by
  by_cases h1 : low ≤ n
  · have HE : Hid (inB n low high = decide (n ≤ high)) := by show _ = _; simp [inB, h1]
    go_enter Try.func42, Try.ntmps42
    go_wp2
    go_ret
    exact ⟨ret_bool (by rw [HE.out]), rfl⟩
  · have h1b : decide (low ≤ n) = false := by simpa using h1
    have HE : Hid (inB n low high = false) := by show _ = _; simp [inB, h1]
    go_enter Try.func42, Try.ntmps42
    go_wp2
    go_ret
    exact ⟨ret_bool (by rw [HE.out]), rfl⟩

set_option maxHeartbeats 400000 in
theorem withinR_any (lo hi : Int) (w : World) : Calls Try.prog 61 #[.agg #[.int .i64 lo, .int .i64 hi], .int .i64 20000] w fun e w' => e = .returned (.bool (win lo hi)) ∧ Below w.heap.size w w' := by
  by_cases h1 : 0 ≤ lo
  · by_cases h2 : lo ≤ hi
    · by_cases h3 : hi ≤ 20000
      · go_enter Try.func61, Try.ntmps61
        go_wp2
        go_ret
        exact ⟨ret_bool (by simp [win]; omega), below1 _ _⟩
      · go_enter Try.func61, Try.ntmps61
        go_wp2
        go_ret
        exact ⟨ret_bool (by simp [win]; omega), below1 _ _⟩
    · go_enter Try.func61, Try.ntmps61
      go_wp2
      go_ret
      exact ⟨ret_bool (by simp [win]; omega), below1 _ _⟩
  · go_enter Try.func61, Try.ntmps61
    go_wp2
    go_ret
    exact ⟨ret_bool (by simp [win]; omega), below1 _ _⟩

theorem rinkOk_bad {zs : List Zn} {k : Nat} (hk : k < zs.length) (h : zs[k].ok = false) : rinkOk zs = false := by
  unfold rinkOk
  have : zs.all Zn.ok = false := by rw [List.all_eq_false]; exact ⟨_, List.getElem_mem hk, by simp [h]⟩
  simp [this]
theorem rinkOk_end {zs : List Zn} {k : Nat} (h : NoneTo (fun z => !z.ok) zs k) (hk : zs.length ≤ k ∨ 25 ≤ k) (hk2 : k ≤ zs.length) : rinkOk zs = inB zs.length 1 24 := by
  unfold rinkOk inB
  rcases hk with hk | hk
  · have : zs.all Zn.ok = true := by
      rw [List.all_eq_true]
      intro z hz
      obtain ⟨j, hj, rfl⟩ := List.getElem_of_mem hz
      have := h j hj (by omega)
      simpa using this
    rw [this, Bool.and_true]
    by_cases h1 : 1 ≤ zs.length <;> by_cases h2 : zs.length ≤ 24 <;> simp [h1, h2] <;> omega
  · have h2 : ¬ zs.length ≤ 24 := by omega
    have h3 : ¬ (zs.length : Int) ≤ 24 := by omega
    simp [h2, h3]

set_option maxHeartbeats 1000000 in
theorem rinkR_any (zs : List Zn) (A : Option Addr) (cap : Nat) (w : World) (hz : ZRow w w.heap.size A zs) (_hl : zs.length ≤ 9223372036854775807) :
    Calls Try.prog 29 #[.slice A zs.length cap] w fun e w' => e = .returned (.bool (rinkOk zs)) ∧ Below w.heap.size w w' := by
  go_enter Try.func29, Try.ntmps29
  go_wp2_with fail
  go_loopw [3] (fun i wr => ∃ k : Nat, k ≤ zs.length ∧ k ≤ 25 ∧ i = .int .i64 k ∧ NoneTo (fun z => !z.ok) zs k ∧ Below w.heap.size w wr) (fun i _ => zs.length - (intOf i).toNat)
  case atStart => exact ⟨0, Nat.zero_le _, by omega, rfl, fun j _ h => absurd h (by omega), Below.refl _ _⟩
  case round =>
    obtain ⟨k, hk, hk25, rfl, hn, hb⟩ := hrel
    by_cases hlt : k < zs.length
    · have hltI : (k : Int) < zs.length := by omega
      have hd0 : decide (k < zs.length) = true := by simpa using hlt
      by_cases h24 : k ≤ 24
      · have h24I : (k : Int) ≤ 24 := by omega
        obtain ⟨g, o, rfl, hg, c0, c1, c2, c3⟩ := hz k hlt
        rw [← hb.cell (p := ⟨g, _, none⟩) hg] at c0 c1 c2 c3
        have hgr : g < wr.heap.size := Nat.lt_of_lt_of_le hg hb.size
        cases hw1 : win zs[k].a zs[k].b
        · have HF : Hid (rinkOk zs = false) := rinkOk_bad hlt (by simp [Zn.ok, hw1])
          go_wp2_with fail
          refine (withinR_any _ _ _).mono ?_
          rintro e w1 ⟨rfl, hb1⟩
          go_wp2_with fail
          go_ret
          exact ⟨ret_bool HF.out.symm, belowT hb hb1⟩
        · go_wp2_with fail
          refine (withinR_any _ _ _).mono ?_
          rintro e w1 ⟨rfl, hb1⟩
          have hbw := belowT hb hb1
          rw [← hb1.cell (p := ⟨g, _, none⟩) hgr] at c2 c3
          cases hw2 : win zs[k].c zs[k].d
          · have HF : Hid (rinkOk zs = false) := rinkOk_bad hlt (by simp [Zn.ok, hw2])
            go_wp2_with fail
            refine (withinR_any _ _ _).mono ?_
            rintro e w2 ⟨rfl, hb2⟩
            go_wp2_with fail
            go_ret
            exact ⟨ret_bool HF.out.symm, belowT hbw hb2⟩
          · have hns := noneTo_succ (hk := hlt) hn (by simp [Zn.ok, hw1, hw2])
            go_wp2_with fail
            refine (withinR_any _ _ _).mono ?_
            rintro e w2 ⟨rfl, hb2⟩
            have hbw2 := belowT hbw hb2
            go_wp2_with fail
            go_roundw
            case rel => exact ⟨k + 1, by omega, by omega, by go_num, hns, hbw2⟩
            case measure => simp [intOf]; omega
      · have h24d : decide ((k : Int) ≤ 24) = false := by simp; omega
        have HE := Lib.hid (rinkOk_end hn (.inr (by omega)) hk)
        go_wp2_with fail
        refine (in_any _ _ _ _).mono ?_
        rintro e w1 ⟨rfl, rfl⟩
        go_wp2_with fail
        go_ret
        exact ⟨ret_bool HE.out.symm, hb⟩
    · have HE := Lib.hid (rinkOk_end hn (.inl (by omega)) hk)
      have hd0 : decide (k < zs.length) = false := by simpa using hlt
      have hge : (zs.length : Int) ≤ k := by omega
      go_wp2_with fail
      refine (in_any _ _ _ _).mono ?_
      rintro e w1 ⟨rfl, rfl⟩
      go_wp2_with fail
      go_ret
      exact ⟨ret_bool HE.out.symm, hb⟩
end Go.Proofs.Ytogabjlhecnbbaa
