/- The law of Reuse and Room. -/
import Derived.Test.YtjfopmjphiddiaaMgR
namespace Go.Proofs.Ytjfopmjphiddiaa
open Go.RowKit Go.Shelf
set_option maxRecDepth 100000 in
set_option maxHeartbeats 4000000 in
theorem reusesLaw_any (comes needs : List Int) (start room limit : Int) (A A' : Option Addr) (cap cap' : Nat) (W : World) (hr : IRow W W.heap.size A comes) (hr' : IRow W W.heap.size A' needs) (hl : comes.length ≤ 9223372036854775807) (hl' : needs.length ≤ 9223372036854775807) :
    Calls Try.prog 4 #[.slice A comes.length cap, .slice A' needs.length cap', .int .i64 start, .int .i64 room, .int .i64 limit] W fun e W' => e = .returned (.bool true) ∧ Below W.heap.size W W' := by
  have HR := Lib.hid (And.intro hr hr')
  clear hr hr'
  by_cases hx : (30 < comes.length ∧ comes.length ≤ 200) ∨ 205 < comes.length ∨ 210 < needs.length
  · have hex : ((30 : Int) < comes.length ∧ (comes.length : Int) ≤ 200) ∨ (((30 : Int) < comes.length ∧ ¬ (comes.length : Int) ≤ 200) ∧ (205 : Int) < comes.length) ∨ (((30 : Int) < comes.length ∧ ¬ (comes.length : Int) ≤ 200) ∧ ¬ (205 : Int) < comes.length ∧ (210 : Int) < needs.length) ∨ (¬ (30 : Int) < comes.length ∧ ¬ (205 : Int) < comes.length ∧ (210 : Int) < needs.length) := by omega
    clear hx
    rcases hex with ⟨h1, h2⟩ | ⟨⟨h1, h2⟩, h3⟩ | ⟨⟨h1, h2⟩, h3, h4⟩ | ⟨h1, h3, h4⟩
    all_goals
      go_enter Try.func4, Try.ntmps4
      go_wp2_with fail
      refine (alive_any _).mono ?_
      rintro e wb ⟨rfl, hb⟩
      go_wp2_with fail
      go_ret
      exact ⟨rfl, hb⟩
  · have hmn : (((30 : Int) < comes.length ∧ ¬ (comes.length : Int) ≤ 200) ∧ ¬ (205 : Int) < comes.length ∧ ¬ (210 : Int) < needs.length) ∨ (¬ (30 : Int) < comes.length ∧ ¬ (205 : Int) < comes.length ∧ ¬ (210 : Int) < needs.length) := by omega
    have hcl : comes.length ≤ 205 := by omega
    clear hx
    rcases hmn with ⟨⟨h1, h2⟩, h3, h4⟩ | ⟨h1, h3, h4⟩
    all_goals
      go_enter Try.func4, Try.ntmps4
      go_wp2_with fail
      refine (reuse_any comes needs start room A A' cap cap' W HR.out.1 HR.out.2 hl).mono ?_
      rintro e w1 ⟨A1, cap1, rfl, hb1, hI1⟩
      have hlen : (reuseR comes needs start room).1.b.length ≤ 205 := by
        by_cases hE : reErr comes needs start room = 0
        · obtain ⟨a, b, c, d, e, f⟩ := reErr_ok hE
          have := (hrs_bd (l := comes.zip needs) c d e f comes.length (by simp [b])).1
          unfold reuseR; rw [if_pos hE]
          rw [List.take_of_length_le (by simp [b])] at this
          simp only; omega
        · rw [reuse_err rfl hE]; simp
      have HF := Lib.hid (fun W hr hr' => refReuse_any comes needs start room A A' cap cap' W hr hr' hl)
      obtain ⟨R, hR⟩ : ∃ R, R = reuseR comes needs start room := ⟨_, rfl⟩
      rw [← hR] at hI1 hlen HF ⊢
      have H1 := Lib.hid (And.intro hb1 hI1)
      clear hb1 hI1 hR
      go_wp2_with fail
      refine (HF.out w1 (HR.out.1.step H1.out.1) (HR.out.2.step H1.out.1)).mono ?_
      rintro e w2 ⟨A2, cap2, rfl, hb2, hI2⟩
      have H2 := Lib.hid (And.intro (H1.out.1.trans (hb2.mono H1.out.1.size)) (And.intro (H1.out.2.step hb2) hI2))
      clear hb2 hI2 H1 HF
      go_wp2_with fail
      refine (room_any comes needs start limit A A' cap cap' w2 (HR.out.1.step H2.out.1) (HR.out.2.step H2.out.1) hl).mono ?_
      rintro e w3 ⟨n, c, rfl, hrm, hb3⟩
      have H3 := Lib.hid (And.intro (H2.out.1.trans (hb3.mono H2.out.1.size)) (And.intro (H2.out.2.1.step hb3) (And.intro (H2.out.2.2.step hb3) hrm)))
      clear hb3 hrm H2
      go_wp2_with fail
      refine (refRoom_any comes needs start limit A A' cap cap' w3 (HR.out.1.step H3.out.1) (HR.out.2.step H3.out.1) hl).mono ?_
      rintro e w4 ⟨n', c', rfl, hrm, hb4⟩
      obtain ⟨e1, e2⟩ := RoomR.uniq H3.out.2.2.2 hrm
      subst e1 e2
      have H4 := Lib.hid (And.intro (H3.out.1.trans (hb4.mono H3.out.1.size)) (And.intro (H3.out.2.1.step hb4) (H3.out.2.2.1.step hb4)))
      clear hb4 hrm H3
      go_wp2_with fail
      refine (ints_any R.1.b R.1.b A1 A2 cap1 cap2 w4 H4.out.2.1 H4.out.2.2 (by omega) (by omega)).mono ?_
      rw [show decide (R.1.b = R.1.b) = true by simp]
      rintro e w5 ⟨rfl, hb5⟩
      have H5 := Lib.hid (H4.out.1.trans (hb5.mono H4.out.1.size))
      clear hb5 H4
      go_wp2_with fail
      refine (alive_any _).mono ?_
      rintro e wb ⟨rfl, hb⟩
      have H6 := Lib.hid (H5.out.trans (hb.mono H5.out.size))
      clear hb H5
      go_wp2_with fail
      go_ret
      exact ⟨rfl, H6.out⟩
end Go.Proofs.Ytjfopmjphiddiaa
