/- The law IceKeeps. -/
import Derived.Test.YtogabjlhecnbbaaRefI
import Derived.Test.YtogabjlhecnbbaaRefJ
namespace Go.Proofs.Ytogabjlhecnbbaa
open Go.RowKit Go.Shelf
theorem BRow.step {w w' : World} {A : Option Addr} {ts : List (Int × Int)} (h : BRow w w.heap.size A ts) (hb : Below w.heap.size w w') : BRow w' w'.heap.size A ts := (h.below hb).more hb.size
set_option maxRecDepth 100000 in
set_option maxHeartbeats 4000000 in
theorem keepsLaw_any (weight days least most : Int) (zs : List Zn) (ts : List (Int × Int)) (path : List Int) (day : List Ev) (A A1 A2 A3 : Option Addr) (cap cap1 cap2 cap3 : Nat) (w : World)
    (hz : ZRow w w.heap.size A zs) (ht : BRow w w.heap.size A1 ts) (hp : IRow w w.heap.size A2 path) (he : ERow w w.heap.size A3 day)
    (hl : zs.length ≤ 9223372036854775807) (hl1 : ts.length ≤ 9223372036854775807) (hl2 : path.length ≤ 9223372036854775807) (hl3 : day.length ≤ 9223372036854775807) :
    Calls Try.prog 4 #[.slice A zs.length cap, .slice A1 ts.length cap1, .slice A2 path.length cap2, iv weight, .slice A3 day.length cap3, iv days, iv least, iv most] w fun e w' => e = .returned (.bool true) ∧ Below w.heap.size w w' := by
  by_cases h1 : 30 < (zs.length : Int)
  · go_enter Try.func4, Try.ntmps4
    go_wp2_with fail
    refine (alive_any _).mono ?_
    rintro e wb ⟨rfl, hb⟩
    go_wp2_with fail
    go_ret
    exact ⟨rfl, hb⟩
  have h1' : decide (30 < (zs.length : Int)) = false := by simpa using h1
  by_cases h2 : 30 < (ts.length : Int)
  · go_enter Try.func4, Try.ntmps4
    go_wp2_with fail
    refine (alive_any _).mono ?_
    rintro e wb ⟨rfl, hb⟩
    go_wp2_with fail
    go_ret
    exact ⟨rfl, hb⟩
  have h2' : decide (30 < (ts.length : Int)) = false := by simpa using h2
  by_cases h3 : 40 < (path.length : Int)
  · go_enter Try.func4, Try.ntmps4
    go_wp2_with fail
    refine (alive_any _).mono ?_
    rintro e wb ⟨rfl, hb⟩
    go_wp2_with fail
    go_ret
    exact ⟨rfl, hb⟩
  have h3' : decide (40 < (path.length : Int)) = false := by simpa using h3
  go_enter Try.func4, Try.ntmps4
  go_wp2_with fail
  refine (many_any _ _ _ _ _ hl3).mono ?_
  rintro e wa ⟨b, rfl, rfl⟩
  cases b
  rotate_left
  · go_wp2_with fail
    refine (alive_any _).mono ?_
    rintro e wb ⟨rfl, hb⟩
    go_wp2_with fail
    go_ret
    exact ⟨rfl, hb⟩
  clear h1 h1' h2 h2' h3 h3'
  go_wp2_with fail
  refine (breaks_any zs ts path weight A A1 A2 cap cap1 cap2 w hz ht hp hl hl1 hl2).mono ?_
  rintro r wb ⟨rfl, hb1⟩
  obtain ⟨⟨ba, be⟩, hB⟩ : ∃ R, R = breaksR zs ts path weight := ⟨_, rfl⟩
  rw [← hB]
  simp only [pairR]
  have HB := Lib.hid hB
  clear hB
  go_wp2_with fail
  refine (breaks22_any zs ts path weight A A1 A2 cap cap1 cap2 wb (hz.step hb1) (ht.step hb1) (hp.step hb1) hl hl1 hl2).mono ?_
  rintro r wc ⟨rfl, hb⟩
  rw [← HB.out]
  simp only [pairR]
  have hb2 := belowT hb1 hb
  clear hb hb1 HB
  go_wp2_with fail
  refine (keeps_any zs day days least most A A3 cap cap3 wc (hz.step hb2) (he.step hb2) hl hl3).mono ?_
  rintro r wd ⟨rfl, hb⟩
  obtain ⟨⟨ka, kb, ke⟩, hK⟩ : ∃ R, R = keepsR zs day days least most := ⟨_, rfl⟩
  rw [← hK]
  simp only [triR]
  have HK := Lib.hid hK
  have hb3 := belowT hb2 hb
  clear hK hb hb2
  go_wp2_with fail
  refine (keeps24_any zs day days least most A A3 cap cap3 wd (hz.step hb3) (he.step hb3) hl hl3).mono ?_
  rintro r wf ⟨rfl, hb⟩
  rw [← HK.out]
  simp only [triR]
  have hb4 := belowT hb3 hb
  clear hb hb3 HK
  go_wp2_with fail
  refine (alive_any _).mono ?_
  rintro r wh ⟨rfl, hb⟩
  have hb5 := belowT hb4 hb
  go_wp2_with fail
  go_ret
  exact ⟨rfl, hb5⟩
end Go.Proofs.Ytogabjlhecnbbaa
