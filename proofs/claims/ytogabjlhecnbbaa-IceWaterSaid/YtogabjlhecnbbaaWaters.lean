/- The law IceWaters. -/
import Derived.Test.YtogabjlhecnbbaaRefB
import Derived.Test.YtogabjlhecnbbaaIceAlive
import Derived.Test.YtogabjlhecnbbaaEq
namespace Go.Proofs.Ytogabjlhecnbbaa
open Go.RowKit Go.Shelf
theorem eq27s (a b : Int) (w : World) : (binOp .eql 27 (sv a b) (sv a b)).run Try.prog w = .ok (.bool true) w := by rw [eql27]; simp
set_option maxHeartbeats 2000000 in
theorem waters_any (w1 w2 p1 p2 passes least most : Int) (zs : List Zn) (A : Option Addr) (cap : Nat) (w : World) (hz : ZRow w w.heap.size A zs) (hl : zs.length ≤ 9223372036854775807) :
    Calls Try.prog 5 #[.slice A zs.length cap, sv w1 w2, sv p1 p2, iv passes, iv least, iv most] w fun e w' => e = .returned (.bool true) ∧ Below w.heap.size w w' := by
  obtain ⟨W, hW⟩ : ∃ W, W = (w.alloc (.cells #[.int .i64 w1, .int .i64 w2] 27)).alloc (.cells #[.int .i64 p1, .int .i64 p2] 27) := ⟨_, rfl⟩
  have H0 : Hid (Below w.heap.size w W) := Lib.hid (by rw [hW]; exact (below1 _ _).alloc (by simp) _)
  have hA : Has W w.heap.size 27 #[iv w1, iv w2] := by rw [hW]; exact (Has.new _ _ _).alloc _
  have hB : Has W (w.heap.size + 1) 27 #[iv p1, iv p2] := by rw [hW]; exact Has.newAt (by simp)
  have HAB := Lib.hid (And.intro hA hB)
  have HW := Lib.hid hW
  have hq := eq27s
  clear hA hB hW
  go_enter Try.func5, Try.ntmps5
  go_wp2_with fail
  all_goals rw [← HW.out]
  all_goals first
    | refine (alive_any _).mono ?_
      rintro e wb ⟨rfl, hb⟩
      go_wp2_with fail
      go_ret
      exact ⟨rfl, belowT H0.out hb⟩
    | obtain ⟨⟨ra, rb, re⟩, hR⟩ : ∃ R, R = waterR zs w1 w2 p1 p2 passes least most := ⟨_, rfl⟩
      have HR := Lib.hid hR
      clear hR
      refine (water_any w1 w2 p1 p2 passes least most zs A cap W ((hz.below H0.out).more H0.out.size) hl).mono ?_
      rintro e wa ⟨rfl, hb⟩
      rw [← HR.out]
      simp only [wRes]
      have Hb := Lib.hid (belowT H0.out hb)
      have hA := HAB.out.1.below hb HAB.out.1.lt
      have hB := HAB.out.2.below hb HAB.out.2.lt
      obtain ⟨d0, d1, d2, d3⟩ := two_boxes hA hB
      have l1 := hA.lt
      have l2 := hB.lt
      clear hb hA hB
      have Hc := Lib.hid (below1 wa (.cells #[.int .i64 ra, .int .i64 rb] 27))
      go_wp2_with fail
      refine (waterRef_any w1 w2 p1 p2 passes least most zs A cap _ ((hz.below (belowT Hb.out Hc.out)).more (belowT Hb.out Hc.out).size) hl).mono ?_
      rintro e wc ⟨rfl, hb⟩
      rw [← HR.out]
      simp only [wRes]
      have hO : Has wc wa.heap.size 27 #[iv ra, iv rb] := (Has.new _ _ _).below hb (by simp)
      have Hd := Lib.hid (belowT (belowT Hb.out Hc.out) hb)
      have o0 : wc.cell? ⟨wa.heap.size, 0, none⟩ = some (iv ra) := hO.cell 0
      have o1 : wc.cell? ⟨wa.heap.size, 1, none⟩ = some (iv rb) := hO.cell 1
      have l3 := hO.lt
      clear hb hO
      have He := Lib.hid (below1 wc (.cells #[.int .i64 ra, .int .i64 rb] 27))
      go_wp2_with fail
      refine (alive_any _).mono ?_
      rintro e wb ⟨rfl, hb⟩
      have Hf := Lib.hid (belowT (belowT Hd.out He.out) hb)
      go_wp2_with fail
      go_ret
      exact ⟨rfl, Hf.out⟩
end Go.Proofs.Ytogabjlhecnbbaa
