/- Proved: IceHolds returns true, whatever its arguments. -/
import Derived.Test.YtogabjlhecnbbaaStays
import Derived.Test.YtogabjlhecnbbaaOpen
import Derived.Test.YtogabjlhecnbbaaSize
import Derived.Test.YtogabjlhecnbbaaHolds
namespace Go.Proofs.Ytogabjlhecnbbaa.iceHolds
open Go.ChangeShapes Go.WideShapes Go.ChangeAt Go.RowKit
set_option maxRecDepth 100000 in
theorem lifted (os : Os) (started : os.Started) (H : Type) (enc : TypeId × Value → H) :
    ReturnsInHanded {} Try.checked os 10 .any (Rows.iceHoldsSpec.pre6 enc Try.prog Try.f10 Rows.iceHoldsRow.domain false) (Rows.iceHoldsSpec.post enc Try.prog Try.f10 false true false false) := by
  refine returnsInHanded_of_change_sized (C := Try.checked) knob started (by kernel_rfl) Try.func10
    (ChangeSpec.witness6 (enc := enc) (C := Try.checked) false ⟨#[], #[.slice none 0 0, .slice none 0 0, iv 0, iv 0, iv 0, .slice none 0 0, .slice none 0 0, iv 0, .int .u8 0], []⟩ 8 (by kernel_rfl) (by kernel_rfl) (by kernel_rfl) (by kernel_rfl)) ?_
  intro W base args ds gs before hval0 hW _ hsz0 _
  have hsz : (DataW.weightsEach Try.prog (Try.f10.params.toList ++ Rows.iceHoldsSpec.plain.varTypes Try.prog) (ds ++ gs)).all (· ≤ reachBytes) = true := hsz0
  clear hsz0
  have hW' := hW
  obtain ⟨p, q, hA0, hV, rfl, hfz, hnd⟩ := hW
  have hA : DataW.TrodAll enc Try.prog W 0 (fun _ => true) true Try.f10.params.toList args.toList ds p := hA0
  obtain ⟨rfl, rfl⟩ := trodVars_none hV
  have hlt : ∀ x ∈ p, x.block < W.heap.size := fun x hx => hW'.lt x (by simp [hx])
  rw [Try.params10] at hA
  have hkeep : DataW.TrodAll enc Try.prog W 0 (fun _ => true) true [22, 23, 3, 3, 3, 39, 33, 3, 5] args.toList ds p := hA
  obtain ⟨v0, vs0, d0, ds0, p0, q0, e0, rfl, rfl, h0, hA1⟩ := trodAll_cons hA
  obtain ⟨v1, vs1, d1, ds1, p1, q1, rfl, rfl, rfl, h1, hA2⟩ := trodAll_cons hA1
  obtain ⟨v2, vs2, d2, ds2, p2, q2, rfl, rfl, rfl, h2, hA3⟩ := trodAll_cons hA2
  obtain ⟨v3, vs3, d3, ds3, p3, q3, rfl, rfl, rfl, h3, hA4⟩ := trodAll_cons hA3
  obtain ⟨v4, vs4, d4, ds4, p4, q4, rfl, rfl, rfl, h4, hA5⟩ := trodAll_cons hA4
  obtain ⟨v5, vs5, d5, ds5, p5, q5, rfl, rfl, rfl, h5, hA6⟩ := trodAll_cons hA5
  obtain ⟨v6, vs6, d6, ds6, p6, q6, rfl, rfl, rfl, h6, hA7⟩ := trodAll_cons hA6
  obtain ⟨v7, vs7, d7, ds7, p7, q7, rfl, rfl, rfl, h7, hA8⟩ := trodAll_cons hA7
  obtain ⟨v8, vs8, d8, ds8, p8, q8, rfl, rfl, rfl, h8, hA9⟩ := trodAll_cons hA8
  obtain ⟨rfl, rfl, rfl⟩ := trodAll_nil hA9
  obtain rfl : args = #[v0, v1, v2, v3, v4, v5, v6, v7, v8] := by cases args; simp_all
  have hval := hval0
  obtain ⟨zs, A0, cap0, rfl, hl0, -, hz0⟩ := open_zones (hval 0 22 _ rfl rfl) h0
  obtain ⟨es, A1, cap1, rfl, hl1, -, hz1⟩ := open_events (hval 1 23 _ rfl rfl) h1
  obtain ⟨n2, rfl, rfl, rfl, -⟩ := open_int Try.underlying3 (hval 2 3 _ rfl rfl) h2
  obtain ⟨n3, rfl, rfl, rfl, -⟩ := open_int Try.underlying3 (hval 3 3 _ rfl rfl) h3
  obtain ⟨n4, rfl, rfl, rfl, -⟩ := open_int Try.underlying3 (hval 4 3 _ rfl rfl) h4
  obtain ⟨ts, A5, cap5, rfl, hl5, -, hz5⟩ := open_bearings (hval 5 39 _ rfl rfl) h5
  obtain ⟨path, A6, cap6, rfl, hl6, -, hz6⟩ := open_nums (hval 6 33 _ rfl rfl) h6
  obtain ⟨n7, rfl, rfl, rfl, -⟩ := open_int Try.underlying3 (hval 7 3 _ rfl rfl) h7
  obtain ⟨n8, rfl, rfl, rfl, hr8⟩ := open_int Try.underlying5 (hval 8 5 _ rfl rfl) h8
  have hreach : zs.length * 32 ≤ 140737488351232 := by
    rcases slice_size Try.underlying22 h0 with h | ⟨el, sp, e1, e2⟩
    · omega
    · subst e1
      have := sized_slice hsz (j := 0) (t := 22) (e := 60) (by kernel_rfl) rfl Try.underlying22
      rw [Try.bytes60] at this
      simp only [reachBytes] at this
      omega
  have bd8 := Go.bounds_u8 hr8
  clear hval hval0 hA hA1 hA2 hA3 hA4 hA5 hA6 hA7 hA8 hA0
  refine (holds_any n2 n3 n4 n7 n8 zs ts path es A0 A5 A6 A1 cap0 cap5 cap6 cap1 W hz0 hz5 hz6 hz1 hl0 hl5 hl6 hl1 (by omega) (by omega) hreach).mono fun e W' ⟨he, hg⟩ => ?_
  subst he
  refine ⟨_, rfl, post_below (pa := (p0 ++ (p1 ++ ([] ++ ([] ++ ([] ++ (p5 ++ (p6 ++ ([] ++ ([] ++ [])))))))))) (pv := []) hW' (fun _ _ _ => (trodAll_cons_mk (shut_bool Try.underlying4 _) trodAll_mk0)) (fun sp hsp => ?_) (fun sp _ => rfl) rfl hg (ok_one (by kernel_rfl) rfl (okWide_bool_mk Try.underlying4 _))⟩
  exact trodAll_stays laidOut hg _ _ _ _ (readable (by kernel_rfl)) hkeep hlt (fun x hx => hsp x (by simpa using hx))

theorem over : Rows.iceHoldsRow.holds Try.pinned (OpenSpec.ofChange Rows.iceHoldsSpec) :=
  OpenClaim.holds_of_wide 10 Try.f10 rfl rfl rfl rfl rfl rfl rfl ⟨rfl, rfl, rfl, rfl, rfl⟩ rfl rfl rfl rfl rfl (by kernel_rfl) Try.func10 (by kernel_rfl)
    (of_decide_eq_true (by kernel_rfl)) (by unfold Func.isWrapper; first | (rw [if_pos (by decide +kernel)]; kernel_rfl) | (rw [if_neg (by decide +kernel)]; exact ⟨rfl, rfl⟩))
    (fun os started H enc _ => lifted os started H enc)

theorem proved : Rows.IceHoldsSaid :=
  over
#print axioms proved
end Go.Proofs.Ytogabjlhecnbbaa.iceHolds
