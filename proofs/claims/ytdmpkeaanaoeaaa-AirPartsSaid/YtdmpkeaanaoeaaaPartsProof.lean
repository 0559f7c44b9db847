/- Proved: AirParts returns true, whatever its arguments. No conditions. -/
import Derived.Test.YtdmpkeaanaoeaaaOpA
import Derived.Test.YtdmpkeaanaoeaaaLwPa
namespace Go.Proofs.Ytdmpkeaanaoeaaa.airParts
open Go.ChangeShapes Go.WideShapes Go.ChangeAt Go.RowKit
set_option maxRecDepth 100000 in
theorem lifted (os : Os) (started : os.Started) (H : Type) (enc : TypeId × Value → H) :
    ReturnsInHanded {} Try.checked os 6 .any (Rows.airPartsSpec.pre6 enc Try.prog Try.f6 Rows.airPartsRow.domain false) (Rows.airPartsSpec.post enc Try.prog Try.f6 false true false false) := by
  refine returnsInHanded_of_change (C := Try.checked) knob started (by kernel_rfl) Try.func6
    (ChangeSpec.witness6 (enc := enc) (C := Try.checked) false ⟨#[], #[.agg #[.int .i64 0, .slice none 0 0, .slice none 0 0, .int .i64 0, .int .i64 0], .agg #[.int .i64 0, .int .i64 0], .slice none 0 0, .int .u8 0, .slice none 0 0], []⟩ 8 (by kernel_rfl) (by kernel_rfl) (by kernel_rfl) (by kernel_rfl)) ?_
  intro W base args ds gs before hval0 hW hcnd _
  have hW' := hW
  obtain ⟨p, q, hA0, hV, rfl, hfz, hnd⟩ := hW
  have hA : DataW.TrodAll enc Try.prog W 0 (fun _ => true) true Try.f6.params.toList args.toList ds p := hA0
  obtain ⟨rfl, rfl⟩ := trodVars_none hV
  have hlt : ∀ x ∈ p, x.block < W.heap.size := fun x hx => hW'.lt x (by simp [hx])
  rw [Try.params6] at hA
  have hkeep : DataW.TrodAll enc Try.prog W 0 (fun _ => true) true [26, 24, 27, 5, 44] args.toList ds p := hA
  obtain ⟨v0, vs0, d0, ds0, p0, q0, e0, rfl, rfl, h0, hA1⟩ := trodAll_cons hA
  obtain ⟨v1, vs1, d1, ds1, p1, q1, rfl, rfl, rfl, h1, hA2⟩ := trodAll_cons hA1
  obtain ⟨v2, vs2, d2, ds2, p2, q2, rfl, rfl, rfl, h2, hA3⟩ := trodAll_cons hA2
  obtain ⟨v3, vs3, d3, ds3, p3, q3, rfl, rfl, rfl, h3, hA4⟩ := trodAll_cons hA3
  obtain ⟨v4, vs4, d4, ds4, p4, q4, rfl, rfl, rfl, h4, hA5⟩ := trodAll_cons hA4
  obtain ⟨rfl, rfl, rfl⟩ := trodAll_nil hA5
  obtain rfl : args = #[v0, v1, v2, v3, v4] := by cases args; simp_all
  have hval := hval0
  obtain ⟨a0, A0, B0, ca0, cb0, rfl, har0, hwa0⟩ := open_air (hval 0 26 _ rfl rfl) h0
  obtain ⟨lo1, hi1, rfl, hlo1, hhi1⟩ := open_span (hval 1 24 _ rfl rfl) h1
  obtain ⟨l2, A2, c2, rfl, hl2, hc2, hc2_, hn2, hw2, hr2⟩ := open_steps (hval 2 27 _ rfl rfl) h2
  obtain ⟨n3, rfl, rfl, rfl, hi3⟩ := open_int Try.underlying5 (hval 3 5 _ rfl rfl) h3
  obtain ⟨l4, A4, c4, rfl, hl4, hw4, hr4⟩ := open_u32s (hval 4 44 _ rfl rfl) h4
  clear hval hval0 hA hA0 hA1 hA2 hA3 hA4 hA5
  refine (partsLaw_any a0 A0 B0 ca0 cb0 lo1 hi1 n3 l2 A2 c2 l4 A4 c4 W har0 hr2 hl2 hc2 hc2_ hn2 (Go.bounds_u8 hi3) hl4 hr4 hw4).mono fun e W' ⟨he, hg⟩ => ?_
  subst he
  refine ⟨_, rfl, post_below (pa := (p0 ++ (p1 ++ (p2 ++ ([] ++ (p4 ++ [])))))) (pv := []) hW' (fun _ _ _ => (trodAll_cons_mk (shut_bool Try.underlying4 _) trodAll_mk0)) (fun sp hsp => ?_) (fun sp _ => rfl) rfl hg (ok_one (by kernel_rfl) rfl (okWide_bool_mk Try.underlying4 _))⟩
  exact trodAll_stays laidOut hg _ _ _ _ (readable (by kernel_rfl)) hkeep hlt (fun x hx => hsp x (by simpa using hx))

theorem over : Rows.airPartsRow.holds Try.pinned (OpenSpec.ofChange Rows.airPartsSpec) :=
  OpenClaim.holds_of_wide 6 Try.f6 rfl rfl rfl rfl rfl rfl rfl ⟨rfl, rfl, rfl, rfl, rfl⟩ rfl rfl rfl rfl rfl (by kernel_rfl) Try.func6 (by kernel_rfl)
    (of_decide_eq_true (by kernel_rfl)) (by unfold Func.isWrapper; first | (rw [if_pos (by decide +kernel)]; kernel_rfl) | (rw [if_neg (by decide +kernel)]; exact ⟨rfl, rfl⟩))
    (fun os started H enc _ => lifted os started H enc)

theorem proved : Rows.AirPartsSaid :=
  over
#print axioms proved
end Go.Proofs.Ytdmpkeaanaoeaaa.airParts
