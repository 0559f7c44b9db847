/- Proved: IceTrue returns true, whatever its arguments. -/
import Derived.Test.YtogabjlhecnbbaaStays
import Derived.Test.YtogabjlhecnbbaaOpen
import Derived.Test.YtogabjlhecnbbaaTrE
namespace Go.Proofs.Ytogabjlhecnbbaa.iceTrue
open Go.ChangeShapes Go.WideShapes Go.ChangeAt Go.RowKit
set_option maxRecDepth 100000 in
theorem lifted (os : Os) (started : os.Started) (H : Type) (enc : TypeId × Value → H) :
    ReturnsInHanded {} Try.checked os 7 .any (Rows.iceTrueSpec.pre6 enc Try.prog Try.f7 Rows.iceTrueRow.domain false) (Rows.iceTrueSpec.post enc Try.prog Try.f7 false true false false) := by
  refine returnsInHanded_of_change (C := Try.checked) knob started (by kernel_rfl) Try.func7
    (ChangeSpec.witness6 (enc := enc) (C := Try.checked) false ⟨#[], #[.slice none 0 0, .slice none 0 0, .slice none 0 0], []⟩ 8 (by kernel_rfl) (by kernel_rfl) (by kernel_rfl) (by kernel_rfl)) ?_
  intro W base args ds gs before hval0 hW hcnd _
  have hW' := hW
  obtain ⟨p, q, hA0, hV, rfl, hfz, hnd⟩ := hW
  have hA : DataW.TrodAll enc Try.prog W 0 (fun _ => true) true Try.f7.params.toList args.toList ds p := hA0
  obtain ⟨rfl, rfl⟩ := trodVars_none hV
  have hlt : ∀ x ∈ p, x.block < W.heap.size := fun x hx => hW'.lt x (by simp [hx])
  rw [Try.params7] at hA
  have hkeep : DataW.TrodAll enc Try.prog W 0 (fun _ => true) true [22, 23, 55] args.toList ds p := hA
  obtain ⟨v0, vs0, d0, ds0, p0, q0, e0, rfl, rfl, h0, hA1⟩ := trodAll_cons hA
  obtain ⟨v1, vs1, d1, ds1, p1, q1, rfl, rfl, rfl, h1, hA2⟩ := trodAll_cons hA1
  obtain ⟨v2, vs2, d2, ds2, p2, q2, rfl, rfl, rfl, h2, hA3⟩ := trodAll_cons hA2
  obtain ⟨rfl, rfl, rfl⟩ := trodAll_nil hA3
  obtain rfl : args = #[v0, v1, v2] := by cases args; simp_all
  have hval := hval0
  obtain ⟨l0, A0, c0, rfl, hl0, -, hz0⟩ := open_zones (hval 0 22 _ rfl rfl) h0
  obtain ⟨l1, A1, c1, rfl, hl1, -, hz1⟩ := open_events (hval 1 23 _ rfl rfl) h1
  obtain ⟨l2, A2, c2, rfl, hl2, hw2, hz2⟩ := open_u32s (hval 2 55 _ rfl rfl) h2
  clear hval hval0 hA hA0 hA1 hA2 hA3
  refine (true_any l0 l1 l2 A0 A1 A2 c0 c1 c2 W hz0 hz1 hz2 hw2 hl0 hl1 hl2).mono fun e W' ⟨he, hg⟩ => ?_
  subst he
  refine ⟨_, rfl, post_below (pa := (p0 ++ (p1 ++ (p2 ++ [])))) (pv := []) hW' (fun _ _ _ => (trodAll_cons_mk (shut_bool Try.underlying4 _) trodAll_mk0)) (fun sp hsp => ?_) (fun sp _ => rfl) rfl hg (ok_one (by kernel_rfl) rfl (okWide_bool_mk Try.underlying4 _))⟩
  exact trodAll_stays laidOut hg _ _ _ _ (readable (by kernel_rfl)) hkeep hlt (fun x hx => hsp x (by simpa using hx))

theorem over : Rows.iceTrueRow.holds Try.pinned (OpenSpec.ofChange Rows.iceTrueSpec) :=
  OpenClaim.holds_of_wide 7 Try.f7 rfl rfl rfl rfl rfl rfl rfl ⟨rfl, rfl, rfl, rfl, rfl⟩ rfl rfl rfl rfl rfl (by kernel_rfl) Try.func7 (by kernel_rfl)
    (of_decide_eq_true (by kernel_rfl)) (by unfold Func.isWrapper; first | (rw [if_pos (by decide +kernel)]; kernel_rfl) | (rw [if_neg (by decide +kernel)]; exact ⟨rfl, rfl⟩))
    (fun os started H enc _ => lifted os started H enc)

theorem proved : Rows.IceTrueSaid :=
  over
#print axioms proved
end Go.Proofs.Ytogabjlhecnbbaa.iceTrue
