/- Proved: HoursHinder returns true, whatever its arguments. No conditions. -/
import Derived.Test.YtipejhfgfciabaaOpA
import Derived.Test.YtipejhfgfciabaaLwH
namespace Go.Proofs.Ytipejhfgfciabaa.hoursHinder
open Go.ChangeShapes Go.WideShapes Go.ChangeAt Go.RowKit
set_option maxRecDepth 100000 in
theorem lifted (os : Os) (started : os.Started) (H : Type) (enc : TypeId × Value → H) :
    ReturnsInHanded {} Try.checked os 8 .any (Rows.hoursHinderSpec.pre6 enc Try.prog Try.f8 Rows.hoursHinderRow.domain false) (Rows.hoursHinderSpec.post enc Try.prog Try.f8 false true false false) := by
  refine returnsInHanded_of_change (C := Try.checked) knob started (by kernel_rfl) Try.func8
    (ChangeSpec.witness6 (enc := enc) (C := Try.checked) false ⟨#[], #[.agg #[.slice none 0 0, .slice none 0 0, .int .i64 0], .slice none 0 0, .slice none 0 0], []⟩ 8 (by kernel_rfl) (by kernel_rfl) (by kernel_rfl) (by kernel_rfl)) ?_
  intro W base args ds gs before hval0 hW hcnd _
  have hW' := hW
  obtain ⟨p, q, hA0, hV, rfl, hfz, hnd⟩ := hW
  have hA : DataW.TrodAll enc Try.prog W 0 (fun _ => true) true Try.f8.params.toList args.toList ds p := hA0
  obtain ⟨rfl, rfl⟩ := trodVars_none hV
  have hlt : ∀ x ∈ p, x.block < W.heap.size := fun x hx => hW'.lt x (by simp [hx])
  rw [Try.params8] at hA
  have hkeep : DataW.TrodAll enc Try.prog W 0 (fun _ => true) true [25, 26, 40] args.toList ds p := hA
  obtain ⟨v0, vs0, d0, ds0, p0, q0, e0, rfl, rfl, h0, hA1⟩ := trodAll_cons hA
  obtain ⟨v1, vs1, d1, ds1, p1, q1, rfl, rfl, rfl, h1, hA2⟩ := trodAll_cons hA1
  obtain ⟨v2, vs2, d2, ds2, p2, q2, rfl, rfl, rfl, h2, hA3⟩ := trodAll_cons hA2
  obtain ⟨rfl, rfl, rfl⟩ := trodAll_nil hA3
  obtain rfl : args = #[v0, v1, v2] := by cases args; simp_all
  have hval := hval0
  obtain ⟨x0, AH0, AG0, ch0, cg0, rfl, hr0, hch0, hcg0⟩ := open_tt (hval 0 25 _ rfl rfl) h0
  obtain ⟨l1, A1, c1, rfl, hl1, hc1_, hi1⟩ := open_ints (hval 1 26 _ rfl rfl) h1
  obtain ⟨l2, A2, c2, rfl, hl2, hw2, hi2⟩ := open_u8s (hval 2 40 _ rfl rfl) h2
  clear hval hval0 hA hA0 hA1 hA2 hA3
  refine (hinderLaw_any x0 AH0 AG0 ch0 cg0 l1 A1 c1 l2 A2 c2 W hr0 hi1 hi2 hw2).mono fun e W' ⟨he, hg⟩ => ?_
  subst he
  refine ⟨_, rfl, post_below (pa := (p0 ++ (p1 ++ (p2 ++ [])))) (pv := []) hW' (fun _ _ _ => (trodAll_cons_mk (shut_bool Try.underlying4 _) trodAll_mk0)) (fun sp hsp => ?_) (fun sp _ => rfl) rfl hg (ok_one (by kernel_rfl) rfl (okWide_bool_mk Try.underlying4 _))⟩
  exact trodAll_stays laidOut hg _ _ _ _ (readable (by kernel_rfl)) hkeep hlt (fun x hx => hsp x (by simpa using hx))

theorem over : Rows.hoursHinderRow.holds Try.pinned (OpenSpec.ofChange Rows.hoursHinderSpec) :=
  OpenClaim.holds_of_wide 8 Try.f8 rfl rfl rfl rfl rfl rfl rfl ⟨rfl, rfl, rfl, rfl, rfl⟩ rfl rfl rfl rfl rfl (by kernel_rfl) Try.func8 (by kernel_rfl)
    (of_decide_eq_true (by kernel_rfl)) (by unfold Func.isWrapper; first | (rw [if_pos (by decide +kernel)]; kernel_rfl) | (rw [if_neg (by decide +kernel)]; exact ⟨rfl, rfl⟩))
    (fun os started H enc _ => lifted os started H enc)

theorem proved : Rows.HoursHinderSaid :=
  over
#print axioms proved
end Go.Proofs.Ytipejhfgfciabaa.hoursHinder
