/- The law of Sure. -/
import Derived.Test.YtfdjoldcdfbfhaaSuB
namespace Go.Proofs.Ytfdjoldcdfbfhaa
open Go.Shelf Go.RowKit
theorem worstR_bad {l : List Sn} {V F t rise frm to : Int} (h : (worstR l V F t rise frm to).2.2 ≠ 0) : (worstR l V F t rise frm to).1 = 0 ∧ (worstR l V F t rise frm to).2.1 = 0 := by
  unfold worstR at h ⊢
  split
  · exact ⟨rfl, rfl⟩
  · rename_i h1
    rw [if_neg h1] at h
    split
    · exact ⟨rfl, rfl⟩
    · rename_i h2
      rw [if_neg h2] at h
      cases hw : worstP (atN l (V + F).toNat t rise) frm (to - frm + 1).toNat with
      | none => exact ⟨rfl, rfl⟩
      | some x => rw [hw] at h; exact absurd rfl h
theorem worstR_ok {l : List Sn} {V F t rise frm to : Int} (h : (worstR l V F t rise frm to).2.2 = 0) : VV l V F ∧ (0 ≤ t ∧ t ≤ 1048576) ∧ (0 ≤ rise ∧ rise ≤ 1048576) ∧ (0 ≤ frm ∧ frm ≤ to ∧ to ≤ 2000) ∧
    ∃ x, worstP (atN l (V + F).toNat t rise) frm (to - frm + 1).toNat = some x ∧ worstR l V F t rise frm to = (x.1, x.2, 0) := by
  unfold worstR at h ⊢
  cases hv : vvB l V F
  · rw [hv] at h; simp at h
  rw [hv] at h
  rw [if_neg (by simp)] at h ⊢
  cases h3 : (gasB t && gasB rise && minB frm to)
  · rw [h3] at h; simp at h
  rw [h3] at h
  rw [if_neg (by simp)] at h ⊢
  simp only [gasB, minB, Bool.and_eq_true, decide_eq_true_eq] at h3
  refine ⟨(vvB_iff l V F).1 hv, h3.1.1, h3.1.2, h3.2, ?_⟩
  cases hw : worstP (atN l (V + F).toNat t rise) frm (to - frm + 1).toNat with
  | none => rw [hw] at h; simp [worstE] at h
  | some x => exact ⟨x, rfl, rfl⟩
theorem lisR_e {V t : Int} {n : Nat} {L : List Sf} (hg : ∀ j, j < L.length → chkAt L n j = 0) : (lisR V t n L).2 = 0 ∨ (lisR V t n L).2 = 4 := by
  unfold lisR
  rw [badE_zero _ hg, if_pos rfl]
  unfold ey
  split
  · exact .inl rfl
  · exact .inr rfl
theorem worst_in {f : Int → Int} {frm to : Int} {x : Int × Int} (hft : frm ≤ to) (h : worstP f frm (to - frm + 1).toNat = some x) : (-1 ≤ x.1 ∧ x.1 < 1048576) ∧ (frm ≤ x.2 ∧ x.2 ≤ to) ∧ ∀ m, frm ≤ m → m ≤ to → f m ≤ x.1 + 1 := by
  obtain ⟨h1, h2⟩ := worstP_some h
  have h3 : ∀ m, frm ≤ m → m ≤ to → f m ≤ 1048576 ∧ f m ≤ x.1 + 1 := fun m hm hm2 => by
    have := h1 (m - frm).toNat (by omega)
    rw [show frm + ((m - frm).toNat : Int) = m by omega] at this
    omega
  refine ⟨?_, ?_, fun m hm hm2 => (h3 m hm hm2).2⟩
  · rcases h2 with ⟨h4, _⟩ | ⟨_, j, hj, _, h4, _⟩
    · omega
    · have := h1 j hj
      omega
  · rcases h2 with ⟨_, h4⟩ | ⟨_, j, hj, h4, _⟩ <;> omega
def CsP (rise c : Int) (cs : List Int) : Prop := (∀ x ∈ cs, 0 ≤ x ∧ x ≤ 1048576) ∧ (∀ m (h : m + 1 < cs.length), cs[m + 1] ≤ cs[m] + rise) ∧ (∀ m (h : m + 1 = cs.length), c ≤ cs[m] + rise)
theorem csP_push {rise c c' : Int} {cs : List Int} (h : CsP rise c cs) (hc : 0 ≤ c ∧ c ≤ 1048576) (hc' : c' ≤ c + rise) : CsP rise c' (cs ++ [c]) := by
  obtain ⟨h1, h2, h3⟩ := h
  refine ⟨fun x hx => ?_, fun m hm => ?_, fun m hm => ?_⟩
  · rw [List.mem_append, List.mem_singleton] at hx
    rcases hx with hx | rfl
    · exact h1 x hx
    · exact hc
  · rw [List.length_append, List.length_singleton] at hm
    by_cases he : m + 1 < cs.length
    · rw [List.getElem_append_left he, List.getElem_append_left (by omega)]; exact h2 m he
    · have e : m + 1 = cs.length := by omega
      rw [List.getElem_append_right (by omega), List.getElem_append_left (by omega)]
      simp only [e, Nat.sub_self, List.getElem_cons_zero]
      exact h3 m e
  · rw [List.length_append, List.length_singleton] at hm
    rw [List.getElem_append_right (by omega)]
    simp only [show m - cs.length = 0 by omega, List.getElem_cons_zero]
    exact hc'
set_option maxRecDepth 100000 in
set_option maxHeartbeats 8000000 in
theorem sureLaw_any (l : List Sn) (A0 : Option Addr) (cap0 : Nat) (V F t rise frm to b : Int) (by_ : List Int) (Ab : Option Addr) (capb : Nat) (W : World) (hr : NRow W W.heap.size A0 l) (hl : l.length ≤ 9223372036854775807)
    (hu : URow W W.heap.size Ab by_) (hby : ∀ x ∈ by_, 0 ≤ x ∧ x ≤ 4294967295) (hbl : by_.length ≤ 9223372036854775807) :
    Calls Try.prog 7 #[vtv A0 l.length cap0 V F, .int .i64 t, .int .i64 rise, .int .i64 frm, .int .i64 to, .int .u16 b, .slice Ab by_.length capb] W (BoolPost true W) := by
  have HR := Lib.hid (And.intro hr (And.intro hu hby))
  have HA := Lib.hid (fun w => alive_any w)
  have HQ := Lib.hid (fun w h => Worst_any l A0 cap0 V F t rise frm to w h hl)
  have HV := Lib.hid (fun (w : World) h => refVoting_any l A0 cap0 V F w h hl)
  have H0 : Hid (QW W (((W.alloc (.cells #[.slice A0 l.length cap0, .int .i64 V, .int .i64 F] 24)).alloc (.cells #[.int .i64 t] 3)).alloc (.cells #[.slice Ab by_.length capb] 48)) Ab capb by_ t A0 cap0 l V F) :=
    ⟨((below_one W _).alloc (by simp) _).alloc (by simp; omega) _, ((Has.new _ _ _).alloc _).alloc _, (has_newAt (by simp)).alloc _, has_newAt (by simp)⟩
  clear hr hu hby
  unfold vtv at *
  by_cases h20 : (20 : Int) < l.length
  · go_enter Try.func7, Try.ntmps7
    go_wp2_with fail
    refine (HA.out _).mono ?_
    rintro e wb ⟨rfl, hb⟩
    have HF := Lib.hid (H0.out.step hb)
    clear hb
    go_wp2_with fail
    go_ret
    exact ⟨rfl, HF.out.b⟩
  by_cases h60 : (60 : Int) < to
  · go_enter Try.func7, Try.ntmps7
    go_wp2_with fail
    refine (HA.out _).mono ?_
    rintro e wb ⟨rfl, hb⟩
    have HF := Lib.hid (H0.out.step hb)
    clear hb
    go_wp2_with fail
    go_ret
    exact ⟨rfl, HF.out.b⟩
  by_cases hby0 : by_.length = 0
  · obtain rfl := List.eq_nil_of_length_eq_zero hby0
    go_enter Try.func7, Try.ntmps7
    go_wp2_with fail
    refine (HA.out _).mono ?_
    rintro e wb ⟨rfl, hb⟩
    have HF := Lib.hid (H0.out.step hb)
    clear hb
    go_wp2_with fail
    go_ret
    exact ⟨rfl, HF.out.b⟩
  have hby0' : ¬ (by_.length : Int) = 0 := by omega
  have hbyn : ¬ by_ = [] := by rintro rfl; simp at hby0
  by_cases hq : (worstR l V F t rise frm to).2.2 = 0
  rotate_left
  · have hq1 := worstR_bad hq
    obtain ⟨⟨q1, q2, q3⟩, hqe⟩ : ∃ q, q = worstR l V F t rise frm to := ⟨_, rfl⟩
    rw [← hqe] at hq hq1 HQ
    simp only at hq hq1
    obtain ⟨rfl, rfl⟩ := hq1
    clear hqe
    go_enter Try.func7, Try.ntmps7
    go_wp2_with fail
    refine (HQ.out _ (HR.out.1.step H0.out.b)).mono ?_
    rintro e w1 ⟨rfl, hb⟩
    have H1 := Lib.hid (H0.out.step hb)
    clear hb
    dsimp only
    go_wp2_with fail
    refine (HA.out _).mono ?_
    rintro e wb ⟨rfl, hb⟩
    have HF := Lib.hid (H1.out.step hb)
    clear hb
    go_wp2_with fail
    go_ret
    exact ⟨rfl, HF.out.b⟩
  obtain ⟨hvv, ht, hri, hfr, ⟨most, when⟩, hwp, hqe⟩ := worstR_ok hq
  rw [hqe] at HQ
  have hwi := worst_in hfr.2.1 hwp
  have HVV := Lib.hid (And.intro hvv hwi.2.2)
  rw [(vvB_iff l V F).2 hvv] at HV
  obtain ⟨⟨w1a, w1b⟩, ⟨w2a, w2b⟩, -⟩ := hwi
  simp only at w1a w1b w2a w2b
  have n1 : ¬ frm < 0 := by omega
  have n2 : ¬ to < frm := by omega
  have n3 : ¬ when < frm := by omega
  have n4 : ¬ to < when := by omega
  have n5 : ¬ most < -1 := by omega
  have n6 : ¬ 1048576 ≤ most := by omega
  have n7 : ¬ rise < 0 := by omega
  have n8 : ¬ t < 0 := by omega
  clear hq hqe hvv hwp
  have h12 := HVV.out.1.h12
  go_enter Try.func7, Try.ntmps7
  go_wp2_with fail
  refine (HQ.out _ (HR.out.1.step H0.out.b)).mono ?_
  rintro e w1 ⟨rfl, hb⟩
  have H1 := Lib.hid (H0.out.step hb)
  clear hb
  have c0 : w1.cell? ⟨W.heap.size, 0, none⟩ = some (.slice A0 l.length cap0) := H1.out.v.cell 0
  have c1 : w1.cell? ⟨W.heap.size, 1, none⟩ = some (.int .i64 V) := H1.out.v.cell 1
  have c2 : w1.cell? ⟨W.heap.size, 2, none⟩ = some (.int .i64 F) := H1.out.v.cell 2
  dsimp only
  go_wp2_with fail
  refine (HV.out _ (HR.out.1.step H1.out.b)).mono ?_
  rintro e w2 ⟨rfl, hb⟩
  have H2 := Lib.hid (H1.out.step hb)
  clear hb c0 c1 c2 H1
  have c0 : w2.cell? ⟨W.heap.size, 0, none⟩ = some (.slice A0 l.length cap0) := H2.out.v.cell 0
  have c1 : w2.cell? ⟨W.heap.size, 1, none⟩ = some (.int .i64 V) := H2.out.v.cell 1
  have c2 : w2.cell? ⟨W.heap.size, 2, none⟩ = some (.int .i64 F) := H2.out.v.cell 2
  have t0 : w2.cell? ⟨W.heap.size + 1, 0, none⟩ = some (.int .i64 t) := H2.out.t.cell 0
  go_wp2_with fail
  have hfa := failed_any l A0 cap0 V F b w2 h12 HVV.out.1.hF.1
  unfold vtv at hfa
  refine hfa.mono ?_
  rintro e w3 ⟨g, B, rfl, hb, hg, hB, hBl, hBc⟩
  have hmf : ∀ (fn : Fn) (first cap : Array Value) (w : World), (Instr.makeFunc fn first cap).run Try.prog w = .ok (.func fn first cap) w := fun _ _ _ _ => rfl
  have k1 : Has (w3.alloc (.cells #[.slice (some ⟨g, 0, none⟩) l.length l.length] 50)) w3.heap.size 50 #[.slice (some ⟨g, 0, none⟩) l.length l.length] := Has.new _ _ _
  have k3 := below_one w3 (.cells #[.slice (some ⟨g, 0, none⟩) l.length l.length] 50)
  have H3 := Lib.hid (show QW W (w3.alloc (.cells #[.slice (some ⟨g, 0, none⟩) l.length l.length] 50)) Ab capb by_ t A0 cap0 l V F ∧ Has (w3.alloc (.cells #[.slice (some ⟨g, 0, none⟩) l.length l.length] 50)) w3.heap.size 50 #[.slice (some ⟨g, 0, none⟩) l.length l.length] ∧ Has (w3.alloc (.cells #[.slice (some ⟨g, 0, none⟩) l.length l.length] 50)) g 4 (bls B) from
    ⟨(H2.out.step hb).step k3, k1, hB.alloc _⟩)
  have HBB := Lib.hid (And.intro hBl hBc)
  clear hfa hb hg hB hBl hBc k1 k3 c0 c1 c2 t0
  go_upto_region 10 with fail
  generalize w3.alloc (.cells #[.slice (some ⟨g, 0, none⟩) l.length l.length] 50) = w4 at H3 ⊢
  generalize w3.heap.size = b20 at H3 ⊢
  have hx := HR.out.2.2 _ (List.getElem_mem (show 0 < by_.length by omega))
  obtain ⟨gu, ou, hA, hgu, u0⟩ := (HR.out.2.1.below H3.out.1.b) 0 (by omega)
  obtain ⟨x, hxe⟩ : ∃ x, x = by_[0]'(by omega) := ⟨_, rfl⟩
  rw [← hxe, Nat.add_zero] at u0
  rw [← hxe] at hx
  have hz := tmod_bd (a := x) (b := t + 1) hx.1 (by omega)
  obtain ⟨z, hze⟩ : ∃ z, x.tmod (t + 1) = z := ⟨_, rfl⟩
  rw [hze] at hz
  subst hA
  have y0 : w4.cell? ⟨W.heap.size + 1 + 1, 0, none⟩ = some (.slice (some ⟨gu, ou, none⟩) by_.length capb) := H3.out.1.y.cell 0
  have t0 : w4.cell? ⟨W.heap.size + 1, 0, none⟩ = some (.int .i64 t) := H3.out.1.t.cell 0
  have y1 := H3.out.1.y.lt
  have hgu' : gu < w4.heap.size := by have := H3.out.1.b.size; omega
  have hw2 : IntKind.i64.wrap z = z := by rw [IntKind.wrap_i64]; omega
  have hc1 : ¬ t + 1 = 0 := by omega
  have hw3 : IntKind.i64.wrap (t + 1) = t + 1 := by rw [IntKind.wrap_i64]; omega
  have hw4 : IntKind.i64.wrap x = x := by rw [IntKind.wrap_i64]; omega
  have hbp : (0 : Int) < by_.length := by omega
  clear hxe hgu
  go_quiet (fail)
  go_wp2_with fail
  obtain ⟨i0, hi, hz0, hz1, hz2⟩ := info_parts Try.info3
  have H4 := Lib.hid (And.intro H3.out (Below.refl w4.heap.size w4))
  have hb20 := Lib.hid H3.out.2.1.lt
  clear y0 t0 u0 y1 hgu' hw2 hc1 hw3 hw4 hx hze
  go_loopg [19, 20, 112] (to + 1).toNat (fun gk v n i wr => ∃ (k : Nat) (c : Int) (cs : List Int), (k : Int) ≤ to + 1 ∧ to + 1 - k ≤ gk ∧ n = .int .i64 c ∧ i = .int .i64 k ∧ (0 ≤ c ∧ c ≤ 1048576) ∧ Hid (cs.length = k) ∧ Hid (CsP rise c cs) ∧ Hid (Below w4.heap.size w4 wr) ∧ Hid (wr.ownsRow w4.heap.size 3 1 v k (ili cs)))
  case atStart => exact ⟨0, z, [], by omega, by omega, rfl, rfl, by omega, by show _ = _; rfl, ⟨fun x hx => by simp at hx, fun m h => by simp at h, fun m h => by simp at h⟩, below_dn (Below.refl _ _), World.ownsRow_nil _ w4.heap.size 3 1⟩
  case round =>
    obtain ⟨k, c, cs, hk, hgk, rfl, rfl, hcb, HCL, HC, HX, HO⟩ := hrel
    have HXQ := Lib.hid (H3.out.1.step HX.out)
    obtain ⟨Av, cv, hva, hcv, hrv⟩ := own_irow HO.out HCL.out.symm
    subst hva
    rw [HCL.out] at HO hcv ⊢
    by_cases hlt : (k : Int) < to + 1
    · have hq := tmod_bd (a := (k : Int)) (b := by_.length) (by omega) (by omega)
      obtain ⟨q, hqe⟩ : ∃ q : Nat, (k : Int).tmod by_.length = q := ⟨((k : Int).tmod by_.length).toNat, by omega⟩
      have hql : q < by_.length := by omega
      have hql' : (q : Int) < by_.length := by omega
      have hx := HR.out.2.2 _ (List.getElem_mem hql)
      obtain ⟨gu2, ou2, hA, hgu, u0⟩ := (HR.out.2.1.below HXQ.out.b) q hql
      obtain ⟨rfl, rfl⟩ : gu = gu2 ∧ ou = ou2 := by injection hA with h; injection h with h1 h2; exact ⟨h1, h2⟩
      obtain ⟨x, hxe⟩ : ∃ x, x = by_[q] := ⟨_, rfl⟩
      rw [← hxe] at hx u0
      have y0 : wr.cell? ⟨W.heap.size + 1 + 1, 0, none⟩ = some (.slice (some ⟨gu, ou, none⟩) by_.length capb) := HXQ.out.y.cell 0
      have y1 := HXQ.out.y.lt
      have hgu' : gu < wr.heap.size := by have := HXQ.out.b.size; omega
      have hw1 : IntKind.i64.wrap (q : Int) = (q : Int) := by rw [IntKind.wrap_i64]; omega
      clear hq hxe hgu hA hrv hcv
      go_upto_region 14 with fail
      go_quiet (fail)
      clear y0 u0 hqe hw1 hql hql' hgu' y1
      have HO5 := Lib.hid (fun n => own_step (own_step HO.out (below_dn (n := n) (Below.refl _ _))) (below_one (wr.drewN n) (.cells #[.int .i64 c] 3)))
      have hsX := HX.out.size
      go_wp2_with (at_builtin; refine wpList_append_row rfl _ _ 52 rfl w4.heap.size 3 i0 (.int .i64 0) 1 8 Try.underlying52 hi hz0 hz1 hz2 rfl (by decide) (.slice Av k cv) k (ili cs) rfl (HO5.out _) (some ⟨wr.heap.size, 0, none⟩) 1 1 (ili [c]) rfl (fun h => by cases h) rfl (fun ad had => by cases had; exact World.news_of_block (cs := #[.int .i64 c]) (Has.new (wr.drewN _) 3 #[.int .i64 c])) (ili_one _) ?q1 ?q2 ?q3 ?_)
      case q1 => unfold maxLen; omega
      case q2 => omega
      case q3 => (try simp only [World.size_alloc]); (try simp only [World.drewN]); omega
      intro v6 w6 hown6 hgrow6
      have hb6 : Below w4.heap.size w4 w6 := ((below_dn HX.out).trans ((below_one (wr.drewN _) (.cells #[.int .i64 c] 3)).mono hsX)).trans (grown_below hgrow6 (by rw [World.size_alloc]; exact Nat.le_succ_of_le hsX) (fun q hq => ((HO5.out 0).lt q hq).1))
      have hown : w6.ownsRow w4.heap.size 3 1 v6 (k + 1) (ili (cs ++ [c])) := by
        have : ili (cs ++ [c]) = ili cs ++ ili [c] := by simp [ili]
        rw [this]; exact hown6
      have H6 := Lib.hid (And.intro hb6 hown)
      clear hb6 hown hown6 hgrow6 hsX
      have x0 := Int.emod_nonneg x (show (8 : Int) ≠ 0 by omega)
      obtain ⟨x8, hx8⟩ : ∃ x8, x % 8 = x8 := ⟨_, rfl⟩
      rw [hx8] at x0
      by_cases h1 : x8 = 0
      · have h1q : (x8 == 0) = true := by rw [beq_iff_eq]; exact h1
        have hdv : c.tdiv 2 = c / 2 := Int.tdiv_eq_ediv_of_nonneg hcb.1
        go_wp2_with fail
        go_roundg (to - k).toNat
        case measure => omega
        case rel => exact ⟨k + 1, min (c / 2) 1048576, cs ++ [c], by omega, by omega, rfl, by go_num, by omega, by show _ = _; rw [List.length_append, List.length_singleton, HCL.out], csP_push HC.out hcb (by omega), H6.out.1, H6.out.2⟩
      · have h1q : (x8 == 0) = false := by rw [beq_eq_false_iff_ne]; exact h1
        by_cases h2 : x8 < 6
        · skip
          go_wp2_with fail
          go_roundg (to - k).toNat
          case measure => omega
          case rel => exact ⟨k + 1, min (c + rise) 1048576, cs ++ [c], by omega, by omega, rfl, by go_num, by omega, by show _ = _; rw [List.length_append, List.length_singleton, HCL.out], csP_push HC.out hcb (by omega), H6.out.1, H6.out.2⟩
        · have hz := tmod_bd (a := x) (b := rise + 1) hx.1 (by omega)
          obtain ⟨y, hye⟩ : ∃ y, x.tmod (rise + 1) = y := ⟨_, rfl⟩
          rw [hye] at hz
          have hc1 : ¬ rise + 1 = 0 := by omega
          have hw2 : IntKind.i64.wrap y = y := by rw [IntKind.wrap_i64]; omega
          have hw4 : IntKind.i64.wrap x = x := by rw [IntKind.wrap_i64]; omega
          go_wp2_with fail
          go_roundg (to - k).toNat
          case measure => omega
          case rel => exact ⟨k + 1, min (c + y) 1048576, cs ++ [c], by omega, by omega, rfl, by go_num, by omega, by show _ = _; rw [List.length_append, List.length_singleton, HCL.out], csP_push HC.out hcb (by omega), H6.out.1, H6.out.2⟩
    · have hke : (k : Int) = to + 1 := by omega
      have c0 : wr.cell? ⟨W.heap.size, 0, none⟩ = some (.slice A0 l.length cap0) := HXQ.out.v.cell 0
      have c1 : wr.cell? ⟨W.heap.size, 1, none⟩ = some (.int .i64 V) := HXQ.out.v.cell 1
      have c2 : wr.cell? ⟨W.heap.size, 2, none⟩ = some (.int .i64 F) := HXQ.out.v.cell 2
      have HRV := Lib.hid hrv
      clear hrv hcv
      go_wp2_with fail
      have hcl := HCL.out
      have hrd := read_any l A0 cap0 V F cs Av cv 29 (.pointer (some ⟨W.heap.size + 1 + 1, 0, none⟩)) (.pointer (some ⟨b20, 0, none⟩)) (.pointer (some ⟨W.heap.size + 1, 0, none⟩)) (.pointer (some ⟨W.heap.size, 0, none⟩)) (tlS by_ B t l) wr (HR.out.1.step HXQ.out.b) h12 HVV.out.1.hL HRV.out (by omega) (enters_of Try.func29 (by kernel_rfl) rfl)
        (fun w i m hi hm hb => by
          have hJ : JQ wr (W.heap.size + 1 + 1) b20 (W.heap.size + 1) W.heap.size (some ⟨gu, ou, none⟩) capb by_ g B t A0 cap0 l V F := ⟨HXQ.out.y, H3.out.2.1.below HX.out H3.out.2.1.lt, HXQ.out.t, HXQ.out.v, (HR.out.2.1.below HXQ.out.b).more HXQ.out.b.size, H3.out.2.2.below HX.out H3.out.2.2.lt, HR.out.1.step HXQ.out.b⟩
          have hcc := HC.out.1 _ (List.getElem_mem hm)
          exact tellsS_any _ _ _ _ (some ⟨gu, ou, none⟩) capb by_ g B t A0 cap0 l V F w (hJ.step hb) i m cs[m] hi (by omega) h12 (by omega) ht HVV.out.1.hL HBB.out.1 (by omega) hbl HR.out.2.2)
      have hLl := readN_len (l := l) (tl := tlS by_ B t l) (cs := cs) cs.length
      have hL2 : cs.length * l.length ≤ 61 * 12 := Nat.mul_le_mul (by omega) h12
      have hR0 := alarmR_eq (L := readN l (tlS by_ B t l) cs cs.length) HVV.out.1 ht (by omega)
      have he := lisR_e (V := V) (t := t) (chk0_of (n := l.length) (readN_sorted (l := l) (tl := tlS by_ B t l) (cs := cs)) (readN_in (by omega)))
      have hin : ∀ m (hm : m < cs.length), frm ≤ m → (m : Int) ≤ to → most < cs[m] → (lisR V t l.length (readN l (tlS by_ B t l) cs cs.length)).2 = 0 ∧ (lisR V t l.length (readN l (tlS by_ B t l) cs cs.length)).1 ≤ m := fun m hm h1 h2 h3 => by
        have hat := HVV.out.2 m h1 h2
        obtain ⟨a, h4, h5⟩ := sure_alarm (B := B) (tl := tlS by_ B t l) HVV.out.1 ht.1 (fun m h => HC.out.1 _ (List.getElem_mem h)) HC.out.2.1 (by omega) HBB.out.2 (fun i hi m h hb => tlS_says hi HBB.out.1 (HVV.out.1.hL _ (List.getElem_mem hi)) HR.out.2.2 hb) hm (by omega)
        rw [h4]; exact ⟨rfl, h5⟩
      rw [← hR0] at he hin
      obtain ⟨M, hM⟩ : ∃ M, M = readN l (tlS by_ B t l) cs cs.length := ⟨_, rfl⟩
      rw [← hM] at hrd hLl he hin
      rw [hcl] at hrd
      unfold vtv at hrd
      have HML := Lib.hid (show M.length ≤ 1024 by omega)
      clear hM hLl hL2 hR0 hcl
      refine hrd.mono ?_
      rintro e w6 ⟨Ar, cr, rfl, hcr, hfr2, hb⟩
      have H6 := Lib.hid (And.intro (HXQ.out.step hb) (And.intro hfr2 (HRV.out.step hb)))
      have hal := fun w h h' => Alarm_any l A0 cap0 V F t M Ar cr w h hl h' hcr (by have := HML.out; omega)
      obtain ⟨⟨ra, re⟩, hRR⟩ : ∃ R, R = alarmR l V F t M := ⟨_, rfl⟩
      rw [← hRR] at he hin hal
      simp only at he hin
      unfold vtv at hal
      have HAL := Lib.hid hal
      have HIN := Lib.hid hin
      clear hrd hfr2 hb c0 c1 c2 hcr hal hin hRR
      have c0 : w6.cell? ⟨W.heap.size, 0, none⟩ = some (.slice A0 l.length cap0) := H6.out.1.v.cell 0
      have c1 : w6.cell? ⟨W.heap.size, 1, none⟩ = some (.int .i64 V) := H6.out.1.v.cell 1
      have c2 : w6.cell? ⟨W.heap.size, 2, none⟩ = some (.int .i64 F) := H6.out.1.v.cell 2
      have t0 : w6.cell? ⟨W.heap.size + 1, 0, none⟩ = some (.int .i64 t) := H6.out.1.t.cell 0
      rcases he with rfl | rfl
      · skip
        go_wp2_with fail
        refine (HAL.out _ (HR.out.1.step H6.out.1.b) H6.out.2.1).mono ?_
        rintro e w7 ⟨rfl, hb⟩
        have H7 := Lib.hid (And.intro (H6.out.1.step hb) (H6.out.2.2.step hb))
        clear hb c0 c1 c2 t0
        dsimp only
        go_wp2_with fail
        go_loopg [26] (to - frm + 1).toNat (fun gk i wr => ∃ m : Nat, frm ≤ m ∧ (m : Int) ≤ to + 1 ∧ to + 1 - m ≤ gk ∧ i = .int .i64 m ∧ Hid (QW W wr (some ⟨gu, ou, none⟩) capb by_ t A0 cap0 l V F ∧ IRow wr wr.heap.size Av cs))
        case atStart => exact ⟨frm.toNat, by omega, by omega, by omega, by rw [Int.toNat_of_nonneg hfr.1], H7.out⟩
        case round =>
          obtain ⟨m, hm1, hm2, hgm, rfl, HI⟩ := hrel
          by_cases hlm : (m : Int) ≤ to
          · have hmc : m < cs.length := by rw [HCL.out]; omega
            have hmk : (m : Int) < k := by omega
            obtain ⟨gc, oc, hAc, hgc, m0⟩ := HI.out.2 m hmc
            have hin := HIN.out m hmc hm1 hlm
            obtain ⟨y, hy⟩ : ∃ y, y = cs[m] := ⟨_, rfl⟩
            rw [← hy] at m0 hin
            subst hAc
            clear hy
            by_cases hmy : most < y
            · obtain ⟨hea, ham⟩ := hin hmy
              go_wp2_with fail
              go_roundg (to - m).toNat
              case measure => omega
              case rel => exact ⟨m + 1, by omega, by omega, by omega, by go_num, HI.out⟩
            · clear hin
              go_wp2_with fail
              go_roundg (to - m).toNat
              case measure => omega
              case rel => exact ⟨m + 1, by omega, by omega, by omega, by go_num, HI.out⟩
          · go_wp2_with fail
            refine (HA.out _).mono ?_
            rintro e wb ⟨rfl, hb⟩
            have HF := Lib.hid (HI.out.1.step hb)
            clear hb
            go_wp2_with fail
            go_ret
            exact ⟨rfl, HF.out.b⟩
      · skip
        go_wp2_with fail
        refine (HAL.out _ (HR.out.1.step H6.out.1.b) H6.out.2.1).mono ?_
        rintro e w7 ⟨rfl, hb⟩
        have H7 := Lib.hid (And.intro (H6.out.1.step hb) (H6.out.2.2.step hb))
        clear hb c0 c1 c2 t0
        dsimp only
        go_wp2_with fail
        go_loopg [26] (to - frm + 1).toNat (fun gk i wr => ∃ m : Nat, frm ≤ m ∧ (m : Int) ≤ to + 1 ∧ to + 1 - m ≤ gk ∧ i = .int .i64 m ∧ Hid (QW W wr (some ⟨gu, ou, none⟩) capb by_ t A0 cap0 l V F ∧ IRow wr wr.heap.size Av cs))
        case atStart => exact ⟨frm.toNat, by omega, by omega, by omega, by rw [Int.toNat_of_nonneg hfr.1], H7.out⟩
        case round =>
          obtain ⟨m, hm1, hm2, hgm, rfl, HI⟩ := hrel
          by_cases hlm : (m : Int) ≤ to
          · have hmc : m < cs.length := by rw [HCL.out]; omega
            have hmk : (m : Int) < k := by omega
            obtain ⟨gc, oc, hAc, hgc, m0⟩ := HI.out.2 m hmc
            have hin := HIN.out m hmc hm1 hlm
            obtain ⟨y, hy⟩ : ∃ y, y = cs[m] := ⟨_, rfl⟩
            rw [← hy] at m0 hin
            subst hAc
            clear hy
            by_cases hmy : most < y
            · obtain ⟨hea, ham⟩ := hin hmy
              exact absurd hea (by decide)
            · clear hin
              go_wp2_with fail
              go_roundg (to - m).toNat
              case measure => omega
              case rel => exact ⟨m + 1, by omega, by omega, by omega, by go_num, HI.out⟩
          · go_wp2_with fail
            refine (HA.out _).mono ?_
            rintro e wb ⟨rfl, hb⟩
            have HF := Lib.hid (HI.out.1.step hb)
            clear hb
            go_wp2_with fail
            go_ret
            exact ⟨rfl, HF.out.b⟩
end Go.Proofs.Ytfdjoldcdfbfhaa
