/- The law of Quiet. -/
import Derived.Test.YtfdjoldcdfbfhaaQtB
import Derived.Test.YtfdjoldcdfbfhaaRfC
namespace Go.Proofs.Ytfdjoldcdfbfhaa
open Go.Shelf Go.RowKit
def ils (l : List Int) : Array Value := (l.map (Value.int .i64)).toArray
theorem ils_row {w : World} {g : Nat} {l : List Int} (h : Has w g 3 (ils l)) : IRow w w.heap.size (some ⟨g, 0, none⟩) l := fun k hk => by
  refine ⟨g, 0, rfl, h.lt, ?_⟩
  rw [h.cell, ils, List.getElem?_toArray, Nat.zero_add, List.getElem?_map, List.getElem?_eq_getElem hk]; rfl
theorem ils_set (l : List Int) (i : Nat) (b : Int) : (ils l).setIfInBounds i (.int .i64 b) = ils (l.set i b) := by
  unfold ils
  rw [List.setIfInBounds_toArray, List.map_set]
def z40 : Array Value := ils (List.replicate 40 0)
theorem make_ints40 (w : World) : (Instr.makeSlice 52 (.int .i64 40) (.int .i64 40)).run Try.prog w = .ok (.slice (some ⟨w.heap.size, 0, none⟩) 40 40) (w.alloc (.cells z40 3)) := by
  obtain ⟨i, hi, hz0, hz1, hz2⟩ := info_parts Try.info3
  have := run_make (P := Try.prog) w 52 3 i _ Try.underlying52 hi hz0 .i64 .i64 40 40 (by omega) (by omega) (by rw [hz2]; omega) (by omega)
  rw [this, hz1]
  show Result.ok (Value.slice (some ⟨w.heap.size, 0, none⟩) 40 40) (w.alloc (.cells (madeCells #[Value.int .i64 0] (40 * 1)) 3)) = _
  rw [made_one]
  simp [z40, ils]
theorem tlQ_says {by_ : List Int} {B : List Bool} {t : Int} {l : List Sn} {i m c calm : Int} {j : Nat} (hj : j < l.length) (hi : i = j) (hB : B.length = l.length) (hc : c ≤ calm) (hv : vS l[j]) (hby : ∀ x ∈ by_, 0 ≤ x ∧ x ≤ 4294967295) (h : t ≤ tlQ by_ B t l i m c) : B[j]? = some true ∨ t ≤ calm + l[j].r := by
  subst hi
  unfold tlQ at h
  have hx : 0 ≤ by_.getD (((j : Int) + m).tmod by_.length).toNat 0 := by
    rw [List.getD_eq_getElem?_getD]
    cases he : by_[(((j : Int) + m).tmod by_.length).toNat]? with
    | none => simp
    | some x => exact (hby x (List.mem_of_getElem? he)).1
  generalize by_.getD (((j : Int) + m).tmod by_.length).toNat 0 = x at h hx
  simp only [Int.toNat_natCast, List.getD_eq_getElem?_getD, List.getElem?_eq_getElem hj, List.getElem?_eq_getElem (show j < B.length by omega), Option.getD_some] at h
  rw [List.getElem?_eq_getElem (show j < B.length by omega)]
  by_cases hb : B[j] = true
  · exact .inl (by rw [hb])
  · rw [if_neg hb] at h
    right
    have hr := hv.2.2
    have hz := tmod_bd (a := x) (b := 2 * l[j].r + 1) hx (by omega)
    omega
structure QW (W w : World) (Ab : Option Addr) (capb : Nat) (by_ : List Int) (t : Int) (A0 : Option Addr) (cap0 : Nat) (l : List Sn) (V F : Int) : Prop where
  b : Below W.heap.size W w
  v : Has w W.heap.size 24 #[.slice A0 l.length cap0, .int .i64 V, .int .i64 F]
  t : Has w (W.heap.size + 1) 3 #[.int .i64 t]
  y : Has w (W.heap.size + 1 + 1) 48 #[.slice Ab by_.length capb]
theorem QW.step {W w w' : World} {Ab : Option Addr} {capb : Nat} {by_ : List Int} {t : Int} {A0 : Option Addr} {cap0 : Nat} {l : List Sn} {V F : Int} (h : QW W w Ab capb by_ t A0 cap0 l V F) (hb : Below w.heap.size w w') : QW W w' Ab capb by_ t A0 cap0 l V F :=
  ⟨h.b.trans (hb.mono h.b.size), h.v.below hb h.v.lt, h.t.below hb h.t.lt, h.y.below hb h.y.lt⟩
theorem quietR_ok {l : List Sn} {V F t calm : Int} (h : (quietR l V F t calm).2 = 0) : VV l V F ∧ (0 ≤ t ∧ t ≤ 1048576) ∧ (0 ≤ calm ∧ calm ≤ 1048576) ∧ quietR l V F t calm = (quietB l V F t calm, 0) := by
  have h2 := h
  rw [← quiet_doc] at h2 ⊢
  unfold dQuiet at h2 ⊢
  cases hv : vvB l V F
  · rw [hv] at h2; simp at h2
  rw [hv] at h2
  cases h3 : inB t 0 1048576
  · rw [h3] at h2; simp at h2
  cases h4 : inB calm 0 1048576
  · rw [h3, h4] at h2; simp at h2
  refine ⟨(vvB_iff l V F).1 hv, ?_, ?_, rfl⟩
  · unfold inB at h3; simpa using h3
  · unfold inB at h4; simpa using h4
theorem quietR_bad {l : List Sn} {V F t calm : Int} (h : (quietR l V F t calm).2 ≠ 0) : (quietR l V F t calm).1 = false := by
  unfold quietR at h ⊢
  split
  · rfl
  · rename_i h1
    rw [if_neg h1] at h
    split
    · rfl
    · rename_i h2
      rw [if_neg h2] at h; simp at h
theorem alarmR_eq {l : List Sn} {V F t : Int} {L : List Sf} (hv : VV l V F) (ht : 0 ≤ t ∧ t ≤ 1048576) (hL : L.length ≤ 1024) : alarmR l V F t L = lisR V t l.length L := by
  unfold alarmR
  rw [(vvB_iff l V F).2 hv, if_neg (by simp), gasB_in, if_neg (by unfold inB; simp; omega), if_neg (by omega)]
set_option maxRecDepth 100000 in
set_option maxHeartbeats 8000000 in
theorem quietLaw_any (l : List Sn) (A0 : Option Addr) (cap0 : Nat) (V F t calm b : Int) (by_ : List Int) (Ab : Option Addr) (capb : Nat) (W : World) (hr : NRow W W.heap.size A0 l) (hl : l.length ≤ 9223372036854775807)
    (hu : URow W W.heap.size Ab by_) (hby : ∀ x ∈ by_, 0 ≤ x ∧ x ≤ 4294967295) (hbl : by_.length ≤ 9223372036854775807) :
    Calls Try.prog 9 #[vtv A0 l.length cap0 V F, .int .i64 t, .int .i64 calm, .int .u16 b, .slice Ab by_.length capb] W (BoolPost true W) := by
  have HR := Lib.hid (And.intro hr (And.intro hu hby))
  have HA := Lib.hid (fun w => alive_any w)
  have HQ := Lib.hid (fun w h => Quiet_any l A0 cap0 V F t calm w h hl)
  have HV := Lib.hid (fun (w : World) h => refVoting_any l A0 cap0 V F w h hl)
  have H0 : Hid (QW W (((W.alloc (.cells #[.slice A0 l.length cap0, .int .i64 V, .int .i64 F] 24)).alloc (.cells #[.int .i64 t] 3)).alloc (.cells #[.slice Ab by_.length capb] 48)) Ab capb by_ t A0 cap0 l V F) :=
    ⟨((below_one W _).alloc (by simp) _).alloc (by simp; omega) _, ((Has.new _ _ _).alloc _).alloc _, (has_newAt (by simp)).alloc _, has_newAt (by simp)⟩
  clear hr hu hby
  unfold vtv at *
  by_cases h20 : (20 : Int) < l.length
  · go_enter Try.func9, Try.ntmps9
    go_wp2_with fail
    refine (HA.out _).mono ?_
    rintro e wb ⟨rfl, hb⟩
    have HF := Lib.hid (H0.out.step hb)
    clear hb
    go_wp2_with fail
    go_ret
    exact ⟨rfl, HF.out.b⟩
  by_cases hby0 : by_.length = 0
  · obtain rfl := List.eq_nil_of_length_eq_zero hby0
    go_enter Try.func9, Try.ntmps9
    go_wp2_with fail
    refine (HA.out _).mono ?_
    rintro e wb ⟨rfl, hb⟩
    have HF := Lib.hid (H0.out.step hb)
    clear hb
    go_wp2_with fail
    go_ret
    exact ⟨rfl, HF.out.b⟩
  have hby0' : ¬ (by_.length : Int) = 0 := by omega
  have hbyn : ¬ by_ = [] := by rintro rfl; simp at hby0
  by_cases hq : (quietR l V F t calm).2 = 0
  rotate_left
  · have hq1 := quietR_bad hq
    obtain ⟨⟨q1, q2⟩, hqe⟩ : ∃ q, q = quietR l V F t calm := ⟨_, rfl⟩
    rw [← hqe] at hq hq1 HQ
    simp only at hq hq1
    subst hq1
    clear hqe
    go_enter Try.func9, Try.ntmps9
    go_wp2_with fail
    refine (HQ.out _ (HR.out.1.step H0.out.b)).mono ?_
    rintro e w1 ⟨rfl, hb⟩
    have H1 := Lib.hid (H0.out.step hb)
    clear hb
    dsimp only
    go_wp2_with fail
    refine (HA.out _).mono ?_
    rintro e wb ⟨rfl, hb⟩
    have HF := Lib.hid (H1.out.step hb)
    clear hb
    go_wp2_with fail
    go_ret
    exact ⟨rfl, HF.out.b⟩
  obtain ⟨hvv, ht, hcm, hqe⟩ := quietR_ok hq
  rw [hqe] at HQ
  have HVV := Lib.hid hvv
  rw [(vvB_iff l V F).2 hvv] at HV
  have hcm' : ¬ calm < 0 := by omega
  clear hq hqe hvv
  cases hqb : quietB l V F t calm <;> rw [hqb] at HQ
  · go_enter Try.func9, Try.ntmps9
    go_wp2_with fail
    refine (HQ.out _ (HR.out.1.step H0.out.b)).mono ?_
    rintro e w1 ⟨rfl, hb⟩
    have H1 := Lib.hid (H0.out.step hb)
    clear hb
    have c0 : w1.cell? ⟨W.heap.size, 0, none⟩ = some (.slice A0 l.length cap0) := H1.out.v.cell 0
    have c1 : w1.cell? ⟨W.heap.size, 1, none⟩ = some (.int .i64 V) := H1.out.v.cell 1
    have c2 : w1.cell? ⟨W.heap.size, 2, none⟩ = some (.int .i64 F) := H1.out.v.cell 2
    dsimp only
    go_wp2_with fail
    refine (HV.out _ (HR.out.1.step H1.out.b)).mono ?_
    rintro e w2 ⟨rfl, hb⟩
    have H2 := Lib.hid (H1.out.step hb)
    clear hb c0 c1 c2 H1
    have c0 : w2.cell? ⟨W.heap.size, 0, none⟩ = some (.slice A0 l.length cap0) := H2.out.v.cell 0
    go_wp2_with fail
    obtain ⟨i0, hi, hz0, hz1, hz2⟩ := info_parts Try.info45
    have h12 := HVV.out.h12
    have hF := HVV.out.hF
    go_loopg [13, 14, 62] l.length (fun gk v n i wr => ∃ (k : Nat) (M : List Sf), k ≤ l.length ∧ l.length - k ≤ gk ∧ n = .int .i64 (altC l t calm F k) ∧ i = .int .i64 k ∧ Hid (M = altL l t calm F k) ∧ Hid (Below w2.heap.size w2 wr) ∧ Hid (wr.ownsRow w2.heap.size 45 3 v M.length (sfl M)))
    case atStart => exact ⟨0, [], Nat.zero_le _, Nat.le_refl _, rfl, rfl, by show _ = _; rfl, Below.refl _ _, World.ownsRow_nil w2 w2.heap.size 45 3⟩
    case round =>
      obtain ⟨k, M, hk, hgk, rfl, rfl, HM, HX, HO⟩ := hrel
      have HXQ := Lib.hid (H2.out.step HX.out)
      have hML : M.length = k := by rw [HM.out, altL_len]
      obtain ⟨Av, cv, hva, hcv, hfr⟩ := own_frow2 HO.out
      subst hva
      rw [hML] at HO hcv ⊢
      have HML := Lib.hid hML
      clear hML
      have hbd := alt_bd (l := l) (t := t) (calm := calm) hF.1 k hk
      by_cases hlt : k < l.length
      · have hlt' : (k : Int) < l.length := by omega
        obtain ⟨g, o, hA, hg, d0, d1, d2⟩ := (HR.out.1.step HXQ.out.b) k hlt
        have hvr := (HVV.out.hL _ (List.getElem_mem hlt)).2.2
        have hcn := altC_next (t := t) (calm := calm) (F := F) hlt
        have hvn := altV_eq (t := t) (calm := calm) (F := F) hlt
        obtain ⟨s, hs⟩ : ∃ s, s = l[k] := ⟨_, rfl⟩
        rw [← hs] at d0 d1 d2 hvr hcn hvn
        have t0 : wr.cell? ⟨W.heap.size + 1, 0, none⟩ = some (.int .i64 t) := HXQ.out.t.cell 0
        have f2 : wr.cell? ⟨W.heap.size, 2, none⟩ = some (.int .i64 F) := HXQ.out.v.cell 2
        have tl0 := HXQ.out.v.lt
        have tl1 := HXQ.out.t.lt
        subst hA
        obtain ⟨nc, hnc⟩ : ∃ nc : Nat, nc = altC l t calm F k := ⟨_, rfl⟩
        rw [← hnc] at hcn hvn hbd ⊢
        clear hs hcv hfr c0 hnc
        by_cases h1 : calm + s.r < t
        · by_cases h2 : (nc : Int) < F
          · rw [if_pos ⟨h1, h2⟩] at hcn hvn
            have HCN := Lib.hid hcn
            have HVN := Lib.hid hvn
            clear hcn hvn
            go_upto_region 18 with fail
            have hT : Has ((wr.alloc (.cells #[.int .i64 s.f, .int .i64 s.e, .int .i64 s.r] 56)).alloc (.cells #[.int .i64 0, .int .i64 k, .int .i64 t] 45)) (wr.heap.size + 1) 45 #[.int .i64 0, .int .i64 k, .int .i64 t] := has_newAt (by simp)
            have hbw : Below wr.heap.size wr ((wr.alloc (.cells #[.int .i64 s.f, .int .i64 s.e, .int .i64 s.r] 56)).alloc (.cells #[.int .i64 0, .int .i64 k, .int .i64 t] 45)) := (below_one wr _).alloc (by simp) _
            generalize (wr.alloc (.cells #[.int .i64 s.f, .int .i64 s.e, .int .i64 s.r] 56)).alloc (.cells #[.int .i64 0, .int .i64 k, .int .i64 t] 45) = w5 at hT hbw ⊢
            clear t0 f2 tl1 tl0
            have t0 : w5.cell? ⟨wr.heap.size + 1, 0, none⟩ = some (.int .i64 0) := hT.cell 0
            have t1 : w5.cell? ⟨wr.heap.size + 1, 1, none⟩ = some (.int .i64 k) := hT.cell 1
            have t2 : w5.cell? ⟨wr.heap.size + 1, 2, none⟩ = some (.int .i64 t) := hT.cell 2
            have htl := hT.lt
            have HO5 := Lib.hid (own_step (own_step HO.out hbw) (below_one w5 (.cells #[.int .i64 0, .int .i64 k, .int .i64 t] 45)))
            have H5 := Lib.hid hbw
            have hs5 := hbw.size
            have hsX := HX.out.size
            clear hT hbw
            go_wp2_with (at_builtin; refine wpList_append_row rfl _ _ 25 rfl w2.heap.size 45 i0 (.agg #[.int .i64 0, .int .i64 0, .int .i64 0]) 3 24 Try.underlying25 hi hz0 hz1 hz2 rfl (by decide) (.slice Av k cv) k (sfl M) rfl HO5.out (some ⟨w5.heap.size, 0, none⟩) 1 1 (sq3 ⟨0, k, t⟩) rfl (fun h => by cases h) rfl (fun ad had => by cases had; exact World.news_of_block (cs := #[.int .i64 0, .int .i64 k, .int .i64 t]) (Has.new w5 45 #[.int .i64 0, .int .i64 k, .int .i64 t])) (by simpa [sfl] using sfl_one [⟨0, k, t⟩]) ?q1 ?q2 ?q3 ?_)
            case q1 => unfold maxLen; omega
            case q2 => omega
            case q3 => (try simp only [World.size_alloc]); omega
            intro v6 w6 hown6 hgrow6
            have hb6 : Below w2.heap.size w2 w6 := ((HX.out.trans (H5.out.mono hsX)).trans ((below_one w5 (.cells #[.int .i64 0, .int .i64 k, .int .i64 t] 45)).mono (by omega))).trans (grown_below hgrow6 (by simp only [World.size_alloc]; omega) (fun q hq => (HO5.out.lt q hq).1))
            have hown : w6.ownsRow w2.heap.size 45 3 v6 (M ++ [(⟨0, k, t⟩ : Sf)]).length (sfl (M ++ [(⟨0, k, t⟩ : Sf)])) := by
              rw [show sfl (M ++ [(⟨0, k, t⟩ : Sf)]) = sfl M ++ sq3 ⟨0, k, t⟩ by simp [sfl], List.length_append, HML.out]
              exact hown6
            have H6 := Lib.hid (And.intro hb6 hown)
            clear hb6 hown hown6 hgrow6
            go_wp2_with fail
            go_roundg (l.length - (k + 1))
            case measure => omega
            case rel => exact ⟨k + 1, M ++ [(⟨0, k, t⟩ : Sf)], by omega, Nat.le_refl _, by rw [HCN.out]; go_num, by go_num, by show _ = _; rw [altL_next, HVN.out, HM.out], H6.out.1, H6.out.2⟩
          · rw [if_neg (fun h => h2 h.2)] at hcn hvn
            have HCN := Lib.hid hcn
            have HVN := Lib.hid hvn
            clear hcn hvn
            go_upto_region 18 with fail
            have hT : Has ((wr.alloc (.cells #[.int .i64 s.f, .int .i64 s.e, .int .i64 s.r] 56)).alloc (.cells #[.int .i64 0, .int .i64 k, .int .i64 (calm + s.r)] 45)) (wr.heap.size + 1) 45 #[.int .i64 0, .int .i64 k, .int .i64 (calm + s.r)] := has_newAt (by simp)
            have hbw : Below wr.heap.size wr ((wr.alloc (.cells #[.int .i64 s.f, .int .i64 s.e, .int .i64 s.r] 56)).alloc (.cells #[.int .i64 0, .int .i64 k, .int .i64 (calm + s.r)] 45)) := (below_one wr _).alloc (by simp) _
            generalize (wr.alloc (.cells #[.int .i64 s.f, .int .i64 s.e, .int .i64 s.r] 56)).alloc (.cells #[.int .i64 0, .int .i64 k, .int .i64 (calm + s.r)] 45) = w5 at hT hbw ⊢
            clear t0 f2 tl1 tl0
            have t0 : w5.cell? ⟨wr.heap.size + 1, 0, none⟩ = some (.int .i64 0) := hT.cell 0
            have t1 : w5.cell? ⟨wr.heap.size + 1, 1, none⟩ = some (.int .i64 k) := hT.cell 1
            have t2 : w5.cell? ⟨wr.heap.size + 1, 2, none⟩ = some (.int .i64 (calm + s.r)) := hT.cell 2
            have htl := hT.lt
            have HO5 := Lib.hid (own_step (own_step HO.out hbw) (below_one w5 (.cells #[.int .i64 0, .int .i64 k, .int .i64 (calm + s.r)] 45)))
            have H5 := Lib.hid hbw
            have hs5 := hbw.size
            have hsX := HX.out.size
            clear hT hbw
            go_wp2_with (at_builtin; refine wpList_append_row rfl _ _ 25 rfl w2.heap.size 45 i0 (.agg #[.int .i64 0, .int .i64 0, .int .i64 0]) 3 24 Try.underlying25 hi hz0 hz1 hz2 rfl (by decide) (.slice Av k cv) k (sfl M) rfl HO5.out (some ⟨w5.heap.size, 0, none⟩) 1 1 (sq3 ⟨0, k, (calm + s.r)⟩) rfl (fun h => by cases h) rfl (fun ad had => by cases had; exact World.news_of_block (cs := #[.int .i64 0, .int .i64 k, .int .i64 (calm + s.r)]) (Has.new w5 45 #[.int .i64 0, .int .i64 k, .int .i64 (calm + s.r)])) (by simpa [sfl] using sfl_one [⟨0, k, (calm + s.r)⟩]) ?q1 ?q2 ?q3 ?_)
            case q1 => unfold maxLen; omega
            case q2 => omega
            case q3 => (try simp only [World.size_alloc]); omega
            intro v6 w6 hown6 hgrow6
            have hb6 : Below w2.heap.size w2 w6 := ((HX.out.trans (H5.out.mono hsX)).trans ((below_one w5 (.cells #[.int .i64 0, .int .i64 k, .int .i64 (calm + s.r)] 45)).mono (by omega))).trans (grown_below hgrow6 (by simp only [World.size_alloc]; omega) (fun q hq => (HO5.out.lt q hq).1))
            have hown : w6.ownsRow w2.heap.size 45 3 v6 (M ++ [(⟨0, k, (calm + s.r)⟩ : Sf)]).length (sfl (M ++ [(⟨0, k, (calm + s.r)⟩ : Sf)])) := by
              rw [show sfl (M ++ [(⟨0, k, (calm + s.r)⟩ : Sf)]) = sfl M ++ sq3 ⟨0, k, (calm + s.r)⟩ by simp [sfl], List.length_append, HML.out]
              exact hown6
            have H6 := Lib.hid (And.intro hb6 hown)
            clear hb6 hown hown6 hgrow6
            go_wp2_with fail
            go_roundg (l.length - (k + 1))
            case measure => omega
            case rel => exact ⟨k + 1, M ++ [(⟨0, k, (calm + s.r)⟩ : Sf)], by omega, Nat.le_refl _, by rw [HCN.out], by go_num, by show _ = _; rw [altL_next, HVN.out, HM.out], H6.out.1, H6.out.2⟩
        · rw [if_neg (fun h => h1 h.1)] at hcn hvn
          have HCN := Lib.hid hcn
          have HVN := Lib.hid hvn
          clear hcn hvn
          go_upto_region 18 with fail
          have hT : Has ((wr.alloc (.cells #[.int .i64 s.f, .int .i64 s.e, .int .i64 s.r] 56)).alloc (.cells #[.int .i64 0, .int .i64 k, .int .i64 (calm + s.r)] 45)) (wr.heap.size + 1) 45 #[.int .i64 0, .int .i64 k, .int .i64 (calm + s.r)] := has_newAt (by simp)
          have hbw : Below wr.heap.size wr ((wr.alloc (.cells #[.int .i64 s.f, .int .i64 s.e, .int .i64 s.r] 56)).alloc (.cells #[.int .i64 0, .int .i64 k, .int .i64 (calm + s.r)] 45)) := (below_one wr _).alloc (by simp) _
          generalize (wr.alloc (.cells #[.int .i64 s.f, .int .i64 s.e, .int .i64 s.r] 56)).alloc (.cells #[.int .i64 0, .int .i64 k, .int .i64 (calm + s.r)] 45) = w5 at hT hbw ⊢
          clear t0 f2 tl1 tl0
          have t0 : w5.cell? ⟨wr.heap.size + 1, 0, none⟩ = some (.int .i64 0) := hT.cell 0
          have t1 : w5.cell? ⟨wr.heap.size + 1, 1, none⟩ = some (.int .i64 k) := hT.cell 1
          have t2 : w5.cell? ⟨wr.heap.size + 1, 2, none⟩ = some (.int .i64 (calm + s.r)) := hT.cell 2
          have htl := hT.lt
          have HO5 := Lib.hid (own_step (own_step HO.out hbw) (below_one w5 (.cells #[.int .i64 0, .int .i64 k, .int .i64 (calm + s.r)] 45)))
          have H5 := Lib.hid hbw
          have hs5 := hbw.size
          have hsX := HX.out.size
          clear hT hbw
          go_wp2_with (at_builtin; refine wpList_append_row rfl _ _ 25 rfl w2.heap.size 45 i0 (.agg #[.int .i64 0, .int .i64 0, .int .i64 0]) 3 24 Try.underlying25 hi hz0 hz1 hz2 rfl (by decide) (.slice Av k cv) k (sfl M) rfl HO5.out (some ⟨w5.heap.size, 0, none⟩) 1 1 (sq3 ⟨0, k, (calm + s.r)⟩) rfl (fun h => by cases h) rfl (fun ad had => by cases had; exact World.news_of_block (cs := #[.int .i64 0, .int .i64 k, .int .i64 (calm + s.r)]) (Has.new w5 45 #[.int .i64 0, .int .i64 k, .int .i64 (calm + s.r)])) (by simpa [sfl] using sfl_one [⟨0, k, (calm + s.r)⟩]) ?q1 ?q2 ?q3 ?_)
          case q1 => unfold maxLen; omega
          case q2 => omega
          case q3 => (try simp only [World.size_alloc]); omega
          intro v6 w6 hown6 hgrow6
          have hb6 : Below w2.heap.size w2 w6 := ((HX.out.trans (H5.out.mono hsX)).trans ((below_one w5 (.cells #[.int .i64 0, .int .i64 k, .int .i64 (calm + s.r)] 45)).mono (by omega))).trans (grown_below hgrow6 (by simp only [World.size_alloc]; omega) (fun q hq => (HO5.out.lt q hq).1))
          have hown : w6.ownsRow w2.heap.size 45 3 v6 (M ++ [(⟨0, k, (calm + s.r)⟩ : Sf)]).length (sfl (M ++ [(⟨0, k, (calm + s.r)⟩ : Sf)])) := by
            rw [show sfl (M ++ [(⟨0, k, (calm + s.r)⟩ : Sf)]) = sfl M ++ sq3 ⟨0, k, (calm + s.r)⟩ by simp [sfl], List.length_append, HML.out]
            exact hown6
          have H6 := Lib.hid (And.intro hb6 hown)
          clear hb6 hown hown6 hgrow6
          go_wp2_with fail
          go_roundg (l.length - (k + 1))
          case measure => omega
          case rel => exact ⟨k + 1, M ++ [(⟨0, k, (calm + s.r)⟩ : Sf)], by omega, Nat.le_refl _, by rw [HCN.out], by go_num, by show _ = _; rw [altL_next, HVN.out, HM.out], H6.out.1, H6.out.2⟩
      · have hlt' : ¬ (k : Int) < l.length := by omega
        have hke : k = l.length := by omega
        have hres : alarmR l V F t M = (0, 0) := by
          rw [alarmR_eq HVV.out ht (by have := HML.out; omega), HM.out, hke]
          refine alt_hit HVV.out ?_
          unfold quietB at hqb
          simp at hqb
          omega
        have HAL := Lib.hid (fun w h h' => Alarm_any l A0 cap0 V F t M Av cv w h hl h' (by have := HML.out; omega) (by have := HML.out; omega))
        rw [hres, HML.out] at HAL
        unfold vtv at HAL
        have HFR := Lib.hid hfr
        have c0 : wr.cell? ⟨W.heap.size, 0, none⟩ = some (.slice A0 l.length cap0) := HXQ.out.v.cell 0
        have c1 : wr.cell? ⟨W.heap.size, 1, none⟩ = some (.int .i64 V) := HXQ.out.v.cell 1
        have c2 : wr.cell? ⟨W.heap.size, 2, none⟩ = some (.int .i64 F) := HXQ.out.v.cell 2
        have t0 : wr.cell? ⟨W.heap.size + 1, 0, none⟩ = some (.int .i64 t) := HXQ.out.t.cell 0
        obtain ⟨nc, hnc⟩ : ∃ nc : Nat, nc = altC l t calm F k := ⟨_, rfl⟩
        rw [← hnc]
        clear hfr hres hcv hbd hnc hke hqb
        go_wp2_with fail
        refine (HAL.out _ (HR.out.1.step HXQ.out.b) HFR.out).mono ?_
        rintro e w7 ⟨rfl, hb⟩
        have H7 := Lib.hid (HXQ.out.step hb)
        clear hb c0 c1 c2 t0
        go_wp2_with fail
        refine (HA.out _).mono ?_
        rintro e wb ⟨rfl, hb⟩
        have HF := Lib.hid (H7.out.step hb)
        clear hb
        go_wp2_with fail
        go_ret
        exact ⟨rfl, HF.out.b⟩
  · go_enter Try.func9, Try.ntmps9
    go_wp2_with fail
    refine (HQ.out _ (HR.out.1.step H0.out.b)).mono ?_
    rintro e w1 ⟨rfl, hb⟩
    have H1 := Lib.hid (H0.out.step hb)
    clear hb
    have c0 : w1.cell? ⟨W.heap.size, 0, none⟩ = some (.slice A0 l.length cap0) := H1.out.v.cell 0
    have c1 : w1.cell? ⟨W.heap.size, 1, none⟩ = some (.int .i64 V) := H1.out.v.cell 1
    have c2 : w1.cell? ⟨W.heap.size, 2, none⟩ = some (.int .i64 F) := H1.out.v.cell 2
    dsimp only
    go_wp2_with fail
    refine (HV.out _ (HR.out.1.step H1.out.b)).mono ?_
    rintro e w2 ⟨rfl, hb⟩
    have H2 := Lib.hid (H1.out.step hb)
    clear hb c0 c1 c2 H1
    have c0 : w2.cell? ⟨W.heap.size, 0, none⟩ = some (.slice A0 l.length cap0) := H2.out.v.cell 0
    have c1 : w2.cell? ⟨W.heap.size, 1, none⟩ = some (.int .i64 V) := H2.out.v.cell 1
    have c2 : w2.cell? ⟨W.heap.size, 2, none⟩ = some (.int .i64 F) := H2.out.v.cell 2
    go_wp2_with fail
    have hfa := failed_any l A0 cap0 V F b w2 HVV.out.h12 HVV.out.hF.1
    unfold vtv at hfa
    refine hfa.mono ?_
    rintro e w3 ⟨g, B, rfl, hb, hg, hB, hBl, hBc⟩
    have hmf : ∀ (fn : Fn) (first cap : Array Value) (w : World), (Instr.makeFunc fn first cap).run Try.prog w = .ok (.func fn first cap) w := fun _ _ _ _ => rfl
    have hmk := make_ints40
    have h12 := HVV.out.h12
    have H3 := Lib.hid (And.intro (H2.out.step hb) (And.intro hB (And.intro hBl hBc)))
    have hgW : w2.heap.size ≤ g := hg
    clear hfa hb hg hB hBl hBc c0 c1 c2
    go_wp2_with fail
    have k1 : Has ((w3.alloc (.cells #[.slice (some ⟨g, 0, none⟩) l.length l.length] 50)).alloc (.cells z40 3)) w3.heap.size 50 #[.slice (some ⟨g, 0, none⟩) l.length l.length] := (Has.new _ _ _).alloc _
    have k2 : Has ((w3.alloc (.cells #[.slice (some ⟨g, 0, none⟩) l.length l.length] 50)).alloc (.cells z40 3)) (w3.heap.size + 1) 3 z40 := has_newAt (by simp)
    have k3 : Below w3.heap.size w3 ((w3.alloc (.cells #[.slice (some ⟨g, 0, none⟩) l.length l.length] 50)).alloc (.cells z40 3)) := (below_one _ _).alloc (by simp) _
    generalize (w3.alloc (.cells #[.slice (some ⟨g, 0, none⟩) l.length l.length] 50)).alloc (.cells z40 3) = w5 at k1 k2 k3 ⊢
    have hg3 := H3.out.2.1.lt
    have hW3 := H3.out.1.y.lt
    have H5 := Lib.hid (show QW W w5 Ab capb by_ t A0 cap0 l V F ∧ Has w5 w3.heap.size 50 #[.slice (some ⟨g, 0, none⟩) l.length l.length] ∧ Has w5 g 4 (bls B) ∧ Has w5 (w3.heap.size + 1) 3 z40 from
      ⟨H3.out.1.step k3, k1, H3.out.2.1.below k3 hg3, k2⟩)
    obtain ⟨b20, hb20⟩ : ∃ b20, b20 = w3.heap.size := ⟨_, rfl⟩
    obtain ⟨gC, hgC⟩ : ∃ gC, gC = w3.heap.size + 1 := ⟨_, rfl⟩
    rw [← hgC, ← hb20] at H5
    rw [← hgC, ← hb20]
    have HLT := Lib.hid (show W.heap.size + 1 + 1 < gC ∧ g < gC ∧ b20 < gC by omega)
    have HBB := Lib.hid H3.out.2.2
    clear k1 k2 k3 hg3 hW3 hb20 hgC H3 hmk hgW
    go_loopg [110] 40 (fun gk i wr => ∃ (k : Nat) (cs : List Int), k ≤ 40 ∧ 40 - k ≤ gk ∧ i = .int .i64 k ∧ Hid (QW W wr Ab capb by_ t A0 cap0 l V F ∧ Has wr b20 50 #[.slice (some ⟨g, 0, none⟩) l.length l.length] ∧ Has wr g 4 (bls B) ∧ Has wr gC 3 (ils cs)) ∧ Hid (cs.length = 40 ∧ ∀ x ∈ cs, 0 ≤ x ∧ x ≤ calm))
    case atStart => exact ⟨0, List.replicate 40 0, by omega, by omega, rfl, H5.out, by simp, fun x hx => by rw [(List.mem_replicate.1 hx).2]; omega⟩
    case round =>
      obtain ⟨k, cs, hk, hgk, rfl, HX, HP⟩ := hrel
      clear H5
      by_cases hlt : k < 40
      · have hlt' : (k : Int) < 40 := by omega
        have hq := tmod_bd (a := (k : Int)) (b := by_.length) (by omega) (by omega)
        obtain ⟨q, hqe⟩ : ∃ q : Nat, (k : Int).tmod by_.length = q := ⟨((k : Int).tmod by_.length).toNat, by omega⟩
        have hql : q < by_.length := by omega
        have hql' : (q : Int) < by_.length := by omega
        have hx := HR.out.2.2 _ (List.getElem_mem hql)
        obtain ⟨gu, ou, hA, hgu, u0⟩ := (HR.out.2.1.below HX.out.1.b) q hql
        obtain ⟨x, hxe⟩ : ∃ x, x = by_[q] := ⟨_, rfl⟩
        rw [← hxe] at hx u0
        have hz := tmod_bd (a := x) (b := calm + 1) hx.1 (by omega)
        obtain ⟨z, hze⟩ : ∃ z, x.tmod (calm + 1) = z := ⟨_, rfl⟩
        rw [hze] at hz
        subst hA
        have y0 : wr.cell? ⟨W.heap.size + 1 + 1, 0, none⟩ = some (.slice (some ⟨gu, ou, none⟩) by_.length capb) := HX.out.1.y.cell 0
        have y1 := HX.out.1.y.lt
        have hgu' : gu < wr.heap.size := by have := HX.out.1.b.size; omega
        have hgl := HX.out.2.2.2.lt
        have hgf := HX.out.2.2.2.frozen k
        obtain ⟨oc, hoc⟩ : ∃ oc, wr.cell? ⟨gC, k, none⟩ = some (.int .i64 oc) := by
          have hkc : k < cs.length := by rw [HP.out.1]; exact hlt
          exact ⟨cs[k], by rw [HX.out.2.2.2.cell, ils, List.getElem?_toArray, List.getElem?_map, List.getElem?_eq_getElem hkc]; rfl⟩
        have hw1 : IntKind.i64.wrap (q : Int) = (q : Int) := by rw [IntKind.wrap_i64]; omega
        have hw2 : IntKind.i64.wrap z = z := by rw [IntKind.wrap_i64]; omega
        have hc1 : ¬ calm + 1 = 0 := by omega
        have hw3 : IntKind.i64.wrap (calm + 1) = calm + 1 := by rw [IntKind.wrap_i64]; omega
        have hw4 : IntKind.i64.wrap x = x := by rw [IntKind.wrap_i64]; omega
        have HN : Hid (QW W (wr.setCell ⟨gC, k, none⟩ (.int .i64 z)).drew (some ⟨gu, ou, none⟩) capb by_ t A0 cap0 l V F ∧ Has (wr.setCell ⟨gC, k, none⟩ (.int .i64 z)).drew b20 50 #[.slice (some ⟨g, 0, none⟩) l.length l.length] ∧ Has (wr.setCell ⟨gC, k, none⟩ (.int .i64 z)).drew g 4 (bls B) ∧ Has (wr.setCell ⟨gC, k, none⟩ (.int .i64 z)).drew gC 3 (ils (cs.set k z))) := by
          obtain ⟨n1, n2, n3⟩ := HLT.out
          refine ⟨⟨below_dr' (HX.out.1.b.setCell (by simp only; omega) _), (HX.out.1.v.far (by simp only; omega) _).drew, (HX.out.1.t.far (by simp only; omega) _).drew, (HX.out.1.y.far (by simp only; omega) _).drew⟩, (HX.out.2.1.far (by simp only; omega) _).drew, (HX.out.2.2.1.far (by simp only; omega) _).drew, ?_⟩
          rw [← ils_set]; exact (HX.out.2.2.2.set k _).drew
        have HPN : Hid ((cs.set k z).length = 40 ∧ ∀ x ∈ cs.set k z, 0 ≤ x ∧ x ≤ calm) := ⟨by rw [List.length_set]; exact HP.out.1, fun y hy => by
          rcases List.mem_or_eq_of_mem_set hy with h | h
          · exact HP.out.2 y h
          · subst h; omega⟩
        clear hq hxe hgu
        go_wp2_with fail
        refine still_tail 14 (by kernel_rfl) (by kernel_rfl) ?_
        simp only [List.take_succ_cons, List.take_zero, List.drop_succ_cons, List.drop_zero]
        repeat still_step
        refine wpStill_nil ?_
        go_wp2_with fail
        go_roundg (40 - (k + 1))
        case measure => omega
        case rel => exact ⟨k + 1, cs.set k z, by omega, Nat.le_refl _, by go_num, HN.out, HPN.out⟩
      · have hlt' : ¬ (k : Int) < 40 := by omega
        have c0 : wr.cell? ⟨W.heap.size, 0, none⟩ = some (.slice A0 l.length cap0) := HX.out.1.v.cell 0
        have c1 : wr.cell? ⟨W.heap.size, 1, none⟩ = some (.int .i64 V) := HX.out.1.v.cell 1
        have c2 : wr.cell? ⟨W.heap.size, 2, none⟩ = some (.int .i64 F) := HX.out.1.v.cell 2
        go_wp2_with fail
        obtain ⟨hcl, hcb⟩ := HP.out
        have hrd := read_any l A0 cap0 V F cs (some ⟨gC, 0, none⟩) 40 33 (.pointer (some ⟨W.heap.size + 1 + 1, 0, none⟩)) (.pointer (some ⟨b20, 0, none⟩)) (.pointer (some ⟨W.heap.size + 1, 0, none⟩)) (.pointer (some ⟨W.heap.size, 0, none⟩)) (tlQ by_ B t l) wr (HR.out.1.step HX.out.1.b) h12 HVV.out.hL (ils_row HX.out.2.2.2) (by omega) (enters_of Try.func33 (by kernel_rfl) rfl)
          (fun w i m hi hm hb => by
            have hJ : JQ wr (W.heap.size + 1 + 1) b20 (W.heap.size + 1) W.heap.size Ab capb by_ g B t A0 cap0 l V F := ⟨HX.out.1.y, HX.out.2.1, HX.out.1.t, HX.out.1.v, (HR.out.2.1.below HX.out.1.b).more HX.out.1.b.size, HX.out.2.2.1, HR.out.1.step HX.out.1.b⟩
            have hcc := hcb _ (List.getElem_mem hm)
            exact tellsQ_any _ _ _ _ Ab capb by_ g B t A0 cap0 l V F w (hJ.step hb) i m cs[m] hi (by omega) h12 (by omega) ht HVV.out.hL HBB.out.1 (by omega) hbl HR.out.2.2)
        have hLl := readN_len (l := l) (tl := tlQ by_ B t l) (cs := cs) cs.length
        have hL2 : cs.length * l.length ≤ 40 * 12 := Nat.mul_le_mul (by omega) h12
        have hres : alarmR l V F t (readN l (tlQ by_ B t l) cs cs.length) = (0, 4) := by
          rw [alarmR_eq HVV.out ht (by omega)]
          refine quiet_none (B := B) (calm := calm) (F := F) h12 readN_sorted (readN_in (by omega)) (fun r hr j hj hrs hrv => ?_) HBB.out.2 (by unfold quietB at hqb; simpa using hqb)
          obtain ⟨m, hm, -, i, hi, -, rfl⟩ := readN_mem _ (Nat.le_refl _) hr
          simp only at hrs hrv
          exact tlQ_says hj (by omega) HBB.out.1 (hcb _ (List.getElem_mem hm)).2 (HVV.out.hL _ (List.getElem_mem hj)) HR.out.2.2 hrv
        rw [hcl] at hrd hres hLl
        obtain ⟨M, hM⟩ : ∃ M, M = readN l (tlQ by_ B t l) cs 40 := ⟨_, rfl⟩
        rw [← hM] at hrd hres hLl
        have HRES := Lib.hid (And.intro hres (show M.length ≤ 1024 by omega))
        unfold vtv at hrd
        clear hres hM hLl hL2 hcb hcl hqb
        refine hrd.mono ?_
        rintro e w6 ⟨Ar, cr, rfl, hcr, hfr, hb⟩
        have H6 := Lib.hid (And.intro (HX.out.1.step hb) hfr)
        have HAL := Lib.hid (fun w h h' => Alarm_any l A0 cap0 V F t M Ar cr w h hl h' hcr (by have := HRES.out.2; omega))
        rw [HRES.out.1] at HAL
        unfold vtv at HAL
        clear hrd hfr hb c0 c1 c2 hcr
        have c0 : w6.cell? ⟨W.heap.size, 0, none⟩ = some (.slice A0 l.length cap0) := H6.out.1.v.cell 0
        have c1 : w6.cell? ⟨W.heap.size, 1, none⟩ = some (.int .i64 V) := H6.out.1.v.cell 1
        have c2 : w6.cell? ⟨W.heap.size, 2, none⟩ = some (.int .i64 F) := H6.out.1.v.cell 2
        have t0 : w6.cell? ⟨W.heap.size + 1, 0, none⟩ = some (.int .i64 t) := H6.out.1.t.cell 0
        go_wp2_with fail
        refine (HAL.out _ (HR.out.1.step H6.out.1.b) H6.out.2).mono ?_
        rintro e w7 ⟨rfl, hb⟩
        have H7 := Lib.hid (H6.out.1.step hb)
        clear hb c0 c1 c2 t0
        go_wp2_with fail
        refine (HA.out _).mono ?_
        rintro e wb ⟨rfl, hb⟩
        have HF := Lib.hid (H7.out.step hb)
        clear hb
        go_wp2_with fail
        go_ret
        exact ⟨rfl, HF.out.b⟩
end Go.Proofs.Ytfdjoldcdfbfhaa
