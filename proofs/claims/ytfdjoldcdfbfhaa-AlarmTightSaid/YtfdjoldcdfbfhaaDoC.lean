/- The document's Alarm. -/
import Derived.Test.YtfdjoldcdfbfhaaDoB
import Derived.Test.YtfdjoldcdfbfhaaAlC
namespace Go.Proofs.Ytfdjoldcdfbfhaa
open Go.Shelf Go.RowKit
theorem badB_in (s : Sf) (n : Int) : badB s n = !(inB s.m 0 1048576 && inB s.s 0 (n - 1)) := by
  rw [Bool.eq_iff_iff]; unfold badB inB; simp; omega
theorem stB_some {V t : Int} {L : List Sf} {k : Nat} {m : Int} (h : stB V t L k = some m) : ∀ d, stB V t L (k + d) = some m
  | 0 => h
  | d + 1 => by
    show stB V t L ((k + d) + 1) = _
    rw [stB_next, stB_some h d]
theorem lisR_err {V t : Int} {n : Nat} {L : List Sf} {k : Nat} (hk : k < L.length) (hg : ∀ j, j < k → chkAt L n j = 0) (hb : chkAt L n k ≠ 0) : lisR V t n L = (0, chkAt L n k) := by
  have h := badE_first (n := n) hg hb (L.length - (k + 1))
  rw [show k + 1 + (L.length - (k + 1)) = L.length by omega] at h
  unfold lisR
  rw [h, if_neg hb]
theorem lisR_hit {V t : Int} {n : Nat} {L : List Sf} {k : Nat} {m : Int} (hk : k ≤ L.length) (hg : ∀ j, j < L.length → chkAt L n j = 0) (hs : stB V t L k = some m) : lisR V t n L = (m, 0) := by
  have h := stB_some hs (L.length - k)
  rw [show k + (L.length - k) = L.length by omega] at h
  unfold lisR fx ey
  rw [badE_zero _ hg, if_pos rfl, h]; rfl
theorem lisR_none {V t : Int} {n : Nat} {L : List Sf} (hg : ∀ j, j < L.length → chkAt L n j = 0) (hs : stB V t L L.length = none) : lisR V t n L = (0, 4) := by
  unfold lisR fx ey
  rw [badE_zero _ hg, if_pos rfl, hs]; rfl
theorem below_dn {B : Nat} {w w' : World} {n : Nat} (h : Below B w w') : Below B w (w'.drewN n) := ⟨h.os, h.tape, h.output, h.size, h.block⟩
theorem bls_set (l : List Bool) (i : Nat) (b : Bool) : (bls l).setIfInBounds i (.bool b) = bls (l.set i b) := by
  unfold bls
  rw [List.setIfInBounds_toArray, List.map_set]
theorem yeses_at (g n b : Nat) (w : World) (h : Has w g 4 (bls (sayL n b))) (hn : n ≤ 12) {c : Nat} (hc : cntT (sayL n b) n = c) :
    Calls Try.prog 39 #[.slice (some ⟨g, 0, none⟩) n n] w fun e w' => e = .returned (.int .i64 c) ∧ w' = w := by
  have := yeses_any g (sayL n b) n w h (by rw [sayL_len]; exact hn)
  rwa [sayL_len, hc] at this
theorem Try.info4 : (Try.prog.info? 4).map (fun i => (i.zero, i.size, i.bytes)) = some (some (.bool false), 1, 1) := by kernel_rfl
theorem made_one (v : Value) (n : Nat) : madeCells #[v] (n * 1) = (List.replicate n v).toArray := by
  apply Array.ext
  · simp [madeCells]
  · intro i h1 h2
    simp [madeCells, Nat.mod_one]
theorem make_bools (n : Nat) (hn : n ≤ 1000000) (w : World) : (Instr.makeSlice 50 (.int .i64 n) (.int .i64 n)).run Try.prog w = .ok (.slice (some ⟨w.heap.size, 0, none⟩) n n) (w.alloc (.cells (bls (List.replicate n false)) 4)) := by
  obtain ⟨i, hi, hz0, hz1, hz2⟩ := info_parts Try.info4
  have := run_make (P := Try.prog) w 50 4 i _ Try.underlying50 hi hz0 .i64 .i64 n n (by omega) (by omega) (by rw [hz2]; omega) (by omega)
  rw [this, hz1]
  simp only [Int.toNat_natCast]
  rw [show bls (List.replicate n false) = (List.replicate n (Value.bool false)).toArray by simp [bls], ← made_one]; rfl
set_option maxRecDepth 100000 in
set_option maxHeartbeats 4000000 in
theorem docAlarm_any (l : List Sn) (A0 : Option Addr) (cap0 : Nat) (V F t : Int) (L : List Sf) (A : Option Addr) (cap : Nat) (W : World) (hr : NRow W W.heap.size A0 l) (hl : l.length ≤ 9223372036854775807)
    (hf : FRow W W.heap.size A L) (hc : L.length ≤ cap) (hL : L.length ≤ 9223372036854775807) :
    Calls Try.prog 15 #[vtv A0 l.length cap0 V F, .int .i64 t, .slice A L.length cap] W (LisPost (alarmR l V F t L) W) := by
  have HR := Lib.hid (And.intro hr hf)
  have HV := Lib.hid (fun (w : World) h => refVoting_any l A0 cap0 V F w h hl)
  have g1 := fun w => in_any t 0 1048576 w
  have hh : Has (W.alloc (.cells #[.slice A0 l.length cap0, .int .i64 V, .int .i64 F] 24)) W.heap.size 24 #[.slice A0 l.length cap0, .int .i64 V, .int .i64 F] := Has.new W 24 _
  have hb0 := below_one W (.cells #[.slice A0 l.length cap0, .int .i64 V, .int .i64 F] 24)
  have HB := Lib.hid (And.intro hb0 hh)
  have HC := Lib.hid hc
  clear hb0 hh hr hf hc
  cases hv : vvB l V F
  · have HN := Lib.hid (show alarmR l V F t L = (0, 1) by unfold alarmR; rw [if_pos hv])
    rw [hv] at HV
    clear g1 hv
    unfold vtv at *
    go_enter Try.func15, Try.ntmps15
    go_wp2_with fail
    refine (HV.out _ (HR.out.1.step HB.out.1)).mono ?_
    rintro e w2 ⟨rfl, hb2⟩
    have H2 := Lib.hid (below_seq HB.out.1 hb2)
    clear hb2
    go_wp2_with fail
    refine bodyPost_ret (results_tmp2 rfl _ _ _) rfl ?_
    exact ⟨by rw [HN.out]; rfl, H2.out⟩
  have HVV := Lib.hid ((vvB_iff l V F).1 hv)
  have HV2 := Lib.hid hv
  rw [hv] at HV
  clear hv
  unfold vtv at *
  cases h1 : inB t 0 1048576 <;> rw [h1] at g1
  · have HN := Lib.hid (show alarmR l V F t L = (0, 2) by unfold alarmR; rw [if_neg (by rw [HV2.out]; simp), gasB_in, if_pos h1])
    clear h1
    go_enter Try.func15, Try.ntmps15
    go_wp2_with fail
    refine (HV.out _ (HR.out.1.step HB.out.1)).mono ?_
    rintro e w2 ⟨rfl, hb2⟩
    have H2 := Lib.hid (below_seq HB.out.1 hb2)
    clear hb2
    go_wp2_with fail
    refine (g1 _).mono ?_
    rintro e w3 ⟨rfl, rfl⟩
    go_wp2_with fail
    refine bodyPost_ret (results_tmp2 rfl _ _ _) rfl ?_
    exact ⟨by rw [HN.out]; rfl, H2.out⟩
  by_cases hlen : 1024 < L.length
  · have HN := Lib.hid (show alarmR l V F t L = (0, 3) by unfold alarmR; rw [if_neg (by rw [HV2.out]; simp), gasB_in, if_neg (by rw [h1]; simp), if_pos hlen])
    have hlen' : (1024 : Int) < L.length := by omega
    clear h1 hlen
    go_enter Try.func15, Try.ntmps15
    go_wp2_with fail
    refine (HV.out _ (HR.out.1.step HB.out.1)).mono ?_
    rintro e w2 ⟨rfl, hb2⟩
    have H2 := Lib.hid (below_seq HB.out.1 hb2)
    clear hb2
    go_wp2_with fail
    refine (g1 _).mono ?_
    rintro e w3 ⟨rfl, rfl⟩
    go_wp2_with fail
    refine bodyPost_ret (results_tmp2 rfl _ _ _) rfl ?_
    exact ⟨by rw [HN.out]; rfl, H2.out⟩
  · have HN := Lib.hid (show alarmR l V F t L = lisR V t l.length L by unfold alarmR; rw [if_neg (by rw [HV2.out]; simp), gasB_in, if_neg (by rw [h1]; simp), if_neg hlen])
    have hlen' : ¬ (1024 : Int) < L.length := by omega
    have hlen2 : L.length ≤ 1024 := by omega
    clear h1 hlen
    go_enter Try.func15, Try.ntmps15
    go_wp2_with fail
    refine (HV.out _ (HR.out.1.step HB.out.1)).mono ?_
    rintro e w2 ⟨rfl, hb2⟩
    have H2 := Lib.hid (And.intro (below_seq HB.out.1 hb2) (HB.out.2.below hb2 HB.out.2.lt))
    clear hb2 HB HV
    have c0 : w2.cell? ⟨W.heap.size, 0, none⟩ = some (.slice A0 l.length cap0) := H2.out.2.cell 0
    have c1 : w2.cell? ⟨W.heap.size, 1, none⟩ = some (.int .i64 V) := H2.out.2.cell 1
    go_wp2_with fail
    refine (g1 _).mono ?_
    rintro e w3 ⟨rfl, rfl⟩
    go_wp2_with fail
    have hn12 := HVV.out.h12
    have HN12 := Lib.hid hn12
    go_loopg [8] L.length (fun gk i wr => ∃ k : Nat, k ≤ L.length ∧ L.length - k ≤ gk ∧ i = .int .i64 k ∧ Hid (Below w3.heap.size w3 wr) ∧ Hid (∀ j, j < k → chkAt L l.length j = 0))
    case atStart => exact ⟨0, Nat.zero_le _, Nat.le_refl _, rfl, Below.refl _ _, fun j hj => absurd hj (Nat.not_lt_zero _)⟩
    case round =>
      obtain ⟨k, hk, hgk, rfl, HW, HG⟩ := hrel
      have HBW := Lib.hid (below_seq H2.out.1 HW.out)
      have hH := H2.out.2.below HW.out H2.out.2.lt
      have v0 : wr.cell? ⟨W.heap.size, 0, none⟩ = some (.slice A0 l.length cap0) := hH.cell 0
      clear hH c0 c1
      by_cases hlt : k < L.length
      · have hlt' : (k : Int) < L.length := by omega
        obtain ⟨g, o, hA, hg, d0, d1, -⟩ := (HR.out.2.below HBW.out) k hlt
        have hdoc := chk_doc (n := l.length) hlt
        have hbad := badB_in L[k] l.length
        obtain ⟨r, hre⟩ : ∃ r, r = L[k] := ⟨_, rfl⟩
        rw [← hre] at d0 d1 hbad
        have i1 := fun w => in_any r.m 0 1048576 w
        have i2 := fun w => in_any r.s 0 (l.length - 1) w
        cases e1 : inB r.m 0 1048576 <;> rw [e1] at i1 hbad
        · have HF := Lib.hid (show lisR V t l.length L = (0, 1) by
            have h1 : chkAt L l.length k = 1 := by rw [hdoc]; unfold docE; rw [← hre, hbad]; rfl
            rw [lisR_err hlt HG.out (by rw [h1]; decide), h1])
          subst hA
          clear hdoc hbad hre e1 i2
          go_wp2_with fail
          go_quiet ((go_at_call 38; exact Calls.quiet_of_same (i1 _)))
          go_wp2_with fail
          refine bodyPost_ret (results_tmp2 rfl _ _ _) rfl ?_
          exact ⟨by rw [HN.out, HF.out]; rfl, below_dn HBW.out⟩
        cases e2 : inB r.s 0 (l.length - 1) <;> rw [e2] at i2 hbad
        · have HF := Lib.hid (show lisR V t l.length L = (0, 1) by
            have h1 : chkAt L l.length k = 1 := by rw [hdoc]; unfold docE; rw [← hre, hbad]; rfl
            rw [lisR_err hlt HG.out (by rw [h1]; decide), h1])
          subst hA
          clear hdoc hbad hre e1 e2
          go_wp2_with fail
          go_quiet (first | (go_at_call 38; with_reducible exact Calls.quiet_of_same (i1 _)) | (go_at_call 38; with_reducible exact Calls.quiet_of_same (i2 _)))
          go_wp2_with fail
          refine bodyPost_ret (results_tmp2 rfl _ _ _) rfl ?_
          exact ⟨by rw [HN.out, HF.out]; rfl, below_dn HBW.out⟩
        have hd2 : chkAt L l.length k = if 0 < k ∧ r.m < (L[k - 1]'(by omega)).m then 7 else 0 := by rw [hdoc]; unfold docE; rw [← hre, hbad, if_neg (by decide)]
        by_cases hk0 : 0 < k
        · obtain ⟨j, hj⟩ : ∃ j, k = j + 1 := ⟨k - 1, by omega⟩
          have hjl : j < L.length := by omega
          have hjl' : (j : Int) < L.length := by omega
          obtain ⟨_, _, hA', -, p0, -, -⟩ := (HR.out.2.below HBW.out) j hjl
          rw [hA] at hA'
          obtain ⟨rfl, rfl⟩ : g = _ ∧ o = _ := by injection hA' with h; injection h with h1 h2; exact ⟨h1, h2⟩
          clear hA'
          have hd3 : chkAt L l.length k = if r.m < L[j].m then 7 else 0 := by
            rw [hd2]
            simp only [hj, Nat.add_sub_cancel]
            simp
          obtain ⟨pm, hpm⟩ : ∃ pm, pm = L[j].m := ⟨_, rfl⟩
          rw [← hpm] at p0 hd3
          have hkd : decide ((0 : Int) < (k : Int)) = true := decide_eq_true (by omega)
          have hw : IntKind.i64.wrap ((k : Int) - 1) = (j : Int) := by rw [IntKind.wrap_i64]; omega
          have HJ := Lib.hid hj
          subst hA
          clear hdoc hbad hre e1 e2 hd2 hpm hj
          by_cases hlt7 : r.m < pm
          · have HF := Lib.hid (show lisR V t l.length L = (0, 7) by
              rw [if_pos hlt7] at hd3
              rw [lisR_err hlt HG.out (by rw [hd3]; decide), hd3])
            clear hd3
            go_wp2_with fail
            go_quiet (first | (go_at_call 38; with_reducible exact Calls.quiet_of_same (i1 _)) | (go_at_call 38; with_reducible exact Calls.quiet_of_same (i2 _)))
            go_wp2_with fail
            go_quiet (fail)
            go_wp2_with fail
            refine bodyPost_ret (results_tmp2 rfl _ _ _) rfl ?_
            exact ⟨by rw [HN.out, HF.out]; rfl, below_dn (below_dn HBW.out)⟩
          · have HF := Lib.hid (show ∀ j, j < k + 1 → chkAt L l.length j = 0 from fun j hj => by
              rcases Nat.lt_succ_iff_lt_or_eq.1 hj with h | h
              · exact HG.out j h
              · subst h; rw [hd3, if_neg hlt7])
            clear hd3
            go_wp2_with fail
            go_quiet (first | (go_at_call 38; with_reducible exact Calls.quiet_of_same (i1 _)) | (go_at_call 38; with_reducible exact Calls.quiet_of_same (i2 _)))
            go_wp2_with fail
            go_quiet (fail)
            go_wp2_with fail
            go_roundg (L.length - (k + 1))
            case measure => omega
            case rel => exact ⟨k + 1, by omega, Nat.le_refl _, by go_num, below_dn HW.out, HF.out⟩
        · have HF := Lib.hid (show ∀ j, j < k + 1 → chkAt L l.length j = 0 from fun j hj => by
            have : j = k := by omega
            subst this; rw [hd2, if_neg (fun h => hk0 h.1)])
          have hkd : decide ((0 : Int) < (k : Int)) = false := decide_eq_false (by omega)
          subst hA
          clear hdoc hbad hre e1 e2 hd2
          go_wp2_with fail
          go_quiet (first | (go_at_call 38; with_reducible exact Calls.quiet_of_same (i1 _)) | (go_at_call 38; with_reducible exact Calls.quiet_of_same (i2 _)))
          go_wp2_with fail
          go_quiet (fail)
          go_wp2_with fail
          go_roundg (L.length - (k + 1))
          case measure => omega
          case rel => exact ⟨k + 1, by omega, Nat.le_refl _, by go_num, below_dn HW.out, HF.out⟩
      · have hlt' : ¬ (k : Int) < L.length := by omega
        have hkl : k = L.length := by omega
        subst hkl
        have hmk := make_bools l.length (by omega)
        go_wp2_with fail
        have HB2 := Lib.hid (And.intro (HBW.out.alloc (HBW.out.size) (.cells (bls (List.replicate l.length false)) 4)) (And.intro ((H2.out.2.below HW.out H2.out.2.lt).alloc (.cells (bls (List.replicate l.length false)) 4)) (And.intro (Has.new wr 4 (bls (List.replicate l.length false))) (H2.out.2.below HW.out H2.out.2.lt).lt)))
        generalize wr.alloc (.cells (bls (List.replicate l.length false)) 4) = w5 at HB2 ⊢
        generalize wr.heap.size = g9 at HB2 ⊢
        clear v0 hmk HW HBW hlt hlt'
        go_loopg [10] L.length (fun gk i wx => ∃ k : Nat, k ≤ L.length ∧ L.length - k ≤ gk ∧ i = .int .i64 k ∧ Hid (Below W.heap.size W wx ∧ Has wx W.heap.size 24 #[.slice A0 l.length cap0, .int .i64 V, .int .i64 F] ∧ Has wx g9 4 (bls (sayL l.length (balN t L k)))) ∧ Hid (stB V t L k = none))
        case atStart => exact ⟨0, Nat.zero_le _, Nat.le_refl _, rfl, ⟨HB2.out.1, HB2.out.2.1, by show Has _ _ _ (bls (sayL l.length 0)); rw [sayL_zero]; exact HB2.out.2.2.1⟩, by show _ = _; rfl⟩
        case round =>
          obtain ⟨k, hk, hgk, rfl, HX, HS⟩ := hrel
          by_cases hlt : k < L.length
          · have hlt' : (k : Int) < L.length := by omega
            obtain ⟨g, o, hA, hg, d0, d1, d2⟩ := (HR.out.2.below HX.out.1) k hlt
            have hgs := good_s (L := L) (n := l.length) hlt (HG.out k hlt)
            have hbn := balN_next (t := t) hlt
            obtain ⟨rm, hrm⟩ : ∃ rm, rm = L[k].m := ⟨_, rfl⟩
            obtain ⟨rs, hrs⟩ : ∃ rs, rs = L[k].s := ⟨_, rfl⟩
            obtain ⟨rv, hrv⟩ : ∃ rv, rv = L[k].v := ⟨_, rfl⟩
            rw [← hrs] at hgs
            rw [← hrs, ← hrv] at hbn
            rw [← hrm] at d0
            rw [← hrs] at d1
            rw [← hrv] at d2
            obtain ⟨ns, hns⟩ := Int.eq_ofNat_of_zero_le hgs.1
            subst hns
            rw [Int.toNat_natCast] at hbn
            have hns1 : ns < l.length := by omega
            have hns2 : (ns : Int) < l.length := by omega
            obtain ⟨ob, hob⟩ : ∃ ob, wr.cell? ⟨g9, ns, none⟩ = some (.bool ob) := ⟨_, bls_get HX.out.2.2 ns (by rw [sayL_len]; exact hns1)⟩
            have hf9 : wr.frozen? ⟨g9, ns, none⟩ = false := HX.out.2.2.frozen ns
            subst hA
            have HH := Lib.hid (And.intro hrm (And.intro hbn hns1))
            have HRS := Lib.hid hrs
            clear hrm hbn hrs hrv hgs
            go_wp2_with fail
            refine still_tail 14 (by kernel_rfl) (by kernel_rfl) ?_
            simp only [List.take_succ_cons, List.take_zero, List.drop_succ_cons, List.drop_zero]
            repeat still_step
            refine wpStill_nil ?_
            go_wp2_with fail
            have HK : Hid (Below W.heap.size W (wr.setCell ⟨g9, ns, none⟩ (.bool (decide (t ≤ rv)))).drew ∧ Has (wr.setCell ⟨g9, ns, none⟩ (.bool (decide (t ≤ rv)))).drew W.heap.size 24 #[.slice A0 l.length cap0, .int .i64 V, .int .i64 F] ∧ Has (wr.setCell ⟨g9, ns, none⟩ (.bool (decide (t ≤ rv)))).drew g9 4 (bls (sayL l.length (balN t L (k + 1))))) := by
              refine ⟨below_dr' (HX.out.1.setCell (by have := HB2.out.2.2.2; simp only; omega) _), (HX.out.2.1.far (by have := HB2.out.2.2.2; simp only; omega) _).drew, ?_⟩
              have h := (HX.out.2.2.set ns (.bool (decide (t ≤ rv)))).drew
              rw [bls_set, sayL_set (by have := HN12.out; omega) HH.out.2.2, ← HH.out.2.1] at h
              exact h
            have hbl := balN_lt2 (t := t) (n := l.length) HN12.out (k + 1) (by omega) (fun j hj => HG.out j (by omega))
            have hcnt := sayL_12 HN12.out hbl
            have HY := Lib.hid (fun w (h : Has w g9 4 (bls (sayL l.length (balN t L (k + 1))))) => yeses_at g9 l.length _ w h HN12.out hcnt)
            have hst := stB_next V t L k
            rw [HS.out] at hst
            obtain ⟨c, hc⟩ : ∃ c, c = cntB (balN t L (k + 1)) 12 := ⟨_, rfl⟩
            rw [← hc] at HY hst
            rw [show L[k]? = some L[k] from List.getElem?_eq_getElem hlt] at hst
            generalize (wr.setCell ⟨g9, ns, none⟩ (.bool (decide (t ≤ rv)))).drew = w6 at HK ⊢
            have HYQ := Lib.hid (fun n => HY.out (w6.drewN n) HK.out.2.2)
            have hk1 := HK.out.2.1.cell 1
            have v1 : w6.cell? ⟨W.heap.size, 1, none⟩ = some (.int .i64 V) := hk1
            obtain ⟨g', o', hA', -, e0, -, -⟩ := (HR.out.2.below HK.out.1) k hlt
            obtain ⟨rfl, rfl⟩ : g = g' ∧ o = o' := by injection hA' with h; injection h with h1 h2; exact ⟨h1, h2⟩
            rw [← HH.out.1] at e0
            have hw1 : IntKind.i64.wrap ((L.length : Int) - 1) = (L.length : Int) - 1 := by rw [IntKind.wrap_i64]; omega
            have hgs : g < w6.heap.size := by have := HK.out.1.size; omega
            have HC2 := Lib.hid (And.intro hbl (And.intro hcnt hc))
            clear hbl hcnt hc hk1 hA' hf9 hob d0 d1 d2
            by_cases hend : k + 1 = L.length
            · have hq : ((k : Int) == (L.length : Int) - 1) = true := by rw [beq_iff_eq]; omega
              have hlb : lastB L k = true := by
                unfold lastB
                rw [hend, List.getElem?_eq_none (Nat.le_refl _), List.getElem?_eq_getElem hlt]; simp
              rw [hlb] at hst
              by_cases hv : V ≤ (c : Int)
              · have HF := Lib.hid (show lisR V t l.length L = (rm, 0) from lisR_hit (k := k + 1) (by omega) HG.out (by rw [hst, HH.out.1]; simp [hv]))
                clear hst hlb
                go_quiet (fail)
                go_wp2_with fail
                go_quiet ((go_at_call 39; exact (HYQ.out _).mono fun _ _ h => ⟨h.1, _, h.2⟩))
                go_wp2_with fail
                refine bodyPost_ret (results_tmp2 rfl _ _ _) rfl ?_
                exact ⟨by rw [HN.out, HF.out]; rfl, below_dn HK.out.1⟩
              · have HF := Lib.hid (show stB V t L (k + 1) = none by rw [hst]; simp [hv])
                clear hst hlb
                go_quiet (fail)
                go_wp2_with fail
                go_quiet ((go_at_call 39; exact (HYQ.out _).mono fun _ _ h => ⟨h.1, _, h.2⟩))
                go_wp2_with fail
                go_roundg (L.length - (k + 1))
                case measure => omega
                case rel => exact ⟨k + 1, by omega, Nat.le_refl _, by go_num, ⟨below_dn HK.out.1, HK.out.2.1, HK.out.2.2⟩, HF.out⟩
            · have hlt2 : k + 1 < L.length := by omega
              have hlt2' : (k : Int) + 1 < L.length := by omega
              have hq : ((k : Int) == (L.length : Int) - 1) = false := by rw [beq_eq_false_iff_ne]; omega
              have hq2 : ¬ (k : Int) = (L.length : Int) - 1 := by omega
              obtain ⟨g', o', hA', -, n0, -, -⟩ := (HR.out.2.below HK.out.1) (k + 1) hlt2
              obtain ⟨rfl, rfl⟩ : g = g' ∧ o = o' := by injection hA' with h; injection h with h1 h2; exact ⟨h1, h2⟩
              have hlb : lastB L k = decide (L[k + 1].m ≠ rm) := by
                unfold lastB
                rw [List.getElem?_eq_getElem hlt2, List.getElem?_eq_getElem hlt, HH.out.1]; simp
              obtain ⟨nm, hnm⟩ : ∃ nm, nm = L[k + 1].m := ⟨_, rfl⟩
              rw [← hnm] at n0 hlb
              have HNM := Lib.hid hnm
              clear hA' hnm
              by_cases hm : nm = rm
              · have HF := Lib.hid (show stB V t L (k + 1) = none by rw [hst, hlb]; simp [hm])
                have hmq : (nm == rm) = true := by rw [beq_iff_eq]; exact hm
                clear hst hlb
                go_quiet (fail)
                go_wp2_with fail
                go_quiet (fail)
                go_wp2_with fail
                go_roundg (L.length - (k + 1))
                case measure => omega
                case rel => exact ⟨k + 1, by omega, Nat.le_refl _, by go_num, ⟨below_dn HK.out.1, HK.out.2.1, HK.out.2.2⟩, HF.out⟩
              · rw [show lastB L k = true by rw [hlb]; simp [hm]] at hst
                have hmq : (nm == rm) = false := by rw [beq_eq_false_iff_ne]; exact hm
                clear hlb
                by_cases hv : V ≤ (c : Int)
                · have HF := Lib.hid (show lisR V t l.length L = (rm, 0) from lisR_hit (k := k + 1) (by omega) HG.out (by rw [hst, HH.out.1]; simp [hv]))
                  clear hst
                  go_quiet (fail)
                  go_wp2_with fail
                  go_quiet ((go_at_call 39; exact (HYQ.out _).mono fun _ _ h => ⟨h.1, _, h.2⟩))
                  go_wp2_with fail
                  refine bodyPost_ret (results_tmp2 rfl _ _ _) rfl ?_
                  exact ⟨by rw [HN.out, HF.out]; rfl, below_dn HK.out.1⟩
                · have HF := Lib.hid (show stB V t L (k + 1) = none by rw [hst]; simp [hv])
                  clear hst
                  go_quiet (fail)
                  go_wp2_with fail
                  go_quiet ((go_at_call 39; exact (HYQ.out _).mono fun _ _ h => ⟨h.1, _, h.2⟩))
                  go_wp2_with fail
                  go_roundg (L.length - (k + 1))
                  case measure => omega
                  case rel => exact ⟨k + 1, by omega, Nat.le_refl _, by go_num, ⟨below_dn HK.out.1, HK.out.2.1, HK.out.2.2⟩, HF.out⟩
          · have hlt' : ¬ (k : Int) < L.length := by omega
            have hkl : k = L.length := by omega
            subst hkl
            have HF := Lib.hid (show lisR V t l.length L = (0, 4) from lisR_none HG.out HS.out)
            go_wp2_with fail
            refine bodyPost_ret (results_tmp2 rfl _ _ _) rfl ?_
            exact ⟨by rw [HN.out, HF.out]; rfl, HX.out.1⟩
end Go.Proofs.Ytfdjoldcdfbfhaa
