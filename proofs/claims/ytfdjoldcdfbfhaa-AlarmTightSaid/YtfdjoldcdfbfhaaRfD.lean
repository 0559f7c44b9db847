/- The document's at, worst, Worst. -/
import Derived.Test.YtfdjoldcdfbfhaaRfC
import Derived.Test.YtfdjoldcdfbfhaaLate
namespace Go.Proofs.Ytfdjoldcdfbfhaa
open Go.Shelf Go.RowKit
/-- the numbers of the sensors that have read by then -/
def redN (t rise m : Int) (l : List Sn) : List Int := (l.filter (sureB m)).map (num t rise m)
theorem red_cnt {t rise m x : Int} (hx : x ≤ 1048576) (l : List Sn) : cnt x (redN t rise m l) = cnt x (nums t rise m l) := by
  unfold redN nums
  induction l with
  | nil => rfl
  | cons a l ih =>
    rw [List.map_cons, cnt_cons]
    by_cases h : sureB m a = true
    · rw [List.filter_cons_of_pos h, List.map_cons, cnt_cons, ih]
    · rw [List.filter_cons_of_neg h, ih, if_neg]
      · rfl
      · unfold sureB at h
        rw [decide_eq_true_eq] at h
        unfold num
        rw [if_pos (by omega)]; omega
theorem red_at {l : List Sn} {K : Nat} {t rise m : Int} (hK : 1 ≤ K) : atN l K t rise m = pick (srt (redN t rise m l)) K := by
  have h1 := atV_at (nums t rise m l) hK
  have h2 := pick_at (srt_sorted (redN t rise m l)) (srt_perm (redN t rise m l)) hK
  refine h1.uniq ⟨h2.1, fun x hx => ?_⟩
  rw [h2.2 x hx, red_cnt hx]
theorem redN_take (t rise m : Int) (l : List Sn) (k : Nat) (hk : k < l.length) : redN t rise m (l.take (k + 1)) = redN t rise m (l.take k) ++ (if sureB m l[k] = true then [num t rise m l[k]] else []) := by
  unfold redN
  rw [List.take_succ_eq_append_getElem hk, List.filter_append, List.map_append]
  congr 1
  by_cases h : sureB m l[k] = true
  · rw [if_pos h, List.filter_cons_of_pos h]; rfl
  · rw [if_neg h, List.filter_cons_of_neg h]; rfl
theorem redN_len (t rise m : Int) (l : List Sn) : (redN t rise m l).length ≤ l.length := by
  unfold redN; rw [List.length_map]; exact List.length_filter_le _ _
theorem undrew {w w' : World} (h : Below w.drew.heap.size w.drew w') : Below w.heap.size w w' := ⟨h.os, h.tape, h.output, h.size, h.block⟩
theorem own_step {w w' : World} {base n : Nat} {e : TypeId} {size : Nat} {v : Value} {xs : List Value} (h : w.ownsRow base e size v n xs) (hb : Below w.heap.size w w') : w'.ownsRow base e size v n xs :=
  h.kept (row := none) ⟨hb.os, hb.tape, hb.output, hb.size, fun k hk _ => hb.block k hk⟩ (Classical.em _)
set_option maxRecDepth 100000 in
set_option maxHeartbeats 4000000 in
theorem at_any (l : List Sn) (A : Option Addr) (cap : Nat) (V F t rise m : Int) (W : World) (hr : NRow W W.heap.size A l) (hv : VV l V F) (ht : 0 ≤ t ∧ t ≤ 4194304) (hri : 0 ≤ rise ∧ rise ≤ 1048576) (hm : 0 ≤ m ∧ m ≤ 2000) :
    Calls Try.prog 59 #[vtv A l.length cap V F, .int .i64 t, .int .i64 rise, .int .i64 m] W (fun e W' => ∃ n, IntPost n W e W' ∧ (atN l (V + F).toNat t rise m = if n ≤ 1048576 then n else 1048577) ∧ 0 ≤ n ∧ n ≤ 2200000000) := by
  obtain ⟨i0, hi, hz0, hz1, hz2⟩ := info_parts Try.info3
  have HR := Lib.hid hr
  have HS := Lib.hid (fun (s : Sn) (w : World) hs => refSure_any s t rise m w hs ht hri hm)
  have HV := Lib.hid (And.intro hv (And.intro ht (And.intro hri hm)))
  have hV := hv.hV; have hF := hv.hF; have h12 := hv.h12; have h1 := hv.h1
  have hh : Has (W.alloc (.cells #[.slice A l.length cap, .int .i64 V, .int .i64 F] 24)) W.heap.size 24 #[.slice A l.length cap, .int .i64 V, .int .i64 F] := Has.new W 24 _
  have hb0 := below_one W (.cells #[.slice A l.length cap, .int .i64 V, .int .i64 F] 24)
  clear hr hv ht hri hm
  unfold vtv
  go_enter Try.func59, Try.ntmps59
  go_wp2_with fail
  generalize W.alloc (.cells #[.slice A l.length cap, .int .i64 V, .int .i64 F] 24) = w0 at hh hb0 ⊢
  have HB := Lib.hid (And.intro hb0 hh)
  have hw0 : W.heap.size < w0.heap.size := hh.lt
  clear hb0 hh
  go_loopg [9, 10] l.length (fun gk v i wr => ∃ (k : Nat) (n : Nat), k ≤ l.length ∧ l.length - k ≤ gk ∧ i = .int .i64 k ∧ n ≤ k ∧ Hid (Below w0.heap.size w0 wr) ∧ Hid (wr.ownsRow w0.heap.size 3 1 v n (ili (redN t rise m (l.take k))) ∧ n = (redN t rise m (l.take k)).length))
  case atStart => exact ⟨0, 0, Nat.zero_le _, Nat.le_refl _, rfl, Nat.le_refl _, Below.refl _ _, World.ownsRow_nil w0 w0.heap.size 3 1, rfl⟩
  case round =>
    obtain ⟨k, n, hk, hgk, rfl, hnk, HW, HO⟩ := hrel
    have hbW : Below W.heap.size W wr := HB.out.1.trans (HW.out.mono HB.out.1.size)
    have hH := HB.out.2.below HW.out HB.out.2.lt
    have v0 : wr.cell? ⟨W.heap.size, 0, none⟩ = some (.slice A l.length cap) := hH.cell 0
    have v1 : wr.cell? ⟨W.heap.size, 1, none⟩ = some (.int .i64 V) := hH.cell 1
    have v2 : wr.cell? ⟨W.heap.size, 2, none⟩ = some (.int .i64 F) := hH.cell 2
    obtain ⟨Av, cv, hva, hcv, hrv⟩ := own_irow HO.out.1 HO.out.2
    subst hva
    have hnl := HO.out.2
    have HRV := Lib.hid (And.intro hcv hrv)
    clear hcv hrv
    rw [← hnl]
    rw [← hnl] at HO HRV
    have HNL := Lib.hid hnl
    clear hnl
    by_cases hlt : k < l.length
    · have hlt' : (k : Int) < l.length := by omega
      obtain ⟨g, o, rfl, hg, d0, d1, d2⟩ := (HR.out.below hbW) k hlt
      have hg' : g < wr.heap.size := by have := hbW.size; omega
      have hred := redN_take t rise m l k hlt
      have hvs : vS l[k] := HV.out.1.hL _ (List.getElem_mem hlt)
      obtain ⟨s, hs⟩ : ∃ s, s = l[k] := ⟨_, rfl⟩
      rw [← hs] at d0 d1 d2 hred hvs
      have hcal := fun w => HS.out s w hvs
      obtain ⟨x, hx⟩ : ∃ x, x = sureN t rise m s := ⟨_, rfl⟩
      rw [← hx] at hcal
      cases hsb : sureB m s <;> rw [hsb] at hcal
      · rw [if_neg (by rw [hsb]; simp), List.append_nil] at hred
        have HRd := Lib.hid hred
        have HC := Lib.hid hcal
        unfold snv at HC
        clear hred hcal hs hx hvs hbW hH v1 v2 hsb
        go_wp2_with fail
        refine (HC.out _).mono ?_
        rintro e w3 ⟨rfl, hb3⟩
        have H3 := Lib.hid hb3
        have hs3 := hb3.size
        clear hb3
        go_wp2_with fail
        go_roundg (l.length - (k + 1))
        case measure => omega
        case rel =>
          refine ⟨k + 1, n, by omega, Nat.le_refl _, by go_num, by omega, HW.out.trans (H3.out.mono HW.out.size), ?_, by rw [HRd.out]; exact HNL.out⟩
          rw [HRd.out]
          exact own_step HO.out.1 H3.out
      · rw [if_pos hsb] at hred
        have hxn : x = num t rise m s := by
          rw [hx]; unfold sureN
          unfold sureB at hsb
          rw [decide_eq_true_eq] at hsb
          rw [if_neg (by omega)]
        rw [← hxn] at hred
        have HRd := Lib.hid hred
        have HC := Lib.hid hcal
        unfold snv at HC
        clear hred hcal hs hx hvs hbW hH v1 v2 hsb hxn
        go_wp2_with fail
        refine (HC.out _).mono ?_
        rintro e w3 ⟨rfl, hb3⟩
        have HO3 := Lib.hid (own_step (own_step HO.out.1 hb3) (below_one w3 (.cells #[.int .i64 x] 3)))
        have H3 := Lib.hid hb3
        have hs3 := hb3.size
        have hsW := HW.out.size
        clear hb3
        go_wp2_with (at_builtin; refine wpList_append_row rfl _ _ 52 rfl w0.heap.size 3 i0 (.int .i64 0) 1 8 Try.underlying52 hi hz0 hz1 hz2 rfl (by decide) (.slice Av n cv) n (ili (redN t rise m (l.take k))) rfl HO3.out (some ⟨w3.heap.size, 0, none⟩) 1 1 (ili [x]) rfl (fun h => by cases h) rfl (fun ad had => by cases had; exact World.news_of_block (cs := #[.int .i64 x]) (Has.new w3 3 #[.int .i64 x])) (ili_one _) ?q1 ?q2 ?q3 ?_)
        case q1 => unfold maxLen; omega
        case q2 => omega
        case q3 => simp only [World.size_alloc]; omega
        intro v5 w5 hown5 hgrow5
        have hb5 : Below w0.heap.size w0 w5 := ((HW.out.trans (H3.out.mono hsW)).trans ((below_one w3 (.cells #[.int .i64 x] 3)).mono (by omega))).trans (grown_below hgrow5 (by simp only [World.size_alloc]; omega) (fun q hq => (HO3.out.lt q hq).1))
        have hown : w5.ownsRow w0.heap.size 3 1 v5 (n + 1) (ili (redN t rise m (l.take (k + 1)))) := by
          rw [HRd.out]
          have : ili (redN t rise m (l.take k) ++ [x]) = ili (redN t rise m (l.take k)) ++ ili [x] := by simp [ili]
          rw [this]; exact hown5
        have H5 := Lib.hid (And.intro hb5 hown)
        clear hb5 hown hown5 hgrow5
        go_wp2_with fail
        go_roundg (l.length - (k + 1))
        case measure => omega
        case rel => exact ⟨k + 1, n + 1, by omega, Nat.le_refl _, by go_num, by omega, H5.out.1, H5.out.2, by rw [HRd.out, List.length_append, ← HNL.out]; rfl⟩
    · have hlt' : ¬ (k : Int) < l.length := by omega
      have htk : l.take k = l := List.take_of_length_le (by omega)
      rw [htk] at HRV HNL
      have HBW := Lib.hid hbW
      have hn12 : n ≤ 12 := by omega
      by_cases hK : (n : Int) < V + F
      · have HA := Lib.hid (show atN l (V + F).toNat t rise m = 1048577 by
          rw [red_at (by omega), pick_short]
          rw [(srt_perm _).length_eq, ← HNL.out]; omega)
        clear hbW hH htk
        go_wp2_with fail
        go_ret
        exact ⟨1048577, ⟨rfl, HBW.out⟩, by rw [HA.out]; rfl, by omega, by omega⟩
      · have HSo := Lib.hid (show Calls Try.prog 67 #[.slice Av n cv] wr.drew (SortedPost (redN t rise m l) wr.drew) from by
          have h := sorted_any (redN t rise m l) Av cv wr.drew (by rw [HNL.out] at HRV; exact (show IRow wr.drew wr.drew.heap.size Av (redN t rise m l) from HRV.out.2)) (by have := HNL.out; omega)
          rwa [← HNL.out] at h)
        have HHd := Lib.hid hH
        clear hbW hH htk
        have p0 : 0 ≤ V + F - 1 := by omega
        have p00 : 1 ≤ V + F := by omega
        have hwr1 : IntKind.i64.wrap (V + F) = V + F := by rw [IntKind.wrap_i64]; omega
        have hwr2 : IntKind.i64.wrap (V + F - 1) = V + F - 1 := by rw [IntKind.wrap_i64]; omega
        go_wp2_with fail
        have hS0 : (wr.drew).cell? ⟨W.heap.size, 1, none⟩ = some (.int .i64 V) ∧ (wr.drew).cell? ⟨W.heap.size, 2, none⟩ = some (.int .i64 F) := ⟨v1, v2⟩
        refine wp_region_late (fun w' : World => w'.cell? ⟨W.heap.size, 1, none⟩ = some (.int .i64 V) ∧ w'.cell? ⟨W.heap.size, 2, none⟩ = some (.int .i64 F)) [] (by kernel_rfl) ?_
        refine wpLate_take (i := 0) (oi := ?oi0) (v := ?v0) [1, 8, 9, 10] ?hi0 (by kernel_rfl) (by kernel_rfl) (by kernel_rfl) (by kernel_rfl) (by kernel_rfl) ?hQ0 (Or.inl ⟨?hw0, ?hy0⟩) hS0 ?rest0
        case hi0 => (simp only [List.getElem?_toArray, List.getElem?_cons_zero]; rfl)
        case hQ0 => exact fun _ _ _ h => h
        case hw0 => rfl
        case hy0 =>
          intro w' hSw
          obtain ⟨r0, r1⟩ := hSw
          go_simp
          try exact rfl
        simp only [Act.put, List.setIfInBounds_toArray, List.set_cons_zero, List.set_cons_succ]
        refine wpLate_take (i := 2) (oi := ?oi2) (v := ?v2) [3, 6, 7, 8, 9, 10] ?hi2 (by kernel_rfl) (by kernel_rfl) (by kernel_rfl) (by kernel_rfl) (by kernel_rfl) ?hQ2 (Or.inl ⟨?hw2, ?hy2⟩) hS0 ?rest2
        case hi2 => (simp only [List.getElem?_toArray, List.getElem?_cons_zero, List.getElem?_cons_succ]; rfl)
        case hQ2 => exact fun _ _ _ h => h
        case hw2 => rfl
        case hy2 =>
          intro w' hSw
          obtain ⟨r0, r1⟩ := hSw
          go_simp
          try exact rfl
        simp only [Act.put, List.setIfInBounds_toArray, List.set_cons_zero, List.set_cons_succ]
        refine wpLate_take (i := 3) (oi := ?oi3) (v := ?v3) [6, 7, 8, 9, 10] ?hi3 (by kernel_rfl) (by kernel_rfl) (by kernel_rfl) (by kernel_rfl) (by kernel_rfl) ?hQ3 (Or.inl ⟨?hw3, ?hy3⟩) hS0 ?rest3
        case hi3 => (simp only [List.getElem?_toArray, List.getElem?_cons_zero, List.getElem?_cons_succ]; rfl)
        case hQ3 => exact fun _ _ _ h => h
        case hw3 => rfl
        case hy3 =>
          intro w' hSw
          obtain ⟨r0, r1⟩ := hSw
          go_simp
          try exact rfl
        simp only [Act.put, List.setIfInBounds_toArray, List.set_cons_zero, List.set_cons_succ]
        refine wpLate_take (i := 4) (oi := ?oi4) (v := ?v4) [5, 6, 7, 8, 9, 10] ?hi4 (by kernel_rfl) (by kernel_rfl) (by kernel_rfl) (by kernel_rfl) (by kernel_rfl) ?hQ4 (Or.inl ⟨?hw4, ?hy4⟩) hS0 ?rest4
        case hi4 => (simp only [List.getElem?_toArray, List.getElem?_cons_zero, List.getElem?_cons_succ]; rfl)
        case hQ4 => exact fun _ _ _ h => h
        case hw4 => rfl
        case hy4 =>
          intro w' hSw
          obtain ⟨r0, r1⟩ := hSw
          go_simp
          try exact rfl
        simp only [Act.put, List.setIfInBounds_toArray, List.set_cons_zero, List.set_cons_succ]
        refine wpLate_take (i := 5) (oi := ?oi5) (v := ?v5) [6, 7, 8, 9, 10] ?hi5 (by kernel_rfl) (by kernel_rfl) (by kernel_rfl) (by kernel_rfl) (by kernel_rfl) ?hQ5 (Or.inl ⟨?hw5, ?hy5⟩) hS0 ?rest5
        case hi5 => (simp only [List.getElem?_toArray, List.getElem?_cons_zero, List.getElem?_cons_succ]; rfl)
        case hQ5 => exact fun _ _ _ h => h
        case hw5 => rfl
        case hy5 =>
          intro w' hSw
          obtain ⟨r0, r1⟩ := hSw
          go_simp
          try exact rfl
        simp only [Act.put, List.setIfInBounds_toArray, List.set_cons_zero, List.set_cons_succ]
        refine wpLate_take (i := 6) (oi := ?oi6) (v := ?v6) [7, 8, 9, 10] ?hi6 (by kernel_rfl) (by kernel_rfl) (by kernel_rfl) (by kernel_rfl) (by kernel_rfl) ?hQ6 (Or.inl ⟨?hw6, ?hy6⟩) hS0 ?rest6
        case hi6 => (simp only [List.getElem?_toArray, List.getElem?_cons_zero, List.getElem?_cons_succ]; rfl)
        case hQ6 => exact fun _ _ _ h => h
        case hw6 => rfl
        case hy6 =>
          intro w' hSw
          obtain ⟨r0, r1⟩ := hSw
          go_simp
          try exact rfl
        simp only [Act.put, List.setIfInBounds_toArray, List.set_cons_zero, List.set_cons_succ]
        refine wpLate_take (i := 7) (oi := ?oi7) (v := ?v7) [8, 9, 10] ?hi7 (by kernel_rfl) (by kernel_rfl) (by kernel_rfl) (by kernel_rfl) (by kernel_rfl) ?hQ7 (Or.inl ⟨?hw7, ?hy7⟩) hS0 ?rest7
        case hi7 => (simp only [List.getElem?_toArray, List.getElem?_cons_zero, List.getElem?_cons_succ]; rfl)
        case hQ7 => exact fun _ _ _ h => h
        case hw7 => rfl
        case hy7 =>
          intro w' hSw
          obtain ⟨r0, r1⟩ := hSw
          go_simp
          try exact rfl
        simp only [Act.put, List.setIfInBounds_toArray, List.set_cons_zero, List.set_cons_succ]
        refine wpLate_one (i := 1) (o := ?o1) (by kernel_rfl) ?ho1 ?hk1
        case ho1 => (simp only [List.getElem?_toArray, List.getElem?_cons_zero, List.getElem?_cons_succ]; rfl)
        intro K hK
        go_simp
        refine HSo.out.mono ?_
        rintro r w5 ⟨A5, cap5, ys, rfl, hb5, hr5, hp5, hs5⟩
        have hyl : ys.length = n := by have := hp5.length_eq; have := HNL.out; omega
        have hyi : (V + F).toNat - 1 < ys.length := by omega
        obtain ⟨g5, o5, rfl, hg5, c5⟩ := hr5 _ hyi
        have p1 : V + F - 1 < ys.length := by omega
        have z1 : w5.cell? ⟨W.heap.size, 1, none⟩ = some (.int .i64 V) := (HHd.out.below (w' := w5) (undrew hb5) HHd.out.lt).cell 1
        have z2 : w5.cell? ⟨W.heap.size, 2, none⟩ = some (.int .i64 F) := (HHd.out.below (w' := w5) (undrew hb5) HHd.out.lt).cell 2
        have H5 := Lib.hid (And.intro hb5 (And.intro hp5 (And.intro hs5 (And.intro hyl hyi))))
        clear hb5 hp5 hs5 hyl
        try (go_wp2_with fail)
        refine hK.out _ _ (fun _ => ⟨z1, z2⟩) ?_
        clear hK K
        try simp only [Act.put, List.setIfInBounds_toArray, List.set_cons_zero, List.set_cons_succ]
        refine wpLate_one (i := 8) (o := ?o8) (by kernel_rfl) ?ho8 ?hk8
        case ho8 => (simp only [List.getElem?_toArray, List.getElem?_cons_zero, List.getElem?_cons_succ]; rfl)
        intro K hK
        go_simp
        refine hK.out _ _ (fun _ => ⟨z1, z2⟩) ?_
        clear hK K
        try simp only [Act.put, List.setIfInBounds_toArray, List.set_cons_zero, List.set_cons_succ]
        refine wpLate_one (i := 9) (o := ?o9) (by kernel_rfl) ?ho9 ?hk9
        case ho9 => (simp only [List.getElem?_toArray, List.getElem?_cons_zero, List.getElem?_cons_succ]; rfl)
        intro K hK
        go_simp
        refine hK.out _ _ (fun _ => ⟨z1, z2⟩) ?_
        clear hK K
        try simp only [Act.put, List.setIfInBounds_toArray, List.set_cons_zero, List.set_cons_succ]
        refine wpLate_one (i := 10) (o := ?o10) (by kernel_rfl) ?ho10 ?hk10
        case ho10 => (simp only [List.getElem?_toArray, List.getElem?_cons_zero, List.getElem?_cons_succ]; rfl)
        intro K hK
        go_simp
        refine hK.out _ _ (fun _ => ⟨z1, z2⟩) ?_
        clear hK K
        try simp only [Act.put, List.setIfInBounds_toArray, List.set_cons_zero, List.set_cons_succ]
        refine wpLate_done (by kernel_rfl) ?_ _
        try simp only [Act.put, List.setIfInBounds_toArray, List.set_cons_zero, List.set_cons_succ]
        go_wp2
        go_ret
        all_goals
          have hpk : pick ys (V + F).toNat = atN l (V + F).toNat t rise m := by
            rw [red_at (by omega)]
            exact (pick_at H5.out.2.2.1 H5.out.2.1 (by omega)).uniq (pick_at (srt_sorted _) (srt_perm _) (by omega))
          have hyi := H5.out.2.2.2.2
          refine ⟨ys[(V + F).toNat - 1], ⟨rfl, HBW.out.trans ((undrew H5.out.1).mono HBW.out.size)⟩, ?_, ?_⟩
          · rw [← hpk]
            unfold pick
            rw [List.getElem?_eq_getElem hyi]
          · have hmem := H5.out.2.1.mem_iff.1 (List.getElem_mem hyi)
            obtain ⟨s, hs, e⟩ := List.mem_map.1 hmem
            have hs' := HV.out.1.hL s (List.mem_filter.1 hs).1
            have := num_bd (m := m) hs' HV.out.2.2.1.1 HV.out.2.1.1 HV.out.2.2.2.2 HV.out.2.2.1.2
            have := HV.out.2.1.2
            omega
end Go.Proofs.Ytfdjoldcdfbfhaa
