/- The law of the order. -/
import Derived.Test.YtmclchaalmonnaaOrD
import Derived.Test.YtmclchaalmonnaaLwV
namespace Go.Proofs.Ytmclchaalmonnaa
open Go.RowKit Go.Lib
attribute [local irreducible] wpQuiet
theorem same_err (r : Ru) (s : Sk) : (progR r s).2 = (valsR r s).2 := by
  rw [progR_ct, valsR_ct]
  split <;> rfl
/-- what the score of a valid skating is made of -/
theorem prog_made {r : Ru} {s : Sk} (h : (progR r s).2 = 0) : ((valsR r s).1).length = s.calls.length ∧ ((valsR r s).1).sum = (progR r s).1.elements ∧ (progR r s).1.total = max 0 ((progR r s).1.elements + (progR r s).1.parts - (progR r s).1.off)
    ∧ (-48000000 ≤ (progR r s).1.elements ∧ (progR r s).1.elements ≤ 48000000) ∧ (-5000000 ≤ (progR r s).1.parts ∧ (progR r s).1.parts ≤ 5000000) ∧ (-1000000 ≤ (progR r s).1.off ∧ (progR r s).1.off ≤ 1000000) ∧ s.calls.length ≤ 16 := by
  have hc : contestB r [s] = true := by
    rw [progR_ct] at h
    by_cases hc : contestB r [s] = true
    · exact hc
    · rw [if_neg hc] at h; exact absurd h (by decide)
  obtain ⟨h1, h2⟩ := vals_sum r s hc
  obtain ⟨hvr, hvs'⟩ := contest_ok hc
  have hvs := hvs' s List.mem_cons_self
  have e := progR_one hc
  rw [e] at h2 ⊢
  refine ⟨h1, h2, ?_, ?_, ?_, ?_, hvs.nc⟩
  · exact Int.max_comm _ _
  · have hb := sum_take_bd (vals_bd hvr hvs) (valsP r s).length (Nat.le_refl _)
    rw [List.take_length] at hb
    have : (valsP r s).length ≤ 16 := by simp [valsP]; exact hvs.nc
    show -48000000 ≤ (valsP r s).sum ∧ (valsP r s).sum ≤ 48000000
    omega
  · have hb := sum_take_bd (parts_bd hvr hvs) (s.parts.map (partP r.factor)).length (Nat.le_refl _)
    rw [List.take_length] at hb
    have : (s.parts.map (partP r.factor)).length ≤ 5 := by simp; exact hvs.np
    show -5000000 ≤ (s.parts.map (partP r.factor)).sum ∧ (s.parts.map (partP r.factor)).sum ≤ 5000000
    omega
  · have ho := hvs.o
    have hf : fallsP s.calls ≤ 16 := Nat.le_trans List.countP_le_length hvs.nc
    show -1000000 ≤ offP s ∧ offP s ≤ 1000000
    unfold offP
    omega
theorem vals_rng (r : Ru) (s : Sk) : ∀ x ∈ (valsR r s).1, -3000000 ≤ x ∧ x ≤ 3000000 := by
  rw [valsR_ct]
  by_cases hc : contestB r [s] = true
  · rw [if_pos hc]
    obtain ⟨hvr, hvs⟩ := contest_ok hc
    exact vals_bd hvr (hvs s List.mem_cons_self)
  · rw [if_neg hc]
    intro x hx
    cases hx
set_option maxRecDepth 100000 in
set_option maxHeartbeats 4000000 in
theorem orderLaw_any (r : Ru) (A : Option Addr) (c : Nat) (s : Sk) (AC AP : Option Addr) (cc cp : Nat) (n2 n3 : Int) (back : Bool) (W : World) (hr : RuR W W.heap.size r A) (hs : SkR W W.heap.size s AC AP) (hn2 : 0 ≤ n2 ∧ n2 ≤ 255) (hn3 : 0 ≤ n3 ∧ n3 ≤ 255) :
    Calls Try.prog 6 #[ruv r A c, skv s AC AP cc cp, .int .u8 n2, .int .u8 n3, .bool back] W (BoolPost true W) := by
  obtain ⟨i0, hi, hz0, hz1, hz2⟩ := info_parts Try.info52
  obtain ⟨j0, hji, hy0, hy1, hy2⟩ := info_parts Try.info22
  obtain ⟨n0, hni, hw0, hw1, hw2⟩ := info_parts Try.info3
  obtain ⟨t, rfl⟩ : ∃ t : Nat, n2 = (t : Int) := ⟨n2.toNat, by omega⟩
  obtain ⟨tj, rfl⟩ : ∃ t : Nat, n3 = (t : Int) := ⟨n3.toNat, by omega⟩
  have ht : t ≤ 255 := by omega
  have htj : tj ≤ 255 := by omega
  have HB : Hid (VL W ((W.alloc (.cells (ruc r A c) 24)).alloc (.cells (skc s AC AP cc cp) 28)) r A c s AC AP cc cp) := Lib.hid ⟨(below_one W _).alloc (by simp) _, (Has.new _ _ _).alloc _, has_newAt (by simp)⟩
  have HRS := Lib.hid (And.intro hr hs)
  have HG := Lib.hid (fun w (h : Below W.heap.size W w) g (hg : Has w g 28 (skc s AC AP cc cp)) => great_any [s] (some ⟨g, 0, none⟩) 1 1 w (by omega) (srow_one hg hg.lt ((hs.below h).more h.size)) (by simp [big]))
  have HAw := Lib.hid (fun w => alive_any w)
  have HP := Lib.hid (fun (s' : Sk) AC AP cc cp w (h : Below W.heap.size W w) (hs : SkR w w.heap.size s' AC AP) => Program_any r A c s' AC AP cc cp w ((hr.below h).more h.size) hs)
  have HV := Lib.hid (fun (s' : Sk) AC AP cc cp w (h : Below W.heap.size W w) (hs : SkR w w.heap.size s' AC AP) => (Values_any r A c s' AC AP cc cp w ((hr.below h).more h.size) hs).mono fun _ _ h => rip_ri2 h)
  have HP0 := Lib.hid (fun w (h : Below W.heap.size W w) => HP.out s AC AP cc cp w h ((hs.below h).more h.size))
  have HV0 := Lib.hid (fun w (h : Below W.heap.size W w) => HV.out s AC AP cc cp w h ((hs.below h).more h.size))
  have HSM : Hid (greatB [s] 1 = false → s.calls.length ≤ 24 ∧ s.parts.length ≤ 12 ∧ (∀ c ∈ s.calls, c.marks.length ≤ 20) ∧ ∀ m ∈ s.parts, m.length ≤ 20) := Lib.hid fun h => by
    have h2 := (not_great h).2 s List.mem_cons_self
    exact ⟨h2.c, h2.p, h2.m, h2.q⟩
  have hrl := hr.l
  unfold big at hrl
  generalize greatB [s] 1 = G at HG HSM
  obtain ⟨T, hT⟩ : ∃ T, T = otherS s t tj back := ⟨_, rfl⟩
  have hTc : T.calls = (List.range s.calls.length).map (callO s t tj back) := by rw [hT]; rfl
  have hTp : T.parts = (List.range s.parts.length).map (partO s t tj) := by rw [hT]; rfl
  have hTo : T.over = s.over := by rw [hT]; rfl
  have hTl : T.calls.length = s.calls.length ∧ T.parts.length = s.parts.length := by rw [hTc, hTp]; simp
  have HT := Lib.hid (And.intro hTc (And.intro hTp (And.intro hTo hTl)))
  have HPT := Lib.hid (fun AC AP cc cp w h hs => by have h9 := HP.out T AC AP cc cp w h hs; rw [(congrArg (progR r) hT).trans (other_prog r s t tj back)] at h9; exact h9)
  have HVT := Lib.hid (fun AC AP cc cp w h hs => by have h9 := HV.out T AC AP cc cp w h hs; rw [(congrArg (valsR r) hT).trans (other_vals r s t tj back)] at h9; exact h9)
  have hse := same_err r s
  have HMD := Lib.hid (prog_made (r := r) (s := s))
  have HRG := Lib.hid (vals_rng r s)
  have hvl0 := vals_len r s
  obtain ⟨X, hX⟩ : ∃ X, X = progR r s := ⟨_, rfl⟩
  obtain ⟨Y, hY⟩ : ∃ X, X = valsR r s := ⟨_, rfl⟩
  rw [← hX] at HP0 HPT hse HMD
  rw [← hY] at HV0 HVT hse HMD HRG hvl0
  obtain ⟨x, xe⟩ := X
  obtain ⟨vl, ye⟩ := Y
  obtain rfl : xe = ye := hse
  unfold BoolPost at HG HAw
  unfold SEPost at HP0 HPT
  unfold RI2 at HV0 HVT
  unfold skv skc at HPT HVT
  rw [hTl.1, hTl.2, hTo] at HPT HVT
  dsimp only [List.length_cons, List.length_nil] at HG HP0 HPT HV0 HVT HMD HRG hvl0
  unfold scv at HP0 HPT
  clear hr hs hX hY hn2 hn3 hT hTc hTp hTo hTl HP HV
  unfold ruv skv at *
  go_enter Try.func6, Try.ntmps6
  go_upto_region 1 with fail
  generalize (W.alloc (.cells (ruc r A c) 24)).alloc (.cells (skc s AC AP cc cp) 28) = w0 at HB ⊢
  have x0 : w0.cell? ⟨W.heap.size, 0, none⟩ = some (.slice A r.bases.length c) := HB.out.fr.cell 0
  have x1 : w0.cell? ⟨W.heap.size, 1, none⟩ = some (.int .i64 r.factor) := HB.out.fr.cell 1
  have x2 : w0.cell? ⟨W.heap.size, 2, none⟩ = some (.int .i64 r.most) := HB.out.fr.cell 2
  have y0 : w0.cell? ⟨W.heap.size + 1, 0, none⟩ = some (.slice AC s.calls.length cc) := HB.out.fs.cell 0
  have y1 : w0.cell? ⟨W.heap.size + 1, 1, none⟩ = some (.slice AP s.parts.length cp) := HB.out.fs.cell 1
  have y2 : w0.cell? ⟨W.heap.size + 1, 2, none⟩ = some (.int .i64 s.over) := HB.out.fs.cell 2
  by_cases h80 : (80 : Int) < r.bases.length
  · go_wp2_with fail
    refine (HAw.out _).mono ?_
    rintro e w1 ⟨rfl, hb1⟩
    have H1 := Lib.hid (HB.out.step hb1)
    clear hb1
    go_wp2_with fail
    go_ret
    exact ⟨rfl, H1.out.b⟩
  have HB1 := Lib.hid (And.intro (HB.out.step (below_one w0 (.cells (skc s AC AP cc cp) 28))) (Has.new w0 28 (skc s AC AP cc cp)))
  go_wp2_with fail
  refine (HG.out _ HB1.out.1.b _ HB1.out.2).mono ?_
  rintro e w1 ⟨rfl, hb1⟩
  have H1 := Lib.hid (HB1.out.1.step hb1)
  clear hb1 x0 x1 x2 y0 y1 y2 HB HB1 HG h80
  cases G
  rotate_left
  · go_wp2_with fail
    refine (HAw.out _).mono ?_
    rintro e w1 ⟨rfl, hb1⟩
    have H1 := Lib.hid (H1.out.step hb1)
    clear hb1
    go_wp2_with fail
    go_ret
    exact ⟨rfl, H1.out.b⟩
  obtain ⟨hc24, hp12, hcm, hpm⟩ := HSM.out rfl
  have HMK := Lib.hid (And.intro hcm hpm)
  clear HSM hcm hpm
  have x0 : w1.cell? ⟨W.heap.size, 0, none⟩ = some (.slice A r.bases.length c) := H1.out.fr.cell 0
  have x1 : w1.cell? ⟨W.heap.size, 1, none⟩ = some (.int .i64 r.factor) := H1.out.fr.cell 1
  have x2 : w1.cell? ⟨W.heap.size, 2, none⟩ = some (.int .i64 r.most) := H1.out.fr.cell 2
  have y0 : w1.cell? ⟨W.heap.size + 1, 0, none⟩ = some (.slice AC s.calls.length cc) := H1.out.fs.cell 0
  have y1 : w1.cell? ⟨W.heap.size + 1, 1, none⟩ = some (.slice AP s.parts.length cp) := H1.out.fs.cell 1
  have y2 : w1.cell? ⟨W.heap.size + 1, 2, none⟩ = some (.int .i64 s.over) := H1.out.fs.cell 2
  go_wp2_with fail
  refine (HP0.out _ H1.out.b).mono ?_
  rintro e w2 ⟨rfl, hb2⟩
  have H2 : Hid (XW W (w2.alloc (.cells #[.int .i64 x.elements, .int .i64 x.parts, .int .i64 x.off, .int .i64 x.total] 33)) r A c s AC AP cc cp w2.heap.size x ∧ W.heap.size + 1 < w2.heap.size) := Lib.hid ⟨⟨(H1.out.step hb2).step (below_one _ _), Has.new _ _ _⟩, Nat.lt_of_lt_of_le H1.out.fs.lt hb2.size⟩
  clear hb2 x0 x1 x2 y0 y1 y2 H1 HP0
  go_upto_region 4 with fail
  generalize w2.alloc (.cells #[.int .i64 x.elements, .int .i64 x.parts, .int .i64 x.off, .int .i64 x.total] 33) = w3 at H2 ⊢
  generalize w2.heap.size = DX at H2 ⊢
  have x0 : w3.cell? ⟨W.heap.size, 0, none⟩ = some (.slice A r.bases.length c) := H2.out.1.v.fr.cell 0
  have x1 : w3.cell? ⟨W.heap.size, 1, none⟩ = some (.int .i64 r.factor) := H2.out.1.v.fr.cell 1
  have x2 : w3.cell? ⟨W.heap.size, 2, none⟩ = some (.int .i64 r.most) := H2.out.1.v.fr.cell 2
  have y0 : w3.cell? ⟨W.heap.size + 1, 0, none⟩ = some (.slice AC s.calls.length cc) := H2.out.1.v.fs.cell 0
  have y1 : w3.cell? ⟨W.heap.size + 1, 1, none⟩ = some (.slice AP s.parts.length cp) := H2.out.1.v.fs.cell 1
  have y2 : w3.cell? ⟨W.heap.size + 1, 2, none⟩ = some (.int .i64 s.over) := H2.out.1.v.fs.cell 2
  go_wp2_with fail
  refine (HV0.out _ H2.out.1.v.b).mono ?_
  rintro e w4 ⟨A13, c13, rfl, hv4, hb4⟩
  have H4 : Hid (XW W (w4.alloc (.cells #[.slice none 0 0, .slice none 0 0, .int .i64 s.over] 28)) r A c s AC AP cc cp DX x ∧ IRow (w4.alloc (.cells #[.slice none 0 0, .slice none 0 0, .int .i64 s.over] 28)) w4.heap.size A13 vl ∧ DX < w4.heap.size ∧ W.heap.size + 1 < DX ∧ Has (w4.alloc (.cells #[.slice none 0 0, .slice none 0 0, .int .i64 s.over] 28)) w4.heap.size 28 #[.slice none 0 0, .slice none 0 0, .int .i64 s.over]) :=
    Lib.hid ⟨(H2.out.1.step hb4).step (below_one _ _), hv4.below (below_one _ _), (H2.out.1.step hb4).fx.lt, H2.out.2, Has.new _ _ _⟩
  have y2 : w4.cell? ⟨W.heap.size + 1, 2, none⟩ = some (.int .i64 s.over) := (H2.out.1.step hb4).v.fs.cell 2
  clear hb4 hv4 x0 x1 x2 y0 y1 H2 HV0
  go_upto_region 6 with fail
  generalize w4.alloc (.cells #[.slice none 0 0, .slice none 0 0, .int .i64 s.over] 28) = w5 at H4 ⊢
  generalize w4.heap.size = D at H4 ⊢
  clear y2
  have y0 : w5.cell? ⟨W.heap.size + 1, 0, none⟩ = some (.slice AC s.calls.length cc) := H4.out.1.v.fs.cell 0
  go_wp2_with fail
  clear y0
  have HTU := Lib.hid (fun (l : List Int) A c w (ha : IRow w w.heap.size A l) (hl : l.length ≤ 20) => (turned_any l A c tj w ha (by omega) (by omega)).mono fun _ _ h => tu_wi h)
  unfold WiP at HTU
  have HHI : Hid (∀ w, Below D w5 w → XW W w r A c s AC AP cc cp DX x ∧ IRow w D A13 vl) := Lib.hid fun w hb => ⟨H4.out.1.high H4.out.2.2.2.1 H4.out.2.2.1 hb, H4.out.2.1.below hb⟩
  go_loopg [58, 17] s.calls.length (fun gk i wv wr => ∃ k : Nat, k ≤ s.calls.length ∧ s.calls.length - k ≤ gk ∧ i = .int .i64 k ∧ ∃ v es ws, Hid (L1W w5 D wr v (.slice none 0 0) (.int .i64 s.over) es wv ws ∧ es.map (·.c) = (List.range k).map (callO s t tj back) ∧ ws = wantP s.calls.length t back vl k))
  case atStart => exact ⟨0, Nat.zero_le _, Nat.le_refl _, rfl, .slice none 0 0, [], [], Lib.hid ⟨⟨⟨Below.refl _ _, H4.out.2.2.2.2, OutC.nil _ _⟩, own_nil _ _ _ _, fun e he => absurd he (by simp)⟩, by simp, rfl⟩⟩
  case round =>
    obtain ⟨k, hk, hgk, rfl, v, es, ws, HW⟩ := hrel
    have HX5 := Lib.hid (HHI.out wr HW.out.1.l.b)
    by_cases hlt : k < s.calls.length
    rotate_left
    · have hge : ¬ (k : Int) < s.calls.length := by omega
      obtain rfl : k = s.calls.length := by omega
      have HM : Hid (es.map (·.c) = T.calls ∧ ws = wantP s.calls.length t back vl s.calls.length) := Lib.hid ⟨by rw [HW.out.2.1, HT.out.1], HW.out.2.2⟩
      have y1 : wr.cell? ⟨W.heap.size + 1, 1, none⟩ = some (.slice AP s.parts.length cp) := HX5.out.1.v.fs.cell 1
      obtain ⟨A9, c9, AW, cW, rfl, rfl, h9⟩ := HW.out.1.next
      have H9 := Lib.hid h9
      clear hk hgk hlt HW h9
      go_wp2_with fail
      clear hge y1 HX5
      obtain ⟨w6, rfl⟩ : ∃ w6, w6 = wr := ⟨_, rfl⟩
      go_loopg [104] s.parts.length (fun gk i wr => ∃ k : Nat, k ≤ s.parts.length ∧ s.parts.length - k ≤ gk ∧ i = .int .i64 k ∧ ∃ y ps, Hid (L2W w5 D w6.heap.size wr (.slice A9 es.length c9) y (.int .i64 s.over) A9 (es.map (·.c)) ps AW ws ∧ ps.map (·.m) = (List.range k).map (partO s t tj)))
      case atStart => exact ⟨0, Nat.zero_le _, Nat.le_refl _, rfl, .slice none 0 0, [], Lib.hid ⟨H9.out, by simp⟩⟩
      case round =>
        clear H9
        obtain ⟨k, hk, hgk, rfl, y, ps, HW⟩ := hrel
        have HX5 := Lib.hid (HHI.out wr HW.out.1.l.b)
        by_cases hlt : k < s.parts.length
        rotate_left
        · have hge : ¬ (k : Int) < s.parts.length := by omega
          obtain rfl : k = s.parts.length := by omega
          have hpm : ps.map (·.m) = T.parts := by rw [HW.out.2, HT.out.2.1]
          have hel : es.length = s.calls.length := by have := congrArg List.length HM.out.1; rw [HT.out.1] at this; simpa using this
          have e : (⟨es.map (·.c), T.parts, T.over⟩ : Sk) = T := by rw [HM.out.1]
          obtain ⟨AP9, cp9, rfl, hsk⟩ := HW.out.1.l.skr (s := ⟨es.map (·.c), T.parts, T.over⟩) hpm (by simp; rw [hel]; unfold big; omega) (by rw [HT.out.2.1]; simp; unfold big; omega)
          rw [e] at hsk
          have hpl : ((⟨es.map (·.c), T.parts, T.over⟩ : Sk)).parts.length = s.parts.length := by rw [HT.out.2.1]; simp
          rw [hpl, hel] at HW
          have HS6 := Lib.hid (And.intro hsk (And.intro HX5.out.1 (And.intro HX5.out.2 (And.intro (HW.out.1.w) HW.out.1.l.d))))
          have HLL := Lib.hid HW.out.1.l.h1
          have HDD := Lib.hid (And.intro H4.out.2.2.1 (And.intro H4.out.2.2.2.1 HW.out.1.l.hD))
          have hws : ws.length ≤ s.calls.length := by rw [HM.out.2]; exact want_len _ _ _ _ _
          have HWS := Lib.hid HM.out.2
          rw [← HM.out.2] at HVT
          clear hk hgk hlt hpm hel e hsk hpl HW HX5 HM HT HTU HHI H4
          have x0 : wr.cell? ⟨W.heap.size, 0, none⟩ = some (.slice A r.bases.length c) := HS6.out.2.1.v.fr.cell 0
          have x1 : wr.cell? ⟨W.heap.size, 1, none⟩ = some (.int .i64 r.factor) := HS6.out.2.1.v.fr.cell 1
          have x2 : wr.cell? ⟨W.heap.size, 2, none⟩ = some (.int .i64 r.most) := HS6.out.2.1.v.fr.cell 2
          have d0 : wr.cell? ⟨D, 0, none⟩ = some (.slice A9 s.calls.length c9) := HS6.out.2.2.2.2.cell 0
          have d1 : wr.cell? ⟨D, 1, none⟩ = some (.slice AP9 s.parts.length cp9) := HS6.out.2.2.2.2.cell 1
          have d2 : wr.cell? ⟨D, 2, none⟩ = some (.int .i64 s.over) := HS6.out.2.2.2.2.cell 2
          go_wp2_with fail
          refine (HPT.out _ _ _ _ _ HS6.out.2.1.v.b HS6.out.1).mono ?_
          rintro e w7 ⟨rfl, hb7⟩
          have H7 := Lib.hid (show SkR (w7.alloc (.cells #[.int .i64 x.elements, .int .i64 x.parts, .int .i64 x.off, .int .i64 x.total] 33)) (w7.alloc (.cells #[.int .i64 x.elements, .int .i64 x.parts, .int .i64 x.off, .int .i64 x.total] 33)).heap.size T A9 AP9 ∧ XW W (w7.alloc (.cells #[.int .i64 x.elements, .int .i64 x.parts, .int .i64 x.off, .int .i64 x.total] 33)) r A c s AC AP cc cp DX x ∧ IRow (w7.alloc (.cells #[.int .i64 x.elements, .int .i64 x.parts, .int .i64 x.off, .int .i64 x.total] 33)) D A13 vl ∧ IRB (w7.alloc (.cells #[.int .i64 x.elements, .int .i64 x.parts, .int .i64 x.off, .int .i64 x.total] 33)) (D + 1) w6.heap.size AW ws ∧ Has (w7.alloc (.cells #[.int .i64 x.elements, .int .i64 x.parts, .int .i64 x.off, .int .i64 x.total] 33)) D 28 #[.slice A9 s.calls.length c9, .slice AP9 s.parts.length cp9, .int .i64 s.over] ∧ Has (w7.alloc (.cells #[.int .i64 x.elements, .int .i64 x.parts, .int .i64 x.off, .int .i64 x.total] 33)) w7.heap.size 33 #[.int .i64 x.elements, .int .i64 x.parts, .int .i64 x.off, .int .i64 x.total] ∧ w6.heap.size ≤ (w7.alloc (.cells #[.int .i64 x.elements, .int .i64 x.parts, .int .i64 x.off, .int .i64 x.total] 33)).heap.size ∧ D < w7.heap.size from by
            have hb8 : Below wr.heap.size wr (w7.alloc (.cells #[.int .i64 x.elements, .int .i64 x.parts, .int .i64 x.off, .int .i64 x.total] 33)) := hb7.trans ((below_one _ _).mono hb7.size)
            have hDs := HS6.out.2.2.2.2.lt
            refine ⟨HS6.out.1.step hb8, HS6.out.2.1.step hb8, HS6.out.2.2.1.below (hb8.mono (Nat.le_of_lt hDs)), HS6.out.2.2.2.1.below (hb8.mono HLL.out), HS6.out.2.2.2.2.below hb8 hDs, Has.new _ _ _, Nat.le_trans HLL.out hb8.size, Nat.lt_of_lt_of_le hDs hb7.size⟩)
          clear hb7 x0 x1 x2 d0 d1 d2 HS6 HLL HPT
          go_upto_region 26 with fail
          generalize w7.alloc (.cells #[.int .i64 x.elements, .int .i64 x.parts, .int .i64 x.off, .int .i64 x.total] 33) = w8 at H7 ⊢
          generalize w7.heap.size = D2 at H7 ⊢
          have x0 : w8.cell? ⟨W.heap.size, 0, none⟩ = some (.slice A r.bases.length c) := H7.out.2.1.v.fr.cell 0
          have x1 : w8.cell? ⟨W.heap.size, 1, none⟩ = some (.int .i64 r.factor) := H7.out.2.1.v.fr.cell 1
          have x2 : w8.cell? ⟨W.heap.size, 2, none⟩ = some (.int .i64 r.most) := H7.out.2.1.v.fr.cell 2
          have d0 : w8.cell? ⟨D, 0, none⟩ = some (.slice A9 s.calls.length c9) := H7.out.2.2.2.2.1.cell 0
          have d1 : w8.cell? ⟨D, 1, none⟩ = some (.slice AP9 s.parts.length cp9) := H7.out.2.2.2.2.1.cell 1
          have d2 : w8.cell? ⟨D, 2, none⟩ = some (.int .i64 s.over) := H7.out.2.2.2.2.1.cell 2
          go_wp2_with fail
          refine (HVT.out _ _ _ _ _ H7.out.2.1.v.b H7.out.1).mono ?_
          rintro e w9 ⟨B2, b2, rfl, hr9, hb9⟩
          have H9 := Lib.hid (show XW W w9 r A c s AC AP cc cp DX x ∧ IRow w9 w9.heap.size A13 vl ∧ IRow w9 w9.heap.size AW ws ∧ Has w9 D2 33 #[.int .i64 x.elements, .int .i64 x.parts, .int .i64 x.off, .int .i64 x.total] ∧ IRow w9 w9.heap.size B2 ws from by
            have hDs := H7.out.2.2.2.2.1.lt
            have h3 := H7.out.2.2.2.1.below (hb9.mono H7.out.2.2.2.2.2.2.1)
            refine ⟨H7.out.2.1.step hb9, (H7.out.2.2.1.below (hb9.mono (Nat.le_of_lt hDs))).more (by have := hb9.size; omega), fun k hk => ?_, H7.out.2.2.2.2.2.1.below hb9 H7.out.2.2.2.2.2.1.lt, hr9⟩
            obtain ⟨b, f, e, _, q2, q3⟩ := h3 k hk
            exact ⟨b, f, e, by have := hb9.size; have := H7.out.2.2.2.2.2.2.1; omega, q3⟩)
          clear hb9 hr9 x0 x1 x2 d0 d1 d2 H7 HVT
          have HI := Lib.hid (fun A A' c d w h h' => ints_any ws ws A A' c d w h h' (by omega))
          rw [show decide (ws = ws) = true by simp] at HI
          unfold BoolPost at HI
          have a0 : w9.cell? ⟨DX, 0, none⟩ = some (.int .i64 x.elements) := H9.out.1.fx.cell 0
          have a1 : w9.cell? ⟨DX, 1, none⟩ = some (.int .i64 x.parts) := H9.out.1.fx.cell 1
          have a2 : w9.cell? ⟨DX, 2, none⟩ = some (.int .i64 x.off) := H9.out.1.fx.cell 2
          have a3 : w9.cell? ⟨DX, 3, none⟩ = some (.int .i64 x.total) := H9.out.1.fx.cell 3
          have b0 : w9.cell? ⟨D2, 0, none⟩ = some (.int .i64 x.elements) := H9.out.2.2.2.1.cell 0
          have b1 : w9.cell? ⟨D2, 1, none⟩ = some (.int .i64 x.parts) := H9.out.2.2.2.1.cell 1
          have b2' : w9.cell? ⟨D2, 2, none⟩ = some (.int .i64 x.off) := H9.out.2.2.2.1.cell 2
          have b3 : w9.cell? ⟨D2, 3, none⟩ = some (.int .i64 x.total) := H9.out.2.2.2.1.cell 3
          have he := fun w => neq33 x.elements x.parts x.off x.total x.elements x.parts x.off x.total w
          rw [show (!decide (x.elements = x.elements ∧ x.parts = x.parts ∧ x.off = x.off ∧ x.total = x.total)) = false by simp] at he
          have HQ : Hid (ws = wantP s.calls.length t back vl s.calls.length) := HWS
          clear HWS
          go_wp2_with fail
          refine (HI.out _ _ _ _ _ H9.out.2.2.2.2 H9.out.2.2.1).mono ?_
          rintro e wa ⟨rfl, hba⟩
          have HA := Lib.hid (And.intro (H9.out.1.step hba) (H9.out.2.1.step hba))
          clear hba H9 HI a0 a1 a2 a3 b0 b1 b2' b3 he HQ HDD
          go_wp2_with fail
          obtain ⟨w10, rfl⟩ : ∃ w10, w10 = wr := ⟨_, rfl⟩
          have hvl24 : vl.length ≤ 24 := by omega
          go_loopg [166, 26] vl.length (fun gk i n wr => ∃ k : Nat, k ≤ vl.length ∧ vl.length - k ≤ gk ∧ i = .int .i64 k ∧ n = .int .i64 ((vl.take k).sum) ∧ wr = wa)
          case atStart => exact ⟨0, Nat.zero_le _, Nat.le_refl _, rfl, rfl, rfl⟩
          case round =>
            obtain ⟨k, hk, hgk, rfl, rfl, rfl⟩ := hrel
            by_cases hlt : k < vl.length
            rotate_left
            · have hge : ¬ (k : Int) < vl.length := by omega
              obtain rfl : k = vl.length := by omega
              rw [List.take_length]
              clear hk hgk hlt
              by_cases hxe : xe = 0
              rotate_left
              · have q1 : (xe == 0) = false := by simpa using hxe
                have q2 : (xe != 0) = true := by simpa using hxe
                have HQX := Lib.hid hxe
                obtain ⟨S, hS⟩ : ∃ S, S = vl.sum := ⟨_, rfl⟩
                rw [← hS]
                clear hxe HMD hS
                go_wp2_with fail
                refine (HAw.out _).mono ?_
                rintro e w1 ⟨rfl, hb1⟩
                have H1 := Lib.hid (HA.out.1.step hb1)
                clear hb1
                go_wp2_with fail
                go_ret
                exact ⟨rfl, H1.out.v.b⟩
              subst hxe
              obtain ⟨m1, m2, m3, m4, m5, m6, m7⟩ := HMD.out rfl
              have q3 : ((vl.length : Int) == (s.calls.length : Int)) = true := by rw [m1]; simp
              rw [m2]
              have e1 : IntKind.i64.wrap (x.elements + x.parts) = x.elements + x.parts := IntWalk.i64_in _ (by omega)
              have e2 : IntKind.i64.wrap (x.elements + x.parts - x.off) = x.elements + x.parts - x.off := IntWalk.i64_in _ (by omega)
              have a0 : wr.cell? ⟨DX, 0, none⟩ = some (.int .i64 x.elements) := HA.out.1.fx.cell 0
              have a1 : wr.cell? ⟨DX, 1, none⟩ = some (.int .i64 x.parts) := HA.out.1.fx.cell 1
              have a2 : wr.cell? ⟨DX, 2, none⟩ = some (.int .i64 x.off) := HA.out.1.fx.cell 2
              have a3 : wr.cell? ⟨DX, 3, none⟩ = some (.int .i64 x.total) := HA.out.1.fx.cell 3
              have hpos : (0 ≤ x.elements + x.parts - x.off ∧ x.total = x.elements + x.parts - x.off) ∨ (¬ 0 ≤ x.elements + x.parts - x.off ∧ x.total = 0) := by omega
              have HM1 := Lib.hid (And.intro m1 (And.intro m2 m3))
              clear m1 m2 m3 m4 m5 m6 m7
              have HAE := Lib.hid HA.out.1
              rcases hpos with ⟨h1, h2⟩ | ⟨h1, h2⟩
              · have hmx : max 0 (x.elements + x.parts - x.off) = x.total := by omega
                have hq4 : (x.total == max 0 (x.elements + x.parts - x.off)) = true := by rw [hmx]; simp
                clear HRG
                go_wp2_with fail
                refine (HAw.out _).mono ?_
                rintro e w1 ⟨rfl, hb1⟩
                have H1 := Lib.hid (HAE.out.step hb1)
                clear hb1 a0 a1 a2 a3
                go_wp2_with fail
                go_ret
                exact ⟨rfl, H1.out.v.b⟩
              · have hmx : max 0 (x.elements + x.parts - x.off) = x.total := by omega
                have hq4 : (x.total == max 0 (x.elements + x.parts - x.off)) = true := by rw [hmx]; simp
                clear HRG
                go_wp2_with fail
                refine (HAw.out _).mono ?_
                rintro e w1 ⟨rfl, hb1⟩
                have H1 := Lib.hid (HAE.out.step hb1)
                clear hb1 a0 a1 a2 a3
                go_wp2_with fail
                go_ret
                exact ⟨rfl, H1.out.v.b⟩
            have hlt2 : (k : Int) < vl.length := by omega
            obtain ⟨g, o, hg, hgs, hc⟩ := HA.out.2 k hlt
            have hsb := (sum_take_bd (M := 3000000) HRG.out k (by omega))
            have hvb := HRG.out _ (List.getElem_mem hlt)
            have hsum : (vl.take (k + 1)).sum = (vl.take k).sum + vl[k] := by rw [List.take_succ_eq_append_getElem hlt, List.sum_append]; simp
            obtain ⟨S, hS⟩ : ∃ S, S = (vl.take k).sum := ⟨_, rfl⟩
            obtain ⟨z, hz⟩ : ∃ z, z = vl[k] := ⟨_, rfl⟩
            rw [← hS] at hsb hsum ⊢
            rw [← hz] at hvb hsum hc
            have ew : IntKind.i64.wrap (S + z) = S + z := IntWalk.i64_in _ (by omega)
            have HSU := Lib.hid hsum
            subst hg
            clear hS hz hsum hsb hvb hgs
            go_wp2_with fail
            go_roundg (vl.length - (k + 1))
            case measure => omega
            case rel => exact ⟨k + 1, by omega, Nat.le_refl _, by go_num, by rw [HSU.out], rfl⟩
        have hlt2 : (k : Int) < s.parts.length := by omega
        obtain ⟨q, hq⟩ : ∃ q, q = (k + t) % s.parts.length := ⟨_, rfl⟩
        have hql : q < s.parts.length := by rw [hq]; exact Nat.mod_lt _ (by omega)
        have hbW : Below W.heap.size W wr := HX5.out.1.v.b
        obtain ⟨g, o, M, m, hg, hgs, hc, hm, hml⟩ := HRS.out.2.p q hql
        have hmk := HMK.out.2 _ (List.getElem_mem hql)
        obtain ⟨z, hz⟩ : ∃ z, z = s.parts[q] := ⟨_, rfl⟩
        rw [← hz] at hc hm hml hmk
        obtain ⟨zv, hzv⟩ : ∃ zv, zv = turnN z tj := ⟨_, rfl⟩
        have HNX : Hid (ps.map (·.m) ++ [zv] = (List.range (k + 1)).map (partO s t tj)) := Lib.hid (by
          rw [HW.out.2, List.range_succ, List.map_append]
          congr 1
          show [zv] = [partO s t tj k]
          unfold partO
          rw [← hq, List.getD_eq_getElem?_getD, List.getElem?_eq_getElem hql, hzv, hz]; rfl)
        have HZV := Lib.hid (show zv.length = z.length by rw [hzv, turnN_len])
        have HTZ := Lib.hid (fun A c w ha => HTU.out z A c w ha hmk)
        rw [← hzv, HZV.out] at HTZ
        have ec1 : IntKind.i64.wrap (t : Int) = (t : Int) := IntWalk.i64_in _ (by omega)
        have ec2 : IntKind.i64.wrap (tj : Int) = (tj : Int) := IntWalk.i64_in _ (by omega)
        have ew : IntKind.i64.wrap ((k : Int) + t) = (k : Int) + t := IntWalk.i64_in _ (by omega)
        have em : ((k : Int) + t).tmod (s.parts.length : Int) = (q : Int) := by
          rw [Int.tmod_eq_emod_of_nonneg (by omega), hq]
          simp
        have hLz : ¬ (s.parts.length : Int) = 0 := by omega
        have hLp : ¬ s.parts = [] := by rintro e; rw [e] at hql; cases hql
        have hql2 : (q : Int) < s.parts.length := by omega
        subst hg
        obtain ⟨AY, cY, rfl, -⟩ := own_slice HW.out.1.l.o.own
        have hpsl : ps.length ≤ 1000 := by have := congrArg List.length HW.out.2; simp at this; omega
        have H1 := Lib.hid (show L2W w5 D w6.heap.size wr.drew (.slice A9 es.length c9) (.slice AY ps.length cY) (.int .i64 s.over) A9 (es.map (·.c)) ps AW ws ∧ IRow wr.drew wr.drew.heap.size M z ∧ g < D ∧ W.heap.size + 1 < D from
          ⟨HW.out.1.drew, ((hm.below hbW).more hbW.size).step ((Below.refl _ _).drew), by have := H4.out.2.2.1; have := H4.out.2.2.2.1; omega, by have := H4.out.2.2.1; have := H4.out.2.2.2.1; omega⟩)
        have K1 : Hid (wr.drew.cell? ⟨D, 1, none⟩ = some (.slice AY ps.length cY) ∧ wr.drew.cell? ⟨W.heap.size + 1, 1, none⟩ = some (.slice (some ⟨g, o, none⟩) s.parts.length cp) ∧ wr.drew.cell? ⟨g, o + q, none⟩ = some (.slice M z.length m)) := Lib.hid ⟨HW.out.1.l.drew.d.cell 1, HX5.out.1.v.fs.drew.cell 1, (hbW.cell (p := ⟨g, _, none⟩) hgs).trans hc⟩
        have y1 : wr.cell? ⟨W.heap.size + 1, 1, none⟩ = some (.slice (some ⟨g, o, none⟩) s.parts.length cp) := HX5.out.1.v.fs.cell 1
        clear hz hzv hq hgs hc hm HW HX5 hbW hmk
        go_upto_region 23 with fail
        clear y1
        refine wp_region_late (fun w' : World => w'.cell? ⟨D, 1, none⟩ = some (.slice AY ps.length cY) ∧ w'.cell? ⟨W.heap.size + 1, 1, none⟩ = some (.slice (some ⟨g, o, none⟩) s.parts.length cp) ∧ w'.cell? ⟨g, o + q, none⟩ = some (.slice M z.length m)) [20] (by kernel_rfl) ?_
        generalize wr.drew = wq at H1 K1 ⊢
        refine wpLate_take (i := 0) (oi := ?oi0r23_) (v := ?v0r23_) [1, 18, 19, 20] ?hi0r23_ (by kernel_rfl) (by kernel_rfl) (by kernel_rfl) (by kernel_rfl) (by kernel_rfl) ?hQ0r23_ (Or.inl ⟨?hw0r23_, ?hy0r23_⟩) K1.out ?rest0r23_
        case hi0r23_ => (simp only [List.getElem?_toArray, List.getElem?_cons_zero]; rfl)
        case hQ0r23_ => exact fun _ _ _ h => h
        case hw0r23_ => rfl
        case hy0r23_ =>
          intro w' hSw
          obtain ⟨r0, r1, r2⟩ := hSw
          go_simp
          try exact rfl
        try simp only [Act.put, List.setIfInBounds_toArray, List.set_cons_zero, List.set_cons_succ]
        refine wpLate_take (i := 1) (oi := ?oi1r23_) (v := ?v1r23_) [18, 19, 20] ?hi1r23_ (by kernel_rfl) (by kernel_rfl) (by kernel_rfl) (by kernel_rfl) (by kernel_rfl) ?hQ1r23_ (Or.inl ⟨?hw1r23_, ?hy1r23_⟩) K1.out ?rest1r23_
        case hi1r23_ => (simp only [List.getElem?_toArray, List.getElem?_cons_zero, List.getElem?_cons_succ]; rfl)
        case hQ1r23_ => exact fun _ _ _ h => h
        case hw1r23_ => rfl
        case hy1r23_ =>
          intro w' hSw
          obtain ⟨r0, r1, r2⟩ := hSw
          go_simp
          try exact rfl
        try simp only [Act.put, List.setIfInBounds_toArray, List.set_cons_zero, List.set_cons_succ]
        refine wpLate_take (i := 2) (oi := ?oi2r23_) (v := ?v2r23_) [3, 12, 13, 16, 17, 18, 19, 20] ?hi2r23_ (by kernel_rfl) (by kernel_rfl) (by kernel_rfl) (by kernel_rfl) (by kernel_rfl) ?hQ2r23_ (Or.inl ⟨?hw2r23_, ?hy2r23_⟩) K1.out ?rest2r23_
        case hi2r23_ => (simp only [List.getElem?_toArray, List.getElem?_cons_zero, List.getElem?_cons_succ]; rfl)
        case hQ2r23_ => exact fun _ _ _ h => h
        case hw2r23_ => rfl
        case hy2r23_ =>
          intro w' hSw
          obtain ⟨r0, r1, r2⟩ := hSw
          go_simp
          try exact rfl
        try simp only [Act.put, List.setIfInBounds_toArray, List.set_cons_zero, List.set_cons_succ]
        refine wpLate_take (i := 3) (oi := ?oi3r23_) (v := ?v3r23_) [12, 13, 16, 17, 18, 19, 20] ?hi3r23_ (by kernel_rfl) (by kernel_rfl) (by kernel_rfl) (by kernel_rfl) (by kernel_rfl) ?hQ3r23_ (Or.inl ⟨?hw3r23_, ?hy3r23_⟩) K1.out ?rest3r23_
        case hi3r23_ => (simp only [List.getElem?_toArray, List.getElem?_cons_zero, List.getElem?_cons_succ]; rfl)
        case hQ3r23_ => exact fun _ _ _ h => h
        case hw3r23_ => rfl
        case hy3r23_ =>
          intro w' hSw
          obtain ⟨r0, r1, r2⟩ := hSw
          go_simp
          try exact rfl
        try simp only [Act.put, List.setIfInBounds_toArray, List.set_cons_zero, List.set_cons_succ]
        refine wpLate_take (i := 4) (oi := ?oi4r23_) (v := ?v4r23_) [7, 11, 12, 13, 16, 17, 18, 19, 20] ?hi4r23_ (by kernel_rfl) (by kernel_rfl) (by kernel_rfl) (by kernel_rfl) (by kernel_rfl) ?hQ4r23_ (Or.inl ⟨?hw4r23_, ?hy4r23_⟩) K1.out ?rest4r23_
        case hi4r23_ => (simp only [List.getElem?_toArray, List.getElem?_cons_zero, List.getElem?_cons_succ]; rfl)
        case hQ4r23_ => exact fun _ _ _ h => h
        case hw4r23_ => rfl
        case hy4r23_ =>
          intro w' hSw
          obtain ⟨r0, r1, r2⟩ := hSw
          go_simp
          try exact rfl
        try simp only [Act.put, List.setIfInBounds_toArray, List.set_cons_zero, List.set_cons_succ]
        refine wpLate_take (i := 5) (oi := ?oi5r23_) (v := ?v5r23_) [6, 7, 11, 12, 13, 16, 17, 18, 19, 20] ?hi5r23_ (by kernel_rfl) (by kernel_rfl) (by kernel_rfl) (by kernel_rfl) (by kernel_rfl) ?hQ5r23_ (Or.inl ⟨?hw5r23_, ?hy5r23_⟩) K1.out ?rest5r23_
        case hi5r23_ => (simp only [List.getElem?_toArray, List.getElem?_cons_zero, List.getElem?_cons_succ]; rfl)
        case hQ5r23_ => exact fun _ _ _ h => h
        case hw5r23_ => rfl
        case hy5r23_ =>
          intro w' hSw
          obtain ⟨r0, r1, r2⟩ := hSw
          go_simp
          try exact rfl
        try simp only [Act.put, List.setIfInBounds_toArray, List.set_cons_zero, List.set_cons_succ]
        refine wpLate_take (i := 6) (oi := ?oi6r23_) (v := ?v6r23_) [7, 11, 12, 13, 16, 17, 18, 19, 20] ?hi6r23_ (by kernel_rfl) (by kernel_rfl) (by kernel_rfl) (by kernel_rfl) (by kernel_rfl) ?hQ6r23_ (Or.inl ⟨?hw6r23_, ?hy6r23_⟩) K1.out ?rest6r23_
        case hi6r23_ => (simp only [List.getElem?_toArray, List.getElem?_cons_zero, List.getElem?_cons_succ]; rfl)
        case hQ6r23_ => exact fun _ _ _ h => h
        case hw6r23_ => rfl
        case hy6r23_ =>
          intro w' hSw
          obtain ⟨r0, r1, r2⟩ := hSw
          go_simp
          try exact rfl
        try simp only [Act.put, List.setIfInBounds_toArray, List.set_cons_zero, List.set_cons_succ]
        refine wpLate_take (i := 7) (oi := ?oi7r23_) (v := ?v7r23_) [11, 12, 13, 16, 17, 18, 19, 20] ?hi7r23_ (by kernel_rfl) (by kernel_rfl) (by kernel_rfl) (by kernel_rfl) (by kernel_rfl) ?hQ7r23_ (Or.inl ⟨?hw7r23_, ?hy7r23_⟩) K1.out ?rest7r23_
        case hi7r23_ => (simp only [List.getElem?_toArray, List.getElem?_cons_zero, List.getElem?_cons_succ]; rfl)
        case hQ7r23_ => exact fun _ _ _ h => h
        case hw7r23_ => rfl
        case hy7r23_ =>
          intro w' hSw
          obtain ⟨r0, r1, r2⟩ := hSw
          go_simp
          try exact rfl
        try simp only [Act.put, List.setIfInBounds_toArray, List.set_cons_zero, List.set_cons_succ]
        refine wpLate_take (i := 8) (oi := ?oi8r23_) (v := ?v8r23_) [9, 10, 11, 12, 13, 16, 17, 18, 19, 20] ?hi8r23_ (by kernel_rfl) (by kernel_rfl) (by kernel_rfl) (by kernel_rfl) (by kernel_rfl) ?hQ8r23_ (Or.inl ⟨?hw8r23_, ?hy8r23_⟩) K1.out ?rest8r23_
        case hi8r23_ => (simp only [List.getElem?_toArray, List.getElem?_cons_zero, List.getElem?_cons_succ]; rfl)
        case hQ8r23_ => exact fun _ _ _ h => h
        case hw8r23_ => rfl
        case hy8r23_ =>
          intro w' hSw
          obtain ⟨r0, r1, r2⟩ := hSw
          go_simp
          try exact rfl
        try simp only [Act.put, List.setIfInBounds_toArray, List.set_cons_zero, List.set_cons_succ]
        refine wpLate_take (i := 9) (oi := ?oi9r23_) (v := ?v9r23_) [10, 11, 12, 13, 16, 17, 18, 19, 20] ?hi9r23_ (by kernel_rfl) (by kernel_rfl) (by kernel_rfl) (by kernel_rfl) (by kernel_rfl) ?hQ9r23_ (Or.inl ⟨?hw9r23_, ?hy9r23_⟩) K1.out ?rest9r23_
        case hi9r23_ => (simp only [List.getElem?_toArray, List.getElem?_cons_zero, List.getElem?_cons_succ]; rfl)
        case hQ9r23_ => exact fun _ _ _ h => h
        case hw9r23_ => rfl
        case hy9r23_ =>
          intro w' hSw
          obtain ⟨r0, r1, r2⟩ := hSw
          go_simp
          try exact rfl
        try simp only [Act.put, List.setIfInBounds_toArray, List.set_cons_zero, List.set_cons_succ]
        refine wpLate_take (i := 10) (oi := ?oi10r23_) (v := ?v10r23_) [11, 12, 13, 16, 17, 18, 19, 20] ?hi10r23_ (by kernel_rfl) (by kernel_rfl) (by kernel_rfl) (by kernel_rfl) (by kernel_rfl) ?hQ10r23_ (Or.inl ⟨?hw10r23_, ?hy10r23_⟩) K1.out ?rest10r23_
        case hi10r23_ => (simp only [List.getElem?_toArray, List.getElem?_cons_zero, List.getElem?_cons_succ]; rfl)
        case hQ10r23_ => exact fun _ _ _ h => h
        case hw10r23_ => rfl
        case hy10r23_ =>
          intro w' hSw
          obtain ⟨r0, r1, r2⟩ := hSw
          go_simp
          try exact rfl
        try simp only [Act.put, List.setIfInBounds_toArray, List.set_cons_zero, List.set_cons_succ]
        refine wpLate_take (i := 11) (oi := ?oi11r23_) (v := ?v11r23_) [12, 13, 16, 17, 18, 19, 20] ?hi11r23_ (by kernel_rfl) (by kernel_rfl) (by kernel_rfl) (by kernel_rfl) (by kernel_rfl) ?hQ11r23_ (Or.inl ⟨?hw11r23_, ?hy11r23_⟩) K1.out ?rest11r23_
        case hi11r23_ => (simp only [List.getElem?_toArray, List.getElem?_cons_zero, List.getElem?_cons_succ]; rfl)
        case hQ11r23_ => exact fun _ _ _ h => h
        case hw11r23_ => rfl
        case hy11r23_ =>
          intro w' hSw
          obtain ⟨r0, r1, r2⟩ := hSw
          go_simp
          try exact rfl
        try simp only [Act.put, List.setIfInBounds_toArray, List.set_cons_zero, List.set_cons_succ]
        refine wpLate_take (i := 12) (oi := ?oi12r23_) (v := ?v12r23_) [13, 16, 17, 18, 19, 20] ?hi12r23_ (by kernel_rfl) (by kernel_rfl) (by kernel_rfl) (by kernel_rfl) (by kernel_rfl) ?hQ12r23_ (Or.inl ⟨?hw12r23_, ?hy12r23_⟩) K1.out ?rest12r23_
        case hi12r23_ => (simp only [List.getElem?_toArray, List.getElem?_cons_zero, List.getElem?_cons_succ]; rfl)
        case hQ12r23_ => exact fun _ _ _ h => h
        case hw12r23_ => rfl
        case hy12r23_ =>
          intro w' hSw
          obtain ⟨r0, r1, r2⟩ := hSw
          go_simp
          try exact rfl
        try simp only [Act.put, List.setIfInBounds_toArray, List.set_cons_zero, List.set_cons_succ]
        refine wpLate_take (i := 13) (oi := ?oi13r23_) (v := ?v13r23_) [16, 17, 18, 19, 20] ?hi13r23_ (by kernel_rfl) (by kernel_rfl) (by kernel_rfl) (by kernel_rfl) (by kernel_rfl) ?hQ13r23_ (Or.inl ⟨?hw13r23_, ?hy13r23_⟩) K1.out ?rest13r23_
        case hi13r23_ => (simp only [List.getElem?_toArray, List.getElem?_cons_zero, List.getElem?_cons_succ]; rfl)
        case hQ13r23_ => exact fun _ _ _ h => h
        case hw13r23_ => rfl
        case hy13r23_ =>
          intro w' hSw
          obtain ⟨r0, r1, r2⟩ := hSw
          go_simp
          try exact rfl
        try simp only [Act.put, List.setIfInBounds_toArray, List.set_cons_zero, List.set_cons_succ]
        refine wpLate_take (i := 14) (oi := ?oi14r23_) (v := ?v14r23_) [15, 16, 17, 18, 19, 20] ?hi14r23_ (by kernel_rfl) (by kernel_rfl) (by kernel_rfl) (by kernel_rfl) (by kernel_rfl) ?hQ14r23_ (Or.inl ⟨?hw14r23_, ?hy14r23_⟩) K1.out ?rest14r23_
        case hi14r23_ => (simp only [List.getElem?_toArray, List.getElem?_cons_zero, List.getElem?_cons_succ]; rfl)
        case hQ14r23_ => exact fun _ _ _ h => h
        case hw14r23_ => rfl
        case hy14r23_ =>
          intro w' hSw
          obtain ⟨r0, r1, r2⟩ := hSw
          go_simp
          try exact rfl
        try simp only [Act.put, List.setIfInBounds_toArray, List.set_cons_zero, List.set_cons_succ]
        refine wpLate_take (i := 15) (oi := ?oi15r23_) (v := ?v15r23_) [16, 17, 18, 19, 20] ?hi15r23_ (by kernel_rfl) (by kernel_rfl) (by kernel_rfl) (by kernel_rfl) (by kernel_rfl) ?hQ15r23_ (Or.inl ⟨?hw15r23_, ?hy15r23_⟩) K1.out ?rest15r23_
        case hi15r23_ => (simp only [List.getElem?_toArray, List.getElem?_cons_zero, List.getElem?_cons_succ]; rfl)
        case hQ15r23_ => exact fun _ _ _ h => h
        case hw15r23_ => rfl
        case hy15r23_ =>
          intro w' hSw
          obtain ⟨r0, r1, r2⟩ := hSw
          go_simp
          try exact rfl
        try simp only [Act.put, List.setIfInBounds_toArray, List.set_cons_zero, List.set_cons_succ]
        refine wpLate_one (i := 16) (o := ?o16r23_) (by kernel_rfl) ?ho16r23_ ?hk16r23_
        case ho16r23_ => (simp only [List.getElem?_toArray, List.getElem?_cons_zero, List.getElem?_cons_succ]; rfl)
        intro K hK
        go_simp
        refine (HTZ.out _ _ _ H1.out.2.1).mono ?_
        rintro e w7 ⟨A2, c2, rfl, hirb, hb2⟩
        have H2 := Lib.hid (show L2W w5 D w6.heap.size w7 (.slice A9 es.length c9) (.slice AY ps.length cY) (.int .i64 s.over) A9 (es.map (·.c)) ps AW ws ∧ IRA w7 w6.heap.size (Value.slice AY ps.length cY).ownBlock A2 zv from ⟨H1.out.1.step hb2, hirb.ira2 H1.out.1.l.h1 (Nat.le_refl _) (fun b hb => (own_block H1.out.1.l.o.own b hb).2)⟩)
        have K2 : Hid (w7.cell? ⟨D, 1, none⟩ = some (.slice AY ps.length cY) ∧ w7.cell? ⟨W.heap.size + 1, 1, none⟩ = some (.slice (some ⟨g, o, none⟩) s.parts.length cp) ∧ w7.cell? ⟨g, o + q, none⟩ = some (.slice M z.length m)) := Lib.hid ⟨H2.out.1.l.d.cell 1, (hb2.cell (p := ⟨W.heap.size + 1, 1, none⟩) (by have := H1.out.1.l.d.lt; have := H1.out.2.2.2; simp only; omega)).trans K1.out.2.1, (hb2.cell (p := ⟨g, _, none⟩) (by have := H1.out.1.l.d.lt; have := H1.out.2.2.1; simp only; omega)).trans K1.out.2.2⟩
        have HGG := Lib.hid (And.intro H1.out.2.2.1 H1.out.2.2.2)
        clear hirb hb2 H1 K1
        go_simp
        refine hK.out _ _ (fun h => K2.out) ?_
        clear hK K
        try simp only [Act.put, List.setIfInBounds_toArray, List.set_cons_zero, List.set_cons_succ]
        refine wpLate_one (i := 17) (o := ?o17r23_) (by kernel_rfl) ?ho17r23_ ?hk17r23_
        case ho17r23_ => (simp only [List.getElem?_toArray, List.getElem?_cons_zero, List.getElem?_cons_succ]; rfl)
        intro K hK
        go_simp
        have H3 := Lib.hid (show L2W w5 D w6.heap.size (w7.alloc (.cells #[.slice A2 z.length c2] 22)) (.slice A9 es.length c9) (.slice AY ps.length cY) (.int .i64 s.over) A9 (es.map (·.c)) ps AW ws ∧ IRA (w7.alloc (.cells #[.slice A2 z.length c2] 22)) w6.heap.size (Value.slice AY ps.length cY).ownBlock A2 zv from ⟨H2.out.1.step (below_one _ _), H2.out.2.step (below_one _ _)⟩)
        have K3 : Hid ((w7.alloc (.cells #[.slice A2 z.length c2] 22)).cell? ⟨D, 1, none⟩ = some (.slice AY ps.length cY) ∧ (w7.alloc (.cells #[.slice A2 z.length c2] 22)).cell? ⟨W.heap.size + 1, 1, none⟩ = some (.slice (some ⟨g, o, none⟩) s.parts.length cp) ∧ (w7.alloc (.cells #[.slice A2 z.length c2] 22)).cell? ⟨g, o + q, none⟩ = some (.slice M z.length m)) := Lib.hid ⟨H3.out.1.l.d.cell 1, ((below_one w7 _).cell (p := ⟨W.heap.size + 1, 1, none⟩) (by have := H2.out.1.l.d.lt; have := HGG.out.2; simp only; omega)).trans K2.out.2.1, ((below_one w7 _).cell (p := ⟨g, _, none⟩) (by have := H2.out.1.l.d.lt; have := HGG.out.1; simp only; omega)).trans K2.out.2.2⟩
        have HNEW : Hid (∀ i u, (fl1 [(⟨zv, A2, c2⟩ : Pe)])[i]? = some u → (w7.alloc (.cells #[.slice A2 z.length c2] 22)).cell? ((⟨w7.heap.size, 0, none⟩ : Addr).add i) = some u) := Lib.hid fun i u hu => by
          rw [addr_add, (Has.new w7 22 #[.slice A2 z.length c2]).cell, Nat.zero_add, ← hu]
          simp [fl1, enc1, HZV.out]
        refine hK.out _ _ (fun h => K3.out) ?_
        clear hK K
        try simp only [Act.put, List.setIfInBounds_toArray, List.set_cons_zero, List.set_cons_succ]
        refine wpLate_one (i := 18) (o := ?o18r23_) (by kernel_rfl) ?ho18r23_ ?hk18r23_
        case ho18r23_ => (simp only [List.getElem?_toArray, List.getElem?_cons_zero, List.getElem?_cons_succ]; rfl)
        intro K hK
        refine step_append_lies _ rfl (.tmp 108) (.tmp 124) 26 rfl w6.heap.size 22 j0 (.slice none 0 0) 1 24 Try.underlying26 hji hy0 hy1 hy2 rfl (by decide) (.slice AY ps.length cY) ps.length (fl1 ps) rfl H3.out.1.l.o.own ⟨w7.heap.size, 0, none⟩ 1 1 (fl1 [(⟨zv, A2, c2⟩ : Pe)]) rfl ?r1 HNEW.out (fl1_one _) ?r2 ?r3 ?r4 ?r5 _ rfl ?_
        case r1 => rfl
        case r2 => omega
        case r3 => unfold maxLen; omega
        case r4 => omega
        case r5 => exact H3.out.1.l.h1
        rintro g1 cap1 w9 hown1 hgr1 hgg1 hlt1
        have H6 := Lib.hid (And.intro (H3.out.1.app (e := ⟨zv, A2, c2⟩) H3.out.2 (by simp only; rw [HZV.out]; exact hml) rfl hown1 hgr1 hgg1) (H3.out.1.l.app_d hgr1))
        have hb5 := H3.out.1.l.app_b hgr1
        have K5 : Hid (w9.cell? ⟨D, 1, none⟩ = some (.slice AY ps.length cY) ∧ w9.cell? ⟨W.heap.size + 1, 1, none⟩ = some (.slice (some ⟨g, o, none⟩) s.parts.length cp) ∧ w9.cell? ⟨g, o + q, none⟩ = some (.slice M z.length m)) := Lib.hid ⟨H6.out.2.1.cell 1, (hb5.cell (p := ⟨W.heap.size + 1, 1, none⟩) (by have := H3.out.1.l.hD; have := HGG.out.2; simp only; omega)).trans K3.out.2.1, (hb5.cell (p := ⟨g, _, none⟩) (by have := H3.out.1.l.hD; have := HGG.out.1; simp only; omega)).trans K3.out.2.2⟩
        clear hown1 hgr1 hgg1 hlt1 hb5
        refine hK.out _ _ (fun h => K5.out) ?_
        clear hK K
        try simp only [Act.put, List.setIfInBounds_toArray, List.set_cons_zero, List.set_cons_succ]
        refine wpLate_take (i := 19) (oi := ?oi19r23_) (v := ?v19r23_) [20] ?hi19r23_ (by kernel_rfl) (by kernel_rfl) (by kernel_rfl) (by kernel_rfl) (by kernel_rfl) ?hQ19r23_ (Or.inl ⟨?hw19r23_, ?hy19r23_⟩) K5.out ?rest19r23_
        case hi19r23_ => (simp only [List.getElem?_toArray, List.getElem?_cons_zero, List.getElem?_cons_succ]; rfl)
        case hQ19r23_ => exact fun _ _ _ h => h
        case hw19r23_ => rfl
        case hy19r23_ =>
          intro w' hSw
          obtain ⟨r0, r1, r2⟩ := hSw
          go_simp
          try exact rfl
        try simp only [Act.put, List.setIfInBounds_toArray, List.set_cons_zero, List.set_cons_succ]
        refine wpLate_one (i := 20) (o := ?o20r23_) (by kernel_rfl) ?ho20r23_ ?hk20r23_
        case ho20r23_ => (simp only [List.getElem?_toArray, List.getElem?_cons_zero, List.getElem?_cons_succ]; rfl)
        intro K hK
        have l0 := K5.out.1
        have lf := H6.out.2.1.frozen 1
        go_simp
        refine hK.out _ _ (fun h => absurd h (by decide)) ?_
        clear hK K
        try simp only [Act.put, List.setIfInBounds_toArray, List.set_cons_zero, List.set_cons_succ]
        refine wpLate_done (by kernel_rfl) ?_ _
        try simp only [Act.put, List.setIfInBounds_toArray, List.set_cons_zero, List.set_cons_succ]
        go_wp2_with fail
        go_roundg (s.parts.length - (k + 1))
        case measure => omega
        case rel => exact ⟨k + 1, by omega, Nat.le_refl _, by go_num, .slice (some ⟨g1, 0, none⟩) (ps.length + 1) cap1, ps ++ [⟨zv, A2, c2⟩], Lib.hid ⟨H6.out.1, by rw [List.map_append]; exact HNX.out⟩⟩
    have hlt2 : (k : Int) < s.calls.length := by omega
    obtain ⟨m9, hm9⟩ : ∃ m9, m9 = (k + t) % s.calls.length := ⟨_, rfl⟩
    have hm9l : m9 < s.calls.length := by rw [hm9]; exact Nat.mod_lt _ (by omega)
    obtain ⟨K, hK⟩ : ∃ K, K = kap s.calls.length t back k := ⟨_, rfl⟩
    have hKl : K < s.calls.length := by rw [hK]; exact kap_lt (by omega) t back k
    have hKm : K = if back then s.calls.length - 1 - m9 else m9 := by rw [hK, hm9]; rfl
    have hbW : Below W.heap.size W wr := HX5.out.1.v.b
    obtain ⟨g, o, M, m, hg, hgs, hc, hm, hml⟩ := HRS.out.2.c K hKl
    have hmk := HMK.out.1 _ (List.getElem_mem hKl)
    obtain ⟨z, hz⟩ : ∃ z, z = s.calls[K] := ⟨_, rfl⟩
    rw [← hz] at hc hm hml hmk
    obtain ⟨y, hy⟩ : ∃ y, y = turnC tj z := ⟨_, rfl⟩
    have HNX : Hid (es.map (·.c) ++ [y] = (List.range (k + 1)).map (callO s t tj back)) := Lib.hid (by
      rw [HW.out.2.1, List.range_succ, List.map_append]
      congr 1
      show [y] = [callO s t tj back k]
      unfold callO
      rw [← hK, List.getD_eq_getElem?_getD, List.getElem?_eq_getElem hKl, hy, hz]; rfl)
    have HWN : Hid (wantP s.calls.length t back vl (k + 1) = ws ++ (match vl[K]? with | some x => [x] | none => [])) := Lib.hid (by rw [want_succ, ← HW.out.2.2, ← hK]; cases vl[K]? <;> rfl)
    have hwl : ws.length ≤ 24 := by have := want_len s.calls.length t back vl k; rw [← HW.out.2.2] at this; omega
    have hesl : es.length ≤ 24 := by have := congrArg List.length HW.out.2.1; simp at this; omega
    have HY := Lib.hid hy
    have HYL := Lib.hid (show y.marks.length = z.marks.length by rw [hy]; simp [turnC, turnN_len])
    have HTZ := Lib.hid (fun A c w ha => HTU.out z.marks A c w ha hmk)
    rw [show turnN z.marks tj = y.marks by rw [hy]; rfl, HYL.out] at HTZ
    have ec1 : IntKind.i64.wrap (t : Int) = (t : Int) := IntWalk.i64_in _ (by omega)
    have ec2 : IntKind.i64.wrap (tj : Int) = (tj : Int) := IntWalk.i64_in _ (by omega)
    have ew : IntKind.i64.wrap ((k : Int) + t) = (k : Int) + t := IntWalk.i64_in _ (by omega)
    have em : ((k : Int) + t).tmod (s.calls.length : Int) = (m9 : Int) := by
      rw [Int.tmod_eq_emod_of_nonneg (by omega), hm9]
      simp
    have hLz : ¬ (s.calls.length : Int) = 0 := by omega
    have hKl2 : (K : Int) < s.calls.length := by omega
    subst hg
    obtain ⟨A8, c8, rfl, -⟩ := own_slice HW.out.1.l.o.own
    obtain ⟨AV, cV, rfl, -⟩ := own_slice HW.out.1.own
    have y0 : wr.cell? ⟨W.heap.size + 1, 0, none⟩ = some (.slice (some ⟨g, o, none⟩) s.calls.length cc) := HX5.out.1.v.fs.cell 0
    have z0 : wr.cell? ⟨g, o + K * 6, none⟩ = some (.int .i64 z.place) := (hbW.cell (p := ⟨g, _, none⟩) hgs).trans (hc 0 (by omega))
    have z1 : wr.cell? ⟨g, o + K * 6 + 1, none⟩ = some (.int .i64 z.element) := (hbW.cell (p := ⟨g, _, none⟩) hgs).trans (hc 1 (by omega))
    have z2 : wr.cell? ⟨g, o + K * 6 + 2, none⟩ = some (.int .i64 z.under) := (hbW.cell (p := ⟨g, _, none⟩) hgs).trans (hc 2 (by omega))
    have z3 : wr.cell? ⟨g, o + K * 6 + 3, none⟩ = some (.bool z.late) := (hbW.cell (p := ⟨g, _, none⟩) hgs).trans (hc 3 (by omega))
    have z4 : wr.cell? ⟨g, o + K * 6 + 4, none⟩ = some (.bool z.fall) := (hbW.cell (p := ⟨g, _, none⟩) hgs).trans (hc 4 (by omega))
    have z5 : wr.cell? ⟨g, o + K * 6 + 5, none⟩ = some (.slice M z.marks.length m) := (hbW.cell (p := ⟨g, _, none⟩) hgs).trans (hc 5 (by omega))
    obtain ⟨E, hE⟩ : ∃ E, E = wr.heap.size := ⟨_, rfl⟩
    have H1 := Lib.hid (show L1W w5 D wr (.slice A8 es.length c8) (.slice none 0 0) (.int .i64 s.over) es (.slice AV ws.length cV) ws ∧ Has (wr.alloc (.cells (clc z M m) 52)) E 52 (clc z M m) ∧ IRow (wr.alloc (.cells (clc z M m) 52)) (wr.alloc (.cells (clc z M m) 52)).heap.size M z.marks ∧ D < E ∧ Below E wr (wr.alloc (.cells (clc z M m) 52)) ∧ E = wr.heap.size from
      by subst hE; exact ⟨HW.out.1, Has.new _ _ _, ((hm.below hbW).more hbW.size).step (below_one _ _), HW.out.1.l.d.lt, below_one _ _, rfl⟩)
    clear hz hy hK hm9 hgs hc hm HW HX5 hbW hmk
    cases back
    · have hKe : K = m9 := hKm
      subst hKe
      clear hKm
      go_upto_region 15 with fail
      generalize wr.alloc (.cells (clc z M m) 52) = w1 at H1 ⊢
      rw [← hE]
      clear z0 z1 z2 z3 z4 z5 y0 hE ew em
      have t5 : w1.cell? ⟨E, 5, none⟩ = some (.slice M z.marks.length m) := H1.out.2.1.cell 5
      go_wp2_with fail
      refine (HTZ.out _ _ _ H1.out.2.2.1).mono ?_
      rintro e w2 ⟨A2, c2, rfl, hirb, hb2⟩
      have t5' : w2.cell? ⟨E, 5, none⟩ = some (.slice M z.marks.length m) := (H1.out.2.1.below hb2 H1.out.2.1.lt).cell 5
      have f5 := (H1.out.2.1.below hb2 H1.out.2.1.lt).frozen 5
      have H3 := Lib.hid (show L1W w5 D (w2.setCell ⟨E, 5, none⟩ (.slice A2 z.marks.length c2)) (.slice A8 es.length c8) (.slice none 0 0) (.int .i64 s.over) es (.slice AV ws.length cV) ws ∧ Has (w2.setCell ⟨E, 5, none⟩ (.slice A2 z.marks.length c2)) E 52 (clc y A2 c2) ∧ IRA (w2.setCell ⟨E, 5, none⟩ (.slice A2 z.marks.length c2)) (D + 1) (Value.slice A8 es.length c8).ownBlock A2 y.marks ∧ IRA (w2.setCell ⟨E, 5, none⟩ (.slice A2 z.marks.length c2)) (D + 1) (Value.slice AV ws.length cV).ownBlock A2 y.marks ∧ y.marks.length ≤ big from by
        obtain ⟨k1, k2, -, k4, k5, k6⟩ := H1.out
        have hEs := k2.lt
        have hob : ∀ b, (Value.slice A8 es.length c8).ownBlock = some b → b < w1.heap.size := fun b hb => by have := (own_block k1.l.o.own b hb).2; omega
        have hob2 : ∀ b, (Value.slice AV ws.length cV).ownBlock = some b → b < w1.heap.size := fun b hb => by have := (own_block k1.own b hb).2; omega
        have hset : ∀ {oo : Option Nat}, IRA w2 (D + 1) oo A2 y.marks → IRA (w2.setCell ⟨E, 5, none⟩ (.slice A2 z.marks.length c2)) (D + 1) oo A2 y.marks := fun h1 i hi => by
          obtain ⟨b, f, e, q1, q2, q3, q4⟩ := h1 i hi
          obtain ⟨b', f', e', p1, p2, p3⟩ := hirb i hi
          rw [e] at e'
          cases e'
          exact ⟨b, f, e, by simpa [World.setCell] using q1, q2, q3, (cell_far (by simp only; omega)).trans q4⟩
        refine ⟨k1.step ?_, ?_, hset (hirb.ira2 (by omega) (Nat.le_refl _) hob), hset (hirb.ira2 (by omega) (Nat.le_refl _) hob2), by rw [HYL.out]; exact hml⟩
        · rw [← k6]
          exact (k5.trans (hb2.mono (Nat.le_of_lt hEs))).setCell (Nat.le_refl _) _
        · have h := (k2.below hb2 hEs).set 5 (.slice A2 z.marks.length c2)
          have e : clc y A2 c2 = (clc z M m).setIfInBounds 5 (.slice A2 z.marks.length c2) := by
            have e5 := HYL.out
            unfold clc
            rw [e5, HY.out]
            rfl
          rw [e]
          exact h)
      clear hirb hb2 t5 H1
      go_upto_region 16 with fail
      generalize w2.setCell ⟨E, 5, none⟩ (.slice A2 z.marks.length c2) = w3 at H3 ⊢
      clear t5' f5 HY
      have e0 : w3.cell? ⟨E, 0, none⟩ = some (.int .i64 y.place) := H3.out.2.1.cell 0
      have e1 : w3.cell? ⟨E, 1, none⟩ = some (.int .i64 y.element) := H3.out.2.1.cell 1
      have e2 : w3.cell? ⟨E, 2, none⟩ = some (.int .i64 y.under) := H3.out.2.1.cell 2
      have e3 : w3.cell? ⟨E, 3, none⟩ = some (.bool y.late) := H3.out.2.1.cell 3
      have e4 : w3.cell? ⟨E, 4, none⟩ = some (.bool y.fall) := H3.out.2.1.cell 4
      have e5 : w3.cell? ⟨E, 5, none⟩ = some (.slice A2 y.marks.length c2) := H3.out.2.1.cell 5
      have d0 : w3.cell? ⟨D, 0, none⟩ = some (.slice A8 es.length c8) := H3.out.1.l.d.cell 0
      have H5 := Lib.hid (show L1W w5 D (w3.alloc (.cells (clc y A2 c2) 52)) (.slice A8 es.length c8) (.slice none 0 0) (.int .i64 s.over) es (.slice AV ws.length cV) ws ∧ IRA (w3.alloc (.cells (clc y A2 c2) 52)) (D + 1) (Value.slice A8 es.length c8).ownBlock A2 y.marks ∧ IRA (w3.alloc (.cells (clc y A2 c2) 52)) (D + 1) (Value.slice AV ws.length cV).ownBlock A2 y.marks ∧ y.marks.length ≤ big ∧ D + 1 ≤ (w3.alloc (.cells (clc y A2 c2) 52)).heap.size from
        ⟨H3.out.1.step (below_one _ _), H3.out.2.2.1.step (below_one _ _), H3.out.2.2.2.1.step (below_one _ _), H3.out.2.2.2.2, by have := H3.out.1.l.d.lt; simp; omega⟩)
      have HNEW : Hid (∀ i u, (fl6 [(⟨y, A2, c2, 0⟩ : En)])[i]? = some u → (w3.alloc (.cells (clc y A2 c2) 52)).cell? ((⟨w3.heap.size, 0, none⟩ : Addr).add i) = some u) := Lib.hid fun i u hu => by
        rw [addr_add, (Has.new w3 52 (clc y A2 c2)).cell, Nat.zero_add, ← hu]
        simp [fl6, enc6]
      clear H3 HYL
      go_wp2_with (at_builtin; refine wpList_append_lies _ rfl _ _ 25 rfl (D + 1) 52 i0 (.agg #[.int .i64 0, .int .i64 0, .int .i64 0, .bool false, .bool false, .slice none 0 0]) 6 56 Try.underlying25 hi hz0 hz1 hz2 rfl (by decide) (.slice A8 es.length c8) es.length (fl6 es) rfl H5.out.1.l.o.own ⟨w3.heap.size, 0, none⟩ 1 1 (fl6 [(⟨y, A2, c2, 0⟩ : En)]) rfl ?r1 HNEW.out (fl6_one _) ?r2 ?r3 ?r4 ?r5 _ rfl ?_)
      case r1 => rfl
      case r2 => omega
      case r3 => unfold maxLen; omega
      case r4 => omega
      case r5 => exact H5.out.2.2.2.2
      rintro g1 cap1 w9 hown1 hgr1 hgg1 hlt1
      have H6 := Lib.hid (And.intro (H5.out.1.appC (e := ⟨y, A2, c2, 0⟩) (H := w3.heap.size + 1) H5.out.2.1 H5.out.2.2.1 H5.out.2.2.2.1 (by simp) hown1 hgr1 hgg1) (H5.out.1.l.app_d hgr1))
      have d0' : w9.cell? ⟨D, 0, none⟩ = some (.slice A8 es.length c8) := H6.out.2.1.cell 0
      have f0' := H6.out.2.1.frozen 0
      have H7 := Lib.hid H6.out.1
      clear hown1 hgr1 hgg1 hlt1 e0 e1 e2 e3 e4 e5 d0 H5 HNEW
      go_upto_region 17 with fail
      clear d0' f0' H6
      generalize w9.setCell ⟨D, 0, none⟩ (.slice (some ⟨g1, 0, none⟩) (es.length + 1) cap1) = wb at H7 ⊢
      by_cases hv : K < vl.length
      rotate_left
      · have hv2 : ¬ (K : Int) < vl.length := by omega
        have HWE : Hid (wantP s.calls.length t false vl (k + 1) = ws) := Lib.hid (by rw [HWN.out, List.getElem?_eq_none (by omega)]; simp)
        clear hv HWN
        go_wp2_with fail
        go_roundg (s.calls.length - (k + 1))
        case measure => omega
        case rel => exact ⟨k + 1, by omega, Nat.le_refl _, by go_num, .slice (some ⟨g1, 0, none⟩) (es.length + 1) cap1, es ++ [⟨y, A2, c2, 0⟩], ws, Lib.hid ⟨by simpa using H7.out, by rw [List.map_append]; exact HNX.out, HWE.out.symm⟩⟩
      have hv2 : (K : Int) < vl.length := by omega
      have HX8 := Lib.hid (HHI.out wb H7.out.l.b)
      obtain ⟨gv, ov, hgv, hgvs, hcv⟩ := HX8.out.2 K hv
      obtain ⟨v1, hv1⟩ : ∃ v1, v1 = vl[K] := ⟨_, rfl⟩
      rw [← hv1] at hcv
      have HWE : Hid (wantP s.calls.length t false vl (k + 1) = ws ++ [v1]) := Lib.hid (by rw [HWN.out, List.getElem?_eq_getElem hv, hv1])
      subst hgv
      have HOW : Hid (L1W w5 D (wb.alloc (.cells #[.int .i64 v1] 3)) (.slice (some ⟨g1, 0, none⟩) (es.length + 1) cap1) (.slice none 0 0) (.int .i64 s.over) (es ++ [⟨y, A2, c2, 0⟩]) (.slice AV ws.length cV) ws ∧ D + 1 ≤ (wb.alloc (.cells #[.int .i64 v1] 3)).heap.size) := Lib.hid ⟨H7.out.step (below_one _ _), by have := H7.out.l.d.lt; simp; omega⟩
      have HNEW : Hid (∀ j u, (ivl [v1])[j]? = some u → (wb.alloc (.cells #[.int .i64 v1] 3)).cell? ((⟨wb.heap.size, 0, none⟩ : Addr).add j) = some u) := Lib.hid fun j u hu => by
        have hj : j < 1 := by have := (List.getElem?_eq_some_iff.1 hu).1; simpa [ivl] using this
        obtain rfl : j = 0 := by omega
        rw [addr_add, (Has.new wb 3 #[.int .i64 v1]).cell]
        simpa [ivl] using hu
      clear hv hv1 HWN hgvs HX8 H7
      go_wp2_with (at_builtin; refine wpList_append_lies _ rfl _ _ 22 rfl (D + 1) 3 n0 (.int .i64 0) 1 8 Try.underlying22 hni hw0 hw1 hw2 rfl (by decide) (.slice AV ws.length cV) ws.length (ivl ws) rfl HOW.out.1.own ⟨wb.heap.size, 0, none⟩ 1 1 (ivl [v1]) rfl ?q1 HNEW.out (ivl_one _) ?q2 ?q3 ?q4 ?q5 _ rfl ?_)
      case q1 => rfl
      case q2 => omega
      case q3 => unfold maxLen; omega
      case q4 => omega
      case q5 => exact HOW.out.2
      rintro g2 cap2 wc hown2 hgr2 hgg2 hlt2
      have H8 := Lib.hid (HOW.out.1.appW (H := wb.heap.size + 1) (by simp) hown2 hgr2 hgg2)
      clear hown2 hgr2 hgg2 hlt2 HOW HNEW hcv
      go_wp2_with fail
      go_roundg (s.calls.length - (k + 1))
      case measure => omega
      case rel => exact ⟨k + 1, by omega, Nat.le_refl _, by go_num, .slice (some ⟨g1, 0, none⟩) (es.length + 1) cap1, es ++ [⟨y, A2, c2, 0⟩], ws ++ [v1], Lib.hid ⟨by simpa using H8.out, by rw [List.map_append]; exact HNX.out, HWE.out.symm⟩⟩
    · have e1 : IntKind.i64.wrap ((s.calls.length : Int) - 1) = (s.calls.length : Int) - 1 := IntWalk.i64_in _ (by omega)
      have hKe : K = s.calls.length - 1 - m9 := hKm
      have e2 : IntKind.i64.wrap ((s.calls.length : Int) - 1 - m9) = (K : Int) := by rw [IntWalk.i64_in _ (by omega)]; omega
      clear hKm hKe
      go_upto_region 15 with fail
      generalize wr.alloc (.cells (clc z M m) 52) = w1 at H1 ⊢
      rw [← hE]
      clear z0 z1 z2 z3 z4 z5 y0 hE ew em e1 e2
      have t5 : w1.cell? ⟨E, 5, none⟩ = some (.slice M z.marks.length m) := H1.out.2.1.cell 5
      go_wp2_with fail
      refine (HTZ.out _ _ _ H1.out.2.2.1).mono ?_
      rintro e w2 ⟨A2, c2, rfl, hirb, hb2⟩
      have t5' : w2.cell? ⟨E, 5, none⟩ = some (.slice M z.marks.length m) := (H1.out.2.1.below hb2 H1.out.2.1.lt).cell 5
      have f5 := (H1.out.2.1.below hb2 H1.out.2.1.lt).frozen 5
      have H3 := Lib.hid (show L1W w5 D (w2.setCell ⟨E, 5, none⟩ (.slice A2 z.marks.length c2)) (.slice A8 es.length c8) (.slice none 0 0) (.int .i64 s.over) es (.slice AV ws.length cV) ws ∧ Has (w2.setCell ⟨E, 5, none⟩ (.slice A2 z.marks.length c2)) E 52 (clc y A2 c2) ∧ IRA (w2.setCell ⟨E, 5, none⟩ (.slice A2 z.marks.length c2)) (D + 1) (Value.slice A8 es.length c8).ownBlock A2 y.marks ∧ IRA (w2.setCell ⟨E, 5, none⟩ (.slice A2 z.marks.length c2)) (D + 1) (Value.slice AV ws.length cV).ownBlock A2 y.marks ∧ y.marks.length ≤ big from by
        obtain ⟨k1, k2, -, k4, k5, k6⟩ := H1.out
        have hEs := k2.lt
        have hob : ∀ b, (Value.slice A8 es.length c8).ownBlock = some b → b < w1.heap.size := fun b hb => by have := (own_block k1.l.o.own b hb).2; omega
        have hob2 : ∀ b, (Value.slice AV ws.length cV).ownBlock = some b → b < w1.heap.size := fun b hb => by have := (own_block k1.own b hb).2; omega
        have hset : ∀ {oo : Option Nat}, IRA w2 (D + 1) oo A2 y.marks → IRA (w2.setCell ⟨E, 5, none⟩ (.slice A2 z.marks.length c2)) (D + 1) oo A2 y.marks := fun h1 i hi => by
          obtain ⟨b, f, e, q1, q2, q3, q4⟩ := h1 i hi
          obtain ⟨b', f', e', p1, p2, p3⟩ := hirb i hi
          rw [e] at e'
          cases e'
          exact ⟨b, f, e, by simpa [World.setCell] using q1, q2, q3, (cell_far (by simp only; omega)).trans q4⟩
        refine ⟨k1.step ?_, ?_, hset (hirb.ira2 (by omega) (Nat.le_refl _) hob), hset (hirb.ira2 (by omega) (Nat.le_refl _) hob2), by rw [HYL.out]; exact hml⟩
        · rw [← k6]
          exact (k5.trans (hb2.mono (Nat.le_of_lt hEs))).setCell (Nat.le_refl _) _
        · have h := (k2.below hb2 hEs).set 5 (.slice A2 z.marks.length c2)
          have e : clc y A2 c2 = (clc z M m).setIfInBounds 5 (.slice A2 z.marks.length c2) := by
            have e5 := HYL.out
            unfold clc
            rw [e5, HY.out]
            rfl
          rw [e]
          exact h)
      clear hirb hb2 t5 H1
      go_upto_region 16 with fail
      generalize w2.setCell ⟨E, 5, none⟩ (.slice A2 z.marks.length c2) = w3 at H3 ⊢
      clear t5' f5 HY
      have e0 : w3.cell? ⟨E, 0, none⟩ = some (.int .i64 y.place) := H3.out.2.1.cell 0
      have e1 : w3.cell? ⟨E, 1, none⟩ = some (.int .i64 y.element) := H3.out.2.1.cell 1
      have e2 : w3.cell? ⟨E, 2, none⟩ = some (.int .i64 y.under) := H3.out.2.1.cell 2
      have e3 : w3.cell? ⟨E, 3, none⟩ = some (.bool y.late) := H3.out.2.1.cell 3
      have e4 : w3.cell? ⟨E, 4, none⟩ = some (.bool y.fall) := H3.out.2.1.cell 4
      have e5 : w3.cell? ⟨E, 5, none⟩ = some (.slice A2 y.marks.length c2) := H3.out.2.1.cell 5
      have d0 : w3.cell? ⟨D, 0, none⟩ = some (.slice A8 es.length c8) := H3.out.1.l.d.cell 0
      have H5 := Lib.hid (show L1W w5 D (w3.alloc (.cells (clc y A2 c2) 52)) (.slice A8 es.length c8) (.slice none 0 0) (.int .i64 s.over) es (.slice AV ws.length cV) ws ∧ IRA (w3.alloc (.cells (clc y A2 c2) 52)) (D + 1) (Value.slice A8 es.length c8).ownBlock A2 y.marks ∧ IRA (w3.alloc (.cells (clc y A2 c2) 52)) (D + 1) (Value.slice AV ws.length cV).ownBlock A2 y.marks ∧ y.marks.length ≤ big ∧ D + 1 ≤ (w3.alloc (.cells (clc y A2 c2) 52)).heap.size from
        ⟨H3.out.1.step (below_one _ _), H3.out.2.2.1.step (below_one _ _), H3.out.2.2.2.1.step (below_one _ _), H3.out.2.2.2.2, by have := H3.out.1.l.d.lt; simp; omega⟩)
      have HNEW : Hid (∀ i u, (fl6 [(⟨y, A2, c2, 0⟩ : En)])[i]? = some u → (w3.alloc (.cells (clc y A2 c2) 52)).cell? ((⟨w3.heap.size, 0, none⟩ : Addr).add i) = some u) := Lib.hid fun i u hu => by
        rw [addr_add, (Has.new w3 52 (clc y A2 c2)).cell, Nat.zero_add, ← hu]
        simp [fl6, enc6]
      clear H3 HYL
      go_wp2_with (at_builtin; refine wpList_append_lies _ rfl _ _ 25 rfl (D + 1) 52 i0 (.agg #[.int .i64 0, .int .i64 0, .int .i64 0, .bool false, .bool false, .slice none 0 0]) 6 56 Try.underlying25 hi hz0 hz1 hz2 rfl (by decide) (.slice A8 es.length c8) es.length (fl6 es) rfl H5.out.1.l.o.own ⟨w3.heap.size, 0, none⟩ 1 1 (fl6 [(⟨y, A2, c2, 0⟩ : En)]) rfl ?r1 HNEW.out (fl6_one _) ?r2 ?r3 ?r4 ?r5 _ rfl ?_)
      case r1 => rfl
      case r2 => omega
      case r3 => unfold maxLen; omega
      case r4 => omega
      case r5 => exact H5.out.2.2.2.2
      rintro g1 cap1 w9 hown1 hgr1 hgg1 hlt1
      have H6 := Lib.hid (And.intro (H5.out.1.appC (e := ⟨y, A2, c2, 0⟩) (H := w3.heap.size + 1) H5.out.2.1 H5.out.2.2.1 H5.out.2.2.2.1 (by simp) hown1 hgr1 hgg1) (H5.out.1.l.app_d hgr1))
      have d0' : w9.cell? ⟨D, 0, none⟩ = some (.slice A8 es.length c8) := H6.out.2.1.cell 0
      have f0' := H6.out.2.1.frozen 0
      have H7 := Lib.hid H6.out.1
      clear hown1 hgr1 hgg1 hlt1 e0 e1 e2 e3 e4 e5 d0 H5 HNEW
      go_upto_region 17 with fail
      clear d0' f0' H6
      generalize w9.setCell ⟨D, 0, none⟩ (.slice (some ⟨g1, 0, none⟩) (es.length + 1) cap1) = wb at H7 ⊢
      by_cases hv : K < vl.length
      rotate_left
      · have hv2 : ¬ (K : Int) < vl.length := by omega
        have HWE : Hid (wantP s.calls.length t true vl (k + 1) = ws) := Lib.hid (by rw [HWN.out, List.getElem?_eq_none (by omega)]; simp)
        clear hv HWN
        go_wp2_with fail
        go_roundg (s.calls.length - (k + 1))
        case measure => omega
        case rel => exact ⟨k + 1, by omega, Nat.le_refl _, by go_num, .slice (some ⟨g1, 0, none⟩) (es.length + 1) cap1, es ++ [⟨y, A2, c2, 0⟩], ws, Lib.hid ⟨by simpa using H7.out, by rw [List.map_append]; exact HNX.out, HWE.out.symm⟩⟩
      have hv2 : (K : Int) < vl.length := by omega
      have HX8 := Lib.hid (HHI.out wb H7.out.l.b)
      obtain ⟨gv, ov, hgv, hgvs, hcv⟩ := HX8.out.2 K hv
      obtain ⟨v1, hv1⟩ : ∃ v1, v1 = vl[K] := ⟨_, rfl⟩
      rw [← hv1] at hcv
      have HWE : Hid (wantP s.calls.length t true vl (k + 1) = ws ++ [v1]) := Lib.hid (by rw [HWN.out, List.getElem?_eq_getElem hv, hv1])
      subst hgv
      have HOW : Hid (L1W w5 D (wb.alloc (.cells #[.int .i64 v1] 3)) (.slice (some ⟨g1, 0, none⟩) (es.length + 1) cap1) (.slice none 0 0) (.int .i64 s.over) (es ++ [⟨y, A2, c2, 0⟩]) (.slice AV ws.length cV) ws ∧ D + 1 ≤ (wb.alloc (.cells #[.int .i64 v1] 3)).heap.size) := Lib.hid ⟨H7.out.step (below_one _ _), by have := H7.out.l.d.lt; simp; omega⟩
      have HNEW : Hid (∀ j u, (ivl [v1])[j]? = some u → (wb.alloc (.cells #[.int .i64 v1] 3)).cell? ((⟨wb.heap.size, 0, none⟩ : Addr).add j) = some u) := Lib.hid fun j u hu => by
        have hj : j < 1 := by have := (List.getElem?_eq_some_iff.1 hu).1; simpa [ivl] using this
        obtain rfl : j = 0 := by omega
        rw [addr_add, (Has.new wb 3 #[.int .i64 v1]).cell]
        simpa [ivl] using hu
      clear hv hv1 HWN hgvs HX8 H7
      go_wp2_with (at_builtin; refine wpList_append_lies _ rfl _ _ 22 rfl (D + 1) 3 n0 (.int .i64 0) 1 8 Try.underlying22 hni hw0 hw1 hw2 rfl (by decide) (.slice AV ws.length cV) ws.length (ivl ws) rfl HOW.out.1.own ⟨wb.heap.size, 0, none⟩ 1 1 (ivl [v1]) rfl ?q1 HNEW.out (ivl_one _) ?q2 ?q3 ?q4 ?q5 _ rfl ?_)
      case q1 => rfl
      case q2 => omega
      case q3 => unfold maxLen; omega
      case q4 => omega
      case q5 => exact HOW.out.2
      rintro g2 cap2 wc hown2 hgr2 hgg2 hlt2
      have H8 := Lib.hid (HOW.out.1.appW (H := wb.heap.size + 1) (by simp) hown2 hgr2 hgg2)
      clear hown2 hgr2 hgg2 hlt2 HOW HNEW hcv
      go_wp2_with fail
      go_roundg (s.calls.length - (k + 1))
      case measure => omega
      case rel => exact ⟨k + 1, by omega, Nat.le_refl _, by go_num, .slice (some ⟨g1, 0, none⟩) (es.length + 1) cap1, es ++ [⟨y, A2, c2, 0⟩], ws ++ [v1], Lib.hid ⟨by simpa using H8.out, by rw [List.map_append]; exact HNX.out, HWE.out.symm⟩⟩
end Go.Proofs.Ytmclchaalmonnaa
