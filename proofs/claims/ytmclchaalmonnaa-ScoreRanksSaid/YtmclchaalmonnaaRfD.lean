/- The document's Counts, value. -/
import Derived.Test.YtmclchaalmonnaaRfC
namespace Go.Proofs.Ytmclchaalmonnaa
open Go.RowKit Go.Lib
attribute [local irreducible] wpQuiet
theorem ahead_succ {l : List Cl} {k : Nat} (h : k < l.length) (y : Cl) : ahead (l.take (k + 1)) y = ahead (l.take k) y + (if decide (l[k].element = y.element) && decide (l[k].place < y.place) then 1 else 0) := by
  unfold ahead
  rw [List.take_succ_eq_append_getElem h, List.countP_append]
  simp [List.countP_cons]
theorem ahead_le (l : List Cl) (k : Nat) (y : Cl) : ahead (l.take k) y ≤ k := Nat.le_trans List.countP_le_length (by rw [List.length_take]; omega)
set_option maxRecDepth 100000 in
set_option maxHeartbeats 2000000 in
theorem Counts_any (r : Ru) (A : Option Addr) (c : Nat) (s : Sk) (AC AP : Option Addr) (cc cp k0 : Nat) (W : World) (hr : RuR W W.heap.size r A) (hs : SkR W W.heap.size s AC AP) (hn : s.calls.length ≤ 1000) (hk0 : k0 < s.calls.length) :
    Calls Try.prog 68 #[ruv r A c, skv s AC AP cc cp, .int .i64 k0] W (BoolPost (decide ((ahead s.calls s.calls[k0] : Int) < r.most)) W) := by
  have HB : Hid (VB W ((W.alloc (.cells (ruc r A c) 24)).alloc (.cells (skc s AC AP cc cp) 28)) r A c s AC AP cc cp) := Lib.hid (VB.start hr hs)
  obtain ⟨g, o, M, m, rfl, hgs, hcy, -, -⟩ := hs.c k0 hk0
  have HROW : Hid (∀ w, Below W.heap.size W w → ∀ k (hk : k < s.calls.length) j, j < 2 → w.cell? ⟨g, o + k * 6 + j, none⟩ = (#[Value.int .i64 s.calls[k].place, .int .i64 s.calls[k].element])[j]?) := Lib.hid fun w hb k hk j hj => by
    obtain ⟨g', o', M', m', e, hg', hc', -, -⟩ := hs.c k hk
    cases e
    rw [(hb.cell (p := ⟨g, _, none⟩) hgs), hc' j (by omega)]
    match j, hj with
    | 0, _ => rfl
    | 1, _ => rfl
  obtain ⟨y, hy⟩ : ∃ y, y = s.calls[k0] := ⟨_, rfl⟩
  have HYC : Hid (∀ w, Below W.heap.size W w → w.cell? ⟨g, o + k0 * 6, none⟩ = some (.int .i64 y.place) ∧ w.cell? ⟨g, o + k0 * 6 + 1, none⟩ = some (.int .i64 y.element)) := Lib.hid fun w hb => by
    have h0 := HROW.out w hb k0 hk0 0 (by omega)
    have h1 := HROW.out w hb k0 hk0 1 (by omega)
    rw [← hy] at h0 h1
    exact ⟨h0, h1⟩
  rw [← hy]
  have hmix : Try.prog.follows .mixedOrders = true := by kernel_rfl
  have hk0' : (k0 : Int) < s.calls.length := by omega
  clear hr hs hcy hy
  unfold ruv skv
  go_enter Try.func68, Try.ntmps68
  go_upto_region 1 with fail
  generalize (W.alloc (.cells (ruc r A c) 24)).alloc (.cells (skc s (some ⟨g, o, none⟩) AP cc cp) 28) = w0 at HB ⊢
  go_wp2_with fail
  go_loopg [8, 7] s.calls.length (fun gk i n wr => ∃ k : Nat, k ≤ s.calls.length ∧ s.calls.length - k ≤ gk ∧ i = .int .i64 k ∧ n = .int .i64 (ahead (s.calls.take k) y : Nat) ∧ Hid (VB W wr r A c s (some ⟨g, o, none⟩) AP cc cp))
  case atStart => exact ⟨0, Nat.zero_le _, Nat.le_refl _, rfl, rfl, HB⟩
  case round =>
    clear HB
    obtain ⟨k, hk, hgk, rfl, rfl, HW⟩ := hrel
    have x0 : wr.cell? ⟨W.heap.size + 1, 0, none⟩ = some (.slice (some ⟨g, o, none⟩) s.calls.length cc) := HW.out.fs.cell 0
    by_cases hlt : k < s.calls.length
    rotate_left
    · have hge : ¬ (k : Int) < s.calls.length := by omega
      have HE : Hid (ahead (s.calls.take k) y = ahead s.calls y) := Lib.hid (by rw [List.take_of_length_le (by omega)])
      generalize ahead (s.calls.take k) y = q at *
      have x2 : wr.cell? ⟨W.heap.size, 2, none⟩ = some (.int .i64 r.most) := HW.out.r.fr.cell 2
      go_wp2_with fail
      go_ret
      exact ⟨ret_bool (by rw [HE.out]), HW.out.r.b⟩
    have hlt2 : (k : Int) < s.calls.length := by omega
    have hq := ahead_le s.calls k y
    have HN := Lib.hid (ahead_succ hlt y)
    obtain ⟨q, hqe⟩ : ∃ q, q = ahead (s.calls.take k) y := ⟨_, rfl⟩
    have HXC : Hid (∀ w, Below W.heap.size W w → w.cell? ⟨g, o + k * 6, none⟩ = some (.int .i64 s.calls[k].place) ∧ w.cell? ⟨g, o + k * 6 + 1, none⟩ = some (.int .i64 s.calls[k].element)) := Lib.hid fun w hb => ⟨HROW.out w hb k hlt 0 (by omega), HROW.out w hb k hlt 1 (by omega)⟩
    obtain ⟨x, hx⟩ : ∃ x, x = s.calls[k] := ⟨_, rfl⟩
    rw [← hqe] at hq HN ⊢
    rw [← hx] at HN HXC
    clear hqe hx
    go_upto_region 5 with fail
    clear x0
    haveI hne : Nonempty (Cls (fun w' => VB W w' r A c s (some ⟨g, o, none⟩) AP cc cp)) := ⟨⟨_, HW.out.step ((Below.refl _ _).drew)⟩⟩
    have HD := Lib.hid (HW.out.step ((Below.refl _ _).drew))
    have hx0 : ∀ pc : Cls (fun w' => VB W w' r A c s (some ⟨g, o, none⟩) AP cc cp), pc.w.cell? ⟨W.heap.size + 1, 0, none⟩ = some (.slice (some ⟨g, o, none⟩) s.calls.length cc) := fun pc => pc.h.fs.cell 0
    have hx1 : ∀ pc : Cls (fun w' => VB W w' r A c s (some ⟨g, o, none⟩) AP cc cp), pc.w.cell? ⟨g, o + k * 6, none⟩ = some (.int .i64 x.place) := fun pc => (HXC.out _ pc.h.r.b).1
    have hx2 : ∀ pc : Cls (fun w' => VB W w' r A c s (some ⟨g, o, none⟩) AP cc cp), pc.w.cell? ⟨g, o + k * 6 + 1, none⟩ = some (.int .i64 x.element) := fun pc => (HXC.out _ pc.h.r.b).2
    have hy1 : ∀ pc : Cls (fun w' => VB W w' r A c s (some ⟨g, o, none⟩) AP cc cp), pc.w.cell? ⟨g, o + k0 * 6, none⟩ = some (.int .i64 y.place) := fun pc => (HYC.out _ pc.h.r.b).1
    have hy2 : ∀ pc : Cls (fun w' => VB W w' r A c s (some ⟨g, o, none⟩) AP cc cp), pc.w.cell? ⟨g, o + k0 * 6 + 1, none⟩ = some (.int .i64 y.element) := fun pc => (HYC.out _ pc.h.r.b).2
    have h3 : ¬ x.element = y.element ∨ (x.element = y.element ∧ ¬ x.place < y.place) ∨ (x.element = y.element ∧ x.place < y.place) := by omega
    rcases h3 with p0 | ⟨p0, p1⟩ | ⟨p0, p1⟩
    · have HN2 := Lib.hid (show ahead (s.calls.take (k + 1)) y = q by rw [HN.out]; simp [p0])
      have q0 : (x.element == y.element) = false := by simpa using p0
      clear HN
      refine wp_region_cls (fun w' => VB W w' r A c s (some ⟨g, o, none⟩) AP cc cp) hmix (by kernel_rfl) HD.out ?_
      repeat (quiet_step (fail))
      refine wpQuiet_nil ?_
      rintro w7 ⟨⟨_, hw7⟩, rfl⟩
      have H7 := Lib.hid hw7
      clear hx0 hx1 hx2 hy1 hy2 hne hw7 p0
      try simp only []
      go_wp2_with fail
      go_roundg (s.calls.length - (k + 1))
      case measure => omega
      case rel => exact ⟨k + 1, by omega, Nat.le_refl _, by go_num, by rw [HN2.out], H7⟩
    · have HN2 := Lib.hid (show ahead (s.calls.take (k + 1)) y = q by rw [HN.out]; simp [p0]; omega)
      have q0 : (x.element == y.element) = true := by simpa using p0
      clear HN
      refine wp_region_cls (fun w' => VB W w' r A c s (some ⟨g, o, none⟩) AP cc cp) hmix (by kernel_rfl) HD.out ?_
      repeat (quiet_step (fail))
      refine wpQuiet_nil ?_
      rintro w7 ⟨⟨_, hw7⟩, rfl⟩
      have H7 := Lib.hid hw7
      clear hx0 hx1 hx2 hy1 hy2 hne hw7 p0
      try simp only []
      go_wp2_with fail
      go_roundg (s.calls.length - (k + 1))
      case measure => omega
      case rel => exact ⟨k + 1, by omega, Nat.le_refl _, by go_num, by rw [HN2.out], H7⟩
    · have HN2 := Lib.hid (show ahead (s.calls.take (k + 1)) y = q + 1 by rw [HN.out]; simp [p0, p1])
      have q0 : (x.element == y.element) = true := by simpa using p0
      clear HN
      refine wp_region_cls (fun w' => VB W w' r A c s (some ⟨g, o, none⟩) AP cc cp) hmix (by kernel_rfl) HD.out ?_
      repeat (quiet_step (fail))
      refine wpQuiet_nil ?_
      rintro w7 ⟨⟨_, hw7⟩, rfl⟩
      have H7 := Lib.hid hw7
      clear hx0 hx1 hx2 hy1 hy2 hne hw7 p0
      try simp only []
      go_wp2_with fail
      go_roundg (s.calls.length - (k + 1))
      case measure => omega
      case rel => exact ⟨k + 1, by omega, Nat.le_refl _, by go_num, by rw [HN2.out]; go_num, H7⟩
set_option maxRecDepth 100000 in
set_option maxHeartbeats 2000000 in
theorem dvalue_any (r : Ru) (A : Option Addr) (c : Nat) (s : Sk) (AC AP : Option Addr) (cc cp k0 : Nat) (W : World) (hr : RuR W W.heap.size r A) (hs : SkR W W.heap.size s AC AP) (hvr : VR r) (hvs : VS r s) (hk0 : k0 < s.calls.length) :
    Calls Try.prog 43 #[ruv r A c, skv s AC AP cc cp, .int .i64 k0] W (IntPost (valP r s.calls s.calls[k0]) W) := by
  have HB : Hid (VB W ((W.alloc (.cells (ruc r A c) 24)).alloc (.cells (skc s AC AP cc cp) 28)) r A c s AC AP cc cp) := Lib.hid (VB.start hr hs)
  have HCN := Lib.hid (fun w (h : VB W w r A c s AC AP cc cp) => Counts_any r A c s AC AP cc cp k0 w (h.r.rr.more h.r.b.size) (h.rs.more h.r.b.size) (by have := hvs.nc; omega) hk0)
  obtain ⟨g, o, M, m, e, hgs, hcy, hmr, hml⟩ := hs.c k0 hk0
  obtain ⟨hvc, hel, -⟩ := hvs.c _ (List.getElem_mem hk0)
  obtain ⟨x, hx⟩ : ∃ x, x = s.calls[k0] := ⟨_, rfl⟩
  rw [← hx] at hcy hmr hvc hel HCN ⊢
  obtain ⟨el, hee⟩ : ∃ el : Nat, x.element = (el : Int) := ⟨x.element.toNat, by omega⟩
  have heln : el < r.bases.length := by omega
  have hbd : r.bases.getD el 0 = r.bases[el] := by simp [List.getD, heln]
  have hV : valP r s.calls x = if (ahead s.calls x : Int) < r.most then valC r.bases[el] x else 0 := by unfold valP; rw [hee]; simp only [Int.toNat_natCast]; rw [hbd]
  obtain ⟨gb, ob, hgb, hgbs, hcb⟩ := hr.b el heln
  have hbv := hvr.b _ (List.getElem_mem heln)
  obtain ⟨b, hbe⟩ : ∃ b, b = r.bases[el] := ⟨_, rfl⟩
  rw [← hbe] at hcb hbv hV
  have HC : Hid (∀ w, Below W.heap.size W w → (∀ j, j < 6 → w.cell? ⟨g, o + k0 * 6 + j, none⟩ = (clc x M m)[j]?) ∧ w.cell? ⟨gb, ob + el, none⟩ = some (.int .i64 b) ∧ IRow w W.heap.size M x.marks) := Lib.hid fun w hb => ⟨fun j hj => (hb.cell (p := ⟨g, _, none⟩) hgs).trans (hcy j hj), (hb.cell (p := ⟨gb, _, none⟩) hgbs).trans hcb, hmr.below hb⟩
  have HCT := Lib.hid (fun w (h : Below W.heap.size W w) => counts_any x.marks M m w (((HC.out w h).2.2).more h.size) hvc.l1 hvc.l9 (fun y hy => by have := hvc.m y hy; omega))
  unfold TwoPost at HCT
  have hmix : Try.prog.follows .mixedOrders = true := by kernel_rfl
  have hk0' : (k0 : Int) < s.calls.length := by omega
  have hel' : (el : Int) < r.bases.length := by omega
  have hmll := mid_len_bd hvc.l1 hvc.l9
  have hms := mid_sum_bd (M := 5) (by omega) hvc.l1 hvc.l9 (fun y hy => hvc.m y hy)
  have hu := hvc.under
  have hVC : valC b x = rnd (b * (10 - 2 * x.under) * (if x.late then 11 else 10)) 100 + rnd ((mid x.marks).sum * (b * (10 - 2 * x.under))) (100 * ((mid x.marks).length : Int)) := rfl
  subst e hgb
  obtain ⟨V, hVe⟩ : ∃ V, V = valP r s.calls x := ⟨_, rfl⟩
  rw [← hVe] at hV ⊢
  have HEL := Lib.hid hee
  clear hr hs hvr hvs hgs hcy hmr hgbs hcb hbe hbd heln hel hx hVe hee
  generalize (mid x.marks).sum = S at *
  obtain ⟨n, hnn⟩ : ∃ n, n = (mid x.marks).length := ⟨_, rfl⟩
  rw [← hnn] at hmll hVC HCT
  obtain ⟨p, hp⟩ : ∃ p, p = b * (10 - 2 * x.under) := ⟨_, rfl⟩
  have hpb : 0 ≤ p ∧ p ≤ 20000 := by
    have h1 := mul_bd (a := b) (b := 10 - 2 * x.under) (A := 2000) (B := 10) (by omega) (by omega) (by omega)
    have h2 : 0 ≤ b * (10 - 2 * x.under) := Int.mul_nonneg hbv.1 (by omega)
    omega
  rw [← hp] at hVC
  obtain ⟨q, hq⟩ : ∃ q, q = S * p := ⟨_, rfl⟩
  have hqb : -900000 ≤ q ∧ q ≤ 900000 := by
    have := mul_bd (a := S) (b := p) (A := 45) (B := 20000) (by omega) hpb (by omega)
    omega
  rw [← hq] at hVC
  have hq' := hq.symm
  have w1 : IntKind.i64.wrap (2 * x.under) = 2 * x.under := IntWalk.i64_in _ (by omega)
  have w2 : IntKind.i64.wrap (10 - 2 * x.under) = 10 - 2 * x.under := IntWalk.i64_in _ (by omega)
  have w3 : IntKind.i64.wrap (b * (10 - 2 * x.under)) = p := by rw [← hp]; exact IntWalk.i64_in _ (by omega)
  have HR2 := Lib.hid (fun w => Round_any q (100 * (n : Int)) w (by omega) (by omega))
  have hr2 := rnd_bd (n := q) (b := 100 * (n : Int)) (M := 900000) (by omega) (by omega)
  have HRT := Lib.hid (fun t (ht : 0 ≤ t ∧ t ≤ 11) w => Round_any (p * t) 100 w (by have := mul_bd (a := p) (b := t) (A := 20000) (B := 11) (by omega) ht (by omega); omega) (by omega))
  have HVC := Lib.hid hVC
  have HV := Lib.hid hV
  clear hp hq hnn hVC hV
  unfold ruv skv at *
  by_cases hcn : (ahead s.calls x : Int) < r.most
  rotate_left
  · have HE : Hid (V = 0) := Lib.hid (by rw [HV.out, if_neg hcn])
    rw [show decide ((ahead s.calls x : Int) < r.most) = false by simpa using hcn] at HCN
    clear hcn HV HVC w1 w2 w3 HR2 HRT HCT hr2
    go_enter Try.func43, Try.ntmps43
    go_upto_region 1 with fail
    generalize (W.alloc (.cells (ruc r (some ⟨gb, ob, none⟩) c) 24)).alloc (.cells (skc s (some ⟨g, o, none⟩) AP cc cp) 28) = w0 at HB ⊢
    have y0 : w0.cell? ⟨W.heap.size + 1, 0, none⟩ = some (.slice (some ⟨g, o, none⟩) s.calls.length cc) := HB.out.fs.cell 0
    obtain ⟨hcx, -, -⟩ := HC.out w0 HB.out.r.b
    have z0 : w0.cell? ⟨g, o + k0 * 6, none⟩ = some (.int .i64 x.place) := hcx 0 (by omega)
    have z1 : w0.cell? ⟨g, o + k0 * 6 + 1, none⟩ = some (.int .i64 x.element) := hcx 1 (by omega)
    have z2 : w0.cell? ⟨g, o + k0 * 6 + 2, none⟩ = some (.int .i64 x.under) := hcx 2 (by omega)
    have z3 : w0.cell? ⟨g, o + k0 * 6 + 3, none⟩ = some (.bool x.late) := hcx 3 (by omega)
    have z4 : w0.cell? ⟨g, o + k0 * 6 + 4, none⟩ = some (.bool x.fall) := hcx 4 (by omega)
    have z5 : w0.cell? ⟨g, o + k0 * 6 + 5, none⟩ = some (.slice M x.marks.length m) := hcx 5 (by omega)
    unfold big at hml
    clear hcx
    go_upto_region 2 with fail
    have H1 := Lib.hid (show VB W (w0.alloc (.cells (clc x M m) 52)) r (some ⟨gb, ob, none⟩) c s (some ⟨g, o, none⟩) AP cc cp ∧ Has (w0.alloc (.cells (clc x M m) 52)) w0.heap.size 52 (clc x M m) from ⟨HB.out.step (below_one _ _), Has.new _ _ _⟩)
    clear y0 z0 z1 z2 z3 z4 z5 HB
    generalize w0.alloc (.cells (clc x M m) 52) = wa at H1 ⊢
    generalize w0.heap.size = D at H1 ⊢
    have x0 : wa.cell? ⟨W.heap.size, 0, none⟩ = some (.slice (some ⟨gb, ob, none⟩) r.bases.length c) := H1.out.1.r.fr.cell 0
    have x1 : wa.cell? ⟨W.heap.size, 1, none⟩ = some (.int .i64 r.factor) := H1.out.1.r.fr.cell 1
    have x2 : wa.cell? ⟨W.heap.size, 2, none⟩ = some (.int .i64 r.most) := H1.out.1.r.fr.cell 2
    have y0 : wa.cell? ⟨W.heap.size + 1, 0, none⟩ = some (.slice (some ⟨g, o, none⟩) s.calls.length cc) := H1.out.1.fs.cell 0
    have y1 : wa.cell? ⟨W.heap.size + 1, 1, none⟩ = some (.slice AP s.parts.length cp) := H1.out.1.fs.cell 1
    have y2 : wa.cell? ⟨W.heap.size + 1, 2, none⟩ = some (.int .i64 s.over) := H1.out.1.fs.cell 2
    go_wp2_with fail
    refine (HCN.out _ H1.out.1).mono ?_
    rintro e w2 ⟨rfl, hb2⟩
    have H2 := Lib.hid (H1.out.1.step hb2)
    clear hb2 x0 x1 x2 y0 y1 y2
    go_wp2_with fail
    go_ret
    exact ⟨ret_int HE.out.symm, H2.out.r.b⟩
  have HE : Hid (V = valC b x) := Lib.hid (by rw [HV.out, if_pos hcn])
  rw [show decide ((ahead s.calls x : Int) < r.most) = true by simpa using hcn] at HCN
  clear hcn HV
  go_enter Try.func43, Try.ntmps43
  go_upto_region 1 with fail
  generalize (W.alloc (.cells (ruc r (some ⟨gb, ob, none⟩) c) 24)).alloc (.cells (skc s (some ⟨g, o, none⟩) AP cc cp) 28) = w0 at HB ⊢
  have y0 : w0.cell? ⟨W.heap.size + 1, 0, none⟩ = some (.slice (some ⟨g, o, none⟩) s.calls.length cc) := HB.out.fs.cell 0
  obtain ⟨hcx, -, -⟩ := HC.out w0 HB.out.r.b
  have z0 : w0.cell? ⟨g, o + k0 * 6, none⟩ = some (.int .i64 x.place) := hcx 0 (by omega)
  have z1 : w0.cell? ⟨g, o + k0 * 6 + 1, none⟩ = some (.int .i64 x.element) := hcx 1 (by omega)
  have z2 : w0.cell? ⟨g, o + k0 * 6 + 2, none⟩ = some (.int .i64 x.under) := hcx 2 (by omega)
  have z3 : w0.cell? ⟨g, o + k0 * 6 + 3, none⟩ = some (.bool x.late) := hcx 3 (by omega)
  have z4 : w0.cell? ⟨g, o + k0 * 6 + 4, none⟩ = some (.bool x.fall) := hcx 4 (by omega)
  have z5 : w0.cell? ⟨g, o + k0 * 6 + 5, none⟩ = some (.slice M x.marks.length m) := hcx 5 (by omega)
  unfold big at hml
  clear hcx
  go_upto_region 2 with fail
  have H1 := Lib.hid (show VB W (w0.alloc (.cells (clc x M m) 52)) r (some ⟨gb, ob, none⟩) c s (some ⟨g, o, none⟩) AP cc cp ∧ Has (w0.alloc (.cells (clc x M m) 52)) w0.heap.size 52 (clc x M m) from ⟨HB.out.step (below_one _ _), Has.new _ _ _⟩)
  clear y0 z0 z1 z2 z3 z4 z5 HB
  generalize w0.alloc (.cells (clc x M m) 52) = wa at H1 ⊢
  generalize w0.heap.size = D at H1 ⊢
  have x0 : wa.cell? ⟨W.heap.size, 0, none⟩ = some (.slice (some ⟨gb, ob, none⟩) r.bases.length c) := H1.out.1.r.fr.cell 0
  have x1 : wa.cell? ⟨W.heap.size, 1, none⟩ = some (.int .i64 r.factor) := H1.out.1.r.fr.cell 1
  have x2 : wa.cell? ⟨W.heap.size, 2, none⟩ = some (.int .i64 r.most) := H1.out.1.r.fr.cell 2
  have y0 : wa.cell? ⟨W.heap.size + 1, 0, none⟩ = some (.slice (some ⟨g, o, none⟩) s.calls.length cc) := H1.out.1.fs.cell 0
  have y1 : wa.cell? ⟨W.heap.size + 1, 1, none⟩ = some (.slice AP s.parts.length cp) := H1.out.1.fs.cell 1
  have y2 : wa.cell? ⟨W.heap.size + 1, 2, none⟩ = some (.int .i64 s.over) := H1.out.1.fs.cell 2
  go_wp2_with fail
  refine (HCN.out _ H1.out.1).mono ?_
  rintro e wb ⟨rfl, hb2⟩
  have H2 := Lib.hid (show VB W wb r (some ⟨gb, ob, none⟩) c s (some ⟨g, o, none⟩) AP cc cp ∧ Has wb D 52 (clc x M m) from ⟨H1.out.1.step hb2, H1.out.2.below hb2 H1.out.2.lt⟩)
  clear hb2 x0 x1 x2 y0 y1 y2 H1 HCN
  go_upto_region 4 with fail
  haveI hne : Nonempty (Cls (fun w' => VB W w' r (some ⟨gb, ob, none⟩) c s (some ⟨g, o, none⟩) AP cc cp ∧ Has w' D 52 (clc x M m))) := ⟨⟨_, H2.out.1.step ((Below.refl _ _).drew), H2.out.2.drew⟩⟩
  have hx0 : ∀ pc : Cls (fun w' => VB W w' r (some ⟨gb, ob, none⟩) c s (some ⟨g, o, none⟩) AP cc cp ∧ Has w' D 52 (clc x M m)), pc.w.cell? ⟨W.heap.size, 0, none⟩ = some (.slice (some ⟨gb, ob, none⟩) r.bases.length c) := fun pc => pc.h.1.r.fr.cell 0
  have hx1 : ∀ pc : Cls (fun w' => VB W w' r (some ⟨gb, ob, none⟩) c s (some ⟨g, o, none⟩) AP cc cp ∧ Has w' D 52 (clc x M m)), pc.w.cell? ⟨D, 1, none⟩ = some (.int .i64 el) := fun pc => (pc.h.2.cell 1).trans (by simp [HEL.out])
  have hx2 : ∀ pc : Cls (fun w' => VB W w' r (some ⟨gb, ob, none⟩) c s (some ⟨g, o, none⟩) AP cc cp ∧ Has w' D 52 (clc x M m)), pc.w.cell? ⟨D, 2, none⟩ = some (.int .i64 x.under) := fun pc => pc.h.2.cell 2
  have hx3 : ∀ pc : Cls (fun w' => VB W w' r (some ⟨gb, ob, none⟩) c s (some ⟨g, o, none⟩) AP cc cp ∧ Has w' D 52 (clc x M m)), pc.w.cell? ⟨gb, ob + el, none⟩ = some (.int .i64 b) := fun pc => (HC.out _ pc.h.1.r.b).2.1
  have heln : el < r.bases.length := by omega
  refine wp_region_cls (fun w' => VB W w' r (some ⟨gb, ob, none⟩) c s (some ⟨g, o, none⟩) AP cc cp ∧ Has w' D 52 (clc x M m)) hmix (by kernel_rfl) ⟨H2.out.1.step ((Below.refl _ _).drew), H2.out.2.drew⟩ ?_
  repeat (quiet_step (fail))
  refine wpQuiet_nil ?_
  rintro w7 ⟨⟨_, hw7⟩, rfl⟩
  have H7 := Lib.hid hw7
  clear hx0 hx1 hx2 hx3 hne hw7 w1 w2 w3 H2 heln
  try simp only []
  have y5 : w7.cell? ⟨D, 5, none⟩ = some (.slice M x.marks.length m) := H7.out.2.cell 5
  cases hla : x.late
  · have y3 : w7.cell? ⟨D, 3, none⟩ = some (.bool false) := (H7.out.2.cell 3).trans (by simp [hla])
    have HL : Hid (valC b x = rnd (p * 10) 100 + rnd q (100 * (n : Int))) := Lib.hid (by rw [HVC.out, hla]; rfl)
    have HR1 := Lib.hid (fun w => HRT.out 10 (by omega) w)
    have hr1 := rnd_bd (n := p * 10) (b := 100) (M := 220000) (by omega) (by omega)
    clear hla HVC HRT
    generalize rnd (p * 10) 100 = r1 at *
    generalize rnd q (100 * (n : Int)) = r2 at *
    go_wp2_with fail
    refine (HCT.out _ H7.out.1.r.b).mono ?_
    rintro e w8 ⟨rfl, hb8⟩
    have H8 := Lib.hid (H7.out.1.step hb8)
    clear hb8 y3 y5
    go_wp2_with fail
    refine (HR1.out _).mono ?_
    rintro e w9 ⟨rfl, rfl⟩
    go_wp2_with fail
    refine (HR2.out _).mono ?_
    rintro e w10 ⟨rfl, rfl⟩
    go_wp2_with fail
    go_ret
    exact ⟨ret_int (by rw [HE.out, HL.out]), H8.out.r.b⟩
  · have y3 : w7.cell? ⟨D, 3, none⟩ = some (.bool true) := (H7.out.2.cell 3).trans (by simp [hla])
    have HL : Hid (valC b x = rnd (p * 11) 100 + rnd q (100 * (n : Int))) := Lib.hid (by rw [HVC.out, hla]; rfl)
    have HR1 := Lib.hid (fun w => HRT.out 11 (by omega) w)
    have hr1 := rnd_bd (n := p * 11) (b := 100) (M := 220000) (by omega) (by omega)
    clear hla HVC HRT
    generalize rnd (p * 11) 100 = r1 at *
    generalize rnd q (100 * (n : Int)) = r2 at *
    go_wp2_with fail
    refine (HCT.out _ H7.out.1.r.b).mono ?_
    rintro e w8 ⟨rfl, hb8⟩
    have H8 := Lib.hid (H7.out.1.step hb8)
    clear hb8 y3 y5
    go_wp2_with fail
    refine (HR1.out _).mono ?_
    rintro e w9 ⟨rfl, rfl⟩
    go_wp2_with fail
    refine (HR2.out _).mono ?_
    rintro e w10 ⟨rfl, rfl⟩
    go_wp2_with fail
    go_ret
    exact ⟨ret_int (by rw [HE.out, HL.out]), H8.out.r.b⟩
end Go.Proofs.Ytmclchaalmonnaa
