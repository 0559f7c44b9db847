/- The law of the outlier. -/
import Derived.Test.YtmclchaalmonnaaTo
import Derived.Test.YtmclchaalmonnaaOuA
import Derived.Laws.EntriesVeiled
namespace Go.Proofs.Ytmclchaalmonnaa
open Go.RowKit Go.Lib
attribute [local irreducible] wpQuiet
/-- the boxes, the judge, the closure -/
structure OW (W w : World) (r : Ru) (A : Option Addr) (c : Nat) (s : Sk) (AC AP : Option Addr) (cc cp PJ P2 j : Nat) : Prop where
  v : VL W w r A c s AC AP cc cp
  pj : Has w PJ 3 #[.int .i64 j]
  p2 : Has w P2 67 #[.func (.func 34) #[] #[.pointer (some ⟨PJ, 0, none⟩)]]
theorem OW.step {W w w' : World} {r : Ru} {A : Option Addr} {c : Nat} {s : Sk} {AC AP : Option Addr} {cc cp PJ P2 j : Nat} (h : OW W w r A c s AC AP cc cp PJ P2 j) (hb : Below w.heap.size w w') : OW W w' r A c s AC AP cc cp PJ P2 j := ⟨h.v.step hb, h.pj.below hb h.pj.lt, h.p2.below hb h.p2.lt⟩
theorem jd_np {l : List Sk} (h : 5 ≤ jdP l) : jdP l = nP l := by
  unfold jdP nP at *
  cases hp : judgesP l with
  | none => rw [hp] at h; simp at h
  | some n => rfl
theorem leb {a b : Int} (h : a ≤ b) : decide (a ≤ b) = true := by simp [h]
set_option maxRecDepth 100000 in
set_option maxHeartbeats 4000000 in
theorem outLaw_any (r : Ru) (A : Option Addr) (c : Nat) (s : Sk) (AC AP : Option Addr) (cc cp : Nat) (n2 : Int) (by_ : List Int) (AB : Option Addr) (cb : Nat) (W : World) (hr : RuR W W.heap.size r A) (hs : SkR W W.heap.size s AC AP) (hn2 : 0 ≤ n2 ∧ n2 ≤ 255) (hbl : by_.length ≤ 9223372036854775807) (hbr : ∀ x ∈ by_, 0 ≤ x ∧ x ≤ 255) (hby : BRow W W.heap.size AB by_) :
    Calls Try.prog 9 #[ruv r A c, skv s AC AP cc cp, .int .u8 n2, .slice AB by_.length cb] W (BoolPost true W) := by
  have HB : Hid (VL W ((W.alloc (.cells (ruc r A c) 24)).alloc (.cells (skc s AC AP cc cp) 28)) r A c s AC AP cc cp) := Lib.hid ⟨(below_one W _).alloc (by simp) _, (Has.new _ _ _).alloc _, has_newAt (by simp)⟩
  have HRS := Lib.hid (And.intro hr (And.intro hs hby))
  have HG := Lib.hid (fun w (h : Below W.heap.size W w) g (hg : Has w g 28 (skc s AC AP cc cp)) => great_any [s] (some ⟨g, 0, none⟩) 1 1 w (by omega) (srow_one hg hg.lt ((hs.below h).more h.size)) (by simp [big]))
  have HAw := Lib.hid (fun w => alive_any w)
  have HP := Lib.hid (fun (s' : Sk) AC AP cc cp w (h : Below W.heap.size W w) (hs : SkR w w.heap.size s' AC AP) => Program_any r A c s' AC AP cc cp w ((hr.below h).more h.size) hs)
  have HCT := Lib.hid (fun w (h : Below W.heap.size W w) g (hg : Has w g 28 (skc s AC AP cc cp)) => Contest_any r A c [s] (some ⟨g, 0, none⟩) 1 w ((hr.below h).more h.size) (srow_one hg hg.lt ((hs.below h).more h.size)) (by simp [big]))
  have HJD := Lib.hid (fun w (h : Below W.heap.size W w) g (hg : Has w g 28 (skc s AC AP cc cp)) => Judges_any [s] (some ⟨g, 0, none⟩) 1 w (srow_one hg hg.lt ((hs.below h).more h.size)) (by simp [big]))
  have HSM : Hid (greatB [s] 1 = false → s.calls.length ≤ 24 ∧ s.parts.length ≤ 12) := Lib.hid fun h => ⟨((not_great h).2 s List.mem_cons_self).c, ((not_great h).2 s List.mem_cons_self).p⟩
  have hrl := hr.l
  unfold big at hrl
  have HN2 := Lib.hid hn2
  have HBR := Lib.hid hbr
  generalize greatB [s] 1 = G at HG HSM
  obtain ⟨cb_, hcb⟩ : ∃ b, b = contestB r [s] := ⟨_, rfl⟩
  rw [← hcb] at HCT
  have HCB := Lib.hid hcb.symm
  unfold BoolPost at HG HAw HCT
  unfold SEPost at HP
  unfold IntPost at HJD
  dsimp only [List.length_cons, List.length_nil] at HG HP HCT HJD
  unfold scv at HP
  have hsl := hs.lc
  have hspl := hs.lp
  unfold big at hsl hspl
  clear hr hs hcb hn2 hbr hby
  unfold ruv skv at *
  go_enter Try.func9, Try.ntmps9
  go_upto_region 1 with fail
  generalize (W.alloc (.cells (ruc r A c) 24)).alloc (.cells (skc s AC AP cc cp) 28) = w0 at HB ⊢
  have x0 : w0.cell? ⟨W.heap.size, 0, none⟩ = some (.slice A r.bases.length c) := HB.out.fr.cell 0
  have x1 : w0.cell? ⟨W.heap.size, 1, none⟩ = some (.int .i64 r.factor) := HB.out.fr.cell 1
  have x2 : w0.cell? ⟨W.heap.size, 2, none⟩ = some (.int .i64 r.most) := HB.out.fr.cell 2
  have y0 : w0.cell? ⟨W.heap.size + 1, 0, none⟩ = some (.slice AC s.calls.length cc) := HB.out.fs.cell 0
  have y1 : w0.cell? ⟨W.heap.size + 1, 1, none⟩ = some (.slice AP s.parts.length cp) := HB.out.fs.cell 1
  have y2 : w0.cell? ⟨W.heap.size + 1, 2, none⟩ = some (.int .i64 s.over) := HB.out.fs.cell 2
  by_cases h80 : (80 : Int) < r.bases.length
  · go_wp2_with fail
    refine (HAw.out _).mono ?_
    rintro e w1 ⟨rfl, hb1⟩
    have H1 := Lib.hid (HB.out.step hb1)
    clear hb1
    go_wp2_with fail
    go_ret
    exact ⟨rfl, H1.out.b⟩
  have HB1 := Lib.hid (And.intro (HB.out.step (below_one w0 (.cells (skc s AC AP cc cp) 28))) (Has.new w0 28 (skc s AC AP cc cp)))
  go_wp2_with fail
  refine (HG.out _ HB1.out.1.b _ HB1.out.2).mono ?_
  rintro e w1 ⟨rfl, hb1⟩
  have H1 := Lib.hid (HB1.out.1.step hb1)
  clear hb1 x0 x1 x2 y0 y1 y2 HB HB1 HG h80
  cases G
  rotate_left
  · go_wp2_with fail
    refine (HAw.out _).mono ?_
    rintro e w1 ⟨rfl, hb1⟩
    have H1 := Lib.hid (H1.out.step hb1)
    clear hb1
    go_wp2_with fail
    go_ret
    exact ⟨rfl, H1.out.b⟩
  obtain ⟨hc24, hp12⟩ := HSM.out rfl
  clear HSM
  have x0 : w1.cell? ⟨W.heap.size, 0, none⟩ = some (.slice A r.bases.length c) := H1.out.fr.cell 0
  have x1 : w1.cell? ⟨W.heap.size, 1, none⟩ = some (.int .i64 r.factor) := H1.out.fr.cell 1
  have x2 : w1.cell? ⟨W.heap.size, 2, none⟩ = some (.int .i64 r.most) := H1.out.fr.cell 2
  have y0 : w1.cell? ⟨W.heap.size + 1, 0, none⟩ = some (.slice AC s.calls.length cc) := H1.out.fs.cell 0
  have y1 : w1.cell? ⟨W.heap.size + 1, 1, none⟩ = some (.slice AP s.parts.length cp) := H1.out.fs.cell 1
  have y2 : w1.cell? ⟨W.heap.size + 1, 2, none⟩ = some (.int .i64 s.over) := H1.out.fs.cell 2
  by_cases hb0 : by_.length = 0
  · have q0 : ((by_.length : Int) == 0) = true := by simp [hb0]
    have HQ := Lib.hid hb0
    clear hb0
    go_wp2_with fail
    refine (HAw.out _).mono ?_
    rintro e w1 ⟨rfl, hb1⟩
    have H1 := Lib.hid (H1.out.step hb1)
    clear hb1
    go_wp2_with fail
    go_ret
    exact ⟨rfl, H1.out.b⟩
  have q0 : ((by_.length : Int) == 0) = false := by
    have : ¬ (by_.length : Int) = 0 := by omega
    simpa using this
  have ea : IntKind.i64.wrap ((s.calls.length : Int) + s.parts.length) = (s.calls.length : Int) + s.parts.length := IntWalk.i64_in _ (by omega)
  by_cases hcp : s.calls.length + s.parts.length = 0
  · have q1 : ((s.calls.length : Int) + s.parts.length == 0) = true := by
      have : (s.calls.length : Int) + s.parts.length = 0 := by omega
      simpa using this
    have HQ := Lib.hid hcp
    clear hcp
    go_wp2_with fail
    refine (HAw.out _).mono ?_
    rintro e w1 ⟨rfl, hb1⟩
    have H1 := Lib.hid (H1.out.step hb1)
    clear hb1
    go_wp2_with fail
    go_ret
    exact ⟨rfl, H1.out.b⟩
  have q1 : ((s.calls.length : Int) + s.parts.length == 0) = false := by
    have : ¬ (s.calls.length : Int) + s.parts.length = 0 := by omega
    simpa using this
  have HQ := Lib.hid (And.intro hb0 hcp)
  have HB1 := Lib.hid (And.intro (H1.out.step (below_one w1 (.cells (skc s AC AP cc cp) 28))) (Has.new w1 28 (skc s AC AP cc cp)))
  clear hcp hb0
  go_wp2_with fail
  refine (HCT.out _ HB1.out.1.b _ HB1.out.2).mono ?_
  rintro e w2 ⟨rfl, hb1⟩
  have H2 := Lib.hid (HB1.out.1.step hb1)
  clear hb1 x0 x1 x2 y0 y1 y2 HB1 HCT H1 q0 q1 ea
  cases cb_
  · go_wp2_with fail
    refine (HAw.out _).mono ?_
    rintro e w1 ⟨rfl, hb1⟩
    have H1 := Lib.hid (H2.out.step hb1)
    clear hb1
    go_wp2_with fail
    go_ret
    exact ⟨rfl, H1.out.b⟩
  have x0 : w2.cell? ⟨W.heap.size, 0, none⟩ = some (.slice A r.bases.length c) := H2.out.fr.cell 0
  have x1 : w2.cell? ⟨W.heap.size, 1, none⟩ = some (.int .i64 r.factor) := H2.out.fr.cell 1
  have x2 : w2.cell? ⟨W.heap.size, 2, none⟩ = some (.int .i64 r.most) := H2.out.fr.cell 2
  have y0 : w2.cell? ⟨W.heap.size + 1, 0, none⟩ = some (.slice AC s.calls.length cc) := H2.out.fs.cell 0
  have y1 : w2.cell? ⟨W.heap.size + 1, 1, none⟩ = some (.slice AP s.parts.length cp) := H2.out.fs.cell 1
  have y2 : w2.cell? ⟨W.heap.size + 1, 2, none⟩ = some (.int .i64 s.over) := H2.out.fs.cell 2
  have HB1 := Lib.hid (And.intro (H2.out.step (below_one w2 (.cells (skc s AC AP cc cp) 28))) (Has.new w2 28 (skc s AC AP cc cp)))
  go_wp2_with fail
  refine (HJD.out _ HB1.out.1.b _ HB1.out.2).mono ?_
  rintro e w3 ⟨rfl, hb1⟩
  have H3 := Lib.hid (HB1.out.1.step hb1)
  clear hb1 x0 x1 x2 y0 y1 y2 HB1 HJD H2
  obtain ⟨n, hn⟩ : ∃ n, n = jdP [s] := ⟨_, rfl⟩
  rw [← hn]
  by_cases hn5 : n < 5
  · go_wp2_with fail
    refine (HAw.out _).mono ?_
    rintro e w1 ⟨rfl, hb1⟩
    have H1 := Lib.hid (H3.out.step hb1)
    clear hb1
    go_wp2_with fail
    go_ret
    exact ⟨rfl, H1.out.b⟩
  have hnp : jdP [s] = nP [s] := jd_np (by omega)
  obtain ⟨m, hm⟩ : ∃ m, m = nP [s] := ⟨_, rfl⟩
  have hone := contest_each HCB.out s List.mem_cons_self
  rw [← hm] at hone hnp
  obtain rfl : n = (m : Int) := by rw [hn, hnp]
  have hm5 : 5 ≤ m := by omega
  have hm9 : m ≤ 9 := by
    rcases hone.nn with h | h
    · have := HQ.out.2; rw [h.1, h.2] at this; exact absurd rfl this
    · exact h.2
  obtain ⟨j, hjd⟩ : ∃ j, j = n2.toNat % m := ⟨_, rfl⟩
  have hjm : j < m := by rw [hjd]; exact Nat.mod_lt _ (by omega)
  have hLz : ¬ (m : Int) = 0 := by omega
  have hn2 := HN2.out
  have ec : IntKind.i64.wrap n2 = n2 := IntWalk.i64_in _ (by omega)
  have em : n2.tmod (m : Int) = (j : Int) := by
    rw [Int.tmod_eq_emod_of_nonneg hn2.1, hjd]
    have h1 : n2 = ((n2.toNat : Nat) : Int) := by omega
    rw [Int.natCast_emod, ← h1]
  obtain ⟨l1, l2⟩ := hone.len
  have hjc : ∀ c ∈ s.calls, j < c.marks.length ∧ c.marks.length ≤ 1000 := fun c hc => by rw [l1 c hc]; omega
  have hjp : ∀ m ∈ s.parts, j < m.length ∧ m.length ≤ 1000 := fun m hm => by rw [l2 m hm]; omega
  have HLE := Lib.hid (out_le (f := chF by_ 0) (g := chG by_ 0) HCB.out (fun c hc => ⟨(hjc c hc).1, by rw [l1 c hc]; exact hm5⟩) (fun m hm => ⟨(hjp m hm).1, by rw [l2 m hm]; exact hm5⟩) (fun i _ => chF_rng _ _ _) (fun i _ => chG_rng _ _ _))
  have HPe := Lib.hid (fun most => progR_one (end_ok (r := r) (s := s) most j HCB.out))
  have HPc := Lib.hid (progR_one (r := r) (s := changedS s j by_ 0) (put_ok (fun i _ => chF_rng by_ 0 i) (fun i _ => chG_rng by_ 0 i) HCB.out))
  have hb0 : 0 < by_.length := by have := HQ.out.1; omega
  have HTO := Lib.hid (fun most P1 P2 PJ w (h : Below W.heap.size W w) h1 h2 h3 => to_any s AC AP cc cp j most P1 P2 PJ w ((HRS.out.2.1.below h).more h.size) (by omega) (by omega) hjc hjp h1 h2 h3)
  have HCG := Lib.hid (fun w (h : Below W.heap.size W w) => changed_any s AC AP cc cp j by_ AB cb 0 w ((HRS.out.2.1.below h).more h.size) (by omega) (by omega) hjc hjp (fun k hk => by obtain ⟨g, o, e, hg, c⟩ := (HRS.out.2.2.below h) k hk; exact ⟨g, o, e, Nat.lt_of_lt_of_le hg h.size, c⟩) hb0 hbl HBR.out (by omega))
  unfold MkPost at HTO HCG
  have HPx := Lib.hid (fun most AC AP cc cp w h hs => by have h9 := HP.out (endS most j s) AC AP cc cp w h hs; rw [HPe.out most] at h9; exact h9)
  have HPy := Lib.hid (fun AC AP cc cp w h hs => by have h9 := HP.out (changedS s j by_ 0) AC AP cc cp w h hs; rw [HPc.out] at h9; exact h9)
  obtain ⟨xa, hxa⟩ : ∃ x, x = progP r (endS false j s) := ⟨_, rfl⟩
  obtain ⟨xb, hxb⟩ : ∃ x, x = progP r (putS s j (chF by_ 0) (chG by_ 0)) := ⟨_, rfl⟩
  obtain ⟨xc, hxc⟩ : ∃ x, x = progP r (endS true j s) := ⟨_, rfl⟩
  have HPa := Lib.hid (fun AC AP cc cp w h hs => HPx.out false AC AP cc cp w h hs)
  have HPz := Lib.hid (fun AC AP cc cp w h hs => HPx.out true AC AP cc cp w h hs)
  rw [show progP r (changedS s j by_ 0) = xb from hxb.symm] at HPy
  rw [← hxa] at HPa HLE
  rw [← hxb] at HLE
  rw [← hxc] at HPz HLE
  dsimp only at HPa HPy HPz
  have H4 : Hid (OW W ((w3.alloc (.cells #[.int .i64 j] 3)).alloc (.cells #[.func (.func 34) #[] #[.pointer (some ⟨w3.heap.size, 0, none⟩)]] 67)) r A c s AC AP cc cp w3.heap.size (w3.heap.size + 1) j) :=
    Lib.hid ⟨(H3.out.step (below_one _ _)).step (below_one _ _), (Has.new _ _ _).alloc _, has_newAt (by simp)⟩
  clear hn hnp hm hone hm5 hm9 hjd hn2 l1 l2 hjc hjp hxa hxb hxc HPx HP HPe HPc HCB hsl hspl hbl hb0
  go_upto_region 9 with fail
  generalize (w3.alloc (.cells #[.int .i64 j] 3)).alloc (.cells #[.func (.func 34) #[] #[.pointer (some ⟨w3.heap.size, 0, none⟩)]] 67) = w4 at H4 ⊢
  generalize w3.heap.size + 1 = P2 at H4 ⊢
  generalize w3.heap.size = PJ at H4 ⊢
  clear ec em hLz H3 hn5
  go_cut [13, 14] (fun uO uE wx => ∃ b9, uO = .pointer (some ⟨b9, 0, none⟩) ∧ uE = .int .i64 0 ∧ Hid ((OW W wx r A c s AC AP cc cp PJ P2 j) ∧ Has wx b9 33 (scc xa)))
  case first =>
    have H1p : Hid (OW W w4.drew r A c s AC AP cc cp PJ P2 j) := Lib.hid ((H4.out).step ((Below.refl _ _).drew))
    have K1p : Hid (w4.drew.cell? ⟨W.heap.size, 0, none⟩ = some (.slice A r.bases.length c) ∧ w4.drew.cell? ⟨W.heap.size, 1, none⟩ = some (.int .i64 r.factor) ∧ w4.drew.cell? ⟨W.heap.size, 2, none⟩ = some (.int .i64 r.most)) := Lib.hid (⟨(H1p.out).v.fr.cell 0, (H1p.out).v.fr.cell 1, (H1p.out).v.fr.cell 2⟩)
    refine wp_region_late (fun w' : World => w'.cell? ⟨W.heap.size, 0, none⟩ = some (.slice A r.bases.length c) ∧ w'.cell? ⟨W.heap.size, 1, none⟩ = some (.int .i64 r.factor) ∧ w'.cell? ⟨W.heap.size, 2, none⟩ = some (.int .i64 r.most)) [] (by kernel_rfl) ?_
    generalize w4.drew = w1p at H1p K1p ⊢
    obtain ⟨Np, hNp⟩ : ∃ N, N = w1p.heap.size := ⟨_, rfl⟩
    have Bbp : Hid (Below Np w1p w1p ∧ Np ≤ w1p.heap.size) := Lib.hid ⟨Below.refl _ _, Nat.le_of_eq hNp⟩
    have NHp := Lib.hid hNp
    clear hNp
    refine wpLate_take (i := 0) (oi := ?oi0p1_) (v := ?v0p1_) [3, 4, 5, 6, 8, 9] ?hi0p1_ (by kernel_rfl) (by kernel_rfl) (by kernel_rfl) (by kernel_rfl) (by kernel_rfl) ?hQ0p1_ (Or.inl ⟨?hw0p1_, ?hy0p1_⟩) K1p.out ?rest0p1_
    case hi0p1_ => (simp only [List.getElem?_toArray, List.getElem?_cons_zero]; rfl)
    case hQ0p1_ => exact fun _ _ _ h => h
    case hw0p1_ => rfl
    case hy0p1_ =>
      intro w' hSw
      obtain ⟨r0, r1, r2⟩ := hSw
      go_simp
      try exact rfl
    try simp only [Act.put, List.setIfInBounds_toArray, List.set_cons_zero, List.set_cons_succ]
    refine wpLate_take (i := 1) (oi := ?oi1p2_) (v := ?v1p2_) [2, 3, 4, 5, 6, 8, 9] ?hi1p2_ (by kernel_rfl) (by kernel_rfl) (by kernel_rfl) (by kernel_rfl) (by kernel_rfl) ?hQ1p2_ (Or.inl ⟨?hw1p2_, ?hy1p2_⟩) K1p.out ?rest1p2_
    case hi1p2_ => (simp only [List.getElem?_toArray, List.getElem?_cons_zero, List.getElem?_cons_succ]; rfl)
    case hQ1p2_ => exact fun _ _ _ h => h
    case hw1p2_ => rfl
    case hy1p2_ =>
      intro w' hSw
      obtain ⟨r0, r1, r2⟩ := hSw
      go_simp
      try exact rfl
    try simp only [Act.put, List.setIfInBounds_toArray, List.set_cons_zero, List.set_cons_succ]
    refine wpLate_two (i := 2) (j := 7) (o := ?oAp3_) (u := ?uAp3_) (by kernel_rfl) ?hoAp3_ ?huAp3_ ?hkAp3_ ?hkBp3_
    case hoAp3_ => (simp only [List.getElem?_toArray, List.getElem?_cons_zero, List.getElem?_cons_succ]; rfl)
    case huAp3_ => (simp only [List.getElem?_toArray, List.getElem?_cons_zero, List.getElem?_cons_succ]; rfl)
    case hkAp3_ =>
      intro K hK
      go_simp
      refine (HTO.out false _ P2 PJ _ H1p.out.v.b H1p.out.v.fs H1p.out.p2 H1p.out.pj).mono ?_
      rintro e wpa1 ⟨BC, BP, bc, bp, rfl, hsk9, hb9⟩
      have Mpa2 : Hid (SkR wpa1 wpa1.heap.size (endS false j s) BC BP) := Lib.hid hsk9
      clear hsk9
      have Hpa3 : Hid (OW W wpa1 r A c s AC AP cc cp PJ P2 j) := Lib.hid ((H1p.out).step hb9)
      have Kpa4 : Hid (wpa1.cell? ⟨W.heap.size, 0, none⟩ = some (.slice A r.bases.length c) ∧ wpa1.cell? ⟨W.heap.size, 1, none⟩ = some (.int .i64 r.factor) ∧ wpa1.cell? ⟨W.heap.size, 2, none⟩ = some (.int .i64 r.most)) := Lib.hid (⟨(Hpa3.out).v.fr.cell 0, (Hpa3.out).v.fr.cell 1, (Hpa3.out).v.fr.cell 2⟩)
      have Epa5 : Hid (Below Np w1p wpa1 ∧ Np ≤ wpa1.heap.size) := Lib.hid (⟨(Bbp.out).1.trans ((hb9).mono (Bbp.out).2), Nat.le_trans (Bbp.out).2 (hb9).size⟩)
      clear hb9
      go_simp
      refine hK.out _ _ (fun h => Kpa4.out) ?_
      clear hK K
      try simp only [Act.put, List.setIfInBounds_toArray, List.set_cons_zero, List.set_cons_succ]
      refine wpLate_two (i := 3) (j := 7) (o := ?oApa6_) (u := ?uApa6_) (by kernel_rfl) ?hoApa6_ ?huApa6_ ?hkApa6_ ?hkBpa6_
      case hoApa6_ => (simp only [List.getElem?_toArray, List.getElem?_cons_zero, List.getElem?_cons_succ]; rfl)
      case huApa6_ => (simp only [List.getElem?_toArray, List.getElem?_cons_zero, List.getElem?_cons_succ]; rfl)
      case hkApa6_ =>
        intro K hK
        go_simp
        refine (HPa.out _ _ _ _ _ Hpa3.out.v.b Mpa2.out).mono ?_
        rintro e wpac1 ⟨rfl, hb9⟩
        have Hpac2 : Hid (OW W wpac1 r A c s AC AP cc cp PJ P2 j) := Lib.hid ((Hpa3.out).step hb9)
        have Kpac3 : Hid (wpac1.cell? ⟨W.heap.size, 0, none⟩ = some (.slice A r.bases.length c) ∧ wpac1.cell? ⟨W.heap.size, 1, none⟩ = some (.int .i64 r.factor) ∧ wpac1.cell? ⟨W.heap.size, 2, none⟩ = some (.int .i64 r.most)) := Lib.hid (⟨(Hpac2.out).v.fr.cell 0, (Hpac2.out).v.fr.cell 1, (Hpac2.out).v.fr.cell 2⟩)
        have Epac4 : Hid (Below Np w1p wpac1 ∧ Np ≤ wpac1.heap.size) := Lib.hid (⟨(Epa5.out).1.trans ((hb9).mono (Epa5.out).2), Nat.le_trans (Epa5.out).2 (hb9).size⟩)
        have Epac5 : Hid (SkR wpac1 wpac1.heap.size (endS false j s) BC BP) := Lib.hid ((Mpa2.out).step hb9)
        clear hb9
        go_simp
        refine hK.out _ _ (fun h => Kpac3.out) ?_
        clear hK K
        try simp only [Act.put, List.setIfInBounds_toArray, List.set_cons_zero, List.set_cons_succ]
        refine wpLate_take (i := 4) (oi := ?oi4pac6_) (v := ?v4pac6_) [5, 6, 8, 9] ?hi4pac6_ (by kernel_rfl) (by kernel_rfl) (by kernel_rfl) (by kernel_rfl) (by kernel_rfl) ?hQ4pac6_ (Or.inl ⟨?hw4pac6_, ?hy4pac6_⟩) Kpac3.out ?rest4pac6_
        case hi4pac6_ => (simp only [List.getElem?_toArray, List.getElem?_cons_zero, List.getElem?_cons_succ]; rfl)
        case hQ4pac6_ => exact fun _ _ _ h => h
        case hw4pac6_ => rfl
        case hy4pac6_ =>
          intro w' hSw
          obtain ⟨r0, r1, r2⟩ := hSw
          go_simp
          try exact rfl
        try simp only [Act.put, List.setIfInBounds_toArray, List.set_cons_zero, List.set_cons_succ]
        refine wpLate_take (i := 5) (oi := ?oi5pac7_) (v := ?v5pac7_) [8, 9] ?hi5pac7_ (by kernel_rfl) (by kernel_rfl) (by kernel_rfl) (by kernel_rfl) (by kernel_rfl) ?hQ5pac7_ (Or.inl ⟨?hw5pac7_, ?hy5pac7_⟩) Kpac3.out ?rest5pac7_
        case hi5pac7_ => (simp only [List.getElem?_toArray, List.getElem?_cons_zero, List.getElem?_cons_succ]; rfl)
        case hQ5pac7_ => exact fun _ _ _ h => h
        case hw5pac7_ => rfl
        case hy5pac7_ =>
          intro w' hSw
          obtain ⟨r0, r1, r2⟩ := hSw
          go_simp
          try exact rfl
        try simp only [Act.put, List.setIfInBounds_toArray, List.set_cons_zero, List.set_cons_succ]
        refine wpLate_take (i := 6) (oi := ?oi6pac8_) (v := ?v6pac8_) [9] ?hi6pac8_ (by kernel_rfl) (by kernel_rfl) (by kernel_rfl) (by kernel_rfl) (by kernel_rfl) ?hQ6pac8_ (Or.inl ⟨?hw6pac8_, ?hy6pac8_⟩) Kpac3.out ?rest6pac8_
        case hi6pac8_ => (simp only [List.getElem?_toArray, List.getElem?_cons_zero, List.getElem?_cons_succ]; rfl)
        case hQ6pac8_ => exact fun _ _ _ h => h
        case hw6pac8_ => rfl
        case hy6pac8_ =>
          intro w' hSw
          obtain ⟨r0, r1, r2⟩ := hSw
          go_simp
          try exact rfl
        try simp only [Act.put, List.setIfInBounds_toArray, List.set_cons_zero, List.set_cons_succ]
        refine wpLate_one (i := 7) (o := ?o7pac9_) (by kernel_rfl) ?ho7pac9_ ?hk7pac9_
        case ho7pac9_ => (simp only [List.getElem?_toArray, List.getElem?_cons_zero, List.getElem?_cons_succ]; rfl)
        intro K hK
        go_simp
        have Epac12 : Hid (Has (wpac1.alloc (.cells #[.int .i64 0, .int .i64 0, .int .i64 0, .int .i64 0] 33)) wpac1.heap.size 33 #[.int .i64 0, .int .i64 0, .int .i64 0, .int .i64 0] ∧ wpac1.heap.size < (wpac1.alloc (.cells #[.int .i64 0, .int .i64 0, .int .i64 0, .int .i64 0] 33)).heap.size ∧ Np ≤ wpac1.heap.size) := Lib.hid ⟨Has.new _ _ _, by simp, Epac4.out.2⟩
        have Hpac13 : Hid (OW W (wpac1.alloc (.cells #[.int .i64 0, .int .i64 0, .int .i64 0, .int .i64 0] 33)) r A c s AC AP cc cp PJ P2 j) := Lib.hid ((Hpac2.out).step (below_one wpac1 (.cells #[.int .i64 0, .int .i64 0, .int .i64 0, .int .i64 0] 33)))
        have Kpac14 : Hid ((wpac1.alloc (.cells #[.int .i64 0, .int .i64 0, .int .i64 0, .int .i64 0] 33)).cell? ⟨W.heap.size, 0, none⟩ = some (.slice A r.bases.length c) ∧ (wpac1.alloc (.cells #[.int .i64 0, .int .i64 0, .int .i64 0, .int .i64 0] 33)).cell? ⟨W.heap.size, 1, none⟩ = some (.int .i64 r.factor) ∧ (wpac1.alloc (.cells #[.int .i64 0, .int .i64 0, .int .i64 0, .int .i64 0] 33)).cell? ⟨W.heap.size, 2, none⟩ = some (.int .i64 r.most)) := Lib.hid (⟨(Hpac13.out).v.fr.cell 0, (Hpac13.out).v.fr.cell 1, (Hpac13.out).v.fr.cell 2⟩)
        have Epac15 : Hid (Below Np w1p (wpac1.alloc (.cells #[.int .i64 0, .int .i64 0, .int .i64 0, .int .i64 0] 33)) ∧ Np ≤ (wpac1.alloc (.cells #[.int .i64 0, .int .i64 0, .int .i64 0, .int .i64 0] 33)).heap.size) := Lib.hid (⟨(Epac4.out).1.trans (((below_one wpac1 (.cells #[.int .i64 0, .int .i64 0, .int .i64 0, .int .i64 0] 33))).mono (Epac4.out).2), Nat.le_trans (Epac4.out).2 ((below_one wpac1 (.cells #[.int .i64 0, .int .i64 0, .int .i64 0, .int .i64 0] 33))).size⟩)
        have Epac16 : Hid (SkR (wpac1.alloc (.cells #[.int .i64 0, .int .i64 0, .int .i64 0, .int .i64 0] 33)) (wpac1.alloc (.cells #[.int .i64 0, .int .i64 0, .int .i64 0, .int .i64 0] 33)).heap.size (endS false j s) BC BP) := Lib.hid ((Epac5.out).step (below_one wpac1 (.cells #[.int .i64 0, .int .i64 0, .int .i64 0, .int .i64 0] 33)))
        refine hK.out _ _ (fun h => Kpac14.out) ?_
        clear hK K
        try simp only [Act.put, List.setIfInBounds_toArray, List.set_cons_zero, List.set_cons_succ]
        generalize wpac1.alloc (.cells #[.int .i64 0, .int .i64 0, .int .i64 0, .int .i64 0] 33) = wpac10 at Hpac13 Kpac14 Epac15 Epac16 Epac12 ⊢
        generalize wpac1.heap.size = bpac11 at Epac12 ⊢
        refine wpLate_one (i := 8) (o := ?o8pac17_) (by kernel_rfl) ?ho8pac17_ ?hk8pac17_
        case ho8pac17_ => (simp only [List.getElem?_toArray, List.getElem?_cons_zero, List.getElem?_cons_succ]; rfl)
        intro K hK
        have l0 : wpac10.cell? ⟨bpac11, 0, none⟩ = some (.int .i64 0) := Epac12.out.1.cell 0
        have l1 : wpac10.cell? ⟨bpac11, 1, none⟩ = some (.int .i64 0) := Epac12.out.1.cell 1
        have l2 : wpac10.cell? ⟨bpac11, 2, none⟩ = some (.int .i64 0) := Epac12.out.1.cell 2
        have l3 : wpac10.cell? ⟨bpac11, 3, none⟩ = some (.int .i64 0) := Epac12.out.1.cell 3
        have f0 := Epac12.out.1.frozen 0
        have f1 := Epac12.out.1.frozen 1
        have f2 := Epac12.out.1.frozen 2
        have f3 := Epac12.out.1.frozen 3
        have HFpac : Hid ((OW W ((((wpac10.setCell ⟨bpac11, 0, none⟩ (.int .i64 xa.elements)).setCell ⟨bpac11, 1, none⟩ (.int .i64 xa.parts)).setCell ⟨bpac11, 2, none⟩ (.int .i64 xa.off)).setCell ⟨bpac11, 3, none⟩ (.int .i64 xa.total)) r A c s AC AP cc cp PJ P2 j) ∧ Has ((((wpac10.setCell ⟨bpac11, 0, none⟩ (.int .i64 xa.elements)).setCell ⟨bpac11, 1, none⟩ (.int .i64 xa.parts)).setCell ⟨bpac11, 2, none⟩ (.int .i64 xa.off)).setCell ⟨bpac11, 3, none⟩ (.int .i64 xa.total)) bpac11 33 (scc xa)) := Lib.hid ⟨(H1p.out).step (by rw [← NHp.out]; exact ((((Epac15.out.1.setCell Epac12.out.2.2 _).setCell Epac12.out.2.2 _).setCell Epac12.out.2.2 _).setCell Epac12.out.2.2 _)), (((Epac12.out.1.set 0 _).set 1 _).set 2 _).set 3 _⟩
        go_simp
        refine hK.out _ _ (fun h => ⟨(HFpac.out.1).v.fr.cell 0, (HFpac.out.1).v.fr.cell 1, (HFpac.out.1).v.fr.cell 2⟩) ?_
        clear hK K
        try simp only [Act.put, List.setIfInBounds_toArray, List.set_cons_zero, List.set_cons_succ]
        refine wpLate_one (i := 9) (o := ?o9pac18_) (by kernel_rfl) ?ho9pac18_ ?hk9pac18_
        case ho9pac18_ => (simp only [List.getElem?_toArray, List.getElem?_cons_zero, List.getElem?_cons_succ]; rfl)
        intro K hK
        go_simp
        refine hK.out _ _ (fun h => ⟨(HFpac.out.1).v.fr.cell 0, (HFpac.out.1).v.fr.cell 1, (HFpac.out.1).v.fr.cell 2⟩) ?_
        clear hK K
        try simp only [Act.put, List.setIfInBounds_toArray, List.set_cons_zero, List.set_cons_succ]
        refine wpLate_done (by kernel_rfl) ?_ _
        try simp only [Act.put, List.setIfInBounds_toArray, List.set_cons_zero, List.set_cons_succ]
        try go_wp2_with fail
        go_meet
        exact ⟨bpac11, rfl, rfl, HFpac⟩
      case hkBpa6_ =>
        intro K hK
        go_simp
        have Epad3 : Hid (Has (wpa1.alloc (.cells #[.int .i64 0, .int .i64 0, .int .i64 0, .int .i64 0] 33)) wpa1.heap.size 33 #[.int .i64 0, .int .i64 0, .int .i64 0, .int .i64 0] ∧ wpa1.heap.size < (wpa1.alloc (.cells #[.int .i64 0, .int .i64 0, .int .i64 0, .int .i64 0] 33)).heap.size ∧ Np ≤ wpa1.heap.size) := Lib.hid ⟨Has.new _ _ _, by simp, Epa5.out.2⟩
        have Hpad4 : Hid (OW W (wpa1.alloc (.cells #[.int .i64 0, .int .i64 0, .int .i64 0, .int .i64 0] 33)) r A c s AC AP cc cp PJ P2 j) := Lib.hid ((Hpa3.out).step (below_one wpa1 (.cells #[.int .i64 0, .int .i64 0, .int .i64 0, .int .i64 0] 33)))
        have Kpad5 : Hid ((wpa1.alloc (.cells #[.int .i64 0, .int .i64 0, .int .i64 0, .int .i64 0] 33)).cell? ⟨W.heap.size, 0, none⟩ = some (.slice A r.bases.length c) ∧ (wpa1.alloc (.cells #[.int .i64 0, .int .i64 0, .int .i64 0, .int .i64 0] 33)).cell? ⟨W.heap.size, 1, none⟩ = some (.int .i64 r.factor) ∧ (wpa1.alloc (.cells #[.int .i64 0, .int .i64 0, .int .i64 0, .int .i64 0] 33)).cell? ⟨W.heap.size, 2, none⟩ = some (.int .i64 r.most)) := Lib.hid (⟨(Hpad4.out).v.fr.cell 0, (Hpad4.out).v.fr.cell 1, (Hpad4.out).v.fr.cell 2⟩)
        have Epad6 : Hid (Below Np w1p (wpa1.alloc (.cells #[.int .i64 0, .int .i64 0, .int .i64 0, .int .i64 0] 33)) ∧ Np ≤ (wpa1.alloc (.cells #[.int .i64 0, .int .i64 0, .int .i64 0, .int .i64 0] 33)).heap.size) := Lib.hid (⟨(Epa5.out).1.trans (((below_one wpa1 (.cells #[.int .i64 0, .int .i64 0, .int .i64 0, .int .i64 0] 33))).mono (Epa5.out).2), Nat.le_trans (Epa5.out).2 ((below_one wpa1 (.cells #[.int .i64 0, .int .i64 0, .int .i64 0, .int .i64 0] 33))).size⟩)
        have Epad7 : Hid (SkR (wpa1.alloc (.cells #[.int .i64 0, .int .i64 0, .int .i64 0, .int .i64 0] 33)) (wpa1.alloc (.cells #[.int .i64 0, .int .i64 0, .int .i64 0, .int .i64 0] 33)).heap.size (endS false j s) BC BP) := Lib.hid ((Mpa2.out).step (below_one wpa1 (.cells #[.int .i64 0, .int .i64 0, .int .i64 0, .int .i64 0] 33)))
        refine hK.out _ _ (fun h => Kpad5.out) ?_
        clear hK K
        try simp only [Act.put, List.setIfInBounds_toArray, List.set_cons_zero, List.set_cons_succ]
        generalize wpa1.alloc (.cells #[.int .i64 0, .int .i64 0, .int .i64 0, .int .i64 0] 33) = wpad1 at Hpad4 Kpad5 Epad6 Epad7 Epad3 ⊢
        generalize wpa1.heap.size = bpad2 at Epad3 ⊢
        refine wpLate_one (i := 3) (o := ?o3pad8_) (by kernel_rfl) ?ho3pad8_ ?hk3pad8_
        case ho3pad8_ => (simp only [List.getElem?_toArray, List.getElem?_cons_zero, List.getElem?_cons_succ]; rfl)
        intro K hK
        go_simp
        refine (HPa.out _ _ _ _ _ Hpad4.out.v.b Epad7.out).mono ?_
        rintro e wpad9 ⟨rfl, hb9⟩
        have Hpad10 : Hid (OW W wpad9 r A c s AC AP cc cp PJ P2 j) := Lib.hid ((Hpad4.out).step hb9)
        have Kpad11 : Hid (wpad9.cell? ⟨W.heap.size, 0, none⟩ = some (.slice A r.bases.length c) ∧ wpad9.cell? ⟨W.heap.size, 1, none⟩ = some (.int .i64 r.factor) ∧ wpad9.cell? ⟨W.heap.size, 2, none⟩ = some (.int .i64 r.most)) := Lib.hid (⟨(Hpad10.out).v.fr.cell 0, (Hpad10.out).v.fr.cell 1, (Hpad10.out).v.fr.cell 2⟩)
        have Epad12 : Hid (Below Np w1p wpad9 ∧ Np ≤ wpad9.heap.size) := Lib.hid (⟨(Epad6.out).1.trans ((hb9).mono (Epad6.out).2), Nat.le_trans (Epad6.out).2 (hb9).size⟩)
        have Epad13 : Hid (SkR wpad9 wpad9.heap.size (endS false j s) BC BP) := Lib.hid ((Epad7.out).step hb9)
        have Epad14 : Hid (Has wpad9 bpad2 33 #[.int .i64 0, .int .i64 0, .int .i64 0, .int .i64 0] ∧ bpad2 < wpad9.heap.size ∧ Np ≤ bpad2) := Lib.hid (⟨(Epad3.out).1.below hb9 (Epad3.out).2.1, Nat.lt_of_lt_of_le (Epad3.out).2.1 (hb9).size, (Epad3.out).2.2⟩)
        clear hb9
        go_simp
        refine hK.out _ _ (fun h => Kpad11.out) ?_
        clear hK K
        try simp only [Act.put, List.setIfInBounds_toArray, List.set_cons_zero, List.set_cons_succ]
        refine wpLate_take (i := 4) (oi := ?oi4pad15_) (v := ?v4pad15_) [5, 6, 8, 9] ?hi4pad15_ (by kernel_rfl) (by kernel_rfl) (by kernel_rfl) (by kernel_rfl) (by kernel_rfl) ?hQ4pad15_ (Or.inl ⟨?hw4pad15_, ?hy4pad15_⟩) Kpad11.out ?rest4pad15_
        case hi4pad15_ => (simp only [List.getElem?_toArray, List.getElem?_cons_zero, List.getElem?_cons_succ]; rfl)
        case hQ4pad15_ => exact fun _ _ _ h => h
        case hw4pad15_ => rfl
        case hy4pad15_ =>
          intro w' hSw
          obtain ⟨r0, r1, r2⟩ := hSw
          go_simp
          try exact rfl
        try simp only [Act.put, List.setIfInBounds_toArray, List.set_cons_zero, List.set_cons_succ]
        refine wpLate_take (i := 5) (oi := ?oi5pad16_) (v := ?v5pad16_) [8, 9] ?hi5pad16_ (by kernel_rfl) (by kernel_rfl) (by kernel_rfl) (by kernel_rfl) (by kernel_rfl) ?hQ5pad16_ (Or.inl ⟨?hw5pad16_, ?hy5pad16_⟩) Kpad11.out ?rest5pad16_
        case hi5pad16_ => (simp only [List.getElem?_toArray, List.getElem?_cons_zero, List.getElem?_cons_succ]; rfl)
        case hQ5pad16_ => exact fun _ _ _ h => h
        case hw5pad16_ => rfl
        case hy5pad16_ =>
          intro w' hSw
          obtain ⟨r0, r1, r2⟩ := hSw
          go_simp
          try exact rfl
        try simp only [Act.put, List.setIfInBounds_toArray, List.set_cons_zero, List.set_cons_succ]
        refine wpLate_take (i := 6) (oi := ?oi6pad17_) (v := ?v6pad17_) [9] ?hi6pad17_ (by kernel_rfl) (by kernel_rfl) (by kernel_rfl) (by kernel_rfl) (by kernel_rfl) ?hQ6pad17_ (Or.inl ⟨?hw6pad17_, ?hy6pad17_⟩) Kpad11.out ?rest6pad17_
        case hi6pad17_ => (simp only [List.getElem?_toArray, List.getElem?_cons_zero, List.getElem?_cons_succ]; rfl)
        case hQ6pad17_ => exact fun _ _ _ h => h
        case hw6pad17_ => rfl
        case hy6pad17_ =>
          intro w' hSw
          obtain ⟨r0, r1, r2⟩ := hSw
          go_simp
          try exact rfl
        try simp only [Act.put, List.setIfInBounds_toArray, List.set_cons_zero, List.set_cons_succ]
        refine wpLate_one (i := 8) (o := ?o8pad18_) (by kernel_rfl) ?ho8pad18_ ?hk8pad18_
        case ho8pad18_ => (simp only [List.getElem?_toArray, List.getElem?_cons_zero, List.getElem?_cons_succ]; rfl)
        intro K hK
        have l0 : wpad9.cell? ⟨bpad2, 0, none⟩ = some (.int .i64 0) := Epad14.out.1.cell 0
        have l1 : wpad9.cell? ⟨bpad2, 1, none⟩ = some (.int .i64 0) := Epad14.out.1.cell 1
        have l2 : wpad9.cell? ⟨bpad2, 2, none⟩ = some (.int .i64 0) := Epad14.out.1.cell 2
        have l3 : wpad9.cell? ⟨bpad2, 3, none⟩ = some (.int .i64 0) := Epad14.out.1.cell 3
        have f0 := Epad14.out.1.frozen 0
        have f1 := Epad14.out.1.frozen 1
        have f2 := Epad14.out.1.frozen 2
        have f3 := Epad14.out.1.frozen 3
        have HFpad : Hid ((OW W ((((wpad9.setCell ⟨bpad2, 0, none⟩ (.int .i64 xa.elements)).setCell ⟨bpad2, 1, none⟩ (.int .i64 xa.parts)).setCell ⟨bpad2, 2, none⟩ (.int .i64 xa.off)).setCell ⟨bpad2, 3, none⟩ (.int .i64 xa.total)) r A c s AC AP cc cp PJ P2 j) ∧ Has ((((wpad9.setCell ⟨bpad2, 0, none⟩ (.int .i64 xa.elements)).setCell ⟨bpad2, 1, none⟩ (.int .i64 xa.parts)).setCell ⟨bpad2, 2, none⟩ (.int .i64 xa.off)).setCell ⟨bpad2, 3, none⟩ (.int .i64 xa.total)) bpad2 33 (scc xa)) := Lib.hid ⟨(H1p.out).step (by rw [← NHp.out]; exact ((((Epad12.out.1.setCell Epad14.out.2.2 _).setCell Epad14.out.2.2 _).setCell Epad14.out.2.2 _).setCell Epad14.out.2.2 _)), (((Epad14.out.1.set 0 _).set 1 _).set 2 _).set 3 _⟩
        go_simp
        refine hK.out _ _ (fun h => ⟨(HFpad.out.1).v.fr.cell 0, (HFpad.out.1).v.fr.cell 1, (HFpad.out.1).v.fr.cell 2⟩) ?_
        clear hK K
        try simp only [Act.put, List.setIfInBounds_toArray, List.set_cons_zero, List.set_cons_succ]
        refine wpLate_one (i := 9) (o := ?o9pad19_) (by kernel_rfl) ?ho9pad19_ ?hk9pad19_
        case ho9pad19_ => (simp only [List.getElem?_toArray, List.getElem?_cons_zero, List.getElem?_cons_succ]; rfl)
        intro K hK
        go_simp
        refine hK.out _ _ (fun h => ⟨(HFpad.out.1).v.fr.cell 0, (HFpad.out.1).v.fr.cell 1, (HFpad.out.1).v.fr.cell 2⟩) ?_
        clear hK K
        try simp only [Act.put, List.setIfInBounds_toArray, List.set_cons_zero, List.set_cons_succ]
        refine wpLate_done (by kernel_rfl) ?_ _
        try simp only [Act.put, List.setIfInBounds_toArray, List.set_cons_zero, List.set_cons_succ]
        try go_wp2_with fail
        go_meet
        exact ⟨bpad2, rfl, rfl, HFpad⟩
    case hkBp3_ =>
      intro K hK
      go_simp
      have Epb3 : Hid (Has (w1p.alloc (.cells #[.int .i64 0, .int .i64 0, .int .i64 0, .int .i64 0] 33)) w1p.heap.size 33 #[.int .i64 0, .int .i64 0, .int .i64 0, .int .i64 0] ∧ w1p.heap.size < (w1p.alloc (.cells #[.int .i64 0, .int .i64 0, .int .i64 0, .int .i64 0] 33)).heap.size ∧ Np ≤ w1p.heap.size) := Lib.hid ⟨Has.new _ _ _, by simp, Bbp.out.2⟩
      have Hpb4 : Hid (OW W (w1p.alloc (.cells #[.int .i64 0, .int .i64 0, .int .i64 0, .int .i64 0] 33)) r A c s AC AP cc cp PJ P2 j) := Lib.hid ((H1p.out).step (below_one w1p (.cells #[.int .i64 0, .int .i64 0, .int .i64 0, .int .i64 0] 33)))
      have Kpb5 : Hid ((w1p.alloc (.cells #[.int .i64 0, .int .i64 0, .int .i64 0, .int .i64 0] 33)).cell? ⟨W.heap.size, 0, none⟩ = some (.slice A r.bases.length c) ∧ (w1p.alloc (.cells #[.int .i64 0, .int .i64 0, .int .i64 0, .int .i64 0] 33)).cell? ⟨W.heap.size, 1, none⟩ = some (.int .i64 r.factor) ∧ (w1p.alloc (.cells #[.int .i64 0, .int .i64 0, .int .i64 0, .int .i64 0] 33)).cell? ⟨W.heap.size, 2, none⟩ = some (.int .i64 r.most)) := Lib.hid (⟨(Hpb4.out).v.fr.cell 0, (Hpb4.out).v.fr.cell 1, (Hpb4.out).v.fr.cell 2⟩)
      have Epb6 : Hid (Below Np w1p (w1p.alloc (.cells #[.int .i64 0, .int .i64 0, .int .i64 0, .int .i64 0] 33)) ∧ Np ≤ (w1p.alloc (.cells #[.int .i64 0, .int .i64 0, .int .i64 0, .int .i64 0] 33)).heap.size) := Lib.hid (⟨(Bbp.out).1.trans (((below_one w1p (.cells #[.int .i64 0, .int .i64 0, .int .i64 0, .int .i64 0] 33))).mono (Bbp.out).2), Nat.le_trans (Bbp.out).2 ((below_one w1p (.cells #[.int .i64 0, .int .i64 0, .int .i64 0, .int .i64 0] 33))).size⟩)
      refine hK.out _ _ (fun h => Kpb5.out) ?_
      clear hK K
      try simp only [Act.put, List.setIfInBounds_toArray, List.set_cons_zero, List.set_cons_succ]
      generalize w1p.alloc (.cells #[.int .i64 0, .int .i64 0, .int .i64 0, .int .i64 0] 33) = wpb1 at Hpb4 Kpb5 Epb6 Epb3 ⊢
      generalize w1p.heap.size = bpb2 at Epb3 ⊢
      refine wpLate_one (i := 2) (o := ?o2pb7_) (by kernel_rfl) ?ho2pb7_ ?hk2pb7_
      case ho2pb7_ => (simp only [List.getElem?_toArray, List.getElem?_cons_zero, List.getElem?_cons_succ]; rfl)
      intro K hK
      go_simp
      refine (HTO.out false _ P2 PJ _ Hpb4.out.v.b Hpb4.out.v.fs Hpb4.out.p2 Hpb4.out.pj).mono ?_
      rintro e wpb8 ⟨BC, BP, bc, bp, rfl, hsk9, hb9⟩
      have Mpb9 : Hid (SkR wpb8 wpb8.heap.size (endS false j s) BC BP) := Lib.hid hsk9
      clear hsk9
      have Hpb10 : Hid (OW W wpb8 r A c s AC AP cc cp PJ P2 j) := Lib.hid ((Hpb4.out).step hb9)
      have Kpb11 : Hid (wpb8.cell? ⟨W.heap.size, 0, none⟩ = some (.slice A r.bases.length c) ∧ wpb8.cell? ⟨W.heap.size, 1, none⟩ = some (.int .i64 r.factor) ∧ wpb8.cell? ⟨W.heap.size, 2, none⟩ = some (.int .i64 r.most)) := Lib.hid (⟨(Hpb10.out).v.fr.cell 0, (Hpb10.out).v.fr.cell 1, (Hpb10.out).v.fr.cell 2⟩)
      have Epb12 : Hid (Below Np w1p wpb8 ∧ Np ≤ wpb8.heap.size) := Lib.hid (⟨(Epb6.out).1.trans ((hb9).mono (Epb6.out).2), Nat.le_trans (Epb6.out).2 (hb9).size⟩)
      have Epb13 : Hid (Has wpb8 bpb2 33 #[.int .i64 0, .int .i64 0, .int .i64 0, .int .i64 0] ∧ bpb2 < wpb8.heap.size ∧ Np ≤ bpb2) := Lib.hid (⟨(Epb3.out).1.below hb9 (Epb3.out).2.1, Nat.lt_of_lt_of_le (Epb3.out).2.1 (hb9).size, (Epb3.out).2.2⟩)
      clear hb9
      go_simp
      refine hK.out _ _ (fun h => Kpb11.out) ?_
      clear hK K
      try simp only [Act.put, List.setIfInBounds_toArray, List.set_cons_zero, List.set_cons_succ]
      refine wpLate_one (i := 3) (o := ?o3pb14_) (by kernel_rfl) ?ho3pb14_ ?hk3pb14_
      case ho3pb14_ => (simp only [List.getElem?_toArray, List.getElem?_cons_zero, List.getElem?_cons_succ]; rfl)
      intro K hK
      go_simp
      refine (HPa.out _ _ _ _ _ Hpb10.out.v.b Mpb9.out).mono ?_
      rintro e wpb15 ⟨rfl, hb9⟩
      have Hpb16 : Hid (OW W wpb15 r A c s AC AP cc cp PJ P2 j) := Lib.hid ((Hpb10.out).step hb9)
      have Kpb17 : Hid (wpb15.cell? ⟨W.heap.size, 0, none⟩ = some (.slice A r.bases.length c) ∧ wpb15.cell? ⟨W.heap.size, 1, none⟩ = some (.int .i64 r.factor) ∧ wpb15.cell? ⟨W.heap.size, 2, none⟩ = some (.int .i64 r.most)) := Lib.hid (⟨(Hpb16.out).v.fr.cell 0, (Hpb16.out).v.fr.cell 1, (Hpb16.out).v.fr.cell 2⟩)
      have Epb18 : Hid (Below Np w1p wpb15 ∧ Np ≤ wpb15.heap.size) := Lib.hid (⟨(Epb12.out).1.trans ((hb9).mono (Epb12.out).2), Nat.le_trans (Epb12.out).2 (hb9).size⟩)
      have Epb19 : Hid (Has wpb15 bpb2 33 #[.int .i64 0, .int .i64 0, .int .i64 0, .int .i64 0] ∧ bpb2 < wpb15.heap.size ∧ Np ≤ bpb2) := Lib.hid (⟨(Epb13.out).1.below hb9 (Epb13.out).2.1, Nat.lt_of_lt_of_le (Epb13.out).2.1 (hb9).size, (Epb13.out).2.2⟩)
      have Epb20 : Hid (SkR wpb15 wpb15.heap.size (endS false j s) BC BP) := Lib.hid ((Mpb9.out).step hb9)
      clear hb9
      go_simp
      refine hK.out _ _ (fun h => Kpb17.out) ?_
      clear hK K
      try simp only [Act.put, List.setIfInBounds_toArray, List.set_cons_zero, List.set_cons_succ]
      refine wpLate_take (i := 4) (oi := ?oi4pb21_) (v := ?v4pb21_) [5, 6, 8, 9] ?hi4pb21_ (by kernel_rfl) (by kernel_rfl) (by kernel_rfl) (by kernel_rfl) (by kernel_rfl) ?hQ4pb21_ (Or.inl ⟨?hw4pb21_, ?hy4pb21_⟩) Kpb17.out ?rest4pb21_
      case hi4pb21_ => (simp only [List.getElem?_toArray, List.getElem?_cons_zero, List.getElem?_cons_succ]; rfl)
      case hQ4pb21_ => exact fun _ _ _ h => h
      case hw4pb21_ => rfl
      case hy4pb21_ =>
        intro w' hSw
        obtain ⟨r0, r1, r2⟩ := hSw
        go_simp
        try exact rfl
      try simp only [Act.put, List.setIfInBounds_toArray, List.set_cons_zero, List.set_cons_succ]
      refine wpLate_take (i := 5) (oi := ?oi5pb22_) (v := ?v5pb22_) [8, 9] ?hi5pb22_ (by kernel_rfl) (by kernel_rfl) (by kernel_rfl) (by kernel_rfl) (by kernel_rfl) ?hQ5pb22_ (Or.inl ⟨?hw5pb22_, ?hy5pb22_⟩) Kpb17.out ?rest5pb22_
      case hi5pb22_ => (simp only [List.getElem?_toArray, List.getElem?_cons_zero, List.getElem?_cons_succ]; rfl)
      case hQ5pb22_ => exact fun _ _ _ h => h
      case hw5pb22_ => rfl
      case hy5pb22_ =>
        intro w' hSw
        obtain ⟨r0, r1, r2⟩ := hSw
        go_simp
        try exact rfl
      try simp only [Act.put, List.setIfInBounds_toArray, List.set_cons_zero, List.set_cons_succ]
      refine wpLate_take (i := 6) (oi := ?oi6pb23_) (v := ?v6pb23_) [9] ?hi6pb23_ (by kernel_rfl) (by kernel_rfl) (by kernel_rfl) (by kernel_rfl) (by kernel_rfl) ?hQ6pb23_ (Or.inl ⟨?hw6pb23_, ?hy6pb23_⟩) Kpb17.out ?rest6pb23_
      case hi6pb23_ => (simp only [List.getElem?_toArray, List.getElem?_cons_zero, List.getElem?_cons_succ]; rfl)
      case hQ6pb23_ => exact fun _ _ _ h => h
      case hw6pb23_ => rfl
      case hy6pb23_ =>
        intro w' hSw
        obtain ⟨r0, r1, r2⟩ := hSw
        go_simp
        try exact rfl
      try simp only [Act.put, List.setIfInBounds_toArray, List.set_cons_zero, List.set_cons_succ]
      refine wpLate_one (i := 8) (o := ?o8pb24_) (by kernel_rfl) ?ho8pb24_ ?hk8pb24_
      case ho8pb24_ => (simp only [List.getElem?_toArray, List.getElem?_cons_zero, List.getElem?_cons_succ]; rfl)
      intro K hK
      have l0 : wpb15.cell? ⟨bpb2, 0, none⟩ = some (.int .i64 0) := Epb19.out.1.cell 0
      have l1 : wpb15.cell? ⟨bpb2, 1, none⟩ = some (.int .i64 0) := Epb19.out.1.cell 1
      have l2 : wpb15.cell? ⟨bpb2, 2, none⟩ = some (.int .i64 0) := Epb19.out.1.cell 2
      have l3 : wpb15.cell? ⟨bpb2, 3, none⟩ = some (.int .i64 0) := Epb19.out.1.cell 3
      have f0 := Epb19.out.1.frozen 0
      have f1 := Epb19.out.1.frozen 1
      have f2 := Epb19.out.1.frozen 2
      have f3 := Epb19.out.1.frozen 3
      have HFpb : Hid ((OW W ((((wpb15.setCell ⟨bpb2, 0, none⟩ (.int .i64 xa.elements)).setCell ⟨bpb2, 1, none⟩ (.int .i64 xa.parts)).setCell ⟨bpb2, 2, none⟩ (.int .i64 xa.off)).setCell ⟨bpb2, 3, none⟩ (.int .i64 xa.total)) r A c s AC AP cc cp PJ P2 j) ∧ Has ((((wpb15.setCell ⟨bpb2, 0, none⟩ (.int .i64 xa.elements)).setCell ⟨bpb2, 1, none⟩ (.int .i64 xa.parts)).setCell ⟨bpb2, 2, none⟩ (.int .i64 xa.off)).setCell ⟨bpb2, 3, none⟩ (.int .i64 xa.total)) bpb2 33 (scc xa)) := Lib.hid ⟨(H1p.out).step (by rw [← NHp.out]; exact ((((Epb18.out.1.setCell Epb19.out.2.2 _).setCell Epb19.out.2.2 _).setCell Epb19.out.2.2 _).setCell Epb19.out.2.2 _)), (((Epb19.out.1.set 0 _).set 1 _).set 2 _).set 3 _⟩
      go_simp
      refine hK.out _ _ (fun h => ⟨(HFpb.out.1).v.fr.cell 0, (HFpb.out.1).v.fr.cell 1, (HFpb.out.1).v.fr.cell 2⟩) ?_
      clear hK K
      try simp only [Act.put, List.setIfInBounds_toArray, List.set_cons_zero, List.set_cons_succ]
      refine wpLate_one (i := 9) (o := ?o9pb25_) (by kernel_rfl) ?ho9pb25_ ?hk9pb25_
      case ho9pb25_ => (simp only [List.getElem?_toArray, List.getElem?_cons_zero, List.getElem?_cons_succ]; rfl)
      intro K hK
      go_simp
      refine hK.out _ _ (fun h => ⟨(HFpb.out.1).v.fr.cell 0, (HFpb.out.1).v.fr.cell 1, (HFpb.out.1).v.fr.cell 2⟩) ?_
      clear hK K
      try simp only [Act.put, List.setIfInBounds_toArray, List.set_cons_zero, List.set_cons_succ]
      refine wpLate_done (by kernel_rfl) ?_ _
      try simp only [Act.put, List.setIfInBounds_toArray, List.set_cons_zero, List.set_cons_succ]
      try go_wp2_with fail
      go_meet
      exact ⟨bpb2, rfl, rfl, HFpb⟩
  case rest =>
    obtain ⟨b9p, rfl, rfl, H9p⟩ := hcut
    rename World => w9p
    obtain ⟨B1, hB1⟩ : ∃ B1, B1 = b9p := ⟨_, rfl⟩
    rw [← hB1] at H9p ⊢
    clear hB1 H4
    go_upto_region 10 with fail
    go_cut [15, 16] (fun uO uE wx => ∃ b9, uO = .pointer (some ⟨b9, 0, none⟩) ∧ uE = .int .i64 0 ∧ Hid ((OW W wx r A c s AC AP cc cp PJ P2 j ∧ Has wx B1 33 (scc xa)) ∧ Has wx b9 33 (scc xb)))
    case first =>
      have H1q : Hid (OW W w9p.drew r A c s AC AP cc cp PJ P2 j ∧ Has w9p.drew B1 33 (scc xa)) := Lib.hid (⟨(H9p.out).1.step ((Below.refl _ _).drew), (H9p.out).2.below ((Below.refl _ _).drew) (H9p.out).2.lt⟩)
      have K1q : Hid (w9p.drew.cell? ⟨W.heap.size, 0, none⟩ = some (.slice A r.bases.length c) ∧ w9p.drew.cell? ⟨W.heap.size, 1, none⟩ = some (.int .i64 r.factor) ∧ w9p.drew.cell? ⟨W.heap.size, 2, none⟩ = some (.int .i64 r.most) ∧ w9p.drew.cell? ⟨W.heap.size + 1, 0, none⟩ = some (.slice AC s.calls.length cc) ∧ w9p.drew.cell? ⟨W.heap.size + 1, 1, none⟩ = some (.slice AP s.parts.length cp) ∧ w9p.drew.cell? ⟨W.heap.size + 1, 2, none⟩ = some (.int .i64 s.over) ∧ w9p.drew.cell? ⟨PJ, 0, none⟩ = some (.int .i64 j)) := Lib.hid (⟨(H1q.out).1.v.fr.cell 0, (H1q.out).1.v.fr.cell 1, (H1q.out).1.v.fr.cell 2, (H1q.out).1.v.fs.cell 0, (H1q.out).1.v.fs.cell 1, (H1q.out).1.v.fs.cell 2, (H1q.out).1.pj.cell 0⟩)
      refine wp_region_late (fun w' : World => w'.cell? ⟨W.heap.size, 0, none⟩ = some (.slice A r.bases.length c) ∧ w'.cell? ⟨W.heap.size, 1, none⟩ = some (.int .i64 r.factor) ∧ w'.cell? ⟨W.heap.size, 2, none⟩ = some (.int .i64 r.most) ∧ w'.cell? ⟨W.heap.size + 1, 0, none⟩ = some (.slice AC s.calls.length cc) ∧ w'.cell? ⟨W.heap.size + 1, 1, none⟩ = some (.slice AP s.parts.length cp) ∧ w'.cell? ⟨W.heap.size + 1, 2, none⟩ = some (.int .i64 s.over) ∧ w'.cell? ⟨PJ, 0, none⟩ = some (.int .i64 j)) [] (by kernel_rfl) ?_
      generalize w9p.drew = w1q at H1q K1q ⊢
      obtain ⟨Nq, hNq⟩ : ∃ N, N = w1q.heap.size := ⟨_, rfl⟩
      have Bbq : Hid (Below Nq w1q w1q ∧ Nq ≤ w1q.heap.size) := Lib.hid ⟨Below.refl _ _, Nat.le_of_eq hNq⟩
      have NHq := Lib.hid hNq
      clear hNq
      refine wpLate_take (i := 0) (oi := ?oi0q1_) (v := ?v0q1_) [5, 6, 7, 8, 10, 11] ?hi0q1_ (by kernel_rfl) (by kernel_rfl) (by kernel_rfl) (by kernel_rfl) (by kernel_rfl) ?hQ0q1_ (Or.inl ⟨?hw0q1_, ?hy0q1_⟩) K1q.out ?rest0q1_
      case hi0q1_ => (simp only [List.getElem?_toArray, List.getElem?_cons_zero]; rfl)
      case hQ0q1_ => exact fun _ _ _ h => h
      case hw0q1_ => rfl
      case hy0q1_ =>
        intro w' hSw
        obtain ⟨r0, r1, r2, r3, r4, r5, r6⟩ := hSw
        go_simp
        try exact rfl
      try simp only [Act.put, List.setIfInBounds_toArray, List.set_cons_zero, List.set_cons_succ]
      refine wpLate_take (i := 1) (oi := ?oi1q2_) (v := ?v1q2_) [4, 5, 6, 7, 8, 10, 11] ?hi1q2_ (by kernel_rfl) (by kernel_rfl) (by kernel_rfl) (by kernel_rfl) (by kernel_rfl) ?hQ1q2_ (Or.inl ⟨?hw1q2_, ?hy1q2_⟩) K1q.out ?rest1q2_
      case hi1q2_ => (simp only [List.getElem?_toArray, List.getElem?_cons_zero, List.getElem?_cons_succ]; rfl)
      case hQ1q2_ => exact fun _ _ _ h => h
      case hw1q2_ => rfl
      case hy1q2_ =>
        intro w' hSw
        obtain ⟨r0, r1, r2, r3, r4, r5, r6⟩ := hSw
        go_simp
        try exact rfl
      try simp only [Act.put, List.setIfInBounds_toArray, List.set_cons_zero, List.set_cons_succ]
      refine wpLate_take (i := 2) (oi := ?oi2q3_) (v := ?v2q3_) [4, 5, 6, 7, 8, 10, 11] ?hi2q3_ (by kernel_rfl) (by kernel_rfl) (by kernel_rfl) (by kernel_rfl) (by kernel_rfl) ?hQ2q3_ (Or.inl ⟨?hw2q3_, ?hy2q3_⟩) K1q.out ?rest2q3_
      case hi2q3_ => (simp only [List.getElem?_toArray, List.getElem?_cons_zero, List.getElem?_cons_succ]; rfl)
      case hQ2q3_ => exact fun _ _ _ h => h
      case hw2q3_ => rfl
      case hy2q3_ =>
        intro w' hSw
        obtain ⟨r0, r1, r2, r3, r4, r5, r6⟩ := hSw
        go_simp
        try exact rfl
      try simp only [Act.put, List.setIfInBounds_toArray, List.set_cons_zero, List.set_cons_succ]
      refine wpLate_take (i := 3) (oi := ?oi3q4_) (v := ?v3q4_) [4, 5, 6, 7, 8, 10, 11] ?hi3q4_ (by kernel_rfl) (by kernel_rfl) (by kernel_rfl) (by kernel_rfl) (by kernel_rfl) ?hQ3q4_ (Or.inl ⟨?hw3q4_, ?hy3q4_⟩) K1q.out ?rest3q4_
      case hi3q4_ => (simp only [List.getElem?_toArray, List.getElem?_cons_zero, List.getElem?_cons_succ]; rfl)
      case hQ3q4_ => exact fun _ _ _ h => h
      case hw3q4_ => rfl
      case hy3q4_ =>
        intro w' hSw
        obtain ⟨r0, r1, r2, r3, r4, r5, r6⟩ := hSw
        go_simp
        try exact rfl
      try simp only [Act.put, List.setIfInBounds_toArray, List.set_cons_zero, List.set_cons_succ]
      refine wpLate_two (i := 4) (j := 9) (o := ?oAq5_) (u := ?uAq5_) (by kernel_rfl) ?hoAq5_ ?huAq5_ ?hkAq5_ ?hkBq5_
      case hoAq5_ => (simp only [List.getElem?_toArray, List.getElem?_cons_zero, List.getElem?_cons_succ]; rfl)
      case huAq5_ => (simp only [List.getElem?_toArray, List.getElem?_cons_zero, List.getElem?_cons_succ]; rfl)
      case hkAq5_ =>
        intro K hK
        go_simp
        refine (HCG.out _ H1q.out.1.v.b).mono ?_
        rintro e wqa1 ⟨BC, BP, bc, bp, rfl, hsk9, hb9⟩
        have Mqa2 : Hid (SkR wqa1 wqa1.heap.size (changedS s j by_ 0) BC BP) := Lib.hid hsk9
        clear hsk9
        have Hqa3 : Hid (OW W wqa1 r A c s AC AP cc cp PJ P2 j ∧ Has wqa1 B1 33 (scc xa)) := Lib.hid (⟨(H1q.out).1.step hb9, (H1q.out).2.below hb9 (H1q.out).2.lt⟩)
        have Kqa4 : Hid (wqa1.cell? ⟨W.heap.size, 0, none⟩ = some (.slice A r.bases.length c) ∧ wqa1.cell? ⟨W.heap.size, 1, none⟩ = some (.int .i64 r.factor) ∧ wqa1.cell? ⟨W.heap.size, 2, none⟩ = some (.int .i64 r.most) ∧ wqa1.cell? ⟨W.heap.size + 1, 0, none⟩ = some (.slice AC s.calls.length cc) ∧ wqa1.cell? ⟨W.heap.size + 1, 1, none⟩ = some (.slice AP s.parts.length cp) ∧ wqa1.cell? ⟨W.heap.size + 1, 2, none⟩ = some (.int .i64 s.over) ∧ wqa1.cell? ⟨PJ, 0, none⟩ = some (.int .i64 j)) := Lib.hid (⟨(Hqa3.out).1.v.fr.cell 0, (Hqa3.out).1.v.fr.cell 1, (Hqa3.out).1.v.fr.cell 2, (Hqa3.out).1.v.fs.cell 0, (Hqa3.out).1.v.fs.cell 1, (Hqa3.out).1.v.fs.cell 2, (Hqa3.out).1.pj.cell 0⟩)
        have Eqa5 : Hid (Below Nq w1q wqa1 ∧ Nq ≤ wqa1.heap.size) := Lib.hid (⟨(Bbq.out).1.trans ((hb9).mono (Bbq.out).2), Nat.le_trans (Bbq.out).2 (hb9).size⟩)
        clear hb9
        go_simp
        refine hK.out _ _ (fun h => Kqa4.out) ?_
        clear hK K
        try simp only [Act.put, List.setIfInBounds_toArray, List.set_cons_zero, List.set_cons_succ]
        refine wpLate_two (i := 5) (j := 9) (o := ?oAqa6_) (u := ?uAqa6_) (by kernel_rfl) ?hoAqa6_ ?huAqa6_ ?hkAqa6_ ?hkBqa6_
        case hoAqa6_ => (simp only [List.getElem?_toArray, List.getElem?_cons_zero, List.getElem?_cons_succ]; rfl)
        case huAqa6_ => (simp only [List.getElem?_toArray, List.getElem?_cons_zero, List.getElem?_cons_succ]; rfl)
        case hkAqa6_ =>
          intro K hK
          go_simp
          refine (HPy.out _ _ _ _ _ Hqa3.out.1.v.b Mqa2.out).mono ?_
          rintro e wqac1 ⟨rfl, hb9⟩
          have Hqac2 : Hid (OW W wqac1 r A c s AC AP cc cp PJ P2 j ∧ Has wqac1 B1 33 (scc xa)) := Lib.hid (⟨(Hqa3.out).1.step hb9, (Hqa3.out).2.below hb9 (Hqa3.out).2.lt⟩)
          have Kqac3 : Hid (wqac1.cell? ⟨W.heap.size, 0, none⟩ = some (.slice A r.bases.length c) ∧ wqac1.cell? ⟨W.heap.size, 1, none⟩ = some (.int .i64 r.factor) ∧ wqac1.cell? ⟨W.heap.size, 2, none⟩ = some (.int .i64 r.most) ∧ wqac1.cell? ⟨W.heap.size + 1, 0, none⟩ = some (.slice AC s.calls.length cc) ∧ wqac1.cell? ⟨W.heap.size + 1, 1, none⟩ = some (.slice AP s.parts.length cp) ∧ wqac1.cell? ⟨W.heap.size + 1, 2, none⟩ = some (.int .i64 s.over) ∧ wqac1.cell? ⟨PJ, 0, none⟩ = some (.int .i64 j)) := Lib.hid (⟨(Hqac2.out).1.v.fr.cell 0, (Hqac2.out).1.v.fr.cell 1, (Hqac2.out).1.v.fr.cell 2, (Hqac2.out).1.v.fs.cell 0, (Hqac2.out).1.v.fs.cell 1, (Hqac2.out).1.v.fs.cell 2, (Hqac2.out).1.pj.cell 0⟩)
          have Eqac4 : Hid (Below Nq w1q wqac1 ∧ Nq ≤ wqac1.heap.size) := Lib.hid (⟨(Eqa5.out).1.trans ((hb9).mono (Eqa5.out).2), Nat.le_trans (Eqa5.out).2 (hb9).size⟩)
          have Eqac5 : Hid (SkR wqac1 wqac1.heap.size (changedS s j by_ 0) BC BP) := Lib.hid ((Mqa2.out).step hb9)
          clear hb9
          go_simp
          refine hK.out _ _ (fun h => Kqac3.out) ?_
          clear hK K
          try simp only [Act.put, List.setIfInBounds_toArray, List.set_cons_zero, List.set_cons_succ]
          refine wpLate_take (i := 6) (oi := ?oi6qac6_) (v := ?v6qac6_) [7, 8, 10, 11] ?hi6qac6_ (by kernel_rfl) (by kernel_rfl) (by kernel_rfl) (by kernel_rfl) (by kernel_rfl) ?hQ6qac6_ (Or.inl ⟨?hw6qac6_, ?hy6qac6_⟩) Kqac3.out ?rest6qac6_
          case hi6qac6_ => (simp only [List.getElem?_toArray, List.getElem?_cons_zero, List.getElem?_cons_succ]; rfl)
          case hQ6qac6_ => exact fun _ _ _ h => h
          case hw6qac6_ => rfl
          case hy6qac6_ =>
            intro w' hSw
            obtain ⟨r0, r1, r2, r3, r4, r5, r6⟩ := hSw
            go_simp
            try exact rfl
          try simp only [Act.put, List.setIfInBounds_toArray, List.set_cons_zero, List.set_cons_succ]
          refine wpLate_take (i := 7) (oi := ?oi7qac7_) (v := ?v7qac7_) [10, 11] ?hi7qac7_ (by kernel_rfl) (by kernel_rfl) (by kernel_rfl) (by kernel_rfl) (by kernel_rfl) ?hQ7qac7_ (Or.inl ⟨?hw7qac7_, ?hy7qac7_⟩) Kqac3.out ?rest7qac7_
          case hi7qac7_ => (simp only [List.getElem?_toArray, List.getElem?_cons_zero, List.getElem?_cons_succ]; rfl)
          case hQ7qac7_ => exact fun _ _ _ h => h
          case hw7qac7_ => rfl
          case hy7qac7_ =>
            intro w' hSw
            obtain ⟨r0, r1, r2, r3, r4, r5, r6⟩ := hSw
            go_simp
            try exact rfl
          try simp only [Act.put, List.setIfInBounds_toArray, List.set_cons_zero, List.set_cons_succ]
          refine wpLate_take (i := 8) (oi := ?oi8qac8_) (v := ?v8qac8_) [11] ?hi8qac8_ (by kernel_rfl) (by kernel_rfl) (by kernel_rfl) (by kernel_rfl) (by kernel_rfl) ?hQ8qac8_ (Or.inl ⟨?hw8qac8_, ?hy8qac8_⟩) Kqac3.out ?rest8qac8_
          case hi8qac8_ => (simp only [List.getElem?_toArray, List.getElem?_cons_zero, List.getElem?_cons_succ]; rfl)
          case hQ8qac8_ => exact fun _ _ _ h => h
          case hw8qac8_ => rfl
          case hy8qac8_ =>
            intro w' hSw
            obtain ⟨r0, r1, r2, r3, r4, r5, r6⟩ := hSw
            go_simp
            try exact rfl
          try simp only [Act.put, List.setIfInBounds_toArray, List.set_cons_zero, List.set_cons_succ]
          refine wpLate_one (i := 9) (o := ?o9qac9_) (by kernel_rfl) ?ho9qac9_ ?hk9qac9_
          case ho9qac9_ => (simp only [List.getElem?_toArray, List.getElem?_cons_zero, List.getElem?_cons_succ]; rfl)
          intro K hK
          go_simp
          have Eqac12 : Hid (Has (wqac1.alloc (.cells #[.int .i64 0, .int .i64 0, .int .i64 0, .int .i64 0] 33)) wqac1.heap.size 33 #[.int .i64 0, .int .i64 0, .int .i64 0, .int .i64 0] ∧ wqac1.heap.size < (wqac1.alloc (.cells #[.int .i64 0, .int .i64 0, .int .i64 0, .int .i64 0] 33)).heap.size ∧ Nq ≤ wqac1.heap.size) := Lib.hid ⟨Has.new _ _ _, by simp, Eqac4.out.2⟩
          have Hqac13 : Hid (OW W (wqac1.alloc (.cells #[.int .i64 0, .int .i64 0, .int .i64 0, .int .i64 0] 33)) r A c s AC AP cc cp PJ P2 j ∧ Has (wqac1.alloc (.cells #[.int .i64 0, .int .i64 0, .int .i64 0, .int .i64 0] 33)) B1 33 (scc xa)) := Lib.hid (⟨(Hqac2.out).1.step (below_one wqac1 (.cells #[.int .i64 0, .int .i64 0, .int .i64 0, .int .i64 0] 33)), (Hqac2.out).2.below (below_one wqac1 (.cells #[.int .i64 0, .int .i64 0, .int .i64 0, .int .i64 0] 33)) (Hqac2.out).2.lt⟩)
          have Kqac14 : Hid ((wqac1.alloc (.cells #[.int .i64 0, .int .i64 0, .int .i64 0, .int .i64 0] 33)).cell? ⟨W.heap.size, 0, none⟩ = some (.slice A r.bases.length c) ∧ (wqac1.alloc (.cells #[.int .i64 0, .int .i64 0, .int .i64 0, .int .i64 0] 33)).cell? ⟨W.heap.size, 1, none⟩ = some (.int .i64 r.factor) ∧ (wqac1.alloc (.cells #[.int .i64 0, .int .i64 0, .int .i64 0, .int .i64 0] 33)).cell? ⟨W.heap.size, 2, none⟩ = some (.int .i64 r.most) ∧ (wqac1.alloc (.cells #[.int .i64 0, .int .i64 0, .int .i64 0, .int .i64 0] 33)).cell? ⟨W.heap.size + 1, 0, none⟩ = some (.slice AC s.calls.length cc) ∧ (wqac1.alloc (.cells #[.int .i64 0, .int .i64 0, .int .i64 0, .int .i64 0] 33)).cell? ⟨W.heap.size + 1, 1, none⟩ = some (.slice AP s.parts.length cp) ∧ (wqac1.alloc (.cells #[.int .i64 0, .int .i64 0, .int .i64 0, .int .i64 0] 33)).cell? ⟨W.heap.size + 1, 2, none⟩ = some (.int .i64 s.over) ∧ (wqac1.alloc (.cells #[.int .i64 0, .int .i64 0, .int .i64 0, .int .i64 0] 33)).cell? ⟨PJ, 0, none⟩ = some (.int .i64 j)) := Lib.hid (⟨(Hqac13.out).1.v.fr.cell 0, (Hqac13.out).1.v.fr.cell 1, (Hqac13.out).1.v.fr.cell 2, (Hqac13.out).1.v.fs.cell 0, (Hqac13.out).1.v.fs.cell 1, (Hqac13.out).1.v.fs.cell 2, (Hqac13.out).1.pj.cell 0⟩)
          have Eqac15 : Hid (Below Nq w1q (wqac1.alloc (.cells #[.int .i64 0, .int .i64 0, .int .i64 0, .int .i64 0] 33)) ∧ Nq ≤ (wqac1.alloc (.cells #[.int .i64 0, .int .i64 0, .int .i64 0, .int .i64 0] 33)).heap.size) := Lib.hid (⟨(Eqac4.out).1.trans (((below_one wqac1 (.cells #[.int .i64 0, .int .i64 0, .int .i64 0, .int .i64 0] 33))).mono (Eqac4.out).2), Nat.le_trans (Eqac4.out).2 ((below_one wqac1 (.cells #[.int .i64 0, .int .i64 0, .int .i64 0, .int .i64 0] 33))).size⟩)
          have Eqac16 : Hid (SkR (wqac1.alloc (.cells #[.int .i64 0, .int .i64 0, .int .i64 0, .int .i64 0] 33)) (wqac1.alloc (.cells #[.int .i64 0, .int .i64 0, .int .i64 0, .int .i64 0] 33)).heap.size (changedS s j by_ 0) BC BP) := Lib.hid ((Eqac5.out).step (below_one wqac1 (.cells #[.int .i64 0, .int .i64 0, .int .i64 0, .int .i64 0] 33)))
          refine hK.out _ _ (fun h => Kqac14.out) ?_
          clear hK K
          try simp only [Act.put, List.setIfInBounds_toArray, List.set_cons_zero, List.set_cons_succ]
          generalize wqac1.alloc (.cells #[.int .i64 0, .int .i64 0, .int .i64 0, .int .i64 0] 33) = wqac10 at Hqac13 Kqac14 Eqac15 Eqac16 Eqac12 ⊢
          generalize wqac1.heap.size = bqac11 at Eqac12 ⊢
          refine wpLate_one (i := 10) (o := ?o10qac17_) (by kernel_rfl) ?ho10qac17_ ?hk10qac17_
          case ho10qac17_ => (simp only [List.getElem?_toArray, List.getElem?_cons_zero, List.getElem?_cons_succ]; rfl)
          intro K hK
          have l0 : wqac10.cell? ⟨bqac11, 0, none⟩ = some (.int .i64 0) := Eqac12.out.1.cell 0
          have l1 : wqac10.cell? ⟨bqac11, 1, none⟩ = some (.int .i64 0) := Eqac12.out.1.cell 1
          have l2 : wqac10.cell? ⟨bqac11, 2, none⟩ = some (.int .i64 0) := Eqac12.out.1.cell 2
          have l3 : wqac10.cell? ⟨bqac11, 3, none⟩ = some (.int .i64 0) := Eqac12.out.1.cell 3
          have f0 := Eqac12.out.1.frozen 0
          have f1 := Eqac12.out.1.frozen 1
          have f2 := Eqac12.out.1.frozen 2
          have f3 := Eqac12.out.1.frozen 3
          have HFqac : Hid ((OW W ((((wqac10.setCell ⟨bqac11, 0, none⟩ (.int .i64 xb.elements)).setCell ⟨bqac11, 1, none⟩ (.int .i64 xb.parts)).setCell ⟨bqac11, 2, none⟩ (.int .i64 xb.off)).setCell ⟨bqac11, 3, none⟩ (.int .i64 xb.total)) r A c s AC AP cc cp PJ P2 j ∧ Has ((((wqac10.setCell ⟨bqac11, 0, none⟩ (.int .i64 xb.elements)).setCell ⟨bqac11, 1, none⟩ (.int .i64 xb.parts)).setCell ⟨bqac11, 2, none⟩ (.int .i64 xb.off)).setCell ⟨bqac11, 3, none⟩ (.int .i64 xb.total)) B1 33 (scc xa)) ∧ Has ((((wqac10.setCell ⟨bqac11, 0, none⟩ (.int .i64 xb.elements)).setCell ⟨bqac11, 1, none⟩ (.int .i64 xb.parts)).setCell ⟨bqac11, 2, none⟩ (.int .i64 xb.off)).setCell ⟨bqac11, 3, none⟩ (.int .i64 xb.total)) bqac11 33 (scc xb)) := Lib.hid ⟨⟨(H1q.out).1.step (by rw [← NHq.out]; exact ((((Eqac15.out.1.setCell Eqac12.out.2.2 _).setCell Eqac12.out.2.2 _).setCell Eqac12.out.2.2 _).setCell Eqac12.out.2.2 _)), (H1q.out).2.below (by rw [← NHq.out]; exact ((((Eqac15.out.1.setCell Eqac12.out.2.2 _).setCell Eqac12.out.2.2 _).setCell Eqac12.out.2.2 _).setCell Eqac12.out.2.2 _)) (H1q.out).2.lt⟩, (((Eqac12.out.1.set 0 _).set 1 _).set 2 _).set 3 _⟩
          go_simp
          refine hK.out _ _ (fun h => ⟨(HFqac.out.1).1.v.fr.cell 0, (HFqac.out.1).1.v.fr.cell 1, (HFqac.out.1).1.v.fr.cell 2, (HFqac.out.1).1.v.fs.cell 0, (HFqac.out.1).1.v.fs.cell 1, (HFqac.out.1).1.v.fs.cell 2, (HFqac.out.1).1.pj.cell 0⟩) ?_
          clear hK K
          try simp only [Act.put, List.setIfInBounds_toArray, List.set_cons_zero, List.set_cons_succ]
          refine wpLate_one (i := 11) (o := ?o11qac18_) (by kernel_rfl) ?ho11qac18_ ?hk11qac18_
          case ho11qac18_ => (simp only [List.getElem?_toArray, List.getElem?_cons_zero, List.getElem?_cons_succ]; rfl)
          intro K hK
          go_simp
          refine hK.out _ _ (fun h => ⟨(HFqac.out.1).1.v.fr.cell 0, (HFqac.out.1).1.v.fr.cell 1, (HFqac.out.1).1.v.fr.cell 2, (HFqac.out.1).1.v.fs.cell 0, (HFqac.out.1).1.v.fs.cell 1, (HFqac.out.1).1.v.fs.cell 2, (HFqac.out.1).1.pj.cell 0⟩) ?_
          clear hK K
          try simp only [Act.put, List.setIfInBounds_toArray, List.set_cons_zero, List.set_cons_succ]
          refine wpLate_done (by kernel_rfl) ?_ _
          try simp only [Act.put, List.setIfInBounds_toArray, List.set_cons_zero, List.set_cons_succ]
          try go_wp2_with fail
          go_meet
          exact ⟨bqac11, rfl, rfl, HFqac⟩
        case hkBqa6_ =>
          intro K hK
          go_simp
          have Eqad3 : Hid (Has (wqa1.alloc (.cells #[.int .i64 0, .int .i64 0, .int .i64 0, .int .i64 0] 33)) wqa1.heap.size 33 #[.int .i64 0, .int .i64 0, .int .i64 0, .int .i64 0] ∧ wqa1.heap.size < (wqa1.alloc (.cells #[.int .i64 0, .int .i64 0, .int .i64 0, .int .i64 0] 33)).heap.size ∧ Nq ≤ wqa1.heap.size) := Lib.hid ⟨Has.new _ _ _, by simp, Eqa5.out.2⟩
          have Hqad4 : Hid (OW W (wqa1.alloc (.cells #[.int .i64 0, .int .i64 0, .int .i64 0, .int .i64 0] 33)) r A c s AC AP cc cp PJ P2 j ∧ Has (wqa1.alloc (.cells #[.int .i64 0, .int .i64 0, .int .i64 0, .int .i64 0] 33)) B1 33 (scc xa)) := Lib.hid (⟨(Hqa3.out).1.step (below_one wqa1 (.cells #[.int .i64 0, .int .i64 0, .int .i64 0, .int .i64 0] 33)), (Hqa3.out).2.below (below_one wqa1 (.cells #[.int .i64 0, .int .i64 0, .int .i64 0, .int .i64 0] 33)) (Hqa3.out).2.lt⟩)
          have Kqad5 : Hid ((wqa1.alloc (.cells #[.int .i64 0, .int .i64 0, .int .i64 0, .int .i64 0] 33)).cell? ⟨W.heap.size, 0, none⟩ = some (.slice A r.bases.length c) ∧ (wqa1.alloc (.cells #[.int .i64 0, .int .i64 0, .int .i64 0, .int .i64 0] 33)).cell? ⟨W.heap.size, 1, none⟩ = some (.int .i64 r.factor) ∧ (wqa1.alloc (.cells #[.int .i64 0, .int .i64 0, .int .i64 0, .int .i64 0] 33)).cell? ⟨W.heap.size, 2, none⟩ = some (.int .i64 r.most) ∧ (wqa1.alloc (.cells #[.int .i64 0, .int .i64 0, .int .i64 0, .int .i64 0] 33)).cell? ⟨W.heap.size + 1, 0, none⟩ = some (.slice AC s.calls.length cc) ∧ (wqa1.alloc (.cells #[.int .i64 0, .int .i64 0, .int .i64 0, .int .i64 0] 33)).cell? ⟨W.heap.size + 1, 1, none⟩ = some (.slice AP s.parts.length cp) ∧ (wqa1.alloc (.cells #[.int .i64 0, .int .i64 0, .int .i64 0, .int .i64 0] 33)).cell? ⟨W.heap.size + 1, 2, none⟩ = some (.int .i64 s.over) ∧ (wqa1.alloc (.cells #[.int .i64 0, .int .i64 0, .int .i64 0, .int .i64 0] 33)).cell? ⟨PJ, 0, none⟩ = some (.int .i64 j)) := Lib.hid (⟨(Hqad4.out).1.v.fr.cell 0, (Hqad4.out).1.v.fr.cell 1, (Hqad4.out).1.v.fr.cell 2, (Hqad4.out).1.v.fs.cell 0, (Hqad4.out).1.v.fs.cell 1, (Hqad4.out).1.v.fs.cell 2, (Hqad4.out).1.pj.cell 0⟩)
          have Eqad6 : Hid (Below Nq w1q (wqa1.alloc (.cells #[.int .i64 0, .int .i64 0, .int .i64 0, .int .i64 0] 33)) ∧ Nq ≤ (wqa1.alloc (.cells #[.int .i64 0, .int .i64 0, .int .i64 0, .int .i64 0] 33)).heap.size) := Lib.hid (⟨(Eqa5.out).1.trans (((below_one wqa1 (.cells #[.int .i64 0, .int .i64 0, .int .i64 0, .int .i64 0] 33))).mono (Eqa5.out).2), Nat.le_trans (Eqa5.out).2 ((below_one wqa1 (.cells #[.int .i64 0, .int .i64 0, .int .i64 0, .int .i64 0] 33))).size⟩)
          have Eqad7 : Hid (SkR (wqa1.alloc (.cells #[.int .i64 0, .int .i64 0, .int .i64 0, .int .i64 0] 33)) (wqa1.alloc (.cells #[.int .i64 0, .int .i64 0, .int .i64 0, .int .i64 0] 33)).heap.size (changedS s j by_ 0) BC BP) := Lib.hid ((Mqa2.out).step (below_one wqa1 (.cells #[.int .i64 0, .int .i64 0, .int .i64 0, .int .i64 0] 33)))
          refine hK.out _ _ (fun h => Kqad5.out) ?_
          clear hK K
          try simp only [Act.put, List.setIfInBounds_toArray, List.set_cons_zero, List.set_cons_succ]
          generalize wqa1.alloc (.cells #[.int .i64 0, .int .i64 0, .int .i64 0, .int .i64 0] 33) = wqad1 at Hqad4 Kqad5 Eqad6 Eqad7 Eqad3 ⊢
          generalize wqa1.heap.size = bqad2 at Eqad3 ⊢
          refine wpLate_one (i := 5) (o := ?o5qad8_) (by kernel_rfl) ?ho5qad8_ ?hk5qad8_
          case ho5qad8_ => (simp only [List.getElem?_toArray, List.getElem?_cons_zero, List.getElem?_cons_succ]; rfl)
          intro K hK
          go_simp
          refine (HPy.out _ _ _ _ _ Hqad4.out.1.v.b Eqad7.out).mono ?_
          rintro e wqad9 ⟨rfl, hb9⟩
          have Hqad10 : Hid (OW W wqad9 r A c s AC AP cc cp PJ P2 j ∧ Has wqad9 B1 33 (scc xa)) := Lib.hid (⟨(Hqad4.out).1.step hb9, (Hqad4.out).2.below hb9 (Hqad4.out).2.lt⟩)
          have Kqad11 : Hid (wqad9.cell? ⟨W.heap.size, 0, none⟩ = some (.slice A r.bases.length c) ∧ wqad9.cell? ⟨W.heap.size, 1, none⟩ = some (.int .i64 r.factor) ∧ wqad9.cell? ⟨W.heap.size, 2, none⟩ = some (.int .i64 r.most) ∧ wqad9.cell? ⟨W.heap.size + 1, 0, none⟩ = some (.slice AC s.calls.length cc) ∧ wqad9.cell? ⟨W.heap.size + 1, 1, none⟩ = some (.slice AP s.parts.length cp) ∧ wqad9.cell? ⟨W.heap.size + 1, 2, none⟩ = some (.int .i64 s.over) ∧ wqad9.cell? ⟨PJ, 0, none⟩ = some (.int .i64 j)) := Lib.hid (⟨(Hqad10.out).1.v.fr.cell 0, (Hqad10.out).1.v.fr.cell 1, (Hqad10.out).1.v.fr.cell 2, (Hqad10.out).1.v.fs.cell 0, (Hqad10.out).1.v.fs.cell 1, (Hqad10.out).1.v.fs.cell 2, (Hqad10.out).1.pj.cell 0⟩)
          have Eqad12 : Hid (Below Nq w1q wqad9 ∧ Nq ≤ wqad9.heap.size) := Lib.hid (⟨(Eqad6.out).1.trans ((hb9).mono (Eqad6.out).2), Nat.le_trans (Eqad6.out).2 (hb9).size⟩)
          have Eqad13 : Hid (SkR wqad9 wqad9.heap.size (changedS s j by_ 0) BC BP) := Lib.hid ((Eqad7.out).step hb9)
          have Eqad14 : Hid (Has wqad9 bqad2 33 #[.int .i64 0, .int .i64 0, .int .i64 0, .int .i64 0] ∧ bqad2 < wqad9.heap.size ∧ Nq ≤ bqad2) := Lib.hid (⟨(Eqad3.out).1.below hb9 (Eqad3.out).2.1, Nat.lt_of_lt_of_le (Eqad3.out).2.1 (hb9).size, (Eqad3.out).2.2⟩)
          clear hb9
          go_simp
          refine hK.out _ _ (fun h => Kqad11.out) ?_
          clear hK K
          try simp only [Act.put, List.setIfInBounds_toArray, List.set_cons_zero, List.set_cons_succ]
          refine wpLate_take (i := 6) (oi := ?oi6qad15_) (v := ?v6qad15_) [7, 8, 10, 11] ?hi6qad15_ (by kernel_rfl) (by kernel_rfl) (by kernel_rfl) (by kernel_rfl) (by kernel_rfl) ?hQ6qad15_ (Or.inl ⟨?hw6qad15_, ?hy6qad15_⟩) Kqad11.out ?rest6qad15_
          case hi6qad15_ => (simp only [List.getElem?_toArray, List.getElem?_cons_zero, List.getElem?_cons_succ]; rfl)
          case hQ6qad15_ => exact fun _ _ _ h => h
          case hw6qad15_ => rfl
          case hy6qad15_ =>
            intro w' hSw
            obtain ⟨r0, r1, r2, r3, r4, r5, r6⟩ := hSw
            go_simp
            try exact rfl
          try simp only [Act.put, List.setIfInBounds_toArray, List.set_cons_zero, List.set_cons_succ]
          refine wpLate_take (i := 7) (oi := ?oi7qad16_) (v := ?v7qad16_) [10, 11] ?hi7qad16_ (by kernel_rfl) (by kernel_rfl) (by kernel_rfl) (by kernel_rfl) (by kernel_rfl) ?hQ7qad16_ (Or.inl ⟨?hw7qad16_, ?hy7qad16_⟩) Kqad11.out ?rest7qad16_
          case hi7qad16_ => (simp only [List.getElem?_toArray, List.getElem?_cons_zero, List.getElem?_cons_succ]; rfl)
          case hQ7qad16_ => exact fun _ _ _ h => h
          case hw7qad16_ => rfl
          case hy7qad16_ =>
            intro w' hSw
            obtain ⟨r0, r1, r2, r3, r4, r5, r6⟩ := hSw
            go_simp
            try exact rfl
          try simp only [Act.put, List.setIfInBounds_toArray, List.set_cons_zero, List.set_cons_succ]
          refine wpLate_take (i := 8) (oi := ?oi8qad17_) (v := ?v8qad17_) [11] ?hi8qad17_ (by kernel_rfl) (by kernel_rfl) (by kernel_rfl) (by kernel_rfl) (by kernel_rfl) ?hQ8qad17_ (Or.inl ⟨?hw8qad17_, ?hy8qad17_⟩) Kqad11.out ?rest8qad17_
          case hi8qad17_ => (simp only [List.getElem?_toArray, List.getElem?_cons_zero, List.getElem?_cons_succ]; rfl)
          case hQ8qad17_ => exact fun _ _ _ h => h
          case hw8qad17_ => rfl
          case hy8qad17_ =>
            intro w' hSw
            obtain ⟨r0, r1, r2, r3, r4, r5, r6⟩ := hSw
            go_simp
            try exact rfl
          try simp only [Act.put, List.setIfInBounds_toArray, List.set_cons_zero, List.set_cons_succ]
          refine wpLate_one (i := 10) (o := ?o10qad18_) (by kernel_rfl) ?ho10qad18_ ?hk10qad18_
          case ho10qad18_ => (simp only [List.getElem?_toArray, List.getElem?_cons_zero, List.getElem?_cons_succ]; rfl)
          intro K hK
          have l0 : wqad9.cell? ⟨bqad2, 0, none⟩ = some (.int .i64 0) := Eqad14.out.1.cell 0
          have l1 : wqad9.cell? ⟨bqad2, 1, none⟩ = some (.int .i64 0) := Eqad14.out.1.cell 1
          have l2 : wqad9.cell? ⟨bqad2, 2, none⟩ = some (.int .i64 0) := Eqad14.out.1.cell 2
          have l3 : wqad9.cell? ⟨bqad2, 3, none⟩ = some (.int .i64 0) := Eqad14.out.1.cell 3
          have f0 := Eqad14.out.1.frozen 0
          have f1 := Eqad14.out.1.frozen 1
          have f2 := Eqad14.out.1.frozen 2
          have f3 := Eqad14.out.1.frozen 3
          have HFqad : Hid ((OW W ((((wqad9.setCell ⟨bqad2, 0, none⟩ (.int .i64 xb.elements)).setCell ⟨bqad2, 1, none⟩ (.int .i64 xb.parts)).setCell ⟨bqad2, 2, none⟩ (.int .i64 xb.off)).setCell ⟨bqad2, 3, none⟩ (.int .i64 xb.total)) r A c s AC AP cc cp PJ P2 j ∧ Has ((((wqad9.setCell ⟨bqad2, 0, none⟩ (.int .i64 xb.elements)).setCell ⟨bqad2, 1, none⟩ (.int .i64 xb.parts)).setCell ⟨bqad2, 2, none⟩ (.int .i64 xb.off)).setCell ⟨bqad2, 3, none⟩ (.int .i64 xb.total)) B1 33 (scc xa)) ∧ Has ((((wqad9.setCell ⟨bqad2, 0, none⟩ (.int .i64 xb.elements)).setCell ⟨bqad2, 1, none⟩ (.int .i64 xb.parts)).setCell ⟨bqad2, 2, none⟩ (.int .i64 xb.off)).setCell ⟨bqad2, 3, none⟩ (.int .i64 xb.total)) bqad2 33 (scc xb)) := Lib.hid ⟨⟨(H1q.out).1.step (by rw [← NHq.out]; exact ((((Eqad12.out.1.setCell Eqad14.out.2.2 _).setCell Eqad14.out.2.2 _).setCell Eqad14.out.2.2 _).setCell Eqad14.out.2.2 _)), (H1q.out).2.below (by rw [← NHq.out]; exact ((((Eqad12.out.1.setCell Eqad14.out.2.2 _).setCell Eqad14.out.2.2 _).setCell Eqad14.out.2.2 _).setCell Eqad14.out.2.2 _)) (H1q.out).2.lt⟩, (((Eqad14.out.1.set 0 _).set 1 _).set 2 _).set 3 _⟩
          go_simp
          refine hK.out _ _ (fun h => ⟨(HFqad.out.1).1.v.fr.cell 0, (HFqad.out.1).1.v.fr.cell 1, (HFqad.out.1).1.v.fr.cell 2, (HFqad.out.1).1.v.fs.cell 0, (HFqad.out.1).1.v.fs.cell 1, (HFqad.out.1).1.v.fs.cell 2, (HFqad.out.1).1.pj.cell 0⟩) ?_
          clear hK K
          try simp only [Act.put, List.setIfInBounds_toArray, List.set_cons_zero, List.set_cons_succ]
          refine wpLate_one (i := 11) (o := ?o11qad19_) (by kernel_rfl) ?ho11qad19_ ?hk11qad19_
          case ho11qad19_ => (simp only [List.getElem?_toArray, List.getElem?_cons_zero, List.getElem?_cons_succ]; rfl)
          intro K hK
          go_simp
          refine hK.out _ _ (fun h => ⟨(HFqad.out.1).1.v.fr.cell 0, (HFqad.out.1).1.v.fr.cell 1, (HFqad.out.1).1.v.fr.cell 2, (HFqad.out.1).1.v.fs.cell 0, (HFqad.out.1).1.v.fs.cell 1, (HFqad.out.1).1.v.fs.cell 2, (HFqad.out.1).1.pj.cell 0⟩) ?_
          clear hK K
          try simp only [Act.put, List.setIfInBounds_toArray, List.set_cons_zero, List.set_cons_succ]
          refine wpLate_done (by kernel_rfl) ?_ _
          try simp only [Act.put, List.setIfInBounds_toArray, List.set_cons_zero, List.set_cons_succ]
          try go_wp2_with fail
          go_meet
          exact ⟨bqad2, rfl, rfl, HFqad⟩
      case hkBq5_ =>
        intro K hK
        go_simp
        have Eqb3 : Hid (Has (w1q.alloc (.cells #[.int .i64 0, .int .i64 0, .int .i64 0, .int .i64 0] 33)) w1q.heap.size 33 #[.int .i64 0, .int .i64 0, .int .i64 0, .int .i64 0] ∧ w1q.heap.size < (w1q.alloc (.cells #[.int .i64 0, .int .i64 0, .int .i64 0, .int .i64 0] 33)).heap.size ∧ Nq ≤ w1q.heap.size) := Lib.hid ⟨Has.new _ _ _, by simp, Bbq.out.2⟩
        have Hqb4 : Hid (OW W (w1q.alloc (.cells #[.int .i64 0, .int .i64 0, .int .i64 0, .int .i64 0] 33)) r A c s AC AP cc cp PJ P2 j ∧ Has (w1q.alloc (.cells #[.int .i64 0, .int .i64 0, .int .i64 0, .int .i64 0] 33)) B1 33 (scc xa)) := Lib.hid (⟨(H1q.out).1.step (below_one w1q (.cells #[.int .i64 0, .int .i64 0, .int .i64 0, .int .i64 0] 33)), (H1q.out).2.below (below_one w1q (.cells #[.int .i64 0, .int .i64 0, .int .i64 0, .int .i64 0] 33)) (H1q.out).2.lt⟩)
        have Kqb5 : Hid ((w1q.alloc (.cells #[.int .i64 0, .int .i64 0, .int .i64 0, .int .i64 0] 33)).cell? ⟨W.heap.size, 0, none⟩ = some (.slice A r.bases.length c) ∧ (w1q.alloc (.cells #[.int .i64 0, .int .i64 0, .int .i64 0, .int .i64 0] 33)).cell? ⟨W.heap.size, 1, none⟩ = some (.int .i64 r.factor) ∧ (w1q.alloc (.cells #[.int .i64 0, .int .i64 0, .int .i64 0, .int .i64 0] 33)).cell? ⟨W.heap.size, 2, none⟩ = some (.int .i64 r.most) ∧ (w1q.alloc (.cells #[.int .i64 0, .int .i64 0, .int .i64 0, .int .i64 0] 33)).cell? ⟨W.heap.size + 1, 0, none⟩ = some (.slice AC s.calls.length cc) ∧ (w1q.alloc (.cells #[.int .i64 0, .int .i64 0, .int .i64 0, .int .i64 0] 33)).cell? ⟨W.heap.size + 1, 1, none⟩ = some (.slice AP s.parts.length cp) ∧ (w1q.alloc (.cells #[.int .i64 0, .int .i64 0, .int .i64 0, .int .i64 0] 33)).cell? ⟨W.heap.size + 1, 2, none⟩ = some (.int .i64 s.over) ∧ (w1q.alloc (.cells #[.int .i64 0, .int .i64 0, .int .i64 0, .int .i64 0] 33)).cell? ⟨PJ, 0, none⟩ = some (.int .i64 j)) := Lib.hid (⟨(Hqb4.out).1.v.fr.cell 0, (Hqb4.out).1.v.fr.cell 1, (Hqb4.out).1.v.fr.cell 2, (Hqb4.out).1.v.fs.cell 0, (Hqb4.out).1.v.fs.cell 1, (Hqb4.out).1.v.fs.cell 2, (Hqb4.out).1.pj.cell 0⟩)
        have Eqb6 : Hid (Below Nq w1q (w1q.alloc (.cells #[.int .i64 0, .int .i64 0, .int .i64 0, .int .i64 0] 33)) ∧ Nq ≤ (w1q.alloc (.cells #[.int .i64 0, .int .i64 0, .int .i64 0, .int .i64 0] 33)).heap.size) := Lib.hid (⟨(Bbq.out).1.trans (((below_one w1q (.cells #[.int .i64 0, .int .i64 0, .int .i64 0, .int .i64 0] 33))).mono (Bbq.out).2), Nat.le_trans (Bbq.out).2 ((below_one w1q (.cells #[.int .i64 0, .int .i64 0, .int .i64 0, .int .i64 0] 33))).size⟩)
        refine hK.out _ _ (fun h => Kqb5.out) ?_
        clear hK K
        try simp only [Act.put, List.setIfInBounds_toArray, List.set_cons_zero, List.set_cons_succ]
        generalize w1q.alloc (.cells #[.int .i64 0, .int .i64 0, .int .i64 0, .int .i64 0] 33) = wqb1 at Hqb4 Kqb5 Eqb6 Eqb3 ⊢
        generalize w1q.heap.size = bqb2 at Eqb3 ⊢
        refine wpLate_one (i := 4) (o := ?o4qb7_) (by kernel_rfl) ?ho4qb7_ ?hk4qb7_
        case ho4qb7_ => (simp only [List.getElem?_toArray, List.getElem?_cons_zero, List.getElem?_cons_succ]; rfl)
        intro K hK
        go_simp
        refine (HCG.out _ Hqb4.out.1.v.b).mono ?_
        rintro e wqb8 ⟨BC, BP, bc, bp, rfl, hsk9, hb9⟩
        have Mqb9 : Hid (SkR wqb8 wqb8.heap.size (changedS s j by_ 0) BC BP) := Lib.hid hsk9
        clear hsk9
        have Hqb10 : Hid (OW W wqb8 r A c s AC AP cc cp PJ P2 j ∧ Has wqb8 B1 33 (scc xa)) := Lib.hid (⟨(Hqb4.out).1.step hb9, (Hqb4.out).2.below hb9 (Hqb4.out).2.lt⟩)
        have Kqb11 : Hid (wqb8.cell? ⟨W.heap.size, 0, none⟩ = some (.slice A r.bases.length c) ∧ wqb8.cell? ⟨W.heap.size, 1, none⟩ = some (.int .i64 r.factor) ∧ wqb8.cell? ⟨W.heap.size, 2, none⟩ = some (.int .i64 r.most) ∧ wqb8.cell? ⟨W.heap.size + 1, 0, none⟩ = some (.slice AC s.calls.length cc) ∧ wqb8.cell? ⟨W.heap.size + 1, 1, none⟩ = some (.slice AP s.parts.length cp) ∧ wqb8.cell? ⟨W.heap.size + 1, 2, none⟩ = some (.int .i64 s.over) ∧ wqb8.cell? ⟨PJ, 0, none⟩ = some (.int .i64 j)) := Lib.hid (⟨(Hqb10.out).1.v.fr.cell 0, (Hqb10.out).1.v.fr.cell 1, (Hqb10.out).1.v.fr.cell 2, (Hqb10.out).1.v.fs.cell 0, (Hqb10.out).1.v.fs.cell 1, (Hqb10.out).1.v.fs.cell 2, (Hqb10.out).1.pj.cell 0⟩)
        have Eqb12 : Hid (Below Nq w1q wqb8 ∧ Nq ≤ wqb8.heap.size) := Lib.hid (⟨(Eqb6.out).1.trans ((hb9).mono (Eqb6.out).2), Nat.le_trans (Eqb6.out).2 (hb9).size⟩)
        have Eqb13 : Hid (Has wqb8 bqb2 33 #[.int .i64 0, .int .i64 0, .int .i64 0, .int .i64 0] ∧ bqb2 < wqb8.heap.size ∧ Nq ≤ bqb2) := Lib.hid (⟨(Eqb3.out).1.below hb9 (Eqb3.out).2.1, Nat.lt_of_lt_of_le (Eqb3.out).2.1 (hb9).size, (Eqb3.out).2.2⟩)
        clear hb9
        go_simp
        refine hK.out _ _ (fun h => Kqb11.out) ?_
        clear hK K
        try simp only [Act.put, List.setIfInBounds_toArray, List.set_cons_zero, List.set_cons_succ]
        refine wpLate_one (i := 5) (o := ?o5qb14_) (by kernel_rfl) ?ho5qb14_ ?hk5qb14_
        case ho5qb14_ => (simp only [List.getElem?_toArray, List.getElem?_cons_zero, List.getElem?_cons_succ]; rfl)
        intro K hK
        go_simp
        refine (HPy.out _ _ _ _ _ Hqb10.out.1.v.b Mqb9.out).mono ?_
        rintro e wqb15 ⟨rfl, hb9⟩
        have Hqb16 : Hid (OW W wqb15 r A c s AC AP cc cp PJ P2 j ∧ Has wqb15 B1 33 (scc xa)) := Lib.hid (⟨(Hqb10.out).1.step hb9, (Hqb10.out).2.below hb9 (Hqb10.out).2.lt⟩)
        have Kqb17 : Hid (wqb15.cell? ⟨W.heap.size, 0, none⟩ = some (.slice A r.bases.length c) ∧ wqb15.cell? ⟨W.heap.size, 1, none⟩ = some (.int .i64 r.factor) ∧ wqb15.cell? ⟨W.heap.size, 2, none⟩ = some (.int .i64 r.most) ∧ wqb15.cell? ⟨W.heap.size + 1, 0, none⟩ = some (.slice AC s.calls.length cc) ∧ wqb15.cell? ⟨W.heap.size + 1, 1, none⟩ = some (.slice AP s.parts.length cp) ∧ wqb15.cell? ⟨W.heap.size + 1, 2, none⟩ = some (.int .i64 s.over) ∧ wqb15.cell? ⟨PJ, 0, none⟩ = some (.int .i64 j)) := Lib.hid (⟨(Hqb16.out).1.v.fr.cell 0, (Hqb16.out).1.v.fr.cell 1, (Hqb16.out).1.v.fr.cell 2, (Hqb16.out).1.v.fs.cell 0, (Hqb16.out).1.v.fs.cell 1, (Hqb16.out).1.v.fs.cell 2, (Hqb16.out).1.pj.cell 0⟩)
        have Eqb18 : Hid (Below Nq w1q wqb15 ∧ Nq ≤ wqb15.heap.size) := Lib.hid (⟨(Eqb12.out).1.trans ((hb9).mono (Eqb12.out).2), Nat.le_trans (Eqb12.out).2 (hb9).size⟩)
        have Eqb19 : Hid (Has wqb15 bqb2 33 #[.int .i64 0, .int .i64 0, .int .i64 0, .int .i64 0] ∧ bqb2 < wqb15.heap.size ∧ Nq ≤ bqb2) := Lib.hid (⟨(Eqb13.out).1.below hb9 (Eqb13.out).2.1, Nat.lt_of_lt_of_le (Eqb13.out).2.1 (hb9).size, (Eqb13.out).2.2⟩)
        have Eqb20 : Hid (SkR wqb15 wqb15.heap.size (changedS s j by_ 0) BC BP) := Lib.hid ((Mqb9.out).step hb9)
        clear hb9
        go_simp
        refine hK.out _ _ (fun h => Kqb17.out) ?_
        clear hK K
        try simp only [Act.put, List.setIfInBounds_toArray, List.set_cons_zero, List.set_cons_succ]
        refine wpLate_take (i := 6) (oi := ?oi6qb21_) (v := ?v6qb21_) [7, 8, 10, 11] ?hi6qb21_ (by kernel_rfl) (by kernel_rfl) (by kernel_rfl) (by kernel_rfl) (by kernel_rfl) ?hQ6qb21_ (Or.inl ⟨?hw6qb21_, ?hy6qb21_⟩) Kqb17.out ?rest6qb21_
        case hi6qb21_ => (simp only [List.getElem?_toArray, List.getElem?_cons_zero, List.getElem?_cons_succ]; rfl)
        case hQ6qb21_ => exact fun _ _ _ h => h
        case hw6qb21_ => rfl
        case hy6qb21_ =>
          intro w' hSw
          obtain ⟨r0, r1, r2, r3, r4, r5, r6⟩ := hSw
          go_simp
          try exact rfl
        try simp only [Act.put, List.setIfInBounds_toArray, List.set_cons_zero, List.set_cons_succ]
        refine wpLate_take (i := 7) (oi := ?oi7qb22_) (v := ?v7qb22_) [10, 11] ?hi7qb22_ (by kernel_rfl) (by kernel_rfl) (by kernel_rfl) (by kernel_rfl) (by kernel_rfl) ?hQ7qb22_ (Or.inl ⟨?hw7qb22_, ?hy7qb22_⟩) Kqb17.out ?rest7qb22_
        case hi7qb22_ => (simp only [List.getElem?_toArray, List.getElem?_cons_zero, List.getElem?_cons_succ]; rfl)
        case hQ7qb22_ => exact fun _ _ _ h => h
        case hw7qb22_ => rfl
        case hy7qb22_ =>
          intro w' hSw
          obtain ⟨r0, r1, r2, r3, r4, r5, r6⟩ := hSw
          go_simp
          try exact rfl
        try simp only [Act.put, List.setIfInBounds_toArray, List.set_cons_zero, List.set_cons_succ]
        refine wpLate_take (i := 8) (oi := ?oi8qb23_) (v := ?v8qb23_) [11] ?hi8qb23_ (by kernel_rfl) (by kernel_rfl) (by kernel_rfl) (by kernel_rfl) (by kernel_rfl) ?hQ8qb23_ (Or.inl ⟨?hw8qb23_, ?hy8qb23_⟩) Kqb17.out ?rest8qb23_
        case hi8qb23_ => (simp only [List.getElem?_toArray, List.getElem?_cons_zero, List.getElem?_cons_succ]; rfl)
        case hQ8qb23_ => exact fun _ _ _ h => h
        case hw8qb23_ => rfl
        case hy8qb23_ =>
          intro w' hSw
          obtain ⟨r0, r1, r2, r3, r4, r5, r6⟩ := hSw
          go_simp
          try exact rfl
        try simp only [Act.put, List.setIfInBounds_toArray, List.set_cons_zero, List.set_cons_succ]
        refine wpLate_one (i := 10) (o := ?o10qb24_) (by kernel_rfl) ?ho10qb24_ ?hk10qb24_
        case ho10qb24_ => (simp only [List.getElem?_toArray, List.getElem?_cons_zero, List.getElem?_cons_succ]; rfl)
        intro K hK
        have l0 : wqb15.cell? ⟨bqb2, 0, none⟩ = some (.int .i64 0) := Eqb19.out.1.cell 0
        have l1 : wqb15.cell? ⟨bqb2, 1, none⟩ = some (.int .i64 0) := Eqb19.out.1.cell 1
        have l2 : wqb15.cell? ⟨bqb2, 2, none⟩ = some (.int .i64 0) := Eqb19.out.1.cell 2
        have l3 : wqb15.cell? ⟨bqb2, 3, none⟩ = some (.int .i64 0) := Eqb19.out.1.cell 3
        have f0 := Eqb19.out.1.frozen 0
        have f1 := Eqb19.out.1.frozen 1
        have f2 := Eqb19.out.1.frozen 2
        have f3 := Eqb19.out.1.frozen 3
        have HFqb : Hid ((OW W ((((wqb15.setCell ⟨bqb2, 0, none⟩ (.int .i64 xb.elements)).setCell ⟨bqb2, 1, none⟩ (.int .i64 xb.parts)).setCell ⟨bqb2, 2, none⟩ (.int .i64 xb.off)).setCell ⟨bqb2, 3, none⟩ (.int .i64 xb.total)) r A c s AC AP cc cp PJ P2 j ∧ Has ((((wqb15.setCell ⟨bqb2, 0, none⟩ (.int .i64 xb.elements)).setCell ⟨bqb2, 1, none⟩ (.int .i64 xb.parts)).setCell ⟨bqb2, 2, none⟩ (.int .i64 xb.off)).setCell ⟨bqb2, 3, none⟩ (.int .i64 xb.total)) B1 33 (scc xa)) ∧ Has ((((wqb15.setCell ⟨bqb2, 0, none⟩ (.int .i64 xb.elements)).setCell ⟨bqb2, 1, none⟩ (.int .i64 xb.parts)).setCell ⟨bqb2, 2, none⟩ (.int .i64 xb.off)).setCell ⟨bqb2, 3, none⟩ (.int .i64 xb.total)) bqb2 33 (scc xb)) := Lib.hid ⟨⟨(H1q.out).1.step (by rw [← NHq.out]; exact ((((Eqb18.out.1.setCell Eqb19.out.2.2 _).setCell Eqb19.out.2.2 _).setCell Eqb19.out.2.2 _).setCell Eqb19.out.2.2 _)), (H1q.out).2.below (by rw [← NHq.out]; exact ((((Eqb18.out.1.setCell Eqb19.out.2.2 _).setCell Eqb19.out.2.2 _).setCell Eqb19.out.2.2 _).setCell Eqb19.out.2.2 _)) (H1q.out).2.lt⟩, (((Eqb19.out.1.set 0 _).set 1 _).set 2 _).set 3 _⟩
        go_simp
        refine hK.out _ _ (fun h => ⟨(HFqb.out.1).1.v.fr.cell 0, (HFqb.out.1).1.v.fr.cell 1, (HFqb.out.1).1.v.fr.cell 2, (HFqb.out.1).1.v.fs.cell 0, (HFqb.out.1).1.v.fs.cell 1, (HFqb.out.1).1.v.fs.cell 2, (HFqb.out.1).1.pj.cell 0⟩) ?_
        clear hK K
        try simp only [Act.put, List.setIfInBounds_toArray, List.set_cons_zero, List.set_cons_succ]
        refine wpLate_one (i := 11) (o := ?o11qb25_) (by kernel_rfl) ?ho11qb25_ ?hk11qb25_
        case ho11qb25_ => (simp only [List.getElem?_toArray, List.getElem?_cons_zero, List.getElem?_cons_succ]; rfl)
        intro K hK
        go_simp
        refine hK.out _ _ (fun h => ⟨(HFqb.out.1).1.v.fr.cell 0, (HFqb.out.1).1.v.fr.cell 1, (HFqb.out.1).1.v.fr.cell 2, (HFqb.out.1).1.v.fs.cell 0, (HFqb.out.1).1.v.fs.cell 1, (HFqb.out.1).1.v.fs.cell 2, (HFqb.out.1).1.pj.cell 0⟩) ?_
        clear hK K
        try simp only [Act.put, List.setIfInBounds_toArray, List.set_cons_zero, List.set_cons_succ]
        refine wpLate_done (by kernel_rfl) ?_ _
        try simp only [Act.put, List.setIfInBounds_toArray, List.set_cons_zero, List.set_cons_succ]
        try go_wp2_with fail
        go_meet
        exact ⟨bqb2, rfl, rfl, HFqb⟩
    case rest =>
      obtain ⟨b9q, rfl, rfl, H9q⟩ := hcut
      rename World => w9q
      obtain ⟨B2, hB2⟩ : ∃ B2, B2 = b9q := ⟨_, rfl⟩
      rw [← hB2] at H9q ⊢
      replace H9q := Lib.hid (And.intro H9q.out.1.1 (And.intro H9q.out.1.2 H9q.out.2))
      clear hB2 H9p
      go_upto_region 11 with fail
      go_cut [17, 18] (fun uO uE wx => ∃ b9, uO = .pointer (some ⟨b9, 0, none⟩) ∧ uE = .int .i64 0 ∧ Hid ((OW W wx r A c s AC AP cc cp PJ P2 j ∧ Has wx B1 33 (scc xa) ∧ Has wx B2 33 (scc xb)) ∧ Has wx b9 33 (scc xc)))
      case first =>
        have H1s : Hid (OW W w9q.drew r A c s AC AP cc cp PJ P2 j ∧ Has w9q.drew B1 33 (scc xa) ∧ Has w9q.drew B2 33 (scc xb)) := Lib.hid (⟨(H9q.out).1.step ((Below.refl _ _).drew), (H9q.out).2.1.below ((Below.refl _ _).drew) (H9q.out).2.1.lt, (H9q.out).2.2.below ((Below.refl _ _).drew) (H9q.out).2.2.lt⟩)
        have K1s : Hid (w9q.drew.cell? ⟨W.heap.size, 0, none⟩ = some (.slice A r.bases.length c) ∧ w9q.drew.cell? ⟨W.heap.size, 1, none⟩ = some (.int .i64 r.factor) ∧ w9q.drew.cell? ⟨W.heap.size, 2, none⟩ = some (.int .i64 r.most)) := Lib.hid (⟨(H1s.out).1.v.fr.cell 0, (H1s.out).1.v.fr.cell 1, (H1s.out).1.v.fr.cell 2⟩)
        refine wp_region_late (fun w' : World => w'.cell? ⟨W.heap.size, 0, none⟩ = some (.slice A r.bases.length c) ∧ w'.cell? ⟨W.heap.size, 1, none⟩ = some (.int .i64 r.factor) ∧ w'.cell? ⟨W.heap.size, 2, none⟩ = some (.int .i64 r.most)) [] (by kernel_rfl) ?_
        generalize w9q.drew = w1s at H1s K1s ⊢
        obtain ⟨Ns, hNs⟩ : ∃ N, N = w1s.heap.size := ⟨_, rfl⟩
        have Bbs : Hid (Below Ns w1s w1s ∧ Ns ≤ w1s.heap.size) := Lib.hid ⟨Below.refl _ _, Nat.le_of_eq hNs⟩
        have NHs := Lib.hid hNs
        clear hNs
        refine wpLate_take (i := 0) (oi := ?oi0s1_) (v := ?v0s1_) [3, 4, 5, 6, 8, 9] ?hi0s1_ (by kernel_rfl) (by kernel_rfl) (by kernel_rfl) (by kernel_rfl) (by kernel_rfl) ?hQ0s1_ (Or.inl ⟨?hw0s1_, ?hy0s1_⟩) K1s.out ?rest0s1_
        case hi0s1_ => (simp only [List.getElem?_toArray, List.getElem?_cons_zero]; rfl)
        case hQ0s1_ => exact fun _ _ _ h => h
        case hw0s1_ => rfl
        case hy0s1_ =>
          intro w' hSw
          obtain ⟨r0, r1, r2⟩ := hSw
          go_simp
          try exact rfl
        try simp only [Act.put, List.setIfInBounds_toArray, List.set_cons_zero, List.set_cons_succ]
        refine wpLate_take (i := 1) (oi := ?oi1s2_) (v := ?v1s2_) [2, 3, 4, 5, 6, 8, 9] ?hi1s2_ (by kernel_rfl) (by kernel_rfl) (by kernel_rfl) (by kernel_rfl) (by kernel_rfl) ?hQ1s2_ (Or.inl ⟨?hw1s2_, ?hy1s2_⟩) K1s.out ?rest1s2_
        case hi1s2_ => (simp only [List.getElem?_toArray, List.getElem?_cons_zero, List.getElem?_cons_succ]; rfl)
        case hQ1s2_ => exact fun _ _ _ h => h
        case hw1s2_ => rfl
        case hy1s2_ =>
          intro w' hSw
          obtain ⟨r0, r1, r2⟩ := hSw
          go_simp
          try exact rfl
        try simp only [Act.put, List.setIfInBounds_toArray, List.set_cons_zero, List.set_cons_succ]
        refine wpLate_two (i := 2) (j := 7) (o := ?oAs3_) (u := ?uAs3_) (by kernel_rfl) ?hoAs3_ ?huAs3_ ?hkAs3_ ?hkBs3_
        case hoAs3_ => (simp only [List.getElem?_toArray, List.getElem?_cons_zero, List.getElem?_cons_succ]; rfl)
        case huAs3_ => (simp only [List.getElem?_toArray, List.getElem?_cons_zero, List.getElem?_cons_succ]; rfl)
        case hkAs3_ =>
          intro K hK
          go_simp
          refine (HTO.out true _ P2 PJ _ H1s.out.1.v.b H1s.out.1.v.fs H1s.out.1.p2 H1s.out.1.pj).mono ?_
          rintro e wsa1 ⟨BC, BP, bc, bp, rfl, hsk9, hb9⟩
          have Msa2 : Hid (SkR wsa1 wsa1.heap.size (endS true j s) BC BP) := Lib.hid hsk9
          clear hsk9
          have Hsa3 : Hid (OW W wsa1 r A c s AC AP cc cp PJ P2 j ∧ Has wsa1 B1 33 (scc xa) ∧ Has wsa1 B2 33 (scc xb)) := Lib.hid (⟨(H1s.out).1.step hb9, (H1s.out).2.1.below hb9 (H1s.out).2.1.lt, (H1s.out).2.2.below hb9 (H1s.out).2.2.lt⟩)
          have Ksa4 : Hid (wsa1.cell? ⟨W.heap.size, 0, none⟩ = some (.slice A r.bases.length c) ∧ wsa1.cell? ⟨W.heap.size, 1, none⟩ = some (.int .i64 r.factor) ∧ wsa1.cell? ⟨W.heap.size, 2, none⟩ = some (.int .i64 r.most)) := Lib.hid (⟨(Hsa3.out).1.v.fr.cell 0, (Hsa3.out).1.v.fr.cell 1, (Hsa3.out).1.v.fr.cell 2⟩)
          have Esa5 : Hid (Below Ns w1s wsa1 ∧ Ns ≤ wsa1.heap.size) := Lib.hid (⟨(Bbs.out).1.trans ((hb9).mono (Bbs.out).2), Nat.le_trans (Bbs.out).2 (hb9).size⟩)
          clear hb9
          go_simp
          refine hK.out _ _ (fun h => Ksa4.out) ?_
          clear hK K
          try simp only [Act.put, List.setIfInBounds_toArray, List.set_cons_zero, List.set_cons_succ]
          refine wpLate_two (i := 3) (j := 7) (o := ?oAsa6_) (u := ?uAsa6_) (by kernel_rfl) ?hoAsa6_ ?huAsa6_ ?hkAsa6_ ?hkBsa6_
          case hoAsa6_ => (simp only [List.getElem?_toArray, List.getElem?_cons_zero, List.getElem?_cons_succ]; rfl)
          case huAsa6_ => (simp only [List.getElem?_toArray, List.getElem?_cons_zero, List.getElem?_cons_succ]; rfl)
          case hkAsa6_ =>
            intro K hK
            go_simp
            refine (HPz.out _ _ _ _ _ Hsa3.out.1.v.b Msa2.out).mono ?_
            rintro e wsac1 ⟨rfl, hb9⟩
            have Hsac2 : Hid (OW W wsac1 r A c s AC AP cc cp PJ P2 j ∧ Has wsac1 B1 33 (scc xa) ∧ Has wsac1 B2 33 (scc xb)) := Lib.hid (⟨(Hsa3.out).1.step hb9, (Hsa3.out).2.1.below hb9 (Hsa3.out).2.1.lt, (Hsa3.out).2.2.below hb9 (Hsa3.out).2.2.lt⟩)
            have Ksac3 : Hid (wsac1.cell? ⟨W.heap.size, 0, none⟩ = some (.slice A r.bases.length c) ∧ wsac1.cell? ⟨W.heap.size, 1, none⟩ = some (.int .i64 r.factor) ∧ wsac1.cell? ⟨W.heap.size, 2, none⟩ = some (.int .i64 r.most)) := Lib.hid (⟨(Hsac2.out).1.v.fr.cell 0, (Hsac2.out).1.v.fr.cell 1, (Hsac2.out).1.v.fr.cell 2⟩)
            have Esac4 : Hid (Below Ns w1s wsac1 ∧ Ns ≤ wsac1.heap.size) := Lib.hid (⟨(Esa5.out).1.trans ((hb9).mono (Esa5.out).2), Nat.le_trans (Esa5.out).2 (hb9).size⟩)
            have Esac5 : Hid (SkR wsac1 wsac1.heap.size (endS true j s) BC BP) := Lib.hid ((Msa2.out).step hb9)
            clear hb9
            go_simp
            refine hK.out _ _ (fun h => Ksac3.out) ?_
            clear hK K
            try simp only [Act.put, List.setIfInBounds_toArray, List.set_cons_zero, List.set_cons_succ]
            refine wpLate_take (i := 4) (oi := ?oi4sac6_) (v := ?v4sac6_) [5, 6, 8, 9] ?hi4sac6_ (by kernel_rfl) (by kernel_rfl) (by kernel_rfl) (by kernel_rfl) (by kernel_rfl) ?hQ4sac6_ (Or.inl ⟨?hw4sac6_, ?hy4sac6_⟩) Ksac3.out ?rest4sac6_
            case hi4sac6_ => (simp only [List.getElem?_toArray, List.getElem?_cons_zero, List.getElem?_cons_succ]; rfl)
            case hQ4sac6_ => exact fun _ _ _ h => h
            case hw4sac6_ => rfl
            case hy4sac6_ =>
              intro w' hSw
              obtain ⟨r0, r1, r2⟩ := hSw
              go_simp
              try exact rfl
            try simp only [Act.put, List.setIfInBounds_toArray, List.set_cons_zero, List.set_cons_succ]
            refine wpLate_take (i := 5) (oi := ?oi5sac7_) (v := ?v5sac7_) [8, 9] ?hi5sac7_ (by kernel_rfl) (by kernel_rfl) (by kernel_rfl) (by kernel_rfl) (by kernel_rfl) ?hQ5sac7_ (Or.inl ⟨?hw5sac7_, ?hy5sac7_⟩) Ksac3.out ?rest5sac7_
            case hi5sac7_ => (simp only [List.getElem?_toArray, List.getElem?_cons_zero, List.getElem?_cons_succ]; rfl)
            case hQ5sac7_ => exact fun _ _ _ h => h
            case hw5sac7_ => rfl
            case hy5sac7_ =>
              intro w' hSw
              obtain ⟨r0, r1, r2⟩ := hSw
              go_simp
              try exact rfl
            try simp only [Act.put, List.setIfInBounds_toArray, List.set_cons_zero, List.set_cons_succ]
            refine wpLate_take (i := 6) (oi := ?oi6sac8_) (v := ?v6sac8_) [9] ?hi6sac8_ (by kernel_rfl) (by kernel_rfl) (by kernel_rfl) (by kernel_rfl) (by kernel_rfl) ?hQ6sac8_ (Or.inl ⟨?hw6sac8_, ?hy6sac8_⟩) Ksac3.out ?rest6sac8_
            case hi6sac8_ => (simp only [List.getElem?_toArray, List.getElem?_cons_zero, List.getElem?_cons_succ]; rfl)
            case hQ6sac8_ => exact fun _ _ _ h => h
            case hw6sac8_ => rfl
            case hy6sac8_ =>
              intro w' hSw
              obtain ⟨r0, r1, r2⟩ := hSw
              go_simp
              try exact rfl
            try simp only [Act.put, List.setIfInBounds_toArray, List.set_cons_zero, List.set_cons_succ]
            refine wpLate_one (i := 7) (o := ?o7sac9_) (by kernel_rfl) ?ho7sac9_ ?hk7sac9_
            case ho7sac9_ => (simp only [List.getElem?_toArray, List.getElem?_cons_zero, List.getElem?_cons_succ]; rfl)
            intro K hK
            go_simp
            have Esac12 : Hid (Has (wsac1.alloc (.cells #[.int .i64 0, .int .i64 0, .int .i64 0, .int .i64 0] 33)) wsac1.heap.size 33 #[.int .i64 0, .int .i64 0, .int .i64 0, .int .i64 0] ∧ wsac1.heap.size < (wsac1.alloc (.cells #[.int .i64 0, .int .i64 0, .int .i64 0, .int .i64 0] 33)).heap.size ∧ Ns ≤ wsac1.heap.size) := Lib.hid ⟨Has.new _ _ _, by simp, Esac4.out.2⟩
            have Hsac13 : Hid (OW W (wsac1.alloc (.cells #[.int .i64 0, .int .i64 0, .int .i64 0, .int .i64 0] 33)) r A c s AC AP cc cp PJ P2 j ∧ Has (wsac1.alloc (.cells #[.int .i64 0, .int .i64 0, .int .i64 0, .int .i64 0] 33)) B1 33 (scc xa) ∧ Has (wsac1.alloc (.cells #[.int .i64 0, .int .i64 0, .int .i64 0, .int .i64 0] 33)) B2 33 (scc xb)) := Lib.hid (⟨(Hsac2.out).1.step (below_one wsac1 (.cells #[.int .i64 0, .int .i64 0, .int .i64 0, .int .i64 0] 33)), (Hsac2.out).2.1.below (below_one wsac1 (.cells #[.int .i64 0, .int .i64 0, .int .i64 0, .int .i64 0] 33)) (Hsac2.out).2.1.lt, (Hsac2.out).2.2.below (below_one wsac1 (.cells #[.int .i64 0, .int .i64 0, .int .i64 0, .int .i64 0] 33)) (Hsac2.out).2.2.lt⟩)
            have Ksac14 : Hid ((wsac1.alloc (.cells #[.int .i64 0, .int .i64 0, .int .i64 0, .int .i64 0] 33)).cell? ⟨W.heap.size, 0, none⟩ = some (.slice A r.bases.length c) ∧ (wsac1.alloc (.cells #[.int .i64 0, .int .i64 0, .int .i64 0, .int .i64 0] 33)).cell? ⟨W.heap.size, 1, none⟩ = some (.int .i64 r.factor) ∧ (wsac1.alloc (.cells #[.int .i64 0, .int .i64 0, .int .i64 0, .int .i64 0] 33)).cell? ⟨W.heap.size, 2, none⟩ = some (.int .i64 r.most)) := Lib.hid (⟨(Hsac13.out).1.v.fr.cell 0, (Hsac13.out).1.v.fr.cell 1, (Hsac13.out).1.v.fr.cell 2⟩)
            have Esac15 : Hid (Below Ns w1s (wsac1.alloc (.cells #[.int .i64 0, .int .i64 0, .int .i64 0, .int .i64 0] 33)) ∧ Ns ≤ (wsac1.alloc (.cells #[.int .i64 0, .int .i64 0, .int .i64 0, .int .i64 0] 33)).heap.size) := Lib.hid (⟨(Esac4.out).1.trans (((below_one wsac1 (.cells #[.int .i64 0, .int .i64 0, .int .i64 0, .int .i64 0] 33))).mono (Esac4.out).2), Nat.le_trans (Esac4.out).2 ((below_one wsac1 (.cells #[.int .i64 0, .int .i64 0, .int .i64 0, .int .i64 0] 33))).size⟩)
            have Esac16 : Hid (SkR (wsac1.alloc (.cells #[.int .i64 0, .int .i64 0, .int .i64 0, .int .i64 0] 33)) (wsac1.alloc (.cells #[.int .i64 0, .int .i64 0, .int .i64 0, .int .i64 0] 33)).heap.size (endS true j s) BC BP) := Lib.hid ((Esac5.out).step (below_one wsac1 (.cells #[.int .i64 0, .int .i64 0, .int .i64 0, .int .i64 0] 33)))
            refine hK.out _ _ (fun h => Ksac14.out) ?_
            clear hK K
            try simp only [Act.put, List.setIfInBounds_toArray, List.set_cons_zero, List.set_cons_succ]
            generalize wsac1.alloc (.cells #[.int .i64 0, .int .i64 0, .int .i64 0, .int .i64 0] 33) = wsac10 at Hsac13 Ksac14 Esac15 Esac16 Esac12 ⊢
            generalize wsac1.heap.size = bsac11 at Esac12 ⊢
            refine wpLate_one (i := 8) (o := ?o8sac17_) (by kernel_rfl) ?ho8sac17_ ?hk8sac17_
            case ho8sac17_ => (simp only [List.getElem?_toArray, List.getElem?_cons_zero, List.getElem?_cons_succ]; rfl)
            intro K hK
            have l0 : wsac10.cell? ⟨bsac11, 0, none⟩ = some (.int .i64 0) := Esac12.out.1.cell 0
            have l1 : wsac10.cell? ⟨bsac11, 1, none⟩ = some (.int .i64 0) := Esac12.out.1.cell 1
            have l2 : wsac10.cell? ⟨bsac11, 2, none⟩ = some (.int .i64 0) := Esac12.out.1.cell 2
            have l3 : wsac10.cell? ⟨bsac11, 3, none⟩ = some (.int .i64 0) := Esac12.out.1.cell 3
            have f0 := Esac12.out.1.frozen 0
            have f1 := Esac12.out.1.frozen 1
            have f2 := Esac12.out.1.frozen 2
            have f3 := Esac12.out.1.frozen 3
            have HFsac : Hid ((OW W ((((wsac10.setCell ⟨bsac11, 0, none⟩ (.int .i64 xc.elements)).setCell ⟨bsac11, 1, none⟩ (.int .i64 xc.parts)).setCell ⟨bsac11, 2, none⟩ (.int .i64 xc.off)).setCell ⟨bsac11, 3, none⟩ (.int .i64 xc.total)) r A c s AC AP cc cp PJ P2 j ∧ Has ((((wsac10.setCell ⟨bsac11, 0, none⟩ (.int .i64 xc.elements)).setCell ⟨bsac11, 1, none⟩ (.int .i64 xc.parts)).setCell ⟨bsac11, 2, none⟩ (.int .i64 xc.off)).setCell ⟨bsac11, 3, none⟩ (.int .i64 xc.total)) B1 33 (scc xa) ∧ Has ((((wsac10.setCell ⟨bsac11, 0, none⟩ (.int .i64 xc.elements)).setCell ⟨bsac11, 1, none⟩ (.int .i64 xc.parts)).setCell ⟨bsac11, 2, none⟩ (.int .i64 xc.off)).setCell ⟨bsac11, 3, none⟩ (.int .i64 xc.total)) B2 33 (scc xb)) ∧ Has ((((wsac10.setCell ⟨bsac11, 0, none⟩ (.int .i64 xc.elements)).setCell ⟨bsac11, 1, none⟩ (.int .i64 xc.parts)).setCell ⟨bsac11, 2, none⟩ (.int .i64 xc.off)).setCell ⟨bsac11, 3, none⟩ (.int .i64 xc.total)) bsac11 33 (scc xc)) := Lib.hid ⟨⟨(H1s.out).1.step (by rw [← NHs.out]; exact ((((Esac15.out.1.setCell Esac12.out.2.2 _).setCell Esac12.out.2.2 _).setCell Esac12.out.2.2 _).setCell Esac12.out.2.2 _)), (H1s.out).2.1.below (by rw [← NHs.out]; exact ((((Esac15.out.1.setCell Esac12.out.2.2 _).setCell Esac12.out.2.2 _).setCell Esac12.out.2.2 _).setCell Esac12.out.2.2 _)) (H1s.out).2.1.lt, (H1s.out).2.2.below (by rw [← NHs.out]; exact ((((Esac15.out.1.setCell Esac12.out.2.2 _).setCell Esac12.out.2.2 _).setCell Esac12.out.2.2 _).setCell Esac12.out.2.2 _)) (H1s.out).2.2.lt⟩, (((Esac12.out.1.set 0 _).set 1 _).set 2 _).set 3 _⟩
            go_simp
            refine hK.out _ _ (fun h => ⟨(HFsac.out.1).1.v.fr.cell 0, (HFsac.out.1).1.v.fr.cell 1, (HFsac.out.1).1.v.fr.cell 2⟩) ?_
            clear hK K
            try simp only [Act.put, List.setIfInBounds_toArray, List.set_cons_zero, List.set_cons_succ]
            refine wpLate_one (i := 9) (o := ?o9sac18_) (by kernel_rfl) ?ho9sac18_ ?hk9sac18_
            case ho9sac18_ => (simp only [List.getElem?_toArray, List.getElem?_cons_zero, List.getElem?_cons_succ]; rfl)
            intro K hK
            go_simp
            refine hK.out _ _ (fun h => ⟨(HFsac.out.1).1.v.fr.cell 0, (HFsac.out.1).1.v.fr.cell 1, (HFsac.out.1).1.v.fr.cell 2⟩) ?_
            clear hK K
            try simp only [Act.put, List.setIfInBounds_toArray, List.set_cons_zero, List.set_cons_succ]
            refine wpLate_done (by kernel_rfl) ?_ _
            try simp only [Act.put, List.setIfInBounds_toArray, List.set_cons_zero, List.set_cons_succ]
            try go_wp2_with fail
            go_meet
            exact ⟨bsac11, rfl, rfl, HFsac⟩
          case hkBsa6_ =>
            intro K hK
            go_simp
            have Esad3 : Hid (Has (wsa1.alloc (.cells #[.int .i64 0, .int .i64 0, .int .i64 0, .int .i64 0] 33)) wsa1.heap.size 33 #[.int .i64 0, .int .i64 0, .int .i64 0, .int .i64 0] ∧ wsa1.heap.size < (wsa1.alloc (.cells #[.int .i64 0, .int .i64 0, .int .i64 0, .int .i64 0] 33)).heap.size ∧ Ns ≤ wsa1.heap.size) := Lib.hid ⟨Has.new _ _ _, by simp, Esa5.out.2⟩
            have Hsad4 : Hid (OW W (wsa1.alloc (.cells #[.int .i64 0, .int .i64 0, .int .i64 0, .int .i64 0] 33)) r A c s AC AP cc cp PJ P2 j ∧ Has (wsa1.alloc (.cells #[.int .i64 0, .int .i64 0, .int .i64 0, .int .i64 0] 33)) B1 33 (scc xa) ∧ Has (wsa1.alloc (.cells #[.int .i64 0, .int .i64 0, .int .i64 0, .int .i64 0] 33)) B2 33 (scc xb)) := Lib.hid (⟨(Hsa3.out).1.step (below_one wsa1 (.cells #[.int .i64 0, .int .i64 0, .int .i64 0, .int .i64 0] 33)), (Hsa3.out).2.1.below (below_one wsa1 (.cells #[.int .i64 0, .int .i64 0, .int .i64 0, .int .i64 0] 33)) (Hsa3.out).2.1.lt, (Hsa3.out).2.2.below (below_one wsa1 (.cells #[.int .i64 0, .int .i64 0, .int .i64 0, .int .i64 0] 33)) (Hsa3.out).2.2.lt⟩)
            have Ksad5 : Hid ((wsa1.alloc (.cells #[.int .i64 0, .int .i64 0, .int .i64 0, .int .i64 0] 33)).cell? ⟨W.heap.size, 0, none⟩ = some (.slice A r.bases.length c) ∧ (wsa1.alloc (.cells #[.int .i64 0, .int .i64 0, .int .i64 0, .int .i64 0] 33)).cell? ⟨W.heap.size, 1, none⟩ = some (.int .i64 r.factor) ∧ (wsa1.alloc (.cells #[.int .i64 0, .int .i64 0, .int .i64 0, .int .i64 0] 33)).cell? ⟨W.heap.size, 2, none⟩ = some (.int .i64 r.most)) := Lib.hid (⟨(Hsad4.out).1.v.fr.cell 0, (Hsad4.out).1.v.fr.cell 1, (Hsad4.out).1.v.fr.cell 2⟩)
            have Esad6 : Hid (Below Ns w1s (wsa1.alloc (.cells #[.int .i64 0, .int .i64 0, .int .i64 0, .int .i64 0] 33)) ∧ Ns ≤ (wsa1.alloc (.cells #[.int .i64 0, .int .i64 0, .int .i64 0, .int .i64 0] 33)).heap.size) := Lib.hid (⟨(Esa5.out).1.trans (((below_one wsa1 (.cells #[.int .i64 0, .int .i64 0, .int .i64 0, .int .i64 0] 33))).mono (Esa5.out).2), Nat.le_trans (Esa5.out).2 ((below_one wsa1 (.cells #[.int .i64 0, .int .i64 0, .int .i64 0, .int .i64 0] 33))).size⟩)
            have Esad7 : Hid (SkR (wsa1.alloc (.cells #[.int .i64 0, .int .i64 0, .int .i64 0, .int .i64 0] 33)) (wsa1.alloc (.cells #[.int .i64 0, .int .i64 0, .int .i64 0, .int .i64 0] 33)).heap.size (endS true j s) BC BP) := Lib.hid ((Msa2.out).step (below_one wsa1 (.cells #[.int .i64 0, .int .i64 0, .int .i64 0, .int .i64 0] 33)))
            refine hK.out _ _ (fun h => Ksad5.out) ?_
            clear hK K
            try simp only [Act.put, List.setIfInBounds_toArray, List.set_cons_zero, List.set_cons_succ]
            generalize wsa1.alloc (.cells #[.int .i64 0, .int .i64 0, .int .i64 0, .int .i64 0] 33) = wsad1 at Hsad4 Ksad5 Esad6 Esad7 Esad3 ⊢
            generalize wsa1.heap.size = bsad2 at Esad3 ⊢
            refine wpLate_one (i := 3) (o := ?o3sad8_) (by kernel_rfl) ?ho3sad8_ ?hk3sad8_
            case ho3sad8_ => (simp only [List.getElem?_toArray, List.getElem?_cons_zero, List.getElem?_cons_succ]; rfl)
            intro K hK
            go_simp
            refine (HPz.out _ _ _ _ _ Hsad4.out.1.v.b Esad7.out).mono ?_
            rintro e wsad9 ⟨rfl, hb9⟩
            have Hsad10 : Hid (OW W wsad9 r A c s AC AP cc cp PJ P2 j ∧ Has wsad9 B1 33 (scc xa) ∧ Has wsad9 B2 33 (scc xb)) := Lib.hid (⟨(Hsad4.out).1.step hb9, (Hsad4.out).2.1.below hb9 (Hsad4.out).2.1.lt, (Hsad4.out).2.2.below hb9 (Hsad4.out).2.2.lt⟩)
            have Ksad11 : Hid (wsad9.cell? ⟨W.heap.size, 0, none⟩ = some (.slice A r.bases.length c) ∧ wsad9.cell? ⟨W.heap.size, 1, none⟩ = some (.int .i64 r.factor) ∧ wsad9.cell? ⟨W.heap.size, 2, none⟩ = some (.int .i64 r.most)) := Lib.hid (⟨(Hsad10.out).1.v.fr.cell 0, (Hsad10.out).1.v.fr.cell 1, (Hsad10.out).1.v.fr.cell 2⟩)
            have Esad12 : Hid (Below Ns w1s wsad9 ∧ Ns ≤ wsad9.heap.size) := Lib.hid (⟨(Esad6.out).1.trans ((hb9).mono (Esad6.out).2), Nat.le_trans (Esad6.out).2 (hb9).size⟩)
            have Esad13 : Hid (SkR wsad9 wsad9.heap.size (endS true j s) BC BP) := Lib.hid ((Esad7.out).step hb9)
            have Esad14 : Hid (Has wsad9 bsad2 33 #[.int .i64 0, .int .i64 0, .int .i64 0, .int .i64 0] ∧ bsad2 < wsad9.heap.size ∧ Ns ≤ bsad2) := Lib.hid (⟨(Esad3.out).1.below hb9 (Esad3.out).2.1, Nat.lt_of_lt_of_le (Esad3.out).2.1 (hb9).size, (Esad3.out).2.2⟩)
            clear hb9
            go_simp
            refine hK.out _ _ (fun h => Ksad11.out) ?_
            clear hK K
            try simp only [Act.put, List.setIfInBounds_toArray, List.set_cons_zero, List.set_cons_succ]
            refine wpLate_take (i := 4) (oi := ?oi4sad15_) (v := ?v4sad15_) [5, 6, 8, 9] ?hi4sad15_ (by kernel_rfl) (by kernel_rfl) (by kernel_rfl) (by kernel_rfl) (by kernel_rfl) ?hQ4sad15_ (Or.inl ⟨?hw4sad15_, ?hy4sad15_⟩) Ksad11.out ?rest4sad15_
            case hi4sad15_ => (simp only [List.getElem?_toArray, List.getElem?_cons_zero, List.getElem?_cons_succ]; rfl)
            case hQ4sad15_ => exact fun _ _ _ h => h
            case hw4sad15_ => rfl
            case hy4sad15_ =>
              intro w' hSw
              obtain ⟨r0, r1, r2⟩ := hSw
              go_simp
              try exact rfl
            try simp only [Act.put, List.setIfInBounds_toArray, List.set_cons_zero, List.set_cons_succ]
            refine wpLate_take (i := 5) (oi := ?oi5sad16_) (v := ?v5sad16_) [8, 9] ?hi5sad16_ (by kernel_rfl) (by kernel_rfl) (by kernel_rfl) (by kernel_rfl) (by kernel_rfl) ?hQ5sad16_ (Or.inl ⟨?hw5sad16_, ?hy5sad16_⟩) Ksad11.out ?rest5sad16_
            case hi5sad16_ => (simp only [List.getElem?_toArray, List.getElem?_cons_zero, List.getElem?_cons_succ]; rfl)
            case hQ5sad16_ => exact fun _ _ _ h => h
            case hw5sad16_ => rfl
            case hy5sad16_ =>
              intro w' hSw
              obtain ⟨r0, r1, r2⟩ := hSw
              go_simp
              try exact rfl
            try simp only [Act.put, List.setIfInBounds_toArray, List.set_cons_zero, List.set_cons_succ]
            refine wpLate_take (i := 6) (oi := ?oi6sad17_) (v := ?v6sad17_) [9] ?hi6sad17_ (by kernel_rfl) (by kernel_rfl) (by kernel_rfl) (by kernel_rfl) (by kernel_rfl) ?hQ6sad17_ (Or.inl ⟨?hw6sad17_, ?hy6sad17_⟩) Ksad11.out ?rest6sad17_
            case hi6sad17_ => (simp only [List.getElem?_toArray, List.getElem?_cons_zero, List.getElem?_cons_succ]; rfl)
            case hQ6sad17_ => exact fun _ _ _ h => h
            case hw6sad17_ => rfl
            case hy6sad17_ =>
              intro w' hSw
              obtain ⟨r0, r1, r2⟩ := hSw
              go_simp
              try exact rfl
            try simp only [Act.put, List.setIfInBounds_toArray, List.set_cons_zero, List.set_cons_succ]
            refine wpLate_one (i := 8) (o := ?o8sad18_) (by kernel_rfl) ?ho8sad18_ ?hk8sad18_
            case ho8sad18_ => (simp only [List.getElem?_toArray, List.getElem?_cons_zero, List.getElem?_cons_succ]; rfl)
            intro K hK
            have l0 : wsad9.cell? ⟨bsad2, 0, none⟩ = some (.int .i64 0) := Esad14.out.1.cell 0
            have l1 : wsad9.cell? ⟨bsad2, 1, none⟩ = some (.int .i64 0) := Esad14.out.1.cell 1
            have l2 : wsad9.cell? ⟨bsad2, 2, none⟩ = some (.int .i64 0) := Esad14.out.1.cell 2
            have l3 : wsad9.cell? ⟨bsad2, 3, none⟩ = some (.int .i64 0) := Esad14.out.1.cell 3
            have f0 := Esad14.out.1.frozen 0
            have f1 := Esad14.out.1.frozen 1
            have f2 := Esad14.out.1.frozen 2
            have f3 := Esad14.out.1.frozen 3
            have HFsad : Hid ((OW W ((((wsad9.setCell ⟨bsad2, 0, none⟩ (.int .i64 xc.elements)).setCell ⟨bsad2, 1, none⟩ (.int .i64 xc.parts)).setCell ⟨bsad2, 2, none⟩ (.int .i64 xc.off)).setCell ⟨bsad2, 3, none⟩ (.int .i64 xc.total)) r A c s AC AP cc cp PJ P2 j ∧ Has ((((wsad9.setCell ⟨bsad2, 0, none⟩ (.int .i64 xc.elements)).setCell ⟨bsad2, 1, none⟩ (.int .i64 xc.parts)).setCell ⟨bsad2, 2, none⟩ (.int .i64 xc.off)).setCell ⟨bsad2, 3, none⟩ (.int .i64 xc.total)) B1 33 (scc xa) ∧ Has ((((wsad9.setCell ⟨bsad2, 0, none⟩ (.int .i64 xc.elements)).setCell ⟨bsad2, 1, none⟩ (.int .i64 xc.parts)).setCell ⟨bsad2, 2, none⟩ (.int .i64 xc.off)).setCell ⟨bsad2, 3, none⟩ (.int .i64 xc.total)) B2 33 (scc xb)) ∧ Has ((((wsad9.setCell ⟨bsad2, 0, none⟩ (.int .i64 xc.elements)).setCell ⟨bsad2, 1, none⟩ (.int .i64 xc.parts)).setCell ⟨bsad2, 2, none⟩ (.int .i64 xc.off)).setCell ⟨bsad2, 3, none⟩ (.int .i64 xc.total)) bsad2 33 (scc xc)) := Lib.hid ⟨⟨(H1s.out).1.step (by rw [← NHs.out]; exact ((((Esad12.out.1.setCell Esad14.out.2.2 _).setCell Esad14.out.2.2 _).setCell Esad14.out.2.2 _).setCell Esad14.out.2.2 _)), (H1s.out).2.1.below (by rw [← NHs.out]; exact ((((Esad12.out.1.setCell Esad14.out.2.2 _).setCell Esad14.out.2.2 _).setCell Esad14.out.2.2 _).setCell Esad14.out.2.2 _)) (H1s.out).2.1.lt, (H1s.out).2.2.below (by rw [← NHs.out]; exact ((((Esad12.out.1.setCell Esad14.out.2.2 _).setCell Esad14.out.2.2 _).setCell Esad14.out.2.2 _).setCell Esad14.out.2.2 _)) (H1s.out).2.2.lt⟩, (((Esad14.out.1.set 0 _).set 1 _).set 2 _).set 3 _⟩
            go_simp
            refine hK.out _ _ (fun h => ⟨(HFsad.out.1).1.v.fr.cell 0, (HFsad.out.1).1.v.fr.cell 1, (HFsad.out.1).1.v.fr.cell 2⟩) ?_
            clear hK K
            try simp only [Act.put, List.setIfInBounds_toArray, List.set_cons_zero, List.set_cons_succ]
            refine wpLate_one (i := 9) (o := ?o9sad19_) (by kernel_rfl) ?ho9sad19_ ?hk9sad19_
            case ho9sad19_ => (simp only [List.getElem?_toArray, List.getElem?_cons_zero, List.getElem?_cons_succ]; rfl)
            intro K hK
            go_simp
            refine hK.out _ _ (fun h => ⟨(HFsad.out.1).1.v.fr.cell 0, (HFsad.out.1).1.v.fr.cell 1, (HFsad.out.1).1.v.fr.cell 2⟩) ?_
            clear hK K
            try simp only [Act.put, List.setIfInBounds_toArray, List.set_cons_zero, List.set_cons_succ]
            refine wpLate_done (by kernel_rfl) ?_ _
            try simp only [Act.put, List.setIfInBounds_toArray, List.set_cons_zero, List.set_cons_succ]
            try go_wp2_with fail
            go_meet
            exact ⟨bsad2, rfl, rfl, HFsad⟩
        case hkBs3_ =>
          intro K hK
          go_simp
          have Esb3 : Hid (Has (w1s.alloc (.cells #[.int .i64 0, .int .i64 0, .int .i64 0, .int .i64 0] 33)) w1s.heap.size 33 #[.int .i64 0, .int .i64 0, .int .i64 0, .int .i64 0] ∧ w1s.heap.size < (w1s.alloc (.cells #[.int .i64 0, .int .i64 0, .int .i64 0, .int .i64 0] 33)).heap.size ∧ Ns ≤ w1s.heap.size) := Lib.hid ⟨Has.new _ _ _, by simp, Bbs.out.2⟩
          have Hsb4 : Hid (OW W (w1s.alloc (.cells #[.int .i64 0, .int .i64 0, .int .i64 0, .int .i64 0] 33)) r A c s AC AP cc cp PJ P2 j ∧ Has (w1s.alloc (.cells #[.int .i64 0, .int .i64 0, .int .i64 0, .int .i64 0] 33)) B1 33 (scc xa) ∧ Has (w1s.alloc (.cells #[.int .i64 0, .int .i64 0, .int .i64 0, .int .i64 0] 33)) B2 33 (scc xb)) := Lib.hid (⟨(H1s.out).1.step (below_one w1s (.cells #[.int .i64 0, .int .i64 0, .int .i64 0, .int .i64 0] 33)), (H1s.out).2.1.below (below_one w1s (.cells #[.int .i64 0, .int .i64 0, .int .i64 0, .int .i64 0] 33)) (H1s.out).2.1.lt, (H1s.out).2.2.below (below_one w1s (.cells #[.int .i64 0, .int .i64 0, .int .i64 0, .int .i64 0] 33)) (H1s.out).2.2.lt⟩)
          have Ksb5 : Hid ((w1s.alloc (.cells #[.int .i64 0, .int .i64 0, .int .i64 0, .int .i64 0] 33)).cell? ⟨W.heap.size, 0, none⟩ = some (.slice A r.bases.length c) ∧ (w1s.alloc (.cells #[.int .i64 0, .int .i64 0, .int .i64 0, .int .i64 0] 33)).cell? ⟨W.heap.size, 1, none⟩ = some (.int .i64 r.factor) ∧ (w1s.alloc (.cells #[.int .i64 0, .int .i64 0, .int .i64 0, .int .i64 0] 33)).cell? ⟨W.heap.size, 2, none⟩ = some (.int .i64 r.most)) := Lib.hid (⟨(Hsb4.out).1.v.fr.cell 0, (Hsb4.out).1.v.fr.cell 1, (Hsb4.out).1.v.fr.cell 2⟩)
          have Esb6 : Hid (Below Ns w1s (w1s.alloc (.cells #[.int .i64 0, .int .i64 0, .int .i64 0, .int .i64 0] 33)) ∧ Ns ≤ (w1s.alloc (.cells #[.int .i64 0, .int .i64 0, .int .i64 0, .int .i64 0] 33)).heap.size) := Lib.hid (⟨(Bbs.out).1.trans (((below_one w1s (.cells #[.int .i64 0, .int .i64 0, .int .i64 0, .int .i64 0] 33))).mono (Bbs.out).2), Nat.le_trans (Bbs.out).2 ((below_one w1s (.cells #[.int .i64 0, .int .i64 0, .int .i64 0, .int .i64 0] 33))).size⟩)
          refine hK.out _ _ (fun h => Ksb5.out) ?_
          clear hK K
          try simp only [Act.put, List.setIfInBounds_toArray, List.set_cons_zero, List.set_cons_succ]
          generalize w1s.alloc (.cells #[.int .i64 0, .int .i64 0, .int .i64 0, .int .i64 0] 33) = wsb1 at Hsb4 Ksb5 Esb6 Esb3 ⊢
          generalize w1s.heap.size = bsb2 at Esb3 ⊢
          refine wpLate_one (i := 2) (o := ?o2sb7_) (by kernel_rfl) ?ho2sb7_ ?hk2sb7_
          case ho2sb7_ => (simp only [List.getElem?_toArray, List.getElem?_cons_zero, List.getElem?_cons_succ]; rfl)
          intro K hK
          go_simp
          refine (HTO.out true _ P2 PJ _ Hsb4.out.1.v.b Hsb4.out.1.v.fs Hsb4.out.1.p2 Hsb4.out.1.pj).mono ?_
          rintro e wsb8 ⟨BC, BP, bc, bp, rfl, hsk9, hb9⟩
          have Msb9 : Hid (SkR wsb8 wsb8.heap.size (endS true j s) BC BP) := Lib.hid hsk9
          clear hsk9
          have Hsb10 : Hid (OW W wsb8 r A c s AC AP cc cp PJ P2 j ∧ Has wsb8 B1 33 (scc xa) ∧ Has wsb8 B2 33 (scc xb)) := Lib.hid (⟨(Hsb4.out).1.step hb9, (Hsb4.out).2.1.below hb9 (Hsb4.out).2.1.lt, (Hsb4.out).2.2.below hb9 (Hsb4.out).2.2.lt⟩)
          have Ksb11 : Hid (wsb8.cell? ⟨W.heap.size, 0, none⟩ = some (.slice A r.bases.length c) ∧ wsb8.cell? ⟨W.heap.size, 1, none⟩ = some (.int .i64 r.factor) ∧ wsb8.cell? ⟨W.heap.size, 2, none⟩ = some (.int .i64 r.most)) := Lib.hid (⟨(Hsb10.out).1.v.fr.cell 0, (Hsb10.out).1.v.fr.cell 1, (Hsb10.out).1.v.fr.cell 2⟩)
          have Esb12 : Hid (Below Ns w1s wsb8 ∧ Ns ≤ wsb8.heap.size) := Lib.hid (⟨(Esb6.out).1.trans ((hb9).mono (Esb6.out).2), Nat.le_trans (Esb6.out).2 (hb9).size⟩)
          have Esb13 : Hid (Has wsb8 bsb2 33 #[.int .i64 0, .int .i64 0, .int .i64 0, .int .i64 0] ∧ bsb2 < wsb8.heap.size ∧ Ns ≤ bsb2) := Lib.hid (⟨(Esb3.out).1.below hb9 (Esb3.out).2.1, Nat.lt_of_lt_of_le (Esb3.out).2.1 (hb9).size, (Esb3.out).2.2⟩)
          clear hb9
          go_simp
          refine hK.out _ _ (fun h => Ksb11.out) ?_
          clear hK K
          try simp only [Act.put, List.setIfInBounds_toArray, List.set_cons_zero, List.set_cons_succ]
          refine wpLate_one (i := 3) (o := ?o3sb14_) (by kernel_rfl) ?ho3sb14_ ?hk3sb14_
          case ho3sb14_ => (simp only [List.getElem?_toArray, List.getElem?_cons_zero, List.getElem?_cons_succ]; rfl)
          intro K hK
          go_simp
          refine (HPz.out _ _ _ _ _ Hsb10.out.1.v.b Msb9.out).mono ?_
          rintro e wsb15 ⟨rfl, hb9⟩
          have Hsb16 : Hid (OW W wsb15 r A c s AC AP cc cp PJ P2 j ∧ Has wsb15 B1 33 (scc xa) ∧ Has wsb15 B2 33 (scc xb)) := Lib.hid (⟨(Hsb10.out).1.step hb9, (Hsb10.out).2.1.below hb9 (Hsb10.out).2.1.lt, (Hsb10.out).2.2.below hb9 (Hsb10.out).2.2.lt⟩)
          have Ksb17 : Hid (wsb15.cell? ⟨W.heap.size, 0, none⟩ = some (.slice A r.bases.length c) ∧ wsb15.cell? ⟨W.heap.size, 1, none⟩ = some (.int .i64 r.factor) ∧ wsb15.cell? ⟨W.heap.size, 2, none⟩ = some (.int .i64 r.most)) := Lib.hid (⟨(Hsb16.out).1.v.fr.cell 0, (Hsb16.out).1.v.fr.cell 1, (Hsb16.out).1.v.fr.cell 2⟩)
          have Esb18 : Hid (Below Ns w1s wsb15 ∧ Ns ≤ wsb15.heap.size) := Lib.hid (⟨(Esb12.out).1.trans ((hb9).mono (Esb12.out).2), Nat.le_trans (Esb12.out).2 (hb9).size⟩)
          have Esb19 : Hid (Has wsb15 bsb2 33 #[.int .i64 0, .int .i64 0, .int .i64 0, .int .i64 0] ∧ bsb2 < wsb15.heap.size ∧ Ns ≤ bsb2) := Lib.hid (⟨(Esb13.out).1.below hb9 (Esb13.out).2.1, Nat.lt_of_lt_of_le (Esb13.out).2.1 (hb9).size, (Esb13.out).2.2⟩)
          have Esb20 : Hid (SkR wsb15 wsb15.heap.size (endS true j s) BC BP) := Lib.hid ((Msb9.out).step hb9)
          clear hb9
          go_simp
          refine hK.out _ _ (fun h => Ksb17.out) ?_
          clear hK K
          try simp only [Act.put, List.setIfInBounds_toArray, List.set_cons_zero, List.set_cons_succ]
          refine wpLate_take (i := 4) (oi := ?oi4sb21_) (v := ?v4sb21_) [5, 6, 8, 9] ?hi4sb21_ (by kernel_rfl) (by kernel_rfl) (by kernel_rfl) (by kernel_rfl) (by kernel_rfl) ?hQ4sb21_ (Or.inl ⟨?hw4sb21_, ?hy4sb21_⟩) Ksb17.out ?rest4sb21_
          case hi4sb21_ => (simp only [List.getElem?_toArray, List.getElem?_cons_zero, List.getElem?_cons_succ]; rfl)
          case hQ4sb21_ => exact fun _ _ _ h => h
          case hw4sb21_ => rfl
          case hy4sb21_ =>
            intro w' hSw
            obtain ⟨r0, r1, r2⟩ := hSw
            go_simp
            try exact rfl
          try simp only [Act.put, List.setIfInBounds_toArray, List.set_cons_zero, List.set_cons_succ]
          refine wpLate_take (i := 5) (oi := ?oi5sb22_) (v := ?v5sb22_) [8, 9] ?hi5sb22_ (by kernel_rfl) (by kernel_rfl) (by kernel_rfl) (by kernel_rfl) (by kernel_rfl) ?hQ5sb22_ (Or.inl ⟨?hw5sb22_, ?hy5sb22_⟩) Ksb17.out ?rest5sb22_
          case hi5sb22_ => (simp only [List.getElem?_toArray, List.getElem?_cons_zero, List.getElem?_cons_succ]; rfl)
          case hQ5sb22_ => exact fun _ _ _ h => h
          case hw5sb22_ => rfl
          case hy5sb22_ =>
            intro w' hSw
            obtain ⟨r0, r1, r2⟩ := hSw
            go_simp
            try exact rfl
          try simp only [Act.put, List.setIfInBounds_toArray, List.set_cons_zero, List.set_cons_succ]
          refine wpLate_take (i := 6) (oi := ?oi6sb23_) (v := ?v6sb23_) [9] ?hi6sb23_ (by kernel_rfl) (by kernel_rfl) (by kernel_rfl) (by kernel_rfl) (by kernel_rfl) ?hQ6sb23_ (Or.inl ⟨?hw6sb23_, ?hy6sb23_⟩) Ksb17.out ?rest6sb23_
          case hi6sb23_ => (simp only [List.getElem?_toArray, List.getElem?_cons_zero, List.getElem?_cons_succ]; rfl)
          case hQ6sb23_ => exact fun _ _ _ h => h
          case hw6sb23_ => rfl
          case hy6sb23_ =>
            intro w' hSw
            obtain ⟨r0, r1, r2⟩ := hSw
            go_simp
            try exact rfl
          try simp only [Act.put, List.setIfInBounds_toArray, List.set_cons_zero, List.set_cons_succ]
          refine wpLate_one (i := 8) (o := ?o8sb24_) (by kernel_rfl) ?ho8sb24_ ?hk8sb24_
          case ho8sb24_ => (simp only [List.getElem?_toArray, List.getElem?_cons_zero, List.getElem?_cons_succ]; rfl)
          intro K hK
          have l0 : wsb15.cell? ⟨bsb2, 0, none⟩ = some (.int .i64 0) := Esb19.out.1.cell 0
          have l1 : wsb15.cell? ⟨bsb2, 1, none⟩ = some (.int .i64 0) := Esb19.out.1.cell 1
          have l2 : wsb15.cell? ⟨bsb2, 2, none⟩ = some (.int .i64 0) := Esb19.out.1.cell 2
          have l3 : wsb15.cell? ⟨bsb2, 3, none⟩ = some (.int .i64 0) := Esb19.out.1.cell 3
          have f0 := Esb19.out.1.frozen 0
          have f1 := Esb19.out.1.frozen 1
          have f2 := Esb19.out.1.frozen 2
          have f3 := Esb19.out.1.frozen 3
          have HFsb : Hid ((OW W ((((wsb15.setCell ⟨bsb2, 0, none⟩ (.int .i64 xc.elements)).setCell ⟨bsb2, 1, none⟩ (.int .i64 xc.parts)).setCell ⟨bsb2, 2, none⟩ (.int .i64 xc.off)).setCell ⟨bsb2, 3, none⟩ (.int .i64 xc.total)) r A c s AC AP cc cp PJ P2 j ∧ Has ((((wsb15.setCell ⟨bsb2, 0, none⟩ (.int .i64 xc.elements)).setCell ⟨bsb2, 1, none⟩ (.int .i64 xc.parts)).setCell ⟨bsb2, 2, none⟩ (.int .i64 xc.off)).setCell ⟨bsb2, 3, none⟩ (.int .i64 xc.total)) B1 33 (scc xa) ∧ Has ((((wsb15.setCell ⟨bsb2, 0, none⟩ (.int .i64 xc.elements)).setCell ⟨bsb2, 1, none⟩ (.int .i64 xc.parts)).setCell ⟨bsb2, 2, none⟩ (.int .i64 xc.off)).setCell ⟨bsb2, 3, none⟩ (.int .i64 xc.total)) B2 33 (scc xb)) ∧ Has ((((wsb15.setCell ⟨bsb2, 0, none⟩ (.int .i64 xc.elements)).setCell ⟨bsb2, 1, none⟩ (.int .i64 xc.parts)).setCell ⟨bsb2, 2, none⟩ (.int .i64 xc.off)).setCell ⟨bsb2, 3, none⟩ (.int .i64 xc.total)) bsb2 33 (scc xc)) := Lib.hid ⟨⟨(H1s.out).1.step (by rw [← NHs.out]; exact ((((Esb18.out.1.setCell Esb19.out.2.2 _).setCell Esb19.out.2.2 _).setCell Esb19.out.2.2 _).setCell Esb19.out.2.2 _)), (H1s.out).2.1.below (by rw [← NHs.out]; exact ((((Esb18.out.1.setCell Esb19.out.2.2 _).setCell Esb19.out.2.2 _).setCell Esb19.out.2.2 _).setCell Esb19.out.2.2 _)) (H1s.out).2.1.lt, (H1s.out).2.2.below (by rw [← NHs.out]; exact ((((Esb18.out.1.setCell Esb19.out.2.2 _).setCell Esb19.out.2.2 _).setCell Esb19.out.2.2 _).setCell Esb19.out.2.2 _)) (H1s.out).2.2.lt⟩, (((Esb19.out.1.set 0 _).set 1 _).set 2 _).set 3 _⟩
          go_simp
          refine hK.out _ _ (fun h => ⟨(HFsb.out.1).1.v.fr.cell 0, (HFsb.out.1).1.v.fr.cell 1, (HFsb.out.1).1.v.fr.cell 2⟩) ?_
          clear hK K
          try simp only [Act.put, List.setIfInBounds_toArray, List.set_cons_zero, List.set_cons_succ]
          refine wpLate_one (i := 9) (o := ?o9sb25_) (by kernel_rfl) ?ho9sb25_ ?hk9sb25_
          case ho9sb25_ => (simp only [List.getElem?_toArray, List.getElem?_cons_zero, List.getElem?_cons_succ]; rfl)
          intro K hK
          go_simp
          refine hK.out _ _ (fun h => ⟨(HFsb.out.1).1.v.fr.cell 0, (HFsb.out.1).1.v.fr.cell 1, (HFsb.out.1).1.v.fr.cell 2⟩) ?_
          clear hK K
          try simp only [Act.put, List.setIfInBounds_toArray, List.set_cons_zero, List.set_cons_succ]
          refine wpLate_done (by kernel_rfl) ?_ _
          try simp only [Act.put, List.setIfInBounds_toArray, List.set_cons_zero, List.set_cons_succ]
          try go_wp2_with fail
          go_meet
          exact ⟨bsb2, rfl, rfl, HFsb⟩
      case rest =>
        obtain ⟨b9s, rfl, rfl, H9s⟩ := hcut
        rename World => w9s
        clear H9q HPa HPy HPz HTO HCG
        have a0 : w9s.cell? ⟨B1, 0, none⟩ = some (.int .i64 xa.elements) := H9s.out.1.2.1.cell 0
        have a1 : w9s.cell? ⟨B1, 1, none⟩ = some (.int .i64 xa.parts) := H9s.out.1.2.1.cell 1
        have a3 : w9s.cell? ⟨B1, 3, none⟩ = some (.int .i64 xa.total) := H9s.out.1.2.1.cell 3
        have b0 : w9s.cell? ⟨B2, 0, none⟩ = some (.int .i64 xb.elements) := H9s.out.1.2.2.cell 0
        have b1 : w9s.cell? ⟨B2, 1, none⟩ = some (.int .i64 xb.parts) := H9s.out.1.2.2.cell 1
        have b3 : w9s.cell? ⟨B2, 3, none⟩ = some (.int .i64 xb.total) := H9s.out.1.2.2.cell 3
        have d0 : w9s.cell? ⟨b9s, 0, none⟩ = some (.int .i64 xc.elements) := H9s.out.2.cell 0
        have d1 : w9s.cell? ⟨b9s, 1, none⟩ = some (.int .i64 xc.parts) := H9s.out.2.cell 1
        have d3 : w9s.cell? ⟨b9s, 3, none⟩ = some (.int .i64 xc.total) := H9s.out.2.cell 3
        have h1 := HLE.out.1.e
        have h2 := HLE.out.2.e
        have h3 := HLE.out.1.p
        have h4 := HLE.out.2.p
        have h5 := HLE.out.1.t
        have h6 := HLE.out.2.t
        go_wp2_with fail
        refine (HAw.out _).mono ?_
        rintro e w1 ⟨rfl, hb1⟩
        have HZ := Lib.hid (H9s.out.1.1.step hb1)
        clear hb1 a0 a1 a3 b0 b1 b3 d0 d1 d3 H9s
        go_wp2_with fail
        go_ret
        exact ⟨rfl, HZ.out.v.b⟩
end Go.Proofs.Ytmclchaalmonnaa
