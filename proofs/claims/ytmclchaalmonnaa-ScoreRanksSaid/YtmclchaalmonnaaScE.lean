/- Contracts: validSkating. -/
import Derived.Test.YtmclchaalmonnaaScD
namespace Go.Proofs.Ytmclchaalmonnaa
open Go.RowKit
/-- the places that are taken -/
def tak (seen : List Cl) : Array Value := ((List.range 100).map fun p => Value.bool (seen.any fun d => decide (d.place = ((p : Nat) : Int)))).toArray
theorem tak_get (seen : List Cl) (p : Nat) (h : p < 100) : (tak seen)[p]? = some (.bool (seen.any fun d => decide (d.place = (p : Int)))) := by
  unfold tak; simp [h]
theorem tak_set (seen : List Cl) (c : Cl) (p : Nat) (h : c.place = (p : Int)) : (tak seen).setIfInBounds p (.bool true) = tak (c :: seen) := by
  unfold tak
  rw [List.setIfInBounds_toArray]
  congr 1
  apply List.ext_getElem
  · simp
  · intro i h1 h2
    have hi : i < 100 := by simpa using h2
    rw [List.getElem_set]
    simp only [List.getElem_map, List.getElem_range, List.any_cons]
    by_cases hip : p = i
    · subst hip; simp [h]
    · rw [if_neg hip]
      have : decide (c.place = (i : Int)) = false := by simp; omega
      rw [this]; rfl
/-- what validSkating has boxed -/
structure VB (W w : World) (r : Ru) (A : Option Addr) (c : Nat) (s : Sk) (AC AP : Option Addr) (cc cp : Nat) : Prop where
  r : RB W w W.heap.size r A c
  fs : Has w (W.heap.size + 1) 28 (skc s AC AP cc cp)
  rs : SkR w W.heap.size s AC AP
theorem VB.step {W w w' : World} {r : Ru} {A : Option Addr} {c : Nat} {s : Sk} {AC AP : Option Addr} {cc cp : Nat} (h : VB W w r A c s AC AP cc cp) (hb : Below w.heap.size w w') : VB W w' r A c s AC AP cc cp := ⟨h.r.step hb, h.fs.below hb h.fs.lt, h.rs.below (hb.mono h.r.b.size)⟩
theorem VB.start {W : World} {r : Ru} {A : Option Addr} {c : Nat} {s : Sk} {AC AP : Option Addr} {cc cp : Nat} (h : RuR W W.heap.size r A) (h2 : SkR W W.heap.size s AC AP) : VB W ((W.alloc (.cells (ruc r A c) 24)).alloc (.cells (skc s AC AP cc cp) 28)) r A c s AC AP cc cp :=
  ⟨(RB.start h).step (below_one _ _), has_newAt (by simp), (h2.below (below_one W _)).below ((below_one _ _).mono (by simp))⟩
structure VT (W w : World) (r : Ru) (A : Option Addr) (c : Nat) (s : Sk) (AC AP : Option Addr) (cc cp D : Nat) (seen : List Cl) : Prop where
  v : VB W w r A c s AC AP cc cp
  ft : Has w D 114 (tak seen)
  hD : W.heap.size + 1 < D
theorem VT.step {W w w' : World} {r : Ru} {A : Option Addr} {c : Nat} {s : Sk} {AC AP : Option Addr} {cc cp D : Nat} {seen : List Cl} (h : VT W w r A c s AC AP cc cp D seen) (hb : Below w.heap.size w w') : VT W w' r A c s AC AP cc cp D seen := ⟨h.v.step hb, h.ft.below hb h.ft.lt, h.hD⟩
theorem VT.set {W w : World} {r : Ru} {A : Option Addr} {c : Nat} {s : Sk} {AC AP : Option Addr} {cc cp D : Nat} {seen : List Cl} (h : VT W w r A c s AC AP cc cp D seen) (p : Nat) (x : Cl) (ht : (tak seen).setIfInBounds p (.bool true) = tak (x :: seen)) : VT W (w.setCell ⟨D, p, none⟩ (.bool true)) r A c s AC AP cc cp D (x :: seen) := by
  have hD := h.hD
  have hb : Below W.heap.size w (w.setCell ⟨D, p, none⟩ (.bool true)) := (Below.refl _ _).setCell (by simp only; omega) _
  exact ⟨⟨⟨h.v.r.b.trans hb, h.v.r.fr.far (by simp only; omega) _, h.v.r.rr.below hb⟩, h.v.fs.far (by simp only; omega) _, h.v.rs.below hb⟩, ht ▸ h.ft.set p _, h.hD⟩
theorem zero114 : Try.zeroCells114 = tak [] := by kernel_rfl
set_option maxRecDepth 100000 in
set_option maxHeartbeats 1000000 in
theorem validSkating_any (r : Ru) (A : Option Addr) (c : Nat) (s : Sk) (AC AP : Option Addr) (cc cp : Nat) (n : Int) (W : World) (hr : RuR W W.heap.size r A) (hs : SkR W W.heap.size s AC AP) :
    Calls Try.prog 56 #[ruv r A c, skv s AC AP cc cp, .int .i64 n] W (BoolPost (skB r s n) W) := by
  have HB : Hid (VB W ((W.alloc (.cells (ruc r A c) 24)).alloc (.cells (skc s AC AP cc cp) 28)) r A c s AC AP cc cp) := Lib.hid (VB.start hr hs)
  have H0 := Lib.hid (fun w => within_any s.over 0 600 w)
  have hn : ∀ b, skB r s n = b → Hid (skB r s n = b) := fun b h => h
  have hlc := hs.lc
  have hlp := hs.lp
  unfold big at hlc hlp
  clear hr hs
  unfold ruv skv
  by_cases h1 : s.calls.length ≤ 16
  rotate_left
  · have h1' : ¬ (s.calls.length : Int) ≤ 16 := by omega
    have h1'' : (16 : Int) < s.calls.length := by omega
    have HE := hn false (by unfold skB; simp [h1])
    clear hn h1
    go_enter Try.func56, Try.ntmps56
    go_upto_region 1 with fail
    generalize (W.alloc (.cells (ruc r A c) 24)).alloc (.cells (skc s AC AP cc cp) 28) = w9 at HB ⊢
    have x0 : w9.cell? ⟨W.heap.size + 1, 0, none⟩ = some (.slice AC s.calls.length cc) := HB.out.fs.cell 0
    go_wp2_with fail
    go_ret
    exact ⟨ret_bool HE.out.symm, HB.out.r.b⟩
  have h1' : ¬ (16 : Int) < s.calls.length := by omega
  by_cases h2 : s.parts.length ≤ 5
  rotate_left
  · have h2' : (5 : Int) < s.parts.length := by omega
    have HE := hn false (by unfold skB; simp [h2])
    clear hn h2
    go_enter Try.func56, Try.ntmps56
    go_upto_region 1 with fail
    generalize (W.alloc (.cells (ruc r A c) 24)).alloc (.cells (skc s AC AP cc cp) 28) = w9 at HB ⊢
    have x0 : w9.cell? ⟨W.heap.size + 1, 0, none⟩ = some (.slice AC s.calls.length cc) := HB.out.fs.cell 0
    have x1 : w9.cell? ⟨W.heap.size + 1, 1, none⟩ = some (.slice AP s.parts.length cp) := HB.out.fs.cell 1
    go_wp2_with fail
    go_ret
    exact ⟨ret_bool HE.out.symm, HB.out.r.b⟩
  have h2' : ¬ (5 : Int) < s.parts.length := by omega
  cases h3 : inB s.over 0 600 <;> rw [h3] at H0
  · have HE := hn false (by unfold skB; simp [h3])
    clear hn h3
    go_enter Try.func56, Try.ntmps56
    go_upto_region 1 with fail
    generalize (W.alloc (.cells (ruc r A c) 24)).alloc (.cells (skc s AC AP cc cp) 28) = w9 at HB ⊢
    have x0 : w9.cell? ⟨W.heap.size + 1, 0, none⟩ = some (.slice AC s.calls.length cc) := HB.out.fs.cell 0
    have x1 : w9.cell? ⟨W.heap.size + 1, 1, none⟩ = some (.slice AP s.parts.length cp) := HB.out.fs.cell 1
    have x2 : w9.cell? ⟨W.heap.size + 1, 2, none⟩ = some (.int .i64 s.over) := HB.out.fs.cell 2
    go_wp2_with fail
    refine (H0.out _).mono ?_
    rintro e u0 ⟨rfl, rfl⟩
    go_wp2_with fail
    go_ret
    exact ⟨ret_bool HE.out.symm, HB.out.r.b⟩
  have HS : Hid (skB r s n = (callsB r n [] s.calls && partsB n s.parts)) := Lib.hid (by unfold skB; simp [h1, h2, h3])
  clear hn h1 h2 h3
  go_enter Try.func56, Try.ntmps56
  go_upto_region 1 with fail
  generalize (W.alloc (.cells (ruc r A c) 24)).alloc (.cells (skc s AC AP cc cp) 28) = w9 at HB ⊢
  have x0 : w9.cell? ⟨W.heap.size + 1, 0, none⟩ = some (.slice AC s.calls.length cc) := HB.out.fs.cell 0
  have x1 : w9.cell? ⟨W.heap.size + 1, 1, none⟩ = some (.slice AP s.parts.length cp) := HB.out.fs.cell 1
  have x2 : w9.cell? ⟨W.heap.size + 1, 2, none⟩ = some (.int .i64 s.over) := HB.out.fs.cell 2
  go_wp2_with fail
  refine (H0.out _).mono ?_
  rintro e u0 ⟨rfl, rfl⟩
  go_upto_region 4 with fail
  rw [zero114]
  have HT : Hid (VT W (u0.alloc (.cells (tak []) 114)) r A c s AC AP cc cp u0.heap.size []) := Lib.hid ⟨HB.out.step (below_one _ _), Has.new _ _ _, by have := HB.out.fs.lt; omega⟩
  generalize u0.heap.size = D at HT ⊢
  generalize u0.alloc (.cells (tak []) 114) = w1 at HT ⊢
  clear x0 x1 x2 HB H0
  have x0 : w1.cell? ⟨W.heap.size + 1, 0, none⟩ = some (.slice AC s.calls.length cc) := HT.out.v.fs.cell 0
  go_wp2_with fail
  clear x0
  go_loopg [31] s.calls.length (fun gk i wr => ∃ k : Nat, k ≤ s.calls.length ∧ s.calls.length - k ≤ gk ∧ i = .int .i64 k ∧ ∃ seen, Hid (VT W wr r A c s AC AP cc cp D seen ∧ callsB r n [] s.calls = callsB r n seen (s.calls.drop k)))
  case atStart => exact ⟨0, Nat.zero_le _, Nat.le_refl _, rfl, [], Lib.hid ⟨HT.out, by simp⟩⟩
  case round =>
    obtain ⟨k, hk, hgk, rfl, seen, HW⟩ := hrel
    by_cases hlt : k < s.calls.length
    rotate_left
    · have hge : ¬ (k : Int) < s.calls.length := by omega
      have HE : Hid (callsB r n [] s.calls = true) := Lib.hid (by rw [HW.out.2, List.drop_eq_nil_of_le (by omega)]; rfl)
      have HW1 := Lib.hid HW.out.1.v
      clear HT HW hgk
      have x1 : wr.cell? ⟨W.heap.size + 1, 1, none⟩ = some (.slice AP s.parts.length cp) := HW1.out.fs.cell 1
      have HP : Hid (skB r s n = s.parts.all fun m => decide ((m.length : Int) = n) && allB m 0 40) := Lib.hid (by rw [HS.out, HE.out]; rfl)
      clear hlt hk HS HE
      rename_i k0 _
      go_wp2_with fail
      clear x1 hge
      obtain ⟨w3, rfl⟩ : ∃ w3, w3 = wr := ⟨_, rfl⟩
      go_loopg [53] s.parts.length (fun gk i wr => ∃ k : Nat, k ≤ s.parts.length ∧ s.parts.length - k ≤ gk ∧ i = .int .i64 k ∧ Hid (VB W wr r A c s AC AP cc cp ∧ ∀ j (hj : j < s.parts.length), j < k → (decide ((s.parts[j].length : Int) = n) && allB s.parts[j] 0 40) = true))
      case atStart => exact ⟨0, Nat.zero_le _, Nat.le_refl _, rfl, Lib.hid ⟨HW1.out, fun j _ h => absurd h (by omega)⟩⟩
      case round =>
        obtain ⟨k, hk, hgk, rfl, HW⟩ := hrel
        by_cases hlt : k < s.parts.length
        rotate_left
        · have hge : ¬ (k : Int) < s.parts.length := by omega
          have HE : Hid (skB r s n = true) := Lib.hid (by
            rw [HP.out, List.all_eq_true]
            intro g hg
            obtain ⟨j, hj, rfl⟩ := List.getElem_of_mem hg
            exact HW.out.2 j hj (by omega))
          go_wp2_with fail
          go_ret
          exact ⟨ret_bool HE.out.symm, HW.out.1.r.b⟩
        have hlt2 : (k : Int) < s.parts.length := by omega
        obtain ⟨g, o, M, m, hg, hgs, hc, hm, hml⟩ := (HW.out.1.rs.more HW.out.1.r.b.size).p k hlt
        have HNO : Hid ((decide ((s.parts[k].length : Int) = n) && allB s.parts[k] 0 40) = false → skB r s n = false) := Lib.hid fun h => by
          rw [HP.out]
          exact List.all_eq_false.2 ⟨s.parts[k], List.getElem_mem hlt, by rw [h]; decide⟩
        have HNX : Hid ((decide ((s.parts[k].length : Int) = n) && allB s.parts[k] 0 40) = true → ∀ j (hj : j < s.parts.length), j < k + 1 → (decide ((s.parts[j].length : Int) = n) && allB s.parts[j] 0 40) = true) := Lib.hid fun h j hj hjk => by
          rcases Nat.lt_or_ge j k with h' | h'
          · exact HW.out.2 j hj h'
          · have : j = k := by omega
            subst this
            exact h
        obtain ⟨x, hb⟩ : ∃ x, x = s.parts[k] := ⟨_, rfl⟩
        rw [← hb] at hc hm hml HNO HNX
        have HAW := Lib.hid (allWithin_any x M m 0 40 wr hm hml)
        unfold big at hml
        subst hg
        clear hb hgs hm
        by_cases hx : (x.length : Int) = n
        rotate_left
        · have hx' : ((x.length : Int) == n) = false := by simpa using hx
          have hx2 : ((x.length : Int) != n) = true := by simpa using hx
          have HN := Lib.hid (HNO.out (by simp [hx]))
          clear HNO HNX hx HAW
          go_wp2_with fail
          go_ret
          exact ⟨ret_bool HN.out.symm, HW.out.1.r.b⟩
        have hx' : ((x.length : Int) == n) = true := by simpa using hx
        have hx2 : ((x.length : Int) != n) = false := by simpa using hx
        cases hal : allB x 0 40 <;> rw [hal] at HAW
        · have HN := Lib.hid (HNO.out (by simp [hal]))
          clear HNO HNX hx hal
          go_wp2_with fail
          refine HAW.out.mono ?_
          rintro e w4 ⟨rfl, hb4⟩
          have H4 := Lib.hid (HW.out.1.step hb4)
          clear hb4 hc
          go_wp2_with fail
          go_ret
          exact ⟨ret_bool HN.out.symm, H4.out.r.b⟩
        · have HN := Lib.hid (HNX.out (by simp [hal, hx]))
          clear HNO HNX hx hal
          go_wp2_with fail
          refine HAW.out.mono ?_
          rintro e w4 ⟨rfl, hb4⟩
          have H4 := Lib.hid (HW.out.1.step hb4)
          clear hb4 hc
          go_wp2_with fail
          go_roundg (s.parts.length - (k + 1))
          case measure => omega
          case rel => exact ⟨k + 1, by omega, Nat.le_refl _, by go_num, Lib.hid ⟨H4.out, HN.out⟩⟩
    have hlt2 : (k : Int) < s.calls.length := by omega
    obtain ⟨g, o, M, m, hg, hgs, hc, hm, hml⟩ := (HW.out.1.v.rs.more HW.out.1.v.r.b.size).c k hlt
    have HCB : Hid (callsB r n [] s.calls = (clB r s.calls[k] n && (!(seen.any fun d => decide (d.place = s.calls[k].place)) && callsB r n (s.calls[k] :: seen) (s.calls.drop (k + 1))))) := Lib.hid (by
      rw [HW.out.2, List.drop_eq_getElem_cons hlt]; rfl)
    have HW1 := Lib.hid HW.out.1
    obtain ⟨x, hb⟩ : ∃ x, x = s.calls[k] := ⟨_, rfl⟩
    rw [← hb] at hc hm hml HCB
    have z0 : wr.cell? ⟨g, o + k * 6, none⟩ = some (.int .i64 x.place) := hc 0 (by omega)
    have z1 : wr.cell? ⟨g, o + k * 6 + 1, none⟩ = some (.int .i64 x.element) := hc 1 (by omega)
    have z2 : wr.cell? ⟨g, o + k * 6 + 2, none⟩ = some (.int .i64 x.under) := hc 2 (by omega)
    have z3 : wr.cell? ⟨g, o + k * 6 + 3, none⟩ = some (.bool x.late) := hc 3 (by omega)
    have z4 : wr.cell? ⟨g, o + k * 6 + 4, none⟩ = some (.bool x.fall) := hc 4 (by omega)
    have z5 : wr.cell? ⟨g, o + k * 6 + 5, none⟩ = some (.slice M x.marks.length m) := hc 5 (by omega)
    have HX : Hid (VT W (wr.alloc (.cells (clc x M m) 52)) r A c s AC AP cc cp D seen ∧ Has (wr.alloc (.cells (clc x M m) 52)) wr.heap.size 52 (clc x M m) ∧ IRow (wr.alloc (.cells (clc x M m) 52)) (wr.alloc (.cells (clc x M m) 52)).heap.size M x.marks ∧ D < wr.heap.size) :=
      Lib.hid ⟨HW1.out.step (below_one _ _), Has.new _ _ _, hm.step (below_one _ _), HW1.out.ft.lt⟩
    have hml' := hml
    unfold big at hml'
    subst hg
    clear hb hgs hc hm HW HT
    go_upto_region 7 with fail
    clear z0 z1 z2 z3 z4 z5
    generalize wr.alloc (.cells (clc x M m) 52) = w2 at HX ⊢
    generalize wr.heap.size = E at HX ⊢
    have q0 : w2.cell? ⟨W.heap.size, 0, none⟩ = some (.slice A r.bases.length c) := HX.out.1.v.r.fr.cell 0
    have q1 : w2.cell? ⟨W.heap.size, 1, none⟩ = some (.int .i64 r.factor) := HX.out.1.v.r.fr.cell 1
    have q2 : w2.cell? ⟨W.heap.size, 2, none⟩ = some (.int .i64 r.most) := HX.out.1.v.r.fr.cell 2
    have z0 : w2.cell? ⟨E, 0, none⟩ = some (.int .i64 x.place) := HX.out.2.1.cell 0
    have z1 : w2.cell? ⟨E, 1, none⟩ = some (.int .i64 x.element) := HX.out.2.1.cell 1
    have z2 : w2.cell? ⟨E, 2, none⟩ = some (.int .i64 x.under) := HX.out.2.1.cell 2
    have z3 : w2.cell? ⟨E, 3, none⟩ = some (.bool x.late) := HX.out.2.1.cell 3
    have z4 : w2.cell? ⟨E, 4, none⟩ = some (.bool x.fall) := HX.out.2.1.cell 4
    have z5 : w2.cell? ⟨E, 5, none⟩ = some (.slice M x.marks.length m) := HX.out.2.1.cell 5
    have HV := Lib.hid (validCall_any r A c x M m n w2 (HX.out.1.v.r.rr.more HX.out.1.v.r.b.size) HX.out.2.2.1 hml)
    unfold ruv clv at HV
    cases hcl : clB r x n <;> rw [hcl] at HV
    · have HN : Hid (skB r s n = false) := Lib.hid (by rw [HS.out, HCB.out, hcl]; rfl)
      clear hcl HCB HS
      go_wp2_with fail
      refine HV.out.mono ?_
      rintro e w3 ⟨rfl, hb3⟩
      have H3 := Lib.hid (HX.out.1.step hb3)
      clear hb3 q0 q1 q2 z0 z1 z2 z3 z4 z5
      go_wp2_with fail
      go_ret
      exact ⟨ret_bool HN.out.symm, H3.out.v.r.b⟩
    have hpl : 0 ≤ x.place ∧ x.place ≤ 99 := by
      have := hcl
      unfold clB inB at this
      simp only [Bool.and_eq_true, decide_eq_true_eq] at this
      exact this.1
    obtain ⟨p, hp⟩ : ∃ p : Nat, x.place = (p : Int) := ⟨x.place.toNat, by omega⟩
    have hp99 : p < 100 := by omega
    have HG := Lib.hid (tak_get seen p hp99)
    have HST := Lib.hid (tak_set seen x p hp)
    rw [hp] at HCB
    have HPE := Lib.hid hp
    clear hp hpl
    go_wp2_with fail
    refine HV.out.mono ?_
    rintro e w3 ⟨rfl, hb3⟩
    have H3 := Lib.hid (And.intro (HX.out.1.step hb3) (And.intro (HX.out.2.1.below hb3 HX.out.2.1.lt) HX.out.2.2.2))
    clear hb3 q0 q1 q2 z0 z1 z2 z3 z4 z5 HX HV
    have z0 : w3.cell? ⟨E, 0, none⟩ = some (.int .i64 p) := by rw [← HPE.out]; exact H3.out.2.1.cell 0
    have hp2 : (p : Int) < 100 := by omega
    cases htk : seen.any (fun d => decide (d.place = (p : Int)))
    rotate_left
    · have HN : Hid (skB r s n = false) := Lib.hid (by rw [HS.out, HCB.out, htk]; simp)
      have t0 : w3.cell? ⟨D, p, none⟩ = some (.bool true) := (H3.out.1.ft.cell p).trans (by rw [HG.out, htk])
      clear hcl HCB HS htk
      go_wp2_with fail
      go_ret
      exact ⟨ret_bool HN.out.symm, H3.out.1.v.r.b⟩
    · have HN : Hid (callsB r n [] s.calls = callsB r n (x :: seen) (s.calls.drop (k + 1))) := Lib.hid (by rw [HCB.out, htk, hcl]; rfl)
      have t0 : w3.cell? ⟨D, p, none⟩ = some (.bool false) := (H3.out.1.ft.cell p).trans (by rw [HG.out, htk])
      have tf := H3.out.1.ft.frozen p
      clear hcl HCB htk
      go_wp2_with fail
      have H4 : Hid (VT W (w3.setCell ⟨D, p, none⟩ (.bool true)) r A c s (some ⟨g, o, none⟩) AP cc cp D (x :: seen)) := Lib.hid (H3.out.1.set p x HST.out)
      go_roundg (s.calls.length - (k + 1))
      case measure => omega
      case rel => exact ⟨k + 1, by omega, Nat.le_refl _, by go_num, x :: seen, Lib.hid ⟨H4.out, HN.out⟩⟩
end Go.Proofs.Ytmclchaalmonnaa
