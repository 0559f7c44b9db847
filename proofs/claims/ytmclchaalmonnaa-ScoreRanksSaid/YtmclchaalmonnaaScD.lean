/- Contracts: panel. -/
import Derived.Test.YtmclchaalmonnaaScC
namespace Go.Proofs.Ytmclchaalmonnaa
open Go.RowKit
theorem judges_skip {l : List Sk} {k : Nat} (h : k < l.length) (h1 : l[k].calls = []) (h2 : l[k].parts = []) : judgesP (l.drop k) = judgesP (l.drop (k + 1)) := by
  rw [List.drop_eq_getElem_cons h]
  conv => lhs; unfold judgesP
  rw [h1, h2]
theorem judges_call {l : List Sk} {k : Nat} (h : k < l.length) {c : Cl} (h1 : l[k].calls[0]? = some c) : judgesP (l.drop k) = some c.marks.length := by
  rw [List.drop_eq_getElem_cons h]
  unfold judgesP
  cases h2 : l[k].calls with
  | nil => rw [h2] at h1; cases h1
  | cons a m => rw [h2] at h1; cases h1; rfl
theorem judges_part {l : List Sk} {k : Nat} (h : k < l.length) {m : List Int} (h0 : l[k].calls = []) (h1 : l[k].parts[0]? = some m) : judgesP (l.drop k) = some m.length := by
  rw [List.drop_eq_getElem_cons h]
  unfold judgesP
  rw [h0]
  cases h2 : l[k].parts with
  | nil => rw [h2] at h1; cases h1
  | cons a m => rw [h2] at h1; cases h1; rfl
def PanPost (l : List Sk) (W : World) (e : Ending) (W' : World) : Prop := e = .returned (.tuple #[.int .i64 (nP l), .bool (judgesP l).isSome]) ∧ Below W.heap.size W W'
theorem pan_ret {n m : Int} {b c : Bool} (h : n = m) (h' : b = c) : Ending.returned (.tuple #[.int .i64 n, .bool b]) = Ending.returned (.tuple #[.int .i64 m, .bool c]) := by rw [h, h']
set_option maxRecDepth 100000 in
set_option maxHeartbeats 1000000 in
theorem panel_any (l : List Sk) (A : Option Addr) (c : Nat) (W : World) (ha : SRow W W.heap.size A l) (hl : l.length ≤ big) : Calls Try.prog 54 #[.slice A l.length c] W (PanPost l W) := by
  have HA := Lib.hid ha
  have hl' : l.length ≤ 9223372036854775807 := hl
  clear ha hl
  go_enter Try.func54, Try.ntmps54
  go_wp2_with fail
  go_loopg [8] l.length (fun gk i wr => ∃ k : Nat, k ≤ l.length ∧ l.length - k ≤ gk ∧ i = .int .i64 k ∧ Hid (Below W.heap.size W wr ∧ judgesP l = judgesP (l.drop k)))
  case atStart => exact ⟨0, Nat.zero_le _, Nat.le_refl _, rfl, Lib.hid ⟨Below.refl _ _, by simp⟩⟩
  case round =>
    obtain ⟨k, hk, hgk, rfl, HW⟩ := hrel
    by_cases hlt : k < l.length
    rotate_left
    · have hge : ¬ (k : Int) < l.length := by omega
      have HE : Hid (judgesP l = none) := Lib.hid (by rw [HW.out.2, List.drop_eq_nil_of_le (by omega)]; rfl)
      go_wp2_with fail
      refine bodyPost_ret (v := .tuple #[.int .i64 0, .bool false]) (by simp [results, Try.results54, go_sem]) rfl ?_
      exact ⟨pan_ret (by unfold nP; rw [HE.out]; rfl) (by rw [HE.out]; rfl), HW.out.1⟩
    have hlt2 : (k : Int) < l.length := by omega
    obtain ⟨g, o, AC, AP, cc, cp, hg, hgs, hc, hs⟩ := (HA.out.below HW.out.1) k hlt
    have J1 := Lib.hid (And.intro (judges_skip hlt) (And.intro (fun {c} => judges_call hlt (c := c)) (fun {m} => judges_part hlt (m := m))))
    obtain ⟨s, hb⟩ : ∃ s, s = l[k] := ⟨_, rfl⟩
    rw [← hb] at hc hs J1
    have hs := hs.more HW.out.1.size
    have z0 : wr.cell? ⟨g, o + k * 3, none⟩ = some (.slice AC s.calls.length cc) := hc 0 (by omega)
    have z1 : wr.cell? ⟨g, o + k * 3 + 1, none⟩ = some (.slice AP s.parts.length cp) := hc 1 (by omega)
    have z2 : wr.cell? ⟨g, o + k * 3 + 2, none⟩ = some (.int .i64 s.over) := hc 2 (by omega)
    have HBX : Hid (Below W.heap.size W (wr.alloc (.cells (skc s AC AP cc cp) 28)) ∧ Has (wr.alloc (.cells (skc s AC AP cc cp) 28)) wr.heap.size 28 (skc s AC AP cc cp) ∧ SkR (wr.alloc (.cells (skc s AC AP cc cp) 28)) (wr.alloc (.cells (skc s AC AP cc cp) 28)).heap.size s AC AP) :=
      Lib.hid ⟨HW.out.1.trans ((below_one wr _).mono HW.out.1.size), Has.new _ _ _, hs.step (below_one wr _)⟩
    have hlc := hs.lc
    have hlp := hs.lp
    unfold big at hlc hlp
    subst hg
    clear hb hgs hc hs
    go_upto_region 4 with fail
    clear z0 z1 z2
    generalize wr.alloc (.cells (skc s AC AP cc cp) 28) = w1 at HBX ⊢
    generalize wr.heap.size = D at HBX ⊢
    have y0 : w1.cell? ⟨D, 0, none⟩ = some (.slice AC s.calls.length cc) := HBX.out.2.1.cell 0
    have y1 : w1.cell? ⟨D, 1, none⟩ = some (.slice AP s.parts.length cp) := HBX.out.2.1.cell 1
    cases hcs : s.calls with
    | cons x xs =>
      obtain ⟨g', o', M, m, e', hg', hc', hm', hml'⟩ := HBX.out.2.2.c 0 (by rw [hcs]; simp)
      have HV : Hid (judgesP l = some x.marks.length) := Lib.hid (by rw [HW.out.2]; exact J1.out.2.1 (by rw [hcs]; rfl))
      simp only [hcs, List.getElem_cons_zero] at hc' hml'
      have v5 : w1.cell? ⟨g', o' + 5, none⟩ = some (.slice M x.marks.length m) := by have := hc' 5 (by omega); simpa using this
      have hp0 : (0 : Int) < s.calls.length := by rw [hcs]; simp
      have hp1 : 0 < s.calls.length := by rw [hcs]; simp
      unfold big at hml'
      clear hm'
      generalize s.calls.length = q at *
      subst e'
      clear J1 hc' hg' hcs
      go_wp2_with fail
      refine bodyPost_ret (v := .tuple #[.int .i64 x.marks.length, .bool true]) (by simp [results, Try.results54, go_sem]) rfl ?_
      exact ⟨pan_ret (by unfold nP; rw [HV.out]; rfl) (by rw [HV.out]; rfl), HBX.out.1⟩
    | nil =>
      rw [hcs] at y0
      cases hps : s.parts with
      | cons x xs =>
        obtain ⟨g', o', M, m, e', hg', hc', hm', hml'⟩ := HBX.out.2.2.p 0 (by rw [hps]; simp)
        have HV : Hid (judgesP l = some x.length) := Lib.hid (by rw [HW.out.2]; exact J1.out.2.2 hcs (by rw [hps]; rfl))
        simp only [hps, List.getElem_cons_zero] at hc' hml'
        have v5 : w1.cell? ⟨g', o', none⟩ = some (.slice M x.length m) := by simpa using hc'
        have hp0 : (0 : Int) < s.parts.length := by rw [hps]; simp
        have hp1 : 0 < s.parts.length := by rw [hps]; simp
        unfold big at hml'
        clear hm'
        generalize s.parts.length = q at *
        subst e'
        clear J1 hc' hg' hps hcs
        go_wp2_with fail
        refine bodyPost_ret (v := .tuple #[.int .i64 x.length, .bool true]) (by simp [results, Try.results54, go_sem]) rfl ?_
        exact ⟨pan_ret (by unfold nP; rw [HV.out]; rfl) (by rw [HV.out]; rfl), HBX.out.1⟩
      | nil =>
        rw [hps] at y1
        have HN : Hid (judgesP l = judgesP (l.drop (k + 1))) := Lib.hid (by rw [HW.out.2]; exact J1.out.1 hcs hps)
        clear J1 hcs hps
        go_wp2_with fail
        go_roundg (l.length - (k + 1))
        case measure => omega
        case rel => exact ⟨k + 1, by omega, Nat.le_refl _, by go_num, Lib.hid ⟨HBX.out.1, HN.out⟩⟩
end Go.Proofs.Ytmclchaalmonnaa
