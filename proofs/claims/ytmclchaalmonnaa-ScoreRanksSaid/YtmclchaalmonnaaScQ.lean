/- Contracts: standingOf, better, place. -/
import Derived.Test.YtmclchaalmonnaaScP
namespace Go.Proofs.Ytmclchaalmonnaa
open Go.RowKit
abbrev stc (s : St) : Array Value := #[.int .i64 s.total, .int .i64 s.elements]
def stv (s : St) : Value := .agg (stc s)
/-- a row of standings -/
def StRow (w : World) (B : Nat) (A : Option Addr) (l : List St) : Prop :=
  ∀ k (h : k < l.length), ∃ g o, A = some ⟨g, o, none⟩ ∧ g < B ∧ w.cell? ⟨g, o + k * 2, none⟩ = some (.int .i64 l[k].total) ∧ w.cell? ⟨g, o + k * 2 + 1, none⟩ = some (.int .i64 l[k].elements)
theorem StRow.below {w w' : World} {B : Nat} {A : Option Addr} {l : List St} (h : StRow w B A l) (hb : Below B w w') : StRow w' B A l := fun k hk => by
  obtain ⟨g, o, e, hg, c0, c1⟩ := h k hk
  exact ⟨g, o, e, hg, (hb.cell (p := ⟨g, _, none⟩) hg).trans c0, (hb.cell (p := ⟨g, _, none⟩) hg).trans c1⟩
theorem StRow.more {w : World} {B B' : Nat} {A : Option Addr} {l : List St} (h : StRow w B A l) (hB : B ≤ B') : StRow w B' A l := fun k hk => by
  obtain ⟨g, o, e, hg, c⟩ := h k hk
  exact ⟨g, o, e, by omega, c⟩
theorem StRow.step {w w' : World} {A : Option Addr} {l : List St} (h : StRow w w.heap.size A l) (hb : Below w.heap.size w w') : StRow w' w'.heap.size A l := (h.below hb).more hb.size
set_option maxRecDepth 100000 in
set_option maxHeartbeats 1000000 in
theorem better_any (a b : St) (W : World) : Calls Try.prog 71 #[stv a, stv b] W (BoolPost (betB a b) W) := by
  have HB := Lib.hid ((below_one W (.cells (stc a) 82)).alloc (by simp) (.cells (stc b) 82))
  have hn : ∀ c, betB a b = c → Hid (betB a b = c) := fun b h => h
  unfold stv
  have h3 : b.total < a.total ∨ (¬ b.total < a.total ∧ ¬ a.total = b.total) ∨ (a.total = b.total ∧ b.elements < a.elements) ∨ (a.total = b.total ∧ ¬ b.elements < a.elements) := by omega
  rcases h3 with p0 | ⟨p0, p1⟩ | ⟨p1, p2⟩ | ⟨p1, p2⟩
  · have HE := hn true (by unfold betB; simp [p0])
    clear hn
    go_enter Try.func71, Try.ntmps71
    go_wp2_with fail
    go_ret
    exact ⟨ret_bool HE.out.symm, HB.out⟩
  · have HE := hn false (by unfold betB; simp [p0, p1])
    have q1 : (a.total == b.total) = false := by simpa using p1
    clear hn
    go_enter Try.func71, Try.ntmps71
    go_wp2_with fail
    go_ret
    exact ⟨ret_bool HE.out.symm, HB.out⟩
  · have HE := hn true (by unfold betB; simp [p1, p2])
    have p0 : ¬ b.total < a.total := by omega
    have q1 : (a.total == b.total) = true := by simpa using p1
    clear hn p1
    go_enter Try.func71, Try.ntmps71
    go_wp2_with fail
    go_ret
    exact ⟨ret_bool HE.out.symm, HB.out⟩
  · have HE := hn false (by unfold betB; simp [p1]; omega)
    have p0 : ¬ b.total < a.total := by omega
    have q1 : (a.total == b.total) = true := by simpa using p1
    clear hn p1
    go_enter Try.func71, Try.ntmps71
    go_wp2_with fail
    go_ret
    exact ⟨ret_bool HE.out.symm, HB.out⟩
set_option maxRecDepth 100000 in
set_option maxHeartbeats 1000000 in
theorem other_any (s o : St) (D : Nat) (W : World) (hD : Has W D 82 (stc s)) : Calls Try.prog 70 #[stv o, .pointer (some ⟨D, 0, none⟩)] W (BoolPost (betB o s) W) := by
  have HB : Hid (Below W.heap.size W (W.alloc (.cells (stc o) 82)) ∧ Has (W.alloc (.cells (stc o) 82)) W.heap.size 82 (stc o) ∧ Has (W.alloc (.cells (stc o) 82)) D 82 (stc s)) := Lib.hid ⟨below_one W _, Has.new W 82 _, hD.alloc _⟩
  have HT := Lib.hid (fun w => better_any o s w)
  unfold stv at *
  clear hD
  go_enter Try.func70, Try.ntmps70
  go_upto_region 1 with fail
  generalize W.alloc (.cells (stc o) 82) = w0 at HB ⊢
  have x0 : w0.cell? ⟨W.heap.size, 0, none⟩ = some (.int .i64 o.total) := HB.out.2.1.cell 0
  have x1 : w0.cell? ⟨W.heap.size, 1, none⟩ = some (.int .i64 o.elements) := HB.out.2.1.cell 1
  have y0 : w0.cell? ⟨D, 0, none⟩ = some (.int .i64 s.total) := HB.out.2.2.cell 0
  have y1 : w0.cell? ⟨D, 1, none⟩ = some (.int .i64 s.elements) := HB.out.2.2.cell 1
  go_wp2_with fail
  refine (HT.out _).mono ?_
  rintro e w1 ⟨rfl, hb1⟩
  have H1 := Lib.hid (HB.out.1.trans (hb1.mono HB.out.1.size))
  clear hb1 x0 x1 y0 y1
  go_wp2_with fail
  go_ret
  exact ⟨rfl, H1.out⟩
theorem bet_succ {l : List St} {s : St} {k : Nat} (h : k < l.length) : (l.take (k + 1)).countP (fun o => betB o s) = (l.take k).countP (fun o => betB o s) + (if betB l[k] s then 1 else 0) := by
  rw [List.take_succ_eq_append_getElem h, List.countP_append]
  simp [List.countP_cons]
set_option maxRecDepth 100000 in
set_option maxHeartbeats 1000000 in
theorem count_any (s : St) (D : Nat) (l : List St) (A : Option Addr) (c : Nat) (W : World) (hD : Has W D 82 (stc s)) (ha : StRow W W.heap.size A l) (hl : l.length ≤ 1000000) :
    Calls Try.prog 69 #[.slice A l.length c, .func (.func 70) #[] #[.pointer (some ⟨D, 0, none⟩)]] W (IntPost (l.countP fun o => betB o s : Nat) W) := by
  have HA := Lib.hid (And.intro ha hD)
  have HF := Lib.hid (fun (o : St) w h => other_any s o D w h)
  unfold stv at HF
  clear ha hD
  go_enter Try.func69, Try.ntmps69
  go_wp2_with fail
  go_loopg [10, 5] l.length (fun gk i n wr => ∃ k : Nat, k ≤ l.length ∧ l.length - k ≤ gk ∧ i = .int .i64 k ∧ n = .int .i64 ((l.take k).countP fun o => betB o s : Nat) ∧ Hid (Below W.heap.size W wr))
  case atStart => exact ⟨0, Nat.zero_le _, Nat.le_refl _, rfl, rfl, Lib.hid (Below.refl _ _)⟩
  case round =>
    obtain ⟨k, hk, hgk, rfl, rfl, HW⟩ := hrel
    by_cases hlt : k < l.length
    rotate_left
    · have hge : ¬ (k : Int) < l.length := by omega
      have HE : Hid ((l.take k).countP (fun o => betB o s) = l.countP fun o => betB o s) := Lib.hid (by rw [List.take_of_length_le (by omega)])
      generalize (l.take k).countP (fun o => betB o s) = q at *
      go_wp2_with fail
      go_ret
      exact ⟨ret_int (by rw [HE.out]), HW.out⟩
    have hlt2 : (k : Int) < l.length := by omega
    obtain ⟨g, o, hg, hgs, c0, c1⟩ := (HA.out.1.below HW.out) k hlt
    have hq : (l.take k).countP (fun o => betB o s) ≤ k := Nat.le_trans List.countP_le_length (by rw [List.length_take]; omega)
    have HN := Lib.hid (bet_succ (s := s) hlt)
    obtain ⟨q, hqe⟩ : ∃ q, q = (l.take k).countP (fun o => betB o s) := ⟨_, rfl⟩
    obtain ⟨x, hx⟩ : ∃ x, x = l[k] := ⟨_, rfl⟩
    rw [← hqe] at hq HN ⊢
    rw [← hx] at c0 c1 HN
    have HX : Hid (Below W.heap.size W (wr.alloc (.cells (stc x) 82)) ∧ Has (wr.alloc (.cells (stc x) 82)) wr.heap.size 82 (stc x) ∧ Has (wr.alloc (.cells (stc x) 82)) D 82 (stc s)) :=
      Lib.hid ⟨HW.out.trans ((below_one _ _).mono HW.out.size), Has.new _ _ _, (HA.out.2.below HW.out HA.out.2.lt).alloc _⟩
    subst hg
    clear hqe hx hgs
    go_upto_region 5 with fail
    clear c0 c1
    generalize wr.alloc (.cells (stc x) 82) = w2 at HX ⊢
    generalize wr.heap.size = E at HX ⊢
    have z0 : w2.cell? ⟨E, 0, none⟩ = some (.int .i64 x.total) := HX.out.2.1.cell 0
    have z1 : w2.cell? ⟨E, 1, none⟩ = some (.int .i64 x.elements) := HX.out.2.1.cell 1
    go_wp2_with fail
    refine (HF.out x _ HX.out.2.2).mono ?_
    rintro e w3 ⟨rfl, hb3⟩
    have H3 := Lib.hid (HX.out.1.trans (hb3.mono HX.out.1.size))
    clear hb3 z0 z1
    cases hfl : betB x s <;> rw [hfl] at HN
    · have HN2 := Lib.hid (show (l.take (k + 1)).countP (fun o => betB o s) = q from by rw [HN.out]; rfl)
      clear hfl
      go_wp2_with fail
      go_roundg (l.length - (k + 1))
      case measure => omega
      case rel => exact ⟨k + 1, by omega, Nat.le_refl _, by go_num, by rw [HN2.out], H3⟩
    · have HN2 := Lib.hid (show (l.take (k + 1)).countP (fun o => betB o s) = q + 1 from by rw [HN.out]; rfl)
      clear hfl
      go_wp2_with fail
      go_roundg (l.length - (k + 1))
      case measure => omega
      case rel => exact ⟨k + 1, by omega, Nat.le_refl _, by go_num, by rw [HN2.out]; go_num, H3⟩
set_option maxRecDepth 100000 in
set_option maxHeartbeats 1000000 in
theorem place_any (s : St) (l : List St) (A : Option Addr) (c : Nat) (W : World) (ha : StRow W W.heap.size A l) (hl : l.length ≤ 1000000) :
    Calls Try.prog 45 #[stv s, .slice A l.length c] W (IntPost (plP s l) W) := by
  have HB : Hid (Below W.heap.size W (W.alloc (.cells (stc s) 82)) ∧ Has (W.alloc (.cells (stc s) 82)) W.heap.size 82 (stc s)) := Lib.hid ⟨below_one W _, Has.new W 82 _⟩
  have HC := Lib.hid (fun w (hb : Below W.heap.size W w) (h : Has w W.heap.size 82 (stc s)) => count_any s W.heap.size l A c w h ((ha.below hb).more hb.size) hl)
  have hcl : l.countP (fun o => betB o s) ≤ l.length := List.countP_le_length
  have HV : Hid (plP s l = 1 + (l.countP fun o => betB o s : Nat)) := Lib.hid rfl
  generalize l.countP (fun o => betB o s) = q at *
  generalize plP s l = V at *
  have hmf : ∀ (fn : Fn) (first cap : Array Value) (w : World), (Instr.makeFunc fn first cap).run Try.prog w = .ok (.func fn first cap) w := fun _ _ _ _ => rfl
  unfold stv at *
  clear ha
  go_enter Try.func45, Try.ntmps45
  go_upto_region 1 with fail
  generalize W.alloc (.cells (stc s) 82) = w0 at HB ⊢
  go_wp2_with fail
  refine (HC.out _ HB.out.1 HB.out.2).mono ?_
  rintro e w1 ⟨rfl, hb1⟩
  have H1 := Lib.hid (HB.out.1.trans (hb1.mono HB.out.1.size))
  clear hb1
  go_wp2_with fail
  go_ret
  exact ⟨ret_int HV.out.symm, H1.out⟩
/-- a standing -/
def StPost (s : St) (W : World) (e : Ending) (W' : World) : Prop := e = .returned (stv s) ∧ Below W.heap.size W W'
theorem res44 {w : World} {D : Nat} {a b : Value} {tmps : Array Value} (h : Has w D 82 #[a, b]) (h4 : tmps[2]?.getD undef = .pointer (some ⟨D, 0, none⟩)) :
    (results Try.f44 tmps).run Try.prog w = .ok (.agg #[a, b]) w := by
  have c0 := h.cell 0; have c1 := h.cell 1
  simp at c0 c1
  simp [results, Try.results44, go_sem, h4, c0, c1]
set_option maxRecDepth 100000 in
set_option maxHeartbeats 1000000 in
theorem standingOf_any (x : Sc) (W : World) : Calls Try.prog 44 #[scv x] W (StPost (stOf x) W) := by
  have HB : Hid (Below W.heap.size W ((W.alloc (.cells (scc x) 33)).alloc (.cells #[.int .i64 0, .int .i64 0] 82)) ∧ Has ((W.alloc (.cells (scc x) 33)).alloc (.cells #[.int .i64 0, .int .i64 0] 82)) W.heap.size 33 (scc x) ∧ Has ((W.alloc (.cells (scc x) 33)).alloc (.cells #[.int .i64 0, .int .i64 0] 82)) (W.heap.size + 1) 82 #[.int .i64 0, .int .i64 0]) := Lib.hid ⟨(below_one W _).alloc (by simp) _, (Has.new _ _ _).alloc _, has_newAt (by simp)⟩
  unfold scv
  go_enter Try.func44, Try.ntmps44
  go_upto_region 1 with fail
  generalize (W.alloc (.cells (scc x) 33)).alloc (.cells #[.int .i64 0, .int .i64 0] 82) = w0 at HB ⊢
  have x0 : w0.cell? ⟨W.heap.size, 0, none⟩ = some (.int .i64 x.elements) := HB.out.2.1.cell 0
  have x3 : w0.cell? ⟨W.heap.size, 3, none⟩ = some (.int .i64 x.total) := HB.out.2.1.cell 3
  have z0 : w0.cell? ⟨W.heap.size + 1, 0, none⟩ = some (.int .i64 0) := HB.out.2.2.cell 0
  have z1 : w0.cell? ⟨W.heap.size + 1, 1, none⟩ = some (.int .i64 0) := HB.out.2.2.cell 1
  have f0 := HB.out.2.2.frozen 0
  have f1 := HB.out.2.2.frozen 1
  go_wp2_with fail
  refine bodyPost_ret (v := .agg #[.int .i64 x.total, .int .i64 x.elements]) (res44 (D := W.heap.size + 1) ((HB.out.2.2.set 0 (.int .i64 x.total)).set 1 (.int .i64 x.elements)) rfl) rfl ?_
  exact ⟨rfl, (HB.out.1.setCell (by simp only; omega) _).setCell (by simp only; omega) _⟩
end Go.Proofs.Ytmclchaalmonnaa
