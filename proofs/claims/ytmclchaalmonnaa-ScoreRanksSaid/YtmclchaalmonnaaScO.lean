/- Contracts: program. -/
import Derived.Test.YtmclchaalmonnaaScN
namespace Go.Proofs.Ytmclchaalmonnaa
open Go.RowKit
abbrev scc (x : Sc) : Array Value := #[.int .i64 x.elements, .int .i64 x.parts, .int .i64 x.off, .int .i64 x.total]
def scv (x : Sc) : Value := .agg (scc x)
def ScPost (x : Sc) (W : World) (e : Ending) (W' : World) : Prop := e = .returned (scv x) ∧ Below W.heap.size W W'
theorem vals_bd {r : Ru} {s : Sk} (hr : VR r) (hs : VS r s) : ∀ x ∈ valsP r s, -3000000 ≤ x ∧ x ≤ 3000000 := by
  intro x hx
  obtain ⟨c, hc, rfl⟩ := List.mem_map.1 hx
  obtain ⟨h1, h2, -⟩ := hs.c c hc
  unfold valP
  split
  · refine val_bd h1 ?_
    have hlt : c.element.toNat < r.bases.length := by omega
    rw [List.getD_eq_getElem?_getD, List.getElem?_eq_getElem hlt]
    exact hr.b _ (List.getElem_mem hlt)
  · omega
theorem parts_bd {r : Ru} {s : Sk} (hr : VR r) (hs : VS r s) : ∀ x ∈ s.parts.map (partP r.factor), -1000000 ≤ x ∧ x ≤ 1000000 := by
  intro x hx
  obtain ⟨m, hm, rfl⟩ := List.mem_map.1 hx
  exact part_bd (hs.p m hm) hr.f
/-- what program has boxed -/
structure PW (W w : World) (r : Ru) (A : Option Addr) (c : Nat) (s : Sk) (AC AP : Option Addr) (cc cp : Nat) (x : Sc) : Prop where
  b : Below W.heap.size W w
  fr : Has w W.heap.size 24 (ruc r A c)
  fs : Has w (W.heap.size + 1) 28 (skc s AC AP cc cp)
  fx : Has w (W.heap.size + 1 + 1) 33 (scc x)
theorem PW.step {W w w' : World} {r : Ru} {A : Option Addr} {c : Nat} {s : Sk} {AC AP : Option Addr} {cc cp : Nat} {x : Sc} (h : PW W w r A c s AC AP cc cp x) (hb : Below w.heap.size w w') : PW W w' r A c s AC AP cc cp x := ⟨h.b.trans (hb.mono h.b.size), h.fr.below hb h.fr.lt, h.fs.below hb h.fs.lt, h.fx.below hb h.fx.lt⟩
def put4 (w : World) (D : Nat) (a b c d : Value) : World := (((w.setCell ⟨D, 0, none⟩ a).setCell ⟨D, 1, none⟩ b).setCell ⟨D, 2, none⟩ c).setCell ⟨D, 3, none⟩ d
theorem has_put4 {w : World} {D : Nat} {t : TypeId} {a b c d a' b' c' d' : Value} (h : Has w D t #[a, b, c, d]) : Has (put4 w D a' b' c' d') D t #[a', b', c', d'] := by
  have h1 : Has (w.setCell ⟨D, 0, none⟩ a') D t #[a', b, c, d] := h.set 0 a'
  have h2 : Has ((w.setCell ⟨D, 0, none⟩ a').setCell ⟨D, 1, none⟩ b') D t #[a', b', c, d] := h1.set 1 b'
  have h3 : Has (((w.setCell ⟨D, 0, none⟩ a').setCell ⟨D, 1, none⟩ b').setCell ⟨D, 2, none⟩ c') D t #[a', b', c', d] := h2.set 2 c'
  exact h3.set 3 d'
theorem below_put4 {W w : World} {D B : Nat} {a b c d : Value} (h : Below B W w) (hD : B ≤ D) : Below B W (put4 w D a b c d) := (((h.setCell hD _).setCell hD _).setCell hD _).setCell hD _
theorem res40 {w : World} {D : Nat} {a b c d : Value} {tmps : Array Value} (h : Has w D 33 #[a, b, c, d]) (h4 : tmps[4]?.getD undef = .pointer (some ⟨D, 0, none⟩)) :
    (results Try.f40 tmps).run Try.prog w = .ok (.agg #[a, b, c, d]) w := by
  have c0 := h.cell 0; have c1 := h.cell 1; have c2 := h.cell 2; have c3 := h.cell 3
  simp at c0 c1 c2 c3
  simp [results, Try.results40, go_sem, h4, c0, c1, c2, c3]
set_option maxRecDepth 100000 in
set_option maxHeartbeats 2000000 in
theorem program_any (r : Ru) (A : Option Addr) (c : Nat) (s : Sk) (AC AP : Option Addr) (cc cp : Nat) (W : World) (hr : RuR W W.heap.size r A) (hs : SkR W W.heap.size s AC AP) (hvr : VR r) (hvs : VS r s) :
    Calls Try.prog 40 #[ruv r A c, skv s AC AP cc cp] W (ScPost (progP r s) W) := by
  have HB : Hid (PW W (((W.alloc (.cells (ruc r A c) 24)).alloc (.cells (skc s AC AP cc cp) 28)).alloc (.cells (scc zeroSc) 33)) r A c s AC AP cc cp zeroSc) :=
    Lib.hid ⟨((below_one W _).alloc (by simp) _).alloc (by simp; omega) _, ((Has.new _ _ _).alloc _).alloc _, (has_newAt (by simp)).alloc _, has_newAt (by simp)⟩
  have HV := Lib.hid (fun w (h : Below W.heap.size W w) => values_any r A c s AC AP cc cp w ((hr.below h).more h.size) ((hs.below h).more h.size) hvr hvs)
  have hvb := vals_bd hvr hvs
  have hpb := parts_bd hvr hvs
  have hnc := hvs.nc
  have hnp := hvs.np
  have hvl : (valsP r s).length = s.calls.length := by simp [valsP]
  have HT := Lib.hid (fun A c w (h : IRow w w.heap.size A (valsP r s)) => total_any (valsP r s) A c w h (by omega) (fun x hx => by have := hvb x hx; omega))
  have HP := Lib.hid (fun w (h : Below W.heap.size W w) (hR : Has w W.heap.size 24 (ruc r A c)) => parts_any r A c W.heap.size s.parts AP cp w hR hvr.f ((hs.p.below h).more h.size) (by omega) hvs.p)
  have HO := Lib.hid (fun w (h : Below W.heap.size W w) => off_any s AC AP cc cp w ((hs.below h).more h.size) (by omega) hvs.o)
  have hvsum := sum_bd hvb
  have hpsum := sum_bd hpb
  simp only [List.length_map] at hpsum
  rw [hvl] at hvsum
  have hof : 0 ≤ offP s ∧ offP s ≤ 1000000 := by
    have hf : fallsP s.calls ≤ s.calls.length := List.countP_le_length
    have := hvs.o
    unfold offP
    omega
  have HX : Hid (progP r s = ⟨(valsP r s).sum, (s.parts.map (partP r.factor)).sum, offP s, max ((valsP r s).sum + (s.parts.map (partP r.factor)).sum - offP s) 0⟩) := Lib.hid rfl
  obtain ⟨X, hX⟩ : ∃ X, X = progP r s := ⟨_, rfl⟩
  rw [← hX] at HX ⊢
  unfold RowPost at HV
  unfold IntPost at HT HP HO
  have HIR : Hid (∀ w g, Has w g 3 (ils (valsP r s)) → IRow w w.heap.size (some ⟨g, 0, none⟩) (valsP r s)) := Lib.hid fun w g h k hk => ⟨g, 0, rfl, h.lt, by rw [h.cell, Nat.zero_add, ils_at hk]⟩
  obtain ⟨vl, hvl'⟩ : ∃ vl, vl = valsP r s := ⟨_, rfl⟩
  rw [← hvl'] at HV HT HIR HX hvsum hvl
  generalize (s.parts.map (partP r.factor)).sum = P at *
  generalize vl.sum = V at *
  generalize offP s = O at *
  clear hr hs hvr hvs hvb hpb hX hvl' hvl
  have hmf : ∀ (fn : Fn) (first cap : Array Value) (w : World), (Instr.makeFunc fn first cap).run Try.prog w = .ok (.func fn first cap) w := fun _ _ _ _ => rfl
  unfold ruv skv at *
  go_enter Try.func40, Try.ntmps40
  go_upto_region 1 with fail
  have HB' : Hid (PW W (((W.alloc (.cells (ruc r A c) 24)).alloc (.cells (skc s AC AP cc cp) 28)).alloc (.cells #[.int .i64 0, .int .i64 0, .int .i64 0, .int .i64 0] 33)) r A c s AC AP cc cp zeroSc) := HB
  clear HB
  generalize ((W.alloc (.cells (ruc r A c) 24)).alloc (.cells (skc s AC AP cc cp) 28)).alloc (.cells #[.int .i64 0, .int .i64 0, .int .i64 0, .int .i64 0] 33) = w0 at HB' ⊢
  have x0 : w0.cell? ⟨W.heap.size, 0, none⟩ = some (.slice A r.bases.length c) := HB'.out.fr.cell 0
  have x1 : w0.cell? ⟨W.heap.size, 1, none⟩ = some (.int .i64 r.factor) := HB'.out.fr.cell 1
  have x2 : w0.cell? ⟨W.heap.size, 2, none⟩ = some (.int .i64 r.most) := HB'.out.fr.cell 2
  have y0 : w0.cell? ⟨W.heap.size + 1, 0, none⟩ = some (.slice AC s.calls.length cc) := HB'.out.fs.cell 0
  have y1 : w0.cell? ⟨W.heap.size + 1, 1, none⟩ = some (.slice AP s.parts.length cp) := HB'.out.fs.cell 1
  have y2 : w0.cell? ⟨W.heap.size + 1, 2, none⟩ = some (.int .i64 s.over) := HB'.out.fs.cell 2
  go_wp2_with fail
  refine (HV.out _ HB'.out.b).mono ?_
  rintro e w1 ⟨g, hg, rfl, hh, hb1⟩
  have H1 := Lib.hid (And.intro (HB'.out.step hb1) (HIR.out _ _ hh))
  clear hg hh hb1 x0 x1 x2 y0 y1 y2 HB' HV HIR
  go_wp2_with fail
  refine (HT.out _ _ _ H1.out.2).mono ?_
  rintro e w2 ⟨rfl, hb2⟩
  have H2 := Lib.hid (H1.out.1.step hb2)
  clear hb2 H1 HT
  have y1 : w2.cell? ⟨W.heap.size + 1, 1, none⟩ = some (.slice AP s.parts.length cp) := H2.out.fs.cell 1
  go_wp2_with fail
  refine (HP.out _ H2.out.b H2.out.fr).mono ?_
  rintro e w3 ⟨rfl, hb3⟩
  have H3 := Lib.hid (H2.out.step hb3)
  clear hb3 H2 HP y1
  have y0 : w3.cell? ⟨W.heap.size + 1, 0, none⟩ = some (.slice AC s.calls.length cc) := H3.out.fs.cell 0
  have y1 : w3.cell? ⟨W.heap.size + 1, 1, none⟩ = some (.slice AP s.parts.length cp) := H3.out.fs.cell 1
  have y2 : w3.cell? ⟨W.heap.size + 1, 2, none⟩ = some (.int .i64 s.over) := H3.out.fs.cell 2
  go_wp2_with fail
  refine (HO.out _ H3.out.b).mono ?_
  rintro e w4 ⟨rfl, hb4⟩
  have H4 := Lib.hid (H3.out.step hb4)
  clear hb4 H3 HO y0 y1 y2
  have z0 : w4.cell? ⟨W.heap.size + 1 + 1, 0, none⟩ = some (.int .i64 0) := H4.out.fx.cell 0
  have z1 : w4.cell? ⟨W.heap.size + 1 + 1, 1, none⟩ = some (.int .i64 0) := H4.out.fx.cell 1
  have z2 : w4.cell? ⟨W.heap.size + 1 + 1, 2, none⟩ = some (.int .i64 0) := H4.out.fx.cell 2
  have z3 : w4.cell? ⟨W.heap.size + 1 + 1, 3, none⟩ = some (.int .i64 0) := H4.out.fx.cell 3
  have f0 := H4.out.fx.frozen 0
  have f1 := H4.out.fx.frozen 1
  have f2 := H4.out.fx.frozen 2
  have f3 := H4.out.fx.frozen 3
  go_wp2_with fail
  all_goals
    refine bodyPost_ret (v := .agg #[.int .i64 V, .int .i64 P, .int .i64 O, .int .i64 (max (V + P - O) 0)]) (res40 (D := W.heap.size + 1 + 1) ?_ rfl) rfl ?_
    · first
      | exact has_put4 H4.out.fx
      | (rw [show max (V + P - O) 0 = V + P - O by omega]; exact has_put4 H4.out.fx)
      | (rw [show max (V + P - O) 0 = 0 by omega]; exact has_put4 H4.out.fx)
    · exact ⟨by rw [HX.out]; rfl, below_put4 H4.out.b (by omega)⟩
end Go.Proofs.Ytmclchaalmonnaa
