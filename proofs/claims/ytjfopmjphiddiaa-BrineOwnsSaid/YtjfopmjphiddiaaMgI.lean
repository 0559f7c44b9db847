/- warm: heat comes into a pipe. -/
import Derived.Test.YtjfopmjphiddiaaMgH
import Derived.RecoverIn
namespace Go.Proofs.Ytjfopmjphiddiaa
open Go.RowKit Go.Shelf

def shr (heat all : Int) (s : Sl) : Int := heat * s.v / all
def shrs (heat all : Int) : List Sl → Int
  | [] => 0
  | s :: t => shr heat all s + shrs heat all t
def warmK (heat all : Int) (l : List Sl) (k : Nat) : List Sl := (l.take k).map (fun s => ⟨s.v, s.h + shr heat all s⟩) ++ l.drop k
def warmL (heat : Int) (l : List Sl) : List Sl :=
  (warmK heat (vol l) l (l.length - 1)).set (l.length - 1) ⟨(l.getD (l.length - 1) sl0).v, (l.getD (l.length - 1) sl0).h + (heat - shrs heat (vol l) (l.take (l.length - 1)))⟩
theorem shrs_app (heat all : Int) (a b : List Sl) : shrs heat all (a ++ b) = shrs heat all a + shrs heat all b := by
  induction a with
  | nil => simp [shrs]
  | cons s t ih => simp only [List.cons_append, shrs, ih]; omega
theorem shrs_le (heat all : Int) (h0 : 0 ≤ heat) (ha : 1 ≤ all) (l : List Sl) (hl : okL l) : 0 ≤ shrs heat all l ∧ shrs heat all l * all ≤ heat * vol l := by
  induction l with
  | nil => simp [shrs, vol]
  | cons s t ih =>
    obtain ⟨h1, h2⟩ := okL_cons.1 hl
    obtain ⟨i1, i2⟩ := ih h2
    have m0 : 0 ≤ heat * s.v := Int.mul_nonneg h0 (by have := h1.1; omega)
    have d0 : 0 ≤ shr heat all s := Int.ediv_nonneg m0 (by omega)
    have d1 : shr heat all s * all ≤ heat * s.v := Int.ediv_mul_le _ (by omega)
    simp only [shrs, vol]
    refine ⟨by omega, ?_⟩
    rw [Int.add_mul, Int.mul_add]
    omega
theorem shrs_bd {heat : Int} (h0 : 0 ≤ heat) {l : List Sl} (hl : okL l) (hne : 1 ≤ vol l) (k : Nat) : 0 ≤ shrs heat (vol l) (l.take k) ∧ shrs heat (vol l) (l.take k) ≤ heat := by
  obtain ⟨a, b⟩ := shrs_le heat (vol l) h0 hne (l.take k) (okL_take hl k)
  refine ⟨a, ?_⟩
  have c := (vol_take_le hl k).2
  have d : heat * vol (l.take k) ≤ heat * vol l := Int.mul_le_mul_of_nonneg_left c h0
  exact Int.le_of_mul_le_mul_right (Int.le_trans b d) (by omega)
theorem warmK_len (heat all : Int) (l : List Sl) (k : Nat) : (warmK heat all l k).length = l.length := by simp [warmK]; omega
theorem warmK_step (heat all : Int) (l : List Sl) (k : Nat) (h : k < l.length) : (warmK heat all l k).set k ⟨l[k].v, l[k].h + shr heat all l[k]⟩ = warmK heat all l (k + 1) := by
  unfold warmK
  apply List.ext_getElem
  · simp; omega
  · intro i h1 h2
    rw [List.getElem_set]
    by_cases e : k = i
    · subst e
      rw [if_pos rfl, List.getElem_append_left (by simp; omega)]
      simp
    · rw [if_neg e]
      by_cases hi : i < k
      · rw [List.getElem_append_left (by simp; omega), List.getElem_append_left (by simp; omega)]
        simp
      · rw [List.getElem_append_right (by simp; omega), List.getElem_append_right (by simp; omega)]
        simp only [List.length_map, List.length_take, List.getElem_drop]
        congr 1; omega
theorem warmK_at (heat all : Int) (l : List Sl) (k : Nat) (h : k < l.length) : (warmK heat all l k)[k]'(by rw [warmK_len]; exact h) = l[k] := by
  unfold warmK
  rw [List.getElem_append_right (by simp; omega)]
  simp only [List.length_map, List.length_take, List.getElem_drop]
  congr 1; omega
theorem warmK_0 (heat all : Int) (l : List Sl) : warmK heat all l 0 = l := by simp [warmK]
theorem shrs_succ (heat all : Int) (l : List Sl) (k : Nat) (h : k < l.length) : shrs heat all (l.take (k + 1)) = shrs heat all (l.take k) + shr heat all l[k] := by
  rw [List.take_succ_eq_append_getElem h, shrs_app]; simp [shrs]
theorem QHas.heat {W : World} {q : Qu} (h : QHas W q) {k : Nat} (hk : k < q.l.length) (x : Int) : QHas (W.setCell ⟨q.g, q.off + k * 2 + 1, none⟩ (iv x)) ⟨q.room, q.g, q.off, q.cap, q.l.set k ⟨q.l[k].v, x⟩⟩ := by
  obtain ⟨⟨cur, hc, h1, h2⟩, h3, h4⟩ := h
  refine ⟨⟨_, hc.set _ _, by simpa using h1, fun i hi => ?_⟩, by simpa using h3, h4⟩
  have hi : i < q.l.length := by simpa using hi
  dsimp only
  obtain ⟨x0, x1⟩ := h2 i hi
  rw [List.getElem_set]
  by_cases e : k = i
  · subst e
    rw [if_pos rfl]
    rw [Array.getElem?_setIfInBounds_ne (by omega), Array.getElem?_setIfInBounds_self_of_lt (by omega)]
    exact ⟨x0, rfl⟩
  · rw [if_neg e, Array.getElem?_setIfInBounds_ne (by omega), Array.getElem?_setIfInBounds_ne (by omega)]
    exact ⟨x0, x1⟩

def WarmIn (Bp o : Nat) (q : Qu) (heat : Int) (W : World) (k : Nat) (wr : World) : Prop :=
  QHas wr ⟨q.room, q.g, q.off, q.cap, warmK heat (vol q.l) q.l k⟩ ∧ Only (fun k => k = q.g) W wr ∧ wr.cell? ⟨Bp, o + 1, none⟩ = some (.slice (some ⟨q.g, q.off, none⟩) q.l.length q.cap)

set_option maxRecDepth 100000 in
set_option maxHeartbeats 4000000 in
theorem warmp_any (Bp o : Nat) (q : Qu) (heat : Int) (W : World) (hc : W.cell? ⟨Bp, o + 1, none⟩ = some q.sv) (hq : QHas W q) (hok : okL q.l) (hv : vol q.l ≤ 1048576) (hh : hea q.l ≤ 2199023255552) (h0 : 0 ≤ heat) (h1 : heat ≤ 4294967296) (m : Nat) (hm : q.l.length = m + 1) (hne : q.g ≠ Bp) :
    Calls Try.prog 70 #[.pointer (some ⟨Bp, o, none⟩), iv heat] W fun e W' => (∃ v, e = .returned v) ∧ QHas W' ⟨q.room, q.g, q.off, q.cap, warmL heat q.l⟩ ∧ Only (fun k => k = q.g) W W' := by
  have hlt := litres_any Bp o q W hc hq hok (by omega)
  have hvl := vol_len hok
  have hmx := hq.mx
  have hle := hq.le
  unfold maxLen at hmx
  have HQ := Lib.hid (And.intro hq (And.intro hok (And.intro hh (And.intro h0 (And.intro h1 (And.intro hv hvl))))))
  have HL := Lib.hid hlt
  unfold Qu.sv at hc
  rw [hm] at hc
  have HM := Lib.hid hm
  have hm1 : m + 1 ≤ 9223372036854775807 := by omega
  clear hq hok hh h0 h1 hlt hv hvl hmx hle hm
  go_enter Try.func70, Try.ntmps70
  go_wp2_with fail
  refine HL.out.mono ?_
  rintro e w1 ⟨rfl, hb1⟩
  have hc1 := cell_below hc hb1
  go_wp2
  have hW1 : WarmIn Bp o q heat W 0 w1 := ⟨by rw [warmK_0]; exact HQ.out.1.below hb1, Only.of_below hb1, by rw [hc1, HM.out]⟩
  have H1 := Lib.hid hW1
  clear hW1 hc1 hc hb1 HL
  go_loopw [5, 19] (fun t i wr => ∃ k : Nat, k ≤ m ∧ i = .int .i64 k ∧ t = .int .i64 (heat - shrs heat (vol q.l) (q.l.take k)) ∧ WarmIn Bp o q heat W k wr) (fun _ i _ => m - (intOf i).toNat)
  case atStart => exact ⟨0, Nat.zero_le _, rfl, by simp [shrs], H1.out⟩
  case round =>
    obtain ⟨k, hk, rfl, rfl, hw⟩ := hrel
    have hkl : k < q.l.length := by rw [HM.out]; omega
    obtain ⟨hq, hok, hh, h0, h1, hv, hvl⟩ := HQ.out
    obtain ⟨a1, a2, a3⟩ := hw
    obtain ⟨cur, b1, b2, b3⟩ := a1.blk
    have hwk := warmK_at heat (vol q.l) q.l k hkl
    have b4 := b3 k (by dsimp only; rw [warmK_len]; exact hkl)
    dsimp only at b4 b1 b2
    rw [hwk] at b4
    have c0 : wr.cell? ⟨q.g, q.off + k * 2, none⟩ = some (.int .i64 q.l[k].v) := (b1.cell _).trans b4.1
    have c1 : wr.cell? ⟨q.g, q.off + k * 2 + 1, none⟩ = some (.int .i64 q.l[k].h) := (b1.cell _).trans b4.2
    have f1 := b1.frozen (q.off + k * 2 + 1)
    have gl := b1.lt
    rw [HM.out] at a3
    have hle := hq.le
    rw [HM.out] at hle
    have hmem := okL_mem_vol hok (List.getElem_mem hkl)
    have hsk := hok _ (List.getElem_mem hkl)
    have hsb := shrs_bd h0 hok (by omega : 1 ≤ vol q.l) k
    have HW := Lib.hid (And.intro a1 (And.intro a2 a3))
    by_cases hlt : k < m
    · have hlt' : (k : Int) < m := by omega
      have hlm : (k : Int) < (m : Int) + 1 := by omega
      have hsb2 := shrs_bd h0 hok (by omega : 1 ≤ vol q.l) (k + 1)
      have hss := shrs_succ heat (vol q.l) q.l k hkl
      have hm0 : 0 ≤ heat * q.l[k].v := Int.mul_nonneg h0 (by have := hsk.1; omega)
      have hm1 : heat * q.l[k].v ≤ 4294967296 * 1048576 := Int.mul_le_mul h1 (by omega) (by have := hsk.1; omega) (by omega)
      have hs0 : 0 ≤ shr heat (vol q.l) q.l[k] := Int.ediv_nonneg hm0 (by omega)
      have hn0 := (shrs_bd h0 hok (by omega : 1 ≤ vol q.l) k).1
      have w1 : IntKind.i64.wrap (heat * q.l[k].v) = heat * q.l[k].v := IntWalk.i64_in _ (by omega)
      have w2 : (heat * q.l[k].v).tdiv (vol q.l) = shr heat (vol q.l) q.l[k] := Int.tdiv_eq_ediv_of_nonneg hm0
      have w3 : IntKind.i64.wrap (shr heat (vol q.l) q.l[k]) = shr heat (vol q.l) q.l[k] := IntWalk.i64_in _ (by omega)
      have w4 : IntKind.i64.wrap (q.l[k].h + shr heat (vol q.l) q.l[k]) = q.l[k].h + shr heat (vol q.l) q.l[k] := IntWalk.i64_in _ (by have := hsk.2; omega)
      have w5 : IntKind.i64.wrap (heat - shrs heat (vol q.l) (q.l.take k) - shr heat (vol q.l) q.l[k]) = heat - shrs heat (vol q.l) (q.l.take k) - shr heat (vol q.l) q.l[k] := IntWalk.i64_in _ (by omega)
      have w6 : vol q.l ≠ 0 := by omega
      have HS := Lib.hid hss
      clear hq hok hh h0 h1 hv hvl a1 a2 b1 b2 b3 b4 hwk hle hmem hsk hsb hsb2 hss hm0 hm1 hs0 hn0
      go_wp2
      go_roundw
      case rel =>
        refine ⟨k + 1, by omega, by go_num, ?_, ?_⟩
        · rw [HS.out]; first | rfl | (congr 1; omega) | go_num
        · obtain ⟨a1, a2, a3⟩ := HW.out
          have hk2 : k < (warmK heat (vol q.l) q.l k).length := by rw [warmK_len]; exact hkl
          have hh := a1.heat (k := k) hk2 (q.l[k].h + shr heat (vol q.l) q.l[k])
          dsimp only at hh
          rw [warmK_at heat (vol q.l) q.l k hkl, warmK_step heat (vol q.l) q.l k hkl] at hh
          refine ⟨hh, Only.setCell a2 (.inl rfl) _, ?_⟩
          rw [World.cell?_setCell_other _ _ _ _ (by intro h; injection h with h; exact hne h)]
          rw [HM.out]; exact a3
      case measure => simp [intOf]; omega
    · obtain rfl : k = m := by omega
      have w4 : IntKind.i64.wrap (q.l[k].h + (heat - shrs heat (vol q.l) (q.l.take k))) = q.l[k].h + (heat - shrs heat (vol q.l) (q.l.take k)) := IntWalk.i64_in _ (by have := hsk.2; omega)
      have hk0 : (k : Int) < (k : Int) + 1 := by omega
      clear hq hok hh h0 h1 hv hvl a1 a2 b1 b2 b3 b4 hwk hle hmem hsk hsb
      go_wp2
      go_end0
      obtain ⟨a1, a2, a3⟩ := HW.out
      have hk2 : k < (warmK heat (vol q.l) q.l k).length := by rw [warmK_len]; exact hkl
      have hh := a1.heat (k := k) hk2 (q.l[k].h + (heat - shrs heat (vol q.l) (q.l.take k)))
      dsimp only at hh
      rw [warmK_at heat (vol q.l) q.l k hkl] at hh
      refine ⟨⟨_, rfl⟩, ?_, Only.setCell a2 (.inl rfl) _⟩
      have e : warmL heat q.l = (warmK heat (vol q.l) q.l k).set k ⟨q.l[k].v, q.l[k].h + (heat - shrs heat (vol q.l) (q.l.take k))⟩ := by
        unfold warmL
        have e1 : q.l.length - 1 = k := by rw [HM.out]; omega
        rw [e1]
        simp [List.getD, hkl]
      rw [e]; exact hh
end Go.Proofs.Ytjfopmjphiddiaa
/- warm, of the circuit. -/
namespace Go.Proofs.Ytjfopmjphiddiaa
open Go.RowKit Go.Shelf

theorem warmL_len (heat : Int) (l : List Sl) : (warmL heat l).length = l.length := by simp [warmL, warmK_len]
def warmS (s : Sm) (h : Int) : Sm := { s with wa := s.wa + h }
def warmY (y : Yx) (j : Nat) (h : Int) : Yx := ⟨y.ps.set j ⟨(y.ps.getD j ⟨0, []⟩).room, warmL h (y.ps.getD j ⟨0, []⟩).l⟩, y.t, ⟨y.r.heat, y.r.room, warmS y.r.s h⟩⟩

set_option maxRecDepth 100000 in
set_option maxHeartbeats 1000000 in
theorem warm_none (Bc Bp j : Nat) (qs : List Qu) (t : Sl) (r : Ho) (k a h : Int) (W : World) (hj : j < qs.length) (hC : Circ W Bc Bp t qs r) (h9 : qs.length ≤ 1000) (hl : qs[j].l = []) :
    Calls Try.prog 56 #[.pointer (some ⟨Bc, 0, none⟩), evv k j a h] W (PanicPost (errv 6) W) := by
  have c2 : W.cell? ⟨Bc, 2, none⟩ = some (.slice (some ⟨Bp, 0, none⟩) qs.length qs.length) := hC.c.cell 2
  have cj : W.cell? ⟨Bp, j * 2 + 1, none⟩ = some (.slice (some ⟨qs[j].g, qs[j].off, none⟩) 0 qs[j].cap) := (hC.p.cell _).trans (by rw [(qcells_at qs j hj).2, Qu.sv, hl]; rfl)
  have hcl := hC.c.lt
  have hpl := hC.p.lt
  have hlt' : (j : Int) < qs.length := by omega
  have hj9 : (j : Int) ≤ 1000 := by omega
  clear hC hl h9
  go_enter Try.func56, Try.ntmps56
  go_wp2
  refine still_tail 7 (by kernel_rfl) (by kernel_rfl) ?_
  simp only [List.take_succ_cons, List.take_zero, List.drop_succ_cons, List.drop_zero]
  repeat still_step
  refine wpStill_nil ?_
  go_wp2
  exact ⟨rfl, rfl, Below.drew (Below.alloc (Below.refl _ _) (Nat.le_refl _) _)⟩

set_option maxRecDepth 100000 in
set_option maxHeartbeats 2000000 in
theorem warm_ok (Bc Bp j : Nat) (qs : List Qu) (y : Yx) (k a h : Int) (W : World) (hj : j < qs.length) (hC : Circ W Bc Bp y.t qs y.r) (hps : qs.map Qu.pp = y.ps) (h9 : qs.length ≤ 1000) (hne : qs[j].l ≠ []) (hok : okL qs[j].l) (hv : vol qs[j].l ≤ 1048576) (hh : hea qs[j].l ≤ 2199023255552)
    (h0 : 0 ≤ h) (h1 : h ≤ 4294967296) (hw : 0 ≤ y.r.s.wa ∧ y.r.s.wa ≤ 1099511627776000 - 4294967296) :
    Calls Try.prog 56 #[.pointer (some ⟨Bc, 0, none⟩), evv k j a h] W (DonePost Bc Bp W qs (warmY y j h)) := by
  obtain ⟨q0, hq0⟩ : ∃ q0, q0 = qs[j] := ⟨_, rfl⟩
  rw [← hq0] at hok hv hh hne
  obtain ⟨m, hm⟩ : ∃ m, q0.l.length = m + 1 := by
    cases hl : q0.l with
    | nil => exact absurd hl hne
    | cons s t => exact ⟨t.length, rfl⟩
  have hqm : q0 ∈ qs := by rw [hq0]; exact List.getElem_mem hj
  have hpc : (qcells qs)[j * 2 + 1]? = some q0.sv := by rw [hq0]; exact (qcells_at qs j hj).2
  have c2 : W.cell? ⟨Bc, 2, none⟩ = some (.slice (some ⟨Bp, 0, none⟩) qs.length qs.length) := hC.c.cell 2
  have cj : W.cell? ⟨Bp, j * 2 + 1, none⟩ = some (.slice (some ⟨q0.g, q0.off, none⟩) (m + 1) q0.cap) := (hC.p.cell _).trans (by rw [hpc, Qu.sv, hm])
  have hcl := hC.c.lt
  have hpl := hC.p.lt
  have hlt' : (j : Int) < qs.length := by omega
  have hj9 : (j : Int) ≤ 1000 := by omega
  have hm9 : (m : Int) ≤ 1048576 := by have := vol_len hok; omega
  have hwp := fun W1 (hw : Below W.heap.size W W1) => warmp_any Bp (j * 2) q0 h W1 ((((hC.below hw).p.cell _)).trans hpc) ((hC.below hw).q q0 hqm) hok hv hh h0 h1 m hm (hC.nc q0 hqm).2
  have HW := Lib.hid hwp
  have HC := Lib.hid (And.intro hC (And.intro hps (And.intro hq0 (And.intro hpc (And.intro hqm hm)))))
  have kw : IntKind.i64.wrap (y.r.s.wa + h) = y.r.s.wa + h := IntWalk.i64_in _ (by omega)
  clear hC hps hq0 hwp hok hv hh hne h0 h1 hw h9 hm hpc
  go_enter Try.func56, Try.ntmps56
  go_wp2
  refine still_tail 7 (by kernel_rfl) (by kernel_rfl) ?_
  simp only [List.take_succ_cons, List.take_zero, List.drop_succ_cons, List.drop_zero]
  repeat still_step
  refine wpStill_nil ?_
  go_wp2_with fail
  refine (HW.out _ (Below.drew (Below.alloc (Below.refl _ _) (Nat.le_refl _) _))).mono ?_
  rintro e w1 ⟨⟨v, rfl⟩, hq1, ho1⟩
  obtain ⟨hC, hps, hq0, hpc, hqm, hm⟩ := HC.out
  have hb0 : Below W.heap.size W (W.alloc (Obj.cells #[.int .i64 k, .int .i64 j, .int .i64 a, .int .i64 h] 56)).drew := Below.drew (Below.alloc (Below.refl _ _) (Nat.le_refl _) _)
  have hpw : Has w1 Bp 88 (qcells qs) := ((hC.below hb0).p).only ho1 (Ne.symm (hC.nc q0 hqm).2)
  have hsv : (⟨q0.room, q0.g, q0.off, q0.cap, warmL h q0.l⟩ : Qu).sv = q0.sv := by simp [Qu.sv, warmL_len]
  obtain ⟨k1, k2⟩ := hC.upd (q := ⟨q0.room, q0.g, q0.off, q0.cap, warmL h q0.l⟩) (W' := w1) hj (by rw [hq0]) (.inl (by rw [hq0])) (by rw [hsv, set_same hpc]; exact hpw) hq1 (by rw [← hq0]; exact Only.from_ (Only.of_below hb0) ho1 (fun _ _ h => .inr h))
  have K1 := Lib.hid (And.intro k1 k2)
  have hev : w1.cell? ⟨W.heap.size, 3, none⟩ = some (.int .i64 h) := cell_only ((Has.new W 56 #[.int .i64 k, .int .i64 j, .int .i64 a, .int .i64 h]).drew.cell 3) ho1 (fun e => by have := hC.lt (.inr (.inr (List.mem_map_of_mem hqm))); dsimp only at e; omega)
  have c5 : w1.cell? ⟨Bc, 5, none⟩ = some (.int .i64 y.r.s.wa) := k1.c.cell 5
  have f5 := k1.c.frozen 5
  have hl1 := k1.c.lt
  clear hC hps hq0 hpc hqm hm hb0 hpw hsv k1 k2 hq1 ho1
  go_wp2
  refine still_tail 11 (by kernel_rfl) (by kernel_rfl) ?_
  simp only [List.take_succ_cons, List.take_zero, List.drop_succ_cons, List.drop_zero]
  repeat still_step
  refine wpStill_nil ?_
  go_wp2
  go_end0
  obtain ⟨hC, hps, hq0, hpc, hqm, hm⟩ := HC.out
  have hcs := K1.out.1.c.set 5 (iv (y.r.s.wa + h))
  obtain ⟨g1, g2⟩ := K1.out.1.own (t' := y.t) (r' := ⟨y.r.heat, y.r.room, warmS y.r.s h⟩) (W' := w1.setCell ⟨Bc, 5, none⟩ (iv (y.r.s.wa + h))) hcs (by refine Only.setCell (Only.refl _ _) ?_ _; exact .inl rfl)
  have hg : y.ps.getD j ⟨0, []⟩ = q0.pp := by rw [← hps, hq0]; simp [List.getD, hj]
  refine ⟨⟨_, rfl⟩, _, (K1.out.2.trans g2 hC).trans (Mv.below (Below.drew (Below.refl _ _))) hC, _, rfl, ?_, g1.below (Below.drew (Below.refl _ _))⟩
  unfold warmY
  rw [hg, List.map_set, hps]
  rfl
end Go.Proofs.Ytjfopmjphiddiaa
/- Whether an event is valid; the error of one that cannot be; what the deferred function does. -/
namespace Go.Proofs.Ytjfopmjphiddiaa
open Go.RowKit Go.Shelf

def hB (n : Int) : Bool := decide (0 ≤ n ∧ n ≤ 4294967296)
def lB (n : Int) : Bool := decide (1 ≤ n ∧ n ≤ 1048576)
theorem ret_bool {a b : Bool} (h : a = b) : Ending.returned (.bool a) = .returned (.bool b) := by rw [h]
set_option maxRecDepth 100000 in
theorem isHeat_any (n : Int) (w : World) : Calls Try.prog 38 #[iv n] w fun e w' => e = .returned (.bool (hB n)) ∧ w = w' := by
  by_cases h1 : 0 ≤ n
  · by_cases h2 : n ≤ 4294967296
    · go_enter Try.func38, Try.ntmps38
      go_wp2
      go_ret
      exact ⟨ret_bool (by simp [hB, h1, h2]), rfl⟩
    · go_enter Try.func38, Try.ntmps38
      go_wp2
      go_ret
      exact ⟨ret_bool (by simp [hB]; omega), rfl⟩
  · go_enter Try.func38, Try.ntmps38
    go_wp2
    go_ret
    exact ⟨ret_bool (by simp [hB]; omega), rfl⟩
set_option maxRecDepth 100000 in
theorem isLitres_any (n : Int) (w : World) : Calls Try.prog 66 #[iv n] w fun e w' => e = .returned (.bool (lB n)) ∧ w = w' := by
  by_cases h1 : 1 ≤ n
  · by_cases h2 : n ≤ 1048576
    · go_enter Try.func66, Try.ntmps66
      go_wp2
      go_ret
      exact ⟨ret_bool (by simp [lB, h1, h2]), rfl⟩
    · go_enter Try.func66, Try.ntmps66
      go_wp2
      go_ret
      exact ⟨ret_bool (by simp [lB]; omega), rfl⟩
  · go_enter Try.func66, Try.ntmps66
    go_wp2
    go_ret
    exact ⟨ret_bool (by simp [lB]; omega), rfl⟩
set_option maxRecDepth 100000 in
theorem assert32 (n : Int) (w : World) : (Instr.typeAssert (.iface 32 (.int .i64 n)) 20 32 true).run Try.prog w = .ok (.tuple #[.int .i64 n, .bool true]) w := by kernel_rfl
theorem cause_any (n : Int) (w : World) : Calls Try.prog 54 #[errv n] w fun e w' => e = .returned (iv n) ∧ w = w' := by
  unfold errv
  have hta := assert32 n
  go_enter Try.func54, Try.ntmps54
  go_wp2
  go_ret
  exact ⟨rfl, rfl⟩
theorem catch_err_in (p : Addr) (x : Value) (m : Int) (older : List PanicEntry) (w : World) (n : Nat) (hc : w.cell? p = some x) (hz : w.frozen? p = false) :
    CallsDIn Fence.wide n Try.prog 53 #[.pointer (some p)] (.panicking ({ v := errv m, recovered := false } :: older)) w fun e u' w' =>
      e = .returned (.tuple #[]) ∧ u' = .panicking ({ v := errv m, recovered := true } :: older) ∧ w' = w.setCell p (iv m) := by
  have hcs := cause_any m w
  simp only [errv] at hcs ⊢
  refine callsDIn_of_wpSIn Try.func53 rfl trivial fun c₀ cs hu => ?_
  apply wpSIn_seq
  apply wpSIn_region
  simp [wpOpsSIn, go_sem, recoverD, hu, Try.ntmps53, Exit.thenS, Fence.wide]
  refine wpSIn_of_wpIn rfl (wpIn_wide.2 ?_)
  have HC := Lib.hid hcs
  clear hcs
  go_wp2_with fail
  refine HC.out.mono ?_
  rintro e w' ⟨rfl, rfl⟩
  go_wp2
  cases c₀
  simp_all [bodyPostS, results, Try.results53]
theorem catch_none_in (p : Addr) (w : World) (n : Nat) :
    CallsDIn Fence.wide n Try.prog 53 #[.pointer (some p)] .returning w fun e u' w' => e = .returned (.tuple #[]) ∧ u' = .returning ∧ w' = w := by
  refine callsDIn_of_wpSIn Try.func53 rfl trivial fun c₀ cs hu => ?_
  apply wpSIn_seq
  apply wpSIn_region
  simp [wpOpsSIn, go_sem, recoverD, hu, Try.ntmps53, Exit.thenS, Fence.wide]
  refine wpSIn_of_wpIn rfl (wpIn_wide.2 ?_)
  have hne : ∀ w, (binOp .neq 20 .nilIface .nilIface).run Try.prog w = .ok (.bool false) w := fun _ => by kernel_rfl
  go_wp2
  cases c₀
  simp_all [bodyPostS, results, Try.results53]
end Go.Proofs.Ytjfopmjphiddiaa
/- Whether an event is valid. -/
namespace Go.Proofs.Ytjfopmjphiddiaa
open Go.RowKit Go.Shelf

def onP (p n : Int) : Bool := decide (0 ≤ p ∧ p < n)
def evOk (k p a h n : Int) : Bool :=
  if k = 0 then lB a else if k = 1 then onP p n && hB h else if k = 2 then onP p n && lB a else if k = 3 then lB a && hB h else if k = 4 ∨ k = 5 then hB h else false
def VePost (b : Bool) (W : World) (e : Ending) (W' : World) : Prop := e = .returned (.bool b) ∧ Below W.heap.size W W'
theorem VePost.mk {b b' : Bool} {W : World} {o : Obj} (h : b' = b) : VePost b W (.returned (.bool b')) (W.alloc o) := ⟨ret_bool h, below_one _ _⟩

set_option maxRecDepth 100000 in
set_option maxHeartbeats 2000000 in
theorem ve_0 (p a h n : Int) (W : World) : Calls Try.prog 52 #[evv 0 p a h, iv n] W (VePost (evOk 0 p a h n) W) := by
  by_cases h0 : 0 ≤ p
  · by_cases h1 : p < n
    · go_enter Try.func52, Try.ntmps52
      go_wp2_with (first | (go_at_call 66; refine (isLitres_any _ _).mono ?_; rintro e w' ⟨rfl, rfl⟩) | (go_at_call 38; refine (isHeat_any _ _).mono ?_; rintro e w' ⟨rfl, rfl⟩))
      go_ret
      exact VePost.mk (by simp [evOk])
    · go_enter Try.func52, Try.ntmps52
      go_wp2_with (first | (go_at_call 66; refine (isLitres_any _ _).mono ?_; rintro e w' ⟨rfl, rfl⟩) | (go_at_call 38; refine (isHeat_any _ _).mono ?_; rintro e w' ⟨rfl, rfl⟩))
      go_ret
      exact VePost.mk (by simp [evOk])
  · go_enter Try.func52, Try.ntmps52
    go_wp2_with (first | (go_at_call 66; refine (isLitres_any _ _).mono ?_; rintro e w' ⟨rfl, rfl⟩) | (go_at_call 38; refine (isHeat_any _ _).mono ?_; rintro e w' ⟨rfl, rfl⟩))
    go_ret
    exact VePost.mk (by simp [evOk])
set_option maxRecDepth 100000 in
set_option maxHeartbeats 2000000 in
theorem ve_1 (p a h n : Int) (W : World) : Calls Try.prog 52 #[evv 1 p a h, iv n] W (VePost (evOk 1 p a h n) W) := by
  by_cases h0 : 0 ≤ p
  · by_cases h1 : p < n
    · have ho : onP p n = true := by simp [onP]; omega
      go_enter Try.func52, Try.ntmps52
      go_wp2_with (first | (go_at_call 66; refine (isLitres_any _ _).mono ?_; rintro e w' ⟨rfl, rfl⟩) | (go_at_call 38; refine (isHeat_any _ _).mono ?_; rintro e w' ⟨rfl, rfl⟩))
      go_ret
      exact VePost.mk (by simp [evOk, ho])
    · have ho : onP p n = false := by simp [onP]; omega
      go_enter Try.func52, Try.ntmps52
      go_wp2_with (first | (go_at_call 66; refine (isLitres_any _ _).mono ?_; rintro e w' ⟨rfl, rfl⟩) | (go_at_call 38; refine (isHeat_any _ _).mono ?_; rintro e w' ⟨rfl, rfl⟩))
      go_ret
      exact VePost.mk (by simp [evOk, ho])
  · have ho : onP p n = false := by simp [onP]; omega
    go_enter Try.func52, Try.ntmps52
    go_wp2_with (first | (go_at_call 66; refine (isLitres_any _ _).mono ?_; rintro e w' ⟨rfl, rfl⟩) | (go_at_call 38; refine (isHeat_any _ _).mono ?_; rintro e w' ⟨rfl, rfl⟩))
    go_ret
    exact VePost.mk (by simp [evOk, ho])
set_option maxRecDepth 100000 in
set_option maxHeartbeats 2000000 in
theorem ve_2 (p a h n : Int) (W : World) : Calls Try.prog 52 #[evv 2 p a h, iv n] W (VePost (evOk 2 p a h n) W) := by
  by_cases h0 : 0 ≤ p
  · by_cases h1 : p < n
    · have ho : onP p n = true := by simp [onP]; omega
      go_enter Try.func52, Try.ntmps52
      go_wp2_with (first | (go_at_call 66; refine (isLitres_any _ _).mono ?_; rintro e w' ⟨rfl, rfl⟩) | (go_at_call 38; refine (isHeat_any _ _).mono ?_; rintro e w' ⟨rfl, rfl⟩))
      go_ret
      exact VePost.mk (by simp [evOk, ho])
    · have ho : onP p n = false := by simp [onP]; omega
      go_enter Try.func52, Try.ntmps52
      go_wp2_with (first | (go_at_call 66; refine (isLitres_any _ _).mono ?_; rintro e w' ⟨rfl, rfl⟩) | (go_at_call 38; refine (isHeat_any _ _).mono ?_; rintro e w' ⟨rfl, rfl⟩))
      go_ret
      exact VePost.mk (by simp [evOk, ho])
  · have ho : onP p n = false := by simp [onP]; omega
    go_enter Try.func52, Try.ntmps52
    go_wp2_with (first | (go_at_call 66; refine (isLitres_any _ _).mono ?_; rintro e w' ⟨rfl, rfl⟩) | (go_at_call 38; refine (isHeat_any _ _).mono ?_; rintro e w' ⟨rfl, rfl⟩))
    go_ret
    exact VePost.mk (by simp [evOk, ho])
set_option maxRecDepth 100000 in
set_option maxHeartbeats 2000000 in
theorem ve_3 (p a h n : Int) (W : World) : Calls Try.prog 52 #[evv 3 p a h, iv n] W (VePost (evOk 3 p a h n) W) := by
  by_cases h0 : 0 ≤ p
  · by_cases h1 : p < n
    · cases hl : lB a
      · go_enter Try.func52, Try.ntmps52
        go_wp2_with (first | (go_at_call 66; refine (isLitres_any _ _).mono ?_; rintro e w' ⟨rfl, rfl⟩) | (go_at_call 38; refine (isHeat_any _ _).mono ?_; rintro e w' ⟨rfl, rfl⟩))
        go_ret
        exact VePost.mk (by simp [evOk, hl])
      · go_enter Try.func52, Try.ntmps52
        go_wp2_with (first | (go_at_call 66; refine (isLitres_any _ _).mono ?_; rintro e w' ⟨rfl, rfl⟩) | (go_at_call 38; refine (isHeat_any _ _).mono ?_; rintro e w' ⟨rfl, rfl⟩))
        go_ret
        exact VePost.mk (by simp [evOk, hl])
    · cases hl : lB a
      · go_enter Try.func52, Try.ntmps52
        go_wp2_with (first | (go_at_call 66; refine (isLitres_any _ _).mono ?_; rintro e w' ⟨rfl, rfl⟩) | (go_at_call 38; refine (isHeat_any _ _).mono ?_; rintro e w' ⟨rfl, rfl⟩))
        go_ret
        exact VePost.mk (by simp [evOk, hl])
      · go_enter Try.func52, Try.ntmps52
        go_wp2_with (first | (go_at_call 66; refine (isLitres_any _ _).mono ?_; rintro e w' ⟨rfl, rfl⟩) | (go_at_call 38; refine (isHeat_any _ _).mono ?_; rintro e w' ⟨rfl, rfl⟩))
        go_ret
        exact VePost.mk (by simp [evOk, hl])
  · cases hl : lB a
    · go_enter Try.func52, Try.ntmps52
      go_wp2_with (first | (go_at_call 66; refine (isLitres_any _ _).mono ?_; rintro e w' ⟨rfl, rfl⟩) | (go_at_call 38; refine (isHeat_any _ _).mono ?_; rintro e w' ⟨rfl, rfl⟩))
      go_ret
      exact VePost.mk (by simp [evOk, hl])
    · go_enter Try.func52, Try.ntmps52
      go_wp2_with (first | (go_at_call 66; refine (isLitres_any _ _).mono ?_; rintro e w' ⟨rfl, rfl⟩) | (go_at_call 38; refine (isHeat_any _ _).mono ?_; rintro e w' ⟨rfl, rfl⟩))
      go_ret
      exact VePost.mk (by simp [evOk, hl])
set_option maxRecDepth 100000 in
set_option maxHeartbeats 2000000 in
theorem ve_4 (p a h n : Int) (W : World) : Calls Try.prog 52 #[evv 4 p a h, iv n] W (VePost (evOk 4 p a h n) W) := by
  by_cases h0 : 0 ≤ p
  · by_cases h1 : p < n
    · go_enter Try.func52, Try.ntmps52
      go_wp2_with (first | (go_at_call 66; refine (isLitres_any _ _).mono ?_; rintro e w' ⟨rfl, rfl⟩) | (go_at_call 38; refine (isHeat_any _ _).mono ?_; rintro e w' ⟨rfl, rfl⟩))
      go_ret
      exact VePost.mk (by simp [evOk])
    · go_enter Try.func52, Try.ntmps52
      go_wp2_with (first | (go_at_call 66; refine (isLitres_any _ _).mono ?_; rintro e w' ⟨rfl, rfl⟩) | (go_at_call 38; refine (isHeat_any _ _).mono ?_; rintro e w' ⟨rfl, rfl⟩))
      go_ret
      exact VePost.mk (by simp [evOk])
  · go_enter Try.func52, Try.ntmps52
    go_wp2_with (first | (go_at_call 66; refine (isLitres_any _ _).mono ?_; rintro e w' ⟨rfl, rfl⟩) | (go_at_call 38; refine (isHeat_any _ _).mono ?_; rintro e w' ⟨rfl, rfl⟩))
    go_ret
    exact VePost.mk (by simp [evOk])
set_option maxRecDepth 100000 in
set_option maxHeartbeats 2000000 in
theorem ve_5 (p a h n : Int) (W : World) : Calls Try.prog 52 #[evv 5 p a h, iv n] W (VePost (evOk 5 p a h n) W) := by
  by_cases h0 : 0 ≤ p
  · by_cases h1 : p < n
    · go_enter Try.func52, Try.ntmps52
      go_wp2_with (first | (go_at_call 66; refine (isLitres_any _ _).mono ?_; rintro e w' ⟨rfl, rfl⟩) | (go_at_call 38; refine (isHeat_any _ _).mono ?_; rintro e w' ⟨rfl, rfl⟩))
      go_ret
      exact VePost.mk (by simp [evOk])
    · go_enter Try.func52, Try.ntmps52
      go_wp2_with (first | (go_at_call 66; refine (isLitres_any _ _).mono ?_; rintro e w' ⟨rfl, rfl⟩) | (go_at_call 38; refine (isHeat_any _ _).mono ?_; rintro e w' ⟨rfl, rfl⟩))
      go_ret
      exact VePost.mk (by simp [evOk])
  · go_enter Try.func52, Try.ntmps52
    go_wp2_with (first | (go_at_call 66; refine (isLitres_any _ _).mono ?_; rintro e w' ⟨rfl, rfl⟩) | (go_at_call 38; refine (isHeat_any _ _).mono ?_; rintro e w' ⟨rfl, rfl⟩))
    go_ret
    exact VePost.mk (by simp [evOk])
set_option maxRecDepth 100000 in
set_option maxHeartbeats 2000000 in
theorem ve_no (k p a h n : Int) (W : World) (k0 : k ≠ 0) (k1 : k ≠ 1) (k2 : k ≠ 2) (k3 : k ≠ 3) (k4 : k ≠ 4) (k5 : k ≠ 5) : Calls Try.prog 52 #[evv k p a h, iv n] W (VePost (evOk k p a h n) W) := by
  by_cases h0 : 0 ≤ p
  · by_cases h1 : p < n
    · go_enter Try.func52, Try.ntmps52
      go_wp2_with (first | (go_at_call 66; refine (isLitres_any _ _).mono ?_; rintro e w' ⟨rfl, rfl⟩) | (go_at_call 38; refine (isHeat_any _ _).mono ?_; rintro e w' ⟨rfl, rfl⟩))
      go_ret
      exact VePost.mk (by simp [evOk, k0, k1, k2, k3, k4, k5])
    · go_enter Try.func52, Try.ntmps52
      go_wp2_with (first | (go_at_call 66; refine (isLitres_any _ _).mono ?_; rintro e w' ⟨rfl, rfl⟩) | (go_at_call 38; refine (isHeat_any _ _).mono ?_; rintro e w' ⟨rfl, rfl⟩))
      go_ret
      exact VePost.mk (by simp [evOk, k0, k1, k2, k3, k4, k5])
  · go_enter Try.func52, Try.ntmps52
    go_wp2_with (first | (go_at_call 66; refine (isLitres_any _ _).mono ?_; rintro e w' ⟨rfl, rfl⟩) | (go_at_call 38; refine (isHeat_any _ _).mono ?_; rintro e w' ⟨rfl, rfl⟩))
    go_ret
    exact VePost.mk (by simp [evOk, k0, k1, k2, k3, k4, k5])
theorem ve_any (k p a h n : Int) (W : World) : Calls Try.prog 52 #[evv k p a h, iv n] W (VePost (evOk k p a h n) W) := by
  by_cases k0 : k = 0
  · subst k0; exact ve_0 p a h n W
  by_cases k1 : k = 1
  · subst k1; exact ve_1 p a h n W
  by_cases k2 : k = 2
  · subst k2; exact ve_2 p a h n W
  by_cases k3 : k = 3
  · subst k3; exact ve_3 p a h n W
  by_cases k4 : k = 4
  · subst k4; exact ve_4 p a h n W
  by_cases k5 : k = 5
  · subst k5; exact ve_5 p a h n W
  exact ve_no k p a h n W k0 k1 k2 k3 k4 k5
end Go.Proofs.Ytjfopmjphiddiaa
