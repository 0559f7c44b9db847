/- The document's Sum. -/
import Derived.Test.YtjfopmjphiddiaaRfB
namespace Go.Proofs.Ytjfopmjphiddiaa
open Go.RowKit Go.Shelf
theorem partV_le {t : Sl} {ps : List Pp} {heat V H : Int} (hp : okP ps) (h1 : 0 ≤ t.v) (h2 : 0 ≤ t.h) (h3 : 0 ≤ heat) (hV : t.v + volP ps ≤ V) (hH : heat + t.h + heaP ps ≤ H) (k m : Nat) :
    0 ≤ (partV t heat ps k m).v ∧ (partV t heat ps k m).v ≤ V ∧ 0 ≤ (partV t heat ps k m).h ∧ (partV t heat ps k m).h ≤ H := by
  have a := volP_take_le hp k
  by_cases hk : k < ps.length
  · have e : ps.getD k ⟨0, []⟩ = ps[k] := by simp [List.getD, hk]
    have b := volP_take_le hp (k + 1)
    have c := volP_take ps k hk
    have d := volt_le (hp _ (List.getElem_mem hk)).sl m
    unfold partV
    rw [e]
    simp only
    omega
  · have e : ps.getD k ⟨0, []⟩ = ⟨0, []⟩ := by simp [List.getD, List.getElem?_eq_none (Nat.le_of_not_lt hk)]
    unfold partV
    rw [e]
    simp only [List.take_nil, vol, hea]
    omega
def allV (t : Sl) (ps : List Pp) (heat : Int) : Sl := ⟨t.v + volP ps, heat + t.h + heaP ps⟩
theorem partV_all (t : Sl) (ps : List Pp) (heat : Int) : partV t heat ps ps.length 0 = allV t ps heat := by simp [partV, allV, vol, hea]
set_option maxRecDepth 100000 in
set_option maxHeartbeats 4000000 in
theorem sumRef_any (t : Sl) (ps : List Pp) (heat hroom : Int) (A : Option Addr) (cap : Nat) (W : World) (hr : PRow W W.heap.size A ps) (hl : ps.length ≤ 9223372036854775807) (hml : ∀ p ∈ ps, p.l.length ≤ 9223372036854775807)
    (hb : ∀ k m, 0 ≤ (partV t heat ps k m).v ∧ (partV t heat ps k m).v ≤ 1000000000000 ∧ 0 ≤ (partV t heat ps k m).h ∧ (partV t heat ps k m).h ≤ 1000000000000000) :
    Calls Try.prog 27 #[brv t A ps.length cap heat hroom] W fun e W' => e = .returned (slv (allV t ps heat)) ∧ Below W.heap.size W W' := by
  have HR := Lib.hid (And.intro hr (And.intro hml hb))
  have hx0 : Has ((W.alloc (Obj.cells (bcells t A ps.length cap heat hroom) 26)).alloc (.cells #[.int .i64 0, .int .i64 0] 23)) W.heap.size 26 (bcells t A ps.length cap heat hroom) := (Has.new _ _ _).alloc _
  have hx1 : Has ((W.alloc (Obj.cells (bcells t A ps.length cap heat hroom) 26)).alloc (.cells #[.int .i64 0, .int .i64 0] 23)) (W.heap.size + 1) 23 #[.int .i64 0, .int .i64 0] := Has.newAt (by simp)
  have hb0 : Below W.heap.size W ((W.alloc (Obj.cells (bcells t A ps.length cap heat hroom) 26)).alloc (.cells #[.int .i64 0, .int .i64 0] 23)) := (below_one _ _).alloc (by simp) _
  have H0 := Lib.hid (And.intro hb0 (And.intro hx0 hx1))
  have hpl : Calls Try.prog 49 #[slv t, slv ⟨0, heat⟩] ((W.alloc (Obj.cells (bcells t A ps.length cap heat hroom) 26)).alloc (.cells #[.int .i64 0, .int .i64 0] 23)) fun e W' => e = .returned (slv (partV t heat ps 0 0)) ∧ Below (W.heap.size + 2) ((W.alloc (Obj.cells (bcells t A ps.length cap heat hroom) 26)).alloc (.cells #[.int .i64 0, .int .i64 0] 23)) W' := by
    have b := hb 0 0
    have e : partV t heat ps 0 0 = t.add ⟨0, heat⟩ := by simp [partV, Sl.add, volP, heaP, vol, hea]; omega
    rw [e] at b ⊢
    simp only [Sl.add] at b
    refine (plus_any t ⟨0, heat⟩ _ (by simp only; omega) (by simp only; omega)).mono ?_
    rintro r w ⟨rfl, h⟩
    exact ⟨rfl, by simpa using h⟩
  have HPL := Lib.hid hpl
  clear hr hx0 hx1 hb0 hml hb hpl
  go_enter Try.func27, Try.ntmps27
  go_wp2_with fail
  refine HPL.out.mono ?_
  rintro e w1 ⟨rfl, hb1⟩
  have hs0 : ((W.alloc (Obj.cells (bcells t A ps.length cap heat hroom) 26)).alloc (.cells #[.int .i64 0, .int .i64 0] 23)).heap.size = W.heap.size + 2 := by simp
  have hw1 := hb1.size
  rw [hs0] at hw1
  have hn3 : Has (w1.alloc (.cells #[.int .i64 (partV t heat ps 0 0).v, .int .i64 (partV t heat ps 0 0).h] 23)) w1.heap.size 23 #[.int .i64 (partV t heat ps 0 0).v, .int .i64 (partV t heat ps 0 0).h] := Has.new _ _ _
  have HB := Lib.hid (And.intro (H0.out.1.trans (hb1.mono (by omega))) (And.intro (H0.out.2.1.below hb1 (by omega)) (And.intro (H0.out.2.2.below hb1 (by omega)) hn3)))
  clear hb1 hs0 hn3 HPL H0
  go_wp2_with fail
  go_loopw [4] (fun i wr => ∃ k : Nat, k ≤ ps.length ∧ i = .int .i64 k ∧ Hid (Below w1.heap.size w1 wr ∧ Has wr w1.heap.size 23 #[.int .i64 (partV t heat ps k 0).v, .int .i64 (partV t heat ps k 0).h])) (fun i _ => ps.length - (intOf i).toNat)
  case atStart => exact ⟨0, Nat.zero_le _, rfl, below_one _ _, HB.out.2.2.2⟩
  case round =>
    obtain ⟨k, hk, rfl, HX⟩ := hrel
    have hsr := HX.out.1.size
    have e2 : wr.cell? ⟨W.heap.size, 2, none⟩ = some (.slice A ps.length cap) := (HB.out.2.1.below HX.out.1 (by omega)).cell 2
    have hwl : W.heap.size < wr.heap.size := by omega
    by_cases hlt : k < ps.length
    · have hlt' : (k : Int) < ps.length := by omega
      obtain ⟨g, o, A', cap', eA, hg, d0, d1, hs⟩ := (HR.out.1.below (HB.out.1.trans (HX.out.1.mono (by omega)))) k hlt
      have hgw : g < wr.heap.size := by omega
      subst eA
      have hml := HR.out.2.1 _ (List.getElem_mem hlt)
      obtain ⟨p, hp⟩ : ∃ p, p = ps[k] := ⟨_, rfl⟩
      rw [← hp] at d0 d1 hs hml
      have HP := Lib.hid (And.intro hs hp)
      have HD := Lib.hid d1
      have HE := Lib.hid e2
      clear hs hp d0
      go_wp2_with fail
      obtain ⟨wo, rfl⟩ : ∃ wo, wo = wr := ⟨_, rfl⟩
      clear d1 e2
      go_loopw [5] (fun j wx => ∃ m : Nat, m ≤ p.l.length ∧ j = .int .i64 m ∧ Hid (Below w1.heap.size wo wx ∧ Has wx w1.heap.size 23 #[.int .i64 (partV t heat ps k m).v, .int .i64 (partV t heat ps k m).h])) (fun j _ => p.l.length - (intOf j).toNat)
      case atStart => exact ⟨0, Nat.zero_le _, rfl, (Below.refl _ _).mono hsr, HX.out.2⟩
      case round =>
        obtain ⟨m, hm, rfl, HY⟩ := hrel
        have hsx := HY.out.1.size
        have e2 : wr.cell? ⟨W.heap.size, 2, none⟩ = some (.slice (some ⟨g, o, none⟩) ps.length cap) := (HY.out.1.cell (p := ⟨W.heap.size, 2, none⟩) (by simp only; omega)).trans HE.out
        have d1 : wr.cell? ⟨g, o + k * 2 + 1, none⟩ = some (.slice A' p.l.length cap') := (HY.out.1.cell (p := ⟨g, o + k * 2 + 1, none⟩) (by simp only; omega)).trans HD.out
        have hgx : g < wr.heap.size := by omega
        have hwx : W.heap.size < wr.heap.size := by omega
        by_cases hmt : m < p.l.length
        · have hmt' : (m : Int) < p.l.length := by omega
          obtain ⟨g2, o2, eA2, hg2, s0, s1⟩ := (HP.out.1.below (HY.out.1.mono (by omega))) m hmt
          subst eA2
          have hg2w : g2 < wr.heap.size := by omega
          have hkm : m < ps[k].l.length := by rw [← HP.out.2]; exact hmt
          have hnx := partV_next (t := t) (heat := heat) hlt hkm
          have hbk := HR.out.2.2 k (m + 1)
          have hpm : ps[k].l[m] = p.l[m] := by have e := HP.out.2; subst e; rfl
          rw [hpm] at hnx
          obtain ⟨z, hz⟩ : ∃ z, z = p.l[m] := ⟨_, rfl⟩
          rw [← hz] at s0 s1 hnx
          obtain ⟨y, hy⟩ : ∃ y, y = partV t heat ps k m := ⟨_, rfl⟩
          rw [hnx] at hbk
          rw [← hy] at HY hbk hnx
          have hyc := HY.out.2
          have y0 : wr.cell? ⟨w1.heap.size, 0, none⟩ = some (.int .i64 y.v) := hyc.cell 0
          have y1 : wr.cell? ⟨w1.heap.size, 1, none⟩ = some (.int .i64 y.h) := hyc.cell 1
          have hyl := hyc.lt
          have HZ := Lib.hid (And.intro hnx hbk)
          clear hnx hbk hpm hkm hz hy hyc
          go_wp2_with fail
          refine still_tail 10 (by kernel_rfl) (by kernel_rfl) ?_
          simp only [List.take_succ_cons, List.take_zero, List.drop_succ_cons, List.drop_zero]
          repeat still_step
          refine wpStill_nil ?_
          go_wp2_with fail
          refine (plus_any y z wr.drew (by have := HZ.out.2; simp only [Sl.add] at this; omega) (by have := HZ.out.2; simp only [Sl.add] at this; omega)).mono ?_
          rintro e w5 ⟨rfl, hb5⟩
          have hb5 : Below wr.heap.size wr w5 := (below_drew wr).trans hb5
          have hh5 := HY.out.2.below hb5 hyl
          have hs5 := hb5.size
          have f0 := hh5.frozen 0
          have f1 := hh5.frozen 1
          have c0 : w5.cell? ⟨w1.heap.size, 0, none⟩ = some (.int .i64 y.v) := hh5.cell 0
          have c1 : w5.cell? ⟨w1.heap.size, 1, none⟩ = some (.int .i64 y.h) := hh5.cell 1
          have hl5 := hh5.lt
          have HV := Lib.hid (And.intro (((HY.out.1.trans (hb5.mono (by omega))).setCell (p := ⟨w1.heap.size, 0, none⟩) (by simp) (.int .i64 (y.add z).v)).setCell (p := ⟨w1.heap.size, 1, none⟩) (by simp) (.int .i64 (y.add z).h)) ((hh5.set 0 (.int .i64 (y.add z).v)).set 1 (.int .i64 (y.add z).h)))
          clear hb5 hh5 y0 y1
          go_wp2_with fail
          go_roundw
          case rel =>
            refine ⟨m + 1, by omega, by go_num, HV.out.1, ?_⟩
            rw [HZ.out.1]
            exact HV.out.2
          case measure => simp [intOf]; omega
        · have hmt' : ¬ (m : Int) < p.l.length := by omega
          have hme : m = p.l.length := by omega
          have HV : Hid (Below w1.heap.size w1 wr ∧ Has wr w1.heap.size 23 #[.int .i64 (partV t heat ps (k + 1) 0).v, .int .i64 (partV t heat ps (k + 1) 0).h]) := by
            refine ⟨HX.out.1.trans HY.out.1, ?_⟩
            rw [← partV_pipe hlt, ← HP.out.2, ← hme]
            exact HY.out.2
          clear hme
          go_wp2_with fail
          go_roundw
          case rel => exact ⟨k + 1, by omega, by go_num, HV.out⟩
          case measure => simp [intOf]; omega
    · have hk' : ¬ (k : Int) < ps.length := by omega
      have hke : k = ps.length := by omega
      subst hke
      have hT := partV_all t ps heat
      obtain ⟨x, hx⟩ : ∃ x, x = allV t ps heat := ⟨_, rfl⟩
      rw [hT, ← hx] at HX
      have HXX := Lib.hid hx
      have a0 : wr.cell? ⟨w1.heap.size, 0, none⟩ = some (.int .i64 x.v) := HX.out.2.cell 0
      have a1 : wr.cell? ⟨w1.heap.size, 1, none⟩ = some (.int .i64 x.h) := HX.out.2.cell 1
      have al := HX.out.2.lt
      have h2r := HB.out.2.2.1.below HX.out.1 (by omega)
      have c20 : wr.cell? ⟨W.heap.size + 1, 0, none⟩ = some (.int .i64 0) := h2r.cell 0
      have c21 : wr.cell? ⟨W.heap.size + 1, 1, none⟩ = some (.int .i64 0) := h2r.cell 1
      have f20 := h2r.frozen 0
      have f21 := h2r.frozen 1
      have l2 := h2r.lt
      have HV := Lib.hid (And.intro (HB.out.1.trans (HX.out.1.mono (by omega))) h2r)
      clear hT hx h2r
      go_wp2_with fail
      obtain ⟨wz, hwz⟩ : ∃ wz, wz = (wr.setCell ⟨W.heap.size + 1, 0, none⟩ (.int .i64 x.v)).setCell ⟨W.heap.size + 1, 1, none⟩ (.int .i64 x.h) := ⟨_, rfl⟩
      rw [← hwz]
      have hz : Has wz (W.heap.size + 1) 23 #[.int .i64 x.v, .int .i64 x.h] := by
        rw [hwz]; exact (HV.out.2.set 0 (.int .i64 x.v)).set 1 (.int .i64 x.h)
      have q0 : wz.cell? ⟨W.heap.size + 1, 0, none⟩ = some (.int .i64 x.v) := hz.cell 0
      have q1 : wz.cell? ⟨W.heap.size + 1, 1, none⟩ = some (.int .i64 x.h) := hz.cell 1
      refine bodyPost_ret (v := slv x) (by simp [results, Try.results27, go_sem, q0, q1]) rfl ?_
      refine ⟨by rw [HXX.out], ?_⟩
      rw [hwz]
      exact (HV.out.1.setCell (by simp only; omega) _).setCell (by simp only; omega) _
end Go.Proofs.Ytjfopmjphiddiaa
