/- Lists of numbers: whether all are heat, and their sum. -/
import Derived.Test.YtjfopmjphiddiaaMgN
namespace Go.Proofs.Ytjfopmjphiddiaa
open Go.RowKit Go.Shelf

def IRow (w : World) (B : Nat) (A : Option Addr) (l : List Int) : Prop :=
  ∀ k (h : k < l.length), ∃ g o, A = some ⟨g, o, none⟩ ∧ g < B ∧ w.cell? ⟨g, o + k, none⟩ = some (iv l[k])
theorem IRow.below {w w' : World} {B : Nat} {A : Option Addr} {l : List Int} (h : IRow w B A l) (hb : Below B w w') : IRow w' B A l := fun k hk => by
  obtain ⟨g, o, e, hg, c⟩ := h k hk
  exact ⟨g, o, e, hg, (hb.cell (p := ⟨g, _, none⟩) hg).trans c⟩
def sumI (l : List Int) : Int := l.foldl (· + ·) 0
theorem sumI_take (l : List Int) (k : Nat) (h : k < l.length) : sumI (l.take (k + 1)) = sumI (l.take k) + l[k] := by
  unfold sumI
  rw [List.take_succ_eq_append_getElem h, List.foldl_append]; rfl
theorem sumI_bd (l : List Int) (k : Nat) (hk : k ≤ l.length) (hb : ∀ x ∈ l, 0 ≤ x ∧ x ≤ 1099511627776) : 0 ≤ sumI (l.take k) ∧ sumI (l.take k) ≤ k * 1099511627776 := by
  induction k with
  | zero => simp [sumI]
  | succ k ih =>
    obtain ⟨a, b⟩ := ih (by omega)
    have := hb _ (List.getElem_mem (show k < l.length by omega))
    rw [sumI_take l k (by omega)]
    omega

set_option maxRecDepth 100000 in
set_option maxHeartbeats 1000000 in
theorem sum_any (l : List Int) (A : Option Addr) (cap : Nat) (W : World) (hr : IRow W W.heap.size A l) (hl : l.length ≤ 1000) (hb : ∀ x ∈ l, 0 ≤ x ∧ x ≤ 1099511627776) :
    Calls Try.prog 44 #[.slice A l.length cap] W fun e W' => e = .returned (.int .i64 (sumI l)) ∧ W' = W := by
  have HR := Lib.hid (And.intro hr hb)
  clear hr hb
  go_enter Try.func44, Try.ntmps44
  go_wp2
  go_loopw [8, 3] (fun i s wr => ∃ k : Nat, k ≤ l.length ∧ i = .int .i64 k ∧ s = .int .i64 (sumI (l.take k)) ∧ wr = W) (fun i _ _ => l.length - (intOf i).toNat)
  case atStart => exact ⟨0, Nat.zero_le _, rfl, rfl, rfl⟩
  case round =>
    obtain ⟨k, hk, rfl, rfl, rfl⟩ := hrel
    by_cases hlt : k < l.length
    · obtain ⟨g, o, eA, hg, d0⟩ := HR.out.1 k hlt
      have hlt' : (k : Int) < l.length := by omega
      subst eA
      have hbk := HR.out.2 _ (List.getElem_mem hlt)
      have hsb := sumI_bd l k hk HR.out.2
      have hw : IntKind.i64.wrap (sumI (l.take k) + l[k]) = sumI (l.take (k + 1)) := by
        rw [sumI_take l k hlt]
        exact IntWalk.i64_in _ (by omega)
      clear hbk hsb
      go_wp2
      go_roundw
      case rel => exact ⟨k + 1, by omega, by go_num, by first | rfl | (rw [← hw]; rfl), by first | rfl | trivial⟩
      case measure => simp [intOf]; omega
    · have hk' : ¬ (k : Int) < l.length := by omega
      have hke : k = l.length := by omega
      subst hke
      rw [List.take_length]
      go_wp2
      go_ret
      exact ⟨rfl, rfl⟩
theorem allH_take (l : List Int) (k : Nat) (h : k < l.length) (hp : hB l[k] = false) : l.all hB = false := by
  rw [List.all_eq_false]
  exact ⟨_, List.getElem_mem h, by simp [hp]⟩
set_option maxRecDepth 100000 in
set_option maxHeartbeats 1000000 in
theorem allHeat_any (l : List Int) (A : Option Addr) (cap : Nat) (W : World) (hr : IRow W W.heap.size A l) (hl : l.length ≤ 1000) :
    Calls Try.prog 37 #[.slice A l.length cap] W fun e W' => e = .returned (.bool (l.all hB)) ∧ W' = W := by
  have HR := Lib.hid hr
  clear hr
  go_enter Try.func37, Try.ntmps37
  go_wp2
  go_loopw [7] (fun i wr => ∃ k : Nat, k ≤ l.length ∧ i = .int .i64 k ∧ wr = W ∧ (l.take k).all hB = true) (fun i _ => l.length - (intOf i).toNat)
  case atStart => exact ⟨0, Nat.zero_le _, rfl, rfl, rfl⟩
  case round =>
    obtain ⟨k, hk, rfl, rfl, hall⟩ := hrel
    have H1 := Lib.hid hall
    clear hall
    by_cases hlt : k < l.length
    · obtain ⟨g, o, eA, hg, d0⟩ := HR.out k hlt
      have hlt' : (k : Int) < l.length := by omega
      subst eA
      obtain ⟨x, hx⟩ : ∃ x, x = l[k] := ⟨_, rfl⟩
      rw [← hx] at d0
      have HX := Lib.hid hx
      clear hx
      cases hb : hB x
      · go_wp2_with (first | (go_at_call 38; refine (isHeat_any _ _).mono ?_; rintro e w' ⟨rfl, rfl⟩))
        go_ret
        exact ⟨ret_bool (allH_take l k hlt (by rw [← HX.out]; exact hb)).symm, rfl⟩
      · have HB := Lib.hid hb
        go_wp2_with (first | (go_at_call 38; refine (isHeat_any _ _).mono ?_; rintro e w' ⟨rfl, rfl⟩))
        go_roundw
        case rel =>
          refine ⟨k + 1, by omega, by go_num, by first | rfl | trivial, ?_⟩
          rw [List.take_succ_eq_append_getElem hlt, List.all_append, H1.out, ← HX.out]; simp [HB.out]
        case measure => simp [intOf]; omega
    · have hk' : ¬ (k : Int) < l.length := by omega
      have hke : k = l.length := by omega
      subst hke
      have e := H1.out
      rw [List.take_length] at e
      have HE := Lib.hid e
      clear e
      go_wp2
      go_ret
      exact ⟨ret_bool HE.out.symm, rfl⟩
end Go.Proofs.Ytjfopmjphiddiaa
/- Sums over parts of pipes and slugs. -/
namespace Go.Proofs.Ytjfopmjphiddiaa

theorem vol_take (l : List Sl) (k : Nat) (h : k < l.length) : vol (l.take (k + 1)) = vol (l.take k) + l[k].v ∧ hea (l.take (k + 1)) = hea (l.take k) + l[k].h := by
  rw [List.take_succ_eq_append_getElem h, vol_app, hea_app]; simp [vol, hea]
theorem volP_app (a b : List Pp) : volP (a ++ b) = volP a + volP b ∧ heaP (a ++ b) = heaP a + heaP b := by
  induction a with
  | nil => simp [volP, heaP]
  | cons p t ih => simp only [List.cons_append, volP, heaP]; omega
theorem volP_take (l : List Pp) (k : Nat) (h : k < l.length) : volP (l.take (k + 1)) = volP (l.take k) + vol l[k].l ∧ heaP (l.take (k + 1)) = heaP (l.take k) + hea l[k].l := by
  rw [List.take_succ_eq_append_getElem h]
  have := volP_app (l.take k) [l[k]]
  simp only [volP, heaP] at this
  omega
theorem volt_le {l : List Sl} (h : okL l) (k : Nat) : 0 ≤ vol (l.take k) ∧ vol (l.take k) ≤ vol l ∧ 0 ≤ hea (l.take k) ∧ hea (l.take k) ≤ hea l := by
  have e1 := vol_app (l.take k) (l.drop k)
  have e2 := hea_app (l.take k) (l.drop k)
  rw [List.take_append_drop] at e1 e2
  have a : okL (l.take k) := fun s hs => h s (List.mem_of_mem_take hs)
  have b : okL (l.drop k) := fun s hs => h s (List.mem_of_mem_drop hs)
  have := vol_nn a; have := vol_nn b; have := hea_nn a; have := hea_nn b
  omega
theorem volP_take_le {l : List Pp} (h : okP l) (k : Nat) : 0 ≤ volP (l.take k) ∧ volP (l.take k) ≤ volP l ∧ 0 ≤ heaP (l.take k) ∧ heaP (l.take k) ≤ heaP l := by
  have e := volP_app (l.take k) (l.drop k)
  rw [List.take_append_drop] at e
  have a : okP (l.take k) := fun s hs => h s (List.mem_of_mem_take hs)
  have b : okP (l.drop k) := fun s hs => h s (List.mem_of_mem_drop hs)
  have := volP_nn a; have := volP_nn b
  omega
/-- the sum behind m slugs of pipe k -/
def partV (t : Sl) (heat : Int) (ps : List Pp) (k m : Nat) : Sl := ⟨t.v + volP (ps.take k) + vol ((ps.getD k ⟨0, []⟩).l.take m), heat + t.h + heaP (ps.take k) + hea ((ps.getD k ⟨0, []⟩).l.take m)⟩
def totalR (t : Sl) (ps : List Pp) (heat hroom : Int) : Sl × Int := if brineB t ps heat hroom = true then (⟨t.v + volP ps, heat + t.h + heaP ps⟩, 0) else (sl0, 1)
theorem partV_bd {t : Sl} {ps : List Pp} {heat hroom : Int} (h : brineB t ps heat hroom = true) (k m : Nat) :
    0 ≤ (partV t heat ps k m).v ∧ (partV t heat ps k m).v ≤ 1000000000 ∧ 0 ≤ (partV t heat ps k m).h ∧ (partV t heat ps k m).h ≤ 1099511627000000 := by
  have hy := y0_in h
  have hv := hy.va
  have hh := hy.heat
  have h0 := hy.t0; have h1 := hy.th; have h2 := hy.e0; have h3 := hy.e1; have h4 := hy.e2; have h5 := hy.t1
  have hp := volP_take_le hy.ps k
  have hb : 0 ≤ vol ((ps.getD k ⟨0, []⟩).l.take m) ∧ vol ((ps.getD k ⟨0, []⟩).l.take m) ≤ 1048576 ∧ 0 ≤ hea ((ps.getD k ⟨0, []⟩).l.take m) ∧ hea ((ps.getD k ⟨0, []⟩).l.take m) ≤ heaP ps := by
    by_cases hk : k < ps.length
    · have e : ps.getD k ⟨0, []⟩ = ps[k] := by simp [List.getD, hk]
      rw [e]
      have ho := hy.ps ps[k] (List.getElem_mem hk)
      have := volt_le ho.sl m
      have := ho.le; have := ho.r2
      have := hea_le_heaP hy.ps k hk
      simp only [y0] at *
      omega
    · have e : ps.getD k ⟨0, []⟩ = ⟨0, []⟩ := by simp [List.getD, List.getElem?_eq_none (Nat.le_of_not_lt hk)]
      rw [e]
      have := (volP_nn hy.ps).2
      simp [vol, hea]
      exact this
  simp only [y0, hA, vA, Sm.zero, partV] at *
  omega
end Go.Proofs.Ytjfopmjphiddiaa
/- Total. -/
namespace Go.Proofs.Ytjfopmjphiddiaa
open Go.RowKit Go.Shelf

theorem partV_next {t : Sl} {heat : Int} {ps : List Pp} {k m : Nat} (hk : k < ps.length) (hm : m < ps[k].l.length) : partV t heat ps k (m + 1) = (partV t heat ps k m).add ps[k].l[m] := by
  have e : ps.getD k ⟨0, []⟩ = ps[k] := by simp [List.getD, hk]
  have := vol_take ps[k].l m hm
  unfold partV Sl.add
  rw [e]
  simp only [this]
  congr 1 <;> omega
theorem partV_pipe {t : Sl} {heat : Int} {ps : List Pp} {k : Nat} (hk : k < ps.length) : partV t heat ps k ps[k].l.length = partV t heat ps (k + 1) 0 := by
  have e : ps.getD k ⟨0, []⟩ = ps[k] := by simp [List.getD, hk]
  have := volP_take ps k hk
  unfold partV
  rw [e, List.take_length]
  simp only [this, List.take_zero, vol, hea]
  congr 1 <;> omega
def TotPost (x : Sl × Int) (W : World) (e : Ending) (W' : World) : Prop := e = .returned (.tuple #[slv x.1, .int .i64 x.2]) ∧ Below W.heap.size W W'

set_option maxRecDepth 100000 in
set_option maxHeartbeats 4000000 in
theorem total_any (t : Sl) (ps : List Pp) (A : Option Addr) (cap : Nat) (heat hroom : Int) (W : World) (hr : PRow W W.heap.size A ps) (hm : ps.length ≤ maxLen) (hml : ∀ p ∈ ps, p.l.length ≤ maxLen) :
    Calls Try.prog 16 #[brv t A ps.length cap heat hroom] W (TotPost (totalR t ps heat hroom) W) := by
  have hb0 : Below W.heap.size W ((W.alloc (Obj.cells #[.int .i64 t.v, .int .i64 t.h, .slice A ps.length cap, .int .i64 heat, .int .i64 hroom] 26)).alloc (Obj.cells #[.int .i64 0, .int .i64 0] 23)) := Below.alloc (below_one _ _) (by simp) _
  have hx0 : Has ((W.alloc (Obj.cells #[.int .i64 t.v, .int .i64 t.h, .slice A ps.length cap, .int .i64 heat, .int .i64 hroom] 26)).alloc (Obj.cells #[.int .i64 0, .int .i64 0] 23)) W.heap.size 26 #[.int .i64 t.v, .int .i64 t.h, .slice A ps.length cap, .int .i64 heat, .int .i64 hroom] := (Has.new W 26 _).alloc _
  have h20 : Has ((W.alloc (Obj.cells #[.int .i64 t.v, .int .i64 t.h, .slice A ps.length cap, .int .i64 heat, .int .i64 hroom] 26)).alloc (Obj.cells #[.int .i64 0, .int .i64 0] 23)) (W.heap.size + 1) 23 #[.int .i64 0, .int .i64 0] := by
    refine Has.newAt ?_; simp
  have hs0 : ((W.alloc (Obj.cells #[.int .i64 t.v, .int .i64 t.h, .slice A ps.length cap, .int .i64 heat, .int .i64 hroom] 26)).alloc (Obj.cells #[.int .i64 0, .int .i64 0] 23)).heap.size = W.heap.size + 2 := by simp
  have H0 := Lib.hid (And.intro hb0 (And.intro hx0 (And.intro h20 hs0)))
  have HA := Lib.hid (And.intro hr (And.intro hm hml))
  clear hb0 hx0 h20 hs0 hr hm hml
  go_enter Try.func16, Try.ntmps16
  go_wp2_with fail
  refine (vb_any t ps A cap heat hroom _ ((HA.out.1.below H0.out.1).more H0.out.1.size) HA.out.2.1 HA.out.2.2).mono ?_
  rintro e w1 ⟨rfl, hb1⟩
  obtain ⟨g0, g1, g2, g3⟩ := H0.out
  have hx1 := g1.below hb1 (by omega)
  have h21 := g2.below hb1 (by omega)
  have hbW : Below W.heap.size W w1 := g0.trans (hb1.mono (by omega))
  have hs1 : W.heap.size + 2 ≤ w1.heap.size := by have := hb1.size; omega
  have c20 : w1.cell? ⟨W.heap.size + 1, 0, none⟩ = some (.int .i64 0) := h21.cell 0
  have c21 : w1.cell? ⟨W.heap.size + 1, 1, none⟩ = some (.int .i64 0) := h21.cell 1
  have f20 := h21.frozen 0
  have f21 := h21.frozen 1
  have e0 : w1.cell? ⟨W.heap.size, 0, none⟩ = some (.int .i64 t.v) := hx1.cell 0
  have e1 : w1.cell? ⟨W.heap.size, 1, none⟩ = some (.int .i64 t.h) := hx1.cell 1
  have e2 : w1.cell? ⟨W.heap.size, 2, none⟩ = some (.slice A ps.length cap) := hx1.cell 2
  have e3 : w1.cell? ⟨W.heap.size, 3, none⟩ = some (.int .i64 heat) := hx1.cell 3
  have lw : W.heap.size < w1.heap.size := by omega
  have HB := Lib.hid (And.intro hbW (And.intro hx1 h21))
  clear g0 g1 g2 g3 H0 hb1 hbW hx1 h21
  cases hv : brineB t ps heat hroom
  · have hP : Hid (totalR t ps heat hroom = (sl0, 1)) := by
      show _ = _
      unfold totalR; rw [hv]; rfl
    clear hv
    go_wp2
    obtain ⟨wz, hwz⟩ : ∃ wz, wz = (w1.setCell ⟨W.heap.size + 1, 0, none⟩ (.int .i64 0)).setCell ⟨W.heap.size + 1, 1, none⟩ (.int .i64 0) := ⟨_, rfl⟩
    rw [← hwz]
    have hz : Has wz (W.heap.size + 1) 23 #[.int .i64 0, .int .i64 0] := by
      rw [hwz]; exact (HB.out.2.2.set 0 (.int .i64 0)).set 1 (.int .i64 0)
    have q0 : wz.cell? ⟨W.heap.size + 1, 0, none⟩ = some (.int .i64 0) := hz.cell 0
    have q1 : wz.cell? ⟨W.heap.size + 1, 1, none⟩ = some (.int .i64 0) := hz.cell 1
    refine bodyPost_ret (v := .tuple #[slv sl0, .int .i64 1]) (by simp [results, Try.results16, go_sem, q0, q1, sl0]) rfl ?_
    rw [hP.out]
    refine ⟨rfl, ?_⟩
    rw [hwz]
    exact (HB.out.1.setCell (by simp only; omega) _).setCell (by simp only; omega) _
  · have hlens : ps.length ≤ 8 ∧ ∀ p ∈ ps, p.l.length ≤ 16 := ⟨(y0_in hv).len, fun p hp => ((y0_in hv).ps p hp).len⟩
    have HV := Lib.hid (And.intro hv hlens)
    have hbd := partV_bd hv 0 0
    have ep : partV t heat ps 0 0 = (⟨0, heat⟩ : Sl).add t := by simp [partV, Sl.add, volP, heaP, vol, hea]
    rw [ep] at hbd
    have hadd := fun w hg => add_any w1.heap.size 0 23 #[.int .i64 0, .int .i64 heat] ⟨0, heat⟩ t w hg rfl rfl (by simp only [Sl.add] at hbd ⊢; omega) (by simp only [Sl.add] at hbd ⊢; omega)
    have HAD := Lib.hid hadd
    have h8 := hlens.1
    clear hv hlens hbd hadd
    go_wp2_with fail
    refine (HAD.out _ (Has.new w1 23 _)).mono ?_
    rintro e w2 ⟨⟨_, rfl⟩, ho2, ha2⟩
    have hb2 : Below w1.heap.size w1 w2 := (below_one w1 _).trans (ho2.below (by simp) (fun i hi => by omega))
    have ha2 : Has w2 w1.heap.size 23 #[.int .i64 (partV t heat ps 0 0).v, .int .i64 (partV t heat ps 0 0).h] := by rw [ep]; exact ha2
    have d2 := cell_below e2 hb2
    have hs2 := hb2.size
    have H2 := Lib.hid (And.intro hb2 ha2)
    clear ho2 ha2 hb2 ep e0 e1 e2 e3 c20 c21 f20 f21
    go_wp2
    go_loopw [22] (fun i wr => ∃ k : Nat, k ≤ ps.length ∧ i = .int .i64 k ∧ Below w1.heap.size w1 wr ∧ Has wr w1.heap.size 23 #[.int .i64 (partV t heat ps k 0).v, .int .i64 (partV t heat ps k 0).h]) (fun i _ => ps.length - (intOf i).toNat)
    case atStart => exact ⟨0, Nat.zero_le _, rfl, H2.out.1, H2.out.2⟩
    case round =>
      obtain ⟨k, hk, rfl, hbr, har⟩ := hrel
      have hsr := hbr.size
      have hbWr : Below W.heap.size W wr := HB.out.1.trans (hbr.mono (by omega))
      by_cases hlt : k < ps.length
      · obtain ⟨g, o, A', cap', eA, hg, d0, d1, hs⟩ := (HA.out.1.below hbWr) k hlt
        have hlt' : (k : Int) < ps.length := by omega
        have hgw : g < wr.heap.size := by omega
        subst eA
        have h16 := HV.out.2.2 _ (List.getElem_mem hlt)
        obtain ⟨p, hp⟩ : ∃ p, p = ps[k] := ⟨_, rfl⟩
        rw [← hp] at d0 d1 hs h16
        have HQ := Lib.hid (And.intro hbr (And.intro har (And.intro hs (And.intro hp hbWr))))
        clear hbr har hs hp hbWr
        go_wp2
        obtain ⟨wo, rfl⟩ : ∃ wo, wo = wr := ⟨_, rfl⟩
        go_loopw [29] (fun j wx => ∃ m : Nat, m ≤ p.l.length ∧ j = .int .i64 m ∧ Below w1.heap.size wo wx ∧ Has wx w1.heap.size 23 #[.int .i64 (partV t heat ps k m).v, .int .i64 (partV t heat ps k m).h]) (fun j _ => p.l.length - (intOf j).toNat)
        case atStart => exact ⟨0, Nat.zero_le _, rfl, (below_one _ _).mono hsr, HQ.out.2.1.alloc _⟩
        case round =>
          obtain ⟨m, hm, rfl, hbx, hax⟩ := hrel
          have hsx := hbx.size
          have hpk := HQ.out.2.2.2.1
          by_cases hmt : m < p.l.length
          · obtain ⟨g', o', eA', hg', s0, s1⟩ := (HQ.out.2.2.1.below (hbx.mono (by omega))) m hmt
            have hmt' : (m : Int) < p.l.length := by omega
            have hgw' : g' < wr.heap.size := by omega
            subst eA'
            have hmk : m < ps[k].l.length := by rw [← hpk]; exact hmt
            have hb1 := partV_bd HV.out.1 k (m + 1)
            have en : partV t heat ps k (m + 1) = (partV t heat ps k m).add p.l[m] := by
              rw [partV_next hlt hmk]
              subst hpk; rfl
            rw [en] at hb1
            have hadd := fun w hg => add_any w1.heap.size 0 23 #[.int .i64 (partV t heat ps k m).v, .int .i64 (partV t heat ps k m).h] (partV t heat ps k m) p.l[m] w hg rfl rfl (by simp only [Sl.add] at hb1 ⊢; omega) (by simp only [Sl.add] at hb1 ⊢; omega)
            have HAD2 := Lib.hid (And.intro hadd (And.intro hbx (And.intro hax en)))
            clear hadd hb1 hbx hax en hpk hmk
            go_wp2_with fail
            refine (HAD2.out.1 _ (HAD2.out.2.2.1.alloc _)).mono ?_
            rintro e w5 ⟨⟨_, rfl⟩, ho5, ha5⟩
            have H5 := Lib.hid (And.intro ho5 ha5)
            clear ho5 ha5
            go_wp2
            go_roundw
            case rel =>
              refine ⟨m + 1, by omega, by go_num, (HAD2.out.2.1.alloc (by omega) _).trans (H5.out.1.below (by simp; omega) (fun i hi => by omega)), ?_⟩
              rw [HAD2.out.2.2.2]
              exact H5.out.2
            case measure => simp [intOf]; omega
          · have hmt' : ¬ (m : Int) < p.l.length := by omega
            have hme : m = p.l.length := by omega
            have HX := Lib.hid (And.intro hbx (And.intro hax (And.intro hme hpk)))
            clear hbx hax hme hpk
            go_wp2
            go_roundw
            case rel =>
              refine ⟨k + 1, by omega, by go_num, HQ.out.1.trans HX.out.1, ?_⟩
              rw [← partV_pipe hlt, ← HX.out.2.2.2, ← HX.out.2.2.1]
              exact HX.out.2.1
            case measure => simp [intOf]; omega
      · have hk' : ¬ (k : Int) < ps.length := by omega
        have hke : k = ps.length := by omega
        subst hke
        have eT : partV t heat ps ps.length 0 = ⟨t.v + volP ps, heat + t.h + heaP ps⟩ := by simp [partV, vol, hea]
        have hP : Hid (totalR t ps heat hroom = (partV t heat ps ps.length 0, 0)) := by
          show _ = _
          unfold totalR; rw [if_pos HV.out.1, eT]
        have h2r := HB.out.2.2.below hbr (by omega)
        have c20 : wr.cell? ⟨W.heap.size + 1, 0, none⟩ = some (.int .i64 0) := h2r.cell 0
        have c21 : wr.cell? ⟨W.heap.size + 1, 1, none⟩ = some (.int .i64 0) := h2r.cell 1
        have f20 := h2r.frozen 0
        have f21 := h2r.frozen 1
        obtain ⟨x, hx⟩ : ∃ x, x = partV t heat ps ps.length 0 := ⟨_, rfl⟩
        rw [← hx] at har hP
        have a0 : wr.cell? ⟨w1.heap.size, 0, none⟩ = some (.int .i64 x.v) := har.cell 0
        have a1 : wr.cell? ⟨w1.heap.size, 1, none⟩ = some (.int .i64 x.h) := har.cell 1
        have HQ := Lib.hid (And.intro hbWr h2r)
        clear hbr har hbWr h2r eT hx
        go_wp2
        obtain ⟨wz, hwz⟩ : ∃ wz, wz = (wr.setCell ⟨W.heap.size + 1, 0, none⟩ (.int .i64 x.v)).setCell ⟨W.heap.size + 1, 1, none⟩ (.int .i64 x.h) := ⟨_, rfl⟩
        rw [← hwz]
        have hz : Has wz (W.heap.size + 1) 23 #[.int .i64 x.v, .int .i64 x.h] := by
          rw [hwz]; exact (HQ.out.2.set 0 (.int .i64 x.v)).set 1 (.int .i64 x.h)
        have q0 : wz.cell? ⟨W.heap.size + 1, 0, none⟩ = some (.int .i64 x.v) := hz.cell 0
        have q1 : wz.cell? ⟨W.heap.size + 1, 1, none⟩ = some (.int .i64 x.h) := hz.cell 1
        refine bodyPost_ret (v := .tuple #[slv x, .int .i64 0]) (by simp [results, Try.results16, go_sem, q0, q1]) rfl ?_
        rw [hP.out]
        refine ⟨rfl, ?_⟩
        rw [hwz]
        exact (HQ.out.1.setCell (by simp only; omega) _).setCell (by simp only; omega) _
end Go.Proofs.Ytjfopmjphiddiaa
