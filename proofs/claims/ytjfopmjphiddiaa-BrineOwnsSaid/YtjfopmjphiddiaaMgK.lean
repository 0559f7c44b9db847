/- Whether a tank, a pipe, brine are valid. -/
import Derived.Test.YtjfopmjphiddiaaMgJ
import Derived.Laws.StructEq
namespace Go.Proofs.Ytjfopmjphiddiaa
open Go.RowKit Go.Shelf

theorem Try.stood23 : Try.prog.stoodInHeld 23 = false := by kernel_rfl
theorem Try.fields23 : Try.prog.underlying 23 = some (.struct (Try.prog.fieldsOf 23)) := by kernel_rfl
theorem equal23 (n : Nat) (x y : Sl) (w : World) : (Op.equalIn (n + 2) 23 (slv x) (slv y)).run Try.prog w = .ok (decide (x = y)) w := by
  rw [run_equalIn_struct w (n + 1) 23 _ _ Try.fields23 Try.stood23]
  obtain ⟨a, b⟩ := x
  obtain ⟨c, d⟩ := y
  simp [Program.fieldsOf, Try.underlying23, Op.eqFields, go_sem]
  split
  · split <;> simp_all
  · simp_all
theorem eql23 (x y : Sl) (w : World) : (binOp .eql 23 (slv x) (slv y)).run Try.prog w = .ok (.bool (decide (x = y))) w := by
  rw [run_eql_struct, equal23 9998]; rfl
def tankB (t : Sl) : Bool := decide (t = sl0) || (lB t.v && hB t.h)
def pipeB (p : Pp) : Bool := lB p.room && decide (p.l.length ≤ 16) && p.l.all (fun s => lB s.v && hB s.h) && decide (vol p.l ≤ p.room)
def brineB (t : Sl) (ps : List Pp) (heat hroom : Int) : Bool := tankB t && decide (1 ≤ ps.length) && decide (ps.length ≤ 8) && ps.all pipeB && hB hroom && decide (0 ≤ heat) && decide (heat ≤ hroom)
def SRow (w : World) (B : Nat) (A : Option Addr) (l : List Sl) : Prop :=
  ∀ k (h : k < l.length), ∃ g o, A = some ⟨g, o, none⟩ ∧ g < B ∧ w.cell? ⟨g, o + k * 2, none⟩ = some (iv l[k].v) ∧ w.cell? ⟨g, o + k * 2 + 1, none⟩ = some (iv l[k].h)
def PRow (w : World) (B : Nat) (A : Option Addr) (ps : List Pp) : Prop :=
  ∀ k (h : k < ps.length), ∃ g o A' cap, A = some ⟨g, o, none⟩ ∧ g < B ∧ w.cell? ⟨g, o + k * 2, none⟩ = some (iv ps[k].room) ∧ w.cell? ⟨g, o + k * 2 + 1, none⟩ = some (.slice A' ps[k].l.length cap) ∧ SRow w B A' ps[k].l
theorem SRow.below {w w' : World} {B : Nat} {A : Option Addr} {l : List Sl} (h : SRow w B A l) (hb : Below B w w') : SRow w' B A l := fun k hk => by
  obtain ⟨g, o, e, hg, c0, c1⟩ := h k hk
  exact ⟨g, o, e, hg, (hb.cell (p := ⟨g, _, none⟩) hg).trans c0, (hb.cell (p := ⟨g, _, none⟩) hg).trans c1⟩
theorem PRow.below {w w' : World} {B : Nat} {A : Option Addr} {ps : List Pp} (h : PRow w B A ps) (hb : Below B w w') : PRow w' B A ps := fun k hk => by
  obtain ⟨g, o, A', cap, e, hg, c0, c1, hs⟩ := h k hk
  exact ⟨g, o, A', cap, e, hg, (hb.cell (p := ⟨g, _, none⟩) hg).trans c0, (hb.cell (p := ⟨g, _, none⟩) hg).trans c1, hs.below hb⟩
def BoolPost (b : Bool) (W : World) (e : Ending) (W' : World) : Prop := e = .returned (.bool b) ∧ Below W.heap.size W W'

set_option maxRecDepth 100000 in
set_option maxHeartbeats 1000000 in
theorem vt_any (t : Sl) (W : World) : Calls Try.prog 50 #[slv t] W (BoolPost (tankB t) W) := by
  have he : ∀ w, (binOp .eql 23 (.agg #[.int .i64 t.v, .int .i64 t.h]) (.agg #[.int .i64 0, .int .i64 0])).run Try.prog w = .ok (.bool (decide (t = sl0))) w := fun w => eql23 t sl0 w
  obtain ⟨b, hb⟩ : ∃ b, b = decide (t = sl0) := ⟨_, rfl⟩
  rw [← hb] at he
  have HB := Lib.hid hb
  clear hb
  cases b
  · cases h1 : lB t.v
    · go_enter Try.func50, Try.ntmps50
      go_wp2_with (first | (go_at_call 66; refine (isLitres_any _ _).mono ?_; rintro e w' ⟨rfl, rfl⟩) | (go_at_call 38; refine (isHeat_any _ _).mono ?_; rintro e w' ⟨rfl, rfl⟩))
      go_ret
      exact ⟨ret_bool (by have := HB.out; simp [tankB, h1]; simpa using this), below_one _ _⟩
    · go_enter Try.func50, Try.ntmps50
      go_wp2_with (first | (go_at_call 66; refine (isLitres_any _ _).mono ?_; rintro e w' ⟨rfl, rfl⟩) | (go_at_call 38; refine (isHeat_any _ _).mono ?_; rintro e w' ⟨rfl, rfl⟩))
      go_ret
      exact ⟨ret_bool (by have := HB.out; unfold tankB; rw [← this, h1]; rfl), below_one _ _⟩
  · go_enter Try.func50, Try.ntmps50
    go_wp2
    go_ret
    exact ⟨ret_bool (by have := HB.out; unfold tankB; rw [← this]; rfl), below_one _ _⟩

theorem all_take (l : List Sl) (p : Sl → Bool) (k : Nat) (h : k < l.length) (hp : p l[k] = false) : l.all p = false := by
  rw [List.all_eq_false]
  exact ⟨_, List.getElem_mem h, by simp [hp]⟩
set_option maxRecDepth 100000 in
set_option maxHeartbeats 2000000 in
theorem vp_any (p : Pp) (A : Option Addr) (cap : Nat) (W : World) (hs : SRow W W.heap.size A p.l) (hm : p.l.length ≤ maxLen) : Calls Try.prog 51 #[.agg #[.int .i64 p.room, .slice A p.l.length cap]] W (BoolPost (pipeB p) W) := by
  unfold maxLen at hm
  cases h1 : lB p.room
  · go_enter Try.func51, Try.ntmps51
    go_wp2_with (first | (go_at_call 66; refine (isLitres_any _ _).mono ?_; rintro e w' ⟨rfl, rfl⟩))
    go_ret
    exact ⟨ret_bool (by simp [pipeB, h1]), below_one _ _⟩
  · by_cases h16 : p.l.length ≤ 16
    · have h16' : (p.l.length : Int) ≤ 16 := by omega
      have HS := Lib.hid hs
      have hr := lB_iff.1 h1
      have HR := Lib.hid (And.intro hr h16)
      clear hs hr hm h16
      go_enter Try.func51, Try.ntmps51
      go_wp2_with (first | (go_at_call 66; refine (isLitres_any _ _).mono ?_; rintro e w' ⟨rfl, rfl⟩))
      go_loopw [3, 21] (fun f i wr => ∃ k : Nat, k ≤ p.l.length ∧ i = .int .i64 k ∧ f = .int .i64 (p.room - vol (p.l.take k)) ∧ Below W.heap.size W wr ∧ (p.l.take k).all (fun s => lB s.v && hB s.h) = true) (fun _ i _ => p.l.length - (intOf i).toNat)
      case atStart => exact ⟨0, Nat.zero_le _, rfl, by simp [vol], below_one _ _, rfl⟩
      case round =>
        obtain ⟨k, hk, rfl, rfl, hb, hall⟩ := hrel
        have hbs := hb.size
        have HB := Lib.hid (And.intro hb hall)
        by_cases hlt : k < p.l.length
        · obtain ⟨g, o, eA, hg, c0, c1⟩ := (HS.out.below hb) k hlt
          have eA' : A = some ⟨g, o, none⟩ := eA
          have hlt' : (k : Int) < p.l.length := by omega
          subst eA'
          have hgw : g < wr.heap.size := by omega
          clear hb hall eA
          cases hx : lB p.l[k].v
          · have hF : pipeB p = false := by
              have := all_take p.l (fun s => lB s.v && hB s.h) k hlt (by simp [hx])
              unfold pipeB; rw [this]; simp
            have HF := Lib.hid hF
            clear hF
            go_wp2_with (first | (go_at_call 66; refine (isLitres_any _ _).mono ?_; rintro e w' ⟨rfl, rfl⟩) | (go_at_call 38; refine (isHeat_any _ _).mono ?_; rintro e w' ⟨rfl, rfl⟩))
            go_ret
            exact ⟨ret_bool HF.out.symm, HB.out.1.alloc (by omega) _⟩
          · cases hy : hB p.l[k].h
            · have hF : pipeB p = false := by
                have := all_take p.l (fun s => lB s.v && hB s.h) k hlt (by simp [hy])
                unfold pipeB; rw [this]; simp
              have HF := Lib.hid hF
              clear hF
              go_wp2_with (first | (go_at_call 66; refine (isLitres_any _ _).mono ?_; rintro e w' ⟨rfl, rfl⟩) | (go_at_call 38; refine (isHeat_any _ _).mono ?_; rintro e w' ⟨rfl, rfl⟩))
              go_ret
              exact ⟨ret_bool HF.out.symm, HB.out.1.alloc (by omega) _⟩
            · have hall2 : (p.l.take (k + 1)).all (fun s => lB s.v && hB s.h) = true := by
                rw [List.take_succ_eq_append_getElem hlt, List.all_append, HB.out.2]; simp [hx, hy]
              have hbd : ∀ (l : List Sl), l.all (fun s => lB s.v && hB s.h) = true → 0 ≤ vol l ∧ vol l ≤ l.length * 1048576 := by
                intro l
                induction l with
                | nil => intro _; simp [vol]
                | cons s t ih =>
                  intro hh
                  simp only [List.all_cons, Bool.and_eq_true] at hh
                  have h1 := lB_iff.1 hh.1.1
                  have h2 := ih hh.2
                  simp only [vol, List.length_cons]; omega
              have hb1 := hbd _ HB.out.2
              have hb2 := hbd _ hall2
              have hvs := vol_take_succ p.l k hlt
              have hl1 : (p.l.take k).length = k := by simp; omega
              have hl2 : (p.l.take (k + 1)).length = k + 1 := by simp; omega
              have kw : IntKind.i64.wrap (p.room - vol (p.l.take k) - p.l[k].v) = p.room - vol (p.l.take k) - p.l[k].v := IntWalk.i64_in _ (by have := HR.out; omega)
              have H2 := Lib.hid (And.intro hall2 hvs)
              clear hall2 hbd hb1 hb2 hvs hl1 hl2
              go_wp2_with (first | (go_at_call 66; refine (isLitres_any _ _).mono ?_; rintro e w' ⟨rfl, rfl⟩) | (go_at_call 38; refine (isHeat_any _ _).mono ?_; rintro e w' ⟨rfl, rfl⟩))
              go_roundw
              case rel =>
                refine ⟨k + 1, by omega, by go_num, ?_, HB.out.1.alloc (by omega) _, H2.out.1⟩
                rw [H2.out.2]; first | rfl | go_num | (congr 1; omega)
              case measure => simp [intOf]; omega
        · obtain rfl : k = p.l.length := by omega
          simp only [List.take_length] at hall ⊢
          have HA := Lib.hid hall
          clear hb hall
          go_wp2
          go_ret
          refine ⟨ret_bool ?_, HB.out.1⟩
          unfold pipeB
          rw [h1, HA.out, decide_eq_true HR.out.2]
          simp
    · have h16' : ¬ ((p.l.length : Int) ≤ 16) := by omega
      go_enter Try.func51, Try.ntmps51
      go_wp2_with (first | (go_at_call 66; refine (isLitres_any _ _).mono ?_; rintro e w' ⟨rfl, rfl⟩))
      go_ret
      exact ⟨ret_bool (by simp [pipeB, h16]), below_one _ _⟩
end Go.Proofs.Ytjfopmjphiddiaa
/- Whether brine is valid. -/
namespace Go.Proofs.Ytjfopmjphiddiaa
open Go.RowKit Go.Shelf

abbrev brv (t : Sl) (A : Option Addr) (n cap : Nat) (heat hroom : Int) : Value := .agg #[.int .i64 t.v, .int .i64 t.h, .slice A n cap, .int .i64 heat, .int .i64 hroom]
theorem allp_take (l : List Pp) (k : Nat) (h : k < l.length) (hp : pipeB l[k] = false) : l.all pipeB = false := by
  rw [List.all_eq_false]
  exact ⟨_, List.getElem_mem h, by simp [hp]⟩
theorem bool_below {b : Bool} {W w' : World} {o : Obj} (hb : Below (W.alloc o).heap.size (W.alloc o) w') : BoolPost b W (.returned (.bool b)) w' := ⟨rfl, (below_one _ _).trans (hb.mono (by simp))⟩

set_option maxRecDepth 100000 in
set_option maxHeartbeats 4000000 in
theorem vb_any (t : Sl) (ps : List Pp) (A : Option Addr) (cap : Nat) (heat hroom : Int) (W : World) (hr : PRow W W.heap.size A ps) (hm : ps.length ≤ maxLen) (hml : ∀ p ∈ ps, p.l.length ≤ maxLen) :
    Calls Try.prog 31 #[brv t A ps.length cap heat hroom] W (BoolPost (brineB t ps heat hroom) W) := by
  unfold maxLen at hm
  cases h1 : tankB t
  · go_enter Try.func31, Try.ntmps31
    go_wp2_with fail
    refine (vt_any t _).mono ?_
    rintro e w1 ⟨rfl, hb⟩
    rw [h1]
    go_wp2
    go_ret
    exact ⟨ret_bool (by simp [brineB, h1]), (below_one _ _).trans (hb.mono (by simp))⟩
  · by_cases h0 : ps.length < 1
    · have h0' : (ps.length : Int) < 1 := by omega
      go_enter Try.func31, Try.ntmps31
      go_wp2_with fail
      refine (vt_any t _).mono ?_
      rintro e w1 ⟨rfl, hb⟩
      rw [h1]
      have c2 : w1.cell? ⟨W.heap.size, 2, none⟩ = some (.slice A ps.length cap) := cell_below ((Has.new W 26 #[.int .i64 t.v, .int .i64 t.h, .slice A ps.length cap, .int .i64 heat, .int .i64 hroom]).cell 2) hb
      go_wp2
      go_ret
      exact ⟨ret_bool (by unfold brineB; rw [decide_eq_false (show ¬ 1 ≤ ps.length by omega)]; simp), (below_one _ _).trans (hb.mono (by simp))⟩
    · by_cases h8 : 8 < ps.length
      · have h0' : ¬ ((ps.length : Int) < 1) := by omega
        have h8' : (8 : Int) < ps.length := by omega
        go_enter Try.func31, Try.ntmps31
        go_wp2_with fail
        refine (vt_any t _).mono ?_
        rintro e w1 ⟨rfl, hb⟩
        rw [h1]
        have c2 : w1.cell? ⟨W.heap.size, 2, none⟩ = some (.slice A ps.length cap) := cell_below ((Has.new W 26 #[.int .i64 t.v, .int .i64 t.h, .slice A ps.length cap, .int .i64 heat, .int .i64 hroom]).cell 2) hb
        go_wp2
        go_ret
        exact ⟨ret_bool (by simp [brineB]; omega), (below_one _ _).trans (hb.mono (by simp))⟩
      · have h0' : ¬ ((ps.length : Int) < 1) := by omega
        have h8' : ¬ ((8 : Int) < ps.length) := by omega
        have HR := Lib.hid (And.intro hr (And.intro hml (And.intro h0 h8)))
        have hne : ¬ (ps = []) := fun e => h0 (by rw [e]; decide)
        clear hr hml hm h0 h8
        go_enter Try.func31, Try.ntmps31
        go_wp2_with fail
        refine (vt_any t _).mono ?_
        rintro e w1 ⟨rfl, hb⟩
        rw [h1]
        have hbW : Below W.heap.size W w1 := (below_one _ _).trans (hb.mono (by simp))
        have hx : Has w1 W.heap.size 26 #[.int .i64 t.v, .int .i64 t.h, .slice A ps.length cap, .int .i64 heat, .int .i64 hroom] := (Has.new W 26 _).below hb (by simp)
        have c2 : w1.cell? ⟨W.heap.size, 2, none⟩ = some (.slice A ps.length cap) := hx.cell 2
        have c3 : w1.cell? ⟨W.heap.size, 3, none⟩ = some (.int .i64 heat) := hx.cell 3
        have c4 : w1.cell? ⟨W.heap.size, 4, none⟩ = some (.int .i64 hroom) := hx.cell 4
        have hz := hx.lt
        have HB := Lib.hid hbW
        clear hb hbW hx
        go_wp2
        go_loopw [24] (fun i wr => ∃ k : Nat, k ≤ ps.length ∧ i = .int .i64 k ∧ Below w1.heap.size w1 wr ∧ (ps.take k).all pipeB = true) (fun i _ => ps.length - (intOf i).toNat)
        case atStart => exact ⟨0, Nat.zero_le _, rfl, Below.refl _ _, rfl⟩
        case round =>
          obtain ⟨k, hk, rfl, hbr, hall⟩ := hrel
          have hBW : Below W.heap.size W wr := HB.out.trans (hbr.mono (by omega))
          have y3 := cell_below c3 hbr
          have y4 := cell_below c4 hbr
          have hbs := hbr.size
          have H1 := Lib.hid (And.intro hbr (And.intro hall hBW))
          clear hbr hall
          by_cases hlt : k < ps.length
          · obtain ⟨g, o, A', cap', eA, hg, d0, d1, hs⟩ := (HR.out.1.below hBW) k hlt
            have hlt' : (k : Int) < ps.length := by omega
            subst eA
            have hgw : g < wr.heap.size := by omega
            have hp := fun w2 (hb2 : Below wr.heap.size wr w2) => vp_any ps[k] A' cap' w2 ((fun m hm => by
              obtain ⟨g', o', e', hg', q0, q1⟩ := (hs.below ((hb2).mono (by have := hBW.size; omega))) m hm
              exact ⟨g', o', e', by have := hb2.size; have := hBW.size; omega, q0, q1⟩) : SRow w2 w2.heap.size A' ps[k].l) (HR.out.2.1 _ (List.getElem_mem hlt))
            have HP := Lib.hid hp
            clear hp hs hBW
            cases hx : pipeB ps[k]
            · go_wp2_with fail
              refine (HP.out _ (below_one _ _)).mono ?_
              rintro e w3 ⟨rfl, hb3⟩
              rw [hx]
              go_wp2
              go_ret
              refine ⟨ret_bool (by have := allp_take ps k hlt hx; unfold brineB; rw [this]; simp), ?_⟩
              exact (H1.out.2.2.alloc (by omega) _).trans (hb3.mono (by simp; omega))
            · go_wp2_with fail
              refine (HP.out _ (below_one _ _)).mono ?_
              rintro e w3 ⟨rfl, hb3⟩
              rw [hx]
              have H3 := Lib.hid (H1.out.1.trans (((below_one wr _).trans (hb3.mono (by simp))).mono hbs))
              have hall2 : (ps.take (k + 1)).all pipeB = true := by
                rw [List.take_succ_eq_append_getElem hlt, List.all_append, H1.out.2.1]; simp [hx]
              have H2 := Lib.hid hall2
              clear hall2 hb3
              go_wp2
              go_roundw
              case rel => exact ⟨k + 1, by omega, by go_num, H3.out, H2.out⟩
              case measure => simp [intOf]; omega
          · obtain rfl : k = ps.length := by omega
            have hallp : ps.all pipeB = true := by have := H1.out.2.1; rwa [List.take_length] at this
            have hpre : brineB t ps heat hroom = (hB hroom && decide (0 ≤ heat) && decide (heat ≤ hroom)) := by
              unfold brineB; rw [h1, hallp, decide_eq_true (show 1 ≤ ps.length by have := HR.out; omega), decide_eq_true (show ps.length ≤ 8 by have := HR.out; omega)]; simp
            have HQ := Lib.hid hpre
            clear hpre hallp hBW
            cases z1 : hB hroom
            · go_wp2_with (first | (go_at_call 38; refine (isHeat_any _ _).mono ?_; rintro e w' ⟨rfl, rfl⟩))
              go_ret
              exact ⟨ret_bool (by rw [HQ.out, z1]; rfl), H1.out.2.2⟩
            · by_cases z2 : 0 ≤ heat
              · by_cases z3 : heat ≤ hroom
                · go_wp2_with (first | (go_at_call 38; refine (isHeat_any _ _).mono ?_; rintro e w' ⟨rfl, rfl⟩))
                  go_ret
                  exact ⟨ret_bool (by rw [HQ.out, z1]; simp [z2, z3]), H1.out.2.2⟩
                · go_wp2_with (first | (go_at_call 38; refine (isHeat_any _ _).mono ?_; rintro e w' ⟨rfl, rfl⟩))
                  go_ret
                  exact ⟨ret_bool (by rw [HQ.out, z1]; simp; omega), H1.out.2.2⟩
              · go_wp2_with (first | (go_at_call 38; refine (isHeat_any _ _).mono ?_; rintro e w' ⟨rfl, rfl⟩))
                go_ret
                exact ⟨ret_bool (by rw [HQ.out, z1]; simp; omega), H1.out.2.2⟩
end Go.Proofs.Ytjfopmjphiddiaa
