/- drain: the first litres flow out, slug by slug. -/
import Derived.Test.YtjfopmjphiddiaaMgB
import Derived.Test.YtjfopmjphiddiaaRange
import Derived.RangeFuncNested
import Derived.RangeFuncBound
import Derived.RangeFuncLeaves
import Derived.Shelf.RegionOpen
import Derived.OwnWalkIn
import Derived.TacticsInMore
import Derived.LoopNIn
import Derived.LoopIn
import Derived.Deep.RegionLawGrows
namespace Go.Proofs.Ytjfopmjphiddiaa
open Go.RowKit Go.Shelf
attribute [local go_sem] Oper.semAt_some

/-- the pipes behind one, the tank, and the rest -/
structure Yx where
  ps : List Pp
  t : Sl
  r : Ho
/-- a circuit in memory, looked at from one of its pipes -/
def Here (W : World) (Bc Bp : Nat) (hd : List Qu) (q : Qu) (y : Yx) (qs : List Qu) : Prop :=
  ∃ tl, qs = hd ++ q :: tl ∧ tl.map Qu.pp = y.ps ∧ Circ W Bc Bp y.t qs y.r
section
variable {W W' : World} {Bc Bp : Nat} {hd qs : List Qu} {q q' : Qu} {y : Yx}
theorem Here.circ (h : Here W Bc Bp hd q y qs) : Circ W Bc Bp y.t qs y.r := by obtain ⟨_, _, _, h⟩ := h; exact h
theorem Here.below (h : Here W Bc Bp hd q y qs) (hb : Below W.heap.size W W') : Here W' Bc Bp hd q y qs := by
  obtain ⟨tl, h1, h2, h3⟩ := h
  exact ⟨tl, h1, h2, h3.below hb⟩
theorem Here.at (h : Here W Bc Bp hd q y qs) : ∃ hi : hd.length < qs.length, qs[hd.length] = q := by
  obtain ⟨tl, rfl, _, _⟩ := h
  exact ⟨by simp, by simp⟩
theorem Here.qhas (h : Here W Bc Bp hd q y qs) : QHas W q := by
  obtain ⟨tl, rfl, _, h⟩ := h
  exact h.q q (by simp)
theorem Here.ne (h : Here W Bc Bp hd q y qs) : q.g ≠ Bp := by
  obtain ⟨tl, rfl, _, h⟩ := h
  exact (h.nc q (by simp)).2
theorem Here.pc (h : Here W Bc Bp hd q y qs) : (qcells qs)[hd.length * 2]? = some (iv q.room) ∧ (qcells qs)[hd.length * 2 + 1]? = some q.sv := by
  obtain ⟨hi, e⟩ := h.at
  have := qcells_at qs hd.length hi
  rwa [e] at this
/-- the pipe that is looked at has turned -/
theorem Here.upd (h : Here W Bc Bp hd q y qs) (hr : q'.room = q.room) (hg : q'.g = q.g ∨ W.heap.size ≤ q'.g)
    (hp : Has W' Bp 88 ((qcells qs).setIfInBounds (hd.length * 2 + 1) q'.sv)) (hq : QHas W' q') (ho : Only (fun k => k = Bp ∨ k = q.g) W W') : ∃ qs', Here W' Bc Bp hd q' y qs' ∧ Mv Bc Bp W qs W' qs' := by
  obtain ⟨hi, e⟩ := h.at
  obtain ⟨tl, h1, h2, h3⟩ := h
  obtain ⟨k1, k2⟩ := h3.upd hi (q := q') (by rw [e]; exact hr) (by rw [e]; exact hg) hp hq (by rw [e]; exact ho)
  refine ⟨_, ⟨tl, ?_, h2, k1⟩, k2⟩
  rw [h1]; simp
end

/-- what is asked of the one who takes slugs -/
def Taker (l Bc Bp : Nat) (W : World) (hd qs : List Qu) (F : Yx → Sl → Yx) (G : Yx → Sl → Prop) : Prop :=
  ∀ (W1 : World) (qs1 : List Qu) (q1 : Qu) (y1 : Yx) (s : Sl), Mv Bc Bp W qs W1 qs1 → Here W1 Bc Bp hd q1 y1 qs1 → okS s → G y1 s →
    YieldAt Fence.wide 2 Try.prog l #[slv s] W1 fun e W2 => e = .returned (.bool true) ∧ ∃ qs2, Mv Bc Bp W1 qs1 W2 qs2 ∧ Here W2 Bc Bp hd q1 (F y1 s) qs2

def DrainPost (Bc Bp : Nat) (W : World) (hd qs : List Qu) (q : Qu) (y : Yx) (F : Yx → Sl → Yx) (n : Int) (e : Ending) (W' : World) : Prop :=
  (∃ v, e = .returned v) ∧ ∃ qs' q', Mv Bc Bp W qs W' qs' ∧ q'.room = q.room ∧ q'.l = (drainL q.l n).2 ∧ Here W' Bc Bp hd q' ((drainL q.l n).1.foldl F y) qs'

/-- in the loop -/
def DrainIn (Bc Bp : Nat) (W : World) (hd qs : List Qu) (q : Qu) (y : Yx) (F : Yx → Sl → Yx) (n left : Int) (wr : World) : Prop :=
  ∃ qs1 q1 a, Mv Bc Bp W qs wr qs1 ∧ q1.room = q.room ∧ Here wr Bc Bp hd q1 (a.foldl F y) qs1 ∧ drainL q.l n = (a ++ (drainL q1.l left).1, (drainL q1.l left).2) ∧ okL q1.l ∧ left ≤ vol q1.l ∧ vol q1.l ≤ vol q.l ∧ hea q1.l ≤ hea q.l

theorem cut_more {l : List Sl} {n : Int} {s : Sl} {t : List Sl} (hl : l = s :: t) (hok : okL l) (h1 : 1 ≤ n) (h2 : n ≤ vol l) :
    okS (cutF n s t).1 ∧ okL (cutF n s t).2 ∧ 1 ≤ (cutF n s t).1.v ∧ (cutF n s t).1.v ≤ n ∧ n - (cutF n s t).1.v ≤ vol (cutF n s t).2 ∧ vol (cutF n s t).2 ≤ vol l ∧ hea (cutF n s t).2 ≤ hea l := by
  subst hl
  obtain ⟨hs, ht⟩ := okL_cons.1 hok
  have := hs.1
  have := hs.2
  have := vol_nn ht
  unfold cutF
  by_cases hv : n < s.v
  · rw [if_pos hv]
    have hp := part_bd hs.2 (by omega : 0 ≤ n) hs.1 (by omega)
    exact ⟨takeO_ok hs h1 (by omega), okL_cons.2 ⟨takeR_ok hs h1 hv, ht⟩, h1, by simp [takeO], by simp only [takeO, vol, takeR]; omega, by simp only [vol, takeR]; omega, by simp only [hea, takeR]; omega⟩
  · rw [if_neg hv]
    simp only [vol] at h2
    exact ⟨hs, ht, hs.1, (show s.v ≤ n by omega), by simp only; omega, by simp only [vol]; omega, by simp only [hea]; omega⟩

set_option maxRecDepth 100000 in
set_option maxHeartbeats 2000000 in
theorem drain1_any (l Bl Bq Bc Bp : Nat) (n : Int) (W : World) (hd qs : List Qu) (q : Qu) (y : Yx) (F : Yx → Sl → Yx) (G : Yx → Sl → Prop) (hH : Here W Bc Bp hd q y qs)
    (hl : Has W Bl 3 #[iv n]) (hq : Has W Bq 109 #[.pointer (some ⟨Bp, hd.length * 2, none⟩)]) (nq : ¬ CS Bc Bp qs Bq)
    (hok : okL q.l) (hn : n ≤ vol q.l) (hv : vol q.l ≤ 2097152) (hh : hea q.l ≤ 2199023255552)
    (hG : ∀ a s b, (drainL q.l n).1 = a ++ s :: b → G (a.foldl F y) s) (hY : Taker l Bc Bp W hd qs F G) :
    CallsIn Fence.wide 3 Try.prog 76 #[.func (.yield l) #[] #[], .pointer (some ⟨Bl, 0, none⟩), .pointer (some ⟨Bq, 0, none⟩)] W (DrainPost Bc Bp W hd qs q y F n) := by
  have c0 : W.cell? ⟨Bl, 0, none⟩ = some (.int .i64 n) := hl.cell 0
  have H0 : Hid (DrainIn Bc Bp W hd qs q y F n n W) := ⟨qs, q, [], Mv.refl _ _ _ _, rfl, hH, by simp, hok, hn, Int.le_refl _, Int.le_refl _⟩
  have HY := Lib.hid (And.intro hY hG)
  have HQ := Lib.hid (And.intro hq (And.intro nq hH))
  have HB := Lib.hid (And.intro hv hh)
  clear hY hG hq nq hl hok hn hv hh
  refine callsIn_of_wp Try.func76 rfl trivial ?_ rfl
  simp only [Try.ntmps76, List.size_toArray, List.length_cons, List.length_nil, Nat.reduceAdd, Nat.reduceSub, Array.replicate_succ, Array.replicate_zero, List.push_toArray, List.append_toArray, List.nil_append, List.cons_append]
  gi_wp2
  gi_loopw [4] (fun t wr => ∃ left : Int, t = .int .i64 left ∧ DrainIn Bc Bp W hd qs q y F n left wr) (fun t _ => (intOf t).toNat)
  case atStart => exact ⟨n, rfl, H0.out⟩
  case round =>
    obtain ⟨left, rfl, hD⟩ := hrel
    clear H0
    by_cases h1 : 1 ≤ left
    · obtain ⟨qs1, q1, a, hM, hr, hHe, hdr, hok1, hle, hv1, hh1⟩ := hD
      obtain ⟨s, t, hst⟩ : ∃ s t, q1.l = s :: t := by
        cases h : q1.l with
        | nil => rw [h] at hle; simp only [vol] at hle; omega
        | cons s t => exact ⟨s, t, rfl⟩
      have hqc : wr.cell? ⟨Bq, 0, none⟩ = some (.pointer (some ⟨Bp, hd.length * 2, none⟩)) := (HQ.out.1.only hM.only HQ.out.2.1).cell 0
      have hml : s.v ≤ vol q1.l ∧ s.h ≤ hea q1.l := okL_mem_vol hok1 (by rw [hst]; simp)
      have hs0 : okS s := by rw [hst] at hok1; exact (okL_cons.1 hok1).1
      have hcut := cut_any Bp (hd.length * 2) (qcells qs1) q1 left s t wr hHe.circ.p hHe.pc.2 hHe.qhas hst hHe.ne hs0 (by have := HB.out.2; omega) h1 (by have := HB.out.1; omega)
      obtain ⟨m1, m2, m3, m4, m5, m6, m7⟩ := cut_more hst hok1 h1 hle
      obtain ⟨o, ho⟩ : ∃ o, o = (cutF left s t).1 := ⟨_, rfl⟩
      obtain ⟨l', hl'⟩ : ∃ l', l' = (cutF left s t).2 := ⟨_, rfl⟩
      have hds := drain_step s t (show 0 < left by omega)
      rw [← hst, ← ho, ← hl'] at hds
      unfold CutPost at hcut
      rw [← ho, ← hl'] at hcut
      rw [← ho] at m1 m3 m4 m5
      rw [← hl'] at m2 m5 m6 m7
      have kw : IntKind.i64.wrap (left - o.v) = left - o.v := IntWalk.i64_in _ (by have := HB.out.1; omega)
      have HC := Lib.hid hcut
      have HM := Lib.hid (And.intro hM (And.intro hr (And.intro hHe (And.intro hdr (And.intro hds (And.intro hok1 (And.intro hv1 hh1)))))))
      have HN := Lib.hid (And.intro m1 (And.intro m2 (And.intro m5 (And.intro m6 m7))))
      clear hcut hM hr hHe hdr hds hok1 hv1 hh1 m1 m2 m5 m6 m7 hst hle hml hs0 ho hl' m4
      gi_wp2_with fail
      refine ⟨trivial, ?_⟩
      refine (callsIn_wide.2 HC.out).mono ?_
      rintro e w2 ⟨rfl, q2, r1, r2, r3, r4, r5, r6⟩
      obtain ⟨hM, hr, hHe, hdr, hds, hok1, hv1, hh1⟩ := HM.out
      obtain ⟨m1, m2, m5, m6, m7⟩ := HN.out
      obtain ⟨qs2, k1, k2⟩ := hHe.upd (q' := q2) r2 (.inl r3) r4 r5 r6
      obtain ⟨wb, hwb⟩ : ∃ wb, wb = w2.alloc (Obj.cells #[Value.int IntKind.i64 o.v, Value.int IntKind.i64 o.h] 23) := ⟨_, rfl⟩
      have hb : Below w2.heap.size w2 wb := by rw [hwb]; exact below_one _ _
      have k3 := k1.below hb
      have k4 : Mv Bc Bp W qs wb qs2 := (hM.trans (k2.trans (Mv.below hb) hHe.circ) HQ.out.2.2.circ)
      obtain ⟨fn, tmps, assign, body, hy, hR⟩ := HY.out.1 wb qs2 q2 (a.foldl F y) o k4 k3 m1 (HY.out.2 a o _ (by rw [hdr, hds]))
      have HK := Lib.hid (And.intro k1 (And.intro k3 (And.intro k4 r1)))
      have hE : ∀ w3 : World, (∃ qs3, Mv Bc Bp wb qs2 w3 qs3 ∧ Here w3 Bc Bp hd q2 (F (a.foldl F y) o) qs3) → DrainIn Bc Bp W hd qs q y F n (left - o.v) w3 := by
        rintro w3 ⟨qs3, e1, e2⟩
        refine ⟨qs3, q2, a ++ [o], k4.trans e1 HQ.out.2.2.circ, r2.trans hr, by simpa using e2, ?_, by rw [r1]; exact m2, by rw [r1]; exact m5, by rw [r1]; omega, by rw [r1]; omega⟩
        rw [hdr, hds, r1]; simp
      have HE := Lib.hid hE
      rw [hwb] at hy hR
      clear hE k1 k2 k3 k4 hb r1 r2 r3 r4 r5 r6 hM hr hHe hdr hds hok1 hv1 hh1 m1 m2 m5 m6 m7
      gi_wp2
      refine hR.mono ?_
      rintro e w3 ⟨rfl, hw3⟩
      gi_wp2
      go_roundw
      case rel => exact ⟨_, rfl, HE.out w3 (by rw [hwb]; exact hw3)⟩
      case measure => simp [intOf]; omega
    · have hgl : ¬ (0 < left) := by omega
      have HD := Lib.hid hD
      clear hD
      gi_wp2
      go_end0
      obtain ⟨qs1, q1, a, hM, hr, hHe, hdr, hok1, hle, hv1, hh1⟩ := HD.out
      rw [drain_none q1.l (by omega)] at hdr
      simp only [List.append_nil] at hdr
      exact ⟨⟨_, rfl⟩, qs1, q1, hM, hr, by rw [hdr], by rw [hdr]; exact hHe⟩
end Go.Proofs.Ytjfopmjphiddiaa
/- What makes iterators: one, drain, pass; the iterator of one slug; join. -/
namespace Go.Proofs.Ytjfopmjphiddiaa
open Go.RowKit Go.Shelf
attribute [local go_sem] Oper.semAt_some

def FuncPost (W : World) (P : Value → World → Prop) (e : Ending) (W' : World) : Prop := ∃ v, e = .returned v ∧ Below W.heap.size W W' ∧ P v W'
def IsDrain (a : Addr) (n : Int) (W : World) (v : Value) (W' : World) : Prop :=
  ∃ Bl Bq, v = .func (.func 76) #[] #[.pointer (some ⟨Bl, 0, none⟩), .pointer (some ⟨Bq, 0, none⟩)] ∧ Has W' Bl 3 #[iv n] ∧ Has W' Bq 109 #[.pointer (some a)] ∧ W.heap.size ≤ Bl ∧ W.heap.size ≤ Bq
def IsOne (s : Sl) (W : World) (v : Value) (W' : World) : Prop :=
  ∃ b, v = .func (.func 73) #[] #[.pointer (some ⟨b, 0, none⟩)] ∧ Has W' b 23 #[iv s.v, iv s.h] ∧ W.heap.size ≤ b
def IsPass (a : Addr) (x : Value) (W : World) (v : Value) (W' : World) : Prop :=
  ∃ bi bq, v = .func (.func 74) #[] #[.pointer (some ⟨bi, 0, none⟩), .pointer (some ⟨bq, 0, none⟩)] ∧ Has W' bi 105 #[x] ∧ Has W' bq 109 #[.pointer (some a)] ∧ W.heap.size ≤ bi ∧ W.heap.size ≤ bq

set_option maxRecDepth 100000 in
theorem drain_any (a : Addr) (n : Int) (W : World) : Calls Try.prog 71 #[.pointer (some a), iv n] W (FuncPost W (IsDrain a n W)) := by
  have hmf : ∀ (fn : Fn) (first cap : Array Value) (w : World), (Instr.makeFunc fn first cap).run Try.prog w = .ok (.func fn first cap) w := fun _ _ _ _ => rfl
  go_enter Try.func71, Try.ntmps71
  go_wp2
  go_ret
  exact ⟨_, rfl, ((Below.refl _ _).alloc (Nat.le_refl _) _).alloc (by simp) _, W.heap.size + 1, W.heap.size, rfl, Has.newAt (by simp), (Has.new _ _ _).alloc _, by omega, Nat.le_refl _⟩
set_option maxRecDepth 100000 in
theorem one_any (s : Sl) (W : World) : Calls Try.prog 67 #[slv s] W (FuncPost W (IsOne s W)) := by
  have hmf : ∀ (fn : Fn) (first cap : Array Value) (w : World), (Instr.makeFunc fn first cap).run Try.prog w = .ok (.func fn first cap) w := fun _ _ _ _ => rfl
  go_enter Try.func67, Try.ntmps67
  go_wp2
  go_ret
  exact ⟨_, rfl, ((Below.refl _ _).alloc (Nat.le_refl _) _), W.heap.size, rfl, Has.new _ _ _, Nat.le_refl _⟩
set_option maxRecDepth 100000 in
theorem pass_any (a : Addr) (fn : Fn) (fi ca : Array Value) (W : World) : Calls Try.prog 69 #[.pointer (some a), .func fn fi ca] W (FuncPost W (IsPass a (.func fn fi ca) W)) := by
  have hmf : ∀ (fn : Fn) (first cap : Array Value) (w : World), (Instr.makeFunc fn first cap).run Try.prog w = .ok (.func fn first cap) w := fun _ _ _ _ => rfl
  go_enter Try.func69, Try.ntmps69
  go_wp2
  go_ret
  exact ⟨_, rfl, ((Below.refl _ _).alloc (Nat.le_refl _) _).alloc (by simp) _, W.heap.size + 1, W.heap.size, rfl, Has.newAt (by simp), (Has.new _ _ _).alloc _, by omega, Nat.le_refl _⟩

set_option maxRecDepth 100000 in
theorem one1_any (l b : Nat) (s : Sl) (W : World) (P : World → Prop) (hb : Has W b 23 #[iv s.v, iv s.h])
    (hY : YieldAt Fence.wide 2 Try.prog l #[slv s] W fun e W2 => e = .returned (.bool true) ∧ P W2) :
    CallsIn Fence.wide 3 Try.prog 73 #[.func (.yield l) #[] #[], .pointer (some ⟨b, 0, none⟩)] W fun e W' => (∃ v, e = .returned v) ∧ P W' := by
  have c0 : W.cell? ⟨b, 0, none⟩ = some (.int .i64 s.v) := hb.cell 0
  have c1 : W.cell? ⟨b, 1, none⟩ = some (.int .i64 s.h) := hb.cell 1
  obtain ⟨fn, tmps, assign, body, hy, hR⟩ := hY
  clear hb
  refine callsIn_of_wp Try.func73 rfl trivial ?_ rfl
  simp only [Try.ntmps73, List.size_toArray, List.length_cons, List.length_nil, Nat.reduceAdd, Nat.reduceSub, Array.replicate_succ, Array.replicate_zero, List.push_toArray, List.append_toArray, List.nil_append, List.cons_append]
  gi_wp2
  refine hR.mono ?_
  rintro e w3 ⟨rfl, hw3⟩
  gi_wp2
  go_end0
  exact ⟨⟨_, rfl⟩, hw3⟩
end Go.Proofs.Ytjfopmjphiddiaa
/- join: the last two slugs become one if there is one too many. -/
namespace Go.Proofs.Ytjfopmjphiddiaa
open Go.RowKit Go.Shelf

/-- a pipe has turned -/
def TurnPost (Bp o : Nat) (cs : Array Value) (q : Qu) (l' : List Sl) (W : World) (e : Ending) (W' : World) : Prop :=
  (∃ v, e = .returned v) ∧ ∃ q' : Qu, q'.l = l' ∧ q'.room = q.room ∧ q'.g = q.g ∧ Has W' Bp 88 (cs.setIfInBounds (o + 1) q'.sv) ∧ QHas W' q' ∧ Only (fun k => k = Bp ∨ k = q.g) W W'

set_option maxRecDepth 100000 in
set_option maxHeartbeats 2000000 in
theorem join_few (Bp o : Nat) (cs : Array Value) (q : Qu) (W : World) (hp : Has W Bp 88 cs) (hc : cs[o + 1]? = some q.sv) (hq : QHas W q) (h16 : q.l.length ≤ 16) :
    Calls Try.prog 75 #[.pointer (some ⟨Bp, o, none⟩)] W (TurnPost Bp o cs q (joinL q.l) W) := by
  have d0 : W.cell? ⟨Bp, o + 1, none⟩ = some (.slice (some ⟨q.g, q.off, none⟩) q.l.length q.cap) := (hp.cell _).trans (by rw [hc, Qu.sv])
  have hm : q.l.length ≤ 9223372036854775807 := by omega
  have h16' : (q.l.length : Int) ≤ 16 := by omega
  have H := Lib.hid (And.intro hp (And.intro hc (And.intro hq h16)))
  clear hp hc hq h16
  go_enter Try.func75, Try.ntmps75
  go_wp2
  refine bodyPost_ret (results_none rfl _ _ _) rfl ?_
  obtain ⟨hp, hc, hq, h16⟩ := H.out
  exact ⟨⟨_, rfl⟩, q, by simp [joinL, h16], rfl, rfl, by rw [set_same hc]; exact hp, hq, Only.refl _ _⟩

set_option maxRecDepth 100000 in
set_option maxHeartbeats 2000000 in
theorem join_many (Bp o : Nat) (cs : Array Value) (q : Qu) (W : World) (m : Nat) (a : List Sl) (x y : Sl) (hp : Has W Bp 88 cs) (hc : cs[o + 1]? = some q.sv) (hq : QHas W q) (hl : q.l = a ++ [x, y]) (ha : a.length = m) (h15 : 15 ≤ m) (hne : q.g ≠ Bp)
    (hv : 0 ≤ x.v + y.v ∧ x.v + y.v ≤ 1099511627776) (hh : 0 ≤ x.h + y.h ∧ x.h + y.h ≤ 1099511627776000) :
    Calls Try.prog 75 #[.pointer (some ⟨Bp, o, none⟩)] W (TurnPost Bp o cs q (joinL q.l) W) := by
  obtain ⟨cur, hb, hsz, hcs⟩ := hq.blk
  have hlen : q.l.length = m + 2 := by rw [hl]; simp [ha]
  have hle := hq.le
  have hmx := hq.mx
  have d0 : W.cell? ⟨Bp, o + 1, none⟩ = some (.slice (some ⟨q.g, q.off, none⟩) (m + 2) q.cap) := (hp.cell _).trans (by rw [hc, Qu.sv, hlen])
  have f0 := hp.frozen (o + 1)
  have hx := hcs m (by omega)
  have hy := hcs (m + 1) (by omega)
  have ex : q.l[m]'(by omega) = x := by simp [hl, ← ha]
  have ey : q.l[m + 1]'(by omega) = y := by simp [hl, ← ha]
  rw [ex] at hx
  rw [ey] at hy
  have cy0 : W.cell? ⟨q.g, q.off + (m + 1) * 2, none⟩ = some (.int .i64 y.v) := (hb.cell _).trans hy.1
  have cy1 : W.cell? ⟨q.g, q.off + (m + 1) * 2 + 1, none⟩ = some (.int .i64 y.h) := (hb.cell _).trans hy.2
  have hT := fun W1 (h : Has W1 q.g 23 cur) => add_any q.g (q.off + m * 2) 23 cur x y W1 h hx.1 hx.2 hv hh
  have HT := Lib.hid hT
  have HH := Lib.hid (And.intro hb (And.intro hp (And.intro hc (And.intro hq (And.intro hcs hsz)))))
  have HL := Lib.hid (And.intro hl (And.intro hlen ha))
  have hgl := hb.lt
  have hpl := hp.lt
  clear ex ey hT hb hp hc hq hcs hsz hv hh hx hy
  unfold maxLen at hmx
  have hcap : m + 2 ≤ q.cap := by have := HL.out.2.1; omega
  clear hle hlen hl ha
  have e1 : (m : Int) + 2 - 1 = (m : Int) + 1 := by omega
  have e2 : IntKind.i64.wrap (m : Int) = (m : Int) := IntWalk.i64_in _ (by omega)
  have e3 : IntKind.i64.wrap ((m : Int) + 1 - 1) = (m : Int) := by rw [show (m : Int) + 1 - 1 = (m : Int) by omega]; exact e2
  have b1 : (m : Int) < (m : Int) + 2 := by omega
  have b2 : (m : Int) + 1 < (m : Int) + 2 := by omega
  have b3 : m < m + 2 := by omega
  have b4 : m + 1 < m + 2 := by omega
  have b5 : (0 : Int) ≤ (m : Int) + 1 := by omega
  have b6 : ((m : Int) + 1).toNat = m + 1 := by omega
  go_enter Try.func75, Try.ntmps75
  go_wp2
  refine still_tail 14 (by kernel_rfl) (by kernel_rfl) ?_
  simp only [List.take_succ_cons, List.take_zero, List.drop_succ_cons, List.drop_zero]
  repeat still_step
  refine wpStill_nil ?_
  go_wp2_with fail
  refine (HT.out _ (Has.drew HH.out.1)).mono ?_
  rintro e w1 ⟨⟨v, rfl⟩, ho, hw⟩
  have hw0 : Has w1 Bp 88 cs := (HH.out.2.1.drew).only ho (Ne.symm hne)
  have p0 : w1.cell? ⟨Bp, o + 1, none⟩ = some (.slice (some ⟨q.g, q.off, none⟩) (m + 2) q.cap) := by rw [hw0.cell, HH.out.2.2.1, Qu.sv, HL.out.2.1]
  have pf := hw0.frozen (o + 1)
  have p1 := hw0.lt
  have HW := Lib.hid (And.intro hw (And.intro hw0 ho))
  have b7 : m + 1 ≤ q.cap := by omega
  clear hw hw0 ho
  go_wp2
  refine bodyPost_ret (results_none rfl _ _ _) rfl ?_
  obtain ⟨hb, hp, hc, hq, hcs, hsz⟩ := HH.out
  obtain ⟨hl, hlen, ha⟩ := HL.out
  obtain ⟨hw, hw0, ho⟩ := HW.out
  have hj : joinL q.l = a ++ [x.add y] := by rw [hl, join_eq a x y (by omega)]
  unfold TurnPost
  rw [hj]
  refine ⟨⟨_, rfl⟩, ⟨q.room, q.g, q.off, q.cap, a ++ [x.add y]⟩, rfl, rfl, rfl, ?_, ⟨⟨(cur.setIfInBounds (q.off + m * 2) (iv (x.add y).v)).setIfInBounds (q.off + m * 2 + 1) (iv (x.add y).h), ?_, by simpa using hsz, ?_⟩, by simp [ha]; omega, hq.mx⟩, ?_⟩
  · have e : (⟨q.room, q.g, q.off, q.cap, a ++ [x.add y]⟩ : Qu).sv = .slice (some ⟨q.g, q.off, none⟩) (m + 1) q.cap := by simp [Qu.sv, ha]
    rw [e]
    exact hw0.set (o + 1) _
  · exact Has.far hw (p := ⟨Bp, o + 1, none⟩) hne _
  · intro k hk
    simp only [List.length_append, ha, List.length_cons, List.length_nil] at hk
    dsimp only
    by_cases hkm : k < m
    · have h := hcs k (by omega)
      rw [getElem?_set2 _ (by omega) (by omega), getElem?_set2 _ (by omega) (by omega)]
      have e1 : q.l[k]'(by omega) = a[k]'(by omega) := by simp [hl, List.getElem_append_left (show k < a.length by omega)]
      rw [e1] at h
      rw [List.getElem_append_left (by omega)]
      exact h
    · obtain rfl : k = m := by omega
      have e1 : (a ++ [x.add y])[k]'(by simp [ha]) = x.add y := by simp [← ha]
      have hs2 := getElem?_set2a (cs := cur) (o := q.off + k * 2) (a := iv (x.add y).v) (b := iv (x.add y).h) (by omega)
      rw [e1]
      exact hs2
  · refine Only.setCell ?_ (.inl (.inl rfl)) _
    exact Only.from_ (Only.drew (Only.refl _ W)) ho (fun _ _ h => .inr h)

theorem join_any (Bp o : Nat) (cs : Array Value) (q : Qu) (W : World) (hp : Has W Bp 88 cs) (hc : cs[o + 1]? = some q.sv) (hq : QHas W q) (hne : q.g ≠ Bp) (hok : okL q.l) (hv : vol q.l ≤ 2097152) (hh : hea q.l ≤ 2199023255552) :
    Calls Try.prog 75 #[.pointer (some ⟨Bp, o, none⟩)] W (TurnPost Bp o cs q (joinL q.l) W) := by
  by_cases h16 : q.l.length ≤ 16
  · exact join_few Bp o cs q W hp hc hq h16
  · obtain ⟨a, x, y, hl, ha⟩ := split_last (l := q.l) (by omega)
    have hx : x ∈ q.l := by rw [hl]; simp
    have hy : y ∈ q.l := by rw [hl]; simp
    have h1 := hok x hx
    have h2 := hok y hy
    have h3 := okL_mem_vol hok hx
    have h4 := okL_mem_vol hok hy
    exact join_many Bp o cs q W a.length a x y hp hc hq hl rfl (by omega) hne (by have := h1.1; have := h2.1; omega) (by have := h1.2; have := h2.2; omega)
end Go.Proofs.Ytjfopmjphiddiaa
/- The inner round of pass: a slug that flows out is handed on. -/
namespace Go.Proofs.Ytjfopmjphiddiaa
open Go.RowKit Go.Shelf
attribute [local go_sem] Oper.semAt_some

theorem Only.putObj' {S : Nat → Prop} {W W' : World} {l : Nat} {o o' o'' : Obj} (hl : W.heap[l]? = some o) (h : Only S (W.putObj l o') W') (hS : ¬ S l) (_ : W'.heap[l]? = some o'') : Only S W (W'.putObj l o) := by
  have hlt := (Array.getElem?_eq_some_iff.1 hl).1
  refine ⟨h.os, h.tape, h.output, ?_, fun k hk hn => ?_⟩
  · rw [World.putObj_size]; have := h.size; rwa [World.putObj_size] at this
  · by_cases e : k = l
    · subst e
      rw [World.putObj_heap_same (by have := h.size; rw [World.putObj_size] at this; omega), hl]
    · rw [World.putObj_heap_other e, h.block k (by rw [World.putObj_size]; exact hk) hn, World.putObj_heap_other e]
theorem Has.putObj {W : World} {g l : Nat} {t : TypeId} {cs : Array Value} {r : Loop} (h : Has W g t cs) (hl : W.heap[l]? = some (.loop r)) (o : Obj) : Has (W.putObj l o) g t cs := by
  have hne : g ≠ l := fun e => by subst e; unfold Has at h; rw [hl] at h; cases h
  exact (World.putObj_heap_other hne).trans h
theorem QHas.putObj {W : World} {l : Nat} {q : Qu} {r : Loop} (h : QHas W q) (hl : W.heap[l]? = some (.loop r)) (o : Obj) : QHas (W.putObj l o) q := by
  obtain ⟨⟨cur, hc, h1, h2⟩, h3, h4⟩ := h
  exact ⟨⟨cur, hc.putObj hl o, h1, h2⟩, h3, h4⟩
theorem Circ.putObj {W : World} {Bc Bp l : Nat} {t : Sl} {qs : List Qu} {r : Ho} {rc : Loop} (h : Circ W Bc Bp t qs r) (hl : W.heap[l]? = some (.loop rc)) (o : Obj) : Circ (W.putObj l o) Bc Bp t qs r :=
  ⟨h.c.putObj hl o, h.p.putObj hl o, fun q hq => (h.q q hq).putObj hl o, h.ne, h.nc, h.nd⟩
/-- a round changes its loop's record and puts it back -/
theorem Mv.round {Bc Bp : Nat} {W W' : World} {qs qs' : List Qu} {l : Nat} {r r' r'' : Loop} (hl : W.heap[l]? = some (.loop r)) (hS : ¬ CS Bc Bp qs l) (h : Mv Bc Bp (W.putObj l (.loop r')) qs W' qs') (hl' : W'.heap[l]? = some (.loop r'')) :
    Mv Bc Bp W qs (W'.putObj l (.loop r)) qs' :=
  ⟨Only.putObj' hl h.only hS hl', fun k hk => by have := h.own k hk; rwa [World.putObj_size] at this⟩
theorem loop_not {W : World} {Bc Bp l : Nat} {t : Sl} {qs : List Qu} {r : Ho} {rc : Loop} (h : Circ W Bc Bp t qs r) (hl : W.heap[l]? = some (.loop rc)) : ¬ CS Bc Bp qs l := h.other hl (fun _ _ _ e => by cases e)
theorem Here.putObj {W : World} {Bc Bp l : Nat} {hd qs : List Qu} {q : Qu} {y : Yx} {rc : Loop} (h : Here W Bc Bp hd q y qs) (hl : W.heap[l]? = some (.loop rc)) (o : Obj) : Here (W.putObj l o) Bc Bp hd q y qs := by
  obtain ⟨tl, h1, h2, h3⟩ := h
  exact ⟨tl, h1, h2, h3.putObj hl o⟩

/-- the loops over functions in a piece of code -/
def loopParts : Code → List (Code × Code)
  | .rangeFunc _ _ a b => (a, b) :: loopParts b
  | .seq a b => loopParts a ++ loopParts b
  | .block _ c => loopParts c
  | _ => []
abbrev recAt (f : FuncId) (tmps : Array Value) (ps : Array Tmp) (assign body : Code) (d : Nat) : Loop := { state := .ready, pending := none, fn := f, tmps := tmps, params := ps, assign, body, defers := d }

theorem Mv.put {Bc Bp : Nat} {W0 W : World} {qs0 qs : List Qu} {l : Nat} (h : Mv Bc Bp W0 qs0 W qs) (hl : W0.heap.size ≤ l) (o : Obj) : Mv Bc Bp W0 qs0 (W.putObj l o) qs :=
  ⟨⟨h.only.os, h.only.tape, h.only.output, by rw [World.putObj_size]; exact h.only.size, fun k hk hn => (World.putObj_heap_other (by omega)).trans (h.only.block k hk hn)⟩, h.own⟩
theorem heap_below {W W' : World} {k : Nat} {o : Obj} (hb : Below W.heap.size W W') (h : W.heap[k]? = some o) : W'.heap[k]? = some o := (hb.block k (Array.getElem?_eq_some_iff.1 h).1).trans h

theorem roundIn_any {F : Fence} {n m l l' : Nat} {f : FuncId} {tmps : Array Value} {ac bo : Code} {W : World} {R : Ending → World → Prop} (h : RoundIn Fence.wide m Try.prog l f tmps ac bo W R) (hF : F = Fence.wide.inRound l') : RoundIn F n Try.prog l f tmps ac bo W R := by
  subst hF
  exact ⟨trivial, fun c cs _ => h.2 c cs (room_wide _)⟩

set_option maxRecDepth 100000 in
set_option maxHeartbeats 2000000 in
theorem round74b (fn0 : FuncId) (l l3 Bx D Bc Bp : Nat) (hd qs0 qs : List Qu) (q : Qu) (y : Yx) (s : Sl) (F : Yx → Sl → Yx) (W0 W : World) (u0 u1 u2 u4 u5 u6 u7 u8 u9 u10 u11 u12 u13 u14 u15 u16 u17 u18 u19 u20 u21 u22 u23 u24 u25 u26 u27 u28 u29 u30 u31 u32 u33 : Value) {assign body : Code}
    (hab : some (assign, body) = (Try.f74.body.map loopParts).bind (·[1]?))
    (hl : W.heap[l3]? = some (.loop (recAt fn0 #[u0, u1, u2, .pointer (some ⟨Bx, 0, none⟩), u4, u5, u6, u7, u8, u9, u10, u11, u12, u13, u14, u15, u16, u17, u18, u19, u20, u21, u22, u23, u24, u25, u26, u27, u28, u29, u30, u31, u32, u33] #[27] assign body D)))
    (hx : Has W Bx 86 #[.func (.yield l) #[] #[]]) (hH : Here W Bc Bp hd q y qs) (hM : Mv Bc Bp W0 qs0 W qs) (hC : Circ W0 Bc Bp y.t qs0 y.r ∨ ∃ t r, Circ W0 Bc Bp t qs0 r) (hl0 : W0.heap.size ≤ l3)
    (hY : ∀ W1, Mv Bc Bp W0 qs0 W1 qs → Here W1 Bc Bp hd q y qs → YieldAt Fence.wide 2 Try.prog l #[slv s] W1 fun e W2 => e = .returned (.bool true) ∧ ∃ qs2, Mv Bc Bp W1 qs W2 qs2 ∧ Here W2 Bc Bp hd q (F y s) qs2) :
    YieldAt Fence.wide 2 Try.prog l3 #[slv s] W fun e W2 => e = .returned (.bool true) ∧ ∃ qs2, Mv Bc Bp W qs W2 qs2 ∧ Here W2 Bc Bp hd q (F y s) qs2 := by
  obtain ⟨rc, hrc⟩ : ∃ rc, rc = recAt fn0 #[u0, u1, u2, .pointer (some ⟨Bx, 0, none⟩), u4, u5, u6, u7, u8, u9, u10, u11, u12, u13, u14, u15, u16, u17, u18, u19, u20, u21, u22, u23, u24, u25, u26, u27, u28, u29, u30, u31, u32, u33] #[27] assign body D := ⟨_, rfl⟩
  rw [← hrc] at hl
  have hy := run_yield (P := Try.prog) (args := #[slv s]) hl (by rw [hrc]; rfl)
  refine ⟨fn0, _, assign, body, by rw [hy, hrc], roundIn_of_wpIn trivial ?_⟩
  clear hy
  simp only [Try.f74, Option.map_some, Option.bind_some, loopParts, List.append_nil, List.nil_append, List.getElem?_cons_succ, List.getElem?_cons_zero, Option.some.injEq, Prod.mk.injEq] at hab
  obtain ⟨ha, hb⟩ := hab
  obtain ⟨Wa, hWa⟩ : ∃ Wa, Wa = W.alloc (Obj.cells #[Value.int IntKind.i64 s.v, Value.int IntKind.i64 s.h] 23) := ⟨_, rfl⟩
  have hba : Below W.heap.size W Wa := by rw [hWa]; exact below_one _ _
  have hla := heap_below hba hl
  have hbeg := run_beginRound (P := Try.prog) hla (by rw [hrc])
  obtain ⟨W2, hW2⟩ : ∃ W2, Wa.putObj l3 (.loop { rc with state := .busy }) = W2 := ⟨_, rfl⟩
  have hC0 : ∃ t r, Circ W0 Bc Bp t qs0 r := hC.elim (fun h => ⟨_, _, h⟩) id
  obtain ⟨t0, r0, hC0⟩ := hC0
  have hM2 : Mv Bc Bp W0 qs0 W2 qs := by rw [← hW2]; exact (hM.trans (Mv.below hba) hC0).put hl0 _
  have hH2 : Here W2 Bc Bp hd q y qs := by rw [← hW2]; exact (hH.below hba).putObj hla _
  have hx2 : Has W2 Bx 86 #[.func (.yield l) #[] #[]] := by rw [← hW2]; exact (hx.below hba hx.lt).putObj hla _
  have hl2 : W2.heap[l3]? = some (.loop { rc with state := .busy }) := by rw [← hW2]; exact World.putObj_heap_same (Array.getElem?_eq_some_iff.1 hla).1
  have hs2 : Has W2 W.heap.size 23 #[iv s.v, iv s.h] := by rw [← hW2]; exact Has.putObj (by rw [hWa]; exact Has.new _ _ _) hla _
  obtain ⟨fn, tmps, as2, bo2, hy2, hR⟩ := hY W2 hM2 hH2
  have hEnd : ∀ W3, (∃ qs2, Mv Bc Bp W2 qs W3 qs2 ∧ Here W3 Bc Bp hd q (F y s) qs2) → ∃ v w', (Instr.endRound l3 none).run Try.prog W3 = .ok v w' ∧ (Ending.returned v = .returned (.bool true) ∧ ∃ qs2, Mv Bc Bp W qs w' qs2 ∧ Here w' Bc Bp hd q (F y s) qs2) := by
    rintro W3 ⟨qs2, m1, m2⟩
    have hl3 := m1.block hl2 (loop_not hH2.circ hl2)
    have hend := run_endRound (P := Try.prog) none hl3
    refine ⟨_, _, hend, rfl, qs2, ?_, m2.putObj hl3 _⟩
    have e : ({ rc with state := if (none : Option Code).isNone then .ready else .done, pending := none } : Loop) = rc := by rw [hrc]; rfl
    refine (Mv.below hba).trans ?_ hH.circ
    show Mv Bc Bp Wa qs (W3.putObj l3 (.loop { { rc with state := .busy } with state := if (none : Option Code).isNone then .ready else .done, pending := none })) qs2
    rw [show ({ ({ rc with state := .busy } : Loop) with state := if (none : Option Code).isNone then .ready else .done, pending := none } : Loop) = rc from e]
    exact Mv.round hla (loop_not (hH.below hba).circ hla) (by rw [hW2]; exact m1) hl3
  have HE := Lib.hid hEnd
  have HB := Lib.hid hbeg
  have HR := Lib.hid hrc
  have c0 : W2.cell? ⟨Bx, 0, none⟩ = some (.func (.yield l) #[] #[]) := hx2.cell 0
  have c1 : W2.cell? ⟨W.heap.size, 0, none⟩ = some (.int .i64 s.v) := hs2.cell 0
  have c2 : W2.cell? ⟨W.heap.size, 1, none⟩ = some (.int .i64 s.h) := hs2.cell 1
  rw [ha]
  have hzip : ∀ (t : Array Value) (v : Value), (#[27].zip #[v]).foldl (fun tmps (p : Tmp × Value) => match p with | (t, a) => tmps.setIfInBounds t a) t = t.setIfInBounds 27 v := fun t v => by simp [Array.zip]
  rw [hzip]
  clear hzip
  rw [hW2, hWa] at hbeg
  have HB2 := Lib.hid hbeg
  clear hEnd hbeg HB hWa hba hla hM2 hH2 hx2 hl2 hs2 hl hx hH hM hC hC0 hl0 hY ha hW2 hrc
  change Code.wpIn _ _ _ _ _ { tmps := (#[u0, u1, u2, .pointer (some ⟨Bx, 0, none⟩), u4, u5, u6, u7, u8, u9, u10, u11, u12, u13, u14, u15, u16, u17, u18, u19, u20, u21, u22, u23, u24, u25, u26, u27, u28, u29, u30, u31, u32, u33] : Array Value).setIfInBounds 27 (slv s), defers := [] } W
  gi_wp2
  refine ⟨W2, HB2.out, ?_⟩
  clear hb
  gi_wp2
  refine (roundIn_any hR rfl).mono ?_
  rintro e w3 ⟨rfl, hw3⟩
  gi_wp2
  exact HE.out w3 hw3
end Go.Proofs.Ytjfopmjphiddiaa
/- One slug more in a queue, as a step of a region. -/
namespace Go.Proofs.Ytjfopmjphiddiaa
open Go.RowKit Go.Shelf

theorem Try.info23 : (Try.prog.info? 23).map (fun i => (i.zero, i.size, i.bytes)) = some (some (.agg #[iv 0, iv 0]), 2, 16) := by kernel_rfl
def sfl (l : List Sl) : List Value := l.flatMap fun s => [iv s.v, iv s.h]
theorem sfl_len (l : List Sl) : (sfl l).length = l.length * 2 := by
  unfold sfl
  induction l with
  | nil => rfl
  | cons s t ih => simp only [List.flatMap_cons, List.length_append, List.length_cons, List.length_nil, ih]; omega
theorem sfl_at (l : List Sl) (k : Nat) (h : k < l.length) : (sfl l)[k * 2]? = some (iv l[k].v) ∧ (sfl l)[k * 2 + 1]? = some (iv l[k].h) := by
  unfold sfl
  induction l generalizing k with
  | nil => simp at h
  | cons s t ih =>
    cases k with
    | zero => simp
    | succ k =>
      rw [show (k + 1) * 2 = k * 2 + 1 + 1 by omega]
      simpa using ih k (by simpa using h)
theorem sfl_one (l : List Sl) : ∀ u ∈ sfl l, u.oneCell' = true := by
  intro u hu
  unfold sfl at hu
  simp only [List.mem_flatMap] at hu
  obtain ⟨z, _, hz⟩ := hu
  simp only [List.mem_cons, List.not_mem_nil, or_false] at hz
  rcases hz with rfl | rfl <;> rfl
theorem sfl_app (a b : List Sl) : sfl (a ++ b) = sfl a ++ sfl b := by simp [sfl]
theorem addr_add (g o j : Nat) : (⟨g, o, none⟩ : Addr).add j = ⟨g, o + j, none⟩ := by unfold Addr.add; split <;> simp_all
theorem qhas_cells {W : World} {q : Qu} (h : QHas W q) : ∀ j u, (sfl q.l)[j]? = some u → W.cell? ⟨q.g, q.off + j, none⟩ = some u := by
  intro j u hu
  obtain ⟨cur, hc, _, hcs⟩ := h.blk
  have hj : j < q.l.length * 2 := by have := (List.getElem?_eq_some_iff.1 hu).1; rwa [sfl_len] at this
  have hk : j / 2 < q.l.length := by omega
  obtain ⟨x0, x1⟩ := hcs (j / 2) hk
  obtain ⟨y0, y1⟩ := sfl_at q.l (j / 2) hk
  have h2 : j = j / 2 * 2 ∨ j = j / 2 * 2 + 1 := by omega
  rcases h2 with e | e
  · rw [← e] at y0
    rw [y0] at hu; cases hu
    rw [hc.cell, show q.off + j = q.off + j / 2 * 2 by omega]; exact x0
  · rw [← e] at y1
    rw [y1] at hu; cases hu
    rw [hc.cell, show q.off + j = q.off + j / 2 * 2 + 1 by omega]; exact x1
theorem qhas_of_own {W : World} {base : Nat} {v : Value} {l : List Sl} {room : Int} (h : W.ownsRow base 23 2 v l.length (sfl l)) (hl : 0 < l.length) :
    ∃ q : Qu, v = q.sv ∧ q.l = l ∧ q.room = room ∧ base ≤ q.g ∧ QHas W q := by
  obtain ⟨_, (⟨_, h0⟩ | ⟨g, cap, cur, rfl, hb, hg, h1, h2, h3, h4⟩)⟩ := h
  · omega
  · refine ⟨⟨room, g, 0, cap, l⟩, rfl, rfl, rfl, hb, ⟨⟨cur, hg, by simp only; omega, fun k hk => ?_⟩, h1, h2⟩⟩
    have hc : ∀ j, j < l.length * 2 → cur[j]? = (sfl l)[j]? := fun j hj => by
      have := congrArg (fun l : List Value => l[j]?) h4
      simp only [List.getElem?_take_of_lt hj] at this
      simpa using this
    obtain ⟨y0, y1⟩ := sfl_at l k hk
    simp only [Nat.zero_add]
    exact ⟨(hc _ (by simp only at hk; omega)).trans y0, (hc _ (by simp only at hk; omega)).trans y1⟩

theorem step_append_q {ops : Array Oper} {o : Oper} {a : Act} {w : World} {K : Act → World → Prop} {Q : Exit → Act → World → Prop} {E : Prop}
    (hg : o.guard = none) (s x : Operand) (hop : o.op = Op.call { callee := Callee.builtin Builtin.append, args := #[s, x], argTypes := #[49, 49] })
    (q : Qu) (hq : QHas w q) (hs : a.eval s = .slice (some ⟨q.g, q.off, none⟩) q.l.length q.cap) (b c : Nat) (sl : Sl) (hx : a.eval x = .slice (some ⟨b, 0, none⟩) 1 c) (hb : Has w b 23 #[iv sl.v, iv sl.h]) (hlen : q.l.length ≤ 1000)
    (hK : ∀ (q' : Qu) (w' : World), q'.l = q.l ++ [sl] → q'.room = q.room → (q'.g = q.g ∨ w.heap.size ≤ q'.g) → QHas w' q' → Only (fun k => k = q.g) w w' → K (a.put o.dst q'.sv) w') :
    if Region.wanted o (yielded ops a.tmps) = true then Oper.wp Try.prog o a w K Q else E := by
  obtain ⟨i0, hi, hz0, hz1, hz2⟩ := info_parts Try.info23
  obtain ⟨cur, hc, hsz, hcs⟩ := hq.blk
  have hnews : ∀ j u, (sfl [sl])[j]? = some u → w.cell? ((⟨b, 0, none⟩ : Addr).add j) = some u := fun j u hu => by
    rw [addr_add, hb.cell]
    simpa [sfl] using hu
  by_cases hr : q.l.length + 1 ≤ q.cap
  · refine step_append_room hg s x 49 hop 23 i0 2 Try.underlying49 hi hz1 q.g q.off q.l.length q.cap hs ⟨b, 0, none⟩ 1 c (sfl [sl]) hx rfl hnews (sfl_one _) hr (fun j hj => ?_) ?_
    · have hj2 : j < 2 := hj
      refine ⟨?_, hc.frozen _⟩
      rw [hc.cell, Array.getElem?_eq_getElem (by omega)]; rfl
    · have e : w.setCells q.g (q.off + q.l.length * 2) (sfl [sl]) = (w.setCell ⟨q.g, q.off + q.l.length * 2, none⟩ (iv sl.v)).setCell ⟨q.g, q.off + q.l.length * 2 + 1, none⟩ (iv sl.h) := rfl
      rw [e]
      have hsv : (⟨q.room, q.g, q.off, q.cap, q.l ++ [sl]⟩ : Qu).sv = .slice (some ⟨q.g, q.off, none⟩) (q.l.length + 1) q.cap := by simp [Qu.sv]
      rw [← hsv]
      refine hK ⟨q.room, q.g, q.off, q.cap, q.l ++ [sl]⟩ _ rfl rfl (.inl rfl) ⟨⟨(cur.setIfInBounds (q.off + q.l.length * 2) (iv sl.v)).setIfInBounds (q.off + q.l.length * 2 + 1) (iv sl.h), (hc.set _ _).set _ _, by simpa using hsz, fun k hk => ?_⟩, by simpa using hr, hq.mx⟩ ?_
      · simp only [List.length_append, List.length_cons, List.length_nil] at hk
        dsimp only
        by_cases hkm : k < q.l.length
        · have h := hcs k hkm
          rw [getElem?_set2 _ (by omega) (by omega), getElem?_set2 _ (by omega) (by omega), List.getElem_append_left hkm]
          exact h
        · obtain rfl : k = q.l.length := by omega
          have e1 : (q.l ++ [sl])[q.l.length]'(by simp) = sl := by simp
          rw [e1]
          exact getElem?_set2a (by omega)
      · refine Only.setCell (Only.setCell (Only.refl _ _) ?_ _) ?_ _
        · exact .inl rfl
        · exact .inl rfl
  · refine step_append_grows hg s x 49 hop 23 i0 (.agg #[iv 0, iv 0]) 2 16 Try.underlying49 hi hz0 hz1 hz2 rfl (by decide) (some ⟨q.g, q.off, none⟩) q.l.length q.cap (sfl q.l) hs (fun h => by cases h) (sfl_len _) (fun b' hb' j u hu => ?_)
      ⟨b, 0, none⟩ 1 c (sfl [sl]) hx rfl hnews (sfl_one _) (by omega) (by unfold maxLen; omega) (by omega) (fun v' w' hown hgrow => ?_)
    · cases hb'; rw [addr_add]; exact qhas_cells hq j u hu
    · rw [← sfl_app] at hown
      have hown' : w'.ownsRow w.heap.size 23 2 v' (q.l ++ [sl]).length (sfl (q.l ++ [sl])) := by simpa using hown
      obtain ⟨q', rfl, h2, h3, h4, h5⟩ := qhas_of_own (room := q.room) hown' (by simp)
      exact hK q' w' h2 h3 (.inr h4) h5 ⟨hgrow.os, hgrow.tape, hgrow.output, hgrow.size, fun k hk _ => hgrow.block k hk (by simp)⟩
end Go.Proofs.Ytjfopmjphiddiaa
