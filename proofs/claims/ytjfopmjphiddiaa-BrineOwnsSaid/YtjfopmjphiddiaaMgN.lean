/- Play, as plain lists. -/
import Derived.Test.YtjfopmjphiddiaaMgM
namespace Go.Proofs.Ytjfopmjphiddiaa
open Go.RowKit Go.Shelf

structure Ev where
  k : Int
  p : Int
  a : Int
  h : Int
def errE (y : Yx) (e : Ev) : Int := doErr y e.k e.p e.a e.h
def doE (y : Yx) (e : Ev) : Yx := doY y e.k e.p e.a e.h
def evs (y : Yx) (l : List Ev) : Yx := l.foldl doE y
def bad (y : Yx) : List Ev → Option (Nat × Int)
  | [] => none
  | e :: l => if errE y e = 0 then (bad (doE y e) l).map (fun x => (x.1 + 1, x.2)) else some (0, errE y e)
def y0 (t : Sl) (ps : List Pp) (heat hroom : Int) : Yx := ⟨ps, t, ⟨heat, hroom, Sm.zero⟩⟩
/-- the circuit in the end, an index and an error -/
def playR (t : Sl) (ps : List Pp) (heat hroom : Int) (l : List Ev) : Option Yx × Nat × Int :=
  if brineB t ps heat hroom = false then (none, 0, 1)
  else if 256 < l.length then (none, 0, 3)
  else match bad (y0 t ps heat hroom) l with
    | some (i, x) => (none, i, x)
    | none => (some (evs (y0 t ps heat hroom) l), l.length, 0)
theorem bad_take (y : Yx) (l : List Ev) (k : Nat) (h : k < l.length) (hb : bad y (l.take k) = none) :
    bad y (l.take (k + 1)) = (if errE (evs y (l.take k)) l[k] = 0 then none else some (k, errE (evs y (l.take k)) l[k])) ∧ (errE (evs y (l.take k)) l[k] ≠ 0 → bad y l = some (k, errE (evs y (l.take k)) l[k])) := by
  induction l generalizing y k with
  | nil => simp at h
  | cons e l ih =>
    cases k with
    | zero => by_cases he : errE y e = 0 <;> simp [bad, evs, he]
    | succ k =>
      simp only [List.take_succ_cons, bad, evs, List.foldl_cons, List.getElem_cons_succ] at hb ⊢
      by_cases he : errE y e = 0
      · rw [if_pos he] at hb ⊢
        rw [Option.map_eq_none_iff] at hb
        obtain ⟨h1, h2⟩ := ih (doE y e) k (by simpa using h) hb
        unfold evs at h1 h2
        rw [h1, if_pos he]
        refine ⟨?_, fun hn => by rw [h2 hn]; rfl⟩
        split <;> (rename_i hz; simp [hz])
      · rw [if_neg he] at hb; cases hb
theorem evs_take (y : Yx) (l : List Ev) (k : Nat) (h : k < l.length) : evs y (l.take (k + 1)) = doE (evs y (l.take k)) l[k] := by
  unfold evs
  rw [List.take_succ_eq_append_getElem h, List.foldl_append]; rfl
def ERow (w : World) (B : Nat) (A : Option Addr) (l : List Ev) : Prop :=
  ∀ k (h : k < l.length), ∃ g o, A = some ⟨g, o, none⟩ ∧ g < B ∧ w.cell? ⟨g, o + k * 4, none⟩ = some (iv l[k].k) ∧ w.cell? ⟨g, o + k * 4 + 1, none⟩ = some (iv l[k].p) ∧ w.cell? ⟨g, o + k * 4 + 2, none⟩ = some (iv l[k].a) ∧ w.cell? ⟨g, o + k * 4 + 3, none⟩ = some (iv l[k].h)
theorem ERow.below {w w' : World} {B : Nat} {A : Option Addr} {l : List Ev} (h : ERow w B A l) (hb : Below B w w') : ERow w' B A l := fun k hk => by
  obtain ⟨g, o, e, hg, c0, c1, c2, c3⟩ := h k hk
  exact ⟨g, o, e, hg, (hb.cell (p := ⟨g, _, none⟩) hg).trans c0, (hb.cell (p := ⟨g, _, none⟩) hg).trans c1, (hb.cell (p := ⟨g, _, none⟩) hg).trans c2, (hb.cell (p := ⟨g, _, none⟩) hg).trans c3⟩
theorem SRow.more {w : World} {B B' : Nat} {A : Option Addr} {l : List Sl} (h : SRow w B A l) (hB : B ≤ B') : SRow w B' A l := fun k hk => by
  obtain ⟨g, o, e, hg, c⟩ := h k hk
  exact ⟨g, o, e, by omega, c⟩
theorem PRow.more {w : World} {B B' : Nat} {A : Option Addr} {ps : List Pp} (h : PRow w B A ps) (hB : B ≤ B') : PRow w B' A ps := fun k hk => by
  obtain ⟨g, o, A', cap, e, hg, c0, c1, hs⟩ := h k hk
  exact ⟨g, o, A', cap, e, by omega, c0, c1, hs.more hB⟩

theorem pipeB_ok {p : Pp} (h : pipeB p = true) : p.ok ∧ (∀ s ∈ p.l, s.h ≤ 4294967296) := by
  simp only [pipeB, Bool.and_eq_true, decide_eq_true_eq, List.all_eq_true] at h
  obtain ⟨⟨⟨h1, h2⟩, h3⟩, h4⟩ := h
  obtain ⟨a, b⟩ := lB_iff.1 h1
  refine ⟨⟨a, b, fun s hs => ?_, h4, h2⟩, fun s hs => ?_⟩
  · obtain ⟨x, y⟩ := h3 s hs
    have := lB_iff.1 x; have := hB_iff.1 y
    exact ⟨by omega, by omega⟩
  · exact (hB_iff.1 (h3 s hs).2).2
theorem hea_le {l : List Sl} (h : ∀ s ∈ l, s.h ≤ 4294967296) : hea l ≤ l.length * 4294967296 := by
  induction l with
  | nil => simp [hea]
  | cons s t ih =>
    have := ih (fun x hx => h x (by simp [hx]))
    have := h s (by simp)
    simp only [hea, List.length_cons]; omega
theorem heaP_le {ps : List Pp} (h : ∀ p ∈ ps, p.l.length ≤ 16 ∧ ∀ s ∈ p.l, s.h ≤ 4294967296) : heaP ps ≤ ps.length * (16 * 4294967296) := by
  induction ps with
  | nil => simp [heaP]
  | cons p t ih =>
    have := ih (fun x hx => h x (by simp [hx]))
    obtain ⟨a, b⟩ := h p (by simp)
    have := hea_le b
    simp only [heaP, List.length_cons]; omega
theorem y0_in {t : Sl} {ps : List Pp} {heat hroom : Int} (h : brineB t ps heat hroom = true) : YIn 0 (y0 t ps heat hroom) := by
  simp only [brineB, Bool.and_eq_true, decide_eq_true_eq, List.all_eq_true] at h
  obtain ⟨⟨⟨⟨⟨⟨ht, h1⟩, h8⟩, hp⟩, hr⟩, h0⟩, hh⟩ := h
  have hps : okP ps := fun p hp' => (pipeB_ok (hp p hp')).1
  have hv := volP_le hps
  have hhp := heaP_le (ps := ps) (fun p hp' => ⟨(pipeB_ok (hp p hp')).1.len, (pipeB_ok (hp p hp')).2⟩)
  have hrr := hB_iff.1 hr
  have htt : 0 ≤ t.v ∧ t.v ≤ 1048576 ∧ 0 ≤ t.h ∧ t.h ≤ 4294967296 := by
    simp only [tankB, Bool.or_eq_true, decide_eq_true_eq, Bool.and_eq_true] at ht
    rcases ht with rfl | ⟨a, b⟩
    · decide
    · have := lB_iff.1 a; have := hB_iff.1 b; omega
  refine ⟨hps, h8, htt.1, htt.2.1, htt.2.2.1, h0, hh, hrr.2, ?_, ?_, ?_, ?_, ?_, ?_, ?_, ?_, ?_, ?_, ?_, ?_⟩ <;> simp only [y0, Sm.zero, hA, vA] <;> omega
theorem evs_in {y : Yx} {l : List Ev} (h : YIn 0 y) (k : Nat) (hk : k ≤ l.length) (hb : bad y (l.take k) = none) : YIn k (evs y (l.take k)) := by
  induction k with
  | zero => simpa [evs] using h
  | succ k ih =>
    have hb' : bad y (l.take k) = none := by
      have : ∀ (l : List Ev) (y : Yx) (k : Nat), bad y (l.take (k + 1)) = none → bad y (l.take k) = none := by
        intro l
        induction l with
        | nil => intro y k; simp [bad]
        | cons e l ih =>
          intro y k hn
          cases k with
          | zero => simp [bad]
          | succ k =>
            simp only [List.take_succ_cons, bad] at hn ⊢
            split at hn
            · rename_i he
              rw [Option.map_eq_none_iff] at hn
              rw [if_pos he, Option.map_eq_none_iff]
              exact ih _ _ (by simpa using hn)
            · cases hn
      exact this _ _ _ hb
    have h1 := ih (by omega) hb'
    have h2 := (bad_take y l k (by omega) hb').1
    rw [hb] at h2
    have he : errE (evs y (l.take k)) l[k] = 0 := by
      by_cases he : errE (evs y (l.take k)) l[k] = 0
      · exact he
      · rw [if_neg he] at h2; cases h2
    rw [evs_take y l k (by omega)]
    exact (step_ok h1 he).ok
end Go.Proofs.Ytjfopmjphiddiaa
/- Fourteen cells set. -/
namespace Go.Proofs.Ytjfopmjphiddiaa
open Go.RowKit Go.Shelf

structure Set14 (B4 B5 : Nat) (w : World) (u0 u1 u2 u3 u4 v0 v1 v2 v3 v4 v5 v6 v7 v8 : Value) (wz : World) : Prop where
  h4 : Has wz B4 26 #[u0, u1, u2, u3, u4]
  h5 : Has wz B5 31 #[v0, v1, v2, v3, v4, v5, v6, v7, v8]
  on : Only (fun k => k = B4 ∨ k = B5) w wz
theorem set14 {B4 B5 : Nat} {w : World} {a0 a1 a2 a3 a4 b0 b1 b2 b3 b4 b5 b6 b7 b8 : Value} (h4 : Has w B4 26 #[a0, a1, a2, a3, a4]) (h5 : Has w B5 31 #[b0, b1, b2, b3, b4, b5, b6, b7, b8]) (hne : B4 ≠ B5) (u0 u1 u2 u3 u4 v0 v1 v2 v3 v4 v5 v6 v7 v8 : Value) :
    Set14 B4 B5 w u0 u1 u2 u3 u4 v0 v1 v2 v3 v4 v5 v6 v7 v8 ((((((((((((((w.setCell ⟨B4, 0, none⟩ u0).setCell ⟨B4, 1, none⟩ u1).setCell ⟨B4, 2, none⟩ u2).setCell ⟨B4, 3, none⟩ u3).setCell ⟨B4, 4, none⟩ u4).setCell ⟨B5, 0, none⟩ v0).setCell ⟨B5, 1, none⟩ v1).setCell ⟨B5, 2, none⟩ v2).setCell ⟨B5, 3, none⟩ v3).setCell ⟨B5, 4, none⟩ v4).setCell ⟨B5, 5, none⟩ v5).setCell ⟨B5, 6, none⟩ v6).setCell ⟨B5, 7, none⟩ v7).setCell ⟨B5, 8, none⟩ v8) := by
  have k0 := h4
  have j0 := h5
  have o0 : Only (fun k => k = B4 ∨ k = B5) w w := Only.refl _ _
  have k1 := k0.set 0 u0
  have j1 := j0.far (p := ⟨B4, 0, none⟩) (Ne.symm hne) u0
  have o1 := o0.setCell (p := ⟨B4, 0, none⟩) (.inl (.inl rfl)) u0
  have k2 := k1.set 1 u1
  have j2 := j1.far (p := ⟨B4, 1, none⟩) (Ne.symm hne) u1
  have o2 := o1.setCell (p := ⟨B4, 1, none⟩) (.inl (.inl rfl)) u1
  have k3 := k2.set 2 u2
  have j3 := j2.far (p := ⟨B4, 2, none⟩) (Ne.symm hne) u2
  have o3 := o2.setCell (p := ⟨B4, 2, none⟩) (.inl (.inl rfl)) u2
  have k4 := k3.set 3 u3
  have j4 := j3.far (p := ⟨B4, 3, none⟩) (Ne.symm hne) u3
  have o4 := o3.setCell (p := ⟨B4, 3, none⟩) (.inl (.inl rfl)) u3
  have k5 := k4.set 4 u4
  have j5 := j4.far (p := ⟨B4, 4, none⟩) (Ne.symm hne) u4
  have o5 := o4.setCell (p := ⟨B4, 4, none⟩) (.inl (.inl rfl)) u4
  simp only [List.setIfInBounds_toArray, List.set_cons_zero, List.set_cons_succ] at k5
  have k6 := k5.far (p := ⟨B5, 0, none⟩) hne v0
  have j6 := j5.set 0 v0
  have o6 := o5.setCell (p := ⟨B5, 0, none⟩) (.inl (.inr rfl)) v0
  have k7 := k6.far (p := ⟨B5, 1, none⟩) hne v1
  have j7 := j6.set 1 v1
  have o7 := o6.setCell (p := ⟨B5, 1, none⟩) (.inl (.inr rfl)) v1
  have k8 := k7.far (p := ⟨B5, 2, none⟩) hne v2
  have j8 := j7.set 2 v2
  have o8 := o7.setCell (p := ⟨B5, 2, none⟩) (.inl (.inr rfl)) v2
  have k9 := k8.far (p := ⟨B5, 3, none⟩) hne v3
  have j9 := j8.set 3 v3
  have o9 := o8.setCell (p := ⟨B5, 3, none⟩) (.inl (.inr rfl)) v3
  have k10 := k9.far (p := ⟨B5, 4, none⟩) hne v4
  have j10 := j9.set 4 v4
  have o10 := o9.setCell (p := ⟨B5, 4, none⟩) (.inl (.inr rfl)) v4
  have k11 := k10.far (p := ⟨B5, 5, none⟩) hne v5
  have j11 := j10.set 5 v5
  have o11 := o10.setCell (p := ⟨B5, 5, none⟩) (.inl (.inr rfl)) v5
  have k12 := k11.far (p := ⟨B5, 6, none⟩) hne v6
  have j12 := j11.set 6 v6
  have o12 := o11.setCell (p := ⟨B5, 6, none⟩) (.inl (.inr rfl)) v6
  have k13 := k12.far (p := ⟨B5, 7, none⟩) hne v7
  have j13 := j12.set 7 v7
  have o13 := o12.setCell (p := ⟨B5, 7, none⟩) (.inl (.inr rfl)) v7
  have k14 := k13.far (p := ⟨B5, 8, none⟩) hne v8
  have j14 := j13.set 8 v8
  have o14 := o13.setCell (p := ⟨B5, 8, none⟩) (.inl (.inr rfl)) v8
  simp only [List.setIfInBounds_toArray, List.set_cons_zero, List.set_cons_succ] at j14
  exact ⟨k14, j14, o14⟩
end Go.Proofs.Ytjfopmjphiddiaa
/- Play. -/
namespace Go.Proofs.Ytjfopmjphiddiaa
open Go.RowKit Go.Shelf

abbrev zbr : Value := .agg #[.int .i64 0, .int .i64 0, .slice none 0 0, .int .i64 0, .int .i64 0]
abbrev zsm : Value := .agg #[.int .i64 0, .int .i64 0, .int .i64 0, .int .i64 0, .int .i64 0, .int .i64 0, .int .i64 0, .int .i64 0, .int .i64 0]
abbrev smv (s : Sm) : Value := .agg #[.int .i64 s.wa, .int .i64 s.lv, .int .i64 s.lh, .int .i64 s.fv, .int .i64 s.fh, .int .i64 s.ch, .int .i64 s.ai, .int .i64 s.us, .int .i64 s.bo]
def PlayPost (x : Option Yx × Nat × Int) (W : World) (e : Ending) (W' : World) : Prop :=
  Below W.heap.size W W' ∧ match x.1 with
  | none => e = .returned (.tuple #[zbr, zsm, .int .i64 x.2.1, .int .i64 x.2.2])
  | some z => ∃ Bn qs, e = .returned (.tuple #[brv z.t (some ⟨Bn, 0, none⟩) qs.length qs.length z.r.heat z.r.room, smv z.r.s, .int .i64 x.2.1, .int .i64 x.2.2]) ∧ qs.map Qu.pp = z.ps ∧
      Has W' Bn 51 (qcells qs) ∧ (∀ q ∈ qs, QHas W' q ∧ W.heap.size ≤ q.g ∧ q.g ≠ Bn) ∧ (qs.map Qu.g).Nodup ∧ W.heap.size ≤ Bn

theorem below_drew (w : World) : Below w.heap.size w w.drew := Below.drew (Below.refl _ _)
set_option maxRecDepth 100000 in
set_option maxHeartbeats 4000000 in
theorem play_any (t : Sl) (ps : List Pp) (l : List Ev) (A A' : Option Addr) (cap cap' : Nat) (heat hroom : Int) (W : World) (hr : PRow W W.heap.size A ps) (hl : ERow W W.heap.size A' l) (hm : ps.length ≤ maxLen) (hml : ∀ p ∈ ps, p.l.length ≤ maxLen) (hm16 : maxLen ≥ 16) (hll : l.length ≤ 9223372036854775807) :
    Calls Try.prog 14 #[brv t A ps.length cap heat hroom, .slice A' l.length cap'] W (PlayPost (playR t ps heat hroom l) W) := by
  have hb0 : Below W.heap.size W (((W.alloc (Obj.cells #[.int .i64 t.v, .int .i64 t.h, .slice A ps.length cap, .int .i64 heat, .int .i64 hroom] 26)).alloc (Obj.cells #[.int .i64 0, .int .i64 0, .slice none 0 0, .int .i64 0, .int .i64 0] 26)).alloc (Obj.cells #[.int .i64 0, .int .i64 0, .int .i64 0, .int .i64 0, .int .i64 0, .int .i64 0, .int .i64 0, .int .i64 0, .int .i64 0] 31)) := Below.alloc (Below.alloc (below_one _ _) (by simp) _) (by simp; omega) _
  have hx0 : Has (((W.alloc (Obj.cells #[.int .i64 t.v, .int .i64 t.h, .slice A ps.length cap, .int .i64 heat, .int .i64 hroom] 26)).alloc (Obj.cells #[.int .i64 0, .int .i64 0, .slice none 0 0, .int .i64 0, .int .i64 0] 26)).alloc (Obj.cells #[.int .i64 0, .int .i64 0, .int .i64 0, .int .i64 0, .int .i64 0, .int .i64 0, .int .i64 0, .int .i64 0, .int .i64 0] 31)) W.heap.size 26 #[.int .i64 t.v, .int .i64 t.h, .slice A ps.length cap, .int .i64 heat, .int .i64 hroom] := ((Has.new W 26 _).alloc _).alloc _
  have h40 : Has (((W.alloc (Obj.cells #[.int .i64 t.v, .int .i64 t.h, .slice A ps.length cap, .int .i64 heat, .int .i64 hroom] 26)).alloc (Obj.cells #[.int .i64 0, .int .i64 0, .slice none 0 0, .int .i64 0, .int .i64 0] 26)).alloc (Obj.cells #[.int .i64 0, .int .i64 0, .int .i64 0, .int .i64 0, .int .i64 0, .int .i64 0, .int .i64 0, .int .i64 0, .int .i64 0] 31)) (W.heap.size + 1) 26 #[.int .i64 0, .int .i64 0, .slice none 0 0, .int .i64 0, .int .i64 0] := by
    refine Has.alloc (Has.newAt ?_) _; simp
  have h50 : Has (((W.alloc (Obj.cells #[.int .i64 t.v, .int .i64 t.h, .slice A ps.length cap, .int .i64 heat, .int .i64 hroom] 26)).alloc (Obj.cells #[.int .i64 0, .int .i64 0, .slice none 0 0, .int .i64 0, .int .i64 0] 26)).alloc (Obj.cells #[.int .i64 0, .int .i64 0, .int .i64 0, .int .i64 0, .int .i64 0, .int .i64 0, .int .i64 0, .int .i64 0, .int .i64 0] 31)) (W.heap.size + 2) 31 #[.int .i64 0, .int .i64 0, .int .i64 0, .int .i64 0, .int .i64 0, .int .i64 0, .int .i64 0, .int .i64 0, .int .i64 0] := by
    refine Has.newAt ?_; simp
  have hs0 : (((W.alloc (Obj.cells #[.int .i64 t.v, .int .i64 t.h, .slice A ps.length cap, .int .i64 heat, .int .i64 hroom] 26)).alloc (Obj.cells #[.int .i64 0, .int .i64 0, .slice none 0 0, .int .i64 0, .int .i64 0] 26)).alloc (Obj.cells #[.int .i64 0, .int .i64 0, .int .i64 0, .int .i64 0, .int .i64 0, .int .i64 0, .int .i64 0, .int .i64 0, .int .i64 0] 31)).heap.size = W.heap.size + 3 := by simp
  have H0 := Lib.hid (And.intro hb0 (And.intro hx0 (And.intro h40 (And.intro h50 hs0))))
  have HA := Lib.hid (And.intro hr (And.intro hl (And.intro hm (And.intro hml hm16))))
  clear hb0 hx0 h40 h50 hs0 hr hl hm hml hm16
  go_enter Try.func14, Try.ntmps14
  go_wp2_with fail
  refine (vb_any t ps A cap heat hroom _ ((HA.out.1.below H0.out.1).more H0.out.1.size) HA.out.2.2.1 HA.out.2.2.2.1).mono ?_
  rintro e w1 ⟨rfl, hb1⟩
  obtain ⟨g0, g1, g2, g3, g4⟩ := H0.out
  have hx1 := g1.below hb1 (by omega)
  have h41 := g2.below hb1 (by omega)
  have h51 := g3.below hb1 (by omega)
  have hbW : Below W.heap.size W w1 := g0.trans (hb1.mono (by omega))
  have hs1 : W.heap.size + 3 ≤ w1.heap.size := by have := hb1.size; omega
  clear g0 g1 g2 g3 g4 H0 hb1
  have c4_0 : w1.cell? ⟨W.heap.size + 1, 0, none⟩ = some (.int .i64 0) := h41.cell 0
  have f4_0 := h41.frozen 0
  have c4_1 : w1.cell? ⟨W.heap.size + 1, 1, none⟩ = some (.int .i64 0) := h41.cell 1
  have f4_1 := h41.frozen 1
  have c4_2 : w1.cell? ⟨W.heap.size + 1, 2, none⟩ = some (.slice none 0 0) := h41.cell 2
  have f4_2 := h41.frozen 2
  have c4_3 : w1.cell? ⟨W.heap.size + 1, 3, none⟩ = some (.int .i64 0) := h41.cell 3
  have f4_3 := h41.frozen 3
  have c4_4 : w1.cell? ⟨W.heap.size + 1, 4, none⟩ = some (.int .i64 0) := h41.cell 4
  have f4_4 := h41.frozen 4
  have c5_0 : w1.cell? ⟨W.heap.size + 2, 0, none⟩ = some (.int .i64 0) := h51.cell 0
  have f5_0 := h51.frozen 0
  have c5_1 : w1.cell? ⟨W.heap.size + 2, 1, none⟩ = some (.int .i64 0) := h51.cell 1
  have f5_1 := h51.frozen 1
  have c5_2 : w1.cell? ⟨W.heap.size + 2, 2, none⟩ = some (.int .i64 0) := h51.cell 2
  have f5_2 := h51.frozen 2
  have c5_3 : w1.cell? ⟨W.heap.size + 2, 3, none⟩ = some (.int .i64 0) := h51.cell 3
  have f5_3 := h51.frozen 3
  have c5_4 : w1.cell? ⟨W.heap.size + 2, 4, none⟩ = some (.int .i64 0) := h51.cell 4
  have f5_4 := h51.frozen 4
  have c5_5 : w1.cell? ⟨W.heap.size + 2, 5, none⟩ = some (.int .i64 0) := h51.cell 5
  have f5_5 := h51.frozen 5
  have c5_6 : w1.cell? ⟨W.heap.size + 2, 6, none⟩ = some (.int .i64 0) := h51.cell 6
  have f5_6 := h51.frozen 6
  have c5_7 : w1.cell? ⟨W.heap.size + 2, 7, none⟩ = some (.int .i64 0) := h51.cell 7
  have f5_7 := h51.frozen 7
  have c5_8 : w1.cell? ⟨W.heap.size + 2, 8, none⟩ = some (.int .i64 0) := h51.cell 8
  have f5_8 := h51.frozen 8
  have l4 := h41.lt
  have l5 := h51.lt
  have HB := Lib.hid (And.intro hbW (And.intro hx1 (And.intro h41 h51)))
  clear hbW hx1 h41 h51
  cases hv : brineB t ps heat hroom
  · have hP : Hid (playR t ps heat hroom l = (none, 0, 1)) := by
      show _ = _
      unfold playR; rw [hv]; rfl
    clear hv
    go_wp2
    generalize hwz : World.setCell _ _ _ = wz
    have hz := set14 (B4 := W.heap.size + 1) (B5 := W.heap.size + 1 + 1) HB.out.2.2.1 HB.out.2.2.2 (by omega) (.int .i64 0) (.int .i64 0) (.slice none 0 0) (.int .i64 0) (.int .i64 0) (.int .i64 0) (.int .i64 0) (.int .i64 0) (.int .i64 0) (.int .i64 0) (.int .i64 0) (.int .i64 0) (.int .i64 0) (.int .i64 0)
    rw [hwz] at hz
    have HZ := Lib.hid hz
    clear hz hwz
    have q4_0 : wz.cell? ⟨W.heap.size + 1, 0, none⟩ = some (.int .i64 0) := HZ.out.h4.cell 0
    have q4_1 : wz.cell? ⟨W.heap.size + 1, 1, none⟩ = some (.int .i64 0) := HZ.out.h4.cell 1
    have q4_2 : wz.cell? ⟨W.heap.size + 1, 2, none⟩ = some (.slice none 0 0) := HZ.out.h4.cell 2
    have q4_3 : wz.cell? ⟨W.heap.size + 1, 3, none⟩ = some (.int .i64 0) := HZ.out.h4.cell 3
    have q4_4 : wz.cell? ⟨W.heap.size + 1, 4, none⟩ = some (.int .i64 0) := HZ.out.h4.cell 4
    have q5_0 : wz.cell? ⟨W.heap.size + 1 + 1, 0, none⟩ = some (.int .i64 0) := HZ.out.h5.cell 0
    have q5_1 : wz.cell? ⟨W.heap.size + 1 + 1, 1, none⟩ = some (.int .i64 0) := HZ.out.h5.cell 1
    have q5_2 : wz.cell? ⟨W.heap.size + 1 + 1, 2, none⟩ = some (.int .i64 0) := HZ.out.h5.cell 2
    have q5_3 : wz.cell? ⟨W.heap.size + 1 + 1, 3, none⟩ = some (.int .i64 0) := HZ.out.h5.cell 3
    have q5_4 : wz.cell? ⟨W.heap.size + 1 + 1, 4, none⟩ = some (.int .i64 0) := HZ.out.h5.cell 4
    have q5_5 : wz.cell? ⟨W.heap.size + 1 + 1, 5, none⟩ = some (.int .i64 0) := HZ.out.h5.cell 5
    have q5_6 : wz.cell? ⟨W.heap.size + 1 + 1, 6, none⟩ = some (.int .i64 0) := HZ.out.h5.cell 6
    have q5_7 : wz.cell? ⟨W.heap.size + 1 + 1, 7, none⟩ = some (.int .i64 0) := HZ.out.h5.cell 7
    have q5_8 : wz.cell? ⟨W.heap.size + 1 + 1, 8, none⟩ = some (.int .i64 0) := HZ.out.h5.cell 8
    refine bodyPost_ret (v := .tuple #[zbr, zsm, .int .i64 0, .int .i64 1]) (by simp [results, Try.results14, go_sem, q4_0, q4_1, q4_2, q4_3, q4_4, q5_0, q5_1, q5_2, q5_3, q5_4, q5_5, q5_6, q5_7, q5_8]) rfl ?_
    rw [hP.out]
    exact ⟨HB.out.1.trans (HZ.out.on.below (by omega) (fun i hi => by omega)), rfl⟩
  · have hyi := y0_in hv
    have hlens : ps.length ≤ 8 ∧ ∀ p ∈ ps, p.l.length ≤ 16 := by
      refine ⟨hyi.len, fun p hp => (hyi.ps p hp).len⟩
    by_cases h256 : 256 < l.length
    · have h256' : (256 : Int) < l.length := by omega
      have hP : Hid (playR t ps heat hroom l = (none, 0, 3)) := by
        show _ = _
        unfold playR; rw [hv, if_pos h256]; rfl
      clear hv hyi hlens
      go_wp2
      generalize hwz : World.setCell _ _ _ = wz
      have hz := set14 (B4 := W.heap.size + 1) (B5 := W.heap.size + 1 + 1) HB.out.2.2.1 HB.out.2.2.2 (by omega) (.int .i64 0) (.int .i64 0) (.slice none 0 0) (.int .i64 0) (.int .i64 0) (.int .i64 0) (.int .i64 0) (.int .i64 0) (.int .i64 0) (.int .i64 0) (.int .i64 0) (.int .i64 0) (.int .i64 0) (.int .i64 0)
      rw [hwz] at hz
      have HZ := Lib.hid hz
      clear hz hwz
      have q4_0 : wz.cell? ⟨W.heap.size + 1, 0, none⟩ = some (.int .i64 0) := HZ.out.h4.cell 0
      have q4_1 : wz.cell? ⟨W.heap.size + 1, 1, none⟩ = some (.int .i64 0) := HZ.out.h4.cell 1
      have q4_2 : wz.cell? ⟨W.heap.size + 1, 2, none⟩ = some (.slice none 0 0) := HZ.out.h4.cell 2
      have q4_3 : wz.cell? ⟨W.heap.size + 1, 3, none⟩ = some (.int .i64 0) := HZ.out.h4.cell 3
      have q4_4 : wz.cell? ⟨W.heap.size + 1, 4, none⟩ = some (.int .i64 0) := HZ.out.h4.cell 4
      have q5_0 : wz.cell? ⟨W.heap.size + 1 + 1, 0, none⟩ = some (.int .i64 0) := HZ.out.h5.cell 0
      have q5_1 : wz.cell? ⟨W.heap.size + 1 + 1, 1, none⟩ = some (.int .i64 0) := HZ.out.h5.cell 1
      have q5_2 : wz.cell? ⟨W.heap.size + 1 + 1, 2, none⟩ = some (.int .i64 0) := HZ.out.h5.cell 2
      have q5_3 : wz.cell? ⟨W.heap.size + 1 + 1, 3, none⟩ = some (.int .i64 0) := HZ.out.h5.cell 3
      have q5_4 : wz.cell? ⟨W.heap.size + 1 + 1, 4, none⟩ = some (.int .i64 0) := HZ.out.h5.cell 4
      have q5_5 : wz.cell? ⟨W.heap.size + 1 + 1, 5, none⟩ = some (.int .i64 0) := HZ.out.h5.cell 5
      have q5_6 : wz.cell? ⟨W.heap.size + 1 + 1, 6, none⟩ = some (.int .i64 0) := HZ.out.h5.cell 6
      have q5_7 : wz.cell? ⟨W.heap.size + 1 + 1, 7, none⟩ = some (.int .i64 0) := HZ.out.h5.cell 7
      have q5_8 : wz.cell? ⟨W.heap.size + 1 + 1, 8, none⟩ = some (.int .i64 0) := HZ.out.h5.cell 8
      refine bodyPost_ret (v := .tuple #[zbr, zsm, .int .i64 0, .int .i64 3]) (by simp [results, Try.results14, go_sem, q4_0, q4_1, q4_2, q4_3, q4_4, q5_0, q5_1, q5_2, q5_3, q5_4, q5_5, q5_6, q5_7, q5_8]) rfl ?_
      rw [hP.out]
      exact ⟨HB.out.1.trans (HZ.out.on.below (by omega) (fun i hi => by omega)), rfl⟩
    · have h256' : ¬ (256 : Int) < l.length := by omega
      have e0 : w1.cell? ⟨W.heap.size, 0, none⟩ = some (.int .i64 t.v) := HB.out.2.1.cell 0
      have e1 : w1.cell? ⟨W.heap.size, 1, none⟩ = some (.int .i64 t.h) := HB.out.2.1.cell 1
      have e2 : w1.cell? ⟨W.heap.size, 2, none⟩ = some (.slice A ps.length cap) := HB.out.2.1.cell 2
      have e3 : w1.cell? ⟨W.heap.size, 3, none⟩ = some (.int .i64 heat) := HB.out.2.1.cell 3
      have e4 : w1.cell? ⟨W.heap.size, 4, none⟩ = some (.int .i64 hroom) := HB.out.2.1.cell 4
      have HV := Lib.hid (And.intro hv (And.intro hyi hlens))
      clear hv hyi hlens c4_0 f4_0 c4_1 f4_1 c4_2 f4_2 c4_3 f4_3 c4_4 f4_4 c5_0 f5_0 c5_1 f5_1 c5_2 f5_2 c5_3 f5_3 c5_4 f5_4 c5_5 f5_5 c5_6 f5_6 c5_7 f5_7 c5_8 f5_8
      go_wp2_with fail
      refine (new_any t ps A cap heat hroom _ ((HA.out.1.below HB.out.1).more HB.out.1.size) HV.out.2.2.1 HV.out.2.2.2 HA.out.2.2.2.2).mono ?_
      rintro e w2 ⟨rfl, hb2, qs0, hh0, hq0⟩
      have hbW2 : Below W.heap.size W w2 := HB.out.1.trans (hb2.mono (by omega))
      have h42 := HB.out.2.2.1.below hb2 (by omega)
      have h52 := HB.out.2.2.2.below hb2 (by omega)
      have hs2 := hb2.size
      have HC := Lib.hid (And.intro hbW2 (And.intro h42 (And.intro h52 (And.intro hh0 (And.intro hq0 hb2)))))
      obtain ⟨Y, hY⟩ : ∃ Y, Y = y0 t ps heat hroom := ⟨_, rfl⟩
      clear hbW2 h42 h52 hh0 hq0 hb2 e0 e1 e2 e3 e4
      go_wp2
      go_loopw [26] (fun i wr => ∃ k : Nat, ∃ qs, k ≤ l.length ∧ i = .int .i64 k ∧ Below w1.heap.size w1 wr ∧ HereT wr (w1.heap.size + 2) (w1.heap.size + 1) [] (evs Y (l.take k)) qs ∧ (∀ q ∈ qs, w1.heap.size ≤ q.g) ∧ bad Y (l.take k) = none) (fun i _ => l.length - (intOf i).toNat)
      case atStart => exact ⟨0, qs0, Nat.zero_le _, rfl, HC.out.2.2.2.2.2, by rw [hY]; exact HC.out.2.2.2.1, HC.out.2.2.2.2.1, rfl⟩
      case round =>
        obtain ⟨k, qs, hk, rfl, hbr, hh, hqg, hbad⟩ := hrel
        have hbWr : Below W.heap.size W wr := HB.out.1.trans (hbr.mono (by omega))
        have h4r := HB.out.2.2.1.below hbr (by omega)
        have h5r := HB.out.2.2.2.below hbr (by omega)
        have hsr := hbr.size
        by_cases hlt : k < l.length
        · obtain ⟨g, o, eA, hg, d0, d1, d2, d3⟩ := (HA.out.2.1.below hbWr) k hlt
          have hlt' : (k : Int) < l.length := by omega
          have hgw : g < wr.heap.size := by omega
          subst eA
          obtain ⟨ev, hev⟩ : ∃ ev, ev = l[k] := ⟨_, rfl⟩
          rw [← hev] at d0 d1 d2 d3
          have hin := evs_in (by rw [hY]; exact HV.out.2.1 : YIn 0 Y) k (by omega) hbad
          obtain ⟨qt, rfl, hmap, hCq⟩ := hh
          have hhap := fun (w' : World) (hb' : Below wr.heap.size wr w') => happen_any (w1.heap.size + 2) (w1.heap.size + 1) qs (evs Y (l.take k)) k ev.k ev.p ev.a ev.h w' (hCq.below hb') (by simpa using hmap) hin (by omega)
          have hlo : ∀ j, CS (w1.heap.size + 2) (w1.heap.size + 1) qs j → w1.heap.size ≤ j := by
            rintro j (rfl | rfl | hj)
            · omega
            · omega
            · obtain ⟨q, hq, rfl⟩ := List.mem_map.1 hj
              exact hqg q hq
          have hbt := bad_take Y l k hlt hbad
          rw [← hev] at hbt
          have HD := Lib.hid (And.intro hhap (And.intro hlo (And.intro hbr (And.intro hbad (And.intro hev hqg)))))
          have HE := Lib.hid hbt
          clear hhap hlo hbr hbad hev hqg hbWr h4r h5r hin hmap hCq
          go_wp2_with fail
          refine (HD.out.1 _ (below_one _ _)).mono ?_
          rintro e w3 ⟨rfl, qs', hM, hH⟩
          have hb3 : Below w1.heap.size w1 w3 := (HD.out.2.2.1.alloc hsr _).trans (hM.only.below (by simp only [World.size_alloc]; omega) (fun j hj hc => by have := HD.out.2.1 j hc; omega))
          have h43 := HB.out.2.2.1.below hb3 (by omega)
          have h53 := HB.out.2.2.2.below hb3 (by omega)
          have hbW3 : Below W.heap.size W w3 := HB.out.1.trans (hb3.mono (by omega))
          have hs3 := hb3.size
          have hqg3 : ∀ q ∈ qs', w1.heap.size ≤ q.g := fun q hq => by
            rcases hM.own q.g (List.mem_map_of_mem hq) with h | h
            · exact HD.out.2.1 _ (.inr (.inr h))
            · simp only [World.size_alloc] at h; omega
          have hex : doErr (evs Y (l.take k)) ev.k ev.p ev.a ev.h = errE (evs Y (l.take k)) ev := rfl
          rw [hex] at hH ⊢
          have HF := Lib.hid (And.intro hb3 (And.intro hH (And.intro hqg3 HE.out)))
          obtain ⟨x, hx⟩ : ∃ x, x = errE (evs Y (l.take k)) ev := ⟨_, rfl⟩
          rw [← hx]
          clear hH hM hqg3 hex
          by_cases hx0 : x = 0
          · have HQ := Lib.hid (hx.symm.trans hx0)
            subst hx0
            clear hx hb3 h43 h53 hbW3
            go_wp2
            go_roundw
            case rel =>
              refine ⟨k + 1, qs', by omega, by go_num, HF.out.1, ?_, HF.out.2.2.1, ?_⟩
              · rw [evs_take Y l k hlt, ← HD.out.2.2.2.2.1]
                exact HF.out.2.1 HQ.out
              · rw [HF.out.2.2.2.1, if_pos HQ.out]
            case measure => simp [intOf]; omega
          · have hP : Hid (playR t ps heat hroom l = (none, k, x)) := by
              show _ = _
              unfold playR
              rw [HV.out.1, if_neg (by simp), if_neg h256, ← hY, HF.out.2.2.2.2 (by rw [← hx]; exact hx0), ← hx]
            clear hx hb3
            have c4_0 : w3.cell? ⟨W.heap.size + 1, 0, none⟩ = some (.int .i64 0) := h43.cell 0
            have f4_0 := h43.frozen 0
            have c4_1 : w3.cell? ⟨W.heap.size + 1, 1, none⟩ = some (.int .i64 0) := h43.cell 1
            have f4_1 := h43.frozen 1
            have c4_2 : w3.cell? ⟨W.heap.size + 1, 2, none⟩ = some (.slice none 0 0) := h43.cell 2
            have f4_2 := h43.frozen 2
            have c4_3 : w3.cell? ⟨W.heap.size + 1, 3, none⟩ = some (.int .i64 0) := h43.cell 3
            have f4_3 := h43.frozen 3
            have c4_4 : w3.cell? ⟨W.heap.size + 1, 4, none⟩ = some (.int .i64 0) := h43.cell 4
            have f4_4 := h43.frozen 4
            have c5_0 : w3.cell? ⟨W.heap.size + 2, 0, none⟩ = some (.int .i64 0) := h53.cell 0
            have f5_0 := h53.frozen 0
            have c5_1 : w3.cell? ⟨W.heap.size + 2, 1, none⟩ = some (.int .i64 0) := h53.cell 1
            have f5_1 := h53.frozen 1
            have c5_2 : w3.cell? ⟨W.heap.size + 2, 2, none⟩ = some (.int .i64 0) := h53.cell 2
            have f5_2 := h53.frozen 2
            have c5_3 : w3.cell? ⟨W.heap.size + 2, 3, none⟩ = some (.int .i64 0) := h53.cell 3
            have f5_3 := h53.frozen 3
            have c5_4 : w3.cell? ⟨W.heap.size + 2, 4, none⟩ = some (.int .i64 0) := h53.cell 4
            have f5_4 := h53.frozen 4
            have c5_5 : w3.cell? ⟨W.heap.size + 2, 5, none⟩ = some (.int .i64 0) := h53.cell 5
            have f5_5 := h53.frozen 5
            have c5_6 : w3.cell? ⟨W.heap.size + 2, 6, none⟩ = some (.int .i64 0) := h53.cell 6
            have f5_6 := h53.frozen 6
            have c5_7 : w3.cell? ⟨W.heap.size + 2, 7, none⟩ = some (.int .i64 0) := h53.cell 7
            have f5_7 := h53.frozen 7
            have c5_8 : w3.cell? ⟨W.heap.size + 2, 8, none⟩ = some (.int .i64 0) := h53.cell 8
            have f5_8 := h53.frozen 8
            have l4 := h43.lt
            have l5 := h53.lt
            have HB2 := HB
            have HD := Lib.hid (And.intro hbW3 (And.intro True.intro (And.intro h43 h53)))
            clear hbW3 h43 h53
            go_wp2
            generalize hwz : World.setCell _ _ _ = wz
            have hz := set14 (B4 := W.heap.size + 1) (B5 := W.heap.size + 1 + 1) HD.out.2.2.1 HD.out.2.2.2 (by omega) (.int .i64 0) (.int .i64 0) (.slice none 0 0) (.int .i64 0) (.int .i64 0) (.int .i64 0) (.int .i64 0) (.int .i64 0) (.int .i64 0) (.int .i64 0) (.int .i64 0) (.int .i64 0) (.int .i64 0) (.int .i64 0)
            rw [hwz] at hz
            have HZ := Lib.hid hz
            clear hz hwz
            have q4_0 : wz.cell? ⟨W.heap.size + 1, 0, none⟩ = some (.int .i64 0) := HZ.out.h4.cell 0
            have q4_1 : wz.cell? ⟨W.heap.size + 1, 1, none⟩ = some (.int .i64 0) := HZ.out.h4.cell 1
            have q4_2 : wz.cell? ⟨W.heap.size + 1, 2, none⟩ = some (.slice none 0 0) := HZ.out.h4.cell 2
            have q4_3 : wz.cell? ⟨W.heap.size + 1, 3, none⟩ = some (.int .i64 0) := HZ.out.h4.cell 3
            have q4_4 : wz.cell? ⟨W.heap.size + 1, 4, none⟩ = some (.int .i64 0) := HZ.out.h4.cell 4
            have q5_0 : wz.cell? ⟨W.heap.size + 1 + 1, 0, none⟩ = some (.int .i64 0) := HZ.out.h5.cell 0
            have q5_1 : wz.cell? ⟨W.heap.size + 1 + 1, 1, none⟩ = some (.int .i64 0) := HZ.out.h5.cell 1
            have q5_2 : wz.cell? ⟨W.heap.size + 1 + 1, 2, none⟩ = some (.int .i64 0) := HZ.out.h5.cell 2
            have q5_3 : wz.cell? ⟨W.heap.size + 1 + 1, 3, none⟩ = some (.int .i64 0) := HZ.out.h5.cell 3
            have q5_4 : wz.cell? ⟨W.heap.size + 1 + 1, 4, none⟩ = some (.int .i64 0) := HZ.out.h5.cell 4
            have q5_5 : wz.cell? ⟨W.heap.size + 1 + 1, 5, none⟩ = some (.int .i64 0) := HZ.out.h5.cell 5
            have q5_6 : wz.cell? ⟨W.heap.size + 1 + 1, 6, none⟩ = some (.int .i64 0) := HZ.out.h5.cell 6
            have q5_7 : wz.cell? ⟨W.heap.size + 1 + 1, 7, none⟩ = some (.int .i64 0) := HZ.out.h5.cell 7
            have q5_8 : wz.cell? ⟨W.heap.size + 1 + 1, 8, none⟩ = some (.int .i64 0) := HZ.out.h5.cell 8
            refine bodyPost_ret (v := .tuple #[zbr, zsm, .int .i64 k, .int .i64 x]) (by simp [results, Try.results14, go_sem, q4_0, q4_1, q4_2, q4_3, q4_4, q5_0, q5_1, q5_2, q5_3, q5_4, q5_5, q5_6, q5_7, q5_8]) rfl ?_
            rw [hP.out]
            exact ⟨HD.out.1.trans (HZ.out.on.below (by omega) (fun i hi => by omega)), rfl⟩
        · skip
          have hke : k = l.length := by omega
          subst hke
          rw [List.take_length] at hh hbad
          obtain ⟨z, hz⟩ : ∃ z, z = evs Y l := ⟨_, rfl⟩
          have hin := evs_in (by rw [hY]; exact HV.out.2.1 : YIn 0 Y) l.length (Nat.le_refl _) (by rw [List.take_length]; exact hbad)
          rw [List.take_length, ← hz] at hin
          rw [← hz] at hh
          have hP : Hid (playR t ps heat hroom l = (some z, l.length, 0)) := by
            show _ = _
            unfold playR
            rw [HV.out.1, if_neg (by simp), if_neg h256, ← hY, hbad, hz]
          obtain ⟨qt, rfl, hmap, hCq⟩ := hh
          have hq8 : qs.length ≤ 8 := by
            have := congrArg List.length hmap
            have := hin.len
            simp only [List.length_map] at *
            omega
          have hS0 : Hid ((fun w : World => w.cell? ⟨w1.heap.size + 2, 5, none⟩ = some (.int .i64 z.r.s.wa) ∧ w.cell? ⟨w1.heap.size + 2, 6, none⟩ = some (.int .i64 z.r.s.lv) ∧ w.cell? ⟨w1.heap.size + 2, 7, none⟩ = some (.int .i64 z.r.s.lh) ∧ w.cell? ⟨w1.heap.size + 2, 8, none⟩ = some (.int .i64 z.r.s.fv) ∧ w.cell? ⟨w1.heap.size + 2, 9, none⟩ = some (.int .i64 z.r.s.fh) ∧ w.cell? ⟨w1.heap.size + 2, 10, none⟩ = some (.int .i64 z.r.s.ch) ∧ w.cell? ⟨w1.heap.size + 2, 11, none⟩ = some (.int .i64 z.r.s.ai) ∧ w.cell? ⟨w1.heap.size + 2, 12, none⟩ = some (.int .i64 z.r.s.us) ∧ w.cell? ⟨w1.heap.size + 2, 13, none⟩ = some (.int .i64 z.r.s.bo)) wr.drew) := by
            show _ ∧ _
            exact ⟨hCq.c.cell 5, hCq.c.cell 6, hCq.c.cell 7, hCq.c.cell 8, hCq.c.cell 9, hCq.c.cell 10, hCq.c.cell 11, hCq.c.cell 12, hCq.c.cell 13⟩
          have HD := Lib.hid (And.intro hbWr (And.intro h4r (And.intro h5r (And.intro hCq (And.intro hmap (And.intro hqg hq8))))))
          clear hbWr h4r h5r hCq hqg hq8 hmap hin hz hbad hbr
          go_wp2
          refine wp_region_late (fun w : World => w.cell? ⟨w1.heap.size + 2, 5, none⟩ = some (.int .i64 z.r.s.wa) ∧ w.cell? ⟨w1.heap.size + 2, 6, none⟩ = some (.int .i64 z.r.s.lv) ∧ w.cell? ⟨w1.heap.size + 2, 7, none⟩ = some (.int .i64 z.r.s.lh) ∧ w.cell? ⟨w1.heap.size + 2, 8, none⟩ = some (.int .i64 z.r.s.fv) ∧ w.cell? ⟨w1.heap.size + 2, 9, none⟩ = some (.int .i64 z.r.s.fh) ∧ w.cell? ⟨w1.heap.size + 2, 10, none⟩ = some (.int .i64 z.r.s.ch) ∧ w.cell? ⟨w1.heap.size + 2, 11, none⟩ = some (.int .i64 z.r.s.ai) ∧ w.cell? ⟨w1.heap.size + 2, 12, none⟩ = some (.int .i64 z.r.s.us) ∧ w.cell? ⟨w1.heap.size + 2, 13, none⟩ = some (.int .i64 z.r.s.bo)) [] (by kernel_rfl) ?_
          refine wpLate_take (i := 0) (oi := ?oi0) (v := ?v0) [] ?hi0 (by kernel_rfl) (by kernel_rfl) (by kernel_rfl) (by kernel_rfl) (by kernel_rfl) ?hQ0 (Or.inl ⟨?hw0, ?hy0⟩) hS0.out ?rest0
          case hi0 => (simp only [List.getElem?_toArray, List.getElem?_cons_zero]; rfl)
          case hQ0 => exact fun _ _ _ h => h
          case hw0 => rfl
          case hy0 =>
            intro w' hSw
            obtain ⟨r0, r1, r2, r3, r4, r5, r6, r7, r8⟩ := hSw
            go_simp
            try exact rfl
          simp only [Act.put, List.setIfInBounds_toArray, List.set_cons_zero, List.set_cons_succ]
          refine wpLate_take (i := 2) (oi := ?oi2) (v := ?v2) [] ?hi2 (by kernel_rfl) (by kernel_rfl) (by kernel_rfl) (by kernel_rfl) (by kernel_rfl) ?hQ2 (Or.inl ⟨?hw2, ?hy2⟩) hS0.out ?rest2
          case hi2 => (simp only [List.getElem?_toArray, List.getElem?_cons_zero, List.getElem?_cons_succ]; rfl)
          case hQ2 => exact fun _ _ _ h => h
          case hw2 => rfl
          case hy2 =>
            intro w' hSw
            obtain ⟨r0, r1, r2, r3, r4, r5, r6, r7, r8⟩ := hSw
            go_simp
            try exact rfl
          simp only [Act.put, List.setIfInBounds_toArray, List.set_cons_zero, List.set_cons_succ]
          refine wpLate_take (i := 3) (oi := ?oi3) (v := ?v3) [] ?hi3 (by kernel_rfl) (by kernel_rfl) (by kernel_rfl) (by kernel_rfl) (by kernel_rfl) ?hQ3 (Or.inl ⟨?hw3, ?hy3⟩) hS0.out ?rest3
          case hi3 => (simp only [List.getElem?_toArray, List.getElem?_cons_zero, List.getElem?_cons_succ]; rfl)
          case hQ3 => exact fun _ _ _ h => h
          case hw3 => rfl
          case hy3 =>
            intro w' hSw
            obtain ⟨r0, r1, r2, r3, r4, r5, r6, r7, r8⟩ := hSw
            go_simp
            try exact rfl
          simp only [Act.put, List.setIfInBounds_toArray, List.set_cons_zero, List.set_cons_succ]
          refine wpLate_take (i := 4) (oi := ?oi4) (v := ?v4) [] ?hi4 (by kernel_rfl) (by kernel_rfl) (by kernel_rfl) (by kernel_rfl) (by kernel_rfl) ?hQ4 (Or.inl ⟨?hw4, ?hy4⟩) hS0.out ?rest4
          case hi4 => (simp only [List.getElem?_toArray, List.getElem?_cons_zero, List.getElem?_cons_succ]; rfl)
          case hQ4 => exact fun _ _ _ h => h
          case hw4 => rfl
          case hy4 =>
            intro w' hSw
            obtain ⟨r0, r1, r2, r3, r4, r5, r6, r7, r8⟩ := hSw
            go_simp
            try exact rfl
          simp only [Act.put, List.setIfInBounds_toArray, List.set_cons_zero, List.set_cons_succ]
          refine wpLate_take (i := 5) (oi := ?oi5) (v := ?v5) [] ?hi5 (by kernel_rfl) (by kernel_rfl) (by kernel_rfl) (by kernel_rfl) (by kernel_rfl) ?hQ5 (Or.inl ⟨?hw5, ?hy5⟩) hS0.out ?rest5
          case hi5 => (simp only [List.getElem?_toArray, List.getElem?_cons_zero, List.getElem?_cons_succ]; rfl)
          case hQ5 => exact fun _ _ _ h => h
          case hw5 => rfl
          case hy5 =>
            intro w' hSw
            obtain ⟨r0, r1, r2, r3, r4, r5, r6, r7, r8⟩ := hSw
            go_simp
            try exact rfl
          simp only [Act.put, List.setIfInBounds_toArray, List.set_cons_zero, List.set_cons_succ]
          refine wpLate_take (i := 6) (oi := ?oi6) (v := ?v6) [] ?hi6 (by kernel_rfl) (by kernel_rfl) (by kernel_rfl) (by kernel_rfl) (by kernel_rfl) ?hQ6 (Or.inl ⟨?hw6, ?hy6⟩) hS0.out ?rest6
          case hi6 => (simp only [List.getElem?_toArray, List.getElem?_cons_zero, List.getElem?_cons_succ]; rfl)
          case hQ6 => exact fun _ _ _ h => h
          case hw6 => rfl
          case hy6 =>
            intro w' hSw
            obtain ⟨r0, r1, r2, r3, r4, r5, r6, r7, r8⟩ := hSw
            go_simp
            try exact rfl
          simp only [Act.put, List.setIfInBounds_toArray, List.set_cons_zero, List.set_cons_succ]
          refine wpLate_take (i := 7) (oi := ?oi7) (v := ?v7) [] ?hi7 (by kernel_rfl) (by kernel_rfl) (by kernel_rfl) (by kernel_rfl) (by kernel_rfl) ?hQ7 (Or.inl ⟨?hw7, ?hy7⟩) hS0.out ?rest7
          case hi7 => (simp only [List.getElem?_toArray, List.getElem?_cons_zero, List.getElem?_cons_succ]; rfl)
          case hQ7 => exact fun _ _ _ h => h
          case hw7 => rfl
          case hy7 =>
            intro w' hSw
            obtain ⟨r0, r1, r2, r3, r4, r5, r6, r7, r8⟩ := hSw
            go_simp
            try exact rfl
          simp only [Act.put, List.setIfInBounds_toArray, List.set_cons_zero, List.set_cons_succ]
          have hSof : ∀ w, Has w (w1.heap.size + 2) 70 (ccells z.t (w1.heap.size + 1) qs.length z.r) → (fun w : World => w.cell? ⟨w1.heap.size + 2, 5, none⟩ = some (.int .i64 z.r.s.wa) ∧ w.cell? ⟨w1.heap.size + 2, 6, none⟩ = some (.int .i64 z.r.s.lv) ∧ w.cell? ⟨w1.heap.size + 2, 7, none⟩ = some (.int .i64 z.r.s.lh) ∧ w.cell? ⟨w1.heap.size + 2, 8, none⟩ = some (.int .i64 z.r.s.fv) ∧ w.cell? ⟨w1.heap.size + 2, 9, none⟩ = some (.int .i64 z.r.s.fh) ∧ w.cell? ⟨w1.heap.size + 2, 10, none⟩ = some (.int .i64 z.r.s.ch) ∧ w.cell? ⟨w1.heap.size + 2, 11, none⟩ = some (.int .i64 z.r.s.ai) ∧ w.cell? ⟨w1.heap.size + 2, 12, none⟩ = some (.int .i64 z.r.s.us) ∧ w.cell? ⟨w1.heap.size + 2, 13, none⟩ = some (.int .i64 z.r.s.bo)) w := fun w h =>
            ⟨h.cell 5, h.cell 6, h.cell 7, h.cell 8, h.cell 9, h.cell 10, h.cell 11, h.cell 12, h.cell 13⟩
          refine wpLate_one (i := 1) (o := ?o1) (by kernel_rfl) ?ho1 ?hk1
          case ho1 => (simp only [List.getElem?_toArray, List.getElem?_cons_zero, List.getElem?_cons_succ]; rfl)
          intro K hK
          go_simp
          refine (end_any (w1.heap.size + 2) (w1.heap.size + 1) z.t qs z.r wr.drew (HD.out.2.2.2.1.below (below_drew wr)) HD.out.2.2.2.2.2.2).mono ?_
          rintro e w5 ⟨Bn, rfl, hb5, hn5, hBn⟩
          try (go_wp2_with fail)
          have hb5 : Below wr.heap.size wr w5 := (below_drew wr).trans hb5
          have hC5 := HD.out.2.2.2.1.below hb5
          have h45 := HD.out.2.1.below hb5 (by omega)
          have h55 := HD.out.2.2.1.below hb5 (by omega)
          have hbW5 : Below W.heap.size W w5 := HD.out.1.trans (hb5.mono (by omega))
          have hs5 := hb5.size
          have hBn : wr.heap.size ≤ Bn := hBn
          refine hK.out _ _ (fun _ => hSof _ hC5.c) ?_
          have c4_0 : w5.cell? ⟨W.heap.size + 1, 0, none⟩ = some (.int .i64 0) := h45.cell 0
          have f4_0 := h45.frozen 0
          have c4_1 : w5.cell? ⟨W.heap.size + 1, 1, none⟩ = some (.int .i64 0) := h45.cell 1
          have f4_1 := h45.frozen 1
          have c4_2 : w5.cell? ⟨W.heap.size + 1, 2, none⟩ = some (.slice none 0 0) := h45.cell 2
          have f4_2 := h45.frozen 2
          have c4_3 : w5.cell? ⟨W.heap.size + 1, 3, none⟩ = some (.int .i64 0) := h45.cell 3
          have f4_3 := h45.frozen 3
          have c4_4 : w5.cell? ⟨W.heap.size + 1, 4, none⟩ = some (.int .i64 0) := h45.cell 4
          have f4_4 := h45.frozen 4
          have c5_0 : w5.cell? ⟨W.heap.size + 2, 0, none⟩ = some (.int .i64 0) := h55.cell 0
          have f5_0 := h55.frozen 0
          have c5_1 : w5.cell? ⟨W.heap.size + 2, 1, none⟩ = some (.int .i64 0) := h55.cell 1
          have f5_1 := h55.frozen 1
          have c5_2 : w5.cell? ⟨W.heap.size + 2, 2, none⟩ = some (.int .i64 0) := h55.cell 2
          have f5_2 := h55.frozen 2
          have c5_3 : w5.cell? ⟨W.heap.size + 2, 3, none⟩ = some (.int .i64 0) := h55.cell 3
          have f5_3 := h55.frozen 3
          have c5_4 : w5.cell? ⟨W.heap.size + 2, 4, none⟩ = some (.int .i64 0) := h55.cell 4
          have f5_4 := h55.frozen 4
          have c5_5 : w5.cell? ⟨W.heap.size + 2, 5, none⟩ = some (.int .i64 0) := h55.cell 5
          have f5_5 := h55.frozen 5
          have c5_6 : w5.cell? ⟨W.heap.size + 2, 6, none⟩ = some (.int .i64 0) := h55.cell 6
          have f5_6 := h55.frozen 6
          have c5_7 : w5.cell? ⟨W.heap.size + 2, 7, none⟩ = some (.int .i64 0) := h55.cell 7
          have f5_7 := h55.frozen 7
          have c5_8 : w5.cell? ⟨W.heap.size + 2, 8, none⟩ = some (.int .i64 0) := h55.cell 8
          have f5_8 := h55.frozen 8
          have l4 := h45.lt
          have l5 := h55.lt
          have HE := Lib.hid (And.intro hbW5 (And.intro True.intro (And.intro h45 h55)))
          have HG := Lib.hid (And.intro hC5 hn5)
          clear hbW5 h45 h55 hC5 hn5 hb5
          clear hK K
          try simp only [Act.put, List.setIfInBounds_toArray, List.set_cons_zero, List.set_cons_succ]
          refine wpLate_one (i := 8) (o := ?o8) (by kernel_rfl) ?ho8 ?hk8
          case ho8 => (simp only [List.getElem?_toArray, List.getElem?_cons_zero, List.getElem?_cons_succ]; rfl)
          intro K hK
          go_simp
          refine hK.out _ _ (fun _ => hSof _ ?_) ?_
          · iterate 5 refine Has.far ?_ (by simp only; omega) _
            exact HG.out.1.c
          clear hK K
          try simp only [Act.put, List.setIfInBounds_toArray, List.set_cons_zero, List.set_cons_succ]
          refine wpLate_one (i := 9) (o := ?o9) (by kernel_rfl) ?ho9 ?hk9
          case ho9 => (simp only [List.getElem?_toArray, List.getElem?_cons_zero, List.getElem?_cons_succ]; rfl)
          intro K hK
          go_simp
          refine hK.out _ _ (fun _ => hSof _ ?_) ?_
          · iterate 14 refine Has.far ?_ (by simp only; omega) _
            exact HG.out.1.c
          clear hK K
          try simp only [Act.put, List.setIfInBounds_toArray, List.set_cons_zero, List.set_cons_succ]
          refine wpLate_one (i := 10) (o := ?o10) (by kernel_rfl) ?ho10 ?hk10
          case ho10 => (simp only [List.getElem?_toArray, List.getElem?_cons_zero, List.getElem?_cons_succ]; rfl)
          intro K hK
          go_simp
          refine hK.out _ _ (fun _ => hSof _ ?_) ?_
          · iterate 14 refine Has.far ?_ (by simp only; omega) _
            exact HG.out.1.c
          clear hK K
          try simp only [Act.put, List.setIfInBounds_toArray, List.set_cons_zero, List.set_cons_succ]
          refine wpLate_one (i := 11) (o := ?o11) (by kernel_rfl) ?ho11 ?hk11
          case ho11 => (simp only [List.getElem?_toArray, List.getElem?_cons_zero, List.getElem?_cons_succ]; rfl)
          intro K hK
          go_simp
          refine hK.out _ _ (fun _ => hSof _ ?_) ?_
          · iterate 14 refine Has.far ?_ (by simp only; omega) _
            exact HG.out.1.c
          clear hK K
          try simp only [Act.put, List.setIfInBounds_toArray, List.set_cons_zero, List.set_cons_succ]
          refine wpLate_done (by kernel_rfl) ?_ _
          try simp only [Act.put, List.setIfInBounds_toArray, List.set_cons_zero, List.set_cons_succ]
          go_wp2
          generalize hwz : World.setCell _ _ _ = wz
          have hz := set14 (B4 := W.heap.size + 1) (B5 := W.heap.size + 1 + 1) HE.out.2.2.1 HE.out.2.2.2 (by omega) (.int .i64 z.t.v) (.int .i64 z.t.h) (.slice (some ⟨Bn, 0, none⟩) qs.length qs.length) (.int .i64 z.r.heat) (.int .i64 z.r.room) (.int .i64 z.r.s.wa) (.int .i64 z.r.s.lv) (.int .i64 z.r.s.lh) (.int .i64 z.r.s.fv) (.int .i64 z.r.s.fh) (.int .i64 z.r.s.ch) (.int .i64 z.r.s.ai) (.int .i64 z.r.s.us) (.int .i64 z.r.s.bo)
          rw [hwz] at hz
          have HZ := Lib.hid hz
          clear hz hwz
          have q4_0 : wz.cell? ⟨W.heap.size + 1, 0, none⟩ = some (.int .i64 z.t.v) := HZ.out.h4.cell 0
          have q4_1 : wz.cell? ⟨W.heap.size + 1, 1, none⟩ = some (.int .i64 z.t.h) := HZ.out.h4.cell 1
          have q4_2 : wz.cell? ⟨W.heap.size + 1, 2, none⟩ = some (.slice (some ⟨Bn, 0, none⟩) qs.length qs.length) := HZ.out.h4.cell 2
          have q4_3 : wz.cell? ⟨W.heap.size + 1, 3, none⟩ = some (.int .i64 z.r.heat) := HZ.out.h4.cell 3
          have q4_4 : wz.cell? ⟨W.heap.size + 1, 4, none⟩ = some (.int .i64 z.r.room) := HZ.out.h4.cell 4
          have q5_0 : wz.cell? ⟨W.heap.size + 1 + 1, 0, none⟩ = some (.int .i64 z.r.s.wa) := HZ.out.h5.cell 0
          have q5_1 : wz.cell? ⟨W.heap.size + 1 + 1, 1, none⟩ = some (.int .i64 z.r.s.lv) := HZ.out.h5.cell 1
          have q5_2 : wz.cell? ⟨W.heap.size + 1 + 1, 2, none⟩ = some (.int .i64 z.r.s.lh) := HZ.out.h5.cell 2
          have q5_3 : wz.cell? ⟨W.heap.size + 1 + 1, 3, none⟩ = some (.int .i64 z.r.s.fv) := HZ.out.h5.cell 3
          have q5_4 : wz.cell? ⟨W.heap.size + 1 + 1, 4, none⟩ = some (.int .i64 z.r.s.fh) := HZ.out.h5.cell 4
          have q5_5 : wz.cell? ⟨W.heap.size + 1 + 1, 5, none⟩ = some (.int .i64 z.r.s.ch) := HZ.out.h5.cell 5
          have q5_6 : wz.cell? ⟨W.heap.size + 1 + 1, 6, none⟩ = some (.int .i64 z.r.s.ai) := HZ.out.h5.cell 6
          have q5_7 : wz.cell? ⟨W.heap.size + 1 + 1, 7, none⟩ = some (.int .i64 z.r.s.us) := HZ.out.h5.cell 7
          have q5_8 : wz.cell? ⟨W.heap.size + 1 + 1, 8, none⟩ = some (.int .i64 z.r.s.bo) := HZ.out.h5.cell 8
          refine bodyPost_ret (v := .tuple #[brv z.t (some ⟨Bn, 0, none⟩) qs.length qs.length z.r.heat z.r.room, smv z.r.s, .int .i64 l.length, .int .i64 0]) (by simp [results, Try.results14, go_sem, q4_0, q4_1, q4_2, q4_3, q4_4, q5_0, q5_1, q5_2, q5_3, q5_4, q5_5, q5_6, q5_7, q5_8]) rfl ?_
          rw [hP.out]
          refine ⟨HE.out.1.trans (HZ.out.on.below (by omega) (fun i hi => by omega)), Bn, qs, rfl, HD.out.2.2.2.2.1, HG.out.2.only HZ.out.on (by omega), fun q hq => ⟨(HG.out.1.q q hq).only HZ.out.on ?_, ?_, ?_⟩, HG.out.1.nd, by omega⟩
          · have := HD.out.2.2.2.2.2.1 q hq
            omega
          · have := HD.out.2.2.2.2.2.1 q hq
            omega
          · have := (HD.out.2.2.2.1.q q hq).lt
            omega
end Go.Proofs.Ytjfopmjphiddiaa
