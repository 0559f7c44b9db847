/- Slugs, pipes and how slugs flow, as plain lists. -/
import Derived.Test.YtjfopmjphiddiaaMem
import Derived.Test.YtjfopmjphiddiaaProg
import Derived.LoopTactic
import Derived.RegionTactic
import Derived.ChangeAlike
import Derived.Outline
import Derived.WalkLawsBesides
import Derived.WalkSpells
import Derived.Lib.Hide
import Derived.Deep.DeepFit
import Derived.BigGuardPart
import Derived.IntWalk
import Derived.BigQuiet
import Derived.Deep.QuietTactic
import Derived.Deep.RegionHeld3
namespace Go.Proofs.Ytjfopmjphiddiaa

structure Sl where
  v : Int
  h : Int
  deriving DecidableEq
structure Pp where
  room : Int
  l : List Sl
  deriving DecidableEq
def Sl.add (a b : Sl) : Sl := ⟨a.v + b.v, a.h + b.h⟩
def sl0 : Sl := ⟨0, 0⟩
def vol : List Sl → Int
  | [] => 0
  | s :: t => s.v + vol t
def hea : List Sl → Int
  | [] => 0
  | s :: t => s.h + hea t
def takeO (s : Sl) (n : Int) : Sl := ⟨n, s.h * n / s.v⟩
def takeR (s : Sl) (n : Int) : Sl := ⟨s.v - n, s.h - s.h * n / s.v⟩
/-- the first slug of a queue is cut -/
def cutF (n : Int) (s : Sl) (t : List Sl) : Sl × List Sl := if n < s.v then (takeO s n, takeR s n :: t) else (s, t)
def drainL : List Sl → Int → List Sl × List Sl
  | [], _ => ([], [])
  | s :: t, n => if n ≤ 0 then ([], s :: t) else if n < s.v then ([takeO s n], takeR s n :: t) else (s :: (drainL t (n - s.v)).1, (drainL t (n - s.v)).2)
def joinL (l : List Sl) : List Sl := if l.length ≤ 16 then l else (l.set (l.length - 2) ((l.getD (l.length - 2) sl0).add (l.getD (l.length - 1) sl0))).take (l.length - 1)
def Pp.outs (p : Pp) (s : Sl) : List Sl := (drainL (p.l ++ [s]) (vol (p.l ++ [s]) - p.room)).1
def Pp.rest (p : Pp) (s : Sl) : List Sl := (drainL (p.l ++ [s]) (vol (p.l ++ [s]) - p.room)).2
def Pp.enter (p : Pp) (s : Sl) : Pp := ⟨p.room, joinL (p.rest s)⟩
/-- a slug flows into the first of some pipes, and what flows out into the next one; out of the last one into the tank -/
def flowN : Nat → List Pp × Sl → Sl → List Pp × Sl
  | _, ([], t), s => ([], t.add s)
  | 0, (p :: ps, t), s => (p :: ps, t.add s)
  | n + 1, (p :: ps, t), s => (p.enter s :: ((p.outs s).foldl (flowN n) (ps, t)).1, ((p.outs s).foldl (flowN n) (ps, t)).2)

def okS (s : Sl) : Prop := 1 ≤ s.v ∧ 0 ≤ s.h
def okL (l : List Sl) : Prop := ∀ s ∈ l, okS s
structure Pp.ok (p : Pp) : Prop where
  r1 : 1 ≤ p.room
  r2 : p.room ≤ 1048576
  sl : okL p.l
  le : vol p.l ≤ p.room
  len : p.l.length ≤ 16

theorem okL_nil : okL [] := fun _ h => by cases h
theorem okL_cons {s : Sl} {t : List Sl} : okL (s :: t) ↔ okS s ∧ okL t := by simp [okL]
theorem okL_app {a b : List Sl} : okL (a ++ b) ↔ okL a ∧ okL b := by
  simp only [okL, List.mem_append]
  exact ⟨fun h => ⟨fun s hs => h s (.inl hs), fun s hs => h s (.inr hs)⟩, fun h s hs => hs.elim (h.1 s) (h.2 s)⟩
theorem vol_app (a b : List Sl) : vol (a ++ b) = vol a + vol b := by
  induction a with
  | nil => simp [vol]
  | cons s t ih => simp only [List.cons_append, vol, ih]; omega
theorem hea_app (a b : List Sl) : hea (a ++ b) = hea a + hea b := by
  induction a with
  | nil => simp [hea]
  | cons s t ih => simp only [List.cons_append, hea, ih]; omega
theorem vol_len {l : List Sl} (h : okL l) : (l.length : Int) ≤ vol l := by
  induction l with
  | nil => simp [vol]
  | cons s t ih =>
    have := ih (okL_cons.1 h).2
    have := (okL_cons.1 h).1.1
    simp only [List.length_cons, vol]; omega
theorem vol_nn {l : List Sl} (h : okL l) : 0 ≤ vol l := by have := vol_len h; omega
theorem hea_nn {l : List Sl} (h : okL l) : 0 ≤ hea l := by
  induction l with
  | nil => simp [hea]
  | cons s t ih =>
    have := ih (okL_cons.1 h).2
    have := (okL_cons.1 h).1.2
    simp only [hea]; omega
theorem okL_mem_vol {l : List Sl} (h : okL l) {s : Sl} (hs : s ∈ l) : s.v ≤ vol l ∧ s.h ≤ hea l := by
  induction l with
  | nil => cases hs
  | cons x t ih =>
    obtain ⟨h1, h2⟩ := okL_cons.1 h
    have := vol_nn h2; have := hea_nn h2
    have := h1.1; have := h1.2
    simp only [vol, hea]
    rcases List.mem_cons.1 hs with rfl | hs
    · omega
    · have := ih h2 hs; omega
/-- a part of heat -/
theorem part_bd {h n v : Int} (h0 : 0 ≤ h) (n0 : 0 ≤ n) (v1 : 1 ≤ v) (nv : n ≤ v) : 0 ≤ h * n / v ∧ h * n / v ≤ h := by
  refine ⟨Int.ediv_nonneg (Int.mul_nonneg h0 n0) (by omega), ?_⟩
  have h1 : h * n ≤ h * v := Int.mul_le_mul_of_nonneg_left nv h0
  have h2 : h * n / v ≤ h * v / v := Int.ediv_le_ediv (by omega) h1
  rwa [Int.mul_ediv_cancel h (by omega)] at h2
theorem takeO_all {s : Sl} (h : 1 ≤ s.v) : takeO s s.v = s := by
  unfold takeO; rw [Int.mul_ediv_cancel _ (by omega)]
theorem takeO_ok {s : Sl} {n : Int} (hs : okS s) (h1 : 1 ≤ n) (h2 : n ≤ s.v) : okS (takeO s n) := ⟨h1, (part_bd hs.2 (by omega) hs.1 h2).1⟩
theorem takeR_ok {s : Sl} {n : Int} (hs : okS s) (h1 : 1 ≤ n) (h2 : n < s.v) : okS (takeR s n) :=
  ⟨by simp only [takeR]; omega, by have := part_bd hs.2 (by omega : 0 ≤ n) hs.1 (by omega); simp only [takeR]; omega⟩
theorem drain_none (l : List Sl) {n : Int} (h : n ≤ 0) : drainL l n = ([], l) := by
  cases l with
  | nil => rfl
  | cons s t => simp [drainL, h]
theorem drain_step (s : Sl) (t : List Sl) {n : Int} (h : 0 < n) :
    drainL (s :: t) n = ((cutF n s t).1 :: (drainL (cutF n s t).2 (n - (cutF n s t).1.v)).1, (drainL (cutF n s t).2 (n - (cutF n s t).1.v)).2) := by
  have h' : ¬ n ≤ 0 := by omega
  by_cases hv : n < s.v
  · have e : cutF n s t = (takeO s n, takeR s n :: t) := if_pos hv
    rw [e]
    have e2 : drainL (takeR s n :: t) (n - (takeO s n).v) = ([], takeR s n :: t) := drain_none _ (by simp [takeO])
    simp only [e2]
    simp [drainL, h', hv]
  · have e : cutF n s t = (s, t) := if_neg hv
    rw [e]
    simp [drainL, h', hv]
structure Drained (l o r : List Sl) (n : Int) : Prop where
  oo : okL o
  or : okL r
  vo : vol o = n
  vr : vol o + vol r = vol l
  hr : hea o + hea r = hea l
  len : r.length ≤ l.length
theorem drain_ok (l : List Sl) (h : okL l) (n : Int) (h0 : 0 ≤ n) (h1 : n ≤ vol l) : Drained l (drainL l n).1 (drainL l n).2 n := by
  induction l generalizing n with
  | nil =>
    simp only [vol] at h1
    exact ⟨okL_nil, okL_nil, by simp [drainL, vol]; omega, by simp [drainL, vol], by simp [drainL, hea], Nat.le_refl _⟩
  | cons s t ih =>
    obtain ⟨hs, ht⟩ := okL_cons.1 h
    by_cases hn : n ≤ 0
    · rw [drain_none _ hn]
      exact ⟨okL_nil, h, by simp [vol]; omega, by simp [vol], by simp [hea], Nat.le_refl _⟩
    · by_cases hv : n < s.v
      · have e : drainL (s :: t) n = ([takeO s n], takeR s n :: t) := by simp [drainL, hn, hv]
        rw [e]
        exact ⟨okL_cons.2 ⟨takeO_ok hs (by omega) (by omega), okL_nil⟩, okL_cons.2 ⟨takeR_ok hs (by omega) hv, ht⟩, by simp [vol, takeO], by simp [vol, takeO, takeR]; omega, by simp [hea, takeO, takeR]; omega, Nat.le_refl _⟩
      · have e : drainL (s :: t) n = (s :: (drainL t (n - s.v)).1, (drainL t (n - s.v)).2) := by simp [drainL, hn, hv]
        rw [e]
        have d := ih ht (n - s.v) (by omega) (by simp only [vol] at h1; omega)
        obtain ⟨d1, d2, d3, d4, d5, d6⟩ := d
        exact ⟨okL_cons.2 ⟨hs, d1⟩, d2, by simp only [vol]; omega, by simp only [vol]; omega, by simp only [hea]; omega, by simp only [List.length_cons]; omega⟩

theorem take_set_last {l : List Sl} (x : Sl) (h : 2 ≤ l.length) : (l.set (l.length - 2) x).take (l.length - 1) = l.take (l.length - 2) ++ [x] := by
  apply List.ext_getElem?
  intro i
  by_cases h1 : i < l.length - 1
  · rw [List.getElem?_take_of_lt h1]
    by_cases h2 : i = l.length - 2
    · subst h2
      rw [List.getElem?_set_self (by omega), List.getElem?_append_right (by simp)]
      simp
    · rw [List.getElem?_set_ne (by omega), List.getElem?_append_left (by simp; omega), List.getElem?_take_of_lt (by omega)]
  · rw [List.getElem?_eq_none (by simp; omega), List.getElem?_eq_none (by simp; omega)]
theorem split_last {l : List Sl} (h : 2 ≤ l.length) : ∃ a x y, l = a ++ [x, y] ∧ a.length = l.length - 2 := by
  refine ⟨l.take (l.length - 2), l[l.length - 2], l[l.length - 1], ?_, by simp⟩
  apply List.ext_getElem?
  intro i
  by_cases h1 : i < l.length - 2
  · rw [List.getElem?_append_left (by simp; omega), List.getElem?_take_of_lt h1]
  · rw [List.getElem?_append_right (by simp; omega)]
    have hm : (l.take (l.length - 2)).length = l.length - 2 := by simp
    rw [hm]
    by_cases h2 : i = l.length - 2
    · subst h2; simp
    · by_cases h3 : i = l.length - 1
      · subst h3
        have e : l.length - 1 - (l.length - 2) = 1 := by omega
        rw [e]; simp
      · rw [List.getElem?_eq_none (by omega)]
        obtain ⟨k, hk⟩ : ∃ k, i - (l.length - 2) = k + 2 := ⟨i - (l.length - 2) - 2, by omega⟩
        rw [hk]; simp
theorem join_eq (a : List Sl) (x y : Sl) (h : 15 ≤ a.length) : joinL (a ++ [x, y]) = a ++ [x.add y] := by
  have hl : (a ++ [x, y]).length = a.length + 2 := by simp
  unfold joinL
  rw [if_neg (by omega), take_set_last _ (by omega)]
  have e1 : (a ++ [x, y]).length - 2 = a.length := by omega
  have e2 : (a ++ [x, y]).length - 1 = a.length + 1 := by omega
  rw [e1, e2]
  simp [List.getD]
theorem join_ok {l : List Sl} (h : okL l) : okL (joinL l) ∧ vol (joinL l) = vol l ∧ hea (joinL l) = hea l ∧ (l.length ≤ 17 → (joinL l).length ≤ 16) := by
  by_cases hl : l.length ≤ 16
  · have e : joinL l = l := by simp [joinL, hl]
    rw [e]; exact ⟨h, rfl, rfl, fun _ => hl⟩
  · obtain ⟨a, x, y, rfl, ha⟩ := split_last (l := l) (by omega)
    simp only [List.length_append, List.length_cons, List.length_nil] at hl
    rw [join_eq a x y (by omega)]
    obtain ⟨h1, h2⟩ := okL_app.1 h
    obtain ⟨h3, h4⟩ := okL_cons.1 h2
    obtain ⟨h5, _⟩ := okL_cons.1 h4
    refine ⟨okL_app.2 ⟨h1, okL_cons.2 ⟨⟨by have := h3.1; have := h5.1; simp only [Sl.add]; omega, by have := h3.2; have := h5.2; simp only [Sl.add]; omega⟩, okL_nil⟩⟩, ?_, ?_, ?_⟩
    · simp only [vol_app, vol, Sl.add]; omega
    · simp only [hea_app, hea, Sl.add]; omega
    · simp only [List.length_append, List.length_cons, List.length_nil]; omega

/-- what flows out of a pipe, and what stays -/
theorem enter_ok {p : Pp} (hp : p.ok) {s : Sl} (hs : okS s) :
    okL (p.outs s) ∧ (p.enter s).ok ∧ vol (p.outs s) + vol (p.enter s).l = vol p.l + s.v ∧ hea (p.outs s) + hea (p.enter s).l = hea p.l + s.h ∧ vol (p.outs s) ≤ s.v ∧ (p.rest s).length ≤ p.l.length + 1 ∧ okL (p.rest s) ∧ hea (p.rest s) = hea (p.enter s).l ∧ vol (p.rest s) = vol (p.enter s).l := by
  have hl : okL (p.l ++ [s]) := okL_app.2 ⟨hp.sl, okL_cons.2 ⟨hs, okL_nil⟩⟩
  have hv : vol (p.l ++ [s]) = vol p.l + s.v := by simp [vol_app, vol]
  have hh : hea (p.l ++ [s]) = hea p.l + s.h := by simp [hea_app, hea]
  have h1 := hp.le; have h2 := hp.r1; have h3 := hp.len; have h4 := hs.1
  have key : okL (p.outs s) ∧ okL (p.rest s) ∧ vol (p.outs s) + vol (p.rest s) = vol p.l + s.v ∧ hea (p.outs s) + hea (p.rest s) = hea p.l + s.h ∧ vol (p.rest s) ≤ p.room ∧ vol (p.outs s) ≤ s.v ∧ (p.rest s).length ≤ p.l.length + 1 := by
    unfold Pp.outs Pp.rest
    by_cases hn : vol (p.l ++ [s]) - p.room ≤ 0
    · rw [drain_none _ hn]
      exact ⟨okL_nil, hl, by simp only [vol]; omega, by simp only [hea]; omega, (show vol (p.l ++ [s]) ≤ p.room by omega), by simp only [vol]; omega, by simp⟩
    · obtain ⟨d1, d2, d3, d4, d5, d6⟩ := drain_ok _ hl (vol (p.l ++ [s]) - p.room) (by omega) (by omega)
      simp only [List.length_append, List.length_cons, List.length_nil] at d6
      exact ⟨d1, d2, by omega, by omega, by omega, by omega, by omega⟩
  obtain ⟨k1, k2, k3, k4, k5, k6, k7⟩ := key
  obtain ⟨j1, j2, j3, j4⟩ := join_ok k2
  exact ⟨k1, ⟨hp.r1, hp.r2, j1, by simp only [Pp.enter]; omega, j4 (by omega)⟩, by simp only [Pp.enter]; omega, by simp only [Pp.enter]; omega, k6, k7, k2, by simp only [Pp.enter]; omega, by simp only [Pp.enter]; omega⟩

def volP : List Pp → Int
  | [] => 0
  | p :: t => vol p.l + volP t
def heaP : List Pp → Int
  | [] => 0
  | p :: t => hea p.l + heaP t
def okP (ps : List Pp) : Prop := ∀ p ∈ ps, p.ok
theorem okP_cons {p : Pp} {t : List Pp} : okP (p :: t) ↔ p.ok ∧ okP t := by simp [okP]
theorem volP_nn {ps : List Pp} (h : okP ps) : 0 ≤ volP ps ∧ 0 ≤ heaP ps := by
  induction ps with
  | nil => simp [volP, heaP]
  | cons p t ih =>
    obtain ⟨h1, h2⟩ := okP_cons.1 h
    have := ih h2; have := vol_nn h1.sl; have := hea_nn h1.sl
    simp only [volP, heaP]; omega
/-- pipes and a tank within bounds; all of it -/
structure FOk (x : List Pp × Sl) : Prop where
  ps : okP x.1
  t0 : 0 ≤ x.2.v
  h0 : 0 ≤ x.2.h
def vA (x : List Pp × Sl) : Int := volP x.1 + x.2.v
def hA (x : List Pp × Sl) : Int := heaP x.1 + x.2.h
structure Flown (x y : List Pp × Sl) (v h : Int) : Prop where
  ok : FOk y
  len : y.1.length = x.1.length
  room : y.1.map Pp.room = x.1.map Pp.room
  v : vA y = vA x + v
  h : hA y = hA x + h
theorem Flown.refl {x : List Pp × Sl} (h : FOk x) : Flown x x 0 0 := ⟨h, rfl, rfl, by omega, by omega⟩
theorem flow_fold (F : List Pp × Sl → Sl → List Pp × Sl) (n : Nat) (hF : ∀ x s, FOk x → okS s → x.1.length = n → Flown x (F x s) s.v s.h) (l : List Sl) (hl : okL l) (x : List Pp × Sl) (hx : FOk x) (hn : x.1.length = n) :
    Flown x (l.foldl F x) (vol l) (hea l) := by
  induction l generalizing x with
  | nil => exact Flown.refl hx
  | cons s t ih =>
    obtain ⟨h1, h2⟩ := okL_cons.1 hl
    obtain ⟨a1, a2, a3, a4, a5⟩ := hF x s hx h1 hn
    obtain ⟨b1, b2, b3, b4, b5⟩ := ih h2 (F x s) a1 (by omega)
    exact ⟨b1, by simp only [List.foldl_cons]; omega, by simp only [List.foldl_cons]; rw [b3, a3], by simp only [List.foldl_cons, vol]; omega, by simp only [List.foldl_cons, hea]; omega⟩
theorem flow_ok (n : Nat) (x : List Pp × Sl) (s : Sl) (hx : FOk x) (hs : okS s) (hn : x.1.length = n) : Flown x (flowN n x s) s.v s.h := by
  induction n generalizing x s with
  | zero =>
    obtain ⟨ps, t⟩ := x
    obtain rfl : ps = [] := List.eq_nil_of_length_eq_zero hn
    have := hs.1; have := hs.2; have := hx.t0; have := hx.h0
    simp only at *
    exact ⟨⟨hx.ps, by simp only [flowN, Sl.add]; omega, by simp only [flowN, Sl.add]; omega⟩, rfl, rfl, by simp only [flowN, Sl.add, vA]; omega, by simp only [flowN, Sl.add, hA]; omega⟩
  | succ n ih =>
    obtain ⟨ps, t⟩ := x
    cases ps with
    | nil => simp at hn
    | cons p ps =>
      obtain ⟨h1, h2⟩ := okP_cons.1 hx.ps
      obtain ⟨e1, e2, e3, e4, e5, _, _, _, _⟩ := enter_ok h1 hs
      obtain ⟨f1, f2, f3, f4, f5⟩ := flow_fold (flowN n) n (fun x s hx hs hn => ih x s hx hs hn) (p.outs s) e1 (ps, t) ⟨h2, hx.t0, hx.h0⟩ (by simpa using hn)
      simp only [vA, hA, List.length_cons] at *
      exact ⟨⟨okP_cons.2 ⟨e2, f1.ps⟩, f1.t0, f1.h0⟩, by simp only [flowN, List.length_cons]; omega, by simp only [flowN, List.map_cons, f3]; rfl, by simp only [flowN, vA, volP]; omega, by simp only [flowN, hA, heaP]; omega⟩
end Go.Proofs.Ytjfopmjphiddiaa
/- A circuit in memory: its block, the pipes' block, and a block for the slugs of each pipe. -/
namespace Go.Proofs.Ytjfopmjphiddiaa
open Go.RowKit

abbrev iv (n : Int) : Value := .int .i64 n
abbrev slv (s : Sl) : Value := .agg #[.int .i64 s.v, .int .i64 s.h]
structure Sm where
  wa : Int
  lv : Int
  lh : Int
  fv : Int
  fh : Int
  ch : Int
  ai : Int
  us : Int
  bo : Int
/-- what is stored, how much can be, and the sums -/
structure Ho where
  heat : Int
  room : Int
  s : Sm
/-- a pipe in memory -/
structure Qu where
  room : Int
  g : Nat
  off : Nat
  cap : Nat
  l : List Sl
def Qu.pp (q : Qu) : Pp := ⟨q.room, q.l⟩
def Qu.sv (q : Qu) : Value := .slice (some ⟨q.g, q.off, none⟩) q.l.length q.cap
def qcl (qs : List Qu) : List Value := qs.flatMap fun q => [iv q.room, q.sv]
def qcells (qs : List Qu) : Array Value := (qcl qs).toArray
structure QHas (W : World) (q : Qu) : Prop where
  blk : ∃ cur, Has W q.g 23 cur ∧ q.off + q.cap * 2 ≤ cur.size ∧ ∀ k (h : k < q.l.length), cur[q.off + k * 2]? = some (iv q.l[k].v) ∧ cur[q.off + k * 2 + 1]? = some (iv q.l[k].h)
  le : q.l.length ≤ q.cap
  mx : q.cap ≤ maxLen
def ccells (t : Sl) (Bp n : Nat) (r : Ho) : Array Value :=
  #[iv t.v, iv t.h, .slice (some ⟨Bp, 0, none⟩) n n, iv r.heat, iv r.room, iv r.s.wa, iv r.s.lv, iv r.s.lh, iv r.s.fv, iv r.s.fh, iv r.s.ch, iv r.s.ai, iv r.s.us, iv r.s.bo]
structure Circ (W : World) (Bc Bp : Nat) (t : Sl) (qs : List Qu) (r : Ho) : Prop where
  c : Has W Bc 70 (ccells t Bp qs.length r)
  p : Has W Bp 88 (qcells qs)
  q : ∀ q ∈ qs, QHas W q
  ne : Bc ≠ Bp
  nc : ∀ q ∈ qs, q.g ≠ Bc ∧ q.g ≠ Bp
  nd : (qs.map Qu.g).Nodup
theorem Has.newAt {w : World} {t : TypeId} {cs : Array Value} {n : Nat} (h : n = w.heap.size) : Has (w.alloc (.cells cs t)) n t cs := by subst h; exact Has.new _ _ _
def CS (Bc Bp : Nat) (qs : List Qu) (k : Nat) : Prop := k = Bc ∨ k = Bp ∨ k ∈ qs.map Qu.g
structure Mv (Bc Bp : Nat) (W : World) (qs : List Qu) (W' : World) (qs' : List Qu) : Prop where
  only : Only (CS Bc Bp qs) W W'
  own : ∀ k ∈ qs'.map Qu.g, k ∈ qs.map Qu.g ∨ W.heap.size ≤ k

section
variable {W W' W'' : World} {Bc Bp : Nat} {t : Sl} {qs qs' qs'' : List Qu} {q q' : Qu} {r : Ho} {S : Nat → Prop}
theorem QHas.lt (h : QHas W q) : q.g < W.heap.size := by obtain ⟨cur, hc, _⟩ := h.blk; exact hc.lt
theorem QHas.only (h : QHas W q) (ho : Only S W W') (hS : ¬ S q.g) : QHas W' q := by
  obtain ⟨⟨cur, hc, h1, h2⟩, h3, h4⟩ := h
  exact ⟨⟨cur, hc.only ho hS, h1, h2⟩, h3, h4⟩
theorem Mv.refl (Bc Bp : Nat) (W : World) (qs : List Qu) : Mv Bc Bp W qs W qs := ⟨Only.refl _ _, fun _ h => .inl h⟩
theorem Mv.trans (h : Mv Bc Bp W qs W' qs') (k : Mv Bc Bp W' qs' W'' qs'') (_ : Circ W Bc Bp t qs r) : Mv Bc Bp W qs W'' qs'' := by
  refine ⟨h.only.from_ k.only (fun i hi hs => ?_), fun i hi => ?_⟩
  · rcases hs with rfl | rfl | hs
    · exact .inl rfl
    · exact .inr (.inl rfl)
    · rcases h.own i hs with h1 | h1
      · exact .inr (.inr h1)
      · omega
  · rcases k.own i hi with h1 | h1
    · exact h.own i h1
    · exact .inr (Nat.le_trans h.only.size h1)
theorem Circ.lt (h : Circ W Bc Bp t qs r) {k : Nat} (hk : CS Bc Bp qs k) : k < W.heap.size := by
  rcases hk with rfl | rfl | hk
  · exact h.c.lt
  · exact h.p.lt
  · obtain ⟨q, hq, rfl⟩ := List.mem_map.1 hk
    exact (h.q q hq).lt
/-- what changes none of its blocks leaves it -/
theorem Circ.only (h : Circ W Bc Bp t qs r) (ho : Only S W W') (hS : ∀ k, CS Bc Bp qs k → ¬ S k) : Circ W' Bc Bp t qs r :=
  ⟨h.c.only ho (hS _ (.inl rfl)), h.p.only ho (hS _ (.inr (.inl rfl))), fun q hq => (h.q q hq).only ho (hS _ (.inr (.inr (List.mem_map_of_mem hq)))), h.ne, h.nc, h.nd⟩
theorem Circ.below (h : Circ W Bc Bp t qs r) (ho : Below W.heap.size W W') : Circ W' Bc Bp t qs r := h.only (S := fun _ => False) (Only.of_below ho) (fun _ _ h => h)
theorem Mv.below (h : Below W.heap.size W W') : Mv Bc Bp W qs W' qs := ⟨Only.of_below h, fun _ h => .inl h⟩
/-- blocks that are not the circuit's stay -/
theorem Mv.block (h : Mv Bc Bp W qs W' qs') {k : Nat} {o : Obj} (hk : W.heap[k]? = some o) (hS : ¬ CS Bc Bp qs k) : W'.heap[k]? = some o :=
  (h.only.block k (Array.getElem?_eq_some_iff.1 hk).1 hS).trans hk
theorem Mv.out (h : Mv Bc Bp W qs W' qs') {k : Nat} (hk : k < W.heap.size) (hS : ¬ CS Bc Bp qs k) : ¬ CS Bc Bp qs' k := by
  rintro (rfl | rfl | h1)
  · exact hS (.inl rfl)
  · exact hS (.inr (.inl rfl))
  · rcases h.own k h1 with h2 | h2
    · exact hS (.inr (.inr h2))
    · omega
/-- what is no cells is none of the circuit's -/
theorem Circ.other (h : Circ W Bc Bp t qs r) {k : Nat} {o : Obj} (hk : W.heap[k]? = some o) (ho : ∀ cs t m, o ≠ .cells cs t m) : ¬ CS Bc Bp qs k := by
  have key : ∀ cs T, ¬ Has W k T cs := fun cs T hh => by unfold Has at hh; rw [hk] at hh; cases hh; exact ho _ _ _ rfl
  rintro (rfl | rfl | h1)
  · exact key _ _ h.c
  · exact key _ _ h.p
  · obtain ⟨q, hq, rfl⟩ := List.mem_map.1 h1
    obtain ⟨cur, hc, _⟩ := (h.q q hq).blk
    exact key _ _ hc
theorem qcl_len (qs : List Qu) : (qcl qs).length = qs.length * 2 := by
  unfold qcl
  induction qs with
  | nil => rfl
  | cons q t ih => simp only [List.flatMap_cons, List.length_append, List.length_cons, List.length_nil, ih]; omega
theorem qcl_at (qs : List Qu) (i : Nat) (h : i < qs.length) : (qcl qs)[i * 2]? = some (iv qs[i].room) ∧ (qcl qs)[i * 2 + 1]? = some qs[i].sv := by
  unfold qcl
  induction qs generalizing i with
  | nil => simp at h
  | cons q t ih =>
    cases i with
    | zero => simp
    | succ i =>
      have e1 : (i + 1) * 2 = i * 2 + 1 + 1 := by omega
      rw [e1]
      simpa using ih i (by simpa using h)
theorem qcells_at (qs : List Qu) (i : Nat) (h : i < qs.length) : (qcells qs)[i * 2]? = some (iv qs[i].room) ∧ (qcells qs)[i * 2 + 1]? = some qs[i].sv := by
  simpa [qcells] using qcl_at qs i h
theorem qcl_set (qs : List Qu) (i : Nat) (h : i < qs.length) (q : Qu) (hr : q.room = qs[i].room) : (qcl qs).set (i * 2 + 1) q.sv = qcl (qs.set i q) := by
  unfold qcl
  induction qs generalizing i with
  | nil => simp at h
  | cons x t ih =>
    cases i with
    | zero => simp only [List.getElem_cons_zero] at hr; simp [hr]
    | succ i =>
      have e1 : (i + 1) * 2 + 1 = (i * 2 + 1) + 1 + 1 := by omega
      rw [e1]
      simpa using ih i (by simpa using h) (by simpa using hr)
theorem qcells_set (qs : List Qu) (i : Nat) (h : i < qs.length) (q : Qu) (hr : q.room = qs[i].room) : (qcells qs).setIfInBounds (i * 2 + 1) q.sv = qcells (qs.set i q) := by
  rw [qcells, qcells, ← qcl_set qs i h q hr]; simp
theorem map_set_g (qs : List Qu) (i : Nat) (q : Qu) : (qs.set i q).map Qu.g = (qs.map Qu.g).set i q.g := by simp
theorem mem_g {qs : List Qu} {i : Nat} (h : i < qs.length) : qs[i].g ∈ qs.map Qu.g := List.mem_map_of_mem (List.getElem_mem h)
theorem nodup_set {l : List Nat} (h : l.Nodup) (i : Nat) (x : Nat) (hx : ∀ j (hj : j < l.length), j ≠ i → l[j] ≠ x) : (l.set i x).Nodup := by
  rw [List.nodup_iff_pairwise_ne, List.pairwise_iff_getElem] at h ⊢
  intro a b ha hb hab
  simp only [List.length_set] at ha hb
  rw [List.getElem_set, List.getElem_set]
  split
  · rename_i e; subst e
    split
    · omega
    · exact fun hh => hx b hb (by omega) hh.symm
  · split
    · rename_i e; subst e; exact hx a ha (by omega)
    · exact h a b ha hb hab
/-- one pipe has turned: its cell in the pipes' block, and its own block, which may be a new one -/
theorem Circ.upd (h : Circ W Bc Bp t qs r) {i : Nat} (hi : i < qs.length) (hr : q.room = qs[i].room) (hg : q.g = qs[i].g ∨ W.heap.size ≤ q.g)
    (hp : Has W' Bp 88 ((qcells qs).setIfInBounds (i * 2 + 1) q.sv)) (hq : QHas W' q) (ho : Only (fun k => k = Bp ∨ k = qs[i].g) W W') : Circ W' Bc Bp t (qs.set i q) r ∧ Mv Bc Bp W qs W' (qs.set i q) := by
  have hgi : qs[i].g ∈ qs.map Qu.g := mem_g hi
  have hnci := h.nc qs[i] (List.getElem_mem hi)
  have hlt := fun (x : Qu) hx => (h.q x hx).lt
  have hoth : ∀ j (hj : j < qs.length), j ≠ i → qs[j].g ≠ qs[i].g := fun j hj hne e => by
    have := h.nd
    rw [List.nodup_iff_pairwise_ne, List.pairwise_iff_getElem] at this
    rcases Nat.lt_or_gt_of_ne hne with h1 | h1
    · exact this j i (by simpa using hj) (by simpa using hi) h1 (by simpa using e)
    · exact this i j (by simpa using hi) (by simpa using hj) h1 (by simpa using e.symm)
  have hbc : ¬ (Bc = Bp ∨ Bc = qs[i].g) := by
    rintro (e | e)
    · exact h.ne e
    · exact hnci.1 e.symm
  refine ⟨⟨?_, ?_, ?_, h.ne, ?_, ?_⟩, ⟨ho.mono (fun k _ hk => ?_), fun k hk => ?_⟩⟩
  · rw [List.length_set]; exact h.c.only ho hbc
  · rw [← qcells_set qs i hi q hr]; exact hp
  · intro x hx
    obtain ⟨j, hj, rfl⟩ := List.getElem_of_mem hx
    simp only [List.length_set] at hj
    rw [List.getElem_set]
    split
    · exact hq
    · rename_i hne
      refine (h.q _ (List.getElem_mem hj)).only ho ?_
      rintro (e | e)
      · exact (h.nc _ (List.getElem_mem hj)).2 e
      · exact hoth j hj (by omega) e
  · intro x hx
    rcases List.mem_or_eq_of_mem_set hx with hx | rfl
    · exact h.nc x hx
    · rcases hg with e | e
      · rw [e]; exact hnci
      · have := h.c.lt; have := h.p.lt; omega
  · rw [map_set_g]
    refine nodup_set h.nd i _ (fun j hj hne => ?_)
    simp only [List.length_map] at hj
    simp only [List.getElem_map]
    rcases hg with e | e
    · rw [e]; exact hoth j hj hne
    · have := hlt _ (List.getElem_mem hj); omega
  · rcases hk with rfl | rfl
    · exact .inr (.inl rfl)
    · exact .inr (.inr hgi)
  · rw [map_set_g] at hk
    rcases List.mem_or_eq_of_mem_set hk with hk | rfl
    · exact .inl hk
    · rcases hg with e | e
      · rw [e]; exact .inl hgi
      · exact .inr e
/-- the circuit's own block has turned -/
theorem Circ.own (h : Circ W Bc Bp t qs r) {t' : Sl} {r' : Ho} (hc : Has W' Bc 70 (ccells t' Bp qs.length r')) (ho : Only (fun k => k = Bc) W W') : Circ W' Bc Bp t' qs r' ∧ Mv Bc Bp W qs W' qs :=
  ⟨⟨hc, h.p.only ho (Ne.symm h.ne), fun q hq => (h.q q hq).only ho (h.nc q hq).1, h.ne, h.nc, h.nd⟩, ⟨ho.mono (fun _ _ hk => .inl hk), fun _ hk => .inl hk⟩⟩
end
end Go.Proofs.Ytjfopmjphiddiaa
/- Contracts of the small functions of package brine on slugs and pipes. -/
namespace Go.Proofs.Ytjfopmjphiddiaa
open Go.RowKit

def RetIn (S : Nat → Prop) (v : Value) (W : World) (P : World → Prop) (e : Ending) (W' : World) : Prop := e = .returned v ∧ Only S W W' ∧ P W'

theorem take_num {s : Sl} {n : Int} (hs : okS s) (hb : s.h ≤ 2199023255552) (h1 : 1 ≤ n) (h2 : n ≤ s.v) (h3 : s.v ≤ 2097152) :
    IntKind.i64.wrap (s.h * n) = s.h * n ∧ Int.tdiv (s.h * n) s.v = s.h * n / s.v ∧ IntKind.i64.wrap (s.h * n / s.v) = s.h * n / s.v ∧ IntKind.i64.wrap (s.h - s.h * n / s.v) = s.h - s.h * n / s.v ∧ IntKind.i64.wrap (s.v - n) = s.v - n := by
  obtain ⟨a, b⟩ := hs
  have p := part_bd b (by omega : 0 ≤ n) a h2
  have m0 : 0 ≤ s.h * n := Int.mul_nonneg b (by omega)
  have m1 : s.h * n ≤ 2199023255552 * 2097152 := Int.mul_le_mul hb (by omega) (by omega) (by omega)
  exact ⟨IntWalk.i64_in _ (by omega), Int.tdiv_eq_ediv_of_nonneg m0, IntWalk.i64_in _ (by omega), IntWalk.i64_in _ (by omega), IntWalk.i64_in _ (by omega)⟩

set_option maxRecDepth 100000 in
set_option maxHeartbeats 1000000 in
theorem take_any (g o : Nat) (T : TypeId) (cs : Array Value) (s : Sl) (n : Int) (W : World) (hg : Has W g T cs) (c0 : cs[o]? = some (iv s.v)) (c1 : cs[o + 1]? = some (iv s.h))
    (hs : okS s) (hb : s.h ≤ 2199023255552) (h1 : 1 ≤ n) (h2 : n ≤ s.v) (h3 : s.v ≤ 2097152) :
    Calls Try.prog 68 #[.pointer (some ⟨g, o, none⟩), iv n] W (RetIn (fun k => k = g) (slv (takeO s n)) W fun W' => Has W' g T ((cs.setIfInBounds o (iv (takeR s n).v)).setIfInBounds (o + 1) (iv (takeR s n).h))) := by
  obtain ⟨k1, k2, k3, k4, k5⟩ := take_num hs hb h1 h2 h3
  have d0 : W.cell? ⟨g, o, none⟩ = some (.int .i64 s.v) := (hg.cell o).trans c0
  have d1 : W.cell? ⟨g, o + 1, none⟩ = some (.int .i64 s.h) := (hg.cell (o + 1)).trans c1
  have f0 := hg.frozen o
  have f1 := hg.frozen (o + 1)
  have hv : s.v ≠ 0 := by have := hs.1; omega
  have hgl := hg.lt
  have HG := Lib.hid hg
  have HS := Lib.hid hs
  clear hb h1 h2 h3 hs hg c0 c1
  go_enter Try.func68, Try.ntmps68
  go_wp2
  go_region_held3 (fun w' => w'.cell? ⟨g, o, none⟩ = some (.int .i64 s.v) ∧ w'.cell? ⟨g, o + 1, none⟩ = some (.int .i64 s.h)) (go_keep) (fail)
  go_wp2
  refine still_tail 9 (by kernel_rfl) (by kernel_rfl) ?_
  simp only [List.take_succ_cons, List.take_zero, List.drop_succ_cons, List.drop_zero]
  repeat still_step
  refine wpStill_nil ?_
  go_wp2
  refine still_tail 9 (by kernel_rfl) (by kernel_rfl) ?_
  simp only [List.take_succ_cons, List.take_zero, List.drop_succ_cons, List.drop_zero]
  repeat still_step
  refine wpStill_nil ?_
  go_wp2
  refine bodyPost_ret (v := slv (takeO s n)) (by simp [results, Try.results68, go_sem, takeO]) rfl ⟨rfl, ?_, ?_⟩
  · refine Only.drew (Only.drew (Only.drew (Only.alloc (Only.alloc (Only.setCell (Only.setCell (Only.refl _ _) ?_ _) ?_ _) _) _)))
    · exact .inl rfl
    · exact .inl rfl
  · exact ((((HG.out.set o _).set (o + 1) _).alloc _).alloc _).drew.drew.drew

end Go.Proofs.Ytjfopmjphiddiaa
/- add. -/
namespace Go.Proofs.Ytjfopmjphiddiaa
open Go.RowKit
set_option maxRecDepth 100000 in
set_option maxHeartbeats 1000000 in
theorem add_any (g o : Nat) (T : TypeId) (cs : Array Value) (x s : Sl) (W : World) (hg : Has W g T cs) (c0 : cs[o]? = some (iv x.v)) (c1 : cs[o + 1]? = some (iv x.h))
    (hv : 0 ≤ x.v + s.v ∧ x.v + s.v ≤ 1099511627776) (hh : 0 ≤ x.h + s.h ∧ x.h + s.h ≤ 1099511627776000) :
    Calls Try.prog 36 #[.pointer (some ⟨g, o, none⟩), slv s] W fun e W' => (∃ v, e = .returned v) ∧ Only (fun k => k = g) W W' ∧ Has W' g T ((cs.setIfInBounds o (iv (x.add s).v)).setIfInBounds (o + 1) (iv (x.add s).h)) := by
  have k1 : IntKind.i64.wrap (x.v + s.v) = x.v + s.v := IntWalk.i64_in _ (by omega)
  have k2 : IntKind.i64.wrap (x.h + s.h) = x.h + s.h := IntWalk.i64_in _ (by omega)
  have d0 : W.cell? ⟨g, o, none⟩ = some (.int .i64 x.v) := (hg.cell o).trans c0
  have d1 : W.cell? ⟨g, o + 1, none⟩ = some (.int .i64 x.h) := (hg.cell (o + 1)).trans c1
  have f0 := hg.frozen o
  have f1 := hg.frozen (o + 1)
  have hgl := hg.lt
  have HG := Lib.hid hg
  clear hv hh hg c0 c1
  go_enter Try.func36, Try.ntmps36
  go_wp2
  refine still_tail 9 (by kernel_rfl) (by kernel_rfl) ?_
  simp only [List.take_succ_cons, List.take_zero, List.drop_succ_cons, List.drop_zero]
  repeat still_step
  refine wpStill_nil ?_
  go_wp2
  refine still_tail 9 (by kernel_rfl) (by kernel_rfl) ?_
  simp only [List.take_succ_cons, List.take_zero, List.drop_succ_cons, List.drop_zero]
  repeat still_step
  refine wpStill_nil ?_
  go_wp2
  go_end0
  refine ⟨⟨_, rfl⟩, Only.drew (Only.drew (Only.alloc (Only.setCell (Only.setCell (Only.refl _ _) ?_ _) ?_ _) _)), Has.drew (Has.drew (Has.alloc ((HG.out.set o _).set (o + 1) _) _))⟩
  · exact .inl rfl
  · exact .inl rfl
end Go.Proofs.Ytjfopmjphiddiaa
/- litres. -/
namespace Go.Proofs.Ytjfopmjphiddiaa
open Go.RowKit
theorem vol_take_succ (l : List Sl) (k : Nat) (h : k < l.length) : vol (l.take (k + 1)) = vol (l.take k) + l[k].v := by
  rw [List.take_succ_eq_append_getElem h, vol_app]; simp [vol]
theorem okL_take {l : List Sl} (h : okL l) (k : Nat) : okL (l.take k) := fun s hs => h s (List.mem_of_mem_take hs)
theorem vol_take_le {l : List Sl} (h : okL l) (k : Nat) : 0 ≤ vol (l.take k) ∧ vol (l.take k) ≤ vol l := by
  have h1 := vol_nn (okL_take h k)
  have h2 : vol l = vol (l.take k) + vol (l.drop k) := by rw [← vol_app, List.take_append_drop]
  have h3 : 0 ≤ vol (l.drop k) := vol_nn (fun s hs => h s (List.mem_of_mem_drop hs))
  omega

set_option maxRecDepth 100000 in
set_option maxHeartbeats 1000000 in
theorem litres_any (Bp o : Nat) (q : Qu) (W : World) (hc : W.cell? ⟨Bp, o + 1, none⟩ = some q.sv) (hq : QHas W q) (hok : okL q.l) (hv : vol q.l ≤ 4194304) :
    Calls Try.prog 72 #[.pointer (some ⟨Bp, o, none⟩)] W fun e W' => e = .returned (iv (vol q.l)) ∧ Below W.heap.size W W' := by
  obtain ⟨cur, hh, _, hcs⟩ := hq.blk
  have hm : q.l.length ≤ 9223372036854775807 := by have := hq.le; have := hq.mx; unfold maxLen at this; omega
  have hgl := hh.lt
  have hbl : Bp < W.heap.size := by
    unfold World.cell? at hc
    cases h : W.heap[Bp]? with
    | none => simp [h] at hc
    | some o => exact (Array.getElem?_eq_some_iff.1 h).1
  have HH := Lib.hid (And.intro hh hcs)
  have HV := Lib.hid (And.intro hok hv)
  unfold Qu.sv at hc
  clear hq hh hcs hok hv
  go_enter Try.func72, Try.ntmps72
  go_wp2
  go_loopw [3, 11] (fun t i wr => ∃ k : Nat, k ≤ q.l.length ∧ i = .int .i64 k ∧ t = .int .i64 (vol (q.l.take k)) ∧ Below W.heap.size W wr) (fun _ i _ => q.l.length - (intOf i).toNat)
  case atStart => exact ⟨0, Nat.zero_le _, rfl, rfl, Below.refl _ _⟩
  case round =>
    obtain ⟨k, hk, rfl, rfl, hb⟩ := hrel
    by_cases hlt : k < q.l.length
    · have hlt' : (k : Int) < q.l.length := by omega
      have g0 : wr.cell? ⟨q.g, q.off + k * 2, none⟩ = some (.int .i64 q.l[k].v) := (hb.cell (p := ⟨q.g, q.off + k * 2, none⟩) hgl).trans ((HH.out.1.cell _).trans (HH.out.2 k hlt).1)
      have g1 : wr.cell? ⟨q.g, q.off + k * 2 + 1, none⟩ = some (.int .i64 q.l[k].h) := (hb.cell (p := ⟨q.g, q.off + k * 2 + 1, none⟩) hgl).trans ((HH.out.1.cell _).trans (HH.out.2 k hlt).2)
      have hs := vol_take_succ q.l k hlt
      have hb1 := vol_take_le HV.out.1 k
      have hb2 := vol_take_le HV.out.1 (k + 1)
      have kw : IntKind.i64.wrap (vol (q.l.take k) + q.l[k].v) = vol (q.l.take k) + q.l[k].v := IntWalk.i64_in _ (by have := HV.out.2; omega)
      have HS := Lib.hid hs
      clear hs hb1 hb2
      go_wp2
      go_roundw
      case rel => exact ⟨k + 1, by omega, by go_num, by rw [HS.out], hb.alloc (by have := hb.size; omega) _⟩
      case measure => simp [intOf]; omega
    · have e : k = q.l.length := by omega
      subst e
      go_wp2
      go_ret
      refine ⟨?_, hb⟩
      simp only [List.take_length]
      rfl
end Go.Proofs.Ytjfopmjphiddiaa
