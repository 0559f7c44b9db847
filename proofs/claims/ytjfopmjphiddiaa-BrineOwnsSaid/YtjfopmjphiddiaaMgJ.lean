/- What an event does, as plain numbers; and that all stays within bounds. -/
import Derived.Test.YtjfopmjphiddiaaMgI
import Derived.Laws.EntriesVeiled
namespace Go.Proofs.Ytjfopmjphiddiaa

def pipeAt (y : Yx) (p : Int) : Pp := y.ps.getD p.toNat ⟨0, []⟩
def fillY (y : Yx) (a h : Int) : Yx := ⟨y.ps, y.t.add ⟨a, h⟩, ⟨y.r.heat, y.r.room, fillS y.r.s a h⟩⟩
def chillY (y : Yx) (h : Int) : Yx := ⟨y.ps, ⟨y.t.v, y.t.h - h⟩, ⟨y.r.heat + h - max 0 (y.r.heat + h - y.r.room), y.r.room, chillS y.r.s h (max 0 (y.r.heat + h - y.r.room))⟩⟩
def useY (y : Yx) (h : Int) : Yx := ⟨y.ps, y.t, ⟨y.r.heat - min y.r.heat h, y.r.room, useS y.r.s h (h - min y.r.heat h)⟩⟩
def pumpY (y : Yx) (a : Int) : Yx := toY (flowN y.ps.length (y.ps, takeR y.t a) (takeO y.t a)) y.r
def doErr (y : Yx) (k p a h : Int) : Int :=
  if evOk k p a h y.ps.length = false then 1
  else if k = 0 then (if y.t.v < a then 10 else 0)
  else if k = 1 then (if (pipeAt y p).l = [] then 6 else 0)
  else if k = 3 then (if 1048576 < y.t.v + a then 12 else 0)
  else if k = 4 then (if y.t.h < h then 10 else 0)
  else 0
def doY (y : Yx) (k p a h : Int) : Yx :=
  if k = 0 then pumpY y a else if k = 1 then warmY y p.toNat h else if k = 2 then leakY y p.toNat a else if k = 3 then fillY y a h else if k = 4 then chillY y h else useY y h

/-- bounds behind c events -/
structure YIn (c : Nat) (y : Yx) : Prop where
  ps : okP y.ps
  len : y.ps.length ≤ 8
  t0 : 0 ≤ y.t.v
  t1 : y.t.v ≤ 1048576
  th : 0 ≤ y.t.h
  e0 : 0 ≤ y.r.heat
  e1 : y.r.heat ≤ y.r.room
  e2 : y.r.room ≤ 4294967296
  lv : 0 ≤ y.r.s.lv
  lh : 0 ≤ y.r.s.lh
  ch : 0 ≤ y.r.s.ch
  heat : hA (y.ps, y.t) + y.r.s.lh + y.r.s.ch ≤ (130 + c) * 4294967296
  lv1 : y.r.s.lv ≤ c * 1048576
  fv : 0 ≤ y.r.s.fv ∧ y.r.s.fv ≤ c * 1048576
  fh : 0 ≤ y.r.s.fh ∧ y.r.s.fh ≤ c * 4294967296
  wa : 0 ≤ y.r.s.wa ∧ y.r.s.wa ≤ c * 4294967296
  ai : 0 ≤ y.r.s.ai ∧ y.r.s.ai ≤ c * 4294967296
  us : 0 ≤ y.r.s.us ∧ y.r.s.us ≤ c * 4294967296
  bo : 0 ≤ y.r.s.bo ∧ y.r.s.bo ≤ c * 4294967296
  va : vA (y.ps, y.t) ≤ 9 * 1048576
theorem volP_le {ps : List Pp} (h : okP ps) : volP ps ≤ ps.length * 1048576 := by
  induction ps with
  | nil => simp [volP]
  | cons p t ih =>
    obtain ⟨h1, h2⟩ := okP_cons.1 h
    have := ih h2; have := h1.le; have := h1.r2
    simp only [volP, List.length_cons]; omega
theorem okP_at {y : Yx} {p : Int} {n : Nat} (h : okP y.ps) (hn : n = y.ps.length) (hp : onP p n = true) : ∃ hj : p.toNat < y.ps.length, pipeAt y p = y.ps[p.toNat] ∧ (pipeAt y p).ok := by
  simp only [onP, decide_eq_true_eq] at hp
  have hj : p.toNat < y.ps.length := by omega
  have e : pipeAt y p = y.ps[p.toNat] := by simp [pipeAt, List.getD, hj]
  exact ⟨hj, e, by rw [e]; exact h _ (List.getElem_mem hj)⟩
theorem heaP_set (ps : List Pp) (j : Nat) (hj : j < ps.length) (q : Pp) : heaP (ps.set j q) + hea ps[j].l = heaP ps + hea q.l ∧ volP (ps.set j q) + vol ps[j].l = volP ps + vol q.l := by
  induction ps generalizing j with
  | nil => simp at hj
  | cons p t ih =>
    cases j with
    | zero => simp only [List.set_cons_zero, heaP, volP, List.getElem_cons_zero]; omega
    | succ j =>
      have := ih j (by simpa using hj)
      simp only [List.set_cons_succ, heaP, volP, List.getElem_cons_succ]; omega
theorem hea_le_heaP {ps : List Pp} (h : okP ps) (j : Nat) (hj : j < ps.length) : hea ps[j].l ≤ heaP ps := by
  induction ps generalizing j with
  | nil => simp at hj
  | cons p t ih =>
    obtain ⟨h1, h2⟩ := okP_cons.1 h
    have a := (volP_nn h2).2; have b := hea_nn h1.sl
    cases j with
    | zero => simp only [heaP, List.getElem_cons_zero]; omega
    | succ j =>
      have := ih h2 j (by simpa using hj)
      simp only [heaP, List.getElem_cons_succ]; omega
theorem okP_set {ps : List Pp} (h : okP ps) (j : Nat) {q : Pp} (hq : q.ok) : okP (ps.set j q) := fun p hp => by
  rcases List.mem_or_eq_of_mem_set hp with h1 | rfl
  · exact h p h1
  · exact hq
theorem warmK_sum (heat all : Int) (l : List Sl) (k : Nat) : vol (warmK heat all l k) = vol l ∧ hea (warmK heat all l k) = hea l + shrs heat all (l.take k) := by
  have key : ∀ l : List Sl, vol (l.map fun s => (⟨s.v, s.h + shr heat all s⟩ : Sl)) = vol l ∧ hea (l.map fun s => (⟨s.v, s.h + shr heat all s⟩ : Sl)) = hea l + shrs heat all l := by
    intro l
    induction l with
    | nil => simp [vol, hea, shrs]
    | cons s t ih => simp only [List.map_cons, vol, hea, shrs]; omega
  unfold warmK
  have h1 := vol_app (l.take k) (l.drop k)
  have h2 := hea_app (l.take k) (l.drop k)
  rw [List.take_append_drop] at h1 h2
  rw [vol_app, hea_app]
  have := key (l.take k)
  omega
theorem set_sum (l : List Sl) (k : Nat) (h : k < l.length) (s : Sl) : vol (l.set k s) + l[k].v = vol l + s.v ∧ hea (l.set k s) + l[k].h = hea l + s.h := by
  induction l generalizing k with
  | nil => simp at h
  | cons x t ih =>
    cases k with
    | zero => simp only [List.set_cons_zero, vol, hea, List.getElem_cons_zero]; omega
    | succ k =>
      have := ih k (by simpa using h)
      simp only [List.set_cons_succ, vol, hea, List.getElem_cons_succ]; omega
theorem warmL_ok {l : List Sl} (hl : okL l) (hne : l ≠ []) {heat : Int} (h0 : 0 ≤ heat) : okL (warmL heat l) ∧ vol (warmL heat l) = vol l ∧ hea (warmL heat l) = hea l + heat := by
  obtain ⟨m, hm⟩ : ∃ m, l.length = m + 1 := by
    cases l with
    | nil => exact absurd rfl hne
    | cons s t => exact ⟨t.length, rfl⟩
  have e1 : l.length - 1 = m := by omega
  have hml : m < l.length := by omega
  have hv1 : 1 ≤ vol l := by have := vol_len hl; omega
  have hb := shrs_bd h0 hl hv1 m
  have hg : l.getD m sl0 = l[m] := by simp [List.getD, hml]
  have hs := hl _ (List.getElem_mem hml)
  have hw := warmK_sum heat (vol l) l m
  have hkl : m < (warmK heat (vol l) l m).length := by rw [warmK_len]; exact hml
  have hss := set_sum (warmK heat (vol l) l m) m hkl ⟨l[m].v, l[m].h + (heat - shrs heat (vol l) (l.take m))⟩
  rw [warmK_at heat (vol l) l m hml] at hss
  have e : warmL heat l = (warmK heat (vol l) l m).set m ⟨l[m].v, l[m].h + (heat - shrs heat (vol l) (l.take m))⟩ := by unfold warmL; rw [e1, hg]
  rw [e]
  refine ⟨fun s hs' => ?_, by simp only at hss; omega, by simp only at hss; omega⟩
  rcases List.mem_or_eq_of_mem_set hs' with h1 | rfl
  · unfold warmK at h1
    rcases List.mem_append.1 h1 with h1 | h1
    · obtain ⟨x, hx, rfl⟩ := List.mem_map.1 h1
      have hx2 := hl x (List.mem_of_mem_take hx)
      have : 0 ≤ shr heat (vol l) x := Int.ediv_nonneg (Int.mul_nonneg h0 (by have := hx2.1; omega)) (by omega)
      exact ⟨hx2.1, by have := hx2.2; simp only; omega⟩
    · exact hl s (List.mem_of_mem_drop h1)
  · exact ⟨hs.1, by have := hs.2; simp only; omega⟩
end Go.Proofs.Ytjfopmjphiddiaa
/- An event leaves all within bounds. -/
namespace Go.Proofs.Ytjfopmjphiddiaa

theorem lB_iff {n : Int} : lB n = true ↔ 1 ≤ n ∧ n ≤ 1048576 := by simp [lB]
theorem hB_iff {n : Int} : hB n = true ↔ 0 ≤ n ∧ n ≤ 4294967296 := by simp [hB]
structure YStep (c : Nat) (y z : Yx) : Prop where
  ok : YIn (c + 1) z
  room : z.ps.map Pp.room = y.ps.map Pp.room
  hroom : z.r.room = y.r.room
theorem YStep.len {c : Nat} {y z : Yx} (h : YStep c y z) : z.ps.length = y.ps.length := by
  have := congrArg List.length h.room
  simpa using this
theorem YIn.fok {c : Nat} {y : Yx} (h : YIn c y) : FOk (y.ps, y.t) := ⟨h.ps, h.t0, h.th⟩
theorem map_room_set (ps : List Pp) (j : Nat) (hj : j < ps.length) (q : Pp) (hq : q.room = ps[j].room) : (ps.set j q).map Pp.room = ps.map Pp.room := by
  rw [List.map_set, hq]
  apply List.ext_getElem
  · simp
  · intro i h1 h2
    rw [List.getElem_set]
    split
    · rename_i e; subst e; simp
    · rfl

theorem step_pump {c : Nat} {y : Yx} (h : YIn c y) {a : Int} (h1 : 1 ≤ a) (_ : a ≤ 1048576) (h3 : a ≤ y.t.v) : YStep c y (pumpY y a) := by
  have hs0 : okS y.t := ⟨by omega, h.th⟩
  have hTO := takeO_ok hs0 h1 h3
  have hpb := part_bd hs0.2 (by omega : 0 ≤ a) hs0.1 h3
  have hFK : FOk (y.ps, takeR y.t a) := ⟨h.ps, by simp only [takeR]; omega, by simp only [takeR]; omega⟩
  obtain ⟨f1, f2, f3, f4, f5⟩ := flow_ok y.ps.length (y.ps, takeR y.t a) (takeO y.t a) hFK hTO rfl
  have g1 := h.heat; have g2 := h.va
  have n1 := (volP_nn f1.ps); have n2 := f1.t0
  have hvp := volP_nn h.ps
  simp only [hA, vA, takeR, takeO] at f4 f5 g1 g2
  -- the tank has no more than it had
  have key : ∀ (n : Nat) (x : List Pp × Sl) (s : Sl), FOk x → okS s → x.1.length = n → (flowN n x s).2.v ≤ x.2.v + s.v := by
    intro n
    induction n with
    | zero =>
      rintro ⟨ps, t⟩ s hx hs hn
      obtain rfl : ps = [] := List.eq_nil_of_length_eq_zero hn
      simp [flowN, Sl.add]
    | succ n ih =>
      rintro ⟨ps, t⟩ s hx hs hn
      cases ps with
      | nil => simp at hn
      | cons p ps =>
        obtain ⟨p1, p2⟩ := okP_cons.1 hx.ps
        obtain ⟨e1, _, _, _, e5, _⟩ := enter_ok p1 hs
        have fold : ∀ (l : List Sl) (x : List Pp × Sl), okL l → FOk x → x.1.length = n → (l.foldl (flowN n) x).2.v ≤ x.2.v + vol l := by
          intro l
          induction l with
          | nil => intro x _ _ _; simp [vol]
          | cons s l ihl =>
            intro x hl hx hn
            obtain ⟨l1, l2⟩ := okL_cons.1 hl
            have a1 := ih x s hx l1 hn
            obtain ⟨b1, b2, _, _, _⟩ := flow_ok n x s hx l1 hn
            have a2 := ihl _ l2 b1 (by omega)
            simp only [List.foldl_cons, vol]; omega
        have := fold (p.outs s) (ps, t) e1 ⟨p2, hx.t0, hx.h0⟩ (by simpa using hn)
        simp only [flowN] at this ⊢
        omega
  have hk := key y.ps.length (y.ps, takeR y.t a) (takeO y.t a) hFK hTO rfl
  simp only [takeR, takeO] at hk
  refine ⟨⟨f1.ps, ?_, f1.t0, ?_, f1.h0, h.e0, h.e1, h.e2, h.lv, h.lh, h.ch, ?_, ?_, ?_, ?_, ?_, ?_, ?_, ?_, ?_⟩, f3, rfl⟩
  · have := h.len; simp only [pumpY, toY] at f2 ⊢; omega
  · have := h.t1; simp only [pumpY, toY, takeR, takeO]; omega
  · simp only [pumpY, toY, hA, takeR, takeO]; omega
  · have := h.lv1; simp only [pumpY, toY]; omega
  · have := h.fv; simp only [pumpY, toY]; omega
  · have := h.fh; simp only [pumpY, toY]; omega
  · have := h.wa; simp only [pumpY, toY]; omega
  · have := h.ai; simp only [pumpY, toY]; omega
  · have := h.us; simp only [pumpY, toY]; omega
  · have := h.bo; simp only [pumpY, toY]; omega
  · simp only [pumpY, toY, vA, takeR, takeO]; omega

theorem step_warm {c : Nat} {y : Yx} (h : YIn c y) {p w : Int} (hp : onP p y.ps.length = true) (h0 : 0 ≤ w) (h1 : w ≤ 4294967296) (hne : (pipeAt y p).l ≠ []) : YStep c y (warmY y p.toNat w) := by
  obtain ⟨hj, e, q⟩ := okP_at h.ps rfl hp
  have e' : y.ps.getD p.toNat ⟨0, []⟩ = pipeAt y p := rfl
  obtain ⟨w1, w2, w3⟩ := warmL_ok q.sl hne h0
  have hq : (⟨(pipeAt y p).room, warmL w (pipeAt y p).l⟩ : Pp).ok := ⟨q.r1, q.r2, w1, by simp only; rw [w2]; exact q.le, by simp only; rw [warmL_len]; exact q.len⟩
  have hs := heaP_set y.ps p.toNat hj ⟨(pipeAt y p).room, warmL w (pipeAt y p).l⟩
  rw [← e] at hs
  simp only at hs
  have g1 := h.heat; have g2 := h.va
  simp only [hA, vA] at g1 g2
  refine ⟨⟨okP_set h.ps _ (by rw [e']; exact hq), ?_, h.t0, h.t1, h.th, h.e0, h.e1, h.e2, h.lv, h.lh, h.ch, ?_, ?_, ?_, ?_, ?_, ?_, ?_, ?_, ?_⟩, ?_, rfl⟩
  · have := h.len; simp only [warmY, List.length_set]; omega
  · simp only [warmY, hA, e', warmS]; omega
  · have := h.lv1; simp only [warmY, warmS]; omega
  · have := h.fv; simp only [warmY, warmS]; omega
  · have := h.fh; simp only [warmY, warmS]; omega
  · have := h.wa; simp only [warmY, warmS]; omega
  · have := h.ai; simp only [warmY, warmS]; omega
  · have := h.us; simp only [warmY, warmS]; omega
  · have := h.bo; simp only [warmY, warmS]; omega
  · simp only [warmY, vA, e']; omega
  · exact map_room_set _ _ hj _ (by rw [e', e])

theorem step_leak {c : Nat} {y : Yx} (h : YIn c y) {p a : Int} (hp : onP p y.ps.length = true) (h1 : 1 ≤ a) (h2 : a ≤ 1048576) : YStep c y (leakY y p.toNat a) := by
  obtain ⟨hj, e, q⟩ := okP_at h.ps rfl hp
  have e' : y.ps.getD p.toNat ⟨0, []⟩ = pipeAt y p := rfl
  have hvn := vol_nn q.sl
  have d := drain_ok _ q.sl (min a (vol (pipeAt y p).l)) (by omega) (by omega)
  obtain ⟨d1, d2, d3, d4, d5, d6⟩ := d
  have hq : (⟨(pipeAt y p).room, (drainL (pipeAt y p).l (min a (vol (pipeAt y p).l))).2⟩ : Pp).ok := ⟨q.r1, q.r2, d2, by have := q.le; simp only; omega, by have := q.len; simp only; omega⟩
  have hs := heaP_set y.ps p.toNat hj ⟨(pipeAt y p).room, (drainL (pipeAt y p).l (min a (vol (pipeAt y p).l))).2⟩
  rw [← e] at hs
  simp only at hs
  have o1 := hea_nn d1; have o2 := vol_nn d1
  have g1 := h.heat; have g2 := h.va
  simp only [hA, vA] at g1 g2
  refine ⟨⟨okP_set h.ps _ (by rw [e']; exact hq), ?_, h.t0, h.t1, h.th, h.e0, h.e1, h.e2, ?_, ?_, h.ch, ?_, ?_, ?_, ?_, ?_, ?_, ?_, ?_, ?_⟩, ?_, rfl⟩
  · have := h.len; simp only [leakY, leakN, leakPs, List.length_set]; omega
  · have := h.lv; simp only [leakY, leakN, leakR, e']; omega
  · have := h.lh; simp only [leakY, leakN, leakR, e']; omega
  · simp only [leakY, leakN, leakPs, hA, e', leakR]; omega
  · have := h.lv1; simp only [leakY, leakN, leakR, e']; omega
  · have := h.fv; simp only [leakY, leakN, leakR]; omega
  · have := h.fh; simp only [leakY, leakN, leakR]; omega
  · have := h.wa; simp only [leakY, leakN, leakR]; omega
  · have := h.ai; simp only [leakY, leakN, leakR]; omega
  · have := h.us; simp only [leakY, leakN, leakR]; omega
  · have := h.bo; simp only [leakY, leakN, leakR]; omega
  · simp only [leakY, leakN, leakPs, vA, e']; omega
  · exact map_room_set _ _ hj _ (by rw [e', e])

theorem step_fill {c : Nat} {y : Yx} (h : YIn c y) {a w : Int} (h1 : 1 ≤ a) (_ : a ≤ 1048576) (h3 : 0 ≤ w) (h4 : w ≤ 4294967296) (h5 : y.t.v + a ≤ 1048576) : YStep c y (fillY y a w) := by
  have g1 := h.heat; have g2 := h.va
  have hv := volP_le h.ps
  have hl := h.len
  simp only [hA, vA] at g1 g2
  refine ⟨⟨h.ps, h.len, ?_, ?_, ?_, h.e0, h.e1, h.e2, h.lv, h.lh, h.ch, ?_, ?_, ?_, ?_, ?_, ?_, ?_, ?_, ?_⟩, rfl, rfl⟩
  · have := h.t0; simp only [fillY, Sl.add]; omega
  · simp only [fillY, Sl.add]; omega
  · have := h.th; simp only [fillY, Sl.add]; omega
  · simp only [fillY, hA, Sl.add, fillS]; omega
  · have := h.lv1; simp only [fillY, fillS]; omega
  · have := h.fv; simp only [fillY, fillS]; omega
  · have := h.fh; simp only [fillY, fillS]; omega
  · have := h.wa; simp only [fillY, fillS]; omega
  · have := h.ai; simp only [fillY, fillS]; omega
  · have := h.us; simp only [fillY, fillS]; omega
  · have := h.bo; simp only [fillY, fillS]; omega
  · simp only [fillY, vA, Sl.add]; omega

theorem step_chill {c : Nat} {y : Yx} (h : YIn c y) {w : Int} (h3 : 0 ≤ w) (h4 : w ≤ 4294967296) (h5 : w ≤ y.t.h) : YStep c y (chillY y w) := by
  have g1 := h.heat; have g2 := h.va
  have x0 := h.e0; have x1 := h.e1; have x2 := h.e2
  simp only [hA, vA] at g1 g2
  refine ⟨⟨h.ps, h.len, h.t0, h.t1, ?_, ?_, ?_, h.e2, h.lv, h.lh, ?_, ?_, ?_, ?_, ?_, ?_, ?_, ?_, ?_, ?_⟩, rfl, rfl⟩
  · simp only [chillY]; omega
  · simp only [chillY]; omega
  · simp only [chillY]; omega
  · have := h.ch; simp only [chillY, chillS]; omega
  · simp only [chillY, hA, chillS]; omega
  · have := h.lv1; simp only [chillY, chillS]; omega
  · have := h.fv; simp only [chillY, chillS]; omega
  · have := h.fh; simp only [chillY, chillS]; omega
  · have := h.wa; simp only [chillY, chillS]; omega
  · have := h.ai; simp only [chillY, chillS]; omega
  · have := h.us; simp only [chillY, chillS]; omega
  · have := h.bo; simp only [chillY, chillS]; omega
  · simp only [chillY, vA]; omega

theorem step_use {c : Nat} {y : Yx} (h : YIn c y) {w : Int} (h3 : 0 ≤ w) (h4 : w ≤ 4294967296) : YStep c y (useY y w) := by
  have g1 := h.heat; have g2 := h.va
  have x0 := h.e0; have x1 := h.e1; have x2 := h.e2
  simp only [hA, vA] at g1 g2
  refine ⟨⟨h.ps, h.len, h.t0, h.t1, h.th, ?_, ?_, h.e2, h.lv, h.lh, h.ch, ?_, ?_, ?_, ?_, ?_, ?_, ?_, ?_, ?_⟩, rfl, rfl⟩
  · simp only [useY]; omega
  · simp only [useY]; omega
  · simp only [useY, hA, useS]; omega
  · have := h.lv1; simp only [useY, useS]; omega
  · have := h.fv; simp only [useY, useS]; omega
  · have := h.fh; simp only [useY, useS]; omega
  · have := h.wa; simp only [useY, useS]; omega
  · have := h.ai; simp only [useY, useS]; omega
  · have := h.us; simp only [useY, useS]; omega
  · have := h.bo; simp only [useY, useS]; omega
  · simp only [useY, vA]; omega

theorem step_ok {c : Nat} {y : Yx} (h : YIn c y) {k p a w : Int} (he : doErr y k p a w = 0) : YStep c y (doY y k p a w) := by
  unfold doErr at he
  cases hv : evOk k p a w y.ps.length
  · rw [hv] at he; simp at he
  · rw [hv] at he
    simp only [Bool.true_eq_false, if_false] at he
    unfold evOk at hv
    unfold doY
    by_cases k0 : k = 0
    · rw [if_pos k0] at he hv ⊢
      obtain ⟨b1, b2⟩ := lB_iff.1 hv
      by_cases ht : y.t.v < a
      · rw [if_pos ht] at he; cases he
      · exact step_pump h b1 b2 (by omega)
    · rw [if_neg k0] at he hv ⊢
      by_cases k1 : k = 1
      · rw [if_pos k1] at he hv ⊢
        simp only [Bool.and_eq_true] at hv
        obtain ⟨b1, b2⟩ := hB_iff.1 hv.2
        by_cases hl : (pipeAt y p).l = []
        · rw [if_pos hl] at he; cases he
        · exact step_warm h hv.1 b1 b2 hl
      · rw [if_neg k1] at he hv ⊢
        by_cases k2 : k = 2
        · rw [if_pos k2] at hv ⊢
          simp only [Bool.and_eq_true] at hv
          obtain ⟨b1, b2⟩ := lB_iff.1 hv.2
          exact step_leak h hv.1 b1 b2
        · rw [if_neg k2] at hv ⊢
          by_cases k3 : k = 3
          · rw [if_pos k3] at he hv ⊢
            simp only [Bool.and_eq_true] at hv
            obtain ⟨b1, b2⟩ := lB_iff.1 hv.1
            obtain ⟨b3, b4⟩ := hB_iff.1 hv.2
            by_cases ht : 1048576 < y.t.v + a
            · rw [if_pos ht] at he; cases he
            · exact step_fill h b1 b2 b3 b4 (by omega)
          · rw [if_neg k3] at he hv ⊢
            by_cases k4 : k = 4
            · rw [if_pos k4] at he ⊢
              rw [if_pos (.inl k4)] at hv
              obtain ⟨b3, b4⟩ := hB_iff.1 hv
              by_cases ht : y.t.h < w
              · rw [if_pos ht] at he; cases he
              · exact step_chill h b3 b4 (by omega)
            · rw [if_neg k4] at ⊢
              by_cases k5 : k = 5
              · rw [if_pos (.inr k5)] at hv
                obtain ⟨b3, b4⟩ := hB_iff.1 hv
                exact step_use h b3 b4
              · rw [if_neg (by omega)] at hv; cases hv
end Go.Proofs.Ytjfopmjphiddiaa
/- What is done for an event of each kind. -/
namespace Go.Proofs.Ytjfopmjphiddiaa
open Go.RowKit Go.Shelf

def DeedPost (Bc Bp : Nat) (W : World) (qs : List Qu) (y : Yx) (k p a h : Int) (e : Ending) (W' : World) : Prop :=
  (doErr y k p a h = 0 ∧ DonePost Bc Bp W qs (doY y k p a h) e W') ∨ (doErr y k p a h ≠ 0 ∧ PanicPost (errv (doErr y k p a h)) W e W')
def fnOf (k : Int) : FuncId := 55 + k.toNat
theorem YIn.hook {c : Nat} {y : Yx} (h : YIn c y) (hc : c ≤ 256) : HoOk y.r :=
  ⟨h.e0, by have := h.e1; have := h.e2; omega, by have := h.e0; have := h.e1; omega, h.e2, by have := h.fv; omega, by have := h.fh; omega, by have := h.wa; omega, by
    have := h.ch; have := h.heat; have := h.lh; have := (volP_nn h.ps).2; have := h.th; simp only [hA] at *; omega, by have := h.ai; omega, by have := h.us; omega, by have := h.bo; omega⟩
theorem deed_any (Bc Bp : Nat) (qs : List Qu) (y : Yx) (c : Nat) (k p a h : Int) (W : World) (hC : Circ W Bc Bp y.t qs y.r) (hps : qs.map Qu.pp = y.ps) (hy : YIn c y) (hc : c ≤ 256) (hv : evOk k p a h y.ps.length = true) :
    Calls Try.prog (fnOf k) #[.pointer (some ⟨Bc, 0, none⟩), evv k p a h] W (DeedPost Bc Bp W qs y k p a h) := by
  have hlen : y.ps.length = qs.length := by rw [← hps]; simp
  have hl8 := hy.len
  have hcH : hA (y.ps, y.t) ≤ 2199023255552 := by
    have := hy.heat; have := hy.lh; have := hy.ch; omega
  have hth : y.t.h ≤ 2199023255552 := by
    have := (volP_nn hy.ps).2; simp only [hA] at hcH; omega
  have hr := hy.hook hc
  have hv' := hv
  have yes : ∀ {e : Ending} {W' : World}, doErr y k p a h = 0 → DonePost Bc Bp W qs (doY y k p a h) e W' → DeedPost Bc Bp W qs y k p a h e W' := fun h1 h2 => .inl ⟨h1, h2⟩
  have no : ∀ {e : Ending} {W' : World} (m : Int), doErr y k p a h = m → m ≠ 0 → PanicPost (errv m) W e W' → DeedPost Bc Bp W qs y k p a h e W' := fun m h1 h0 h2 => .inr ⟨by rw [h1]; exact h0, by rw [h1]; exact h2⟩
  have pip : ∀ {j : Nat} (hj : j < qs.length), (p.toNat = j) → pipeAt y p = qs[j].pp := fun hj e => by subst e; simp [pipeAt, ← hps, List.getD, hj]
  unfold evOk at hv
  by_cases k0 : k = 0
  · subst k0
    simp only [if_true] at hv
    obtain ⟨b1, b2⟩ := lB_iff.1 hv
    by_cases ht : y.t.v < a
    · exact (pump_short Bc Bp qs y 0 p a h W ⟨qs, rfl, hps, hC⟩ ht).mono fun e W' h2 => no 10 (by simp [doErr, hv', ht]) (by decide) h2
    · refine (pump_ok Bc Bp qs y 0 p a h W hC hps (by omega) hy.fok b1 b2 (by omega) hy.t1 hcH (by have := hy.va; omega)).mono fun e W' h2 => yes (by simp [doErr, hv']; omega) ?_
      rw [← hlen] at h2
      exact h2
  · rw [if_neg k0] at hv
    by_cases k1 : k = 1
    · subst k1
      simp only [if_true, Bool.and_eq_true] at hv
      obtain ⟨b1, b2⟩ := hB_iff.1 hv.2
      obtain ⟨hj, e1, q⟩ := okP_at hy.ps rfl hv.1
      have hp := hv.1
      simp only [onP, decide_eq_true_eq] at hp
      obtain ⟨j, rfl⟩ : ∃ j : Nat, p = j := ⟨p.toNat, by omega⟩
      have hj2 : j < qs.length := by rw [← hlen]; simpa using hj
      have e2 := pip hj2 (by simp)
      rw [e2] at q
      by_cases hl : qs[j].l = []
      · exact (warm_none Bc Bp j qs y.t y.r 1 a h W hj2 hC (by omega) hl).mono fun e W' h2 => no 6 (by simp [doErr, hv', e2, Qu.pp, hl]) (by decide) h2
      · refine (warm_ok Bc Bp j qs y 1 a h W hj2 hC hps (by omega) hl q.sl (by have := q.le; have := q.r2; simp only [Qu.pp] at *; omega) ?_ b1 b2 hr.wa).mono fun e W' h2 => yes (by simp [doErr, hv', e2, Qu.pp, hl]) ?_
        · have := hea_le_heaP hy.ps j (by rw [hlen]; exact hj2)
          have e3 : y.ps[j]'(by rw [hlen]; exact hj2) = qs[j].pp := by simp [← hps]
          rw [e3] at this
          simp only [Qu.pp] at this
          have h4 := hy.th
          simp only [hA] at hcH; omega
        · have e : doY y 1 (j : Int) a h = warmY y j h := by simp [doY]
          rw [e]; exact h2
    · rw [if_neg k1] at hv
      by_cases k2 : k = 2
      · subst k2
        simp only [if_true, Bool.and_eq_true] at hv
        obtain ⟨b1, b2⟩ := lB_iff.1 hv.2
        obtain ⟨hj, e1, q⟩ := okP_at hy.ps rfl hv.1
        have hp := hv.1
        simp only [onP, decide_eq_true_eq] at hp
        obtain ⟨j, rfl⟩ : ∃ j : Nat, p = j := ⟨p.toNat, by omega⟩
        have hj2 : j < qs.length := by rw [← hlen]; simpa using hj
        have e2 := pip hj2 (by simp)
        rw [e2] at q
        refine (leak_any Bc Bp j qs y 2 a h W hj2 hC hps (by omega) q.sl (by have := q.le; have := q.r2; simp only [Qu.pp] at *; omega) ?_ b1 ?_ ?_).mono fun e W' h2 => yes (by simp [doErr, hv']) ?_
        · have := hea_le_heaP hy.ps j (by rw [hlen]; exact hj2)
          have e3 : y.ps[j]'(by rw [hlen]; exact hj2) = qs[j].pp := by simp [← hps]
          rw [e3] at this
          simp only [Qu.pp] at this
          have h4 := hy.th
          simp only [hA] at hcH; omega
        · have := hy.lv; have := hy.lv1; omega
        · have := hy.lh; have := hy.heat; have := hy.ch; have := (volP_nn hy.ps).2; have := hy.th; simp only [hA] at *; omega
        · have e : doY y 2 (j : Int) a h = leakY y j a := by simp [doY]
          rw [e]; exact h2
      · rw [if_neg k2] at hv
        by_cases k3 : k = 3
        · subst k3
          simp only [if_true, Bool.and_eq_true] at hv
          obtain ⟨b1, b2⟩ := lB_iff.1 hv.1
          obtain ⟨b3, b4⟩ := hB_iff.1 hv.2
          by_cases ht : 1048576 < y.t.v + a
          · exact (fill_limit Bc Bp qs y.t y.r 3 p a h W hC hy.t0 hy.t1 b1 b2 ht).mono fun e W' h2 => no 12 (by simp [doErr, hv', ht]) (by decide) h2
          · exact (fill_ok Bc Bp qs y.t y.r y.ps 3 p a h W hC hps hy.t0 b1 (by omega) b3 b4 hy.th hth hr).mono fun e W' h2 => yes (by simp [doErr, hv']; omega) (by simpa [doY, fillY] using h2)
        · rw [if_neg k3] at hv
          by_cases k4 : k = 4
          · subst k4
            rw [if_pos (.inl rfl)] at hv
            obtain ⟨b3, b4⟩ := hB_iff.1 hv
            by_cases ht : y.t.h < h
            · exact (chill_short Bc Bp qs y.t y.r 4 p a h W hC ht).mono fun e W' h2 => no 10 (by simp [doErr, hv', ht]) (by decide) h2
            · exact (chill_ok Bc Bp qs y.t y.r y.ps 4 p a h W hC hps b3 b4 (by omega) hth hr).mono fun e W' h2 => yes (by simp [doErr, hv']; omega) (by simpa [doY, chillY] using h2)
          · by_cases k5 : k = 5
            · subst k5
              rw [if_pos (.inr rfl)] at hv
              obtain ⟨b3, b4⟩ := hB_iff.1 hv
              exact (use_ok Bc Bp qs y.t y.r y.ps 5 p a h W hC hps b3 b4 hr).mono fun e W' h2 => yes (by simp [doErr, hv']) (by simpa [doY, useY] using h2)
            · rw [if_neg (by omega)] at hv; cases hv
end Go.Proofs.Ytjfopmjphiddiaa
/- An event happens. -/
namespace Go.Proofs.Ytjfopmjphiddiaa
open Go.RowKit Go.Shelf

def S33 (Bc Bp bs n : Nat) (k p a h : Int) (w : World) : Prop :=
  w.cell? ⟨bs, 0, none⟩ = some (.int .i64 k) ∧ w.cell? ⟨bs, 1, none⟩ = some (.int .i64 p) ∧ w.cell? ⟨bs, 2, none⟩ = some (.int .i64 a) ∧ w.cell? ⟨bs, 3, none⟩ = some (.int .i64 h) ∧ w.cell? ⟨Bc, 2, none⟩ = some (.slice (some ⟨Bp, 0, none⟩) n n)
theorem S33.below {Bc Bp bs n : Nat} {k p a h : Int} {w w' : World} (x : S33 Bc Bp bs n k p a h w) (hb : Below w.heap.size w w') : S33 Bc Bp bs n k p a h w' :=
  ⟨cell_below x.1 hb, cell_below x.2.1 hb, cell_below x.2.2.1 hb, cell_below x.2.2.2.1 hb, cell_below x.2.2.2.2 hb⟩
def HapPost (Bc Bp : Nat) (W : World) (qs : List Qu) (y : Yx) (k p a h : Int) (e : Ending) (W' : World) : Prop :=
  e = .returned (iv (doErr y k p a h)) ∧ ∃ qs', Mv Bc Bp W qs W' qs' ∧ (doErr y k p a h = 0 → HereT W' Bc Bp [] (doY y k p a h) qs')
theorem enters_fn (k : Int) (h0 : 0 ≤ k) (h6 : k < 6) : ∀ args w, (callFunc (fnOf k) args).run Try.prog w = .ok (.enter (fnOf k) args) w := by
  have hk : k = 0 ∨ k = 1 ∨ k = 2 ∨ k = 3 ∨ k = 4 ∨ k = 5 := by omega
  rcases hk with rfl | rfl | rfl | rfl | rfl | rfl
  · exact enters_of Try.func55 (by kernel_rfl) rfl
  · exact enters_of Try.func56 (by kernel_rfl) rfl
  · exact enters_of Try.func57 (by kernel_rfl) rfl
  · exact enters_of Try.func58 (by kernel_rfl) rfl
  · exact enters_of Try.func59 (by kernel_rfl) rfl
  · exact enters_of Try.func60 (by kernel_rfl) rfl
def PanicOr (Q : Exit → Act → World → Prop) (p : Value) (ds : List Deferred) (Rp : List PanicEntry → World → Prop) : Exit → Act → World → Prop
  | .normal, a, w => Q .normal a w
  | .panic ch, a, w => a.tmps[4]?.getD undef = p ∧ a.defers = ds ∧ Rp ch w
  | _, _, _ => False
theorem PanicOr.put {Q : Exit → Act → World → Prop} {p : Value} {ds : List Deferred} {Rp : List PanicEntry → World → Prop} {c : List PanicEntry} {a : Act} {w : World} {dst : Option Tmp} {v : Value}
    (h : PanicOr Q p ds Rp (.panic c) (a.put dst v) w) (hd : dst ≠ some 4) : PanicOr Q p ds Rp (.panic c) a w := by
  obtain ⟨h1, h2, h3⟩ := h
  cases dst with
  | none => exact ⟨h1, h2, h3⟩
  | some d =>
    have hne : d ≠ 4 := fun e => hd (by rw [e])
    refine ⟨?_, h2, h3⟩
    simp only [Act.put] at h1
    rwa [Array.getElem?_setIfInBounds_ne hne] at h1
theorem PanicOr.normal {Q : Exit → Act → World → Prop} {p : Value} {ds : List Deferred} {Rp : List PanicEntry → World → Prop} {a : Act} {w : World} (h : Q .normal a w) : PanicOr Q p ds Rp .normal a w := h
theorem panicOr_wp {P : Program} {c : Code} {Q : Exit → Act → World → Prop} {p : Value} {ds : List Deferred} {Rp : List PanicEntry → World → Prop} {a : Act} {w : World}
    (hp : ∀ ch a w, a.tmps[4]?.getD undef = p → a.defers = ds → Rp ch w → Q (.panic ch) a w) (h : c.wp P (PanicOr Q p ds Rp) a w) : c.wp P Q a w :=
  Code.wp_mono (fun e a w x => by
    cases e with
    | normal => exact x
    | panic ch => exact hp ch a w x.1 x.2.1 x.2.2
    | _ => exact x.elim) h
theorem leave_err {W : World} {Be : Nat} {x m : Int} {tmps : Array Value} {R : Ending → World → Prop} (hB : Has W Be 32 #[iv x]) (ht : tmps[4]?.getD undef = .pointer (some ⟨Be, 0, none⟩))
    (hR : R (.returned (iv m)) (W.setCell ⟨Be, 0, none⟩ (iv m))) :
    LeavesInM Fence.wide 3 Try.prog Try.f33 tmps R [{ target := .fn (.func 53) #[.pointer (some ⟨Be, 0, none⟩)], args := #[] }] (.panicking [{ v := errv m, recovered := false }]) W := by
  have hc6 : (W.setCell ⟨Be, 0, none⟩ (iv m)).cell? ⟨Be, 0, none⟩ = some (iv m) := (hB.set 0 (iv m)).cell 0
  refine ⟨by simp, .inr ⟨fun h => by simp [Fence.wide] at h, .func 53, _, 53, #[.pointer (some ⟨Be, 0, none⟩)], rfl, by simp [go_sem], fun _ _ => trivial, ?_⟩⟩
  refine (catch_err_in ⟨Be, 0, none⟩ (iv x) m [] _ _ (hB.cell 0) (hB.frozen 0)).mono ?_
  rintro e u' w' ⟨rfl, rfl, rfl⟩
  refine ⟨iv m, ?_, hR⟩
  simp [results, Try.results33, go_sem, ht, hc6]
theorem leave_fine {W : World} {Be : Nat} {x : Int} {tmps : Array Value} {R : Ending → World → Prop} (hB : Has W Be 32 #[iv x]) (ht : tmps[4]?.getD undef = .pointer (some ⟨Be, 0, none⟩)) (hR : R (.returned (iv x)) W) :
    LeavesInM Fence.wide 3 Try.prog Try.f33 tmps R [{ target := .fn (.func 53) #[.pointer (some ⟨Be, 0, none⟩)], args := #[] }] .returning W := by
  have hc : W.cell? ⟨Be, 0, none⟩ = some (iv x) := hB.cell 0
  refine ⟨by simp, .inr ⟨fun h => by simp [Fence.wide] at h, .func 53, _, 53, #[.pointer (some ⟨Be, 0, none⟩)], rfl, by simp [go_sem], fun _ _ => trivial, ?_⟩⟩
  refine (catch_none_in ⟨Be, 0, none⟩ _ _).mono ?_
  rintro e u' w' ⟨rfl, rfl, rfl⟩
  refine ⟨iv x, ?_, hR⟩
  simp [results, Try.results33, go_sem, ht, hc]

set_option maxRecDepth 100000 in
set_option maxHeartbeats 4000000 in
theorem happen_any (Bc Bp : Nat) (qs : List Qu) (y : Yx) (c : Nat) (k p a h : Int) (W : World) (hC : Circ W Bc Bp y.t qs y.r) (hps : qs.map Qu.pp = y.ps) (hy : YIn c y) (hc : c ≤ 256) :
    Calls Try.prog 33 #[.pointer (some ⟨Bc, 0, none⟩), evv k p a h] W (HapPost Bc Bp W qs y k p a h) := by
  have hlen : y.ps.length = qs.length := by rw [← hps]; simp
  have hl8 := hy.len
  have hS0 : (S33 Bc Bp W.heap.size qs.length k p a h) ((W.alloc (Obj.cells #[.int .i64 k, .int .i64 p, .int .i64 a, .int .i64 h] 56)).alloc (Obj.cells #[.int .i64 0] 32)).drew :=
    ⟨((Has.new W 56 _).alloc _).cell 0, ((Has.new W 56 _).alloc _).cell 1, ((Has.new W 56 _).alloc _).cell 2, ((Has.new W 56 _).alloc _).cell 3, ((hC.c.alloc _).alloc _).cell 2⟩
  have HS0 := Lib.hid hS0
  have hcl := hC.c.lt
  have HC := Lib.hid (And.intro hC (And.intro hps (And.intro hy (And.intro hc hlen))))
  have hn9 : qs.length ≤ 8 := by omega
  have hmf : ∀ (fn : Fn) (first cap : Array Value) (w : World), (Instr.makeFunc fn first cap).run Try.prog w = .ok (.func fn first cap) w := fun _ _ _ _ => rfl
  clear hS0 hC hps hy hc hlen hl8
  refine callsIn_wide.1 (callsIn_of_wp_marks (n := 3) Try.func33 rfl trivial ?_ rfl)
  refine wpIn_wide.2 ?_
  simp only [Try.ntmps33, List.size_toArray, List.length_cons, List.length_nil, Nat.reduceAdd, Nat.reduceSub, Array.replicate_succ, Array.replicate_zero, List.push_toArray, List.append_toArray, List.nil_append, List.cons_append]
  go_wp2
  refine wp_region_noPanic ?_
  refine wp_region_late (S33 Bc Bp W.heap.size qs.length k p a h) [] (by kernel_rfl) ?_
  refine wpLate_take (i := 0) (oi := ?oi0) (v := ?v0) [6, 7] ?hi0 (by kernel_rfl) (by kernel_rfl) (by kernel_rfl) (by kernel_rfl) (by kernel_rfl) ?hQ0 (Or.inl ⟨?hw0, ?hy0⟩) HS0.out ?rest0
  case hi0 => (simp only [List.getElem?_toArray, List.getElem?_cons_zero]; rfl)
  case hQ0 => exact fun _ _ _ h => h
  case hw0 => rfl
  case hy0 =>
    intro w' hSw
    obtain ⟨r0, r1, r2, r3, r4⟩ := hSw
    go_simp
    try exact rfl
  simp only [Act.put, List.setIfInBounds_toArray, List.set_cons_zero, List.set_cons_succ]
  refine wpLate_take (i := 1) (oi := ?oi1) (v := ?v1) [2, 3, 4, 5, 6, 7] ?hi1 (by kernel_rfl) (by kernel_rfl) (by kernel_rfl) (by kernel_rfl) (by kernel_rfl) ?hQ1 (Or.inl ⟨?hw1, ?hy1⟩) HS0.out ?rest1
  case hi1 => (simp only [List.getElem?_toArray, List.getElem?_cons_zero, List.getElem?_cons_succ]; rfl)
  case hQ1 => exact fun _ _ _ h => h
  case hw1 => rfl
  case hy1 =>
    intro w' hSw
    obtain ⟨r0, r1, r2, r3, r4⟩ := hSw
    go_simp
    try exact rfl
  simp only [Act.put, List.setIfInBounds_toArray, List.set_cons_zero, List.set_cons_succ]
  refine wpLate_take (i := 2) (oi := ?oi2) (v := ?v2) [3, 4, 5, 6, 7] ?hi2 (by kernel_rfl) (by kernel_rfl) (by kernel_rfl) (by kernel_rfl) (by kernel_rfl) ?hQ2 (Or.inl ⟨?hw2, ?hy2⟩) HS0.out ?rest2
  case hi2 => (simp only [List.getElem?_toArray, List.getElem?_cons_zero, List.getElem?_cons_succ]; rfl)
  case hQ2 => exact fun _ _ _ h => h
  case hw2 => rfl
  case hy2 =>
    intro w' hSw
    obtain ⟨r0, r1, r2, r3, r4⟩ := hSw
    go_simp
    try exact rfl
  simp only [Act.put, List.setIfInBounds_toArray, List.set_cons_zero, List.set_cons_succ]
  refine wpLate_take (i := 3) (oi := ?oi3) (v := ?v3) [4, 5, 6, 7] ?hi3 (by kernel_rfl) (by kernel_rfl) (by kernel_rfl) (by kernel_rfl) (by kernel_rfl) ?hQ3 (Or.inl ⟨?hw3, ?hy3⟩) HS0.out ?rest3
  case hi3 => (simp only [List.getElem?_toArray, List.getElem?_cons_zero, List.getElem?_cons_succ]; rfl)
  case hQ3 => exact fun _ _ _ h => h
  case hw3 => rfl
  case hy3 =>
    intro w' hSw
    obtain ⟨r0, r1, r2, r3, r4⟩ := hSw
    go_simp
    try exact rfl
  simp only [Act.put, List.setIfInBounds_toArray, List.set_cons_zero, List.set_cons_succ]
  refine wpLate_take (i := 4) (oi := ?oi4) (v := ?v4) [5, 6, 7] ?hi4 (by kernel_rfl) (by kernel_rfl) (by kernel_rfl) (by kernel_rfl) (by kernel_rfl) ?hQ4 (Or.inl ⟨?hw4, ?hy4⟩) HS0.out ?rest4
  case hi4 => (simp only [List.getElem?_toArray, List.getElem?_cons_zero, List.getElem?_cons_succ]; rfl)
  case hQ4 => exact fun _ _ _ h => h
  case hw4 => rfl
  case hy4 =>
    intro w' hSw
    obtain ⟨r0, r1, r2, r3, r4⟩ := hSw
    go_simp
    try exact rfl
  simp only [Act.put, List.setIfInBounds_toArray, List.set_cons_zero, List.set_cons_succ]
  refine wpLate_take (i := 5) (oi := ?oi5) (v := ?v5) [6, 7] ?hi5 (by kernel_rfl) (by kernel_rfl) (by kernel_rfl) (by kernel_rfl) (by kernel_rfl) ?hQ5 (Or.inl ⟨?hw5, ?hy5⟩) HS0.out ?rest5
  case hi5 => (simp only [List.getElem?_toArray, List.getElem?_cons_zero, List.getElem?_cons_succ]; rfl)
  case hQ5 => exact fun _ _ _ h => h
  case hw5 => rfl
  case hy5 =>
    intro w' hSw
    obtain ⟨r0, r1, r2, r3, r4⟩ := hSw
    go_simp
    try exact rfl
  simp only [Act.put, List.setIfInBounds_toArray, List.set_cons_zero, List.set_cons_succ]
  refine wpLate_one (i := 6) (o := ?o6) (by kernel_rfl) ?ho6 ?hk6
  case ho6 => (simp only [List.getElem?_toArray, List.getElem?_cons_zero, List.getElem?_cons_succ]; rfl)
  intro K hK
  go_simp
  refine (ve_any k p a h qs.length _).mono ?_
  rintro e w1 ⟨rfl, hb1⟩
  have hS1 := HS0.out.below hb1
  try (go_wp2_with fail)
  refine hK.out _ _ (fun _ => hS1) ?_
  clear hK K
  try simp only [Act.put, List.setIfInBounds_toArray, List.set_cons_zero, List.set_cons_succ]
  refine wpLate_one (i := 7) (o := ?o7) (by kernel_rfl) ?ho7 ?hk7
  case ho7 => (simp only [List.getElem?_toArray, List.getElem?_cons_zero, List.getElem?_cons_succ]; rfl)
  intro K hK
  go_simp
  refine hK.out _ _ (fun _ => hS1) ?_
  clear hK K
  try simp only [Act.put, List.setIfInBounds_toArray, List.set_cons_zero, List.set_cons_succ]
  refine wpLate_done (by kernel_rfl) ?_ _
  refine NoPanic.normal ?_
  try simp only [Act.put, List.setIfInBounds_toArray, List.set_cons_zero, List.set_cons_succ]
  have hbw : Below W.heap.size W ((W.alloc (Obj.cells #[.int .i64 k, .int .i64 p, .int .i64 a, .int .i64 h] 56)).alloc (Obj.cells #[.int .i64 0] 32)).drew := Below.drew (Below.alloc (Below.alloc (Below.refl _ _) (Nat.le_refl _) _) (by simp) _)
  have hb2 : Below W.heap.size W w1 := hbw.trans (hb1.mono hbw.size)
  have he1 : Has w1 (W.heap.size + 1) 32 #[iv 0] := (Has.drew (Has.newAt (w := W.alloc (Obj.cells #[.int .i64 k, .int .i64 p, .int .i64 a, .int .i64 h] 56)) (by simp))).below hb1 (by simp)
  have hsz := hb1.size
  simp only [World.size_drew, World.size_alloc] at hsz
  have e0 : w1.cell? ⟨W.heap.size + 1, 0, none⟩ = some (.int .i64 0) := he1.cell 0
  have ef := he1.frozen 0
  have hlt1 := he1.lt
  have K1 := Lib.hid (And.intro hb2 (And.intro he1 hS1))
  clear hbw hb2 he1 hb1 hS1 HS0
  cases hv : evOk k p a h qs.length
  · have hE : doErr y k p a h = 1 := by
      unfold doErr; rw [HC.out.2.2.2.2, hv]; rfl
    have HE := Lib.hid hE
    clear hE
    go_wp2
    refine ⟨iv 1, by simp [results, Try.results33, go_sem, e0], ?_⟩
    unfold HapPost
    rw [HE.out]
    exact ⟨rfl, qs, Mv.below (K1.out.1.setCell (by dsimp only; omega) _), fun h => by cases h⟩
  · go_wp2
    have hk : 0 ≤ k ∧ k < 6 := by
      unfold evOk at hv
      by_cases h1 : 0 ≤ k ∧ k < 6
      · exact h1
      · rw [if_neg (by omega), if_neg (by omega), if_neg (by omega), if_neg (by omega), if_neg (by omega)] at hv; cases hv
    have eg := enters_fn k hk.1 hk.2
    have hD := fun W1 (hb : Below W.heap.size W W1) => deed_any Bc Bp qs y c k p a h W1 (HC.out.1.below hb) HC.out.2.1 HC.out.2.2.1 HC.out.2.2.2.1 (by rw [HC.out.2.2.2.2]; exact hv)
    obtain ⟨f, hf⟩ : ∃ f, f = fnOf k := ⟨_, rfl⟩
    rw [← hf] at eg hD
    have hk0 := hk.1
    have hk6 := hk.2
    have hfc : (#[Value.func (Fn.func 55) #[] #[], Value.func (Fn.func 56) #[] #[], Value.func (Fn.func 57) #[] #[], Value.func (Fn.func 58) #[] #[], Value.func (Fn.func 59) #[] #[], Value.func (Fn.func 60) #[] #[]] : Array Value)[k.toNat]? = some (.func (.func f) #[] #[]) := by
      rw [hf]
      have hkk : k = 0 ∨ k = 1 ∨ k = 2 ∨ k = 3 ∨ k = 4 ∨ k = 5 := by omega
      rcases hkk with rfl | rfl | rfl | rfl | rfl | rfl <;> rfl
    have hS5 : (fun w : World => S33 Bc Bp W.heap.size qs.length k p a h w ∧ w.cell? ⟨w1.heap.size, k.toNat, none⟩ = some (.func (.func f) #[] #[])) (w1.alloc (Obj.cells #[Value.func (Fn.func 55) #[] #[], Value.func (Fn.func 56) #[] #[], Value.func (Fn.func 57) #[] #[], Value.func (Fn.func 58) #[] #[], Value.func (Fn.func 59) #[] #[], Value.func (Fn.func 60) #[] #[]] 93)).drew :=
      ⟨K1.out.2.2.below (Below.drew (below_one _ _)), ((Has.new w1 93 _).cell k.toNat).trans hfc⟩
    have HD := Lib.hid (And.intro hD (And.intro hf hk))
    clear hD hf hk hfc
    refine panicOr_wp (p := .pointer (some ⟨W.heap.size + 1, 0, none⟩)) (ds := [{ target := .fn (.func 53) #[.pointer (some ⟨W.heap.size + 1, 0, none⟩)], args := #[] }])
      (Rp := fun ch w => doErr y k p a h ≠ 0 ∧ ch = [{ v := errv (doErr y k p a h), recovered := false }] ∧ Below W.heap.size W w ∧ Has w (W.heap.size + 1) 32 #[iv 0]) ?hpan ?_
    case hpan =>
      rintro ch a' w' h1 h2 ⟨h3, rfl, h4, h5⟩
      show LeavesInM _ _ _ _ a'.tmps _ a'.defers _ _
      rw [h2]
      refine leave_err h5 h1 ⟨rfl, qs, Mv.below (h4.setCell (by dsimp only; omega) _), fun h => absurd h h3⟩
    refine wp_region_late (fun w : World => S33 Bc Bp W.heap.size qs.length k p a h w ∧ w.cell? ⟨w1.heap.size, k.toNat, none⟩ = some (.func (.func f) #[] #[])) [6] (by kernel_rfl) ?_
    refine wpLate_take (i := 0) (oi := ?coi0) (v := ?cv0) [1, 2, 3, 6] ?chi0 (by kernel_rfl) (by kernel_rfl) (by kernel_rfl) (by kernel_rfl) (by kernel_rfl) ?chQ0 (Or.inl ⟨?chw0, ?chy0⟩) hS5 ?crest0
    case chi0 => (simp only [List.getElem?_toArray, List.getElem?_cons_zero]; rfl)
    case chQ0 => exact fun _ _ _ h => h.put (by simp)
    case chw0 => rfl
    case chy0 =>
      intro w' hSw
      obtain ⟨⟨r0, r1, r2, r3, r4⟩, r5⟩ := hSw
      go_simp
      try exact rfl
    simp only [Act.put, List.setIfInBounds_toArray, List.set_cons_zero, List.set_cons_succ]
    refine wpLate_take (i := 1) (oi := ?coi1) (v := ?cv1) [2, 3, 6] ?chi1 (by kernel_rfl) (by kernel_rfl) (by kernel_rfl) (by kernel_rfl) (by kernel_rfl) ?chQ1 (Or.inl ⟨?chw1, ?chy1⟩) hS5 ?crest1
    case chi1 => (simp only [List.getElem?_toArray, List.getElem?_cons_zero, List.getElem?_cons_succ]; rfl)
    case chQ1 => exact fun _ _ _ h => h.put (by simp)
    case chw1 => rfl
    case chy1 =>
      intro w' hSw
      obtain ⟨⟨r0, r1, r2, r3, r4⟩, r5⟩ := hSw
      go_simp
      try exact rfl
    simp only [Act.put, List.setIfInBounds_toArray, List.set_cons_zero, List.set_cons_succ]
    refine wpLate_take (i := 2) (oi := ?coi2) (v := ?cv2) [3, 6] ?chi2 (by kernel_rfl) (by kernel_rfl) (by kernel_rfl) (by kernel_rfl) (by kernel_rfl) ?chQ2 (Or.inl ⟨?chw2, ?chy2⟩) hS5 ?crest2
    case chi2 => (simp only [List.getElem?_toArray, List.getElem?_cons_zero, List.getElem?_cons_succ]; rfl)
    case chQ2 => exact fun _ _ _ h => h.put (by simp)
    case chw2 => rfl
    case chy2 =>
      intro w' hSw
      obtain ⟨⟨r0, r1, r2, r3, r4⟩, r5⟩ := hSw
      go_simp
      try exact rfl
    simp only [Act.put, List.setIfInBounds_toArray, List.set_cons_zero, List.set_cons_succ]
    refine wpLate_take (i := 3) (oi := ?coi3) (v := ?cv3) [6] ?chi3 (by kernel_rfl) (by kernel_rfl) (by kernel_rfl) (by kernel_rfl) (by kernel_rfl) ?chQ3 (Or.inl ⟨?chw3, ?chy3⟩) hS5 ?crest3
    case chi3 => (simp only [List.getElem?_toArray, List.getElem?_cons_zero, List.getElem?_cons_succ]; rfl)
    case chQ3 => exact fun _ _ _ h => h.put (by simp)
    case chw3 => rfl
    case chy3 =>
      intro w' hSw
      obtain ⟨⟨r0, r1, r2, r3, r4⟩, r5⟩ := hSw
      go_simp
      try exact rfl
    simp only [Act.put, List.setIfInBounds_toArray, List.set_cons_zero, List.set_cons_succ]
    refine wpLate_take (i := 4) (oi := ?coi4) (v := ?cv4) [6] ?chi4 (by kernel_rfl) (by kernel_rfl) (by kernel_rfl) (by kernel_rfl) (by kernel_rfl) ?chQ4 (Or.inl ⟨?chw4, ?chy4⟩) hS5 ?crest4
    case chi4 => (simp only [List.getElem?_toArray, List.getElem?_cons_zero, List.getElem?_cons_succ]; rfl)
    case chQ4 => exact fun _ _ _ h => h.put (by simp)
    case chw4 => rfl
    case chy4 =>
      intro w' hSw
      obtain ⟨⟨r0, r1, r2, r3, r4⟩, r5⟩ := hSw
      go_simp
      try exact rfl
    simp only [Act.put, List.setIfInBounds_toArray, List.set_cons_zero, List.set_cons_succ]
    refine wpLate_take (i := 5) (oi := ?coi5) (v := ?cv5) [6] ?chi5 (by kernel_rfl) (by kernel_rfl) (by kernel_rfl) (by kernel_rfl) (by kernel_rfl) ?chQ5 (Or.inl ⟨?chw5, ?chy5⟩) hS5 ?crest5
    case chi5 => (simp only [List.getElem?_toArray, List.getElem?_cons_zero, List.getElem?_cons_succ]; rfl)
    case chQ5 => exact fun _ _ _ h => h.put (by simp)
    case chw5 => rfl
    case chy5 =>
      intro w' hSw
      obtain ⟨⟨r0, r1, r2, r3, r4⟩, r5⟩ := hSw
      go_simp
      try exact rfl
    simp only [Act.put, List.setIfInBounds_toArray, List.set_cons_zero, List.set_cons_succ]
    refine wpLate_one (i := 6) (o := ?c6) (by kernel_rfl) ?hc6 ?kc6
    case hc6 => (simp only [List.getElem?_toArray, List.getElem?_cons_zero, List.getElem?_cons_succ]; rfl)
    intro K hK
    go_simp
    have hbX : Below W.heap.size W (w1.alloc (Obj.cells #[Value.func (Fn.func 55) #[] #[], Value.func (Fn.func 56) #[] #[], Value.func (Fn.func 57) #[] #[], Value.func (Fn.func 58) #[] #[], Value.func (Fn.func 59) #[] #[], Value.func (Fn.func 60) #[] #[]] 93)).drew := Below.drew (K1.out.1.alloc (by omega) _)
    have hEX := Has.drew (K1.out.2.1.alloc (Obj.cells #[Value.func (Fn.func 55) #[] #[], Value.func (Fn.func 56) #[] #[], Value.func (Fn.func 57) #[] #[], Value.func (Fn.func 58) #[] #[], Value.func (Fn.func 59) #[] #[], Value.func (Fn.func 60) #[] #[]] 93))
    have nX : ∀ j, W.heap.size ≤ j → ¬ CS Bc Bp qs j := fun j hj h => by have := HC.out.1.lt h; omega
    refine (HD.out.1 _ hbX).mono ?_
    rintro e w2 (⟨h0, ⟨v, rfl⟩, qs', m1, m2⟩ | ⟨h0, rfl, hb⟩)
    · have hE2 : Has w2 (W.heap.size + 1) 32 #[iv 0] := hEX.only m1.only (nX _ (by omega))
      have x0 : w2.cell? ⟨W.heap.size + 1, 0, none⟩ = some (.int .i64 0) := hE2.cell 0
      have x1 := hE2.frozen 0
      have x2 := hE2.lt
      have hM2 : Mv Bc Bp W qs w2 qs' := (Mv.below hbX).trans m1 HC.out.1
      have nE : ¬ CS Bc Bp qs' (W.heap.size + 1) := m1.out hEX.lt (nX _ (by omega))
      have HF := Lib.hid (And.intro h0 (And.intro hM2 (And.intro m2 (And.intro hE2 nX))))
      clear h0 m1 m2 hM2 hE2 hbX hEX nX
      try (go_wp2_with fail)
      refine hK.out _ _ (fun h => absurd (show false = true from h) (by decide)) ?_
      clear hK K hS5 HD
      try simp only [Act.put, List.setIfInBounds_toArray, List.set_cons_zero, List.set_cons_succ]
      refine wpLate_done (by kernel_rfl) ?_ _
      refine PanicOr.normal ?_
      try simp only [Act.put, List.setIfInBounds_toArray, List.set_cons_zero, List.set_cons_succ]
      go_wp2
      obtain ⟨h0, hM2, m2, hE2, nX⟩ := HF.out
      refine leave_fine (hE2.set 0 (iv 0)) rfl ?_
      refine ⟨by rw [h0], qs', ?_, fun _ => ?_⟩
      · have h4 := hM2
        exact ⟨Only.setCell h4.only (.inr (by dsimp only; omega)) _, h4.own⟩
      · obtain ⟨tl, g1, g2, g3⟩ := m2
        refine ⟨tl, g1, g2, g3.only (S := fun k => k = W.heap.size + 1) ?_ ?_⟩
        · refine Only.setCell (Only.refl _ _) ?_ _
          exact .inl rfl
        · intro i hi e
          subst e
          exact nE hi
    · have hE2 : Has w2 (W.heap.size + 1) 32 #[iv 0] := hEX.below hb hEX.lt
      have hb3 : Below W.heap.size W w2 := hbX.trans (hb.mono hbX.size)
      go_simp
      exact ⟨rfl, rfl, rfl, hb3, hE2⟩
end Go.Proofs.Ytjfopmjphiddiaa
