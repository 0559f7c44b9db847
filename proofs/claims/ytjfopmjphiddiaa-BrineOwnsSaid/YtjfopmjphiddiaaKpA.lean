/- Litres and heat are conserved: as plain numbers. -/
import Derived.Test.YtjfopmjphiddiaaMgR
namespace Go.Proofs.Ytjfopmjphiddiaa
def qV (y : Yx) : Int := vA (y.ps, y.t) + y.r.s.lv - y.r.s.fv
def qH (y : Yx) : Int := hA (y.ps, y.t) + y.r.heat + y.r.s.lh + y.r.s.ai + y.r.s.us - y.r.s.fh - y.r.s.wa - y.r.s.bo
def Dry (t : Sl) : Prop := t.v = 0 → t.h = 0
theorem flow_dry (n : Nat) : ∀ (x : List Pp × Sl) (s : Sl), FOk x → okS s → x.1.length = n → Dry x.2 → Dry (flowN n x s).2 := by
  induction n with
  | zero =>
    rintro ⟨ps, t⟩ s hx hs hn hd h
    obtain rfl : ps = [] := List.eq_nil_of_length_eq_zero hn
    have := hs.1; have := hx.t0
    simp only [flowN, Sl.add] at *
    omega
  | succ n ih =>
    rintro ⟨ps, t⟩ s hx hs hn hd
    cases ps with
    | nil => simp at hn
    | cons p ps =>
      obtain ⟨p1, p2⟩ := okP_cons.1 hx.ps
      obtain ⟨e1, _⟩ := enter_ok p1 hs
      have fold : ∀ (l : List Sl) (x : List Pp × Sl), okL l → FOk x → x.1.length = n → Dry x.2 → Dry (l.foldl (flowN n) x).2 := by
        intro l
        induction l with
        | nil => intro x _ _ _ h; exact h
        | cons s l ihl =>
          intro x hl hx hn hd
          obtain ⟨l1, l2⟩ := okL_cons.1 hl
          obtain ⟨b1, b2, _, _, _⟩ := flow_ok n x s hx l1 hn
          exact ihl _ l2 b1 (by omega) (ih x s hx l1 hn hd)
      exact fold (p.outs s) (ps, t) e1 ⟨p2, hx.t0, hx.h0⟩ (by simpa using hn) hd
structure Cons (y z : Yx) : Prop where
  v : qV z = qV y
  h : qH z = qH y
  d : Dry y.t → Dry z.t
theorem cons_pump {c : Nat} {y : Yx} (h : YIn c y) {a : Int} (h1 : 1 ≤ a) (h3 : a ≤ y.t.v) : Cons y (pumpY y a) := by
  have hs0 : okS y.t := ⟨by omega, h.th⟩
  have hTO := takeO_ok hs0 h1 h3
  have hpb := part_bd hs0.2 (by omega : 0 ≤ a) hs0.1 h3
  have hFK : FOk (y.ps, takeR y.t a) := ⟨h.ps, by simp only [takeR]; omega, by simp only [takeR]; omega⟩
  obtain ⟨f1, f2, f3, f4, f5⟩ := flow_ok y.ps.length (y.ps, takeR y.t a) (takeO y.t a) hFK hTO rfl
  simp only [hA, vA, takeR, takeO] at f4 f5
  refine ⟨?_, ?_, fun hd => flow_dry _ _ _ hFK hTO rfl fun he => ?_⟩
  · simp only [qV, pumpY, toY, vA, takeR, takeO]; omega
  · simp only [qH, pumpY, toY, hA, takeR, takeO]; omega
  · simp only [takeR] at he ⊢
    have : a = y.t.v := by omega
    rw [this, Int.mul_ediv_cancel _ (by omega)]; omega
theorem cons_warm {c : Nat} {y : Yx} (h : YIn c y) {p w : Int} (hp : onP p y.ps.length = true) (h0 : 0 ≤ w) (hne : (pipeAt y p).l ≠ []) : Cons y (warmY y p.toNat w) := by
  obtain ⟨hj, e, q⟩ := okP_at h.ps rfl hp
  have e' : y.ps.getD p.toNat ⟨0, []⟩ = pipeAt y p := rfl
  obtain ⟨w1, w2, w3⟩ := warmL_ok q.sl hne h0
  have hs := heaP_set y.ps p.toNat hj ⟨(pipeAt y p).room, warmL w (pipeAt y p).l⟩
  rw [← e] at hs
  simp only at hs
  refine ⟨?_, ?_, fun hd => hd⟩
  · simp only [qV, warmY, vA, e', warmS]; omega
  · simp only [qH, warmY, hA, e', warmS]; omega
theorem cons_leak {c : Nat} {y : Yx} (h : YIn c y) {p a : Int} (hp : onP p y.ps.length = true) (h1 : 1 ≤ a) : Cons y (leakY y p.toNat a) := by
  obtain ⟨hj, e, q⟩ := okP_at h.ps rfl hp
  have e' : y.ps.getD p.toNat ⟨0, []⟩ = pipeAt y p := rfl
  have hvn := vol_nn q.sl
  obtain ⟨d1, d2, d3, d4, d5, d6⟩ := drain_ok _ q.sl (min a (vol (pipeAt y p).l)) (by omega) (by omega)
  have hs := heaP_set y.ps p.toNat hj ⟨(pipeAt y p).room, (drainL (pipeAt y p).l (min a (vol (pipeAt y p).l))).2⟩
  rw [← e] at hs
  simp only at hs
  refine ⟨?_, ?_, fun hd => hd⟩
  · simp only [qV, leakY, leakN, leakPs, leakR, vA, e']; omega
  · simp only [qH, leakY, leakN, leakPs, leakR, hA, e']; omega
theorem step_cons {c : Nat} {y : Yx} (h : YIn c y) {e : Ev} (he : errE y e = 0) : Cons y (doE y e) := by
  obtain ⟨k, p, a, w⟩ := e
  simp only [errE, doE] at he ⊢
  unfold doErr at he
  cases hv : evOk k p a w y.ps.length
  · rw [hv] at he; simp at he
  · rw [hv] at he
    simp only [Bool.true_eq_false, if_false] at he
    unfold evOk at hv
    unfold doY
    by_cases k0 : k = 0
    · rw [if_pos k0] at he hv ⊢
      obtain ⟨b1, b2⟩ := lB_iff.1 hv
      by_cases ht : y.t.v < a
      · rw [if_pos ht] at he; cases he
      · exact cons_pump h b1 (by omega)
    rw [if_neg k0] at he hv ⊢
    by_cases k1 : k = 1
    · rw [if_pos k1] at he hv ⊢
      simp only [Bool.and_eq_true] at hv
      by_cases hl : (pipeAt y p).l = []
      · rw [if_pos hl] at he; cases he
      · exact cons_warm h hv.1 (hB_iff.1 hv.2).1 hl
    rw [if_neg k1] at he hv ⊢
    by_cases k2 : k = 2
    · rw [if_pos k2] at hv ⊢
      simp only [Bool.and_eq_true] at hv
      exact cons_leak h hv.1 (lB_iff.1 hv.2).1
    rw [if_neg k2] at hv ⊢
    by_cases k3 : k = 3
    · rw [if_pos k3] at he hv ⊢
      simp only [Bool.and_eq_true] at hv
      have b1 := (lB_iff.1 hv.1).1
      have b2 := h.t0
      refine ⟨?_, ?_, fun hd hz => ?_⟩
      · simp only [qV, fillY, vA, Sl.add, fillS]; omega
      · simp only [qH, fillY, hA, Sl.add, fillS]; omega
      · simp only [fillY, Sl.add] at hz; omega
    rw [if_neg k3] at he hv ⊢
    by_cases k4 : k = 4
    · rw [if_pos k4] at he ⊢
      rw [if_pos (.inl k4)] at hv
      have b1 := (hB_iff.1 hv).1
      have b2 := h.th
      refine ⟨?_, ?_, fun hd hz => ?_⟩
      · simp only [qV, chillY, vA, chillS]
      · simp only [qH, chillY, hA, chillS]; omega
      · simp only [chillY] at hz ⊢
        have := hd hz
        by_cases ht : y.t.h < w
        · rw [if_pos ht] at he; cases he
        · omega
    rw [if_neg k4]
    refine ⟨?_, ?_, fun hd => hd⟩
    · simp only [qV, useY, vA, useS]
    · simp only [qH, useY, hA, useS]; omega
structure Whole (y z : Yx) : Prop where
  c : Cons y z
  room : z.ps.map Pp.room = y.ps.map Pp.room
  hroom : z.r.room = y.r.room
theorem bad_tail {y : Yx} {l : List Ev} (hb : bad y l = none) (k : Nat) : bad y (l.take k) = none := by
  induction l generalizing y k with
  | nil => simpa using hb
  | cons e l ih =>
    cases k with
    | zero => rfl
    | succ k =>
      simp only [List.take_succ_cons, bad] at hb ⊢
      by_cases he : errE y e = 0
      · rw [if_pos he, Option.map_eq_none_iff] at hb
        rw [if_pos he, Option.map_eq_none_iff]
        exact ih hb k
      · rw [if_neg he] at hb; cases hb
theorem evs_whole {y : Yx} {l : List Ev} (h : YIn 0 y) (hb : bad y l = none) (k : Nat) (hk : k ≤ l.length) : YIn k (evs y (l.take k)) ∧ Whole y (evs y (l.take k)) := by
  induction k with
  | zero => exact ⟨by simpa [evs] using h, ⟨rfl, rfl, fun h => h⟩, rfl, rfl⟩
  | succ k ih =>
    obtain ⟨i1, i2⟩ := ih (by omega)
    have hlt : k < l.length := by omega
    have h2 := (bad_take y l k hlt (bad_tail hb k)).1
    rw [bad_tail hb (k + 1)] at h2
    have he : errE (evs y (l.take k)) l[k] = 0 := by
      by_cases he : errE (evs y (l.take k)) l[k] = 0
      · exact he
      · rw [if_neg he] at h2; cases h2
    rw [evs_take y l k hlt]
    have st := step_ok i1 he
    have sc := step_cons i1 he
    exact ⟨st.ok, ⟨sc.v.trans i2.c.v, sc.h.trans i2.c.h, fun hd => sc.d (i2.c.d hd)⟩, st.room.trans i2.room, st.hroom.trans i2.hroom⟩
end Go.Proofs.Ytjfopmjphiddiaa
