/- The contract of Play. -/
import Derived.Test.YtogabjlhecnbbaaIceTake
import Derived.Test.YtogabjlhecnbbaaIceLearn
namespace Go.Proofs.Ytogabjlhecnbbaa
open Go.RowKit Go.Shelf

def playL : List Ev → List Zn × Sm → Nat → (List Zn × Sm) × Nat × Int
  | [], st, i => (st, i, 0)
  | e :: l, st, i => if (evDo e st).2 = 0 then playL l (evDo e st).1 (i + 1) else (st, i, (evDo e st).2)
structure PR where
  zs : List Zn
  s : Sm
  i : Int
  e : Int
  deriving DecidableEq
def playR (zs : List Zn) (l : List Ev) : PR :=
  if rinkOk zs = false then ⟨[], Sm.zero, 0, 1⟩
  else if 256 < l.length then ⟨[], Sm.zero, 0, 3⟩
  else if (playL l (zs, Sm.zero) 0).2.2 = 0 then ⟨(playL l (zs, Sm.zero) 0).1.1, (playL l (zs, Sm.zero) 0).1.2, l.length, 0⟩
  else ⟨[], Sm.zero, (playL l (zs, Sm.zero) 0).2.1, (playL l (zs, Sm.zero) 0).2.2⟩

theorem loopE_inv {e : Ev} (hk : 0 ≤ e.k ∧ e.k < 5) (hw : e.k = 4 ∨ win e.x e.y = true) : ∀ (n i : Nat) (st : List Zn × Sm) (c : Int), i + n ≤ st.1.length → (∀ z ∈ st.1, z.ok = true) → st.2.Bd c → (loopE e i n st).2 = 0 →
    (loopE e i n st).1.1.length = st.1.length ∧ (∀ z ∈ (loopE e i n st).1.1, z.ok = true) ∧ (loopE e i n st).1.2.Bd (c + 20000 * n)
  | 0, i, st, c, _, hz, hs, _ => ⟨rfl, hz, by simpa [loopE] using hs⟩
  | n + 1, i, st, c, hi, hz, hs, h0 => by
    unfold loopE at h0 ⊢
    by_cases he : zErr e (st.1.getD i zd) = 0
    · rw [if_pos he] at h0 ⊢
      obtain ⟨h1, h2, h3⟩ := loopE_bd_step (s := st.2) (by omega) hz hs hk hw he
      obtain ⟨g1, g2, g3⟩ := loopE_inv hk hw n (i + 1) (zStep e i st) (c + 20000) (by rw [h1]; omega) h2 h3 h0
      refine ⟨g1.trans h1, g2, ?_⟩
      rw [show c + 20000 * ((n + 1 : Nat) : Int) = c + 20000 + 20000 * n by omega]; exact g3
    · rw [if_neg he] at h0; exact absurd h0 he
theorem bd_mono {s : Sm} {c c' : Int} (h : s.Bd c) (hc : c ≤ c') : s.Bd c' := by unfold Sm.Bd at *; omega
theorem evDo_inv {e : Ev} {st : List Zn × Sm} {c : Int} (hl : st.1.length ≤ 24) (hz : ∀ z ∈ st.1, z.ok = true) (hs : st.2.Bd c) (h0 : (evDo e st).2 = 0) :
    (evDo e st).1.1.length = st.1.length ∧ (∀ z ∈ (evDo e st).1.1, z.ok = true) ∧ (evDo e st).1.2.Bd (c + 480000) := by
  unfold evDo at h0 ⊢
  cases hok : e.ok st.1.length
  · rw [hok] at h0; simp at h0
  · rw [hok, if_pos rfl] at h0
    rw [if_pos rfl]
    simp only [Ev.ok, Bool.and_eq_true, decide_eq_true_eq, Bool.or_eq_true] at hok
    have hlast : e.last < st.1.length := by unfold Ev.last; split <;> omega
    obtain ⟨h1, h2, h3⟩ := loopE_inv ⟨hok.1.1.1, hok.1.1.2.1⟩ hok.2 (e.last.toNat + 1 - e.f.toNat) e.f.toNat st c (by omega) hz hs h0
    exact ⟨h1, h2, bd_mono h3 (by omega)⟩

/-- events in a row of memory -/
def ERow (w : World) (B : Nat) (A : Option Addr) (es : List Ev) : Prop :=
  ∀ k (h : k < es.length), ∃ g o, A = some ⟨g, o, none⟩ ∧ g < B ∧ w.cell? ⟨g, o + k * 5, none⟩ = some (iv es[k].k) ∧ w.cell? ⟨g, o + k * 5 + 1, none⟩ = some (iv es[k].f) ∧
    w.cell? ⟨g, o + k * 5 + 2, none⟩ = some (iv es[k].t) ∧ w.cell? ⟨g, o + k * 5 + 3, none⟩ = some (iv es[k].x) ∧ w.cell? ⟨g, o + k * 5 + 4, none⟩ = some (iv es[k].y)

def PlayPost (R : PR) (w : World) (r : Ending) (w' : World) : Prop :=
  ∃ sl, r = .returned (.tuple #[sl, smv R.s, iv R.i, iv R.e]) ∧ Below w.heap.size w w' ∧
    ((R.e ≠ 0 ∧ sl = .slice none 0 0) ∨ (R.e = 0 ∧ ∃ B, w.heap.size ≤ B ∧ sl = .slice (some ⟨B, 0, none⟩) R.zs.length R.zs.length ∧ Has w' B 60 (flat R.zs)))
theorem playPost_bad {R : PR} {w w' : World} (hR : R.e ≠ 0) (hb : Below w.heap.size w w') : PlayPost R w (.returned (.tuple #[.slice none 0 0, smv R.s, iv R.i, iv R.e])) w' := ⟨_, rfl, hb, .inl ⟨hR, rfl⟩⟩

abbrev six (w : World) : World := w.alloc (.cells #[iv 0, iv 0, iv 0, iv 0, iv 0, iv 0] 29)
theorem six_below {w W : World} (h : Below w.heap.size w W) (a b c d e f : Value) : Below w.heap.size w ((((((W.setCell ⟨w.heap.size, 0, none⟩ a).setCell ⟨w.heap.size, 1, none⟩ b).setCell ⟨w.heap.size, 2, none⟩ c).setCell ⟨w.heap.size, 3, none⟩ d).setCell ⟨w.heap.size, 4, none⟩ e).setCell ⟨w.heap.size, 5, none⟩ f) :=
  (((((h.setCell (p := ⟨w.heap.size, 0, none⟩) (Nat.le_refl _) _).setCell (p := ⟨w.heap.size, 1, none⟩) (Nat.le_refl _) _).setCell (p := ⟨w.heap.size, 2, none⟩) (Nat.le_refl _) _).setCell (p := ⟨w.heap.size, 3, none⟩) (Nat.le_refl _) _).setCell (p := ⟨w.heap.size, 4, none⟩) (Nat.le_refl _) _).setCell (p := ⟨w.heap.size, 5, none⟩) (Nat.le_refl _) _
theorem ERow.below {w w' : World} {B : Nat} {A : Option Addr} {es : List Ev} (h : ERow w B A es) (hb : Below B w w') : ERow w' B A es := fun k hk => by
  obtain ⟨g, o, e, hg, c0, c1, c2, c3, c4⟩ := h k hk
  refine ⟨g, o, e, hg, ?_, ?_, ?_, ?_, ?_⟩ <;> rw [hb.cell (p := ⟨g, _, none⟩) hg] <;> assumption
theorem rink_parts {zs : List Zn} (h : rinkOk zs = true) : zs.length ≤ 24 ∧ 1 ≤ zs.length ∧ ∀ z ∈ zs, z.ok = true := by
  simp only [rinkOk, Bool.and_eq_true, decide_eq_true_eq, List.all_eq_true] at h
  exact ⟨h.1.2, h.1.1, h.2⟩
theorem playL_step {es : List Ev} {k : Nat} {st : List Zn × Sm} (h : k < es.length) : playL (es.drop k) st k = if (evDo es[k] st).2 = 0 then playL (es.drop (k + 1)) (evDo es[k] st).1 (k + 1) else (st, k, (evDo es[k] st).2) := by
  rw [List.drop_eq_getElem_cons h]; rfl

set_option maxRecDepth 100000 in
set_option maxHeartbeats 2000000 in
theorem play_any (zs : List Zn) (es : List Ev) (A : Option Addr) (cap : Nat) (A' : Option Addr) (cap' : Nat) (w : World) (hz : ZRow w w.heap.size A zs) (he : ERow w w.heap.size A' es) (hl : zs.length ≤ 9223372036854775807) (hl' : es.length ≤ 9223372036854775807) :
    Calls Try.prog 15 #[.slice A zs.length cap, .slice A' es.length cap'] w (PlayPost (playR zs es) w) := by
  have hb0 : Below w.heap.size w (six w) := below1 _ _
  have hz1 := (hz.below hb0).more hb0.size
  cases hr : rinkOk zs
  · have hR : Hid (playR zs es = ⟨[], Sm.zero, 0, 1⟩) := by show _ = _; simp [playR, hr]
    go_enter Try.func15, Try.ntmps15
    go_wp2_with fail
    refine (vr_any zs A cap _ hz1 hl).mono ?_
    rintro r wa ⟨rfl, hb⟩
    have h6 : Has wa w.heap.size 29 #[iv 0, iv 0, iv 0, iv 0, iv 0, iv 0] := (Has.new w 29 _).below hb (by simp)
    have c0 : wa.cell? ⟨w.heap.size, 0, none⟩ = some (iv 0) := h6.cell 0
    have c1 : wa.cell? ⟨w.heap.size, 1, none⟩ = some (iv 0) := h6.cell 1
    have c2 : wa.cell? ⟨w.heap.size, 2, none⟩ = some (iv 0) := h6.cell 2
    have c3 : wa.cell? ⟨w.heap.size, 3, none⟩ = some (iv 0) := h6.cell 3
    have c4 : wa.cell? ⟨w.heap.size, 4, none⟩ = some (iv 0) := h6.cell 4
    have c5 : wa.cell? ⟨w.heap.size, 5, none⟩ = some (iv 0) := h6.cell 5
    have f0 := h6.frozen 0
    have f1 := h6.frozen 1
    have f2 := h6.frozen 2
    have f3 := h6.frozen 3
    have f4 := h6.frozen 4
    have f5 := h6.frozen 5
    have hbb : Below w.heap.size w wa := below2 hb
    clear hb h6
    go_wp2_with fail
    refine bodyPost_ret (v := .tuple #[.slice none 0 0, smv Sm.zero, iv 0, iv 1]) (by simp [results, Try.results15, go_sem, c0, c1, c2, c3, c4, c5]) rfl ?_
    rw [hR.out]
    exact playPost_bad (R := ⟨[], Sm.zero, 0, 1⟩) (by decide) (six_below hbb _ _ _ _ _ _)
  by_cases hlong : 256 < es.length
  · have hR : Hid (playR zs es = ⟨[], Sm.zero, 0, 3⟩) := by show _ = _; simp [playR, hr, hlong]
    have hlong' : 256 < (es.length : Int) := by omega
    go_enter Try.func15, Try.ntmps15
    go_wp2_with fail
    refine (vr_any zs A cap _ hz1 hl).mono ?_
    rintro r wa ⟨rfl, hb⟩
    have h6 : Has wa w.heap.size 29 #[iv 0, iv 0, iv 0, iv 0, iv 0, iv 0] := (Has.new w 29 _).below hb (by simp)
    have c0 : wa.cell? ⟨w.heap.size, 0, none⟩ = some (iv 0) := h6.cell 0
    have c1 : wa.cell? ⟨w.heap.size, 1, none⟩ = some (iv 0) := h6.cell 1
    have c2 : wa.cell? ⟨w.heap.size, 2, none⟩ = some (iv 0) := h6.cell 2
    have c3 : wa.cell? ⟨w.heap.size, 3, none⟩ = some (iv 0) := h6.cell 3
    have c4 : wa.cell? ⟨w.heap.size, 4, none⟩ = some (iv 0) := h6.cell 4
    have c5 : wa.cell? ⟨w.heap.size, 5, none⟩ = some (iv 0) := h6.cell 5
    have f0 := h6.frozen 0
    have f1 := h6.frozen 1
    have f2 := h6.frozen 2
    have f3 := h6.frozen 3
    have f4 := h6.frozen 4
    have f5 := h6.frozen 5
    have hbb : Below w.heap.size w wa := below2 hb
    clear hb h6
    go_wp2_with fail
    refine bodyPost_ret (v := .tuple #[.slice none 0 0, smv Sm.zero, iv 0, iv 3]) (by simp [results, Try.results15, go_sem, c0, c1, c2, c3, c4, c5]) rfl ?_
    rw [hR.out]
    exact playPost_bad (R := ⟨[], Sm.zero, 0, 3⟩) (by decide) (six_below hbb _ _ _ _ _ _)
  have hlong' : (es.length : Int) ≤ 256 := by omega
  have hRp := rink_parts hr
  have HR := Lib.hid hRp
  have hzl : zs.length ≤ 24 := hRp.1
  clear hRp
  go_enter Try.func15, Try.ntmps15
  go_wp2_with fail
  refine (vr_any zs A cap _ hz1 hl).mono ?_
  rintro r wa ⟨rfl, hb⟩
  have h6 : Has wa w.heap.size 29 #[iv 0, iv 0, iv 0, iv 0, iv 0, iv 0] := (Has.new w 29 _).below hb (by simp)
  have hbb : Below w.heap.size w wa := below2 hb
  have H6 := Lib.hid h6
  clear hb h6 hb0 hz1
  go_wp2_with fail
  refine (learn_any zs A cap wa ((hz.below hbb).more hbb.size) HR.out.1).mono ?_
  rintro r wb ⟨rfl, hb, hK⟩
  have hK0 := Lib.hid hK
  have hbw : Below w.heap.size w wb := hbb.trans (hb.mono hbb.size)
  have h6b := H6.out.below hb H6.out.lt
  have H6b := Lib.hid h6b
  have hga : w.heap.size < wa.heap.size := H6.out.lt
  have hgb : wa.heap.size + 1 < wb.heap.size := hK.k.lt
  have HRk := Lib.hid hr
  clear hb hK h6b hbb hr H6
  go_wp2_with fail
  go_loopw [24] (fun t wr => ∃ (k : Nat) (st : List Zn × Sm), k ≤ es.length ∧ t = .int .i64 k ∧ Below w.heap.size w wr ∧ Has wr w.heap.size 29 #[iv 0, iv 0, iv 0, iv 0, iv 0, iv 0] ∧ KIn wr (wa.heap.size + 1) wa.heap.size st.1 st.2 ∧ st.1.length = zs.length ∧ (∀ z ∈ st.1, z.ok = true) ∧ st.2.Bd (480000 * k) ∧ playL es (zs, Sm.zero) 0 = playL (es.drop k) st k) (fun t _ => es.length - (intOf t).toNat)
  case atStart => exact ⟨0, (zs, Sm.zero), Nat.zero_le _, rfl, hbw, H6b.out, hK0.out, rfl, HR.out.2.2, by unfold Sm.Bd; simp, rfl⟩
  case round =>
    obtain ⟨k, st, hk, rfl, hb, h6, hK, hlen, hzo, hbd, hE⟩ := hrel
    have HE := Lib.hid (And.intro h6 (And.intro hK (And.intro hlen (And.intro hzo (And.intro hbd hE)))))
    have hwr : w.heap.size < wr.heap.size := h6.lt
    have hkr : wa.heap.size + 1 < wr.heap.size := hK.k.lt
    clear h6 hK hlen hzo hbd hE H6b hK0
    by_cases hlt : k < es.length
    · obtain ⟨g, o, rfl, hg, d0, d1, d2, d3, d4⟩ := he k hlt
      rw [← hb.cell (p := ⟨g, _, none⟩) hg] at d0 d1 d2 d3 d4
      have hgr : g < wr.heap.size := by omega
      go_wp2_with fail
      obtain ⟨h6, hK, hlen, hzo, hbd, hE⟩ := HE.out
      refine (take_any es[k] (wa.heap.size + 1) wa.heap.size st.1 st.2 (480000 * k) _ ⟨hK.k.alloc _, hK.z.alloc _, hK.ne⟩ (by omega) hzo hbd (by omega)).mono ?_
      rintro r wc ⟨rfl, ho, hKc⟩
      have hbc : Below w.heap.size w wc := (hb.alloc hb.size _).trans (ho.below (B := w.heap.size) (by simp; omega) (fun i hi => by omega))
      have h6c : Has wc w.heap.size 29 #[iv 0, iv 0, iv 0, iv 0, iv 0, iv 0] := (h6.alloc _).only ho (by omega)
      have hst := playL_step (st := st) hlt
      by_cases h0 : (evDo es[k] st).2 = 0
      · have hinv := evDo_inv (by omega) hzo hbd h0
        have HI := Lib.hid (And.intro hinv (And.intro (hKc h0) (And.intro hst (And.intro hlen hE))))
        have HC := Lib.hid (And.intro hbc h6c)
        rw [if_pos h0] at hst
        have hq : ((evDo es[k] (st.1, st.2)).2 != 0) = false := by simp [h0]
        have HS := Lib.hid hst
        clear hinv hKc hst hlen hE h6 hK hzo hbd HE d0 d1 d2 d3 d4 ho hbc h6c
        have H0 := Lib.hid h0
        clear h0
        go_wp2_with fail
        go_roundw
        case rel =>
          obtain ⟨⟨i1, i2, i3⟩, hKc, hst, hlen, hE⟩ := HI.out
          refine ⟨k + 1, (evDo es[k] st).1, by omega, by go_num, HC.out.1, HC.out.2, hKc, by rw [i1, hlen], i2, ?_, ?_⟩
          · rw [show (480000 : Int) * ((k + 1 : Nat) : Int) = 480000 * k + 480000 by omega]; exact i3
          · rw [hE, HS.out]
        case measure => simp [intOf]; omega
      · rw [if_neg h0] at hst
        have hR : Hid (playR zs es = ⟨[], Sm.zero, k, (evDo es[k] st).2⟩) := by
          show _ = _
          simp only [playR, HRk.out]
          rw [if_neg (by simp), if_neg hlong, hE, hst]
          simp only
          rw [if_neg h0]
        have hq : ((evDo es[k] (st.1, st.2)).2 != 0) = true := by simp [h0]
        have c0 : wc.cell? ⟨w.heap.size, 0, none⟩ = some (iv 0) := h6c.cell 0
        have c1 : wc.cell? ⟨w.heap.size, 1, none⟩ = some (iv 0) := h6c.cell 1
        have c2 : wc.cell? ⟨w.heap.size, 2, none⟩ = some (iv 0) := h6c.cell 2
        have c3 : wc.cell? ⟨w.heap.size, 3, none⟩ = some (iv 0) := h6c.cell 3
        have c4 : wc.cell? ⟨w.heap.size, 4, none⟩ = some (iv 0) := h6c.cell 4
        have c5 : wc.cell? ⟨w.heap.size, 5, none⟩ = some (iv 0) := h6c.cell 5
        have f0 := h6c.frozen 0
        have f1 := h6c.frozen 1
        have f2 := h6c.frozen 2
        have f3 := h6c.frozen 3
        have f4 := h6c.frozen 4
        have f5 := h6c.frozen 5
        have H0 := Lib.hid h0
        clear hKc hst hlen hE h6 hK hzo hbd HE d0 d1 d2 d3 d4 ho h6c h0
        go_wp2_with fail
        refine bodyPost_ret (v := .tuple #[.slice none 0 0, smv Sm.zero, iv k, iv (evDo es[k] (st.1, st.2)).2]) (by simp [results, Try.results15, go_sem, c0, c1, c2, c3, c4, c5]) rfl ?_
        rw [hR.out]
        exact playPost_bad (R := ⟨[], Sm.zero, k, (evDo es[k] st).2⟩) H0.out (six_below hbc _ _ _ _ _ _)
    · go_wp2_with fail
      have s0 : wr.cell? ⟨wa.heap.size + 1, 1, none⟩ = some (iv st.2.f1) := HE.out.2.1.k.cell 1
      have s1 : wr.cell? ⟨wa.heap.size + 1, 2, none⟩ = some (iv st.2.f2) := HE.out.2.1.k.cell 2
      have s2 : wr.cell? ⟨wa.heap.size + 1, 3, none⟩ = some (iv st.2.p1) := HE.out.2.1.k.cell 3
      have s3 : wr.cell? ⟨wa.heap.size + 1, 4, none⟩ = some (iv st.2.p2) := HE.out.2.1.k.cell 4
      have s4 : wr.cell? ⟨wa.heap.size + 1, 5, none⟩ = some (iv st.2.w1) := HE.out.2.1.k.cell 5
      have s5 : wr.cell? ⟨wa.heap.size + 1, 6, none⟩ = some (iv st.2.w2) := HE.out.2.1.k.cell 6
      go_region_with ((go_at_call 40; refine (rink_any (wa.heap.size + 1) wa.heap.size st.1 st.2 _ ⟨HE.out.2.1.k.drew, HE.out.2.1.z.drew, HE.out.2.1.ne⟩ (by have := HE.out.2.2.1; omega)).mono ?_; rintro r wd ⟨rfl, hd, hrk⟩; have t0 : wd.cell? ⟨wa.heap.size + 1, 1, none⟩ = some (iv st.2.f1) := (HE.out.2.1.k.drew.below hd HE.out.2.1.k.lt).cell 1; have t1 : wd.cell? ⟨wa.heap.size + 1, 2, none⟩ = some (iv st.2.f2) := (HE.out.2.1.k.drew.below hd HE.out.2.1.k.lt).cell 2; have t2 : wd.cell? ⟨wa.heap.size + 1, 3, none⟩ = some (iv st.2.p1) := (HE.out.2.1.k.drew.below hd HE.out.2.1.k.lt).cell 3; have t3 : wd.cell? ⟨wa.heap.size + 1, 4, none⟩ = some (iv st.2.p2) := (HE.out.2.1.k.drew.below hd HE.out.2.1.k.lt).cell 4; have t4 : wd.cell? ⟨wa.heap.size + 1, 5, none⟩ = some (iv st.2.w1) := (HE.out.2.1.k.drew.below hd HE.out.2.1.k.lt).cell 5; have t5 : wd.cell? ⟨wa.heap.size + 1, 6, none⟩ = some (iv st.2.w2) := (HE.out.2.1.k.drew.below hd HE.out.2.1.k.lt).cell 6; have c0 : wd.cell? ⟨w.heap.size, 0, none⟩ = some (iv 0) := (HE.out.1.drew.below hd HE.out.1.lt).cell 0; have c1 : wd.cell? ⟨w.heap.size, 1, none⟩ = some (iv 0) := (HE.out.1.drew.below hd HE.out.1.lt).cell 1; have c2 : wd.cell? ⟨w.heap.size, 2, none⟩ = some (iv 0) := (HE.out.1.drew.below hd HE.out.1.lt).cell 2; have c3 : wd.cell? ⟨w.heap.size, 3, none⟩ = some (iv 0) := (HE.out.1.drew.below hd HE.out.1.lt).cell 3; have c4 : wd.cell? ⟨w.heap.size, 4, none⟩ = some (iv 0) := (HE.out.1.drew.below hd HE.out.1.lt).cell 4; have c5 : wd.cell? ⟨w.heap.size, 5, none⟩ = some (iv 0) := (HE.out.1.drew.below hd HE.out.1.lt).cell 5; have f0 : wd.frozen? ⟨w.heap.size, 0, none⟩ = false := (HE.out.1.drew.below hd HE.out.1.lt).frozen 0; have f1 : wd.frozen? ⟨w.heap.size, 1, none⟩ = false := (HE.out.1.drew.below hd HE.out.1.lt).frozen 1; have f2 : wd.frozen? ⟨w.heap.size, 2, none⟩ = false := (HE.out.1.drew.below hd HE.out.1.lt).frozen 2; have f3 : wd.frozen? ⟨w.heap.size, 3, none⟩ = false := (HE.out.1.drew.below hd HE.out.1.lt).frozen 3; have f4 : wd.frozen? ⟨w.heap.size, 4, none⟩ = false := (HE.out.1.drew.below hd HE.out.1.lt).frozen 4; have f5 : wd.frozen? ⟨w.heap.size, 5, none⟩ = false := (HE.out.1.drew.below hd HE.out.1.lt).frozen 5))
      all_goals
        have hR : Hid (playR zs es = ⟨st.1, st.2, es.length, 0⟩) := by
          show _ = _
          have hE := HE.out.2.2.2.2.2
          rw [show es.drop k = [] from List.drop_eq_nil_of_le (by omega)] at hE
          simp only [playR, HRk.out]
          rw [if_neg (by simp), if_neg hlong, hE]
          simp [playL]
        have hbd : Below w.heap.size w wd := hb.drew.trans (hd.mono hb.size)
        clear s0 s1 s2 s3 s4 s5
        go_wp2
        refine bodyPost_ret (v := .tuple #[.slice (some ⟨wr.heap.size, 0, none⟩) st.1.length st.1.length, smv st.2, iv es.length, iv 0]) (by simp [results, Try.results15, go_sem, c0, c1, c2, c3, c4, c5]) rfl ?_
        rw [hR.out]
        refine ⟨_, rfl, six_below hbd _ _ _ _ _ _, .inr ⟨rfl, wr.heap.size, hb.size, rfl, ?_⟩⟩
        have hne : wr.heap.size ≠ w.heap.size := by omega
        exact (((((hrk.far (p := ⟨w.heap.size, 0, none⟩) hne _).far (p := ⟨w.heap.size, 1, none⟩) hne _).far (p := ⟨w.heap.size, 2, none⟩) hne _).far (p := ⟨w.heap.size, 3, none⟩) hne _).far (p := ⟨w.heap.size, 4, none⟩) hne _).far (p := ⟨w.heap.size, 5, none⟩) hne _
end Go.Proofs.Ytogabjlhecnbbaa
