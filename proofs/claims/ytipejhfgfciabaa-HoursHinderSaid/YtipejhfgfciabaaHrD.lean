/- Contracts: give, start. -/
import Derived.Test.YtipejhfgfciabaaHrC
import Derived.Test.YtipejhfgfciabaaCls
namespace Go.Proofs.Ytipejhfgfciabaa
open Go.RowKit
/-- a place that can be -/
structure VP (x : Tt) (p : Pl) : Prop where
  l : p.given.length = 5
  h : p.hour ≤ x.H.length
  g : ∀ i, i < 5 → 0 ≤ p.given.getD i 0 ∧ p.given.getD i 0 ≤ 12
  last : -1 ≤ p.last ∧ p.last ≤ 4
abbrev plc (p : Pl) : Array Value := #[.int .i64 p.hour, .int .i64 p.last, .int .i64 (p.given[0]?.getD 0), .int .i64 (p.given[1]?.getD 0), .int .i64 (p.given[2]?.getD 0), .int .i64 (p.given[3]?.getD 0), .int .i64 (p.given[4]?.getD 0)]
def plv (p : Pl) : Value := .agg (plc p)
theorem plc_get {p : Pl} {i : Nat} (h : i < 5) : (plc p)[2 + i]? = some (.int .i64 (p.given.getD i 0)) := by
  match i, h with
  | 0, _ => rfl
  | 1, _ => rfl
  | 2, _ => rfl
  | 3, _ => rfl
  | 4, _ => rfl
theorem plc_set {p : Pl} {i : Nat} (h5 : p.given.length = 5) (h : i < 5) (v : Int) : (plc p).setIfInBounds (2 + i) (.int .i64 v) = plc { p with given := p.given.set i v } := by
  obtain ⟨hr, la, gv⟩ := p
  match gv, h5 with
  | [a, b, c, d, e], _ =>
    match i, h with
    | 0, _ => rfl
    | 1, _ => rfl
    | 2, _ => rfl
    | 3, _ => rfl
    | 4, _ => rfl
/-- what give has boxed -/
structure GB (W w : World) (x : Tt) (AH AG : Option Addr) (ch cg : Nat) (p q : Pl) : Prop where
  b : Below W.heap.size W w
  fx : Has w W.heap.size 25 (ttc x AH AG ch cg)
  fp : Has w (W.heap.size + 1) 75 (plc p)
  fr : Has w (W.heap.size + 1 + 1) 75 (plc q)
theorem GB.step {W w w' : World} {x : Tt} {AH AG : Option Addr} {ch cg : Nat} {p q : Pl} (h : GB W w x AH AG ch cg p q) (hb : Below w.heap.size w w') : GB W w' x AH AG ch cg p q :=
  ⟨h.b.trans (hb.mono h.b.size), h.fx.below hb h.fx.lt, h.fp.below hb h.fp.lt, h.fr.below hb h.fr.lt⟩
theorem GB.drew {W w : World} {x : Tt} {AH AG : Option Addr} {ch cg : Nat} {p q : Pl} (h : GB W w x AH AG ch cg p q) : GB W w.drew x AH AG ch cg p q := ⟨⟨h.b.os, h.b.tape, h.b.output, h.b.size, h.b.block⟩, h.fx.drew, h.fp.drew, h.fr.drew⟩
theorem GB.drewN {W w : World} {x : Tt} {AH AG : Option Addr} {ch cg : Nat} {p q : Pl} (h : GB W w x AH AG ch cg p q) (n : Nat) : GB W (w.drewN n) x AH AG ch cg p q := ⟨below_drN h.b n, h.fx.drewN n, h.fp.drewN n, h.fr.drewN n⟩
theorem GB.setP {W w : World} {x : Tt} {AH AG : Option Addr} {ch cg : Nat} {p q : Pl} (h : GB W w x AH AG ch cg p q) (i : Nat) (v : Value) (p' : Pl) (hp : (plc p).setIfInBounds i v = plc p') : GB W (w.setCell ⟨W.heap.size + 1, i, none⟩ v) x AH AG ch cg p' q :=
  ⟨h.b.setCell (by simp only; omega) _, h.fx.far (by simp) _, hp ▸ h.fp.set i v, h.fr.far (by simp) _⟩
def set7 (w : World) (D : Nat) (a b c d e f g : Value) : World := ((((((w.setCell ⟨D, 0, none⟩ a).setCell ⟨D, 1, none⟩ b).setCell ⟨D, 2, none⟩ c).setCell ⟨D, 3, none⟩ d).setCell ⟨D, 4, none⟩ e).setCell ⟨D, 5, none⟩ f).setCell ⟨D, 6, none⟩ g
theorem has_set7 {w : World} {D : Nat} {t : TypeId} {a b c d e f g a' b' c' d' e' f' g' : Value} (h : Has w D t #[a, b, c, d, e, f, g]) : Has (set7 w D a' b' c' d' e' f' g') D t #[a', b', c', d', e', f', g'] := by
  have h1 : Has (w.setCell ⟨D, 0, none⟩ a') D t #[a', b, c, d, e, f, g] := h.set 0 a'
  have h2 : Has ((w.setCell ⟨D, 0, none⟩ a').setCell ⟨D, 1, none⟩ b') D t #[a', b', c, d, e, f, g] := h1.set 1 b'
  have h3 : Has (((w.setCell ⟨D, 0, none⟩ a').setCell ⟨D, 1, none⟩ b').setCell ⟨D, 2, none⟩ c') D t #[a', b', c', d, e, f, g] := h2.set 2 c'
  have h4 : Has ((((w.setCell ⟨D, 0, none⟩ a').setCell ⟨D, 1, none⟩ b').setCell ⟨D, 2, none⟩ c').setCell ⟨D, 3, none⟩ d') D t #[a', b', c', d', e, f, g] := h3.set 3 d'
  have h5 : Has (((((w.setCell ⟨D, 0, none⟩ a').setCell ⟨D, 1, none⟩ b').setCell ⟨D, 2, none⟩ c').setCell ⟨D, 3, none⟩ d').setCell ⟨D, 4, none⟩ e') D t #[a', b', c', d', e', f, g] := h4.set 4 e'
  have h6 : Has ((((((w.setCell ⟨D, 0, none⟩ a').setCell ⟨D, 1, none⟩ b').setCell ⟨D, 2, none⟩ c').setCell ⟨D, 3, none⟩ d').setCell ⟨D, 4, none⟩ e').setCell ⟨D, 5, none⟩ f') D t #[a', b', c', d', e', f', g] := h5.set 5 f'
  have h7 : Has (((((((w.setCell ⟨D, 0, none⟩ a').setCell ⟨D, 1, none⟩ b').setCell ⟨D, 2, none⟩ c').setCell ⟨D, 3, none⟩ d').setCell ⟨D, 4, none⟩ e').setCell ⟨D, 5, none⟩ f').setCell ⟨D, 6, none⟩ g') D t #[a', b', c', d', e', f', g'] := h6.set 6 g'
  exact h7
theorem has_set7_far {w : World} {D k : Nat} {t : TypeId} {cs : Array Value} {a b c d e f g : Value} (h : Has w k t cs) (hg : k ≠ D) : Has (set7 w D a b c d e f g) k t cs :=
  ((((((h.far (p := ⟨D, 0, none⟩) hg _).far (p := ⟨D, 1, none⟩) hg _).far (p := ⟨D, 2, none⟩) hg _).far (p := ⟨D, 3, none⟩) hg _).far (p := ⟨D, 4, none⟩) hg _).far (p := ⟨D, 5, none⟩) hg _).far (p := ⟨D, 6, none⟩) hg _
theorem below_set7 {W w : World} {D B : Nat} {a b c d e f g : Value} (h : Below B W w) (hD : B ≤ D) : Below B W (set7 w D a b c d e f g) := ((((((h.setCell hD _).setCell hD _).setCell hD _).setCell hD _).setCell hD _).setCell hD _).setCell hD _
def putP (w : World) (D : Nat) (q : Pl) : World := set7 w D (.int .i64 q.hour) (.int .i64 q.last) (.int .i64 (q.given[0]?.getD 0)) (.int .i64 (q.given[1]?.getD 0)) (.int .i64 (q.given[2]?.getD 0)) (.int .i64 (q.given[3]?.getD 0)) (.int .i64 (q.given[4]?.getD 0))
theorem has_putP {w : World} {D : Nat} {q : Pl} (p : Pl) (h : Has w D 75 (plc q)) : Has (putP w D p) D 75 (plc p) := has_set7 h
theorem has_putP_far {w : World} {D g : Nat} {t : TypeId} {cs : Array Value} (p : Pl) (h : Has w g t cs) (hg : g ≠ D) : Has (putP w D p) g t cs := has_set7_far h hg
theorem below_putP {W w : World} {D : Nat} {B : Nat} (p : Pl) (h : Below B W w) (hD : B ≤ D) : Below B W (putP w D p) := below_set7 h hD
theorem GB.putR {W w : World} {x : Tt} {AH AG : Option Addr} {ch cg : Nat} {p q : Pl} (h : GB W w x AH AG ch cg p q) (q' : Pl) : GB W (putP w (W.heap.size + 1 + 1) q') x AH AG ch cg p q' :=
  ⟨below_putP q' h.b (by omega), has_putP_far q' h.fx (by omega), has_putP_far q' h.fp (by omega), has_putP q' h.fr⟩
theorem box_gb (W : World) (x : Tt) (AH AG : Option Addr) (ch cg : Nat) (p : Pl) : GB W (((W.alloc (.cells (ttc x AH AG ch cg) 25)).alloc (.cells (plc p) 75)).alloc (.cells (plc zeroP) 75)) x AH AG ch cg p zeroP :=
  ⟨((below_one W _).alloc (by simp) _).alloc (by simp; omega) _, ((Has.new _ _ _).alloc _).alloc _, (has_newAt (by simp)).alloc _, has_newAt (by simp)⟩
theorem res41 {w : World} {D : Nat} {a b c d e f g r : Value} {tmps : Array Value} (h : Has w D 75 #[a, b, c, d, e, f, g]) (h6 : tmps[6]?.getD undef = .pointer (some ⟨D, 0, none⟩)) (h7 : tmps[7]?.getD undef = r) :
    (results Try.f41 tmps).run Try.prog w = .ok (.tuple #[.agg #[a, b, c, d, e, f, g], r]) w := by
  have c0 := h.cell 0; have c1 := h.cell 1; have c2 := h.cell 2; have c3 := h.cell 3; have c4 := h.cell 4; have c5 := h.cell 5; have c6 := h.cell 6
  simp at c0 c1 c2 c3 c4 c5 c6
  simp [results, Try.results41, go_sem, h6, h7, c0, c1, c2, c3, c4, c5, c6]
/-- a place and an error -/
def PlPost (r : Int × Pl) (W : World) (e : Ending) (W' : World) : Prop := e = .returned (.tuple #[plv r.2, .int .i64 r.1]) ∧ Below W.heap.size W W'
theorem nxt_of {x : Tt} {p : Pl} {g : Nat} (hg : g < x.G.length) (hh : p.hour < x.H.length) : giveR x p g = if mayB x.G[g] x.H[p.hour] = false then (11, zeroP) else if x.G[g].most ≤ p.given.getD g 0 then (12, zeroP) else if p.last ≠ -1 ∧ p.last ≠ g then (6, zeroP) else (0, ⟨p.hour + 1, if tightB x p.hour then g else -1, p.given.set g (p.given.getD g 0 + 1)⟩) := by
  unfold giveR
  rw [if_neg (by omega)]
  simp only [Int.toNat_natCast]
  rw [List.getElem?_eq_getElem hg, List.getElem?_eq_getElem hh]
set_option maxRecDepth 100000 in
set_option maxHeartbeats 1000000 in
theorem give_free_any (x : Tt) (AH AG : Option Addr) (ch cg : Nat) (p : Pl) (W : World) (hp : VP x p) (hn : x.H.length ≤ 12) : Calls Try.prog 41 #[ttv x AH AG ch cg, plv p, .int .i64 (-1)] W (PlPost (giveR x p (-1)) W) := by
  have HB := Lib.hid (box_gb W x AH AG ch cg p)
  have HG := Lib.hid (give_free x p)
  have hh := hp.h
  unfold ttv plv
  go_enter Try.func41, Try.ntmps41
  go_wp2_with fail
  refine bodyPost_ret (v := .tuple #[.agg #[.int .i64 ((p.hour : Int) + 1), .int .i64 (-1), .int .i64 (p.given[0]?.getD 0), .int .i64 (p.given[1]?.getD 0), .int .i64 (p.given[2]?.getD 0), .int .i64 (p.given[3]?.getD 0), .int .i64 (p.given[4]?.getD 0)], .int .i64 0]) (by simp [results, Try.results41, go_sem]) rfl ?_
  rw [HG.out]
  exact ⟨rfl, ((below_one W _).alloc (by simp) _).alloc (by simp; omega) _⟩
set_option maxRecDepth 100000 in
set_option maxHeartbeats 1000000 in
theorem give_any (x : Tt) (AH AG : Option Addr) (ch cg : Nat) (p : Pl) (g : Nat) (W : World) (hr : TR W W.heap.size x AH AG) (hv : VT x) (hp : VP x p) (hg : g < x.G.length) (hh : p.hour < x.H.length) :
    Calls Try.prog 41 #[ttv x AH AG ch cg, plv p, .int .i64 g] W (PlPost (giveR x p g) W) := by
  have hgn := nxt_of hg hh
  obtain ⟨ga, oa, ea, hga, hca⟩ := hr.h p.hour hh
  obtain ⟨gb, ob, eb, hgb, hcb⟩ := hr.g g hg
  have va := hv.h _ (List.getElem_mem hh)
  have vb := hv.g _ (List.getElem_mem hg)
  have hg5 : g < 5 := by have := hv.ng; omega
  have hh12 : p.hour < 12 := by have := hv.nh; omega
  have gp := hp.g g hg5
  have hla := hp.last
  have HV := Lib.hid (And.intro hv (And.intro hr hh))
  have HL5 := Lib.hid (And.intro hp.l hg5)
  obtain ⟨a, hA⟩ : ∃ a, a = x.H[p.hour] := ⟨_, rfl⟩
  obtain ⟨b, hB⟩ : ∃ b, b = x.G[g] := ⟨_, rfl⟩
  rw [← hA] at hca va hgn
  rw [← hB] at hcb vb hgn
  have HM := Lib.hid (fun w => mayHave_any b a w vb.1 va.1)
  unfold hrv grv at HM
  obtain ⟨p1, hp1⟩ : ∃ q : Pl, q = { p with hour := p.hour + 1 } := ⟨_, rfl⟩
  have HB := Lib.hid (hp1 ▸ box_gb W x AH AG ch cg { p with hour := p.hour + 1 })
  have CA : Hid (∀ w, Below W.heap.size W w → ∀ j, j < 3 → w.cell? ⟨ga, oa + p.hour * 3 + j, none⟩ = (hrc a)[j]?) := fun w hb j hj => (hb.cell (p := ⟨ga, _, none⟩) hga).trans (hca j hj)
  have CB : Hid (∀ w, Below W.heap.size W w → ∀ j, j < 5 → w.cell? ⟨gb, ob + g * 5 + j, none⟩ = (grc b)[j]?) := fun w hb j hj => (hb.cell (p := ⟨gb, _, none⟩) hgb).trans (hcb j hj)
  have HG := Lib.hid hgn
  have hnh := hr.lh
  have hng := hr.lg
  have HEA := Lib.hid (And.intro ea eb)
  subst ea eb
  clear hA hB hca hcb hga hgb hr hv hp hgn
  unfold ttv plv
  go_enter Try.func41, Try.ntmps41
  go_upto_region 6 with fail
  have HB : Hid (GB W (((W.alloc (.cells (ttc x (some ⟨ga, oa, none⟩) (some ⟨gb, ob, none⟩) ch cg) 25)).alloc (.cells #[.int .i64 ((p.hour : Int) + 1), .int .i64 p.last, .int .i64 (p.given[0]?.getD 0), .int .i64 (p.given[1]?.getD 0), .int .i64 (p.given[2]?.getD 0), .int .i64 (p.given[3]?.getD 0), .int .i64 (p.given[4]?.getD 0)] 75)).alloc (.cells #[.int .i64 0, .int .i64 0, .int .i64 0, .int .i64 0, .int .i64 0, .int .i64 0, .int .i64 0] 75)) x (some ⟨ga, oa, none⟩) (some ⟨gb, ob, none⟩) ch cg ⟨p.hour + 1, p.last, p.given⟩ zeroP) := box_gb W x (some ⟨ga, oa, none⟩) (some ⟨gb, ob, none⟩) ch cg ⟨p.hour + 1, p.last, p.given⟩
  generalize ((W.alloc (.cells (ttc x (some ⟨ga, oa, none⟩) (some ⟨gb, ob, none⟩) ch cg) 25)).alloc (.cells #[.int .i64 ((p.hour : Int) + 1), .int .i64 p.last, .int .i64 (p.given[0]?.getD 0), .int .i64 (p.given[1]?.getD 0), .int .i64 (p.given[2]?.getD 0), .int .i64 (p.given[3]?.getD 0), .int .i64 (p.given[4]?.getD 0)] 75)).alloc (.cells #[.int .i64 0, .int .i64 0, .int .i64 0, .int .i64 0, .int .i64 0, .int .i64 0, .int .i64 0] 75) = w0 at HB ⊢
  obtain ⟨p1, hp1⟩ : ∃ q : Pl, q = ⟨p.hour + 1, p.last, p.given⟩ := ⟨_, rfl⟩
  rw [← hp1] at HB
  have HP1 := Lib.hid hp1
  clear hp1
  haveI hne : Nonempty (Cls (fun w' => GB W w' x (some ⟨ga, oa, none⟩) (some ⟨gb, ob, none⟩) ch cg p1 zeroP)) := ⟨⟨_, HB.out.drew⟩⟩
  have HD := Lib.hid (GB.drew HB.out)
  have HFR := Lib.hid (fun (w : World) (h : GB W w x (some ⟨ga, oa, none⟩) (some ⟨gb, ob, none⟩) ch cg p1 zeroP) => (HM.out w).mono (fun e w' (h' : BoolPost (mayB b a) w e w') => (show e = .returned (.bool (mayB b a)) ∧ GB W w' x (some ⟨ga, oa, none⟩) (some ⟨gb, ob, none⟩) ch cg p1 zeroP from ⟨h'.1, h.step h'.2⟩)))
  have hmix : Try.prog.follows .mixedOrders = true := by kernel_rfl
  have hx0 : ∀ pc : Cls (fun w' => GB W w' x (some ⟨ga, oa, none⟩) (some ⟨gb, ob, none⟩) ch cg p1 zeroP), pc.w.cell? ⟨W.heap.size, 0, none⟩ = some (.slice (some ⟨ga, oa, none⟩) x.H.length ch) := fun pc => pc.h.fx.cell 0
  have hx1 : ∀ pc : Cls (fun w' => GB W w' x (some ⟨ga, oa, none⟩) (some ⟨gb, ob, none⟩) ch cg p1 zeroP), pc.w.cell? ⟨W.heap.size, 1, none⟩ = some (.slice (some ⟨gb, ob, none⟩) x.G.length cg) := fun pc => pc.h.fx.cell 1
  have ha0 : ∀ pc : Cls (fun w' => GB W w' x (some ⟨ga, oa, none⟩) (some ⟨gb, ob, none⟩) ch cg p1 zeroP), pc.w.cell? ⟨ga, oa + p.hour * 3, none⟩ = some (.int .i64 a.day) := fun pc => CA.out _ pc.h.b 0 (by omega)
  have ha1 : ∀ pc : Cls (fun w' => GB W w' x (some ⟨ga, oa, none⟩) (some ⟨gb, ob, none⟩) ch cg p1 zeroP), pc.w.cell? ⟨ga, oa + p.hour * 3 + 1, none⟩ = some (.int .i64 a.beg) := fun pc => CA.out _ pc.h.b 1 (by omega)
  have ha2 : ∀ pc : Cls (fun w' => GB W w' x (some ⟨ga, oa, none⟩) (some ⟨gb, ob, none⟩) ch cg p1 zeroP), pc.w.cell? ⟨ga, oa + p.hour * 3 + 2, none⟩ = some (.int .i64 a.fin) := fun pc => CA.out _ pc.h.b 2 (by omega)
  have hb0 : ∀ pc : Cls (fun w' => GB W w' x (some ⟨ga, oa, none⟩) (some ⟨gb, ob, none⟩) ch cg p1 zeroP), pc.w.cell? ⟨gb, ob + g * 5, none⟩ = some (.int .i64 b.days) := fun pc => CB.out _ pc.h.b 0 (by omega)
  have hb1 : ∀ pc : Cls (fun w' => GB W w' x (some ⟨ga, oa, none⟩) (some ⟨gb, ob, none⟩) ch cg p1 zeroP), pc.w.cell? ⟨gb, ob + g * 5 + 1, none⟩ = some (.int .i64 b.early) := fun pc => CB.out _ pc.h.b 1 (by omega)
  have hb2 : ∀ pc : Cls (fun w' => GB W w' x (some ⟨ga, oa, none⟩) (some ⟨gb, ob, none⟩) ch cg p1 zeroP), pc.w.cell? ⟨gb, ob + g * 5 + 2, none⟩ = some (.int .i64 b.late) := fun pc => CB.out _ pc.h.b 2 (by omega)
  have hb3 : ∀ pc : Cls (fun w' => GB W w' x (some ⟨ga, oa, none⟩) (some ⟨gb, ob, none⟩) ch cg p1 zeroP), pc.w.cell? ⟨gb, ob + g * 5 + 3, none⟩ = some (.int .i64 b.most) := fun pc => CB.out _ pc.h.b 3 (by omega)
  have hb4 : ∀ pc : Cls (fun w' => GB W w' x (some ⟨ga, oa, none⟩) (some ⟨gb, ob, none⟩) ch cg p1 zeroP), pc.w.cell? ⟨gb, ob + g * 5 + 4, none⟩ = some (.int .i64 b.credit) := fun pc => CB.out _ pc.h.b 4 (by omega)
  have e1 : (p.hour : Int) < x.H.length := by omega
  have e2 : (g : Int) < x.G.length := by omega
  have HG0 := Lib.hid HG.out
  cases hm : mayB b a <;> rw [hm] at HFR
  · have HGE := Lib.hid (HG.out.trans (if_pos hm))
    have hc := HFR.out
    clear hm
    refine wp_region_cls (fun w' => GB W w' x (some ⟨ga, oa, none⟩) (some ⟨gb, ob, none⟩) ch cg p1 zeroP) hmix (by kernel_rfl) HD.out ?_
    repeat (quiet_step (exact cls_call hc _))
    refine wpQuiet_nil ?_
    rintro w7 ⟨⟨_, hw7⟩, rfl⟩
    have H7 := Lib.hid hw7
    clear hx0 hx1 ha0 ha1 ha2 hb0 hb1 hb2 hb3 hb4 hc hne hw7
    try simp only []
    have r0 : w7.cell? ⟨W.heap.size + 1 + 1, 0, none⟩ = some (.int .i64 0) := H7.out.fr.cell 0
    have r1 : w7.cell? ⟨W.heap.size + 1 + 1, 1, none⟩ = some (.int .i64 0) := H7.out.fr.cell 1
    have r2 : w7.cell? ⟨W.heap.size + 1 + 1, 2, none⟩ = some (.int .i64 0) := H7.out.fr.cell 2
    have r3 : w7.cell? ⟨W.heap.size + 1 + 1, 3, none⟩ = some (.int .i64 0) := H7.out.fr.cell 3
    have r4 : w7.cell? ⟨W.heap.size + 1 + 1, 4, none⟩ = some (.int .i64 0) := H7.out.fr.cell 4
    have r5 : w7.cell? ⟨W.heap.size + 1 + 1, 5, none⟩ = some (.int .i64 0) := H7.out.fr.cell 5
    have r6 : w7.cell? ⟨W.heap.size + 1 + 1, 6, none⟩ = some (.int .i64 0) := H7.out.fr.cell 6
    have rf := H7.out.fr.frozen
    have rl := H7.out.fr.lt
    go_wp2_with fail
    have HF := H7.out.putR zeroP
    unfold putP set7 at HF
    refine bodyPost_ret (res41 HF.fr rfl rfl) rfl ?_
    rw [HGE.out]
    exact ⟨rfl, HF.b⟩
  have HGE := Lib.hid (HG.out.trans (if_neg (by rw [hm]; decide)))
  have hc := HFR.out
  clear hm
  refine wp_region_cls (fun w' => GB W w' x (some ⟨ga, oa, none⟩) (some ⟨gb, ob, none⟩) ch cg p1 zeroP) hmix (by kernel_rfl) HD.out ?_
  repeat (quiet_step (exact cls_call hc _))
  refine wpQuiet_nil ?_
  rintro w7 ⟨⟨_, hw7⟩, rfl⟩
  have H7 := Lib.hid hw7
  clear hc hne hw7
  try simp only []
  go_upto_region 8 with fail
  have hgc : ∀ pc : Cls (fun w' => GB W w' x (some ⟨ga, oa, none⟩) (some ⟨gb, ob, none⟩) ch cg p1 zeroP), pc.w.cell? ⟨W.heap.size + 1, 2 + g, none⟩ = some (.int .i64 (p.given.getD g 0)) := fun pc => (pc.h.fp.cell _).trans (by rw [plc_get HL5.out.2, HP1.out])
  haveI hne : Nonempty (Cls (fun w' => GB W w' x (some ⟨ga, oa, none⟩) (some ⟨gb, ob, none⟩) ch cg p1 zeroP)) := ⟨⟨_, GB.drew H7.out⟩⟩
  have HD7 := Lib.hid (GB.drew H7.out)
  have e3 : (g : Int) < 5 := by omega
  obtain ⟨c0, hc0⟩ : ∃ c, c = p.given.getD g 0 := ⟨_, rfl⟩
  rw [← hc0] at hgc gp HGE
  have HC0 := Lib.hid hc0
  clear hc0
  by_cases hq : b.most ≤ c0
  · replace HGE := Lib.hid (HGE.out.trans (if_pos hq))
    have hq2 : decide (b.most ≤ c0) = true := decide_eq_true hq
    refine wp_region_cls (fun w' => GB W w' x (some ⟨ga, oa, none⟩) (some ⟨gb, ob, none⟩) ch cg p1 zeroP) hmix (by kernel_rfl) HD7.out ?_
    repeat (quiet_step (fail))
    refine wpQuiet_nil ?_
    rintro w8 ⟨⟨_, hw8⟩, rfl⟩
    have H8 := Lib.hid hw8
    clear hx0 hx1 ha0 ha1 ha2 hb0 hb1 hb2 hb3 hb4 hgc hne hw8
    try simp only []
    have r0 : w8.cell? ⟨W.heap.size + 1 + 1, 0, none⟩ = some (.int .i64 0) := H8.out.fr.cell 0
    have r1 : w8.cell? ⟨W.heap.size + 1 + 1, 1, none⟩ = some (.int .i64 0) := H8.out.fr.cell 1
    have r2 : w8.cell? ⟨W.heap.size + 1 + 1, 2, none⟩ = some (.int .i64 0) := H8.out.fr.cell 2
    have r3 : w8.cell? ⟨W.heap.size + 1 + 1, 3, none⟩ = some (.int .i64 0) := H8.out.fr.cell 3
    have r4 : w8.cell? ⟨W.heap.size + 1 + 1, 4, none⟩ = some (.int .i64 0) := H8.out.fr.cell 4
    have r5 : w8.cell? ⟨W.heap.size + 1 + 1, 5, none⟩ = some (.int .i64 0) := H8.out.fr.cell 5
    have r6 : w8.cell? ⟨W.heap.size + 1 + 1, 6, none⟩ = some (.int .i64 0) := H8.out.fr.cell 6
    have rf := H8.out.fr.frozen
    have rl := H8.out.fr.lt
    go_wp2_with fail
    have HF := H8.out.putR zeroP
    unfold putP set7 at HF
    refine bodyPost_ret (res41 HF.fr rfl rfl) rfl ?_
    rw [HGE.out]
    exact ⟨rfl, HF.b⟩
  replace HGE := Lib.hid (HGE.out.trans (if_neg hq))
  have hq2 : decide (b.most ≤ c0) = false := decide_eq_false hq
  refine wp_region_cls (fun w' => GB W w' x (some ⟨ga, oa, none⟩) (some ⟨gb, ob, none⟩) ch cg p1 zeroP) hmix (by kernel_rfl) HD7.out ?_
  repeat (quiet_step (fail))
  refine wpQuiet_nil ?_
  rintro w8 ⟨⟨_, hw8⟩, rfl⟩
  have H8 := Lib.hid hw8
  clear hx0 hx1 ha0 ha1 ha2 hb0 hb1 hb2 hb3 hb4 hgc hne hw8 hq2 H7 HD HD7 HB
  try simp only []
  go_upto_region 10 with fail
  have l1 : w8.cell? ⟨W.heap.size + 1, 1, none⟩ = some (.int .i64 p.last) := (HP1.out ▸ H8.out.fp).cell 1
  by_cases hl : p.last ≠ -1 ∧ p.last ≠ g
  · replace HGE := Lib.hid (HGE.out.trans (if_pos hl))
    have k1 : (p.last != -1) = true := by simpa using hl.1
    have k2 : (p.last != (g : Int)) = true := by simpa using hl.2
    clear hl
    have r0 : w8.cell? ⟨W.heap.size + 1 + 1, 0, none⟩ = some (.int .i64 0) := H8.out.fr.cell 0
    have r1 : w8.cell? ⟨W.heap.size + 1 + 1, 1, none⟩ = some (.int .i64 0) := H8.out.fr.cell 1
    have r2 : w8.cell? ⟨W.heap.size + 1 + 1, 2, none⟩ = some (.int .i64 0) := H8.out.fr.cell 2
    have r3 : w8.cell? ⟨W.heap.size + 1 + 1, 3, none⟩ = some (.int .i64 0) := H8.out.fr.cell 3
    have r4 : w8.cell? ⟨W.heap.size + 1 + 1, 4, none⟩ = some (.int .i64 0) := H8.out.fr.cell 4
    have r5 : w8.cell? ⟨W.heap.size + 1 + 1, 5, none⟩ = some (.int .i64 0) := H8.out.fr.cell 5
    have r6 : w8.cell? ⟨W.heap.size + 1 + 1, 6, none⟩ = some (.int .i64 0) := H8.out.fr.cell 6
    have rf := H8.out.fr.frozen
    have rl := H8.out.fr.lt
    go_wp2_with fail
    have HF := H8.out.putR zeroP
    unfold putP set7 at HF
    refine bodyPost_ret (res41 HF.fr rfl rfl) rfl ?_
    rw [HGE.out]
    exact ⟨rfl, HF.b⟩
  replace HGE := Lib.hid (HGE.out.trans (if_neg hl))
  have hl2 : p.last = -1 ∨ (p.last ≠ -1 ∧ p.last = g) := by omega
  have hgc : w8.cell? ⟨W.heap.size + 1, 2 + g, none⟩ = some (.int .i64 c0) := (H8.out.fp.cell _).trans (by rw [plc_get HL5.out.2, HP1.out, HC0.out])
  have pf := H8.out.fp.frozen
  have pl := H8.out.fp.lt
  have HS2 := Lib.hid (plc_set (p := p1) (i := g) (by rw [HP1.out]; exact HL5.out.1) HL5.out.2 (c0 + 1))
  have HB2 := Lib.hid (H8.out.setP (2 + g) (.int .i64 (c0 + 1)) _ HS2.out)
  have HB3 := Lib.hid (HB2.out.setP 1 (.int .i64 (-1)) ⟨p.hour + 1, -1, p.given.set g (c0 + 1)⟩ (by rw [HP1.out]; rfl))
  have HT := Lib.hid (fun w h => tight_any x (some ⟨ga, oa, none⟩) (some ⟨gb, ob, none⟩) ch cg p.hour w h HV.out.2.2 HV.out.1)
  unfold ttv ttc at HT
  have HFIN : Hid (∀ tb, tightB x p.hour = tb → giveR x p g = (0, ⟨p.hour + 1, if tb then g else -1, p.given.set g (c0 + 1)⟩)) := fun tb h => by rw [HGE.out, h]
  clear HGE hl
  have k12 : (p.last != -1) = false ∨ ((p.last != -1) = true ∧ (p.last != (g : Int)) = false) := by
    rcases hl2 with h | ⟨h, h'⟩
    · left; simp [h]
    · right; exact ⟨by simpa using h, by simp [h']⟩
  clear hl2
  have HB8 : Hid (∀ w9, w9 = (w8.setCell ⟨W.heap.size + 1, 2 + g, none⟩ (.int .i64 (c0 + 1))).setCell ⟨W.heap.size + 1, 1, none⟩ (.int .i64 (-1)) → GB W w9 x (some ⟨ga, oa, none⟩) (some ⟨gb, ob, none⟩) ch cg ⟨p.hour + 1, -1, p.given.set g (c0 + 1)⟩ zeroP) := fun w9 h => by rw [h]; exact HB3.out
  clear HB2 HB3 HS2
  rcases k12 with k1 | ⟨k1, k2⟩
  all_goals
    go_upto_region 14 with fail
    clear l1 hgc pf pl
    generalize hw9 : (w8.setCell ⟨W.heap.size + 1, 2 + g, none⟩ (.int .i64 (c0 + 1))).setCell ⟨W.heap.size + 1, 1, none⟩ (.int .i64 (-1)) = w9
    have H9 := Lib.hid (HB8.out _ hw9.symm)
    clear hw9 HB8 H8
    have x0 : w9.cell? ⟨W.heap.size, 0, none⟩ = some (.slice (some ⟨ga, oa, none⟩) x.H.length ch) := H9.out.fx.cell 0
    have x1 : w9.cell? ⟨W.heap.size, 1, none⟩ = some (.slice (some ⟨gb, ob, none⟩) x.G.length cg) := H9.out.fx.cell 1
    have x2 : w9.cell? ⟨W.heap.size, 2, none⟩ = some (.int .i64 x.R) := H9.out.fx.cell 2
    have HTB : Hid (∃ tb, tightB x p.hour = tb) := ⟨_, rfl⟩
    obtain ⟨tb, htb⟩ := HTB.out
    rw [htb] at HT
    have HGE := Lib.hid (HFIN.out tb htb)
    clear htb HTB HFIN
    go_wp2_with fail
    refine (HT.out _ ((HV.out.2.1.below H9.out.b).more H9.out.b.size)).mono ?_
    rintro e w10 ⟨rfl, hb10⟩
    have H10 := Lib.hid (H9.out.step hb10)
    clear hb10 x0 x1 x2 H9
    cases tb
    · obtain ⟨q, hq0⟩ : ∃ q : Pl, q = ⟨p.hour + 1, -1, p.given.set g (c0 + 1)⟩ := ⟨_, rfl⟩
      replace HGE := Lib.hid (show giveR x p g = (0, q) by rw [HGE.out, hq0]; rfl)
      rw [← hq0] at H10
      clear hq0
      have q0 : w10.cell? ⟨W.heap.size + 1, 0, none⟩ = some (.int .i64 q.hour) := H10.out.fp.cell 0
      have q1 : w10.cell? ⟨W.heap.size + 1, 1, none⟩ = some (.int .i64 q.last) := H10.out.fp.cell 1
      have q2 : w10.cell? ⟨W.heap.size + 1, 2, none⟩ = some (.int .i64 (q.given[0]?.getD 0)) := H10.out.fp.cell 2
      have q3 : w10.cell? ⟨W.heap.size + 1, 3, none⟩ = some (.int .i64 (q.given[1]?.getD 0)) := H10.out.fp.cell 3
      have q4 : w10.cell? ⟨W.heap.size + 1, 4, none⟩ = some (.int .i64 (q.given[2]?.getD 0)) := H10.out.fp.cell 4
      have q5 : w10.cell? ⟨W.heap.size + 1, 5, none⟩ = some (.int .i64 (q.given[3]?.getD 0)) := H10.out.fp.cell 5
      have q6 : w10.cell? ⟨W.heap.size + 1, 6, none⟩ = some (.int .i64 (q.given[4]?.getD 0)) := H10.out.fp.cell 6
      have r0 : w10.cell? ⟨W.heap.size + 1 + 1, 0, none⟩ = some (.int .i64 0) := H10.out.fr.cell 0
      have r1 : w10.cell? ⟨W.heap.size + 1 + 1, 1, none⟩ = some (.int .i64 0) := H10.out.fr.cell 1
      have r2 : w10.cell? ⟨W.heap.size + 1 + 1, 2, none⟩ = some (.int .i64 0) := H10.out.fr.cell 2
      have r3 : w10.cell? ⟨W.heap.size + 1 + 1, 3, none⟩ = some (.int .i64 0) := H10.out.fr.cell 3
      have r4 : w10.cell? ⟨W.heap.size + 1 + 1, 4, none⟩ = some (.int .i64 0) := H10.out.fr.cell 4
      have r5 : w10.cell? ⟨W.heap.size + 1 + 1, 5, none⟩ = some (.int .i64 0) := H10.out.fr.cell 5
      have r6 : w10.cell? ⟨W.heap.size + 1 + 1, 6, none⟩ = some (.int .i64 0) := H10.out.fr.cell 6
      have rf := H10.out.fr.frozen
      have rl := H10.out.fr.lt
      go_wp2_with fail
      have HF := H10.out.putR q
      unfold putP set7 at HF
      refine bodyPost_ret (res41 (r := .int .i64 0) HF.fr rfl rfl) rfl ?_
      rw [HGE.out]
      exact ⟨rfl, HF.b⟩
    · have HP := Lib.hid (H10.out.setP 1 (.int .i64 g) ⟨p.hour + 1, g, p.given.set g (c0 + 1)⟩ rfl)
      obtain ⟨q, hq0⟩ : ∃ q : Pl, q = ⟨p.hour + 1, g, p.given.set g (c0 + 1)⟩ := ⟨_, rfl⟩
      replace HGE := Lib.hid (show giveR x p g = (0, q) by rw [HGE.out, hq0]; rfl)
      rw [← hq0] at HP
      clear hq0
      have z1 : w10.cell? ⟨W.heap.size + 1, 1, none⟩ = some (.int .i64 (-1)) := H10.out.fp.cell 1
      have zf := H10.out.fp.frozen
      have zl := H10.out.fp.lt
      go_upto_region 16 with fail
      clear z1 zf zl H10
      generalize w10.setCell ⟨W.heap.size + 1, 1, none⟩ (.int .i64 (g : Int)) = w11 at HP ⊢
      have q0 : w11.cell? ⟨W.heap.size + 1, 0, none⟩ = some (.int .i64 q.hour) := HP.out.fp.cell 0
      have q1 : w11.cell? ⟨W.heap.size + 1, 1, none⟩ = some (.int .i64 q.last) := HP.out.fp.cell 1
      have q2 : w11.cell? ⟨W.heap.size + 1, 2, none⟩ = some (.int .i64 (q.given[0]?.getD 0)) := HP.out.fp.cell 2
      have q3 : w11.cell? ⟨W.heap.size + 1, 3, none⟩ = some (.int .i64 (q.given[1]?.getD 0)) := HP.out.fp.cell 3
      have q4 : w11.cell? ⟨W.heap.size + 1, 4, none⟩ = some (.int .i64 (q.given[2]?.getD 0)) := HP.out.fp.cell 4
      have q5 : w11.cell? ⟨W.heap.size + 1, 5, none⟩ = some (.int .i64 (q.given[3]?.getD 0)) := HP.out.fp.cell 5
      have q6 : w11.cell? ⟨W.heap.size + 1, 6, none⟩ = some (.int .i64 (q.given[4]?.getD 0)) := HP.out.fp.cell 6
      have r0 : w11.cell? ⟨W.heap.size + 1 + 1, 0, none⟩ = some (.int .i64 0) := HP.out.fr.cell 0
      have r1 : w11.cell? ⟨W.heap.size + 1 + 1, 1, none⟩ = some (.int .i64 0) := HP.out.fr.cell 1
      have r2 : w11.cell? ⟨W.heap.size + 1 + 1, 2, none⟩ = some (.int .i64 0) := HP.out.fr.cell 2
      have r3 : w11.cell? ⟨W.heap.size + 1 + 1, 3, none⟩ = some (.int .i64 0) := HP.out.fr.cell 3
      have r4 : w11.cell? ⟨W.heap.size + 1 + 1, 4, none⟩ = some (.int .i64 0) := HP.out.fr.cell 4
      have r5 : w11.cell? ⟨W.heap.size + 1 + 1, 5, none⟩ = some (.int .i64 0) := HP.out.fr.cell 5
      have r6 : w11.cell? ⟨W.heap.size + 1 + 1, 6, none⟩ = some (.int .i64 0) := HP.out.fr.cell 6
      have rf := HP.out.fr.frozen
      have rl := HP.out.fr.lt
      go_wp2_with fail
      have HF := HP.out.putR q
      unfold putP set7 at HF
      refine bodyPost_ret (res41 (r := .int .i64 0) HF.fr rfl rfl) rfl ?_
      rw [HGE.out]
      exact ⟨rfl, HF.b⟩
end Go.Proofs.Ytipejhfgfciabaa
