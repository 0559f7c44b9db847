/- Contracts: and, mostToGain; what a valid league is. -/
import Derived.Test.YtljkgjfmambfoaaDoorLgG
namespace Go.Proofs.YtljkgjfmambfoaaDoor
open Go.RowKit Go.Shelf
attribute [local go_sem] Oper.semAt_some
/-- a valid game -/
structure VG (n : Nat) (g : Gm) : Prop where
  d : 0 ≤ g.day ∧ g.day ≤ 16384
  h : 0 ≤ g.home ∧ g.home < n
  a : 0 ≤ g.away ∧ g.away < n
  ne : g.home ≠ g.away
  f : 0 ≤ g.fin ∧ g.fin ≤ 2
  go : g.fin ≠ 0 → (0 ≤ g.hg ∧ g.hg ≤ 99) ∧ (0 ≤ g.ag ∧ g.ag ≤ 99) ∧ g.hg ≠ g.ag
structure VL (x : Lg) : Prop where
  nf : x.F.length ≤ 6
  fr : ∀ r ∈ x.F, r.length = x.F.length ∧ ∀ n ∈ r, 0 ≤ n ∧ n ≤ 100000
  ng : x.G.length ≤ 64
  g : ∀ g ∈ x.G, VG x.F.length g
  o : openN x.G ≤ 8
theorem vg_of {n : Nat} {g : Gm} (h : gameB n g = true) : VG n g := by
  unfold gameB teamB goalsB inB at h
  simp only [Bool.and_eq_true, Bool.or_eq_true, decide_eq_true_eq, Bool.not_eq_true', decide_eq_false_iff_not] at h
  obtain ⟨⟨⟨⟨h1, h2⟩, h3⟩, h4⟩, h5⟩ := h
  refine ⟨h1, by omega, by omega, h4, ?_, fun h6 => ?_⟩
  · rcases h5 with h5 | ⟨h5 | h5, -⟩ <;> omega
  · rcases h5 with h5 | ⟨-, ⟨h7, h8⟩, h9⟩
    · exact absurd h5 h6
    · exact ⟨h7, h8, h9⟩
theorem vl_of {x : Lg} (h : lgB x = true) : VL x := by
  unfold lgB farB farRowB inB at h
  simp only [Bool.and_eq_true, decide_eq_true_eq, List.all_eq_true] at h
  obtain ⟨⟨⟨h1, h2⟩, h3, h4⟩, h5⟩ := h
  exact ⟨h1, fun r hr => ⟨by have := (h2 r hr).1; omega, (h2 r hr).2⟩, h3, fun g hg => vg_of (h4 g hg), h5⟩
theorem VL.ok {x : Lg} (h : VL x) {g : Gm} (hg : g ∈ x.G) : okG g := by
  have h1 := h.g g hg
  have := h.nf
  exact ⟨by have := h1.h; omega, by have := h1.a; omega⟩
theorem ofT_mem {t : Int} {G : List Gm} {g : Gm} (h : g ∈ ofT t G) : g ∈ G := (List.mem_filter.1 h).1
theorem getD_eq_get {l : List Int} {i : Nat} (h : i < l.length) : l.getD i 0 = l[i] := by rw [List.getD_eq_getElem?_getD, List.getElem?_eq_getElem h]; rfl
theorem plus_of {p q r : Pt} (hp : p.length = 6) (hq : q.length = 6) (hr : r.length = 6) (h : ∀ i : Nat, i < 6 → r.getD i 0 = p.getD i 0 + q.getD i 0) : r = plusP p q := by
  unfold plusP
  refine List.ext_getElem (by rw [List.length_zipWith]; omega) fun i h1 h2 => ?_
  have := h i (by omega)
  rw [getD_eq_get h1, getD_eq_get (by omega), getD_eq_get (by omega)] at this
  rw [List.getElem_zipWith]
  exact this
theorem plus_at {p q : Pt} (hp : p.length = 6) (hq : q.length = 6) (i : Nat) : (plusP p q).getD i 0 = p.getD i 0 + q.getD i 0 := by
  unfold plusP
  by_cases h : i < 6
  · rw [getD_eq_get (by rw [List.length_zipWith]; omega), getD_eq_get (by omega), getD_eq_get (by omega), List.getElem_zipWith]
  · simp only [List.getD_eq_getElem?_getD]
    rw [List.getElem?_eq_none (by rw [List.length_zipWith]; omega), List.getElem?_eq_none (by omega), List.getElem?_eq_none (by omega)]
    rfl
theorem plus_pb {M M' : Int} {p q : Pt} (hp : PB M p) (hq : PB M' q) : PB (M + M') (plusP p q) :=
  ⟨by unfold plusP; rw [List.length_zipWith, hp.l, hq.l]; rfl, fun i => by rw [plus_at hp.l hq.l]; have := hp.b i; have := hq.b i; omega⟩
theorem idx_pt (q : Pt) {k : Nat} (hk : k < 6) (w : World) : (Instr.index 77 (.agg (ptc q)) (.int .i64 (k : Int))).run Tryd.prog w = .ok (.int .i64 (q.getD k 0)) w := by
  have h0 : ∀ w, (Instr.index 77 (.agg (ptc q)) (.int .i64 ((0 : Nat) : Int))).run Tryd.prog w = .ok (.int .i64 (q[0]?.getD 0)) w := fun _ => by kernel_rfl
  have h1 : ∀ w, (Instr.index 77 (.agg (ptc q)) (.int .i64 ((1 : Nat) : Int))).run Tryd.prog w = .ok (.int .i64 (q[1]?.getD 0)) w := fun _ => by kernel_rfl
  have h2 : ∀ w, (Instr.index 77 (.agg (ptc q)) (.int .i64 ((2 : Nat) : Int))).run Tryd.prog w = .ok (.int .i64 (q[2]?.getD 0)) w := fun _ => by kernel_rfl
  have h3 : ∀ w, (Instr.index 77 (.agg (ptc q)) (.int .i64 ((3 : Nat) : Int))).run Tryd.prog w = .ok (.int .i64 (q[3]?.getD 0)) w := fun _ => by kernel_rfl
  have h4 : ∀ w, (Instr.index 77 (.agg (ptc q)) (.int .i64 ((4 : Nat) : Int))).run Tryd.prog w = .ok (.int .i64 (q[4]?.getD 0)) w := fun _ => by kernel_rfl
  have h5 : ∀ w, (Instr.index 77 (.agg (ptc q)) (.int .i64 ((5 : Nat) : Int))).run Tryd.prog w = .ok (.int .i64 (q[5]?.getD 0)) w := fun _ => by kernel_rfl
  rw [List.getD_eq_getElem?_getD]
  match k, hk with
  | 0, _ => exact h0 w
  | 1, _ => exact h1 w
  | 2, _ => exact h2 w
  | 3, _ => exact h3 w
  | 4, _ => exact h4 w
  | 5, _ => exact h5 w
/-- and, at work -/
structure AnI (W w : World) (p q : Pt) : Prop where
  b : Below W.heap.size W w
  fp : Has w W.heap.size 77 (ptc p)
  fq : Has w (W.heap.size + 1) 77 (ptc q)
  fr : Has w (W.heap.size + 1 + 1) 77 (ptc zeroP)
theorem AnI.set {W w : World} {p q : Pt} (h : AnI W w p q) (hp : p.length = 6) {i : Nat} (hi : i < 6) (v : Int) : AnI W (w.setCell ⟨W.heap.size, i, none⟩ (.int .i64 v)) (p.set i v) q := by
  have hb : Below W.heap.size w (w.setCell ⟨W.heap.size, i, none⟩ (.int .i64 v)) := (Below.refl _ _).setCell (p := ⟨W.heap.size, i, none⟩) (Nat.le_refl _) _
  have ho := only_cell w W.heap.size i (.int .i64 v)
  exact ⟨h.b.trans hb, by rw [← ptc_set hp hi]; exact h.fp.set i _, h.fq.only ho (by show ¬ W.heap.size + 1 = W.heap.size; omega), h.fr.only ho (by show ¬ W.heap.size + 1 + 1 = W.heap.size; omega)⟩
set_option maxRecDepth 100000 in
set_option maxHeartbeats 2000000 in
theorem and_any (p q : Pt) (W : World) (hp : PB 100000 p) (hq : PB 100000 q) : Calls Tryd.prog 41 #[ptv p, ptv q] W (PtPost (plusP p q) W) := by
  have HB : Hid (AnI W (((W.alloc (.cells (ptc p) 77)).alloc (.cells (ptc q) 77)).alloc (.cells (ptc zeroP) 77)) p q) := Lib.hid
    ⟨((below_one W _).alloc (by simp) _).alloc (by simp; omega) _, ((Has.new _ _ _).alloc _).alloc _, (has_newAt (by simp)).alloc _, has_newAt (by simp)⟩
  have HZ : Hid (((W.alloc (.cells (ptc p) 77)).alloc (.cells (ptc q) 77)).alloc (.cells (ptc zeroP) 77) = (((W.alloc (.cells (ptc p) 77)).alloc (.cells (ptc q) 77)).alloc (.cells #[.int .i64 0, .int .i64 0, .int .i64 0, .int .i64 0, .int .i64 0, .int .i64 0] 77))) := Lib.hid rfl
  rw [HZ.out] at HB
  have HP := Lib.hid hp
  have HQ := Lib.hid hq
  have HX := Lib.hid (fun k (hk : k < 6) w => idx_pt q hk w)
  clear HZ hp hq
  unfold ptv
  go_enter Tryd.func41, Tryd.ntmps41
  go_upto_region 1 with fail
  generalize ((W.alloc (.cells (ptc p) 77)).alloc (.cells (ptc q) 77)).alloc (.cells #[.int .i64 0, .int .i64 0, .int .i64 0, .int .i64 0, .int .i64 0, .int .i64 0] 77) = w9 at HB ⊢
  have y0 : w9.cell? ⟨W.heap.size + 1, 0, none⟩ = some (.int .i64 (q[0]?.getD 0)) := HB.out.fq.cell 0
  have y1 : w9.cell? ⟨W.heap.size + 1, 1, none⟩ = some (.int .i64 (q[1]?.getD 0)) := HB.out.fq.cell 1
  have y2 : w9.cell? ⟨W.heap.size + 1, 2, none⟩ = some (.int .i64 (q[2]?.getD 0)) := HB.out.fq.cell 2
  have y3 : w9.cell? ⟨W.heap.size + 1, 3, none⟩ = some (.int .i64 (q[3]?.getD 0)) := HB.out.fq.cell 3
  have y4 : w9.cell? ⟨W.heap.size + 1, 4, none⟩ = some (.int .i64 (q[4]?.getD 0)) := HB.out.fq.cell 4
  have y5 : w9.cell? ⟨W.heap.size + 1, 5, none⟩ = some (.int .i64 (q[5]?.getD 0)) := HB.out.fq.cell 5
  go_wp2_with fail
  clear y0 y1 y2 y3 y4 y5
  go_loopg [8] 6 (fun gk i wr => ∃ k : Nat, k ≤ 6 ∧ 6 - k ≤ gk ∧ i = .int .i64 k ∧ Hid (∃ r, AnI W wr r q ∧ r.length = 6 ∧ ∀ i : Nat, r.getD i 0 = if i < k then p.getD i 0 + q.getD i 0 else p.getD i 0))
  case atStart => exact ⟨0, Nat.zero_le _, Nat.le_refl _, rfl, Lib.hid ⟨p, HB.out, HP.out.l, fun i => by simp⟩⟩
  case round =>
    clear HB
    obtain ⟨k, hk, hgk, rfl, HB⟩ := hrel
    by_cases hlt : k < 6
    rotate_left
    · have hge : ¬ (k : Int) < 6 := by omega
      obtain rfl : k = 6 := by omega
      obtain ⟨r, hr, hrl, hra⟩ := HB.out
      have HE := Lib.hid (plus_of HP.out.l HQ.out.l hrl (fun i hi => by rw [hra i, if_pos hi]))
      have HR := Lib.hid hr
      clear hr hrl hra HB HX
      have q0 : wr.cell? ⟨W.heap.size, 0, none⟩ = some (.int .i64 (r[0]?.getD 0)) := HR.out.fp.cell 0
      have q1 : wr.cell? ⟨W.heap.size, 1, none⟩ = some (.int .i64 (r[1]?.getD 0)) := HR.out.fp.cell 1
      have q2 : wr.cell? ⟨W.heap.size, 2, none⟩ = some (.int .i64 (r[2]?.getD 0)) := HR.out.fp.cell 2
      have q3 : wr.cell? ⟨W.heap.size, 3, none⟩ = some (.int .i64 (r[3]?.getD 0)) := HR.out.fp.cell 3
      have q4 : wr.cell? ⟨W.heap.size, 4, none⟩ = some (.int .i64 (r[4]?.getD 0)) := HR.out.fp.cell 4
      have q5 : wr.cell? ⟨W.heap.size, 5, none⟩ = some (.int .i64 (r[5]?.getD 0)) := HR.out.fp.cell 5
      have r0 : wr.cell? ⟨W.heap.size + 1 + 1, 0, none⟩ = some (.int .i64 0) := HR.out.fr.cell 0
      have r1 : wr.cell? ⟨W.heap.size + 1 + 1, 1, none⟩ = some (.int .i64 0) := HR.out.fr.cell 1
      have r2 : wr.cell? ⟨W.heap.size + 1 + 1, 2, none⟩ = some (.int .i64 0) := HR.out.fr.cell 2
      have r3 : wr.cell? ⟨W.heap.size + 1 + 1, 3, none⟩ = some (.int .i64 0) := HR.out.fr.cell 3
      have r4 : wr.cell? ⟨W.heap.size + 1 + 1, 4, none⟩ = some (.int .i64 0) := HR.out.fr.cell 4
      have r5 : wr.cell? ⟨W.heap.size + 1 + 1, 5, none⟩ = some (.int .i64 0) := HR.out.fr.cell 5
      have f0 := HR.out.fr.frozen 0
      have f1 := HR.out.fr.frozen 1
      have f2 := HR.out.fr.frozen 2
      have f3 := HR.out.fr.frozen 3
      have f4 := HR.out.fr.frozen 4
      have f5 := HR.out.fr.frozen 5
      have fl := HR.out.fr.lt
      go_wp2_with fail
      refine bodyPost_ret (v := ptv r) (res_pt (D := W.heap.size + 1 + 1) (n := 4) (has_putPt r HR.out.fr) rfl rfl) rfl ?_
      exact ⟨by rw [HE.out], HR.out.b.trans (below_putPt r (by omega))⟩
    have hlt2 : (k : Int) < 6 := by omega
    obtain ⟨r, hr, hrl, hra⟩ := HB.out
    have hx : ∀ w, (Instr.index 77 (.agg (ptc q)) (.int .i64 (k : Int))).run Tryd.prog w = .ok (.int .i64 (q.getD k 0)) w := HX.out k hlt
    have hpb := HP.out.b k
    have hqb := HQ.out.b k
    have hrk := hra k
    rw [if_neg (by omega)] at hrk
    have HN : Hid (∀ i : Nat, (r.set k (r.getD k 0 + q.getD k 0)).getD i 0 = if i < k + 1 then p.getD i 0 + q.getD i 0 else p.getD i 0) := Lib.hid fun i => by
      rw [getD_set_pt (by omega)]
      by_cases h : k = i
      · subst h
        rw [if_pos rfl, if_pos (by omega), hrk]
      · rw [if_neg h, hra i]
        by_cases h2 : i < k
        · rw [if_pos h2, if_pos (by omega)]
        · rw [if_neg h2, if_neg (by omega)]
    obtain ⟨u, hu⟩ : ∃ u, u = q.getD k 0 := ⟨_, rfl⟩
    obtain ⟨v, hv⟩ : ∃ v, v = r.getD k 0 := ⟨_, rfl⟩
    rw [← hu] at hx HN hqb
    rw [← hv] at HN hrk
    rw [← hrk] at hpb
    have HR := Lib.hid (And.intro hr hrl)
    have HV := Lib.hid hv
    have p0 : wr.cell? ⟨W.heap.size, k, none⟩ = some (.int .i64 v) := by rw [hv]; exact (hr.fp.cell k).trans (ptc_at hlt)
    have pf := hr.fp.frozen k
    have pl := hr.fp.lt
    clear hr hrl hra hrk hu hv HB HX
    go_wp2_with fail
    go_roundg (6 - (k + 1))
    case measure => omega
    case rel => exact ⟨k + 1, by omega, Nat.le_refl _, by go_num, Lib.hid ⟨_, HR.out.1.set HR.out.2 hlt (v + u), by rw [List.length_set]; exact HR.out.2, HN.out⟩⟩
/-- mostToGain, at work -/
structure MoI (W w : World) (G : List Gm) (t n : Int) (AG : Option Addr) (cg : Nat) : Prop where
  bl : Below W.heap.size W w
  fn : Has w (W.heap.size + 1) 3 #[.int .i64 n]
  it : GIt w (W.heap.size + 1 + 1) (W.heap.size + 1 + 1 + 1) G t AG cg
  wo : Wo w
theorem row_far {w : World} {A : Option Addr} {G : List Gm} {D : Nat} {n : Int} {cs : Array Value} {T : TypeId} (h : GRow w w.heap.size A G) (hD : Has w D T cs) (hs : cs.size < 6) (v : Value) : GRow (w.setCell ⟨D, n.toNat, none⟩ v) (w.setCell ⟨D, n.toNat, none⟩ v).heap.size A G := fun k hk => by
  obtain ⟨g, o, e, hg, hc⟩ := h k hk
  have c5 := hc 5 (by omega)
  have hgl : ¬ g = D := fun e' => by
    subst e'
    rw [hD.cell, Array.getElem?_eq_none (by omega)] at c5
    simp at c5
  exact ⟨g, o, e, by simpa [World.setCell] using hg, fun j hj => (World.cell?_of_block ((only_cell w D n.toNat v).block g hg hgl)).trans (hc j hj)⟩
section
variable {W w w' : World} {G : List Gm} {t n : Int} {AG : Option Addr} {cg : Nat}
theorem MoI.step (h : MoI W w G t n AG cg) (hb : Below w.heap.size w w') : MoI W w' G t n AG cg := ⟨h.bl.trans (hb.mono h.bl.size), h.fn.below hb h.fn.lt, h.it.step hb, h.wo.step hb⟩
theorem Wo.loop {l : Nat} {rc : Loop} (h : Wo w) (hl : w.heap[l]? = some (.loop rc)) (ho : Only (· = l) w w') : Wo w' := by
  have hne : ¬ 0 = l := fun e => by
    have c0 := h.c 0 (by omega)
    subst e
    simp [World.cell?, hl] at c0
  exact ⟨by have := h.lt; have := ho.size; omega, fun i hi => (World.cell?_of_block (ho.block 0 h.lt hne)).trans (h.c i hi)⟩
theorem MoI.loop {l : Nat} {rc : Loop} (h : MoI W w G t n AG cg) (hWl : W.heap.size ≤ l) (hl : w.heap[l]? = some (.loop rc)) (ho : Only (· = l) w w') : MoI W w' G t n AG cg :=
  ⟨below_loop h.bl hWl ho, h.fn.only ho (has_ne_loop h.fn hl), h.it.loop hl ho, h.wo.loop hl ho⟩
theorem Wo.set1 (h : Wo w) {D : Nat} {T : TypeId} {cs : Array Value} (hD : Has w D T cs) (hs : cs.size < 8) (v : Value) : Wo (w.setCell ⟨D, 0, none⟩ v) := by
  have hne : ¬ 0 = D := fun e => by
    have c0 := h.c 7 (by omega)
    subst e
    rw [hD.cell, Array.getElem?_eq_none (by omega)] at c0
    simp at c0
  exact ⟨by have := h.lt; simpa [World.setCell] using this, fun i hi => (World.cell?_of_block ((only_cell w D 0 v).block 0 h.lt hne)).trans (h.c i hi)⟩
theorem MoI.set (h : MoI W w G t n AG cg) (m : Int) : MoI W (w.setCell ⟨W.heap.size + 1, 0, none⟩ (.int .i64 m)) G t m AG cg := by
  have ho := only_cell w (W.heap.size + 1) 0 (.int .i64 m)
  exact ⟨h.bl.setCell (p := ⟨W.heap.size + 1, 0, none⟩) (by simp) _, h.fn.set 0 _, ⟨h.it.fg.only ho (by show ¬ W.heap.size + 1 + 1 = W.heap.size + 1; omega), h.it.ft.only ho (by show ¬ W.heap.size + 1 + 1 + 1 = W.heap.size + 1; omega), row_far (n := 0) h.it.r h.fn (by simp) _, h.it.l⟩, h.wo.set1 h.fn (by simp) _⟩
end
def mostK (G : List Gm) (t : Int) (k : Nat) : Int := ((((ofT t G).take k).filter openB).length : Int) * 3
theorem most_succ {G : List Gm} {t : Int} {k : Nat} {g : Gm} (h : (ofT t G)[k]? = some g) : mostK G t (k + 1) = mostK G t k + if openB g then 3 else 0 := by
  obtain ⟨hk, rfl⟩ := List.getElem?_eq_some_iff.1 h
  unfold mostK
  rw [List.take_succ_eq_append_getElem hk, List.filter_append, List.length_append]
  cases ho : openB (ofT t G)[k] <;> simp [ho] <;> omega
theorem most_bd (G : List Gm) (t : Int) (k : Nat) : 0 ≤ mostK G t k ∧ mostK G t k ≤ 3 * G.length := by
  unfold mostK
  have h1 := List.length_filter_le openB ((ofT t G).take k)
  have h2 : ((ofT t G).take k).length ≤ G.length := by rw [List.length_take]; have := List.length_filter_le (hasB t) G; unfold ofT; omega
  omega
set_option maxRecDepth 100000 in
set_option maxHeartbeats 2000000 in
theorem mostToGain_any (x : Lg) (AF AG : Option Addr) (cf cg : Nat) (t : Int) (W : World) (hW : Wo W) (hr : LgR W W.heap.size x AF AG) (hl : x.G.length ≤ 64) :
    Calls Tryd.prog 47 #[lgv x AF AG cf cg, .int .i64 t] W (IntPost (mostP x.G t) W) := by
  have HG := Lib.hid (fun w => gamesOf_any AG x.G.length cg t w)
  have HO := Lib.hid (fun g w => isOpen_any g w)
  have HMS := Lib.hid (fun k g (h : (ofT t x.G)[k]? = some g) => most_succ h)
  have HMB := Lib.hid (fun k => most_bd x.G t k)
  have HE : Hid (mostP x.G t = mostK x.G t (ofT t x.G).length) := Lib.hid (by unfold mostP mostK; rw [List.take_of_length_le (Nat.le_refl _)])
  have HR := Lib.hid (And.intro hr hW)
  have hz0 : mostK x.G t 0 = 0 := by simp [mostK]
  have HZ0 := Lib.hid hz0
  clear hr hW hz0
  unfold lgv
  refine (callsIn_wide (n := 3)).1 ?_
  refine callsIn_of_wp_marks Tryd.func47 rfl trivial ?_
  simp only [Tryd.ntmps47, List.size_toArray, List.length_cons, List.length_nil, Nat.reduceAdd, Nat.reduceSub, Array.replicate_succ, Array.replicate_zero, List.push_toArray, List.append_toArray, List.nil_append, List.cons_append]
  refine wpIn_wide.2 ?_
  go_upto_region 1 with fail
  have H1 : Hid (LX W (W.alloc (.cells (lgc x AF AG cf cg) 25)) W.heap.size x AF AG cf cg ∧ Wo (W.alloc (.cells (lgc x AF AG cf cg) 25))) := Lib.hid ⟨LX.start HR.out.1, HR.out.2.step (below_one _ _)⟩
  have hz : (W.alloc (.cells (lgc x AF AG cf cg) 25)).heap.size = W.heap.size + 1 := by simp
  generalize W.alloc (.cells (lgc x AF AG cf cg) 25) = w9 at H1 hz ⊢
  clear HR
  have x1 : w9.cell? ⟨W.heap.size, 1, none⟩ = some (.slice AG x.G.length cg) := H1.out.1.fx.cell 1
  have xl := H1.out.1.fx.lt
  have HZ := Lib.hid hz
  clear hz
  go_wp2_with fail
  refine (HG.out _).mono ?_
  rintro e w1 ⟨rfl, rfl⟩
  have H0 : Hid (MoI W (((w9.alloc (.cells #[.int .i64 0] 3)).alloc (.cells #[.slice AG x.G.length cg] 23)).alloc (.cells #[.int .i64 t] 3)) x.G t (mostK x.G t 0) AG cg) := by
    have h1 : Below w9.heap.size w9 (w9.alloc (.cells #[.int .i64 0] 3)) := below_one w9 _
    have h2 := git_new (W := w9.alloc (.cells #[.int .i64 0] 3)) (c := cg) (t := t) ((H1.out.1.up.g.below h1).more h1.size) H1.out.1.r.lg
    rw [World.size_alloc, HZ.out] at h2
    have h3 : Below w9.heap.size w9 (((w9.alloc (.cells #[.int .i64 0] 3)).alloc (.cells #[.slice AG x.G.length cg] 23)).alloc (.cells #[.int .i64 t] 3)) := h1.trans ((below_two _ _ _).mono (by simp))
    rw [HZ0.out]
    exact Lib.hid ⟨H1.out.1.b.trans (h3.mono H1.out.1.b.size), ((has_newAt (by rw [HZ.out])).alloc _).alloc _, h2, H1.out.2.step h3⟩
  have HZ4 : Hid ((((w9.alloc (.cells #[.int .i64 0] 3)).alloc (.cells #[.slice AG x.G.length cg] 23)).alloc (.cells #[.int .i64 t] 3)).heap.size = W.heap.size + 4) := Lib.hid (by simp [HZ.out])
  have hz := HZ.out
  clear x1 xl H1 HG HZ0
  go_wp2_with fail
  clear hz HZ
  generalize ((w9.alloc (.cells #[.int .i64 0] 3)).alloc (.cells #[.slice AG x.G.length cg] 23)).alloc (.cells #[.int .i64 t] 3) = w0 at H0 HZ4 ⊢
  refine wp_range_seq (gf := 53) (xs := (ofT t x.G).map fun g => #[gmv g]) (Rd := fun w => GIt w (W.heap.size + 1 + 1) (W.heap.size + 1 + 1 + 1) x.G t AG cg) rfl enters53 (games_it _ _ x.G t AG cg) xs_size
    (· = W.heap.size + 1) (fun k w => MoI W w x.G t (mostK x.G t k) AG cg) (fun _ _ => False)
    (fun i hi => by have := HZ4.out; omega) (fun k w h => h.it) (fun k w w' h hb => h.step hb) (fun k l w w' rc h h1 h2 h3 => h.loop (by have := HZ4.out; omega) h2 h3) (fun cd l w w' rc h h1 h2 h3 => h)
    H0.out ?round ?q0 ?q1
  case round =>
    intro k args l rc W1 hk hI hlt hlr
    obtain ⟨g, hg, rfl⟩ := xs_at hk
    have HI := Lib.hid (And.intro hI (And.intro hlt hlr))
    have HSk := Lib.hid (HMS.out k g hg)
    clear hk hI hg hlt hlr H0 HE
    have hmb := HMB.out k
    unfold gmv at *
    rw [zip1]
    gi_wp2_with (fail)
    have H1 : Hid (MoI W (W1.alloc (.cells (gmc g) 53)) x.G t (mostK x.G t k) AG cg ∧ Has (W1.alloc (.cells (gmc g) 53)) W1.heap.size 53 (gmc g) ∧ (W1.alloc (.cells (gmc g) 53)).heap[l]? = some (.loop rc) ∧ l < W1.heap.size) := Lib.hid ⟨HI.out.1.step (below_one _ _), Has.new _ _ _, (Below.heap_alloc _ _ _ (Array.getElem?_eq_some_iff.1 HI.out.2.2).1).trans HI.out.2.2, (Array.getElem?_eq_some_iff.1 HI.out.2.2).1⟩
    refine (show Below _ _ _ ∧ _ from ⟨below_one _ _, ?_⟩)
    generalize W1.alloc (.cells (gmc g) 53) = w1 at H1 ⊢
    generalize W1.heap.size = E at H1 ⊢
    intro w2 rc' ho hl2
    have H2 : Hid (MoI W w2 x.G t (mostK x.G t k) AG cg ∧ Has w2 E 53 (gmc g)) := Lib.hid ⟨H1.out.1.loop (by have := HI.out.2.1; have := HZ4.out; omega) H1.out.2.2.1 ho, H1.out.2.1.only ho (by have := H1.out.2.2.2; omega)⟩
    have HOk := Lib.hid (fun w => HO.out g w)
    clear ho hl2 H1 HI
    have y0 : w2.cell? ⟨E, 0, none⟩ = some (.int .i64 g.day) := H2.out.2.cell 0
    have y1 : w2.cell? ⟨E, 1, none⟩ = some (.int .i64 g.home) := H2.out.2.cell 1
    have y2 : w2.cell? ⟨E, 2, none⟩ = some (.int .i64 g.away) := H2.out.2.cell 2
    have y3 : w2.cell? ⟨E, 3, none⟩ = some (.int .i64 g.fin) := H2.out.2.cell 3
    have y4 : w2.cell? ⟨E, 4, none⟩ = some (.int .i64 g.hg) := H2.out.2.cell 4
    have y5 : w2.cell? ⟨E, 5, none⟩ = some (.int .i64 g.ag) := H2.out.2.cell 5
    obtain ⟨m, hm⟩ : ∃ m, m = mostK x.G t k := ⟨_, rfl⟩
    rw [← hm] at H2 hmb HSk
    clear hm
    cases hop : openB g <;> rw [hop] at HOk HSk
    · have HQ : Hid (mostK x.G t (k + 1) = m) := Lib.hid (by rw [HSk.out]; simp)
      clear hop HSk
      gi_wp2_with (fail)
      refine ⟨trivial, CallsIn.inRound _ ((callsIn_wide.2 (HOk.out _)).mono ?_)⟩
      rintro e w3 ⟨rfl, hb3⟩
      have H3 := Lib.hid (And.intro hb3 (H2.out.1.step hb3))
      clear hb3 H2 y0 y1 y2 y3 y4 y5
      gi_wp2_with (fail)
      exact RQ.next (Only.of_below H3.out.1) (by rw [HQ.out]; exact H3.out.2)
    · have HQ : Hid (mostK x.G t (k + 1) = m + 3) := Lib.hid (by rw [HSk.out]; simp)
      clear hop HSk
      gi_wp2_with (fail)
      refine ⟨trivial, CallsIn.inRound _ ((callsIn_wide.2 (HOk.out _)).mono ?_)⟩
      rintro e w3 ⟨rfl, hb3⟩
      have H3 := Lib.hid (And.intro hb3 (H2.out.1.step hb3))
      clear hb3 H2 y0 y1 y2 y3 y4 y5
      have n0 : w3.cell? ⟨W.heap.size + 1, 0, none⟩ = some (.int .i64 m) := H3.out.2.fn.cell 0
      have nf := H3.out.2.fn.frozen 0
      have nl := H3.out.2.fn.lt
      have o0 : w3.cell? ⟨0, 0, none⟩ = some (.int .i64 3) := H3.out.2.wo.c 0 (by omega)
      gi_wp2_with (fail)
      exact RQ.next ((Only.of_below H3.out.1).trans (only_cell _ _ _ _)) (by rw [HQ.out]; exact H3.out.2.set (m + 3))
  case q0 =>
    intro w' hI hD
    rw [List.length_map] at hI
    have HI := Lib.hid (And.intro hI hD)
    clear hI hD H0
    rw [← HE.out] at HI
    have n0 : w'.cell? ⟨W.heap.size + 1, 0, none⟩ = some (.int .i64 (mostP x.G t)) := HI.out.1.fn.cell 0
    go_wp2_with fail
    exact leave_ret0 (D := w0.heap.size) (v := .int .i64 (mostP x.G t)) HI.out.2 (by simp [results, Tryd.results47, go_sem]) ⟨rfl, below_loop HI.out.1.bl (by have := HZ4.out; omega) (only_put _)⟩
  case q1 => exact fun _ _ h => h.elim
end Go.Proofs.YtljkgjfmambfoaaDoor
