/- Contracts: mayHave, tight. -/
import Derived.Test.YtipejhfgfciabaaHrB
import Derived.RegionTactic
import Derived.Deep.RegionHeld3
namespace Go.Proofs.Ytipejhfgfciabaa
open Go.RowKit
theorem and_one {m : Int} (h : 0 ≤ m ∧ m ≤ 127) : bits BinOp.and IntKind.i64 m 1 = m % 2 := by
  have H : ∀ k : Fin 128, bits BinOp.and IntKind.i64 (k.1 : Int) 1 = (k.1 : Int) % 2 := by decide
  have := H ⟨m.toNat, by omega⟩
  simp only at this
  rwa [show (m.toNat : Int) = m by omega] at this
theorem shr_bd {n : Int} {k : Nat} (h : 0 ≤ n ∧ n ≤ 127) : 0 ≤ n / 2 ^ k ∧ n / 2 ^ k ≤ 127 := by
  have hp : (0 : Int) < 2 ^ k := Int.pow_pos (by decide)
  exact ⟨Int.ediv_nonneg h.1 (by omega), Int.le_trans (Int.ediv_le_self _ h.1) h.2⟩
set_option maxRecDepth 100000 in
set_option maxHeartbeats 4000000 in
theorem mayHave_any (g : Gr) (h : Hr) (W : World) (hg : 0 ≤ g.days ∧ g.days ≤ 127) (hd : 0 ≤ h.day ∧ h.day ≤ 6) : Calls Try.prog 76 #[grv g, hrv h] W (BoolPost (mayB g h) W) := by
  have HB := Lib.hid ((below_one W (.cells (grc g) 49)).alloc (by simp) (.cells (hrc h) 88))
  have hb := and_one (shr_bd (k := h.day.toNat) hg)
  have hn : ∀ c, mayB g h = c → Hid (mayB g h = c) := fun b h => h
  unfold hrv grv
  have h3 : ¬ g.days / 2 ^ h.day.toNat % 2 = 1 ∨ (g.days / 2 ^ h.day.toNat % 2 = 1 ∧ ¬ g.early ≤ h.beg) ∨ (g.days / 2 ^ h.day.toNat % 2 = 1 ∧ g.early ≤ h.beg ∧ ¬ h.fin ≤ g.late) ∨ (g.days / 2 ^ h.day.toNat % 2 = 1 ∧ g.early ≤ h.beg ∧ h.fin ≤ g.late) := by
    rcases Int.emod_two_eq (g.days / 2 ^ h.day.toNat) with h | h
    · exact .inl (by omega)
    · omega
  obtain ⟨h0, h1⟩ := hg
  obtain ⟨h2, h4⟩ := hd
  rcases h3 with p0 | ⟨p0, p1⟩ | ⟨p0, p1, p2⟩ | ⟨p0, p1, p2⟩
  · have HE := hn false (by unfold mayB; simp [p0])
    have q0 : ¬ bits BinOp.and IntKind.i64 (g.days / 2 ^ h.day.toNat) 1 = 1 := by rw [hb]; exact p0
    clear hn hb p0
    go_enter Try.func76, Try.ntmps76
    go_wp2_with fail
    go_ret
    exact ⟨ret_bool (by first | exact HE.out.symm | (rw [HE.out]; simp <;> omega)), HB.out⟩
  all_goals
    have q0 : bits BinOp.and IntKind.i64 (g.days / 2 ^ h.day.toNat) 1 = 1 := by rw [hb]; exact p0
  · have HE := hn false (by unfold mayB; simp [p0]; omega)
    clear hn hb p0
    go_enter Try.func76, Try.ntmps76
    go_wp2_with fail
    go_ret
    exact ⟨ret_bool (by first | exact HE.out.symm | (rw [HE.out]; simp <;> omega)), HB.out⟩
  · have HE := hn false (by unfold mayB; simp [p0]; omega)
    clear hn hb p0
    go_enter Try.func76, Try.ntmps76
    go_wp2_with fail
    go_ret
    exact ⟨ret_bool (by first | exact HE.out.symm | (rw [HE.out]; simp <;> omega)), HB.out⟩
  · have HE := hn true (by unfold mayB; simp [p0, p1, p2])
    clear hn hb p0
    go_enter Try.func76, Try.ntmps76
    go_wp2_with fail
    go_ret
    exact ⟨ret_bool (by first | exact HE.out.symm | (rw [HE.out]; simp <;> omega)), HB.out⟩
/-- a row of hours, of groups, that lies below B -/
def HRow (w : World) (B : Nat) (A : Option Addr) (l : List Hr) : Prop :=
  ∀ k (h : k < l.length), ∃ g o, A = some ⟨g, o, none⟩ ∧ g < B ∧ ∀ j, j < 3 → w.cell? ⟨g, o + k * 3 + j, none⟩ = (hrc l[k])[j]?
def GRow (w : World) (B : Nat) (A : Option Addr) (l : List Gr) : Prop :=
  ∀ k (h : k < l.length), ∃ g o, A = some ⟨g, o, none⟩ ∧ g < B ∧ ∀ j, j < 5 → w.cell? ⟨g, o + k * 5 + j, none⟩ = (grc l[k])[j]?
/-- what the timetable's slices lead to -/
structure TR (W : World) (B : Nat) (x : Tt) (AH AG : Option Addr) : Prop where
  h : HRow W B AH x.H
  g : GRow W B AG x.G
  lh : x.H.length ≤ 9223372036854775807
  lg : x.G.length ≤ 9223372036854775807
theorem TR.below {w w' : World} {B : Nat} {x : Tt} {AH AG : Option Addr} (h : TR w B x AH AG) (hb : Below B w w') : TR w' B x AH AG :=
  ⟨fun k hk => by
    obtain ⟨g, o, e, hg, c⟩ := h.h k hk
    exact ⟨g, o, e, hg, fun j hj => (hb.cell (p := ⟨g, _, none⟩) hg).trans (c j hj)⟩,
   fun k hk => by
    obtain ⟨g, o, e, hg, c⟩ := h.g k hk
    exact ⟨g, o, e, hg, fun j hj => (hb.cell (p := ⟨g, _, none⟩) hg).trans (c j hj)⟩, h.lh, h.lg⟩
theorem TR.more {w : World} {B B' : Nat} {x : Tt} {AH AG : Option Addr} (h : TR w B x AH AG) (hB : B ≤ B') : TR w B' x AH AG :=
  ⟨fun k hk => by obtain ⟨g, o, e, hg, c⟩ := h.h k hk; exact ⟨g, o, e, by omega, c⟩, fun k hk => by obtain ⟨g, o, e, hg, c⟩ := h.g k hk; exact ⟨g, o, e, by omega, c⟩, h.lh, h.lg⟩
theorem TR.step {w w' : World} {x : Tt} {AH AG : Option Addr} (h : TR w w.heap.size x AH AG) (hb : Below w.heap.size w w') : TR w' w'.heap.size x AH AG := (h.below hb).more hb.size
abbrev ttc (x : Tt) (AH AG : Option Addr) (ch cg : Nat) : Array Value := #[.slice AH x.H.length ch, .slice AG x.G.length cg, .int .i64 x.R]
def ttv (x : Tt) (AH AG : Option Addr) (ch cg : Nat) : Value := .agg (ttc x AH AG ch cg)
/-- a valid timetable -/
structure VT (x : Tt) : Prop where
  R : 0 ≤ x.R ∧ x.R ≤ 120
  ng : x.G.length ≤ 5
  nh : x.H.length ≤ 12
  g : ∀ g ∈ x.G, (0 ≤ g.days ∧ g.days ≤ 127) ∧ (0 ≤ g.early ∧ g.early ≤ 1440) ∧ (0 ≤ g.late ∧ g.late ≤ 1440) ∧ (0 ≤ g.most ∧ g.most ≤ 12) ∧ (0 ≤ g.credit ∧ g.credit ≤ 1000)
  h : ∀ h ∈ x.H, (0 ≤ h.day ∧ h.day ≤ 6) ∧ 0 ≤ h.beg ∧ h.beg < h.fin ∧ h.fin ≤ 1440
theorem two_new (w : World) (x y : Array Value) (t : TypeId) : Below w.heap.size w ((w.alloc (.cells x t)).alloc (.cells y t)).drew ∧ Has ((w.alloc (.cells x t)).alloc (.cells y t)).drew w.heap.size t x ∧ Has ((w.alloc (.cells x t)).alloc (.cells y t)).drew (w.heap.size + 1) t y :=
  ⟨⟨rfl, rfl, rfl, ((below_one w (.cells x t)).alloc (by simp) (.cells y t)).size, ((below_one w (.cells x t)).alloc (by simp) (.cells y t)).block⟩, ((Has.new w t x).alloc _).drew, (has_newAt (by simp)).drew⟩
set_option maxRecDepth 100000 in
set_option maxHeartbeats 8000000 in
theorem tight_any (x : Tt) (AH AG : Option Addr) (ch cg i : Nat) (W : World) (hr : TR W W.heap.size x AH AG) (hi : i < x.H.length) (hv : VT x) : Calls Try.prog 77 #[ttv x AH AG ch cg, .int .i64 i] W (BoolPost (tightB x i) W) := by
  have HB := Lib.hid (And.intro (below_one W (.cells (ttc x AH AG ch cg) 25)) (Has.new W 25 (ttc x AH AG ch cg)))
  have hlh := hr.lh
  have hn : ∀ c, tightB x i = c → Hid (tightB x i = c) := fun b h => h
  unfold ttv
  by_cases h1 : i + 1 = x.H.length
  · have HE := hn false (by unfold tightB; rw [List.getElem?_eq_none (show x.H.length ≤ i + 1 by omega)]; cases x.H[i]? <;> rfl)
    have h1' : ((i : Int) + 1 == (x.H.length : Int)) = true := by simp; omega
    clear hn
    go_enter Try.func77, Try.ntmps77
    go_wp2_with fail
    go_ret
    exact ⟨ret_bool HE.out.symm, HB.out.1⟩
  have h2 : i + 1 < x.H.length := by omega
  have h1' : ((i : Int) + 1 == (x.H.length : Int)) = false := by simp; omega
  obtain ⟨g, o, e, hg, hc⟩ := hr.h i hi
  obtain ⟨g', o', e', hg', hc'⟩ := hr.h (i + 1) h2
  rw [e] at e'
  cases e'
  have ha := (hv.h _ (List.getElem_mem hi))
  have hb := (hv.h _ (List.getElem_mem h2))
  have ht : tightB x i = (decide (x.H[i].day = x.H[i + 1].day) && decide (x.H[i + 1].beg - x.H[i].fin < x.R)) := by
    unfold tightB; rw [List.getElem?_eq_getElem hi, List.getElem?_eq_getElem h2]
  rw [ht] at hn ⊢
  clear ht
  obtain ⟨a, hA⟩ : ∃ a, a = x.H[i] := ⟨_, rfl⟩
  obtain ⟨b, hB⟩ : ∃ b, b = x.H[i + 1] := ⟨_, rfl⟩
  rw [← hA] at ha hc
  rw [← hB] at hb hc'
  rw [← hA, ← hB] at hn ⊢
  have CL : ∀ y v, W.cell? ⟨g, y, none⟩ = some v → (W.alloc (.cells (ttc x AH AG ch cg) 25)).cell? ⟨g, y, none⟩ = some v := fun y v h => (HB.out.1.cell (p := ⟨g, y, none⟩) hg).trans h
  have HC := Lib.hid (And.intro (And.intro (CL _ _ (hc 0 (by omega))) (And.intro (CL _ _ (hc 1 (by omega))) (CL _ _ (hc 2 (by omega))))) (And.intro (CL _ _ (hc' 0 (by omega))) (And.intro (CL _ _ (hc' 1 (by omega))) (CL _ _ (hc' 2 (by omega))))))
  subst e
  clear hc hc' hA hB hr hg hg' CL
  go_enter Try.func77, Try.ntmps77
  go_upto_region 1 with fail
  have hsz : W.heap.size < (W.alloc (.cells (ttc x (some ⟨g, o, none⟩) AG ch cg) 25)).heap.size := by simp
  unfold ttc at HB HC hsz ⊢
  generalize W.alloc (.cells #[.slice (some ⟨g, o, none⟩) x.H.length ch, .slice AG x.G.length cg, .int .i64 x.R] 25) = w0 at HB HC hsz ⊢
  have c0 : w0.cell? ⟨g, o + i * 3, none⟩ = some (.int .i64 a.day) := HC.out.1.1
  have c1 : w0.cell? ⟨g, o + i * 3 + 1, none⟩ = some (.int .i64 a.beg) := HC.out.1.2.1
  have c2 : w0.cell? ⟨g, o + i * 3 + 2, none⟩ = some (.int .i64 a.fin) := HC.out.1.2.2
  have d0 : w0.cell? ⟨g, o + (i + 1) * 3, none⟩ = some (.int .i64 b.day) := HC.out.2.1
  have d1 : w0.cell? ⟨g, o + (i + 1) * 3 + 1, none⟩ = some (.int .i64 b.beg) := HC.out.2.2.1
  have d2 : w0.cell? ⟨g, o + (i + 1) * 3 + 2, none⟩ = some (.int .i64 b.fin) := HC.out.2.2.2
  have t0 : w0.cell? ⟨W.heap.size, 0, none⟩ = some (.slice (some ⟨g, o, none⟩) x.H.length ch) := HB.out.2.cell 0
  have t2 : w0.cell? ⟨W.heap.size, 2, none⟩ = some (.int .i64 x.R) := HB.out.2.cell 2
  go_upto_region 3 with fail
  have e1 : IntKind.i64.wrap ((i : Int) + 1) = (i : Int) + 1 := IntWalk.i64_in _ (by omega)
  have e2 : ((i : Int) + 1).toNat = i + 1 := by omega
  have e3 : (0 : Int) ≤ (i : Int) + 1 := by omega
  have e4 : (i : Int) + 1 < x.H.length := by omega
  have e5 : (i : Int) < x.H.length := by omega
  go_cut [5, 6] (fun u v wx => ∃ p q, u = .pointer (some ⟨p, 0, none⟩) ∧ v = .pointer (some ⟨q, 0, none⟩) ∧ Hid (Below w0.heap.size w0 wx ∧ Has wx p 88 (hrc a) ∧ Has wx q 88 (hrc b)))
  case first =>
    go_region_held3 (fun w' => w'.cell? ⟨W.heap.size, 0, none⟩ = some (.slice (some ⟨g, o, none⟩) x.H.length ch) ∧ w'.cell? ⟨g, o + i * 3, none⟩ = some (.int .i64 a.day) ∧ w'.cell? ⟨g, o + i * 3 + 1, none⟩ = some (.int .i64 a.beg) ∧ w'.cell? ⟨g, o + i * 3 + 2, none⟩ = some (.int .i64 a.fin) ∧ w'.cell? ⟨g, o + (i + 1) * 3, none⟩ = some (.int .i64 b.day) ∧ w'.cell? ⟨g, o + (i + 1) * 3 + 1, none⟩ = some (.int .i64 b.beg) ∧ w'.cell? ⟨g, o + (i + 1) * 3 + 2, none⟩ = some (.int .i64 b.fin)) (go_keep) (fail)
    all_goals (try go_wp2_with fail)
    all_goals go_meet
    all_goals first | exact ⟨_, _, rfl, rfl, Lib.hid (two_new w0 (hrc a) (hrc b) 88)⟩ | exact ⟨_, _, rfl, rfl, Lib.hid ⟨(two_new w0 (hrc b) (hrc a) 88).1, (two_new w0 (hrc b) (hrc a) 88).2.2, (two_new w0 (hrc b) (hrc a) 88).2.1⟩⟩
  case rest =>
    obtain ⟨p, q, rfl, rfl, HX⟩ := hcut
    rename World => wx
    clear c0 c1 c2 d0 d1 d2 e1 e2 e3 e4 e5 h1'
    have a0 : wx.cell? ⟨p, 0, none⟩ = some (.int .i64 a.day) := HX.out.2.1.cell 0
    have a1 : wx.cell? ⟨p, 1, none⟩ = some (.int .i64 a.beg) := HX.out.2.1.cell 1
    have a2 : wx.cell? ⟨p, 2, none⟩ = some (.int .i64 a.fin) := HX.out.2.1.cell 2
    have b0 : wx.cell? ⟨q, 0, none⟩ = some (.int .i64 b.day) := HX.out.2.2.cell 0
    have b1 : wx.cell? ⟨q, 1, none⟩ = some (.int .i64 b.beg) := HX.out.2.2.cell 1
    have b2 : wx.cell? ⟨q, 2, none⟩ = some (.int .i64 b.fin) := HX.out.2.2.cell 2
    have t3 : wx.cell? ⟨W.heap.size, 2, none⟩ = some (.int .i64 x.R) := (HX.out.1.cell (p := ⟨W.heap.size, 2, none⟩) hsz).trans t2
    have HB3 := Lib.hid (show Below W.heap.size W wx from HB.out.1.trans (HX.out.1.mono (Nat.le_of_lt hsz)))
    clear t0 t2 HC
    obtain ⟨⟨x1, x2⟩, x3, x4, x5⟩ := ha
    obtain ⟨⟨y1, y2⟩, y3, y4, y5⟩ := hb
    by_cases k1 : a.day = b.day
    rotate_left
    · have HE := hn false (by simp [k1])
      have k2 : (a.day == b.day) = false := by simpa using k1
      clear hn
      go_wp2_with fail
      go_ret
      exact ⟨ret_bool HE.out.symm, HB3.out⟩
    have k2 : (a.day == b.day) = true := by simpa using k1
    have K1 := Lib.hid k1
    clear hn k1
    by_cases k4 : b.beg - a.fin < x.R
    all_goals
      go_wp2_with fail
      go_ret
      exact ⟨ret_bool (by simp [K1.out]; try omega), HB3.out⟩
end Go.Proofs.Ytipejhfgfciabaa
