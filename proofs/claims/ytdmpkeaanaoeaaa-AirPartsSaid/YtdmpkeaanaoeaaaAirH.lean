/- Contract: comes. -/
import Derived.Test.YtdmpkeaanaoeaaaAirG
namespace Go.Proofs.Ytdmpkeaanaoeaaa
open Go.RowKit
theorem has_newAt {w : World} {t : TypeId} {cs : Array Value} {n : Nat} (h : n = w.heap.size) : Has (w.alloc (.cells cs t)) n t cs := by subst h; exact Has.new _ _ _
/-- what comes has boxed -/
structure CIn (W w : World) (a : Air) (A B : Option Addr) (ca cb : Nat) (s : Stp) : Prop where
  b : Below W.heap.size W w
  a : Has w W.heap.size 26 (airc a A B ca cb)
  s : Has w (W.heap.size + 1) 50 (stpc s)
  r : Has w (W.heap.size + 2) 24 #[.int .i64 0, .int .i64 0]
theorem CIn.step {W w w' : World} {a : Air} {A B : Option Addr} {ca cb : Nat} {s : Stp} (h : CIn W w a A B ca cb s) (hb : Below w.heap.size w w') : CIn W w' a A B ca cb s :=
  ⟨h.b.trans (hb.mono h.b.size), h.a.below hb h.a.lt, h.s.below hb h.s.lt, h.r.below hb h.r.lt⟩
theorem box_three (W : World) (a : Air) (A B : Option Addr) (ca cb : Nat) (s : Stp) : CIn W (((W.alloc (.cells (airc a A B ca cb) 26)).alloc (.cells (stpc s) 50)).alloc (.cells #[.int .i64 0, .int .i64 0] 24)) a A B ca cb s := by
  obtain ⟨h1, h2, h3⟩ := box_two W a A B ca cb s
  exact ⟨h1.alloc (by simp; omega) _, h2.alloc _, h3.alloc _, has_newAt (by simp)⟩
def CutP (W wx : World) (a : Air) (A B : Option Addr) (ca cb : Nat) (s : Stp) (x : Nat) (p q : Int) : Prop := CIn W wx a A B ca cb s ∧ Has wx x 24 #[.int .i64 p, .int .i64 q] ∧ W.heap.size + 2 < x
theorem below_drew (w : World) : Below w.heap.size w w.drew := ⟨rfl, rfl, rfl, Nat.le_refl _, fun _ _ => rfl⟩
set_option maxRecDepth 100000 in
set_option maxHeartbeats 4000000 in
theorem comes_any (a : Air) (A B : Option Addr) (ca cb : Nat) (s : Stp) (W : World) (hv : VA a) (hs : VS a s) :
    Calls Try.prog 66 #[airv a A B ca cb, stpv s] W (SpanPost (comesLo a s) (comesHi a s) W) := by
  have HB := Lib.hid (box_three W a A B ca cb s)
  have hR := hv.R; have hb := hv.b; have ho := hs.o; have hp := hs.p; have hst := hs.st; have hg := hs.g
  have m0 := prod_bd (x := a.R) (y := s.o0) (m := 1048576) (n := 100000) (by omega) (by omega)
  have m1 := prod_bd (x := a.R) (y := s.o1) (m := 1048576) (n := 100000) (by omega) (by omega)
  have b0 := prod_bd (x := s.ppl) (y := a.b0) (m := 16384) (n := 1048576) (by omega) (by omega)
  have b1 := prod_bd (x := s.ppl) (y := a.b1) (m := 16384) (n := 1048576) (by omega) (by omega)
  have P0 := fun w => part_any (a.R * s.o0) s.chg w m0.1 (by omega) hg.1 hg.2
  have P1 := fun w => part_any (a.R * s.o1) s.chg w m1.1 (by omega) hg.1 hg.2
  have p0 := part_bd m0.1 hg.1 hg.2
  have p1 := part_bd m1.1 hg.1 hg.2
  have e0 : IntKind.i64.wrap (a.R * s.o0) = a.R * s.o0 := IntWalk.i64_in _ (by omega)
  have e1 : IntKind.i64.wrap (a.R * s.o1) = a.R * s.o1 := IntWalk.i64_in _ (by omega)
  obtain ⟨l, hl⟩ : ∃ l, l = [(partP (a.R * s.o0) s.chg, partP (a.R * s.o1) s.chg), (s.ppl * a.b0, s.ppl * a.b1), (s.s0, s.s1)] := ⟨_, rfl⟩
  have hl3 : l.length = 3 := by rw [hl]; rfl
  have HS := Lib.hid (fun (A : Option Addr) ca w h => by
    have := sum_any l A ca w h (by omega) (by rw [hl]; intro p hp; simp at hp; rcases hp with rfl | rfl | rfl <;> simp only <;> omega)
    rw [hl3] at this
    exact this)
  have HN := Lib.hid (show sum0 l 3 = comesLo a s ∧ sum1 l 3 = comesHi a s by
    rw [hl]; unfold sum0 sum1 comesLo comesHi; simp; omega)
  have HL := Lib.hid hl
  obtain ⟨x, hx⟩ : ∃ x, x = partP (a.R * s.o0) s.chg := ⟨_, rfl⟩
  obtain ⟨y, hy⟩ : ∃ y, y = partP (a.R * s.o1) s.chg := ⟨_, rfl⟩
  rw [← hx] at P0 HL p0
  rw [← hy] at P1 HL p1
  have HP0 := Lib.hid P0
  have HP1 := Lib.hid P1
  clear hv hs P0 P1 hl hx hy hl3
  unfold airv stpv
  go_enter Try.func66, Try.ntmps66
  go_wp2_with fail
  generalize ((W.alloc (.cells (airc a A B ca cb) 26)).alloc (.cells (stpc s) 50)).alloc (.cells #[.int .i64 0, .int .i64 0] 24) = w0 at HB ⊢
  have c0 : w0.cell? ⟨W.heap.size, 0, none⟩ = some (.int .i64 a.R) := HB.out.a.cell 0
  have c3 : w0.cell? ⟨W.heap.size + 1, 2, none⟩ = some (.int .i64 s.chg) := HB.out.s.cell 2
  have c4 : w0.cell? ⟨W.heap.size + 1, 3, none⟩ = some (.int .i64 s.o0) := HB.out.s.cell 3
  have c5 : w0.cell? ⟨W.heap.size + 1, 4, none⟩ = some (.int .i64 s.o1) := HB.out.s.cell 4
  have hlw := HB.out.r.lt
  go_cut [5] (fun a5 wx => ∃ z, a5 = .pointer (some ⟨z, 0, none⟩) ∧ Hid (CutP W wx a A B ca cb s z x y))
  case first =>
    go_region_held3 (fun w' => w'.cell? ⟨W.heap.size, 0, none⟩ = some (.int .i64 a.R) ∧ w'.cell? ⟨W.heap.size + 1, 2, none⟩ = some (.int .i64 s.chg) ∧ w'.cell? ⟨W.heap.size + 1, 3, none⟩ = some (.int .i64 s.o0) ∧ w'.cell? ⟨W.heap.size + 1, 4, none⟩ = some (.int .i64 s.o1)) (go_keep) ((go_at_call 67; first | ((with_reducible refine (HP0.out _).mono ?_); rintro r wb ⟨rfl, rfl⟩) | ((with_reducible refine (HP1.out _).mono ?_); rintro r wb ⟨rfl, rfl⟩)))
    all_goals (try go_wp2_with fail)
    all_goals go_meet
    all_goals exact ⟨_, rfl, Lib.hid ⟨HB.out.step (below_dr (below_one w0 _)), (Has.new w0 24 _).drew, hlw⟩⟩
  case rest =>
    obtain ⟨z, rfl, HC⟩ := hcut
    rename World => wx
    have d0 : wx.cell? ⟨W.heap.size, 3, none⟩ = some (.int .i64 a.b0) := HC.out.1.a.cell 3
    have d1 : wx.cell? ⟨W.heap.size, 4, none⟩ = some (.int .i64 a.b1) := HC.out.1.a.cell 4
    have d2 : wx.cell? ⟨W.heap.size + 1, 1, none⟩ = some (.int .i64 s.ppl) := HC.out.1.s.cell 1
    have d3 : wx.cell? ⟨W.heap.size + 1, 5, none⟩ = some (.int .i64 s.s0) := HC.out.1.s.cell 5
    have d4 : wx.cell? ⟨W.heap.size + 1, 6, none⟩ = some (.int .i64 s.s1) := HC.out.1.s.cell 6
    have d5 : wx.cell? ⟨z, 0, none⟩ = some (.int .i64 x) := HC.out.2.1.cell 0
    have d6 : wx.cell? ⟨z, 1, none⟩ = some (.int .i64 y) := HC.out.2.1.cell 1
    have l1 := HC.out.1.a.lt
    have l2 := HC.out.1.s.lt
    have l3 := HC.out.1.r.lt
    have l4 := HC.out.2.1.lt
    clear c0 c3 c4 c5 hlw HP0 HP1
    go_wp2_with fail
    have HR : Hid (PRow ((wx.alloc (.cells #[.int .i64 (s.ppl * a.b0), .int .i64 (s.ppl * a.b1)] 24)).alloc (.cells #[.int .i64 x, .int .i64 y, .int .i64 (s.ppl * a.b0), .int .i64 (s.ppl * a.b1), .int .i64 s.s0, .int .i64 s.s1] 24)) (wx.heap.size + 2) (some ⟨wx.heap.size + 1, 0, none⟩) l) := by
      have hh : Has ((wx.alloc (.cells #[.int .i64 (s.ppl * a.b0), .int .i64 (s.ppl * a.b1)] 24)).alloc (.cells #[.int .i64 x, .int .i64 y, .int .i64 (s.ppl * a.b0), .int .i64 (s.ppl * a.b1), .int .i64 s.s0, .int .i64 s.s1] 24)) (wx.heap.size + 1) 24 #[.int .i64 x, .int .i64 y, .int .i64 (s.ppl * a.b0), .int .i64 (s.ppl * a.b1), .int .i64 s.s0, .int .i64 s.s1] := has_newAt (by simp)
      have hl := HL.out
      subst hl
      intro k hk
      have h3 : k = 0 ∨ k = 1 ∨ k = 2 := by simp at hk; omega
      rcases h3 with rfl | rfl | rfl
      · exact ⟨_, 0, rfl, by omega, hh.cell 0, hh.cell 1⟩
      · exact ⟨_, 0, rfl, by omega, hh.cell 2, hh.cell 3⟩
      · exact ⟨_, 0, rfl, by omega, hh.cell 4, hh.cell 5⟩
    have hbx : Below wx.heap.size wx ((wx.alloc (.cells #[.int .i64 (s.ppl * a.b0), .int .i64 (s.ppl * a.b1)] 24)).alloc (.cells #[.int .i64 x, .int .i64 y, .int .i64 (s.ppl * a.b0), .int .i64 (s.ppl * a.b1), .int .i64 s.s0, .int .i64 s.s1] 24)) := (below_one _ _).alloc (by simp) _
    have HX := Lib.hid (HC.out.1.step hbx)
    have hsz : ((wx.alloc (.cells #[.int .i64 (s.ppl * a.b0), .int .i64 (s.ppl * a.b1)] 24)).alloc (.cells #[.int .i64 x, .int .i64 y, .int .i64 (s.ppl * a.b0), .int .i64 (s.ppl * a.b1), .int .i64 s.s0, .int .i64 s.s1] 24)).heap.size = wx.heap.size + 2 := by simp
    generalize ((wx.alloc (.cells #[.int .i64 (s.ppl * a.b0), .int .i64 (s.ppl * a.b1)] 24)).alloc (.cells #[.int .i64 x, .int .i64 y, .int .i64 (s.ppl * a.b0), .int .i64 (s.ppl * a.b1), .int .i64 s.s0, .int .i64 s.s1] 24)) = wy at HR HX hsz ⊢
    rw [← hsz] at HR
    refine (HS.out _ _ _ HR.out).mono ?_
    rintro e w5 ⟨rfl, hb5⟩
    have HY := Lib.hid (HX.out.step hb5)
    clear hb5 hbx hsz d0 d1 d2 d3 d4 d5 d6
    have f0 := HY.out.r.frozen
    have l5 := HY.out.r.lt
    have r0 : w5.cell? ⟨W.heap.size + 2, 0, none⟩ = some (.int .i64 0) := HY.out.r.cell 0
    have r1 : w5.cell? ⟨W.heap.size + 2, 1, none⟩ = some (.int .i64 0) := HY.out.r.cell 1
    obtain ⟨p, hp⟩ : ∃ p, p = sum0 l 3 := ⟨_, rfl⟩
    obtain ⟨q, hq⟩ : ∃ q, q = sum1 l 3 := ⟨_, rfl⟩
    have HE := Lib.hid (And.intro (hp.trans HN.out.1) (hq.trans HN.out.2))
    rw [← hp, ← hq]
    clear hp hq
    go_wp2_with fail
    have hs2 := (HY.out.r.set 0 (.int .i64 p)).set 1 (.int .i64 q)
    have hbw := (HY.out.b.setCell (p := ⟨W.heap.size + 2, 0, none⟩) (by simp only; omega) (.int .i64 p)).setCell (p := ⟨W.heap.size + 2, 1, none⟩) (by simp only; omega) (.int .i64 q)
    generalize (w5.setCell ⟨W.heap.size + 2, 0, none⟩ (.int .i64 p)).setCell ⟨W.heap.size + 2, 1, none⟩ (.int .i64 q) = w9 at hs2 hbw ⊢
    have q0 := hs2.cell 0
    have q1 := hs2.cell 1
    simp at q0 q1
    refine bodyPost_ret (v := .agg #[.int .i64 p, .int .i64 q]) (by simp [results, Try.results66, go_sem, q0, q1]) rfl ?_
    exact ⟨by rw [HE.out.1, HE.out.2], hbw⟩
end Go.Proofs.Ytdmpkeaanaoeaaa
