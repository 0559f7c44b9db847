/- The contract of alive. -/
import Derived.Test.YtogabjlhecnbbaaIceLaw
namespace Go.Proofs.Ytogabjlhecnbbaa
open Go.RowKit Go.Shelf

theorem zrow_of_has {w : World} {B n : Nat} {zs : List Zn} {t : TypeId} (h : Has w B t (flat zs)) (hn : B < n) : ZRow w n (some ⟨B, 0, none⟩) zs := fun k hk => by
  obtain ⟨h0, h1, h2, h3⟩ := flat_at hk
  refine ⟨B, 0, rfl, hn, ?_, ?_, ?_, ?_⟩ <;> rw [Nat.zero_add, h.cell] <;> assumption
theorem eflat_get (es : List Ev) (i : Nat) (h : i < es.length) (j : Nat) (hj : j < 5) : (eflat es)[i * 5 + j]? = [iv es[i].k, iv es[i].f, iv es[i].t, iv es[i].x, iv es[i].y][j]? := by
  unfold eflat
  simp only [List.getElem?_toArray]
  induction es generalizing i with
  | nil => exact absurd h (by simp)
  | cons z es ih =>
    cases i with
    | zero =>
      simp only [List.flatMap_cons, Nat.zero_mul, Nat.zero_add, List.getElem_cons_zero]
      rw [List.getElem?_append_left (by simpa using hj)]
    | succ i =>
      simp only [List.flatMap_cons, List.getElem_cons_succ]
      rw [List.getElem?_append_right (by simp; omega), ← ih i (by simpa using h)]
      congr 1
      simp; omega
theorem erow_of_has {w : World} {B n : Nat} {es : List Ev} {t : TypeId} (h : Has w B t (eflat es)) (hn : B < n) : ERow w n (some ⟨B, 0, none⟩) es := fun k hk => by
  refine ⟨B, 0, rfl, hn, ?_, ?_, ?_, ?_, ?_⟩ <;> rw [Nat.zero_add, h.cell]
  · have := eflat_get es k hk 0 (by omega); simpa using this
  · have := eflat_get es k hk 1 (by omega); simpa using this
  · have := eflat_get es k hk 2 (by omega); simpa using this
  · have := eflat_get es k hk 3 (by omega); simpa using this
  · have := eflat_get es k hk 4 (by omega); simpa using this

def smEnd : List Zn := [⟨2950, 3080, 1000, 1100⟩, ⟨2720, 2910, 1000, 1000⟩]
def smSum : Sm := ⟨240, 260, 200, 300, 40, 100⟩
theorem play_sample : playR smZ smE = ⟨smEnd, smSum, 4, 0⟩ := by decide +kernel
theorem water_sample : waterR smZ 20 50 100 150 3 2700 3350 = (167, 170, 0) := by decide +kernel

def PSPost (wa : World) (r : Ending) (wb : World) : Prop :=
  ∃ B3, r = .returned (.tuple #[.slice (some ⟨B3, 0, none⟩) 2 2, .agg #[iv 240, iv 260, iv 200, iv 300, iv 40, iv 100], iv 4, iv 0]) ∧ Below wa.heap.size wa wb ∧ wa.heap.size ≤ B3 ∧ Has wb B3 60 (flat smEnd)
theorem play_sm (B1 B2 : Nat) (wa : World) (h1 : Has wa B1 60 (flat smZ)) (h2 : Has wa B2 54 (eflat smE)) : Calls Try.prog 15 #[.slice (some ⟨B1, 0, none⟩) 2 2, .slice (some ⟨B2, 0, none⟩) 4 4] wa (PSPost wa) := by
  refine (play_any smZ smE (some ⟨B1, 0, none⟩) 2 (some ⟨B2, 0, none⟩) 4 wa (zrow_of_has h1 h1.lt) (erow_of_has h2 h2.lt) (by decide) (by decide)).mono ?_
  rw [play_sample]
  rintro r wb ⟨sl, rfl, hbb, (⟨h, _⟩ | ⟨_, B3, g3, rfl, hR⟩)⟩
  · exact absurd rfl h
  · exact ⟨B3, rfl, hbb, g3, hR⟩
theorem water_sm (B1 : Nat) (wa : World) (h1 : Has wa B1 60 (flat smZ)) : Calls Try.prog 25 #[.slice (some ⟨B1, 0, none⟩) 2 2, sv 20 50, sv 100 150, iv 3, iv 2700, iv 3350] wa fun r wb => r = .returned (.tuple #[sv 167 170, iv 0]) ∧ Below wa.heap.size wa wb := by
  refine (water_any 20 50 100 150 3 2700 3350 smZ (some ⟨B1, 0, none⟩) 2 wa (zrow_of_has h1 h1.lt) (by decide)).mono ?_
  rw [water_sample]
  rintro r wb ⟨rfl, hb⟩
  exact ⟨rfl, hb⟩
theorem same_sm (B3 B4 : Nat) (wa : World) (h1 : Has wa B3 60 (flat smEnd)) (h2 : Has wa B4 60 (flat smEnd)) : Calls Try.prog 19 #[.slice (some ⟨B3, 0, none⟩) 2 2, .slice (some ⟨B4, 0, none⟩) 2 2] wa fun r wb => r = .returned (.bool true) ∧ Below wa.heap.size wa wb := by
  refine (same_any smEnd smEnd (some ⟨B3, 0, none⟩) (some ⟨B4, 0, none⟩) 2 2 wa (zrow_of_has h1 h1.lt) (zrow_of_has h2 h2.lt) (by decide) (by decide)).mono ?_
  rintro r wb ⟨rfl, hb⟩
  exact ⟨by simp, hb⟩

theorem keep8 {w' : World} {b c : Nat} (h1 : Has w' b 29 #[iv 240, iv 260, iv 200, iv 300, iv 40, iv 100]) (h2 : Has w' c 27 #[iv 167, iv 170]) :
    w'.cell? ⟨b, 0, none⟩ = some (iv 240) ∧ w'.cell? ⟨b, 1, none⟩ = some (iv 260) ∧ w'.cell? ⟨b, 2, none⟩ = some (iv 200) ∧ w'.cell? ⟨b, 3, none⟩ = some (iv 300) ∧ w'.cell? ⟨b, 4, none⟩ = some (iv 40) ∧ w'.cell? ⟨b, 5, none⟩ = some (iv 100) ∧ w'.cell? ⟨c, 0, none⟩ = some (iv 167) ∧ w'.cell? ⟨c, 1, none⟩ = some (iv 170) :=
  ⟨h1.cell 0, h1.cell 1, h1.cell 2, h1.cell 3, h1.cell 4, h1.cell 5, h2.cell 0, h2.cell 1⟩
set_option maxRecDepth 100000 in
set_option maxHeartbeats 2000000 in
theorem alive_any (w : World) : Calls Try.prog 14 #[] w fun e w' => e = .returned (.bool true) ∧ Below w.heap.size w w' := by
  go_enter Try.func14, Try.ntmps14
  go_wp2_with fail
  refine (sample_any w).mono ?_
  rintro r wa ⟨B1, B2, rfl, g1, g2, hb, hZ, hE⟩
  have HZ := Lib.hid (And.intro hb (And.intro hZ hE))
  clear hb hZ hE
  go_wp2_with fail
  refine (play_sm B1 B2 wa HZ.out.2.1 HZ.out.2.2).mono ?_
  rintro r wb ⟨B3, rfl, hbb, g3, hR⟩
  have hbB : Below w.heap.size w wb := HZ.out.1.trans (hbb.mono HZ.out.1.size)
  have hZb := HZ.out.2.1.below hbb HZ.out.2.1.lt
  have HB := Lib.hid (And.intro hbB (And.intro hZb hR))
  clear hbb hbB hZb hR HZ
  go_wp2_with fail
  refine (span_any _ _ _).mono ?_
  rintro r w1 ⟨rfl, rfl⟩
  go_wp2_with fail
  refine (span_any _ _ _).mono ?_
  rintro r w1 ⟨rfl, rfl⟩
  go_wp2_with fail
  refine (water_sm B1 _ (((HB.out.2.1.alloc _).alloc _).alloc _)).mono ?_
  rintro r wc ⟨rfl, hbc⟩
  have h29 : Has wc wb.heap.size 29 #[iv 240, iv 260, iv 200, iv 300, iv 40, iv 100] := (((Has.new wb 29 _).alloc _).alloc _).below hbc (by simp; omega)
  have hbC : Below w.heap.size w wc := (((HB.out.1.alloc HB.out.1.size _).alloc (by have := HB.out.1.size; simp; omega) _).alloc (by have := HB.out.1.size; simp; omega) _).trans (hbc.mono (by have := HB.out.1.size; simp; omega))
  have hRc : Has wc B3 60 (flat smEnd) := (((HB.out.2.2.alloc _).alloc _).alloc _).below hbc (by have := HB.out.2.2.lt; simp; omega)
  have hlt1 : wb.heap.size < wc.heap.size := h29.lt
  have HC := Lib.hid (And.intro h29 (And.intro hbC hRc))
  clear h29 hbC hRc hbc HB
  go_wp2_with (go_at_call 28; refine (span_any _ _ _).mono ?_; rintro e w' ⟨rfl, rfl⟩)
  refine (same_sm B3 _ _ ((((((HC.out.2.2.alloc _).alloc _).alloc _).alloc _).alloc _).alloc _) (Has.newAt (by simp))).mono ?_
  rintro r wd ⟨rfl, hbd⟩
  have hS1 : Has wd wb.heap.size 29 #[iv 240, iv 260, iv 200, iv 300, iv 40, iv 100] := ((((((HC.out.1.alloc _).alloc _).alloc _).alloc _).alloc _).alloc _).below hbd (by simp; omega)
  have hS2 : Has wd wc.heap.size 27 #[iv 167, iv 170] := ((((((Has.new wc 27 #[iv 167, iv 170]).alloc _).alloc _).alloc _).alloc _).alloc _).below hbd (by simp; omega)
  have hBd : Below w.heap.size w wd := ((((((HC.out.2.1.alloc HC.out.2.1.size _).alloc (by have := HC.out.2.1.size; simp; omega) _).alloc (by have := HC.out.2.1.size; simp; omega) _).alloc (by have := HC.out.2.1.size; simp; omega) _).alloc (by have := HC.out.2.1.size; simp; omega) _).alloc (by have := HC.out.2.1.size; simp; omega) _).trans (hbd.mono (by have := HC.out.2.1.size; simp; omega))
  have q0 : wd.cell? ⟨wb.heap.size, 0, none⟩ = some (iv 240) := hS1.cell 0
  have q1 : wd.cell? ⟨wb.heap.size, 1, none⟩ = some (iv 260) := hS1.cell 1
  have q2 : wd.cell? ⟨wb.heap.size, 2, none⟩ = some (iv 200) := hS1.cell 2
  have q3 : wd.cell? ⟨wb.heap.size, 3, none⟩ = some (iv 300) := hS1.cell 3
  have q4 : wd.cell? ⟨wb.heap.size, 4, none⟩ = some (iv 40) := hS1.cell 4
  have q5 : wd.cell? ⟨wb.heap.size, 5, none⟩ = some (iv 100) := hS1.cell 5
  have q6 : wd.cell? ⟨wc.heap.size, 0, none⟩ = some (iv 167) := hS2.cell 0
  have q7 : wd.cell? ⟨wc.heap.size, 1, none⟩ = some (iv 170) := hS2.cell 1
  have hl1 := hS1.lt
  have hl2 := hS2.lt
  have hl1a : wb.heap.size < wd.heap.size + 1 := by omega
  have hl1b : wb.heap.size < wd.heap.size + 1 + 1 := by omega
  have hl1c : wb.heap.size < wd.heap.size + 1 + 1 + 1 := by omega
  have hl1d : wb.heap.size < wd.heap.size + 1 + 1 + 1 + 1 := by omega
  have hl2a : wc.heap.size < wd.heap.size + 1 := by omega
  have hl2b : wc.heap.size < wd.heap.size + 1 + 1 := by omega
  have hl2c : wc.heap.size < wd.heap.size + 1 + 1 + 1 := by omega
  have hl2d : wc.heap.size < wd.heap.size + 1 + 1 + 1 + 1 := by omega
  have HD := Lib.hid (And.intro hS1 (And.intro hS2 hBd))
  clear hS1 hS2 hBd hbd HC
  have he29 := fun w => eql29 smSum smSum w
  have he27 := fun w => eql27 167 170 167 170 w
  simp only [smSum, decide_true] at he29
  go_wp2_with fail
  go_region_held3 (fun w' => w'.cell? ⟨wb.heap.size, 0, none⟩ = some (iv 240) ∧ w'.cell? ⟨wb.heap.size, 1, none⟩ = some (iv 260) ∧ w'.cell? ⟨wb.heap.size, 2, none⟩ = some (iv 200) ∧ w'.cell? ⟨wb.heap.size, 3, none⟩ = some (iv 300) ∧ w'.cell? ⟨wb.heap.size, 4, none⟩ = some (iv 40) ∧ w'.cell? ⟨wb.heap.size, 5, none⟩ = some (iv 100) ∧ w'.cell? ⟨wc.heap.size, 0, none⟩ = some (iv 167) ∧ w'.cell? ⟨wc.heap.size, 1, none⟩ = some (iv 170)) (first | exact ⟨q0, q1, q2, q3, q4, q5, q6, q7⟩ | exact keep8 HD.out.1.drew HD.out.2.1.drew | exact keep8 (HD.out.1.alloc _).drew (HD.out.2.1.alloc _).drew | exact keep8 ((HD.out.1.alloc _).alloc _).drew ((HD.out.2.1.alloc _).alloc _).drew | exact keep8 (((HD.out.1.alloc _).alloc _).alloc _).drew (((HD.out.2.1.alloc _).alloc _).alloc _).drew | exact keep8 ((((HD.out.1.alloc _).alloc _).alloc _).alloc _).drew ((((HD.out.2.1.alloc _).alloc _).alloc _).alloc _).drew | exact keep8 (((((HD.out.1.alloc _).alloc _).alloc _).alloc _).alloc _).drew (((((HD.out.2.1.alloc _).alloc _).alloc _).alloc _).alloc _).drew) (first | (go_at_call 28; refine (span_any _ _ _).mono ?_; rintro e w' ⟨rfl, rfl⟩))
  all_goals
    clear he29 he27 q0 q1 q2 q3 q4 q5 q6 q7
    go_wp2
    go_ret
    have hq := HD.out.2.2
    exact ⟨rfl, ((((hq.alloc hq.size _).alloc (by have := hq.size; simp; omega) _).alloc (by have := hq.size; simp; omega) _).alloc (by have := hq.size; simp; omega) _).drew⟩
end Go.Proofs.Ytogabjlhecnbbaa
