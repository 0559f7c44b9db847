/- Contracts: Fairest, Compare. -/
import Derived.Test.YtipejhfgfciabaaHrS
namespace Go.Proofs.Ytipejhfgfciabaa
open Go.RowKit Go.Shelf
theorem row_of_own {w : World} {B : Nat} {v : Value} {l : List Int} (h : w.ownsRow B 3 1 v l.length (l.map (Value.int .i64))) : ∃ A c, v = .slice A l.length c ∧ IRow w w.heap.size A l := by
  by_cases hv : v = .slice none 0 0
  · subst hv
    rcases h.2 with ⟨_, h2⟩ | ⟨g, cap, cur, e, _⟩
    · have h0 : l.length = 0 := h2
      exact ⟨none, 0, by rw [h0], fun k hk => absurd hk (by omega)⟩
    · cases e
  · obtain ⟨g, c, e, _, hlt, _, _, _, hH⟩ := Go.Lib.holds_of_ownsRow h hv
    refine ⟨_, c, e, fun k hk => ⟨g, 0, rfl, hlt, ?_⟩⟩
    have := (hH k (by simpa using hk)).1
    simpa [hk] using this
def fairestR (x : Tt) : List Int × Int := if ttB x then (fairP x, 0) else ([], 1)
/-- a row and an error -/
def SEPost (r : List Int × Int) (W : World) (e : Ending) (W' : World) : Prop :=
  ∃ A c, e = .returned (.tuple #[.slice A r.1.length c, .int .i64 r.2]) ∧ IRow W' W'.heap.size A r.1 ∧ Below W.heap.size W W'
def IEPost (r : Int × Int) (W : World) (e : Ending) (W' : World) : Prop := e = .returned (.tuple #[.int .i64 r.1, .int .i64 r.2]) ∧ Below W.heap.size W W'
set_option maxRecDepth 100000 in
set_option maxHeartbeats 1200000 in
theorem Fairest_any (x : Tt) (AH AG : Option Addr) (ch cg : Nat) (W : World) (hr : TR W W.heap.size x AH AG) : Calls Try.prog 17 #[ttv x AH AG ch cg] W (SEPost (fairestR x) W) := by
  have HB : Hid (VB W (W.alloc (.cells (ttc x AH AG ch cg) 25)) x AH AG ch cg) := ⟨below_one W _, Has.new W 25 _⟩
  have HR := Lib.hid hr
  have HV := Lib.hid (fun w (h : TR w w.heap.size x AH AG) => validTimetable_any x AH AG ch cg w h)
  have hn : ∀ r, fairestR x = r → Hid (fairestR x = r) := fun b h => h
  clear hr
  cases hT : ttB x <;> rw [hT] at HV
  · have HE := hn ([], 1) (by unfold fairestR; simp [hT])
    clear hn hT
    rw [HE.out]
    unfold ttv at *
    go_enter Try.func17, Try.ntmps17
    go_upto_region 1 with fail
    generalize W.alloc (.cells (ttc x AH AG ch cg) 25) = w0 at HB ⊢
    have x0 : w0.cell? ⟨W.heap.size, 0, none⟩ = some (.slice AH x.H.length ch) := HB.out.fx.cell 0
    have x1 : w0.cell? ⟨W.heap.size, 1, none⟩ = some (.slice AG x.G.length cg) := HB.out.fx.cell 1
    have x2 : w0.cell? ⟨W.heap.size, 2, none⟩ = some (.int .i64 x.R) := HB.out.fx.cell 2
    go_wp2_with fail
    refine (HV.out _ (HR.out.step HB.out.b)).mono ?_
    rintro e w1 ⟨rfl, hb1⟩
    have HB1 := Lib.hid (HB.out.step hb1)
    clear hb1
    go_wp2_with fail
    refine bodyPost_ret (v := .tuple #[.slice none 0 0, .int .i64 1]) (by simp [results, Try.results17, go_sem]) rfl ?_
    exact ⟨none, 0, rfl, row_nil _ _, HB1.out.b⟩
  have HE := hn (fairP x, 0) (by unfold fairestR; simp [hT])
  have hv := ttB_vt hT
  have HF := Lib.hid (fun w (h : TR w w.heap.size x AH AG) => fairest_any x AH AG ch cg w h hv)
  clear hn hT hv
  rw [HE.out]
  unfold ttv at *
  go_enter Try.func17, Try.ntmps17
  go_upto_region 1 with fail
  generalize W.alloc (.cells (ttc x AH AG ch cg) 25) = w0 at HB ⊢
  have x0 : w0.cell? ⟨W.heap.size, 0, none⟩ = some (.slice AH x.H.length ch) := HB.out.fx.cell 0
  have x1 : w0.cell? ⟨W.heap.size, 1, none⟩ = some (.slice AG x.G.length cg) := HB.out.fx.cell 1
  have x2 : w0.cell? ⟨W.heap.size, 2, none⟩ = some (.int .i64 x.R) := HB.out.fx.cell 2
  go_wp2_with fail
  refine (HV.out _ (HR.out.step HB.out.b)).mono ?_
  rintro e w1 ⟨rfl, hb1⟩
  have HB1 := Lib.hid (HB.out.step hb1)
  clear hb1 x0 x1 x2
  have x0 : w1.cell? ⟨W.heap.size, 0, none⟩ = some (.slice AH x.H.length ch) := HB1.out.fx.cell 0
  have x1 : w1.cell? ⟨W.heap.size, 1, none⟩ = some (.slice AG x.G.length cg) := HB1.out.fx.cell 1
  have x2 : w1.cell? ⟨W.heap.size, 2, none⟩ = some (.int .i64 x.R) := HB1.out.fx.cell 2
  go_wp2_with fail
  refine (HF.out _ (HR.out.step HB1.out.b)).mono ?_
  rintro e w2 ⟨v, rfl, hb2, hown⟩
  have HB2 := Lib.hid (HB1.out.step hb2)
  obtain ⟨A, c, rfl, hrow⟩ := row_of_own hown
  have HRow := Lib.hid hrow
  clear hb2 x0 x1 x2 hown hrow
  go_wp2_with fail
  refine bodyPost_ret (v := .tuple #[.slice A (fairP x).length c, .int .i64 0]) (by simp [results, Try.results17, go_sem]) rfl ?_
  exact ⟨A, c, rfl, HRow.out, HB2.out.b⟩
theorem row_cells {w : World} {B g o : Nat} {l : List Int} (h : IRow w B (some ⟨g, o, none⟩) l) : ∀ j (hj : j < l.length), w.cell? ⟨g, o + j, none⟩ = some (.int .i64 l[j]) := fun j hj => by
  obtain ⟨g', o', e, _, c⟩ := h j hj
  cases e; exact c
theorem row_at {w : World} {B g o : Nat} {l : List Int} (h : ∀ j (hj : j < l.length), g < B ∧ w.cell? ⟨g, o + j, none⟩ = some (.int .i64 l[j])) : IRow w B (some ⟨g, o, none⟩) l := fun k hk => ⟨g, o, rfl, (h k hk).1, (h k hk).2⟩
theorem check_len (x : Tt) (l : List Int) (hv : ttB x = true) : (checkR x l).1.length ≤ 5 := by
  have := (ttB_vt hv).ng
  unfold checkR
  simp only [hv, Bool.true_eq_false, if_false]
  split
  · simp
  · split
    · simp only [owned_length]; exact this
    · simp
theorem check_le (x : Tt) (l : List Int) : (checkR x l).1.length ≤ 1000000 := by
  cases hv : ttB x with
  | true => have := check_len x l hv; omega
  | false => unfold checkR; simp [hv]
set_option maxRecDepth 100000 in
set_option maxHeartbeats 1200000 in
theorem Compare_any (x : Tt) (AH AG : Option Addr) (ch cg : Nat) (a b : List Int) (A B : Option Addr) (c d : Nat) (W : World) (hr : TR W W.heap.size x AH AG) (ha : IRow W W.heap.size A a) (hb : IRow W W.heap.size B b) :
    Calls Try.prog 13 #[ttv x AH AG ch cg, .slice A a.length c, .slice B b.length d] W (IEPost (compR x a b) W) := by
  have HB : Hid (VB W (W.alloc (.cells (ttc x AH AG ch cg) 25)) x AH AG ch cg) := ⟨below_one W _, Has.new W 25 _⟩
  have HR := Lib.hid (And.intro hr (And.intro ha hb))
  have HC1 := Lib.hid (fun w (h : TR w w.heap.size x AH AG) h' => Check_any x AH AG ch cg a A c w h h')
  have HC2 := Lib.hid (fun w (h : TR w w.heap.size x AH AG) h' => Check_any x AH AG ch cg b B d w h h')
  have hl1 := check_le x a
  have hl2 := check_le x b
  have hn : compR x a b = if (checkR x a).2.2 = 0 then if (checkR x b).2.2 = 0 then (cmpL (srt (checkR x a).1) (srt (checkR x b).1), 0) else (0, (checkR x b).2.2) else (0, (checkR x a).2.2) := rfl
  clear hr ha hb
  obtain ⟨l1, n1, e1, h1⟩ : ∃ l n e, checkR x a = (l, n, e) := ⟨_, _, _, rfl⟩
  obtain ⟨l2, n2, e2, h2⟩ : ∃ l n e, checkR x b = (l, n, e) := ⟨_, _, _, rfl⟩
  rw [h1] at HC1 hl1
  rw [h2] at HC2 hl2
  rw [h1, h2] at hn
  simp only at hn hl1 hl2
  clear h1 h2
  by_cases he1 : e1 = 0
  rotate_left
  · rw [if_neg he1] at hn
    have he1' : (e1 == 0) = false := by simpa using he1
    rw [hn]
    clear hn he1 HC2
    unfold ttv at *
    go_enter Try.func13, Try.ntmps13
    go_upto_region 1 with fail
    generalize W.alloc (.cells (ttc x AH AG ch cg) 25) = w0 at HB ⊢
    have x0 : w0.cell? ⟨W.heap.size, 0, none⟩ = some (.slice AH x.H.length ch) := HB.out.fx.cell 0
    have x1 : w0.cell? ⟨W.heap.size, 1, none⟩ = some (.slice AG x.G.length cg) := HB.out.fx.cell 1
    have x2 : w0.cell? ⟨W.heap.size, 2, none⟩ = some (.int .i64 x.R) := HB.out.fx.cell 2
    go_wp2_with fail
    refine (HC1.out _ (HR.out.1.step HB.out.b) (HR.out.2.1.step HB.out.b)).mono ?_
    rintro e w1 ⟨A1, c1, rfl, _, hb1, _⟩
    have HB1 := Lib.hid (HB.out.step hb1)
    clear hb1 x0 x1 x2
    dsimp only
    go_wp2_with fail
    refine bodyPost_ret (v := .tuple #[.int .i64 0, .int .i64 e1]) (by simp [results, Try.results13, go_sem]) rfl ?_
    exact ⟨rfl, HB1.out.b⟩
  subst he1
  rw [if_pos rfl] at hn
  by_cases he2 : e2 = 0
  rotate_left
  · rw [if_neg he2] at hn
    have he2' : (e2 == 0) = false := by simpa using he2
    rw [hn]
    clear hn he2
    unfold ttv at *
    go_enter Try.func13, Try.ntmps13
    go_upto_region 1 with fail
    generalize W.alloc (.cells (ttc x AH AG ch cg) 25) = w0 at HB ⊢
    have x0 : w0.cell? ⟨W.heap.size, 0, none⟩ = some (.slice AH x.H.length ch) := HB.out.fx.cell 0
    have x1 : w0.cell? ⟨W.heap.size, 1, none⟩ = some (.slice AG x.G.length cg) := HB.out.fx.cell 1
    have x2 : w0.cell? ⟨W.heap.size, 2, none⟩ = some (.int .i64 x.R) := HB.out.fx.cell 2
    go_wp2_with fail
    refine (HC1.out _ (HR.out.1.step HB.out.b) (HR.out.2.1.step HB.out.b)).mono ?_
    rintro e w1 ⟨A1, c1, rfl, _, hb1, _⟩
    have HB1 := Lib.hid (HB.out.step hb1)
    clear hb1 x0 x1 x2
    have x0 : w1.cell? ⟨W.heap.size, 0, none⟩ = some (.slice AH x.H.length ch) := HB1.out.fx.cell 0
    have x1 : w1.cell? ⟨W.heap.size, 1, none⟩ = some (.slice AG x.G.length cg) := HB1.out.fx.cell 1
    have x2 : w1.cell? ⟨W.heap.size, 2, none⟩ = some (.int .i64 x.R) := HB1.out.fx.cell 2
    dsimp only
    go_wp2_with fail
    refine (HC2.out _ (HR.out.1.step HB1.out.b) (HR.out.2.2.step HB1.out.b)).mono ?_
    rintro e w2 ⟨A2, c2, rfl, _, hb2, _⟩
    have HB2 := Lib.hid (HB1.out.step hb2)
    clear hb2 x0 x1 x2
    dsimp only
    go_wp2_with fail
    refine bodyPost_ret (v := .tuple #[.int .i64 0, .int .i64 e2]) (by simp [results, Try.results13, go_sem]) rfl ?_
    exact ⟨rfl, HB2.out.b⟩
  subst he2
  rw [if_pos rfl] at hn
  rw [hn]
  clear hn
  have HL := Lib.hid (And.intro hl1 hl2)
  clear hl1 hl2
  unfold ttv at *
  go_enter Try.func13, Try.ntmps13
  go_upto_region 1 with fail
  generalize W.alloc (.cells (ttc x AH AG ch cg) 25) = w0 at HB ⊢
  have x0 : w0.cell? ⟨W.heap.size, 0, none⟩ = some (.slice AH x.H.length ch) := HB.out.fx.cell 0
  have x1 : w0.cell? ⟨W.heap.size, 1, none⟩ = some (.slice AG x.G.length cg) := HB.out.fx.cell 1
  have x2 : w0.cell? ⟨W.heap.size, 2, none⟩ = some (.int .i64 x.R) := HB.out.fx.cell 2
  go_wp2_with fail
  refine (HC1.out _ (HR.out.1.step HB.out.b) (HR.out.2.1.step HB.out.b)).mono ?_
  rintro e w1 ⟨A1, c1, rfl, hrow1, hb1, hs1⟩
  obtain ⟨g1, o1, rfl⟩ := hs1 rfl
  have HB1 := Lib.hid (And.intro (HB.out.step hb1) hrow1)
  clear hb1 x0 x1 x2 hrow1 hs1
  have x0 : w1.cell? ⟨W.heap.size, 0, none⟩ = some (.slice AH x.H.length ch) := HB1.out.1.fx.cell 0
  have x1 : w1.cell? ⟨W.heap.size, 1, none⟩ = some (.slice AG x.G.length cg) := HB1.out.1.fx.cell 1
  have x2 : w1.cell? ⟨W.heap.size, 2, none⟩ = some (.int .i64 x.R) := HB1.out.1.fx.cell 2
  dsimp only
  go_wp2_with fail
  refine (HC2.out _ (HR.out.1.step HB1.out.1.b) (HR.out.2.2.step HB1.out.1.b)).mono ?_
  rintro e w2 ⟨A2, c2, rfl, hrow2, hb2, hs2⟩
  obtain ⟨g2, o2, rfl⟩ := hs2 rfl
  have HB2 := Lib.hid (And.intro (HB1.out.1.step hb2) (And.intro (HB1.out.2.step hb2) hrow2))
  clear hb2 x0 x1 x2 hrow2 hs2
  have HS1 := Lib.hid (rising_any l1 g1 o1 c1 w2 (row_cells HB2.out.2.1) HL.out.1)
  dsimp only
  go_wp2_with fail
  refine HS1.out.mono ?_
  rintro e w3 ⟨g3, c3, -, rfl, hcs, hb3⟩
  have HB3 := Lib.hid (And.intro (HB2.out.1.step hb3) (And.intro (HB2.out.2.2.step hb3) (row_at (o := 0) (l := srt l1) (fun j hj => by rw [Nat.zero_add]; exact hcs j hj))))
  clear hcs hb3
  have HS2 := Lib.hid (rising_any l2 g2 o2 c2 w3 (row_cells HB3.out.2.1) HL.out.2)
  go_wp2_with fail
  refine HS2.out.mono ?_
  rintro e w4 ⟨g4, c4, -, rfl, hcs, hb4⟩
  have HB4 := Lib.hid (And.intro (HB3.out.1.step hb4) (And.intro (HB3.out.2.2.step hb4) (row_at (o := 0) (l := srt l2) (fun j hj => by rw [Nat.zero_add]; exact hcs j hj))))
  clear hcs hb4
  have HCM := Lib.hid (compareS_any (srt l1) (srt l2) _ _ c3 c4 _ _ w4 HB4.out.2.1 HB4.out.2.2 (by rw [srt_length]; exact HL.out.1))
  go_wp2_with fail
  refine HCM.out.mono ?_
  rintro e w5 ⟨rfl, rfl⟩
  go_wp2_with fail
  refine bodyPost_ret (v := .tuple #[.int .i64 (cmpL (srt l1) (srt l2)), .int .i64 0]) (by simp [results, Try.results13, go_sem]) rfl ?_
  exact ⟨rfl, HB4.out.1.b⟩
end Go.Proofs.Ytipejhfgfciabaa
