/- The names and examples: what they rest upon. -/
import Derived.Test.YtjfopmjphiddiaaMgR
import Derived.Deep.DeepCutAuto
import Derived.Deep.Cut
import Derived.Deep.CutRange
namespace Go.Proofs.Ytjfopmjphiddiaa
open Go.RowKit Go.Shelf
def oneT : Sl := ⟨70, 700⟩
def oneP : List Pp := [⟨50, [⟨20, 100⟩, ⟨30, 300⟩]⟩, ⟨40, [⟨10, 50⟩, ⟨30, 90⟩]⟩]
def thP : List Pp := [⟨50, [⟨20, 120⟩, ⟨30, 330⟩]⟩, ⟨40, [⟨25, 75⟩]⟩]
def thS : Sm := ⟨50, 15, 65, 0, 0, 0, 0, 0, 0⟩
theorem play_o : playR smT smP 200 500 (smE.take 1) = (some ⟨oneP, oneT, ⟨200, 500, Sm.zero⟩⟩, 1, 0) := by kernel_rfl
theorem play_t : playR smT smP 200 500 (smE.take 3) = (some ⟨thP, oneT, ⟨200, 500, thS⟩⟩, 3, 0) := by kernel_rfl
theorem tot_s : totalR smT smP 200 500 = (⟨160, 1440⟩, 0) := by kernel_rfl
theorem tot_l : totalR laT laP 0 500 = (⟨145, 825⟩, 0) := by kernel_rfl
theorem room_s : RoomR [100, 50, 0, 30] [20, 20, 80, 40] 10 0 90 0 := by
  unfold RoomR Least
  rw [if_neg (by decide +kernel), if_neg (by decide), if_neg (by decide +kernel)]
  exact ⟨rfl, by decide, by decide, by decide +kernel, fun _ => by decide +kernel⟩
theorem room_s1 : RoomR [100, 50, 0, 30] [20, 20, 80, 40] 10 10 80 0 := by
  unfold RoomR Least
  rw [if_neg (by decide +kernel), if_neg (by decide), if_neg (by decide +kernel)]
  exact ⟨rfl, by decide, by decide, by decide +kernel, fun _ => by decide +kernel⟩
theorem room_s2 : RoomR [100, 50, 0, 30] [20, 20, 80, 40] 10 30 60 0 := by
  unfold RoomR Least
  rw [if_neg (by decide +kernel), if_neg (by decide), if_neg (by decide +kernel)]
  exact ⟨rfl, by decide, by decide, by decide +kernel, fun _ => by decide +kernel⟩
theorem ERow.take {w : World} {B : Nat} {A : Option Addr} {l : List Ev} (h : ERow w B A l) (n : Nat) : ERow w B A (l.take n) := fun k hk => by
  have hk' : k < l.length := by rw [List.length_take] at hk; omega
  have := h k hk'
  simpa using this
theorem sample6 (w : World) : Calls Try.prog 24 #[] w fun e w' => ∃ B B', e = .returned (.tuple #[brv smT (some ⟨B, 0, none⟩) 2 2 200 500, .slice (some ⟨B', 0, none⟩) 6 6]) ∧ Below w.heap.size w w' ∧ PRow w' w'.heap.size (some ⟨B, 0, none⟩) smP ∧ ERow w' w'.heap.size (some ⟨B', 0, none⟩) smE := sample_any w
/-- rows that stay, whatever turns below lo -/
def PSt (lo : Nat) (A : Option Addr) (ps : List Pp) (W : World) : Prop := ∀ W', Only (fun j => j < lo) W W' → PRow W' W'.heap.size A ps
def POPost (t : Sl) (ps : List Pp) (heat hroom : Int) (s : Sm) (n : Nat) (wa : World) (r : Ending) (wb : World) : Prop :=
  ∃ A cap, r = .returned (.tuple #[brv t A ps.length cap heat hroom, smv s, .int .i64 n, .int .i64 0]) ∧ Below wa.heap.size wa wb ∧ PSt wa.heap.size A ps wb
theorem play_st {t : Sl} {ps : List Pp} {heat hroom : Int} {s : Sm} {n : Nat} {wa wb : World} {r : Ending} (h : PlayPost (some ⟨ps, t, ⟨heat, hroom, s⟩⟩, n, 0) wa r wb) : POPost t ps heat hroom s n wa r wb := by
  obtain ⟨hb, Bn, qs, rfl, hm, hh, hq, -, hB⟩ := h
  have hm : qs.map Qu.pp = ps := hm
  have hl : ps.length = qs.length := by rw [← hm]; simp
  refine ⟨some ⟨Bn, 0, none⟩, qs.length, by rw [hl], hb, fun W' ho => ?_⟩
  rw [← hm]
  exact prow_q (hh.only ho (by omega)) (fun q hq' => (hq q hq').1.only ho (by have := (hq q hq').2.1; omega))
theorem play_o1 (A A' : Option Addr) (wa : World) (h1 : PRow wa wa.heap.size A smP) (h2 : ERow wa wa.heap.size A' smE) : Calls Try.prog 14 #[brv smT A 2 2 200 500, .slice A' 1 6] wa (POPost oneT oneP 200 500 Sm.zero 1 wa) := by
  refine (play_any smT smP (smE.take 1) A A' 2 6 200 500 wa h1 (h2.take 1) (by decide) (by decide) (by decide) (by decide)).mono fun r wb h => ?_
  rw [play_o] at h
  exact play_st h
theorem play_t3 (A A' : Option Addr) (wa : World) (h1 : PRow wa wa.heap.size A smP) (h2 : ERow wa wa.heap.size A' smE) : Calls Try.prog 14 #[brv smT A 2 2 200 500, .slice A' 3 6] wa (POPost oneT thP 200 500 thS 3 wa) := by
  refine (play_any smT smP (smE.take 3) A A' 2 6 200 500 wa h1 (h2.take 3) (by decide) (by decide) (by decide) (by decide)).mono fun r wb h => ?_
  rw [play_t] at h
  exact play_st h
abbrev bxc (A : Option Addr) : Array Value := #[.int .i64 smT.v, .int .i64 smT.h, .slice A 2 2, .int .i64 200, .int .i64 500]
/-- the sample and its box -/
structure NmK (wd : World) (g : Nat) (A A' : Option Addr) : Prop where
  b : Has wd g 26 (bxc A)
  p : PRow wd wd.heap.size A smP
  e : ERow wd wd.heap.size A' smE
theorem NmK.keep {wd W : World} {g : Nat} {A A' : Option Addr} (h : NmK wd g A A') (hb : Below wd.heap.size wd W) : W.cell? ⟨g, 0, none⟩ = some (.int .i64 smT.v) ∧ W.cell? ⟨g, 1, none⟩ = some (.int .i64 smT.h) ∧ W.cell? ⟨g, 2, none⟩ = some (.slice A 2 2) ∧ W.cell? ⟨g, 3, none⟩ = some (.int .i64 200) ∧ W.cell? ⟨g, 4, none⟩ = some (.int .i64 500) :=
  have k := h.b.below hb h.b.lt
  ⟨k.cell 0, k.cell 1, k.cell 2, k.cell 3, k.cell 4⟩
theorem NmK.step {wd W : World} {g : Nat} {A A' : Option Addr} (h : NmK wd g A A') (hb : Below wd.heap.size wd W) : NmK W g A A' := ⟨h.b.below hb h.b.lt, h.p.step hb, h.e.step hb⟩
theorem NmK.one {wd W : World} {g : Nat} {A A' : Option Addr} (h : NmK wd g A A') (hb : Below wd.heap.size wd W) : Calls Try.prog 14 #[brv smT A 2 2 200 500, .slice A' 1 6] W (POPost oneT oneP 200 500 Sm.zero 1 W) := play_o1 A A' W (h.p.step hb) (h.e.step hb)
theorem NmK.three {wd W : World} {g : Nat} {A A' : Option Addr} (h : NmK wd g A A') (hb : Below wd.heap.size wd W) : Calls Try.prog 14 #[brv smT A 2 2 200 500, .slice A' 3 6] W (POPost oneT thP 200 500 thS 3 W) := play_t3 A A' W (h.p.step hb) (h.e.step hb)
abbrev z5 : Array Value := #[.int .i64 0, .int .i64 0, .slice none 0 0, .int .i64 0, .int .i64 0]
abbrev z9 : Array Value := #[.int .i64 0, .int .i64 0, .int .i64 0, .int .i64 0, .int .i64 0, .int .i64 0, .int .i64 0, .int .i64 0, .int .i64 0]
theorem arm_ab {wd wb : World} (hb : Below ((wd.alloc (.cells z5 26)).alloc (.cells z9 31)).drew.heap.size ((wd.alloc (.cells z5 26)).alloc (.cells z9 31)).drew wb) : Below wd.heap.size wd wb ∧ Has wb wd.heap.size 26 z5 ∧ Has wb (wd.heap.size + 1) 31 z9 ∧ wd.heap.size + 2 ≤ wb.heap.size :=
  have h0 : Below wd.heap.size wd ((wd.alloc (.cells z5 26)).alloc (.cells z9 31)).drew := below_dr ((below_one _ _).alloc (by simp) _)
  ⟨h0.trans (hb.mono h0.size), ((Has.new wd 26 z5).alloc _).drew.below hb (by simp; omega), (Has.newAt (w := wd.alloc (.cells z5 26)) (by simp)).drew.below hb (by simp), by have := hb.size; simpa using this⟩
theorem arm_ba {wd wb : World} (hb : Below ((wd.alloc (.cells z9 31)).alloc (.cells z5 26)).drew.heap.size ((wd.alloc (.cells z9 31)).alloc (.cells z5 26)).drew wb) : Below wd.heap.size wd wb ∧ Has wb wd.heap.size 31 z9 ∧ Has wb (wd.heap.size + 1) 26 z5 ∧ wd.heap.size + 2 ≤ wb.heap.size :=
  have h0 : Below wd.heap.size wd ((wd.alloc (.cells z9 31)).alloc (.cells z5 26)).drew := below_dr ((below_one _ _).alloc (by simp) _)
  ⟨h0.trans (hb.mono h0.size), ((Has.new wd 31 z9).alloc _).drew.below hb (by simp; omega), (Has.newAt (w := wd.alloc (.cells z9 31)) (by simp)).drew.below hb (by simp), by have := hb.size; simpa using this⟩
theorem arm_a {wd wb : World} (hb : Below (wd.alloc (.cells z5 26)).drew.heap.size (wd.alloc (.cells z5 26)).drew wb) : Below wd.heap.size wd wb ∧ Has wb wd.heap.size 26 z5 ∧ wd.heap.size + 1 ≤ wb.heap.size :=
  have h0 : Below wd.heap.size wd (wd.alloc (.cells z5 26)).drew := below_dr (below_one _ _)
  ⟨h0.trans (hb.mono h0.size), (Has.new wd 26 z5).drew.below hb (by simp), by have := hb.size; simpa using this⟩
theorem arm_b {wd wb : World} (hb : Below (wd.alloc (.cells z9 31)).drew.heap.size (wd.alloc (.cells z9 31)).drew wb) : Below wd.heap.size wd wb ∧ Has wb wd.heap.size 31 z9 ∧ wd.heap.size + 1 ≤ wb.heap.size :=
  have h0 : Below wd.heap.size wd (wd.alloc (.cells z9 31)).drew := below_dr (below_one _ _)
  ⟨h0.trans (hb.mono h0.size), (Has.new wd 31 z9).drew.below hb (by simp), by have := hb.size; simpa using this⟩
theorem arm_0 {wd wb : World} (hb : Below wd.drew.heap.size wd.drew wb) : Below wd.heap.size wd wb ∧ wd.heap.size ≤ wb.heap.size :=
  have h0 : Below wd.heap.size wd wd.drew := below_dr (Below.refl _ _)
  ⟨h0.trans hb, hb.size⟩
/-- two blocks made, of brine and of sums -/
structure Twb (w W : World) (x y : Nat) (t : Sl) (A : Option Addr) (n cap : Nat) (heat hroom : Int) (s : Sm) (ps : List Pp) : Prop where
  bl : Below w.heap.size w W
  x : Has W x 26 #[.int .i64 t.v, .int .i64 t.h, .slice A n cap, .int .i64 heat, .int .i64 hroom]
  y : Has W y 31 #[.int .i64 s.wa, .int .i64 s.lv, .int .i64 s.lh, .int .i64 s.fv, .int .i64 s.fh, .int .i64 s.ch, .int .i64 s.ai, .int .i64 s.us, .int .i64 s.bo]
  p : PRow W W.heap.size A ps
abbrev z26 : Obj := .cells #[.int .i64 0, .int .i64 0, .slice none 0 0, .int .i64 0, .int .i64 0] 26
abbrev z31 : Obj := .cells #[.int .i64 0, .int .i64 0, .int .i64 0, .int .i64 0, .int .i64 0, .int .i64 0, .int .i64 0, .int .i64 0, .int .i64 0] 31
theorem new5 {W : World} {g : Nat} {T : TypeId} {a b c d e : Value} (h : Has W g T #[a, b, c, d, e]) : (W.cell? ⟨g, 0, none⟩ = some a ∧ W.cell? ⟨g, 1, none⟩ = some b ∧ W.cell? ⟨g, 2, none⟩ = some c ∧ W.cell? ⟨g, 3, none⟩ = some d ∧ W.cell? ⟨g, 4, none⟩ = some e) ∧ (W.frozen? ⟨g, 0, none⟩ = false ∧ W.frozen? ⟨g, 1, none⟩ = false ∧ W.frozen? ⟨g, 2, none⟩ = false ∧ W.frozen? ⟨g, 3, none⟩ = false ∧ W.frozen? ⟨g, 4, none⟩ = false) ∧ g < W.heap.size :=
  ⟨⟨h.cell 0, h.cell 1, h.cell 2, h.cell 3, h.cell 4⟩, ⟨h.frozen 0, h.frozen 1, h.frozen 2, h.frozen 3, h.frozen 4⟩, h.lt⟩
theorem new9 {W : World} {g : Nat} {T : TypeId} {a b c d e f i j k : Value} (h : Has W g T #[a, b, c, d, e, f, i, j, k]) : (W.cell? ⟨g, 0, none⟩ = some a ∧ W.cell? ⟨g, 1, none⟩ = some b ∧ W.cell? ⟨g, 2, none⟩ = some c ∧ W.cell? ⟨g, 3, none⟩ = some d ∧ W.cell? ⟨g, 4, none⟩ = some e ∧ W.cell? ⟨g, 5, none⟩ = some f ∧ W.cell? ⟨g, 6, none⟩ = some i ∧ W.cell? ⟨g, 7, none⟩ = some j ∧ W.cell? ⟨g, 8, none⟩ = some k) ∧ (W.frozen? ⟨g, 0, none⟩ = false ∧ W.frozen? ⟨g, 1, none⟩ = false ∧ W.frozen? ⟨g, 2, none⟩ = false ∧ W.frozen? ⟨g, 3, none⟩ = false ∧ W.frozen? ⟨g, 4, none⟩ = false ∧ W.frozen? ⟨g, 5, none⟩ = false ∧ W.frozen? ⟨g, 6, none⟩ = false ∧ W.frozen? ⟨g, 7, none⟩ = false ∧ W.frozen? ⟨g, 8, none⟩ = false) ∧ g < W.heap.size :=
  ⟨⟨h.cell 0, h.cell 1, h.cell 2, h.cell 3, h.cell 4, h.cell 5, h.cell 6, h.cell 7, h.cell 8⟩, ⟨h.frozen 0, h.frozen 1, h.frozen 2, h.frozen 3, h.frozen 4, h.frozen 5, h.frozen 6, h.frozen 7, h.frozen 8⟩, h.lt⟩
set_option maxHeartbeats 2000000 in
theorem setA5 {g : Nat} {T : TypeId} {w : World} {a0 a1 a2 a3 a4 : Value} (h : Has w g T #[a0, a1, a2, a3, a4]) (u0 u1 u2 u3 u4 : Value) : Has (((((w.setCell ⟨g, 0, none⟩ u0).setCell ⟨g, 1, none⟩ u1).setCell ⟨g, 2, none⟩ u2).setCell ⟨g, 3, none⟩ u3).setCell ⟨g, 4, none⟩ u4) g T #[u0, u1, u2, u3, u4] ∧ Only (fun k => k = g) w (((((w.setCell ⟨g, 0, none⟩ u0).setCell ⟨g, 1, none⟩ u1).setCell ⟨g, 2, none⟩ u2).setCell ⟨g, 3, none⟩ u3).setCell ⟨g, 4, none⟩ u4) := by
  refine ⟨?_, ?_⟩
  · have k0 := h
    have k1 := k0.set 0 u0
    have k2 := k1.set 1 u1
    have k3 := k2.set 2 u2
    have k4 := k3.set 3 u3
    have k5 := k4.set 4 u4
    simp only [List.setIfInBounds_toArray, List.set_cons_zero, List.set_cons_succ] at k5
    exact k5
  · have o0 : Only (fun k => k = g) w w := Only.refl _ _
    have o1 := o0.setCell (p := ⟨g, 0, none⟩) (.inl rfl) u0
    have o2 := o1.setCell (p := ⟨g, 1, none⟩) (.inl rfl) u1
    have o3 := o2.setCell (p := ⟨g, 2, none⟩) (.inl rfl) u2
    have o4 := o3.setCell (p := ⟨g, 3, none⟩) (.inl rfl) u3
    have o5 := o4.setCell (p := ⟨g, 4, none⟩) (.inl rfl) u4
    exact o5
set_option maxHeartbeats 2000000 in
theorem setA9 {g : Nat} {T : TypeId} {w : World} {a0 a1 a2 a3 a4 a5 a6 a7 a8 : Value} (h : Has w g T #[a0, a1, a2, a3, a4, a5, a6, a7, a8]) (v0 v1 v2 v3 v4 v5 v6 v7 v8 : Value) : Has (((((((((w.setCell ⟨g, 0, none⟩ v0).setCell ⟨g, 1, none⟩ v1).setCell ⟨g, 2, none⟩ v2).setCell ⟨g, 3, none⟩ v3).setCell ⟨g, 4, none⟩ v4).setCell ⟨g, 5, none⟩ v5).setCell ⟨g, 6, none⟩ v6).setCell ⟨g, 7, none⟩ v7).setCell ⟨g, 8, none⟩ v8) g T #[v0, v1, v2, v3, v4, v5, v6, v7, v8] ∧ Only (fun k => k = g) w (((((((((w.setCell ⟨g, 0, none⟩ v0).setCell ⟨g, 1, none⟩ v1).setCell ⟨g, 2, none⟩ v2).setCell ⟨g, 3, none⟩ v3).setCell ⟨g, 4, none⟩ v4).setCell ⟨g, 5, none⟩ v5).setCell ⟨g, 6, none⟩ v6).setCell ⟨g, 7, none⟩ v7).setCell ⟨g, 8, none⟩ v8) := by
  refine ⟨?_, ?_⟩
  · have k0 := h
    have k1 := k0.set 0 v0
    have k2 := k1.set 1 v1
    have k3 := k2.set 2 v2
    have k4 := k3.set 3 v3
    have k5 := k4.set 4 v4
    have k6 := k5.set 5 v5
    have k7 := k6.set 6 v6
    have k8 := k7.set 7 v7
    have k9 := k8.set 8 v8
    simp only [List.setIfInBounds_toArray, List.set_cons_zero, List.set_cons_succ] at k9
    exact k9
  · have o0 : Only (fun k => k = g) w w := Only.refl _ _
    have o1 := o0.setCell (p := ⟨g, 0, none⟩) (.inl rfl) v0
    have o2 := o1.setCell (p := ⟨g, 1, none⟩) (.inl rfl) v1
    have o3 := o2.setCell (p := ⟨g, 2, none⟩) (.inl rfl) v2
    have o4 := o3.setCell (p := ⟨g, 3, none⟩) (.inl rfl) v3
    have o5 := o4.setCell (p := ⟨g, 4, none⟩) (.inl rfl) v4
    have o6 := o5.setCell (p := ⟨g, 5, none⟩) (.inl rfl) v5
    have o7 := o6.setCell (p := ⟨g, 6, none⟩) (.inl rfl) v6
    have o8 := o7.setCell (p := ⟨g, 7, none⟩) (.inl rfl) v7
    have o9 := o8.setCell (p := ⟨g, 8, none⟩) (.inl rfl) v8
    exact o9
theorem twb1 {wd wb : World} {lo : Nat} {t : Sl} {A : Option Addr} {n cap : Nat} {heat hroom : Int} {s : Sm} {ps : List Pp} (hK : Below wd.heap.size wd wb) (hS : PSt lo A ps wb) : Twb wd ((wb.alloc (.cells #[.int .i64 t.v, .int .i64 t.h, .slice A n cap, .int .i64 heat, .int .i64 hroom] 26)).alloc (.cells #[.int .i64 s.wa, .int .i64 s.lv, .int .i64 s.lh, .int .i64 s.fv, .int .i64 s.fh, .int .i64 s.ch, .int .i64 s.ai, .int .i64 s.us, .int .i64 s.bo] 31)) wb.heap.size (wb.heap.size + 1) t A n cap heat hroom s ps :=
  ⟨hK.trans (((below_one _ _).alloc (by simp) _).mono hK.size), (Has.new _ _ _).alloc _, Has.newAt (by simp), hS _ (((Only.refl _ _).alloc _).alloc _)⟩
theorem twb2 {wd wb : World} {lo : Nat} {t : Sl} {A : Option Addr} {n cap : Nat} {heat hroom : Int} {s : Sm} {ps : List Pp} (hK : Below wd.heap.size wd wb) (hS : PSt lo A ps wb) : Twb wd ((wb.alloc (.cells #[.int .i64 s.wa, .int .i64 s.lv, .int .i64 s.lh, .int .i64 s.fv, .int .i64 s.fh, .int .i64 s.ch, .int .i64 s.ai, .int .i64 s.us, .int .i64 s.bo] 31)).alloc (.cells #[.int .i64 t.v, .int .i64 t.h, .slice A n cap, .int .i64 heat, .int .i64 hroom] 26)) (wb.heap.size + 1) wb.heap.size t A n cap heat hroom s ps :=
  ⟨hK.trans (((below_one _ _).alloc (by simp) _).mono hK.size), Has.newAt (by simp), (Has.new _ _ _).alloc _, hS _ (((Only.refl _ _).alloc _).alloc _)⟩
theorem only_bl {g : Nat} {wd wb wc : World} (hK : Below wd.heap.size wd wb) (ho : Only (fun k => k = g) wb wc) (hg : wd.heap.size ≤ g) : Below wd.heap.size wd wc := hK.trans (ho.below hK.size (fun i hi => by omega))
theorem twb3 {wd wb : World} {lo : Nat} {t : Sl} {A : Option Addr} {n cap : Nat} {heat hroom : Int} {s : Sm} {ps : List Pp} {g : Nat} (hK : Below wd.heap.size wd wb) (hS : PSt lo A ps wb) (h5 : Has wb g 26 z5) (hg : g < lo) (hg2 : wd.heap.size ≤ g) : Twb wd ((((((wb.setCell ⟨g, 0, none⟩ (.int .i64 t.v)).setCell ⟨g, 1, none⟩ (.int .i64 t.h)).setCell ⟨g, 2, none⟩ (.slice A n cap)).setCell ⟨g, 3, none⟩ (.int .i64 heat)).setCell ⟨g, 4, none⟩ (.int .i64 hroom)).alloc (.cells #[.int .i64 s.wa, .int .i64 s.lv, .int .i64 s.lh, .int .i64 s.fv, .int .i64 s.fh, .int .i64 s.ch, .int .i64 s.ai, .int .i64 s.us, .int .i64 s.bo] 31)) g wb.heap.size t A n cap heat hroom s ps := by
  obtain ⟨k, o⟩ := setA5 h5 (.int .i64 t.v) (.int .i64 t.h) (.slice A n cap) (.int .i64 heat) (.int .i64 hroom)
  have hb := only_bl hK o hg2
  refine ⟨hb.trans ((below_one _ _).mono hb.size), k.alloc _, Has.newAt (by simp), hS _ ((o.mono fun i _ hi => by omega).alloc _)⟩
theorem twb4 {wd wb : World} {lo : Nat} {t : Sl} {A : Option Addr} {n cap : Nat} {heat hroom : Int} {s : Sm} {ps : List Pp} {g : Nat} (hK : Below wd.heap.size wd wb) (hS : PSt lo A ps wb) (h9 : Has wb g 31 z9) (hg : g < lo) (hg2 : wd.heap.size ≤ g) : Twb wd ((((((((((wb.setCell ⟨g, 0, none⟩ (.int .i64 s.wa)).setCell ⟨g, 1, none⟩ (.int .i64 s.lv)).setCell ⟨g, 2, none⟩ (.int .i64 s.lh)).setCell ⟨g, 3, none⟩ (.int .i64 s.fv)).setCell ⟨g, 4, none⟩ (.int .i64 s.fh)).setCell ⟨g, 5, none⟩ (.int .i64 s.ch)).setCell ⟨g, 6, none⟩ (.int .i64 s.ai)).setCell ⟨g, 7, none⟩ (.int .i64 s.us)).setCell ⟨g, 8, none⟩ (.int .i64 s.bo)).alloc (.cells #[.int .i64 t.v, .int .i64 t.h, .slice A n cap, .int .i64 heat, .int .i64 hroom] 26)) wb.heap.size g t A n cap heat hroom s ps := by
  obtain ⟨k, o⟩ := setA9 h9 (.int .i64 s.wa) (.int .i64 s.lv) (.int .i64 s.lh) (.int .i64 s.fv) (.int .i64 s.fh) (.int .i64 s.ch) (.int .i64 s.ai) (.int .i64 s.us) (.int .i64 s.bo)
  have hb := only_bl hK o hg2
  refine ⟨hb.trans ((below_one _ _).mono hb.size), Has.newAt (by simp), k.alloc _, hS _ ((o.mono fun i _ hi => by omega).alloc _)⟩
theorem twb5 {wd wb : World} {lo : Nat} {t : Sl} {A : Option Addr} {n cap : Nat} {heat hroom : Int} {s : Sm} {ps : List Pp} {g k : Nat} (hK : Below wd.heap.size wd wb) (hS : PSt lo A ps wb) (h5 : Has wb g 26 z5) (h9 : Has wb k 31 z9) (hne : g ≠ k) (hg : g < lo) (hk : k < lo) (hg2 : wd.heap.size ≤ g) (hk2 : wd.heap.size ≤ k) : Twb wd ((((((((((((((wb.setCell ⟨g, 0, none⟩ (.int .i64 t.v)).setCell ⟨g, 1, none⟩ (.int .i64 t.h)).setCell ⟨g, 2, none⟩ (.slice A n cap)).setCell ⟨g, 3, none⟩ (.int .i64 heat)).setCell ⟨g, 4, none⟩ (.int .i64 hroom)).setCell ⟨k, 0, none⟩ (.int .i64 s.wa)).setCell ⟨k, 1, none⟩ (.int .i64 s.lv)).setCell ⟨k, 2, none⟩ (.int .i64 s.lh)).setCell ⟨k, 3, none⟩ (.int .i64 s.fv)).setCell ⟨k, 4, none⟩ (.int .i64 s.fh)).setCell ⟨k, 5, none⟩ (.int .i64 s.ch)).setCell ⟨k, 6, none⟩ (.int .i64 s.ai)).setCell ⟨k, 7, none⟩ (.int .i64 s.us)).setCell ⟨k, 8, none⟩ (.int .i64 s.bo)) g k t A n cap heat hroom s ps := by
  have h := set14 h5 h9 hne (.int .i64 t.v) (.int .i64 t.h) (.slice A n cap) (.int .i64 heat) (.int .i64 hroom) (.int .i64 s.wa) (.int .i64 s.lv) (.int .i64 s.lh) (.int .i64 s.fv) (.int .i64 s.fh) (.int .i64 s.ch) (.int .i64 s.ai) (.int .i64 s.us) (.int .i64 s.bo)
  exact ⟨hK.trans (h.on.below hK.size (fun i hi => by omega)), h.h4, h.h5, hS _ (h.on.mono fun i _ hi => by omega)⟩
end Go.Proofs.Ytjfopmjphiddiaa
