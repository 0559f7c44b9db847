/- Contracts of the document's plus, less, off, do, Event. -/
import Derived.Test.YtogabjlhecnbbaaRefB
import Derived.Test.YtogabjlhecnbbaaIcePlay
import Derived.Test.YtogabjlhecnbbaaIceLaw
namespace Go.Proofs.Ytogabjlhecnbbaa
open Go.RowKit Go.Shelf
theorem below3 (w : World) (a b c : Obj) (x y : Value) : Below w.heap.size w (((((w.alloc a).alloc b).alloc c).setCell ⟨w.heap.size + 1 + 1, 0, none⟩ x).setCell ⟨w.heap.size + 1 + 1, 1, none⟩ y) :=
  (((((Below.refl _ w).alloc (Nat.le_refl _) _).alloc (by simp) _).alloc (by simp; omega) _).setCell (p := ⟨_, 0, none⟩) (by simp; omega) x).setCell (p := ⟨_, 1, none⟩) (by simp; omega) y
theorem below3' (w : World) (a b c : Obj) : Below w.heap.size w (((w.alloc a).alloc b).alloc c) :=
  ((((Below.refl _ w).alloc (Nat.le_refl _) _).alloc (by simp) _).alloc (by simp; omega) _)
theorem sv_eq' {a b a' b' : Int} (h1 : a = a') (h2 : b = b') : Ending.returned (sv a b) = .returned (sv a' b') := by rw [h1, h2]

set_option maxHeartbeats 800000 in
theorem plus_any (a b c d : Int) (w : World) (n1 : Near (a + c)) (n2 : Near (b + d)) : Calls Try.prog 69 #[sv a b, sv c d] w fun e w' => e = .returned (sv (a + c) (b + d)) ∧ Below w.heap.size w w' := by
  obtain ⟨h1, h2⟩ := n1
  obtain ⟨h3, h4⟩ := n2
  go_enter Try.func69, Try.ntmps69
  go_wp2
  exact bodyPost_ret (v := sv (a + c) (b + d)) (by simp [results, Try.results69, go_sem]) rfl ⟨rfl, below3' _ _ _ _⟩
set_option maxHeartbeats 800000 in
theorem less_any (a b c d : Int) (w : World) (n1 : Near (a - d)) (n2 : Near (b - c)) : Calls Try.prog 81 #[sv a b, sv c d] w fun e w' => e = .returned (sv (max 0 (a - d)) (max 0 (b - c))) ∧ Below w.heap.size w w' := by
  obtain ⟨h1, h2⟩ := n1
  obtain ⟨h3, h4⟩ := n2
  rcases Int.lt_or_le d a with q1 | q1
  all_goals rcases Int.lt_or_le c b with q2 | q2
  all_goals
    go_enter Try.func81, Try.ntmps81
    go_wp2
    refine bodyPost_ret (v := sv _ _) (by simp [results, Try.results81, go_sem]; exact ⟨rfl, rfl⟩) rfl ⟨sv_eq' (by omega) (by omega), below3' _ _ _ _⟩
set_option maxHeartbeats 800000 in
theorem off_any (a b c d : Int) (w : World) : Calls Try.prog 82 #[sv a b, sv c d] w fun e w' => e = .returned (sv (min a c) (min b d)) ∧ Below w.heap.size w w' := by
  rcases Int.lt_or_le c a with q1 | q1
  all_goals rcases Int.lt_or_le d b with q2 | q2
  all_goals
    go_enter Try.func82, Try.ntmps82
    go_wp2
    refine bodyPost_ret (v := sv _ _) (by simp [results, Try.results82, go_sem]; exact ⟨rfl, rfl⟩) rfl ⟨sv_eq' (by omega) (by omega), below3' _ _ _ _⟩

/-- the blocks of do -/
structure DB (w W : World) (z o : Zn) (e : Ev) (s : Sm) : Prop where
  b : Below w.heap.size w W
  h0 : Has W w.heap.size 60 #[iv z.a, iv z.b, iv z.c, iv z.d]
  h1 : Has W (w.heap.size + 1) 54 #[iv e.k, iv e.f, iv e.t, iv e.x, iv e.y]
  h2 : Has W (w.heap.size + 1 + 1) 60 #[iv 0, iv 0, iv 0, iv 0]
  h3 : Has W (w.heap.size + 1 + 1 + 1) 29 #[iv 0, iv 0, iv 0, iv 0, iv 0, iv 0]
  h4 : Has W (w.heap.size + 1 + 1 + 1 + 1) 29 #[iv s.f1, iv s.f2, iv s.p1, iv s.p2, iv s.w1, iv s.w2]
  h5 : Has W (w.heap.size + 1 + 1 + 1 + 1 + 1) 60 #[iv o.a, iv o.b, iv o.c, iv o.d]
abbrev doW (w : World) (z : Zn) (e : Ev) : World := ((((((w.alloc (.cells #[iv z.a, iv z.b, iv z.c, iv z.d] 60)).alloc (.cells #[iv e.k, iv e.f, iv e.t, iv e.x, iv e.y] 54)).alloc (.cells #[iv 0, iv 0, iv 0, iv 0] 60)).alloc (.cells #[iv 0, iv 0, iv 0, iv 0, iv 0, iv 0] 29)).alloc (.cells #[iv 0, iv 0, iv 0, iv 0, iv 0, iv 0] 29)).alloc (.cells #[iv z.a, iv z.b, iv z.c, iv z.d] 60))
theorem DB.start (w : World) (z : Zn) (e : Ev) : DB w (doW w z e) z z e Sm.zero :=
  ⟨(((((((Below.refl _ w).alloc (Nat.le_refl _) _).alloc (by simp) _).alloc (by simp <;> omega) _).alloc (by simp <;> omega) _).alloc (by simp <;> omega) _).alloc (by simp <;> omega) _),
   ((((((Has.new _ _ _).alloc _).alloc _).alloc _).alloc _).alloc _), ((((Has.newAt (by simp)).alloc _).alloc _).alloc _).alloc _, (((Has.newAt (by simp)).alloc _).alloc _).alloc _, ((Has.newAt (by simp)).alloc _).alloc _, (Has.newAt (by simp)).alloc _, Has.newAt (by simp)⟩
theorem DB.start2 (w : World) (z o : Zn) (e : Ev) : DB w ((((((w.alloc (.cells #[iv z.a, iv z.b, iv z.c, iv z.d] 60)).alloc (.cells #[iv e.k, iv e.f, iv e.t, iv e.x, iv e.y] 54)).alloc (.cells #[iv 0, iv 0, iv 0, iv 0] 60)).alloc (.cells #[iv 0, iv 0, iv 0, iv 0, iv 0, iv 0] 29)).alloc (.cells #[iv 0, iv 0, iv 0, iv 0, iv 0, iv 0] 29)).alloc (.cells #[iv o.a, iv o.b, iv o.c, iv o.d] 60)) z o e Sm.zero :=
  ⟨(((((((Below.refl _ w).alloc (Nat.le_refl _) _).alloc (by simp) _).alloc (by simp <;> omega) _).alloc (by simp <;> omega) _).alloc (by simp <;> omega) _).alloc (by simp <;> omega) _),
   ((((((Has.new _ _ _).alloc _).alloc _).alloc _).alloc _).alloc _), ((((Has.newAt (by simp)).alloc _).alloc _).alloc _).alloc _, (((Has.newAt (by simp)).alloc _).alloc _).alloc _, ((Has.newAt (by simp)).alloc _).alloc _, (Has.newAt (by simp)).alloc _, Has.newAt (by simp)⟩
theorem DB.below {w W W' : World} {z o : Zn} {e : Ev} {s : Sm} (h : DB w W z o e s) (hb : Below W.heap.size W W') : DB w W' z o e s :=
  ⟨h.b.trans (hb.mono h.b.size), h.h0.below hb h.h0.lt, h.h1.below hb h.h1.lt, h.h2.below hb h.h2.lt, h.h3.below hb h.h3.lt, h.h4.below hb h.h4.lt, h.h5.below hb h.h5.lt⟩
theorem DB.setO {w W : World} {z o : Zn} {e : Ev} {s : Sm} (h : DB w W z o e s) (x y : Int) :
    DB w ((W.setCell ⟨w.heap.size + 1 + 1 + 1 + 1 + 1, 0, none⟩ (iv x)).setCell ⟨w.heap.size + 1 + 1 + 1 + 1 + 1, 1, none⟩ (iv y)) z { o with a := x, b := y } e s :=
  ⟨(h.b.setCell (p := ⟨_, 0, none⟩) (by simp <;> omega) _).setCell (p := ⟨_, 1, none⟩) (by simp <;> omega) _, (h.h0.far (by simp <;> omega) _).far (by simp <;> omega) _, (h.h1.far (by simp <;> omega) _).far (by simp <;> omega) _, (h.h2.far (by simp <;> omega) _).far (by simp <;> omega) _, (h.h3.far (by simp <;> omega) _).far (by simp <;> omega) _, (h.h4.far (by simp <;> omega) _).far (by simp <;> omega) _, (h.h5.set 0 _).set 1 _⟩
theorem DB.setP {w W : World} {z o : Zn} {e : Ev} {s : Sm} (h : DB w W z o e s) (x y : Int) :
    DB w ((W.setCell ⟨w.heap.size + 1 + 1 + 1 + 1 + 1, 2, none⟩ (iv x)).setCell ⟨w.heap.size + 1 + 1 + 1 + 1 + 1, 3, none⟩ (iv y)) z { o with c := x, d := y } e s :=
  ⟨(h.b.setCell (p := ⟨_, 2, none⟩) (by simp <;> omega) _).setCell (p := ⟨_, 3, none⟩) (by simp <;> omega) _, (h.h0.far (by simp <;> omega) _).far (by simp <;> omega) _, (h.h1.far (by simp <;> omega) _).far (by simp <;> omega) _, (h.h2.far (by simp <;> omega) _).far (by simp <;> omega) _, (h.h3.far (by simp <;> omega) _).far (by simp <;> omega) _, (h.h4.far (by simp <;> omega) _).far (by simp <;> omega) _, (h.h5.set 2 _).set 3 _⟩
theorem DB.setS {w W : World} {z o : Zn} {e : Ev} {s : Sm} (h : DB w W z o e s) (j : Nat) (x y : Int) (s' : Sm) (hs : ((#[iv s.f1, iv s.f2, iv s.p1, iv s.p2, iv s.w1, iv s.w2] : Array Value).setIfInBounds j (iv x)).setIfInBounds (j + 1) (iv y) = #[iv s'.f1, iv s'.f2, iv s'.p1, iv s'.p2, iv s'.w1, iv s'.w2]) :
    DB w ((W.setCell ⟨w.heap.size + 1 + 1 + 1 + 1, j, none⟩ (iv x)).setCell ⟨w.heap.size + 1 + 1 + 1 + 1, j + 1, none⟩ (iv y)) z o e s' :=
  ⟨(h.b.setCell (p := ⟨_, j, none⟩) (by simp <;> omega) _).setCell (p := ⟨_, j + 1, none⟩) (by simp <;> omega) _, (h.h0.far (by simp <;> omega) _).far (by simp <;> omega) _, (h.h1.far (by simp <;> omega) _).far (by simp <;> omega) _, (h.h2.far (by simp <;> omega) _).far (by simp <;> omega) _, (h.h3.far (by simp <;> omega) _).far (by simp <;> omega) _, hs ▸ (h.h4.set j _).set (j + 1) _, (h.h5.far (by simp <;> omega) _).far (by simp <;> omega) _⟩
structure DBc (w W : World) (z o : Zn) (e : Ev) (s : Sm) : Prop where
  l0 : w.heap.size < W.heap.size
  l1 : w.heap.size + 1 < W.heap.size
  l2 : w.heap.size + 1 + 1 < W.heap.size
  l3 : w.heap.size + 1 + 1 + 1 < W.heap.size
  l4 : w.heap.size + 1 + 1 + 1 + 1 < W.heap.size
  l5 : w.heap.size + 1 + 1 + 1 + 1 + 1 < W.heap.size
  z0 : W.cell? ⟨w.heap.size, 0, none⟩ = some (iv z.a)
  z1 : W.cell? ⟨w.heap.size, 1, none⟩ = some (iv z.b)
  z2 : W.cell? ⟨w.heap.size, 2, none⟩ = some (iv z.c)
  z3 : W.cell? ⟨w.heap.size, 3, none⟩ = some (iv z.d)
  e0 : W.cell? ⟨w.heap.size + 1, 0, none⟩ = some (iv e.k)
  e3 : W.cell? ⟨w.heap.size + 1, 3, none⟩ = some (iv e.x)
  e4 : W.cell? ⟨w.heap.size + 1, 4, none⟩ = some (iv e.y)
  s0 : W.cell? ⟨w.heap.size + 1 + 1 + 1 + 1, 0, none⟩ = some (iv s.f1)
  s1 : W.cell? ⟨w.heap.size + 1 + 1 + 1 + 1, 1, none⟩ = some (iv s.f2)
  s2 : W.cell? ⟨w.heap.size + 1 + 1 + 1 + 1, 2, none⟩ = some (iv s.p1)
  s3 : W.cell? ⟨w.heap.size + 1 + 1 + 1 + 1, 3, none⟩ = some (iv s.p2)
  s4 : W.cell? ⟨w.heap.size + 1 + 1 + 1 + 1, 4, none⟩ = some (iv s.w1)
  s5 : W.cell? ⟨w.heap.size + 1 + 1 + 1 + 1, 5, none⟩ = some (iv s.w2)
  o0 : W.cell? ⟨w.heap.size + 1 + 1 + 1 + 1 + 1, 0, none⟩ = some (iv o.a)
  o1 : W.cell? ⟨w.heap.size + 1 + 1 + 1 + 1 + 1, 1, none⟩ = some (iv o.b)
  o2 : W.cell? ⟨w.heap.size + 1 + 1 + 1 + 1 + 1, 2, none⟩ = some (iv o.c)
  o3 : W.cell? ⟨w.heap.size + 1 + 1 + 1 + 1 + 1, 3, none⟩ = some (iv o.d)
  fs : ∀ i, W.frozen? ⟨w.heap.size + 1 + 1 + 1 + 1, i, none⟩ = false
  fo : ∀ i, W.frozen? ⟨w.heap.size + 1 + 1 + 1 + 1 + 1, i, none⟩ = false
  fr : ∀ i, W.frozen? ⟨w.heap.size + 1 + 1, i, none⟩ = false
  fq : ∀ i, W.frozen? ⟨w.heap.size + 1 + 1 + 1, i, none⟩ = false
  r0 : W.cell? ⟨w.heap.size + 1 + 1, 0, none⟩ = some (iv 0)
  r1 : W.cell? ⟨w.heap.size + 1 + 1, 1, none⟩ = some (iv 0)
  r2 : W.cell? ⟨w.heap.size + 1 + 1, 2, none⟩ = some (iv 0)
  r3 : W.cell? ⟨w.heap.size + 1 + 1, 3, none⟩ = some (iv 0)
  q0 : W.cell? ⟨w.heap.size + 1 + 1 + 1, 0, none⟩ = some (iv 0)
  q1 : W.cell? ⟨w.heap.size + 1 + 1 + 1, 1, none⟩ = some (iv 0)
  q2 : W.cell? ⟨w.heap.size + 1 + 1 + 1, 2, none⟩ = some (iv 0)
  q3 : W.cell? ⟨w.heap.size + 1 + 1 + 1, 3, none⟩ = some (iv 0)
  q4 : W.cell? ⟨w.heap.size + 1 + 1 + 1, 4, none⟩ = some (iv 0)
  q5 : W.cell? ⟨w.heap.size + 1 + 1 + 1, 5, none⟩ = some (iv 0)
theorem DB.c {w W : World} {z o : Zn} {e : Ev} {s : Sm} (h : DB w W z o e s) : DBc w W z o e s :=
  ⟨h.h0.lt, h.h1.lt, h.h2.lt, h.h3.lt, h.h4.lt, h.h5.lt, h.h0.cell 0, h.h0.cell 1, h.h0.cell 2, h.h0.cell 3, h.h1.cell 0, h.h1.cell 3, h.h1.cell 4, h.h4.cell 0, h.h4.cell 1, h.h4.cell 2, h.h4.cell 3, h.h4.cell 4, h.h4.cell 5, h.h5.cell 0, h.h5.cell 1, h.h5.cell 2, h.h5.cell 3, h.h4.frozen, h.h5.frozen, h.h2.frozen, h.h3.frozen,
   h.h2.cell 0, h.h2.cell 1, h.h2.cell 2, h.h2.cell 3, h.h3.cell 0, h.h3.cell 1, h.h3.cell 2, h.h3.cell 3, h.h3.cell 4, h.h3.cell 5⟩
theorem dbEnd {w W : World} (h : Below w.heap.size w W) (a b c d e f g i j k : Value) :
    Below w.heap.size w (((((((((((W.setCell ⟨w.heap.size + 1 + 1, 0, none⟩ a).setCell ⟨w.heap.size + 1 + 1, 1, none⟩ b).setCell ⟨w.heap.size + 1 + 1, 2, none⟩ c).setCell ⟨w.heap.size + 1 + 1, 3, none⟩ d).setCell ⟨w.heap.size + 1 + 1 + 1, 0, none⟩ e).setCell ⟨w.heap.size + 1 + 1 + 1, 1, none⟩ f).setCell ⟨w.heap.size + 1 + 1 + 1, 2, none⟩ g).setCell ⟨w.heap.size + 1 + 1 + 1, 3, none⟩ i).setCell ⟨w.heap.size + 1 + 1 + 1, 4, none⟩ j).setCell ⟨w.heap.size + 1 + 1 + 1, 5, none⟩ k).drew) := by
  refine Below.drew ((((((((((h.setCell (p := ⟨_, 0, none⟩) ?_ _).setCell (p := ⟨_, 1, none⟩) ?_ _).setCell (p := ⟨_, 2, none⟩) ?_ _).setCell (p := ⟨_, 3, none⟩) ?_ _).setCell (p := ⟨_, 0, none⟩) ?_ _).setCell (p := ⟨_, 1, none⟩) ?_ _).setCell (p := ⟨_, 2, none⟩) ?_ _).setCell (p := ⟨_, 3, none⟩) ?_ _).setCell (p := ⟨_, 4, none⟩) ?_ _).setCell (p := ⟨_, 5, none⟩) ?_ _) <;> simp <;> omega
def DoPost (e : Ev) (z : Zn) (w : World) (r : Ending) (w' : World) : Prop :=
  ∃ z' s', r = .returned (.tuple #[zv z', smv s', iv (zErr e z)]) ∧ Below w.heap.size w w' ∧ (zErr e z = 0 → z' = (zDo e z Sm.zero).1 ∧ s' = (zDo e z Sm.zero).2)


set_option maxRecDepth 100000 in
set_option maxHeartbeats 2000000 in
theorem do0_any (z : Zn) (f t x y : Int) (w : World) (hz : z.ok = true) (hw : win x y = true) : Calls Try.prog 68 #[zv z, evv ⟨0, f, t, x, y⟩] w (DoPost ⟨0, f, t, x, y⟩ z w) := by
  have H0 := Lib.hid (DB.start w z ⟨0, f, t, x, y⟩)
  simp only [Zn.ok, Bool.and_eq_true, win_iff] at hz
  rw [win_iff] at hw
  go_enter Try.func68, Try.ntmps68
  go_wp2_with fail
  refine (plus_any _ _ _ _ _ ⟨by omega, by omega⟩ ⟨by omega, by omega⟩).mono ?_
  rintro r wa ⟨rfl, hb⟩
  have HA := Lib.hid (H0.out.below hb)
  clear H0 hb
  obtain ⟨l0, l1, l2, l3, l4, l5, z0, z1, z2, z3, e0, e3, e4, s0, s1, s2, s3, s4, s5, o0, o1, o2, o3, fs, fo, fr, fq, r0, r1, r2, r3, q0, q1, q2, q3, q4, q5⟩ := HA.out.c
  simp only at e0 e3 e4 s0 s1 s2 s3 s4 s5 o0 o1 o2 o3
  have f0 := fo 0
  have f1 := fo 1
  have f2 := fs 0
  have f3 := fs 1
  have HB := Lib.hid ((HA.out.setO (z.a + x) (z.b + y)).setS 0 x y ⟨x, y, 0, 0, 0, 0⟩ rfl)
  by_cases hlim : 20000 < z.b + y
  · have HE : Hid (zErr ⟨0, f, t, x, y⟩ z = 12) := by show _ = _; simp [zErr, hlim]
    go_wp2_with fail
    refine (?_ : ∀ W9, DB w W9 z { z with a := z.a + x, b := z.b + y } ⟨0, f, t, x, y⟩ ⟨x, y, 0, 0, 0, 0⟩ → Code.wp Try.prog _ _ _ W9) _ HB.out
    clear l0 l1 l2 l3 l4 l5 z0 z1 z2 z3 e0 e3 e4 s0 s1 s2 s3 s4 s5 o0 o1 o2 o3 fs fo fr fq r0 r1 r2 r3 q0 q1 q2 q3 q4 q5
    intro W9 hZ
    have HZ := Lib.hid hZ
    clear hZ
    obtain ⟨l0, l1, l2, l3, l4, l5, z0, z1, z2, z3, e0, e3, e4, s0, s1, s2, s3, s4, s5, o0, o1, o2, o3, fs, fo, fr, fq, r0, r1, r2, r3, q0, q1, q2, q3, q4, q5⟩ := HZ.out.c
    simp only at e0 e3 e4 s0 s1 s2 s3 s4 s5 o0 o1 o2 o3
    have fr0 := fr 0
    have fr1 := fr 1
    have fr2 := fr 2
    have fr3 := fr 3
    have fq0 := fq 0
    have fq1 := fq 1
    have fq2 := fq 2
    have fq3 := fq 3
    have fq4 := fq 4
    have fq5 := fq 5
    go_region
    all_goals
      go_wp2_with fail
      refine bodyPost_ret (v := .tuple #[zv z, smv (⟨x, y, 0, 0, 0, 0⟩ : Sm), iv 12]) (by simp [results, Try.results68, go_sem, r0, r1, r2, r3, q0, q1, q2, q3, q4, q5]) rfl ?_
      exact ⟨z, (⟨x, y, 0, 0, 0, 0⟩ : Sm), by rw [HE.out], dbEnd HZ.out.b _ _ _ _ _ _ _ _ _ _, fun h => by rw [HE.out] at h; cases h⟩
  · have HE : Hid (zErr ⟨0, f, t, x, y⟩ z = 0) := by show _ = _; simp [zErr, hlim]
    have hld : decide (20000 < z.b + y) = false := by simpa using hlim
    go_wp2_with fail
    refine (?_ : ∀ W9, DB w W9 z { z with a := z.a + x, b := z.b + y } ⟨0, f, t, x, y⟩ ⟨x, y, 0, 0, 0, 0⟩ → Code.wp Try.prog _ _ _ W9) _ HB.out
    clear l0 l1 l2 l3 l4 l5 z0 z1 z2 z3 e0 e3 e4 s0 s1 s2 s3 s4 s5 o0 o1 o2 o3 fs fo fr fq r0 r1 r2 r3 q0 q1 q2 q3 q4 q5
    intro W9 hZ
    have HZ := Lib.hid hZ
    clear hZ
    obtain ⟨l0, l1, l2, l3, l4, l5, z0, z1, z2, z3, e0, e3, e4, s0, s1, s2, s3, s4, s5, o0, o1, o2, o3, fs, fo, fr, fq, r0, r1, r2, r3, q0, q1, q2, q3, q4, q5⟩ := HZ.out.c
    simp only at e0 e3 e4 s0 s1 s2 s3 s4 s5 o0 o1 o2 o3
    have fr0 := fr 0
    have fr1 := fr 1
    have fr2 := fr 2
    have fr3 := fr 3
    have fq0 := fq 0
    have fq1 := fq 1
    have fq2 := fq 2
    have fq3 := fq 3
    have fq4 := fq 4
    have fq5 := fq 5
    go_region
    all_goals
      go_wp2_with fail
      refine bodyPost_ret (v := .tuple #[zv (⟨z.a + x, z.b + y, z.c, z.d⟩ : Zn), smv (⟨x, y, 0, 0, 0, 0⟩ : Sm), iv 0]) (by simp [results, Try.results68, go_sem, r0, r1, r2, r3, q0, q1, q2, q3, q4, q5]) rfl ?_
      exact ⟨(⟨z.a + x, z.b + y, z.c, z.d⟩ : Zn), (⟨x, y, 0, 0, 0, 0⟩ : Sm), by rw [HE.out], dbEnd HZ.out.b _ _ _ _ _ _ _ _ _ _, fun _ => by simp [zDo, Zn.ice, Sm.fro]⟩


set_option maxRecDepth 100000 in
set_option maxHeartbeats 2000000 in
theorem do1_any (z : Zn) (f t x y : Int) (w : World) (hz : z.ok = true) (hw : win x y = true) : Calls Try.prog 68 #[zv z, evv ⟨1, f, t, x, y⟩] w (DoPost ⟨1, f, t, x, y⟩ z w) := by
  have H0 := Lib.hid (DB.start w z ⟨1, f, t, x, y⟩)
  simp only [Zn.ok, Bool.and_eq_true, win_iff] at hz
  rw [win_iff] at hw
  have HE : Hid (zErr ⟨1, f, t, x, y⟩ z = 0) := by show _ = _; simp [zErr]
  go_enter Try.func68, Try.ntmps68
  go_wp2_with fail
  refine (less_any _ _ _ _ _ ⟨by omega, by omega⟩ ⟨by omega, by omega⟩).mono ?_
  rintro r wa ⟨rfl, hb⟩
  have HA := Lib.hid (H0.out.below hb)
  clear H0 hb
  obtain ⟨l0, l1, l2, l3, l4, l5, z0, z1, z2, z3, e0, e3, e4, s0, s1, s2, s3, s4, s5, o0, o1, o2, o3, fs, fo, fr, fq, r0, r1, r2, r3, q0, q1, q2, q3, q4, q5⟩ := HA.out.c
  simp only at e0 e3 e4 s0 s1 s2 s3 s4 s5 o0 o1 o2 o3
  have f0 := fo 0
  have f1 := fo 1
  obtain ⟨m1, hm1⟩ : ∃ m, m = max 0 (z.a - y) := ⟨_, rfl⟩
  obtain ⟨m2, hm2⟩ : ∃ m, m = max 0 (z.b - x) := ⟨_, rfl⟩
  rw [← hm1, ← hm2]
  have HM := Lib.hid (And.intro hm1 hm2)
  clear hm1 hm2
  have HA2 := Lib.hid (HA.out.setO m1 m2)
  go_wp2_with fail
  refine (off_any _ _ _ _ _).mono ?_
  rintro r wb ⟨rfl, hb⟩
  have HB := Lib.hid (HA2.out.below hb)
  clear HA2 hb f0 f1
  clear l0 l1 l2 l3 l4 l5 z0 z1 z2 z3 e0 e3 e4 s0 s1 s2 s3 s4 s5 o0 o1 o2 o3 fs fo fr fq r0 r1 r2 r3 q0 q1 q2 q3 q4 q5
  obtain ⟨l0, l1, l2, l3, l4, l5, z0, z1, z2, z3, e0, e3, e4, s0, s1, s2, s3, s4, s5, o0, o1, o2, o3, fs, fo, fr, fq, r0, r1, r2, r3, q0, q1, q2, q3, q4, q5⟩ := HB.out.c
  simp only at e0 e3 e4 s0 s1 s2 s3 s4 s5 o0 o1 o2 o3
  have f0 := fs 2
  have f1 := fs 3
  have HC := Lib.hid (HB.out.setS 2 (min z.a x) (min z.b y) ⟨0, 0, min z.a x, min z.b y, 0, 0⟩ rfl)
  go_wp2_with fail
  refine (?_ : ∀ W9, DB w W9 z ⟨m1, m2, z.c, z.d⟩ ⟨1, f, t, x, y⟩ ⟨0, 0, min z.a x, min z.b y, 0, 0⟩ → Code.wp Try.prog _ _ _ W9) _ HC.out
  clear l0 l1 l2 l3 l4 l5 z0 z1 z2 z3 e0 e3 e4 s0 s1 s2 s3 s4 s5 o0 o1 o2 o3 fs fo fr fq r0 r1 r2 r3 q0 q1 q2 q3 q4 q5
  intro W9 hZ
  have HZ := Lib.hid hZ
  clear hZ
  obtain ⟨l0, l1, l2, l3, l4, l5, z0, z1, z2, z3, e0, e3, e4, s0, s1, s2, s3, s4, s5, o0, o1, o2, o3, fs, fo, fr, fq, r0, r1, r2, r3, q0, q1, q2, q3, q4, q5⟩ := HZ.out.c
  simp only at e0 e3 e4 s0 s1 s2 s3 s4 s5 o0 o1 o2 o3
  have fr0 := fr 0
  have fr1 := fr 1
  have fr2 := fr 2
  have fr3 := fr 3
  have fq0 := fq 0
  have fq1 := fq 1
  have fq2 := fq 2
  have fq3 := fq 3
  have fq4 := fq 4
  have fq5 := fq 5
  go_region
  all_goals
    go_wp2_with fail
    refine bodyPost_ret (v := .tuple #[zv (⟨m1, m2, z.c, z.d⟩ : Zn), smv (⟨0, 0, min z.a x, min z.b y, 0, 0⟩ : Sm), iv 0]) (by simp [results, Try.results68, go_sem, r0, r1, r2, r3, q0, q1, q2, q3, q4, q5]) rfl ?_
    exact ⟨(⟨m1, m2, z.c, z.d⟩ : Zn), (⟨0, 0, min z.a x, min z.b y, 0, 0⟩ : Sm), by rw [HE.out], dbEnd HZ.out.b _ _ _ _ _ _ _ _ _ _, fun _ => by simp [zDo, Zn.ice, Sm.pla, HM.out.1, HM.out.2]⟩

set_option maxRecDepth 100000 in
set_option maxHeartbeats 2000000 in
theorem do2_any (z : Zn) (f t x y : Int) (w : World) (hz : z.ok = true) (hw : win x y = true) : Calls Try.prog 68 #[zv z, evv ⟨2, f, t, x, y⟩] w (DoPost ⟨2, f, t, x, y⟩ z w) := by
  have H0 := Lib.hid (DB.start w z ⟨2, f, t, x, y⟩)
  simp only [Zn.ok, Bool.and_eq_true, win_iff] at hz
  rw [win_iff] at hw
  have HE : Hid (zErr ⟨2, f, t, x, y⟩ z = 0) := by show _ = _; simp [zErr]
  go_enter Try.func68, Try.ntmps68
  go_wp2_with fail
  refine (less_any _ _ _ _ _ ⟨by omega, by omega⟩ ⟨by omega, by omega⟩).mono ?_
  rintro r wa ⟨rfl, hb⟩
  have HA := Lib.hid (H0.out.below hb)
  clear H0 hb
  obtain ⟨l0, l1, l2, l3, l4, l5, z0, z1, z2, z3, e0, e3, e4, s0, s1, s2, s3, s4, s5, o0, o1, o2, o3, fs, fo, fr, fq, r0, r1, r2, r3, q0, q1, q2, q3, q4, q5⟩ := HA.out.c
  simp only at e0 e3 e4 s0 s1 s2 s3 s4 s5 o0 o1 o2 o3
  have f0 := fo 0
  have f1 := fo 1
  obtain ⟨m1, hm1⟩ : ∃ m, m = max 0 (z.a - y) := ⟨_, rfl⟩
  obtain ⟨m2, hm2⟩ : ∃ m, m = max 0 (z.b - x) := ⟨_, rfl⟩
  rw [← hm1, ← hm2]
  have HM := Lib.hid (And.intro hm1 hm2)
  clear hm1 hm2
  have HA2 := Lib.hid (HA.out.setO m1 m2)
  go_wp2_with fail
  refine (off_any _ _ _ _ _).mono ?_
  rintro r wb ⟨rfl, hb⟩
  have HB := Lib.hid (HA2.out.below hb)
  clear HA2 hb f0 f1
  clear l0 l1 l2 l3 l4 l5 z0 z1 z2 z3 e0 e3 e4 s0 s1 s2 s3 s4 s5 o0 o1 o2 o3 fs fo fr fq r0 r1 r2 r3 q0 q1 q2 q3 q4 q5
  obtain ⟨l0, l1, l2, l3, l4, l5, z0, z1, z2, z3, e0, e3, e4, s0, s1, s2, s3, s4, s5, o0, o1, o2, o3, fs, fo, fr, fq, r0, r1, r2, r3, q0, q1, q2, q3, q4, q5⟩ := HB.out.c
  simp only at e0 e3 e4 s0 s1 s2 s3 s4 s5 o0 o1 o2 o3
  have f0 := fs 4
  have f1 := fs 5
  have HC := Lib.hid (HB.out.setS 4 (min z.a x) (min z.b y) ⟨0, 0, 0, 0, min z.a x, min z.b y⟩ rfl)
  go_wp2_with fail
  refine (?_ : ∀ W9, DB w W9 z ⟨m1, m2, z.c, z.d⟩ ⟨2, f, t, x, y⟩ ⟨0, 0, 0, 0, min z.a x, min z.b y⟩ → Code.wp Try.prog _ _ _ W9) _ HC.out
  clear l0 l1 l2 l3 l4 l5 z0 z1 z2 z3 e0 e3 e4 s0 s1 s2 s3 s4 s5 o0 o1 o2 o3 fs fo fr fq r0 r1 r2 r3 q0 q1 q2 q3 q4 q5
  intro W9 hZ
  have HZ := Lib.hid hZ
  clear hZ
  obtain ⟨l0, l1, l2, l3, l4, l5, z0, z1, z2, z3, e0, e3, e4, s0, s1, s2, s3, s4, s5, o0, o1, o2, o3, fs, fo, fr, fq, r0, r1, r2, r3, q0, q1, q2, q3, q4, q5⟩ := HZ.out.c
  simp only at e0 e3 e4 s0 s1 s2 s3 s4 s5 o0 o1 o2 o3
  have fr0 := fr 0
  have fr1 := fr 1
  have fr2 := fr 2
  have fr3 := fr 3
  have fq0 := fq 0
  have fq1 := fq 1
  have fq2 := fq 2
  have fq3 := fq 3
  have fq4 := fq 4
  have fq5 := fq 5
  go_region
  all_goals
    go_wp2_with fail
    refine bodyPost_ret (v := .tuple #[zv (⟨m1, m2, z.c, z.d⟩ : Zn), smv (⟨0, 0, 0, 0, min z.a x, min z.b y⟩ : Sm), iv 0]) (by simp [results, Try.results68, go_sem, r0, r1, r2, r3, q0, q1, q2, q3, q4, q5]) rfl ?_
    exact ⟨(⟨m1, m2, z.c, z.d⟩ : Zn), (⟨0, 0, 0, 0, min z.a x, min z.b y⟩ : Sm), by rw [HE.out], dbEnd HZ.out.b _ _ _ _ _ _ _ _ _ _, fun _ => by simp [zDo, Zn.ice, Sm.wor, HM.out.1, HM.out.2]⟩

set_option maxRecDepth 100000 in
set_option maxHeartbeats 2000000 in
theorem do3_any (z : Zn) (f t x y : Int) (w : World) (hz : z.ok = true) (hw : win x y = true) : Calls Try.prog 68 #[zv z, evv ⟨3, f, t, x, y⟩] w (DoPost ⟨3, f, t, x, y⟩ z w) := by
  have H0 := Lib.hid (DB.start w z ⟨3, f, t, x, y⟩)
  simp only [Zn.ok, Bool.and_eq_true, win_iff] at hz
  rw [win_iff] at hw
  go_enter Try.func68, Try.ntmps68
  rcases Int.lt_or_le z.a x with g1 | g1
  all_goals rcases Int.lt_or_le y z.b with g2 | g2
  · by_cases hlim : y < x
    · exact absurd hlim (by omega)
    · have HE : Hid (zErr ⟨3, f, t, x, y⟩ z = 0) := by
        show _ = _
        have h1 : ¬ min z.b y < max z.a x := by omega
        simp [zErr, h1]
      have HD : Hid (max z.a x = x ∧ min z.b y = y) := ⟨by omega, by omega⟩
      go_wp2_with fail
      have HA := Lib.hid (DB.start2 w z ⟨x, y, z.c, z.d⟩ ⟨3, f, t, x, y⟩)
      refine (?_ : ∀ W9, DB w W9 z ⟨x, y, z.c, z.d⟩ ⟨3, f, t, x, y⟩ Sm.zero → Code.wp Try.prog _ _ _ W9) _ HA.out
      skip
      intro W9 hZ
      have HZ := Lib.hid hZ
      clear hZ
      obtain ⟨l0, l1, l2, l3, l4, l5, z0, z1, z2, z3, e0, e3, e4, s0, s1, s2, s3, s4, s5, o0, o1, o2, o3, fs, fo, fr, fq, r0, r1, r2, r3, q0, q1, q2, q3, q4, q5⟩ := HZ.out.c
      simp only at e0 e3 e4 s0 s1 s2 s3 s4 s5 o0 o1 o2 o3
      have fr0 := fr 0
      have fr1 := fr 1
      have fr2 := fr 2
      have fr3 := fr 3
      have fq0 := fq 0
      have fq1 := fq 1
      have fq2 := fq 2
      have fq3 := fq 3
      have fq4 := fq 4
      have fq5 := fq 5
      go_region
      all_goals
        go_wp2_with fail
        refine bodyPost_ret (v := .tuple #[zv (⟨x, y, z.c, z.d⟩ : Zn), smv Sm.zero, iv 0]) (by simp [results, Try.results68, go_sem, r0, r1, r2, r3, q0, q1, q2, q3, q4, q5]) rfl ?_
        exact ⟨(⟨x, y, z.c, z.d⟩ : Zn), Sm.zero, by rw [HE.out], dbEnd HZ.out.b _ _ _ _ _ _ _ _ _ _, fun _ => by simp [zDo, Zn.ice, HD.out.1, HD.out.2]⟩
  · by_cases hlim : z.b < x
    · have HE : Hid (zErr ⟨3, f, t, x, y⟩ z = 6) := by
        show _ = _
        have h1 : min z.b y < max z.a x := by omega
        simp [zErr, h1]
      go_wp2_with fail
      have HA := Lib.hid (DB.start2 w z ⟨x, z.b, z.c, z.d⟩ ⟨3, f, t, x, y⟩)
      refine (?_ : ∀ W9, DB w W9 z ⟨x, z.b, z.c, z.d⟩ ⟨3, f, t, x, y⟩ Sm.zero → Code.wp Try.prog _ _ _ W9) _ HA.out
      skip
      intro W9 hZ
      have HZ := Lib.hid hZ
      clear hZ
      obtain ⟨l0, l1, l2, l3, l4, l5, z0, z1, z2, z3, e0, e3, e4, s0, s1, s2, s3, s4, s5, o0, o1, o2, o3, fs, fo, fr, fq, r0, r1, r2, r3, q0, q1, q2, q3, q4, q5⟩ := HZ.out.c
      simp only at e0 e3 e4 s0 s1 s2 s3 s4 s5 o0 o1 o2 o3
      have fr0 := fr 0
      have fr1 := fr 1
      have fr2 := fr 2
      have fr3 := fr 3
      have fq0 := fq 0
      have fq1 := fq 1
      have fq2 := fq 2
      have fq3 := fq 3
      have fq4 := fq 4
      have fq5 := fq 5
      go_region
      all_goals
        go_wp2_with fail
        refine bodyPost_ret (v := .tuple #[zv z, smv Sm.zero, iv 6]) (by simp [results, Try.results68, go_sem, r0, r1, r2, r3, q0, q1, q2, q3, q4, q5]) rfl ?_
        exact ⟨z, Sm.zero, by rw [HE.out], dbEnd HZ.out.b _ _ _ _ _ _ _ _ _ _, fun h => by rw [HE.out] at h; cases h⟩
    · have HE : Hid (zErr ⟨3, f, t, x, y⟩ z = 0) := by
        show _ = _
        have h1 : ¬ min z.b y < max z.a x := by omega
        simp [zErr, h1]
      have HD : Hid (max z.a x = x ∧ min z.b y = z.b) := ⟨by omega, by omega⟩
      go_wp2_with fail
      have HA := Lib.hid (DB.start2 w z ⟨x, z.b, z.c, z.d⟩ ⟨3, f, t, x, y⟩)
      refine (?_ : ∀ W9, DB w W9 z ⟨x, z.b, z.c, z.d⟩ ⟨3, f, t, x, y⟩ Sm.zero → Code.wp Try.prog _ _ _ W9) _ HA.out
      skip
      intro W9 hZ
      have HZ := Lib.hid hZ
      clear hZ
      obtain ⟨l0, l1, l2, l3, l4, l5, z0, z1, z2, z3, e0, e3, e4, s0, s1, s2, s3, s4, s5, o0, o1, o2, o3, fs, fo, fr, fq, r0, r1, r2, r3, q0, q1, q2, q3, q4, q5⟩ := HZ.out.c
      simp only at e0 e3 e4 s0 s1 s2 s3 s4 s5 o0 o1 o2 o3
      have fr0 := fr 0
      have fr1 := fr 1
      have fr2 := fr 2
      have fr3 := fr 3
      have fq0 := fq 0
      have fq1 := fq 1
      have fq2 := fq 2
      have fq3 := fq 3
      have fq4 := fq 4
      have fq5 := fq 5
      go_region
      all_goals
        go_wp2_with fail
        refine bodyPost_ret (v := .tuple #[zv (⟨x, z.b, z.c, z.d⟩ : Zn), smv Sm.zero, iv 0]) (by simp [results, Try.results68, go_sem, r0, r1, r2, r3, q0, q1, q2, q3, q4, q5]) rfl ?_
        exact ⟨(⟨x, z.b, z.c, z.d⟩ : Zn), Sm.zero, by rw [HE.out], dbEnd HZ.out.b _ _ _ _ _ _ _ _ _ _, fun _ => by simp [zDo, Zn.ice, HD.out.1, HD.out.2]⟩
  · by_cases hlim : y < z.a
    · have HE : Hid (zErr ⟨3, f, t, x, y⟩ z = 6) := by
        show _ = _
        have h1 : min z.b y < max z.a x := by omega
        simp [zErr, h1]
      go_wp2_with fail
      have HA := Lib.hid (DB.start2 w z ⟨z.a, y, z.c, z.d⟩ ⟨3, f, t, x, y⟩)
      refine (?_ : ∀ W9, DB w W9 z ⟨z.a, y, z.c, z.d⟩ ⟨3, f, t, x, y⟩ Sm.zero → Code.wp Try.prog _ _ _ W9) _ HA.out
      skip
      intro W9 hZ
      have HZ := Lib.hid hZ
      clear hZ
      obtain ⟨l0, l1, l2, l3, l4, l5, z0, z1, z2, z3, e0, e3, e4, s0, s1, s2, s3, s4, s5, o0, o1, o2, o3, fs, fo, fr, fq, r0, r1, r2, r3, q0, q1, q2, q3, q4, q5⟩ := HZ.out.c
      simp only at e0 e3 e4 s0 s1 s2 s3 s4 s5 o0 o1 o2 o3
      have fr0 := fr 0
      have fr1 := fr 1
      have fr2 := fr 2
      have fr3 := fr 3
      have fq0 := fq 0
      have fq1 := fq 1
      have fq2 := fq 2
      have fq3 := fq 3
      have fq4 := fq 4
      have fq5 := fq 5
      go_region
      all_goals
        go_wp2_with fail
        refine bodyPost_ret (v := .tuple #[zv z, smv Sm.zero, iv 6]) (by simp [results, Try.results68, go_sem, r0, r1, r2, r3, q0, q1, q2, q3, q4, q5]) rfl ?_
        exact ⟨z, Sm.zero, by rw [HE.out], dbEnd HZ.out.b _ _ _ _ _ _ _ _ _ _, fun h => by rw [HE.out] at h; cases h⟩
    · have HE : Hid (zErr ⟨3, f, t, x, y⟩ z = 0) := by
        show _ = _
        have h1 : ¬ min z.b y < max z.a x := by omega
        simp [zErr, h1]
      have HD : Hid (max z.a x = z.a ∧ min z.b y = y) := ⟨by omega, by omega⟩
      go_wp2_with fail
      have HA := Lib.hid (DB.start2 w z ⟨z.a, y, z.c, z.d⟩ ⟨3, f, t, x, y⟩)
      refine (?_ : ∀ W9, DB w W9 z ⟨z.a, y, z.c, z.d⟩ ⟨3, f, t, x, y⟩ Sm.zero → Code.wp Try.prog _ _ _ W9) _ HA.out
      skip
      intro W9 hZ
      have HZ := Lib.hid hZ
      clear hZ
      obtain ⟨l0, l1, l2, l3, l4, l5, z0, z1, z2, z3, e0, e3, e4, s0, s1, s2, s3, s4, s5, o0, o1, o2, o3, fs, fo, fr, fq, r0, r1, r2, r3, q0, q1, q2, q3, q4, q5⟩ := HZ.out.c
      simp only at e0 e3 e4 s0 s1 s2 s3 s4 s5 o0 o1 o2 o3
      have fr0 := fr 0
      have fr1 := fr 1
      have fr2 := fr 2
      have fr3 := fr 3
      have fq0 := fq 0
      have fq1 := fq 1
      have fq2 := fq 2
      have fq3 := fq 3
      have fq4 := fq 4
      have fq5 := fq 5
      go_region
      all_goals
        go_wp2_with fail
        refine bodyPost_ret (v := .tuple #[zv (⟨z.a, y, z.c, z.d⟩ : Zn), smv Sm.zero, iv 0]) (by simp [results, Try.results68, go_sem, r0, r1, r2, r3, q0, q1, q2, q3, q4, q5]) rfl ?_
        exact ⟨(⟨z.a, y, z.c, z.d⟩ : Zn), Sm.zero, by rw [HE.out], dbEnd HZ.out.b _ _ _ _ _ _ _ _ _ _, fun _ => by simp [zDo, Zn.ice, HD.out.1, HD.out.2]⟩
  · by_cases hlim : z.b < z.a
    · exact absurd hlim (by omega)
    · have HE : Hid (zErr ⟨3, f, t, x, y⟩ z = 0) := by
        show _ = _
        have h1 : ¬ min z.b y < max z.a x := by omega
        simp [zErr, h1]
      have HD : Hid (max z.a x = z.a ∧ min z.b y = z.b) := ⟨by omega, by omega⟩
      go_wp2_with fail
      have HA := Lib.hid (DB.start2 w z ⟨z.a, z.b, z.c, z.d⟩ ⟨3, f, t, x, y⟩)
      refine (?_ : ∀ W9, DB w W9 z ⟨z.a, z.b, z.c, z.d⟩ ⟨3, f, t, x, y⟩ Sm.zero → Code.wp Try.prog _ _ _ W9) _ HA.out
      skip
      intro W9 hZ
      have HZ := Lib.hid hZ
      clear hZ
      obtain ⟨l0, l1, l2, l3, l4, l5, z0, z1, z2, z3, e0, e3, e4, s0, s1, s2, s3, s4, s5, o0, o1, o2, o3, fs, fo, fr, fq, r0, r1, r2, r3, q0, q1, q2, q3, q4, q5⟩ := HZ.out.c
      simp only at e0 e3 e4 s0 s1 s2 s3 s4 s5 o0 o1 o2 o3
      have fr0 := fr 0
      have fr1 := fr 1
      have fr2 := fr 2
      have fr3 := fr 3
      have fq0 := fq 0
      have fq1 := fq 1
      have fq2 := fq 2
      have fq3 := fq 3
      have fq4 := fq 4
      have fq5 := fq 5
      go_region
      all_goals
        go_wp2_with fail
        refine bodyPost_ret (v := .tuple #[zv (⟨z.a, z.b, z.c, z.d⟩ : Zn), smv Sm.zero, iv 0]) (by simp [results, Try.results68, go_sem, r0, r1, r2, r3, q0, q1, q2, q3, q4, q5]) rfl ?_
        exact ⟨(⟨z.a, z.b, z.c, z.d⟩ : Zn), Sm.zero, by rw [HE.out], dbEnd HZ.out.b _ _ _ _ _ _ _ _ _ _, fun _ => by simp [zDo, Zn.ice, HD.out.1, HD.out.2]⟩

set_option maxRecDepth 100000 in
set_option maxHeartbeats 2000000 in
theorem do4_any (z : Zn) (f t x y : Int) (w : World) (_hz : z.ok = true) : Calls Try.prog 68 #[zv z, evv ⟨4, f, t, x, y⟩] w (DoPost ⟨4, f, t, x, y⟩ z w) := by
  have H0 := Lib.hid (DB.start w z ⟨4, f, t, x, y⟩)
  have HE : Hid (zErr ⟨4, f, t, x, y⟩ z = 0) := by show _ = _; simp [zErr]
  go_enter Try.func68, Try.ntmps68
  go_wp2_with fail
  have HA := Lib.hid (DB.start2 w z ⟨z.a, z.b, z.a, z.b⟩ ⟨4, f, t, x, y⟩)
  refine (?_ : ∀ W9, DB w W9 z ⟨z.a, z.b, z.a, z.b⟩ ⟨4, f, t, x, y⟩ Sm.zero → Code.wp Try.prog _ _ _ W9) _ HA.out
  skip
  intro W9 hZ
  have HZ := Lib.hid hZ
  clear hZ
  obtain ⟨l0, l1, l2, l3, l4, l5, z0, z1, z2, z3, e0, e3, e4, s0, s1, s2, s3, s4, s5, o0, o1, o2, o3, fs, fo, fr, fq, r0, r1, r2, r3, q0, q1, q2, q3, q4, q5⟩ := HZ.out.c
  simp only at e0 e3 e4 s0 s1 s2 s3 s4 s5 o0 o1 o2 o3
  have fr0 := fr 0
  have fr1 := fr 1
  have fr2 := fr 2
  have fr3 := fr 3
  have fq0 := fq 0
  have fq1 := fq 1
  have fq2 := fq 2
  have fq3 := fq 3
  have fq4 := fq 4
  have fq5 := fq 5
  go_region
  all_goals
    go_wp2_with fail
    refine bodyPost_ret (v := .tuple #[zv (⟨z.a, z.b, z.a, z.b⟩ : Zn), smv Sm.zero, iv 0]) (by simp [results, Try.results68, go_sem, r0, r1, r2, r3, q0, q1, q2, q3, q4, q5]) rfl ?_
    exact ⟨(⟨z.a, z.b, z.a, z.b⟩ : Zn), Sm.zero, by rw [HE.out], dbEnd HZ.out.b _ _ _ _ _ _ _ _ _ _, fun _ => by simp [zDo]⟩

theorem do_any (e : Ev) (z : Zn) (w : World) (hz : z.ok = true) (hk : 0 ≤ e.k ∧ e.k < 5) (hw : e.k = 4 ∨ win e.x e.y = true) : Calls Try.prog 68 #[zv z, evv e] w (DoPost e z w) := by
  obtain ⟨k, f, t, x, y⟩ := e
  simp only at hk hw
  have hkk : k = 0 ∨ k = 1 ∨ k = 2 ∨ k = 3 ∨ k = 4 := by omega
  rcases hkk with rfl | rfl | rfl | rfl | rfl
  · exact do0_any z f t x y w hz (by simpa using hw)
  · exact do1_any z f t x y w hz (by simpa using hw)
  · exact do2_any z f t x y w hz (by simpa using hw)
  · exact do3_any z f t x y w hz (by simpa using hw)
  · exact do4_any z f t x y w hz
end Go.Proofs.Ytogabjlhecnbbaa
