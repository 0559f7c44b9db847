/- Rows in memory; contracts: what is valid. -/
import Derived.Test.YtljkgjfmambfoaaDoorMem
import Derived.Test.YtljkgjfmambfoaaDoorPost
import Derived.Test.YtljkgjfmambfoaaDoorLgA
import Derived.Lib.Hide
import Derived.Outline
import Derived.BigQuiet
import Derived.Deep.QuietTactic
import Derived.IntWalk
import Derived.Deep.DeepCutAuto
import Derived.Deep.LoopGhost
namespace Go.Proofs.YtljkgjfmambfoaaDoor
open Go.RowKit
def BoolPost (b : Bool) (W : World) (e : Ending) (W' : World) : Prop := e = .returned (.bool b) ∧ Below W.heap.size W W'
def IntPost (n : Int) (W : World) (e : Ending) (W' : World) : Prop := e = .returned (.int .i64 n) ∧ Below W.heap.size W W'
def IEPost (r : Int × Int) (W : World) (e : Ending) (W' : World) : Prop := e = .returned (.tuple #[.int .i64 r.1, .int .i64 r.2]) ∧ Below W.heap.size W W'
theorem ie_ret {a b : Int} {r : Int × Int} (h : r = (a, b)) : Ending.returned (.tuple #[.int .i64 a, .int .i64 b]) = .returned (.tuple #[.int .i64 r.1, .int .i64 r.2]) := by rw [h]
theorem ret_bool {a b : Bool} (h : a = b) : Ending.returned (.bool a) = .returned (.bool b) := by rw [h]
theorem ret_int {a b : Int} (h : a = b) : Ending.returned (.int .i64 a) = .returned (.int .i64 b) := by rw [h]
theorem below_drN {W w : World} (h : Below W.heap.size W w) (n : Nat) : Below W.heap.size W (w.drewN n) := ⟨h.os, h.tape, h.output, h.size, h.block⟩
theorem has_newAt {w : World} {t : TypeId} {cs : Array Value} {n : Nat} (h : n = w.heap.size) : Has (w.alloc (.cells cs t)) n t cs := by subst h; exact Has.new _ _ _
/-- a row of numbers that lies below B -/
def IRow (w : World) (B : Nat) (A : Option Addr) (l : List Int) : Prop :=
  ∀ k (h : k < l.length), ∃ g o, A = some ⟨g, o, none⟩ ∧ g < B ∧ w.cell? ⟨g, o + k, none⟩ = some (.int .i64 l[k])
theorem IRow.below {w w' : World} {B : Nat} {A : Option Addr} {l : List Int} (h : IRow w B A l) (hb : Below B w w') : IRow w' B A l := fun k hk => by
  obtain ⟨g, o, e, hg, c⟩ := h k hk
  exact ⟨g, o, e, hg, (hb.cell (p := ⟨g, _, none⟩) hg).trans c⟩
theorem IRow.more {w : World} {B B' : Nat} {A : Option Addr} {l : List Int} (h : IRow w B A l) (hB : B ≤ B') : IRow w B' A l := fun k hk => by
  obtain ⟨g, o, e, hg, c⟩ := h k hk
  exact ⟨g, o, e, by omega, c⟩
theorem IRow.step {w w' : World} {A : Option Addr} {l : List Int} (h : IRow w w.heap.size A l) (hb : Below w.heap.size w w') : IRow w' w'.heap.size A l := (h.below hb).more hb.size
theorem IRow.nil (w : World) (B : Nat) (A : Option Addr) : IRow w B A [] := fun k h => absurd h (by simp)
abbrev big : Nat := 9223372036854775807
/-- a row of rows of numbers -/
def PRow (w : World) (B : Nat) (A : Option Addr) (l : List (List Int)) : Prop :=
  ∀ k (h : k < l.length), ∃ g o M c, A = some ⟨g, o, none⟩ ∧ g < B ∧ w.cell? ⟨g, o + k, none⟩ = some (.slice M l[k].length c) ∧ IRow w B M l[k] ∧ l[k].length ≤ big
abbrev gmc (g : Gm) : Array Value := #[.int .i64 g.day, .int .i64 g.home, .int .i64 g.away, .int .i64 g.fin, .int .i64 g.hg, .int .i64 g.ag]
def gmv (g : Gm) : Value := .agg (gmc g)
/-- a row of games -/
def GRow (w : World) (B : Nat) (A : Option Addr) (l : List Gm) : Prop :=
  ∀ k (h : k < l.length), ∃ g o, A = some ⟨g, o, none⟩ ∧ g < B ∧ ∀ j, j < 6 → w.cell? ⟨g, o + k * 6 + j, none⟩ = (gmc l[k])[j]?
abbrev lgc (x : Lg) (AF AG : Option Addr) (cf cg : Nat) : Array Value := #[.slice AF x.F.length cf, .slice AG x.G.length cg]
def lgv (x : Lg) (AF AG : Option Addr) (cf cg : Nat) : Value := .agg (lgc x AF AG cf cg)
structure LgR (w : World) (B : Nat) (x : Lg) (AF AG : Option Addr) : Prop where
  f : PRow w B AF x.F
  g : GRow w B AG x.G
  lf : x.F.length ≤ big
  lg : x.G.length ≤ big
section
variable {w w' : World} {B B' : Nat} {A AF AG : Option Addr}
theorem PRow.below {l : List (List Int)} (h : PRow w B A l) (hb : Below B w w') : PRow w' B A l := fun k hk => by
  obtain ⟨g, o, M, c, e, hg, hc, hm, hl⟩ := h k hk
  exact ⟨g, o, M, c, e, hg, (hb.cell (p := ⟨g, _, none⟩) hg).trans hc, hm.below hb, hl⟩
theorem PRow.more {l : List (List Int)} (h : PRow w B A l) (hB : B ≤ B') : PRow w B' A l := fun k hk => by
  obtain ⟨g, o, M, c, e, hg, hc, hm, hl⟩ := h k hk
  exact ⟨g, o, M, c, e, by omega, hc, hm.more hB, hl⟩
theorem PRow.step {l : List (List Int)} (h : PRow w w.heap.size A l) (hb : Below w.heap.size w w') : PRow w' w'.heap.size A l := (h.below hb).more hb.size
theorem GRow.below {l : List Gm} (h : GRow w B A l) (hb : Below B w w') : GRow w' B A l := fun k hk => by
  obtain ⟨g, o, e, hg, hc⟩ := h k hk
  exact ⟨g, o, e, hg, fun j hj => (hb.cell (p := ⟨g, _, none⟩) hg).trans (hc j hj)⟩
theorem GRow.more {l : List Gm} (h : GRow w B A l) (hB : B ≤ B') : GRow w B' A l := fun k hk => by
  obtain ⟨g, o, e, hg, hc⟩ := h k hk
  exact ⟨g, o, e, by omega, hc⟩
theorem GRow.step {l : List Gm} (h : GRow w w.heap.size A l) (hb : Below w.heap.size w w') : GRow w' w'.heap.size A l := (h.below hb).more hb.size
theorem GRow.nil (w : World) (B : Nat) (A : Option Addr) : GRow w B A [] := fun k h => absurd h (by simp)
theorem GRow.take {l : List Gm} (h : GRow w B A l) (n : Nat) : GRow w B A (l.take n) := fun k hk => by
  have hk' : k < l.length := by rw [List.length_take] at hk; omega
  obtain ⟨g, o, e, hg, hc⟩ := h k hk'
  exact ⟨g, o, e, hg, by rw [List.getElem_take]; exact hc⟩
theorem LgR.below {x : Lg} (h : LgR w B x AF AG) (hb : Below B w w') : LgR w' B x AF AG := ⟨h.f.below hb, h.g.below hb, h.lf, h.lg⟩
theorem LgR.more {x : Lg} (h : LgR w B x AF AG) (hB : B ≤ B') : LgR w B' x AF AG := ⟨h.f.more hB, h.g.more hB, h.lf, h.lg⟩
theorem LgR.step {x : Lg} (h : LgR w w.heap.size x AF AG) (hb : Below w.heap.size w w') : LgR w' w'.heap.size x AF AG := (h.below hb).more hb.size
end
/-- the boxed league -/
structure LX (W w : World) (D : Nat) (x : Lg) (AF AG : Option Addr) (cf cg : Nat) : Prop where
  b : Below W.heap.size W w
  fx : Has w D 25 (lgc x AF AG cf cg)
  r : LgR w W.heap.size x AF AG
theorem LX.step {W w w' : World} {D : Nat} {x : Lg} {AF AG : Option Addr} {cf cg : Nat} (h : LX W w D x AF AG cf cg) (hb : Below w.heap.size w w') : LX W w' D x AF AG cf cg := ⟨h.b.trans (hb.mono h.b.size), h.fx.below hb h.fx.lt, h.r.below (hb.mono h.b.size)⟩
theorem LX.start {W : World} {x : Lg} {AF AG : Option Addr} {cf cg : Nat} (h : LgR W W.heap.size x AF AG) : LX W (W.alloc (.cells (lgc x AF AG cf cg) 25)) W.heap.size x AF AG cf cg := ⟨below_one W _, Has.new W 25 _, h.below (below_one W _)⟩
theorem LX.up {W w : World} {D : Nat} {x : Lg} {AF AG : Option Addr} {cf cg : Nat} (h : LX W w D x AF AG cf cg) : LgR w w.heap.size x AF AG := h.r.more h.b.size
/-- the boxed league, and a boxed game -/
structure LG (W w : World) (D E : Nat) (x : Lg) (AF AG : Option Addr) (cf cg : Nat) (g : Gm) : Prop where
  x : LX W w D x AF AG cf cg
  fg : Has w E 53 (gmc g)
theorem LG.step {W w w' : World} {D E : Nat} {x : Lg} {AF AG : Option Addr} {cf cg : Nat} {g : Gm} (h : LG W w D E x AF AG cf cg g) (hb : Below w.heap.size w w') : LG W w' D E x AF AG cf cg g := ⟨h.x.step hb, h.fg.below hb h.fg.lt⟩
set_option maxRecDepth 100000 in
theorem within_any (n lo hi : Int) (w : World) : Calls Tryd.prog 52 #[.int .i64 n, .int .i64 lo, .int .i64 hi] w fun e w' => e = .returned (.bool (inB n lo hi)) ∧ w' = w := by
  have hn : ∀ c, (decide (lo ≤ n ∧ n ≤ hi) = c) → inB n lo hi = c := fun b h => h
  have h3 : ¬ lo ≤ n ∨ (lo ≤ n ∧ ¬ n ≤ hi) ∨ (lo ≤ n ∧ n ≤ hi) := by omega
  rcases h3 with h0 | ⟨h0, h1⟩ | ⟨h0, h1⟩
  rotate_right
  · have HN := Lib.hid (hn true (by simp; omega))
    clear hn
    go_enter Tryd.func52, Tryd.ntmps52
    go_wp2
    go_ret
    exact ⟨by rw [HN.out]; rfl, rfl⟩
  all_goals
    have HN := Lib.hid (hn false (by simp; omega))
    clear hn
    go_enter Tryd.func52, Tryd.ntmps52
    go_wp2
    go_ret
    exact ⟨by rw [HN.out]; rfl, rfl⟩
set_option maxRecDepth 100000 in
theorem areGoals_any (n : Int) (w : World) : Calls Tryd.prog 70 #[.int .i64 n] w fun e w' => e = .returned (.bool (goalsB n)) ∧ w' = w := by
  have H0 := Lib.hid (fun w => within_any n 0 99 w)
  have HE : Hid (goalsB n = inB n 0 99) := Lib.hid rfl
  generalize inB n 0 99 = b at H0 HE
  go_enter Tryd.func70, Tryd.ntmps70
  go_wp2_with fail
  refine (H0.out _).mono ?_
  rintro e u0 ⟨rfl, rfl⟩
  go_wp2_with fail
  go_ret
  exact ⟨ret_bool HE.out.symm, rfl⟩
set_option maxRecDepth 100000 in
theorem isTeam_any (x : Lg) (AF AG : Option Addr) (cf cg : Nat) (n : Int) (W : World) (hr : LgR W W.heap.size x AF AG) : Calls Tryd.prog 30 #[lgv x AF AG cf cg, .int .i64 n] W (BoolPost (teamB x.F.length n) W) := by
  have HB : Hid (LX W (W.alloc (.cells (lgc x AF AG cf cg) 25)) W.heap.size x AF AG cf cg) := Lib.hid (LX.start hr)
  have hl := hr.lf
  unfold big at hl
  have H0 := Lib.hid (fun w => within_any n 0 ((x.F.length : Int) - 1) w)
  have HE : Hid (teamB x.F.length n = inB n 0 ((x.F.length : Int) - 1)) := Lib.hid rfl
  generalize inB n 0 ((x.F.length : Int) - 1) = b at H0 HE
  clear hr
  unfold lgv
  go_enter Tryd.func30, Tryd.ntmps30
  go_upto_region 1 with fail
  generalize W.alloc (.cells (lgc x AF AG cf cg) 25) = w9 at HB ⊢
  have x0 : w9.cell? ⟨W.heap.size, 0, none⟩ = some (.slice AF x.F.length cf) := HB.out.fx.cell 0
  go_wp2_with fail
  refine (H0.out _).mono ?_
  rintro e u0 ⟨rfl, rfl⟩
  go_wp2_with fail
  go_ret
  exact ⟨ret_bool HE.out.symm, HB.out.b⟩
set_option maxRecDepth 100000 in
theorem isOpen_any (g : Gm) (W : World) : Calls Tryd.prog 51 #[gmv g] W (BoolPost (openB g) W) := by
  have HE : Hid (openB g = decide (g.fin = 0)) := Lib.hid rfl
  have HB := Lib.hid (below_one W (.cells (gmc g) 53))
  by_cases h : g.fin = 0
  · have h' : (g.fin == 0) = true := by simpa using h
    have HE2 : Hid (openB g = true) := Lib.hid (by rw [HE.out]; simpa using h)
    clear HE h
    unfold gmv
    go_enter Tryd.func51, Tryd.ntmps51
    go_wp2_with fail
    go_ret
    exact ⟨ret_bool HE2.out.symm, HB.out⟩
  · have h' : (g.fin == 0) = false := by simpa using h
    have HE2 : Hid (openB g = false) := Lib.hid (by rw [HE.out]; simpa using h)
    clear HE h
    unfold gmv
    go_enter Tryd.func51, Tryd.ntmps51
    go_wp2_with fail
    go_ret
    exact ⟨ret_bool HE2.out.symm, HB.out⟩

set_option maxRecDepth 100000 in
set_option maxHeartbeats 2000000 in
theorem validGame_any (x : Lg) (AF AG : Option Addr) (cf cg : Nat) (g : Gm) (W : World) (hr : LgR W W.heap.size x AF AG) : Calls Tryd.prog 50 #[lgv x AF AG cf cg, gmv g] W (BoolPost (gameB x.F.length g) W) := by
  have HB : Hid (LG W ((W.alloc (.cells (lgc x AF AG cf cg) 25)).alloc (.cells (gmc g) 53)) W.heap.size (W.heap.size + 1) x AF AG cf cg g) := Lib.hid ⟨(LX.start hr).step (below_one _ _), has_newAt (by simp)⟩
  have H0 := Lib.hid (fun w => within_any g.day 0 16384 w)
  have H1 := Lib.hid (fun w (h : LgR w w.heap.size x AF AG) => isTeam_any x AF AG cf cg g.home w h)
  have H2 := Lib.hid (fun w (h : LgR w w.heap.size x AF AG) => isTeam_any x AF AG cf cg g.away w h)
  have H3 := Lib.hid (fun w => areGoals_any g.hg w)
  have H4 := Lib.hid (fun w => areGoals_any g.ag w)
  have hn : ∀ b, gameB x.F.length g = b → Hid (gameB x.F.length g = b) := fun b h => h
  clear hr
  unfold lgv at *
  unfold gmv

  cases h0 : inB g.day 0 16384 <;> rw [h0] at H0
  · have HE := hn false (by unfold gameB; rw [h0]; rfl)
    clear hn h0
    go_enter Tryd.func50, Tryd.ntmps50
    go_upto_region 1 with fail
    generalize (W.alloc (.cells (lgc x AF AG cf cg) 25)).alloc (.cells (gmc g) 53) = w9 at HB ⊢
    have x0 : w9.cell? ⟨W.heap.size, 0, none⟩ = some (.slice AF x.F.length cf) := HB.out.x.fx.cell 0
    have x1 : w9.cell? ⟨W.heap.size, 1, none⟩ = some (.slice AG x.G.length cg) := HB.out.x.fx.cell 1
    have y0 : w9.cell? ⟨W.heap.size + 1, 0, none⟩ = some (.int .i64 g.day) := HB.out.fg.cell 0
    have y1 : w9.cell? ⟨W.heap.size + 1, 1, none⟩ = some (.int .i64 g.home) := HB.out.fg.cell 1
    have y2 : w9.cell? ⟨W.heap.size + 1, 2, none⟩ = some (.int .i64 g.away) := HB.out.fg.cell 2
    have y3 : w9.cell? ⟨W.heap.size + 1, 3, none⟩ = some (.int .i64 g.fin) := HB.out.fg.cell 3
    have y4 : w9.cell? ⟨W.heap.size + 1, 4, none⟩ = some (.int .i64 g.hg) := HB.out.fg.cell 4
    have y5 : w9.cell? ⟨W.heap.size + 1, 5, none⟩ = some (.int .i64 g.ag) := HB.out.fg.cell 5
    go_wp2_with fail
    refine (H0.out _).mono ?_
    rintro e u0 ⟨rfl, rfl⟩
    go_wp2_with fail
    go_ret
    exact ⟨ret_bool HE.out.symm, HB.out.x.b⟩
  cases h1 : teamB x.F.length g.home <;> rw [h1] at H1
  · have HE := hn false (by unfold gameB; rw [h0, h1]; rfl)
    clear hn h0 h1
    go_enter Tryd.func50, Tryd.ntmps50
    go_upto_region 1 with fail
    generalize (W.alloc (.cells (lgc x AF AG cf cg) 25)).alloc (.cells (gmc g) 53) = w9 at HB ⊢
    have x0 : w9.cell? ⟨W.heap.size, 0, none⟩ = some (.slice AF x.F.length cf) := HB.out.x.fx.cell 0
    have x1 : w9.cell? ⟨W.heap.size, 1, none⟩ = some (.slice AG x.G.length cg) := HB.out.x.fx.cell 1
    have y0 : w9.cell? ⟨W.heap.size + 1, 0, none⟩ = some (.int .i64 g.day) := HB.out.fg.cell 0
    have y1 : w9.cell? ⟨W.heap.size + 1, 1, none⟩ = some (.int .i64 g.home) := HB.out.fg.cell 1
    have y2 : w9.cell? ⟨W.heap.size + 1, 2, none⟩ = some (.int .i64 g.away) := HB.out.fg.cell 2
    have y3 : w9.cell? ⟨W.heap.size + 1, 3, none⟩ = some (.int .i64 g.fin) := HB.out.fg.cell 3
    have y4 : w9.cell? ⟨W.heap.size + 1, 4, none⟩ = some (.int .i64 g.hg) := HB.out.fg.cell 4
    have y5 : w9.cell? ⟨W.heap.size + 1, 5, none⟩ = some (.int .i64 g.ag) := HB.out.fg.cell 5
    go_wp2_with fail
    refine (H0.out _).mono ?_
    rintro e u0 ⟨rfl, rfl⟩
    go_wp2_with fail
    refine (H1.out _ HB.out.x.up).mono ?_
    rintro e u1 ⟨rfl, hb⟩
    replace HB := Lib.hid (HB.out.step hb)
    clear hb x0 x1 y0 y1 y2 y3 y4 y5
    have x0 : u1.cell? ⟨W.heap.size, 0, none⟩ = some (.slice AF x.F.length cf) := HB.out.x.fx.cell 0
    have x1 : u1.cell? ⟨W.heap.size, 1, none⟩ = some (.slice AG x.G.length cg) := HB.out.x.fx.cell 1
    have y0 : u1.cell? ⟨W.heap.size + 1, 0, none⟩ = some (.int .i64 g.day) := HB.out.fg.cell 0
    have y1 : u1.cell? ⟨W.heap.size + 1, 1, none⟩ = some (.int .i64 g.home) := HB.out.fg.cell 1
    have y2 : u1.cell? ⟨W.heap.size + 1, 2, none⟩ = some (.int .i64 g.away) := HB.out.fg.cell 2
    have y3 : u1.cell? ⟨W.heap.size + 1, 3, none⟩ = some (.int .i64 g.fin) := HB.out.fg.cell 3
    have y4 : u1.cell? ⟨W.heap.size + 1, 4, none⟩ = some (.int .i64 g.hg) := HB.out.fg.cell 4
    have y5 : u1.cell? ⟨W.heap.size + 1, 5, none⟩ = some (.int .i64 g.ag) := HB.out.fg.cell 5
    go_wp2_with fail
    go_ret
    exact ⟨ret_bool HE.out.symm, HB.out.x.b⟩
  cases h2 : teamB x.F.length g.away <;> rw [h2] at H2
  · have HE := hn false (by unfold gameB; rw [h0, h1, h2]; rfl)
    clear hn h0 h1 h2
    go_enter Tryd.func50, Tryd.ntmps50
    go_upto_region 1 with fail
    generalize (W.alloc (.cells (lgc x AF AG cf cg) 25)).alloc (.cells (gmc g) 53) = w9 at HB ⊢
    have x0 : w9.cell? ⟨W.heap.size, 0, none⟩ = some (.slice AF x.F.length cf) := HB.out.x.fx.cell 0
    have x1 : w9.cell? ⟨W.heap.size, 1, none⟩ = some (.slice AG x.G.length cg) := HB.out.x.fx.cell 1
    have y0 : w9.cell? ⟨W.heap.size + 1, 0, none⟩ = some (.int .i64 g.day) := HB.out.fg.cell 0
    have y1 : w9.cell? ⟨W.heap.size + 1, 1, none⟩ = some (.int .i64 g.home) := HB.out.fg.cell 1
    have y2 : w9.cell? ⟨W.heap.size + 1, 2, none⟩ = some (.int .i64 g.away) := HB.out.fg.cell 2
    have y3 : w9.cell? ⟨W.heap.size + 1, 3, none⟩ = some (.int .i64 g.fin) := HB.out.fg.cell 3
    have y4 : w9.cell? ⟨W.heap.size + 1, 4, none⟩ = some (.int .i64 g.hg) := HB.out.fg.cell 4
    have y5 : w9.cell? ⟨W.heap.size + 1, 5, none⟩ = some (.int .i64 g.ag) := HB.out.fg.cell 5
    go_wp2_with fail
    refine (H0.out _).mono ?_
    rintro e u0 ⟨rfl, rfl⟩
    go_wp2_with fail
    refine (H1.out _ HB.out.x.up).mono ?_
    rintro e u1 ⟨rfl, hb⟩
    replace HB := Lib.hid (HB.out.step hb)
    clear hb x0 x1 y0 y1 y2 y3 y4 y5
    have x0 : u1.cell? ⟨W.heap.size, 0, none⟩ = some (.slice AF x.F.length cf) := HB.out.x.fx.cell 0
    have x1 : u1.cell? ⟨W.heap.size, 1, none⟩ = some (.slice AG x.G.length cg) := HB.out.x.fx.cell 1
    have y0 : u1.cell? ⟨W.heap.size + 1, 0, none⟩ = some (.int .i64 g.day) := HB.out.fg.cell 0
    have y1 : u1.cell? ⟨W.heap.size + 1, 1, none⟩ = some (.int .i64 g.home) := HB.out.fg.cell 1
    have y2 : u1.cell? ⟨W.heap.size + 1, 2, none⟩ = some (.int .i64 g.away) := HB.out.fg.cell 2
    have y3 : u1.cell? ⟨W.heap.size + 1, 3, none⟩ = some (.int .i64 g.fin) := HB.out.fg.cell 3
    have y4 : u1.cell? ⟨W.heap.size + 1, 4, none⟩ = some (.int .i64 g.hg) := HB.out.fg.cell 4
    have y5 : u1.cell? ⟨W.heap.size + 1, 5, none⟩ = some (.int .i64 g.ag) := HB.out.fg.cell 5
    go_wp2_with fail
    refine (H2.out _ HB.out.x.up).mono ?_
    rintro e u2 ⟨rfl, hb⟩
    replace HB := Lib.hid (HB.out.step hb)
    clear hb x0 x1 y0 y1 y2 y3 y4 y5
    have x0 : u2.cell? ⟨W.heap.size, 0, none⟩ = some (.slice AF x.F.length cf) := HB.out.x.fx.cell 0
    have x1 : u2.cell? ⟨W.heap.size, 1, none⟩ = some (.slice AG x.G.length cg) := HB.out.x.fx.cell 1
    have y0 : u2.cell? ⟨W.heap.size + 1, 0, none⟩ = some (.int .i64 g.day) := HB.out.fg.cell 0
    have y1 : u2.cell? ⟨W.heap.size + 1, 1, none⟩ = some (.int .i64 g.home) := HB.out.fg.cell 1
    have y2 : u2.cell? ⟨W.heap.size + 1, 2, none⟩ = some (.int .i64 g.away) := HB.out.fg.cell 2
    have y3 : u2.cell? ⟨W.heap.size + 1, 3, none⟩ = some (.int .i64 g.fin) := HB.out.fg.cell 3
    have y4 : u2.cell? ⟨W.heap.size + 1, 4, none⟩ = some (.int .i64 g.hg) := HB.out.fg.cell 4
    have y5 : u2.cell? ⟨W.heap.size + 1, 5, none⟩ = some (.int .i64 g.ag) := HB.out.fg.cell 5
    go_wp2_with fail
    go_ret
    exact ⟨ret_bool HE.out.symm, HB.out.x.b⟩
  by_cases h3 : g.home = g.away
  · have h3b : (g.home == g.away) = true := by simpa using h3
    have HE := hn false (by unfold gameB; rw [h0, h1, h2, decide_eq_true h3]; rfl)
    clear hn h0 h1 h2 h3
    go_enter Tryd.func50, Tryd.ntmps50
    go_upto_region 1 with fail
    generalize (W.alloc (.cells (lgc x AF AG cf cg) 25)).alloc (.cells (gmc g) 53) = w9 at HB ⊢
    have x0 : w9.cell? ⟨W.heap.size, 0, none⟩ = some (.slice AF x.F.length cf) := HB.out.x.fx.cell 0
    have x1 : w9.cell? ⟨W.heap.size, 1, none⟩ = some (.slice AG x.G.length cg) := HB.out.x.fx.cell 1
    have y0 : w9.cell? ⟨W.heap.size + 1, 0, none⟩ = some (.int .i64 g.day) := HB.out.fg.cell 0
    have y1 : w9.cell? ⟨W.heap.size + 1, 1, none⟩ = some (.int .i64 g.home) := HB.out.fg.cell 1
    have y2 : w9.cell? ⟨W.heap.size + 1, 2, none⟩ = some (.int .i64 g.away) := HB.out.fg.cell 2
    have y3 : w9.cell? ⟨W.heap.size + 1, 3, none⟩ = some (.int .i64 g.fin) := HB.out.fg.cell 3
    have y4 : w9.cell? ⟨W.heap.size + 1, 4, none⟩ = some (.int .i64 g.hg) := HB.out.fg.cell 4
    have y5 : w9.cell? ⟨W.heap.size + 1, 5, none⟩ = some (.int .i64 g.ag) := HB.out.fg.cell 5
    go_wp2_with fail
    refine (H0.out _).mono ?_
    rintro e u0 ⟨rfl, rfl⟩
    go_wp2_with fail
    refine (H1.out _ HB.out.x.up).mono ?_
    rintro e u1 ⟨rfl, hb⟩
    replace HB := Lib.hid (HB.out.step hb)
    clear hb x0 x1 y0 y1 y2 y3 y4 y5
    have x0 : u1.cell? ⟨W.heap.size, 0, none⟩ = some (.slice AF x.F.length cf) := HB.out.x.fx.cell 0
    have x1 : u1.cell? ⟨W.heap.size, 1, none⟩ = some (.slice AG x.G.length cg) := HB.out.x.fx.cell 1
    have y0 : u1.cell? ⟨W.heap.size + 1, 0, none⟩ = some (.int .i64 g.day) := HB.out.fg.cell 0
    have y1 : u1.cell? ⟨W.heap.size + 1, 1, none⟩ = some (.int .i64 g.home) := HB.out.fg.cell 1
    have y2 : u1.cell? ⟨W.heap.size + 1, 2, none⟩ = some (.int .i64 g.away) := HB.out.fg.cell 2
    have y3 : u1.cell? ⟨W.heap.size + 1, 3, none⟩ = some (.int .i64 g.fin) := HB.out.fg.cell 3
    have y4 : u1.cell? ⟨W.heap.size + 1, 4, none⟩ = some (.int .i64 g.hg) := HB.out.fg.cell 4
    have y5 : u1.cell? ⟨W.heap.size + 1, 5, none⟩ = some (.int .i64 g.ag) := HB.out.fg.cell 5
    go_wp2_with fail
    refine (H2.out _ HB.out.x.up).mono ?_
    rintro e u2 ⟨rfl, hb⟩
    replace HB := Lib.hid (HB.out.step hb)
    clear hb x0 x1 y0 y1 y2 y3 y4 y5
    have x0 : u2.cell? ⟨W.heap.size, 0, none⟩ = some (.slice AF x.F.length cf) := HB.out.x.fx.cell 0
    have x1 : u2.cell? ⟨W.heap.size, 1, none⟩ = some (.slice AG x.G.length cg) := HB.out.x.fx.cell 1
    have y0 : u2.cell? ⟨W.heap.size + 1, 0, none⟩ = some (.int .i64 g.day) := HB.out.fg.cell 0
    have y1 : u2.cell? ⟨W.heap.size + 1, 1, none⟩ = some (.int .i64 g.home) := HB.out.fg.cell 1
    have y2 : u2.cell? ⟨W.heap.size + 1, 2, none⟩ = some (.int .i64 g.away) := HB.out.fg.cell 2
    have y3 : u2.cell? ⟨W.heap.size + 1, 3, none⟩ = some (.int .i64 g.fin) := HB.out.fg.cell 3
    have y4 : u2.cell? ⟨W.heap.size + 1, 4, none⟩ = some (.int .i64 g.hg) := HB.out.fg.cell 4
    have y5 : u2.cell? ⟨W.heap.size + 1, 5, none⟩ = some (.int .i64 g.ag) := HB.out.fg.cell 5
    go_wp2_with fail
    go_ret
    exact ⟨ret_bool HE.out.symm, HB.out.x.b⟩
  have h3b : (g.home == g.away) = false := by simpa using h3
  by_cases h4 : g.fin = 0
  · have h4b : (g.fin == 0) = true := by simpa using h4
    have HE := hn true (by unfold gameB; rw [h0, h1, h2, decide_eq_false h3, decide_eq_true h4]; rfl)
    clear hn h0 h1 h2 h3 h4
    go_enter Tryd.func50, Tryd.ntmps50
    go_upto_region 1 with fail
    generalize (W.alloc (.cells (lgc x AF AG cf cg) 25)).alloc (.cells (gmc g) 53) = w9 at HB ⊢
    have x0 : w9.cell? ⟨W.heap.size, 0, none⟩ = some (.slice AF x.F.length cf) := HB.out.x.fx.cell 0
    have x1 : w9.cell? ⟨W.heap.size, 1, none⟩ = some (.slice AG x.G.length cg) := HB.out.x.fx.cell 1
    have y0 : w9.cell? ⟨W.heap.size + 1, 0, none⟩ = some (.int .i64 g.day) := HB.out.fg.cell 0
    have y1 : w9.cell? ⟨W.heap.size + 1, 1, none⟩ = some (.int .i64 g.home) := HB.out.fg.cell 1
    have y2 : w9.cell? ⟨W.heap.size + 1, 2, none⟩ = some (.int .i64 g.away) := HB.out.fg.cell 2
    have y3 : w9.cell? ⟨W.heap.size + 1, 3, none⟩ = some (.int .i64 g.fin) := HB.out.fg.cell 3
    have y4 : w9.cell? ⟨W.heap.size + 1, 4, none⟩ = some (.int .i64 g.hg) := HB.out.fg.cell 4
    have y5 : w9.cell? ⟨W.heap.size + 1, 5, none⟩ = some (.int .i64 g.ag) := HB.out.fg.cell 5
    go_wp2_with fail
    refine (H0.out _).mono ?_
    rintro e u0 ⟨rfl, rfl⟩
    go_wp2_with fail
    refine (H1.out _ HB.out.x.up).mono ?_
    rintro e u1 ⟨rfl, hb⟩
    replace HB := Lib.hid (HB.out.step hb)
    clear hb x0 x1 y0 y1 y2 y3 y4 y5
    have x0 : u1.cell? ⟨W.heap.size, 0, none⟩ = some (.slice AF x.F.length cf) := HB.out.x.fx.cell 0
    have x1 : u1.cell? ⟨W.heap.size, 1, none⟩ = some (.slice AG x.G.length cg) := HB.out.x.fx.cell 1
    have y0 : u1.cell? ⟨W.heap.size + 1, 0, none⟩ = some (.int .i64 g.day) := HB.out.fg.cell 0
    have y1 : u1.cell? ⟨W.heap.size + 1, 1, none⟩ = some (.int .i64 g.home) := HB.out.fg.cell 1
    have y2 : u1.cell? ⟨W.heap.size + 1, 2, none⟩ = some (.int .i64 g.away) := HB.out.fg.cell 2
    have y3 : u1.cell? ⟨W.heap.size + 1, 3, none⟩ = some (.int .i64 g.fin) := HB.out.fg.cell 3
    have y4 : u1.cell? ⟨W.heap.size + 1, 4, none⟩ = some (.int .i64 g.hg) := HB.out.fg.cell 4
    have y5 : u1.cell? ⟨W.heap.size + 1, 5, none⟩ = some (.int .i64 g.ag) := HB.out.fg.cell 5
    go_wp2_with fail
    refine (H2.out _ HB.out.x.up).mono ?_
    rintro e u2 ⟨rfl, hb⟩
    replace HB := Lib.hid (HB.out.step hb)
    clear hb x0 x1 y0 y1 y2 y3 y4 y5
    have x0 : u2.cell? ⟨W.heap.size, 0, none⟩ = some (.slice AF x.F.length cf) := HB.out.x.fx.cell 0
    have x1 : u2.cell? ⟨W.heap.size, 1, none⟩ = some (.slice AG x.G.length cg) := HB.out.x.fx.cell 1
    have y0 : u2.cell? ⟨W.heap.size + 1, 0, none⟩ = some (.int .i64 g.day) := HB.out.fg.cell 0
    have y1 : u2.cell? ⟨W.heap.size + 1, 1, none⟩ = some (.int .i64 g.home) := HB.out.fg.cell 1
    have y2 : u2.cell? ⟨W.heap.size + 1, 2, none⟩ = some (.int .i64 g.away) := HB.out.fg.cell 2
    have y3 : u2.cell? ⟨W.heap.size + 1, 3, none⟩ = some (.int .i64 g.fin) := HB.out.fg.cell 3
    have y4 : u2.cell? ⟨W.heap.size + 1, 4, none⟩ = some (.int .i64 g.hg) := HB.out.fg.cell 4
    have y5 : u2.cell? ⟨W.heap.size + 1, 5, none⟩ = some (.int .i64 g.ag) := HB.out.fg.cell 5
    go_wp2_with fail
    go_ret
    exact ⟨ret_bool HE.out.symm, HB.out.x.b⟩
  have h4b : (g.fin == 0) = false := by simpa using h4
  by_cases h5 : g.fin ≠ 1 ∧ g.fin ≠ 2
  · have h5b : (g.fin == 1) = false := by simpa using h5.1
    have h5c : (g.fin == 2) = false := by simpa using h5.2
    have HE := hn false (by unfold gameB; rw [h0, h1, h2, decide_eq_false h3, decide_eq_false h4, decide_eq_false h5.1, decide_eq_false h5.2]; rfl)
    clear hn h0 h1 h2 h3 h4 h5
    go_enter Tryd.func50, Tryd.ntmps50
    go_upto_region 1 with fail
    generalize (W.alloc (.cells (lgc x AF AG cf cg) 25)).alloc (.cells (gmc g) 53) = w9 at HB ⊢
    have x0 : w9.cell? ⟨W.heap.size, 0, none⟩ = some (.slice AF x.F.length cf) := HB.out.x.fx.cell 0
    have x1 : w9.cell? ⟨W.heap.size, 1, none⟩ = some (.slice AG x.G.length cg) := HB.out.x.fx.cell 1
    have y0 : w9.cell? ⟨W.heap.size + 1, 0, none⟩ = some (.int .i64 g.day) := HB.out.fg.cell 0
    have y1 : w9.cell? ⟨W.heap.size + 1, 1, none⟩ = some (.int .i64 g.home) := HB.out.fg.cell 1
    have y2 : w9.cell? ⟨W.heap.size + 1, 2, none⟩ = some (.int .i64 g.away) := HB.out.fg.cell 2
    have y3 : w9.cell? ⟨W.heap.size + 1, 3, none⟩ = some (.int .i64 g.fin) := HB.out.fg.cell 3
    have y4 : w9.cell? ⟨W.heap.size + 1, 4, none⟩ = some (.int .i64 g.hg) := HB.out.fg.cell 4
    have y5 : w9.cell? ⟨W.heap.size + 1, 5, none⟩ = some (.int .i64 g.ag) := HB.out.fg.cell 5
    go_wp2_with fail
    refine (H0.out _).mono ?_
    rintro e u0 ⟨rfl, rfl⟩
    go_wp2_with fail
    refine (H1.out _ HB.out.x.up).mono ?_
    rintro e u1 ⟨rfl, hb⟩
    replace HB := Lib.hid (HB.out.step hb)
    clear hb x0 x1 y0 y1 y2 y3 y4 y5
    have x0 : u1.cell? ⟨W.heap.size, 0, none⟩ = some (.slice AF x.F.length cf) := HB.out.x.fx.cell 0
    have x1 : u1.cell? ⟨W.heap.size, 1, none⟩ = some (.slice AG x.G.length cg) := HB.out.x.fx.cell 1
    have y0 : u1.cell? ⟨W.heap.size + 1, 0, none⟩ = some (.int .i64 g.day) := HB.out.fg.cell 0
    have y1 : u1.cell? ⟨W.heap.size + 1, 1, none⟩ = some (.int .i64 g.home) := HB.out.fg.cell 1
    have y2 : u1.cell? ⟨W.heap.size + 1, 2, none⟩ = some (.int .i64 g.away) := HB.out.fg.cell 2
    have y3 : u1.cell? ⟨W.heap.size + 1, 3, none⟩ = some (.int .i64 g.fin) := HB.out.fg.cell 3
    have y4 : u1.cell? ⟨W.heap.size + 1, 4, none⟩ = some (.int .i64 g.hg) := HB.out.fg.cell 4
    have y5 : u1.cell? ⟨W.heap.size + 1, 5, none⟩ = some (.int .i64 g.ag) := HB.out.fg.cell 5
    go_wp2_with fail
    refine (H2.out _ HB.out.x.up).mono ?_
    rintro e u2 ⟨rfl, hb⟩
    replace HB := Lib.hid (HB.out.step hb)
    clear hb x0 x1 y0 y1 y2 y3 y4 y5
    have x0 : u2.cell? ⟨W.heap.size, 0, none⟩ = some (.slice AF x.F.length cf) := HB.out.x.fx.cell 0
    have x1 : u2.cell? ⟨W.heap.size, 1, none⟩ = some (.slice AG x.G.length cg) := HB.out.x.fx.cell 1
    have y0 : u2.cell? ⟨W.heap.size + 1, 0, none⟩ = some (.int .i64 g.day) := HB.out.fg.cell 0
    have y1 : u2.cell? ⟨W.heap.size + 1, 1, none⟩ = some (.int .i64 g.home) := HB.out.fg.cell 1
    have y2 : u2.cell? ⟨W.heap.size + 1, 2, none⟩ = some (.int .i64 g.away) := HB.out.fg.cell 2
    have y3 : u2.cell? ⟨W.heap.size + 1, 3, none⟩ = some (.int .i64 g.fin) := HB.out.fg.cell 3
    have y4 : u2.cell? ⟨W.heap.size + 1, 4, none⟩ = some (.int .i64 g.hg) := HB.out.fg.cell 4
    have y5 : u2.cell? ⟨W.heap.size + 1, 5, none⟩ = some (.int .i64 g.ag) := HB.out.fg.cell 5
    go_wp2_with fail
    go_ret
    exact ⟨ret_bool HE.out.symm, HB.out.x.b⟩
  have HK : Hid ((decide (g.fin = 1) || decide (g.fin = 2)) = true) := Lib.hid (by rw [Bool.or_eq_true, decide_eq_true_eq, decide_eq_true_eq]; omega)
  have h5d : ((g.fin == 1) = true) ∨ ((g.fin == 1) = false ∧ (g.fin == 2) = true) := by simp; omega
  clear h5
  cases h6 : goalsB g.hg <;> rw [h6] at H3
  · rcases h5d with h5e | ⟨h5e, h5f⟩
    all_goals
      have HE := hn false (by unfold gameB; rw [h0, h1, h2, decide_eq_false h3, decide_eq_false h4, HK.out, h6]; rfl)
      clear hn h0 h1 h2 h3 h4 h6
      go_enter Tryd.func50, Tryd.ntmps50
      go_upto_region 1 with fail
      generalize (W.alloc (.cells (lgc x AF AG cf cg) 25)).alloc (.cells (gmc g) 53) = w9 at HB ⊢
      have x0 : w9.cell? ⟨W.heap.size, 0, none⟩ = some (.slice AF x.F.length cf) := HB.out.x.fx.cell 0
      have x1 : w9.cell? ⟨W.heap.size, 1, none⟩ = some (.slice AG x.G.length cg) := HB.out.x.fx.cell 1
      have y0 : w9.cell? ⟨W.heap.size + 1, 0, none⟩ = some (.int .i64 g.day) := HB.out.fg.cell 0
      have y1 : w9.cell? ⟨W.heap.size + 1, 1, none⟩ = some (.int .i64 g.home) := HB.out.fg.cell 1
      have y2 : w9.cell? ⟨W.heap.size + 1, 2, none⟩ = some (.int .i64 g.away) := HB.out.fg.cell 2
      have y3 : w9.cell? ⟨W.heap.size + 1, 3, none⟩ = some (.int .i64 g.fin) := HB.out.fg.cell 3
      have y4 : w9.cell? ⟨W.heap.size + 1, 4, none⟩ = some (.int .i64 g.hg) := HB.out.fg.cell 4
      have y5 : w9.cell? ⟨W.heap.size + 1, 5, none⟩ = some (.int .i64 g.ag) := HB.out.fg.cell 5
      go_wp2_with fail
      refine (H0.out _).mono ?_
      rintro e u0 ⟨rfl, rfl⟩
      go_wp2_with fail
      refine (H1.out _ HB.out.x.up).mono ?_
      rintro e u1 ⟨rfl, hb⟩
      replace HB := Lib.hid (HB.out.step hb)
      clear hb x0 x1 y0 y1 y2 y3 y4 y5
      have x0 : u1.cell? ⟨W.heap.size, 0, none⟩ = some (.slice AF x.F.length cf) := HB.out.x.fx.cell 0
      have x1 : u1.cell? ⟨W.heap.size, 1, none⟩ = some (.slice AG x.G.length cg) := HB.out.x.fx.cell 1
      have y0 : u1.cell? ⟨W.heap.size + 1, 0, none⟩ = some (.int .i64 g.day) := HB.out.fg.cell 0
      have y1 : u1.cell? ⟨W.heap.size + 1, 1, none⟩ = some (.int .i64 g.home) := HB.out.fg.cell 1
      have y2 : u1.cell? ⟨W.heap.size + 1, 2, none⟩ = some (.int .i64 g.away) := HB.out.fg.cell 2
      have y3 : u1.cell? ⟨W.heap.size + 1, 3, none⟩ = some (.int .i64 g.fin) := HB.out.fg.cell 3
      have y4 : u1.cell? ⟨W.heap.size + 1, 4, none⟩ = some (.int .i64 g.hg) := HB.out.fg.cell 4
      have y5 : u1.cell? ⟨W.heap.size + 1, 5, none⟩ = some (.int .i64 g.ag) := HB.out.fg.cell 5
      go_wp2_with fail
      refine (H2.out _ HB.out.x.up).mono ?_
      rintro e u2 ⟨rfl, hb⟩
      replace HB := Lib.hid (HB.out.step hb)
      clear hb x0 x1 y0 y1 y2 y3 y4 y5
      have x0 : u2.cell? ⟨W.heap.size, 0, none⟩ = some (.slice AF x.F.length cf) := HB.out.x.fx.cell 0
      have x1 : u2.cell? ⟨W.heap.size, 1, none⟩ = some (.slice AG x.G.length cg) := HB.out.x.fx.cell 1
      have y0 : u2.cell? ⟨W.heap.size + 1, 0, none⟩ = some (.int .i64 g.day) := HB.out.fg.cell 0
      have y1 : u2.cell? ⟨W.heap.size + 1, 1, none⟩ = some (.int .i64 g.home) := HB.out.fg.cell 1
      have y2 : u2.cell? ⟨W.heap.size + 1, 2, none⟩ = some (.int .i64 g.away) := HB.out.fg.cell 2
      have y3 : u2.cell? ⟨W.heap.size + 1, 3, none⟩ = some (.int .i64 g.fin) := HB.out.fg.cell 3
      have y4 : u2.cell? ⟨W.heap.size + 1, 4, none⟩ = some (.int .i64 g.hg) := HB.out.fg.cell 4
      have y5 : u2.cell? ⟨W.heap.size + 1, 5, none⟩ = some (.int .i64 g.ag) := HB.out.fg.cell 5
      go_wp2_with fail
      refine (H3.out _).mono ?_
      rintro e u3 ⟨rfl, rfl⟩
      go_wp2_with fail
      go_ret
      exact ⟨ret_bool HE.out.symm, HB.out.x.b⟩
  cases h7 : goalsB g.ag <;> rw [h7] at H4
  · rcases h5d with h5e | ⟨h5e, h5f⟩
    all_goals
      have HE := hn false (by unfold gameB; rw [h0, h1, h2, decide_eq_false h3, decide_eq_false h4, HK.out, h6, h7]; rfl)
      clear hn h0 h1 h2 h3 h4 h6 h7
      go_enter Tryd.func50, Tryd.ntmps50
      go_upto_region 1 with fail
      generalize (W.alloc (.cells (lgc x AF AG cf cg) 25)).alloc (.cells (gmc g) 53) = w9 at HB ⊢
      have x0 : w9.cell? ⟨W.heap.size, 0, none⟩ = some (.slice AF x.F.length cf) := HB.out.x.fx.cell 0
      have x1 : w9.cell? ⟨W.heap.size, 1, none⟩ = some (.slice AG x.G.length cg) := HB.out.x.fx.cell 1
      have y0 : w9.cell? ⟨W.heap.size + 1, 0, none⟩ = some (.int .i64 g.day) := HB.out.fg.cell 0
      have y1 : w9.cell? ⟨W.heap.size + 1, 1, none⟩ = some (.int .i64 g.home) := HB.out.fg.cell 1
      have y2 : w9.cell? ⟨W.heap.size + 1, 2, none⟩ = some (.int .i64 g.away) := HB.out.fg.cell 2
      have y3 : w9.cell? ⟨W.heap.size + 1, 3, none⟩ = some (.int .i64 g.fin) := HB.out.fg.cell 3
      have y4 : w9.cell? ⟨W.heap.size + 1, 4, none⟩ = some (.int .i64 g.hg) := HB.out.fg.cell 4
      have y5 : w9.cell? ⟨W.heap.size + 1, 5, none⟩ = some (.int .i64 g.ag) := HB.out.fg.cell 5
      go_wp2_with fail
      refine (H0.out _).mono ?_
      rintro e u0 ⟨rfl, rfl⟩
      go_wp2_with fail
      refine (H1.out _ HB.out.x.up).mono ?_
      rintro e u1 ⟨rfl, hb⟩
      replace HB := Lib.hid (HB.out.step hb)
      clear hb x0 x1 y0 y1 y2 y3 y4 y5
      have x0 : u1.cell? ⟨W.heap.size, 0, none⟩ = some (.slice AF x.F.length cf) := HB.out.x.fx.cell 0
      have x1 : u1.cell? ⟨W.heap.size, 1, none⟩ = some (.slice AG x.G.length cg) := HB.out.x.fx.cell 1
      have y0 : u1.cell? ⟨W.heap.size + 1, 0, none⟩ = some (.int .i64 g.day) := HB.out.fg.cell 0
      have y1 : u1.cell? ⟨W.heap.size + 1, 1, none⟩ = some (.int .i64 g.home) := HB.out.fg.cell 1
      have y2 : u1.cell? ⟨W.heap.size + 1, 2, none⟩ = some (.int .i64 g.away) := HB.out.fg.cell 2
      have y3 : u1.cell? ⟨W.heap.size + 1, 3, none⟩ = some (.int .i64 g.fin) := HB.out.fg.cell 3
      have y4 : u1.cell? ⟨W.heap.size + 1, 4, none⟩ = some (.int .i64 g.hg) := HB.out.fg.cell 4
      have y5 : u1.cell? ⟨W.heap.size + 1, 5, none⟩ = some (.int .i64 g.ag) := HB.out.fg.cell 5
      go_wp2_with fail
      refine (H2.out _ HB.out.x.up).mono ?_
      rintro e u2 ⟨rfl, hb⟩
      replace HB := Lib.hid (HB.out.step hb)
      clear hb x0 x1 y0 y1 y2 y3 y4 y5
      have x0 : u2.cell? ⟨W.heap.size, 0, none⟩ = some (.slice AF x.F.length cf) := HB.out.x.fx.cell 0
      have x1 : u2.cell? ⟨W.heap.size, 1, none⟩ = some (.slice AG x.G.length cg) := HB.out.x.fx.cell 1
      have y0 : u2.cell? ⟨W.heap.size + 1, 0, none⟩ = some (.int .i64 g.day) := HB.out.fg.cell 0
      have y1 : u2.cell? ⟨W.heap.size + 1, 1, none⟩ = some (.int .i64 g.home) := HB.out.fg.cell 1
      have y2 : u2.cell? ⟨W.heap.size + 1, 2, none⟩ = some (.int .i64 g.away) := HB.out.fg.cell 2
      have y3 : u2.cell? ⟨W.heap.size + 1, 3, none⟩ = some (.int .i64 g.fin) := HB.out.fg.cell 3
      have y4 : u2.cell? ⟨W.heap.size + 1, 4, none⟩ = some (.int .i64 g.hg) := HB.out.fg.cell 4
      have y5 : u2.cell? ⟨W.heap.size + 1, 5, none⟩ = some (.int .i64 g.ag) := HB.out.fg.cell 5
      go_wp2_with fail
      refine (H3.out _).mono ?_
      rintro e u3 ⟨rfl, rfl⟩
      go_wp2_with fail
      refine (H4.out _).mono ?_
      rintro e u4 ⟨rfl, rfl⟩
      go_wp2_with fail
      go_ret
      exact ⟨ret_bool HE.out.symm, HB.out.x.b⟩
  by_cases h8 : g.hg = g.ag
  · rcases h5d with h5e | ⟨h5e, h5f⟩
    all_goals
      have h8b : (g.hg == g.ag) = true := by simpa using h8
      have h8c : (g.hg != g.ag) = false := by simpa using h8
      have HE := hn false (by unfold gameB; rw [h0, h1, h2, decide_eq_false h3, decide_eq_false h4, HK.out, h6, h7, decide_eq_true h8]; rfl)
      clear hn h0 h1 h2 h3 h4 h6 h7 h8
      go_enter Tryd.func50, Tryd.ntmps50
      go_upto_region 1 with fail
      generalize (W.alloc (.cells (lgc x AF AG cf cg) 25)).alloc (.cells (gmc g) 53) = w9 at HB ⊢
      have x0 : w9.cell? ⟨W.heap.size, 0, none⟩ = some (.slice AF x.F.length cf) := HB.out.x.fx.cell 0
      have x1 : w9.cell? ⟨W.heap.size, 1, none⟩ = some (.slice AG x.G.length cg) := HB.out.x.fx.cell 1
      have y0 : w9.cell? ⟨W.heap.size + 1, 0, none⟩ = some (.int .i64 g.day) := HB.out.fg.cell 0
      have y1 : w9.cell? ⟨W.heap.size + 1, 1, none⟩ = some (.int .i64 g.home) := HB.out.fg.cell 1
      have y2 : w9.cell? ⟨W.heap.size + 1, 2, none⟩ = some (.int .i64 g.away) := HB.out.fg.cell 2
      have y3 : w9.cell? ⟨W.heap.size + 1, 3, none⟩ = some (.int .i64 g.fin) := HB.out.fg.cell 3
      have y4 : w9.cell? ⟨W.heap.size + 1, 4, none⟩ = some (.int .i64 g.hg) := HB.out.fg.cell 4
      have y5 : w9.cell? ⟨W.heap.size + 1, 5, none⟩ = some (.int .i64 g.ag) := HB.out.fg.cell 5
      go_wp2_with fail
      refine (H0.out _).mono ?_
      rintro e u0 ⟨rfl, rfl⟩
      go_wp2_with fail
      refine (H1.out _ HB.out.x.up).mono ?_
      rintro e u1 ⟨rfl, hb⟩
      replace HB := Lib.hid (HB.out.step hb)
      clear hb x0 x1 y0 y1 y2 y3 y4 y5
      have x0 : u1.cell? ⟨W.heap.size, 0, none⟩ = some (.slice AF x.F.length cf) := HB.out.x.fx.cell 0
      have x1 : u1.cell? ⟨W.heap.size, 1, none⟩ = some (.slice AG x.G.length cg) := HB.out.x.fx.cell 1
      have y0 : u1.cell? ⟨W.heap.size + 1, 0, none⟩ = some (.int .i64 g.day) := HB.out.fg.cell 0
      have y1 : u1.cell? ⟨W.heap.size + 1, 1, none⟩ = some (.int .i64 g.home) := HB.out.fg.cell 1
      have y2 : u1.cell? ⟨W.heap.size + 1, 2, none⟩ = some (.int .i64 g.away) := HB.out.fg.cell 2
      have y3 : u1.cell? ⟨W.heap.size + 1, 3, none⟩ = some (.int .i64 g.fin) := HB.out.fg.cell 3
      have y4 : u1.cell? ⟨W.heap.size + 1, 4, none⟩ = some (.int .i64 g.hg) := HB.out.fg.cell 4
      have y5 : u1.cell? ⟨W.heap.size + 1, 5, none⟩ = some (.int .i64 g.ag) := HB.out.fg.cell 5
      go_wp2_with fail
      refine (H2.out _ HB.out.x.up).mono ?_
      rintro e u2 ⟨rfl, hb⟩
      replace HB := Lib.hid (HB.out.step hb)
      clear hb x0 x1 y0 y1 y2 y3 y4 y5
      have x0 : u2.cell? ⟨W.heap.size, 0, none⟩ = some (.slice AF x.F.length cf) := HB.out.x.fx.cell 0
      have x1 : u2.cell? ⟨W.heap.size, 1, none⟩ = some (.slice AG x.G.length cg) := HB.out.x.fx.cell 1
      have y0 : u2.cell? ⟨W.heap.size + 1, 0, none⟩ = some (.int .i64 g.day) := HB.out.fg.cell 0
      have y1 : u2.cell? ⟨W.heap.size + 1, 1, none⟩ = some (.int .i64 g.home) := HB.out.fg.cell 1
      have y2 : u2.cell? ⟨W.heap.size + 1, 2, none⟩ = some (.int .i64 g.away) := HB.out.fg.cell 2
      have y3 : u2.cell? ⟨W.heap.size + 1, 3, none⟩ = some (.int .i64 g.fin) := HB.out.fg.cell 3
      have y4 : u2.cell? ⟨W.heap.size + 1, 4, none⟩ = some (.int .i64 g.hg) := HB.out.fg.cell 4
      have y5 : u2.cell? ⟨W.heap.size + 1, 5, none⟩ = some (.int .i64 g.ag) := HB.out.fg.cell 5
      go_wp2_with fail
      refine (H3.out _).mono ?_
      rintro e u3 ⟨rfl, rfl⟩
      go_wp2_with fail
      refine (H4.out _).mono ?_
      rintro e u4 ⟨rfl, rfl⟩
      go_wp2_with fail
      go_ret
      exact ⟨ret_bool HE.out.symm, HB.out.x.b⟩
  · rcases h5d with h5e | ⟨h5e, h5f⟩
    all_goals
      have h8b : (g.hg == g.ag) = false := by simpa using h8
      have h8c : (g.hg != g.ag) = true := by simpa using h8
      have HE := hn true (by unfold gameB; rw [h0, h1, h2, decide_eq_false h3, decide_eq_false h4, HK.out, h6, h7, decide_eq_false h8]; rfl)
      clear hn h0 h1 h2 h3 h4 h6 h7 h8
      go_enter Tryd.func50, Tryd.ntmps50
      go_upto_region 1 with fail
      generalize (W.alloc (.cells (lgc x AF AG cf cg) 25)).alloc (.cells (gmc g) 53) = w9 at HB ⊢
      have x0 : w9.cell? ⟨W.heap.size, 0, none⟩ = some (.slice AF x.F.length cf) := HB.out.x.fx.cell 0
      have x1 : w9.cell? ⟨W.heap.size, 1, none⟩ = some (.slice AG x.G.length cg) := HB.out.x.fx.cell 1
      have y0 : w9.cell? ⟨W.heap.size + 1, 0, none⟩ = some (.int .i64 g.day) := HB.out.fg.cell 0
      have y1 : w9.cell? ⟨W.heap.size + 1, 1, none⟩ = some (.int .i64 g.home) := HB.out.fg.cell 1
      have y2 : w9.cell? ⟨W.heap.size + 1, 2, none⟩ = some (.int .i64 g.away) := HB.out.fg.cell 2
      have y3 : w9.cell? ⟨W.heap.size + 1, 3, none⟩ = some (.int .i64 g.fin) := HB.out.fg.cell 3
      have y4 : w9.cell? ⟨W.heap.size + 1, 4, none⟩ = some (.int .i64 g.hg) := HB.out.fg.cell 4
      have y5 : w9.cell? ⟨W.heap.size + 1, 5, none⟩ = some (.int .i64 g.ag) := HB.out.fg.cell 5
      go_wp2_with fail
      refine (H0.out _).mono ?_
      rintro e u0 ⟨rfl, rfl⟩
      go_wp2_with fail
      refine (H1.out _ HB.out.x.up).mono ?_
      rintro e u1 ⟨rfl, hb⟩
      replace HB := Lib.hid (HB.out.step hb)
      clear hb x0 x1 y0 y1 y2 y3 y4 y5
      have x0 : u1.cell? ⟨W.heap.size, 0, none⟩ = some (.slice AF x.F.length cf) := HB.out.x.fx.cell 0
      have x1 : u1.cell? ⟨W.heap.size, 1, none⟩ = some (.slice AG x.G.length cg) := HB.out.x.fx.cell 1
      have y0 : u1.cell? ⟨W.heap.size + 1, 0, none⟩ = some (.int .i64 g.day) := HB.out.fg.cell 0
      have y1 : u1.cell? ⟨W.heap.size + 1, 1, none⟩ = some (.int .i64 g.home) := HB.out.fg.cell 1
      have y2 : u1.cell? ⟨W.heap.size + 1, 2, none⟩ = some (.int .i64 g.away) := HB.out.fg.cell 2
      have y3 : u1.cell? ⟨W.heap.size + 1, 3, none⟩ = some (.int .i64 g.fin) := HB.out.fg.cell 3
      have y4 : u1.cell? ⟨W.heap.size + 1, 4, none⟩ = some (.int .i64 g.hg) := HB.out.fg.cell 4
      have y5 : u1.cell? ⟨W.heap.size + 1, 5, none⟩ = some (.int .i64 g.ag) := HB.out.fg.cell 5
      go_wp2_with fail
      refine (H2.out _ HB.out.x.up).mono ?_
      rintro e u2 ⟨rfl, hb⟩
      replace HB := Lib.hid (HB.out.step hb)
      clear hb x0 x1 y0 y1 y2 y3 y4 y5
      have x0 : u2.cell? ⟨W.heap.size, 0, none⟩ = some (.slice AF x.F.length cf) := HB.out.x.fx.cell 0
      have x1 : u2.cell? ⟨W.heap.size, 1, none⟩ = some (.slice AG x.G.length cg) := HB.out.x.fx.cell 1
      have y0 : u2.cell? ⟨W.heap.size + 1, 0, none⟩ = some (.int .i64 g.day) := HB.out.fg.cell 0
      have y1 : u2.cell? ⟨W.heap.size + 1, 1, none⟩ = some (.int .i64 g.home) := HB.out.fg.cell 1
      have y2 : u2.cell? ⟨W.heap.size + 1, 2, none⟩ = some (.int .i64 g.away) := HB.out.fg.cell 2
      have y3 : u2.cell? ⟨W.heap.size + 1, 3, none⟩ = some (.int .i64 g.fin) := HB.out.fg.cell 3
      have y4 : u2.cell? ⟨W.heap.size + 1, 4, none⟩ = some (.int .i64 g.hg) := HB.out.fg.cell 4
      have y5 : u2.cell? ⟨W.heap.size + 1, 5, none⟩ = some (.int .i64 g.ag) := HB.out.fg.cell 5
      go_wp2_with fail
      refine (H3.out _).mono ?_
      rintro e u3 ⟨rfl, rfl⟩
      go_wp2_with fail
      refine (H4.out _).mono ?_
      rintro e u4 ⟨rfl, rfl⟩
      go_wp2_with fail
      go_ret
      exact ⟨ret_bool HE.out.symm, HB.out.x.b⟩
end Go.Proofs.YtljkgjfmambfoaaDoor
