/- Contracts: ahead, inTurn; the sort of rows. -/
import Derived.Test.YtljkgjfmambfoaaDoorLgR
namespace Go.Proofs.YtljkgjfmambfoaaDoor
open Go.RowKit Go.Shelf Go.Lib Go.Sort
attribute [local irreducible] wpQuiet
attribute [local go_sem] Oper.semAt_some
/-- what the order of the table captures -/
structure Ord (W : World) (h : Nat) : Prop where
  b0 : Has W h 96 #[.func (.func 60) #[] #[]]
  b1 : Has W (h + 1) 96 #[.func (.func 61) #[] #[]]
  b2 : Has W (h + 2) 96 #[.func (.func 62) #[] #[]]
  b3 : Has W (h + 3) 96 #[.func (.func 63) #[] #[]]
  b4 : Has W (h + 4) 96 #[.func (.func 64) #[] #[]]
  s : Has W (h + 5) 69 #[.func (.func 77) #[] #[.pointer (some ⟨h, 0, none⟩)], .func (.func 77) #[] #[.pointer (some ⟨h + 1, 0, none⟩)], .func (.func 77) #[] #[.pointer (some ⟨h + 2, 0, none⟩)], .func (.func 77) #[] #[.pointer (some ⟨h + 3, 0, none⟩)], .func (.func 77) #[] #[.pointer (some ⟨h + 4, 0, none⟩)]]
  o : Has W (h + 6) 111 #[.slice (some ⟨h + 5, 0, none⟩) 5 5]
theorem Ord.below {W W' : World} {h B : Nat} (o : Ord W h) (hb : Below B W W') (hB : h + 6 < B) : Ord W' h :=
  ⟨o.b0.below hb (by omega), o.b1.below hb (by omega), o.b2.below hb (by omega), o.b3.below hb (by omega), o.b4.below hb (by omega), o.s.below hb (by omega), o.o.below hb (by omega)⟩
theorem Ord.next {W W' : World} {h : Nat} (o : Ord W h) (k : Gr W W') : Ord W' h := o.below k.below o.o.lt
theorem Ord.alloc {W : World} {h : Nat} (o : Ord W h) (u : Obj) : Ord (W.alloc u) h := o.next ((Gr.refl W).alloc u)
theorem Ord.at_ {W : World} {h : Nat} (o : Ord W h) {k : Nat} (hk : k < 5) : W.cell? ⟨h + 5, k, none⟩ = some (.func (.func 77) #[] #[.pointer (some ⟨h + k, 0, none⟩)]) := by
  rw [o.s.cell]
  match k, hk with
  | 0, _ => rfl
  | 1, _ => rfl
  | 2, _ => rfl
  | 3, _ => rfl
  | 4, _ => rfl
theorem Ord.less {W : World} {h : Nat} (o : Ord W h) {k : Nat} (hk : k < 5) {x y : Rw} (hx : RN x) (hy : RN y) : Less5 k x y (.pointer (some ⟨h + k, 0, none⟩)) W :=
  match k, hk with
  | 0, _ => less0_any x y h W hx hy o.b0
  | 1, _ => less1_any x y (h + 1) W hx hy o.b1
  | 2, _ => less2_any x y (h + 2) W hx hy o.b2
  | 3, _ => less3_any x y (h + 3) W hx hy o.b3
  | 4, _ => less4_any x y (h + 4) W hx hy o.b4
/-- in turn, at work -/
structure TuI (W w : World) (x y : Rw) (h k : Nat) : Prop where
  gr : Gr W w
  fx : Has w W.heap.size 66 (rwc x)
  fy : Has w (W.heap.size + 1) 66 (rwc y)
  od : Ord w h
  z : ∀ j, j < k → cmpK j x y = 0
theorem TuI.next {W w w' : World} {x y : Rw} {h k : Nat} (t : TuI W w x y h k) (g : Gr w w') : TuI W w' x y h k :=
  ⟨t.gr.trans g, t.fx.below g.below t.fx.lt, t.fy.below g.below t.fy.lt, t.od.next g, t.z⟩
set_option maxRecDepth 100000 in
set_option maxHeartbeats 2000000 in
theorem turn_any (x y : Rw) (h : Nat) (W : World) (hx : RN x) (hy : RN y) (o : Ord W h) :
    Calls Tryd.prog 76 #[.agg (rwc x), .agg (rwc y), .pointer (some ⟨h + 6, 0, none⟩)] W (KeyPost (cmpRw x y) W) := by
  have HB : Hid (TuI W ((W.alloc (.cells (rwc x) 66)).alloc (.cells (rwc y) 66)) x y h 0) := Lib.hid ⟨((Gr.refl W).alloc _).alloc _, (Has.new _ _ _).alloc _, has_newAt (by simp), (o.alloc _).alloc _, fun j hj => by omega⟩
  have HL := Lib.hid (fun k (hk : k < 5) w (o : Ord w h) => o.less hk hx hy)
  have HC := Lib.hid (fun k (hk : k < 5) h0 h => cmp_at x y hk h0 h)
  have HN := Lib.hid (fun h0 => cmp_none x y h0)
  clear hx hy o
  unfold Less5 KeyPost at HL
  obtain ⟨c, hc⟩ : ∃ c, c = cmpRw x y := ⟨_, rfl⟩
  rw [← hc] at HC HN ⊢
  clear hc
  unfold rwc at *
  go_enter Tryd.func76, Tryd.ntmps76
  go_upto_region 1 with fail
  generalize (W.alloc (.cells #[.int .i64 x.team, .int .i64 x.games, .int .i64 x.pts, .int .i64 x.gf, .int .i64 x.ga, .int .i64 x.among] 66)).alloc (.cells #[.int .i64 y.team, .int .i64 y.games, .int .i64 y.pts, .int .i64 y.gf, .int .i64 y.ga, .int .i64 y.among] 66) = w9 at HB ⊢
  have o0 : w9.cell? ⟨h + 6, 0, none⟩ = some (.slice (some ⟨h + 5, 0, none⟩) 5 5) := HB.out.od.o.cell 0
  go_wp2_with fail
  clear o0
  go_loopg [11] 5 (fun gk i wr => ∃ k : Nat, k ≤ 5 ∧ 5 - k ≤ gk ∧ i = .int .i64 ((k : Nat) : Int) ∧ Hid (TuI W wr x y h k))
  case atStart => exact ⟨0, by omega, by omega, rfl, HB⟩
  case round =>
    clear HB
    obtain ⟨k, hk, hgk, rfl, HB⟩ := hrel
    by_cases hlt : k < 5
    rotate_left
    · have hge : ¬ (k : Int) < 5 := by omega
      have HE : Hid (c = 0) := Lib.hid (HN.out (fun j hj => HB.out.z j (by omega)))
      go_wp2_with fail
      go_ret
      exact ⟨ret_int HE.out.symm, HB.out.gr⟩
    have hlt2 : (k : Int) < 5 := by omega
    have q0 : wr.cell? ⟨h + 5, k, none⟩ = some (.func (.func 77) #[] #[.pointer (some ⟨h + k, 0, none⟩)]) := HB.out.od.at_ hlt
    have HLk := Lib.hid (HL.out k hlt wr HB.out.od)
    have x0 : wr.cell? ⟨W.heap.size, 0, none⟩ = some (.int .i64 x.team) := HB.out.fx.cell 0
    have x1 : wr.cell? ⟨W.heap.size, 1, none⟩ = some (.int .i64 x.games) := HB.out.fx.cell 1
    have x2 : wr.cell? ⟨W.heap.size, 2, none⟩ = some (.int .i64 x.pts) := HB.out.fx.cell 2
    have x3 : wr.cell? ⟨W.heap.size, 3, none⟩ = some (.int .i64 x.gf) := HB.out.fx.cell 3
    have x4 : wr.cell? ⟨W.heap.size, 4, none⟩ = some (.int .i64 x.ga) := HB.out.fx.cell 4
    have x5 : wr.cell? ⟨W.heap.size, 5, none⟩ = some (.int .i64 x.among) := HB.out.fx.cell 5
    have y0 : wr.cell? ⟨W.heap.size + 1, 0, none⟩ = some (.int .i64 y.team) := HB.out.fy.cell 0
    have y1 : wr.cell? ⟨W.heap.size + 1, 1, none⟩ = some (.int .i64 y.games) := HB.out.fy.cell 1
    have y2 : wr.cell? ⟨W.heap.size + 1, 2, none⟩ = some (.int .i64 y.pts) := HB.out.fy.cell 2
    have y3 : wr.cell? ⟨W.heap.size + 1, 3, none⟩ = some (.int .i64 y.gf) := HB.out.fy.cell 3
    have y4 : wr.cell? ⟨W.heap.size + 1, 4, none⟩ = some (.int .i64 y.ga) := HB.out.fy.cell 4
    have y5 : wr.cell? ⟨W.heap.size + 1, 5, none⟩ = some (.int .i64 y.among) := HB.out.fy.cell 5
    have HCk := Lib.hid (fun h => HC.out k hlt HB.out.z h)
    have HZk := Lib.hid (show cmpK k x y = 0 → ∀ j, j < k + 1 → cmpK j x y = 0 from fun h j hj => by
      rcases Nat.lt_or_ge j k with h1 | h1
      · exact HB.out.z j h1
      · obtain rfl : j = k := by omega
        exact h)
    obtain ⟨r, hr⟩ : ∃ r, r = cmpK k x y := ⟨_, rfl⟩
    rw [← hr] at HCk HLk HZk
    clear hr HL HC HN
    go_wp2_with fail
    refine HLk.out.mono ?_
    rintro e w2 ⟨rfl, hg2⟩
    have H2 := Lib.hid (HB.out.next hg2)
    clear hg2 q0 x0 x1 x2 x3 x4 x5 y0 y1 y2 y3 y4 y5 HB HLk
    by_cases h0 : r = 0
    · have hb1 : (r == 0) = true := by simpa using h0
      have hb2 : (r != 0) = false := by simpa using h0
      have H3 : Hid (TuI W w2 x y h (k + 1)) := Lib.hid ⟨H2.out.gr, H2.out.fx, H2.out.fy, H2.out.od, HZk.out h0⟩
      clear h0 HZk HCk H2
      go_wp2_with fail
      go_roundg (5 - (k + 1))
      case measure => omega
      case rel => exact ⟨k + 1, by omega, Nat.le_refl _, by go_num, H3⟩
    · have hb1 : (r == 0) = false := by simpa using h0
      have hb2 : (r != 0) = true := by simpa using h0
      have HE := Lib.hid (HCk.out h0)
      clear h0 HZk HCk
      go_wp2_with fail
      go_ret
      exact ⟨ret_int HE.out.symm, H2.out.gr⟩
set_option maxRecDepth 100000 in
theorem more_any (g : Nat) (W : World) : Calls Tryd.prog 59 #[.func (.func g) #[] #[]] W fun e w' => e = .returned (.func (.func 77) #[] #[.pointer (some ⟨W.heap.size, 0, none⟩)]) ∧ w' = W.alloc (.cells #[.func (.func g) #[] #[]] 96) := by
  go_enter Tryd.func59, Tryd.ntmps59
  go_wp2_with fail
  go_ret
  exact ⟨rfl, rfl⟩
set_option maxRecDepth 100000 in
theorem inTurn_any (A : Option Addr) (n c : Nat) (W : World) : Calls Tryd.prog 58 #[.slice A n c] W fun e w' => e = .returned (.func (.func 76) #[] #[.pointer (some ⟨W.heap.size, 0, none⟩)]) ∧ w' = W.alloc (.cells #[.slice A n c] 111) := by
  go_enter Tryd.func58, Tryd.ntmps58
  go_wp2_with fail
  go_ret
  exact ⟨rfl, rfl⟩
def OrdPost (W : World) (e : Ending) (W' : World) : Prop := e = .returned (.func (.func 76) #[] #[.pointer (some ⟨W.heap.size + 6, 0, none⟩)]) ∧ Ord W' W.heap.size ∧ Below W.heap.size W W'
set_option maxRecDepth 100000 in
set_option maxHeartbeats 2000000 in
theorem ahead_any (W : World) : Calls Tryd.prog 35 #[] W (OrdPost W) := by
  have HM := Lib.hid (fun g w => more_any g w)
  have HT := Lib.hid (fun A n c w => inTurn_any A n c w)
  go_enter Tryd.func35, Tryd.ntmps35
  go_wp2_with fail
  refine (HM.out 60 _).mono ?_
  rintro e w1 ⟨rfl, rfl⟩
  go_wp2_with fail
  refine (HM.out 61 _).mono ?_
  rintro e w1 ⟨rfl, rfl⟩
  go_wp2_with fail
  refine (HM.out 62 _).mono ?_
  rintro e w1 ⟨rfl, rfl⟩
  go_wp2_with fail
  refine (HM.out 63 _).mono ?_
  rintro e w1 ⟨rfl, rfl⟩
  go_wp2_with fail
  refine (HM.out 64 _).mono ?_
  rintro e w1 ⟨rfl, rfl⟩
  go_wp2_with fail
  refine (HT.out _ _ _ _).mono ?_
  rintro e w1 ⟨rfl, rfl⟩
  go_wp2_with fail
  go_ret
  refine ⟨by simp, ⟨?_, ?_, ?_, ?_, ?_, ?_, ?_⟩, ?_⟩
  · exact ((((((Has.new _ _ _).alloc _).alloc _).alloc _).alloc _).alloc _).alloc _
  · exact (((((has_newAt (by simp)).alloc _).alloc _).alloc _).alloc _).alloc _
  · exact ((((has_newAt (by simp)).alloc _).alloc _).alloc _).alloc _
  · exact (((has_newAt (by simp)).alloc _).alloc _).alloc _
  · exact ((has_newAt (by simp)).alloc _).alloc _
  · exact (has_newAt (by simp)).alloc _
  · exact has_newAt (by simp)
  · exact (((((((Gr.refl W).alloc _).alloc _).alloc _).alloc _).alloc _).alloc _).alloc _ |>.below
def ClonePostR (l : List Rw) (w : World) (e : Ending) (W' : World) : Prop := Below w.heap.size w W' ∧ ∃ v, e = .returned v ∧ W'.ownsRow w.heap.size 66 6 v l.length (nvl rwc l)
set_option maxRecDepth 100000 in
set_option maxHeartbeats 2000000 in
theorem cloneR_any (G : List Rw) (A : Option Addr) (cl : Nat) (w : World) (hr : NRow rwc 6 w w.heap.size A G) (hn : G.length ≤ 64) :
    Calls Tryd.prog 54 #[.slice A G.length cl] w (ClonePostR G w) := by
  cases A with
  | none =>
    have h1 : G.length = 0 := nrow_none (f := rwc) (n := 6) hr rfl
    obtain rfl := List.eq_nil_of_length_eq_zero h1
    clear hr h1
    have hq : ∀ w, (binOp .eql 63 (.slice none 0 cl) (.slice none 0 0)).run Tryd.prog w = .ok (.bool true) w := fun _ => by kernel_rfl
    simp only [List.length_nil]
    go_enter Tryd.func54, Tryd.ntmps54
    go_wp2
    go_ret
    exact ⟨Below.refl _ _, _, rfl, World.ownsRow_nil _ _ _ _⟩
  | some ad =>
    have hq : ∀ w, (binOp .eql 63 (.slice (some ad) G.length cl) (.slice none 0 0)).run Tryd.prog w = .ok (.bool false) w := fun _ => by kernel_rfl
    have HR := Lib.hid hr
    have HN := Lib.hid (own_made w 66 6)
    obtain ⟨i0, hi, hz0, hz1, hz2⟩ := info_parts Tryd.info66
    obtain ⟨n, hnn⟩ : ∃ n, n = G.length := ⟨_, rfl⟩
    rw [← hnn] at hn hq ⊢
    have HL := Lib.hid hnn
    clear hr hnn
    go_enter Tryd.func54, Tryd.ntmps54
    go_wp2_with (at_builtin; refine wpList_append_own _ rfl _ _ 63 rfl w.heap.size 66 i0 (.agg #[.int .i64 0, .int .i64 0, .int .i64 0, .int .i64 0, .int .i64 0, .int .i64 0]) 6 48 Tryd.underlying63 hi hz0 hz1 hz2 rfl (by decide) _ 0 [] rfl HN.out ad n cl (nvl rwc G) rfl ?q1 ?q2 ?q3 ?q4 ?q5 ?q6 ?_)
    case q1 => rw [nvl_len rwc_size, ← HL.out]
    case q2 => exact nrow_news rwc_size (by omega) (NRow.below (f := rwc) (n := 6) HR.out (below_one w _)) ad rfl
    case q3 => exact nvl_one rwc_one G
    case q4 => unfold maxLen; omega
    case q5 => omega
    case q6 => simp
    intro v' w' ho hgr _
    have HF := Lib.hid (And.intro (copy_below hgr) ho)
    clear ho hgr
    go_wp2_with fail
    go_ret
    exact ⟨HF.out.1, v', rfl, by rw [← HL.out]; simpa using HF.out.2⟩
end Go.Proofs.YtljkgjfmambfoaaDoor
