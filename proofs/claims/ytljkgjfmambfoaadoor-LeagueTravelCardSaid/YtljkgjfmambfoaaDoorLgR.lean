/- Contracts: the order of rows. -/
import Derived.Test.YtljkgjfmambfoaaDoorLgQ
import Derived.Test.YtljkgjfmambfoaaDoorShf
namespace Go.Proofs.YtljkgjfmambfoaaDoor
open Go.RowKit Go.Shelf Go.Lib Go.Sort
attribute [local irreducible] wpQuiet
attribute [local go_sem] Oper.semAt_some
/-- only draws, and new blocks -/
def Gr (W w : World) : Prop := ∃ q os, w = grow (W.drewN q) os
theorem Gr.refl (W : World) : Gr W W := ⟨0, #[], by rw [grow_empty]; rfl⟩
theorem Gr.trans {a b c : World} (h : Gr a b) (k : Gr b c) : Gr a c := by
  obtain ⟨q, os, rfl⟩ := h
  obtain ⟨q', os', rfl⟩ := k
  refine ⟨q + q', os ++ os', ?_⟩
  have e : (grow (a.drewN q) os).drewN q' = grow (a.drewN (q + q')) os := by unfold grow World.drewN; simp [Nat.add_assoc]
  rw [e, grow_grow]
theorem Gr.alloc {a b : World} (h : Gr a b) (o : Obj) : Gr a (b.alloc o) := h.trans ⟨0, #[o], by rw [alloc_eq_grow]; rfl⟩
theorem Gr.drew {a b : World} (h : Gr a b) : Gr a b.drew := h.trans ⟨1, #[], by rw [grow_empty]; rfl⟩
theorem Gr.below {a b : World} (h : Gr a b) : Below a.heap.size a b := by
  obtain ⟨q, os, rfl⟩ := h
  refine ⟨rfl, rfl, rfl, by rw [size_grow]; show a.heap.size ≤ a.heap.size + os.size; omega, fun k hk => ?_⟩
  show (a.heap ++ os)[k]? = a.heap[k]?
  rw [Array.getElem?_append_left hk]
/-- a row of small numbers -/
structure RN (r : Rw) : Prop where
  t : -1000000000 ≤ r.team ∧ r.team ≤ 1000000000
  f : -1000000000 ≤ r.gf ∧ r.gf ≤ 1000000000
  a : -1000000000 ≤ r.ga ∧ r.ga ≤ 1000000000
def keyR : Nat → Rw → Int
  | 0, r => r.pts
  | 1, r => r.among
  | 2, r => r.gf - r.ga
  | 3, r => r.gf
  | _, r => -r.team
def cmpK (k : Nat) (x y : Rw) : Int := compareInt (keyR k y) (keyR k x)
theorem cmpI_eq (a b : Int) : compareInt a b = cmpI a b := by
  unfold compareInt cmpI
  by_cases h1 : a < b
  · simp [h1]
  · by_cases h2 : b < a <;> simp [h1, h2]
theorem cmp_at (x y : Rw) {k : Nat} (hk : k < 5) (h0 : ∀ j, j < k → cmpK j x y = 0) (h : cmpK k x y ≠ 0) : cmpRw x y = cmpK k x y := by
  have e0 : cmpI y.pts x.pts = cmpK 0 x y := (cmpI_eq _ _).symm
  have e1 : cmpI y.among x.among = cmpK 1 x y := (cmpI_eq _ _).symm
  have e2 : cmpI (y.gf - y.ga) (x.gf - x.ga) = cmpK 2 x y := (cmpI_eq _ _).symm
  have e3 : cmpI y.gf x.gf = cmpK 3 x y := (cmpI_eq _ _).symm
  have e4 : cmpI (-y.team) (-x.team) = cmpK 4 x y := (cmpI_eq _ _).symm
  unfold cmpRw
  simp only [e0, e1, e2, e3, e4]
  match k, hk with
  | 0, _ => rw [if_pos h]
  | 1, _ => rw [if_neg (by rw [h0 0 (by omega)]; simp), if_pos h]
  | 2, _ => rw [if_neg (by rw [h0 0 (by omega)]; simp), if_neg (by rw [h0 1 (by omega)]; simp), if_pos h]
  | 3, _ => rw [if_neg (by rw [h0 0 (by omega)]; simp), if_neg (by rw [h0 1 (by omega)]; simp), if_neg (by rw [h0 2 (by omega)]; simp), if_pos h]
  | 4, _ => rw [if_neg (by rw [h0 0 (by omega)]; simp), if_neg (by rw [h0 1 (by omega)]; simp), if_neg (by rw [h0 2 (by omega)]; simp), if_neg (by rw [h0 3 (by omega)]; simp)]
theorem cmp_none (x y : Rw) (h0 : ∀ j, j < 5 → cmpK j x y = 0) : cmpRw x y = 0 := by
  have e0 : cmpI y.pts x.pts = cmpK 0 x y := (cmpI_eq _ _).symm
  have e1 : cmpI y.among x.among = cmpK 1 x y := (cmpI_eq _ _).symm
  have e2 : cmpI (y.gf - y.ga) (x.gf - x.ga) = cmpK 2 x y := (cmpI_eq _ _).symm
  have e3 : cmpI y.gf x.gf = cmpK 3 x y := (cmpI_eq _ _).symm
  have e4 : cmpI (-y.team) (-x.team) = cmpK 4 x y := (cmpI_eq _ _).symm
  unfold cmpRw
  simp only [e0, e1, e2, e3, e4]
  rw [if_neg (by rw [h0 0 (by omega)]; simp), if_neg (by rw [h0 1 (by omega)]; simp), if_neg (by rw [h0 2 (by omega)]; simp), if_neg (by rw [h0 3 (by omega)]; simp)]
  exact h0 4 (by omega)
def KeyPost (n : Int) (W : World) (e : Ending) (W' : World) : Prop := e = .returned (.int .i64 n) ∧ Gr W W'
set_option maxRecDepth 100000 in
set_option maxHeartbeats 1000000 in
theorem key0_any (r : Rw) (W : World) (h : RN r) : Calls Tryd.prog 60 #[.agg (rwc r)] W (KeyPost (keyR 0 r) W) := by
  have HE : Hid (keyR 0 r = r.pts) := Lib.hid rfl
  have HG := Lib.hid ((Gr.refl W).alloc (.cells (rwc r) 66))
  obtain ⟨⟨h1, h2⟩, ⟨h3, h4⟩, ⟨h5, h6⟩⟩ := h
  unfold rwc at *
  go_enter Tryd.func60, Tryd.ntmps60
  go_wp2_with fail
  go_ret
  exact ⟨ret_int HE.out.symm, HG.out⟩
set_option maxRecDepth 100000 in
set_option maxHeartbeats 1000000 in
theorem key1_any (r : Rw) (W : World) (h : RN r) : Calls Tryd.prog 61 #[.agg (rwc r)] W (KeyPost (keyR 1 r) W) := by
  have HE : Hid (keyR 1 r = r.among) := Lib.hid rfl
  have HG := Lib.hid ((Gr.refl W).alloc (.cells (rwc r) 66))
  obtain ⟨⟨h1, h2⟩, ⟨h3, h4⟩, ⟨h5, h6⟩⟩ := h
  unfold rwc at *
  go_enter Tryd.func61, Tryd.ntmps61
  go_wp2_with fail
  go_ret
  exact ⟨ret_int HE.out.symm, HG.out⟩
set_option maxRecDepth 100000 in
set_option maxHeartbeats 1000000 in
theorem key2_any (r : Rw) (W : World) (h : RN r) : Calls Tryd.prog 62 #[.agg (rwc r)] W (KeyPost (keyR 2 r) W) := by
  have HE : Hid (keyR 2 r = r.gf - r.ga) := Lib.hid rfl
  have HG := Lib.hid ((Gr.refl W).alloc (.cells (rwc r) 66))
  obtain ⟨⟨h1, h2⟩, ⟨h3, h4⟩, ⟨h5, h6⟩⟩ := h
  unfold rwc at *
  go_enter Tryd.func62, Tryd.ntmps62
  go_wp2_with fail
  go_ret
  exact ⟨ret_int HE.out.symm, HG.out⟩
set_option maxRecDepth 100000 in
set_option maxHeartbeats 1000000 in
theorem key3_any (r : Rw) (W : World) (h : RN r) : Calls Tryd.prog 63 #[.agg (rwc r)] W (KeyPost (keyR 3 r) W) := by
  have HE : Hid (keyR 3 r = r.gf) := Lib.hid rfl
  have HG := Lib.hid ((Gr.refl W).alloc (.cells (rwc r) 66))
  obtain ⟨⟨h1, h2⟩, ⟨h3, h4⟩, ⟨h5, h6⟩⟩ := h
  unfold rwc at *
  go_enter Tryd.func63, Tryd.ntmps63
  go_wp2_with fail
  go_ret
  exact ⟨ret_int HE.out.symm, HG.out⟩
set_option maxRecDepth 100000 in
set_option maxHeartbeats 1000000 in
theorem key4_any (r : Rw) (W : World) (h : RN r) : Calls Tryd.prog 64 #[.agg (rwc r)] W (KeyPost (keyR 4 r) W) := by
  have HE : Hid (keyR 4 r = -r.team) := Lib.hid rfl
  have HG := Lib.hid ((Gr.refl W).alloc (.cells (rwc r) 66))
  obtain ⟨⟨h1, h2⟩, ⟨h3, h4⟩, ⟨h5, h6⟩⟩ := h
  unfold rwc at *
  go_enter Tryd.func64, Tryd.ntmps64
  go_wp2_with fail
  go_ret
  exact ⟨ret_int HE.out.symm, HG.out⟩
/-- more, at work -/
structure MrI (W w : World) (x y : Rw) (B g : Nat) : Prop where
  gr : Gr W w
  fx : Has w W.heap.size 66 (rwc x)
  fy : Has w (W.heap.size + 1) 66 (rwc y)
  fb : Has w B 96 #[.func (.func g) #[] #[]]
theorem MrI.next {W w w' : World} {x y : Rw} {B g : Nat} (h : MrI W w x y B g) (k : Gr w w') : MrI W w' x y B g :=
  ⟨h.gr.trans k, h.fx.below k.below h.fx.lt, h.fy.below k.below h.fy.lt, h.fb.below k.below h.fb.lt⟩
theorem MrI.start {W : World} (x y : Rw) {B g : Nat} (h : Has W B 96 #[.func (.func g) #[] #[]]) : MrI W ((W.alloc (.cells (rwc x) 66)).alloc (.cells (rwc y) 66)) x y B g :=
  ⟨((Gr.refl W).alloc _).alloc _, (Has.new _ _ _).alloc _, has_newAt (by simp), (h.alloc _).alloc _⟩
def Less5 (k : Nat) (x y : Rw) (P : Value) (W : World) : Prop := Calls Tryd.prog 77 #[.agg (rwc x), .agg (rwc y), P] W (KeyPost (cmpK k x y) W)
set_option maxRecDepth 100000 in
set_option maxHeartbeats 2000000 in
theorem less0_any (x y : Rw) (B : Nat) (W : World) (hx : RN x) (hy : RN y) (hb : Has W B 96 #[.func (.func 60) #[] #[]]) : Less5 0 x y (.pointer (some ⟨B, 0, none⟩)) W := by
  unfold Less5
  have HB := Lib.hid (MrI.start x y hb)
  have HE : Hid (cmpK 0 x y = compareInt (keyR 0 y) (keyR 0 x)) := Lib.hid rfl
  obtain ⟨a, ha⟩ : ∃ a, a = keyR 0 x := ⟨_, rfl⟩
  obtain ⟨b, hb'⟩ : ∃ b, b = keyR 0 y := ⟨_, rfl⟩
  have hcx : ∀ w, MrI W w x y B 60 → Calls Tryd.prog 60 #[.agg (rwc x)] w fun e w' => e = .returned (.int .i64 a) ∧ MrI W w' x y B 60 := fun w h => (key0_any x w hx).mono fun e w' ⟨he, hb⟩ => ⟨by rw [he, ha], h.next hb⟩
  have hcy : ∀ w, MrI W w x y B 60 → Calls Tryd.prog 60 #[.agg (rwc y)] w fun e w' => e = .returned (.int .i64 b) ∧ MrI W w' x y B 60 := fun w h => (key0_any y w hy).mono fun e w' ⟨he, hb⟩ => ⟨by rw [he, hb'], h.next hb⟩
  have hcc : ∀ w, MrI W w x y B 60 → Calls Tryd.prog 78 #[.int .i64 b, .int .i64 a] w fun e w' => e = .returned (.int .i64 (compareInt b a)) ∧ MrI W w' x y B 60 := fun w h => (Tryd.cmp_Compare_int b a w).mono fun e w' ⟨he, hw⟩ => ⟨he, by rw [hw]; exact h⟩
  rw [← ha, ← hb'] at HE
  generalize compareInt b a = c at hcc HE
  clear ha hb' hb hx hy
  unfold rwc at *
  go_enter Tryd.func77, Tryd.ntmps77
  go_upto_region 1 with fail
  generalize (W.alloc (.cells #[.int .i64 x.team, .int .i64 x.games, .int .i64 x.pts, .int .i64 x.gf, .int .i64 x.ga, .int .i64 x.among] 66)).alloc (.cells #[.int .i64 y.team, .int .i64 y.games, .int .i64 y.pts, .int .i64 y.gf, .int .i64 y.ga, .int .i64 y.among] 66) = w9 at HB ⊢
  have hmix : Tryd.prog.follows .mixedOrders = true := by kernel_rfl
  have hx0 : ∀ pc : Cls (fun w' => MrI W w' x y B 60), pc.w.cell? ⟨W.heap.size, 0, none⟩ = some (.int .i64 x.team) := fun pc => pc.h.fx.cell 0
  have hy0 : ∀ pc : Cls (fun w' => MrI W w' x y B 60), pc.w.cell? ⟨W.heap.size + 1, 0, none⟩ = some (.int .i64 y.team) := fun pc => pc.h.fy.cell 0
  have hx1 : ∀ pc : Cls (fun w' => MrI W w' x y B 60), pc.w.cell? ⟨W.heap.size, 1, none⟩ = some (.int .i64 x.games) := fun pc => pc.h.fx.cell 1
  have hy1 : ∀ pc : Cls (fun w' => MrI W w' x y B 60), pc.w.cell? ⟨W.heap.size + 1, 1, none⟩ = some (.int .i64 y.games) := fun pc => pc.h.fy.cell 1
  have hx2 : ∀ pc : Cls (fun w' => MrI W w' x y B 60), pc.w.cell? ⟨W.heap.size, 2, none⟩ = some (.int .i64 x.pts) := fun pc => pc.h.fx.cell 2
  have hy2 : ∀ pc : Cls (fun w' => MrI W w' x y B 60), pc.w.cell? ⟨W.heap.size + 1, 2, none⟩ = some (.int .i64 y.pts) := fun pc => pc.h.fy.cell 2
  have hx3 : ∀ pc : Cls (fun w' => MrI W w' x y B 60), pc.w.cell? ⟨W.heap.size, 3, none⟩ = some (.int .i64 x.gf) := fun pc => pc.h.fx.cell 3
  have hy3 : ∀ pc : Cls (fun w' => MrI W w' x y B 60), pc.w.cell? ⟨W.heap.size + 1, 3, none⟩ = some (.int .i64 y.gf) := fun pc => pc.h.fy.cell 3
  have hx4 : ∀ pc : Cls (fun w' => MrI W w' x y B 60), pc.w.cell? ⟨W.heap.size, 4, none⟩ = some (.int .i64 x.ga) := fun pc => pc.h.fx.cell 4
  have hy4 : ∀ pc : Cls (fun w' => MrI W w' x y B 60), pc.w.cell? ⟨W.heap.size + 1, 4, none⟩ = some (.int .i64 y.ga) := fun pc => pc.h.fy.cell 4
  have hx5 : ∀ pc : Cls (fun w' => MrI W w' x y B 60), pc.w.cell? ⟨W.heap.size, 5, none⟩ = some (.int .i64 x.among) := fun pc => pc.h.fx.cell 5
  have hy5 : ∀ pc : Cls (fun w' => MrI W w' x y B 60), pc.w.cell? ⟨W.heap.size + 1, 5, none⟩ = some (.int .i64 y.among) := fun pc => pc.h.fy.cell 5
  have hf0 : ∀ pc : Cls (fun w' => MrI W w' x y B 60), pc.w.cell? ⟨B, 0, none⟩ = some (.func (.func 60) #[] #[]) := fun pc => pc.h.fb.cell 0
  refine wp_region_cls (fun w' => MrI W w' x y B 60) hmix (by kernel_rfl) (HB.out.next (Gr.refl _).drew) ?_
  repeat (quiet_step (first | exact rfl | with_reducible exact cls_call hcx _ | with_reducible exact cls_call hcy _ | with_reducible exact cls_call hcc _))
  refine wpQuiet_nil ?_
  rintro w7 ⟨⟨_, hw7⟩, rfl⟩
  have H7 := Lib.hid hw7
  clear hw7 HB hcx hcy hcc hx0 hx1 hx2 hx3 hx4 hx5 hy0 hy1 hy2 hy3 hy4 hy5 hf0
  go_wp2_with fail
  go_ret
  exact ⟨ret_int HE.out.symm, H7.out.gr⟩
set_option maxRecDepth 100000 in
set_option maxHeartbeats 2000000 in
theorem less1_any (x y : Rw) (B : Nat) (W : World) (hx : RN x) (hy : RN y) (hb : Has W B 96 #[.func (.func 61) #[] #[]]) : Less5 1 x y (.pointer (some ⟨B, 0, none⟩)) W := by
  unfold Less5
  have HB := Lib.hid (MrI.start x y hb)
  have HE : Hid (cmpK 1 x y = compareInt (keyR 1 y) (keyR 1 x)) := Lib.hid rfl
  obtain ⟨a, ha⟩ : ∃ a, a = keyR 1 x := ⟨_, rfl⟩
  obtain ⟨b, hb'⟩ : ∃ b, b = keyR 1 y := ⟨_, rfl⟩
  have hcx : ∀ w, MrI W w x y B 61 → Calls Tryd.prog 61 #[.agg (rwc x)] w fun e w' => e = .returned (.int .i64 a) ∧ MrI W w' x y B 61 := fun w h => (key1_any x w hx).mono fun e w' ⟨he, hb⟩ => ⟨by rw [he, ha], h.next hb⟩
  have hcy : ∀ w, MrI W w x y B 61 → Calls Tryd.prog 61 #[.agg (rwc y)] w fun e w' => e = .returned (.int .i64 b) ∧ MrI W w' x y B 61 := fun w h => (key1_any y w hy).mono fun e w' ⟨he, hb⟩ => ⟨by rw [he, hb'], h.next hb⟩
  have hcc : ∀ w, MrI W w x y B 61 → Calls Tryd.prog 78 #[.int .i64 b, .int .i64 a] w fun e w' => e = .returned (.int .i64 (compareInt b a)) ∧ MrI W w' x y B 61 := fun w h => (Tryd.cmp_Compare_int b a w).mono fun e w' ⟨he, hw⟩ => ⟨he, by rw [hw]; exact h⟩
  rw [← ha, ← hb'] at HE
  generalize compareInt b a = c at hcc HE
  clear ha hb' hb hx hy
  unfold rwc at *
  go_enter Tryd.func77, Tryd.ntmps77
  go_upto_region 1 with fail
  generalize (W.alloc (.cells #[.int .i64 x.team, .int .i64 x.games, .int .i64 x.pts, .int .i64 x.gf, .int .i64 x.ga, .int .i64 x.among] 66)).alloc (.cells #[.int .i64 y.team, .int .i64 y.games, .int .i64 y.pts, .int .i64 y.gf, .int .i64 y.ga, .int .i64 y.among] 66) = w9 at HB ⊢
  have hmix : Tryd.prog.follows .mixedOrders = true := by kernel_rfl
  have hx0 : ∀ pc : Cls (fun w' => MrI W w' x y B 61), pc.w.cell? ⟨W.heap.size, 0, none⟩ = some (.int .i64 x.team) := fun pc => pc.h.fx.cell 0
  have hy0 : ∀ pc : Cls (fun w' => MrI W w' x y B 61), pc.w.cell? ⟨W.heap.size + 1, 0, none⟩ = some (.int .i64 y.team) := fun pc => pc.h.fy.cell 0
  have hx1 : ∀ pc : Cls (fun w' => MrI W w' x y B 61), pc.w.cell? ⟨W.heap.size, 1, none⟩ = some (.int .i64 x.games) := fun pc => pc.h.fx.cell 1
  have hy1 : ∀ pc : Cls (fun w' => MrI W w' x y B 61), pc.w.cell? ⟨W.heap.size + 1, 1, none⟩ = some (.int .i64 y.games) := fun pc => pc.h.fy.cell 1
  have hx2 : ∀ pc : Cls (fun w' => MrI W w' x y B 61), pc.w.cell? ⟨W.heap.size, 2, none⟩ = some (.int .i64 x.pts) := fun pc => pc.h.fx.cell 2
  have hy2 : ∀ pc : Cls (fun w' => MrI W w' x y B 61), pc.w.cell? ⟨W.heap.size + 1, 2, none⟩ = some (.int .i64 y.pts) := fun pc => pc.h.fy.cell 2
  have hx3 : ∀ pc : Cls (fun w' => MrI W w' x y B 61), pc.w.cell? ⟨W.heap.size, 3, none⟩ = some (.int .i64 x.gf) := fun pc => pc.h.fx.cell 3
  have hy3 : ∀ pc : Cls (fun w' => MrI W w' x y B 61), pc.w.cell? ⟨W.heap.size + 1, 3, none⟩ = some (.int .i64 y.gf) := fun pc => pc.h.fy.cell 3
  have hx4 : ∀ pc : Cls (fun w' => MrI W w' x y B 61), pc.w.cell? ⟨W.heap.size, 4, none⟩ = some (.int .i64 x.ga) := fun pc => pc.h.fx.cell 4
  have hy4 : ∀ pc : Cls (fun w' => MrI W w' x y B 61), pc.w.cell? ⟨W.heap.size + 1, 4, none⟩ = some (.int .i64 y.ga) := fun pc => pc.h.fy.cell 4
  have hx5 : ∀ pc : Cls (fun w' => MrI W w' x y B 61), pc.w.cell? ⟨W.heap.size, 5, none⟩ = some (.int .i64 x.among) := fun pc => pc.h.fx.cell 5
  have hy5 : ∀ pc : Cls (fun w' => MrI W w' x y B 61), pc.w.cell? ⟨W.heap.size + 1, 5, none⟩ = some (.int .i64 y.among) := fun pc => pc.h.fy.cell 5
  have hf0 : ∀ pc : Cls (fun w' => MrI W w' x y B 61), pc.w.cell? ⟨B, 0, none⟩ = some (.func (.func 61) #[] #[]) := fun pc => pc.h.fb.cell 0
  refine wp_region_cls (fun w' => MrI W w' x y B 61) hmix (by kernel_rfl) (HB.out.next (Gr.refl _).drew) ?_
  repeat (quiet_step (first | exact rfl | with_reducible exact cls_call hcx _ | with_reducible exact cls_call hcy _ | with_reducible exact cls_call hcc _))
  refine wpQuiet_nil ?_
  rintro w7 ⟨⟨_, hw7⟩, rfl⟩
  have H7 := Lib.hid hw7
  clear hw7 HB hcx hcy hcc hx0 hx1 hx2 hx3 hx4 hx5 hy0 hy1 hy2 hy3 hy4 hy5 hf0
  go_wp2_with fail
  go_ret
  exact ⟨ret_int HE.out.symm, H7.out.gr⟩
set_option maxRecDepth 100000 in
set_option maxHeartbeats 2000000 in
theorem less2_any (x y : Rw) (B : Nat) (W : World) (hx : RN x) (hy : RN y) (hb : Has W B 96 #[.func (.func 62) #[] #[]]) : Less5 2 x y (.pointer (some ⟨B, 0, none⟩)) W := by
  unfold Less5
  have HB := Lib.hid (MrI.start x y hb)
  have HE : Hid (cmpK 2 x y = compareInt (keyR 2 y) (keyR 2 x)) := Lib.hid rfl
  obtain ⟨a, ha⟩ : ∃ a, a = keyR 2 x := ⟨_, rfl⟩
  obtain ⟨b, hb'⟩ : ∃ b, b = keyR 2 y := ⟨_, rfl⟩
  have hcx : ∀ w, MrI W w x y B 62 → Calls Tryd.prog 62 #[.agg (rwc x)] w fun e w' => e = .returned (.int .i64 a) ∧ MrI W w' x y B 62 := fun w h => (key2_any x w hx).mono fun e w' ⟨he, hb⟩ => ⟨by rw [he, ha], h.next hb⟩
  have hcy : ∀ w, MrI W w x y B 62 → Calls Tryd.prog 62 #[.agg (rwc y)] w fun e w' => e = .returned (.int .i64 b) ∧ MrI W w' x y B 62 := fun w h => (key2_any y w hy).mono fun e w' ⟨he, hb⟩ => ⟨by rw [he, hb'], h.next hb⟩
  have hcc : ∀ w, MrI W w x y B 62 → Calls Tryd.prog 78 #[.int .i64 b, .int .i64 a] w fun e w' => e = .returned (.int .i64 (compareInt b a)) ∧ MrI W w' x y B 62 := fun w h => (Tryd.cmp_Compare_int b a w).mono fun e w' ⟨he, hw⟩ => ⟨he, by rw [hw]; exact h⟩
  rw [← ha, ← hb'] at HE
  generalize compareInt b a = c at hcc HE
  clear ha hb' hb hx hy
  unfold rwc at *
  go_enter Tryd.func77, Tryd.ntmps77
  go_upto_region 1 with fail
  generalize (W.alloc (.cells #[.int .i64 x.team, .int .i64 x.games, .int .i64 x.pts, .int .i64 x.gf, .int .i64 x.ga, .int .i64 x.among] 66)).alloc (.cells #[.int .i64 y.team, .int .i64 y.games, .int .i64 y.pts, .int .i64 y.gf, .int .i64 y.ga, .int .i64 y.among] 66) = w9 at HB ⊢
  have hmix : Tryd.prog.follows .mixedOrders = true := by kernel_rfl
  have hx0 : ∀ pc : Cls (fun w' => MrI W w' x y B 62), pc.w.cell? ⟨W.heap.size, 0, none⟩ = some (.int .i64 x.team) := fun pc => pc.h.fx.cell 0
  have hy0 : ∀ pc : Cls (fun w' => MrI W w' x y B 62), pc.w.cell? ⟨W.heap.size + 1, 0, none⟩ = some (.int .i64 y.team) := fun pc => pc.h.fy.cell 0
  have hx1 : ∀ pc : Cls (fun w' => MrI W w' x y B 62), pc.w.cell? ⟨W.heap.size, 1, none⟩ = some (.int .i64 x.games) := fun pc => pc.h.fx.cell 1
  have hy1 : ∀ pc : Cls (fun w' => MrI W w' x y B 62), pc.w.cell? ⟨W.heap.size + 1, 1, none⟩ = some (.int .i64 y.games) := fun pc => pc.h.fy.cell 1
  have hx2 : ∀ pc : Cls (fun w' => MrI W w' x y B 62), pc.w.cell? ⟨W.heap.size, 2, none⟩ = some (.int .i64 x.pts) := fun pc => pc.h.fx.cell 2
  have hy2 : ∀ pc : Cls (fun w' => MrI W w' x y B 62), pc.w.cell? ⟨W.heap.size + 1, 2, none⟩ = some (.int .i64 y.pts) := fun pc => pc.h.fy.cell 2
  have hx3 : ∀ pc : Cls (fun w' => MrI W w' x y B 62), pc.w.cell? ⟨W.heap.size, 3, none⟩ = some (.int .i64 x.gf) := fun pc => pc.h.fx.cell 3
  have hy3 : ∀ pc : Cls (fun w' => MrI W w' x y B 62), pc.w.cell? ⟨W.heap.size + 1, 3, none⟩ = some (.int .i64 y.gf) := fun pc => pc.h.fy.cell 3
  have hx4 : ∀ pc : Cls (fun w' => MrI W w' x y B 62), pc.w.cell? ⟨W.heap.size, 4, none⟩ = some (.int .i64 x.ga) := fun pc => pc.h.fx.cell 4
  have hy4 : ∀ pc : Cls (fun w' => MrI W w' x y B 62), pc.w.cell? ⟨W.heap.size + 1, 4, none⟩ = some (.int .i64 y.ga) := fun pc => pc.h.fy.cell 4
  have hx5 : ∀ pc : Cls (fun w' => MrI W w' x y B 62), pc.w.cell? ⟨W.heap.size, 5, none⟩ = some (.int .i64 x.among) := fun pc => pc.h.fx.cell 5
  have hy5 : ∀ pc : Cls (fun w' => MrI W w' x y B 62), pc.w.cell? ⟨W.heap.size + 1, 5, none⟩ = some (.int .i64 y.among) := fun pc => pc.h.fy.cell 5
  have hf0 : ∀ pc : Cls (fun w' => MrI W w' x y B 62), pc.w.cell? ⟨B, 0, none⟩ = some (.func (.func 62) #[] #[]) := fun pc => pc.h.fb.cell 0
  refine wp_region_cls (fun w' => MrI W w' x y B 62) hmix (by kernel_rfl) (HB.out.next (Gr.refl _).drew) ?_
  repeat (quiet_step (first | exact rfl | with_reducible exact cls_call hcx _ | with_reducible exact cls_call hcy _ | with_reducible exact cls_call hcc _))
  refine wpQuiet_nil ?_
  rintro w7 ⟨⟨_, hw7⟩, rfl⟩
  have H7 := Lib.hid hw7
  clear hw7 HB hcx hcy hcc hx0 hx1 hx2 hx3 hx4 hx5 hy0 hy1 hy2 hy3 hy4 hy5 hf0
  go_wp2_with fail
  go_ret
  exact ⟨ret_int HE.out.symm, H7.out.gr⟩
set_option maxRecDepth 100000 in
set_option maxHeartbeats 2000000 in
theorem less3_any (x y : Rw) (B : Nat) (W : World) (hx : RN x) (hy : RN y) (hb : Has W B 96 #[.func (.func 63) #[] #[]]) : Less5 3 x y (.pointer (some ⟨B, 0, none⟩)) W := by
  unfold Less5
  have HB := Lib.hid (MrI.start x y hb)
  have HE : Hid (cmpK 3 x y = compareInt (keyR 3 y) (keyR 3 x)) := Lib.hid rfl
  obtain ⟨a, ha⟩ : ∃ a, a = keyR 3 x := ⟨_, rfl⟩
  obtain ⟨b, hb'⟩ : ∃ b, b = keyR 3 y := ⟨_, rfl⟩
  have hcx : ∀ w, MrI W w x y B 63 → Calls Tryd.prog 63 #[.agg (rwc x)] w fun e w' => e = .returned (.int .i64 a) ∧ MrI W w' x y B 63 := fun w h => (key3_any x w hx).mono fun e w' ⟨he, hb⟩ => ⟨by rw [he, ha], h.next hb⟩
  have hcy : ∀ w, MrI W w x y B 63 → Calls Tryd.prog 63 #[.agg (rwc y)] w fun e w' => e = .returned (.int .i64 b) ∧ MrI W w' x y B 63 := fun w h => (key3_any y w hy).mono fun e w' ⟨he, hb⟩ => ⟨by rw [he, hb'], h.next hb⟩
  have hcc : ∀ w, MrI W w x y B 63 → Calls Tryd.prog 78 #[.int .i64 b, .int .i64 a] w fun e w' => e = .returned (.int .i64 (compareInt b a)) ∧ MrI W w' x y B 63 := fun w h => (Tryd.cmp_Compare_int b a w).mono fun e w' ⟨he, hw⟩ => ⟨he, by rw [hw]; exact h⟩
  rw [← ha, ← hb'] at HE
  generalize compareInt b a = c at hcc HE
  clear ha hb' hb hx hy
  unfold rwc at *
  go_enter Tryd.func77, Tryd.ntmps77
  go_upto_region 1 with fail
  generalize (W.alloc (.cells #[.int .i64 x.team, .int .i64 x.games, .int .i64 x.pts, .int .i64 x.gf, .int .i64 x.ga, .int .i64 x.among] 66)).alloc (.cells #[.int .i64 y.team, .int .i64 y.games, .int .i64 y.pts, .int .i64 y.gf, .int .i64 y.ga, .int .i64 y.among] 66) = w9 at HB ⊢
  have hmix : Tryd.prog.follows .mixedOrders = true := by kernel_rfl
  have hx0 : ∀ pc : Cls (fun w' => MrI W w' x y B 63), pc.w.cell? ⟨W.heap.size, 0, none⟩ = some (.int .i64 x.team) := fun pc => pc.h.fx.cell 0
  have hy0 : ∀ pc : Cls (fun w' => MrI W w' x y B 63), pc.w.cell? ⟨W.heap.size + 1, 0, none⟩ = some (.int .i64 y.team) := fun pc => pc.h.fy.cell 0
  have hx1 : ∀ pc : Cls (fun w' => MrI W w' x y B 63), pc.w.cell? ⟨W.heap.size, 1, none⟩ = some (.int .i64 x.games) := fun pc => pc.h.fx.cell 1
  have hy1 : ∀ pc : Cls (fun w' => MrI W w' x y B 63), pc.w.cell? ⟨W.heap.size + 1, 1, none⟩ = some (.int .i64 y.games) := fun pc => pc.h.fy.cell 1
  have hx2 : ∀ pc : Cls (fun w' => MrI W w' x y B 63), pc.w.cell? ⟨W.heap.size, 2, none⟩ = some (.int .i64 x.pts) := fun pc => pc.h.fx.cell 2
  have hy2 : ∀ pc : Cls (fun w' => MrI W w' x y B 63), pc.w.cell? ⟨W.heap.size + 1, 2, none⟩ = some (.int .i64 y.pts) := fun pc => pc.h.fy.cell 2
  have hx3 : ∀ pc : Cls (fun w' => MrI W w' x y B 63), pc.w.cell? ⟨W.heap.size, 3, none⟩ = some (.int .i64 x.gf) := fun pc => pc.h.fx.cell 3
  have hy3 : ∀ pc : Cls (fun w' => MrI W w' x y B 63), pc.w.cell? ⟨W.heap.size + 1, 3, none⟩ = some (.int .i64 y.gf) := fun pc => pc.h.fy.cell 3
  have hx4 : ∀ pc : Cls (fun w' => MrI W w' x y B 63), pc.w.cell? ⟨W.heap.size, 4, none⟩ = some (.int .i64 x.ga) := fun pc => pc.h.fx.cell 4
  have hy4 : ∀ pc : Cls (fun w' => MrI W w' x y B 63), pc.w.cell? ⟨W.heap.size + 1, 4, none⟩ = some (.int .i64 y.ga) := fun pc => pc.h.fy.cell 4
  have hx5 : ∀ pc : Cls (fun w' => MrI W w' x y B 63), pc.w.cell? ⟨W.heap.size, 5, none⟩ = some (.int .i64 x.among) := fun pc => pc.h.fx.cell 5
  have hy5 : ∀ pc : Cls (fun w' => MrI W w' x y B 63), pc.w.cell? ⟨W.heap.size + 1, 5, none⟩ = some (.int .i64 y.among) := fun pc => pc.h.fy.cell 5
  have hf0 : ∀ pc : Cls (fun w' => MrI W w' x y B 63), pc.w.cell? ⟨B, 0, none⟩ = some (.func (.func 63) #[] #[]) := fun pc => pc.h.fb.cell 0
  refine wp_region_cls (fun w' => MrI W w' x y B 63) hmix (by kernel_rfl) (HB.out.next (Gr.refl _).drew) ?_
  repeat (quiet_step (first | exact rfl | with_reducible exact cls_call hcx _ | with_reducible exact cls_call hcy _ | with_reducible exact cls_call hcc _))
  refine wpQuiet_nil ?_
  rintro w7 ⟨⟨_, hw7⟩, rfl⟩
  have H7 := Lib.hid hw7
  clear hw7 HB hcx hcy hcc hx0 hx1 hx2 hx3 hx4 hx5 hy0 hy1 hy2 hy3 hy4 hy5 hf0
  go_wp2_with fail
  go_ret
  exact ⟨ret_int HE.out.symm, H7.out.gr⟩
set_option maxRecDepth 100000 in
set_option maxHeartbeats 2000000 in
theorem less4_any (x y : Rw) (B : Nat) (W : World) (hx : RN x) (hy : RN y) (hb : Has W B 96 #[.func (.func 64) #[] #[]]) : Less5 4 x y (.pointer (some ⟨B, 0, none⟩)) W := by
  unfold Less5
  have HB := Lib.hid (MrI.start x y hb)
  have HE : Hid (cmpK 4 x y = compareInt (keyR 4 y) (keyR 4 x)) := Lib.hid rfl
  obtain ⟨a, ha⟩ : ∃ a, a = keyR 4 x := ⟨_, rfl⟩
  obtain ⟨b, hb'⟩ : ∃ b, b = keyR 4 y := ⟨_, rfl⟩
  have hcx : ∀ w, MrI W w x y B 64 → Calls Tryd.prog 64 #[.agg (rwc x)] w fun e w' => e = .returned (.int .i64 a) ∧ MrI W w' x y B 64 := fun w h => (key4_any x w hx).mono fun e w' ⟨he, hb⟩ => ⟨by rw [he, ha], h.next hb⟩
  have hcy : ∀ w, MrI W w x y B 64 → Calls Tryd.prog 64 #[.agg (rwc y)] w fun e w' => e = .returned (.int .i64 b) ∧ MrI W w' x y B 64 := fun w h => (key4_any y w hy).mono fun e w' ⟨he, hb⟩ => ⟨by rw [he, hb'], h.next hb⟩
  have hcc : ∀ w, MrI W w x y B 64 → Calls Tryd.prog 78 #[.int .i64 b, .int .i64 a] w fun e w' => e = .returned (.int .i64 (compareInt b a)) ∧ MrI W w' x y B 64 := fun w h => (Tryd.cmp_Compare_int b a w).mono fun e w' ⟨he, hw⟩ => ⟨he, by rw [hw]; exact h⟩
  rw [← ha, ← hb'] at HE
  generalize compareInt b a = c at hcc HE
  clear ha hb' hb hx hy
  unfold rwc at *
  go_enter Tryd.func77, Tryd.ntmps77
  go_upto_region 1 with fail
  generalize (W.alloc (.cells #[.int .i64 x.team, .int .i64 x.games, .int .i64 x.pts, .int .i64 x.gf, .int .i64 x.ga, .int .i64 x.among] 66)).alloc (.cells #[.int .i64 y.team, .int .i64 y.games, .int .i64 y.pts, .int .i64 y.gf, .int .i64 y.ga, .int .i64 y.among] 66) = w9 at HB ⊢
  have hmix : Tryd.prog.follows .mixedOrders = true := by kernel_rfl
  have hx0 : ∀ pc : Cls (fun w' => MrI W w' x y B 64), pc.w.cell? ⟨W.heap.size, 0, none⟩ = some (.int .i64 x.team) := fun pc => pc.h.fx.cell 0
  have hy0 : ∀ pc : Cls (fun w' => MrI W w' x y B 64), pc.w.cell? ⟨W.heap.size + 1, 0, none⟩ = some (.int .i64 y.team) := fun pc => pc.h.fy.cell 0
  have hx1 : ∀ pc : Cls (fun w' => MrI W w' x y B 64), pc.w.cell? ⟨W.heap.size, 1, none⟩ = some (.int .i64 x.games) := fun pc => pc.h.fx.cell 1
  have hy1 : ∀ pc : Cls (fun w' => MrI W w' x y B 64), pc.w.cell? ⟨W.heap.size + 1, 1, none⟩ = some (.int .i64 y.games) := fun pc => pc.h.fy.cell 1
  have hx2 : ∀ pc : Cls (fun w' => MrI W w' x y B 64), pc.w.cell? ⟨W.heap.size, 2, none⟩ = some (.int .i64 x.pts) := fun pc => pc.h.fx.cell 2
  have hy2 : ∀ pc : Cls (fun w' => MrI W w' x y B 64), pc.w.cell? ⟨W.heap.size + 1, 2, none⟩ = some (.int .i64 y.pts) := fun pc => pc.h.fy.cell 2
  have hx3 : ∀ pc : Cls (fun w' => MrI W w' x y B 64), pc.w.cell? ⟨W.heap.size, 3, none⟩ = some (.int .i64 x.gf) := fun pc => pc.h.fx.cell 3
  have hy3 : ∀ pc : Cls (fun w' => MrI W w' x y B 64), pc.w.cell? ⟨W.heap.size + 1, 3, none⟩ = some (.int .i64 y.gf) := fun pc => pc.h.fy.cell 3
  have hx4 : ∀ pc : Cls (fun w' => MrI W w' x y B 64), pc.w.cell? ⟨W.heap.size, 4, none⟩ = some (.int .i64 x.ga) := fun pc => pc.h.fx.cell 4
  have hy4 : ∀ pc : Cls (fun w' => MrI W w' x y B 64), pc.w.cell? ⟨W.heap.size + 1, 4, none⟩ = some (.int .i64 y.ga) := fun pc => pc.h.fy.cell 4
  have hx5 : ∀ pc : Cls (fun w' => MrI W w' x y B 64), pc.w.cell? ⟨W.heap.size, 5, none⟩ = some (.int .i64 x.among) := fun pc => pc.h.fx.cell 5
  have hy5 : ∀ pc : Cls (fun w' => MrI W w' x y B 64), pc.w.cell? ⟨W.heap.size + 1, 5, none⟩ = some (.int .i64 y.among) := fun pc => pc.h.fy.cell 5
  have hf0 : ∀ pc : Cls (fun w' => MrI W w' x y B 64), pc.w.cell? ⟨B, 0, none⟩ = some (.func (.func 64) #[] #[]) := fun pc => pc.h.fb.cell 0
  refine wp_region_cls (fun w' => MrI W w' x y B 64) hmix (by kernel_rfl) (HB.out.next (Gr.refl _).drew) ?_
  repeat (quiet_step (first | exact rfl | with_reducible exact cls_call hcx _ | with_reducible exact cls_call hcy _ | with_reducible exact cls_call hcc _))
  refine wpQuiet_nil ?_
  rintro w7 ⟨⟨_, hw7⟩, rfl⟩
  have H7 := Lib.hid hw7
  clear hw7 HB hcx hcy hcc hx0 hx1 hx2 hx3 hx4 hx5 hy0 hy1 hy2 hy3 hy4 hy5 hf0
  go_wp2_with fail
  go_ret
  exact ⟨ret_int HE.out.symm, H7.out.gr⟩
end Go.Proofs.YtljkgjfmambfoaaDoor
