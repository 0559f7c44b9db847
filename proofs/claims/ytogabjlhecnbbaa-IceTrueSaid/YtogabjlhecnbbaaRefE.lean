/- Words for the contract of the document's play. -/
import Derived.Test.YtogabjlhecnbbaaRefD
import Derived.Test.YtogabjlhecnbbaaIceThin
namespace Go.Proofs.Ytogabjlhecnbbaa
open Go.RowKit Go.Shelf

/-- the sums, added -/
def Sm.add (s t : Sm) : Sm := ⟨s.f1 + t.f1, s.f2 + t.f2, s.p1 + t.p1, s.p2 + t.p2, s.w1 + t.w1, s.w2 + t.w2⟩
theorem zDo_add (e : Ev) (z : Zn) (s : Sm) : zDo e z s = ((zDo e z Sm.zero).1, s.add (zDo e z Sm.zero).2) := by
  unfold zDo Sm.add Sm.fro Sm.pla Sm.wor
  split
  · simp
  · split
    · simp
    · split
      · simp
      · split
        · simp
        · simp
abbrev smc (s : Sm) : Array Value := #[iv s.f1, iv s.f2, iv s.p1, iv s.p2, iv s.w1, iv s.w2]

theorem app_get (cs tl : Array Value) {i : Nat} (h : i < cs.size) : (cs ++ tl)[i]? = cs[i]? := Array.getElem?_append_left h
theorem app_set (cs tl : Array Value) {i : Nat} (h : i < cs.size) (v : Value) : (cs ++ tl).setIfInBounds i v = cs.setIfInBounds i v ++ tl := by
  apply Array.ext_getElem?
  intro m
  simp only [Array.getElem?_setIfInBounds, Array.getElem?_append, Array.size_append, Array.size_setIfInBounds]
  by_cases e : i = m
  · subst e
    rw [if_pos rfl, if_pos (by omega), if_pos h, if_pos rfl, if_pos h]
  · rw [if_neg e, if_neg e]
theorem app_zone {zs : List Zn} (tl : Array Value) {i : Nat} (h : i < zs.length) : (flat zs ++ tl)[i * 4]? = some (iv zs[i].a) ∧ (flat zs ++ tl)[i * 4 + 1]? = some (iv zs[i].b) ∧ (flat zs ++ tl)[i * 4 + 2]? = some (iv zs[i].c) ∧ (flat zs ++ tl)[i * 4 + 3]? = some (iv zs[i].d) := by
  have hs := flat_size zs
  obtain ⟨h0, h1, h2, h3⟩ := flat_at h
  exact ⟨(app_get _ _ (by omega)).trans h0, (app_get _ _ (by omega)).trans h1, (app_get _ _ (by omega)).trans h2, (app_get _ _ (by omega)).trans h3⟩
theorem app_flat (zs : List Zn) (tl : Array Value) (i : Nat) (z : Zn) (h : i < zs.length) : flat (zs.set i z) ++ tl = ((((flat zs ++ tl).setIfInBounds (i * 4) (iv z.a)).setIfInBounds (i * 4 + 1) (iv z.b)).setIfInBounds (i * 4 + 2) (iv z.c)).setIfInBounds (i * 4 + 3) (iv z.d) := by
  have hs := flat_size zs
  rw [flat_set zs i z h, app_set _ _ (by omega), app_set _ _ (by simp; omega), app_set _ _ (by simp; omega), app_set _ _ (by simp; omega)]

/-- what the document's play holds: its result, its zones, its sums -/
structure RI (w wr : World) (G Sb : Nat) (tl : Array Value) (st : List Zn × Sm) : Prop where
  b : Below w.heap.size w wr
  r : Has wr w.heap.size 29 #[iv 0, iv 0, iv 0, iv 0, iv 0, iv 0]
  z : Has wr G 60 (flat st.1 ++ tl)
  s : Has wr Sb 29 (smc st.2)
theorem RI.below {w wr wr' : World} {G Sb : Nat} {tl : Array Value} {st : List Zn × Sm} (h : RI w wr G Sb tl st) (hb : Below wr.heap.size wr wr') : RI w wr' G Sb tl st :=
  ⟨h.b.trans (hb.mono h.b.size), h.r.below hb h.r.lt, h.z.below hb h.z.lt, h.s.below hb h.s.lt⟩
def RPost (R : PR) (w : World) (r : Ending) (w' : World) : Prop :=
  ∃ sl, r = .returned (.tuple #[sl, smv R.s, iv R.i, iv R.e]) ∧ Below w.heap.size w w' ∧
    ((R.e ≠ 0 ∧ sl = .slice none 0 0) ∨ (R.e = 0 ∧ ∃ B cap tl, w.heap.size ≤ B ∧ sl = .slice (some ⟨B, 0, none⟩) R.zs.length cap ∧ Has w' B 60 (flat R.zs ++ tl)))
theorem rPost_bad {R : PR} {w w' : World} (hR : R.e ≠ 0) (hb : Below w.heap.size w w') : RPost R w (.returned (.tuple #[.slice none 0 0, smv R.s, iv R.i, iv R.e])) w' := ⟨_, rfl, hb, .inl ⟨hR, rfl⟩⟩
theorem zrow_app {w : World} {B : Nat} {zs : List Zn} {tl : Array Value} (h : Has w B 60 (flat zs ++ tl)) : ZRow w w.heap.size (some ⟨B, 0, none⟩) zs := fun k hk => by
  obtain ⟨y0, y1, y2, y3⟩ := app_zone tl hk
  refine ⟨B, 0, rfl, h.lt, ?_, ?_, ?_, ?_⟩ <;> simp only [Nat.zero_add]
  · exact (h.cell _).trans y0
  · exact (h.cell _).trans y1
  · exact (h.cell _).trans y2
  · exact (h.cell _).trans y3
theorem own_zones {w : World} {base : Nat} {v : Value} {zs : List Zn} (h : w.ownsRow base 60 4 v zs.length (flat zs).toList) (h1 : 1 ≤ zs.length) :
    ∃ G cap tl, v = .slice (some ⟨G, 0, none⟩) zs.length cap ∧ base ≤ G ∧ Has w G 60 (flat zs ++ tl) := by
  obtain ⟨_, (⟨_, h0⟩ | ⟨g, cap, cur, rfl, hB, hg, h1, h2, h3, h4⟩)⟩ := h
  · omega
  · refine ⟨g, cap, (cur.toList.drop (zs.length * 4)).toArray, rfl, hB, ?_⟩
    unfold Has
    rw [hg]
    congr 2
    apply Array.ext'
    simp only [Array.toList_append]
    rw [← h4, List.take_append_drop]
theorem zrow_flat {w : World} {A : Option Addr} {zs : List Zn} {g o : Nat} (h : ZRow w w.heap.size A zs) (hA : A = some ⟨g, o, none⟩) : ∀ j u, (flat zs).toList[j]? = some u → w.cell? ⟨g, o + j, none⟩ = some u := by
  intro j u hu
  have hj : j < zs.length * 4 := by
    have := (List.getElem?_eq_some_iff.1 hu).1
    have hs := flat_size zs
    simp only [Array.length_toList] at this
    omega
  have hd : j / 4 * 4 + j % 4 = j := by omega
  have hq : j / 4 < zs.length := by omega
  obtain ⟨g', o', e, hg, c0, c1, c2, c3⟩ := h (j / 4) hq
  rw [hA] at e
  obtain ⟨rfl, rfl⟩ : g = g' ∧ o = o' := by simpa using e
  have hf := flat_get zs (j / 4) hq (j % 4) (by omega)
  rw [hd] at hf
  rw [Array.getElem?_toList, hf] at hu
  have h4 : j % 4 = 0 ∨ j % 4 = 1 ∨ j % 4 = 2 ∨ j % 4 = 3 := by omega
  rcases h4 with e4 | e4 | e4 | e4 <;> rw [e4] at hu hd <;> simp only [List.getElem?_cons_zero, List.getElem?_cons_succ, Option.some.injEq] at hu <;> subst hu
  · rw [show o + j = o + j / 4 * 4 by omega]; exact c0
  · rw [show o + j = o + j / 4 * 4 + 1 by omega]; exact c1
  · rw [show o + j = o + j / 4 * 4 + 2 by omega]; exact c2
  · rw [show o + j = o + j / 4 * 4 + 3 by omega]; exact c3
theorem flat_one (zs : List Zn) : ∀ u ∈ (flat zs).toList, u.oneCell' = true := by
  intro u hu
  unfold flat at hu
  simp only [List.mem_flatMap] at hu
  obtain ⟨z, _, hz⟩ := hu
  simp only [List.mem_cons, List.not_mem_nil, or_false] at hz
  rcases hz with rfl | rfl | rfl | rfl <;> rfl

abbrev z60 : Obj := .cells #[iv 0, iv 0, iv 0, iv 0] 60
abbrev s29 : Obj := .cells #[iv 0, iv 0, iv 0, iv 0, iv 0, iv 0] 29
theorem new60 {wd : World} {B : Nat} (h : Has wd B 60 #[iv 0, iv 0, iv 0, iv 0]) : wd.cell? ⟨B, 0, none⟩ = some (iv 0) ∧ wd.cell? ⟨B, 1, none⟩ = some (iv 0) ∧ wd.cell? ⟨B, 2, none⟩ = some (iv 0) ∧ wd.cell? ⟨B, 3, none⟩ = some (iv 0) ∧ wd.frozen? ⟨B, 0, none⟩ = false ∧ wd.frozen? ⟨B, 1, none⟩ = false ∧ wd.frozen? ⟨B, 2, none⟩ = false ∧ wd.frozen? ⟨B, 3, none⟩ = false :=
  ⟨h.cell 0, h.cell 1, h.cell 2, h.cell 3, h.frozen 0, h.frozen 1, h.frozen 2, h.frozen 3⟩
theorem new29 {wd : World} {B : Nat} (h : Has wd B 29 #[iv 0, iv 0, iv 0, iv 0, iv 0, iv 0]) : wd.cell? ⟨B, 0, none⟩ = some (iv 0) ∧ wd.cell? ⟨B, 1, none⟩ = some (iv 0) ∧ wd.cell? ⟨B, 2, none⟩ = some (iv 0) ∧ wd.cell? ⟨B, 3, none⟩ = some (iv 0) ∧ wd.cell? ⟨B, 4, none⟩ = some (iv 0) ∧ wd.cell? ⟨B, 5, none⟩ = some (iv 0) ∧ wd.frozen? ⟨B, 0, none⟩ = false ∧ wd.frozen? ⟨B, 1, none⟩ = false ∧ wd.frozen? ⟨B, 2, none⟩ = false ∧ wd.frozen? ⟨B, 3, none⟩ = false ∧ wd.frozen? ⟨B, 4, none⟩ = false ∧ wd.frozen? ⟨B, 5, none⟩ = false :=
  ⟨h.cell 0, h.cell 1, h.cell 2, h.cell 3, h.cell 4, h.cell 5, h.frozen 0, h.frozen 1, h.frozen 2, h.frozen 3, h.frozen 4, h.frozen 5⟩
section
variable {wr wd : World}
theorem arm_below {W : World} (hw : Below wr.heap.size wr W) (h : Below W.heap.size W wd) : Below wr.heap.size wr wd := hw.trans (h.mono hw.size)
theorem arm_ab (h : Below (((wr.alloc z60).alloc s29).drew).heap.size (((wr.alloc z60).alloc s29).drew) wd) : Below wr.heap.size wr wd ∧ Has wd wr.heap.size 60 #[iv 0, iv 0, iv 0, iv 0] ∧ Has wd (wr.heap.size + 1) 29 #[iv 0, iv 0, iv 0, iv 0, iv 0, iv 0] :=
  ⟨arm_below (((below1 wr z60).alloc (by simp) s29).drew) h, ((Has.new wr 60 _).alloc s29).drew.below h (by simp; omega), (Has.newAt (by simp)).drew.below h (by simp)⟩
theorem arm_ba (h : Below (((wr.alloc s29).alloc z60).drew).heap.size (((wr.alloc s29).alloc z60).drew) wd) : Below wr.heap.size wr wd ∧ Has wd wr.heap.size 29 #[iv 0, iv 0, iv 0, iv 0, iv 0, iv 0] ∧ Has wd (wr.heap.size + 1) 60 #[iv 0, iv 0, iv 0, iv 0] :=
  ⟨arm_below (((below1 wr s29).alloc (by simp) z60).drew) h, ((Has.new wr 29 _).alloc z60).drew.below h (by simp; omega), (Has.newAt (by simp)).drew.below h (by simp)⟩
theorem arm_a (h : Below ((wr.alloc z60).drew).heap.size ((wr.alloc z60).drew) wd) : Below wr.heap.size wr wd ∧ Has wd wr.heap.size 60 #[iv 0, iv 0, iv 0, iv 0] := ⟨arm_below ((below1 wr z60).drew) h, (Has.new wr 60 _).drew.below h (by simp)⟩
theorem arm_b (h : Below ((wr.alloc s29).drew).heap.size ((wr.alloc s29).drew) wd) : Below wr.heap.size wr wd ∧ Has wd wr.heap.size 29 #[iv 0, iv 0, iv 0, iv 0, iv 0, iv 0] := ⟨arm_below ((below1 wr s29).drew) h, (Has.new wr 29 _).drew.below h (by simp)⟩
theorem arm_0 (h : Below wr.drew.heap.size wr.drew wd) : Below wr.heap.size wr wd := arm_below ((Below.refl _ wr).drew) h
theorem s14 {wr wd : World} (hb : Below wr.heap.size wr wd) {G q g r : Nat} (hG : G < wr.heap.size) (hg : g < wr.heap.size) {a b c d e f x y z : Value} (h0 : wr.cell? ⟨G, q, none⟩ = some a) (h1 : wr.cell? ⟨G, q + 1, none⟩ = some b) (h2 : wr.cell? ⟨G, q + 2, none⟩ = some c) (h3 : wr.cell? ⟨G, q + 3, none⟩ = some d)
    (k0 : wr.cell? ⟨g, r, none⟩ = some e) (k1 : wr.cell? ⟨g, r + 1, none⟩ = some f) (k2 : wr.cell? ⟨g, r + 2, none⟩ = some x) (k3 : wr.cell? ⟨g, r + 3, none⟩ = some y) (k4 : wr.cell? ⟨g, r + 4, none⟩ = some z) :
    wd.cell? ⟨G, q, none⟩ = some a ∧ wd.cell? ⟨G, q + 1, none⟩ = some b ∧ wd.cell? ⟨G, q + 2, none⟩ = some c ∧ wd.cell? ⟨G, q + 3, none⟩ = some d ∧ wd.cell? ⟨g, r, none⟩ = some e ∧ wd.cell? ⟨g, r + 1, none⟩ = some f ∧ wd.cell? ⟨g, r + 2, none⟩ = some x ∧ wd.cell? ⟨g, r + 3, none⟩ = some y ∧ wd.cell? ⟨g, r + 4, none⟩ = some z :=
  ⟨(hb.cell (p := ⟨G, _, none⟩) hG).trans h0, (hb.cell (p := ⟨G, _, none⟩) hG).trans h1, (hb.cell (p := ⟨G, _, none⟩) hG).trans h2, (hb.cell (p := ⟨G, _, none⟩) hG).trans h3, (hb.cell (p := ⟨g, _, none⟩) hg).trans k0, (hb.cell (p := ⟨g, _, none⟩) hg).trans k1, (hb.cell (p := ⟨g, _, none⟩) hg).trans k2, (hb.cell (p := ⟨g, _, none⟩) hg).trans k3, (hb.cell (p := ⟨g, _, none⟩) hg).trans k4⟩
end

/-- a new zone and new sums -/
structure NewZS (wr W : World) (p q : Nat) (z : Zn) (s : Sm) : Prop where
  b : Below wr.heap.size wr W
  z : Has W p 60 #[iv z.a, iv z.b, iv z.c, iv z.d]
  s : Has W q 29 (smc s)
  hp : wr.heap.size ≤ p
  hq : wr.heap.size ≤ q
section
variable {wr wd : World} (z : Zn) (s : Sm) (hB : Below wr.heap.size wr wd)
include hB
theorem nz1 : NewZS wr ((wd.alloc (.cells #[iv z.a, iv z.b, iv z.c, iv z.d] 60)).alloc (.cells (smc s) 29)) wd.heap.size (wd.heap.size + 1) z s := have h := hB.size; ⟨(hB.alloc h _).alloc (by simp; omega) _, (Has.new _ _ _).alloc _, Has.newAt (by simp), h, by omega⟩
theorem nz2 : NewZS wr ((wd.alloc (.cells (smc s) 29)).alloc (.cells #[iv z.a, iv z.b, iv z.c, iv z.d] 60)) (wd.heap.size + 1) wd.heap.size z s := have h := hB.size; ⟨(hB.alloc h _).alloc (by simp; omega) _, Has.newAt (by simp), (Has.new _ _ _).alloc _, by omega, h⟩
theorem nz3 (n : Has wd wr.heap.size 60 #[iv 0, iv 0, iv 0, iv 0]) : NewZS wr (((((wd.setCell ⟨wr.heap.size, 0, none⟩ (iv z.a)).setCell ⟨wr.heap.size, 1, none⟩ (iv z.b)).setCell ⟨wr.heap.size, 2, none⟩ (iv z.c)).setCell ⟨wr.heap.size, 3, none⟩ (iv z.d)).alloc (.cells (smc s) 29)) wr.heap.size wd.heap.size z s := have h := hB.size; ⟨((((hB.setCell (p := ⟨_, 0, none⟩) (by simp <;> omega) _).setCell (p := ⟨_, 1, none⟩) (by simp <;> omega) _).setCell (p := ⟨_, 2, none⟩) (by simp <;> omega) _).setCell (p := ⟨_, 3, none⟩) (by simp <;> omega) _).alloc (by simp; omega) _, ((((n.set 0 _).set 1 _).set 2 _).set 3 _).alloc _, Has.newAt (by simp), by omega, h⟩
theorem nz4 (n : Has wd wr.heap.size 29 #[iv 0, iv 0, iv 0, iv 0, iv 0, iv 0]) : NewZS wr (((((((wd.setCell ⟨wr.heap.size, 0, none⟩ (iv s.f1)).setCell ⟨wr.heap.size, 1, none⟩ (iv s.f2)).setCell ⟨wr.heap.size, 2, none⟩ (iv s.p1)).setCell ⟨wr.heap.size, 3, none⟩ (iv s.p2)).setCell ⟨wr.heap.size, 4, none⟩ (iv s.w1)).setCell ⟨wr.heap.size, 5, none⟩ (iv s.w2)).alloc (.cells #[iv z.a, iv z.b, iv z.c, iv z.d] 60)) wd.heap.size wr.heap.size z s := have h := hB.size; ⟨((((((hB.setCell (p := ⟨_, 0, none⟩) (by simp <;> omega) _).setCell (p := ⟨_, 1, none⟩) (by simp <;> omega) _).setCell (p := ⟨_, 2, none⟩) (by simp <;> omega) _).setCell (p := ⟨_, 3, none⟩) (by simp <;> omega) _).setCell (p := ⟨_, 4, none⟩) (by simp <;> omega) _).setCell (p := ⟨_, 5, none⟩) (by simp <;> omega) _).alloc (by simp; omega) _, Has.newAt (by simp), ((((((n.set 0 _).set 1 _).set 2 _).set 3 _).set 4 _).set 5 _).alloc _, h, by omega⟩
theorem nz5 (n : Has wd wr.heap.size 60 #[iv 0, iv 0, iv 0, iv 0]) (m : Has wd (wr.heap.size + 1) 29 #[iv 0, iv 0, iv 0, iv 0, iv 0, iv 0]) : NewZS wr ((((((((((wd.setCell ⟨wr.heap.size, 0, none⟩ (iv z.a)).setCell ⟨wr.heap.size, 1, none⟩ (iv z.b)).setCell ⟨wr.heap.size, 2, none⟩ (iv z.c)).setCell ⟨wr.heap.size, 3, none⟩ (iv z.d)).setCell ⟨wr.heap.size + 1, 0, none⟩ (iv s.f1)).setCell ⟨wr.heap.size + 1, 1, none⟩ (iv s.f2)).setCell ⟨wr.heap.size + 1, 2, none⟩ (iv s.p1)).setCell ⟨wr.heap.size + 1, 3, none⟩ (iv s.p2)).setCell ⟨wr.heap.size + 1, 4, none⟩ (iv s.w1)).setCell ⟨wr.heap.size + 1, 5, none⟩ (iv s.w2)) wr.heap.size (wr.heap.size + 1) z s := ⟨((((((((((hB.setCell (p := ⟨_, 0, none⟩) (by simp <;> omega) _).setCell (p := ⟨_, 1, none⟩) (by simp <;> omega) _).setCell (p := ⟨_, 2, none⟩) (by simp <;> omega) _).setCell (p := ⟨_, 3, none⟩) (by simp <;> omega) _).setCell (p := ⟨_, 0, none⟩) (by simp <;> omega) _).setCell (p := ⟨_, 1, none⟩) (by simp <;> omega) _).setCell (p := ⟨_, 2, none⟩) (by simp <;> omega) _).setCell (p := ⟨_, 3, none⟩) (by simp <;> omega) _).setCell (p := ⟨_, 4, none⟩) (by simp <;> omega) _).setCell (p := ⟨_, 5, none⟩) (by simp <;> omega) _), ((((((((((n.set 0 _).set 1 _).set 2 _).set 3 _).far (by simp <;> omega) _).far (by simp <;> omega) _).far (by simp <;> omega) _).far (by simp <;> omega) _).far (by simp <;> omega) _).far (by simp <;> omega) _), ((((((((((m.far (by simp <;> omega) _).far (by simp <;> omega) _).far (by simp <;> omega) _).far (by simp <;> omega) _).set 0 _).set 1 _).set 2 _).set 3 _).set 4 _).set 5 _), by omega, by omega⟩
theorem nz6 (n : Has wd (wr.heap.size + 1) 60 #[iv 0, iv 0, iv 0, iv 0]) (m : Has wd wr.heap.size 29 #[iv 0, iv 0, iv 0, iv 0, iv 0, iv 0]) : NewZS wr ((((((((((wd.setCell ⟨wr.heap.size + 1, 0, none⟩ (iv z.a)).setCell ⟨wr.heap.size + 1, 1, none⟩ (iv z.b)).setCell ⟨wr.heap.size + 1, 2, none⟩ (iv z.c)).setCell ⟨wr.heap.size + 1, 3, none⟩ (iv z.d)).setCell ⟨wr.heap.size, 0, none⟩ (iv s.f1)).setCell ⟨wr.heap.size, 1, none⟩ (iv s.f2)).setCell ⟨wr.heap.size, 2, none⟩ (iv s.p1)).setCell ⟨wr.heap.size, 3, none⟩ (iv s.p2)).setCell ⟨wr.heap.size, 4, none⟩ (iv s.w1)).setCell ⟨wr.heap.size, 5, none⟩ (iv s.w2)) (wr.heap.size + 1) wr.heap.size z s := ⟨((((((((((hB.setCell (p := ⟨_, 0, none⟩) (by simp <;> omega) _).setCell (p := ⟨_, 1, none⟩) (by simp <;> omega) _).setCell (p := ⟨_, 2, none⟩) (by simp <;> omega) _).setCell (p := ⟨_, 3, none⟩) (by simp <;> omega) _).setCell (p := ⟨_, 0, none⟩) (by simp <;> omega) _).setCell (p := ⟨_, 1, none⟩) (by simp <;> omega) _).setCell (p := ⟨_, 2, none⟩) (by simp <;> omega) _).setCell (p := ⟨_, 3, none⟩) (by simp <;> omega) _).setCell (p := ⟨_, 4, none⟩) (by simp <;> omega) _).setCell (p := ⟨_, 5, none⟩) (by simp <;> omega) _), ((((((((((n.set 0 _).set 1 _).set 2 _).set 3 _).far (by simp <;> omega) _).far (by simp <;> omega) _).far (by simp <;> omega) _).far (by simp <;> omega) _).far (by simp <;> omega) _).far (by simp <;> omega) _), ((((((((((m.far (by simp <;> omega) _).far (by simp <;> omega) _).far (by simp <;> omega) _).far (by simp <;> omega) _).set 0 _).set 1 _).set 2 _).set 3 _).set 4 _).set 5 _), by omega, by omega⟩
end
theorem RI.setZ {w W : World} {G Sb : Nat} {tl : Array Value} {st : List Zn × Sm} {j : Nat} (z : Zn) (h : RI w W G Sb tl st) (hj : j < st.1.length) (hG : w.heap.size < G) (hGs : G < Sb) :
    RI w ((((W.setCell ⟨G, j * 4, none⟩ (iv z.a)).setCell ⟨G, j * 4 + 1, none⟩ (iv z.b)).setCell ⟨G, j * 4 + 2, none⟩ (iv z.c)).setCell ⟨G, j * 4 + 3, none⟩ (iv z.d)) G Sb tl (st.1.set j z, st.2) :=
  ⟨((((h.b.setCell (p := ⟨_, _, none⟩) (by simp only; omega) _).setCell (p := ⟨_, _, none⟩) (by simp only; omega) _).setCell (p := ⟨_, _, none⟩) (by simp only; omega) _).setCell (p := ⟨_, _, none⟩) (by simp only; omega) _), ((((h.r.far (by simp only; omega) _).far (by simp only; omega) _).far (by simp only; omega) _).far (by simp only; omega) _), by simp only; rw [app_flat _ _ _ _ hj]; exact ((((h.z.set (j * 4) _).set (j * 4 + 1) _).set (j * 4 + 2) _).set (j * 4 + 3) _), ((((h.s.far (by simp only; omega) _).far (by simp only; omega) _).far (by simp only; omega) _).far (by simp only; omega) _)⟩
theorem RI.setS {w W : World} {G Sb : Nat} {tl : Array Value} {st : List Zn × Sm} (s : Sm) (h : RI w W G Sb tl st) (hG : w.heap.size < G) (hGs : G < Sb) :
    RI w ((((((W.setCell ⟨Sb, 0, none⟩ (iv s.f1)).setCell ⟨Sb, 1, none⟩ (iv s.f2)).setCell ⟨Sb, 2, none⟩ (iv s.p1)).setCell ⟨Sb, 3, none⟩ (iv s.p2)).setCell ⟨Sb, 4, none⟩ (iv s.w1)).setCell ⟨Sb, 5, none⟩ (iv s.w2)) G Sb tl (st.1, s) :=
  ⟨((((((h.b.setCell (p := ⟨_, _, none⟩) (by simp only; omega) _).setCell (p := ⟨_, _, none⟩) (by simp only; omega) _).setCell (p := ⟨_, _, none⟩) (by simp only; omega) _).setCell (p := ⟨_, _, none⟩) (by simp only; omega) _).setCell (p := ⟨_, _, none⟩) (by simp only; omega) _).setCell (p := ⟨_, _, none⟩) (by simp only; omega) _), ((((((h.r.far (by simp only; omega) _).far (by simp only; omega) _).far (by simp only; omega) _).far (by simp only; omega) _).far (by simp only; omega) _).far (by simp only; omega) _), ((((((h.z.far (by simp only; omega) _).far (by simp only; omega) _).far (by simp only; omega) _).far (by simp only; omega) _).far (by simp only; omega) _).far (by simp only; omega) _), ((((((h.s.set 0 _).set 1 _).set 2 _).set 3 _).set 4 _).set 5 _)⟩
/-- the cells of two sums -/
def S18 (Sb q : Nat) (s t : Sm) (w' : World) : Prop := w'.cell? ⟨Sb, 0, none⟩ = some (iv s.f1) ∧ w'.cell? ⟨Sb, 1, none⟩ = some (iv s.f2) ∧ w'.cell? ⟨Sb, 2, none⟩ = some (iv s.p1) ∧ w'.cell? ⟨Sb, 3, none⟩ = some (iv s.p2) ∧ w'.cell? ⟨Sb, 4, none⟩ = some (iv s.w1) ∧ w'.cell? ⟨Sb, 5, none⟩ = some (iv s.w2) ∧ w'.cell? ⟨q, 0, none⟩ = some (iv t.f1) ∧ w'.cell? ⟨q, 1, none⟩ = some (iv t.f2) ∧ w'.cell? ⟨q, 2, none⟩ = some (iv t.p1) ∧ w'.cell? ⟨q, 3, none⟩ = some (iv t.p2) ∧ w'.cell? ⟨q, 4, none⟩ = some (iv t.w1) ∧ w'.cell? ⟨q, 5, none⟩ = some (iv t.w2)
theorem s18 {w' : World} {Sb q : Nat} {s t : Sm} (h : Has w' Sb 29 (smc s)) (k : Has w' q 29 (smc t)) : S18 Sb q s t w' := ⟨h.cell 0, h.cell 1, h.cell 2, h.cell 3, h.cell 4, h.cell 5, k.cell 0, k.cell 1, k.cell 2, k.cell 3, k.cell 4, k.cell 5⟩
end Go.Proofs.Ytogabjlhecnbbaa
