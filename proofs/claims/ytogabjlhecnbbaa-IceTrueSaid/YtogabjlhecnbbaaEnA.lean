/- Two rows that grow by append side by side, and blocks that are read meanwhile. -/
import Derived.Test.YtogabjlhecnbbaaApA2
namespace Go.Proofs.Ytogabjlhecnbbaa
open Go.RowKit Go.Shelf
structure Two (w W : World) (hs : List (Nat × TypeId × Array Value)) (e s : Nat) (a b : Value) (n m : Nat) (xs ys : List Value) : Prop where
  bl : Below w.heap.size w W
  ra : W.ownsRow w.heap.size e s a n xs
  rb : W.ownsRow w.heap.size e s b m ys
  ne : a.ownBlock = none ∨ a.ownBlock ≠ b.ownBlock
  hs : ∀ x ∈ hs, Has W x.1 x.2.1 x.2.2 ∧ a.ownBlock ≠ some x.1 ∧ b.ownBlock ≠ some x.1
section
variable {w W W' : World} {hs : List (Nat × TypeId × Array Value)} {e s : Nat} {a b : Value} {n m : Nat} {xs ys : List Value}
theorem own_step {base : Nat} (h : W.ownsRow base e s a n xs) (hb : Below W.heap.size W W') : W'.ownsRow base e s a n xs :=
  h.kept (row := none) ⟨hb.os, hb.tape, hb.output, hb.size, fun k hk _ => hb.block k hk⟩ (by cases a.ownBlock <;> simp)
theorem Two.start (w : World) (e s : Nat) : Two w w [] e s (.slice none 0 0) (.slice none 0 0) 0 0 [] [] := ⟨Below.refl _ _, World.ownsRow_nil _ _ _ _, World.ownsRow_nil _ _ _ _, .inl rfl, fun x hx => by cases hx⟩
theorem Two.step (h : Two w W hs e s a b n m xs ys) (hb : Below W.heap.size W W') : Two w W' hs e s a b n m xs ys :=
  ⟨belowT h.bl hb, own_step h.ra hb, own_step h.rb hb, h.ne, fun x hx => ⟨(h.hs x hx).1.below hb (h.hs x hx).1.lt, (h.hs x hx).2⟩⟩
theorem Two.drew (h : Two w W hs e s a b n m xs ys) : Two w W.drew hs e s a b n m xs ys := h.step (Below.refl _ _).drew
theorem Two.more (h : Two w W hs e s a b n m xs ys) (cs : Array Value) (t : TypeId) : Two w (W.alloc (.cells cs t)) ((W.heap.size, t, cs) :: hs) e s a b n m xs ys := by
  have h' := h.step (below1 W (.cells cs t))
  refine ⟨h'.bl, h'.ra, h'.rb, h'.ne, fun x hx => ?_⟩
  rcases List.mem_cons.1 hx with rfl | hx
  · exact ⟨Has.new _ _ _, fun e => by have := (h.ra.lt _ e).2; simp at this, fun e => by have := (h.rb.lt _ e).2; simp at this⟩
  · exact h'.hs x hx
theorem Two.less {hs' : List (Nat × TypeId × Array Value)} (h : Two w W hs e s a b n m xs ys) (hh : ∀ x ∈ hs', x ∈ hs) : Two w W hs' e s a b n m xs ys := ⟨h.bl, h.ra, h.rb, h.ne, fun x hx => h.hs x (hh x hx)⟩
theorem Two.none_ (h : Two w W hs e s a b n m xs ys) : Two w W [] e s a b n m xs ys := h.less (fun x hx => by cases hx)
theorem Two.left {g cap n' : Nat} {news : List Value} (h : Two w W hs e s a b n m xs ys) (hown : W'.ownsRow w.heap.size e s (.slice (some ⟨g, 0, none⟩) n' cap) n' (xs ++ news)) (hgrow : W.grownBy W' a.ownBlock) (hat : a.ownBlock = some g ∨ g = W.heap.size) :
    Two w W' hs e s (.slice (some ⟨g, 0, none⟩) n' cap) b n' m (xs ++ news) ys := by
  have hba : b.ownBlock = none ∨ b.ownBlock ≠ a.ownBlock := by
    rcases h.ne with h1 | h1
    · rw [h1]; cases b.ownBlock <;> simp
    · exact .inr (fun e => h1 e.symm)
  refine ⟨h.bl.grown hgrow h.bl.size (fun k hk => (h.ra.lt k hk).1), hown, h.rb.kept hgrow hba, ?_, fun x hx => ?_⟩
  · right
    intro e1
    simp only [Value.ownBlock] at e1
    rcases hat with h1 | h1
    · rcases h.ne with h2 | h2
      · rw [h2] at h1; cases h1
      · exact h2 (h1.trans e1)
    · have := (h.rb.lt _ e1.symm).2; omega
  · obtain ⟨p1, p2, p3⟩ := h.hs x hx
    refine ⟨has_grown p1 hgrow p2, fun e1 => ?_, p3⟩
    simp only [Value.ownBlock, Option.some.injEq] at e1
    rcases hat with h1 | h1
    · exact p2 (by rw [h1, e1])
    · have := p1.lt; omega
theorem Two.right {g cap m' : Nat} {news : List Value} (h : Two w W hs e s a b n m xs ys) (hown : W'.ownsRow w.heap.size e s (.slice (some ⟨g, 0, none⟩) m' cap) m' (ys ++ news)) (hgrow : W.grownBy W' b.ownBlock) (hat : b.ownBlock = some g ∨ g = W.heap.size) :
    Two w W' hs e s a (.slice (some ⟨g, 0, none⟩) m' cap) n m' xs (ys ++ news) := by
  refine ⟨h.bl.grown hgrow h.bl.size (fun k hk => (h.rb.lt k hk).1), h.ra.kept hgrow h.ne, hown, ?_, fun x hx => ?_⟩
  · cases ha : a.ownBlock with
    | none => exact .inl rfl
    | some j =>
      right
      intro e1
      simp only [Value.ownBlock, Option.some.injEq] at e1
      subst e1
      rcases hat with h1 | h1
      · rcases h.ne with h2 | h2
        · rw [h2] at ha; cases ha
        · exact h2 (ha.trans h1.symm)
      · have := (h.ra.lt _ ha).2; omega
  · obtain ⟨p1, p2, p3⟩ := h.hs x hx
    refine ⟨has_grown p1 hgrow p3, p2, fun e1 => ?_⟩
    simp only [Value.ownBlock, Option.some.injEq] at e1
    rcases hat with h1 | h1
    · exact p3 (by rw [h1, e1])
    · have := p1.lt; omega
theorem Two.news {B : Nat} {t : TypeId} {cs : Array Value} (h : Two w W hs e s a b n m xs ys) (hm : (B, t, cs) ∈ hs) : ∀ j u, cs.toList[j]? = some u → W.cell? ((⟨B, 0, none⟩ : Addr).add j) = some u := World.news_of_block (h.hs _ hm).1
theorem Two.cell {B : Nat} {t : TypeId} {cs : Array Value} (h : Two w W hs e s a b n m xs ys) (hm : (B, t, cs) ∈ hs) (i : Nat) : W.cell? ⟨B, i, none⟩ = cs[i]? := (h.hs _ hm).1.cell i
theorem Two.keep4 {B : Nat} {t : TypeId} {c0 c1 c2 c3 : Value} (h : Two w W hs e s a b n m xs ys) (hm : (B, t, #[c0, c1, c2, c3]) ∈ hs) :
    W.cell? ⟨B, 0, none⟩ = some c0 ∧ W.cell? ⟨B, 1, none⟩ = some c1 ∧ W.cell? ⟨B, 2, none⟩ = some c2 ∧ W.cell? ⟨B, 3, none⟩ = some c3 := ⟨h.cell hm 0, h.cell hm 1, h.cell hm 2, h.cell hm 3⟩
theorem set_far (W : World) {G i b j : Nat} (v : Value) (h : G ≠ b) : (W.setCell ⟨b, j, none⟩ v).cell? ⟨G, i, none⟩ = W.cell? ⟨G, i, none⟩ := World.cell?_of_block (Below.heap_setCell W ⟨b, j, none⟩ v G h)
theorem Two.set {p : Nat} {t : TypeId} {cs : Array Value} (h : Two w W ((p, t, cs) :: hs) e s a b n m xs ys) (hp : w.heap.size ≤ p) (hn : ∀ x ∈ hs, x.1 ≠ p) (i : Nat) (u : Value) : Two w (W.setCell ⟨p, i, none⟩ u) ((p, t, cs.setIfInBounds i u) :: hs) e s a b n m xs ys := by
  obtain ⟨p1, p2, p3⟩ := h.hs (p, t, cs) (by simp)
  have ho := only_set W p i u
  refine ⟨h.bl.setCell (p := ⟨p, i, none⟩) hp u, h.ra.kept (grown_only ho) (.inr p2), h.rb.kept (grown_only ho) (.inr p3), h.ne, fun x hx => ?_⟩
  rcases List.mem_cons.1 hx with rfl | hx
  · exact ⟨p1.set i u, p2, p3⟩
  · obtain ⟨q1, q2, q3⟩ := h.hs x (by simp [hx])
    exact ⟨q1.only ho (hn x hx), q2, q3⟩
theorem Two.open34 {p : Nat} {t : TypeId} {c0 c1 c2 c3 c4 : Value} (h : Two w W hs e s a b n m xs ys) (hp : (p, t, #[c0, c1, c2, c3, c4]) ∈ hs) :
    W.cell? ⟨p, 3, none⟩ = some c3 ∧ W.cell? ⟨p, 4, none⟩ = some c4 ∧ W.frozen? ⟨p, 3, none⟩ = false ∧ W.frozen? ⟨p, 4, none⟩ = false ∧ p < W.heap.size :=
  ⟨h.cell hp 3, h.cell hp 4, (h.hs _ hp).1.frozen 3, (h.hs _ hp).1.frozen 4, (h.hs _ hp).1.lt⟩
/-- two cells of each of two blocks -/
theorem Two.set4 {p q : Nat} {t : TypeId} {c0 c1 c2 c3 c4 d0 d1 d2 d3 d4 : Value} (h : Two w W hs e s a b n m xs ys) (hp : (p, t, #[c0, c1, c2, c3, c4]) ∈ hs) (hq : (q, t, #[d0, d1, d2, d3, d4]) ∈ hs) (hpq : p ≠ q) (hpw : w.heap.size ≤ p) (hqw : w.heap.size ≤ q) (u1 u2 v1 v2 : Value) :
    Two w ((((W.setCell ⟨p, 3, none⟩ u1).setCell ⟨p, 4, none⟩ u2).setCell ⟨q, 3, none⟩ v1).setCell ⟨q, 4, none⟩ v2) [(p, t, #[c0, c1, c2, u1, u2]), (q, t, #[d0, d1, d2, v1, v2])] e s a b n m xs ys := by
  have h1 : Two w W [(p, t, #[c0, c1, c2, c3, c4]), (q, t, #[d0, d1, d2, d3, d4])] e s a b n m xs ys := h.less (fun x hx => by
    simp only [List.mem_cons, List.not_mem_nil, or_false] at hx
    rcases hx with rfl | rfl
    · exact hp
    · exact hq)
  have h2 := (h1.set hpw (by simp [Ne.symm hpq]) 3 u1).set hpw (by simp [Ne.symm hpq]) 4 u2
  have h3 : Two w ((W.setCell ⟨p, 3, none⟩ u1).setCell ⟨p, 4, none⟩ u2) [(q, t, #[d0, d1, d2, d3, d4]), (p, t, #[c0, c1, c2, u1, u2])] e s a b n m xs ys := h2.less (fun x hx => by
    simp only [List.mem_cons, List.not_mem_nil, or_false] at hx
    rcases hx with rfl | rfl <;> simp)
  have h4 := (h3.set hqw (by simp [hpq]) 3 v1).set hqw (by simp [hpq]) 4 v2
  exact h4.less (fun x hx => by
    simp only [List.mem_cons, List.not_mem_nil, or_false] at hx
    rcases hx with rfl | rfl <;> simp)
theorem Two.keep10 {p q : Nat} {t : TypeId} {c0 c1 c2 c3 c4 d0 d1 d2 d3 d4 : Value} (h : Two w W hs e s a b n m xs ys) (hp : (p, t, #[c0, c1, c2, c3, c4]) ∈ hs) (hq : (q, t, #[d0, d1, d2, d3, d4]) ∈ hs) :
    W.cell? ⟨p, 0, none⟩ = some c0 ∧ W.cell? ⟨p, 1, none⟩ = some c1 ∧ W.cell? ⟨p, 2, none⟩ = some c2 ∧ W.cell? ⟨p, 3, none⟩ = some c3 ∧ W.cell? ⟨p, 4, none⟩ = some c4 ∧
    W.cell? ⟨q, 0, none⟩ = some d0 ∧ W.cell? ⟨q, 1, none⟩ = some d1 ∧ W.cell? ⟨q, 2, none⟩ = some d2 ∧ W.cell? ⟨q, 3, none⟩ = some d3 ∧ W.cell? ⟨q, 4, none⟩ = some d4 :=
  ⟨h.cell hp 0, h.cell hp 1, h.cell hp 2, h.cell hp 3, h.cell hp 4, h.cell hq 0, h.cell hq 1, h.cell hq 2, h.cell hq 3, h.cell hq 4⟩
end
/-- a zone of what was told, and of both ends, read in a round -/
structure EnK (w W : World) (G g6 o6 g7 o7 k : Nat) (a b c d : Int) : Prop where
  bl : Below w.heap.size w W
  l6 : g6 < W.heap.size
  l7 : g7 < W.heap.size
  y : Has W G 60 #[.int .i64 a, .int .i64 b, .int .i64 c, .int .i64 d]
  c6 : W.cell? ⟨g6, o6 + k * 4, none⟩ = some (.int .i64 a) ∧ W.cell? ⟨g6, o6 + k * 4 + 1, none⟩ = some (.int .i64 a) ∧ W.cell? ⟨g6, o6 + k * 4 + 2, none⟩ = some (.int .i64 c) ∧ W.cell? ⟨g6, o6 + k * 4 + 3, none⟩ = some (.int .i64 c)
  c7 : W.cell? ⟨g7, o7 + k * 4, none⟩ = some (.int .i64 b) ∧ W.cell? ⟨g7, o7 + k * 4 + 1, none⟩ = some (.int .i64 b) ∧ W.cell? ⟨g7, o7 + k * 4 + 2, none⟩ = some (.int .i64 d) ∧ W.cell? ⟨g7, o7 + k * 4 + 3, none⟩ = some (.int .i64 d)
theorem EnK.step {w W W' : World} {G g6 o6 g7 o7 k : Nat} {a b c d : Int} (h : EnK w W G g6 o6 g7 o7 k a b c d) (hb : Below W.heap.size W W') : EnK w W' G g6 o6 g7 o7 k a b c d := by
  have hs := hb.size
  have e6 : ∀ i, W'.cell? ⟨g6, i, none⟩ = W.cell? ⟨g6, i, none⟩ := fun i => World.cell?_of_block (hb.block g6 h.l6)
  have e7 : ∀ i, W'.cell? ⟨g7, i, none⟩ = W.cell? ⟨g7, i, none⟩ := fun i => World.cell?_of_block (hb.block g7 h.l7)
  obtain ⟨p0, p1, p2, p3⟩ := h.c6
  obtain ⟨q0, q1, q2, q3⟩ := h.c7
  exact ⟨belowT h.bl hb, by have := h.l6; omega, by have := h.l7; omega, h.y.below hb h.y.lt, ⟨(e6 _).trans p0, (e6 _).trans p1, (e6 _).trans p2, (e6 _).trans p3⟩, ⟨(e7 _).trans q0, (e7 _).trans q1, (e7 _).trans q2, (e7 _).trans q3⟩⟩
theorem EnK.keep {w W : World} {G g6 o6 g7 o7 k : Nat} {a b c d : Int} (h : EnK w W G g6 o6 g7 o7 k a b c d) : W.cell? ⟨g6, o6 + k * 4, none⟩ = some (.int .i64 a) ∧ W.cell? ⟨g6, o6 + k * 4 + 1, none⟩ = some (.int .i64 a) ∧ W.cell? ⟨g6, o6 + k * 4 + 2, none⟩ = some (.int .i64 c) ∧ W.cell? ⟨g6, o6 + k * 4 + 3, none⟩ = some (.int .i64 c) ∧
    W.cell? ⟨g7, o7 + k * 4, none⟩ = some (.int .i64 b) ∧ W.cell? ⟨g7, o7 + k * 4 + 1, none⟩ = some (.int .i64 b) ∧ W.cell? ⟨g7, o7 + k * 4 + 2, none⟩ = some (.int .i64 d) ∧ W.cell? ⟨g7, o7 + k * 4 + 3, none⟩ = some (.int .i64 d) ∧
    W.cell? ⟨G, 0, none⟩ = some (.int .i64 a) ∧ W.cell? ⟨G, 1, none⟩ = some (.int .i64 b) ∧ W.cell? ⟨G, 2, none⟩ = some (.int .i64 c) ∧ W.cell? ⟨G, 3, none⟩ = some (.int .i64 d) :=
  ⟨h.c6.1, h.c6.2.1, h.c6.2.2.1, h.c6.2.2.2, h.c7.1, h.c7.2.1, h.c7.2.2.1, h.c7.2.2.2, h.y.cell 0, h.y.cell 1, h.y.cell 2, h.y.cell 3⟩
theorem EnK.of {w W : World} {A6 A7 : Option Addr} {k : Nat} {a b c d : Int} {rz : List Zn} (hb : Below w.heap.size w W) (h6 : ZRow W W.heap.size A6 (rz.map loZ)) (h7 : ZRow W W.heap.size A7 (rz.map hiZ)) (hk : k < rz.length) (hy : rz[k] = ⟨a, b, c, d⟩) :
    ∃ g6 o6 g7 o7, A6 = some ⟨g6, o6, none⟩ ∧ A7 = some ⟨g7, o7, none⟩ ∧ EnK w (W.alloc (.cells #[.int .i64 a, .int .i64 b, .int .i64 c, .int .i64 d] 60)) W.heap.size g6 o6 g7 o7 k a b c d := by
  obtain ⟨g6, o6, e6, l6, p0, p1, p2, p3⟩ := h6 k (by simpa using hk)
  obtain ⟨g7, o7, e7, l7, q0, q1, q2, q3⟩ := h7 k (by simpa using hk)
  simp only [List.getElem_map, hy, loZ, hiZ] at p0 p1 p2 p3 q0 q1 q2 q3
  have f : ∀ g i, g < W.heap.size → (W.alloc (.cells #[.int .i64 a, .int .i64 b, .int .i64 c, .int .i64 d] 60)).cell? ⟨g, i, none⟩ = W.cell? ⟨g, i, none⟩ := fun g i hg => World.cell?_of_block ((below1 W _).block g hg)
  refine ⟨g6, o6, g7, o7, e6, e7, belowT hb (below1 _ _), by simp; omega, by simp; omega, Has.new _ _ _, ⟨(f _ _ l6).trans p0, (f _ _ l6).trans p1, (f _ _ l6).trans p2, (f _ _ l6).trans p3⟩, ⟨(f _ _ l7).trans q0, (f _ _ l7).trans q1, (f _ _ l7).trans q2, (f _ _ l7).trans q3⟩⟩
theorem neq27s (n : Int) (w : World) : (binOp .neq 27 (.agg #[.int .i64 n, .int .i64 n]) (.agg #[.int .i64 n, .int .i64 n])).run Try.prog w = .ok (.bool false) w := by
  have := neq27 n n n n w
  simpa using this
end Go.Proofs.Ytogabjlhecnbbaa
