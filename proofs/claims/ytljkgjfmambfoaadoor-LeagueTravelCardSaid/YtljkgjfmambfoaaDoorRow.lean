/- Rows that grow by append. -/
import Derived.Test.YtljkgjfmambfoaaDoorMem
import Derived.WalkKit
import Derived.Laws.AppendOwn
import Derived.Laws.AppendOwnNone
import Derived.Deep.AppendLies
import Derived.Deep.RegionLawGrows
import Derived.Lib.Hide
namespace Go.Proofs.YtljkgjfmambfoaaDoor
open Go.RowKit Go.Lib
theorem addr_add (g o j : Nat) : (⟨g, o, none⟩ : Addr).add j = ⟨g, o + j, none⟩ := by unfold Addr.add; split <;> simp_all
theorem flat_get {α : Type} (f : α → List Value) (n : Nat) (hf : ∀ a, (f a).length = n) (l : List α) (i : Nat) (h : i < l.length) (j : Nat) (hj : j < n) : (l.flatMap f)[i * n + j]? = (f l[i])[j]? := by
  induction l generalizing i with
  | nil => exact absurd h (by simp)
  | cons a l ih =>
    cases i with
    | zero =>
      simp only [List.flatMap_cons, Nat.zero_mul, Nat.zero_add, List.getElem_cons_zero]
      rw [List.getElem?_append_left (by rw [hf]; exact hj)]
    | succ i =>
      simp only [List.flatMap_cons, List.getElem_cons_succ]
      rw [List.getElem?_append_right (by rw [hf, Nat.succ_mul]; omega), ← ih i (by simpa using h)]
      congr 1
      rw [hf, Nat.succ_mul]; omega
theorem flat_len {α : Type} (f : α → List Value) (n : Nat) (hf : ∀ a, (f a).length = n) (l : List α) : (l.flatMap f).length = l.length * n := by
  induction l with
  | nil => simp
  | cons a l ih => rw [List.flatMap_cons, List.length_append, ih, hf, List.length_cons, Nat.succ_mul]; omega
theorem add_at (g o j : Nat) : (⟨g, o, none⟩ : Addr).add j = ⟨g, o + j, none⟩ := addr_add g o j
theorem run_append_none_cap {P : Program} {w : World} (base : Nat) (t ty e : TypeId) (i : TypeInfo) (size : Nat) (ht : P.underlying t = some (.slice e)) (hi : P.info? e = some i)
    (v : Value) (n : Nat) (xs : List Value) (hown : w.ownsRow base e size v n xs) (c : Nat) :
    (Builtin.append_ #[t, t] ty #[v, .slice none 0 c]).run P w = .ok v w := by
  rcases hown.2 with ⟨rfl, rfl⟩ | ⟨g, cap, cur, rfl, _, _, hnc, _⟩
  · simp [Builtin.append_, run_underlying ht, sizeOf, typeInfo, hi, Builtin.lenOf, Builtin.firstCells]
  · simp [Builtin.append_, run_underlying ht, sizeOf, typeInfo, hi, Builtin.lenOf, Builtin.firstCells, hnc, storeCells]
theorem wpList_append_row {P : Program} {w : World} {ops : Array Oper} {rest : List Oper} {o : Oper} {a : Act} {Q : Exit → Act → World → Prop} (hgd : o.guard = none) (s x : Operand) (t : TypeId)
    (ho : o.op = .call { callee := .builtin .append, args := #[s, x], argTypes := #[t, t] })
    (base : Nat) (e : TypeId) (i : TypeInfo) (z : Value) (size bytes : Nat) (ht : P.underlying t = some (.slice e)) (hi : P.info? e = some i) (hz : i.zero = some z)
    (hsize : i.size = size) (hby : i.bytes = bytes) (hzs : z.cells.size = size) (hsz : 0 < size)
    (v : Value) (n : Nat) (xs : List Value) (hs : a.eval s = v) (hown : w.ownsRow base e size v n xs)
    (A : Option Addr) (m c : Nat) (news : List Value) (hx : a.eval x = .slice A m c) (hA : A = none → m = 0) (hl : news.length = m * size) (hnews : ∀ ad, A = some ad → ∀ j u, news[j]? = some u → w.cell? (ad.add j) = some u) (h1 : ∀ u ∈ news, u.oneCell' = true)
    (h63 : n + m ≤ maxLen) (hbytes : (n + m) * bytes ≤ 140737488355328) (hbase : base ≤ w.heap.size)
    (h : ∀ v' w', w'.ownsRow base e size v' (n + m) (xs ++ news) → w.grownBy w' v.ownBlock → wpList P ops Q rest (a.put o.dst v') w') : wpList P ops Q (o :: rest) a w := by
  cases A with
  | some ad => exact wpList_append_own w hgd s x t ho base e i z size bytes ht hi hz hsize hby hzs hsz v n xs hs hown ad m c news hx hl (hnews ad rfl) h1 h63 hbytes hbase (fun v' w' g1 g2 _ => h v' w' g1 g2)
  | none =>
    obtain rfl := hA rfl
    obtain rfl : news = [] := List.eq_nil_of_length_eq_zero (by omega)
    refine wpList_plain hgd fun K hK => ?_
    have hrun := run_append_none_cap (P := P) (w := w) base t o.type e i size ht hi v n xs hown c
    unfold Oper.wp
    simp [execOp, ho, resolve, invoke, builtin, hs, hx, hrun, Result.andThen]
    exact hK _ _ (h v w (by simpa using hown) ⟨rfl, rfl, rfl, Nat.le_refl _, fun _ _ _ => rfl⟩)
def NRow {α : Type} (f : α → Array Value) (n : Nat) (w : World) (B : Nat) (A : Option Addr) (l : List α) : Prop :=
  ∀ k (h : k < l.length), ∃ g o, A = some ⟨g, o, none⟩ ∧ g < B ∧ ∀ j, j < n → w.cell? ⟨g, o + k * n + j, none⟩ = (f l[k])[j]?
def nvl {α : Type} (f : α → Array Value) (l : List α) : List Value := l.flatMap fun a => (f a).toList
theorem nvl_len {α : Type} {f : α → Array Value} {n : Nat} (hf : ∀ a, (f a).size = n) (l : List α) : (nvl f l).length = l.length * n := flat_len _ n (fun a => by simp [hf]) l
theorem nvl_append {α : Type} (f : α → Array Value) (l m : List α) : nvl f (l ++ m) = nvl f l ++ nvl f m := by unfold nvl; rw [List.flatMap_append]
theorem nvl_one {α : Type} {f : α → Array Value} (h : ∀ a, ∀ u ∈ (f a).toList, u.oneCell' = true) (l : List α) : ∀ u ∈ nvl f l, u.oneCell' = true := by
  intro u hu
  unfold nvl at hu
  obtain ⟨a, _, hz⟩ := List.mem_flatMap.1 hu
  exact h a u hz
theorem nrow_news {α : Type} {f : α → Array Value} {n : Nat} (hf : ∀ a, (f a).size = n) (hn : 0 < n) {w : World} {B : Nat} {A : Option Addr} {l : List α} (h : NRow f n w B A l) (ad : Addr) (hA : A = some ad) : ∀ j u, (nvl f l)[j]? = some u → w.cell? (ad.add j) = some u := by
  intro j u hu
  have hj : j < l.length * n := by have := (List.getElem?_eq_some_iff.1 hu).1; rwa [nvl_len hf] at this
  have hk : j / n < l.length := (Nat.div_lt_iff_lt_mul hn).2 hj
  obtain ⟨g, o, e, _, c⟩ := h (j / n) hk
  rw [hA] at e; cases e
  rw [add_at]
  have hm : j % n < n := Nat.mod_lt _ hn
  have h1 := c (j % n) hm
  have h2 := flat_get (fun a => (f a).toList) n (fun a => by simp [hf]) l (j / n) hk (j % n) hm
  have h3 : j / n * n + j % n = j := by rw [Nat.mul_comm]; exact Nat.div_add_mod j n
  rw [Nat.add_assoc, h3] at h1
  rw [h3] at h2
  unfold nvl at hu
  rw [hu] at h2
  rw [h1, h2]
  simp
theorem nrow_none {α : Type} {f : α → Array Value} {n : Nat} {w : World} {B : Nat} {A : Option Addr} {l : List α} (h : NRow f n w B A l) (hA : A = none) : l.length = 0 := by
  cases l with
  | nil => rfl
  | cons a l => obtain ⟨g, o, e, _⟩ := h 0 (by simp); rw [hA] at e; cases e
theorem own_nrow {α : Type} {f : α → Array Value} {n : Nat} (hf : ∀ a, (f a).size = n) {w : World} {base : Nat} {t : TypeId} {v : Value} {l : List α} (h : w.ownsRow base t n v l.length (nvl f l)) :
    ∃ A cap, v = .slice A l.length cap ∧ NRow f n w w.heap.size A l := by
  obtain ⟨_, (⟨rfl, h0⟩ | ⟨g, cap, cur, rfl, hb, hg, h1, h2, h3, h4⟩)⟩ := h
  · exact ⟨none, 0, by rw [h0], fun k hk => by omega⟩
  · refine ⟨some ⟨g, 0, none⟩, cap, rfl, fun k hk => ⟨g, 0, rfl, ?_, fun j hj => ?_⟩⟩
    · have hg1 : Has w g t cur := hg
      exact hg1.lt
    · have hg1 : Has w g t cur := hg
      rw [Nat.zero_add, hg1.cell]
      have hlt : k * n + j < l.length * n := by
        have := Nat.mul_le_mul_right n (show k + 1 ≤ l.length from hk)
        rw [Nat.succ_mul] at this
        omega
      have := congrArg (fun l : List Value => l[k * n + j]?) h4
      simp only [List.getElem?_take_of_lt hlt] at this
      unfold nvl at this
      rw [flat_get (fun a => (f a).toList) n (fun a => by simp [hf]) l k hk j hj] at this
      simpa using this
theorem NRow.take {α : Type} {f : α → Array Value} {n : Nat} {w : World} {B : Nat} {A : Option Addr} {l : List α} (h : NRow f n w B A l) (k : Nat) : NRow f n w B A (l.take k) := by
  intro i hi
  have hi2 : i < l.length := by simp at hi; omega
  obtain ⟨g, o, e, hg, c⟩ := h i hi2
  exact ⟨g, o, e, hg, fun j hj => by rw [List.getElem_take]; exact c j hj⟩
theorem NRow.drop {α : Type} {f : α → Array Value} {n : Nat} {w : World} {B : Nat} {A : Option Addr} {l : List α} (h : NRow f n w B A l) (k : Nat) : NRow f n w B (A.map fun a => a.add (k * n)) (l.drop k) := by
  intro i hi
  have hi2 : k + i < l.length := by simp at hi; omega
  obtain ⟨g, o, e, hg, c⟩ := h (k + i) hi2
  refine ⟨g, o + k * n, by rw [e]; simp [add_at], hg, fun j hj => ?_⟩
  rw [List.getElem_drop, ← c j hj]
  congr 2
  rw [Nat.add_mul]; omega
theorem NRow.below {α : Type} {f : α → Array Value} {n : Nat} {w w' : World} {B : Nat} {A : Option Addr} {l : List α} (h : NRow f n w B A l) (hb : Below B w w') : NRow f n w' B A l := fun k hk => by
  obtain ⟨g, o, e, hg, c⟩ := h k hk
  exact ⟨g, o, e, hg, fun j hj => (hb.cell (p := ⟨g, _, none⟩) hg).trans (c j hj)⟩
theorem NRow.more {α : Type} {f : α → Array Value} {n : Nat} {w : World} {B B' : Nat} {A : Option Addr} {l : List α} (h : NRow f n w B A l) (hB : B ≤ B') : NRow f n w B' A l := fun k hk => by
  obtain ⟨g, o, e, hg, c⟩ := h k hk
  exact ⟨g, o, e, by omega, c⟩
theorem own_empty_n (w : World) (B : Nat) (hB : B ≤ w.heap.size) (e : TypeId) (n : Nat) : (w.alloc (.cells #[] e)).ownsRow B e n (.slice (some ⟨w.heap.size, 0, none⟩) 0 0) 0 [] :=
  ⟨by simp, .inr ⟨w.heap.size, 0, #[], rfl, hB, by have := Has.new w e #[]; simpa [Has] using this, Nat.le_refl _, by simp, by simp, by simp⟩⟩
theorem own_far {w : World} {base n size : Nat} {e : TypeId} {v : Value} {xs : List Value} (h : w.ownsRow base e size v n xs) {p : Addr} (hp : p.block < base) (u : Value) : (w.setCell p u).ownsRow base e size v n xs := by
  obtain ⟨h0, (h1 | ⟨g, cap, cur, rfl, hb, hg, h2⟩)⟩ := h
  · exact ⟨h0, .inl h1⟩
  · have hg1 : Has w g e cur := hg
    have hg2 : Has (w.setCell p u) g e cur := hg1.far (by omega) u
    exact ⟨h0, .inr ⟨g, cap, cur, rfl, hb, hg2, h2⟩⟩
theorem own_slice {w : World} {base size n : Nat} {e : TypeId} {v : Value} {xs : List Value} (h : w.ownsRow base e size v n xs) : ∃ A cap, v = .slice A n cap ∧ (A = none → n = 0) ∧ (∀ g f, A = some ⟨g, f, none⟩ → base ≤ g ∧ f = 0 ∧ g < w.heap.size ∧ ∃ cur, Has w g e cur ∧ cur.toList.take (n * size) = xs) := by
  obtain ⟨hl, ⟨rfl, rfl⟩ | ⟨g, cap, cur, rfl, hB, hgc, h1, h2, h3, h4⟩⟩ := h
  · exact ⟨none, 0, rfl, fun _ => rfl, fun g f e => (by cases e)⟩
  · refine ⟨some ⟨g, 0, none⟩, cap, rfl, fun e => (by cases e), fun g' f' e => ?_⟩
    cases e
    have hh : Has w g e cur := hgc
    exact ⟨hB, rfl, hh.lt, cur, hh, h4⟩
theorem own_step {w w' : World} {base size n : Nat} {e : TypeId} {v : Value} {xs : List Value} (h : w.ownsRow base e size v n xs) (hb : Below w.heap.size w w') : w'.ownsRow base e size v n xs := by
  obtain ⟨hl, h0 | ⟨g, cap, cur, rfl, hB, hgc, h1, h2, h3, h4⟩⟩ := h
  · exact ⟨hl, .inl h0⟩
  · have hh : Has w g e cur := hgc
    exact ⟨hl, .inr ⟨g, cap, cur, rfl, hB, hh.below hb hh.lt, h1, h2, h3, h4⟩⟩
theorem own_nil (w : World) (base size : Nat) (e : TypeId) : w.ownsRow base e size (.slice none 0 0) 0 [] := ⟨by simp, .inl ⟨rfl, rfl⟩⟩
theorem own_block {w : World} {base size n : Nat} {e : TypeId} {v : Value} {xs : List Value} (h : w.ownsRow base e size v n xs) : ∀ b, v.ownBlock = some b → base ≤ b ∧ b < w.heap.size := by
  intro b hb
  obtain ⟨hl, ⟨rfl, -⟩ | ⟨g, cap, cur, rfl, hB, hgc, h1, h2, h3, h4⟩⟩ := h
  · cases hb
  · have hh : Has w g e cur := hgc
    cases hb
    exact ⟨hB, hh.lt⟩
theorem copy_below {w w1 : World} {e : TypeId} (hgr : (w.alloc (.cells #[] e)).grownBy w1 (Value.slice (some ⟨w.heap.size, 0, none⟩) 0 0).ownBlock) : Below w.heap.size w w1 := by
  have h1 := below_one w (.cells #[] e)
  exact ⟨hgr.os.trans h1.os, hgr.tape.trans h1.tape, hgr.output.trans h1.output, Nat.le_trans h1.size hgr.size, fun k hk => (hgr.block k (by simp; omega) (by simp only [Value.ownBlock, ne_eq, Option.some.injEq]; omega)).trans (h1.block k hk)⟩
theorem own_made (w : World) (e : TypeId) (size : Nat) : (w.alloc (.cells #[] e)).ownsRow w.heap.size e size (.slice (some ⟨w.heap.size, 0, none⟩) 0 0) 0 [] :=
  ⟨by simp, .inr ⟨w.heap.size, 0, #[], rfl, Nat.le_refl _, by have := Has.new w e #[]; simpa [Has] using this, Nat.le_refl _, by unfold maxLen; omega, by simp, by simp⟩⟩
end Go.Proofs.YtljkgjfmambfoaaDoor
