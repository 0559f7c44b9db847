/- Rows of numbers; the document's sorted. -/
import Derived.Test.YtfdjoldcdfbfhaaRfA
import Derived.Maps.AppendAt
import Derived.Laws.AppendOwnNone
import Derived.Deep.RegionHeld3
import Derived.Deep.RegionHeldLaw
namespace Go.Proofs.Ytfdjoldcdfbfhaa
open Go.Shelf Go.RowKit
theorem run_append_none_cap {P : Program} {w : World} (base : Nat) (t ty e : TypeId) (i : TypeInfo) (size : Nat) (ht : P.underlying t = some (.slice e)) (hi : P.info? e = some i)
    (v : Value) (n : Nat) (xs : List Value) (hown : w.ownsRow base e size v n xs) (c : Nat) :
    (Builtin.append_ #[t, t] ty #[v, .slice none 0 c]).run P w = .ok v w := by
  rcases hown.2 with ⟨rfl, rfl⟩ | ⟨g, cap, cur, rfl, _, _, hnc, _⟩
  · simp [Builtin.append_, run_underlying ht, sizeOf, typeInfo, hi, Builtin.lenOf, Builtin.firstCells]
  · simp [Builtin.append_, run_underlying ht, sizeOf, typeInfo, hi, Builtin.lenOf, Builtin.firstCells, hnc, storeCells]
theorem wpList_append_row {P : Program} {w : World} {ops : Array Oper} {rest : List Oper} {o : Oper} {a : Act} {Q : Exit → Act → World → Prop} (hgd : o.guard = none) (s x : Operand) (t : TypeId)
    (ho : o.op = .call { callee := .builtin .append, args := #[s, x], argTypes := #[t, t] })
    (base : Nat) (e : TypeId) (i : TypeInfo) (z : Value) (size bytes : Nat) (ht : P.underlying t = some (.slice e)) (hi : P.info? e = some i) (hz : i.zero = some z)
    (hsize : i.size = size) (hby : i.bytes = bytes) (hzs : z.cells.size = size) (hsz : 0 < size)
    (v : Value) (n : Nat) (xs : List Value) (hs : a.eval s = v) (hown : w.ownsRow base e size v n xs)
    (A : Option Addr) (m c : Nat) (news : List Value) (hx : a.eval x = .slice A m c) (hA : A = none → m = 0) (hl : news.length = m * size) (hnews : ∀ ad, A = some ad → ∀ j u, news[j]? = some u → w.cell? (ad.add j) = some u) (h1 : ∀ u ∈ news, u.oneCell' = true)
    (h63 : n + m ≤ maxLen) (hbytes : (n + m) * bytes ≤ 140737488355328) (hbase : base ≤ w.heap.size)
    (h : ∀ v' w', w'.ownsRow base e size v' (n + m) (xs ++ news) → w.grownBy w' v.ownBlock → wpList P ops Q rest (a.put o.dst v') w') : wpList P ops Q (o :: rest) a w := by
  cases A with
  | some ad => exact wpList_append_own w hgd s x t ho base e i z size bytes ht hi hz hsize hby hzs hsz v n xs hs hown ad m c news hx hl (hnews ad rfl) h1 h63 hbytes hbase (fun v' w' g1 g2 _ => h v' w' g1 g2)
  | none =>
    obtain rfl := hA rfl
    obtain rfl : news = [] := List.eq_nil_of_length_eq_zero (by omega)
    refine wpList_plain hgd fun K hK => ?_
    have hrun := run_append_none_cap (P := P) (w := w) base t o.type e i size ht hi v n xs hown c
    unfold Oper.wp
    simp [execOp, ho, resolve, invoke, builtin, hs, hx, hrun, Result.andThen]
    exact hK _ _ (h v w (by simpa using hown) ⟨rfl, rfl, rfl, Nat.le_refl _, fun _ _ _ => rfl⟩)
theorem step_append_row {P : Program} {w : World} {ops : Array Oper} {o : Oper} {a : Act} {K : Act → World → Prop} {Q : Exit → Act → World → Prop} {E : Prop} (hgd : o.guard = none) (s x : Operand) (t : TypeId)
    (ho : o.op = .call { callee := .builtin .append, args := #[s, x], argTypes := #[t, t] }) (dd : Option Tmp) (hdd : o.dst = dd)
    (base : Nat) (e : TypeId) (i : TypeInfo) (z : Value) (size bytes : Nat) (ht : P.underlying t = some (.slice e)) (hi : P.info? e = some i) (hz : i.zero = some z)
    (hsize : i.size = size) (hby : i.bytes = bytes) (hzs : z.cells.size = size) (hsz : 0 < size)
    (v : Value) (n : Nat) (xs : List Value) (hs : a.eval s = v) (hown : w.ownsRow base e size v n xs)
    (A : Option Addr) (m c : Nat) (news : List Value) (hx : a.eval x = .slice A m c) (hA : A = none → m = 0) (hl : news.length = m * size) (hnews : ∀ ad, A = some ad → ∀ j u, news[j]? = some u → w.cell? (ad.add j) = some u) (h1 : ∀ u ∈ news, u.oneCell' = true)
    (h63 : n + m ≤ maxLen) (hbytes : (n + m) * bytes ≤ 140737488355328) (hbase : base ≤ w.heap.size)
    (h : ∀ v' w', w'.ownsRow base e size v' (n + m) (xs ++ news) → w.grownBy w' v.ownBlock → (v'.ownBlock = v.ownBlock ∨ v'.ownBlock = some w.heap.size) → K (a.put dd v') w') :
    if Region.wanted o (yielded ops a.tmps) = true then Oper.wp P o a w K Q else E := by
  rw [if_pos (by unfold Region.wanted; rw [hgd])]
  subst hdd
  cases A with
  | some ad =>
    obtain ⟨v', w', hr, h2, h3, _, h5⟩ := run_append_own_at (P := P) w base t o.type e i z size bytes ht hi hz hsize hby hzs hsz v n xs hown ad m c news hl (hnews ad rfl) h1 h63 hbytes hbase
    unfold Oper.wp execOp
    simp only [ho, resolve, invoke, builtin, Sem.run_bind, Sem.run_pure, Result.andThen_ok, List.map_toArray, List.map_cons, List.map_nil, hs, hx, hr]
    exact h v' w' h2 h3 h5
  | none =>
    obtain rfl := hA rfl
    obtain rfl : news = [] := List.eq_nil_of_length_eq_zero (by omega)
    have hrun := run_append_none_cap (P := P) (w := w) base t o.type e i size ht hi v n xs hown c
    unfold Oper.wp execOp
    simp only [ho, resolve, invoke, builtin, Sem.run_bind, Sem.run_pure, Result.andThen_ok, List.map_toArray, List.map_cons, List.map_nil, hs, hx, hrun]
    exact h v w (by simpa using hown) ⟨rfl, rfl, rfl, Nat.le_refl _, fun _ _ _ => rfl⟩ (.inl rfl)
theorem step_at {P : Program} {ops : Array Oper} {o : Oper} {a : Act} {K : Act → World → Prop} {Q : Exit → Act → World → Prop} {E : Prop} (w : World) (h : if Region.wanted o (yielded ops a.tmps) = true then Oper.wp P o a w K Q else E) : if Region.wanted o (yielded ops a.tmps) = true then Oper.wp P o a w K Q else E := h
set_option maxRecDepth 100000 in
set_option maxHeartbeats 4000000 in
/-- a row of numbers that lies below B -/
def IRow (w : World) (B : Nat) (A : Option Addr) (l : List Int) : Prop :=
  ∀ k (h : k < l.length), ∃ g o, A = some ⟨g, o, none⟩ ∧ g < B ∧ w.cell? ⟨g, o + k, none⟩ = some (.int .i64 l[k])
theorem IRow.below {w w' : World} {B : Nat} {A : Option Addr} {l : List Int} (h : IRow w B A l) (hb : Below B w w') : IRow w' B A l := fun k hk => by
  obtain ⟨g, o, e, hg, c⟩ := h k hk
  exact ⟨g, o, e, hg, (hb.cell (p := ⟨g, _, none⟩) hg).trans c⟩
theorem IRow.more {w : World} {B B' : Nat} {A : Option Addr} {l : List Int} (h : IRow w B A l) (hB : B ≤ B') : IRow w B' A l := fun k hk => by
  obtain ⟨g, o, e, hg, c⟩ := h k hk
  exact ⟨g, o, e, by omega, c⟩
theorem IRow.step {w w' : World} {A : Option Addr} {l : List Int} (h : IRow w w.heap.size A l) (hb : Below w.heap.size w w') : IRow w' w'.heap.size A l := (h.below hb).more hb.size
theorem irow_nil (w : World) (B : Nat) (A : Option Addr) : IRow w B A [] := fun k hk => absurd hk (by simp)
theorem irow_none {w : World} {B : Nat} {A : Option Addr} {l : List Int} (h : IRow w B A l) : A = none → l.length = 0 := fun hA => by
  cases l with
  | nil => rfl
  | cons s t => obtain ⟨_, _, e, _⟩ := h 0 (by simp); rw [hA] at e; cases e
def ili (l : List Int) : List Value := l.map (Value.int .i64)
theorem ili_len (l : List Int) : (ili l).length = l.length * 1 := by simp [ili]
theorem ili_one (l : List Int) : ∀ u ∈ ili l, u.oneCell' = true := by
  intro u hu
  obtain ⟨z, _, rfl⟩ := List.mem_map.1 hu
  rfl
theorem irow_cells {w : World} {B : Nat} {A : Option Addr} {l : List Int} (h : IRow w B A l) (ad : Addr) (hA : A = some ad) : ∀ j u, (ili l)[j]? = some u → w.cell? (ad.add j) = some u := by
  intro j u hu
  have hj : j < l.length := by have := (List.getElem?_eq_some_iff.1 hu).1; simpa [ili] using this
  obtain ⟨g, o, e, _, c⟩ := h j hj
  rw [hA] at e; cases e
  rw [addr_add, c, ← hu]
  simp [ili, hj]
theorem own_irow {w : World} {base n : Nat} {v : Value} {l : List Int} (h : w.ownsRow base 3 1 v n (ili l)) (hn : n = l.length) : ∃ A cap, v = .slice A l.length cap ∧ l.length ≤ cap ∧ IRow w w.heap.size A l := by
  subst hn
  obtain ⟨_, (⟨rfl, h0⟩ | ⟨g, cap, cur, rfl, hB, hg, h1, h2, h3, h4⟩)⟩ := h
  · exact ⟨none, 0, by rw [h0], by omega, fun k hk => absurd hk (by omega)⟩
  · refine ⟨some ⟨g, 0, none⟩, cap, rfl, h1, fun k hk => ⟨g, 0, rfl, (Array.getElem?_eq_some_iff.1 hg).1, ?_⟩⟩
    have hh : Has w g 3 cur := hg
    rw [Nat.zero_add, hh.cell]
    have hk2 : (cur.toList.take (l.length * 1))[k]? = some (.int .i64 l[k]) := by rw [h4]; simp [ili, hk]
    rw [List.getElem?_take_of_lt (by omega)] at hk2
    simpa using hk2
theorem cut52_hi (A : Option Addr) (n cap k : Nat) (hk : k ≤ cap) (w : World) :
    (Instr.sliceAt 52 (.slice A n cap) none (some (.int .i64 k)) none).run Try.prog w = .ok (.slice A k cap) w := by
  have h0 : (0 : Int) ≤ k := by omega
  have h1 : (k : Int) ≤ cap := by omega
  simp [go_sem, h0, h1, Try.underlying52, sliced, Result.andThen]
def offI (A : Option Addr) (cap k : Nat) : Option Addr := if cap = k then A else A.map (fun a => a.add k)
theorem cut52_lo (A : Option Addr) (n cap k : Nat) (hk : k ≤ n) (w : World) :
    (Instr.sliceAt 52 (.slice A n cap) (some (.int .i64 k)) none none).run Try.prog w = .ok (.slice (offI A cap k) (n - k) (cap - k)) w := by
  have h0 : (0 : Int) ≤ k := by omega
  have h1 : (k : Int) ≤ n := by omega
  simp [go_sem, h0, h1, Try.underlying52, sliced, Result.andThen, offI]
theorem IRow.drop {w : World} {B : Nat} {A : Option Addr} {l : List Int} (h : IRow w B A l) {cap : Nat} (hc : l.length ≤ cap) (n : Nat) : IRow w B (offI A cap n) (l.drop n) := fun k hk => by
  have hk' : n + k < l.length := by rw [List.length_drop] at hk; omega
  obtain ⟨g, o, rfl, hg, c⟩ := h (n + k) hk'
  refine ⟨g, o + n, ?_, hg, ?_⟩
  · unfold offI; rw [if_neg (by omega)]; simp [addr_add]
  · rw [List.getElem_drop, show o + n + k = o + (n + k) by omega]; exact c
theorem IRow.take {w : World} {B : Nat} {A : Option Addr} {l : List Int} (h : IRow w B A l) (n : Nat) : IRow w B A (l.take n) := fun k hk => by
  have hk' : k < l.length := by rw [List.length_take] at hk; omega
  obtain ⟨g, o, rfl, hg, c⟩ := h k hk'
  exact ⟨g, o, rfl, hg, by rw [List.getElem_take]; exact c⟩
theorem Try.info3 : (Try.prog.info? 3).map (fun i => (i.zero, i.size, i.bytes)) = some (some (.int .i64 0), 1, 8) := by kernel_rfl
/-- one more number in a sorted row -/
theorem put_sorted {ys : List Int} {x : Int} {k : Nat} (hs : ys.Pairwise (· ≤ ·)) (hk : k ≤ ys.length) (h1 : ∀ j (h : j < ys.length), j < k → ys[j] ≤ x) (h2 : ∀ h : k < ys.length, x < ys[k]) : (ys.take k ++ x :: ys.drop k).Pairwise (· ≤ ·) := by
  rw [List.pairwise_append, List.pairwise_cons]
  have hy := List.pairwise_iff_getElem.1 hs
  have hd : ∀ b ∈ ys.drop k, x ≤ b := fun b hb => by
    obtain ⟨i, hi, rfl⟩ := List.mem_iff_getElem.1 hb
    rw [List.length_drop] at hi
    rw [List.getElem_drop]
    have h3 := h2 (by omega)
    by_cases h0 : i = 0
    · subst h0; simp only [Nat.add_zero]; omega
    · have := hy k (k + i) (by omega) (by omega) (by omega); omega
  have ht : ∀ a ∈ ys.take k, a ≤ x := fun a ha => by
    obtain ⟨i, hi, rfl⟩ := List.mem_iff_getElem.1 ha
    rw [List.length_take] at hi
    rw [List.getElem_take]
    exact h1 i (by omega) (by omega)
  refine ⟨hs.sublist (List.take_sublist k ys), ⟨hd, hs.sublist (List.drop_sublist k ys)⟩, fun a ha b hb => ?_⟩
  rcases List.mem_cons.1 hb with rfl | hb
  · exact ht a ha
  · have := ht a ha; have := hd b hb; omega
theorem put_perm (ys : List Int) (x : Int) (k : Nat) : (ys.take k ++ x :: ys.drop k).Perm (x :: ys) := by
  refine List.perm_middle.trans ?_
  rw [List.take_append_drop]
def SortedPost (xs : List Int) (W : World) (e : Ending) (W' : World) : Prop :=
  ∃ A cap ys, e = .returned (.slice A ys.length cap) ∧ Below W.heap.size W W' ∧ IRow W' W'.heap.size A ys ∧ ys.Perm xs ∧ ys.Pairwise (· ≤ ·)

end Go.Proofs.Ytfdjoldcdfbfhaa
