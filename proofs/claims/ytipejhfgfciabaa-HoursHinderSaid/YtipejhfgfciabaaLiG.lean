/- The laws' padded. -/
import Derived.Test.YtipejhfgfciabaaLiB
import Derived.Test.YtipejhfgfciabaaLiE
namespace Go.Proofs.Ytipejhfgfciabaa
open Go.Shelf Go.RowKit
theorem run_append_none_cap {P : Program} {w : World} (base : Nat) (t ty e : TypeId) (i : TypeInfo) (size : Nat) (ht : P.underlying t = some (.slice e)) (hi : P.info? e = some i)
    (v : Value) (n : Nat) (xs : List Value) (hown : w.ownsRow base e size v n xs) (c : Nat) :
    (Builtin.append_ #[t, t] ty #[v, .slice none 0 c]).run P w = .ok v w := by
  rcases hown.2 with ⟨rfl, rfl⟩ | ⟨g, cap, cur, rfl, _, _, hnc, _⟩
  · simp [Builtin.append_, run_underlying ht, sizeOf, typeInfo, hi, Builtin.lenOf, Builtin.firstCells]
  · simp [Builtin.append_, run_underlying ht, sizeOf, typeInfo, hi, Builtin.lenOf, Builtin.firstCells, hnc, storeCells]
theorem wpList_append_row {P : Program} {w : World} {ops : Array Oper} {rest : List Oper} {o : Oper} {a : Act} {Q : Exit → Act → World → Prop} (hgd : o.guard = none) (s x : Operand) (t : TypeId)
    (ho : o.op = .call { callee := .builtin .append, args := #[s, x], argTypes := #[t, t] })
    (base : Nat) (e : TypeId) (i : TypeInfo) (z : Value) (size bytes : Nat) (ht : P.underlying t = some (.slice e)) (hi : P.info? e = some i) (hz : i.zero = some z)
    (hsize : i.size = size) (hby : i.bytes = bytes) (hzs : z.cells.size = size) (hsz : 0 < size)
    (v : Value) (n : Nat) (xs : List Value) (hs : a.eval s = v) (hown : w.ownsRow base e size v n xs)
    (A : Option Addr) (m c : Nat) (news : List Value) (hx : a.eval x = .slice A m c) (hA : A = none → m = 0) (hl : news.length = m * size) (hnews : ∀ ad, A = some ad → ∀ j u, news[j]? = some u → w.cell? (ad.add j) = some u) (h1 : ∀ u ∈ news, u.oneCell' = true)
    (h63 : n + m ≤ maxLen) (hbytes : (n + m) * bytes ≤ 140737488355328) (hbase : base ≤ w.heap.size)
    (h : ∀ v' w', w'.ownsRow base e size v' (n + m) (xs ++ news) → w.grownBy w' v.ownBlock → wpList P ops Q rest (a.put o.dst v') w') : wpList P ops Q (o :: rest) a w := by
  cases A with
  | some ad => exact wpList_append_own w hgd s x t ho base e i z size bytes ht hi hz hsize hby hzs hsz v n xs hs hown ad m c news hx hl (hnews ad rfl) h1 h63 hbytes hbase (fun v' w' g1 g2 _ => h v' w' g1 g2)
  | none =>
    obtain rfl := hA rfl
    obtain rfl : news = [] := List.eq_nil_of_length_eq_zero (by omega)
    refine wpList_plain hgd fun K hK => ?_
    have hrun := run_append_none_cap (P := P) (w := w) base t o.type e i size ht hi v n xs hown c
    unfold Oper.wp
    simp [execOp, ho, resolve, invoke, builtin, hs, hx, hrun, Result.andThen]
    exact hK _ _ (h v w (by simpa using hown) ⟨rfl, rfl, rfl, Nat.le_refl _, fun _ _ _ => rfl⟩)
theorem own_empty (w : World) (B : Nat) (hB : B ≤ w.heap.size) (e : TypeId) : (w.alloc (.cells #[] e)).ownsRow B e 1 (.slice (some ⟨w.heap.size, 0, none⟩) 0 0) 0 [] :=
  ⟨by simp, .inr ⟨w.heap.size, 0, #[], rfl, hB, by have := Has.new w e #[]; simpa [Has] using this, Nat.le_refl _, by decide, by simp, by simp⟩⟩
theorem add_at (g o j : Nat) : (⟨g, o, none⟩ : Addr).add j = ⟨g, o + j, none⟩ := by
  unfold Addr.add
  by_cases h : j = 0
  · subst h; rfl
  · simp [h]
theorem irow_news {w : World} {B : Nat} {A : Option Addr} {l : List Int} (h : IRow w B A l) (ad : Addr) (hA : A = some ad) : ∀ j u, (ivl l)[j]? = some u → w.cell? (ad.add j) = some u := by
  intro j u hu
  have hj : j < l.length := by have := (List.getElem?_eq_some_iff.1 hu).1; simpa [ivl] using this
  obtain ⟨g, o, e, _, c⟩ := h j hj
  rw [hA] at e; cases e
  rw [add_at, c, ← hu]
  simp [ivl, hj]
theorem irow_none {w : World} {B : Nat} {A : Option Addr} {l : List Int} (h : IRow w B A l) (hA : A = none) : l.length = 0 := by
  rcases Nat.eq_zero_or_pos l.length with h0 | h0
  · exact h0
  · obtain ⟨g, o, e, _⟩ := h 0 h0
    rw [hA] at e; cases e
/-- a new row of numbers -/
def NewRow (l : List Int) (W : World) (e : Ending) (W' : World) : Prop := ∃ A c, e = .returned (.slice A l.length c) ∧ IRow W' W'.heap.size A l ∧ Below W.heap.size W W'
theorem rep_snoc (k : Nat) : List.replicate (k + 1) (-1 : Int) = List.replicate k (-1) ++ [-1] := by
  rw [List.replicate_succ']
set_option maxRecDepth 100000 in
set_option maxHeartbeats 1200000 in
theorem padded_any (l : List Int) (A : Option Addr) (c n : Nat) (W : World) (ha : IRow W W.heap.size A l) (hl : l.length ≤ n) (hn : n ≤ 1000) : Calls Try.prog 29 #[.slice A l.length c, .int .i64 n] W (NewRow (padP l n) W) := by
  obtain ⟨i0, hi, hz0, hz1, hz2⟩ := info_parts Try.info3
  have HA := Lib.hid (And.intro (irow_none ha) (irow_news (ha.step (below_one W (.cells #[] 3)))))
  have HO := Lib.hid (own_empty W W.heap.size (Nat.le_refl _) 3)
  have HPD : Hid (padP l n = l ++ List.replicate (n - l.length) (-1)) := Lib.hid rfl
  clear ha
  go_enter Try.func29, Try.ntmps29
  go_wp2_with (at_builtin; refine wpList_append_row rfl _ _ 26 rfl W.heap.size 3 i0 (.int .i64 0) 1 8 Try.underlying26 hi hz0 hz1 hz2 rfl (by decide) (.slice (some ⟨W.heap.size, 0, none⟩) 0 0) 0 [] rfl HO.out A l.length c (ivl l) rfl HA.out.1 (by simp [ivl]) HA.out.2 (ivl_one _) ?q1 ?q2 ?q3 ?_)
  case q1 => unfold maxLen; omega
  case q2 => omega
  case q3 => (try simp only [World.size_alloc]); omega
  intro v1 w1 hown1 hgr1
  have HW1 : Hid (Below W.heap.size W w1 ∧ w1.ownsRow W.heap.size 3 1 v1 (l ++ List.replicate 0 (-1)).length (ivl (l ++ List.replicate 0 (-1)))) := Lib.hid ⟨(below_one W _).trans (grown_below hgr1 (by simp) (fun k hk => by simp only [Value.ownBlock, Option.some.injEq] at hk; omega)), by simpa using hown1⟩
  clear hown1 hgr1
  go_wp2_with fail
  go_loopg [5] (n - l.length) (fun gk v wr => ∃ k : Nat, k ≤ n - l.length ∧ n - l.length - k ≤ gk ∧ Hid (Below W.heap.size W wr ∧ wr.ownsRow W.heap.size 3 1 v (l ++ List.replicate k (-1)).length (ivl (l ++ List.replicate k (-1)))))
  case atStart => exact ⟨0, Nat.zero_le _, Nat.le_refl _, HW1⟩
  case round =>
    clear HW1
    obtain ⟨k, hk, hgk, HW⟩ := hrel
    obtain ⟨A2, c2, hv, hrow⟩ := row_of_own HW.out.2
    subst hv
    have HRow := Lib.hid hrow
    clear hrow
    have hlen : (l ++ List.replicate k (-1 : Int)).length = l.length + k := by simp
    by_cases hlt : k < n - l.length
    rotate_left
    · have hke : k = n - l.length := by omega
      have HE := Lib.hid (show padP l n = l ++ List.replicate k (-1) by rw [HPD.out, hke])
      obtain ⟨m, hm⟩ : ∃ m, m = l ++ List.replicate k (-1 : Int) := ⟨_, rfl⟩
      rw [← hm] at HW HRow HE hlen ⊢
      have hge : ¬ (m.length : Int) < n := by omega
      clear hke hm hlen
      go_wp2_with fail
      go_ret
      show NewRow (padP l n) W _ _
      rw [HE.out]
      exact ⟨A2, c2, rfl, HRow.out, HW.out.1⟩
    obtain ⟨m, hm⟩ : ∃ m, m = l ++ List.replicate k (-1 : Int) := ⟨_, rfl⟩
    have HN := Lib.hid (show l ++ List.replicate (k + 1) (-1 : Int) = m ++ [-1] by rw [hm, rep_snoc, List.append_assoc])
    rw [← hm] at HW HRow hlen ⊢
    have hlt2 : (m.length : Int) < n := by omega
    have hm1000 : m.length ≤ 1000 := by omega
    clear hm hlen
    have HO5 := Lib.hid (own_step HW.out.2 (below_one wr (.cells #[.int .i64 (-1)] 3)))
    have hsX := HW.out.1.size
    go_wp2_with (at_builtin; refine wpList_append_own _ rfl _ _ 26 rfl W.heap.size 3 i0 (.int .i64 0) 1 8 Try.underlying26 hi hz0 hz1 hz2 rfl (by decide) (.slice A2 m.length c2) m.length (ivl m) rfl HO5.out ⟨wr.heap.size, 0, none⟩ 1 1 (ivl [-1]) rfl rfl (World.news_of_block (cs := #[.int .i64 (-1)]) (Has.new wr 3 #[.int .i64 (-1)])) (ivl_one _) ?q1 ?q2 ?q3 ?_)
    case q1 => unfold maxLen; omega
    case q2 => omega
    case q3 => (try simp only [World.size_alloc]); omega
    intro v6 w6 hown6 hgrow6 _
    have hb6 : Below W.heap.size W w6 := (HW.out.1.trans ((below_one wr (.cells #[.int .i64 (-1)] 3)).mono hsX)).trans (grown_below hgrow6 (by rw [World.size_alloc]; exact Nat.le_succ_of_le hsX) (fun q hq => (HO5.out.lt q hq).1))
    have hown : w6.ownsRow W.heap.size 3 1 v6 (l ++ List.replicate (k + 1) (-1 : Int)).length (ivl (l ++ List.replicate (k + 1) (-1 : Int))) := by
      rw [HN.out]
      simp only [List.length_append, List.length_singleton]
      have : ivl (m ++ [-1]) = ivl m ++ ivl [-1] := by simp [ivl]
      rw [this]; exact hown6
    have H6 := Lib.hid (And.intro hb6 hown)
    clear hb6 hown hown6 hgrow6 hsX
    go_wp2_with fail
    go_roundg (n - l.length - (k + 1))
    case measure => omega
    case rel => exact ⟨k + 1, by omega, Nat.le_refl _, H6⟩
end Go.Proofs.Ytipejhfgfciabaa
