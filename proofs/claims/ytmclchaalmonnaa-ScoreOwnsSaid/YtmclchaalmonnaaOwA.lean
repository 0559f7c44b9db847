/- ScoreOwns: all numbers of the arguments, laid in one row: the closure that does it. -/
import Derived.Test.YtmclchaalmonnaaOpn
import Derived.Maps.AppendAt
import Derived.Laws.EntriesVeiled
namespace Go.Proofs.Ytmclchaalmonnaa
open Go.RowKit Go.Lib
attribute [local irreducible] wpQuiet
def callF (c : Cl) : List Int := [c.place, c.element, c.under] ++ c.marks
def skF (s : Sk) : List Int := s.calls.flatMap callF ++ s.parts.flatMap (fun p => p)
def flatP (r : Ru) (l : List Sk) : List Int := r.bases ++ l.flatMap skF
theorem fm_le {α : Type} {f : α → List Int} {m : Nat} : ∀ {l : List α}, (∀ a ∈ l, (f a).length ≤ m) → (l.flatMap f).length ≤ l.length * m
  | [], _ => by simp
  | a :: l, h => by
    have h1 := h a List.mem_cons_self
    have h2 := fm_le (l := l) fun b hb => h b (List.mem_cons_of_mem _ hb)
    rw [List.flatMap_cons, List.length_append, List.length_cons, Nat.succ_mul]
    omega
theorem fm_take {α : Type} (f : α → List Int) (l : List α) {k : Nat} (h : k < l.length) : (l.take (k + 1)).flatMap f = (l.take k).flatMap f ++ f l[k] := by
  rw [List.take_succ_eq_append_getElem h, List.flatMap_append]
  simp
theorem fm_take_le {α : Type} {f : α → List Int} {m n : Nat} {l : List α} (h : ∀ a ∈ l, (f a).length ≤ m) (k : Nat) (hl : l.length ≤ n) : ((l.take k).flatMap f).length ≤ n * m := by
  refine Nat.le_trans (fm_le fun a ha => h a (List.mem_of_mem_take ha)) (Nat.mul_le_mul_right m ?_)
  rw [List.length_take]; omega
theorem callF_le {s : Sk} (h : Small s) : ∀ c ∈ s.calls, (callF c).length ≤ 23 := fun c hc => by
  have := h.m c hc
  simp [callF]; omega
theorem skF_le {s : Sk} (h : Small s) : (skF s).length ≤ 792 := by
  have h1 := fm_le (callF_le h)
  have h2 := fm_le (f := fun p : List Int => p) h.q
  have h3 := h.c
  have h4 := h.p
  have h5 := Nat.mul_le_mul_right 23 h3
  have h6 := Nat.mul_le_mul_right 20 h4
  unfold skF
  rw [List.length_append]
  omega
theorem irow_news {w : World} {B : Nat} {A : Option Addr} {l : List Int} (h : IRow w B A l) (ad : Addr) (hA : A = some ad) : ∀ j u, (ivl l)[j]? = some u → w.cell? (ad.add j) = some u := by
  intro j u hu
  have hj : j < l.length := by have := (List.getElem?_eq_some_iff.1 hu).1; simpa [ivl] using this
  obtain ⟨g, o, e, _, c⟩ := h j hj
  rw [hA] at e; cases e
  rw [add_at, c]
  have h2 : (ivl l)[j]? = some (.int .i64 l[j]) := by simp [ivl, hj]
  rw [hu] at h2
  exact h2.symm
theorem irow_none {w : World} {B : Nat} {A : Option Addr} {l : List Int} (h : IRow w B A l) (hA : A = none) : l.length = 0 := by
  cases l with
  | nil => rfl
  | cons a l => obtain ⟨g, o, e, _⟩ := h 0 (by simp); rw [hA] at e; cases e
theorem step_append_row {P : Program} {w : World} {ops : Array Oper} {o : Oper} {a : Act} {K : Act → World → Prop} {Q : Exit → Act → World → Prop} {E : Prop} (hgd : o.guard = none) (s x : Operand) (t : TypeId)
    (ho : o.op = .call { callee := .builtin .append, args := #[s, x], argTypes := #[t, t] }) (dd : Option Tmp) (hdd : o.dst = dd)
    (base : Nat) (e : TypeId) (i : TypeInfo) (z : Value) (size bytes : Nat) (ht : P.underlying t = some (.slice e)) (hi : P.info? e = some i) (hz : i.zero = some z)
    (hsize : i.size = size) (hby : i.bytes = bytes) (hzs : z.cells.size = size) (hsz : 0 < size)
    (v : Value) (n : Nat) (xs : List Value) (hs : a.eval s = v) (hown : w.ownsRow base e size v n xs)
    (A : Option Addr) (m c : Nat) (news : List Value) (hx : a.eval x = .slice A m c) (hA : A = none → m = 0) (hl : news.length = m * size) (hnews : ∀ ad, A = some ad → ∀ j u, news[j]? = some u → w.cell? (ad.add j) = some u) (h1 : ∀ u ∈ news, u.oneCell' = true)
    (h63 : n + m ≤ maxLen) (hbytes : (n + m) * bytes ≤ 140737488355328) (hbase : base ≤ w.heap.size)
    (h : ∀ v' w', w'.ownsRow base e size v' (n + m) (xs ++ news) → w.grownBy w' v.ownBlock → (v'.ownBlock = v.ownBlock ∨ v'.ownBlock = some w.heap.size) → K (a.put dd v') w') :
    if Region.wanted o (yielded ops a.tmps) = true then Oper.wp P o a w K Q else E := by
  rw [if_pos (by unfold Region.wanted; rw [hgd])]
  subst hdd
  cases A with
  | some ad =>
    obtain ⟨v', w', hr, h2, h3, _, h5⟩ := run_append_own_at (P := P) w base t o.type e i z size bytes ht hi hz hsize hby hzs hsz v n xs hown ad m c news hl (hnews ad rfl) h1 h63 hbytes hbase
    unfold Oper.wp execOp
    simp only [ho, resolve, invoke, builtin, Sem.run_bind, Sem.run_pure, Result.andThen_ok, List.map_toArray, List.map_cons, List.map_nil, hs, hx, hr]
    exact h v' w' h2 h3 h5
  | none =>
    obtain rfl := hA rfl
    obtain rfl : news = [] := List.eq_nil_of_length_eq_zero (by omega)
    have hrun := run_append_none_cap (P := P) (w := w) base t o.type e i size ht hi v n xs hown c
    unfold Oper.wp execOp
    simp only [ho, resolve, invoke, builtin, Sem.run_bind, Sem.run_pure, Result.andThen_ok, List.map_toArray, List.map_cons, List.map_nil, hs, hx, hrun]
    exact h v w (by simpa using hown) ⟨rfl, rfl, rfl, Nat.le_refl _, fun _ _ _ => rfl⟩ (.inl rfl)
/-- .. at a plain region -/
theorem wpList_append_row3 {P : Program} {w : World} {ops : Array Oper} {rest : List Oper} {o : Oper} {a : Act} {Q : Exit → Act → World → Prop} (hgd : o.guard = none) (s x : Operand) (t : TypeId)
    (ho : o.op = .call { callee := .builtin .append, args := #[s, x], argTypes := #[t, t] })
    (base : Nat) (e : TypeId) (i : TypeInfo) (z : Value) (size bytes : Nat) (ht : P.underlying t = some (.slice e)) (hi : P.info? e = some i) (hz : i.zero = some z)
    (hsize : i.size = size) (hby : i.bytes = bytes) (hzs : z.cells.size = size) (hsz : 0 < size)
    (v : Value) (n : Nat) (xs : List Value) (hs : a.eval s = v) (hown : w.ownsRow base e size v n xs)
    (A : Option Addr) (m c : Nat) (news : List Value) (hx : a.eval x = .slice A m c) (hA : A = none → m = 0) (hl : news.length = m * size) (hnews : ∀ ad, A = some ad → ∀ j u, news[j]? = some u → w.cell? (ad.add j) = some u) (h1 : ∀ u ∈ news, u.oneCell' = true)
    (h63 : n + m ≤ maxLen) (hbytes : (n + m) * bytes ≤ 140737488355328) (hbase : base ≤ w.heap.size)
    (h : ∀ v' w', w'.ownsRow base e size v' (n + m) (xs ++ news) → w.grownBy w' v.ownBlock → (v'.ownBlock = v.ownBlock ∨ v'.ownBlock = some w.heap.size) → wpList P ops Q rest (a.put o.dst v') w') : wpList P ops Q (o :: rest) a w := by
  refine wpList_plain hgd fun K hK => ?_
  have := step_append_row (P := P) (ops := ops) (E := True) (K := K) (Q := Q) hgd s x t ho o.dst rfl base e i z size bytes ht hi hz hsize hby hzs hsz v n xs hs hown A m c news hx hA hl hnews h1 h63 hbytes hbase (fun v' w' g1 g2 g3 => hK _ _ (h v' w' g1 g2 g3))
  rwa [if_pos (by unfold Region.wanted; rw [hgd])] at this
/-- a row of numbers that grows, and blocks beside it -/
structure FL (W w : World) (v : Value) (X : List Int) (B : List (Nat × TypeId × Array Value)) : Prop where
  b : Below W.heap.size W w
  own : w.ownsRow W.heap.size 3 1 v X.length (ivl X)
  bx : ∀ p ∈ B, Has w p.1 p.2.1 p.2.2 ∧ v.ownBlock ≠ some p.1
section
variable {W w w' : World} {v v' : Value} {X Y : List Int} {B : List (Nat × TypeId × Array Value)}
theorem FL.step (h : FL W w v X B) (hb : Below w.heap.size w w') : FL W w' v X B :=
  ⟨h.b.trans (hb.mono h.b.size), own_step h.own hb, fun p hp => ⟨(h.bx p hp).1.below hb (h.bx p hp).1.lt, (h.bx p hp).2⟩⟩
theorem FL.drew (h : FL W w v X B) : FL W w.drew v X B := h.step ((Below.refl _ _).drew)
theorem FL.box (h : FL W w v X B) (t : TypeId) (cs : Array Value) : FL W (w.alloc (.cells cs t)) v X ((w.heap.size, t, cs) :: B) := by
  have h1 := h.step (below_one w (.cells cs t))
  refine ⟨h1.b, h1.own, fun p hp => ?_⟩
  rcases List.mem_cons.1 hp with rfl | hp
  · refine ⟨Has.new _ _ _, fun e => ?_⟩
    have := (own_block h.own _ e).2
    simp only at this
    omega
  · exact h1.bx p hp
theorem FL.less (h : FL W w v X B) {B' : List (Nat × TypeId × Array Value)} (hB : ∀ p ∈ B', p ∈ B) : FL W w v X B' := ⟨h.b, h.own, fun p hp => h.bx p (hB p hp)⟩
theorem FL.tl {p : Nat × TypeId × Array Value} (h : FL W w v X (p :: B)) : FL W w v X B := h.less (fun _ hq => List.mem_cons_of_mem _ hq)
theorem FL.app (h : FL W w v X B) (hown : w'.ownsRow W.heap.size 3 1 v' (X.length + Y.length) (ivl X ++ ivl Y)) (hgr : w.grownBy w' v.ownBlock) (hat : v'.ownBlock = v.ownBlock ∨ v'.ownBlock = some w.heap.size) : FL W w' v' (X ++ Y) B := by
  refine ⟨h.b.trans (grown_step hgr h.b.size (fun b hb => (own_block h.own b hb).1)), ?_, fun p hp => ?_⟩
  · rw [List.length_append, show ivl (X ++ Y) = ivl X ++ ivl Y by simp [ivl]]
    exact hown
  · obtain ⟨h1, h2⟩ := h.bx p hp
    refine ⟨?_, ?_⟩
    · have := hgr.block p.1 h1.lt (fun e => h2 e.symm)
      unfold Has at h1 ⊢
      rw [this]; exact h1
    · rcases hat with e | e
      · rw [e]; exact h2
      · rw [e]; intro e2; have e3 := Option.some.inj e2; have e4 := h1.lt; omega
theorem FL.row {U : Option Addr} {n c : Nat} (h : FL W w (.slice U n c) X B) : IRow w w.heap.size U X := by
  obtain ⟨A, cap, e, hr⟩ := own_ira h.own
  cases e
  exact (hr none (fun b hb => by cases hb)).row
theorem FL.nil (W : World) : FL W (W.alloc (.cells #[] 3)) (.slice (some ⟨W.heap.size, 0, none⟩) 0 0) [] [] := ⟨below_one _ _, own_empty_n W _ (Nat.le_refl _) 3 1, fun p hp => absurd hp (by simp)⟩
end
def FlPost (X : List Int) (W : World) (e : Ending) (W' : World) : Prop := ∃ A c, e = .returned (.slice A X.length c) ∧ IRow W' W'.heap.size A X ∧ Below W.heap.size W W'
theorem flat_post {W w : World} {U : Option Addr} {c : Nat} {X Z : List Int} {B : List (Nat × TypeId × Array Value)} (h : FL W w (.slice U X.length c) X B) (e : X = Z) : FlPost Z W (.returned (.slice U X.length c)) w := by
  subst e
  exact ⟨U, c, rfl, h.row, h.b⟩
set_option maxRecDepth 100000 in
set_option maxHeartbeats 2000000 in
theorem flat_any (r : Ru) (A : Option Addr) (c : Nat) (l : List Sk) (L : Option Addr) (k0 : Nat) (W : World) (hr : IRow W W.heap.size A r.bases) (hs : SRow W W.heap.size L l) (h80 : r.bases.length ≤ 80) (hl8 : l.length ≤ 8) (hsm : ∀ s ∈ l, Small s) (P4 P5 : Nat) (h4 : Has W P4 24 (ruc r A c)) (h5 : Has W P5 30 #[.slice L l.length k0]) :
    Calls Try.prog 38 #[.pointer (some ⟨P4, 0, none⟩), .pointer (some ⟨P5, 0, none⟩)] W (FlPost (flatP r l) W) := by
  obtain ⟨i0, hi, hz0, hz1, hz2⟩ := info_parts Try.info3
  have HRS := Lib.hid (And.intro hr (And.intro hs (And.intro hsm (And.intro h4 h5))))
  have HF : Hid (flatP r l = r.bases ++ l.flatMap skF) := Lib.hid rfl
  have HYB : Hid (∀ k, (r.bases ++ (l.take k).flatMap skF).length ≤ 6416) := Lib.hid fun k => by
    have := fm_take_le (f := skF) (m := 792) (n := 8) (l := l) (fun a ha => skF_le (hsm a ha)) k hl8
    rw [List.length_append]; omega
  generalize flatP r l = FP at HF ⊢
  clear hr hs hsm
  have HN0 := Lib.hid (FL.nil W)
  have x0 : (W.alloc (.cells #[] 3)).cell? ⟨P4, 0, none⟩ = some (.slice A r.bases.length c) := (h4.alloc _).cell 0
  have HRN : Hid (IRow (W.alloc (.cells #[] 3)) W.heap.size A r.bases) := Lib.hid (HRS.out.1.below (below_one _ _))
  clear h4 h5
  go_enter Try.func38, Try.ntmps38
  go_wp2_with (at_builtin; refine wpList_append_row3 rfl _ _ 22 rfl W.heap.size 3 i0 (.int .i64 0) 1 8 Try.underlying22 hi hz0 hz1 hz2 rfl (by decide) (.slice (some ⟨W.heap.size, 0, none⟩) 0 0) 0 [] rfl HN0.out.own A r.bases.length c (ivl r.bases) rfl ?q0 ?q1 ?q2 (ivl_one _) ?q3 ?q4 ?q5 ?_)
  case q0 => exact irow_none HRN.out
  case q1 => simp [ivl]
  case q2 => exact irow_news HRN.out
  case q3 => unfold maxLen; omega
  case q4 => omega
  case q5 => simp
  intro v1 w1 hown hgr hat
  have H1 := Lib.hid (HN0.out.app (Y := r.bases) (by simpa [ivl] using hown) hgr (by rw [World.size_alloc]; exact hat))
  obtain ⟨X1, hX1⟩ : ∃ X, X = r.bases := ⟨_, rfl⟩
  simp only [List.nil_append] at H1
  rw [← hX1] at H1
  have HX1 := Lib.hid hX1
  obtain ⟨U1, c1, rfl, -, -⟩ := own_slice H1.out.own
  have y0 : w1.cell? ⟨P5, 0, none⟩ = some (.slice L l.length k0) := (HRS.out.2.2.2.2.below H1.out.b HRS.out.2.2.2.2.lt).cell 0
  clear hown hgr hat x0 HRN HN0 hX1
  go_wp2_with fail
  clear y0
  go_loopg [3, 16] l.length (fun gk u i wr => ∃ k : Nat, k ≤ l.length ∧ l.length - k ≤ gk ∧ i = .int .i64 k ∧ ∃ (X : List Int) (U : Option Addr) (cu : Nat), u = .slice U X.length cu ∧ Hid (FL W wr (.slice U X.length cu) X [] ∧ X = r.bases ++ (l.take k).flatMap skF))
  case atStart => exact ⟨0, Nat.zero_le _, Nat.le_refl _, rfl, X1, U1, c1, rfl, Lib.hid ⟨H1.out, by rw [HX1.out]; simp⟩⟩
  case round =>
    obtain ⟨k, hk, hgk, rfl, X, U, cu, rfl, HW⟩ := hrel
    clear H1 HX1
    by_cases hlt : k < l.length
    rotate_left
    · have hge : ¬ (k : Int) < l.length := by omega
      have HE : Hid (X = FP) := Lib.hid (by rw [HW.out.2, HF.out, List.take_of_length_le (by omega)])
      clear hk hgk hlt
      go_wp2_with fail
      go_ret
      exact flat_post HW.out.1 HE.out
    have hlt2 : (k : Int) < l.length := by omega
    obtain ⟨g, o, AC, AP, cc, cp, hg, hgs, hc, hsk⟩ := HRS.out.2.1 k hlt
    have HSK := Lib.hid hsk
    have HSM := Lib.hid (HRS.out.2.2.1 l[k] (List.getElem_mem hlt))
    have HNX := Lib.hid (fm_take skF l hlt)
    have HXB : Hid (X.length ≤ 6416) := Lib.hid (by rw [HW.out.2]; exact HYB.out k)
    obtain ⟨x, hx⟩ : ∃ x, x = l[k] := ⟨_, rfl⟩
    rw [← hx] at hc HSK HSM HNX
    subst hg
    have y0 : wr.cell? ⟨g, o + k * 3, none⟩ = some (.slice AC x.calls.length cc) := (HW.out.1.b.cell (p := ⟨g, _, none⟩) hgs).trans (hc 0 (by omega))
    have y1 : wr.cell? ⟨g, o + k * 3 + 1, none⟩ = some (.slice AP x.parts.length cp) := (HW.out.1.b.cell (p := ⟨g, _, none⟩) hgs).trans (hc 1 (by omega))
    have y2 : wr.cell? ⟨g, o + k * 3 + 2, none⟩ = some (.int .i64 x.over) := (HW.out.1.b.cell (p := ⟨g, _, none⟩) hgs).trans (hc 2 (by omega))
    have H6 := Lib.hid (And.intro (HW.out.1.box 28 (skc x AC AP cc cp)) HW.out.2)
    have hcl := HSM.out.c
    have hpl := HSM.out.p
    clear hgs hc hsk hx HW
    go_upto_region 5 with fail
    generalize wr.alloc (.cells (skc x AC AP cc cp) 28) = w6 at H6 ⊢
    generalize wr.heap.size = E at H6 ⊢
    clear y0 y1 y2
    have y0 : w6.cell? ⟨E, 0, none⟩ = some (.slice AC x.calls.length cc) := (H6.out.1.bx _ List.mem_cons_self).1.cell 0
    go_wp2_with fail
    clear y0
    go_loopg [3, 23] x.calls.length (fun gk2 u i wx => ∃ q : Nat, q ≤ x.calls.length ∧ x.calls.length - q ≤ gk2 ∧ i = .int .i64 q ∧ ∃ (Z : List Int) (U : Option Addr) (cu : Nat), u = .slice U Z.length cu ∧ Hid (FL W wx (.slice U Z.length cu) Z [(E, 28, skc x AC AP cc cp)] ∧ Z = X ++ (x.calls.take q).flatMap callF))
    case atStart => exact ⟨0, Nat.zero_le _, Nat.le_refl _, rfl, X, U, cu, rfl, Lib.hid ⟨H6.out.1, by simp⟩⟩
    case round =>
      obtain ⟨q, hq, hgq, rfl, Z, UZ, cz, rfl, HW⟩ := hrel
      by_cases hqt : q < x.calls.length
      rotate_left
      · have hqe : ¬ (q : Int) < x.calls.length := by omega
        have HZ : Hid (Z = X ++ x.calls.flatMap callF) := Lib.hid (by rw [HW.out.2, List.take_of_length_le (by omega)])
        have HZB : Hid (Z.length ≤ 6416 + 552) := Lib.hid (by
          have h1 := fm_le (callF_le HSM.out)
          have h2 := Nat.mul_le_mul_right 23 hcl
          have h3 := HXB.out
          rw [HZ.out, List.length_append]; omega)
        have H7 := Lib.hid HW.out.1
        have y1 : wr.cell? ⟨E, 1, none⟩ = some (.slice AP x.parts.length cp) := (H7.out.bx _ List.mem_cons_self).1.cell 1
        clear hq hgq hqt HW
        go_wp2_with fail
        clear y1 hqe
        obtain ⟨w7, rfl⟩ : ∃ w7, w7 = wr := ⟨_, rfl⟩
        go_loopg [3, 43] x.parts.length (fun gk2 u i wx => ∃ q : Nat, q ≤ x.parts.length ∧ x.parts.length - q ≤ gk2 ∧ i = .int .i64 q ∧ ∃ (Y : List Int) (U : Option Addr) (cu : Nat), u = .slice U Y.length cu ∧ Hid (FL W wx (.slice U Y.length cu) Y [] ∧ Y = Z ++ (x.parts.take q).flatMap (fun p => p)))
        case atStart => exact ⟨0, Nat.zero_le _, Nat.le_refl _, rfl, Z, UZ, cz, rfl, Lib.hid ⟨H7.out.less (fun p hp => absurd hp (by simp)), by simp⟩⟩
        case round =>
          obtain ⟨q, hq, hgq, rfl, Y, UY, cy, rfl, HW⟩ := hrel
          clear H7
          by_cases hqt : q < x.parts.length
          rotate_left
          · have hqe : ¬ (q : Int) < x.parts.length := by omega
            have HE : Hid (Y = r.bases ++ (l.take (k + 1)).flatMap skF) := Lib.hid (by
              rw [HNX.out, HW.out.2, List.take_of_length_le (by omega), HZ.out, H6.out.2]
              unfold skF
              simp only [List.append_assoc])
            have H8 := Lib.hid HW.out.1
            clear hq hgq hqt HW HZ HZB HNX HXB
            go_wp2_with fail
            go_roundg (l.length - (k + 1))
            case measure => omega
            case rel => exact ⟨k + 1, by omega, Nat.le_refl _, by go_num, Y, UY, cy, rfl, Lib.hid ⟨H8.out, HE.out⟩⟩
          have hqt2 : (q : Int) < x.parts.length := by omega
          obtain ⟨g2, o2, M, m, e2, hg2, hc2, hm2, hml2⟩ := HSK.out.p q hqt
          have HNP := Lib.hid (fm_take (fun p : List Int => p) x.parts hqt)
          have hm20 := HSM.out.q x.parts[q] (List.getElem_mem hqt)
          have HYL : Hid (Y.length ≤ 6416 + 552 + 240) := Lib.hid (by
            have h1 := fm_take_le (f := fun p : List Int => p) (m := 20) (n := 12) HSM.out.q q hpl
            have h3 := HZB.out
            rw [HW.out.2, List.length_append]; omega)
          obtain ⟨p, hp⟩ : ∃ p, p = x.parts[q] := ⟨_, rfl⟩
          rw [← hp] at hc2 hm2 HNP hm20
          have t0 : wr.cell? ⟨g2, o2 + q, none⟩ = some (.slice M p.length m) := (HW.out.1.b.cell (p := ⟨g2, _, none⟩) hg2).trans hc2
          have HMR := Lib.hid (hm2.below HW.out.1.b)
          have hyl := HYL.out
          subst e2
          clear hp hm2 hg2 hc2 hml2 HYL
          go_wp2_with (at_builtin; refine wpList_append_row3 rfl _ _ 22 rfl W.heap.size 3 i0 (.int .i64 0) 1 8 Try.underlying22 hi hz0 hz1 hz2 rfl (by decide) (.slice UY Y.length cy) Y.length (ivl Y) rfl HW.out.1.own M p.length m (ivl p) rfl ?r0 ?r1 ?r2 (ivl_one _) ?r3 ?r4 ?r5 ?_)
          case r0 => exact irow_none HMR.out
          case r1 => simp [ivl]
          case r2 => exact irow_news HMR.out
          case r3 => unfold maxLen; omega
          case r4 => omega
          case r5 => exact HW.out.1.b.size
          intro v9 w9 hown hgr hat
          have H9 := Lib.hid (HW.out.1.app (Y := p) hown hgr hat)
          obtain ⟨Y2, hY2⟩ : ∃ Y2, Y2 = Y ++ p := ⟨_, rfl⟩
          rw [← hY2] at H9
          have HE : Hid (Y2 = Z ++ (x.parts.take (q + 1)).flatMap (fun p => p)) := Lib.hid (by rw [hY2, HNP.out, HW.out.2, List.append_assoc])
          obtain ⟨U9, c9, rfl, -, -⟩ := own_slice H9.out.own
          clear hown hgr hat hY2 HW HMR HNP t0 hyl
          go_wp2_with fail
          go_roundg (x.parts.length - (q + 1))
          case measure => omega
          case rel => exact ⟨q + 1, by omega, Nat.le_refl _, by go_num, Y2, U9, c9, rfl, Lib.hid ⟨H9.out, HE.out⟩⟩
      have hqt2 : (q : Int) < x.calls.length := by omega
      obtain ⟨g2, o2, M, m, e2, hg2, hc2, hm2, hml2⟩ := HSK.out.c q hqt
      have HNC := Lib.hid (fm_take callF x.calls hqt)
      have hm20 := HSM.out.m x.calls[q] (List.getElem_mem hqt)
      have HZL : Hid (Z.length ≤ 6416 + 552) := Lib.hid (by
        have h1 := fm_take_le (f := callF) (m := 23) (n := 24) (callF_le HSM.out) q hcl
        have h3 := HXB.out
        rw [HW.out.2, List.length_append]; omega)
      obtain ⟨y, hy⟩ : ∃ y, y = x.calls[q] := ⟨_, rfl⟩
      rw [← hy] at hc2 hm2 HNC hm20
      have t0 : wr.cell? ⟨g2, o2 + q * 6, none⟩ = some (.int .i64 y.place) := (HW.out.1.b.cell (p := ⟨g2, _, none⟩) hg2).trans (hc2 0 (by omega))
      have t1 : wr.cell? ⟨g2, o2 + q * 6 + 1, none⟩ = some (.int .i64 y.element) := (HW.out.1.b.cell (p := ⟨g2, _, none⟩) hg2).trans (hc2 1 (by omega))
      have t2 : wr.cell? ⟨g2, o2 + q * 6 + 2, none⟩ = some (.int .i64 y.under) := (HW.out.1.b.cell (p := ⟨g2, _, none⟩) hg2).trans (hc2 2 (by omega))
      have t3 : wr.cell? ⟨g2, o2 + q * 6 + 3, none⟩ = some (.bool y.late) := (HW.out.1.b.cell (p := ⟨g2, _, none⟩) hg2).trans (hc2 3 (by omega))
      have t4 : wr.cell? ⟨g2, o2 + q * 6 + 4, none⟩ = some (.bool y.fall) := (HW.out.1.b.cell (p := ⟨g2, _, none⟩) hg2).trans (hc2 4 (by omega))
      have t5 : wr.cell? ⟨g2, o2 + q * 6 + 5, none⟩ = some (.slice M y.marks.length m) := (HW.out.1.b.cell (p := ⟨g2, _, none⟩) hg2).trans (hc2 5 (by omega))
      have H7 := Lib.hid (And.intro (HW.out.1.box 52 (clc y M m)) HW.out.2)
      have HMR := Lib.hid hm2
      have hzl := HZL.out
      subst e2
      clear hy hm2 hg2 hc2 hml2 HZL HW
      go_upto_region 8 with fail
      generalize wr.alloc (.cells (clc y M m) 52) = w7 at H7 ⊢
      generalize wr.heap.size = F at H7 ⊢
      clear t0 t1 t2 t3 t4 t5
      have H8 := Lib.hid H7.out.1.drew
      have HZE := Lib.hid H7.out.2
      have K8 : Hid (w7.drew.cell? ⟨F, 0, none⟩ = some (.int .i64 y.place) ∧ w7.drew.cell? ⟨F, 1, none⟩ = some (.int .i64 y.element) ∧ w7.drew.cell? ⟨F, 2, none⟩ = some (.int .i64 y.under) ∧ w7.drew.cell? ⟨F, 5, none⟩ = some (.slice M y.marks.length m)) := Lib.hid ⟨(H8.out.bx _ List.mem_cons_self).1.cell 0, (H8.out.bx _ List.mem_cons_self).1.cell 1, (H8.out.bx _ List.mem_cons_self).1.cell 2, (H8.out.bx _ List.mem_cons_self).1.cell 5⟩
      clear H7
      refine wp_region_late (fun w' : World => w'.cell? ⟨F, 0, none⟩ = some (.int .i64 y.place) ∧ w'.cell? ⟨F, 1, none⟩ = some (.int .i64 y.element) ∧ w'.cell? ⟨F, 2, none⟩ = some (.int .i64 y.under) ∧ w'.cell? ⟨F, 5, none⟩ = some (.slice M y.marks.length m)) [] (by kernel_rfl) ?_
      generalize w7.drew = w8 at H8 K8 ⊢
      refine wpLate_take (i := 0) (oi := ?oi0r8_) (v := ?v0r8_) [8, 11, 12] ?hi0r8_ (by kernel_rfl) (by kernel_rfl) (by kernel_rfl) (by kernel_rfl) (by kernel_rfl) ?hQ0r8_ (Or.inl ⟨?hw0r8_, ?hy0r8_⟩) K8.out ?rest0r8_
      case hi0r8_ => (simp only [List.getElem?_toArray, List.getElem?_cons_zero]; rfl)
      case hQ0r8_ => exact fun _ _ _ h => h
      case hw0r8_ => rfl
      case hy0r8_ =>
        intro w' hSw
        obtain ⟨r0, r1, r2, r3⟩ := hSw
        go_simp
        try exact rfl
      try simp only [Act.put, List.setIfInBounds_toArray, List.set_cons_zero, List.set_cons_succ]
      refine wpLate_take (i := 1) (oi := ?oi1r8_) (v := ?v1r8_) [2, 7, 8, 11, 12] ?hi1r8_ (by kernel_rfl) (by kernel_rfl) (by kernel_rfl) (by kernel_rfl) (by kernel_rfl) ?hQ1r8_ (Or.inl ⟨?hw1r8_, ?hy1r8_⟩) K8.out ?rest1r8_
      case hi1r8_ => (simp only [List.getElem?_toArray, List.getElem?_cons_zero, List.getElem?_cons_succ]; rfl)
      case hQ1r8_ => exact fun _ _ _ h => h
      case hw1r8_ => rfl
      case hy1r8_ =>
        intro w' hSw
        obtain ⟨r0, r1, r2, r3⟩ := hSw
        go_simp
        try exact rfl
      try simp only [Act.put, List.setIfInBounds_toArray, List.set_cons_zero, List.set_cons_succ]
      refine wpLate_take (i := 3) (oi := ?oi3r8_) (v := ?v3r8_) [4, 7, 8, 11, 12] ?hi3r8_ (by kernel_rfl) (by kernel_rfl) (by kernel_rfl) (by kernel_rfl) (by kernel_rfl) ?hQ3r8_ (Or.inl ⟨?hw3r8_, ?hy3r8_⟩) K8.out ?rest3r8_
      case hi3r8_ => (simp only [List.getElem?_toArray, List.getElem?_cons_zero, List.getElem?_cons_succ]; rfl)
      case hQ3r8_ => exact fun _ _ _ h => h
      case hw3r8_ => rfl
      case hy3r8_ =>
        intro w' hSw
        obtain ⟨r0, r1, r2, r3⟩ := hSw
        go_simp
        try exact rfl
      try simp only [Act.put, List.setIfInBounds_toArray, List.set_cons_zero, List.set_cons_succ]
      refine wpLate_take (i := 5) (oi := ?oi5r8_) (v := ?v5r8_) [6, 7, 8, 11, 12] ?hi5r8_ (by kernel_rfl) (by kernel_rfl) (by kernel_rfl) (by kernel_rfl) (by kernel_rfl) ?hQ5r8_ (Or.inl ⟨?hw5r8_, ?hy5r8_⟩) K8.out ?rest5r8_
      case hi5r8_ => (simp only [List.getElem?_toArray, List.getElem?_cons_zero, List.getElem?_cons_succ]; rfl)
      case hQ5r8_ => exact fun _ _ _ h => h
      case hw5r8_ => rfl
      case hy5r8_ =>
        intro w' hSw
        obtain ⟨r0, r1, r2, r3⟩ := hSw
        go_simp
        try exact rfl
      try simp only [Act.put, List.setIfInBounds_toArray, List.set_cons_zero, List.set_cons_succ]
      refine wpLate_take (i := 9) (oi := ?oi9r8_) (v := ?v9r8_) [10, 11, 12] ?hi9r8_ (by kernel_rfl) (by kernel_rfl) (by kernel_rfl) (by kernel_rfl) (by kernel_rfl) ?hQ9r8_ (Or.inl ⟨?hw9r8_, ?hy9r8_⟩) K8.out ?rest9r8_
      case hi9r8_ => (simp only [List.getElem?_toArray, List.getElem?_cons_zero, List.getElem?_cons_succ]; rfl)
      case hQ9r8_ => exact fun _ _ _ h => h
      case hw9r8_ => rfl
      case hy9r8_ =>
        intro w' hSw
        obtain ⟨r0, r1, r2, r3⟩ := hSw
        go_simp
        try exact rfl
      try simp only [Act.put, List.setIfInBounds_toArray, List.set_cons_zero, List.set_cons_succ]
      refine wpLate_take (i := 2) (oi := ?oi2r8_) (v := ?v2r8_) [7, 8, 11, 12] ?hi2r8_ (by kernel_rfl) (by kernel_rfl) (by kernel_rfl) (by kernel_rfl) (by kernel_rfl) ?hQ2r8_ (Or.inl ⟨?hw2r8_, ?hy2r8_⟩) K8.out ?rest2r8_
      case hi2r8_ => (simp only [List.getElem?_toArray, List.getElem?_cons_zero, List.getElem?_cons_succ]; rfl)
      case hQ2r8_ => exact fun _ _ _ h => h
      case hw2r8_ => rfl
      case hy2r8_ =>
        intro w' hSw
        obtain ⟨r0, r1, r2, r3⟩ := hSw
        go_simp
        try exact rfl
      try simp only [Act.put, List.setIfInBounds_toArray, List.set_cons_zero, List.set_cons_succ]
      refine wpLate_take (i := 4) (oi := ?oi4r8_) (v := ?v4r8_) [7, 8, 11, 12] ?hi4r8_ (by kernel_rfl) (by kernel_rfl) (by kernel_rfl) (by kernel_rfl) (by kernel_rfl) ?hQ4r8_ (Or.inl ⟨?hw4r8_, ?hy4r8_⟩) K8.out ?rest4r8_
      case hi4r8_ => (simp only [List.getElem?_toArray, List.getElem?_cons_zero, List.getElem?_cons_succ]; rfl)
      case hQ4r8_ => exact fun _ _ _ h => h
      case hw4r8_ => rfl
      case hy4r8_ =>
        intro w' hSw
        obtain ⟨r0, r1, r2, r3⟩ := hSw
        go_simp
        try exact rfl
      try simp only [Act.put, List.setIfInBounds_toArray, List.set_cons_zero, List.set_cons_succ]
      refine wpLate_take (i := 6) (oi := ?oi6r8_) (v := ?v6r8_) [7, 8, 11, 12] ?hi6r8_ (by kernel_rfl) (by kernel_rfl) (by kernel_rfl) (by kernel_rfl) (by kernel_rfl) ?hQ6r8_ (Or.inl ⟨?hw6r8_, ?hy6r8_⟩) K8.out ?rest6r8_
      case hi6r8_ => (simp only [List.getElem?_toArray, List.getElem?_cons_zero, List.getElem?_cons_succ]; rfl)
      case hQ6r8_ => exact fun _ _ _ h => h
      case hw6r8_ => rfl
      case hy6r8_ =>
        intro w' hSw
        obtain ⟨r0, r1, r2, r3⟩ := hSw
        go_simp
        try exact rfl
      try simp only [Act.put, List.setIfInBounds_toArray, List.set_cons_zero, List.set_cons_succ]
      refine wpLate_take (i := 10) (oi := ?oi10r8_) (v := ?v10r8_) [11, 12] ?hi10r8_ (by kernel_rfl) (by kernel_rfl) (by kernel_rfl) (by kernel_rfl) (by kernel_rfl) ?hQ10r8_ (Or.inl ⟨?hw10r8_, ?hy10r8_⟩) K8.out ?rest10r8_
      case hi10r8_ => (simp only [List.getElem?_toArray, List.getElem?_cons_zero, List.getElem?_cons_succ]; rfl)
      case hQ10r8_ => exact fun _ _ _ h => h
      case hw10r8_ => rfl
      case hy10r8_ =>
        intro w' hSw
        obtain ⟨r0, r1, r2, r3⟩ := hSw
        go_simp
        try exact rfl
      try simp only [Act.put, List.setIfInBounds_toArray, List.set_cons_zero, List.set_cons_succ]
      refine wpLate_one (i := 7) (o := ?o7r8_) (by kernel_rfl) ?ho7r8_ ?hk7r8_
      case ho7r8_ => (simp only [List.getElem?_toArray, List.getElem?_cons_zero, List.getElem?_cons_succ]; rfl)
      intro K hK
      go_simp
      have H9 := Lib.hid (H8.out.box 3 #[.int .i64 y.place, .int .i64 y.element, .int .i64 y.under])
      generalize w8.alloc (.cells #[.int .i64 y.place, .int .i64 y.element, .int .i64 y.under] 3) = w9 at H9 ⊢
      generalize w8.heap.size = G at H9 ⊢
      refine hK.out _ _ (fun h => ⟨(H9.out.bx _ (List.mem_cons_of_mem _ List.mem_cons_self)).1.cell 0, (H9.out.bx _ (List.mem_cons_of_mem _ List.mem_cons_self)).1.cell 1, (H9.out.bx _ (List.mem_cons_of_mem _ List.mem_cons_self)).1.cell 2, (H9.out.bx _ (List.mem_cons_of_mem _ List.mem_cons_self)).1.cell 5⟩) ?_
      clear hK K
      try simp only [Act.put, List.setIfInBounds_toArray, List.set_cons_zero, List.set_cons_succ]
      refine wpLate_one (i := 8) (o := ?o8r8_) (by kernel_rfl) ?ho8r8_ ?hk8r8_
      case ho8r8_ => (simp only [List.getElem?_toArray, List.getElem?_cons_zero, List.getElem?_cons_succ]; rfl)
      intro K hK
      refine step_append_row rfl (.tmp 27) (.tmp 34) 22 rfl _ rfl W.heap.size 3 i0 (.int .i64 0) 1 8 Try.underlying22 hi hz0 hz1 hz2 rfl (by decide) (.slice UZ Z.length cz) Z.length (ivl Z) rfl H9.out.own (some ⟨G, 0, none⟩) 3 3 (ivl [y.place, y.element, y.under]) rfl ?a0 ?a1 ?a2 (ivl_one _) ?a3 ?a4 ?a5 ?_
      case a0 => intro h; cases h
      case a1 => rfl
      case a2 =>
        intro ad had j u hu
        cases had
        rw [add_at, (H9.out.bx _ List.mem_cons_self).1.cell, Nat.zero_add, ← hu]
        simp [ivl]
      case a3 => unfold maxLen; omega
      case a4 => omega
      case a5 => exact H9.out.b.size
      intro v10 w10 hown hgr hat
      have H10 := Lib.hid (H9.out.app (Y := [y.place, y.element, y.under]) hown hgr hat).tl
      obtain ⟨Z2, hZ2⟩ : ∃ Z2, Z2 = Z ++ [y.place, y.element, y.under] := ⟨_, rfl⟩
      rw [← hZ2] at H10
      have HZ2 := Lib.hid hZ2
      have hz2l : Z2.length = Z.length + 3 := by rw [hZ2]; simp
      have hz2b : Z2.length ≤ 7000 := by omega
      obtain ⟨U10, c10, rfl, -, -⟩ := own_slice H10.out.own
      clear hown hgr hat hZ2 hz2l
      refine hK.out _ _ (fun h => ⟨(H10.out.bx _ List.mem_cons_self).1.cell 0, (H10.out.bx _ List.mem_cons_self).1.cell 1, (H10.out.bx _ List.mem_cons_self).1.cell 2, (H10.out.bx _ List.mem_cons_self).1.cell 5⟩) ?_
      clear hK K
      try simp only [Act.put, List.setIfInBounds_toArray, List.set_cons_zero, List.set_cons_succ]
      refine wpLate_one (i := 11) (o := ?o11r8_) (by kernel_rfl) ?ho11r8_ ?hk11r8_
      case ho11r8_ => (simp only [List.getElem?_toArray, List.getElem?_cons_zero, List.getElem?_cons_succ]; rfl)
      intro K hK
      refine step_append_row rfl (.tmp 35) (.tmp 37) 22 rfl _ rfl W.heap.size 3 i0 (.int .i64 0) 1 8 Try.underlying22 hi hz0 hz1 hz2 rfl (by decide) (.slice U10 Z2.length c10) Z2.length (ivl Z2) rfl H10.out.own M y.marks.length m (ivl y.marks) rfl ?b0 ?b1 ?b2 (ivl_one _) ?b3 ?b4 ?b5 ?_
      case b0 => exact irow_none HMR.out
      case b1 => simp [ivl]
      case b2 => exact irow_news (HMR.out.below H10.out.b)
      case b3 => unfold maxLen; omega
      case b4 => omega
      case b5 => exact H10.out.b.size
      intro v11 w11 hown hgr hat
      have H11 := Lib.hid (H10.out.app (Y := y.marks) hown hgr hat)
      obtain ⟨Z3, hZ3⟩ : ∃ Z3, Z3 = Z2 ++ y.marks := ⟨_, rfl⟩
      rw [← hZ3] at H11
      have HE : Hid (Z3 = X ++ (x.calls.take (q + 1)).flatMap callF) := Lib.hid (by rw [hZ3, HZ2.out, HNC.out, HZE.out]; simp [callF])
      obtain ⟨U11, c11, rfl, -, -⟩ := own_slice H11.out.own
      clear hown hgr hat hZ3 hz2b
      refine hK.out _ _ (fun h => ⟨(H11.out.bx _ List.mem_cons_self).1.cell 0, (H11.out.bx _ List.mem_cons_self).1.cell 1, (H11.out.bx _ List.mem_cons_self).1.cell 2, (H11.out.bx _ List.mem_cons_self).1.cell 5⟩) ?_
      clear hK K
      try simp only [Act.put, List.setIfInBounds_toArray, List.set_cons_zero, List.set_cons_succ]
      refine wpLate_one (i := 12) (o := ?o12r8_) (by kernel_rfl) ?ho12r8_ ?hk12r8_
      case ho12r8_ => (simp only [List.getElem?_toArray, List.getElem?_cons_zero, List.getElem?_cons_succ]; rfl)
      intro K hK
      go_simp
      refine hK.out _ _ (fun h => ⟨(H11.out.bx _ List.mem_cons_self).1.cell 0, (H11.out.bx _ List.mem_cons_self).1.cell 1, (H11.out.bx _ List.mem_cons_self).1.cell 2, (H11.out.bx _ List.mem_cons_self).1.cell 5⟩) ?_
      clear hK K
      try simp only [Act.put, List.setIfInBounds_toArray, List.set_cons_zero, List.set_cons_succ]
      refine wpLate_done (by kernel_rfl) ?_ _
      try simp only [Act.put, List.setIfInBounds_toArray, List.set_cons_zero, List.set_cons_succ]
      go_wp2_with fail
      go_roundg (x.calls.length - (q + 1))
      case measure => omega
      case rel => exact ⟨q + 1, by omega, Nat.le_refl _, by go_num, Z3, U11, c11, rfl, Lib.hid ⟨H11.out.tl, HE.out⟩⟩
end Go.Proofs.Ytmclchaalmonnaa
