/- Copies of rows by append; the law of Owns. -/
import Derived.Test.YtfdjoldcdfbfhaaVtA
import Derived.Laws.AppendOwnNone
namespace Go.Proofs.Ytfdjoldcdfbfhaa
open Go.Shelf Go.RowKit
theorem Try.info45 : (Try.prog.info? 45).map (fun i => (i.zero, i.size, i.bytes)) = some (some (.agg #[.int .i64 0, .int .i64 0, .int .i64 0]), 3, 24) := by kernel_rfl
theorem wpList_append_copy {P : Program} {w : World} {ops : Array Oper} {rest : List Oper} {o : Oper} {a : Act} {Q : Exit → Act → World → Prop} (hgd : o.guard = none) (s x : Operand) (t : TypeId)
    (ho : o.op = .call { callee := .builtin .append, args := #[s, x], argTypes := #[t, t] })
    (base : Nat) (e : TypeId) (i : TypeInfo) (z : Value) (size bytes : Nat) (ht : P.underlying t = some (.slice e)) (hi : P.info? e = some i) (hz : i.zero = some z)
    (hsize : i.size = size) (hby : i.bytes = bytes) (hzs : z.cells.size = size) (hsz : 0 < size)
    (v : Value) (n : Nat) (xs : List Value) (hs : a.eval s = v) (hown : w.ownsRow base e size v n xs)
    (A : Option Addr) (m c : Nat) (news : List Value) (hx : a.eval x = .slice A m c) (hA : A = none → m = 0 ∧ c = 0) (hl : news.length = m * size) (hnews : ∀ ad, A = some ad → ∀ j u, news[j]? = some u → w.cell? (ad.add j) = some u) (h1 : ∀ u ∈ news, u.oneCell' = true)
    (h63 : n + m ≤ maxLen) (hbytes : (n + m) * bytes ≤ 140737488355328) (hbase : base ≤ w.heap.size)
    (h : ∀ v' w', w'.ownsRow base e size v' (n + m) (xs ++ news) → w.grownBy w' v.ownBlock → wpList P ops Q rest (a.put o.dst v') w') : wpList P ops Q (o :: rest) a w := by
  cases A with
  | some ad => exact wpList_append_own w hgd s x t ho base e i z size bytes ht hi hz hsize hby hzs hsz v n xs hs hown ad m c news hx hl (hnews ad rfl) h1 h63 hbytes hbase (fun v' w' g1 g2 _ => h v' w' g1 g2)
  | none =>
    obtain ⟨rfl, rfl⟩ := hA rfl
    obtain rfl : news = [] := List.eq_nil_of_length_eq_zero (by omega)
    refine wpList_append_own_none hgd s x t ho base e i size ht hi v n xs hs hown hx (h v w ?_ ⟨rfl, rfl, rfl, Nat.le_refl _, fun _ _ _ => rfl⟩)
    simpa using hown
theorem copy_below {w w1 : World} {e : TypeId} (hgr : (w.alloc (.cells #[] e)).grownBy w1 (Value.slice (some ⟨w.heap.size, 0, none⟩) 0 0).ownBlock) : Below w.heap.size w w1 := by
  have h1 := below_one w (.cells #[] e)
  exact ⟨hgr.os.trans h1.os, hgr.tape.trans h1.tape, hgr.output.trans h1.output, Nat.le_trans h1.size hgr.size, fun k hk => (hgr.block k (by simp; omega) (by simp only [Value.ownBlock, ne_eq, Option.some.injEq]; omega)).trans (h1.block k hk)⟩
def sq3 (s : Sf) : List Value := [.int .i64 s.m, .int .i64 s.s, .int .i64 s.v]
def sfl (l : List Sf) : List Value := l.flatMap sq3
theorem sfl_len (l : List Sf) : (sfl l).length = l.length * 3 := flat_len sq3 3 (fun _ => rfl) l
theorem sfl_one (l : List Sf) : ∀ u ∈ sfl l, u.oneCell' = true := by
  intro u hu
  unfold sfl at hu
  simp only [List.mem_flatMap] at hu
  obtain ⟨z, _, hz⟩ := hu
  simp only [sq3, List.mem_cons, List.not_mem_nil, or_false] at hz
  rcases hz with rfl | rfl | rfl <;> rfl
theorem frow_cells {w : World} {B : Nat} {A : Option Addr} {l : List Sf} (h : FRow w B A l) (ad : Addr) (hA : A = some ad) : ∀ j u, (sfl l)[j]? = some u → w.cell? (ad.add j) = some u := by
  intro j u hu
  have hj : j < l.length * 3 := by have := (List.getElem?_eq_some_iff.1 hu).1; rwa [sfl_len] at this
  have hk : j / 3 < l.length := by omega
  obtain ⟨g, o, e, _, x0, x1, x2⟩ := h (j / 3) hk
  rw [hA] at e; cases e
  rw [addr_add]
  have y : ∀ i, i < 3 → (sfl l)[j / 3 * 3 + i]? = (sq3 l[j / 3])[i]? := fun i hi => flat_get sq3 3 (fun _ => rfl) l (j / 3) hk i hi
  have h3 : j = j / 3 * 3 ∨ j = j / 3 * 3 + 1 ∨ j = j / 3 * 3 + 2 := by omega
  rcases h3 with e | e | e
  · have y0 := y 0 (by omega); rw [Nat.add_zero, ← e, hu] at y0; cases y0; rw [show o + j = o + j / 3 * 3 by omega]; exact x0
  · have y0 := y 1 (by omega); rw [← e, hu] at y0; cases y0; rw [show o + j = o + j / 3 * 3 + 1 by omega]; exact x1
  · have y0 := y 2 (by omega); rw [← e, hu] at y0; cases y0; rw [show o + j = o + j / 3 * 3 + 2 by omega]; exact x2
theorem own_row3 {α : Type} (f : α → List Value) (hf : ∀ a, (f a).length = 3) {w : World} {base : Nat} {t : TypeId} {v : Value} {l : List α} (h : w.ownsRow base t 3 v l.length (l.flatMap f)) :
    ∃ A cap, v = .slice A l.length cap ∧ l.length ≤ cap ∧ (l ≠ [] → ∃ g, A = some ⟨g, 0, none⟩ ∧ g < w.heap.size ∧ ∀ k (hk : k < l.length) j, j < 3 → w.cell? ⟨g, k * 3 + j, none⟩ = (f l[k])[j]?) := by
  obtain ⟨_, (⟨rfl, h0⟩ | ⟨g, cap, cur, rfl, hb, hg, h1, h2, h3, h4⟩)⟩ := h
  · exact ⟨none, 0, by rw [h0], by omega, fun h => absurd (List.eq_nil_of_length_eq_zero h0) h⟩
  · refine ⟨some ⟨g, 0, none⟩, cap, rfl, by omega, fun _ => ⟨g, rfl, ?_, fun k hk j hj => ?_⟩⟩
    · have hg1 : Has w g t cur := hg
      exact hg1.lt
    · have hg1 : Has w g t cur := hg
      rw [hg1.cell]
      have := congrArg (fun l : List Value => l[k * 3 + j]?) h4
      simp only [List.getElem?_take_of_lt (show k * 3 + j < l.length * 3 by omega)] at this
      rw [flat_get f 3 hf l k hk j hj] at this
      simpa using this
theorem own_nrow {w : World} {base : Nat} {v : Value} {l : List Sn} (h : w.ownsRow base 56 3 v l.length (snl l)) : ∃ A cap, v = .slice A l.length cap ∧ NRow w w.heap.size A l := by
  obtain ⟨A, cap, rfl, -, h2⟩ := own_row3 sn3 (fun _ => rfl) h
  refine ⟨A, cap, rfl, fun k hk => ?_⟩
  obtain ⟨g, rfl, hg, hc⟩ := h2 (by rintro rfl; simp at hk)
  refine ⟨g, 0, rfl, hg, ?_, ?_, ?_⟩ <;> rw [Nat.zero_add]
  · exact hc k hk 0 (by omega)
  · exact hc k hk 1 (by omega)
  · exact hc k hk 2 (by omega)
theorem own_frow {w : World} {base : Nat} {v : Value} {l : List Sf} (h : w.ownsRow base 45 3 v l.length (sfl l)) : ∃ A cap, v = .slice A l.length cap ∧ FRow w w.heap.size A l := by
  obtain ⟨A, cap, rfl, -, h2⟩ := own_row3 sq3 (fun _ => rfl) h
  refine ⟨A, cap, rfl, fun k hk => ?_⟩
  obtain ⟨g, rfl, hg, hc⟩ := h2 (by rintro rfl; simp at hk)
  refine ⟨g, 0, rfl, hg, ?_, ?_, ?_⟩ <;> rw [Nat.zero_add]
  · exact hc k hk 0 (by omega)
  · exact hc k hk 1 (by omega)
  · exact hc k hk 2 (by omega)
theorem Try.stood56 : Try.prog.stoodInHeld 56 = false := by kernel_rfl
theorem Try.fields56 : Try.prog.underlying 56 = some (.struct (Try.prog.fieldsOf 56)) := by kernel_rfl
theorem Try.stood45 : Try.prog.stoodInHeld 45 = false := by kernel_rfl
theorem Try.fields45 : Try.prog.underlying 45 = some (.struct (Try.prog.fieldsOf 45)) := by kernel_rfl
theorem equal56 (n : Nat) (a b c : Int) (w : World) : (Op.equalIn (n + 3) 56 (.agg #[.int .i64 a, .int .i64 b, .int .i64 c]) (.agg #[.int .i64 a, .int .i64 b, .int .i64 c])).run Try.prog w = .ok true w := by
  rw [run_equalIn_struct w (n + 2) 56 _ _ Try.fields56 Try.stood56]
  simp [Program.fieldsOf, Try.underlying56, Op.eqFields, go_sem]
theorem neq56 (a b c : Int) (w : World) : (binOp .neq 56 (.agg #[.int .i64 a, .int .i64 b, .int .i64 c]) (.agg #[.int .i64 a, .int .i64 b, .int .i64 c])).run Try.prog w = .ok (.bool false) w := by
  rw [run_neq_struct, equal56 9997]; rfl
theorem equal45 (n : Nat) (a b c : Int) (w : World) : (Op.equalIn (n + 3) 45 (.agg #[.int .i64 a, .int .i64 b, .int .i64 c]) (.agg #[.int .i64 a, .int .i64 b, .int .i64 c])).run Try.prog w = .ok true w := by
  rw [run_equalIn_struct w (n + 2) 45 _ _ Try.fields45 Try.stood45]
  simp [Program.fieldsOf, Try.underlying45, Op.eqFields, go_sem]
theorem neq45 (a b c : Int) (w : World) : (binOp .neq 45 (.agg #[.int .i64 a, .int .i64 b, .int .i64 c]) (.agg #[.int .i64 a, .int .i64 b, .int .i64 c])).run Try.prog w = .ok (.bool false) w := by
  rw [run_neq_struct, equal45 9997]; rfl
structure OA (W w : World) (cs : Array Value) (A3 A4 : Option Addr) (l : List Sn) (L : List Sf) : Prop where
  b : Below W.heap.size W w
  v : Has w W.heap.size 24 cs
  n3 : NRow w w.heap.size A3 l
  f4 : FRow w w.heap.size A4 L
theorem OA.step {W w w' : World} {cs : Array Value} {A3 A4 : Option Addr} {l : List Sn} {L : List Sf} (h : OA W w cs A3 A4 l L) (hb : Below w.heap.size w w') : OA W w' cs A3 A4 l L :=
  ⟨h.b.trans (hb.mono h.b.size), h.v.below hb h.v.lt, h.n3.step hb, h.f4.step hb⟩
set_option maxRecDepth 100000 in
set_option maxHeartbeats 4000000 in
theorem ownsLaw_any (l : List Sn) (A0 : Option Addr) (cap0 : Nat) (V F t limit rise calm frm to : Int) (L : List Sf) (A : Option Addr) (cap : Nat) (W : World) (hr : NRow W W.heap.size A0 l) (hl : l.length ≤ 9223372036854775807)
    (hf : FRow W W.heap.size A L) (hL : L.length ≤ 9223372036854775807) (hc : L.length ≤ cap) (hn0 : A0 = none → l.length = 0 ∧ cap0 = 0) (hn1 : A = none → L.length = 0 ∧ cap = 0) :
    Calls Try.prog 12 #[vtv A0 l.length cap0 V F, .int .i64 t, .int .i64 limit, .int .i64 rise, .int .i64 calm, .int .i64 frm, .int .i64 to, .slice A L.length cap] W (BoolPost true W) := by
  have HR := Lib.hid (And.intro hr hf)
  have HNN := Lib.hid (And.intro hn0 hn1)
  have h1 := fun w h h' => Alarm_any l A0 cap0 V F t L A cap w h hl h' hc hL
  have h2 := fun w h => Best_any l A0 cap0 F limit rise calm frm to w h hl
  have h3 := fun w h => Worst_any l A0 cap0 V F t rise frm to w h hl
  have hlong := fun w => long_any to w
  obtain ⟨R, hR⟩ : ∃ R, R = alarmR l V F t L := ⟨_, rfl⟩
  obtain ⟨Q, hQ⟩ : ∃ Q, Q = bestR l F limit rise calm frm to := ⟨_, rfl⟩
  obtain ⟨P, hP⟩ : ∃ P, P = worstR l V F t rise frm to := ⟨_, rfl⟩
  rw [← hR] at h1
  rw [← hQ] at h2
  rw [← hP] at h3
  obtain ⟨R1, R2⟩ := R
  obtain ⟨Q1, ⟨Q2, Q3⟩, Q4⟩ := Q
  obtain ⟨P1, P2, P3⟩ := P
  have HA := Lib.hid (fun w => alive_any w)
  have H1 := Lib.hid h1
  have H2 := Lib.hid h2
  have H3 := Lib.hid h3
  have hh : Has (W.alloc (.cells #[.slice A0 l.length cap0, .int .i64 V, .int .i64 F] 24)) W.heap.size 24 #[.slice A0 l.length cap0, .int .i64 V, .int .i64 F] := Has.new W 24 _
  have hb0 := below_one W (.cells #[.slice A0 l.length cap0, .int .i64 V, .int .i64 F] 24)
  have HB := Lib.hid (And.intro hb0 hh)
  clear hb0 hh hr hf hR hQ hP h1 h2 h3 hc hn0 hn1
  unfold vtv at *
  by_cases h20 : (20 : Int) < l.length
  · go_enter Try.func12, Try.ntmps12
    go_wp2_with fail
    refine (HA.out _).mono ?_
    rintro e wb ⟨rfl, hb⟩
    have HF := Lib.hid (below_seq HB.out.1 hb)
    clear hb
    go_wp2_with fail
    go_ret
    exact ⟨rfl, HF.out⟩
  cases hlg : longB to <;> rw [hlg] at hlong
  rotate_left
  · clear hlg
    go_enter Try.func12, Try.ntmps12
    go_wp2_with fail
    refine (hlong _).mono ?_
    rintro e wb ⟨rfl, rfl⟩
    go_wp2_with fail
    refine (HA.out _).mono ?_
    rintro e wb ⟨rfl, hb⟩
    have HF := Lib.hid (below_seq HB.out.1 hb)
    clear hb
    go_wp2_with fail
    go_ret
    exact ⟨rfl, HF.out⟩
  clear hlg
  by_cases h300 : (300 : Int) < L.length
  · go_enter Try.func12, Try.ntmps12
    go_wp2_with fail
    refine (hlong _).mono ?_
    rintro e wb ⟨rfl, rfl⟩
    go_wp2_with fail
    refine (HA.out _).mono ?_
    rintro e wb ⟨rfl, hb⟩
    have HF := Lib.hid (below_seq HB.out.1 hb)
    clear hb
    go_wp2_with fail
    go_ret
    exact ⟨rfl, HF.out⟩
  obtain ⟨i0, hi, hz0, hz1, hz2⟩ := info_parts Try.info56
  obtain ⟨j0, hj, hj0, hj1, hj2⟩ := info_parts Try.info45
  go_enter Try.func12, Try.ntmps12
  go_wp2_with fail
  refine (hlong _).mono ?_
  rintro e wb ⟨rfl, rfl⟩
  generalize W.alloc (.cells #[.slice A0 l.length cap0, .int .i64 V, .int .i64 F] 24) = w0 at HB ⊢
  have c0 : w0.cell? ⟨W.heap.size, 0, none⟩ = some (.slice A0 l.length cap0) := HB.out.2.cell 0
  have hlt0 := HB.out.2.lt
  go_wp2_with (at_builtin; refine wpList_append_copy rfl _ _ 22 rfl w0.heap.size 56 i0 (.agg #[.int .i64 0, .int .i64 0, .int .i64 0]) 3 24 Try.underlying22 hi hz0 hz1 hz2 rfl (by decide) _ 0 [] rfl (own_made w0 56 3) A0 l.length cap0 (snl l) rfl HNN.out.1 ?c1 ?c2 ?c3 ?c4 ?c5 ?c6 ?_)
  case c1 => exact snl_len l
  case c2 => exact nrow_cells ((HR.out.1.step HB.out.1).below (below_one w0 _))
  case c3 => exact snl_one l
  case c4 => unfold maxLen; omega
  case c5 => omega
  try (case c6 => simp)
  intro v1 w1 hown1 hgrow1
  have hb1 : Below w0.heap.size w0 w1 := copy_below hgrow1
  obtain ⟨A3, cap3, rfl, hn3⟩ := own_nrow (l := l) (by simpa using hown1)
  have HB1 := Lib.hid (And.intro (below_seq HB.out.1 hb1) (And.intro (HB.out.2.below hb1 HB.out.2.lt) hn3))
  clear hown1 hgrow1 hb1 hn3 c0 hlt0
  go_wp2_with (at_builtin; refine wpList_append_copy rfl _ _ 25 rfl w1.heap.size 45 j0 (.agg #[.int .i64 0, .int .i64 0, .int .i64 0]) 3 24 Try.underlying25 hj hj0 hj1 hj2 rfl (by decide) _ 0 [] rfl (own_made w1 45 3) A L.length cap (sfl L) rfl HNN.out.2 ?d1 ?d2 ?d3 ?d4 ?d5 ?d6 ?_)
  case d1 => exact sfl_len L
  case d2 => exact frow_cells ((HR.out.2.step HB1.out.1).below (below_one w1 _))
  case d3 => exact sfl_one L
  case d4 => unfold maxLen; omega
  case d5 => omega
  try (case d6 => simp)
  intro v2 w2 hown2 hgrow2
  have hb2 : Below w1.heap.size w1 w2 := copy_below hgrow2
  obtain ⟨A4, cap4, rfl, hf4⟩ := own_frow (l := L) (by simpa using hown2)
  have HO : Hid (OA W w2 #[.slice A0 l.length cap0, .int .i64 V, .int .i64 F] A3 A4 l L) := ⟨below_seq HB1.out.1 hb2, HB1.out.2.1.below hb2 HB1.out.2.1.lt, HB1.out.2.2.step hb2, hf4⟩
  clear hown2 hgrow2 hb2 hf4 HB1 HB hi hz0 hz1 hz2 hj hj0 hj1 hj2
  have c0 : w2.cell? ⟨W.heap.size, 0, none⟩ = some (.slice A0 l.length cap0) := HO.out.v.cell 0
  have c1 : w2.cell? ⟨W.heap.size, 1, none⟩ = some (.int .i64 V) := HO.out.v.cell 1
  have c2 : w2.cell? ⟨W.heap.size, 2, none⟩ = some (.int .i64 F) := HO.out.v.cell 2
  have cl := HO.out.v.lt
  go_wp2_with fail
  refine (H1.out _ (HR.out.1.step HO.out.b) (HR.out.2.step HO.out.b)).mono ?_
  rintro e w3 ⟨rfl, hb⟩
  have HO3 := Lib.hid (HO.out.step hb)
  clear hb HO c0 c1 c2 cl
  have c0 : w3.cell? ⟨W.heap.size, 0, none⟩ = some (.slice A0 l.length cap0) := HO3.out.v.cell 0
  have c1 : w3.cell? ⟨W.heap.size, 1, none⟩ = some (.int .i64 V) := HO3.out.v.cell 1
  have c2 : w3.cell? ⟨W.heap.size, 2, none⟩ = some (.int .i64 F) := HO3.out.v.cell 2
  have cl := HO3.out.v.lt
  go_wp2_with fail
  refine (H2.out _ (HR.out.1.step HO3.out.b)).mono ?_
  rintro e w4 ⟨rfl, hb⟩
  have hs : Has (w4.alloc (.cells #[.int .i64 Q2, .int .i64 Q3] 38)) w4.heap.size 38 #[.int .i64 Q2, .int .i64 Q3] := Has.new w4 38 _
  have HO4 := Lib.hid ((HO3.out.step hb).step (below_one w4 (.cells #[.int .i64 Q2, .int .i64 Q3] 38)))
  have HO5 := Lib.hid (HO3.out.step hb)
  clear hb HO3 c0 c1 c2 cl
  have c0 : w4.cell? ⟨W.heap.size, 0, none⟩ = some (.slice A0 l.length cap0) := HO5.out.v.cell 0
  have c1 : w4.cell? ⟨W.heap.size, 1, none⟩ = some (.int .i64 V) := HO5.out.v.cell 1
  have c2 : w4.cell? ⟨W.heap.size, 2, none⟩ = some (.int .i64 F) := HO5.out.v.cell 2
  have cl := HO5.out.v.lt
  go_upto_region 6 with fail
  clear c0 c1 c2 cl HO5
  generalize w4.alloc (.cells #[.int .i64 Q2, .int .i64 Q3] 38) = w5 at hs HO4 ⊢
  generalize w4.heap.size = s1 at hs ⊢
  have HS := Lib.hid hs
  clear hs
  have c0 : w5.cell? ⟨W.heap.size, 0, none⟩ = some (.slice A0 l.length cap0) := HO4.out.v.cell 0
  have c1 : w5.cell? ⟨W.heap.size, 1, none⟩ = some (.int .i64 V) := HO4.out.v.cell 1
  have c2 : w5.cell? ⟨W.heap.size, 2, none⟩ = some (.int .i64 F) := HO4.out.v.cell 2
  have cl := HO4.out.v.lt
  go_wp2_with fail
  refine (H3.out _ (HR.out.1.step HO4.out.b)).mono ?_
  rintro e w6 ⟨rfl, hb⟩
  have HO6 := Lib.hid (And.intro (HO4.out.step hb) (HS.out.below hb HS.out.lt))
  clear hb HO4 HS c0 c1 c2 cl
  go_wp2_with fail
  go_loopw [81] (fun i wr => ∃ k : Nat, k ≤ l.length ∧ i = .int .i64 k ∧ Hid (OA W wr #[.slice A0 l.length cap0, .int .i64 V, .int .i64 F] A3 A4 l L ∧ Has wr s1 38 #[.int .i64 Q2, .int .i64 Q3])) (fun i _ => l.length - (intOf i).toNat)
  case atStart => exact ⟨0, Nat.zero_le _, rfl, HO6.out⟩
  case round =>
    obtain ⟨k, hk, rfl, HI⟩ := hrel
    clear HO6
    by_cases hlt : k < l.length
    · have hlt' : (k : Int) < l.length := by omega
      have c0 : wr.cell? ⟨W.heap.size, 0, none⟩ = some (.slice A0 l.length cap0) := HI.out.1.v.cell 0
      have cl := HI.out.1.v.lt
      obtain ⟨g, o, hA, hg, d0, d1, d2⟩ := (HR.out.1.step HI.out.1.b) k hlt
      obtain ⟨g3, o3, hA3, hg3, e0, e1, e2⟩ := HI.out.1.n3 k hlt
      have hne := fun w => neq56 l[k].f l[k].e l[k].r w
      subst hA hA3
      go_wp2_with fail
      go_quiet (fail)
      go_wp2_with fail
      go_roundw
      case rel => exact ⟨k + 1, by omega, by go_num, HI.out.1.step (below_dn (Below.refl _ _)), HI.out.2⟩
      case measure => simp [intOf]; omega
    · have hlt' : ¬ (k : Int) < l.length := by omega
      go_wp2_with fail
      go_loopw [97] (fun i wr => ∃ k : Nat, k ≤ L.length ∧ i = .int .i64 k ∧ Hid (OA W wr #[.slice A0 l.length cap0, .int .i64 V, .int .i64 F] A3 A4 l L ∧ Has wr s1 38 #[.int .i64 Q2, .int .i64 Q3])) (fun i _ => L.length - (intOf i).toNat)
      case atStart => exact ⟨0, Nat.zero_le _, rfl, HI.out⟩
      case round =>
        obtain ⟨k, hk, rfl, HI⟩ := hrel
        by_cases hlt : k < L.length
        · have hlt' : (k : Int) < L.length := by omega
          obtain ⟨g, o, hA, hg, d0, d1, d2⟩ := (HR.out.2.step HI.out.1.b) k hlt
          obtain ⟨g3, o3, hA3, hg3, e0, e1, e2⟩ := HI.out.1.f4 k hlt
          have hne := fun w => neq45 L[k].m L[k].s L[k].v w
          subst hA hA3
          go_wp2_with fail
          go_quiet (fail)
          go_wp2_with fail
          go_roundw
          case rel => exact ⟨k + 1, by omega, by go_num, HI.out.1.step (below_dn (Below.refl _ _)), HI.out.2⟩
          case measure => simp [intOf]; omega
        · have hlt' : ¬ (k : Int) < L.length := by omega
          have c0 : wr.cell? ⟨W.heap.size, 0, none⟩ = some (.slice A0 l.length cap0) := HI.out.1.v.cell 0
          have c1 : wr.cell? ⟨W.heap.size, 1, none⟩ = some (.int .i64 V) := HI.out.1.v.cell 1
          have c2 : wr.cell? ⟨W.heap.size, 2, none⟩ = some (.int .i64 F) := HI.out.1.v.cell 2
          have cl := HI.out.1.v.lt
          go_wp2_with fail
          refine (H1.out _ (HR.out.1.step HI.out.1.b) (HR.out.2.step HI.out.1.b)).mono ?_
          rintro e w7 ⟨rfl, hb⟩
          have HI7 := Lib.hid (And.intro (HI.out.1.step hb) (HI.out.2.below hb HI.out.2.lt))
          clear hb c0 c1 c2 cl
          have c0 : w7.cell? ⟨W.heap.size, 0, none⟩ = some (.slice A0 l.length cap0) := HI7.out.1.v.cell 0
          have c1 : w7.cell? ⟨W.heap.size, 1, none⟩ = some (.int .i64 V) := HI7.out.1.v.cell 1
          have c2 : w7.cell? ⟨W.heap.size, 2, none⟩ = some (.int .i64 F) := HI7.out.1.v.cell 2
          have cl := HI7.out.1.v.lt
          go_wp2_with fail
          refine (H2.out _ (HR.out.1.step HI7.out.1.b)).mono ?_
          rintro e w8 ⟨rfl, hb⟩
          have hs : Has (w8.alloc (.cells #[.int .i64 Q2, .int .i64 Q3] 38)) w8.heap.size 38 #[.int .i64 Q2, .int .i64 Q3] := Has.new w8 38 _
          have h9 := And.intro ((HI7.out.1.step hb).step (below_one w8 (.cells #[.int .i64 Q2, .int .i64 Q3] 38))) ((HI7.out.2.below hb HI7.out.2.lt).alloc (.cells #[.int .i64 Q2, .int .i64 Q3] 38))
          clear hb c0 c1 c2 cl
          go_upto_region 21 with fail
          generalize w8.alloc (.cells #[.int .i64 Q2, .int .i64 Q3] 38) = w9 at hs h9 ⊢
          generalize w8.heap.size = s2 at hs ⊢
          have HS := Lib.hid (And.intro hs h9)
          clear hs h9
          have x0 : w9.cell? ⟨s1, 0, none⟩ = some (.int .i64 Q2) := HS.out.2.2.cell 0
          have x1 : w9.cell? ⟨s1, 1, none⟩ = some (.int .i64 Q3) := HS.out.2.2.cell 1
          have y0 : w9.cell? ⟨s2, 0, none⟩ = some (.int .i64 Q2) := HS.out.1.cell 0
          have y1 : w9.cell? ⟨s2, 1, none⟩ = some (.int .i64 Q3) := HS.out.1.cell 1
          have xl := HS.out.2.2.lt
          have yl := HS.out.1.lt
          have heq : ∀ w, (binOp .eql 38 (.agg #[.int .i64 Q2, .int .i64 Q3]) (.agg #[.int .i64 Q2, .int .i64 Q3])).run Try.prog w = .ok (.bool true) w := fun w => by rw [eql38]; simp
          go_wp2_with fail
          refine (HA.out _).mono ?_
          rintro e wb ⟨rfl, hb⟩
          have HF := Lib.hid (below_seq HS.out.2.1.b hb)
          clear hb
          go_wp2_with fail
          go_ret
          exact ⟨rfl, HF.out⟩
end Go.Proofs.Ytfdjoldcdfbfhaa
