/- Rows that newCircuit makes, and the copy of slugs. -/
import Derived.Test.YtjfopmjphiddiaaMgK
import Derived.Test.YtjfopmjphiddiaaMgC
import Derived.Laws.MakeOwn
import Derived.Laws.CopyOwn
import Derived.OwnWalk
import Derived.Test.YtjfopmjphiddiaaMgB
namespace Go.Proofs.Ytjfopmjphiddiaa
open Go.RowKit Go.Shelf

abbrev nosl : Value := .slice none 0 0
theorem Try.info88 : (Try.prog.info? 88).map (fun i => (i.zero, i.size, i.bytes)) = some (some (.agg #[iv 0, nosl]), 2, 32) := by kernel_rfl
theorem Try.info51 : (Try.prog.info? 51).map (fun i => (i.zero, i.size, i.bytes)) = some (some (.agg #[iv 0, nosl]), 2, 32) := by kernel_rfl
def zq (n : Nat) : List Value := (List.replicate n [iv 0, nosl]).flatten
theorem zq_len (n : Nat) : (zq n).length = n * 2 := by
  induction n with
  | zero => rfl
  | succ n ih => simp only [zq, List.replicate_succ, List.flatten_cons, List.length_append, List.length_cons, List.length_nil] at ih ⊢; omega
theorem made_two (x y : Value) (n : Nat) : madeCells #[x, y] (n * 2) = ((List.replicate n [x, y]).flatten).toArray := by
  apply Array.ext_getElem?
  intro m
  unfold madeCells
  simp only [List.getElem?_toArray]
  induction n generalizing m with
  | zero => simp
  | succ n ih =>
    rw [List.replicate_succ, List.flatten_cons]
    match m with
    | 0 => simp
    | 1 => simp [show 1 < (n + 1) * 2 by omega]
    | m + 2 =>
      have := ih m
      simp only [List.cons_append, List.nil_append, List.getElem?_cons_succ]
      rw [← this]
      by_cases hm : m < n * 2
      · have h2 : (m + 2) % 2 = m % 2 := by omega
        simp [hm, show m + 2 < (n + 1) * 2 by omega, h2]
      · rw [Array.getElem?_eq_none (by simp; omega), Array.getElem?_eq_none (by simp; omega)]
theorem make_pipes (n : Nat) (hn : n ≤ 1000000) (w : World) : (Instr.makeSlice 66 (.int .i64 n) (.int .i64 n)).run Try.prog w = .ok (.slice (some ⟨w.heap.size, 0, none⟩) n n) (w.alloc (.cells (zq n).toArray 88)) := by
  obtain ⟨i, hi, hz0, hz1, hz2⟩ := info_parts Try.info88
  have := run_make (P := Try.prog) w 66 88 i _ Try.underlying66 hi hz0 .i64 .i64 n n (by omega) (by omega) (by rw [hz2]; omega) (by omega)
  rw [this, hz1]
  simp only [Int.toNat_natCast]
  rw [zq, ← made_two]; rfl
def zs23 (n : Nat) : List Value := (List.replicate n [iv 0, iv 0]).flatten
theorem zs23_len (n : Nat) : (zs23 n).length = n * 2 := by
  induction n with
  | zero => rfl
  | succ n ih => simp only [zs23, List.replicate_succ, List.flatten_cons, List.length_append, List.length_cons, List.length_nil] at ih ⊢; omega
theorem make_slugs (n : Nat) (hn : n ≤ 1000000) (w : World) : (Instr.makeSlice 49 (.int .i64 n) (.int .i64 n)).run Try.prog w = .ok (.slice (some ⟨w.heap.size, 0, none⟩) n n) (w.alloc (.cells (zs23 n).toArray 23)) := by
  obtain ⟨i, hi, hz0, hz1, hz2⟩ := info_parts Try.info23
  have := run_make (P := Try.prog) w 49 23 i _ Try.underlying49 hi hz0 .i64 .i64 n n (by omega) (by omega) (by rw [hz2]; omega) (by omega)
  rw [this, hz1]
  simp only [Int.toNat_natCast]
  rw [zs23, ← made_two]; rfl
theorem srow_cells {w : World} {B : Nat} {A : Option Addr} {l : List Sl} (h : SRow w B A l) (ad : Addr) (hA : A = some ad) : ∀ j u, (sfl l)[j]? = some u → w.cell? (ad.add j) = some u := by
  intro j u hu
  have hj : j < l.length * 2 := by have := (List.getElem?_eq_some_iff.1 hu).1; rwa [sfl_len] at this
  have hk : j / 2 < l.length := by omega
  obtain ⟨g, o, e, _, x0, x1⟩ := h (j / 2) hk
  rw [hA] at e; cases e
  obtain ⟨y0, y1⟩ := sfl_at l (j / 2) hk
  rw [addr_add]
  have h2 : j = j / 2 * 2 ∨ j = j / 2 * 2 + 1 := by omega
  rcases h2 with e | e
  · rw [← e] at y0
    rw [y0] at hu; cases hu
    rw [show o + j = o + j / 2 * 2 by omega]; exact x0
  · rw [← e] at y1
    rw [y1] at hu; cases hu
    rw [show o + j = o + j / 2 * 2 + 1 by omega]; exact x1
theorem run_copy_slugs (w : World) (ty : TypeId) (g : Nat) (A : Option Addr) (cap B : Nat) (l : List Sl) (cur : Array Value) (hg : Has w g 23 cur) (hn : cur.size = l.length * 2) (hr : SRow w B A l) :
    (Builtin.copy_ #[49, 49] ty #[.slice (some ⟨g, 0, none⟩) l.length l.length, .slice A l.length cap]).run Try.prog w = .ok (goInt l.length) (w.setRow g (sfl l).toArray) := by
  obtain ⟨i, hi, hz0, hz1, hz2⟩ := info_parts Try.info23
  have hst := run_storeCells_at Try.prog g 0 23 (sfl l) 0 cur w hg (by rw [sfl_len]; omega) (sfl_one _)
  have e : (cur.toList.take (0 + 0) ++ sfl l ++ cur.toList.drop (0 + 0 + (sfl l).length)) = sfl l := by
    rw [List.drop_eq_nil_of_le (by simp [sfl_len]; omega)]; simp
  rw [e] at hst
  have hmin : Nat.min l.length l.length = l.length := Nat.min_self _
  cases A with
  | none =>
    have hl : l = [] := by
      cases l with
      | nil => rfl
      | cons s t => obtain ⟨_, _, e, _⟩ := hr 0 (by simp); cases e
    subst hl
    simp only [sfl, List.flatMap_nil] at hst ⊢
    simp [Builtin.copy_, run_underlying Try.underlying49, Builtin.lenOf, Builtin.firstCells, sizeOf, typeInfo, hi, hst]
  | some ad =>
    have hl := run_loadCells_list (P := Try.prog) w ad (sfl l) (srow_cells hr ad rfl)
    rw [sfl_len] at hl
    simp [Builtin.copy_, run_underlying Try.underlying49, Builtin.lenOf, Builtin.firstCells, sizeOf, typeInfo, hi, hz1, hl, hst]
theorem has_setRow {w : World} {g : Nat} {t : TypeId} {cur : Array Value} (h : Has w g t cur) (cs : Array Value) : Has (w.setRow g cs) g t cs := setRow_heap w g cur cs t (0, 0) h
theorem only_setRow (w : World) (g : Nat) (cs : Array Value) : Only (fun k => k = g) w (w.setRow g cs) :=
  ⟨rfl, rfl, rfl, by simp [World.setRow], fun k _ hk => setRow_other w g k cs hk⟩
theorem wpList_copy_slugs {w : World} {ops : Array Oper} {rest : List Oper} {o : Oper} {a : Act} {Q : Exit → Act → World → Prop} (hgd : o.guard = none) (d s : Operand)
    (ho : o.op = .call { callee := .builtin .copy, args := #[d, s], argTypes := #[49, 49] }) (g : Nat) (A : Option Addr) (cap B : Nat) (l : List Sl)
    (hd : a.eval d = .slice (some ⟨g, 0, none⟩) l.length l.length) (hs : a.eval s = .slice A l.length cap) (cur : Array Value) (hg : Has w g 23 cur) (hn : cur.size = l.length * 2) (hr : SRow w B A l)
    (h : ∀ w', Hid (Has w' g 23 (sfl l).toArray ∧ Only (fun k => k = g) w w') → wpList Try.prog ops Q rest (a.put o.dst (goInt l.length)) w') : wpList Try.prog ops Q (o :: rest) a w := by
  refine wpList_plain hgd fun K hK => ?_
  have hrun := run_copy_slugs w o.type g A cap B l cur hg hn hr
  unfold Oper.wp
  simp [execOp, ho, resolve, invoke, builtin, hd, hs, hrun, Result.andThen]
  exact hK _ _ (h _ (Lib.hid ⟨has_setRow hg _, only_setRow w g _⟩))
end Go.Proofs.Ytjfopmjphiddiaa
/- newCircuit. -/
namespace Go.Proofs.Ytjfopmjphiddiaa
open Go.RowKit Go.Shelf

def Sm.zero : Sm := ⟨0, 0, 0, 0, 0, 0, 0, 0, 0⟩
theorem qcl_app (a b : List Qu) : qcl (a ++ b) = qcl a ++ qcl b := by simp [qcl]
theorem lay_q (qs : List Qu) (q : Qu) (n : Nat) (h : qs.length < n) :
    ((qcl qs ++ zq (n - qs.length)).toArray.setIfInBounds (qs.length * 2) (iv q.room)).setIfInBounds (qs.length * 2 + 1) q.sv = (qcl (qs ++ [q]) ++ zq (n - (qs.length + 1))).toArray := by
  obtain ⟨m, hm⟩ : ∃ m, n - qs.length = m + 1 := ⟨n - qs.length - 1, by omega⟩
  have hm2 : n - (qs.length + 1) = m := by omega
  have e : zq (m + 1) = iv 0 :: nosl :: zq m := by simp [zq, List.replicate_succ]
  have hl := qcl_len qs
  rw [hm, hm2, e, qcl_app]
  simp only [List.setIfInBounds_toArray]
  rw [List.set_append_right _ _ (by omega), List.set_append_right _ _ (by omega)]
  rw [hl, Nat.sub_self, show qs.length * 2 + 1 - qs.length * 2 = 1 by omega]
  simp [qcl]
theorem qhas_fresh {w : World} {g : Nat} {l : List Sl} (room : Int) (h : Has w g 23 (sfl l).toArray) (hm : l.length ≤ maxLen) : QHas w ⟨room, g, 0, l.length, l⟩ :=
  ⟨⟨_, h, by simp [sfl_len], fun k hk => by simpa using sfl_at l k hk⟩, Nat.le_refl _, hm⟩
/-- some of the pipes are laid -/
def QsAt (w : World) (Bp lo : Nat) (ps : List Pp) (k n : Nat) : Prop :=
  ∃ qs : List Qu, qs.map Qu.pp = ps.take k ∧ qs.length = k ∧ Has w Bp 88 (qcl qs ++ zq (n - k)).toArray ∧ (∀ q ∈ qs, QHas w q ∧ lo ≤ q.g) ∧ (qs.map Qu.g).Nodup
def S32 (bs : Nat) (t : Sl) (A : Option Addr) (n cap : Nat) (heat hroom : Int) (w : World) : Prop :=
  w.cell? ⟨bs, 0, none⟩ = some (.int .i64 t.v) ∧ w.cell? ⟨bs, 1, none⟩ = some (.int .i64 t.h) ∧ w.cell? ⟨bs, 2, none⟩ = some (.slice A n cap) ∧ w.cell? ⟨bs, 3, none⟩ = some (.int .i64 heat) ∧ w.cell? ⟨bs, 4, none⟩ = some (.int .i64 hroom)
theorem S32.below {bs : Nat} {t : Sl} {A : Option Addr} {n cap : Nat} {heat hroom : Int} {w w' : World} (x : S32 bs t A n cap heat hroom w) (hb : Below w.heap.size w w') : S32 bs t A n cap heat hroom w' :=
  ⟨cell_below x.1 hb, cell_below x.2.1 hb, cell_below x.2.2.1 hb, cell_below x.2.2.2.1 hb, cell_below x.2.2.2.2 hb⟩
def NewPost (t : Sl) (ps : List Pp) (heat hroom : Int) (W : World) (e : Ending) (W' : World) : Prop :=
  e = .returned (.pointer (some ⟨W.heap.size + 2, 0, none⟩)) ∧ Below W.heap.size W W' ∧ ∃ qs, HereT W' (W.heap.size + 2) (W.heap.size + 1) [] ⟨ps, t, ⟨heat, hroom, Sm.zero⟩⟩ qs ∧ ∀ q ∈ qs, W.heap.size ≤ q.g

theorem qsAt_step {wr w4 : World} {Bp lo k : Nat} {ps : List Pp} (h : QsAt wr Bp lo ps k ps.length) (hk : k < ps.length) (hlo : Bp < lo) (hlw : lo ≤ wr.heap.size) {g : Nat} (hg : wr.heap.size ≤ g) (ho : Only (fun j => j = Bp) wr w4)
    (hn : Has w4 g 23 (sfl ps[k].l).toArray) (hm : ps[k].l.length ≤ maxLen)
    (hp : ∀ cs, Has wr Bp 88 cs → Has w4 Bp 88 ((cs.setIfInBounds (k * 2) (iv ps[k].room)).setIfInBounds (k * 2 + 1) (.slice (some ⟨g, 0, none⟩) ps[k].l.length ps[k].l.length))) : QsAt w4 Bp lo ps (k + 1) ps.length := by
  obtain ⟨qs, h1, h2, h3, h4, h5⟩ := h
  refine ⟨qs ++ [⟨ps[k].room, g, 0, ps[k].l.length, ps[k].l⟩], ?_, by simp [h2], ?_, ?_, ?_⟩
  · rw [List.map_append, h1, List.take_succ_eq_append_getElem hk]; rfl
  · subst h2
    rw [← lay_q qs ⟨ps[qs.length].room, g, 0, ps[qs.length].l.length, ps[qs.length].l⟩ ps.length hk]
    exact hp _ h3
  · intro q hq
    rcases List.mem_append.1 hq with hq | hq
    · exact ⟨(h4 q hq).1.only ho (by have := (h4 q hq).2; omega), (h4 q hq).2⟩
    · obtain rfl := List.mem_singleton.1 hq
      exact ⟨qhas_fresh _ hn hm, by simp only; omega⟩
  · rw [List.map_append, List.nodup_append]
    refine ⟨h5, by simp, fun a ha b hb => ?_⟩
    obtain ⟨q, hq, rfl⟩ := List.mem_map.1 ha
    have := (h4 q hq).1.lt
    simp only [List.map_cons, List.map_nil, List.mem_singleton] at hb
    subst hb; omega

set_option maxRecDepth 100000 in
set_option maxHeartbeats 4000000 in
theorem new_any (t : Sl) (ps : List Pp) (A : Option Addr) (cap : Nat) (heat hroom : Int) (W : World) (hr : PRow W W.heap.size A ps) (h8 : ps.length ≤ 8) (h16 : ∀ p ∈ ps, p.l.length ≤ 16) (hm : maxLen ≥ 16) :
    Calls Try.prog 32 #[brv t A ps.length cap heat hroom] W (NewPost t ps heat hroom W) := by
  have hS0 : S32 W.heap.size t A ps.length cap heat hroom (W.alloc (Obj.cells #[.int .i64 t.v, .int .i64 t.h, .slice A ps.length cap, .int .i64 heat, .int .i64 hroom] 26)).drew :=
    ⟨(Has.new W 26 _).cell 0, (Has.new W 26 _).cell 1, (Has.new W 26 _).cell 2, (Has.new W 26 _).cell 3, (Has.new W 26 _).cell 4⟩
  have HS0 := Lib.hid hS0
  have HR := Lib.hid (And.intro hr (And.intro h8 (And.intro h16 hm)))
  have hmk := fun w => make_pipes ps.length (by omega) w
  clear hS0 hr h8 h16 hm
  go_enter Try.func32, Try.ntmps32
  go_wp2
  refine wp_region_late (S32 W.heap.size t A ps.length cap heat hroom) [] (by kernel_rfl) ?_
  refine wpLate_take (i := 0) (oi := ?oi0) (v := ?v0) [1, 11, 12, 13] ?hi0 (by kernel_rfl) (by kernel_rfl) (by kernel_rfl) (by kernel_rfl) (by kernel_rfl) ?hQ0 (Or.inl ⟨?hw0, ?hy0⟩) HS0.out ?rest0
  case hi0 => (simp only [List.getElem?_toArray, List.getElem?_cons_zero]; rfl)
  case hQ0 => exact fun _ _ _ h => h
  case hw0 => rfl
  case hy0 =>
    intro w' hSw
    obtain ⟨r0, r1, r2, r3, r4⟩ := hSw
    go_simp
    try exact rfl
  simp only [Act.put, List.setIfInBounds_toArray, List.set_cons_zero, List.set_cons_succ]
  refine wpLate_take (i := 1) (oi := ?oi1) (v := ?v1) [11, 12, 13] ?hi1 (by kernel_rfl) (by kernel_rfl) (by kernel_rfl) (by kernel_rfl) (by kernel_rfl) ?hQ1 (Or.inl ⟨?hw1, ?hy1⟩) HS0.out ?rest1
  case hi1 => (simp only [List.getElem?_toArray, List.getElem?_cons_zero, List.getElem?_cons_succ]; rfl)
  case hQ1 => exact fun _ _ _ h => h
  case hw1 => rfl
  case hy1 =>
    intro w' hSw
    obtain ⟨r0, r1, r2, r3, r4⟩ := hSw
    go_simp
    try exact rfl
  simp only [Act.put, List.setIfInBounds_toArray, List.set_cons_zero, List.set_cons_succ]
  refine wpLate_take (i := 2) (oi := ?oi2) (v := ?v2) [3, 4, 5, 11, 12, 13] ?hi2 (by kernel_rfl) (by kernel_rfl) (by kernel_rfl) (by kernel_rfl) (by kernel_rfl) ?hQ2 (Or.inl ⟨?hw2, ?hy2⟩) HS0.out ?rest2
  case hi2 => (simp only [List.getElem?_toArray, List.getElem?_cons_zero, List.getElem?_cons_succ]; rfl)
  case hQ2 => exact fun _ _ _ h => h
  case hw2 => rfl
  case hy2 =>
    intro w' hSw
    obtain ⟨r0, r1, r2, r3, r4⟩ := hSw
    go_simp
    try exact rfl
  simp only [Act.put, List.setIfInBounds_toArray, List.set_cons_zero, List.set_cons_succ]
  refine wpLate_take (i := 3) (oi := ?oi3) (v := ?v3) [4, 5, 11, 12, 13] ?hi3 (by kernel_rfl) (by kernel_rfl) (by kernel_rfl) (by kernel_rfl) (by kernel_rfl) ?hQ3 (Or.inl ⟨?hw3, ?hy3⟩) HS0.out ?rest3
  case hi3 => (simp only [List.getElem?_toArray, List.getElem?_cons_zero, List.getElem?_cons_succ]; rfl)
  case hQ3 => exact fun _ _ _ h => h
  case hw3 => rfl
  case hy3 =>
    intro w' hSw
    obtain ⟨r0, r1, r2, r3, r4⟩ := hSw
    go_simp
    try exact rfl
  simp only [Act.put, List.setIfInBounds_toArray, List.set_cons_zero, List.set_cons_succ]
  refine wpLate_take (i := 6) (oi := ?oi6) (v := ?v6) [7, 10, 11, 12, 13] ?hi6 (by kernel_rfl) (by kernel_rfl) (by kernel_rfl) (by kernel_rfl) (by kernel_rfl) ?hQ6 (Or.inl ⟨?hw6, ?hy6⟩) HS0.out ?rest6
  case hi6 => (simp only [List.getElem?_toArray, List.getElem?_cons_zero, List.getElem?_cons_succ]; rfl)
  case hQ6 => exact fun _ _ _ h => h
  case hw6 => rfl
  case hy6 =>
    intro w' hSw
    obtain ⟨r0, r1, r2, r3, r4⟩ := hSw
    go_simp
    try exact rfl
  simp only [Act.put, List.setIfInBounds_toArray, List.set_cons_zero, List.set_cons_succ]
  refine wpLate_take (i := 7) (oi := ?oi7) (v := ?v7) [10, 11, 12, 13] ?hi7 (by kernel_rfl) (by kernel_rfl) (by kernel_rfl) (by kernel_rfl) (by kernel_rfl) ?hQ7 (Or.inl ⟨?hw7, ?hy7⟩) HS0.out ?rest7
  case hi7 => (simp only [List.getElem?_toArray, List.getElem?_cons_zero, List.getElem?_cons_succ]; rfl)
  case hQ7 => exact fun _ _ _ h => h
  case hw7 => rfl
  case hy7 =>
    intro w' hSw
    obtain ⟨r0, r1, r2, r3, r4⟩ := hSw
    go_simp
    try exact rfl
  simp only [Act.put, List.setIfInBounds_toArray, List.set_cons_zero, List.set_cons_succ]
  refine wpLate_take (i := 8) (oi := ?oi8) (v := ?v8) [9, 10, 11, 12, 13] ?hi8 (by kernel_rfl) (by kernel_rfl) (by kernel_rfl) (by kernel_rfl) (by kernel_rfl) ?hQ8 (Or.inl ⟨?hw8, ?hy8⟩) HS0.out ?rest8
  case hi8 => (simp only [List.getElem?_toArray, List.getElem?_cons_zero, List.getElem?_cons_succ]; rfl)
  case hQ8 => exact fun _ _ _ h => h
  case hw8 => rfl
  case hy8 =>
    intro w' hSw
    obtain ⟨r0, r1, r2, r3, r4⟩ := hSw
    go_simp
    try exact rfl
  simp only [Act.put, List.setIfInBounds_toArray, List.set_cons_zero, List.set_cons_succ]
  refine wpLate_take (i := 9) (oi := ?oi9) (v := ?v9) [10, 11, 12, 13] ?hi9 (by kernel_rfl) (by kernel_rfl) (by kernel_rfl) (by kernel_rfl) (by kernel_rfl) ?hQ9 (Or.inl ⟨?hw9, ?hy9⟩) HS0.out ?rest9
  case hi9 => (simp only [List.getElem?_toArray, List.getElem?_cons_zero, List.getElem?_cons_succ]; rfl)
  case hQ9 => exact fun _ _ _ h => h
  case hw9 => rfl
  case hy9 =>
    intro w' hSw
    obtain ⟨r0, r1, r2, r3, r4⟩ := hSw
    go_simp
    try exact rfl
  simp only [Act.put, List.setIfInBounds_toArray, List.set_cons_zero, List.set_cons_succ]
  refine wpLate_take (i := 10) (oi := ?oi10) (v := ?v10) [11, 12, 13] ?hi10 (by kernel_rfl) (by kernel_rfl) (by kernel_rfl) (by kernel_rfl) (by kernel_rfl) ?hQ10 (Or.inl ⟨?hw10, ?hy10⟩) HS0.out ?rest10
  case hi10 => (simp only [List.getElem?_toArray, List.getElem?_cons_zero, List.getElem?_cons_succ]; rfl)
  case hQ10 => exact fun _ _ _ h => h
  case hw10 => rfl
  case hy10 =>
    intro w' hSw
    obtain ⟨r0, r1, r2, r3, r4⟩ := hSw
    go_simp
    try exact rfl
  simp only [Act.put, List.setIfInBounds_toArray, List.set_cons_zero, List.set_cons_succ]
  refine wpLate_one (i := 4) (o := ?o4) (by kernel_rfl) ?ho4 ?hk4
  case ho4 => (simp only [List.getElem?_toArray, List.getElem?_cons_zero, List.getElem?_cons_succ]; rfl)
  intro K hK
  go_simp
  refine hK.out _ _ (fun _ => HS0.out) ?_
  clear hK K
  try simp only [Act.put, List.setIfInBounds_toArray, List.set_cons_zero, List.set_cons_succ]
  refine wpLate_one (i := 5) (o := ?o5) (by kernel_rfl) ?ho5 ?hk5
  case ho5 => (simp only [List.getElem?_toArray, List.getElem?_cons_zero, List.getElem?_cons_succ]; rfl)
  intro K hK
  go_simp
  have hS1 := HS0.out.below (below_one _ (Obj.cells (zq ps.length).toArray 88))
  refine hK.out _ _ (fun _ => hS1) ?_
  have HS1 := Lib.hid hS1
  clear hS1
  clear hK K
  try simp only [Act.put, List.setIfInBounds_toArray, List.set_cons_zero, List.set_cons_succ]
  refine wpLate_one (i := 11) (o := ?o11) (by kernel_rfl) ?ho11 ?hk11
  case ho11 => (simp only [List.getElem?_toArray, List.getElem?_cons_zero, List.getElem?_cons_succ]; rfl)
  intro K hK
  go_simp
  refine hK.out _ _ (fun _ => HS1.out) ?_
  clear hK K
  try simp only [Act.put, List.setIfInBounds_toArray, List.set_cons_zero, List.set_cons_succ]
  refine wpLate_one (i := 12) (o := ?o12) (by kernel_rfl) ?ho12 ?hk12
  case ho12 => (simp only [List.getElem?_toArray, List.getElem?_cons_zero, List.getElem?_cons_succ]; rfl)
  intro K hK
  go_simp
  have hS2 := HS1.out.below (below_one _ (Obj.cells (ccells t (W.heap.size + 1) ps.length ⟨heat, hroom, Sm.zero⟩) 70))
  refine hK.out _ _ (fun _ => hS2) ?_
  have HS2 := Lib.hid hS2
  clear hS2
  clear hK K
  try simp only [Act.put, List.setIfInBounds_toArray, List.set_cons_zero, List.set_cons_succ]
  refine wpLate_one (i := 13) (o := ?o13) (by kernel_rfl) ?ho13 ?hk13
  case ho13 => (simp only [List.getElem?_toArray, List.getElem?_cons_zero, List.getElem?_cons_succ]; rfl)
  intro K hK
  go_simp
  refine hK.out _ _ (fun _ => HS2.out) ?_
  clear hK K
  try simp only [Act.put, List.setIfInBounds_toArray, List.set_cons_zero, List.set_cons_succ]
  refine wpLate_done (by kernel_rfl) ?_ _
  try simp only [Act.put, List.setIfInBounds_toArray, List.set_cons_zero, List.set_cons_succ]
  have hb1 : Below W.heap.size W (((W.alloc (Obj.cells #[.int .i64 t.v, .int .i64 t.h, .slice A ps.length cap, .int .i64 heat, .int .i64 hroom] 26)).alloc (Obj.cells (zq ps.length).toArray 88)).alloc (Obj.cells (ccells t (W.heap.size + 1) ps.length ⟨heat, hroom, Sm.zero⟩) 70)).drew := Below.drew (Below.alloc (Below.alloc (below_one _ _) (by simp) _) (by simp; omega) _)
  have hx1 : Has (((W.alloc (Obj.cells #[.int .i64 t.v, .int .i64 t.h, .slice A ps.length cap, .int .i64 heat, .int .i64 hroom] 26)).alloc (Obj.cells (zq ps.length).toArray 88)).alloc (Obj.cells (ccells t (W.heap.size + 1) ps.length ⟨heat, hroom, Sm.zero⟩) 70)).drew W.heap.size 26 #[.int .i64 t.v, .int .i64 t.h, .slice A ps.length cap, .int .i64 heat, .int .i64 hroom] := (((Has.new W 26 _).alloc _).alloc _).drew
  have hp1 : Has (((W.alloc (Obj.cells #[.int .i64 t.v, .int .i64 t.h, .slice A ps.length cap, .int .i64 heat, .int .i64 hroom] 26)).alloc (Obj.cells (zq ps.length).toArray 88)).alloc (Obj.cells (ccells t (W.heap.size + 1) ps.length ⟨heat, hroom, Sm.zero⟩) 70)).drew (W.heap.size + 1) 88 (zq ps.length).toArray := by
    refine Has.drew (Has.alloc (Has.newAt ?_) _); simp
  have hc1 : Has (((W.alloc (Obj.cells #[.int .i64 t.v, .int .i64 t.h, .slice A ps.length cap, .int .i64 heat, .int .i64 hroom] 26)).alloc (Obj.cells (zq ps.length).toArray 88)).alloc (Obj.cells (ccells t (W.heap.size + 1) ps.length ⟨heat, hroom, Sm.zero⟩) 70)).drew (W.heap.size + 2) 70 (ccells t (W.heap.size + 1) ps.length ⟨heat, hroom, Sm.zero⟩) := by
    refine Has.drew (Has.newAt ?_); simp
  have hz1 : (((W.alloc (Obj.cells #[.int .i64 t.v, .int .i64 t.h, .slice A ps.length cap, .int .i64 heat, .int .i64 hroom] 26)).alloc (Obj.cells (zq ps.length).toArray 88)).alloc (Obj.cells (ccells t (W.heap.size + 1) ps.length ⟨heat, hroom, Sm.zero⟩) 70)).drew.heap.size = W.heap.size + 3 := by simp
  have H1 := Lib.hid (And.intro hb1 (And.intro hx1 (And.intro hp1 (And.intro hc1 hz1))))
  clear HS0 HS1 HS2 hb1 hx1 hp1 hc1 hz1 hmk
  refine (?_ : ∀ w1, Hid (Below W.heap.size W w1 ∧ Has w1 W.heap.size 26 #[.int .i64 t.v, .int .i64 t.h, .slice A ps.length cap, .int .i64 heat, .int .i64 hroom] ∧ Has w1 (W.heap.size + 1) 88 (zq ps.length).toArray ∧ Has w1 (W.heap.size + 2) 70 (ccells t (W.heap.size + 1) ps.length ⟨heat, hroom, Sm.zero⟩) ∧ w1.heap.size = W.heap.size + 3) → Exit.then _ _ Exit.normal _ w1) _ ?hP
  case hP => exact H1
  clear H1
  intro w1 H1
  obtain ⟨hb1, hx1, hp1, hc1, hz1⟩ := H1.out
  have c2 : w1.cell? ⟨W.heap.size, 2, none⟩ = some (.slice A ps.length cap) := hx1.cell 2
  have b2 := hx1.lt
  have HC := Lib.hid (And.intro hx1 hc1)
  have HP := Lib.hid (And.intro hb1 hp1)
  clear H1 hx1 hc1 hb1 hp1
  go_wp2
  go_loopw [23] (fun i wr => ∃ k : Nat, k ≤ ps.length ∧ i = .int .i64 k ∧ Only (fun j => j = W.heap.size + 1) w1 wr ∧ QsAt wr (W.heap.size + 1) (W.heap.size + 3) ps k ps.length) (fun i _ => ps.length - (intOf i).toNat)
  case atStart => exact ⟨0, Nat.zero_le _, rfl, Only.refl _ _, [], rfl, rfl, by simpa [qcl] using HP.out.2, by simp, by simp⟩
  case round =>
    obtain ⟨k, hk, rfl, ho, hq⟩ := hrel
    have hsz := ho.size
    have h88 := HR.out.2.1
    have hcr : Has wr (W.heap.size + 2) 70 (ccells t (W.heap.size + 1) ps.length ⟨heat, hroom, Sm.zero⟩) := HC.out.2.only ho (by omega)
    have hbr : Below W.heap.size W wr := HP.out.1.trans (ho.below (by omega) (fun i hi => by omega))
    have c3 : wr.cell? ⟨W.heap.size + 2, 2, none⟩ = some (.slice (some ⟨W.heap.size + 1, 0, none⟩) ps.length ps.length) := hcr.cell 2
    by_cases hlt : k < ps.length
    · obtain ⟨g, o, A', cap', eA, hg, d0, d1, hs⟩ := (HR.out.1.below hbr) k hlt
      have hlt' : (k : Int) < ps.length := by omega
      have hgw : g < wr.heap.size := by omega
      subst eA
      have h16 := HR.out.2.2.1 _ (List.getElem_mem hlt)
      obtain ⟨p, hp⟩ : ∃ p, p = ps[k] := ⟨_, rfl⟩
      rw [← hp] at d0 d1 hs h16
      have hmk2 := fun w => make_slugs p.l.length (by omega) w
      have HQ := Lib.hid (And.intro hq (And.intro ho (And.intro hbr (And.intro hs hp))))
      clear hq ho hbr hs hp hcr
      go_wp2
      have hnB : Has ((wr.alloc (Obj.cells #[.int .i64 p.room, .slice A' p.l.length cap'] 51)).alloc (Obj.cells (zs23 p.l.length).toArray 23)) (wr.heap.size + 1) 23 (zs23 p.l.length).toArray := by
        refine Has.newAt ?_; simp
      have hbx : Has ((wr.alloc (Obj.cells #[.int .i64 p.room, .slice A' p.l.length cap'] 51)).alloc (Obj.cells (zs23 p.l.length).toArray 23)) wr.heap.size 51 #[.int .i64 p.room, .slice A' p.l.length cap'] := (Has.new wr 51 _).alloc _
      have hb2 : Below wr.heap.size wr ((wr.alloc (Obj.cells #[.int .i64 p.room, .slice A' p.l.length cap'] 51)).alloc (Obj.cells (zs23 p.l.length).toArray 23)) := Below.alloc (below_one _ _) (by simp) _
      obtain ⟨w3, h3, e3⟩ : ∃ w3, (Has w3 (wr.heap.size + 1) 23 (sfl p.l).toArray ∧ Only (fun j => j = wr.heap.size + 1) ((wr.alloc (Obj.cells #[.int .i64 p.room, .slice A' p.l.length cap'] 51)).alloc (Obj.cells (zs23 p.l.length).toArray 23)) w3) ∧
          (Builtin.copy_ #[49, 49] 3 #[.slice (some ⟨wr.heap.size + 1, 0, none⟩) p.l.length p.l.length, .slice A' p.l.length cap']).run Try.prog ((wr.alloc (Obj.cells #[.int .i64 p.room, .slice A' p.l.length cap'] 51)).alloc (Obj.cells (zs23 p.l.length).toArray 23)) = .ok (goInt p.l.length) w3 :=
        ⟨_, ⟨has_setRow hnB _, only_setRow _ _ _⟩, run_copy_slugs _ _ _ _ _ _ _ _ hnB (by simp [zs23_len]) (HQ.out.2.2.2.1.below (hb2.mono (by omega)))⟩
      rw [e3]
      have hbx3 := hbx.only h3.2 (by omega)
      have hb3 : Below wr.heap.size wr w3 := hb2.trans (h3.2.below (by simp only [World.size_alloc]; omega) (fun i hi => by omega))
      have hsz3 := hb3.size
      have c33 := cell_below c3 hb3
      have p0 : w3.cell? ⟨wr.heap.size, 0, none⟩ = some (.int .i64 p.room) := hbx3.cell 0
      have H3 := Lib.hid (And.intro h3.1 hb3)
      obtain ⟨qs0, _, hl0, hh0, _, _⟩ := HQ.out.1
      have hh3 := hh0.below hb3 (by omega)
      have f3 := hh3.frozen (k * 2)
      have f31 := hh3.frozen (k * 2 + 1)
      have hs0 : (qcl qs0 ++ zq (ps.length - k)).toArray.size = ps.length * 2 := by
        simp only [List.size_toArray, List.length_append, qcl_len, zq_len]; omega
      obtain ⟨v0, y0⟩ : ∃ v, w3.cell? ⟨W.heap.size + 1, k * 2, none⟩ = some v := ⟨_, (hh3.cell _).trans (Array.getElem?_eq_getElem (by omega))⟩
      obtain ⟨v1, y1⟩ : ∃ v, w3.cell? ⟨W.heap.size + 1, k * 2 + 1, none⟩ = some v := ⟨_, (hh3.cell _).trans (Array.getElem?_eq_getElem (by omega))⟩
      clear e3 h3 hb3 hnB hbx hb2 hbx3 hh0 hh3 hmk2 hs0 hl0
      go_wp2
      refine still_tail 10 (by kernel_rfl) (by kernel_rfl) ?_
      simp only [List.take_succ_cons, List.take_zero, List.drop_succ_cons, List.drop_zero]
      repeat still_step
      refine wpStill_nil ?_
      go_wp2
      go_roundw
      case rel =>
        have hpe := HQ.out.2.2.2.2
        subst hpe
        refine ⟨k + 1, by omega, by go_num, ?_, ?_⟩
        · refine Only.drew (Only.setCell (Only.setCell (HQ.out.2.1.andBelow H3.out.2) ?_ _) ?_ _)
          · exact .inl rfl
          · exact .inl rfl
        · refine qsAt_step HQ.out.1 hlt (by omega) (by omega) (g := wr.heap.size + 1) (by omega) ?_ ?_ (by have := HR.out.2.2.2; omega) ?_
          · refine Only.drew (Only.setCell (Only.setCell (Only.of_below H3.out.2) ?_ _) ?_ _)
            · exact .inl rfl
            · exact .inl rfl
          · exact ((H3.out.1.far (by simp only; omega) _).far (by simp only; omega) _).drew
          · intro cs hcs
            exact (((hcs.below H3.out.2 (by omega)).set _ _).set _ _).drew
      case measure => simp [intOf]; omega
    · have hk' : ¬ (k : Int) < ps.length := by omega
      have HQ := Lib.hid (And.intro hq (And.intro hcr hbr))
      clear hq hcr hbr ho
      go_wp2
      go_ret
      refine ⟨rfl, HQ.out.2.2, ?_⟩
      obtain ⟨qs, g1, g2, g3, g4, g5⟩ := HQ.out.1
      have hke : k = ps.length := by omega
      subst hke
      refine ⟨qs, ⟨qs, rfl, by rw [g1, List.take_length], ?_⟩, fun q hq => by have := (g4 q hq).2; omega⟩
      rw [Nat.sub_self] at g3
      refine ⟨by rw [g2]; exact HQ.out.2.1, by simpa [zq, qcells] using g3, fun q hq => (g4 q hq).1, by omega, fun q hq => ?_, g5⟩
      have := (g4 q hq).2
      exact ⟨by omega, by omega⟩
end Go.Proofs.Ytjfopmjphiddiaa
