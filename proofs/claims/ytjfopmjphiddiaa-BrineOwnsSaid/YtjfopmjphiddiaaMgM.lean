/- The brine of a circuit. -/
import Derived.Test.YtjfopmjphiddiaaMgL
namespace Go.Proofs.Ytjfopmjphiddiaa
open Go.RowKit Go.Shelf

theorem make_pipes24 (n : Nat) (hn : n ≤ 1000000) (w : World) : (Instr.makeSlice 24 (.int .i64 n) (.int .i64 n)).run Try.prog w = .ok (.slice (some ⟨w.heap.size, 0, none⟩) n n) (w.alloc (.cells (zq n).toArray 51)) := by
  obtain ⟨i, hi, hz0, hz1, hz2⟩ := info_parts Try.info51
  have := run_make (P := Try.prog) w 24 51 i _ Try.underlying24 hi hz0 .i64 .i64 n n (by omega) (by omega) (by rw [hz2]; omega) (by omega)
  rw [this, hz1]
  simp only [Int.toNat_natCast]
  rw [zq, ← made_two]; rfl
def EndPost (t : Sl) (qs : List Qu) (heat hroom : Int) (W : World) (e : Ending) (W' : World) : Prop :=
  ∃ Bn, e = .returned (brv t (some ⟨Bn, 0, none⟩) qs.length qs.length heat hroom) ∧ Below W.heap.size W W' ∧ Has W' Bn 51 (qcells qs) ∧ W.heap.size ≤ Bn

set_option maxRecDepth 100000 in
set_option maxHeartbeats 4000000 in
theorem end_any (Bc Bp : Nat) (t : Sl) (qs : List Qu) (r : Ho) (W : World) (hC : Circ W Bc Bp t qs r) (h8 : qs.length ≤ 8) :
    Calls Try.prog 34 #[.pointer (some ⟨Bc, 0, none⟩)] W (EndPost t qs r.heat r.room W) := by
  have hS0 : S32 Bc t (some ⟨Bp, 0, none⟩) qs.length qs.length r.heat r.room (W.alloc (Obj.cells #[.int .i64 0, .int .i64 0, .slice none 0 0, .int .i64 0, .int .i64 0] 26)).drew :=
    ⟨(hC.c.alloc _).cell 0, (hC.c.alloc _).cell 1, (hC.c.alloc _).cell 2, (hC.c.alloc _).cell 3, (hC.c.alloc _).cell 4⟩
  have HS0 := Lib.hid hS0
  have HR := Lib.hid (And.intro hC h8)
  have hmk := fun w => make_pipes24 qs.length (by omega) w
  clear hS0 hC h8
  go_enter Try.func34, Try.ntmps34
  go_wp2
  rename_i K hsK
  have key : ∀ Bn Bx w1, Hid (Below W.heap.size W w1 ∧ (∃ v0 v1 v2 v3 v4, Has w1 W.heap.size 26 #[v0, v1, v2, v3, v4]) ∧ Has w1 Bn 51 (zq qs.length).toArray ∧ Has w1 Bx 26 #[.int .i64 t.v, .int .i64 t.h, .slice (some ⟨Bn, 0, none⟩) qs.length qs.length, .int .i64 r.heat, .int .i64 r.room] ∧ W.heap.size < Bn ∧ W.heap.size < Bx ∧ Bn ≠ Bx) → Exit.then K (bodyPost Try.prog Try.f34 (EndPost t qs r.heat r.room W)) Exit.normal ⟨#[.pointer (some ⟨Bc, 0, none⟩), undef, .pointer (some ⟨W.heap.size, 0, none⟩), .pointer (some ⟨Bx, 0, none⟩), undef, undef, .pointer (some ⟨Bc, 0, none⟩), .pointer (some ⟨Bc, 0, none⟩), .pointer (some ⟨Bc, 0, none⟩), .agg #[.int .i64 t.v, .int .i64 t.h], .pointer (some ⟨Bc, 0, none⟩), .pointer (some ⟨Bc, 0, none⟩), .pointer (some ⟨Bc, 2, none⟩), .slice (some ⟨Bp, 0, none⟩) qs.length qs.length, .int .i64 qs.length, .slice (some ⟨Bn, 0, none⟩) qs.length qs.length, .pointer (some ⟨Bc, 0, none⟩), .pointer (some ⟨Bc, 0, none⟩), .pointer (some ⟨Bc, 3, none⟩), .pointer (some ⟨Bc, 3, none⟩), .int .i64 r.heat, .pointer (some ⟨Bc, 0, none⟩), .pointer (some ⟨Bc, 0, none⟩), .pointer (some ⟨Bc, 3, none⟩), .pointer (some ⟨Bc, 4, none⟩), .int .i64 r.room, .agg #[.int .i64 t.v, .int .i64 t.h, .slice (some ⟨Bn, 0, none⟩) qs.length qs.length, .int .i64 r.heat, .int .i64 r.room], undef, undef, undef, undef, undef, undef, undef, undef, undef, undef, undef, undef, undef, undef, undef, undef, undef], []⟩ w1 := by
    intro Bn Bx w1 H1
    clear hmk HS0
    obtain ⟨hb1, _, hn1, hx1, l1, l2, l3⟩ := H1.out
    have hC := HR.out.1.below hb1
    have c2 : w1.cell? ⟨Bc, 2, none⟩ = some (.slice (some ⟨Bp, 0, none⟩) qs.length qs.length) := hC.c.cell 2
    have lc := hC.c.lt
    have lx := hx1.lt
    have ln := hn1.lt
    have lb := HR.out.1.c.lt
    have lp := HR.out.1.p.lt
    clear hn1 hx1 hb1 hC
    go_wp2
    go_loopw [32] (fun i wr => ∃ k : Nat, k ≤ qs.length ∧ i = .int .i64 k ∧ Only (fun j => j = Bn) w1 wr ∧ Has wr Bn 51 (qcl (qs.take k) ++ zq (qs.length - k)).toArray) (fun i _ => qs.length - (intOf i).toNat)
    case atStart => exact ⟨0, Nat.zero_le _, rfl, Only.refl _ _, by simpa [qcl] using H1.out.2.2.1⟩
    case round =>
      obtain ⟨k, hk, rfl, ho, hq⟩ := hrel
      have hsz := ho.size
      have h88 := HR.out.2
      have hC := (HR.out.1.below H1.out.1).only ho (fun j hj he => by
        subst he
        have := HR.out.1.lt hj
        omega)
      have hx := H1.out.2.2.2.1.only ho (Ne.symm l3)
      obtain ⟨v0, v1, v2, v3, v4, h0w⟩ := H1.out.2.1
      have h0 := h0w.only ho (by omega)
      have x2 : wr.cell? ⟨Bx, 2, none⟩ = some (.slice (some ⟨Bn, 0, none⟩) qs.length qs.length) := hx.cell 2
      by_cases hlt : k < qs.length
      · have hlt' : (k : Int) < qs.length := by omega
        obtain ⟨q, hqe⟩ : ∃ q, q = qs[k] := ⟨_, rfl⟩
        have hqa := qcells_at qs k hlt
        rw [← hqe] at hqa
        have p0 : wr.cell? ⟨Bp, k * 2, none⟩ = some (.int .i64 q.room) := (hC.p.cell _).trans hqa.1
        have p1 : wr.cell? ⟨Bp, k * 2 + 1, none⟩ = some (.slice (some ⟨q.g, q.off, none⟩) q.l.length q.cap) := (hC.p.cell _).trans hqa.2
        have hs0 : (qcl (qs.take k) ++ zq (qs.length - k)).toArray.size = qs.length * 2 := by
          simp only [List.size_toArray, List.length_append, qcl_len, zq_len, List.length_take]; omega
        obtain ⟨u0, y0⟩ : ∃ v, wr.cell? ⟨Bn, k * 2, none⟩ = some v := ⟨_, (hq.cell _).trans (Array.getElem?_eq_getElem (by omega))⟩
        obtain ⟨u1, y1⟩ : ∃ v, wr.cell? ⟨Bn, k * 2 + 1, none⟩ = some v := ⟨_, (hq.cell _).trans (Array.getElem?_eq_getElem (by omega))⟩
        have f0 := hq.frozen (k * 2)
        have f1 := hq.frozen (k * 2 + 1)
        have ew : W.heap.size < wr.heap.size := by omega
        have en : Bn < wr.heap.size := by omega
        have ep : Bp < wr.heap.size := by omega
        have ex : Bx < wr.heap.size := by omega
        have HQ := Lib.hid (And.intro hq (And.intro ho hqe))
        clear hq ho hqe hC hx h0 h0w hqa hs0
        go_wp2
        go_roundw
        case rel =>
          have hqe := HQ.out.2.2
          subst hqe
          refine ⟨k + 1, by omega, by simp, ?_, ?_⟩
          · refine Only.alloc (Only.setCell (Only.setCell HQ.out.2.1 ?_ _) ?_ _) _
            · exact .inl rfl
            · exact .inl rfl
          · have e := lay_q (qs.take k) qs[k] qs.length (by simp; omega)
            rw [List.length_take, Nat.min_eq_left hk] at e
            rw [List.take_succ_eq_append_getElem hlt, ← e]
            exact ((HQ.out.1.set _ _).set _ _).alloc _
        case measure => simp [intOf]; omega
      · have hk' : ¬ (k : Int) < qs.length := by omega
        have hke : k = qs.length := by omega
        subst hke
        rw [Nat.sub_self, List.take_length] at hq
        have hq : Has wr Bn 51 (qcells qs) := by simpa [zq, qcells] using hq
        have z0 : wr.cell? ⟨Bx, 0, none⟩ = some (.int .i64 t.v) := hx.cell 0
        have z1 : wr.cell? ⟨Bx, 1, none⟩ = some (.int .i64 t.h) := hx.cell 1
        have z3 : wr.cell? ⟨Bx, 3, none⟩ = some (.int .i64 r.heat) := hx.cell 3
        have z4 : wr.cell? ⟨Bx, 4, none⟩ = some (.int .i64 r.room) := hx.cell 4
        have g0 : wr.cell? ⟨W.heap.size, 0, none⟩ = some v0 := h0.cell 0
        have g1 : wr.cell? ⟨W.heap.size, 1, none⟩ = some v1 := h0.cell 1
        have g2 : wr.cell? ⟨W.heap.size, 2, none⟩ = some v2 := h0.cell 2
        have g3 : wr.cell? ⟨W.heap.size, 3, none⟩ = some v3 := h0.cell 3
        have g4 : wr.cell? ⟨W.heap.size, 4, none⟩ = some v4 := h0.cell 4
        have f0 := h0.frozen 0
        have f1 := h0.frozen 1
        have f2 := h0.frozen 2
        have f3 := h0.frozen 3
        have f4 := h0.frozen 4
        have lw := h0.lt
        have HQ := Lib.hid (And.intro hq (And.intro ho h0))
        clear hq ho hC hx h0 h0w
        go_wp2
        obtain ⟨wz, hwz⟩ : ∃ wz, wz = ((((wr.setCell ⟨W.heap.size, 0, none⟩ (.int .i64 t.v)).setCell ⟨W.heap.size, 1, none⟩ (.int .i64 t.h)).setCell ⟨W.heap.size, 2, none⟩ (.slice (some ⟨Bn, 0, none⟩) qs.length qs.length)).setCell ⟨W.heap.size, 3, none⟩ (.int .i64 r.heat)).setCell ⟨W.heap.size, 4, none⟩ (.int .i64 r.room) := ⟨_, rfl⟩
        rw [← hwz]
        have hz : Has wz W.heap.size 26 #[.int .i64 t.v, .int .i64 t.h, .slice (some ⟨Bn, 0, none⟩) qs.length qs.length, .int .i64 r.heat, .int .i64 r.room] := by
          rw [hwz]
          exact ((((HQ.out.2.2.set 0 (.int .i64 t.v)).set 1 (.int .i64 t.h)).set 2 (.slice (some ⟨Bn, 0, none⟩) qs.length qs.length)).set 3 (.int .i64 r.heat)).set 4 (.int .i64 r.room)
        have q0 : wz.cell? ⟨W.heap.size, 0, none⟩ = some (.int .i64 t.v) := hz.cell 0
        have q1 : wz.cell? ⟨W.heap.size, 1, none⟩ = some (.int .i64 t.h) := hz.cell 1
        have q2 : wz.cell? ⟨W.heap.size, 2, none⟩ = some (.slice (some ⟨Bn, 0, none⟩) qs.length qs.length) := hz.cell 2
        have q3 : wz.cell? ⟨W.heap.size, 3, none⟩ = some (.int .i64 r.heat) := hz.cell 3
        have q4 : wz.cell? ⟨W.heap.size, 4, none⟩ = some (.int .i64 r.room) := hz.cell 4
        have hoz : Only (fun j => j = Bn ∨ j = W.heap.size) w1 wz := by
          rw [hwz]
          refine Only.setCell (Only.setCell (Only.setCell (Only.setCell (Only.setCell (HQ.out.2.1.mono fun i _ hi => .inl hi) ?_ _) ?_ _) ?_ _) ?_ _) ?_ _
          · exact .inl (.inr rfl)
          · exact .inl (.inr rfl)
          · exact .inl (.inr rfl)
          · exact .inl (.inr rfl)
          · exact .inl (.inr rfl)
        have hnz : Has wz Bn 51 (qcells qs) := by
          rw [hwz]
          exact ((((HQ.out.1.far (by simp only; omega) _).far (by simp only; omega) _).far (by simp only; omega) _).far (by simp only; omega) _).far (by simp only; omega) _
        refine bodyPost_ret (v := brv t (some ⟨Bn, 0, none⟩) qs.length qs.length r.heat r.room) (by simp [results, Try.results34, go_sem, q0, q1, q2, q3, q4]) rfl ⟨Bn, rfl, ?_, hnz, by omega⟩
        exact H1.out.1.trans (hoz.below (by omega) (fun i hi => by omega))
  have HK := Lib.hid key
  clear key
  refine wp_region_late (S32 Bc t (some ⟨Bp, 0, none⟩) qs.length qs.length r.heat r.room) [22] (by kernel_rfl) ?_
  refine wpLate_take (i := 0) (oi := ?oi0) (v := ?v0) [1, 2, 3, 20, 22] ?hi0 (by kernel_rfl) (by kernel_rfl) (by kernel_rfl) (by kernel_rfl) (by kernel_rfl) ?hQ0 (Or.inl ⟨?hw0, ?hy0⟩) HS0.out ?rest0
  case hi0 => (simp only [List.getElem?_toArray, List.getElem?_cons_zero]; rfl)
  case hQ0 => exact fun _ _ _ h => h
  case hw0 => rfl
  case hy0 =>
    intro w' hSw
    obtain ⟨r0, r1, r2, r3, r4⟩ := hSw
    go_simp
    try exact rfl
  simp only [Act.put, List.setIfInBounds_toArray, List.set_cons_zero, List.set_cons_succ]
  refine wpLate_take (i := 1) (oi := ?oi1) (v := ?v1) [2, 3, 20, 22] ?hi1 (by kernel_rfl) (by kernel_rfl) (by kernel_rfl) (by kernel_rfl) (by kernel_rfl) ?hQ1 (Or.inl ⟨?hw1, ?hy1⟩) HS0.out ?rest1
  case hi1 => (simp only [List.getElem?_toArray, List.getElem?_cons_zero, List.getElem?_cons_succ]; rfl)
  case hQ1 => exact fun _ _ _ h => h
  case hw1 => rfl
  case hy1 =>
    intro w' hSw
    obtain ⟨r0, r1, r2, r3, r4⟩ := hSw
    go_simp
    try exact rfl
  simp only [Act.put, List.setIfInBounds_toArray, List.set_cons_zero, List.set_cons_succ]
  refine wpLate_take (i := 2) (oi := ?oi2) (v := ?v2) [3, 20, 22] ?hi2 (by kernel_rfl) (by kernel_rfl) (by kernel_rfl) (by kernel_rfl) (by kernel_rfl) ?hQ2 (Or.inl ⟨?hw2, ?hy2⟩) HS0.out ?rest2
  case hi2 => (simp only [List.getElem?_toArray, List.getElem?_cons_zero, List.getElem?_cons_succ]; rfl)
  case hQ2 => exact fun _ _ _ h => h
  case hw2 => rfl
  case hy2 =>
    intro w' hSw
    obtain ⟨r0, r1, r2, r3, r4⟩ := hSw
    go_simp
    try exact rfl
  simp only [Act.put, List.setIfInBounds_toArray, List.set_cons_zero, List.set_cons_succ]
  refine wpLate_take (i := 3) (oi := ?oi3) (v := ?v3) [20, 22] ?hi3 (by kernel_rfl) (by kernel_rfl) (by kernel_rfl) (by kernel_rfl) (by kernel_rfl) ?hQ3 (Or.inl ⟨?hw3, ?hy3⟩) HS0.out ?rest3
  case hi3 => (simp only [List.getElem?_toArray, List.getElem?_cons_zero, List.getElem?_cons_succ]; rfl)
  case hQ3 => exact fun _ _ _ h => h
  case hw3 => rfl
  case hy3 =>
    intro w' hSw
    obtain ⟨r0, r1, r2, r3, r4⟩ := hSw
    go_simp
    try exact rfl
  simp only [Act.put, List.setIfInBounds_toArray, List.set_cons_zero, List.set_cons_succ]
  refine wpLate_take (i := 4) (oi := ?oi4) (v := ?v4) [5, 6, 7, 8, 9, 20, 22] ?hi4 (by kernel_rfl) (by kernel_rfl) (by kernel_rfl) (by kernel_rfl) (by kernel_rfl) ?hQ4 (Or.inl ⟨?hw4, ?hy4⟩) HS0.out ?rest4
  case hi4 => (simp only [List.getElem?_toArray, List.getElem?_cons_zero, List.getElem?_cons_succ]; rfl)
  case hQ4 => exact fun _ _ _ h => h
  case hw4 => rfl
  case hy4 =>
    intro w' hSw
    obtain ⟨r0, r1, r2, r3, r4⟩ := hSw
    go_simp
    try exact rfl
  simp only [Act.put, List.setIfInBounds_toArray, List.set_cons_zero, List.set_cons_succ]
  refine wpLate_take (i := 5) (oi := ?oi5) (v := ?v5) [6, 7, 8, 9, 20, 22] ?hi5 (by kernel_rfl) (by kernel_rfl) (by kernel_rfl) (by kernel_rfl) (by kernel_rfl) ?hQ5 (Or.inl ⟨?hw5, ?hy5⟩) HS0.out ?rest5
  case hi5 => (simp only [List.getElem?_toArray, List.getElem?_cons_zero, List.getElem?_cons_succ]; rfl)
  case hQ5 => exact fun _ _ _ h => h
  case hw5 => rfl
  case hy5 =>
    intro w' hSw
    obtain ⟨r0, r1, r2, r3, r4⟩ := hSw
    go_simp
    try exact rfl
  simp only [Act.put, List.setIfInBounds_toArray, List.set_cons_zero, List.set_cons_succ]
  refine wpLate_take (i := 6) (oi := ?oi6) (v := ?v6) [7, 8, 9, 20, 22] ?hi6 (by kernel_rfl) (by kernel_rfl) (by kernel_rfl) (by kernel_rfl) (by kernel_rfl) ?hQ6 (Or.inl ⟨?hw6, ?hy6⟩) HS0.out ?rest6
  case hi6 => (simp only [List.getElem?_toArray, List.getElem?_cons_zero, List.getElem?_cons_succ]; rfl)
  case hQ6 => exact fun _ _ _ h => h
  case hw6 => rfl
  case hy6 =>
    intro w' hSw
    obtain ⟨r0, r1, r2, r3, r4⟩ := hSw
    go_simp
    try exact rfl
  simp only [Act.put, List.setIfInBounds_toArray, List.set_cons_zero, List.set_cons_succ]
  refine wpLate_take (i := 7) (oi := ?oi7) (v := ?v7) [8, 9, 20, 22] ?hi7 (by kernel_rfl) (by kernel_rfl) (by kernel_rfl) (by kernel_rfl) (by kernel_rfl) ?hQ7 (Or.inl ⟨?hw7, ?hy7⟩) HS0.out ?rest7
  case hi7 => (simp only [List.getElem?_toArray, List.getElem?_cons_zero, List.getElem?_cons_succ]; rfl)
  case hQ7 => exact fun _ _ _ h => h
  case hw7 => rfl
  case hy7 =>
    intro w' hSw
    obtain ⟨r0, r1, r2, r3, r4⟩ := hSw
    go_simp
    try exact rfl
  simp only [Act.put, List.setIfInBounds_toArray, List.set_cons_zero, List.set_cons_succ]
  refine wpLate_take (i := 10) (oi := ?oi10) (v := ?v10) [11, 12, 13, 14, 20, 22] ?hi10 (by kernel_rfl) (by kernel_rfl) (by kernel_rfl) (by kernel_rfl) (by kernel_rfl) ?hQ10 (Or.inl ⟨?hw10, ?hy10⟩) HS0.out ?rest10
  case hi10 => (simp only [List.getElem?_toArray, List.getElem?_cons_zero, List.getElem?_cons_succ]; rfl)
  case hQ10 => exact fun _ _ _ h => h
  case hw10 => rfl
  case hy10 =>
    intro w' hSw
    obtain ⟨r0, r1, r2, r3, r4⟩ := hSw
    go_simp
    try exact rfl
  simp only [Act.put, List.setIfInBounds_toArray, List.set_cons_zero, List.set_cons_succ]
  refine wpLate_take (i := 11) (oi := ?oi11) (v := ?v11) [12, 13, 14, 20, 22] ?hi11 (by kernel_rfl) (by kernel_rfl) (by kernel_rfl) (by kernel_rfl) (by kernel_rfl) ?hQ11 (Or.inl ⟨?hw11, ?hy11⟩) HS0.out ?rest11
  case hi11 => (simp only [List.getElem?_toArray, List.getElem?_cons_zero, List.getElem?_cons_succ]; rfl)
  case hQ11 => exact fun _ _ _ h => h
  case hw11 => rfl
  case hy11 =>
    intro w' hSw
    obtain ⟨r0, r1, r2, r3, r4⟩ := hSw
    go_simp
    try exact rfl
  simp only [Act.put, List.setIfInBounds_toArray, List.set_cons_zero, List.set_cons_succ]
  refine wpLate_take (i := 12) (oi := ?oi12) (v := ?v12) [13, 14, 20, 22] ?hi12 (by kernel_rfl) (by kernel_rfl) (by kernel_rfl) (by kernel_rfl) (by kernel_rfl) ?hQ12 (Or.inl ⟨?hw12, ?hy12⟩) HS0.out ?rest12
  case hi12 => (simp only [List.getElem?_toArray, List.getElem?_cons_zero, List.getElem?_cons_succ]; rfl)
  case hQ12 => exact fun _ _ _ h => h
  case hw12 => rfl
  case hy12 =>
    intro w' hSw
    obtain ⟨r0, r1, r2, r3, r4⟩ := hSw
    go_simp
    try exact rfl
  simp only [Act.put, List.setIfInBounds_toArray, List.set_cons_zero, List.set_cons_succ]
  refine wpLate_take (i := 13) (oi := ?oi13) (v := ?v13) [14, 20, 22] ?hi13 (by kernel_rfl) (by kernel_rfl) (by kernel_rfl) (by kernel_rfl) (by kernel_rfl) ?hQ13 (Or.inl ⟨?hw13, ?hy13⟩) HS0.out ?rest13
  case hi13 => (simp only [List.getElem?_toArray, List.getElem?_cons_zero, List.getElem?_cons_succ]; rfl)
  case hQ13 => exact fun _ _ _ h => h
  case hw13 => rfl
  case hy13 =>
    intro w' hSw
    obtain ⟨r0, r1, r2, r3, r4⟩ := hSw
    go_simp
    try exact rfl
  simp only [Act.put, List.setIfInBounds_toArray, List.set_cons_zero, List.set_cons_succ]
  refine wpLate_take (i := 14) (oi := ?oi14) (v := ?v14) [20, 22] ?hi14 (by kernel_rfl) (by kernel_rfl) (by kernel_rfl) (by kernel_rfl) (by kernel_rfl) ?hQ14 (Or.inl ⟨?hw14, ?hy14⟩) HS0.out ?rest14
  case hi14 => (simp only [List.getElem?_toArray, List.getElem?_cons_zero, List.getElem?_cons_succ]; rfl)
  case hQ14 => exact fun _ _ _ h => h
  case hw14 => rfl
  case hy14 =>
    intro w' hSw
    obtain ⟨r0, r1, r2, r3, r4⟩ := hSw
    go_simp
    try exact rfl
  simp only [Act.put, List.setIfInBounds_toArray, List.set_cons_zero, List.set_cons_succ]
  refine wpLate_take (i := 15) (oi := ?oi15) (v := ?v15) [16, 17, 18, 19, 20, 22] ?hi15 (by kernel_rfl) (by kernel_rfl) (by kernel_rfl) (by kernel_rfl) (by kernel_rfl) ?hQ15 (Or.inl ⟨?hw15, ?hy15⟩) HS0.out ?rest15
  case hi15 => (simp only [List.getElem?_toArray, List.getElem?_cons_zero, List.getElem?_cons_succ]; rfl)
  case hQ15 => exact fun _ _ _ h => h
  case hw15 => rfl
  case hy15 =>
    intro w' hSw
    obtain ⟨r0, r1, r2, r3, r4⟩ := hSw
    go_simp
    try exact rfl
  simp only [Act.put, List.setIfInBounds_toArray, List.set_cons_zero, List.set_cons_succ]
  refine wpLate_take (i := 16) (oi := ?oi16) (v := ?v16) [17, 18, 19, 20, 22] ?hi16 (by kernel_rfl) (by kernel_rfl) (by kernel_rfl) (by kernel_rfl) (by kernel_rfl) ?hQ16 (Or.inl ⟨?hw16, ?hy16⟩) HS0.out ?rest16
  case hi16 => (simp only [List.getElem?_toArray, List.getElem?_cons_zero, List.getElem?_cons_succ]; rfl)
  case hQ16 => exact fun _ _ _ h => h
  case hw16 => rfl
  case hy16 =>
    intro w' hSw
    obtain ⟨r0, r1, r2, r3, r4⟩ := hSw
    go_simp
    try exact rfl
  simp only [Act.put, List.setIfInBounds_toArray, List.set_cons_zero, List.set_cons_succ]
  refine wpLate_take (i := 17) (oi := ?oi17) (v := ?v17) [18, 19, 20, 22] ?hi17 (by kernel_rfl) (by kernel_rfl) (by kernel_rfl) (by kernel_rfl) (by kernel_rfl) ?hQ17 (Or.inl ⟨?hw17, ?hy17⟩) HS0.out ?rest17
  case hi17 => (simp only [List.getElem?_toArray, List.getElem?_cons_zero, List.getElem?_cons_succ]; rfl)
  case hQ17 => exact fun _ _ _ h => h
  case hw17 => rfl
  case hy17 =>
    intro w' hSw
    obtain ⟨r0, r1, r2, r3, r4⟩ := hSw
    go_simp
    try exact rfl
  simp only [Act.put, List.setIfInBounds_toArray, List.set_cons_zero, List.set_cons_succ]
  refine wpLate_take (i := 18) (oi := ?oi18) (v := ?v18) [19, 20, 22] ?hi18 (by kernel_rfl) (by kernel_rfl) (by kernel_rfl) (by kernel_rfl) (by kernel_rfl) ?hQ18 (Or.inl ⟨?hw18, ?hy18⟩) HS0.out ?rest18
  case hi18 => (simp only [List.getElem?_toArray, List.getElem?_cons_zero, List.getElem?_cons_succ]; rfl)
  case hQ18 => exact fun _ _ _ h => h
  case hw18 => rfl
  case hy18 =>
    intro w' hSw
    obtain ⟨r0, r1, r2, r3, r4⟩ := hSw
    go_simp
    try exact rfl
  simp only [Act.put, List.setIfInBounds_toArray, List.set_cons_zero, List.set_cons_succ]
  refine wpLate_take (i := 19) (oi := ?oi19) (v := ?v19) [20, 22] ?hi19 (by kernel_rfl) (by kernel_rfl) (by kernel_rfl) (by kernel_rfl) (by kernel_rfl) ?hQ19 (Or.inl ⟨?hw19, ?hy19⟩) HS0.out ?rest19
  case hi19 => (simp only [List.getElem?_toArray, List.getElem?_cons_zero, List.getElem?_cons_succ]; rfl)
  case hQ19 => exact fun _ _ _ h => h
  case hw19 => rfl
  case hy19 =>
    intro w' hSw
    obtain ⟨r0, r1, r2, r3, r4⟩ := hSw
    go_simp
    try exact rfl
  simp only [Act.put, List.setIfInBounds_toArray, List.set_cons_zero, List.set_cons_succ]
  refine wpLate_take (i := 8) (oi := ?oi8) (v := ?v8) [9, 20, 22] ?hi8 (by kernel_rfl) (by kernel_rfl) (by kernel_rfl) (by kernel_rfl) (by kernel_rfl) ?hQ8 (Or.inl ⟨?hw8, ?hy8⟩) HS0.out ?rest8
  case hi8 => (simp only [List.getElem?_toArray, List.getElem?_cons_zero, List.getElem?_cons_succ]; rfl)
  case hQ8 => exact fun _ _ _ h => h
  case hw8 => rfl
  case hy8 =>
    intro w' hSw
    obtain ⟨r0, r1, r2, r3, r4⟩ := hSw
    go_simp
    try exact rfl
  simp only [Act.put, List.setIfInBounds_toArray, List.set_cons_zero, List.set_cons_succ]
  refine wpLate_two (i := 9) (j := 21) (o := ?oa1) (u := ?ua1) (by kernel_rfl) ?hoa1 ?hua1 ?hka1 ?hla1
  case hoa1 => (simp only [List.getElem?_toArray, List.getElem?_cons_zero, List.getElem?_cons_succ]; rfl)
  case hua1 => (simp only [List.getElem?_toArray, List.getElem?_cons_zero, List.getElem?_cons_succ]; rfl)
  case hka1 =>
    intro Kb2 hKb2
    go_simp
    have hSb2 := HS0.out.below (below_one _ (Obj.cells (zq qs.length).toArray 51))
    refine hKb2.out _ _ (fun _ => hSb2) ?_
    clear hKb2 Kb2
    try simp only [Act.put, List.setIfInBounds_toArray, List.set_cons_zero, List.set_cons_succ]
    refine wpLate_two (i := 20) (j := 21) (o := ?oa3) (u := ?ua3) (by kernel_rfl) ?hoa3 ?hua3 ?hka3 ?hla3
    case hoa3 => (simp only [List.getElem?_toArray, List.getElem?_cons_zero, List.getElem?_cons_succ]; rfl)
    case hua3 => (simp only [List.getElem?_toArray, List.getElem?_cons_zero, List.getElem?_cons_succ]; rfl)
    case hka3 =>
      intro Kb4 hKb4
      go_simp
      refine hKb4.out _ _ (fun _ => hSb2) ?_
      clear hKb4 Kb4
      try simp only [Act.put, List.setIfInBounds_toArray, List.set_cons_zero, List.set_cons_succ]
      refine wpLate_one (i := 21) (o := ?oc5) (by kernel_rfl) ?hoc5 ?hkc5
      case hoc5 => (simp only [List.getElem?_toArray, List.getElem?_cons_zero, List.getElem?_cons_succ]; rfl)
      intro Kb6 hKb6
      go_simp
      have hSb6 := hSb2.below (below_one _ (Obj.cells #[.int .i64 0, .int .i64 0, .slice none 0 0, .int .i64 0, .int .i64 0] 26))
      refine hKb6.out _ _ (fun _ => hSb6) ?_
      clear hKb6 Kb6
      try simp only [Act.put, List.setIfInBounds_toArray, List.set_cons_zero, List.set_cons_succ]
      refine wpLate_one (i := 22) (o := ?od7) (by kernel_rfl) ?hod7 ?hkd7
      case hod7 => (simp only [List.getElem?_toArray, List.getElem?_cons_zero, List.getElem?_cons_succ]; rfl)
      intro Kd7 hKd7
      go_simp
      refine hKd7.out _ _ (fun h => absurd (show false = true from h) (by decide)) ?_
      clear hKd7 Kd7
      try simp only [Act.put, List.setIfInBounds_toArray, List.set_cons_zero, List.set_cons_succ]
      refine wpLate_done (by kernel_rfl) ?_ _
      try simp only [Act.put, List.setIfInBounds_toArray, List.set_cons_zero, List.set_cons_succ]
      refine HK.out (W.heap.size + 1) (W.heap.size + 2) _ (Lib.hid ⟨?bed7, ?h0d7, ?hnd7, ?hxd7, by omega, by omega, by omega⟩)
      all_goals clear hmk HS0 HR HK
      all_goals first
        | exact Below.drew (Below.alloc (Below.alloc (below_one _ _) (by simp) _) (by simp; omega) _)
        | exact ⟨_, _, _, _, _, Has.drew (((Has.new _ _ _).alloc _).alloc _)⟩
        | (refine Has.drew (Has.alloc (Has.newAt ?_) _); simp; done)
        | (refine Has.drew (Has.newAt ?_); simp; done)
    case hla3 =>
      intro Kb8 hKb8
      go_simp
      have hSb8 := hSb2.below (below_one _ (Obj.cells #[.int .i64 0, .int .i64 0, .slice none 0 0, .int .i64 0, .int .i64 0] 26))
      refine hKb8.out _ _ (fun _ => hSb8) ?_
      clear hKb8 Kb8
      try simp only [Act.put, List.setIfInBounds_toArray, List.set_cons_zero, List.set_cons_succ]
      refine wpLate_one (i := 20) (o := ?oc9) (by kernel_rfl) ?hoc9 ?hkc9
      case hoc9 => (simp only [List.getElem?_toArray, List.getElem?_cons_zero, List.getElem?_cons_succ]; rfl)
      intro Kb10 hKb10
      go_simp
      refine hKb10.out _ _ (fun _ => hSb8) ?_
      clear hKb10 Kb10
      try simp only [Act.put, List.setIfInBounds_toArray, List.set_cons_zero, List.set_cons_succ]
      refine wpLate_one (i := 22) (o := ?od11) (by kernel_rfl) ?hod11 ?hkd11
      case hod11 => (simp only [List.getElem?_toArray, List.getElem?_cons_zero, List.getElem?_cons_succ]; rfl)
      intro Kd11 hKd11
      go_simp
      refine hKd11.out _ _ (fun h => absurd (show false = true from h) (by decide)) ?_
      clear hKd11 Kd11
      try simp only [Act.put, List.setIfInBounds_toArray, List.set_cons_zero, List.set_cons_succ]
      refine wpLate_done (by kernel_rfl) ?_ _
      try simp only [Act.put, List.setIfInBounds_toArray, List.set_cons_zero, List.set_cons_succ]
      refine HK.out (W.heap.size + 1) (W.heap.size + 2) _ (Lib.hid ⟨?bed11, ?h0d11, ?hnd11, ?hxd11, by omega, by omega, by omega⟩)
      all_goals clear hmk HS0 HR HK
      all_goals first
        | exact Below.drew (Below.alloc (Below.alloc (below_one _ _) (by simp) _) (by simp; omega) _)
        | exact ⟨_, _, _, _, _, Has.drew (((Has.new _ _ _).alloc _).alloc _)⟩
        | (refine Has.drew (Has.alloc (Has.newAt ?_) _); simp; done)
        | (refine Has.drew (Has.newAt ?_); simp; done)
  case hla1 =>
    intro Kb12 hKb12
    go_simp
    have hSb12 := HS0.out.below (below_one _ (Obj.cells #[.int .i64 0, .int .i64 0, .slice none 0 0, .int .i64 0, .int .i64 0] 26))
    refine hKb12.out _ _ (fun _ => hSb12) ?_
    clear hKb12 Kb12
    try simp only [Act.put, List.setIfInBounds_toArray, List.set_cons_zero, List.set_cons_succ]
    refine wpLate_one (i := 9) (o := ?oc13) (by kernel_rfl) ?hoc13 ?hkc13
    case hoc13 => (simp only [List.getElem?_toArray, List.getElem?_cons_zero, List.getElem?_cons_succ]; rfl)
    intro Kb14 hKb14
    go_simp
    have hSb14 := hSb12.below (below_one _ (Obj.cells (zq qs.length).toArray 51))
    refine hKb14.out _ _ (fun _ => hSb14) ?_
    clear hKb14 Kb14
    try simp only [Act.put, List.setIfInBounds_toArray, List.set_cons_zero, List.set_cons_succ]
    refine wpLate_one (i := 20) (o := ?oc15) (by kernel_rfl) ?hoc15 ?hkc15
    case hoc15 => (simp only [List.getElem?_toArray, List.getElem?_cons_zero, List.getElem?_cons_succ]; rfl)
    intro Kb16 hKb16
    go_simp
    refine hKb16.out _ _ (fun _ => hSb14) ?_
    clear hKb16 Kb16
    try simp only [Act.put, List.setIfInBounds_toArray, List.set_cons_zero, List.set_cons_succ]
    refine wpLate_one (i := 22) (o := ?od17) (by kernel_rfl) ?hod17 ?hkd17
    case hod17 => (simp only [List.getElem?_toArray, List.getElem?_cons_zero, List.getElem?_cons_succ]; rfl)
    intro Kd17 hKd17
    go_simp
    refine hKd17.out _ _ (fun h => absurd (show false = true from h) (by decide)) ?_
    clear hKd17 Kd17
    try simp only [Act.put, List.setIfInBounds_toArray, List.set_cons_zero, List.set_cons_succ]
    refine wpLate_done (by kernel_rfl) ?_ _
    try simp only [Act.put, List.setIfInBounds_toArray, List.set_cons_zero, List.set_cons_succ]
    refine HK.out (W.heap.size + 2) (W.heap.size + 1) _ (Lib.hid ⟨?bed17, ?h0d17, ?hnd17, ?hxd17, by omega, by omega, by omega⟩)
    all_goals clear hmk HS0 HR HK
    all_goals first
      | exact Below.drew (Below.alloc (Below.alloc (below_one _ _) (by simp) _) (by simp; omega) _)
      | exact ⟨_, _, _, _, _, Has.drew (((Has.new _ _ _).alloc _).alloc _)⟩
      | (refine Has.drew (Has.alloc (Has.newAt ?_) _); simp; done)
      | (refine Has.drew (Has.newAt ?_); simp; done)
end Go.Proofs.Ytjfopmjphiddiaa
