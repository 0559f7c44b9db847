/- The document's least, greatest and plus. -/
import Derived.Test.YtdmpkeaanaoeaaaRfC
namespace Go.Proofs.Ytdmpkeaanaoeaaa
open Go.RowKit
structure EB (W w : World) (a : Air) (A B : Option Addr) (ca cb : Nat) (s : Stp) (r : Array Value) : Prop where
  b : Below W.heap.size W w
  fa : Has w W.heap.size 26 (airc a A B ca cb)
  fs : Has w (W.heap.size + 1) 50 (stpc s)
  fr : Has w (W.heap.size + 2) 48 r
theorem EB.step {W w w' : World} {a : Air} {A B : Option Addr} {ca cb : Nat} {s : Stp} {r : Array Value} (h : EB W w a A B ca cb s r) (hb : Below w.heap.size w w') : EB W w' a A B ca cb s r :=
  ⟨h.b.trans (hb.mono h.b.size), h.fa.below hb h.fa.lt, h.fs.below hb h.fs.lt, h.fr.below hb h.fr.lt⟩
theorem EB.setR {W w : World} {a : Air} {A B : Option Addr} {ca cb : Nat} {s : Stp} {r : Array Value} (h : EB W w a A B ca cb s r) (i : Nat) (v : Value) : EB W (w.setCell ⟨W.heap.size + 2, i, none⟩ v) a A B ca cb s (r.setIfInBounds i v) :=
  ⟨h.b.setCell (by simp only; omega) _, h.fa.far (by simp) _, h.fs.far (by simp) _, h.fr.set i v⟩
theorem box_lo (W : World) (a : Air) (A B : Option Addr) (ca cb : Nat) (s : Stp) : EB W (((W.alloc (.cells (airc a A B ca cb) 26)).alloc (.cells (stpc s) 50)).alloc (.cells z5 48)) a A B ca cb s z5 :=
  ⟨((below_one W _).alloc (by simp) _).alloc (by simp; omega) _, ((box_air W a A B ca cb).alloc _).alloc _, (has_newAt (by simp)).alloc _, has_newAt (by simp)⟩
set_option maxRecDepth 100000 in
set_option maxHeartbeats 1000000 in
theorem least_any (a : Air) (A B : Option Addr) (ca cb : Nat) (s : Stp) (w : Int) (W : World) (har : AR W W.heap.size a A B) (hv : VA a) (hs : VS a s) (hw : 0 ≤ w ∧ w ≤ 274877906944) :
    Calls Try.prog 40 #[airv a A B ca cb, .int .i64 w, stpv s] W (FloPost (passP (one w) (moOf a s) (comesLo a s)) W) := by
  show Calls Try.prog 40 #[airv a A B ca cb, .int .i64 w, stpv s] W (FloPost (passP (one w) (moOf a s) (partP (a.R * s.o0) s.chg + s.ppl * a.b0 + s.s0)) W)
  have HB := Lib.hid (box_lo W a A B ca cb s)
  have HA := Lib.hid har
  have ho := hs.o; have hst := hs.st; have hp := hs.p; have hb := hv.b
  have m1 := prod_bd (x := s.ppl) (y := a.b0) (m := 16384) (n := 1048576) hp (by omega)
  have HC := Lib.hid (fun w1 h => Do_any a A B ca cb s w s.o0 (s.ppl * a.b0) s.s0 w1 h hv hs hw (by omega) (by omega) (by omega))
  have e1 : IntKind.i64.wrap (s.ppl * a.b0) = s.ppl * a.b0 := IntWalk.i64_in _ (by omega)
  unfold airv stpv at *
  clear har hv hs ho hst hp hb
  go_enter Try.func40, Try.ntmps40
  go_upto_region 1 with fail
  generalize (((W.alloc (.cells (airc a A B ca cb) 26)).alloc (.cells (stpc s) 50)).alloc (.cells z5 48)) = w0 at HB ⊢
  have a0 : w0.cell? ⟨W.heap.size, 0, none⟩ = some (.int .i64 a.R) := HB.out.fa.cell 0
  have a1 : w0.cell? ⟨W.heap.size, 1, none⟩ = some (.slice A a.T.length ca) := HB.out.fa.cell 1
  have a2 : w0.cell? ⟨W.heap.size, 2, none⟩ = some (.slice B a.H.length cb) := HB.out.fa.cell 2
  have a3 : w0.cell? ⟨W.heap.size, 3, none⟩ = some (.int .i64 a.b0) := HB.out.fa.cell 3
  have a4 : w0.cell? ⟨W.heap.size, 4, none⟩ = some (.int .i64 a.b1) := HB.out.fa.cell 4
  have k0 : w0.cell? ⟨W.heap.size + 1, 0, none⟩ = some (.int .i64 s.cold) := HB.out.fs.cell 0
  have k1 : w0.cell? ⟨W.heap.size + 1, 1, none⟩ = some (.int .i64 s.ppl) := HB.out.fs.cell 1
  have k2 : w0.cell? ⟨W.heap.size + 1, 2, none⟩ = some (.int .i64 s.chg) := HB.out.fs.cell 2
  have k3 : w0.cell? ⟨W.heap.size + 1, 3, none⟩ = some (.int .i64 s.o0) := HB.out.fs.cell 3
  have k4 : w0.cell? ⟨W.heap.size + 1, 4, none⟩ = some (.int .i64 s.o1) := HB.out.fs.cell 4
  have k5 : w0.cell? ⟨W.heap.size + 1, 5, none⟩ = some (.int .i64 s.s0) := HB.out.fs.cell 5
  have k6 : w0.cell? ⟨W.heap.size + 1, 6, none⟩ = some (.int .i64 s.s1) := HB.out.fs.cell 6
  have k7 : w0.cell? ⟨W.heap.size + 1, 7, none⟩ = some (.int .i64 s.dry) := HB.out.fs.cell 7
  have hcall := HC.out w0 (HA.out.step HB.out.b)
  go_wp2_with fail
  refine hcall.mono ?_
  rintro e w1 ⟨rfl, hb1⟩
  have HB1 := Lib.hid (HB.out.step hb1)
  clear a0 a1 a2 a3 a4 k0 k1 k2 k3 k4 k5 k6 k7 hcall hb1
  have g0 : w1.cell? ⟨W.heap.size + 2, 0, none⟩ = some (.int .i64 0) := HB1.out.fr.cell 0
  have g1 : w1.cell? ⟨W.heap.size + 2, 1, none⟩ = some (.int .i64 0) := HB1.out.fr.cell 1
  have g2 : w1.cell? ⟨W.heap.size + 2, 2, none⟩ = some (.int .i64 0) := HB1.out.fr.cell 2
  have g3 : w1.cell? ⟨W.heap.size + 2, 3, none⟩ = some (.int .i64 0) := HB1.out.fr.cell 3
  have g4 : w1.cell? ⟨W.heap.size + 2, 4, none⟩ = some (.int .i64 0) := HB1.out.fr.cell 4
  have gf := HB1.out.fr.frozen
  have l0 := HB1.out.fr.lt
  obtain ⟨q, hq⟩ : ∃ q, q = passP (one w) (moOf a s) (partP (a.R * s.o0) s.chg + s.ppl * a.b0 + s.s0) := ⟨_, rfl⟩
  rw [← hq]
  have HQ := Lib.hid (congrArg (fun q => Ending.returned (.agg (coc q))) hq)
  clear hq
  obtain ⟨q0, q1, q2, q3, q4⟩ := q
  unfold coc
  simp only
  go_wp2_with fail
  have HB7 := (((((HB1.out.setR 0 (.int .i64 q0)).setR 1 (.int .i64 q1)).setR 2 (.int .i64 q2)).setR 3 (.int .i64 q3)).setR 4 (.int .i64 q4))
  generalize (((((w1.setCell ⟨W.heap.size + 2, 0, none⟩ (.int .i64 q0)).setCell ⟨W.heap.size + 2, 1, none⟩ (.int .i64 q1)).setCell ⟨W.heap.size + 2, 2, none⟩ (.int .i64 q2)).setCell ⟨W.heap.size + 2, 3, none⟩ (.int .i64 q3)).setCell ⟨W.heap.size + 2, 4, none⟩ (.int .i64 q4)) = w7 at HB7 ⊢
  have g0 : w7.cell? ⟨W.heap.size + 2, 0, none⟩ = some (.int .i64 q0) := HB7.fr.cell 0
  have g1 : w7.cell? ⟨W.heap.size + 2, 1, none⟩ = some (.int .i64 q1) := HB7.fr.cell 1
  have g2 : w7.cell? ⟨W.heap.size + 2, 2, none⟩ = some (.int .i64 q2) := HB7.fr.cell 2
  have g3 : w7.cell? ⟨W.heap.size + 2, 3, none⟩ = some (.int .i64 q3) := HB7.fr.cell 3
  have g4 : w7.cell? ⟨W.heap.size + 2, 4, none⟩ = some (.int .i64 q4) := HB7.fr.cell 4
  refine bodyPost_ret (v := .agg #[.int .i64 q0, .int .i64 q1, .int .i64 q2, .int .i64 q3, .int .i64 q4]) (by simp [results, Try.results40, go_sem, g0, g1, g2, g3, g4]) rfl ?_
  exact ⟨HQ.out, HB7.b⟩
set_option maxRecDepth 100000 in
set_option maxHeartbeats 1000000 in
theorem greatest_any (a : Air) (A B : Option Addr) (ca cb : Nat) (s : Stp) (w : Int) (W : World) (har : AR W W.heap.size a A B) (hv : VA a) (hs : VS a s) (hw : 0 ≤ w ∧ w ≤ 274877906944) :
    Calls Try.prog 41 #[airv a A B ca cb, .int .i64 w, stpv s] W (FloPost (passP (one w) (moOf a s) (comesHi a s)) W) := by
  show Calls Try.prog 41 #[airv a A B ca cb, .int .i64 w, stpv s] W (FloPost (passP (one w) (moOf a s) (partP (a.R * s.o1) s.chg + s.ppl * a.b1 + s.s1)) W)
  have HB := Lib.hid (box_lo W a A B ca cb s)
  have HA := Lib.hid har
  have ho := hs.o; have hst := hs.st; have hp := hs.p; have hb := hv.b
  have m1 := prod_bd (x := s.ppl) (y := a.b1) (m := 16384) (n := 1048576) hp (by omega)
  have HC := Lib.hid (fun w1 h => Do_any a A B ca cb s w s.o1 (s.ppl * a.b1) s.s1 w1 h hv hs hw (by omega) (by omega) (by omega))
  have e1 : IntKind.i64.wrap (s.ppl * a.b1) = s.ppl * a.b1 := IntWalk.i64_in _ (by omega)
  unfold airv stpv at *
  clear har hv hs ho hst hp hb
  go_enter Try.func41, Try.ntmps41
  go_upto_region 1 with fail
  generalize (((W.alloc (.cells (airc a A B ca cb) 26)).alloc (.cells (stpc s) 50)).alloc (.cells z5 48)) = w0 at HB ⊢
  have a0 : w0.cell? ⟨W.heap.size, 0, none⟩ = some (.int .i64 a.R) := HB.out.fa.cell 0
  have a1 : w0.cell? ⟨W.heap.size, 1, none⟩ = some (.slice A a.T.length ca) := HB.out.fa.cell 1
  have a2 : w0.cell? ⟨W.heap.size, 2, none⟩ = some (.slice B a.H.length cb) := HB.out.fa.cell 2
  have a3 : w0.cell? ⟨W.heap.size, 3, none⟩ = some (.int .i64 a.b0) := HB.out.fa.cell 3
  have a4 : w0.cell? ⟨W.heap.size, 4, none⟩ = some (.int .i64 a.b1) := HB.out.fa.cell 4
  have k0 : w0.cell? ⟨W.heap.size + 1, 0, none⟩ = some (.int .i64 s.cold) := HB.out.fs.cell 0
  have k1 : w0.cell? ⟨W.heap.size + 1, 1, none⟩ = some (.int .i64 s.ppl) := HB.out.fs.cell 1
  have k2 : w0.cell? ⟨W.heap.size + 1, 2, none⟩ = some (.int .i64 s.chg) := HB.out.fs.cell 2
  have k3 : w0.cell? ⟨W.heap.size + 1, 3, none⟩ = some (.int .i64 s.o0) := HB.out.fs.cell 3
  have k4 : w0.cell? ⟨W.heap.size + 1, 4, none⟩ = some (.int .i64 s.o1) := HB.out.fs.cell 4
  have k5 : w0.cell? ⟨W.heap.size + 1, 5, none⟩ = some (.int .i64 s.s0) := HB.out.fs.cell 5
  have k6 : w0.cell? ⟨W.heap.size + 1, 6, none⟩ = some (.int .i64 s.s1) := HB.out.fs.cell 6
  have k7 : w0.cell? ⟨W.heap.size + 1, 7, none⟩ = some (.int .i64 s.dry) := HB.out.fs.cell 7
  have hcall := HC.out w0 (HA.out.step HB.out.b)
  go_wp2_with fail
  refine hcall.mono ?_
  rintro e w1 ⟨rfl, hb1⟩
  have HB1 := Lib.hid (HB.out.step hb1)
  clear a0 a1 a2 a3 a4 k0 k1 k2 k3 k4 k5 k6 k7 hcall hb1
  have g0 : w1.cell? ⟨W.heap.size + 2, 0, none⟩ = some (.int .i64 0) := HB1.out.fr.cell 0
  have g1 : w1.cell? ⟨W.heap.size + 2, 1, none⟩ = some (.int .i64 0) := HB1.out.fr.cell 1
  have g2 : w1.cell? ⟨W.heap.size + 2, 2, none⟩ = some (.int .i64 0) := HB1.out.fr.cell 2
  have g3 : w1.cell? ⟨W.heap.size + 2, 3, none⟩ = some (.int .i64 0) := HB1.out.fr.cell 3
  have g4 : w1.cell? ⟨W.heap.size + 2, 4, none⟩ = some (.int .i64 0) := HB1.out.fr.cell 4
  have gf := HB1.out.fr.frozen
  have l0 := HB1.out.fr.lt
  obtain ⟨q, hq⟩ : ∃ q, q = passP (one w) (moOf a s) (partP (a.R * s.o1) s.chg + s.ppl * a.b1 + s.s1) := ⟨_, rfl⟩
  rw [← hq]
  have HQ := Lib.hid (congrArg (fun q => Ending.returned (.agg (coc q))) hq)
  clear hq
  obtain ⟨q0, q1, q2, q3, q4⟩ := q
  unfold coc
  simp only
  go_wp2_with fail
  have HB7 := (((((HB1.out.setR 0 (.int .i64 q0)).setR 1 (.int .i64 q1)).setR 2 (.int .i64 q2)).setR 3 (.int .i64 q3)).setR 4 (.int .i64 q4))
  generalize (((((w1.setCell ⟨W.heap.size + 2, 0, none⟩ (.int .i64 q0)).setCell ⟨W.heap.size + 2, 1, none⟩ (.int .i64 q1)).setCell ⟨W.heap.size + 2, 2, none⟩ (.int .i64 q2)).setCell ⟨W.heap.size + 2, 3, none⟩ (.int .i64 q3)).setCell ⟨W.heap.size + 2, 4, none⟩ (.int .i64 q4)) = w7 at HB7 ⊢
  have g0 : w7.cell? ⟨W.heap.size + 2, 0, none⟩ = some (.int .i64 q0) := HB7.fr.cell 0
  have g1 : w7.cell? ⟨W.heap.size + 2, 1, none⟩ = some (.int .i64 q1) := HB7.fr.cell 1
  have g2 : w7.cell? ⟨W.heap.size + 2, 2, none⟩ = some (.int .i64 q2) := HB7.fr.cell 2
  have g3 : w7.cell? ⟨W.heap.size + 2, 3, none⟩ = some (.int .i64 q3) := HB7.fr.cell 3
  have g4 : w7.cell? ⟨W.heap.size + 2, 4, none⟩ = some (.int .i64 q4) := HB7.fr.cell 4
  refine bodyPost_ret (v := .agg #[.int .i64 q0, .int .i64 q1, .int .i64 q2, .int .i64 q3, .int .i64 q4]) (by simp [results, Try.results41, go_sem, g0, g1, g2, g3, g4]) rfl ?_
  exact ⟨HQ.out, HB7.b⟩
def spv (p : Int × Int) : Value := .agg #[.int .i64 p.1, .int .i64 p.2]
set_option maxRecDepth 100000 in
set_option maxHeartbeats 1000000 in
theorem plus_any (x y p q : Int) (W : World) (h1 : -4611686018427387904 ≤ x ∧ x ≤ 4611686018427387903) (h2 : -4611686018427387904 ≤ y ∧ y ≤ 4611686018427387903) (h3 : -4611686018427387904 ≤ p ∧ p ≤ 4611686018427387903) (h4 : -4611686018427387904 ≤ q ∧ q ≤ 4611686018427387903) :
    Calls Try.prog 42 #[.agg #[.int .i64 x, .int .i64 y], .int .i64 p, .int .i64 q] W (SpanPost (x + p) (y + q) W) := by
  go_enter Try.func42, Try.ntmps42
  go_wp2
  have hb := (below_one W (.cells #[.int .i64 x, .int .i64 y] 24)).alloc (Nat.le_of_lt (by simp)) (.cells #[.int .i64 (x + p), .int .i64 (y + q)] 24)
  have h0 := Has.new (W.alloc (.cells #[.int .i64 x, .int .i64 y] 24)) 24 #[.int .i64 (x + p), .int .i64 (y + q)]
  simp only [World.size_alloc] at h0
  generalize (W.alloc (.cells #[.int .i64 x, .int .i64 y] 24)).alloc (.cells #[.int .i64 (x + p), .int .i64 (y + q)] 24) = w0 at hb h0 ⊢
  have g0 : w0.cell? ⟨W.heap.size + 1, 0, none⟩ = some (.int .i64 (x + p)) := h0.cell 0
  have g1 : w0.cell? ⟨W.heap.size + 1, 1, none⟩ = some (.int .i64 (y + q)) := h0.cell 1
  refine bodyPost_ret (v := .agg #[.int .i64 (x + p), .int .i64 (y + q)]) (by simp [results, Try.results42, go_sem, g0, g1]) rfl ?_
  exact ⟨rfl, hb⟩
end Go.Proofs.Ytdmpkeaanaoeaaa
