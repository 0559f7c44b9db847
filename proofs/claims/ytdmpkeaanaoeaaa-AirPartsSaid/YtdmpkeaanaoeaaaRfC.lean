/- The document's Do, least, greatest, plus. -/
import Derived.Test.YtdmpkeaanaoeaaaRfB
namespace Go.Proofs.Ytdmpkeaanaoeaaa
open Go.RowKit
/-- one step of so much water -/
def one (w : Int) : Co := ⟨w, 0, 0, 0, 0⟩
def FloPost (c : Co) (W : World) (e : Ending) (W' : World) : Prop := e = .returned (.agg (coc c)) ∧ Below W.heap.size W W'
structure DB (W w : World) (a : Air) (A B : Option Addr) (ca cb : Nat) (s : Stp) (r f : Array Value) : Prop where
  b : Below W.heap.size W w
  fa : Has w W.heap.size 26 (airc a A B ca cb)
  fs : Has w (W.heap.size + 1) 50 (stpc s)
  fr : Has w (W.heap.size + 2) 48 r
  ff : Has w (W.heap.size + 3) 48 f
theorem DB.step {W w w' : World} {a : Air} {A B : Option Addr} {ca cb : Nat} {s : Stp} {r f : Array Value} (h : DB W w a A B ca cb s r f) (hb : Below w.heap.size w w') : DB W w' a A B ca cb s r f :=
  ⟨h.b.trans (hb.mono h.b.size), h.fa.below hb h.fa.lt, h.fs.below hb h.fs.lt, h.fr.below hb h.fr.lt, h.ff.below hb h.ff.lt⟩
theorem DB.setF {W w : World} {a : Air} {A B : Option Addr} {ca cb : Nat} {s : Stp} {r f : Array Value} (h : DB W w a A B ca cb s r f) (i : Nat) (v : Value) : DB W (w.setCell ⟨W.heap.size + 3, i, none⟩ v) a A B ca cb s r (f.setIfInBounds i v) :=
  ⟨h.b.setCell (by simp only; omega) _, h.fa.far (by simp) _, h.fs.far (by simp) _, h.fr.far (by simp) _, h.ff.set i v⟩
theorem DB.setR {W w : World} {a : Air} {A B : Option Addr} {ca cb : Nat} {s : Stp} {r f : Array Value} (h : DB W w a A B ca cb s r f) (i : Nat) (v : Value) : DB W (w.setCell ⟨W.heap.size + 2, i, none⟩ v) a A B ca cb s (r.setIfInBounds i v) f :=
  ⟨h.b.setCell (by simp only; omega) _, h.fa.far (by simp) _, h.fs.far (by simp) _, h.fr.set i v, h.ff.far (by simp) _⟩
abbrev z5 : Array Value := #[.int .i64 0, .int .i64 0, .int .i64 0, .int .i64 0, .int .i64 0]
theorem box_do (W : World) (a : Air) (A B : Option Addr) (ca cb : Nat) (s : Stp) : DB W ((((W.alloc (.cells (airc a A B ca cb) 26)).alloc (.cells (stpc s) 50)).alloc (.cells z5 48)).alloc (.cells z5 48)) a A B ca cb s z5 z5 :=
  ⟨(((below_one W _).alloc (by simp) _).alloc (by simp; omega) _).alloc (by simp; omega) _, (((box_air W a A B ca cb).alloc _).alloc _).alloc _, ((has_newAt (by simp)).alloc _).alloc _, (has_newAt (by simp)).alloc _, has_newAt (by simp)⟩
set_option maxRecDepth 100000 in
set_option maxHeartbeats 1000000 in
theorem Do_any (a : Air) (A B : Option Addr) (ca cb : Nat) (s : Stp) (w ou br st : Int) (W : World) (har : AR W W.heap.size a A B) (hv : VA a) (hs : VS a s) (hw : 0 ≤ w ∧ w ≤ 274877906944) (ho : 0 ≤ ou ∧ ou ≤ 100000) (hb : 0 ≤ br ∧ br ≤ 17179869184) (hst : 0 ≤ st ∧ st ≤ 68719476736) :
    Calls Try.prog 23 #[airv a A B ca cb, .int .i64 w, stpv s, .int .i64 ou, .int .i64 br, .int .i64 st] W (FloPost (passP (one w) (moOf a s) (partP (a.R * ou) s.chg + br + st)) W) := by
  have HB := Lib.hid (box_do W a A B ca cb s)
  have HA := Lib.hid har
  have HH := Lib.hid (fun w h => rholds_any a A B ca cb s.cold w h hv hs.c)
  have hg := hs.g; have hR := hv.R; have hd := hs.d
  have hho := holds_bd hv hs.c
  obtain ⟨ho', hho'⟩ : ∃ x, x = holdsP a s.cold := ⟨_, rfl⟩
  have m1 := prod_bd (x := w) (y := s.chg) (m := 274877906944) (n := 1000) hw (by omega)
  have m2 := prod_bd (x := ou) (y := a.R) (m := 100000) (n := 1048576) ho (by omega)
  have m3 := prod_bd (x := ou * a.R) (y := s.chg) (m := 104857600000) (n := 1000) (by omega) (by omega)
  have hpart : partP (a.R * ou) s.chg = ou * a.R * s.chg / 1000 := by unfold partP; rw [Int.mul_comm a.R ou]
  have hcb : 0 ≤ ou * a.R * s.chg / 1000 ∧ ou * a.R * s.chg / 1000 ≤ 104857600000 := by omega
  have hout : w - partP w (1000 - s.chg) = (w * s.chg + 1000 - 1) / 1000 := by
    unfold partP
    rw [Int.mul_sub]
    omega
  have hob : 0 ≤ (w * s.chg + 1000 - 1) / 1000 ∧ (w * s.chg + 1000 - 1) / 1000 ≤ w := by
    rw [← hout]
    have := part_bd (w := w) (th := 1000 - s.chg) hw.1 (by omega) (by omega)
    omega
  have hq : w * s.chg ≤ 1000 * w := by
    have := Int.mul_le_mul_of_nonneg_left hg.2 hw.1
    omega
  rw [hpart]
  obtain ⟨x, hx⟩ : ∃ x, x = ou * a.R * s.chg / 1000 := ⟨_, rfl⟩
  obtain ⟨y, hy⟩ : ∃ y, y = (w * s.chg + 1000 - 1) / 1000 := ⟨_, rfl⟩
  have HN0 : ∀ d z, d = min s.dry (w - y + (x + br + st)) → z = min (w - y + (x + br + st) - d) ho' → passP (one w) (moOf a s) (x + br + st) = ⟨z, x + br + st, y, d, w - y + (x + br + st) - d - z⟩ := by
    rintro d z rfl rfl
    rw [← hy] at hout
    unfold passP moOf one
    simp only
    rw [← hho', show partP w (1000 - s.chg) = w - y by omega, Int.min_comm (w - y + (x + br + st)) s.dry]
    congr 1 <;> omega
  have HN := Lib.hid HN0
  rw [← hho'] at HH hho
  rw [← hx] at hcb ⊢
  rw [← hy] at hob
  have HX := Lib.hid (And.intro hx hy)
  have hx' := hx.symm
  have hy' := hy.symm
  unfold airv stpv at *
  clear har hv hs hpart hout HN0 hx hy hho'
  go_enter Try.func23, Try.ntmps23
  go_upto_region 2 with fail
  generalize ((((W.alloc (.cells (airc a A B ca cb) 26)).alloc (.cells (stpc s) 50)).alloc (.cells z5 48)).alloc (.cells z5 48)) = w0 at HB ⊢
  have s2 : w0.cell? ⟨W.heap.size + 1, 2, none⟩ = some (.int .i64 s.chg) := HB.out.fs.cell 2
  have f0 := HB.out.ff.frozen
  have l0 := HB.out.ff.lt
  have f2 : w0.cell? ⟨W.heap.size + 3, 2, none⟩ = some (.int .i64 0) := HB.out.ff.cell 2
  go_upto_region 3 with fail
  have HB1 := Lib.hid (HB.out.setF 2 (.int .i64 y))
  clear s2 f0 l0 f2
  generalize w0.setCell ⟨W.heap.size + 3, 2, none⟩ (.int .i64 y) = w1 at HB1 ⊢
  have a0 : w1.cell? ⟨W.heap.size, 0, none⟩ = some (.int .i64 a.R) := HB1.out.fa.cell 0
  have s2 : w1.cell? ⟨W.heap.size + 1, 2, none⟩ = some (.int .i64 s.chg) := HB1.out.fs.cell 2
  have f0 := HB1.out.ff.frozen
  have l0 := HB1.out.ff.lt
  have f2 : w1.cell? ⟨W.heap.size + 3, 1, none⟩ = some (.int .i64 0) := HB1.out.ff.cell 1
  go_upto_region 4 with fail
  have HB2 := Lib.hid (HB1.out.setF 1 (.int .i64 (x + br + st)))
  clear a0 s2 f0 l0 f2
  generalize w1.setCell ⟨W.heap.size + 3, 1, none⟩ (.int .i64 (x + br + st)) = w2 at HB2 ⊢
  have f1 : w2.cell? ⟨W.heap.size + 3, 2, none⟩ = some (.int .i64 y) := HB2.out.ff.cell 2
  have f2 : w2.cell? ⟨W.heap.size + 3, 1, none⟩ = some (.int .i64 (x + br + st)) := HB2.out.ff.cell 1
  go_upto_region 5 with fail
  clear f1 f2
  have s5 : w2.cell? ⟨W.heap.size + 1, 7, none⟩ = some (.int .i64 s.dry) := HB2.out.fs.cell 7
  have f0 := HB2.out.ff.frozen
  have l0 := HB2.out.ff.lt
  have f3 : w2.cell? ⟨W.heap.size + 3, 3, none⟩ = some (.int .i64 0) := HB2.out.ff.cell 3
  go_upto_region 6 with fail
  obtain ⟨d, hd⟩ : ∃ d, d = (if w - y + (x + br + st) < s.dry then w - y + (x + br + st) else s.dry) := ⟨_, rfl⟩
  rw [← hd]
  have hd1 : d = min s.dry (w - y + (x + br + st)) := by rw [hd]; split <;> omega
  have hd2 : 0 ≤ d ∧ d ≤ w - y + (x + br + st) := by omega
  clear hd s5 f3 f0 l0
  have HD := Lib.hid hd1
  clear hd1
  have HB3 := Lib.hid (HB2.out.setF 3 (.int .i64 d))
  generalize w2.setCell ⟨W.heap.size + 3, 3, none⟩ (.int .i64 d) = w3 at HB3 ⊢
  have f3 : w3.cell? ⟨W.heap.size + 3, 3, none⟩ = some (.int .i64 d) := HB3.out.ff.cell 3
  go_upto_region 7 with fail
  clear f3
  have a0 : w3.cell? ⟨W.heap.size, 0, none⟩ = some (.int .i64 a.R) := HB3.out.fa.cell 0
  have a1 : w3.cell? ⟨W.heap.size, 1, none⟩ = some (.slice A a.T.length ca) := HB3.out.fa.cell 1
  have a2 : w3.cell? ⟨W.heap.size, 2, none⟩ = some (.slice B a.H.length cb) := HB3.out.fa.cell 2
  have a3 : w3.cell? ⟨W.heap.size, 3, none⟩ = some (.int .i64 a.b0) := HB3.out.fa.cell 3
  have a4 : w3.cell? ⟨W.heap.size, 4, none⟩ = some (.int .i64 a.b1) := HB3.out.fa.cell 4
  have s0 : w3.cell? ⟨W.heap.size + 1, 0, none⟩ = some (.int .i64 s.cold) := HB3.out.fs.cell 0
  have hcall := HH.out w3 (HA.out.step HB3.out.b)
  unfold airv at hcall
  go_wp2_with fail
  refine hcall.mono ?_
  rintro e w4 ⟨rfl, hb4⟩
  have HB4 := Lib.hid (HB3.out.step hb4)
  clear a0 a1 a2 a3 a4 s0 hcall hb4
  have f0 := HB4.out.ff.frozen
  have l0 := HB4.out.ff.lt
  have f1 : w4.cell? ⟨W.heap.size + 3, 0, none⟩ = some (.int .i64 0) := HB4.out.ff.cell 0
  go_upto_region 8 with fail
  obtain ⟨z, hz⟩ : ∃ z, z = (if ho' < w - y + (x + br + st) - d then ho' else w - y + (x + br + st) - d) := ⟨_, rfl⟩
  rw [← hz]
  have hz1 : z = min (w - y + (x + br + st) - d) ho' := by rw [hz]; split <;> omega
  have hz2 : 0 ≤ z ∧ z ≤ w - y + (x + br + st) - d := by omega
  clear hz f0 l0 f1
  have HZ := Lib.hid (HN.out d z HD.out hz1)
  clear hz1
  have HB5 := Lib.hid (HB4.out.setF 0 (.int .i64 z))
  generalize w4.setCell ⟨W.heap.size + 3, 0, none⟩ (.int .i64 z) = w5 at HB5 ⊢
  have f0 := HB5.out.ff.frozen
  have l0 := HB5.out.ff.lt
  have f1 : w5.cell? ⟨W.heap.size + 3, 0, none⟩ = some (.int .i64 z) := HB5.out.ff.cell 0
  have f4 : w5.cell? ⟨W.heap.size + 3, 4, none⟩ = some (.int .i64 0) := HB5.out.ff.cell 4
  go_upto_region 9 with fail
  clear f0 l0 f1 f4
  have HB6 := Lib.hid (HB5.out.setF 4 (.int .i64 (w - y + (x + br + st) - d - z)))
  generalize w5.setCell ⟨W.heap.size + 3, 4, none⟩ (.int .i64 (w - y + (x + br + st) - d - z)) = w6 at HB6 ⊢
  have f0 : w6.cell? ⟨W.heap.size + 3, 0, none⟩ = some (.int .i64 z) := HB6.out.ff.cell 0
  have f1 : w6.cell? ⟨W.heap.size + 3, 1, none⟩ = some (.int .i64 (x + br + st)) := HB6.out.ff.cell 1
  have f2 : w6.cell? ⟨W.heap.size + 3, 2, none⟩ = some (.int .i64 y) := HB6.out.ff.cell 2
  have f3 : w6.cell? ⟨W.heap.size + 3, 3, none⟩ = some (.int .i64 d) := HB6.out.ff.cell 3
  have f4 : w6.cell? ⟨W.heap.size + 3, 4, none⟩ = some (.int .i64 (w - y + (x + br + st) - d - z)) := HB6.out.ff.cell 4
  have g0 : w6.cell? ⟨W.heap.size + 2, 0, none⟩ = some (.int .i64 0) := HB6.out.fr.cell 0
  have g1 : w6.cell? ⟨W.heap.size + 2, 1, none⟩ = some (.int .i64 0) := HB6.out.fr.cell 1
  have g2 : w6.cell? ⟨W.heap.size + 2, 2, none⟩ = some (.int .i64 0) := HB6.out.fr.cell 2
  have g3 : w6.cell? ⟨W.heap.size + 2, 3, none⟩ = some (.int .i64 0) := HB6.out.fr.cell 3
  have g4 : w6.cell? ⟨W.heap.size + 2, 4, none⟩ = some (.int .i64 0) := HB6.out.fr.cell 4
  have gf := HB6.out.fr.frozen
  have l0 := HB6.out.fr.lt
  go_wp2_with fail
  have HB7 := (((((HB6.out.setR 0 (.int .i64 z)).setR 1 (.int .i64 (x + br + st))).setR 2 (.int .i64 y)).setR 3 (.int .i64 d)).setR 4 (.int .i64 (w - y + (x + br + st) - d - z)))
  generalize (((((w6.setCell ⟨W.heap.size + 2, 0, none⟩ (.int .i64 z)).setCell ⟨W.heap.size + 2, 1, none⟩ (.int .i64 (x + br + st))).setCell ⟨W.heap.size + 2, 2, none⟩ (.int .i64 y)).setCell ⟨W.heap.size + 2, 3, none⟩ (.int .i64 d)).setCell ⟨W.heap.size + 2, 4, none⟩ (.int .i64 (w - y + (x + br + st) - d - z))) = w7 at HB7 ⊢
  have g0 : w7.cell? ⟨W.heap.size + 2, 0, none⟩ = some (.int .i64 z) := HB7.fr.cell 0
  have g1 : w7.cell? ⟨W.heap.size + 2, 1, none⟩ = some (.int .i64 (x + br + st)) := HB7.fr.cell 1
  have g2 : w7.cell? ⟨W.heap.size + 2, 2, none⟩ = some (.int .i64 y) := HB7.fr.cell 2
  have g3 : w7.cell? ⟨W.heap.size + 2, 3, none⟩ = some (.int .i64 d) := HB7.fr.cell 3
  have g4 : w7.cell? ⟨W.heap.size + 2, 4, none⟩ = some (.int .i64 (w - y + (x + br + st) - d - z)) := HB7.fr.cell 4
  refine bodyPost_ret (v := .agg #[.int .i64 z, .int .i64 (x + br + st), .int .i64 y, .int .i64 d, .int .i64 (w - y + (x + br + st) - d - z)]) (by simp [results, Try.results23, go_sem, g0, g1, g2, g3, g4]) rfl ?_
  rw [HZ.out]
  exact ⟨rfl, HB7.b⟩
end Go.Proofs.Ytdmpkeaanaoeaaa
