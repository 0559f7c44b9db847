/- The law IceTrue: the contract of live. -/
import Derived.Test.YtogabjlhecnbbaaTrB
import Derived.Deep.Cut
import Derived.Deep.CutRange
import Derived.Deep.DeepCutAuto
namespace Go.Proofs.Ytogabjlhecnbbaa
open Go.RowKit Go.Shelf
structure LvM (W w : World) (T Bi Bp ci cp n : Nat) (t : Tr) : Prop where
  on : Only (fun g => g = T ∨ g = Bi ∨ g = Bp) W w
  x : Has w T 58 #[.slice (some ⟨Bi, 0, none⟩) n ci, .slice (some ⟨Bp, 0, none⟩) n cp, iv t.fr, iv t.pl, iv t.wo]
  i : IMem w Bi t.ice
  p : IMem w Bp t.paint
  li : t.ice.length = n
  lp : t.paint.length = n
section
variable {W w w' : World} {T Bi Bp ci cp n : Nat} {t : Tr}
theorem LvM.step (h : LvM W w T Bi Bp ci cp n t) (hb : Below w.heap.size w w') : LvM W w' T Bi Bp ci cp n t :=
  ⟨h.on.andBelow hb, h.x.below hb h.x.lt, h.i.step hb, h.p.step hb, h.li, h.lp⟩
theorem only_grown {S : Nat → Prop} {a w w' : World} {row : Option Nat} (h : Only S a w) (hg : w.grownBy w' row) (hr : ∀ k, row = some k → a.heap.size ≤ k) : Only S a w' :=
  ⟨hg.os.trans h.os, hg.tape.trans h.tape, hg.output.trans h.output, Nat.le_trans h.size hg.size, fun k hk hn => (hg.block k (Nat.lt_of_lt_of_le hk h.size) (fun e => by have := hr k e.symm; omega)).trans (h.block k hk hn)⟩
theorem imem_grown {B : Nat} {l : List Int} {row : Option Nat} (h : IMem w B l) (hg : w.grownBy w' row) (hr : row ≠ some B) : IMem w' B l := by
  obtain ⟨cur, h1, h2⟩ := h
  exact ⟨cur, has_grown h1 hg hr, h2⟩
theorem LvM.grown {row : Option Nat} (h : LvM W w T Bi Bp ci cp n t) (hw : T < W.heap.size ∧ Bi < W.heap.size ∧ Bp < W.heap.size) (hg : w.grownBy w' row) (hr : ∀ k, row = some k → W.heap.size ≤ k) : LvM W w' T Bi Bp ci cp n t := by
  have ne : ∀ B, B < W.heap.size → row ≠ some B := fun B hB e => by have := hr B e; omega
  exact ⟨only_grown h.on hg hr, has_grown h.x hg (ne T hw.1), imem_grown h.i hg (ne Bi hw.2.1), imem_grown h.p hg (ne Bp hw.2.2), h.li, h.lp⟩
/-- a store to another block of the call's own -/
theorem LvM.other (h : LvM W w T Bi Bp ci cp n t) {X : Nat} (hX : W.heap.size ≤ X) (hw : T < W.heap.size ∧ Bi < W.heap.size ∧ Bp < W.heap.size) (j : Nat) (v : Value) : LvM W (w.setCell ⟨X, j, none⟩ v) T Bi Bp ci cp n t :=
  h.grown hw (grown_only (only_set w X j v)) (fun k hk => by simp at hk; omega)
theorem LvM.ice (h : LvM W w T Bi Bp ci cp n t) (hd : T ≠ Bi ∧ T ≠ Bp ∧ Bi ≠ Bp) (k : Nat) (m : Int) : LvM W (w.setCell ⟨Bi, k, none⟩ (iv m)) T Bi Bp ci cp n { t with ice := t.ice.set k m } :=
  ⟨h.on.setCell (p := ⟨Bi, k, none⟩) (.inl (.inr (.inl rfl))) _, h.x.only (only_set w Bi k (iv m)) hd.1, h.i.set k m, h.p.only (only_set w Bi k (iv m)) (Ne.symm hd.2.2), by simpa using h.li, h.lp⟩
theorem LvM.paint (h : LvM W w T Bi Bp ci cp n t) (hd : T ≠ Bi ∧ T ≠ Bp ∧ Bi ≠ Bp) (k : Nat) (m : Int) : LvM W (w.setCell ⟨Bp, k, none⟩ (iv m)) T Bi Bp ci cp n { t with paint := t.paint.set k m } :=
  ⟨h.on.setCell (p := ⟨Bp, k, none⟩) (.inl (.inr (.inr rfl))) _, h.x.only (only_set w Bp k (iv m)) hd.2.1, h.i.only (only_set w Bp k (iv m)) hd.2.2, h.p.set k m, h.li, by simpa using h.lp⟩
theorem LvM.fr (h : LvM W w T Bi Bp ci cp n t) (hd : T ≠ Bi ∧ T ≠ Bp ∧ Bi ≠ Bp) (m : Int) : LvM W (w.setCell ⟨T, 2, none⟩ (iv m)) T Bi Bp ci cp n { t with fr := m } :=
  ⟨h.on.setCell (p := ⟨T, 2, none⟩) (.inl (.inl rfl)) _, h.x.set 2 _, h.i.only (only_set w T 2 (iv m)) (Ne.symm hd.1), h.p.only (only_set w T 2 (iv m)) (Ne.symm hd.2.1), h.li, h.lp⟩
theorem LvM.pl (h : LvM W w T Bi Bp ci cp n t) (hd : T ≠ Bi ∧ T ≠ Bp ∧ Bi ≠ Bp) (m : Int) : LvM W (w.setCell ⟨T, 3, none⟩ (iv m)) T Bi Bp ci cp n { t with pl := m } :=
  ⟨h.on.setCell (p := ⟨T, 3, none⟩) (.inl (.inl rfl)) _, h.x.set 3 _, h.i.only (only_set w T 3 (iv m)) (Ne.symm hd.1), h.p.only (only_set w T 3 (iv m)) (Ne.symm hd.2.1), h.li, h.lp⟩
theorem LvM.wo (h : LvM W w T Bi Bp ci cp n t) (hd : T ≠ Bi ∧ T ≠ Bp ∧ Bi ≠ Bp) (m : Int) : LvM W (w.setCell ⟨T, 4, none⟩ (iv m)) T Bi Bp ci cp n { t with wo := m } :=
  ⟨h.on.setCell (p := ⟨T, 4, none⟩) (.inl (.inl rfl)) _, h.x.set 4 _, h.i.only (only_set w T 4 (iv m)) (Ne.symm hd.1), h.p.only (only_set w T 4 (iv m)) (Ne.symm hd.2.1), h.li, h.lp⟩
theorem LvM.below (h : LvM W w T Bi Bp ci cp n t) {N : Nat} (hN : N ≤ T ∧ N ≤ Bi ∧ N ≤ Bp) (hW : N ≤ W.heap.size) : Below N W w := h.on.below hW (fun i hi hS => by omega)
end
def byF (bs : List Int) (i k : Nat) : Int := bs.getD ((i + k) % bs.length) 0
/-- behind some events -/
structure LvO (W w : World) (T Bi Bp ci cp n : Nat) (t : Tr) (bs : List Int) (es : List Ev) (k : Nat) (v : Value) : Prop where
  m : LvM W w T Bi Bp ci cp n (liveL (byF bs) (es.take k) 0 t).2
  o : w.ownsRow W.heap.size 54 5 v k (eflat (liveL (byF bs) (es.take k) 0 t).1).toList
def LivePost (W : World) (T Bi Bp ci cp n : Nat) (t : Tr) (bs : List Int) (es : List Ev) (e : Ending) (W' : World) : Prop :=
  ∃ A cap, e = .returned (.tuple #[.slice A es.length cap, .bool (decide (∀ x ∈ (liveL (byF bs) es 0 t).2.ice, x ≤ 20000))]) ∧ LvM W W' T Bi Bp ci cp n (liveL (byF bs) es 0 t).2 ∧ ERow W' W'.heap.size A (liveL (byF bs) es 0 t).1
abbrev evq (k f t x y : Int) : Array Value := #[.int .i64 k, .int .i64 f, .int .i64 t, .int .i64 x, .int .i64 y]
theorem lv_arm {W wr : World} {T Bi Bp ci cp n : Nat} {tt : Tr} {u : Value} {m : Nat} {ys : List Value} {k f t a b rx ry : Int} (h : LvM W wr T Bi Bp ci cp n tt ∧ wr.ownsRow W.heap.size 54 5 u m ys) (ha : a = rx) (hb : b = ry) (cs : Array Value) (ty : TypeId) :
    LvM W ((wr.alloc (.cells (evq k f t a b) 54)).alloc (.cells cs ty)).drew T Bi Bp ci cp n tt ∧ Has ((wr.alloc (.cells (evq k f t a b) 54)).alloc (.cells cs ty)).drew wr.heap.size 54 (evq k f t rx ry) ∧ ((wr.alloc (.cells (evq k f t a b) 54)).alloc (.cells cs ty)).drew.ownsRow W.heap.size 54 5 u m ys := by
  subst ha hb
  have hb2 : Below wr.heap.size wr ((wr.alloc (.cells (evq k f t a b) 54)).alloc (.cells cs ty)).drew := ((below1 _ _).alloc (by simp) _).drew
  exact ⟨h.1.step hb2, Has.drew ((Has.new _ _ _).alloc _), own_step h.2 hb2⟩
theorem liveK_4 {e : Ev} {b : Int} {k : Nat} {t : Tr} (h : e.k = 4) : liveK e b k t = { t with paint := t.paint.set k (t.ice.getD k 0) } := by unfold liveK; rw [if_pos h]
theorem liveK_3 {e : Ev} {b : Int} {k : Nat} {t : Tr} (h : e.k = 3) : liveK e b k t = t := by unfold liveK; rw [if_neg (by omega), if_pos h]
theorem liveK_0 {e : Ev} {b : Int} {k : Nat} {t : Tr} (h : e.k = 0) : liveK e b k t = { t with ice := t.ice.set k (t.ice.getD k 0 + inn e.x e.y b), fr := t.fr + inn e.x e.y b } := by
  unfold liveK; rw [if_neg (by omega), if_neg (by omega), if_pos h]
theorem liveK_1 {e : Ev} {b : Int} {k : Nat} {t : Tr} (h : e.k = 1) : liveK e b k t = { t with ice := t.ice.set k (t.ice.getD k 0 - min (inn e.x e.y b) (t.ice.getD k 0)), pl := t.pl + min (inn e.x e.y b) (t.ice.getD k 0) } := by
  unfold liveK; rw [if_neg (by omega), if_neg (by omega), if_neg (by omega), if_pos h]
theorem liveK_2 {e : Ev} {b : Int} {k : Nat} {t : Tr} (h4 : e.k ≠ 4) (h3 : e.k ≠ 3) (h0 : e.k ≠ 0) (h1 : e.k ≠ 1) : liveK e b k t = { t with ice := t.ice.set k (t.ice.getD k 0 - min (inn e.x e.y b) (t.ice.getD k 0)), wo := t.wo + min (inn e.x e.y b) (t.ice.getD k 0) } := by
  unfold liveK; rw [if_neg h4, if_neg h3, if_neg h0, if_neg h1]
/-- the state in the inner loop -/
def LvI (W w : World) (T Bi Bp ci cp n : Nat) (t : Tr) (X : Nat) (cs : Array Value) (v : Value) (m : Nat) (ys : List Value) : Prop := LvM W w T Bi Bp ci cp n t ∧ Has w X 54 cs ∧ w.ownsRow W.heap.size 54 5 v m ys
section
variable {W w w' : World} {T Bi Bp ci cp n : Nat} {t : Tr} {X : Nat} {cs : Array Value} {v : Value} {m : Nat} {ys : List Value}
theorem LvI.step (h : LvI W w T Bi Bp ci cp n t X cs v m ys) (hb : Below w.heap.size w w') : LvI W w' T Bi Bp ci cp n t X cs v m ys := ⟨h.1.step hb, h.2.1.below hb h.2.1.lt, own_step h.2.2 hb⟩
theorem LvI.drew (h : LvI W w T Bi Bp ci cp n t X cs v m ys) : LvI W w.drew T Bi Bp ci cp n t X cs v m ys := h.step (Below.refl _ _).drew
theorem LvI.ne (h : LvI W w T Bi Bp ci cp n t X cs v m ys) {B : Nat} (hB : B < W.heap.size) : v.ownBlock = none ∨ v.ownBlock ≠ some B := .inr fun e => by have := (h.2.2.lt B e).1; omega
theorem LvI.paint (h : LvI W w T Bi Bp ci cp n t X cs v m ys) (hd : T ≠ Bi ∧ T ≠ Bp ∧ Bi ≠ Bp) (hw : T < W.heap.size ∧ Bi < W.heap.size ∧ Bp < W.heap.size) (hX : W.heap.size ≤ X) (k : Nat) (a : Int) : LvI W (w.setCell ⟨Bp, k, none⟩ (iv a)) T Bi Bp ci cp n { t with paint := t.paint.set k a } X cs v m ys :=
  ⟨h.1.paint hd k a, h.2.1.only (only_set w Bp k _) (by omega), h.2.2.kept (grown_only (only_set w Bp k _)) (h.ne hw.2.2)⟩
theorem LvI.ice (h : LvI W w T Bi Bp ci cp n t X cs v m ys) (hd : T ≠ Bi ∧ T ≠ Bp ∧ Bi ≠ Bp) (hw : T < W.heap.size ∧ Bi < W.heap.size ∧ Bp < W.heap.size) (hX : W.heap.size ≤ X) (k : Nat) (a : Int) : LvI W (w.setCell ⟨Bi, k, none⟩ (iv a)) T Bi Bp ci cp n { t with ice := t.ice.set k a } X cs v m ys :=
  ⟨h.1.ice hd k a, h.2.1.only (only_set w Bi k _) (by omega), h.2.2.kept (grown_only (only_set w Bi k _)) (h.ne hw.2.1)⟩
theorem LvI.fr (h : LvI W w T Bi Bp ci cp n t X cs v m ys) (hd : T ≠ Bi ∧ T ≠ Bp ∧ Bi ≠ Bp) (hw : T < W.heap.size ∧ Bi < W.heap.size ∧ Bp < W.heap.size) (hX : W.heap.size ≤ X) (a : Int) : LvI W (w.setCell ⟨T, 2, none⟩ (iv a)) T Bi Bp ci cp n { t with fr := a } X cs v m ys :=
  ⟨h.1.fr hd a, h.2.1.only (only_set w T 2 _) (by omega), h.2.2.kept (grown_only (only_set w T 2 _)) (h.ne hw.1)⟩
theorem LvI.pl (h : LvI W w T Bi Bp ci cp n t X cs v m ys) (hd : T ≠ Bi ∧ T ≠ Bp ∧ Bi ≠ Bp) (hw : T < W.heap.size ∧ Bi < W.heap.size ∧ Bp < W.heap.size) (hX : W.heap.size ≤ X) (a : Int) : LvI W (w.setCell ⟨T, 3, none⟩ (iv a)) T Bi Bp ci cp n { t with pl := a } X cs v m ys :=
  ⟨h.1.pl hd a, h.2.1.only (only_set w T 3 _) (by omega), h.2.2.kept (grown_only (only_set w T 3 _)) (h.ne hw.1)⟩
theorem LvI.wo (h : LvI W w T Bi Bp ci cp n t X cs v m ys) (hd : T ≠ Bi ∧ T ≠ Bp ∧ Bi ≠ Bp) (hw : T < W.heap.size ∧ Bi < W.heap.size ∧ Bp < W.heap.size) (hX : W.heap.size ≤ X) (a : Int) : LvI W (w.setCell ⟨T, 4, none⟩ (iv a)) T Bi Bp ci cp n { t with wo := a } X cs v m ys :=
  ⟨h.1.wo hd a, h.2.1.only (only_set w T 4 _) (by omega), h.2.2.kept (grown_only (only_set w T 4 _)) (h.ne hw.1)⟩
theorem LvI.flood (h : LvI W w T Bi Bp ci cp n t X cs v m ys) (hd : T ≠ Bi ∧ T ≠ Bp ∧ Bi ≠ Bp) (hw : T < W.heap.size ∧ Bi < W.heap.size ∧ Bp < W.heap.size) (hX : W.heap.size ≤ X) {e : Ev} {b : Int} {k : Nat} (he : e.k = 0) {a c : Int} (ha : a = t.ice.getD k 0 + inn e.x e.y b) (hc : c = t.fr + inn e.x e.y b) :
    LvI W ((w.setCell ⟨Bi, k, none⟩ (iv a)).setCell ⟨T, 2, none⟩ (iv c)) T Bi Bp ci cp n (liveK e b k t) X cs v m ys := by rw [liveK_0 he]; subst ha hc; exact (h.ice hd hw hX k _).fr hd hw hX _
theorem LvI.plane (h : LvI W w T Bi Bp ci cp n t X cs v m ys) (hd : T ≠ Bi ∧ T ≠ Bp ∧ Bi ≠ Bp) (hw : T < W.heap.size ∧ Bi < W.heap.size ∧ Bp < W.heap.size) (hX : W.heap.size ≤ X) {e : Ev} {b : Int} {k : Nat} (he : e.k = 1) {a c : Int} (ha : a = t.ice.getD k 0 - min (inn e.x e.y b) (t.ice.getD k 0)) (hc : c = t.pl + min (inn e.x e.y b) (t.ice.getD k 0)) :
    LvI W ((w.setCell ⟨Bi, k, none⟩ (iv a)).setCell ⟨T, 3, none⟩ (iv c)) T Bi Bp ci cp n (liveK e b k t) X cs v m ys := by rw [liveK_1 he]; subst ha hc; exact (h.ice hd hw hX k _).pl hd hw hX _
theorem LvI.skate (h : LvI W w T Bi Bp ci cp n t X cs v m ys) (hd : T ≠ Bi ∧ T ≠ Bp ∧ Bi ≠ Bp) (hw : T < W.heap.size ∧ Bi < W.heap.size ∧ Bp < W.heap.size) (hX : W.heap.size ≤ X) {e : Ev} {b : Int} {k : Nat} (h4 : e.k ≠ 4) (h3 : e.k ≠ 3) (h0 : e.k ≠ 0) (h1 : e.k ≠ 1) {a c : Int} (ha : a = t.ice.getD k 0 - min (inn e.x e.y b) (t.ice.getD k 0)) (hc : c = t.wo + min (inn e.x e.y b) (t.ice.getD k 0)) :
    LvI W ((w.setCell ⟨Bi, k, none⟩ (iv a)).setCell ⟨T, 4, none⟩ (iv c)) T Bi Bp ci cp n (liveK e b k t) X cs v m ys := by rw [liveK_2 h4 h3 h0 h1]; subst ha hc; exact (h.ice hd hw hX k _).wo hd hw hX _
theorem LvI.paints (h : LvI W w T Bi Bp ci cp n t X cs v m ys) (hd : T ≠ Bi ∧ T ≠ Bp ∧ Bi ≠ Bp) (hw : T < W.heap.size ∧ Bi < W.heap.size ∧ Bp < W.heap.size) (hX : W.heap.size ≤ X) {e : Ev} {b : Int} {k : Nat} (he : e.k = 4) {a : Int} (ha : a = t.ice.getD k 0) :
    LvI W (w.setCell ⟨Bp, k, none⟩ (iv a)) T Bi Bp ci cp n (liveK e b k t) X cs v m ys := by rw [liveK_4 he]; subst ha; exact h.paint hd hw hX k _
/-- the cells of the truth -/
theorem LvM.cells (h : LvM W w T Bi Bp ci cp n t) {k : Nat} (hk : k < n) : w.cell? ⟨T, 0, none⟩ = some (.slice (some ⟨Bi, 0, none⟩) n ci) ∧ w.cell? ⟨T, 1, none⟩ = some (.slice (some ⟨Bp, 0, none⟩) n cp) ∧ w.cell? ⟨T, 2, none⟩ = some (.int .i64 t.fr) ∧ w.cell? ⟨T, 3, none⟩ = some (.int .i64 t.pl) ∧ w.cell? ⟨T, 4, none⟩ = some (.int .i64 t.wo) ∧
    w.frozen? ⟨T, 2, none⟩ = false ∧ w.frozen? ⟨T, 3, none⟩ = false ∧ w.frozen? ⟨T, 4, none⟩ = false ∧ w.cell? ⟨Bi, k, none⟩ = some (.int .i64 (t.ice.getD k 0)) ∧ w.frozen? ⟨Bi, k, none⟩ = false ∧ w.cell? ⟨Bp, k, none⟩ = some (.int .i64 (t.paint.getD k 0)) ∧ w.frozen? ⟨Bp, k, none⟩ = false :=
  ⟨h.x.cell 0, h.x.cell 1, h.x.cell 2, h.x.cell 3, h.x.cell 4, h.x.frozen 2, h.x.frozen 3, h.x.frozen 4, h.i.cell (by rw [h.li]; exact hk), h.i.frozen k, h.p.cell (by rw [h.lp]; exact hk), h.p.frozen k⟩
end
theorem rightE_parts (x : Ev) (t : Tr) : (rightE x t).k = x.k ∧ (rightE x t).f = x.f ∧ (rightE x t).t = x.t ∧ (x.k ≠ 3 → rightE x t = x) := by
  unfold rightE
  split
  · exact ⟨rfl, rfl, rfl, fun h => by omega⟩
  · exact ⟨rfl, rfl, rfl, fun _ => rfl⟩
set_option maxRecDepth 100000 in
set_option maxHeartbeats 4000000 in
theorem live_any (T Bi Bp ci cp n : Nat) (es : List Ev) (bs : List Int) (A' Ab : Option Addr) (cap' capb N : Nat) (t : Tr) (W : World) (h0 : LvM W W T Bi Bp ci cp n t) (hd : T ≠ Bi ∧ T ≠ Bp ∧ Bi ≠ Bp) (hN : N ≤ T ∧ N ≤ Bi ∧ N ≤ Bp)
    (he : ERow W N A' es) (hb : URow W N Ab bs) (hbs : ∀ b ∈ bs, 0 ≤ b ∧ b ≤ 4294967295) (hb0 : 0 < bs.length) (hbl : bs.length ≤ 9223372036854775807) (hes : es.length ≤ 60) (hn : n ≤ 24) (hok : ∀ e ∈ es, e.ok n = true) (htb : TB t 20000) :
    Calls Try.prog 32 #[.pointer (some ⟨T, 0, none⟩), .slice A' es.length cap', .slice Ab bs.length capb] W (LivePost W T Bi Bp ci cp n t bs es) := by
  obtain ⟨i54, hi, hz0, hzz, hzs⟩ := info_parts Try.info54
  have hTl := h0.x.lt
  have hw3 : T < W.heap.size ∧ Bi < W.heap.size ∧ Bp < W.heap.size := ⟨h0.x.lt, h0.i.lt, h0.p.lt⟩
  have hNW : N ≤ W.heap.size := by omega
  have HL := Lib.hid h0
  have HB := Lib.hid (And.intro hb hbs)
  have HO := Lib.hid hok
  have HTB := Lib.hid htb
  clear h0 hb hbs hok htb
  go_enter Try.func32, Try.ntmps32
  go_wp2_with fail
  go_loopw [19, 8] (fun i v wr => ∃ k : Nat, k ≤ es.length ∧ i = .int .i64 k ∧ Hid (LvO W wr T Bi Bp ci cp n t bs es k v)) (fun i _ _ => es.length - (intOf i).toNat)
  case atStart => exact ⟨0, Nat.zero_le _, rfl, HL.out, World.ownsRow_nil _ _ _ _⟩
  case round =>
    obtain ⟨k, hk, rfl, HI⟩ := hrel
    have hsz := HI.out.m.on.size
    by_cases hlt : k < es.length
    · have hlt' : (k : Int) < es.length := by omega
      obtain ⟨g, o, eA, hg, d0, d1, d2, d3, d4⟩ := (he.below (HI.out.m.below hN hNW)) k hlt
      obtain ⟨x, hx⟩ : ∃ x, x = es[k] := ⟨_, rfl⟩
      obtain ⟨tt, htt⟩ : ∃ tt, tt = (liveL (byF bs) (es.take k) 0 t).2 := ⟨_, rfl⟩
      have HX : Hid (x.ok n = true ∧ liveL (byF bs) (es.take (k + 1)) 0 t = ((liveL (byF bs) (es.take k) 0 t).1 ++ [rightE x tt], liveE (byF bs k) x tt) ∧ TB tt 40000000 ∧ tt = (liveL (byF bs) (es.take k) 0 t).2 ∧ x = es[k]) := by
        refine ⟨by rw [hx]; exact HO.out _ (List.getElem_mem hlt), ?_, ?_, htt, hx⟩
        · rw [List.take_add_one]
          simp only [List.getElem?_eq_getElem hlt, Option.toList_some]
          rw [liveL_snoc, ← hx, ← htt, List.length_take, Nat.zero_add, Nat.min_eq_left (by omega)]
        · rw [htt]
          exact (liveL_tb (byF bs) hn (es.take k) 0 t 20000 HL.out.li (fun e hem => HO.out e (List.mem_of_mem_take hem)) HTB.out).mono (by rw [List.length_take]; omega)
      rw [← hx] at d0 d1 d2 d3 d4
      clear hx htt
      subst eA
      have hgw : g < wr.heap.size := by have := HL.out.x.lt; omega
      obtain ⟨xk, xf, xt, xx, xy⟩ := x
      simp only at d0 d1 d2 d3 d4
      obtain ⟨f, rfl⟩ : ∃ f : Nat, xf = f := Int.eq_ofNat_of_zero_le (ev_parts HX.out.1).2.1
      have hfn : (f : Int) < n := by have := (ev_parts HX.out.1).2.2; simp only at this; omega
      have HM : Hid (LvM W (wr.alloc (.cells (evq xk f xt xx xy) 54)) T Bi Bp ci cp n tt ∧ Has (wr.alloc (.cells (evq xk f xt xx xy) 54)) wr.heap.size 54 (evq xk f xt xx xy) ∧ (wr.alloc (.cells (evq xk f xt xx xy) 54)).ownsRow W.heap.size 54 5 u8 k (eflat (liveL (byF bs) (es.take k) 0 t).1).toList) := by
        refine ⟨?_, Has.new _ _ _, HI.out.o.alloc _⟩
        rw [HX.out.2.2.2.1]
        exact HI.out.m.step (below1 _ _)
      obtain ⟨rx, ry, hR⟩ : ∃ rx ry, rightE ⟨xk, f, xt, xx, xy⟩ tt = ⟨xk, f, xt, rx, ry⟩ ∧ (xk ≠ 3 → rx = xx ∧ ry = xy) ∧ (xk = 3 → rx = max 0 (tt.ice.getD f 0 - xx) ∧ ry = min 20000 (tt.ice.getD f 0 + xy - xx)) := by
        unfold rightE
        simp only [Int.toNat_natCast]
        split
        · exact ⟨_, _, rfl, fun h => by omega, fun _ => ⟨rfl, rfl⟩⟩
        · exact ⟨_, _, rfl, fun _ => ⟨rfl, rfl⟩, fun h => by omega⟩
      obtain ⟨la, hla⟩ : ∃ la : Int, la = (if xk = 3 then (f : Int) else xt) := ⟨_, rfl⟩
      have HR := Lib.hid hR
      have HW0 : Hid (LvM W wr T Bi Bp ci cp n tt ∧ wr.ownsRow W.heap.size 54 5 u8 k (eflat (liveL (byF bs) (es.take k) 0 t).1).toList) := by
        refine ⟨?_, HI.out.o⟩
        rw [HX.out.2.2.2.1]
        exact HI.out.m
      have hu8 : ∀ j, u8.ownBlock = some j → W.heap.size ≤ j ∧ j < wr.heap.size := HI.out.o.lt
      clear HI hR
      go_upto_if 28 with fail
      go_cut [11] (fun s wx => s = .int .i64 la ∧ Hid (LvM W wx T Bi Bp ci cp n tt ∧ Has wx wr.heap.size 54 (evq xk f xt rx ry) ∧ wx.ownsRow W.heap.size 54 5 u8 k (eflat (liveL (byF bs) (es.take k) 0 t).1).toList))
      case first =>
        by_cases hk3 : xk = 3
        · have c3 : (xk == 3) = true := by simpa using hk3
          rw [if_pos hk3] at hla
          subst hla
          obtain ⟨nn, hnn⟩ : ∃ nn, nn = tt.ice.getD f 0 := ⟨_, rfl⟩
          have hnb := HX.out.2.2.1.at_ (k := f) (by rw [HM.out.1.li]; omega)
          have hrr := HR.out.2.2 hk3
          rw [← hnn] at hnb hrr
          have hxw := (ev_parts HX.out.1).2.2.2.2
          simp only [win_iff] at hxw
          have hxw' : 0 ≤ xx ∧ xx ≤ xy ∧ xy ≤ 20000 := by omega
          have hx := HM.out.2.1
          have xl := hx.lt
          have HRR := Lib.hid hrr
          have x1 : (wr.alloc (.cells (evq xk f xt xx xy) 54)).drew.cell? ⟨wr.heap.size, 1, none⟩ = some (.int .i64 f) := (Has.drew HM.out.2.1).cell 1
          have t0 : (wr.alloc (.cells (evq xk f xt xx xy) 54)).drew.cell? ⟨T, 0, none⟩ = some (.slice (some ⟨Bi, 0, none⟩) n ci) := (Has.drew HM.out.1.x).cell 0
          have i0 : (wr.alloc (.cells (evq xk f xt xx xy) 54)).drew.cell? ⟨Bi, f, none⟩ = some (.int .i64 nn) := by
            have := HM.out.1.i.cell (k := f) (by rw [HM.out.1.li]; omega)
            rw [← hnn] at this
            exact this
          clear hk3 hx hxw hrr hnn
          go_upto_region 8 with fail
          go_region_held3 (fun w' => w'.cell? ⟨wr.heap.size, 1, none⟩ = some (.int .i64 f) ∧ w'.cell? ⟨T, 0, none⟩ = some (.slice (some ⟨Bi, 0, none⟩) n ci) ∧ w'.cell? ⟨Bi, f, none⟩ = some (.int .i64 nn)) (exact ⟨x1, t0, i0⟩) (fail)
          clear x1 t0 i0
          have w1 : IntKind.i64.wrap (nn - xx) = nn - xx := by rw [IntKind.wrap_i64]; omega
          have w2 : IntKind.i64.wrap (nn + xy) = nn + xy := by rw [IntKind.wrap_i64]; omega
          have w3 : IntKind.i64.wrap (nn + xy - xx) = nn + xy - xx := by rw [IntKind.wrap_i64]; omega
          go_wp2_with (go_at_call 28; refine (span_any _ _ _).mono ?_; rintro e w' ⟨rfl, rfl⟩)
          all_goals go_meet
          all_goals exact ⟨rfl, Lib.hid (lv_arm HW0.out (by have := HRR.out; omega) (by have := HRR.out; omega) _ _)⟩
        · have c3 : (xk == 3) = false := by simpa using hk3
          rw [if_neg hk3] at hla
          subst hla
          have hrr := HR.out.2.1 hk3
          have HRR := Lib.hid hrr
          clear hk3 hrr
          go_wp2_with fail
          go_meet
          exact ⟨rfl, by rw [HRR.out.1, HRR.out.2]; exact HM⟩
      case rest =>
        obtain ⟨rfl, HQ⟩ := hcut
        have hlaf : (f : Int) ≤ la ∧ la < n ∧ la = (Ev.mk xk f xt xx xy).last := by
          obtain ⟨_, _, e1, e2, _⟩ := ev_parts HX.out.1
          have e3 : la = (Ev.mk xk f xt xx xy).last := by rw [hla]; rfl
          rw [← e3] at e1 e2
          exact ⟨e1, e2, e3⟩
        clear hla HM HW0
        obtain ⟨ln, rfl⟩ := Int.eq_ofNat_of_zero_le (show 0 ≤ la by omega)
        obtain ⟨X, hX⟩ : ∃ X, X = wr.heap.size := ⟨_, rfl⟩
        rw [← hX] at HQ hu8 hgw hsz ⊢
        clear hX
        have HLN := Lib.hid hlaf.2.2
        obtain ⟨hl1, hl2, -⟩ := hlaf
        have hq := HQ.out.2.1
        have q0 : wc.cell? ⟨X, 0, none⟩ = some (.int .i64 xk) := hq.cell 0
        have q1 : wc.cell? ⟨X, 1, none⟩ = some (.int .i64 f) := hq.cell 1
        have q2 : wc.cell? ⟨X, 2, none⟩ = some (.int .i64 xt) := hq.cell 2
        have q3 : wc.cell? ⟨X, 3, none⟩ = some (.int .i64 rx) := hq.cell 3
        have q4 : wc.cell? ⟨X, 4, none⟩ = some (.int .i64 ry) := hq.cell 4
        have ql := hq.lt
        have hWX := HQ.out.1.on.size
        clear hq
        go_wp2_with (at_builtin; refine wpList_append_lies _ rfl _ _ 23 rfl W.heap.size 54 i54 (.agg #[iv 0, iv 0, iv 0, iv 0, iv 0]) 5 40 Try.underlying23 hi hz0 hzz hzs rfl (by decide) u8 k (eflat (liveL (byF bs) (es.take k) 0 t).1).toList rfl (HQ.out.2.2.alloc _) ⟨wc.heap.size, 0, none⟩ 1 1 [.int .i64 xk, .int .i64 f, .int .i64 xt, .int .i64 rx, .int .i64 ry] rfl rfl (cell_new5 wc _ _ _ _ _ 54) (by simp [Value.oneCell']) (by decide) (by unfold maxLen; omega) (by omega) (by simp; omega) _ rfl ?_)
        intro g1 c1 w5 hown hgrow hat hg1
        have HJ : Hid (LvM W w5 T Bi Bp ci cp n tt ∧ Has w5 X 54 (evq xk f xt rx ry) ∧ w5.ownsRow W.heap.size 54 5 (.slice (some ⟨g1, 0, none⟩) (k + 1) c1) (k + 1) (eflat (liveL (byF bs) (es.take (k + 1)) 0 t).1).toList ∧ g1 ≠ X ∧ W.heap.size ≤ g1) := by
          refine ⟨(HQ.out.1.step (below1 _ _)).grown hw3 hgrow (fun j hj => (hu8 j hj).1), has_grown (HQ.out.2.1.alloc _) hgrow (fun e => by have := (hu8 X e).2; omega), ?_, ?_, ?_⟩
          · rw [HX.out.2.1, eflat_app, HR.out.1]
            exact hown
          · rcases hat with h | h
            · have := (hu8 _ h).2; omega
            · omega
          · rcases hat with h | h
            · exact (hu8 _ h).1
            · omega
        have hcj := HJ.out.2.1
        have q1 : w5.cell? ⟨X, 1, none⟩ = some (.int .i64 f) := hcj.cell 1
        clear hown hgrow hat q0 q2 q3 q4 HQ hu8 ql hWX hcj
        go_wp2_with fail
        go_loopw [13] (fun i wr => ∃ j : Nat, f + j ≤ ln + 1 ∧ i = .int .i64 ((f + j : Nat) : Int) ∧ Hid (LvI W wr T Bi Bp ci cp n (liveN ⟨xk, f, xt, xx, xy⟩ (byF bs k) f j tt) X (evq xk f xt rx ry) (.slice (some ⟨g1, 0, none⟩) (k + 1) c1) (k + 1) (eflat (liveL (byF bs) (es.take (k + 1)) 0 t).1).toList)) (fun i _ => ln + 1 - (intOf i).toNat)
        case atStart => exact ⟨0, by omega, rfl, HJ.out.1, HJ.out.2.1, HJ.out.2.2.1⟩
        case round =>
          obtain ⟨j, hj, rfl, HI⟩ := hrel
          obtain ⟨kk, hkk⟩ : ∃ kk, kk = f + j := ⟨_, rfl⟩
          rw [← hkk] at hj ⊢
          by_cases hjl : kk ≤ ln
          · have hjl' : (kk : Int) ≤ ln := by omega
            have hkn : (kk : Int) < n := by omega
            have hknN : kk < n := by omega
            obtain ⟨tj, htj⟩ : ∃ tj, tj = liveN ⟨xk, f, xt, xx, xy⟩ (byF bs k) f j tt := ⟨_, rfl⟩
            have hnext : liveN ⟨xk, f, xt, xx, xy⟩ (byF bs k) f (j + 1) tt = liveK ⟨xk, f, xt, xx, xy⟩ (byF bs k kk) kk tj := by rw [liveN_snoc, ← htj, ← hkk]
            have htbj : TB tj 50000000 := by
              rw [htj]
              exact (liveN_tb (byF bs k) (ev_parts HX.out.1).2.2.2.2 j f tt 40000000 (by rw [HJ.out.1.li]; omega) HX.out.2.2.1).mono (by omega)
            rw [← htj] at HI
            have HKK := Lib.hid hkk
            clear htj hkk
            have hii := htbj.at_ (k := kk) (by rw [HI.out.1.li]; exact hknN)
            have hf0 := htbj.f
            have hp0 := htbj.p
            have hw0 := htbj.w
            have HNX := Lib.hid hnext
            clear hnext htbj
            have hq := HI.out.2.1
            have q0 : wr.cell? ⟨X, 0, none⟩ = some (.int .i64 xk) := hq.cell 0
            have ql := hq.lt
            clear hq
            by_cases k4 : xk = 4
            · have c4 : (xk == 4) = true := by simpa using k4
              have HK := Lib.hid k4
              clear k4
              obtain ⟨t0, t1, -, -, -, -, -, -, i0, -, p0, pf⟩ := (LvI.drew HI.out).1.cells hknN
              have hTB : T ≠ Bp := hd.2.1
              have hBB : Bi ≠ Bp := hd.2.2
              go_upto_region 15 with fail
              go_region_held3 (fun w' => w'.cell? ⟨T, 0, none⟩ = some (.slice (some ⟨Bi, 0, none⟩) n ci) ∧ w'.cell? ⟨T, 1, none⟩ = some (.slice (some ⟨Bp, 0, none⟩) n cp) ∧ w'.cell? ⟨Bi, kk, none⟩ = some (.int .i64 (tj.ice.getD kk 0))) (first | exact ⟨t0, t1, i0⟩ | exact ⟨(set_far _ _ hTB).trans t0, (set_far _ _ hTB).trans t1, (set_far _ _ hBB).trans i0⟩) (fail)
              all_goals go_wp2_with fail
              all_goals go_roundw
              all_goals first
                | exact ⟨j + 1, by have := HKK.out; omega, by rw [show f + (j + 1) = kk + 1 by have := HKK.out; omega]; go_num, Lib.hid (by rw [HNX.out]; exact (LvI.drew HI.out).paints hd hw3 (by omega) HK.out rfl)⟩
                | (simp [intOf]; omega)
            have c4 : (xk == 4) = false := by simpa using k4
            by_cases k3 : xk = 3
            · have c3 : (xk == 3) = true := by simpa using k3
              have HK := Lib.hid k3
              clear k3 k4
              go_wp2_with fail
              go_roundw
              case rel => exact ⟨j + 1, by have := HKK.out; omega, by rw [show f + (j + 1) = kk + 1 by have := HKK.out; omega]; go_num, Lib.hid (by rw [HNX.out, liveK_3 HK.out]; exact HI.out)⟩
              case measure => simp [intOf]; omega
            have c3 : (xk == 3) = false := by simpa using k3
            obtain ⟨e1, e2⟩ := HR.out.2.1 k3
            subst e1 e2
            have HK43 := Lib.hid (And.intro k4 k3)
            clear k4 k3
            have hxw := (ev_parts HX.out.1).2.2.2.2
            simp only [win_iff] at hxw
            have hxw' : 0 ≤ rx ∧ rx ≤ ry ∧ ry ≤ 20000 := by
              rcases hxw with h | h
              · exact absurd h HK43.out.1
              · exact h
            clear hxw
            obtain ⟨mm, hmm⟩ : ∃ mm, mm = (k + kk) % bs.length := ⟨_, rfl⟩
            have hml : mm < bs.length := by rw [hmm]; exact Nat.mod_lt _ hb0
            have hml' : (mm : Int) < bs.length := by omega
            have hm1 : ((k : Int) + (kk : Int)).tmod (bs.length : Int) = (mm : Int) := by
              rw [Int.tmod_eq_emod_of_nonneg (by omega), hmm]
              simp
            have hm2 : ((k : Int) + (kk : Int)) % (bs.length : Int) = (mm : Int) := by
              rw [hmm]
              simp
            have hbne : ¬ bs = [] := fun h => by rw [h] at hb0; simp at hb0
            have hbne' : ¬ (bs.length : Int) = 0 := by omega
            have wk : IntKind.i64.wrap ((k : Int) + (kk : Int)) = (k : Int) + kk := by rw [IntKind.wrap_i64]; omega
            obtain ⟨g2, o2, eAb, hg2, hb2⟩ := ((HB.out.1.below (HI.out.1.below hN hNW)).below ((Below.refl _ _).drew.mono (Nat.le_refl _))) mm hml
            obtain ⟨bv, hbv⟩ : ∃ bv, bv = bs[mm] := ⟨_, rfl⟩
            rw [← hbv] at hb2
            have hby : byF bs k kk = bv := by unfold byF; rw [← hmm, hbv]; simp [hml]
            have hbb := HB.out.2 bv (by rw [hbv]; exact List.getElem_mem hml)
            subst eAb
            obtain ⟨nv, hnv⟩ : ∃ nv, nv = inn rx ry bv := ⟨_, rfl⟩
            have hnb := inn_in (b := bv) hxw'.2.1
            rw [← hnv] at hnb
            have HIN : Hid (∀ W', Calls Try.prog 30 #[sv rx ry, .int .u32 bv] W' fun e w' => e = .returned (iv nv) ∧ Below W'.heap.size W' w') := fun W' => by
              have := inner_any rx ry bv W' hxw' hbb
              rw [show rx + bv % (ry - rx + 1) = nv from hnv.symm] at this
              exact this
            have HNV : Hid (nv = inn rx ry (byF bs k kk)) := by show _ = _; rw [hby]; exact hnv
            have x3 : wr.drew.cell? ⟨X, 3, none⟩ = some (.int .i64 rx) := (LvI.drew HI.out).2.1.cell 3
            have x4 : wr.drew.cell? ⟨X, 4, none⟩ = some (.int .i64 ry) := (LvI.drew HI.out).2.1.cell 4
            have hg2w : g2 < wr.heap.size := by have := HI.out.1.on.size; omega
            clear hmm hbv hnv hby hbb
            go_upto_region 17 with fail
            have HI := Lib.hid (LvI.drew HI.out)
            have HC : Hid (URow wr.drew N (some ⟨g2, o2, none⟩) bs) := HB.out.1.below (HI.out.1.below hN hNW)
            go_region_held3 (fun w' => w'.cell? ⟨X, 3, none⟩ = some (.int .i64 rx) ∧ w'.cell? ⟨X, 4, none⟩ = some (.int .i64 ry) ∧ w'.cell? ⟨g2, o2 + mm, none⟩ = some (.int .u32 bv)) (first | exact ⟨x3, x4, hb2⟩ | exact ⟨y3, y4, yb⟩) ((go_at_call 30; refine (HIN.out _).mono ?_; rintro r wy ⟨rfl, hby⟩; (have y3 := (hby.cell (p := ⟨X, 3, none⟩) ql).trans x3); (have y4 := (hby.cell (p := ⟨X, 4, none⟩) ql).trans x4); (have yb := (hby.cell (p := ⟨g2, o2 + mm, none⟩) hg2w).trans hb2); (have HI := Lib.hid (HI.out.step hby))))
            have hnb2 : 0 ≤ nv ∧ nv ≤ 20000 := by omega
            clear x3 x4 hb2 y3 y4 yb hm1 hm2 hbne hbne' wk hxw' hml' hg2w HC HIN
            have hq := HI.out.2.1
            have q0 : wy.cell? ⟨X, 0, none⟩ = some (.int .i64 xk) := hq.cell 0
            have ql := hq.lt
            clear hq
            obtain ⟨t0, -, t2, t3, t4, f2, f3, f4, i0, i1, -, -⟩ := HI.out.1.cells hknN
            have tl := HI.out.1.x.lt
            have il := HI.out.1.i.lt
            obtain ⟨ii, hie⟩ : ∃ ii, ii = tj.ice.getD kk 0 := ⟨_, rfl⟩
            obtain ⟨fr, hfe⟩ : ∃ fr, fr = tj.fr := ⟨_, rfl⟩
            obtain ⟨pl, hpe⟩ : ∃ pl, pl = tj.pl := ⟨_, rfl⟩
            obtain ⟨wo, hwe⟩ : ∃ wo, wo = tj.wo := ⟨_, rfl⟩
            rw [← hie] at i0 hii
            rw [← hfe] at t2 hf0
            rw [← hpe] at t3 hp0
            rw [← hwe] at t4 hw0
            have HEQ := Lib.hid (And.intro hie (And.intro hfe (And.intro hpe hwe)))
            clear hie hfe hpe hwe
            have hTB : T ≠ Bi := hd.1
            have hBT : Bi ≠ T := Ne.symm hd.1
            have w1 : IntKind.i64.wrap (ii + nv) = ii + nv := by rw [IntKind.wrap_i64]; omega
            have w2 : IntKind.i64.wrap (fr + nv) = fr + nv := by rw [IntKind.wrap_i64]; omega
            have w3 : IntKind.i64.wrap (ii - nv) = ii - nv := by rw [IntKind.wrap_i64]; omega
            have w4 : IntKind.i64.wrap (pl + nv) = pl + nv := by rw [IntKind.wrap_i64]; omega
            have w5 : IntKind.i64.wrap (wo + nv) = wo + nv := by rw [IntKind.wrap_i64]; omega
            have w6 : IntKind.i64.wrap (ii - ii) = ii - ii := by rw [IntKind.wrap_i64]; omega
            have w7 : IntKind.i64.wrap (pl + ii) = pl + ii := by rw [IntKind.wrap_i64]; omega
            have w8 : IntKind.i64.wrap (wo + ii) = wo + ii := by rw [IntKind.wrap_i64]; omega
            by_cases k0 : xk = 0
            · have c0 : (xk == 0) = true := by simpa using k0
              have HK0 := Lib.hid k0
              clear k0
              go_wp2_with fail
              go_roundw
              case rel =>
                refine ⟨j + 1, by have := HKK.out; omega, by rw [show f + (j + 1) = kk + 1 by have := HKK.out; omega]; go_num, Lib.hid ?_⟩
                rw [HNX.out]
                exact HI.out.flood hd hw3 (by omega) HK0.out (by rw [← HEQ.out.1, ← HNV.out]) (by rw [← HEQ.out.2.1, ← HNV.out])
              case measure => simp [intOf]; omega
            have c0 : (xk == 0) = false := by simpa using k0
            by_cases k1 : xk = 1
            · have c1 : (xk == 1) = true := by simpa using k1
              have HK1 := Lib.hid k1
              clear k1 k0
              go_wp2_with fail
              all_goals go_roundw
              all_goals first
                | (refine ⟨j + 1, by have := HKK.out; omega, by rw [show f + (j + 1) = kk + 1 by have := HKK.out; omega]; go_num, Lib.hid ?_⟩
                   rw [HNX.out]
                   exact HI.out.plane hd hw3 (by omega) HK1.out (by rw [← HEQ.out.1, ← HNV.out]; omega) (by rw [← HEQ.out.1, ← HEQ.out.2.2.1, ← HNV.out]; omega))
                | (simp [intOf]; omega)
            · have c1 : (xk == 1) = false := by simpa using k1
              have HK1 := Lib.hid (And.intro k0 k1)
              clear k1 k0
              go_wp2_with fail
              all_goals go_roundw
              all_goals first
                | (refine ⟨j + 1, by have := HKK.out; omega, by rw [show f + (j + 1) = kk + 1 by have := HKK.out; omega]; go_num, Lib.hid ?_⟩
                   rw [HNX.out]
                   exact HI.out.skate hd hw3 (by omega) HK43.out.1 HK43.out.2 HK1.out.1 HK1.out.2 (by rw [← HEQ.out.1, ← HNV.out]; omega) (by rw [← HEQ.out.1, ← HEQ.out.2.2.2, ← HNV.out]; omega))
                | (simp [intOf]; omega)
          · have hjl' : ¬ ((kk : Int) ≤ ln) := by omega
            have HO2 : Hid (LvO W wr T Bi Bp ci cp n t bs es (k + 1) (.slice (some ⟨g1, 0, none⟩) (k + 1) c1)) := by
              refine ⟨?_, HI.out.2.2⟩
              have h1 := HI.out.1
              rw [HX.out.2.1]
              have e1 : liveE (byF bs k) ⟨xk, f, xt, xx, xy⟩ tt = liveN ⟨xk, f, xt, xx, xy⟩ (byF bs k) f j tt := by
                unfold liveE
                rw [← HLN.out]
                simp only [Int.toNat_natCast]
                rw [show ln + 1 - f = j by omega]
              rw [e1]
              exact h1
            clear HI
            go_wp2_with fail
            go_roundw
            case rel => exact ⟨k + 1, by omega, by go_num, HO2⟩
            case measure => simp [intOf]; omega
    · have hkl : k = es.length := by omega
      subst hkl
      have hm := HI.out.m
      have ho := HI.out.o
      rw [List.take_length] at hm ho
      have hlen2 := liveL_len1 (byF bs) es 0 t
      obtain ⟨A, c, eA, hE⟩ := erow_own (es := (liveL (byF bs) es 0 t).1) (by rw [hlen2]; exact ho)
      rw [hlen2] at eA
      subst eA
      obtain ⟨⟨el, tt⟩, hR⟩ : ∃ R, R = liveL (byF bs) es 0 t := ⟨_, rfl⟩
      have HP : Hid (LvM W wr T Bi Bp ci cp n tt ∧ ERow wr wr.heap.size A el) := by rw [← hR] at hm hE; exact ⟨hm, hE⟩
      have HR := Lib.hid hR
      have t0 : wr.cell? ⟨T, 0, none⟩ = some (.slice (some ⟨Bi, 0, none⟩) n ci) := HP.out.1.x.cell 0
      have tl := HP.out.1.x.lt
      have hlts : ¬ ((es.length : Int) < es.length) := by omega
      clear hm ho hlen2 hE hR HI
      obtain ⟨w8, hw8⟩ : ∃ w8, w8 = wr := ⟨_, rfl⟩
      go_wp2_with fail
      go_loopw [164] (fun i wx => ∃ m : Nat, m ≤ n ∧ i = .int .i64 m ∧ wx = w8 ∧ Hid (∀ y ∈ tt.ice.take m, y ≤ 20000)) (fun i _ => n - (intOf i).toNat)
      case atStart => exact ⟨0, Nat.zero_le _, rfl, hw8.symm, fun y hy => by simp at hy⟩
      case round =>
        obtain ⟨m, hm, rfl, hwx, HM⟩ := hrel
        by_cases hlt : m < n
        · have hlt' : (m : Int) < n := by omega
          obtain ⟨y, hy⟩ : ∃ y, y = tt.ice.getD m 0 := ⟨_, rfl⟩
          have hy2 : tt.ice[m]? = some y := by rw [hy]; have := HP.out.1.li; simp [show m < tt.ice.length by omega]
          have i0 : wr.cell? ⟨Bi, m, none⟩ = some (.int .i64 y) := by
            rw [hwx, hw8, hy]
            exact HP.out.1.i.cell (by rw [HP.out.1.li]; exact hlt)
          have HY := Lib.hid (And.intro hy2 (And.intro hwx hw8))
          clear hy hy2 hwx hw8
          by_cases hb2 : 20000 < y
          · go_wp2_with fail
            have hdec : decide (∀ x ∈ tt.ice, x ≤ 20000) = false := by
              simp only [decide_eq_false_iff_not]
              intro h
              have := h y (List.mem_of_getElem? HY.out.1)
              omega
            refine bodyPost_ret (v := .tuple #[.slice A es.length c, .bool false]) (by simp [results, Try.results32, go_sem]) rfl ?_
            unfold LivePost
            rw [← HR.out]
            simp only
            rw [hdec, HY.out.2.1, HY.out.2.2]
            exact ⟨A, c, rfl, HP.out.1, HP.out.2⟩
          · have hb2' : y ≤ 20000 := by omega
            go_wp2_with fail
            go_roundw
            case rel =>
              refine ⟨m + 1, by omega, by go_num, HY.out.2.1, fun z hz => ?_⟩
              rw [List.take_add_one, HY.out.1] at hz
              rcases List.mem_append.1 hz with hz | hz
              · exact HM.out z hz
              · simp at hz; omega
            case measure => simp [intOf]; omega
        · have hml : m = n := by omega
          subst hml
          have hlts2 : ¬ ((m : Int) < m) := by omega
          have HY := Lib.hid (And.intro hwx hw8)
          clear hwx hw8
          have hdec : decide (∀ x ∈ tt.ice, x ≤ 20000) = true := by
            have h := HM.out
            rw [List.take_of_length_le (by rw [HP.out.1.li]; exact Nat.le_refl _)] at h
            simpa using h
          have HD := Lib.hid hdec
          clear hdec
          go_wp2_with fail
          refine bodyPost_ret (v := .tuple #[.slice A es.length c, .bool true]) (by simp [results, Try.results32, go_sem]) rfl ?_
          unfold LivePost
          rw [← HR.out]
          simp only
          rw [HD.out, HY.out.1, HY.out.2]
          exact ⟨A, c, rfl, HP.out.1, HP.out.2⟩
end Go.Proofs.Ytogabjlhecnbbaa
