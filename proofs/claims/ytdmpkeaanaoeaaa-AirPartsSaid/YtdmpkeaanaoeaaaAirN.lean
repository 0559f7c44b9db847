/- A moment passes. -/
import Derived.Test.YtdmpkeaanaoeaaaAirM
namespace Go.Proofs.Ytdmpkeaanaoeaaa
open Go.RowKit Go.Shelf
abbrev coc (c : Co) : Array Value := #[.int .i64 c.w, .int .i64 c.came, .int .i64 c.out, .int .i64 c.dried, .int .i64 c.dew]
def PassPost (c : Co) (g : Nat) (W : World) (e : Ending) (W' : World) : Prop := e = .returned (.tuple #[]) ∧ Only (· = g) W W' ∧ Has W' g 74 (coc c)
structure PS (W w : World) (g gb : Nat) (a b c d e : Int) (m : Mo) : Prop where
  o : Only (· = g) W w
  c : Has w g 74 #[.int .i64 a, .int .i64 b, .int .i64 c, .int .i64 d, .int .i64 e]
  m : Has w gb 86 (moc m)
  ne : ¬ g = gb
theorem PS.drew {W w : World} {g gb : Nat} {a b c d e : Int} {m : Mo} (h : PS W w g gb a b c d e m) : PS W w.drew g gb a b c d e m := ⟨h.o.drew, h.c.drew, h.m.drew, h.ne⟩
theorem PS.drewN {W w : World} {g gb : Nat} {a b c d e : Int} {m : Mo} (h : PS W w g gb a b c d e m) (n : Nat) : PS W (w.drewN n) g gb a b c d e m := ⟨h.o.drewN n, h.c.drewN n, h.m.drewN n, h.ne⟩
section
variable {W w : World} {g gb : Nat} {a b c d e : Int} {m : Mo}
theorem PS.set0 (h : PS W w g gb a b c d e m) (x : Int) : PS W (w.setCell ⟨g, 0, none⟩ (.int .i64 x)) g gb x b c d e m := ⟨h.o.setCell (.inl rfl) _, h.c.set 0 _, h.m.far (by simp only; exact fun e => h.ne e.symm) _, h.ne⟩
theorem PS.set1 (h : PS W w g gb a b c d e m) (x : Int) : PS W (w.setCell ⟨g, 1, none⟩ (.int .i64 x)) g gb a x c d e m := ⟨h.o.setCell (.inl rfl) _, h.c.set 1 _, h.m.far (by simp only; exact fun e => h.ne e.symm) _, h.ne⟩
theorem PS.set2 (h : PS W w g gb a b c d e m) (x : Int) : PS W (w.setCell ⟨g, 2, none⟩ (.int .i64 x)) g gb a b x d e m := ⟨h.o.setCell (.inl rfl) _, h.c.set 2 _, h.m.far (by simp only; exact fun e => h.ne e.symm) _, h.ne⟩
theorem PS.set3 (h : PS W w g gb a b c d e m) (x : Int) : PS W (w.setCell ⟨g, 3, none⟩ (.int .i64 x)) g gb a b c x e m := ⟨h.o.setCell (.inl rfl) _, h.c.set 3 _, h.m.far (by simp only; exact fun e => h.ne e.symm) _, h.ne⟩
theorem PS.set4 (h : PS W w g gb a b c d e m) (x : Int) : PS W (w.setCell ⟨g, 4, none⟩ (.int .i64 x)) g gb a b c d x m := ⟨h.o.setCell (.inl rfl) _, h.c.set 4 _, h.m.far (by simp only; exact fun e => h.ne e.symm) _, h.ne⟩
end
set_option maxRecDepth 100000 in
set_option maxHeartbeats 4000000 in
theorem pass_any (c : Co) (m : Mo) (x : Int) (g k : Nat) (W : World) (hg : Has W g 74 (coc c)) (hc : GC c k) (hk : k < 200) (hm : GM m) (hx : 0 ≤ x ∧ x ≤ 274877906944) :
    Calls Try.prog 60 #[.pointer (some ⟨g, 0, none⟩), mov m, .int .i64 x] W (PassPost (passP c m x) g W) := by
  have hgl := hg.lt
  have HG := Lib.hid (show PS W (W.alloc (.cells (moc m) 86)) g W.heap.size c.w c.came c.out c.dried c.dew m from ⟨(Only.refl (· = g) W).alloc (.cells (moc m) 86), hg.alloc (.cells (moc m) 86), Has.new W 86 (moc m), by omega⟩)
  have hp := part_bd (w := c.w) (th := 1000 - m.ch) hc.w.1 (by have := hm.ch; omega) (by have := hm.ch; omega)
  have P0 := fun w => part_any c.w (1000 - m.ch) w hc.w.1 hc.w.2 (by have := hm.ch; omega) (by have := hm.ch; omega)
  have HN0 : ∀ d w2, d = min (partP c.w (1000 - m.ch) + x) m.dr → w2 = min (partP c.w (1000 - m.ch) + x - d) m.ho → passP c m x = ⟨w2, c.came + x, c.out + (c.w - partP c.w (1000 - m.ch)), c.dried + d, c.dew + (partP c.w (1000 - m.ch) + x - d - w2)⟩ := by
    rintro d w2 rfl rfl; rfl
  obtain ⟨st, hst⟩ : ∃ st, st = partP c.w (1000 - m.ch) := ⟨_, rfl⟩
  rw [← hst] at hp P0 HN0
  have HN := Lib.hid HN0
  have h1 := hc.w; have h2 := hc.came; have h3 := hc.out; have h4 := hc.dried; have h5 := hc.dew
  have m1 := hm.ch; have m2 := hm.dr; have m3 := hm.ho
  have e1 : IntKind.i64.wrap (1000 - m.ch) = 1000 - m.ch := IntWalk.i64_in _ (by omega)
  have e2 : IntKind.i64.wrap (c.w - st) = c.w - st := IntWalk.i64_in _ (by omega)
  have e3 : IntKind.i64.wrap (c.out + (c.w - st)) = c.out + (c.w - st) := IntWalk.i64_in _ (by omega)
  have HP := Lib.hid P0
  have c0 : (W.alloc (.cells (moc m) 86)).cell? ⟨g, 0, none⟩ = some (.int .i64 c.w) := HG.out.c.cell 0
  unfold mov
  clear P0 hg hc hm hst HN0
  go_enter Try.func60, Try.ntmps60
  go_wp2_with fail
  go_quiet (exact Calls.quiet_of_same (HP.out _))
  go_upto_region 2 with fail
  have HG1 := Lib.hid (HG.out.drewN nq)
  clear e1 c0 HG
  generalize (W.alloc (.cells (moc m) 86)).drewN nq = w1 at HG1 ⊢
  have c0 : w1.cell? ⟨g, 0, none⟩ = some (.int .i64 c.w) := HG1.out.c.cell 0
  have c2 : w1.cell? ⟨g, 2, none⟩ = some (.int .i64 c.out) := HG1.out.c.cell 2
  have f0 := HG1.out.c.frozen
  have hgl1 := HG1.out.c.lt
  generalize W.heap.size = gb at HG1 ⊢
  refine still_tail 11 (by kernel_rfl) (by kernel_rfl) ?_
  simp only [List.take_succ_cons, List.take_zero, List.drop_succ_cons, List.drop_zero]
  repeat still_step
  refine wpStill_nil ?_
  go_upto_region 3 with fail
  have HG2 := Lib.hid (PS.drew (HG1.out.set2 (c.out + (c.w - st))))
  clear e2 e3 c0 c2 f0 hgl1
  generalize (w1.setCell ⟨g, 2, none⟩ (.int .i64 (c.out + (c.w - st)))).drew = w2 at HG2 ⊢
  have c1 : w2.cell? ⟨g, 1, none⟩ = some (.int .i64 c.came) := HG2.out.c.cell 1
  have f0 := HG2.out.c.frozen
  have hgl1 := HG2.out.c.lt
  go_upto_region 5 with fail
  have HG3 := Lib.hid (HG2.out.set1 (c.came + x))
  clear c1 f0 hgl1
  generalize w2.setCell ⟨g, 1, none⟩ (.int .i64 (c.came + x)) = w3 at HG3 ⊢
  have k2 : w3.cell? ⟨gb, 3, none⟩ = some (.int .i64 m.dr) := HG3.out.m.cell 3
  go_upto_region 6 with fail
  obtain ⟨d, hd⟩ : ∃ d, d = (if m.dr < st + x then m.dr else st + x) := ⟨_, rfl⟩
  rw [← hd]
  have hd1 : d = min (st + x) m.dr := by rw [hd]; split <;> omega
  have hd2 : 0 ≤ d ∧ d ≤ st + x ∧ d ≤ 68719476736 := by omega
  clear hd k2
  have HD := Lib.hid hd1
  clear hd1
  have c3 : w3.cell? ⟨g, 3, none⟩ = some (.int .i64 c.dried) := HG3.out.c.cell 3
  have f0 := HG3.out.c.frozen
  have hgl1 := HG3.out.c.lt
  go_upto_region 7 with fail
  have HG4 := Lib.hid (HG3.out.set3 (c.dried + d))
  clear c3 f0 hgl1
  generalize w3.setCell ⟨g, 3, none⟩ (.int .i64 (c.dried + d)) = w4 at HG4 ⊢
  have c0 : w4.cell? ⟨g, 0, none⟩ = some (.int .i64 c.w) := HG4.out.c.cell 0
  have k3 : w4.cell? ⟨gb, 4, none⟩ = some (.int .i64 m.ho) := HG4.out.m.cell 4
  have f0 := HG4.out.c.frozen
  have hgl1 := HG4.out.c.lt
  go_upto_region 8 with fail
  obtain ⟨z, hz⟩ : ∃ z, z = (if m.ho < st + x - d then m.ho else st + x - d) := ⟨_, rfl⟩
  rw [← hz]
  have hz1 : z = min (st + x - d) m.ho := by rw [hz]; split <;> omega
  have hz2 : 0 ≤ z ∧ z ≤ st + x - d ∧ z ≤ 274877906944 := by omega
  clear hz k3
  have HZ := Lib.hid (HN.out d z HD.out hz1)
  clear hz1
  have HG5 := Lib.hid (HG4.out.set0 z)
  clear c0 f0 hgl1
  generalize w4.setCell ⟨g, 0, none⟩ (.int .i64 z) = w5 at HG5 ⊢
  have c0 : w5.cell? ⟨g, 0, none⟩ = some (.int .i64 z) := HG5.out.c.cell 0
  have c4 : w5.cell? ⟨g, 4, none⟩ = some (.int .i64 c.dew) := HG5.out.c.cell 4
  have f0 := HG5.out.c.frozen
  have hgl1 := HG5.out.c.lt
  have e1 : IntKind.i64.wrap (st + x - d) = st + x - d := IntWalk.i64_in _ (by omega)
  have e2 : IntKind.i64.wrap (st + x - d - z) = st + x - d - z := IntWalk.i64_in _ (by omega)
  have e3 : IntKind.i64.wrap (c.dew + (st + x - d - z)) = c.dew + (st + x - d - z) := IntWalk.i64_in _ (by omega)
  refine still_tail 13 (by kernel_rfl) (by kernel_rfl) ?_
  simp only [List.take_succ_cons, List.take_zero, List.drop_succ_cons, List.drop_zero]
  repeat still_step
  refine wpStill_nil ?_
  go_wp2
  go_end0
  have HG6 := (HG5.out.set4 (c.dew + (st + x - d - z))).drew
  rw [HZ.out]
  exact ⟨rfl, HG6.o, HG6.c⟩
end Go.Proofs.Ytdmpkeaanaoeaaa
