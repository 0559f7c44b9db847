/- inspect. -/
import Derived.Test.YtdmpkeaanaoeaaaAirL
namespace Go.Proofs.Ytdmpkeaanaoeaaa
open Go.RowKit Go.Shelf
def insB (a : Air) (lo hi : Int) (L : List Stp) : Bool := airB a && (spB lo hi 274877906944 && (decide (L.length ≤ 200) && L.all (stepB a)))
def InsPost (a : Air) (lo hi : Int) (L : List Stp) (w : World) (e : Ending) (W' : World) : Prop :=
  Below w.heap.size w W' ∧
  ((insB a lo hi L = true ∧ ∃ v, e = .returned (.tuple #[v, .int .i64 0]) ∧ W'.ownsRow w.heap.size 86 5 v L.length (mfl (L.map (moOf a)))) ∨
   (insB a lo hi L = false ∧ e = .returned (.tuple #[.slice none 0 0, .int .i64 1])))
/-- what inspect has boxed -/
structure II (W w : World) (a : Air) (A B : Option Addr) (ca cb : Nat) (lo hi : Int) (v : Value) (e : Int) : Prop where
  b : Below W.heap.size W w
  fa : Has w W.heap.size 26 (airc a A B ca cb)
  fw : Has w (W.heap.size + 1) 24 #[.int .i64 lo, .int .i64 hi]
  fl : Has w (W.heap.size + 2) 67 #[v]
  fe : Has w (W.heap.size + 3) 30 #[.int .i64 e]
theorem II.step {W w w' : World} {a : Air} {A B : Option Addr} {ca cb : Nat} {lo hi : Int} {v : Value} {e : Int} (h : II W w a A B ca cb lo hi v e) (hb : Below w.heap.size w w') : II W w' a A B ca cb lo hi v e :=
  ⟨h.b.trans (hb.mono h.b.size), h.fa.below hb h.fa.lt, h.fw.below hb h.fw.lt, h.fl.below hb h.fl.lt, h.fe.below hb h.fe.lt⟩
theorem II.set {W w : World} {a : Air} {A B : Option Addr} {ca cb : Nat} {lo hi : Int} {v v' : Value} {e e' : Int} (h : II W w a A B ca cb lo hi v e) :
    II W ((w.setCell ⟨W.heap.size + 2, 0, none⟩ v').setCell ⟨W.heap.size + 3, 0, none⟩ (.int .i64 e')) a A B ca cb lo hi v' e' :=
  ⟨(h.b.setCell (by simp only; omega) _).setCell (by simp only; omega) _, (h.fa.far (by simp) _).far (by simp) _, (h.fw.far (by simp) _).far (by simp) _, (h.fl.set 0 _).far (by simp) _, (h.fe.far (by simp) _).set 0 _⟩
theorem box_ins (W : World) (a : Air) (A B : Option Addr) (ca cb : Nat) (lo hi : Int) : II W ((((W.alloc (.cells (airc a A B ca cb) 26)).alloc (.cells #[.int .i64 lo, .int .i64 hi] 24)).alloc (.cells #[.slice none 0 0] 67)).alloc (.cells #[.int .i64 0] 30)) a A B ca cb lo hi (.slice none 0 0) 0 :=
  ⟨(((below_one W _).alloc (by simp) _).alloc (by simp; omega) _).alloc (by simp; omega) _, (((box_air W a A B ca cb).alloc _).alloc _).alloc _, ((has_newAt (by simp)).alloc _).alloc _, (has_newAt (by simp)).alloc _, has_newAt (by simp)⟩
theorem leave_ret {W : World} {p q : Nat} {x : Value} {y : Int} {tmps : Array Value} {R : Ending → World → Prop} (hf : Has W p 67 #[x]) (he : Has W q 30 #[.int .i64 y])
    (h6 : tmps[6]?.getD undef = .pointer (some ⟨p, 0, none⟩)) (h7 : tmps[7]?.getD undef = .pointer (some ⟨q, 0, none⟩))
    (hR : R (.returned (.tuple #[x, .int .i64 y])) W) :
    LeavesInM Fence.wide 3 Try.prog Try.f36 tmps R [{ target := .fn (.func 56) #[.pointer (some ⟨p, 0, none⟩), .pointer (some ⟨q, 0, none⟩)], args := #[] }] .returning W := by
  have cf : W.cell? ⟨p, 0, none⟩ = some x := hf.cell 0
  have ce : W.cell? ⟨q, 0, none⟩ = some (.int .i64 y) := he.cell 0
  refine ⟨by simp, .inr ⟨fun h => by simp [Fence.wide] at h, .func 56, _, 56, #[.pointer (some ⟨p, 0, none⟩), .pointer (some ⟨q, 0, none⟩)], rfl, by simp [go_sem], fun _ _ => trivial, ?_⟩⟩
  refine (catch_none_in ⟨p, 0, none⟩ ⟨q, 0, none⟩ _ _).mono ?_
  rintro e u' w' ⟨rfl, rfl, rfl⟩
  refine ⟨.tuple #[x, .int .i64 y], ?_, hR⟩
  simp [results, Try.results36, go_sem, h6, h7, cf, ce]
theorem leave_err {W : World} {p q : Nat} {x : Value} {y : Int} {tmps : Array Value} {R : Ending → World → Prop} (hf : Has W p 67 #[x]) (he : Has W q 30 #[.int .i64 y]) (hne : p ≠ q)
    (h6 : tmps[6]?.getD undef = .pointer (some ⟨p, 0, none⟩)) (h7 : tmps[7]?.getD undef = .pointer (some ⟨q, 0, none⟩))
    (hR : R (.returned (.tuple #[.slice none 0 0, .int .i64 1])) ((W.setCell ⟨p, 0, none⟩ (.slice none 0 0)).setCell ⟨q, 0, none⟩ (.int .i64 1))) :
    LeavesInM Fence.wide 3 Try.prog Try.f36 tmps R [{ target := .fn (.func 56) #[.pointer (some ⟨p, 0, none⟩), .pointer (some ⟨q, 0, none⟩)], args := #[] }] (.panicking [{ v := argE, recovered := false }]) W := by
  have qf := (hf.set 0 (.slice none 0 0)).far (p := ⟨q, 0, none⟩) hne (.int .i64 1)
  have qe := (he.far (p := ⟨p, 0, none⟩) (fun e => hne e.symm) (.slice none 0 0)).set 0 (.int .i64 1)
  have cf : ((W.setCell ⟨p, 0, none⟩ (.slice none 0 0)).setCell ⟨q, 0, none⟩ (.int .i64 1)).cell? ⟨p, 0, none⟩ = some (.slice none 0 0) := qf.cell 0
  have ce : ((W.setCell ⟨p, 0, none⟩ (.slice none 0 0)).setCell ⟨q, 0, none⟩ (.int .i64 1)).cell? ⟨q, 0, none⟩ = some (.int .i64 1) := qe.cell 0
  refine ⟨by simp, .inr ⟨fun h => by simp [Fence.wide] at h, .func 56, _, 56, #[.pointer (some ⟨p, 0, none⟩), .pointer (some ⟨q, 0, none⟩)], rfl, by simp [go_sem], fun _ _ => trivial, ?_⟩⟩
  refine (catch_err_in ⟨p, 0, none⟩ ⟨q, 0, none⟩ _ _ x (.int .i64 y) (hf.cell 0) (hf.frozen 0) (he.cell 0) (he.frozen 0) (fun h => hne (by injection h)) []).mono ?_
  rintro e u' w' ⟨rfl, rfl, rfl⟩
  refine ⟨.tuple #[.slice none 0 0, .int .i64 1], ?_, hR⟩
  simp [results, Try.results36, go_sem, h6, h7, cf, ce]
set_option maxRecDepth 100000 in
set_option maxHeartbeats 4000000 in
theorem inspect_any (a : Air) (A B : Option Addr) (ca cb : Nat) (lo hi : Int) (L : List Stp) (AL : Option Addr) (cl : Nat) (W : World) (har : AR W W.heap.size a A B) (hr : SRow W W.heap.size AL L) (hL : L.length ≤ 9223372036854775807) :
    Calls Try.prog 36 #[airv a A B ca cb, .agg #[.int .i64 lo, .int .i64 hi], .slice AL L.length cl] W (InsPost a lo hi L W) := by
  have hmf : ∀ (fn : Fn) (first cap : Array Value) (w : World), (Instr.makeFunc fn first cap).run Try.prog w = .ok (.func fn first cap) w := fun _ _ _ _ => rfl
  have HB := Lib.hid (box_ins W a A B ca cb lo hi)
  have H0 := Lib.hid (And.intro har hr)
  have HV := Lib.hid (fun w h => validAir_any a A B ca cb w h)
  have HP := Lib.hid (fun w => spanWithin_any lo hi 274877906944 w)
  have HM := Lib.hid (fun w => moments_any a A B ca cb AL L.length cl w)
  have hn : ∀ c, insB a lo hi L = c → Hid (insB a lo hi L = c) := fun b h => h
  unfold airv at *
  clear har hr
  refine calls_of_at (n := 3) Try.func36 rfl (wpAt_of_wp ?_)
  simp only [Try.ntmps36, List.size_toArray, List.length_cons, List.length_nil, Nat.reduceAdd, Nat.reduceSub, Array.replicate_succ, Array.replicate_zero, List.push_toArray, List.append_toArray, List.nil_append, List.cons_append]
  go_wp2_with fail
  generalize ((((W.alloc (.cells (airc a A B ca cb) 26)).alloc (.cells #[.int .i64 lo, .int .i64 hi] 24)).alloc (.cells #[.slice none 0 0] 67)).alloc (.cells #[.int .i64 0] 30)) = w0 at HB ⊢
  refine (HV.out _ (H0.out.1.step HB.out.b)).mono ?_
  rintro e w1 ⟨rfl, hb1⟩
  have H1 := Lib.hid (HB.out.step hb1)
  have c0 : w1.cell? ⟨W.heap.size + 1, 0, none⟩ = some (.int .i64 lo) := H1.out.fw.cell 0
  have c1 : w1.cell? ⟨W.heap.size + 1, 1, none⟩ = some (.int .i64 hi) := H1.out.fw.cell 1
  have l0 : w1.cell? ⟨W.heap.size + 2, 0, none⟩ = some (.slice none 0 0) := H1.out.fl.cell 0
  have l1 : w1.cell? ⟨W.heap.size + 3, 0, none⟩ = some (.int .i64 0) := H1.out.fe.cell 0
  have f0 := H1.out.fl.frozen
  have f1 := H1.out.fe.frozen
  clear hb1
  cases hv : airB a
  · have HE := hn false (by unfold insB; rw [hv]; rfl)
    clear hv
    go_wp2_with fail
    exact leave_ret (H1.out.set (v' := .slice none 0 0) (e' := 1)).fl (H1.out.set (v' := .slice none 0 0) (e' := 1)).fe rfl rfl ⟨(H1.out.set (v' := .slice none 0 0) (e' := 1)).b, .inr ⟨HE.out, rfl⟩⟩
  go_wp2_with fail
  refine (HP.out _).mono ?_
  rintro e w2 ⟨rfl, hb2⟩
  have H2 := Lib.hid (H1.out.step hb2)
  clear c0 c1 l0 l1 f0 f1
  have l0 : w2.cell? ⟨W.heap.size + 2, 0, none⟩ = some (.slice none 0 0) := H2.out.fl.cell 0
  have l1 : w2.cell? ⟨W.heap.size + 3, 0, none⟩ = some (.int .i64 0) := H2.out.fe.cell 0
  have f0 := H2.out.fl.frozen
  have f1 := H2.out.fe.frozen
  clear hb2
  cases hs : spB lo hi 274877906944
  · have HE := hn false (by unfold insB; rw [hv, hs]; rfl)
    clear hv hs
    go_wp2_with fail
    exact leave_ret (H2.out.set (v' := .slice none 0 0) (e' := 1)).fl (H2.out.set (v' := .slice none 0 0) (e' := 1)).fe rfl rfl ⟨(H2.out.set (v' := .slice none 0 0) (e' := 1)).b, .inr ⟨HE.out, rfl⟩⟩
  by_cases hl : 200 < L.length
  · have HE := hn false (by unfold insB; rw [hv, hs, decide_eq_false (by omega)]; rfl)
    have hl' : (200 : Int) < L.length := by omega
    clear hv hs
    go_wp2_with fail
    exact leave_ret (H2.out.set (v' := .slice none 0 0) (e' := 1)).fl (H2.out.set (v' := .slice none 0 0) (e' := 1)).fe rfl rfl ⟨(H2.out.set (v' := .slice none 0 0) (e' := 1)).b, .inr ⟨HE.out, rfl⟩⟩
  have hl' : ¬ (200 : Int) < L.length := by omega
  have HI := Lib.hid (show insB a lo hi L = L.all (stepB a) by unfold insB; rw [hv, hs, decide_eq_true (by omega)]; rfl)
  have HVA := Lib.hid ((airB_iff a).1 hv)
  have a0 : w2.cell? ⟨W.heap.size, 0, none⟩ = some (.int .i64 a.R) := H2.out.fa.cell 0
  have a1 : w2.cell? ⟨W.heap.size, 1, none⟩ = some (.slice A a.T.length ca) := H2.out.fa.cell 1
  have a2 : w2.cell? ⟨W.heap.size, 2, none⟩ = some (.slice B a.H.length cb) := H2.out.fa.cell 2
  have a3 : w2.cell? ⟨W.heap.size, 3, none⟩ = some (.int .i64 a.b0) := H2.out.fa.cell 3
  have a4 : w2.cell? ⟨W.heap.size, 4, none⟩ = some (.int .i64 a.b1) := H2.out.fa.cell 4
  clear hv hs
  go_wp2_with fail
  refine (HM.out _).mono ?_
  rintro e w3 ⟨rfl, rfl⟩
  obtain ⟨hmi, hmb⟩ := mkM_in (ca := ca) (cb := cb) (cl := cl) (H0.out.2.step H2.out.b) (H0.out.1.step H2.out.b)
  have H3 := Lib.hid (H2.out.step hmb)
  have hc := Lib.hid (collect_any a A B ca cb L AL cl _ _ _ hmi (by omega) HVA.out)
  clear hmi hmb a0 a1 a2 a3 a4 l0 l1 f0 f1
  generalize mkM w2 a A B ca cb AL L.length cl = w3 at H3 hc ⊢
  go_wp2_with fail
  refine hc.out.mono ?_
  rintro e w4 ⟨hb4, (⟨hg, v, rfl, ho⟩ | ⟨hg, rfl⟩)⟩
  · have H4 := Lib.hid (H3.out.step hb4)
    have l0 : w4.cell? ⟨W.heap.size + 2, 0, none⟩ = some (.slice none 0 0) := H4.out.fl.cell 0
    have l1 : w4.cell? ⟨W.heap.size + 3, 0, none⟩ = some (.int .i64 0) := H4.out.fe.cell 0
    have f0 := H4.out.fl.frozen
    have f1 := H4.out.fe.frozen
    have HO := Lib.hid ho
    have HG := Lib.hid hg
    have hvs : Hid (v = .slice none 0 0 ∨ ∃ g n c, v = .slice (some ⟨g, 0, none⟩) n c) := by
      rcases ho.2 with ⟨h, -⟩ | ⟨g, cap, cur, h, -⟩
      · exact .inl h
      · exact .inr ⟨g, _, _, h⟩
    clear hb4 hg ho
    have H5 := Lib.hid (H4.out.set (v' := v) (e' := 0))
    have HSZ := Lib.hid (show W.heap.size + 3 < w3.heap.size from H3.out.fe.lt)
    rcases hvs.out with rfl | ⟨g, n, c, rfl⟩
    all_goals
      go_wp2_with fail
      refine leave_ret H5.out.fl H5.out.fe rfl rfl ⟨H5.out.b, .inl ⟨by rw [HI.out]; exact HG.out, _, rfl, ?_⟩⟩
      have := HSZ.out
      exact own_mono (own_keep HO.out (fun g hg _ => (Below.heap_setCell _ _ _ _ (by simp only; omega)).trans (Below.heap_setCell _ _ _ _ (by simp only; omega)))) (by omega)
  · have H4 := Lib.hid (H3.out.step hb4)
    have HG := Lib.hid hg
    clear hb4 hg
    go_wp2_with fail
    exact leave_err H4.out.fl H4.out.fe (by omega) rfl rfl ⟨(H4.out.set (v' := .slice none 0 0) (e' := 1)).b, .inr ⟨by rw [HI.out]; exact HG.out, rfl⟩⟩
end Go.Proofs.Ytdmpkeaanaoeaaa
