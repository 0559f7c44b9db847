/- AppendSeq and Collect over the moments, whole; moments. -/
import Derived.Test.YtdmpkeaanaoeaaaAirJ
namespace Go.Proofs.Ytdmpkeaanaoeaaa
open Go.RowKit Go.Shelf
attribute [local go_sem] Oper.semAt_some
/-- the moments of the steps, or a panic -/
def SeqPost (a : Air) (L : List Stp) (w : World) (e : Ending) (W' : World) : Prop :=
  Below w.heap.size w W' ∧
  ((L.all (stepB a) = true ∧ ∃ v, e = .returned v ∧ W'.ownsRow w.heap.size 86 5 v L.length (mfl (L.map (moOf a)))) ∨
   (L.all (stepB a) = false ∧ e = .panicked [{ v := argE, recovered := false }]))
theorem leave_ret0 {W : World} {D : Nat} {fn : Func} {tmps : Array Value} {R : Ending → World → Prop} {v : Value} (hD : W.heap[D]? = some (.deferred (some [])))
    (hr : (results fn tmps).run Try.prog (W.putObj D (.deferred none)) = .ok v (W.putObj D (.deferred none))) (hR : R (.returned v) (W.putObj D (.deferred none))) :
    LeavesInM Fence.wide 3 Try.prog fn tmps R [{ target := .collected D, args := #[] }] .returning W := by
  refine ⟨by simp, .inl ⟨D, _, rfl, run_takeDeferred hD, ?_⟩⟩
  exact ⟨v, hr, hR⟩
theorem leave_err0 {W : World} {D : Nat} {fn : Func} {tmps : Array Value} {R : Ending → World → Prop} {c : List PanicEntry} (hD : W.heap[D]? = some (.deferred (some [])))
    (hR : R (.panicked c) (W.putObj D (.deferred none))) :
    LeavesInM Fence.wide 3 Try.prog fn tmps R [{ target := .collected D, args := #[] }] (.panicking c) W := by
  refine ⟨by simp, .inl ⟨D, _, rfl, run_takeDeferred hD, ?_⟩⟩
  exact hR
theorem own_mono {w : World} {base base' : Nat} {e : TypeId} {size : Nat} {v : Value} {n : Nat} {xs : List Value} (h : w.ownsRow base e size v n xs) (hb : base' ≤ base) : w.ownsRow base' e size v n xs := by
  refine ⟨h.1, ?_⟩
  rcases h.2 with hn | ⟨g, cap, cur, rfl, hbs, rest⟩
  · exact .inl hn
  · exact .inr ⟨g, cap, cur, rfl, by omega, rest⟩
theorem take_map {a : Air} {L : List Stp} {i : Nat} (h : i < L.length) : (L.take i).map (moOf a) ++ [moOf a L[i]] = (L.take (i + 1)).map (moOf a) := by
  rw [List.take_succ_eq_append_getElem h, List.map_append]; rfl
set_option maxRecDepth 100000 in
set_option maxHeartbeats 2000000 in
theorem appendSeq_any (a : Air) (A B : Option Addr) (ca cb : Nat) (L : List Stp) (AL : Option Addr) (cl Bl Ba : Nat) (w : World) (hI : MIt w Bl Ba a A B ca cb L AL cl) (hL : L.length ≤ 200) (hv : VA a) :
    Calls Try.prog 63 #[.slice none 0 0, .func (.func 64) #[] #[.pointer (some ⟨Bl, 0, none⟩), .pointer (some ⟨Ba, 0, none⟩)]] w (SeqPost a L w) := by
  obtain ⟨f, hf⟩ : ∃ f, f = Value.func (.func 64) #[] #[.pointer (some ⟨Bl, 0, none⟩), .pointer (some ⟨Ba, 0, none⟩)] := ⟨_, rfl⟩
  rw [← hf]
  have HF := Lib.hid hf
  have H0 := Lib.hid (And.intro hI (And.intro hL hv))
  clear hI hL hv hf
  refine calls_of_at (n := 3) Try.func63 rfl ?_
  simp only [Try.ntmps63, List.size_toArray, List.length_cons, List.length_nil, Nat.reduceAdd, Nat.reduceSub, Array.replicate_succ, Array.replicate_zero, List.push_toArray, List.append_toArray, List.nil_append, List.cons_append]
  refine wpAt_seq_wp ?_
  go_wp2
  refine wpAt_seq (wpAt_seq_wp ?_)
  go_wp2
  have HT := Lib.hid (Has.new w 67 #[.slice none 0 0])
  have HB := Lib.hid (below_one w (.cells #[.slice none 0 0] 67))
  generalize hg : w.alloc (.cells #[.slice none 0 0] 67) = w1 at HT HB ⊢
  have hs1 : w1.heap.size = w.heap.size + 1 := by rw [← hg]; simp
  clear hg
  refine wpAt_block ?_
  have hfe := HF.out
  refine wpAt_rangeFunc (n := 3) (gf := 64) (lb := #[.pointer (some ⟨Bl, 0, none⟩), .pointer (some ⟨Ba, 0, none⟩)]) hfe (enters_of Try.func64 (by kernel_rfl) rfl) ?_
  have key := fun (X Y : Code) (hab : some (X, Y) = Try.f63.body.bind loopParts) =>
    mom_any (w1.heap.size + 1) Bl Ba a A B ca cb L AL cl H0.out.2.1 H0.out.2.2
      (fun k W => JA w w.heap.size w1.heap.size (w1.heap.size + 1) (loopRec 63 (aTmps w.heap.size f) #[7] X Y w1.heap.size) ((L.take k).map (moOf a)) W)
      (by
        rintro k W ⟨v, h, -⟩
        obtain ⟨i1, i2, i3, i4⟩ := H0.out.1
        exact ⟨i1.below h.b i1.lt, i2.below h.b i2.lt, i3.step h.b, i4.step h.b⟩)
      (by
        rintro k W W' ⟨v, h, hl⟩ hb
        have hlt := (Array.getElem?_eq_some_iff.1 hl).1
        exact ⟨v, h.step hlt hb, (hb.block _ hlt).trans hl⟩)
      (by
        intro i W hi hs h
        have := around_any' w W w.heap.size w1.heap.size (w1.heap.size + 1) f ((L.take i).map (moOf a)) (moOf a L[i]) (by simp; have := H0.out.2.1; omega) hab h
        rw [take_map hi] at this
        exact this)
      ((w1.alloc (.deferred (some []))).alloc (.loop (loopRec 63 (aTmps w.heap.size f) #[7] X Y w1.heap.size .ready none)))
      (by
        refine ⟨.slice none 0 0, ⟨?_, ?_, World.ownsRow_nil _ _ _ _, ?_, by omega⟩, ?_⟩
        · exact ((HB.out.alloc (by omega) _).alloc (by simp; omega) _)
        · exact (HT.out.alloc _).alloc _
        · exact (Below.heap_alloc _ _ _ (by simp)).trans (World.alloc_heap_new w1 _)
        · have := World.alloc_heap_new (w1.alloc (.deferred (some []))) (.loop (loopRec 63 (aTmps w.heap.size f) #[7] X Y w1.heap.size .ready none))
          rwa [World.size_alloc] at this)
  have key2 := key _ _ rfl
  clear key hfe
  refine key2.mono ?_
  clear key2
  rintro r W' (⟨v, rfl, hgood, hJ⟩ | ⟨i, hi, hbad, rfl, hJ⟩)
  · obtain ⟨u, hJ, hl⟩ := hJ
    rw [List.take_length, List.length_map] at hJ
    obtain ⟨w4, hrn, hS4⟩ : ∃ w4, (Instr.endLoop (w1.heap.size + 1)).run Try.prog W' = .ok none w4 ∧ AS w w4 w.heap.size w1.heap.size (w1.heap.size + 1) u L.length (mfl (L.map (moOf a))) :=
      ⟨_, run_endLoop (P := Try.prog) hl (by simp), hJ.put _⟩
    refine ⟨none, w4, hrn, fun i => by simp, fun i => by simp, ?_⟩
    have HS := Lib.hid hS4
    have HG := Lib.hid (show L.all (stepB a) = true by rw [List.all_eq_true]; exact hgood)
    have c0 : w4.cell? ⟨w.heap.size, 0, none⟩ = some u := hS4.t.cell 0
    clear hrn hl hJ hS4 hgood
    have HS1 := Lib.hid hs1
    clear hs1
    refine wpAt_seq_wp ?_
    go_wp2
    show wpAt Try.prog 63 Code.ret _ _ _
    refine wpAt_of_wp ?_
    go_wp2
    have hs1 := HS1.out
    refine leave_ret0 (D := w1.heap.size) (v := u) HS.out.d (by simp [results, Try.results63, go_sem]) ⟨HS.out.b.trans ((below_put _ _ _).mono (by omega)), .inl ⟨HG.out, u, rfl, ?_⟩⟩
    exact own_mono (own_keep HS.out.own (fun g hg _ => World.putObj_heap_other (by omega))) (by omega)
  · obtain ⟨u, hJ, hl⟩ := hJ
    refine ⟨fun i => by simp, fun i => by simp, ?_⟩
    refine leave_err0 (D := w1.heap.size) hJ.d ⟨hJ.b.trans ((below_put _ _ _).mono (by omega)), .inr ⟨?_, rfl⟩⟩
    rw [List.all_eq_false]
    exact ⟨_, List.getElem_mem hi, by rw [hbad]; simp⟩
end Go.Proofs.Ytdmpkeaanaoeaaa
