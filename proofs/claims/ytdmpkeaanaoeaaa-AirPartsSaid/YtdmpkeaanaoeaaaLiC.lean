/- awake. -/
import Derived.Test.YtdmpkeaanaoeaaaLiB
namespace Go.Proofs.Ytdmpkeaanaoeaaa
open Go.RowKit Go.Shelf
/-- what awake holds: the boxed air and water, and the rows -/
structure AK (W w : World) (g1 g3 : Nat) (A B AL : Option Addr) : Prop where
  b : Below W.heap.size W w
  fa : Has w g1 26 (airc smA A B 3 3)
  fw : Has w g3 24 #[.int .i64 40000, .int .i64 41000]
  ar : AR w w.heap.size smA A B
  sr : SRow w w.heap.size AL smL
theorem AK.step {W w w' : World} {g1 g3 : Nat} {A B AL : Option Addr} (h : AK W w g1 g3 A B AL) (hb : Below w.heap.size w w') : AK W w' g1 g3 A B AL :=
  ⟨h.b.trans (hb.mono h.b.size), h.fa.below hb h.fa.lt, h.fw.below hb h.fw.lt, h.ar.step hb, h.sr.step hb⟩
structure AM (W w : World) (g1 g3 g6 g7 : Nat) (A B AL : Option Addr) : Prop where
  k : AK W w g1 g3 A B AL
  fe : Has w g6 24 #[.int .i64 30000, .int .i64 30000]
  fm : Has w g7 34 #[.int .i64 4700, .int .i64 6200, .int .i64 4000, .int .i64 4100, .int .i64 5000, .int .i64 5000, .int .i64 5700, .int .i64 8100]
theorem AM.step {W w w' : World} {g1 g3 g6 g7 : Nat} {A B AL : Option Addr} (h : AM W w g1 g3 g6 g7 A B AL) (hb : Below w.heap.size w w') : AM W w' g1 g3 g6 g7 A B AL :=
  ⟨h.k.step hb, h.fe.below hb h.fe.lt, h.fm.below hb h.fm.lt⟩
structure AN (W w : World) (g6 g7 g12 : Nat) : Prop where
  b : Below W.heap.size W w
  fe : Has w g6 24 #[.int .i64 30000, .int .i64 30000]
  fm : Has w g7 34 #[.int .i64 4700, .int .i64 6200, .int .i64 4000, .int .i64 4100, .int .i64 5000, .int .i64 5000, .int .i64 5700, .int .i64 8100]
  fu : Has w g12 24 #[.int .i64 1, .int .i64 2]
theorem AN.step {W w w' : World} {g6 g7 g12 : Nat} (h : AN W w g6 g7 g12) (hb : Below w.heap.size w w') : AN W w' g6 g7 g12 :=
  ⟨h.b.trans (hb.mono h.b.size), h.fe.below hb h.fe.lt, h.fm.below hb h.fm.lt, h.fu.below hb h.fu.lt⟩
set_option maxRecDepth 100000 in
set_option maxHeartbeats 4000000 in
theorem awake_any (W : World) : Calls Try.prog 10 #[] W (BoolPost true W) := by
  have HS := Lib.hid (fun x y w => span_any x y w)
  have HSm := Lib.hid (fun w => sample_any w)
  have HH := Lib.hid (fun (A B : Option Addr) w (h : AR w w.heap.size smA A B) => by
    have := Holds_any smA A B 3 3 (-25) w h
    rw [sm_holds] at this
    exact this)
  have HR := Lib.hid (fun (A B AL : Option Addr) w (h : AR w w.heap.size smA A B) (h2 : SRow w w.heap.size AL smL) => by
    have := Run_any smA A B 3 3 40000 41000 smL AL 2 w h h2 (by decide)
    rw [sm_run] at this
    exact this)
  have HF := Lib.hid (fun (A B AL : Option Addr) w (h : AR w w.heap.size smA A B) (h2 : SRow w w.heap.size AL smL) => by
    have := Fog_any smA A B 3 3 40000 41000 smL AL 2 w h h2 (by decide)
    rw [sm_fog] at this
    exact this)
  have HU := Lib.hid (fun (A B AL : Option Addr) w (h : AR w w.heap.size smA A B) (h2 : SRow w w.heap.size AL smL) => by
    have := Rust_any smA A B 3 3 40000 41000 950 smL AL 2 w h h2 (by decide)
    rw [sm_rust] at this
    exact this)
  have HD := Lib.hid (fun (A B AL : Option Addr) w (h : AR w w.heap.size smA A B) (h2 : SRow w w.heap.size AL smL) => Dryer_any smA A B 3 3 40000 41000 smL AL 2 w h h2 (by decide))
  have n24 := neq24s
  have n34 := neq34s
  have q24 := fun w => eql24 1 2 1 2 w
  obtain ⟨n, hn⟩ : ∃ n, n = smL.length := ⟨_, rfl⟩
  unfold SmpPost at HSm
  rw [← hn] at HSm HR HF HU HD
  unfold airv at *
  clear hn
  go_enter Try.func10, Try.ntmps10
  go_wp2_with fail
  refine (HSm.out _).mono ?_
  rintro e w1 ⟨A, B, AL, rfl, hb1, har, hsr⟩
  have H1 := Lib.hid (And.intro hb1 (And.intro har hsr))
  clear hb1 har hsr
  go_wp2_with fail
  refine (HS.out _ _ _).mono ?_
  rintro e w2 ⟨rfl, rfl⟩
  go_wp2_with fail
  have K2 : Hid (AK W (((w1.alloc (.cells (airc smA A B 3 3) 26)).alloc (.cells #[.int .i64 40000, .int .i64 41000] 24)).alloc (.cells #[.int .i64 40000, .int .i64 41000] 24)) w1.heap.size (w1.heap.size + 1 + 1) A B AL) := by
    have hb : Below w1.heap.size w1 (((w1.alloc (.cells (airc smA A B 3 3) 26)).alloc (.cells #[.int .i64 40000, .int .i64 41000] 24)).alloc (.cells #[.int .i64 40000, .int .i64 41000] 24)) := ((below_one w1 _).alloc (by simp) _).alloc (by simp; omega) _
    exact ⟨below_seq H1.out.1 hb, ((box_air _ _ _ _ _ _).alloc _).alloc _, has_newAt (by simp), H1.out.2.1.step hb, H1.out.2.2.step hb⟩
  generalize w1.heap.size + 1 + 1 = g3 at K2 ⊢
  generalize hg1 : w1.heap.size = g1 at K2 ⊢
  clear hg1
  generalize ((w1.alloc (.cells (airc smA A B 3 3) 26)).alloc (.cells #[.int .i64 40000, .int .i64 41000] 24)).alloc (.cells #[.int .i64 40000, .int .i64 41000] 24) = w3 at K2 ⊢
  clear H1
  refine (HH.out _ _ _ K2.out.ar).mono ?_
  rintro e w4 ⟨rfl, hb4⟩
  have K4 := Lib.hid (K2.out.step hb4)
  clear hb4
  have c0 : w4.cell? ⟨g1, 0, none⟩ = some (.int .i64 smA.R) := K4.out.fa.cell 0
  have c1 : w4.cell? ⟨g1, 1, none⟩ = some (.slice A smA.T.length 3) := K4.out.fa.cell 1
  have c2 : w4.cell? ⟨g1, 2, none⟩ = some (.slice B smA.H.length 3) := K4.out.fa.cell 2
  have c3 : w4.cell? ⟨g1, 3, none⟩ = some (.int .i64 smA.b0) := K4.out.fa.cell 3
  have c4 : w4.cell? ⟨g1, 4, none⟩ = some (.int .i64 smA.b1) := K4.out.fa.cell 4
  have d0 : w4.cell? ⟨g3, 0, none⟩ = some (.int .i64 40000) := K4.out.fw.cell 0
  have d1 : w4.cell? ⟨g3, 1, none⟩ = some (.int .i64 41000) := K4.out.fw.cell 1
  go_wp2_with fail
  refine (HR.out _ _ _ _ K4.out.ar K4.out.sr).mono ?_
  rintro e w5 ⟨rfl, hb5⟩
  have K5 := Lib.hid (K4.out.step hb5)
  clear hb5 c0 c1 c2 c3 c4 d0 d1
  have c0 : w5.cell? ⟨g1, 0, none⟩ = some (.int .i64 smA.R) := K5.out.fa.cell 0
  have c1 : w5.cell? ⟨g1, 1, none⟩ = some (.slice A smA.T.length 3) := K5.out.fa.cell 1
  have c2 : w5.cell? ⟨g1, 2, none⟩ = some (.slice B smA.H.length 3) := K5.out.fa.cell 2
  have c3 : w5.cell? ⟨g1, 3, none⟩ = some (.int .i64 smA.b0) := K5.out.fa.cell 3
  have c4 : w5.cell? ⟨g1, 4, none⟩ = some (.int .i64 smA.b1) := K5.out.fa.cell 4
  have d0 : w5.cell? ⟨g3, 0, none⟩ = some (.int .i64 40000) := K5.out.fw.cell 0
  have d1 : w5.cell? ⟨g3, 1, none⟩ = some (.int .i64 41000) := K5.out.fw.cell 1
  have l1 := K5.out.fa.lt
  have l3 := K5.out.fw.lt
  go_wp2_with fail
  have K6 : Hid (AM W ((w5.alloc (.cells #[.int .i64 30000, .int .i64 30000] 24)).alloc (.cells #[.int .i64 4700, .int .i64 6200, .int .i64 4000, .int .i64 4100, .int .i64 5000, .int .i64 5000, .int .i64 5700, .int .i64 8100] 34)) g1 g3 w5.heap.size (w5.heap.size + 1) A B AL) := by
    have hb : Below w5.heap.size w5 ((w5.alloc (.cells #[.int .i64 30000, .int .i64 30000] 24)).alloc (.cells #[.int .i64 4700, .int .i64 6200, .int .i64 4000, .int .i64 4100, .int .i64 5000, .int .i64 5000, .int .i64 5700, .int .i64 8100] 34)) := (below_one w5 _).alloc (by simp) _
    exact ⟨K5.out.step hb, (Has.new _ _ _).alloc _, has_newAt (by simp)⟩
  generalize w5.heap.size + 1 = g7 at K6 ⊢
  generalize hg6 : w5.heap.size = g6 at K6 ⊢
  clear hg6 c0 c1 c2 c3 c4 d0 d1 l1 l3
  generalize (w5.alloc (.cells #[.int .i64 30000, .int .i64 30000] 24)).alloc (.cells #[.int .i64 4700, .int .i64 6200, .int .i64 4000, .int .i64 4100, .int .i64 5000, .int .i64 5000, .int .i64 5700, .int .i64 8100] 34) = w6 at K6 ⊢
  clear K5
  refine (HF.out _ _ _ _ K6.out.k.ar K6.out.k.sr).mono ?_
  rintro e w7 ⟨rfl, hb7⟩
  have K7 := Lib.hid (K6.out.step hb7)
  clear hb7 K6
  have c0 : w7.cell? ⟨g1, 0, none⟩ = some (.int .i64 smA.R) := K7.out.k.fa.cell 0
  have c1 : w7.cell? ⟨g1, 1, none⟩ = some (.slice A smA.T.length 3) := K7.out.k.fa.cell 1
  have c2 : w7.cell? ⟨g1, 2, none⟩ = some (.slice B smA.H.length 3) := K7.out.k.fa.cell 2
  have c3 : w7.cell? ⟨g1, 3, none⟩ = some (.int .i64 smA.b0) := K7.out.k.fa.cell 3
  have c4 : w7.cell? ⟨g1, 4, none⟩ = some (.int .i64 smA.b1) := K7.out.k.fa.cell 4
  have d0 : w7.cell? ⟨g3, 0, none⟩ = some (.int .i64 40000) := K7.out.k.fw.cell 0
  have d1 : w7.cell? ⟨g3, 1, none⟩ = some (.int .i64 41000) := K7.out.k.fw.cell 1
  go_wp2_with fail
  refine (HU.out _ _ _ _ K7.out.k.ar K7.out.k.sr).mono ?_
  rintro e w8 ⟨rfl, hb8⟩
  have K8 := Lib.hid (K7.out.step hb8)
  clear hb8 K7 c0 c1 c2 c3 c4 d0 d1
  have c0 : w8.cell? ⟨g1, 0, none⟩ = some (.int .i64 smA.R) := K8.out.k.fa.cell 0
  have c1 : w8.cell? ⟨g1, 1, none⟩ = some (.slice A smA.T.length 3) := K8.out.k.fa.cell 1
  have c2 : w8.cell? ⟨g1, 2, none⟩ = some (.slice B smA.H.length 3) := K8.out.k.fa.cell 2
  have c3 : w8.cell? ⟨g1, 3, none⟩ = some (.int .i64 smA.b0) := K8.out.k.fa.cell 3
  have c4 : w8.cell? ⟨g1, 4, none⟩ = some (.int .i64 smA.b1) := K8.out.k.fa.cell 4
  have d0 : w8.cell? ⟨g3, 0, none⟩ = some (.int .i64 40000) := K8.out.k.fw.cell 0
  have d1 : w8.cell? ⟨g3, 1, none⟩ = some (.int .i64 41000) := K8.out.k.fw.cell 1
  have l1 := K8.out.k.fa.lt
  have l3 := K8.out.k.fw.lt
  go_wp2_with fail
  have K9 := Lib.hid (K8.out.step (below_one w8 (.cells #[.int .i64 1, .int .i64 2] 24)))
  have KU := Lib.hid (Has.new w8 24 #[.int .i64 1, .int .i64 2])
  clear c0 c1 c2 c3 c4 d0 d1 l1 l3 K8
  generalize w8.heap.size = g12 at KU ⊢
  generalize w8.alloc (.cells #[.int .i64 1, .int .i64 2] 24) = w9 at K9 KU ⊢
  refine (HD.out _ _ _ _ K9.out.k.ar K9.out.k.sr).mono ?_
  rintro e w10 ⟨hb10, (⟨hbad, rfl⟩ | ⟨-, r, hr, rfl⟩)⟩
  · rw [sm_ins] at hbad; cases hbad
  obtain rfl := sm_least hr
  have K10 : Hid (AN W w10 g6 g7 g12) := ⟨(K9.out.step hb10).k.b, (K9.out.step hb10).fe, (K9.out.step hb10).fm, KU.out.below hb10 KU.out.lt⟩
  clear hb10 hr K9 KU
  rw [if_neg (by decide), if_neg (by decide)]
  have e0 : w10.cell? ⟨g6, 0, none⟩ = some (.int .i64 30000) := K10.out.fe.cell 0
  have e1 : w10.cell? ⟨g6, 1, none⟩ = some (.int .i64 30000) := K10.out.fe.cell 1
  have m0 : w10.cell? ⟨g7, 0, none⟩ = some (.int .i64 4700) := K10.out.fm.cell 0
  have m1 : w10.cell? ⟨g7, 1, none⟩ = some (.int .i64 6200) := K10.out.fm.cell 1
  have m2 : w10.cell? ⟨g7, 2, none⟩ = some (.int .i64 4000) := K10.out.fm.cell 2
  have m3 : w10.cell? ⟨g7, 3, none⟩ = some (.int .i64 4100) := K10.out.fm.cell 3
  have m4 : w10.cell? ⟨g7, 4, none⟩ = some (.int .i64 5000) := K10.out.fm.cell 4
  have m5 : w10.cell? ⟨g7, 5, none⟩ = some (.int .i64 5000) := K10.out.fm.cell 5
  have m6 : w10.cell? ⟨g7, 6, none⟩ = some (.int .i64 5700) := K10.out.fm.cell 6
  have m7 : w10.cell? ⟨g7, 7, none⟩ = some (.int .i64 8100) := K10.out.fm.cell 7
  go_wp2_with fail
  have KD := Lib.hid (AN.step K10.out (below_drew w10))
  have HSB := Lib.hid (show ∀ (x y : Int) (w : World), Calls Try.prog 31 #[.int .i64 x, .int .i64 y] w (ValPost (.agg #[.int .i64 x, .int .i64 y]) w) from fun x y w => (span_any x y w).mono fun e w' ⟨h1, h2⟩ => ⟨h1, by rw [h2]; exact below_one _ _⟩)
  go_region_held3 (fun w' => w'.cell? ⟨g6, 0, none⟩ = some (.int .i64 30000) ∧ w'.cell? ⟨g6, 1, none⟩ = some (.int .i64 30000) ∧ w'.cell? ⟨g7, 0, none⟩ = some (.int .i64 4700) ∧ w'.cell? ⟨g7, 1, none⟩ = some (.int .i64 6200) ∧ w'.cell? ⟨g7, 2, none⟩ = some (.int .i64 4000) ∧ w'.cell? ⟨g7, 3, none⟩ = some (.int .i64 4100) ∧ w'.cell? ⟨g7, 4, none⟩ = some (.int .i64 5000) ∧ w'.cell? ⟨g7, 5, none⟩ = some (.int .i64 5000) ∧ w'.cell? ⟨g7, 6, none⟩ = some (.int .i64 5700) ∧ w'.cell? ⟨g7, 7, none⟩ = some (.int .i64 8100)) (first | exact ⟨KD.out.fe.cell 0, KD.out.fe.cell 1, KD.out.fm.cell 0, KD.out.fm.cell 1, KD.out.fm.cell 2, KD.out.fm.cell 3, KD.out.fm.cell 4, KD.out.fm.cell 5, KD.out.fm.cell 6, KD.out.fm.cell 7⟩ | go_keep) ((go_at_call 31; refine (HSB.out _ _ _).mono ?_; rintro r wb ⟨rfl, hbs⟩; (have KD := Lib.hid (AN.step KD.out hbs)); clear hbs))
  all_goals
    clear e0 e1 m0 m1 m2 m3 m4 m5 m6 m7
    go_wp2_with fail
    have KE := Lib.hid (AN.step KD.out (below_drew _))
    have f0 := KD.out.fu.cell 0
    have f1 := KD.out.fu.cell 1
    simp only [List.getElem?_toArray, List.getElem?_cons_zero, List.getElem?_cons_succ] at f0 f1
    go_region_held3 (fun w' => w'.cell? ⟨g12, 0, none⟩ = some (.int .i64 1) ∧ w'.cell? ⟨g12, 1, none⟩ = some (.int .i64 2)) (first | exact ⟨KE.out.fu.cell 0, KE.out.fu.cell 1⟩ | go_keep) ((go_at_call 31; refine (HSB.out _ _ _).mono ?_; rintro r wc ⟨rfl, hbs⟩; (have KE := Lib.hid (AN.step KE.out hbs)); clear hbs))
    all_goals
      go_wp2
      go_ret
      exact ⟨rfl, KE.out.b⟩
end Go.Proofs.Ytdmpkeaanaoeaaa
