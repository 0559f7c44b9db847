/- The law of Runs. -/
import Derived.Test.YtdmpkeaanaoeaaaRfI
import Derived.Test.YtdmpkeaanaoeaaaRfJ
import Derived.Test.YtdmpkeaanaoeaaaRfK
import Derived.Test.YtdmpkeaanaoeaaaLwB
namespace Go.Proofs.Ytdmpkeaanaoeaaa
open Go.RowKit
theorem runE_form (a : Air) (lo hi : Int) (L : List Stp) : ∃ (x y e : Int) (c d : Co), runE a lo hi L = .tuple #[.agg #[.int .i64 x, .int .i64 y], .agg (moi c d), .int .i64 e] := by
  unfold runE
  split
  · exact ⟨_, _, _, _, _, rfl⟩
  · exact ⟨_, _, _, _, _, rfl⟩
set_option maxRecDepth 100000 in
set_option maxHeartbeats 4000000 in
theorem runsLaw_any (a : Air) (A B : Option Addr) (ca cb : Nat) (lo hi t lim : Int) (L : List Stp) (AL : Option Addr) (cl : Nat) (W : World) (har : AR W W.heap.size a A B) (hr : SRow W W.heap.size AL L) (hL : L.length ≤ 9223372036854775807) :
    Calls Try.prog 3 #[airv a A B ca cb, .agg #[.int .i64 lo, .int .i64 hi], .slice AL L.length cl, .int .i64 t, .int .i64 lim] W (BoolPost true W) := by
  have K0 := Lib.hid (box_lb (ca := ca) (cb := cb) (lo := lo) (hi := hi) har hr)
  have HMany := Lib.hid (fun w => many_any a A B AL ca cb cl L.length 60 w har.lt har.lh)
  have P1 := Lib.hid (fun w h => Holds_any a A B ca cb t w h)
  have Q1 := Lib.hid (fun w h => dHolds_any a A B ca cb t w h)
  have P2 := Lib.hid (fun w h1 h2 => Run_any a A B ca cb lo hi L AL cl w h1 h2 hL)
  have Q2 := Lib.hid (fun w h1 h2 => dRun_any a A B ca cb lo hi L AL cl w h1 h2 hL)
  have P3 := Lib.hid (fun w h1 h2 => Fog_any a A B ca cb lo hi L AL cl w h1 h2 hL)
  have Q3 := Lib.hid (fun w h1 h2 => dFog_any a A B ca cb lo hi L AL cl w h1 h2 hL)
  have P4 := Lib.hid (fun w h1 h2 => Rust_any a A B ca cb lo hi lim L AL cl w h1 h2 hL)
  have Q4 := Lib.hid (fun w h1 h2 => dRust_any a A B ca cb lo hi lim L AL cl w h1 h2 hL)
  have HAw := Lib.hid (fun w => awake_any w)
  obtain ⟨⟨n1, n2⟩, hn⟩ : ∃ x, x = holdsR a t := ⟨_, rfl⟩
  rw [← hn] at P1 Q1
  obtain ⟨s1, s2, s3, c, d, hs⟩ := runE_form a lo hi L
  rw [hs] at P2 Q2
  obtain ⟨⟨f1, f2, f3⟩, hf⟩ : ∃ x, x = fogR a lo hi L := ⟨_, rfl⟩
  rw [← hf] at P3 Q3
  obtain ⟨⟨u1, u2, u3⟩, hu⟩ : ∃ x, x = rustR a lo hi lim L := ⟨_, rfl⟩
  rw [← hu] at P4 Q4
  unfold airv at *
  clear har hr hn hs hf hu
  go_enter Try.func3, Try.ntmps3
  go_upto_region 1 with fail
  generalize ((W.alloc (.cells (airc a A B ca cb) 26)).alloc (.cells #[.int .i64 lo, .int .i64 hi] 24)) = w0 at K0 ⊢
  have a0 : w0.cell? ⟨W.heap.size, 0, none⟩ = some (.int .i64 a.R) := K0.out.v.b.fa.cell 0
  have a1 : w0.cell? ⟨W.heap.size, 1, none⟩ = some (.slice A a.T.length ca) := K0.out.v.b.fa.cell 1
  have a2 : w0.cell? ⟨W.heap.size, 2, none⟩ = some (.slice B a.H.length cb) := K0.out.v.b.fa.cell 2
  have a3 : w0.cell? ⟨W.heap.size, 3, none⟩ = some (.int .i64 a.b0) := K0.out.v.b.fa.cell 3
  have a4 : w0.cell? ⟨W.heap.size, 4, none⟩ = some (.int .i64 a.b1) := K0.out.v.b.fa.cell 4
  go_wp2_with fail
  refine (HMany.out _).mono ?_
  rintro e w1 ⟨rfl, hb1⟩
  have K1 := Lib.hid (K0.out.step hb1)
  clear hb1 a0 a1 a2 a3 a4
  cases hm : manyB a L.length 60
  rotate_left
  · go_wp2_with fail
    refine (HAw.out _).mono ?_
    rintro e w2 ⟨rfl, hb2⟩
    have K2 := Lib.hid (K1.out.step hb2)
    clear hb2
    go_wp2_with fail
    go_ret
    exact ⟨rfl, K2.out.v.b.b⟩
  clear hm
  go_upto_region 3 with fail
  have a0 : w1.cell? ⟨W.heap.size, 0, none⟩ = some (.int .i64 a.R) := K1.out.v.b.fa.cell 0
  have a1 : w1.cell? ⟨W.heap.size, 1, none⟩ = some (.slice A a.T.length ca) := K1.out.v.b.fa.cell 1
  have a2 : w1.cell? ⟨W.heap.size, 2, none⟩ = some (.slice B a.H.length cb) := K1.out.v.b.fa.cell 2
  have a3 : w1.cell? ⟨W.heap.size, 3, none⟩ = some (.int .i64 a.b0) := K1.out.v.b.fa.cell 3
  have a4 : w1.cell? ⟨W.heap.size, 4, none⟩ = some (.int .i64 a.b1) := K1.out.v.b.fa.cell 4
  go_wp2_with fail
  refine (P1.out _ K1.out.ar).mono ?_
  rintro e w2 ⟨rfl, hb⟩
  have K2 := Lib.hid (K1.out.step hb)
  clear hb a0 a1 a2 a3 a4
  go_upto_region 4 with fail
  have a0 : w2.cell? ⟨W.heap.size, 0, none⟩ = some (.int .i64 a.R) := K2.out.v.b.fa.cell 0
  have a1 : w2.cell? ⟨W.heap.size, 1, none⟩ = some (.slice A a.T.length ca) := K2.out.v.b.fa.cell 1
  have a2 : w2.cell? ⟨W.heap.size, 2, none⟩ = some (.slice B a.H.length cb) := K2.out.v.b.fa.cell 2
  have a3 : w2.cell? ⟨W.heap.size, 3, none⟩ = some (.int .i64 a.b0) := K2.out.v.b.fa.cell 3
  have a4 : w2.cell? ⟨W.heap.size, 4, none⟩ = some (.int .i64 a.b1) := K2.out.v.b.fa.cell 4
  go_wp2_with fail
  refine (Q1.out _ K2.out.ar).mono ?_
  rintro e w3 ⟨rfl, hb⟩
  have K3 := Lib.hid (K2.out.step hb)
  clear hb a0 a1 a2 a3 a4
  go_upto_region 5 with fail
  have a0 : w3.cell? ⟨W.heap.size, 0, none⟩ = some (.int .i64 a.R) := K3.out.v.b.fa.cell 0
  have a1 : w3.cell? ⟨W.heap.size, 1, none⟩ = some (.slice A a.T.length ca) := K3.out.v.b.fa.cell 1
  have a2 : w3.cell? ⟨W.heap.size, 2, none⟩ = some (.slice B a.H.length cb) := K3.out.v.b.fa.cell 2
  have a3 : w3.cell? ⟨W.heap.size, 3, none⟩ = some (.int .i64 a.b0) := K3.out.v.b.fa.cell 3
  have a4 : w3.cell? ⟨W.heap.size, 4, none⟩ = some (.int .i64 a.b1) := K3.out.v.b.fa.cell 4
  have l0 : w3.cell? ⟨W.heap.size + 1, 0, none⟩ = some (.int .i64 lo) := K3.out.v.fw.cell 0
  have l1 : w3.cell? ⟨W.heap.size + 1, 1, none⟩ = some (.int .i64 hi) := K3.out.v.fw.cell 1
  go_wp2_with fail
  refine (P2.out _ K3.out.ar K3.out.sr).mono ?_
  rintro e w4 ⟨rfl, hb⟩
  have K4 := Lib.hid (K3.out.step hb)
  clear hb a0 a1 a2 a3 a4 l0 l1
  go_upto_region 6 with fail
  have K5 := Lib.hid (K4.out.step ((below_one w4 (.cells #[.int .i64 s1, .int .i64 s2] 24)).alloc (Nat.le_of_lt (by simp)) (.cells (moi c d) 34)))
  have B1 := Lib.hid ((Has.new w4 24 #[.int .i64 s1, .int .i64 s2]).alloc (.cells (moi c d) 34))
  have B2 := Lib.hid (show Has ((w4.alloc (.cells #[.int .i64 s1, .int .i64 s2] 24)).alloc (.cells (moi c d) 34)) (w4.heap.size + 1) 34 (moi c d) from has_newAt (by simp))
  clear K4
  generalize w4.heap.size = D1 at B1 B2 ⊢
  generalize (w4.alloc (.cells #[.int .i64 s1, .int .i64 s2] 24)).alloc (.cells (moi c d) 34) = w5 at K5 B1 B2 ⊢
  have a0 : w5.cell? ⟨W.heap.size, 0, none⟩ = some (.int .i64 a.R) := K5.out.v.b.fa.cell 0
  have a1 : w5.cell? ⟨W.heap.size, 1, none⟩ = some (.slice A a.T.length ca) := K5.out.v.b.fa.cell 1
  have a2 : w5.cell? ⟨W.heap.size, 2, none⟩ = some (.slice B a.H.length cb) := K5.out.v.b.fa.cell 2
  have a3 : w5.cell? ⟨W.heap.size, 3, none⟩ = some (.int .i64 a.b0) := K5.out.v.b.fa.cell 3
  have a4 : w5.cell? ⟨W.heap.size, 4, none⟩ = some (.int .i64 a.b1) := K5.out.v.b.fa.cell 4
  have l0 : w5.cell? ⟨W.heap.size + 1, 0, none⟩ = some (.int .i64 lo) := K5.out.v.fw.cell 0
  have l1 : w5.cell? ⟨W.heap.size + 1, 1, none⟩ = some (.int .i64 hi) := K5.out.v.fw.cell 1
  go_wp2_with fail
  refine (Q2.out _ K5.out.ar K5.out.sr).mono ?_
  rintro e w6 ⟨rfl, hb⟩
  have K6 := Lib.hid (K5.out.step hb)
  replace B1 := Lib.hid (B1.out.below hb B1.out.lt)
  replace B2 := Lib.hid (B2.out.below hb B2.out.lt)
  clear hb a0 a1 a2 a3 a4 l0 l1
  go_upto_region 7 with fail
  have K7 := Lib.hid (K6.out.step ((below_one w6 (.cells #[.int .i64 s1, .int .i64 s2] 24)).alloc (Nat.le_of_lt (by simp)) (.cells (moi c d) 34)))
  replace B1 := Lib.hid ((B1.out.alloc (.cells #[.int .i64 s1, .int .i64 s2] 24)).alloc (.cells (moi c d) 34))
  replace B2 := Lib.hid ((B2.out.alloc (.cells #[.int .i64 s1, .int .i64 s2] 24)).alloc (.cells (moi c d) 34))
  have B3 := Lib.hid ((Has.new w6 24 #[.int .i64 s1, .int .i64 s2]).alloc (.cells (moi c d) 34))
  have B4 := Lib.hid (show Has ((w6.alloc (.cells #[.int .i64 s1, .int .i64 s2] 24)).alloc (.cells (moi c d) 34)) (w6.heap.size + 1) 34 (moi c d) from has_newAt (by simp))
  clear K6
  generalize w6.heap.size = D2 at B3 B4 ⊢
  generalize (w6.alloc (.cells #[.int .i64 s1, .int .i64 s2] 24)).alloc (.cells (moi c d) 34) = w7 at K7 B1 B2 B3 B4 ⊢
  have a0 : w7.cell? ⟨W.heap.size, 0, none⟩ = some (.int .i64 a.R) := K7.out.v.b.fa.cell 0
  have a1 : w7.cell? ⟨W.heap.size, 1, none⟩ = some (.slice A a.T.length ca) := K7.out.v.b.fa.cell 1
  have a2 : w7.cell? ⟨W.heap.size, 2, none⟩ = some (.slice B a.H.length cb) := K7.out.v.b.fa.cell 2
  have a3 : w7.cell? ⟨W.heap.size, 3, none⟩ = some (.int .i64 a.b0) := K7.out.v.b.fa.cell 3
  have a4 : w7.cell? ⟨W.heap.size, 4, none⟩ = some (.int .i64 a.b1) := K7.out.v.b.fa.cell 4
  have l0 : w7.cell? ⟨W.heap.size + 1, 0, none⟩ = some (.int .i64 lo) := K7.out.v.fw.cell 0
  have l1 : w7.cell? ⟨W.heap.size + 1, 1, none⟩ = some (.int .i64 hi) := K7.out.v.fw.cell 1
  go_wp2_with fail
  refine (P3.out _ K7.out.ar K7.out.sr).mono ?_
  rintro e w8 ⟨rfl, hb⟩
  have K8 := Lib.hid (K7.out.step hb)
  replace B1 := Lib.hid (B1.out.below hb B1.out.lt)
  replace B2 := Lib.hid (B2.out.below hb B2.out.lt)
  replace B3 := Lib.hid (B3.out.below hb B3.out.lt)
  replace B4 := Lib.hid (B4.out.below hb B4.out.lt)
  clear hb a0 a1 a2 a3 a4 l0 l1
  go_upto_region 8 with fail
  have a0 : w8.cell? ⟨W.heap.size, 0, none⟩ = some (.int .i64 a.R) := K8.out.v.b.fa.cell 0
  have a1 : w8.cell? ⟨W.heap.size, 1, none⟩ = some (.slice A a.T.length ca) := K8.out.v.b.fa.cell 1
  have a2 : w8.cell? ⟨W.heap.size, 2, none⟩ = some (.slice B a.H.length cb) := K8.out.v.b.fa.cell 2
  have a3 : w8.cell? ⟨W.heap.size, 3, none⟩ = some (.int .i64 a.b0) := K8.out.v.b.fa.cell 3
  have a4 : w8.cell? ⟨W.heap.size, 4, none⟩ = some (.int .i64 a.b1) := K8.out.v.b.fa.cell 4
  have l0 : w8.cell? ⟨W.heap.size + 1, 0, none⟩ = some (.int .i64 lo) := K8.out.v.fw.cell 0
  have l1 : w8.cell? ⟨W.heap.size + 1, 1, none⟩ = some (.int .i64 hi) := K8.out.v.fw.cell 1
  go_wp2_with fail
  refine (Q3.out _ K8.out.ar K8.out.sr).mono ?_
  rintro e w9 ⟨rfl, hb⟩
  have K9 := Lib.hid (K8.out.step hb)
  replace B1 := Lib.hid (B1.out.below hb B1.out.lt)
  replace B2 := Lib.hid (B2.out.below hb B2.out.lt)
  replace B3 := Lib.hid (B3.out.below hb B3.out.lt)
  replace B4 := Lib.hid (B4.out.below hb B4.out.lt)
  clear hb a0 a1 a2 a3 a4 l0 l1
  go_upto_region 9 with fail
  have a0 : w9.cell? ⟨W.heap.size, 0, none⟩ = some (.int .i64 a.R) := K9.out.v.b.fa.cell 0
  have a1 : w9.cell? ⟨W.heap.size, 1, none⟩ = some (.slice A a.T.length ca) := K9.out.v.b.fa.cell 1
  have a2 : w9.cell? ⟨W.heap.size, 2, none⟩ = some (.slice B a.H.length cb) := K9.out.v.b.fa.cell 2
  have a3 : w9.cell? ⟨W.heap.size, 3, none⟩ = some (.int .i64 a.b0) := K9.out.v.b.fa.cell 3
  have a4 : w9.cell? ⟨W.heap.size, 4, none⟩ = some (.int .i64 a.b1) := K9.out.v.b.fa.cell 4
  have l0 : w9.cell? ⟨W.heap.size + 1, 0, none⟩ = some (.int .i64 lo) := K9.out.v.fw.cell 0
  have l1 : w9.cell? ⟨W.heap.size + 1, 1, none⟩ = some (.int .i64 hi) := K9.out.v.fw.cell 1
  go_wp2_with fail
  refine (P4.out _ K9.out.ar K9.out.sr).mono ?_
  rintro e w10 ⟨rfl, hb⟩
  have K10 := Lib.hid (K9.out.step hb)
  replace B1 := Lib.hid (B1.out.below hb B1.out.lt)
  replace B2 := Lib.hid (B2.out.below hb B2.out.lt)
  replace B3 := Lib.hid (B3.out.below hb B3.out.lt)
  replace B4 := Lib.hid (B4.out.below hb B4.out.lt)
  clear hb a0 a1 a2 a3 a4 l0 l1
  go_upto_region 10 with fail
  have K11 := Lib.hid (K10.out.step (below_one w10 (.cells #[.int .i64 u1, .int .i64 u2] 24)))
  replace B1 := Lib.hid (B1.out.alloc (.cells #[.int .i64 u1, .int .i64 u2] 24))
  replace B2 := Lib.hid (B2.out.alloc (.cells #[.int .i64 u1, .int .i64 u2] 24))
  replace B3 := Lib.hid (B3.out.alloc (.cells #[.int .i64 u1, .int .i64 u2] 24))
  replace B4 := Lib.hid (B4.out.alloc (.cells #[.int .i64 u1, .int .i64 u2] 24))
  have B5 := Lib.hid (Has.new w10 24 #[.int .i64 u1, .int .i64 u2])
  clear K10
  generalize w10.heap.size = D3 at B5 ⊢
  generalize w10.alloc (.cells #[.int .i64 u1, .int .i64 u2] 24) = w11 at K11 B1 B2 B3 B4 B5 ⊢
  have a0 : w11.cell? ⟨W.heap.size, 0, none⟩ = some (.int .i64 a.R) := K11.out.v.b.fa.cell 0
  have a1 : w11.cell? ⟨W.heap.size, 1, none⟩ = some (.slice A a.T.length ca) := K11.out.v.b.fa.cell 1
  have a2 : w11.cell? ⟨W.heap.size, 2, none⟩ = some (.slice B a.H.length cb) := K11.out.v.b.fa.cell 2
  have a3 : w11.cell? ⟨W.heap.size, 3, none⟩ = some (.int .i64 a.b0) := K11.out.v.b.fa.cell 3
  have a4 : w11.cell? ⟨W.heap.size, 4, none⟩ = some (.int .i64 a.b1) := K11.out.v.b.fa.cell 4
  have l0 : w11.cell? ⟨W.heap.size + 1, 0, none⟩ = some (.int .i64 lo) := K11.out.v.fw.cell 0
  have l1 : w11.cell? ⟨W.heap.size + 1, 1, none⟩ = some (.int .i64 hi) := K11.out.v.fw.cell 1
  go_wp2_with fail
  refine (Q4.out _ K11.out.ar K11.out.sr).mono ?_
  rintro e w12 ⟨rfl, hb⟩
  have K12 := Lib.hid (K11.out.step hb)
  replace B1 := Lib.hid (B1.out.below hb B1.out.lt)
  replace B2 := Lib.hid (B2.out.below hb B2.out.lt)
  replace B3 := Lib.hid (B3.out.below hb B3.out.lt)
  replace B4 := Lib.hid (B4.out.below hb B4.out.lt)
  replace B5 := Lib.hid (B5.out.below hb B5.out.lt)
  clear hb a0 a1 a2 a3 a4 l0 l1
  go_upto_region 11 with fail
  have K13 := Lib.hid (K12.out.step (below_one w12 (.cells #[.int .i64 u1, .int .i64 u2] 24)))
  replace B1 := Lib.hid (B1.out.alloc (.cells #[.int .i64 u1, .int .i64 u2] 24))
  replace B2 := Lib.hid (B2.out.alloc (.cells #[.int .i64 u1, .int .i64 u2] 24))
  replace B3 := Lib.hid (B3.out.alloc (.cells #[.int .i64 u1, .int .i64 u2] 24))
  replace B4 := Lib.hid (B4.out.alloc (.cells #[.int .i64 u1, .int .i64 u2] 24))
  replace B5 := Lib.hid (B5.out.alloc (.cells #[.int .i64 u1, .int .i64 u2] 24))
  have B6 := Lib.hid (Has.new w12 24 #[.int .i64 u1, .int .i64 u2])
  clear K12
  generalize w12.heap.size = D4 at B6 ⊢
  generalize w12.alloc (.cells #[.int .i64 u1, .int .i64 u2] 24) = w13 at K13 B1 B2 B3 B4 B5 B6 ⊢
  have q00 : w13.cell? ⟨D1, 0, none⟩ = some (.int .i64 s1) := B1.out.cell 0
  have q01 : w13.cell? ⟨D1, 1, none⟩ = some (.int .i64 s2) := B1.out.cell 1
  have q10 : w13.cell? ⟨D2, 0, none⟩ = some (.int .i64 s1) := B3.out.cell 0
  have q11 : w13.cell? ⟨D2, 1, none⟩ = some (.int .i64 s2) := B3.out.cell 1
  have q20 : w13.cell? ⟨D3, 0, none⟩ = some (.int .i64 u1) := B5.out.cell 0
  have q21 : w13.cell? ⟨D3, 1, none⟩ = some (.int .i64 u2) := B5.out.cell 1
  have q30 : w13.cell? ⟨D4, 0, none⟩ = some (.int .i64 u1) := B6.out.cell 0
  have q31 : w13.cell? ⟨D4, 1, none⟩ = some (.int .i64 u2) := B6.out.cell 1
  have m00 : w13.cell? ⟨D1 + 1, 0, none⟩ = some (.int .i64 c.came) := B2.out.cell 0
  have m01 : w13.cell? ⟨D1 + 1, 1, none⟩ = some (.int .i64 d.came) := B2.out.cell 1
  have m02 : w13.cell? ⟨D1 + 1, 2, none⟩ = some (.int .i64 c.out) := B2.out.cell 2
  have m03 : w13.cell? ⟨D1 + 1, 3, none⟩ = some (.int .i64 d.out) := B2.out.cell 3
  have m04 : w13.cell? ⟨D1 + 1, 4, none⟩ = some (.int .i64 c.dried) := B2.out.cell 4
  have m05 : w13.cell? ⟨D1 + 1, 5, none⟩ = some (.int .i64 d.dried) := B2.out.cell 5
  have m06 : w13.cell? ⟨D1 + 1, 6, none⟩ = some (.int .i64 c.dew) := B2.out.cell 6
  have m07 : w13.cell? ⟨D1 + 1, 7, none⟩ = some (.int .i64 d.dew) := B2.out.cell 7
  have m10 : w13.cell? ⟨D2 + 1, 0, none⟩ = some (.int .i64 c.came) := B4.out.cell 0
  have m11 : w13.cell? ⟨D2 + 1, 1, none⟩ = some (.int .i64 d.came) := B4.out.cell 1
  have m12 : w13.cell? ⟨D2 + 1, 2, none⟩ = some (.int .i64 c.out) := B4.out.cell 2
  have m13 : w13.cell? ⟨D2 + 1, 3, none⟩ = some (.int .i64 d.out) := B4.out.cell 3
  have m14 : w13.cell? ⟨D2 + 1, 4, none⟩ = some (.int .i64 c.dried) := B4.out.cell 4
  have m15 : w13.cell? ⟨D2 + 1, 5, none⟩ = some (.int .i64 d.dried) := B4.out.cell 5
  have m16 : w13.cell? ⟨D2 + 1, 6, none⟩ = some (.int .i64 c.dew) := B4.out.cell 6
  have m17 : w13.cell? ⟨D2 + 1, 7, none⟩ = some (.int .i64 d.dew) := B4.out.cell 7
  clear P1 Q1 P2 Q2 P3 Q3 P4 Q4 B1 B2 B3 B4 B5 B6
  go_wp2_with fail
  refine (HAw.out _).mono ?_
  rintro e w14 ⟨rfl, hb⟩
  have K14 := Lib.hid (K13.out.step hb)
  clear hb
  go_wp2_with fail
  go_ret
  exact ⟨rfl, K14.out.v.b.b⟩
end Go.Proofs.Ytdmpkeaanaoeaaa
