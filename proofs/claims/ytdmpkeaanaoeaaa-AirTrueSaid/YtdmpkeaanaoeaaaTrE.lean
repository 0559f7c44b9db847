/- The law of True: whatever is true within the spans, what is told holds it. -/
import Derived.Test.YtdmpkeaanaoeaaaTrD
namespace Go.Proofs.Ytdmpkeaanaoeaaa
open Go.RowKit
set_option maxRecDepth 100000 in
set_option maxHeartbeats 8000000 in
theorem trueLaw_any (a : Air) (A B : Option Addr) (ca cb : Nat) (lo hi lim : Int) (L : List Stp) (AL AU : Option Addr) (cl cu : Nat) (U : List Int) (W : World) (har : AR W W.heap.size a A B) (hr : SRow W W.heap.size AL L) (hL : L.length ≤ 9223372036854775807) (hU : U.length ≤ 9223372036854775807) (hur : URow W W.heap.size AU U) (hub : ∀ n ∈ U, 0 ≤ n ∧ n ≤ 4294967295) :
    Calls Try.prog 5 #[airv a A B ca cb, .agg #[.int .i64 lo, .int .i64 hi], .slice AL L.length cl, .int .i64 lim, .slice AU U.length cu] W (BoolPost true W) := by
  have K0 := Lib.hid (box_lb (ca := ca) (cb := cb) (lo := lo) (hi := hi) har hr)
  have HU := Lib.hid (And.intro hur hub)
  have HA := Lib.hid (And.intro har hr)
  have HMany := Lib.hid (fun w => many_any a A B AL ca cb cl L.length 60 w har.lt har.lh)
  have P2 := Lib.hid (fun w h1 h2 => Run_any a A B ca cb lo hi L AL cl w h1 h2 hL)
  have P3 := Lib.hid (fun w h1 h2 => Fog_any a A B ca cb lo hi L AL cl w h1 h2 hL)
  have P4 := Lib.hid (fun w h1 h2 => Rust_any a A B ca cb lo hi lim L AL cl w h1 h2 hL)
  have P5 := Lib.hid (fun w h1 h2 => Valid_any a A B ca cb lo hi L AL cl w h1 h2 hL)
  have P6 := Lib.hid (fun t w h => Holds_any a A B ca cb t w h)
  have HAw := Lib.hid (fun w => awake_any w)
  unfold airv at *
  clear har hr hur hub
  go_enter Try.func5, Try.ntmps5
  go_upto_region 1 with fail
  generalize ((W.alloc (.cells (airc a A B ca cb) 26)).alloc (.cells #[.int .i64 lo, .int .i64 hi] 24)) = w0 at K0 ⊢
  have a0 : w0.cell? ⟨W.heap.size, 0, none⟩ = some (.int .i64 a.R) := K0.out.v.b.fa.cell 0
  have a1 : w0.cell? ⟨W.heap.size, 1, none⟩ = some (.slice A a.T.length ca) := K0.out.v.b.fa.cell 1
  have a2 : w0.cell? ⟨W.heap.size, 2, none⟩ = some (.slice B a.H.length cb) := K0.out.v.b.fa.cell 2
  have a3 : w0.cell? ⟨W.heap.size, 3, none⟩ = some (.int .i64 a.b0) := K0.out.v.b.fa.cell 3
  have a4 : w0.cell? ⟨W.heap.size, 4, none⟩ = some (.int .i64 a.b1) := K0.out.v.b.fa.cell 4
  cases hm : manyB a L.length 60
  rotate_left
  · rw [hm] at HMany
    go_wp2_with fail
    refine (HMany.out _).mono ?_
    rintro e w1 ⟨rfl, hb1⟩
    have K1 := Lib.hid (K0.out.step hb1)
    clear hb1 a0 a1 a2 a3 a4
    go_wp2_with fail
    refine (HAw.out _).mono ?_
    rintro e w2 ⟨rfl, hb2⟩
    have K2 := Lib.hid (K1.out.step hb2)
    clear hb2
    go_wp2_with fail
    go_ret
    exact ⟨rfl, K2.out.v.b.b⟩
  rw [hm] at HMany
  clear hm
  by_cases hu0 : U.length = 0
  · have hu0' : (U.length : Int) = 0 := by omega
    go_wp2_with fail
    refine (HMany.out _).mono ?_
    rintro e w1 ⟨rfl, hb1⟩
    have K1 := Lib.hid (K0.out.step hb1)
    clear hb1 a0 a1 a2 a3 a4
    go_wp2_with fail
    refine (HAw.out _).mono ?_
    rintro e w2 ⟨rfl, hb2⟩
    have K2 := Lib.hid (K1.out.step hb2)
    clear hb2
    go_wp2_with fail
    go_ret
    exact ⟨rfl, K2.out.v.b.b⟩
  have hu1 : ¬ (U.length : Int) = 0 := by omega
  have hu2 : 0 < U.length := by omega
  go_wp2_with fail
  refine (HMany.out _).mono ?_
  rintro e w1 ⟨rfl, hb1⟩
  have K1 := Lib.hid (K0.out.step hb1)
  clear hb1 a0 a1 a2 a3 a4
  go_upto_region 3 with fail
  have a0 : w1.cell? ⟨W.heap.size, 0, none⟩ = some (.int .i64 a.R) := K1.out.v.b.fa.cell 0
  have a1 : w1.cell? ⟨W.heap.size, 1, none⟩ = some (.slice A a.T.length ca) := K1.out.v.b.fa.cell 1
  have a2 : w1.cell? ⟨W.heap.size, 2, none⟩ = some (.slice B a.H.length cb) := K1.out.v.b.fa.cell 2
  have a3 : w1.cell? ⟨W.heap.size, 3, none⟩ = some (.int .i64 a.b0) := K1.out.v.b.fa.cell 3
  have a4 : w1.cell? ⟨W.heap.size, 4, none⟩ = some (.int .i64 a.b1) := K1.out.v.b.fa.cell 4
  have l0 : w1.cell? ⟨W.heap.size + 1, 0, none⟩ = some (.int .i64 lo) := K1.out.v.fw.cell 0
  have l1 : w1.cell? ⟨W.heap.size + 1, 1, none⟩ = some (.int .i64 hi) := K1.out.v.fw.cell 1
  cases hg : insB a lo hi L
  · have P2' := Lib.hid (fun w h1 h2 => (show ValPost (runE a lo hi L) w = ValPost (.tuple #[.agg #[.int .i64 0, .int .i64 0], .agg (moi z0c z0c), .int .i64 1]) w by unfold runE; rw [if_neg (by rw [hg]; simp)]) ▸ P2.out w h1 h2)
    clear hg P2
    go_wp2_with fail
    refine (P2'.out _ K1.out.ar K1.out.sr).mono ?_
    rintro e w2 ⟨rfl, hb⟩
    have K2 := Lib.hid (K1.out.step hb)
    clear hb a0 a1 a2 a3 a4 l0 l1
    go_upto_region 5 with fail
    have K3 := Lib.hid (K2.out.step (below_two w2 (.cells #[.int .i64 0, .int .i64 0] 24) (.cells (moi z0c z0c) 34)))
    have B1 := Lib.hid ((Has.new w2 24 #[.int .i64 0, .int .i64 0]).alloc (.cells (moi z0c z0c) 34))
    have B2 := Lib.hid (show Has ((w2.alloc (.cells #[.int .i64 0, .int .i64 0] 24)).alloc (.cells (moi z0c z0c) 34)) (w2.heap.size + 1) 34 (moi z0c z0c) from has_newAt (by simp))
    clear K2
    generalize w2.heap.size = D1 at B1 B2 ⊢
    generalize (w2.alloc (.cells #[.int .i64 0, .int .i64 0] 24)).alloc (.cells (moi z0c z0c) 34) = w3 at K3 B1 B2 ⊢
    have q0 : w3.cell? ⟨D1, 0, none⟩ = some (.int .i64 0) := B1.out.cell 0
    have q1 : w3.cell? ⟨D1, 1, none⟩ = some (.int .i64 0) := B1.out.cell 1
    have m0 : w3.cell? ⟨D1 + 1, 0, none⟩ = some (.int .i64 0) := B2.out.cell 0
    have m1 : w3.cell? ⟨D1 + 1, 1, none⟩ = some (.int .i64 0) := B2.out.cell 1
    have m2 : w3.cell? ⟨D1 + 1, 2, none⟩ = some (.int .i64 0) := B2.out.cell 2
    have m3 : w3.cell? ⟨D1 + 1, 3, none⟩ = some (.int .i64 0) := B2.out.cell 3
    have m4 : w3.cell? ⟨D1 + 1, 4, none⟩ = some (.int .i64 0) := B2.out.cell 4
    have m5 : w3.cell? ⟨D1 + 1, 5, none⟩ = some (.int .i64 0) := B2.out.cell 5
    have m6 : w3.cell? ⟨D1 + 1, 6, none⟩ = some (.int .i64 0) := B2.out.cell 6
    have m7 : w3.cell? ⟨D1 + 1, 7, none⟩ = some (.int .i64 0) := B2.out.cell 7
    go_wp2_with fail
    refine (HAw.out _).mono ?_
    rintro e w4 ⟨rfl, hb⟩
    have K4 := Lib.hid (K3.out.step hb)
    clear hb
    go_wp2_with fail
    go_ret
    exact ⟨rfl, K4.out.v.b.b⟩
  have HG := Lib.hid ((insB_iff a lo hi L).1 hg)
  have HL := Lib.hid (And.intro (ins_gl hg) (msOf_len a L))
  have HK := Lib.hid hg
  have P5' := Lib.hid (fun w h1 h2 => hg ▸ P5.out w h1 h2)
  have P2' := Lib.hid (fun w h1 h2 => (show ValPost (runE a lo hi L) w = ValPost (.tuple #[.agg #[.int .i64 (runL a lo L).w, .int .i64 (runH a hi L).w], .agg (moi (runL a lo L) (runH a hi L)), .int .i64 0]) w by unfold runE; rw [if_pos hg]) ▸ P2.out w h1 h2)
  clear hg P2 P5
  obtain ⟨c, hc⟩ : ∃ x, x = runL a lo L := ⟨_, rfl⟩
  obtain ⟨d, hd⟩ : ∃ x, x = runH a hi L := ⟨_, rfl⟩
  rw [← hc, ← hd] at P2'
  have HCD := Lib.hid (And.intro hc hd)
  clear hc hd
  go_wp2_with fail
  refine (P2'.out _ K1.out.ar K1.out.sr).mono ?_
  rintro e w2 ⟨rfl, hb⟩
  have K2 := Lib.hid (K1.out.step hb)
  clear hb a0 a1 a2 a3 a4 l0 l1
  go_upto_region 6 with fail
  have K3 := Lib.hid (K2.out.step (below_two w2 (.cells #[.int .i64 c.w, .int .i64 d.w] 24) (.cells (moi c d) 34)))
  have B1 := Lib.hid ((Has.new w2 24 #[.int .i64 c.w, .int .i64 d.w]).alloc (.cells (moi c d) 34))
  have B2 := Lib.hid (show Has ((w2.alloc (.cells #[.int .i64 c.w, .int .i64 d.w] 24)).alloc (.cells (moi c d) 34)) (w2.heap.size + 1) 34 (moi c d) from has_newAt (by simp))
  clear K2
  generalize w2.heap.size = D1 at B1 B2 ⊢
  generalize (w2.alloc (.cells #[.int .i64 c.w, .int .i64 d.w] 24)).alloc (.cells (moi c d) 34) = w3 at K3 B1 B2 ⊢
  have a0 : w3.cell? ⟨W.heap.size, 0, none⟩ = some (.int .i64 a.R) := K3.out.v.b.fa.cell 0
  have a1 : w3.cell? ⟨W.heap.size, 1, none⟩ = some (.slice A a.T.length ca) := K3.out.v.b.fa.cell 1
  have a2 : w3.cell? ⟨W.heap.size, 2, none⟩ = some (.slice B a.H.length cb) := K3.out.v.b.fa.cell 2
  have a3 : w3.cell? ⟨W.heap.size, 3, none⟩ = some (.int .i64 a.b0) := K3.out.v.b.fa.cell 3
  have a4 : w3.cell? ⟨W.heap.size, 4, none⟩ = some (.int .i64 a.b1) := K3.out.v.b.fa.cell 4
  have l0 : w3.cell? ⟨W.heap.size + 1, 0, none⟩ = some (.int .i64 lo) := K3.out.v.fw.cell 0
  have l1 : w3.cell? ⟨W.heap.size + 1, 1, none⟩ = some (.int .i64 hi) := K3.out.v.fw.cell 1
  go_wp2_with fail
  refine (P5'.out _ K3.out.ar K3.out.sr).mono ?_
  rintro e w4 ⟨rfl, hb⟩
  have K4 := Lib.hid (K3.out.step hb)
  replace B1 := Lib.hid (B1.out.below hb B1.out.lt)
  replace B2 := Lib.hid (B2.out.below hb B2.out.lt)
  clear hb a0 a1 a2 a3 a4 l0 l1 K3
  go_upto_region 8 with fail
  obtain ⟨⟨f1, f2, f3⟩, hf⟩ : ∃ x, x = fogR a lo hi L := ⟨_, rfl⟩
  rw [← hf] at P3
  have HF := Lib.hid hf
  obtain ⟨⟨u1, u2, u3⟩, hu⟩ : ∃ x, x = rustR a lo hi lim L := ⟨_, rfl⟩
  rw [← hu] at P4
  have HR := Lib.hid hu
  clear hf hu
  have a0 : w4.cell? ⟨W.heap.size, 0, none⟩ = some (.int .i64 a.R) := K4.out.v.b.fa.cell 0
  have a1 : w4.cell? ⟨W.heap.size, 1, none⟩ = some (.slice A a.T.length ca) := K4.out.v.b.fa.cell 1
  have a2 : w4.cell? ⟨W.heap.size, 2, none⟩ = some (.slice B a.H.length cb) := K4.out.v.b.fa.cell 2
  have a3 : w4.cell? ⟨W.heap.size, 3, none⟩ = some (.int .i64 a.b0) := K4.out.v.b.fa.cell 3
  have a4 : w4.cell? ⟨W.heap.size, 4, none⟩ = some (.int .i64 a.b1) := K4.out.v.b.fa.cell 4
  have l0 : w4.cell? ⟨W.heap.size + 1, 0, none⟩ = some (.int .i64 lo) := K4.out.v.fw.cell 0
  have l1 : w4.cell? ⟨W.heap.size + 1, 1, none⟩ = some (.int .i64 hi) := K4.out.v.fw.cell 1
  go_wp2_with fail
  refine (P3.out _ K4.out.ar K4.out.sr).mono ?_
  rintro e w5 ⟨rfl, hb⟩
  have K5 := Lib.hid (K4.out.step hb)
  replace B1 := Lib.hid (B1.out.below hb B1.out.lt)
  replace B2 := Lib.hid (B2.out.below hb B2.out.lt)
  clear hb a0 a1 a2 a3 a4 l0 l1 K4
  go_upto_region 9 with fail
  have a0 : w5.cell? ⟨W.heap.size, 0, none⟩ = some (.int .i64 a.R) := K5.out.v.b.fa.cell 0
  have a1 : w5.cell? ⟨W.heap.size, 1, none⟩ = some (.slice A a.T.length ca) := K5.out.v.b.fa.cell 1
  have a2 : w5.cell? ⟨W.heap.size, 2, none⟩ = some (.slice B a.H.length cb) := K5.out.v.b.fa.cell 2
  have a3 : w5.cell? ⟨W.heap.size, 3, none⟩ = some (.int .i64 a.b0) := K5.out.v.b.fa.cell 3
  have a4 : w5.cell? ⟨W.heap.size, 4, none⟩ = some (.int .i64 a.b1) := K5.out.v.b.fa.cell 4
  have l0 : w5.cell? ⟨W.heap.size + 1, 0, none⟩ = some (.int .i64 lo) := K5.out.v.fw.cell 0
  have l1 : w5.cell? ⟨W.heap.size + 1, 1, none⟩ = some (.int .i64 hi) := K5.out.v.fw.cell 1
  go_wp2_with fail
  refine (P4.out _ K5.out.ar K5.out.sr).mono ?_
  rintro e w6 ⟨rfl, hb⟩
  have K6 := Lib.hid (K5.out.step hb)
  replace B1 := Lib.hid (B1.out.below hb B1.out.lt)
  replace B2 := Lib.hid (B2.out.below hb B2.out.lt)
  clear hb a0 a1 a2 a3 a4 l0 l1 K5
  go_upto_region 10 with fail
  have K7 := Lib.hid (K6.out.step (below_one w6 (.cells #[.int .i64 u1, .int .i64 u2] 24)))
  replace B1 := Lib.hid (B1.out.alloc (.cells #[.int .i64 u1, .int .i64 u2] 24))
  replace B2 := Lib.hid (B2.out.alloc (.cells #[.int .i64 u1, .int .i64 u2] 24))
  have B3 := Lib.hid (Has.new w6 24 #[.int .i64 u1, .int .i64 u2])
  clear K6
  generalize w6.heap.size = D2 at B3 ⊢
  generalize w6.alloc (.cells #[.int .i64 u1, .int .i64 u2] 24) = w7 at K7 B1 B2 B3 ⊢
  obtain ⟨gu, ou, hau, hgu, hcu⟩ := HU.out.1 0 hu2
  rw [Nat.add_zero] at hcu
  have HN0 := Lib.hid (HU.out.2 _ (List.getElem_mem hu2))
  have hcu7 : w7.cell? ⟨gu, ou, none⟩ = some (.int .u32 U[0]) := (K7.out.v.b.b.cell (p := ⟨gu, _, none⟩) hgu).trans hcu
  have HGU := Lib.hid (show gu < w7.heap.size by have := K7.out.v.b.b.size; omega)
  have HFB := Lib.hid (pickN_in (n := U[0]) HG.out.2.1.2.1)
  obtain ⟨n0, hn0⟩ : ∃ x, x = U[0] := ⟨_, rfl⟩
  rw [← hn0] at HN0 hcu7 HFB
  have P7 := Lib.hid (fun n w h => pick_any lo hi n w (show 0 ≤ lo ∧ lo ≤ hi ∧ hi ≤ 1099511627776 by have := HG.out.2.1; omega) h)
  have K7d : Hid (LB W w7.drew a A B ca cb lo hi L AL) := K7.out.step (below_drew w7)
  replace B1 := Lib.hid B1.out.drew
  replace B2 := Lib.hid B2.out.drew
  replace B3 := Lib.hid B3.out.drew
  have KS : Hid (w7.drew.cell? ⟨W.heap.size + 1, 0, none⟩ = some (.int .i64 lo) ∧ w7.drew.cell? ⟨W.heap.size + 1, 1, none⟩ = some (.int .i64 hi) ∧ w7.drew.cell? ⟨gu, ou, none⟩ = some (.int .u32 n0)) := ⟨K7.out.v.fw.cell 0, K7.out.v.fw.cell 1, hcu7⟩
  replace HGU : Hid (gu < w7.drew.heap.size) := HGU
  have hu3 : (0 : Int) < U.length := by omega
  have HAU := Lib.hid hau
  subst hau
  clear hcu hcu7 hn0 hgu K7
  refine wp_region_late (fun w' : World => w'.cell? ⟨W.heap.size + 1, 0, none⟩ = some (.int .i64 lo) ∧ w'.cell? ⟨W.heap.size + 1, 1, none⟩ = some (.int .i64 hi) ∧ w'.cell? ⟨gu, ou, none⟩ = some (.int .u32 n0)) [] (by kernel_rfl) ?_
  generalize w7.drew = wd at K7d KS HGU B1 B2 B3 ⊢
  refine wpLate_take (i := 0) (oi := ?oi0r10_) (v := ?v0r10_) [4, 5] ?hi0r10_ (by kernel_rfl) (by kernel_rfl) (by kernel_rfl) (by kernel_rfl) (by kernel_rfl) ?hQ0r10_ (Or.inl ⟨?hw0r10_, ?hy0r10_⟩) KS.out ?rest0r10_
  case hi0r10_ => (simp only [List.getElem?_toArray, List.getElem?_cons_zero]; rfl)
  case hQ0r10_ => exact fun _ _ _ h => h
  case hw0r10_ => rfl
  case hy0r10_ =>
    intro w' hSw
    obtain ⟨r0, r1, r2⟩ := hSw
    go_simp
    try exact rfl
  try simp only [Act.put, List.setIfInBounds_toArray, List.set_cons_zero, List.set_cons_succ]
  refine wpLate_take (i := 1) (oi := ?oi1r10_) (v := ?v1r10_) [2, 3, 4, 5] ?hi1r10_ (by kernel_rfl) (by kernel_rfl) (by kernel_rfl) (by kernel_rfl) (by kernel_rfl) ?hQ1r10_ (Or.inl ⟨?hw1r10_, ?hy1r10_⟩) KS.out ?rest1r10_
  case hi1r10_ => (simp only [List.getElem?_toArray, List.getElem?_cons_zero, List.getElem?_cons_succ]; rfl)
  case hQ1r10_ => exact fun _ _ _ h => h
  case hw1r10_ => rfl
  case hy1r10_ =>
    intro w' hSw
    obtain ⟨r0, r1, r2⟩ := hSw
    go_simp
    try exact rfl
  try simp only [Act.put, List.setIfInBounds_toArray, List.set_cons_zero, List.set_cons_succ]
  refine wpLate_take (i := 2) (oi := ?oi2r10_) (v := ?v2r10_) [3, 4, 5] ?hi2r10_ (by kernel_rfl) (by kernel_rfl) (by kernel_rfl) (by kernel_rfl) (by kernel_rfl) ?hQ2r10_ (Or.inl ⟨?hw2r10_, ?hy2r10_⟩) KS.out ?rest2r10_
  case hi2r10_ => (simp only [List.getElem?_toArray, List.getElem?_cons_zero, List.getElem?_cons_succ]; rfl)
  case hQ2r10_ => exact fun _ _ _ h => h
  case hw2r10_ => rfl
  case hy2r10_ =>
    intro w' hSw
    obtain ⟨r0, r1, r2⟩ := hSw
    go_simp
    try exact rfl
  try simp only [Act.put, List.setIfInBounds_toArray, List.set_cons_zero, List.set_cons_succ]
  refine wpLate_take (i := 3) (oi := ?oi3r10_) (v := ?v3r10_) [4, 5] ?hi3r10_ (by kernel_rfl) (by kernel_rfl) (by kernel_rfl) (by kernel_rfl) (by kernel_rfl) ?hQ3r10_ (Or.inl ⟨?hw3r10_, ?hy3r10_⟩) KS.out ?rest3r10_
  case hi3r10_ => (simp only [List.getElem?_toArray, List.getElem?_cons_zero, List.getElem?_cons_succ]; rfl)
  case hQ3r10_ => exact fun _ _ _ h => h
  case hw3r10_ => rfl
  case hy3r10_ =>
    intro w' hSw
    obtain ⟨r0, r1, r2⟩ := hSw
    go_simp
    try exact rfl
  try simp only [Act.put, List.setIfInBounds_toArray, List.set_cons_zero, List.set_cons_succ]
  refine wpLate_one (i := 4) (o := ?o4r10_) (by kernel_rfl) ?ho4r10_ ?hk4r10_
  case ho4r10_ => (simp only [List.getElem?_toArray, List.getElem?_cons_zero, List.getElem?_cons_succ]; rfl)
  intro K hK
  go_simp
  refine (P7.out _ _ HN0.out).mono ?_
  rintro r w8 ⟨rfl, hb⟩
  have K8 := Lib.hid (K7d.out.step hb)
  replace B1 := Lib.hid (B1.out.below hb B1.out.lt)
  replace B2 := Lib.hid (B2.out.below hb B2.out.lt)
  replace B3 := Lib.hid (B3.out.below hb B3.out.lt)
  have KS8 : Hid (w8.cell? ⟨W.heap.size + 1, 0, none⟩ = some (.int .i64 lo) ∧ w8.cell? ⟨W.heap.size + 1, 1, none⟩ = some (.int .i64 hi) ∧ w8.cell? ⟨gu, ou, none⟩ = some (.int .u32 n0)) := ⟨K8.out.v.fw.cell 0, K8.out.v.fw.cell 1, (hb.cell (p := ⟨gu, _, none⟩) HGU.out).trans KS.out.2.2⟩
  clear hb
  go_simp
  refine hK.out _ _ (fun h => KS8.out) ?_
  clear hK K
  try simp only [Act.put, List.setIfInBounds_toArray, List.set_cons_zero, List.set_cons_succ]
  refine wpLate_one (i := 5) (o := ?o5r10_) (by kernel_rfl) ?ho5r10_ ?hk5r10_
  case ho5r10_ => (simp only [List.getElem?_toArray, List.getElem?_cons_zero, List.getElem?_cons_succ]; rfl)
  intro K hK
  go_simp
  refine hK.out _ _ (fun h => KS8.out) ?_
  clear hK K
  try simp only [Act.put, List.setIfInBounds_toArray, List.set_cons_zero, List.set_cons_succ]
  refine wpLate_done (by kernel_rfl) ?_ _
  try simp only [Act.put, List.setIfInBounds_toArray, List.set_cons_zero, List.set_cons_succ]
  go_upto_region 13 with fail
  have HD8 := Lib.hid (show w8.heap.size ≠ D1 ∧ w8.heap.size ≠ D1 + 1 ∧ w8.heap.size ≠ D2 from ⟨by have := B1.out.lt; omega, by have := B2.out.lt; omega, by have := B3.out.lt; omega⟩)
  have K9 := Lib.hid (K8.out.step (below_one w8 (.cells z5 48)))
  replace B1 := Lib.hid (B1.out.alloc (.cells z5 48))
  replace B2 := Lib.hid (B2.out.alloc (.cells z5 48))
  replace B3 := Lib.hid (B3.out.alloc (.cells z5 48))
  have B4 := Lib.hid (Has.new w8 48 z5)
  have HD3 := Lib.hid (show w8.heap.size ≠ D1 ∧ w8.heap.size ≠ D1 + 1 ∧ w8.heap.size ≠ D2 ∧ W.heap.size + 1 < w8.heap.size from ⟨HD8.out.1, HD8.out.2.1, HD8.out.2.2, K8.out.v.fw.lt⟩)
  clear K8 K7d KS KS8 HD8
  generalize w8.heap.size = D3 at B4 HD3 ⊢
  generalize w8.alloc (.cells z5 48) = w9 at K9 B1 B2 B3 B4 ⊢
  have HTS : Hid (TS W w9 a A B ca cb lo hi L AL D1 D2 D3 c d u1 u2 z0c) := ⟨K9.out, B1.out, B2.out, B3.out, B4.out, HD3.out⟩
  clear K9 B1 B2 B3 B4 HD3
  have HCX := Lib.hid (xsU_comes HG.out.1 HG.out.2.2.2 U)
  obtain ⟨ms, hms⟩ : ∃ ms, ms = msOf a L := ⟨_, rfl⟩
  rw [← hms] at HL HCX
  obtain ⟨xs, hxs⟩ : ∃ xs, xs = xsU a L U := ⟨_, rfl⟩
  rw [← hxs] at HCX
  have HXS := Lib.hid (And.intro hms hxs)
  obtain ⟨fw, hfw⟩ : ∃ x, x = pickN lo hi n0 := ⟨_, rfl⟩
  rw [← hfw] at HFB ⊢
  clear hms hxs hfw P3 P4 P5' P2' P7 HGU
  go_wp2_with fail
  go_loopg [20, 22, 23, 24] L.length (fun gk now wt dw i wr => ∃ (k : Nat) (v : Int), k ≤ L.length ∧ L.length - k ≤ gk ∧ i = .int .i64 k ∧ now = .int .i64 (crsX fw xs ms k).w ∧ wt = .int .i64 v ∧ dw = .int .i64 (firstX fw xs ms k) ∧ Hid (0 ≤ v ∧ v ≤ k ∧ (inB lim 0 1000 = true → v = cntI (wetX fw xs lim ms) k)) ∧ Hid (TS W wr a A B ca cb lo hi L AL D1 D2 D3 c d u1 u2 (crsX fw xs ms k)))
  case atStart => exact ⟨0, 0, Nat.zero_le _, Nat.le_refl _, rfl, rfl, rfl, rfl, Lib.hid ⟨Int.le_refl _, Int.le_refl _, fun _ => rfl⟩, Lib.hid ⟨HTS.out.l, HTS.out.b1, HTS.out.b2, HTS.out.b3, HTS.out.b4, HTS.out.ne⟩⟩
  case round =>
    obtain ⟨k, v, hk, hgk, rfl, rfl, rfl, rfl, HV, HW⟩ := hrel
    by_cases hlt : k < L.length
    rotate_left
    · have hge : ¬ (k : Int) < L.length := by omega
      have hke : k = L.length := by omega
      have hkm : k ≤ ms.length := by rw [HXS.out.1, msOf_len]; omega
      have hcE : c = crs lo (·.c0) ms k := by rw [HCD.out.1, HXS.out.1, hke]; rfl
      have hdE : d = crs hi (·.c1) ms k := by rw [HCD.out.2, HXS.out.1, hke]; rfl
      have hLO := crsX_lo (x := xs) HFB.out.1 HL.out.1.g HCX.out k hkm
      have hHI := crsX_hi (x := xs) HFB.out.2 HL.out.1.g HCX.out k hkm
      have hSM := crsX_sum fw xs ms k hkm
      have hkl : k = ms.length := by rw [HXS.out.1, msOf_len]; exact hke
      rw [← hcE] at hLO
      rw [← hdE] at hHI
      have hfog : (f1, f2, f3) = if fogP hi ms ms.length < 0 then (0, 0, 4) else (fogS lo ms ms.length, fogP hi ms ms.length, 0) := by
        rw [HF.out]; unfold fogR; rw [if_pos HK.out, ← HXS.out.1, ← hkl, hke]
      have hF1 : f3 = 0 → 0 ≤ f1 → 0 ≤ firstX fw xs ms k ∧ firstX fw xs ms k ≤ f1 := by
        intro h1 h2
        by_cases hp : fogP hi ms ms.length < 0
        · rw [if_pos hp] at hfog
          cases hfog
          exact absurd h1 (by decide)
        · rw [if_neg hp] at hfog
          cases hfog
          rw [hkl]
          exact firstX_surely HL.out.1.lo HFB.out.1 HL.out.1.g HCX.out h2
      have hF2 : f3 = 4 → firstX fw xs ms k < 0 := by
        intro h1
        by_cases hp : fogP hi ms ms.length < 0
        · rw [hkl]
          exact firstX_none HL.out.1.hi HFB.out.2 HL.out.1.g HCX.out hp
        · rw [if_neg hp] at hfog
          cases hfog
          exact absurd h1 (by decide)
      have hF3 : f3 = 0 ∨ f3 = 4 := by
        by_cases hp : fogP hi ms ms.length < 0
        · rw [if_pos hp] at hfog
          cases hfog
          exact .inr rfl
        · rw [if_neg hp] at hfog
          cases hfog
          exact .inl rfl
      have hR1 : u3 = 0 → hasB u1 u2 v = true := by
        intro h1
        have hru := HR.out
        unfold rustR at hru
        rw [if_pos HK.out] at hru
        by_cases hl : inB lim 0 1000 = true
        · rw [if_pos hl, ← HXS.out.1, ← hke, hkl] at hru
          cases hru
          have hv := HV.out.2.2 hl
          rw [hkl] at hv
          refine decide_eq_true ⟨?_, ?_⟩
          · rw [hv]; exact wetX_le HFB.out.1 HL.out.1.g HCX.out
          · rw [hv]; exact wetX_ge HFB.out.2 HL.out.1.g HCX.out
        · rw [if_neg hl] at hru
          cases hru
          exact absurd h1 (by decide)
      obtain ⟨q, hq⟩ : ∃ x, x = crsX fw xs ms k := ⟨_, rfl⟩
      obtain ⟨fx, hfx⟩ : ∃ x, x = firstX fw xs ms k := ⟨_, rfl⟩
      rw [← hq] at hLO hHI hSM HW ⊢
      rw [← hfx] at hF1 hF2 ⊢
      have HS0 := Lib.hid (fun w => (show hasB c.w d.w q.w = true from decide_eq_true ⟨hLO.w, hHI.w⟩) ▸ has_any c.w d.w q.w w)
      have HS1 := Lib.hid (fun w => (show hasB c.came d.came q.came = true from decide_eq_true ⟨hLO.came, hHI.came⟩) ▸ has_any c.came d.came q.came w)
      have HS2 := Lib.hid (fun w => (show hasB c.out d.out q.out = true from decide_eq_true ⟨hLO.out, hHI.out⟩) ▸ has_any c.out d.out q.out w)
      have HS3 := Lib.hid (fun w => (show hasB c.dried d.dried q.dried = true from decide_eq_true ⟨hLO.dried, hHI.dried⟩) ▸ has_any c.dried d.dried q.dried w)
      have HS4 := Lib.hid (fun w => (show hasB c.dew d.dew q.dew = true from decide_eq_true ⟨hLO.dew, hHI.dew⟩) ▸ has_any c.dew d.dew q.dew w)
      have HFX := Lib.hid (And.intro (And.intro hF1 hF2) (And.intro hF3 hR1))
      have HSM := Lib.hid hSM
      have hfb := HFB.out
      have HBD : Hid (0 ≤ fw ∧ fw ≤ 274877906944 ∧ 0 ≤ q.w ∧ q.w ≤ 274877906944 ∧ 0 ≤ q.came ∧ q.came ≤ 200 * 274877906944 ∧ 0 ≤ q.out ∧ q.out ≤ 200 * 274877906944 ∧ 0 ≤ q.dried ∧ q.dried ≤ 200 * 274877906944 ∧ 0 ≤ q.dew ∧ q.dew ≤ 200 * 549755813888) := by
        have gl := (crs_good (f := (·.c0)) HL.out.1.lo (l := ms) HL.out.1.g (fun m hm => by have := hm.c; omega) k hkm)
        have gh := (crs_good (f := (·.c1)) HL.out.1.hi (l := ms) HL.out.1.g (fun m hm => by have := hm.c; omega) k hkm)
        rw [← hcE] at gl
        rw [← hdE] at gh
        obtain ⟨l1, l2, l3, l4, l5⟩ := gl
        obtain ⟨g1, g2, g3, g4, g5⟩ := gh
        obtain ⟨p1, p2, p3, p4, p5⟩ := hLO
        obtain ⟨q1, q2, q3, q4, q5⟩ := hHI
        have hk2 := HG.out.2.2.1
        have hww := HG.out.2.1
        show _ ∧ _
        omega
      clear hfog hq hfx hfb hF1 hF2 hF3 hR1 hSM hLO hHI hcE hdE hke hkm hkl
      have e0 : wr.cell? ⟨D1, 0, none⟩ = some (.int .i64 c.w) := HW.out.b1.cell 0
      have e1 : wr.cell? ⟨D1, 1, none⟩ = some (.int .i64 d.w) := HW.out.b1.cell 1
      have m0 : wr.cell? ⟨D1 + 1, 0, none⟩ = some (.int .i64 c.came) := HW.out.b2.cell 0
      have m1 : wr.cell? ⟨D1 + 1, 1, none⟩ = some (.int .i64 d.came) := HW.out.b2.cell 1
      have m2 : wr.cell? ⟨D1 + 1, 2, none⟩ = some (.int .i64 c.out) := HW.out.b2.cell 2
      have m3 : wr.cell? ⟨D1 + 1, 3, none⟩ = some (.int .i64 d.out) := HW.out.b2.cell 3
      have m4 : wr.cell? ⟨D1 + 1, 4, none⟩ = some (.int .i64 c.dried) := HW.out.b2.cell 4
      have m5 : wr.cell? ⟨D1 + 1, 5, none⟩ = some (.int .i64 d.dried) := HW.out.b2.cell 5
      have m6 : wr.cell? ⟨D1 + 1, 6, none⟩ = some (.int .i64 c.dew) := HW.out.b2.cell 6
      have m7 : wr.cell? ⟨D1 + 1, 7, none⟩ = some (.int .i64 d.dew) := HW.out.b2.cell 7
      have x0 : wr.cell? ⟨D3, 1, none⟩ = some (.int .i64 q.came) := HW.out.b4.cell 1
      have x1 : wr.cell? ⟨D3, 2, none⟩ = some (.int .i64 q.out) := HW.out.b4.cell 2
      have x2 : wr.cell? ⟨D3, 3, none⟩ = some (.int .i64 q.dried) := HW.out.b4.cell 3
      have x3 : wr.cell? ⟨D3, 4, none⟩ = some (.int .i64 q.dew) := HW.out.b4.cell 4
      go_wp2_with fail
      refine (HS0.out _).mono ?_
      rintro e v0 ⟨rfl, hb⟩
      have T0 := Lib.hid (HW.out.step hb)
      clear hb e0 e1 m0 m1 m2 m3 m4 m5 m6 m7 x0 x1 x2 x3
      have e0 : v0.cell? ⟨D1, 0, none⟩ = some (.int .i64 c.w) := T0.out.b1.cell 0
      have e1 : v0.cell? ⟨D1, 1, none⟩ = some (.int .i64 d.w) := T0.out.b1.cell 1
      have m0 : v0.cell? ⟨D1 + 1, 0, none⟩ = some (.int .i64 c.came) := T0.out.b2.cell 0
      have m1 : v0.cell? ⟨D1 + 1, 1, none⟩ = some (.int .i64 d.came) := T0.out.b2.cell 1
      have m2 : v0.cell? ⟨D1 + 1, 2, none⟩ = some (.int .i64 c.out) := T0.out.b2.cell 2
      have m3 : v0.cell? ⟨D1 + 1, 3, none⟩ = some (.int .i64 d.out) := T0.out.b2.cell 3
      have m4 : v0.cell? ⟨D1 + 1, 4, none⟩ = some (.int .i64 c.dried) := T0.out.b2.cell 4
      have m5 : v0.cell? ⟨D1 + 1, 5, none⟩ = some (.int .i64 d.dried) := T0.out.b2.cell 5
      have m6 : v0.cell? ⟨D1 + 1, 6, none⟩ = some (.int .i64 c.dew) := T0.out.b2.cell 6
      have m7 : v0.cell? ⟨D1 + 1, 7, none⟩ = some (.int .i64 d.dew) := T0.out.b2.cell 7
      have x0 : v0.cell? ⟨D3, 1, none⟩ = some (.int .i64 q.came) := T0.out.b4.cell 1
      have x1 : v0.cell? ⟨D3, 2, none⟩ = some (.int .i64 q.out) := T0.out.b4.cell 2
      have x2 : v0.cell? ⟨D3, 3, none⟩ = some (.int .i64 q.dried) := T0.out.b4.cell 3
      have x3 : v0.cell? ⟨D3, 4, none⟩ = some (.int .i64 q.dew) := T0.out.b4.cell 4
      go_wp2_with fail
      refine (HS1.out _).mono ?_
      rintro e v1 ⟨rfl, hb⟩
      have T1 := Lib.hid (T0.out.step hb)
      clear hb e0 e1 m0 m1 m2 m3 m4 m5 m6 m7 x0 x1 x2 x3
      have e0 : v1.cell? ⟨D1, 0, none⟩ = some (.int .i64 c.w) := T1.out.b1.cell 0
      have e1 : v1.cell? ⟨D1, 1, none⟩ = some (.int .i64 d.w) := T1.out.b1.cell 1
      have m0 : v1.cell? ⟨D1 + 1, 0, none⟩ = some (.int .i64 c.came) := T1.out.b2.cell 0
      have m1 : v1.cell? ⟨D1 + 1, 1, none⟩ = some (.int .i64 d.came) := T1.out.b2.cell 1
      have m2 : v1.cell? ⟨D1 + 1, 2, none⟩ = some (.int .i64 c.out) := T1.out.b2.cell 2
      have m3 : v1.cell? ⟨D1 + 1, 3, none⟩ = some (.int .i64 d.out) := T1.out.b2.cell 3
      have m4 : v1.cell? ⟨D1 + 1, 4, none⟩ = some (.int .i64 c.dried) := T1.out.b2.cell 4
      have m5 : v1.cell? ⟨D1 + 1, 5, none⟩ = some (.int .i64 d.dried) := T1.out.b2.cell 5
      have m6 : v1.cell? ⟨D1 + 1, 6, none⟩ = some (.int .i64 c.dew) := T1.out.b2.cell 6
      have m7 : v1.cell? ⟨D1 + 1, 7, none⟩ = some (.int .i64 d.dew) := T1.out.b2.cell 7
      have x0 : v1.cell? ⟨D3, 1, none⟩ = some (.int .i64 q.came) := T1.out.b4.cell 1
      have x1 : v1.cell? ⟨D3, 2, none⟩ = some (.int .i64 q.out) := T1.out.b4.cell 2
      have x2 : v1.cell? ⟨D3, 3, none⟩ = some (.int .i64 q.dried) := T1.out.b4.cell 3
      have x3 : v1.cell? ⟨D3, 4, none⟩ = some (.int .i64 q.dew) := T1.out.b4.cell 4
      go_wp2_with fail
      refine (HS2.out _).mono ?_
      rintro e v2 ⟨rfl, hb⟩
      have T2 := Lib.hid (T1.out.step hb)
      clear hb e0 e1 m0 m1 m2 m3 m4 m5 m6 m7 x0 x1 x2 x3
      have e0 : v2.cell? ⟨D1, 0, none⟩ = some (.int .i64 c.w) := T2.out.b1.cell 0
      have e1 : v2.cell? ⟨D1, 1, none⟩ = some (.int .i64 d.w) := T2.out.b1.cell 1
      have m0 : v2.cell? ⟨D1 + 1, 0, none⟩ = some (.int .i64 c.came) := T2.out.b2.cell 0
      have m1 : v2.cell? ⟨D1 + 1, 1, none⟩ = some (.int .i64 d.came) := T2.out.b2.cell 1
      have m2 : v2.cell? ⟨D1 + 1, 2, none⟩ = some (.int .i64 c.out) := T2.out.b2.cell 2
      have m3 : v2.cell? ⟨D1 + 1, 3, none⟩ = some (.int .i64 d.out) := T2.out.b2.cell 3
      have m4 : v2.cell? ⟨D1 + 1, 4, none⟩ = some (.int .i64 c.dried) := T2.out.b2.cell 4
      have m5 : v2.cell? ⟨D1 + 1, 5, none⟩ = some (.int .i64 d.dried) := T2.out.b2.cell 5
      have m6 : v2.cell? ⟨D1 + 1, 6, none⟩ = some (.int .i64 c.dew) := T2.out.b2.cell 6
      have m7 : v2.cell? ⟨D1 + 1, 7, none⟩ = some (.int .i64 d.dew) := T2.out.b2.cell 7
      have x0 : v2.cell? ⟨D3, 1, none⟩ = some (.int .i64 q.came) := T2.out.b4.cell 1
      have x1 : v2.cell? ⟨D3, 2, none⟩ = some (.int .i64 q.out) := T2.out.b4.cell 2
      have x2 : v2.cell? ⟨D3, 3, none⟩ = some (.int .i64 q.dried) := T2.out.b4.cell 3
      have x3 : v2.cell? ⟨D3, 4, none⟩ = some (.int .i64 q.dew) := T2.out.b4.cell 4
      go_wp2_with fail
      refine (HS3.out _).mono ?_
      rintro e v3 ⟨rfl, hb⟩
      have T3 := Lib.hid (T2.out.step hb)
      clear hb e0 e1 m0 m1 m2 m3 m4 m5 m6 m7 x0 x1 x2 x3
      have e0 : v3.cell? ⟨D1, 0, none⟩ = some (.int .i64 c.w) := T3.out.b1.cell 0
      have e1 : v3.cell? ⟨D1, 1, none⟩ = some (.int .i64 d.w) := T3.out.b1.cell 1
      have m0 : v3.cell? ⟨D1 + 1, 0, none⟩ = some (.int .i64 c.came) := T3.out.b2.cell 0
      have m1 : v3.cell? ⟨D1 + 1, 1, none⟩ = some (.int .i64 d.came) := T3.out.b2.cell 1
      have m2 : v3.cell? ⟨D1 + 1, 2, none⟩ = some (.int .i64 c.out) := T3.out.b2.cell 2
      have m3 : v3.cell? ⟨D1 + 1, 3, none⟩ = some (.int .i64 d.out) := T3.out.b2.cell 3
      have m4 : v3.cell? ⟨D1 + 1, 4, none⟩ = some (.int .i64 c.dried) := T3.out.b2.cell 4
      have m5 : v3.cell? ⟨D1 + 1, 5, none⟩ = some (.int .i64 d.dried) := T3.out.b2.cell 5
      have m6 : v3.cell? ⟨D1 + 1, 6, none⟩ = some (.int .i64 c.dew) := T3.out.b2.cell 6
      have m7 : v3.cell? ⟨D1 + 1, 7, none⟩ = some (.int .i64 d.dew) := T3.out.b2.cell 7
      have x0 : v3.cell? ⟨D3, 1, none⟩ = some (.int .i64 q.came) := T3.out.b4.cell 1
      have x1 : v3.cell? ⟨D3, 2, none⟩ = some (.int .i64 q.out) := T3.out.b4.cell 2
      have x2 : v3.cell? ⟨D3, 3, none⟩ = some (.int .i64 q.dried) := T3.out.b4.cell 3
      have x3 : v3.cell? ⟨D3, 4, none⟩ = some (.int .i64 q.dew) := T3.out.b4.cell 4
      go_wp2_with fail
      refine (HS4.out _).mono ?_
      rintro e v4 ⟨rfl, hb⟩
      have T4 := Lib.hid (T3.out.step hb)
      clear hb e0 e1 m0 m1 m2 m3 m4 m5 m6 m7 x0 x1 x2 x3
      have e0 : v4.cell? ⟨D1, 0, none⟩ = some (.int .i64 c.w) := T4.out.b1.cell 0
      have e1 : v4.cell? ⟨D1, 1, none⟩ = some (.int .i64 d.w) := T4.out.b1.cell 1
      have m0 : v4.cell? ⟨D1 + 1, 0, none⟩ = some (.int .i64 c.came) := T4.out.b2.cell 0
      have m1 : v4.cell? ⟨D1 + 1, 1, none⟩ = some (.int .i64 d.came) := T4.out.b2.cell 1
      have m2 : v4.cell? ⟨D1 + 1, 2, none⟩ = some (.int .i64 c.out) := T4.out.b2.cell 2
      have m3 : v4.cell? ⟨D1 + 1, 3, none⟩ = some (.int .i64 d.out) := T4.out.b2.cell 3
      have m4 : v4.cell? ⟨D1 + 1, 4, none⟩ = some (.int .i64 c.dried) := T4.out.b2.cell 4
      have m5 : v4.cell? ⟨D1 + 1, 5, none⟩ = some (.int .i64 d.dried) := T4.out.b2.cell 5
      have m6 : v4.cell? ⟨D1 + 1, 6, none⟩ = some (.int .i64 c.dew) := T4.out.b2.cell 6
      have m7 : v4.cell? ⟨D1 + 1, 7, none⟩ = some (.int .i64 d.dew) := T4.out.b2.cell 7
      have x0 : v4.cell? ⟨D3, 1, none⟩ = some (.int .i64 q.came) := T4.out.b4.cell 1
      have x1 : v4.cell? ⟨D3, 2, none⟩ = some (.int .i64 q.out) := T4.out.b4.cell 2
      have x2 : v4.cell? ⟨D3, 3, none⟩ = some (.int .i64 q.dried) := T4.out.b4.cell 3
      have x3 : v4.cell? ⟨D3, 4, none⟩ = some (.int .i64 q.dew) := T4.out.b4.cell 4
      go_upto_region 33 with fail
      have hbd := HBD.out
      have hsm := HSM.out
      have hne : (fw + q.came != q.w + q.out + q.dried + q.dew) = false := by simp [hsm]
      by_cases hu3 : u3 = 0
      · have HS5 := Lib.hid (fun w => (HFX.out.2.2 hu3) ▸ has_any u1 u2 v w)
        have y0 : v4.cell? ⟨D2, 0, none⟩ = some (.int .i64 u1) := T4.out.b3.cell 0
        have y1 : v4.cell? ⟨D2, 1, none⟩ = some (.int .i64 u2) := T4.out.b3.cell 1
        subst hu3
        go_wp2_with fail
        refine (HS5.out _).mono ?_
        rintro e v5 ⟨rfl, hb⟩
        have T5 := Lib.hid (T4.out.step hb)
        clear hb e0 e1 m0 m1 m2 m3 m4 m5 m6 m7 x0 x1 x2 x3 y0 y1
        go_upto_region 35 with fail
        have hc3 : (f3 = 4 ∧ fx < 0) ∨ (f3 = 0 ∧ f1 < 0) ∨ (f3 = 0 ∧ 0 ≤ f1 ∧ 0 ≤ fx ∧ fx ≤ f1) := by
          rcases HFX.out.2.1 with h | h
          · rcases Int.lt_or_le f1 0 with h2 | h2
            · exact .inr (.inl ⟨h, h2⟩)
            · exact .inr (.inr ⟨h, h2, HFX.out.1.1 h h2⟩)
          · exact .inl ⟨h, HFX.out.1.2 h⟩
        rcases hc3 with ⟨h1, h2⟩ | ⟨h1, h2⟩ | ⟨h1, h2, h3, h4⟩
        all_goals
          subst h1
          clear HFX HF
          go_wp2_with fail
          refine (HAw.out _).mono ?_
          rintro e v6 ⟨rfl, hb⟩
          have T6 := Lib.hid (T5.out.step hb)
          clear hb
          go_wp2_with fail
          go_ret
          exact ⟨rfl, T6.out.l.v.b.b⟩
      · clear e0 e1 m0 m1 m2 m3 m4 m5 m6 m7
        go_upto_region 35 with fail
        clear x0 x1 x2 x3
        have hc3 : (f3 = 4 ∧ fx < 0) ∨ (f3 = 0 ∧ f1 < 0) ∨ (f3 = 0 ∧ 0 ≤ f1 ∧ 0 ≤ fx ∧ fx ≤ f1) := by
          rcases HFX.out.2.1 with h | h
          · rcases Int.lt_or_le f1 0 with h2 | h2
            · exact .inr (.inl ⟨h, h2⟩)
            · exact .inr (.inr ⟨h, h2, HFX.out.1.1 h h2⟩)
          · exact .inl ⟨h, HFX.out.1.2 h⟩
        rcases hc3 with ⟨h1, h2⟩ | ⟨h1, h2⟩ | ⟨h1, h2, h3, h4⟩
        all_goals
          subst h1
          clear HFX HF
          go_wp2_with fail
          refine (HAw.out _).mono ?_
          rintro e v6 ⟨rfl, hb⟩
          have T6 := Lib.hid (T4.out.step hb)
          clear hb
          go_wp2_with fail
          go_ret
          exact ⟨rfl, T6.out.l.v.b.b⟩
    have hlt2 : (k : Int) < L.length := by omega
    obtain ⟨q, Y, hRD, hY⟩ := true_round (lim := lim) (U := U) HK.out HFB.out HXS.out.1 HXS.out.2 hlt HF.out
    have HVS := Lib.hid (HG.out.2.2.2 _ (List.getElem_mem hlt))
    obtain ⟨i1, ht1, hi1, hc1⟩ := urow_at HU.out.1 hu2 k
    obtain ⟨i2, ht2, hi2, hc2⟩ := urow_at HU.out.1 hu2 (k + 1)
    obtain ⟨i3, ht3, hi3, hc3⟩ := urow_at HU.out.1 hu2 (k + 2)
    have HN1 := Lib.hid (atU_bd HU.out.2 hu2 k)
    have HN2 := Lib.hid (atU_bd HU.out.2 hu2 (k + 1))
    have HN3 := Lib.hid (atU_bd HU.out.2 hu2 (k + 2))
    obtain ⟨g, o, hg, hgs, hc⟩ := (HA.out.2.below HW.out.l.v.b.b) k hlt
    obtain ⟨n1, hn1⟩ : ∃ x, x = atU U k := ⟨_, rfl⟩
    obtain ⟨n2, hn2⟩ : ∃ x, x = atU U (k + 1) := ⟨_, rfl⟩
    obtain ⟨n3, hn3⟩ : ∃ x, x = atU U (k + 2) := ⟨_, rfl⟩
    obtain ⟨s, hs⟩ : ∃ s, s = L[k] := ⟨_, rfl⟩
    rw [← hs] at hc hRD hY HVS
    rw [← hn1] at hc1 hY HN1
    rw [← hn2] at hc2 hY HN2
    rw [← hn3] at hc3 hY HN3
    have HC1 := Lib.hid hc1
    have HC2 := Lib.hid hc2
    have HC3 := Lib.hid hc3
    have HHR := Lib.hid (show holdsR a s.cold = (holdsP a s.cold, 0) by unfold holdsR; rw [if_pos ((airB_iff a).2 HG.out.1), if_pos HVS.out.c])
    have P6' := Lib.hid (fun w h => (by rw [HHR.out] : TwoPost (holdsR a s.cold).1 (holdsR a s.cold).2 w = TwoPost (holdsP a s.cold) 0 w) ▸ P6.out s.cold w h)
    have hhb := holds_bd HG.out.1 HVS.out.c
    obtain ⟨ho, hho⟩ : ∃ x, x = holdsP a s.cold := ⟨_, rfl⟩
    rw [← hho] at hRD P6' hhb
    obtain ⟨hq, hce, hqw, hqb, hyw, hyb, hyho, hfx, hwt, hg1, hg2⟩ := hRD
    have HCE := Lib.hid (And.intro hce (And.intro hfx hwt))
    have HHB := Lib.hid hhb
    obtain ⟨fx, hfx0⟩ : ∃ x, x = firstX fw xs ms k := ⟨_, rfl⟩
    have HFX := Lib.hid (And.intro hfx0 (And.intro hg1 hg2))
    have HQB := Lib.hid (And.intro hqw (And.intro hqb (And.intro hyw (And.intro hyb hyho))))
    rw [hq] at HW ⊢
    rw [← hfx0] at ⊢
    have PD := Lib.hid (fun w har => hY ▸ Do_any a A B ca cb s q.w (pickN s.o0 s.o1 n1) (pickN (s.ppl * a.b0) (s.ppl * a.b1) n2) (pickN s.s0 s.s1 n3) w har HG.out.1 HVS.out hqw (by have := HVS.out.o; have := pickN_in (n := n1) HVS.out.o.2.1; omega) (by have h1 := HVS.out.p; have h2 := HG.out.1.b; have h3 := prod_bd (x := s.ppl) (y := a.b0) (m := 16384) (n := 1048576) h1 (by omega); have h4 := prod_bd (x := s.ppl) (y := a.b1) (m := 16384) (n := 1048576) h1 (by omega); have h5 := pickN_in (n := n2) (Int.mul_le_mul_of_nonneg_left h2.2.1 h1.1); omega) (by have := HVS.out.st; have := pickN_in (n := n3) HVS.out.st.2.1; omega))
    have PP1 := Lib.hid (fun w => pick_any s.o0 s.o1 n1 w (by have := HVS.out.o; omega) HN1.out)
    have PP3 := Lib.hid (fun w => pick_any s.s0 s.s1 n3 w (by have := HVS.out.st; omega) HN3.out)
    have p0 := prod_bd (x := s.ppl) (y := a.b0) (m := 16384) (n := 1048576) HVS.out.p (by have := HG.out.1.b; omega)
    have p1 := prod_bd (x := s.ppl) (y := a.b1) (m := 16384) (n := 1048576) HVS.out.p (by have := HG.out.1.b; omega)
    have p2 := Int.mul_le_mul_of_nonneg_left HG.out.1.b.2.1 HVS.out.p.1
    have PP2 := Lib.hid (fun w => pick_any (s.ppl * a.b0) (s.ppl * a.b1) n2 w (by omega) HN2.out)
    clear hY hn1 hn2 hn3 hs hc1 hc2 hc3 hho hq hce hfx hwt hg1 hg2 hfx0 hqw hqb hyw hyb hyho hhb p2
    have hgw : g < wr.heap.size := by have := HW.out.l.v.b.b.size; omega
    have c0 : wr.cell? ⟨g, o + k * 8, none⟩ = some (.int .i64 s.cold) := hc 0 (by omega)
    have c1 : wr.cell? ⟨g, o + k * 8 + 1, none⟩ = some (.int .i64 s.ppl) := hc 1 (by omega)
    have c2 : wr.cell? ⟨g, o + k * 8 + 2, none⟩ = some (.int .i64 s.chg) := hc 2 (by omega)
    have c3 : wr.cell? ⟨g, o + k * 8 + 3, none⟩ = some (.int .i64 s.o0) := hc 3 (by omega)
    have c4 : wr.cell? ⟨g, o + k * 8 + 4, none⟩ = some (.int .i64 s.o1) := hc 4 (by omega)
    have c5 : wr.cell? ⟨g, o + k * 8 + 5, none⟩ = some (.int .i64 s.s0) := hc 5 (by omega)
    have c6 : wr.cell? ⟨g, o + k * 8 + 6, none⟩ = some (.int .i64 s.s1) := hc 6 (by omega)
    have c7 : wr.cell? ⟨g, o + k * 8 + 7, none⟩ = some (.int .i64 s.dry) := hc 7 (by omega)
    subst hg
    clear hc hgs
    go_upto_region 18 with fail
    have hD34 : D3 ≠ wr.heap.size := by have := HW.out.b4.lt; omega
    have X1 := Lib.hid (And.intro (And.intro (HW.out.step (below_one wr (.cells (stpc s) 50))) (show Has (wr.alloc (.cells (stpc s) 50)) wr.heap.size 50 (stpc s) from has_newAt rfl)) hD34)
    clear c0 c1 c2 c3 c4 c5 c6 c7 hgw hD34
    unfold stpc at X1
    generalize wr.heap.size = D4 at X1 ⊢
    generalize wr.alloc (.cells #[.int .i64 s.cold, .int .i64 s.ppl, .int .i64 s.chg, .int .i64 s.o0, .int .i64 s.o1, .int .i64 s.s0, .int .i64 s.s1, .int .i64 s.dry] 50) = w1 at X1 ⊢
    have k1 : w1.cell? ⟨D4, 1, none⟩ = some (.int .i64 s.ppl) := X1.out.1.2.cell 1
    have a3 : w1.cell? ⟨W.heap.size, 3, none⟩ = some (.int .i64 a.b0) := X1.out.1.1.l.v.b.fa.cell 3
    have a4 : w1.cell? ⟨W.heap.size, 4, none⟩ = some (.int .i64 a.b1) := X1.out.1.1.l.v.b.fa.cell 4
    go_upto_region 19 with fail
    clear k1 a3 a4
    obtain ⟨b0, hb0⟩ : ∃ x, x = s.ppl * a.b0 := ⟨_, rfl⟩
    obtain ⟨b1, hb1⟩ : ∃ x, x = s.ppl * a.b1 := ⟨_, rfl⟩
    rw [← hb0, ← hb1] at PP2 PD ⊢
    clear hb0 hb1 p0 p1
    have hD35 : D3 ≠ w1.heap.size := by have := X1.out.1.1.b4.lt; omega
    have KX : Hid (XB W (w1.alloc (.cells #[.int .i64 b0, .int .i64 b1] 24)) a A B ca cb lo hi L (some ⟨g, o, none⟩) D1 D2 D3 c d u1 u2 q D4 w1.heap.size s b0 b1) := ⟨X1.out.1.1.step (below_one w1 _), X1.out.1.2.alloc _, Has.new _ _ _, X1.out.2, hD35⟩
    clear X1 hD35
    generalize w1.heap.size = D5 at KX ⊢
    generalize w1.alloc (.cells #[.int .i64 b0, .int .i64 b1] 24) = w2 at KX ⊢
    have hk200 : L.length ≤ 200 := HG.out.2.2.1
    have e1 : ((k : Int)).tmod (U.length : Int) = (i1 : Int) := ht1
    have e2 : ((k : Int) + 1).tmod (U.length : Int) = (i2 : Int) := ht2
    have e3 : ((k : Int) + 2).tmod (U.length : Int) = (i3 : Int) := ht3
    have e4 : IntKind.i64.wrap ((k : Int) + 1) = (k : Int) + 1 := IntWalk.i64_in _ (by omega)
    have e5 : IntKind.i64.wrap ((k : Int) + 2) = (k : Int) + 2 := IntWalk.i64_in _ (by omega)
    have e6 : IntKind.i64.wrap (i1 : Int) = i1 := IntWalk.i64_in _ (by omega)
    have e7 : IntKind.i64.wrap (i2 : Int) = i2 := IntWalk.i64_in _ (by omega)
    have e8 : IntKind.i64.wrap (i3 : Int) = i3 := IntWalk.i64_in _ (by omega)
    have hj1 : (i1 : Int) < U.length := by omega
    have hj2 : (i2 : Int) < U.length := by omega
    have hj3 : (i3 : Int) < U.length := by omega
    clear ht1 ht2 ht3
    have KS : Hid (∀ w', Below w2.heap.size w2 w' → w'.cell? ⟨W.heap.size, 0, none⟩ = some (.int .i64 a.R) ∧ w'.cell? ⟨W.heap.size, 1, none⟩ = some (.slice A a.T.length ca) ∧ w'.cell? ⟨W.heap.size, 2, none⟩ = some (.slice B a.H.length cb) ∧ w'.cell? ⟨W.heap.size, 3, none⟩ = some (.int .i64 a.b0) ∧ w'.cell? ⟨W.heap.size, 4, none⟩ = some (.int .i64 a.b1) ∧ w'.cell? ⟨D4, 0, none⟩ = some (.int .i64 s.cold) ∧ w'.cell? ⟨D4, 1, none⟩ = some (.int .i64 s.ppl) ∧ w'.cell? ⟨D4, 2, none⟩ = some (.int .i64 s.chg) ∧ w'.cell? ⟨D4, 3, none⟩ = some (.int .i64 s.o0) ∧ w'.cell? ⟨D4, 4, none⟩ = some (.int .i64 s.o1) ∧ w'.cell? ⟨D4, 5, none⟩ = some (.int .i64 s.s0) ∧ w'.cell? ⟨D4, 6, none⟩ = some (.int .i64 s.s1) ∧ w'.cell? ⟨D4, 7, none⟩ = some (.int .i64 s.dry) ∧ w'.cell? ⟨D5, 0, none⟩ = some (.int .i64 b0) ∧ w'.cell? ⟨D5, 1, none⟩ = some (.int .i64 b1) ∧ w'.cell? ⟨gu, ou + i1, none⟩ = some (.int .u32 n1) ∧ w'.cell? ⟨gu, ou + i2, none⟩ = some (.int .u32 n2) ∧ w'.cell? ⟨gu, ou + i3, none⟩ = some (.int .u32 n3)) := fun w' hb => by
      have X := KX.out.step hb
      exact ⟨X.t.l.v.b.fa.cell 0, X.t.l.v.b.fa.cell 1, X.t.l.v.b.fa.cell 2, X.t.l.v.b.fa.cell 3, X.t.l.v.b.fa.cell 4, X.s4.cell 0, X.s4.cell 1, X.s4.cell 2, X.s4.cell 3, X.s4.cell 4, X.s4.cell 5, X.s4.cell 6, X.s4.cell 7, X.b5.cell 0, X.b5.cell 1, HC1.out _ X.t.l.v.b.b, HC2.out _ X.t.l.v.b.b, HC3.out _ X.t.l.v.b.b⟩
    have KT : Hid (TW w2 w2.drew none none) := TW.start w2
    go_cut [27] (fun u wx => ∃ D6, u = .pointer (some ⟨D6, 0, none⟩) ∧ Hid ((XB W wx a A B ca cb lo hi L (some ⟨g, o, none⟩) D1 D2 D3 c d u1 u2 q D4 D5 s b0 b1 ∧ Has wx D6 48 (coc Y)) ∧ D3 ≠ D6))
    case first =>
      refine wp_region_late (fun w' : World => w'.cell? ⟨W.heap.size, 0, none⟩ = some (.int .i64 a.R) ∧ w'.cell? ⟨W.heap.size, 1, none⟩ = some (.slice A a.T.length ca) ∧ w'.cell? ⟨W.heap.size, 2, none⟩ = some (.slice B a.H.length cb) ∧ w'.cell? ⟨W.heap.size, 3, none⟩ = some (.int .i64 a.b0) ∧ w'.cell? ⟨W.heap.size, 4, none⟩ = some (.int .i64 a.b1) ∧ w'.cell? ⟨D4, 0, none⟩ = some (.int .i64 s.cold) ∧ w'.cell? ⟨D4, 1, none⟩ = some (.int .i64 s.ppl) ∧ w'.cell? ⟨D4, 2, none⟩ = some (.int .i64 s.chg) ∧ w'.cell? ⟨D4, 3, none⟩ = some (.int .i64 s.o0) ∧ w'.cell? ⟨D4, 4, none⟩ = some (.int .i64 s.o1) ∧ w'.cell? ⟨D4, 5, none⟩ = some (.int .i64 s.s0) ∧ w'.cell? ⟨D4, 6, none⟩ = some (.int .i64 s.s1) ∧ w'.cell? ⟨D4, 7, none⟩ = some (.int .i64 s.dry) ∧ w'.cell? ⟨D5, 0, none⟩ = some (.int .i64 b0) ∧ w'.cell? ⟨D5, 1, none⟩ = some (.int .i64 b1) ∧ w'.cell? ⟨gu, ou + i1, none⟩ = some (.int .u32 n1) ∧ w'.cell? ⟨gu, ou + i2, none⟩ = some (.int .u32 n2) ∧ w'.cell? ⟨gu, ou + i3, none⟩ = some (.int .u32 n3)) [36] (by kernel_rfl) ?_
      generalize w2.drew = wd at KT ⊢
      refine wpLate_take (i := 0) (oi := ?oiq0x_) (v := ?vq0x_) [34, 36] ?hiq0x_ (by kernel_rfl) (by kernel_rfl) (by kernel_rfl) (by kernel_rfl) (by kernel_rfl) ?hQq0x_ (Or.inl ⟨?hwq0x_, ?hyq0x_⟩) (KS.out _ KT.out.b) ?restq0x_
      case hiq0x_ => (simp only [List.getElem?_toArray, List.getElem?_cons_zero]; rfl)
      case hQq0x_ => exact fun _ _ _ h => h
      case hwq0x_ => rfl
      case hyq0x_ =>
        intro w' hSw
        obtain ⟨r0, r1, r2, r3, r4, r5, r6, r7, r8, r9, r10, r11, r12, r13, r14, r15, r16, r17⟩ := hSw
        go_simp
        try exact rfl
      try simp only [Act.put, List.setIfInBounds_toArray, List.set_cons_zero, List.set_cons_succ]
      refine wpLate_take (i := 1) (oi := ?oiq1x_) (v := ?vq1x_) [34, 36] ?hiq1x_ (by kernel_rfl) (by kernel_rfl) (by kernel_rfl) (by kernel_rfl) (by kernel_rfl) ?hQq1x_ (Or.inl ⟨?hwq1x_, ?hyq1x_⟩) (KS.out _ KT.out.b) ?restq1x_
      case hiq1x_ => (simp only [List.getElem?_toArray, List.getElem?_cons_zero, List.getElem?_cons_succ]; rfl)
      case hQq1x_ => exact fun _ _ _ h => h
      case hwq1x_ => rfl
      case hyq1x_ =>
        intro w' hSw
        obtain ⟨r0, r1, r2, r3, r4, r5, r6, r7, r8, r9, r10, r11, r12, r13, r14, r15, r16, r17⟩ := hSw
        go_simp
        try exact rfl
      try simp only [Act.put, List.setIfInBounds_toArray, List.set_cons_zero, List.set_cons_succ]
      refine wpLate_take (i := 2) (oi := ?oiq2x_) (v := ?vq2x_) [34, 36] ?hiq2x_ (by kernel_rfl) (by kernel_rfl) (by kernel_rfl) (by kernel_rfl) (by kernel_rfl) ?hQq2x_ (Or.inl ⟨?hwq2x_, ?hyq2x_⟩) (KS.out _ KT.out.b) ?restq2x_
      case hiq2x_ => (simp only [List.getElem?_toArray, List.getElem?_cons_zero, List.getElem?_cons_succ]; rfl)
      case hQq2x_ => exact fun _ _ _ h => h
      case hwq2x_ => rfl
      case hyq2x_ =>
        intro w' hSw
        obtain ⟨r0, r1, r2, r3, r4, r5, r6, r7, r8, r9, r10, r11, r12, r13, r14, r15, r16, r17⟩ := hSw
        go_simp
        try exact rfl
      try simp only [Act.put, List.setIfInBounds_toArray, List.set_cons_zero, List.set_cons_succ]
      refine wpLate_take (i := 3) (oi := ?oiq3x_) (v := ?vq3x_) [4, 12, 22, 33, 34, 36] ?hiq3x_ (by kernel_rfl) (by kernel_rfl) (by kernel_rfl) (by kernel_rfl) (by kernel_rfl) ?hQq3x_ (Or.inl ⟨?hwq3x_, ?hyq3x_⟩) (KS.out _ KT.out.b) ?restq3x_
      case hiq3x_ => (simp only [List.getElem?_toArray, List.getElem?_cons_zero, List.getElem?_cons_succ]; rfl)
      case hQq3x_ => exact fun _ _ _ h => h
      case hwq3x_ => rfl
      case hyq3x_ =>
        intro w' hSw
        obtain ⟨r0, r1, r2, r3, r4, r5, r6, r7, r8, r9, r10, r11, r12, r13, r14, r15, r16, r17⟩ := hSw
        go_simp
        try exact rfl
      try simp only [Act.put, List.setIfInBounds_toArray, List.set_cons_zero, List.set_cons_succ]
      refine wpLate_take (i := 4) (oi := ?oiq4x_) (v := ?vq4x_) [12, 22, 33, 34, 36] ?hiq4x_ (by kernel_rfl) (by kernel_rfl) (by kernel_rfl) (by kernel_rfl) (by kernel_rfl) ?hQq4x_ (Or.inl ⟨?hwq4x_, ?hyq4x_⟩) (KS.out _ KT.out.b) ?restq4x_
      case hiq4x_ => (simp only [List.getElem?_toArray, List.getElem?_cons_zero, List.getElem?_cons_succ]; rfl)
      case hQq4x_ => exact fun _ _ _ h => h
      case hwq4x_ => rfl
      case hyq4x_ =>
        intro w' hSw
        obtain ⟨r0, r1, r2, r3, r4, r5, r6, r7, r8, r9, r10, r11, r12, r13, r14, r15, r16, r17⟩ := hSw
        go_simp
        try exact rfl
      try simp only [Act.put, List.setIfInBounds_toArray, List.set_cons_zero, List.set_cons_succ]
      refine wpLate_take (i := 5) (oi := ?oiq5x_) (v := ?vq5x_) [10, 11, 12, 22, 33, 34, 36] ?hiq5x_ (by kernel_rfl) (by kernel_rfl) (by kernel_rfl) (by kernel_rfl) (by kernel_rfl) ?hQq5x_ (Or.inl ⟨?hwq5x_, ?hyq5x_⟩) (KS.out _ KT.out.b) ?restq5x_
      case hiq5x_ => (simp only [List.getElem?_toArray, List.getElem?_cons_zero, List.getElem?_cons_succ]; rfl)
      case hQq5x_ => exact fun _ _ _ h => h
      case hwq5x_ => rfl
      case hyq5x_ =>
        intro w' hSw
        obtain ⟨r0, r1, r2, r3, r4, r5, r6, r7, r8, r9, r10, r11, r12, r13, r14, r15, r16, r17⟩ := hSw
        go_simp
        try exact rfl
      try simp only [Act.put, List.setIfInBounds_toArray, List.set_cons_zero, List.set_cons_succ]
      refine wpLate_take (i := 6) (oi := ?oiq6x_) (v := ?vq6x_) [9, 10, 11, 12, 22, 33, 34, 36] ?hiq6x_ (by kernel_rfl) (by kernel_rfl) (by kernel_rfl) (by kernel_rfl) (by kernel_rfl) ?hQq6x_ (Or.inl ⟨?hwq6x_, ?hyq6x_⟩) (KS.out _ KT.out.b) ?restq6x_
      case hiq6x_ => (simp only [List.getElem?_toArray, List.getElem?_cons_zero, List.getElem?_cons_succ]; rfl)
      case hQq6x_ => exact fun _ _ _ h => h
      case hwq6x_ => rfl
      case hyq6x_ =>
        intro w' hSw
        obtain ⟨r0, r1, r2, r3, r4, r5, r6, r7, r8, r9, r10, r11, r12, r13, r14, r15, r16, r17⟩ := hSw
        go_simp
        try exact rfl
      try simp only [Act.put, List.setIfInBounds_toArray, List.set_cons_zero, List.set_cons_succ]
      refine wpLate_take (i := 7) (oi := ?oiq7x_) (v := ?vq7x_) [8, 9, 10, 11, 12, 22, 33, 34, 36] ?hiq7x_ (by kernel_rfl) (by kernel_rfl) (by kernel_rfl) (by kernel_rfl) (by kernel_rfl) ?hQq7x_ (Or.inl ⟨?hwq7x_, ?hyq7x_⟩) (KS.out _ KT.out.b) ?restq7x_
      case hiq7x_ => (simp only [List.getElem?_toArray, List.getElem?_cons_zero, List.getElem?_cons_succ]; rfl)
      case hQq7x_ => exact fun _ _ _ h => h
      case hwq7x_ => rfl
      case hyq7x_ =>
        intro w' hSw
        obtain ⟨r0, r1, r2, r3, r4, r5, r6, r7, r8, r9, r10, r11, r12, r13, r14, r15, r16, r17⟩ := hSw
        go_simp
        try exact rfl
      try simp only [Act.put, List.setIfInBounds_toArray, List.set_cons_zero, List.set_cons_succ]
      refine wpLate_take (i := 8) (oi := ?oiq8x_) (v := ?vq8x_) [9, 10, 11, 12, 22, 33, 34, 36] ?hiq8x_ (by kernel_rfl) (by kernel_rfl) (by kernel_rfl) (by kernel_rfl) (by kernel_rfl) ?hQq8x_ (Or.inl ⟨?hwq8x_, ?hyq8x_⟩) (KS.out _ KT.out.b) ?restq8x_
      case hiq8x_ => (simp only [List.getElem?_toArray, List.getElem?_cons_zero, List.getElem?_cons_succ]; rfl)
      case hQq8x_ => exact fun _ _ _ h => h
      case hwq8x_ => rfl
      case hyq8x_ =>
        intro w' hSw
        obtain ⟨r0, r1, r2, r3, r4, r5, r6, r7, r8, r9, r10, r11, r12, r13, r14, r15, r16, r17⟩ := hSw
        go_simp
        try exact rfl
      try simp only [Act.put, List.setIfInBounds_toArray, List.set_cons_zero, List.set_cons_succ]
      refine wpLate_take (i := 9) (oi := ?oiq9x_) (v := ?vq9x_) [10, 11, 12, 22, 33, 34, 36] ?hiq9x_ (by kernel_rfl) (by kernel_rfl) (by kernel_rfl) (by kernel_rfl) (by kernel_rfl) ?hQq9x_ (Or.inl ⟨?hwq9x_, ?hyq9x_⟩) (KS.out _ KT.out.b) ?restq9x_
      case hiq9x_ => (simp only [List.getElem?_toArray, List.getElem?_cons_zero, List.getElem?_cons_succ]; rfl)
      case hQq9x_ => exact fun _ _ _ h => h
      case hwq9x_ => rfl
      case hyq9x_ =>
        intro w' hSw
        obtain ⟨r0, r1, r2, r3, r4, r5, r6, r7, r8, r9, r10, r11, r12, r13, r14, r15, r16, r17⟩ := hSw
        go_simp
        try exact rfl
      try simp only [Act.put, List.setIfInBounds_toArray, List.set_cons_zero, List.set_cons_succ]
      refine wpLate_take (i := 10) (oi := ?oiq10x_) (v := ?vq10x_) [11, 12, 22, 33, 34, 36] ?hiq10x_ (by kernel_rfl) (by kernel_rfl) (by kernel_rfl) (by kernel_rfl) (by kernel_rfl) ?hQq10x_ (Or.inl ⟨?hwq10x_, ?hyq10x_⟩) (KS.out _ KT.out.b) ?restq10x_
      case hiq10x_ => (simp only [List.getElem?_toArray, List.getElem?_cons_zero, List.getElem?_cons_succ]; rfl)
      case hQq10x_ => exact fun _ _ _ h => h
      case hwq10x_ => rfl
      case hyq10x_ =>
        intro w' hSw
        obtain ⟨r0, r1, r2, r3, r4, r5, r6, r7, r8, r9, r10, r11, r12, r13, r14, r15, r16, r17⟩ := hSw
        go_simp
        try exact rfl
      try simp only [Act.put, List.setIfInBounds_toArray, List.set_cons_zero, List.set_cons_succ]
      refine wpLate_take (i := 11) (oi := ?oiq11x_) (v := ?vq11x_) [12, 22, 33, 34, 36] ?hiq11x_ (by kernel_rfl) (by kernel_rfl) (by kernel_rfl) (by kernel_rfl) (by kernel_rfl) ?hQq11x_ (Or.inl ⟨?hwq11x_, ?hyq11x_⟩) (KS.out _ KT.out.b) ?restq11x_
      case hiq11x_ => (simp only [List.getElem?_toArray, List.getElem?_cons_zero, List.getElem?_cons_succ]; rfl)
      case hQq11x_ => exact fun _ _ _ h => h
      case hwq11x_ => rfl
      case hyq11x_ =>
        intro w' hSw
        obtain ⟨r0, r1, r2, r3, r4, r5, r6, r7, r8, r9, r10, r11, r12, r13, r14, r15, r16, r17⟩ := hSw
        go_simp
        try exact rfl
      try simp only [Act.put, List.setIfInBounds_toArray, List.set_cons_zero, List.set_cons_succ]
      refine wpLate_take (i := 13) (oi := ?oiq13x_) (v := ?vq13x_) [22, 33, 34, 36] ?hiq13x_ (by kernel_rfl) (by kernel_rfl) (by kernel_rfl) (by kernel_rfl) (by kernel_rfl) ?hQq13x_ (Or.inl ⟨?hwq13x_, ?hyq13x_⟩) (KS.out _ KT.out.b) ?restq13x_
      case hiq13x_ => (simp only [List.getElem?_toArray, List.getElem?_cons_zero, List.getElem?_cons_succ]; rfl)
      case hQq13x_ => exact fun _ _ _ h => h
      case hwq13x_ => rfl
      case hyq13x_ =>
        intro w' hSw
        obtain ⟨r0, r1, r2, r3, r4, r5, r6, r7, r8, r9, r10, r11, r12, r13, r14, r15, r16, r17⟩ := hSw
        go_simp
        try exact rfl
      try simp only [Act.put, List.setIfInBounds_toArray, List.set_cons_zero, List.set_cons_succ]
      refine wpLate_take (i := 14) (oi := ?oiq14x_) (v := ?vq14x_) [20, 21, 22, 33, 34, 36] ?hiq14x_ (by kernel_rfl) (by kernel_rfl) (by kernel_rfl) (by kernel_rfl) (by kernel_rfl) ?hQq14x_ (Or.inl ⟨?hwq14x_, ?hyq14x_⟩) (KS.out _ KT.out.b) ?restq14x_
      case hiq14x_ => (simp only [List.getElem?_toArray, List.getElem?_cons_zero, List.getElem?_cons_succ]; rfl)
      case hQq14x_ => exact fun _ _ _ h => h
      case hwq14x_ => rfl
      case hyq14x_ =>
        intro w' hSw
        obtain ⟨r0, r1, r2, r3, r4, r5, r6, r7, r8, r9, r10, r11, r12, r13, r14, r15, r16, r17⟩ := hSw
        go_simp
        try exact rfl
      try simp only [Act.put, List.setIfInBounds_toArray, List.set_cons_zero, List.set_cons_succ]
      refine wpLate_take (i := 15) (oi := ?oiq15x_) (v := ?vq15x_) [16, 19, 20, 21, 22, 33, 34, 36] ?hiq15x_ (by kernel_rfl) (by kernel_rfl) (by kernel_rfl) (by kernel_rfl) (by kernel_rfl) ?hQq15x_ (Or.inl ⟨?hwq15x_, ?hyq15x_⟩) (KS.out _ KT.out.b) ?restq15x_
      case hiq15x_ => (simp only [List.getElem?_toArray, List.getElem?_cons_zero, List.getElem?_cons_succ]; rfl)
      case hQq15x_ => exact fun _ _ _ h => h
      case hwq15x_ => rfl
      case hyq15x_ =>
        intro w' hSw
        obtain ⟨r0, r1, r2, r3, r4, r5, r6, r7, r8, r9, r10, r11, r12, r13, r14, r15, r16, r17⟩ := hSw
        go_simp
        try exact rfl
      try simp only [Act.put, List.setIfInBounds_toArray, List.set_cons_zero, List.set_cons_succ]
      refine wpLate_take (i := 16) (oi := ?oiq16x_) (v := ?vq16x_) [19, 20, 21, 22, 33, 34, 36] ?hiq16x_ (by kernel_rfl) (by kernel_rfl) (by kernel_rfl) (by kernel_rfl) (by kernel_rfl) ?hQq16x_ (Or.inl ⟨?hwq16x_, ?hyq16x_⟩) (KS.out _ KT.out.b) ?restq16x_
      case hiq16x_ => (simp only [List.getElem?_toArray, List.getElem?_cons_zero, List.getElem?_cons_succ]; rfl)
      case hQq16x_ => exact fun _ _ _ h => h
      case hwq16x_ => rfl
      case hyq16x_ =>
        intro w' hSw
        obtain ⟨r0, r1, r2, r3, r4, r5, r6, r7, r8, r9, r10, r11, r12, r13, r14, r15, r16, r17⟩ := hSw
        go_simp
        try exact rfl
      try simp only [Act.put, List.setIfInBounds_toArray, List.set_cons_zero, List.set_cons_succ]
      refine wpLate_take (i := 17) (oi := ?oiq17x_) (v := ?vq17x_) [18, 19, 20, 21, 22, 33, 34, 36] ?hiq17x_ (by kernel_rfl) (by kernel_rfl) (by kernel_rfl) (by kernel_rfl) (by kernel_rfl) ?hQq17x_ (Or.inl ⟨?hwq17x_, ?hyq17x_⟩) (KS.out _ KT.out.b) ?restq17x_
      case hiq17x_ => (simp only [List.getElem?_toArray, List.getElem?_cons_zero, List.getElem?_cons_succ]; rfl)
      case hQq17x_ => exact fun _ _ _ h => h
      case hwq17x_ => rfl
      case hyq17x_ =>
        intro w' hSw
        obtain ⟨r0, r1, r2, r3, r4, r5, r6, r7, r8, r9, r10, r11, r12, r13, r14, r15, r16, r17⟩ := hSw
        go_simp
        try exact rfl
      try simp only [Act.put, List.setIfInBounds_toArray, List.set_cons_zero, List.set_cons_succ]
      refine wpLate_take (i := 18) (oi := ?oiq18x_) (v := ?vq18x_) [19, 20, 21, 22, 33, 34, 36] ?hiq18x_ (by kernel_rfl) (by kernel_rfl) (by kernel_rfl) (by kernel_rfl) (by kernel_rfl) ?hQq18x_ (Or.inl ⟨?hwq18x_, ?hyq18x_⟩) (KS.out _ KT.out.b) ?restq18x_
      case hiq18x_ => (simp only [List.getElem?_toArray, List.getElem?_cons_zero, List.getElem?_cons_succ]; rfl)
      case hQq18x_ => exact fun _ _ _ h => h
      case hwq18x_ => rfl
      case hyq18x_ =>
        intro w' hSw
        obtain ⟨r0, r1, r2, r3, r4, r5, r6, r7, r8, r9, r10, r11, r12, r13, r14, r15, r16, r17⟩ := hSw
        go_simp
        try exact rfl
      try simp only [Act.put, List.setIfInBounds_toArray, List.set_cons_zero, List.set_cons_succ]
      refine wpLate_take (i := 19) (oi := ?oiq19x_) (v := ?vq19x_) [20, 21, 22, 33, 34, 36] ?hiq19x_ (by kernel_rfl) (by kernel_rfl) (by kernel_rfl) (by kernel_rfl) (by kernel_rfl) ?hQq19x_ (Or.inl ⟨?hwq19x_, ?hyq19x_⟩) (KS.out _ KT.out.b) ?restq19x_
      case hiq19x_ => (simp only [List.getElem?_toArray, List.getElem?_cons_zero, List.getElem?_cons_succ]; rfl)
      case hQq19x_ => exact fun _ _ _ h => h
      case hwq19x_ => rfl
      case hyq19x_ =>
        intro w' hSw
        obtain ⟨r0, r1, r2, r3, r4, r5, r6, r7, r8, r9, r10, r11, r12, r13, r14, r15, r16, r17⟩ := hSw
        go_simp
        try exact rfl
      try simp only [Act.put, List.setIfInBounds_toArray, List.set_cons_zero, List.set_cons_succ]
      refine wpLate_take (i := 20) (oi := ?oiq20x_) (v := ?vq20x_) [21, 22, 33, 34, 36] ?hiq20x_ (by kernel_rfl) (by kernel_rfl) (by kernel_rfl) (by kernel_rfl) (by kernel_rfl) ?hQq20x_ (Or.inl ⟨?hwq20x_, ?hyq20x_⟩) (KS.out _ KT.out.b) ?restq20x_
      case hiq20x_ => (simp only [List.getElem?_toArray, List.getElem?_cons_zero, List.getElem?_cons_succ]; rfl)
      case hQq20x_ => exact fun _ _ _ h => h
      case hwq20x_ => rfl
      case hyq20x_ =>
        intro w' hSw
        obtain ⟨r0, r1, r2, r3, r4, r5, r6, r7, r8, r9, r10, r11, r12, r13, r14, r15, r16, r17⟩ := hSw
        go_simp
        try exact rfl
      try simp only [Act.put, List.setIfInBounds_toArray, List.set_cons_zero, List.set_cons_succ]
      refine wpLate_take (i := 21) (oi := ?oiq21x_) (v := ?vq21x_) [22, 33, 34, 36] ?hiq21x_ (by kernel_rfl) (by kernel_rfl) (by kernel_rfl) (by kernel_rfl) (by kernel_rfl) ?hQq21x_ (Or.inl ⟨?hwq21x_, ?hyq21x_⟩) (KS.out _ KT.out.b) ?restq21x_
      case hiq21x_ => (simp only [List.getElem?_toArray, List.getElem?_cons_zero, List.getElem?_cons_succ]; rfl)
      case hQq21x_ => exact fun _ _ _ h => h
      case hwq21x_ => rfl
      case hyq21x_ =>
        intro w' hSw
        obtain ⟨r0, r1, r2, r3, r4, r5, r6, r7, r8, r9, r10, r11, r12, r13, r14, r15, r16, r17⟩ := hSw
        go_simp
        try exact rfl
      try simp only [Act.put, List.setIfInBounds_toArray, List.set_cons_zero, List.set_cons_succ]
      refine wpLate_take (i := 23) (oi := ?oiq23x_) (v := ?vq23x_) [24, 33, 34, 36] ?hiq23x_ (by kernel_rfl) (by kernel_rfl) (by kernel_rfl) (by kernel_rfl) (by kernel_rfl) ?hQq23x_ (Or.inl ⟨?hwq23x_, ?hyq23x_⟩) (KS.out _ KT.out.b) ?restq23x_
      case hiq23x_ => (simp only [List.getElem?_toArray, List.getElem?_cons_zero, List.getElem?_cons_succ]; rfl)
      case hQq23x_ => exact fun _ _ _ h => h
      case hwq23x_ => rfl
      case hyq23x_ =>
        intro w' hSw
        obtain ⟨r0, r1, r2, r3, r4, r5, r6, r7, r8, r9, r10, r11, r12, r13, r14, r15, r16, r17⟩ := hSw
        go_simp
        try exact rfl
      try simp only [Act.put, List.setIfInBounds_toArray, List.set_cons_zero, List.set_cons_succ]
      refine wpLate_take (i := 24) (oi := ?oiq24x_) (v := ?vq24x_) [33, 34, 36] ?hiq24x_ (by kernel_rfl) (by kernel_rfl) (by kernel_rfl) (by kernel_rfl) (by kernel_rfl) ?hQq24x_ (Or.inl ⟨?hwq24x_, ?hyq24x_⟩) (KS.out _ KT.out.b) ?restq24x_
      case hiq24x_ => (simp only [List.getElem?_toArray, List.getElem?_cons_zero, List.getElem?_cons_succ]; rfl)
      case hQq24x_ => exact fun _ _ _ h => h
      case hwq24x_ => rfl
      case hyq24x_ =>
        intro w' hSw
        obtain ⟨r0, r1, r2, r3, r4, r5, r6, r7, r8, r9, r10, r11, r12, r13, r14, r15, r16, r17⟩ := hSw
        go_simp
        try exact rfl
      try simp only [Act.put, List.setIfInBounds_toArray, List.set_cons_zero, List.set_cons_succ]
      refine wpLate_take (i := 25) (oi := ?oiq25x_) (v := ?vq25x_) [31, 32, 33, 34, 36] ?hiq25x_ (by kernel_rfl) (by kernel_rfl) (by kernel_rfl) (by kernel_rfl) (by kernel_rfl) ?hQq25x_ (Or.inl ⟨?hwq25x_, ?hyq25x_⟩) (KS.out _ KT.out.b) ?restq25x_
      case hiq25x_ => (simp only [List.getElem?_toArray, List.getElem?_cons_zero, List.getElem?_cons_succ]; rfl)
      case hQq25x_ => exact fun _ _ _ h => h
      case hwq25x_ => rfl
      case hyq25x_ =>
        intro w' hSw
        obtain ⟨r0, r1, r2, r3, r4, r5, r6, r7, r8, r9, r10, r11, r12, r13, r14, r15, r16, r17⟩ := hSw
        go_simp
        try exact rfl
      try simp only [Act.put, List.setIfInBounds_toArray, List.set_cons_zero, List.set_cons_succ]
      refine wpLate_take (i := 26) (oi := ?oiq26x_) (v := ?vq26x_) [27, 30, 31, 32, 33, 34, 36] ?hiq26x_ (by kernel_rfl) (by kernel_rfl) (by kernel_rfl) (by kernel_rfl) (by kernel_rfl) ?hQq26x_ (Or.inl ⟨?hwq26x_, ?hyq26x_⟩) (KS.out _ KT.out.b) ?restq26x_
      case hiq26x_ => (simp only [List.getElem?_toArray, List.getElem?_cons_zero, List.getElem?_cons_succ]; rfl)
      case hQq26x_ => exact fun _ _ _ h => h
      case hwq26x_ => rfl
      case hyq26x_ =>
        intro w' hSw
        obtain ⟨r0, r1, r2, r3, r4, r5, r6, r7, r8, r9, r10, r11, r12, r13, r14, r15, r16, r17⟩ := hSw
        go_simp
        try exact rfl
      try simp only [Act.put, List.setIfInBounds_toArray, List.set_cons_zero, List.set_cons_succ]
      refine wpLate_take (i := 27) (oi := ?oiq27x_) (v := ?vq27x_) [30, 31, 32, 33, 34, 36] ?hiq27x_ (by kernel_rfl) (by kernel_rfl) (by kernel_rfl) (by kernel_rfl) (by kernel_rfl) ?hQq27x_ (Or.inl ⟨?hwq27x_, ?hyq27x_⟩) (KS.out _ KT.out.b) ?restq27x_
      case hiq27x_ => (simp only [List.getElem?_toArray, List.getElem?_cons_zero, List.getElem?_cons_succ]; rfl)
      case hQq27x_ => exact fun _ _ _ h => h
      case hwq27x_ => rfl
      case hyq27x_ =>
        intro w' hSw
        obtain ⟨r0, r1, r2, r3, r4, r5, r6, r7, r8, r9, r10, r11, r12, r13, r14, r15, r16, r17⟩ := hSw
        go_simp
        try exact rfl
      try simp only [Act.put, List.setIfInBounds_toArray, List.set_cons_zero, List.set_cons_succ]
      refine wpLate_take (i := 28) (oi := ?oiq28x_) (v := ?vq28x_) [29, 30, 31, 32, 33, 34, 36] ?hiq28x_ (by kernel_rfl) (by kernel_rfl) (by kernel_rfl) (by kernel_rfl) (by kernel_rfl) ?hQq28x_ (Or.inl ⟨?hwq28x_, ?hyq28x_⟩) (KS.out _ KT.out.b) ?restq28x_
      case hiq28x_ => (simp only [List.getElem?_toArray, List.getElem?_cons_zero, List.getElem?_cons_succ]; rfl)
      case hQq28x_ => exact fun _ _ _ h => h
      case hwq28x_ => rfl
      case hyq28x_ =>
        intro w' hSw
        obtain ⟨r0, r1, r2, r3, r4, r5, r6, r7, r8, r9, r10, r11, r12, r13, r14, r15, r16, r17⟩ := hSw
        go_simp
        try exact rfl
      try simp only [Act.put, List.setIfInBounds_toArray, List.set_cons_zero, List.set_cons_succ]
      refine wpLate_take (i := 29) (oi := ?oiq29x_) (v := ?vq29x_) [30, 31, 32, 33, 34, 36] ?hiq29x_ (by kernel_rfl) (by kernel_rfl) (by kernel_rfl) (by kernel_rfl) (by kernel_rfl) ?hQq29x_ (Or.inl ⟨?hwq29x_, ?hyq29x_⟩) (KS.out _ KT.out.b) ?restq29x_
      case hiq29x_ => (simp only [List.getElem?_toArray, List.getElem?_cons_zero, List.getElem?_cons_succ]; rfl)
      case hQq29x_ => exact fun _ _ _ h => h
      case hwq29x_ => rfl
      case hyq29x_ =>
        intro w' hSw
        obtain ⟨r0, r1, r2, r3, r4, r5, r6, r7, r8, r9, r10, r11, r12, r13, r14, r15, r16, r17⟩ := hSw
        go_simp
        try exact rfl
      try simp only [Act.put, List.setIfInBounds_toArray, List.set_cons_zero, List.set_cons_succ]
      refine wpLate_take (i := 30) (oi := ?oiq30x_) (v := ?vq30x_) [31, 32, 33, 34, 36] ?hiq30x_ (by kernel_rfl) (by kernel_rfl) (by kernel_rfl) (by kernel_rfl) (by kernel_rfl) ?hQq30x_ (Or.inl ⟨?hwq30x_, ?hyq30x_⟩) (KS.out _ KT.out.b) ?restq30x_
      case hiq30x_ => (simp only [List.getElem?_toArray, List.getElem?_cons_zero, List.getElem?_cons_succ]; rfl)
      case hQq30x_ => exact fun _ _ _ h => h
      case hwq30x_ => rfl
      case hyq30x_ =>
        intro w' hSw
        obtain ⟨r0, r1, r2, r3, r4, r5, r6, r7, r8, r9, r10, r11, r12, r13, r14, r15, r16, r17⟩ := hSw
        go_simp
        try exact rfl
      try simp only [Act.put, List.setIfInBounds_toArray, List.set_cons_zero, List.set_cons_succ]
      refine wpLate_take (i := 31) (oi := ?oiq31x_) (v := ?vq31x_) [32, 33, 34, 36] ?hiq31x_ (by kernel_rfl) (by kernel_rfl) (by kernel_rfl) (by kernel_rfl) (by kernel_rfl) ?hQq31x_ (Or.inl ⟨?hwq31x_, ?hyq31x_⟩) (KS.out _ KT.out.b) ?restq31x_
      case hiq31x_ => (simp only [List.getElem?_toArray, List.getElem?_cons_zero, List.getElem?_cons_succ]; rfl)
      case hQq31x_ => exact fun _ _ _ h => h
      case hwq31x_ => rfl
      case hyq31x_ =>
        intro w' hSw
        obtain ⟨r0, r1, r2, r3, r4, r5, r6, r7, r8, r9, r10, r11, r12, r13, r14, r15, r16, r17⟩ := hSw
        go_simp
        try exact rfl
      try simp only [Act.put, List.setIfInBounds_toArray, List.set_cons_zero, List.set_cons_succ]
      refine wpLate_take (i := 32) (oi := ?oiq32x_) (v := ?vq32x_) [33, 34, 36] ?hiq32x_ (by kernel_rfl) (by kernel_rfl) (by kernel_rfl) (by kernel_rfl) (by kernel_rfl) ?hQq32x_ (Or.inl ⟨?hwq32x_, ?hyq32x_⟩) (KS.out _ KT.out.b) ?restq32x_
      case hiq32x_ => (simp only [List.getElem?_toArray, List.getElem?_cons_zero, List.getElem?_cons_succ]; rfl)
      case hQq32x_ => exact fun _ _ _ h => h
      case hwq32x_ => rfl
      case hyq32x_ =>
        intro w' hSw
        obtain ⟨r0, r1, r2, r3, r4, r5, r6, r7, r8, r9, r10, r11, r12, r13, r14, r15, r16, r17⟩ := hSw
        go_simp
        try exact rfl
      try simp only [Act.put, List.setIfInBounds_toArray, List.set_cons_zero, List.set_cons_succ]
      refine wpLate_two (i := 12) (j := 35) (o := ?on1_12) (u := ?on1_35) (by kernel_rfl) ?hon1_12 ?hon1_35 ?hkn1_12 ?hkn1_35
      case hon1_12 => (simp only [List.getElem?_toArray, List.getElem?_cons_zero, List.getElem?_cons_succ]; rfl)
      case hon1_35 => (simp only [List.getElem?_toArray, List.getElem?_cons_zero, List.getElem?_cons_succ]; rfl)
      case hkn1_12 =>
        intro K hK
        go_simp
        refine (PP1.out _).mono ?_
        rintro r w102 ⟨rfl, hbs⟩
        replace KT := Lib.hid (KT.out.call hbs)
        clear hbs
        go_simp
        refine hK.out _ _ (fun _ => KS.out _ KT.out.b) ?_
        clear hK K
        try simp only [Act.put, List.setIfInBounds_toArray, List.set_cons_zero, List.set_cons_succ]
        refine wpLate_two (i := 22) (j := 35) (o := ?on3_22) (u := ?on3_35) (by kernel_rfl) ?hon3_22 ?hon3_35 ?hkn3_22 ?hkn3_35
        case hon3_22 => (simp only [List.getElem?_toArray, List.getElem?_cons_zero, List.getElem?_cons_succ]; rfl)
        case hon3_35 => (simp only [List.getElem?_toArray, List.getElem?_cons_zero, List.getElem?_cons_succ]; rfl)
        case hkn3_22 =>
          intro K hK
          go_simp
          refine (PP2.out _).mono ?_
          rintro r w104 ⟨rfl, hbs⟩
          replace KT := Lib.hid (KT.out.call hbs)
          clear hbs
          go_simp
          refine hK.out _ _ (fun _ => KS.out _ KT.out.b) ?_
          clear hK K
          try simp only [Act.put, List.setIfInBounds_toArray, List.set_cons_zero, List.set_cons_succ]
          refine wpLate_two (i := 33) (j := 35) (o := ?on5_33) (u := ?on5_35) (by kernel_rfl) ?hon5_33 ?hon5_35 ?hkn5_33 ?hkn5_35
          case hon5_33 => (simp only [List.getElem?_toArray, List.getElem?_cons_zero, List.getElem?_cons_succ]; rfl)
          case hon5_35 => (simp only [List.getElem?_toArray, List.getElem?_cons_zero, List.getElem?_cons_succ]; rfl)
          case hkn5_33 =>
            intro K hK
            go_simp
            refine (PP3.out _).mono ?_
            rintro r w106 ⟨rfl, hbs⟩
            replace KT := Lib.hid (KT.out.call hbs)
            clear hbs
            go_simp
            refine hK.out _ _ (fun _ => KS.out _ KT.out.b) ?_
            clear hK K
            try simp only [Act.put, List.setIfInBounds_toArray, List.set_cons_zero, List.set_cons_succ]
            refine wpLate_two (i := 34) (j := 35) (o := ?on7_34) (u := ?on7_35) (by kernel_rfl) ?hon7_34 ?hon7_35 ?hkn7_34 ?hkn7_35
            case hon7_34 => (simp only [List.getElem?_toArray, List.getElem?_cons_zero, List.getElem?_cons_succ]; rfl)
            case hon7_35 => (simp only [List.getElem?_toArray, List.getElem?_cons_zero, List.getElem?_cons_succ]; rfl)
            case hkn7_34 =>
              intro K hK
              go_simp
              refine (PD.out _ (KX.out.step KT.out.b).t.l.ar).mono ?_
              rintro r w108 ⟨rfl, hbs⟩
              replace KT := Lib.hid (KT.out.call hbs)
              clear hbs
              go_simp
              refine hK.out _ _ (fun _ => KS.out _ KT.out.b) ?_
              clear hK K
              try simp only [Act.put, List.setIfInBounds_toArray, List.set_cons_zero, List.set_cons_succ]
              refine wpLate_one (i := 35) (o := ?on9_35) (by kernel_rfl) ?hon9_35 ?hkn9_35
              case hon9_35 => (simp only [List.getElem?_toArray, List.getElem?_cons_zero, List.getElem?_cons_succ]; rfl)
              intro K hK
              go_simp
              replace KT := Lib.hid (KT.out.al1)
              refine hK.out _ _ (fun _ => KS.out _ KT.out.b) ?_
              clear hK K
              obtain ⟨D6, hDn⟩ : ∃ D, D = (World.heap w108).size := ⟨_, rfl⟩
              rw [← hDn] at KT ⊢
              clear hDn
              generalize World.alloc w108 (.cells z5 48) = w110 at KT ⊢
              try simp only [Act.put, List.setIfInBounds_toArray, List.set_cons_zero, List.set_cons_succ]
              have x0 : World.cell? w110 ⟨D6, 0, none⟩ = some (.int .i64 0) := (KT.out.d1 _ rfl).2.cell 0
              have x1 : World.cell? w110 ⟨D6, 1, none⟩ = some (.int .i64 0) := (KT.out.d1 _ rfl).2.cell 1
              have x2 : World.cell? w110 ⟨D6, 2, none⟩ = some (.int .i64 0) := (KT.out.d1 _ rfl).2.cell 2
              have x3 : World.cell? w110 ⟨D6, 3, none⟩ = some (.int .i64 0) := (KT.out.d1 _ rfl).2.cell 3
              have x4 : World.cell? w110 ⟨D6, 4, none⟩ = some (.int .i64 0) := (KT.out.d1 _ rfl).2.cell 4
              have xf := (KT.out.d1 _ rfl).2.frozen
              have xl := (KT.out.d1 _ rfl).2.lt
              refine wpLate_one (i := 36) (o := ?of11_36) (by kernel_rfl) ?hof11_36 ?hkf11_36
              case hof11_36 => (simp only [List.getElem?_toArray, List.getElem?_cons_zero, List.getElem?_cons_succ]; rfl)
              intro K hK
              go_simp
              have KF := Lib.hid (KT.out.one1 Y)
              refine hK.out _ _ (fun h => absurd h (by decide)) ?_
              clear hK K x0 x1 x2 x3 x4 xf xl
              refine (show wpLate _ _ _ _ _ _ _ _ _ (put5 w110 D6 Y) from ?_)
              generalize put5 w110 D6 Y = w3 at KF ⊢
              try simp only [Act.put, List.setIfInBounds_toArray, List.set_cons_zero, List.set_cons_succ]
              refine wpLate_done (by kernel_rfl) ?_ _
              try simp only [Act.put, List.setIfInBounds_toArray, List.set_cons_zero, List.set_cons_succ]
              have KY := Lib.hid (And.intro (KX.out.step KF.out.1) KF.out.2.2)
              have hD36 : D3 ≠ D6 := by have h1 := KX.out.t.b4.lt; have h2 := KF.out.2.1; omega
              clear KF KT KS KX
              go_wp2_with fail
              go_meet
              exact ⟨_, rfl, Lib.hid ⟨KY.out, hD36⟩⟩
            case hkn7_35 =>
              intro K hK
              go_simp
              replace KT := Lib.hid (KT.out.al1)
              refine hK.out _ _ (fun _ => KS.out _ KT.out.b) ?_
              clear hK K
              obtain ⟨D6, hDn⟩ : ∃ D, D = (World.heap w106).size := ⟨_, rfl⟩
              rw [← hDn] at KT ⊢
              clear hDn
              generalize World.alloc w106 (.cells z5 48) = w112 at KT ⊢
              try simp only [Act.put, List.setIfInBounds_toArray, List.set_cons_zero, List.set_cons_succ]
              refine wpLate_one (i := 34) (o := ?on13_34) (by kernel_rfl) ?hon13_34 ?hkn13_34
              case hon13_34 => (simp only [List.getElem?_toArray, List.getElem?_cons_zero, List.getElem?_cons_succ]; rfl)
              intro K hK
              go_simp
              refine (PD.out _ (KX.out.step KT.out.b).t.l.ar).mono ?_
              rintro r w114 ⟨rfl, hbs⟩
              replace KT := Lib.hid (KT.out.call hbs)
              clear hbs
              go_simp
              refine hK.out _ _ (fun _ => KS.out _ KT.out.b) ?_
              clear hK K
              try simp only [Act.put, List.setIfInBounds_toArray, List.set_cons_zero, List.set_cons_succ]
              have x0 : World.cell? w114 ⟨D6, 0, none⟩ = some (.int .i64 0) := (KT.out.d1 _ rfl).2.cell 0
              have x1 : World.cell? w114 ⟨D6, 1, none⟩ = some (.int .i64 0) := (KT.out.d1 _ rfl).2.cell 1
              have x2 : World.cell? w114 ⟨D6, 2, none⟩ = some (.int .i64 0) := (KT.out.d1 _ rfl).2.cell 2
              have x3 : World.cell? w114 ⟨D6, 3, none⟩ = some (.int .i64 0) := (KT.out.d1 _ rfl).2.cell 3
              have x4 : World.cell? w114 ⟨D6, 4, none⟩ = some (.int .i64 0) := (KT.out.d1 _ rfl).2.cell 4
              have xf := (KT.out.d1 _ rfl).2.frozen
              have xl := (KT.out.d1 _ rfl).2.lt
              refine wpLate_one (i := 36) (o := ?of15_36) (by kernel_rfl) ?hof15_36 ?hkf15_36
              case hof15_36 => (simp only [List.getElem?_toArray, List.getElem?_cons_zero, List.getElem?_cons_succ]; rfl)
              intro K hK
              go_simp
              have KF := Lib.hid (KT.out.one1 Y)
              refine hK.out _ _ (fun h => absurd h (by decide)) ?_
              clear hK K x0 x1 x2 x3 x4 xf xl
              refine (show wpLate _ _ _ _ _ _ _ _ _ (put5 w114 D6 Y) from ?_)
              generalize put5 w114 D6 Y = w3 at KF ⊢
              try simp only [Act.put, List.setIfInBounds_toArray, List.set_cons_zero, List.set_cons_succ]
              refine wpLate_done (by kernel_rfl) ?_ _
              try simp only [Act.put, List.setIfInBounds_toArray, List.set_cons_zero, List.set_cons_succ]
              have KY := Lib.hid (And.intro (KX.out.step KF.out.1) KF.out.2.2)
              have hD36 : D3 ≠ D6 := by have h1 := KX.out.t.b4.lt; have h2 := KF.out.2.1; omega
              clear KF KT KS KX
              go_wp2_with fail
              go_meet
              exact ⟨_, rfl, Lib.hid ⟨KY.out, hD36⟩⟩
          case hkn5_35 =>
            intro K hK
            go_simp
            replace KT := Lib.hid (KT.out.al1)
            refine hK.out _ _ (fun _ => KS.out _ KT.out.b) ?_
            clear hK K
            obtain ⟨D6, hDn⟩ : ∃ D, D = (World.heap w104).size := ⟨_, rfl⟩
            rw [← hDn] at KT ⊢
            clear hDn
            generalize World.alloc w104 (.cells z5 48) = w116 at KT ⊢
            try simp only [Act.put, List.setIfInBounds_toArray, List.set_cons_zero, List.set_cons_succ]
            refine wpLate_one (i := 33) (o := ?on17_33) (by kernel_rfl) ?hon17_33 ?hkn17_33
            case hon17_33 => (simp only [List.getElem?_toArray, List.getElem?_cons_zero, List.getElem?_cons_succ]; rfl)
            intro K hK
            go_simp
            refine (PP3.out _).mono ?_
            rintro r w118 ⟨rfl, hbs⟩
            replace KT := Lib.hid (KT.out.call hbs)
            clear hbs
            go_simp
            refine hK.out _ _ (fun _ => KS.out _ KT.out.b) ?_
            clear hK K
            try simp only [Act.put, List.setIfInBounds_toArray, List.set_cons_zero, List.set_cons_succ]
            refine wpLate_one (i := 34) (o := ?on19_34) (by kernel_rfl) ?hon19_34 ?hkn19_34
            case hon19_34 => (simp only [List.getElem?_toArray, List.getElem?_cons_zero, List.getElem?_cons_succ]; rfl)
            intro K hK
            go_simp
            refine (PD.out _ (KX.out.step KT.out.b).t.l.ar).mono ?_
            rintro r w120 ⟨rfl, hbs⟩
            replace KT := Lib.hid (KT.out.call hbs)
            clear hbs
            go_simp
            refine hK.out _ _ (fun _ => KS.out _ KT.out.b) ?_
            clear hK K
            try simp only [Act.put, List.setIfInBounds_toArray, List.set_cons_zero, List.set_cons_succ]
            have x0 : World.cell? w120 ⟨D6, 0, none⟩ = some (.int .i64 0) := (KT.out.d1 _ rfl).2.cell 0
            have x1 : World.cell? w120 ⟨D6, 1, none⟩ = some (.int .i64 0) := (KT.out.d1 _ rfl).2.cell 1
            have x2 : World.cell? w120 ⟨D6, 2, none⟩ = some (.int .i64 0) := (KT.out.d1 _ rfl).2.cell 2
            have x3 : World.cell? w120 ⟨D6, 3, none⟩ = some (.int .i64 0) := (KT.out.d1 _ rfl).2.cell 3
            have x4 : World.cell? w120 ⟨D6, 4, none⟩ = some (.int .i64 0) := (KT.out.d1 _ rfl).2.cell 4
            have xf := (KT.out.d1 _ rfl).2.frozen
            have xl := (KT.out.d1 _ rfl).2.lt
            refine wpLate_one (i := 36) (o := ?of21_36) (by kernel_rfl) ?hof21_36 ?hkf21_36
            case hof21_36 => (simp only [List.getElem?_toArray, List.getElem?_cons_zero, List.getElem?_cons_succ]; rfl)
            intro K hK
            go_simp
            have KF := Lib.hid (KT.out.one1 Y)
            refine hK.out _ _ (fun h => absurd h (by decide)) ?_
            clear hK K x0 x1 x2 x3 x4 xf xl
            refine (show wpLate _ _ _ _ _ _ _ _ _ (put5 w120 D6 Y) from ?_)
            generalize put5 w120 D6 Y = w3 at KF ⊢
            try simp only [Act.put, List.setIfInBounds_toArray, List.set_cons_zero, List.set_cons_succ]
            refine wpLate_done (by kernel_rfl) ?_ _
            try simp only [Act.put, List.setIfInBounds_toArray, List.set_cons_zero, List.set_cons_succ]
            have KY := Lib.hid (And.intro (KX.out.step KF.out.1) KF.out.2.2)
            have hD36 : D3 ≠ D6 := by have h1 := KX.out.t.b4.lt; have h2 := KF.out.2.1; omega
            clear KF KT KS KX
            go_wp2_with fail
            go_meet
            exact ⟨_, rfl, Lib.hid ⟨KY.out, hD36⟩⟩
        case hkn3_35 =>
          intro K hK
          go_simp
          replace KT := Lib.hid (KT.out.al1)
          refine hK.out _ _ (fun _ => KS.out _ KT.out.b) ?_
          clear hK K
          obtain ⟨D6, hDn⟩ : ∃ D, D = (World.heap w102).size := ⟨_, rfl⟩
          rw [← hDn] at KT ⊢
          clear hDn
          generalize World.alloc w102 (.cells z5 48) = w122 at KT ⊢
          try simp only [Act.put, List.setIfInBounds_toArray, List.set_cons_zero, List.set_cons_succ]
          refine wpLate_one (i := 22) (o := ?on23_22) (by kernel_rfl) ?hon23_22 ?hkn23_22
          case hon23_22 => (simp only [List.getElem?_toArray, List.getElem?_cons_zero, List.getElem?_cons_succ]; rfl)
          intro K hK
          go_simp
          refine (PP2.out _).mono ?_
          rintro r w124 ⟨rfl, hbs⟩
          replace KT := Lib.hid (KT.out.call hbs)
          clear hbs
          go_simp
          refine hK.out _ _ (fun _ => KS.out _ KT.out.b) ?_
          clear hK K
          try simp only [Act.put, List.setIfInBounds_toArray, List.set_cons_zero, List.set_cons_succ]
          refine wpLate_one (i := 33) (o := ?on25_33) (by kernel_rfl) ?hon25_33 ?hkn25_33
          case hon25_33 => (simp only [List.getElem?_toArray, List.getElem?_cons_zero, List.getElem?_cons_succ]; rfl)
          intro K hK
          go_simp
          refine (PP3.out _).mono ?_
          rintro r w126 ⟨rfl, hbs⟩
          replace KT := Lib.hid (KT.out.call hbs)
          clear hbs
          go_simp
          refine hK.out _ _ (fun _ => KS.out _ KT.out.b) ?_
          clear hK K
          try simp only [Act.put, List.setIfInBounds_toArray, List.set_cons_zero, List.set_cons_succ]
          refine wpLate_one (i := 34) (o := ?on27_34) (by kernel_rfl) ?hon27_34 ?hkn27_34
          case hon27_34 => (simp only [List.getElem?_toArray, List.getElem?_cons_zero, List.getElem?_cons_succ]; rfl)
          intro K hK
          go_simp
          refine (PD.out _ (KX.out.step KT.out.b).t.l.ar).mono ?_
          rintro r w128 ⟨rfl, hbs⟩
          replace KT := Lib.hid (KT.out.call hbs)
          clear hbs
          go_simp
          refine hK.out _ _ (fun _ => KS.out _ KT.out.b) ?_
          clear hK K
          try simp only [Act.put, List.setIfInBounds_toArray, List.set_cons_zero, List.set_cons_succ]
          have x0 : World.cell? w128 ⟨D6, 0, none⟩ = some (.int .i64 0) := (KT.out.d1 _ rfl).2.cell 0
          have x1 : World.cell? w128 ⟨D6, 1, none⟩ = some (.int .i64 0) := (KT.out.d1 _ rfl).2.cell 1
          have x2 : World.cell? w128 ⟨D6, 2, none⟩ = some (.int .i64 0) := (KT.out.d1 _ rfl).2.cell 2
          have x3 : World.cell? w128 ⟨D6, 3, none⟩ = some (.int .i64 0) := (KT.out.d1 _ rfl).2.cell 3
          have x4 : World.cell? w128 ⟨D6, 4, none⟩ = some (.int .i64 0) := (KT.out.d1 _ rfl).2.cell 4
          have xf := (KT.out.d1 _ rfl).2.frozen
          have xl := (KT.out.d1 _ rfl).2.lt
          refine wpLate_one (i := 36) (o := ?of29_36) (by kernel_rfl) ?hof29_36 ?hkf29_36
          case hof29_36 => (simp only [List.getElem?_toArray, List.getElem?_cons_zero, List.getElem?_cons_succ]; rfl)
          intro K hK
          go_simp
          have KF := Lib.hid (KT.out.one1 Y)
          refine hK.out _ _ (fun h => absurd h (by decide)) ?_
          clear hK K x0 x1 x2 x3 x4 xf xl
          refine (show wpLate _ _ _ _ _ _ _ _ _ (put5 w128 D6 Y) from ?_)
          generalize put5 w128 D6 Y = w3 at KF ⊢
          try simp only [Act.put, List.setIfInBounds_toArray, List.set_cons_zero, List.set_cons_succ]
          refine wpLate_done (by kernel_rfl) ?_ _
          try simp only [Act.put, List.setIfInBounds_toArray, List.set_cons_zero, List.set_cons_succ]
          have KY := Lib.hid (And.intro (KX.out.step KF.out.1) KF.out.2.2)
          have hD36 : D3 ≠ D6 := by have h1 := KX.out.t.b4.lt; have h2 := KF.out.2.1; omega
          clear KF KT KS KX
          go_wp2_with fail
          go_meet
          exact ⟨_, rfl, Lib.hid ⟨KY.out, hD36⟩⟩
      case hkn1_35 =>
        intro K hK
        go_simp
        replace KT := Lib.hid (KT.out.al1)
        refine hK.out _ _ (fun _ => KS.out _ KT.out.b) ?_
        clear hK K
        obtain ⟨D6, hDn⟩ : ∃ D, D = (World.heap wd).size := ⟨_, rfl⟩
        rw [← hDn] at KT ⊢
        clear hDn
        generalize World.alloc wd (.cells z5 48) = w130 at KT ⊢
        try simp only [Act.put, List.setIfInBounds_toArray, List.set_cons_zero, List.set_cons_succ]
        refine wpLate_one (i := 12) (o := ?on31_12) (by kernel_rfl) ?hon31_12 ?hkn31_12
        case hon31_12 => (simp only [List.getElem?_toArray, List.getElem?_cons_zero, List.getElem?_cons_succ]; rfl)
        intro K hK
        go_simp
        refine (PP1.out _).mono ?_
        rintro r w132 ⟨rfl, hbs⟩
        replace KT := Lib.hid (KT.out.call hbs)
        clear hbs
        go_simp
        refine hK.out _ _ (fun _ => KS.out _ KT.out.b) ?_
        clear hK K
        try simp only [Act.put, List.setIfInBounds_toArray, List.set_cons_zero, List.set_cons_succ]
        refine wpLate_one (i := 22) (o := ?on33_22) (by kernel_rfl) ?hon33_22 ?hkn33_22
        case hon33_22 => (simp only [List.getElem?_toArray, List.getElem?_cons_zero, List.getElem?_cons_succ]; rfl)
        intro K hK
        go_simp
        refine (PP2.out _).mono ?_
        rintro r w134 ⟨rfl, hbs⟩
        replace KT := Lib.hid (KT.out.call hbs)
        clear hbs
        go_simp
        refine hK.out _ _ (fun _ => KS.out _ KT.out.b) ?_
        clear hK K
        try simp only [Act.put, List.setIfInBounds_toArray, List.set_cons_zero, List.set_cons_succ]
        refine wpLate_one (i := 33) (o := ?on35_33) (by kernel_rfl) ?hon35_33 ?hkn35_33
        case hon35_33 => (simp only [List.getElem?_toArray, List.getElem?_cons_zero, List.getElem?_cons_succ]; rfl)
        intro K hK
        go_simp
        refine (PP3.out _).mono ?_
        rintro r w136 ⟨rfl, hbs⟩
        replace KT := Lib.hid (KT.out.call hbs)
        clear hbs
        go_simp
        refine hK.out _ _ (fun _ => KS.out _ KT.out.b) ?_
        clear hK K
        try simp only [Act.put, List.setIfInBounds_toArray, List.set_cons_zero, List.set_cons_succ]
        refine wpLate_one (i := 34) (o := ?on37_34) (by kernel_rfl) ?hon37_34 ?hkn37_34
        case hon37_34 => (simp only [List.getElem?_toArray, List.getElem?_cons_zero, List.getElem?_cons_succ]; rfl)
        intro K hK
        go_simp
        refine (PD.out _ (KX.out.step KT.out.b).t.l.ar).mono ?_
        rintro r w138 ⟨rfl, hbs⟩
        replace KT := Lib.hid (KT.out.call hbs)
        clear hbs
        go_simp
        refine hK.out _ _ (fun _ => KS.out _ KT.out.b) ?_
        clear hK K
        try simp only [Act.put, List.setIfInBounds_toArray, List.set_cons_zero, List.set_cons_succ]
        have x0 : World.cell? w138 ⟨D6, 0, none⟩ = some (.int .i64 0) := (KT.out.d1 _ rfl).2.cell 0
        have x1 : World.cell? w138 ⟨D6, 1, none⟩ = some (.int .i64 0) := (KT.out.d1 _ rfl).2.cell 1
        have x2 : World.cell? w138 ⟨D6, 2, none⟩ = some (.int .i64 0) := (KT.out.d1 _ rfl).2.cell 2
        have x3 : World.cell? w138 ⟨D6, 3, none⟩ = some (.int .i64 0) := (KT.out.d1 _ rfl).2.cell 3
        have x4 : World.cell? w138 ⟨D6, 4, none⟩ = some (.int .i64 0) := (KT.out.d1 _ rfl).2.cell 4
        have xf := (KT.out.d1 _ rfl).2.frozen
        have xl := (KT.out.d1 _ rfl).2.lt
        refine wpLate_one (i := 36) (o := ?of39_36) (by kernel_rfl) ?hof39_36 ?hkf39_36
        case hof39_36 => (simp only [List.getElem?_toArray, List.getElem?_cons_zero, List.getElem?_cons_succ]; rfl)
        intro K hK
        go_simp
        have KF := Lib.hid (KT.out.one1 Y)
        refine hK.out _ _ (fun h => absurd h (by decide)) ?_
        clear hK K x0 x1 x2 x3 x4 xf xl
        refine (show wpLate _ _ _ _ _ _ _ _ _ (put5 w138 D6 Y) from ?_)
        generalize put5 w138 D6 Y = w3 at KF ⊢
        try simp only [Act.put, List.setIfInBounds_toArray, List.set_cons_zero, List.set_cons_succ]
        refine wpLate_done (by kernel_rfl) ?_ _
        try simp only [Act.put, List.setIfInBounds_toArray, List.set_cons_zero, List.set_cons_succ]
        have KY := Lib.hid (And.intro (KX.out.step KF.out.1) KF.out.2.2)
        have hD36 : D3 ≠ D6 := by have h1 := KX.out.t.b4.lt; have h2 := KF.out.2.1; omega
        clear KF KT KS KX
        go_wp2_with fail
        go_meet
        exact ⟨_, rfl, Lib.hid ⟨KY.out, hD36⟩⟩
    obtain ⟨D6, rfl, HX⟩ := hcut
    rename World => wx
    clear e1 e2 e3 e4 e5 e6 e7 e8 hj1 hj2 hj3 KX KS
    have hf3 : f3 = 0 ∨ f3 = 4 := by
      have h := HF.out
      unfold fogR at h
      rw [if_pos HK.out] at h
      split at h
      · cases h; exact .inr rfl
      · cases h; exact .inl rfl
    obtain ⟨⟨hqw1, hqw2⟩, ⟨q1, q2, q3, q4, q5, q6, q7, q8⟩, ⟨hyw1, hyw2⟩, ⟨y1, y2, y3, y4, y5, y6, y7, y8⟩, hyho⟩ := HQB.out
    have d0 : wx.cell? ⟨D6, 0, none⟩ = some (.int .i64 Y.w) := HX.out.1.2.cell 0
    have d1 : wx.cell? ⟨D6, 1, none⟩ = some (.int .i64 Y.came) := HX.out.1.2.cell 1
    have d2 : wx.cell? ⟨D6, 2, none⟩ = some (.int .i64 Y.out) := HX.out.1.2.cell 2
    have d3 : wx.cell? ⟨D6, 3, none⟩ = some (.int .i64 Y.dried) := HX.out.1.2.cell 3
    have d4 : wx.cell? ⟨D6, 4, none⟩ = some (.int .i64 Y.dew) := HX.out.1.2.cell 4
    have z0 : wx.cell? ⟨D3, 0, none⟩ = some (.int .i64 0) := HX.out.1.1.t.b4.cell 0
    have z1 : wx.cell? ⟨D3, 1, none⟩ = some (.int .i64 q.came) := HX.out.1.1.t.b4.cell 1
    have z2 : wx.cell? ⟨D3, 2, none⟩ = some (.int .i64 q.out) := HX.out.1.1.t.b4.cell 2
    have z3 : wx.cell? ⟨D3, 3, none⟩ = some (.int .i64 q.dried) := HX.out.1.1.t.b4.cell 3
    have z4 : wx.cell? ⟨D3, 4, none⟩ = some (.int .i64 q.dew) := HX.out.1.1.t.b4.cell 4
    have zf := HX.out.1.1.t.b4.frozen
    have zl := HX.out.1.1.t.b4.lt
    go_upto_region 22 with fail
    have HX2 := Lib.hid (And.intro (HX.out.1.1.put HA.out.1 HA.out.2 (q.came + Y.came) (q.out + Y.out) (q.dried + Y.dried) (q.dew + Y.dew) Y.w) (has_put5 HX.out.1.2 (fun e => HX.out.2 e.symm) ⟨0, q.came + Y.came, q.out + Y.out, q.dried + Y.dried, q.dew + Y.dew⟩))
    unfold put5 at HX2
    simp only at HX2
    clear d0 d1 d2 d3 d4 z0 z1 z2 z3 z4 zf zl HX
    generalize ((((wx.setCell ⟨D3, 0, none⟩ (.int .i64 0)).setCell ⟨D3, 1, none⟩ (.int .i64 (q.came + Y.came))).setCell ⟨D3, 2, none⟩ (.int .i64 (q.out + Y.out))).setCell ⟨D3, 3, none⟩ (.int .i64 (q.dried + Y.dried))).setCell ⟨D3, 4, none⟩ (.int .i64 (q.dew + Y.dew)) = w9 at HX2 ⊢
    have d4 : w9.cell? ⟨D6, 4, none⟩ = some (.int .i64 Y.dew) := HX2.out.2.cell 4
    have a0 : w9.cell? ⟨W.heap.size, 0, none⟩ = some (.int .i64 a.R) := HX2.out.1.t.l.v.b.fa.cell 0
    have a1 : w9.cell? ⟨W.heap.size, 1, none⟩ = some (.slice A a.T.length ca) := HX2.out.1.t.l.v.b.fa.cell 1
    have a2 : w9.cell? ⟨W.heap.size, 2, none⟩ = some (.slice B a.H.length cb) := HX2.out.1.t.l.v.b.fa.cell 2
    have a3 : w9.cell? ⟨W.heap.size, 3, none⟩ = some (.int .i64 a.b0) := HX2.out.1.t.l.v.b.fa.cell 3
    have a4 : w9.cell? ⟨W.heap.size, 4, none⟩ = some (.int .i64 a.b1) := HX2.out.1.t.l.v.b.fa.cell 4
    have k0 : w9.cell? ⟨D4, 0, none⟩ = some (.int .i64 s.cold) := HX2.out.1.s4.cell 0
    obtain ⟨yd, hyd⟩ : ∃ x, x = Y.dew := ⟨_, rfl⟩
    have HCE2 := Lib.hid HCE.out.2.1
    have HFX2 := Lib.hid HFX.out.2
    rw [← hyd] at d4 HCE2 HFX2 y7 y8
    clear hyd
    rw [← HFX.out.1] at HCE2
    have hcase : (yd = 0 ∧ f3 = 4) ∨ (yd = 0 ∧ f3 = 0 ∧ ¬ f1 = k) ∨ (0 < yd ∧ f3 = 0 ∧ f2 ≤ k ∧ f1 = k ∧ fx < 0) ∨ (0 < yd ∧ f3 = 0 ∧ f2 ≤ k ∧ f1 = k ∧ ¬ fx < 0) ∨ (0 < yd ∧ f3 = 0 ∧ f2 ≤ k ∧ ¬ f1 = k ∧ fx < 0) ∨ (0 < yd ∧ f3 = 0 ∧ f2 ≤ k ∧ ¬ f1 = k ∧ ¬ fx < 0) := by
      have h1 := HFX2.out.1
      have h2 := HFX2.out.2
      omega
    have HFR : Hid (∃ r : Int, firstX fw xs ms (k + 1) = r ∧ ((fx < 0 ∧ 0 < yd ∧ r = k) ∨ ((¬ fx < 0 ∨ ¬ 0 < yd) ∧ r = fx))) := by
      refine ⟨_, HCE2.out, ?_⟩
      by_cases h : fx < 0 ∧ 0 < yd
      · rw [if_pos h]; exact .inl ⟨h.1, h.2, rfl⟩
      · rw [if_neg h]; exact .inr ⟨by omega, rfl⟩
    have P6'' := Lib.hid (fun w h => P6'.out w h)
    clear P6' P6 PD PP1 PP2 PP3 HCE2 HFX2 HN1 HN2 HN3 HC1 HC2 HC3
    rcases hcase with ⟨h1, h2⟩ | ⟨h1, h2, h3⟩ | ⟨h1, h2, h3, h4, h5⟩ | ⟨h1, h2, h3, h4, h5⟩ | ⟨h1, h2, h3, h4, h5⟩ | ⟨h1, h2, h3, h4, h5⟩
    all_goals as_aux_lemma =>
      subst h2
      try subst h1
      try subst h4
      first
      | have hb1 : ((k : Int) == f1) = false := by simp; omega
      | skip
      first
      | have hb2 : (yd == 0) = false := by simp; omega
      | skip
      go_upto_region 26 with fail
      go_wp2_with fail
      refine (P6''.out _ HX2.out.1.t.l.ar).mono ?_
      rintro e w10 ⟨rfl, hb⟩
      have X10 := Lib.hid (HX2.out.1.step hb)
      clear hb a0 a1 a2 a3 a4 k0 d4
      have HWT := Lib.hid HCE.out.2.2
      obtain ⟨hv0, hv1⟩ : 0 ≤ v ∧ v ≤ k := ⟨HV.out.1, HV.out.2.1⟩
      have FIN : Hid (∀ v2 : Int, 0 ≤ v2 → v2 ≤ k + 1 → (inB lim 0 1000 = true → v2 = v + if wetB Y.w lim ho = true then 1 else 0) → (0 ≤ v2 ∧ v2 ≤ ((k + 1 : Nat) : Int) ∧ (inB lim 0 1000 = true → v2 = cntI (wetX fw xs lim ms) (k + 1)))) := fun v2 h1 h2 h3 => ⟨h1, by omega, fun h => by rw [HWT.out, ← HV.out.2.2 h]; exact h3 h⟩
      obtain ⟨r, hr1, hr2⟩ := HFR.out
      have HR1 := Lib.hid hr1
      have HR2 : Hid _ := hr2
      clear hr1 hr2
      by_cases hin : inB lim 0 1000 = true
      · have hli := of_decide_eq_true hin
        have hpr := prod_bd (x := ho) (y := lim) (m := 274877906944) (n := 1000) (by have := HHB.out; omega) hli
        have HWB := Lib.hid (show wetB Y.w lim ho = decide (ho * lim < Y.w * 1000) by unfold wetB; rw [Int.mul_comm])
        by_cases hwt : ho * lim < Y.w * 1000
        · go_wp2_with fail
          go_roundg (L.length - (k + 1))
          case measure => omega
          case rel => exact ⟨k + 1, v + 1, by omega, Nat.le_refl _, by go_num, by rw [HCE.out.1], rfl, by rw [HR1.out]; congr 1; have := HR2.out; omega, Lib.hid (FIN.out (v + 1) (by omega) (by omega) (fun _ => by rw [HWB.out, decide_eq_true hwt, if_pos rfl])), Lib.hid (by rw [HCE.out.1]; exact X10.out.t)⟩
        · go_wp2_with fail
          go_roundg (L.length - (k + 1))
          case measure => omega
          case rel => exact ⟨k + 1, v, by omega, Nat.le_refl _, by go_num, by rw [HCE.out.1], rfl, by rw [HR1.out]; congr 1; have := HR2.out; omega, Lib.hid (FIN.out v (by omega) (by omega) (fun _ => by rw [HWB.out, decide_eq_false (by omega), if_neg (by decide)]; omega)), Lib.hid (by rw [HCE.out.1]; exact X10.out.t)⟩
      · have HIN := Lib.hid hin
        clear hin
        go_wp2_with fail
        all_goals
          go_roundg (L.length - (k + 1))
          case measure => omega
          case rel =>
            first
            | exact ⟨k + 1, v, by omega, Nat.le_refl _, by go_num, by rw [HCE.out.1], rfl, by rw [HR1.out]; congr 1; have := HR2.out; omega, Lib.hid (FIN.out v (by omega) (by omega) (fun h => absurd h HIN.out)), Lib.hid (by rw [HCE.out.1]; exact X10.out.t)⟩
            | exact ⟨k + 1, v + 1, by omega, Nat.le_refl _, by go_num, by rw [HCE.out.1], rfl, by rw [HR1.out]; congr 1; have := HR2.out; omega, Lib.hid (FIN.out (v + 1) (by omega) (by omega) (fun h => absurd h HIN.out)), Lib.hid (by rw [HCE.out.1]; exact X10.out.t)⟩
end Go.Proofs.Ytdmpkeaanaoeaaa
