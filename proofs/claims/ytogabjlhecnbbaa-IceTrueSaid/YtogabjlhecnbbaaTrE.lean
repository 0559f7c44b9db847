/- The law IceTrue: the walk. -/
import Derived.Test.YtogabjlhecnbbaaTrD
import Derived.Test.YtogabjlhecnbbaaTrL
import Derived.Deep.Cut
import Derived.Deep.CutRange
import Derived.Deep.DeepCutAuto
import Derived.Deep.RegionHeldLaw
namespace Go.Proofs.Ytogabjlhecnbbaa
open Go.RowKit Go.Shelf
set_option maxHeartbeats 400000 in
theorem hasT_any (lo hi n : Int) (w : World) : Calls Try.prog 33 #[sv lo hi, iv n] w fun e w' => e = .returned (.bool (decide (lo ≤ n ∧ n ≤ hi))) ∧ Below w.heap.size w w' := by
  obtain ⟨b, hb⟩ : ∃ b, b = decide (lo ≤ n ∧ n ≤ hi) := ⟨_, rfl⟩
  rw [← hb]
  by_cases h1 : lo ≤ n
  · have HE : Hid (b = decide (n ≤ hi)) := by show _ = _; rw [hb]; simp [h1]
    clear hb
    go_enter Try.func33, Try.ntmps33
    go_wp2
    go_ret
    exact ⟨ret_bool (by rw [HE.out]), below1 _ _⟩
  · have h1b : decide (lo ≤ n) = false := by simpa using h1
    have HE : Hid (b = false) := by show _ = _; rw [hb]; simp [h1]
    clear hb
    go_enter Try.func33, Try.ntmps33
    go_wp2
    go_ret
    exact ⟨ret_bool (by rw [HE.out]), below1 _ _⟩
theorem map_iv_next (l : List Int) (x : Int) : (l ++ [x]).map iv = l.map iv ++ [iv x] := by simp
theorem Two.keepT {w W : World} {hs : List (Nat × TypeId × Array Value)} {e s : Nat} {a b : Value} {n m : Nat} {xs ys : List Value} {B : Nat} {t : TypeId} {c0 c1 c2 c3 : Value} (h : Two w W hs e s a b n m xs ys) (hm : (B, t, #[c0, c1, c2, c3]) ∈ hs)
    {N g o m1 m2 : Nat} {bs : List Int} (hb : URow w N (some ⟨g, o, none⟩) bs) (hN : N ≤ w.heap.size) (h1 : m1 < bs.length) (h2 : m2 < bs.length) {b1 b2 : Int} (e1 : b1 = bs.getD m1 0) (e2 : b2 = bs.getD m2 0) :
    W.cell? ⟨B, 0, none⟩ = some c0 ∧ W.cell? ⟨B, 1, none⟩ = some c1 ∧ W.cell? ⟨B, 2, none⟩ = some c2 ∧ W.cell? ⟨B, 3, none⟩ = some c3 ∧ W.cell? ⟨g, o + m1, none⟩ = some (.int .u32 b1) ∧ W.cell? ⟨g, o + m2, none⟩ = some (.int .u32 b2) := by
  have hu := hb.below (h.bl.mono hN)
  obtain ⟨g', o', e, _, c⟩ := hu m1 h1
  obtain ⟨g'', o'', e', _, c'⟩ := hu m2 h2
  obtain ⟨rfl, rfl⟩ : g = g' ∧ o = o' := by simpa using e
  obtain ⟨rfl, rfl⟩ : g = g'' ∧ o = o'' := by simpa using e'
  refine ⟨h.cell hm 0, h.cell hm 1, h.cell hm 2, h.cell hm 3, ?_, ?_⟩
  · rw [c, e1]; simp [h1]
  · rw [c', e2]; simp [h2]
theorem keep_set {W : World} {X T g o m1 m2 : Nat} {c0 c1 c2 c3 d1 d2 : Value} (hX : X ≠ T) (hg : g ≠ T) (j : Nat) (v : Value)
    (h : W.cell? ⟨X, 0, none⟩ = some c0 ∧ W.cell? ⟨X, 1, none⟩ = some c1 ∧ W.cell? ⟨X, 2, none⟩ = some c2 ∧ W.cell? ⟨X, 3, none⟩ = some c3 ∧ W.cell? ⟨g, o + m1, none⟩ = some d1 ∧ W.cell? ⟨g, o + m2, none⟩ = some d2) :
    (W.setCell ⟨T, j, none⟩ v).cell? ⟨X, 0, none⟩ = some c0 ∧ (W.setCell ⟨T, j, none⟩ v).cell? ⟨X, 1, none⟩ = some c1 ∧ (W.setCell ⟨T, j, none⟩ v).cell? ⟨X, 2, none⟩ = some c2 ∧ (W.setCell ⟨T, j, none⟩ v).cell? ⟨X, 3, none⟩ = some c3 ∧ (W.setCell ⟨T, j, none⟩ v).cell? ⟨g, o + m1, none⟩ = some d1 ∧ (W.setCell ⟨T, j, none⟩ v).cell? ⟨g, o + m2, none⟩ = some d2 :=
  ⟨(set_far _ _ hX).trans h.1, (set_far _ _ hX).trans h.2.1, (set_far _ _ hX).trans h.2.2.1, (set_far _ _ hX).trans h.2.2.2.1, (set_far _ _ hg).trans h.2.2.2.2.1, (set_far _ _ hg).trans h.2.2.2.2.2⟩
theorem Two.openT {w W : World} {hs : List (Nat × TypeId × Array Value)} {e s : Nat} {a b : Value} {n m : Nat} {xs ys : List Value} {T : Nat} {t : TypeId} {c0 c1 c2 c3 c4 : Value} (h : Two w W hs e s a b n m xs ys) (hm : (T, t, #[c0, c1, c2, c3, c4]) ∈ hs) :
    W.cell? ⟨T, 0, none⟩ = some c0 ∧ W.cell? ⟨T, 1, none⟩ = some c1 ∧ W.frozen? ⟨T, 0, none⟩ = false ∧ W.frozen? ⟨T, 1, none⟩ = false ∧ T < W.heap.size := ⟨h.cell hm 0, h.cell hm 1, (h.hs _ hm).1.frozen 0, (h.hs _ hm).1.frozen 1, (h.hs _ hm).1.lt⟩
theorem Two.keepT8 {w W : World} {hs : List (Nat × TypeId × Array Value)} {e s : Nat} {a b : Value} {n m : Nat} {xs ys : List Value} {B : Nat} {t : TypeId} {c0 c1 c2 c3 : Value} {T : Nat} {t' : TypeId} {c0' c1' c2' c3' c4' : Value} (h : Two w W hs e s a b n m xs ys) (hm : (B, t, #[c0, c1, c2, c3]) ∈ hs) (hT : (T, t', #[c0', c1', c2', c3', c4']) ∈ hs)
    {N g o m1 m2 : Nat} {bs : List Int} (hb : URow w N (some ⟨g, o, none⟩) bs) (hN : N ≤ w.heap.size) (h1 : m1 < bs.length) (h2 : m2 < bs.length) {b1 b2 : Int} (e1 : b1 = bs.getD m1 0) (e2 : b2 = bs.getD m2 0) :
    W.cell? ⟨B, 0, none⟩ = some c0 ∧ W.cell? ⟨B, 1, none⟩ = some c1 ∧ W.cell? ⟨B, 2, none⟩ = some c2 ∧ W.cell? ⟨B, 3, none⟩ = some c3 ∧ W.cell? ⟨g, o + m1, none⟩ = some (.int .u32 b1) ∧ W.cell? ⟨g, o + m2, none⟩ = some (.int .u32 b2) ∧ W.cell? ⟨T, 0, none⟩ = some c0' ∧ W.cell? ⟨T, 1, none⟩ = some c1' :=
  ⟨(h.keepT hm hb hN h1 h2 e1 e2).1, (h.keepT hm hb hN h1 h2 e1 e2).2.1, (h.keepT hm hb hN h1 h2 e1 e2).2.2.1, (h.keepT hm hb hN h1 h2 e1 e2).2.2.2.1, (h.keepT hm hb hN h1 h2 e1 e2).2.2.2.2.1, (h.keepT hm hb hN h1 h2 e1 e2).2.2.2.2.2, h.cell hT 0, h.cell hT 1⟩
/-- what is read of a zone, and of its truth -/
structure TrK (W : World) (X T Bi Bp ci cp n k : Nat) (a b c d ik pk : Int) : Prop where
  y : Has W X 60 #[.int .i64 a, .int .i64 b, .int .i64 c, .int .i64 d]
  m : ∃ tt, LvM W W T Bi Bp ci cp n tt ∧ k < n ∧ ik = tt.ice.getD k 0 ∧ pk = tt.paint.getD k 0
theorem TrK.step {W W' : World} {X T Bi Bp ci cp n k : Nat} {a b c d ik pk : Int} (h : TrK W X T Bi Bp ci cp n k a b c d ik pk) (hb : Below W.heap.size W W') : TrK W' X T Bi Bp ci cp n k a b c d ik pk := by
  obtain ⟨tt, hm, hk⟩ := h.m
  have h2 := hm.step hb
  exact ⟨h.y.below hb h.y.lt, tt, ⟨Only.refl _ _, h2.x, h2.i, h2.p, h2.li, h2.lp⟩, hk⟩
theorem TrK.keep {W : World} {X T Bi Bp ci cp n k : Nat} {a b c d ik pk : Int} (h : TrK W X T Bi Bp ci cp n k a b c d ik pk) : W.cell? ⟨X, 0, none⟩ = some (.int .i64 a) ∧ W.cell? ⟨X, 1, none⟩ = some (.int .i64 b) ∧ W.cell? ⟨X, 2, none⟩ = some (.int .i64 c) ∧ W.cell? ⟨X, 3, none⟩ = some (.int .i64 d) ∧
    W.cell? ⟨T, 0, none⟩ = some (.slice (some ⟨Bi, 0, none⟩) n ci) ∧ W.cell? ⟨T, 1, none⟩ = some (.slice (some ⟨Bp, 0, none⟩) n cp) ∧ W.cell? ⟨Bi, k, none⟩ = some (.int .i64 ik) ∧ W.cell? ⟨Bp, k, none⟩ = some (.int .i64 pk) := by
  obtain ⟨tt, hm, hk, rfl, rfl⟩ := h.m
  obtain ⟨t0, t1, -, -, -, -, -, -, i0, -, p0, -⟩ := hm.cells hk
  exact ⟨h.y.cell 0, h.y.cell 1, h.y.cell 2, h.y.cell 3, t0, t1, i0, p0⟩
/-- what is read last -/
structure TrZ (w W : World) (Sb T Bi Bp ci cp n : Nat) (s : Sm) (tt : Tr) : Prop where
  bl : Below w.heap.size w W
  s : Has W Sb 29 (smc s)
  m : LvM W W T Bi Bp ci cp n tt
theorem TrZ.step {w W W' : World} {Sb T Bi Bp ci cp n : Nat} {s : Sm} {tt : Tr} (h : TrZ w W Sb T Bi Bp ci cp n s tt) (hb : Below W.heap.size W W') : TrZ w W' Sb T Bi Bp ci cp n s tt := by
  have h2 := h.m.step hb
  exact ⟨belowT h.bl hb, h.s.below hb h.s.lt, ⟨Only.refl _ _, h2.x, h2.i, h2.p, h2.li, h2.lp⟩⟩
theorem TrZ.cells {w W : World} {Sb T Bi Bp ci cp n : Nat} {s : Sm} {tt : Tr} {fr pl wo : Int} (h : TrZ w W Sb T Bi Bp ci cp n s tt) (h1 : fr = tt.fr) (h2 : pl = tt.pl) (h3 : wo = tt.wo) :
    W.cell? ⟨Sb, 0, none⟩ = some (.int .i64 s.f1) ∧ W.cell? ⟨Sb, 1, none⟩ = some (.int .i64 s.f2) ∧ W.cell? ⟨Sb, 2, none⟩ = some (.int .i64 s.p1) ∧ W.cell? ⟨Sb, 3, none⟩ = some (.int .i64 s.p2) ∧ W.cell? ⟨Sb, 4, none⟩ = some (.int .i64 s.w1) ∧ W.cell? ⟨Sb, 5, none⟩ = some (.int .i64 s.w2) ∧
    W.cell? ⟨T, 2, none⟩ = some (.int .i64 fr) ∧ W.cell? ⟨T, 3, none⟩ = some (.int .i64 pl) ∧ W.cell? ⟨T, 4, none⟩ = some (.int .i64 wo) := by
  subst h1 h2 h3
  exact ⟨h.s.cell 0, h.s.cell 1, h.s.cell 2, h.s.cell 3, h.s.cell 4, h.s.cell 5, h.m.x.cell 2, h.m.x.cell 3, h.m.x.cell 4⟩
set_option maxRecDepth 100000 in
set_option maxHeartbeats 4000000 in
theorem true_any (zs : List Zn) (es : List Ev) (bs : List Int) (A A' Ab : Option Addr) (cap cap' capb : Nat) (w : World) (hz : ZRow w w.heap.size A zs) (he : ERow w w.heap.size A' es) (hb : URow w w.heap.size Ab bs)
    (hbs : ∀ b ∈ bs, 0 ≤ b ∧ b ≤ 4294967295) (hl : zs.length ≤ 9223372036854775807) (hl' : es.length ≤ 9223372036854775807) (hlb : bs.length ≤ 9223372036854775807) :
    Calls Try.prog 7 #[.slice A zs.length cap, .slice A' es.length cap', .slice Ab bs.length capb] w fun e w' => e = .returned (.bool true) ∧ Below w.heap.size w w' := by
  by_cases h60 : 60 < (es.length : Int)
  · go_enter Try.func7, Try.ntmps7
    go_wp2_with fail
    refine (alive_any _).mono ?_
    rintro e wb ⟨rfl, hb⟩
    go_wp2_with fail
    go_ret
    exact ⟨rfl, hb⟩
  have h60' : decide (60 < (es.length : Int)) = false := by simpa using h60
  by_cases hb0 : bs.length = 0
  · have hb0' : ((bs.length : Int) == 0) = true := by simp [hb0]
    go_enter Try.func7, Try.ntmps7
    go_wp2_with fail
    refine (alive_any _).mono ?_
    rintro e wb ⟨rfl, hb⟩
    go_wp2_with fail
    go_ret
    exact ⟨rfl, hb⟩
  have hb0' : ((bs.length : Int) == 0) = false := by
    have : (bs.length : Int) ≠ 0 := by omega
    simpa using this
  have hbp : 0 < bs.length := by omega
  go_enter Try.func7, Try.ntmps7
  go_wp2_with fail
  refine (rinkR_any zs A cap _ hz hl).mono ?_
  rintro r wa ⟨rfl, hba⟩
  cases hrk : rinkOk zs
  · go_wp2_with fail
    refine (alive_any _).mono ?_
    rintro e wb ⟨rfl, hb⟩
    have HE := Lib.hid (belowT hba hb)
    go_wp2_with fail
    go_ret
    exact ⟨rfl, HE.out⟩
  have HRK := Lib.hid hrk
  have hl24 := (rink_parts hrk).1
  have HBa := Lib.hid hba
  obtain ⟨i3, hi, hz0, hzz, hzs⟩ := info_parts Try.info3
  have hes : es.length ≤ 60 := by omega
  have HU := Lib.hid (And.intro (hb.below hba) hbs)
  have HUW := Lib.hid hb
  have h60z : (es.length : Int) ≤ 60 := by omega
  clear hrk hba hb hbs h60
  go_wp2_with fail
  have hNw := HBa.out.size
  go_loopw [43, 8] (fun i s wr => ∃ k : Nat, k ≤ zs.length ∧ i = .int .i64 k ∧ s = .int .i64 (sumL (icL zs bs k)) ∧ Hid (∃ u v, Two wa wr [(wa.heap.size, 58, #[u, v, .int .i64 0, .int .i64 0, .int .i64 0])] 3 1 u v k k ((icL zs bs k).map iv) ((paL zs bs k).map iv))) (fun i _ _ => zs.length - (intOf i).toNat)
  case atStart => exact ⟨0, Nat.zero_le _, rfl, rfl, _, _, (Two.start wa 3 1).more _ _⟩
  case round =>
    obtain ⟨k, hk, rfl, rfl, HI⟩ := hrel
    obtain ⟨u, v, hI⟩ := HI.out
    have hsz := hI.bl.size
    obtain ⟨T, hT⟩ : ∃ T, T = wa.heap.size := ⟨_, rfl⟩
    rw [← hT] at hI
    by_cases hlt : k < zs.length
    · have hlt' : (k : Int) < zs.length := by omega
      obtain ⟨g, o, eA, hg, d0, d1, d2, d3⟩ := (hz.below (belowT HBa.out hI.bl)) k hlt
      obtain ⟨x, hx⟩ : ∃ x, x = zs[k] := ⟨_, rfl⟩
      have hxd : x = zs.getD k zd := by rw [hx]; simp [hlt]
      rw [← hx] at d0 d1 d2 d3
      clear hx
      subst eA
      have hgw : g < wr.heap.size := by omega
      obtain ⟨X, hX⟩ : ∃ X, X = wr.heap.size := ⟨_, rfl⟩
      obtain ⟨m1, hm1⟩ : ∃ m1, m1 = k % bs.length := ⟨_, rfl⟩
      obtain ⟨m2, hm2⟩ : ∃ m2, m2 = (k + 1) % bs.length := ⟨_, rfl⟩
      have hm1l : m1 < bs.length := by rw [hm1]; exact Nat.mod_lt _ hbp
      have hm2l : m2 < bs.length := by rw [hm2]; exact Nat.mod_lt _ hbp
      obtain ⟨g2, o2, eAb, hg2, -⟩ := HU.out.1 m1 hm1l
      obtain ⟨b1, hb1e⟩ : ∃ b1, b1 = bs.getD m1 0 := ⟨_, rfl⟩
      obtain ⟨b2, hb2e⟩ : ∃ b2, b2 = bs.getD m2 0 := ⟨_, rfl⟩
      have hb1b := HU.out.2 b1 (by rw [hb1e]; simp [hm1l])
      have hb2b := HU.out.2 b2 (by rw [hb2e]; simp [hm2l])
      have hzp := zn_parts (zs_ok HRK.out hlt)
      rw [← hxd] at hzp
      obtain ⟨n1, hn1⟩ : ∃ n1, n1 = fI zs bs k := ⟨_, rfl⟩
      obtain ⟨n2, hn2⟩ : ∃ n2, n2 = fP zs bs k := ⟨_, rfl⟩
      have HIN1 : Hid (∀ W', Calls Try.prog 30 #[sv x.a x.b, .int .u32 b1] W' fun e w' => e = .returned (iv n1) ∧ Below W'.heap.size W' w') := fun W' => by
        have := inner_any x.a x.b b1 W' hzp.1 hb1b
        rw [show x.a + b1 % (x.b - x.a + 1) = n1 by rw [hn1, hb1e, hm1, hxd]; rfl] at this
        exact this
      have HIN2 : Hid (∀ W', Calls Try.prog 30 #[sv x.c x.d, .int .u32 b2] W' fun e w' => e = .returned (iv n2) ∧ Below W'.heap.size W' w') := fun W' => by
        have := inner_any x.c x.d b2 W' hzp.2 hb2b
        rw [show x.c + b2 % (x.d - x.c + 1) = n2 by rw [hn2, hb2e, hm2, hxd]; rfl] at this
        exact this
      have HUN : Hid (URow wa w.heap.size (some ⟨g2, o2, none⟩) bs) := by rw [← eAb]; exact HU.out.1
      have HN := Lib.hid (And.intro hn1 hn2)
      have r1 : ((k : Int)).tmod (bs.length : Int) = (m1 : Int) := by rw [Int.tmod_eq_emod_of_nonneg (by omega), hm1]; simp
      have r2 : ((k : Int) + 1).tmod (bs.length : Int) = (m2 : Int) := by rw [Int.tmod_eq_emod_of_nonneg (by omega), hm2]; simp
      have r1' : (k : Int) % (bs.length : Int) = (m1 : Int) := by rw [hm1]; simp
      have r2' : ((k : Int) + 1) % (bs.length : Int) = (m2 : Int) := by rw [hm2]; simp
      have hbne : ¬ bs = [] := fun h => by rw [h] at hbp; simp at hbp
      have hbne' : ¬ (bs.length : Int) = 0 := by omega
      have hm1i : (m1 : Int) < bs.length := by omega
      have hm2i : (m2 : Int) < bs.length := by omega
      have hTl := (hI.hs _ (List.mem_singleton_self _)).1.lt
      simp only at hTl
      have hXT : X ≠ T := by omega
      have hgT : g2 ≠ T := by omega
      subst eAb
      have HBE := Lib.hid (And.intro hb1e hb2e)
      have wk : IntKind.i64.wrap ((k : Int) + 1) = (k : Int) + 1 := by rw [IntKind.wrap_i64]; omega
      clear hm1 hm2 hzp hb1b hb2b hn1 hn2 hxd hb1e hb2e
      go_upto_region 8 with fail
      rw [← hX, ← hT]
      have HT : Hid (Two wa (wr.alloc (.cells #[.int .i64 x.a, .int .i64 x.b, .int .i64 x.c, .int .i64 x.d] 60)).drew [(X, 60, #[.int .i64 x.a, .int .i64 x.b, .int .i64 x.c, .int .i64 x.d]), (T, 58, #[u, v, .int .i64 0, .int .i64 0, .int .i64 0])] 3 1 u v k k ((icL zs bs k).map iv) ((paL zs bs k).map iv)) := by rw [hX]; exact (hI.more _ _).drew
      have HE := Lib.hid (And.intro hT hX)
      clear hI HI hX hT
      have hS0 := HT.out.keepT8 (B := X) (t := 60) (c0 := .int .i64 x.a) (c1 := .int .i64 x.b) (c2 := .int .i64 x.c) (c3 := .int .i64 x.d) (T := T) (t' := 58) (c0' := u) (c1' := v) (c2' := .int .i64 0) (c3' := .int .i64 0) (c4' := .int .i64 0) (by simp) (by simp) HUN.out hNw hm1l hm2l HBE.out.1 HBE.out.2
      refine wp_region_late (fun w' : World => w'.cell? ⟨X, 0, none⟩ = some (.int .i64 x.a) ∧ w'.cell? ⟨X, 1, none⟩ = some (.int .i64 x.b) ∧ w'.cell? ⟨X, 2, none⟩ = some (.int .i64 x.c) ∧ w'.cell? ⟨X, 3, none⟩ = some (.int .i64 x.d) ∧ w'.cell? ⟨g2, o2 + m1, none⟩ = some (.int .u32 b1) ∧ w'.cell? ⟨g2, o2 + m2, none⟩ = some (.int .u32 b2) ∧ w'.cell? ⟨T, 0, none⟩ = some u ∧ w'.cell? ⟨T, 1, none⟩ = some v) [30, 32] (by kernel_rfl) ?_
      refine wpLate_take (i := 0) (oi := ?oi0) (v := ?v0) [1, 13, 26, 27, 28, 29, 30, 31, 32] ?hi0 (by kernel_rfl) (by kernel_rfl) (by kernel_rfl) (by kernel_rfl) (by kernel_rfl) ?hQ0 (Or.inl ⟨?hw0, ?hy0⟩) hS0 ?rest0
      case hi0 => (simp only [List.getElem?_toArray, List.getElem?_cons_zero]; rfl)
      case hQ0 => exact fun _ _ _ h => h
      case hw0 => rfl
      case hy0 =>
        intro w' hSw
        obtain ⟨r0, r1, r2, r3, r4, r5, r6, r7⟩ := hSw
        go_simp
        try exact rfl
      simp only [Act.put, List.setIfInBounds_toArray, List.set_cons_zero, List.set_cons_succ]
      refine wpLate_take (i := 1) (oi := ?oi1) (v := ?v1) [13, 26, 27, 28, 29, 30, 31, 32] ?hi1 (by kernel_rfl) (by kernel_rfl) (by kernel_rfl) (by kernel_rfl) (by kernel_rfl) ?hQ1 (Or.inl ⟨?hw1, ?hy1⟩) hS0 ?rest1
      case hi1 => (simp only [List.getElem?_toArray, List.getElem?_cons_zero, List.getElem?_cons_succ]; rfl)
      case hQ1 => exact fun _ _ _ h => h
      case hw1 => rfl
      case hy1 =>
        intro w' hSw
        obtain ⟨r0, r1, r2, r3, r4, r5, r6, r7⟩ := hSw
        go_simp
        try exact rfl
      simp only [Act.put, List.setIfInBounds_toArray, List.set_cons_zero, List.set_cons_succ]
      refine wpLate_take (i := 2) (oi := ?oi2) (v := ?v2) [3, 11, 12, 13, 26, 27, 28, 29, 30, 31, 32] ?hi2 (by kernel_rfl) (by kernel_rfl) (by kernel_rfl) (by kernel_rfl) (by kernel_rfl) ?hQ2 (Or.inl ⟨?hw2, ?hy2⟩) hS0 ?rest2
      case hi2 => (simp only [List.getElem?_toArray, List.getElem?_cons_zero, List.getElem?_cons_succ]; rfl)
      case hQ2 => exact fun _ _ _ h => h
      case hw2 => rfl
      case hy2 =>
        intro w' hSw
        obtain ⟨r0, r1, r2, r3, r4, r5, r6, r7⟩ := hSw
        go_simp
        try exact rfl
      simp only [Act.put, List.setIfInBounds_toArray, List.set_cons_zero, List.set_cons_succ]
      refine wpLate_take (i := 3) (oi := ?oi3) (v := ?v3) [11, 12, 13, 26, 27, 28, 29, 30, 31, 32] ?hi3 (by kernel_rfl) (by kernel_rfl) (by kernel_rfl) (by kernel_rfl) (by kernel_rfl) ?hQ3 (Or.inl ⟨?hw3, ?hy3⟩) hS0 ?rest3
      case hi3 => (simp only [List.getElem?_toArray, List.getElem?_cons_zero, List.getElem?_cons_succ]; rfl)
      case hQ3 => exact fun _ _ _ h => h
      case hw3 => rfl
      case hy3 =>
        intro w' hSw
        obtain ⟨r0, r1, r2, r3, r4, r5, r6, r7⟩ := hSw
        go_simp
        try exact rfl
      simp only [Act.put, List.setIfInBounds_toArray, List.set_cons_zero, List.set_cons_succ]
      refine wpLate_take (i := 4) (oi := ?oi4) (v := ?v4) [9, 10, 11, 12, 13, 26, 27, 28, 29, 30, 31, 32] ?hi4 (by kernel_rfl) (by kernel_rfl) (by kernel_rfl) (by kernel_rfl) (by kernel_rfl) ?hQ4 (Or.inl ⟨?hw4, ?hy4⟩) hS0 ?rest4
      case hi4 => (simp only [List.getElem?_toArray, List.getElem?_cons_zero, List.getElem?_cons_succ]; rfl)
      case hQ4 => exact fun _ _ _ h => h
      case hw4 => rfl
      case hy4 =>
        intro w' hSw
        obtain ⟨r0, r1, r2, r3, r4, r5, r6, r7⟩ := hSw
        go_simp
        try exact rfl
      simp only [Act.put, List.setIfInBounds_toArray, List.set_cons_zero, List.set_cons_succ]
      refine wpLate_take (i := 5) (oi := ?oi5) (v := ?v5) [8, 9, 10, 11, 12, 13, 26, 27, 28, 29, 30, 31, 32] ?hi5 (by kernel_rfl) (by kernel_rfl) (by kernel_rfl) (by kernel_rfl) (by kernel_rfl) ?hQ5 (Or.inl ⟨?hw5, ?hy5⟩) hS0 ?rest5
      case hi5 => (simp only [List.getElem?_toArray, List.getElem?_cons_zero, List.getElem?_cons_succ]; rfl)
      case hQ5 => exact fun _ _ _ h => h
      case hw5 => rfl
      case hy5 =>
        intro w' hSw
        obtain ⟨r0, r1, r2, r3, r4, r5, r6, r7⟩ := hSw
        go_simp
        try exact rfl
      simp only [Act.put, List.setIfInBounds_toArray, List.set_cons_zero, List.set_cons_succ]
      refine wpLate_take (i := 6) (oi := ?oi6) (v := ?v6) [7, 8, 9, 10, 11, 12, 13, 26, 27, 28, 29, 30, 31, 32] ?hi6 (by kernel_rfl) (by kernel_rfl) (by kernel_rfl) (by kernel_rfl) (by kernel_rfl) ?hQ6 (Or.inl ⟨?hw6, ?hy6⟩) hS0 ?rest6
      case hi6 => (simp only [List.getElem?_toArray, List.getElem?_cons_zero, List.getElem?_cons_succ]; rfl)
      case hQ6 => exact fun _ _ _ h => h
      case hw6 => rfl
      case hy6 =>
        intro w' hSw
        obtain ⟨r0, r1, r2, r3, r4, r5, r6, r7⟩ := hSw
        go_simp
        try exact rfl
      simp only [Act.put, List.setIfInBounds_toArray, List.set_cons_zero, List.set_cons_succ]
      refine wpLate_take (i := 7) (oi := ?oi7) (v := ?v7) [8, 9, 10, 11, 12, 13, 26, 27, 28, 29, 30, 31, 32] ?hi7 (by kernel_rfl) (by kernel_rfl) (by kernel_rfl) (by kernel_rfl) (by kernel_rfl) ?hQ7 (Or.inl ⟨?hw7, ?hy7⟩) hS0 ?rest7
      case hi7 => (simp only [List.getElem?_toArray, List.getElem?_cons_zero, List.getElem?_cons_succ]; rfl)
      case hQ7 => exact fun _ _ _ h => h
      case hw7 => rfl
      case hy7 =>
        intro w' hSw
        obtain ⟨r0, r1, r2, r3, r4, r5, r6, r7⟩ := hSw
        go_simp
        try exact rfl
      simp only [Act.put, List.setIfInBounds_toArray, List.set_cons_zero, List.set_cons_succ]
      refine wpLate_take (i := 8) (oi := ?oi8) (v := ?v8) [9, 10, 11, 12, 13, 26, 27, 28, 29, 30, 31, 32] ?hi8 (by kernel_rfl) (by kernel_rfl) (by kernel_rfl) (by kernel_rfl) (by kernel_rfl) ?hQ8 (Or.inl ⟨?hw8, ?hy8⟩) hS0 ?rest8
      case hi8 => (simp only [List.getElem?_toArray, List.getElem?_cons_zero, List.getElem?_cons_succ]; rfl)
      case hQ8 => exact fun _ _ _ h => h
      case hw8 => rfl
      case hy8 =>
        intro w' hSw
        obtain ⟨r0, r1, r2, r3, r4, r5, r6, r7⟩ := hSw
        go_simp
        try exact rfl
      simp only [Act.put, List.setIfInBounds_toArray, List.set_cons_zero, List.set_cons_succ]
      refine wpLate_take (i := 9) (oi := ?oi9) (v := ?v9) [10, 11, 12, 13, 26, 27, 28, 29, 30, 31, 32] ?hi9 (by kernel_rfl) (by kernel_rfl) (by kernel_rfl) (by kernel_rfl) (by kernel_rfl) ?hQ9 (Or.inl ⟨?hw9, ?hy9⟩) hS0 ?rest9
      case hi9 => (simp only [List.getElem?_toArray, List.getElem?_cons_zero, List.getElem?_cons_succ]; rfl)
      case hQ9 => exact fun _ _ _ h => h
      case hw9 => rfl
      case hy9 =>
        intro w' hSw
        obtain ⟨r0, r1, r2, r3, r4, r5, r6, r7⟩ := hSw
        go_simp
        try exact rfl
      simp only [Act.put, List.setIfInBounds_toArray, List.set_cons_zero, List.set_cons_succ]
      refine wpLate_take (i := 10) (oi := ?oi10) (v := ?v10) [11, 12, 13, 26, 27, 28, 29, 30, 31, 32] ?hi10 (by kernel_rfl) (by kernel_rfl) (by kernel_rfl) (by kernel_rfl) (by kernel_rfl) ?hQ10 (Or.inl ⟨?hw10, ?hy10⟩) hS0 ?rest10
      case hi10 => (simp only [List.getElem?_toArray, List.getElem?_cons_zero, List.getElem?_cons_succ]; rfl)
      case hQ10 => exact fun _ _ _ h => h
      case hw10 => rfl
      case hy10 =>
        intro w' hSw
        obtain ⟨r0, r1, r2, r3, r4, r5, r6, r7⟩ := hSw
        go_simp
        try exact rfl
      simp only [Act.put, List.setIfInBounds_toArray, List.set_cons_zero, List.set_cons_succ]
      refine wpLate_take (i := 14) (oi := ?oi14) (v := ?v14) [15, 28, 29, 30, 31, 32] ?hi14 (by kernel_rfl) (by kernel_rfl) (by kernel_rfl) (by kernel_rfl) (by kernel_rfl) ?hQ14 (Or.inl ⟨?hw14, ?hy14⟩) hS0 ?rest14
      case hi14 => (simp only [List.getElem?_toArray, List.getElem?_cons_zero, List.getElem?_cons_succ]; rfl)
      case hQ14 => exact fun _ _ _ h => h
      case hw14 => rfl
      case hy14 =>
        intro w' hSw
        obtain ⟨r0, r1, r2, r3, r4, r5, r6, r7⟩ := hSw
        go_simp
        try exact rfl
      simp only [Act.put, List.setIfInBounds_toArray, List.set_cons_zero, List.set_cons_succ]
      refine wpLate_take (i := 15) (oi := ?oi15) (v := ?v15) [28, 29, 30, 31, 32] ?hi15 (by kernel_rfl) (by kernel_rfl) (by kernel_rfl) (by kernel_rfl) (by kernel_rfl) ?hQ15 (Or.inl ⟨?hw15, ?hy15⟩) hS0 ?rest15
      case hi15 => (simp only [List.getElem?_toArray, List.getElem?_cons_zero, List.getElem?_cons_succ]; rfl)
      case hQ15 => exact fun _ _ _ h => h
      case hw15 => rfl
      case hy15 =>
        intro w' hSw
        obtain ⟨r0, r1, r2, r3, r4, r5, r6, r7⟩ := hSw
        go_simp
        try exact rfl
      simp only [Act.put, List.setIfInBounds_toArray, List.set_cons_zero, List.set_cons_succ]
      refine wpLate_take (i := 16) (oi := ?oi16) (v := ?v16) [17, 26, 27, 28, 29, 30, 31, 32] ?hi16 (by kernel_rfl) (by kernel_rfl) (by kernel_rfl) (by kernel_rfl) (by kernel_rfl) ?hQ16 (Or.inl ⟨?hw16, ?hy16⟩) hS0 ?rest16
      case hi16 => (simp only [List.getElem?_toArray, List.getElem?_cons_zero, List.getElem?_cons_succ]; rfl)
      case hQ16 => exact fun _ _ _ h => h
      case hw16 => rfl
      case hy16 =>
        intro w' hSw
        obtain ⟨r0, r1, r2, r3, r4, r5, r6, r7⟩ := hSw
        go_simp
        try exact rfl
      simp only [Act.put, List.setIfInBounds_toArray, List.set_cons_zero, List.set_cons_succ]
      refine wpLate_take (i := 17) (oi := ?oi17) (v := ?v17) [26, 27, 28, 29, 30, 31, 32] ?hi17 (by kernel_rfl) (by kernel_rfl) (by kernel_rfl) (by kernel_rfl) (by kernel_rfl) ?hQ17 (Or.inl ⟨?hw17, ?hy17⟩) hS0 ?rest17
      case hi17 => (simp only [List.getElem?_toArray, List.getElem?_cons_zero, List.getElem?_cons_succ]; rfl)
      case hQ17 => exact fun _ _ _ h => h
      case hw17 => rfl
      case hy17 =>
        intro w' hSw
        obtain ⟨r0, r1, r2, r3, r4, r5, r6, r7⟩ := hSw
        go_simp
        try exact rfl
      simp only [Act.put, List.setIfInBounds_toArray, List.set_cons_zero, List.set_cons_succ]
      refine wpLate_take (i := 18) (oi := ?oi18) (v := ?v18) [24, 25, 26, 27, 28, 29, 30, 31, 32] ?hi18 (by kernel_rfl) (by kernel_rfl) (by kernel_rfl) (by kernel_rfl) (by kernel_rfl) ?hQ18 (Or.inl ⟨?hw18, ?hy18⟩) hS0 ?rest18
      case hi18 => (simp only [List.getElem?_toArray, List.getElem?_cons_zero, List.getElem?_cons_succ]; rfl)
      case hQ18 => exact fun _ _ _ h => h
      case hw18 => rfl
      case hy18 =>
        intro w' hSw
        obtain ⟨r0, r1, r2, r3, r4, r5, r6, r7⟩ := hSw
        go_simp
        try exact rfl
      simp only [Act.put, List.setIfInBounds_toArray, List.set_cons_zero, List.set_cons_succ]
      refine wpLate_take (i := 19) (oi := ?oi19) (v := ?v19) [20, 23, 24, 25, 26, 27, 28, 29, 30, 31, 32] ?hi19 (by kernel_rfl) (by kernel_rfl) (by kernel_rfl) (by kernel_rfl) (by kernel_rfl) ?hQ19 (Or.inl ⟨?hw19, ?hy19⟩) hS0 ?rest19
      case hi19 => (simp only [List.getElem?_toArray, List.getElem?_cons_zero, List.getElem?_cons_succ]; rfl)
      case hQ19 => exact fun _ _ _ h => h
      case hw19 => rfl
      case hy19 =>
        intro w' hSw
        obtain ⟨r0, r1, r2, r3, r4, r5, r6, r7⟩ := hSw
        go_simp
        try exact rfl
      simp only [Act.put, List.setIfInBounds_toArray, List.set_cons_zero, List.set_cons_succ]
      refine wpLate_take (i := 20) (oi := ?oi20) (v := ?v20) [23, 24, 25, 26, 27, 28, 29, 30, 31, 32] ?hi20 (by kernel_rfl) (by kernel_rfl) (by kernel_rfl) (by kernel_rfl) (by kernel_rfl) ?hQ20 (Or.inl ⟨?hw20, ?hy20⟩) hS0 ?rest20
      case hi20 => (simp only [List.getElem?_toArray, List.getElem?_cons_zero, List.getElem?_cons_succ]; rfl)
      case hQ20 => exact fun _ _ _ h => h
      case hw20 => rfl
      case hy20 =>
        intro w' hSw
        obtain ⟨r0, r1, r2, r3, r4, r5, r6, r7⟩ := hSw
        go_simp
        try exact rfl
      simp only [Act.put, List.setIfInBounds_toArray, List.set_cons_zero, List.set_cons_succ]
      refine wpLate_take (i := 21) (oi := ?oi21) (v := ?v21) [22, 23, 24, 25, 26, 27, 28, 29, 30, 31, 32] ?hi21 (by kernel_rfl) (by kernel_rfl) (by kernel_rfl) (by kernel_rfl) (by kernel_rfl) ?hQ21 (Or.inl ⟨?hw21, ?hy21⟩) hS0 ?rest21
      case hi21 => (simp only [List.getElem?_toArray, List.getElem?_cons_zero, List.getElem?_cons_succ]; rfl)
      case hQ21 => exact fun _ _ _ h => h
      case hw21 => rfl
      case hy21 =>
        intro w' hSw
        obtain ⟨r0, r1, r2, r3, r4, r5, r6, r7⟩ := hSw
        go_simp
        try exact rfl
      simp only [Act.put, List.setIfInBounds_toArray, List.set_cons_zero, List.set_cons_succ]
      refine wpLate_take (i := 22) (oi := ?oi22) (v := ?v22) [23, 24, 25, 26, 27, 28, 29, 30, 31, 32] ?hi22 (by kernel_rfl) (by kernel_rfl) (by kernel_rfl) (by kernel_rfl) (by kernel_rfl) ?hQ22 (Or.inl ⟨?hw22, ?hy22⟩) hS0 ?rest22
      case hi22 => (simp only [List.getElem?_toArray, List.getElem?_cons_zero, List.getElem?_cons_succ]; rfl)
      case hQ22 => exact fun _ _ _ h => h
      case hw22 => rfl
      case hy22 =>
        intro w' hSw
        obtain ⟨r0, r1, r2, r3, r4, r5, r6, r7⟩ := hSw
        go_simp
        try exact rfl
      simp only [Act.put, List.setIfInBounds_toArray, List.set_cons_zero, List.set_cons_succ]
      refine wpLate_take (i := 23) (oi := ?oi23) (v := ?v23) [24, 25, 26, 27, 28, 29, 30, 31, 32] ?hi23 (by kernel_rfl) (by kernel_rfl) (by kernel_rfl) (by kernel_rfl) (by kernel_rfl) ?hQ23 (Or.inl ⟨?hw23, ?hy23⟩) hS0 ?rest23
      case hi23 => (simp only [List.getElem?_toArray, List.getElem?_cons_zero, List.getElem?_cons_succ]; rfl)
      case hQ23 => exact fun _ _ _ h => h
      case hw23 => rfl
      case hy23 =>
        intro w' hSw
        obtain ⟨r0, r1, r2, r3, r4, r5, r6, r7⟩ := hSw
        go_simp
        try exact rfl
      simp only [Act.put, List.setIfInBounds_toArray, List.set_cons_zero, List.set_cons_succ]
      refine wpLate_take (i := 24) (oi := ?oi24) (v := ?v24) [25, 26, 27, 28, 29, 30, 31, 32] ?hi24 (by kernel_rfl) (by kernel_rfl) (by kernel_rfl) (by kernel_rfl) (by kernel_rfl) ?hQ24 (Or.inl ⟨?hw24, ?hy24⟩) hS0 ?rest24
      case hi24 => (simp only [List.getElem?_toArray, List.getElem?_cons_zero, List.getElem?_cons_succ]; rfl)
      case hQ24 => exact fun _ _ _ h => h
      case hw24 => rfl
      case hy24 =>
        intro w' hSw
        obtain ⟨r0, r1, r2, r3, r4, r5, r6, r7⟩ := hSw
        go_simp
        try exact rfl
      simp only [Act.put, List.setIfInBounds_toArray, List.set_cons_zero, List.set_cons_succ]
      refine wpLate_take (i := 25) (oi := ?oi25) (v := ?v25) [26, 27, 28, 29, 30, 31, 32] ?hi25 (by kernel_rfl) (by kernel_rfl) (by kernel_rfl) (by kernel_rfl) (by kernel_rfl) ?hQ25 (Or.inl ⟨?hw25, ?hy25⟩) hS0 ?rest25
      case hi25 => (simp only [List.getElem?_toArray, List.getElem?_cons_zero, List.getElem?_cons_succ]; rfl)
      case hQ25 => exact fun _ _ _ h => h
      case hw25 => rfl
      case hy25 =>
        intro w' hSw
        obtain ⟨r0, r1, r2, r3, r4, r5, r6, r7⟩ := hSw
        go_simp
        try exact rfl
      simp only [Act.put, List.setIfInBounds_toArray, List.set_cons_zero, List.set_cons_succ]
      refine wpLate_one (i := 11) (o := ?o11) (by kernel_rfl) ?ho11 ?hk11
      case ho11 => (simp only [List.getElem?_toArray, List.getElem?_cons_zero, List.getElem?_cons_succ]; rfl)
      intro K hK
      go_simp
      refine (HIN1.out _).mono ?_
      rintro r w1 ⟨rfl, hby⟩
      have HT1 := Lib.hid (HT.out.step hby)
      clear hby
      refine hK.out _ _ (fun _ => HT1.out.keepT8 (B := X) (t := 60) (c0 := .int .i64 x.a) (c1 := .int .i64 x.b) (c2 := .int .i64 x.c) (c3 := .int .i64 x.d) (T := T) (t' := 58) (c0' := u) (c1' := v) (c2' := .int .i64 0) (c3' := .int .i64 0) (c4' := .int .i64 0) (by simp) (by simp) HUN.out hNw hm1l hm2l HBE.out.1 HBE.out.2) ?_
      clear hK K
      try simp only [Act.put, List.setIfInBounds_toArray, List.set_cons_zero, List.set_cons_succ]
      refine wpLate_one (i := 12) (o := ?o12) (by kernel_rfl) ?ho12 ?hk12
      case ho12 => (simp only [List.getElem?_toArray, List.getElem?_cons_zero, List.getElem?_cons_succ]; rfl)
      intro K hK
      go_simp
      have HT2 := Lib.hid (HT1.out.more #[iv n1] 3)
      refine hK.out _ _ (fun _ => HT2.out.keepT8 (B := X) (t := 60) (c0 := .int .i64 x.a) (c1 := .int .i64 x.b) (c2 := .int .i64 x.c) (c3 := .int .i64 x.d) (T := T) (t' := 58) (c0' := u) (c1' := v) (c2' := .int .i64 0) (c3' := .int .i64 0) (c4' := .int .i64 0) (by simp) (by simp) HUN.out hNw hm1l hm2l HBE.out.1 HBE.out.2) ?_
      clear hK K
      try simp only [Act.put, List.setIfInBounds_toArray, List.set_cons_zero, List.set_cons_succ]
      refine wpLate_one (i := 13) (o := ?o13) (by kernel_rfl) ?ho13 ?hk13
      case ho13 => (simp only [List.getElem?_toArray, List.getElem?_cons_zero, List.getElem?_cons_succ]; rfl)
      intro K hK
      refine step_append_lies _ (by rfl) _ _ _ (by rfl) wa.heap.size 3 i3 (iv 0) 1 8 Try.underlying33 hi hz0 hzz hzs rfl (by decide) u k ((icL zs bs k).map iv) (by rfl) HT2.out.ra _ 1 1 [iv n1] (by rfl) rfl (HT2.out.news (t := 3) (cs := #[iv n1]) (by simp)) (by simp [Value.oneCell']) (by decide) (by unfold maxLen; omega) (by omega) HT2.out.bl.size _ rfl ?_
      intro g3 c3 wy hown hgrow hat _
      have HT3 := Lib.hid (HT2.out.left hown hgrow hat)
      clear hown hgrow hat
      refine hK.out _ _ (fun _ => HT3.out.keepT8 (B := X) (t := 60) (c0 := .int .i64 x.a) (c1 := .int .i64 x.b) (c2 := .int .i64 x.c) (c3 := .int .i64 x.d) (T := T) (t' := 58) (c0' := u) (c1' := v) (c2' := .int .i64 0) (c3' := .int .i64 0) (c4' := .int .i64 0) (by simp) (by simp) HUN.out hNw hm1l hm2l HBE.out.1 HBE.out.2) ?_
      clear hK K
      try simp only [Act.put, List.setIfInBounds_toArray, List.set_cons_zero, List.set_cons_succ]
      refine wpLate_one (i := 26) (o := ?o26) (by kernel_rfl) ?ho26 ?hk26
      case ho26 => (simp only [List.getElem?_toArray, List.getElem?_cons_zero, List.getElem?_cons_succ]; rfl)
      intro K hK
      go_simp
      refine (HIN2.out _).mono ?_
      rintro r w4 ⟨rfl, hby⟩
      have HT4 := Lib.hid (HT3.out.step hby)
      clear hby
      refine hK.out _ _ (fun _ => HT4.out.keepT8 (B := X) (t := 60) (c0 := .int .i64 x.a) (c1 := .int .i64 x.b) (c2 := .int .i64 x.c) (c3 := .int .i64 x.d) (T := T) (t' := 58) (c0' := u) (c1' := v) (c2' := .int .i64 0) (c3' := .int .i64 0) (c4' := .int .i64 0) (by simp) (by simp) HUN.out hNw hm1l hm2l HBE.out.1 HBE.out.2) ?_
      clear hK K
      try simp only [Act.put, List.setIfInBounds_toArray, List.set_cons_zero, List.set_cons_succ]
      refine wpLate_one (i := 27) (o := ?o27) (by kernel_rfl) ?ho27 ?hk27
      case ho27 => (simp only [List.getElem?_toArray, List.getElem?_cons_zero, List.getElem?_cons_succ]; rfl)
      intro K hK
      go_simp
      have HT5 := Lib.hid (HT4.out.more #[iv n2] 3)
      refine hK.out _ _ (fun _ => HT5.out.keepT8 (B := X) (t := 60) (c0 := .int .i64 x.a) (c1 := .int .i64 x.b) (c2 := .int .i64 x.c) (c3 := .int .i64 x.d) (T := T) (t' := 58) (c0' := u) (c1' := v) (c2' := .int .i64 0) (c3' := .int .i64 0) (c4' := .int .i64 0) (by simp) (by simp) HUN.out hNw hm1l hm2l HBE.out.1 HBE.out.2) ?_
      clear hK K
      try simp only [Act.put, List.setIfInBounds_toArray, List.set_cons_zero, List.set_cons_succ]
      refine wpLate_one (i := 28) (o := ?o28) (by kernel_rfl) ?ho28 ?hk28
      case ho28 => (simp only [List.getElem?_toArray, List.getElem?_cons_zero, List.getElem?_cons_succ]; rfl)
      intro K hK
      refine step_append_lies _ (by rfl) _ _ _ (by rfl) wa.heap.size 3 i3 (iv 0) 1 8 Try.underlying33 hi hz0 hzz hzs rfl (by decide) v k ((paL zs bs k).map iv) (by rfl) HT5.out.rb _ 1 1 [iv n2] (by rfl) rfl (HT5.out.news (t := 3) (cs := #[iv n2]) (by simp)) (by simp [Value.oneCell']) (by decide) (by unfold maxLen; omega) (by omega) HT5.out.bl.size _ rfl ?_
      intro g4 c4 wy hown hgrow hat _
      have HT6 := Lib.hid (HT5.out.right hown hgrow hat)
      clear hown hgrow hat
      refine hK.out _ _ (fun _ => HT6.out.keepT8 (B := X) (t := 60) (c0 := .int .i64 x.a) (c1 := .int .i64 x.b) (c2 := .int .i64 x.c) (c3 := .int .i64 x.d) (T := T) (t' := 58) (c0' := u) (c1' := v) (c2' := .int .i64 0) (c3' := .int .i64 0) (c4' := .int .i64 0) (by simp) (by simp) HUN.out hNw hm1l hm2l HBE.out.1 HBE.out.2) ?_
      clear hK K
      try simp only [Act.put, List.setIfInBounds_toArray, List.set_cons_zero, List.set_cons_succ]
      refine wpLate_one (i := 29) (o := ?o29) (by kernel_rfl) ?ho29 ?hk29
      case ho29 => (simp only [List.getElem?_toArray, List.getElem?_cons_zero, List.getElem?_cons_succ]; rfl)
      intro K hK
      go_simp
      refine hK.out _ _ (fun _ => HT6.out.keepT8 (B := X) (t := 60) (c0 := .int .i64 x.a) (c1 := .int .i64 x.b) (c2 := .int .i64 x.c) (c3 := .int .i64 x.d) (T := T) (t' := 58) (c0' := u) (c1' := v) (c2' := .int .i64 0) (c3' := .int .i64 0) (c4' := .int .i64 0) (by simp) (by simp) HUN.out hNw hm1l hm2l HBE.out.1 HBE.out.2) ?_
      clear hK K
      try simp only [Act.put, List.setIfInBounds_toArray, List.set_cons_zero, List.set_cons_succ]
      obtain ⟨t0, t1, tf0, tf1, tl⟩ := HT6.out.openT (T := T) (t := 58) (c0 := u) (c1 := v) (c2 := .int .i64 0) (c3 := .int .i64 0) (c4 := .int .i64 0) (by simp)
      refine wpLate_one (i := 30) (o := ?o30) (by kernel_rfl) ?ho30 ?hk30
      case ho30 => (simp only [List.getElem?_toArray, List.getElem?_cons_zero, List.getElem?_cons_succ]; rfl)
      intro K hK
      go_simp
      refine hK.out _ _ (fun h => absurd (show false = true from h) (by decide)) ?_
      clear hK K
      try simp only [Act.put, List.setIfInBounds_toArray, List.set_cons_zero, List.set_cons_succ]
      refine wpLate_one (i := 31) (o := ?o31) (by kernel_rfl) ?ho31 ?hk31
      case ho31 => (simp only [List.getElem?_toArray, List.getElem?_cons_zero, List.getElem?_cons_succ]; rfl)
      intro K hK
      go_simp
      refine hK.out _ _ (fun h => absurd (show false = true from h) (by decide)) ?_
      clear hK K
      try simp only [Act.put, List.setIfInBounds_toArray, List.set_cons_zero, List.set_cons_succ]
      refine wpLate_one (i := 32) (o := ?o32) (by kernel_rfl) ?ho32 ?hk32
      case ho32 => (simp only [List.getElem?_toArray, List.getElem?_cons_zero, List.getElem?_cons_succ]; rfl)
      intro K hK
      go_simp
      refine hK.out _ _ (fun h => absurd (show false = true from h) (by decide)) ?_
      clear hK K
      try simp only [Act.put, List.setIfInBounds_toArray, List.set_cons_zero, List.set_cons_succ]
      refine wpLate_done (by kernel_rfl) ?_ _
      try simp only [Act.put, List.setIfInBounds_toArray, List.set_cons_zero, List.set_cons_succ]
      have hTw : wa.heap.size ≤ T := by have := HE.out.1; omega
      have HT7 := Lib.hid (((HT6.out.less (hs' := [(T, 58, #[u, v, .int .i64 0, .int .i64 0, .int .i64 0])]) (by simp)).set hTw (by simp) 0 (.slice (some ⟨g3, 0, none⟩) (k + 1) c3)).set hTw (by simp) 1 (.slice (some ⟨g4, 0, none⟩) (k + 1) c4))
      clear HT HT1 HT2 HT3 HT4 HT5 HT6 t0 t1 tf0 tf1 tl
      generalize ((wy.setCell ⟨T, 0, none⟩ (.slice (some ⟨g3, 0, none⟩) (k + 1) c3)).setCell ⟨T, 1, none⟩ (.slice (some ⟨g4, 0, none⟩) (k + 1) c4)) = W9 at HT7 ⊢
      have HT8 : Hid (Two wa W9 [(T, 58, #[.slice (some ⟨g3, 0, none⟩) (k + 1) c3, .slice (some ⟨g4, 0, none⟩) (k + 1) c4, .int .i64 0, .int .i64 0, .int .i64 0])] 3 1 (.slice (some ⟨g3, 0, none⟩) (k + 1) c3) (.slice (some ⟨g4, 0, none⟩) (k + 1) c4) (k + 1) (k + 1) ((icL zs bs (k + 1)).map iv) ((paL zs bs (k + 1)).map iv)) := by
        rw [icL_next, paL_next, map_iv_next, map_iv_next, ← HN.out.1, ← HN.out.2]
        exact HT7.out
      clear HT7
      have t0 : W9.cell? ⟨T, 0, none⟩ = some (.slice (some ⟨g3, 0, none⟩) (k + 1) c3) := HT8.out.cell (t := 58) (List.mem_singleton_self _) 0
      have i0 : W9.cell? ⟨g3, k, none⟩ = some (.int .i64 n1) := by
        have hr := HT8.out.ra
        have hm : IMem W9 g3 (icL zs bs (k + 1)) := IMem.of_own (base := wa.heap.size) (cap := c3) (by rw [icL_len]; exact hr)
        have := hm.cell (k := k) (by rw [icL_len]; omega)
        rw [icL_at (by omega), ← HN.out.1] at this
        exact this
      have hsb := sum_bd (bs := bs) HRK.out k (by omega)
      have hnb := fI_bd (bs := bs) HRK.out hlt
      rw [← HN.out.1] at hnb
      obtain ⟨sm, hsm⟩ : ∃ sm, sm = sumL (icL zs bs k) := ⟨_, rfl⟩
      have hnx : sumL (icL zs bs (k + 1)) = sm + n1 := by rw [icL_next, sumL_snoc, ← HN.out.1, hsm]
      rw [← hsm] at hsb ⊢
      have HSM := Lib.hid hnx
      have ws : IntKind.i64.wrap (sm + n1) = sm + n1 := by rw [IntKind.wrap_i64]; omega
      clear hsm hnx
      have hTT := HE.out.1
      subst hTT
      go_wp2_with fail
      go_roundw
      case rel => exact ⟨k + 1, by omega, by go_num, by rw [HSM.out], _, _, HT8.out⟩
      case measure => simp [intOf]; omega
    · have hkl : k = zs.length := by omega
      subst hkl
      rw [← hT]
      have hn1 := (rink_parts HRK.out).2.1
      obtain ⟨Bi, ci, rfl, hbi, hbi'⟩ := hI.ra.form (by omega)
      obtain ⟨Bp, cp, rfl, hbp1, hbp'⟩ := hI.rb.form (by omega)
      have hTT := hI.hs _ (List.mem_singleton_self _)
      have HD : Hid (T ≠ Bi ∧ T ≠ Bp ∧ Bi ≠ Bp) := by
        refine ⟨fun e => hTT.2.1 (by simp [Value.ownBlock, e]), fun e => hTT.2.2 (by simp [Value.ownBlock, e]), fun e => ?_⟩
        rcases hI.ne with h | h
        · simp [Value.ownBlock] at h
        · exact h (by simp [Value.ownBlock, e])
      have HL : Hid (LvM wr wr T Bi Bp ci cp zs.length (tr0 zs bs)) := by
        refine ⟨Only.refl _ _, hTT.1, ?_, ?_, by simp [tr0, icL_len], by simp [tr0, paL_len]⟩
        · exact IMem.of_own (base := wa.heap.size) (cap := ci) (by simp only [tr0]; rw [icL_len]; exact hI.ra)
        · exact IMem.of_own (base := wa.heap.size) (cap := cp) (by simp only [tr0]; rw [paL_len]; exact hI.rb)
      have HB1 := Lib.hid (belowT HBa.out hI.bl)
      have HNW : Hid (w.heap.size ≤ T ∧ w.heap.size ≤ Bi ∧ w.heap.size ≤ Bp) := ⟨by omega, by omega, by omega⟩
      clear hI HI hTT hbi hbi' hbp1 hbp'
      obtain ⟨fs, hfs⟩ : ∃ fs, fs = sumL (icL zs bs zs.length) := ⟨_, rfl⟩
      have HFS := Lib.hid (And.intro hfs (sum_bd (bs := bs) HRK.out zs.length (Nat.le_refl _)))
      rw [← hfs]
      have hlts : ¬ ((zs.length : Int) < zs.length) := by omega
      obtain ⟨w3, rfl⟩ : ∃ w3, w3 = wr := ⟨_, rfl⟩
      clear hfs hT hsz
      go_wp2_with fail
      go_loopw [89] (fun i wr => ∃ k : Nat, k ≤ es.length ∧ i = .int .i64 k ∧ Hid (Below w3.heap.size w3 wr ∧ ∀ e ∈ es.take k, e.ok zs.length = true)) (fun i _ => es.length - (intOf i).toNat)
      case atStart => exact ⟨0, Nat.zero_le _, rfl, Below.refl _ _, fun e he => by simp at he⟩
      case round =>
        obtain ⟨k, hk, rfl, HI⟩ := hrel
        by_cases hlt : k < es.length
        · have hlt' : (k : Int) < es.length := by omega
          obtain ⟨g, o, eA, hg, d0, d1, d2, d3, d4⟩ := (he.below (belowT HB1.out HI.out.1)) k hlt
          obtain ⟨x, hx⟩ : ∃ x, x = es[k] := ⟨_, rfl⟩
          rw [← hx] at d0 d1 d2 d3 d4
          have HX := Lib.hid hx
          clear hx
          subst eA
          have hgw : g < wr.heap.size := by have := (belowT HB1.out HI.out.1).size; omega
          have HB2 := Lib.hid (belowT HI.out.1 (below1 wr (.cells #[.int .i64 x.k, .int .i64 x.f, .int .i64 x.t, .int .i64 x.x, .int .i64 x.y] 54)))
          go_wp2_with fail
          refine (eventR_any x zs.length _ (by omega) (by omega)).mono ?_
          rintro r wb ⟨rfl, hb⟩
          have HB3 := Lib.hid (belowT HB2.out hb)
          clear hb HB2
          cases hxo : x.ok zs.length
          · obtain ⟨be, bi⟩ := play_bad HRK.out hes ⟨x, by rw [HX.out]; exact List.getElem_mem hlt, hxo⟩
            obtain ⟨e1, e2⟩ := playR_err be
            have hpl := play_any zs es A cap (some ⟨g, o, none⟩) cap' wb (hz.step (belowT HB1.out HB3.out)) (he.step (belowT HB1.out HB3.out)) hl hl'
            have HPL := Lib.hid hpl
            clear hpl hxo
            go_wp2_with fail
            refine HPL.out.mono ?_
            intro r wd hp
            obtain ⟨A1, cap1, rfl, hb, -⟩ := play_row hp
            clear hp HPL
            have hne : ((playR zs es).e != 0) = true := by simpa using be
            obtain ⟨pe, hpe⟩ : ∃ pe, pe = (playR zs es).e := ⟨_, rfl⟩
            obtain ⟨pi, hpi⟩ : ∃ pi, pi = (playR zs es).i := ⟨_, rfl⟩
            rw [e1, e2, ← hpe, ← hpi]
            rw [← hpe] at hne
            rw [← hpi] at bi
            have HBd := Lib.hid (belowT (belowT (belowT HB1.out HB3.out) hb) (below1 wd (.cells #[iv 0, iv 0, iv 0, iv 0, iv 0, iv 0] 29)))
            clear hpe hpi e1 e2 be hb
            go_wp2_with fail
            refine (alive_any _).mono ?_
            rintro r wl ⟨rfl, hbl⟩
            have HF2 := Lib.hid (belowT HBd.out hbl)
            clear hbl
            go_wp2_with fail
            go_ret
            exact ⟨rfl, HF2.out⟩
          · have HI2 : Hid (Below w3.heap.size w3 wb ∧ ∀ e ∈ es.take (k + 1), e.ok zs.length = true) := by
              refine ⟨HB3.out, fun e hem => ?_⟩
              rw [List.take_add_one, List.getElem?_eq_getElem hlt] at hem
              rcases List.mem_append.1 hem with hem | hem
              · exact HI.out.2 e hem
              · simp at hem
                rw [hem, ← HX.out]
                exact hxo
            clear hxo HI
            go_wp2_with fail
            go_roundw
            case rel => exact ⟨k + 1, by omega, by go_num, HI2⟩
            case measure => simp [intOf]; omega
        · have hkl : k = es.length := by omega
          subst hkl
          have hok := HI.out.2
          rw [List.take_length] at hok
          have HW := Lib.hid (belowT HB1.out HI.out.1)
          have HL4 : Hid (LvM wr wr T Bi Bp ci cp zs.length (tr0 zs bs)) := by
            have h := HL.out.step HI.out.1
            exact ⟨Only.refl _ _, h.x, h.i, h.p, h.li, h.lp⟩
          have HOK := Lib.hid hok
          have hbr : URow wr w.heap.size Ab bs := HUW.out.below HW.out
          have HLV := Lib.hid (live_any T Bi Bp ci cp zs.length es bs A' Ab cap' capb w.heap.size (tr0 zs bs) wr HL4.out HD.out HNW.out (he.below HW.out) hbr HU.out.2 hbp hlb hes hl24 hok (tb0 HRK.out))
          clear hbr hok HI HL HB1
          obtain ⟨⟨el, tt⟩, hR⟩ : ∃ R, R = liveL (byF bs) es 0 (tr0 zs bs) := ⟨_, rfl⟩
          have hel := liveL_len1 (byF bs) es 0 (tr0 zs bs)
          rw [← hR] at hel
          simp only at hel
          have HR := Lib.hid hR
          clear hR
          go_wp2_with fail
          refine HLV.out.mono ?_
          rintro r wb ⟨A8, c8, rfl, hm, hrow⟩
          rw [← HR.out] at hm hrow ⊢
          simp only at hm hrow ⊢
          have hbN : Below w.heap.size wr wb := hm.below HNW.out (by have := HW.out.size; exact this)
          have HM : Hid (LvM wb wb T Bi Bp ci cp zs.length tt ∧ Below w.heap.size w wb) := ⟨⟨Only.refl _ _, hm.x, hm.i, hm.p, hm.li, hm.lp⟩, HW.out.trans hbN⟩
          obtain ⟨isB, hisB⟩ : ∃ b, b = decide (∀ x ∈ tt.ice, x ≤ 20000) := ⟨_, rfl⟩
          rw [← hisB]
          have HIS := Lib.hid hisB
          clear hisB
          have hpl := play_any zs el A cap A8 c8 wb (hz.step HM.out.2) hrow hl (by omega)
          rw [hel] at hpl
          have HPL := Lib.hid hpl
          have hcs := play_live HRK.out hes HOK.out HR.out
          clear hpl hrow hm hbN HL4 HLV
          have hlts2 : ¬ ((es.length : Int) < es.length) := by omega
          go_wp2_with fail
          refine HPL.out.mono ?_
          intro r wd hp
          obtain ⟨A9, c9, rfl, hb9, hz9⟩ := play_row hp
          clear hp HPL
          have herr := @playR_err zs el
          obtain ⟨⟨zz, s9, i9, e9⟩, hR9⟩ : ∃ R, R = playR zs el := ⟨_, rfl⟩
          rw [← hR9] at hcs herr hz9 ⊢
          simp only at hcs herr hz9 ⊢
          clear hR9
          rcases hcs with ⟨rfl, hi9⟩ | ⟨rfl, rfl, hinv⟩
          · obtain ⟨rfl, rfl⟩ := herr (by decide)
            have HBd := Lib.hid (belowT (belowT HM.out.2 hb9) (below1 wd (.cells #[iv 0, iv 0, iv 0, iv 0, iv 0, iv 0] 29)))
            clear hb9 hz9 HM herr HIS
            go_wp2_with fail
            refine (alive_any _).mono ?_
            rintro r wl ⟨rfl, hbl⟩
            have HF2 := Lib.hid (belowT HBd.out hbl)
            clear hbl
            go_wp2_with fail
            go_ret
            exact ⟨rfl, HF2.out⟩
          · have hle := inv_le hinv
            have hB : isB = true := by rw [HIS.out]; simpa using hle
            subst hB
            have hzz : zz.length = zs.length := by have := hinv.li; have h2 := HM.out.1.li; simp only at this; omega
            obtain ⟨w7, hw7⟩ : ∃ w7, w7 = wd.alloc (.cells #[iv s9.f1, iv s9.f2, iv s9.p1, iv s9.p2, iv s9.w1, iv s9.w2] 29) := ⟨_, rfl⟩
            have H7 : Hid (Below w.heap.size w w7 ∧ LvM w7 w7 T Bi Bp ci cp zs.length tt ∧ ZRow w7 w7.heap.size A9 zz ∧ Has w7 wd.heap.size 29 (smc s9)) := by
              subst hw7
              have h := (HM.out.1.step hb9).step (below1 wd (.cells #[iv s9.f1, iv s9.f2, iv s9.p1, iv s9.p2, iv s9.w1, iv s9.w2] 29))
              exact ⟨belowT (belowT HM.out.2 hb9) (below1 _ _), ⟨Only.refl _ _, h.x, h.i, h.p, h.li, h.lp⟩, hz9.step (below1 _ _), Has.new _ _ _⟩
            have HINV := Lib.hid hinv
            clear hinv hle HIS hb9 hz9 HM herr
            rw [hzz]
            go_wp2_with fail
            rw [← hw7]
            clear hw7
            go_loopw [167, 23] (fun i s wr => ∃ k : Nat, k ≤ zs.length ∧ i = .int .i64 k ∧ s = .int .i64 (sumL (tt.ice.take k)) ∧ Hid (Below w7.heap.size w7 wr)) (fun i _ _ => zs.length - (intOf i).toNat)
            case atStart => exact ⟨0, Nat.zero_le _, rfl, rfl, Below.refl _ _⟩
            case round =>
              obtain ⟨k, hk, rfl, rfl, HI⟩ := hrel
              by_cases hlt : k < zs.length
              · have hlt' : (k : Int) < zs.length := by omega
                have hltz : k < zz.length := by omega
                obtain ⟨g, o, eA, hg, d0, d1, d2, d3⟩ := (H7.out.2.2.1.below HI.out) k hltz
                have hin := inv_has HINV.out hltz
                obtain ⟨⟨ya, yb, yc, yd⟩, hy⟩ : ∃ y, y = zz[k] := ⟨_, rfl⟩
                rw [← hy] at d0 d1 d2 d3 hin
                simp only at d0 d1 d2 d3 hin
                clear hy
                subst eA
                have hgw : g < wr.heap.size := by have := HI.out.size; omega
                obtain ⟨ik, hik⟩ : ∃ ik, ik = tt.ice.getD k 0 := ⟨_, rfl⟩
                obtain ⟨pk, hpk⟩ : ∃ pk, pk = tt.paint.getD k 0 := ⟨_, rfl⟩
                have hLw := H7.out.2.1.step HI.out
                obtain ⟨t0, t1, -, -, -, -, -, -, i0, -, p0, -⟩ := hLw.cells hlt
                rw [← hik] at i0 hin
                rw [← hpk] at p0 hin
                have tl := hLw.x.lt
                have il := hLw.i.lt
                have pl := hLw.p.lt
                obtain ⟨X, hX⟩ : ∃ X, X = wr.heap.size := ⟨_, rfl⟩
                have HK : Hid (TrK (wr.alloc (.cells #[.int .i64 ya, .int .i64 yb, .int .i64 yc, .int .i64 yd] 60)) X T Bi Bp ci cp zs.length k ya yb yc yd ik pk) := by
                  rw [hX]
                  have hb1 := below1 wr (.cells #[.int .i64 ya, .int .i64 yb, .int .i64 yc, .int .i64 yd] 60)
                  have h2 := hLw.step hb1
                  exact ⟨Has.new _ _ _, tt, ⟨Only.refl _ _, h2.x, h2.i, h2.p, h2.li, h2.lp⟩, hlt, hik, hpk⟩
                have HBw := Lib.hid (belowT HI.out (below1 wr (.cells #[.int .i64 ya, .int .i64 yb, .int .i64 yc, .int .i64 yd] 60)))
                have hst := sum_take (inv_bd HINV.out) k (by rw [H7.out.2.1.li]; omega)
                have hnx := sum_next (l := tt.ice) (k := k) (by rw [H7.out.2.1.li]; exact hlt)
                rw [← hik] at hnx
                obtain ⟨sm, hsm⟩ : ∃ sm, sm = sumL (tt.ice.take k) := ⟨_, rfl⟩
                rw [← hsm] at hst hnx ⊢
                have HNX := Lib.hid hnx
                have ws : IntKind.i64.wrap (sm + ik) = sm + ik := by rw [IntKind.wrap_i64]; omega
                clear hsm hnx hLw HI hik hpk
                have HH1 : Hid (∀ W', Calls Try.prog 33 #[sv ya yb, iv ik] W' fun e w' => e = .returned (.bool true) ∧ Below W'.heap.size W' w') := fun W' => by
                  have := hasT_any ya yb ik W'
                  rw [decide_eq_true hin.1] at this
                  exact this
                have HH2 : Hid (∀ W', Calls Try.prog 33 #[sv yc yd, iv pk] W' fun e w' => e = .returned (.bool true) ∧ Below W'.heap.size W' w') := fun W' => by
                  have := hasT_any yc yd pk W'
                  rw [decide_eq_true hin.2.1] at this
                  exact this
                have z0 : decide (ya < 0) = false := by simp; omega
                have z1 : decide (20000 < yb) = false := by simp; omega
                go_upto_region 29 with fail
                rw [← hX]
                have HK := Lib.hid (HK.out.step (Below.refl _ _).drew)
                have HBw := Lib.hid HBw.out.drew
                clear hX t0 t1 i0 p0 tl il pl hin
                go_region_held3 (fun w' => w'.cell? ⟨X, 0, none⟩ = some (.int .i64 ya) ∧ w'.cell? ⟨X, 1, none⟩ = some (.int .i64 yb) ∧ w'.cell? ⟨X, 2, none⟩ = some (.int .i64 yc) ∧ w'.cell? ⟨X, 3, none⟩ = some (.int .i64 yd) ∧ w'.cell? ⟨T, 0, none⟩ = some (.slice (some ⟨Bi, 0, none⟩) zs.length ci) ∧ w'.cell? ⟨T, 1, none⟩ = some (.slice (some ⟨Bp, 0, none⟩) zs.length cp) ∧ w'.cell? ⟨Bi, k, none⟩ = some (.int .i64 ik) ∧ w'.cell? ⟨Bp, k, none⟩ = some (.int .i64 pk)) (exact HK.out.keep) (first | (go_at_call 33; with_reducible refine (HH1.out _).mono ?_; rintro r wy ⟨rfl, hby⟩; (have HK := Lib.hid (HK.out.step hby)); (have HBw := Lib.hid (belowT HBw.out hby))) | (go_at_call 33; with_reducible refine (HH2.out _).mono ?_; rintro r wy ⟨rfl, hby⟩; (have HK := Lib.hid (HK.out.step hby)); (have HBw := Lib.hid (belowT HBw.out hby))))
                all_goals go_wp2_with fail
                all_goals go_roundw
                all_goals first
                  | exact ⟨k + 1, by omega, by go_num, by rw [HNX.out], HBw⟩
                  | (simp [intOf]; omega)
              · have hkl : k = zs.length := by omega
                subst hkl
                have hlts3 : ¬ ((zs.length : Int) < zs.length) := by omega
                have htk : tt.ice.take zs.length = tt.ice := List.take_of_length_le (by rw [H7.out.2.1.li]; exact Nat.le_refl _)
                rw [htk]
                have hlb2 := sum_take (inv_bd HINV.out) zs.length (by rw [H7.out.2.1.li]; exact Nat.le_refl _)
                rw [htk] at hlb2
                clear htk
                have htb := liveL_tb (byF bs) hl24 es 0 (tr0 zs bs) 20000 (by simp [tr0, icL_len]) HOK.out (tb0 HRK.out)
                rw [← HR.out] at htb
                have htf := htb.f
                have htp := htb.p
                have htw := htb.w
                simp only at htf htp htw
                have hfb := HFS.out.2
                rw [← HFS.out.1] at hfb
                have hsum := HINV.out.sum
                rw [← HFS.out.1] at hsum
                have hf := HINV.out.fr
                have hp := HINV.out.pl
                have hwo := HINV.out.wo
                simp only at hf hp hwo
                have HZ : Hid (TrZ w wr wd.heap.size T Bi Bp ci cp zs.length s9 tt) := by
                  have h := H7.out.2.1.step HI.out
                  exact ⟨belowT H7.out.1 HI.out, H7.out.2.2.2.below HI.out H7.out.2.2.2.lt, ⟨Only.refl _ _, h.x, h.i, h.p, h.li, h.lp⟩⟩
                obtain ⟨ls, hls⟩ : ∃ ls, ls = sumL tt.ice := ⟨_, rfl⟩
                rw [← hls] at hlb2 hsum ⊢
                obtain ⟨fr, hfr⟩ : ∃ fr, fr = tt.fr := ⟨_, rfl⟩
                obtain ⟨pl, hpl⟩ : ∃ pl, pl = tt.pl := ⟨_, rfl⟩
                obtain ⟨wo, hwoe⟩ : ∃ wo, wo = tt.wo := ⟨_, rfl⟩
                rw [← hfr] at htf hf hsum
                rw [← hpl] at htp hp hsum
                rw [← hwoe] at htw hwo hsum
                have HE := Lib.hid (And.intro hfr (And.intro hpl hwoe))
                have HC1 : Hid (∀ W', Calls Try.prog 33 #[sv s9.f1 s9.f2, iv fr] W' fun e w' => e = .returned (.bool true) ∧ Below W'.heap.size W' w') := fun W' => by
                  have := hasT_any s9.f1 s9.f2 fr W'
                  rw [decide_eq_true hf] at this
                  exact this
                have HC2 : Hid (∀ W', Calls Try.prog 33 #[sv s9.p1 s9.p2, iv pl] W' fun e w' => e = .returned (.bool true) ∧ Below W'.heap.size W' w') := fun W' => by
                  have := hasT_any s9.p1 s9.p2 pl W'
                  rw [decide_eq_true hp] at this
                  exact this
                have HC3 : Hid (∀ W', Calls Try.prog 33 #[sv s9.w1 s9.w2, iv wo] W' fun e w' => e = .returned (.bool true) ∧ Below W'.heap.size W' w') := fun W' => by
                  have := hasT_any s9.w1 s9.w2 wo W'
                  rw [decide_eq_true hwo] at this
                  exact this
                have hes' : (es.length : Int) ≤ 60 := h60z
                have ws1 : IntKind.i64.wrap (fs + fr) = fs + fr := by rw [IntKind.wrap_i64]; omega
                have ws2 : IntKind.i64.wrap (ls + pl) = ls + pl := by rw [IntKind.wrap_i64]; omega
                have ws3 : IntKind.i64.wrap (ls + pl + wo) = ls + pl + wo := by rw [IntKind.wrap_i64]; omega
                have weq : (fs + fr == ls + pl + wo) = true := by simpa using hsum
                clear hls hfr hpl hwoe hlb2 htb htf htp htw hfb hsum hf hp hwo hes' HI
                obtain ⟨c0, c1, c2, c3, c4, c5, t2, t3, t4⟩ := HZ.out.cells HE.out.1 HE.out.2.1 HE.out.2.2
                have zl := HZ.out.s.lt
                have tl := HZ.out.m.x.lt
                go_wp2_with fail
                refine (HC1.out _).mono ?_
                rintro r wg ⟨rfl, hby⟩
                have HZ2 := Lib.hid (HZ.out.step hby)
                clear c0 c1 c2 c3 c4 c5 t2 t3 t4 zl tl hby HZ
                obtain ⟨c0, c1, c2, c3, c4, c5, t2, t3, t4⟩ := HZ2.out.cells HE.out.1 HE.out.2.1 HE.out.2.2
                have zl := HZ2.out.s.lt
                have tl := HZ2.out.m.x.lt
                go_wp2_with fail
                refine (HC2.out _).mono ?_
                rintro r wh ⟨rfl, hby⟩
                have HZ3 := Lib.hid (HZ2.out.step hby)
                clear c0 c1 c2 c3 c4 c5 t2 t3 t4 zl tl hby HZ2
                obtain ⟨c0, c1, c2, c3, c4, c5, t2, t3, t4⟩ := HZ3.out.cells HE.out.1 HE.out.2.1 HE.out.2.2
                have zl := HZ3.out.s.lt
                have tl := HZ3.out.m.x.lt
                go_wp2_with fail
                refine (HC3.out _).mono ?_
                rintro r wi ⟨rfl, hby⟩
                have HZ4 := Lib.hid (HZ3.out.step hby)
                clear c0 c1 c2 c3 c4 c5 t2 t3 t4 zl tl hby HZ3
                obtain ⟨c0, c1, c2, c3, c4, c5, t2, t3, t4⟩ := HZ4.out.cells HE.out.1 HE.out.2.1 HE.out.2.2
                have zl := HZ4.out.s.lt
                have tl := HZ4.out.m.x.lt
                go_wp2_with fail
                refine (alive_any _).mono ?_
                rintro r wl ⟨rfl, hbl⟩
                have HF2 := Lib.hid (belowT HZ4.out.bl hbl)
                clear hbl
                go_wp2_with fail
                go_ret
                exact ⟨rfl, HF2.out⟩
end Go.Proofs.Ytogabjlhecnbbaa
