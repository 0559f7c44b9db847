/- The iterator over what is known. -/
import Derived.Test.YtdmpkeaanaoeaaaAirN
namespace Go.Proofs.Ytdmpkeaanaoeaaa
open Go.RowKit Go.Shelf
attribute [local go_sem] Oper.semAt_some
/-- a row of moments that lies below B -/
def MRow (w : World) (B : Nat) (A : Option Addr) (l : List Mo) : Prop :=
  ∀ k (h : k < l.length), ∃ g o, A = some ⟨g, o, none⟩ ∧ g < B ∧ ∀ j, j < 5 → w.cell? ⟨g, o + k * 5 + j, none⟩ = (moc l[k])[j]?
theorem MRow.below {w w' : World} {B : Nat} {A : Option Addr} {l : List Mo} (h : MRow w B A l) (hb : Below B w w') : MRow w' B A l := fun k hk => by
  obtain ⟨g, o, e, hg, c⟩ := h k hk
  exact ⟨g, o, e, hg, fun j hj => (hb.cell (p := ⟨g, _, none⟩) hg).trans (c j hj)⟩
theorem MRow.more {w : World} {B B' : Nat} {A : Option Addr} {l : List Mo} (h : MRow w B A l) (hB : B ≤ B') : MRow w B' A l := fun k hk => by
  obtain ⟨g, o, e, hg, c⟩ := h k hk
  exact ⟨g, o, e, by omega, c⟩
theorem MRow.step {w w' : World} {A : Option Addr} {l : List Mo} (h : MRow w w.heap.size A l) (hb : Below w.heap.size w w') : MRow w' w'.heap.size A l := (h.below hb).more hb.size
/-- what the iterator reads -/
structure FIt (W : World) (Bw Bl : Nat) (lo hi : Int) (ms : List Mo) (AL : Option Addr) (cl : Nat) : Prop where
  fw : Has W Bw 24 #[.int .i64 lo, .int .i64 hi]
  fl : Has W Bl 67 #[.slice AL ms.length cl]
  fr : MRow W W.heap.size AL ms
abbrev knc (c d : Co) : Array Value := #[.int .i64 c.w, .int .i64 c.came, .int .i64 c.out, .int .i64 c.dried, .int .i64 c.dew, .int .i64 d.w, .int .i64 d.came, .int .i64 d.out, .int .i64 d.dried, .int .i64 d.dew]
def knv (c d : Co) : Value := .agg (knc c d)
/-- the blocks since B are as they were -/
def Kept (B : Nat) (W W' : World) : Prop := ∀ b, B ≤ b → b < W.heap.size → W'.heap[b]? = W.heap[b]?
theorem Has.kept {W W' : World} {B g : Nat} {t : TypeId} {cs : Array Value} (h : Has W g t cs) (hk : Kept B W W') (hg : B ≤ g) : Has W' g t cs := (hk g hg h.lt).trans h
structure FS (W w : World) (J : Nat → World → Prop) (i : Nat) (c d : Co) : Prop where
  j : J i w
  fc : Has w W.heap.size 74 (coc c)
  fd : Has w (W.heap.size + 1) 74 (coc d)
  s : W.heap.size ≤ w.heap.size
set_option maxRecDepth 100000 in
set_option maxHeartbeats 4000000 in
theorem fol_any (l Bw Bl : Nat) (lo hi : Int) (ms : List Mo) (AL : Option Addr) (cl : Nat) (hL : ms.length ≤ 200) (hg : ∀ m ∈ ms, GM m) (hlo : 0 ≤ lo ∧ lo ≤ 274877906944) (hhi : 0 ≤ hi ∧ hi ≤ 274877906944) (W : World) (J : Nat → World → Prop)
    (hJ : ∀ b w, J b w → FIt w Bw Bl lo hi ms AL cl) (hJB : ∀ b w w', J b w → W.heap.size ≤ w.heap.size → Only (fun g => W.heap.size ≤ g) w w' → J b w')
    (hY : ∀ i w (_ : i < ms.length), J i w → W.heap.size ≤ w.heap.size →
      YieldAt Fence.wide 2 Try.prog l #[.int .i64 i, knv (crs lo (·.c0) ms (i + 1)) (crs hi (·.c1) ms (i + 1))] w fun e w' => e = .returned (.bool true) ∧ J (i + 1) w' ∧ Kept W.heap.size w w' ∧ w.heap.size ≤ w'.heap.size)
    (h0 : J 0 W) :
    CallsIn Fence.wide 3 Try.prog 59 #[.func (.yield l) #[] #[], .pointer (some ⟨Bw, 0, none⟩), .pointer (some ⟨Bl, 0, none⟩)] W (fun e W' => (∃ v, e = .returned v) ∧ J ms.length W') := by
  have hmf : ∀ (fn : Fn) (first cap : Array Value) (w : World), (Instr.makeFunc fn first cap).run Try.prog w = .ok (.func fn first cap) w := fun _ _ _ _ => rfl
  have I0 := hJ _ _ h0
  have c0 : W.cell? ⟨Bw, 0, none⟩ = some (.int .i64 lo) := I0.fw.cell 0
  have c1 : W.cell? ⟨Bw, 1, none⟩ = some (.int .i64 hi) := I0.fw.cell 1
  have c2 : W.cell? ⟨Bl, 0, none⟩ = some (.slice AL ms.length cl) := I0.fl.cell 0
  have hwl := I0.fw.lt
  have hll := I0.fl.lt
  have HJ := Lib.hid hJ
  have HJB := Lib.hid hJB
  have HY := Lib.hid hY
  have HG := Lib.hid (And.intro hg (And.intro hlo hhi))
  have H0 := Lib.hid h0
  clear hJ hJB hY I0 hg hlo hhi h0
  refine callsIn_of_wp Try.func59 rfl trivial ?_ rfl
  simp only [Try.ntmps59, List.size_toArray, List.length_cons, List.length_nil, Nat.reduceAdd, Nat.reduceSub, Array.replicate_succ, Array.replicate_zero, List.push_toArray, List.append_toArray, List.nil_append, List.cons_append]
  gi_wp2
  have hb0 := (below_one W (.cells (coc ⟨lo, 0, 0, 0, 0⟩) 74)).alloc (by simp) (.cells (coc ⟨hi, 0, 0, 0, 0⟩) 74)
  have H1 : Hid (FS W ((W.alloc (.cells (coc ⟨lo, 0, 0, 0, 0⟩) 74)).alloc (.cells (coc ⟨hi, 0, 0, 0, 0⟩) 74)) J 0 (crs lo (·.c0) ms 0) (crs hi (·.c1) ms 0)) :=
    ⟨HJB.out 0 _ _ H0.out (Nat.le_refl _) (Only.of_below hb0), (Has.new _ _ _).alloc _, has_newAt (by simp), hb0.size⟩
  have STEP : Hid (∀ (i : Nat) (c d : Co) (w w' : World), FS W w J i c d → Below w.heap.size w w' → FS W w' J i c d) := fun i c d w w' h hb =>
    ⟨HJB.out _ _ _ h.j h.s (Only.of_below hb), h.fc.below hb h.fc.lt, h.fd.below hb h.fd.lt, Nat.le_trans h.s hb.size⟩
  generalize (W.alloc (.cells (coc ⟨lo, 0, 0, 0, 0⟩) 74)).alloc (.cells (coc ⟨hi, 0, 0, 0, 0⟩) 74) = w0 at H1 ⊢
  clear hb0 c0 c1 c2 hwl hll H0
  gi_loopw [21] (fun it wr => ∃ i : Nat, i ≤ ms.length ∧ it = .int .i64 i ∧ Hid (FS W wr J i (crs lo (·.c0) ms i) (crs hi (·.c1) ms i))) (fun it _ => ms.length - (intOf it).toNat)
  case atStart => exact ⟨0, Nat.zero_le _, rfl, H1⟩
  case round =>
    obtain ⟨i, hin, rfl, HI⟩ := hrel
    clear H1
    have I1 := HJ.out _ wr HI.out.j
    by_cases hlt : i < ms.length
    · have hlt' : (i : Int) < ms.length := by omega
      obtain ⟨g, o, rfl, hgg, cc⟩ := I1.fr i hlt
      have hst0 := crs_step (w := lo) (f := (·.c0)) hlt
      have hst1 := crs_step (w := hi) (f := (·.c1)) hlt
      have hG := HG.out.1 _ (List.getElem_mem hlt)
      have hq0 := crs_good (l := ms) HG.out.2.1 HG.out.1 lo_ok i (by omega)
      have hq1 := crs_good (l := ms) HG.out.2.2 HG.out.1 hi_ok i (by omega)
      have HYY := Lib.hid (fun w h hs => HY.out i w hlt h hs)
      rw [hst0, hst1] at HYY
      obtain ⟨m, hm⟩ : ∃ m, m = ms[i] := ⟨_, rfl⟩
      rw [← hm] at cc hst0 hst1 hG HYY
      obtain ⟨c, hc⟩ : ∃ c, c = crs lo (·.c0) ms i := ⟨_, rfl⟩
      obtain ⟨d, hd⟩ : ∃ d, d = crs hi (·.c1) ms i := ⟨_, rfl⟩
      rw [← hc] at hst0 hq0 HI HYY
      rw [← hd] at hst1 hq1 HI HYY
      have HST := Lib.hid (And.intro hst0 hst1)
      have HP0 := Lib.hid (fun w h => pass_any c m m.c0 W.heap.size i w h hq0 (by omega) hG (lo_ok m hG))
      have HP1 := Lib.hid (fun w h => pass_any d m m.c1 (W.heap.size + 1) i w h hq1 (by omega) hG (hi_ok m hG))
      have k0 : wr.cell? ⟨g, o + i * 5, none⟩ = some (.int .i64 m.ch) := cc 0 (by omega)
      have k1 : wr.cell? ⟨g, o + i * 5 + 1, none⟩ = some (.int .i64 m.c0) := cc 1 (by omega)
      have k2 : wr.cell? ⟨g, o + i * 5 + 2, none⟩ = some (.int .i64 m.c1) := cc 2 (by omega)
      have k3 : wr.cell? ⟨g, o + i * 5 + 3, none⟩ = some (.int .i64 m.dr) := cc 3 (by omega)
      have k4 : wr.cell? ⟨g, o + i * 5 + 4, none⟩ = some (.int .i64 m.ho) := cc 4 (by omega)
      clear hst0 hst1 hq0 hq1 hm hc hd cc I1 hG
      have HB := Lib.hid (below_one wr (.cells (moc m) 86))
      have HI1 := Lib.hid (And.intro (STEP.out _ _ _ _ _ HI.out HB.out) (Has.new wr 86 (moc m)))
      unfold mov at HP0 HP1
      gi_wp2_with (fail)
      have hsw := HI.out.fd.lt
      clear k0 k1 k2 k3 k4 hgg HB HI
      generalize wr.alloc (.cells (moc m) 86) = w1 at HI1 ⊢
      generalize hgb : wr.heap.size = gb at HI1 hsw ⊢
      clear hgb
      refine ⟨trivial, (callsIn_wide.2 (HP0.out _ HI1.out.1.fc)).mono ?_⟩
      rintro e w2 ⟨rfl, ho2, hc2⟩
      have HI2 : Hid (FS W w2 J i (passP c m m.c0) d ∧ Has w2 gb 86 (moc m)) :=
        ⟨⟨HJB.out _ _ _ HI1.out.1.j HI1.out.1.s (ho2.mono (fun b _ hb => by have hb' : b = W.heap.size := hb; omega)), hc2, HI1.out.1.fd.only ho2 (show ¬ W.heap.size + 1 = W.heap.size by omega), Nat.le_trans HI1.out.1.s ho2.size⟩, HI1.out.2.only ho2 (show ¬ gb = W.heap.size by omega)⟩
      have k0 : w2.cell? ⟨gb, 0, none⟩ = some (.int .i64 m.ch) := HI2.out.2.cell 0
      have k1 : w2.cell? ⟨gb, 1, none⟩ = some (.int .i64 m.c0) := HI2.out.2.cell 1
      have k2 : w2.cell? ⟨gb, 2, none⟩ = some (.int .i64 m.c1) := HI2.out.2.cell 2
      have k3 : w2.cell? ⟨gb, 3, none⟩ = some (.int .i64 m.dr) := HI2.out.2.cell 3
      have k4 : w2.cell? ⟨gb, 4, none⟩ = some (.int .i64 m.ho) := HI2.out.2.cell 4
      have hl2 := HI2.out.2.lt
      clear ho2 hc2 HI1
      dsimp only
      gi_wp2_with (fail)
      refine ⟨trivial, (callsIn_wide.2 (HP1.out _ HI2.out.1.fd)).mono ?_⟩
      rintro e w3 ⟨rfl, ho3, hc3⟩
      have HI3 : Hid (FS W w3 J i (passP c m m.c0) (passP d m m.c1)) :=
        ⟨HJB.out _ _ _ HI2.out.1.j HI2.out.1.s (ho3.mono (fun b _ hb => by have hb' : b = W.heap.size + 1 := hb; omega)), HI2.out.1.fc.only ho3 (show ¬ W.heap.size = W.heap.size + 1 by omega), hc3, Nat.le_trans HI2.out.1.s ho3.size⟩
      clear ho3 hc3 HI2 k0 k1 k2 k3 k4 hl2
      obtain ⟨p, hp⟩ : ∃ p, p = passP c m m.c0 := ⟨_, rfl⟩
      obtain ⟨q, hq⟩ : ∃ q, q = passP d m m.c1 := ⟨_, rfl⟩
      rw [← hp, ← hq] at HI3 HYY
      have HPQ := Lib.hid (And.intro hp hq)
      clear hp hq
      have k0 : w3.cell? ⟨W.heap.size, 0, none⟩ = some (.int .i64 p.w) := HI3.out.fc.cell 0
      have k1 : w3.cell? ⟨W.heap.size, 1, none⟩ = some (.int .i64 p.came) := HI3.out.fc.cell 1
      have k2 : w3.cell? ⟨W.heap.size, 2, none⟩ = some (.int .i64 p.out) := HI3.out.fc.cell 2
      have k3 : w3.cell? ⟨W.heap.size, 3, none⟩ = some (.int .i64 p.dried) := HI3.out.fc.cell 3
      have k4 : w3.cell? ⟨W.heap.size, 4, none⟩ = some (.int .i64 p.dew) := HI3.out.fc.cell 4
      have j0 : w3.cell? ⟨W.heap.size + 1, 0, none⟩ = some (.int .i64 q.w) := HI3.out.fd.cell 0
      have j1 : w3.cell? ⟨W.heap.size + 1, 1, none⟩ = some (.int .i64 q.came) := HI3.out.fd.cell 1
      have j2 : w3.cell? ⟨W.heap.size + 1, 2, none⟩ = some (.int .i64 q.out) := HI3.out.fd.cell 2
      have j3 : w3.cell? ⟨W.heap.size + 1, 3, none⟩ = some (.int .i64 q.dried) := HI3.out.fd.cell 3
      have j4 : w3.cell? ⟨W.heap.size + 1, 4, none⟩ = some (.int .i64 q.dew) := HI3.out.fd.cell 4
      obtain ⟨fn, tmps, assign, body, hy, hR⟩ := HYY.out w3 HI3.out.j HI3.out.s
      unfold knv at hy
      dsimp only
      gi_wp2_with (fail)
      refine hR.mono ?_
      rintro e w4 ⟨rfl, hJ4, hk4, hs4⟩
      have HI4 : Hid (FS W w4 J (i + 1) (crs lo (·.c0) ms (i + 1)) (crs hi (·.c1) ms (i + 1))) := by
        rw [HST.out.1, HST.out.2, ← HPQ.out.1, ← HPQ.out.2]
        exact ⟨hJ4, HI3.out.fc.kept hk4 (Nat.le_refl _), HI3.out.fd.kept hk4 (by omega), Nat.le_trans HI3.out.s hs4⟩
      clear hJ4 hk4 hs4 k0 k1 k2 k3 k4 j0 j1 j2 j3 j4
      gi_wp2
      go_roundw
      case rel => exact ⟨i + 1, by omega, by go_num, HI4⟩
      case measure => simp [intOf]; omega
    · have hge : ¬ (i : Int) < ms.length := by omega
      have hil : i = ms.length := by omega
      have HX := Lib.hid hil
      clear hil I1
      gi_wp2
      go_end0
      exact ⟨⟨_, rfl⟩, by rw [← HX.out]; exact HI.out.j⟩
end Go.Proofs.Ytdmpkeaanaoeaaa
