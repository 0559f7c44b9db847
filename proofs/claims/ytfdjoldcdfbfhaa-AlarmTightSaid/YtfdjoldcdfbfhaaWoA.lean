/- The worst of the minutes, as the program finds it. -/
import Derived.Test.YtfdjoldcdfbfhaaSoE
import Derived.WalkMore
namespace Go.Proofs.Ytfdjoldcdfbfhaa
open Go.Shelf Go.RowKit
def vtv (A : Option Addr) (n cap : Nat) (V F : Int) : Value := .agg #[.slice A n cap, .int .i64 V, .int .i64 F]
def worstE (x : Option (Int × Int)) : Int × Int × Int := match x with | none => (0, 0, 4) | some y => (y.1, y.2, 0)
/-- a valid voting -/
structure VV (l : List Sn) (V F : Int) : Prop where
  hL : ∀ s ∈ l, vS s
  h1 : 1 ≤ l.length
  h12 : l.length ≤ 12
  hV : 1 ≤ V ∧ V ≤ l.length
  hF : 0 ≤ F ∧ F ≤ l.length
theorem pick_lo {S : List Int} {K i : Nat} (hs : S.Pairwise (· ≤ ·)) (hi : i < S.length) (hiK : i < K) (h : 1048576 < S[i]) : pick S K = 1048577 := by
  unfold pick
  by_cases hk : K - 1 < S.length
  · rw [List.getElem?_eq_getElem hk]
    simp only
    rw [if_neg]
    by_cases he : i = K - 1
    · subst he; omega
    · have := List.pairwise_iff_getElem.1 hs i (K - 1) hi hk (by omega); omega
  · rw [List.getElem?_eq_none (by omega)]
theorem pick_short {S : List Int} {K : Nat} (h : S.length < K) : pick S K = 1048577 := by
  unfold pick; rw [List.getElem?_eq_none (by omega)]
theorem pick_hit {S : List Int} {K i : Nat} (hi : i < S.length) (hiK : i + 1 = K) (h : S[i] ≤ 1048576) : pick S K = S[i] := by
  subst hiK
  unfold pick
  simp only [Nat.add_sub_cancel]
  rw [List.getElem?_eq_getElem hi]
  simp only
  rw [if_pos h]
/-- what the minute's row of sensors says -/
theorem atN_of {l l' : List Sn} {K : Nat} {t rise m : Int} (hp : l'.Perm l) (hs : l'.Pairwise (fun a b => num t rise m a ≤ num t rise m b)) (hK : 1 ≤ K) : atN l K t rise m = pick (l'.map (num t rise m)) K := by
  unfold atN
  refine (pick_eq ?_ ?_ hK).symm
  · rw [List.pairwise_map]; exact hs
  · exact hp.map _
theorem key57 (t rise m : Int) (a1 a2 a3 : Addr) (W : World) (ht : 0 ≤ t ∧ t ≤ 4194304) (hr : 0 ≤ rise ∧ rise ≤ 1048576) (hm : 0 ≤ m ∧ m ≤ 2000)
    (c1 : W.cell? a1 = some (.int .i64 t)) (c2 : W.cell? a2 = some (.int .i64 rise)) (c3 : W.cell? a3 = some (.int .i64 m)) (l1 : a1.block < W.heap.size) (l2 : a2.block < W.heap.size) (l3 : a3.block < W.heap.size) :
    KeyF W 57 #[.pointer (some a1), .pointer (some a2), .pointer (some a3)] (num t rise m) :=
  ⟨enters_of Try.func57 (by kernel_rfl) rfl, fun w' hb s hs => worstNum_any s t rise m a1 a2 a3 w' hs ht hr hm ((hb.cell l1).trans c1) ((hb.cell l2).trans c2) ((hb.cell l3).trans c3) (by have := hb.size; omega) (by have := hb.size; omega) (by have := hb.size; omega)⟩
def WorstPost (f : Int → Int) (frm : Int) (k : Nat) (W : World) (e : Ending) (W' : World) : Prop :=
  e = .returned (.tuple #[.int .i64 (worstE (worstP f frm k)).1, .int .i64 (worstE (worstP f frm k)).2.1, .int .i64 (worstE (worstP f frm k)).2.2]) ∧ Below W.heap.size W W'
/-- the boxes of a call -/
structure Bx (W wr : World) (A : Option Addr) (n cap : Nat) (V F t rise : Int) : Prop where
  b : Below W.heap.size W wr
  v : Has wr W.heap.size 24 #[.slice A n cap, .int .i64 V, .int .i64 F]
  t : Has wr (W.heap.size + 1) 3 #[.int .i64 t]
  r : Has wr (W.heap.size + 1 + 1) 3 #[.int .i64 rise]
theorem Bx.below {W wr w' : World} {A : Option Addr} {n cap : Nat} {V F t rise : Int} (h : Bx W wr A n cap V F t rise) (hb : Below wr.heap.size wr w') : Bx W w' A n cap V F t rise :=
  ⟨h.b.trans (hb.mono h.b.size), h.v.below hb h.v.lt, h.t.below hb h.t.lt, h.r.below hb h.r.lt⟩
theorem Bx.far {W wr : World} {A : Option Addr} {n cap : Nat} {V F t rise : Int} (h : Bx W wr A n cap V F t rise) {g : Nat} (hg : W.heap.size + 1 + 1 < g) (o : Nat) (v : Value) : Bx W (wr.setCell ⟨g, o, none⟩ v) A n cap V F t rise :=
  ⟨h.b.setCell (by simp only; omega) _, h.v.far (p := ⟨g, o, none⟩) (by simp only; omega) _, h.t.far (p := ⟨g, o, none⟩) (by simp only; omega) _, h.r.far (p := ⟨g, o, none⟩) (by simp only; omega) _⟩
theorem below_drewN_alloc (w : World) (n : Nat) (o : Obj) : Below w.heap.size w ((w.drewN n).alloc o) := by
  have := below_one (w.drewN n) o
  exact ⟨this.os, this.tape, this.output, this.size, this.block⟩
theorem results_tmp3 {fn : Func} {t u v : Tmp} (h : fn.results = #[.tmp t, .tmp u, .tmp v]) (tmps : Array Value) (P : Program) (w : World) :
    (results fn tmps).run P w = .ok (.tuple #[tmps.getD t undef, tmps.getD u undef, tmps.getD v undef]) w := by
  simp [results, h]
set_option maxRecDepth 100000 in
set_option maxHeartbeats 2000000 in
theorem worst_any (l : List Sn) (A : Option Addr) (cap : Nat) (V F t rise frm to : Int) (W : World) (hr : NRow W W.heap.size A l) (hv : VV l V F) (ht : 0 ≤ t ∧ t ≤ 4194304) (hri : 0 ≤ rise ∧ rise ≤ 1048576) (hf : 0 ≤ frm ∧ frm ≤ to ∧ to ≤ 2000) :
    Calls Try.prog 43 #[vtv A l.length cap V F, .int .i64 t, .int .i64 rise, .int .i64 frm, .int .i64 to] W (WorstPost (atN l (V + F).toNat t rise) frm (to - frm + 1).toNat W) := by
  have hK : 1 ≤ (V + F).toNat := by have := hv.hV; have := hv.hF; omega
  have hVF : V + F ≤ 24 := by have := hv.hV; have := hv.hF; have := hv.h12; omega
  have hV0 := hv.hV.1
  have hF0 := hv.hF.1
  have h1l := hv.h1
  have h12 := hv.h12
  have hmf : ∀ (fn : Fn) (first cap : Array Value) (w : World), (Instr.makeFunc fn first cap).run Try.prog w = .ok (.func fn first cap) w := fun _ _ _ _ => rfl
  have H0 := Lib.hid (And.intro hr (And.intro hv hK))
  have HT := Lib.hid (And.intro ht (And.intro hri hf))
  obtain ⟨at_, hat⟩ : ∃ f, f = atN l (V + F).toNat t rise := ⟨_, rfl⟩
  rw [← hat]
  have HA := Lib.hid hat
  obtain ⟨hf0, hf1, hf2⟩ := hf
  clear hr hv hat
  unfold vtv
  go_enter Try.func43, Try.ntmps43
  go_wp2_with fail
  have hbx : Bx W (((W.alloc (.cells #[.slice A l.length cap, .int .i64 V, .int .i64 F] 24)).alloc (.cells #[.int .i64 t] 3)).alloc (.cells #[.int .i64 rise] 3)) A l.length cap V F t rise := by
    have n0 := Has.new W 24 #[.slice A l.length cap, .int .i64 V, .int .i64 F]
    have n1 := Has.new (W.alloc (.cells #[.slice A l.length cap, .int .i64 V, .int .i64 F] 24)) 3 #[.int .i64 t]
    have n2 := Has.new ((W.alloc (.cells #[.slice A l.length cap, .int .i64 V, .int .i64 F] 24)).alloc (.cells #[.int .i64 t] 3)) 3 #[.int .i64 rise]
    simp only [World.size_alloc] at n1 n2
    exact ⟨((below_one W _).alloc (by simp) _).alloc (by simp; omega) _, (n0.alloc _).alloc _, n1.alloc _, n2⟩
  have hsz : (((W.alloc (.cells #[.slice A l.length cap, .int .i64 V, .int .i64 F] 24)).alloc (.cells #[.int .i64 t] 3)).alloc (.cells #[.int .i64 rise] 3)).heap.size = W.heap.size + 1 + 1 + 1 := by simp
  generalize (((W.alloc (.cells #[.slice A l.length cap, .int .i64 V, .int .i64 F] 24)).alloc (.cells #[.int .i64 t] 3)).alloc (.cells #[.int .i64 rise] 3)) = w0 at hbx hsz ⊢
  have HB := Lib.hid (And.intro hbx hsz)
  clear hbx hsz
  go_step3
  go_wp2
  go_step3
  go_wp2
  have HN := Lib.hid (show (to - frm + 1).toNat = (to - frm).toNat + 1 by omega)
  go_loopg [10, 11, 13] (to - frm + 1).toNat (fun gk m q p wr => ∃ (k : Nat) (x : Int × Int) (g : Nat), (k : Int) ≤ to - frm + 1 ∧ to - frm + 1 - k ≤ gk ∧ m = .int .i64 x.1 ∧ q = .int .i64 x.2 ∧ p = .pointer (some ⟨g, 0, none⟩) ∧ Hid (worstP at_ frm k = some x) ∧ Hid (Bx W wr A l.length cap V F t rise) ∧ Hid (Has wr g 3 #[.int .i64 (frm + k)]) ∧ W.heap.size + 1 + 1 < g ∧ (-1 ≤ x.1 ∧ x.1 ≤ 1048576))
  case atStart =>
    refine ⟨0, (-1, frm), w0.heap.size, by omega, by omega, rfl, rfl, rfl, rfl, HB.out.1.below (below_one w0 _), ?_, by have := HB.out.2; omega, by simp⟩
    have := Has.new w0 3 #[.int .i64 frm]
    rw [show frm + ((0 : Nat) : Int) = frm by omega]
    exact this
  case round =>
    obtain ⟨k, x, g, hk, hgk, rfl, rfl, rfl, HX, HQ, HG, hg, hx⟩ := hrel
    have c0 : wr.cell? ⟨g, 0, none⟩ = some (.int .i64 (frm + k)) := HG.out.cell 0
    by_cases hle : frm + k ≤ to
    · have v0 : wr.cell? ⟨W.heap.size, 0, none⟩ = some (.slice A l.length cap) := HQ.out.v.cell 0
      have v1 : wr.cell? ⟨W.heap.size, 1, none⟩ = some (.int .i64 V) := HQ.out.v.cell 1
      have v2 : wr.cell? ⟨W.heap.size, 2, none⟩ = some (.int .i64 F) := HQ.out.v.cell 2
      have hkey : KeyF wr 57 #[.pointer (some ⟨W.heap.size + 1, 0, none⟩), .pointer (some ⟨W.heap.size + 1 + 1, 0, none⟩), .pointer (some ⟨g, 0, none⟩)] (num t rise (frm + k)) :=
        key57 t rise (frm + k) _ _ _ wr HT.out.1 HT.out.2.1 (by omega) (HQ.out.t.cell 0) (HQ.out.r.cell 0) c0 HQ.out.t.lt HQ.out.r.lt HG.out.lt
      have HKF := Lib.hid hkey
      clear hkey
      go_wp2_with fail
      refine (inOrder_any (num t rise (frm + k)) 57 _ l A cap wr HKF.out ((H0.out.1.below HQ.out.b).more HQ.out.b.size) H0.out.2.1.hL h1l (by omega)).mono ?_
      rintro e w1 ⟨gs, cap1, l', rfl, hb1, hgs, hrow, hp, hs⟩
      have H1 := Lib.hid (And.intro hb1 (And.intro hrow (And.intro hp hs)))
      clear hb1 hrow hp hs v0 v1 v2
      go_wp2
      have hll : l'.length = l.length := H1.out.2.2.1.length_eq
      have hatk := Lib.hid (show at_ (frm + k) = pick (l'.map (num t rise (frm + k))) (V + F).toNat by rw [HA.out]; exact atN_of H1.out.2.2.1 H1.out.2.2.2 H0.out.2.2)
      have HSrt := Lib.hid (show (l'.map (num t rise (frm + k))).Pairwise (· ≤ ·) by rw [List.pairwise_map]; exact H1.out.2.2.2)
      obtain ⟨w2, rfl⟩ : ∃ w2, w2 = wr := ⟨_, rfl⟩
      have HL' := Lib.hid hll
      clear hll c0
      go_loopg [10, 11, 31] l.length (fun g2 m q i wx => ∃ j : Nat, j ≤ l.length ∧ l.length - j ≤ g2 ∧ m = .int .i64 x.1 ∧ q = .int .i64 x.2 ∧ i = .int .i64 j ∧ Hid (Below w1.heap.size w1 wx) ∧ Hid (∀ n (h : n < l'.length), n < j → num t rise (frm + k) l'[n] ≤ 1048576 ∧ n + 1 < (V + F).toNat) ∧ j < (V + F).toNat)
      case atStart => exact ⟨0, Nat.zero_le _, Nat.le_refl _, rfl, rfl, rfl, Below.refl _ _, fun n h h' => absurd h' (by omega), by omega⟩
      case round =>
        obtain ⟨j, hj, hg2, rfl, rfl, rfl, HBX, HJ, hjK⟩ := hrel
        by_cases hlt : j < l.length
        · have hlt' : (j : Int) < l.length := by omega
          have hjl : j < l'.length := by have := HL'.out; omega
          obtain ⟨g0, o0, e0, hg0, d0, d1, d2⟩ := (H1.out.2.1.below HBX.out) j hjl
          cases e0
          simp only [Nat.zero_add] at d0 d1 d2
          obtain ⟨s, hs⟩ : ∃ s, s = l'[j] := ⟨_, rfl⟩
          rw [← hs] at d0 d1 d2
          have hvs : vS s := H0.out.2.1.hL s (H1.out.2.2.1.mem_iff.1 (by rw [hs]; exact List.getElem_mem hjl))
          have hcal := fun w' hb => HKF.out.2 w' hb s hvs
          have hnb := num_bd (m := frm + k) hvs HT.out.2.1.1 HT.out.1.1 (by omega) HT.out.2.1.2
          obtain ⟨n, hn⟩ : ∃ n, n = num t rise (frm + k) s := ⟨_, rfl⟩
          rw [← hn] at hcal hnb
          have HC := Lib.hid hcal
          have HS := Lib.hid (And.intro hs hn)
          have hgx : gs < wr.heap.size := by have := HBX.out.size; omega
          have hn0 := hnb.1
          have hn1 : n ≤ 4194304 + 2097152000 := by have := HT.out.1.2; omega
          clear hcal hs hn hvs hnb
          go_wp2_with fail
          refine (HC.out _ ((H1.out.1.trans (HBX.out.mono H1.out.1.size)).alloc (by have := H1.out.1.size; have := HBX.out.size; omega) _)).mono ?_
          rintro e w3 hgr
          obtain rfl := hgr.1
          have hb3 := hgr.below
          have HB3 := Lib.hid (HBX.out.trans (((below_one wr _).mono HBX.out.size).trans (hb3.mono (by have := HBX.out.size; simp; omega))))
          clear hgr hb3
          have HBW := Lib.hid (HQ.out.below (H1.out.1.trans (HB3.out.mono H1.out.1.size)))
          have v1 : w3.cell? ⟨W.heap.size, 1, none⟩ = some (.int .i64 V) := HBW.out.v.cell 1
          have v2 : w3.cell? ⟨W.heap.size, 2, none⟩ = some (.int .i64 F) := HBW.out.v.cell 2
          have HG3 := Lib.hid (HG.out.below (H1.out.1.trans (HB3.out.mono H1.out.1.size)) HG.out.lt)
          have c3 : w3.cell? ⟨g, 0, none⟩ = some (.int .i64 (frm + k)) := HG3.out.cell 0
          by_cases hbig : 1048576 < n
          · have HE := Lib.hid (show worstP at_ frm (to - frm + 1).toNat = none by
              refine worstP_none (k := k + 1) ?_ _ (by omega)
              unfold worstP
              rw [HX.out]
              simp only
              rw [if_pos]
              rw [hatk.out, pick_lo (i := j) HSrt.out (by simpa using hjl) hjK (by simp only [List.getElem_map]; rw [← HS.out.1, ← HS.out.2]; exact hbig)]
              omega)
            have HBF := Lib.hid HBW.out.b
            go_wp2
            rw [Exit.noGoto_ret]
            refine bodyPost_ret (results_tmp3 rfl _ _ _) rfl ?_
            unfold WorstPost
            rw [HE.out]
            exact ⟨rfl, HBF.out⟩
          · by_cases hcont : (j : Int) + 1 < V + F
            · go_wp2
              go_roundg (l.length - (j + 1))
              case measure => omega
              case rel =>
                refine ⟨j + 1, by omega, Nat.le_refl _, rfl, rfl, by go_num, HB3.out, fun m hm hmj => ?_, by omega⟩
                rcases Nat.lt_succ_iff_lt_or_eq.1 hmj with h | rfl
                · exact HJ.out m hm h
                · rw [← HS.out.1, ← HS.out.2]; omega
            · have hat : at_ (frm + k) = n := by
                rw [hatk.out, pick_hit (i := j) (by simpa using hjl) (by omega) (by simp only [List.getElem_map]; rw [← HS.out.1, ← HS.out.2]; omega)]
                simp only [List.getElem_map]; rw [← HS.out.1, ← HS.out.2]
              have hnxt : Hid (worstP at_ frm (k + 1) = some (if x.1 < n - 1 then (n - 1, frm + k) else x)) := by
                show _ = _
                unfold worstP
                rw [HX.out]
                simp only
                rw [hat, if_neg (by omega)]
                split <;> rfl
              clear hat
              by_cases hmore : x.1 < n - 1
              · rw [if_pos hmore] at hnxt
                go_wp2
                have c3' : ∀ n, (w3.drewN n).cell? ⟨g, 0, none⟩ = some (.int .i64 (frm + k)) := fun _ => c3
                go_quiet (fail)
                have hbd : Below w3.heap.size w3 (w3.drewN nq) := ⟨rfl, rfl, rfl, Nat.le_refl _, fun _ _ => rfl⟩
                have HB4 := Lib.hid (HBW.out.below hbd)
                have c4 := c3' nq
                clear c3' hbd
                generalize w3.drewN nq = w4 at HB4 c4 ⊢
                go_wp2
                go_roundg (to - frm - k).toNat
                case measure => omega
                case rel =>
                  refine ⟨k + 1, (n - 1, frm + k), _, by omega, by omega, rfl, rfl, rfl, hnxt, HB4.out.below (below_one w4 _), ?_, ?_, by simp only; omega⟩
                  · have := Has.new w4 3 #[.int .i64 (frm + k + 1)]
                    rw [show frm + ((k + 1 : Nat) : Int) = frm + k + 1 by omega]
                    exact this
                  · exact HB4.out.r.lt
              · rw [if_neg hmore] at hnxt
                go_wp2
                go_roundg (to - frm - k).toNat
                case measure => omega
                case rel =>
                  refine ⟨k + 1, x, _, by omega, by omega, rfl, rfl, rfl, hnxt, HBW.out.below (below_one w3 _), ?_, ?_, by omega⟩
                  · have := Has.new w3 3 #[.int .i64 (frm + k + 1)]
                    rw [show frm + ((k + 1 : Nat) : Int) = frm + k + 1 by omega]
                    exact this
                  · exact HBW.out.r.lt
        · have hlt' : ¬ (j : Int) < l.length := by omega
          have hje : j = l.length := by omega
          have HE := Lib.hid (show worstP at_ frm (to - frm + 1).toNat = none by
            refine worstP_none (k := k + 1) ?_ _ (by omega)
            unfold worstP
            rw [HX.out]
            simp only
            rw [if_pos]
            rw [hatk.out, pick_short (by
              rw [List.length_map]
              have h1 := HL'.out
              have := (HJ.out (j - 1) (by omega) (by omega)).2
              omega)]
            omega)
          have HBF := Lib.hid ((HQ.out.below (H1.out.1.trans (HBX.out.mono H1.out.1.size))).b)
          subst hje
          go_wp2
          try rw [Exit.noGoto_ret]
          refine bodyPost_ret (results_tmp3 rfl _ _ _) rfl ?_
          unfold WorstPost
          rw [HE.out]
          exact ⟨rfl, HBF.out⟩
    · have hke : (k : Int) = to - frm + 1 := by omega
      have HE := Lib.hid (show worstP at_ frm (to - frm + 1).toNat = some x by rw [← HX.out]; congr 1; omega)
      have HBF := Lib.hid HQ.out.b
      clear hke
      go_wp2
      try rw [Exit.noGoto_ret]
      refine bodyPost_ret (results_tmp3 rfl _ _ _) rfl ?_
      unfold WorstPost
      rw [HE.out]
      exact ⟨rfl, HBF.out⟩
end Go.Proofs.Ytfdjoldcdfbfhaa
