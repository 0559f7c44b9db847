/- A round of listen's loop over the minutes. -/
import Derived.Test.YtfdjoldcdfbfhaaGrF
import Derived.Sort.CutIn
namespace Go.Proofs.Ytfdjoldcdfbfhaa
open Go.RowKit Go.Shelf
attribute [local go_sem] Oper.semAt_some
def RPost (w0 : World) (q : Lq) (p : Lp) (m x y : Int) (s' : Nat) (rc : LoopState → Option Code → Loop) (r : Ending) (W' : World) : Prop :=
  r = .returned (.bool true) ∧ LS w0 W' q p (if y = 4 ∧ p.V ≤ cntB s' 12 then m else x) (if y = 4 ∧ p.V ≤ cntB s' 12 then 0 else y) s' ∧ W'.heap[q.l]? = some (.loop (rc .ready none))
theorem LS.drew {w0 W : World} {q : Lq} {p : Lp} {x y : Int} {s : Nat} (h : LS w0 W q p x y s) : LS w0 W.drew q p x y s := h.under (below_dr' (Below.refl _ _))
theorem rpost_close {w0 W' : World} {q : Lq} {p : Lp} {m x y x' y' : Int} {bk s' : Nat} {assign body : Code} {a : Act} {rc : LoopState → Option Code → Loop} (hrc : rc = loopRec 37 (lTmps q p) #[19, 20] assign body q.D)
    (hS : LS w0 W' q p x' y' bk) (hl : W'.heap[q.l]? = some (Obj.loop (rc .busy none))) (hk : bk = s') (hx : x' = if y = 4 ∧ p.V ≤ cntB bk 12 then m else x) (hy : y' = if y = 4 ∧ p.V ≤ cntB bk 12 then 0 else y) :
    roundEnd Try.prog q.l (RPost w0 q p m x y s' rc) Exit.normal a W' := by
  subst hk hx hy
  have hend := run_endRound (P := Try.prog) none hl
  refine ⟨_, _, hend, rfl, hS.putObj _, ?_⟩
  rw [World.putObj_heap_same (Array.getElem?_eq_some_iff.1 hl).1, hrc]
  rfl
set_option maxRecDepth 100000 in
set_option maxHeartbeats 2000000 in
theorem lround_any (w0 W : World) (q : Lq) (p : Lp) (P : Option Addr) (c : Nat) (G : List Sf) (m x y : Int) (s : Nat) {assign body : Code}
    (hab : some (assign, body) = Try.f37.body.bind loopParts) (hl : W.heap[q.l]? = some (.loop (loopRec 37 (lTmps q p) #[19, 20] assign body q.D .ready none)))
    (hS : LS w0 W q p x y s) (hg : FRow W w0.heap.size P G) (hG : ∀ r ∈ G, 0 ≤ r.s ∧ r.s < 12) (hs : s < 4096) (hlen : G.length ≤ 9223372036854775807) :
    YieldAt Fence.wide 2 Try.prog q.l #[.int .i64 m, .slice P G.length c] W (RPost w0 q p m x y (balF p.t s G G.length) (loopRec 37 (lTmps q p) #[19, 20] assign body q.D)) := by
  obtain ⟨rc, hrc⟩ : ∃ rc, rc = loopRec 37 (lTmps q p) #[19, 20] assign body q.D := ⟨_, rfl⟩
  rw [← hrc] at hl ⊢
  have hy := run_yield (P := Try.prog) (args := #[.int .i64 m, .slice P G.length c]) hl (by rw [hrc]; rfl)
  refine ⟨37, _, assign, body, by rw [hy, hrc], roundIn_wide Try.func37 ?_⟩
  clear hy
  simp only [Try.f37, Option.bind_some, loopParts, Option.some.injEq, Prod.mk.injEq] at hab
  obtain ⟨ha, hb⟩ := hab
  have hbeg := run_beginRound (P := Try.prog) hl (by rw [hrc])
  obtain ⟨W2, hW2⟩ : ∃ W2, W.putObj q.l (.loop { rc .ready none with state := .busy }) = W2 := ⟨_, rfl⟩
  have hl2 : W2.heap[q.l]? = some (.loop (rc .busy none)) := by
    rw [← hW2, World.putObj_heap_same (Array.getElem?_eq_some_iff.1 hl).1, hrc]
  have hS2 : LS w0 W2 q p x y s := by rw [← hW2]; exact hS.putObj _
  have hg2 : FRow W2 w0.heap.size P G := by
    rw [← hW2]; exact hg.below ((below_put _ _ _).mono (by have := hS.g; have := hS.lt; omega))
  rw [hW2] at hbeg
  have HB := Lib.hid hbeg
  have HR := Lib.hid hrc
  have HG := Lib.hid hG
  have hbl := balF_lt (t := p.t) hs hG
  have HBL := Lib.hid hbl
  rw [ha]
  have hzip : ∀ (t : Array Value) (u v : Value), (#[19, 20].zip #[u, v]).foldl (fun tmps (p : Tmp × Value) => match p with | (t, a) => tmps.setIfInBounds t a) t = (t.setIfInBounds 19 u).setIfInBounds 20 v := fun t u v => by simp [Array.zip]
  rw [hzip]
  clear hzip
  change Code.wpIn _ _ _ _ _ { tmps := ((lTmps q p).setIfInBounds 19 (.int .i64 m)).setIfInBounds 20 (.slice P G.length c), defers := [] } W
  have H0 := Lib.hid (And.intro hS2 (And.intro hg2 hl2))
  clear hbeg hrc hW2 hl hS hS2 hg hg2 hl2 ha hG hbl hs
  gi_wp2
  refine ⟨W2, HB.out, ?_⟩
  clear HB
  rw [hb]
  clear hb
  gi_wp2
  gi_loopw [23] (fun it wr => ∃ k : Nat, k ≤ G.length ∧ it = .int .i64 k ∧ Hid (LS w0 wr q p x y (balF p.t s G k) ∧ FRow wr w0.heap.size P G ∧ wr.heap[q.l]? = some (.loop (rc .busy none)))) (fun it _ => G.length - (intOf it).toNat)
  case atStart => exact ⟨0, Nat.zero_le _, rfl, H0⟩
  case round =>
    obtain ⟨k, hk, rfl, HI⟩ := hrel
    clear H0
    by_cases hlt : k < G.length
    · have hlt' : (k : Int) < G.length := by omega
      obtain ⟨g, o, hA, hgg, c0, c1, c2⟩ := HI.out.2.1 k hlt
      subst hA
      have hG1 := HG.out G[k] (List.getElem_mem hlt)
      obtain ⟨ns, hns⟩ := Int.eq_ofNat_of_zero_le hG1.1
      have hns12 : ns < 12 := by omega
      have hst := balF_step (t := p.t) (s := s) hlt
      rw [hns] at c1 hst
      rw [show ((ns : Int)).toNat = ns from by simp] at hst
      obtain ⟨rm, hrm⟩ : ∃ rm, rm = G[k].m := ⟨_, rfl⟩
      obtain ⟨rv, hrv⟩ : ∃ rv, rv = G[k].v := ⟨_, rfl⟩
      rw [← hrm] at c0
      rw [← hrv] at c2 hst
      clear hrm hrv hns hG1
      have HST := Lib.hid hst
      clear hst
      gi_upto_region 10 with fail
      have hgb := HI.out.1.b.size
      have hwl := HI.out.1.lt
      have hwg := HI.out.1.g
      have hll := (Array.getElem?_eq_some_iff.1 HI.out.2.2).1
      have HB1 := Lib.hid (below_one wr (.cells #[.int .i64 rm, .int .i64 ns, .int .i64 rv] 45))
      have HN := Lib.hid (Has.new wr 45 #[.int .i64 rm, .int .i64 ns, .int .i64 rv])
      have HI1 : Hid (LS w0 (wr.alloc (.cells #[.int .i64 rm, .int .i64 ns, .int .i64 rv] 45)) q p x y (balF p.t s G k) ∧ FRow (wr.alloc (.cells #[.int .i64 rm, .int .i64 ns, .int .i64 rv] 45)) w0.heap.size (some ⟨g, o, none⟩) G ∧ (wr.alloc (.cells #[.int .i64 rm, .int .i64 ns, .int .i64 rv] 45)).heap[q.l]? = some (.loop (rc .busy none))) :=
        ⟨HI.out.1.under (HB1.out.mono (by omega)), HI.out.2.1.below (HB1.out.mono (by omega)), (HB1.out.block _ hll).trans HI.out.2.2⟩
      clear HB1 c0 c1 c2 hgg
      generalize hw1 : wr.alloc (.cells #[.int .i64 rm, .int .i64 ns, .int .i64 rv] 45) = w1 at HN HI1 ⊢
      have HNE := Lib.hid (show q.Bb ≠ wr.heap.size ∧ q.l ≠ q.Bb by omega)
      clear hgb hwl hwg hll
      generalize wr.heap.size = gb at HN HNE ⊢
      clear hw1 HI
      have s1 : w1.cell? ⟨gb, 1, none⟩ = some (.int .i64 ns) := HN.out.cell 1
      have s2 : w1.cell? ⟨gb, 2, none⟩ = some (.int .i64 rv) := HN.out.cell 2
      have b0 : w1.cell? ⟨q.Bb, 0, none⟩ = some (.int .u64 (balF p.t s G k)) := HI1.out.1.hs.cell 0
      have bf := HI1.out.1.hs.frozen 0
      have t0 : w1.cell? ⟨q.B4, 0, none⟩ = some (.int .i64 p.t) := HI1.out.1.ht.cell 0
      have hck := say_any (balF p.t s G k) ns (decide (p.t ≤ rv)) w1 (HBL.out k) hns12
      obtain ⟨bk, hbk⟩ : ∃ bk, bk = balF p.t s G k := ⟨_, rfl⟩
      obtain ⟨pt', hpt⟩ : ∃ pt', pt' = p.t := ⟨_, rfl⟩
      rw [← hbk] at b0 hck
      rw [← hpt] at t0 hck
      have HBK := Lib.hid (And.intro hbk hpt)
      have HCK := Lib.hid hck
      clear hbk hpt hck
      gi_wp2
      refine ⟨trivial, ?_⟩
      refine (CallsIn.inRound q.l (callsIn_wide.2 HCK.out)).mono ?_
      rintro r w2 ⟨rfl, rfl⟩
      have hb2 : Hid (setB bk ns (decide (pt' ≤ rv)) = balF p.t s G (k + 1)) := by rw [HST.out, HBK.out.1, HBK.out.2]; exact rfl
      gi_wp2
      go_roundw
      case rel =>
        refine ⟨k + 1, by omega, by go_num, ?_⟩
        rw [hb2.out]
        refine ⟨HI1.out.1.setB _, HI1.out.2.1.below ((Below.refl _ _).setCell (by have := HI1.out.1.g; have := HI1.out.1.lt; simp only; omega) _), ?_⟩
        exact (heap_far HNE.out.2 _).trans HI1.out.2.2
      case measure => simp [intOf]; omega
    · have hge : ¬ (k : Int) < G.length := by omega
      have hkl : k = G.length := by omega
      subst hkl
      have hb := HBL.out G.length
      have HF := Lib.hid HI.out
      obtain ⟨bk, hbk⟩ : ∃ bk, bk = balF p.t s G G.length := ⟨_, rfl⟩
      rw [← hbk] at hb HF ⊢
      have HBK := Lib.hid hbk
      clear hbk HI hk hlt hge
      have hcn := count_any bk
      have e0 : wr.cell? ⟨q.Be, 0, none⟩ = some (.int .i64 y) := HF.out.1.he.cell 0
      have ef := HF.out.1.he.frozen 0
      have f0 : wr.cell? ⟨q.Bf, 0, none⟩ = some (.int .i64 x) := HF.out.1.hf.cell 0
      have ff := HF.out.1.hf.frozen 0
      have b0 : wr.cell? ⟨q.Bb, 0, none⟩ = some (.int .u64 bk) := HF.out.1.hs.cell 0
      have v1 : wr.cell? ⟨q.B3, 1, none⟩ = some (.int .i64 p.V) := HF.out.1.hv.cell 1
      clear HBL
      have HNE := HF.out.1.lt
      have hn1 : ¬ q.Be = q.Bf := by omega
      have hn2 : ¬ q.Bf = q.Be := by omega
      have hn3 : q.l ≠ q.Be ∧ q.l ≠ q.Bf := by omega
      have HN3 := Lib.hid hn3
      clear HNE hn3
      by_cases hy : y = 4
      · subst hy
        by_cases hv : p.V ≤ cntB bk 12
        · gi_upto_region 12 with fail
          refine still_tail_round 8 (by kernel_rfl) (by kernel_rfl) (by kernel_rfl) (by rintro ⟨_, _, h⟩; exact h) ?_
          simp only [List.take_succ_cons, List.take_zero, List.drop_succ_cons, List.drop_zero]
          repeat (first | still_step | still_call (hcn _ hb))
          refine wpStill_nil ?_
          go_wp2
          gi_wp2
          refine rpost_close HR.out ((HF.out.1.setF _).setE _).drew ?q2a HBK.out ?q3a ?q4a
          case q2a => exact ((heap_far HN3.out.1 _).trans (heap_far HN3.out.2 _)).trans HF.out.2.2
          case q3a => rw [if_pos ⟨rfl, hv⟩]
          case q4a => rw [if_pos ⟨rfl, hv⟩]
        · gi_upto_region 12 with fail
          refine still_tail_round 8 (by kernel_rfl) (by kernel_rfl) (by kernel_rfl) (by rintro ⟨_, _, h⟩; exact h) ?_
          simp only [List.take_succ_cons, List.take_zero, List.drop_succ_cons, List.drop_zero]
          repeat (first | still_step | still_call (hcn _ hb))
          refine wpStill_nil ?_
          go_wp2
          gi_wp2
          refine rpost_close HR.out HF.out.1.drew ?q2b HBK.out ?q3b ?q4b
          case q2b => exact HF.out.2.2
          case q3b => rw [if_neg (fun h => absurd h.2 (by omega))]
          case q4b => rw [if_neg (fun h => absurd h.2 (by omega))]
      · gi_upto_region 12 with fail
        refine still_tail_round 8 (by kernel_rfl) (by kernel_rfl) (by kernel_rfl) (by rintro ⟨_, _, h⟩; exact h) ?_
        simp only [List.take_succ_cons, List.take_zero, List.drop_succ_cons, List.drop_zero]
        repeat still_step
        refine wpStill_nil ?_
        go_wp2
        gi_wp2
        refine rpost_close HR.out HF.out.1.drew ?q2c HBK.out ?q3c ?q4c
        case q2c => exact HF.out.2.2
        case q3c => rw [if_neg (fun h => hy h.1)]
        case q4c => rw [if_neg (fun h => hy h.1)]
end Go.Proofs.Ytfdjoldcdfbfhaa
