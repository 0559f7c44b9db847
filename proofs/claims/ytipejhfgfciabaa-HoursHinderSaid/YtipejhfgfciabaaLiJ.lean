/- The document's has. -/
import Derived.Test.YtipejhfgfciabaaLiH
namespace Go.Proofs.Ytipejhfgfciabaa
open Go.RowKit Go.Shelf
set_option maxRecDepth 100000 in
set_option maxHeartbeats 2000000 in
theorem has_any (x : Tt) (AH AG : Option Addr) (ch cg : Nat) (l : List Int) (A : Option Addr) (c : Nat) (W : World) (hr : TR W W.heap.size x AH AG) (hv : VT x) (ha : IRow W W.heap.size A l) (hp : planB x l = true) :
    Calls Try.prog 44 #[ttv x AH AG ch cg, .slice A l.length c] W (RowPost (hasL x l) W) := by
  have HB : Hid (VB W (W.alloc (.cells (ttc x AH AG ch cg) 25)) x AH AG ch cg) := ⟨below_one W _, Has.new W 25 _⟩
  have hng := hv.ng
  have hnh := hv.nh
  have hpl := plan_ok hp
  have hl12 : l.length ≤ 12 := by have := hpl.1; omega
  have HR := Lib.hid (And.intro hr ha)
  have HC : Hid (∀ w, IRow w w.heap.size A l → Calls Try.prog 30 #[.agg (ttc x AH AG ch cg), .slice A l.length c, .int .i64 l.length] w (RowPost (hasTo x l 0) w)) := Lib.hid fun w h => by
    have := Counts_any x AH AG ch cg l A c l.length w (by omega) h (by omega) (Nat.le_refl _) (fun i hi _ => by
      rcases hpl.2 l[i] (List.getElem_mem hi) with h | h
      · exact .inl (by omega)
      · exact .inr h)
    rw [hasTo_zero]
    exact this
  have HGV := Lib.hid hv.g
  clear hr ha hv hp hpl
  unfold ttv
  go_enter Try.func44, Try.ntmps44
  go_upto_region 1 with fail
  generalize W.alloc (.cells (ttc x AH AG ch cg) 25) = w0 at HB ⊢
  have x0 : w0.cell? ⟨W.heap.size, 0, none⟩ = some (.slice AH x.H.length ch) := HB.out.fx.cell 0
  have x1 : w0.cell? ⟨W.heap.size, 1, none⟩ = some (.slice AG x.G.length cg) := HB.out.fx.cell 1
  have x2 : w0.cell? ⟨W.heap.size, 2, none⟩ = some (.int .i64 x.R) := HB.out.fx.cell 2
  go_wp2_with fail
  refine (HC.out _ (HR.out.2.step HB.out.b)).mono ?_
  rintro e w1 ⟨BN, hBN, rfl, hrow, hb1⟩
  rw [hasTo_len]
  have HG0 := Lib.hid (show GS W w1 x AH AG ch cg BN (hasTo x l 0) from ⟨HB.out.step hb1, hrow, by have := HB.out.fx.lt; omega⟩)
  have HBN := Lib.hid (Nat.le_trans HB.out.b.size hBN)
  clear hBN hrow hb1 x0 x1 x2 HB HC
  go_wp2_with fail
  go_loopg [6] x.G.length (fun gk i wr => ∃ k : Nat, k ≤ x.G.length ∧ x.G.length - k ≤ gk ∧ i = .int .i64 k ∧ Hid (GS W wr x AH AG ch cg BN (hasTo x l k)))
  case atStart => exact ⟨0, Nat.zero_le _, Nat.le_refl _, rfl, HG0⟩
  case round =>
    obtain ⟨k, hk, hgk, rfl, HW⟩ := hrel
    clear HG0
    by_cases hlt : k < x.G.length
    rotate_left
    · have hge : ¬ (k : Int) < x.G.length := by omega
      have hke : k = x.G.length := by omega
      have HF := Lib.hid (show GS W wr x AH AG ch cg BN (hasL x l) by rw [← hasTo_end, ← hke]; exact HW.out)
      clear hke
      go_wp2_with fail
      go_ret
      exact ⟨BN, HBN.out, by rw [hasL_len]; rfl, HF.out.fn, HF.out.v.b⟩
    have hlt2 : (k : Int) < x.G.length := by omega
    obtain ⟨gg, og, hgg, hggs, hcg⟩ := HR.out.1.g k hlt
    have hcb := cntI_bd l l.length (k : Int)
    have hgb := HGV.out _ (List.getElem_mem hlt)
    have HST := Lib.hid (hasTo_step x l k hlt)
    obtain ⟨n0, hn0⟩ : ∃ n, n = cntI l l.length (k : Int) := ⟨_, rfl⟩
    obtain ⟨b, hb⟩ : ∃ b, b = x.G[k] := ⟨_, rfl⟩
    have s0 : wr.cell? ⟨BN, k, none⟩ = some (.int .i64 n0) := (HW.out.fn.cell _).trans ((ils_at (by rw [hasTo_len]; exact hlt)).trans (by rw [hasTo_at _ _ _ _ hlt, hn0]; simp))
    rw [← hn0] at HST hcb
    rw [← hb] at HST hgb hcg
    have sf := HW.out.fn.frozen
    have sl := HW.out.fn.lt
    have x1 : wr.cell? ⟨W.heap.size, 1, none⟩ = some (.slice AG x.G.length cg) := HW.out.v.fx.cell 1
    have c4 : wr.cell? ⟨gg, og + k * 5 + 4, none⟩ = some (.int .i64 b.credit) := (HW.out.v.b.cell (p := ⟨gg, _, none⟩) hggs).trans (hcg 4 (by omega))
    have e1 : IntKind.i64.wrap (n0 + b.credit) = n0 + b.credit := IntWalk.i64_in _ (by omega)
    subst hgg
    clear hn0 hb hcg hggs
    go_upto_region 5 with fail
    refine still_tail 13 (by kernel_rfl) (by kernel_rfl) ?_
    simp only [List.take_succ_cons, List.take_zero, List.drop_succ_cons, List.drop_zero]
    repeat still_step
    refine wpStill_nil ?_
    go_wp2_with fail
    have HW2 := Lib.hid (HW.out.set k (n0 + b.credit))
    rw [HST.out] at HW2
    go_roundg (x.G.length - (k + 1))
    case measure => omega
    case rel => exact ⟨k + 1, by omega, Nat.le_refl _, by go_num, Lib.hid HW2.out.drew⟩
end Go.Proofs.Ytipejhfgfciabaa
