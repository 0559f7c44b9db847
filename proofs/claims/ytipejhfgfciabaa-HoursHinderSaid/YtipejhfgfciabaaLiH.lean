/- The document's Counts and has. -/
import Derived.Test.YtipejhfgfciabaaLiF
namespace Go.Proofs.Ytipejhfgfciabaa
open Go.RowKit Go.Shelf
set_option maxRecDepth 100000 in
set_option maxHeartbeats 2000000 in
theorem Counts_any (x : Tt) (AH AG : Option Addr) (ch cg : Nat) (l : List Int) (A : Option Addr) (c m : Nat) (W : World) (hng : x.G.length ≤ 1000) (ha : IRow W W.heap.size A l) (hl : l.length ≤ 1000000) (hm : m ≤ l.length)
    (hg : ∀ i (h : i < l.length), i < m → l[i] < 0 ∨ ∃ g : Nat, l[i] = (g : Int) ∧ g < x.G.length) :
    Calls Try.prog 30 #[ttv x AH AG ch cg, .slice A l.length c, .int .i64 m] W (RowPost (cntL x l m) W) := by
  have hmk := make_ints x.G.length (by omega) (W.alloc (.cells (ttc x AH AG ch cg) 25))
  have HG0 : Hid (GS W ((W.alloc (.cells (ttc x AH AG ch cg) 25)).alloc (.cells (ils (List.replicate x.G.length 0)) 3)) x AH AG ch cg (W.heap.size + 1) (cntL x l 0)) := Lib.hid
    ⟨⟨(below_one W _).alloc (by simp) _, (Has.new W 25 _).alloc _⟩, by rw [cntL_zero]; exact has_newAt (by simp), by omega⟩
  have HA := Lib.hid (And.intro ha hg)
  clear ha hg
  unfold ttv
  go_enter Try.func30, Try.ntmps30
  go_upto_region 2 with fail
  generalize (W.alloc (.cells (ttc x AH AG ch cg) 25)).alloc (.cells (ils (List.replicate x.G.length 0)) 3) = w0 at HG0 ⊢
  clear hmk
  go_wp2_with fail
  go_loopg [8] m (fun gk i wr => ∃ k : Nat, k ≤ m ∧ m - k ≤ gk ∧ i = .int .i64 k ∧ Hid (GS W wr x AH AG ch cg (W.heap.size + 1) (cntL x l k)))
  case atStart => exact ⟨0, Nat.zero_le _, Nat.le_refl _, rfl, HG0⟩
  case round =>
    obtain ⟨k, hk, hgk, rfl, HW⟩ := hrel
    clear HG0
    by_cases hlt : k < m
    rotate_left
    · have hge : ¬ (k : Int) < m := by omega
      have hke : k = m := by omega
      have HL := Lib.hid (cntL_len x l m)
      have HF := Lib.hid (show GS W wr x AH AG ch cg (W.heap.size + 1) (cntL x l m) by rw [← hke]; exact HW.out)
      clear hke
      go_wp2_with fail
      go_ret
      exact ⟨W.heap.size + 1, by omega, by rw [HL.out]; rfl, HF.out.fn, HF.out.v.b⟩
    have hlt2 : (k : Int) < m := by omega
    have hkl : k < l.length := by omega
    have hkl2 : (k : Int) < l.length := by omega
    obtain ⟨gl, ol, hgl, hgls, hcl⟩ := HA.out.1 k hkl
    obtain ⟨v, hve⟩ : ∃ v, v = l[k] := ⟨_, rfl⟩
    have hvm := HA.out.2 k hkl hlt
    rw [← hve] at hcl hvm
    have HVE := Lib.hid hve
    have c0 : wr.cell? ⟨gl, ol + k, none⟩ = some (.int .i64 v) := (HW.out.v.b.cell (p := ⟨gl, _, none⟩) hgls).trans hcl
    subst hgl
    clear hgls hcl hve
    by_cases hneg : v < 0
    · have HC := Lib.hid (cntL_neg (x := x) hkl (by rw [← HVE.out]; exact hneg))
      have hneg2 : ¬ 0 ≤ v := by omega
      clear hneg hvm
      go_wp2_with fail
      go_roundg (m - (k + 1))
      case measure => omega
      case rel => exact ⟨k + 1, by omega, Nat.le_refl _, by go_num, Lib.hid (by rw [HC.out]; exact HW.out)⟩
    obtain ⟨g, hgv, hgx⟩ : ∃ g : Nat, v = (g : Int) ∧ g < x.G.length := by
      rcases hvm with h | h
      · omega
      · exact h
    subst hgv
    have hgx2 : (g : Int) < x.G.length := by omega
    have HST := Lib.hid (cntL_step (x := x) hkl hgx HVE.out.symm)
    have hcb := cntI_bd l k (g : Int)
    obtain ⟨n0, hn0⟩ : ∃ n, n = cntI l k (g : Int) := ⟨_, rfl⟩
    have s0 : wr.cell? ⟨W.heap.size + 1, g, none⟩ = some (.int .i64 n0) := (HW.out.fn.cell _).trans ((ils_at (by rw [cntL_len]; exact hgx)).trans (by rw [cntL_at _ _ _ hgx, hn0]))
    rw [← hn0] at HST hcb
    have sf := HW.out.fn.frozen
    have sl := HW.out.fn.lt
    have e1 : IntKind.i64.wrap (n0 + 1) = n0 + 1 := IntWalk.i64_in _ (by omega)
    have hg0 : (0 : Int) ≤ (g : Int) := by omega
    clear hn0 hvm hneg
    go_upto_region 6 with fail
    refine still_tail 13 (by kernel_rfl) (by kernel_rfl) ?_
    simp only [List.take_succ_cons, List.take_zero, List.drop_succ_cons, List.drop_zero]
    repeat still_step
    refine wpStill_nil ?_
    go_wp2_with fail
    have HW2 := Lib.hid (HW.out.set g (n0 + 1))
    rw [HST.out] at HW2
    go_roundg (m - (k + 1))
    case measure => omega
    case rel => exact ⟨k + 1, by omega, Nat.le_refl _, by go_num, Lib.hid HW2.out.drew⟩
/-- what groups have by a plan -/
def hasL (x : Tt) (l : List Int) : List Int := x.G.mapIdx fun i g => cntI l l.length (i : Int) + g.credit
theorem hasL_len (x : Tt) (l : List Int) : (hasL x l).length = x.G.length := by simp [hasL]
theorem hasL_at (x : Tt) (l : List Int) (k : Nat) (h : k < x.G.length) : (hasL x l)[k]'(by rw [hasL_len]; exact h) = cntI l l.length (k : Int) + x.G[k].credit := by simp [hasL]
theorem hasL_owned {x : Tt} (hv : VT x) (l : List Int) : ownedL x (placeOf x l l.length) = hasL x l := by
  refine List.ext_getElem (by rw [owned_length, hasL_len]) (fun i h1 h2 => ?_)
  rw [owned_length] at h1
  have := hv.ng
  rw [owned_at _ _ _ h1, hasL_at _ _ _ h1, given_at _ _ _ (by omega)]
/-- the first k of them with their credit -/
def hasTo (x : Tt) (l : List Int) (k : Nat) : List Int := x.G.mapIdx fun i g => cntI l l.length (i : Int) + if i < k then g.credit else 0
theorem hasTo_len (x : Tt) (l : List Int) (k : Nat) : (hasTo x l k).length = x.G.length := by simp [hasTo]
theorem hasTo_at (x : Tt) (l : List Int) (k i : Nat) (h : i < x.G.length) : (hasTo x l k)[i]'(by rw [hasTo_len]; exact h) = cntI l l.length (i : Int) + if i < k then x.G[i].credit else 0 := by simp [hasTo]
theorem hasTo_zero (x : Tt) (l : List Int) : hasTo x l 0 = cntL x l l.length := by
  refine List.ext_getElem (by rw [hasTo_len, cntL_len]) (fun i h1 h2 => ?_)
  rw [hasTo_len] at h1
  rw [hasTo_at _ _ _ _ h1, cntL_at _ _ _ h1]; simp
theorem hasTo_end (x : Tt) (l : List Int) : hasTo x l x.G.length = hasL x l := by
  refine List.ext_getElem (by rw [hasTo_len, hasL_len]) (fun i h1 h2 => ?_)
  rw [hasTo_len] at h1
  rw [hasTo_at _ _ _ _ h1, hasL_at _ _ _ h1, if_pos h1]
theorem hasTo_step (x : Tt) (l : List Int) (k : Nat) (h : k < x.G.length) : (hasTo x l k).set k (cntI l l.length (k : Int) + x.G[k].credit) = hasTo x l (k + 1) := by
  refine List.ext_getElem (by simp [hasTo]) (fun i h1 h2 => ?_)
  rw [hasTo_len] at h2
  rw [List.getElem_set, hasTo_at _ _ _ _ h2, hasTo_at _ _ _ _ h2]
  by_cases hi : k = i
  · subst hi; simp
  · rw [if_neg hi]
    by_cases hik : i < k
    · rw [if_pos hik, if_pos (by omega)]
    · rw [if_neg hik, if_neg (by omega)]
end Go.Proofs.Ytipejhfgfciabaa
