/- The example, and what the document fixes of it. -/
import Derived.Test.YtipejhfgfciabaaHrZ
namespace Go.Proofs.Ytipejhfgfciabaa
open Go.RowKit Go.Shelf
attribute [local irreducible] wpQuiet
theorem row_step {w w' : World} {B : Nat} {A : Option Addr} {l : List Int} (h : IRow w B A l) (hb : Below B w w') : ∀ k (hk : k < l.length), ∃ g o, A = some ⟨g, o, none⟩ ∧ g < B ∧ w'.cell? ⟨g, o + k, none⟩ = some (.int .i64 l[k]) := h.below hb
set_option maxRecDepth 100000 in
set_option maxHeartbeats 1200000 in
theorem ints_any (l m : List Int) (A A' : Option Addr) (c d : Nat) (W : World) (h1 : IRow W W.heap.size A l) (h2 : IRow W W.heap.size A' m) (hl : l.length ≤ 1000000) :
    Calls Try.prog 15 #[.slice A l.length c, .slice A' m.length d] W (BoolPost (decide (l = m)) W) := by
  have hmix : Try.prog.follows .mixedOrders = true := by kernel_rfl
  have HR := Lib.hid (And.intro h1 h2)
  obtain ⟨r, hr⟩ : ∃ r, r = decide (l = m) := ⟨_, rfl⟩
  rw [← hr]
  have HE := Lib.hid hr
  clear h1 h2 hr
  by_cases hlm : l.length = m.length
  rotate_left
  · have hn : ((l.length : Int) == (m.length : Int)) = false := by simp; omega
    have HF : Hid (r = false) := Lib.hid (by rw [HE.out]; simp; intro e; exact hlm (by rw [e]))
    clear hlm
    go_enter Try.func15, Try.ntmps15
    go_wp2_with fail
    go_ret
    exact ⟨ret_bool HF.out.symm, Below.refl _ _⟩
  have HLM := Lib.hid hlm
  have hn : ((l.length : Int) == (m.length : Int)) = true := by simp; omega
  have hn' : ((l.length : Int) != (m.length : Int)) = false := by simp; omega
  clear hlm
  go_enter Try.func15, Try.ntmps15
  go_wp2_with fail
  clear hn hn'
  go_loopg [5] l.length (fun gk i wr => ∃ k : Nat, k ≤ l.length ∧ l.length - k ≤ gk ∧ i = .int .i64 k ∧ Hid (Below W.heap.size W wr ∧ ∀ j (hj : j < l.length) (hj' : j < m.length), j < k → l[j] = m[j]))
  case atStart => exact ⟨0, Nat.zero_le _, Nat.le_refl _, rfl, Lib.hid ⟨Below.refl _ _, fun j _ _ h => absurd h (by omega)⟩⟩
  case round =>
    obtain ⟨k, hk, hgk, rfl, HW⟩ := hrel
    by_cases hlt : k < l.length
    rotate_left
    · have hge : ¬ (k : Int) < l.length := by omega
      have HF : Hid (r = true) := Lib.hid (by
        rw [HE.out]
        simp only [decide_eq_true_eq]
        exact List.ext_getElem HLM.out (fun j h1 h2 => HW.out.2 j h1 h2 (by omega)))
      go_wp2_with fail
      go_ret
      exact ⟨ret_bool HF.out.symm, HW.out.1⟩
    have hlt2 : (k : Int) < l.length := by omega
    have hlt3 : k < m.length := by have := HLM.out; omega
    have hlt4 : (k : Int) < m.length := by omega
    obtain ⟨g, o, hg, hgl, hc⟩ := HR.out.1 k hlt
    obtain ⟨g', o', hg', hgl', hc'⟩ := HR.out.2 k hlt3
    obtain ⟨v, hv⟩ : ∃ v, v = l[k] := ⟨_, rfl⟩
    obtain ⟨u, hu⟩ : ∃ u, u = m[k] := ⟨_, rfl⟩
    rw [← hv] at hc
    rw [← hu] at hc'
    have HX := Lib.hid (And.intro hv hu)
    have CA : Hid (∀ w, Below W.heap.size W w → w.cell? ⟨g, o + k, none⟩ = some (.int .i64 v)) := fun w hb => (hb.cell (p := ⟨g, _, none⟩) hgl).trans hc
    have CB' : Hid (∀ w, Below W.heap.size W w → w.cell? ⟨g', o' + k, none⟩ = some (.int .i64 u)) := fun w hb => (hb.cell (p := ⟨g', _, none⟩) hgl').trans hc'
    subst hg hg'
    clear hv hu hc hc' hgl hgl'
    go_upto_region 6 with fail
    haveI hne : Nonempty (Cls (fun w' => Below W.heap.size W w')) := ⟨⟨_, HW.out.1.drew⟩⟩
    have HD := Lib.hid HW.out.1.drew
    have hx1 : ∀ pc : Cls (fun w' => Below W.heap.size W w'), pc.w.cell? ⟨g, o + k, none⟩ = some (.int .i64 v) := fun pc => CA.out _ pc.h
    have hx2 : ∀ pc : Cls (fun w' => Below W.heap.size W w'), pc.w.cell? ⟨g', o' + k, none⟩ = some (.int .i64 u) := fun pc => CB'.out _ pc.h
    refine wp_region_cls (fun w' => Below W.heap.size W w') hmix (by kernel_rfl) HD.out ?_
    repeat (quiet_step (fail))
    refine wpQuiet_nil ?_
    rintro w7 ⟨⟨_, hw7⟩, rfl⟩
    have H7 := Lib.hid hw7
    clear hx1 hx2 hne hw7 HD
    try simp only []
    by_cases hvu : v = u
    · have HN : Hid (∀ j (hj : j < l.length) (hj' : j < m.length), j < k + 1 → l[j] = m[j]) := Lib.hid fun j hj hj' hjk => by
        rcases Nat.lt_or_ge j k with h | h
        · exact HW.out.2 j hj hj' h
        · have : j = k := by omega
          subst this
          rw [← HX.out.1, ← HX.out.2]; exact hvu
      have hvu' : (v != u) = false := by simpa using hvu
      clear hvu
      go_wp2_with fail
      go_roundg (l.length - (k + 1))
      case measure => omega
      case rel => exact ⟨k + 1, by omega, Nat.le_refl _, by go_num, Lib.hid ⟨H7.out, HN.out⟩⟩
    · have HF : Hid (r = false) := Lib.hid (by
        rw [HE.out]
        simp only [decide_eq_false_iff_not]
        rintro rfl
        exact hvu (HX.out.1.trans HX.out.2.symm))
      have hvu' : (v != u) = true := by simpa using hvu
      clear hvu
      go_wp2_with fail
      go_ret
      exact ⟨ret_bool HF.out.symm, H7.out⟩
def sampleT : Tt := ⟨[⟨1, 960, 1020⟩, ⟨1, 1020, 1080⟩, ⟨1, 1200, 1260⟩, ⟨3, 960, 1020⟩], [⟨2, 0, 1440, 3, 0⟩, ⟨10, 900, 1100, 2, 1⟩, ⟨8, 0, 1440, 4, 0⟩], 10⟩
theorem sample_check : checkR sampleT [0, 0, -1, 2] = ([2, 1, 1], 4, 0) := by decide +kernel
theorem sample_check2 : (checkR sampleT [0, 1, 0, 2]).2 = (1, 6) := by decide +kernel
theorem sample_comp : compR sampleT [0, 0, -1, 2] [1, 1, 0, 2] = (-1, 0) := by decide +kernel
theorem sample_fair : fairestR sampleT = ([0, 0, 0, 2], 0) := by decide +kernel
theorem sample_hind : hindersR sampleT [2, 1, 1] = ([0, 1, 2], 0) := by decide +kernel
set_option maxRecDepth 100000 in
set_option maxHeartbeats 1200000 in
theorem sample_any (W : World) : Calls Try.prog 37 #[] W fun e w' => ∃ AH AG ch cg, e = .returned (ttv sampleT AH AG ch cg) ∧ TR w' w'.heap.size sampleT AH AG ∧ Below W.heap.size W w' := by
  go_enter Try.func37, Try.ntmps37
  go_wp2_with fail
  refine bodyPost_ret (v := .agg #[.slice (some ⟨W.heap.size + 1, 0, none⟩) 4 4, .slice (some ⟨W.heap.size + 1 + 1, 0, none⟩) 3 3, .int .i64 10]) (by simp [results, Try.results37, go_sem]) rfl ?_
  refine ⟨some ⟨W.heap.size + 1, 0, none⟩, some ⟨W.heap.size + 1 + 1, 0, none⟩, 4, 3, rfl, ?_, ((below_one W _).alloc (by simp) _).alloc (by simp; omega) _⟩
  generalize hw0 : W.alloc (.cells #[.slice (some ⟨W.heap.size + 1, 0, none⟩) 4 4, .slice (some ⟨W.heap.size + 1 + 1, 0, none⟩) 3 3, .int .i64 10] 25) = w0
  have hs0 : w0.heap.size = W.heap.size + 1 := by rw [← hw0]; simp
  have h1 : Has ((w0.alloc (.cells #[.int .i64 1, .int .i64 960, .int .i64 1020, .int .i64 1, .int .i64 1020, .int .i64 1080, .int .i64 1, .int .i64 1200, .int .i64 1260, .int .i64 3, .int .i64 960, .int .i64 1020] 88)).alloc (.cells #[.int .i64 2, .int .i64 0, .int .i64 1440, .int .i64 3, .int .i64 0, .int .i64 10, .int .i64 900, .int .i64 1100, .int .i64 2, .int .i64 1, .int .i64 8, .int .i64 0, .int .i64 1440, .int .i64 4, .int .i64 0] 49)) (W.heap.size + 1) 88 #[.int .i64 1, .int .i64 960, .int .i64 1020, .int .i64 1, .int .i64 1020, .int .i64 1080, .int .i64 1, .int .i64 1200, .int .i64 1260, .int .i64 3, .int .i64 960, .int .i64 1020] := (has_newAt hs0.symm).alloc _
  have h2 : Has ((w0.alloc (.cells #[.int .i64 1, .int .i64 960, .int .i64 1020, .int .i64 1, .int .i64 1020, .int .i64 1080, .int .i64 1, .int .i64 1200, .int .i64 1260, .int .i64 3, .int .i64 960, .int .i64 1020] 88)).alloc (.cells #[.int .i64 2, .int .i64 0, .int .i64 1440, .int .i64 3, .int .i64 0, .int .i64 10, .int .i64 900, .int .i64 1100, .int .i64 2, .int .i64 1, .int .i64 8, .int .i64 0, .int .i64 1440, .int .i64 4, .int .i64 0] 49)) (W.heap.size + 1 + 1) 49 #[.int .i64 2, .int .i64 0, .int .i64 1440, .int .i64 3, .int .i64 0, .int .i64 10, .int .i64 900, .int .i64 1100, .int .i64 2, .int .i64 1, .int .i64 8, .int .i64 0, .int .i64 1440, .int .i64 4, .int .i64 0] := has_newAt (by rw [World.size_alloc, hs0])
  refine ⟨fun k hk => ⟨_, 0, rfl, h1.lt, fun j hj => ?_⟩, fun k hk => ⟨_, 0, rfl, h2.lt, fun j hj => ?_⟩, by decide, by decide⟩
  · refine (h1.cell _).trans ?_
    match k, hk, j, hj with
    | 0, _, 0, _ => rfl
    | 0, _, 1, _ => rfl
    | 0, _, 2, _ => rfl
    | 1, _, 0, _ => rfl
    | 1, _, 1, _ => rfl
    | 1, _, 2, _ => rfl
    | 2, _, 0, _ => rfl
    | 2, _, 1, _ => rfl
    | 2, _, 2, _ => rfl
    | 3, _, 0, _ => rfl
    | 3, _, 1, _ => rfl
    | 3, _, 2, _ => rfl
    | k + 4, hk, _, _ => simp [sampleT] at hk; omega
  · refine (h2.cell _).trans ?_
    match k, hk, j, hj with
    | 0, _, 0, _ => rfl
    | 0, _, 1, _ => rfl
    | 0, _, 2, _ => rfl
    | 0, _, 3, _ => rfl
    | 0, _, 4, _ => rfl
    | 1, _, 0, _ => rfl
    | 1, _, 1, _ => rfl
    | 1, _, 2, _ => rfl
    | 1, _, 3, _ => rfl
    | 1, _, 4, _ => rfl
    | 2, _, 0, _ => rfl
    | 2, _, 1, _ => rfl
    | 2, _, 2, _ => rfl
    | 2, _, 3, _ => rfl
    | 2, _, 4, _ => rfl
    | k + 3, hk, _, _ => simp [sampleT] at hk; omega
/-- what awake keeps -/
structure AW (W w : World) (B : Nat) (x : Tt) (AH AG : Option Addr) (ch cg : Nat) : Prop where
  b : Below W.heap.size W w
  fx : Has w B 25 (ttc x AH AG ch cg)
  tr : TR w w.heap.size x AH AG
theorem AW.step {W w w' : World} {B : Nat} {x : Tt} {AH AG : Option Addr} {ch cg : Nat} (h : AW W w B x AH AG ch cg) (hb : Below w.heap.size w w') : AW W w' B x AH AG ch cg := ⟨h.b.trans (hb.mono h.b.size), h.fx.below hb h.fx.lt, h.tr.step hb⟩
theorem row_lit (w : World) (l : List Int) : IRow (w.alloc (.cells (ils l) 3)) (w.alloc (.cells (ils l) 3)).heap.size (some ⟨w.heap.size, 0, none⟩) l := row_at (fun j hj => ⟨by simp, by rw [Nat.zero_add]; exact ((Has.new w 3 (ils l)).cell j).trans (ils_at hj)⟩)
end Go.Proofs.Ytipejhfgfciabaa
