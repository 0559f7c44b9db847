/- The document's small functions: in, May, Plan; the laws' large. -/
import Derived.Test.YtipejhfgfciabaaLiB
namespace Go.Proofs.Ytipejhfgfciabaa
open Go.RowKit Go.Shelf
attribute [local irreducible] wpQuiet
set_option maxRecDepth 100000 in
theorem in_any (n lo hi : Int) (w : World) : Calls Try.prog 52 #[.int .i64 n, .int .i64 lo, .int .i64 hi] w fun e w' => e = .returned (.bool (inB n lo hi)) ∧ w' = w := by
  have hn : ∀ c, (decide (lo ≤ n ∧ n ≤ hi) = c) → inB n lo hi = c := fun b h => h
  have h3 : ¬ lo ≤ n ∨ (lo ≤ n ∧ ¬ n ≤ hi) ∨ (lo ≤ n ∧ n ≤ hi) := by omega
  rcases h3 with h0 | ⟨h0, h1⟩ | ⟨h0, h1⟩
  rotate_right
  · have HN := Lib.hid (hn true (by simp; omega))
    clear hn
    go_enter Try.func52, Try.ntmps52
    go_wp2
    go_ret
    exact ⟨by rw [HN.out]; rfl, rfl⟩
  all_goals
    have HN := Lib.hid (hn false (by simp; omega))
    clear hn
    go_enter Try.func52, Try.ntmps52
    go_wp2
    go_ret
    exact ⟨by rw [HN.out]; rfl, rfl⟩
def largeB (x : Tt) : Bool := decide (8 < x.G.length) || decide (14 < x.H.length)
set_option maxRecDepth 100000 in
set_option maxHeartbeats 1200000 in
theorem large_any (x : Tt) (AH AG : Option Addr) (ch cg : Nat) (W : World) : Calls Try.prog 21 #[ttv x AH AG ch cg] W (BoolPost (largeB x) W) := by
  have HB := Lib.hid (below_one W (.cells (ttc x AH AG ch cg) 25))
  have hn : ∀ c, largeB x = c → Hid (largeB x = c) := fun b h => h
  unfold ttv
  by_cases h1 : 8 < x.G.length
  · have HE := hn true (by unfold largeB; simp [h1])
    have h1' : (8 : Int) < x.G.length := by omega
    clear hn h1
    go_enter Try.func21, Try.ntmps21
    go_wp2_with fail
    go_ret
    exact ⟨ret_bool HE.out.symm, HB.out⟩
  have h1' : ¬ (8 : Int) < x.G.length := by omega
  by_cases h2 : 14 < x.H.length
  · have HE := hn true (by unfold largeB; simp [h2])
    have h2' : (14 : Int) < x.H.length := by omega
    clear hn h1 h2
    go_enter Try.func21, Try.ntmps21
    go_wp2_with fail
    go_ret
    exact ⟨ret_bool HE.out.symm, HB.out⟩
  have h2' : ¬ (14 : Int) < x.H.length := by omega
  have HE := hn false (by unfold largeB; simp [h1, h2])
  clear hn h1 h2
  go_enter Try.func21, Try.ntmps21
  go_wp2_with fail
  go_ret
  exact ⟨ret_bool HE.out.symm, HB.out⟩
theorem planB_eq (x : Tt) (l : List Int) : planB x l = ((l.all fun g => inB g (-1) ((x.G.length : Int) - 1)) && decide (l.length = x.H.length)) := by
  unfold planB
  have : (fun g => decide (g = -1) || inB g 0 ((x.G.length : Int) - 1)) = (fun g => inB g (-1) ((x.G.length : Int) - 1)) := by
    funext g
    unfold inB
    rw [Bool.eq_iff_iff]
    simp only [Bool.or_eq_true, decide_eq_true_eq]
    omega
  rw [this, Bool.and_comm]
set_option maxRecDepth 100000 in
set_option maxHeartbeats 1200000 in
theorem Plan_any (x : Tt) (AH AG : Option Addr) (ch cg : Nat) (l : List Int) (A : Option Addr) (c : Nat) (W : World) (hng : x.G.length ≤ 1000) (ha : IRow W W.heap.size A l) (hl : l.length ≤ 1000000) : Calls Try.prog 28 #[ttv x AH AG ch cg, .slice A l.length c] W (BoolPost (planB x l) W) := by
  have hmix : Try.prog.follows .mixedOrders = true := by kernel_rfl
  have HB : Hid (VB W (W.alloc (.cells (ttc x AH AG ch cg) 25)) x AH AG ch cg) := ⟨below_one W _, Has.new W 25 _⟩
  have HA := Lib.hid ha
  have HT := Lib.hid (planB_eq x l)
  clear ha
  unfold ttv
  go_enter Try.func28, Try.ntmps28
  go_wp2_with fail
  generalize W.alloc (.cells (ttc x AH AG ch cg) 25) = w0 at HB ⊢
  go_loopg [5] l.length (fun gk i wr => ∃ k : Nat, k ≤ l.length ∧ l.length - k ≤ gk ∧ i = .int .i64 k ∧ Hid (VB W wr x AH AG ch cg ∧ ∀ j (hj : j < l.length), j < k → inB l[j] (-1) ((x.G.length : Int) - 1) = true))
  case atStart => exact ⟨0, Nat.zero_le _, Nat.le_refl _, rfl, Lib.hid ⟨HB.out, fun j _ h => absurd h (by omega)⟩⟩
  case round =>
    obtain ⟨k, hk, hgk, rfl, HW⟩ := hrel
    by_cases hlt : k < l.length
    rotate_left
    · have hge : ¬ (k : Int) < l.length := by omega
      have HE : Hid (planB x l = decide (l.length = x.H.length)) := Lib.hid (by
        rw [HT.out]
        have : (l.all fun g => inB g (-1) ((x.G.length : Int) - 1)) = true := by
          rw [List.all_eq_true]
          intro g hg
          obtain ⟨j, hj, rfl⟩ := List.getElem_of_mem hg
          exact HW.out.2 j hj (by omega)
        rw [this, Bool.true_and])
      have x0 : wr.cell? ⟨W.heap.size, 0, none⟩ = some (.slice AH x.H.length ch) := HW.out.1.fx.cell 0
      by_cases hlm : l.length = x.H.length
      · have hd : ((l.length : Int) == (x.H.length : Int)) = true := by simp; omega
        have HE2 := Lib.hid (HE.out.trans (decide_eq_true hlm))
        clear hlm
        go_wp2_with fail
        go_ret
        exact ⟨ret_bool HE2.out.symm, HW.out.1.b⟩
      · have hd : ((l.length : Int) == (x.H.length : Int)) = false := by simp; omega
        have HE2 := Lib.hid (HE.out.trans (decide_eq_false hlm))
        clear hlm
        go_wp2_with fail
        go_ret
        exact ⟨ret_bool HE2.out.symm, HW.out.1.b⟩
    have hlt2 : (k : Int) < l.length := by omega
    obtain ⟨g, o, hg, hgs, hc⟩ := HA.out k hlt
    obtain ⟨v, hb⟩ : ∃ v, v = l[k] := ⟨_, rfl⟩
    rw [← hb] at hc
    have HBE := Lib.hid hb
    have e1 : IntKind.i64.wrap ((x.G.length : Int) - 1) = (x.G.length : Int) - 1 := IntWalk.i64_in _ (by omega)
    have CA : Hid (∀ w, Below W.heap.size W w → w.cell? ⟨g, o + k, none⟩ = some (.int .i64 v)) := fun w hb => (hb.cell (p := ⟨g, _, none⟩) hgs).trans hc
    subst hg
    clear hb hgs hc
    go_upto_region 4 with fail
    haveI hne : Nonempty (Cls (fun w' => VB W w' x AH AG ch cg)) := ⟨⟨_, HW.out.1.step (Below.refl _ _).drew⟩⟩
    have HD := Lib.hid (HW.out.1.step (Below.refl wr.heap.size wr).drew)
    have hx1 : ∀ pc : Cls (fun w' => VB W w' x AH AG ch cg), pc.w.cell? ⟨g, o + k, none⟩ = some (.int .i64 v) := fun pc => CA.out _ pc.h.b
    have hx2 : ∀ pc : Cls (fun w' => VB W w' x AH AG ch cg), pc.w.cell? ⟨W.heap.size, 1, none⟩ = some (.slice AG x.G.length cg) := fun pc => pc.h.fx.cell 1
    have HWI := Lib.hid (fun (w : World) (h : VB W w x AH AG ch cg) => (in_any v (-1) ((x.G.length : Int) - 1) w).mono (fun e w' h' => (show e = .returned (.bool (inB v (-1) ((x.G.length : Int) - 1))) ∧ VB W w' x AH AG ch cg from ⟨h'.1, by rw [h'.2]; exact h⟩)))
    cases hin : inB v (-1) ((x.G.length : Int) - 1) <;> rw [hin] at HWI
    · have HN : Hid (planB x l = false) := Lib.hid (by
        rw [HT.out]
        have : (l.all fun g => inB g (-1) ((x.G.length : Int) - 1)) = false := List.all_eq_false.2 ⟨l[k], List.getElem_mem hlt, by rw [← HBE.out, hin]; decide⟩
        rw [this]; rfl)
      have hcl := HWI.out
      clear HBE hin
      refine wp_region_cls (fun w' => VB W w' x AH AG ch cg) hmix (by kernel_rfl) HD.out ?_
      repeat (quiet_step (exact cls_call hcl _))
      refine wpQuiet_nil ?_
      rintro w7 ⟨⟨_, hw7⟩, rfl⟩
      have H7 := Lib.hid hw7
      clear hx1 hx2 hne hw7 HD hcl
      try simp only []
      go_wp2_with fail
      go_ret
      exact ⟨ret_bool HN.out.symm, H7.out.b⟩
    · have HN : Hid (∀ j (hj : j < l.length), j < k + 1 → inB l[j] (-1) ((x.G.length : Int) - 1) = true) := Lib.hid fun j hj hjk => by
        rcases Nat.lt_or_ge j k with h' | h'
        · exact HW.out.2 j hj h'
        · have : j = k := by omega
          subst this
          rw [← HBE.out]; exact hin
      have hcl := HWI.out
      clear HBE hin
      refine wp_region_cls (fun w' => VB W w' x AH AG ch cg) hmix (by kernel_rfl) HD.out ?_
      repeat (quiet_step (exact cls_call hcl _))
      refine wpQuiet_nil ?_
      rintro w7 ⟨⟨_, hw7⟩, rfl⟩
      have H7 := Lib.hid hw7
      clear hx1 hx2 hne hw7 HD hcl
      try simp only []
      go_wp2_with fail
      go_roundg (l.length - (k + 1))
      case measure => omega
      case rel => exact ⟨k + 1, by omega, Nat.le_refl _, by go_num, Lib.hid ⟨H7.out, HN.out⟩⟩
set_option maxRecDepth 100000 in
set_option maxHeartbeats 1200000 in
theorem May_any (g : Gr) (h : Hr) (W : World) (hg : 0 ≤ g.days ∧ g.days ≤ 127) (hd : 0 ≤ h.day ∧ h.day ≤ 6) : Calls Try.prog 55 #[grv g, hrv h] W (BoolPost (mayB g h) W) := by
  have HB := Lib.hid (And.intro ((below_one W (.cells (grc g) 49)).alloc (by simp) (.cells (hrc h) 88)) (And.intro ((Has.new W 49 (grc g)).alloc (.cells (hrc h) 88)) (show Has ((W.alloc (.cells (grc g) 49)).alloc (.cells (hrc h) 88)) (W.heap.size + 1) 88 (hrc h) from has_newAt (by simp))))
  have hn : ∀ c, mayB g h = c → Hid (mayB g h = c) := fun b h => h
  obtain ⟨D, hD⟩ : ∃ D : Nat, h.day = (D : Int) := ⟨h.day.toNat, by omega⟩
  have HMB : Hid (∀ q : Int, q = 2 ^ D → mayB g h = (decide (g.days / q % 2 = 1) && (decide (g.early ≤ h.beg) && decide (h.fin ≤ g.late)))) := Lib.hid fun q hq => by
    subst hq; unfold mayB; rw [hD]; simp only [Int.toNat_natCast]
  have hD6 : D ≤ 6 := by omega
  have HP : Hid (∀ k : Nat, k ≤ D → (1 : Int) ≤ 2 ^ k ∧ (2 : Int) ^ k ≤ 64) := Lib.hid fun k hk => by
    have h2 : ∀ k : Fin 7, (1 : Int) ≤ 2 ^ k.1 ∧ (2 : Int) ^ k.1 ≤ 64 := by decide
    exact h2 ⟨k, by omega⟩
  unfold hrv grv
  unfold grc hrc at *
  rw [hD] at HB ⊢
  go_enter Try.func55, Try.ntmps55
  go_wp2_with fail
  generalize (W.alloc (.cells #[.int .i64 g.days, .int .i64 g.early, .int .i64 g.late, .int .i64 g.most, .int .i64 g.credit] 49)).alloc (.cells #[.int .i64 D, .int .i64 h.beg, .int .i64 h.fin] 88) = w0 at HB ⊢
  have a0 : w0.cell? ⟨W.heap.size, 0, none⟩ = some (.int .i64 g.days) := HB.out.2.1.cell 0
  have a1 : w0.cell? ⟨W.heap.size, 1, none⟩ = some (.int .i64 g.early) := HB.out.2.1.cell 1
  have a2 : w0.cell? ⟨W.heap.size, 2, none⟩ = some (.int .i64 g.late) := HB.out.2.1.cell 2
  have b0 : w0.cell? ⟨W.heap.size + 1, 0, none⟩ = some (.int .i64 D) := HB.out.2.2.cell 0
  have b1 : w0.cell? ⟨W.heap.size + 1, 1, none⟩ = some (.int .i64 h.beg) := HB.out.2.2.cell 1
  have b2 : w0.cell? ⟨W.heap.size + 1, 2, none⟩ = some (.int .i64 h.fin) := HB.out.2.2.cell 2
  go_loopg [5, 6] D (fun gk b i wr => ∃ k : Nat, k ≤ D ∧ D - k ≤ gk ∧ i = .int .i64 k ∧ b = .int .i64 (2 ^ k : Int) ∧ wr = w0)
  case atStart => exact ⟨0, Nat.zero_le _, Nat.le_refl _, rfl, rfl, rfl⟩
  case round =>
    obtain ⟨k, hk, hgk, rfl, rfl, rfl⟩ := hrel
    have hp := HP.out k hk
    by_cases hlt : k < D
    · have hlt2 : (k : Int) < D := by omega
      have hp2 : (2 : Int) ^ (k + 1) = 2 * 2 ^ k := by rw [Int.pow_succ, Int.mul_comm]
      obtain ⟨q, hq⟩ : ∃ q : Int, q = 2 ^ k := ⟨_, rfl⟩
      rw [← hq] at hp hp2 ⊢
      have HQ := Lib.hid hp2
      have e1 : IntKind.i64.wrap (2 * q) = 2 * q := IntWalk.i64_in _ (by omega)
      clear hp2 hq
      go_wp2_with fail
      go_roundg (D - (k + 1))
      case measure => omega
      case rel => exact ⟨k + 1, by omega, Nat.le_refl _, by go_num, by rw [HQ.out], rfl⟩
    have hge : ¬ (k : Int) < D := by omega
    have hke : k = D := by omega
    obtain ⟨q, hq⟩ : ∃ q : Int, q = 2 ^ k := ⟨_, rfl⟩
    have HMQ := Lib.hid (HMB.out q (by rw [hq, hke]))
    rw [← hq] at hp ⊢
    clear hq hke HMB HP
    obtain ⟨d, hdq⟩ : ∃ d, d = g.days / q := ⟨_, rfl⟩
    rw [← hdq] at HMQ
    have hd0 : 0 ≤ d := by rw [hdq]; exact Int.ediv_nonneg hg.1 (by omega)
    have hd1 : d ≤ 127 := by rw [hdq]; exact Int.le_trans (Int.ediv_le_self _ hg.1) hg.2
    have e1 : g.days.tdiv q = d := by rw [hdq, Int.tdiv_eq_ediv_of_nonneg hg.1]
    have e2 : IntKind.i64.wrap d = d := IntWalk.i64_in _ (by omega)
    obtain ⟨r, hr⟩ : ∃ r, r = d % 2 := ⟨_, rfl⟩
    rw [← hr] at HMQ
    have e3 : d.tmod 2 = r := by rw [hr, Int.tmod_eq_emod_of_nonneg hd0]
    have e4 : IntKind.i64.wrap r = r := IntWalk.i64_in _ (by omega)
    have hq0 : ¬ q = 0 := by omega
    have h3 : ¬ r = 1 ∨ (r = 1 ∧ ¬ g.early ≤ h.beg) ∨ (r = 1 ∧ g.early ≤ h.beg ∧ ¬ h.fin ≤ g.late) ∨ (r = 1 ∧ g.early ≤ h.beg ∧ h.fin ≤ g.late) := by omega
    clear hr hdq hn
    rcases h3 with p0 | ⟨p0, p1⟩ | ⟨p0, p1, p2⟩ | ⟨p0, p1, p2⟩
    · have HE : Hid (mayB g h = false) := Lib.hid (by rw [HMQ.out]; simp [p0])
      go_wp2_with fail
      go_ret
      exact ⟨ret_bool HE.out.symm, HB.out.1⟩
    · have HE : Hid (mayB g h = false) := Lib.hid (by rw [HMQ.out]; simp [p1])
      go_wp2_with fail
      go_ret
      exact ⟨ret_bool HE.out.symm, HB.out.1⟩
    · have HE : Hid (mayB g h = false) := Lib.hid (by rw [HMQ.out]; simp [p2])
      go_wp2_with fail
      go_ret
      exact ⟨ret_bool HE.out.symm, HB.out.1⟩
    · have HE : Hid (mayB g h = true) := Lib.hid (by rw [HMQ.out]; simp [p0, p1, p2])
      go_wp2_with fail
      go_ret
      exact ⟨ret_bool HE.out.symm, HB.out.1⟩
end Go.Proofs.Ytipejhfgfciabaa
