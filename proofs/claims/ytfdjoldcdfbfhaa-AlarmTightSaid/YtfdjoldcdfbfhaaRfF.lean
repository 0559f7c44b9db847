/- The document's quiet, soon, and the halving, plainly; quiet, errors, soon walked. -/
import Derived.Test.YtfdjoldcdfbfhaaLwWorst
namespace Go.Proofs.Ytfdjoldcdfbfhaa
open Go.Shelf Go.RowKit
theorem num_mono {t t' rise m : Int} {s : Sn} (h : vS s) (h0 : 0 ≤ t) (ht : t ≤ t') (hr : 0 ≤ rise) : num t rise m s ≤ num t' rise m s := by
  unfold num
  by_cases hm : m < s.f
  · rw [if_pos hm, if_pos hm]; omega
  · rw [if_neg hm, if_neg hm]
    have h3 := h.2.2
    have hb := tmod_bd (a := m - s.f) (b := s.e) (by omega) h.2.1.1
    have h4 := Int.mul_nonneg hr hb.1
    by_cases ha : t + s.r = 0
    · rw [if_pos ha]
      split <;> omega
    · rw [if_neg ha, if_neg (by omega)]; omega
theorem atN_mono {L : List Sn} {K : Nat} {t t' rise m : Int} (hL : ∀ s ∈ L, vS s) (hK : 1 ≤ K) (h0 : 0 ≤ t) (ht : t ≤ t') (hr : 0 ≤ rise) : atN L K t rise m ≤ atN L K t' rise m := by
  have h1 := atN_top (L := L) (t := t) (rise := rise) (m := m) hK
  by_cases h : atN L K t' rise m ≤ 1048576
  · have h2 := (atN_le (L := L) (t := t') (rise := rise) (m := m) hK h).1 (Int.le_refl _)
    refine (atN_le hK h).2 (Nat.le_trans h2 ?_)
    exact cnt_imp fun s hs hx => Int.le_trans (num_mono (hL s hs) h0 ht hr) hx
  · omega
theorem soon_anti {L : List Sn} {K : Nat} {limit rise frm t t' : Int} {k : Nat} (hL : ∀ s ∈ L, vS s) (hK : 1 ≤ K) (h0 : 0 ≤ t) (ht : t ≤ t') (hr : 0 ≤ rise) (h : soon L K limit rise frm k t') : soon L K limit rise frm k t := fun j hj =>
  Int.le_trans (atN_mono hL hK h0 ht hr) (h j hj)
/-- the greatest of those for which p holds, if it holds for all lesser ones -/
theorem greatest (p : Int → Prop) (hp : ∀ a b, 0 ≤ a → a ≤ b → p b → p a) (N : Nat) : ∃ h : Int, -1 ≤ h ∧ h < N ∧ ∀ x : Int, 0 ≤ x → x < N → (p x ↔ x ≤ h) := by
  induction N with
  | zero => exact ⟨-1, by omega, by omega, fun x h1 h2 => by omega⟩
  | succ N ih =>
    obtain ⟨h, h1, h2, h3⟩ := ih
    by_cases hN : p N
    · refine ⟨N, by omega, by omega, fun x hx0 hx => ⟨fun _ => by omega, fun hx' => hp x N hx0 (by omega) hN⟩⟩
    · refine ⟨h, h1, by omega, fun x hx0 hx => ?_⟩
      by_cases hxN : x = N
      · subst hxN; exact ⟨fun h' => absurd h' hN, fun h' => by omega⟩
      · exact h3 x hx0 (by omega)
def quietB (l : List Sn) (V F t calm : Int) : Bool := decide (F + (says l t calm : Int) < V)
def soonB (x : (Int × Int) × Bool) (limit : Int) : Bool := x.2 && decide (x.1.1 < limit)
theorem soonB_iff {l : List Sn} {K : Nat} {limit rise frm t : Int} {k : Nat} (hl : 0 ≤ limit ∧ limit ≤ 1048576) : soonB (refWE (worstP (atN l K t rise) frm k)) limit = true ↔ soon l K limit rise frm k t := by
  unfold soon
  rw [← worst_soon hl.1 hl.2]
  unfold soonB
  cases worstP (atN l K t rise) frm k with
  | none => simp [refWE]
  | some x => simp only [refWE, Bool.true_and, Option.some.injEq, exists_eq_left']; exact decide_eq_true_iff
def errB (limit rise calm frm to : Int) : Int := if searchB limit rise calm frm to = true then 0 else 2
theorem search_in (limit rise calm frm to : Int) : searchB limit rise calm frm to = (inB limit 0 1048576 && (inB rise 0 1048576 && (inB calm 0 1048576 && (inB to 0 2000 && inB frm 0 to)))) := by
  unfold searchB; rw [minB_in, gasB_in, gasB_in, gasB_in]; simp only [Bool.and_assoc]
set_option maxRecDepth 100000 in
set_option maxHeartbeats 2000000 in
theorem errors_any (limit rise calm frm to : Int) (w : World) : Calls Try.prog 47 #[.int .i64 limit, .int .i64 rise, .int .i64 calm, .int .i64 frm, .int .i64 to] w fun e w' => e = .returned (.int .i64 (errB limit rise calm frm to)) ∧ w' = w := by
  have g1 := fun w => in_any limit 0 1048576 w
  have g2 := fun w => in_any rise 0 1048576 w
  have g3 := fun w => in_any calm 0 1048576 w
  have g4 := fun w => in_any to 0 2000 w
  have g5 := fun w => in_any frm 0 to w
  have HS := search_in limit rise calm frm to
  have bad : searchB limit rise calm frm to = false → Hid (errB limit rise calm frm to = 2) := fun h => by show _ = _; unfold errB; rw [h]; rfl
  cases h1 : inB limit 0 1048576 <;> rw [h1] at g1 HS
  · have HN := bad (by rw [HS]; rfl)
    clear h1 HS bad g2 g3 g4 g5
    go_enter Try.func47, Try.ntmps47
    go_wp2_with fail
    refine (g1 _).mono ?_
    rintro e w' ⟨rfl, rfl⟩
    go_wp2_with fail
    go_ret
    exact ⟨by rw [HN.out]; rfl, rfl⟩
  cases h2 : inB rise 0 1048576 <;> rw [h2] at g2 HS
  · have HN := bad (by rw [HS]; rfl)
    clear h1 h2 HS bad g3 g4 g5
    go_enter Try.func47, Try.ntmps47
    go_wp2_with fail
    refine (g1 _).mono ?_
    rintro e w' ⟨rfl, rfl⟩
    go_wp2_with fail
    refine (g2 _).mono ?_
    rintro e w' ⟨rfl, rfl⟩
    go_wp2_with fail
    go_ret
    exact ⟨by rw [HN.out]; rfl, rfl⟩
  cases h3 : inB calm 0 1048576 <;> rw [h3] at g3 HS
  · have HN := bad (by rw [HS]; rfl)
    clear h1 h2 h3 HS bad g4 g5
    go_enter Try.func47, Try.ntmps47
    go_wp2_with fail
    refine (g1 _).mono ?_
    rintro e w' ⟨rfl, rfl⟩
    go_wp2_with fail
    refine (g2 _).mono ?_
    rintro e w' ⟨rfl, rfl⟩
    go_wp2_with fail
    refine (g3 _).mono ?_
    rintro e w' ⟨rfl, rfl⟩
    go_wp2_with fail
    go_ret
    exact ⟨by rw [HN.out]; rfl, rfl⟩
  cases h4 : inB to 0 2000 <;> rw [h4] at g4 HS
  · have HN := bad (by rw [HS]; rfl)
    clear h1 h2 h3 h4 HS bad g5
    go_enter Try.func47, Try.ntmps47
    go_wp2_with fail
    refine (g1 _).mono ?_
    rintro e w' ⟨rfl, rfl⟩
    go_wp2_with fail
    refine (g2 _).mono ?_
    rintro e w' ⟨rfl, rfl⟩
    go_wp2_with fail
    refine (g3 _).mono ?_
    rintro e w' ⟨rfl, rfl⟩
    go_wp2_with fail
    refine (g4 _).mono ?_
    rintro e w' ⟨rfl, rfl⟩
    go_wp2_with fail
    go_ret
    exact ⟨by rw [HN.out]; rfl, rfl⟩
  have HN : Hid (errB limit rise calm frm to = if inB frm 0 to = true then 0 else 2) := by
    show _ = _
    unfold errB; rw [HS]; simp
  cases h5 : inB frm 0 to <;> rw [h5] at g5 HN
  all_goals
    clear h1 h2 h3 h4 h5 HS bad
    go_enter Try.func47, Try.ntmps47
    go_wp2_with fail
    refine (g1 _).mono ?_
    rintro e w' ⟨rfl, rfl⟩
    go_wp2_with fail
    refine (g2 _).mono ?_
    rintro e w' ⟨rfl, rfl⟩
    go_wp2_with fail
    refine (g3 _).mono ?_
    rintro e w' ⟨rfl, rfl⟩
    go_wp2_with fail
    refine (g4 _).mono ?_
    rintro e w' ⟨rfl, rfl⟩
    go_wp2_with fail
    refine (g5 _).mono ?_
    rintro e w' ⟨rfl, rfl⟩
    go_wp2_with fail
    go_ret
    exact ⟨by rw [HN.out]; rfl, rfl⟩
theorem says_take (l : List Sn) (t calm : Int) (k : Nat) (hk : k < l.length) : says (l.take (k + 1)) t calm = says (l.take k) t calm + if t ≤ calm + l[k].r then 1 else 0 := by
  unfold says
  rw [List.take_succ_eq_append_getElem hk, List.countP_append]
  simp
set_option maxRecDepth 100000 in
set_option maxHeartbeats 2000000 in
theorem refQuiet_any (l : List Sn) (A : Option Addr) (cap : Nat) (V F t calm : Int) (W : World) (hr : NRow W W.heap.size A l) (hv : VV l V F) (ht : 0 ≤ t ∧ t ≤ 4194304) (hc : 0 ≤ calm ∧ calm ≤ 1048576) :
    Calls Try.prog 41 #[vtv A l.length cap V F, .int .i64 t, .int .i64 calm] W (BoolPost (quietB l V F t calm) W) := by
  have HR := Lib.hid hr
  have HV := Lib.hid hv.hL
  have hV := hv.hV; have hF := hv.hF; have h12 := hv.h12
  have hh : Has (W.alloc (.cells #[.slice A l.length cap, .int .i64 V, .int .i64 F] 24)) W.heap.size 24 #[.slice A l.length cap, .int .i64 V, .int .i64 F] := Has.new W 24 _
  have hb0 := below_one W (.cells #[.slice A l.length cap, .int .i64 V, .int .i64 F] 24)
  clear hr hv
  unfold vtv
  go_enter Try.func41, Try.ntmps41
  go_wp2_with fail
  generalize W.alloc (.cells #[.slice A l.length cap, .int .i64 V, .int .i64 F] 24) = w0 at hh hb0 ⊢
  have HB := Lib.hid (And.intro hb0 hh)
  have v0 : w0.cell? ⟨W.heap.size, 0, none⟩ = some (.slice A l.length cap) := hh.cell 0
  have v1 : w0.cell? ⟨W.heap.size, 1, none⟩ = some (.int .i64 V) := hh.cell 1
  clear hb0 hh
  go_loopg [7, 8] l.length (fun gk n i wr => ∃ k : Nat, k ≤ l.length ∧ l.length - k ≤ gk ∧ n = .int .i64 (F + (says (l.take k) t calm : Int)) ∧ i = .int .i64 k ∧ wr = w0 ∧ says (l.take k) t calm ≤ k)
  case atStart => exact ⟨0, Nat.zero_le _, Nat.le_refl _, by simp [says], rfl, rfl, by simp [says]⟩
  case round =>
    obtain ⟨k, hk, hgk, rfl, rfl, rfl, hsk⟩ := hrel
    by_cases hlt : k < l.length
    · have hlt' : (k : Int) < l.length := by omega
      obtain ⟨g, o, rfl, hg, -, -, d2⟩ := (HR.out.below HB.out.1) k hlt
      have hg' : g < wr.heap.size := by have := HB.out.1.size; omega
      have hs := says_take l t calm k hlt
      have hrb := (HV.out _ (List.getElem_mem hlt)).2.2
      obtain ⟨r, hre⟩ : ∃ r, r = l[k].r := ⟨_, rfl⟩
      rw [← hre] at d2 hs hrb
      obtain ⟨q, hq⟩ : ∃ q, q = says (l.take k) t calm := ⟨_, rfl⟩
      rw [← hq] at hs hsk ⊢
      clear hre hq
      by_cases hle : t ≤ calm + r
      · rw [if_pos hle] at hs
        have HS := Lib.hid hs
        clear hs
        go_wp2_with fail
        go_roundg (l.length - (k + 1))
        case measure => omega
        case rel => exact ⟨k + 1, by omega, Nat.le_refl _, by rw [HS.out]; go_num, by go_num, rfl, by rw [HS.out]; omega⟩
      · rw [if_neg hle] at hs
        have HS := Lib.hid hs
        clear hs
        go_wp2_with fail
        go_roundg (l.length - (k + 1))
        case measure => omega
        case rel => exact ⟨k + 1, by omega, Nat.le_refl _, by rw [HS.out]; rfl, by go_num, rfl, by rw [HS.out]; omega⟩
    · have hlt' : ¬ (k : Int) < l.length := by omega
      have htk : l.take k = l := List.take_of_length_le (by omega)
      rw [htk] at hsk ⊢
      have HQ := Lib.hid (show quietB l V F t calm = decide (F + (says l t calm : Int) < V) from rfl)
      obtain ⟨q, hq⟩ : ∃ q, says l t calm = q := ⟨_, rfl⟩
      rw [hq] at HQ hsk ⊢
      clear htk hq
      go_wp2_with fail
      go_ret
      exact ⟨by rw [HQ.out]; rfl, HB.out.1⟩
set_option maxRecDepth 100000 in
set_option maxHeartbeats 2000000 in
theorem soon_any (l : List Sn) (A : Option Addr) (cap : Nat) (V F t limit rise frm to : Int) (W : World) (hr : NRow W W.heap.size A l) (hv : VV l V F) (ht : 0 ≤ t ∧ t ≤ 4194304) (hri : 0 ≤ rise ∧ rise ≤ 1048576) (hf : 0 ≤ frm ∧ frm ≤ to ∧ to ≤ 2000) :
    Calls Try.prog 60 #[vtv A l.length cap V F, .int .i64 t, .int .i64 limit, .int .i64 rise, .int .i64 frm, .int .i64 to] W (BoolPost (soonB (refWE (worstP (atN l (V + F).toNat t rise) frm (to - frm + 1).toNat)) limit) W) := by
  have HW := Lib.hid (fun w h => refWorst_any l A cap V F t rise frm to w h hv ht hri hf)
  have HR := Lib.hid hr
  obtain ⟨x, hx⟩ : ∃ x, x = refWE (worstP (atN l (V + F).toNat t rise) frm (to - frm + 1).toNat) := ⟨_, rfl⟩
  rw [← hx] at HW ⊢
  have hb0 := below_one W (.cells #[.slice A l.length cap, .int .i64 V, .int .i64 F] 24)
  have HB := Lib.hid hb0
  clear hr hv ht hri hf hx hb0
  unfold vtv at *
  cases hx2 : x.2
  · have HN := Lib.hid (show soonB x limit = false by unfold soonB; rw [hx2]; rfl)
    go_enter Try.func60, Try.ntmps60
    go_wp2_with fail
    refine (HW.out _ (HR.out.step HB.out)).mono ?_
    unfold RefWPost
    rw [hx2]
    rintro e w1 ⟨rfl, hb1⟩
    have H1 := Lib.hid (below_seq HB.out hb1)
    clear hb1
    go_wp2_with fail
    go_ret
    exact ⟨by rw [HN.out]; rfl, H1.out⟩
  · have HN := Lib.hid (show soonB x limit = decide (x.1.1 < limit) by unfold soonB; rw [hx2]; rfl)
    go_enter Try.func60, Try.ntmps60
    go_wp2_with fail
    refine (HW.out _ (HR.out.step HB.out)).mono ?_
    unfold RefWPost
    rw [hx2]
    rintro e w1 ⟨rfl, hb1⟩
    have H1 := Lib.hid (below_seq HB.out hb1)
    clear hb1
    go_wp2_with fail
    go_ret
    exact ⟨by rw [HN.out]; rfl, H1.out⟩
end Go.Proofs.Ytfdjoldcdfbfhaa
