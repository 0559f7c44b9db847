/- The document's thresholds. -/
import Derived.Test.YtfdjoldcdfbfhaaRfF
namespace Go.Proofs.Ytfdjoldcdfbfhaa
open Go.Shelf Go.RowKit
/-- what the halving finds -/
def RefThr (l : List Sn) (V F limit rise calm frm to : Int) (x : (Int × Int) × Bool) : Prop :=
  (x.2 = false ∧ thrP l V F limit rise calm frm (to - frm + 1).toNat = none) ∨ (x.2 = true ∧ thrP l V F limit rise calm frm (to - frm + 1).toNat = some x.1)
theorem refThr_of {l : List Sn} {V F limit rise calm frm to lo hs : Int} (ask : Ask l V F limit rise calm) (hf : 0 ≤ frm ∧ frm ≤ to ∧ to ≤ 2000) (hlo : lo = min (qf l V F calm) 1048577) (h1 : -1 ≤ hs) (h2 : hs < 1048577)
    (hh : ∀ x : Int, 0 ≤ x → x < 1048577 → (soon l (V + F).toNat limit rise frm (to - frm + 1).toNat x ↔ x ≤ hs)) : RefThr l V F limit rise calm frm to ((lo, hs), decide (lo ≤ hs)) := by
  have hq := qf_bd (V := V) (F := F) ask.hL ask.hV.2 ask.hF.1 ask.hc.1 ask.hc.2
  cases ht : thrP l V F limit rise calm frm (to - frm + 1).toNat with
  | none =>
    refine .inl ⟨?_, ht⟩
    have h := thrP_none ask ht
    rw [decide_eq_false_iff_not]
    intro hle
    have := h hs
    exact this ⟨by omega, (hh hs (by omega) h2).2 (Int.le_refl _)⟩
  | some s =>
    obtain ⟨a1, a2, a3, a4, a5⟩ := thrP_some ask (by omega) ht
    have e1 : lo = s.1 := by omega
    have e2 : hs = s.2 := by
      have b1 := (a5 s.2).2 ⟨a2, Int.le_refl _⟩
      have b2 := (hh s.2 (by omega) (by omega)).1 b1.2
      have b3 := (hh hs (by omega) h2).2 (Int.le_refl _)
      have b4 := (a5 hs).1 ⟨by omega, b3⟩
      omega
    refine .inr ⟨decide_eq_true (by omega), ?_⟩
    rw [ht, e1, e2]
def RefThrPost (l : List Sn) (V F limit rise calm frm to : Int) (W : World) (e : Ending) (W' : World) : Prop :=
  ∃ x, RefThr l V F limit rise calm frm to x ∧ (-1 ≤ x.1.1 ∧ x.1.1 ≤ 2097153 ∧ -1 ≤ x.1.2 ∧ x.1.2 ≤ 2097153) ∧ e = .returned (.tuple #[.agg #[.int .i64 x.1.1, .int .i64 x.1.2], .bool x.2]) ∧ Below W.heap.size W W'
set_option maxRecDepth 100000 in
set_option maxHeartbeats 4000000 in
theorem refThr_any (l : List Sn) (A : Option Addr) (cap : Nat) (V F limit rise calm frm to : Int) (W : World) (hr : NRow W W.heap.size A l) (hv : VV l V F) (hl : 0 ≤ limit ∧ limit ≤ 1048576) (hri : 0 ≤ rise ∧ rise ≤ 1048576) (hc : 0 ≤ calm ∧ calm ≤ 1048576) (hf : 0 ≤ frm ∧ frm ≤ to ∧ to ≤ 2000) :
    Calls Try.prog 48 #[vtv A l.length cap V F, .int .i64 limit, .int .i64 rise, .int .i64 calm, .int .i64 frm, .int .i64 to] W (RefThrPost l V F limit rise calm frm to W) := by
  have ask : Ask l V F limit rise calm := ⟨hv.hL, hv.h1, hv.h12, hv.hV, hv.hF, hl, hri, hc⟩
  have hqb := qf_bd (V := V) (F := F) hv.hL hv.hV.2 hv.hF.1 hc.1 hc.2
  have hK : 1 ≤ (V + F).toNat := by have := hv.hV; have := hv.hF; omega
  have hQ := Lib.hid (fun (t : Int) (h0 : 0 ≤ t) (h1 : t ≤ 1048576) w hr => refQuiet_any l A cap V F t calm w hr hv ⟨h0, by omega⟩ hc)
  have hS := Lib.hid (fun (t : Int) (h0 : 0 ≤ t) (h1 : t ≤ 1048576) w hr => soon_any l A cap V F t limit rise frm to w hr hv ⟨h0, by omega⟩ hri hf)
  have hQi := Lib.hid (show ∀ t : Int, t ≤ 1048576 → (quietB l V F t calm = true ↔ qf l V F calm ≤ t) from fun t ht => by
    rw [qf_iff hv.hV.2 hv.hF.1 ht]; unfold quietB; rw [decide_eq_true_eq]; omega)
  obtain ⟨hs, hs1, hs2, hs3⟩ := greatest (fun x => soon l (V + F).toNat limit rise frm (to - frm + 1).toNat x) (fun a b h0 hab hb => soon_anti hv.hL hK h0 hab hri.1 hb) 1048577
  have hSi := Lib.hid (show ∀ t : Int, 0 ≤ t → t ≤ 1048576 → (soonB (refWE (worstP (atN l (V + F).toNat t rise) frm (to - frm + 1).toNat)) limit = true ↔ t ≤ hs) from fun t h0 h1 => by
    rw [soonB_iff hl]; exact hs3 t h0 (by omega))
  obtain ⟨q, hq⟩ : ∃ q, q = min (qf l V F calm) 1048577 := ⟨_, rfl⟩
  have HF := Lib.hid (refThr_of ask hf hq hs1 (by omega) (fun x h0 h1 => hs3 x h0 (by omega)))
  have hq0 : 1 ≤ q ∧ q ≤ 1048577 := by omega
  have hQ2 := Lib.hid (show ∀ t : Int, t ≤ 1048576 → (quietB l V F t calm = true ↔ q ≤ t) from fun t ht => by rw [hQi.out t ht]; omega)
  have HR := Lib.hid hr
  have hs2' : hs ≤ 1048576 := by omega
  have hh := Has.new W 24 #[.slice A l.length cap, .int .i64 V, .int .i64 F]
  have hb0 := below_one W (.cells #[.slice A l.length cap, .int .i64 V, .int .i64 F] 24)
  have hn := Has.new (W.alloc (.cells #[.slice A l.length cap, .int .i64 V, .int .i64 F] 24)) 38 #[.int .i64 0, .int .i64 0]
  simp only [World.size_alloc] at hn
  have HB := Lib.hid (And.intro (hb0.alloc (Nat.le_of_lt (by simp)) (.cells #[.int .i64 0, .int .i64 0] 38)) (And.intro (hh.alloc (.cells #[.int .i64 0, .int .i64 0] 38)) hn))
  clear hb0 hh hn hr hv hl hri hc hf ask hqb hK hq hs2 hs3 hQi
  unfold vtv at *
  go_enter Try.func48, Try.ntmps48
  go_wp2_with fail
  generalize ((W.alloc (.cells #[.slice A l.length cap, .int .i64 V, .int .i64 F] 24)).alloc (.cells #[.int .i64 0, .int .i64 0] 38)) = w0 at HB ⊢
  go_loopg [14, 15] 1048577 (fun gk a b wr => ∃ lo hi : Int, a = .int .i64 lo ∧ b = .int .i64 hi ∧ hi - lo ≤ gk ∧ (0 ≤ lo ∧ lo ≤ q ∧ q ≤ hi ∧ hi ≤ 1048577) ∧ Hid (Below w0.heap.size w0 wr))
  case atStart => exact ⟨0, 1048577, rfl, rfl, by omega, by omega, Below.refl _ _⟩
  case round =>
    obtain ⟨lo, hi, rfl, rfl, hgk, hb, HW⟩ := hrel
    have hH := HB.out.2.1.below HW.out HB.out.2.1.lt
    have v0 : wr.cell? ⟨W.heap.size, 0, none⟩ = some (.slice A l.length cap) := hH.cell 0
    have v1 : wr.cell? ⟨W.heap.size, 1, none⟩ = some (.int .i64 V) := hH.cell 1
    have v2 : wr.cell? ⟨W.heap.size, 2, none⟩ = some (.int .i64 F) := hH.cell 2
    have HBW := Lib.hid (HB.out.1.trans (HW.out.mono HB.out.1.size))
    clear hH
    by_cases hlt : lo < hi
    · have hm1 : lo ≤ (lo + hi) / 2 ∧ (lo + hi) / 2 < hi := by omega
      have hcal := hQ.out ((lo + hi) / 2) (by omega) (by omega)
      have hqi := hQ2.out ((lo + hi) / 2) (by omega)
      cases hqb : quietB l V F ((lo + hi) / 2) calm <;> rw [hqb] at hcal hqi
      · have hql : (lo + hi) / 2 < q := by
          have : ¬ q ≤ (lo + hi) / 2 := fun h => by have := hqi.2 h; cases this
          omega
        have HC := Lib.hid hcal
        clear hcal hqi hqb
        go_wp2_with fail
        refine (HC.out _ (HR.out.step HBW.out)).mono ?_
        rintro e w1 ⟨rfl, hb1⟩
        have H1 := Lib.hid (HW.out.trans (hb1.mono HW.out.size))
        clear hb1
        go_wp2_with fail
        go_roundg (hi - ((lo + hi) / 2 + 1)).toNat
        case measure => omega
        case rel => exact ⟨(lo + hi) / 2 + 1, hi, by go_num, rfl, by omega, by omega, H1.out⟩
      · have hql : q ≤ (lo + hi) / 2 := hqi.1 rfl
        have HC := Lib.hid hcal
        clear hcal hqi hqb
        go_wp2_with fail
        refine (HC.out _ (HR.out.step HBW.out)).mono ?_
        rintro e w1 ⟨rfl, hb1⟩
        have H1 := Lib.hid (HW.out.trans (hb1.mono HW.out.size))
        clear hb1
        go_wp2_with fail
        go_roundg ((lo + hi) / 2 - lo).toNat
        case measure => omega
        case rel => exact ⟨lo, (lo + hi) / 2, rfl, rfl, by omega, by omega, H1.out⟩
    · have hlq : lo = q := by omega
      subst hlq
      clear v0 v1 v2
      go_wp2_with fail
      obtain ⟨w2, rfl⟩ : ∃ w2, w2 = wr := ⟨_, rfl⟩
      go_loopg [14, 15] 1048577 (fun gk a b wr => ∃ lo2 hi2 : Int, a = .int .i64 lo2 ∧ b = .int .i64 hi2 ∧ hi2 - lo2 ≤ gk ∧ (-1 ≤ lo2 ∧ lo2 ≤ hs ∧ hs ≤ hi2 ∧ hi2 ≤ 1048576) ∧ Hid (Below w0.heap.size w0 wr))
      case atStart => exact ⟨-1, 1048576, rfl, rfl, by omega, by omega, HW.out⟩
      case round =>
        obtain ⟨lo2, hi2, rfl, rfl, hgk2, hb2, HW2⟩ := hrel
        have HBW2 := Lib.hid (HB.out.1.trans (HW2.out.mono HB.out.1.size))
        by_cases hlt2 : lo2 < hi2
        · have hH := HB.out.2.1.below HW2.out HB.out.2.1.lt
          have v0 : wr.cell? ⟨W.heap.size, 0, none⟩ = some (.slice A l.length cap) := hH.cell 0
          have v1 : wr.cell? ⟨W.heap.size, 1, none⟩ = some (.int .i64 V) := hH.cell 1
          have v2 : wr.cell? ⟨W.heap.size, 2, none⟩ = some (.int .i64 F) := hH.cell 2
          have hm1 : lo2 < (lo2 + hi2 + 1) / 2 ∧ (lo2 + hi2 + 1) / 2 ≤ hi2 := by omega
          have hcal := hS.out ((lo2 + hi2 + 1) / 2) (by omega) (by omega)
          have hqi := hSi.out ((lo2 + hi2 + 1) / 2) (by omega) (by omega)
          clear hH
          cases hqb : soonB (refWE (worstP (atN l (V + F).toNat ((lo2 + hi2 + 1) / 2) rise) frm (to - frm + 1).toNat)) limit <;> rw [hqb] at hcal hqi
          · have hql : hs < (lo2 + hi2 + 1) / 2 := by
              have : ¬ (lo2 + hi2 + 1) / 2 ≤ hs := fun h => by have := hqi.2 h; cases this
              omega
            have HC := Lib.hid hcal
            clear hcal hqi hqb
            go_wp2_with fail
            refine (HC.out _ (HR.out.step HBW2.out)).mono ?_
            rintro e w1 ⟨rfl, hb1⟩
            have H1 := Lib.hid (HW2.out.trans (hb1.mono HW2.out.size))
            clear hb1
            go_wp2_with fail
            go_roundg ((lo2 + hi2 + 1) / 2 - 1 - lo2).toNat
            case measure => omega
            case rel => exact ⟨lo2, (lo2 + hi2 + 1) / 2 - 1, rfl, by go_num, by omega, by omega, H1.out⟩
          · have hql : (lo2 + hi2 + 1) / 2 ≤ hs := hqi.1 rfl
            have HC := Lib.hid hcal
            clear hcal hqi hqb
            go_wp2_with fail
            refine (HC.out _ (HR.out.step HBW2.out)).mono ?_
            rintro e w1 ⟨rfl, hb1⟩
            have H1 := Lib.hid (HW2.out.trans (hb1.mono HW2.out.size))
            clear hb1
            go_wp2_with fail
            go_roundg (hi2 - (lo2 + hi2 + 1) / 2).toNat
            case measure => omega
            case rel => exact ⟨(lo2 + hi2 + 1) / 2, hi2, rfl, rfl, by omega, by omega, H1.out⟩
        · have hlh : lo2 = hs := by omega
          subst hlh
          have hH := HB.out.2.2.below HW2.out HB.out.2.2.lt
          have HH := Lib.hid hH
          have r0 : wr.cell? ⟨W.heap.size + 1, 0, none⟩ = some (.int .i64 0) := hH.cell 0
          have r1 : wr.cell? ⟨W.heap.size + 1, 1, none⟩ = some (.int .i64 0) := hH.cell 1
          have rz := hH.frozen
          have rl := hH.lt
          clear hH
          go_wp2_with fail
          obtain ⟨wz, hwz⟩ : ∃ wz, wz = (wr.setCell ⟨W.heap.size + 1, 0, none⟩ (.int .i64 lo)).setCell ⟨W.heap.size + 1, 1, none⟩ (.int .i64 lo2) := ⟨_, rfl⟩
          have hz := span_set HH.out (.int .i64 lo) (.int .i64 lo2)
          rw [← hwz] at hz ⊢
          have q0 : wz.cell? ⟨W.heap.size + 1, 0, none⟩ = some (.int .i64 lo) := hz.cell 0
          have q1 : wz.cell? ⟨W.heap.size + 1, 1, none⟩ = some (.int .i64 lo2) := hz.cell 1
          refine bodyPost_ret (v := .tuple #[.agg #[.int .i64 lo, .int .i64 lo2], .bool (decide (lo ≤ lo2))]) (by simp [results, Try.results48, go_sem, q0, q1]) rfl ?_
          refine ⟨_, HF.out, by simp only; omega, rfl, ?_⟩
          rw [hwz]
          exact (HBW2.out.setCell (by simp only; omega) _).setCell (by simp only; omega) _
end Go.Proofs.Ytfdjoldcdfbfhaa
