/- The contract of Water. -/
import Derived.Test.YtogabjlhecnbbaaIceX
namespace Go.Proofs.Ytogabjlhecnbbaa
open Go.RowKit Go.Shelf

def low (w1 w2 p1 p2 : Int) (n : Nat) (least : Int) (zs : List Zn) (water : Int) : Bool := !everB w1 w2 p1 p2 water (fun x _ => decide (x < least)) n zs
def high (w1 w2 p1 p2 : Int) (n : Nat) (most : Int) (zs : List Zn) (water : Int) : Bool := everB w1 w2 p1 p2 water (fun _ y => decide (most < y)) n zs
def srch (p : Int → Bool) (n : Nat) : Nat := ((List.range n).find? (fun (k : Nat) => p (k : Int))).getD n
def waterR (zs : List Zn) (w1 w2 p1 p2 passes least most : Int) : Int × Int × Int :=
  if (rinkOk zs && (win w1 w2 && win p1 p2)) = false then (0, 0, 1)
  else if (decide (1 ≤ passes ∧ passes ≤ 100) && vb least most) = false then (0, 0, 2)
  else
    let a := srch (low w1 w2 p1 p2 passes.toNat least zs) 20001
    let b := srch (high w1 w2 p1 p2 passes.toNat most zs) 20001
    if b ≤ a then (0, 0, 4) else (a, b - 1, 0)

theorem srch_eq {p : Int → Bool} {n r : Nat} (hm : ∀ x y : Nat, x ≤ y → y < n → p x = true → p y = true) (h1 : r ≤ n) (h2 : r < n → p r = true) (h3 : 0 < r → p ((r : Int) - 1) = false) : srch p n = r := by
  unfold srch
  by_cases hr : r < n
  · have : (List.range n).find? (fun (k : Nat) => p (k : Int)) = some r := by
      rw [List.find?_range_eq_some]
      refine ⟨h2 hr, List.mem_range.2 hr, fun j hj => ?_⟩
      have h4 := h3 (by omega)
      cases hpj : p j with
      | false => rfl
      | true =>
        have := hm j (r - 1) (by omega) (by omega) hpj
        rw [show (((r - 1 : Nat)) : Int) = (r : Int) - 1 by omega] at this
        rw [this] at h4; cases h4
    rw [this]; rfl
  · obtain rfl : r = n := by omega
    have : (List.range r).find? (fun (k : Nat) => p (k : Int)) = none := by
      rw [List.find?_eq_none]
      intro j hj hpj
      have hj' := List.mem_range.1 hj
      have h4 := h3 (by omega)
      have := hm j (r - 1) (by omega) (by omega) hpj
      rw [show (((r - 1 : Nat)) : Int) = (r : Int) - 1 by omega] at this
      rw [this] at h4; cases h4
    rw [this]; rfl

theorem pass_mono {w1 w2 p1 p2 x y : Int} {s t : Int × Int} (h : x ≤ y) (h1 : s.1 ≤ t.1) (h2 : s.2 ≤ t.2) : (pass w1 w2 p1 p2 x s).1 ≤ (pass w1 w2 p1 p2 y t).1 ∧ (pass w1 w2 p1 p2 x s).2 ≤ (pass w1 w2 p1 p2 y t).2 := by
  simp only [pass]; omega
theorem passN_mono {w1 w2 p1 p2 x y : Int} (s : Int × Int) (h : x ≤ y) (k : Nat) : (passN w1 w2 p1 p2 x s k).1 ≤ (passN w1 w2 p1 p2 y s k).1 ∧ (passN w1 w2 p1 p2 x s k).2 ≤ (passN w1 w2 p1 p2 y s k).2 := by
  induction k with
  | zero => simp [passN]
  | succ k ih => exact pass_mono h ih.1 ih.2
theorem low_mono {w1 w2 p1 p2 least x y : Int} {n : Nat} {zs : List Zn} (h : x ≤ y) (hl : low w1 w2 p1 p2 n least zs x = true) : low w1 w2 p1 p2 n least zs y = true := by
  unfold low everB at hl ⊢
  simp only [Bool.not_eq_true', List.any_eq_false, badZ] at hl ⊢
  intro z hz hz'
  rw [List.any_eq_true] at hz'
  obtain ⟨k, hk, hb⟩ := hz'
  refine hl z hz ?_
  rw [List.any_eq_true]
  refine ⟨k, hk, ?_⟩
  have := (passN_mono (w1 := w1) (w2 := w2) (p1 := p1) (p2 := p2) (z.a, z.b) h (k + 1)).1
  simp only [decide_eq_true_eq] at hb ⊢
  omega
theorem high_mono {w1 w2 p1 p2 most x y : Int} {n : Nat} {zs : List Zn} (h : x ≤ y) (hl : high w1 w2 p1 p2 n most zs x = true) : high w1 w2 p1 p2 n most zs y = true := by
  unfold high everB at hl ⊢
  simp only [List.any_eq_true, badZ] at hl ⊢
  obtain ⟨z, hz, k, hk, hb⟩ := hl
  refine ⟨z, hz, k, hk, ?_⟩
  have := (passN_mono (w1 := w1) (w2 := w2) (p1 := p1) (p2 := p2) (z.a, z.b) h (k + 1)).2
  simp only [decide_eq_true_eq] at hb ⊢
  omega

def wRes (r : Int × Int × Int) : Value := .tuple #[sv r.1 r.2.1, iv r.2.2]
/-- the six boxes that Water lays first, as they lie in a later world -/
structure WB (w W : World) (A : Option Addr) (len cap : Nat) (w1 w2 p1 p2 least most : Int) : Prop where
  b : Below w.heap.size w W
  h0 : Has W w.heap.size 22 #[.slice A len cap]
  h1 : Has W (w.heap.size + 1) 27 #[iv w1, iv w2]
  h2 : Has W (w.heap.size + 1 + 1) 27 #[iv p1, iv p2]
  h3 : Has W (w.heap.size + 1 + 1 + 1) 3 #[iv least]
  h4 : Has W (w.heap.size + 1 + 1 + 1 + 1) 3 #[iv most]
  h5 : Has W (w.heap.size + 1 + 1 + 1 + 1 + 1) 27 #[iv 0, iv 0]
theorem Has.newAt {w : World} {t : TypeId} {cs : Array Value} {n : Nat} (h : n = w.heap.size) : Has (w.alloc (.cells cs t)) n t cs := by subst h; exact Has.new _ _ _
theorem WB.start (w : World) (A : Option Addr) (len cap : Nat) (w1 w2 p1 p2 least most : Int) :
    WB w ((((((w.alloc (.cells #[.slice A len cap] 22)).alloc (.cells #[.int .i64 w1, .int .i64 w2] 27)).alloc (.cells #[.int .i64 p1, .int .i64 p2] 27)).alloc (.cells #[iv least] 3)).alloc (.cells #[iv most] 3)).alloc (.cells #[.int .i64 0, .int .i64 0] 27)) A len cap w1 w2 p1 p2 least most :=
  ⟨((((((Below.refl _ w).alloc (Nat.le_refl _) _).alloc (by simp) _).alloc (by simp; omega) _).alloc (by simp; omega) _).alloc (by simp; omega) _).alloc (by simp; omega) _,
   ((((((Has.new _ _ _).alloc _).alloc _).alloc _).alloc _).alloc _), ((((Has.newAt (by simp)).alloc _).alloc _).alloc _).alloc _, (((Has.newAt (by simp)).alloc _).alloc _).alloc _, ((Has.newAt (by simp)).alloc _).alloc _, (Has.newAt (by simp)).alloc _, Has.newAt (by simp)⟩
theorem WB.below {w W W' : World} {A : Option Addr} {len cap : Nat} {w1 w2 p1 p2 least most : Int} (h : WB w W A len cap w1 w2 p1 p2 least most) (hb : Below W.heap.size W W') : WB w W' A len cap w1 w2 p1 p2 least most :=
  ⟨h.b.trans (hb.mono h.b.size), h.h0.below hb h.h0.lt, h.h1.below hb h.h1.lt, h.h2.below hb h.h2.lt, h.h3.below hb h.h3.lt, h.h4.below hb h.h4.lt, h.h5.below hb h.h5.lt⟩
theorem WB.endB {w W : World} {A : Option Addr} {len cap : Nat} {w1 w2 p1 p2 least most : Int} (h : WB w W A len cap w1 w2 p1 p2 least most) (x y : Value) :
    Below w.heap.size w ((W.setCell ⟨w.heap.size + 1 + 1 + 1 + 1 + 1, 0, none⟩ x).setCell ⟨w.heap.size + 1 + 1 + 1 + 1 + 1, 1, none⟩ y) :=
  (h.b.setCell (p := ⟨_, 0, none⟩) (by simp; omega) x).setCell (p := ⟨_, 1, none⟩) (by simp; omega) y

set_option maxHeartbeats 1000000 in
theorem water_any (w1 w2 p1 p2 passes least most : Int) (zs : List Zn) (A : Option Addr) (cap : Nat) (w : World) (hz : ZRow w w.heap.size A zs) (hl : zs.length ≤ 9223372036854775807) :
    Calls Try.prog 25 #[.slice A zs.length cap, sv w1 w2, sv p1 p2, iv passes, iv least, iv most] w fun e w' => e = .returned (wRes (waterR zs w1 w2 p1 p2 passes least most)) ∧ Below w.heap.size w w' := by
  have H0 := Lib.hid (WB.start w A zs.length cap w1 w2 p1 p2 least most)
  cases hr : rinkOk zs
  · have hR : Hid (waterR zs w1 w2 p1 p2 passes least most = (0, 0, 1)) := by show _ = _; simp [waterR, hr]
    go_enter Try.func25, Try.ntmps25
    go_wp2_with fail
    refine (vr_any zs A cap _ ((hz.below H0.out.b).more H0.out.b.size) hl).mono ?_
    rintro e wa ⟨rfl, hb⟩
    have Ha := H0.out.below hb
    clear hb
    have c0 : wa.cell? ⟨w.heap.size + 1 + 1 + 1 + 1 + 1, 0, none⟩ = some (iv 0) := Ha.h5.cell 0
    have c1 : wa.cell? ⟨w.heap.size + 1 + 1 + 1 + 1 + 1, 1, none⟩ = some (iv 0) := Ha.h5.cell 1
    have f0 := Ha.h5.frozen 0
    have f1 := Ha.h5.frozen 1
    go_wp2_with fail
    refine bodyPost_ret (v := wRes (0, 0, 1)) (by simp [results, Try.results25, go_sem, wRes, c0, c1]) rfl ⟨by rw [hR.out], Ha.endB _ _⟩
  cases hw : win w1 w2
  · have hR : Hid (waterR zs w1 w2 p1 p2 passes least most = (0, 0, 1)) := by show _ = _; simp [waterR, hw]
    go_enter Try.func25, Try.ntmps25
    go_wp2_with fail
    refine (vr_any zs A cap _ ((hz.below H0.out.b).more H0.out.b.size) hl).mono ?_
    rintro e wa ⟨rfl, hb⟩
    have Ha := H0.out.below hb
    clear hb
    have d0 : wa.cell? ⟨w.heap.size + 1, 0, none⟩ = some (iv w1) := Ha.h1.cell 0
    have d1 : wa.cell? ⟨w.heap.size + 1, 1, none⟩ = some (iv w2) := Ha.h1.cell 1
    go_wp2_with fail
    refine (within_any w1 w2 _).mono ?_
    rintro e wb ⟨rfl, hb⟩
    have Hb := Ha.below hb
    clear hb d0 d1
    have c0 : wb.cell? ⟨w.heap.size + 1 + 1 + 1 + 1 + 1, 0, none⟩ = some (iv 0) := Hb.h5.cell 0
    have c1 : wb.cell? ⟨w.heap.size + 1 + 1 + 1 + 1 + 1, 1, none⟩ = some (iv 0) := Hb.h5.cell 1
    have f0 := Hb.h5.frozen 0
    have f1 := Hb.h5.frozen 1
    go_wp2_with fail
    refine bodyPost_ret (v := wRes (0, 0, 1)) (by simp [results, Try.results25, go_sem, wRes, c0, c1]) rfl ⟨by rw [hR.out], Hb.endB _ _⟩
  cases hp : win p1 p2
  · have hR : Hid (waterR zs w1 w2 p1 p2 passes least most = (0, 0, 1)) := by show _ = _; simp [waterR, hp]
    go_enter Try.func25, Try.ntmps25
    go_wp2_with fail
    refine (vr_any zs A cap _ ((hz.below H0.out.b).more H0.out.b.size) hl).mono ?_
    rintro e wa ⟨rfl, hb⟩
    have Ha := H0.out.below hb
    clear hb
    have d0 : wa.cell? ⟨w.heap.size + 1, 0, none⟩ = some (iv w1) := Ha.h1.cell 0
    have d1 : wa.cell? ⟨w.heap.size + 1, 1, none⟩ = some (iv w2) := Ha.h1.cell 1
    go_wp2_with fail
    refine (within_any w1 w2 _).mono ?_
    rintro e wb ⟨rfl, hb⟩
    have Hb := Ha.below hb
    clear hb d0 d1
    have d0 : wb.cell? ⟨w.heap.size + 1 + 1, 0, none⟩ = some (iv p1) := Hb.h2.cell 0
    have d1 : wb.cell? ⟨w.heap.size + 1 + 1, 1, none⟩ = some (iv p2) := Hb.h2.cell 1
    go_wp2_with fail
    refine (within_any p1 p2 _).mono ?_
    rintro e wc ⟨rfl, hb⟩
    have Hc := Hb.below hb
    clear hb d0 d1
    have c0 : wc.cell? ⟨w.heap.size + 1 + 1 + 1 + 1 + 1, 0, none⟩ = some (iv 0) := Hc.h5.cell 0
    have c1 : wc.cell? ⟨w.heap.size + 1 + 1 + 1 + 1 + 1, 1, none⟩ = some (iv 0) := Hc.h5.cell 1
    have f0 := Hc.h5.frozen 0
    have f1 := Hc.h5.frozen 1
    go_wp2_with fail
    refine bodyPost_ret (v := wRes (0, 0, 1)) (by simp [results, Try.results25, go_sem, wRes, c0, c1]) rfl ⟨by rw [hR.out], Hc.endB _ _⟩
  by_cases hn1 : passes < 1
  · have hR : Hid (waterR zs w1 w2 p1 p2 passes least most = (0, 0, 2)) := by show _ = _; simp [waterR, hr, hw, hp]; omega
    go_enter Try.func25, Try.ntmps25
    go_wp2_with fail
    refine (vr_any zs A cap _ ((hz.below H0.out.b).more H0.out.b.size) hl).mono ?_
    rintro e wa ⟨rfl, hb⟩
    have Ha := H0.out.below hb
    clear hb
    have d0 : wa.cell? ⟨w.heap.size + 1, 0, none⟩ = some (iv w1) := Ha.h1.cell 0
    have d1 : wa.cell? ⟨w.heap.size + 1, 1, none⟩ = some (iv w2) := Ha.h1.cell 1
    go_wp2_with fail
    refine (within_any w1 w2 _).mono ?_
    rintro e wb ⟨rfl, hb⟩
    have Hb := Ha.below hb
    clear hb d0 d1
    have d0 : wb.cell? ⟨w.heap.size + 1 + 1, 0, none⟩ = some (iv p1) := Hb.h2.cell 0
    have d1 : wb.cell? ⟨w.heap.size + 1 + 1, 1, none⟩ = some (iv p2) := Hb.h2.cell 1
    go_wp2_with fail
    refine (within_any p1 p2 _).mono ?_
    rintro e wc ⟨rfl, hb⟩
    have Hc := Hb.below hb
    clear hb d0 d1
    have c0 : wc.cell? ⟨w.heap.size + 1 + 1 + 1 + 1 + 1, 0, none⟩ = some (iv 0) := Hc.h5.cell 0
    have c1 : wc.cell? ⟨w.heap.size + 1 + 1 + 1 + 1 + 1, 1, none⟩ = some (iv 0) := Hc.h5.cell 1
    have f0 := Hc.h5.frozen 0
    have f1 := Hc.h5.frozen 1
    go_wp2_with fail
    refine bodyPost_ret (v := wRes (0, 0, 2)) (by simp [results, Try.results25, go_sem, wRes, c0, c1]) rfl ⟨by rw [hR.out], Hc.endB _ _⟩
  by_cases hn2 : 100 < passes
  · have hR : Hid (waterR zs w1 w2 p1 p2 passes least most = (0, 0, 2)) := by show _ = _; simp [waterR, hr, hw, hp]; omega
    go_enter Try.func25, Try.ntmps25
    go_wp2_with fail
    refine (vr_any zs A cap _ ((hz.below H0.out.b).more H0.out.b.size) hl).mono ?_
    rintro e wa ⟨rfl, hb⟩
    have Ha := H0.out.below hb
    clear hb
    have d0 : wa.cell? ⟨w.heap.size + 1, 0, none⟩ = some (iv w1) := Ha.h1.cell 0
    have d1 : wa.cell? ⟨w.heap.size + 1, 1, none⟩ = some (iv w2) := Ha.h1.cell 1
    go_wp2_with fail
    refine (within_any w1 w2 _).mono ?_
    rintro e wb ⟨rfl, hb⟩
    have Hb := Ha.below hb
    clear hb d0 d1
    have d0 : wb.cell? ⟨w.heap.size + 1 + 1, 0, none⟩ = some (iv p1) := Hb.h2.cell 0
    have d1 : wb.cell? ⟨w.heap.size + 1 + 1, 1, none⟩ = some (iv p2) := Hb.h2.cell 1
    go_wp2_with fail
    refine (within_any p1 p2 _).mono ?_
    rintro e wc ⟨rfl, hb⟩
    have Hc := Hb.below hb
    clear hb d0 d1
    have c0 : wc.cell? ⟨w.heap.size + 1 + 1 + 1 + 1 + 1, 0, none⟩ = some (iv 0) := Hc.h5.cell 0
    have c1 : wc.cell? ⟨w.heap.size + 1 + 1 + 1 + 1 + 1, 1, none⟩ = some (iv 0) := Hc.h5.cell 1
    have f0 := Hc.h5.frozen 0
    have f1 := Hc.h5.frozen 1
    go_wp2_with fail
    refine bodyPost_ret (v := wRes (0, 0, 2)) (by simp [results, Try.results25, go_sem, wRes, c0, c1]) rfl ⟨by rw [hR.out], Hc.endB _ _⟩
  have hnb1 : decide (passes < 1) = false := by simp; omega
  have hnb2 : decide (100 < passes) = false := by simp; omega
  obtain ⟨n, rfl⟩ := Int.eq_ofNat_of_zero_le (show 0 ≤ passes by omega)
  cases hv : vb least most
  · have hR : Hid (waterR zs w1 w2 p1 p2 n least most = (0, 0, 2)) := by show _ = _; simp [waterR, hr, hw, hp, hv]
    go_enter Try.func25, Try.ntmps25
    go_wp2_with fail
    refine (vr_any zs A cap _ ((hz.below H0.out.b).more H0.out.b.size) hl).mono ?_
    rintro e wa ⟨rfl, hb⟩
    have Ha := H0.out.below hb
    clear hb
    have d0 : wa.cell? ⟨w.heap.size + 1, 0, none⟩ = some (iv w1) := Ha.h1.cell 0
    have d1 : wa.cell? ⟨w.heap.size + 1, 1, none⟩ = some (iv w2) := Ha.h1.cell 1
    go_wp2_with fail
    refine (within_any w1 w2 _).mono ?_
    rintro e wb ⟨rfl, hb⟩
    have Hb := Ha.below hb
    clear hb d0 d1
    have d0 : wb.cell? ⟨w.heap.size + 1 + 1, 0, none⟩ = some (iv p1) := Hb.h2.cell 0
    have d1 : wb.cell? ⟨w.heap.size + 1 + 1, 1, none⟩ = some (iv p2) := Hb.h2.cell 1
    go_wp2_with fail
    refine (within_any p1 p2 _).mono ?_
    rintro e wc ⟨rfl, hb⟩
    have Hc := Hb.below hb
    clear hb d0 d1
    have d0 : wc.cell? ⟨w.heap.size + 1 + 1 + 1, 0, none⟩ = some (iv least) := Hc.h3.cell 0
    have d1 : wc.cell? ⟨w.heap.size + 1 + 1 + 1 + 1, 0, none⟩ = some (iv most) := Hc.h4.cell 0
    have c0 : wc.cell? ⟨w.heap.size + 1 + 1 + 1 + 1 + 1, 0, none⟩ = some (iv 0) := Hc.h5.cell 0
    have c1 : wc.cell? ⟨w.heap.size + 1 + 1 + 1 + 1 + 1, 1, none⟩ = some (iv 0) := Hc.h5.cell 1
    have f0 := Hc.h5.frozen 0
    have f1 := Hc.h5.frozen 1
    go_wp2_with fail
    refine (vb_any least most _).mono ?_
    rintro e wd ⟨rfl, rfl⟩
    go_wp2_with fail
    refine bodyPost_ret (v := wRes (0, 0, 2)) (by simp [results, Try.results25, go_sem, wRes, c0, c1]) rfl ⟨by rw [hR.out], Hc.endB _ _⟩
  go_enter Try.func25, Try.ntmps25
  go_wp2_with fail
  refine (vr_any zs A cap _ ((hz.below H0.out.b).more H0.out.b.size) hl).mono ?_
  rintro e wa ⟨rfl, hb⟩
  have Ha := H0.out.below hb
  clear hb
  have d0 : wa.cell? ⟨w.heap.size + 1, 0, none⟩ = some (iv w1) := Ha.h1.cell 0
  have d1 : wa.cell? ⟨w.heap.size + 1, 1, none⟩ = some (iv w2) := Ha.h1.cell 1
  go_wp2_with fail
  refine (within_any w1 w2 _).mono ?_
  rintro e wb ⟨rfl, hb⟩
  have Hb := Ha.below hb
  clear hb d0 d1
  have d0 : wb.cell? ⟨w.heap.size + 1 + 1, 0, none⟩ = some (iv p1) := Hb.h2.cell 0
  have d1 : wb.cell? ⟨w.heap.size + 1 + 1, 1, none⟩ = some (iv p2) := Hb.h2.cell 1
  go_wp2_with fail
  refine (within_any p1 p2 _).mono ?_
  rintro e wc ⟨rfl, hb⟩
  have Hc := Hb.below hb
  clear hb d0 d1
  have d0 : wc.cell? ⟨w.heap.size + 1 + 1 + 1, 0, none⟩ = some (iv least) := Hc.h3.cell 0
  have d1 : wc.cell? ⟨w.heap.size + 1 + 1 + 1 + 1, 0, none⟩ = some (iv most) := Hc.h4.cell 0
  have d2 : wc.cell? ⟨w.heap.size + 1, 0, none⟩ = some (iv w1) := Hc.h1.cell 0
  have d3 : wc.cell? ⟨w.heap.size + 1, 1, none⟩ = some (iv w2) := Hc.h1.cell 1
  have d4 : wc.cell? ⟨w.heap.size + 1 + 1, 0, none⟩ = some (iv p1) := Hc.h2.cell 0
  have d5 : wc.cell? ⟨w.heap.size + 1 + 1, 1, none⟩ = some (iv p2) := Hc.h2.cell 1
  go_wp2_with fail
  refine (vb_any least most _).mono ?_
  rintro e wd ⟨rfl, rfl⟩
  have hmf : ∀ (fn : Fn) (first cap : Array Value) (w : World), (Instr.makeFunc fn first cap).run Try.prog w = .ok (.func fn first cap) w := fun _ _ _ _ => rfl
  have hlen : zs.length ≤ 24 ∧ ∀ z ∈ zs, z.ok = true := by
    simp only [rinkOk, Bool.and_eq_true, decide_eq_true_eq, List.all_eq_true] at hr
    exact ⟨hr.1.2, hr.2⟩
  have HL := Lib.hid hlen
  have HV := Lib.hid (And.intro hw (And.intro hp (And.intro hr hv)))
  clear hlen hw hp hr d0 d1
  have I1 : Hid (WIn (wc.alloc (.cells (wk w1 w2 p1 p2 n) 96)) wc.heap.size w.heap.size (w.heap.size + 1 + 1 + 1) w1 w2 p1 p2 n zs A cap least) :=
    ⟨Has.new _ _ _, Hc.h0.alloc _, Hc.h3.alloc _, (hz.below (Hc.b.alloc Hc.b.size _)).more (Hc.b.alloc Hc.b.size _).size, HL.out.1, by omega, HL.out.2, HV.out.1, HV.out.2.1⟩
  have I2 : Hid (WIn (wc.alloc (.cells (wk w1 w2 p1 p2 n) 96)) wc.heap.size w.heap.size (w.heap.size + 1 + 1 + 1 + 1) w1 w2 p1 p2 n zs A cap most) :=
    ⟨Has.new _ _ _, Hc.h0.alloc _, Hc.h4.alloc _, (hz.below (Hc.b.alloc Hc.b.size _)).more (Hc.b.alloc Hc.b.size _).size, HL.out.1, by omega, HL.out.2, HV.out.1, HV.out.2.1⟩
  have Hd := Hc.below (below1 wc (.cells (wk w1 w2 p1 p2 n) 96))
  go_wp2_with fail
  clear hv
  refine (search_at 56 #[.pointer (some ⟨wc.heap.size, 0, none⟩), .pointer (some ⟨w.heap.size, 0, none⟩), .pointer (some ⟨w.heap.size + 1 + 1 + 1, 0, none⟩)] (low w1 w2 p1 p2 n least zs) 20001 20001 (by omega) (wc.alloc (.cells (wk w1 w2 p1 p2 n) 96)) (by omega) (enters_of Try.func56 (by kernel_rfl) rfl) (fun x W h0 h1 hW => water1 _ _ _ w1 w2 p1 p2 least x n zs A cap W (I1.out.below hW) h0 (by omega))).mono ?_
  rintro e we ⟨r1, rfl, g1, g2, g3, hbe⟩
  have hs1 := srch_eq (p := low w1 w2 p1 p2 n least zs) (n := 20001) (fun x y hxy _ h => low_mono (by omega) h) g1 g2 g3
  have HS1 := Lib.hid hs1
  have I2' := Lib.hid (I2.out.below hbe)
  have He := Hd.below hbe
  clear g2 g3 hs1 hbe d2 d3 d4 d5
  go_wp2_with fail
  refine (search_at 59 #[.pointer (some ⟨wc.heap.size, 0, none⟩), .pointer (some ⟨w.heap.size, 0, none⟩), .pointer (some ⟨w.heap.size + 1 + 1 + 1 + 1, 0, none⟩)] (high w1 w2 p1 p2 n most zs) 20001 20001 (by omega) we (by omega) (enters_of Try.func59 (by kernel_rfl) rfl) (fun x W h0 h1 hW => water2 _ _ _ w1 w2 p1 p2 most x n zs A cap W (I2'.out.below hW) h0 (by omega))).mono ?_
  rintro e wf ⟨r2, rfl, q1, q2, q3, hbf⟩
  have hs2 := srch_eq (p := high w1 w2 p1 p2 n most zs) (n := 20001) (fun x y hxy _ h => high_mono (by omega) h) q1 q2 q3
  have HS2 := Lib.hid hs2
  have Hf := He.below hbf
  clear q2 q3 hs2 hbf
  have c0 : wf.cell? ⟨w.heap.size + 1 + 1 + 1 + 1 + 1, 0, none⟩ = some (iv 0) := Hf.h5.cell 0
  have c1 : wf.cell? ⟨w.heap.size + 1 + 1 + 1 + 1 + 1, 1, none⟩ = some (iv 0) := Hf.h5.cell 1
  have f0 := Hf.h5.frozen 0
  have f1 := Hf.h5.frozen 1
  by_cases hge : r2 ≤ r1
  · have hR : Hid (waterR zs w1 w2 p1 p2 n least most = (0, 0, 4)) := by
      show _ = _
      obtain ⟨x1, x2, x3, x4⟩ := HV.out
      simp only [waterR, x1, x2, x3, x4, Int.toNat_natCast, HS1.out, HS2.out]
      simp [hge]; omega
    go_wp2_with fail
    refine bodyPost_ret (v := wRes (0, 0, 4)) (by simp [results, Try.results25, go_sem, wRes, c0, c1]) rfl ⟨by rw [hR.out], Hf.endB _ _⟩
  · have hR : Hid (waterR zs w1 w2 p1 p2 n least most = ((r1 : Int), (r2 : Int) - 1, (0 : Int))) := by
      show _ = _
      obtain ⟨x1, x2, x3, x4⟩ := HV.out
      simp only [waterR, x1, x2, x3, x4, Int.toNat_natCast, HS1.out, HS2.out]
      simp [hge]; omega
    go_wp2_with fail
    refine bodyPost_ret (v := wRes (r1, (r2 : Int) - 1, 0)) (by simp [results, Try.results25, go_sem, wRes, c0, c1]) rfl ⟨by rw [hR.out], Hf.endB _ _⟩
end Go.Proofs.Ytogabjlhecnbbaa
