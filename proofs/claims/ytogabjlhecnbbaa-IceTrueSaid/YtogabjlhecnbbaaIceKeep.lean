/- The contract of Keeps. -/
import Derived.Test.YtogabjlhecnbbaaIcePlay
import Derived.Test.YtogabjlhecnbbaaIceX
import Derived.Test.YtogabjlhecnbbaaIceAlive
namespace Go.Proofs.Ytogabjlhecnbbaa
open Go.RowKit Go.Shelf

def badK (least most : Int) (z : Zn) : Bool := decide (z.a < least) || decide (most < z.b)
set_option maxHeartbeats 400000 in
theorem keep1 (z : Zn) (least most : Int) (p p' : Nat) (w : World) (h : Has w p 3 #[iv least]) (h' : Has w p' 3 #[iv most]) : Calls Try.prog 52 #[zv z, .pointer (some ⟨p, 0, none⟩), .pointer (some ⟨p', 0, none⟩)] w fun e w' => e = .returned (.bool (badK least most z)) ∧ Below w.heap.size w w' := by
  have c : w.cell? ⟨p, 0, none⟩ = some (iv least) := h.cell 0
  have c' : w.cell? ⟨p', 0, none⟩ = some (iv most) := h'.cell 0
  have hp := h.lt
  have hp' := h'.lt
  by_cases h1 : z.a < least
  · go_enter Try.func52, Try.ntmps52
    go_wp2
    go_ret
    exact ⟨ret_bool (by simp [badK, h1]), below1 _ _⟩
  · have h1b : decide (z.a < least) = false := by simpa using h1
    have HE : Hid (badK least most z = decide (most < z.b)) := by show _ = _; simp [badK, h1]
    go_enter Try.func52, Try.ntmps52
    go_wp2
    go_ret
    exact ⟨ret_bool (by rw [HE.out]), below1 _ _⟩

def keepsL (day : List Ev) (least most : Int) : Nat → Nat → List Zn → Int × Int × Int
  | 0, _, _ => (0, 0, 4)
  | n + 1, d, zs =>
    if (playR zs day).e ≠ 0 then (0, 0, (playR zs day).e)
    else if (firstAt (badK least most) (playR zs day).zs).2 = true then (d, (firstAt (badK least most) (playR zs day).zs).1, 0)
    else keepsL day least most n (d + 1) (playR zs day).zs
def keepsR (zs : List Zn) (day : List Ev) (days least most : Int) : Int × Int × Int :=
  if rinkOk zs = false then (0, 0, 1)
  else if (decide (0 ≤ days ∧ days ≤ 100) && vb least most) = false then (0, 0, 2)
  else keepsL day least most days.toNat 0 zs
def triR (r : Int × Int × Int) : Value := .tuple #[iv r.1, iv r.2.1, iv r.2.2]

structure KB (w W : World) (least most : Int) : Prop where
  b : Below w.heap.size w W
  h0 : Has W w.heap.size 3 #[iv least]
  h1 : Has W (w.heap.size + 1) 3 #[iv most]
theorem KB.start (w : World) (least most : Int) : KB w ((w.alloc (.cells #[iv least] 3)).alloc (.cells #[iv most] 3)) least most :=
  ⟨(below1 _ _).alloc (by simp) _, (Has.new _ _ _).alloc _, Has.newAt (by simp)⟩
theorem KB.below {w W W' : World} {least most : Int} (h : KB w W least most) (hb : Below W.heap.size W W') : KB w W' least most :=
  ⟨h.b.trans (hb.mono h.b.size), h.h0.below hb h.h0.lt, h.h1.below hb h.h1.lt⟩
theorem ERow.more {w : World} {B B' : Nat} {A : Option Addr} {es : List Ev} (h : ERow w B A es) (hb : B ≤ B') : ERow w B' A es := fun k hk => by
  obtain ⟨g, o, e, hg, c⟩ := h k hk
  exact ⟨g, o, e, Nat.lt_of_lt_of_le hg hb, c⟩
theorem play_len (zs : List Zn) (es : List Ev) : (playR zs es).e = 0 → (playR zs es).zs.length ≤ 24 := by
  intro h
  have key : ∀ (l : List Ev) (st : List Zn × Sm) (i : Nat) (c : Int), st.1.length ≤ 24 → (∀ z ∈ st.1, z.ok = true) → st.2.Bd c → (playL l st i).2.2 = 0 → (playL l st i).1.1.length ≤ 24 := by
    intro l
    induction l with
    | nil => intro st i c h1 _ _ _; exact h1
    | cons e l ih =>
      intro st i c h1 h2 h3 h4
      unfold playL at h4 ⊢
      by_cases h0 : (evDo e st).2 = 0
      · rw [if_pos h0] at h4 ⊢
        obtain ⟨g1, g2, g3⟩ := evDo_inv h1 h2 h3 h0
        exact ih _ _ _ (by omega) g2 g3 h4
      · rw [if_neg h0] at h4; exact absurd h4 h0
  unfold playR at h ⊢
  cases hr : rinkOk zs
  · simp [hr] at h
  · rw [hr, if_neg (by simp)] at h
    rw [if_neg (by simp)]
    by_cases hl : 256 < es.length
    · rw [if_pos hl] at h; simp at h
    · rw [if_neg hl] at h ⊢
      by_cases h0 : (playL es (zs, Sm.zero) 0).2.2 = 0
      · rw [if_pos h0]; exact key es (zs, Sm.zero) 0 0 (rink_parts hr).1 (rink_parts hr).2.2 (by unfold Sm.Bd; simp) h0
      · rw [if_neg h0] at h; exact absurd h h0

set_option maxRecDepth 100000 in
set_option maxHeartbeats 2000000 in
theorem keeps_any (zs : List Zn) (day : List Ev) (days least most : Int) (A A' : Option Addr) (cap cap' : Nat) (w : World) (hz : ZRow w w.heap.size A zs) (he : ERow w w.heap.size A' day) (hl : zs.length ≤ 9223372036854775807) (hl' : day.length ≤ 9223372036854775807) :
    Calls Try.prog 23 #[.slice A zs.length cap, .slice A' day.length cap', iv days, iv least, iv most] w fun e w' => e = .returned (triR (keepsR zs day days least most)) ∧ Below w.heap.size w w' := by
  have hmf : ∀ (fn : Fn) (first cap : Array Value) (w : World), (Instr.makeFunc fn first cap).run Try.prog w = .ok (.func fn first cap) w := fun _ _ _ _ => rfl
  have H0 := Lib.hid (KB.start w least most)
  cases hr : rinkOk zs
  · have hR : Hid (keepsR zs day days least most = (0, 0, 1)) := by show _ = _; simp [keepsR, hr]
    go_enter Try.func23, Try.ntmps23
    go_wp2_with fail
    refine (vr_any zs A cap _ ((hz.below H0.out.b).more H0.out.b.size) hl).mono ?_
    rintro r wa ⟨rfl, hb⟩
    have Ha := H0.out.below hb
    clear hb
    go_wp2_with fail
    go_ret3
    exact ⟨by rw [hR.out]; rfl, Ha.b⟩
  by_cases hn1 : days < 0
  · have hR : Hid (keepsR zs day days least most = (0, 0, 2)) := by show _ = _; simp [keepsR, hr]; omega
    go_enter Try.func23, Try.ntmps23
    go_wp2_with fail
    refine (vr_any zs A cap _ ((hz.below H0.out.b).more H0.out.b.size) hl).mono ?_
    rintro r wa ⟨rfl, hb⟩
    have Ha := H0.out.below hb
    clear hb
    go_wp2_with fail
    go_ret3
    exact ⟨by rw [hR.out]; rfl, Ha.b⟩
  have hn1d : decide (days < 0) = false := by simpa using hn1
  by_cases hn2 : 100 < days
  · have hR : Hid (keepsR zs day days least most = (0, 0, 2)) := by show _ = _; simp [keepsR, hr]; omega
    go_enter Try.func23, Try.ntmps23
    go_wp2_with fail
    refine (vr_any zs A cap _ ((hz.below H0.out.b).more H0.out.b.size) hl).mono ?_
    rintro r wa ⟨rfl, hb⟩
    have Ha := H0.out.below hb
    clear hb
    go_wp2_with fail
    go_ret3
    exact ⟨by rw [hR.out]; rfl, Ha.b⟩
  have hn2d : decide (100 < days) = false := by simpa using hn2
  cases hv : vb least most
  · have hR : Hid (keepsR zs day days least most = (0, 0, 2)) := by show _ = _; simp [keepsR, hr, hv]
    go_enter Try.func23, Try.ntmps23
    go_wp2_with fail
    refine (vr_any zs A cap _ ((hz.below H0.out.b).more H0.out.b.size) hl).mono ?_
    rintro r wa ⟨rfl, hb⟩
    have Ha := H0.out.below hb
    clear hb
    have c0 : wa.cell? ⟨w.heap.size, 0, none⟩ = some (iv least) := Ha.h0.cell 0
    have c1 : wa.cell? ⟨w.heap.size + 1, 0, none⟩ = some (iv most) := Ha.h1.cell 0
    go_wp2_with fail
    refine (vb_any least most _).mono ?_
    rintro r wb ⟨rfl, rfl⟩
    go_wp2_with fail
    go_ret3
    exact ⟨by rw [hR.out]; rfl, Ha.b⟩
  obtain ⟨n, rfl⟩ := Int.eq_ofNat_of_zero_le (show 0 ≤ days by omega)
  have HK : Hid (keepsR zs day n least most = keepsL day least most n 0 zs) := by
    show _ = _
    simp only [keepsR, hr, hv]
    rw [if_neg (by simp), if_neg (by simp; omega), Int.toNat_natCast]
  go_enter Try.func23, Try.ntmps23
  go_wp2_with fail
  refine (vr_any zs A cap _ ((hz.below H0.out.b).more H0.out.b.size) hl).mono ?_
  rintro r wa ⟨rfl, hb⟩
  have Ha := H0.out.below hb
  clear hb
  have c0 : wa.cell? ⟨w.heap.size, 0, none⟩ = some (iv least) := Ha.h0.cell 0
  have c1 : wa.cell? ⟨w.heap.size + 1, 0, none⟩ = some (iv most) := Ha.h1.cell 0
  go_wp2_with fail
  refine (vb_any least most _).mono ?_
  rintro r wb ⟨rfl, rfl⟩
  have hzl : zs.length ≤ 24 := (rink_parts hr).1
  go_wp2_with fail
  clear c0 c1 hr hv
  go_loopw [38, 13] (fun t v wr => ∃ (k : Nat) (zs' : List Zn) (B : Option Addr) (cp : Nat), k ≤ n ∧ t = .int .i64 k ∧ v = .slice B zs'.length cp ∧ zs'.length ≤ 24 ∧ ZRow wr wr.heap.size B zs' ∧ KB w wr least most ∧ Hid (keepsL day least most n 0 zs = keepsL day least most (n - k) k zs')) (fun t _ _ => n - (intOf t).toNat)
  case atStart => exact ⟨0, zs, A, cap, Nat.zero_le _, rfl, rfl, hzl, (hz.below Ha.b).more Ha.b.size, Ha, rfl⟩
  case round =>
    obtain ⟨k, zs', B, cp, hk, rfl, rfl, hzl', hzr, hKB, hE⟩ := hrel
    by_cases hlt : k < n
    · have hst : Hid (keepsL day least most (n - k) k zs' = if (playR zs' day).e ≠ 0 then (0, 0, (playR zs' day).e) else if (firstAt (badK least most) (playR zs' day).zs).2 = true then ((k : Int), ((firstAt (badK least most) (playR zs' day).zs).1 : Int), 0) else keepsL day least most (n - (k + 1)) (k + 1) (playR zs' day).zs) := by
        show _ = _
        rw [show n - k = (n - (k + 1)) + 1 by omega]; rfl
      have hlt' : (k : Int) < n := by omega
      have hpl := play_len zs' day
      obtain ⟨R, hRR⟩ : ∃ R, R = playR zs' day := ⟨_, rfl⟩
      have HRR := Lib.hid hRR
      go_wp2_with fail
      have hpc := play_any zs' day B cp A' cap' wr hzr ((he.below hKB.b).more hKB.b.size) (by omega) hl'
      rw [← hRR] at hpc hpl
      clear hRR
      refine hpc.mono ?_
      rintro r wc ⟨sl, rfl, hb, hsl⟩
      have hKc := hKB.below hb
      clear hb hKB hpc
      rcases hsl with ⟨hne, rfl⟩ | ⟨he0, B3, gB, rfl, hB3⟩
      · have hqq : (R.e != 0) = true := by simp [hne]
        have HF : Hid (keepsR zs day n least most = (0, 0, R.e)) := by
          show _ = _
          rw [HK.out, hE.out, hst.out, ← HRR.out, if_pos hne]
        clear hne hpl
        go_wp2_with fail
        go_ret3
        exact ⟨by rw [HF.out]; rfl, hKc.b.alloc hKc.b.size _⟩
      · have hqq : (R.e != 0) = false := by simp [he0]
        have hRl := hpl he0
        have HE0 := Lib.hid he0
        clear he0 hpl
        go_wp2_with fail
        have hKd := hKc.below (below1 wc (.cells #[.int .i64 R.s.f1, .int .i64 R.s.f2, .int .i64 R.s.p1, .int .i64 R.s.p2, .int .i64 R.s.w1, .int .i64 R.s.w2] 29))
        refine (firstZ 52 #[.pointer (some ⟨w.heap.size, 0, none⟩), .pointer (some ⟨w.heap.size + 1, 0, none⟩)] (badK least most) R.zs (some ⟨B3, 0, none⟩) R.zs.length _ (zrow_of_has (hB3.alloc _) (by have := hB3.lt; simp; omega)) (by omega) (enters_of Try.func52 (by kernel_rfl) rfl)
          (fun z W hW => keep1 z least most w.heap.size (w.heap.size + 1) W (hKd.h0.below hW hKd.h0.lt) (hKd.h1.below hW hKd.h1.lt))).mono ?_
        rintro r wd ⟨rfl, hb⟩
        have hKe := hKd.below hb
        have hB4 := (hB3.alloc (.cells #[.int .i64 R.s.f1, .int .i64 R.s.f2, .int .i64 R.s.p1, .int .i64 R.s.p2, .int .i64 R.s.w1, .int .i64 R.s.w2] 29)).below hb (by have := hB3.lt; simp; omega)
        clear hb hKd hKc hB3
        obtain ⟨fi, hfi⟩ : ∃ fi, fi = firstAt (badK least most) R.zs := ⟨_, rfl⟩
        rw [← hfi]
        have HS2 : Hid (keepsL day least most n 0 zs = if fi.2 = true then ((k : Int), (fi.1 : Int), 0) else keepsL day least most (n - (k + 1)) (k + 1) R.zs) := by
          show _ = _
          rw [hE.out, hst.out, ← HRR.out, if_neg (by simp [HE0.out]), ← hfi]
        clear hfi hst hE
        obtain ⟨at_, br⟩ := fi
        cases br
        · go_wp2_with fail
          go_roundw
          case rel => exact ⟨k + 1, R.zs, some ⟨B3, 0, none⟩, R.zs.length, by omega, by go_num, rfl, hRl, zrow_of_has hB4 hB4.lt, hKe, HS2⟩
          case measure => simp [intOf]; omega
        · go_wp2_with fail
          go_ret3
          exact ⟨by rw [HK.out, HS2.out]; rfl, hKe.b⟩
    · have HF : Hid (keepsR zs day n least most = (0, 0, 4)) := by
        show _ = _
        rw [HK.out, hE.out, show n - k = 0 by omega]; rfl
      have hge : (n : Int) ≤ k := by omega
      go_wp2_with fail
      go_ret3
      exact ⟨by rw [HF.out]; rfl, hKB.b⟩
end Go.Proofs.Ytogabjlhecnbbaa
