/- The contract of Breaks. -/
import Derived.Test.YtogabjlhecnbbaaIceBreak
namespace Go.Proofs.Ytogabjlhecnbbaa
open Go.RowKit Go.Shelf

def offB (n : Nat) (z : Int) : Bool := decide (z < 0) || decide ((n : Int) ≤ z)
set_option maxHeartbeats 400000 in
theorem br1 (z : Int) (p : Nat) (A : Option Addr) (n cap : Nat) (w : World) (h : Has w p 22 #[.slice A n cap]) : Calls Try.prog 45 #[iv z, .pointer (some ⟨p, 0, none⟩)] w fun e w' => e = .returned (.bool (offB n z)) ∧ Below w.heap.size w w' := by
  have c : w.cell? ⟨p, 0, none⟩ = some (.slice A n cap) := h.cell 0
  by_cases h1 : z < 0
  · go_enter Try.func45, Try.ntmps45
    go_wp2
    go_ret
    exact ⟨ret_bool (by simp [offB, h1]), Below.refl _ _⟩
  · have h1b : decide (z < 0) = false := by simpa using h1
    have HE : Hid (offB n z = decide ((n : Int) ≤ z)) := by show _ = _; simp [offB, h1]
    go_enter Try.func45, Try.ntmps45
    go_wp2
    go_ret
    exact ⟨ret_bool (by rw [HE.out]), Below.refl _ _⟩
set_option maxHeartbeats 400000 in
theorem br2 (x y weight : Int) (p : Nat) (w : World) (h : Has w p 3 #[iv weight]) : Calls Try.prog 47 #[sv x y, .pointer (some ⟨p, 0, none⟩)] w fun e w' => e = .returned (.bool (decide (weight ≤ x))) ∧ Below w.heap.size w w' := by
  have c : w.cell? ⟨p, 0, none⟩ = some (iv weight) := h.cell 0
  have hp := h.lt
  go_enter Try.func47, Try.ntmps47
  go_wp2
  go_ret
  exact ⟨rfl, below1 _ _⟩
set_option maxRecDepth 100000 in
set_option maxHeartbeats 400000 in
theorem br3 (z need : Int) (p p' : Nat) (zs : List Zn) (A : Option Addr) (cap : Nat) (w : World) (h : Has w p 22 #[.slice A zs.length cap]) (h' : Has w p' 3 #[iv need]) (hz : ZRow w w.heap.size A zs) (h0 : 0 ≤ z) (h1 : z < zs.length) :
    Calls Try.prog 48 #[iv z, .pointer (some ⟨p, 0, none⟩), .pointer (some ⟨p', 0, none⟩)] w fun e w' => e = .returned (.bool (decide ((zs.getD z.toNat zd).a < need))) ∧ Below w.heap.size w w' := by
  obtain ⟨k, rfl⟩ := Int.eq_ofNat_of_zero_le h0
  have hk : k < zs.length := by omega
  have c : w.cell? ⟨p, 0, none⟩ = some (.slice A zs.length cap) := h.cell 0
  have c' : w.cell? ⟨p', 0, none⟩ = some (iv need) := h'.cell 0
  have HG : Hid ((zs.getD k zd).a = zs[k].a) := by show _ = _; simp [hk]
  obtain ⟨g, o, rfl, hg, c0, c1, c2, c3⟩ := hz k hk
  go_enter Try.func48, Try.ntmps48
  go_wp2
  refine still_all (by kernel_rfl) (by kernel_rfl) ?_
  repeat still_step
  refine wpStill_nil ?_
  go_wp2
  go_ret
  exact ⟨ret_bool (by rw [Int.toNat_natCast, HG.out]), (Below.refl _ _).drew⟩

def lastW (ts : List (Int × Int)) : Int := (ts.getD (ts.length - 1) (0, 0)).1
def needOf (ts : List (Int × Int)) (weight : Int) : Int := (ts.getD (firstAt (fun b => decide (weight ≤ b.1)) ts).1 (0, 0)).2
def breaksR (zs : List Zn) (ts : List (Int × Int)) (path : List Int) (weight : Int) : Int × Int :=
  if (rinkOk zs && tableOk ts) = false then (0, 1)
  else if path.any (offB zs.length) = true then (0, 2)
  else if decide (1 ≤ weight ∧ weight ≤ lastW ts) = false then (0, 2)
  else if (firstAt (fun z => decide ((zs.getD z.toNat zd).a < needOf ts weight)) path).2 = true then ((firstAt (fun z => decide ((zs.getD z.toNat zd).a < needOf ts weight)) path).1, 0)
  else (0, 4)
def pairR (r : Int × Int) : Value := .tuple #[iv r.1, iv r.2]

structure BB (w W : World) (A : Option Addr) (len cap : Nat) (weight : Int) : Prop where
  b : Below w.heap.size w W
  h0 : Has W w.heap.size 22 #[.slice A len cap]
  h1 : Has W (w.heap.size + 1) 3 #[iv weight]
theorem BB.start (w : World) (A : Option Addr) (len cap : Nat) (weight : Int) : BB w ((w.alloc (.cells #[.slice A len cap] 22)).alloc (.cells #[iv weight] 3)) A len cap weight :=
  ⟨(below1 _ _).alloc (by simp) _, (Has.new _ _ _).alloc _, Has.newAt (by simp)⟩
theorem BB.below {w W W' : World} {A : Option Addr} {len cap : Nat} {weight : Int} (h : BB w W A len cap weight) (hb : Below W.heap.size W W') : BB w W' A len cap weight :=
  ⟨h.b.trans (hb.mono h.b.size), h.h0.below hb h.h0.lt, h.h1.below hb h.h1.lt⟩
theorem firstAt_lt {α : Type} {p : α → Bool} {xs : List α} (h : 1 ≤ xs.length) : (firstAt p xs).1 < xs.length := by
  unfold firstAt
  cases hf : xs.findIdx? p with
  | none => exact Nat.lt_of_lt_of_le Nat.zero_lt_one h
  | some i => exact (List.findIdx?_eq_some_iff_getElem.1 hf).1

theorem below_dN {B : Nat} {a w : World} (h : Below B a w) (n : Nat) : Below B a (w.drewN n) := ⟨h.os, h.tape, h.output, h.size, h.block⟩
set_option maxRecDepth 100000 in
set_option maxHeartbeats 2000000 in
theorem breaks_any (zs : List Zn) (ts : List (Int × Int)) (path : List Int) (weight : Int) (A A1 A2 : Option Addr) (cap cap1 cap2 : Nat) (w : World) (hz : ZRow w w.heap.size A zs) (ht : BRow w w.heap.size A1 ts) (hp : IRow w w.heap.size A2 path)
    (hl : zs.length ≤ 9223372036854775807) (hl1 : ts.length ≤ 9223372036854775807) (hl2 : path.length ≤ 9223372036854775807) :
    Calls Try.prog 21 #[.slice A zs.length cap, .slice A1 ts.length cap1, .slice A2 path.length cap2, iv weight] w fun e w' => e = .returned (pairR (breaksR zs ts path weight)) ∧ Below w.heap.size w w' := by
  have hmf : ∀ (fn : Fn) (first cap : Array Value) (w : World), (Instr.makeFunc fn first cap).run Try.prog w = .ok (.func fn first cap) w := fun _ _ _ _ => rfl
  have H0 := Lib.hid (BB.start w A zs.length cap weight)
  cases hr : rinkOk zs
  · have hR : Hid (breaksR zs ts path weight = (0, 1)) := by show _ = _; simp [breaksR, hr]
    go_enter Try.func21, Try.ntmps21
    go_wp2_with fail
    refine (vr_any zs A cap _ ((hz.below H0.out.b).more H0.out.b.size) hl).mono ?_
    rintro r wa ⟨rfl, hb⟩
    have Ha := H0.out.below hb
    clear hb
    go_wp2_with fail
    go_ret2
    exact ⟨by rw [hR.out]; rfl, Ha.b⟩
  cases htb : tableOk ts
  · have hR : Hid (breaksR zs ts path weight = (0, 1)) := by show _ = _; simp [breaksR, htb]
    go_enter Try.func21, Try.ntmps21
    go_wp2_with fail
    refine (vr_any zs A cap _ ((hz.below H0.out.b).more H0.out.b.size) hl).mono ?_
    rintro r wa ⟨rfl, hb⟩
    have Ha := H0.out.below hb
    clear hb
    go_wp2_with fail
    refine (vt_any ts A1 cap1 wa ((ht.below Ha.b).more Ha.b.size) hl1).mono ?_
    rintro r wb ⟨rfl, hb⟩
    have Hb := Ha.below hb
    clear hb
    go_wp2_with fail
    go_ret2
    exact ⟨by rw [hR.out]; rfl, Hb.b⟩
  have HRT := Lib.hid (And.intro hr htb)
  have hRp := rink_parts hr
  have hzl : zs.length ≤ 24 := hRp.1
  have htl : 1 ≤ ts.length ∧ ts.length ≤ 16 := by simp only [tableOk, Bool.and_eq_true, decide_eq_true_eq] at htb; exact htb.1
  obtain ⟨tl1, tl2⟩ := htl
  clear hRp
  go_enter Try.func21, Try.ntmps21
  go_wp2_with fail
  refine (vr_any zs A cap _ ((hz.below H0.out.b).more H0.out.b.size) hl).mono ?_
  rintro r wa ⟨rfl, hb⟩
  have Ha := H0.out.below hb
  clear hb
  go_wp2_with fail
  refine (vt_any ts A1 cap1 wa ((ht.below Ha.b).more Ha.b.size) hl1).mono ?_
  rintro r wb ⟨rfl, hb⟩
  have Hb := Ha.below hb
  clear hb H0 Ha
  go_wp2_with fail
  clear hr htb
  refine (firstI 45 #[.pointer (some ⟨w.heap.size, 0, none⟩)] (offB zs.length) path A2 cap2 wb ((hp.below Hb.b).more Hb.b.size) hl2 (enters_of Try.func45 (by kernel_rfl) rfl) (fun x W _ hW => br1 x w.heap.size A zs.length cap W (Hb.h0.below hW Hb.h0.lt))).mono ?_
  rintro r wc ⟨rfl, hb⟩
  have Hc := Hb.below hb
  clear hb Hb
  rw [firstAt_any]
  cases hoff : path.any (offB zs.length)
  · have c7 : wc.cell? ⟨w.heap.size + 1, 0, none⟩ = some (iv weight) := Hc.h1.cell 0
    have HO := Lib.hid hoff
    clear hoff
    by_cases hw1 : weight < 1
    · have hR : Hid (breaksR zs ts path weight = (0, 2)) := by
        show _ = _
        simp only [breaksR, HRT.out.1, HRT.out.2, HO.out]
        simp; omega
      have hw1d : decide (weight < 1) = true := by simpa using hw1
      go_wp2_with fail
      go_quiet (fail)
      go_wp2_with fail
      go_ret2
      exact ⟨by rw [hR.out]; rfl, below_dN Hc.b _⟩
    have hw1d : decide (weight < 1) = false := by simpa using hw1
    have hlk : ts.length - 1 < ts.length := by omega
    obtain ⟨g, o, rfl, hg, t0, t1⟩ := ht (ts.length - 1) hlk
    rw [← Hc.b.cell (p := ⟨g, _, none⟩) hg] at t0 t1
    have HLW : Hid (lastW ts = ts[ts.length - 1].1) := by show _ = _; simp [lastW, hlk]
    obtain ⟨lw, hlw⟩ : ∃ lw, lw = ts[ts.length - 1].1 := ⟨_, rfl⟩
    rw [← hlw] at t0
    have HLW2 : Hid (lastW ts = lw) := by show _ = _; rw [HLW.out, hlw]
    clear hlw HLW
    by_cases hw2 : lw < weight
    · have hR : Hid (breaksR zs ts path weight = (0, 2)) := by
        show _ = _
        simp only [breaksR, HRT.out.1, HRT.out.2, HO.out, HLW2.out]
        simp; omega
      go_wp2_with fail
      go_quiet (fail)
      go_wp2_with fail
      go_ret2
      exact ⟨by rw [hR.out]; rfl, below_dN Hc.b _⟩
    have hw2d : decide (lw < weight) = false := by simpa using hw2
    go_wp2_with fail
    go_quiet (fail)
    clear t0 t1
    go_wp2_with fail
    clear c7
    refine (firstB 47 #[.pointer (some ⟨w.heap.size + 1, 0, none⟩)] (fun b => decide (weight ≤ b.1)) ts (some ⟨g, o, none⟩) cap1 (wc.drewN nq) ((ht.below (below_dN Hc.b nq)).more Hc.b.size) hl1 (enters_of Try.func47 (by kernel_rfl) rfl) (fun x W hW => br2 x.1 x.2 weight (w.heap.size + 1) W ((Hc.h1.drewN nq).below hW Hc.h1.lt))).mono ?_
    rintro r wd ⟨rfl, hb⟩
    have Hd : BB w wd A zs.length cap weight := BB.below (W := wc.drewN nq) ⟨below_dN Hc.b nq, Hc.h0.drewN nq, Hc.h1.drewN nq⟩ hb
    clear hb Hc
    have hfl := firstAt_lt (p := fun b : Int × Int => decide (weight ≤ b.1)) tl1
    obtain ⟨row, hrow⟩ : ∃ row, row = (firstAt (fun b : Int × Int => decide (weight ≤ b.1)) ts).1 := ⟨_, rfl⟩
    rw [← hrow] at hfl
    have HN : Hid (needOf ts weight = ts[row].2) := by show _ = _; unfold needOf; rw [← hrow]; simp [hfl]
    rw [← hrow]
    obtain ⟨g', o', hgo, hg', t0, t1⟩ := ht row hfl
    injection hgo with hgo
    injection hgo with hgo1 hgo2
    subst hgo1 hgo2
    rw [← Hd.b.cell (p := ⟨g, _, none⟩) hg'] at t0 t1
    obtain ⟨need, hneed⟩ : ∃ need, need = ts[row].2 := ⟨_, rfl⟩
    rw [← hneed] at t1
    have HN2 : Hid (needOf ts weight = need) := by show _ = _; rw [HN.out, hneed]
    clear hneed HN hrow
    have hfl' : (row : Int) < ts.length := by omega
    have hgd : g < wd.heap.size := Nat.lt_of_lt_of_le hg' Hd.b.size
    go_wp2_with fail
    have hpth : ∀ x ∈ path, 0 ≤ x ∧ x < zs.length := fun x hx => by
      have h1 := HO.out
      rw [List.any_eq_false] at h1
      have h2 := h1 x hx
      simp only [offB, Bool.or_eq_true, decide_eq_true_eq, not_or] at h2
      omega
    have He : BB w (wd.alloc (.cells #[iv need] 3)) A zs.length cap weight := Hd.below (below1 _ _)
    refine (firstI 48 #[.pointer (some ⟨w.heap.size, 0, none⟩), .pointer (some ⟨wd.heap.size, 0, none⟩)] (fun z => decide ((zs.getD z.toNat zd).a < need)) path A2 cap2 (wd.alloc (.cells #[iv need] 3)) ((hp.below He.b).more He.b.size) hl2 (enters_of Try.func48 (by kernel_rfl) rfl)
      (fun x W hx hW => br3 x need w.heap.size wd.heap.size zs A cap W (He.h0.below hW He.h0.lt) ((Has.new wd 3 #[iv need]).below hW (by simp)) ((hz.below (He.b.trans (hW.mono He.b.size))).more (He.b.trans (hW.mono He.b.size)).size) (hpth x hx).1 (hpth x hx).2)).mono ?_
    rintro r we ⟨rfl, hb⟩
    have Hf := He.below hb
    clear hb He hpth t0 t1
    obtain ⟨fi, hfi⟩ : ∃ fi, fi = firstAt (fun z : Int => decide ((zs.getD z.toNat zd).a < need)) path := ⟨_, rfl⟩
    rw [← hfi]
    have hR : Hid (breaksR zs ts path weight = if fi.2 = true then ((fi.1 : Int), 0) else (0, 4)) := by
      show _ = _
      simp only [breaksR, HRT.out.1, HRT.out.2, HO.out, HLW2.out, HN2.out, ← hfi]
      rw [if_neg (by simp), if_neg (by simp), if_neg (by simp; omega)]
    clear hfi
    obtain ⟨at_, br⟩ := fi
    cases br
    · go_wp2_with fail
      go_ret2
      exact ⟨by rw [hR.out]; rfl, Hf.b⟩
    · go_wp2_with fail
      go_ret2
      exact ⟨by rw [hR.out]; rfl, Hf.b⟩
  · have hR : Hid (breaksR zs ts path weight = (0, 2)) := by show _ = _; simp [breaksR, HRT.out.1, HRT.out.2, hoff]
    clear hoff
    go_wp2_with fail
    go_ret2
    exact ⟨by rw [hR.out]; rfl, Hc.b⟩
end Go.Proofs.Ytogabjlhecnbbaa
