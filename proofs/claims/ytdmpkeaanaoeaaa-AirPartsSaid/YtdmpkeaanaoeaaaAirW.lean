/- sort.Search; Dryer. -/
import Derived.Test.YtdmpkeaanaoeaaaAirV
import Derived.Shelf.Abstract
namespace Go.Proofs.Ytdmpkeaanaoeaaa
open Go.RowKit Go.Shelf
def SearchPost (p : Int → Bool) (n : Nat) (w : World) (e : Ending) (w' : World) : Prop :=
  ∃ r : Nat, e = .returned (.int .i64 r) ∧ r ≤ n ∧ (r < n → p r = true) ∧ (0 < r → p (r - 1) = false) ∧ Below w.heap.size w w'
set_option maxHeartbeats 400000 in
theorem search_any (f : Nat) (cp : Array Value) (p : Int → Bool) (n : Nat) (w : World) (hn : n ≤ 1099511627776)
    (eg : ∀ args w, (callFunc f args).run Try.prog w = .ok (.enter f args) w)
    (hf : ∀ (x : Int) W, 0 ≤ x → x < n → Below w.heap.size w W → Calls Try.prog f (#[.int .i64 x] ++ cp) W fun e w' => e = .returned (.bool (p x)) ∧ Below W.heap.size W w') :
    Calls Try.prog 47 #[.int .i64 n, .func (.func f) #[] cp] w (SearchPost p n w) := by
  have HF := Lib.hid hf
  clear hf
  go_enter Try.func47, Try.ntmps47
  go_wp2
  go_loopw [5, 6] (fun a b wr => ∃ i j : Nat, i ≤ j ∧ j ≤ n ∧ a = .int .i64 i ∧ b = .int .i64 j ∧ Hid (0 < i → p (i - 1) = false) ∧ Hid (j < n → p j = true) ∧ Below w.heap.size w wr) (fun a b _ => (intOf b).toNat - (intOf a).toNat)
  case atStart => exact ⟨0, n, by omega, by omega, rfl, rfl, (fun h => absurd h (by omega)), (fun h => absurd h (by omega)), Below.refl _ _⟩
  case round =>
    obtain ⟨i, j, hij, hjn, rfl, rfl, hI, hJ, hb⟩ := hrel
    by_cases hlt : i < j
    · go_wp2_with fail
      have hh1 : ((i : Int) + j) / 2 = (((i + j) / 2 : Nat) : Int) := by omega
      refine (HF.out _ _ (by omega) (by omega) hb).mono ?_
      rintro e w1 ⟨rfl, hb1⟩
      have hb2 : Below w.heap.size w w1 := hb.trans (hb1.mono hb.size)
      clear hh1
      cases hp : p (((i : Int) + j) / 2)
      · have hp' : Hid (0 < (i + j) / 2 + 1 → p ((((i + j) / 2 + 1 : Nat) : Int) - 1) = false) := fun _ => by
          rw [show ((((i + j) / 2 + 1 : Nat) : Int) - 1) = ((i : Int) + j) / 2 by omega]; exact hp
        go_wp2_with fail
        go_roundw
        case rel => exact ⟨(i + j) / 2 + 1, j, by omega, hjn, by go_num, rfl, hp', hJ, hb2⟩
        case measure => simp [intOf]; omega
      · have hp' : Hid ((i + j) / 2 < n → p (((i + j) / 2 : Nat) : Int) = true) := fun _ => by
          rw [show ((((i + j) / 2 : Nat) : Int)) = ((i : Int) + j) / 2 by omega]; exact hp
        go_wp2_with fail
        go_roundw
        case rel => exact ⟨i, (i + j) / 2, by omega, by omega, rfl, by go_num, hI, hp', hb2⟩
        case measure => simp [intOf]; omega
    · obtain rfl : i = j := by omega
      go_wp2_with fail
      go_ret
      exact ⟨i, rfl, hjn, hJ.out, hI.out, hb⟩
theorem search_at (f : Nat) (cp : Array Value) (p : Int → Bool) (n : Nat) (N : Int) (hN : (n : Int) = N) (w : World) (hn : n ≤ 1099511627776)
    (eg : ∀ args w, (callFunc f args).run Try.prog w = .ok (.enter f args) w)
    (hf : ∀ (x : Int) W, 0 ≤ x → x < n → Below w.heap.size w W → Calls Try.prog f (#[.int .i64 x] ++ cp) W fun e w' => e = .returned (.bool (p x)) ∧ Below W.heap.size W w') :
    Calls Try.prog 47 #[.int .i64 N, .func (.func f) #[] cp] w (SearchPost p n w) := by
  subst hN
  exact search_any f cp p n w hn eg hf

def dryB (hi : Int) (ms : List Mo) (x : Int) : Bool := decide (fogP hi (wd x ms) ms.length < 0)
theorem wd_good {lo hi : Int} {ms : List Mo} (h : GL lo hi ms) {x : Int} (hx : 0 ≤ x ∧ x ≤ 68719476736) : GL lo hi (wd x ms) := by
  refine ⟨by rw [wd_len]; exact h.n, fun m hm => ?_, h.lo, h.hi⟩
  unfold wd at hm
  obtain ⟨m', hm', rfl⟩ := List.mem_map.1 hm
  obtain ⟨h1, h2, h3, h4⟩ := h.g m' hm'
  exact ⟨h1, h2, hx, h4⟩
/-- what the closure reads -/
structure DI (W : World) (B1 B2 : Nat) (lo hi : Int) (ms : List Mo) (A : Option Addr) (cl : Nat) : Prop where
  fw : Has W B1 24 #[.int .i64 lo, .int .i64 hi]
  fl : Has W B2 67 #[.slice A ms.length cl]
  r : MRow W W.heap.size A ms
theorem DI.step {W W' : World} {B1 B2 : Nat} {lo hi : Int} {ms : List Mo} {A : Option Addr} {cl : Nat} (h : DI W B1 B2 lo hi ms A cl) (hb : Below W.heap.size W W') : DI W' B1 B2 lo hi ms A cl :=
  ⟨h.fw.below hb h.fw.lt, h.fl.below hb h.fl.lt, h.r.step hb⟩
set_option maxRecDepth 100000 in
set_option maxHeartbeats 2000000 in
theorem dryc_any (x : Int) (B1 B2 : Nat) (lo hi : Int) (ms : List Mo) (A : Option Addr) (cl : Nat) (W : World) (hd : DI W B1 B2 lo hi ms A cl) (hg : GL lo hi ms) (hA : A = none → ms.length = 0 ∧ cl = 0) (hx : 0 ≤ x ∧ x ≤ 68719476736) :
    Calls Try.prog 48 #[.int .i64 x, .pointer (some ⟨B1, 0, none⟩), .pointer (some ⟨B2, 0, none⟩)] W (BoolPost (dryB hi ms x) W) := by
  have HW := Lib.hid (fun w h => withDryer_any ms A cl x w h hg.n hA)
  have HF := Lib.hid (fun A cl w h => fog_any lo hi (wd x ms) A cl w (wd_good hg hx) h)
  have HL := Lib.hid (wd_len x ms)
  have c0 : W.cell? ⟨B1, 0, none⟩ = some (.int .i64 lo) := hd.fw.cell 0
  have c1 : W.cell? ⟨B1, 1, none⟩ = some (.int .i64 hi) := hd.fw.cell 1
  have c2 : W.cell? ⟨B2, 0, none⟩ = some (.slice A ms.length cl) := hd.fl.cell 0
  have HD := Lib.hid (DI.step hd (below_drew W))
  obtain ⟨b, hb⟩ : ∃ b, b = dryB hi ms x := ⟨_, rfl⟩
  rw [← hb]
  have HBB := Lib.hid hb
  clear hd hg hA hx hb
  go_enter Try.func48, Try.ntmps48
  go_wp2_with fail
  go_region_held3 (fun w' => w'.cell? ⟨B1, 0, none⟩ = some (.int .i64 lo) ∧ w'.cell? ⟨B1, 1, none⟩ = some (.int .i64 hi) ∧ w'.cell? ⟨B2, 0, none⟩ = some (.slice A ms.length cl)) (first | exact ⟨HD2.out.fw.cell 0, HD2.out.fw.cell 1, HD2.out.fl.cell 0⟩ | exact ⟨HD1.out.fw.cell 0, HD1.out.fw.cell 1, HD1.out.fl.cell 0⟩ | go_keep) (first | (go_at_call 49; refine (HW.out _ HD.out.r).mono ?_; rintro r w1 ⟨hb1, A1, cl1, rfl, hr1⟩; (have HD1 := Lib.hid (DI.step HD.out hb1)); (have HX1 := Lib.hid (And.intro hb1 hr1)); clear hb1 hr1) | (go_at_call 43; refine (HF.out _ _ _ HX1.out.2).mono ?_; rintro r w2 ⟨rfl, hb2⟩; (have HD2 := Lib.hid (DI.step HD1.out hb2)); (have HX2 := Lib.hid hb2); clear hb2))
  all_goals
    have hlen := HL.out
    have HY := Lib.hid (show b = decide (fogP hi (wd x ms) (wd x ms).length < 0) by rw [HBB.out, hlen]; rfl)
    clear hlen
    generalize fogP hi (wd x ms) (wd x ms).length = y at HY ⊢
    generalize fogS lo (wd x ms) (wd x ms).length = z
    have HZ := Lib.hid ((below_dl HX1.out.1).trans (HX2.out.mono HX1.out.1.size))
    clear c0 c1 c2
    by_cases hy : y < 0
    · have HE := Lib.hid (HY.out.trans (decide_eq_true hy))
      go_wp2
      go_ret
      exact ⟨ret_bool (by rw [HE.out]), HZ.out⟩
    · have HE := Lib.hid (HY.out.trans (decide_eq_false hy))
      go_wp2
      go_ret
      exact ⟨ret_bool (by rw [HE.out]), HZ.out⟩
theorem own_none {w : World} {base n cap : Nat} {A : Option Addr} {xs : List Value} (h : w.ownsRow base 86 5 (.slice A n cap) n xs) : A = none → n = 0 ∧ cap = 0 := by
  rcases h.2 with ⟨h0, -⟩ | ⟨g, c, cur, h0, -⟩
  · cases h0; exact fun _ => ⟨rfl, rfl⟩
  · cases h0; exact fun h => by cases h
/-- a least dryer, as the search finds it -/
structure Least (hi : Int) (ms : List Mo) (r : Nat) : Prop where
  le : r ≤ 68719476737
  yes : r < 68719476737 → dryB hi ms r = true
  no : 0 < r → dryB hi ms (r - 1) = false
def DryPost (a : Air) (lo hi : Int) (L : List Stp) (w : World) (e : Ending) (W' : World) : Prop :=
  Below w.heap.size w W' ∧
  ((insB a lo hi L = false ∧ e = .returned (.tuple #[.int .i64 0, .int .i64 1])) ∨
   (insB a lo hi L = true ∧ ∃ r : Nat, Least hi (msOf a L) r ∧ e = .returned (.tuple #[.int .i64 (if r = 68719476737 then 0 else r), .int .i64 (if r = 68719476737 then 4 else 0)])))
set_option maxRecDepth 100000 in
set_option maxHeartbeats 4000000 in
theorem Dryer_any (a : Air) (A0 B0 : Option Addr) (ca cb : Nat) (lo hi : Int) (L : List Stp) (AL : Option Addr) (cL : Nat) (W : World) (har : AR W W.heap.size a A0 B0) (hr : SRow W W.heap.size AL L) (hL : L.length ≤ 9223372036854775807) :
    Calls Try.prog 19 #[airv a A0 B0 ca cb, .agg #[.int .i64 lo, .int .i64 hi], .slice AL L.length cL] W (DryPost a lo hi L W) := by
  have hmf : ∀ (fn : Fn) (first cap : Array Value) (w : World), (Instr.makeFunc fn first cap).run Try.prog w = .ok (.func fn first cap) w := fun _ _ _ _ => rfl
  have H0 := Lib.hid (And.intro har hr)
  have HI := Lib.hid (fun w h1 h2 => inspect_any a A0 B0 ca cb lo hi L AL cL w h1 h2 hL)
  have HB := Lib.hid (box_aw W a A0 B0 ca cb lo hi)
  have hlen := Lib.hid (msOf_len a L)
  unfold airv at *
  clear har hr
  go_enter Try.func19, Try.ntmps19
  go_wp2_with fail
  generalize (W.alloc (.cells (airc a A0 B0 ca cb) 26)).alloc (.cells #[.int .i64 lo, .int .i64 hi] 24) = w0 at HB ⊢
  refine (HI.out _ (H0.out.1.step HB.out.b) (H0.out.2.step HB.out.b)).mono ?_
  rintro e w1 ⟨hb1, (⟨hg, v, rfl, ho⟩ | ⟨hg, rfl⟩)⟩
  · obtain ⟨A, cl, rfl, hrow⟩ := own_row (v := v) (ms := msOf a L) (by rw [hlen.out]; exact ho)
    have hgl := Lib.hid (ins_gl hg)
    have hAn := Lib.hid (own_none (A := A) (n := (msOf a L).length) (cap := cl) (by rw [hlen.out] at ho ⊢; exact ho))
    have HRow := Lib.hid hrow.row
    have HG := Lib.hid hg
    have H1 := Lib.hid (HB.out.step hb1)
    clear hb1 hg ho hrow
    obtain ⟨ms, hms⟩ : ∃ ms, ms = msOf a L := ⟨_, rfl⟩
    rw [← hms] at HRow hgl hAn ⊢
    have HMS := Lib.hid hms
    clear hms
    go_wp2_with fail
    have H2 := Lib.hid (H1.out.step (below_one w1 (.cells #[.slice A ms.length cl] 67)))
    have HD : Hid (DI (w1.alloc (.cells #[.slice A ms.length cl] 67)) (W.heap.size + 1) w1.heap.size lo hi ms A cl) := ⟨H2.out.fw, Has.new _ _ _, HRow.out.step (below_one _ _)⟩
    generalize w1.heap.size = gb at HD ⊢
    generalize w1.alloc (.cells #[.slice A ms.length cl] 67) = w2 at H2 HD ⊢
    refine (search_at 48 #[.pointer (some ⟨W.heap.size + 1, 0, none⟩), .pointer (some ⟨gb, 0, none⟩)] (fun x => dryB hi ms x) 68719476737 68719476737 rfl w2 (by decide) (enters_of Try.func48 (by kernel_rfl) rfl)
      (fun x w3 h0 h1 hb => dryc_any x _ _ lo hi ms A cl w3 (HD.out.step hb) hgl.out hAn.out ⟨h0, by omega⟩)).mono ?_
    rintro e w3 ⟨r, rfl, hr1, hr2, hr3, hb3⟩
    have H3 := Lib.hid (H2.out.step hb3)
    have HL : Hid (Least hi ms r) := ⟨hr1, hr2, hr3⟩
    clear hr2 hr3 hb3
    by_cases hbig : r = 68719476737
    · have HE := Lib.hid hbig
      have hb1 : (68719476736 : Int) < r := by omega
      clear hbig
      go_wp2_with fail
      refine bodyPost_ret (results_tmp2 rfl _ _ _) rfl ?_
      exact ⟨H3.out.b, .inr ⟨HG.out, r, by rw [← HMS.out]; exact HL.out, by rw [if_pos HE.out, if_pos HE.out]; rfl⟩⟩
    · have HE := Lib.hid hbig
      have hb1 : ¬ (68719476736 : Int) < r := by omega
      clear hbig
      go_wp2_with fail
      refine bodyPost_ret (results_tmp2 rfl _ _ _) rfl ?_
      exact ⟨H3.out.b, .inr ⟨HG.out, r, by rw [← HMS.out]; exact HL.out, by rw [if_neg HE.out, if_neg HE.out]; rfl⟩⟩
  · have HG := Lib.hid hg
    have H1 := Lib.hid (HB.out.step hb1)
    clear hb1 hg
    go_wp2_with fail
    refine bodyPost_ret (results_tmp2 rfl _ _ _) rfl ?_
    exact ⟨by have := H1.out.b; exact this.alloc this.size _, .inl ⟨HG.out, rfl⟩⟩
end Go.Proofs.Ytdmpkeaanaoeaaa
