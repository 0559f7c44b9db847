/- The law IceWater: its closure 'keeps', and 'has'. -/
import Derived.Test.YtogabjlhecnbbaaRefB
import Derived.BigQuiet
import Derived.Test.YtogabjlhecnbbaaIceBr
namespace Go.Proofs.Ytogabjlhecnbbaa
open Go.RowKit Go.Shelf

def keepsB (w1 w2 p1 p2 least most : Int) (n : Nat) (zs : List Zn) (water : Int) : Bool := !everB w1 w2 p1 p2 water (fun x y => decide (x < least) || decide (most < y)) n zs
theorem keepsB_eq (w1 w2 p1 p2 least most : Int) (n : Nat) (zs : List Zn) (water : Int) :
    keepsB w1 w2 p1 p2 least most n zs water = (low w1 w2 p1 p2 n least zs water && !high w1 w2 p1 p2 n most zs water) := by
  unfold keepsB low high
  rw [← Bool.not_or]
  congr 1
  rw [Bool.eq_iff_iff]
  simp only [everB, badZ, List.any_eq_true, Bool.or_eq_true, decide_eq_true_eq]
  constructor
  · rintro ⟨z, hz, k, hk, h | h⟩
    · exact .inl ⟨z, hz, k, hk, h⟩
    · exact .inr ⟨z, hz, k, hk, h⟩
  · rintro (⟨z, hz, k, hk, h⟩ | ⟨z, hz, k, hk, h⟩)
    · exact ⟨z, hz, k, hk, .inl h⟩
    · exact ⟨z, hz, k, hk, .inr h⟩

theorem iv_eq {a b : Int} (h : a = b) : Value.int .i64 a = iv b := by rw [h]
theorem or_dec {p q : Prop} [Decidable p] [Decidable q] (h : p ∨ q) : (decide p || decide q) = true := by simpa using h
theorem or_nodec {p q : Prop} [Decidable p] [Decidable q] (h : ¬ p ∧ ¬ q) : (decide p || decide q) = false := by simp [h.1, h.2]
/-- the boxes that the closure holds -/
structure KBox (w : World) (B : Nat) (A : Option Addr) (len cap : Nat) (w1 w2 p1 p2 passes least most : Int) : Prop where
  h0 : Has w B 22 #[.slice A len cap]
  h1 : Has w (B + 1) 27 #[iv w1, iv w2]
  h2 : Has w (B + 1 + 1) 27 #[iv p1, iv p2]
  h3 : Has w (B + 1 + 1 + 1) 3 #[iv passes]
  h4 : Has w (B + 1 + 1 + 1 + 1) 3 #[iv least]
  h5 : Has w (B + 1 + 1 + 1 + 1 + 1) 3 #[iv most]
theorem KBox.below {w w' : World} {B : Nat} {A : Option Addr} {len cap : Nat} {w1 w2 p1 p2 passes least most : Int} (h : KBox w B A len cap w1 w2 p1 p2 passes least most) (hb : Below w.heap.size w w') : KBox w' B A len cap w1 w2 p1 p2 passes least most :=
  ⟨h.h0.below hb h.h0.lt, h.h1.below hb h.h1.lt, h.h2.below hb h.h2.lt, h.h3.below hb h.h3.lt, h.h4.below hb h.h4.lt, h.h5.below hb h.h5.lt⟩
theorem KBox.cs {w : World} {B : Nat} {A : Option Addr} {len cap : Nat} {w1 w2 p1 p2 passes least most : Int} (h : KBox w B A len cap w1 w2 p1 p2 passes least most) :
    (w.cell? ⟨B + 1, 0, none⟩ = some (iv w1) ∧ w.cell? ⟨B + 1, 1, none⟩ = some (iv w2) ∧ w.cell? ⟨B + 1 + 1, 0, none⟩ = some (iv p1) ∧ w.cell? ⟨B + 1 + 1, 1, none⟩ = some (iv p2)) ∧
    w.cell? ⟨B + 1 + 1 + 1, 0, none⟩ = some (iv passes) ∧ w.cell? ⟨B + 1 + 1 + 1 + 1, 0, none⟩ = some (iv least) ∧ w.cell? ⟨B + 1 + 1 + 1 + 1 + 1, 0, none⟩ = some (iv most) ∧ w.cell? ⟨B, 0, none⟩ = some (.slice A len cap) :=
  ⟨⟨h.h1.cell 0, h.h1.cell 1, h.h2.cell 0, h.h2.cell 1⟩, h.h3.cell 0, h.h4.cell 0, h.h5.cell 0, h.h0.cell 0⟩

set_option maxHeartbeats 400000 in
theorem has_any (lo hi n : Int) (w : World) : Calls Try.prog 33 #[sv lo hi, iv n] w fun e w' => e = .returned (.bool (decide (lo ≤ n ∧ n ≤ hi))) ∧ Below w.heap.size w w' := by
  obtain ⟨b, hb⟩ : ∃ b, b = decide (lo ≤ n ∧ n ≤ hi) := ⟨_, rfl⟩
  rw [← hb]
  by_cases h1 : lo ≤ n
  · have HE : Hid (b = decide (n ≤ hi)) := by show _ = _; rw [hb]; simp [h1]
    clear hb
    go_enter Try.func33, Try.ntmps33
    go_wp2
    go_ret
    exact ⟨ret_bool (by rw [HE.out]), below1 _ _⟩
  · have h1b : decide (lo ≤ n) = false := by simpa using h1
    have HE : Hid (b = false) := by show _ = _; rw [hb]; simp [h1]
    clear hb
    go_enter Try.func33, Try.ntmps33
    go_wp2
    go_ret
    exact ⟨ret_bool (by rw [HE.out]), below1 _ _⟩

set_option maxRecDepth 100000 in
set_option maxHeartbeats 4000000 in
theorem keeps36_any (B : Nat) (w1 w2 p1 p2 water least most : Int) (n : Nat) (zs : List Zn) (A : Option Addr) (cap : Nat) (w : World) (hK : KBox w B A zs.length cap w1 w2 p1 p2 n least most) (hz : ZRow w w.heap.size A zs) (hl : zs.length ≤ 24) (hn : n ≤ 100)
    (hok : ∀ z ∈ zs, z.ok = true) (hw : win w1 w2 = true) (hp : win p1 p2 = true) (hwa : 0 ≤ water) (hwb : water ≤ 20000) :
    Calls Try.prog 36 #[iv water, .pointer (some ⟨B, 0, none⟩), .pointer (some ⟨B + 1 + 1 + 1, 0, none⟩), .pointer (some ⟨B + 1, 0, none⟩), .pointer (some ⟨B + 1 + 1, 0, none⟩), .pointer (some ⟨B + 1 + 1 + 1 + 1, 0, none⟩), .pointer (some ⟨B + 1 + 1 + 1 + 1 + 1, 0, none⟩)] w
      fun e w' => e = .returned (.bool (keepsB w1 w2 p1 p2 least most n zs water)) ∧ Below w.heap.size w w' := by
  obtain ⟨bad, hbadE⟩ : ∃ f : Int → Int → Bool, f = fun x y => decide (x < least) || decide (most < y) := ⟨_, rfl⟩
  have HR : Hid (keepsB w1 w2 p1 p2 least most n zs water = !everB w1 w2 p1 p2 water bad n zs) := by show _ = _; rw [hbadE]; rfl
  have HOK := Lib.hid hok
  have HW := Lib.hid hw
  have HP := Lib.hid hp
  have HBE := Lib.hid hbadE
  have HK := Lib.hid hK
  obtain ⟨-, k0, -, -, k1⟩ := hK.cs
  have kl := hK.h0.lt
  clear hok hw hp hbadE hK
  go_enter Try.func36, Try.ntmps36
  go_wp2_with fail
  clear k0 k1
  go_loopw [15] (fun i wr => ∃ k : Nat, k ≤ zs.length ∧ i = .int .i64 k ∧ NoneTo (badZ w1 w2 p1 p2 water bad n) zs k ∧ Below w.heap.size w wr) (fun i _ => zs.length - (intOf i).toNat)
  case atStart => exact ⟨0, Nat.zero_le _, rfl, fun j _ h => absurd h (by omega), Below.refl _ _⟩
  case round =>
    obtain ⟨k, hk, rfl, hno, hb⟩ := hrel
    by_cases hlt : k < zs.length
    · obtain ⟨g, o, rfl, hg, c0, c1, c2, c3⟩ := hz k hlt
      rw [← hb.cell (p := ⟨g, _, none⟩) hg] at c0 c1 c2 c3
      have hgr : g < wr.heap.size := Nat.lt_of_lt_of_le hg hb.size
      have hzok := HOK.out zs[k] (List.getElem_mem hlt)
      have hz1 : (0 ≤ zs[k].a ∧ zs[k].a ≤ 20000) ∧ (0 ≤ zs[k].b ∧ zs[k].b ≤ 20000) := by
        simp only [Zn.ok, Bool.and_eq_true, win_iff] at hzok; omega
      have HZ := Lib.hid hz1
      clear hz1 hzok
      have HK1 := Lib.hid (HK.out.below hb)
      obtain ⟨wo, rfl⟩ : ∃ wo : World, wo = wr := ⟨_, rfl⟩
      go_wp2_with fail
      clear c0 c1 c2 c3
      go_quiet (fail)
      obtain ⟨W1, hW1⟩ : ∃ W1, W1 = (wo.alloc (.cells #[.int .i64 zs[k].a, .int .i64 zs[k].b, .int .i64 zs[k].c, .int .i64 zs[k].d] 60)).drewN nq := ⟨_, rfl⟩
      have hW1b : Below wo.heap.size wo W1 := by rw [hW1]; exact below_dN (below1 _ _) _
      rw [← hW1]
      have HB1 := Lib.hid (belowT hb hW1b)
      have HK2 := Lib.hid (HK1.out.below hW1b)
      clear hW1 hW1b
      obtain ⟨⟨a0, a1, a2, a3⟩, a4, a5, a6, -⟩ := HK2.out.cs
      have l1 := HK2.out.h1.lt
      have l2 := HK2.out.h2.lt
      have l3 := HK2.out.h3.lt
      have l4 := HK2.out.h4.lt
      have l5 := HK2.out.h5.lt
      go_wp2_with fail
      go_loopw [26, 11, 12] (fun j tn tk wi => ∃ m : Nat, m ≤ n ∧ j = .int .i64 m ∧ tn = iv (passN w1 w2 p1 p2 water (zs[k].a, zs[k].b) m).1 ∧ tk = iv (passN w1 w2 p1 p2 water (zs[k].a, zs[k].b) m).2 ∧ Fine w1 w2 p1 p2 water bad (zs[k].a, zs[k].b) m ∧ wi = W1) (fun j _ _ _ => n - (intOf j).toNat)
      case atStart => exact ⟨0, Nat.zero_le _, rfl, rfl, rfl, fun j h => absurd h (by omega), rfl⟩
      case round =>
        obtain ⟨m, hm, rfl, rfl, rfl, hfine, rfl⟩ := hrel
        by_cases hmn : m < n
        · have hbd := passN_bd (s := (zs[k].a, zs[k].b)) HW.out HP.out hwa hwb HZ.out.1 HZ.out.2 m
          obtain ⟨s1, hs1⟩ : ∃ s, s = (passN w1 w2 p1 p2 water (zs[k].a, zs[k].b) m).1 := ⟨_, rfl⟩
          obtain ⟨s2, hs2⟩ : ∃ s, s = (passN w1 w2 p1 p2 water (zs[k].a, zs[k].b) m).2 := ⟨_, rfl⟩
          rw [← hs1, ← hs2] at hbd ⊢
          have hw' := win_iff.1 HW.out
          have hp' := win_iff.1 HP.out
          have HN : Hid (passN w1 w2 p1 p2 water (zs[k].a, zs[k].b) (m + 1) = (side s1 w2 p2 water, side s2 w1 p1 water)) := by
            show _ = _
            simp only [passN, pass, side, ← hs1, ← hs2]
          obtain ⟨⟨⟨x1, x2⟩, x3, x4⟩, ⟨x5, x6, x7⟩, x8, x9, x10⟩ := And.intro hbd (And.intro hw' hp')
          have x11 : s1 ≤ 10000000 := by omega
          have x12 : s2 ≤ 10000000 := by omega
          clear hs1 hs2 hbd hw' hp' x2 x4
          have hbv : Hid (bad (passN w1 w2 p1 p2 water (zs[k].a, zs[k].b) (m + 1)).1 (passN w1 w2 p1 p2 water (zs[k].a, zs[k].b) (m + 1)).2 = (decide (side s1 w2 p2 water < least) || decide (most < side s2 w1 p1 water))) := by
            show _ = _
            rw [HBE.out]; simp only [HN.out]
          have hc1 : (w2 < s1 ∧ p2 < s1 - w2) ∨ (w2 < s1 ∧ s1 - w2 ≤ p2) ∨ s1 ≤ w2 := by omega
          have hc2 : (w1 < s2 ∧ p1 < s2 - w1) ∨ (w1 < s2 ∧ s2 - w1 ≤ p1) ∨ s2 ≤ w1 := by omega
          rcases hc1 with ⟨q1, q2⟩ | ⟨q1, q2⟩ | q1
          all_goals rcases hc2 with ⟨q3, q4⟩ | ⟨q3, q4⟩ | q3
          all_goals go_wp2_with fail
          all_goals first
            | go_roundw
              case rel =>
                have hbo : ¬ (side s1 w2 p2 water < least) ∧ ¬ (most < side s2 w1 p1 water) := by simp only [side]; constructor <;> omega
                have hbt := hbv.out.trans (or_nodec hbo)
                exact ⟨m + 1, by omega, by go_num, by rw [HN.out]; exact iv_eq (by simp only [side]; omega), by rw [HN.out]; exact iv_eq (by simp only [side]; omega), fine_succ hfine hbt, trivial⟩
              case measure => simp [intOf]; omega
            | go_ret
              have hbo : (side s1 w2 p2 water < least) ∨ (most < side s2 w1 p1 water) := by simp only [side]; first | (left; omega) | (right; omega)
              have hbt := hbv.out.trans (or_dec hbo)
              exact ⟨ret_bool (by rw [HR.out]; unfold everB; rw [any_yes (p := badZ w1 w2 p1 p2 water bad n) hlt (badZ_yes hmn hbt)]; rfl), HB1.out⟩
        · have hfz := Lib.hid (badZ_no (n := n) (z := zs[k]) (Nat.le_of_not_lt hmn) hfine)
          have hmd : decide (m < n) = false := by simpa using hmn
          go_wp2_with fail
          go_roundw
          case rel => exact ⟨k + 1, by omega, by go_num, noneTo_succ (hk := hlt) hno hfz.out, HB1.out⟩
          case measure => simp [intOf]; omega
    · have hkd : decide (k < zs.length) = false := by simpa using hlt
      have HFA := Lib.hid (any_no hno (by omega))
      go_wp2_with fail
      go_ret
      exact ⟨ret_bool (by rw [HR.out]; unfold everB; rw [HFA.out]; rfl), hb⟩
end Go.Proofs.Ytogabjlhecnbbaa
