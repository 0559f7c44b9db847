/- Contracts of ever, sort.Search and Water. -/
import Derived.Test.YtogabjlhecnbbaaIceB
namespace Go.Proofs.Ytogabjlhecnbbaa
open Go.RowKit Go.Shelf

/-- one pass -/
def pass (w1 w2 p1 p2 water : Int) (s : Int × Int) : Int × Int := (max 0 (max 0 (s.1 - w2) - p2) + water, max 0 (max 0 (s.2 - w1) - p1) + water)
def passN (w1 w2 p1 p2 water : Int) (s : Int × Int) : Nat → Int × Int
  | 0 => s
  | k + 1 => pass w1 w2 p1 p2 water (passN w1 w2 p1 p2 water s k)
def badZ (w1 w2 p1 p2 water : Int) (bad : Int → Int → Bool) (n : Nat) (z : Zn) : Bool :=
  (List.range n).any fun k => bad (passN w1 w2 p1 p2 water (z.a, z.b) (k + 1)).1 (passN w1 w2 p1 p2 water (z.a, z.b) (k + 1)).2
def everB (w1 w2 p1 p2 water : Int) (bad : Int → Int → Bool) (n : Nat) (zs : List Zn) : Bool := zs.any (badZ w1 w2 p1 p2 water bad n)

theorem win_iff {a b : Int} : win a b = true ↔ 0 ≤ a ∧ a ≤ b ∧ b ≤ 20000 := by simp [win]
theorem pass_bd {w1 w2 p1 p2 water : Int} {s : Int × Int} {c : Int} (hw : win w1 w2 = true) (hp : win p1 p2 = true) (ha : 0 ≤ water) (hb : water ≤ 20000) (h1 : 0 ≤ s.1 ∧ s.1 ≤ c) (h2 : 0 ≤ s.2 ∧ s.2 ≤ c) :
    (0 ≤ (pass w1 w2 p1 p2 water s).1 ∧ (pass w1 w2 p1 p2 water s).1 ≤ c + 20000) ∧ (0 ≤ (pass w1 w2 p1 p2 water s).2 ∧ (pass w1 w2 p1 p2 water s).2 ≤ c + 20000) := by
  rw [win_iff] at hw hp
  simp only [pass]
  omega
theorem passN_bd {w1 w2 p1 p2 water : Int} {s : Int × Int} (hw : win w1 w2 = true) (hp : win p1 p2 = true) (ha : 0 ≤ water) (hb : water ≤ 20000) (h1 : 0 ≤ s.1 ∧ s.1 ≤ 20000) (h2 : 0 ≤ s.2 ∧ s.2 ≤ 20000) (k : Nat) :
    (0 ≤ (passN w1 w2 p1 p2 water s k).1 ∧ (passN w1 w2 p1 p2 water s k).1 ≤ 20000 + 20000 * k) ∧ (0 ≤ (passN w1 w2 p1 p2 water s k).2 ∧ (passN w1 w2 p1 p2 water s k).2 ≤ 20000 + 20000 * k) := by
  induction k with
  | zero => simp only [passN]; omega
  | succ k ih => have := pass_bd (s := passN w1 w2 p1 p2 water s k) (c := 20000 + 20000 * k) hw hp ha hb ih.1 ih.2; simp only [passN]; omega

/-- rounds that were not bad -/
def Fine (w1 w2 p1 p2 water : Int) (bad : Int → Int → Bool) (s : Int × Int) (m : Nat) : Prop := ∀ k, k < m → bad (passN w1 w2 p1 p2 water s (k + 1)).1 (passN w1 w2 p1 p2 water s (k + 1)).2 = false
theorem badZ_yes {w1 w2 p1 p2 water : Int} {bad : Int → Int → Bool} {n m : Nat} {z : Zn} (hm : m < n) (h : bad (passN w1 w2 p1 p2 water (z.a, z.b) (m + 1)).1 (passN w1 w2 p1 p2 water (z.a, z.b) (m + 1)).2 = true) : badZ w1 w2 p1 p2 water bad n z = true := by
  unfold badZ; rw [List.any_eq_true]; exact ⟨m, List.mem_range.2 hm, h⟩
theorem badZ_no {w1 w2 p1 p2 water : Int} {bad : Int → Int → Bool} {n m : Nat} {z : Zn} (hm : n ≤ m) (h : Fine w1 w2 p1 p2 water bad (z.a, z.b) m) : badZ w1 w2 p1 p2 water bad n z = false := by
  unfold badZ; rw [List.any_eq_false]; intro k hk; have := h k (by have := List.mem_range.1 hk; omega); simp [this]
theorem fine_succ {w1 w2 p1 p2 water : Int} {bad : Int → Int → Bool} {m : Nat} {s : Int × Int} (h : Fine w1 w2 p1 p2 water bad s m) (hb : bad (passN w1 w2 p1 p2 water s (m + 1)).1 (passN w1 w2 p1 p2 water s (m + 1)).2 = false) : Fine w1 w2 p1 p2 water bad s (m + 1) := fun k hk => by
  by_cases e : k = m
  · subst e; exact hb
  · exact h k (by omega)
theorem any_no {α : Type} {p : α → Bool} {xs : List α} {k : Nat} (h : NoneTo p xs k) (hk : xs.length ≤ k) : xs.any p = false := by rw [← firstAt_any, firstAt_no h hk]
theorem any_yes {α : Type} {p : α → Bool} {xs : List α} {k : Nat} (hk : k < xs.length) (hp : p xs[k] = true) : xs.any p = true := by rw [List.any_eq_true]; exact ⟨_, List.getElem_mem hk, hp⟩

abbrev wk (w1 w2 p1 p2 : Int) (n : Nat) : Array Value := #[iv w1, iv w2, iv p1, iv p2, iv n]
set_option maxHeartbeats 2000000 in
theorem ever_any (f : Nat) (cp : Array Value) (bad : Int → Int → Bool) (w1 w2 p1 p2 water : Int) (n : Nat) (zs : List Zn) (A : Option Addr) (cap : Nat) (w : World) (hz : ZRow w w.heap.size A zs) (hl : zs.length ≤ 24) (hn : n ≤ 100)
    (hok : ∀ z ∈ zs, z.ok = true) (hw : win w1 w2 = true) (hp : win p1 p2 = true) (hwa : 0 ≤ water) (hwb : water ≤ 20000)
    (eg : ∀ args w, (callFunc f args).run Try.prog w = .ok (.enter f args) w)
    (hf : ∀ x y W, Below w.heap.size w W → Calls Try.prog f (#[sv x y] ++ cp) W fun e w' => e = .returned (.bool (bad x y)) ∧ Below W.heap.size W w') :
    Calls Try.prog 57 #[.agg #[iv w1, iv w2, iv p1, iv p2, iv n], .slice A zs.length cap, iv water, .func (.func f) #[] cp] w
      fun e w' => e = .returned (.bool (everB w1 w2 p1 p2 water bad n zs)) ∧ Below w.heap.size w w' := by
  have HF := Lib.hid hf
  have HOK := Lib.hid hok
  have HW := Lib.hid hw
  have HP := Lib.hid hp
  clear hf hok hw hp
  go_enter Try.func57, Try.ntmps57
  go_wp2
  go_loopw [14] (fun i wr => ∃ k : Nat, k ≤ zs.length ∧ i = .int .i64 k ∧ NoneTo (badZ w1 w2 p1 p2 water bad n) zs k ∧ Below w.heap.size w wr ∧ Has wr w.heap.size 96 (wk w1 w2 p1 p2 n)) (fun i _ => zs.length - (intOf i).toNat)
  case atStart => exact ⟨0, Nat.zero_le _, rfl, fun j _ h => absurd h (by omega), below1 _ _, Has.new _ _ _⟩
  case round =>
    obtain ⟨k, hk, rfl, hno, hb, hW⟩ := hrel
    by_cases hlt : k < zs.length
    · obtain ⟨g, o, rfl, hg, c0, c1, c2, c3⟩ := hz k hlt
      rw [← hb.cell (p := ⟨g, _, none⟩) hg] at c0 c1 c2 c3
      have hgr : g < wr.heap.size := Nat.lt_of_lt_of_le hg hb.size
      have hWl := hW.lt
      have d4 : wr.cell? ⟨w.heap.size, 4, none⟩ = some (iv n) := hW.cell 4
      have hwl1 : w.heap.size < wr.heap.size + 1 := by omega
      obtain ⟨wo, rfl⟩ : ∃ wo : World, wo = wr := ⟨_, rfl⟩
      go_wp2_with fail
      have hzok := HOK.out zs[k] (List.getElem_mem hlt)
      have hz1 : (0 ≤ zs[k].a ∧ zs[k].a ≤ 20000) ∧ (0 ≤ zs[k].b ∧ zs[k].b ≤ 20000) := by
        simp only [Zn.ok, Bool.and_eq_true, win_iff] at hzok; omega
      have HZ := Lib.hid hz1
      clear hz1 hzok c0 c1 c2 c3 d4
      have hbn : w.heap.size ≤ wo.heap.size := hb.size
      have hS0 : Has ((wo.alloc (.cells #[.int .i64 zs[k].a, .int .i64 zs[k].b, .int .i64 zs[k].c, .int .i64 zs[k].d] 60)).alloc (.cells #[.int .i64 zs[k].a, .int .i64 zs[k].b] 99)) (wo.heap.size + 1) 99 #[.int .i64 zs[k].a, .int .i64 zs[k].b] := by
        have := Has.new (wo.alloc (.cells #[.int .i64 zs[k].a, .int .i64 zs[k].b, .int .i64 zs[k].c, .int .i64 zs[k].d] 60)) 99 #[.int .i64 zs[k].a, .int .i64 zs[k].b]
        rwa [World.size_alloc] at this
      have HS0 := Lib.hid hS0
      clear hS0
      go_loopw [22] (fun j wi => ∃ m : Nat, m ≤ n ∧ j = .int .i64 m ∧ Fine w1 w2 p1 p2 water bad (zs[k].a, zs[k].b) m ∧ Below w.heap.size w wi ∧ Has wi w.heap.size 96 (wk w1 w2 p1 p2 n) ∧
          Has wi (wo.heap.size + 1) 99 #[iv (passN w1 w2 p1 p2 water (zs[k].a, zs[k].b) m).1, iv (passN w1 w2 p1 p2 water (zs[k].a, zs[k].b) m).2]) (fun j _ => n - (intOf j).toNat)
      case atStart => exact ⟨0, Nat.zero_le _, rfl, fun j h => absurd h (by omega), (hb.alloc hb.size _).alloc (by simp; omega) _, (hW.alloc _).alloc _, HS0.out⟩
      case round =>
        obtain ⟨m, hm, rfl, hfine, hbi, hWi, hSi⟩ := hrel
        by_cases hmn : m < n
        · have hbd := passN_bd (s := (zs[k].a, zs[k].b)) HW.out HP.out hwa hwb HZ.out.1 HZ.out.2 m
          have hw' := win_iff.1 HW.out
          have hp' := win_iff.1 HP.out
          have HB := Lib.hid (And.intro hbd (And.intro hw' hp'))
          clear hbd hw' hp'
          have dW0 : wr.cell? ⟨w.heap.size, 0, none⟩ = some (iv w1) := hWi.cell 0
          have dW1 : wr.cell? ⟨w.heap.size, 1, none⟩ = some (iv w2) := hWi.cell 1
          obtain ⟨s1, hs1⟩ : ∃ s1, s1 = (passN w1 w2 p1 p2 water (zs[k].a, zs[k].b) m).1 := ⟨_, rfl⟩
          obtain ⟨s2, hs2⟩ : ∃ s2, s2 = (passN w1 w2 p1 p2 water (zs[k].a, zs[k].b) m).2 := ⟨_, rfl⟩
          obtain ⟨⟨⟨x1, x2⟩, x3, x4⟩, ⟨x5, x6, x7⟩, x8, x9, x10⟩ := HB.out
          rw [← hs1, ← hs2] at hSi
          rw [← hs1] at x1 x2
          rw [← hs2] at x3 x4
          have hnx : passN w1 w2 p1 p2 water (zs[k].a, zs[k].b) (m + 1) = (max 0 (max 0 (s1 - w2) - p2) + water, max 0 (max 0 (s2 - w1) - p1) + water) := by
            simp only [passN, pass, ← hs1, ← hs2]
          have HN := Lib.hid hnx
          clear hnx hs1 hs2 HB HS0
          go_wp2_with fail
          refine (shrink_any (wo.heap.size + 1) 0 99 _ s1 s2 w1 w2 wr hSi rfl rfl ⟨by omega, by omega⟩ ⟨by omega, by omega⟩).mono ?_
          rintro e wa ⟨rfl, hoa, hSa⟩
          have hSa' : Has wa (wo.heap.size + 1) 99 #[iv (max 0 (s1 - w2)), iv (max 0 (s2 - w1))] := hSa
          have hWa := hWi.only hoa (by omega)
          have hba : Below w.heap.size w wa := hbi.trans (hoa.below (B := w.heap.size) hbi.size (fun i hi => by omega))
          have dP0 : wa.cell? ⟨w.heap.size, 2, none⟩ = some (iv p1) := hWa.cell 2
          have dP1 : wa.cell? ⟨w.heap.size, 3, none⟩ = some (iv p2) := hWa.cell 3
          clear hSa dW0 dW1 hoa hbi hWi hSi
          go_wp2_with fail
          refine (shrink_any (wo.heap.size + 1) 0 99 _ (max 0 (s1 - w2)) (max 0 (s2 - w1)) p1 p2 wa hSa' rfl rfl ⟨by omega, by omega⟩ ⟨by omega, by omega⟩).mono ?_
          rintro e wb ⟨rfl, hob, hSb⟩
          have hSb' : Has wb (wo.heap.size + 1) 99 #[iv (max 0 (max 0 (s1 - w2) - p2)), iv (max 0 (max 0 (s2 - w1) - p1))] := hSb
          have hWb := hWa.only hob (by omega)
          have hbb : Below w.heap.size w wb := hba.trans (hob.below (B := w.heap.size) hba.size (fun i hi => by omega))
          clear hSb dP0 dP1 hob hba hWa hSa'
          go_wp2_with fail
          refine (grow_any (wo.heap.size + 1) 0 99 _ _ _ water water wb hSb' rfl rfl ⟨by omega, by omega⟩ ⟨by omega, by omega⟩).mono ?_
          rintro e wc ⟨rfl, hoc, hSc⟩
          have hSc' : Has wc (wo.heap.size + 1) 99 #[iv (passN w1 w2 p1 p2 water (zs[k].a, zs[k].b) (m + 1)).1, iv (passN w1 w2 p1 p2 water (zs[k].a, zs[k].b) (m + 1)).2] := by rw [HN.out]; exact hSc
          have hWc := hWb.only hoc (by omega)
          have hbc : Below w.heap.size w wc := hbb.trans (hoc.below (B := w.heap.size) hbb.size (fun i hi => by omega))
          have dS0 : wc.cell? ⟨wo.heap.size + 1, 0, none⟩ = some (iv (passN w1 w2 p1 p2 water (zs[k].a, zs[k].b) (m + 1)).1) := hSc'.cell 0
          have dS1 : wc.cell? ⟨wo.heap.size + 1, 1, none⟩ = some (iv (passN w1 w2 p1 p2 water (zs[k].a, zs[k].b) (m + 1)).2) := hSc'.cell 1
          clear hSc hoc hbb hWb hSb' HN
          go_wp2_with fail
          refine (HF.out _ _ _ hbc).mono ?_
          rintro e wd ⟨rfl, hbd⟩
          have hbe : Below w.heap.size w wd := hbc.trans (hbd.mono hbc.size)
          have hWd := hWc.below hbd hWc.lt
          have hSd := hSc'.below hbd hSc'.lt
          clear dS0 dS1
          cases hbad : bad (passN w1 w2 p1 p2 water (zs[k].a, zs[k].b) (m + 1)).1 (passN w1 w2 p1 p2 water (zs[k].a, zs[k].b) (m + 1)).2
          · go_wp2_with fail
            go_roundw
            case rel => exact ⟨m + 1, by omega, by go_num, fine_succ hfine hbad, hbe, hWd, hSd⟩
            case measure => simp [intOf]; omega
          · have hfa := any_yes (p := badZ w1 w2 p1 p2 water bad n) hlt (badZ_yes hmn hbad)
            have HFA := Lib.hid hfa
            clear hfa
            go_wp2_with fail
            go_ret
            exact ⟨ret_bool HFA.out.symm, hbe⟩
        · have hbz := badZ_no (n := n) (by omega) hfine
          have hno' := noneTo_succ (hk := hlt) hno hbz
          clear hbz
          go_wp2_with fail
          go_roundw
          case rel => exact ⟨k + 1, by omega, by go_num, hno', hbi, hWi⟩
          case measure => simp [intOf]; omega
    · have hfa := any_no hno (by omega)
      have HFA := Lib.hid hfa
      clear hfa
      go_wp2_with fail
      go_ret
      exact ⟨ret_bool HFA.out.symm, hb⟩
end Go.Proofs.Ytogabjlhecnbbaa
