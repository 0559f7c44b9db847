/- Who hinders: hinders, Hinders. -/
import Derived.Test.YtipejhfgfciabaaHrY
namespace Go.Proofs.Ytipejhfgfciabaa
open Go.RowKit Go.Shelf
def stepH (x : Tt) (least : List Int) (named : List Int) (s : Nat) : List Int := if (decide (named = []) || aheadB (memL s) named) && !satP x least (memL s) then memL s else named
def hTo (x : Tt) (least : List Int) (k : Nat) : List Int := (List.range k).foldl (stepH x least) []
def hindP (x : Tt) (least : List Int) : List Int := hTo x least (2 ^ x.G.length)
theorem hTo_succ (x : Tt) (least : List Int) (k : Nat) : hTo x least (k + 1) = stepH x least (hTo x least k) k := by
  unfold hTo; rw [List.range_succ, List.foldl_append]; rfl
theorem memL_lt {s n : Nat} (hs : s < 2 ^ n) : ∀ g ∈ memL s, ∃ i : Nat, g = (i : Int) ∧ i < n := by
  intro g hg
  unfold memL memTo at hg
  obtain ⟨i, hi, rfl⟩ := List.mem_map.1 hg
  have h1 := (List.mem_filter.1 hi).2
  simp only [decide_eq_true_eq] at h1
  refine ⟨i, rfl, ?_⟩
  rcases Nat.lt_or_ge i n with h | h
  · exact h
  · have h2 : 2 ^ n ≤ 2 ^ i := Nat.pow_le_pow_right (by decide) h
    rw [Nat.div_eq_of_lt (by omega)] at h1
    simp at h1
theorem pow_le_32 {n : Nat} (h : n ≤ 5) : 1 ≤ 2 ^ n ∧ 2 ^ n ≤ 32 := by
  have h1 : 2 ^ n ≤ 2 ^ 5 := Nat.pow_le_pow_right (by decide) h
  have h2 : 0 < 2 ^ n := Nat.pow_pos (by decide)
  omega
set_option maxRecDepth 100000 in
set_option maxHeartbeats 1200000 in
theorem hinders_any (x : Tt) (AH AG : Option Addr) (ch cg : Nat) (least : List Int) (A1 : Option Addr) (c1 : Nat) (W : World) (hr : TR W W.heap.size x AH AG) (hv : VT x) (h1 : IRow W W.heap.size A1 least) (hlb : leastB x least = true) :
    Calls Try.prog 51 #[ttv x AH AG ch cg, .slice A1 least.length c1] W (NilRow (hindP x least) W) := by
  have HB : Hid (VB W (W.alloc (.cells (ttc x AH AG ch cg) 25)) x AH AG ch cg) := ⟨below_one W _, Has.new W 25 _⟩
  have hng := hv.ng
  have HM := Lib.hid (fun (s : Nat) (hs : s < 32) (w : World) => members_any s hs w)
  have HS := Lib.hid (fun (l : List Int) A2 c2 w (hr : TR w w.heap.size x AH AG) h1 h2 hl hl5 => satisfied_any x AH AG ch cg least A1 c1 l A2 c2 w hr hv h1 h2 hlb hl hl5)
  have HR := Lib.hid (And.intro hr h1)
  have hp := pow_le_32 hng
  have HP : Hid (hindP x least = hTo x least (2 ^ x.G.length)) := Lib.hid rfl
  obtain ⟨P2, hP2⟩ : ∃ P2, P2 = 2 ^ x.G.length := ⟨_, rfl⟩
  have HML := Lib.hid (fun s (hs : s < P2) => memL_lt (s := s) (n := x.G.length) (hP2 ▸ hs))
  have hPI : (2 : Int) ^ x.G.length = (P2 : Int) := by rw [hP2]; simp
  rw [← hP2] at hp HP
  have HP2 := Lib.hid hP2
  have e1 : IntKind.i64.wrap (P2 : Int) = (P2 : Int) := IntWalk.i64_in _ (by omega)
  clear hr hv h1 hlb hP2
  unfold ttv at *
  go_enter Try.func51, Try.ntmps51
  go_wp2_with fail
  generalize W.alloc (.cells (ttc x AH AG ch cg) 25) = w0 at HB ⊢
  clear hPI e1
  have he0 : ∀ w : World, (binOp .eql 26 (.slice none 0 0) (.slice none 0 0)).run Try.prog w = .ok (.bool true) w := fun _ => rfl
  have he1 : ∀ (a : Addr) (n c : Nat) (w : World), (binOp .eql 26 (.slice (some a) n c) (.slice none 0 0)).run Try.prog w = .ok (.bool false) w := fun _ _ _ _ => rfl
  go_loopg [5, 12] P2 (fun gk nv i wr => ∃ (k : Nat) (A : Option Addr) (c : Nat), k ≤ P2 ∧ P2 - k ≤ gk ∧ i = .int .i64 k ∧ nv = .slice A (hTo x least k).length c ∧ Hid (VB W wr x AH AG ch cg ∧ IRow wr wr.heap.size A (hTo x least k) ∧ (hTo x least k = [] → A = none ∧ c = 0) ∧ (hTo x least k ≠ [] → ∃ g, A = some ⟨g, 0, none⟩)))
  case atStart => exact ⟨0, none, 0, Nat.zero_le _, Nat.le_refl _, rfl, rfl, Lib.hid ⟨HB.out, row_nil _ _, fun _ => ⟨rfl, rfl⟩, fun h => absurd rfl h⟩⟩
  case round =>
    obtain ⟨k, A, c, hk, hgk, rfl, rfl, HW⟩ := hrel
    by_cases hlt : k < P2
    rotate_left
    · have hge : ¬ (k : Int) < P2 := by omega
      have hke : k = P2 := by omega
      have HE := Lib.hid (show hindP x least = hTo x least k by rw [HP.out, hke])
      clear hke
      go_wp2_with fail
      go_ret
      show NilRow (hindP x least) W _ _
      rw [HE.out]
      exact ⟨A, c, rfl, HW.out.2.1, HW.out.1.b, HW.out.2.2⟩
    have hlt2 : (k : Int) < P2 := by omega
    have hk32 : (k : Int) < 32 := by omega
    have HMk := Lib.hid (fun w => HM.out k (by omega) w)
    have HLk := Lib.hid (And.intro (HML.out k hlt) (show (memL k).length ≤ 5 from memTo_len k 5))
    have HST := Lib.hid (hTo_succ x least k)
    unfold stepH at HST
    obtain ⟨nm, hnm⟩ : ∃ nm, nm = hTo x least k := ⟨_, rfl⟩
    obtain ⟨l, hl⟩ : ∃ l, l = memL k := ⟨_, rfl⟩
    rw [← hnm] at HW HST ⊢
    rw [← hl] at HMk HLk HST
    clear hnm hl HM HML
    obtain ⟨st, hst⟩ : ∃ st, st = satP x least l := ⟨_, rfl⟩
    have HSl := Lib.hid (fun A2 c2 w hr h1 h2 => HS.out l A2 c2 w hr h1 h2 HLk.out.1 HLk.out.2)
    rw [← hst] at HSl HST
    clear hst HS
    obtain ⟨ah, hah⟩ : ∃ ah, ah = aheadB l nm := ⟨_, rfl⟩
    have HAH := Lib.hid (fun (A2 : Option Addr) (c2 : Nat) (w : World) (h2 : IRow w w.heap.size A2 l) (h3 : IRow w w.heap.size A nm) => ahead_any l nm A2 A c2 c _ _ w h2 h3 (by have := HLk.out.2; omega))
    rw [← hah] at HAH HST
    clear hah
    by_cases hne : nm = []
    · obtain ⟨hA, hc⟩ := HW.out.2.2.1 hne
      subst hA hc hne
      simp only [decide_true, Bool.true_or, Bool.true_and] at HST
      go_wp2_with fail
      refine (HMk.out _).mono ?_
      rintro e w1 ⟨A2, c2, rfl, hr2, hb2, hn2⟩
      have HW1 := Lib.hid (And.intro (HW.out.1.step hb2) (And.intro hr2 hn2))
      clear hr2 hb2 hn2
      have x0 : w1.cell? ⟨W.heap.size, 0, none⟩ = some (.slice AH x.H.length ch) := HW1.out.1.fx.cell 0
      have x1 : w1.cell? ⟨W.heap.size, 1, none⟩ = some (.slice AG x.G.length cg) := HW1.out.1.fx.cell 1
      have x2 : w1.cell? ⟨W.heap.size, 2, none⟩ = some (.int .i64 x.R) := HW1.out.1.fx.cell 2
      go_wp2_with fail
      refine (HSl.out A2 c2 w1 (HR.out.1.step HW1.out.1.b) (HR.out.2.step HW1.out.1.b) HW1.out.2.1).mono ?_
      rintro e w2 ⟨rfl, hb3⟩
      have HW2 := Lib.hid (And.intro (HW1.out.1.step hb3) (And.intro (HW1.out.2.1.step hb3) HW1.out.2.2))
      clear hb3 x0 x1 x2
      cases st
      · have HN : Hid (hTo x least (k + 1) = l) := Lib.hid HST.out
        go_wp2_with fail
        go_roundg (P2 - (k + 1))
        case measure => omega
        case rel => exact ⟨k + 1, A2, c2, by omega, Nat.le_refl _, by go_num, by rw [HN.out], Lib.hid (by rw [HN.out]; exact HW2.out)⟩
      · have HN : Hid (hTo x least (k + 1) = []) := Lib.hid HST.out
        go_wp2_with fail
        go_roundg (P2 - (k + 1))
        case measure => omega
        case rel => exact ⟨k + 1, none, 0, by omega, Nat.le_refl _, by go_num, by rw [HN.out]; rfl, Lib.hid (by rw [HN.out]; exact ⟨HW2.out.1, row_nil _ _, fun _ => ⟨rfl, rfl⟩, fun h => absurd rfl h⟩)⟩
    obtain ⟨g, hA⟩ := HW.out.2.2.2 hne
    have HNE := Lib.hid hne
    subst hA
    have hd : decide (nm = []) = false := by simpa using hne
    rw [hd, Bool.false_or] at HST
    clear hd hne
    go_wp2_with fail
    refine (HMk.out _).mono ?_
    rintro e w1 ⟨A2, c2, rfl, hr2, hb2, hn2⟩
    have HW1 := Lib.hid (And.intro (HW.out.1.step hb2) (And.intro hr2 (And.intro hn2 (HW.out.2.1.step hb2))))
    clear hr2 hb2 hn2
    have x0 : w1.cell? ⟨W.heap.size, 0, none⟩ = some (.slice AH x.H.length ch) := HW1.out.1.fx.cell 0
    have x1 : w1.cell? ⟨W.heap.size, 1, none⟩ = some (.slice AG x.G.length cg) := HW1.out.1.fx.cell 1
    have x2 : w1.cell? ⟨W.heap.size, 2, none⟩ = some (.int .i64 x.R) := HW1.out.1.fx.cell 2
    go_wp2_with fail
    refine (HAH.out A2 c2 w1 HW1.out.2.1 HW1.out.2.2.2).mono ?_
    rintro e w2 ⟨rfl, hb3⟩
    have HW2 := Lib.hid (And.intro (HW1.out.1.step hb3) (And.intro (HW1.out.2.1.step hb3) (And.intro HW1.out.2.2.1 (HW1.out.2.2.2.step hb3))))
    clear hb3 x0 x1 x2
    have x0 : w2.cell? ⟨W.heap.size, 0, none⟩ = some (.slice AH x.H.length ch) := HW2.out.1.fx.cell 0
    have x1 : w2.cell? ⟨W.heap.size, 1, none⟩ = some (.slice AG x.G.length cg) := HW2.out.1.fx.cell 1
    have x2 : w2.cell? ⟨W.heap.size, 2, none⟩ = some (.int .i64 x.R) := HW2.out.1.fx.cell 2
    cases ah
    · have HN : Hid (hTo x least (k + 1) = nm) := Lib.hid HST.out
      go_wp2_with fail
      go_roundg (P2 - (k + 1))
      case measure => omega
      case rel => exact ⟨k + 1, _, c, by omega, Nat.le_refl _, by go_num, by rw [HN.out], Lib.hid (by rw [HN.out]; exact ⟨HW2.out.1, HW2.out.2.2.2, fun h => absurd h HNE.out, fun _ => ⟨g, rfl⟩⟩)⟩
    simp only [Bool.true_and] at HST
    go_wp2_with fail
    refine (HSl.out A2 c2 w2 (HR.out.1.step HW2.out.1.b) (HR.out.2.step HW2.out.1.b) HW2.out.2.1).mono ?_
    rintro e w3 ⟨rfl, hb4⟩
    have HW3 := Lib.hid (And.intro (HW2.out.1.step hb4) (And.intro (HW2.out.2.1.step hb4) (And.intro HW2.out.2.2.1 (HW2.out.2.2.2.step hb4))))
    clear hb4 x0 x1 x2
    cases st
    · have HN : Hid (hTo x least (k + 1) = l) := Lib.hid HST.out
      go_wp2_with fail
      go_roundg (P2 - (k + 1))
      case measure => omega
      case rel => exact ⟨k + 1, A2, c2, by omega, Nat.le_refl _, by go_num, by rw [HN.out], Lib.hid (by rw [HN.out]; exact ⟨HW3.out.1, HW3.out.2.1, HW3.out.2.2.1⟩)⟩
    · have HN : Hid (hTo x least (k + 1) = nm) := Lib.hid HST.out
      go_wp2_with fail
      go_roundg (P2 - (k + 1))
      case measure => omega
      case rel => exact ⟨k + 1, _, c, by omega, Nat.le_refl _, by go_num, by rw [HN.out], Lib.hid (by rw [HN.out]; exact ⟨HW3.out.1, HW3.out.2.2.2, fun h => absurd h HNE.out, fun _ => ⟨g, rfl⟩⟩)⟩
def hindersR (x : Tt) (least : List Int) : List Int × Int := if ttB x = false then ([], 1) else if leastB x least = false then ([], 2) else (hindP x least, 0)
set_option maxRecDepth 100000 in
set_option maxHeartbeats 1200000 in
theorem Hinders_any (x : Tt) (AH AG : Option Addr) (ch cg : Nat) (l : List Int) (A : Option Addr) (c : Nat) (W : World) (hr : TR W W.heap.size x AH AG) (ha : IRow W W.heap.size A l) : Calls Try.prog 19 #[ttv x AH AG ch cg, .slice A l.length c] W (SEPost (hindersR x l) W) := by
  have HB : Hid (VB W (W.alloc (.cells (ttc x AH AG ch cg) 25)) x AH AG ch cg) := ⟨below_one W _, Has.new W 25 _⟩
  have HA := Lib.hid ha
  have HR := Lib.hid hr
  have HV := Lib.hid (fun w (h : TR w w.heap.size x AH AG) => validTimetable_any x AH AG ch cg w h)
  have hn : ∀ r, hindersR x l = r → Hid (hindersR x l = r) := fun b h => h
  clear ha hr
  cases hT : ttB x <;> rw [hT] at HV
  · have HE := hn ([], 1) (by unfold hindersR; simp [hT])
    clear hn hT
    rw [HE.out]
    unfold ttv at *
    go_enter Try.func19, Try.ntmps19
    go_upto_region 1 with fail
    generalize W.alloc (.cells (ttc x AH AG ch cg) 25) = w0 at HB ⊢
    have x0 : w0.cell? ⟨W.heap.size, 0, none⟩ = some (.slice AH x.H.length ch) := HB.out.fx.cell 0
    have x1 : w0.cell? ⟨W.heap.size, 1, none⟩ = some (.slice AG x.G.length cg) := HB.out.fx.cell 1
    have x2 : w0.cell? ⟨W.heap.size, 2, none⟩ = some (.int .i64 x.R) := HB.out.fx.cell 2
    go_wp2_with fail
    refine (HV.out _ (HR.out.step HB.out.b)).mono ?_
    rintro e w1 ⟨rfl, hb1⟩
    have HB1 := Lib.hid (HB.out.step hb1)
    clear hb1
    go_wp2_with fail
    refine bodyPost_ret (v := .tuple #[.slice none 0 0, .int .i64 1]) (by simp [results, Try.results19, go_sem]) rfl ?_
    exact ⟨none, 0, rfl, row_nil _ _, HB1.out.b⟩
  have hv := ttB_vt hT
  have HP := Lib.hid (fun w (h : IRow w w.heap.size A l) => validLeast_any x AH AG ch cg l A c w hv h)
  cases hP : leastB x l <;> rw [hP] at HP
  · have HE := hn ([], 2) (by unfold hindersR; simp [hT, hP])
    clear hn hT hP hv
    rw [HE.out]
    unfold ttv at *
    go_enter Try.func19, Try.ntmps19
    go_upto_region 1 with fail
    generalize W.alloc (.cells (ttc x AH AG ch cg) 25) = w0 at HB ⊢
    have x0 : w0.cell? ⟨W.heap.size, 0, none⟩ = some (.slice AH x.H.length ch) := HB.out.fx.cell 0
    have x1 : w0.cell? ⟨W.heap.size, 1, none⟩ = some (.slice AG x.G.length cg) := HB.out.fx.cell 1
    have x2 : w0.cell? ⟨W.heap.size, 2, none⟩ = some (.int .i64 x.R) := HB.out.fx.cell 2
    go_wp2_with fail
    refine (HV.out _ (HR.out.step HB.out.b)).mono ?_
    rintro e w1 ⟨rfl, hb1⟩
    have HB1 := Lib.hid (HB.out.step hb1)
    clear hb1 x0 x1 x2
    have x0 : w1.cell? ⟨W.heap.size, 0, none⟩ = some (.slice AH x.H.length ch) := HB1.out.fx.cell 0
    have x1 : w1.cell? ⟨W.heap.size, 1, none⟩ = some (.slice AG x.G.length cg) := HB1.out.fx.cell 1
    have x2 : w1.cell? ⟨W.heap.size, 2, none⟩ = some (.int .i64 x.R) := HB1.out.fx.cell 2
    go_wp2_with fail
    refine (HP.out _ (HA.out.step HB1.out.b)).mono ?_
    rintro e w2 ⟨rfl, hb2⟩
    have HB2 := Lib.hid (HB1.out.step hb2)
    clear hb2
    go_wp2_with fail
    refine bodyPost_ret (v := .tuple #[.slice none 0 0, .int .i64 2]) (by simp [results, Try.results19, go_sem]) rfl ?_
    exact ⟨none, 0, rfl, row_nil _ _, HB2.out.b⟩
  have HE := hn (hindP x l, 0) (by unfold hindersR; simp [hT, hP])
  have HH := Lib.hid (fun w (h : TR w w.heap.size x AH AG) h1 => hinders_any x AH AG ch cg l A c w h hv h1 hP)
  clear hn hT hP hv
  rw [HE.out]
  unfold ttv at *
  go_enter Try.func19, Try.ntmps19
  go_upto_region 1 with fail
  generalize W.alloc (.cells (ttc x AH AG ch cg) 25) = w0 at HB ⊢
  have x0 : w0.cell? ⟨W.heap.size, 0, none⟩ = some (.slice AH x.H.length ch) := HB.out.fx.cell 0
  have x1 : w0.cell? ⟨W.heap.size, 1, none⟩ = some (.slice AG x.G.length cg) := HB.out.fx.cell 1
  have x2 : w0.cell? ⟨W.heap.size, 2, none⟩ = some (.int .i64 x.R) := HB.out.fx.cell 2
  go_wp2_with fail
  refine (HV.out _ (HR.out.step HB.out.b)).mono ?_
  rintro e w1 ⟨rfl, hb1⟩
  have HB1 := Lib.hid (HB.out.step hb1)
  clear hb1 x0 x1 x2
  have x0 : w1.cell? ⟨W.heap.size, 0, none⟩ = some (.slice AH x.H.length ch) := HB1.out.fx.cell 0
  have x1 : w1.cell? ⟨W.heap.size, 1, none⟩ = some (.slice AG x.G.length cg) := HB1.out.fx.cell 1
  have x2 : w1.cell? ⟨W.heap.size, 2, none⟩ = some (.int .i64 x.R) := HB1.out.fx.cell 2
  go_wp2_with fail
  refine (HP.out _ (HA.out.step HB1.out.b)).mono ?_
  rintro e w2 ⟨rfl, hb2⟩
  have HB2 := Lib.hid (HB1.out.step hb2)
  clear hb2 x0 x1 x2
  have x0 : w2.cell? ⟨W.heap.size, 0, none⟩ = some (.slice AH x.H.length ch) := HB2.out.fx.cell 0
  have x1 : w2.cell? ⟨W.heap.size, 1, none⟩ = some (.slice AG x.G.length cg) := HB2.out.fx.cell 1
  have x2 : w2.cell? ⟨W.heap.size, 2, none⟩ = some (.int .i64 x.R) := HB2.out.fx.cell 2
  go_wp2_with fail
  refine (HH.out _ (HR.out.step HB2.out.b) (HA.out.step HB2.out.b)).mono ?_
  rintro e w3 ⟨A3, c3, rfl, hr3, hb3, -⟩
  have HB3 := Lib.hid (And.intro (HB2.out.step hb3) hr3)
  clear hb3 hr3 x0 x1 x2
  go_wp2_with fail
  refine bodyPost_ret (v := .tuple #[.slice A3 (hindP x l).length c3, .int .i64 0]) (by simp [results, Try.results19, go_sem]) rfl ?_
  exact ⟨A3, c3, rfl, HB3.out.2, HB3.out.1.b⟩
end Go.Proofs.Ytipejhfgfciabaa
