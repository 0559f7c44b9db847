/- Those that have failed. -/
import Derived.Test.YtfdjoldcdfbfhaaRdA
namespace Go.Proofs.Ytfdjoldcdfbfhaa
open Go.Shelf Go.RowKit
theorem cntT_set {l : List Bool} {k : Nat} (hk : l[k]? = some false) : ∀ n, cntT (l.set k true) n = cntT l n + (if k < n then 1 else 0)
  | 0 => by simp [cntT]
  | n + 1 => by
    have ih := cntT_set hk n
    show cntT (l.set k true) n + _ = cntT l n + _ + _
    rw [ih]
    have hkl := (List.getElem?_eq_some_iff.1 hk).1
    by_cases h : k = n
    · subst h
      rw [hk, List.getElem?_set_self hkl]
      simp
    · rw [List.getElem?_set_ne h]
      generalize (if l[n]? = some true then 1 else 0) = z
      by_cases h2 : k < n
      · rw [if_pos h2, if_pos (by omega)]; omega
      · rw [if_neg h2, if_neg (by omega)]; omega
theorem cntT_zero (n : Nat) : ∀ k, cntT (List.replicate n false) k = 0
  | 0 => rfl
  | k + 1 => by
    unfold cntT
    rw [cntT_zero n k, if_neg]
    intro h
    have h1 := List.getElem?_eq_some_iff.1 h
    obtain ⟨h1, h2⟩ := h1
    simp at h2
def FailPost (n : Nat) (F : Int) (W : World) (e : Ending) (W' : World) : Prop :=
  ∃ (g : Nat) (B : List Bool), e = .returned (.slice (some ⟨g, 0, none⟩) n n) ∧ Below W.heap.size W W' ∧ W.heap.size ≤ g ∧ Has W' g 4 (bls B) ∧ B.length = n ∧ (cntT B n : Int) ≤ F
set_option maxRecDepth 100000 in
set_option maxHeartbeats 2000000 in
theorem failed_any (l : List Sn) (A0 : Option Addr) (cap0 : Nat) (V F b : Int) (W : World) (hl : l.length ≤ 12) (hF : 0 ≤ F) :
    Calls Try.prog 27 #[vtv A0 l.length cap0 V F, .int .u16 b] W (FailPost l.length F W) := by
  have hh : Has (W.alloc (.cells #[.slice A0 l.length cap0, .int .i64 V, .int .i64 F] 24)) W.heap.size 24 #[.slice A0 l.length cap0, .int .i64 V, .int .i64 F] := Has.new W 24 _
  have hb0 := below_one W (.cells #[.slice A0 l.length cap0, .int .i64 V, .int .i64 F] 24)
  have hmk := make_bools l.length (by omega)
  unfold vtv
  go_enter Try.func27, Try.ntmps27
  go_wp2_with fail
  have HB := Lib.hid (And.intro (hb0.alloc hb0.size (.cells (bls (List.replicate l.length false)) 4)) (And.intro (hh.alloc (.cells (bls (List.replicate l.length false)) 4)) (Has.new (W.alloc (.cells #[.slice A0 l.length cap0, .int .i64 V, .int .i64 F] 24)) 4 (bls (List.replicate l.length false)))))
  generalize (W.alloc (.cells #[.slice A0 l.length cap0, .int .i64 V, .int .i64 F] 24)).alloc (.cells (bls (List.replicate l.length false)) 4) = w0 at HB ⊢
  rw [show (W.alloc (.cells #[.slice A0 l.length cap0, .int .i64 V, .int .i64 F] 24)).heap.size = W.heap.size + 1 by simp] at HB
  obtain ⟨g, hg⟩ : ∃ g, g = W.heap.size + 1 := ⟨_, rfl⟩
  rw [← hg] at HB ⊢
  have HG := Lib.hid hg
  clear hh hb0 hmk hg
  go_loopg [6, 14] l.length (fun gk n i wr => ∃ (k c : Nat) (B : List Bool), k ≤ l.length ∧ l.length - k ≤ gk ∧ n = .int .i64 c ∧ i = .int .i64 k ∧ c ≤ k ∧ (c : Int) ≤ F ∧ Hid (Below W.heap.size W wr ∧ Has wr W.heap.size 24 #[.slice A0 l.length cap0, .int .i64 V, .int .i64 F] ∧ Has wr g 4 (bls B)) ∧ Hid (B.length = l.length ∧ cntT B l.length = c ∧ ∀ j, k ≤ j → j < l.length → B[j]? = some false))
  case atStart => exact ⟨0, 0, List.replicate l.length false, Nat.zero_le _, Nat.le_refl _, rfl, rfl, Nat.le_refl _, hF, HB.out, by simp, cntT_zero _ _, fun j _ hj => by simp [hj]⟩
  case round =>
    obtain ⟨k, c, B, hk, hgk, rfl, rfl, hck, hcF, HX, HP⟩ := hrel
    clear HB
    by_cases hlt : k < l.length
    · have hlt' : (k : Int) < l.length := by omega
      have v2 : wr.cell? ⟨W.heap.size, 2, none⟩ = some (.int .i64 F) := HX.out.2.1.cell 2
      have hcl := HX.out.2.1.lt
      have hgl := HX.out.2.2.lt
      have hgf := HX.out.2.2.frozen k
      have hc9 : wr.cell? ⟨g, k, none⟩ = some (.bool false) := by
        have h := HP.out.2.2 k (Nat.le_refl _) hlt
        rw [HX.out.2.2.cell, bls, List.getElem?_toArray, List.getElem?_map, h]; rfl
      have HN := Lib.hid (show Below W.heap.size W (wr.setCell ⟨g, k, none⟩ (.bool true)) ∧ Has (wr.setCell ⟨g, k, none⟩ (.bool true)) W.heap.size 24 #[.slice A0 l.length cap0, .int .i64 V, .int .i64 F] ∧ Has (wr.setCell ⟨g, k, none⟩ (.bool true)) g 4 (bls (B.set k true)) from
        ⟨HX.out.1.setCell (by have := HG.out; simp only; omega) _, HX.out.2.1.far (by have := HG.out; simp only; omega) _, by rw [← bls_set]; exact HX.out.2.2.set k _⟩)
      have HC := Lib.hid (cntT_set (HP.out.2.2 k (Nat.le_refl _) hlt) l.length)
      by_cases hn : (c : Int) < F
      · go_wp2_with fail
        · go_roundg (l.length - (k + 1))
          case measure => omega
          case rel => exact ⟨k + 1, c + 1, B.set k true, by omega, Nat.le_refl _, by go_num, by go_num, by omega, by omega, HN.out, by rw [List.length_set]; exact HP.out.1, by rw [HC.out, HP.out.2.1, if_pos hlt], fun j hj hjl => by rw [List.getElem?_set_ne (by omega)]; exact HP.out.2.2 j (by omega) hjl⟩
        · go_roundg (l.length - (k + 1))
          case measure => omega
          case rel => exact ⟨k + 1, c, B, by omega, Nat.le_refl _, rfl, by go_num, by omega, hcF, HX.out, HP.out.1, HP.out.2.1, fun j hj hjl => HP.out.2.2 j (by omega) hjl⟩
      · go_wp2_with fail
        all_goals
          go_roundg (l.length - (k + 1))
          case measure => omega
          case rel => exact ⟨k + 1, c, B, by omega, Nat.le_refl _, rfl, by go_num, by omega, hcF, HX.out, HP.out.1, HP.out.2.1, fun j hj hjl => HP.out.2.2 j (by omega) hjl⟩
    · have hlt' : ¬ (k : Int) < l.length := by omega
      go_wp2_with fail
      go_ret
      exact ⟨g, B, rfl, HX.out.1, by have := HG.out; omega, HX.out.2.2, HP.out.1, by rw [HP.out.2.1]; exact hcF⟩
end Go.Proofs.Ytfdjoldcdfbfhaa
