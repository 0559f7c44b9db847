/- Contracts: sum, comes. -/
import Derived.Test.YtdmpkeaanaoeaaaAirF
import Derived.Deep.RegionHeld3
namespace Go.Proofs.Ytdmpkeaanaoeaaa
open Go.RowKit
def SpanPost (lo hi : Int) (W : World) (e : Ending) (W' : World) : Prop := e = .returned (.agg #[.int .i64 lo, .int .i64 hi]) ∧ Below W.heap.size W W'
/-- a row of spans that lies below B -/
def PRow (w : World) (B : Nat) (A : Option Addr) (l : List (Int × Int)) : Prop :=
  ∀ k (h : k < l.length), ∃ g o, A = some ⟨g, o, none⟩ ∧ g < B ∧ w.cell? ⟨g, o + k * 2, none⟩ = some (.int .i64 l[k].1) ∧ w.cell? ⟨g, o + k * 2 + 1, none⟩ = some (.int .i64 l[k].2)
theorem PRow.below {w w' : World} {B : Nat} {A : Option Addr} {l : List (Int × Int)} (h : PRow w B A l) (hb : Below B w w') : PRow w' B A l := fun k hk => by
  obtain ⟨g, o, e, hg, c, d⟩ := h k hk
  exact ⟨g, o, e, hg, (hb.cell (p := ⟨g, _, none⟩) hg).trans c, (hb.cell (p := ⟨g, _, none⟩) hg).trans d⟩
def sum0 (l : List (Int × Int)) (k : Nat) : Int := ((l.take k).map (·.1)).sum
def sum1 (l : List (Int × Int)) (k : Nat) : Int := ((l.take k).map (·.2)).sum
theorem sum0_succ {l : List (Int × Int)} {k : Nat} (h : k < l.length) : sum0 l (k + 1) = sum0 l k + l[k].1 := by
  unfold sum0; rw [List.take_succ_eq_append_getElem h, List.map_append, List.sum_append]; show _ + (l[k].1 + 0) = _; rw [Int.add_zero]
theorem sum1_succ {l : List (Int × Int)} {k : Nat} (h : k < l.length) : sum1 l (k + 1) = sum1 l k + l[k].2 := by
  unfold sum1; rw [List.take_succ_eq_append_getElem h, List.map_append, List.sum_append]; show _ + (l[k].2 + 0) = _; rw [Int.add_zero]
theorem sums_bd {l : List (Int × Int)} (hl : ∀ p ∈ l, (0 ≤ p.1 ∧ p.1 ≤ 274877906944) ∧ (0 ≤ p.2 ∧ p.2 ≤ 274877906944)) : ∀ k, k ≤ l.length → (0 ≤ sum0 l k ∧ sum0 l k ≤ k * 274877906944) ∧ (0 ≤ sum1 l k ∧ sum1 l k ≤ k * 274877906944)
  | 0, _ => by simp [sum0, sum1]
  | k + 1, hk => by
    have ih := sums_bd hl k (by omega)
    have := hl _ (List.getElem_mem (show k < l.length by omega))
    rw [sum0_succ (show k < l.length by omega), sum1_succ (show k < l.length by omega)]
    omega
set_option maxRecDepth 100000 in
set_option maxHeartbeats 2000000 in
theorem sum_any (l : List (Int × Int)) (A : Option Addr) (ca : Nat) (W : World) (hr : PRow W W.heap.size A l) (hn : l.length ≤ 3) (hl : ∀ p ∈ l, (0 ≤ p.1 ∧ p.1 ≤ 274877906944) ∧ (0 ≤ p.2 ∧ p.2 ≤ 274877906944)) :
    Calls Try.prog 70 #[.slice A l.length ca] W (SpanPost (sum0 l l.length) (sum1 l l.length) W) := by
  have HR := Lib.hid (And.intro hr hl)
  clear hr hl
  go_enter Try.func70, Try.ntmps70
  go_wp2
  have hA := Has.new (W.alloc (.cells #[.int .i64 0, .int .i64 0] 24)) 24 #[.int .i64 0, .int .i64 0]
  simp only [World.size_alloc] at hA
  have h0 := (Has.new W 24 #[.int .i64 0, .int .i64 0]).alloc (.cells #[.int .i64 0, .int .i64 0] 24)
  have hb := (below_one W (.cells #[.int .i64 0, .int .i64 0] 24)).alloc (Nat.le_of_lt (by simp)) (.cells #[.int .i64 0, .int .i64 0] 24)
  have hsz : W.heap.size + 1 < ((W.alloc (.cells #[.int .i64 0, .int .i64 0] 24)).alloc (.cells #[.int .i64 0, .int .i64 0] 24)).heap.size := by simp
  generalize (W.alloc (.cells #[.int .i64 0, .int .i64 0] 24)).alloc (.cells #[.int .i64 0, .int .i64 0] 24) = w0 at hA h0 hb hsz ⊢
  have H0 := Lib.hid (And.intro hA (And.intro h0 hb))
  clear hA h0 hb
  go_loopg [8] l.length (fun gk i wr => ∃ k : Nat, k ≤ l.length ∧ l.length - k ≤ gk ∧ i = .int .i64 k ∧ Hid (Below W.heap.size W wr) ∧ Hid (Has wr (W.heap.size + 1) 24 #[.int .i64 (sum0 l k), .int .i64 (sum1 l k)] ∧ Has wr W.heap.size 24 #[.int .i64 0, .int .i64 0]))
  case atStart => exact ⟨0, Nat.zero_le _, Nat.le_refl _, rfl, H0.out.2.2, H0.out.1, H0.out.2.1⟩
  case round =>
    obtain ⟨k, hk, hgk, rfl, HW, HS⟩ := hrel
    have c0 : wr.cell? ⟨W.heap.size + 1, 0, none⟩ = some (.int .i64 (sum0 l k)) := HS.out.1.cell 0
    have c1 : wr.cell? ⟨W.heap.size + 1, 1, none⟩ = some (.int .i64 (sum1 l k)) := HS.out.1.cell 1
    have hz := HS.out.1.frozen
    have hlt1 := HS.out.1.lt
    by_cases hlt : k < l.length
    · have hlt' : (k : Int) < l.length := by omega
      obtain ⟨g, o, rfl, hg, d0, d1⟩ := HR.out.1.below HW.out k hlt
      have hg' : g < wr.heap.size := by omega
      have hb0 := sums_bd HR.out.2 k hk
      have hb1 := sums_bd HR.out.2 (k + 1) (by omega)
      have e0 := sum0_succ hlt
      have e1 := sum1_succ hlt
      rw [e0, e1] at hb1
      have HE := Lib.hid (And.intro e0 e1)
      have hv := HR.out.2 _ (List.getElem_mem hlt)
      obtain ⟨x, hx⟩ : ∃ x, x = l[k].1 := ⟨_, rfl⟩
      obtain ⟨y, hy⟩ : ∃ y, y = l[k].2 := ⟨_, rfl⟩
      rw [← hx] at d0 hb1 HE hv
      rw [← hy] at d1 hb1 HE hv
      obtain ⟨p, hp⟩ : ∃ p, p = sum0 l k := ⟨_, rfl⟩
      obtain ⟨q, hq⟩ : ∃ q, q = sum1 l k := ⟨_, rfl⟩
      rw [← hp] at c0 hb0 hb1 HE HS
      rw [← hq] at c1 hb0 hb1 HE HS
      clear e0 e1 hx hy hp hq
      push_cast at hb1
      go_wp2
      go_roundg (l.length - (k + 1))
      case measure => omega
      case rel =>
        refine ⟨k + 1, by omega, Nat.le_refl _, by go_num, ?_, ?_, ?_⟩
        · exact ((HW.out.setCell (by simp only; omega) _).setCell (by simp only; omega) _).alloc (by simp; omega) _
        · rw [HE.out.1, HE.out.2]
          exact (((HS.out.1.set 0 _).set 1 _).alloc _)
        · exact ((HS.out.2.far (by simp) _).far (by simp) _).alloc _
    · have hge : ¬ (k : Int) < l.length := by omega
      have hk' : k = l.length := by omega
      have HK := Lib.hid hk'
      have f0 := HS.out.2.frozen
      have l0 := HS.out.2.lt
      have r0 : wr.cell? ⟨W.heap.size, 0, none⟩ = some (.int .i64 0) := HS.out.2.cell 0
      have r1 : wr.cell? ⟨W.heap.size, 1, none⟩ = some (.int .i64 0) := HS.out.2.cell 1
      obtain ⟨p, hp⟩ : ∃ p, p = sum0 l k := ⟨_, rfl⟩
      obtain ⟨q, hq⟩ : ∃ q, q = sum1 l k := ⟨_, rfl⟩
      rw [← hp] at c0
      rw [← hq] at c1
      have HE := Lib.hid (And.intro hp hq)
      clear hk' hp hq
      go_wp2
      have hs2 := (HS.out.2.set 0 (.int .i64 p)).set 1 (.int .i64 q)
      have hbw := (HW.out.setCell (p := ⟨W.heap.size, 0, none⟩) (by simp) (.int .i64 p)).setCell (p := ⟨W.heap.size, 1, none⟩) (by simp) (.int .i64 q)
      generalize (wr.setCell ⟨W.heap.size, 0, none⟩ (.int .i64 p)).setCell ⟨W.heap.size, 1, none⟩ (.int .i64 q) = w9 at hs2 hbw ⊢
      have q0 := hs2.cell 0
      have q1 := hs2.cell 1
      simp at q0 q1
      refine bodyPost_ret (v := .agg #[.int .i64 p, .int .i64 q]) (by simp [results, Try.results70, go_sem, q0, q1]) rfl ?_
      exact ⟨by rw [HE.out.1, HE.out.2, HK.out], hbw⟩
end Go.Proofs.Ytdmpkeaanaoeaaa
