/- Contracts of learn and rink. -/
import Derived.Test.YtogabjlhecnbbaaIceQb
import Derived.Laws.MakeOwn
import Derived.OwnWalk
namespace Go.Proofs.Ytogabjlhecnbbaa
open Go.RowKit Go.Shelf
abbrev z0 : Zn := ⟨0, 0, 0, 0⟩
theorem made_flat (n : Nat) : madeCells #[iv 0, iv 0, iv 0, iv 0] (n * 4) = flat (List.replicate n z0) := by
  apply Array.ext_getElem?
  intro m
  unfold madeCells
  by_cases hm : m < n * 4
  · have hd : m / 4 * 4 + m % 4 = m := by omega
    have h1 := flat_get (List.replicate n z0) (m / 4) (by simp; omega) (m % 4) (by omega)
    rw [hd] at h1
    rw [h1]
    have hr : m % 4 = 0 ∨ m % 4 = 1 ∨ m % 4 = 2 ∨ m % 4 = 3 := by omega
    rcases hr with e | e | e | e <;> simp [e, hm]
  · rw [Array.getElem?_eq_none (by simp; omega), Array.getElem?_eq_none (by rw [flat_size]; simp; omega)]
theorem Try.info104 : (Try.prog.info? 104).map (fun i => (i.zero, i.size, i.bytes)) = some (some (.agg #[iv 0, iv 0, iv 0, iv 0]), 4, 32) := by kernel_rfl
theorem Try.info60 : (Try.prog.info? 60).map (fun i => (i.zero, i.size, i.bytes)) = some (some (.agg #[iv 0, iv 0, iv 0, iv 0]), 4, 32) := by kernel_rfl
theorem make_zones (n : Nat) (hn : n ≤ 1000000) (w : World) : (Instr.makeSlice 81 (.int .i64 n) (.int .i64 n)).run Try.prog w = .ok (.slice (some ⟨w.heap.size, 0, none⟩) n n) (w.alloc (.cells (flat (List.replicate n z0)) 104)) := by
  obtain ⟨i, hi, hz0, hz1, hz2⟩ := info_parts Try.info104
  have := run_make (P := Try.prog) w 81 104 i _ Try.underlying81 hi hz0 .i64 .i64 n n (by omega) (by omega) (by rw [hz2]; omega) (by omega)
  rw [this, hz1]
  simp only [Int.toNat_natCast]
  rw [← made_flat]; rfl
theorem make_rink (n : Nat) (hn : n ≤ 1000000) (w : World) : (Instr.makeSlice 22 (.int .i64 n) (.int .i64 n)).run Try.prog w = .ok (.slice (some ⟨w.heap.size, 0, none⟩) n n) (w.alloc (.cells (flat (List.replicate n z0)) 60)) := by
  obtain ⟨i, hi, hz0, hz1, hz2⟩ := info_parts Try.info60
  have := run_make (P := Try.prog) w 22 60 i _ Try.underlying22 hi hz0 .i64 .i64 n n (by omega) (by omega) (by rw [hz2]; omega) (by omega)
  rw [this, hz1]
  simp only [Int.toNat_natCast]
  rw [← made_flat]; rfl
/-- zones, the first k of them laid -/
def laid (zs : List Zn) (k : Nat) : List Zn := zs.take k ++ List.replicate (zs.length - k) z0
theorem laid_length {zs : List Zn} {k : Nat} (h : k ≤ zs.length) : (laid zs k).length = zs.length := by simp [laid]; omega
theorem laid_set {zs : List Zn} {k : Nat} (h : k < zs.length) : (laid zs k).set k zs[k] = laid zs (k + 1) := by
  unfold laid
  apply List.ext_getElem
  · simp; omega
  · intro i h1 h2
    rw [List.getElem_set]
    by_cases e : k = i
    · subst e
      rw [if_pos rfl, List.getElem_append_left (by simp; omega)]
      simp
    · rw [if_neg e]
      by_cases hi : i < k
      · rw [List.getElem_append_left (by simp; omega), List.getElem_append_left (by simp; omega)]
        simp
      · rw [List.getElem_append_right (by simp; omega), List.getElem_append_right (by simp; omega)]
        simp
theorem laid_all (zs : List Zn) : laid zs zs.length = zs := by simp [laid]
theorem laid_none (zs : List Zn) : laid zs 0 = List.replicate zs.length z0 := by simp [laid]

set_option maxHeartbeats 1000000 in
theorem learn_any (zs : List Zn) (A : Option Addr) (cap : Nat) (w : World) (hz : ZRow w w.heap.size A zs) (hl : zs.length ≤ 24) :
    Calls Try.prog 38 #[.slice A zs.length cap] w fun e w' => e = .returned (.pointer (some ⟨w.heap.size + 1, 0, none⟩)) ∧ Below w.heap.size w w' ∧ KIn w' (w.heap.size + 1) w.heap.size zs Sm.zero := by
  have hmk := fun w => make_zones zs.length (by omega) w
  go_enter Try.func38, Try.ntmps38
  go_wp2
  clear hmk
  go_loopw [13] (fun t wr => ∃ k : Nat, k ≤ zs.length ∧ t = .int .i64 k ∧ Below w.heap.size w wr ∧ Has wr w.heap.size 104 (flat (laid zs k)) ∧ Has wr (w.heap.size + 1) 83 (kcells w.heap.size zs.length Sm.zero)) (fun t _ => zs.length - (intOf t).toNat)
  case atStart =>
    refine ⟨0, Nat.zero_le _, rfl, ?_, ?_, ?_⟩
    · exact (below1 _ _).alloc (by simp) _
    · rw [laid_none]; exact (Has.new _ _ _).alloc _
    · have := Has.new (w.alloc (.cells (flat (List.replicate zs.length z0)) 104)) 83 (kcells w.heap.size zs.length Sm.zero)
      rwa [World.size_alloc] at this
  case round =>
    obtain ⟨k, hk, rfl, hb, hZ, hK⟩ := hrel
    by_cases hlt : k < zs.length
    · obtain ⟨g, o, rfl, hg, c0, c1, c2, c3⟩ := hz k hlt
      rw [← hb.cell (p := ⟨g, _, none⟩) hg] at c0 c1 c2 c3
      have hgr : g < wr.heap.size := Nat.lt_of_lt_of_le hg hb.size
      have hkl : k < (laid zs k).length := by rw [laid_length hk]; exact hlt
      obtain ⟨z0, z1, z2, z3⟩ := flat_at hkl
      have hw1 := hZ.lt
      have hw2 := hK.lt
      have hw1' : w.heap.size < wr.heap.size + 1 := by omega
      have hw2' : w.heap.size + 1 < wr.heap.size + 1 := by omega
      have d0 : wr.cell? ⟨w.heap.size, k * 4, none⟩ = some (iv (laid zs k)[k].a) := (hZ.cell _).trans z0
      have d1 : wr.cell? ⟨w.heap.size, k * 4 + 1, none⟩ = some (iv (laid zs k)[k].b) := (hZ.cell _).trans z1
      have d2 : wr.cell? ⟨w.heap.size, k * 4 + 2, none⟩ = some (iv (laid zs k)[k].c) := (hZ.cell _).trans z2
      have d3 : wr.cell? ⟨w.heap.size, k * 4 + 3, none⟩ = some (iv (laid zs k)[k].d) := (hZ.cell _).trans z3
      have f0 := hZ.frozen (k * 4)
      have f1 := hZ.frozen (k * 4 + 1)
      have f2 := hZ.frozen (k * 4 + 2)
      have f3 := hZ.frozen (k * 4 + 3)
      have kc : wr.cell? ⟨w.heap.size + 1, 0, none⟩ = some (.slice (some ⟨w.heap.size, 0, none⟩) zs.length zs.length) := hK.cell 0
      have hkI : (k : Int) < zs.length := by omega
      clear z0 z1 z2 z3
      have HZ := Lib.hid (And.intro hZ hK)
      clear hZ hK
      go_wp2
      go_region
      go_wp2
      go_roundw
      case rel =>
        refine ⟨k + 1, by omega, by go_num, ?_, ?_, ?_⟩
        · exact (((((hb.setCell (p := ⟨w.heap.size, k * 4, none⟩) (Nat.le_refl _) _).setCell (p := ⟨w.heap.size, k * 4 + 1, none⟩) (Nat.le_refl _) _).setCell (p := ⟨w.heap.size, k * 4 + 2, none⟩) (Nat.le_refl _) _).setCell (p := ⟨w.heap.size, k * 4 + 3, none⟩) (Nat.le_refl _) _).alloc (by simp; exact hb.size) _).drew
        · rw [← laid_set hlt, flat_set _ _ _ hkl]
          exact ((((HZ.out.1.set _ _).set _ _).set _ _).set _ _).alloc _
        · exact ((((HZ.out.2.far (by simp) _).far (by simp) _).far (by simp) _).far (by simp) _).alloc _
      case measure => simp [intOf]; omega
    · have HE : Hid (zs = laid zs k) := by show _ = _; rw [show k = zs.length by omega, laid_all]
      go_wp2
      go_ret
      exact ⟨rfl, hb, ⟨hK, by rw [HE.out]; exact hZ, by omega⟩⟩

set_option maxHeartbeats 1000000 in
theorem rink_any (Bk Bz : Nat) (zs : List Zn) (s : Sm) (w : World) (h : KIn w Bk Bz zs s) (hl : zs.length ≤ 24) :
    Calls Try.prog 40 #[.pointer (some ⟨Bk, 0, none⟩)] w fun e w' => e = .returned (.slice (some ⟨w.heap.size, 0, none⟩) zs.length zs.length) ∧ Below w.heap.size w w' ∧ Has w' w.heap.size 60 (flat zs) := by
  have hmk := fun w => make_rink zs.length (by omega) w
  have kc : w.cell? ⟨Bk, 0, none⟩ = some (.slice (some ⟨Bz, 0, none⟩) zs.length zs.length) := h.k.cell 0
  have hkl := h.k.lt
  have hzl := h.z.lt
  have H := Lib.hid h
  clear h
  go_enter Try.func40, Try.ntmps40
  go_wp2
  clear hmk kc
  go_loopw [17] (fun t wr => ∃ k : Nat, k ≤ zs.length ∧ t = .int .i64 k ∧ Below w.heap.size w wr ∧ Has wr w.heap.size 60 (flat (laid zs k))) (fun t _ => zs.length - (intOf t).toNat)
  case atStart =>
    refine ⟨0, Nat.zero_le _, rfl, ?_, ?_⟩
    · exact (below1 _ _)
    · rw [laid_none]; exact (Has.new _ _ _)
  case round =>
    obtain ⟨k, hk, rfl, hb, hZ⟩ := hrel
    by_cases hlt : k < zs.length
    · obtain ⟨y0, y1, y2, y3⟩ := flat_at hlt
      have hS := H.out.z.below hb hzl
      have c0 : wr.cell? ⟨Bz, k * 4, none⟩ = some (iv zs[k].a) := (hS.cell _).trans y0
      have c1 : wr.cell? ⟨Bz, k * 4 + 1, none⟩ = some (iv zs[k].b) := (hS.cell _).trans y1
      have c2 : wr.cell? ⟨Bz, k * 4 + 2, none⟩ = some (iv zs[k].c) := (hS.cell _).trans y2
      have c3 : wr.cell? ⟨Bz, k * 4 + 3, none⟩ = some (iv zs[k].d) := (hS.cell _).trans y3
      have hkl : k < (laid zs k).length := by rw [laid_length hk]; exact hlt
      obtain ⟨z0, z1, z2, z3⟩ := flat_at hkl
      have hw1 := hZ.lt
      have hw1' : w.heap.size < wr.heap.size + 1 := by omega
      have hzr : Bz < wr.heap.size := by omega
      have d0 : wr.cell? ⟨w.heap.size, k * 4, none⟩ = some (iv (laid zs k)[k].a) := (hZ.cell _).trans z0
      have d1 : wr.cell? ⟨w.heap.size, k * 4 + 1, none⟩ = some (iv (laid zs k)[k].b) := (hZ.cell _).trans z1
      have d2 : wr.cell? ⟨w.heap.size, k * 4 + 2, none⟩ = some (iv (laid zs k)[k].c) := (hZ.cell _).trans z2
      have d3 : wr.cell? ⟨w.heap.size, k * 4 + 3, none⟩ = some (iv (laid zs k)[k].d) := (hZ.cell _).trans z3
      have f0 := hZ.frozen (k * 4)
      have f1 := hZ.frozen (k * 4 + 1)
      have f2 := hZ.frozen (k * 4 + 2)
      have f3 := hZ.frozen (k * 4 + 3)
      have hkI : (k : Int) < zs.length := by omega
      clear z0 z1 z2 z3 y0 y1 y2 y3 hS
      have HZ := Lib.hid hZ
      clear hZ
      go_wp2
      go_roundw
      case rel =>
        refine ⟨k + 1, by omega, by go_num, ?_, ?_⟩
        · exact (((((hb.setCell (p := ⟨w.heap.size, k * 4, none⟩) (Nat.le_refl _) _).setCell (p := ⟨w.heap.size, k * 4 + 1, none⟩) (Nat.le_refl _) _).setCell (p := ⟨w.heap.size, k * 4 + 2, none⟩) (Nat.le_refl _) _).setCell (p := ⟨w.heap.size, k * 4 + 3, none⟩) (Nat.le_refl _) _).alloc (by simp; exact hb.size) _)
        · rw [← laid_set hlt, flat_set _ _ _ hkl]
          exact ((((HZ.out.set _ _).set _ _).set _ _).set _ _).alloc _
      case measure => simp [intOf]; omega
    · have HE : Hid (zs = laid zs k) := by show _ = _; rw [show k = zs.length by omega, laid_all]
      go_wp2
      go_ret
      exact ⟨rfl, hb, by rw [HE.out]; exact hZ⟩
end Go.Proofs.Ytogabjlhecnbbaa
