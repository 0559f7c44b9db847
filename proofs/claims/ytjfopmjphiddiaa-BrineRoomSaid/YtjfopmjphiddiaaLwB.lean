/- The law of Room. -/
import Derived.Test.YtjfopmjphiddiaaMgR
namespace Go.Proofs.Ytjfopmjphiddiaa
open Go.RowKit Go.Shelf
structure Bx (w W : World) (B0 B1 B2 : Nat) (comes needs : List Int) (start : Int) (A A' : Option Addr) (cap cap' : Nat) : Prop where
  bl : Below w.heap.size w W
  c : Has W B0 39 #[.slice A comes.length cap]
  n : Has W B1 39 #[.slice A' needs.length cap']
  s : Has W B2 3 #[.int .i64 start]
  rc : IRow W W.heap.size A comes
  rn : IRow W W.heap.size A' needs
theorem Bx.step {w W W' : World} {B0 B1 B2 : Nat} {comes needs : List Int} {start : Int} {A A' : Option Addr} {cap cap' : Nat} (h : Bx w W B0 B1 B2 comes needs start A A' cap cap') (hb : Below W.heap.size W W') : Bx w W' B0 B1 B2 comes needs start A A' cap cap' :=
  ⟨h.bl.trans (hb.mono h.bl.size), h.c.below hb h.c.lt, h.n.below hb h.n.lt, h.s.below hb h.s.lt, h.rc.step hb, h.rn.step hb⟩
theorem Bx.start (W : World) (comes needs : List Int) (start : Int) (A A' : Option Addr) (cap cap' : Nat) (hr : IRow W W.heap.size A comes) (hr' : IRow W W.heap.size A' needs) :
    Bx W (((W.alloc (.cells #[.slice A comes.length cap] 39)).alloc (.cells #[.slice A' needs.length cap'] 39)).alloc (.cells #[.int .i64 start] 3)) W.heap.size (W.heap.size + 1) (W.heap.size + 1 + 1) comes needs start A A' cap cap' := by
  have hb : Below W.heap.size W (((W.alloc (.cells #[.slice A comes.length cap] 39)).alloc (.cells #[.slice A' needs.length cap'] 39)).alloc (.cells #[.int .i64 start] 3)) :=
    ((below_one _ _).alloc (by simp) _).alloc (by simp; omega) _
  exact ⟨hb, ((Has.new _ _ _).alloc _).alloc _, (Has.newAt (by simp)).alloc _, Has.newAt (by simp), hr.step hb, hr'.step hb⟩
set_option maxRecDepth 100000 in
set_option maxHeartbeats 1000000 in
theorem buys_any (comes needs : List Int) (start room : Int) (A A' : Option Addr) (cap cap' B0 B1 B2 : Nat) (w W : World) (h : Bx w W B0 B1 B2 comes needs start A A' cap cap') (he : reErr comes needs start start = 0) (h0 : start ≤ room) (h2 : room ≤ 4294967296) :
    Calls Try.prog 30 #[.int .i64 room, .pointer (some ⟨B0, 0, none⟩), .pointer (some ⟨B1, 0, none⟩), .pointer (some ⟨B2, 0, none⟩)] W fun e W' => e = .returned (.int .i64 (buys comes needs start room)) ∧ Below W.heap.size W W' := by
  obtain ⟨s, hs, hl, hbd, hsum⟩ := reuse_all he h0 h2
  have hlen := (reErr_ok he).1
  have c0 : W.cell? ⟨B0, 0, none⟩ = some (.slice A comes.length cap) := h.c.cell 0
  have c1 : W.cell? ⟨B1, 0, none⟩ = some (.slice A' needs.length cap') := h.n.cell 0
  have c2 : W.cell? ⟨B2, 0, none⟩ = some (.int .i64 start) := h.s.cell 0
  have H := Lib.hid (And.intro h (And.intro hs (And.intro hsum hbd)))
  clear h hs hsum hbd he h0 h2
  go_enter Try.func30, Try.ntmps30
  go_wp2_with fail
  refine (reuse_any comes needs start room A A' cap cap' W H.out.1.rc H.out.1.rn (by omega)).mono ?_
  rw [H.out.2.1]
  rintro e w1 ⟨A1, cap1, rfl, hb, hI⟩
  have HI := Lib.hid (And.intro hb hI)
  clear hb hI c0 c1 c2
  go_wp2_with fail
  go_loopw [27, 10] (fun i t wr => ∃ k : Nat, k ≤ s.b.length ∧ i = .int .i64 k ∧ t = .int .i64 (sumI (s.b.take k)) ∧ wr = w1) (fun i _ _ => s.b.length - (intOf i).toNat)
  case atStart => exact ⟨0, Nat.zero_le _, rfl, rfl, rfl⟩
  case round =>
    obtain ⟨k, hk, rfl, rfl, rfl⟩ := hrel
    by_cases hlt : k < s.b.length
    · obtain ⟨g, o, eA, hg, d0⟩ := HI.out.2 k hlt
      have hlt' : (k : Int) < s.b.length := by omega
      subst eA
      have hbk := H.out.2.2.2 _ (List.getElem_mem hlt)
      have hsb := sumI_bd s.b k hk H.out.2.2.2
      have hw : IntKind.i64.wrap (sumI (s.b.take k) + s.b[k]) = sumI (s.b.take (k + 1)) := by
        rw [sumI_take s.b k hlt]
        exact IntWalk.i64_in _ (by omega)
      clear hbk hsb
      go_wp2_with fail
      go_roundw
      case rel => exact ⟨k + 1, by omega, by go_num, by first | rfl | (rw [← hw]; rfl), by first | rfl | trivial⟩
      case measure => simp [intOf]; omega
    · have hk' : ¬ (k : Int) < s.b.length := by omega
      have hke : k = s.b.length := by omega
      subst hke
      rw [List.take_length]
      go_wp2_with fail
      go_ret
      rw [← H.out.2.2.1]
      exact ⟨rfl, HI.out.1⟩
set_option maxRecDepth 100000 in
set_option maxHeartbeats 4000000 in
theorem roomLaw_any (comes needs : List Int) (start limit more : Int) (A A' : Option Addr) (cap cap' : Nat) (W : World) (hr : IRow W W.heap.size A comes) (hr' : IRow W W.heap.size A' needs) (hl : comes.length ≤ 9223372036854775807) (hl' : needs.length ≤ 9223372036854775807) (hm0 : 0 ≤ more) (hm1 : more ≤ 4294967295) :
    Calls Try.prog 10 #[.slice A comes.length cap, .slice A' needs.length cap', .int .i64 start, .int .i64 limit, .int .u32 more] W fun e W' => e = .returned (.bool true) ∧ Below W.heap.size W W' := by
  have H0 := Lib.hid (Bx.start W comes needs start A A' cap cap' hr hr')
  clear hr hr'
  by_cases hx : 60 < comes.length ∨ 210 < needs.length
  · have hex : ((60 : Int) < comes.length) ∨ (¬ (60 : Int) < comes.length ∧ (210 : Int) < needs.length) := by omega
    clear hx
    rcases hex with h1 | ⟨h1, h2⟩
    all_goals
      go_enter Try.func10, Try.ntmps10
      go_wp2_with fail
      refine (alive_any _).mono ?_
      rintro e wb ⟨rfl, hb⟩
      have HB := Lib.hid (H0.out.bl.trans (hb.mono H0.out.bl.size))
      clear hb
      go_wp2_with fail
      go_ret
      exact ⟨rfl, HB.out⟩
  have h1 : ¬ (60 : Int) < comes.length := by omega
  have h2 : ¬ (210 : Int) < needs.length := by omega
  clear hx
  have hmf : ∀ (fn : Fn) (first cap : Array Value) (w : World), (Instr.makeFunc fn first cap).run Try.prog w = .ok (.func fn first cap) w := fun _ _ _ _ => rfl
  have eg := fun args w => enters_of (P := Try.prog) Try.func30 (by kernel_rfl) rfl args w
  go_enter Try.func10, Try.ntmps10
  go_wp2_with fail
  refine (room_any comes needs start limit A A' cap cap' _ H0.out.rc H0.out.rn hl).mono ?_
  rintro e w1 ⟨n, c, rfl, hrm, hb1⟩
  have H1 := Lib.hid (H0.out.step hb1)
  clear hb1
  unfold RoomR at hrm
  split at hrm
  · obtain ⟨rfl, hc⟩ := hrm
    rename_i hne
    have hq0 : (c != 0) = true := by simp; omega
    have hq4 : (c != 4) = true := by
      simp only [bne_iff_ne, ne_eq]
      rw [hc]; unfold reErr; split
      · omega
      · split
        · omega
        · split <;> omega
    clear hc hne
    go_wp2_with fail
    refine (alive_any _).mono ?_
    rintro e wb ⟨rfl, hb⟩
    have HB := Lib.hid (H1.out.bl.trans (hb.mono H1.out.bl.size))
    clear hb
    go_wp2_with fail
    go_ret
    exact ⟨rfl, HB.out⟩
  rename_i hE
  have hE : reErr comes needs start start = 0 := by simpa using hE
  split at hrm
  · obtain ⟨rfl, rfl⟩ := hrm
    clear hE
    go_wp2_with fail
    refine (alive_any _).mono ?_
    rintro e wb ⟨rfl, hb⟩
    have HB := Lib.hid (H1.out.bl.trans (hb.mono H1.out.bl.size))
    clear hb
    go_wp2_with fail
    go_ret
    exact ⟨rfl, HB.out⟩
  have hst := (reErr_ok hE).2.2.2
  have hs0 := hst.1
  have hs1 := hst.2.2
  have HE := Lib.hid hE
  clear hE hst
  split at hrm
  · obtain ⟨rfl, rfl⟩ := hrm
    rename_i hnot hen
    have hgt : limit < buys comes needs start 4294967296 := by
      simp only [enoughB, decide_eq_false_iff_not] at hen; omega
    clear hen hnot
    have HBY := Lib.hid (fun (wx : World) hx => buys_any comes needs start 4294967296 A A' cap cap' W.heap.size (W.heap.size + 1) (W.heap.size + 1 + 1) W wx hx HE.out hs1 (by omega))
    obtain ⟨y, hy⟩ : ∃ y, y = buys comes needs start 4294967296 := ⟨_, rfl⟩
    rw [← hy] at HBY hgt
    clear hy
    go_wp2_with fail
    refine (HBY.out _ H1.out).mono ?_
    rintro e w2 ⟨rfl, hb2⟩
    have H2 := Lib.hid (H1.out.step hb2)
    clear hb2
    go_wp2_with fail
    refine (alive_any _).mono ?_
    rintro e wb ⟨rfl, hb⟩
    have HB := Lib.hid (H2.out.bl.trans (hb.mono H2.out.bl.size))
    clear hb
    go_wp2_with fail
    go_ret
    exact ⟨rfl, HB.out⟩
  obtain ⟨rfl, hL0, hL1, hL2, hL3⟩ := hrm
  rename_i hnot hen
  have hL2 : buys comes needs start n ≤ limit := by simpa [enoughB] using hL2
  have hL4 : start < n → limit < buys comes needs start (n - 1) := fun h => by
    have := hL3 h
    simp only [enoughB, decide_eq_false_iff_not] at this; omega
  clear hL3 hen hnot
  have hbn := buys_bd HE.out hL0 hL1
  obtain ⟨wide, hwide⟩ : ∃ wd, wd = min 4294967296 (n + more) := ⟨_, rfl⟩
  have hwd : n ≤ wide ∧ wide ≤ 4294967296 := by omega
  have hmo := buys_mono HE.out hL0 hwd.1 hwd.2
  have hbw := buys_bd HE.out (show start ≤ wide by omega) hwd.2
  have HBY := Lib.hid (fun (x : Int) (wx : World) hx h1 h2 => buys_any comes needs start x A A' cap cap' W.heap.size (W.heap.size + 1) (W.heap.size + 1 + 1) W wx hx HE.out h1 h2)
  have HBn := Lib.hid (fun (wx : World) hx => HBY.out n wx hx hL0 hL1)
  have HBw := Lib.hid (fun (wx : World) hx => HBY.out wide wx hx (by omega) hwd.2)
  obtain ⟨y, hy⟩ : ∃ y, y = buys comes needs start n := ⟨_, rfl⟩
  obtain ⟨z, hz⟩ : ∃ z, z = buys comes needs start wide := ⟨_, rfl⟩
  rw [← hy] at HBn hbn hmo hL2
  rw [← hz] at HBw hmo hbw
  have hwI : (if n + more < 4294967296 then n + more else 4294967296) = wide := by split <;> omega
  have c2 : w1.cell? ⟨W.heap.size + 1 + 1, 0, none⟩ = some (.int .i64 start) := H1.out.s.cell 0
  clear hy hz hwide
  have hk0 : decide (n < start) = false := by simp; omega
  by_cases hns : start < n
  · have HBm := Lib.hid (fun (wx : World) hx => HBY.out (n - 1) wx hx (by omega) (by omega))
    have hL5 := hL4 hns
    obtain ⟨x, hx⟩ : ∃ x, x = buys comes needs start (n - 1) := ⟨_, rfl⟩
    rw [← hx] at HBm hL5
    clear hx hL4 HBY
    go_wp2_with fail
    refine (HBn.out _ H1.out).mono ?_
    rintro e w2 ⟨rfl, hb2⟩
    have H2 := Lib.hid (H1.out.step hb2)
    have c2 : w2.cell? ⟨W.heap.size + 1 + 1, 0, none⟩ = some (.int .i64 start) := H2.out.s.cell 0
    clear hb2
    go_wp2_with fail
    refine (HBn.out _ H2.out).mono ?_
    rintro e w3 ⟨rfl, hb3⟩
    have H3 := Lib.hid (H2.out.step hb3)
    have c2 : w3.cell? ⟨W.heap.size + 1 + 1, 0, none⟩ = some (.int .i64 start) := H3.out.s.cell 0
    clear hb3
    go_wp2_with fail
    refine (HBm.out _ H3.out).mono ?_
    rintro e w4 ⟨rfl, hb4⟩
    have H4 := Lib.hid (H3.out.step hb4)
    clear hb4
    go_wp2_with fail
    refine (HBw.out _ H4.out).mono ?_
    rintro e w5 ⟨rfl, hb5⟩
    have H5 := Lib.hid (H4.out.step hb5)
    clear hb5
    go_wp2_with fail
    refine (HBw.out _ H5.out).mono ?_
    rintro e w6 ⟨rfl, hb6⟩
    have H6 := Lib.hid (H5.out.step hb6)
    clear hb6
    go_wp2_with fail
    refine (HBn.out _ H6.out).mono ?_
    rintro e w7 ⟨rfl, hb7⟩
    have H7 := Lib.hid (H6.out.step hb7)
    clear hb7
    go_wp2_with fail
    refine (alive_any _).mono ?_
    rintro e wb ⟨rfl, hb⟩
    have HB := Lib.hid (H7.out.bl.trans (hb.mono H7.out.bl.size))
    clear hb
    go_wp2_with fail
    go_ret
    exact ⟨rfl, HB.out⟩
  · obtain rfl : n = start := by omega
    clear hL4 HBY hk0 hns hL0
    have hird : decide (n < n) = false := by simp
    go_wp2_with fail
    refine (HBn.out _ H1.out).mono ?_
    rintro e w2 ⟨rfl, hb2⟩
    have H2 := Lib.hid (H1.out.step hb2)
    have c2 : w2.cell? ⟨W.heap.size + 1 + 1, 0, none⟩ = some (.int .i64 n) := H2.out.s.cell 0
    clear hb2
    go_wp2_with fail
    refine (HBn.out _ H2.out).mono ?_
    rintro e w4 ⟨rfl, hb3⟩
    have H4 := Lib.hid (H2.out.step hb3)
    have c2 : w4.cell? ⟨W.heap.size + 1 + 1, 0, none⟩ = some (.int .i64 n) := H4.out.s.cell 0
    clear hb3
    go_wp2_with fail
    refine (HBw.out _ H4.out).mono ?_
    rintro e w5 ⟨rfl, hb5⟩
    have H5 := Lib.hid (H4.out.step hb5)
    clear hb5
    go_wp2_with fail
    refine (HBw.out _ H5.out).mono ?_
    rintro e w6 ⟨rfl, hb6⟩
    have H6 := Lib.hid (H5.out.step hb6)
    clear hb6
    go_wp2_with fail
    refine (HBn.out _ H6.out).mono ?_
    rintro e w7 ⟨rfl, hb7⟩
    have H7 := Lib.hid (H6.out.step hb7)
    clear hb7
    go_wp2_with fail
    refine (alive_any _).mono ?_
    rintro e wb ⟨rfl, hb⟩
    have HB := Lib.hid (H7.out.bl.trans (hb.mono H7.out.bl.size))
    clear hb
    go_wp2_with fail
    go_ret
    exact ⟨rfl, HB.out⟩
end Go.Proofs.Ytjfopmjphiddiaa
