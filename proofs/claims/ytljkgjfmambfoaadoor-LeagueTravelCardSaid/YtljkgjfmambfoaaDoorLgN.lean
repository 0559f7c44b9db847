/- Contracts: amongSame: Clone and DeleteFunc at games. -/
import Derived.Test.YtljkgjfmambfoaaDoorLgG
import Derived.Test.YtljkgjfmambfoaaDoorLgJ
import Derived.Test.YtljkgjfmambfoaaDoorRow
import Derived.Lib.SliceRun
namespace Go.Proofs.YtljkgjfmambfoaaDoor
open Go.RowKit Go.Shelf
attribute [local irreducible] wpQuiet
/-- not among those of the same points -/
def pdB (P : Pt) (g : Gm) : Bool := !decide (P.getD g.home.toNat 0 = P.getD g.away.toNat 0)
theorem same_eq (G : List Gm) (P : Pt) : sameG G P = G.filter fun g => !pdB P g := by
  unfold sameG pdB
  congr 1
  funext g
  simp
set_option maxRecDepth 100000 in
set_option maxHeartbeats 1000000 in
theorem differ_any (v : Gm) (P : Pt) (Bp : Nat) (W : World) (hp : Has W Bp 77 (ptc P)) (hg : okG v) :
    Calls Tryd.prog 73 #[gmv v, .pointer (some ⟨Bp, 0, none⟩)] W (BoolPost (pdB P v) W) := by
  have HB := Lib.hid (And.intro (below_one W (.cells (gmc v) 53)) (And.intro (Has.new W 53 (gmc v)) (hp.alloc (.cells (gmc v) 53))))
  obtain ⟨⟨h1, h2⟩, h3, h4⟩ := hg
  obtain ⟨h, hh⟩ : ∃ h : Nat, v.home = h := ⟨v.home.toNat, by omega⟩
  obtain ⟨a, ha⟩ : ∃ a : Nat, v.away = a := ⟨v.away.toNat, by omega⟩
  have hh6 : h < 6 := by omega
  have ha6 : a < 6 := by omega
  have hh7 : (h : Int) < 6 := by omega
  have ha7 : (a : Int) < 6 := by omega
  have HE : Hid (pdB P v = !decide (P.getD h 0 = P.getD a 0)) := Lib.hid (by unfold pdB; rw [hh, ha]; rfl)
  have HHA := Lib.hid (And.intro hh ha)
  obtain ⟨X, hX⟩ : ∃ X, X = pdB P v := ⟨_, rfl⟩
  obtain ⟨c, hc⟩ : ∃ c, c = P.getD h 0 := ⟨_, rfl⟩
  obtain ⟨d, hd⟩ : ∃ d, d = P.getD a 0 := ⟨_, rfl⟩
  rw [← hX, ← hc, ← hd] at HE
  rw [← hX]
  have HCD := Lib.hid (And.intro hc hd)
  clear hp h1 h2 h3 h4 hh ha hX hc hd
  unfold gmv
  go_enter Tryd.func73, Tryd.ntmps73
  go_upto_region 1 with fail
  generalize W.alloc (.cells (gmc v) 53) = w9 at HB ⊢
  have y1 : w9.cell? ⟨W.heap.size, 1, none⟩ = some (.int .i64 (h : Int)) := by rw [← HHA.out.1]; exact HB.out.2.1.cell 1
  have y2 : w9.cell? ⟨W.heap.size, 2, none⟩ = some (.int .i64 (a : Int)) := by rw [← HHA.out.2]; exact HB.out.2.1.cell 2
  have p1 : w9.cell? ⟨Bp, h, none⟩ = some (.int .i64 c) := by rw [HCD.out.1]; exact (HB.out.2.2.cell h).trans (ptc_at hh6)
  have p2 : w9.cell? ⟨Bp, a, none⟩ = some (.int .i64 d) := by rw [HCD.out.2]; exact (HB.out.2.2.cell a).trans (ptc_at ha6)
  by_cases hcd : c = d
  · have hb : (c != d) = false := by simpa using hcd
    have HX : Hid (X = false) := Lib.hid (by rw [HE.out]; simpa using hcd)
    clear HE hcd
    go_quiet (fail)
    go_wp2_with fail
    go_ret
    exact ⟨ret_bool HX.out.symm, below_drN HB.out.1 _⟩
  · have hb : (c != d) = true := by simpa using hcd
    have HX : Hid (X = true) := Lib.hid (by rw [HE.out]; simpa using hcd)
    clear HE hcd
    go_quiet (fail)
    go_wp2_with fail
    go_ret
    exact ⟨ret_bool HX.out.symm, below_drN HB.out.1 _⟩
/-- the first one that is to go -/
def IdxPost (P : Pt) (G : List Gm) (W : World) (e : Ending) (W' : World) : Prop :=
  ∃ r : Int, e = .returned (.int .i64 r) ∧ ((r = -1 ∧ ∀ j (h : j < G.length), pdB P G[j] = false) ∨ ∃ i : Nat, r = i ∧ ∃ h : i < G.length, pdB P G[i] = true ∧ ∀ j (h : j < i), pdB P G[j] = false) ∧ Below W.heap.size W W'
set_option maxRecDepth 100000 in
set_option maxHeartbeats 1000000 in
theorem indexFunc_any (G : List Gm) (A : Option Addr) (c : Nat) (P : Pt) (Bp : Nat) (W : World) (hr : GRow W W.heap.size A G) (hp : Has W Bp 77 (ptc P)) (hG : ∀ g ∈ G, okG g) (hl : G.length ≤ 64) :
    Calls Tryd.prog 89 #[.slice A G.length c, .func (.func 73) #[] #[.pointer (some ⟨Bp, 0, none⟩)]] W (IdxPost P G W) := by
  have HR := Lib.hid (And.intro hr hp)
  have HD := Lib.hid (fun v w (h : Has w Bp 77 (ptc P)) (hv : okG v) => differ_any v P Bp w h hv)
  have HG := Lib.hid hG
  clear hr hp hG
  go_enter Tryd.func89, Tryd.ntmps89
  go_wp2_with fail
  go_loopg [8] G.length (fun gk i wr => ∃ k : Nat, k ≤ G.length ∧ G.length - k ≤ gk ∧ i = .int .i64 k ∧ Hid (Below W.heap.size W wr ∧ ∀ j (h : j < G.length), j < k → pdB P G[j] = false))
  case atStart => exact ⟨0, Nat.zero_le _, Nat.le_refl _, rfl, Lib.hid ⟨Below.refl _ _, fun j _ h => absurd h (by omega)⟩⟩
  case round =>
    obtain ⟨k, hk, hgk, rfl, HW⟩ := hrel
    by_cases hlt : k < G.length
    rotate_left
    · have hge : ¬ (k : Int) < G.length := by omega
      go_wp2_with fail
      go_ret
      exact ⟨-1, rfl, .inl ⟨rfl, fun j h => HW.out.2 j h (by omega)⟩, HW.out.1⟩
    have hlt2 : (k : Int) < G.length := by omega
    obtain ⟨B, o, hg, hgs, hc0⟩ := HR.out.1 k hlt
    have hc := fun j hj => ((HW.out.1.cell (p := ⟨B, o + k * 6 + j, none⟩) hgs).trans (hc0 j hj))
    obtain ⟨g, hb⟩ : ∃ g, g = G[k] := ⟨_, rfl⟩
    rw [← hb] at hc
    have HGk : Hid (okG g) := Lib.hid (by rw [hb]; exact HG.out _ (List.getElem_mem hlt))
    have HDk := Lib.hid (HD.out g wr (HR.out.2.below HW.out.1 HR.out.2.lt) HGk.out)
    have HBE := Lib.hid hb
    have c0 : wr.cell? ⟨B, o + k * 6, none⟩ = some (.int .i64 g.day) := hc 0 (by omega)
    have c1 : wr.cell? ⟨B, o + k * 6 + 1, none⟩ = some (.int .i64 g.home) := hc 1 (by omega)
    have c2 : wr.cell? ⟨B, o + k * 6 + 2, none⟩ = some (.int .i64 g.away) := hc 2 (by omega)
    have c3 : wr.cell? ⟨B, o + k * 6 + 3, none⟩ = some (.int .i64 g.fin) := hc 3 (by omega)
    have c4 : wr.cell? ⟨B, o + k * 6 + 4, none⟩ = some (.int .i64 g.hg) := hc 4 (by omega)
    have c5 : wr.cell? ⟨B, o + k * 6 + 5, none⟩ = some (.int .i64 g.ag) := hc 5 (by omega)
    subst hg
    clear hb hc hc0 hgs
    unfold gmv at HDk
    cases hpd : pdB P g <;> rw [hpd] at HDk
    · have HN : Hid (∀ j (h : j < G.length), j < k + 1 → pdB P G[j] = false) := Lib.hid fun j hj hjk => by
        rcases Nat.lt_or_ge j k with h' | h'
        · exact HW.out.2 j hj h'
        · have : j = k := by omega
          subst this
          rw [← HBE.out]; exact hpd
      clear HBE hpd
      go_wp2_with fail
      refine HDk.out.mono ?_
      rintro e w2 ⟨rfl, hb2⟩
      have H2 := Lib.hid (HW.out.1.trans (hb2.mono HW.out.1.size))
      clear hb2 c0 c1 c2 c3 c4 c5 HDk HW
      go_wp2_with fail
      go_roundg (G.length - (k + 1))
      case measure => omega
      case rel => exact ⟨k + 1, by omega, Nat.le_refl _, by go_num, Lib.hid ⟨H2.out, HN.out⟩⟩
    · have HN : Hid (pdB P G[k] = true ∧ ∀ j (h : j < k), pdB P G[j] = false) := Lib.hid ⟨by rw [← HBE.out]; exact hpd, fun j h => HW.out.2 j (by omega) h⟩
      clear HBE hpd
      go_wp2_with fail
      refine HDk.out.mono ?_
      rintro e w2 ⟨rfl, hb2⟩
      have H2 := Lib.hid (HW.out.1.trans (hb2.mono HW.out.1.size))
      clear hb2 c0 c1 c2 c3 c4 c5 HDk HW
      go_wp2_with fail
      go_ret
      exact ⟨(k : Int), rfl, .inr ⟨k, rfl, hlt, HN.out.1, HN.out.2⟩, H2.out⟩
/-- a row of games in a block that can be written -/
structure GB (w : World) (g : Nat) (R : List Gm) : Prop where
  c : ∀ k (h : k < R.length) j, j < 6 → w.cell? ⟨g, k * 6 + j, none⟩ = (gmc R[k])[j]?
  f : ∀ i, w.frozen? ⟨g, i, none⟩ = false
  lt : g < w.heap.size
theorem GB.row {w : World} {g : Nat} {R : List Gm} (h : GB w g R) : GRow w w.heap.size (some ⟨g, 0, none⟩) R := fun k hk => ⟨g, 0, rfl, h.lt, fun j hj => by rw [Nat.zero_add]; exact h.c k hk j hj⟩
theorem GB.below {w w' : World} {g : Nat} {R : List Gm} (h : GB w g R) (hb : Below w.heap.size w w') : GB w' g R :=
  ⟨fun k hk j hj => (hb.cell (p := ⟨g, _, none⟩) h.lt).trans (h.c k hk j hj), fun i => (hb.frozen (p := ⟨g, i, none⟩) h.lt).trans (h.f i), by have := hb.size; have := h.lt; omega⟩
theorem GB.take {w : World} {g : Nat} {R : List Gm} (h : GB w g R) (n : Nat) : GB w g (R.take n) :=
  ⟨fun k hk j hj => by rw [List.length_take] at hk; rw [List.getElem_take]; exact h.c k (by omega) j hj, h.f, h.lt⟩
theorem size_setCells (g : Nat) : ∀ (vs : List Value) (o : Nat) (w : World), (w.setCells g o vs).heap.size = w.heap.size
  | [], _, _ => rfl
  | v :: r, o, w => by
    show ((w.setCell ⟨g, o, none⟩ v).setCells g (o + 1) r).heap.size = _
    rw [size_setCells g r]
    simp [World.setCell]
theorem only_setCells (g : Nat) : ∀ (vs : List Value) (o : Nat) (w : World), Only (· = g) w (w.setCells g o vs)
  | [], _, w => Only.refl _ w
  | v :: r, o, w => (only_cell w g o v).trans (only_setCells g r (o + 1) _)
theorem GB.put {w : World} {g : Nat} {R : List Gm} (h : GB w g R) (i : Nat) (v : Gm) : GB (w.setCells g (i * 6) (gmc v).toList) g (R.set i v) := by
  have hs : (gmc v).toList.length = 6 := rfl
  refine ⟨fun k hk j hj => ?_, fun n => by rw [World.frozen?_setCells]; exact h.f n, by rw [size_setCells]; exact h.lt⟩
  rw [List.length_set] at hk
  rw [List.getElem_set]
  by_cases e : i = k
  · subst e
    rw [if_pos rfl]
    have hin := World.cell?_setCells_in g (gmc v).toList (i * 6) w (fun j hj => by rw [h.c i hk j (by rw [hs] at hj; exact hj)]; rw [hs] at hj; match j, hj with | 0, _ => rfl | 1, _ => rfl | 2, _ => rfl | 3, _ => rfl | 4, _ => rfl | 5, _ => rfl) j (by rw [hs]; exact hj)
    rw [hin, ← Array.getElem?_toList]
    rw [List.getElem?_eq_getElem (by rw [hs]; exact hj)]
  · rw [if_neg e, World.cell?_setCells_out g (gmc v).toList (i * 6) w ⟨g, k * 6 + j, none⟩ (fun _ _ => by rw [hs]; simp only; omega)]
    exact h.c k hk j hj
theorem GB.clear {w : World} {g : Nat} {R : List Gm} (h : GB w g R) (i : Nat) (vs : List Value) : GB (w.setCells g (i * 6) vs) g (R.take i) := by
  refine ⟨fun k hk j hj => ?_, fun n => by rw [World.frozen?_setCells]; exact h.f n, by rw [size_setCells]; exact h.lt⟩
  rw [List.length_take] at hk
  rw [List.getElem_take, World.cell?_setCells_out g vs (i * 6) w ⟨g, k * 6 + j, none⟩ (fun _ _ => by simp only; omega)]
  exact h.c k (by omega) j hj
theorem run_clear_games (w : World) (ty : TypeId) (b o n c : Nat) (hn : 0 < n) (hc : ∀ j, j < n * 6 → (w.cell? ⟨b, o + j, none⟩).isSome = true) (hf : ∀ j, w.frozen? ⟨b, o + j, none⟩ = false) :
    ∃ vs, (Builtin.clear_ #[23] ty #[.slice (some ⟨b, o, none⟩) n c]).run Tryd.prog w = .ok (.tuple #[]) (w.setCells b o vs) := by
  have hv : ∀ w, (zeroValue 53).run Tryd.prog w = .ok (.agg #[.int .i64 0, .int .i64 0, .int .i64 0, .int .i64 0, .int .i64 0, .int .i64 0]) w := fun _ => by kernel_rfl
  obtain ⟨vs, hvs⟩ : ∃ vs, vs = (Builtin.zeroCells (Value.agg #[.int .i64 0, .int .i64 0, .int .i64 0, .int .i64 0, .int .i64 0, .int .i64 0]).cells n).toList := ⟨_, rfl⟩
  have hsz : vs.length = n * 6 := by rw [hvs]; simp [Builtin.zeroCells, Value.cells]
  have h1 : ∀ v ∈ vs, v.oneCell' = true := by
    intro v hv
    rw [hvs] at hv
    simp only [Builtin.zeroCells, Value.cells, Array.toList_map, List.mem_map, Array.mem_toList_iff, Array.mem_range] at hv
    obtain ⟨a, -, rfl⟩ := hv
    have hm : a % 6 < 6 := Nat.mod_lt _ (by omega)
    show (#[Value.int .i64 0, .int .i64 0, .int .i64 0, .int .i64 0, .int .i64 0, .int .i64 0][a % 6]!).oneCell' = true
    match a % 6, hm with
    | 0, _ => rfl
    | 1, _ => rfl
    | 2, _ => rfl
    | 3, _ => rfl
    | 4, _ => rfl
    | 5, _ => rfl
  refine ⟨vs, ?_⟩
  have hst := run_storeCells_cells (P := Tryd.prog) b o vs 0 w (fun j hj => by rw [Nat.add_zero]; exact hc j (by omega)) (fun j hj => by rw [Nat.add_zero]; exact hf j) h1
  simp only [Nat.add_zero] at hst
  obtain ⟨m, rfl⟩ : ∃ m, n = m + 1 := ⟨n - 1, by omega⟩
  simp [Builtin.clear_, run_underlying Tryd.underlying23, hv, ← hvs, hst]
end Go.Proofs.YtljkgjfmambfoaaDoor
