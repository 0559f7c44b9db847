/- Contracts: sorted, Table. -/
import Derived.Test.YtljkgjfmambfoaaDoorLgT
namespace Go.Proofs.YtljkgjfmambfoaaDoor
open Go.RowKit Go.Shelf
attribute [local irreducible] wpQuiet
attribute [local go_sem] Oper.semAt_some
theorem srt_len (l : List Rw) : (srtRw l).length = l.length := (srtRw_perm l).length_eq
theorem own_at {w : World} {B g : Nat} {l : List Rw} {cap : Nat} (h : w.ownsRow B 66 6 (.slice (some ⟨g, 0, none⟩) l.length cap) l.length (nvl rwc l)) :
    (∀ i (h : i < l.length) j, j < 6 → w.cell? ⟨g, i * 6 + j, none⟩ = (rwc l[i])[j]?) ∧ (∀ i, w.frozen? ⟨g, i, none⟩ = false) ∧ g < w.heap.size ∧ B ≤ g := by
  obtain ⟨_, (⟨e, h0⟩ | ⟨g', cap', cur, e, hb, hg, h1, h2, h3, h4⟩)⟩ := h
  · cases e
  · cases e
    have hg1 : Has w g 66 cur := hg
    refine ⟨fun k hk j hj => ?_, hg1.frozen, hg1.lt, hb⟩
    rw [hg1.cell]
    have hlt : k * 6 + j < l.length * 6 := by omega
    have := congrArg (fun l : List Value => l[k * 6 + j]?) h4
    simp only [List.getElem?_take_of_lt hlt] at this
    unfold nvl at this
    rw [flat_get (fun a => (rwc a).toList) 6 (fun a => rfl) l k hk j hj] at this
    simpa using this
set_option maxRecDepth 100000 in
set_option maxHeartbeats 2000000 in
theorem sorted_any (l : List Rw) (A : Option Addr) (c h : Nat) (W : World) (hr : NRow rwc 6 W W.heap.size A l) (hl : ∀ r ∈ l, RN r) (hd : ∀ a ∈ l, ∀ b ∈ l, a.team = b.team → a = b) (hn : l.length ≤ 64) (ho : Ord W h) :
    Calls Tryd.prog 33 #[.slice A l.length c, .func (.func 76) #[] #[.pointer (some ⟨h + 6, 0, none⟩)]] W (RowsPost (srtRw l) W) := by
  have HC := Lib.hid (cloneR_any l A c W hr hn)
  have HS := Lib.hid (fun D cap w hc hf hD ho hh => sortR_any l D cap h w hl hd hc hf hD (by omega) ho hh)
  have HSN := Lib.hid (fun cap F w => sortN_any cap F w)
  have HO := Lib.hid ho
  have HLE := Lib.hid (srt_len l)
  unfold ClonePostR at HC
  unfold SortPost at HS
  clear hr hl hd ho
  go_enter Tryd.func33, Tryd.ntmps33
  go_wp2_with fail
  refine HC.out.mono ?_
  rintro e w1 ⟨hb1, v, rfl, hown⟩
  obtain ⟨A2, c2, rfl, hA0, hAs⟩ := own_slice hown
  cases A2 with
  | none =>
    have h0 : l.length = 0 := hA0 rfl
    obtain rfl := List.eq_nil_of_length_eq_zero h0
    have HB := Lib.hid hb1
    clear hown hb1 hA0 hAs h0 HS HC hn
    simp only [List.length_nil]
    go_wp2_with fail
    refine (HSN.out _ _ _).mono ?_
    rintro e w2 ⟨rfl, rfl⟩
    go_wp2_with fail
    go_ret
    exact ⟨none, c2, rfl, fun k hk => absurd hk (by simp [srtRw]), HB.out⟩
  | some ad =>
    obtain ⟨g, hg0⟩ : ∃ g, ad = ⟨g, 0, none⟩ := by
      obtain ⟨_, (⟨e, h0⟩ | ⟨g', cap', cur, e, _⟩)⟩ := hown
      · cases e
      · cases e; exact ⟨g', rfl⟩
    subst hg0
    obtain ⟨k1, k2, k3, k4⟩ := own_at hown
    have hlt := HO.out.o.lt
    have HSk := Lib.hid (HS.out g c2 w1 k1 k2 k3 (HO.out.below hb1 hlt) (by omega))
    have HB := Lib.hid (And.intro hb1 (show W.heap.size ≤ g from k4))
    clear hown hb1 hA0 hAs HS HC hn k1 k2 k3 k4 hlt HSN
    go_wp2_with fail
    refine HSk.out.mono ?_
    rintro e w2 ⟨rfl, hc2, hb2, hg2⟩
    have H2 := Lib.hid (And.intro hc2 (And.intro (HB.out.1.trans (hb2.mono HB.out.2)) hg2))
    clear hc2 hb2 hg2 HB HSk
    go_wp2_with fail
    go_ret
    exact ⟨some ⟨g, 0, none⟩, c2, by rw [HLE.out]; rfl, fun k hk => ⟨g, 0, rfl, H2.out.2.2, fun j hj => by rw [Nat.zero_add]; exact H2.out.1 k hk j hj⟩, H2.out.2.1⟩
theorem fold_team : ∀ (G : List Gm) (r : Rw), (G.foldl addG r).team = r.team
  | [], _ => rfl
  | g :: G, r => by rw [List.foldl_cons, fold_team G]; rfl
theorem rowP_team (G : List Gm) (i : Nat) : (rowP G i).team = i := by unfold rowP; rw [fold_team]
theorem rows_dist {x : Lg} : ∀ a ∈ rowsP x, ∀ b ∈ rowsP x, a.team = b.team → a = b := by
  intro a ha b hb h
  unfold rowsP at ha hb
  obtain ⟨i, -, rfl⟩ := List.mem_map.1 ha
  obtain ⟨j, -, rfl⟩ := List.mem_map.1 hb
  rw [rowP_team, rowP_team] at h
  have : i = j := by omega
  rw [this]
theorem rows_rn {x : Lg} (hv : VL x) : ∀ r ∈ rowsP x, RN r := by
  intro r hr
  unfold rowsP at hr
  obtain ⟨i, hi, rfl⟩ := List.mem_map.1 hr
  have hi := List.mem_range.1 hi
  have h1 := acc_bd hv (k := i) (Nat.le_refl (ofT i x.G).length)
  rw [acc_full] at h1
  have h2 := rowP_team x.G i
  have h3 := hv.nf
  obtain ⟨-, h4, h5⟩ := h1
  exact ⟨by omega, by omega, by omega⟩
/-- a standing -/
def stc (r : Rw) : Array Value := #[.int .i64 r.team, .int .i64 r.games, .int .i64 r.pts, .int .i64 r.gf, .int .i64 r.ga]
theorem stc_size (r : Rw) : (stc r).size = 5 := rfl
theorem stc_one (r : Rw) : ∀ u ∈ (stc r).toList, u.oneCell' = true := by
  intro u hu
  simp only [stc, List.mem_cons, List.not_mem_nil, or_false] at hu
  rcases hu with rfl | rfl | rfl | rfl | rfl <;> rfl
theorem Tryd.info46 : (Tryd.prog.info? 46).map (fun i => (i.zero, i.size, i.bytes)) = some (some (.agg #[.int .i64 0, .int .i64 0, .int .i64 0, .int .i64 0, .int .i64 0]), 5, 40) := by kernel_rfl
/-- a table, and an errno -/
def TabPost (r : List Rw × Int) (W : World) (e : Ending) (W' : World) : Prop := ∃ A c, e = .returned (.tuple #[.slice A r.1.length c, .int .i64 r.2]) ∧ NRow stc 5 W' W'.heap.size A r.1 ∧ Below W.heap.size W W'
/-- Table, at work -/
structure TbI (W w : World) (B : Nat) (A : Option Addr) (l : List Rw) (k : Nat) (v : Value) : Prop where
  b : Below W.heap.size W w
  r : NRow rwc 6 w B A l
  ow : w.ownsRow B 46 5 v k (nvl stc (l.take k))
  le : W.heap.size ≤ B ∧ B ≤ w.heap.size
theorem TbI.step {W w w' : World} {B k : Nat} {A : Option Addr} {l : List Rw} {v : Value} (h : TbI W w B A l k v) (hb : Below w.heap.size w w') : TbI W w' B A l k v :=
  ⟨h.b.trans (hb.mono h.b.size), h.r.below (hb.mono h.le.2), own_step h.ow hb, h.le.1, Nat.le_trans h.le.2 hb.size⟩
theorem TbI.grown {W w w' : World} {B k : Nat} {A : Option Addr} {l : List Rw} {v v' : Value} (h : TbI W w B A l k v) (hg : w.grownBy w' v.ownBlock) (ho : w'.ownsRow B 46 5 v' (k + 1) (nvl stc (l.take (k + 1)))) : TbI W w' B A l (k + 1) v' := by
  have hb : Below B w w' := ⟨hg.os, hg.tape, hg.output, hg.size, fun i hi => hg.block i (by have := h.le.2; omega) (fun e => by have := (own_block h.ow i e.symm).1; omega)⟩
  exact ⟨h.b.trans (hb.mono h.le.1), h.r.below hb, ho, h.le.1, Nat.le_trans h.le.2 hb.size⟩
theorem tab_bad {x : Lg} (h : lgB x = false) : tabR x = ([], 1) := by unfold tabR; rw [h]; rfl
theorem tab_ok {x : Lg} (h : lgB x = true) : tabR x = (srtRw (rowsP x), 0) := by unfold tabR; rw [h]; rfl
theorem st_take {l : List Rw} {k : Nat} (h : k < l.length) : nvl stc (l.take k) ++ (stc l[k]).toList = nvl stc (l.take (k + 1)) := by
  rw [List.take_succ_eq_append_getElem h, nvl_append]
  simp [nvl]
set_option maxRecDepth 100000 in
set_option maxHeartbeats 4000000 in
theorem Table_any (x : Lg) (AF AG : Option Addr) (cf cg : Nat) (W : World) (hW : Wo W) (hr : LgR W W.heap.size x AF AG) :
    Calls Tryd.prog 15 #[lgv x AF AG cf cg] W (TabPost (tabR x) W) := by
  have HB : Hid (LX W (W.alloc (.cells (lgc x AF AG cf cg) 25)) W.heap.size x AF AG cf cg ∧ Wo (W.alloc (.cells (lgc x AF AG cf cg) 25))) := Lib.hid ⟨LX.start hr, hW.step (below_one _ _)⟩
  have HV := Lib.hid (fun w (h : LX W w W.heap.size x AF AG cf cg) => validLeague_any x AF AG cf cg w h.up)
  have HR := Lib.hid (fun (h : lgB x = true) w (hW : Wo w) (hx : LX W w W.heap.size x AF AG cf cg) => rows_any x AF AG cf cg w hW hx.up (vl_of h))
  have HA := Lib.hid (fun w => ahead_any w)
  have HS := Lib.hid (fun (h : lgB x = true) A c hh w (hr : NRow rwc 6 w w.heap.size A (rowsP x)) (ho : Ord w hh) => sorted_any (rowsP x) A c hh w hr (rows_rn (vl_of h)) rows_dist (by rw [rows_len]; have := (vl_of h).nf; omega) ho)
  have HC0 := Lib.hid (fun (h : lgB x = false) => tab_bad h)
  have HC1 := Lib.hid (fun (h : lgB x = true) => tab_ok h)
  have HLN := Lib.hid (fun (h : lgB x = true) => (show (srtRw (rowsP x)).length ≤ 6 from by rw [srt_len, rows_len]; exact (vl_of h).nf))
  obtain ⟨X, hX⟩ : ∃ X, X = tabR x := ⟨_, rfl⟩
  rw [← hX] at HC0 HC1 ⊢
  unfold RowsPost at HR HS
  unfold OrdPost at HA
  clear hr hX hW
  unfold lgv at *
  go_enter Tryd.func15, Tryd.ntmps15
  go_upto_region 1 with fail
  generalize W.alloc (.cells (lgc x AF AG cf cg) 25) = w9 at HB ⊢
  have x0 : w9.cell? ⟨W.heap.size, 0, none⟩ = some (.slice AF x.F.length cf) := HB.out.1.fx.cell 0
  have x1 : w9.cell? ⟨W.heap.size, 1, none⟩ = some (.slice AG x.G.length cg) := HB.out.1.fx.cell 1
  have HV9 := Lib.hid (HV.out w9 HB.out.1)
  clear HV
  cases hlg : lgB x <;> rw [hlg] at HV9
  · have HE : Hid (X = ([], 1)) := Lib.hid (HC0.out hlg)
    clear HC0 HC1 hlg HLN HS HR
    go_wp2_with fail
    refine HV9.out.mono ?_
    rintro e w1 ⟨rfl, hb1⟩
    have H1 := Lib.hid (HB.out.1.step hb1)
    clear hb1 x0 x1 HB
    go_wp2_with fail
    refine bodyPost_ret (v := .tuple #[.slice none 0 0, .int .i64 1]) (by simp [results, Tryd.results15, go_sem]) rfl ?_
    exact ⟨none, 0, by rw [HE.out]; rfl, by rw [HE.out]; exact fun k hk => absurd hk (by simp), H1.out.b⟩
  have HE := Lib.hid (HC1.out hlg)
  have HRv := Lib.hid (fun w h h' => HR.out hlg w h h')
  have HSv := Lib.hid (fun A c hh w h h' => HS.out hlg A c hh w h h')
  have hln := HLN.out hlg
  clear HC0 HC1 hlg HLN HS HR
  go_wp2_with fail
  refine HV9.out.mono ?_
  rintro e w1 ⟨rfl, hb1⟩
  have H1 := Lib.hid (And.intro (HB.out.1.step hb1) (HB.out.2.step hb1))
  clear hb1 x0 x1 HB HV9
  have x0 : w1.cell? ⟨W.heap.size, 0, none⟩ = some (.slice AF x.F.length cf) := H1.out.1.fx.cell 0
  have x1 : w1.cell? ⟨W.heap.size, 1, none⟩ = some (.slice AG x.G.length cg) := H1.out.1.fx.cell 1
  go_wp2_with fail
  refine (HRv.out w1 H1.out.2 H1.out.1).mono ?_
  rintro e w2 ⟨A2, c2, rfl, hr2, hb2⟩
  have H2 := Lib.hid (And.intro hr2 (H1.out.1.b.trans (hb2.mono H1.out.1.b.size)))
  clear hr2 hb2 H1 x0 x1 HRv
  go_wp2_with fail
  refine (HA.out w2).mono ?_
  rintro e w3 ⟨rfl, ho3, hb3⟩
  have H3 := Lib.hid (show NRow rwc 6 w3 w3.heap.size A2 (rowsP x) ∧ Below W.heap.size W w3 ∧ Ord w3 w2.heap.size from ⟨(H2.out.1.below hb3).more hb3.size, H2.out.2.trans (hb3.mono H2.out.2.size), ho3⟩)
  clear ho3 hb3 H2 HA
  go_wp2_with fail
  refine (HSv.out A2 c2 _ w3 H3.out.1 H3.out.2.2).mono ?_
  rintro e w4 ⟨A4, c4, rfl, hr4, hb4⟩
  obtain ⟨l, hl⟩ : ∃ l, l = srtRw (rowsP x) := ⟨_, rfl⟩
  rw [← hl] at hr4 HE hln ⊢
  have H4 : Hid (TbI W w4 w4.heap.size A4 l 0 (.slice none 0 0)) := Lib.hid ⟨H3.out.2.1.trans (hb4.mono H3.out.2.1.size), hr4, by simpa [nvl] using own_nil _ _ _ _, Nat.le_trans H3.out.2.1.size hb4.size, Nat.le_refl _⟩
  clear hr4 hb4 H3 HSv
  have HLL := Lib.hid hl
  clear hl
  go_wp2_with fail
  generalize w4.heap.size = B at H4
  go_loopg [4, 15] l.length (fun gk v i wr => ∃ k : Nat, k ≤ l.length ∧ l.length - k ≤ gk ∧ i = .int .i64 ((k : Nat) : Int) ∧ Hid (TbI W wr B A4 l k v))
  case atStart => exact ⟨0, by omega, by omega, rfl, H4⟩
  case round =>
    clear H4
    obtain ⟨k, hk, hgk, rfl, HB⟩ := hrel
    by_cases hlt : k < l.length
    rotate_left
    · have hge : ¬ (k : Int) < l.length := by omega
      have HK : Hid (k = l.length) := Lib.hid (by omega)
      clear hlt hk hgk
      have HF := Lib.hid HB.out.ow
      rw [HK.out] at HF
      obtain ⟨A, cap, rfl, hA⟩ := own_nrow (l := l) stc_size (by have := HF.out; rwa [List.take_of_length_le (Nat.le_refl _)] at this)
      have HA := Lib.hid hA
      clear hA HF
      go_wp2_with fail
      refine bodyPost_ret (v := .tuple #[.slice A l.length cap, .int .i64 0]) (by simp [results, Tryd.results15, go_sem]) rfl ?_
      exact ⟨A, cap, by rw [HE.out], by rw [HE.out]; exact HA.out, HB.out.b⟩
    have hlt2 : (k : Int) < l.length := by omega
    obtain ⟨g, o, hg, hgs, hc⟩ := HB.out.r k hlt
    have HST := Lib.hid (st_take hlt)
    obtain ⟨r, hrr⟩ : ∃ r, r = l[k] := ⟨_, rfl⟩
    rw [← hrr] at hc HST
    have c0 : wr.cell? ⟨g, o + k * 6, none⟩ = some (.int .i64 r.team) := hc 0 (by omega)
    have c1 : wr.cell? ⟨g, o + k * 6 + 1, none⟩ = some (.int .i64 r.games) := hc 1 (by omega)
    have c2 : wr.cell? ⟨g, o + k * 6 + 2, none⟩ = some (.int .i64 r.pts) := hc 2 (by omega)
    have c3 : wr.cell? ⟨g, o + k * 6 + 3, none⟩ = some (.int .i64 r.gf) := hc 3 (by omega)
    have c4 : wr.cell? ⟨g, o + k * 6 + 4, none⟩ = some (.int .i64 r.ga) := hc 4 (by omega)
    have c5 : wr.cell? ⟨g, o + k * 6 + 5, none⟩ = some (.int .i64 r.among) := hc 5 (by omega)
    subst hg
    have H1 : Hid (TbI W (wr.alloc (.cells (rwc r) 66)) B (some ⟨g, o, none⟩) l k u4 ∧ Has (wr.alloc (.cells (rwc r) 66)) wr.heap.size 66 (rwc r)) := Lib.hid ⟨HB.out.step (below_one _ _), Has.new _ _ _⟩
    clear hc hrr HB hgs
    unfold rwc at H1
    go_upto_region 7 with fail
    generalize wr.alloc (.cells #[.int .i64 r.team, .int .i64 r.games, .int .i64 r.pts, .int .i64 r.gf, .int .i64 r.ga, .int .i64 r.among] 66) = w5 at H1 ⊢
    generalize wr.heap.size = E at H1 ⊢
    clear c0 c1 c2 c3 c4 c5
    have r0 : w5.cell? ⟨E, 0, none⟩ = some (.int .i64 r.team) := H1.out.2.cell 0
    have r1 : w5.cell? ⟨E, 1, none⟩ = some (.int .i64 r.games) := H1.out.2.cell 1
    have r2 : w5.cell? ⟨E, 2, none⟩ = some (.int .i64 r.pts) := H1.out.2.cell 2
    have r3 : w5.cell? ⟨E, 3, none⟩ = some (.int .i64 r.gf) := H1.out.2.cell 3
    have r4 : w5.cell? ⟨E, 4, none⟩ = some (.int .i64 r.ga) := H1.out.2.cell 4
    obtain ⟨i0, hi, hz0, hz1, hz2⟩ := info_parts Tryd.info46
    have HA : Hid (TbI W (w5.alloc (.cells (stc r) 46)) B (some ⟨g, o, none⟩) l k u4 ∧ Has (w5.alloc (.cells (stc r) 46)) w5.heap.size 46 (stc r)) := Lib.hid ⟨H1.out.1.step (below_one _ _), Has.new _ _ _⟩
    clear H1
    unfold stc at HA
    go_wp2_with (at_builtin; refine wpList_append_row rfl _ _ 32 rfl B 46 i0 (.agg #[.int .i64 0, .int .i64 0, .int .i64 0, .int .i64 0, .int .i64 0]) 5 40 Tryd.underlying32 hi hz0 hz1 hz2 rfl (by decide) u4 k (nvl stc (l.take k)) rfl HA.out.1.ow (some ⟨w5.heap.size, 0, none⟩) 1 1 (stc r).toList rfl ?g1 rfl ?g2 (stc_one r) ?g3 ?g4 ?g5 ?_)
    case g1 => intro h; cases h
    case g2 =>
      intro ad had j u hu
      cases had
      rw [addr_add, HA.out.2.cell]
      simpa [stc] using hu
    case g3 => unfold maxLen; omega
    case g4 => omega
    case g5 => exact HA.out.1.le.2
    intro v' w'' hown hgr
    have HZ5 := Lib.hid (show TbI W w'' B (some ⟨g, o, none⟩) l (k + 1) v' from HA.out.1.grown hgr (by rw [← HST.out]; exact hown))
    clear hown hgr HA HST r0 r1 r2 r3 r4 hi hz0 hz1 hz2
    go_wp2_with fail
    go_roundg (l.length - (k + 1))
    case measure => omega
    case rel => exact ⟨k + 1, by omega, Nat.le_refl _, by go_num, HZ5⟩
end Go.Proofs.YtljkgjfmambfoaaDoor
