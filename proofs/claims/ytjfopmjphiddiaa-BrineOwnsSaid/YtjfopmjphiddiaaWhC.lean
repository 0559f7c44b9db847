/- Brine without heat. -/
import Derived.Test.YtjfopmjphiddiaaWhA
import Derived.Test.YtjfopmjphiddiaaWhB
import Derived.Test.YtjfopmjphiddiaaWhD
import Derived.Test.YtjfopmjphiddiaaNmA
namespace Go.Proofs.Ytjfopmjphiddiaa
open Go.RowKit Go.Shelf
theorem only_grown {S : Nat → Prop} {a w w' : World} {row : Option Nat} (h : Only S a w) (hg : w.grownBy w' row) (hr : ∀ k, row = some k → a.heap.size ≤ k) : Only S a w' :=
  ⟨hg.os.trans h.os, hg.tape.trans h.tape, hg.output.trans h.output, Nat.le_trans h.size hg.size, fun k hk hn => (hg.block k (Nat.lt_of_lt_of_le hk h.size) (fun e => by have := hr k e.symm; omega)).trans (h.block k hk hn)⟩
theorem has_grown {w w' : World} {row : Option Nat} {g : Nat} {t : TypeId} {cs : Array Value} (h : Has w g t cs) (hg : w.grownBy w' row) (hr : row ≠ some g) : Has w' g t cs := (hg.block g h.lt (fun e => hr e.symm)).trans h
theorem own_one {w : World} {base n s : Nat} {e : TypeId} {v : Value} {xs : List Value} (h : w.ownsRow base e s v n xs) : v.oneCell' = true := by
  rcases h.2 with ⟨rfl, _⟩ | ⟨g, cap, cur, rfl, _⟩ <;> rfl
theorem only_set (w : World) (g i : Nat) (v : Value) : Only (fun k => k = g) w (w.setCell ⟨g, i, none⟩ v) := Only.setCell (S := fun k => k = g) (p := ⟨g, i, none⟩) (Only.refl _ w) (.inl rfl) v
def ColdPost (t : Sl) (ps : List Pp) (W : World) (e : Ending) (W' : World) : Prop :=
  ∃ A cap, e = .returned (brv (coldS t) A ps.length cap 0 0) ∧ Below W.heap.size W W' ∧ PRow W' W'.heap.size A (ps.map coldP)
structure ColdI (W w : World) (t : Sl) (ps : List Pp) (A : Option Addr) (cap : Nat) (heat hroom : Int) (k : Nat) (v : Value) (L : List (Pp × Value)) : Prop where
  bl : Below W.heap.size W w
  b : Has w W.heap.size 26 #[.int .i64 t.v, .int .i64 t.h, .slice A ps.length cap, .int .i64 heat, .int .i64 hroom]
  r : Has w (W.heap.size + 1) 26 #[.int .i64 0, .int .i64 0, .slice none 0 0, .int .i64 0, .int .i64 0]
  o : Has w (W.heap.size + 1 + 1) 26 #[.int .i64 t.v, .int .i64 0, v, .int .i64 0, .int .i64 0]
  p : POwn w W.heap.size v L
  l : L.map (·.1) = (ps.take k).map coldP
  n : L.length = k
structure ColdJ (w wx : World) (M B : Nat) (room : Int) (l : List Sl) (j : Nat) (u : Value) : Prop where
  on : Only (fun g => g = M) w wx
  own : Has wx M 51 #[.int .i64 room, u]
  row : wx.ownsRow B 23 2 u j (sfl ((l.take j).map coldS))
set_option maxRecDepth 100000 in
set_option maxHeartbeats 4000000 in
theorem cold_any (t : Sl) (ps : List Pp) (A : Option Addr) (cap : Nat) (heat hroom : Int) (W : World) (hr : PRow W W.heap.size A ps) (hm : ps.length ≤ 1000000) (hml : ∀ p ∈ ps, p.l.length ≤ 1000000) :
    Calls Try.prog 29 #[brv t A ps.length cap heat hroom] W (ColdPost t ps W) := by
  obtain ⟨i1, hi, hz0, hz1, hz2⟩ := info_parts Try.info23
  obtain ⟨i2, hi', hz0', hz1', hz2'⟩ := info_parts Try.info51
  have HR := Lib.hid (And.intro hr hml)
  clear hr hml
  go_enter Try.func29, Try.ntmps29
  go_wp2_with fail
  go_loopw [17] (fun i wr => ∃ (k : Nat) (v : Value) (L : List (Pp × Value)), k ≤ ps.length ∧ i = .int .i64 k ∧ Hid (ColdI W wr t ps A cap heat hroom k v L)) (fun i _ => ps.length - (intOf i).toNat)
  case atStart =>
    refine ⟨0, .slice none 0 0, [], Nat.zero_le _, rfl, ?_, ?_, ?_, ?_, POwn.nil _ _, by simp, rfl⟩
    · exact ((below_one _ _).alloc (by simp) _).alloc (by simp; omega) _
    · exact ((Has.new _ _ _).alloc _).alloc _
    · exact (Has.newAt (by simp)).alloc _
    · exact Has.newAt (by simp)
  case round =>
    obtain ⟨k, v, L, hk, rfl, HI⟩ := hrel
    have hsz := HI.out.bl.size
    have hNl := HI.out.o.lt
    by_cases hlt : k < ps.length
    · have hlt' : (k : Int) < ps.length := by omega
      obtain ⟨g, o, Aq, cq, eA, hg, d0, d1, hs⟩ := (HR.out.1.below HI.out.bl) k hlt
      obtain ⟨p, hp⟩ : ∃ p, p = ps[k] := ⟨_, rfl⟩
      have hpl : p.l.length ≤ 1000000 := HR.out.2 p (by rw [hp]; exact List.getElem_mem hlt)
      rw [← hp] at d0 d1 hs
      subst eA
      have hgw : g < wr.heap.size := by omega
      have HS := Lib.hid (And.intro hs hp)
      clear hs hp
      go_wp2_with fail
      obtain ⟨w3, rfl⟩ : ∃ w3, w3 = wr := ⟨_, rfl⟩
      obtain ⟨w4, hw4⟩ : ∃ w4, w4 = (w3.alloc (.cells #[.int .i64 p.room, .slice Aq p.l.length cq] 51)).alloc (.cells #[.int .i64 p.room, .slice none 0 0] 51) := ⟨_, rfl⟩
      rw [← hw4]
      have h4 : Below w3.heap.size w3 w4 := by subst hw4; exact (below_one _ _).alloc (by simp) _
      have h4s : w4.heap.size = w3.heap.size + 1 + 1 := by subst hw4; simp
      have h4o : Has w4 (w3.heap.size + 1) 51 #[.int .i64 p.room, .slice none 0 0] := by subst hw4; exact Has.newAt (by simp)
      clear hw4
      go_loopw [27] (fun i wx => ∃ (j : Nat) (u : Value), j ≤ p.l.length ∧ i = .int .i64 j ∧ Hid (ColdJ w4 wx (w3.heap.size + 1) w4.heap.size p.room p.l j u)) (fun i _ => p.l.length - (intOf i).toNat)
      case atStart => exact ⟨0, .slice none 0 0, Nat.zero_le _, rfl, Only.refl _ _, h4o, World.ownsRow_nil _ _ _ _⟩
      case round =>
        obtain ⟨j, u, hj, rfl, HJ⟩ := hrel
        have hxs := HJ.out.on.size
        have hu := HJ.out.row.lt
        by_cases hjl : j < p.l.length
        · have hjl' : (j : Int) < p.l.length := by omega
          have hwr : Below W.heap.size w3 wr := (h4.mono hsz).trans (HJ.out.on.below (by omega) (fun i hi => by omega))
          obtain ⟨gs, os, eA, hgs, e0, e1⟩ := (HS.out.1.below hwr) j hjl
          have hgsx : gs < wr.heap.size := by omega
          have hsn : sfl ((p.l.take (j + 1)).map coldS) = sfl ((p.l.take j).map coldS) ++ [iv p.l[j].v, iv 0] := by
            rw [List.take_succ_eq_append_getElem hjl, List.map_append, sfl_app]; rfl
          obtain ⟨x, hx⟩ : ∃ x, x = p.l[j] := ⟨_, rfl⟩
          rw [← hx] at e0 e1 hsn
          subst eA
          have HN := Lib.hid hsn
          have o1 : wr.cell? ⟨w3.heap.size + 1, 1, none⟩ = some u := HJ.out.own.cell 1
          have hol := HJ.out.own.lt
          have hrow := HJ.out.row
          clear hx hsn hwr
          go_wp2_with (at_builtin; refine wpList_append_lies _ rfl _ _ 49 rfl w4.heap.size 23 i1 (.agg #[iv 0, iv 0]) 2 16 Try.underlying49 hi hz0 hz1 hz2 rfl (by decide) u j _ rfl ((hrow.alloc _).alloc _) ⟨wr.heap.size + 1, 0, none⟩ 1 1 [.int .i64 x.v, .int .i64 0] rfl rfl ?c1 ?c2 (by decide) ?c3 ?c4 ?c5 _ rfl ?_)
          case c1 => simpa using cell_new2 (wr.alloc (.cells #[.int .i64 x.v, .int .i64 x.h] 23)) (.int .i64 x.v) (.int .i64 0) 23
          case c2 => simp [Value.oneCell']
          case c3 => unfold maxLen; omega
          case c4 => omega
          case c5 => simp; omega
          intro g1 c1 w5 hown hgrow hat hg1
          have hne : u.ownBlock ≠ some (w3.heap.size + 1) := fun e => by have := (hu _ e).1; omega
          have h5o : Has w5 (w3.heap.size + 1) 51 #[.int .i64 p.room, u] := has_grown ((HJ.out.own.alloc _).alloc _) hgrow hne
          have h5n : Only (fun g => g = w3.heap.size + 1) w4 w5 := only_grown ((HJ.out.on.alloc _).alloc _) hgrow (fun k hk => (hu k hk).1)
          have o5 : w5.cell? ⟨w3.heap.size + 1, 1, none⟩ = some u := h5o.cell 1
          have hol5 := h5o.lt
          have hz5 : w5.frozen? ⟨w3.heap.size + 1, 1, none⟩ = false := h5o.frozen 1
          have HF := Lib.hid (And.intro h5o (And.intro h5n hown))
          clear h5o h5n hown hgrow hat hrow o1 hol hne hg1 e0 e1 HJ hu
          go_wp2_with fail
          go_roundw
          case rel =>
            refine ⟨j + 1, .slice (some ⟨g1, 0, none⟩) (j + 1) c1, by omega, by go_num, ?_, ?_, ?_⟩
            · exact HF.out.2.1.setCell (.inl rfl) _
            · exact HF.out.1.set 1 _
            · rw [HN.out, List.map_take, h4s]
              exact HF.out.2.2.kept (grown_only (only_set _ _ _ _)) (own_has HF.out.2.2 HF.out.1 (by decide))
          case measure => simp [intOf]; omega
        · have hjp : j = p.l.length := by omega
          subst hjp
          have hrow := HJ.out.row
          rw [List.take_length] at hrow
          have q0 : wr.cell? ⟨w3.heap.size + 1, 0, none⟩ = some (.int .i64 p.room) := HJ.out.own.cell 0
          have q1 : wr.cell? ⟨w3.heap.size + 1, 1, none⟩ = some u := HJ.out.own.cell 1
          have hol := HJ.out.own.lt
          have hzl : wr.frozen? ⟨w3.heap.size + 1, 1, none⟩ = false := HJ.out.own.frozen 1
          have hbx : Below w3.heap.size w3 wr := h4.trans (HJ.out.on.below (by omega) (fun i hi => by omega))
          have HI2 : Hid (Below W.heap.size W wr ∧ Has wr W.heap.size 26 #[.int .i64 t.v, .int .i64 t.h, .slice (some ⟨g, o, none⟩) ps.length cap, .int .i64 heat, .int .i64 hroom] ∧ Has wr (W.heap.size + 1) 26 #[.int .i64 0, .int .i64 0, .slice none 0 0, .int .i64 0, .int .i64 0] ∧ Has wr (W.heap.size + 1 + 1) 26 #[.int .i64 t.v, .int .i64 0, v, .int .i64 0, .int .i64 0] ∧ POwn wr W.heap.size v L) :=
            ⟨HI.out.bl.trans (hbx.mono hsz), HI.out.b.below hbx HI.out.b.lt, HI.out.r.below hbx HI.out.r.lt, HI.out.o.below hbx HI.out.o.lt, HI.out.p.below hbx⟩
          have HP : Hid (wr.ownsRow W.heap.size 23 2 u (coldP p).l.length (sfl (coldP p).l)) := by
            have := own_lower hrow (show W.heap.size ≤ w4.heap.size by omega)
            show World.ownsRow _ _ _ _ _ _ _
            simpa [coldP] using this
          have HL := Lib.hid (And.intro HI.out.l (And.intro HI.out.n HS.out.2))
          have hLk : L.length = k := HI.out.n
          have ov : wr.cell? ⟨W.heap.size + 1 + 1, 2, none⟩ = some v := HI2.out.2.2.2.1.cell 2
          have ovl := HI2.out.2.2.2.1.lt
          have hpw := HI2.out.2.2.2.2.row
          clear hrow HJ HI HS
          go_wp2_with (at_builtin; refine wpList_append_lies _ rfl _ _ 24 rfl W.heap.size 51 i2 (.agg #[iv 0, nosl]) 2 32 Try.underlying24 hi' hz0' hz1' hz2' rfl (by decide) v L.length _ rfl (hpw.alloc _) ⟨wr.heap.size, 0, none⟩ 1 1 [.int .i64 p.room, u] rfl rfl ?c1 ?c2 (by decide) ?c3 ?c4 ?c5 _ rfl ?_)
          case c1 => simpa using cell_new2 wr (.int .i64 p.room) u 51
          case c2 =>
            intro y hy
            simp only [List.mem_cons, List.not_mem_nil, or_false] at hy
            rcases hy with rfl | rfl
            · rfl
            · exact own_one HP.out
          case c3 => unfold maxLen; omega
          case c4 => omega
          case c5 => simp; omega
          intro g1 c1 w5 hown hgrow hat hg1
          have hvl := hpw.lt
          have hv1 : v.ownBlock ≠ some (W.heap.size + 1 + 1) := fun e => by
            rcases own_has hpw HI2.out.2.2.2.1 (by decide) with h | h
            · rw [h] at e; cases e
            · exact h e
          have hv2 : v.ownBlock ≠ some W.heap.size := fun e => by
            rcases own_has hpw HI2.out.2.1 (by decide) with h | h
            · rw [h] at e; cases e
            · exact h e
          have hv3 : v.ownBlock ≠ some (W.heap.size + 1) := fun e => by
            rcases own_has hpw HI2.out.2.2.1 (by decide) with h | h
            · rw [h] at e; cases e
            · exact h e
          have ho5 : Has w5 (W.heap.size + 1 + 1) 26 #[.int .i64 t.v, .int .i64 0, v, .int .i64 0, .int .i64 0] := has_grown (HI2.out.2.2.2.1.alloc _) hgrow hv1
          have hp5 : POwn w5 W.heap.size (.slice (some ⟨g1, 0, none⟩) (k + 1) c1) (L ++ [(coldP p, u)]) :=
            (HI2.out.2.2.2.2.below (below_one _ _)).push (own_below HP.out (below_one _ _)) (by rw [hLk]; exact hown) hgrow
          have hb5 : Below W.heap.size W w5 := (HI2.out.1.alloc (by omega) _).grown hgrow (by simp; omega) (fun k hk => (hvl k hk).1)
          have HF : Hid (Below W.heap.size W w5 ∧ Has w5 W.heap.size 26 #[.int .i64 t.v, .int .i64 t.h, .slice (some ⟨g, o, none⟩) ps.length cap, .int .i64 heat, .int .i64 hroom] ∧ Has w5 (W.heap.size + 1) 26 #[.int .i64 0, .int .i64 0, .slice none 0 0, .int .i64 0, .int .i64 0] ∧ Has w5 (W.heap.size + 1 + 1) 26 #[.int .i64 t.v, .int .i64 0, v, .int .i64 0, .int .i64 0] ∧ POwn w5 W.heap.size (.slice (some ⟨g1, 0, none⟩) (k + 1) c1) (L ++ [(coldP p, u)])) :=
            ⟨hb5, has_grown (HI2.out.2.1.alloc _) hgrow hv2, has_grown (HI2.out.2.2.1.alloc _) hgrow hv3, ho5, hp5⟩
          have o5 : w5.cell? ⟨W.heap.size + 1 + 1, 2, none⟩ = some v := ho5.cell 2
          have o5l := ho5.lt
          have o5z : w5.frozen? ⟨W.heap.size + 1 + 1, 2, none⟩ = false := ho5.frozen 2
          clear ho5 hp5 hb5 hown hgrow hat hg1 hpw HI2 hv1 hv2 hv3 hvl ov ovl q0 q1 hol hzl hbx
          go_wp2_with fail
          go_roundw
          case rel =>
            have hO : Only (fun g => g = W.heap.size + 1 + 1) w5 (w5.setCell ⟨W.heap.size + 1 + 1, 2, none⟩ (.slice (some ⟨g1, 0, none⟩) (k + 1) c1)) := only_set _ _ _ _
            refine ⟨k + 1, .slice (some ⟨g1, 0, none⟩) (k + 1) c1, L ++ [(coldP p, u)], by omega, by go_num, ?_, ?_, ?_, ?_, ?_, ?_, ?_⟩
            · exact HF.out.1.trans (hO.below (by have := HF.out.1.size; omega) (fun i hi => by omega))
            · exact HF.out.2.1.only hO (by omega)
            · exact HF.out.2.2.1.only hO (by omega)
            · exact HF.out.2.2.2.1.set 2 _
            · exact HF.out.2.2.2.2.only HF.out.2.2.2.1 (by decide) (by decide) hO
            · rw [List.map_append, HL.out.1, List.take_succ_eq_append_getElem hlt, List.map_append]
              simp [HL.out.2.2]
            · simp [hLk]
          case measure => simp [intOf]; omega
    · have hkn : k = ps.length := by omega
      obtain ⟨A1, c1, rfl, -⟩ := HI.out.p.prow
      have e0 : L.map (·.1) = ps.map coldP := by rw [HI.out.l, hkn, List.take_length]
      have e1 : L.length = ps.length := by rw [HI.out.n, hkn]
      have hq : POwn wr W.heap.size (.slice A1 ps.length c1) L ∧ L.map (·.1) = ps.map coldP ∧ L.length = ps.length := ⟨by have := HI.out.p; rwa [e1] at this, e0, e1⟩
      rw [e1] at HI
      have o0 : wr.cell? ⟨W.heap.size + 1 + 1, 0, none⟩ = some (.int .i64 t.v) := HI.out.o.cell 0
      have o1 : wr.cell? ⟨W.heap.size + 1 + 1, 1, none⟩ = some (.int .i64 0) := HI.out.o.cell 1
      have o2 : wr.cell? ⟨W.heap.size + 1 + 1, 2, none⟩ = some (.slice A1 ps.length c1) := HI.out.o.cell 2
      have o3 : wr.cell? ⟨W.heap.size + 1 + 1, 3, none⟩ = some (.int .i64 0) := HI.out.o.cell 3
      have o4 : wr.cell? ⟨W.heap.size + 1 + 1, 4, none⟩ = some (.int .i64 0) := HI.out.o.cell 4
      have r0 : wr.cell? ⟨W.heap.size + 1, 0, none⟩ = some (.int .i64 0) := HI.out.r.cell 0
      have r1 : wr.cell? ⟨W.heap.size + 1, 1, none⟩ = some (.int .i64 0) := HI.out.r.cell 1
      have r2 : wr.cell? ⟨W.heap.size + 1, 2, none⟩ = some (.slice none 0 0) := HI.out.r.cell 2
      have r3 : wr.cell? ⟨W.heap.size + 1, 3, none⟩ = some (.int .i64 0) := HI.out.r.cell 3
      have r4 : wr.cell? ⟨W.heap.size + 1, 4, none⟩ = some (.int .i64 0) := HI.out.r.cell 4
      have z0 : ∀ i, wr.frozen? ⟨W.heap.size + 1, i, none⟩ = false := HI.out.r.frozen
      have rl := HI.out.r.lt
      have ol := HI.out.o.lt
      have HQ := Lib.hid (And.intro hq (And.intro HI.out.bl HI.out.r))
      clear hq e0 e1 HI
      go_wp2_with fail
      obtain ⟨k5, o5⟩ := setA5 HQ.out.2.2 (.int .i64 t.v) (.int .i64 0) (.slice A1 ps.length c1) (.int .i64 0) (.int .i64 0)
      have hb9 := only_bl HQ.out.2.1 o5 (show W.heap.size ≤ W.heap.size + 1 by omega)
      obtain ⟨A2, c2, e2, hq9⟩ := (HQ.out.1.1.only HQ.out.2.2 (by decide) (by decide) o5).prow
      rw [HQ.out.1.2.1] at hq9
      simp only [Value.slice.injEq] at e2
      obtain ⟨e3, -, -⟩ := e2
      rw [← e3] at hq9
      clear e3
      have x0 := k5.cell 0
      have x1 := k5.cell 1
      have x2 := k5.cell 2
      have x3 := k5.cell 3
      have x4 := k5.cell 4
      generalize (((((wr.setCell { block := W.heap.size + 1, off := 0 } (Value.int IntKind.i64 t.v)).setCell { block := W.heap.size + 1, off := 1 } (Value.int IntKind.i64 0)).setCell { block := W.heap.size + 1, off := 2 } (Value.slice A1 ps.length c1)).setCell { block := W.heap.size + 1, off := 3 } (Value.int IntKind.i64 0)).setCell { block := W.heap.size + 1, off := 4 } (Value.int IntKind.i64 0)) = w9 at *
      simp at x0 x1 x2 x3 x4
      exact bodyPost_ret (v := brv (coldS t) A1 ps.length c1 0 0) (by simp [results, Try.results29, go_sem, coldS, x0, x1, x2, x3, x4]) rfl ⟨A1, c1, rfl, hb9, hq9⟩
end Go.Proofs.Ytjfopmjphiddiaa
