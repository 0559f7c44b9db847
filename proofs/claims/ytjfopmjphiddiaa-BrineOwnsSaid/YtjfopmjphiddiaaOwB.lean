/- The law that nothing is shared: the walk. -/
import Derived.Test.YtjfopmjphiddiaaOwA
import Derived.Test.YtjfopmjphiddiaaRfA
namespace Go.Proofs.Ytjfopmjphiddiaa
open Go.RowKit Go.Shelf
/-- the copy that is kept, while it grows -/
structure OwI (w0 W : World) (t : Sl) (ps : List Pp) (heat hroom : Int) (k : Nat) (v : Value) (L : List (Pp × Value)) : Prop where
  bl : Below w0.heap.size w0 W
  b : Has W w0.heap.size 26 #[.int .i64 t.v, .int .i64 t.h, v, .int .i64 heat, .int .i64 hroom]
  p : POwn W w0.heap.size v L
  l : L.map (·.1) = ps.take k
  n : L.length = k
theorem Try.stood56 : Try.prog.stoodInHeld 56 = false := by kernel_rfl
theorem Try.fields56 : Try.prog.underlying 56 = some (.struct (Try.prog.fieldsOf 56)) := by kernel_rfl
theorem equal56 (n : Nat) (a b c d : Int) (w : World) : (Op.equalIn (n + 3) 56 (.agg #[.int .i64 a, .int .i64 b, .int .i64 c, .int .i64 d]) (.agg #[.int .i64 a, .int .i64 b, .int .i64 c, .int .i64 d])).run Try.prog w = .ok true w := by
  rw [run_equalIn_struct w (n + 2) 56 _ _ Try.fields56 Try.stood56]
  simp [Program.fieldsOf, Try.underlying56, Op.eqFields, go_sem]
theorem neq56 (a b c d : Int) (w : World) : (binOp .neq 56 (.agg #[.int .i64 a, .int .i64 b, .int .i64 c, .int .i64 d]) (.agg #[.int .i64 a, .int .i64 b, .int .i64 c, .int .i64 d])).run Try.prog w = .ok (.bool false) w := by
  rw [run_neq_struct, equal56 9997]; rfl
theorem end_small {t : Sl} {ps : List Pp} {heat hroom : Int} {l : List Ev} (hps : ps.length ≤ 12) {R : Option Yx × Nat × Int} (hR : R = playR t ps heat hroom l) : (endY R).ps.length ≤ 12 ∧ ∀ p ∈ (endY R).ps, 1 ≤ p.room ∧ p.l.length ≤ 16 := by
  unfold endY
  cases hx : R.1 with
  | none => exact ⟨by simp [zY], fun p hp => by cases hp⟩
  | some z =>
    rw [hR] at hx
    obtain ⟨hv, hbd, hz, -, -, h256⟩ := play_some hx
    have hf := kfacts hv hbd h256
    rw [← hz] at hf
    exact ⟨by show z.ps.length ≤ 12; rw [hf.len]; exact hps, fun p hp => ⟨(hf.ok p hp).r1, (hf.ok p hp).len⟩⟩
set_option maxRecDepth 100000 in
set_option maxHeartbeats 4000000 in
theorem ownsLaw_any (t : Sl) (ps : List Pp) (l : List Ev) (A A' : Option Addr) (cap cap' : Nat) (heat hroom : Int) (W : World) (hr : PRow W W.heap.size A ps) (he : ERow W W.heap.size A' l) (hm : ps.length ≤ maxLen) (hml : ∀ p ∈ ps, p.l.length ≤ maxLen) (hl : l.length ≤ 9223372036854775807) :
    Calls Try.prog 11 #[brv t A ps.length cap heat hroom, .slice A' l.length cap'] W fun e W' => e = .returned (.bool true) ∧ Below W.heap.size W W' := by
  obtain ⟨i0, hi, hz0, hz1, hz2⟩ := info_parts Try.info56
  obtain ⟨i1, hi1, hy0, hy1, hy2⟩ := info_parts Try.info23
  obtain ⟨i2, hi2, hx0, hx1, hx2⟩ := info_parts Try.info51
  have hm2 : ps.length ≤ 9223372036854775807 := hm
  have H0 := Lib.hid (Bxb.start W t ps A cap heat hroom l A' hr he)
  have HM := Lib.hid (And.intro hm hml)
  clear hr he hm hml
  cases hg : greatB ps
  case true =>
    have HG := Lib.hid hg
    clear hg
    go_enter Try.func11, Try.ntmps11
    go_wp2_with fail
    refine (great_any t ps heat hroom A cap _ H0.out.p hm2).mono ?_
    rw [HG.out]
    rintro e w1 ⟨rfl, hb1⟩
    have H1 := Lib.hid (H0.out.step hb1)
    clear hb1
    go_wp2_with fail
    refine (alive_any _).mono ?_
    rintro e wb ⟨rfl, hb⟩
    have HB := Lib.hid (H1.out.bl.trans (hb.mono H1.out.bl.size))
    clear hb
    go_wp2_with fail
    go_ret
    exact ⟨rfl, HB.out⟩
  have HG := Lib.hid hg
  obtain ⟨hps, hpl⟩ := great_not hg
  have HPL := Lib.hid hpl
  clear hg hpl
  by_cases h40 : (40 : Int) < l.length
  · go_enter Try.func11, Try.ntmps11
    go_wp2_with fail
    refine (great_any t ps heat hroom A cap _ H0.out.p hm2).mono ?_
    rw [HG.out]
    rintro e w1 ⟨rfl, hb1⟩
    have H1 := Lib.hid (H0.out.step hb1)
    clear hb1
    go_wp2_with fail
    refine (alive_any _).mono ?_
    rintro e wb ⟨rfl, hb⟩
    have HB := Lib.hid (H1.out.bl.trans (hb.mono H1.out.bl.size))
    clear hb
    go_wp2_with fail
    go_ret
    exact ⟨rfl, HB.out⟩
  have h40' : decide ((40 : Int) < l.length) = false := by simpa using h40
  have hl40 : l.length ≤ 40 := by omega
  go_enter Try.func11, Try.ntmps11
  go_wp2_with fail
  refine (great_any t ps heat hroom A cap _ H0.out.p hm2).mono ?_
  rw [HG.out]
  rintro e w1 ⟨rfl, hb1⟩
  have H1 := Lib.hid (H0.out.step hb1)
  clear hb1 h40
  have c0 : w1.cell? ⟨W.heap.size, 0, none⟩ = some (.int .i64 t.v) := H1.out.b.cell 0
  have c1 : w1.cell? ⟨W.heap.size, 1, none⟩ = some (.int .i64 t.h) := H1.out.b.cell 1
  have c2 : w1.cell? ⟨W.heap.size, 2, none⟩ = some (.slice A ps.length cap) := H1.out.b.cell 2
  have c3 : w1.cell? ⟨W.heap.size, 3, none⟩ = some (.int .i64 heat) := H1.out.b.cell 3
  have c4 : w1.cell? ⟨W.heap.size, 4, none⟩ = some (.int .i64 hroom) := H1.out.b.cell 4
  have cl := H1.out.b.lt
  go_wp2_with fail
  go_loopw [35] (fun i wr => ∃ (k : Nat) (v : Value) (L : List (Pp × Value)), k ≤ ps.length ∧ i = .int .i64 k ∧ Hid (OwI w1 wr t ps heat hroom k v L)) (fun i _ => ps.length - (intOf i).toNat)
  case atStart =>
    exact ⟨0, .slice none 0 0, [], Nat.zero_le _, rfl, below_one _ _, Has.new _ _ _, POwn.nil _ _, by simp, rfl⟩
  case round =>
    obtain ⟨k, v, L, hk, rfl, HI⟩ := hrel
    have hsz := HI.out.bl.size
    have hKl := HI.out.b.lt
    by_cases hlt : k < ps.length
    · have hlt' : (k : Int) < ps.length := by omega
      obtain ⟨g, o, Aq, cq, eA, hg, d0, d1, hs⟩ := (H1.out.p.below HI.out.bl) k hlt
      obtain ⟨p, hp⟩ : ∃ p, p = ps[k] := ⟨_, rfl⟩
      have hpl : p.l.length ≤ 20 := HPL.out p (by rw [hp]; exact List.getElem_mem hlt)
      rw [← hp] at d0 d1 hs
      subst eA
      have hgw : g < wr.heap.size := by omega
      have hb4 : Below wr.heap.size wr ((wr.alloc (.cells #[.int .i64 p.room, .slice Aq p.l.length cq] 51)).alloc (.cells #[] 23)) := (below_one _ _).alloc (by simp) _
      have hs4 := hs.below (hb4.mono hsz)
      have HS := Lib.hid (And.intro hs4 hp)
      have HB4 := Lib.hid hb4
      have hM4 : Has ((wr.alloc (.cells #[.int .i64 p.room, .slice Aq p.l.length cq] 51)).alloc (.cells #[] 23)) wr.heap.size 51 #[.int .i64 p.room, .slice Aq p.l.length cq] := (Has.new _ _ _).alloc _
      have HM4 := Lib.hid hM4
      have hown4 : ((wr.alloc (.cells #[.int .i64 p.room, .slice Aq p.l.length cq] 51)).alloc (.cells #[] 23)).ownsRow wr.heap.size 23 2 (.slice (some ⟨wr.heap.size + 1, 0, none⟩) 0 0) 0 [] := by
        have := own_lower (own_made (wr.alloc (.cells #[.int .i64 p.room, .slice Aq p.l.length cq] 51)) 23 2) (show wr.heap.size ≤ _ by simp)
        simpa using this
      have HO4 := Lib.hid hown4
      clear hs hs4 hp hb4 hM4 hown4
      go_wp2_with (at_builtin; refine wpList_append_row rfl _ _ 49 rfl wr.heap.size 23 i1 (.agg #[iv 0, iv 0]) 2 16 Try.underlying49 hi1 hy0 hy1 hy2 rfl (by decide) (.slice (some ⟨wr.heap.size + 1, 0, none⟩) 0 0) 0 [] rfl HO4.out Aq p.l.length cq (sfl p.l) rfl ?q1 ?q2 ?q3 ?q4 ?q5 ?q6 ?q7 ?_)
      case q1 => exact srow_none HS.out.1
      case q2 => exact sfl_len _
      case q3 => exact srow_cells HS.out.1
      case q4 => exact sfl_one _
      case q5 => unfold maxLen; omega
      case q6 => omega
      case q7 => simp; omega
      intro v' w5 hown hgrow
      obtain ⟨Av, cv, rfl, -⟩ := own_srow hown
      have hM5 : Has w5 wr.heap.size 51 #[.int .i64 p.room, .slice Aq p.l.length cq] := has_grown HM4.out hgrow (by simp [Value.ownBlock])
      have hb5 : Below wr.heap.size wr w5 := HB4.out.grown hgrow (by simp; omega) (fun k hk => by simp only [Value.ownBlock, Option.some.injEq] at hk; omega)
      have hb6 : Below wr.heap.size wr (w5.setCell ⟨wr.heap.size, 1, none⟩ (.slice Av p.l.length cv)) := hb5.trans ((only_set _ _ _ _).below hb5.size (fun i hi => by omega))
      have ho6 : (w5.setCell ⟨wr.heap.size, 1, none⟩ (.slice Av p.l.length cv)).ownsRow w1.heap.size 23 2 (.slice Av p.l.length cv) p.l.length (sfl p.l) := own_lower (hown.kept (grown_only (only_set _ _ _ _)) (own_has hown hM5 (by decide))) hsz
      have HI6 : Hid (Below w1.heap.size w1 (w5.setCell ⟨wr.heap.size, 1, none⟩ (.slice Av p.l.length cv)) ∧ Has (w5.setCell ⟨wr.heap.size, 1, none⟩ (.slice Av p.l.length cv)) w1.heap.size 26 #[.int .i64 t.v, .int .i64 t.h, v, .int .i64 heat, .int .i64 hroom] ∧ POwn (w5.setCell ⟨wr.heap.size, 1, none⟩ (.slice Av p.l.length cv)) w1.heap.size v L ∧ (w5.setCell ⟨wr.heap.size, 1, none⟩ (.slice Av p.l.length cv)).ownsRow w1.heap.size 23 2 (.slice Av p.l.length cv) p.l.length (sfl p.l)) :=
        ⟨HI.out.bl.trans (hb6.mono hsz), HI.out.b.below hb6 hKl, HI.out.p.below hb6, ho6⟩
      have HL := Lib.hid (And.intro HI.out.l (And.intro HI.out.n HS.out.2))
      have hLk : L.length = k := HI.out.n
      have hs5 := hb5.size
      have m0 : w5.cell? ⟨wr.heap.size, 0, none⟩ = some (.int .i64 p.room) := hM5.cell 0
      have m1 : w5.cell? ⟨wr.heap.size, 1, none⟩ = some (.slice Aq p.l.length cq) := hM5.cell 1
      have mz : w5.frozen? ⟨wr.heap.size, 1, none⟩ = false := hM5.frozen 1
      have ml := hM5.lt
      have k2 : w5.cell? ⟨w1.heap.size, 2, none⟩ = some v := by
        have := HI.out.b.below hb5 hKl
        exact this.cell 2
      have kl : w1.heap.size < w5.heap.size := by omega
      have hpw := HI6.out.2.2.1.row
      have hne1 : ¬ w1.heap.size = wr.heap.size := by omega
      have hne2 : ¬ wr.heap.size = w1.heap.size := by omega
      clear hown hgrow hM5 hb5 hb6 ho6 HI HS HM4 HB4 HO4
      go_wp2_with (at_builtin; refine wpList_append_lies _ rfl _ _ 24 rfl w1.heap.size 51 i2 (.agg #[iv 0, nosl]) 2 32 Try.underlying24 hi2 hx0 hx1 hx2 rfl (by decide) v L.length _ rfl (hpw.alloc _) ⟨w5.heap.size, 0, none⟩ 1 1 [.int .i64 p.room, (.slice Av p.l.length cv)] rfl rfl ?q1 ?q2 (by decide) ?q3 ?q4 ?q5 _ rfl ?_)
      case q1 => simpa using cell_new2 (w5.setCell ⟨wr.heap.size, 1, none⟩ (.slice Av p.l.length cv)) (.int .i64 p.room) (.slice Av p.l.length cv) 51
      case q2 =>
        intro y hy
        simp only [List.mem_cons, List.not_mem_nil, or_false] at hy
        rcases hy with rfl | rfl
        · rfl
        · exact own_one HI6.out.2.2.2
      case q3 => unfold maxLen; omega
      case q4 => omega
      case q5 => simp; omega
      intro g1 c1 w7 hown hgrow hat hg1
      have hvl := hpw.lt
      have hv1 : v.ownBlock ≠ some w1.heap.size := fun e => by
        rcases own_has hpw HI6.out.2.1 (by decide) with h | h
        · rw [h] at e; cases e
        · exact h e
      have hk7 : Has w7 w1.heap.size 26 #[.int .i64 t.v, .int .i64 t.h, v, .int .i64 heat, .int .i64 hroom] := has_grown (HI6.out.2.1.alloc _) hgrow hv1
      have hp7 : POwn w7 w1.heap.size (.slice (some ⟨g1, 0, none⟩) (k + 1) c1) (L ++ [(p, .slice Av p.l.length cv)]) :=
        (HI6.out.2.2.1.below (below_one _ _)).push (own_below HI6.out.2.2.2 (below_one _ _)) (by rw [hLk]; exact hown) hgrow
      have hs6 := HI6.out.1.size
      have hb7 : Below w1.heap.size w1 w7 := (HI6.out.1.alloc hs6 _).grown hgrow (Nat.le_trans hs6 (by simp)) (fun k hk => (hvl k hk).1)
      have HF := Lib.hid (And.intro hb7 (And.intro hk7 hp7))
      have o7 : w7.cell? ⟨w1.heap.size, 2, none⟩ = some v := hk7.cell 2
      have ol7 := hk7.lt
      have oz7 : w7.frozen? ⟨w1.heap.size, 2, none⟩ = false := hk7.frozen 2
      clear hk7 hp7 hb7 hown hgrow hat hpw HI6 hv1 hvl m0 m1 mz ml k2 kl hs6
      go_wp2_with fail
      go_roundw
      case rel =>
        have hO : Only (fun g => g = w1.heap.size) w7 (w7.setCell ⟨w1.heap.size, 2, none⟩ (.slice (some ⟨g1, 0, none⟩) (k + 1) c1)) := only_set _ _ _ _
        refine ⟨k + 1, .slice (some ⟨g1, 0, none⟩) (k + 1) c1, L ++ [(p, .slice Av p.l.length cv)], by omega, by go_num, ?_, ?_, ?_, ?_, ?_⟩
        · exact HF.out.1.trans (hO.below HF.out.1.size (fun i hi => by omega))
        · exact HF.out.2.1.set 2 _
        · exact HF.out.2.2.only HF.out.2.1 (by decide) (by decide) hO
        · rw [List.map_append, HL.out.1, List.take_succ_eq_append_getElem hlt]
          simp [HL.out.2.2]
        · simp [hLk]
      case measure => simp [intOf]; omega
    · have hkn : k = ps.length := by omega
      obtain ⟨A1, c1', rfl, hq⟩ := HI.out.p.prow
      have e0 : L.map (·.1) = ps := by rw [HI.out.l, hkn, List.take_length]
      have e1 : L.length = ps.length := by rw [HI.out.n, hkn]
      rw [e0] at hq
      rw [e1] at HI
      have HX := Lib.hid (H1.out.step HI.out.bl)
      have HK : Hid (Has wr w1.heap.size 26 (bcells t A1 ps.length c1' heat hroom) ∧ PRow wr wr.heap.size A1 ps) := ⟨HI.out.b, hq⟩
      have hE4 : (wr.alloc (.cells #[] 56)).ownsRow wr.heap.size 56 4 (.slice (some ⟨wr.heap.size, 0, none⟩) 0 0) 0 [] := own_made wr 56 4
      have he4 : ERow (wr.alloc (.cells #[] 56)) wr.heap.size A' l := HX.out.e.below (below_one _ _)
      have HE4 := Lib.hid (And.intro hE4 he4)
      clear hq e0 e1 HI hE4 he4 H1 hkn
      go_wp2_with (at_builtin; refine wpList_append_row rfl _ _ 27 rfl wr.heap.size 56 i0 (.agg #[iv 0, iv 0, iv 0, iv 0]) 4 32 Try.underlying27 hi hz0 hz1 hz2 rfl (by decide) (.slice (some ⟨wr.heap.size, 0, none⟩) 0 0) 0 [] rfl HE4.out.1 A' l.length cap' (eli l) rfl ?q1 ?q2 ?q3 ?q4 ?q5 ?q6 ?q7 ?_)
      case q1 => exact erow_none HE4.out.2
      case q2 => exact eli_len _
      case q3 => exact erow_cells HE4.out.2
      case q4 => exact eli_one _
      case q5 => unfold maxLen; omega
      case q6 => omega
      case q7 => simp
      intro v' w5 hown hgrow
      obtain ⟨Av, cv, rfl, hev⟩ := own_erow hown
      have hb5 : Below wr.heap.size wr w5 := (below_one _ _).grown hgrow (by simp) (fun k hk => by simp only [Value.ownBlock, Option.some.injEq] at hk; omega)
      have H5 := Lib.hid (HX.out.step hb5)
      have HK5 : Hid (Has w5 w1.heap.size 26 (bcells t A1 ps.length c1' heat hroom) ∧ PRow w5 w5.heap.size A1 ps ∧ ERow w5 w5.heap.size Av l) := ⟨HK.out.1.below hb5 HK.out.1.lt, HK.out.2.step hb5, hev⟩
      clear hown hgrow hb5 hev HE4 HK HX
      have c0 : w5.cell? ⟨W.heap.size, 0, none⟩ = some (.int .i64 t.v) := H5.out.b.cell 0
      have c1 : w5.cell? ⟨W.heap.size, 1, none⟩ = some (.int .i64 t.h) := H5.out.b.cell 1
      have c2 : w5.cell? ⟨W.heap.size, 2, none⟩ = some (.slice A ps.length cap) := H5.out.b.cell 2
      have c3 : w5.cell? ⟨W.heap.size, 3, none⟩ = some (.int .i64 heat) := H5.out.b.cell 3
      have c4 : w5.cell? ⟨W.heap.size, 4, none⟩ = some (.int .i64 hroom) := H5.out.b.cell 4
      have cl := H5.out.b.lt
      go_wp2_with fail
      obtain ⟨R, hR⟩ : ∃ R, R = playR t ps heat hroom l := ⟨_, rfl⟩
      have HR := Lib.hid (end_small hps hR)
      have HC : Hid (∀ w, PRow w w.heap.size A ps → ERow w w.heap.size A' l → Calls Try.prog 14 #[brv t A ps.length cap heat hroom, .slice A' l.length cap'] w (PlayPost R w)) := by
        intro w h1 h2
        rw [hR]
        exact play_any t ps l A A' cap cap' heat hroom w h1 h2 HM.out.1 HM.out.2 (by decide) hl
      clear hR
      refine (HC.out _ H5.out.p H5.out.e).mono fun r w6 hpl0 => ?_
      obtain ⟨A5, c5, qs, rfl, hqm, hb6, hE6, -⟩ := play_end hpl0
      obtain ⟨z, hz⟩ : ∃ z, z = endY R := ⟨_, rfl⟩
      obtain ⟨i, hi0⟩ : ∃ i, i = R.2.1 := ⟨_, rfl⟩
      obtain ⟨x, hx⟩ : ∃ x, x = R.2.2 := ⟨_, rfl⟩
      rw [← hz] at hqm HR
      rw [← hz, ← hi0, ← hx]
      have HZ := Lib.hid (And.intro hz (And.intro hi0 (And.intro hx hqm)))
      have hql : qs.length ≤ 12 := by
        have := HR.out.1
        rw [← hqm, List.length_map] at this
        exact this
      have HQ : Hid (∀ q ∈ qs, q.l.length ≤ 16) := fun q hq => by
        have := HR.out.2 q.pp (by rw [← hqm]; exact List.mem_map_of_mem hq)
        exact this.2
      have hs56 := hb6.size
      clear hpl0 hz hi0 hx hqm
      go_wp2_with fail
      obtain ⟨wd, hwd⟩ : ∃ wd, wd = (w6.alloc (.cells (bcells z.t A5 qs.length c5 z.r.heat z.r.room) 26)).alloc (.cells (scells z.r.s) 31) := ⟨_, rfl⟩
      rw [← hwd]
      have hds : wd.heap.size = w6.heap.size + 1 + 1 := by subst hwd; simp
      have HD : Hid (Below w5.heap.size w5 wd ∧ Has wd w6.heap.size 26 (bcells z.t A5 qs.length c5 z.r.heat z.r.room) ∧ Has wd (w6.heap.size + 1) 31 (scells z.r.s) ∧ EndI wd A5 qs w5.heap.size w6.heap.size) := by
        subst hwd
        exact ⟨(hb6.alloc hs56 _).alloc (by simp; omega) _, (Has.new _ _ _).alloc _, Has.newAt (by simp), (hE6.alloc _).alloc _⟩
      clear hwd hb6 hE6
      go_loopw [65] (fun j wr => ∃ n : Nat, n ≤ qs.length ∧ j = .int .i64 n ∧ Hid (Only (fun g => w5.heap.size ≤ g ∧ g < w6.heap.size) wd wr ∧ EndI wr A5 qs w5.heap.size w6.heap.size)) (fun j _ => qs.length - (intOf j).toNat)
      case atStart => exact ⟨0, Nat.zero_le _, rfl, Only.refl _ _, HD.out.2.2.2⟩
      case round =>
        obtain ⟨n, hn, rfl, HI⟩ := hrel
        have hsn := HI.out.1.size
        have hH9 : Has wr w6.heap.size 26 (bcells z.t A5 qs.length c5 z.r.heat z.r.room) := HD.out.2.1.only HI.out.1 (by omega)
        have e2 : wr.cell? ⟨w6.heap.size, 2, none⟩ = some (.slice A5 qs.length c5) := hH9.cell 2
        have el := hH9.lt
        clear hH9
        by_cases hlt : n < qs.length
        · have hlt' : (n : Int) < qs.length := by omega
          obtain ⟨Bn, r0, cs, eA, hN, hBB, hcs, p0, p1⟩ := HI.out.2.p n hlt
          obtain ⟨q, hq⟩ : ∃ q, q = qs[n] := ⟨_, rfl⟩
          have hqm : q ∈ qs := by rw [hq]; exact List.getElem_mem hlt
          have hq16 := HQ.out q hqm
          rw [← hq] at p1
          have b1 : wr.cell? ⟨Bn, n * 2 + 1, none⟩ = some (.slice (some ⟨q.g, q.off, none⟩) q.l.length q.cap) := by rw [hcs.cell]; exact p1
          have bl := hcs.lt
          have HQM := Lib.hid (And.intro hq (And.intro hqm (And.intro hN hBB)))
          subst eA
          clear hcs p0 p1 hq hqm hN
          go_wp2_with fail
          obtain ⟨w3, rfl⟩ : ∃ w3, w3 = wr := ⟨_, rfl⟩
          go_loopw [75] (fun j wr => ∃ m : Nat, m ≤ q.l.length ∧ j = .int .i64 m ∧ Hid (Only (fun g => w5.heap.size ≤ g ∧ g < w6.heap.size) wd wr ∧ EndI wr (some ⟨Bn, 0, none⟩) qs w5.heap.size w6.heap.size)) (fun j _ => q.l.length - (intOf j).toNat)
          case atStart => exact ⟨0, Nat.zero_le _, rfl, HI.out⟩
          case round =>
            obtain ⟨m, hm, rfl, HJ⟩ := hrel
            have hsm := HJ.out.1.size
            have hH9 : Has wr w6.heap.size 26 (bcells z.t (some ⟨Bn, 0, none⟩) qs.length c5 z.r.heat z.r.room) := HD.out.2.1.only HJ.out.1 (by omega)
            have e2' : wr.cell? ⟨w6.heap.size, 2, none⟩ = some (.slice (some ⟨Bn, 0, none⟩) qs.length c5) := hH9.cell 2
            have el' := hH9.lt
            clear hH9
            obtain ⟨B1, r1, cs, eA, hN, hB1, hcs, p0, p1⟩ := HJ.out.2.p n hlt
            obtain rfl : B1 = Bn := by simpa using eA.symm
            rw [← HQM.out.1] at p1
            have b1' : wr.cell? ⟨B1, n * 2 + 1, none⟩ = some (.slice (some ⟨q.g, q.off, none⟩) q.l.length q.cap) := by rw [hcs.cell]; exact p1
            have b0' : wr.cell? ⟨B1, n * 2, none⟩ = some (.int .i64 r1) := by rw [hcs.cell]; exact p0
            have bz' : wr.frozen? ⟨B1, n * 2, none⟩ = false := hcs.frozen _
            have bl' := hcs.lt
            clear hcs p0 p1 eA
            by_cases hml : m < q.l.length
            · have hml' : (m : Int) < q.l.length := by omega
              obtain ⟨cur, hcur, hcs2, hNq, hqB⟩ := HJ.out.2.q q HQM.out.2.1
              have hmc : q.off + m * 2 < cur.size := by omega
              have s0 : wr.cell? ⟨q.g, q.off + m * 2, none⟩ = some cur[q.off + m * 2] := by rw [hcur.cell]; exact Array.getElem?_eq_getElem hmc
              have sz : wr.frozen? ⟨q.g, q.off + m * 2, none⟩ = false := hcur.frozen _
              have sl := hcur.lt
              have HU := Lib.hid hcur
              clear hcur
              go_wp2_with fail
              go_roundw
              case rel => exact ⟨m + 1, by omega, by go_num, HJ.out.1.setCell (p := ⟨q.g, q.off + m * 2, none⟩) (.inl ⟨hNq, hqB⟩) _, HJ.out.2.set23 HU.out _ _⟩
              case measure => simp [intOf]; omega
            · go_wp2_with fail
              go_roundw
              case rel => exact ⟨n + 1, by omega, by go_num, HJ.out.1.setCell (p := ⟨B1, n * 2, none⟩) (.inl ⟨hN, hB1⟩) _, HJ.out.2.set51 rfl hlt _⟩
              case measure => simp [intOf]; omega
        · have hb9 : Below w5.heap.size w5 wr := HD.out.1.trans (HI.out.1.below (by omega) (fun i hi h => by omega))
          have H9 := Lib.hid (H5.out.step hb9)
          have HK9 : Hid (Has wr w1.heap.size 26 (bcells t A1 ps.length c1' heat hroom) ∧ PRow wr wr.heap.size A1 ps ∧ ERow wr wr.heap.size Av l ∧ Has wr w6.heap.size 26 (bcells z.t A5 qs.length c5 z.r.heat z.r.room) ∧ Has wr (w6.heap.size + 1) 31 (scells z.r.s)) :=
            ⟨HK5.out.1.below hb9 HK5.out.1.lt, HK5.out.2.1.step hb9, HK5.out.2.2.step hb9, HD.out.2.1.only HI.out.1 (by omega), HD.out.2.2.1.only HI.out.1 (by omega)⟩
          clear hb9 HI HD HK5 H5 e2 el
          have c0 : wr.cell? ⟨W.heap.size, 0, none⟩ = some (.int .i64 t.v) := H9.out.b.cell 0
          have c1 : wr.cell? ⟨W.heap.size, 1, none⟩ = some (.int .i64 t.h) := H9.out.b.cell 1
          have c2 : wr.cell? ⟨W.heap.size, 2, none⟩ = some (.slice A ps.length cap) := H9.out.b.cell 2
          have c3 : wr.cell? ⟨W.heap.size, 3, none⟩ = some (.int .i64 heat) := H9.out.b.cell 3
          have c4 : wr.cell? ⟨W.heap.size, 4, none⟩ = some (.int .i64 hroom) := H9.out.b.cell 4
          have cl := H9.out.b.lt
          have k0 : wr.cell? ⟨w1.heap.size, 0, none⟩ = some (.int .i64 t.v) := HK9.out.1.cell 0
          have k1 : wr.cell? ⟨w1.heap.size, 1, none⟩ = some (.int .i64 t.h) := HK9.out.1.cell 1
          have k2 : wr.cell? ⟨w1.heap.size, 2, none⟩ = some (.slice A1 ps.length c1') := HK9.out.1.cell 2
          have k3 : wr.cell? ⟨w1.heap.size, 3, none⟩ = some (.int .i64 heat) := HK9.out.1.cell 3
          have k4 : wr.cell? ⟨w1.heap.size, 4, none⟩ = some (.int .i64 hroom) := HK9.out.1.cell 4
          have kl := HK9.out.1.lt
          go_wp2_with fail
          refine (same_any t ps heat hroom A1 A c1' cap wr HK9.out.2.1 H9.out.p hm2 HM.out.2).mono ?_
          rintro e w8 ⟨rfl, hb8⟩
          have H8 := Lib.hid (H9.out.step hb8)
          have HK8 : Hid (ERow w8 w8.heap.size Av l ∧ Has w8 w6.heap.size 26 (bcells z.t A5 qs.length c5 z.r.heat z.r.room) ∧ Has w8 (w6.heap.size + 1) 31 (scells z.r.s)) :=
            ⟨HK9.out.2.2.1.step hb8, HK9.out.2.2.2.1.below hb8 HK9.out.2.2.2.1.lt, HK9.out.2.2.2.2.below hb8 HK9.out.2.2.2.2.lt⟩
          clear hb8 H9 HK9 c0 c1 c2 c3 c4 cl k0 k1 k2 k3 k4 kl
          have c0 : w8.cell? ⟨W.heap.size, 0, none⟩ = some (.int .i64 t.v) := H8.out.b.cell 0
          have c1 : w8.cell? ⟨W.heap.size, 1, none⟩ = some (.int .i64 t.h) := H8.out.b.cell 1
          have c2 : w8.cell? ⟨W.heap.size, 2, none⟩ = some (.slice A ps.length cap) := H8.out.b.cell 2
          have c3 : w8.cell? ⟨W.heap.size, 3, none⟩ = some (.int .i64 heat) := H8.out.b.cell 3
          have c4 : w8.cell? ⟨W.heap.size, 4, none⟩ = some (.int .i64 hroom) := H8.out.b.cell 4
          have cl := H8.out.b.lt
          go_wp2_with fail
          refine (HC.out _ H8.out.p H8.out.e).mono fun r w9 hpl0 => ?_
          obtain ⟨A6, c6, qs6, rfl, hqm6, hb9, -, hq6⟩ := play_end hpl0
          have hl6 : qs6.length = qs.length := by
            have e1 := congrArg List.length hqm6
            have e2 := congrArg List.length HZ.out.2.2.2
            rw [List.length_map] at e1 e2
            rw [← HZ.out.1] at e1
            omega
          rw [← HZ.out.1, ← HZ.out.2.1, ← HZ.out.2.2.1, hl6]
          rw [← HZ.out.1] at hq6
          have hb10 : Below w9.heap.size w9 ((w9.alloc (.cells (bcells z.t A6 qs.length c6 z.r.heat z.r.room) 26)).alloc (.cells (scells z.r.s) 31)) := (below_one _ _).alloc (by simp) _
          have H10 := Lib.hid ((H8.out.step hb9).step hb10)
          have HK10 : Hid (ERow ((w9.alloc (.cells (bcells z.t A6 qs.length c6 z.r.heat z.r.room) 26)).alloc (.cells (scells z.r.s) 31)) ((w9.alloc (.cells (bcells z.t A6 qs.length c6 z.r.heat z.r.room) 26)).alloc (.cells (scells z.r.s) 31)).heap.size Av l ∧ Has ((w9.alloc (.cells (bcells z.t A6 qs.length c6 z.r.heat z.r.room) 26)).alloc (.cells (scells z.r.s) 31)) w6.heap.size 26 (bcells z.t A5 qs.length c5 z.r.heat z.r.room) ∧ Has ((w9.alloc (.cells (bcells z.t A6 qs.length c6 z.r.heat z.r.room) 26)).alloc (.cells (scells z.r.s) 31)) (w6.heap.size + 1) 31 (scells z.r.s) ∧ Has ((w9.alloc (.cells (bcells z.t A6 qs.length c6 z.r.heat z.r.room) 26)).alloc (.cells (scells z.r.s) 31)) w9.heap.size 26 (bcells z.t A6 qs.length c6 z.r.heat z.r.room) ∧ Has ((w9.alloc (.cells (bcells z.t A6 qs.length c6 z.r.heat z.r.room) 26)).alloc (.cells (scells z.r.s) 31)) (w9.heap.size + 1) 31 (scells z.r.s) ∧ PRow ((w9.alloc (.cells (bcells z.t A6 qs.length c6 z.r.heat z.r.room) 26)).alloc (.cells (scells z.r.s) 31)) ((w9.alloc (.cells (bcells z.t A6 qs.length c6 z.r.heat z.r.room) 26)).alloc (.cells (scells z.r.s) 31)).heap.size A6 z.ps) :=
            ⟨(HK8.out.1.step hb9).step hb10, (HK8.out.2.1.below hb9 HK8.out.2.1.lt).below hb10 (HK8.out.2.1.below hb9 HK8.out.2.1.lt).lt, (HK8.out.2.2.below hb9 HK8.out.2.2.lt).below hb10 (HK8.out.2.2.below hb9 HK8.out.2.2.lt).lt, (Has.new _ _ _).alloc _, Has.newAt (by simp), hq6.step hb10⟩
          clear hpl0 hb9 hb10 hq6 hqm6 H8 HK8 c0 c1 c2 c3 c4 cl
          go_wp2_with fail
          generalize ((w9.alloc (.cells (bcells z.t A6 qs.length c6 z.r.heat z.r.room) 26)).alloc (.cells (scells z.r.s) 31)) = w10 at H10 HK10 ⊢
          have hlz : z.ps.length = qs.length := by
            have := congrArg List.length HZ.out.2.2.2
            rw [List.length_map] at this
            omega
          go_loopw [108] (fun j wr => ∃ m : Nat, m ≤ l.length ∧ j = .int .i64 m ∧ Hid (Below w10.heap.size w10 wr)) (fun j _ => l.length - (intOf j).toNat)
          case atStart => exact ⟨0, Nat.zero_le _, rfl, Below.refl _ _⟩
          case round =>
            obtain ⟨m, hm, rfl, HJ⟩ := hrel
            by_cases hml : m < l.length
            · have hml' : (m : Int) < l.length := by omega
              obtain ⟨ga, oa, eA, hga, a0, a1, a2, a3⟩ := (HK10.out.1.below HJ.out) m hml
              obtain ⟨gb, ob, eB, hgb, b0, b1, b2, b3⟩ := (H10.out.e.below HJ.out) m hml
              have hsj := HJ.out.size
              obtain ⟨y, hy⟩ : ∃ y, y = l[m] := ⟨_, rfl⟩
              rw [← hy] at a0 a1 a2 a3 b0 b1 b2 b3
              subst eA eB
              have hga' : ga < wr.heap.size := by omega
              have hgb' : gb < wr.heap.size := by omega
              have hq56 := neq56 y.k y.p y.a y.h
              clear hy
              go_wp2_with fail
              refine still_all (by kernel_rfl) (by kernel_rfl) ?_
              repeat still_step
              refine wpStill_nil ?_
              go_wp2_with fail
              go_roundw
              case rel => exact ⟨m + 1, by omega, by go_num, below_dr HJ.out⟩
              case measure => simp [intOf]; omega
            · obtain ⟨w11, rfl⟩ : ∃ w11, w11 = wr := ⟨_, rfl⟩
              have H11 := Lib.hid (H10.out.step HJ.out).bl
              have HK11 : Hid (Has w11 w6.heap.size 26 (bcells z.t A5 qs.length c5 z.r.heat z.r.room) ∧ Has w11 (w6.heap.size + 1) 31 (scells z.r.s) ∧ Has w11 w9.heap.size 26 (bcells z.t A6 qs.length c6 z.r.heat z.r.room) ∧ Has w11 (w9.heap.size + 1) 31 (scells z.r.s) ∧ PRow w11 w11.heap.size A6 z.ps) :=
                ⟨HK10.out.2.1.below HJ.out HK10.out.2.1.lt, HK10.out.2.2.1.below HJ.out HK10.out.2.2.1.lt, HK10.out.2.2.2.1.below HJ.out HK10.out.2.2.2.1.lt, HK10.out.2.2.2.2.1.below HJ.out HK10.out.2.2.2.2.1.lt, HK10.out.2.2.2.2.2.step HJ.out⟩
              have e2 : w11.cell? ⟨w6.heap.size, 2, none⟩ = some (.slice A5 qs.length c5) := HK11.out.1.cell 2
              have f2 : w11.cell? ⟨w9.heap.size, 2, none⟩ = some (.slice A6 qs.length c6) := HK11.out.2.2.1.cell 2
              have el := HK11.out.1.lt
              have fl := HK11.out.2.2.1.lt
              clear HJ HK10 H10
              go_wp2_with fail
              go_loopw [131] (fun j wr => ∃ n : Nat, n ≤ qs.length ∧ j = .int .i64 n ∧ Hid (Below w11.heap.size w11 wr)) (fun j _ => qs.length - (intOf j).toNat)
              case atStart => exact ⟨0, Nat.zero_le _, rfl, Below.refl _ _⟩
              case round =>
                obtain ⟨n, hn, rfl, HL⟩ := hrel
                have hsl := HL.out.size
                by_cases hnl : n < qs.length
                · have hnl' : (n : Int) < qs.length := by omega
                  obtain ⟨g, o, Aq, cq, eA, hg, d0, d1, -⟩ := (HK11.out.2.2.2.2.below HL.out) n (by omega)
                  obtain ⟨p, hp⟩ : ∃ p, p = z.ps[n]'(by omega) := ⟨_, rfl⟩
                  have hr1 := (HR.out.2 p (by rw [hp]; exact List.getElem_mem _)).1
                  rw [← hp] at d0 d1
                  subst eA
                  have hg' : g < wr.heap.size := by omega
                  have hq1 : decide (p.room < 1) = false := by simp; omega
                  clear hp
                  go_wp2_with fail
                  go_roundw
                  case rel => exact ⟨n + 1, by omega, by go_num, HL.out.alloc hsl _⟩
                  case measure => simp [intOf]; omega
                · have hS : Hid (Below W.heap.size W wr ∧ Has wr (w6.heap.size + 1) 31 (scells z.r.s) ∧ Has wr (w9.heap.size + 1) 31 (scells z.r.s)) :=
                    ⟨H11.out.trans (HL.out.mono H11.out.size), HK11.out.2.1.below HL.out HK11.out.2.1.lt, HK11.out.2.2.2.1.below HL.out HK11.out.2.2.2.1.lt⟩
                  clear HL HK11 H11 e2 f2 el fl
                  have f0 : wr.cell? ⟨w6.heap.size + 1, 0, none⟩ = some (.int .i64 z.r.s.wa) := hS.out.2.1.cell 0
                  have f1 : wr.cell? ⟨w6.heap.size + 1, 1, none⟩ = some (.int .i64 z.r.s.lv) := hS.out.2.1.cell 1
                  have f2 : wr.cell? ⟨w6.heap.size + 1, 2, none⟩ = some (.int .i64 z.r.s.lh) := hS.out.2.1.cell 2
                  have f3 : wr.cell? ⟨w6.heap.size + 1, 3, none⟩ = some (.int .i64 z.r.s.fv) := hS.out.2.1.cell 3
                  have f4 : wr.cell? ⟨w6.heap.size + 1, 4, none⟩ = some (.int .i64 z.r.s.fh) := hS.out.2.1.cell 4
                  have f5 : wr.cell? ⟨w6.heap.size + 1, 5, none⟩ = some (.int .i64 z.r.s.ch) := hS.out.2.1.cell 5
                  have f6 : wr.cell? ⟨w6.heap.size + 1, 6, none⟩ = some (.int .i64 z.r.s.ai) := hS.out.2.1.cell 6
                  have f7 : wr.cell? ⟨w6.heap.size + 1, 7, none⟩ = some (.int .i64 z.r.s.us) := hS.out.2.1.cell 7
                  have f8 : wr.cell? ⟨w6.heap.size + 1, 8, none⟩ = some (.int .i64 z.r.s.bo) := hS.out.2.1.cell 8
                  have g0 : wr.cell? ⟨w9.heap.size + 1, 0, none⟩ = some (.int .i64 z.r.s.wa) := hS.out.2.2.cell 0
                  have g1 : wr.cell? ⟨w9.heap.size + 1, 1, none⟩ = some (.int .i64 z.r.s.lv) := hS.out.2.2.cell 1
                  have g2 : wr.cell? ⟨w9.heap.size + 1, 2, none⟩ = some (.int .i64 z.r.s.lh) := hS.out.2.2.cell 2
                  have g3 : wr.cell? ⟨w9.heap.size + 1, 3, none⟩ = some (.int .i64 z.r.s.fv) := hS.out.2.2.cell 3
                  have g4 : wr.cell? ⟨w9.heap.size + 1, 4, none⟩ = some (.int .i64 z.r.s.fh) := hS.out.2.2.cell 4
                  have g5 : wr.cell? ⟨w9.heap.size + 1, 5, none⟩ = some (.int .i64 z.r.s.ch) := hS.out.2.2.cell 5
                  have g6 : wr.cell? ⟨w9.heap.size + 1, 6, none⟩ = some (.int .i64 z.r.s.ai) := hS.out.2.2.cell 6
                  have g7 : wr.cell? ⟨w9.heap.size + 1, 7, none⟩ = some (.int .i64 z.r.s.us) := hS.out.2.2.cell 7
                  have g8 : wr.cell? ⟨w9.heap.size + 1, 8, none⟩ = some (.int .i64 z.r.s.bo) := hS.out.2.2.cell 8
                  have fl := hS.out.2.1.lt
                  have gl := hS.out.2.2.lt
                  have hq31 : ∀ w, (binOp .eql 31 (smv z.r.s) (smv z.r.s)).run Try.prog w = .ok (.bool true) w := fun w => eql31s z.r.s w
                  go_wp2_with fail
                  refine (alive_any _).mono ?_
                  rintro e wb ⟨rfl, hb⟩
                  have HB := Lib.hid (hS.out.1.trans (hb.mono hS.out.1.size))
                  clear hb
                  go_wp2_with fail
                  go_ret
                  exact ⟨rfl, HB.out⟩
end Go.Proofs.Ytjfopmjphiddiaa
