/- Contracts: DeleteFunc and Clone at games, amongSame. -/
import Derived.Test.YtljkgjfmambfoaaDoorLgN
namespace Go.Proofs.YtljkgjfmambfoaaDoor
open Go.RowKit Go.Shelf
attribute [local irreducible] wpQuiet
theorem put_eq (w : World) (g o : Nat) (v : Gm) : w.setCells g o (gmc v).toList = (((((w.setCell ⟨g, o, none⟩ (.int .i64 v.day)).setCell ⟨g, o + 1, none⟩ (.int .i64 v.home)).setCell ⟨g, o + 2, none⟩ (.int .i64 v.away)).setCell ⟨g, o + 3, none⟩ (.int .i64 v.fin)).setCell ⟨g, o + 4, none⟩ (.int .i64 v.hg)).setCell ⟨g, o + 5, none⟩ (.int .i64 v.ag) := rfl
/-- DeleteFunc, at work -/
structure DlI (W w : World) (g Bp : Nat) (P : Pt) (G R : List Gm) (i j : Nat) : Prop where
  o : Only (· = g) W w
  r : GB w g R
  fp : Has w Bp 77 (ptc P)
  l : R.length = G.length
  t : R.take i = (G.take j).filter fun v => !pdB P v
  d : R.drop j = G.drop j
  ij : i < j
  ne : ¬ Bp = g
section
variable {W w w' : World} {g Bp : Nat} {P : Pt} {G R : List Gm} {i j : Nat}
theorem DlI.step (h : DlI W w g Bp P G R i j) (hb : Below w.heap.size w w') : DlI W w' g Bp P G R i j := ⟨h.o.andBelow hb, h.r.below hb, h.fp.below hb h.fp.lt, h.l, h.t, h.d, h.ij, h.ne⟩
theorem DlI.at_ (h : DlI W w g Bp P G R i j) (hj : j < G.length) : ∃ h : j < R.length, R[j] = G[j] := by
  have hl := h.l
  refine ⟨by omega, ?_⟩
  have := congrArg (fun l => l[0]?) h.d
  simp only [List.getElem?_drop, Nat.add_zero] at this
  rw [List.getElem?_eq_getElem (by omega), List.getElem?_eq_getElem hj] at this
  exact Option.some.inj this
theorem drop_succ {l m : List Gm} {j : Nat} (h : l.drop j = m.drop j) : l.drop (j + 1) = m.drop (j + 1) := by
  have := congrArg (List.drop 1) h
  simpa [List.drop_drop, Nat.add_comm] using this
theorem DlI.skip (h : DlI W w g Bp P G R i j) (hj : j < G.length) (hp : pdB P G[j] = true) : DlI W w g Bp P G R i (j + 1) := by
  refine ⟨h.o, h.r, h.fp, h.l, ?_, drop_succ h.d, by have := h.ij; omega, h.ne⟩
  rw [h.t, List.take_succ_eq_append_getElem hj, List.filter_append]
  simp [hp]
theorem DlI.keep (h : DlI W w g Bp P G R i j) (hj : j < G.length) (hp : pdB P G[j] = false) : DlI W (w.setCells g (i * 6) (gmc G[j]).toList) g Bp P G (R.set i G[j]) (i + 1) (j + 1) := by
  have hl := h.l
  have hij := h.ij
  have ho := only_setCells g (gmc G[j]).toList (i * 6) w
  refine ⟨h.o.trans ho, h.r.put i _, h.fp.only ho h.ne, by rw [List.length_set]; exact hl, ?_, ?_, by omega, h.ne⟩
  · rw [List.take_succ_eq_append_getElem (by rw [List.length_set]; omega), List.getElem_set_self, List.take_set_of_le (Nat.le_refl _), h.t, List.take_succ_eq_append_getElem hj, List.filter_append]
    simp [hp]
  · rw [List.drop_set_of_lt (by omega)]
    exact drop_succ h.d
end
def DelPost (P : Pt) (G : List Gm) (g : Nat) (W : World) (e : Ending) (W' : World) : Prop :=
  ∃ n c, e = .returned (.slice (some ⟨g, 0, none⟩) n c) ∧ n = (sameG G P).length ∧ GB W' g (sameG G P) ∧ Only (· = g) W W'
theorem filter_none {G : List Gm} {P : Pt} (h : ∀ j (h : j < G.length), pdB P G[j] = false) : sameG G P = G := by
  rw [same_eq, List.filter_eq_self]
  intro v hv
  obtain ⟨j, hj, rfl⟩ := List.getElem_of_mem hv
  rw [h j hj]; rfl
theorem filter_first {G : List Gm} {P : Pt} {i : Nat} (hi : i < G.length) (hp : pdB P G[i] = true) (h : ∀ j (h : j < i), pdB P (G[j]'(by omega)) = false) : G.take i = (G.take (i + 1)).filter fun v => !pdB P v := by
  rw [List.take_succ_eq_append_getElem hi, List.filter_append]
  have h1 : (G.take i).filter (fun v => !pdB P v) = G.take i := by
    rw [List.filter_eq_self]
    intro v hv
    obtain ⟨j, hj, rfl⟩ := List.getElem_of_mem hv
    rw [List.getElem_take]
    rw [List.length_take] at hj
    rw [h j (by omega)]; rfl
  rw [h1]
  simp [hp]
set_option maxRecDepth 100000 in
set_option maxHeartbeats 4000000 in
theorem deleteFunc_any (G : List Gm) (g cap : Nat) (P : Pt) (Bp : Nat) (W : World) (hr : GB W g G) (hp : Has W Bp 77 (ptc P)) (hne : ¬ Bp = g) (hG : ∀ g ∈ G, okG g) (hl : G.length ≤ 64) (hcap : G.length ≤ cap) :
    Calls Tryd.prog 74 #[.slice (some ⟨g, 0, none⟩) G.length cap, .func (.func 73) #[] #[.pointer (some ⟨Bp, 0, none⟩)]] W (DelPost P G g W) := by
  have HR := Lib.hid (And.intro hr (And.intro hp hne))
  have HI := Lib.hid (indexFunc_any G (some ⟨g, 0, none⟩) cap P Bp W hr.row hp hG hl)
  unfold IdxPost at HI
  have HD := Lib.hid (fun v w (h : Has w Bp 77 (ptc P)) (hv : okG v) => differ_any v P Bp w h hv)
  have HG := Lib.hid hG
  clear hr hp hne hG
  go_enter Tryd.func74, Tryd.ntmps74
  go_wp2_with fail
  refine HI.out.mono ?_
  rintro e w1 ⟨r, rfl, hcase, hb1⟩
  rcases hcase with ⟨rfl, hno⟩ | ⟨i, rfl, hi, hpi, hno⟩
  · have HN := Lib.hid (And.intro (filter_none hno) hb1)
    clear hno hb1 HI
    go_wp2_with fail
    go_ret
    exact ⟨G.length, cap, rfl, by rw [HN.out.1], by rw [HN.out.1]; exact HR.out.1.below HN.out.2, Only.of_below HN.out.2⟩
  have H1 := Lib.hid (show DlI W w1 g Bp P G G i (i + 1) from ⟨Only.of_below hb1, HR.out.1.below hb1, HR.out.2.1.below hb1 HR.out.2.1.lt, rfl, filter_first hi hpi hno, rfl, Nat.lt_succ_self i, HR.out.2.2⟩)
  have hir : ((i : Int) == -1) = false := by simp
  have HIL := Lib.hid hi
  clear hno hb1 HI hpi HR
  go_wp2_with fail
  go_loopg [5, 6] G.length (fun gk ti tj wr => ∃ i j R, j ≤ G.length ∧ G.length - j ≤ gk ∧ ti = .int .i64 ((i : Nat) : Int) ∧ tj = .int .i64 ((j : Nat) : Int) ∧ Hid (DlI W wr g Bp P G R i j))
  case atStart => exact ⟨i, i + 1, G, by omega, by omega, rfl, by go_num, H1⟩
  case round =>
    clear H1 hir hi HIL
    obtain ⟨i, j, R, hj, hgk, rfl, rfl, HB⟩ := hrel
    have hij := HB.out.ij
    by_cases hlt : j < G.length
    rotate_left
    · have hge : ¬ (j : Int) < G.length := by omega
      obtain rfl : j = G.length := by omega
      have hin : i < G.length := hij
      have HF : Hid (sameG G P = R.take i ∧ (R.take i).length = i) := Lib.hid ⟨by rw [HB.out.t, List.take_of_length_le (Nat.le_refl _), same_eq], by rw [List.length_take, HB.out.l]; omega⟩
      obtain ⟨vs, hvs⟩ : ∃ vs, ∀ ty, (Builtin.clear_ #[23] ty #[.slice (some ⟨g, i * 6, none⟩) (G.length - i) (cap - i)]).run Tryd.prog wr = .ok (.tuple #[]) (wr.setCells g (i * 6) vs) := by
        have hcl : ∀ k, k < (G.length - i) * 6 → (wr.cell? ⟨g, i * 6 + k, none⟩).isSome = true := fun k hk => by
          have h1 : (i * 6 + k) / 6 < R.length := by rw [HB.out.l]; omega
          have h2 := HB.out.r.c ((i * 6 + k) / 6) h1 ((i * 6 + k) % 6) (Nat.mod_lt _ (by omega))
          rw [show (i * 6 + k) / 6 * 6 + (i * 6 + k) % 6 = i * 6 + k by omega] at h2
          rw [h2]
          have hm : (i * 6 + k) % 6 < 6 := Nat.mod_lt _ (by omega)
          match (i * 6 + k) % 6, hm with
          | 0, _ => rfl
          | 1, _ => rfl
          | 2, _ => rfl
          | 3, _ => rfl
          | 4, _ => rfl
          | 5, _ => rfl
        obtain ⟨vs, h⟩ := run_clear_games wr 0 g (i * 6) (G.length - i) (cap - i) (by omega) hcl (fun k => HB.out.r.f _)
        exact ⟨vs, fun ty => h⟩
      have HE := Lib.hid (show GB (wr.setCells g (i * 6) vs) g (sameG G P) ∧ Only (· = g) W (wr.setCells g (i * 6) vs) from ⟨by rw [HF.out.1]; exact HB.out.r.clear i vs, HB.out.o.trans (only_setCells g vs (i * 6) wr)⟩)
      have q1 : (i : Int) ≤ G.length := by omega
      have q2 : (i : Int) ≤ cap := by omega
      have q3 : ¬ cap = i := by omega
      have q4 : i ≤ cap := by omega
      have q5 : i ≤ G.length := by omega
      have q6 : (G.length : Int) ≤ cap := by omega
      clear HB hge hlt hgk hj hij
      go_wp2_with fail
      go_ret
      exact ⟨i, cap, rfl, by rw [HF.out.1, HF.out.2], HE.out.1, HE.out.2⟩
    have hlt2 : (j : Int) < G.length := by omega
    obtain ⟨hjR, hRj⟩ := HB.out.at_ hlt
    have hc : ∀ n, n < 6 → wr.cell? ⟨g, j * 6 + n, none⟩ = (gmc G[j])[n]? := fun n hn => by rw [← hRj]; exact HB.out.r.c j hjR n hn
    have HKP := Lib.hid (fun (h : pdB P G[j] = false) w (H : DlI W w g Bp P G R i j) => H.keep hlt h)
    have HSK := Lib.hid (fun (h : pdB P G[j] = true) w (H : DlI W w g Bp P G R i j) => H.skip hlt h)
    obtain ⟨v, hb⟩ : ∃ v, v = G[j] := ⟨_, rfl⟩
    rw [← hb] at hc HKP HSK
    have HGk : Hid (okG v) := Lib.hid (by rw [hb]; exact HG.out _ (List.getElem_mem hlt))
    have c0 : wr.cell? ⟨g, j * 6, none⟩ = some (.int .i64 v.day) := hc 0 (by omega)
    have c1 : wr.cell? ⟨g, j * 6 + 1, none⟩ = some (.int .i64 v.home) := hc 1 (by omega)
    have c2 : wr.cell? ⟨g, j * 6 + 2, none⟩ = some (.int .i64 v.away) := hc 2 (by omega)
    have c3 : wr.cell? ⟨g, j * 6 + 3, none⟩ = some (.int .i64 v.fin) := hc 3 (by omega)
    have c4 : wr.cell? ⟨g, j * 6 + 4, none⟩ = some (.int .i64 v.hg) := hc 4 (by omega)
    have c5 : wr.cell? ⟨g, j * 6 + 5, none⟩ = some (.int .i64 v.ag) := hc 5 (by omega)
    have hjRl := HB.out.l
    have HRL := Lib.hid hjRl
    clear hb hc hRj hjR hjRl
    have HB1 : Hid (DlI W (wr.alloc (.cells (gmc v) 53)) g Bp P G R i j ∧ Has (wr.alloc (.cells (gmc v) 53)) wr.heap.size 53 (gmc v) ∧ g < wr.heap.size) := Lib.hid ⟨HB.out.step (below_one _ _), Has.new _ _ _, HB.out.r.lt⟩
    go_upto_region 8 with fail
    generalize wr.alloc (.cells (gmc v) 53) = w2 at HB1 ⊢
    generalize wr.heap.size = E at HB1 ⊢
    clear c0 c1 c2 c3 c4 c5 HB
    have y0 : w2.cell? ⟨E, 0, none⟩ = some (.int .i64 v.day) := HB1.out.2.1.cell 0
    have y1 : w2.cell? ⟨E, 1, none⟩ = some (.int .i64 v.home) := HB1.out.2.1.cell 1
    have y2 : w2.cell? ⟨E, 2, none⟩ = some (.int .i64 v.away) := HB1.out.2.1.cell 2
    have y3 : w2.cell? ⟨E, 3, none⟩ = some (.int .i64 v.fin) := HB1.out.2.1.cell 3
    have y4 : w2.cell? ⟨E, 4, none⟩ = some (.int .i64 v.hg) := HB1.out.2.1.cell 4
    have y5 : w2.cell? ⟨E, 5, none⟩ = some (.int .i64 v.ag) := HB1.out.2.1.cell 5
    have HDk := Lib.hid (HD.out v w2 HB1.out.1.fp HGk.out)
    unfold gmv at HDk
    cases hpd : pdB P v <;> rw [hpd] at HDk
    · have HKv := Lib.hid (fun w H => HKP.out hpd w H)
      clear hpd HSK HKP
      go_wp2_with fail
      refine HDk.out.mono ?_
      rintro e w3 ⟨rfl, hb3⟩
      have H3 := Lib.hid (show DlI W w3 g Bp P G R i j ∧ Has w3 E 53 (gmc v) from ⟨HB1.out.1.step hb3, HB1.out.2.1.below hb3 HB1.out.2.1.lt⟩)
      clear hb3 y0 y1 y2 y3 y4 y5 HDk HB1
      have y0 : w3.cell? ⟨E, 0, none⟩ = some (.int .i64 v.day) := H3.out.2.cell 0
      have y1 : w3.cell? ⟨E, 1, none⟩ = some (.int .i64 v.home) := H3.out.2.cell 1
      have y2 : w3.cell? ⟨E, 2, none⟩ = some (.int .i64 v.away) := H3.out.2.cell 2
      have y3 : w3.cell? ⟨E, 3, none⟩ = some (.int .i64 v.fin) := H3.out.2.cell 3
      have y4 : w3.cell? ⟨E, 4, none⟩ = some (.int .i64 v.hg) := H3.out.2.cell 4
      have y5 : w3.cell? ⟨E, 5, none⟩ = some (.int .i64 v.ag) := H3.out.2.cell 5
      have hin : (i : Int) < G.length := by omega
      have hin2 : i < R.length := by rw [HRL.out]; omega
      obtain ⟨u, hu⟩ : ∃ u, u = R[i] := ⟨_, rfl⟩
      have ho : ∀ n, n < 6 → w3.cell? ⟨g, i * 6 + n, none⟩ = (gmc u)[n]? := fun n hn => by rw [hu]; exact H3.out.1.r.c i hin2 n hn
      have o0 : w3.cell? ⟨g, i * 6, none⟩ = some (.int .i64 u.day) := ho 0 (by omega)
      have o1 : w3.cell? ⟨g, i * 6 + 1, none⟩ = some (.int .i64 u.home) := ho 1 (by omega)
      have o2 : w3.cell? ⟨g, i * 6 + 2, none⟩ = some (.int .i64 u.away) := ho 2 (by omega)
      have o3 : w3.cell? ⟨g, i * 6 + 3, none⟩ = some (.int .i64 u.fin) := ho 3 (by omega)
      have o4 : w3.cell? ⟨g, i * 6 + 4, none⟩ = some (.int .i64 u.hg) := ho 4 (by omega)
      have o5 : w3.cell? ⟨g, i * 6 + 5, none⟩ = some (.int .i64 u.ag) := ho 5 (by omega)
      have f0 := H3.out.1.r.f (i * 6)
      have f1 := H3.out.1.r.f (i * 6 + 1)
      have f2 := H3.out.1.r.f (i * 6 + 2)
      have f3 := H3.out.1.r.f (i * 6 + 3)
      have f4 := H3.out.1.r.f (i * 6 + 4)
      have f5 := H3.out.1.r.f (i * 6 + 5)
      have fl := H3.out.1.r.lt
      have H4 := Lib.hid (HKv.out w3 H3.out.1)
      rw [put_eq] at H4
      clear hin2 hu ho H3
      go_wp2_with fail
      go_roundg (G.length - (j + 1))
      case measure => omega
      case rel => exact ⟨i + 1, j + 1, _, by omega, Nat.le_refl _, by go_num, by go_num, H4⟩
    · have HKv := Lib.hid (fun w H => HSK.out hpd w H)
      clear hpd HSK HKP
      go_wp2_with fail
      refine HDk.out.mono ?_
      rintro e w3 ⟨rfl, hb3⟩
      have H3 := Lib.hid (HKv.out w3 (HB1.out.1.step hb3))
      clear hb3 y0 y1 y2 y3 y4 y5 HDk HB1
      go_wp2_with fail
      go_roundg (G.length - (j + 1))
      case measure => omega
      case rel => exact ⟨i, j + 1, R, by omega, Nat.le_refl _, rfl, by go_num, H3⟩
set_option maxRecDepth 100000 in
set_option maxHeartbeats 1000000 in
theorem deleteFunc_nil (A : Option Addr) (cap : Nat) (P : Pt) (Bp : Nat) (W : World) (hp : Has W Bp 77 (ptc P)) :
    Calls Tryd.prog 74 #[.slice A 0 cap, .func (.func 73) #[] #[.pointer (some ⟨Bp, 0, none⟩)]] W fun e w' => e = .returned (.slice A 0 cap) ∧ Below W.heap.size W w' := by
  have HI := Lib.hid (indexFunc_any [] A cap P Bp W (GRow.nil _ _ _) hp (fun _ h => by cases h) (by simp))
  unfold IdxPost at HI
  simp only [List.length_nil] at HI
  clear hp
  go_enter Tryd.func74, Tryd.ntmps74
  go_wp2_with fail
  refine HI.out.mono ?_
  rintro e w1 ⟨r, rfl, hcase, hb1⟩
  have hr : r = -1 := by
    rcases hcase with ⟨h, -⟩ | ⟨i, -, hi, -⟩
    · exact h
    · exact absurd hi (by simp)
  have HB := Lib.hid hb1
  subst hr
  clear hcase hb1 HI
  go_wp2_with fail
  go_ret
  exact ⟨rfl, HB.out⟩
/-- a copy of games -/
theorem gmc_size (g : Gm) : (gmc g).size = 6 := rfl
theorem gmc_one (g : Gm) : ∀ u ∈ (gmc g).toList, u.oneCell' = true := by
  intro u hu
  simp only [List.mem_cons, List.not_mem_nil, or_false] at hu
  rcases hu with rfl | rfl | rfl | rfl | rfl | rfl <;> rfl
theorem Tryd.info53 : (Tryd.prog.info? 53).map (fun i => (i.zero, i.size, i.bytes)) = some (some (.agg #[.int .i64 0, .int .i64 0, .int .i64 0, .int .i64 0, .int .i64 0, .int .i64 0]), 6, 48) := by kernel_rfl
def ClonePost (G : List Gm) (w : World) (e : Ending) (W' : World) : Prop := Below w.heap.size w W' ∧ ∃ v, e = .returned v ∧ W'.ownsRow w.heap.size 53 6 v G.length (nvl gmc G)
set_option maxRecDepth 100000 in
set_option maxHeartbeats 2000000 in
theorem cloneG_any (G : List Gm) (A : Option Addr) (cl : Nat) (w : World) (hr : GRow w w.heap.size A G) (hn : G.length ≤ 64) :
    Calls Tryd.prog 75 #[.slice A G.length cl] w (ClonePost G w) := by
  cases A with
  | none =>
    have h1 : G.length = 0 := nrow_none (f := gmc) (n := 6) hr rfl
    obtain rfl := List.eq_nil_of_length_eq_zero h1
    clear hr h1
    have hq : ∀ w, (binOp .eql 23 (.slice none 0 cl) (.slice none 0 0)).run Tryd.prog w = .ok (.bool true) w := fun _ => by kernel_rfl
    simp only [List.length_nil]
    go_enter Tryd.func75, Tryd.ntmps75
    go_wp2
    go_ret
    exact ⟨Below.refl _ _, _, rfl, World.ownsRow_nil _ _ _ _⟩
  | some ad =>
    have hq : ∀ w, (binOp .eql 23 (.slice (some ad) G.length cl) (.slice none 0 0)).run Tryd.prog w = .ok (.bool false) w := fun _ => by kernel_rfl
    have HR := Lib.hid hr
    have HN := Lib.hid (own_made w 53 6)
    obtain ⟨i0, hi, hz0, hz1, hz2⟩ := info_parts Tryd.info53
    obtain ⟨n, hnn⟩ : ∃ n, n = G.length := ⟨_, rfl⟩
    rw [← hnn] at hn hq ⊢
    have HL := Lib.hid hnn
    clear hr hnn
    go_enter Tryd.func75, Tryd.ntmps75
    go_wp2_with (at_builtin; refine wpList_append_own _ rfl _ _ 23 rfl w.heap.size 53 i0 (.agg #[.int .i64 0, .int .i64 0, .int .i64 0, .int .i64 0, .int .i64 0, .int .i64 0]) 6 48 Tryd.underlying23 hi hz0 hz1 hz2 rfl (by decide) _ 0 [] rfl HN.out ad n cl (nvl gmc G) rfl ?q1 ?q2 ?q3 ?q4 ?q5 ?q6 ?_)
    case q1 => rw [nvl_len gmc_size, ← HL.out]
    case q2 => exact nrow_news gmc_size (by omega) (NRow.below (f := gmc) (n := 6) HR.out (below_one w _)) ad rfl
    case q3 => exact nvl_one gmc_one G
    case q4 => unfold maxLen; omega
    case q5 => omega
    case q6 => simp
    intro v' w' ho hgr _
    have HF := Lib.hid (And.intro (copy_below hgr) ho)
    clear ho hgr
    go_wp2_with fail
    go_ret
    exact ⟨HF.out.1, v', rfl, by rw [← HL.out]; simpa using HF.out.2⟩
theorem own_gb {w : World} {B g : Nat} {cap : Nat} {G : List Gm} (h : w.ownsRow B 53 6 (.slice (some ⟨g, 0, none⟩) G.length cap) G.length (nvl gmc G)) : GB w g G ∧ B ≤ g ∧ G.length ≤ cap := by
  obtain ⟨_, (⟨e, h0⟩ | ⟨g', cap', cur, e, hb, hg, h1, h2, h3, h4⟩)⟩ := h
  · cases e
  · cases e
    have hg1 : Has w g 53 cur := hg
    refine ⟨⟨fun k hk j hj => ?_, hg1.frozen, hg1.lt⟩, hb, by omega⟩
    rw [hg1.cell]
    have hlt : k * 6 + j < G.length * 6 := by omega
    have := congrArg (fun l : List Value => l[k * 6 + j]?) h4
    simp only [List.getElem?_take_of_lt hlt] at this
    unfold nvl at this
    rw [flat_get (fun a => (gmc a).toList) 6 (fun a => rfl) G k hk j hj] at this
    simpa using this
/-- a row of games, somewhere -/
def RowPost (G : List Gm) (W : World) (e : Ending) (W' : World) : Prop := ∃ A c, e = .returned (.slice A G.length c) ∧ GRow W' W'.heap.size A G ∧ Below W.heap.size W W'
set_option maxRecDepth 100000 in
set_option maxHeartbeats 2000000 in
theorem amongSame_any (G : List Gm) (A : Option Addr) (cl : Nat) (P : Pt) (W : World) (hr : GRow W W.heap.size A G) (hG : ∀ g ∈ G, okG g) (hn : G.length ≤ 64) :
    Calls Tryd.prog 56 #[.slice A G.length cl, ptv P] W (RowPost (sameG G P) W) := by
  have HB := Lib.hid (And.intro (below_one W (.cells (ptc P) 77)) (Has.new W 77 (ptc P)))
  have HC := Lib.hid (fun w (h : Below W.heap.size W w) => cloneG_any G A cl w ((hr.below h).more h.size) hn)
  unfold ClonePost at HC
  have HDA := Lib.hid (fun g cap Bp w h1 h2 h3 h4 => deleteFunc_any G g cap P Bp w h1 h2 h3 hG hn h4)
  have HDN := Lib.hid (fun A cap Bp w h => deleteFunc_nil A cap P Bp w h)
  unfold DelPost at HDA
  clear hr hG
  unfold ptv
  go_enter Tryd.func56, Tryd.ntmps56
  go_upto_region 1 with fail
  generalize W.alloc (.cells (ptc P) 77) = w1 at HB ⊢
  go_wp2_with fail
  refine (HC.out _ HB.out.1).mono ?_
  rintro e w2 ⟨hb2, v, rfl, hown⟩
  have H2 := Lib.hid (And.intro (HB.out.1.trans (hb2.mono HB.out.1.size)) (HB.out.2.below hb2 HB.out.2.lt))
  have HBS := Lib.hid HB.out.2.lt
  obtain ⟨A2, c2, rfl, hA0, hAs⟩ := own_slice hown
  by_cases hG0 : G = []
  · subst hG0
    have HE : Hid (sameG [] P = []) := Lib.hid rfl
    have HDc := Lib.hid (HDN.out A2 c2 W.heap.size w2 H2.out.2)
    simp only [List.length_nil]
    clear hown hb2 hA0 hAs HDA HDN HC HB
    go_wp2_with fail
    refine HDc.out.mono ?_
    rintro e w3 ⟨rfl, hb3⟩
    have H3 := Lib.hid (H2.out.1.trans (hb3.mono H2.out.1.size))
    clear hb3 H2
    go_wp2_with fail
    go_ret
    exact ⟨A2, c2, by rw [HE.out]; rfl, by rw [HE.out]; exact GRow.nil _ _ _, H3.out⟩
  obtain ⟨g, hgA⟩ : ∃ g, A2 = some ⟨g, 0, none⟩ := by
    cases A2 with
    | none => exact absurd (List.eq_nil_of_length_eq_zero (hA0 rfl)) hG0
    | some ad =>
      obtain ⟨_, (⟨e, h0⟩ | ⟨g', cap', cur, e, hb, hg, h1, h2, h3, h4⟩)⟩ := hown
      · cases e
      · cases e; exact ⟨g', rfl⟩
  subst hgA
  obtain ⟨hgb, hBg, hcap⟩ := own_gb hown
  have hWg : W.heap.size < g := Nat.lt_of_lt_of_le HBS.out hBg
  have HDc := Lib.hid (HDA.out g c2 W.heap.size w2 hgb H2.out.2 (by omega) hcap)
  have HWg := Lib.hid hWg
  clear hown hb2 hA0 hAs HDA HDN HC HB hgb hBg hcap hWg
  go_wp2_with fail
  refine HDc.out.mono ?_
  rintro e w3 ⟨n, c, rfl, rfl, hgb, ho⟩
  have H3 := Lib.hid (And.intro hgb (show Below W.heap.size W w3 from H2.out.1.trans (ho.below H2.out.1.size (fun i hi e => by have e' : i = g := e; have := HWg.out; omega))))
  clear hgb ho H2
  go_wp2_with fail
  go_ret
  exact ⟨_, _, rfl, H3.out.1.row, H3.out.2⟩
end Go.Proofs.YtljkgjfmambfoaaDoor
