/- Contracts: values. -/
import Derived.Test.YtmclchaalmonnaaScL
import Derived.Test.YtmclchaalmonnaaLate
namespace Go.Proofs.Ytmclchaalmonnaa
open Go.RowKit
attribute [local irreducible] wpQuiet
def ils (l : List Int) : Array Value := (l.map (Value.int .i64)).toArray
theorem ils_set (l : List Int) (i : Nat) (n : Int) : (ils l).setIfInBounds i (.int .i64 n) = ils (l.set i n) := by
  unfold ils; rw [List.setIfInBounds_toArray, List.map_set]
theorem ils_get (l : List Int) (i : Nat) : (ils l)[i]? = (l[i]?).map (Value.int .i64) := by unfold ils; simp
theorem ils_at {l : List Int} {i : Nat} (h : i < l.length) : (ils l)[i]? = some (.int .i64 l[i]) := by rw [ils_get, List.getElem?_eq_getElem h]; rfl
theorem made_one (v : Value) (n : Nat) : madeCells #[v] (n * 1) = (List.replicate n v).toArray := by
  apply Array.ext
  · simp [madeCells]
  · intro i h1 h2
    simp [madeCells, Nat.mod_one]
theorem Try.info3 : (Try.prog.info? 3).map (fun i => (i.zero, i.size, i.bytes)) = some (some (.int .i64 0), 1, 8) := by kernel_rfl
theorem make_ints (n : Nat) (hn : n ≤ 1000000) (w : World) : (Instr.makeSlice 22 (.int .i64 n) (.int .i64 n)).run Try.prog w = .ok (.slice (some ⟨w.heap.size, 0, none⟩) n n) (w.alloc (.cells (ils (List.replicate n 0)) 3)) := by
  obtain ⟨i, hi, hz0, hz1, hz2⟩ := info_parts Try.info3
  have := run_make (P := Try.prog) w 22 3 i _ Try.underlying22 hi hz0 .i64 .i64 n n (by omega) (by omega) (by rw [hz2]; omega) (by omega)
  rw [this, hz1]
  simp only [Int.toNat_natCast]
  rw [show ils (List.replicate n 0) = (List.replicate n (Value.int .i64 0)).toArray by simp [ils], ← made_one]; rfl
theorem Try.info102 : (Try.prog.info? 102).map (fun i => (i.zero, i.size, i.bytes)) = some (some (.agg #[.int .i64 0, .int .i64 0, .int .i64 0, .bool false, .bool false, .slice none 0 0, .int .i64 0]), 7, 64) := by kernel_rfl
def zerosE (n : Nat) : Array Value := madeCells #[.int .i64 0, .int .i64 0, .int .i64 0, .bool false, .bool false, .slice none 0 0, .int .i64 0] (n * 7)
theorem zerosE_size (n : Nat) : (zerosE n).size = n * 7 := by simp [zerosE, madeCells]
theorem make_ents (n : Nat) (hn : n ≤ 1000000) (w : World) : (Instr.makeSlice 100 (.int .i64 n) (.int .i64 n)).run Try.prog w = .ok (.slice (some ⟨w.heap.size, 0, none⟩) n n) (w.alloc (.cells (zerosE n) 102)) := by
  obtain ⟨i, hi, hz0, hz1, hz2⟩ := info_parts Try.info102
  have := run_make (P := Try.prog) w 100 102 i _ Try.underlying100 hi hz0 .i64 .i64 n n (by omega) (by omega) (by rw [hz2]; omega) (by omega)
  rw [this, hz1]
  simp only [Int.toNat_natCast]
  rfl
/-- a new row of numbers -/
def RowPost (l : List Int) (W : World) (e : Ending) (W' : World) : Prop := ∃ g, W.heap.size ≤ g ∧ e = .returned (.slice (some ⟨g, 0, none⟩) l.length l.length) ∧ Has W' g 3 (ils l) ∧ Below W.heap.size W W'
/-- the entries written so far -/
structure DW (W w : World) (D : Nat) (n k : Nat) (E : List En) (cs : Array Value) : Prop where
  fd : Has w D 102 cs
  sz : cs.size = n * 7
  w : ∀ i (h : i < E.length), i < k → ∀ j, j < 7 → cs[i * 7 + j]? = (encE E[i])[j]?
/-- what values has boxed -/
structure VL (W w : World) (r : Ru) (A : Option Addr) (c : Nat) (s : Sk) (AC AP : Option Addr) (cc cp : Nat) : Prop where
  b : Below W.heap.size W w
  fr : Has w W.heap.size 24 (ruc r A c)
  fs : Has w (W.heap.size + 1) 28 (skc s AC AP cc cp)
theorem VL.step {W w w' : World} {r : Ru} {A : Option Addr} {c : Nat} {s : Sk} {AC AP : Option Addr} {cc cp : Nat} (h : VL W w r A c s AC AP cc cp) (hb : Below w.heap.size w w') : VL W w' r A c s AC AP cc cp := ⟨h.b.trans (hb.mono h.b.size), h.fr.below hb h.fr.lt, h.fs.below hb h.fs.lt⟩
/-- above both boxes -/
theorem VL.high {W w w' : World} {r : Ru} {A : Option Addr} {c : Nat} {s : Sk} {AC AP : Option Addr} {cc cp D : Nat} (h : VL W w r A c s AC AP cc cp) (hb : Below D w w') (hD : W.heap.size + 1 < D) : VL W w' r A c s AC AP cc cp := ⟨h.b.trans (hb.mono (by omega)), h.fr.below hb (by omega), h.fs.below hb hD⟩
def put7 (w : World) (D o : Nat) (a b c d e f g : Value) : World := ((((((w.setCell ⟨D, o, none⟩ a).setCell ⟨D, o + 1, none⟩ b).setCell ⟨D, o + 2, none⟩ c).setCell ⟨D, o + 3, none⟩ d).setCell ⟨D, o + 4, none⟩ e).setCell ⟨D, o + 5, none⟩ f).setCell ⟨D, o + 6, none⟩ g
theorem below_put7 {W w : World} {D B o : Nat} {a b c d e f g : Value} (h : Below B W w) (hD : B ≤ D) : Below B W (put7 w D o a b c d e f g) := ((((((h.setCell hD _).setCell hD _).setCell hD _).setCell hD _).setCell hD _).setCell hD _).setCell hD _
theorem DW.put {W w : World} {D n k : Nat} {E : List En} {cs : Array Value} (h : DW W w D n k E cs) (hk : k < E.length) (hn : E.length = n) {a b c d e f g : Value} (he : encE E[k] = [a, b, c, d, e, f, g]) : ∃ cs', DW W (put7 w D (k * 7) a b c d e f g) D n (k + 1) E cs' := by
  refine ⟨((((((cs.setIfInBounds (k * 7) a).setIfInBounds (k * 7 + 1) b).setIfInBounds (k * 7 + 2) c).setIfInBounds (k * 7 + 3) d).setIfInBounds (k * 7 + 4) e).setIfInBounds (k * 7 + 5) f).setIfInBounds (k * 7 + 6) g, ((((((h.fd.set _ _).set _ _).set _ _).set _ _).set _ _).set _ _).set _ _, by simp [h.sz], fun i hi hik j hj => ?_⟩
  rcases Nat.lt_or_ge i k with h' | h'
  · rw [← h.w i hi h' j hj]
    simp only [Array.getElem?_setIfInBounds, Array.size_setIfInBounds]
    repeat rw [if_neg (by omega)]
  · have : i = k := by omega
    subst this
    have hsz : i * 7 + 6 < cs.size := by rw [h.sz]; omega
    rw [he]
    match j, hj with
    | 0, _ => simp [Array.getElem?_setIfInBounds]; omega
    | 1, _ => simp [Array.getElem?_setIfInBounds]; omega
    | 2, _ => simp [Array.getElem?_setIfInBounds]; omega
    | 3, _ => simp [Array.getElem?_setIfInBounds]; omega
    | 4, _ => simp [Array.getElem?_setIfInBounds]; omega
    | 5, _ => simp [Array.getElem?_setIfInBounds]; omega
    | 6, _ => simp [Array.getElem?_setIfInBounds]; omega
abbrev enc7 (x : Cl) (M : Option Addr) (m el a : Nat) : Array Value := #[.int .i64 x.place, .int .i64 el, .int .i64 x.under, .bool x.late, .bool x.fall, .slice M x.marks.length m, .int .i64 a]
/-- the second loop's blocks -/
structure LW (W w : World) (r : Ru) (A : Option Addr) (c : Nat) (s : Sk) (AC AP : Option Addr) (cc cp D p q : Nat) (E' : List En) (lv tv : List Int) : Prop where
  v : VL W w r A c s AC AP cc cp
  e : ERow w D E'
  fp : Has w p 3 (ils lv)
  fq : Has w q 3 (ils tv)
  hD : W.heap.size + 1 < D
  hp : D < p
  hq : D < q
  hpq : p ≠ q
section
variable {W w w' : World} {r : Ru} {A : Option Addr} {c : Nat} {s : Sk} {AC AP : Option Addr} {cc cp D p q : Nat} {E' : List En} {lv tv : List Int}
theorem LW.step (h : LW W w r A c s AC AP cc cp D p q E' lv tv) (hb : Below w.heap.size w w') : LW W w' r A c s AC AP cc cp D p q E' lv tv :=
  ⟨h.v.step hb, h.e.below hb (Nat.lt_trans h.hp h.fp.lt), h.fp.below hb h.fp.lt, h.fq.below hb h.fq.lt, h.hD, h.hp, h.hq, h.hpq⟩
theorem LW.drew (h : LW W w r A c s AC AP cc cp D p q E' lv tv) : LW W w.drew r A c s AC AP cc cp D p q E' lv tv :=
  ⟨⟨h.v.b.drew, h.v.fr.drew, h.v.fs.drew⟩, h.e, h.fp.drew, h.fq.drew, h.hD, h.hp, h.hq, h.hpq⟩
theorem LW.setP (h : LW W w r A c s AC AP cc cp D p q E' lv tv) (i : Nat) (n : Int) : LW W (w.setCell ⟨p, i, none⟩ (.int .i64 n)) r A c s AC AP cc cp D p q E' (lv.set i n) tv := by
  have hb : Below p w (w.setCell ⟨p, i, none⟩ (.int .i64 n)) := (Below.refl p w).setCell (p := ⟨p, i, none⟩) (Nat.le_refl _) _
  have hD := h.hD
  have hp := h.hp
  exact ⟨h.v.high hb (by omega), h.e.below hb hp, by have := h.fp.set i (.int .i64 n); rwa [ils_set] at this, h.fq.far (fun e => h.hpq e.symm) _, h.hD, h.hp, h.hq, h.hpq⟩
theorem LW.setQ (h : LW W w r A c s AC AP cc cp D p q E' lv tv) (i : Nat) (n : Int) : LW W (w.setCell ⟨q, i, none⟩ (.int .i64 n)) r A c s AC AP cc cp D p q E' lv (tv.set i n) := by
  have hb : Below q w (w.setCell ⟨q, i, none⟩ (.int .i64 n)) := (Below.refl q w).setCell (p := ⟨q, i, none⟩) (Nat.le_refl _) _
  have hD := h.hD
  have hq := h.hq
  exact ⟨h.v.high hb (by omega), h.e.below hb hq, h.fp.far h.hpq _, by have := h.fq.set i (.int .i64 n); rwa [ils_set] at this, h.hD, h.hp, h.hq, h.hpq⟩
theorem LW.two {w3 : World} (h : VL W w3 r A c s AC AP cc cp) (he : ERow w3 D E') (hD : D < w3.heap.size) (hW : W.heap.size + 1 < D) (l1 l2 : List Int) : LW W ((w3.alloc (.cells (ils l1) 3)).alloc (.cells (ils l2) 3)).drew r A c s AC AP cc cp D w3.heap.size (w3.heap.size + 1) E' l1 l2 :=
  LW.drew ⟨(h.step (below_one _ _)).step (below_one _ _), (he.below (below_one _ _) hD).below (below_one _ _) (by simp; omega), (Has.new _ _ _).alloc _, has_newAt (by simp), hW, hD, by omega, by omega⟩
theorem LW.two' {w3 : World} (h : VL W w3 r A c s AC AP cc cp) (he : ERow w3 D E') (hD : D < w3.heap.size) (hW : W.heap.size + 1 < D) (l1 l2 : List Int) : LW W ((w3.alloc (.cells (ils l2) 3)).alloc (.cells (ils l1) 3)).drew r A c s AC AP cc cp D (w3.heap.size + 1) w3.heap.size E' l1 l2 :=
  LW.drew ⟨(h.step (below_one _ _)).step (below_one _ _), (he.below (below_one _ _) hD).below (below_one _ _) (by simp; omega), has_newAt (by simp), (Has.new _ _ _).alloc _, hW, by omega, hD, by omega⟩
end
set_option maxRecDepth 100000 in
set_option maxHeartbeats 4000000 in
theorem values_any (r : Ru) (A : Option Addr) (c : Nat) (s : Sk) (AC AP : Option Addr) (cc cp : Nat) (W : World) (hr : RuR W W.heap.size r A) (hs : SkR W W.heap.size s AC AP) (hvr : VR r) (hvs : VS r s) :
    Calls Try.prog 42 #[ruv r A c, skv s AC AP cc cp] W (RowPost (valsP r s) W) := by
  obtain ⟨E, hEl, hEc, hE⟩ := ents_of hs.c
  have HE := Lib.hid (And.intro hEl (And.intro hEc hE))
  have HR := Lib.hid (And.intro hr (And.intro hvr hvs))
  have HB : Hid (VL W ((W.alloc (.cells (ruc r A c) 24)).alloc (.cells (skc s AC AP cc cp) 28)) r A c s AC AP cc cp) := Lib.hid ⟨(below_one W _).alloc (by simp) _, (Has.new _ _ _).alloc _, has_newAt (by simp)⟩
  have hnc := hvs.nc
  have HMK := Lib.hid (fun w => make_ents s.calls.length (by omega) w)
  have hnb := hvr.n
  have HMI := Lib.hid (And.intro (fun w => make_ints s.calls.length (by omega) w) (fun w => make_ints r.bases.length (by omega) w))
  have HEP := Lib.hid (fun E' => ep_of (E' := E') hvs hEl hEc hE)
  have HVL := Lib.hid (fun b (x : Cl) M m w (hv : VC x) hb hm => value_any b x M m w hv hb hm)
  clear hEl hEc hE hr hvr hvs hs
  unfold ruv skv
  go_enter Try.func42, Try.ntmps42
  go_upto_region 1 with fail
  have hsz : ((W.alloc (.cells (ruc r A c) 24)).alloc (.cells (skc s AC AP cc cp) 28)).heap.size = W.heap.size + 1 + 1 := by simp
  generalize (W.alloc (.cells (ruc r A c) 24)).alloc (.cells (skc s AC AP cc cp) 28) = w0 at HB hsz ⊢
  have x0 : w0.cell? ⟨W.heap.size + 1, 0, none⟩ = some (.slice AC s.calls.length cc) := HB.out.fs.cell 0
  have hmk := HMK.out w0
  go_upto_region 2 with fail
  have HD : Hid (VL W (w0.alloc (.cells (zerosE s.calls.length) 102)) r A c s AC AP cc cp ∧ DW W (w0.alloc (.cells (zerosE s.calls.length) 102)) w0.heap.size s.calls.length 0 E (zerosE s.calls.length) ∧ W.heap.size + 1 < w0.heap.size) :=
    Lib.hid ⟨HB.out.step (below_one _ _), ⟨Has.new _ _ _, zerosE_size _, fun i _ h => absurd h (by omega)⟩, by omega⟩
  generalize zerosE s.calls.length = cs0 at HD ⊢
  obtain ⟨D, hDD⟩ : ∃ D, D = W.heap.size + 1 + 1 := ⟨_, rfl⟩
  rw [hsz, ← hDD] at HD
  rw [← hDD]
  generalize w0.alloc (.cells cs0 102) = w1 at HD ⊢
  clear hDD
  clear x0 hmk hsz HMK HB
  have x0 : w1.cell? ⟨W.heap.size + 1, 0, none⟩ = some (.slice AC s.calls.length cc) := HD.out.1.fs.cell 0
  go_wp2_with fail
  clear x0
  go_loopg [20] s.calls.length (fun gk i wr => ∃ k : Nat, k ≤ s.calls.length ∧ s.calls.length - k ≤ gk ∧ i = .int .i64 k ∧ Hid (VL W wr r A c s AC AP cc cp ∧ (∃ cs, DW W wr D s.calls.length k E cs) ∧ W.heap.size + 1 < D))
  case atStart => exact ⟨0, Nat.zero_le _, Nat.le_refl _, rfl, Lib.hid ⟨HD.out.1, ⟨_, HD.out.2.1⟩, HD.out.2.2⟩⟩
  case round =>
    obtain ⟨k, hk, hgk, rfl, HW⟩ := hrel
    by_cases hlt : k < s.calls.length
    rotate_left
    · have hge : ¬ (k : Int) < s.calls.length := by omega
      have hke : k = s.calls.length := by omega
      obtain ⟨cs, hcs⟩ := HW.out.2.1
      have hsrt := sortE_any E D s.calls.length wr (fun i hi j hj => (hcs.fd.cell _).trans (hcs.w i hi (by rw [hke, ← HE.out.1]; exact hi) j hj)) (fun i => hcs.fd.frozen i) hcs.fd.lt (by rw [HE.out.1]; omega)
      rw [HE.out.1] at hsrt
      have HS := Lib.hid hsrt
      have HW1 := Lib.hid (And.intro HW.out.1 HW.out.2.2)
      clear hsrt hcs hke HW HD
      go_wp2_with fail
      refine HS.out.mono ?_
      rintro e w3 ⟨rfl, E', hp, hsd, her, hb3, hD3⟩
      have H3 := Lib.hid (And.intro (HW1.out.1.high hb3 HW1.out.2) (And.intro her (And.intro hD3 HW1.out.2)))
      have HP := Lib.hid (HEP.out E' hp hsd)
      clear hp hsd her hb3 hD3 HS HE HEP HW1 hge hk hgk hlt
      go_upto_region 8 with fail
      have x0 : w3.cell? ⟨W.heap.size, 0, none⟩ = some (.slice A r.bases.length c) := H3.out.1.fr.cell 0
      have mk1 := HMI.out.1
      have mk2 := HMI.out.2
      go_cut [8, 9, 34, 35, 36, 37, 38, 39, 40] (fun u8 u9 u34 u35 u36 u37 u38 u39 u40 wx => ∃ p q, u8 = .slice (some ⟨p, 0, none⟩) s.calls.length s.calls.length ∧ u9 = .slice (some ⟨q, 0, none⟩) r.bases.length r.bases.length ∧ Hid (LW W wx r A c s AC AP cc cp D p q E' (List.replicate s.calls.length 0) (List.replicate r.bases.length 0)))
      case first =>
        go_region_held3 (fun w' => w'.cell? ⟨W.heap.size, 0, none⟩ = some (.slice A r.bases.length c)) (go_keep) (fail)
        all_goals (try go_wp2_with fail)
        all_goals go_meet
        all_goals first | exact ⟨_, _, rfl, rfl, Lib.hid (LW.two H3.out.1 H3.out.2.1 H3.out.2.2.1 H3.out.2.2.2 _ _)⟩ | exact ⟨_, _, rfl, rfl, Lib.hid (LW.two' H3.out.1 H3.out.2.1 H3.out.2.2.1 H3.out.2.2.2 _ _)⟩
      case rest =>
        obtain ⟨p, q, rfl, rfl, H4⟩ := hcut
        rename World => w4
        clear x0 mk1 mk2 H3 HMI
        have hEl := HP.out.len
        go_wp2_with fail
        obtain ⟨w5, rfl⟩ : ∃ w5, w5 = wr := ⟨_, rfl⟩
        go_loopg [43] s.calls.length (fun gk i wr => ∃ k : Nat, k ≤ s.calls.length ∧ s.calls.length - k ≤ gk ∧ i = .int .i64 k ∧ ∃ lv tv, Hid (LW W wr r A c s AC AP cc cp D p q E' lv tv ∧ LvP r s.calls E' k lv ∧ TvP r.bases.length E' k tv))
        case atStart => exact ⟨0, Nat.zero_le _, Nat.le_refl _, rfl, _, _, Lib.hid ⟨H4.out, LvP.start (fun j hj => (HP.out.row _ (List.getElem_mem hj)).2.2.2.2), TvP.start _ _⟩⟩
        case round =>
          obtain ⟨k, hk, hgk, rfl, lv, tv, HW⟩ := hrel
          by_cases hlt : k < s.calls.length
          rotate_left
          · have hge : ¬ (k : Int) < s.calls.length := by omega
            have hke : k = s.calls.length := by omega
            have HV : Hid (lv = valsP r s) := Lib.hid (HP.out.done lv (hke ▸ HW.out.2.1))
            have HL : Hid (lv.length = s.calls.length) := Lib.hid HW.out.2.1.1
            have HW1 := Lib.hid HW.out.1
            clear hke hk hlt hgk HW
            go_wp2_with fail
            go_ret
            refine ⟨p, by have := HW1.out.hD; have := HW1.out.hp; omega, ?_, by rw [← HV.out]; exact HW1.out.fp, HW1.out.v.b⟩
            rw [← HV.out, HL.out]; rfl
          have hlt2 : (k : Int) < s.calls.length := by omega
          have hkE : k < E'.length := by omega
          have her := HW.out.1.e k hkE
          obtain ⟨hmr, hvc, he0, he1, hatl⟩ := HP.out.row _ (List.getElem_mem hkE)
          have HAH := Lib.hid (HP.out.ah k hkE)
          have HL1 := Lib.hid (And.intro (HW.out.2.1.skip hkE) (HW.out.2.1.put hkE HP.out.nod))
          have HT1 := Lib.hid (fun (el : Nat) => HW.out.2.2.put hkE (el := el))
          obtain ⟨e, hee⟩ : ∃ e, e = E'[k] := ⟨_, rfl⟩
          rw [← hee] at her hmr hvc he0 he1 hatl HAH HL1 HT1
          clear hee
          obtain ⟨x, M, m, a⟩ := e
          dsimp only at hmr hvc he0 he1 hatl HAH HL1 HT1
          obtain ⟨el, hel⟩ : ∃ el : Nat, x.element = (el : Int) := ⟨x.element.toNat, by omega⟩
          have heln : el < r.bases.length := by omega
          obtain ⟨v, htv, hvv, hv0, hv1⟩ := HW.out.2.2.val heln
          have HTN := Lib.hid (HT1.out el hel heln htv)
          have hvm : valP r s.calls x = if v < r.most then valC (r.bases.getD el 0) x else 0 := by
            unfold valP
            rw [HAH.out, hel, hvv]
            simp
          have hbb : r.bases[el]? = some r.bases[el] := List.getElem?_eq_getElem heln
          have hbd : r.bases.getD el 0 = r.bases[el] := by simp [List.getD, hbb]
          rw [hbd] at hvm
          obtain ⟨gb, ob, hgb, hgbs, hcb⟩ := HR.out.1.b el heln
          have hbv := HR.out.2.1.b _ (List.getElem_mem heln)
          obtain ⟨bv, hbe⟩ : ∃ bv, bv = r.bases[el] := ⟨_, rfl⟩
          rw [← hbe] at hvm hcb hbv
          have HVC := Lib.hid (fun w (h : Below W.heap.size W w) => HVL.out bv x M m w hvc hbv ((hmr.below h).more h.size))
          unfold IntPost clv clc at HVC
          rw [hel] at HVC
          have hvb := val_bd hvc hbv
          have HVM := Lib.hid hvm
          generalize valC bv x = V at hvb HVC HVM
          have HC : Hid (∀ w, Below W.heap.size W w → w.cell? ⟨gb, ob + el, none⟩ = some (.int .i64 bv)) := Lib.hid fun w h => (h.cell (p := ⟨gb, _, none⟩) hgbs).trans hcb
          have HEL := Lib.hid hel
          have z0 : wr.cell? ⟨D, k * 7, none⟩ = some (.int .i64 x.place) := her 0 (by omega)
          have z1 : wr.cell? ⟨D, k * 7 + 1, none⟩ = some (.int .i64 el) := by rw [← hel]; exact her 1 (by omega)
          have z2 : wr.cell? ⟨D, k * 7 + 2, none⟩ = some (.int .i64 x.under) := her 2 (by omega)
          have z3 : wr.cell? ⟨D, k * 7 + 3, none⟩ = some (.bool x.late) := her 3 (by omega)
          have z4 : wr.cell? ⟨D, k * 7 + 4, none⟩ = some (.bool x.fall) := her 4 (by omega)
          have z5 : wr.cell? ⟨D, k * 7 + 5, none⟩ = some (.slice M x.marks.length m) := her 5 (by omega)
          have z6 : wr.cell? ⟨D, k * 7 + 6, none⟩ = some (.int .i64 a) := her 6 (by omega)
          have HX : Hid (LW W (wr.alloc (.cells (enc7 x M m el a) 102)) r A c s AC AP cc cp D p q E' lv tv ∧ Has (wr.alloc (.cells (enc7 x M m el a) 102)) wr.heap.size 102 (enc7 x M m el a) ∧ W.heap.size < wr.heap.size) :=
            Lib.hid ⟨HW.out.1.step (below_one _ _), Has.new _ _ _, by have := HW.out.1.fp.lt; have := HW.out.1.hD; have := HW.out.1.hp; omega⟩
          have HN := Lib.hid (And.intro HW.out.2.1.1 HW.out.2.2.1)
          have he2 : (el : Int) < r.bases.length := by omega
          have ha2 : (a : Int) < s.calls.length := by omega
          subst hgb
          clear her hmr hvc he0 he1 hel hbb hbd hgbs hcb hbv hbe hvm hvv HW H4 HVL
          go_upto_region 13 with fail
          clear z0 z1 z2 z3 z4 z5 z6
          unfold enc7 at HX
          generalize wr.alloc (.cells #[.int .i64 x.place, .int .i64 el, .int .i64 x.under, .bool x.late, .bool x.fall, .slice M x.marks.length m, .int .i64 a] 102) = w6 at HX ⊢
          generalize wr.heap.size = G at HX ⊢
          have t0 : w6.cell? ⟨q, el, none⟩ = some (.int .i64 v) := (HX.out.1.fq.cell _).trans (by rw [ils_get, htv]; rfl)
          have x2 : w6.cell? ⟨W.heap.size, 2, none⟩ = some (.int .i64 r.most) := HX.out.1.v.fr.cell 2
          refine still_tail 6 (by kernel_rfl) (by kernel_rfl) ?_
          simp only [List.take_succ_cons, List.take_zero, List.drop_succ_cons, List.drop_zero]
          repeat still_step
          refine wpStill_nil ?_
          by_cases hvm : v < r.most
          rotate_left
          · have HZ : Hid (valP r s.calls x = 0) := Lib.hid (by rw [HVM.out, if_neg hvm])
            have e1 : IntKind.i64.wrap (v + 1) = v + 1 := IntWalk.i64_in _ (by omega)
            have tf := HX.out.1.fq.frozen el
            have H9 := Lib.hid (HX.out.1.setQ el (v + 1)).drew
            clear HVM hv0 hv1 x2 HVC hvb
            go_wp2_with fail
            go_roundg (s.calls.length - (k + 1))
            case measure => omega
            case rel => exact ⟨k + 1, by omega, Nat.le_refl _, by go_num, lv, tv.set el (v + 1), Lib.hid ⟨H9.out, HL1.out.1 HZ.out, HTN.out⟩⟩
          · have HZ : Hid (valP r s.calls x = V) := Lib.hid (by rw [HVM.out, if_pos hvm])
            have hl0 : a < lv.length := by rw [HN.out.1]; exact hatl
            have CS : Hid (∀ w', LW W w' r (some ⟨gb, ob, none⟩) c s AC AP cc cp D p q E' lv tv → Has w' G 102 #[.int .i64 x.place, .int .i64 el, .int .i64 x.under, .bool x.late, .bool x.fall, .slice M x.marks.length m, .int .i64 a] → w'.cell? ⟨W.heap.size, 0, none⟩ = some (.slice (some ⟨gb, ob, none⟩) r.bases.length c) ∧ w'.cell? ⟨gb, ob + el, none⟩ = some (.int .i64 bv) ∧ w'.cell? ⟨G, 0, none⟩ = some (.int .i64 x.place) ∧ w'.cell? ⟨G, 1, none⟩ = some (.int .i64 el) ∧ w'.cell? ⟨G, 2, none⟩ = some (.int .i64 x.under) ∧ w'.cell? ⟨G, 3, none⟩ = some (.bool x.late) ∧ w'.cell? ⟨G, 4, none⟩ = some (.bool x.fall) ∧ w'.cell? ⟨G, 5, none⟩ = some (.slice M x.marks.length m) ∧ w'.cell? ⟨G, 6, none⟩ = some (.int .i64 a)) := Lib.hid fun w' h1 h2 => ⟨h1.v.fr.cell 0, HC.out _ h1.v.b, h2.cell 0, h2.cell 1, h2.cell 2, h2.cell 3, h2.cell 4, h2.cell 5, h2.cell 6⟩
            clear HVM x2
            go_upto_region 14 with fail
            clear hvm
            have H7 := Lib.hid (show LW W w6.drew.drew r (some ⟨gb, ob, none⟩) c s AC AP cc cp D p q E' lv tv ∧ Has w6.drew.drew G 102 #[.int .i64 x.place, .int .i64 el, .int .i64 x.under, .bool x.late, .bool x.fall, .slice M x.marks.length m, .int .i64 a] from ⟨HX.out.1.drew.drew, HX.out.2.1.drew.drew⟩)
            have K7 := Lib.hid (CS.out _ H7.out.1 H7.out.2)
            clear t0
            refine wp_region_late (fun w' : World => w'.cell? ⟨W.heap.size, 0, none⟩ = some (.slice (some ⟨gb, ob, none⟩) r.bases.length c) ∧ w'.cell? ⟨gb, ob + el, none⟩ = some (.int .i64 bv) ∧ w'.cell? ⟨G, 0, none⟩ = some (.int .i64 x.place) ∧ w'.cell? ⟨G, 1, none⟩ = some (.int .i64 el) ∧ w'.cell? ⟨G, 2, none⟩ = some (.int .i64 x.under) ∧ w'.cell? ⟨G, 3, none⟩ = some (.bool x.late) ∧ w'.cell? ⟨G, 4, none⟩ = some (.bool x.fall) ∧ w'.cell? ⟨G, 5, none⟩ = some (.slice M x.marks.length m) ∧ w'.cell? ⟨G, 6, none⟩ = some (.int .i64 a)) [12] (by kernel_rfl) ?_
            generalize w6.drew.drew = w7 at H7 K7 ⊢
            refine wpLate_take (i := 0) (oi := ?oi0r14_) (v := ?v0r14_) [11, 12] ?hi0r14_ (by kernel_rfl) (by kernel_rfl) (by kernel_rfl) (by kernel_rfl) (by kernel_rfl) ?hQ0r14_ (Or.inl ⟨?hw0r14_, ?hy0r14_⟩) K7.out ?rest0r14_
            case hi0r14_ => (simp only [List.getElem?_toArray, List.getElem?_cons_zero]; rfl)
            case hQ0r14_ => exact fun _ _ _ h => h
            case hw0r14_ => rfl
            case hy0r14_ =>
              intro w' hSw
              obtain ⟨r0, r1, r2, r3, r4, r5, r6, r7, r8⟩ := hSw
              go_simp
              try exact rfl
            try simp only [Act.put, List.setIfInBounds_toArray, List.set_cons_zero, List.set_cons_succ]
            refine wpLate_take (i := 1) (oi := ?oi1r14_) (v := ?v1r14_) [2, 11, 12] ?hi1r14_ (by kernel_rfl) (by kernel_rfl) (by kernel_rfl) (by kernel_rfl) (by kernel_rfl) ?hQ1r14_ (Or.inl ⟨?hw1r14_, ?hy1r14_⟩) K7.out ?rest1r14_
            case hi1r14_ => (simp only [List.getElem?_toArray, List.getElem?_cons_zero, List.getElem?_cons_succ]; rfl)
            case hQ1r14_ => exact fun _ _ _ h => h
            case hw1r14_ => rfl
            case hy1r14_ =>
              intro w' hSw
              obtain ⟨r0, r1, r2, r3, r4, r5, r6, r7, r8⟩ := hSw
              go_simp
              try exact rfl
            try simp only [Act.put, List.setIfInBounds_toArray, List.set_cons_zero, List.set_cons_succ]
            refine wpLate_take (i := 2) (oi := ?oi2r14_) (v := ?v2r14_) [11, 12] ?hi2r14_ (by kernel_rfl) (by kernel_rfl) (by kernel_rfl) (by kernel_rfl) (by kernel_rfl) ?hQ2r14_ (Or.inl ⟨?hw2r14_, ?hy2r14_⟩) K7.out ?rest2r14_
            case hi2r14_ => (simp only [List.getElem?_toArray, List.getElem?_cons_zero, List.getElem?_cons_succ]; rfl)
            case hQ2r14_ => exact fun _ _ _ h => h
            case hw2r14_ => rfl
            case hy2r14_ =>
              intro w' hSw
              obtain ⟨r0, r1, r2, r3, r4, r5, r6, r7, r8⟩ := hSw
              go_simp
              try exact rfl
            try simp only [Act.put, List.setIfInBounds_toArray, List.set_cons_zero, List.set_cons_succ]
            refine wpLate_take (i := 3) (oi := ?oi3r14_) (v := ?v3r14_) [4, 6, 7, 10, 11, 12] ?hi3r14_ (by kernel_rfl) (by kernel_rfl) (by kernel_rfl) (by kernel_rfl) (by kernel_rfl) ?hQ3r14_ (Or.inl ⟨?hw3r14_, ?hy3r14_⟩) K7.out ?rest3r14_
            case hi3r14_ => (simp only [List.getElem?_toArray, List.getElem?_cons_zero, List.getElem?_cons_succ]; rfl)
            case hQ3r14_ => exact fun _ _ _ h => h
            case hw3r14_ => rfl
            case hy3r14_ =>
              intro w' hSw
              obtain ⟨r0, r1, r2, r3, r4, r5, r6, r7, r8⟩ := hSw
              go_simp
              try exact rfl
            try simp only [Act.put, List.setIfInBounds_toArray, List.set_cons_zero, List.set_cons_succ]
            refine wpLate_take (i := 4) (oi := ?oi4r14_) (v := ?v4r14_) [6, 7, 10, 11, 12] ?hi4r14_ (by kernel_rfl) (by kernel_rfl) (by kernel_rfl) (by kernel_rfl) (by kernel_rfl) ?hQ4r14_ (Or.inl ⟨?hw4r14_, ?hy4r14_⟩) K7.out ?rest4r14_
            case hi4r14_ => (simp only [List.getElem?_toArray, List.getElem?_cons_zero, List.getElem?_cons_succ]; rfl)
            case hQ4r14_ => exact fun _ _ _ h => h
            case hw4r14_ => rfl
            case hy4r14_ =>
              intro w' hSw
              obtain ⟨r0, r1, r2, r3, r4, r5, r6, r7, r8⟩ := hSw
              go_simp
              try exact rfl
            try simp only [Act.put, List.setIfInBounds_toArray, List.set_cons_zero, List.set_cons_succ]
            refine wpLate_take (i := 5) (oi := ?oi5r14_) (v := ?v5r14_) [6, 7, 10, 11, 12] ?hi5r14_ (by kernel_rfl) (by kernel_rfl) (by kernel_rfl) (by kernel_rfl) (by kernel_rfl) ?hQ5r14_ (Or.inl ⟨?hw5r14_, ?hy5r14_⟩) K7.out ?rest5r14_
            case hi5r14_ => (simp only [List.getElem?_toArray, List.getElem?_cons_zero, List.getElem?_cons_succ]; rfl)
            case hQ5r14_ => exact fun _ _ _ h => h
            case hw5r14_ => rfl
            case hy5r14_ =>
              intro w' hSw
              obtain ⟨r0, r1, r2, r3, r4, r5, r6, r7, r8⟩ := hSw
              go_simp
              try exact rfl
            try simp only [Act.put, List.setIfInBounds_toArray, List.set_cons_zero, List.set_cons_succ]
            refine wpLate_take (i := 6) (oi := ?oi6r14_) (v := ?v6r14_) [7, 10, 11, 12] ?hi6r14_ (by kernel_rfl) (by kernel_rfl) (by kernel_rfl) (by kernel_rfl) (by kernel_rfl) ?hQ6r14_ (Or.inl ⟨?hw6r14_, ?hy6r14_⟩) K7.out ?rest6r14_
            case hi6r14_ => (simp only [List.getElem?_toArray, List.getElem?_cons_zero, List.getElem?_cons_succ]; rfl)
            case hQ6r14_ => exact fun _ _ _ h => h
            case hw6r14_ => rfl
            case hy6r14_ =>
              intro w' hSw
              obtain ⟨r0, r1, r2, r3, r4, r5, r6, r7, r8⟩ := hSw
              go_simp
              try exact rfl
            try simp only [Act.put, List.setIfInBounds_toArray, List.set_cons_zero, List.set_cons_succ]
            refine wpLate_take (i := 7) (oi := ?oi7r14_) (v := ?v7r14_) [10, 11, 12] ?hi7r14_ (by kernel_rfl) (by kernel_rfl) (by kernel_rfl) (by kernel_rfl) (by kernel_rfl) ?hQ7r14_ (Or.inl ⟨?hw7r14_, ?hy7r14_⟩) K7.out ?rest7r14_
            case hi7r14_ => (simp only [List.getElem?_toArray, List.getElem?_cons_zero, List.getElem?_cons_succ]; rfl)
            case hQ7r14_ => exact fun _ _ _ h => h
            case hw7r14_ => rfl
            case hy7r14_ =>
              intro w' hSw
              obtain ⟨r0, r1, r2, r3, r4, r5, r6, r7, r8⟩ := hSw
              go_simp
              try exact rfl
            try simp only [Act.put, List.setIfInBounds_toArray, List.set_cons_zero, List.set_cons_succ]
            refine wpLate_take (i := 8) (oi := ?oi8r14_) (v := ?v8r14_) [9, 10, 11, 12] ?hi8r14_ (by kernel_rfl) (by kernel_rfl) (by kernel_rfl) (by kernel_rfl) (by kernel_rfl) ?hQ8r14_ (Or.inl ⟨?hw8r14_, ?hy8r14_⟩) K7.out ?rest8r14_
            case hi8r14_ => (simp only [List.getElem?_toArray, List.getElem?_cons_zero, List.getElem?_cons_succ]; rfl)
            case hQ8r14_ => exact fun _ _ _ h => h
            case hw8r14_ => rfl
            case hy8r14_ =>
              intro w' hSw
              obtain ⟨r0, r1, r2, r3, r4, r5, r6, r7, r8⟩ := hSw
              go_simp
              try exact rfl
            try simp only [Act.put, List.setIfInBounds_toArray, List.set_cons_zero, List.set_cons_succ]
            refine wpLate_take (i := 9) (oi := ?oi9r14_) (v := ?v9r14_) [10, 11, 12] ?hi9r14_ (by kernel_rfl) (by kernel_rfl) (by kernel_rfl) (by kernel_rfl) (by kernel_rfl) ?hQ9r14_ (Or.inl ⟨?hw9r14_, ?hy9r14_⟩) K7.out ?rest9r14_
            case hi9r14_ => (simp only [List.getElem?_toArray, List.getElem?_cons_zero, List.getElem?_cons_succ]; rfl)
            case hQ9r14_ => exact fun _ _ _ h => h
            case hw9r14_ => rfl
            case hy9r14_ =>
              intro w' hSw
              obtain ⟨r0, r1, r2, r3, r4, r5, r6, r7, r8⟩ := hSw
              go_simp
              try exact rfl
            try simp only [Act.put, List.setIfInBounds_toArray, List.set_cons_zero, List.set_cons_succ]
            refine wpLate_one (i := 10) (o := ?o10r14_) (by kernel_rfl) ?ho10r14_ ?hk10r14_
            case ho10r14_ => (simp only [List.getElem?_toArray, List.getElem?_cons_zero, List.getElem?_cons_succ]; rfl)
            intro K hK
            go_simp
            refine (HVC.out _ H7.out.1.v.b).mono ?_
            rintro e W8 ⟨rfl, hb8⟩
            have H8 := Lib.hid (And.intro (H7.out.1.step hb8) (H7.out.2.below hb8 H7.out.2.lt))
            have K8 := Lib.hid (CS.out _ H8.out.1 H8.out.2)
            clear hb8 H7 K7
            go_simp
            refine hK.out _ _ (fun h => K8.out) ?_
            clear hK K
            try simp only [Act.put, List.setIfInBounds_toArray, List.set_cons_zero, List.set_cons_succ]
            refine wpLate_take (i := 11) (oi := ?oi11r14_) (v := ?v11r14_) [12] ?hi11r14_ (by kernel_rfl) (by kernel_rfl) (by kernel_rfl) (by kernel_rfl) (by kernel_rfl) ?hQ11r14_ (Or.inl ⟨?hw11r14_, ?hy11r14_⟩) K8.out ?rest11r14_
            case hi11r14_ => (simp only [List.getElem?_toArray, List.getElem?_cons_zero, List.getElem?_cons_succ]; rfl)
            case hQ11r14_ => exact fun _ _ _ h => h
            case hw11r14_ => rfl
            case hy11r14_ =>
              intro w' hSw
              obtain ⟨r0, r1, r2, r3, r4, r5, r6, r7, r8⟩ := hSw
              go_simp
              try exact rfl
            try simp only [Act.put, List.setIfInBounds_toArray, List.set_cons_zero, List.set_cons_succ]
            refine wpLate_one (i := 12) (o := ?o12r14_) (by kernel_rfl) ?ho12r14_ ?hk12r14_
            case ho12r14_ => (simp only [List.getElem?_toArray, List.getElem?_cons_zero, List.getElem?_cons_succ]; rfl)
            intro K hK
            have l0 : W8.cell? ⟨p, a, none⟩ = some (.int .i64 lv[a]) := (H8.out.1.fp.cell _).trans (ils_at hl0)
            have lf := H8.out.1.fp.frozen a
            go_simp
            refine hK.out _ _ (fun h => absurd h (by decide)) ?_
            clear hK K
            try simp only [Act.put, List.setIfInBounds_toArray, List.set_cons_zero, List.set_cons_succ]
            refine wpLate_done (by kernel_rfl) ?_ _
            try simp only [Act.put, List.setIfInBounds_toArray, List.set_cons_zero, List.set_cons_succ]
            have e1 : IntKind.i64.wrap (v + 1) = v + 1 := IntWalk.i64_in _ (by omega)
            have H9 := Lib.hid (H8.out.1.setP a V)
            clear l0 lf K8 CS
            have htv' : tv[el]? = some v := htv
            have t0 : (W8.setCell ⟨p, a, none⟩ (.int .i64 V)).cell? ⟨q, el, none⟩ = some (.int .i64 v) := (H9.out.fq.cell _).trans (by rw [ils_get, htv']; rfl)
            have tf := H9.out.fq.frozen el
            have H10 := Lib.hid (H9.out.setQ el (v + 1))
            clear hv0 hv1 HVC hvb htv' H8 hl0
            generalize W8.setCell ⟨p, a, none⟩ (.int .i64 V) = w9 at H9 H10 t0 tf ⊢
            go_wp2_with fail
            have HL2 := Lib.hid (HL1.out.2 hatl)
            rw [HZ.out] at HL2
            go_roundg (s.calls.length - (k + 1))
            case measure => omega
            case rel => exact ⟨k + 1, by omega, Nat.le_refl _, by go_num, lv.set a V, tv.set el (v + 1), Lib.hid ⟨H10.out, HL2.out, HTN.out⟩⟩
    have hlt2 : (k : Int) < s.calls.length := by omega
    obtain ⟨cs, hcs⟩ := HW.out.2.1
    have hkE : k < E.length := by rw [HE.out.1]; exact hlt
    obtain ⟨hce, hae, g, o, hg, hgs, hc, hm⟩ := HE.out.2.2 k hlt hkE
    have hc := fun j hj => (HW.out.1.b.cell (p := ⟨g, o + k * 6 + j, none⟩) hgs).trans (hc j hj)
    have HPUT := Lib.hid (fun w (h : DW W w D s.calls.length k E cs) => fun {a b c d e f g} => h.put hkE HE.out.1 (a := a) (b := b) (c := c) (d := d) (e := e) (f := f) (g := g))
    have HW1 := Lib.hid (And.intro HW.out.1 (And.intro hcs HW.out.2.2))
    obtain ⟨M, hM⟩ : ∃ M, M = E[k].M := ⟨_, rfl⟩
    obtain ⟨m, hm'⟩ : ∃ M, M = E[k].m := ⟨_, rfl⟩
    obtain ⟨x, hx⟩ : ∃ x, x = s.calls[k] := ⟨_, rfl⟩
    have HEN : Hid (encE E[k] = [.int .i64 x.place, .int .i64 x.element, .int .i64 x.under, .bool x.late, .bool x.fall, .slice M x.marks.length m, .int .i64 k]) := Lib.hid (by
      unfold encE; rw [hce, hae, ← hx, ← hM, ← hm'])
    rw [← hx, ← hM, ← hm'] at hc
    have z0 : wr.cell? ⟨g, o + k * 6, none⟩ = some (.int .i64 x.place) := hc 0 (by omega)
    have z1 : wr.cell? ⟨g, o + k * 6 + 1, none⟩ = some (.int .i64 x.element) := hc 1 (by omega)
    have z2 : wr.cell? ⟨g, o + k * 6 + 2, none⟩ = some (.int .i64 x.under) := hc 2 (by omega)
    have z3 : wr.cell? ⟨g, o + k * 6 + 3, none⟩ = some (.bool x.late) := hc 3 (by omega)
    have z4 : wr.cell? ⟨g, o + k * 6 + 4, none⟩ = some (.bool x.fall) := hc 4 (by omega)
    have z5 : wr.cell? ⟨g, o + k * 6 + 5, none⟩ = some (.slice M x.marks.length m) := hc 5 (by omega)
    have hcsz := hcs.sz
    have HDW : Hid (VL W (wr.alloc (.cells (clc x M m) 52)) r A c s AC AP cc cp ∧ DW W (wr.alloc (.cells (clc x M m) 52)) D s.calls.length k E cs ∧ Has (wr.alloc (.cells (clc x M m) 52)) wr.heap.size 52 (clc x M m)) :=
      Lib.hid ⟨HW1.out.1.step (below_one _ _), ⟨HW1.out.2.1.fd.alloc _, hcsz, HW1.out.2.1.w⟩, Has.new _ _ _⟩
    subst hg
    clear hx hM hm' hc hm hgs hce hae HW hcs
    go_upto_region 5 with fail
    clear z0 z1 z2 z3 z4 z5
    generalize wr.alloc (.cells (clc x M m) 52) = w2 at HDW ⊢
    generalize wr.heap.size = G at HDW ⊢
    have z0 : w2.cell? ⟨G, 0, none⟩ = some (.int .i64 x.place) := HDW.out.2.2.cell 0
    have z1 : w2.cell? ⟨G, 1, none⟩ = some (.int .i64 x.element) := HDW.out.2.2.cell 1
    have z2 : w2.cell? ⟨G, 2, none⟩ = some (.int .i64 x.under) := HDW.out.2.2.cell 2
    have z3 : w2.cell? ⟨G, 3, none⟩ = some (.bool x.late) := HDW.out.2.2.cell 3
    have z4 : w2.cell? ⟨G, 4, none⟩ = some (.bool x.fall) := HDW.out.2.2.cell 4
    have z5 : w2.cell? ⟨G, 5, none⟩ = some (.slice M x.marks.length m) := HDW.out.2.2.cell 5
    have hex : ∀ j, j < 7 → ∃ v, w2.cell? ⟨D, k * 7 + j, none⟩ = some v := fun j hj => ⟨cs[k * 7 + j]'(by omega), (HDW.out.2.1.fd.cell _).trans (Array.getElem?_eq_getElem _)⟩
    obtain ⟨v0, d0⟩ := hex 0 (by omega)
    obtain ⟨v1, d1⟩ := hex 1 (by omega)
    obtain ⟨v2, d2⟩ := hex 2 (by omega)
    obtain ⟨v3, d3⟩ := hex 3 (by omega)
    obtain ⟨v4, d4⟩ := hex 4 (by omega)
    obtain ⟨v5, d5⟩ := hex 5 (by omega)
    obtain ⟨v6, d6⟩ := hex 6 (by omega)
    rw [Nat.add_zero] at d0
    have f0 := HDW.out.2.1.fd.frozen (k * 7)
    have f1 := HDW.out.2.1.fd.frozen (k * 7 + 1)
    have f2 := HDW.out.2.1.fd.frozen (k * 7 + 2)
    have f3 := HDW.out.2.1.fd.frozen (k * 7 + 3)
    have f4 := HDW.out.2.1.fd.frozen (k * 7 + 4)
    have f5 := HDW.out.2.1.fd.frozen (k * 7 + 5)
    have f6 := HDW.out.2.1.fd.frozen (k * 7 + 6)
    clear hex hcsz
    go_wp2_with fail
    go_roundg (s.calls.length - (k + 1))
    case measure => omega
    case rel => exact ⟨k + 1, by omega, Nat.le_refl _, by go_num, Lib.hid ⟨HDW.out.1.high (below_put7 (Below.refl _ _) (Nat.le_refl _)) HW1.out.2.2, HPUT.out _ HDW.out.2.1 HEN.out, HW1.out.2.2⟩⟩
end Go.Proofs.Ytmclchaalmonnaa
