/- Contracts: Ints, Spans, Swing. -/
import Derived.Test.YtmclchaalmonnaaScV
namespace Go.Proofs.Ytmclchaalmonnaa
open Go.RowKit Go.Lib
attribute [local irreducible] wpQuiet
/-- a row of pairs -/
def QRow (w : World) (B : Nat) (A : Option Addr) (l : List (Int × Int)) : Prop :=
  ∀ k (h : k < l.length), ∃ g o, A = some ⟨g, o, none⟩ ∧ g < B ∧ w.cell? ⟨g, o + k * 2, none⟩ = some (.int .i64 l[k].1) ∧ w.cell? ⟨g, o + k * 2 + 1, none⟩ = some (.int .i64 l[k].2)
theorem QRow.below {w w' : World} {B : Nat} {A : Option Addr} {l : List (Int × Int)} (h : QRow w B A l) (hb : Below B w w') : QRow w' B A l := fun k hk => by
  obtain ⟨g, o, e, hg, c0, c1⟩ := h k hk
  exact ⟨g, o, e, hg, (hb.cell (p := ⟨g, _, none⟩) hg).trans c0, (hb.cell (p := ⟨g, _, none⟩) hg).trans c1⟩
theorem QRow.more {w : World} {B B' : Nat} {A : Option Addr} {l : List (Int × Int)} (h : QRow w B A l) (hB : B ≤ B') : QRow w B' A l := fun k hk => by
  obtain ⟨g, o, e, hg, c⟩ := h k hk
  exact ⟨g, o, e, by omega, c⟩
theorem QRow.step {w w' : World} {A : Option Addr} {l : List (Int × Int)} (h : QRow w w.heap.size A l) (hb : Below w.heap.size w w') : QRow w' w'.heap.size A l := (h.below hb).more hb.size
theorem qrow_of {w : World} {p B : Nat} {t : TypeId} {l : List (Int × Int)} (h : Has w p t (pra l)) (hB : p < B) : QRow w B (some ⟨p, 0, none⟩) l := fun k hk => by
  have h1 := pra_get l k hk
  exact ⟨p, 0, rfl, hB, by rw [h.cell, Nat.zero_add]; exact h1.1, by rw [h.cell, Nat.zero_add]; exact h1.2⟩
set_option maxRecDepth 100000 in
set_option maxHeartbeats 1200000 in
theorem ints_any (l m : List Int) (A A' : Option Addr) (c d : Nat) (W : World) (h1 : IRow W W.heap.size A l) (h2 : IRow W W.heap.size A' m) (hl : l.length ≤ 1000000) :
    Calls Try.prog 18 #[.slice A l.length c, .slice A' m.length d] W (BoolPost (decide (l = m)) W) := by
  have hmix : Try.prog.follows .mixedOrders = true := by kernel_rfl
  have HR := Lib.hid (And.intro h1 h2)
  obtain ⟨r, hr⟩ : ∃ r, r = decide (l = m) := ⟨_, rfl⟩
  rw [← hr]
  have HE := Lib.hid hr
  clear h1 h2 hr
  by_cases hlm : l.length = m.length
  rotate_left
  · have hn : ((l.length : Int) == (m.length : Int)) = false := by simp; omega
    have HF : Hid (r = false) := Lib.hid (by rw [HE.out]; simp; intro e; exact hlm (by rw [e]))
    clear hlm
    go_enter Try.func18, Try.ntmps18
    go_wp2_with fail
    go_ret
    exact ⟨ret_bool HF.out.symm, Below.refl _ _⟩
  have HLM := Lib.hid hlm
  have hn : ((l.length : Int) == (m.length : Int)) = true := by simp; omega
  have hn' : ((l.length : Int) != (m.length : Int)) = false := by simp; omega
  clear hlm
  go_enter Try.func18, Try.ntmps18
  go_wp2_with fail
  clear hn hn'
  go_loopg [5] l.length (fun gk i wr => ∃ k : Nat, k ≤ l.length ∧ l.length - k ≤ gk ∧ i = .int .i64 k ∧ Hid (Below W.heap.size W wr ∧ ∀ j (hj : j < l.length) (hj' : j < m.length), j < k → l[j] = m[j]))
  case atStart => exact ⟨0, Nat.zero_le _, Nat.le_refl _, rfl, Lib.hid ⟨Below.refl _ _, fun j _ _ h => absurd h (by omega)⟩⟩
  case round =>
    obtain ⟨k, hk, hgk, rfl, HW⟩ := hrel
    by_cases hlt : k < l.length
    rotate_left
    · have hge : ¬ (k : Int) < l.length := by omega
      have HF : Hid (r = true) := Lib.hid (by
        rw [HE.out]
        simp only [decide_eq_true_eq]
        exact List.ext_getElem HLM.out (fun j h1 h2 => HW.out.2 j h1 h2 (by omega)))
      go_wp2_with fail
      go_ret
      exact ⟨ret_bool HF.out.symm, HW.out.1⟩
    have hlt2 : (k : Int) < l.length := by omega
    have hlt3 : k < m.length := by have := HLM.out; omega
    have hlt4 : (k : Int) < m.length := by omega
    obtain ⟨g, o, hg, hgl, hc⟩ := HR.out.1 k hlt
    obtain ⟨g', o', hg', hgl', hc'⟩ := HR.out.2 k hlt3
    obtain ⟨v, hv⟩ : ∃ v, v = l[k] := ⟨_, rfl⟩
    obtain ⟨u, hu⟩ : ∃ u, u = m[k] := ⟨_, rfl⟩
    rw [← hv] at hc
    rw [← hu] at hc'
    have HX := Lib.hid (And.intro hv hu)
    have CA : Hid (∀ w, Below W.heap.size W w → w.cell? ⟨g, o + k, none⟩ = some (.int .i64 v)) := fun w hb => (hb.cell (p := ⟨g, _, none⟩) hgl).trans hc
    have CB' : Hid (∀ w, Below W.heap.size W w → w.cell? ⟨g', o' + k, none⟩ = some (.int .i64 u)) := fun w hb => (hb.cell (p := ⟨g', _, none⟩) hgl').trans hc'
    subst hg hg'
    clear hv hu hc hc' hgl hgl'
    go_upto_region 6 with fail
    haveI hne : Nonempty (Cls (fun w' => Below W.heap.size W w')) := ⟨⟨_, HW.out.1.drew⟩⟩
    have HD := Lib.hid HW.out.1.drew
    have hx1 : ∀ pc : Cls (fun w' => Below W.heap.size W w'), pc.w.cell? ⟨g, o + k, none⟩ = some (.int .i64 v) := fun pc => CA.out _ pc.h
    have hx2 : ∀ pc : Cls (fun w' => Below W.heap.size W w'), pc.w.cell? ⟨g', o' + k, none⟩ = some (.int .i64 u) := fun pc => CB'.out _ pc.h
    refine wp_region_cls (fun w' => Below W.heap.size W w') hmix (by kernel_rfl) HD.out ?_
    repeat (quiet_step (fail))
    refine wpQuiet_nil ?_
    rintro w7 ⟨⟨_, hw7⟩, rfl⟩
    have H7 := Lib.hid hw7
    clear hx1 hx2 hne hw7 HD
    try simp only []
    by_cases hvu : v = u
    · have HN : Hid (∀ j (hj : j < l.length) (hj' : j < m.length), j < k + 1 → l[j] = m[j]) := Lib.hid fun j hj hj' hjk => by
        rcases Nat.lt_or_ge j k with h | h
        · exact HW.out.2 j hj hj' h
        · have : j = k := by omega
          subst this
          rw [← HX.out.1, ← HX.out.2]; exact hvu
      have hvu' : (v != u) = false := by simpa using hvu
      clear hvu
      go_wp2_with fail
      go_roundg (l.length - (k + 1))
      case measure => omega
      case rel => exact ⟨k + 1, by omega, Nat.le_refl _, by go_num, Lib.hid ⟨H7.out, HN.out⟩⟩
    · have HF : Hid (r = false) := Lib.hid (by
        rw [HE.out]
        simp only [decide_eq_false_iff_not]
        rintro rfl
        exact hvu (HX.out.1.trans HX.out.2.symm))
      have hvu' : (v != u) = true := by simpa using hvu
      clear hvu
      go_wp2_with fail
      go_ret
      exact ⟨ret_bool HF.out.symm, H7.out⟩
set_option maxRecDepth 100000 in
set_option maxHeartbeats 1200000 in
theorem spans_any (l m : List (Int × Int)) (A A' : Option Addr) (c d : Nat) (W : World) (h1 : QRow W W.heap.size A l) (h2 : QRow W W.heap.size A' m) (hl : l.length ≤ 1000000) :
    Calls Try.prog 25 #[.slice A l.length c, .slice A' m.length d] W (BoolPost (decide (l = m)) W) := by
  have hmix : Try.prog.follows .mixedOrders = true := by kernel_rfl
  have HR := Lib.hid (And.intro h1 h2)
  obtain ⟨r, hr⟩ : ∃ r, r = decide (l = m) := ⟨_, rfl⟩
  rw [← hr]
  have HE := Lib.hid hr
  clear h1 h2 hr
  by_cases hlm : l.length = m.length
  rotate_left
  · have hn : ((l.length : Int) == (m.length : Int)) = false := by simp; omega
    have HF : Hid (r = false) := Lib.hid (by rw [HE.out]; simp; intro e; exact hlm (by rw [e]))
    clear hlm
    go_enter Try.func25, Try.ntmps25
    go_wp2_with fail
    go_ret
    exact ⟨ret_bool HF.out.symm, Below.refl _ _⟩
  have HLM := Lib.hid hlm
  have hn : ((l.length : Int) == (m.length : Int)) = true := by simp; omega
  have hn' : ((l.length : Int) != (m.length : Int)) = false := by simp; omega
  clear hlm
  go_enter Try.func25, Try.ntmps25
  go_wp2_with fail
  clear hn hn'
  go_loopg [5] l.length (fun gk i wr => ∃ k : Nat, k ≤ l.length ∧ l.length - k ≤ gk ∧ i = .int .i64 k ∧ Hid (Below W.heap.size W wr ∧ ∀ j (hj : j < l.length) (hj' : j < m.length), j < k → l[j] = m[j]))
  case atStart => exact ⟨0, Nat.zero_le _, Nat.le_refl _, rfl, Lib.hid ⟨Below.refl _ _, fun j _ _ h => absurd h (by omega)⟩⟩
  case round =>
    obtain ⟨k, hk, hgk, rfl, HW⟩ := hrel
    by_cases hlt : k < l.length
    rotate_left
    · have hge : ¬ (k : Int) < l.length := by omega
      have HF : Hid (r = true) := Lib.hid (by
        rw [HE.out]
        simp only [decide_eq_true_eq]
        exact List.ext_getElem HLM.out (fun j h1 h2 => HW.out.2 j h1 h2 (by omega)))
      go_wp2_with fail
      go_ret
      exact ⟨ret_bool HF.out.symm, HW.out.1⟩
    have hlt2 : (k : Int) < l.length := by omega
    have hlt3 : k < m.length := by have := HLM.out; omega
    have hlt4 : (k : Int) < m.length := by omega
    obtain ⟨g, o, hg, hgl, hc, hd⟩ := HR.out.1 k hlt
    obtain ⟨g', o', hg', hgl', hc', hd'⟩ := HR.out.2 k hlt3
    obtain ⟨v, hv⟩ : ∃ v, v = l[k] := ⟨_, rfl⟩
    obtain ⟨u, hu⟩ : ∃ u, u = m[k] := ⟨_, rfl⟩
    rw [← hv] at hc hd
    rw [← hu] at hc' hd'
    have HX := Lib.hid (And.intro hv hu)
    have CA : Hid (∀ w, Below W.heap.size W w → w.cell? ⟨g, o + k * 2, none⟩ = some (.int .i64 v.1) ∧ w.cell? ⟨g, o + k * 2 + 1, none⟩ = some (.int .i64 v.2)) := fun w hb => ⟨(hb.cell (p := ⟨g, _, none⟩) hgl).trans hc, (hb.cell (p := ⟨g, _, none⟩) hgl).trans hd⟩
    have CB' : Hid (∀ w, Below W.heap.size W w → w.cell? ⟨g', o' + k * 2, none⟩ = some (.int .i64 u.1) ∧ w.cell? ⟨g', o' + k * 2 + 1, none⟩ = some (.int .i64 u.2)) := fun w hb => ⟨(hb.cell (p := ⟨g', _, none⟩) hgl').trans hc', (hb.cell (p := ⟨g', _, none⟩) hgl').trans hd'⟩
    subst hg hg'
    clear hv hu hc hc' hd hd' hgl hgl'
    go_upto_region 6 with fail
    haveI hne : Nonempty (Cls (fun w' => Below W.heap.size W w')) := ⟨⟨_, HW.out.1.drew⟩⟩
    have HD := Lib.hid HW.out.1.drew
    have hx1 : ∀ pc : Cls (fun w' => Below W.heap.size W w'), pc.w.cell? ⟨g, o + k * 2, none⟩ = some (.int .i64 v.1) := fun pc => (CA.out _ pc.h).1
    have hx2 : ∀ pc : Cls (fun w' => Below W.heap.size W w'), pc.w.cell? ⟨g', o' + k * 2, none⟩ = some (.int .i64 u.1) := fun pc => (CB'.out _ pc.h).1
    have hy1 : ∀ pc : Cls (fun w' => Below W.heap.size W w'), pc.w.cell? ⟨g, o + k * 2 + 1, none⟩ = some (.int .i64 v.2) := fun pc => (CA.out _ pc.h).2
    have hy2 : ∀ pc : Cls (fun w' => Below W.heap.size W w'), pc.w.cell? ⟨g', o' + k * 2 + 1, none⟩ = some (.int .i64 u.2) := fun pc => (CB'.out _ pc.h).2
    have hne2 := fun w => neq56 v.1 v.2 u.1 u.2 w
    obtain ⟨bb, hbb⟩ : ∃ bb, bb = !decide (v.1 = u.1 ∧ v.2 = u.2) := ⟨_, rfl⟩
    rw [← hbb] at hne2
    have HBB : Hid (bb = !decide (v = u)) := Lib.hid (by rw [hbb]; congr 1; rw [Bool.eq_iff_iff]; simp [Prod.ext_iff])
    clear hbb
    refine wp_region_cls (fun w' => Below W.heap.size W w') hmix (by kernel_rfl) HD.out ?_
    repeat (quiet_step (fail))
    refine wpQuiet_nil ?_
    rintro w7 ⟨⟨_, hw7⟩, rfl⟩
    have H7 := Lib.hid hw7
    clear hx1 hx2 hy1 hy2 hne2 hne hw7 HD
    try simp only []
    by_cases hvu : v = u
    · have HN : Hid (∀ j (hj : j < l.length) (hj' : j < m.length), j < k + 1 → l[j] = m[j]) := Lib.hid fun j hj hj' hjk => by
        rcases Nat.lt_or_ge j k with h | h
        · exact HW.out.2 j hj hj' h
        · have : j = k := by omega
          subst this
          rw [← HX.out.1, ← HX.out.2]; exact hvu
      obtain rfl : bb = false := by rw [HBB.out]; simp [hvu]
      clear hvu
      go_wp2_with fail
      go_roundg (l.length - (k + 1))
      case measure => omega
      case rel => exact ⟨k + 1, by omega, Nat.le_refl _, by go_num, Lib.hid ⟨H7.out, HN.out⟩⟩
    · have HF : Hid (r = false) := Lib.hid (by
        rw [HE.out]
        simp only [decide_eq_false_iff_not]
        rintro rfl
        exact hvu (HX.out.1.trans HX.out.2.symm))
      obtain rfl : bb = true := by rw [HBB.out]; simp [hvu]
      clear hvu
      go_wp2_with fail
      go_ret
      exact ⟨ret_bool HF.out.symm, H7.out⟩
/-- spans and an errno; with an error: nil -/
def SwEPost (r : List Sp × Int) (W : World) (e : Ending) (W' : World) : Prop := ∃ A c, e = .returned (.tuple #[.slice A r.1.length c, .int .i64 r.2]) ∧ QRow W' W'.heap.size A (r.1.map spp) ∧ (∀ g o, A = some ⟨g, o, none⟩ → W.heap.size ≤ g ∧ o = 0 ∧ Has W' g 56 (pra (r.1.map spp))) ∧ (A = none → r.1 = [] ∧ c = 0) ∧ Below W.heap.size W W'
theorem judge_all {r : Ru} {l : List Sk} (h : (inspP r l).2 = 0) : ∀ s ∈ l, (∀ c ∈ s.calls, c.marks.length = nP l) ∧ ∀ m ∈ s.parts, m.length = nP l := by
  intro s hs
  unfold inspP at h
  split at h
  · cases h
  · split at h
    · rename_i hc
      simp only [contestB, Bool.and_eq_true] at hc
      have h4 := List.all_eq_true.1 hc.2.2 s hs
      simp only [skB, Bool.and_eq_true] at h4
      obtain ⟨a1, a2, a3, a4, a5⟩ := h4
      obtain ⟨c1, -, -⟩ := callsB_spec a4
      refine ⟨fun c hc => ?_, fun m hm => ?_⟩
      · have h5 := c1 c hc
        simp only [clB, Bool.and_eq_true, decide_eq_true_eq] at h5
        omega
      · have h5 := List.all_eq_true.1 a5 m hm
        simp only [Bool.and_eq_true, decide_eq_true_eq] at h5
        omega
    · cases h
set_option maxRecDepth 100000 in
set_option maxHeartbeats 1000000 in
theorem Swing_any (r : Ru) (A : Option Addr) (c : Nat) (l : List Sk) (L : Option Addr) (k0 : Nat) (j : Int) (W : World) (hr : RuR W W.heap.size r A) (hs : SRow W W.heap.size L l) (hl : l.length ≤ big) :
    Calls Try.prog 21 #[ruv r A c, .slice L l.length k0, .int .i64 j] W (SwEPost (swingR r l j) W) := by
  have HB : Hid (RB W (W.alloc (.cells (ruc r A c) 24)) W.heap.size r A c) := Lib.hid (RB.start hr)
  have HI := Lib.hid (fun w (h : Below W.heap.size W w) => inspect_any r A c l L k0 w ((hr.below h).more h.size) ((hs.below h).more h.size) hl)
  have HSW := Lib.hid (fun (jn : Nat) w (h : Below W.heap.size W w) h40 hvr hvs hj => swing_any r A c l L k0 jn w ((hr.below h).more h.size) ((hs.below h).more h.size) h40 hvr hvs hj)
  have HX : Hid (swingR r l j = if (inspP r l).2 ≠ 0 then ([], (inspP r l).2) else if inB j 0 ((inspP r l).1 - 1) then (swingP r l j.toNat, 0) else ([], 2)) := Lib.hid rfl
  have HOK := Lib.hid (And.intro (fun h => insp_ok (r := r) (l := l) h) (judge_all (r := r) (l := l)))
  obtain ⟨X, hX⟩ : ∃ X, X = swingR r l j := ⟨_, rfl⟩
  obtain ⟨q, hq⟩ : ∃ q, q = inspP r l := ⟨_, rfl⟩
  rw [← hq] at HI HX HOK
  rw [← hX] at HX ⊢
  obtain ⟨jn, je⟩ := q
  unfold IEPost at HI
  unfold SwPost at HSW
  dsimp only at HI HX HOK
  have HW0 := Lib.hid (fun w => within_any j 0 (jn - 1) w)
  clear hr hs hX hq
  unfold ruv at *
  go_enter Try.func21, Try.ntmps21
  go_upto_region 1 with fail
  generalize W.alloc (.cells (ruc r A c) 24) = w0 at HB ⊢
  have x0 : w0.cell? ⟨W.heap.size, 0, none⟩ = some (.slice A r.bases.length c) := HB.out.fr.cell 0
  have x1 : w0.cell? ⟨W.heap.size, 1, none⟩ = some (.int .i64 r.factor) := HB.out.fr.cell 1
  have x2 : w0.cell? ⟨W.heap.size, 2, none⟩ = some (.int .i64 r.most) := HB.out.fr.cell 2
  go_wp2_with fail
  refine (HI.out _ HB.out.b).mono ?_
  rintro e w1 ⟨rfl, hb1⟩
  have H1 := Lib.hid (HB.out.step hb1)
  clear hb1 x0 x1 x2 HB HI
  by_cases hje : je = 0
  rotate_left
  · have hq : (je == 0) = false := by simpa using hje
    have hq' : (je != 0) = true := by simpa using hje
    have HE : Hid (X = ([], je)) := Lib.hid (by rw [HX.out, if_pos hje])
    clear hje HX
    go_wp2_with fail
    refine bodyPost_ret (v := .tuple #[.slice none 0 0, .int .i64 je]) (by simp [results, Try.results21, go_sem]) rfl ?_
    exact ⟨none, 0, by rw [HE.out]; rfl, fun k hk => by rw [HE.out] at hk; exact absurd hk (by simp), fun g o h => (by cases h), fun _ => ⟨by rw [HE.out], rfl⟩, H1.out.b⟩
  subst hje
  obtain ⟨hvr, hvs, h40, hjn⟩ := HOK.out.1 rfl
  have hJ := HOK.out.2 rfl
  simp only [Prod.mk.injEq, and_true] at hjn
  have hjnb : 0 ≤ jn ∧ jn ≤ 9223372036854775807 := by
    rw [hjn]
    refine ⟨by omega, ?_⟩
    unfold nP
    cases hjp : judgesP l with
    | none => simp
    | some n =>
      have : n ≤ 9 := by
        have : ∃ s ∈ l, s.calls ≠ [] ∨ s.parts ≠ [] := by
          refine Classical.byContradiction fun hno => ?_
          have hnone : ∀ m : List Sk, (∀ s ∈ m, s ∈ l) → judgesP m = none := by
            intro m
            induction m with
            | nil => intro _; rfl
            | cons a t ih =>
              intro hm
              have ha : a.calls = [] ∧ a.parts = [] := by
                refine ⟨?_, ?_⟩
                · exact Classical.byContradiction fun h => hno ⟨a, hm a List.mem_cons_self, .inl h⟩
                · exact Classical.byContradiction fun h => hno ⟨a, hm a List.mem_cons_self, .inr h⟩
              unfold judgesP
              rw [ha.1, ha.2]
              exact ih fun s hs => hm s (List.mem_cons_of_mem _ hs)
          rw [hnone l (fun s hs => hs)] at hjp
          cases hjp
        obtain ⟨s, hs, h⟩ := this
        have hn : nP l = n := by unfold nP; rw [hjp]; rfl
        have h1 := hJ s hs
        have h2 := hvs s hs
        rcases h with h | h
        · obtain ⟨c, t, e⟩ := List.exists_cons_of_ne_nil h
          have hc : c ∈ s.calls := by rw [e]; exact List.mem_cons_self
          have := (h2.c c hc).1.l9
          have := h1.1 c hc
          omega
        · obtain ⟨c, t, e⟩ := List.exists_cons_of_ne_nil h
          have hc : c ∈ s.parts := by rw [e]; exact List.mem_cons_self
          have := (h2.p c hc).2.1
          have := h1.2 c hc
          omega
      simp
      omega
  have e1 : IntKind.i64.wrap (jn - 1) = jn - 1 := IntWalk.i64_in _ (by omega)
  cases hin : inB j 0 (jn - 1) <;> rw [hin] at HW0
  · have HE : Hid (X = ([], 2)) := Lib.hid (by rw [HX.out, hin]; rfl)
    clear HX hvr hvs hJ hin hjn HOK HSW
    go_wp2_with fail
    refine (HW0.out _).mono ?_
    rintro e w2 ⟨rfl, rfl⟩
    go_wp2_with fail
    refine bodyPost_ret (v := .tuple #[.slice none 0 0, .int .i64 2]) (by simp [results, Try.results21, go_sem]) rfl ?_
    exact ⟨none, 0, by rw [HE.out]; rfl, fun k hk => by rw [HE.out] at hk; exact absurd hk (by simp), fun g o h => (by cases h), fun _ => ⟨by rw [HE.out], rfl⟩, H1.out.b⟩
  · have HE : Hid (X = (swingP r l j.toNat, 0)) := Lib.hid (by rw [HX.out, hin]; rfl)
    have hj2 : 0 ≤ j ∧ j ≤ jn - 1 := by simpa [inB] using hin
    have hjj : (j.toNat : Int) = j := by omega
    have HS2 := Lib.hid (fun w h => HSW.out j.toNat w h h40 hvr hvs (fun s hs => ⟨fun c hc => by have := (hJ s hs).1 c hc; omega, fun m hm => by have := (hJ s hs).2 m hm; omega⟩))
    rw [hjj] at HS2
    have hsl : (swingP r l j.toNat).length = l.length := by simp [swingP]
    have x0 : w1.cell? ⟨W.heap.size, 0, none⟩ = some (.slice A r.bases.length c) := H1.out.fr.cell 0
    have x1 : w1.cell? ⟨W.heap.size, 1, none⟩ = some (.int .i64 r.factor) := H1.out.fr.cell 1
    have x2 : w1.cell? ⟨W.heap.size, 2, none⟩ = some (.int .i64 r.most) := H1.out.fr.cell 2
    generalize swingP r l j.toNat = y at *
    clear HX hvr hvs hJ hin hjn HOK HSW hj2 hjj hsl
    go_wp2_with fail
    refine (HW0.out _).mono ?_
    rintro e w2 ⟨rfl, rfl⟩
    go_wp2_with fail
    refine (HS2.out _ H1.out.b).mono ?_
    rintro e w3 ⟨g, hg, rfl, hh, hb3⟩
    have H3 := Lib.hid (And.intro (H1.out.step hb3) (And.intro hg (And.intro hh H1.out.b.size)))
    clear hg hh hb3 x0 x1 x2
    go_wp2_with fail
    refine bodyPost_ret (v := .tuple #[.slice (some ⟨g, 0, none⟩) y.length y.length, .int .i64 0]) (by simp [results, Try.results21, go_sem]) rfl ?_
    refine ⟨some ⟨g, 0, none⟩, y.length, by rw [HE.out], by rw [HE.out]; exact qrow_of H3.out.2.2.1 H3.out.2.2.1.lt, fun g' o' h => ?_, fun h => (by cases h), H3.out.1.b⟩
    cases h
    exact ⟨Nat.le_trans H3.out.2.2.2 H3.out.2.1, rfl, by rw [HE.out]; exact H3.out.2.2.1⟩
end Go.Proofs.Ytmclchaalmonnaa
