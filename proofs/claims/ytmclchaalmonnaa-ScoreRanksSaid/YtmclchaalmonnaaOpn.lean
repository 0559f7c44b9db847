/- Contracts: Open: who can be among the first, and behind them: a map that is filled, read in whatever order, and sorted. -/
import Derived.Test.YtmclchaalmonnaaMoB
import Derived.Maps.RangeWalk
import Derived.Maps.OwnSet
namespace Go.Proofs.Ytmclchaalmonnaa
open Go.RowKit Go.Lib Go.Maps
attribute [local irreducible] wpQuiet
/-- one judge moves one skater across the line -/
def opAt (r : Ru) (l : List Sk) (first : Int) (j i : Nat) : Bool := match (swingP r l j)[i]? with | some s => decide (s.lo ≤ first) && decide (first < s.hi) | none => false
/-- who was found by the first j judges, and by the next one among the first k -/
def mkD (r : Ru) (l : List Sk) (first : Int) (j k i : Nat) : Bool := (List.range j).any (fun q => opAt r l first q i) || (decide (i < k) && opAt r l first j i)
theorem mkD_zero (r : Ru) (l : List Sk) (first : Int) (i : Nat) : mkD r l first 0 0 i = false := by simp [mkD]
theorem mkD_succ (r : Ru) (l : List Sk) (first : Int) (j k i : Nat) : mkD r l first j (k + 1) i = (mkD r l first j k i || (decide (i = k) && opAt r l first j i)) := by
  unfold mkD
  cases h : opAt r l first j i
  · simp
  · by_cases h1 : i < k
    · simp [h1, Nat.lt_succ_of_lt h1]
    · by_cases h2 : i = k
      · simp [h2]
      · simp [h1, h2, show ¬ i < k + 1 by omega]
theorem mkD_row (r : Ru) (l : List Sk) (first : Int) (j i : Nat) : mkD r l first j l.length i = mkD r l first (j + 1) 0 i := by
  unfold mkD
  rw [List.range_succ, List.any_append]
  by_cases h : i < l.length
  · simp [h]
  · have : opAt r l first j i = false := by
      unfold opAt
      rw [List.getElem?_eq_none (by simp [swingP]; omega)]
    simp [this]
theorem mkD_done (r : Ru) (l : List Sk) (first : Int) (i : Nat) : mkD r l first (nP l) 0 i = openB r l first i := by
  have e : ∀ j, opAt r l first j i = (match (swingP r l j)[i]? with | some s => decide (s.lo ≤ first) && decide (first < s.hi) | none => false) := fun j => rfl
  unfold mkD openB
  simp only [Nat.not_lt_zero, decide_false, Bool.false_and, Bool.or_false]
  congr 1
theorem np_le {r : Ru} {l : List Sk} (h : contestB r l = true) : nP l ≤ 9 := by
  simp only [contestB, Bool.and_eq_true] at h
  have h2 := h.2.1
  unfold panelB at h2
  unfold nP
  cases hp : judgesP l with
  | none => simp
  | some n => rw [hp] at h2; simp [inB] at h2; simp; omega
theorem perm_of_mem {α : Type} [DecidableEq α] : ∀ {l m : List α}, l.Nodup → m.Nodup → (∀ a, a ∈ l ↔ a ∈ m) → l.Perm m
  | [], m, _, _, h => by
    have : m = [] := List.eq_nil_iff_forall_not_mem.2 fun a ha => by have := (h a).2 ha; cases this
    rw [this]
  | a :: l, m, h1, h2, h => by
    have ha : a ∈ m := (h a).1 List.mem_cons_self
    rw [List.nodup_cons] at h1
    refine List.Perm.trans (List.Perm.cons a (perm_of_mem h1.2 (h2.erase a) fun b => ?_)) (List.perm_cons_erase ha).symm
    rw [h2.mem_erase_iff]
    constructor
    · intro hb
      exact ⟨fun e => h1.1 (e ▸ hb), (h b).1 (List.mem_cons_of_mem _ hb)⟩
    · rintro ⟨hne, hb⟩
      rcases List.mem_cons.1 ((h b).2 hb) with e | e
      · exact absurd e hne
      · exact e
/-- the keys that a map has -/
structure KD (D : DataW Unit) (f : Nat → Bool) (n : Nat) : Prop where
  m : IsMap D
  h : ∀ i : Nat, Maps.has D (.int .i64 i) = f i
  k : ∀ kl, Maps.has D kl = true → ∃ i : Nat, i < n ∧ kl = .int .i64 i
theorem int_ne {a b : Nat} (h : a ≠ b) : (Lit.int .i64 (a : Int)) ≠ .int .i64 (b : Int) := fun e => h (by cases e; rfl)
theorem KD.put {D : DataW Unit} {f : Nat → Bool} {n k : Nat} (h : KD D f n) (hk : k < n) (d : DataW Unit) : KD (D.put (.int .i64 (k : Int)) d) (fun i => f i || decide (i = k)) n := by
  refine ⟨?_, fun i => ?_, fun kl hkl => ?_⟩
  · obtain ⟨es, rfl⟩ := h.m
    exact ⟨_, rfl⟩
  · by_cases e : i = k
    · subst e
      rw [has_put_same h.m (show WideAt.IsKeyLit (.int .i64 (i : Int)) from trivial)]
      simp
    · rw [has_put_other (int_ne e), h.h i]
      simp [e]
  · by_cases e : kl = .int .i64 (k : Int)
    · exact ⟨k, hk, e⟩
    · rw [has_put_other e] at hkl
      exact h.k kl hkl
theorem KD.congr {D : DataW Unit} {f g : Nat → Bool} {n : Nat} (h : KD D f n) (e : ∀ i, f i = g i) : KD D g n := ⟨h.m, fun i => (h.h i).trans (e i), h.k⟩
theorem map_below {P : Program} {k : TypeId} {R : Value → Option (DataW Unit × List MemPlace)} {w w' : World} {b n : Nat} {D : DataW Unit} (h : w.ownsMap P k R b n D) (hb : Below w.heap.size w w') : w'.ownsMap P k R b n D :=
  h.kept (row := none) ⟨hb.os, hb.tape, hb.output, hb.size, fun i hi _ => hb.block i hi⟩ (by simp)
/-- what was collected: all that is not to come any more -/
structure Col (D : DataW Unit) (f : Nat → Bool) (n : Nat) (left : Lit → Bool) (K : List Int) : Prop where
  d : KD D f n
  s : ∀ kl, left kl = true → Maps.has D kl = true
  m : ∀ x : Int, x ∈ K ↔ ∃ i : Nat, x = (i : Int) ∧ f i = true ∧ left (.int .i64 x) = false
  n : K.Nodup
theorem Col.start {D : DataW Unit} {f : Nat → Bool} {n : Nat} (h : KD D f n) : Col D f n (Maps.has D) [] :=
  ⟨h, fun _ h => h, fun x => ⟨fun h => (by cases h), fun h0 => (by obtain ⟨i, e, h1, h2⟩ := h0; rw [e, h.h i, h1] at h2; cases h2)⟩, List.nodup_nil⟩
theorem same_int {a b : Int} : (Lit.int .i64 a).sameKey (.int .i64 b) = decide (a = b) := by
  by_cases h : a = b
  · subst h
    rw [WideAt.sameKey_self (show WideAt.IsKeyLit (.int .i64 a) from trivial)]
    simp
  · have : ¬ (Lit.int .i64 a).sameKey (.int .i64 b) = true := fun e => h (by have := WideAt.sameKey_eq e; cases this; rfl)
    simp [h, this]
theorem Col.next {D : DataW Unit} {f : Nat → Bool} {n : Nat} {left : Lit → Bool} {K : List Int} (h : Col D f n left K) {x : Int} (hx : left (.int .i64 x) = true) : Col D f n (fun z => left z && !z.sameKey (.int .i64 x)) (K ++ [x]) ∧ ∃ i : Nat, i < n ∧ x = (i : Int) := by
  have hh := h.s _ hx
  obtain ⟨i, hi, e⟩ := h.d.k _ hh
  have e' : x = (i : Int) := by cases e; rfl
  subst e'
  have hf : f i = true := by rw [← h.d.h i]; exact hh
  refine ⟨⟨h.d, fun kl hkl => h.s kl (by simp only [Bool.and_eq_true] at hkl; exact hkl.1), fun y => ?_, ?_⟩, i, hi, rfl⟩
  · rw [List.mem_append, h.m y, List.mem_singleton]
    constructor
    · rintro (⟨q, e1, e2, e3⟩ | rfl)
      · exact ⟨q, e1, e2, by rw [e3]; rfl⟩
      · exact ⟨i, rfl, hf, by rw [same_int]; simp⟩
    · rintro ⟨q, e1, e2, e3⟩
      rw [same_int] at e3
      by_cases e4 : y = (i : Int)
      · exact .inr e4
      · exact .inl ⟨q, e1, e2, by simpa [e4] using e3⟩
  · rw [List.nodup_append]
    refine ⟨h.n, by simp, fun a ha b hb e => ?_⟩
    rw [List.mem_singleton] at hb
    rw [e, hb] at ha
    obtain ⟨_, -, -, e3⟩ := (h.m _).1 ha
    rw [hx] at e3
    cases e3
theorem Col.len {D : DataW Unit} {f : Nat → Bool} {n : Nat} {left : Lit → Bool} {K : List Int} (h : Col D f n left K) : K.length ≤ n := by
  have hsub : ∀ x ∈ K, x ∈ (List.range n).map (fun i : Nat => (i : Int)) := fun x hx => by
    obtain ⟨i, rfl, hf, -⟩ := (h.m x).1 hx
    obtain ⟨q, hq, e⟩ := h.d.k (.int .i64 i) (by rw [h.d.h i]; exact hf)
    have : i = q := by cases e; rfl
    exact List.mem_map.2 ⟨i, List.mem_range.2 (by omega), rfl⟩
  have hnd : ((List.range n).map (fun i : Nat => (i : Int))).Nodup := by
    rw [List.nodup_iff_pairwise_ne, List.pairwise_map]
    exact List.pairwise_lt_range.imp (fun h => by omega)
  have hp := perm_of_mem h.n (hnd.filter fun x => decide (x ∈ K)) (fun a => by
    rw [List.mem_filter]
    exact ⟨fun ha => ⟨hsub a ha, by simp [ha]⟩, fun ha => by simpa using ha.2⟩)
  rw [hp.length_eq]
  refine Nat.le_trans (List.length_filter_le _ _) ?_
  simp
/-- all was collected: sorted, it is what Open tells -/
theorem Col.done {r : Ru} {l : List Sk} {first : Int} {D : DataW Unit} {left : Lit → Bool} {K : List Int} (h : Col D (openB r l first) l.length left K) (hl : ∀ kl, left kl = false) : srt K = openP r l first := by
  have hs : (openP r l first).Pairwise (· < ·) := by
    unfold openP
    rw [List.pairwise_map]
    exact (List.pairwise_lt_range.filter _).imp (fun h => by omega)
  have hnd : (openP r l first).Nodup := hs.imp (fun h => by omega)
  refine sorted_unique ((srt_perm K).trans (perm_of_mem h.n hnd fun a => ?_)) (srt_sorted K) (hs.imp (fun h => by omega))
  rw [h.m a]
  unfold openP
  simp only [List.mem_map, List.mem_filter, List.mem_range]
  constructor
  · rintro ⟨i, rfl, hf, -⟩
    obtain ⟨q, hq, e⟩ := h.d.k (.int .i64 i) (by rw [h.d.h i]; exact hf)
    have : i = q := by cases e; rfl
    exact ⟨i, ⟨by omega, hf⟩, rfl⟩
  · rintro ⟨i, ⟨hi, hf⟩, rfl⟩
    exact ⟨i, rfl, hf, hl _⟩
theorem own_kept {w w' : World} {base size n R : Nat} {e : TypeId} {v : Value} {xs : List Value} (h : w.ownsRow base e size v n xs) (hg : w.grownBy w' (some R)) (hR : R < base) : w'.ownsRow base e size v n xs := by
  obtain ⟨h0, (h1 | ⟨g, cap, cur, rfl, hb, hgc, h2⟩)⟩ := h
  · exact ⟨h0, .inl h1⟩
  · have hg1 : Has w g e cur := hgc
    have hg2 : Has w' g e cur := has_grown hg hg1 (by omega)
    exact ⟨h0, .inr ⟨g, cap, cur, rfl, hb, hg2, h2⟩⟩
theorem keyed3 : Keyed Try.prog 3 := int_keyed Try.underlying3
/-- the map that Open fills -/
structure OM (W w : World) (r : Ru) (A : Option Addr) (c B n : Nat) (D : DataW Unit) : Prop where
  b : Below W.heap.size W w
  fr : Has w W.heap.size 24 (ruc r A c)
  m : w.ownsMap Try.prog 3 (plainElem Try.prog 4) B n D
  hB : W.heap.size < B
section
variable {W w w' : World} {r : Ru} {A : Option Addr} {c B n : Nat} {D : DataW Unit}
theorem OM.step (h : OM W w r A c B n D) (hb : Below w.heap.size w w') : OM W w' r A c B n D := ⟨h.b.trans (hb.mono h.b.size), h.fr.below hb h.fr.lt, map_below h.m hb, h.hB⟩
theorem OM.drew (h : OM W w r A c B n D) : OM W w.drew r A c B n D := h.step ((Below.refl _ _).drew)
end
set_option maxRecDepth 100000 in
set_option maxHeartbeats 4000000 in
theorem Open_any (r : Ru) (A : Option Addr) (c : Nat) (l : List Sk) (L : Option Addr) (k0 : Nat) (first : Int) (W : World) (hr : RuR W W.heap.size r A) (hs : SRow W W.heap.size L l) (hl : l.length ≤ big) :
    Calls Try.prog 23 #[ruv r A c, .slice L l.length k0, .int .i64 first] W (RI2 (openR r l first) W) := by
  obtain ⟨i0, hi, hz0, hz1, hz2⟩ := info_parts Try.info3
  have HB : Hid (RB W (W.alloc (.cells (ruc r A c) 24)) W.heap.size r A c) := Lib.hid (RB.start hr)
  have HI := Lib.hid (fun w (h : Below W.heap.size W w) => inspect_any r A c l L k0 w ((hr.below h).more h.size) ((hs.below h).more h.size) hl)
  have HX : Hid (openR r l first = if (inspP r l).2 ≠ 0 then ([], (inspP r l).2) else if inB first 1 40 then (openP r l first, 0) else ([], 2)) := Lib.hid rfl
  have HOK := Lib.hid (And.intro (fun h => insp_ok (r := r) (l := l) h) (judge_all (r := r) (l := l)))
  have HSW := Lib.hid (fun (jn : Nat) w (h : Below W.heap.size W w) h40 hvr hvs hj => swing_any r A c l L k0 jn w ((hr.below h).more h.size) ((hs.below h).more h.size) h40 hvr hvs hj)
  have HNP : Hid ((inspP r l).2 = 0 → nP l ≤ 9) := Lib.hid fun h => by
    unfold inspP at h
    split at h
    · cases h
    · split at h
      · rename_i hc; exact np_le hc
      · cases h
  have HW0 := Lib.hid (fun w => within_any first 1 40 w)
  obtain ⟨X, hX⟩ : ∃ X, X = openR r l first := ⟨_, rfl⟩
  obtain ⟨q, hq⟩ : ∃ q, q = inspP r l := ⟨_, rfl⟩
  rw [← hq] at HI HX HOK HNP
  rw [← hX] at HX ⊢
  obtain ⟨jn, je⟩ := q
  unfold IEPost at HI
  unfold SwPost at HSW
  dsimp only at HI HX HOK HNP
  have hmm := @run_makeMap Try.prog
  clear hr hs hX hq
  unfold ruv at *
  go_enter Try.func23, Try.ntmps23
  go_upto_region 1 with fail
  generalize W.alloc (.cells (ruc r A c) 24) = w0 at HB ⊢
  have x0 : w0.cell? ⟨W.heap.size, 0, none⟩ = some (.slice A r.bases.length c) := HB.out.fr.cell 0
  have x1 : w0.cell? ⟨W.heap.size, 1, none⟩ = some (.int .i64 r.factor) := HB.out.fr.cell 1
  have x2 : w0.cell? ⟨W.heap.size, 2, none⟩ = some (.int .i64 r.most) := HB.out.fr.cell 2
  go_wp2_with fail
  refine (HI.out _ HB.out.b).mono ?_
  rintro e w1 ⟨rfl, hb1⟩
  have H1 := Lib.hid (HB.out.step hb1)
  clear hb1 x0 x1 x2 HB HI
  by_cases hje : je = 0
  rotate_left
  · have hq : (je == 0) = false := by simpa using hje
    have hq' : (je != 0) = true := by simpa using hje
    have HE : Hid (X = ([], je)) := Lib.hid (by rw [HX.out, if_pos hje])
    clear hje HX hmm
    go_wp2_with fail
    refine bodyPost_ret (v := .tuple #[.slice none 0 0, .int .i64 je]) (by simp [results, Try.results23, go_sem]) rfl ?_
    exact ⟨none, 0, by rw [HE.out]; rfl, by rw [HE.out]; exact IRow.nil _ _ _, H1.out.b⟩
  subst hje
  obtain ⟨hvr, hvs, h40, hjn⟩ := HOK.out.1 rfl
  have hJ := HOK.out.2 rfl
  have hn9 := HNP.out rfl
  simp only [Prod.mk.injEq, and_true] at hjn
  cases hin : inB first 1 40 <;> rw [hin] at HW0
  · have HE : Hid (X = ([], 2)) := Lib.hid (by rw [HX.out, hin]; rfl)
    clear HX hvr hvs hJ hin hjn HOK HSW hmm
    go_wp2_with fail
    refine (HW0.out _).mono ?_
    rintro e w2 ⟨rfl, rfl⟩
    go_wp2_with fail
    refine bodyPost_ret (v := .tuple #[.slice none 0 0, .int .i64 2]) (by simp [results, Try.results23, go_sem]) rfl ?_
    exact ⟨none, 0, by rw [HE.out]; rfl, by rw [HE.out]; exact IRow.nil _ _ _, H1.out.b⟩
  have HE : Hid (X = (openP r l first, 0)) := Lib.hid (by rw [HX.out, hin]; rfl)
  have HS2 := Lib.hid (fun (q : Nat) (hq : q < nP l) w h => HSW.out q w h h40 hvr hvs (fun s hs => ⟨fun c hc => by have := (hJ s hs).1 c hc; omega, fun m hm => by have := (hJ s hs).2 m hm; omega⟩))
  subst hjn
  obtain ⟨N, hN⟩ : ∃ N, N = nP l := ⟨_, rfl⟩
  rw [← hN] at HS2 hn9 ⊢
  have HNN := Lib.hid hN
  have HHM : Hid (OM W (w1.alloc (.map #[] 0)) r A c w1.heap.size 0 (.map [])) := Lib.hid ⟨H1.out.b.trans ((below_one _ _).mono H1.out.b.size), H1.out.fr.alloc _, World.ownsMap_made _ _ _ _, H1.out.fr.lt⟩
  clear HX hvr hvs hJ hin HOK HSW hN HNP
  go_wp2_with fail
  refine (HW0.out _).mono ?_
  rintro e w2 ⟨rfl, rfl⟩
  go_upto_region 7 with fail
  generalize w2.alloc (.map #[] 0) = w3 at HHM ⊢
  generalize w2.heap.size = B at HHM ⊢
  go_wp2_with fail
  go_loopg [30] N (fun gk i wr => ∃ j : Nat, j ≤ N ∧ N - j ≤ gk ∧ i = .int .i64 j ∧ ∃ n D, n ≤ 40 * j ∧ Hid (OM W wr r A c B n D ∧ KD D (mkD r l first j 0) l.length))
  case atStart => exact ⟨0, Nat.zero_le _, Nat.le_refl _, rfl, 0, .map [], by omega, Lib.hid ⟨HHM.out, ⟨⟨[], rfl⟩, fun i => by rw [mkD_zero]; rfl, fun kl h => by cases h⟩⟩⟩
  case round =>
    clear HHM H1 HW0 hmm
    obtain ⟨j, hj, hgj, rfl, n, D, hn, HW⟩ := hrel
    by_cases hlt : j < N
    rotate_left
    · have hge : ¬ (j : Int) < N := by omega
      obtain rfl : j = N := by omega
      have HK : Hid (KD D (openB r l first) l.length) := Lib.hid (HW.out.2.congr fun i => by rw [HNN.out]; exact mkD_done r l first i)
      have HM := Lib.hid HW.out.1
      have hnm : n ≤ 400 := by omega
      clear HW hlt hj hgj HS2 HNN hn
      go_wp2_with (at_range; refine wpList_range_own _ rfl _ 87 rfl 3 4 keyed3 Try.underlying87 _ B n D rfl HM.out.m ?_; intro w4 hrg0 hg0 hs0)
      have H4 := Lib.hid (show Below W.heap.size W w4 ∧ w4.ranges Try.prog 3 (plainElem Try.prog 4) B wr.heap.size n D (Maps.has D) (Maps.size D) ∧ Col D (openB r l first) l.length (Maps.has D) [] ∧ B < wr.heap.size from
        ⟨HM.out.b.trans ((grown_step hg0 (Nat.le_refl _) (fun b hb => by cases hb)).mono HM.out.b.size), hrg0, Col.start HK.out, HM.out.m.lt⟩)
      have HBB := Lib.hid (show W.heap.size < B ∧ B < wr.heap.size ∧ wr.heap.size + 1 = w4.heap.size from ⟨HM.out.hB, HM.out.m.lt, hs0.symm⟩)
      generalize wr.heap.size = R at H4 HBB ⊢
      clear hrg0 hg0 hs0 hge HM HK
      obtain ⟨w6, rfl⟩ : ∃ w6, w6 = wr := ⟨_, rfl⟩
      go_loopg [14] (Maps.size D) (fun gk v wx => ∃ (left : Lit → Bool) (cnt : Nat) (K : List Int), cnt ≤ gk ∧ Hid (Below W.heap.size W wx ∧ wx.ranges Try.prog 3 (plainElem Try.prog 4) B R n D left cnt ∧ Col D (openB r l first) l.length left K ∧ wx.ownsRow (R + 1) 3 1 v K.length (ivl K)))
      case atStart => exact ⟨_, _, [], Nat.le_refl _, Lib.hid ⟨H4.out.1, H4.out.2.1, H4.out.2.2.1, own_nil _ _ _ _⟩⟩
      case round =>
        clear H4
        obtain ⟨left, cnt, K, hcnt, HW⟩ := hrel
        obtain ⟨A4, c4, rfl, -⟩ := own_slice HW.out.2.2.2
        have hKl := HW.out.2.2.1.len
        go_wp2_with (at_next; refine wpList_next_ranges _ rfl _ rfl 3 keyed3 (plainElem Try.prog 4) (Value.int .i64) (fun v : Value => v) (fun key kl hkey => by obtain ⟨x, rfl, _⟩ := Maps.keyOf_int_inv Try.underlying3 hkey; exact ⟨x, rfl⟩) (fun v y hv => ⟨v, rfl⟩) B R n D left cnt rfl HW.out.2.1 ?d1 ?d2)
        case d1 =>
          intro hc0 hl0
          have hdone := HW.out.2.2.1.done hl0
          have HO := Lib.hid (show openP r l first = srt K ∧ Below W.heap.size W wr ∧ wr.ownsRow (R + 1) 3 1 (.slice A4 K.length c4) K.length (ivl K) ∧ W.heap.size < R + 1 from ⟨hdone.symm, HW.out.1, HW.out.2.2.2, by have := HBB.out; omega⟩)
          clear hc0 hl0 hdone HW
          by_cases hK0 : K = []
          · subst hK0
            simp only [List.length_nil]
            have HNS := Lib.hid (Go.Proofs.Try.slices_Sort_int_none A4 c4 wr)
            go_wp2_with fail
            refine HNS.out.mono ?_
            rintro e w7 ⟨rfl, rfl⟩
            go_wp2_with fail
            refine bodyPost_ret (v := .tuple #[.slice A4 0 c4, .int .i64 0]) (by simp [results, Try.results23, go_sem]) rfl ?_
            exact ⟨A4, c4, by rw [HE.out, HO.out.1]; rfl, by rw [HE.out, HO.out.1]; exact IRow.nil _ _ _, HO.out.2.1⟩
          · obtain ⟨g, rfl, hgR⟩ : ∃ g, A4 = some ⟨g, 0, none⟩ ∧ R + 1 ≤ g := by
              obtain ⟨-, ⟨e, h0⟩ | ⟨g, cap, cur, e, hB, -⟩⟩ := HO.out.2.2.1
              · exact absurd (List.eq_nil_of_length_eq_zero h0) hK0
              · cases e; exact ⟨g, rfl, hB⟩
            have HSO := Lib.hid (sort_any K g c4 (R + 1) wr HO.out.2.2.1 (by omega))
            have HGR := Lib.hid hgR
            clear hgR
            go_wp2_with fail
            refine HSO.out.mono ?_
            rintro e w7 ⟨rfl, hc7, hgr7⟩
            have H7 := Lib.hid (show Below W.heap.size W w7 ∧ ∀ j (hj : j < (srt K).length), g < w7.heap.size ∧ w7.cell? ⟨g, j, none⟩ = some (.int .i64 (srt K)[j]) from
              ⟨HO.out.2.1.trans ((grown_step hgr7 (B := W.heap.size) HO.out.2.1.size (fun b hb => by cases hb; have := HGR.out; have := HO.out.2.2.2; omega))), hc7⟩)
            clear hc7 hgr7 HSO
            go_wp2_with fail
            refine bodyPost_ret (v := .tuple #[.slice (some ⟨g, 0, none⟩) K.length c4, .int .i64 0]) (by simp [results, Try.results23, go_sem]) rfl ?_
            refine ⟨some ⟨g, 0, none⟩, c4, by rw [HE.out, HO.out.1, srt_length], ?_, H7.out.1⟩
            rw [HE.out, HO.out.1]
            exact fun k hk => ⟨g, 0, rfl, (H7.out.2 k hk).1, by rw [Nat.zero_add]; exact (H7.out.2 k hk).2⟩
        case d2 =>
          intro x bb kl ya yb w7 cnt7 hkey hlx hv7 hat hrg7 hlt7 hg7 hs7 hen
          obtain ⟨x', ex, rfl, _⟩ := Maps.keyOf_int_inv Try.underlying3 hkey
          cases ex
          obtain ⟨hcol, i7, hi7, hx7⟩ := HW.out.2.2.1.next hlx
          have hRs := HW.out.2.1.lt
          have H8 := Lib.hid (show Below W.heap.size W w7 ∧ w7.ranges Try.prog 3 (plainElem Try.prog 4) B R n D (fun z => left z && !z.sameKey (.int .i64 x)) cnt7 ∧ Col D (openB r l first) l.length (fun z => left z && !z.sameKey (.int .i64 x)) (K ++ [x]) ∧ w7.ownsRow (R + 1) 3 1 (.slice A4 K.length c4) K.length (ivl K) ∧ R + 1 ≤ w7.heap.size from
            ⟨HW.out.1.trans (grown_step hg7 HW.out.1.size (fun b hb => by cases hb; have := HBB.out; omega)), hrg7, hcol, own_kept HW.out.2.2.2 hg7 (Nat.lt_succ_self R), by rw [hs7]; exact hRs⟩)
          have HOW : Hid ((w7.alloc (.cells #[.int .i64 x] 3)).ownsRow (R + 1) 3 1 (.slice A4 K.length c4) K.length (ivl K)) := Lib.hid (own_step H8.out.2.2.2.1 (below_one _ _))
          have HNEW : Hid (∀ j u, (ivl [x])[j]? = some u → (w7.alloc (.cells #[.int .i64 x] 3)).cell? ((⟨w7.heap.size, 0, none⟩ : Addr).add j) = some u) := Lib.hid fun j u hu => by
            have hj : j < 1 := by have := (List.getElem?_eq_some_iff.1 hu).1; simpa [ivl] using this
            obtain rfl : j = 0 := by omega
            rw [addr_add, (Has.new w7 3 #[.int .i64 x]).cell]
            simpa [ivl] using hu
          have hltg : cnt7 < gk := by omega
          clear hkey hlx hv7 hat hrg7 hlt7 hg7 hs7 hcol hx7 HW hRs
          go_wp2_with (at_builtin; refine wpList_append_lies _ rfl _ _ 22 rfl (R + 1) 3 i0 (.int .i64 0) 1 8 Try.underlying22 hi hz0 hz1 hz2 rfl (by decide) (.slice A4 K.length c4) K.length (ivl K) rfl HOW.out ⟨w7.heap.size, 0, none⟩ 1 1 (ivl [x]) rfl ?q1 HNEW.out (ivl_one _) ?q2 ?q3 ?q4 ?q5 _ rfl ?_)
          case q1 => rfl
          case q2 => omega
          case q3 => unfold maxLen; omega
          case q4 => omega
          case q5 => have := H8.out.2.2.2.2; simp; omega
          rintro g1 cap1 w9 hown1 hgr1 hgg1 hlt1
          have hob : ∀ b, (Value.slice A4 K.length c4).ownBlock = some b → R + 1 ≤ b := fun b hb => (own_block H8.out.2.2.2.1 b hb).1
          have H9 := Lib.hid (show Below W.heap.size W w9 ∧ w9.ranges Try.prog 3 (plainElem Try.prog 4) B R n D (fun z => left z && !z.sameKey (.int .i64 x)) cnt7 ∧ Col D (openB r l first) l.length (fun z => left z && !z.sameKey (.int .i64 x)) (K ++ [x]) ∧ w9.ownsRow (R + 1) 3 1 (.slice (some ⟨g1, 0, none⟩) (K.length + 1) cap1) (K ++ [x]).length (ivl (K ++ [x])) from
            ⟨(H8.out.1.trans ((below_one _ _).mono H8.out.1.size)).trans (grown_step hgr1 (by have := H8.out.1.size; simp; omega) (fun b hb => by have := hob b hb; have := HBB.out; omega)),
             (H8.out.2.1.alloc _).kept hgr1 (fun e => by have := hob B e.symm; have := HBB.out; omega) (fun e => by have := hob R e.symm; omega), H8.out.2.2.1, by rw [List.length_append]; rw [show ivl (K ++ [x]) = ivl K ++ ivl [x] by simp [ivl]]; exact hown1⟩)
          clear hown1 hgr1 hgg1 hlt1 hob H8 HOW HNEW hen
          go_wp2_with fail
          go_roundg cnt7
          case measure => exact hltg
          case rel => exact ⟨_, cnt7, K ++ [x], Nat.le_refl _, H9⟩
    have hlt2 : (j : Int) < N := by omega
    have x0 : wr.cell? ⟨W.heap.size, 0, none⟩ = some (.slice A r.bases.length c) := HW.out.1.fr.cell 0
    have x1 : wr.cell? ⟨W.heap.size, 1, none⟩ = some (.int .i64 r.factor) := HW.out.1.fr.cell 1
    have x2 : wr.cell? ⟨W.heap.size, 2, none⟩ = some (.int .i64 r.most) := HW.out.1.fr.cell 2
    have hyl : (swingP r l j).length = l.length := by simp [swingP]
    have HS3 := Lib.hid (fun w h => HS2.out j (by omega) w h)
    obtain ⟨y, hy⟩ : ∃ y, y = swingP r l j := ⟨_, rfl⟩
    simp only [← hy] at HS3 hyl
    have HOP : Hid (∀ k (h : k < y.length), opAt r l first j k = (decide (y[k].lo ≤ first) && decide (first < y[k].hi))) := Lib.hid fun k h => by
      subst hy
      unfold opAt
      rw [List.getElem?_eq_getElem h]
    rw [hyl] at HS3
    have HYL := Lib.hid hyl
    clear hy hyl
    go_wp2_with fail
    refine (HS3.out _ HW.out.1.b).mono ?_
    rintro e w4 ⟨g, hg, rfl, hh, hb4⟩
    have H4 := Lib.hid (show OM W w4 r A c B n D ∧ KD D (mkD r l first j 0) l.length ∧ Has w4 g 56 (pra (y.map spp)) from ⟨HW.out.1.step hb4, HW.out.2, hh⟩)
    have HGB := Lib.hid (show B < g from Nat.lt_of_lt_of_le HW.out.1.m.lt hg)
    clear hg hh hb4 x0 x1 x2 HW HS3
    go_wp2_with fail
    obtain ⟨w5, rfl⟩ : ∃ w5, w5 = wr := ⟨_, rfl⟩
    go_loopg [38] l.length (fun gk i wx => ∃ k : Nat, k ≤ l.length ∧ l.length - k ≤ gk ∧ i = .int .i64 k ∧ ∃ n D, n ≤ 40 * j + k ∧ Hid (OM W wx r A c B n D ∧ KD D (mkD r l first j k) l.length ∧ Has wx g 56 (pra (y.map spp))))
    case atStart => exact ⟨0, Nat.zero_le _, Nat.le_refl _, rfl, n, D, by omega, H4⟩
    case round =>
      clear H4
      obtain ⟨k, hk, hgk, rfl, n, D, hn, HW⟩ := hrel
      by_cases hltk : k < l.length
      rotate_left
      · have hge : ¬ (k : Int) < l.length := by omega
        obtain rfl : k = l.length := by omega
        have H5 := Lib.hid (show OM W wr r A c B n D ∧ KD D (mkD r l first (j + 1) 0) l.length from ⟨HW.out.1, HW.out.2.1.congr fun i => mkD_row r l first j i⟩)
        clear HW hltk hk hgk
        go_wp2_with fail
        go_roundg (N - (j + 1))
        case measure => omega
        case rel => exact ⟨j + 1, by omega, Nat.le_refl _, by go_num, n, D, by omega, H5⟩
      have hltk2 : (k : Int) < l.length := by omega
      have hky : k < y.length := by have := HYL.out; omega
      have hkp := pra_get (y.map spp) k (by simpa using hky)
      have HOK2 := Lib.hid (HOP.out k hky)
      obtain ⟨sp, hsp⟩ : ∃ sp, sp = y[k] := ⟨_, rfl⟩
      have c0 : wr.cell? ⟨g, k * 2, none⟩ = some (.int .i64 sp.lo) := by rw [HW.out.2.2.cell, hkp.1, hsp]; simp [spp]
      have c1 : wr.cell? ⟨g, k * 2 + 1, none⟩ = some (.int .i64 sp.hi) := by rw [HW.out.2.2.cell, hkp.2, hsp]; simp [spp]
      rw [← hsp] at HOK2
      have H5 := Lib.hid (show OM W (wr.alloc (.cells #[.int .i64 sp.lo, .int .i64 sp.hi] 56)) r A c B n D ∧ KD D (mkD r l first j k) l.length ∧ Has (wr.alloc (.cells #[.int .i64 sp.lo, .int .i64 sp.hi] 56)) g 56 (pra (y.map spp)) ∧ Has (wr.alloc (.cells #[.int .i64 sp.lo, .int .i64 sp.hi] 56)) wr.heap.size 56 #[.int .i64 sp.lo, .int .i64 sp.hi] from
        ⟨HW.out.1.step (below_one _ _), HW.out.2.1, HW.out.2.2.alloc _, Has.new _ _ _⟩)
      clear hkp hsp HW hky
      go_upto_region 13 with fail
      generalize wr.alloc (.cells #[.int .i64 sp.lo, .int .i64 sp.hi] 56) = w6 at H5 ⊢
      generalize wr.heap.size = E at H5 ⊢
      clear c0 c1
      have e0 : w6.cell? ⟨E, 0, none⟩ = some (.int .i64 sp.lo) := H5.out.2.2.2.cell 0
      have e1 : w6.cell? ⟨E, 1, none⟩ = some (.int .i64 sp.hi) := H5.out.2.2.2.cell 1
      have hm2 : n + 1 ≤ 40 * j + (k + 1) := by omega
      by_cases hlo : sp.lo ≤ first
      rotate_left
      · have HN : Hid (KD D (mkD r l first j (k + 1)) l.length) := Lib.hid (H5.out.2.1.congr fun i => by
          rw [mkD_succ]
          by_cases e : i = k
          · subst e; rw [HOK2.out]; simp [hlo]
          · simp [e])
        have H6 := Lib.hid (And.intro H5.out.1 H5.out.2.2.1)
        clear HOK2 H5
        go_wp2_with fail
        go_roundg (l.length - (k + 1))
        case measure => omega
        case rel => exact ⟨k + 1, by omega, Nat.le_refl _, by go_num, n, D, by omega, Lib.hid ⟨H6.out.1, HN.out, H6.out.2⟩⟩
      by_cases hhi : first < sp.hi
      rotate_left
      · have HN : Hid (KD D (mkD r l first j (k + 1)) l.length) := Lib.hid (H5.out.2.1.congr fun i => by
          rw [mkD_succ]
          by_cases e : i = k
          · subst e; rw [HOK2.out]; simp [hhi]
          · simp [e])
        have H6 := Lib.hid (And.intro H5.out.1 H5.out.2.2.1)
        clear HOK2 H5
        go_wp2_with fail
        go_roundg (l.length - (k + 1))
        case measure => omega
        case rel => exact ⟨k + 1, by omega, Nat.le_refl _, by go_num, n, D, by omega, Lib.hid ⟨H6.out.1, HN.out, H6.out.2⟩⟩
      have HN := Lib.hid (((H5.out.2.1.put hltk (.lit (.bool true))).congr (g := mkD r l first j (k + 1)) fun i => by
          rw [mkD_succ]
          by_cases e : i = k
          · subst e; rw [HOK2.out]; simp [hlo, hhi]
          · simp [e]))
      have hwf : (Lit.int .i64 (k : Int)).wf = true := WalkArith.wf_i64 (by omega)
      clear HOK2
      go_wp2_with (at_mapUpdate; refine wpList_mapUpdate_own _ rfl _ _ _ 87 rfl 3 4 keyed3 Try.underlying87 _ B n D rfl H5.out.1.m (by unfold maxLen; omega) _ _ _ rfl rfl (keyOf_int_mk Try.underlying3 hwf) _ [] (plainElem_bool Try.underlying4 true) ?_)
      intro w7 hown7 hgr7
      have hb7 : Below B w6 w7 := grown_step hgr7 (Nat.le_of_lt H5.out.1.m.lt) (fun b hb => by cases hb; exact Nat.le_refl _)
      have H7 := Lib.hid (show OM W w7 r A c B (n + 1) (D.put (.int .i64 (k : Int)) (.lit (.bool true))) ∧ Has w7 g 56 (pra (y.map spp)) from
        ⟨⟨H5.out.1.b.trans (hb7.mono (Nat.le_of_lt H5.out.1.hB)), H5.out.1.fr.below hb7 H5.out.1.hB, hown7, H5.out.1.hB⟩, has_grown hgr7 H5.out.2.2.1 (by have := HGB.out; omega)⟩)
      clear hown7 hgr7 hb7 e0 e1 H5
      go_wp2_with fail
      go_roundg (l.length - (k + 1))
      case measure => omega
      case rel => exact ⟨k + 1, by omega, Nat.le_refl _, by go_num, n + 1, _, by omega, Lib.hid ⟨H7.out.1, HN.out, H7.out.2⟩⟩
end Go.Proofs.Ytmclchaalmonnaa
