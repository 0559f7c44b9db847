/- Contracts: what is valid. -/
import Derived.Test.YtipejhfgfciabaaHrP
namespace Go.Proofs.Ytipejhfgfciabaa
open Go.RowKit Go.Shelf
attribute [local irreducible] wpQuiet
/-- an hour is valid, and may stand where it stands -/
def hourAt (l : List Hr) (i : Nat) : Bool :=
  match l[i]? with
  | none => true
  | some h => hourB h && (decide (i = 0) || (match l[i - 1]? with | some a => folB a h | none => false))
def chB (l : List Hr) : Bool := (List.range l.length).all (hourAt l)
def ttB (x : Tt) : Bool := inB x.R 0 120 && (decide (x.G.length ≤ 5) && (decide (x.H.length ≤ 12) && (x.G.all grpB && chB x.H)))
theorem ttB_vt {x : Tt} (h : ttB x = true) : VT x := by
  simp only [ttB, inB, Bool.and_eq_true, decide_eq_true_eq] at h
  obtain ⟨h1, h2, h3, h4, h5⟩ := h
  refine ⟨h1, h2, h3, fun g hg => ?_, fun a ha => ?_⟩
  · have := List.all_eq_true.1 h4 g hg
    simpa [grpB, inB, Bool.and_eq_true] using this
  · obtain ⟨i, hi, rfl⟩ := List.getElem_of_mem ha
    have := List.all_eq_true.1 h5 i (by simpa using hi)
    simp only [hourAt, List.getElem?_eq_getElem hi, Bool.and_eq_true] at this
    have h6 := this.1
    simpa [hourB, inB, Bool.and_eq_true] using h6
structure VB (W w : World) (x : Tt) (AH AG : Option Addr) (ch cg : Nat) : Prop where
  b : Below W.heap.size W w
  fx : Has w W.heap.size 25 (ttc x AH AG ch cg)
theorem VB.step {W w w' : World} {x : Tt} {AH AG : Option Addr} {ch cg : Nat} (h : VB W w x AH AG ch cg) (hb : Below w.heap.size w w') : VB W w' x AH AG ch cg := ⟨h.b.trans (hb.mono h.b.size), h.fx.below hb h.fx.lt⟩
structure VD (W w : World) (x : Tt) (AH AG : Option Addr) (ch cg D : Nat) (h : Hr) : Prop where
  v : VB W w x AH AG ch cg
  fd : Has w D 88 (hrc h)
theorem VD.step {W w w' : World} {x : Tt} {AH AG : Option Addr} {ch cg D : Nat} {h : Hr} (v : VD W w x AH AG ch cg D h) (hb : Below w.heap.size w w') : VD W w' x AH AG ch cg D h := ⟨v.v.step hb, v.fd.below hb v.fd.lt⟩
theorem VD.drew {W w : World} {x : Tt} {AH AG : Option Addr} {ch cg D : Nat} {h : Hr} (v : VD W w x AH AG ch cg D h) : VD W w.drew x AH AG ch cg D h := ⟨⟨v.v.b.drew, v.v.fx.drew⟩, v.fd.drew⟩
def regionOf (n : Nat) : Code → Option (Array Oper)
  | .region i ops _ => if i = n then some ops else none
  | .seq a b => match regionOf n a with | some p => some p | none => regionOf n b
  | .cond _ a b => match regionOf n a with | some p => some p | none => regionOf n b
  | .block _ c => regionOf n c
  | .loop c => regionOf n c
  | .scope c => regionOf n c
  | _ => none
abbrev tV (B D i : Nat) (v : Nat → Value) : Array Value :=
  #[v 0, .pointer (some ⟨B, 0, none⟩), v 2, v 3, v 4, .int .i64 i, .pointer (some ⟨D, 0, none⟩), v 7, v 8, v 9, v 10, v 11, v 12, v 13, v 14, v 15, v 16, v 17, v 18, v 19, v 20, v 21, v 22, v 23, v 24, v 25, v 26, v 27, v 28, v 29, v 30, v 31, v 32, v 33, v 34, v 35, v 36, v 37, v 38, v 39, v 40, v 41, v 42, v 43, v 44, v 45, v 46, v 47, v 48, v 49, v 50, v 51, v 52, v 53, v 54, v 55, v 56, v 57, v 58, v 59, v 60]
abbrev tVs (t : Array Value) (b : Bool) (v : Nat → Value) : Array Value := #[t.getD 0 undef, t.getD 1 undef, t.getD 2 undef, t.getD 3 undef, t.getD 4 undef, t.getD 5 undef, t.getD 6 undef, t.getD 7 undef, t.getD 8 undef, t.getD 9 undef, t.getD 10 undef, t.getD 11 undef, t.getD 12 undef, t.getD 13 undef, t.getD 14 undef, t.getD 15 undef, t.getD 16 undef, t.getD 17 undef, t.getD 18 undef, t.getD 19 undef, t.getD 20 undef, t.getD 21 undef, t.getD 22 undef, t.getD 23 undef, t.getD 24 undef, t.getD 25 undef, t.getD 26 undef, t.getD 27 undef, t.getD 28 undef, t.getD 29 undef, t.getD 30 undef, t.getD 31 undef, t.getD 32 undef, t.getD 33 undef, t.getD 34 undef, t.getD 35 undef, t.getD 36 undef, t.getD 37 undef, t.getD 38 undef, t.getD 39 undef, t.getD 40 undef, t.getD 41 undef, v 42, v 43, v 44, v 45, v 46, v 47, v 48, v 49, v 50, v 51, v 52, v 53, v 54, v 55, v 56, v 57, v 58, .bool b, t.getD 60 undef]
theorem ex_v {B D i : Nat} {t : Array Value} (h : t = tV B D i (fun j => t.getD j undef)) : ∃ v, t = tV B D i v := ⟨_, h⟩
theorem ex_vs {t t' : Array Value} {b : Bool} (h : t' = tVs t b (fun j => t'.getD j undef)) : ∃ v, t' = tVs t b v := ⟨_, h⟩
/-- whether an hour is wrong where it stands -/
def wrongB (i : Nat) (h : Hr) (a : Option Hr) : Bool := !hourB h || (!decide (i = 0) && !(match a with | some a => folB a h | none => false))
set_option maxRecDepth 100000 in
set_option maxHeartbeats 1200000 in
theorem hour_region {W w1 : World} {x : Tt} {g o : Nat} {AG : Option Addr} {ch cg D i : Nat} {h : Hr} {t : Array Value} {ops : Array Oper} {Q : Exit → Act → World → Prop}
    (hops : some ops = Try.f38.body.bind (regionOf 12)) (ht : t = tV W.heap.size D i (fun j => t.getD j undef)) (hlh : x.H.length ≤ 9223372036854775807) (hlt : i < x.H.length)
    (HW1 : VD W w1 x (some ⟨g, o, none⟩) AG ch cg D h) (hrow : ∀ w, Below W.heap.size W w → ∀ j, j < 3 → w.cell? ⟨g, o + (i - 1) * 3 + j, none⟩ = (hrc x.H[i - 1])[j]?)
    (hQ : ∀ w7 t', t' = tVs t (wrongB i h x.H[i - 1]?) (fun j => t'.getD j undef) → VD W w7 x (some ⟨g, o, none⟩) AG ch cg D h → Q .normal { tmps := t', defers := [] } w7) :
    (Code.region 12 ops true).wp Try.prog Q { tmps := t, defers := [] } w1 := by
  obtain ⟨v, hv⟩ := ex_v ht
  clear ht
  subst hv
  simp only [Try.f38, Option.bind_some, regionOf, reduceIte, Option.some.injEq, Nat.reduceEqDiff] at hops
  subst hops
  haveI hne : Nonempty (Cls (fun w' => VD W w' x (some ⟨g, o, none⟩) AG ch cg D h)) := ⟨⟨_, HW1.drew⟩⟩
  have HD := Lib.hid (VD.drew HW1)
  have hmix : Try.prog.follows .mixedOrders = true := by kernel_rfl
  have hx0 : ∀ pc : Cls (fun w' => VD W w' x (some ⟨g, o, none⟩) AG ch cg D h), pc.w.cell? ⟨W.heap.size, 0, none⟩ = some (.slice (some ⟨g, o, none⟩) x.H.length ch) := fun pc => pc.h.v.fx.cell 0
  have hd0 : ∀ pc : Cls (fun w' => VD W w' x (some ⟨g, o, none⟩) AG ch cg D h), pc.w.cell? ⟨D, 0, none⟩ = some (.int .i64 h.day) := fun pc => pc.h.fd.cell 0
  have hd1 : ∀ pc : Cls (fun w' => VD W w' x (some ⟨g, o, none⟩) AG ch cg D h), pc.w.cell? ⟨D, 1, none⟩ = some (.int .i64 h.beg) := fun pc => pc.h.fd.cell 1
  have hd2 : ∀ pc : Cls (fun w' => VD W w' x (some ⟨g, o, none⟩) AG ch cg D h), pc.w.cell? ⟨D, 2, none⟩ = some (.int .i64 h.fin) := fun pc => pc.h.fd.cell 2
  have HFR := Lib.hid (fun (w : World) (v : VD W w x (some ⟨g, o, none⟩) AG ch cg D h) => (validHour_any h w).mono (fun e w' (h' : BoolPost (hourB h) w e w') => (show e = .returned (.bool (hourB h)) ∧ VD W w' x (some ⟨g, o, none⟩) AG ch cg D h from ⟨h'.1, v.step h'.2⟩)))
  unfold hrv at HFR
  have HQ := Lib.hid hQ
  have HROW := Lib.hid hrow
  clear hQ HW1 hrow
  cases hB : hourB h <;> rw [hB] at HFR
  · have HE : Hid (wrongB i h x.H[i - 1]? = true) := Lib.hid (by unfold wrongB; rw [hB]; rfl)
    have hc := HFR.out
    rw [HE.out] at HQ
    clear hB
    refine wp_region_cls (fun w' => VD W w' x (some ⟨g, o, none⟩) AG ch cg D h) hmix (by kernel_rfl) HD.out ?_
    repeat (quiet_step (exact cls_call hc _))
    refine wpQuiet_nil ?_
    rintro w7 ⟨⟨_, hw7⟩, rfl⟩
    exact HQ.out _ _ rfl hw7
  by_cases h0 : i = 0
  · subst h0
    have HO : Hid (wrongB 0 h x.H[0 - 1]? = false) := Lib.hid (by unfold wrongB; rw [hB]; rfl)
    have hc := HFR.out
    rw [HO.out] at HQ
    clear hB
    refine wp_region_cls (fun w' => VD W w' x (some ⟨g, o, none⟩) AG ch cg D h) hmix (by kernel_rfl) HD.out ?_
    repeat (quiet_step (exact cls_call hc _))
    refine wpQuiet_nil ?_
    rintro w7 ⟨⟨_, hw7⟩, rfl⟩
    exact HQ.out _ _ rfl hw7
  have ha : x.H[i - 1]? = some (x.H[i - 1]'(by omega)) := List.getElem?_eq_getElem (by omega)
  obtain ⟨a, haa⟩ : ∃ a, a = x.H[i - 1]'(by omega) := ⟨_, rfl⟩
  rw [← haa] at ha HROW
  rw [ha] at HQ
  clear ha haa
  obtain ⟨j, hj⟩ : ∃ j, j = i - 1 := ⟨_, rfl⟩
  rw [← hj] at HROW
  have ha0 : ∀ pc : Cls (fun w' => VD W w' x (some ⟨g, o, none⟩) AG ch cg D h), pc.w.cell? ⟨g, o + j * 3, none⟩ = some (.int .i64 a.day) := fun pc => HROW.out _ pc.h.v.b 0 (by omega)
  have ha1 : ∀ pc : Cls (fun w' => VD W w' x (some ⟨g, o, none⟩) AG ch cg D h), pc.w.cell? ⟨g, o + j * 3 + 1, none⟩ = some (.int .i64 a.beg) := fun pc => HROW.out _ pc.h.v.b 1 (by omega)
  have ha2 : ∀ pc : Cls (fun w' => VD W w' x (some ⟨g, o, none⟩) AG ch cg D h), pc.w.cell? ⟨g, o + j * 3 + 2, none⟩ = some (.int .i64 a.fin) := fun pc => HROW.out _ pc.h.v.b 2 (by omega)
  have e1 : IntKind.i64.wrap ((i : Int) - 1) = (j : Int) := by rw [IntWalk.i64_in _ (by omega)]; omega
  have e4 : (j : Int) < x.H.length := by omega
  clear hj
  have e5 : 0 < i := by omega
  have e6 : decide (0 < (i : Int)) = true := by simp; omega
  have HFF := Lib.hid (fun (w : World) (v : VD W w x (some ⟨g, o, none⟩) AG ch cg D h) => (follows_any a h w).mono (fun e w' (h' : BoolPost (folB a h) w e w') => (show e = .returned (.bool (folB a h)) ∧ VD W w' x (some ⟨g, o, none⟩) AG ch cg D h from ⟨h'.1, v.step h'.2⟩)))
  unfold hrv at HFF
  cases hF : folB a h <;> rw [hF] at HFF
  all_goals
    have HE := Lib.hid (show wrongB i h (some a) = _ by unfold wrongB; simp only [hB, hF, show decide (i = 0) = false by simpa using h0]; rfl)
    have hc := HFR.out
    have hf := HFF.out
    rw [HE.out] at HQ
    clear hF hB HE
    try clear HROW
    have h0' := Lib.hid h0
    clear h0
    refine wp_region_cls (fun w' => VD W w' x (some ⟨g, o, none⟩) AG ch cg D h) hmix (by kernel_rfl) HD.out ?_
    repeat (quiet_step (first | exact cls_call hc _ | exact cls_call hf _))
    refine wpQuiet_nil ?_
    rintro w7 ⟨⟨_, hw7⟩, rfl⟩
    exact HQ.out _ _ rfl hw7
set_option maxRecDepth 100000 in
set_option maxHeartbeats 1200000 in
theorem validTimetable_any (x : Tt) (AH AG : Option Addr) (ch cg : Nat) (W : World) (hr : TR W W.heap.size x AH AG) : Calls Try.prog 38 #[ttv x AH AG ch cg] W (BoolPost (ttB x) W) := by
  have HB : Hid (VB W (W.alloc (.cells (ttc x AH AG ch cg) 25)) x AH AG ch cg) := ⟨below_one W _, Has.new W 25 _⟩
  have HR := Lib.hid hr
  have hlg := hr.lg
  have hlh := hr.lh
  have HW1 := Lib.hid (fun w => within_any x.R 0 120 w)
  have hn : ∀ c, ttB x = c → Hid (ttB x = c) := fun b h => h
  clear hr
  unfold ttv
  by_cases h1 : inB x.R 0 120 = true
  rotate_left
  · have h1' : inB x.R 0 120 = false := by simpa using h1
    have HE := hn false (by unfold ttB; rw [h1']; rfl)
    rw [h1'] at HW1
    clear hn h1 h1'
    go_enter Try.func38, Try.ntmps38
    go_wp2_with fail
    refine (HW1.out _).mono ?_
    rintro e w ⟨rfl, rfl⟩
    go_wp2_with fail
    go_ret
    exact ⟨ret_bool HE.out.symm, HB.out.b⟩
  rw [h1] at HW1
  by_cases h2 : x.G.length ≤ 5
  rotate_left
  · have HE := hn false (by unfold ttB; rw [show decide (x.G.length ≤ 5) = false by simpa using h2]; simp)
    have h2' : (5 : Int) < x.G.length := by omega
    clear hn h1 h2
    go_enter Try.func38, Try.ntmps38
    go_wp2_with fail
    refine (HW1.out _).mono ?_
    rintro e w ⟨rfl, rfl⟩
    go_wp2_with fail
    go_ret
    exact ⟨ret_bool HE.out.symm, HB.out.b⟩
  have h2' : ¬ (5 : Int) < x.G.length := by omega
  by_cases h3 : x.H.length ≤ 12
  rotate_left
  · have HE := hn false (by unfold ttB; rw [show decide (x.H.length ≤ 12) = false by simpa using h3]; simp)
    have h3' : (12 : Int) < x.H.length := by omega
    clear hn h1 h2 h3
    go_enter Try.func38, Try.ntmps38
    go_wp2_with fail
    refine (HW1.out _).mono ?_
    rintro e w ⟨rfl, rfl⟩
    go_wp2_with fail
    go_ret
    exact ⟨ret_bool HE.out.symm, HB.out.b⟩
  have h3' : ¬ (12 : Int) < x.H.length := by omega
  have HT : Hid (ttB x = (x.G.all grpB && chB x.H)) := by
    unfold ttB; rw [h1, show decide (x.G.length ≤ 5) = true by simpa using h2, show decide (x.H.length ≤ 12) = true by simpa using h3]; exact Lib.hid rfl
  clear hn h1 h2 h3
  go_enter Try.func38, Try.ntmps38
  go_wp2_with fail
  refine (HW1.out _).mono ?_
  rintro e w ⟨rfl, rfl⟩
  go_wp2_with fail
  clear HW1 h2' h3'
  generalize W.alloc (.cells (ttc x AH AG ch cg) 25) = w0 at HB ⊢
  have x1 : w0.cell? ⟨W.heap.size, 1, none⟩ = some (.slice AG x.G.length cg) := HB.out.fx.cell 1
  go_wp2_with fail
  clear x1
  go_loopg [26] x.G.length (fun gk i wr => ∃ k : Nat, k ≤ x.G.length ∧ x.G.length - k ≤ gk ∧ i = .int .i64 k ∧ Hid (VB W wr x AH AG ch cg ∧ ∀ j (hj : j < x.G.length), j < k → grpB x.G[j] = true))
  case atStart => exact ⟨0, Nat.zero_le _, Nat.le_refl _, rfl, Lib.hid ⟨HB.out, fun j _ h => absurd h (by omega)⟩⟩
  case round =>
    obtain ⟨k, hk, hgk, rfl, HW⟩ := hrel
    by_cases hlt : k < x.G.length
    · have hlt2 : (k : Int) < x.G.length := by omega
      obtain ⟨g, o, hg, hgs, hc⟩ := (HR.out.below HW.out.1.b).g k hlt
      have HAT : Hid (∀ b, grpB x.G[k] = b → grpB x.G[k] = b) := fun b h => h
      obtain ⟨b, hb⟩ : ∃ b, b = x.G[k] := ⟨_, rfl⟩
      rw [← hb] at hc
      have HBE := Lib.hid hb
      have c0 : wr.cell? ⟨g, o + k * 5, none⟩ = some (.int .i64 b.days) := hc 0 (by omega)
      have c1 : wr.cell? ⟨g, o + k * 5 + 1, none⟩ = some (.int .i64 b.early) := hc 1 (by omega)
      have c2 : wr.cell? ⟨g, o + k * 5 + 2, none⟩ = some (.int .i64 b.late) := hc 2 (by omega)
      have c3 : wr.cell? ⟨g, o + k * 5 + 3, none⟩ = some (.int .i64 b.most) := hc 3 (by omega)
      have c4 : wr.cell? ⟨g, o + k * 5 + 4, none⟩ = some (.int .i64 b.credit) := hc 4 (by omega)
      subst hg
      clear hc hb hgs HAT
      go_upto_region 6 with fail
      have HW1 := Lib.hid (And.intro (HW.out.1.step (below_one wr (.cells (grc b) 49))) (Has.new wr 49 (grc b)))
      clear c0 c1 c2 c3 c4
      unfold grc at HW1
      generalize wr.heap.size = D at HW1 ⊢
      generalize wr.alloc (.cells #[.int .i64 b.days, .int .i64 b.early, .int .i64 b.late, .int .i64 b.most, .int .i64 b.credit] 49) = w1 at HW1 ⊢
      have d0 : w1.cell? ⟨D, 0, none⟩ = some (.int .i64 b.days) := HW1.out.2.cell 0
      have d1 : w1.cell? ⟨D, 1, none⟩ = some (.int .i64 b.early) := HW1.out.2.cell 1
      have d2 : w1.cell? ⟨D, 2, none⟩ = some (.int .i64 b.late) := HW1.out.2.cell 2
      have d3 : w1.cell? ⟨D, 3, none⟩ = some (.int .i64 b.most) := HW1.out.2.cell 3
      have d4 : w1.cell? ⟨D, 4, none⟩ = some (.int .i64 b.credit) := HW1.out.2.cell 4
      have HC := Lib.hid (fun w => validGroup_any b w)
      cases hgb : grpB b <;> rw [hgb] at HC
      · have HE : Hid (ttB x = false) := by
          have h : x.G.all grpB = false := List.all_eq_false.2 ⟨x.G[k], List.getElem_mem hlt, by rw [← HBE.out, hgb]; decide⟩
          exact Lib.hid (by rw [HT.out, h]; rfl)
        clear hgb
        unfold grv at HC
        go_wp2_with fail
        refine (HC.out _).mono ?_
        rintro e w2 ⟨rfl, hb2⟩
        have HW2 := Lib.hid (HW1.out.1.step hb2)
        clear hb2
        go_wp2_with fail
        go_ret
        exact ⟨ret_bool HE.out.symm, HW2.out.b⟩
      · have HG := Lib.hid hgb
        clear hgb
        unfold grv at HC
        go_wp2_with fail
        refine (HC.out _).mono ?_
        rintro e w2 ⟨rfl, hb2⟩
        have HW2 := Lib.hid (HW1.out.1.step hb2)
        clear hb2
        go_wp2_with fail
        go_roundg (x.G.length - (k + 1))
        case measure => omega
        case rel =>
          refine ⟨k + 1, by omega, Nat.le_refl _, by go_num, Lib.hid ⟨HW2.out, fun j hj hjk => ?_⟩⟩
          rcases Nat.lt_or_ge j k with h | h
          · exact HW.out.2 j hj h
          · have : j = k := by omega
            subst this
            rw [← HBE.out]; exact HG.out
    · have hge : ¬ (k : Int) < x.G.length := by omega
      have HGA : Hid (ttB x = chB x.H) := by
        have h : x.G.all grpB = true := List.all_eq_true.2 (fun a ha => by
          obtain ⟨j, hj, rfl⟩ := List.getElem_of_mem ha
          exact HW.out.2 j hj (by omega))
        exact Lib.hid (by rw [HT.out, h]; rfl)
      have HV := Lib.hid HW.out.1
      have x0 : wr.cell? ⟨W.heap.size, 0, none⟩ = some (.slice AH x.H.length ch) := HW.out.1.fx.cell 0
      clear HW HT HB
      go_wp2_with fail
      clear x0 hge hgk hk
      go_loopg [37] x.H.length (fun gk i wr => ∃ k : Nat, k ≤ x.H.length ∧ x.H.length - k ≤ gk ∧ i = .int .i64 k ∧ Hid (VB W wr x AH AG ch cg ∧ ∀ j, j < k → hourAt x.H j = true))
      case atStart => exact ⟨0, Nat.zero_le _, Nat.le_refl _, rfl, Lib.hid ⟨HV.out, fun j h => absurd h (by omega)⟩⟩
      case round =>
        obtain ⟨i, hi, hgi, rfl, HW⟩ := hrel
        by_cases hlt : i < x.H.length
        rotate_left
        · have hge : ¬ (i : Int) < x.H.length := by omega
          have HE : Hid (ttB x = true) := by
            have h : chB x.H = true := List.all_eq_true.2 (fun j hj => HW.out.2 j (by have := List.mem_range.1 hj; omega))
            exact Lib.hid (by rw [HGA.out, h])
          go_wp2_with fail
          go_ret
          exact ⟨ret_bool HE.out.symm, HW.out.1.b⟩
        have hlt2 : (i : Int) < x.H.length := by omega
        have hi63 : (i : Int) ≤ 9223372036854775807 := by omega
        obtain ⟨g, o, hg, hgs, hc⟩ := (HR.out.below HW.out.1.b).h i hlt
        have HAF : Hid (hourAt x.H i = false → ttB x = false) := by
          refine Lib.hid (fun h => ?_)
          have h2 : chB x.H = false := List.all_eq_false.2 ⟨i, List.mem_range.2 hlt, by rw [h]; decide⟩
          rw [HGA.out, h2]
        have HAT : Hid (hourAt x.H i = (hourB x.H[i] && (decide (i = 0) || (match x.H[i - 1]? with | some a => folB a x.H[i] | none => false)))) := by
          refine Lib.hid ?_
          unfold hourAt
          rw [List.getElem?_eq_getElem hlt]
        obtain ⟨h, hh⟩ : ∃ h, h = x.H[i] := ⟨_, rfl⟩
        rw [← hh] at hc HAT
        have c0 : wr.cell? ⟨g, o + i * 3, none⟩ = some (.int .i64 h.day) := hc 0 (by omega)
        have c1 : wr.cell? ⟨g, o + i * 3 + 1, none⟩ = some (.int .i64 h.beg) := hc 1 (by omega)
        have c2 : wr.cell? ⟨g, o + i * 3 + 2, none⟩ = some (.int .i64 h.fin) := hc 2 (by omega)
        have HROW := Lib.hid (fun w (hb : Below W.heap.size W w) => (HR.out.below hb).h (i - 1) (by omega))
        subst hg
        clear hc hh hgs HGA
        go_upto_region 12 with fail
        have HW1 : Hid (VD W (wr.alloc (.cells (hrc h) 88)) x (some ⟨g, o, none⟩) AG ch cg wr.heap.size h) := ⟨HW.out.1.step (below_one wr (.cells (hrc h) 88)), Has.new wr 88 (hrc h)⟩
        clear c0 c1 c2
        unfold hrc at HW1
        generalize wr.heap.size = D at HW1 ⊢
        generalize wr.alloc (.cells #[.int .i64 h.day, .int .i64 h.beg, .int .i64 h.fin] 88) = w1 at HW1 ⊢
        refine hour_region (x := x) (g := g) (o := o) (AG := AG) (ch := ch) (cg := cg) (h := h) rfl rfl hlh hlt HW1.out (fun w hb j hj => by
          obtain ⟨g2, o2, e2, _, h2⟩ := HROW.out w hb
          cases e2
          exact h2 j hj) ?_
        intro w7 t' ht' hV
        obtain ⟨v, rfl⟩ := ex_vs ht'
        clear ht' HW1 HROW
        simp only [tVs, Array.getD_eq_getD_getElem?, List.getElem?_toArray, List.getElem?_cons_succ, List.getElem?_cons_zero, Option.getD_some]
        have H7 := Lib.hid hV
        clear hV
        have HWR : Hid (wrongB i h x.H[i - 1]? = !hourAt x.H i) := by
          refine Lib.hid ?_
          rw [HAT.out]
          unfold wrongB
          cases hourB h <;> cases decide (i = 0) <;> simp
        rw [HWR.out]
        have HAO := Lib.hid (fun h => HAF.out h)
        clear HWR HAT HAF
        cases hO : hourAt x.H i
        · have HE : Hid (ttB x = false) := Lib.hid (HAO.out hO)
          clear hO
          go_wp2_with fail
          go_ret
          exact ⟨ret_bool HE.out.symm, H7.out.v.b⟩
        · have HO := Lib.hid hO
          clear hO
          go_wp2_with fail
          go_roundg (x.H.length - (i + 1))
          case measure => omega
          case rel =>
            refine ⟨i + 1, by omega, Nat.le_refl _, by go_num, Lib.hid ⟨H7.out.v, fun j hj => ?_⟩⟩
            rcases Nat.lt_or_ge j i with h' | h'
            · exact HW.out.2 j h'
            · have : j = i := by omega
              subst this
              exact HO.out
end Go.Proofs.Ytipejhfgfciabaa
