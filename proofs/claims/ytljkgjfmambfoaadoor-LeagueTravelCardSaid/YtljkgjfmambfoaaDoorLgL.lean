/- Contracts: others, isIn, isOut, aimOf. -/
import Derived.Test.YtljkgjfmambfoaaDoorLgJ
namespace Go.Proofs.YtljkgjfmambfoaaDoor
open Go.RowKit Go.Shelf
attribute [local irreducible] wpQuiet
abbrev amc (n t pl : Int) : Array Value := #[.int .i64 n, .int .i64 t, .int .i64 pl]
def amv (n t pl : Int) : Value := .agg (amc n t pl)
def othersK (t : Int) (p : Pt) (more : Int) (k : Nat) : Int := ((List.range k).filter fun (i : Nat) => !decide ((i : Int) = t) && decide (p.getD t.toNat 0 + more ≤ p.getD i 0)).length
theorem others_succ (t : Int) (p : Pt) (more : Int) (k : Nat) : othersK t p more (k + 1) = othersK t p more k + if !decide ((k : Int) = t) && decide (p.getD t.toNat 0 + more ≤ p.getD k 0) then 1 else 0 := by
  unfold othersK
  rw [List.range_succ, List.filter_append, List.length_append, show List.filter (fun (i : Nat) => !decide ((i : Int) = t) && decide (p.getD t.toNat 0 + more ≤ p.getD i 0)) [k] = if !decide ((k : Int) = t) && decide (p.getD t.toNat 0 + more ≤ p.getD k 0) then [k] else [] from by simp only [List.filter_cons, List.filter_nil]]
  generalize (!decide ((k : Int) = t) && decide (p.getD t.toNat 0 + more ≤ p.getD k 0)) = b
  cases b <;> simp
theorem others_bd (t : Int) (p : Pt) (more : Int) (k : Nat) : 0 ≤ othersK t p more k ∧ othersK t p more k ≤ k := by
  unfold othersK
  have := List.length_filter_le (fun (i : Nat) => !decide ((i : Int) = t) && decide (p.getD t.toNat 0 + more ≤ p.getD i 0)) (List.range k)
  rw [List.length_range] at this
  omega
/-- others, at work -/
structure OtI (W w : World) (n t pl : Int) (p : Pt) : Prop where
  b : Below W.heap.size W w
  fa : Has w W.heap.size 73 (amc n t pl)
  fp : Has w (W.heap.size + 1) 77 (ptc p)
theorem OtI.step {W w w' : World} {n t pl : Int} {p : Pt} (h : OtI W w n t pl p) (hb : Below w.heap.size w w') : OtI W w' n t pl p := ⟨h.b.trans (hb.mono h.b.size), h.fa.below hb h.fa.lt, h.fp.below hb h.fp.lt⟩
theorem OtI.start (W : World) (n t pl : Int) (p : Pt) : OtI W ((W.alloc (.cells (amc n t pl) 73)).alloc (.cells (ptc p) 77)) n t pl p := ⟨below_two W _ _, (Has.new _ _ _).alloc _, has_newAt (by simp)⟩
set_option maxRecDepth 100000 in
set_option maxHeartbeats 2000000 in
theorem others_any (n : Nat) (t pl more : Int) (p : Pt) (W : World) (hn : n ≤ 6) (ht : 0 ≤ t ∧ t < n) (hp : PB 1000000 p) (hm : 0 ≤ more ∧ more ≤ 1) :
    Calls Tryd.prog 69 #[amv n t pl, ptv p, .int .i64 more] W (IntPost (othersP n t p more) W) := by
  have HB := Lib.hid (OtI.start W n t pl p)
  have HE : Hid (othersP n t p more = othersK t p more n) := Lib.hid rfl
  have HS := Lib.hid (fun k => others_succ t p more k)
  have HBD := Lib.hid (fun k => others_bd t p more k)
  have HP := Lib.hid hp
  obtain ⟨tn, htn⟩ : ∃ tn : Nat, t = (tn : Int) := ⟨t.toNat, by omega⟩
  have htl : tn < n := by omega
  have htp := hp.b tn
  rw [htn] at HB HE HS HBD ⊢
  rw [show ((tn : Int)).toNat = tn from rfl] at HS
  have HZ : Hid (othersK tn p more 0 = 0) := Lib.hid rfl
  obtain ⟨X, hX⟩ : ∃ X, X = othersP n tn p more := ⟨_, rfl⟩
  rw [← hX] at HE ⊢
  obtain ⟨ct, hct⟩ : ∃ c, c = p.getD tn 0 := ⟨_, rfl⟩
  rw [← hct] at HS htp
  have HCT := Lib.hid hct
  have e1 : IntKind.i64.wrap (ct + more) = ct + more := IntWalk.i64_in _ (by omega)
  have htl6 : (tn : Int) < 6 := by omega
  have htl7 : tn < 6 := by omega
  clear htn ht hp hX hct
  unfold amv ptv
  go_enter Tryd.func69, Tryd.ntmps69
  go_upto_region 1 with fail
  generalize (W.alloc (.cells (amc n tn pl) 73)).alloc (.cells (ptc p) 77) = w9 at HB ⊢
  have a0 : w9.cell? ⟨W.heap.size, 0, none⟩ = some (.int .i64 (n : Int)) := HB.out.fa.cell 0
  go_wp2_with fail
  clear a0
  go_loopg [11, 7] n (fun gk i c wr => ∃ k : Nat, k ≤ n ∧ n - k ≤ gk ∧ i = .int .i64 k ∧ c = .int .i64 (othersK tn p more k) ∧ Hid (OtI W wr n tn pl p))
  case atStart => exact ⟨0, Nat.zero_le _, Nat.le_refl _, rfl, by rw [HZ.out], HB⟩
  case round =>
    clear HB HZ
    obtain ⟨k, hk, hgk, rfl, rfl, HB⟩ := hrel
    have hob := HBD.out k
    have HSk := Lib.hid (HS.out k)
    clear HS
    by_cases hlt : k < n
    rotate_left
    · have hge : ¬ (k : Int) < n := by omega
      obtain rfl : k = n := by omega
      generalize othersK tn p more k = q at HE hob ⊢
      clear HSk
      go_wp2_with fail
      go_ret
      exact ⟨ret_int HE.out.symm, HB.out.b⟩
    have hlt2 : (k : Int) < n := by omega
    have hlt6 : (k : Int) < 6 := by omega
    have hk6 : k < 6 := by omega
    obtain ⟨ck, hck⟩ : ∃ c, c = p.getD k 0 := ⟨_, rfl⟩
    rw [← hck] at HSk
    obtain ⟨q, hq⟩ : ∃ q, q = othersK tn p more k := ⟨_, rfl⟩
    rw [← hq] at HSk hob ⊢
    have HCK := Lib.hid hck
    clear hck hq
    go_upto_region 5 with fail
    haveI hne : Nonempty (Cls (fun w' => OtI W w' n tn pl p)) := ⟨⟨_, HB.out⟩⟩
    have HD := Lib.hid (HB.out.step (Below.refl _ _).drew)
    have ha1 : ∀ pc : Cls (fun w' => OtI W w' n tn pl p), pc.w.cell? ⟨W.heap.size, 1, none⟩ = some (.int .i64 (tn : Int)) := fun pc => pc.h.fa.cell 1
    have hpt : ∀ pc : Cls (fun w' => OtI W w' n tn pl p), pc.w.cell? ⟨W.heap.size + 1, tn, none⟩ = some (.int .i64 ct) := fun pc => by rw [HCT.out]; exact (pc.h.fp.cell tn).trans (ptc_at htl7)
    have hpk : ∀ pc : Cls (fun w' => OtI W w' n tn pl p), pc.w.cell? ⟨W.heap.size + 1, k, none⟩ = some (.int .i64 ck) := fun pc => by rw [HCK.out]; exact (pc.h.fp.cell k).trans (ptc_at hk6)
    by_cases hkt : (k : Int) = (tn : Int)
    · have h1 : ((k : Int) == (tn : Int)) = true := by simpa using hkt
      have h2 : ((k : Int) != (tn : Int)) = false := by simpa using hkt
      have h3 : (k == tn) = true := by simp; omega
      have h4 : (k != tn) = false := by simp; omega
      have HQ : Hid (othersK tn p more (k + 1) = q) := Lib.hid (by rw [HSk.out, decide_eq_true hkt]; simp)
      clear hkt HSk
      refine wp_region_cls (fun w' => OtI W w' n tn pl p) hmix (by kernel_rfl) HD.out ?_
      repeat (quiet_step (fail))
      refine wpQuiet_nil ?_
      rintro w7 ⟨⟨_, hw7⟩, rfl⟩
      have H7 := Lib.hid hw7
      clear ha1 hpt hpk hne hw7 HD
      go_wp2_with fail
      go_roundg (n - (k + 1))
      case measure => omega
      case rel => exact ⟨k + 1, by omega, Nat.le_refl _, by go_num, by rw [HQ.out], H7⟩
    have h1 : ((k : Int) == (tn : Int)) = false := by simpa using hkt
    have h2 : ((k : Int) != (tn : Int)) = true := by simpa using hkt
    have h3 : (k == tn) = false := by simp; omega
    have h4 : (k != tn) = true := by simp; omega
    have HSk2 : Hid (othersK tn p more (k + 1) = q + if decide (ct + more ≤ ck) then 1 else 0) := Lib.hid (by rw [HSk.out, decide_eq_false hkt]; simp)
    clear hkt HSk
    obtain ⟨b, hb⟩ : ∃ b, decide (ct + more ≤ ck) = b := ⟨_, rfl⟩
    rw [hb] at HSk2
    refine wp_region_cls (fun w' => OtI W w' n tn pl p) hmix (by kernel_rfl) HD.out ?_
    repeat (quiet_step (fail))
    refine wpQuiet_nil ?_
    rintro w7 ⟨⟨_, hw7⟩, rfl⟩
    have H7 := Lib.hid hw7
    clear ha1 hpt hpk hne hw7 HD
    cases b
    · have HQ : Hid (othersK tn p more (k + 1) = q) := Lib.hid (by rw [HSk2.out]; simp)
      clear hb HSk2
      go_wp2_with fail
      go_roundg (n - (k + 1))
      case measure => omega
      case rel => exact ⟨k + 1, by omega, Nat.le_refl _, by go_num, by rw [HQ.out], H7⟩
    · have HQ : Hid (othersK tn p more (k + 1) = q + 1) := Lib.hid (by rw [HSk2.out]; simp)
      clear hb HSk2
      go_wp2_with fail
      go_roundg (n - (k + 1))
      case measure => omega
      case rel => exact ⟨k + 1, by omega, Nat.le_refl _, by go_num, by rw [HQ.out], H7⟩
set_option maxRecDepth 100000 in
set_option maxHeartbeats 2000000 in
theorem isIn_any (n : Nat) (t pl : Int) (p : Pt) (W : World) (hn : n ≤ 6) (ht : 0 ≤ t ∧ t < n) (hp : PB 1000000 p) :
    Calls Tryd.prog 42 #[amv n t pl, ptv p] W (BoolPost (isInB n t pl p) W) := by
  have HB := Lib.hid (OtI.start W n t pl p)
  have hc : ∀ w, OtI W w n t pl p → Calls Tryd.prog 69 #[.agg (amc n t pl), .agg (ptc p), .int .i64 0] w fun e w' => e = .returned (.int .i64 (othersP n t p 0)) ∧ OtI W w' n t pl p := fun w h => (others_any n t pl 0 p w hn ht hp (by omega)).mono fun e w' ⟨he, hb⟩ => ⟨he, h.step hb⟩
  have HE : Hid (isInB n t pl p = decide (othersP n t p 0 < pl)) := Lib.hid rfl
  generalize othersP n t p 0 = q at hc HE
  obtain ⟨b, hb⟩ : ∃ b, decide (q < pl) = b := ⟨_, rfl⟩
  rw [hb] at HE
  clear hp ht hn
  unfold amv ptv
  go_enter Tryd.func42, Tryd.ntmps42
  go_upto_region 1 with fail
  generalize (W.alloc (.cells (amc n t pl) 73)).alloc (.cells (ptc p) 77) = w9 at HB ⊢
  haveI hne : Nonempty (Cls (fun w' => OtI W w' n t pl p)) := ⟨⟨_, HB.out⟩⟩
  have HD := Lib.hid (HB.out.step (Below.refl _ _).drew)
  have ha0 : ∀ pc : Cls (fun w' => OtI W w' n t pl p), pc.w.cell? ⟨W.heap.size, 0, none⟩ = some (.int .i64 (n : Int)) := fun pc => pc.h.fa.cell 0
  have ha1 : ∀ pc : Cls (fun w' => OtI W w' n t pl p), pc.w.cell? ⟨W.heap.size, 1, none⟩ = some (.int .i64 t) := fun pc => pc.h.fa.cell 1
  have ha2 : ∀ pc : Cls (fun w' => OtI W w' n t pl p), pc.w.cell? ⟨W.heap.size, 2, none⟩ = some (.int .i64 pl) := fun pc => pc.h.fa.cell 2
  have hp0 : ∀ pc : Cls (fun w' => OtI W w' n t pl p), pc.w.cell? ⟨W.heap.size + 1, 0, none⟩ = some (.int .i64 (p[0]?.getD 0)) := fun pc => pc.h.fp.cell 0
  have hp1 : ∀ pc : Cls (fun w' => OtI W w' n t pl p), pc.w.cell? ⟨W.heap.size + 1, 1, none⟩ = some (.int .i64 (p[1]?.getD 0)) := fun pc => pc.h.fp.cell 1
  have hp2 : ∀ pc : Cls (fun w' => OtI W w' n t pl p), pc.w.cell? ⟨W.heap.size + 1, 2, none⟩ = some (.int .i64 (p[2]?.getD 0)) := fun pc => pc.h.fp.cell 2
  have hp3 : ∀ pc : Cls (fun w' => OtI W w' n t pl p), pc.w.cell? ⟨W.heap.size + 1, 3, none⟩ = some (.int .i64 (p[3]?.getD 0)) := fun pc => pc.h.fp.cell 3
  have hp4 : ∀ pc : Cls (fun w' => OtI W w' n t pl p), pc.w.cell? ⟨W.heap.size + 1, 4, none⟩ = some (.int .i64 (p[4]?.getD 0)) := fun pc => pc.h.fp.cell 4
  have hp5 : ∀ pc : Cls (fun w' => OtI W w' n t pl p), pc.w.cell? ⟨W.heap.size + 1, 5, none⟩ = some (.int .i64 (p[5]?.getD 0)) := fun pc => pc.h.fp.cell 5
  refine wp_region_cls (fun w' => OtI W w' n t pl p) hmix (by kernel_rfl) HD.out ?_
  repeat (quiet_step (with_reducible exact cls_call hc _))
  refine wpQuiet_nil ?_
  rintro w7 ⟨⟨_, hw7⟩, rfl⟩
  have H7 := Lib.hid hw7
  clear ha0 ha1 ha2 hp0 hp1 hp2 hp3 hp4 hp5 hne hw7 HD hc
  go_wp2_with fail
  go_ret
  exact ⟨ret_bool HE.out.symm, H7.out.b⟩
set_option maxRecDepth 100000 in
set_option maxHeartbeats 2000000 in
theorem isOut_any (n : Nat) (t pl : Int) (p : Pt) (W : World) (hn : n ≤ 6) (ht : 0 ≤ t ∧ t < n) (hp : PB 1000000 p) :
    Calls Tryd.prog 43 #[amv n t pl, ptv p] W (BoolPost (isOutB n t pl p) W) := by
  have HB := Lib.hid (OtI.start W n t pl p)
  have hc : ∀ w, OtI W w n t pl p → Calls Tryd.prog 69 #[.agg (amc n t pl), .agg (ptc p), .int .i64 1] w fun e w' => e = .returned (.int .i64 (othersP n t p 1)) ∧ OtI W w' n t pl p := fun w h => (others_any n t pl 1 p w hn ht hp (by omega)).mono fun e w' ⟨he, hb⟩ => ⟨he, h.step hb⟩
  have HE : Hid (isOutB n t pl p = decide (pl ≤ othersP n t p 1)) := Lib.hid rfl
  generalize othersP n t p 1 = q at hc HE
  obtain ⟨b, hb⟩ : ∃ b, decide (pl ≤ q) = b := ⟨_, rfl⟩
  rw [hb] at HE
  clear hp ht hn
  unfold amv ptv
  go_enter Tryd.func43, Tryd.ntmps43
  go_upto_region 1 with fail
  generalize (W.alloc (.cells (amc n t pl) 73)).alloc (.cells (ptc p) 77) = w9 at HB ⊢
  haveI hne : Nonempty (Cls (fun w' => OtI W w' n t pl p)) := ⟨⟨_, HB.out⟩⟩
  have HD := Lib.hid (HB.out.step (Below.refl _ _).drew)
  have ha0 : ∀ pc : Cls (fun w' => OtI W w' n t pl p), pc.w.cell? ⟨W.heap.size, 0, none⟩ = some (.int .i64 (n : Int)) := fun pc => pc.h.fa.cell 0
  have ha1 : ∀ pc : Cls (fun w' => OtI W w' n t pl p), pc.w.cell? ⟨W.heap.size, 1, none⟩ = some (.int .i64 t) := fun pc => pc.h.fa.cell 1
  have ha2 : ∀ pc : Cls (fun w' => OtI W w' n t pl p), pc.w.cell? ⟨W.heap.size, 2, none⟩ = some (.int .i64 pl) := fun pc => pc.h.fa.cell 2
  have hp0 : ∀ pc : Cls (fun w' => OtI W w' n t pl p), pc.w.cell? ⟨W.heap.size + 1, 0, none⟩ = some (.int .i64 (p[0]?.getD 0)) := fun pc => pc.h.fp.cell 0
  have hp1 : ∀ pc : Cls (fun w' => OtI W w' n t pl p), pc.w.cell? ⟨W.heap.size + 1, 1, none⟩ = some (.int .i64 (p[1]?.getD 0)) := fun pc => pc.h.fp.cell 1
  have hp2 : ∀ pc : Cls (fun w' => OtI W w' n t pl p), pc.w.cell? ⟨W.heap.size + 1, 2, none⟩ = some (.int .i64 (p[2]?.getD 0)) := fun pc => pc.h.fp.cell 2
  have hp3 : ∀ pc : Cls (fun w' => OtI W w' n t pl p), pc.w.cell? ⟨W.heap.size + 1, 3, none⟩ = some (.int .i64 (p[3]?.getD 0)) := fun pc => pc.h.fp.cell 3
  have hp4 : ∀ pc : Cls (fun w' => OtI W w' n t pl p), pc.w.cell? ⟨W.heap.size + 1, 4, none⟩ = some (.int .i64 (p[4]?.getD 0)) := fun pc => pc.h.fp.cell 4
  have hp5 : ∀ pc : Cls (fun w' => OtI W w' n t pl p), pc.w.cell? ⟨W.heap.size + 1, 5, none⟩ = some (.int .i64 (p[5]?.getD 0)) := fun pc => pc.h.fp.cell 5
  refine wp_region_cls (fun w' => OtI W w' n t pl p) hmix (by kernel_rfl) HD.out ?_
  repeat (quiet_step (with_reducible exact cls_call hc _))
  refine wpQuiet_nil ?_
  rintro w7 ⟨⟨_, hw7⟩, rfl⟩
  have H7 := Lib.hid hw7
  clear ha0 ha1 ha2 hp0 hp1 hp2 hp3 hp4 hp5 hne hw7 HD hc
  go_wp2_with fail
  go_ret
  exact ⟨ret_bool HE.out.symm, H7.out.b⟩
/-- an aim, and an errno -/
def AimPost (x : Lg) (t pl : Int) (W : World) (e : Ending) (W' : World) : Prop :=
  ∃ n a b : Int, e = .returned (.tuple #[amv n a b, .int .i64 (aimR x t pl)]) ∧ (aimR x t pl = 0 → n = x.F.length ∧ a = t ∧ b = pl) ∧ Below W.heap.size W W'
theorem am_ret {n a b e : Int} {r : Int} (h : r = e) : Ending.returned (.tuple #[amv n a b, .int .i64 e]) = .returned (.tuple #[amv n a b, .int .i64 r]) := by rw [h]
structure AoI (W w : World) (x : Lg) (AF AG : Option Addr) (cf cg : Nat) : Prop where
  lx : LX W w W.heap.size x AF AG cf cg
  fr : Has w (W.heap.size + 1) 73 (amc 0 0 0)
theorem AoI.step {W w w' : World} {x : Lg} {AF AG : Option Addr} {cf cg : Nat} (h : AoI W w x AF AG cf cg) (hb : Below w.heap.size w w') : AoI W w' x AF AG cf cg := ⟨h.lx.step hb, h.fr.below hb h.fr.lt⟩
theorem res38 {w : World} {D : Nat} {n a b e : Int} {tmps : Array Value} (h : Has w D 73 (amc n a b)) (h4 : tmps[6]?.getD undef = .pointer (some ⟨D, 0, none⟩)) (h7 : tmps[7]?.getD undef = .int .i64 e) :
    (results Tryd.f38 tmps).run Tryd.prog w = .ok (.tuple #[amv n a b, .int .i64 e]) w := by
  have c0 := h.cell 0; have c1 := h.cell 1; have c2 := h.cell 2
  simp at c0 c1 c2
  simp [results, Tryd.results38, go_sem, h4, h7, c0, c1, c2, amv]
theorem has_put3 {w : World} {D : Nat} {n a b n' a' b' : Int} (h : Has w D 73 (amc n a b)) : Has (((w.setCell ⟨D, 0, none⟩ (.int .i64 n')).setCell ⟨D, 1, none⟩ (.int .i64 a')).setCell ⟨D, 2, none⟩ (.int .i64 b')) D 73 (amc n' a' b') := by
  have := ((h.set 0 (.int .i64 n')).set 1 (.int .i64 a')).set 2 (.int .i64 b')
  simpa using this
theorem below_put3 {w : World} {D B : Nat} (h : B ≤ D) (u v z : Value) : Below B w (((w.setCell ⟨D, 0, none⟩ u).setCell ⟨D, 1, none⟩ v).setCell ⟨D, 2, none⟩ z) :=
  (((Below.refl B w).setCell (p := ⟨D, 0, none⟩) h _).setCell (p := ⟨D, 1, none⟩) h _).setCell (p := ⟨D, 2, none⟩) h _
set_option maxRecDepth 100000 in
set_option maxHeartbeats 2000000 in
theorem aimOf_any (x : Lg) (AF AG : Option Addr) (cf cg : Nat) (t pl : Int) (W : World) (hr : LgR W W.heap.size x AF AG) :
    Calls Tryd.prog 38 #[lgv x AF AG cf cg, .int .i64 t, .int .i64 pl] W (AimPost x t pl W) := by
  have HB : Hid (AoI W ((W.alloc (.cells (lgc x AF AG cf cg) 25)).alloc (.cells (amc 0 0 0) 73)) x AF AG cf cg) := Lib.hid ⟨(LX.start hr).step (below_one _ _), has_newAt (by simp)⟩
  have HV := Lib.hid (fun w (h : LX W w W.heap.size x AF AG cf cg) => validLeague_any x AF AG cf cg w h.up)
  have HT := Lib.hid (fun w (h : LX W w W.heap.size x AF AG cf cg) => isTeam_any x AF AG cf cg t w h.up)
  have HW0 := Lib.hid (fun w => within_any pl 1 (x.F.length : Int) w)
  have HX : Hid (aimR x t pl = if lgB x then if teamB x.F.length t && inB pl 1 x.F.length then 0 else 2 else 1) := Lib.hid rfl
  have hl : x.F.length ≤ 9223372036854775807 := hr.lf
  obtain ⟨X, hX⟩ : ∃ X, X = aimR x t pl := ⟨_, rfl⟩
  unfold AimPost
  rw [← hX] at HX ⊢
  clear hr hX
  unfold lgv at *
  go_enter Tryd.func38, Tryd.ntmps38
  go_upto_region 1 with fail
  generalize (W.alloc (.cells (lgc x AF AG cf cg) 25)).alloc (.cells (amc 0 0 0) 73) = w9 at HB ⊢
  have x0 : w9.cell? ⟨W.heap.size, 0, none⟩ = some (.slice AF x.F.length cf) := HB.out.lx.fx.cell 0
  have x1 : w9.cell? ⟨W.heap.size, 1, none⟩ = some (.slice AG x.G.length cg) := HB.out.lx.fx.cell 1
  have HV9 := Lib.hid (HV.out w9 HB.out.lx)
  clear HV
  cases hlg : lgB x <;> rw [hlg] at HV9
  · have HE : Hid (X = 1) := Lib.hid (by rw [HX.out, hlg]; rfl)
    clear HX hlg
    go_wp2_with fail
    refine HV9.out.mono ?_
    rintro e w1 ⟨rfl, hb1⟩
    have H1 := Lib.hid (HB.out.step hb1)
    clear hb1 x0 x1 HB
    have f0 := H1.out.fr.frozen 0
    have f1 := H1.out.fr.frozen 1
    have f2 := H1.out.fr.frozen 2
    have fl := H1.out.fr.lt
    have r0 : w1.cell? ⟨W.heap.size + 1, 0, none⟩ = some (.int .i64 0) := H1.out.fr.cell 0
    have r1 : w1.cell? ⟨W.heap.size + 1, 1, none⟩ = some (.int .i64 0) := H1.out.fr.cell 1
    have r2 : w1.cell? ⟨W.heap.size + 1, 2, none⟩ = some (.int .i64 0) := H1.out.fr.cell 2
    go_wp2_with fail
    refine bodyPost_ret (v := .tuple #[amv 0 0 0, .int .i64 1]) (res38 (D := W.heap.size + 1) (has_put3 H1.out.fr) rfl rfl) rfl ?_
    exact ⟨0, 0, 0, am_ret HE.out, (fun h => by rw [HE.out] at h; cases h), H1.out.lx.b.trans (below_put3 (by omega) _ _ _)⟩
  go_wp2_with fail
  refine HV9.out.mono ?_
  rintro e w1 ⟨rfl, hb1⟩
  have H1 := Lib.hid (HB.out.step hb1)
  clear hb1 x0 x1 HB HV9
  have x0 : w1.cell? ⟨W.heap.size, 0, none⟩ = some (.slice AF x.F.length cf) := H1.out.lx.fx.cell 0
  have x1 : w1.cell? ⟨W.heap.size, 1, none⟩ = some (.slice AG x.G.length cg) := H1.out.lx.fx.cell 1
  have HT1 := Lib.hid (HT.out w1 H1.out.lx)
  clear HT
  cases htm : teamB x.F.length t <;> rw [htm] at HT1
  · have HE : Hid (X = 2) := Lib.hid (by rw [HX.out, hlg, htm]; rfl)
    clear HX hlg htm
    go_wp2_with fail
    refine HT1.out.mono ?_
    rintro e w2 ⟨rfl, hb2⟩
    have H2 := Lib.hid (H1.out.step hb2)
    clear hb2 x0 x1 H1
    have f0 := H2.out.fr.frozen 0
    have f1 := H2.out.fr.frozen 1
    have f2 := H2.out.fr.frozen 2
    have fl := H2.out.fr.lt
    have r0 : w2.cell? ⟨W.heap.size + 1, 0, none⟩ = some (.int .i64 0) := H2.out.fr.cell 0
    have r1 : w2.cell? ⟨W.heap.size + 1, 1, none⟩ = some (.int .i64 0) := H2.out.fr.cell 1
    have r2 : w2.cell? ⟨W.heap.size + 1, 2, none⟩ = some (.int .i64 0) := H2.out.fr.cell 2
    go_wp2_with fail
    refine bodyPost_ret (v := .tuple #[amv 0 0 0, .int .i64 2]) (res38 (D := W.heap.size + 1) (has_put3 H2.out.fr) rfl rfl) rfl ?_
    exact ⟨0, 0, 0, am_ret HE.out, (fun h => by rw [HE.out] at h; cases h), H2.out.lx.b.trans (below_put3 (by omega) _ _ _)⟩
  cases hin : inB pl 1 x.F.length <;> rw [hin] at HW0
  · have HE : Hid (X = 2) := Lib.hid (by rw [HX.out, hlg, htm, hin]; rfl)
    clear HX hlg htm hin
    go_wp2_with fail
    refine HT1.out.mono ?_
    rintro e w2 ⟨rfl, hb2⟩
    have H2 := Lib.hid (H1.out.step hb2)
    clear hb2 x0 x1 H1
    have x0 : w2.cell? ⟨W.heap.size, 0, none⟩ = some (.slice AF x.F.length cf) := H2.out.lx.fx.cell 0
    have f0 := H2.out.fr.frozen 0
    have f1 := H2.out.fr.frozen 1
    have f2 := H2.out.fr.frozen 2
    have fl := H2.out.fr.lt
    have r0 : w2.cell? ⟨W.heap.size + 1, 0, none⟩ = some (.int .i64 0) := H2.out.fr.cell 0
    have r1 : w2.cell? ⟨W.heap.size + 1, 1, none⟩ = some (.int .i64 0) := H2.out.fr.cell 1
    have r2 : w2.cell? ⟨W.heap.size + 1, 2, none⟩ = some (.int .i64 0) := H2.out.fr.cell 2
    go_wp2_with fail
    refine (HW0.out _).mono ?_
    rintro e w3 ⟨rfl, rfl⟩
    go_wp2_with fail
    refine bodyPost_ret (v := .tuple #[amv 0 0 0, .int .i64 2]) (res38 (D := W.heap.size + 1) (has_put3 H2.out.fr) rfl rfl) rfl ?_
    exact ⟨0, 0, 0, am_ret HE.out, (fun h => by rw [HE.out] at h; cases h), H2.out.lx.b.trans (below_put3 (by omega) _ _ _)⟩
  have HE : Hid (X = 0) := Lib.hid (by rw [HX.out, hlg, htm, hin]; rfl)
  clear HX hlg htm hin
  go_wp2_with fail
  refine HT1.out.mono ?_
  rintro e w2 ⟨rfl, hb2⟩
  have H2 := Lib.hid (H1.out.step hb2)
  clear hb2 x0 x1 H1
  have x0 : w2.cell? ⟨W.heap.size, 0, none⟩ = some (.slice AF x.F.length cf) := H2.out.lx.fx.cell 0
  have f0 := H2.out.fr.frozen 0
  have f1 := H2.out.fr.frozen 1
  have f2 := H2.out.fr.frozen 2
  have fl := H2.out.fr.lt
  have r0 : w2.cell? ⟨W.heap.size + 1, 0, none⟩ = some (.int .i64 0) := H2.out.fr.cell 0
  have r1 : w2.cell? ⟨W.heap.size + 1, 1, none⟩ = some (.int .i64 0) := H2.out.fr.cell 1
  have r2 : w2.cell? ⟨W.heap.size + 1, 2, none⟩ = some (.int .i64 0) := H2.out.fr.cell 2
  go_wp2_with fail
  refine (HW0.out _).mono ?_
  rintro e w3 ⟨rfl, rfl⟩
  go_wp2_with fail
  refine bodyPost_ret (v := .tuple #[amv (x.F.length : Int) t pl, .int .i64 0]) (res38 (D := W.heap.size + 1) (has_put3 H2.out.fr) rfl rfl) rfl ?_
  exact ⟨_, _, _, am_ret HE.out, fun _ => ⟨rfl, rfl, rfl⟩, H2.out.lx.b.trans (below_put3 (by omega) _ _ _)⟩
end Go.Proofs.YtljkgjfmambfoaaDoor
