/- The store of heat: use and spill. -/
import Derived.Test.YtjfopmjphiddiaaMgA
import Derived.Test.YtjfopmjphiddiaaMgF
namespace Go.Proofs.Ytjfopmjphiddiaa
open Go.RowKit

def UsePost (g o : Nat) (T : TypeId) (cs : Array Value) (r left : Int) (W : World) (e : Ending) (W' : World) : Prop :=
  e = .returned (iv r) ∧ Only (fun k => k = g) W W' ∧ Has W' g T (cs.setIfInBounds o (iv left))

set_option maxRecDepth 100000 in
set_option maxHeartbeats 1000000 in
theorem use_less (g o : Nat) (T : TypeId) (cs : Array Value) (a x : Int) (W : World) (hg : Has W g T cs) (c0 : cs[o]? = some (iv a)) (h0 : 0 ≤ a) (h1 : a ≤ 1099511627776000) (h2 : 0 ≤ x) (h3 : x ≤ 1099511627776000) (hlt : a < x) :
    Calls Try.prog 39 #[.pointer (some ⟨g, o, none⟩), iv x] W (UsePost g o T cs (x - a) 0 W) := by
  have d0 : W.cell? ⟨g, o, none⟩ = some (.int .i64 a) := (hg.cell o).trans c0
  have f0 := hg.frozen o
  have hgl := hg.lt
  have k3 : IntKind.i64.wrap 0 = 0 := IntWalk.i64_in _ (by omega)
  have k1 : IntKind.i64.wrap (a - a) = a - a := IntWalk.i64_in _ (by omega)
  have k2 : IntKind.i64.wrap (x - a) = x - a := IntWalk.i64_in _ (by omega)
  have HG := Lib.hid hg
  clear hg c0 h0 h1 h2 h3
  go_enter Try.func39, Try.ntmps39
  go_wp2
  first
  | (refine still_tail 8 (by kernel_rfl) (by kernel_rfl) ?_
     simp only [List.take_succ_cons, List.take_zero, List.drop_succ_cons, List.drop_zero]
     repeat still_step
     refine wpStill_nil ?_
     go_wp2)
  | skip
  refine bodyPost_ret (v := iv (x - a)) (by simp [results, Try.results39, go_sem]) rfl ⟨rfl, ?_, ?_⟩
  · first
    | (refine Only.drew (Only.setCell (Only.refl _ _) ?_ _); exact .inl rfl)
    | (refine Only.setCell (Only.refl _ _) ?_ _; exact .inl rfl)
  · first
    | (have h := Has.drew (HG.out.set o (iv 0)); exact h)
    | (have h := HG.out.set o (iv 0); simpa using h)
set_option maxRecDepth 100000 in
set_option maxHeartbeats 1000000 in
theorem use_more (g o : Nat) (T : TypeId) (cs : Array Value) (a x : Int) (W : World) (hg : Has W g T cs) (c0 : cs[o]? = some (iv a)) (h0 : 0 ≤ a) (h1 : a ≤ 1099511627776000) (h2 : 0 ≤ x) (h3 : x ≤ 1099511627776000) (hlt : x < a) :
    Calls Try.prog 39 #[.pointer (some ⟨g, o, none⟩), iv x] W (UsePost g o T cs 0 (a - x) W) := by
  have d0 : W.cell? ⟨g, o, none⟩ = some (.int .i64 a) := (hg.cell o).trans c0
  have f0 := hg.frozen o
  have hgl := hg.lt
  have k3 : IntKind.i64.wrap 0 = 0 := IntWalk.i64_in _ (by omega)
  have k1 : IntKind.i64.wrap (a - x) = a - x := IntWalk.i64_in _ (by omega)
  have k2 : IntKind.i64.wrap (x - x) = x - x := IntWalk.i64_in _ (by omega)
  have HG := Lib.hid hg
  clear hg c0 h0 h1 h2 h3
  go_enter Try.func39, Try.ntmps39
  go_wp2
  first
  | (refine still_tail 8 (by kernel_rfl) (by kernel_rfl) ?_
     simp only [List.take_succ_cons, List.take_zero, List.drop_succ_cons, List.drop_zero]
     repeat still_step
     refine wpStill_nil ?_
     go_wp2)
  | skip
  refine bodyPost_ret (v := iv 0) (by simp [results, Try.results39, go_sem]) rfl ⟨rfl, ?_, ?_⟩
  · first
    | (refine Only.drew (Only.setCell (Only.refl _ _) ?_ _); exact .inl rfl)
    | (refine Only.setCell (Only.refl _ _) ?_ _; exact .inl rfl)
  · first
    | (have h := Has.drew (HG.out.set o (iv (a - x))); exact h)
    | (have h := HG.out.set o (iv (a - x)); simpa using h)
set_option maxRecDepth 100000 in
set_option maxHeartbeats 1000000 in
theorem use_just (g o : Nat) (T : TypeId) (cs : Array Value) (a : Int) (W : World) (hg : Has W g T cs) (c0 : cs[o]? = some (iv a))   :
    Calls Try.prog 39 #[.pointer (some ⟨g, o, none⟩), iv a] W (UsePost g o T cs 0 0 W) := by
  have d0 : W.cell? ⟨g, o, none⟩ = some (.int .i64 a) := (hg.cell o).trans c0
  have f0 := hg.frozen o
  have hgl := hg.lt
  have k3 : IntKind.i64.wrap 0 = 0 := IntWalk.i64_in _ (by omega)
  have k1 : IntKind.i64.wrap (a - a) = a - a := by rw [Int.sub_self]; exact k3
  have HG := Lib.hid hg
  clear hg c0 
  go_enter Try.func39, Try.ntmps39
  go_wp2
  first
  | (refine still_tail 8 (by kernel_rfl) (by kernel_rfl) ?_
     simp only [List.take_succ_cons, List.take_zero, List.drop_succ_cons, List.drop_zero]
     repeat still_step
     refine wpStill_nil ?_
     go_wp2)
  | skip
  refine bodyPost_ret (v := iv 0) (by simp [results, Try.results39, go_sem]) rfl ⟨rfl, ?_, ?_⟩
  · first
    | (refine Only.drew (Only.setCell (Only.refl _ _) ?_ _); exact .inl rfl)
    | (refine Only.setCell (Only.refl _ _) ?_ _; exact .inl rfl)
  · first
    | (have h := Has.drew (HG.out.set o (iv 0)); exact h)
    | (have h := HG.out.set o (iv 0); simpa using h)
theorem use_any (g o : Nat) (T : TypeId) (cs : Array Value) (a x : Int) (W : World) (hg : Has W g T cs) (c0 : cs[o]? = some (iv a)) (h0 : 0 ≤ a) (h1 : a ≤ 1099511627776000) (h2 : 0 ≤ x) (h3 : x ≤ 1099511627776000) :
    Calls Try.prog 39 #[.pointer (some ⟨g, o, none⟩), iv x] W (UsePost g o T cs (x - min a x) (a - min a x) W) := by
  rcases Int.lt_trichotomy a x with h | h | h
  · rw [Int.min_eq_left (by omega), Int.sub_self]; exact use_less g o T cs a x W hg c0 h0 h1 h2 h3 h
  · subst h; rw [Int.min_self, Int.sub_self]; exact use_just g o T cs a W hg c0
  · rw [Int.min_eq_right (by omega), Int.sub_self]; exact use_more g o T cs a x W hg c0 h0 h1 h2 h3 h
set_option maxRecDepth 100000 in
set_option maxHeartbeats 1000000 in
theorem spill_some (g o : Nat) (T : TypeId) (cs : Array Value) (a b : Int) (W : World) (hg : Has W g T cs) (c0 : cs[o]? = some (iv a)) (c1 : cs[o + 1]? = some (iv b)) (h0 : 0 ≤ a) (h1 : a ≤ 1099511627776000) (h2 : 0 ≤ b) (h3 : b ≤ 1099511627776000) (hlt : b < a) :
    Calls Try.prog 40 #[.pointer (some ⟨g, o, none⟩)] W (UsePost g o T cs (a - b) b W) := by
  have d0 : W.cell? ⟨g, o, none⟩ = some (.int .i64 a) := (hg.cell o).trans c0
  have d1 : W.cell? ⟨g, o + 1, none⟩ = some (.int .i64 b) := (hg.cell (o + 1)).trans c1
  have f0 := hg.frozen o
  have hgl := hg.lt
  have k1 : IntKind.i64.wrap (a - b) = a - b := IntWalk.i64_in _ (by omega)
  have k2 : IntKind.i64.wrap (a - (a - b)) = b := by rw [show a - (a - b) = b by omega]; exact IntWalk.i64_in _ (by omega)
  have k4 : IntKind.i64.wrap b = b := IntWalk.i64_in _ (by omega)
  have q1 : 0 < a - b := by omega
  have HG := Lib.hid (And.intro hg c0)
  clear hg c0 c1 h0 h1 h2 h3
  go_enter Try.func40, Try.ntmps40
  go_wp2
  refine still_tail 9 (by kernel_rfl) (by kernel_rfl) ?_
  simp only [List.take_succ_cons, List.take_zero, List.drop_succ_cons, List.drop_zero]
  repeat still_step
  refine wpStill_nil ?_
  go_wp2
  first
  | (refine still_tail 8 (by kernel_rfl) (by kernel_rfl) ?_
     simp only [List.take_succ_cons, List.take_zero, List.drop_succ_cons, List.drop_zero]
     repeat still_step
     refine wpStill_nil ?_
     go_wp2)
  | skip
  refine bodyPost_ret (v := iv (a - b)) (by simp [results, Try.results40, go_sem]) rfl ⟨rfl, ?_, ?_⟩
  · first
    | (refine Only.drew (Only.drew (Only.setCell (Only.refl _ _) ?_ _)); exact .inl rfl)
    | (refine Only.drew (Only.setCell (Only.refl _ _) ?_ _); exact .inl rfl)
    | (refine Only.setCell (Only.refl _ _) ?_ _; exact .inl rfl)
  · first
    | (have h := Has.drew (Has.drew (HG.out.1.set o (iv b))); exact h)
    | (have h := Has.drew (HG.out.1.set o (iv b)); exact h)
    | (have h := HG.out.1.set o (iv b); simpa using h)
set_option maxRecDepth 100000 in
set_option maxHeartbeats 1000000 in
theorem spill_just (g o : Nat) (T : TypeId) (cs : Array Value) (a b : Int) (W : World) (hg : Has W g T cs) (c0 : cs[o]? = some (iv a)) (c1 : cs[o + 1]? = some (iv b)) (h0 : 0 ≤ a) (h1 : a ≤ 1099511627776000) (h2 : 0 ≤ b) (h3 : b ≤ 1099511627776000) (hlt : a = b) :
    Calls Try.prog 40 #[.pointer (some ⟨g, o, none⟩)] W (UsePost g o T cs 0 a W) := by
  have d0 : W.cell? ⟨g, o, none⟩ = some (.int .i64 a) := (hg.cell o).trans c0
  have d1 : W.cell? ⟨g, o + 1, none⟩ = some (.int .i64 b) := (hg.cell (o + 1)).trans c1
  have f0 := hg.frozen o
  have hgl := hg.lt
  subst hlt
  have k1 : IntKind.i64.wrap (a - a) = a - a := IntWalk.i64_in _ (by omega)
  have k2 : IntKind.i64.wrap a = a := IntWalk.i64_in _ (by omega)
  have k4 : IntKind.i64.wrap (a - 0) = a := by rw [Int.sub_zero]; exact k2
  have k5 : IntKind.i64.wrap 0 = 0 := IntWalk.i64_in _ (by omega)
  have HG := Lib.hid (And.intro hg c0)
  clear hg c0 c1 h0 h1 h2 h3
  go_enter Try.func40, Try.ntmps40
  go_wp2
  refine still_tail 9 (by kernel_rfl) (by kernel_rfl) ?_
  simp only [List.take_succ_cons, List.take_zero, List.drop_succ_cons, List.drop_zero]
  repeat still_step
  refine wpStill_nil ?_
  go_wp2
  first
  | (refine still_tail 8 (by kernel_rfl) (by kernel_rfl) ?_
     simp only [List.take_succ_cons, List.take_zero, List.drop_succ_cons, List.drop_zero]
     repeat still_step
     refine wpStill_nil ?_
     go_wp2)
  | skip
  refine bodyPost_ret (v := iv 0) (by simp [results, Try.results40, go_sem]) rfl ⟨rfl, ?_, ?_⟩
  · first
    | (refine Only.drew (Only.drew (Only.setCell (Only.refl _ _) ?_ _)); exact .inl rfl)
    | (refine Only.drew (Only.setCell (Only.refl _ _) ?_ _); exact .inl rfl)
    | (refine Only.setCell (Only.refl _ _) ?_ _; exact .inl rfl)
  · first
    | (have h := Has.drew (Has.drew (HG.out.1.set o (iv a))); exact h)
    | (have h := Has.drew (HG.out.1.set o (iv a)); exact h)
    | (have h := HG.out.1.set o (iv a); simpa using h)
set_option maxRecDepth 100000 in
set_option maxHeartbeats 1000000 in
theorem spill_none (g o : Nat) (T : TypeId) (cs : Array Value) (a b : Int) (W : World) (hg : Has W g T cs) (c0 : cs[o]? = some (iv a)) (c1 : cs[o + 1]? = some (iv b)) (h0 : 0 ≤ a) (h1 : a ≤ 1099511627776000) (h2 : 0 ≤ b) (h3 : b ≤ 1099511627776000) (hlt : a < b) :
    Calls Try.prog 40 #[.pointer (some ⟨g, o, none⟩)] W (UsePost g o T cs 0 a W) := by
  have d0 : W.cell? ⟨g, o, none⟩ = some (.int .i64 a) := (hg.cell o).trans c0
  have d1 : W.cell? ⟨g, o + 1, none⟩ = some (.int .i64 b) := (hg.cell (o + 1)).trans c1
  have f0 := hg.frozen o
  have hgl := hg.lt
  have k1 : IntKind.i64.wrap (a - b) = a - b := IntWalk.i64_in _ (by omega)
  have k2 : IntKind.i64.wrap a = a := IntWalk.i64_in _ (by omega)
  have k4 : IntKind.i64.wrap (a - 0) = a := by rw [Int.sub_zero]; exact k2
  have q1 : a - b < 0 := by omega
  have HG := Lib.hid (And.intro hg c0)
  clear hg c0 c1 h0 h1 h2 h3
  go_enter Try.func40, Try.ntmps40
  go_wp2
  refine still_tail 9 (by kernel_rfl) (by kernel_rfl) ?_
  simp only [List.take_succ_cons, List.take_zero, List.drop_succ_cons, List.drop_zero]
  repeat still_step
  refine wpStill_nil ?_
  go_wp2
  first
  | (refine still_tail 8 (by kernel_rfl) (by kernel_rfl) ?_
     simp only [List.take_succ_cons, List.take_zero, List.drop_succ_cons, List.drop_zero]
     repeat still_step
     refine wpStill_nil ?_
     go_wp2)
  | skip
  refine bodyPost_ret (v := iv 0) (by simp [results, Try.results40, go_sem]) rfl ⟨rfl, ?_, ?_⟩
  · first
    | (refine Only.drew (Only.drew (Only.setCell (Only.refl _ _) ?_ _)); exact .inl rfl)
    | (refine Only.drew (Only.setCell (Only.refl _ _) ?_ _); exact .inl rfl)
    | (refine Only.setCell (Only.refl _ _) ?_ _; exact .inl rfl)
  · first
    | (have h := Has.drew (Has.drew (HG.out.1.set o (iv a))); exact h)
    | (have h := Has.drew (HG.out.1.set o (iv a)); exact h)
    | (have h := HG.out.1.set o (iv a); simpa using h)
theorem spill_any (g o : Nat) (T : TypeId) (cs : Array Value) (a b : Int) (W : World) (hg : Has W g T cs) (c0 : cs[o]? = some (iv a)) (c1 : cs[o + 1]? = some (iv b)) (h0 : 0 ≤ a) (h1 : a ≤ 1099511627776000) (h2 : 0 ≤ b) (h3 : b ≤ 1099511627776000) :
    Calls Try.prog 40 #[.pointer (some ⟨g, o, none⟩)] W (UsePost g o T cs (max 0 (a - b)) (a - max 0 (a - b)) W) := by
  rcases Int.lt_trichotomy a b with h | h | h
  · rw [Int.max_eq_left (by omega), Int.sub_zero]; exact spill_none g o T cs a b W hg c0 c1 h0 h1 h2 h3 h
  · rw [Int.max_eq_left (by omega), Int.sub_zero]; exact spill_just g o T cs a b W hg c0 c1 h0 h1 h2 h3 h
  · rw [Int.max_eq_right (by omega), show a - (a - b) = b by omega]; exact spill_some g o T cs a b W hg c0 c1 h0 h1 h2 h3 h
end Go.Proofs.Ytjfopmjphiddiaa
/- fill, chill and use. -/
namespace Go.Proofs.Ytjfopmjphiddiaa
open Go.RowKit Go.Shelf

/-- numbers of a circuit within bounds -/
structure HoOk (r : Ho) : Prop where
  h0 : 0 ≤ r.heat
  h1 : r.heat ≤ 4294967296
  r0 : 0 ≤ r.room
  r1 : r.room ≤ 4294967296
  fv : 0 ≤ r.s.fv ∧ r.s.fv ≤ 1099511627776 - 1048576
  fh : 0 ≤ r.s.fh ∧ r.s.fh ≤ 1099511627776000 - 4294967296
  wa : 0 ≤ r.s.wa ∧ r.s.wa ≤ 1099511627776000 - 4294967296
  ch : 0 ≤ r.s.ch ∧ r.s.ch ≤ 1099511627776000 - 4294967296
  ai : 0 ≤ r.s.ai ∧ r.s.ai ≤ 1099511627776000 - 8589934592
  us : 0 ≤ r.s.us ∧ r.s.us ≤ 1099511627776000 - 4294967296
  bo : 0 ≤ r.s.bo ∧ r.s.bo ≤ 1099511627776000 - 4294967296
theorem DonePost.of_own {Bc Bp : Nat} {W W' : World} {qs : List Qu} {t t' : Sl} {r r' : Ho} {ps : List Pp} {v : Value} (hC : Circ W Bc Bp t qs r) (hps : qs.map Qu.pp = ps) (hw : Has W' Bc 70 (ccells t' Bp qs.length r')) (ho : Only (fun k => k = Bc) W W') :
    DonePost Bc Bp W qs ⟨ps, t', r'⟩ (.returned v) W' := by
  obtain ⟨k1, k2⟩ := hC.own hw ho
  exact ⟨⟨_, rfl⟩, qs, k2, qs, rfl, hps, k1⟩
def fillS (s : Sm) (a h : Int) : Sm := { s with fv := s.fv + a, fh := s.fh + h }

set_option maxRecDepth 100000 in
set_option maxHeartbeats 1000000 in
theorem fill_limit (Bc Bp : Nat) (qs : List Qu) (t : Sl) (r : Ho) (k p a h : Int) (W : World) (hC : Circ W Bc Bp t qs r) (h0 : 0 ≤ t.v) (h1 : t.v ≤ 1048576) (a1 : 1 ≤ a) (a2 : a ≤ 1048576) (hs : 1048576 < t.v + a) :
    Calls Try.prog 58 #[.pointer (some ⟨Bc, 0, none⟩), evv k p a h] W (PanicPost (errv 12) W) := by
  have c0 : W.cell? ⟨Bc, 0, none⟩ = some (.int .i64 t.v) := hC.c.cell 0
  have hcl := hC.c.lt
  have k1 : IntKind.i64.wrap (t.v + a) = t.v + a := IntWalk.i64_in _ (by omega)
  clear hC h0 h1 a1 a2
  go_enter Try.func58, Try.ntmps58
  go_wp2
  refine still_tail 8 (by kernel_rfl) (by kernel_rfl) ?_
  simp only [List.take_succ_cons, List.take_zero, List.drop_succ_cons, List.drop_zero]
  repeat still_step
  refine wpStill_nil ?_
  go_wp2
  exact ⟨rfl, rfl, Below.drew (Below.alloc (Below.refl _ _) (Nat.le_refl _) _)⟩

set_option maxRecDepth 100000 in
set_option maxHeartbeats 2000000 in
theorem fill_ok (Bc Bp : Nat) (qs : List Qu) (t : Sl) (r : Ho) (ps : List Pp) (k p a h : Int) (W : World) (hC : Circ W Bc Bp t qs r) (hps : qs.map Qu.pp = ps) (h0 : 0 ≤ t.v) (a1 : 1 ≤ a) (hs : t.v + a ≤ 1048576) (hb0 : 0 ≤ h) (hb1 : h ≤ 4294967296) (ht0 : 0 ≤ t.h) (ht1 : t.h ≤ 2199023255552) (hr : HoOk r) :
    Calls Try.prog 58 #[.pointer (some ⟨Bc, 0, none⟩), evv k p a h] W (DonePost Bc Bp W qs ⟨ps, t.add ⟨a, h⟩, ⟨r.heat, r.room, fillS r.s a h⟩⟩) := by
  have c0 : W.cell? ⟨Bc, 0, none⟩ = some (.int .i64 t.v) := hC.c.cell 0
  have hcl := hC.c.lt
  have k1 : IntKind.i64.wrap (t.v + a) = t.v + a := IntWalk.i64_in _ (by omega)
  have hA1 := fun W1 (hw : Has W1 Bc 70 (ccells t Bp qs.length r)) => add_any Bc 0 70 (ccells t Bp qs.length r) t ⟨a, h⟩ W1 hw rfl rfl ⟨(by simp only; omega), (by simp only; omega)⟩ ⟨(by simp only; omega), (by simp only; omega)⟩
  have hfv := hr.fv
  have hfh := hr.fh
  have hA2 := fun W1 (hw : Has W1 Bc 70 (ccells (t.add ⟨a, h⟩) Bp qs.length r)) => add_any Bc 8 70 (ccells (t.add ⟨a, h⟩) Bp qs.length r) ⟨r.s.fv, r.s.fh⟩ ⟨a, h⟩ W1 hw rfl rfl ⟨(by simp only; omega), (by simp only; omega)⟩ ⟨(by simp only; omega), (by simp only; omega)⟩
  have H := Lib.hid (And.intro hC (And.intro hps (And.intro hA1 hA2)))
  have hlt : t.v + a ≤ 1048576 := hs
  clear hC hps h0 a1 hs hb0 hb1 ht0 ht1 hr hA1 hA2 hfv hfh
  go_enter Try.func58, Try.ntmps58
  go_wp2
  refine still_tail 8 (by kernel_rfl) (by kernel_rfl) ?_
  simp only [List.take_succ_cons, List.take_zero, List.drop_succ_cons, List.drop_zero]
  repeat still_step
  refine wpStill_nil ?_
  go_wp2
  refine still_tail 4 (by kernel_rfl) (by kernel_rfl) ?_
  simp only [List.take_succ_cons, List.take_zero, List.drop_succ_cons, List.drop_zero]
  repeat still_step
  refine wpStill_nil ?_
  go_wp2_with fail
  refine (H.out.2.2.1 _ (Has.drew (Has.drew (Has.alloc (Has.alloc H.out.1.c _) _)))).mono ?_
  rintro e w1 ⟨⟨v, rfl⟩, ho1, hw1⟩
  have hw1' : Has w1 Bc 70 (ccells (t.add ⟨a, h⟩) Bp qs.length r) := hw1
  have hs1 : Has w1 (W.heap.size + 1) 23 #[iv a, iv h] := Has.only (Has.drew (Has.drew (Has.newAt (w := W.alloc (Obj.cells #[.int .i64 k, .int .i64 p, .int .i64 a, .int .i64 h] 56)) (by simp)))) ho1 (fun e => by omega)
  have hO1 : Only (fun k => k = Bc) W w1 := Only.from_ (Only.drew (Only.drew (Only.alloc (Only.alloc (Only.refl _ W) _) _))) ho1 (fun _ _ h => h)
  have s0 : w1.cell? ⟨W.heap.size + 1, 0, none⟩ = some (.int .i64 a) := hs1.cell 0
  have s1 : w1.cell? ⟨W.heap.size + 1, 1, none⟩ = some (.int .i64 h) := hs1.cell 1
  have H1 := Lib.hid (And.intro hw1' hO1)
  have hcl1 := hw1'.lt
  clear hw1 hw1' ho1 hs1 hO1
  go_wp2
  refine still_tail 5 (by kernel_rfl) (by kernel_rfl) ?_
  simp only [List.take_succ_cons, List.take_zero, List.drop_succ_cons, List.drop_zero]
  repeat still_step
  refine wpStill_nil ?_
  go_wp2_with fail
  refine (H.out.2.2.2 _ H1.out.1.drew).mono ?_
  rintro e w2 ⟨⟨v, rfl⟩, ho2, hw2⟩
  have hO2 : Only (fun k => k = Bc) W w2 := Only.from_ (Only.drew H1.out.2) ho2 (fun _ _ h => h)
  have hF : DonePost Bc Bp W qs ⟨ps, t.add ⟨a, h⟩, ⟨r.heat, r.room, fillS r.s a h⟩⟩ (.returned (.tuple #[])) w2 := DonePost.of_own H.out.1 H.out.2.1 hw2 hO2
  have HF := Lib.hid hF
  clear hF hO2 ho2 hw2
  go_wp2
  refine bodyPost_ret (results_none rfl _ _ _) rfl ?_
  exact HF.out

def chillS (s : Sm) (h over : Int) : Sm := { s with ch := s.ch + h, ai := s.ai + over }
set_option maxRecDepth 100000 in
set_option maxHeartbeats 1000000 in
theorem chill_short (Bc Bp : Nat) (qs : List Qu) (t : Sl) (r : Ho) (k p a h : Int) (W : World) (hC : Circ W Bc Bp t qs r) (hs : t.h < h) :
    Calls Try.prog 59 #[.pointer (some ⟨Bc, 0, none⟩), evv k p a h] W (PanicPost (errv 10) W) := by
  have c0 : W.cell? ⟨Bc, 1, none⟩ = some (.int .i64 t.h) := hC.c.cell 1
  have hcl := hC.c.lt
  clear hC
  go_enter Try.func59, Try.ntmps59
  go_wp2
  refine still_tail 7 (by kernel_rfl) (by kernel_rfl) ?_
  simp only [List.take_succ_cons, List.take_zero, List.drop_succ_cons, List.drop_zero]
  repeat still_step
  refine wpStill_nil ?_
  go_wp2
  exact ⟨rfl, rfl, Below.drew (Below.alloc (Below.refl _ _) (Nat.le_refl _) _)⟩

def Is (W : World) (Bc : Nat) (cs : Array Value) (W0 : World) (S : World → Prop) : Prop := (∃ x, Has W Bc 70 x ∧ x = cs) ∧ Only (fun k => k = Bc) W0 W ∧ S W
abbrev cell11 (Bc : Nat) (i : Nat) (x : Int) (w : World) : Prop := w.cell? ⟨Bc, i, none⟩ = some (.int .i64 x)

set_option maxRecDepth 100000 in
set_option maxHeartbeats 2000000 in
theorem chill_ok (Bc Bp : Nat) (qs : List Qu) (t : Sl) (r : Ho) (ps : List Pp) (k p a h : Int) (W : World) (hC : Circ W Bc Bp t qs r) (hps : qs.map Qu.pp = ps) (hb0 : 0 ≤ h) (hb1 : h ≤ 4294967296) (ht : h ≤ t.h) (ht1 : t.h ≤ 2199023255552) (hr : HoOk r) :
    Calls Try.prog 59 #[.pointer (some ⟨Bc, 0, none⟩), evv k p a h] W (DonePost Bc Bp W qs ⟨ps, ⟨t.v, t.h - h⟩, ⟨r.heat + h - max 0 (r.heat + h - r.room), r.room, chillS r.s h (max 0 (r.heat + h - r.room))⟩⟩) := by
  have c1 : W.cell? ⟨Bc, 1, none⟩ = some (.int .i64 t.h) := hC.c.cell 1
  have c3 : W.cell? ⟨Bc, 3, none⟩ = some (.int .i64 r.heat) := hC.c.cell 3
  have c10 : W.cell? ⟨Bc, 10, none⟩ = some (.int .i64 r.s.ch) := hC.c.cell 10
  have c11 : W.cell? ⟨Bc, 11, none⟩ = some (.int .i64 r.s.ai) := hC.c.cell 11
  have f1 := hC.c.frozen 1
  have f3 := hC.c.frozen 3
  have f10 := hC.c.frozen 10
  have f11 := hC.c.frozen 11
  have hcl := hC.c.lt
  obtain ⟨q0, q1, q2, q3, _, _, _, q4, q5, _, _⟩ := hr
  have k1 : IntKind.i64.wrap (t.h - h) = t.h - h := IntWalk.i64_in _ (by omega)
  have k2 : IntKind.i64.wrap (r.s.ch + h) = r.s.ch + h := IntWalk.i64_in _ (by omega)
  have k3 : IntKind.i64.wrap (r.heat + h) = r.heat + h := IntWalk.i64_in _ (by omega)
  have k4 : IntKind.i64.wrap (r.s.ai + max 0 (r.heat + h - r.room)) = r.s.ai + max 0 (r.heat + h - r.room) := IntWalk.i64_in _ (by omega)
  have hT := fun W1 cs (hw : Has W1 Bc 70 cs) (d0 : cs[3]? = some (iv (r.heat + h))) (d1 : cs[4]? = some (iv r.room)) => spill_any Bc 3 70 cs (r.heat + h) r.room W1 hw d0 d1 (by omega) (by omega) (by omega) (by omega)
  have H := Lib.hid (And.intro hC (And.intro hps hT))
  have hlt : ¬ (t.h < h) := by omega
  clear hC hps hT hb0 hb1 ht ht1 q0 q1 q2 q3 q4 q5
  obtain ⟨mx, hmx⟩ : ∃ mx, mx = max 0 (r.heat + h - r.room) := ⟨_, rfl⟩
  rw [← hmx] at k4
  have HM := Lib.hid hmx
  clear hmx
  go_enter Try.func59, Try.ntmps59
  go_wp2
  refine still_tail 7 (by kernel_rfl) (by kernel_rfl) ?_
  simp only [List.take_succ_cons, List.take_zero, List.drop_succ_cons, List.drop_zero]
  repeat still_step
  refine wpStill_nil ?_
  go_wp2
  refine still_tail 11 (by kernel_rfl) (by kernel_rfl) ?_
  simp only [List.take_succ_cons, List.take_zero, List.drop_succ_cons, List.drop_zero]
  repeat still_step
  refine wpStill_nil ?_
  go_wp2
  refine still_tail 11 (by kernel_rfl) (by kernel_rfl) ?_
  simp only [List.take_succ_cons, List.take_zero, List.drop_succ_cons, List.drop_zero]
  repeat still_step
  refine wpStill_nil ?_
  go_wp2
  refine still_tail 11 (by kernel_rfl) (by kernel_rfl) ?_
  simp only [List.take_succ_cons, List.take_zero, List.drop_succ_cons, List.drop_zero]
  repeat still_step
  refine wpStill_nil ?_
  go_wp2_with fail
  refine (?_ : ∀ w3, Is w3 Bc #[iv t.v, iv (t.h - h), .slice (some ⟨Bp, 0, none⟩) qs.length qs.length, iv (r.heat + h), iv r.room, iv r.s.wa, iv r.s.lv, iv r.s.lh, iv r.s.fv, iv r.s.fh, iv (r.s.ch + h), iv r.s.ai, iv r.s.us, iv r.s.bo] W (cell11 Bc 11 r.s.ai) → Code.wp Try.prog _ _ _ w3) _ ?hP
  case hP =>
    refine ⟨⟨_, Has.drew (Has.drew (Has.drew (Has.drew (Has.alloc (((H.out.1.c.set 1 _).set 10 _).set 3 _) _)))), rfl⟩, ?onlyC, ?cellD⟩
    case onlyC =>
      repeat (first | (with_reducible exact Only.refl _ _) | (with_reducible refine Only.drew ?_) | (with_reducible refine Only.alloc ?_ _) | (with_reducible refine Only.setCell ?_ ?_ _))
      all_goals exact .inl rfl
    case cellD => show World.cell? _ _ = _; go_simp
  clear c1 c3 c10 c11 f1 f3 f10 f11 k1 k2 k3 hcl
  rintro w3 ⟨⟨cs, hw3, hcs⟩, hO3, hS3⟩
  have HW := Lib.hid (And.intro hw3 (And.intro hcs hO3))
  clear hw3 hcs hO3
  refine wp_region_late (cell11 Bc 11 r.s.ai) [13] (by kernel_rfl) ?_
  refine wpLate_take (i := 0) (oi := ?oi0) (v := ?v0) [1, 2, 3, 4, 9, 10, 11, 12, 13] ?hi0 (by kernel_rfl) (by kernel_rfl) (by kernel_rfl) (by kernel_rfl) (by kernel_rfl) ?hQ0 (Or.inl ⟨?hw0, ?hy0⟩) hS3 ?rest0
  case hi0 => (simp only [List.getElem?_toArray, List.getElem?_cons_zero]; rfl)
  case hQ0 => exact fun _ _ _ h => h
  case hw0 => rfl
  case hy0 =>
    intro w' hSw
    go_simp
    try exact rfl
  simp only [Act.put, List.setIfInBounds_toArray, List.set_cons_zero, List.set_cons_succ]
  refine wpLate_take (i := 1) (oi := ?oi1) (v := ?v1) [2, 3, 4, 9, 13] ?hi1 (by kernel_rfl) (by kernel_rfl) (by kernel_rfl) (by kernel_rfl) (by kernel_rfl) ?hQ1 (Or.inl ⟨?hw1, ?hy1⟩) hS3 ?rest1
  case hi1 => (simp only [List.getElem?_toArray, List.getElem?_cons_zero, List.getElem?_cons_succ]; rfl)
  case hQ1 => exact fun _ _ _ h => h
  case hw1 => rfl
  case hy1 =>
    intro w' hSw
    go_simp
    try exact rfl
  simp only [Act.put, List.setIfInBounds_toArray, List.set_cons_zero, List.set_cons_succ]
  refine wpLate_take (i := 2) (oi := ?oi2) (v := ?v2) [3, 4, 9, 13] ?hi2 (by kernel_rfl) (by kernel_rfl) (by kernel_rfl) (by kernel_rfl) (by kernel_rfl) ?hQ2 (Or.inl ⟨?hw2, ?hy2⟩) hS3 ?rest2
  case hi2 => (simp only [List.getElem?_toArray, List.getElem?_cons_zero, List.getElem?_cons_succ]; rfl)
  case hQ2 => exact fun _ _ _ h => h
  case hw2 => rfl
  case hy2 =>
    intro w' hSw
    go_simp
    try exact rfl
  simp only [Act.put, List.setIfInBounds_toArray, List.set_cons_zero, List.set_cons_succ]
  refine wpLate_take (i := 3) (oi := ?oi3) (v := ?v3) [4, 9, 13] ?hi3 (by kernel_rfl) (by kernel_rfl) (by kernel_rfl) (by kernel_rfl) (by kernel_rfl) ?hQ3 (Or.inl ⟨?hw3, ?hy3⟩) hS3 ?rest3
  case hi3 => (simp only [List.getElem?_toArray, List.getElem?_cons_zero, List.getElem?_cons_succ]; rfl)
  case hQ3 => exact fun _ _ _ h => h
  case hw3 => rfl
  case hy3 =>
    intro w' hSw
    go_simp
    try exact rfl
  simp only [Act.put, List.setIfInBounds_toArray, List.set_cons_zero, List.set_cons_succ]
  refine wpLate_take (i := 4) (oi := ?oi4) (v := ?v4) [9, 13] ?hi4 (by kernel_rfl) (by kernel_rfl) (by kernel_rfl) (by kernel_rfl) (by kernel_rfl) ?hQ4 (Or.inl ⟨?hw4, ?hy4⟩) hS3 ?rest4
  case hi4 => (simp only [List.getElem?_toArray, List.getElem?_cons_zero, List.getElem?_cons_succ]; rfl)
  case hQ4 => exact fun _ _ _ h => h
  case hw4 => rfl
  case hy4 =>
    intro w' hSw
    go_simp
    try exact rfl
  simp only [Act.put, List.setIfInBounds_toArray, List.set_cons_zero, List.set_cons_succ]
  refine wpLate_take (i := 5) (oi := ?oi5) (v := ?v5) [6, 7, 8, 9, 13] ?hi5 (by kernel_rfl) (by kernel_rfl) (by kernel_rfl) (by kernel_rfl) (by kernel_rfl) ?hQ5 (Or.inl ⟨?hw5, ?hy5⟩) hS3 ?rest5
  case hi5 => (simp only [List.getElem?_toArray, List.getElem?_cons_zero, List.getElem?_cons_succ]; rfl)
  case hQ5 => exact fun _ _ _ h => h
  case hw5 => rfl
  case hy5 =>
    intro w' hSw
    go_simp
    try exact rfl
  simp only [Act.put, List.setIfInBounds_toArray, List.set_cons_zero, List.set_cons_succ]
  refine wpLate_take (i := 6) (oi := ?oi6) (v := ?v6) [7, 8, 9, 13] ?hi6 (by kernel_rfl) (by kernel_rfl) (by kernel_rfl) (by kernel_rfl) (by kernel_rfl) ?hQ6 (Or.inl ⟨?hw6, ?hy6⟩) hS3 ?rest6
  case hi6 => (simp only [List.getElem?_toArray, List.getElem?_cons_zero, List.getElem?_cons_succ]; rfl)
  case hQ6 => exact fun _ _ _ h => h
  case hw6 => rfl
  case hy6 =>
    intro w' hSw
    go_simp
    try exact rfl
  simp only [Act.put, List.setIfInBounds_toArray, List.set_cons_zero, List.set_cons_succ]
  refine wpLate_take (i := 7) (oi := ?oi7) (v := ?v7) [8, 9, 13] ?hi7 (by kernel_rfl) (by kernel_rfl) (by kernel_rfl) (by kernel_rfl) (by kernel_rfl) ?hQ7 (Or.inl ⟨?hw7, ?hy7⟩) hS3 ?rest7
  case hi7 => (simp only [List.getElem?_toArray, List.getElem?_cons_zero, List.getElem?_cons_succ]; rfl)
  case hQ7 => exact fun _ _ _ h => h
  case hw7 => rfl
  case hy7 =>
    intro w' hSw
    go_simp
    try exact rfl
  simp only [Act.put, List.setIfInBounds_toArray, List.set_cons_zero, List.set_cons_succ]
  have hcp := H.out.2.2 w3.drew cs HW.out.1.drew (by rw [HW.out.2.1]; rfl) (by rw [HW.out.2.1]; rfl)
  rw [← HM.out] at hcp
  have HP := Lib.hid hcp
  clear hcp
  refine wpLate_one (i := 8) (o := ?o8) (by kernel_rfl) ?ho8 ?hk8
  case ho8 => (simp only [List.getElem?_toArray, List.getElem?_cons_zero, List.getElem?_cons_succ]; rfl)
  intro K hK
  go_simp
  refine HP.out.mono ?_
  rintro e w4 ⟨rfl, ho4, hw4⟩
  have hS4 : cell11 Bc 11 r.s.ai w4 := by
    show w4.cell? _ = _
    rw [hw4.cell, HW.out.2.1]; rfl
  have f4 := hw4.frozen 11
  have l4 := hw4.lt
  have HW4 := Lib.hid (And.intro hw4 ho4)
  clear hw4 ho4
  try (go_wp2_with fail)
  refine hK.out _ _ (fun _ => hS4) ?_
  clear hK K
  try simp only [Act.put, List.setIfInBounds_toArray, List.set_cons_zero, List.set_cons_succ]
  refine wpLate_one (i := 9) (o := ?o9) (by kernel_rfl) ?ho9 ?hk9
  case ho9 => (simp only [List.getElem?_toArray, List.getElem?_cons_zero, List.getElem?_cons_succ]; rfl)
  intro K hK
  go_simp
  refine hK.out _ _ (fun _ => hS4) ?_
  clear hK K
  try simp only [Act.put, List.setIfInBounds_toArray, List.set_cons_zero, List.set_cons_succ]
  refine wpLate_one (i := 10) (o := ?o10) (by kernel_rfl) ?ho10 ?hk10
  case ho10 => (simp only [List.getElem?_toArray, List.getElem?_cons_zero, List.getElem?_cons_succ]; rfl)
  intro K hK
  go_simp
  refine hK.out _ _ (fun _ => hS4) ?_
  clear hK K
  try simp only [Act.put, List.setIfInBounds_toArray, List.set_cons_zero, List.set_cons_succ]
  refine wpLate_one (i := 11) (o := ?o11) (by kernel_rfl) ?ho11 ?hk11
  case ho11 => (simp only [List.getElem?_toArray, List.getElem?_cons_zero, List.getElem?_cons_succ]; rfl)
  intro K hK
  go_simp
  refine hK.out _ _ (fun _ => hS4) ?_
  clear hK K
  try simp only [Act.put, List.setIfInBounds_toArray, List.set_cons_zero, List.set_cons_succ]
  refine wpLate_one (i := 12) (o := ?o12) (by kernel_rfl) ?ho12 ?hk12
  case ho12 => (simp only [List.getElem?_toArray, List.getElem?_cons_zero, List.getElem?_cons_succ]; rfl)
  intro K hK
  go_simp
  refine hK.out _ _ (fun _ => hS4) ?_
  clear hK K
  try simp only [Act.put, List.setIfInBounds_toArray, List.set_cons_zero, List.set_cons_succ]
  refine wpLate_one (i := 13) (o := ?o13) (by kernel_rfl) ?ho13 ?hk13
  case ho13 => (simp only [List.getElem?_toArray, List.getElem?_cons_zero, List.getElem?_cons_succ]; rfl)
  intro K hK
  go_simp
  refine hK.out _ _ (fun h => absurd (show false = true from h) (by decide)) ?_
  clear hK K
  refine wpLate_done (by kernel_rfl) ?_ _
  try simp only [Act.put, List.setIfInBounds_toArray, List.set_cons_zero, List.set_cons_succ]
  go_end0
  rw [← HM.out]
  refine DonePost.of_own H.out.1 H.out.2.1 (t' := ⟨t.v, t.h - h⟩) (r' := ⟨r.heat + h - mx, r.room, chillS r.s h mx⟩) ?_ (Only.setCell (Only.from_ HW.out.2.2.drew HW4.out.2 (fun _ _ h => h)) (.inl rfl) _)
  have hfin := HW4.out.1.set 11 (iv (r.s.ai + mx))
  rw [HW.out.2.1] at hfin
  exact hfin
end Go.Proofs.Ytjfopmjphiddiaa
/- use. -/
namespace Go.Proofs.Ytjfopmjphiddiaa
open Go.RowKit Go.Shelf
def useS (s : Sm) (h b : Int) : Sm := { s with us := s.us + h, bo := s.bo + b }

set_option maxRecDepth 100000 in
set_option maxHeartbeats 2000000 in
theorem use_ok (Bc Bp : Nat) (qs : List Qu) (t : Sl) (r : Ho) (ps : List Pp) (k p a h : Int) (W : World) (hC : Circ W Bc Bp t qs r) (hps : qs.map Qu.pp = ps) (hb0 : 0 ≤ h) (hb1 : h ≤ 4294967296) (hr : HoOk r) :
    Calls Try.prog 60 #[.pointer (some ⟨Bc, 0, none⟩), evv k p a h] W (DonePost Bc Bp W qs ⟨ps, t, ⟨r.heat - min r.heat h, r.room, useS r.s h (h - min r.heat h)⟩⟩) := by
  have c12 : W.cell? ⟨Bc, 12, none⟩ = some (.int .i64 r.s.us) := hC.c.cell 12
  have f12 := hC.c.frozen 12
  have hcl := hC.c.lt
  obtain ⟨q0, q1, q2, q3, _, _, _, _, _, q4, q5⟩ := hr
  have k1 : IntKind.i64.wrap (r.s.us + h) = r.s.us + h := IntWalk.i64_in _ (by omega)
  have k4 : IntKind.i64.wrap (r.s.bo + (h - min r.heat h)) = r.s.bo + (h - min r.heat h) := IntWalk.i64_in _ (by omega)
  have hT := fun W1 cs (hw : Has W1 Bc 70 cs) (d0 : cs[3]? = some (iv r.heat)) => use_any Bc 3 70 cs r.heat h W1 hw d0 (by omega) (by omega) (by omega) (by omega)
  have c13 : W.cell? ⟨Bc, 13, none⟩ = some (.int .i64 r.s.bo) := hC.c.cell 13
  have H := Lib.hid (And.intro hC (And.intro hps hT))
  clear hC hps hT hb0 hb1 q0 q1 q2 q3 q4 q5
  obtain ⟨mx, hmx⟩ : ∃ mx, mx = h - min r.heat h := ⟨_, rfl⟩
  rw [← hmx] at k4
  have HM := Lib.hid hmx
  clear hmx
  go_enter Try.func60, Try.ntmps60
  go_wp2
  refine still_tail 11 (by kernel_rfl) (by kernel_rfl) ?_
  simp only [List.take_succ_cons, List.take_zero, List.drop_succ_cons, List.drop_zero]
  repeat still_step
  refine wpStill_nil ?_
  go_wp2_with fail
  refine (?_ : ∀ w3, (Is w3 Bc #[iv t.v, iv t.h, .slice (some ⟨Bp, 0, none⟩) qs.length qs.length, iv r.heat, iv r.room, iv r.s.wa, iv r.s.lv, iv r.s.lh, iv r.s.fv, iv r.s.fh, iv r.s.ch, iv r.s.ai, iv (r.s.us + h), iv r.s.bo] W (cell11 Bc 13 r.s.bo) ∧ w3.cell? ⟨W.heap.size, 3, none⟩ = some (.int .i64 h)) → Code.wp Try.prog _ _ _ w3) _ ?hP
  case hP =>
    refine ⟨⟨⟨_, Has.drew (Has.alloc (H.out.1.c.set 12 _) _), rfl⟩, ?onlyC, ?cellD⟩, ?cellE⟩
    case onlyC =>
      repeat (first | (with_reducible exact Only.refl _ _) | (with_reducible refine Only.drew ?_) | (with_reducible refine Only.alloc ?_ _) | (with_reducible refine Only.setCell ?_ ?_ _))
      all_goals exact .inl rfl
    case cellD => show World.cell? _ _ = _; go_simp
    case cellE => go_simp
  clear c12 c13 f12 k1
  rintro w3 ⟨⟨⟨cs, hw3, hcs⟩, hO3, hS3⟩, hE3⟩
  have HW := Lib.hid (And.intro hw3 (And.intro hcs hO3))
  have hS0 : cell11 Bc 13 r.s.bo w3.drew ∧ w3.drew.cell? ⟨W.heap.size, 3, none⟩ = some (.int .i64 h) := ⟨hS3, hE3⟩
  clear hw3 hcs hO3 hS3 hE3
  refine wp_region_late (fun w => cell11 Bc 13 r.s.bo w ∧ w.cell? ⟨W.heap.size, 3, none⟩ = some (.int .i64 h)) [15] (by kernel_rfl) ?_
  refine wpLate_take (i := 0) (oi := ?oi0) (v := ?v0) [1, 2, 3, 4, 11, 12, 13, 14, 15] ?hi0 (by kernel_rfl) (by kernel_rfl) (by kernel_rfl) (by kernel_rfl) (by kernel_rfl) ?hQ0 (Or.inl ⟨?hw0, ?hy0⟩) hS0 ?rest0
  case hi0 => (simp only [List.getElem?_toArray, List.getElem?_cons_zero]; rfl)
  case hQ0 => exact fun _ _ _ h => h
  case hw0 => rfl
  case hy0 =>
    intro w' hSw
    obtain ⟨r0, r1⟩ := hSw
    go_simp
    try exact rfl
  simp only [Act.put, List.setIfInBounds_toArray, List.set_cons_zero, List.set_cons_succ]
  refine wpLate_take (i := 1) (oi := ?oi1) (v := ?v1) [2, 3, 4, 11, 15] ?hi1 (by kernel_rfl) (by kernel_rfl) (by kernel_rfl) (by kernel_rfl) (by kernel_rfl) ?hQ1 (Or.inl ⟨?hw1, ?hy1⟩) hS0 ?rest1
  case hi1 => (simp only [List.getElem?_toArray, List.getElem?_cons_zero, List.getElem?_cons_succ]; rfl)
  case hQ1 => exact fun _ _ _ h => h
  case hw1 => rfl
  case hy1 =>
    intro w' hSw
    obtain ⟨r0, r1⟩ := hSw
    go_simp
    try exact rfl
  simp only [Act.put, List.setIfInBounds_toArray, List.set_cons_zero, List.set_cons_succ]
  refine wpLate_take (i := 2) (oi := ?oi2) (v := ?v2) [3, 4, 11, 15] ?hi2 (by kernel_rfl) (by kernel_rfl) (by kernel_rfl) (by kernel_rfl) (by kernel_rfl) ?hQ2 (Or.inl ⟨?hw2, ?hy2⟩) hS0 ?rest2
  case hi2 => (simp only [List.getElem?_toArray, List.getElem?_cons_zero, List.getElem?_cons_succ]; rfl)
  case hQ2 => exact fun _ _ _ h => h
  case hw2 => rfl
  case hy2 =>
    intro w' hSw
    obtain ⟨r0, r1⟩ := hSw
    go_simp
    try exact rfl
  simp only [Act.put, List.setIfInBounds_toArray, List.set_cons_zero, List.set_cons_succ]
  refine wpLate_take (i := 3) (oi := ?oi3) (v := ?v3) [4, 11, 15] ?hi3 (by kernel_rfl) (by kernel_rfl) (by kernel_rfl) (by kernel_rfl) (by kernel_rfl) ?hQ3 (Or.inl ⟨?hw3, ?hy3⟩) hS0 ?rest3
  case hi3 => (simp only [List.getElem?_toArray, List.getElem?_cons_zero, List.getElem?_cons_succ]; rfl)
  case hQ3 => exact fun _ _ _ h => h
  case hw3 => rfl
  case hy3 =>
    intro w' hSw
    obtain ⟨r0, r1⟩ := hSw
    go_simp
    try exact rfl
  simp only [Act.put, List.setIfInBounds_toArray, List.set_cons_zero, List.set_cons_succ]
  refine wpLate_take (i := 4) (oi := ?oi4) (v := ?v4) [11, 15] ?hi4 (by kernel_rfl) (by kernel_rfl) (by kernel_rfl) (by kernel_rfl) (by kernel_rfl) ?hQ4 (Or.inl ⟨?hw4, ?hy4⟩) hS0 ?rest4
  case hi4 => (simp only [List.getElem?_toArray, List.getElem?_cons_zero, List.getElem?_cons_succ]; rfl)
  case hQ4 => exact fun _ _ _ h => h
  case hw4 => rfl
  case hy4 =>
    intro w' hSw
    obtain ⟨r0, r1⟩ := hSw
    go_simp
    try exact rfl
  simp only [Act.put, List.setIfInBounds_toArray, List.set_cons_zero, List.set_cons_succ]
  refine wpLate_take (i := 5) (oi := ?oi5) (v := ?v5) [6, 7, 10, 11, 15] ?hi5 (by kernel_rfl) (by kernel_rfl) (by kernel_rfl) (by kernel_rfl) (by kernel_rfl) ?hQ5 (Or.inl ⟨?hw5, ?hy5⟩) hS0 ?rest5
  case hi5 => (simp only [List.getElem?_toArray, List.getElem?_cons_zero, List.getElem?_cons_succ]; rfl)
  case hQ5 => exact fun _ _ _ h => h
  case hw5 => rfl
  case hy5 =>
    intro w' hSw
    obtain ⟨r0, r1⟩ := hSw
    go_simp
    try exact rfl
  simp only [Act.put, List.setIfInBounds_toArray, List.set_cons_zero, List.set_cons_succ]
  refine wpLate_take (i := 6) (oi := ?oi6) (v := ?v6) [7, 10, 11, 15] ?hi6 (by kernel_rfl) (by kernel_rfl) (by kernel_rfl) (by kernel_rfl) (by kernel_rfl) ?hQ6 (Or.inl ⟨?hw6, ?hy6⟩) hS0 ?rest6
  case hi6 => (simp only [List.getElem?_toArray, List.getElem?_cons_zero, List.getElem?_cons_succ]; rfl)
  case hQ6 => exact fun _ _ _ h => h
  case hw6 => rfl
  case hy6 =>
    intro w' hSw
    obtain ⟨r0, r1⟩ := hSw
    go_simp
    try exact rfl
  simp only [Act.put, List.setIfInBounds_toArray, List.set_cons_zero, List.set_cons_succ]
  refine wpLate_take (i := 7) (oi := ?oi7) (v := ?v7) [10, 11, 15] ?hi7 (by kernel_rfl) (by kernel_rfl) (by kernel_rfl) (by kernel_rfl) (by kernel_rfl) ?hQ7 (Or.inl ⟨?hw7, ?hy7⟩) hS0 ?rest7
  case hi7 => (simp only [List.getElem?_toArray, List.getElem?_cons_zero, List.getElem?_cons_succ]; rfl)
  case hQ7 => exact fun _ _ _ h => h
  case hw7 => rfl
  case hy7 =>
    intro w' hSw
    obtain ⟨r0, r1⟩ := hSw
    go_simp
    try exact rfl
  simp only [Act.put, List.setIfInBounds_toArray, List.set_cons_zero, List.set_cons_succ]
  refine wpLate_take (i := 8) (oi := ?oi8) (v := ?v8) [9, 10, 11, 15] ?hi8 (by kernel_rfl) (by kernel_rfl) (by kernel_rfl) (by kernel_rfl) (by kernel_rfl) ?hQ8 (Or.inl ⟨?hw8, ?hy8⟩) hS0 ?rest8
  case hi8 => (simp only [List.getElem?_toArray, List.getElem?_cons_zero, List.getElem?_cons_succ]; rfl)
  case hQ8 => exact fun _ _ _ h => h
  case hw8 => rfl
  case hy8 =>
    intro w' hSw
    obtain ⟨r0, r1⟩ := hSw
    go_simp
    try exact rfl
  simp only [Act.put, List.setIfInBounds_toArray, List.set_cons_zero, List.set_cons_succ]
  refine wpLate_take (i := 9) (oi := ?oi9) (v := ?v9) [10, 11, 15] ?hi9 (by kernel_rfl) (by kernel_rfl) (by kernel_rfl) (by kernel_rfl) (by kernel_rfl) ?hQ9 (Or.inl ⟨?hw9, ?hy9⟩) hS0 ?rest9
  case hi9 => (simp only [List.getElem?_toArray, List.getElem?_cons_zero, List.getElem?_cons_succ]; rfl)
  case hQ9 => exact fun _ _ _ h => h
  case hw9 => rfl
  case hy9 =>
    intro w' hSw
    obtain ⟨r0, r1⟩ := hSw
    go_simp
    try exact rfl
  simp only [Act.put, List.setIfInBounds_toArray, List.set_cons_zero, List.set_cons_succ]
  have hcp := H.out.2.2 w3.drew cs HW.out.1.drew (by rw [HW.out.2.1]; rfl)
  rw [← HM.out] at hcp
  have HP := Lib.hid hcp
  clear hcp
  refine wpLate_one (i := 10) (o := ?o10) (by kernel_rfl) ?ho10 ?hk10
  case ho10 => (simp only [List.getElem?_toArray, List.getElem?_cons_zero, List.getElem?_cons_succ]; rfl)
  intro K hK
  go_simp
  refine HP.out.mono ?_
  rintro e w4 ⟨rfl, ho4, hw4⟩
  have hS4 : cell11 Bc 13 r.s.bo w4 ∧ w4.cell? ⟨W.heap.size, 3, none⟩ = some (.int .i64 h) := by
    refine ⟨?_, cell_only hS0.2 ho4 (fun e => by dsimp only at e; omega)⟩
    show w4.cell? _ = _
    rw [hw4.cell, HW.out.2.1]; rfl
  have f4 := hw4.frozen 13
  have l4 := hw4.lt
  have c4 : w4.cell? ⟨Bc, 13, none⟩ = some (.int .i64 r.s.bo) := hS4.1
  have HW4 := Lib.hid (And.intro hw4 ho4)
  clear hw4 ho4 hS0
  try (go_wp2_with fail)
  refine hK.out _ _ (fun _ => hS4) ?_
  clear hK K
  try simp only [Act.put, List.setIfInBounds_toArray, List.set_cons_zero, List.set_cons_succ]
  refine wpLate_one (i := 11) (o := ?o11) (by kernel_rfl) ?ho11 ?hk11
  case ho11 => (simp only [List.getElem?_toArray, List.getElem?_cons_zero, List.getElem?_cons_succ]; rfl)
  intro K hK
  go_simp
  refine hK.out _ _ (fun _ => hS4) ?_
  clear hK K
  try simp only [Act.put, List.setIfInBounds_toArray, List.set_cons_zero, List.set_cons_succ]
  refine wpLate_one (i := 12) (o := ?o12) (by kernel_rfl) ?ho12 ?hk12
  case ho12 => (simp only [List.getElem?_toArray, List.getElem?_cons_zero, List.getElem?_cons_succ]; rfl)
  intro K hK
  go_simp
  refine hK.out _ _ (fun _ => hS4) ?_
  clear hK K
  try simp only [Act.put, List.setIfInBounds_toArray, List.set_cons_zero, List.set_cons_succ]
  refine wpLate_one (i := 13) (o := ?o13) (by kernel_rfl) ?ho13 ?hk13
  case ho13 => (simp only [List.getElem?_toArray, List.getElem?_cons_zero, List.getElem?_cons_succ]; rfl)
  intro K hK
  go_simp
  refine hK.out _ _ (fun _ => hS4) ?_
  clear hK K
  try simp only [Act.put, List.setIfInBounds_toArray, List.set_cons_zero, List.set_cons_succ]
  refine wpLate_one (i := 14) (o := ?o14) (by kernel_rfl) ?ho14 ?hk14
  case ho14 => (simp only [List.getElem?_toArray, List.getElem?_cons_zero, List.getElem?_cons_succ]; rfl)
  intro K hK
  go_simp
  refine hK.out _ _ (fun _ => hS4) ?_
  clear hK K
  try simp only [Act.put, List.setIfInBounds_toArray, List.set_cons_zero, List.set_cons_succ]
  refine wpLate_one (i := 15) (o := ?ofin) (by kernel_rfl) ?hofin ?hkfin
  case hofin => (simp only [List.getElem?_toArray, List.getElem?_cons_zero, List.getElem?_cons_succ]; rfl)
  intro K hK
  go_simp
  refine hK.out _ _ (fun h => absurd (show false = true from h) (by decide)) ?_
  clear hK K
  refine wpLate_done (by kernel_rfl) ?_ _
  try simp only [Act.put, List.setIfInBounds_toArray, List.set_cons_zero, List.set_cons_succ]
  go_end0
  rw [← HM.out]
  refine DonePost.of_own H.out.1 H.out.2.1 (t' := t) (r' := ⟨r.heat - min r.heat h, r.room, useS r.s h mx⟩) ?_ (Only.setCell (Only.from_ HW.out.2.2.drew HW4.out.2 (fun _ _ h => h)) (.inl rfl) _)
  have hfin := HW4.out.1.set 13 (iv (r.s.bo + mx))
  rw [HW.out.2.1] at hfin
  exact hfin
end Go.Proofs.Ytjfopmjphiddiaa
