/- A region that draws its order: what is held of the world has to be kept by all operations but those that wait for all that is taken first. -/
import Derived.WalkKit
import Derived.OrdersHeld
import Derived.Deep.RegionHeld
import Derived.Test.YtjfopmjphiddiaaMgA
import Derived.Deep.DeepCutAuto
namespace Go.Proofs.Ytjfopmjphiddiaa
open Go.RowKit

section
variable {P : Program} {ops : Array Oper} {Q : Exit → Act → World → Prop} {md : Region.Mode} {S : World → Prop} {late : List Nat}

/-- no late one has been carried out, and i is none -/
def lateOff (late : List Nat) (listed : Array Bool) (i : Nat) : Bool := !late.contains i && late.all fun l => !listed.getD l false
def wpLate (P : Program) (md : Region.Mode) (ops : Array Oper) (Q : Exit → Act → World → Prop) (S : World → Prop) (late : List Nat) : Nat → Array Bool → Act → World → Prop
  | 0, listed, a, w => Region.ready md ops listed = [] ∧ Q .normal a w
  | fuel + 1, listed, a, w =>
    (Region.ready md ops listed = [] → Q .normal a w) ∧
    ∀ i ∈ Region.ready md ops listed, wpOp P ops Q i (fun a' w' => (lateOff late listed i = true → S w') ∧ wpLate P md ops Q S late fuel (listed.setIfInBounds i true) a' w') a w

theorem wpAny_of_late : ∀ (fuel : Nat) (listed : Array Bool) (a : Act) (w : World), wpLate P md ops Q S late fuel listed a w → wpAny P md ops Q fuel listed a w
  | 0, _, _, _, h => h
  | fuel + 1, _, _, _, h => ⟨h.1, fun i hi => wpOp_mono (fun a' w' h' => wpAny_of_late fuel _ a' w' h'.2) (h.2 i hi)⟩

theorem late_not_waits {i : Nat} {oj : Oper} {listed : Array Bool} (hr : i ∈ Region.ready md ops listed) (hall : ∀ e ∈ oj.after, Region.binds md e = true → listed.getD e.on false = true) :
    ∀ e ∈ oj.after, Region.binds md e = true → e.on ≠ i := fun e he hb heq => by
  have h1 := hall e he hb
  have h0 := (mem_ready.1 hr).1
  rw [heq] at h1
  rcases Nat.lt_or_ge i listed.size with h' | h'
  · simp [h'] at h0 h1; rw [h0] at h1; cases h1
  · simp [Array.getElem?_eq_none h'] at h1

/-- those of B wait for number i, or for others of B -/
def Behind (md : Region.Mode) (ops : Array Oper) (i : Nat) (B : List Nat) (listed : Array Bool) : Prop :=
  ∀ m ∈ B, listed.getD m false = false ∧ m ≠ i ∧ ∀ o, ops[m]? = some o → ∃ e ∈ o.after, Region.binds md e = true ∧ (e.on = i ∨ e.on ∈ B)

theorem Behind.not_ready {i j : Nat} {B : List Nat} {listed : Array Bool} (hB : Behind md ops i B listed) (hr : i ∈ Region.ready md ops listed) (hj : j ∈ Region.ready md ops listed) : j ∉ B := fun hb => by
  obtain ⟨_, oj, hoj, hall⟩ := mem_ready.1 hj
  obtain ⟨e, he, hbi, h | h⟩ := (hB j hb).2.2 oj hoj
  · exact late_not_waits hr hall e he hbi h
  · have h1 := hall e he hbi
    have h2 := (hB _ h).1
    rw [h2] at h1; cases h1

theorem getD_set_other {l : Array Bool} {j m : Nat} (h : j ≠ m) (b d : Bool) : (l.setIfInBounds j b).getD m d = l.getD m d := by
  simp [Array.getD_eq_getD_getElem?, Array.getElem?_setIfInBounds_ne h]

theorem wpLate_first {i : Nat} {oi : Oper} {v : Value} (hi : ops[i]? = some oi) (hsel : ∀ (j : Nat) (o : Oper) cs b, ops[j]? = some o → o.op ≠ .select cs b)
    (hQ : ∀ c a w, Q (.panic c) (a.put oi.dst v) w → Q (.panic c) a w) (B : List Nat) (hlB : ∀ m ∈ late, m ∈ B) :
    ∀ (fuel : Nat) (listed : Array Bool) (a : Act) (w : World),
      (∀ j oj, ops[j]? = some oj → j ≠ i → listed.getD j true = false → (∀ e ∈ oj.after, Region.binds md e = true → e.on ≠ i) → oi.apart ops oj = true) →
      i ∈ Region.ready md ops listed → Behind md ops i B listed → YieldsIf P ops S oi v a → S w →
      wpLate P md ops Q S late fuel (listed.setIfInBounds i true) (a.put oi.dst v) w → wpLate P md ops Q S late (fuel + 1) listed a w := by
  intro fuel
  induction fuel with
  | zero =>
    intro listed a w _ hr _ hy hS H
    refine ⟨fun h => (by rw [h] at hr; cases hr), fun j hj => ?_⟩
    by_cases hji : j = i
    · subst hji; exact hy.wpOp hi hS ⟨fun _ => hS, H⟩
    · have := ready_mono hj hji
      rw [H.1] at this
      cases this
  | succ fuel ih =>
    intro listed a w hfree hr hB hy hS H
    refine ⟨fun h => (by rw [h] at hr; cases hr), fun j hj => ?_⟩
    by_cases hji : j = i
    · subst hji; exact hy.wpOp hi hS ⟨fun _ => hS, H⟩
    · have h1 := H.2 j (ready_mono hj hji)
      obtain ⟨hjun, oj, hoj, hall⟩ := mem_ready.1 hj
      have hnot := late_not_waits hr hall
      have hjB := hB.not_ready hr hj
      have hjl : late.contains j = false := by
        cases h : late.contains j
        · rfl
        · exact absurd (hlB j (by simpa using h)) hjB
      have hoff : lateOff late (listed.setIfInBounds i true) j = true := by
        have e : (late.all fun l => !(listed.setIfInBounds i true).getD l false) = true := by
          rw [List.all_eq_true]
          intro l hl
          obtain ⟨b1, b2, _⟩ := hB l (hlB l hl)
          rw [getD_set_other (Ne.symm b2), b1]; rfl
        unfold lateOff; rw [hjl, e]; rfl
      have h2 := wpOp_putIf hoj (hfree j oj hoj hji hjun hnot) (fun cs b => hsel i oi cs b hi) (fun cs b => hsel j oj cs b hoj) hQ hy h1
      have hfree' : ∀ k ok, ops[k]? = some ok → k ≠ i → (listed.setIfInBounds j true).getD k true = false →
          (∀ e ∈ ok.after, Region.binds md e = true → e.on ≠ i) → oi.apart ops ok = true := fun k ok hk hki hun hno => by
        refine hfree k ok hk hki ?_ hno
        by_cases hjk : j = k
        · subst hjk; exact hjun
        · rw [getD_set_ne true hjk] at hun; exact hun
      have hB' : Behind md ops i B (listed.setIfInBounds j true) := fun m hm => by
        obtain ⟨b1, b2, b3⟩ := hB m hm
        exact ⟨by rw [getD_set_other (fun e => hjB (by rw [e]; exact hm))]; exact b1, b2, b3⟩
      refine wpOp_mono (fun a' w' h3 => ⟨fun _ => h3.2.1 hoff, ih (listed.setIfInBounds j true) a' w' hfree' (ready_mono hr (Ne.symm hji)) hB' h3.1 (h3.2.1 hoff) ?_⟩) h2
      rw [Array.setIfInBounds_comm _ _ hji]
      exact h3.2.2

def behindB (md : Region.Mode) (ops : Array Oper) (i : Nat) (B : List Nat) (listed : Array Bool) : Bool :=
  B.all fun m => listed.getD m false == false && m != i && (match ops[m]? with | none => true | some o => o.after.any fun e => Region.binds md e && (e.on == i || B.contains e.on))
theorem behindB_spec {i : Nat} {B : List Nat} {listed : Array Bool} (h : behindB md ops i B listed = true) : Behind md ops i B listed := fun m hm => by
  unfold behindB at h
  rw [List.all_eq_true] at h
  have h := h m hm
  simp only [Bool.and_eq_true, beq_iff_eq, bne_iff_ne, ne_eq] at h
  refine ⟨h.1.1, h.1.2, fun o ho => ?_⟩
  have h2 := h.2
  simp only [ho, Array.any_eq_true] at h2
  obtain ⟨k, hk, h2⟩ := h2
  simp only [Bool.and_eq_true, Bool.or_eq_true, beq_iff_eq, List.contains_eq_mem, decide_eq_true_eq] at h2
  exact ⟨_, Array.getElem_mem hk, h2.1, h2.2⟩

theorem wpLate_take {i : Nat} {oi : Oper} {v : Value} {fuel : Nat} {listed : Array Bool} {a : Act} {w : World} (B : List Nat) (hi : ops[i]? = some oi)
    (hs : Region.noSelect ops = true) (hf : Region.free md ops listed i = true) (hr : (Region.ready md ops listed).contains i = true) (hl : behindB md ops i B listed = true) (hlB : (late.all fun m => B.contains m) = true)
    (hQ : ∀ c a w, Q (.panic c) (a.put oi.dst v) w → Q (.panic c) a w) (hy : YieldsIf P ops S oi v a) (hS : S w)
    (h : wpLate P md ops Q S late fuel (listed.setIfInBounds i true) (a.put oi.dst v) w) : wpLate P md ops Q S late (fuel + 1) listed a w :=
  wpLate_first hi (Region.noSelect_spec hs) hQ B (by simpa using hlB) fuel listed a w (Region.free_spec hi hf) (by simpa using hr) (behindB_spec hl) hy hS h

theorem wpLate_one {i : Nat} {o : Oper} {fuel : Nat} {listed : Array Bool} {a : Act} {w : World} (hr : Region.ready md ops listed = [i]) (ho : ops[i]? = some o)
    (h : ∀ K' : Act → World → Prop, Shut (∀ a w, (lateOff late listed i = true → S w) → wpLate P md ops Q S late fuel (listed.setIfInBounds i true) a w → K' a w) → if Region.wanted o (yielded ops a.tmps) = true then Oper.wp P o a w K' Q else K' (a.put o.dst undef) w) :
    wpLate P md ops Q S late (fuel + 1) listed a w :=
  ⟨fun h0 => absurd (hr ▸ h0) (by simp), fun j hj => by
    rw [hr] at hj
    obtain rfl := List.mem_singleton.1 hj
    exact wpOp_step ho (fun K' hK => h K' (fun a w hS hW => hK a w ⟨hS, hW⟩))⟩

theorem wpLate_two {i j : Nat} {o u : Oper} {fuel : Nat} {listed : Array Bool} {a : Act} {w : World} (hr : Region.ready md ops listed = [i, j]) (ho : ops[i]? = some o) (hu : ops[j]? = some u)
    (h : ∀ K' : Act → World → Prop, Shut (∀ a w, (lateOff late listed i = true → S w) → wpLate P md ops Q S late fuel (listed.setIfInBounds i true) a w → K' a w) → if Region.wanted o (yielded ops a.tmps) = true then Oper.wp P o a w K' Q else K' (a.put o.dst undef) w)
    (g : ∀ K' : Act → World → Prop, Shut (∀ a w, (lateOff late listed j = true → S w) → wpLate P md ops Q S late fuel (listed.setIfInBounds j true) a w → K' a w) → if Region.wanted u (yielded ops a.tmps) = true then Oper.wp P u a w K' Q else K' (a.put u.dst undef) w) :
    wpLate P md ops Q S late (fuel + 1) listed a w :=
  ⟨fun h0 => absurd (hr ▸ h0) (by simp), fun m hm => by
    rw [hr] at hm
    rcases List.mem_cons.1 hm with rfl | hm
    · exact wpOp_step ho (fun K' hK => h K' (fun a w hS hW => hK a w ⟨hS, hW⟩))
    · obtain rfl := List.mem_singleton.1 hm
      exact wpOp_step hu (fun K' hK => g K' (fun a w hS hW => hK a w ⟨hS, hW⟩))⟩

theorem wpLate_done {listed : Array Bool} {a : Act} {w : World} (hr : Region.ready md ops listed = []) (h : Q .normal a w) : ∀ fuel, wpLate P md ops Q S late fuel listed a w
  | 0 => ⟨hr, h⟩
  | _ + 1 => ⟨fun _ => h, by rw [hr]; simp⟩

theorem wp_region_late (S : World → Prop) (late : List Nat) {id : Nat} {a : Act} {w : World} (hm : P.follows .mixedOrders = true)
    (h : wpLate P .any ops Q S late ops.size (Array.replicate ops.size false) a w.drew) : (Code.region id ops true).wp P Q a w :=
  wp_region_any hm (wpAny_of_late _ _ _ _ h)
end
end Go.Proofs.Ytjfopmjphiddiaa
/- cut: the first slug of a queue is cut. -/
namespace Go.Proofs.Ytjfopmjphiddiaa
open Go.RowKit

theorem cutF_o {s : Sl} {n : Int} (t : List Sl) (h : 1 ≤ s.v) : (cutF n s t).1 = takeO s (min n s.v) := by
  unfold cutF
  by_cases hv : n < s.v
  · rw [if_pos hv, Int.min_eq_left (by omega)]
  · rw [if_neg hv, Int.min_eq_right (by omega), takeO_all h]
theorem getElem?_set2 {cs : Array Value} {o : Nat} {a b : Value} (i : Nat) (h1 : i ≠ o) (h2 : i ≠ o + 1) : ((cs.setIfInBounds o a).setIfInBounds (o + 1) b)[i]? = cs[i]? := by
  rw [Array.getElem?_setIfInBounds_ne (by omega), Array.getElem?_setIfInBounds_ne (by omega)]
theorem getElem?_set2a {cs : Array Value} {o : Nat} {a b : Value} (h : o + 1 < cs.size) : ((cs.setIfInBounds o a).setIfInBounds (o + 1) b)[o]? = some a ∧ ((cs.setIfInBounds o a).setIfInBounds (o + 1) b)[o + 1]? = some b := by
  constructor
  · rw [Array.getElem?_setIfInBounds_ne (by omega), Array.getElem?_setIfInBounds_self_of_lt (by omega)]
  · rw [Array.getElem?_setIfInBounds_self_of_lt (by simpa using h)]

def CutPost (Bp o : Nat) (cs : Array Value) (q : Qu) (n : Int) (s : Sl) (t : List Sl) (W : World) (e : Ending) (W' : World) : Prop :=
  e = .returned (slv (cutF n s t).1) ∧ ∃ q' : Qu, q'.l = (cutF n s t).2 ∧ q'.room = q.room ∧ q'.g = q.g ∧ Has W' Bp 88 (cs.setIfInBounds (o + 1) q'.sv) ∧ QHas W' q' ∧ Only (fun k => k = Bp ∨ k = q.g) W W'

theorem set_same {cs : Array Value} {i : Nat} {v : Value} (h : cs[i]? = some v) : cs.setIfInBounds i v = cs := by
  apply Array.ext_getElem?
  intro j
  by_cases e : i = j
  · subst e
    obtain ⟨hlt, _⟩ := Array.getElem?_eq_some_iff.1 h
    rw [Array.getElem?_setIfInBounds_self_of_lt hlt, h]
  · rw [Array.getElem?_setIfInBounds_ne e]
section
variable {Bp o : Nat} {cs cur : Array Value} {q : Qu} {n : Int} {s : Sl} {t : List Sl} {W W9 : World}
theorem cut_fin_part (hcs : ∀ k (h : k < q.l.length), cur[q.off + k * 2]? = some (iv q.l[k].v) ∧ cur[q.off + k * 2 + 1]? = some (iv q.l[k].h)) (hsz : q.off + q.cap * 2 ≤ cur.size) (hc : cs[o + 1]? = some q.sv)
    (hl : q.l = s :: t) (hle : q.l.length ≤ q.cap) (hmx : q.cap ≤ maxLen) (hv : n < s.v)
    (hw : Has W9 q.g 23 ((cur.setIfInBounds q.off (iv (takeR s n).v)).setIfInBounds (q.off + 1) (iv (takeR s n).h))) (hw0 : Has W9 Bp 88 cs) (ho : Only (fun k => k = q.g) W W9) :
    CutPost Bp o cs q n s t W (.returned (slv (takeO s n))) W9 := by
  have e : cutF n s t = (takeO s n, takeR s n :: t) := if_pos hv
  have hlen : q.l.length = t.length + 1 := by rw [hl]; rfl
  unfold CutPost
  rw [e]
  refine ⟨rfl, ⟨q.room, q.g, q.off, q.cap, takeR s n :: t⟩, rfl, rfl, rfl, ?_, ⟨⟨_, hw, by simpa using hsz, ?_⟩, by rw [hlen] at hle; exact hle, hmx⟩, ho.mono (fun _ _ h => .inr h)⟩
  · rw [set_same]
    · exact hw0
    · rw [hc]; simp [Qu.sv, hlen]
  · intro k hk
    cases k with
    | zero =>
      have := getElem?_set2a (cs := cur) (o := q.off) (a := iv (takeR s n).v) (b := iv (takeR s n).h) (by omega)
      simpa using this
    | succ k =>
      have h := hcs (k + 1) (by simpa [hlen] using hk)
      have e : q.l[k + 1]'(by simpa [hlen] using hk) = t[k]'(by simpa using hk) := by simp [hl]
      rw [e] at h
      dsimp only
      rw [getElem?_set2 _ (by omega) (by omega), getElem?_set2 _ (by omega) (by omega)]
      simpa using h
theorem cut_fin_whole {x : Value} (off : Nat) (hx : x = .slice (some ⟨q.g, off, none⟩) t.length t.length) (hoff : t = [] ∧ off = q.off ∨ off = q.off + 2) (hcs : ∀ k (h : k < q.l.length), cur[q.off + k * 2]? = some (iv q.l[k].v) ∧ cur[q.off + k * 2 + 1]? = some (iv q.l[k].h)) (hsz : q.off + q.cap * 2 ≤ cur.size)
    (hl : q.l = s :: t) (hle : q.l.length ≤ q.cap) (hmx : q.cap ≤ maxLen) (hv : s.v ≤ n) (h1 : 1 ≤ s.v) {y : Array Value} (hy : ∀ i, i ≠ q.off → i ≠ q.off + 1 → y[i]? = cur[i]?) (hys : y.size = cur.size)
    (hw : Has W9 q.g 23 y) (hw0 : Has W9 Bp 88 (cs.setIfInBounds (o + 1) x)) (ho : Only (fun k => k = Bp ∨ k = q.g) W W9) :
    CutPost Bp o cs q n s t W (.returned (slv (takeO s s.v))) W9 := by
  have e : cutF n s t = (s, t) := if_neg (by omega)
  have hlen : q.l.length = t.length + 1 := by rw [hl]; rfl
  unfold CutPost
  rw [e, takeO_all h1]
  refine ⟨rfl, ⟨q.room, q.g, off, t.length, t⟩, rfl, rfl, rfl, ?_, ⟨⟨_, hw, ?_, ?_⟩, Nat.le_refl _, by dsimp only; omega⟩, ho⟩
  · rw [hx] at hw0; exact hw0
  · dsimp only; rcases hoff with ⟨rfl, rfl⟩ | rfl
    · simp; omega
    · omega
  · intro k hk
    dsimp only at hk ⊢
    rcases hoff with ⟨rfl, rfl⟩ | rfl
    · simp at hk
    · have h := hcs (k + 1) (by omega)
      have e : q.l[k + 1]'(by omega) = t[k]'hk := by simp [hl]
      rw [e] at h
      rw [hy _ (by omega) (by omega), hy _ (by omega) (by omega), show q.off + 2 + k * 2 = q.off + (k + 1) * 2 by omega]
      exact h
end
set_option maxRecDepth 100000 in
set_option maxHeartbeats 4000000 in
theorem cut_part (Bp o : Nat) (cs : Array Value) (q : Qu) (n : Int) (s : Sl) (t : List Sl) (W : World) (hp : Has W Bp 88 cs) (hc : cs[o + 1]? = some q.sv) (hq : QHas W q) (hl : q.l = s :: t)
    (hne : q.g ≠ Bp) (hs : okS s) (hb : s.h ≤ 2199023255552) (h1 : 1 ≤ n) (h3 : s.v ≤ 2097152) (hv : n < s.v) :
    Calls Try.prog 77 #[.pointer (some ⟨Bp, o, none⟩), iv n] W (CutPost Bp o cs q n s t W) := by
  obtain ⟨cur, hh, hsz, hcs⟩ := hq.blk
  have hlen : q.l.length = t.length + 1 := by rw [hl]; rfl
  have hle := hq.le
  have hmx := hq.mx
  have c01 := hcs 0 (by omega)
  have e0 : q.l[0]'(by omega) = s := by simp [hl]
  rw [e0] at c01
  simp only [Nat.zero_mul, Nat.add_zero] at c01
  have d0 : W.cell? ⟨Bp, o + 1, none⟩ = some (.slice (some ⟨q.g, q.off, none⟩) (t.length + 1) q.cap) := (hp.cell _).trans (by rw [hc, Qu.sv, hlen])
  have d1 : W.cell? ⟨q.g, q.off, none⟩ = some (.int .i64 s.v) := (hh.cell _).trans c01.1
  have f0 := hp.frozen (o + 1)
  have hgl := hh.lt
  have hpl := hp.lt
  have hT := fun W1 (h : Has W1 q.g 23 cur) => take_any q.g q.off 23 cur s n W1 h c01.1 c01.2 hs hb h1 (by omega) h3
  have HT := Lib.hid hT
  have HH := Lib.hid (And.intro hh hp)
  have HN := Lib.hid (And.intro hcs (And.intro hs (And.intro c01 (And.intro hsz hc))))
  have HL := Lib.hid (And.intro hl hlen)
  have hX : q.off + 1 < cur.size := by have := hq.le; omega
  clear e0 hT hh hp hcs hs hb h3 hq hsz c01 hc hl hlen
  have hcap : 1 ≤ q.cap := by have := HL.out.2; omega
  have hcl : t.length + 1 ≤ q.cap := by have := HL.out.2; omega
  unfold maxLen at hmx
  clear hle
  have hoff : q.off ≠ q.off + 1 := by omega
  go_enter Try.func77, Try.ntmps77
  go_wp2
  have hS0 : (fun w' : World => w'.cell? ⟨Bp, o + 1, none⟩ = some (.slice (some ⟨q.g, q.off, none⟩) (t.length + 1) q.cap) ∧ w'.cell? ⟨q.g, q.off, none⟩ = some (.int .i64 s.v)) (W.alloc (Obj.cells #[Value.int IntKind.i64 0, Value.int IntKind.i64 0] 23)).drew := by constructor <;> go_simp
  refine wp_region_late (fun w' : World => w'.cell? ⟨Bp, o + 1, none⟩ = some (.slice (some ⟨q.g, q.off, none⟩) (t.length + 1) q.cap) ∧ w'.cell? ⟨q.g, q.off, none⟩ = some (.int .i64 s.v)) [14, 16] (by kernel_rfl) ?_
  refine wpLate_take (i := 0) (oi := ?oi0) (v := ?v0) [1, 2, 3, 4, 14, 16] ?hi0 (by kernel_rfl) (by kernel_rfl) (by kernel_rfl) (by kernel_rfl) (by kernel_rfl) ?hQ0 (Or.inl ⟨?hw0, ?hy0⟩) hS0 ?rest0
  case hi0 => (simp only [List.getElem?_toArray, List.getElem?_cons_zero]; rfl)
  case hQ0 => exact fun _ _ _ h => h
  case hw0 => rfl
  case hy0 =>
    intro w' hSw
    obtain ⟨r0, r1⟩ := hSw
    go_simp
    try exact rfl
  simp only [Act.put, List.setIfInBounds_toArray, List.set_cons_zero, List.set_cons_succ]
  refine wpLate_take (i := 1) (oi := ?oi1) (v := ?v1) [2, 3, 4, 14, 16] ?hi1 (by kernel_rfl) (by kernel_rfl) (by kernel_rfl) (by kernel_rfl) (by kernel_rfl) ?hQ1 (Or.inl ⟨?hw1, ?hy1⟩) hS0 ?rest1
  case hi1 => (simp only [List.getElem?_toArray, List.getElem?_cons_zero, List.getElem?_cons_succ]; rfl)
  case hQ1 => exact fun _ _ _ h => h
  case hw1 => rfl
  case hy1 =>
    intro w' hSw
    obtain ⟨r0, r1⟩ := hSw
    go_simp
    try exact rfl
  simp only [Act.put, List.setIfInBounds_toArray, List.set_cons_zero, List.set_cons_succ]
  refine wpLate_take (i := 2) (oi := ?oi2) (v := ?v2) [3, 4, 14, 16] ?hi2 (by kernel_rfl) (by kernel_rfl) (by kernel_rfl) (by kernel_rfl) (by kernel_rfl) ?hQ2 (Or.inl ⟨?hw2, ?hy2⟩) hS0 ?rest2
  case hi2 => (simp only [List.getElem?_toArray, List.getElem?_cons_zero, List.getElem?_cons_succ]; rfl)
  case hQ2 => exact fun _ _ _ h => h
  case hw2 => rfl
  case hy2 =>
    intro w' hSw
    obtain ⟨r0, r1⟩ := hSw
    go_simp
    try exact rfl
  simp only [Act.put, List.setIfInBounds_toArray, List.set_cons_zero, List.set_cons_succ]
  refine wpLate_take (i := 3) (oi := ?oi3) (v := ?v3) [4, 14, 16] ?hi3 (by kernel_rfl) (by kernel_rfl) (by kernel_rfl) (by kernel_rfl) (by kernel_rfl) ?hQ3 (Or.inl ⟨?hw3, ?hy3⟩) hS0 ?rest3
  case hi3 => (simp only [List.getElem?_toArray, List.getElem?_cons_zero, List.getElem?_cons_succ]; rfl)
  case hQ3 => exact fun _ _ _ h => h
  case hw3 => rfl
  case hy3 =>
    intro w' hSw
    obtain ⟨r0, r1⟩ := hSw
    go_simp
    try exact rfl
  simp only [Act.put, List.setIfInBounds_toArray, List.set_cons_zero, List.set_cons_succ]
  refine wpLate_take (i := 4) (oi := ?oi4) (v := ?v4) [14, 16] ?hi4 (by kernel_rfl) (by kernel_rfl) (by kernel_rfl) (by kernel_rfl) (by kernel_rfl) ?hQ4 (Or.inl ⟨?hw4, ?hy4⟩) hS0 ?rest4
  case hi4 => (simp only [List.getElem?_toArray, List.getElem?_cons_zero, List.getElem?_cons_succ]; rfl)
  case hQ4 => exact fun _ _ _ h => h
  case hw4 => rfl
  case hy4 =>
    intro w' hSw
    obtain ⟨r0, r1⟩ := hSw
    go_simp
    try exact rfl
  simp only [Act.put, List.setIfInBounds_toArray, List.set_cons_zero, List.set_cons_succ]
  refine wpLate_take (i := 5) (oi := ?oi5) (v := ?v5) [13, 14, 16] ?hi5 (by kernel_rfl) (by kernel_rfl) (by kernel_rfl) (by kernel_rfl) (by kernel_rfl) ?hQ5 (Or.inl ⟨?hw5, ?hy5⟩) hS0 ?rest5
  case hi5 => (simp only [List.getElem?_toArray, List.getElem?_cons_zero, List.getElem?_cons_succ]; rfl)
  case hQ5 => exact fun _ _ _ h => h
  case hw5 => rfl
  case hy5 =>
    intro w' hSw
    obtain ⟨r0, r1⟩ := hSw
    go_simp
    try exact rfl
  simp only [Act.put, List.setIfInBounds_toArray, List.set_cons_zero, List.set_cons_succ]
  refine wpLate_take (i := 6) (oi := ?oi6) (v := ?v6) [7, 8, 9, 10, 11, 12, 13, 14, 16] ?hi6 (by kernel_rfl) (by kernel_rfl) (by kernel_rfl) (by kernel_rfl) (by kernel_rfl) ?hQ6 (Or.inl ⟨?hw6, ?hy6⟩) hS0 ?rest6
  case hi6 => (simp only [List.getElem?_toArray, List.getElem?_cons_zero, List.getElem?_cons_succ]; rfl)
  case hQ6 => exact fun _ _ _ h => h
  case hw6 => rfl
  case hy6 =>
    intro w' hSw
    obtain ⟨r0, r1⟩ := hSw
    go_simp
    try exact rfl
  simp only [Act.put, List.setIfInBounds_toArray, List.set_cons_zero, List.set_cons_succ]
  refine wpLate_take (i := 7) (oi := ?oi7) (v := ?v7) [8, 9, 10, 11, 12, 13, 14, 16] ?hi7 (by kernel_rfl) (by kernel_rfl) (by kernel_rfl) (by kernel_rfl) (by kernel_rfl) ?hQ7 (Or.inl ⟨?hw7, ?hy7⟩) hS0 ?rest7
  case hi7 => (simp only [List.getElem?_toArray, List.getElem?_cons_zero, List.getElem?_cons_succ]; rfl)
  case hQ7 => exact fun _ _ _ h => h
  case hw7 => rfl
  case hy7 =>
    intro w' hSw
    obtain ⟨r0, r1⟩ := hSw
    go_simp
    try exact rfl
  simp only [Act.put, List.setIfInBounds_toArray, List.set_cons_zero, List.set_cons_succ]
  refine wpLate_take (i := 8) (oi := ?oi8) (v := ?v8) [9, 10, 11, 12, 13, 14, 16] ?hi8 (by kernel_rfl) (by kernel_rfl) (by kernel_rfl) (by kernel_rfl) (by kernel_rfl) ?hQ8 (Or.inl ⟨?hw8, ?hy8⟩) hS0 ?rest8
  case hi8 => (simp only [List.getElem?_toArray, List.getElem?_cons_zero, List.getElem?_cons_succ]; rfl)
  case hQ8 => exact fun _ _ _ h => h
  case hw8 => rfl
  case hy8 =>
    intro w' hSw
    obtain ⟨r0, r1⟩ := hSw
    go_simp
    try exact rfl
  simp only [Act.put, List.setIfInBounds_toArray, List.set_cons_zero, List.set_cons_succ]
  refine wpLate_take (i := 9) (oi := ?oi9) (v := ?v9) [10, 11, 12, 13, 14, 16] ?hi9 (by kernel_rfl) (by kernel_rfl) (by kernel_rfl) (by kernel_rfl) (by kernel_rfl) ?hQ9 (Or.inl ⟨?hw9, ?hy9⟩) hS0 ?rest9
  case hi9 => (simp only [List.getElem?_toArray, List.getElem?_cons_zero, List.getElem?_cons_succ]; rfl)
  case hQ9 => exact fun _ _ _ h => h
  case hw9 => rfl
  case hy9 =>
    intro w' hSw
    obtain ⟨r0, r1⟩ := hSw
    go_simp
    try exact rfl
  simp only [Act.put, List.setIfInBounds_toArray, List.set_cons_zero, List.set_cons_succ]
  refine wpLate_take (i := 10) (oi := ?oi10) (v := ?v10) [11, 12, 13, 14, 16] ?hi10 (by kernel_rfl) (by kernel_rfl) (by kernel_rfl) (by kernel_rfl) (by kernel_rfl) ?hQ10 (Or.inl ⟨?hw10, ?hy10⟩) hS0 ?rest10
  case hi10 => (simp only [List.getElem?_toArray, List.getElem?_cons_zero, List.getElem?_cons_succ]; rfl)
  case hQ10 => exact fun _ _ _ h => h
  case hw10 => rfl
  case hy10 =>
    intro w' hSw
    obtain ⟨r0, r1⟩ := hSw
    go_simp
    try exact rfl
  simp only [Act.put, List.setIfInBounds_toArray, List.set_cons_zero, List.set_cons_succ]
  refine wpLate_take (i := 11) (oi := ?oi11) (v := ?v11) [12, 13, 14, 16] ?hi11 (by kernel_rfl) (by kernel_rfl) (by kernel_rfl) (by kernel_rfl) (by kernel_rfl) ?hQ11 (Or.inl ⟨?hw11, ?hy11⟩) hS0 ?rest11
  case hi11 => (simp only [List.getElem?_toArray, List.getElem?_cons_zero, List.getElem?_cons_succ]; rfl)
  case hQ11 => exact fun _ _ _ h => h
  case hw11 => rfl
  case hy11 =>
    intro w' hSw
    obtain ⟨r0, r1⟩ := hSw
    go_simp
    try exact rfl
  simp only [Act.put, List.setIfInBounds_toArray, List.set_cons_zero, List.set_cons_succ]
  refine wpLate_take (i := 12) (oi := ?oi12) (v := ?v12) [13, 14, 16] ?hi12 (by kernel_rfl) (by kernel_rfl) (by kernel_rfl) (by kernel_rfl) (by kernel_rfl) ?hQ12 (Or.inl ⟨?hw12, ?hy12⟩) hS0 ?rest12
  case hi12 => (simp only [List.getElem?_toArray, List.getElem?_cons_zero, List.getElem?_cons_succ]; rfl)
  case hQ12 => exact fun _ _ _ h => h
  case hw12 => rfl
  case hy12 =>
    intro w' hSw
    obtain ⟨r0, r1⟩ := hSw
    go_simp
    try exact rfl
  simp only [Act.put, List.setIfInBounds_toArray, List.set_cons_zero, List.set_cons_succ]
  refine wpLate_two (i := 13) (j := 15) (o := ?o13_1) (u := ?u15_1) (by kernel_rfl) ?ho13_1 ?hu15_1 ?g13_1 ?g15_1
  case ho13_1 => (simp only [List.getElem?_toArray, List.getElem?_cons_zero, List.getElem?_cons_succ]; rfl)
  case hu15_1 => (simp only [List.getElem?_toArray, List.getElem?_cons_zero, List.getElem?_cons_succ]; rfl)
  case g13_1 =>
    intro K hK
    go_wp2_with fail
    refine hK.out _ _ (fun _ => hS0) ?_
    clear hK K
    try simp only [Act.put, List.setIfInBounds_toArray, List.set_cons_zero, List.set_cons_succ]
    refine wpLate_two (i := 14) (j := 15) (o := ?o14_2) (u := ?u15_2) (by kernel_rfl) ?ho14_2 ?hu15_2 ?g14_2 ?g15_2
    case ho14_2 => (simp only [List.getElem?_toArray, List.getElem?_cons_zero, List.getElem?_cons_succ]; rfl)
    case hu15_2 => (simp only [List.getElem?_toArray, List.getElem?_cons_zero, List.getElem?_cons_succ]; rfl)
    case g14_2 =>
      intro K hK
      go_simp
      refine (HT.out _ (Has.drew (HH.out.1.alloc _))).mono ?_
      rintro e w1 ⟨rfl, ho, hw⟩
      have hw0 : Has w1 Bp 88 cs := Has.only (Has.drew (HH.out.2.alloc _)) ho (Ne.symm hne)
      have hsz1 := ho.size
      simp only [World.size_drew, World.size_alloc] at hsz1
      refine hK.out _ _ (fun h => absurd (show false = true from h) (by decide)) ?_
      clear hK K
      try simp only [Act.put, List.setIfInBounds_toArray, List.set_cons_zero, List.set_cons_succ]
      refine wpLate_one (i := 15) (o := ?o15_3) (by kernel_rfl) ?ho15_3 ?hk15_3
      case ho15_3 => (simp only [List.getElem?_toArray, List.getElem?_cons_zero, List.getElem?_cons_succ]; rfl)
      intro K hK
      go_simp
      refine hK.out _ _ (fun h => absurd (show false = true from h) (by decide)) ?_
      clear hK K
      try simp only [Act.put, List.setIfInBounds_toArray, List.set_cons_zero, List.set_cons_succ]
      have h4 : Has w1 W.heap.size 23 #[.int .i64 0, .int .i64 0] := Has.only ((Has.new W 23 _).drew) ho (fun e : W.heap.size = q.g => by omega)
      have p4 := h4.lt
      have f4 := h4.frozen 0
      have f4a := h4.frozen 1
      have c4 : w1.cell? ⟨W.heap.size, 0, none⟩ = some (.int .i64 0) := h4.cell 0
      have c4a : w1.cell? ⟨W.heap.size, 1, none⟩ = some (.int .i64 0) := h4.cell 1
      have p0 : w1.cell? ⟨Bp, o + 1, none⟩ = some (.slice (some ⟨q.g, q.off, none⟩) (t.length + 1) q.cap) := by rw [hw0.cell, HN.out.2.2.2.2, Qu.sv, HL.out.2]
      have pf := hw0.frozen (o + 1)
      have p1 := hw0.lt
      have p2 := hw.lt
      have g0 : w1.cell? ⟨q.g, q.off, none⟩ = some (.int .i64 (s.v - n)) := by rw [hw.cell, (getElem?_set2a hX).1]; simp [takeR]
      have HO : Only (fun k => k = q.g) W w1 := Only.from_ (Only.drew (Only.alloc (Only.refl _ W) _)) ho (fun _ _ h => h)
      clear ho
      have HW := Lib.hid (And.intro hw hw0)
      clear h4 hw hw0
      refine wpLate_one (i := 16) (o := ?o16_4) (by kernel_rfl) ?ho16_4 ?hk16_4
      case ho16_4 => (simp only [List.getElem?_toArray, List.getElem?_cons_zero, List.getElem?_cons_succ]; rfl)
      intro K hK
      go_simp
      refine hK.out _ _ (fun h => absurd (show false = true from h) (by decide)) ?_
      clear hK K
      refine wpLate_done (by kernel_rfl) ?_ _
      try simp only [Act.put, List.setIfInBounds_toArray, List.set_cons_zero, List.set_cons_succ]
      have hne0 : (s.v - n == 0) = false := by simp; omega
      go_wp2
      have hgb : q.g < W.heap.size := hgl
      refine bodyPost_ret (v := slv (takeO s n)) (by simp [results, Try.results77, go_sem, takeO, c4, c4a, p4]) rfl ?_
      refine cut_fin_part HN.out.1 HN.out.2.2.2.1 HN.out.2.2.2.2 HL.out.1 (by have := HL.out.2; omega) hmx hv ?_ ?_ ?_
      · repeat (first | (with_reducible exact HW.out.1) | (with_reducible refine Has.drew ?_) | (with_reducible refine Has.alloc ?_ _) | (with_reducible refine Has.far ?_ ?_ _))
        all_goals (first | omega | (dsimp only; omega))
      · repeat (first | (with_reducible exact HW.out.2) | (with_reducible refine Has.drew ?_) | (with_reducible refine Has.alloc ?_ _) | (with_reducible refine Has.far ?_ ?_ _))
        all_goals (first | omega | (dsimp only; omega))
      · repeat (first | (with_reducible exact HO) | (with_reducible refine Only.drew ?_) | (with_reducible refine Only.alloc ?_ _) | (with_reducible refine Only.setCell ?_ ?_ _))
        all_goals exact .inr (by dsimp only; omega)
    case g15_2 =>
      intro K hK
      go_simp
      refine hK.out _ _ (fun _ => (by constructor <;> go_simp)) ?_
      clear hK K
      try simp only [Act.put, List.setIfInBounds_toArray, List.set_cons_zero, List.set_cons_succ]
      refine wpLate_one (i := 14) (o := ?o14_5) (by kernel_rfl) ?ho14_5 ?hk14_5
      case ho14_5 => (simp only [List.getElem?_toArray, List.getElem?_cons_zero, List.getElem?_cons_succ]; rfl)
      intro K hK
      go_simp
      refine (HT.out _ (Has.drew ((HH.out.1.alloc _).alloc _))).mono ?_
      rintro e w1 ⟨rfl, ho, hw⟩
      have hw0 : Has w1 Bp 88 cs := Has.only (Has.drew ((HH.out.2.alloc _).alloc _)) ho (Ne.symm hne)
      have hsz1 := ho.size
      simp only [World.size_drew, World.size_alloc] at hsz1
      refine hK.out _ _ (fun h => absurd (show false = true from h) (by decide)) ?_
      clear hK K
      try simp only [Act.put, List.setIfInBounds_toArray, List.set_cons_zero, List.set_cons_succ]
      have h4 : Has w1 W.heap.size 23 #[.int .i64 0, .int .i64 0] := Has.only (((Has.new W 23 _).alloc _).drew) ho (fun e : W.heap.size = q.g => by omega)
      have p4 := h4.lt
      have f4 := h4.frozen 0
      have f4a := h4.frozen 1
      have c4 : w1.cell? ⟨W.heap.size, 0, none⟩ = some (.int .i64 0) := h4.cell 0
      have c4a : w1.cell? ⟨W.heap.size, 1, none⟩ = some (.int .i64 0) := h4.cell 1
      have p0 : w1.cell? ⟨Bp, o + 1, none⟩ = some (.slice (some ⟨q.g, q.off, none⟩) (t.length + 1) q.cap) := by rw [hw0.cell, HN.out.2.2.2.2, Qu.sv, HL.out.2]
      have pf := hw0.frozen (o + 1)
      have p1 := hw0.lt
      have p2 := hw.lt
      have g0 : w1.cell? ⟨q.g, q.off, none⟩ = some (.int .i64 (s.v - n)) := by rw [hw.cell, (getElem?_set2a hX).1]; simp [takeR]
      have h5 : Has w1 (W.heap.size + 1) 23 #[.int .i64 0, .int .i64 0] := Has.only (Has.drew (Has.newAt (w := W.alloc (Obj.cells #[Value.int IntKind.i64 0, Value.int IntKind.i64 0] 23)) (by simp))) ho (fun e : W.heap.size + 1 = q.g => by omega)
      have p5 := h5.lt
      have f5 := h5.frozen 0
      have f5a := h5.frozen 1
      have c5 : w1.cell? ⟨W.heap.size + 1, 0, none⟩ = some (.int .i64 0) := h5.cell 0
      have c5a : w1.cell? ⟨W.heap.size + 1, 1, none⟩ = some (.int .i64 0) := h5.cell 1
      have HO : Only (fun k => k = q.g) W w1 := Only.from_ (Only.drew (Only.alloc (Only.alloc (Only.refl _ W) _) _)) ho (fun _ _ h => h)
      clear ho
      have HW := Lib.hid (And.intro hw hw0)
      clear h4 hw hw0 h5
      refine wpLate_one (i := 16) (o := ?o16_6) (by kernel_rfl) ?ho16_6 ?hk16_6
      case ho16_6 => (simp only [List.getElem?_toArray, List.getElem?_cons_zero, List.getElem?_cons_succ]; rfl)
      intro K hK
      go_simp
      refine hK.out _ _ (fun h => absurd (show false = true from h) (by decide)) ?_
      clear hK K
      refine wpLate_done (by kernel_rfl) ?_ _
      try simp only [Act.put, List.setIfInBounds_toArray, List.set_cons_zero, List.set_cons_succ]
      have hne0 : (s.v - n == 0) = false := by simp; omega
      go_wp2
      have hgb : q.g < W.heap.size := hgl
      refine bodyPost_ret (v := slv (takeO s n)) (by simp [results, Try.results77, go_sem, takeO, c4, c4a]) rfl ?_
      refine cut_fin_part HN.out.1 HN.out.2.2.2.1 HN.out.2.2.2.2 HL.out.1 (by have := HL.out.2; omega) hmx hv ?_ ?_ ?_
      · repeat (first | (with_reducible exact HW.out.1) | (with_reducible refine Has.drew ?_) | (with_reducible refine Has.alloc ?_ _) | (with_reducible refine Has.far ?_ ?_ _))
        all_goals (first | omega | (dsimp only; omega))
      · repeat (first | (with_reducible exact HW.out.2) | (with_reducible refine Has.drew ?_) | (with_reducible refine Has.alloc ?_ _) | (with_reducible refine Has.far ?_ ?_ _))
        all_goals (first | omega | (dsimp only; omega))
      · repeat (first | (with_reducible exact HO) | (with_reducible refine Only.drew ?_) | (with_reducible refine Only.alloc ?_ _) | (with_reducible refine Only.setCell ?_ ?_ _))
        all_goals exact .inr (by dsimp only; omega)
  case g15_1 =>
    intro K hK
    go_simp
    refine hK.out _ _ (fun _ => (by constructor <;> go_simp)) ?_
    clear hK K
    try simp only [Act.put, List.setIfInBounds_toArray, List.set_cons_zero, List.set_cons_succ]
    refine wpLate_one (i := 13) (o := ?o13_7) (by kernel_rfl) ?ho13_7 ?hk13_7
    case ho13_7 => (simp only [List.getElem?_toArray, List.getElem?_cons_zero, List.getElem?_cons_succ]; rfl)
    intro K hK
    go_wp2_with fail
    refine hK.out _ _ (fun _ => (by constructor <;> go_simp)) ?_
    clear hK K
    try simp only [Act.put, List.setIfInBounds_toArray, List.set_cons_zero, List.set_cons_succ]
    refine wpLate_one (i := 14) (o := ?o14_8) (by kernel_rfl) ?ho14_8 ?hk14_8
    case ho14_8 => (simp only [List.getElem?_toArray, List.getElem?_cons_zero, List.getElem?_cons_succ]; rfl)
    intro K hK
    go_simp
    refine (HT.out _ (Has.drew ((HH.out.1.alloc _).alloc _))).mono ?_
    rintro e w1 ⟨rfl, ho, hw⟩
    have hw0 : Has w1 Bp 88 cs := Has.only (Has.drew ((HH.out.2.alloc _).alloc _)) ho (Ne.symm hne)
    have hsz1 := ho.size
    simp only [World.size_drew, World.size_alloc] at hsz1
    refine hK.out _ _ (fun h => absurd (show false = true from h) (by decide)) ?_
    clear hK K
    try simp only [Act.put, List.setIfInBounds_toArray, List.set_cons_zero, List.set_cons_succ]
    have h4 : Has w1 W.heap.size 23 #[.int .i64 0, .int .i64 0] := Has.only (((Has.new W 23 _).alloc _).drew) ho (fun e : W.heap.size = q.g => by omega)
    have p4 := h4.lt
    have f4 := h4.frozen 0
    have f4a := h4.frozen 1
    have c4 : w1.cell? ⟨W.heap.size, 0, none⟩ = some (.int .i64 0) := h4.cell 0
    have c4a : w1.cell? ⟨W.heap.size, 1, none⟩ = some (.int .i64 0) := h4.cell 1
    have p0 : w1.cell? ⟨Bp, o + 1, none⟩ = some (.slice (some ⟨q.g, q.off, none⟩) (t.length + 1) q.cap) := by rw [hw0.cell, HN.out.2.2.2.2, Qu.sv, HL.out.2]
    have pf := hw0.frozen (o + 1)
    have p1 := hw0.lt
    have p2 := hw.lt
    have g0 : w1.cell? ⟨q.g, q.off, none⟩ = some (.int .i64 (s.v - n)) := by rw [hw.cell, (getElem?_set2a hX).1]; simp [takeR]
    have h5 : Has w1 (W.heap.size + 1) 23 #[.int .i64 0, .int .i64 0] := Has.only (Has.drew (Has.newAt (w := W.alloc (Obj.cells #[Value.int IntKind.i64 0, Value.int IntKind.i64 0] 23)) (by simp))) ho (fun e : W.heap.size + 1 = q.g => by omega)
    have p5 := h5.lt
    have f5 := h5.frozen 0
    have f5a := h5.frozen 1
    have c5 : w1.cell? ⟨W.heap.size + 1, 0, none⟩ = some (.int .i64 0) := h5.cell 0
    have c5a : w1.cell? ⟨W.heap.size + 1, 1, none⟩ = some (.int .i64 0) := h5.cell 1
    have HO : Only (fun k => k = q.g) W w1 := Only.from_ (Only.drew (Only.alloc (Only.alloc (Only.refl _ W) _) _)) ho (fun _ _ h => h)
    clear ho
    have HW := Lib.hid (And.intro hw hw0)
    clear h4 hw hw0 h5
    refine wpLate_one (i := 16) (o := ?o16_9) (by kernel_rfl) ?ho16_9 ?hk16_9
    case ho16_9 => (simp only [List.getElem?_toArray, List.getElem?_cons_zero, List.getElem?_cons_succ]; rfl)
    intro K hK
    go_simp
    refine hK.out _ _ (fun h => absurd (show false = true from h) (by decide)) ?_
    clear hK K
    refine wpLate_done (by kernel_rfl) ?_ _
    try simp only [Act.put, List.setIfInBounds_toArray, List.set_cons_zero, List.set_cons_succ]
    have hne0 : (s.v - n == 0) = false := by simp; omega
    go_wp2
    have hgb : q.g < W.heap.size := hgl
    refine bodyPost_ret (v := slv (takeO s n)) (by simp [results, Try.results77, go_sem, takeO, c4, c4a]) rfl ?_
    refine cut_fin_part HN.out.1 HN.out.2.2.2.1 HN.out.2.2.2.2 HL.out.1 (by have := HL.out.2; omega) hmx hv ?_ ?_ ?_
    · repeat (first | (with_reducible exact HW.out.1) | (with_reducible refine Has.drew ?_) | (with_reducible refine Has.alloc ?_ _) | (with_reducible refine Has.far ?_ ?_ _))
      all_goals (first | omega | (dsimp only; omega))
    · repeat (first | (with_reducible exact HW.out.2) | (with_reducible refine Has.drew ?_) | (with_reducible refine Has.alloc ?_ _) | (with_reducible refine Has.far ?_ ?_ _))
      all_goals (first | omega | (dsimp only; omega))
    · repeat (first | (with_reducible exact HO) | (with_reducible refine Only.drew ?_) | (with_reducible refine Only.alloc ?_ _) | (with_reducible refine Only.setCell ?_ ?_ _))
      all_goals exact .inr (by dsimp only; omega)
set_option maxRecDepth 100000 in
set_option maxHeartbeats 4000000 in
theorem cut_whole (Bp o : Nat) (cs : Array Value) (q : Qu) (n : Int) (s : Sl) (t : List Sl) (W : World) (hp : Has W Bp 88 cs) (hc : cs[o + 1]? = some q.sv) (hq : QHas W q) (hl : q.l = s :: t)
    (hne : q.g ≠ Bp) (hs : okS s) (hb : s.h ≤ 2199023255552) (_h1 : 1 ≤ n) (h3 : s.v ≤ 2097152) (hv : s.v < n) :
    Calls Try.prog 77 #[.pointer (some ⟨Bp, o, none⟩), iv n] W (CutPost Bp o cs q n s t W) := by
  obtain ⟨cur, hh, hsz, hcs⟩ := hq.blk
  have hlen : q.l.length = t.length + 1 := by rw [hl]; rfl
  have hle := hq.le
  have hmx := hq.mx
  have c01 := hcs 0 (by omega)
  have e0 : q.l[0]'(by omega) = s := by simp [hl]
  rw [e0] at c01
  simp only [Nat.zero_mul, Nat.add_zero] at c01
  have d0 : W.cell? ⟨Bp, o + 1, none⟩ = some (.slice (some ⟨q.g, q.off, none⟩) (t.length + 1) q.cap) := (hp.cell _).trans (by rw [hc, Qu.sv, hlen])
  have d1 : W.cell? ⟨q.g, q.off, none⟩ = some (.int .i64 s.v) := (hh.cell _).trans c01.1
  have f0 := hp.frozen (o + 1)
  have hgl := hh.lt
  have hpl := hp.lt
  have hT := fun W1 (h : Has W1 q.g 23 cur) => take_any q.g q.off 23 cur s s.v W1 h c01.1 c01.2 hs hb hs.1 (Int.le_refl _) h3
  have HT := Lib.hid hT
  have HH := Lib.hid (And.intro hh hp)
  have HN := Lib.hid (And.intro hcs (And.intro hs (And.intro c01 (And.intro hsz hc))))
  have HL := Lib.hid (And.intro hl hlen)
  have hX : q.off + 1 < cur.size := by have := hq.le; omega
  clear e0 hT hh hp hcs hs hb h3 hq hsz c01 hc hl hlen
  have hcap : 1 ≤ q.cap := by have := HL.out.2; omega
  have hcl : t.length + 1 ≤ q.cap := by have := HL.out.2; omega
  unfold maxLen at hmx
  clear hle
  have hoff : q.off ≠ q.off + 1 := by omega
  go_enter Try.func77, Try.ntmps77
  go_wp2
  have hS0 : (fun w' : World => w'.cell? ⟨Bp, o + 1, none⟩ = some (.slice (some ⟨q.g, q.off, none⟩) (t.length + 1) q.cap) ∧ w'.cell? ⟨q.g, q.off, none⟩ = some (.int .i64 s.v)) (W.alloc (Obj.cells #[Value.int IntKind.i64 0, Value.int IntKind.i64 0] 23)).drew := by constructor <;> go_simp
  refine wp_region_late (fun w' : World => w'.cell? ⟨Bp, o + 1, none⟩ = some (.slice (some ⟨q.g, q.off, none⟩) (t.length + 1) q.cap) ∧ w'.cell? ⟨q.g, q.off, none⟩ = some (.int .i64 s.v)) [14, 16] (by kernel_rfl) ?_
  refine wpLate_take (i := 0) (oi := ?oi0) (v := ?v0) [1, 2, 3, 4, 14, 16] ?hi0 (by kernel_rfl) (by kernel_rfl) (by kernel_rfl) (by kernel_rfl) (by kernel_rfl) ?hQ0 (Or.inl ⟨?hw0, ?hy0⟩) hS0 ?rest0
  case hi0 => (simp only [List.getElem?_toArray, List.getElem?_cons_zero]; rfl)
  case hQ0 => exact fun _ _ _ h => h
  case hw0 => rfl
  case hy0 =>
    intro w' hSw
    obtain ⟨r0, r1⟩ := hSw
    go_simp
    try exact rfl
  simp only [Act.put, List.setIfInBounds_toArray, List.set_cons_zero, List.set_cons_succ]
  refine wpLate_take (i := 1) (oi := ?oi1) (v := ?v1) [2, 3, 4, 14, 16] ?hi1 (by kernel_rfl) (by kernel_rfl) (by kernel_rfl) (by kernel_rfl) (by kernel_rfl) ?hQ1 (Or.inl ⟨?hw1, ?hy1⟩) hS0 ?rest1
  case hi1 => (simp only [List.getElem?_toArray, List.getElem?_cons_zero, List.getElem?_cons_succ]; rfl)
  case hQ1 => exact fun _ _ _ h => h
  case hw1 => rfl
  case hy1 =>
    intro w' hSw
    obtain ⟨r0, r1⟩ := hSw
    go_simp
    try exact rfl
  simp only [Act.put, List.setIfInBounds_toArray, List.set_cons_zero, List.set_cons_succ]
  refine wpLate_take (i := 2) (oi := ?oi2) (v := ?v2) [3, 4, 14, 16] ?hi2 (by kernel_rfl) (by kernel_rfl) (by kernel_rfl) (by kernel_rfl) (by kernel_rfl) ?hQ2 (Or.inl ⟨?hw2, ?hy2⟩) hS0 ?rest2
  case hi2 => (simp only [List.getElem?_toArray, List.getElem?_cons_zero, List.getElem?_cons_succ]; rfl)
  case hQ2 => exact fun _ _ _ h => h
  case hw2 => rfl
  case hy2 =>
    intro w' hSw
    obtain ⟨r0, r1⟩ := hSw
    go_simp
    try exact rfl
  simp only [Act.put, List.setIfInBounds_toArray, List.set_cons_zero, List.set_cons_succ]
  refine wpLate_take (i := 3) (oi := ?oi3) (v := ?v3) [4, 14, 16] ?hi3 (by kernel_rfl) (by kernel_rfl) (by kernel_rfl) (by kernel_rfl) (by kernel_rfl) ?hQ3 (Or.inl ⟨?hw3, ?hy3⟩) hS0 ?rest3
  case hi3 => (simp only [List.getElem?_toArray, List.getElem?_cons_zero, List.getElem?_cons_succ]; rfl)
  case hQ3 => exact fun _ _ _ h => h
  case hw3 => rfl
  case hy3 =>
    intro w' hSw
    obtain ⟨r0, r1⟩ := hSw
    go_simp
    try exact rfl
  simp only [Act.put, List.setIfInBounds_toArray, List.set_cons_zero, List.set_cons_succ]
  refine wpLate_take (i := 4) (oi := ?oi4) (v := ?v4) [14, 16] ?hi4 (by kernel_rfl) (by kernel_rfl) (by kernel_rfl) (by kernel_rfl) (by kernel_rfl) ?hQ4 (Or.inl ⟨?hw4, ?hy4⟩) hS0 ?rest4
  case hi4 => (simp only [List.getElem?_toArray, List.getElem?_cons_zero, List.getElem?_cons_succ]; rfl)
  case hQ4 => exact fun _ _ _ h => h
  case hw4 => rfl
  case hy4 =>
    intro w' hSw
    obtain ⟨r0, r1⟩ := hSw
    go_simp
    try exact rfl
  simp only [Act.put, List.setIfInBounds_toArray, List.set_cons_zero, List.set_cons_succ]
  refine wpLate_take (i := 5) (oi := ?oi5) (v := ?v5) [13, 14, 16] ?hi5 (by kernel_rfl) (by kernel_rfl) (by kernel_rfl) (by kernel_rfl) (by kernel_rfl) ?hQ5 (Or.inl ⟨?hw5, ?hy5⟩) hS0 ?rest5
  case hi5 => (simp only [List.getElem?_toArray, List.getElem?_cons_zero, List.getElem?_cons_succ]; rfl)
  case hQ5 => exact fun _ _ _ h => h
  case hw5 => rfl
  case hy5 =>
    intro w' hSw
    obtain ⟨r0, r1⟩ := hSw
    go_simp
    try exact rfl
  simp only [Act.put, List.setIfInBounds_toArray, List.set_cons_zero, List.set_cons_succ]
  refine wpLate_take (i := 6) (oi := ?oi6) (v := ?v6) [7, 8, 9, 10, 11, 12, 13, 14, 16] ?hi6 (by kernel_rfl) (by kernel_rfl) (by kernel_rfl) (by kernel_rfl) (by kernel_rfl) ?hQ6 (Or.inl ⟨?hw6, ?hy6⟩) hS0 ?rest6
  case hi6 => (simp only [List.getElem?_toArray, List.getElem?_cons_zero, List.getElem?_cons_succ]; rfl)
  case hQ6 => exact fun _ _ _ h => h
  case hw6 => rfl
  case hy6 =>
    intro w' hSw
    obtain ⟨r0, r1⟩ := hSw
    go_simp
    try exact rfl
  simp only [Act.put, List.setIfInBounds_toArray, List.set_cons_zero, List.set_cons_succ]
  refine wpLate_take (i := 7) (oi := ?oi7) (v := ?v7) [8, 9, 10, 11, 12, 13, 14, 16] ?hi7 (by kernel_rfl) (by kernel_rfl) (by kernel_rfl) (by kernel_rfl) (by kernel_rfl) ?hQ7 (Or.inl ⟨?hw7, ?hy7⟩) hS0 ?rest7
  case hi7 => (simp only [List.getElem?_toArray, List.getElem?_cons_zero, List.getElem?_cons_succ]; rfl)
  case hQ7 => exact fun _ _ _ h => h
  case hw7 => rfl
  case hy7 =>
    intro w' hSw
    obtain ⟨r0, r1⟩ := hSw
    go_simp
    try exact rfl
  simp only [Act.put, List.setIfInBounds_toArray, List.set_cons_zero, List.set_cons_succ]
  refine wpLate_take (i := 8) (oi := ?oi8) (v := ?v8) [9, 10, 11, 12, 13, 14, 16] ?hi8 (by kernel_rfl) (by kernel_rfl) (by kernel_rfl) (by kernel_rfl) (by kernel_rfl) ?hQ8 (Or.inl ⟨?hw8, ?hy8⟩) hS0 ?rest8
  case hi8 => (simp only [List.getElem?_toArray, List.getElem?_cons_zero, List.getElem?_cons_succ]; rfl)
  case hQ8 => exact fun _ _ _ h => h
  case hw8 => rfl
  case hy8 =>
    intro w' hSw
    obtain ⟨r0, r1⟩ := hSw
    go_simp
    try exact rfl
  simp only [Act.put, List.setIfInBounds_toArray, List.set_cons_zero, List.set_cons_succ]
  refine wpLate_take (i := 9) (oi := ?oi9) (v := ?v9) [10, 11, 12, 13, 14, 16] ?hi9 (by kernel_rfl) (by kernel_rfl) (by kernel_rfl) (by kernel_rfl) (by kernel_rfl) ?hQ9 (Or.inl ⟨?hw9, ?hy9⟩) hS0 ?rest9
  case hi9 => (simp only [List.getElem?_toArray, List.getElem?_cons_zero, List.getElem?_cons_succ]; rfl)
  case hQ9 => exact fun _ _ _ h => h
  case hw9 => rfl
  case hy9 =>
    intro w' hSw
    obtain ⟨r0, r1⟩ := hSw
    go_simp
    try exact rfl
  simp only [Act.put, List.setIfInBounds_toArray, List.set_cons_zero, List.set_cons_succ]
  refine wpLate_take (i := 10) (oi := ?oi10) (v := ?v10) [11, 12, 13, 14, 16] ?hi10 (by kernel_rfl) (by kernel_rfl) (by kernel_rfl) (by kernel_rfl) (by kernel_rfl) ?hQ10 (Or.inl ⟨?hw10, ?hy10⟩) hS0 ?rest10
  case hi10 => (simp only [List.getElem?_toArray, List.getElem?_cons_zero, List.getElem?_cons_succ]; rfl)
  case hQ10 => exact fun _ _ _ h => h
  case hw10 => rfl
  case hy10 =>
    intro w' hSw
    obtain ⟨r0, r1⟩ := hSw
    go_simp
    try exact rfl
  simp only [Act.put, List.setIfInBounds_toArray, List.set_cons_zero, List.set_cons_succ]
  refine wpLate_take (i := 11) (oi := ?oi11) (v := ?v11) [12, 13, 14, 16] ?hi11 (by kernel_rfl) (by kernel_rfl) (by kernel_rfl) (by kernel_rfl) (by kernel_rfl) ?hQ11 (Or.inl ⟨?hw11, ?hy11⟩) hS0 ?rest11
  case hi11 => (simp only [List.getElem?_toArray, List.getElem?_cons_zero, List.getElem?_cons_succ]; rfl)
  case hQ11 => exact fun _ _ _ h => h
  case hw11 => rfl
  case hy11 =>
    intro w' hSw
    obtain ⟨r0, r1⟩ := hSw
    go_simp
    try exact rfl
  simp only [Act.put, List.setIfInBounds_toArray, List.set_cons_zero, List.set_cons_succ]
  refine wpLate_take (i := 12) (oi := ?oi12) (v := ?v12) [13, 14, 16] ?hi12 (by kernel_rfl) (by kernel_rfl) (by kernel_rfl) (by kernel_rfl) (by kernel_rfl) ?hQ12 (Or.inl ⟨?hw12, ?hy12⟩) hS0 ?rest12
  case hi12 => (simp only [List.getElem?_toArray, List.getElem?_cons_zero, List.getElem?_cons_succ]; rfl)
  case hQ12 => exact fun _ _ _ h => h
  case hw12 => rfl
  case hy12 =>
    intro w' hSw
    obtain ⟨r0, r1⟩ := hSw
    go_simp
    try exact rfl
  simp only [Act.put, List.setIfInBounds_toArray, List.set_cons_zero, List.set_cons_succ]
  refine wpLate_two (i := 13) (j := 15) (o := ?o13_1) (u := ?u15_1) (by kernel_rfl) ?ho13_1 ?hu15_1 ?g13_1 ?g15_1
  case ho13_1 => (simp only [List.getElem?_toArray, List.getElem?_cons_zero, List.getElem?_cons_succ]; rfl)
  case hu15_1 => (simp only [List.getElem?_toArray, List.getElem?_cons_zero, List.getElem?_cons_succ]; rfl)
  case g13_1 =>
    intro K hK
    go_wp2_with fail
    refine hK.out _ _ (fun _ => hS0) ?_
    clear hK K
    try simp only [Act.put, List.setIfInBounds_toArray, List.set_cons_zero, List.set_cons_succ]
    refine wpLate_two (i := 14) (j := 15) (o := ?o14_2) (u := ?u15_2) (by kernel_rfl) ?ho14_2 ?hu15_2 ?g14_2 ?g15_2
    case ho14_2 => (simp only [List.getElem?_toArray, List.getElem?_cons_zero, List.getElem?_cons_succ]; rfl)
    case hu15_2 => (simp only [List.getElem?_toArray, List.getElem?_cons_zero, List.getElem?_cons_succ]; rfl)
    case g14_2 =>
      intro K hK
      go_simp
      refine (HT.out _ (Has.drew (HH.out.1.alloc _))).mono ?_
      rintro e w1 ⟨rfl, ho, hw⟩
      have hw0 : Has w1 Bp 88 cs := Has.only (Has.drew (HH.out.2.alloc _)) ho (Ne.symm hne)
      have hsz1 := ho.size
      simp only [World.size_drew, World.size_alloc] at hsz1
      refine hK.out _ _ (fun h => absurd (show false = true from h) (by decide)) ?_
      clear hK K
      try simp only [Act.put, List.setIfInBounds_toArray, List.set_cons_zero, List.set_cons_succ]
      refine wpLate_one (i := 15) (o := ?o15_3) (by kernel_rfl) ?ho15_3 ?hk15_3
      case ho15_3 => (simp only [List.getElem?_toArray, List.getElem?_cons_zero, List.getElem?_cons_succ]; rfl)
      intro K hK
      go_simp
      refine hK.out _ _ (fun h => absurd (show false = true from h) (by decide)) ?_
      clear hK K
      try simp only [Act.put, List.setIfInBounds_toArray, List.set_cons_zero, List.set_cons_succ]
      have h4 : Has w1 W.heap.size 23 #[.int .i64 0, .int .i64 0] := Has.only ((Has.new W 23 _).drew) ho (fun e : W.heap.size = q.g => by omega)
      have p4 := h4.lt
      have f4 := h4.frozen 0
      have f4a := h4.frozen 1
      have c4 : w1.cell? ⟨W.heap.size, 0, none⟩ = some (.int .i64 0) := h4.cell 0
      have c4a : w1.cell? ⟨W.heap.size, 1, none⟩ = some (.int .i64 0) := h4.cell 1
      have p0 : w1.cell? ⟨Bp, o + 1, none⟩ = some (.slice (some ⟨q.g, q.off, none⟩) (t.length + 1) q.cap) := by rw [hw0.cell, HN.out.2.2.2.2, Qu.sv, HL.out.2]
      have pf := hw0.frozen (o + 1)
      have p1 := hw0.lt
      have p2 := hw.lt
      have g0 : w1.cell? ⟨q.g, q.off, none⟩ = some (.int .i64 0) := by rw [hw.cell, (getElem?_set2a hX).1]; simp [takeR]
      have HO : Only (fun k => k = q.g) W w1 := Only.from_ (Only.drew (Only.alloc (Only.refl _ W) _)) ho (fun _ _ h => h)
      clear ho
      have HW := Lib.hid (And.intro hw hw0)
      clear h4 hw hw0
      refine wpLate_one (i := 16) (o := ?o16_4) (by kernel_rfl) ?ho16_4 ?hk16_4
      case ho16_4 => (simp only [List.getElem?_toArray, List.getElem?_cons_zero, List.getElem?_cons_succ]; rfl)
      intro K hK
      go_simp
      refine hK.out _ _ (fun h => absurd (show false = true from h) (by decide)) ?_
      clear hK K
      refine wpLate_done (by kernel_rfl) ?_ _
      try simp only [Act.put, List.setIfInBounds_toArray, List.set_cons_zero, List.set_cons_succ]
      by_cases hte : t.length = 0
      · have hte1 : ((t.length : Int) + 1) = 1 := by omega
        go_wp2
        refine bodyPost_ret (v := slv (takeO s s.v)) (by simp [results, Try.results77, go_sem, c4, c4a, p4]) rfl ?_
        refine cut_fin_whole (x := .slice (some ⟨q.g, q.off, none⟩) 0 0) (y := ((cur.setIfInBounds q.off (iv (takeR s s.v).v)).setIfInBounds (q.off + 1) (iv (takeR s s.v).h))) q.off (by rw [hte]) (.inl ⟨List.eq_nil_of_length_eq_zero hte, rfl⟩) HN.out.1 HN.out.2.2.2.1 HL.out.1 (by have := HL.out.2; omega) hmx (by omega) HN.out.2.1.1 (fun i h1 h2 => getElem?_set2 i h1 h2) (by simp) ?_ ?_ ?_
        · repeat (first | (with_reducible exact HW.out.1) | (with_reducible refine Has.drew ?_) | (with_reducible refine Has.alloc ?_ _) | (with_reducible refine Has.far ?_ ?_ _))
          all_goals (first | omega | (dsimp only; omega))
        · repeat (first | (with_reducible exact HW.out.2) | (with_reducible refine Has.set ?_ _ _) | (with_reducible refine Has.drew ?_) | (with_reducible refine Has.alloc ?_ _) | (with_reducible refine Has.far ?_ ?_ _))
          all_goals (first | omega | (dsimp only; omega))
        · repeat (first | (with_reducible exact HO.mono (fun _ _ h => .inr h)) | (with_reducible refine Only.drew ?_) | (with_reducible refine Only.alloc ?_ _) | (with_reducible refine Only.setCell ?_ ?_ _))
          all_goals (first | exact .inl (.inl rfl) | exact .inr (by dsimp only; omega))
      · go_wp2
        refine bodyPost_ret (v := slv (takeO s s.v)) (by simp [results, Try.results77, go_sem, c4, c4a, p4]) rfl ?_
        refine cut_fin_whole (x := .slice (some ⟨q.g, q.off + 2, none⟩) t.length t.length) (y := ((cur.setIfInBounds q.off (iv (takeR s s.v).v)).setIfInBounds (q.off + 1) (iv (takeR s s.v).h))) (q.off + 2) rfl (.inr rfl) HN.out.1 HN.out.2.2.2.1 HL.out.1 (by have := HL.out.2; omega) hmx (by omega) HN.out.2.1.1 (fun i h1 h2 => getElem?_set2 i h1 h2) (by simp) ?_ ?_ ?_
        · repeat (first | (with_reducible exact HW.out.1) | (with_reducible refine Has.drew ?_) | (with_reducible refine Has.alloc ?_ _) | (with_reducible refine Has.far ?_ ?_ _))
          all_goals (first | omega | (dsimp only; omega))
        · repeat (first | (with_reducible exact HW.out.2) | (with_reducible refine Has.set ?_ _ _) | (with_reducible refine Has.drew ?_) | (with_reducible refine Has.alloc ?_ _) | (with_reducible refine Has.far ?_ ?_ _))
          all_goals (first | omega | (dsimp only; omega))
        · repeat (first | (with_reducible exact HO.mono (fun _ _ h => .inr h)) | (with_reducible refine Only.drew ?_) | (with_reducible refine Only.alloc ?_ _) | (with_reducible refine Only.setCell ?_ ?_ _))
          all_goals (first | exact .inl (.inl rfl) | exact .inr (by dsimp only; omega))
    case g15_2 =>
      intro K hK
      go_simp
      refine hK.out _ _ (fun _ => (by constructor <;> go_simp)) ?_
      clear hK K
      try simp only [Act.put, List.setIfInBounds_toArray, List.set_cons_zero, List.set_cons_succ]
      refine wpLate_one (i := 14) (o := ?o14_5) (by kernel_rfl) ?ho14_5 ?hk14_5
      case ho14_5 => (simp only [List.getElem?_toArray, List.getElem?_cons_zero, List.getElem?_cons_succ]; rfl)
      intro K hK
      go_simp
      refine (HT.out _ (Has.drew ((HH.out.1.alloc _).alloc _))).mono ?_
      rintro e w1 ⟨rfl, ho, hw⟩
      have hw0 : Has w1 Bp 88 cs := Has.only (Has.drew ((HH.out.2.alloc _).alloc _)) ho (Ne.symm hne)
      have hsz1 := ho.size
      simp only [World.size_drew, World.size_alloc] at hsz1
      refine hK.out _ _ (fun h => absurd (show false = true from h) (by decide)) ?_
      clear hK K
      try simp only [Act.put, List.setIfInBounds_toArray, List.set_cons_zero, List.set_cons_succ]
      have h4 : Has w1 W.heap.size 23 #[.int .i64 0, .int .i64 0] := Has.only (((Has.new W 23 _).alloc _).drew) ho (fun e : W.heap.size = q.g => by omega)
      have p4 := h4.lt
      have f4 := h4.frozen 0
      have f4a := h4.frozen 1
      have c4 : w1.cell? ⟨W.heap.size, 0, none⟩ = some (.int .i64 0) := h4.cell 0
      have c4a : w1.cell? ⟨W.heap.size, 1, none⟩ = some (.int .i64 0) := h4.cell 1
      have p0 : w1.cell? ⟨Bp, o + 1, none⟩ = some (.slice (some ⟨q.g, q.off, none⟩) (t.length + 1) q.cap) := by rw [hw0.cell, HN.out.2.2.2.2, Qu.sv, HL.out.2]
      have pf := hw0.frozen (o + 1)
      have p1 := hw0.lt
      have p2 := hw.lt
      have g0 : w1.cell? ⟨q.g, q.off, none⟩ = some (.int .i64 0) := by rw [hw.cell, (getElem?_set2a hX).1]; simp [takeR]
      have h5 : Has w1 (W.heap.size + 1) 23 #[.int .i64 0, .int .i64 0] := Has.only (Has.drew (Has.newAt (w := W.alloc (Obj.cells #[Value.int IntKind.i64 0, Value.int IntKind.i64 0] 23)) (by simp))) ho (fun e : W.heap.size + 1 = q.g => by omega)
      have p5 := h5.lt
      have f5 := h5.frozen 0
      have f5a := h5.frozen 1
      have c5 : w1.cell? ⟨W.heap.size + 1, 0, none⟩ = some (.int .i64 0) := h5.cell 0
      have c5a : w1.cell? ⟨W.heap.size + 1, 1, none⟩ = some (.int .i64 0) := h5.cell 1
      have HO : Only (fun k => k = q.g) W w1 := Only.from_ (Only.drew (Only.alloc (Only.alloc (Only.refl _ W) _) _)) ho (fun _ _ h => h)
      clear ho
      have HW := Lib.hid (And.intro hw hw0)
      clear h4 hw hw0 h5
      refine wpLate_one (i := 16) (o := ?o16_6) (by kernel_rfl) ?ho16_6 ?hk16_6
      case ho16_6 => (simp only [List.getElem?_toArray, List.getElem?_cons_zero, List.getElem?_cons_succ]; rfl)
      intro K hK
      go_simp
      refine hK.out _ _ (fun h => absurd (show false = true from h) (by decide)) ?_
      clear hK K
      refine wpLate_done (by kernel_rfl) ?_ _
      try simp only [Act.put, List.setIfInBounds_toArray, List.set_cons_zero, List.set_cons_succ]
      by_cases hte : t.length = 0
      · have hte1 : ((t.length : Int) + 1) = 1 := by omega
        go_wp2
        refine bodyPost_ret (v := slv (takeO s s.v)) (by simp [results, Try.results77, go_sem, c4, c4a]) rfl ?_
        refine cut_fin_whole (x := .slice (some ⟨q.g, q.off, none⟩) 0 0) (y := ((cur.setIfInBounds q.off (iv (takeR s s.v).v)).setIfInBounds (q.off + 1) (iv (takeR s s.v).h))) q.off (by rw [hte]) (.inl ⟨List.eq_nil_of_length_eq_zero hte, rfl⟩) HN.out.1 HN.out.2.2.2.1 HL.out.1 (by have := HL.out.2; omega) hmx (by omega) HN.out.2.1.1 (fun i h1 h2 => getElem?_set2 i h1 h2) (by simp) ?_ ?_ ?_
        · repeat (first | (with_reducible exact HW.out.1) | (with_reducible refine Has.drew ?_) | (with_reducible refine Has.alloc ?_ _) | (with_reducible refine Has.far ?_ ?_ _))
          all_goals (first | omega | (dsimp only; omega))
        · repeat (first | (with_reducible exact HW.out.2) | (with_reducible refine Has.set ?_ _ _) | (with_reducible refine Has.drew ?_) | (with_reducible refine Has.alloc ?_ _) | (with_reducible refine Has.far ?_ ?_ _))
          all_goals (first | omega | (dsimp only; omega))
        · repeat (first | (with_reducible exact HO.mono (fun _ _ h => .inr h)) | (with_reducible refine Only.drew ?_) | (with_reducible refine Only.alloc ?_ _) | (with_reducible refine Only.setCell ?_ ?_ _))
          all_goals (first | exact .inl (.inl rfl) | exact .inr (by dsimp only; omega))
      · go_wp2
        refine bodyPost_ret (v := slv (takeO s s.v)) (by simp [results, Try.results77, go_sem, c4, c4a]) rfl ?_
        refine cut_fin_whole (x := .slice (some ⟨q.g, q.off + 2, none⟩) t.length t.length) (y := ((cur.setIfInBounds q.off (iv (takeR s s.v).v)).setIfInBounds (q.off + 1) (iv (takeR s s.v).h))) (q.off + 2) rfl (.inr rfl) HN.out.1 HN.out.2.2.2.1 HL.out.1 (by have := HL.out.2; omega) hmx (by omega) HN.out.2.1.1 (fun i h1 h2 => getElem?_set2 i h1 h2) (by simp) ?_ ?_ ?_
        · repeat (first | (with_reducible exact HW.out.1) | (with_reducible refine Has.drew ?_) | (with_reducible refine Has.alloc ?_ _) | (with_reducible refine Has.far ?_ ?_ _))
          all_goals (first | omega | (dsimp only; omega))
        · repeat (first | (with_reducible exact HW.out.2) | (with_reducible refine Has.set ?_ _ _) | (with_reducible refine Has.drew ?_) | (with_reducible refine Has.alloc ?_ _) | (with_reducible refine Has.far ?_ ?_ _))
          all_goals (first | omega | (dsimp only; omega))
        · repeat (first | (with_reducible exact HO.mono (fun _ _ h => .inr h)) | (with_reducible refine Only.drew ?_) | (with_reducible refine Only.alloc ?_ _) | (with_reducible refine Only.setCell ?_ ?_ _))
          all_goals (first | exact .inl (.inl rfl) | exact .inr (by dsimp only; omega))
  case g15_1 =>
    intro K hK
    go_simp
    refine hK.out _ _ (fun _ => (by constructor <;> go_simp)) ?_
    clear hK K
    try simp only [Act.put, List.setIfInBounds_toArray, List.set_cons_zero, List.set_cons_succ]
    refine wpLate_one (i := 13) (o := ?o13_7) (by kernel_rfl) ?ho13_7 ?hk13_7
    case ho13_7 => (simp only [List.getElem?_toArray, List.getElem?_cons_zero, List.getElem?_cons_succ]; rfl)
    intro K hK
    go_wp2_with fail
    refine hK.out _ _ (fun _ => (by constructor <;> go_simp)) ?_
    clear hK K
    try simp only [Act.put, List.setIfInBounds_toArray, List.set_cons_zero, List.set_cons_succ]
    refine wpLate_one (i := 14) (o := ?o14_8) (by kernel_rfl) ?ho14_8 ?hk14_8
    case ho14_8 => (simp only [List.getElem?_toArray, List.getElem?_cons_zero, List.getElem?_cons_succ]; rfl)
    intro K hK
    go_simp
    refine (HT.out _ (Has.drew ((HH.out.1.alloc _).alloc _))).mono ?_
    rintro e w1 ⟨rfl, ho, hw⟩
    have hw0 : Has w1 Bp 88 cs := Has.only (Has.drew ((HH.out.2.alloc _).alloc _)) ho (Ne.symm hne)
    have hsz1 := ho.size
    simp only [World.size_drew, World.size_alloc] at hsz1
    refine hK.out _ _ (fun h => absurd (show false = true from h) (by decide)) ?_
    clear hK K
    try simp only [Act.put, List.setIfInBounds_toArray, List.set_cons_zero, List.set_cons_succ]
    have h4 : Has w1 W.heap.size 23 #[.int .i64 0, .int .i64 0] := Has.only (((Has.new W 23 _).alloc _).drew) ho (fun e : W.heap.size = q.g => by omega)
    have p4 := h4.lt
    have f4 := h4.frozen 0
    have f4a := h4.frozen 1
    have c4 : w1.cell? ⟨W.heap.size, 0, none⟩ = some (.int .i64 0) := h4.cell 0
    have c4a : w1.cell? ⟨W.heap.size, 1, none⟩ = some (.int .i64 0) := h4.cell 1
    have p0 : w1.cell? ⟨Bp, o + 1, none⟩ = some (.slice (some ⟨q.g, q.off, none⟩) (t.length + 1) q.cap) := by rw [hw0.cell, HN.out.2.2.2.2, Qu.sv, HL.out.2]
    have pf := hw0.frozen (o + 1)
    have p1 := hw0.lt
    have p2 := hw.lt
    have g0 : w1.cell? ⟨q.g, q.off, none⟩ = some (.int .i64 0) := by rw [hw.cell, (getElem?_set2a hX).1]; simp [takeR]
    have h5 : Has w1 (W.heap.size + 1) 23 #[.int .i64 0, .int .i64 0] := Has.only (Has.drew (Has.newAt (w := W.alloc (Obj.cells #[Value.int IntKind.i64 0, Value.int IntKind.i64 0] 23)) (by simp))) ho (fun e : W.heap.size + 1 = q.g => by omega)
    have p5 := h5.lt
    have f5 := h5.frozen 0
    have f5a := h5.frozen 1
    have c5 : w1.cell? ⟨W.heap.size + 1, 0, none⟩ = some (.int .i64 0) := h5.cell 0
    have c5a : w1.cell? ⟨W.heap.size + 1, 1, none⟩ = some (.int .i64 0) := h5.cell 1
    have HO : Only (fun k => k = q.g) W w1 := Only.from_ (Only.drew (Only.alloc (Only.alloc (Only.refl _ W) _) _)) ho (fun _ _ h => h)
    clear ho
    have HW := Lib.hid (And.intro hw hw0)
    clear h4 hw hw0 h5
    refine wpLate_one (i := 16) (o := ?o16_9) (by kernel_rfl) ?ho16_9 ?hk16_9
    case ho16_9 => (simp only [List.getElem?_toArray, List.getElem?_cons_zero, List.getElem?_cons_succ]; rfl)
    intro K hK
    go_simp
    refine hK.out _ _ (fun h => absurd (show false = true from h) (by decide)) ?_
    clear hK K
    refine wpLate_done (by kernel_rfl) ?_ _
    try simp only [Act.put, List.setIfInBounds_toArray, List.set_cons_zero, List.set_cons_succ]
    by_cases hte : t.length = 0
    · have hte1 : ((t.length : Int) + 1) = 1 := by omega
      go_wp2
      refine bodyPost_ret (v := slv (takeO s s.v)) (by simp [results, Try.results77, go_sem, c4, c4a]) rfl ?_
      refine cut_fin_whole (x := .slice (some ⟨q.g, q.off, none⟩) 0 0) (y := ((cur.setIfInBounds q.off (iv (takeR s s.v).v)).setIfInBounds (q.off + 1) (iv (takeR s s.v).h))) q.off (by rw [hte]) (.inl ⟨List.eq_nil_of_length_eq_zero hte, rfl⟩) HN.out.1 HN.out.2.2.2.1 HL.out.1 (by have := HL.out.2; omega) hmx (by omega) HN.out.2.1.1 (fun i h1 h2 => getElem?_set2 i h1 h2) (by simp) ?_ ?_ ?_
      · repeat (first | (with_reducible exact HW.out.1) | (with_reducible refine Has.drew ?_) | (with_reducible refine Has.alloc ?_ _) | (with_reducible refine Has.far ?_ ?_ _))
        all_goals (first | omega | (dsimp only; omega))
      · repeat (first | (with_reducible exact HW.out.2) | (with_reducible refine Has.set ?_ _ _) | (with_reducible refine Has.drew ?_) | (with_reducible refine Has.alloc ?_ _) | (with_reducible refine Has.far ?_ ?_ _))
        all_goals (first | omega | (dsimp only; omega))
      · repeat (first | (with_reducible exact HO.mono (fun _ _ h => .inr h)) | (with_reducible refine Only.drew ?_) | (with_reducible refine Only.alloc ?_ _) | (with_reducible refine Only.setCell ?_ ?_ _))
        all_goals (first | exact .inl (.inl rfl) | exact .inr (by dsimp only; omega))
    · go_wp2
      refine bodyPost_ret (v := slv (takeO s s.v)) (by simp [results, Try.results77, go_sem, c4, c4a]) rfl ?_
      refine cut_fin_whole (x := .slice (some ⟨q.g, q.off + 2, none⟩) t.length t.length) (y := ((cur.setIfInBounds q.off (iv (takeR s s.v).v)).setIfInBounds (q.off + 1) (iv (takeR s s.v).h))) (q.off + 2) rfl (.inr rfl) HN.out.1 HN.out.2.2.2.1 HL.out.1 (by have := HL.out.2; omega) hmx (by omega) HN.out.2.1.1 (fun i h1 h2 => getElem?_set2 i h1 h2) (by simp) ?_ ?_ ?_
      · repeat (first | (with_reducible exact HW.out.1) | (with_reducible refine Has.drew ?_) | (with_reducible refine Has.alloc ?_ _) | (with_reducible refine Has.far ?_ ?_ _))
        all_goals (first | omega | (dsimp only; omega))
      · repeat (first | (with_reducible exact HW.out.2) | (with_reducible refine Has.set ?_ _ _) | (with_reducible refine Has.drew ?_) | (with_reducible refine Has.alloc ?_ _) | (with_reducible refine Has.far ?_ ?_ _))
        all_goals (first | omega | (dsimp only; omega))
      · repeat (first | (with_reducible exact HO.mono (fun _ _ h => .inr h)) | (with_reducible refine Only.drew ?_) | (with_reducible refine Only.alloc ?_ _) | (with_reducible refine Only.setCell ?_ ?_ _))
        all_goals (first | exact .inl (.inl rfl) | exact .inr (by dsimp only; omega))
set_option maxRecDepth 100000 in
set_option maxHeartbeats 4000000 in
theorem cut_just (Bp o : Nat) (cs : Array Value) (q : Qu) (s : Sl) (t : List Sl) (W : World) (hp : Has W Bp 88 cs) (hc : cs[o + 1]? = some q.sv) (hq : QHas W q) (hl : q.l = s :: t)
    (hne : q.g ≠ Bp) (hs : okS s) (hb : s.h ≤ 2199023255552) (h3 : s.v ≤ 2097152) :
    Calls Try.prog 77 #[.pointer (some ⟨Bp, o, none⟩), iv s.v] W (CutPost Bp o cs q s.v s t W) := by
  obtain ⟨cur, hh, hsz, hcs⟩ := hq.blk
  have hlen : q.l.length = t.length + 1 := by rw [hl]; rfl
  have hle := hq.le
  have hmx := hq.mx
  have c01 := hcs 0 (by omega)
  have e0 : q.l[0]'(by omega) = s := by simp [hl]
  rw [e0] at c01
  simp only [Nat.zero_mul, Nat.add_zero] at c01
  have d0 : W.cell? ⟨Bp, o + 1, none⟩ = some (.slice (some ⟨q.g, q.off, none⟩) (t.length + 1) q.cap) := (hp.cell _).trans (by rw [hc, Qu.sv, hlen])
  have d1 : W.cell? ⟨q.g, q.off, none⟩ = some (.int .i64 s.v) := (hh.cell _).trans c01.1
  have f0 := hp.frozen (o + 1)
  have hgl := hh.lt
  have hpl := hp.lt
  have hT := fun W1 (h : Has W1 q.g 23 cur) => take_any q.g q.off 23 cur s s.v W1 h c01.1 c01.2 hs hb hs.1 (Int.le_refl _) h3
  have HT := Lib.hid hT
  have HH := Lib.hid (And.intro hh hp)
  have HN := Lib.hid (And.intro hcs (And.intro hs (And.intro c01 (And.intro hsz hc))))
  have HL := Lib.hid (And.intro hl hlen)
  have hX : q.off + 1 < cur.size := by have := hq.le; omega
  clear e0 hT hh hp hcs hs hb h3 hq hsz c01 hc hl hlen
  have hcap : 1 ≤ q.cap := by have := HL.out.2; omega
  have hcl : t.length + 1 ≤ q.cap := by have := HL.out.2; omega
  unfold maxLen at hmx
  clear hle
  have hoff : q.off ≠ q.off + 1 := by omega
  go_enter Try.func77, Try.ntmps77
  go_wp2
  have hS0 : (fun w' : World => w'.cell? ⟨Bp, o + 1, none⟩ = some (.slice (some ⟨q.g, q.off, none⟩) (t.length + 1) q.cap) ∧ w'.cell? ⟨q.g, q.off, none⟩ = some (.int .i64 s.v)) (W.alloc (Obj.cells #[Value.int IntKind.i64 0, Value.int IntKind.i64 0] 23)).drew := by constructor <;> go_simp
  refine wp_region_late (fun w' : World => w'.cell? ⟨Bp, o + 1, none⟩ = some (.slice (some ⟨q.g, q.off, none⟩) (t.length + 1) q.cap) ∧ w'.cell? ⟨q.g, q.off, none⟩ = some (.int .i64 s.v)) [14, 16] (by kernel_rfl) ?_
  refine wpLate_take (i := 0) (oi := ?oi0) (v := ?v0) [1, 2, 3, 4, 14, 16] ?hi0 (by kernel_rfl) (by kernel_rfl) (by kernel_rfl) (by kernel_rfl) (by kernel_rfl) ?hQ0 (Or.inl ⟨?hw0, ?hy0⟩) hS0 ?rest0
  case hi0 => (simp only [List.getElem?_toArray, List.getElem?_cons_zero]; rfl)
  case hQ0 => exact fun _ _ _ h => h
  case hw0 => rfl
  case hy0 =>
    intro w' hSw
    obtain ⟨r0, r1⟩ := hSw
    go_simp
    try exact rfl
  simp only [Act.put, List.setIfInBounds_toArray, List.set_cons_zero, List.set_cons_succ]
  refine wpLate_take (i := 1) (oi := ?oi1) (v := ?v1) [2, 3, 4, 14, 16] ?hi1 (by kernel_rfl) (by kernel_rfl) (by kernel_rfl) (by kernel_rfl) (by kernel_rfl) ?hQ1 (Or.inl ⟨?hw1, ?hy1⟩) hS0 ?rest1
  case hi1 => (simp only [List.getElem?_toArray, List.getElem?_cons_zero, List.getElem?_cons_succ]; rfl)
  case hQ1 => exact fun _ _ _ h => h
  case hw1 => rfl
  case hy1 =>
    intro w' hSw
    obtain ⟨r0, r1⟩ := hSw
    go_simp
    try exact rfl
  simp only [Act.put, List.setIfInBounds_toArray, List.set_cons_zero, List.set_cons_succ]
  refine wpLate_take (i := 2) (oi := ?oi2) (v := ?v2) [3, 4, 14, 16] ?hi2 (by kernel_rfl) (by kernel_rfl) (by kernel_rfl) (by kernel_rfl) (by kernel_rfl) ?hQ2 (Or.inl ⟨?hw2, ?hy2⟩) hS0 ?rest2
  case hi2 => (simp only [List.getElem?_toArray, List.getElem?_cons_zero, List.getElem?_cons_succ]; rfl)
  case hQ2 => exact fun _ _ _ h => h
  case hw2 => rfl
  case hy2 =>
    intro w' hSw
    obtain ⟨r0, r1⟩ := hSw
    go_simp
    try exact rfl
  simp only [Act.put, List.setIfInBounds_toArray, List.set_cons_zero, List.set_cons_succ]
  refine wpLate_take (i := 3) (oi := ?oi3) (v := ?v3) [4, 14, 16] ?hi3 (by kernel_rfl) (by kernel_rfl) (by kernel_rfl) (by kernel_rfl) (by kernel_rfl) ?hQ3 (Or.inl ⟨?hw3, ?hy3⟩) hS0 ?rest3
  case hi3 => (simp only [List.getElem?_toArray, List.getElem?_cons_zero, List.getElem?_cons_succ]; rfl)
  case hQ3 => exact fun _ _ _ h => h
  case hw3 => rfl
  case hy3 =>
    intro w' hSw
    obtain ⟨r0, r1⟩ := hSw
    go_simp
    try exact rfl
  simp only [Act.put, List.setIfInBounds_toArray, List.set_cons_zero, List.set_cons_succ]
  refine wpLate_take (i := 4) (oi := ?oi4) (v := ?v4) [14, 16] ?hi4 (by kernel_rfl) (by kernel_rfl) (by kernel_rfl) (by kernel_rfl) (by kernel_rfl) ?hQ4 (Or.inl ⟨?hw4, ?hy4⟩) hS0 ?rest4
  case hi4 => (simp only [List.getElem?_toArray, List.getElem?_cons_zero, List.getElem?_cons_succ]; rfl)
  case hQ4 => exact fun _ _ _ h => h
  case hw4 => rfl
  case hy4 =>
    intro w' hSw
    obtain ⟨r0, r1⟩ := hSw
    go_simp
    try exact rfl
  simp only [Act.put, List.setIfInBounds_toArray, List.set_cons_zero, List.set_cons_succ]
  refine wpLate_take (i := 5) (oi := ?oi5) (v := ?v5) [13, 14, 16] ?hi5 (by kernel_rfl) (by kernel_rfl) (by kernel_rfl) (by kernel_rfl) (by kernel_rfl) ?hQ5 (Or.inl ⟨?hw5, ?hy5⟩) hS0 ?rest5
  case hi5 => (simp only [List.getElem?_toArray, List.getElem?_cons_zero, List.getElem?_cons_succ]; rfl)
  case hQ5 => exact fun _ _ _ h => h
  case hw5 => rfl
  case hy5 =>
    intro w' hSw
    obtain ⟨r0, r1⟩ := hSw
    go_simp
    try exact rfl
  simp only [Act.put, List.setIfInBounds_toArray, List.set_cons_zero, List.set_cons_succ]
  refine wpLate_take (i := 6) (oi := ?oi6) (v := ?v6) [7, 8, 9, 10, 11, 12, 13, 14, 16] ?hi6 (by kernel_rfl) (by kernel_rfl) (by kernel_rfl) (by kernel_rfl) (by kernel_rfl) ?hQ6 (Or.inl ⟨?hw6, ?hy6⟩) hS0 ?rest6
  case hi6 => (simp only [List.getElem?_toArray, List.getElem?_cons_zero, List.getElem?_cons_succ]; rfl)
  case hQ6 => exact fun _ _ _ h => h
  case hw6 => rfl
  case hy6 =>
    intro w' hSw
    obtain ⟨r0, r1⟩ := hSw
    go_simp
    try exact rfl
  simp only [Act.put, List.setIfInBounds_toArray, List.set_cons_zero, List.set_cons_succ]
  refine wpLate_take (i := 7) (oi := ?oi7) (v := ?v7) [8, 9, 10, 11, 12, 13, 14, 16] ?hi7 (by kernel_rfl) (by kernel_rfl) (by kernel_rfl) (by kernel_rfl) (by kernel_rfl) ?hQ7 (Or.inl ⟨?hw7, ?hy7⟩) hS0 ?rest7
  case hi7 => (simp only [List.getElem?_toArray, List.getElem?_cons_zero, List.getElem?_cons_succ]; rfl)
  case hQ7 => exact fun _ _ _ h => h
  case hw7 => rfl
  case hy7 =>
    intro w' hSw
    obtain ⟨r0, r1⟩ := hSw
    go_simp
    try exact rfl
  simp only [Act.put, List.setIfInBounds_toArray, List.set_cons_zero, List.set_cons_succ]
  refine wpLate_take (i := 8) (oi := ?oi8) (v := ?v8) [9, 10, 11, 12, 13, 14, 16] ?hi8 (by kernel_rfl) (by kernel_rfl) (by kernel_rfl) (by kernel_rfl) (by kernel_rfl) ?hQ8 (Or.inl ⟨?hw8, ?hy8⟩) hS0 ?rest8
  case hi8 => (simp only [List.getElem?_toArray, List.getElem?_cons_zero, List.getElem?_cons_succ]; rfl)
  case hQ8 => exact fun _ _ _ h => h
  case hw8 => rfl
  case hy8 =>
    intro w' hSw
    obtain ⟨r0, r1⟩ := hSw
    go_simp
    try exact rfl
  simp only [Act.put, List.setIfInBounds_toArray, List.set_cons_zero, List.set_cons_succ]
  refine wpLate_take (i := 9) (oi := ?oi9) (v := ?v9) [10, 11, 12, 13, 14, 16] ?hi9 (by kernel_rfl) (by kernel_rfl) (by kernel_rfl) (by kernel_rfl) (by kernel_rfl) ?hQ9 (Or.inl ⟨?hw9, ?hy9⟩) hS0 ?rest9
  case hi9 => (simp only [List.getElem?_toArray, List.getElem?_cons_zero, List.getElem?_cons_succ]; rfl)
  case hQ9 => exact fun _ _ _ h => h
  case hw9 => rfl
  case hy9 =>
    intro w' hSw
    obtain ⟨r0, r1⟩ := hSw
    go_simp
    try exact rfl
  simp only [Act.put, List.setIfInBounds_toArray, List.set_cons_zero, List.set_cons_succ]
  refine wpLate_take (i := 10) (oi := ?oi10) (v := ?v10) [11, 12, 13, 14, 16] ?hi10 (by kernel_rfl) (by kernel_rfl) (by kernel_rfl) (by kernel_rfl) (by kernel_rfl) ?hQ10 (Or.inl ⟨?hw10, ?hy10⟩) hS0 ?rest10
  case hi10 => (simp only [List.getElem?_toArray, List.getElem?_cons_zero, List.getElem?_cons_succ]; rfl)
  case hQ10 => exact fun _ _ _ h => h
  case hw10 => rfl
  case hy10 =>
    intro w' hSw
    obtain ⟨r0, r1⟩ := hSw
    go_simp
    try exact rfl
  simp only [Act.put, List.setIfInBounds_toArray, List.set_cons_zero, List.set_cons_succ]
  refine wpLate_take (i := 11) (oi := ?oi11) (v := ?v11) [12, 13, 14, 16] ?hi11 (by kernel_rfl) (by kernel_rfl) (by kernel_rfl) (by kernel_rfl) (by kernel_rfl) ?hQ11 (Or.inl ⟨?hw11, ?hy11⟩) hS0 ?rest11
  case hi11 => (simp only [List.getElem?_toArray, List.getElem?_cons_zero, List.getElem?_cons_succ]; rfl)
  case hQ11 => exact fun _ _ _ h => h
  case hw11 => rfl
  case hy11 =>
    intro w' hSw
    obtain ⟨r0, r1⟩ := hSw
    go_simp
    try exact rfl
  simp only [Act.put, List.setIfInBounds_toArray, List.set_cons_zero, List.set_cons_succ]
  refine wpLate_take (i := 12) (oi := ?oi12) (v := ?v12) [13, 14, 16] ?hi12 (by kernel_rfl) (by kernel_rfl) (by kernel_rfl) (by kernel_rfl) (by kernel_rfl) ?hQ12 (Or.inl ⟨?hw12, ?hy12⟩) hS0 ?rest12
  case hi12 => (simp only [List.getElem?_toArray, List.getElem?_cons_zero, List.getElem?_cons_succ]; rfl)
  case hQ12 => exact fun _ _ _ h => h
  case hw12 => rfl
  case hy12 =>
    intro w' hSw
    obtain ⟨r0, r1⟩ := hSw
    go_simp
    try exact rfl
  simp only [Act.put, List.setIfInBounds_toArray, List.set_cons_zero, List.set_cons_succ]
  refine wpLate_two (i := 13) (j := 15) (o := ?o13_1) (u := ?u15_1) (by kernel_rfl) ?ho13_1 ?hu15_1 ?g13_1 ?g15_1
  case ho13_1 => (simp only [List.getElem?_toArray, List.getElem?_cons_zero, List.getElem?_cons_succ]; rfl)
  case hu15_1 => (simp only [List.getElem?_toArray, List.getElem?_cons_zero, List.getElem?_cons_succ]; rfl)
  case g13_1 =>
    intro K hK
    go_wp2_with fail
    refine hK.out _ _ (fun _ => hS0) ?_
    clear hK K
    try simp only [Act.put, List.setIfInBounds_toArray, List.set_cons_zero, List.set_cons_succ]
    refine wpLate_two (i := 14) (j := 15) (o := ?o14_2) (u := ?u15_2) (by kernel_rfl) ?ho14_2 ?hu15_2 ?g14_2 ?g15_2
    case ho14_2 => (simp only [List.getElem?_toArray, List.getElem?_cons_zero, List.getElem?_cons_succ]; rfl)
    case hu15_2 => (simp only [List.getElem?_toArray, List.getElem?_cons_zero, List.getElem?_cons_succ]; rfl)
    case g14_2 =>
      intro K hK
      go_simp
      refine (HT.out _ (Has.drew (HH.out.1.alloc _))).mono ?_
      rintro e w1 ⟨rfl, ho, hw⟩
      have hw0 : Has w1 Bp 88 cs := Has.only (Has.drew (HH.out.2.alloc _)) ho (Ne.symm hne)
      have hsz1 := ho.size
      simp only [World.size_drew, World.size_alloc] at hsz1
      refine hK.out _ _ (fun h => absurd (show false = true from h) (by decide)) ?_
      clear hK K
      try simp only [Act.put, List.setIfInBounds_toArray, List.set_cons_zero, List.set_cons_succ]
      refine wpLate_one (i := 15) (o := ?o15_3) (by kernel_rfl) ?ho15_3 ?hk15_3
      case ho15_3 => (simp only [List.getElem?_toArray, List.getElem?_cons_zero, List.getElem?_cons_succ]; rfl)
      intro K hK
      go_simp
      refine hK.out _ _ (fun h => absurd (show false = true from h) (by decide)) ?_
      clear hK K
      try simp only [Act.put, List.setIfInBounds_toArray, List.set_cons_zero, List.set_cons_succ]
      have h4 : Has w1 W.heap.size 23 #[.int .i64 0, .int .i64 0] := Has.only ((Has.new W 23 _).drew) ho (fun e : W.heap.size = q.g => by omega)
      have p4 := h4.lt
      have f4 := h4.frozen 0
      have f4a := h4.frozen 1
      have c4 : w1.cell? ⟨W.heap.size, 0, none⟩ = some (.int .i64 0) := h4.cell 0
      have c4a : w1.cell? ⟨W.heap.size, 1, none⟩ = some (.int .i64 0) := h4.cell 1
      have p0 : w1.cell? ⟨Bp, o + 1, none⟩ = some (.slice (some ⟨q.g, q.off, none⟩) (t.length + 1) q.cap) := by rw [hw0.cell, HN.out.2.2.2.2, Qu.sv, HL.out.2]
      have pf := hw0.frozen (o + 1)
      have p1 := hw0.lt
      have p2 := hw.lt
      have g0 : w1.cell? ⟨q.g, q.off, none⟩ = some (.int .i64 0) := by rw [hw.cell, (getElem?_set2a hX).1]; simp [takeR]
      have HO : Only (fun k => k = q.g) W w1 := Only.from_ (Only.drew (Only.alloc (Only.refl _ W) _)) ho (fun _ _ h => h)
      clear ho
      have HW := Lib.hid (And.intro hw hw0)
      clear h4 hw hw0
      refine wpLate_one (i := 16) (o := ?o16_4) (by kernel_rfl) ?ho16_4 ?hk16_4
      case ho16_4 => (simp only [List.getElem?_toArray, List.getElem?_cons_zero, List.getElem?_cons_succ]; rfl)
      intro K hK
      go_simp
      refine hK.out _ _ (fun h => absurd (show false = true from h) (by decide)) ?_
      clear hK K
      refine wpLate_done (by kernel_rfl) ?_ _
      try simp only [Act.put, List.setIfInBounds_toArray, List.set_cons_zero, List.set_cons_succ]
      by_cases hte : t.length = 0
      · have hte1 : ((t.length : Int) + 1) = 1 := by omega
        go_wp2
        refine bodyPost_ret (v := slv (takeO s s.v)) (by simp [results, Try.results77, go_sem, c4, c4a, p4]) rfl ?_
        refine cut_fin_whole (x := .slice (some ⟨q.g, q.off, none⟩) 0 0) (y := ((cur.setIfInBounds q.off (iv (takeR s s.v).v)).setIfInBounds (q.off + 1) (iv (takeR s s.v).h))) q.off (by rw [hte]) (.inl ⟨List.eq_nil_of_length_eq_zero hte, rfl⟩) HN.out.1 HN.out.2.2.2.1 HL.out.1 (by have := HL.out.2; omega) hmx (Int.le_refl _) HN.out.2.1.1 (fun i h1 h2 => getElem?_set2 i h1 h2) (by simp) ?_ ?_ ?_
        · repeat (first | (with_reducible exact HW.out.1) | (with_reducible refine Has.drew ?_) | (with_reducible refine Has.alloc ?_ _) | (with_reducible refine Has.far ?_ ?_ _))
          all_goals (first | omega | (dsimp only; omega))
        · repeat (first | (with_reducible exact HW.out.2) | (with_reducible refine Has.set ?_ _ _) | (with_reducible refine Has.drew ?_) | (with_reducible refine Has.alloc ?_ _) | (with_reducible refine Has.far ?_ ?_ _))
          all_goals (first | omega | (dsimp only; omega))
        · repeat (first | (with_reducible exact HO.mono (fun _ _ h => .inr h)) | (with_reducible refine Only.drew ?_) | (with_reducible refine Only.alloc ?_ _) | (with_reducible refine Only.setCell ?_ ?_ _))
          all_goals (first | exact .inl (.inl rfl) | exact .inr (by dsimp only; omega))
      · go_wp2
        refine bodyPost_ret (v := slv (takeO s s.v)) (by simp [results, Try.results77, go_sem, c4, c4a, p4]) rfl ?_
        refine cut_fin_whole (x := .slice (some ⟨q.g, q.off + 2, none⟩) t.length t.length) (y := ((cur.setIfInBounds q.off (iv (takeR s s.v).v)).setIfInBounds (q.off + 1) (iv (takeR s s.v).h))) (q.off + 2) rfl (.inr rfl) HN.out.1 HN.out.2.2.2.1 HL.out.1 (by have := HL.out.2; omega) hmx (Int.le_refl _) HN.out.2.1.1 (fun i h1 h2 => getElem?_set2 i h1 h2) (by simp) ?_ ?_ ?_
        · repeat (first | (with_reducible exact HW.out.1) | (with_reducible refine Has.drew ?_) | (with_reducible refine Has.alloc ?_ _) | (with_reducible refine Has.far ?_ ?_ _))
          all_goals (first | omega | (dsimp only; omega))
        · repeat (first | (with_reducible exact HW.out.2) | (with_reducible refine Has.set ?_ _ _) | (with_reducible refine Has.drew ?_) | (with_reducible refine Has.alloc ?_ _) | (with_reducible refine Has.far ?_ ?_ _))
          all_goals (first | omega | (dsimp only; omega))
        · repeat (first | (with_reducible exact HO.mono (fun _ _ h => .inr h)) | (with_reducible refine Only.drew ?_) | (with_reducible refine Only.alloc ?_ _) | (with_reducible refine Only.setCell ?_ ?_ _))
          all_goals (first | exact .inl (.inl rfl) | exact .inr (by dsimp only; omega))
    case g15_2 =>
      intro K hK
      go_simp
      refine hK.out _ _ (fun _ => (by constructor <;> go_simp)) ?_
      clear hK K
      try simp only [Act.put, List.setIfInBounds_toArray, List.set_cons_zero, List.set_cons_succ]
      refine wpLate_one (i := 14) (o := ?o14_5) (by kernel_rfl) ?ho14_5 ?hk14_5
      case ho14_5 => (simp only [List.getElem?_toArray, List.getElem?_cons_zero, List.getElem?_cons_succ]; rfl)
      intro K hK
      go_simp
      refine (HT.out _ (Has.drew ((HH.out.1.alloc _).alloc _))).mono ?_
      rintro e w1 ⟨rfl, ho, hw⟩
      have hw0 : Has w1 Bp 88 cs := Has.only (Has.drew ((HH.out.2.alloc _).alloc _)) ho (Ne.symm hne)
      have hsz1 := ho.size
      simp only [World.size_drew, World.size_alloc] at hsz1
      refine hK.out _ _ (fun h => absurd (show false = true from h) (by decide)) ?_
      clear hK K
      try simp only [Act.put, List.setIfInBounds_toArray, List.set_cons_zero, List.set_cons_succ]
      have h4 : Has w1 W.heap.size 23 #[.int .i64 0, .int .i64 0] := Has.only (((Has.new W 23 _).alloc _).drew) ho (fun e : W.heap.size = q.g => by omega)
      have p4 := h4.lt
      have f4 := h4.frozen 0
      have f4a := h4.frozen 1
      have c4 : w1.cell? ⟨W.heap.size, 0, none⟩ = some (.int .i64 0) := h4.cell 0
      have c4a : w1.cell? ⟨W.heap.size, 1, none⟩ = some (.int .i64 0) := h4.cell 1
      have p0 : w1.cell? ⟨Bp, o + 1, none⟩ = some (.slice (some ⟨q.g, q.off, none⟩) (t.length + 1) q.cap) := by rw [hw0.cell, HN.out.2.2.2.2, Qu.sv, HL.out.2]
      have pf := hw0.frozen (o + 1)
      have p1 := hw0.lt
      have p2 := hw.lt
      have g0 : w1.cell? ⟨q.g, q.off, none⟩ = some (.int .i64 0) := by rw [hw.cell, (getElem?_set2a hX).1]; simp [takeR]
      have h5 : Has w1 (W.heap.size + 1) 23 #[.int .i64 0, .int .i64 0] := Has.only (Has.drew (Has.newAt (w := W.alloc (Obj.cells #[Value.int IntKind.i64 0, Value.int IntKind.i64 0] 23)) (by simp))) ho (fun e : W.heap.size + 1 = q.g => by omega)
      have p5 := h5.lt
      have f5 := h5.frozen 0
      have f5a := h5.frozen 1
      have c5 : w1.cell? ⟨W.heap.size + 1, 0, none⟩ = some (.int .i64 0) := h5.cell 0
      have c5a : w1.cell? ⟨W.heap.size + 1, 1, none⟩ = some (.int .i64 0) := h5.cell 1
      have HO : Only (fun k => k = q.g) W w1 := Only.from_ (Only.drew (Only.alloc (Only.alloc (Only.refl _ W) _) _)) ho (fun _ _ h => h)
      clear ho
      have HW := Lib.hid (And.intro hw hw0)
      clear h4 hw hw0 h5
      refine wpLate_one (i := 16) (o := ?o16_6) (by kernel_rfl) ?ho16_6 ?hk16_6
      case ho16_6 => (simp only [List.getElem?_toArray, List.getElem?_cons_zero, List.getElem?_cons_succ]; rfl)
      intro K hK
      go_simp
      refine hK.out _ _ (fun h => absurd (show false = true from h) (by decide)) ?_
      clear hK K
      refine wpLate_done (by kernel_rfl) ?_ _
      try simp only [Act.put, List.setIfInBounds_toArray, List.set_cons_zero, List.set_cons_succ]
      by_cases hte : t.length = 0
      · have hte1 : ((t.length : Int) + 1) = 1 := by omega
        go_wp2
        refine bodyPost_ret (v := slv (takeO s s.v)) (by simp [results, Try.results77, go_sem, c4, c4a]) rfl ?_
        refine cut_fin_whole (x := .slice (some ⟨q.g, q.off, none⟩) 0 0) (y := ((cur.setIfInBounds q.off (iv (takeR s s.v).v)).setIfInBounds (q.off + 1) (iv (takeR s s.v).h))) q.off (by rw [hte]) (.inl ⟨List.eq_nil_of_length_eq_zero hte, rfl⟩) HN.out.1 HN.out.2.2.2.1 HL.out.1 (by have := HL.out.2; omega) hmx (Int.le_refl _) HN.out.2.1.1 (fun i h1 h2 => getElem?_set2 i h1 h2) (by simp) ?_ ?_ ?_
        · repeat (first | (with_reducible exact HW.out.1) | (with_reducible refine Has.drew ?_) | (with_reducible refine Has.alloc ?_ _) | (with_reducible refine Has.far ?_ ?_ _))
          all_goals (first | omega | (dsimp only; omega))
        · repeat (first | (with_reducible exact HW.out.2) | (with_reducible refine Has.set ?_ _ _) | (with_reducible refine Has.drew ?_) | (with_reducible refine Has.alloc ?_ _) | (with_reducible refine Has.far ?_ ?_ _))
          all_goals (first | omega | (dsimp only; omega))
        · repeat (first | (with_reducible exact HO.mono (fun _ _ h => .inr h)) | (with_reducible refine Only.drew ?_) | (with_reducible refine Only.alloc ?_ _) | (with_reducible refine Only.setCell ?_ ?_ _))
          all_goals (first | exact .inl (.inl rfl) | exact .inr (by dsimp only; omega))
      · go_wp2
        refine bodyPost_ret (v := slv (takeO s s.v)) (by simp [results, Try.results77, go_sem, c4, c4a]) rfl ?_
        refine cut_fin_whole (x := .slice (some ⟨q.g, q.off + 2, none⟩) t.length t.length) (y := ((cur.setIfInBounds q.off (iv (takeR s s.v).v)).setIfInBounds (q.off + 1) (iv (takeR s s.v).h))) (q.off + 2) rfl (.inr rfl) HN.out.1 HN.out.2.2.2.1 HL.out.1 (by have := HL.out.2; omega) hmx (Int.le_refl _) HN.out.2.1.1 (fun i h1 h2 => getElem?_set2 i h1 h2) (by simp) ?_ ?_ ?_
        · repeat (first | (with_reducible exact HW.out.1) | (with_reducible refine Has.drew ?_) | (with_reducible refine Has.alloc ?_ _) | (with_reducible refine Has.far ?_ ?_ _))
          all_goals (first | omega | (dsimp only; omega))
        · repeat (first | (with_reducible exact HW.out.2) | (with_reducible refine Has.set ?_ _ _) | (with_reducible refine Has.drew ?_) | (with_reducible refine Has.alloc ?_ _) | (with_reducible refine Has.far ?_ ?_ _))
          all_goals (first | omega | (dsimp only; omega))
        · repeat (first | (with_reducible exact HO.mono (fun _ _ h => .inr h)) | (with_reducible refine Only.drew ?_) | (with_reducible refine Only.alloc ?_ _) | (with_reducible refine Only.setCell ?_ ?_ _))
          all_goals (first | exact .inl (.inl rfl) | exact .inr (by dsimp only; omega))
  case g15_1 =>
    intro K hK
    go_simp
    refine hK.out _ _ (fun _ => (by constructor <;> go_simp)) ?_
    clear hK K
    try simp only [Act.put, List.setIfInBounds_toArray, List.set_cons_zero, List.set_cons_succ]
    refine wpLate_one (i := 13) (o := ?o13_7) (by kernel_rfl) ?ho13_7 ?hk13_7
    case ho13_7 => (simp only [List.getElem?_toArray, List.getElem?_cons_zero, List.getElem?_cons_succ]; rfl)
    intro K hK
    go_wp2_with fail
    refine hK.out _ _ (fun _ => (by constructor <;> go_simp)) ?_
    clear hK K
    try simp only [Act.put, List.setIfInBounds_toArray, List.set_cons_zero, List.set_cons_succ]
    refine wpLate_one (i := 14) (o := ?o14_8) (by kernel_rfl) ?ho14_8 ?hk14_8
    case ho14_8 => (simp only [List.getElem?_toArray, List.getElem?_cons_zero, List.getElem?_cons_succ]; rfl)
    intro K hK
    go_simp
    refine (HT.out _ (Has.drew ((HH.out.1.alloc _).alloc _))).mono ?_
    rintro e w1 ⟨rfl, ho, hw⟩
    have hw0 : Has w1 Bp 88 cs := Has.only (Has.drew ((HH.out.2.alloc _).alloc _)) ho (Ne.symm hne)
    have hsz1 := ho.size
    simp only [World.size_drew, World.size_alloc] at hsz1
    refine hK.out _ _ (fun h => absurd (show false = true from h) (by decide)) ?_
    clear hK K
    try simp only [Act.put, List.setIfInBounds_toArray, List.set_cons_zero, List.set_cons_succ]
    have h4 : Has w1 W.heap.size 23 #[.int .i64 0, .int .i64 0] := Has.only (((Has.new W 23 _).alloc _).drew) ho (fun e : W.heap.size = q.g => by omega)
    have p4 := h4.lt
    have f4 := h4.frozen 0
    have f4a := h4.frozen 1
    have c4 : w1.cell? ⟨W.heap.size, 0, none⟩ = some (.int .i64 0) := h4.cell 0
    have c4a : w1.cell? ⟨W.heap.size, 1, none⟩ = some (.int .i64 0) := h4.cell 1
    have p0 : w1.cell? ⟨Bp, o + 1, none⟩ = some (.slice (some ⟨q.g, q.off, none⟩) (t.length + 1) q.cap) := by rw [hw0.cell, HN.out.2.2.2.2, Qu.sv, HL.out.2]
    have pf := hw0.frozen (o + 1)
    have p1 := hw0.lt
    have p2 := hw.lt
    have g0 : w1.cell? ⟨q.g, q.off, none⟩ = some (.int .i64 0) := by rw [hw.cell, (getElem?_set2a hX).1]; simp [takeR]
    have h5 : Has w1 (W.heap.size + 1) 23 #[.int .i64 0, .int .i64 0] := Has.only (Has.drew (Has.newAt (w := W.alloc (Obj.cells #[Value.int IntKind.i64 0, Value.int IntKind.i64 0] 23)) (by simp))) ho (fun e : W.heap.size + 1 = q.g => by omega)
    have p5 := h5.lt
    have f5 := h5.frozen 0
    have f5a := h5.frozen 1
    have c5 : w1.cell? ⟨W.heap.size + 1, 0, none⟩ = some (.int .i64 0) := h5.cell 0
    have c5a : w1.cell? ⟨W.heap.size + 1, 1, none⟩ = some (.int .i64 0) := h5.cell 1
    have HO : Only (fun k => k = q.g) W w1 := Only.from_ (Only.drew (Only.alloc (Only.alloc (Only.refl _ W) _) _)) ho (fun _ _ h => h)
    clear ho
    have HW := Lib.hid (And.intro hw hw0)
    clear h4 hw hw0 h5
    refine wpLate_one (i := 16) (o := ?o16_9) (by kernel_rfl) ?ho16_9 ?hk16_9
    case ho16_9 => (simp only [List.getElem?_toArray, List.getElem?_cons_zero, List.getElem?_cons_succ]; rfl)
    intro K hK
    go_simp
    refine hK.out _ _ (fun h => absurd (show false = true from h) (by decide)) ?_
    clear hK K
    refine wpLate_done (by kernel_rfl) ?_ _
    try simp only [Act.put, List.setIfInBounds_toArray, List.set_cons_zero, List.set_cons_succ]
    by_cases hte : t.length = 0
    · have hte1 : ((t.length : Int) + 1) = 1 := by omega
      go_wp2
      refine bodyPost_ret (v := slv (takeO s s.v)) (by simp [results, Try.results77, go_sem, c4, c4a]) rfl ?_
      refine cut_fin_whole (x := .slice (some ⟨q.g, q.off, none⟩) 0 0) (y := ((cur.setIfInBounds q.off (iv (takeR s s.v).v)).setIfInBounds (q.off + 1) (iv (takeR s s.v).h))) q.off (by rw [hte]) (.inl ⟨List.eq_nil_of_length_eq_zero hte, rfl⟩) HN.out.1 HN.out.2.2.2.1 HL.out.1 (by have := HL.out.2; omega) hmx (Int.le_refl _) HN.out.2.1.1 (fun i h1 h2 => getElem?_set2 i h1 h2) (by simp) ?_ ?_ ?_
      · repeat (first | (with_reducible exact HW.out.1) | (with_reducible refine Has.drew ?_) | (with_reducible refine Has.alloc ?_ _) | (with_reducible refine Has.far ?_ ?_ _))
        all_goals (first | omega | (dsimp only; omega))
      · repeat (first | (with_reducible exact HW.out.2) | (with_reducible refine Has.set ?_ _ _) | (with_reducible refine Has.drew ?_) | (with_reducible refine Has.alloc ?_ _) | (with_reducible refine Has.far ?_ ?_ _))
        all_goals (first | omega | (dsimp only; omega))
      · repeat (first | (with_reducible exact HO.mono (fun _ _ h => .inr h)) | (with_reducible refine Only.drew ?_) | (with_reducible refine Only.alloc ?_ _) | (with_reducible refine Only.setCell ?_ ?_ _))
        all_goals (first | exact .inl (.inl rfl) | exact .inr (by dsimp only; omega))
    · go_wp2
      refine bodyPost_ret (v := slv (takeO s s.v)) (by simp [results, Try.results77, go_sem, c4, c4a]) rfl ?_
      refine cut_fin_whole (x := .slice (some ⟨q.g, q.off + 2, none⟩) t.length t.length) (y := ((cur.setIfInBounds q.off (iv (takeR s s.v).v)).setIfInBounds (q.off + 1) (iv (takeR s s.v).h))) (q.off + 2) rfl (.inr rfl) HN.out.1 HN.out.2.2.2.1 HL.out.1 (by have := HL.out.2; omega) hmx (Int.le_refl _) HN.out.2.1.1 (fun i h1 h2 => getElem?_set2 i h1 h2) (by simp) ?_ ?_ ?_
      · repeat (first | (with_reducible exact HW.out.1) | (with_reducible refine Has.drew ?_) | (with_reducible refine Has.alloc ?_ _) | (with_reducible refine Has.far ?_ ?_ _))
        all_goals (first | omega | (dsimp only; omega))
      · repeat (first | (with_reducible exact HW.out.2) | (with_reducible refine Has.set ?_ _ _) | (with_reducible refine Has.drew ?_) | (with_reducible refine Has.alloc ?_ _) | (with_reducible refine Has.far ?_ ?_ _))
        all_goals (first | omega | (dsimp only; omega))
      · repeat (first | (with_reducible exact HO.mono (fun _ _ h => .inr h)) | (with_reducible refine Only.drew ?_) | (with_reducible refine Only.alloc ?_ _) | (with_reducible refine Only.setCell ?_ ?_ _))
        all_goals (first | exact .inl (.inl rfl) | exact .inr (by dsimp only; omega))
theorem cut_any (Bp o : Nat) (cs : Array Value) (q : Qu) (n : Int) (s : Sl) (t : List Sl) (W : World) (hp : Has W Bp 88 cs) (hc : cs[o + 1]? = some q.sv) (hq : QHas W q) (hl : q.l = s :: t)
    (hne : q.g ≠ Bp) (hs : okS s) (hb : s.h ≤ 2199023255552) (h1 : 1 ≤ n) (h3 : s.v ≤ 2097152) :
    Calls Try.prog 77 #[.pointer (some ⟨Bp, o, none⟩), iv n] W (CutPost Bp o cs q n s t W) := by
  rcases Int.lt_trichotomy n s.v with h | h | h
  · exact cut_part Bp o cs q n s t W hp hc hq hl hne hs hb h1 h3 h
  · subst h; exact cut_just Bp o cs q s t W hp hc hq hl hne hs hb h3
  · exact cut_whole Bp o cs q n s t W hp hc hq hl hne hs hb h1 h3 h
end Go.Proofs.Ytjfopmjphiddiaa
