/- Clone, withDryer. -/
import Derived.Test.YtdmpkeaanaoeaaaAirT
import Derived.Laws.AppendOwnNone
namespace Go.Proofs.Ytdmpkeaanaoeaaa
open Go.RowKit Go.Shelf
def sd (d : Int) (m : Mo) : Mo := { m with dr := d }
def wd (d : Int) (ms : List Mo) : List Mo := ms.map (sd d)
def CM (cs : Array Value) (ms : List Mo) (d : Int) (i : Nat) : Prop := ∀ k (h : k < ms.length) j, j < 5 → cs[k * 5 + j]? = (moc (if k < i then sd d ms[k] else ms[k]))[j]?
theorem CM.step {cs : Array Value} {ms : List Mo} {d : Int} {i : Nat} (h : CM cs ms d i) (hi : i < ms.length) : CM (cs.setIfInBounds (i * 5 + 3) (.int .i64 d)) ms d (i + 1) := fun k hk j hj => by
  by_cases hki : k = i
  · subst hki
    have hold := h k hk j hj
    rw [if_neg (by omega)] at hold
    rw [if_pos (by omega)]
    by_cases hj3 : j = 3
    · subst hj3
      have hlt : k * 5 + 3 < cs.size := by
        rcases Nat.lt_or_ge (k * 5 + 3) cs.size with h1 | h1
        · exact h1
        · rw [Array.getElem?_eq_none h1] at hold; simp [moc] at hold
      rw [Array.getElem?_setIfInBounds_self_of_lt hlt]
      rfl
    · rw [Array.getElem?_setIfInBounds_ne (by omega), hold]
      have : j = 0 ∨ j = 1 ∨ j = 2 ∨ j = 4 := by omega
      rcases this with rfl | rfl | rfl | rfl <;> rfl
  · rw [Array.getElem?_setIfInBounds_ne (by omega), h k hk j hj]
    by_cases hlt : k < i
    · rw [if_pos hlt, if_pos (by omega)]
    · rw [if_neg hlt, if_neg (by omega)]
theorem CM.start {w : World} {base g cap : Nat} {ms : List Mo} {d : Int} (h : w.ownsRow base 86 5 (.slice (some ⟨g, 0, none⟩) ms.length cap) ms.length (mfl ms)) : ∃ cs, Has w g 86 cs ∧ CM cs ms d 0 ∧ base ≤ g := by
  have h' := h
  rcases h.2 with ⟨h0, -⟩ | ⟨g', cap', cur, h0, hb, hg, h1, h2, h3, h4⟩
  · cases h0
  · cases h0
    have hg1 : Has w g 86 cur := hg
    refine ⟨cur, hg1, fun k hk j hj => ?_, hb⟩
    rw [if_neg (by omega), ← hg1.cell, h'.cellAt (k * 5 + j) (by omega), mfl_get ms k hk j hj]
theorem mrow_cells {w : World} {B : Nat} {A : Option Addr} {l : List Mo} (h : MRow w B A l) (ad : Addr) (hA : A = some ad) : ∀ j u, (mfl l)[j]? = some u → w.cell? (ad.add j) = some u := by
  intro j u hu
  have hj : j < l.length * 5 := by have := (List.getElem?_eq_some_iff.1 hu).1; rwa [mfl_len] at this
  have hk : j / 5 < l.length := by omega
  obtain ⟨g, o, e, _, c⟩ := h (j / 5) hk
  rw [hA] at e; cases e
  have hc := c (j % 5) (by omega)
  have hm := mfl_get l (j / 5) hk (j % 5) (by omega)
  rw [show j / 5 * 5 + j % 5 = j by omega] at hm
  rw [← hm, hu, show o + j / 5 * 5 + j % 5 = o + j by omega] at hc
  unfold Addr.add
  split
  · rename_i h0; subst h0; exact hc
  · simpa using hc
theorem mfl_one (l : List Mo) : ∀ u ∈ mfl l, u.oneCell' = true := by
  intro u hu
  unfold mfl at hu
  simp only [List.mem_flatMap] at hu
  obtain ⟨z, _, hz⟩ := hu
  simp only [List.mem_cons, List.not_mem_nil, or_false] at hz
  rcases hz with rfl | rfl | rfl | rfl | rfl <;> rfl
theorem copy_below {w w1 : World} {e : TypeId} (hgr : (w.alloc (.cells #[] e)).grownBy w1 (Value.slice (some ⟨w.heap.size, 0, none⟩) 0 0).ownBlock) : Below w.heap.size w w1 := by
  have h1 := below_one w (.cells #[] e)
  exact ⟨hgr.os.trans h1.os, hgr.tape.trans h1.tape, hgr.output.trans h1.output, Nat.le_trans h1.size hgr.size, fun k hk => (hgr.block k (by simp; omega) (by simp only [Value.ownBlock, ne_eq, Option.some.injEq]; omega)).trans (h1.block k hk)⟩
theorem own_made (w : World) (e : TypeId) (size : Nat) : (w.alloc (.cells #[] e)).ownsRow w.heap.size e size (.slice (some ⟨w.heap.size, 0, none⟩) 0 0) 0 [] :=
  ⟨by simp, .inr ⟨w.heap.size, 0, #[], rfl, Nat.le_refl _, by have := Has.new w e #[]; simpa [Has] using this, Nat.le_refl _, by unfold maxLen; omega, by simp, by simp⟩⟩
def ClonePost (ms : List Mo) (w : World) (e : Ending) (W' : World) : Prop := Below w.heap.size w W' ∧ ∃ v, e = .returned v ∧ W'.ownsRow w.heap.size 86 5 v ms.length (mfl ms)
set_option maxRecDepth 100000 in
set_option maxHeartbeats 2000000 in
theorem clone_any (ms : List Mo) (A : Option Addr) (cl : Nat) (w : World) (hr : MRow w w.heap.size A ms) (hn : ms.length ≤ 200) (hA : A = none → ms.length = 0 ∧ cl = 0) :
    Calls Try.prog 61 #[.slice A ms.length cl] w (ClonePost ms w) := by
  cases A with
  | none =>
    obtain ⟨h1, rfl⟩ := hA rfl
    obtain rfl := List.eq_nil_of_length_eq_zero h1
    clear hr hA
    have hq : ∀ w, (binOp .eql 67 (.slice none 0 0) (.slice none 0 0)).run Try.prog w = .ok (.bool true) w := fun _ => by kernel_rfl
    go_enter Try.func61, Try.ntmps61
    go_wp2
    go_ret
    exact ⟨Below.refl _ _, _, rfl, World.ownsRow_nil _ _ _ _⟩
  | some ad =>
    have hq : ∀ w, (binOp .eql 67 (.slice (some ad) ms.length cl) (.slice none 0 0)).run Try.prog w = .ok (.bool false) w := fun _ => by kernel_rfl
    have HR := Lib.hid hr
    have HN := Lib.hid (own_made w 86 5)
    obtain ⟨i0, hi, hz0, hz1, hz2⟩ := info_parts Try.info86
    obtain ⟨n, hnn⟩ : ∃ n, n = ms.length := ⟨_, rfl⟩
    rw [← hnn] at hn hq ⊢
    have HL := Lib.hid hnn
    clear hr hA hnn
    go_enter Try.func61, Try.ntmps61
    go_wp2_with (at_builtin; refine wpList_append_own _ rfl _ _ 67 rfl w.heap.size 86 i0 (.agg #[.int .i64 0, .int .i64 0, .int .i64 0, .int .i64 0, .int .i64 0]) 5 40 Try.underlying67 hi hz0 hz1 hz2 rfl (by decide) _ 0 [] rfl HN.out ad n cl (mfl ms) rfl ?q1 ?q2 ?q3 ?q4 ?q5 ?q6 ?_)
    case q1 => rw [mfl_len, ← HL.out]
    case q2 => exact mrow_cells (HR.out.below (below_one w _)) ad rfl
    case q3 => exact mfl_one ms
    case q4 => unfold maxLen; omega
    case q5 => omega
    case q6 => simp
    intro v' w' ho hgr _
    have HF := Lib.hid (And.intro (copy_below hgr) ho)
    clear ho hgr
    go_wp2_with fail
    go_ret
    exact ⟨HF.out.1, v', rfl, by rw [← HL.out]; exact HF.out.2⟩
theorem wd_len (d : Int) (ms : List Mo) : (wd d ms).length = ms.length := by simp [wd]
/-- a row of moments with another dryer, in a block of its own -/
def RowPost (ms : List Mo) (w : World) (e : Ending) (W' : World) : Prop := Below w.heap.size w W' ∧ ∃ A cap, e = .returned (.slice A ms.length cap) ∧ MRow W' W'.heap.size A ms
set_option maxRecDepth 100000 in
set_option maxHeartbeats 2000000 in
theorem withDryer_any (ms : List Mo) (A : Option Addr) (cl : Nat) (d : Int) (w : World) (hr : MRow w w.heap.size A ms) (hn : ms.length ≤ 200) (hA : A = none → ms.length = 0 ∧ cl = 0) :
    Calls Try.prog 49 #[.slice A ms.length cl, .int .i64 d] w (RowPost (wd d ms) w) := by
  have HC := Lib.hid (clone_any ms A cl w hr hn hA)
  have HL := Lib.hid (wd_len d ms)
  clear hr hA
  go_enter Try.func49, Try.ntmps49
  go_wp2_with fail
  refine HC.out.mono ?_
  rintro e w1 ⟨hb, v, rfl, ho⟩
  have hform : (v = .slice none 0 0 ∧ ms.length = 0) ∨ ∃ g cap, v = .slice (some ⟨g, 0, none⟩) ms.length cap := by
    rcases ho.2 with h | ⟨g, cap, cur, h, -⟩
    · exact .inl h
    · exact .inr ⟨g, cap, h⟩
  have HO := Lib.hid (And.intro hb ho)
  clear hb ho HC
  rcases hform with ⟨rfl, h0⟩ | ⟨g, cap, rfl⟩
  · have H0 := Lib.hid h0
    clear h0 hn
    go_wp2_with fail
    go_loopg [10] 0 (fun gk i wr => i = .int .i64 0 ∧ wr = w1)
    case atStart => exact ⟨rfl, rfl⟩
    case round =>
      obtain ⟨rfl, rfl⟩ := hrel
      go_wp2_with fail
      go_ret
      refine ⟨HO.out.1, none, 0, by rw [HL.out, H0.out]; rfl, fun k hk => ?_⟩
      rw [HL.out, H0.out] at hk
      omega
  · obtain ⟨cs, hcs, hcm, hg⟩ := CM.start (d := d) HO.out.2
    have H1 := Lib.hid (And.intro hcs hcm)
    have HB := Lib.hid (And.intro HO.out.1 hg)
    clear hcs hcm hg HO
    go_wp2_with fail
    go_loopg [10] ms.length (fun gk i wr => ∃ k : Nat, k ≤ ms.length ∧ ms.length - k ≤ gk ∧ i = .int .i64 k ∧ Hid (Below w.heap.size w wr ∧ ∃ cs, Has wr g 86 cs ∧ CM cs ms d k))
    case atStart => exact ⟨0, Nat.zero_le _, Nat.le_refl _, rfl, HB.out.1, cs, H1.out.1, H1.out.2⟩
    case round =>
      obtain ⟨k, hk, hgk, rfl, HW⟩ := hrel
      obtain ⟨cs', h1, h2⟩ := HW.out.2
      by_cases hlt : k < ms.length
      · have hlt' : (k : Int) < ms.length := by omega
        have hold := h2 k hlt 3 (by omega)
        rw [if_neg (by omega)] at hold
        have c3 : wr.cell? ⟨g, k * 5 + 3, none⟩ = some (.int .i64 ms[k].dr) := (h1.cell _).trans hold
        have f3 := h1.frozen (k * 5 + 3)
        have hgl := h1.lt
        have HN := Lib.hid (And.intro (h1.set (k * 5 + 3) (.int .i64 d)) (h2.step hlt))
        clear h1 h2 hold
        go_wp2_with fail
        go_roundg (ms.length - (k + 1))
        case measure => omega
        case rel => exact ⟨k + 1, by omega, Nat.le_refl _, by go_num, HW.out.1.setCell (by simp only; have := HB.out.2; omega) _, _, HN.out.1, HN.out.2⟩
      · have hge : ¬ (k : Int) < ms.length := by omega
        have hk' : k = ms.length := by omega
        have HN := Lib.hid (And.intro h1 h2)
        have HK := Lib.hid hk'
        clear h1 h2 hk'
        go_wp2_with fail
        go_ret
        refine ⟨HW.out.1, some ⟨g, 0, none⟩, cap, by rw [HL.out]; rfl, fun j hj => ⟨g, 0, rfl, HN.out.1.lt, fun i hi => ?_⟩⟩
        rw [wd_len] at hj
        have := HN.out.2 j hj i hi
        rw [if_pos (by have := HK.out; omega)] at this
        rw [Nat.zero_add, HN.out.1.cell, this]
        simp [wd]
end Go.Proofs.Ytdmpkeaanaoeaaa
