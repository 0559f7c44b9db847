/- water, moisture, wetter; rows of moments between two blocks. -/
import Derived.Test.YtdmpkeaanaoeaaaAirQ
namespace Go.Proofs.Ytdmpkeaanaoeaaa
open Go.RowKit Go.Shelf
abbrev moi (c d : Co) : Array Value := #[.int .i64 c.came, .int .i64 d.came, .int .i64 c.out, .int .i64 d.out, .int .i64 c.dried, .int .i64 d.dried, .int .i64 c.dew, .int .i64 d.dew]
def MoiPost (c d : Co) (W : World) (e : Ending) (W' : World) : Prop := e = .returned (.agg (moi c d)) ∧ Below W.heap.size W W'
set_option maxRecDepth 100000 in
set_option maxHeartbeats 2000000 in
theorem water_any (c d : Co) (W : World) : Calls Try.prog 38 #[knv c d] W (SpanPost c.w d.w W) := by
  unfold knv
  go_enter Try.func38, Try.ntmps38
  go_wp2
  have hb := (below_one W (.cells (knc c d) 76)).alloc (Nat.le_of_lt (by simp)) (.cells #[.int .i64 c.w, .int .i64 d.w] 24)
  refine bodyPost_ret (v := .agg #[.int .i64 c.w, .int .i64 d.w]) (by simp [results, Try.results38, go_sem]) rfl ?_
  exact ⟨rfl, hb⟩
set_option maxRecDepth 100000 in
set_option maxHeartbeats 2000000 in
theorem moisture_any (c d : Co) (W : World) : Calls Try.prog 39 #[knv c d] W (MoiPost c d W) := by
  unfold knv
  go_enter Try.func39, Try.ntmps39
  go_wp2
  have hb := (below_one W (.cells (knc c d) 76)).alloc (Nat.le_of_lt (by simp)) (.cells (moi c d) 34)
  refine bodyPost_ret (v := .agg (moi c d)) (by simp [results, Try.results39, go_sem]) rfl ?_
  exact ⟨rfl, hb⟩
def wetB (w th ho : Int) : Bool := decide (th * ho < w * 1000)
set_option maxRecDepth 100000 in
set_option maxHeartbeats 2000000 in
theorem wetter_any (c : Co) (th ho : Int) (W : World) (hc : 0 ≤ c.w ∧ c.w ≤ 274877906944) (ht : 0 ≤ th ∧ th ≤ 1000) (hh : 0 ≤ ho ∧ ho ≤ 274877906944) :
    Calls Try.prog 45 #[.agg (coc c), .int .i64 th, .int .i64 ho] W (BoolPost (wetB c.w th ho) W) := by
  have hp := prod_bd ht hh
  have HB := Lib.hid (below_one W (.cells (coc c) 74))
  have hn : ∀ b, wetB c.w th ho = b → Hid (wetB c.w th ho = b) := fun b h => h
  by_cases h : th * ho < c.w * 1000
  · have HN := hn true (by unfold wetB; exact decide_eq_true h)
    clear hn
    go_enter Try.func45, Try.ntmps45
    go_wp2
    go_ret
    exact ⟨by rw [HN.out]; rfl, HB.out⟩
  · have HN := hn false (by unfold wetB; exact decide_eq_false h)
    clear hn
    go_enter Try.func45, Try.ntmps45
    go_wp2
    go_ret
    exact ⟨by rw [HN.out]; rfl, HB.out⟩
/-- a row of moments that lies from lb on and below ub -/
def MRowB (w : World) (lb ub : Nat) (A : Option Addr) (l : List Mo) : Prop :=
  ∀ k (h : k < l.length), ∃ g o, A = some ⟨g, o, none⟩ ∧ (lb ≤ g ∧ g < ub) ∧ ∀ j, j < 5 → w.cell? ⟨g, o + k * 5 + j, none⟩ = (moc l[k])[j]?
theorem MRowB.keep {w w' : World} {lb ub : Nat} {A : Option Addr} {l : List Mo} (h : MRowB w lb ub A l) (hb : ∀ g, lb ≤ g → g < ub → w'.heap[g]? = w.heap[g]?) : MRowB w' lb ub A l := fun k hk => by
  obtain ⟨g, o, e, hg, c⟩ := h k hk
  exact ⟨g, o, e, hg, fun j hj => (World.cell?_of_block (a := ⟨g, o + k * 5 + j, none⟩) (hb g hg.1 hg.2)).trans (c j hj)⟩
theorem MRowB.row {w : World} {lb ub : Nat} {A : Option Addr} {l : List Mo} (h : MRowB w lb ub A l) : MRow w ub A l := fun k hk => by
  obtain ⟨g, o, e, hg, c⟩ := h k hk
  exact ⟨g, o, e, hg.2, c⟩
theorem MRowB.more {w : World} {lb ub ub' : Nat} {A : Option Addr} {l : List Mo} (h : MRowB w lb ub A l) (hu : ub ≤ ub') : MRowB w lb ub' A l := fun k hk => by
  obtain ⟨g, o, e, hg, c⟩ := h k hk
  exact ⟨g, o, e, ⟨hg.1, by omega⟩, c⟩
theorem mfl_get : ∀ (l : List Mo) (k : Nat) (h : k < l.length) (j : Nat), j < 5 → (mfl l)[k * 5 + j]? = (moc l[k])[j]?
  | m :: l, 0, _, j, hj => by
    have : mfl (m :: l) = (moc m).toList ++ mfl l := rfl
    rw [this, List.getElem?_append_left (by simp; omega)]
    simp
  | m :: l, k + 1, h, j, hj => by
    have : mfl (m :: l) = (moc m).toList ++ mfl l := rfl
    rw [this, List.getElem?_append_right (by simp; omega)]
    have := mfl_get l k (by simpa using h) j hj
    simp only [List.getElem_cons_succ]
    rw [← this]
    congr 1
    simp
    omega
theorem own_row {w : World} {base : Nat} {v : Value} {ms : List Mo} (h : w.ownsRow base 86 5 v ms.length (mfl ms)) : ∃ A cap, v = .slice A ms.length cap ∧ MRowB w base w.heap.size A ms := by
  have h' := h
  rcases h.2 with ⟨rfl, h0⟩ | ⟨g, cap, cur, rfl, hb, hg, h1, h2, h3, h4⟩
  · exact ⟨none, 0, by rw [h0], fun k hk => by omega⟩
  · refine ⟨some ⟨g, 0, none⟩, cap, rfl, fun k hk => ⟨g, 0, rfl, ⟨hb, (Array.getElem?_eq_some_iff.1 hg).1⟩, fun j hj => ?_⟩⟩
    have := h'.cellAt (k * 5 + j) (by omega)
    rw [Nat.zero_add, this, mfl_get ms k hk j hj]
end Go.Proofs.Ytdmpkeaanaoeaaa
