/- Contracts: the sort of calls by their places. -/
import Derived.Test.YtmclchaalmonnaaScJ
namespace Go.Proofs.Ytmclchaalmonnaa
open Go.RowKit Go.Shelf Go.Lib Go.Sort
/-- a call, where its marks lie, and where it stood -/
structure En where
  c : Cl
  M : Option Addr
  m : Nat
  at_ : Nat
instance : Inhabited En := ⟨⟨⟨0, 0, 0, false, false, []⟩, none, 0, 0⟩⟩
def encE (e : En) : List Value := [.int .i64 e.c.place, .int .i64 e.c.element, .int .i64 e.c.under, .bool e.c.late, .bool e.c.fall, .slice e.M e.c.marks.length e.m, .int .i64 e.at_]
theorem encE_len (e : En) : (encE e).length = 7 := rfl
theorem encE_one (e : En) : ∀ v ∈ encE e, v.oneCell' = true := by
  intro v hv
  simp only [encE, List.mem_cons, List.not_mem_nil, or_false] at hv
  rcases hv with rfl | rfl | rfl | rfl | rfl | rfl | rfl <;> rfl
def keyE (x y : En) : Int := compareInt x.c.place y.c.place
theorem ltE (x y : En) : ltOf keyE x y = decide (x.c.place < y.c.place) := by
  unfold ltOf keyE compareInt
  by_cases h1 : x.c.place < y.c.place
  · simp [h1]
  · by_cases h2 : y.c.place < x.c.place <;> simp [h1, h2]
theorem swoE : SWO (ltOf keyE) where
  irrefl x := by rw [ltE]; simp
  trans x y z h1 h2 := by rw [ltE] at *; simp at *; omega
  ntrans x y z h1 h2 := by rw [ltE] at *; simp at *; omega
set_option maxRecDepth 100000 in
set_option maxHeartbeats 1000000 in
theorem closure66 (x y : En) (W : World) : Calls Try.prog 66 #[.agg (encE x).toArray, .agg (encE y).toArray] W fun e w' => e = .returned (.int .i64 (keyE x y)) ∧ ∃ q os', w' = grow (W.drewN q) os' := by
  have hcon := Lib.hid (fun W' => Go.Proofs.Try.cmp_Compare_int x.c.place y.c.place W')
  have hk : Hid (keyE x y = compareInt x.c.place y.c.place) := Lib.hid rfl
  generalize compareInt x.c.place y.c.place = r at hcon hk
  unfold encE
  go_enter Try.func66, Try.ntmps66
  go_wp2_with fail
  refine (hcon.out _).mono ?_
  rintro e w2 ⟨rfl, rfl⟩
  go_wp2_with fail
  go_ret
  exact ⟨ret_int hk.out.symm, 0, _, by rw [alloc_eq_grow, alloc_eq_grow, grow_grow]; rfl⟩
theorem enters66 : ∀ args w, (callFunc 66 args).run Try.prog w = .ok (.enter 66 args) w := enters_of Try.func66 (by kernel_rfl) rfl
/-- entries in a block -/
def ERow (w : World) (D : Nat) (E : List En) : Prop := ∀ i (h : i < E.length) j, j < 7 → w.cell? ⟨D, i * 7 + j, none⟩ = (encE E[i])[j]?
theorem ERow.below {w w' : World} {D B : Nat} {E : List En} (h : ERow w D E) (hb : Below B w w') (hD : D < B) : ERow w' D E := fun i hi j hj => (hb.cell (p := ⟨D, _, none⟩) hD).trans (h i hi j hj)
theorem holdsE {w : World} {D : Nat} {E : List En} (h : ERow w D E) (hf : ∀ i, w.frozen? ⟨D, i, none⟩ = false) : HoldsK encE 7 w D 0 E.toArray := by
  intro j hj
  rw [size_flatK] at hj
  simp only [List.size_toArray] at hj
  refine ⟨?_, hf _⟩
  have h1 := get_flatK encE 7 E.toArray j (by simpa using hj)
  rw [h1, Nat.zero_add]
  have hi : j / 7 < E.length := by omega
  have h2 := h (j / 7) hi (j % 7) (Nat.mod_lt _ (by omega))
  rw [show j / 7 * 7 + j % 7 = j by omega] at h2
  rw [h2]
  have h3 : (E.toArray)[j / 7]! = E[j / 7] := by rw [getElem!_pos _ _ (by simpa using hi)]; simp
  rw [h3]
  have h4 : j % 7 < (encE E[j / 7]).length := by rw [encE_len]; exact Nat.mod_lt _ (by omega)
  rw [List.getElem?_eq_getElem h4, getElem!_pos (encE E[j / 7]) (j % 7) h4]; rfl
theorem erow_of {w : World} {D : Nat} {d : Array En} (h : HoldsK encE 7 w D 0 d) : ERow w D d.toList := by
  intro i hi j hj
  have hi' : i < d.size := by simpa using hi
  have h1 := (h.cell (i := i) (c := j) hi' hj).1
  rw [getElem!_pos d i hi'] at h1
  have h4 : j < (encE d[i]).length := by rw [encE_len]; exact hj
  rw [getElem!_pos (encE d[i]) j h4, Nat.zero_add] at h1
  rw [h1]
  simp only [Array.getElem_toList]
  rw [List.getElem?_eq_getElem h4]
theorem sortWorld_below (w : World) (blk off m : Nat) (dk : Array En) (os : Array Obj) (hb : blk < w.heap.size) : Below blk w (sortWorldK encE 7 w blk off m dk os) := by
  unfold sortWorldK
  refine ⟨rfl, rfl, rfl, by rw [size_grow, size_putRowK]; exact Nat.le_add_right _ _, fun k hk => ?_⟩
  show ((putRowK encE 7 (Sort.ahead w m) blk off dk).heap ++ os)[k]? = w.heap[k]?
  rw [Array.getElem?_append_left (by rw [size_putRowK]; show k < w.heap.size; omega)]
  show (w.heap.modify blk _)[k]? = _
  rw [Array.getElem?_modify, if_neg (by omega)]
def SortPost (E : List En) (D : Nat) (w : World) (e : Ending) (w' : World) : Prop :=
  e = .returned (.tuple #[]) ∧ ∃ E' : List En, E'.Perm E ∧ E'.Pairwise (fun a b => a.c.place ≤ b.c.place) ∧ ERow w' D E' ∧ Below D w w' ∧ D < w'.heap.size
theorem sortE_any (E : List En) (D cap : Nat) (w : World) (h : ERow w D E) (hf : ∀ i, w.frozen? ⟨D, i, none⟩ = false) (hD : D < w.heap.size) (hl : E.length ≤ 1000) :
    Calls Try.prog 65 #[.slice (some ⟨D, 0, none⟩) E.length cap, .func (.func 66) #[] #[]] w (SortPost E D w) := by
  have hH := holdsE h hf
  have hcmp : CmpLays Try.prog 66 #[] encE 7 keyE D 0 E.toArray.size w := fun _ _ _ _ x y => closure66 x y _
  have hcon := AnyQ.slices_SortFunc Try.sortEn 7 Try.isAgg102 Try.sizeOf102 encE encE_len encE_one keyE swoE 66 #[] D 0 cap E.toArray w enters66 hcmp hH hD (by simp; omega)
  change Calls Try.prog 65 _ _ _ at hcon
  rw [List.size_toArray] at hcon
  refine hcon.mono ?_
  rintro e w' ⟨rfl, d', n, os, hp, hs, rfl⟩
  obtain ⟨h1, -, h3⟩ := hp
  have hbw := sortWorld_below w D 0 n d' os hD
  refine ⟨rfl, d'.toList, ?_, ?_, erow_of (holdsK_sortWorldK_c encE 7 w D 0 E.toArray d' n os hH hD h1), hbw, by have := hbw.size; omega⟩
  · have e1 : (d'.extract 0 E.length) = d' := by rw [← show d'.size = E.length by rw [h1]; simp]; simp
    have e2 : (E.toArray.extract 0 E.length) = E.toArray := by simp
    rw [e1, e2] at h3
    exact h3
  · rw [List.pairwise_iff_getElem]
    intro i j hi hj hij
    have hi' : i < d'.size := by simpa using hi
    have hj' : j < d'.size := by simpa using hj
    have := hs i j (Nat.zero_le _) hij (by rw [h1] at hj'; simpa using hj')
    rw [ltE, getElem!_pos d' j hj', getElem!_pos d' i hi'] at this
    simp at this
    simpa using this
end Go.Proofs.Ytmclchaalmonnaa
