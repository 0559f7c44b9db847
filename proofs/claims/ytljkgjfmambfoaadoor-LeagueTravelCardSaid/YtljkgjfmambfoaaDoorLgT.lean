/- Contracts: the sort of rows. -/
import Derived.Test.YtljkgjfmambfoaaDoorLgS
import Derived.Shelf.SlSortCmp.NoneTotal
namespace Go.Proofs.YtljkgjfmambfoaaDoor
open Go.RowKit Go.Shelf Go.Lib Go.Sort
/-- a row of small numbers, as a type -/
structure BRw where
  r : Rw
  ok : RN r
instance : Inhabited BRw := ⟨⟨⟨0, 0, 0, 0, 0, 0⟩, ⟨by decide, by decide, by decide⟩⟩⟩
def encR (b : BRw) : List Value := (rwc b.r).toList
theorem encR_len (e : BRw) : (encR e).length = 6 := rfl
theorem encR_one (e : BRw) : ∀ v ∈ encR e, v.oneCell' = true := rwc_one e.r
def keyB (x y : BRw) : Int := cmpRw x.r y.r
theorem ltB (x y : BRw) : ltOf keyB x y = aheadRw x.r y.r := rfl
theorem swoB : SWO (ltOf keyB) where
  irrefl x := by rw [ltB]; exact ahead_irrefl _
  trans x y z h1 h2 := by rw [ltB] at *; exact ahead_trans h1 h2
  ntrans x y z h1 h2 := by rw [ltB] at *; exact not_ahead_trans h2 h1
theorem enters76 : ∀ args w, (callFunc 76 args).run Tryd.prog w = .ok (.enter 76 args) w := enters_of Tryd.func76 (by kernel_rfl) rfl
/-- rows in a block -/
def BRow (w : World) (D : Nat) (E : List BRw) : Prop := ∀ i (h : i < E.length) j, j < 6 → w.cell? ⟨D, i * 6 + j, none⟩ = (encR E[i])[j]?
theorem holdsB {w : World} {D : Nat} {E : List BRw} (h : BRow w D E) (hf : ∀ i, w.frozen? ⟨D, i, none⟩ = false) : HoldsK encR 6 w D 0 E.toArray := by
  intro j hj
  rw [size_flatK] at hj
  simp only [List.size_toArray] at hj
  refine ⟨?_, hf _⟩
  have h1 := get_flatK encR 6 E.toArray j (by simpa using hj)
  rw [h1, Nat.zero_add]
  have hi : j / 6 < E.length := by omega
  have h2 := h (j / 6) hi (j % 6) (Nat.mod_lt _ (by omega))
  rw [show j / 6 * 6 + j % 6 = j by omega] at h2
  rw [h2]
  have h3 : (E.toArray)[j / 6]! = E[j / 6] := by rw [getElem!_pos _ _ (by simpa using hi)]; simp
  rw [h3]
  have h4 : j % 6 < (encR E[j / 6]).length := by rw [encR_len]; exact Nat.mod_lt _ (by omega)
  rw [List.getElem?_eq_getElem h4, getElem!_pos (encR E[j / 6]) (j % 6) h4]; rfl
theorem brow_of {w : World} {D : Nat} {d : Array BRw} (h : HoldsK encR 6 w D 0 d) : BRow w D d.toList := by
  intro i hi j hj
  have hi' : i < d.size := by simpa using hi
  have h1 := (h.cell (i := i) (c := j) hi' hj).1
  rw [getElem!_pos d i hi'] at h1
  have h4 : j < (encR d[i]).length := by rw [encR_len]; exact hj
  rw [getElem!_pos (encR d[i]) j h4, Nat.zero_add] at h1
  rw [h1]
  simp only [Array.getElem_toList]
  rw [List.getElem?_eq_getElem h4]
theorem sortWorld_below (w : World) (blk off m : Nat) (dk : Array BRw) (os : Array Obj) (hb : blk < w.heap.size) : Below blk w (sortWorldK encR 6 w blk off m dk os) := by
  unfold sortWorldK
  refine ⟨rfl, rfl, rfl, by rw [size_grow, size_putRowK]; exact Nat.le_add_right _ _, fun k hk => ?_⟩
  show ((putRowK encR 6 (Sort.ahead w m) blk off dk).heap ++ os)[k]? = w.heap[k]?
  rw [Array.getElem?_append_left (by rw [size_putRowK]; show k < w.heap.size; omega)]
  show (w.heap.modify blk _)[k]? = _
  rw [Array.getElem?_modify, if_neg (by omega)]
theorem brw_ex : ∀ l : List Rw, (∀ r ∈ l, RN r) → ∃ E : List BRw, E.map (·.r) = l
  | [], _ => ⟨[], rfl⟩
  | a :: l, h => by
    obtain ⟨E, hE⟩ := brw_ex l (fun r hr => h r (by simp [hr]))
    exact ⟨⟨a, h a (by simp)⟩ :: E, by rw [List.map_cons, hE]⟩
def SortPost (l : List Rw) (D : Nat) (w : World) (e : Ending) (w' : World) : Prop :=
  e = .returned (.tuple #[]) ∧ (∀ i (h : i < l.length) j, j < 6 → w'.cell? ⟨D, i * 6 + j, none⟩ = (rwc l[i])[j]?) ∧ Below D w w' ∧ D < w'.heap.size
theorem sortR_any (l : List Rw) (D cap h : Nat) (w : World) (hl : ∀ r ∈ l, RN r) (hd : ∀ a ∈ l, ∀ b ∈ l, a.team = b.team → a = b) (hc : ∀ i (h : i < l.length) j, j < 6 → w.cell? ⟨D, i * 6 + j, none⟩ = (rwc l[i])[j]?) (hf : ∀ i, w.frozen? ⟨D, i, none⟩ = false) (hD : D < w.heap.size) (hn : l.length ≤ 1000)
    (ho : Ord w h) (hh : h + 6 < D) :
    Calls Tryd.prog 55 #[.slice (some ⟨D, 0, none⟩) l.length cap, .func (.func 76) #[] #[.pointer (some ⟨h + 6, 0, none⟩)]] w (SortPost (srtRw l) D w) := by
  obtain ⟨E, hE⟩ := brw_ex l hl
  have hEl : E.length = l.length := by rw [← hE]; simp
  have hrow : BRow w D E := fun i hi j hj => by
    have h1 := hc i (by omega) j hj
    have h2 : l[i]'(by omega) = E[i].r := by simp [← hE]
    rw [h1, h2]
    unfold encR
    simp
  have hH := holdsB hrow hf
  have hcmp : CmpLays Tryd.prog 76 #[.pointer (some ⟨h + 6, 0, none⟩)] encR 6 keyB D 0 E.toArray.size w := fun m os dk _ x y => by
    have := turn_any x.r y.r h (sortWorldK encR 6 w D 0 m dk os) x.ok y.ok (ho.below (sortWorld_below w D 0 m dk os hD) hh)
    exact this
  have hcon := AnyQ.slices_SortFunc Tryd.sortRw 6 Tryd.isAgg66 Tryd.sizeOf66 encR encR_len encR_one keyB swoB 76 #[.pointer (some ⟨h + 6, 0, none⟩)] D 0 cap E.toArray w enters76 hcmp hH hD (by simp; omega)
  change Calls Tryd.prog 55 _ _ _ at hcon
  rw [List.size_toArray, hEl] at hcon
  refine hcon.mono ?_
  rintro e w' ⟨rfl, d', n, os, hp, hs, rfl⟩
  obtain ⟨h1, -, h3⟩ := hp
  have hbw := sortWorld_below w D 0 n d' os hD
  have hperm : d'.toList.Perm E := by
    have e1 : (d'.extract 0 l.length) = d' := by rw [← show d'.size = l.length by rw [h1]; simp [hEl]]; simp
    have e2 : (E.toArray.extract 0 l.length) = E.toArray := by rw [← hEl]; simp
    rw [e1, e2] at h3
    exact h3
  have hpm : (d'.toList.map (·.r)).Perm l := by rw [← hE]; exact hperm.map _
  have hpw : (d'.toList.map (·.r)).Pairwise (fun x y => aheadRw y x = false) := by
    rw [List.pairwise_map, List.pairwise_iff_getElem]
    intro i j hi hj hij
    have hi' : i < d'.size := by simpa using hi
    have hj' : j < d'.size := by simpa using hj
    have := hs i j (Nat.zero_le _) hij (by rw [h1] at hj'; simp at hj'; omega)
    rw [ltB, getElem!_pos d' j hj', getElem!_pos d' i hi'] at this
    simpa using this
  have heq : d'.toList.map (·.r) = srtRw l := sortRw_unique (hpm.trans (srtRw_perm l).symm) (fun a ha b hb => hd a (hpm.mem_iff.1 ha) b (hpm.mem_iff.1 hb)) hpw (srtRw_sorted l)
  have hrow' := brow_of (holdsK_sortWorldK_c encR 6 w D 0 E.toArray d' n os hH hD h1)
  refine ⟨rfl, fun i hi j hj => ?_, hbw, by have := hbw.size; omega⟩
  have hi2 : i < d'.toList.length := by rw [← heq] at hi; simpa using hi
  rw [hrow' i hi2 j hj]
  have h2 : (srtRw l)[i] = (d'.toList[i]).r := by simp [← heq]
  rw [h2]
  unfold encR
  simp
theorem sortN_any (cap : Nat) (F : Value) (w : World) : Calls Tryd.prog 55 #[.slice none 0 cap, F] w fun e w' => e = .returned (.tuple #[]) ∧ w' = w := AnyF.slices_SortFunc_none Tryd.sortRw none cap F w
end Go.Proofs.YtljkgjfmambfoaaDoor
