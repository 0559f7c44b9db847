/- The sort of the sensors by their numbers: inOrder. -/
import Derived.Test.YtfdjoldcdfbfhaaSoC
namespace Go.Proofs.Ytfdjoldcdfbfhaa
open Go.Shelf Go.RowKit Go.Lib Go.Sort
def insLay_ren : Go.Shelf.Ren := ⟨fun | 20 => 70 | n => n, fun | 24 => 56 | 22 => 22 | 3 => 3 | 25 => 95 | 4 => 4 | 0 => 0 | n => n, fun | n => n⟩
theorem insLay : Go.Proofs.SlLaysF0.n20 Try.prog insLay_ren := {
  mixed := by kernel_rfl
  f20 := ⟨"slices.insertionSortCmpFunc[icehall/api.Sensor]", by decide, Try.func70.trans (congrArg some (by kernel_rfl))⟩
  t0 := Try.underlying0
  a0 := Try.isAgg0
  z0 := Try.sizeOf0
  v0 := Try.zeroValue0
  t3 := Try.underlying3
  a3 := Try.isAgg3
  z3 := Try.sizeOf3
  v3 := Try.zeroValue3
  t4 := Try.underlying4
  a4 := Try.isAgg4
  z4 := Try.sizeOf4
  v4 := Try.zeroValue4
  t22 := Try.underlying22
  a22 := Try.isAgg22
  z22 := Try.sizeOf22
  v22 := Try.zeroValue22
  t25 := Try.underlying95
  a25 := Try.isAgg95
  z25 := Try.sizeOf95
  v25 := Try.zeroValue95 }
def SortPost (key : Sn → Int) (d : Array VSn) (g : Nat) (w : World) (e : Ending) (w' : World) : Prop :=
  e = .returned (.tuple #[]) ∧ Below g w w' ∧ g < w'.heap.size ∧ ∃ d' : Array VSn, d'.size = d.size ∧ HoldsK encV 3 w' g 0 d' ∧ (d'.toList.map (·.1)).Perm (d.toList.map (·.1)) ∧ (d'.toList.map (·.1)).Pairwise (fun a b => key a ≤ key b)
theorem enters65 : ∀ args w, (callFunc 65 args).run Try.prog w = .ok (.enter 65 args) w := enters_of Try.func65 (by kernel_rfl) rfl
theorem ins_any (key : Sn → Int) (fn : Nat) (lb : Array Value) (p : Addr) (d : Array VSn) (g cap : Nat) (W w : World) (hk : KeyF W fn lb key) (hb : Below W.heap.size W w) (hg : W.heap.size ≤ g) (hgw : g < w.heap.size)
    (hc : w.cell? p = some (.func (.func fn) #[] lb)) (hp : p.block < g) (hH : HoldsK encV 3 w g 0 d) (h12 : d.size ≤ 20) :
    Calls Try.prog 70 #[.slice (some ⟨g, 0, none⟩) d.size cap, .int .i64 0, .int .i64 d.size, .func (.func 65) #[] #[.pointer (some p)]] w (SortPost key d g w) := by
  have hcmp : CmpLays Try.prog 65 #[.pointer (some p)] encV 3 (fun x y : VSn => compareInt (key x.1) (key y.1)) g 0 d.size w := by
    intro m os dk hdk x y
    have hbw := sortWorld_below w g 0 m dk os hgw
    have := cmp65 key fn lb x.1 y.1 p W (sortWorldK encV 3 w g 0 m dk os) hk (hb.trans (hbw.mono hg)) ((hbw.cell hp).trans hc) (by have := hbw.size; omega) x.2 y.2
    exact this
  have hcon := AnyQ.insertionSortCmpFunc insLay 3 isAgg56 sizeOf56 encV encV_len encV_one (fun x y : VSn => compareInt (key x.1) (key y.1)) 65 #[.pointer (some p)] g 0 cap 0 d.size d w enters65 hcmp hH hgw (Nat.zero_le _) (Nat.le_refl _) (by omega)
  change Calls Try.prog 70 _ _ _ at hcon
  refine hcon.mono ?_
  rintro e w' ⟨rfl, n, os, rfl⟩
  obtain ⟨hperm, hsort⟩ := insertionSort_holds (lt := ltOf fun x y : VSn => compareInt (key x.1) (key y.1)) (swo_key key) d 0 d.size (Nat.zero_le _) (Nat.le_refl _)
  generalize Sort.insertionSort (ltOf fun x y : VSn => compareInt (key x.1) (key y.1)) d 0 d.size = d' at hperm hsort
  obtain ⟨h1, -, h3⟩ := hperm
  have hbw := sortWorld_below w g 0 n d' os hgw
  refine ⟨rfl, hbw, by have := hbw.size; omega, d', h1, holdsK_sortWorldK_c encV 3 w g 0 d d' n os hH hgw h1, ?_, ?_⟩
  · have e1 : (d'.extract 0 d.size) = d' := by rw [← h1]; simp
    have e2 : (d.extract 0 d.size) = d := by simp
    rw [e1, e2] at h3
    exact h3.map _
  · rw [List.pairwise_map, List.pairwise_iff_getElem]
    intro i j hi hj hij
    have hi' : i < d'.size := by simpa using hi
    have hj' : j < d'.size := by simpa using hj
    have := hsort i j (Nat.zero_le _) hij (by omega)
    rw [ltOf_key, getElem!_pos d' j hj', getElem!_pos d' i hi'] at this
    simp at this
    simpa using this
set_option maxRecDepth 100000 in
set_option maxHeartbeats 1000000 in
theorem stable_any (key : Sn → Int) (fn : Nat) (lb : Array Value) (p : Addr) (d : Array VSn) (g cap : Nat) (W w : World) (hk : KeyF W fn lb key) (hb : Below W.heap.size W w) (hg : W.heap.size ≤ g) (hgw : g < w.heap.size)
    (hc : w.cell? p = some (.func (.func fn) #[] lb)) (hp : p.block < g) (hH : HoldsK encV 3 w g 0 d) (h12 : d.size ≤ 19) :
    Calls Try.prog 68 #[.slice (some ⟨g, 0, none⟩) d.size cap, .int .i64 d.size, .func (.func 65) #[] #[.pointer (some p)]] w (SortPost key d g w) := by
  have hcon := ins_any key fn lb p d g cap W w hk hb hg hgw hc hp hH (by omega)
  obtain ⟨R, hR⟩ : ∃ R, R = SortPost key d g w := ⟨_, rfl⟩
  have HR := Lib.hid hR
  rw [← hR] at hcon ⊢
  have hR2 : ∀ e w', R e w' → e = .returned (.tuple #[]) := by rw [hR]; exact fun e w' h => h.1
  have h20 : ¬ (20 : Int) ≤ d.size := by omega
  have h20' : ¬ (20 : Int) < d.size := by omega
  clear hk hb hg hgw hc hp hH hR
  go_enter Try.func68, Try.ntmps68
  go_wp2_with fail
  go_loopg [7, 8] 0 (fun g1 va vi wr => va = .int .i64 0 ∧ vi = .int .i64 20 ∧ wr = w)
  case atStart => exact ⟨rfl, rfl, rfl⟩
  case round =>
    obtain ⟨rfl, rfl, rfl⟩ := hrel
    go_wp2_with fail
    refine hcon.mono ?_
    rintro e w' h
    obtain rfl := hR2 _ _ h
    have HH := Lib.hid h
    clear h
    go_wp2_with fail
    go_loopg [6] 0 (fun g1 vi wr => vi = .int .i64 20 ∧ wr = w')
    case atStart => exact ⟨rfl, rfl⟩
    case round =>
      obtain ⟨rfl, rfl⟩ := hrel
      go_wp2_with fail
      go_end0
      exact HH.out
set_option maxRecDepth 100000 in
theorem sortStable_any (key : Sn → Int) (fn : Nat) (lb : Array Value) (p : Addr) (d : Array VSn) (g cap : Nat) (W w : World) (hk : KeyF W fn lb key) (hb : Below W.heap.size W w) (hg : W.heap.size ≤ g) (hgw : g < w.heap.size)
    (hc : w.cell? p = some (.func (.func fn) #[] lb)) (hp : p.block < g) (hH : HoldsK encV 3 w g 0 d) (h12 : d.size ≤ 19) :
    Calls Try.prog 64 #[.slice (some ⟨g, 0, none⟩) d.size cap, .func (.func 65) #[] #[.pointer (some p)]] w (SortPost key d g w) := by
  have hcon := stable_any key fn lb p d g cap W w hk hb hg hgw hc hp hH h12
  clear hk hb hg hgw hc hp hH
  go_enter Try.func64, Try.ntmps64
  go_wp2_with fail
  refine hcon.mono ?_
  rintro e w' h
  obtain rfl := h.1
  have HH := Lib.hid h
  clear h
  go_wp2_with fail
  go_end0
  exact HH.out
end Go.Proofs.Ytfdjoldcdfbfhaa
