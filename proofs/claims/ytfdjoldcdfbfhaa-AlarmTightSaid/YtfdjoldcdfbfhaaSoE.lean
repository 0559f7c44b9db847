/- inOrder. -/
import Derived.Test.YtfdjoldcdfbfhaaSoD
namespace Go.Proofs.Ytfdjoldcdfbfhaa
open Go.Shelf Go.RowKit Go.Lib Go.Sort
def OrderPost (key : Sn → Int) (l : List Sn) (W : World) (e : Ending) (W' : World) : Prop :=
  ∃ g cap l', e = .returned (.slice (some ⟨g, 0, none⟩) l.length cap) ∧ Below W.heap.size W W' ∧ W.heap.size ≤ g ∧ NRow W' W'.heap.size (some ⟨g, 0, none⟩) l' ∧ l'.Perm l ∧ l'.Pairwise (fun a b => key a ≤ key b)
theorem exists_valid (l : List Sn) (hv : ∀ s ∈ l, vS s) : ∃ d : Array VSn, d.size = l.length ∧ d.toList.map (·.1) = l := by
  induction l with
  | nil => exact ⟨#[], rfl, rfl⟩
  | cons a l ih =>
    obtain ⟨d, h1, h2⟩ := ih fun s hs => hv s (List.mem_cons_of_mem _ hs)
    refine ⟨((⟨a, hv a List.mem_cons_self⟩ : VSn) :: d.toList).toArray, by show d.toList.length + 1 = l.length + 1; rw [Array.length_toList, h1], ?_⟩
    show a :: d.toList.map (·.1) = a :: l
    rw [h2]
set_option maxRecDepth 100000 in
set_option maxHeartbeats 1000000 in
theorem inOrder_any (key : Sn → Int) (fn : Nat) (lb : Array Value) (l : List Sn) (A : Option Addr) (cap : Nat) (W : World) (hk : KeyF W fn lb key) (hr : NRow W W.heap.size A l) (hv : ∀ s ∈ l, vS s) (h1 : 1 ≤ l.length) (h12 : l.length ≤ 19) :
    Calls Try.prog 55 #[.slice A l.length cap, .func (.func fn) #[] lb] W (OrderPost key l W) := by
  obtain ⟨d, hd, hdl⟩ := exists_valid l hv
  have HK := Lib.hid hk
  have HR := Lib.hid hr
  have HD := Lib.hid hdl
  have HZ := Lib.hid hd
  clear hk hr hv hd hdl
  have hmf : ∀ (fn : Fn) (first cap : Array Value) (w : World), (Instr.makeFunc fn first cap).run Try.prog w = .ok (.func fn first cap) w := fun _ _ _ _ => rfl
  go_enter Try.func55, Try.ntmps55
  go_wp2_with fail
  refine (clone_any l A cap _ (HR.out.step (below_one W _)) h1 (by omega)).mono ?_
  rintro e w1 ⟨g, cap1, cur, rfl, hb, hg, hh, hc⟩
  have hbW : Below W.heap.size W w1 := below_seq (below_one W _) hb
  have hpc : w1.cell? ⟨W.heap.size, 0, none⟩ = some (.func (.func fn) #[] lb) := (hb.cell (p := ⟨W.heap.size, 0, none⟩) (by simp)).trans ((Has.new W 86 #[.func (.func fn) #[] lb]).cell 0)
  have hgW : W.heap.size < g := by simp at hg; omega
  have hH : HoldsK encV 3 w1 g 0 d := holds_of_has d hh (by rw [HD.out, HZ.out]; exact hc)
  have HH := Lib.hid (And.intro hbW (And.intro hpc (And.intro hgW (And.intro hH hh))))
  clear hb hg hh hc hbW hpc hgW hH
  go_wp2_with fail
  rw [← HZ.out]
  refine (sortStable_any key fn lb ⟨W.heap.size, 0, none⟩ d g cap1 W w1 HK.out HH.out.1 (by have := HH.out.2.2.1; omega) HH.out.2.2.2.2.lt HH.out.2.1 HH.out.2.2.1 HH.out.2.2.2.1 (by rw [HZ.out]; exact h12)).mono ?_
  rintro e w2 ⟨rfl, hb2, hg2, d', hd', hH', hp', hs'⟩
  have H2 := Lib.hid (And.intro hb2 (And.intro hg2 (And.intro hH' (And.intro hp' (And.intro hs' hd')))))
  clear hb2 hg2 hH' hp' hs' hd'
  go_wp2_with fail
  go_ret
  obtain ⟨hb2, hg2, hH', hp', hs', hd'⟩ := H2.out
  refine ⟨g, cap1, d'.toList.map (·.1), by rw [← HZ.out]; rfl, HH.out.1.trans (hb2.mono (by have := HH.out.2.2.1; omega)), by have := HH.out.2.2.1; omega, nrow_of_holds hH' hg2, ?_, hs'⟩
  rw [HD.out] at hp'; exact hp'
end Go.Proofs.Ytfdjoldcdfbfhaa
