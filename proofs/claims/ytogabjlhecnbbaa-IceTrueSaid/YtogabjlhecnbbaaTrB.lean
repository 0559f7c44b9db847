/- Towards IceTrue: rows of u32, blocks of numbers that are written to, and what live does, step by step. -/
import Derived.Test.YtogabjlhecnbbaaTrueA
import Derived.Test.YtogabjlhecnbbaaEnA
import Derived.Test.YtogabjlhecnbbaaOpen
import Derived.Test.YtogabjlhecnbbaaClos
namespace Go.Proofs.Ytogabjlhecnbbaa
open Go.ChangeShapes Go.WideShapes Go.ChangeAt Go.RowKit Go.Shelf Go.Deep
section
variable {H : Type} {enc : TypeId × Value → H} {P : Program} {w : World} {base : Nat} {spare : Nat → Bool} {held : Bool}
/-- a slice, whatever its elements read as -/
theorem open_rowT {t E : TypeId} {k : Nat} (hk0 : 0 < k) (ht : P.underlying t = some (.slice E)) (hk : P.cellsOf E = k) {α : Type} (f : α → List Value → Prop)
    (he : ∀ n cs x, DataW.trod enc P w base spare held n E cs = some x → ∃ a, f a cs ∧ cs.length = k)
    {fuel : Nat} {c : Value} {x : DataW H × List MemPlace} (h : DataW.trod enc P w base spare held fuel t [c] = some x) :
    ∃ (L : List α) (A : Option Addr) (cap : Nat), c = .slice A L.length cap ∧ L.length ≤ cap ∧ cap ≤ maxLen ∧ (A = none → L.length = 0 ∧ cap = 0) ∧ ∀ i (h : i < L.length), ∃ g o cs, A = some ⟨g, o, none⟩ ∧ g < w.heap.size ∧ f L[i] cs ∧ ∀ j, j < k → w.cell? ⟨g, o + (i * k + j), none⟩ = cs[j]? := by
  rcases open_slice ht h with ⟨h0, -⟩ | ⟨a, len, cap, m, n, D, Pl, hcs, -, hl, hm, hmm, -, hx⟩
  · simp at h0
    subst h0
    exact ⟨[], none, 0, rfl, by simp, by simp [maxLen], by simp, fun i h => absurd h (by simp)⟩
  · simp at hcs
    subst hcs
    have hlm : len ≤ m := by rw [hmm]; split <;> omega
    have hall : ∀ i, i < len → ∃ y : α × List Value, (f y.1 y.2 ∧ y.2.length = k) ∧ ∀ j (hj : j < k), w.cell? (a.add (i * k + j)) = y.2[j]? := fun i hi => by
      obtain ⟨cs', hc, ht'⟩ := hx i (by omega)
      rw [hk] at hc
      obtain ⟨-, hcl, hat⟩ := World.cells?_some hc
      obtain ⟨y, hf, hyl⟩ := he _ _ _ ht'
      refine ⟨(y, cs'), ⟨hf, hyl⟩, fun j hj => ?_⟩
      have := hat j (by omega)
      rw [add_add] at this
      rw [this]
    by_cases hl0 : len = 0
    · subst hl0
      exact ⟨[], some a, cap, rfl, by simp, hm, fun h => (by cases h), fun i h => absurd h (by simp)⟩
    haveI : Inhabited (α × List Value) := ⟨(hall 0 (by omega)).choose⟩
    obtain ⟨g, hfs⟩ := choose_lt hall
    refine ⟨(List.range len).map fun i => (g i).1, some a, cap, by simp, by simpa using hl, hm, fun h => (by cases h), ?_⟩
    intro i hi
    have hi' : i < len := by simpa using hi
    have h00 := (hfs 0 (by omega)).2 0 hk0
    rw [show 0 * k + 0 = 0 by omega, show a.add 0 = a from rfl, List.getElem?_eq_getElem (by have := (hfs 0 (by omega)).1.2; omega)] at h00
    obtain ⟨hs, hb⟩ := cell_spot h00
    refine ⟨a.block, a.off, (g i).2, by obtain ⟨_, _, _⟩ := a; cases hs; rfl, hb, ?_, fun j hj => ?_⟩
    · simp only [List.getElem_map, List.getElem_range]
      exact (hfs i hi').1.1
    · have := (hfs i hi').2 j hj
      rw [add_some hs] at this
      exact this
def URow (w : World) (B : Nat) (A : Option Addr) (l : List Int) : Prop :=
  ∀ k (h : k < l.length), ∃ g o, A = some ⟨g, o, none⟩ ∧ g < B ∧ w.cell? ⟨g, o + k, none⟩ = some (.int .u32 l[k])
theorem URow.below {w w' : World} {B : Nat} {A : Option Addr} {l : List Int} (h : URow w B A l) (hb : Below B w w') : URow w' B A l := fun k hk => by
  obtain ⟨g, o, e, hg, c⟩ := h k hk
  exact ⟨g, o, e, hg, (hb.cell (p := ⟨g, _, none⟩) hg).trans c⟩
theorem cells62 : Try.prog.cellsOf 62 = 1 := by kernel_rfl
theorem u32_cells (n : Nat) (cs : List Value) (x : DataW H × List MemPlace) (h : DataW.trod enc Try.prog w base spare held n 62 cs = some x) : ∃ a : Int, (cs = [.int .u32 a] ∧ 0 ≤ a ∧ a ≤ 4294967295) ∧ cs.length = 1 := by
  obtain ⟨a, rfl, _, hw⟩ := DataW.trod_int Try.underlying62 h
  exact ⟨a, ⟨rfl, Go.bounds_u32 hw⟩, rfl⟩
set_option maxRecDepth 100000 in
theorem open_u32s {r : Reach} {b0 : Nat} {v : Value} {d : DataW H} {p : List MemPlace} (hv : Value.okWide Try.prog w r b0 55 v) (h : DataW.Trod enc Try.prog w base spare held 55 v d p) :
    ∃ (l : List Int) (A : Option Addr) (cap : Nat), v = .slice A l.length cap ∧ l.length ≤ 9223372036854775807 ∧ (∀ s ∈ l, 0 ≤ s ∧ s ≤ 4294967295) ∧ URow w w.heap.size A l := by
  obtain ⟨A0, len0, cap0, rfl⟩ := okWide_slice Try.underlying55 hv
  obtain ⟨fuel, hf⟩ := h
  obtain ⟨L, A, cap, e, h1, h2, -, h4⟩ := open_rowT (by omega) Try.underlying55 cells62 (fun (s : Int) cs => cs = [.int .u32 s] ∧ 0 ≤ s ∧ s ≤ 4294967295) u32_cells (c := .slice A0 len0 cap0) hf
  have h2' : cap ≤ 9223372036854775807 := h2
  refine ⟨L, A, cap, e, by omega, fun s hs => ?_, fun k hk => ?_⟩
  · obtain ⟨i, hi, rfl⟩ := List.mem_iff_getElem.1 hs
    obtain ⟨g, o, cs, e, hg, ⟨-, hw⟩, -⟩ := h4 i hi
    exact hw
  · obtain ⟨g, o, cs, e, hg, ⟨rfl, -⟩, hc⟩ := h4 k hk
    exact ⟨g, o, e, hg, by simpa using hc 0 (by omega)⟩
end
/-- a block of numbers -/
def IMem (w : World) (B : Nat) (l : List Int) : Prop := ∃ cur, Has w B 3 cur ∧ l.length ≤ cur.size ∧ ∀ k (h : k < l.length), cur[k]? = some (iv l[k])
section
variable {w w' : World} {B : Nat} {l : List Int}
theorem IMem.lt (h : IMem w B l) : B < w.heap.size := by obtain ⟨_, h, _⟩ := h; exact h.lt
theorem IMem.cell (h : IMem w B l) {k : Nat} (hk : k < l.length) : w.cell? ⟨B, k, none⟩ = some (iv (l.getD k 0)) := by
  obtain ⟨cur, h1, _, h2⟩ := h
  rw [h1.cell, h2 k hk]
  simp [hk]
theorem IMem.frozen (h : IMem w B l) (k : Nat) : w.frozen? ⟨B, k, none⟩ = false := by obtain ⟨cur, h1, _⟩ := h; exact h1.frozen k
theorem IMem.only {S : Nat → Prop} (h : IMem w B l) (ho : Only S w w') (hS : ¬ S B) : IMem w' B l := by
  obtain ⟨cur, h1, h2⟩ := h
  exact ⟨cur, h1.only ho hS, h2⟩
theorem IMem.step (h : IMem w B l) (hb : Below w.heap.size w w') : IMem w' B l := by
  obtain ⟨cur, h1, h2⟩ := h
  exact ⟨cur, h1.below hb h1.lt, h2⟩
theorem IMem.set (h : IMem w B l) (k : Nat) (n : Int) : IMem (w.setCell ⟨B, k, none⟩ (iv n)) B (l.set k n) := by
  obtain ⟨cur, h1, h2, h3⟩ := h
  refine ⟨_, h1.set k (iv n), by simpa using h2, fun j hj => ?_⟩
  simp only [List.length_set] at hj
  by_cases hjk : k = j
  · subst hjk
    rw [Array.getElem?_setIfInBounds_self]
    simp
    omega
  · rw [Array.getElem?_setIfInBounds_ne hjk, h3 j hj]
    simp [hjk]
theorem IMem.of_own {base cap : Nat} (h : w.ownsRow base 3 1 (.slice (some ⟨B, 0, none⟩) l.length cap) l.length (l.map iv)) : IMem w B l := by
  obtain ⟨_, (⟨h0, _⟩ | ⟨g, cap', cur, hv, hb, hg, h1, h2, h3, h4⟩)⟩ := h
  · cases h0
  · obtain ⟨rfl, rfl⟩ : B = g ∧ cap = cap' := by simpa using hv
    refine ⟨cur, hg, ?_, fun k hk => ?_⟩
    · have := congrArg List.length h4
      simp at this
      omega
    · have := congrArg (fun x : List Value => x[k]?) h4
      simp only [Nat.mul_one, List.getElem?_take_of_lt hk] at this
      simpa [hk] using this
end
/-- bounds of what is true -/
structure TB (t : Tr) (c : Int) : Prop where
  i : ∀ x ∈ t.ice, 0 ≤ x ∧ x ≤ c
  f : 0 ≤ t.fr ∧ t.fr ≤ c
  p : 0 ≤ t.pl ∧ t.pl ≤ c
  w : 0 ≤ t.wo ∧ t.wo ≤ c
theorem TB.mono {t : Tr} {c c' : Int} (h : TB t c) (hc : c ≤ c') : TB t c' :=
  ⟨fun x hx => by have := h.i x hx; omega, by have := h.f; omega, by have := h.p; omega, by have := h.w; omega⟩
theorem TB.at_ {t : Tr} {c : Int} (h : TB t c) {k : Nat} (hk : k < t.ice.length) : 0 ≤ t.ice.getD k 0 ∧ t.ice.getD k 0 ≤ c := by
  have : t.ice.getD k 0 = t.ice[k] := by simp [hk]
  rw [this]; exact h.i _ (List.getElem_mem hk)
theorem mem_set_or {l : List Int} {k : Nat} {v x : Int} (h : x ∈ l.set k v) : x ∈ l ∨ x = v := List.mem_or_eq_of_mem_set h
theorem TB.liveK {e : Ev} {b : Int} {k : Nat} {t : Tr} {c : Int} (h : TB t c) (hk : k < t.ice.length) (hw : e.k = 4 ∨ win e.x e.y = true) : TB (liveK e b k t) (c + 20000) := by
  have ha := h.at_ hk
  have hf := h.f
  have hp := h.p
  have hwo := h.w
  rw [win_iff] at hw
  unfold Ytogabjlhecnbbaa.liveK
  have h' := h.mono (show c ≤ c + 20000 by omega)
  split
  · exact ⟨h'.i, h'.f, h'.p, h'.w⟩
  rename_i h4
  split
  · exact h'
  have hn := inn_in (b := b) (show e.x ≤ e.y by omega)
  split
  · refine ⟨fun x hx => ?_, by simp only; omega, by simp only; omega, by simp only; omega⟩
    rcases mem_set_or hx with hx | rfl
    · have := h.i x hx; omega
    · omega
  split
  · refine ⟨fun x hx => ?_, by simp only; omega, by simp only; omega, by simp only; omega⟩
    rcases mem_set_or hx with hx | rfl
    · have := h.i x hx; omega
    · omega
  · refine ⟨fun x hx => ?_, by simp only; omega, by simp only; omega, by simp only; omega⟩
    rcases mem_set_or hx with hx | rfl
    · have := h.i x hx; omega
    · omega
theorem liveK_len (e : Ev) (b : Int) (k : Nat) (t : Tr) : (liveK e b k t).ice.length = t.ice.length ∧ (liveK e b k t).paint.length = t.paint.length := by
  unfold liveK
  split
  · simp
  split
  · simp
  split
  · simp
  split
  · simp
  · simp
theorem liveN_snoc (e : Ev) (bs : Nat → Int) : ∀ (n i : Nat) (t : Tr), liveN e bs i (n + 1) t = liveK e (bs (i + n)) (i + n) (liveN e bs i n t)
  | 0, i, t => rfl
  | n + 1, i, t => by
    rw [liveN, liveN_snoc e bs n (i + 1)]
    rw [show i + 1 + n = i + (n + 1) by omega]
    rfl
theorem liveN_len (e : Ev) (bs : Nat → Int) : ∀ (n i : Nat) (t : Tr), (liveN e bs i n t).ice.length = t.ice.length ∧ (liveN e bs i n t).paint.length = t.paint.length
  | 0, _, _ => ⟨rfl, rfl⟩
  | n + 1, i, t => by
    rw [liveN]
    obtain ⟨h1, h2⟩ := liveN_len e bs n (i + 1) (liveK e (bs i) i t)
    obtain ⟨h3, h4⟩ := liveK_len e (bs i) i t
    exact ⟨h1.trans h3, h2.trans h4⟩
theorem liveN_tb {e : Ev} (bs : Nat → Int) (hw : e.k = 4 ∨ win e.x e.y = true) : ∀ (n i : Nat) (t : Tr) (c : Int), i + n ≤ t.ice.length → TB t c → TB (liveN e bs i n t) (c + n * 20000)
  | 0, _, _, _, _, h => h.mono (by omega)
  | n + 1, i, t, c, hi, h => by
    rw [liveN]
    exact (liveN_tb bs hw n (i + 1) _ _ (by rw [(liveK_len e (bs i) i t).1]; omega) (h.liveK (by omega) hw)).mono (by omega)
theorem liveL_snoc (by' : Nat → Nat → Int) (x : Ev) : ∀ (l : List Ev) (i : Nat) (t : Tr), liveL by' (l ++ [x]) i t = ((liveL by' l i t).1 ++ [rightE x (liveL by' l i t).2], liveE (by' (i + l.length)) x (liveL by' l i t).2)
  | [], i, t => rfl
  | e :: l, i, t => by
    simp only [List.cons_append, liveL]
    rw [liveL_snoc by' x l (i + 1)]
    simp only [List.length_cons]
    rw [show i + 1 + l.length = i + (l.length + 1) by omega]
theorem liveL_len1 (by' : Nat → Nat → Int) : ∀ (l : List Ev) (i : Nat) (t : Tr), (liveL by' l i t).1.length = l.length
  | [], _, _ => rfl
  | e :: l, i, t => by simp only [liveL, List.length_cons, liveL_len1 by' l]
theorem liveE_len (bs : Nat → Int) (e : Ev) (t : Tr) : (liveE bs e t).ice.length = t.ice.length ∧ (liveE bs e t).paint.length = t.paint.length := liveN_len e bs _ _ _
theorem liveL_len2 (by' : Nat → Nat → Int) : ∀ (l : List Ev) (i : Nat) (t : Tr), (liveL by' l i t).2.ice.length = t.ice.length ∧ (liveL by' l i t).2.paint.length = t.paint.length
  | [], _, _ => ⟨rfl, rfl⟩
  | e :: l, i, t => by
    simp only [liveL]
    obtain ⟨h1, h2⟩ := liveL_len2 by' l (i + 1) (liveE (by' i) e t)
    obtain ⟨h3, h4⟩ := liveE_len (by' i) e t
    exact ⟨h1.trans h3, h2.trans h4⟩
theorem ev_parts {e : Ev} {n : Nat} (hok : e.ok n = true) : (0 ≤ e.k ∧ e.k < 5) ∧ 0 ≤ e.f ∧ e.f ≤ e.last ∧ e.last < n ∧ (e.k = 4 ∨ win e.x e.y = true) := by
  simp only [Ev.ok, Bool.and_eq_true, decide_eq_true_eq, Bool.or_eq_true] at hok
  have hlast : e.last < n ∧ e.f ≤ e.last := by unfold Ev.last; split <;> omega
  exact ⟨by omega, by omega, hlast.2, hlast.1, hok.2⟩
theorem liveL_tb (by' : Nat → Nat → Int) {n : Nat} (hn : n ≤ 24) : ∀ (l : List Ev) (i : Nat) (t : Tr) (c : Int), t.ice.length = n → (∀ e ∈ l, e.ok n = true) → TB t c → TB (liveL by' l i t).2 (c + l.length * 480000)
  | [], _, _, _, _, _, h => h.mono (by simp)
  | e :: l, i, t, c, hl, hok, h => by
    simp only [liveL]
    obtain ⟨h1, h2, h3, h4, h5⟩ := ev_parts (hok e (by simp))
    have hE : TB (liveE (by' i) e t) (c + 480000) := by
      unfold liveE
      exact (liveN_tb (by' i) h5 _ _ t c (by omega) h).mono (by omega)
    exact (liveL_tb by' hn l (i + 1) _ _ ((liveE_len (by' i) e t).1.trans hl) (fun e' he' => hok e' (by simp [he'])) hE).mono (by simp only [List.length_cons]; omega)
end Go.Proofs.Ytogabjlhecnbbaa
