/- Contracts: gamesOf, plays. -/
import Derived.Test.YtljkgjfmambfoaaDoorLgD
namespace Go.Proofs.YtljkgjfmambfoaaDoor
open Go.RowKit Go.Shelf
attribute [local go_sem] Oper.semAt_some
set_option maxRecDepth 100000 in
set_option maxHeartbeats 1000000 in
theorem gamesOf_any (A : Option Addr) (n c : Nat) (t : Int) (W : World) :
    Calls Tryd.prog 31 #[.slice A n c, .int .i64 t] W fun e w' => e = .returned (.func (.func 53) #[] #[.pointer (some ⟨W.heap.size, 0, none⟩), .pointer (some ⟨W.heap.size + 1, 0, none⟩)]) ∧ w' = (W.alloc (.cells #[.slice A n c] 23)).alloc (.cells #[.int .i64 t] 3) := by
  go_enter Tryd.func31, Tryd.ntmps31
  go_wp2_with fail
  go_ret
  exact ⟨rfl, rfl⟩
theorem git_new {W : World} {A : Option Addr} {G : List Gm} {c : Nat} {t : Int} (h : GRow W W.heap.size A G) (hl : G.length ≤ big) : GIt ((W.alloc (.cells #[.slice A G.length c] 23)).alloc (.cells #[.int .i64 t] 3)) W.heap.size (W.heap.size + 1) G t A c :=
  ⟨(Has.new _ _ _).alloc _, has_newAt (by simp), h.step (below_two W _ _), hl⟩
theorem only_cell (w : World) (B o : Nat) (v : Value) : Only (· = B) w (w.setCell ⟨B, o, none⟩ v) := (Only.refl (· = B) w).setCell (p := ⟨B, o, none⟩) (.inl rfl) _
theorem zip1 (t : Array Value) (i : Tmp) (u : Value) : (#[i].zip #[u]).foldl (fun tmps (p : Tmp × Value) => match p with | (t, a) => tmps.setIfInBounds t a) t = t.setIfInBounds i u := by simp [Array.zip]
theorem enters53 : Enters Tryd.prog 53 := enters_of Tryd.func53 (by kernel_rfl) rfl
theorem xs_at {t : Int} {G : List Gm} {k : Nat} {args : Array Value} (h : ((ofT t G).map fun g => #[gmv g])[k]? = some args) : ∃ g, (ofT t G)[k]? = some g ∧ args = #[gmv g] := by
  rw [List.getElem?_map] at h
  cases hk : (ofT t G)[k]? with
  | none => rw [hk] at h; cases h
  | some g => rw [hk] at h; cases h; exact ⟨g, rfl, rfl⟩
theorem xs_size {t : Int} {G : List Gm} : ∀ x ∈ ((ofT t G).map fun g => #[gmv g]), x.size = 1 := fun x hx => by
  obtain ⟨g, -, rfl⟩ := List.mem_map.1 hx
  rfl
theorem GIt.loop {w w' : World} {Bg Bt : Nat} {G : List Gm} {t : Int} {AG : Option Addr} {cg l : Nat} {rc : Loop} (h : GIt w Bg Bt G t AG cg) (hl : w.heap[l]? = some (.loop rc)) (ho : Only (· = l) w w') : GIt w' Bg Bt G t AG cg := by
  have hne : ∀ {D t' cs}, Has w D t' cs → ¬ D = l := fun hD e => by
    unfold Has at hD
    rw [e, hl] at hD
    cases hD
  refine ⟨h.fg.only ho (hne h.fg), h.ft.only ho (hne h.ft), fun k hk => ?_, h.l⟩
  obtain ⟨g, o, e, hg, hc⟩ := h.r k hk
  have c0 := hc 0 (by omega)
  have hgl : ¬ g = l := fun e' => by
    subst e'
    simp [World.cell?, hl] at c0
  exact ⟨g, o, e, by have := ho.size; omega, fun j hj => (World.cell?_of_block (ho.block g hg hgl)).trans (hc j hj)⟩
theorem has_ne_loop {w : World} {D l : Nat} {t : TypeId} {cs : Array Value} {rc : Loop} (hD : Has w D t cs) (hl : w.heap[l]? = some (.loop rc)) : ¬ D = l := fun e => by
  unfold Has at hD
  rw [e, hl] at hD
  cases hD
theorem below_loop {W w w' : World} {l : Nat} (h : Below W.heap.size W w) (hl : W.heap.size ≤ l) (ho : Only (· = l) w w') : Below W.heap.size W w' :=
  ⟨ho.os.trans h.os, ho.tape.trans h.tape, ho.output.trans h.output, Nat.le_trans h.size ho.size, fun k hk => (ho.block k (by have := h.size; omega) (by omega)).trans (h.block k hk)⟩
/-- what plays works with -/
structure PlI (W w : World) (G : List Gm) (t d : Int) (AG : Option Addr) (cg : Nat) (b : Bool) : Prop where
  bl : Below W.heap.size W w
  fd : Has w W.heap.size 3 #[.int .i64 d]
  fr : Has w (W.heap.size + 1) 4 #[.bool b]
  it : GIt w (W.heap.size + 1 + 1) (W.heap.size + 1 + 1 + 1) G t AG cg
section
variable {W w w' : World} {G : List Gm} {t d : Int} {AG : Option Addr} {cg : Nat} {b : Bool}
theorem PlI.step (h : PlI W w G t d AG cg b) (hb : Below w.heap.size w w') : PlI W w' G t d AG cg b := ⟨h.bl.trans (hb.mono h.bl.size), h.fd.below hb h.fd.lt, h.fr.below hb h.fr.lt, h.it.step hb⟩
theorem PlI.loop {l : Nat} {rc : Loop} (h : PlI W w G t d AG cg b) (hWl : W.heap.size ≤ l) (hl : w.heap[l]? = some (.loop rc)) (ho : Only (· = l) w w') : PlI W w' G t d AG cg b :=
  ⟨below_loop h.bl hWl ho, h.fd.only ho (has_ne_loop h.fd hl), h.fr.only ho (has_ne_loop h.fr hl), h.it.loop hl ho⟩
theorem PlI.set (h : PlI W w G t d AG cg b) (b' : Bool) : PlI W (w.setCell ⟨W.heap.size + 1, 0, none⟩ (.bool b')) G t d AG cg b' := by
  have ho : Only (· = W.heap.size + 1) w (w.setCell ⟨W.heap.size + 1, 0, none⟩ (.bool b')) := (Only.refl (· = W.heap.size + 1) w).setCell (p := ⟨W.heap.size + 1, 0, none⟩) (.inl rfl) _
  refine ⟨h.bl.setCell (p := ⟨W.heap.size + 1, 0, none⟩) (by simp) _, h.fd.only ho (by show ¬ W.heap.size = W.heap.size + 1; omega), h.fr.set 0 _, h.it.fg.only ho (by show ¬ W.heap.size + 1 + 1 = W.heap.size + 1; omega), h.it.ft.only ho (by show ¬ W.heap.size + 1 + 1 + 1 = W.heap.size + 1; omega), fun k hk => ?_, h.it.l⟩
  obtain ⟨g, o, e, hg, hc⟩ := h.it.r k hk
  have c0 := hc 0 (by omega)
  have hgl : ¬ g = W.heap.size + 1 := fun e' => by
    subst e'
    rw [h.fr.cell] at c0
    rcases k with _ | k
    · rcases o with _ | o <;> simp at c0
    · simp at c0
  exact ⟨g, o, e, by simpa [World.setCell] using hg, fun j hj => (World.cell?_of_block (ho.block g hg hgl)).trans (hc j hj)⟩
/-- the marks are shut -/
theorem PlI.shut (h : PlI W w G t d AG cg b) {D : Nat} (hD : W.heap.size + 1 < D) : Below W.heap.size W (w.putObj D (.deferred none)) ∧ Has (w.putObj D (.deferred none)) (W.heap.size + 1) 4 #[.bool b] :=
  ⟨below_loop h.bl (by omega) (only_put _), h.fr.only (only_put _) (by omega)⟩
end
theorem plays_no {G : List Gm} {t d : Int} (h : ∀ j g, j < (ofT t G).length → (ofT t G)[j]? = some g → g.day ≠ d) : playsB G t d = false := by
  unfold playsB
  rw [List.any_eq_false]
  intro g hg
  obtain ⟨j, hj⟩ := List.getElem?_of_mem hg
  have := h j g (List.getElem?_eq_some_iff.1 hj).1 hj
  simpa using this
theorem plays_yes {G : List Gm} {t d : Int} {k : Nat} {g : Gm} (h : (ofT t G)[k]? = some g) (hd : g.day = d) : playsB G t d = true := by
  unfold playsB
  exact List.any_eq_true.2 ⟨g, List.mem_of_getElem? h, by simpa using hd⟩
set_option maxRecDepth 100000 in
set_option maxHeartbeats 2000000 in
theorem plays_any (G : List Gm) (A : Option Addr) (c : Nat) (t d : Int) (W : World) (hr : GRow W W.heap.size A G) (hl : G.length ≤ big) :
    Calls Tryd.prog 29 #[.slice A G.length c, .int .i64 t, .int .i64 d] W (BoolPost (playsB G t d) W) := by
  have HG := Lib.hid (fun w => gamesOf_any A G.length c t w)
  have HN := Lib.hid (fun h => plays_no (G := G) (t := t) (d := d) h)
  have HY := Lib.hid (fun k g h => plays_yes (G := G) (t := t) (d := d) (k := k) (g := g) h)
  have HR := Lib.hid (And.intro hr hl)
  clear hr hl
  refine (callsIn_wide (n := 3)).1 ?_
  refine callsIn_of_wp_marks Tryd.func29 rfl trivial ?_
  simp only [Tryd.ntmps29, List.size_toArray, List.length_cons, List.length_nil, Nat.reduceAdd, Nat.reduceSub, Array.replicate_succ, Array.replicate_zero, List.push_toArray, List.append_toArray, List.nil_append, List.cons_append]
  refine wpIn_wide.2 ?_
  go_wp2_with fail
  refine (HG.out _).mono ?_
  rintro e w1 ⟨rfl, rfl⟩
  have H0 : Hid (PlI W ((((W.alloc (.cells #[.int .i64 d] 3)).alloc (.cells #[.bool false] 4)).alloc (.cells #[.slice A G.length c] 23)).alloc (.cells #[.int .i64 t] 3)) G t d A c false) := by
    have h1 : Below W.heap.size W ((W.alloc (.cells #[.int .i64 d] 3)).alloc (.cells #[.bool false] 4)) := below_two W _ _
    have h2 := git_new (W := (W.alloc (.cells #[.int .i64 d] 3)).alloc (.cells #[.bool false] 4)) (c := c) (t := t) ((HR.out.1.below h1).more h1.size) HR.out.2
    rw [World.size_alloc, World.size_alloc] at h2
    exact Lib.hid ⟨h1.trans ((below_two _ _ _).mono (by simp; omega)), (((Has.new _ _ _).alloc _).alloc _).alloc _, ((has_newAt (by simp)).alloc _).alloc _, h2⟩
  have hz : ((((W.alloc (.cells #[.int .i64 d] 3)).alloc (.cells #[.bool false] 4)).alloc (.cells #[.slice A G.length c] 23)).alloc (.cells #[.int .i64 t] 3)).heap.size = W.heap.size + 4 := by simp
  have HZ := Lib.hid hz
  clear hz
  go_wp2_with fail
  generalize (((W.alloc (.cells #[.int .i64 d] 3)).alloc (.cells #[.bool false] 4)).alloc (.cells #[.slice A G.length c] 23)).alloc (.cells #[.int .i64 t] 3) = w0 at H0 HZ ⊢
  clear HR HG
  refine wp_range_seq (gf := 53) (xs := (ofT t G).map fun g => #[gmv g]) (Rd := fun w => GIt w (W.heap.size + 1 + 1) (W.heap.size + 1 + 1 + 1) G t A c) rfl enters53 (games_it _ _ G t A c) xs_size
    (· = W.heap.size + 1) (fun k w => PlI W w G t d A c false ∧ ∀ j g, j < k → (ofT t G)[j]? = some g → g.day ≠ d) (fun cd w => cd = .ret ∧ PlI W w G t d A c true ∧ playsB G t d = true)
    (fun i hi => by have := HZ.out; omega) (fun k w h => h.1.it) (fun k w w' h hb => ⟨h.1.step hb, h.2⟩) (fun k l w w' rc h h1 h2 h3 => ⟨h.1.loop (by have := HZ.out; omega) h2 h3, h.2⟩) (fun cd l w w' rc h h1 h2 h3 => ⟨h.1, h.2.1.loop (by have := HZ.out; omega) h2 h3, h.2.2⟩)
    ⟨H0.out, fun j g hj => absurd hj (by omega)⟩ ?round ?q0 ?q1
  case round =>
    intro k args l rc W1 hk hI hlt hlr
    obtain ⟨g, hg, rfl⟩ := xs_at hk
    have HI := Lib.hid (And.intro hI (And.intro hg (And.intro hlt hlr)))
    clear hk hI hg hlt hlr H0
    unfold gmv
    rw [zip1]
    gi_wp2_with (fail)
    have H1 : Hid (PlI W (W1.alloc (.cells (gmc g) 53)) G t d A c false ∧ Has (W1.alloc (.cells (gmc g) 53)) W1.heap.size 53 (gmc g) ∧ (W1.alloc (.cells (gmc g) 53)).heap[l]? = some (.loop rc) ∧ l < W1.heap.size) := Lib.hid ⟨HI.out.1.1.step (below_one _ _), Has.new _ _ _, (Below.heap_alloc _ _ _ (Array.getElem?_eq_some_iff.1 HI.out.2.2.2).1).trans HI.out.2.2.2, (Array.getElem?_eq_some_iff.1 HI.out.2.2.2).1⟩
    refine (show Below _ _ _ ∧ _ from ⟨below_one _ _, ?_⟩)
    generalize W1.alloc (.cells (gmc g) 53) = w1 at H1 ⊢
    generalize W1.heap.size = E at H1 ⊢
    intro w2 rc' ho hl2
    have H2 : Hid (PlI W w2 G t d A c false ∧ Has w2 E 53 (gmc g)) := Lib.hid ⟨H1.out.1.loop (by have := HI.out.2.2.1; have := HZ.out; omega) H1.out.2.2.1 ho, H1.out.2.1.only ho (by have := H1.out.2.2.2; omega)⟩
    have HH := Lib.hid HI.out.1.2
    have HGk := Lib.hid HI.out.2.1
    clear ho hl2 H1 HI
    have y0 : w2.cell? ⟨E, 0, none⟩ = some (.int .i64 g.day) := H2.out.2.cell 0
    have d0 : w2.cell? ⟨W.heap.size, 0, none⟩ = some (.int .i64 d) := H2.out.1.fd.cell 0
    have r0 : w2.cell? ⟨W.heap.size + 1, 0, none⟩ = some (.bool false) := H2.out.1.fr.cell 0
    have rf := H2.out.1.fr.frozen 0
    have rl := H2.out.1.fr.lt
    by_cases h : g.day = d
    · have hb : (g.day == d) = true := by simpa using h
      have HYY := Lib.hid (HY.out k g HGk.out h)
      clear h
      gi_wp2_with (fail)
      exact RQ.left (only_cell _ _ _ _) ⟨rfl, H2.out.1.set true, HYY.out⟩
    · have hb : (g.day == d) = false := by simpa using h
      have HNN := Lib.hid h
      clear h
      gi_wp2_with (fail)
      exact RQ.next (Only.refl _ _) ⟨H2.out.1, fun j g' hj hg' => by
        rcases Nat.lt_or_ge j k with h' | h'
        · exact HH.out j g' h' hg'
        · have : j = k := by omega
          subst this
          have := HGk.out
          rw [hg'] at this
          cases this
          exact HNN.out⟩
  case q0 =>
    intro w' hI hD
    have HI := Lib.hid (And.intro hI.1 (And.intro (HN.out (fun j g hj hg => hI.2 j g (by rw [List.length_map]; exact hj) hg)) hD))
    clear hI hD H0
    have r0 : w'.cell? ⟨W.heap.size + 1, 0, none⟩ = some (.bool false) := HI.out.1.fr.cell 0
    have rf := HI.out.1.fr.frozen 0
    have rl := HI.out.1.fr.lt
    go_wp2_with fail
    have HS := Lib.hid ((HI.out.1.set false).shut (D := w0.heap.size) (by have := HZ.out; omega))
    have HDf : Hid ((w'.setCell ⟨W.heap.size + 1, 0, none⟩ (.bool false)).heap[w0.heap.size]? = some (.deferred (some []))) := Lib.hid ((Below.heap_setCell _ _ _ _ (by have := HZ.out; simp only; omega)).trans HI.out.2.2)
    have rc : ((w'.setCell ⟨W.heap.size + 1, 0, none⟩ (.bool false)).putObj w0.heap.size (.deferred none)).cell? ⟨W.heap.size + 1, 0, none⟩ = some (.bool false) := HS.out.2.cell 0
    exact leave_ret0 (D := w0.heap.size) (v := .bool false) HDf.out (by simp [results, Tryd.results29, go_sem, rc]) ⟨by rw [HI.out.2.1], HS.out.1⟩
  case q1 =>
    rintro cd w' ⟨rfl, hX, hp⟩ hD
    have HI := Lib.hid (And.intro hX (And.intro hp hD))
    clear hX hp hD H0
    go_wp2_with fail
    have HS := Lib.hid (HI.out.1.shut (D := w0.heap.size) (by have := HZ.out; omega))
    have rc : (w'.putObj w0.heap.size (.deferred none)).cell? ⟨W.heap.size + 1, 0, none⟩ = some (.bool true) := HS.out.2.cell 0
    exact leave_ret0 (D := w0.heap.size) (v := .bool true) HI.out.2.2 (by simp [results, Tryd.results29, go_sem, rc]) ⟨by rw [HI.out.2.1], HS.out.1⟩
end Go.Proofs.YtljkgjfmambfoaaDoor
