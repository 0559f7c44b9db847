/- Plain: what LeagueTravel claims. -/
import Derived.Test.YtljkgjfmambfoaaDoorLgI
import Derived.Test.YtljkgjfmambfoaaDoorLgD
namespace Go.Proofs.YtljkgjfmambfoaaDoor
theorem ofT_ofT (t : Int) (G : List Gm) : ofT t (ofT t G) = ofT t G := by unfold ofT; rw [List.filter_filter]; simp
theorem ofT_two (t : Int) (G : List Gm) : ofT t (ofT t G ++ ofT t G) = ofT t G ++ ofT t G := by
  conv => lhs; unfold ofT
  rw [List.filter_append]
  have := ofT_ofT t G
  unfold ofT at this ⊢
  rw [this]
theorem lg_sub {x : Lg} {G : List Gm} (h : lgB x = true) (hl : G.length ≤ 64) (hs : ∀ g ∈ G, g ∈ x.G) (ho : openN G ≤ 8) : lgB ⟨x.F, G⟩ = true := by
  unfold lgB at h ⊢
  simp only [Bool.and_eq_true, decide_eq_true_eq, List.all_eq_true] at h ⊢
  exact ⟨⟨h.1.1, hl, fun g hg => h.1.2.2 g (hs g hg)⟩, ho⟩
theorem openN_sub (t : Int) (G : List Gm) : openN (ofT t G) ≤ openN G := by
  unfold openN ofT
  rw [List.filter_filter]
  have : (G.filter fun a => openB a && hasB t a).length ≤ (G.filter openB).length := by
    induction G with
    | nil => simp
    | cons g G ih =>
      simp only [List.filter_cons]
      cases openB g <;> cases hasB t g <;> simp <;> omega
  exact this
theorem openN_app (G H : List Gm) : openN (G ++ H) = openN G + openN H := by unfold openN; rw [List.filter_append, List.length_append]
def wayF (F : List (List Int)) (s : Int × Int) (g : Gm) : Int × Int := (s.1 + farA F s.2 g.home, g.home)
theorem way_off (F : List (List Int)) : ∀ (S : List Gm) (s d a : Int), S.foldl (wayF F) (s + d, a) = ((S.foldl (wayF F) (s, a)).1 + d, (S.foldl (wayF F) (s, a)).2)
  | [], _, _, _ => rfl
  | g :: S, s, d, a => by
    rw [List.foldl_cons, List.foldl_cons]
    have e1 : wayF F (s + d, a) g = (s + farA F a g.home + d, g.home) := by unfold wayF; simp; omega
    have e2 : wayF F (s, a) g = (s + farA F a g.home, g.home) := rfl
    rw [e1, e2, way_off F S]
/-- the way through the games of a team, and twice through them -/
theorem way_two (F : List (List Int)) (t : Int) (S : List Gm) (g : Gm) (R : List Gm) (hS : S = g :: R) :
    (S ++ S).foldl (wayF F) (0, t) = (2 * (S.foldl (wayF F) (0, t)).1 - farA F t g.home + farA F (S.foldl (wayF F) (0, t)).2 g.home, (S.foldl (wayF F) (0, t)).2) := by
  rw [List.foldl_append]
  have h1 : ∀ s a : Int, S.foldl (wayF F) (s, a) = ((R.foldl (wayF F) (0, g.home)).1 + (s + farA F a g.home), (R.foldl (wayF F) (0, g.home)).2) := fun s a => by
    rw [hS, List.foldl_cons]
    have e2 : wayF F (s, a) g = (0 + (s + farA F a g.home), g.home) := by unfold wayF; simp
    rw [e2, way_off]
  rw [h1 0 t]
  rw [h1]
  simp
  omega
theorem wayP_eq (F : List (List Int)) (t : Int) (G : List Gm) : wayP F t G = (ofT t G).foldl (wayF F) (0, t) := rfl
theorem trav_own {x : Lg} {t : Int} (h : lgB x = true) (ht : teamB x.F.length t = true) : travR ⟨x.F, ofT t x.G⟩ t = travR x t := by
  have hv := vl_of h
  have hl : (ofT t x.G).length ≤ x.G.length := List.length_filter_le _ _
  have h1 : lgB ⟨x.F, ofT t x.G⟩ = true := lg_sub h (by have := hv.ng; omega) (fun g hg => ofT_mem hg) (by have := openN_sub t x.G; have := hv.o; omega)
  unfold travR
  rw [h, h1]
  simp only [ht, if_true]
  rw [wayP_eq, wayP_eq, ofT_ofT]
theorem trav_two {x : Lg} {t : Int} (h : lgB x = true) (ht : teamB x.F.length t = true) (hl : x.G.length ≤ 32) (ho : openN x.G ≤ 4) :
    travR ⟨x.F, ofT t x.G ++ ofT t x.G⟩ t = match ofT t x.G with
      | [] => travR x t
      | g :: _ => (2 * (travR x t).1 - farA x.F (wayP x.F t x.G).2 t - farA x.F t g.home + farA x.F (wayP x.F t x.G).2 g.home, 0) := by
  have hl2 : (ofT t x.G).length ≤ x.G.length := List.length_filter_le _ _
  have hs := openN_sub t x.G
  have h1 : lgB ⟨x.F, ofT t x.G ++ ofT t x.G⟩ = true := lg_sub h (by rw [List.length_append]; omega) (fun g hg => by rcases List.mem_append.1 hg with hg | hg <;> exact ofT_mem hg) (by rw [openN_app]; omega)
  unfold travR
  rw [h, h1]
  simp only [ht, if_true]
  rw [wayP_eq, wayP_eq, ofT_two]
  cases hS : ofT t x.G with
  | nil => simp
  | cons g R =>
    rw [way_two x.F t (g :: R) g R rfl]
    simp
    omega
/-- the way through the first games -/
def wayG (x : Lg) (t : Int) (k : Nat) : Int × Int := wayP x.F t (x.G.take k)
theorem wayG_yes {x : Lg} {t : Int} {k : Nat} (h : k < x.G.length) (hb : hasB t x.G[k] = true) : wayG x t (k + 1) = ((wayG x t k).1 + farA x.F (wayG x t k).2 x.G[k].home, x.G[k].home) := by
  unfold wayG
  rw [wayP_eq, wayP_eq, ofT_yes h hb, List.foldl_append]
  rfl
theorem wayG_no {x : Lg} {t : Int} {k : Nat} (h : k < x.G.length) (hb : hasB t x.G[k] = false) : wayG x t (k + 1) = wayG x t k := by
  unfold wayG
  rw [wayP_eq, wayP_eq, ofT_no h hb]
theorem wayG_bd {x : Lg} (hv : VL x) {t : Int} (ht : 0 ≤ t ∧ t < x.F.length) : ∀ k, k ≤ x.G.length → (0 ≤ (wayG x t k).1 ∧ (wayG x t k).1 ≤ 100000 * k) ∧ 0 ≤ (wayG x t k).2 ∧ (wayG x t k).2 < x.F.length
  | 0, _ => by
    have h0 : wayG x t 0 = (0, t) := rfl
    rw [h0]
    exact ⟨⟨Int.le_refl _, by simp⟩, ht.1, ht.2⟩
  | k + 1, hk => by
    have ih := wayG_bd hv ht k (by omega)
    have hlt : k < x.G.length := by omega
    cases hb : hasB t x.G[k]
    · rw [wayG_no hlt hb]; omega
    · rw [wayG_yes hlt hb]
      have h1 := far_bd hv (wayG x t k).2 x.G[k].home
      have h2 := (hv.g _ (List.getElem_mem hlt)).h
      exact ⟨by simp only; omega, by simp only; exact h2⟩
theorem wayG_all (x : Lg) (t : Int) : wayG x t x.G.length = wayP x.F t x.G := by unfold wayG; rw [List.take_of_length_le (Nat.le_refl _)]
theorem trav_ok {x : Lg} {t : Int} (h : lgB x = true) (ht : teamB x.F.length t = true) : travR x t = ((wayP x.F t x.G).1 + farA x.F (wayP x.F t x.G).2 t, 0) := by
  unfold travR; rw [h]; simp [ht]
end Go.Proofs.YtljkgjfmambfoaaDoor
