/- With a stronger dryer there is no more; the least dryer. -/
import Derived.Test.YtdmpkeaanaoeaaaAirW
namespace Go.Proofs.Ytdmpkeaanaoeaaa
/-- the moments of l, each with a dryer that is no weaker, are those of l' -/
structure Stronger (l l' : List Mo) : Prop where
  n : l'.length = l.length
  m : ∀ k (h : k < l.length), ∃ d, l[k].dr ≤ d ∧ l'[k]'(by rw [n]; exact h) = sd d l[k]
theorem pass_dry {c c' : Co} {m : Mo} {x d : Int} (hw : c'.w ≤ c.w) (hd : c'.dew ≤ c.dew) (hm : GM m) (hmd : m.dr ≤ d) : (passP c' (sd d m) x).w ≤ (passP c m x).w ∧ (passP c' (sd d m) x).dew ≤ (passP c m x).dew := by
  have hp := part_mono (th := 1000 - m.ch) hw (by have := hm.ch; omega) (by have := hm.ch; omega)
  unfold passP sd
  simp only
  omega
theorem stronger_le {l l' : List Mo} (h : Stronger l l') (hg : ∀ m ∈ l, GM m) (w : Int) (f : Mo → Int) (hf : ∀ d m, f (sd d m) = f m) : ∀ k, k ≤ l.length → (crs w f l' k).w ≤ (crs w f l k).w ∧ (crs w f l' k).dew ≤ (crs w f l k).dew
  | 0, _ => by simp [crs]
  | k + 1, hk => by
    have ih := stronger_le h hg w f hf k (by omega)
    have hk' : k < l.length := by omega
    obtain ⟨d, hd, he⟩ := h.m k hk'
    rw [crs_step hk', crs_step (show k < l'.length by rw [h.n]; exact hk'), he, hf]
    exact pass_dry ih.1 ih.2 (hg _ (List.getElem_mem hk')) hd
theorem wd_get {x : Int} {l : List Mo} {k : Nat} (h : k < (wd x l).length) : (wd x l)[k] = sd x (l[k]'(by rw [wd_len] at h; exact h)) := List.getElem_map _
theorem wd_stronger {x y : Int} (h : x ≤ y) (l : List Mo) : Stronger (wd x l) (wd y l) :=
  ⟨by rw [wd_len, wd_len], fun k hk => ⟨y, by rw [wd_get]; exact h, by rw [wd_get, wd_get]; rfl⟩⟩
theorem fogP_neg {hi : Int} {ms : List Mo} {n : Nat} : fogP hi ms n < 0 ↔ ∀ i, i < n → ¬ 0 < (crs hi (·.c1) ms (i + 1)).dew := by
  unfold fogP
  rw [fstI_neg]
  simp
theorem dry_mono {lo hi : Int} {ms : List Mo} (hg : GL lo hi ms) {x y : Int} (hx : 0 ≤ x) (hxy : x ≤ y) (hy : y ≤ 68719476736) (h : dryB hi ms x = true) : dryB hi ms y = true := by
  unfold dryB at h ⊢
  rw [decide_eq_true_eq] at h ⊢
  rw [fogP_neg] at h ⊢
  intro i hi'
  have h1 := h i hi'
  have h2 := (stronger_le (wd_stronger hxy ms) (wd_good hg (x := x) (by omega)).g hi (·.c1) (fun _ _ => rfl) (i + 1) (by rw [wd_len]; omega)).2
  omega
theorem least_eq {lo hi : Int} {ms : List Mo} (hg : GL lo hi ms) {r s : Nat} (hr : Least hi ms r) (hs : Least hi ms s) : r = s := by
  have key : ∀ a b : Nat, Least hi ms a → Least hi ms b → ¬ a < b := fun a b ha hb hlt => by
    have h1 := ha.yes (by have := hb.le; omega)
    have h2 := hb.no (by omega)
    have h3 := dry_mono hg (x := a) (y := (b : Int) - 1) (by omega) (by omega) (by have := hb.le; omega) h1
    rw [h2] at h3
    cases h3
  have := key r s hr hs
  have := key s r hs hr
  omega
end Go.Proofs.Ytdmpkeaanaoeaaa
