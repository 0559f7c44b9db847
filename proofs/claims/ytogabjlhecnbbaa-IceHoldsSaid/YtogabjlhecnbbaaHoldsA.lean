/- What the law IceHolds says of days and of thicker ice, plainly. -/
import Derived.Test.YtogabjlhecnbbaaKeepsLaw
import Derived.Test.YtogabjlhecnbbaaCopy
namespace Go.Proofs.Ytogabjlhecnbbaa
open Go.RowKit Go.Shelf
theorem firstAt_spec {α : Type} {p : α → Bool} {xs : List α} (h : (firstAt p xs).2 = true) : ∃ hl : (firstAt p xs).1 < xs.length, p xs[(firstAt p xs).1] = true ∧ ∀ j (hj : j < xs.length), j < (firstAt p xs).1 → p xs[j] = false := by
  unfold firstAt at h ⊢
  cases hf : xs.findIdx? p with
  | none => rw [hf] at h; cases h
  | some i =>
    obtain ⟨hi, hp, hn⟩ := List.findIdx?_eq_some_iff_getElem.1 hf
    exact ⟨hi, hp, fun j hj hlt => by have := hn j hlt; simpa using this⟩
theorem firstAt_none {α : Type} {p : α → Bool} {xs : List α} (h : (firstAt p xs).2 = false) : (firstAt p xs).1 = 0 ∧ ∀ j (hj : j < xs.length), p xs[j] = false := by
  rw [firstAt_any] at h
  refine ⟨?_, fun j hj => ?_⟩
  · unfold firstAt
    cases hf : xs.findIdx? p with
    | none => rfl
    | some i =>
      obtain ⟨hi, hp, _⟩ := List.findIdx?_eq_some_iff_getElem.1 hf
      have : xs.any p = true := List.any_eq_true.2 ⟨_, List.getElem_mem hi, hp⟩
      rw [this] at h; cases h
  · cases hp : p xs[j]
    · rfl
    · have : xs.any p = true := List.any_eq_true.2 ⟨_, List.getElem_mem hj, hp⟩
      rw [this] at h; cases h
theorem keepsL_spec (day : List Ev) (least most : Int) : ∀ (n i : Nat) (zs : List Zn) (d z e : Int), keepsL day least most n i zs = (d, z, e) → e = 0 → (i : Int) ≤ d ∧ d < i + n ∧ 0 ≤ z ∧ z < zs.length
  | 0, i, zs, d, z, e, h, he => by
    simp only [keepsL, Prod.mk.injEq] at h
    omega
  | n + 1, i, zs, d, z, e, h, he => by
    unfold keepsL at h
    split at h
    · rename_i h1
      simp only [Prod.mk.injEq] at h
      obtain ⟨_, _, h3⟩ := h
      exact absurd (h3.trans he) h1
    · split at h
      · rename_i h2
        simp only [Prod.mk.injEq] at h
        obtain ⟨hl, _⟩ := firstAt_spec h2
        have := playR_len zs day
        obtain ⟨rfl, rfl, _⟩ := h
        omega
      · have := keepsL_spec day least most n (i + 1) _ d z e h he
        have := playR_len zs day
        omega

/-- a zone with so much more ice, as the law reckons it -/
def tk (more : Int) (z : Zn) : Zn := { z with a := min 20000 (IntKind.i64.wrap (z.a + more)), b := min 20000 (IntKind.i64.wrap (z.b + more)) }
theorem wrap_in {n : Int} (h : -9223372036854775808 ≤ n ∧ n ≤ 9223372036854775807) : IntKind.i64.wrap n = n := by rw [IntKind.wrap_i64]; omega
theorem tk_ok {more : Int} {z : Zn} (h0 : 0 ≤ more) (h1 : more ≤ 255) (hz : z.ok = true) : (tk more z).ok = true ∧ (tk more z).a = min 20000 (z.a + more) := by
  simp only [Zn.ok, Bool.and_eq_true, win_iff] at hz
  have e1 : IntKind.i64.wrap (z.a + more) = z.a + more := wrap_in (by omega)
  have e2 : IntKind.i64.wrap (z.b + more) = z.b + more := wrap_in (by omega)
  refine ⟨?_, by unfold tk; simp only; rw [e1]⟩
  simp only [tk, e1, e2, Zn.ok, Bool.and_eq_true, win_iff]
  omega
theorem rink_tk {more : Int} {zs : List Zn} (h0 : 0 ≤ more) (h1 : more ≤ 255) (h : rinkOk zs = true) : rinkOk (zs.map (tk more)) = true := by
  simp only [rinkOk, Bool.and_eq_true, decide_eq_true_eq, List.all_eq_true, List.length_map] at h ⊢
  refine ⟨h.1, fun z hz => ?_⟩
  obtain ⟨y, hy, rfl⟩ := List.mem_map.1 hz
  exact (tk_ok h0 h1 (h.2 y hy)).1
theorem tab_all {ts : List (Int × Int)} (h : tableOk ts = true) : ∀ i, (ts.getD i (0, 0)).2 ≤ 20000 := by
  intro i
  simp only [tableOk, Bool.and_eq_true, decide_eq_true_eq] at h
  have := (tabFrom_iff ts (0, -1)).1 h.2
  by_cases hi : i < ts.length
  · have hb := this i hi
    simp only [bOk, decide_eq_true_eq] at hb
    omega
  · simp [List.getElem?_eq_none (show ts.length ≤ i by omega)]
theorem first_imp {p q : Int → Bool} {xs : List Int} (h : ∀ x ∈ xs, q x = true → p x = true) :
    ((firstAt p xs).2 = false → (firstAt q xs).2 = false) ∧ ((firstAt p xs).2 = true → (firstAt q xs).2 = true → (firstAt p xs).1 ≤ (firstAt q xs).1) := by
  refine ⟨fun hp => ?_, fun hp hq => ?_⟩
  · cases hq : (firstAt q xs).2
    · rfl
    · obtain ⟨hl, h1, _⟩ := firstAt_spec hq
      have := (firstAt_none hp).2 _ hl
      rw [h _ (List.getElem_mem hl) h1] at this; cases this
  · obtain ⟨hl, _, hn⟩ := firstAt_spec hp
    obtain ⟨hl', h1, _⟩ := firstAt_spec hq
    rcases Nat.lt_or_ge (firstAt q xs).1 (firstAt p xs).1 with hlt | hge
    · have := hn _ hl' hlt
      rw [h _ (List.getElem_mem hl') h1] at this; cases this
    · exact hge
theorem breaks_tk (zs : List Zn) (ts : List (Int × Int)) (path : List Int) (weight more : Int) (h0 : 0 ≤ more) (h1 : more ≤ 255) :
    ((breaksR zs ts path weight).2 = 4 → (breaksR (zs.map (tk more)) ts path weight).2 = 4) ∧
    ((breaksR zs ts path weight).2 = 0 → (breaksR (zs.map (tk more)) ts path weight).2 = 4 ∨ ((breaksR (zs.map (tk more)) ts path weight).2 = 0 ∧ (breaksR zs ts path weight).1 ≤ (breaksR (zs.map (tk more)) ts path weight).1)) := by
  cases hr : rinkOk zs && tableOk ts
  · constructor <;> intro h <;> unfold breaksR at h <;> rw [hr] at h <;> simp at h
  · rw [Bool.and_eq_true] at hr
    cases ha : path.any (offB zs.length)
    · cases hw : decide (1 ≤ weight ∧ weight ≤ lastW ts)
      · constructor <;> intro h <;> unfold breaksR at h <;> simp [hr, ha, hw] at h
      · have hrt := rink_tk h0 h1 hr.1
        have hlen : (zs.map (tk more)).length = zs.length := by simp
        have hq : ∀ x ∈ path, decide (((zs.map (tk more)).getD x.toNat zd).a < needOf ts weight) = true → decide ((zs.getD x.toNat zd).a < needOf ts weight) = true := by
          intro x hx hh
          have hoff : offB zs.length x = false := by
            cases ho : offB zs.length x
            · rfl
            · have : path.any (offB zs.length) = true := List.any_eq_true.2 ⟨x, hx, ho⟩
              rw [this] at ha; cases ha
          simp [offB] at hoff
          have hx1 : x.toNat < zs.length := by omega
          have hn := tab_all hr.2 (firstAt (fun b => decide (weight ≤ b.1)) ts).1
          have hz := (rink_parts hr.1).2.2 _ (List.getElem_mem hx1)
          have ht := (tk_ok h0 h1 hz).2
          simp only [decide_eq_true_eq] at hh ⊢
          have e1 : (zs.map (tk more)).getD x.toNat zd = tk more zs[x.toNat] := by simp [hx1]
          have e2 : zs.getD x.toNat zd = zs[x.toNat] := by simp [hx1]
          rw [e1, ht] at hh
          rw [e2]
          unfold needOf at hh ⊢
          omega
        obtain ⟨f1, f2⟩ := first_imp hq
        have hb : ∀ (ys : List Zn), rinkOk ys = true → ys.length = zs.length → breaksR ys ts path weight = if (firstAt (fun z => decide ((ys.getD z.toNat zd).a < needOf ts weight)) path).2 = true then (((firstAt (fun z => decide ((ys.getD z.toNat zd).a < needOf ts weight)) path).1 : Int), 0) else (0, 4) := by
          intro ys h1 h2
          unfold breaksR
          rw [h1, hr.2, h2, ha, hw]
          simp
        rw [hb zs hr.1 rfl, hb _ hrt hlen]
        cases hp : (firstAt (fun z => decide ((zs.getD z.toNat zd).a < needOf ts weight)) path).2
        · rw [f1 hp]; simp
        · cases hp' : (firstAt (fun z => decide (((zs.map (tk more)).getD z.toNat zd).a < needOf ts weight)) path).2
          · simp
          · have := f2 hp hp'
            refine ⟨fun h => ?_, fun _ => ?_⟩
            · simp at h
            · simpa using this
    · constructor <;> intro h <;> unfold breaksR at h <;> simp [hr, ha] at h
/-- may the law look at the days? -/
def holdC (zs : List Zn) (days least most : Int) : Bool := rinkOk zs && (decide (0 ≤ days) && (decide (0 ≤ least) && (decide (least ≤ most) && decide (most ≤ 20000))))
theorem holdC_no {zs : List Zn} {day : List Ev} {days least most d z e : Int} (hd : ¬ 40 < days) (h : holdC zs days least most = false) (hK : (d, z, e) = keepsR zs day days least most) : e = 1 ∨ e = 2 := by
  unfold keepsR at hK
  cases hr : rinkOk zs
  · rw [hr] at hK; simp at hK; omega
  · rw [hr] at hK
    have : (decide (0 ≤ days ∧ days ≤ 100) && vb least most) = false := by
      unfold holdC at h
      rw [hr, Bool.true_and] at h
      rw [Bool.eq_false_iff] at h ⊢
      intro hh; apply h
      simp only [vb, Bool.and_eq_true, decide_eq_true_eq] at hh ⊢
      omega
    rw [this] at hK; simp at hK; omega
theorem holdC_yes {zs : List Zn} {day : List Ev} {days least most : Int} (hd : ¬ 40 < days) (h : holdC zs days least most = true) : keepsR zs day days least most = keepsL day least most days.toNat 0 zs ∧ 0 ≤ days := by
  unfold holdC at h
  simp only [Bool.and_eq_true, decide_eq_true_eq] at h
  have : (decide (0 ≤ days ∧ days ≤ 100) && vb least most) = true := by
    simp only [vb, Bool.and_eq_true, decide_eq_true_eq]; omega
  unfold keepsR
  rw [h.1, this]
  exact ⟨rfl, h.2.1⟩
theorem flat_snoc (l : List Zn) (z : Zn) : (flat (l ++ [z])).toList = (flat l).toList ++ [iv z.a, iv z.b, iv z.c, iv z.d] := by
  unfold flat; simp
theorem tk_snoc {zs : List Zn} {k : Nat} (h : k < zs.length) (more : Int) : (zs.take (k + 1)).map (tk more) = (zs.take k).map (tk more) ++ [tk more zs[k]] := by
  rw [List.take_succ_eq_append_getElem h, List.map_append]; rfl
theorem cell_four_new (w : World) (a b c d : Value) (e : TypeId) : ∀ j u, [a, b, c, d][j]? = some u → (w.alloc (.cells #[a, b, c, d] e)).cell? ((⟨w.heap.size, 0, none⟩ : Addr).add j) = some u := by
  intro j u hu
  have h := Has.new w e #[a, b, c, d]
  have e1 : (⟨w.heap.size, 0, none⟩ : Addr).add j = ⟨w.heap.size, j, none⟩ := by unfold Addr.add; split <;> simp_all
  rw [e1, h.cell]
  simpa using hu
end Go.Proofs.Ytogabjlhecnbbaa
