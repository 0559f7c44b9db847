/- The document's Check and Compare. -/
import Derived.Test.YtipejhfgfciabaaLiL
import Derived.Test.YtipejhfgfciabaaLiN
namespace Go.Proofs.Ytipejhfgfciabaa
open Go.RowKit Go.Shelf
set_option maxRecDepth 100000 in
set_option maxHeartbeats 2000000 in
theorem dCheck_any (x : Tt) (AH AG : Option Addr) (ch cg : Nat) (l : List Int) (A : Option Addr) (c : Nat) (W : World) (hr : TR W W.heap.size x AH AG) (ha : IRow W W.heap.size A l) (hng : x.G.length ≤ 1000) (hnh : x.H.length ≤ 1000) (hl : l.length ≤ 1000) : Calls Try.prog 12 #[ttv x AH AG ch cg, .slice A l.length c] W (CheckPost (checkR x l) W) := by
  have HB : Hid (VB W (W.alloc (.cells (ttc x AH AG ch cg) 25)) x AH AG ch cg) := ⟨below_one W _, Has.new W 25 _⟩
  have HA := Lib.hid ha
  have HR := Lib.hid hr
  have HV := Lib.hid (fun w (h : TR w w.heap.size x AH AG) => Timetable_any x AH AG ch cg w h hng hnh)
  have hn : ∀ r, checkR x l = r → Hid (checkR x l = r) := fun b h => h
  clear ha hr
  cases hT : ttB x <;> rw [hT] at HV
  · have HE := hn ([], 0, 1) (by unfold checkR; simp [hT])
    clear hn hT
    rw [HE.out]
    unfold ttv at *
    go_enter Try.func12, Try.ntmps12
    go_upto_region 1 with fail
    generalize W.alloc (.cells (ttc x AH AG ch cg) 25) = w0 at HB ⊢
    have x0 : w0.cell? ⟨W.heap.size, 0, none⟩ = some (.slice AH x.H.length ch) := HB.out.fx.cell 0
    have x1 : w0.cell? ⟨W.heap.size, 1, none⟩ = some (.slice AG x.G.length cg) := HB.out.fx.cell 1
    have x2 : w0.cell? ⟨W.heap.size, 2, none⟩ = some (.int .i64 x.R) := HB.out.fx.cell 2
    go_wp2_with fail
    refine (HV.out _ (HR.out.step HB.out.b)).mono ?_
    rintro e w1 ⟨rfl, hb1⟩
    have HB1 := Lib.hid (HB.out.step hb1)
    clear hb1
    go_wp2_with fail
    refine bodyPost_ret (v := .tuple #[.slice none 0 0, .int .i64 0, .int .i64 1]) (by simp [results, Try.results12, go_sem]) rfl ?_
    exact ⟨none, 0, rfl, row_nil _ _, HB1.out.b, fun h => absurd h (by decide)⟩
  have hv := ttB_vt hT
  have HP := Lib.hid (fun w (h : IRow w w.heap.size A l) => Plan_any x AH AG ch cg l A c w hng h (by omega))
  cases hP : planB x l <;> rw [hP] at HP
  · have HE := hn ([], 0, 2) (by unfold checkR; simp [hT, hP])
    clear hn hT hP hv
    rw [HE.out]
    unfold ttv at *
    go_enter Try.func12, Try.ntmps12
    go_upto_region 1 with fail
    generalize W.alloc (.cells (ttc x AH AG ch cg) 25) = w0 at HB ⊢
    have x0 : w0.cell? ⟨W.heap.size, 0, none⟩ = some (.slice AH x.H.length ch) := HB.out.fx.cell 0
    have x1 : w0.cell? ⟨W.heap.size, 1, none⟩ = some (.slice AG x.G.length cg) := HB.out.fx.cell 1
    have x2 : w0.cell? ⟨W.heap.size, 2, none⟩ = some (.int .i64 x.R) := HB.out.fx.cell 2
    go_wp2_with fail
    refine (HV.out _ (HR.out.step HB.out.b)).mono ?_
    rintro e w1 ⟨rfl, hb1⟩
    have HB1 := Lib.hid (HB.out.step hb1)
    clear hb1 x0 x1 x2
    have x0 : w1.cell? ⟨W.heap.size, 0, none⟩ = some (.slice AH x.H.length ch) := HB1.out.fx.cell 0
    have x1 : w1.cell? ⟨W.heap.size, 1, none⟩ = some (.slice AG x.G.length cg) := HB1.out.fx.cell 1
    have x2 : w1.cell? ⟨W.heap.size, 2, none⟩ = some (.int .i64 x.R) := HB1.out.fx.cell 2
    go_wp2_with fail
    refine (HP.out _ (HA.out.step HB1.out.b)).mono ?_
    rintro e w2 ⟨rfl, hb2⟩
    have HB2 := Lib.hid (HB1.out.step hb2)
    clear hb2
    go_wp2_with fail
    refine bodyPost_ret (v := .tuple #[.slice none 0 0, .int .i64 0, .int .i64 2]) (by simp [results, Try.results12, go_sem]) rfl ?_
    exact ⟨none, 0, rfl, row_nil _ _, HB2.out.b, fun h => absurd h (by decide)⟩
  have HE := hn (if (chkR x startP l).1 = 0 then (ownedL x (chkR x startP l).2.2, l.length, 0) else ([], (chkR x startP l).2.1, (chkR x startP l).1)) (by unfold checkR; simp [hT, hP])
  have HPL := Lib.hid (plan_ok hP)
  have HGP := Lib.hid (fun k (hk : k < l.length) => give_place (x := x) hv hP hk)
  have hl12 : l.length ≤ 12 := by have := HPL.out.1; have := hv.nh; omega
  have HHo := Lib.hid (fun k (hk : k < l.length) w (h : TR w w.heap.size x AH AG) h' => hourOf_any x AH AG ch cg l A c k w h hv h' (plan_ok hP).2 hk (by have := (plan_ok hP).1; omega) hl)
  have HHs := Lib.hid (fun w (h : TR w w.heap.size x AH AG) h' => has_any x AH AG ch cg l A c w h hv h' hP)
  have HOw := Lib.hid (hasL_owned hv l)
  clear hn hT hP hv
  unfold ttv at *
  go_enter Try.func12, Try.ntmps12
  go_upto_region 1 with fail
  generalize W.alloc (.cells (ttc x AH AG ch cg) 25) = w0 at HB ⊢
  have x0 : w0.cell? ⟨W.heap.size, 0, none⟩ = some (.slice AH x.H.length ch) := HB.out.fx.cell 0
  have x1 : w0.cell? ⟨W.heap.size, 1, none⟩ = some (.slice AG x.G.length cg) := HB.out.fx.cell 1
  have x2 : w0.cell? ⟨W.heap.size, 2, none⟩ = some (.int .i64 x.R) := HB.out.fx.cell 2
  go_wp2_with fail
  refine (HV.out _ (HR.out.step HB.out.b)).mono ?_
  rintro e w1 ⟨rfl, hb1⟩
  have HB1 := Lib.hid (HB.out.step hb1)
  clear hb1 x0 x1 x2 HB
  have x0 : w1.cell? ⟨W.heap.size, 0, none⟩ = some (.slice AH x.H.length ch) := HB1.out.fx.cell 0
  have x1 : w1.cell? ⟨W.heap.size, 1, none⟩ = some (.slice AG x.G.length cg) := HB1.out.fx.cell 1
  have x2 : w1.cell? ⟨W.heap.size, 2, none⟩ = some (.int .i64 x.R) := HB1.out.fx.cell 2
  go_wp2_with fail
  refine (HP.out _ (HA.out.step HB1.out.b)).mono ?_
  rintro e w2 ⟨rfl, hb2⟩
  have HB2 := Lib.hid (HB1.out.step hb2)
  clear hb2 x0 x1 x2 HB1 HP HV
  go_wp2_with fail
  go_loopg [7] l.length (fun gk i wr => ∃ k : Nat, k ≤ l.length ∧ l.length - k ≤ gk ∧ i = .int .i64 k ∧ Hid (VB W wr x AH AG ch cg ∧ chkR x startP l = chkR x (placeOf x l k) (l.drop k)))
  case atStart => exact ⟨0, Nat.zero_le _, Nat.le_refl _, rfl, Lib.hid ⟨HB2.out, by rw [place_zero]; rfl⟩⟩
  case round =>
    clear HB2
    obtain ⟨k, hk, hgk, rfl, HW⟩ := hrel
    have x0 : wr.cell? ⟨W.heap.size, 0, none⟩ = some (.slice AH x.H.length ch) := HW.out.1.fx.cell 0
    have x1 : wr.cell? ⟨W.heap.size, 1, none⟩ = some (.slice AG x.G.length cg) := HW.out.1.fx.cell 1
    have x2 : wr.cell? ⟨W.heap.size, 2, none⟩ = some (.int .i64 x.R) := HW.out.1.fx.cell 2
    by_cases hlt : k < l.length
    rotate_left
    · have hge : ¬ (k : Int) < l.length := by omega
      have HE2 : Hid (checkR x l = (hasL x l, l.length, 0)) := Lib.hid (by
        have hke : k = l.length := by omega
        rw [HE.out, HW.out.2, List.drop_eq_nil_of_le (by omega), ← HOw.out, hke]; rfl)
      clear HE
      go_wp2_with fail
      refine (HHs.out _ (HR.out.step HW.out.1.b) (HA.out.step HW.out.1.b)).mono ?_
      rintro e w4 ⟨g, hg, rfl, hrow, hb4⟩
      have HB4 := Lib.hid (HW.out.1.step hb4)
      have HRow := Lib.hid hrow
      clear hrow hb4 hg
      go_wp2_with fail
      refine bodyPost_ret (v := .tuple #[.slice (some ⟨g, 0, none⟩) (hasL x l).length (hasL x l).length, .int .i64 l.length, .int .i64 0]) (by simp [results, Try.results12, go_sem]) rfl ?_
      show CheckPost (checkR x l) W _ _
      rw [HE2.out]
      exact ⟨_, _, rfl, fun j hj => ⟨g, 0, rfl, HRow.out.lt, by rw [Nat.zero_add]; exact (HRow.out.cell j).trans (ils_at hj)⟩, HB4.out.b, fun _ => ⟨g, 0, rfl⟩⟩
    have hlt2 : (k : Int) < l.length := by omega
    have hch : chkR x startP l = if (giveR x (placeOf x l k) l[k]).1 = 0 then chkR x (giveR x (placeOf x l k) l[k]).2 (l.drop (k + 1)) else ((giveR x (placeOf x l k) l[k]).1, k, zeroP) := by
      rw [HW.out.2, List.drop_eq_getElem_cons hlt]; rfl
    have hho : hourE x l k = (giveR x (placeOf x l k) l[k]).1 := by unfold hourE; simp [List.getD, hlt]
    have HHk := Lib.hid (fun w h h' => HHo.out k hlt w h h')
    rw [hho] at HHk
    have hgp := HGP.out k hlt
    obtain ⟨er, q, hgr⟩ : ∃ er q, giveR x (placeOf x l k) l[k] = (er, q) := ⟨_, _, rfl⟩
    rw [hgr] at hch HHk hgp
    simp only at hch HHk hgp
    clear hho hgr HHo HGP
    by_cases her : er = 0
    · subst her
      have hq : q = placeOf x l (k + 1) := by
        rcases hgp with ⟨_, h⟩ | ⟨_, h, _⟩
        · cases h; rfl
        · exact absurd rfl h
      have HQ := Lib.hid (show chkR x startP l = chkR x (placeOf x l (k + 1)) (l.drop (k + 1)) by rw [hch, if_pos rfl, hq])
      clear hch hgp hq
      go_wp2_with fail
      refine (HHk.out _ (HR.out.step HW.out.1.b) (HA.out.step HW.out.1.b)).mono ?_
      rintro e w4 ⟨rfl, hb4⟩
      have HB4 := Lib.hid (HW.out.1.step hb4)
      clear hb4 x0 x1 x2
      go_wp2_with fail
      go_roundg (l.length - (k + 1))
      case measure => omega
      case rel => exact ⟨k + 1, by omega, Nat.le_refl _, by go_num, Lib.hid ⟨HB4.out, HQ.out⟩⟩
    · have HQ : Hid (checkR x l = ([], k, er)) := Lib.hid (by rw [HE.out, hch, if_neg her]; simp only [if_neg her])
      have her' : (er == 0) = false := by simpa using her
      have HER := Lib.hid her
      clear hch hgp her HE
      go_wp2_with fail
      refine (HHk.out _ (HR.out.step HW.out.1.b) (HA.out.step HW.out.1.b)).mono ?_
      rintro e w4 ⟨rfl, hb4⟩
      have HB4 := Lib.hid (HW.out.1.step hb4)
      clear hb4 x0 x1 x2
      go_wp2_with fail
      refine bodyPost_ret (v := .tuple #[.slice none 0 0, .int .i64 k, .int .i64 er]) (by simp [results, Try.results12, go_sem]) rfl ?_
      show CheckPost (checkR x l) W _ _
      rw [HQ.out]
      exact ⟨none, 0, rfl, row_nil _ _, HB4.out.b, fun h => absurd h HER.out⟩
theorem check_glen (x : Tt) (l : List Int) : (checkR x l).2.2 = 0 → (checkR x l).1.length = x.G.length := by
  unfold checkR
  split
  · intro h; simp at h
  · split
    · intro h; simp at h
    · split
      · intro _; rw [owned_length]
      · rename_i h0
        intro h; exact absurd h h0
set_option maxRecDepth 100000 in
set_option maxHeartbeats 1200000 in
theorem dCompare_any (x : Tt) (AH AG : Option Addr) (ch cg : Nat) (a b : List Int) (A B : Option Addr) (c d : Nat) (W : World) (hr : TR W W.heap.size x AH AG) (ha : IRow W W.heap.size A a) (hb : IRow W W.heap.size B b) (hng : x.G.length ≤ 1000) (hnh : x.H.length ≤ 1000) (hla : a.length ≤ 1000) (hlb : b.length ≤ 1000) :
    Calls Try.prog 14 #[ttv x AH AG ch cg, .slice A a.length c, .slice B b.length d] W (IEPost (compR x a b) W) := by
  have HB : Hid (VB W (W.alloc (.cells (ttc x AH AG ch cg) 25)) x AH AG ch cg) := ⟨below_one W _, Has.new W 25 _⟩
  have HR := Lib.hid (And.intro hr (And.intro ha hb))
  have HC1 := Lib.hid (fun w (h : TR w w.heap.size x AH AG) h' => dCheck_any x AH AG ch cg a A c w h h' hng hnh hla)
  have HC2 := Lib.hid (fun w (h : TR w w.heap.size x AH AG) h' => dCheck_any x AH AG ch cg b B d w h h' hng hnh hlb)
  have hl1 := check_glen x a
  have hl2 := check_glen x b
  have hn : compR x a b = if (checkR x a).2.2 = 0 then if (checkR x b).2.2 = 0 then (cmpL (srt (checkR x a).1) (srt (checkR x b).1), 0) else (0, (checkR x b).2.2) else (0, (checkR x a).2.2) := rfl
  clear hr ha hb
  obtain ⟨l1, n1, e1, h1⟩ : ∃ l n e, checkR x a = (l, n, e) := ⟨_, _, _, rfl⟩
  obtain ⟨l2, n2, e2, h2⟩ : ∃ l n e, checkR x b = (l, n, e) := ⟨_, _, _, rfl⟩
  rw [h1] at HC1 hl1
  rw [h2] at HC2 hl2
  rw [h1, h2] at hn
  simp only at hn hl1 hl2
  clear h1 h2
  by_cases he1 : e1 = 0
  rotate_left
  · rw [if_neg he1] at hn
    have he1' : (e1 == 0) = false := by simpa using he1
    rw [hn]
    clear hn he1 HC2
    unfold ttv at *
    go_enter Try.func14, Try.ntmps14
    go_upto_region 1 with fail
    generalize W.alloc (.cells (ttc x AH AG ch cg) 25) = w0 at HB ⊢
    have x0 : w0.cell? ⟨W.heap.size, 0, none⟩ = some (.slice AH x.H.length ch) := HB.out.fx.cell 0
    have x1 : w0.cell? ⟨W.heap.size, 1, none⟩ = some (.slice AG x.G.length cg) := HB.out.fx.cell 1
    have x2 : w0.cell? ⟨W.heap.size, 2, none⟩ = some (.int .i64 x.R) := HB.out.fx.cell 2
    go_wp2_with fail
    refine (HC1.out _ (HR.out.1.step HB.out.b) (HR.out.2.1.step HB.out.b)).mono ?_
    rintro e w1 ⟨A1, c1, rfl, _, hb1, _⟩
    have HB1 := Lib.hid (HB.out.step hb1)
    clear hb1 x0 x1 x2
    dsimp only
    go_wp2_with fail
    refine bodyPost_ret (v := .tuple #[.int .i64 0, .int .i64 e1]) (by simp [results, Try.results14, go_sem]) rfl ?_
    exact ⟨rfl, HB1.out.b⟩
  subst he1
  rw [if_pos rfl] at hn
  by_cases he2 : e2 = 0
  rotate_left
  · rw [if_neg he2] at hn
    have he2' : (e2 == 0) = false := by simpa using he2
    rw [hn]
    clear hn he2
    unfold ttv at *
    go_enter Try.func14, Try.ntmps14
    go_upto_region 1 with fail
    generalize W.alloc (.cells (ttc x AH AG ch cg) 25) = w0 at HB ⊢
    have x0 : w0.cell? ⟨W.heap.size, 0, none⟩ = some (.slice AH x.H.length ch) := HB.out.fx.cell 0
    have x1 : w0.cell? ⟨W.heap.size, 1, none⟩ = some (.slice AG x.G.length cg) := HB.out.fx.cell 1
    have x2 : w0.cell? ⟨W.heap.size, 2, none⟩ = some (.int .i64 x.R) := HB.out.fx.cell 2
    go_wp2_with fail
    refine (HC1.out _ (HR.out.1.step HB.out.b) (HR.out.2.1.step HB.out.b)).mono ?_
    rintro e w1 ⟨A1, c1, rfl, _, hb1, _⟩
    have HB1 := Lib.hid (HB.out.step hb1)
    clear hb1 x0 x1 x2
    have x0 : w1.cell? ⟨W.heap.size, 0, none⟩ = some (.slice AH x.H.length ch) := HB1.out.fx.cell 0
    have x1 : w1.cell? ⟨W.heap.size, 1, none⟩ = some (.slice AG x.G.length cg) := HB1.out.fx.cell 1
    have x2 : w1.cell? ⟨W.heap.size, 2, none⟩ = some (.int .i64 x.R) := HB1.out.fx.cell 2
    dsimp only
    go_wp2_with fail
    refine (HC2.out _ (HR.out.1.step HB1.out.b) (HR.out.2.2.step HB1.out.b)).mono ?_
    rintro e w2 ⟨A2, c2, rfl, _, hb2, _⟩
    have HB2 := Lib.hid (HB1.out.step hb2)
    clear hb2 x0 x1 x2
    dsimp only
    go_wp2_with fail
    refine bodyPost_ret (v := .tuple #[.int .i64 0, .int .i64 e2]) (by simp [results, Try.results14, go_sem]) rfl ?_
    exact ⟨rfl, HB2.out.b⟩
  subst he2
  rw [if_pos rfl] at hn
  rw [hn]
  clear hn
  have HL := Lib.hid (And.intro hl1 hl2)
  clear hl1 hl2
  unfold ttv at *
  go_enter Try.func14, Try.ntmps14
  go_upto_region 1 with fail
  generalize W.alloc (.cells (ttc x AH AG ch cg) 25) = w0 at HB ⊢
  have x0 : w0.cell? ⟨W.heap.size, 0, none⟩ = some (.slice AH x.H.length ch) := HB.out.fx.cell 0
  have x1 : w0.cell? ⟨W.heap.size, 1, none⟩ = some (.slice AG x.G.length cg) := HB.out.fx.cell 1
  have x2 : w0.cell? ⟨W.heap.size, 2, none⟩ = some (.int .i64 x.R) := HB.out.fx.cell 2
  go_wp2_with fail
  refine (HC1.out _ (HR.out.1.step HB.out.b) (HR.out.2.1.step HB.out.b)).mono ?_
  rintro e w1 ⟨A1, c1, rfl, hrow1, hb1, hs1⟩
  obtain ⟨g1, o1, rfl⟩ := hs1 rfl
  have HB1 := Lib.hid (And.intro (HB.out.step hb1) hrow1)
  clear hb1 x0 x1 x2 hrow1 hs1
  have x0 : w1.cell? ⟨W.heap.size, 0, none⟩ = some (.slice AH x.H.length ch) := HB1.out.1.fx.cell 0
  have x1 : w1.cell? ⟨W.heap.size, 1, none⟩ = some (.slice AG x.G.length cg) := HB1.out.1.fx.cell 1
  have x2 : w1.cell? ⟨W.heap.size, 2, none⟩ = some (.int .i64 x.R) := HB1.out.1.fx.cell 2
  dsimp only
  go_wp2_with fail
  refine (HC2.out _ (HR.out.1.step HB1.out.1.b) (HR.out.2.2.step HB1.out.1.b)).mono ?_
  rintro e w2 ⟨A2, c2, rfl, hrow2, hb2, hs2⟩
  obtain ⟨g2, o2, rfl⟩ := hs2 rfl
  have HB2 := Lib.hid (And.intro (HB1.out.1.step hb2) (And.intro (HB1.out.2.step hb2) hrow2))
  clear hb2 x0 x1 x2 hrow2 hs2
  have HF := Lib.hid (fairer_any l1 l2 (some ⟨g1, o1, none⟩) (some ⟨g2, o2, none⟩) c1 c2 w2 HB2.out.2.1 HB2.out.2.2 (by rw [HL.out.1 (by trivial)]; exact hng) (by rw [HL.out.1 (by trivial), HL.out.2 (by trivial)]))
  dsimp only
  go_wp2_with fail
  refine HF.out.mono ?_
  rintro e w5 ⟨rfl, hb5⟩
  have HB5 := Lib.hid (HB2.out.1.step hb5)
  clear hb5
  go_wp2_with fail
  refine bodyPost_ret (v := .tuple #[.int .i64 (cmpL (srt l1) (srt l2)), .int .i64 0]) (by simp [results, Try.results14, go_sem]) rfl ?_
  exact ⟨rfl, HB5.out.b⟩
end Go.Proofs.Ytipejhfgfciabaa
