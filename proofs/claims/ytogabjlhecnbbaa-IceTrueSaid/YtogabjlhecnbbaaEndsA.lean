/- What Play does to the ends of zones, plainly. -/
import Derived.Test.YtogabjlhecnbbaaPlays
namespace Go.Proofs.Ytogabjlhecnbbaa
open Go.RowKit Go.Shelf
/-- a zone that is surely as thin (as thick) as it can be; an event with one end -/
def loZ (z : Zn) : Zn := ⟨z.a, z.a, z.c, z.c⟩
def hiZ (z : Zn) : Zn := ⟨z.b, z.b, z.d, z.d⟩
def lessE (e : Ev) : Ev := if e.k = 0 then { e with x := e.x, y := e.x } else { e with x := e.y, y := e.y }
def moreE (e : Ev) : Ev := if e.k = 0 then { e with x := e.y, y := e.y } else { e with x := e.x, y := e.x }
theorem lessE_k (e : Ev) : (lessE e).k = e.k ∧ (lessE e).f = e.f ∧ (lessE e).t = e.t := by unfold lessE; split <;> exact ⟨rfl, rfl, rfl⟩
theorem moreE_k (e : Ev) : (moreE e).k = e.k ∧ (moreE e).f = e.f ∧ (moreE e).t = e.t := by unfold moreE; split <;> exact ⟨rfl, rfl, rfl⟩
theorem lessE_ok {e : Ev} {n : Int} (h : e.ok n = true) : (lessE e).ok n = true ∧ (lessE e).last = e.last := by
  obtain ⟨h1, h2, h3⟩ := lessE_k e
  refine ⟨?_, by unfold Ev.last; rw [h1, h2, h3]⟩
  unfold Ev.ok at h ⊢
  rw [h1, h2, h3]
  simp only [Bool.and_eq_true, Bool.or_eq_true, decide_eq_true_eq, win_iff] at h ⊢
  refine ⟨h.1, ?_⟩
  rcases h.2 with hw | hw
  · exact .inl hw
  · right; unfold lessE; split <;> simp only <;> omega
theorem moreE_ok {e : Ev} {n : Int} (h : e.ok n = true) : (moreE e).ok n = true ∧ (moreE e).last = e.last := by
  obtain ⟨h1, h2, h3⟩ := moreE_k e
  refine ⟨?_, by unfold Ev.last; rw [h1, h2, h3]⟩
  unfold Ev.ok at h ⊢
  rw [h1, h2, h3]
  simp only [Bool.and_eq_true, Bool.or_eq_true, decide_eq_true_eq, win_iff] at h ⊢
  refine ⟨h.1, ?_⟩
  rcases h.2 with hw | hw
  · exact .inl hw
  · right; unfold moreE; split <;> simp only <;> omega
theorem less_do {e : Ev} {z : Zn} (hk : 0 ≤ e.k ∧ e.k < 5) (hd : e.k ≠ 3) (hw : e.k = 4 ∨ win e.x e.y = true) (hz : z.ok = true) (he : zErr e z = 0) (s s' : Sm) :
    zErr (lessE e) (loZ z) = 0 ∧ (zDo (lessE e) (loZ z) s').1 = loZ (zDo e z s).1 := by
  simp only [Zn.ok, Bool.and_eq_true, win_iff] at hz
  rw [win_iff] at hw
  obtain ⟨k, f, t, x, y⟩ := e
  simp only at hk hd hw
  have hkk : k = 0 ∨ k = 1 ∨ k = 2 ∨ k = 4 := by omega
  rcases hkk with rfl | rfl | rfl | rfl
  · have hlim : ¬ 20000 < z.b + y := by
      intro h; simp [zErr, h] at he
    have h2 : ¬ 20000 < z.a + x := by omega
    simp [lessE, loZ, zErr, zDo, Zn.ice, h2]
  · simp [lessE, loZ, zErr, zDo, Zn.ice]
  · simp [lessE, loZ, zErr, zDo, Zn.ice]
  · simp [lessE, loZ, zErr, zDo]
theorem more_do {e : Ev} {z : Zn} (hk : 0 ≤ e.k ∧ e.k < 5) (hd : e.k ≠ 3) (he : zErr e z = 0) (s s' : Sm) :
    zErr (moreE e) (hiZ z) = 0 ∧ (zDo (moreE e) (hiZ z) s').1 = hiZ (zDo e z s).1 := by
  obtain ⟨k, f, t, x, y⟩ := e
  simp only at hk hd
  have hkk : k = 0 ∨ k = 1 ∨ k = 2 ∨ k = 4 := by omega
  rcases hkk with rfl | rfl | rfl | rfl
  · have hlim : ¬ 20000 < z.b + y := by
      intro h; simp [zErr, h] at he
    simp [moreE, hiZ, zErr, zDo, Zn.ice, hlim]
  · simp [moreE, hiZ, zErr, zDo, Zn.ice]
  · simp [moreE, hiZ, zErr, zDo, Zn.ice]
  · simp [moreE, hiZ, zErr, zDo]

/-- a map of zones and of events that keeps what is done -/
structure Keeps1 (F : Zn → Zn) (G : Ev → Ev) : Prop where
  ok : ∀ (e : Ev) (n : Int), e.ok n = true → (G e).ok n = true ∧ (G e).last = e.last ∧ (G e).f = e.f
  act : ∀ (e : Ev) (z : Zn) (s s' : Sm), 0 ≤ e.k ∧ e.k < 5 → e.k ≠ 3 → (e.k = 4 ∨ win e.x e.y = true) → z.ok = true → zErr e z = 0 → zErr (G e) (F z) = 0 ∧ (zDo (G e) (F z) s').1 = F (zDo e z s).1
theorem keeps_lo : Keeps1 loZ lessE := ⟨fun e _ h => ⟨(lessE_ok h).1, (lessE_ok h).2, (lessE_k e).2.1⟩, fun _ _ s s' hk hd hw hz he => less_do hk hd hw hz he s s'⟩
theorem keeps_hi : Keeps1 hiZ moreE := ⟨fun e _ h => ⟨(moreE_ok h).1, (moreE_ok h).2, (moreE_k e).2.1⟩, fun _ _ s s' hk hd _ _ he => more_do hk hd he s s'⟩
theorem loopE_map {F : Zn → Zn} {G : Ev → Ev} (hK : Keeps1 F G) {e : Ev} (hk : 0 ≤ e.k ∧ e.k < 5) (hd : e.k ≠ 3) (hw : e.k = 4 ∨ win e.x e.y = true) :
    ∀ (n i : Nat) (st : List Zn × Sm) (s' : Sm) (c : Int), i + n ≤ st.1.length → (∀ z ∈ st.1, z.ok = true) → st.2.Bd c → (loopE e i n st).2 = 0 →
      (loopE (G e) i n (st.1.map F, s')).2 = 0 ∧ (loopE (G e) i n (st.1.map F, s')).1.1 = (loopE e i n st).1.1.map F
  | 0, _, _, _, _, _, _, _, _ => ⟨rfl, rfl⟩
  | n + 1, i, st, s', c, hi, hz, hs, h0 => by
    have hil : i < st.1.length := by omega
    have hg : st.1.getD i zd = st.1[i] := by simp [hil]
    have hg' : (st.1.map F).getD i zd = F st.1[i] := by simp [hil]
    unfold loopE at h0 ⊢
    by_cases he : zErr e (st.1.getD i zd) = 0
    · rw [if_pos he] at h0 ⊢
      obtain ⟨h1, h2, h3⟩ := loopE_bd_step (s := st.2) hil hz hs hk hw he
      rw [hg] at he
      obtain ⟨g1, g2⟩ := hK.act e st.1[i] st.2 s' hk hd hw (hz _ (List.getElem_mem hil)) he
      simp only [hg']
      rw [if_pos g1]
      have hst : zStep (G e) i (st.1.map F, s') = ((zStep e i st).1.map F, (zDo (G e) (F st.1[i]) s').2) := by
        unfold zStep
        simp only [hg, hg', g2, List.map_set]
      rw [hst]
      exact loopE_map hK hk hd hw n (i + 1) (zStep e i st) _ (c + 20000) (by rw [h1]; omega) h2 h3 h0
    · rw [if_neg he] at h0; exact absurd h0 he
theorem evDo_map {F : Zn → Zn} {G : Ev → Ev} (hK : Keeps1 F G) {e : Ev} {st : List Zn × Sm} {s' : Sm} {c : Int} (hd : e.k ≠ 3) (hz : ∀ z ∈ st.1, z.ok = true) (hs : st.2.Bd c) (h0 : (evDo e st).2 = 0) :
    (evDo (G e) (st.1.map F, s')).2 = 0 ∧ (evDo (G e) (st.1.map F, s')).1.1 = (evDo e st).1.1.map F := by
  unfold evDo at h0 ⊢
  cases hok : e.ok st.1.length
  · rw [hok] at h0; simp at h0
  · rw [hok, if_pos rfl] at h0
    obtain ⟨k1, k2, k3⟩ := hK.ok e st.1.length hok
    rw [if_pos rfl]
    simp only [List.length_map]
    rw [k1, if_pos rfl, k2, k3]
    simp only [Ev.ok, Bool.and_eq_true, decide_eq_true_eq, Bool.or_eq_true] at hok
    have hlast : e.last < st.1.length := by unfold Ev.last; split <;> omega
    exact loopE_map hK ⟨hok.1.1.1, hok.1.1.2.1⟩ hd hok.2 _ _ st s' c (by omega) hz hs h0
theorem playL_map {F : Zn → Zn} {G : Ev → Ev} (hK : Keeps1 F G) : ∀ (es : List Ev) (st : List Zn × Sm) (s' : Sm) (i j : Nat) (c : Int), (∀ e ∈ es, e.k ≠ 3) → st.1.length ≤ 24 → (∀ z ∈ st.1, z.ok = true) → st.2.Bd c → (playL es st i).2.2 = 0 →
    (playL (es.map G) (st.1.map F, s') j).2.2 = 0 ∧ (playL (es.map G) (st.1.map F, s') j).1.1 = (playL es st i).1.1.map F
  | [], _, _, _, _, _, _, _, _, _, _ => ⟨rfl, rfl⟩
  | e :: l, st, s', i, j, c, hd, hl, hz, hs, h0 => by
    simp only [List.map_cons]
    unfold playL at h0 ⊢
    by_cases he : (evDo e st).2 = 0
    · rw [if_pos he] at h0 ⊢
      obtain ⟨h1, h2, h3⟩ := evDo_inv hl hz hs he
      obtain ⟨g1, g2⟩ := evDo_map hK (s' := s') (hd e (by simp)) hz hs he
      rw [if_pos g1]
      have : (evDo (G e) (st.1.map F, s')).1 = ((evDo e st).1.1.map F, (evDo (G e) (st.1.map F, s')).1.2) := by rw [← g2]
      rw [this]
      exact playL_map hK l (evDo e st).1 _ (i + 1) (j + 1) (c + 480000) (fun e' he' => hd e' (by simp [he'])) (by omega) h2 h3 h0
    · rw [if_neg he] at h0; exact absurd h0 he
theorem rink_lo {zs : List Zn} (h : rinkOk zs = true) : rinkOk (zs.map loZ) = true := by
  simp only [rinkOk, Bool.and_eq_true, decide_eq_true_eq, List.all_eq_true, List.length_map] at h ⊢
  refine ⟨h.1, fun z hz => ?_⟩
  obtain ⟨y, hy, rfl⟩ := List.mem_map.1 hz
  have := h.2 y hy
  simp only [Zn.ok, Bool.and_eq_true, win_iff, loZ] at this ⊢
  omega
theorem rink_hi {zs : List Zn} (h : rinkOk zs = true) : rinkOk (zs.map hiZ) = true := by
  simp only [rinkOk, Bool.and_eq_true, decide_eq_true_eq, List.all_eq_true, List.length_map] at h ⊢
  refine ⟨h.1, fun z hz => ?_⟩
  obtain ⟨y, hy, rfl⟩ := List.mem_map.1 hz
  have := h.2 y hy
  simp only [Zn.ok, Bool.and_eq_true, win_iff, hiZ] at this ⊢
  omega
/-- what Play gives, if it ends without an error -/
theorem playR_ok {zs : List Zn} {es : List Ev} (h : (playR zs es).e = 0) : rinkOk zs = true ∧ es.length ≤ 256 ∧ (playL es (zs, Sm.zero) 0).2.2 = 0 ∧ playR zs es = ⟨(playL es (zs, Sm.zero) 0).1.1, (playL es (zs, Sm.zero) 0).1.2, es.length, 0⟩ := by
  unfold playR at h ⊢
  cases hr : rinkOk zs
  · simp [hr] at h
  · rw [hr, if_neg (by simp)] at h
    rw [if_neg (by simp)]
    by_cases hl : 256 < es.length
    · rw [if_pos hl] at h; simp at h
    · rw [if_neg hl] at h ⊢
      by_cases h0 : (playL es (zs, Sm.zero) 0).2.2 = 0
      · rw [if_pos h0]; exact ⟨rfl, by omega, h0, rfl⟩
      · rw [if_neg h0] at h; exact absurd h h0
theorem playR_of {zs : List Zn} {es : List Ev} (hr : rinkOk zs = true) (hl : es.length ≤ 256) (h0 : (playL es (zs, Sm.zero) 0).2.2 = 0) : playR zs es = ⟨(playL es (zs, Sm.zero) 0).1.1, (playL es (zs, Sm.zero) 0).1.2, es.length, 0⟩ := by
  unfold playR
  rw [hr, if_neg (by simp), if_neg (by omega), if_pos h0]
theorem play_map {F : Zn → Zn} {G : Ev → Ev} (hK : Keeps1 F G) {zs : List Zn} {es : List Ev} (hd : ∀ e ∈ es, e.k ≠ 3) (hrF : rinkOk (zs.map F) = true) (h : (playR zs es).e = 0) :
    (playR (zs.map F) (es.map G)).e = 0 ∧ (playR (zs.map F) (es.map G)).zs = (playR zs es).zs.map F := by
  obtain ⟨hr, hl, h0, e1⟩ := playR_ok h
  obtain ⟨g1, g2⟩ := playL_map hK es (zs, Sm.zero) Sm.zero 0 0 0 hd (rink_parts hr).1 (rink_parts hr).2.2 (by unfold Sm.Bd; simp) h0
  rw [playR_of hrF (by simpa using hl) g1, e1]
  exact ⟨rfl, g2⟩
theorem play_lo {zs : List Zn} {es : List Ev} (hd : ∀ e ∈ es, e.k ≠ 3) (h : (playR zs es).e = 0) : (playR (zs.map loZ) (es.map lessE)).e = 0 ∧ (playR (zs.map loZ) (es.map lessE)).zs = (playR zs es).zs.map loZ :=
  play_map keeps_lo hd (rink_lo (playR_ok h).1) h
theorem play_hi {zs : List Zn} {es : List Ev} (hd : ∀ e ∈ es, e.k ≠ 3) (h : (playR zs es).e = 0) : (playR (zs.map hiZ) (es.map moreE)).e = 0 ∧ (playR (zs.map hiZ) (es.map moreE)).zs = (playR zs es).zs.map hiZ :=
  play_map keeps_hi hd (rink_hi (playR_ok h).1) h
theorem playR_same {zs : List Zn} {es : List Ev} (h : (playR zs es).e = 0) : (playR zs es).zs.length = zs.length := by
  rw [(playR_ok h).2.2.2]; exact playL_len es (zs, Sm.zero) 0
end Go.Proofs.Ytogabjlhecnbbaa
