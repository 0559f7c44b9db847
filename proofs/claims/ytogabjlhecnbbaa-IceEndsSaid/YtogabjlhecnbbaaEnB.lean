/- The law IceEnds: the walk. -/
import Derived.Test.YtogabjlhecnbbaaEnA
import Derived.Deep.Cut
import Derived.Deep.CutRange
import Derived.Deep.RegionHeldLaw
namespace Go.Proofs.Ytogabjlhecnbbaa
open Go.RowKit Go.Shelf
theorem flat_app (l l' : List Zn) : (flat (l ++ l')).toList = (flat l).toList ++ (flat l').toList := by simp [flat]
def ZsL (zs : List Zn) (k : Nat) : List Value := (flat ((zs.take k).map loZ)).toList
def ZsH (zs : List Zn) (k : Nat) : List Value := (flat ((zs.take k).map hiZ)).toList
theorem ZsL_next {zs : List Zn} {k : Nat} (hk : k < zs.length) {z : Zn} (hz : z = zs[k]) : ZsL zs (k + 1) = ZsL zs k ++ [.int .i64 z.a, .int .i64 z.a, .int .i64 z.c, .int .i64 z.c] := by
  subst hz
  unfold ZsL
  rw [List.take_add_one, List.map_append, flat_app]
  simp [hk, flat, loZ]
theorem ZsH_next {zs : List Zn} {k : Nat} (hk : k < zs.length) {z : Zn} (hz : z = zs[k]) : ZsH zs (k + 1) = ZsH zs k ++ [.int .i64 z.b, .int .i64 z.b, .int .i64 z.d, .int .i64 z.d] := by
  subst hz
  unfold ZsH
  rw [List.take_add_one, List.map_append, flat_app]
  simp [hk, flat, hiZ]
abbrev evc (e : Ev) : Array Value := #[.int .i64 e.k, .int .i64 e.f, .int .i64 e.t, .int .i64 e.x, .int .i64 e.y]
def EsL (es : List Ev) (k : Nat) : List Value := (eflat ((es.take k).map lessE)).toList
def EsH (es : List Ev) (k : Nat) : List Value := (eflat ((es.take k).map moreE)).toList
theorem EsL_next {es : List Ev} {k : Nat} (hk : k < es.length) {x : Ev} (hx : x = es[k]) : EsL es (k + 1) = EsL es k ++ (evc (lessE x)).toList := by
  subst hx
  unfold EsL
  rw [List.take_add_one, List.map_append, eflat_app]
  simp [hk, eflat]
theorem EsH_next {es : List Ev} {k : Nat} (hk : k < es.length) {x : Ev} (hx : x = es[k]) : EsH es (k + 1) = EsH es k ++ (evc (moreE x)).toList := by
  subst hx
  unfold EsH
  rw [List.take_add_one, List.map_append, eflat_app]
  simp [hk, eflat]
theorem drill_next {es : List Ev} {k : Nat} (hk : k < es.length) {x : Ev} (hx : x = es[k]) : (∀ e ∈ es.take k, e.k ≠ 3) → x.k ≠ 3 → ∀ e ∈ es.take (k + 1), e.k ≠ 3 := by
  subst hx
  intro h1 h2 e he
  rw [List.take_add_one] at he
  rcases List.mem_append.1 he with he | he
  · exact h1 e he
  · simp [hk] at he
    rw [he]; exact h2
theorem Two.keep5 {w W : World} {hs : List (Nat × TypeId × Array Value)} {e s : Nat} {a b : Value} {n m : Nat} {xs ys : List Value} {B : Nat} {t : TypeId} {c0 c1 c2 c3 c4 : Value} (h : Two w W hs e s a b n m xs ys) (hm : (B, t, #[c0, c1, c2, c3, c4]) ∈ hs) :
    W.cell? ⟨B, 0, none⟩ = some c0 ∧ W.cell? ⟨B, 1, none⟩ = some c1 ∧ W.cell? ⟨B, 2, none⟩ = some c2 ∧ W.cell? ⟨B, 3, none⟩ = some c3 ∧ W.cell? ⟨B, 4, none⟩ = some c4 := ⟨h.cell hm 0, h.cell hm 1, h.cell hm 2, h.cell hm 3, h.cell hm 4⟩
set_option maxRecDepth 100000 in
set_option maxHeartbeats 4000000 in
theorem ends_any (zs : List Zn) (es : List Ev) (A A' : Option Addr) (cap cap' : Nat) (w : World) (hz : ZRow w w.heap.size A zs) (he : ERow w w.heap.size A' es) (hl : zs.length ≤ 9223372036854775807) (hl' : es.length ≤ 9223372036854775807) :
    Calls Try.prog 8 #[.slice A zs.length cap, .slice A' es.length cap'] w fun e w' => e = .returned (.bool true) ∧ Below w.heap.size w w' := by
  by_cases h60 : 60 < (es.length : Int)
  · go_enter Try.func8, Try.ntmps8
    go_wp2_with fail
    refine (alive_any _).mono ?_
    rintro e wb ⟨rfl, hb⟩
    go_wp2_with fail
    go_ret
    exact ⟨rfl, hb⟩
  have h60' : decide (60 < (es.length : Int)) = false := by simpa using h60
  go_enter Try.func8, Try.ntmps8
  go_wp2_with fail
  refine (play_any zs es A cap A' cap' w hz he hl hl').mono ?_
  intro r wb hp
  obtain ⟨A1, cap1, rfl, hb, hz1⟩ := play_row hp
  clear hp
  by_cases h0 : (playR zs es).e = 0
  rotate_left
  · obtain ⟨e1, e2⟩ := playR_err h0
    have hne : ((playR zs es).e != 0) = true := by simpa using h0
    have hpi : 0 ≤ (playR zs es).i := by
      unfold playR
      repeat' split
      all_goals (simp only; omega)
    obtain ⟨pe, hpe⟩ : ∃ pe, pe = (playR zs es).e := ⟨_, rfl⟩
    obtain ⟨pi, hpie⟩ : ∃ pi, pi = (playR zs es).i := ⟨_, rfl⟩
    rw [← hpe] at hne
    rw [← hpie] at hpi
    rw [e1, e2, ← hpe, ← hpie]
    have hbb := belowT hb (below1 wb (.cells #[iv 0, iv 0, iv 0, iv 0, iv 0, iv 0] 29))
    clear hpe h0 e1 e2 hz1 hb hpie
    go_wp2_with fail
    refine (alive_any _).mono ?_
    rintro e wc ⟨rfl, hb⟩
    have HE := Lib.hid (belowT hbb hb)
    go_wp2_with fail
    go_ret
    exact ⟨rfl, HE.out⟩
  have hsame := playR_same h0
  have HOK := Lib.hid (playR_ok h0).1
  have HP0 := Lib.hid h0
  obtain ⟨⟨rz, s, i, e⟩, hR⟩ : ∃ R, R = playR zs es := ⟨_, rfl⟩
  rw [← hR] at hz1 h0 hsame ⊢
  simp only at hz1 h0 hsame ⊢
  subst h0
  have HR := Lib.hid hR
  clear hR
  have HB1 := Lib.hid (belowT hb (below1 wb (.cells #[iv s.f1, iv s.f2, iv s.p1, iv s.p2, iv s.w1, iv s.w2] 29)))
  have HZ1 := Lib.hid (hz1.step (below1 wb (.cells #[iv s.f1, iv s.f2, iv s.p1, iv s.p2, iv s.w1, iv s.w2] 29)))
  clear hb hz1
  rw [hsame]
  go_wp2_with fail
  refine (rinkR_any zs A cap _ (hz.step HB1.out) hl).mono ?_
  rintro r wc ⟨rfl, hb⟩
  rw [HOK.out]
  have HBc := Lib.hid (belowT HB1.out hb)
  have HZc := Lib.hid (HZ1.out.step hb)
  clear hb HB1 HZ1
  obtain ⟨i60, hi, hz0, hzz, hzs⟩ := info_parts Try.info60
  have hl24 := (rink_parts HOK.out).1
  go_wp2_with fail
  go_loopw [66, 10, 11] (fun i u v wr => ∃ k : Nat, k ≤ zs.length ∧ i = .int .i64 k ∧ Hid (Two wc wr [] 60 4 u v k k (ZsL zs k) (ZsH zs k))) (fun i _ _ _ => zs.length - (intOf i).toNat)
  case atStart => exact ⟨0, Nat.zero_le _, rfl, Two.start _ _ _⟩
  case round =>
    obtain ⟨k, hk, rfl, HI⟩ := hrel
    have hsz := HI.out.bl.size
    by_cases hlt : k < zs.length
    · have hlt' : (k : Int) < zs.length := by omega
      obtain ⟨g, o, eA, hg, d0, d1, d2, d3⟩ := (hz.below (belowT HBc.out HI.out.bl)) k hlt
      obtain ⟨x, hx⟩ : ∃ x, x = zs[k] := ⟨_, rfl⟩
      have HX := Lib.hid (And.intro (ZsL_next hlt hx) (ZsH_next hlt hx))
      rw [← hx] at d0 d1 d2 d3
      clear hx
      subst eA
      have hgw : g < wr.heap.size := by have := (belowT HBc.out HI.out.bl).size; omega
      go_upto_region 13 with fail
      have HT : Hid (Two wc (wr.alloc (.cells #[.int .i64 x.a, .int .i64 x.b, .int .i64 x.c, .int .i64 x.d] 60)).drew [(wr.heap.size, 60, #[.int .i64 x.a, .int .i64 x.b, .int .i64 x.c, .int .i64 x.d])] 60 4 u10 u11 k k (ZsL zs k) (ZsH zs k)) := (HI.out.more _ _).drew
      clear HI
      go_region_held_law (fun w' => w'.cell? ⟨wr.heap.size, 0, none⟩ = some (.int .i64 x.a) ∧ w'.cell? ⟨wr.heap.size, 1, none⟩ = some (.int .i64 x.b) ∧ w'.cell? ⟨wr.heap.size, 2, none⟩ = some (.int .i64 x.c) ∧ w'.cell? ⟨wr.heap.size, 3, none⟩ = some (.int .i64 x.d))
        (first | exact HT.out.keep4 (t := 60) (by simp) | exact (HT.out.more _ _).keep4 (t := 60) (by simp) | exact ((HT.out.more _ _).more _ _).keep4 (t := 60) (by simp))
        (first
          | (go_at_call 34; refine (one_any _ _).mono ?_; rintro r wy ⟨rfl, hby⟩; first | (have HT := Lib.hid (HT.out.step hby)) | (have HT := Lib.hid ((HT.out.more _ _).step hby)) | (have HT := Lib.hid (((HT.out.more _ _).more _ _).step hby)))
          | (refine step_append_lies _ (by rfl) _ _ _ (by rfl) wc.heap.size 60 i60 (.agg #[iv 0, iv 0, iv 0, iv 0]) 4 32 Try.underlying22 hi hz0 hzz hzs rfl (by decide) u10 k (ZsL zs k) (by rfl) (by first | exact HT.out.ra | exact (HT.out.more _ _).ra | exact ((HT.out.more _ _).more _ _).ra) _ 1 1 [.int .i64 x.a, .int .i64 x.a, .int .i64 x.c, .int .i64 x.c] (by rfl) rfl (by first | exact HT.out.news (t := 60) (cs := #[.int .i64 x.a, .int .i64 x.a, .int .i64 x.c, .int .i64 x.c]) (by simp) | exact (HT.out.more _ _).news (t := 60) (cs := #[.int .i64 x.a, .int .i64 x.a, .int .i64 x.c, .int .i64 x.c]) (by simp) | exact ((HT.out.more _ _).more _ _).news (t := 60) (cs := #[.int .i64 x.a, .int .i64 x.a, .int .i64 x.c, .int .i64 x.c]) (by simp)) (by simp [Value.oneCell']) (by decide) (by unfold maxLen; omega) (by omega) (by first | exact HT.out.bl.size | exact (HT.out.more _ _).bl.size | exact ((HT.out.more _ _).more _ _).bl.size) _ rfl ?_; intro g1 c1 wy hown hgrow hat _; first | (have HT := Lib.hid (HT.out.left hown hgrow hat)) | (have HT := Lib.hid ((HT.out.more _ _).left hown hgrow hat)) | (have HT := Lib.hid (((HT.out.more _ _).more _ _).left hown hgrow hat)))
          | (refine step_append_lies _ (by rfl) _ _ _ (by rfl) wc.heap.size 60 i60 (.agg #[iv 0, iv 0, iv 0, iv 0]) 4 32 Try.underlying22 hi hz0 hzz hzs rfl (by decide) u11 k (ZsH zs k) (by rfl) (by first | exact HT.out.rb | exact (HT.out.more _ _).rb | exact ((HT.out.more _ _).more _ _).rb) _ 1 1 [.int .i64 x.b, .int .i64 x.b, .int .i64 x.d, .int .i64 x.d] (by rfl) rfl (by first | exact HT.out.news (t := 60) (cs := #[.int .i64 x.b, .int .i64 x.b, .int .i64 x.d, .int .i64 x.d]) (by simp) | exact (HT.out.more _ _).news (t := 60) (cs := #[.int .i64 x.b, .int .i64 x.b, .int .i64 x.d, .int .i64 x.d]) (by simp) | exact ((HT.out.more _ _).more _ _).news (t := 60) (cs := #[.int .i64 x.b, .int .i64 x.b, .int .i64 x.d, .int .i64 x.d]) (by simp)) (by simp [Value.oneCell']) (by decide) (by unfold maxLen; omega) (by omega) (by first | exact HT.out.bl.size | exact (HT.out.more _ _).bl.size | exact ((HT.out.more _ _).more _ _).bl.size) _ rfl ?_; intro g2 c2 wy hown hgrow hat _; first | (have HT := Lib.hid (HT.out.right hown hgrow hat)) | (have HT := Lib.hid ((HT.out.more _ _).right hown hgrow hat)) | (have HT := Lib.hid (((HT.out.more _ _).more _ _).right hown hgrow hat))))
      all_goals go_wp2_with fail
      all_goals go_roundw
      all_goals first
        | exact ⟨k + 1, by omega, by go_num, Lib.hid (by rw [HX.out.1, HX.out.2]; exact HT.out.none_)⟩
        | (simp [intOf]; omega)
    · have hkl : k = zs.length := by omega
      subst hkl
      obtain ⟨A2, c2, e2, -, hr2⟩ := own_zap (zs := zs.map loZ) (B := wr.heap.size) (by have := HI.out.ra; unfold ZsL at this; rw [List.take_length] at this; rw [List.length_map]; exact this) (fun _ g _ h => by omega)
      obtain ⟨A3, c3, e3, -, hr3⟩ := own_zap (zs := zs.map hiZ) (B := wr.heap.size) (by have := HI.out.rb; unfold ZsH at this; rw [List.take_length] at this; rw [List.length_map]; exact this) (fun _ g _ h => by omega)
      rw [List.length_map] at e2 e3
      have HY : Hid (Below w.heap.size w wr ∧ ZRow wr wr.heap.size A1 rz ∧ ZRow wr wr.heap.size A2 (zs.map loZ) ∧ ZRow wr wr.heap.size A3 (zs.map hiZ)) := ⟨belowT HBc.out HI.out.bl, HZc.out.step HI.out.bl, hr2.row, hr3.row⟩
      subst e2 e3
      clear HI HBc HZc hr2 hr3 hsz
      obtain ⟨w3, rfl⟩ : ∃ w3, w3 = wr := ⟨_, rfl⟩
      obtain ⟨i54, hi', hz0', hzz', hzs'⟩ := info_parts Try.info54
      have hlts : ¬ ((zs.length : Int) < zs.length) := by omega
      go_wp2_with fail
      go_loopw [101, 14, 15] (fun i u v wr => ∃ k : Nat, k ≤ es.length ∧ i = .int .i64 k ∧ Hid (Two w3 wr [] 54 5 u v k k (EsL es k) (EsH es k) ∧ ∀ e ∈ es.take k, e.k ≠ 3)) (fun i _ _ _ => es.length - (intOf i).toNat)
      case atStart => exact ⟨0, Nat.zero_le _, rfl, Two.start _ _ _, fun e he => by simp at he⟩
      case round =>
        obtain ⟨k, hk, rfl, HI⟩ := hrel
        have hsz := HI.out.1.bl.size
        by_cases hlt : k < es.length
        · have hlt' : (k : Int) < es.length := by omega
          obtain ⟨g, o, eA, hg, d0, d1, d2, d3, d4⟩ := (he.below (belowT HY.out.1 HI.out.1.bl)) k hlt
          obtain ⟨x, hx⟩ : ∃ x, x = es[k] := ⟨_, rfl⟩
          have HX := Lib.hid (And.intro (EsL_next hlt hx) (And.intro (EsH_next hlt hx) (drill_next hlt hx)))
          rw [← hx] at d0 d1 d2 d3 d4
          clear hx
          subst eA
          have hgw : g < wr.heap.size := by have := (belowT HY.out.1 HI.out.1.bl).size; omega
          go_upto_region 19 with fail
          go_cut [18, 19] (fun p q wx => ∃ a b, p = .pointer (some ⟨a, 0, none⟩) ∧ q = .pointer (some ⟨b, 0, none⟩) ∧ a ≠ b ∧ wr.heap.size < a ∧ wr.heap.size < b ∧ Hid (Two w3 wx [(a, 54, evc x), (b, 54, evc x), (wr.heap.size, 54, evc x)] 54 5 u14 u15 k k (EsL es k) (EsH es k)))
          case first =>
            have HT : Hid (Two w3 (wr.alloc (.cells (evc x) 54)).drew [(wr.heap.size, 54, evc x)] 54 5 u14 u15 k k (EsL es k) (EsH es k)) := (HI.out.1.more _ _).drew
            go_region_held3 (fun w' => w'.cell? ⟨wr.heap.size, 0, none⟩ = some (.int .i64 x.k) ∧ w'.cell? ⟨wr.heap.size, 1, none⟩ = some (.int .i64 x.f) ∧ w'.cell? ⟨wr.heap.size, 2, none⟩ = some (.int .i64 x.t) ∧ w'.cell? ⟨wr.heap.size, 3, none⟩ = some (.int .i64 x.x) ∧ w'.cell? ⟨wr.heap.size, 4, none⟩ = some (.int .i64 x.y)) (first | exact HT.out.keep5 (t := 54) (by simp) | exact (HT.out.more _ _).keep5 (t := 54) (by simp) | exact ((HT.out.more _ _).more _ _).keep5 (t := 54) (by simp) | go_keep) (fail)
            all_goals try go_wp2_with fail
            all_goals go_meet
            all_goals exact ⟨_, _, rfl, rfl, by omega, by omega, by omega, Lib.hid ((((HI.out.1.more (evc x) 54).more (evc x) 54).more (evc x) 54).drew.less (fun y hy => by simp at hy ⊢; rcases hy with rfl | rfl | rfl <;> simp))⟩
          case rest =>
            obtain ⟨p, q, rfl, rfl, hpq, hgp, hgq, HT⟩ := hcut
            have HD := Lib.hid HI.out.2
            clear HI
            have hp := (HT.out.hs _ (by simp : (p, 54, evc x) ∈ _)).1
            have hq := (HT.out.hs _ (by simp : (q, 54, evc x) ∈ _)).1
            have hx := (HT.out.hs _ (by simp : (wr.heap.size, 54, evc x) ∈ _)).1
            have x0 : wc.cell? ⟨wr.heap.size, 0, none⟩ = some (.int .i64 x.k) := hx.cell 0
            have xl := hx.lt
            have hGp : wr.heap.size ≠ p := by omega
            have hGq : wr.heap.size ≠ q := by omega
            clear d0 d1 d2 d3 d4
            by_cases hk3 : x.k = 3
            · have c3 : (x.k == 3) = true := by simpa using hk3
              clear hk3
              go_wp2_with fail
              refine (alive_any _).mono ?_
              rintro r wl ⟨rfl, hbl⟩
              have HF := Lib.hid (belowT (belowT HY.out.1 HT.out.bl) hbl)
              clear hbl
              go_wp2_with fail
              go_ret
              exact ⟨rfl, HF.out⟩
            have c3 : (x.k == 3) = false := by simpa using hk3
            by_cases hk0 : x.k = 0
            · have c0 : (x.k == 0) = true := by simpa using hk0
              have HL : Hid (lessE x = ⟨x.k, x.f, x.t, x.x, x.x⟩ ∧ moreE x = ⟨x.k, x.f, x.t, x.y, x.y⟩) := by
                show _ ∧ _
                unfold lessE moreE
                rw [if_pos hk0, if_pos hk0]
                exact ⟨rfl, rfl⟩
              have HK3 := Lib.hid hk3
              clear hk0 hk3
              go_upto_region 25 with fail
              have HT := Lib.hid HT.out.drew
              clear hp hq hx
              go_region_held_law (fun w' => w'.cell? ⟨wr.heap.size, 3, none⟩ = some (.int .i64 x.x) ∧ w'.cell? ⟨wr.heap.size, 4, none⟩ = some (.int .i64 x.y))
                ((refine ⟨?_, ?_⟩; all_goals (repeat (first | rw [set_far _ _ hGp] | rw [set_far _ _ hGq])); first | exact HT.out.cell (t := 54) (cs := evc x) (by simp) 3 | exact HT.out.cell (t := 54) (cs := evc x) (by simp) 4))
                ((go_at_call 34; refine (one_any _ _).mono ?_; rintro r wy ⟨rfl, hby⟩; have HT := Lib.hid (HT.out.step hby); obtain ⟨pc3, pc4, pf3, pf4, pl⟩ := HT.out.open34 (p := p) (t := 54) (c0 := .int .i64 x.k) (c1 := .int .i64 x.f) (c2 := .int .i64 x.t) (c3 := .int .i64 x.x) (c4 := .int .i64 x.y) (by simp); obtain ⟨qc3, qc4, qf3, qf4, ql⟩ := HT.out.open34 (p := q) (t := 54) (c0 := .int .i64 x.k) (c1 := .int .i64 x.f) (c2 := .int .i64 x.t) (c3 := .int .i64 x.x) (c4 := .int .i64 x.y) (by simp)))
              all_goals go_wp2_with fail
              refine (?_ : ∀ W9, Two w3 W9 [(p, 54, #[.int .i64 x.k, .int .i64 x.f, .int .i64 x.t, .int .i64 x.x, .int .i64 x.x]), (q, 54, #[.int .i64 x.k, .int .i64 x.f, .int .i64 x.t, .int .i64 x.y, .int .i64 x.y])] 54 5 u14 u15 k k (EsL es k) (EsH es k) → Code.wp Try.prog _ _ _ W9) _ ?st
              case st => exact HT.out.set4 (t := 54) (c0 := .int .i64 x.k) (c1 := .int .i64 x.f) (c2 := .int .i64 x.t) (c3 := .int .i64 x.x) (c4 := .int .i64 x.y) (d0 := .int .i64 x.k) (d1 := .int .i64 x.f) (d2 := .int .i64 x.t) (d3 := .int .i64 x.x) (d4 := .int .i64 x.y) (by simp) (by simp) hpq (by omega) (by omega) _ _ _ _
              clear HT HY
              intro W9 h9
              have HT := Lib.hid h9.drew
              clear h9
              go_region_held_law (fun w' => w'.cell? ⟨p, 0, none⟩ = some (.int .i64 x.k) ∧ w'.cell? ⟨p, 1, none⟩ = some (.int .i64 x.f) ∧ w'.cell? ⟨p, 2, none⟩ = some (.int .i64 x.t) ∧ w'.cell? ⟨p, 3, none⟩ = some (.int .i64 x.x) ∧ w'.cell? ⟨p, 4, none⟩ = some (.int .i64 x.x) ∧ w'.cell? ⟨q, 0, none⟩ = some (.int .i64 x.k) ∧ w'.cell? ⟨q, 1, none⟩ = some (.int .i64 x.f) ∧ w'.cell? ⟨q, 2, none⟩ = some (.int .i64 x.t) ∧ w'.cell? ⟨q, 3, none⟩ = some (.int .i64 x.y) ∧ w'.cell? ⟨q, 4, none⟩ = some (.int .i64 x.y))
                (first | exact HT.out.keep10 (t := 54) (by simp) (by simp) | exact (HT.out.more _ _).keep10 (t := 54) (by simp) (by simp) | exact ((HT.out.more _ _).more _ _).keep10 (t := 54) (by simp) (by simp))
                (first
                  | (refine step_append_lies _ (by rfl) _ _ _ (by rfl) w3.heap.size 54 i54 (.agg #[iv 0, iv 0, iv 0, iv 0, iv 0]) 5 40 Try.underlying23 hi' hz0' hzz' hzs' rfl (by decide) u14 k (EsL es k) (by rfl) (by first | exact HT.out.ra | exact (HT.out.more _ _).ra | exact ((HT.out.more _ _).more _ _).ra) _ 1 1 [.int .i64 x.k, .int .i64 x.f, .int .i64 x.t, .int .i64 x.x, .int .i64 x.x] (by rfl) rfl (by first | exact HT.out.news (t := 54) (cs := #[.int .i64 x.k, .int .i64 x.f, .int .i64 x.t, .int .i64 x.x, .int .i64 x.x]) (by simp) | exact (HT.out.more _ _).news (t := 54) (cs := #[.int .i64 x.k, .int .i64 x.f, .int .i64 x.t, .int .i64 x.x, .int .i64 x.x]) (by simp) | exact ((HT.out.more _ _).more _ _).news (t := 54) (cs := #[.int .i64 x.k, .int .i64 x.f, .int .i64 x.t, .int .i64 x.x, .int .i64 x.x]) (by simp)) (by simp [Value.oneCell']) (by decide) (by unfold maxLen; omega) (by omega) (by first | exact HT.out.bl.size | exact (HT.out.more _ _).bl.size | exact ((HT.out.more _ _).more _ _).bl.size) _ rfl ?_; intro g1 c1 wy hown hgrow hat _; first | (have HT := Lib.hid (HT.out.left hown hgrow hat)) | (have HT := Lib.hid ((HT.out.more _ _).left hown hgrow hat)) | (have HT := Lib.hid (((HT.out.more _ _).more _ _).left hown hgrow hat)))
                  | (refine step_append_lies _ (by rfl) _ _ _ (by rfl) w3.heap.size 54 i54 (.agg #[iv 0, iv 0, iv 0, iv 0, iv 0]) 5 40 Try.underlying23 hi' hz0' hzz' hzs' rfl (by decide) u15 k (EsH es k) (by rfl) (by first | exact HT.out.rb | exact (HT.out.more _ _).rb | exact ((HT.out.more _ _).more _ _).rb) _ 1 1 [.int .i64 x.k, .int .i64 x.f, .int .i64 x.t, .int .i64 x.y, .int .i64 x.y] (by rfl) rfl (by first | exact HT.out.news (t := 54) (cs := #[.int .i64 x.k, .int .i64 x.f, .int .i64 x.t, .int .i64 x.y, .int .i64 x.y]) (by simp) | exact (HT.out.more _ _).news (t := 54) (cs := #[.int .i64 x.k, .int .i64 x.f, .int .i64 x.t, .int .i64 x.y, .int .i64 x.y]) (by simp) | exact ((HT.out.more _ _).more _ _).news (t := 54) (cs := #[.int .i64 x.k, .int .i64 x.f, .int .i64 x.t, .int .i64 x.y, .int .i64 x.y]) (by simp)) (by simp [Value.oneCell']) (by decide) (by unfold maxLen; omega) (by omega) (by first | exact HT.out.bl.size | exact (HT.out.more _ _).bl.size | exact ((HT.out.more _ _).more _ _).bl.size) _ rfl ?_; intro g2 c2 wy hown hgrow hat _; first | (have HT := Lib.hid (HT.out.right hown hgrow hat)) | (have HT := Lib.hid ((HT.out.more _ _).right hown hgrow hat)) | (have HT := Lib.hid (((HT.out.more _ _).more _ _).right hown hgrow hat))))
              all_goals go_wp2_with fail
              all_goals go_roundw
              all_goals first
                | exact ⟨k + 1, by omega, by go_num, Lib.hid ⟨by rw [HX.out.1, HX.out.2.1, HL.out.1, HL.out.2]; exact HT.out.none_, HX.out.2.2 HD.out HK3.out⟩⟩
                | (simp [intOf]; omega)
            · have c0 : (x.k == 0) = false := by simpa using hk0
              have HL : Hid (lessE x = ⟨x.k, x.f, x.t, x.y, x.y⟩ ∧ moreE x = ⟨x.k, x.f, x.t, x.x, x.x⟩) := by
                show _ ∧ _
                unfold lessE moreE
                rw [if_neg hk0, if_neg hk0]
                exact ⟨rfl, rfl⟩
              have HK3 := Lib.hid hk3
              clear hk0 hk3
              go_upto_region 21 with fail
              have HT := Lib.hid HT.out.drew
              clear hp hq hx
              go_region_held_law (fun w' => w'.cell? ⟨wr.heap.size, 3, none⟩ = some (.int .i64 x.x) ∧ w'.cell? ⟨wr.heap.size, 4, none⟩ = some (.int .i64 x.y))
                ((refine ⟨?_, ?_⟩; all_goals (repeat (first | rw [set_far _ _ hGp] | rw [set_far _ _ hGq])); first | exact HT.out.cell (t := 54) (cs := evc x) (by simp) 3 | exact HT.out.cell (t := 54) (cs := evc x) (by simp) 4))
                ((go_at_call 34; refine (one_any _ _).mono ?_; rintro r wy ⟨rfl, hby⟩; have HT := Lib.hid (HT.out.step hby); obtain ⟨pc3, pc4, pf3, pf4, pl⟩ := HT.out.open34 (p := p) (t := 54) (c0 := .int .i64 x.k) (c1 := .int .i64 x.f) (c2 := .int .i64 x.t) (c3 := .int .i64 x.x) (c4 := .int .i64 x.y) (by simp); obtain ⟨qc3, qc4, qf3, qf4, ql⟩ := HT.out.open34 (p := q) (t := 54) (c0 := .int .i64 x.k) (c1 := .int .i64 x.f) (c2 := .int .i64 x.t) (c3 := .int .i64 x.x) (c4 := .int .i64 x.y) (by simp)))
              all_goals go_wp2_with fail
              refine (?_ : ∀ W9, Two w3 W9 [(p, 54, #[.int .i64 x.k, .int .i64 x.f, .int .i64 x.t, .int .i64 x.y, .int .i64 x.y]), (q, 54, #[.int .i64 x.k, .int .i64 x.f, .int .i64 x.t, .int .i64 x.x, .int .i64 x.x])] 54 5 u14 u15 k k (EsL es k) (EsH es k) → Code.wp Try.prog _ _ _ W9) _ ?st
              case st => exact HT.out.set4 (t := 54) (c0 := .int .i64 x.k) (c1 := .int .i64 x.f) (c2 := .int .i64 x.t) (c3 := .int .i64 x.x) (c4 := .int .i64 x.y) (d0 := .int .i64 x.k) (d1 := .int .i64 x.f) (d2 := .int .i64 x.t) (d3 := .int .i64 x.x) (d4 := .int .i64 x.y) (by simp) (by simp) hpq (by omega) (by omega) _ _ _ _
              clear HT HY
              intro W9 h9
              have HT := Lib.hid h9.drew
              clear h9
              go_region_held_law (fun w' => w'.cell? ⟨p, 0, none⟩ = some (.int .i64 x.k) ∧ w'.cell? ⟨p, 1, none⟩ = some (.int .i64 x.f) ∧ w'.cell? ⟨p, 2, none⟩ = some (.int .i64 x.t) ∧ w'.cell? ⟨p, 3, none⟩ = some (.int .i64 x.y) ∧ w'.cell? ⟨p, 4, none⟩ = some (.int .i64 x.y) ∧ w'.cell? ⟨q, 0, none⟩ = some (.int .i64 x.k) ∧ w'.cell? ⟨q, 1, none⟩ = some (.int .i64 x.f) ∧ w'.cell? ⟨q, 2, none⟩ = some (.int .i64 x.t) ∧ w'.cell? ⟨q, 3, none⟩ = some (.int .i64 x.x) ∧ w'.cell? ⟨q, 4, none⟩ = some (.int .i64 x.x))
                (first | exact HT.out.keep10 (t := 54) (by simp) (by simp) | exact (HT.out.more _ _).keep10 (t := 54) (by simp) (by simp) | exact ((HT.out.more _ _).more _ _).keep10 (t := 54) (by simp) (by simp))
                (first
                  | (refine step_append_lies _ (by rfl) _ _ _ (by rfl) w3.heap.size 54 i54 (.agg #[iv 0, iv 0, iv 0, iv 0, iv 0]) 5 40 Try.underlying23 hi' hz0' hzz' hzs' rfl (by decide) u14 k (EsL es k) (by rfl) (by first | exact HT.out.ra | exact (HT.out.more _ _).ra | exact ((HT.out.more _ _).more _ _).ra) _ 1 1 [.int .i64 x.k, .int .i64 x.f, .int .i64 x.t, .int .i64 x.y, .int .i64 x.y] (by rfl) rfl (by first | exact HT.out.news (t := 54) (cs := #[.int .i64 x.k, .int .i64 x.f, .int .i64 x.t, .int .i64 x.y, .int .i64 x.y]) (by simp) | exact (HT.out.more _ _).news (t := 54) (cs := #[.int .i64 x.k, .int .i64 x.f, .int .i64 x.t, .int .i64 x.y, .int .i64 x.y]) (by simp) | exact ((HT.out.more _ _).more _ _).news (t := 54) (cs := #[.int .i64 x.k, .int .i64 x.f, .int .i64 x.t, .int .i64 x.y, .int .i64 x.y]) (by simp)) (by simp [Value.oneCell']) (by decide) (by unfold maxLen; omega) (by omega) (by first | exact HT.out.bl.size | exact (HT.out.more _ _).bl.size | exact ((HT.out.more _ _).more _ _).bl.size) _ rfl ?_; intro g1 c1 wy hown hgrow hat _; first | (have HT := Lib.hid (HT.out.left hown hgrow hat)) | (have HT := Lib.hid ((HT.out.more _ _).left hown hgrow hat)) | (have HT := Lib.hid (((HT.out.more _ _).more _ _).left hown hgrow hat)))
                  | (refine step_append_lies _ (by rfl) _ _ _ (by rfl) w3.heap.size 54 i54 (.agg #[iv 0, iv 0, iv 0, iv 0, iv 0]) 5 40 Try.underlying23 hi' hz0' hzz' hzs' rfl (by decide) u15 k (EsH es k) (by rfl) (by first | exact HT.out.rb | exact (HT.out.more _ _).rb | exact ((HT.out.more _ _).more _ _).rb) _ 1 1 [.int .i64 x.k, .int .i64 x.f, .int .i64 x.t, .int .i64 x.x, .int .i64 x.x] (by rfl) rfl (by first | exact HT.out.news (t := 54) (cs := #[.int .i64 x.k, .int .i64 x.f, .int .i64 x.t, .int .i64 x.x, .int .i64 x.x]) (by simp) | exact (HT.out.more _ _).news (t := 54) (cs := #[.int .i64 x.k, .int .i64 x.f, .int .i64 x.t, .int .i64 x.x, .int .i64 x.x]) (by simp) | exact ((HT.out.more _ _).more _ _).news (t := 54) (cs := #[.int .i64 x.k, .int .i64 x.f, .int .i64 x.t, .int .i64 x.x, .int .i64 x.x]) (by simp)) (by simp [Value.oneCell']) (by decide) (by unfold maxLen; omega) (by omega) (by first | exact HT.out.bl.size | exact (HT.out.more _ _).bl.size | exact ((HT.out.more _ _).more _ _).bl.size) _ rfl ?_; intro g2 c2 wy hown hgrow hat _; first | (have HT := Lib.hid (HT.out.right hown hgrow hat)) | (have HT := Lib.hid ((HT.out.more _ _).right hown hgrow hat)) | (have HT := Lib.hid (((HT.out.more _ _).more _ _).right hown hgrow hat))))
              all_goals go_wp2_with fail
              all_goals go_roundw
              all_goals first
                | exact ⟨k + 1, by omega, by go_num, Lib.hid ⟨by rw [HX.out.1, HX.out.2.1, HL.out.1, HL.out.2]; exact HT.out.none_, HX.out.2.2 HD.out HK3.out⟩⟩
                | (simp [intOf]; omega)
        · have hkl : k = es.length := by omega
          subst hkl
          have hd := HI.out.2
          rw [List.take_length] at hd
          obtain ⟨A4, c4, e4, he4⟩ := erow_own (es := es.map lessE) (by have := HI.out.1.ra; unfold EsL at this; rw [List.take_length] at this; rw [List.length_map]; exact this)
          obtain ⟨A5, c5, e5, he5⟩ := erow_own (es := es.map moreE) (by have := HI.out.1.rb; unfold EsH at this; rw [List.take_length] at this; rw [List.length_map]; exact this)
          rw [List.length_map] at e4 e5
          have hbw := HI.out.1.bl
          have HV : Hid (Below w.heap.size w wr ∧ ZRow wr wr.heap.size A1 rz ∧ ZRow wr wr.heap.size A2 (zs.map loZ) ∧ ZRow wr wr.heap.size A3 (zs.map hiZ) ∧ ERow wr wr.heap.size A4 (es.map lessE) ∧ ERow wr wr.heap.size A5 (es.map moreE)) :=
            ⟨belowT HY.out.1 hbw, HY.out.2.1.step hbw, HY.out.2.2.1.step hbw, HY.out.2.2.2.step hbw, he4, he5⟩
          subst e4 e5
          clear he4 he5 hbw HI HY hsz
          have hlo := play_lo hd HP0.out
          have hhi := play_hi hd HP0.out
          rw [← HR.out] at hlo hhi
          clear hd
          obtain ⟨w4, rfl⟩ : ∃ w4, w4 = wr := ⟨_, rfl⟩
          have hlts : ¬ ((es.length : Int) < es.length) := by omega
          have hp4 := play_any (zs.map loZ) (es.map lessE) A2 c2 A4 c4 w4 HV.out.2.2.1 HV.out.2.2.2.2.1 (by rw [List.length_map]; exact hl) (by rw [List.length_map]; exact hl')
          rw [List.length_map, List.length_map] at hp4
          have HP4 := Lib.hid hp4
          clear hp4
          go_wp2_with fail
          refine HP4.out.mono ?_
          intro r wd hp
          obtain ⟨A6, c6, rfl, hb, hz6⟩ := play_row hp
          clear hp HP4
          obtain ⟨⟨lz, s4, i4, e4⟩, hR4⟩ : ∃ R, R = playR (zs.map loZ) (es.map lessE) := ⟨_, rfl⟩
          rw [← hR4] at hlo hz6 ⊢
          simp only at hlo hz6 ⊢
          obtain ⟨rfl, rfl⟩ := hlo
          clear hR4
          rw [List.length_map, hsame]
          have HV6 : Hid (Below w.heap.size w (wd.alloc (.cells #[iv s4.f1, iv s4.f2, iv s4.p1, iv s4.p2, iv s4.w1, iv s4.w2] 29)) ∧ ZRow (wd.alloc (.cells #[iv s4.f1, iv s4.f2, iv s4.p1, iv s4.p2, iv s4.w1, iv s4.w2] 29)) (wd.alloc (.cells #[iv s4.f1, iv s4.f2, iv s4.p1, iv s4.p2, iv s4.w1, iv s4.w2] 29)).heap.size A1 rz ∧ ZRow (wd.alloc (.cells #[iv s4.f1, iv s4.f2, iv s4.p1, iv s4.p2, iv s4.w1, iv s4.w2] 29)) (wd.alloc (.cells #[iv s4.f1, iv s4.f2, iv s4.p1, iv s4.p2, iv s4.w1, iv s4.w2] 29)).heap.size A6 (rz.map loZ)) :=
            ⟨belowT (belowT HV.out.1 hb) (below1 _ _), (HV.out.2.1.step hb).step (below1 _ _), hz6.step (below1 _ _)⟩
          have hp5 := play_any (zs.map hiZ) (es.map moreE) A3 c3 A5 c5 (wd.alloc (.cells #[iv s4.f1, iv s4.f2, iv s4.p1, iv s4.p2, iv s4.w1, iv s4.w2] 29)) ((HV.out.2.2.2.1.step hb).step (below1 _ _)) (((HV.out.2.2.2.2.2.below hb).below ((below1 _ _).mono hb.size)).more (by have := hb.size; simp; omega)) (by rw [List.length_map]; exact hl) (by rw [List.length_map]; exact hl')
          rw [List.length_map, List.length_map] at hp5
          have HP5 := Lib.hid hp5
          clear hp5 hb hz6 HV
          go_wp2_with fail
          refine HP5.out.mono ?_
          intro r we hp
          obtain ⟨A7, c7, rfl, hb, hz7⟩ := play_row hp
          clear hp HP5
          obtain ⟨⟨hz_, s5, i5, e5⟩, hR5⟩ : ∃ R, R = playR (zs.map hiZ) (es.map moreE) := ⟨_, rfl⟩
          rw [← hR5] at hhi hz7 ⊢
          simp only at hhi hz7 ⊢
          obtain ⟨rfl, rfl⟩ := hhi
          clear hR5
          rw [List.length_map, hsame]
          obtain ⟨w7, hw7⟩ : ∃ w7, w7 = we.alloc (.cells #[iv s5.f1, iv s5.f2, iv s5.p1, iv s5.p2, iv s5.w1, iv s5.w2] 29) := ⟨_, rfl⟩
          have HV7 : Hid (Below w.heap.size w w7 ∧ ZRow w7 w7.heap.size A1 rz ∧ ZRow w7 w7.heap.size A6 (rz.map loZ) ∧ ZRow w7 w7.heap.size A7 (rz.map hiZ)) := by
            subst hw7
            exact ⟨belowT (belowT HV6.out.1 hb) (below1 _ _), (HV6.out.2.1.step hb).step (below1 _ _), (HV6.out.2.2.step hb).step (below1 _ _), hz7.step (below1 _ _)⟩
          clear hb hz7 HV6
          have hzl : (rz.length : Int) = zs.length := by omega
          go_wp2_with fail
          rw [← hw7]
          clear hw7
          go_loopw [185] (fun i wr => ∃ k : Nat, k ≤ rz.length ∧ i = .int .i64 k ∧ Hid (Below w7.heap.size w7 wr)) (fun i _ => rz.length - (intOf i).toNat)
          case atStart => exact ⟨0, Nat.zero_le _, rfl, Below.refl _ _⟩
          case round =>
            obtain ⟨k, hk, rfl, HI⟩ := hrel
            by_cases hlt : k < rz.length
            · have hlt' : (k : Int) < zs.length := by omega
              obtain ⟨g, o, eA, hg, d0, d1, d2, d3⟩ := (HV7.out.2.1.below HI.out) k hlt
              obtain ⟨⟨ya, yb, yc, yd⟩, hy⟩ : ∃ y, y = rz[k] := ⟨_, rfl⟩
              rw [← hy] at d0 d1 d2 d3
              simp only at d0 d1 d2 d3
              obtain ⟨g6, o6, g7, o7, eA6, eA7, hK⟩ := EnK.of (belowT HV7.out.1 HI.out) (HV7.out.2.2.1.step HI.out) (HV7.out.2.2.2.step HI.out) hlt hy.symm
              have HK := Lib.hid (hK.step (Below.refl _ _).drew)
              have HB := Lib.hid (belowT HI.out (below1 wr (.cells #[.int .i64 ya, .int .i64 yb, .int .i64 yc, .int .i64 yd] 60))).drew
              subst eA eA6 eA7
              have hgw : g < wr.heap.size := by have := HI.out.size; omega
              have hn27 := neq27s
              clear hK hy HI
              go_upto_region 35 with fail
              go_region_held3 (fun w' => w'.cell? ⟨g6, o6 + k * 4, none⟩ = some (.int .i64 ya) ∧ w'.cell? ⟨g6, o6 + k * 4 + 1, none⟩ = some (.int .i64 ya) ∧ w'.cell? ⟨g6, o6 + k * 4 + 2, none⟩ = some (.int .i64 yc) ∧ w'.cell? ⟨g6, o6 + k * 4 + 3, none⟩ = some (.int .i64 yc) ∧ w'.cell? ⟨g7, o7 + k * 4, none⟩ = some (.int .i64 yb) ∧ w'.cell? ⟨g7, o7 + k * 4 + 1, none⟩ = some (.int .i64 yb) ∧ w'.cell? ⟨g7, o7 + k * 4 + 2, none⟩ = some (.int .i64 yd) ∧ w'.cell? ⟨g7, o7 + k * 4 + 3, none⟩ = some (.int .i64 yd) ∧ w'.cell? ⟨wr.heap.size, 0, none⟩ = some (.int .i64 ya) ∧ w'.cell? ⟨wr.heap.size, 1, none⟩ = some (.int .i64 yb) ∧ w'.cell? ⟨wr.heap.size, 2, none⟩ = some (.int .i64 yc) ∧ w'.cell? ⟨wr.heap.size, 3, none⟩ = some (.int .i64 yd)) (exact HK.out.keep) ((go_at_call 34; refine (one_any _ _).mono ?_; rintro r wy ⟨rfl, hby⟩; (have HK := Lib.hid (HK.out.step hby)); (have HB := Lib.hid (belowT HB.out hby))))
              all_goals go_wp2_with fail
              all_goals go_roundw
              all_goals first
                | exact ⟨k + 1, by omega, by go_num, HB⟩
                | (simp [intOf]; omega)
            · have hkl : k = rz.length := by omega
              have hlts2 : ¬ ((k : Int) < zs.length) := by omega
              have HF := Lib.hid (belowT HV7.out.1 HI.out)
              go_wp2_with fail
              refine (alive_any _).mono ?_
              rintro r wl ⟨rfl, hbl⟩
              have HF2 := Lib.hid (belowT HF.out hbl)
              clear hbl
              go_wp2_with fail
              go_ret
              exact ⟨rfl, HF2.out⟩
end Go.Proofs.Ytogabjlhecnbbaa
