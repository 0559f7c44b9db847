/- Where litres are: the walk. -/
import Derived.Test.YtjfopmjphiddiaaWhC
import Derived.Test.YtjfopmjphiddiaaWhD
import Derived.Test.YtjfopmjphiddiaaLwE
import Derived.Test.YtjfopmjphiddiaaNmC
import Derived.Test.YtjfopmjphiddiaaRfB
namespace Go.Proofs.Ytjfopmjphiddiaa
open Go.RowKit Go.Shelf
theorem brine_small {t : Sl} {ps : List Pp} {heat hroom : Int} (h : brineB t ps heat hroom = true) : ps.length ≤ 8 ∧ Hid (∀ p ∈ ps, p.l.length ≤ 1000000) := by
  simp only [brineB, Bool.and_eq_true, decide_eq_true_eq, List.all_eq_true, pipeB] at h
  refine ⟨h.1.1.1.1.2, fun p hp => ?_⟩
  have := (h.1.1.1.2 p hp).1.1.2
  omega
/-- what lies there behind both plays -/
structure WhK (w W : World) (b c d f : Nat) (z : Yx) (s2 : Sm) (A5 A6 : Option Addr) (c5 c6 : Nat) : Prop where
  bl : Below w.heap.size w W
  e : Has W b 26 #[.int .i64 z.t.v, .int .i64 z.t.h, .slice A5 z.ps.length c5, .int .i64 z.r.heat, .int .i64 z.r.room]
  s : Has W c 31 (scells z.r.s)
  o : Has W d 26 #[.int .i64 (coldS z.t).v, .int .i64 (coldS z.t).h, .slice A6 z.ps.length c6, .int .i64 0, .int .i64 0]
  u : Has W f 31 (scells s2)
  p : PRow W W.heap.size A5 z.ps
  q : PRow W W.heap.size A6 (z.ps.map coldP)
theorem WhK.step {w W W' : World} {b c d f : Nat} {z : Yx} {s2 : Sm} {A5 A6 : Option Addr} {c5 c6 : Nat} (h : WhK w W b c d f z s2 A5 A6 c5 c6) (hb : Below W.heap.size W W') : WhK w W' b c d f z s2 A5 A6 c5 c6 :=
  ⟨h.bl.trans (hb.mono h.bl.size), h.e.below hb h.e.lt, h.s.below hb h.s.lt, h.o.below hb h.o.lt, h.u.below hb h.u.lt, h.p.step hb, h.q.step hb⟩
theorem WhK.keep {w W : World} {b c d f : Nat} {z : Yx} {s2 : Sm} {A5 A6 : Option Addr} {c5 c6 : Nat} (h : WhK w W b c d f z s2 A5 A6 c5 c6) :
    W.cell? ⟨b, 0, none⟩ = some (.int .i64 z.t.v) ∧ W.cell? ⟨b, 1, none⟩ = some (.int .i64 z.t.h) ∧ W.cell? ⟨b, 2, none⟩ = some (.slice A5 z.ps.length c5) ∧ W.cell? ⟨b, 3, none⟩ = some (.int .i64 z.r.heat) ∧ W.cell? ⟨b, 4, none⟩ = some (.int .i64 z.r.room) ∧
    W.cell? ⟨d, 0, none⟩ = some (.int .i64 (coldS z.t).v) ∧ W.cell? ⟨d, 1, none⟩ = some (.int .i64 (coldS z.t).h) ∧ W.cell? ⟨d, 2, none⟩ = some (.slice A6 z.ps.length c6) ∧ W.cell? ⟨d, 3, none⟩ = some (.int .i64 0) ∧ W.cell? ⟨d, 4, none⟩ = some (.int .i64 0) ∧
    W.cell? ⟨c, 1, none⟩ = some (.int .i64 z.r.s.lv) ∧ W.cell? ⟨c, 3, none⟩ = some (.int .i64 z.r.s.fv) ∧ W.cell? ⟨f, 1, none⟩ = some (.int .i64 s2.lv) ∧ W.cell? ⟨f, 3, none⟩ = some (.int .i64 s2.fv) :=
  ⟨h.e.cell 0, h.e.cell 1, h.e.cell 2, h.e.cell 3, h.e.cell 4, h.o.cell 0, h.o.cell 1, h.o.cell 2, h.o.cell 3, h.o.cell 4, h.s.cell 1, h.s.cell 3, h.u.cell 1, h.u.cell 3⟩
theorem same_cold (t : Sl) (ps : List Pp) (A A' : Option Addr) (cap cap' : Nat) (W : World) (hr : PRow W W.heap.size A (ps.map coldP)) (hr' : PRow W W.heap.size A' (ps.map coldP)) (hl : ps.length ≤ 9223372036854775807) (hml : ∀ p ∈ ps.map coldP, p.l.length ≤ 9223372036854775807) :
    Calls Try.prog 18 #[brv (coldS t) A ps.length cap 0 0, brv (coldS t) A' ps.length cap' 0 0] W fun e W' => e = .returned (.bool true) ∧ Below W.heap.size W W' := by
  have h := same_any (coldS t) (ps.map coldP) 0 0 A A' cap cap' W hr hr' (by rw [List.length_map]; exact hl) hml
  rw [List.length_map] at h
  exact h
theorem WhK.keep2 {w W : World} {b c d f : Nat} {z : Yx} {s2 : Sm} {A5 A6 : Option Addr} {c5 c6 : Nat} (h : WhK w W b c d f z s2 A5 A6 c5 c6) {lv2 fv2 : Int} (hl : lv2 = s2.lv ∧ fv2 = s2.fv) :
    W.cell? ⟨b, 0, none⟩ = some (.int .i64 z.t.v) ∧ W.cell? ⟨b, 1, none⟩ = some (.int .i64 z.t.h) ∧ W.cell? ⟨b, 2, none⟩ = some (.slice A5 z.ps.length c5) ∧ W.cell? ⟨b, 3, none⟩ = some (.int .i64 z.r.heat) ∧ W.cell? ⟨b, 4, none⟩ = some (.int .i64 z.r.room) ∧
    W.cell? ⟨d, 0, none⟩ = some (.int .i64 (coldS z.t).v) ∧ W.cell? ⟨d, 1, none⟩ = some (.int .i64 (coldS z.t).h) ∧ W.cell? ⟨d, 2, none⟩ = some (.slice A6 z.ps.length c6) ∧ W.cell? ⟨d, 3, none⟩ = some (.int .i64 0) ∧ W.cell? ⟨d, 4, none⟩ = some (.int .i64 0) ∧
    W.cell? ⟨c, 1, none⟩ = some (.int .i64 z.r.s.lv) ∧ W.cell? ⟨c, 3, none⟩ = some (.int .i64 z.r.s.fv) ∧ W.cell? ⟨f, 1, none⟩ = some (.int .i64 lv2) ∧ W.cell? ⟨f, 3, none⟩ = some (.int .i64 fv2) := by
  rw [hl.1, hl.2]; exact h.keep
theorem doE_rk (y : Yx) {e : Ev} (hk : 0 ≤ e.k ∧ e.k ≤ 3) : (doE y e).r.heat = y.r.heat ∧ (doE y e).r.room = y.r.room := by
  obtain ⟨k, p, a, w⟩ := e
  simp only at hk
  show (doY y k p a w).r.heat = _ ∧ (doY y k p a w).r.room = _
  unfold doY
  by_cases k0 : k = 0
  · rw [if_pos k0]; exact ⟨rfl, rfl⟩
  rw [if_neg k0]
  by_cases k1 : k = 1
  · rw [if_pos k1]; exact ⟨rfl, rfl⟩
  rw [if_neg k1]
  by_cases k2 : k = 2
  · rw [if_pos k2]; exact ⟨rfl, rfl⟩
  rw [if_neg k2]
  by_cases k3 : k = 3
  · rw [if_pos k3]; exact ⟨rfl, rfl⟩
  omega
theorem evs_rk (l : List Ev) : ∀ y : Yx, (∀ e ∈ l, 0 ≤ e.k ∧ e.k ≤ 3) → (evs y l).r.heat = y.r.heat ∧ (evs y l).r.room = y.r.room := by
  induction l with
  | nil => intro y _; exact ⟨rfl, rfl⟩
  | cons e l ih =>
    intro y hk
    have h1 := doE_rk y (hk e (by simp))
    have h2 := ih (doE y e) (fun x hx => hk x (by simp [hx]))
    simp only [evs, List.foldl_cons] at h2 ⊢
    exact ⟨h2.1.trans h1.1, h2.2.trans h1.2⟩
/-- what Play without heat leaves where Play leaves something -/
theorem cold_end {t : Sl} {ps : List Pp} {heat hroom : Int} {l : List Ev} (hv : brineB t ps heat hroom = true) (hk : ∀ e ∈ l, 0 ≤ e.k ∧ e.k ≤ 3) {z : Yx} {i : Nat} (h : playR t ps heat hroom l = (some z, i, 0)) :
    ∃ s2 : Sm, playR (coldS t) (ps.map coldP) 0 0 (l.map coldE) = (some ⟨z.ps.map coldP, coldS z.t, ⟨0, 0, s2⟩⟩, i, 0) ∧ s2.lv = z.r.s.lv ∧ s2.fv = z.r.s.fv := by
  obtain ⟨o2, e2, ⟨h1, -⟩ | ⟨y, z2, h1, rfl, hc⟩⟩ := cold_play hv hk h (by decide)
  · cases h1
  · cases h1
    have h2 := e2
    have hs : (playR (coldS t) (ps.map coldP) 0 0 (l.map coldE)).1 = some z2 := by rw [e2]
    obtain ⟨-, -, hz, -⟩ := play_some hs
    have hr := evs_rk (l.map coldE) (y0 (coldS t) (ps.map coldP) 0 0) (fun e he => by
      obtain ⟨x, hx, rfl⟩ := List.mem_map.1 he
      exact hk x hx)
    rw [← hz] at hr
    obtain ⟨zp, zt, zh, zr, zs⟩ := z2
    have hps := hc.ps
    have ht := hc.t
    simp only at hps ht hr
    obtain ⟨hr1, hr2⟩ := hr
    refine ⟨zs, ?_, hc.lv, hc.fv⟩
    rw [e2, hps, ht, hr1, hr2]
    rfl
set_option maxRecDepth 100000 in
set_option maxHeartbeats 4000000 in
theorem whereLaw_any (t : Sl) (ps : List Pp) (l : List Ev) (A A' : Option Addr) (cap cap' : Nat) (heat hroom : Int) (W : World) (hr : PRow W W.heap.size A ps) (he : ERow W W.heap.size A' l) (hm : ps.length ≤ maxLen) (hml : ∀ p ∈ ps, p.l.length ≤ maxLen) (hl : l.length ≤ 9223372036854775807) :
    Calls Try.prog 8 #[brv t A ps.length cap heat hroom, .slice A' l.length cap'] W fun e W' => e = .returned (.bool true) ∧ Below W.heap.size W W' := by
  obtain ⟨i0, hi, hz0, hz1, hz2⟩ := info_parts Try.info56
  have hm2 : ps.length ≤ 9223372036854775807 := hm
  have H0 := Lib.hid (Bxb.start W t ps A cap heat hroom l A' hr he)
  have HM := Lib.hid (And.intro hm hml)
  clear hr he hm hml
  cases hg : greatB ps
  case true =>
    have HG := Lib.hid hg
    clear hg
    go_enter Try.func8, Try.ntmps8
    go_wp2_with fail
    refine (great_any t ps heat hroom A cap _ H0.out.p hm2).mono ?_
    rw [HG.out]
    rintro e w1 ⟨rfl, hb1⟩
    have H1 := Lib.hid (H0.out.step hb1)
    clear hb1
    go_wp2_with fail
    refine (alive_any _).mono ?_
    rintro e wb ⟨rfl, hb⟩
    have HB := Lib.hid (H1.out.bl.trans (hb.mono H1.out.bl.size))
    clear hb
    go_wp2_with fail
    go_ret
    exact ⟨rfl, HB.out⟩
  have HG := Lib.hid hg
  clear hg
  by_cases h40 : (40 : Int) < l.length
  · go_enter Try.func8, Try.ntmps8
    go_wp2_with fail
    refine (great_any t ps heat hroom A cap _ H0.out.p hm2).mono ?_
    rw [HG.out]
    rintro e w1 ⟨rfl, hb1⟩
    have H1 := Lib.hid (H0.out.step hb1)
    clear hb1
    go_wp2_with fail
    refine (alive_any _).mono ?_
    rintro e wb ⟨rfl, hb⟩
    have HB := Lib.hid (H1.out.bl.trans (hb.mono H1.out.bl.size))
    clear hb
    go_wp2_with fail
    go_ret
    exact ⟨rfl, HB.out⟩
  have h40' : decide ((40 : Int) < l.length) = false := by simpa using h40
  have hl40 : l.length ≤ 40 := by omega
  go_enter Try.func8, Try.ntmps8
  go_wp2_with fail
  refine (great_any t ps heat hroom A cap _ H0.out.p hm2).mono ?_
  rw [HG.out]
  rintro e w1 ⟨rfl, hb1⟩
  have H1 := Lib.hid (H0.out.step hb1)
  clear hb1 h40
  go_wp2_with fail
  go_loopw [27, 5, 6] (fun i a b wr => ∃ k : Nat, k ≤ l.length ∧ i = .int .i64 k ∧ Hid (WhI w1 wr l k a b)) (fun i _ _ _ => l.length - (intOf i).toNat)
  case atStart => exact ⟨0, Nat.zero_le _, rfl, Below.refl _ _, World.ownsRow_nil _ _ _ _, World.ownsRow_nil _ _ _ _, .inl rfl⟩
  case round =>
    obtain ⟨k, hk, rfl, HI⟩ := hrel
    have hsz := HI.out.bl.size
    by_cases hlt : k < l.length
    · have hlt' : (k : Int) < l.length := by omega
      obtain ⟨g, o, eA, hg, d0, d1, d2, d3⟩ := (H1.out.e.below HI.out.bl) k hlt
      have HE := Lib.hid (And.intro (@warmE_yes l k hlt) (And.intro (@warmE_no l k hlt) (warmE_len (l.take k))))
      obtain ⟨x, hx⟩ : ∃ x, x = l[k] := ⟨_, rfl⟩
      rw [← hx] at d0 d1 d2 d3 HE
      subst eA
      have hgw : g < wr.heap.size := by omega
      clear hx
      go_upto_region 7 with fail
      go_cut [48] (fun c wx => c = .bool (isW x) ∧ wx = wr.alloc (.cells #[.int .i64 x.k, .int .i64 x.p, .int .i64 x.a, .int .i64 x.h] 56))
      case first =>
        by_cases k0 : x.k = 0
        · have hw : isW x = true := by simp [isW, k0]
          have b0 : (x.k == 0) = true := by simp [k0]
          have HW := Lib.hid hw
          clear hw k0
          go_wp2_with fail
          go_meet
          exact ⟨by rw [HW.out], rfl⟩
        by_cases k2 : x.k = 2
        · have hw : isW x = true := by simp [isW, k2]
          have b0 : (x.k == 0) = false := by simp [k2]
          have b2 : (x.k == 2) = true := by simp [k2]
          have HW := Lib.hid hw
          clear hw k2
          go_wp2_with fail
          go_meet
          exact ⟨by rw [HW.out], rfl⟩
        by_cases k3 : x.k = 3
        · have hw : isW x = true := by simp [isW, k3]
          have b0 : (x.k == 0) = false := by simp [k3]
          have b2 : (x.k == 2) = false := by simp [k3]
          have b3 : (x.k == 3) = true := by simp [k3]
          have HW := Lib.hid hw
          clear hw k3
          go_wp2_with fail
          go_meet
          exact ⟨by rw [HW.out], rfl⟩
        have b0 : (x.k == 0) = false := by simp [k0]
        have b2 : (x.k == 2) = false := by simp [k2]
        have b3 : (x.k == 3) = false := by simp [k3]
        by_cases k1 : x.k = 1
        · have hw : isW x = true := by simp [isW, k1]
          have b1 : (x.k == 1) = true := by simp [k1]
          have HW := Lib.hid hw
          clear hw k1 k0 k2 k3
          go_wp2_with fail
          go_meet
          exact ⟨by rw [HW.out], rfl⟩
        · have hw : isW x = false := by simp [isW]; omega
          have b1 : (x.k == 1) = false := by simp [k1]
          have HW := Lib.hid hw
          clear hw k1 k0 k2 k3
          go_wp2_with fail
          go_meet
          exact ⟨by rw [HW.out], rfl⟩
      case rest =>
        obtain ⟨rfl, rfl⟩ := hcut
        cases hw : isW x
        case false =>
          have HW := Lib.hid hw
          clear hw
          have HJ : Hid (WhI w1 (wr.alloc (.cells #[.int .i64 x.k, .int .i64 x.p, .int .i64 x.a, .int .i64 x.h] 56)) l (k + 1) u5 u6) := by
            have h := HI.out
            have e := HE.out.2.1 HW.out
            refine ⟨h.bl.alloc h.bl.size _, ?_, ?_, h.ne⟩
            · rw [e]; exact h.wa.alloc _
            · rw [e]; exact h.no.alloc _
          clear HI HE
          go_wp2_with fail
          go_roundw
          case rel => exact ⟨k + 1, by omega, by go_num, HJ.out⟩
          case measure => simp [intOf]; omega
        case true =>
          have HW := Lib.hid hw
          clear hw
          have hwa := HI.out.wa
          have hno := HI.out.no
          have hwl := hwa.lt
          have hnl := hno.lt
          have hlen : (warmE (l.take k)).length ≤ k := by
            have := HE.out.2.2
            rw [List.length_take] at this
            omega
          obtain ⟨wm, hwm⟩ : ∃ wm, wm = warmE (l.take k) := ⟨_, rfl⟩
          rw [← hwm] at hwa hno hlen
          obtain ⟨wn, hwn⟩ : ∃ wn, wn = wm.length := ⟨_, rfl⟩
          rw [← hwn] at hwa hno hlen
          have HN := Lib.hid (And.intro hwm hwn)
          clear hwm hwn
          go_wp2_with (at_builtin; refine wpList_append_lies _ rfl _ _ 27 rfl w1.heap.size 56 i0 (.agg #[iv 0, iv 0, iv 0, iv 0]) 4 32 Try.underlying27 hi hz0 hz1 hz2 rfl (by decide) u5 wn _ rfl ((hwa.alloc _).alloc _) ⟨wr.heap.size + 1, 0, none⟩ 1 1 [.int .i64 x.k, .int .i64 x.p, .int .i64 x.a, .int .i64 x.h] rfl rfl ?c1 ?c2 (by decide) ?c3 ?c4 ?c5 _ rfl ?_)
          case c1 => simpa using cell_new4 (wr.alloc (.cells #[.int .i64 x.k, .int .i64 x.p, .int .i64 x.a, .int .i64 x.h] 56)) (.int .i64 x.k) (.int .i64 x.p) (.int .i64 x.a) (.int .i64 x.h) 56
          case c2 => simp [Value.oneCell']
          case c3 => unfold maxLen; omega
          case c4 => omega
          case c5 => simp; omega
          intro g1 c1 w5 hown hgrow hat hg1
          have hne5 : u5.ownBlock ≠ some wr.heap.size := fun e => by have := (hwl _ e).2; omega
          have hne6 : u6.ownBlock = none ∨ u6.ownBlock ≠ some wr.heap.size := .inr fun e => by have := (hnl _ e).2; omega
          have hx5 : Has w5 wr.heap.size 56 #[.int .i64 x.k, .int .i64 x.p, .int .i64 x.a, .int .i64 x.h] := has_grown ((Has.new _ _ _).alloc _) hgrow hne5
          have h65 : u6.ownBlock = none ∨ u6.ownBlock ≠ u5.ownBlock := by
            rcases HI.out.ne with h | h
            · cases h6 : u6.ownBlock with
              | none => exact .inl rfl
              | some j => right; rw [h]; simp
            · exact .inr (fun e => h e.symm)
          have hno5 : w5.ownsRow w1.heap.size 56 4 u6 wn (eli (wm.map coldE)) := ((hno.alloc _).alloc _).kept hgrow h65
          have hb5 : Below w1.heap.size w1 w5 := ((HI.out.bl.alloc hsz _).alloc (by simp; omega) _).grown hgrow (by simp; omega) (fun k hk => (hwl k hk).1)
          have hgM : g1 ≠ wr.heap.size := by
            rcases hat with h | h
            · have := (hwl _ h).2; omega
            · omega
          have hd : u6.ownBlock ≠ some g1 := fun e => by
            rcases hat with h | h
            · rcases h65 with h6 | h6
              · rw [h6] at e; cases e
              · exact h6 (e.trans h.symm)
            · have := (hnl _ e).2; omega
          have hno6 : (w5.setCell ⟨wr.heap.size, 3, none⟩ (.int .i64 0)).ownsRow w1.heap.size 56 4 u6 wn (eli (wm.map coldE)) := hno5.kept (grown_only (only_set _ _ _ _)) hne6
          have hwa6 : (w5.setCell ⟨wr.heap.size, 3, none⟩ (.int .i64 0)).ownsRow w1.heap.size 56 4 (.slice (some ⟨g1, 0, none⟩) (wn + 1) c1) (wn + 1) (eli (wm ++ [x])) := by
            rw [eli_app]
            exact hown.kept (grown_only (only_set _ _ _ _)) (.inr (by simpa [Value.ownBlock] using hgM))
          have hb6 : Below w1.heap.size w1 (w5.setCell ⟨wr.heap.size, 3, none⟩ (.int .i64 0)) := hb5.trans ((only_set _ _ _ _).below hb5.size (fun i hi => by omega))
          have hsz5 := hb5.size
          have x0 : w5.cell? ⟨wr.heap.size, 0, none⟩ = some (.int .i64 x.k) := hx5.cell 0
          have x1 : w5.cell? ⟨wr.heap.size, 1, none⟩ = some (.int .i64 x.p) := hx5.cell 1
          have x2 : w5.cell? ⟨wr.heap.size, 2, none⟩ = some (.int .i64 x.a) := hx5.cell 2
          have x3 : w5.cell? ⟨wr.heap.size, 3, none⟩ = some (.int .i64 x.h) := hx5.cell 3
          have xz : w5.frozen? ⟨wr.heap.size, 3, none⟩ = false := hx5.frozen 3
          have xl := hx5.lt
          have HB := Lib.hid (And.intro hb6 hwa6)
          have hnl6 := hno6.lt
          clear hno5 hb5 hgM hown hgrow hat hne5 hne6 h65 hx5 hwa hno hb6 hwa6
          clear hwl hnl HI
          go_wp2_with (at_builtin; refine wpList_append_lies _ rfl _ _ 27 rfl w1.heap.size 56 i0 (.agg #[iv 0, iv 0, iv 0, iv 0]) 4 32 Try.underlying27 hi hz0 hz1 hz2 rfl (by decide) u6 wn _ rfl (hno6.alloc _) ⟨w5.heap.size, 0, none⟩ 1 1 [.int .i64 x.k, .int .i64 x.p, .int .i64 x.a, .int .i64 0] rfl rfl ?c1 ?c2 (by decide) ?c3 ?c4 ?c5 _ rfl ?_)
          case c1 => simpa using cell_new4 (w5.setCell ⟨wr.heap.size, 3, none⟩ (.int .i64 0)) (.int .i64 x.k) (.int .i64 x.p) (.int .i64 x.a) (.int .i64 0) 56
          case c2 => simp [Value.oneCell']
          case c3 => unfold maxLen; omega
          case c4 => omega
          case c5 => simp; omega
          intro g2 c2 w8 hown hgrow hat hg2
          have HJ : Hid (WhI w1 w8 l (k + 1) (.slice (some ⟨g1, 0, none⟩) (wn + 1) c1) (.slice (some ⟨g2, 0, none⟩) (wn + 1) c2)) := by
            have e := HE.out.1 HW.out
            rw [← HN.out.1] at e
            have e1 : (wm ++ [x]).length = wn + 1 := by simp [HN.out.2]
            refine ⟨?_, ?_, ?_, ?_⟩
            · exact (HB.out.1.alloc (by simpa using hsz5) _).grown hgrow (by simp; omega) (fun k hk => (hnl6 k hk).1)
            · rw [e, e1]
              exact (HB.out.2.alloc _).kept hgrow (.inr (by simpa [Value.ownBlock] using fun h => hd h.symm))
            · rw [e, e1, List.map_append, eli_app]
              exact hown
            · right
              intro e2
              simp only [Value.ownBlock, Option.some.injEq] at e2
              rcases hat with h | h
              · exact hd (by rw [h, e2])
              · omega
          clear hown hgrow hat HB hd hno6
          go_wp2_with fail
          go_roundw
          case rel => exact ⟨k + 1, by omega, by go_num, HJ.out⟩
          case measure => simp [intOf]; omega
    · have hkl : k = l.length := by omega
      subst hkl
      have hwa := HI.out.wa
      have hno := HI.out.no
      rw [List.take_length] at hwa hno
      have hkd := warmE_kind l
      have hwl := warmE_len l
      generalize warmE l = wm at hwa hno hkd hwl
      obtain ⟨A1, c1, rfl, he1⟩ := own_erow hwa
      obtain ⟨A2, c2, e2, he2⟩ := own_erow (l := wm.map coldE) (by rw [List.length_map]; exact hno)
      rw [List.length_map] at e2
      subst e2
      have HX := Lib.hid (H1.out.step HI.out.bl)
      have HE := Lib.hid (And.intro he1 (And.intro he2 hkd))
      have c0 : wr.cell? ⟨W.heap.size, 0, none⟩ = some (.int .i64 t.v) := HX.out.b.cell 0
      have c1' : wr.cell? ⟨W.heap.size, 1, none⟩ = some (.int .i64 t.h) := HX.out.b.cell 1
      have c2' : wr.cell? ⟨W.heap.size, 2, none⟩ = some (.slice A ps.length cap) := HX.out.b.cell 2
      have c3 : wr.cell? ⟨W.heap.size, 3, none⟩ = some (.int .i64 heat) := HX.out.b.cell 3
      have c4 : wr.cell? ⟨W.heap.size, 4, none⟩ = some (.int .i64 hroom) := HX.out.b.cell 4
      have cl := HX.out.b.lt
      have hwm : wm.length ≤ 9223372036854775807 := by omega
      clear hwa hno he1 he2 hkd HI H1
      go_wp2_with fail
      refine (play_any t ps wm A A1 cap c1 heat hroom wr HX.out.p HE.out.1 HM.out.1 HM.out.2 (by decide) hwm).mono fun r w2 hpl0 => ?_
      have hpl := play_row hpl0
      clear hpl0
      have hb2 := hpl.1
      have H2 := Lib.hid (HX.out.step hb2)
      have HE2 := Lib.hid (And.intro (HE.out.2.1.step hb2) HE.out.2.2)
      have c0 : w2.cell? ⟨W.heap.size, 0, none⟩ = some (.int .i64 t.v) := H2.out.b.cell 0
      have c1' : w2.cell? ⟨W.heap.size, 1, none⟩ = some (.int .i64 t.h) := H2.out.b.cell 1
      have c2' : w2.cell? ⟨W.heap.size, 2, none⟩ = some (.slice A ps.length cap) := H2.out.b.cell 2
      have c3 : w2.cell? ⟨W.heap.size, 3, none⟩ = some (.int .i64 heat) := H2.out.b.cell 3
      have c4 : w2.cell? ⟨W.heap.size, 4, none⟩ = some (.int .i64 hroom) := H2.out.b.cell 4
      have cl := H2.out.b.lt
      clear HX HE
      cases hv : brineB t ps heat hroom
      case false =>
        have hp : playR t ps heat hroom wm = (none, 0, 1) := by unfold playR; rw [if_pos hv]
        obtain ⟨-, hpl⟩ := hpl
        rw [hp] at hpl
        simp only at hpl
        subst hpl
        have HV := Lib.hid hv
        clear hv hp
        go_wp2_with fail
        have hbz : Below w2.heap.size w2 ((w2.alloc (.cells #[.int .i64 0, .int .i64 0, .slice none 0 0, .int .i64 0, .int .i64 0] 26)).alloc (.cells #[.int .i64 0, .int .i64 0, .int .i64 0, .int .i64 0, .int .i64 0, .int .i64 0, .int .i64 0, .int .i64 0, .int .i64 0] 31)) := (below_one _ _).alloc (by simp) _
        have H3 := Lib.hid (H2.out.step hbz)
        clear hbz
        refine (brine_any t ps heat hroom A cap _ H3.out.p hm2 HM.out.2).mono ?_
        rw [HV.out]
        rintro e w4 ⟨rfl, hb4⟩
        have H4 := Lib.hid (H3.out.step hb4)
        clear hb4 H3
        go_wp2_with fail
        refine (alive_any _).mono ?_
        rintro e wb ⟨rfl, hb⟩
        have HB := Lib.hid (H4.out.bl.trans (hb.mono H4.out.bl.size))
        clear hb
        go_wp2_with fail
        go_ret
        exact ⟨rfl, HB.out⟩
      obtain ⟨hps, hpl16⟩ := brine_small hv
      cases hx : (playR t ps heat hroom wm).1
      case none =>
        obtain ⟨-, hpl⟩ := hpl
        rw [hx] at hpl
        subst hpl
        obtain ⟨-, hne⟩ := play_none hx
        obtain ⟨i, hi0⟩ : ∃ i, i = (playR t ps heat hroom wm).2.1 := ⟨_, rfl⟩
        obtain ⟨x, hx0⟩ : ∃ x, x = (playR t ps heat hroom wm).2.2 := ⟨_, rfl⟩
        have hP : playR t ps heat hroom wm = (none, i, x) := by rw [hi0, hx0, ← hx]
        rw [← hx0] at hne
        rw [← hi0, ← hx0]
        have hq : (x != 0) = true := by simpa using hne
        have HP := Lib.hid (And.intro hP hv)
        clear hx hne hi0 hx0 hP hb2
        have hbz : Below w2.heap.size w2 ((w2.alloc (.cells #[.int .i64 0, .int .i64 0, .slice none 0 0, .int .i64 0, .int .i64 0] 26)).alloc (.cells #[.int .i64 0, .int .i64 0, .int .i64 0, .int .i64 0, .int .i64 0, .int .i64 0, .int .i64 0, .int .i64 0, .int .i64 0] 31)) := (below_one _ _).alloc (by simp) _
        have H3 := Lib.hid (H2.out.step hbz)
        have HE3 := Lib.hid (And.intro (HE2.out.1.step hbz) HE2.out.2)
        clear hbz H2 HE2
        go_wp2_with fail
        refine (brine_any t ps heat hroom A cap _ H3.out.p hm2 HM.out.2).mono ?_
        rw [HP.out.2]
        rintro e w4 ⟨rfl, hb4⟩
        have H4 := Lib.hid (H3.out.step hb4)
        have HE4 := Lib.hid (And.intro (HE3.out.1.step hb4) HE3.out.2)
        clear hb4 H3 HE3 hv
        have c0 : w4.cell? ⟨W.heap.size, 0, none⟩ = some (.int .i64 t.v) := H4.out.b.cell 0
        have c1' : w4.cell? ⟨W.heap.size, 1, none⟩ = some (.int .i64 t.h) := H4.out.b.cell 1
        have c2' : w4.cell? ⟨W.heap.size, 2, none⟩ = some (.slice A ps.length cap) := H4.out.b.cell 2
        have c3 : w4.cell? ⟨W.heap.size, 3, none⟩ = some (.int .i64 heat) := H4.out.b.cell 3
        have c4 : w4.cell? ⟨W.heap.size, 4, none⟩ = some (.int .i64 hroom) := H4.out.b.cell 4
        have cl := H4.out.b.lt
        go_wp2_with fail
        refine (cold_any t ps A cap heat hroom _ H4.out.p (by omega) hpl16.out).mono ?_
        rintro e w5 ⟨A3, c5, rfl, hb5, hq5⟩
        have H5 := Lib.hid (H4.out.step hb5)
        have HC : Hid (Calls Try.prog 14 #[brv (coldS t) A3 ps.length c5 0 0, .slice A2 wm.length c2] w5 (PlayRow (playR (coldS t) (ps.map coldP) 0 0 (wm.map coldE)) w5)) := by
          have h := play_any (coldS t) (ps.map coldP) (wm.map coldE) A3 A2 c5 c2 0 0 w5 hq5 (HE4.out.1.step hb5) (by rw [List.length_map]; exact HM.out.1) (by
            intro p hp
            obtain ⟨q, hq, rfl⟩ := List.mem_map.1 hp
            simp only [coldP, List.length_map]
            exact HM.out.2 q hq) (by decide) (by rw [List.length_map]; exact hwm)
          simp only [List.length_map] at h
          exact h.mono fun r w' hh => play_row hh
        clear hq5 hb5
        go_wp2_with fail
        refine HC.out.mono ?_
        rintro r w6 ⟨hb6, hr6⟩
        have H6 := Lib.hid (H5.out.step hb6)
        by_cases hx1 : x = 1
        · subst hx1
          clear hq
          cases hy : (playR (coldS t) (ps.map coldP) 0 0 (wm.map coldE)).1
          case none =>
            rw [hy] at hr6
            subst hr6
            have hbz : Below w6.heap.size w6 ((w6.alloc (.cells #[.int .i64 0, .int .i64 0, .slice none 0 0, .int .i64 0, .int .i64 0] 26)).alloc (.cells #[.int .i64 0, .int .i64 0, .int .i64 0, .int .i64 0, .int .i64 0, .int .i64 0, .int .i64 0, .int .i64 0, .int .i64 0] 31)) := (below_one _ _).alloc (by simp) _
            have H7 := Lib.hid (H6.out.step hbz)
            clear hbz hb6 hy H6
            go_wp2_with fail
            refine (alive_any _).mono ?_
            rintro e wb ⟨rfl, hb⟩
            have HB := Lib.hid (H7.out.bl.trans (hb.mono H7.out.bl.size))
            clear hb
            go_wp2_with fail
            go_ret
            exact ⟨rfl, HB.out⟩
          case some z2 =>
            rw [hy] at hr6
            obtain ⟨A6, c6, rfl, -⟩ := hr6
            have hbz : Below w6.heap.size w6 ((w6.alloc (.cells (bcells z2.t A6 z2.ps.length c6 z2.r.heat z2.r.room) 26)).alloc (.cells (scells z2.r.s) 31)) := (below_one _ _).alloc (by simp) _
            have H7 := Lib.hid (H6.out.step hbz)
            clear hbz hb6 hy H6
            go_wp2_with fail
            refine (alive_any _).mono ?_
            rintro e wb ⟨rfl, hb⟩
            have HB := Lib.hid (H7.out.bl.trans (hb.mono H7.out.bl.size))
            clear hb
            go_wp2_with fail
            go_ret
            exact ⟨rfl, HB.out⟩
        · obtain ⟨o2, e2, ⟨-, rfl⟩ | ⟨y, z2, h1, -⟩⟩ := cold_play HP.out.2 HE4.out.2 HP.out.1 hx1
          · rw [e2] at hr6
            simp only at hr6
            subst hr6
            have hx1' : (x == 1) = false := by simpa using hx1
            have hbz : Below w6.heap.size w6 ((w6.alloc (.cells #[.int .i64 0, .int .i64 0, .slice none 0 0, .int .i64 0, .int .i64 0] 26)).alloc (.cells #[.int .i64 0, .int .i64 0, .int .i64 0, .int .i64 0, .int .i64 0, .int .i64 0, .int .i64 0, .int .i64 0, .int .i64 0] 31)) := (below_one _ _).alloc (by simp) _
            have H7 := Lib.hid (H6.out.step hbz)
            clear hbz hb6 e2 H6 hx1
            go_wp2_with fail
            refine (alive_any _).mono ?_
            rintro e wb ⟨rfl, hb⟩
            have HB := Lib.hid (H7.out.bl.trans (hb.mono H7.out.bl.size))
            clear hb
            go_wp2_with fail
            go_ret
            exact ⟨rfl, HB.out⟩
          · cases h1
      case some z =>
        obtain ⟨-, hpl⟩ := hpl
        rw [hx] at hpl
        obtain ⟨A5, c5, rfl, hp5⟩ := hpl
        obtain ⟨-, hbd, hz, hidx, her, h256⟩ := play_some hx
        have hP : playR t ps heat hroom wm = (some z, wm.length, 0) := by rw [← hx, ← hidx, ← her]
        rw [hidx, her]
        obtain ⟨s2, hP2, hlv, hfv⟩ := cold_end hv HE2.out.2 hP
        have hf := kfacts hv hbd h256
        rw [← hz] at hf
        have hzl : z.ps.length ≤ 8 := by rw [hf.len]; exact hps
        have HZ : Hid ((∀ p ∈ z.ps, p.l.length ≤ 1000000) ∧ (∀ p ∈ z.ps.map coldP, p.l.length ≤ 9223372036854775807)) := by
          refine ⟨fun p hp => by have := (hf.ok p hp).len; omega, fun p hp => ?_⟩
          obtain ⟨q, hq, rfl⟩ := List.mem_map.1 hp
          have := (hf.ok q hq).len
          simp only [coldP, List.length_map]; omega
        have HP := Lib.hid (And.intro hP2 (And.intro hv (And.intro hlv hfv)))
        clear hx hidx her hz hbd h256 hf hP hP2 hlv hfv hv
        have hbz : Below w2.heap.size w2 ((w2.alloc (.cells (bcells z.t A5 z.ps.length c5 z.r.heat z.r.room) 26)).alloc (.cells (scells z.r.s) 31)) := (below_one _ _).alloc (by simp) _
        have H3 := Lib.hid (H2.out.step hbz)
        have HE3 := Lib.hid (And.intro (HE2.out.1.step hbz) (hp5.step hbz))
        have HB3 : Hid (Has ((w2.alloc (.cells (bcells z.t A5 z.ps.length c5 z.r.heat z.r.room) 26)).alloc (.cells (scells z.r.s) 31)) w2.heap.size 26 (bcells z.t A5 z.ps.length c5 z.r.heat z.r.room) ∧ Has ((w2.alloc (.cells (bcells z.t A5 z.ps.length c5 z.r.heat z.r.room) 26)).alloc (.cells (scells z.r.s) 31)) (w2.heap.size + 1) 31 (scells z.r.s)) := ⟨(Has.new _ _ _).alloc _, Has.newAt (by simp)⟩
        clear hbz H2 HE2 hp5 hb2
        go_wp2_with fail
        refine (brine_any t ps heat hroom A cap _ H3.out.p hm2 HM.out.2).mono ?_
        rw [HP.out.2.1]
        rintro e w4 ⟨rfl, hb4⟩
        have H4 := Lib.hid (H3.out.step hb4)
        have HE4 := Lib.hid (And.intro (HE3.out.1.step hb4) (HE3.out.2.step hb4))
        have HB4 := Lib.hid (And.intro (HB3.out.1.below hb4 HB3.out.1.lt) (HB3.out.2.below hb4 HB3.out.2.lt))
        clear hb4 H3 HE3 HB3
        have c0 : w4.cell? ⟨W.heap.size, 0, none⟩ = some (.int .i64 t.v) := H4.out.b.cell 0
        have c1' : w4.cell? ⟨W.heap.size, 1, none⟩ = some (.int .i64 t.h) := H4.out.b.cell 1
        have c2' : w4.cell? ⟨W.heap.size, 2, none⟩ = some (.slice A ps.length cap) := H4.out.b.cell 2
        have c3 : w4.cell? ⟨W.heap.size, 3, none⟩ = some (.int .i64 heat) := H4.out.b.cell 3
        have c4 : w4.cell? ⟨W.heap.size, 4, none⟩ = some (.int .i64 hroom) := H4.out.b.cell 4
        have cl := H4.out.b.lt
        go_wp2_with fail
        refine (cold_any t ps A cap heat hroom _ H4.out.p (by omega) hpl16.out).mono ?_
        rintro e w5 ⟨A3, c5', rfl, hb5, hq5⟩
        have H5 := Lib.hid (H4.out.step hb5)
        have HE5 := Lib.hid (HE4.out.2.step hb5)
        have HB5 := Lib.hid (And.intro (HB4.out.1.below hb5 HB4.out.1.lt) (HB4.out.2.below hb5 HB4.out.2.lt))
        have HC : Hid (Calls Try.prog 14 #[brv (coldS t) A3 ps.length c5' 0 0, .slice A2 wm.length c2] w5 (PlayRow (some ⟨z.ps.map coldP, coldS z.t, ⟨0, 0, s2⟩⟩, wm.length, 0) w5)) := by
          have h := play_any (coldS t) (ps.map coldP) (wm.map coldE) A3 A2 c5' c2 0 0 w5 hq5 (HE4.out.1.step hb5) (by rw [List.length_map]; exact HM.out.1) (by
            intro p hp
            obtain ⟨q, hq, rfl⟩ := List.mem_map.1 hp
            simp only [coldP, List.length_map]
            exact HM.out.2 q hq) (by decide) (by rw [List.length_map]; exact hwm)
          rw [HP.out.1] at h
          simp only [List.length_map] at h
          exact h.mono fun r w' hh => play_row hh
        clear hq5 hb5 H4 HE4 HB4
        go_wp2_with fail
        refine HC.out.mono ?_
        rintro r w6 ⟨hb6, A6, c6, rfl, hq6⟩
        have hbz : Below w6.heap.size w6 ((w6.alloc (.cells #[.int .i64 (coldS z.t).v, .int .i64 (coldS z.t).h, .slice A6 (z.ps.map coldP).length c6, .int .i64 0, .int .i64 0] 26)).alloc (.cells (scells s2) 31)) := (below_one _ _).alloc (by simp) _
        have HK : Hid (WhK W ((w6.alloc (.cells #[.int .i64 (coldS z.t).v, .int .i64 (coldS z.t).h, .slice A6 (z.ps.map coldP).length c6, .int .i64 0, .int .i64 0] 26)).alloc (.cells (scells s2) 31)) w2.heap.size (w2.heap.size + 1) w6.heap.size (w6.heap.size + 1) z s2 A5 A6 c5 c6) :=
          ⟨((H5.out.step hb6).step hbz).bl, (HB5.out.1.below hb6 HB5.out.1.lt).below hbz (HB5.out.1.below hb6 HB5.out.1.lt).lt, (HB5.out.2.below hb6 HB5.out.2.lt).below hbz (HB5.out.2.below hb6 HB5.out.2.lt).lt, by have := Has.new w6 26 #[.int .i64 (coldS z.t).v, .int .i64 (coldS z.t).h, .slice A6 (z.ps.map coldP).length c6, .int .i64 0, .int .i64 0]; rw [List.length_map] at this ⊢; exact this.alloc _, Has.newAt (by simp), (HE5.out.step hb6).step hbz, hq6.step hbz⟩
        rw [List.length_map] at HK
        simp only [List.length_map]
        clear hbz hb6 hq6 HC HB5 HE5 H5
        have hb2l := HK.out.e.lt
        have hb3l := HK.out.s.lt
        go_wp2_with fail
        have hb6l := HK.out.o.lt
        have hb7l := HK.out.u.lt
        obtain ⟨b7, hb7⟩ : ∃ b7, b7 = w6.heap.size + 1 := ⟨_, rfl⟩
        rw [← hb7] at HK hb7l ⊢
        obtain ⟨b6, hb6⟩ : ∃ b6, b6 = w6.heap.size := ⟨_, rfl⟩
        rw [← hb6] at HK hb6l ⊢
        generalize ((w6.alloc (.cells #[.int .i64 (coldS z.t).v, .int .i64 (coldS z.t).h, .slice A6 z.ps.length c6, .int .i64 0, .int .i64 0] 26)).alloc (.cells (scells s2) 31)) = w7 at HK hb2l hb3l hb6l hb7l ⊢
        have HKd := Lib.hid (HK.out.step (below_dr (Below.refl _ _)))
        obtain ⟨lv2, hlv2⟩ : ∃ lv2, lv2 = s2.lv := ⟨_, rfl⟩
        obtain ⟨fv2, hfv2⟩ : ∃ fv2, fv2 = s2.fv := ⟨_, rfl⟩
        have elv : (z.r.s.lv == lv2) = true := by rw [hlv2, HP.out.2.2.1]; simp
        have efv : (z.r.s.fv == fv2) = true := by rw [hfv2, HP.out.2.2.2]; simp
        have HLF := Lib.hid (And.intro hlv2 hfv2)
        clear hlv2 hfv2 HK hb6 hb7
        go_region_held3 (fun w' => w'.cell? ⟨w2.heap.size, 0, none⟩ = some (.int .i64 z.t.v) ∧ w'.cell? ⟨w2.heap.size, 1, none⟩ = some (.int .i64 z.t.h) ∧ w'.cell? ⟨w2.heap.size, 2, none⟩ = some (.slice A5 z.ps.length c5) ∧ w'.cell? ⟨w2.heap.size, 3, none⟩ = some (.int .i64 z.r.heat) ∧ w'.cell? ⟨w2.heap.size, 4, none⟩ = some (.int .i64 z.r.room) ∧ w'.cell? ⟨b6, 0, none⟩ = some (.int .i64 (coldS z.t).v) ∧ w'.cell? ⟨b6, 1, none⟩ = some (.int .i64 (coldS z.t).h) ∧ w'.cell? ⟨b6, 2, none⟩ = some (.slice A6 z.ps.length c6) ∧ w'.cell? ⟨b6, 3, none⟩ = some (.int .i64 0) ∧ w'.cell? ⟨b6, 4, none⟩ = some (.int .i64 0) ∧ w'.cell? ⟨w2.heap.size + 1, 1, none⟩ = some (.int .i64 z.r.s.lv) ∧ w'.cell? ⟨w2.heap.size + 1, 3, none⟩ = some (.int .i64 z.r.s.fv) ∧ w'.cell? ⟨b7, 1, none⟩ = some (.int .i64 lv2) ∧ w'.cell? ⟨b7, 3, none⟩ = some (.int .i64 fv2)) (first | exact HKd.out.keep2 HLF.out | exact HKn.out.keep2 HLF.out) (first
          | (go_at_call 29; refine (cold_any z.t z.ps A5 c5 z.r.heat z.r.room _ HKd.out.p (by omega) HZ.out.1).mono ?_; rintro r wL ⟨A7, c7, rfl, hbL, hPL⟩; (have HKn := Lib.hid (HKd.out.step hbL)); have HL := Lib.hid hPL; clear hbL hPL HKd)
          | (go_at_call 18; refine (same_cold z.t z.ps A7 A6 c7 c6 _ HL.out HKn.out.q (by omega) HZ.out.2).mono ?_; rintro r wM ⟨rfl, hbM⟩; (have HKd := Lib.hid (HKn.out.step hbM)); clear hbM HL HKn)
          | (go_at_call 13; refine (alive_any _).mono ?_; rintro r wN ⟨rfl, hbN⟩; (have HKn := Lib.hid (HKd.out.step hbN)); clear hbN HKd))
        all_goals
          go_wp2
          go_ret
          exact ⟨rfl, HKn.out.bl⟩
end Go.Proofs.Ytjfopmjphiddiaa
