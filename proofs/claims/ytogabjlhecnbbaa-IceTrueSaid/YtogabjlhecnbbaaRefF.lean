/- The contract of the document's play. -/
import Derived.Test.YtogabjlhecnbbaaRefE
import Derived.Test.YtogabjlhecnbbaaTail
import Derived.Deep.DeepCutAuto
import Derived.Deep.Cut
import Derived.Deep.CutRange
namespace Go.Proofs.Ytogabjlhecnbbaa
open Go.RowKit Go.Shelf

set_option maxRecDepth 100000 in
set_option maxHeartbeats 4000000 in
theorem playRef_any (zs : List Zn) (es : List Ev) (A : Option Addr) (cap : Nat) (A' : Option Addr) (cap' : Nat) (w : World) (hz : ZRow w w.heap.size A zs) (he : ERow w w.heap.size A' es) (hr : rinkOk zs = true) (hl' : es.length ≤ 256) :
    Calls Try.prog 41 #[.slice A zs.length cap, .slice A' es.length cap'] w (RPost (playR zs es) w) := by
  obtain ⟨i0, hi, hz0, hz1, hz2⟩ := info_parts Try.info60
  have hRp := rink_parts hr
  have HR := Lib.hid hRp
  have HRk := Lib.hid hr
  have hzl : zs.length ≤ 24 := hRp.1
  have hzp : 1 ≤ zs.length := hRp.2.1
  clear hRp hr
  obtain ⟨g, o, rfl, hg, -⟩ := hz 0 (by omega)
  have HA := Lib.hid hz
  have hown : ((six w).alloc (.cells #[] 60)).ownsRow (w.heap.size + 1) 60 4 (.slice (some ⟨w.heap.size + 1, 0, none⟩) 0 0) 0 [] :=
    ⟨rfl, .inr ⟨w.heap.size + 1, 0, #[], rfl, Nat.le_refl _, by have := Has.new (six w) 60 #[]; simpa [Has] using this, Nat.le_refl _, by unfold maxLen; omega, rfl, rfl⟩⟩
  go_enter Try.func41, Try.ntmps41
  go_wp2_with (at_builtin; refine wpList_append_own _ rfl _ _ 22 rfl (w.heap.size + 1) 60 i0 (.agg #[iv 0, iv 0, iv 0, iv 0]) 4 32 Try.underlying22 hi hz0 hz1 hz2 rfl (by decide) _ 0 [] rfl hown ⟨g, o, none⟩ zs.length cap (flat zs).toList rfl ?c1 ?c2 ?c3 ?c4 ?c5 ?c6 ?_)
  case c1 => simp [flat_size]
  case c2 =>
    intro j u hu
    have := zrow_flat HA.out rfl j u hu
    have hb : Below w.heap.size w ((six w).alloc (.cells #[] 60)) := (below1 w _).alloc (by simp) _
    rw [← hb.cell (p := ⟨g, _, none⟩) hg] at this
    rw [show (⟨g, o, none⟩ : Addr).add j = ⟨g, o + j, none⟩ from by unfold Addr.add; split <;> simp_all]
    exact this
  case c3 => exact flat_one zs
  case c4 => unfold maxLen; omega
  case c5 => omega
  case c6 => simp
  intro v' w1 hown' hgrow _
  have hb2 : Below (w.heap.size + 1) ((six w).alloc (.cells #[] 60)) w1 := (Below.refl _ _).grown hgrow (by simp) (own_low hown)
  have hbw : Below w.heap.size w w1 := ((below1 w _).alloc (by simp) _).trans (hb2.mono (by omega))
  have hres : Has w1 w.heap.size 29 #[iv 0, iv 0, iv 0, iv 0, iv 0, iv 0] := ((Has.new w 29 _).alloc _).below hb2 (by omega)
  obtain ⟨G, capG, tl, rfl, hG, hZ⟩ := own_zones (zs := zs) (by simpa using hown') hzp
  have hG1 : G < w1.heap.size := hZ.lt
  have hr1 : w.heap.size < w1.heap.size := hres.lt
  have HI : Hid (RI w (six w1) G w1.heap.size tl (zs, Sm.zero)) := ⟨belowT hbw (below1 _ _), hres.alloc _, hZ.alloc _, Has.new _ _ _⟩
  clear hown hown' hgrow hb2 hbw hres hZ hi hz0 hz1 hz2 hz HA hg
  go_wp2_with fail
  go_loopw [10] (fun t wr => ∃ (k : Nat) (st : List Zn × Sm), k ≤ es.length ∧ t = .int .i64 k ∧ Hid (RI w wr G w1.heap.size tl st ∧ st.1.length = zs.length ∧ (∀ z ∈ st.1, z.ok = true) ∧ st.2.Bd (480000 * k) ∧ playL es (zs, Sm.zero) 0 = playL (es.drop k) st k)) (fun t _ => es.length - (intOf t).toNat)
  case atStart => exact ⟨0, (zs, Sm.zero), Nat.zero_le _, rfl, HI.out, rfl, HR.out.2.2, by unfold Sm.Bd; simp, rfl⟩
  case round =>
    obtain ⟨k, st, hk, rfl, HE⟩ := hrel
    have hrs : w.heap.size < wr.heap.size := HE.out.1.r.lt
    have hgs : G < wr.heap.size := HE.out.1.z.lt
    have hss : w1.heap.size < wr.heap.size := HE.out.1.s.lt
    by_cases hlt : k < es.length
    · obtain ⟨g', o', rfl, hg', d0, d1, d2, d3, d4⟩ := he k hlt
      have hb := HE.out.1.b
      rw [← hb.cell (p := ⟨g', _, none⟩) hg'] at d0 d1 d2 d3 d4
      have hgr : g' < wr.heap.size := by omega
      clear hb
      obtain ⟨bo, hbo⟩ : ∃ bo, bo = es[k].ok zs.length := ⟨_, rfl⟩
      have HO := Lib.hid hbo
      clear hbo
      go_wp2_with fail
      refine (eventR_any es[k] zs.length _ (by omega) (by omega)).mono ?_
      rintro r wa ⟨rfl, hba⟩
      rw [← HO.out]
      have HEa := Lib.hid (HE.out.1.below hba)
      have hga : g' < wa.heap.size := by have := hba.size; omega
      rw [← hba.cell (p := ⟨g', _, none⟩) hgr] at d0 d1 d2 d3 d4
      have hrs : w.heap.size < wa.heap.size := HEa.out.r.lt
      have hgs : G < wa.heap.size := HEa.out.z.lt
      have hss : w1.heap.size < wa.heap.size := HEa.out.s.lt
      cases bo
      · have hR : Hid (playR zs es = ⟨[], Sm.zero, k, 1⟩) := by
          show _ = _
          have hev : evDo es[k] st = (st, 1) := by unfold evDo; rw [HE.out.2.1, ← HO.out]; simp
          simp only [playR, HRk.out]
          rw [if_neg (by simp), if_neg (by omega), HE.out.2.2.2.2, playL_step hlt, hev]
          simp
        have c0 : wa.cell? ⟨w.heap.size, 0, none⟩ = some (iv 0) := HEa.out.r.cell 0
        have f0 := HEa.out.r.frozen 0
        have c1 : wa.cell? ⟨w.heap.size, 1, none⟩ = some (iv 0) := HEa.out.r.cell 1
        have f1 := HEa.out.r.frozen 1
        have c2 : wa.cell? ⟨w.heap.size, 2, none⟩ = some (iv 0) := HEa.out.r.cell 2
        have f2 := HEa.out.r.frozen 2
        have c3 : wa.cell? ⟨w.heap.size, 3, none⟩ = some (iv 0) := HEa.out.r.cell 3
        have f3 := HEa.out.r.frozen 3
        have c4 : wa.cell? ⟨w.heap.size, 4, none⟩ = some (iv 0) := HEa.out.r.cell 4
        have f4 := HEa.out.r.frozen 4
        have c5 : wa.cell? ⟨w.heap.size, 5, none⟩ = some (iv 0) := HEa.out.r.cell 5
        have f5 := HEa.out.r.frozen 5
        go_wp2_with fail
        refine bodyPost_ret (v := .tuple #[.slice none 0 0, smv Sm.zero, iv k, iv 1]) (by simp [results, Try.results41, go_sem, c0, c1, c2, c3, c4, c5]) rfl ?_
        rw [hR.out]
        exact rPost_bad (R := ⟨[], Sm.zero, k, 1⟩) (by simp) (six_below HEa.out.b _ _ _ _ _ _)
      · have hev := HO.out
        have HV : Hid (evDo es[k] st = loopE es[k] es[k].f.toNat (es[k].last.toNat + 1 - es[k].f.toNat) st) := by
          show _ = _
          unfold evDo; rw [HE.out.2.1, ← hev]; simp
        have HD := Lib.hid (he k hlt)
        obtain ⟨e, he0⟩ : ∃ e, e = es[k] := ⟨_, rfl⟩
        rw [← he0] at hev HV HD d0 d1 d2 d3 d4
        have HE0 := Lib.hid he0
        clear he0 HO
        obtain ⟨ek, ef, et, ex, ey⟩ := e
        symm at hev
        simp only [Ev.ok, Bool.and_eq_true, decide_eq_true_eq, Bool.or_eq_true] at hev
        obtain ⟨⟨⟨hk0, hk5, hf0, hfz⟩, htt⟩, hw⟩ := hev
        have HWn := Lib.hid hw
        clear hw
        have HS := Lib.hid HE.out.2
        obtain ⟨f, rfl⟩ := Int.eq_ofNat_of_zero_le hf0
        clear HE hba hgr
        obtain ⟨l, hl0, hfl, hlz⟩ : ∃ l : Nat, (l : Int) = Ev.last ⟨ek, f, et, ex, ey⟩ ∧ f ≤ l ∧ l < zs.length := by
          unfold Ev.last
          by_cases k3 : ek = 3
          · exact ⟨f, by simp [k3], Nat.le_refl _, by omega⟩
          · rcases htt with h | h
            · exact absurd h k3
            · refine ⟨et.toNat, ?_, ?_, ?_⟩
              · simp only [if_neg k3]; omega
              · omega
              · omega
        have HV2 : Hid (evDo ⟨ek, f, et, ex, ey⟩ st = loopE ⟨ek, f, et, ex, ey⟩ f (l + 1 - f) st) := by
          show _ = _
          have := HV.out
          rw [← hl0] at this
          simpa using this
        have HL0 := Lib.hid hl0
        clear HV hl0
        go_upto_if 45 with fail
        go_cut [11] (fun s11 wx => s11 = iv l ∧ wx = wa)
        case first =>
          by_cases k3 : ek = 3
          · subst k3
            go_wp2_with fail
            go_meet
            have := HL0.out
            simp only [Ev.last, if_true] at this
            exact ⟨by rw [this], rfl⟩
          · have hq3 : (ek == 3) = false := by simpa using k3
            go_wp2_with fail
            go_meet
            have := HL0.out
            simp only [Ev.last, if_neg k3] at this
            exact ⟨by rw [this], rfl⟩
        case rest =>
          obtain ⟨rfl, rfl⟩ := hcut
          clear htt HL0
          go_wp2_with fail
          clear d0 d1 d2 d3 d4 hga
          go_loopw [12] (fun t wq => ∃ (j : Nat) (su : List Zn × Sm), f ≤ j ∧ j ≤ l + 1 ∧ t = .int .i64 j ∧ Hid (RI w wq G w1.heap.size tl su ∧ su.1.length = zs.length ∧ (∀ z ∈ su.1, z.ok = true) ∧ su.2.Bd (480000 * k + 20000 * ((j : Int) - f)) ∧ loopE ⟨ek, f, et, ex, ey⟩ f (l + 1 - f) st = loopE ⟨ek, f, et, ex, ey⟩ j (l + 1 - j) su)) (fun t _ => l + 1 - (intOf t).toNat)
          case atStart => exact ⟨f, st, Nat.le_refl _, by omega, rfl, HEa.out, HS.out.1, HS.out.2.1, by simpa using HS.out.2.2.1, rfl⟩
          case round =>
            obtain ⟨j, su, hj0, hj1, rfl, HQ⟩ := hrel
            have hrs : w.heap.size < wr.heap.size := HQ.out.1.r.lt
            have hgs : G < wr.heap.size := HQ.out.1.z.lt
            have hss : w1.heap.size < wr.heap.size := HQ.out.1.s.lt
            by_cases hlj : j ≤ l
            · have hjz : j < su.1.length := by have := HQ.out.2.1; omega
              have hjl : (j : Int) < zs.length := by have := HQ.out.2.1; omega
              have hjL : (j : Int) ≤ l := by omega
              obtain ⟨y0, y1, y2, y3⟩ := app_zone tl hjz
              obtain ⟨z, hz0⟩ : ∃ z, z = su.1[j] := ⟨_, rfl⟩
              rw [← hz0] at y0 y1 y2 y3
              have zc0 : wr.cell? ⟨G, j * 4, none⟩ = some (iv z.a) := (HQ.out.1.z.cell _).trans y0
              have zc1 : wr.cell? ⟨G, j * 4 + 1, none⟩ = some (iv z.b) := (HQ.out.1.z.cell _).trans y1
              have zc2 : wr.cell? ⟨G, j * 4 + 2, none⟩ = some (iv z.c) := (HQ.out.1.z.cell _).trans y2
              have zc3 : wr.cell? ⟨G, j * 4 + 3, none⟩ = some (iv z.d) := (HQ.out.1.z.cell _).trans y3
              obtain ⟨g2, o2, e2, hg2, d0, d1, d2, d3, d4⟩ := HD.out
              obtain ⟨rfl, rfl⟩ : g' = g2 ∧ o' = o2 := by simpa using e2
              rw [← HQ.out.1.b.cell (p := ⟨g', _, none⟩) hg2] at d0 d1 d2 d3 d4
              have hgr : g' < wr.heap.size := by omega
              have hzok : z.ok = true := by rw [hz0]; exact HQ.out.2.2.1 _ (List.getElem_mem hjz)
              have HY := Lib.hid (And.intro y0 (And.intro y1 (And.intro y2 y3)))
              clear y0 y1 y2 y3 e2
              have HZ := Lib.hid hz0
              clear hz0
              go_wp2_with fail
              go_cut [13, 14, 15] (fun a b c wx => ∃ p q z' s', a = .pointer (some ⟨p, 0, none⟩) ∧ b = .pointer (some ⟨q, 0, none⟩) ∧ c = iv (zErr ⟨ek, f, et, ex, ey⟩ z) ∧ Hid (NewZS wr wx p q z' s' ∧ (zErr ⟨ek, f, et, ex, ey⟩ z = 0 → z' = (zDo ⟨ek, f, et, ex, ey⟩ z Sm.zero).1 ∧ s' = (zDo ⟨ek, f, et, ex, ey⟩ z Sm.zero).2)))
              case first =>
                go_region_held3 (fun w' => w'.cell? ⟨G, j * 4, none⟩ = some (iv z.a) ∧ w'.cell? ⟨G, j * 4 + 1, none⟩ = some (iv z.b) ∧ w'.cell? ⟨G, j * 4 + 2, none⟩ = some (iv z.c) ∧ w'.cell? ⟨G, j * 4 + 3, none⟩ = some (iv z.d) ∧ w'.cell? ⟨g', o' + k * 5, none⟩ = some (iv ek) ∧ w'.cell? ⟨g', o' + k * 5 + 1, none⟩ = some (iv f) ∧ w'.cell? ⟨g', o' + k * 5 + 2, none⟩ = some (iv et) ∧ w'.cell? ⟨g', o' + k * 5 + 3, none⟩ = some (iv ex) ∧ w'.cell? ⟨g', o' + k * 5 + 4, none⟩ = some (iv ey)) ((refine s14 ?_ hgs hgr zc0 zc1 zc2 zc3 d0 d1 d2 d3 d4; repeat' (first | (with_reducible exact hB) | (with_reducible exact hBs) | omega | (with_reducible exact Below.refl _ _) | (with_reducible apply Below.drew) | (with_reducible refine Below.alloc ?_ ?_ _) | (with_reducible refine Below.setCell ?_ ?_ _) | simp))) ((go_at_call 68; refine (do_any ⟨ek, f, et, ex, ey⟩ z _ hzok ⟨by omega, by omega⟩ HWn.out).mono ?_; rintro r wd ⟨z', s', rfl, hbd, hq⟩; (first | ((with_reducible have n := arm_ab hbd); obtain ⟨hB, n60, n29⟩ := n; obtain ⟨x0, x1, x2, x3, fx0, fx1, fx2, fx3⟩ := new60 n60; have l6 := n60.lt; obtain ⟨u0, u1, u2, u3, u4', u5, fu0, fu1, fu2, fu3, fu4, fu5⟩ := new29 n29; have l2 := n29.lt) | ((with_reducible have n := arm_ba hbd); obtain ⟨hB, n29, n60⟩ := n; obtain ⟨x0, x1, x2, x3, fx0, fx1, fx2, fx3⟩ := new60 n60; have l6 := n60.lt; obtain ⟨u0, u1, u2, u3, u4', u5, fu0, fu1, fu2, fu3, fu4, fu5⟩ := new29 n29; have l2 := n29.lt) | ((with_reducible have n := arm_a hbd); obtain ⟨hB, n60⟩ := n; obtain ⟨x0, x1, x2, x3, fx0, fx1, fx2, fx3⟩ := new60 n60; have l6 := n60.lt) | ((with_reducible have n := arm_b hbd); obtain ⟨hB, n29⟩ := n; obtain ⟨u0, u1, u2, u3, u4', u5, fu0, fu1, fu2, fu3, fu4, fu5⟩ := new29 n29; have l2 := n29.lt) | (with_reducible have hB := arm_0 hbd)); have hBs := hB.size; have hh := s14 hB hgs hgr zc0 zc1 zc2 zc3 d0 d1 d2 d3 d4; obtain ⟨zd0, zd1, zd2, zd3, e0, e1, e2, e3, e4⟩ := hh))
                all_goals (try go_wp2_with fail)
                all_goals go_meet
                all_goals first
                  | with_reducible exact ⟨_, _, z', s', rfl, rfl, rfl, Lib.hid (And.intro (nz1 z' s' hB) hq)⟩
                  | with_reducible exact ⟨_, _, z', s', rfl, rfl, rfl, Lib.hid (And.intro (nz2 z' s' hB) hq)⟩
                  | with_reducible exact ⟨_, _, z', s', rfl, rfl, rfl, Lib.hid (And.intro (nz3 z' s' hB n60) hq)⟩
                  | with_reducible exact ⟨_, _, z', s', rfl, rfl, rfl, Lib.hid (And.intro (nz4 z' s' hB n29) hq)⟩
                  | with_reducible exact ⟨_, _, z', s', rfl, rfl, rfl, Lib.hid (And.intro (nz5 z' s' hB n60 n29) hq)⟩
                  | with_reducible exact ⟨_, _, z', s', rfl, rfl, rfl, Lib.hid (And.intro (nz6 z' s' hB n60 n29) hq)⟩
              case rest =>
                obtain ⟨p, q, z', s', rfl, rfl, rfl, HN⟩ := hcut
                have HRI := Lib.hid (HQ.out.1.below HN.out.1.b)
                have hgd : su.1.getD j zd = z := by rw [HZ.out]; simp [hjz]
                have HLP : Hid (loopE ⟨ek, f, et, ex, ey⟩ f (l + 1 - f) st = if zErr ⟨ek, f, et, ex, ey⟩ z = 0 then loopE ⟨ek, f, et, ex, ey⟩ (j + 1) (l + 1 - (j + 1)) (zStep ⟨ek, f, et, ex, ey⟩ j su) else (su, zErr ⟨ek, f, et, ex, ey⟩ z)) := by
                  show _ = _
                  rw [HQ.out.2.2.2.2, show l + 1 - j = (l + 1 - (j + 1)) + 1 by omega, ← hgd]
                  rfl
                have HST : Hid (zErr ⟨ek, f, et, ex, ey⟩ z = 0 → (zStep ⟨ek, f, et, ex, ey⟩ j su).1.length = zs.length ∧ (∀ z ∈ (zStep ⟨ek, f, et, ex, ey⟩ j su).1, z.ok = true) ∧ (zStep ⟨ek, f, et, ex, ey⟩ j su).2.Bd (480000 * k + 20000 * ((j : Int) - f) + 20000) ∧ zStep ⟨ek, f, et, ex, ey⟩ j su = (su.1.set j z', su.2.add s') ∧ s'.Bd 20000) := fun h => by
                  obtain ⟨h1, h2, h3⟩ := loopE_bd_step (s := su.2) hjz HQ.out.2.2.1 HQ.out.2.2.2.1 (e := ⟨ek, f, et, ex, ey⟩) ⟨by simp only; omega, by simp only; omega⟩ HWn.out (by rw [hgd]; exact h)
                  obtain ⟨e1, e2⟩ := HN.out.2 h
                  refine ⟨h1.trans HQ.out.2.1, h2, h3, ?_, ?_⟩
                  · unfold zStep; rw [hgd, zDo_add, ← e1, ← e2]
                  · rw [e2]; have := zDo_bd (e := ⟨ek, f, et, ex, ey⟩) (z := z) (s := Sm.zero) (c := 0) hzok HWn.out ⟨by simp only; omega, by simp only; omega⟩ (by unfold Sm.Bd; simp); simpa using this
                clear hgd
                obtain ⟨er, her⟩ : ∃ er, er = zErr ⟨ek, f, et, ex, ey⟩ z := ⟨_, rfl⟩
                rw [← her] at HN HLP HST ⊢
                clear her zc0 zc1 zc2 zc3 d0 d1 d2 d3 d4
                by_cases h0 : er = 0
                · subst h0
                  obtain ⟨hS1, hS2, hS3, hS4, hS5⟩ := HST.out rfl
                  have HSS := Lib.hid (And.intro hS1 (And.intro hS2 (And.intro hS3 hS4)))
                  have hbd := HQ.out.2.2.2.1
                  unfold Sm.Bd at hbd hS5
                  have HNr : Hid (Near (su.2.f1 + s'.f1) ∧ Near (su.2.f2 + s'.f2) ∧ Near (su.2.p1 + s'.p1) ∧ Near (su.2.p2 + s'.p2) ∧ Near (su.2.w1 + s'.w1) ∧ Near (su.2.w2 + s'.w2)) := by
                    refine ⟨⟨?_, ?_⟩, ⟨?_, ?_⟩, ⟨?_, ?_⟩, ⟨?_, ?_⟩, ⟨?_, ?_⟩, ?_, ?_⟩ <;> omega
                  clear hbd hS1 hS2 hS3 hS4 hS5
                  have pc0 : wc.cell? ⟨p, 0, none⟩ = some (iv z'.a) := HN.out.1.z.cell 0
                  have pc1 : wc.cell? ⟨p, 1, none⟩ = some (iv z'.b) := HN.out.1.z.cell 1
                  have pc2 : wc.cell? ⟨p, 2, none⟩ = some (iv z'.c) := HN.out.1.z.cell 2
                  have pc3 : wc.cell? ⟨p, 3, none⟩ = some (iv z'.d) := HN.out.1.z.cell 3
                  have plt := HN.out.1.z.lt
                  have hGq : G ≠ q := by have := HN.out.1.hq; omega
                  obtain ⟨y0, y1, y2, y3⟩ := HY.out
                  have gc0 : wc.cell? ⟨G, j * 4, none⟩ = some (iv z.a) := (HRI.out.z.cell _).trans y0
                  have gc1 : wc.cell? ⟨G, j * 4 + 1, none⟩ = some (iv z.b) := (HRI.out.z.cell _).trans y1
                  have gc2 : wc.cell? ⟨G, j * 4 + 2, none⟩ = some (iv z.c) := (HRI.out.z.cell _).trans y2
                  have gc3 : wc.cell? ⟨G, j * 4 + 3, none⟩ = some (iv z.d) := (HRI.out.z.cell _).trans y3
                  have gf0 := HRI.out.z.frozen (j * 4)
                  have gf1 := HRI.out.z.frozen (j * 4 + 1)
                  have gf2 := HRI.out.z.frozen (j * 4 + 2)
                  have gf3 := HRI.out.z.frozen (j * 4 + 3)
                  have hgl := HRI.out.z.lt
                  have HB : Hid (RI w ((((wc.setCell ⟨G, j * 4, none⟩ (iv z'.a)).setCell ⟨G, j * 4 + 1, none⟩ (iv z'.b)).setCell ⟨G, j * 4 + 2, none⟩ (iv z'.c)).setCell ⟨G, j * 4 + 3, none⟩ (iv z'.d)) G w1.heap.size tl (su.1.set j z', su.2) ∧ Has ((((wc.setCell ⟨G, j * 4, none⟩ (iv z'.a)).setCell ⟨G, j * 4 + 1, none⟩ (iv z'.b)).setCell ⟨G, j * 4 + 2, none⟩ (iv z'.c)).setCell ⟨G, j * 4 + 3, none⟩ (iv z'.d)) q 29 (smc s')) :=
                    ⟨HRI.out.setZ z' hjz (by omega) hG1, (((HN.out.1.s.far (p := ⟨G, _, none⟩) hGq.symm _).far (p := ⟨G, _, none⟩) hGq.symm _).far (p := ⟨G, _, none⟩) hGq.symm _).far (p := ⟨G, _, none⟩) hGq.symm _⟩
                  clear y0 y1 y2 y3
                  go_wp2_with fail
                  refine (?_ : ∀ W9, (RI w W9 G w1.heap.size tl (su.1.set j z', su.2) ∧ Has W9 q 29 (smc s')) → Code.wp Try.prog _ _ _ W9) _ HB.out
                  clear pc0 pc1 pc2 pc3 gc0 gc1 gc2 gc3 gf0 gf1 gf2 gf3 hgl plt
                  intro W9 h9
                  have H9 := Lib.hid h9
                  clear h9
                  have H9d : Hid (RI w W9.drew G w1.heap.size tl (su.1.set j z', su.2) ∧ Has W9.drew q 29 (smc s')) := ⟨H9.out.1.below ((Below.refl _ _).drew), H9.out.2.drew⟩
                  have hS0 := s18 H9.out.1.s.drew H9.out.2.drew
                  refine wp_region_tail (S18 w1.heap.size q su.2 s') 16 (by kernel_rfl) ?_
                  refine wpTail_take (i := 0) (oi := ?oi0) (v := ?v0) ?hi0 (by kernel_rfl) (by kernel_rfl) (by kernel_rfl) (by kernel_rfl) ?hQ0 (Or.inl ⟨?hw0, ?hy0⟩) hS0 ?rest0
                  case hi0 => (simp only [List.getElem?_toArray, List.getElem?_cons_zero]; rfl)
                  case hQ0 => exact fun _ _ _ h => h
                  case hw0 => rfl
                  case hy0 =>
                    intro w' hSw
                    obtain ⟨r0, r1, r2, r3, r4, r5, t0, t1, t2, t3, t4, t5⟩ := hSw
                    go_simp
                    try exact rfl
                  simp only [Act.put, List.setIfInBounds_toArray, List.set_cons_zero, List.set_cons_succ]
                  refine wpTail_take (i := 1) (oi := ?oi1) (v := ?v1) ?hi1 (by kernel_rfl) (by kernel_rfl) (by kernel_rfl) (by kernel_rfl) ?hQ1 (Or.inl ⟨?hw1, ?hy1⟩) hS0 ?rest1
                  case hi1 => (simp only [List.getElem?_toArray, List.getElem?_cons_zero, List.getElem?_cons_succ]; rfl)
                  case hQ1 => exact fun _ _ _ h => h
                  case hw1 => rfl
                  case hy1 =>
                    intro w' hSw
                    obtain ⟨r0, r1, r2, r3, r4, r5, t0, t1, t2, t3, t4, t5⟩ := hSw
                    go_simp
                    try exact rfl
                  simp only [Act.put, List.setIfInBounds_toArray, List.set_cons_zero, List.set_cons_succ]
                  refine wpTail_take (i := 2) (oi := ?oi2) (v := ?v2) ?hi2 (by kernel_rfl) (by kernel_rfl) (by kernel_rfl) (by kernel_rfl) ?hQ2 (Or.inl ⟨?hw2, ?hy2⟩) hS0 ?rest2
                  case hi2 => (simp only [List.getElem?_toArray, List.getElem?_cons_zero, List.getElem?_cons_succ]; rfl)
                  case hQ2 => exact fun _ _ _ h => h
                  case hw2 => rfl
                  case hy2 =>
                    intro w' hSw
                    obtain ⟨r0, r1, r2, r3, r4, r5, t0, t1, t2, t3, t4, t5⟩ := hSw
                    go_simp
                    try exact rfl
                  simp only [Act.put, List.setIfInBounds_toArray, List.set_cons_zero, List.set_cons_succ]
                  refine wpTail_take (i := 3) (oi := ?oi3) (v := ?v3) ?hi3 (by kernel_rfl) (by kernel_rfl) (by kernel_rfl) (by kernel_rfl) ?hQ3 (Or.inl ⟨?hw3, ?hy3⟩) hS0 ?rest3
                  case hi3 => (simp only [List.getElem?_toArray, List.getElem?_cons_zero, List.getElem?_cons_succ]; rfl)
                  case hQ3 => exact fun _ _ _ h => h
                  case hw3 => rfl
                  case hy3 =>
                    intro w' hSw
                    obtain ⟨r0, r1, r2, r3, r4, r5, t0, t1, t2, t3, t4, t5⟩ := hSw
                    go_simp
                    try exact rfl
                  simp only [Act.put, List.setIfInBounds_toArray, List.set_cons_zero, List.set_cons_succ]
                  refine wpTail_take (i := 5) (oi := ?oi5) (v := ?v5) ?hi5 (by kernel_rfl) (by kernel_rfl) (by kernel_rfl) (by kernel_rfl) ?hQ5 (Or.inl ⟨?hw5, ?hy5⟩) hS0 ?rest5
                  case hi5 => (simp only [List.getElem?_toArray, List.getElem?_cons_zero, List.getElem?_cons_succ]; rfl)
                  case hQ5 => exact fun _ _ _ h => h
                  case hw5 => rfl
                  case hy5 =>
                    intro w' hSw
                    obtain ⟨r0, r1, r2, r3, r4, r5, t0, t1, t2, t3, t4, t5⟩ := hSw
                    go_simp
                    try exact rfl
                  simp only [Act.put, List.setIfInBounds_toArray, List.set_cons_zero, List.set_cons_succ]
                  refine wpTail_take (i := 6) (oi := ?oi6) (v := ?v6) ?hi6 (by kernel_rfl) (by kernel_rfl) (by kernel_rfl) (by kernel_rfl) ?hQ6 (Or.inl ⟨?hw6, ?hy6⟩) hS0 ?rest6
                  case hi6 => (simp only [List.getElem?_toArray, List.getElem?_cons_zero, List.getElem?_cons_succ]; rfl)
                  case hQ6 => exact fun _ _ _ h => h
                  case hw6 => rfl
                  case hy6 =>
                    intro w' hSw
                    obtain ⟨r0, r1, r2, r3, r4, r5, t0, t1, t2, t3, t4, t5⟩ := hSw
                    go_simp
                    try exact rfl
                  simp only [Act.put, List.setIfInBounds_toArray, List.set_cons_zero, List.set_cons_succ]
                  refine wpTail_take (i := 7) (oi := ?oi7) (v := ?v7) ?hi7 (by kernel_rfl) (by kernel_rfl) (by kernel_rfl) (by kernel_rfl) ?hQ7 (Or.inl ⟨?hw7, ?hy7⟩) hS0 ?rest7
                  case hi7 => (simp only [List.getElem?_toArray, List.getElem?_cons_zero, List.getElem?_cons_succ]; rfl)
                  case hQ7 => exact fun _ _ _ h => h
                  case hw7 => rfl
                  case hy7 =>
                    intro w' hSw
                    obtain ⟨r0, r1, r2, r3, r4, r5, t0, t1, t2, t3, t4, t5⟩ := hSw
                    go_simp
                    try exact rfl
                  simp only [Act.put, List.setIfInBounds_toArray, List.set_cons_zero, List.set_cons_succ]
                  refine wpTail_take (i := 8) (oi := ?oi8) (v := ?v8) ?hi8 (by kernel_rfl) (by kernel_rfl) (by kernel_rfl) (by kernel_rfl) ?hQ8 (Or.inl ⟨?hw8, ?hy8⟩) hS0 ?rest8
                  case hi8 => (simp only [List.getElem?_toArray, List.getElem?_cons_zero, List.getElem?_cons_succ]; rfl)
                  case hQ8 => exact fun _ _ _ h => h
                  case hw8 => rfl
                  case hy8 =>
                    intro w' hSw
                    obtain ⟨r0, r1, r2, r3, r4, r5, t0, t1, t2, t3, t4, t5⟩ := hSw
                    go_simp
                    try exact rfl
                  simp only [Act.put, List.setIfInBounds_toArray, List.set_cons_zero, List.set_cons_succ]
                  refine wpTail_take (i := 10) (oi := ?oi10) (v := ?v10) ?hi10 (by kernel_rfl) (by kernel_rfl) (by kernel_rfl) (by kernel_rfl) ?hQ10 (Or.inl ⟨?hw10, ?hy10⟩) hS0 ?rest10
                  case hi10 => (simp only [List.getElem?_toArray, List.getElem?_cons_zero, List.getElem?_cons_succ]; rfl)
                  case hQ10 => exact fun _ _ _ h => h
                  case hw10 => rfl
                  case hy10 =>
                    intro w' hSw
                    obtain ⟨r0, r1, r2, r3, r4, r5, t0, t1, t2, t3, t4, t5⟩ := hSw
                    go_simp
                    try exact rfl
                  simp only [Act.put, List.setIfInBounds_toArray, List.set_cons_zero, List.set_cons_succ]
                  refine wpTail_take (i := 11) (oi := ?oi11) (v := ?v11) ?hi11 (by kernel_rfl) (by kernel_rfl) (by kernel_rfl) (by kernel_rfl) ?hQ11 (Or.inl ⟨?hw11, ?hy11⟩) hS0 ?rest11
                  case hi11 => (simp only [List.getElem?_toArray, List.getElem?_cons_zero, List.getElem?_cons_succ]; rfl)
                  case hQ11 => exact fun _ _ _ h => h
                  case hw11 => rfl
                  case hy11 =>
                    intro w' hSw
                    obtain ⟨r0, r1, r2, r3, r4, r5, t0, t1, t2, t3, t4, t5⟩ := hSw
                    go_simp
                    try exact rfl
                  simp only [Act.put, List.setIfInBounds_toArray, List.set_cons_zero, List.set_cons_succ]
                  refine wpTail_take (i := 12) (oi := ?oi12) (v := ?v12) ?hi12 (by kernel_rfl) (by kernel_rfl) (by kernel_rfl) (by kernel_rfl) ?hQ12 (Or.inl ⟨?hw12, ?hy12⟩) hS0 ?rest12
                  case hi12 => (simp only [List.getElem?_toArray, List.getElem?_cons_zero, List.getElem?_cons_succ]; rfl)
                  case hQ12 => exact fun _ _ _ h => h
                  case hw12 => rfl
                  case hy12 =>
                    intro w' hSw
                    obtain ⟨r0, r1, r2, r3, r4, r5, t0, t1, t2, t3, t4, t5⟩ := hSw
                    go_simp
                    try exact rfl
                  simp only [Act.put, List.setIfInBounds_toArray, List.set_cons_zero, List.set_cons_succ]
                  refine wpTail_take (i := 13) (oi := ?oi13) (v := ?v13) ?hi13 (by kernel_rfl) (by kernel_rfl) (by kernel_rfl) (by kernel_rfl) ?hQ13 (Or.inl ⟨?hw13, ?hy13⟩) hS0 ?rest13
                  case hi13 => (simp only [List.getElem?_toArray, List.getElem?_cons_zero, List.getElem?_cons_succ]; rfl)
                  case hQ13 => exact fun _ _ _ h => h
                  case hw13 => rfl
                  case hy13 =>
                    intro w' hSw
                    obtain ⟨r0, r1, r2, r3, r4, r5, t0, t1, t2, t3, t4, t5⟩ := hSw
                    go_simp
                    try exact rfl
                  simp only [Act.put, List.setIfInBounds_toArray, List.set_cons_zero, List.set_cons_succ]
                  refine wpTail_one (i := 4) (o := ?o4) (by kernel_rfl) ?ho4 ?hk4
                  case ho4 => (simp only [List.getElem?_toArray, List.getElem?_cons_zero, List.getElem?_cons_succ]; rfl)
                  intro K hK
                  go_simp
                  refine (plus_any _ _ _ _ _ HNr.out.1 HNr.out.2.1).mono ?_
                  rintro r W10 ⟨rfl, hb4⟩
                  have H10 : Hid (RI w W10 G w1.heap.size tl (su.1.set j z', su.2) ∧ Has W10 q 29 (smc s')) := ⟨H9d.out.1.below hb4, H9d.out.2.below hb4 H9d.out.2.lt⟩
                  try (go_wp2_with fail)
                  refine hK.out _ _ (fun _ => s18 H10.out.1.s H10.out.2) ?_
                  clear hK K hb4
                  try simp only [Act.put, List.setIfInBounds_toArray, List.set_cons_zero, List.set_cons_succ]
                  refine wpTail_one (i := 9) (o := ?o9) (by kernel_rfl) ?ho9 ?hk9
                  case ho9 => (simp only [List.getElem?_toArray, List.getElem?_cons_zero, List.getElem?_cons_succ]; rfl)
                  intro K hK
                  go_simp
                  refine (plus_any _ _ _ _ _ HNr.out.2.2.1 HNr.out.2.2.2.1).mono ?_
                  rintro r W11 ⟨rfl, hb9⟩
                  have H11 : Hid (RI w W11 G w1.heap.size tl (su.1.set j z', su.2) ∧ Has W11 q 29 (smc s')) := ⟨H10.out.1.below hb9, H10.out.2.below hb9 H10.out.2.lt⟩
                  try (go_wp2_with fail)
                  refine hK.out _ _ (fun _ => s18 H11.out.1.s H11.out.2) ?_
                  clear hK K hb9
                  try simp only [Act.put, List.setIfInBounds_toArray, List.set_cons_zero, List.set_cons_succ]
                  refine wpTail_one (i := 14) (o := ?o14) (by kernel_rfl) ?ho14 ?hk14
                  case ho14 => (simp only [List.getElem?_toArray, List.getElem?_cons_zero, List.getElem?_cons_succ]; rfl)
                  intro K hK
                  go_simp
                  refine (plus_any _ _ _ _ _ HNr.out.2.2.2.2.1 HNr.out.2.2.2.2.2).mono ?_
                  rintro r W12 ⟨rfl, hb14⟩
                  have H12 : Hid (RI w W12 G w1.heap.size tl (su.1.set j z', su.2) ∧ Has W12 q 29 (smc s')) := ⟨H11.out.1.below hb14, H11.out.2.below hb14 H11.out.2.lt⟩
                  try (go_wp2_with fail)
                  refine hK.out _ _ (fun _ => s18 H12.out.1.s H12.out.2) ?_
                  clear hK K hb14
                  try simp only [Act.put, List.setIfInBounds_toArray, List.set_cons_zero, List.set_cons_succ]
                  refine wpTail_take (i := 15) (oi := ?oi15) (v := ?v15) ?hi15 (by kernel_rfl) (by kernel_rfl) (by kernel_rfl) (by kernel_rfl) ?hQ15 (Or.inl ⟨?hw15, ?hy15⟩) (s18 H12.out.1.s H12.out.2) ?rest15
                  case hi15 => (simp only [List.getElem?_toArray, List.getElem?_cons_zero, List.getElem?_cons_succ]; rfl)
                  case hQ15 => exact fun _ _ _ h => h
                  case hw15 => rfl
                  case hy15 =>
                    intro w' hSw
                    obtain ⟨r0, r1, r2, r3, r4, r5, t0, t1, t2, t3, t4, t5⟩ := hSw
                    go_simp
                    try exact rfl
                  simp only [Act.put, List.setIfInBounds_toArray, List.set_cons_zero, List.set_cons_succ]
                  have sc0 : W12.cell? ⟨w1.heap.size, 0, none⟩ = some (iv su.2.f1) := H12.out.1.s.cell 0
                  have sf0 := H12.out.1.s.frozen 0
                  have sc1 : W12.cell? ⟨w1.heap.size, 1, none⟩ = some (iv su.2.f2) := H12.out.1.s.cell 1
                  have sf1 := H12.out.1.s.frozen 1
                  have sc2 : W12.cell? ⟨w1.heap.size, 2, none⟩ = some (iv su.2.p1) := H12.out.1.s.cell 2
                  have sf2 := H12.out.1.s.frozen 2
                  have sc3 : W12.cell? ⟨w1.heap.size, 3, none⟩ = some (iv su.2.p2) := H12.out.1.s.cell 3
                  have sf3 := H12.out.1.s.frozen 3
                  have sc4 : W12.cell? ⟨w1.heap.size, 4, none⟩ = some (iv su.2.w1) := H12.out.1.s.cell 4
                  have sf4 := H12.out.1.s.frozen 4
                  have sc5 : W12.cell? ⟨w1.heap.size, 5, none⟩ = some (iv su.2.w2) := H12.out.1.s.cell 5
                  have sf5 := H12.out.1.s.frozen 5
                  have slt := H12.out.1.s.lt
                  have HF := Lib.hid (H12.out.1.setS (su.2.add s') (by omega) hG1)
                  refine wpTail_one (i := 16) (o := ?o16) (by kernel_rfl) ?ho16 ?hk16
                  case ho16 => (simp only [List.getElem?_toArray, List.getElem?_cons_zero, List.getElem?_cons_succ]; rfl)
                  intro K hK
                  go_simp
                  refine hK.out _ _ (fun h => absurd rfl h) ?_
                  clear hK K
                  refine wpTail_done (by kernel_rfl) ?_ _
                  try simp only [Act.put, List.setIfInBounds_toArray, List.set_cons_zero, List.set_cons_succ]
                  clear sc0 sc1 sc2 sc3 sc4 sc5 sf0 sf1 sf2 sf3 sf4 sf5 slt
                  go_wp2_with fail
                  go_roundw
                  case rel =>
                    obtain ⟨i1, i2, i3, i4⟩ := HSS.out
                    rw [i4] at i1 i2 i3
                    have hlp := HLP.out
                    simp only [if_true] at hlp
                    rw [i4] at hlp
                    refine ⟨j + 1, (su.1.set j z', su.2.add s'), ?_⟩
                    exact ⟨by omega, by omega, by go_num, HF.out, i1, i2, by rw [show (480000 : Int) * k + 20000 * (((j + 1 : Nat) : Int) - f) = 480000 * k + 20000 * ((j : Int) - f) + 20000 by omega]; exact i3, hlp⟩
                  case measure => simp [intOf]; omega
                · have hR : Hid (playR zs es = ⟨[], Sm.zero, k, er⟩) := by
                    show _ = _
                    have hev : (evDo es[k] st).2 = er := by rw [← HE0.out, HV2.out, HLP.out, if_neg h0]
                    simp only [playR, HRk.out]
                    rw [if_neg (by simp), if_neg (by omega), HS.out.2.2.2, playL_step hlt, hev, if_neg h0]
                    simp only
                    rw [if_neg h0]
                  have hqn : (er != 0) = true := by simpa using h0
                  have H0 := Lib.hid h0
                  have c0 : wc.cell? ⟨w.heap.size, 0, none⟩ = some (iv 0) := HRI.out.r.cell 0
                  have f0 := HRI.out.r.frozen 0
                  have c1 : wc.cell? ⟨w.heap.size, 1, none⟩ = some (iv 0) := HRI.out.r.cell 1
                  have f1 := HRI.out.r.frozen 1
                  have c2 : wc.cell? ⟨w.heap.size, 2, none⟩ = some (iv 0) := HRI.out.r.cell 2
                  have f2 := HRI.out.r.frozen 2
                  have c3 : wc.cell? ⟨w.heap.size, 3, none⟩ = some (iv 0) := HRI.out.r.cell 3
                  have f3 := HRI.out.r.frozen 3
                  have c4 : wc.cell? ⟨w.heap.size, 4, none⟩ = some (iv 0) := HRI.out.r.cell 4
                  have f4 := HRI.out.r.frozen 4
                  have c5 : wc.cell? ⟨w.heap.size, 5, none⟩ = some (iv 0) := HRI.out.r.cell 5
                  have f5 := HRI.out.r.frozen 5
                  have hrl := HRI.out.r.lt
                  clear h0
                  go_wp2_with fail
                  refine bodyPost_ret (v := .tuple #[.slice none 0 0, smv Sm.zero, iv k, iv er]) (by simp [results, Try.results41, go_sem, c0, c1, c2, c3, c4, c5]) rfl ?_
                  rw [hR.out]
                  exact rPost_bad (R := ⟨[], Sm.zero, k, er⟩) H0.out (six_below HRI.out.b _ _ _ _ _ _)
            · have HEnd : Hid (evDo es[k] st = (su, 0)) := by
                show _ = _
                rw [← HE0.out, HV2.out, HQ.out.2.2.2.2, show l + 1 - j = 0 by omega]
                rfl
              have HI3 : Hid ((evDo es[k] st).1.1.length = st.1.length ∧ (∀ z ∈ (evDo es[k] st).1.1, z.ok = true) ∧ (evDo es[k] st).1.2.Bd (480000 * k + 480000)) :=
                evDo_inv (by rw [HS.out.1]; exact hzl) HS.out.2.1 HS.out.2.2.1 (by rw [HEnd.out])
              go_wp2_with fail
              go_roundw
              case rel =>
                obtain ⟨i1, i2, i3⟩ := HI3.out
                rw [HEnd.out] at i1 i2 i3
                have hst := playL_step (st := st) hlt
                rw [HEnd.out, if_pos rfl] at hst
                refine ⟨k + 1, su, ?_⟩
                exact ⟨by omega, by go_num, HQ.out.1, HQ.out.2.1, i2, by rw [show (480000 : Int) * ((k + 1 : Nat) : Int) = 480000 * k + 480000 by omega]; exact i3, HS.out.2.2.2.trans hst⟩
              case measure => simp [intOf]; omega
    · have hR : Hid (playR zs es = ⟨st.1, st.2, es.length, 0⟩) := by
        show _ = _
        have hE := HE.out.2.2.2.2
        rw [show es.drop k = [] from List.drop_eq_nil_of_le (by omega)] at hE
        simp only [playR, HRk.out]
        rw [if_neg (by simp), if_neg (by omega), hE]
        simp [playL]
      have c0 : wr.cell? ⟨w.heap.size, 0, none⟩ = some (iv 0) := HE.out.1.r.cell 0
      have f0 := HE.out.1.r.frozen 0
      have c1 : wr.cell? ⟨w.heap.size, 1, none⟩ = some (iv 0) := HE.out.1.r.cell 1
      have f1 := HE.out.1.r.frozen 1
      have c2 : wr.cell? ⟨w.heap.size, 2, none⟩ = some (iv 0) := HE.out.1.r.cell 2
      have f2 := HE.out.1.r.frozen 2
      have c3 : wr.cell? ⟨w.heap.size, 3, none⟩ = some (iv 0) := HE.out.1.r.cell 3
      have f3 := HE.out.1.r.frozen 3
      have c4 : wr.cell? ⟨w.heap.size, 4, none⟩ = some (iv 0) := HE.out.1.r.cell 4
      have f4 := HE.out.1.r.frozen 4
      have c5 : wr.cell? ⟨w.heap.size, 5, none⟩ = some (iv 0) := HE.out.1.r.cell 5
      have f5 := HE.out.1.r.frozen 5
      have sc0 : wr.cell? ⟨w1.heap.size, 0, none⟩ = some (iv st.2.f1) := HE.out.1.s.cell 0
      have sc1 : wr.cell? ⟨w1.heap.size, 1, none⟩ = some (iv st.2.f2) := HE.out.1.s.cell 1
      have sc2 : wr.cell? ⟨w1.heap.size, 2, none⟩ = some (iv st.2.p1) := HE.out.1.s.cell 2
      have sc3 : wr.cell? ⟨w1.heap.size, 3, none⟩ = some (iv st.2.p2) := HE.out.1.s.cell 3
      have sc4 : wr.cell? ⟨w1.heap.size, 4, none⟩ = some (iv st.2.w1) := HE.out.1.s.cell 4
      have sc5 : wr.cell? ⟨w1.heap.size, 5, none⟩ = some (iv st.2.w2) := HE.out.1.s.cell 5
      go_wp2_with fail
      go_region
      all_goals
        go_wp2_with fail
        refine bodyPost_ret (v := .tuple #[.slice (some ⟨G, 0, none⟩) zs.length capG, smv st.2, iv es.length, iv 0]) (by simp [results, Try.results41, go_sem, c0, c1, c2, c3, c4, c5]) rfl ?_
        rw [hR.out]
        have hne : G ≠ w.heap.size := by omega
        refine ⟨_, rfl, (six_below HE.out.1.b _ _ _ _ _ _).drew, .inr ⟨rfl, G, capG, tl, by omega, ?_, ?_⟩⟩
        · simp only; rw [HE.out.2.1]
        · exact ((((((HE.out.1.z.far (p := ⟨w.heap.size, 0, none⟩) hne _).far (p := ⟨w.heap.size, 1, none⟩) hne _).far (p := ⟨w.heap.size, 2, none⟩) hne _).far (p := ⟨w.heap.size, 3, none⟩) hne _).far (p := ⟨w.heap.size, 4, none⟩) hne _).far (p := ⟨w.heap.size, 5, none⟩) hne _).drew
end Go.Proofs.Ytogabjlhecnbbaa
