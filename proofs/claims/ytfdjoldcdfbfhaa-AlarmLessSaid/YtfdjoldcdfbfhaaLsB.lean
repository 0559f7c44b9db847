/- The law of Less: its walk. -/
import Derived.Test.YtfdjoldcdfbfhaaLsT
namespace Go.Proofs.Ytfdjoldcdfbfhaa
open Go.Shelf Go.RowKit
theorem neq38 (a b c d : Int) (w : World) : (binOp .neq 38 (.agg #[.int .i64 a, .int .i64 b]) (.agg #[.int .i64 c, .int .i64 d])).run Try.prog w = .ok (.bool (!decide (a = c ∧ b = d))) w := by
  rw [run_neq_struct, equal38 9998]; rfl
set_option maxRecDepth 100000 in
set_option maxHeartbeats 40000000 in
theorem lessLaw_any (l : List Sn) (A : Option Addr) (cap : Nat) (V F t limit rise calm frm tll n7 n8 : Int) (W : World) (hr : NRow W W.heap.size A l) (hl : l.length ≤ 9223372036854775807) (b7 : 0 ≤ n7 ∧ n7 ≤ 255) (b8 : 0 ≤ n8 ∧ n8 ≤ 255) :
    Calls Try.prog 11 #[vtv A l.length cap V F, .int .i64 t, .int .i64 limit, .int .i64 rise, .int .i64 calm, .int .i64 frm, .int .i64 tll, .int .u8 n7, .int .u8 n8] W (BoolPost true W) := by
  have HS := Lib.hid (show Lb W (W.alloc (.cells #[.slice A l.length cap, .int .i64 V, .int .i64 F] 24)) #[.slice A l.length cap, .int .i64 V, .int .i64 F] from ⟨below_one _ _, Has.new _ _ _⟩)
  have HR := Lib.hid hr
  clear hr
  unfold vtv
  by_cases hx : 20 < l.length ∨ (60 < tll ∧ tll ≤ 2000)
  · have hex : ((20 : Int) < l.length) ∨ (¬ (20 : Int) < l.length ∧ (60 < tll ∧ tll ≤ 2000)) := by omega
    clear hx
    rcases hex with h1 | ⟨h1, h2, h3⟩
    all_goals
      go_enter Try.func11, Try.ntmps11
      go_wp2_with fail
      generalize (W.alloc (.cells #[.slice A l.length cap, .int .i64 V, .int .i64 F] 24)) = w0 at HS ⊢
      refine (alive_any _).mono ?_
      rintro e wb ⟨rfl, hb⟩
      have HF := Lib.hid (HS.out.below hb)
      clear hb
      go_wp2_with fail
      go_ret
      exact ⟨rfl, HF.out.b⟩
  have hex : (¬ (20 : Int) < l.length ∧ ¬ 60 < tll) ∨ (¬ (20 : Int) < l.length ∧ 60 < tll ∧ ¬ tll ≤ 2000) := by omega
  have HWo := Lib.hid (fun (V F t rise : Int) w h => Worst_any l A cap V F t rise frm tll w h hl)
  have HRV := Lib.hid (fun w h => refVoting_any l A cap V F w h hl)
  have HEX := Lib.hid hex
  clear hex hx
  unfold vtv at HWo HRV
  have hwc := worst_cases l V F t rise frm tll
  have hlf := fun (a b : Int) (h : worstR l V F t rise frm tll = (a, b, 0)) => less_facts (a := a) (b := b) h n7 n8 b7.1 b8.1
  have C1 := Lib.hid (HWo.out V F t rise)
  obtain ⟨X, hX⟩ : ∃ X, X = worstR l V F t rise frm tll := ⟨_, rfl⟩
  rw [← hX] at C1 hwc hlf
  have HL := Lib.hid hlf
  clear hlf hX
  have HWC := Lib.hid hwc
  clear hwc
  go_enter Try.func11, Try.ntmps11
  go_upto_region 1 with fail
  generalize (W.alloc (.cells #[.slice A l.length cap, .int .i64 V, .int .i64 F] 24)) = w00 at HS ⊢
  have l0 : w00.cell? ⟨W.heap.size, 0, none⟩ = some (.slice A l.length cap) := HS.out.v.cell 0
  go_cut [52] (fun b wx => b = .bool false ∧ Hid (Lb W wx #[.slice A l.length cap, .int .i64 V, .int .i64 F]))
  case first =>
    rcases HEX.out with ⟨h1, h2⟩ | ⟨h1, h2, h3⟩
    all_goals
      go_wp2_with fail
      go_meet
      exact ⟨rfl, HS⟩
  case rest =>
    obtain ⟨rfl, HS0⟩ := hcut
    have h20 : (l.length : Int) ≤ 20 := by rcases HEX.out with ⟨h, -⟩ | ⟨h, -, -⟩ <;> omega
    clear l0 HS
    have HS := Lib.hid HS0.out
    clear HS0
    generalize wc = w0 at HS ⊢
    have l0 : w0.cell? ⟨W.heap.size, 0, none⟩ = some (.slice A l.length cap) := HS.out.v.cell 0
    have l1 : w0.cell? ⟨W.heap.size, 1, none⟩ = some (.int .i64 V) := HS.out.v.cell 1
    have l2 : w0.cell? ⟨W.heap.size, 2, none⟩ = some (.int .i64 F) := HS.out.v.cell 2
    go_wp2_with fail
    clear l0 l1 l2
    refine (C1.out _ (HR.out.step HS.out.b)).mono ?_
    rintro e w1 ⟨rfl, hb1⟩
    have H1 := Lib.hid (HS.out.below hb1)
    have l0 : w1.cell? ⟨W.heap.size, 0, none⟩ = some (.slice A l.length cap) := H1.out.v.cell 0
    have l1 : w1.cell? ⟨W.heap.size, 1, none⟩ = some (.int .i64 V) := H1.out.v.cell 1
    have l2 : w1.cell? ⟨W.heap.size, 2, none⟩ = some (.int .i64 F) := H1.out.v.cell 2
    clear hb1
    go_upto_if 65 with (fail)
    go_cut [] (fun wx => Hid (Lb W wx #[.slice A l.length cap, .int .i64 V, .int .i64 F]))
    case first =>
      as_aux_lemma =>
        rcases HWC.out with ⟨a, b, rfl⟩ | ⟨e, rfl, he⟩
        · obtain ⟨hv, ⟨k1, k2⟩, hF, hri, k, hk, htm, hrr, ⟨a1, c1, e1, p1⟩, ⟨a2, c2, e2, p2⟩, ⟨a3, c3, e3, p3⟩⟩ := HL.out a b rfl
          rw [hv] at HRV
          have D1 := Lib.hid (fun w h => by have := HWo.out V (max 0 (F - 1)) t rise w h; rwa [e1] at this)
          have D3 := Lib.hid (fun w h => by have := HWo.out V F t (max 0 (rise - n8)) w h; rwa [e3] at this)
          have HE := Lib.hid (And.intro e2 trivial)
          have HP := Lib.hid (And.intro p1 (And.intro p2 p3))
          have HK := Lib.hid (And.intro htm (And.intro hrr (And.intro hF hri)))
          clear hv e1 e2 e3 p1 p2 p3 htm hrr hF hri
          go_wp2_with fail
          refine (HRV.out _ (HR.out.step H1.out.b)).mono ?_
          rintro e w2 ⟨rfl, hb2⟩
          have H2 := Lib.hid (H1.out.below hb2)
          clear hb2 l0 l1 l2
          have l0 : w2.cell? ⟨W.heap.size, 0, none⟩ = some (.slice A l.length cap) := H2.out.v.cell 0
          have l1 : w2.cell? ⟨W.heap.size, 1, none⟩ = some (.int .i64 V) := H2.out.v.cell 1
          have l2 : w2.cell? ⟨W.heap.size, 2, none⟩ = some (.int .i64 F) := H2.out.v.cell 2
          dsimp only
          go_wp2_with fail
          go_cut [22, 23] (fun p q wx => ∃ x y, p = .pointer (some ⟨x, 0, none⟩) ∧ q = .pointer (some ⟨y, 0, none⟩) ∧ Hid (Tw w2 wx x y #[.slice A l.length cap, .int .i64 V, .int .i64 F]))
          case first =>
            have hgl := H2.out.v.lt
            go_region_held3 (fun w' => w'.cell? ⟨W.heap.size, 0, none⟩ = some (.slice A l.length cap) ∧ w'.cell? ⟨W.heap.size, 1, none⟩ = some (.int .i64 V) ∧ w'.cell? ⟨W.heap.size, 2, none⟩ = some (.int .i64 F)) (first | exact ⟨l0, l1, l2⟩ | go_keep) (fail)
            all_goals (try go_wp2_with fail)
            all_goals go_meet
            all_goals first
              | with_reducible exact ⟨_, _, rfl, rfl, Lib.hid (tw1 _ _)⟩
              | with_reducible exact ⟨_, _, rfl, rfl, Lib.hid (tw2 _ _)⟩
          case rest =>
            as_aux_lemma =>
              obtain ⟨x, y, rfl, rfl, HT⟩ := hcut
              have H3 := Lib.hid (And.intro (H2.out.below HT.out.b) (And.intro HT.out.h (And.intro HT.out.k HT.out.n)))
              have H3n := Lib.hid (And.intro (Nat.lt_of_lt_of_le H2.out.v.lt HT.out.hx) (And.intro (Nat.lt_of_lt_of_le H2.out.v.lt HT.out.hy) (And.intro HT.out.hx HT.out.hy)))
              clear HT l0 l1 l2
              have l0 : wc.cell? ⟨W.heap.size, 0, none⟩ = some (.slice A l.length cap) := H3.out.1.v.cell 0
              have l2 : wc.cell? ⟨W.heap.size, 2, none⟩ = some (.int .i64 F) := H3.out.1.v.cell 2
              have x2 : wc.cell? ⟨x, 2, none⟩ = some (.int .i64 F) := H3.out.2.1.cell 2
              have xl := H3.out.2.1.lt
              have xf := fun i => H3.out.2.1.frozen i
              have hFb := HK.out.2.2.1
              go_upto_region 9 with fail
              have H4 := Lib.hid (show Lb W (wc.setCell ⟨x, 2, none⟩ (.int .i64 (max 0 (F - 1)))) #[.slice A l.length cap, .int .i64 V, .int .i64 F] ∧ Has (wc.setCell ⟨x, 2, none⟩ (.int .i64 (max 0 (F - 1)))) x 24 #[.slice A l.length cap, .int .i64 V, .int .i64 (max 0 (F - 1))] ∧ Has (wc.setCell ⟨x, 2, none⟩ (.int .i64 (max 0 (F - 1)))) y 24 #[.slice A l.length cap, .int .i64 V, .int .i64 F] from
                ⟨⟨H3.out.1.b.setCell (by have := H3n.out.1; simp only; omega) _, H3.out.1.v.far (by have := H3n.out.1; simp only; omega) _⟩, H3.out.2.1.set 2 _, H3.out.2.2.1.far (by have := H3.out.2.2.2; simp only; omega) _⟩)
              have hxy := H3.out.2.2.2
              clear H3 l0 l2 x2 xl xf hFb
              generalize wc.setCell ⟨x, 2, none⟩ (.int .i64 (max 0 (F - 1))) = w4 at H4 ⊢
              obtain ⟨i0, hi, hz0, hz1, hz2⟩ := info_parts Try.info56
              obtain ⟨g, o, hA, hg, -⟩ := HR.out 0 (by omega)
              have hm := Lib.hid (own_made w4 56 3)
              have l0 : w4.cell? ⟨W.heap.size, 0, none⟩ = some (.slice A l.length cap) := H4.out.1.v.cell 0
              have y0 : w4.cell? ⟨y, 0, none⟩ = some (.slice A l.length cap) := H4.out.2.2.cell 0
              have HY := Lib.hid (And.intro y0 (And.intro H4.out.2.2.lt (H4.out.2.2.frozen 0)))
              have lw := H4.out.1.v.lt
              clear y0
              subst hA
              go_wp2_with (at_builtin; refine wpList_append_lies _ rfl _ _ 22 rfl w4.heap.size 56 i0 (.agg #[.int .i64 0, .int .i64 0, .int .i64 0]) 3 24 Try.underlying22 hi hz0 hz1 hz2 rfl (by decide) (.slice (some ⟨w4.heap.size, 0, none⟩) 0 0) 0 [] rfl hm.out ⟨g, o, none⟩ l.length cap (snl l) rfl ?q1 ?q2 ?q3 ?q4 ?q5 ?q6 ?q7 _ rfl ?_)
              case q1 => exact snl_len l
              case q2 => exact nrow_cells ((HR.out.step H4.out.1.b).below (below_one w4 _)) _ rfl
              case q3 => exact snl_one l
              case q4 => omega
              case q5 => unfold maxLen; omega
              case q6 => omega
              case q7 => simp
              rintro g1 cap1 w5 hown hgr hgg hlt
              obtain ⟨cur, hb5, hg1, hc1, hcur⟩ := grown_copy hown hgr hgg
              clear hown hgr hgg hlt
              have HC := Lib.hid (And.intro hcur (And.intro hg1 hc1))
              have H5 := Lib.hid (And.intro (H4.out.1.below hb5) (And.intro (H4.out.2.1.below hb5 H4.out.2.1.lt) (H4.out.2.2.below hb5 H4.out.2.2.lt)))
              have HN5 := Lib.hid (And.intro H4.out.1.v.lt (And.intro H4.out.2.1.lt H4.out.2.2.lt))
              clear hcur hg1 hc1 hb5 l0 lw hm hi hz0 hz1 hz2
              have y0 : w5.cell? ⟨y, 0, none⟩ = some (.slice (some ⟨g, o, none⟩) l.length cap) := H5.out.2.2.cell 0
              have yf := H5.out.2.2.frozen 0
              have yl := H5.out.2.2.lt
              have htm := HK.out.1
              have hlz : ¬ (l.length : Int) = 0 := by omega
              have hln : ¬ l = [] := by rintro rfl; simp at hk
              go_upto_region 10 with fail
              have H6 := Lib.hid (show Lb W (w5.setCell ⟨y, 0, none⟩ (.slice (some ⟨g1, 0, none⟩) l.length cap1)) #[.slice (some ⟨g, o, none⟩) l.length cap, .int .i64 V, .int .i64 F] ∧ Has (w5.setCell ⟨y, 0, none⟩ (.slice (some ⟨g1, 0, none⟩) l.length cap1)) x 24 #[.slice (some ⟨g, o, none⟩) l.length cap, .int .i64 V, .int .i64 (max 0 (F - 1))] ∧ Has (w5.setCell ⟨y, 0, none⟩ (.slice (some ⟨g1, 0, none⟩) l.length cap1)) y 24 #[.slice (some ⟨g1, 0, none⟩) l.length cap1, .int .i64 V, .int .i64 F] ∧ Has (w5.setCell ⟨y, 0, none⟩ (.slice (some ⟨g1, 0, none⟩) l.length cap1)) g1 56 cur from
                ⟨⟨H5.out.1.b.setCell (by have := H3n.out.2.1; simp only; omega) _, H5.out.1.v.far (by have := H3n.out.2.1; simp only; omega) _⟩, H5.out.2.1.far (by simp only; omega) _, H5.out.2.2.set 0 _, HC.out.2.2.far (by have := HN5.out.2.2; have := HC.out.2.1; simp only; omega) _⟩)
              clear y0 yf yl HY H5 H4
              generalize w5.setCell ⟨y, 0, none⟩ (.slice (some ⟨g1, 0, none⟩) l.length cap1) = w6 at H6 ⊢
              have l0 : w6.cell? ⟨W.heap.size, 0, none⟩ = some (.slice (some ⟨g, o, none⟩) l.length cap) := H6.out.1.v.cell 0
              have y0 : w6.cell? ⟨y, 0, none⟩ = some (.slice (some ⟨g1, 0, none⟩) l.length cap1) := H6.out.2.2.1.cell 0
              have D2 := Lib.hid (fun (w : World) (hw : NRow w w.heap.size (some ⟨g1, 0, none⟩) (l.set k ⟨l[k].f, l[k].e, max 0 (l[k].r - n8)⟩)) => by have := Worst_any (l.set k ⟨l[k].f, l[k].e, max 0 (l[k].r - n8)⟩) (some ⟨g1, 0, none⟩) cap1 V F t rise frm tll w hw (by simpa using hl); rwa [HE.out.1, List.length_set] at this)
              have HNR := Lib.hid (fun w (h : Has w g1 56 (cur.setIfInBounds (k * 3 + 2) (.int .i64 (max 0 (l[k].r - n8))))) => nrow_set HC.out.1 hk h)
              obtain ⟨r, hr⟩ : ∃ r, r = l[k].r := ⟨_, rfl⟩
              have c2 : w6.cell? ⟨g1, k * 3 + 2, none⟩ = some (.int .i64 l[k].r) := by rw [H6.out.2.2.2.cell, cur_cell HC.out.1 hk (by omega)]; rfl
              have hrb := HK.out.2.1
              rw [← hr] at D2 HNR c2 hrb
              have gl := H6.out.2.2.2.lt
              have gf := H6.out.2.2.2.frozen (k * 3 + 2)
              unfold vtv at D2
              clear hr HE
              go_upto_region 11 with fail
              clear l0 htm
              refine still_tail 13 (by kernel_rfl) (by kernel_rfl) ?_
              simp only [List.take_succ_cons, List.take_zero, List.drop_succ_cons, List.drop_zero]
              repeat still_step
              refine wpStill_nil ?_
              go_upto_region 12 with fail
              have H7 := Lib.hid (show Lb W ((w6.setCell ⟨g1, k * 3 + 2, none⟩ (.int .i64 (max 0 (r - n8)))).drew) #[.slice (some ⟨g, o, none⟩) l.length cap, .int .i64 V, .int .i64 F] ∧ Has ((w6.setCell ⟨g1, k * 3 + 2, none⟩ (.int .i64 (max 0 (r - n8)))).drew) x 24 #[.slice (some ⟨g, o, none⟩) l.length cap, .int .i64 V, .int .i64 (max 0 (F - 1))] ∧ Has ((w6.setCell ⟨g1, k * 3 + 2, none⟩ (.int .i64 (max 0 (r - n8)))).drew) y 24 #[.slice (some ⟨g1, 0, none⟩) l.length cap1, .int .i64 V, .int .i64 F] ∧ Has ((w6.setCell ⟨g1, k * 3 + 2, none⟩ (.int .i64 (max 0 (r - n8)))).drew) g1 56 (cur.setIfInBounds (k * 3 + 2) (.int .i64 (max 0 (r - n8)))) from
                ⟨⟨below_dr (H6.out.1.b.setCell (by have := HN5.out.1; have := HC.out.2.1; simp only; omega) _), (H6.out.1.v.far (by have := HN5.out.1; have := HC.out.2.1; simp only; omega) _).drew⟩, (H6.out.2.1.far (by have := HN5.out.2.1; have := HC.out.2.1; simp only; omega) _).drew, (H6.out.2.2.1.far (by have := HN5.out.2.2; have := HC.out.2.1; simp only; omega) _).drew, (H6.out.2.2.2.set (k * 3 + 2) _).drew⟩)
              clear H6 y0 c2 gl gf hrb hlz hln
              generalize (w6.setCell ⟨g1, k * 3 + 2, none⟩ (.int .i64 (max 0 (r - n8)))).drew = w7 at H7 ⊢
              have x0 : w7.cell? ⟨x, 0, none⟩ = some (.slice (some ⟨g, o, none⟩) l.length cap) := H7.out.2.1.cell 0
              have x1 : w7.cell? ⟨x, 1, none⟩ = some (.int .i64 V) := H7.out.2.1.cell 1
              have x2 : w7.cell? ⟨x, 2, none⟩ = some (.int .i64 (max 0 (F - 1))) := H7.out.2.1.cell 2
              go_wp2_with fail
              refine (D1.out _ (HR.out.step H7.out.1.b)).mono ?_
              rintro e1 w8 ⟨rfl, hb⟩
              dsimp only
              have H8 := Lib.hid (And.intro (H7.out.1.below hb) (And.intro (H7.out.2.2.1.below hb H7.out.2.2.1.lt) (H7.out.2.2.2.below hb H7.out.2.2.2.lt)))
              clear hb x0 x1 x2 H7
              have y0 : w8.cell? ⟨y, 0, none⟩ = some (.slice (some ⟨g1, 0, none⟩) l.length cap1) := H8.out.2.1.cell 0
              have y1 : w8.cell? ⟨y, 1, none⟩ = some (.int .i64 V) := H8.out.2.1.cell 1
              have y2 : w8.cell? ⟨y, 2, none⟩ = some (.int .i64 F) := H8.out.2.1.cell 2
              go_wp2_with fail
              refine (D2.out _ (HNR.out _ H8.out.2.2)).mono ?_
              rintro e1 w9 ⟨rfl, hb⟩
              dsimp only
              have H9 := Lib.hid (H8.out.1.below hb)
              clear hb y0 y1 y2 H8
              have l0 : w9.cell? ⟨W.heap.size, 0, none⟩ = some (.slice (some ⟨g, o, none⟩) l.length cap) := H9.out.v.cell 0
              have l1 : w9.cell? ⟨W.heap.size, 1, none⟩ = some (.int .i64 V) := H9.out.v.cell 1
              have l2 : w9.cell? ⟨W.heap.size, 2, none⟩ = some (.int .i64 F) := H9.out.v.cell 2
              have hri := HK.out.2.2.2
              go_wp2_with fail
              refine (D3.out _ (HR.out.step H9.out.b)).mono ?_
              rintro e1 wf ⟨rfl, hb⟩
              dsimp only
              have HF := Lib.hid (H9.out.below hb)
              clear hb l0 l1 l2 H9 hri
              obtain ⟨p1, p2, p3⟩ := HP.out
              go_wp2_with fail
              go_meet
              exact HF
        · have he' : ¬ e = 0 := by omega
          clear he
          go_wp2_with fail
          go_meet
          exact H1
    case rest =>
      as_aux_lemma =>
        have HQ := Lib.hid hcut.out
        have l0 : wc.cell? ⟨W.heap.size, 0, none⟩ = some (.slice A l.length cap) := HQ.out.v.cell 0
        have l2 : wc.cell? ⟨W.heap.size, 2, none⟩ = some (.int .i64 F) := HQ.out.v.cell 2
        clear H1 HS C1 HL HWC HWo HRV hcut
        have hbi := best_is l F limit rise calm frm tll
        have HB := Lib.hid (fun w h => Best_any l A cap F limit rise calm frm tll w h hl)
        have HTh := Lib.hid (fun (k : Int) w h => Thresholds_any l A cap k F limit rise calm frm tll w h hl)
        unfold vtv at HTh
        obtain ⟨X, hX⟩ : ∃ X, X = bestR l F limit rise calm frm tll := ⟨_, rfl⟩
        rw [← hX] at hbi HB
        clear hX
        obtain ⟨n, ⟨lo, hi⟩, e⟩ := X
        have heq : ∀ (a b c d : Int) w, (binOp .eql 38 (.agg #[.int .i64 a, .int .i64 b]) (.agg #[.int .i64 c, .int .i64 d])).run Try.prog w = .ok (.bool (decide (a = c ∧ b = d))) w := fun a b c d w => eql38 a b c d w
        have HBI := Lib.hid hbi
        clear hbi
        go_wp2_with fail
        refine (HB.out _ (HR.out.step HQ.out.b)).mono ?_
        rintro e1 w2 ⟨rfl, hb2⟩
        dsimp only
        have H2 := Lib.hid (And.intro (HQ.out.below (hb2.trans ((below_one w2 (.cells #[.int .i64 lo, .int .i64 hi] 38)).mono hb2.size))) (Has.new w2 38 #[.int .i64 lo, .int .i64 hi]))
        clear hb2 l0 l2
        rcases HBI.out with ⟨he, hn, hlo, hhi⟩ | ⟨he, hn, hlo, hhi, hall⟩ | ⟨he, hn, hlh, hall⟩
        · subst hn hlo hhi
          have q1 : ¬ e = 0 := by omega
          have q2 : ¬ e = 4 := by omega
          clear he
          go_wp2_with fail
          refine (alive_any _).mono ?_
          rintro e1 wb ⟨rfl, hb⟩
          dsimp only
          have HF := Lib.hid (H2.out.1.below hb)
          clear hb
          go_wp2_with fail
          go_ret
          exact ⟨rfl, HF.out.b⟩
        · subst he hn hlo hhi
          go_upto_region 20 with fail
          generalize hw3 : w2.alloc (.cells #[.int .i64 0, .int .i64 0] 38) = w3 at H2 ⊢
          generalize w2.heap.size = g1 at H2 ⊢
          clear hw3
          have HALL := Lib.hid hall
          clear hall
          go_wp2_with fail
          go_loopg [37] l.length (fun gk i wr => ∃ k : Nat, k ≤ l.length ∧ l.length - k ≤ gk ∧ i = .int .i64 ((k : Int) + 1) ∧ Hid (Lb W wr #[.slice A l.length cap, .int .i64 V, .int .i64 F]))
          case atStart => exact ⟨0, Nat.zero_le _, Nat.le_refl _, rfl, H2.out.1⟩
          case round =>
            obtain ⟨k, hk, hgk, rfl, HW⟩ := hrel
            have l0 : wr.cell? ⟨W.heap.size, 0, none⟩ = some (.slice A l.length cap) := HW.out.v.cell 0
            have l1 : wr.cell? ⟨W.heap.size, 1, none⟩ = some (.int .i64 V) := HW.out.v.cell 1
            have l2 : wr.cell? ⟨W.heap.size, 2, none⟩ = some (.int .i64 F) := HW.out.v.cell 2
            have lw := HW.out.v.lt
            by_cases hlt : k < l.length
            · have hlt' : (k : Int) + 1 ≤ l.length := by omega
              have hth := HALL.out ((k : Int) + 1) (by omega) hlt'
              have HTk := Lib.hid (HTh.out ((k : Int) + 1))
              rw [hth] at HTk
              clear hth
              go_upto_region 24 with fail
              have H4 := Lib.hid (And.intro (HW.out.below (below_one wr (.cells #[.slice A l.length cap, .int .i64 V, .int .i64 F] 24))) (And.intro (Has.new wr 24 #[.slice A l.length cap, .int .i64 V, .int .i64 F]) HW.out.v.lt))
              clear l0 l1 l2 lw
              generalize hw4 : wr.alloc (.cells #[.slice A l.length cap, .int .i64 V, .int .i64 F] 24) = w4 at H4 ⊢
              generalize wr.heap.size = gb at H4 ⊢
              clear hw4
              have b1 : w4.cell? ⟨gb, 1, none⟩ = some (.int .i64 V) := H4.out.2.1.cell 1
              have bl := H4.out.2.1.lt
              have bf := H4.out.2.1.frozen 1
              go_upto_region 25 with fail
              have H5 := Lib.hid (And.intro (show Lb W (w4.setCell ⟨gb, 1, none⟩ (.int .i64 ((k : Int) + 1))) #[.slice A l.length cap, .int .i64 V, .int .i64 F] from ⟨H4.out.1.b.setCell (by have := H4.out.2.2; simp only; omega) _, H4.out.1.v.far (by have := H4.out.2.2; simp only; omega) _⟩) (H4.out.2.1.set 1 (.int .i64 ((k : Int) + 1))))
              clear b1 bl bf
              generalize w4.setCell ⟨gb, 1, none⟩ (.int .i64 ((k : Int) + 1)) = w5 at H5 ⊢
              have b0 : w5.cell? ⟨gb, 0, none⟩ = some (.slice A l.length cap) := H5.out.2.cell 0
              have b1 : w5.cell? ⟨gb, 1, none⟩ = some (.int .i64 ((k : Int) + 1)) := H5.out.2.cell 1
              have b2 : w5.cell? ⟨gb, 2, none⟩ = some (.int .i64 F) := H5.out.2.cell 2
              go_wp2_with fail
              refine (HTk.out _ (HR.out.step H5.out.1.b)).mono ?_
              rintro e1 w6 ⟨rfl, hb6⟩
              dsimp only
              have H6 := Lib.hid (H5.out.1.below (hb6.trans ((below_one w6 (.cells #[.int .i64 0, .int .i64 0] 38)).mono hb6.size)))
              clear hb6 b0 b1 b2
              have hkz : ¬ (k : Int) + 1 = 0 := by omega
              go_wp2_with fail
              go_roundg (l.length - (k + 1))
              case measure => omega
              case rel => exact ⟨k + 1, by omega, Nat.le_refl _, by go_num, H6.out⟩
            · have hlt' : ¬ (k : Int) + 1 ≤ l.length := by omega
              go_wp2_with fail
              refine (alive_any _).mono ?_
              rintro e1 wb ⟨rfl, hb⟩
              dsimp only
              have HF := Lib.hid (HW.out.below hb)
              clear hb
              go_wp2_with fail
              go_ret
              exact ⟨rfl, HF.out.b⟩
        · subst he
          have hne : ∀ (a b c d : Int) w, (binOp .neq 38 (.agg #[.int .i64 a, .int .i64 b]) (.agg #[.int .i64 c, .int .i64 d])).run Try.prog w = .ok (.bool (!decide (a = c ∧ b = d))) w := fun a b c d w => neq38 a b c d w
          go_upto_region 20 with fail
          generalize hw3 : w2.alloc (.cells #[.int .i64 lo, .int .i64 hi] 38) = w3 at H2 ⊢
          generalize w2.heap.size = g1 at H2 ⊢
          clear hw3
          have HALL := Lib.hid hall
          have HLH := Lib.hid hlh
          have HN := Lib.hid hn
          clear hall hlh hn
          go_wp2_with fail
          go_loopg [37] l.length (fun gk i wr => ∃ k : Nat, k ≤ l.length ∧ l.length - k ≤ gk ∧ i = .int .i64 ((k : Int) + 1) ∧ Hid (Lb W wr #[.slice A l.length cap, .int .i64 V, .int .i64 F] ∧ Has wr g1 38 #[.int .i64 lo, .int .i64 hi]))
          case atStart => exact ⟨0, Nat.zero_le _, Nat.le_refl _, rfl, H2.out⟩
          case round =>
            obtain ⟨k, hk, hgk, rfl, HW⟩ := hrel
            have l0 : wr.cell? ⟨W.heap.size, 0, none⟩ = some (.slice A l.length cap) := HW.out.1.v.cell 0
            have l1 : wr.cell? ⟨W.heap.size, 1, none⟩ = some (.int .i64 V) := HW.out.1.v.cell 1
            have l2 : wr.cell? ⟨W.heap.size, 2, none⟩ = some (.int .i64 F) := HW.out.1.v.cell 2
            have lw := HW.out.1.v.lt
            by_cases hlt : k < l.length
            · have hlt' : (k : Int) + 1 ≤ l.length := by omega
              have hth := HALL.out ((k : Int) + 1) (by omega) hlt'
              have HTk := Lib.hid (HTh.out ((k : Int) + 1))
              obtain ⟨T, hT⟩ : ∃ T, T = thrR l ((k : Int) + 1) F limit rise calm frm tll := ⟨_, rfl⟩
              rw [← hT] at HTk hth
              have HTT := Lib.hid hth
              clear hth hT
              go_upto_region 24 with fail
              have H4 := Lib.hid (And.intro (HW.out.1.below (below_one wr (.cells #[.slice A l.length cap, .int .i64 V, .int .i64 F] 24))) (And.intro (Has.new wr 24 #[.slice A l.length cap, .int .i64 V, .int .i64 F]) (And.intro HW.out.1.v.lt (And.intro (HW.out.2.alloc (.cells #[.slice A l.length cap, .int .i64 V, .int .i64 F] 24)) HW.out.2.lt))))
              clear l0 l1 l2 lw
              generalize hw4 : wr.alloc (.cells #[.slice A l.length cap, .int .i64 V, .int .i64 F] 24) = w4 at H4 ⊢
              generalize wr.heap.size = gb at H4 ⊢
              clear hw4
              have b1 : w4.cell? ⟨gb, 1, none⟩ = some (.int .i64 V) := H4.out.2.1.cell 1
              have bl := H4.out.2.1.lt
              have bf := H4.out.2.1.frozen 1
              go_upto_region 25 with fail
              have H5 := Lib.hid (And.intro (show Lb W (w4.setCell ⟨gb, 1, none⟩ (.int .i64 ((k : Int) + 1))) #[.slice A l.length cap, .int .i64 V, .int .i64 F] from ⟨H4.out.1.b.setCell (by have := H4.out.2.2.1; simp only; omega) _, H4.out.1.v.far (by have := H4.out.2.2.1; simp only; omega) _⟩) (And.intro (H4.out.2.1.set 1 (.int .i64 ((k : Int) + 1))) (H4.out.2.2.2.1.far (p := ⟨gb, 1, none⟩) (by have := H4.out.2.2.2.2; simp only; omega) (.int .i64 ((k : Int) + 1)))))
              clear b1 bl bf
              generalize w4.setCell ⟨gb, 1, none⟩ (.int .i64 ((k : Int) + 1)) = w5 at H5 ⊢
              have b0 : w5.cell? ⟨gb, 0, none⟩ = some (.slice A l.length cap) := H5.out.2.1.cell 0
              have b1 : w5.cell? ⟨gb, 1, none⟩ = some (.int .i64 ((k : Int) + 1)) := H5.out.2.1.cell 1
              have b2 : w5.cell? ⟨gb, 2, none⟩ = some (.int .i64 F) := H5.out.2.1.cell 2
              go_wp2_with fail
              refine (HTk.out _ (HR.out.step H5.out.1.b)).mono ?_
              rintro e1 w6 ⟨rfl, hb6⟩
              dsimp only
              have HTU := HTT.out
              clear b0 b1 b2 HTk HTT
              rcases HTU with ⟨hkn, rfl⟩ | ⟨ta, tb, rfl, hab, hd, hd1, hd2⟩
              · dsimp only
                have H6 := Lib.hid (And.intro (H5.out.1.below (hb6.trans ((below_one w6 (.cells #[.int .i64 0, .int .i64 0] 38)).mono hb6.size))) (H5.out.2.2.below (hb6.trans ((below_one w6 (.cells #[.int .i64 0, .int .i64 0] 38)).mono hb6.size)) H5.out.2.2.lt))
                clear hb6
                go_wp2_with fail
                go_roundg (l.length - (k + 1))
                case measure => omega
                case rel => exact ⟨k + 1, by omega, Nat.le_refl _, by go_num, H6.out⟩
              · dsimp only
                have H6 := Lib.hid (And.intro (H5.out.1.below (hb6.trans ((below_one w6 (.cells #[.int .i64 ta, .int .i64 tb] 38)).mono hb6.size))) (And.intro (H5.out.2.2.below (hb6.trans ((below_one w6 (.cells #[.int .i64 ta, .int .i64 tb] 38)).mono hb6.size)) H5.out.2.2.lt) (Has.new w6 38 #[.int .i64 ta, .int .i64 tb])))
                clear hb6
                go_upto_region 28 with fail
                generalize hw7 : w6.alloc (.cells #[.int .i64 ta, .int .i64 tb] 38) = w7 at H6 ⊢
                generalize w6.heap.size = g7 at H6 ⊢
                clear hw7
                have t0 : w7.cell? ⟨g7, 0, none⟩ = some (.int .i64 ta) := H6.out.2.2.cell 0
                have t1 : w7.cell? ⟨g7, 1, none⟩ = some (.int .i64 tb) := H6.out.2.2.cell 1
                have s0 : w7.cell? ⟨g1, 0, none⟩ = some (.int .i64 lo) := H6.out.2.1.cell 0
                have s1 : w7.cell? ⟨g1, 1, none⟩ = some (.int .i64 hi) := H6.out.2.1.cell 1
                obtain ⟨a1, a2, a3⟩ := hab
                obtain ⟨c1, c2, c3⟩ := HLH.out
                have z1 : IntKind.i64.wrap (tb - ta) = tb - ta := IntWalk.i64_in _ (by omega)
                have z2 : IntKind.i64.wrap (hi - lo) = hi - lo := IntWalk.i64_in _ (by omega)
                have m1 : ¬ hi - lo < tb - ta := by omega
                rcases Int.lt_trichotomy ((k : Int) + 1) n with q1 | q1 | q1
                · have m2 : ¬ tb - ta = hi - lo := by have := hd1 q1; omega
                  have m3 : ¬ (k : Int) + 1 = n := by omega
                  clear hd hd1 hd2
                  go_wp2_with fail
                  go_roundg (l.length - (k + 1))
                  case measure => omega
                  case rel => exact ⟨k + 1, by omega, Nat.le_refl _, by go_num, ⟨H6.out.1, H6.out.2.1⟩⟩
                · obtain ⟨rfl, rfl⟩ := hd2 q1
                  clear hd hd1 hd2
                  subst q1
                  go_wp2_with fail
                  go_roundg (l.length - (k + 1))
                  case measure => omega
                  case rel => exact ⟨k + 1, by omega, Nat.le_refl _, by go_num, ⟨H6.out.1, H6.out.2.1⟩⟩
                · have m2 : ¬ (k : Int) + 1 < n := by omega
                  have m3 : ¬ (k : Int) + 1 = n := by omega
                  clear hd hd1 hd2
                  by_cases m4 : tb - ta = hi - lo
                  all_goals
                    go_wp2_with fail
                    go_roundg (l.length - (k + 1))
                    case measure => omega
                    case rel => exact ⟨k + 1, by omega, Nat.le_refl _, by go_num, ⟨H6.out.1, H6.out.2.1⟩⟩
            · have hlt' : ¬ (k : Int) + 1 ≤ l.length := by omega
              obtain ⟨n1, n2⟩ := HN.out
              have n0 : 0 < n := by omega
              go_wp2_with fail
              refine (alive_any _).mono ?_
              rintro e1 wb ⟨rfl, hb⟩
              dsimp only
              have HF := Lib.hid (HW.out.1.below hb)
              clear hb
              go_wp2_with fail
              go_ret
              exact ⟨rfl, HF.out.b⟩
end Go.Proofs.Ytfdjoldcdfbfhaa
