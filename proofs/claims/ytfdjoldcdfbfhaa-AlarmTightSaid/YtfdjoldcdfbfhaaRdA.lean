/- What sensors read of a course: read, whatever is told. -/
import Derived.Test.YtfdjoldcdfbfhaaOwC
namespace Go.Proofs.Ytfdjoldcdfbfhaa
open Go.Shelf Go.RowKit
/-- sensor s reads in minute m -/
def hitB (s : Sn) (m : Int) : Bool := decide (s.f ≤ m) && ((m - s.f).tmod s.e == 0)
def rowN (l : List Sn) (tl : Int → Int → Int → Int) (m c : Int) : Nat → List Sf
  | 0 => []
  | k + 1 => match l[k]? with | some s => if hitB s m = true then rowN l tl m c k ++ [⟨m, k, tl k m c⟩] else rowN l tl m c k | none => rowN l tl m c k
def readN (l : List Sn) (tl : Int → Int → Int → Int) (cs : List Int) : Nat → List Sf
  | 0 => []
  | m + 1 => match cs[m]? with | some c => readN l tl cs m ++ rowN l tl m c l.length | none => readN l tl cs m
theorem rowN_next {l : List Sn} {tl : Int → Int → Int → Int} {m c : Int} {k : Nat} (hk : k < l.length) : rowN l tl m c (k + 1) = if hitB l[k] m = true then rowN l tl m c k ++ [(⟨m, k, tl k m c⟩ : Sf)] else rowN l tl m c k := by
  show (match l[k]? with | some s => if hitB s m = true then rowN l tl m c k ++ [(⟨m, k, tl k m c⟩ : Sf)] else rowN l tl m c k | none => rowN l tl m c k) = _
  rw [List.getElem?_eq_getElem hk]
theorem readN_next {l : List Sn} {tl : Int → Int → Int → Int} {cs : List Int} {m : Nat} (hm : m < cs.length) : readN l tl cs (m + 1) = readN l tl cs m ++ rowN l tl m cs[m] l.length := by
  show (match cs[m]? with | some c => readN l tl cs m ++ rowN l tl m c l.length | none => readN l tl cs m) = _
  rw [List.getElem?_eq_getElem hm]
theorem rowN_len {l : List Sn} {tl : Int → Int → Int → Int} {m c : Int} : ∀ k, (rowN l tl m c k).length ≤ k
  | 0 => Nat.le_refl _
  | k + 1 => by
    have ih := rowN_len (l := l) (tl := tl) (m := m) (c := c) k
    unfold rowN
    split
    · split
      · simp; omega
      · omega
    · omega
theorem readN_len {l : List Sn} {tl : Int → Int → Int → Int} {cs : List Int} : ∀ m, (readN l tl cs m).length ≤ m * l.length
  | 0 => by simp [readN]
  | m + 1 => by
    have ih := readN_len (l := l) (tl := tl) (cs := cs) m
    have h : (m + 1) * l.length = m * l.length + l.length := Nat.succ_mul m l.length
    unfold readN
    split
    · rename_i c _
      have := rowN_len (l := l) (tl := tl) (m := m) (c := c) l.length
      simp; omega
    · omega
theorem own_frow2 {w : World} {base : Nat} {v : Value} {l : List Sf} (h : w.ownsRow base 45 3 v l.length (sfl l)) : ∃ A cap, v = .slice A l.length cap ∧ l.length ≤ cap ∧ FRow w w.heap.size A l := by
  obtain ⟨A, cap, rfl, hc, h2⟩ := own_row3 sq3 (fun _ => rfl) h
  refine ⟨A, cap, rfl, hc, fun k hk => ?_⟩
  obtain ⟨g, rfl, hg, hc⟩ := h2 (by rintro rfl; simp at hk)
  refine ⟨g, 0, rfl, hg, ?_, ?_, ?_⟩ <;> rw [Nat.zero_add]
  · exact hc k hk 0 (by omega)
  · exact hc k hk 1 (by omega)
  · exact hc k hk 2 (by omega)
def ReadPost (L : List Sf) (W : World) (e : Ending) (W' : World) : Prop :=
  ∃ A cap, e = .returned (.slice A L.length cap) ∧ L.length ≤ cap ∧ FRow W' W'.heap.size A L ∧ Below W.heap.size W W'
def IPost (n : Int) (W : World) (e : Ending) (W' : World) : Prop := e = .returned (.int .i64 n) ∧ Below W.heap.size W W'
set_option maxRecDepth 100000 in
set_option maxHeartbeats 4000000 in
theorem read_any (l : List Sn) (A0 : Option Addr) (cap0 : Nat) (V F : Int) (cs : List Int) (Ac : Option Addr) (capc : Nat) (fid : FuncId) (x0 x1 x2 x3 : Value) (tl : Int → Int → Int → Int) (W : World)
    (hr : NRow W W.heap.size A0 l) (hl : l.length ≤ 12) (hvs : ∀ s ∈ l, vS s) (hc : IRow W W.heap.size Ac cs) (hcl : cs.length ≤ 61)
    (eg : ∀ args w, (callFunc fid args).run Try.prog w = .ok (.enter fid args) w)
    (hT : ∀ (w : World) (i : Nat) (m : Nat) (_ : i < l.length) (hm : m < cs.length), Below W.heap.size W w → Calls Try.prog fid #[.int .i64 i, .int .i64 m, .int .i64 cs[m], x0, x1, x2, x3] w (IPost (tl i m cs[m]) w)) :
    Calls Try.prog 28 #[vtv A0 l.length cap0 V F, .slice Ac cs.length capc, .func (.func fid) #[] #[x0, x1, x2, x3]] W (ReadPost (readN l tl cs cs.length) W) := by
  obtain ⟨i0, hi, hz0, hz1, hz2⟩ := info_parts Try.info45
  have HR := Lib.hid (And.intro hr (And.intro hvs hc))
  have HT := Lib.hid hT
  have hh : Has (W.alloc (.cells #[.slice A0 l.length cap0, .int .i64 V, .int .i64 F] 24)) W.heap.size 24 #[.slice A0 l.length cap0, .int .i64 V, .int .i64 F] := Has.new W 24 _
  have hb0 := below_one W (.cells #[.slice A0 l.length cap0, .int .i64 V, .int .i64 F] 24)
  clear hr hvs hc hT
  unfold vtv
  go_enter Try.func28, Try.ntmps28
  go_wp2_with fail
  generalize W.alloc (.cells #[.slice A0 l.length cap0, .int .i64 V, .int .i64 F] 24) = w0 at hh hb0 ⊢
  have HB := Lib.hid (And.intro hb0 hh)
  have hw0 : W.heap.size < w0.heap.size := hh.lt
  clear hb0 hh
  go_loopg [7, 14] cs.length (fun gk v i wr => ∃ (k : Nat) (L : List Sf), k ≤ cs.length ∧ cs.length - k ≤ gk ∧ i = .int .i64 k ∧ Hid (L = readN l tl cs k) ∧ Hid (Below w0.heap.size w0 wr) ∧ Hid (wr.ownsRow w0.heap.size 45 3 v L.length (sfl L)))
  case atStart => exact ⟨0, [], Nat.zero_le _, Nat.le_refl _, rfl, by show _ = _; rfl, Below.refl _ _, World.ownsRow_nil w0 w0.heap.size 45 3⟩
  case round =>
    obtain ⟨k, L, hk, hgk, rfl, HL, HW, HO⟩ := hrel
    have hbW : Below W.heap.size W wr := HB.out.1.trans (HW.out.mono HB.out.1.size)
    have hH := HB.out.2.below HW.out HB.out.2.lt
    by_cases hlt : k < cs.length
    · have hlt' : (k : Int) < cs.length := by omega
      obtain ⟨g, o, hA, hg, d0⟩ := (HR.out.2.2.below hbW) k hlt
      have v0 : wr.cell? ⟨W.heap.size, 0, none⟩ = some (.slice A0 l.length cap0) := hH.cell 0
      have hvl := hH.lt
      have hgl : g < wr.heap.size := by have := hbW.size; omega
      obtain ⟨c, hcc⟩ : ∃ c, c = cs[k] := ⟨_, rfl⟩
      rw [← hcc] at d0
      have HC := Lib.hid hcc
      subst hA
      clear hcc hbW hH
      go_wp2_with fail
      go_loopg [7, 22] l.length (fun gk v i wx => ∃ (j : Nat) (M : List Sf), j ≤ l.length ∧ l.length - j ≤ gk ∧ i = .int .i64 j ∧ Hid (M = L ++ rowN l tl k c j) ∧ Hid (Below w0.heap.size w0 wx) ∧ Hid (wx.ownsRow w0.heap.size 45 3 v M.length (sfl M)))
      case atStart => exact ⟨0, L, Nat.zero_le _, Nat.le_refl _, rfl, by show _ = _; simp [rowN], HW.out, HO.out⟩
      case round =>
        obtain ⟨j, M, hj, hgj, rfl, HM, HX, HOX⟩ := hrel
        have hbX : Below W.heap.size W wr := HB.out.1.trans (HX.out.mono HB.out.1.size)
        clear v0 d0 hvl hgl
        by_cases hjl : j < l.length
        · have hjl' : (j : Int) < l.length := by omega
          obtain ⟨g2, o2, hA2, hg2, e0, e1, e2⟩ := (HR.out.1.below hbX) j hjl
          have hgl : g2 < wr.heap.size := by have := hbX.size; omega
          have hvs := HR.out.2.1 l[j] (List.getElem_mem hjl)
          have hrn := rowN_next (tl := tl) (m := k) (c := c) hjl
          have hcall := Lib.hid (fun w h => HT.out w j k hjl hlt h)
          rw [← HC.out] at hcall
          obtain ⟨s, hs⟩ : ∃ s, s = l[j] := ⟨_, rfl⟩
          rw [← hs] at e0 e1 e2 hvs hrn
          have HSS := Lib.hid hs
          obtain ⟨hv1, hv2, hv3⟩ := hvs
          subst hA2
          clear hs
          have HBX := Lib.hid hbX
          clear hbX
          by_cases hf : s.f ≤ (k : Int)
          · have hb' := tmod_bd (a := (k : Int) - s.f) (b := s.e) (by omega) hv2.1
            obtain ⟨q, hqq⟩ : ∃ q, ((k : Int) - s.f).tmod s.e = q := ⟨_, rfl⟩
            have he0 : ¬ s.e = 0 := by omega
            have hw1 : IntKind.i64.wrap ((k : Int) - s.f) = (k : Int) - s.f := by rw [IntKind.wrap_i64]; omega
            rw [hqq] at hb'
            have hw2 : IntKind.i64.wrap q = q := by rw [IntKind.wrap_i64]; omega
            by_cases hq0 : q = 0
            · have hhit : hitB s k = true := by unfold hitB; rw [hqq]; simp [hf, hq0]
              rw [if_pos hhit] at hrn
              have hq0' : (q == 0) = true := by rw [beq_iff_eq]; exact hq0
              have HRN := Lib.hid hrn
              clear hrn hhit
              obtain ⟨Av, cv, hva, hcv, -⟩ := own_frow2 HOX.out
              subst hva
              go_wp2_with fail
              refine (hcall.out _ (HBX.out.trans ((below_one wr _).mono HBX.out.size))).mono ?_
              rintro e w3 ⟨rfl, hb3⟩
              obtain ⟨x, hx⟩ : ∃ x, x = tl j k c := ⟨_, rfl⟩
              rw [← hx] at HRN ⊢
              have hb4 : Below wr.heap.size wr w3 := below_seq (below_one wr _) hb3
              have HO3 := Lib.hid (own_step (own_step HOX.out hb4) (below_one w3 (.cells #[.int .i64 k, .int .i64 j, .int .i64 x] 45)))
              have H3 := Lib.hid hb4
              have hs3 := hb4.size
              have hsW := HX.out.size
              have hML : M.length ≤ 800 := by
                rw [HM.out, HL.out, List.length_append]
                have h1 := readN_len (l := l) (tl := tl) (cs := cs) k
                have h2 := rowN_len (l := l) (tl := tl) (m := k) (c := c) j
                have h3 : k * l.length ≤ 61 * 12 := Nat.mul_le_mul (by omega) hl
                omega
              clear hb3 hb4 hx
              go_wp2_with (at_builtin; refine wpList_append_row rfl _ _ 25 rfl w0.heap.size 45 i0 (.agg #[.int .i64 0, .int .i64 0, .int .i64 0]) 3 24 Try.underlying25 hi hz0 hz1 hz2 rfl (by decide) (.slice Av M.length cv) M.length (sfl M) rfl HO3.out (some ⟨w3.heap.size, 0, none⟩) 1 1 (sq3 ⟨k, j, x⟩) rfl (fun h => by cases h) rfl (fun ad had => by cases had; exact World.news_of_block (cs := #[.int .i64 k, .int .i64 j, .int .i64 x]) (Has.new w3 45 #[.int .i64 k, .int .i64 j, .int .i64 x])) (by simpa [sfl] using sfl_one [⟨k, j, x⟩]) ?q1 ?q2 ?q3 ?_)
              case q1 => unfold maxLen; omega
              case q2 => omega
              case q3 => simp only [World.size_alloc]; omega
              intro v5 w5 hown5 hgrow5
              have hb5 : Below w0.heap.size w0 w5 := ((HX.out.trans (H3.out.mono hsW)).trans ((below_one w3 (.cells #[.int .i64 k, .int .i64 j, .int .i64 x] 45)).mono (by omega))).trans (grown_below hgrow5 (by simp only [World.size_alloc]; omega) (fun q hq => (HO3.out.lt q hq).1))
              have hown : w5.ownsRow w0.heap.size 45 3 v5 (M ++ [(⟨k, j, x⟩ : Sf)]).length (sfl (M ++ [(⟨k, j, x⟩ : Sf)])) := by
                rw [show sfl (M ++ [(⟨k, j, x⟩ : Sf)]) = sfl M ++ sq3 ⟨k, j, x⟩ by simp [sfl], List.length_append]
                exact hown5
              have H5 := Lib.hid (And.intro hb5 hown)
              clear hb5 hown hown5 hgrow5
              go_wp2_with fail
              go_roundg (l.length - (j + 1))
              case measure => omega
              case rel => exact ⟨j + 1, M ++ [(⟨k, j, x⟩ : Sf)], by omega, Nat.le_refl _, by go_num, by show _ = _; rw [HRN.out, HM.out, List.append_assoc], H5.out.1, H5.out.2⟩
            · have hhit : hitB s k = false := by unfold hitB; rw [hqq]; simp [hq0]
              rw [if_neg (by rw [hhit]; simp)] at hrn
              have hq0' : (q == 0) = false := by rw [beq_eq_false_iff_ne]; exact hq0
              have HRN := Lib.hid hrn
              clear hrn hhit
              go_wp2_with fail
              go_roundg (l.length - (j + 1))
              case measure => omega
              case rel => exact ⟨j + 1, M, by omega, Nat.le_refl _, by go_num, by show _ = _; rw [HRN.out]; exact HM.out, HX.out.trans ((below_one wr _).mono HX.out.size), own_step HOX.out (below_one wr _)⟩
          · have hhit : hitB s k = false := by unfold hitB; simp; omega
            rw [if_neg (by rw [hhit]; simp)] at hrn
            have HRN := Lib.hid hrn
            clear hrn hhit
            go_wp2_with fail
            go_roundg (l.length - (j + 1))
            case measure => omega
            case rel => exact ⟨j + 1, M, by omega, Nat.le_refl _, by go_num, by show _ = _; rw [HRN.out]; exact HM.out, HX.out.trans ((below_one wr _).mono HX.out.size), own_step HOX.out (below_one wr _)⟩
        · have hjl' : ¬ (j : Int) < l.length := by omega
          have hje : j = l.length := by omega
          have HRN := Lib.hid (readN_next (l := l) (tl := tl) hlt)
          go_wp2_with fail
          go_roundg (cs.length - (k + 1))
          case measure => omega
          case rel => exact ⟨k + 1, M, by omega, Nat.le_refl _, by go_num, by show _ = _; rw [HRN.out, ← HC.out, HM.out, HL.out, hje], HX.out, HOX.out⟩
    · have hlt' : ¬ (k : Int) < cs.length := by omega
      have hke : k = cs.length := by omega
      obtain ⟨A, cap, rfl, hcap, hfr⟩ := own_frow2 HO.out
      have HF := Lib.hid (And.intro hcap (And.intro hfr hbW))
      clear hcap hfr hbW hH
      go_wp2_with fail
      go_ret
      refine ⟨A, cap, ?_, ?_, ?_, HF.out.2.2⟩
      · rw [← hke, ← HL.out]; rfl
      · rw [← hke, ← HL.out]; exact HF.out.1
      · rw [← hke, ← HL.out]; exact HF.out.2.1
end Go.Proofs.Ytfdjoldcdfbfhaa
