/- Events in two parts: the walk. -/
import Derived.Test.YtjfopmjphiddiaaKsD
namespace Go.Proofs.Ytjfopmjphiddiaa
open Go.RowKit Go.Shelf
/-- what lies there behind the first play -/
structure Ks (w W : World) (t : Sl) (ps : List Pp) (A : Option Addr) (cap : Nat) (heat hroom : Int) (l : List Ev) (A' : Option Addr) (z : Yx) (A5 : Option Addr) (cap5 B5 : Nat) : Prop where
  x : Bxb w W t ps A cap heat hroom l A'
  e : Has W B5 26 (bcells z.t A5 z.ps.length cap5 z.r.heat z.r.room)
  s : Has W (B5 + 1) 31 (scells z.r.s)
  q : PRow W W.heap.size A5 z.ps
theorem Ks.step {w W W' : World} {t : Sl} {ps : List Pp} {A : Option Addr} {cap : Nat} {heat hroom : Int} {l : List Ev} {A' : Option Addr} {z : Yx} {A5 : Option Addr} {cap5 B5 : Nat} (h : Ks w W t ps A cap heat hroom l A' z A5 cap5 B5) (hb : Below W.heap.size W W') : Ks w W' t ps A cap heat hroom l A' z A5 cap5 B5 :=
  ⟨h.x.step hb, h.e.below hb h.e.lt, h.s.below hb h.s.lt, h.q.step hb⟩
theorem keep5 {wd W : World} {g : Nat} {T : TypeId} {a b c d e : Value} (h : Has wd g T #[a, b, c, d, e]) (hb : Below wd.heap.size wd W) : W.cell? ⟨g, 0, none⟩ = some a ∧ W.cell? ⟨g, 1, none⟩ = some b ∧ W.cell? ⟨g, 2, none⟩ = some c ∧ W.cell? ⟨g, 3, none⟩ = some d ∧ W.cell? ⟨g, 4, none⟩ = some e :=
  have k := h.below hb h.lt
  ⟨k.cell 0, k.cell 1, k.cell 2, k.cell 3, k.cell 4⟩
/-- .. and the half behind the first part -/
structure Kt (w W : World) (t : Sl) (ps : List Pp) (A : Option Addr) (cap : Nat) (heat hroom : Int) (l : List Ev) (A' : Option Addr) (z : Yx) (A5 : Option Addr) (cap5 B5 : Nat) (m : Yx) (A1 : Option Addr) (cap1 x1 y1 : Nat) : Prop where
  k : Ks w W t ps A cap heat hroom l A' z A5 cap5 B5
  x : Has W x1 26 (bcells m.t A1 m.ps.length cap1 m.r.heat m.r.room)
  y : Has W y1 31 (scells m.r.s)
  p : PRow W W.heap.size A1 m.ps
theorem Kt.step {w W W' : World} {t : Sl} {ps : List Pp} {A : Option Addr} {cap : Nat} {heat hroom : Int} {l : List Ev} {A' : Option Addr} {z : Yx} {A5 : Option Addr} {cap5 B5 : Nat} {m : Yx} {A1 : Option Addr} {cap1 x1 y1 : Nat} (h : Kt w W t ps A cap heat hroom l A' z A5 cap5 B5 m A1 cap1 x1 y1) (hb : Below W.heap.size W W') : Kt w W' t ps A cap heat hroom l A' z A5 cap5 B5 m A1 cap1 x1 y1 :=
  ⟨h.k.step hb, h.x.below hb h.x.lt, h.y.below hb h.y.lt, h.p.step hb⟩
theorem Kt.half {w wd : World} {t : Sl} {ps : List Pp} {A : Option Addr} {cap : Nat} {heat hroom : Int} {l : List Ev} {A' : Option Addr} {z : Yx} {A5 : Option Addr} {cap5 B5 : Nat} {m : Yx} {A1 : Option Addr} {cap1 x1 y1 : Nat} (h : Kt w wd t ps A cap heat hroom l A' z A5 cap5 B5 m A1 cap1 x1 y1) {y : Yx} {k n cap' : Nat} (hp : playR m.t m.ps m.r.heat m.r.room (l.drop k) = (some y, n, 0)) (hn : n = l.length - k) (hlc : l.length ≤ cap') (hm : m.ps.length ≤ maxLen) (hml : ∀ p ∈ m.ps, p.l.length ≤ maxLen) (hl : l.length ≤ 9223372036854775807) {wa : World} (hb : Below wd.heap.size wd wa) :
    Calls Try.prog 14 #[brv m.t A1 m.ps.length cap1 m.r.heat m.r.room, .slice (offA A' cap' k) n (cap' - k)] wa (POPost y.t y.ps y.r.heat y.r.room y.r.s n wa) :=
  half_c hp A1 _ n cap1 _ (by rw [List.length_drop, hn]) wa (h.p.step hb) ((h.k.x.e.step hb).drop hlc k) hm hml (by rw [List.length_drop]; omega)
theorem Ks.half {w wd : World} {t : Sl} {ps : List Pp} {A : Option Addr} {cap : Nat} {heat hroom : Int} {l : List Ev} {A' : Option Addr} {z : Yx} {A5 : Option Addr} {cap5 B5 : Nat} (h : Ks w wd t ps A cap heat hroom l A' z A5 cap5 B5) {m : Yx} {k : Nat} (hp : playR t ps heat hroom (l.take k) = (some m, k, 0)) (hk : k ≤ l.length) (cap' : Nat) (hm : ps.length ≤ maxLen) (hml : ∀ p ∈ ps, p.l.length ≤ maxLen) (hl : l.length ≤ 9223372036854775807) {wa : World} (hb : Below wd.heap.size wd wa) :
    Calls Try.prog 14 #[brv t A ps.length cap heat hroom, .slice A' k cap'] wa (POPost m.t m.ps m.r.heat m.r.room m.r.s k wa) :=
  half_c hp A A' k cap cap' (by rw [List.length_take]; omega) wa (h.x.p.step hb) ((h.x.e.step hb).take k) hm hml (by rw [List.length_take]; omega)
theorem keep18 {wd W : World} {g k : Nat} {T T' : TypeId} {a0 a1 a2 a3 a4 a5 a6 a7 a8 b0 b1 b2 b3 b4 b5 b6 b7 b8 : Value} (h : Has wd g T #[a0, a1, a2, a3, a4, a5, a6, a7, a8]) (h' : Has wd k T' #[b0, b1, b2, b3, b4, b5, b6, b7, b8]) (hb : Below wd.heap.size wd W) : W.cell? ⟨g, 0, none⟩ = some a0 ∧ W.cell? ⟨g, 1, none⟩ = some a1 ∧ W.cell? ⟨g, 2, none⟩ = some a2 ∧ W.cell? ⟨g, 3, none⟩ = some a3 ∧ W.cell? ⟨g, 4, none⟩ = some a4 ∧ W.cell? ⟨g, 5, none⟩ = some a5 ∧ W.cell? ⟨g, 6, none⟩ = some a6 ∧ W.cell? ⟨g, 7, none⟩ = some a7 ∧ W.cell? ⟨g, 8, none⟩ = some a8 ∧ W.cell? ⟨k, 0, none⟩ = some b0 ∧ W.cell? ⟨k, 1, none⟩ = some b1 ∧ W.cell? ⟨k, 2, none⟩ = some b2 ∧ W.cell? ⟨k, 3, none⟩ = some b3 ∧ W.cell? ⟨k, 4, none⟩ = some b4 ∧ W.cell? ⟨k, 5, none⟩ = some b5 ∧ W.cell? ⟨k, 6, none⟩ = some b6 ∧ W.cell? ⟨k, 7, none⟩ = some b7 ∧ W.cell? ⟨k, 8, none⟩ = some b8 :=
  have x := h.below hb h.lt
  have y := h'.below hb h'.lt
  ⟨x.cell 0, x.cell 1, x.cell 2, x.cell 3, x.cell 4, x.cell 5, x.cell 6, x.cell 7, x.cell 8, y.cell 0, y.cell 1, y.cell 2, y.cell 3, y.cell 4, y.cell 5, y.cell 6, y.cell 7, y.cell 8⟩
theorem arm2_h {wd wb wc : World} {g : Nat} (hK : Below wd.heap.size wd wb) (hb : Below wb.heap.size wb wc) (h : Hid (Has wb g 31 z9)) : Below wd.heap.size wd wc ∧ Has wc g 31 z9 ∧ wb.heap.size ≤ wc.heap.size :=
  ⟨hK.trans (hb.mono hK.size), h.out.below hb h.out.lt, hb.size⟩
theorem arm2_b {wd wb wc : World} (hK : Below wd.heap.size wd wb) (hb : Below (wb.alloc (.cells z9 31)).heap.size (wb.alloc (.cells z9 31)) wc) : Below wd.heap.size wd wc ∧ Has wc wb.heap.size 31 z9 ∧ wb.heap.size + 1 ≤ wc.heap.size :=
  have h0 : Below wb.heap.size wb (wb.alloc (.cells z9 31)) := below_one _ _
  have h1 := h0.trans (hb.mono h0.size)
  ⟨hK.trans (h1.mono hK.size), (Has.new wb 31 z9).below hb (by simp), by have := hb.size; simpa using this⟩
theorem arm2_0 {wd wb wc : World} (hK : Below wd.heap.size wd wb) (hb : Below wb.heap.size wb wc) : Below wd.heap.size wd wc ∧ wb.heap.size ≤ wc.heap.size := ⟨hK.trans (hb.mono hK.size), hb.size⟩
theorem fin1 {wd wc : World} {s : Sm} (hK : Below wd.heap.size wd wc) : Below wd.heap.size wd (wc.alloc (.cells (scells s) 31)) ∧ Has (wc.alloc (.cells (scells s) 31)) wc.heap.size 31 (scells s) :=
  ⟨hK.trans ((below_one _ _).mono hK.size), Has.new _ _ _⟩
theorem fin2 {wd wb : World} {g : Nat} {s : Sm} (hK : Below wd.heap.size wd wb) (h9 : Has wb g 31 z9) (hg : wd.heap.size ≤ g) : Below wd.heap.size wd (((((((((wb.setCell ⟨g, 0, none⟩ (.int .i64 s.wa)).setCell ⟨g, 1, none⟩ (.int .i64 s.lv)).setCell ⟨g, 2, none⟩ (.int .i64 s.lh)).setCell ⟨g, 3, none⟩ (.int .i64 s.fv)).setCell ⟨g, 4, none⟩ (.int .i64 s.fh)).setCell ⟨g, 5, none⟩ (.int .i64 s.ch)).setCell ⟨g, 6, none⟩ (.int .i64 s.ai)).setCell ⟨g, 7, none⟩ (.int .i64 s.us)).setCell ⟨g, 8, none⟩ (.int .i64 s.bo)) ∧ Has (((((((((wb.setCell ⟨g, 0, none⟩ (.int .i64 s.wa)).setCell ⟨g, 1, none⟩ (.int .i64 s.lv)).setCell ⟨g, 2, none⟩ (.int .i64 s.lh)).setCell ⟨g, 3, none⟩ (.int .i64 s.fv)).setCell ⟨g, 4, none⟩ (.int .i64 s.fh)).setCell ⟨g, 5, none⟩ (.int .i64 s.ch)).setCell ⟨g, 6, none⟩ (.int .i64 s.ai)).setCell ⟨g, 7, none⟩ (.int .i64 s.us)).setCell ⟨g, 8, none⟩ (.int .i64 s.bo)) g 31 (scells s) := by
  obtain ⟨k, o⟩ := setA9 h9 (.int .i64 s.wa) (.int .i64 s.lv) (.int .i64 s.lh) (.int .i64 s.fv) (.int .i64 s.fh) (.int .i64 s.ch) (.int .i64 s.ai) (.int .i64 s.us) (.int .i64 s.bo)
  exact ⟨only_bl hK o hg, k⟩
set_option maxRecDepth 100000 in
set_option maxHeartbeats 4000000 in
theorem splitLaw_any (t : Sl) (ps : List Pp) (l : List Ev) (A A' : Option Addr) (cap cap' : Nat) (heat hroom cut : Int) (W : World) (hr : PRow W W.heap.size A ps) (he : ERow W W.heap.size A' l) (hm : ps.length ≤ maxLen) (hml : ∀ p ∈ ps, p.l.length ≤ maxLen) (hl : l.length ≤ 9223372036854775807) (hlc : l.length ≤ cap') (hc0 : 0 ≤ cut ∧ cut ≤ 255) :
    Calls Try.prog 7 #[brv t A ps.length cap heat hroom, .slice A' l.length cap', .int .u8 cut] W fun e W' => e = .returned (.bool true) ∧ Below W.heap.size W W' := by
  have hm2 : ps.length ≤ 9223372036854775807 := hm
  have hml2 : ∀ p ∈ ps, p.l.length ≤ 9223372036854775807 := hml
  have H0 := Lib.hid (Bxb.start W t ps A cap heat hroom l A' hr he)
  have HM := Lib.hid (And.intro hm (And.intro hml (And.intro hml2 (And.intro hlc hc0))))
  clear hr he hm hml hml2 hlc hc0
  cases hg : greatB ps
  case true =>
    have HG := Lib.hid hg
    clear hg
    go_enter Try.func7, Try.ntmps7
    go_wp2_with fail
    refine (great_any t ps heat hroom A cap _ H0.out.p hm2).mono ?_
    rw [HG.out]
    rintro e w1 ⟨rfl, hb1⟩
    have H1 := Lib.hid (H0.out.step hb1)
    clear hb1
    go_wp2_with fail
    refine (alive_any _).mono ?_
    rintro e wb ⟨rfl, hb⟩
    have HB := Lib.hid (H1.out.bl.trans (hb.mono H1.out.bl.size))
    clear hb
    go_wp2_with fail
    go_ret
    exact ⟨rfl, HB.out⟩
  have HG := Lib.hid hg
  clear hg
  by_cases h60 : (40 : Int) < l.length
  · go_enter Try.func7, Try.ntmps7
    go_wp2_with fail
    refine (great_any t ps heat hroom A cap _ H0.out.p hm2).mono ?_
    rw [HG.out]
    rintro e w1 ⟨rfl, hb1⟩
    have H1 := Lib.hid (H0.out.step hb1)
    clear hb1
    go_wp2_with fail
    refine (alive_any _).mono ?_
    rintro e wb ⟨rfl, hb⟩
    have HB := Lib.hid (H1.out.bl.trans (hb.mono H1.out.bl.size))
    clear hb
    go_wp2_with fail
    go_ret
    exact ⟨rfl, HB.out⟩
  have h60' : decide ((40 : Int) < l.length) = false := by simpa using h60
  go_enter Try.func7, Try.ntmps7
  go_wp2_with fail
  refine (great_any t ps heat hroom A cap _ H0.out.p hm2).mono ?_
  rw [HG.out]
  rintro e w1 ⟨rfl, hb1⟩
  have H1 := Lib.hid (H0.out.step hb1)
  have c0 : w1.cell? ⟨W.heap.size, 0, none⟩ = some (.int .i64 t.v) := H1.out.b.cell 0
  have c1 : w1.cell? ⟨W.heap.size, 1, none⟩ = some (.int .i64 t.h) := H1.out.b.cell 1
  have c2 : w1.cell? ⟨W.heap.size, 2, none⟩ = some (.slice A ps.length cap) := H1.out.b.cell 2
  have c3 : w1.cell? ⟨W.heap.size, 3, none⟩ = some (.int .i64 heat) := H1.out.b.cell 3
  have c4 : w1.cell? ⟨W.heap.size, 4, none⟩ = some (.int .i64 hroom) := H1.out.b.cell 4
  clear hb1
  go_wp2_with fail
  refine (play_any t ps l A A' cap cap' heat hroom w1 H1.out.p H1.out.e HM.out.1 HM.out.2.1 (by decide) hl).mono fun r w2 hpl0 => ?_
  have hpl := play_row hpl0
  clear hpl0
  have hb2 := hpl.1
  cases hx : (playR t ps heat hroom l).1
  case none =>
    obtain ⟨-, hpl⟩ := hpl
    rw [hx] at hpl
    subst hpl
    obtain ⟨hi, hne⟩ := play_none hx
    obtain ⟨i, hi0⟩ : ∃ i, i = (playR t ps heat hroom l).2.1 := ⟨_, rfl⟩
    obtain ⟨x, hx0⟩ : ∃ x, x = (playR t ps heat hroom l).2.2 := ⟨_, rfl⟩
    rw [← hi0] at hi ⊢
    rw [← hx0] at hne ⊢
    have hq : (x != 0) = true := by simpa using hne
    have H2 := Lib.hid (H1.out.bl.trans (hb2.mono H1.out.bl.size))
    clear hx hi hne hi0 hx0 hb2
    clear c0 c1 c2 c3 c4
    have hB0 : Below w2.heap.size w2 ((w2.alloc (.cells #[.int .i64 0, .int .i64 0, .slice none 0 0, .int .i64 0, .int .i64 0] 26)).alloc (.cells #[.int .i64 0, .int .i64 0, .int .i64 0, .int .i64 0, .int .i64 0, .int .i64 0, .int .i64 0, .int .i64 0, .int .i64 0] 31)) := (below_one _ _).alloc (by simp) _
    have HS0 := Lib.hid hB0
    clear hB0
    go_wp2_with fail
    refine (alive_any _).mono ?_
    rintro e wb ⟨rfl, hb⟩
    have HB := Lib.hid (H2.out.trans ((HS0.out.trans (hb.mono HS0.out.size)).mono H2.out.size))
    clear hb
    go_wp2_with fail
    go_ret
    exact ⟨rfl, HB.out⟩
  case some z =>
    obtain ⟨-, hpl⟩ := hpl
    rw [hx] at hpl
    obtain ⟨A5, cap5, rfl, hp5⟩ := hpl
    obtain ⟨hv, hbd, hz, hidx, her, h256⟩ := play_some hx
    have hfull : playR t ps heat hroom l = (some z, l.length, 0) := by
      rw [← hx, ← hidx, ← her]
    rw [hidx, her]
    obtain ⟨k, hk0⟩ : ∃ k : Nat, (k : Int) = cut.tmod ((l.length : Int) + 1) := by
      refine ⟨(cut.tmod ((l.length : Int) + 1)).toNat, ?_⟩
      have := Int.tmod_nonneg ((l.length : Int) + 1) HM.out.2.2.2.2.1
      omega
    have hkl : k ≤ l.length := by
      have := Int.tmod_lt_of_pos cut (show (0 : Int) < (l.length : Int) + 1 by omega)
      omega
    obtain ⟨m, hm1, hm2'⟩ := split_play hfull k hkl
    have HK := Lib.hid (And.intro hm1 (And.intro hm2' (And.intro hv (And.intro hbd (And.intro hz h256)))))
    have hC2 := H1.out.step hb2
    have hB0 : Below w2.heap.size w2 ((w2.alloc (.cells (bcells z.t A5 z.ps.length cap5 z.r.heat z.r.room) 26)).alloc (.cells (scells z.r.s) 31)) := (below_one _ _).alloc (by simp) _
    have hE0 : Has ((w2.alloc (.cells (bcells z.t A5 z.ps.length cap5 z.r.heat z.r.room) 26)).alloc (.cells (scells z.r.s) 31)) w2.heap.size 26 (bcells z.t A5 z.ps.length cap5 z.r.heat z.r.room) := (Has.new _ _ _).alloc _
    have hS0 : Has ((w2.alloc (.cells (bcells z.t A5 z.ps.length cap5 z.r.heat z.r.room) 26)).alloc (.cells (scells z.r.s) 31)) (w2.heap.size + 1) 31 (scells z.r.s) := Has.newAt (by simp)
    have H2 : Hid (Ks W ((w2.alloc (.cells (bcells z.t A5 z.ps.length cap5 z.r.heat z.r.room) 26)).alloc (.cells (scells z.r.s) 31)) t ps A cap heat hroom l A' z A5 cap5 w2.heap.size) :=
      ⟨hC2.step hB0, hE0, hS0, hp5.step hB0⟩
    clear hB0 hE0 hS0 hp5 hb2 hC2 hm1 hm2' hv hbd hz hidx her h256 hx hfull H1 c0 c1 c2 c3 c4
    have k1 : IntKind.i64.wrap ((l.length : Int) + 1) = (l.length : Int) + 1 := IntWalk.i64_in _ (by omega)
    have k2 : ¬ ((l.length : Int) + 1) = 0 := by omega
    have k3 : cut.tmod ((l.length : Int) + 1) = (k : Int) := hk0.symm
    have k4 : IntKind.i64.wrap cut = cut := IntWalk.i64_in _ (by have := HM.out.2.2.2.2; omega)
    have k5 : IntKind.i64.wrap (k : Int) = (k : Int) := IntWalk.i64_in _ (by omega)
    have HK0 := Lib.hid hk0
    clear hk0
    go_wp2_with fail
    obtain ⟨wd, hwd⟩ : ∃ wd, wd = ((w2.alloc (.cells (bcells z.t A5 z.ps.length cap5 z.r.heat z.r.room) 26)).alloc (.cells (scells z.r.s) 31)) := ⟨_, rfl⟩
    obtain ⟨B5, hB5⟩ : ∃ B5, B5 = w2.heap.size := ⟨_, rfl⟩
    rw [← hwd, ← hB5] at H2
    rw [← hwd, ← hB5]
    clear hwd hB5 w2
    obtain ⟨g, hg⟩ : ∃ g, g = W.heap.size := ⟨_, rfl⟩
    have HX := Lib.hid (show Has wd g 26 (bcells t A ps.length cap heat hroom) from hg ▸ H2.out.x.b)
    have HG := Lib.hid hg
    rw [← hg]
    clear hg
    have hgl := HX.out.lt
    have hsl : ∀ w, (Instr.sliceAt 27 (.slice A' l.length cap') none (some (.int .i64 k)) none).run Try.prog w = .ok (.slice A' k cap') w := cut_hi A' l.length cap' k (by have := HM.out.2.2.2.1; omega)
    clear k1 k2 k3 k4 k5
    go_cut [12, 13, 14, 15] (fun a b c d wx => ∃ x y A cap, a = .pointer (some ⟨x, 0, none⟩) ∧ b = .pointer (some ⟨y, 0, none⟩) ∧ c = .int .i64 k ∧ d = .int .i64 0 ∧ Hid (Twb wd wx x y m.t A m.ps.length cap m.r.heat m.r.room m.r.s m.ps))
    case first =>
      go_region_held3 (fun w' => w'.cell? ⟨g, 0, none⟩ = some (.int .i64 t.v) ∧ w'.cell? ⟨g, 1, none⟩ = some (.int .i64 t.h) ∧ w'.cell? ⟨g, 2, none⟩ = some (.slice A ps.length cap) ∧ w'.cell? ⟨g, 3, none⟩ = some (.int .i64 heat) ∧ w'.cell? ⟨g, 4, none⟩ = some (.int .i64 hroom)) ((refine keep5 HX.out ?_; repeat' (first | (with_reducible exact hK) | omega | (with_reducible exact Below.refl _ _) | (with_reducible apply below_dr) | (with_reducible refine Below.alloc ?_ ?_ _) | (with_reducible refine Below.setCell ?_ ?_ _) | simp))) ((go_at_call 14; refine (H2.out.half HK.out.1 hkl cap' HM.out.1 HM.out.2.1 hl (by first | exact below_dr (Below.refl _ _) | exact below_dr (below_one _ _) | exact below_dr ((below_one _ _).alloc (by simp) _))).mono ?_; rintro r wb ⟨A3, cap3, rfl, hb, hS⟩; (have HSS := Lib.hid hS); clear hS; (first | ((with_reducible have n := arm_ab hb); obtain ⟨hK, h5, h9, hz⟩ := n; (have HH := Lib.hid (And.intro h5 h9)); obtain ⟨⟨a0, a1, a2, a3, a4⟩, ⟨b0, b1, b2, b3, b4⟩, l5⟩ := new5 h5; obtain ⟨⟨c0, c1, c2, c3, c4, c5, c6, c7, c8⟩, ⟨d0, d1, d2, d3, d4, d5, d6, d7, d8⟩, l9⟩ := new9 h9; clear h5 h9) | ((with_reducible have n := arm_ba hb); obtain ⟨hK, h9, h5, hz⟩ := n; (have HH := Lib.hid (And.intro h5 h9)); obtain ⟨⟨a0, a1, a2, a3, a4⟩, ⟨b0, b1, b2, b3, b4⟩, l5⟩ := new5 h5; obtain ⟨⟨c0, c1, c2, c3, c4, c5, c6, c7, c8⟩, ⟨d0, d1, d2, d3, d4, d5, d6, d7, d8⟩, l9⟩ := new9 h9; clear h5 h9) | ((with_reducible have n := arm_a hb); obtain ⟨hK, h5, hz⟩ := n; (have HH := Lib.hid h5); obtain ⟨⟨a0, a1, a2, a3, a4⟩, ⟨b0, b1, b2, b3, b4⟩, l5⟩ := new5 h5; clear h5) | ((with_reducible have n := arm_b hb); obtain ⟨hK, h9, hz⟩ := n; (have HH := Lib.hid h9); obtain ⟨⟨c0, c1, c2, c3, c4, c5, c6, c7, c8⟩, ⟨d0, d1, d2, d3, d4, d5, d6, d7, d8⟩, l9⟩ := new9 h9; clear h9) | ((with_reducible have n := arm_0 hb); obtain ⟨hK, hz⟩ := n))))
      all_goals (try go_wp2_with fail)
      all_goals go_meet
      all_goals first
        | with_reducible exact ⟨_, _, _, _, rfl, rfl, rfl, rfl, Lib.hid (twb1 hK HSS.out)⟩
        | with_reducible exact ⟨_, _, _, _, rfl, rfl, rfl, rfl, Lib.hid (twb2 hK HSS.out)⟩
        | with_reducible exact ⟨_, _, _, _, rfl, rfl, rfl, rfl, Lib.hid (twb3 hK HSS.out HH.out (by simp) (Nat.le_refl _))⟩
        | with_reducible exact ⟨_, _, _, _, rfl, rfl, rfl, rfl, Lib.hid (twb4 hK HSS.out HH.out (by simp) (Nat.le_refl _))⟩
        | with_reducible exact ⟨_, _, _, _, rfl, rfl, rfl, rfl, Lib.hid (twb5 hK HSS.out HH.out.1 HH.out.2 (by omega) (by simp; try omega) (by simp; try omega) (by omega) (by omega))⟩
    case rest =>
      obtain ⟨x1, y1, A1, cap1, rfl, rfl, rfl, rfl, HT1⟩ := hcut
      have H3 : Hid (Kt W wc t ps A cap heat hroom l A' z A5 cap5 B5 m A1 cap1 x1 y1) :=
        ⟨H2.out.step HT1.out.bl, HT1.out.x, HT1.out.y, HT1.out.p⟩
      have HF : Hid (m.ps.length ≤ maxLen ∧ (∀ p ∈ m.ps, p.l.length ≤ maxLen) ∧ KFacts t ps heat hroom m) := by
        obtain ⟨hv, hbd, hz, hidx, her, h256⟩ := play_some (t := t) (ps := ps) (heat := heat) (hroom := hroom) (l := l.take k) (z := m) (by rw [HK.out.1])
        have hf := kfacts hv hbd h256
        rw [← hz] at hf
        have h1 := HM.out.1
        have hmx : maxLen ≥ 16 := by decide
        exact ⟨by rw [hf.len]; exact h1, fun p hp => by have := (hf.ok p hp).len; omega, hf⟩
      clear H2 HT1 HX HG hgl hsl
      clear wd
      have e0 : wc.cell? ⟨x1, 0, none⟩ = some (.int .i64 m.t.v) := H3.out.x.cell 0
      have e1 : wc.cell? ⟨x1, 1, none⟩ = some (.int .i64 m.t.h) := H3.out.x.cell 1
      have e2 : wc.cell? ⟨x1, 2, none⟩ = some (.slice A1 m.ps.length cap1) := H3.out.x.cell 2
      have e3 : wc.cell? ⟨x1, 3, none⟩ = some (.int .i64 m.r.heat) := H3.out.x.cell 3
      have e4 : wc.cell? ⟨x1, 4, none⟩ = some (.int .i64 m.r.room) := H3.out.x.cell 4
      have el := H3.out.x.lt
      have hqn : ((k : Int) != (k : Int)) = false := by simp
      go_wp2_with fail
      refine (brine_any m.t m.ps m.r.heat m.r.room A1 cap1 wc H3.out.p HF.out.1 HF.out.2.1).mono ?_
      rintro e w4 ⟨rfl, hb4⟩
      have H4 := Lib.hid (H3.out.step hb4)
      clear H3 hb4 e0 e1 e2 e3 e4 el hqn
      cases hbr : brineB m.t m.ps m.r.heat m.r.room
      case false =>
        go_wp2_with fail
        refine (alive_any _).mono ?_
        rintro e wb ⟨rfl, hb⟩
        have HB := Lib.hid (H4.out.k.x.bl.trans (hb.mono H4.out.k.x.bl.size))
        clear hb
        go_wp2_with fail
        go_ret
        exact ⟨rfl, HB.out⟩
      case true =>
        obtain ⟨y, hy, hzy⟩ := HK.out.2.1 hbr
        clear hbr
        obtain ⟨n, hn⟩ : ∃ n, n = l.length - k := ⟨_, rfl⟩
        obtain ⟨A6, hA6⟩ : ∃ A6, A6 = offA A' cap' k := ⟨_, rfl⟩
        obtain ⟨c6, hc6⟩ : ∃ c6, c6 = cap' - k := ⟨_, rfl⟩
        obtain ⟨u, hu⟩ : ∃ u, u = y.r.s := ⟨_, rfl⟩
        rw [← hn] at hy
        have HCC : Hid (∀ wa, Below w4.heap.size w4 wa → Calls Try.prog 14 #[brv m.t A1 m.ps.length cap1 m.r.heat m.r.room, .slice A6 n c6] wa (POPost z.t z.ps z.r.heat z.r.room u n wa)) := by
          intro wa hb
          have := H4.out.half hy hn HM.out.2.2.2.1 HF.out.1 HF.out.2.1 hl hb
          rw [hA6, hc6, hzy, hu]
          exact this
        have hsl : ∀ w, (Instr.sliceAt 27 (.slice A' l.length cap') (some (.int .i64 k)) none none).run Try.prog w = .ok (.slice A6 n c6) w := fun w => by rw [hn, hA6, hc6]; exact cut_lo A' l.length cap' k hkl w
        have HS : Hid (z.r.s = m.r.s.add u) := by show z.r.s = m.r.s.add u; rw [hzy, hu]; rfl
        have HN := Lib.hid hn
        clear hy hzy hn hA6 hc6 hu y
        go_wp2_with fail
        have hgl := H4.out.x.lt
        go_cut [16, 17, 18, 19] (fun a b c d wx => ∃ x y' A cap, a = .pointer (some ⟨x, 0, none⟩) ∧ b = .pointer (some ⟨y', 0, none⟩) ∧ c = .int .i64 n ∧ d = .int .i64 0 ∧ Hid (Twb w4 wx x y' z.t A z.ps.length cap z.r.heat z.r.room u z.ps))
        case first =>
          go_region_held3 (fun w' => w'.cell? ⟨x1, 0, none⟩ = some (.int .i64 m.t.v) ∧ w'.cell? ⟨x1, 1, none⟩ = some (.int .i64 m.t.h) ∧ w'.cell? ⟨x1, 2, none⟩ = some (.slice A1 m.ps.length cap1) ∧ w'.cell? ⟨x1, 3, none⟩ = some (.int .i64 m.r.heat) ∧ w'.cell? ⟨x1, 4, none⟩ = some (.int .i64 m.r.room)) ((refine keep5 H4.out.x ?_; repeat' (first | (with_reducible exact hK) | omega | (with_reducible exact Below.refl _ _) | (with_reducible apply below_dr) | (with_reducible refine Below.alloc ?_ ?_ _) | (with_reducible refine Below.setCell ?_ ?_ _) | simp))) ((go_at_call 14; refine (HCC.out _ (by first | exact below_dr (Below.refl _ _) | exact below_dr (below_one _ _) | exact below_dr ((below_one _ _).alloc (by simp) _))).mono ?_; rintro r wb ⟨A3, cap3, rfl, hb, hS⟩; (have HSS := Lib.hid hS); clear hS; (first | ((with_reducible have n := arm_ab hb); obtain ⟨hK, h5, h9, hz⟩ := n; (have HH := Lib.hid (And.intro h5 h9)); obtain ⟨⟨a0, a1, a2, a3, a4⟩, ⟨b0, b1, b2, b3, b4⟩, l5⟩ := new5 h5; obtain ⟨⟨c0, c1, c2, c3, c4, c5, c6, c7, c8⟩, ⟨d0, d1, d2, d3, d4, d5, d6, d7, d8⟩, l9⟩ := new9 h9; clear h5 h9) | ((with_reducible have n := arm_ba hb); obtain ⟨hK, h9, h5, hz⟩ := n; (have HH := Lib.hid (And.intro h5 h9)); obtain ⟨⟨a0, a1, a2, a3, a4⟩, ⟨b0, b1, b2, b3, b4⟩, l5⟩ := new5 h5; obtain ⟨⟨c0, c1, c2, c3, c4, c5, c6, c7, c8⟩, ⟨d0, d1, d2, d3, d4, d5, d6, d7, d8⟩, l9⟩ := new9 h9; clear h5 h9) | ((with_reducible have n := arm_a hb); obtain ⟨hK, h5, hz⟩ := n; (have HH := Lib.hid h5); obtain ⟨⟨a0, a1, a2, a3, a4⟩, ⟨b0, b1, b2, b3, b4⟩, l5⟩ := new5 h5; clear h5) | ((with_reducible have n := arm_b hb); obtain ⟨hK, h9, hz⟩ := n; (have HH := Lib.hid h9); obtain ⟨⟨c0, c1, c2, c3, c4, c5, c6, c7, c8⟩, ⟨d0, d1, d2, d3, d4, d5, d6, d7, d8⟩, l9⟩ := new9 h9; clear h9) | ((with_reducible have n := arm_0 hb); obtain ⟨hK, hz⟩ := n))))
          all_goals (try go_wp2_with fail)
          all_goals go_meet
          all_goals first
            | with_reducible exact ⟨_, _, _, _, rfl, rfl, rfl, rfl, Lib.hid (twb1 hK HSS.out)⟩
            | with_reducible exact ⟨_, _, _, _, rfl, rfl, rfl, rfl, Lib.hid (twb2 hK HSS.out)⟩
            | with_reducible exact ⟨_, _, _, _, rfl, rfl, rfl, rfl, Lib.hid (twb3 hK HSS.out HH.out (by simp) (Nat.le_refl _))⟩
            | with_reducible exact ⟨_, _, _, _, rfl, rfl, rfl, rfl, Lib.hid (twb4 hK HSS.out HH.out (by simp) (Nat.le_refl _))⟩
            | with_reducible exact ⟨_, _, _, _, rfl, rfl, rfl, rfl, Lib.hid (twb5 hK HSS.out HH.out.1 HH.out.2 (by omega) (by simp; try omega) (by simp; try omega) (by omega) (by omega))⟩
        case rest =>
          obtain ⟨x2, y2, A2, cap2, rfl, rfl, rfl, rfl, HT2⟩ := hcut
          have H5 : Hid (Kt W wc t ps A cap heat hroom l A' z A5 cap5 B5 m A1 cap1 x1 y1 ∧ Has wc x2 26 (bcells z.t A2 z.ps.length cap2 z.r.heat z.r.room) ∧ Has wc y2 31 (scells u) ∧ PRow wc wc.heap.size A2 z.ps) :=
            ⟨H4.out.step HT2.out.bl, HT2.out.x, HT2.out.y, HT2.out.p⟩
          clear HCC H4 HT2 hsl hgl
          clear w4
          obtain ⟨w5, rfl⟩ : ∃ w5, w5 = wc := ⟨_, rfl⟩
          go_wp2_with fail
          have hy1 := H5.out.1.y.lt
          have hy2 := H5.out.2.2.1.lt
          have HP : Hid ((∀ wa, Calls Try.prog 28 #[.agg #[.int .i64 m.r.s.lv, .int .i64 m.r.s.lh], .agg #[.int .i64 u.lv, .int .i64 u.lh]] wa fun e W' => e = .returned (.agg #[.int .i64 z.r.s.lv, .int .i64 z.r.s.lh]) ∧ Below wa.heap.size wa W') ∧ (∀ wa, Calls Try.prog 28 #[.agg #[.int .i64 m.r.s.fv, .int .i64 m.r.s.fh], .agg #[.int .i64 u.fv, .int .i64 u.fh]] wa fun e W' => e = .returned (.agg #[.int .i64 z.r.s.fv, .int .i64 z.r.s.fh]) ∧ Below wa.heap.size wa W')) := (sums_in HK.out.2.2.1 HK.out.2.2.2.1 HK.out.2.2.2.2.1 HK.out.2.2.2.2.2 HS.out).1
          have hw : IntKind.i64.wrap (m.r.s.wa + u.wa) = z.r.s.wa ∧ IntKind.i64.wrap (m.r.s.ch + u.ch) = z.r.s.ch ∧ IntKind.i64.wrap (m.r.s.ai + u.ai) = z.r.s.ai ∧ IntKind.i64.wrap (m.r.s.us + u.us) = z.r.s.us ∧ IntKind.i64.wrap (m.r.s.bo + u.bo) = z.r.s.bo := (sums_in HK.out.2.2.1 HK.out.2.2.2.1 HK.out.2.2.2.2.1 HK.out.2.2.2.2.2 HS.out).2
          obtain ⟨hw1, hw2, hw3, hw4, hw5⟩ := hw
          go_cut [21] (fun a wx => ∃ x, a = .pointer (some ⟨x, 0, none⟩) ∧ Hid (Below w5.heap.size w5 wx ∧ Has wx x 31 (scells z.r.s)))
          case first =>
            go_region_held3 (fun w' => w'.cell? ⟨y1, 0, none⟩ = some (.int .i64 m.r.s.wa) ∧ w'.cell? ⟨y1, 1, none⟩ = some (.int .i64 m.r.s.lv) ∧ w'.cell? ⟨y1, 2, none⟩ = some (.int .i64 m.r.s.lh) ∧ w'.cell? ⟨y1, 3, none⟩ = some (.int .i64 m.r.s.fv) ∧ w'.cell? ⟨y1, 4, none⟩ = some (.int .i64 m.r.s.fh) ∧ w'.cell? ⟨y1, 5, none⟩ = some (.int .i64 m.r.s.ch) ∧ w'.cell? ⟨y1, 6, none⟩ = some (.int .i64 m.r.s.ai) ∧ w'.cell? ⟨y1, 7, none⟩ = some (.int .i64 m.r.s.us) ∧ w'.cell? ⟨y1, 8, none⟩ = some (.int .i64 m.r.s.bo) ∧ w'.cell? ⟨y2, 0, none⟩ = some (.int .i64 u.wa) ∧ w'.cell? ⟨y2, 1, none⟩ = some (.int .i64 u.lv) ∧ w'.cell? ⟨y2, 2, none⟩ = some (.int .i64 u.lh) ∧ w'.cell? ⟨y2, 3, none⟩ = some (.int .i64 u.fv) ∧ w'.cell? ⟨y2, 4, none⟩ = some (.int .i64 u.fh) ∧ w'.cell? ⟨y2, 5, none⟩ = some (.int .i64 u.ch) ∧ w'.cell? ⟨y2, 6, none⟩ = some (.int .i64 u.ai) ∧ w'.cell? ⟨y2, 7, none⟩ = some (.int .i64 u.us) ∧ w'.cell? ⟨y2, 8, none⟩ = some (.int .i64 u.bo)) ((refine keep18 H5.out.1.y H5.out.2.2.1 ?_; repeat' (first | (with_reducible exact hK2) | (with_reducible exact hK) | omega | (with_reducible exact Below.refl _ _) | (with_reducible apply below_dr) | (with_reducible refine Below.alloc ?_ ?_ _) | (with_reducible refine Below.setCell ?_ ?_ _) | simp))) ((go_at_call 28; first | ((with_reducible refine (HP.out.1 _).mono ?_); rintro r wb ⟨rfl, hb⟩; (first | ((with_reducible have n9 := arm_b hb); obtain ⟨hK, h9, hz⟩ := n9; (have HH := Lib.hid h9); obtain ⟨⟨c0, c1, c2, c3, c4, c5, c6, c7, c8⟩, ⟨d0, d1, d2, d3, d4, d5, d6, d7, d8⟩, l9⟩ := new9 h9; clear h9) | ((with_reducible have n9 := arm_0 hb); obtain ⟨hK, hz⟩ := n9))) | ((with_reducible refine (HP.out.2 _).mono ?_); rintro r wb2 ⟨rfl, hb2⟩; (first | ((with_reducible have n9 := arm2_h hK hb2 HH); obtain ⟨hK2, h9, hz2⟩ := n9; (have HH2 := Lib.hid h9); obtain ⟨⟨c0', c1', c2', c3', c4', c5', c6', c7', c8'⟩, ⟨d0', d1', d2', d3', d4', d5', d6', d7', d8'⟩, l9'⟩ := new9 h9; clear h9) | ((with_reducible have n9 := arm2_b hK hb2); obtain ⟨hK2, h9, hz2⟩ := n9; (have HH2 := Lib.hid h9); obtain ⟨⟨c0', c1', c2', c3', c4', c5', c6', c7', c8'⟩, ⟨d0', d1', d2', d3', d4', d5', d6', d7', d8'⟩, l9'⟩ := new9 h9; clear h9) | ((with_reducible have n9 := arm2_0 hK hb2); obtain ⟨hK2, hz2⟩ := n9)))))
            all_goals (try go_wp2_with fail)
            all_goals go_meet
            all_goals first
              | with_reducible exact ⟨_, rfl, Lib.hid (fin1 hK2)⟩
              | with_reducible exact ⟨_, rfl, Lib.hid (fin2 hK2 HH2.out (by omega))⟩
          case rest =>
            obtain ⟨x9, rfl, H9⟩ := hcut
            have H6 : Hid (Kt W wc t ps A cap heat hroom l A' z A5 cap5 B5 m A1 cap1 x1 y1 ∧ Has wc x2 26 (bcells z.t A2 z.ps.length cap2 z.r.heat z.r.room) ∧ PRow wc wc.heap.size A2 z.ps ∧ Has wc x9 31 (scells z.r.s)) :=
              ⟨H5.out.1.step H9.out.1, H5.out.2.1.below H9.out.1 H5.out.2.1.lt, H5.out.2.2.2.step H9.out.1, H9.out.2⟩
            clear H5 H9 HP hy1 hy2 hw1 hw2 hw3 hw4 hw5
            have HZ : Hid (z.ps.length ≤ 9223372036854775807 ∧ ∀ p ∈ z.ps, p.l.length ≤ 9223372036854775807) := by
              have hf := kfacts HK.out.2.2.1 HK.out.2.2.2.1 HK.out.2.2.2.2.2
              rw [← HK.out.2.2.2.2.1] at hf
              exact ⟨by rw [hf.len]; exact hm2, fun p hp => by have := (hf.ok p hp).len; omega⟩
            have kw : IntKind.i64.wrap ((l.length : Int) - (k : Int)) = (n : Int) := by
              have := HN.out
              rw [IntWalk.i64_in _ (by omega)]; omega
            have hqn : ((n : Int) == (n : Int)) = true := by simp
            have f0 : wc.cell? ⟨x2, 0, none⟩ = some (.int .i64 z.t.v) := H6.out.2.1.cell 0
            have f1 : wc.cell? ⟨x2, 1, none⟩ = some (.int .i64 z.t.h) := H6.out.2.1.cell 1
            have f2 : wc.cell? ⟨x2, 2, none⟩ = some (.slice A2 z.ps.length cap2) := H6.out.2.1.cell 2
            have f3 : wc.cell? ⟨x2, 3, none⟩ = some (.int .i64 z.r.heat) := H6.out.2.1.cell 3
            have f4 : wc.cell? ⟨x2, 4, none⟩ = some (.int .i64 z.r.room) := H6.out.2.1.cell 4
            have g0 : wc.cell? ⟨B5, 0, none⟩ = some (.int .i64 z.t.v) := H6.out.1.k.e.cell 0
            have g1 : wc.cell? ⟨B5, 1, none⟩ = some (.int .i64 z.t.h) := H6.out.1.k.e.cell 1
            have g2 : wc.cell? ⟨B5, 2, none⟩ = some (.slice A5 z.ps.length cap5) := H6.out.1.k.e.cell 2
            have g3 : wc.cell? ⟨B5, 3, none⟩ = some (.int .i64 z.r.heat) := H6.out.1.k.e.cell 3
            have g4 : wc.cell? ⟨B5, 4, none⟩ = some (.int .i64 z.r.room) := H6.out.1.k.e.cell 4
            have fl := H6.out.2.1.lt
            have gl := H6.out.1.k.e.lt
            go_wp2_with fail
            refine (same_any z.t z.ps z.r.heat z.r.room A2 A5 cap2 cap5 wc H6.out.2.2.1 H6.out.1.k.q HZ.out.1 HZ.out.2).mono ?_
            rintro e w6 ⟨rfl, hb6⟩
            have H7 : Hid (Below W.heap.size W w6 ∧ Has w6 x9 31 (scells z.r.s) ∧ Has w6 (B5 + 1) 31 (scells z.r.s)) :=
              ⟨(H6.out.1.step hb6).k.x.bl, H6.out.2.2.2.below hb6 H6.out.2.2.2.lt, H6.out.1.k.s.below hb6 H6.out.1.k.s.lt⟩
            clear hb6 f0 f1 f2 f3 f4 g0 g1 g2 g3 g4 fl gl H6
            have f0 : w6.cell? ⟨x9, 0, none⟩ = some (.int .i64 z.r.s.wa) := H7.out.2.1.cell 0
            have f1 : w6.cell? ⟨x9, 1, none⟩ = some (.int .i64 z.r.s.lv) := H7.out.2.1.cell 1
            have f2 : w6.cell? ⟨x9, 2, none⟩ = some (.int .i64 z.r.s.lh) := H7.out.2.1.cell 2
            have f3 : w6.cell? ⟨x9, 3, none⟩ = some (.int .i64 z.r.s.fv) := H7.out.2.1.cell 3
            have f4 : w6.cell? ⟨x9, 4, none⟩ = some (.int .i64 z.r.s.fh) := H7.out.2.1.cell 4
            have f5 : w6.cell? ⟨x9, 5, none⟩ = some (.int .i64 z.r.s.ch) := H7.out.2.1.cell 5
            have f6 : w6.cell? ⟨x9, 6, none⟩ = some (.int .i64 z.r.s.ai) := H7.out.2.1.cell 6
            have f7 : w6.cell? ⟨x9, 7, none⟩ = some (.int .i64 z.r.s.us) := H7.out.2.1.cell 7
            have f8 : w6.cell? ⟨x9, 8, none⟩ = some (.int .i64 z.r.s.bo) := H7.out.2.1.cell 8
            have g0 : w6.cell? ⟨B5 + 1, 0, none⟩ = some (.int .i64 z.r.s.wa) := H7.out.2.2.cell 0
            have g1 : w6.cell? ⟨B5 + 1, 1, none⟩ = some (.int .i64 z.r.s.lv) := H7.out.2.2.cell 1
            have g2 : w6.cell? ⟨B5 + 1, 2, none⟩ = some (.int .i64 z.r.s.lh) := H7.out.2.2.cell 2
            have g3 : w6.cell? ⟨B5 + 1, 3, none⟩ = some (.int .i64 z.r.s.fv) := H7.out.2.2.cell 3
            have g4 : w6.cell? ⟨B5 + 1, 4, none⟩ = some (.int .i64 z.r.s.fh) := H7.out.2.2.cell 4
            have g5 : w6.cell? ⟨B5 + 1, 5, none⟩ = some (.int .i64 z.r.s.ch) := H7.out.2.2.cell 5
            have g6 : w6.cell? ⟨B5 + 1, 6, none⟩ = some (.int .i64 z.r.s.ai) := H7.out.2.2.cell 6
            have g7 : w6.cell? ⟨B5 + 1, 7, none⟩ = some (.int .i64 z.r.s.us) := H7.out.2.2.cell 7
            have g8 : w6.cell? ⟨B5 + 1, 8, none⟩ = some (.int .i64 z.r.s.bo) := H7.out.2.2.cell 8
            have fl := H7.out.2.1.lt
            have gl := H7.out.2.2.lt
            have hq31 : ∀ w, (binOp .eql 31 (smv z.r.s) (smv z.r.s)).run Try.prog w = .ok (.bool true) w := fun w => eql31s z.r.s w
            go_wp2_with fail
            refine (alive_any _).mono ?_
            rintro e wb ⟨rfl, hb⟩
            have HB := Lib.hid (H7.out.1.trans (hb.mono H7.out.1.size))
            clear hb
            go_wp2_with fail
            go_ret
            exact ⟨rfl, HB.out⟩
end Go.Proofs.Ytjfopmjphiddiaa
