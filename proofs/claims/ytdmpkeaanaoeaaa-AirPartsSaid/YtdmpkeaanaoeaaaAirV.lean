/- Fog; Dryer. -/
import Derived.Test.YtdmpkeaanaoeaaaAirU
namespace Go.Proofs.Ytdmpkeaanaoeaaa
open Go.RowKit Go.Shelf
def fogR (a : Air) (lo hi : Int) (L : List Stp) : Int × Int × Int :=
  if insB a lo hi L = true then
    (if fogP hi (msOf a L) L.length < 0 then (0, 0, 4) else (fogS lo (msOf a L) L.length, fogP hi (msOf a L) L.length, 0))
  else (0, 0, 1)
def TripPost (x : Int × Int × Int) (W : World) (e : Ending) (W' : World) : Prop :=
  e = .returned (.tuple #[.int .i64 x.1, .int .i64 x.2.1, .int .i64 x.2.2]) ∧ Below W.heap.size W W'
/-- air and water are boxed -/
structure AW (W w : World) (a : Air) (A B : Option Addr) (ca cb : Nat) (lo hi : Int) : Prop where
  b : Below W.heap.size W w
  fa : Has w W.heap.size 26 (airc a A B ca cb)
  fw : Has w (W.heap.size + 1) 24 #[.int .i64 lo, .int .i64 hi]
theorem AW.step {W w w' : World} {a : Air} {A B : Option Addr} {ca cb : Nat} {lo hi : Int} (h : AW W w a A B ca cb lo hi) (hb : Below w.heap.size w w') : AW W w' a A B ca cb lo hi :=
  ⟨h.b.trans (hb.mono h.b.size), h.fa.below hb h.fa.lt, h.fw.below hb h.fw.lt⟩
theorem box_aw (W : World) (a : Air) (A B : Option Addr) (ca cb : Nat) (lo hi : Int) : AW W ((W.alloc (.cells (airc a A B ca cb) 26)).alloc (.cells #[.int .i64 lo, .int .i64 hi] 24)) a A B ca cb lo hi :=
  ⟨(below_one W _).alloc (by simp) _, (box_air W a A B ca cb).alloc _, has_newAt (by simp)⟩
set_option maxRecDepth 100000 in
set_option maxHeartbeats 4000000 in
theorem Fog_any (a : Air) (A0 B0 : Option Addr) (ca cb : Nat) (lo hi : Int) (L : List Stp) (AL : Option Addr) (cL : Nat) (W : World) (har : AR W W.heap.size a A0 B0) (hr : SRow W W.heap.size AL L) (hL : L.length ≤ 9223372036854775807) :
    Calls Try.prog 15 #[airv a A0 B0 ca cb, .agg #[.int .i64 lo, .int .i64 hi], .slice AL L.length cL] W (TripPost (fogR a lo hi L) W) := by
  have H0 := Lib.hid (And.intro har hr)
  have HI := Lib.hid (fun w h1 h2 => inspect_any a A0 B0 ca cb lo hi L AL cL w h1 h2 hL)
  have HB := Lib.hid (box_aw W a A0 B0 ca cb lo hi)
  have hlen := Lib.hid (msOf_len a L)
  unfold airv at *
  clear har hr
  obtain ⟨R, hR⟩ : ∃ R, R = fogR a lo hi L := ⟨_, rfl⟩
  rw [← hR]
  have HRE := Lib.hid hR
  clear hR
  go_enter Try.func15, Try.ntmps15
  go_wp2_with fail
  generalize (W.alloc (.cells (airc a A0 B0 ca cb) 26)).alloc (.cells #[.int .i64 lo, .int .i64 hi] 24) = w0 at HB ⊢
  refine (HI.out _ (H0.out.1.step HB.out.b) (H0.out.2.step HB.out.b)).mono ?_
  rintro e w1 ⟨hb1, (⟨hg, v, rfl, ho⟩ | ⟨hg, rfl⟩)⟩
  · obtain ⟨A, cl, rfl, hrow⟩ := own_row (v := v) (ms := msOf a L) (by rw [hlen.out]; exact ho)
    have hgl := ins_gl hg
    have HF := Lib.hid (fun w h => fog_any lo hi (msOf a L) A cl w hgl h)
    have HRow := Lib.hid hrow.row
    have HG := Lib.hid hg
    have H1 := Lib.hid (HB.out.step hb1)
    clear hb1 hg ho hrow hgl
    have c0 : w1.cell? ⟨W.heap.size + 1, 0, none⟩ = some (.int .i64 lo) := H1.out.fw.cell 0
    have c1 : w1.cell? ⟨W.heap.size + 1, 1, none⟩ = some (.int .i64 hi) := H1.out.fw.cell 1
    obtain ⟨ms, hms⟩ : ∃ ms, ms = msOf a L := ⟨_, rfl⟩
    rw [← hms] at HF HRow ⊢
    have HMS := Lib.hid hms
    clear hms
    go_wp2_with fail
    refine (HF.out _ HRow.out).mono ?_
    rintro e w2 ⟨rfl, hb2⟩
    have H2 := Lib.hid (H1.out.step hb2)
    have HR2 : Hid (R = if fogP hi ms ms.length < 0 then (0, 0, 4) else (fogS lo ms ms.length, fogP hi ms ms.length, 0)) := by
      show _ = _
      rw [HRE.out]
      unfold fogR
      rw [if_pos HG.out, ← HMS.out, HMS.out, hlen.out]
    obtain ⟨x, hx⟩ : ∃ x, x = fogS lo ms ms.length := ⟨_, rfl⟩
    obtain ⟨y, hy⟩ : ∃ y, y = fogP hi ms ms.length := ⟨_, rfl⟩
    rw [← hx, ← hy] at HR2 ⊢
    clear hb2 c0 c1 hx hy
    by_cases hneg : y < 0
    · have HX := Lib.hid (show R = (0, 0, 4) by rw [HR2.out, if_pos hneg])
      go_wp2_with fail
      refine bodyPost_ret (results_tmp3 rfl _ _ _) rfl ?_
      exact ⟨by rw [HX.out]; rfl, H2.out.b⟩
    · have HX := Lib.hid (show R = (x, y, 0) by rw [HR2.out, if_neg hneg])
      go_wp2_with fail
      refine bodyPost_ret (results_tmp3 rfl _ _ _) rfl ?_
      exact ⟨by rw [HX.out]; rfl, H2.out.b⟩
  · have HX := Lib.hid (show R = (0, 0, 1) by rw [HRE.out]; unfold fogR; rw [if_neg (by rw [hg]; simp)])
    have H1 := Lib.hid (HB.out.step hb1)
    clear hb1 hg
    go_wp2_with fail
    refine bodyPost_ret (results_tmp3 rfl _ _ _) rfl ?_
    exact ⟨by rw [HX.out]; rfl, H1.out.b⟩
end Go.Proofs.Ytdmpkeaanaoeaaa
