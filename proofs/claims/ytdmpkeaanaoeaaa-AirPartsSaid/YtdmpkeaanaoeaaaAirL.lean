/- Collect, moments, what is deferred in inspect. -/
import Derived.Test.YtdmpkeaanaoeaaaAirK
import Derived.RecoverIn
namespace Go.Proofs.Ytdmpkeaanaoeaaa
open Go.RowKit Go.Shelf
set_option maxRecDepth 100000 in
set_option maxHeartbeats 2000000 in
theorem collect_any (a : Air) (A B : Option Addr) (ca cb : Nat) (L : List Stp) (AL : Option Addr) (cl Bl Ba : Nat) (w : World) (hI : MIt w Bl Ba a A B ca cb L AL cl) (hL : L.length ≤ 200) (hv : VA a) :
    Calls Try.prog 57 #[.func (.func 64) #[] #[.pointer (some ⟨Bl, 0, none⟩), .pointer (some ⟨Ba, 0, none⟩)]] w (SeqPost a L w) := by
  have HC := Lib.hid (appendSeq_any a A B ca cb L AL cl Bl Ba w hI hL hv)
  clear hI hL hv
  go_enter Try.func57, Try.ntmps57
  go_wp2_with fail
  refine HC.out.mono ?_
  rintro e w' ⟨hb, (⟨hg, v, rfl, ho⟩ | ⟨hg, rfl⟩)⟩
  · have HX := Lib.hid (And.intro hb (And.intro hg ho))
    clear hb hg ho
    go_wp2
    go_ret
    exact ⟨HX.out.1, .inl ⟨HX.out.2.1, v, rfl, HX.out.2.2⟩⟩
  · have HX := Lib.hid (And.intro hb hg)
    clear hb hg
    go_wp2
    exact ⟨rfl, HX.out.1, .inr ⟨HX.out.2, rfl⟩⟩
def mkM (W : World) (a : Air) (A B : Option Addr) (ca cb : Nat) (AL : Option Addr) (n cl : Nat) : World := (W.alloc (.cells (airc a A B ca cb) 26)).alloc (.cells #[.slice AL n cl] 27)
set_option maxRecDepth 100000 in
theorem moments_any (a : Air) (A B : Option Addr) (ca cb : Nat) (AL : Option Addr) (n cl : Nat) (W : World) :
    Calls Try.prog 58 #[airv a A B ca cb, .slice AL n cl] W fun e W' => e = .returned (.func (.func 64) #[] #[.pointer (some ⟨W.heap.size + 1, 0, none⟩), .pointer (some ⟨W.heap.size, 0, none⟩)]) ∧ W' = mkM W a A B ca cb AL n cl := by
  have hmf : ∀ (fn : Fn) (first cap : Array Value) (w : World), (Instr.makeFunc fn first cap).run Try.prog w = .ok (.func fn first cap) w := fun _ _ _ _ => rfl
  unfold airv
  go_enter Try.func58, Try.ntmps58
  go_wp2
  go_ret
  exact ⟨rfl, rfl⟩
theorem mkM_in {W : World} {a : Air} {A B : Option Addr} {ca cb : Nat} {AL : Option Addr} {cl : Nat} {L : List Stp} (hr : SRow W W.heap.size AL L) (har : AR W W.heap.size a A B) :
    MIt (mkM W a A B ca cb AL L.length cl) (W.heap.size + 1) W.heap.size a A B ca cb L AL cl ∧ Below W.heap.size W (mkM W a A B ca cb AL L.length cl) := by
  have hb := (below_one W (.cells (airc a A B ca cb) 26)).alloc (by simp) (.cells #[.slice AL L.length cl] 27)
  have h2 := Has.new (W.alloc (.cells (airc a A B ca cb) 26)) 27 #[.slice AL L.length cl]
  simp only [World.size_alloc] at h2
  exact ⟨⟨h2, (box_air W a A B ca cb).alloc _, hr.step hb, har.step hb⟩, hb⟩
theorem catch_err_in (p q : Addr) (w : World) (n : Nat) (x y : Value) (hc : w.cell? p = some x) (hz : w.frozen? p = false) (hc2 : w.cell? q = some y) (hz2 : w.frozen? q = false) (hpq : ¬ p = q) (older : List PanicEntry) :
    CallsDIn Fence.wide n Try.prog 56 #[.pointer (some p), .pointer (some q)] (.panicking ({ v := argE, recovered := false } :: older)) w fun e u' w' =>
      e = .returned (.tuple #[]) ∧ u' = .panicking ({ v := argE, recovered := true } :: older) ∧ w' = (w.setCell p (.slice none 0 0)).setCell q (.int .i64 1) := by
  have hqp : ¬ q = p := fun h => hpq h.symm
  have hne : ∀ w, (binOp .neq 20 (.iface 30 (.int .i64 1)) .nilIface).run Try.prog w = .ok (.bool true) w := fun _ => by kernel_rfl
  simp only [argE]
  refine callsDIn_of_wpSIn Try.func56 rfl trivial fun c₀ cs hu => ?_
  apply wpSIn_seq
  apply wpSIn_region
  simp [wpOpsSIn, go_sem, recoverD, hu, Try.ntmps56, Exit.thenS, Fence.wide]
  refine wpSIn_of_wpIn rfl (wpIn_wide.2 ?_)
  go_wp2
  cases c₀
  simp_all [bodyPostS, results, Try.results56]
theorem catch_none_in (p q : Addr) (w : World) (n : Nat) :
    CallsDIn Fence.wide n Try.prog 56 #[.pointer (some p), .pointer (some q)] .returning w fun e u' w' => e = .returned (.tuple #[]) ∧ u' = .returning ∧ w' = w := by
  refine callsDIn_of_wpSIn Try.func56 rfl trivial fun c₀ cs hu => ?_
  apply wpSIn_seq
  apply wpSIn_region
  simp [wpOpsSIn, go_sem, recoverD, hu, Try.ntmps56, Exit.thenS, Fence.wide]
  refine wpSIn_of_wpIn rfl (wpIn_wide.2 ?_)
  have hne : ∀ w, (binOp .neq 20 .nilIface .nilIface).run Try.prog w = .ok (.bool false) w := fun _ => by kernel_rfl
  go_wp2
  cases c₀
  simp_all [bodyPostS, results, Try.results56]
end Go.Proofs.Ytdmpkeaanaoeaaa
