/- The document's example. -/
import Derived.Test.YtmclchaalmonnaaScX
namespace Go.Proofs.Ytmclchaalmonnaa
open Go.RowKit Go.Lib
def sampleR : Ru := ⟨[800, 500, 420], 160, 2⟩
def sampleS : Sk := ⟨[⟨1, 0, 0, false, false, [2, 3, 1, 2, -1]⟩, ⟨2, 1, 1, true, true, [-5, -5, -4, -5, -3]⟩, ⟨3, 2, 0, false, false, [0, 0, 0, 0, 0]⟩], [[28, 30, 29, 31, 27], [24, 24, 24, 24, 24], [26, 26, 25, 27, 40]], 7⟩
def SamPost (W : World) (e : Ending) (W' : World) : Prop := ∃ A c AC AP cc cp, e = .returned (.tuple #[ruv sampleR A c, skv sampleS AC AP cc cp]) ∧ RuR W' W'.heap.size sampleR A ∧ SkR W' W'.heap.size sampleS AC AP ∧ sampleR.bases.length ≤ c ∧ sampleS.calls.length ≤ cc ∧ Below W.heap.size W W'
theorem irow_has {w : World} {g : Nat} {t : TypeId} {l : List Int} (h : Has w g t (ils l)) : IRow w w.heap.size (some ⟨g, 0, none⟩) l := fun k hk => ⟨g, 0, rfl, h.lt, by rw [h.cell, Nat.zero_add, ils_at hk]⟩
theorem res26 {w : World} {D E : Nat} {a b c a' b' c' : Value} {tmps : Array Value} (h : Has w D 24 #[a, b, c]) (h' : Has w E 28 #[a', b', c']) (h4 : tmps[0]?.getD undef = .pointer (some ⟨D, 0, none⟩)) (h5 : tmps[1]?.getD undef = .pointer (some ⟨E, 0, none⟩)) :
    (results Try.f26 tmps).run Try.prog w = .ok (.tuple #[.agg #[a, b, c], .agg #[a', b', c']]) w := by
  have c0 := h.cell 0; have c1 := h.cell 1; have c2 := h.cell 2
  have d0 := h'.cell 0; have d1 := h'.cell 1; have d2 := h'.cell 2
  simp at c0 c1 c2 d0 d1 d2
  simp [results, Try.results26, go_sem, h4, h5, c0, c1, c2, d0, d1, d2]
structure SamW (W w : World) : Prop where
  b : Below W.heap.size W w
  h0 : Has w (W.heap.size) 24 #[.slice (some ⟨W.heap.size + 1 + 1, 0, none⟩) 3 3, .int .i64 160, .int .i64 2]
  h1 : Has w (W.heap.size + 1) 28 #[.slice (some ⟨W.heap.size + 1 + 1 + 1 + 1 + 1 + 1 + 1, 0, none⟩) 3 3, .slice (some ⟨W.heap.size + 1 + 1 + 1 + 1 + 1 + 1 + 1 + 1 + 1 + 1 + 1, 0, none⟩) 3 3, .int .i64 7]
  h2 : Has w (W.heap.size + 1 + 1) 3 (ils [800, 500, 420])
  h4 : Has w (W.heap.size + 1 + 1 + 1 + 1) 3 (ils [2, 3, 1, 2, -1])
  h5 : Has w (W.heap.size + 1 + 1 + 1 + 1 + 1) 3 (ils [-5, -5, -4, -5, -3])
  h6 : Has w (W.heap.size + 1 + 1 + 1 + 1 + 1 + 1) 3 (ils [0, 0, 0, 0, 0])
  h7 : Has w (W.heap.size + 1 + 1 + 1 + 1 + 1 + 1 + 1) 52 #[.int .i64 1, .int .i64 0, .int .i64 0, .bool false, .bool false, .slice (some ⟨W.heap.size + 1 + 1 + 1 + 1, 0, none⟩) 5 5, .int .i64 2, .int .i64 1, .int .i64 1, .bool true, .bool true, .slice (some ⟨W.heap.size + 1 + 1 + 1 + 1 + 1, 0, none⟩) 5 5, .int .i64 3, .int .i64 2, .int .i64 0, .bool false, .bool false, .slice (some ⟨W.heap.size + 1 + 1 + 1 + 1 + 1 + 1, 0, none⟩) 5 5]
  h8 : Has w (W.heap.size + 1 + 1 + 1 + 1 + 1 + 1 + 1 + 1) 3 (ils [28, 30, 29, 31, 27])
  h9 : Has w (W.heap.size + 1 + 1 + 1 + 1 + 1 + 1 + 1 + 1 + 1) 3 (ils [24, 24, 24, 24, 24])
  h10 : Has w (W.heap.size + 1 + 1 + 1 + 1 + 1 + 1 + 1 + 1 + 1 + 1) 3 (ils [26, 26, 25, 27, 40])
  h11 : Has w (W.heap.size + 1 + 1 + 1 + 1 + 1 + 1 + 1 + 1 + 1 + 1 + 1) 22 #[.slice (some ⟨W.heap.size + 1 + 1 + 1 + 1 + 1 + 1 + 1 + 1, 0, none⟩) 5 5, .slice (some ⟨W.heap.size + 1 + 1 + 1 + 1 + 1 + 1 + 1 + 1 + 1, 0, none⟩) 5 5, .slice (some ⟨W.heap.size + 1 + 1 + 1 + 1 + 1 + 1 + 1 + 1 + 1 + 1, 0, none⟩) 5 5]
theorem SamW.ru {W w : World} (h : SamW W w) : RuR w w.heap.size sampleR (some ⟨W.heap.size + 1 + 1, 0, none⟩) := ⟨irow_has h.h2, by decide⟩
theorem SamW.sk {W w : World} (h : SamW W w) : SkR w w.heap.size sampleS (some ⟨W.heap.size + 1 + 1 + 1 + 1 + 1 + 1 + 1, 0, none⟩) (some ⟨W.heap.size + 1 + 1 + 1 + 1 + 1 + 1 + 1 + 1 + 1 + 1 + 1, 0, none⟩) := by
  refine ⟨fun k hk => ?_, fun k hk => ?_, by decide, by decide⟩
  · have hk3 : k < 3 := hk
    match k, hk3 with
    | 0, _ => exact ⟨_, 0, some ⟨W.heap.size + 1 + 1 + 1 + 1, 0, none⟩, 5, rfl, h.h7.lt, fun j hj => by
        rw [h.h7.cell]
        match j, hj with
        | 0, _ => rfl
        | 1, _ => rfl
        | 2, _ => rfl
        | 3, _ => rfl
        | 4, _ => rfl
        | 5, _ => rfl, irow_has h.h4, (show (5 : Nat) ≤ big by decide)⟩
    | 1, _ => exact ⟨_, 0, some ⟨W.heap.size + 1 + 1 + 1 + 1 + 1, 0, none⟩, 5, rfl, h.h7.lt, fun j hj => by
        rw [h.h7.cell]
        match j, hj with
        | 0, _ => rfl
        | 1, _ => rfl
        | 2, _ => rfl
        | 3, _ => rfl
        | 4, _ => rfl
        | 5, _ => rfl, irow_has h.h5, (show (5 : Nat) ≤ big by decide)⟩
    | 2, _ => exact ⟨_, 0, some ⟨W.heap.size + 1 + 1 + 1 + 1 + 1 + 1, 0, none⟩, 5, rfl, h.h7.lt, fun j hj => by
        rw [h.h7.cell]
        match j, hj with
        | 0, _ => rfl
        | 1, _ => rfl
        | 2, _ => rfl
        | 3, _ => rfl
        | 4, _ => rfl
        | 5, _ => rfl, irow_has h.h6, (show (5 : Nat) ≤ big by decide)⟩
  · have hk3 : k < 3 := hk
    match k, hk3 with
    | 0, _ => exact ⟨_, 0, some ⟨W.heap.size + 1 + 1 + 1 + 1 + 1 + 1 + 1 + 1, 0, none⟩, 5, rfl, h.h11.lt, by rw [h.h11.cell]; rfl, irow_has h.h8, (show (5 : Nat) ≤ big by decide)⟩
    | 1, _ => exact ⟨_, 0, some ⟨W.heap.size + 1 + 1 + 1 + 1 + 1 + 1 + 1 + 1 + 1, 0, none⟩, 5, rfl, h.h11.lt, by rw [h.h11.cell]; rfl, irow_has h.h9, (show (5 : Nat) ≤ big by decide)⟩
    | 2, _ => exact ⟨_, 0, some ⟨W.heap.size + 1 + 1 + 1 + 1 + 1 + 1 + 1 + 1 + 1 + 1, 0, none⟩, 5, rfl, h.h11.lt, by rw [h.h11.cell]; rfl, irow_has h.h10, (show (5 : Nat) ≤ big by decide)⟩
set_option maxRecDepth 100000 in
set_option maxHeartbeats 1000000 in
theorem sample_any (W : World) : Calls Try.prog 26 #[] W (SamPost W) := by
  have HS : Hid (SamW W ((((((((((((W.alloc (.cells #[.slice (some ⟨W.heap.size + 1 + 1, 0, none⟩) 3 3, .int .i64 160, .int .i64 2] 24)).alloc (.cells #[.slice (some ⟨W.heap.size + 1 + 1 + 1 + 1 + 1 + 1 + 1, 0, none⟩) 3 3, .slice (some ⟨W.heap.size + 1 + 1 + 1 + 1 + 1 + 1 + 1 + 1 + 1 + 1 + 1, 0, none⟩) 3 3, .int .i64 7] 28)).alloc (.cells #[.int .i64 800, .int .i64 500, .int .i64 420] 3)).alloc (.cells #[.slice (some ⟨W.heap.size + 1 + 1, 0, none⟩) 3 3, .int .i64 160, .int .i64 2] 24)).alloc (.cells (ils [2, 3, 1, 2, -1]) 3)).alloc (.cells (ils [-5, -5, -4, -5, -3]) 3)).alloc (.cells (ils [0, 0, 0, 0, 0]) 3)).alloc
    (.cells #[.int .i64 1, .int .i64 0, .int .i64 0, .bool false, .bool false, .slice (some ⟨W.heap.size + 1 + 1 + 1 + 1, 0, none⟩) 5 5, .int .i64 2, .int .i64 1, .int .i64 1, .bool true, .bool true, .slice (some ⟨W.heap.size + 1 + 1 + 1 + 1 + 1, 0, none⟩) 5 5, .int .i64 3, .int .i64 2, .int .i64 0, .bool false, .bool false, .slice (some ⟨W.heap.size + 1 + 1 + 1 + 1 + 1 + 1, 0, none⟩) 5 5] 52)).alloc (.cells (ils [28, 30, 29, 31, 27]) 3)).alloc (.cells (ils [24, 24, 24, 24, 24]) 3)).alloc (.cells (ils [26, 26, 25, 27, 40]) 3)).alloc (.cells #[.slice (some ⟨W.heap.size + 1 + 1 + 1 + 1 + 1 + 1 + 1 + 1, 0, none⟩) 5 5, .slice (some ⟨W.heap.size + 1 + 1 + 1 + 1 + 1 + 1 + 1 + 1 + 1, 0, none⟩) 5 5, .slice (some ⟨W.heap.size + 1 + 1 + 1 + 1 + 1 + 1 + 1 + 1 + 1 + 1, 0, none⟩) 5 5] 22))) := Lib.hid (by
    constructor
    · repeat (first | exact below_one _ _ | refine Below.alloc ?_ (by simp <;> omega) _)
    all_goals (repeat (first | (refine has_newAt ?_; simp; done) | refine Has.alloc ?_ _)))
  go_enter Try.func26, Try.ntmps26
  go_wp2_with fail
  refine bodyPost_ret (v := .tuple #[ruv sampleR (some ⟨W.heap.size + 1 + 1, 0, none⟩) 3, skv sampleS (some ⟨W.heap.size + 1 + 1 + 1 + 1 + 1 + 1 + 1, 0, none⟩) (some ⟨W.heap.size + 1 + 1 + 1 + 1 + 1 + 1 + 1 + 1 + 1 + 1 + 1, 0, none⟩) 3 3]) (res26 HS.out.h0 HS.out.h1 rfl rfl) rfl ?_
  exact ⟨_, _, _, _, _, _, rfl, HS.out.ru, HS.out.sk, by decide, by decide, HS.out.b⟩
end Go.Proofs.Ytmclchaalmonnaa
