/- Heat that is used again, as plain lists; with more room no more is bought; the least room. -/
import Derived.Test.YtjfopmjphiddiaaMgO
import Derived.Laws.AppendOwn
import Derived.OwnWalk
import Derived.Maps.AppendAt
import Derived.Test.YtjfopmjphiddiaaMgG
import Derived.Shelf.Abstract
namespace Go.Proofs.Ytjfopmjphiddiaa
open Go.RowKit Go.Shelf

structure Rs where
  b : List Int
  h : Int
  a : Int
/-- one hour: heat comes, is used, what has no room goes into the air -/
def hour (room : Int) (s : Rs) (x : Int × Int) : Rs :=
  ⟨s.b ++ [x.2 - min (s.h + x.1) x.2], min room (s.h + x.1 - min (s.h + x.1) x.2), s.a + (s.h + x.1 - min (s.h + x.1) x.2 - min room (s.h + x.1 - min (s.h + x.1) x.2))⟩
def hrs (room start : Int) (l : List (Int × Int)) : Rs := l.foldl (hour room) ⟨[], start, 0⟩
theorem hrs_snoc (room start : Int) (l : List (Int × Int)) (x : Int × Int) : hrs room start (l ++ [x]) = hour room (hrs room start l) x := by
  unfold hrs; rw [List.foldl_append]; rfl
theorem hrs_take (room start : Int) (l : List (Int × Int)) (k : Nat) (h : k < l.length) : hrs room start (l.take (k + 1)) = hour room (hrs room start (l.take k)) l[k] := by
  rw [List.take_succ_eq_append_getElem h, hrs_snoc]
/-- hours whose heat is within its bounds -/
def okH (l : List (Int × Int)) : Prop := ∀ x ∈ l, (0 ≤ x.1 ∧ x.1 ≤ 4294967296) ∧ (0 ≤ x.2 ∧ x.2 ≤ 4294967296)
theorem hrs_bd {room start : Int} {l : List (Int × Int)} (h : okH l) (h0 : 0 ≤ start) (h1 : start ≤ room) (h2 : room ≤ 4294967296) (k : Nat) (hk : k ≤ l.length) :
    (hrs room start (l.take k)).b.length = k ∧ (0 ≤ (hrs room start (l.take k)).h ∧ (hrs room start (l.take k)).h ≤ room) ∧ (0 ≤ (hrs room start (l.take k)).a ∧ (hrs room start (l.take k)).a ≤ k * 8589934592) ∧ (∀ x ∈ (hrs room start (l.take k)).b, 0 ≤ x ∧ x ≤ 4294967296) := by
  induction k with
  | zero => simp [hrs, h0, h1]
  | succ k ih =>
    have hlt : k < l.length := by omega
    obtain ⟨i1, i2, i3, i4⟩ := ih (by omega)
    have hx := h _ (List.getElem_mem hlt)
    rw [hrs_take room start l k hlt]
    generalize hrs room start (l.take k) = s at i1 i2 i3 i4
    generalize l[k] = x at hx
    refine ⟨by simp [hour, i1], ?_, ?_, ?_⟩
    · simp only [hour]; omega
    · simp only [hour]; omega
    · intro y hy
      simp only [hour, List.mem_append, List.mem_singleton] at hy
      rcases hy with hy | rfl
      · exact i4 y hy
      · omega
/-- the errors of Reuse -/
def reErr (comes needs : List Int) (start room : Int) : Int :=
  if 200 < comes.length then 3 else if needs.length ≠ comes.length then 1
  else if (comes.all hB && needs.all hB && hB room && decide (0 ≤ start) && decide (start ≤ room)) = false then 2 else 0
def reuseR (comes needs : List Int) (start room : Int) : Rs × Int :=
  if reErr comes needs start room = 0 then (hrs room start (comes.zip needs), 0) else (⟨[], 0, 0⟩, reErr comes needs start room)
theorem reErr_ok {comes needs : List Int} {start room : Int} (h : reErr comes needs start room = 0) :
    comes.length ≤ 200 ∧ needs.length = comes.length ∧ okH (comes.zip needs) ∧ 0 ≤ start ∧ start ≤ room ∧ room ≤ 4294967296 := by
  unfold reErr at h
  split at h
  · omega
  split at h
  · omega
  split at h
  · omega
  rename_i h1 h2 h3
  simp only [Bool.not_eq_false, Bool.and_eq_true, decide_eq_true_eq, List.all_eq_true, hB] at h3
  obtain ⟨⟨⟨⟨c, n⟩, r⟩, s⟩, t⟩ := h3
  refine ⟨by omega, by omega, fun x hx => ?_, s, t, r.2⟩
  have hx' := List.of_mem_zip (a := x.1) (b := x.2) (by simpa using hx)
  exact ⟨c _ hx'.1, n _ hx'.2⟩
theorem reErr_same {comes needs : List Int} {start room room' : Int} (h : reErr comes needs start room = 0) (h1 : room ≤ room') (h2 : room' ≤ 4294967296) : reErr comes needs start room' = 0 := by
  obtain ⟨a, b, c, d, e, f⟩ := reErr_ok h
  unfold reErr at h ⊢
  rw [if_neg (by omega), if_neg (by omega)] at h ⊢
  split at h
  · omega
  rename_i h3
  rw [if_neg]
  simp only [Bool.not_eq_false, Bool.and_eq_true, decide_eq_true_eq] at h3 ⊢
  obtain ⟨⟨⟨x, y⟩, z⟩, t⟩ := h3
  refine ⟨⟨⟨x, ?_⟩, z⟩, by omega⟩
  simp only [hB, decide_eq_true_eq]; omega
theorem sumI_snoc (l : List Int) (x : Int) : sumI (l ++ [x]) = sumI l + x := by
  unfold sumI; rw [List.foldl_append]; rfl
/-- with more room no more is bought, and as much is stored -/
theorem hrs_mono {room room' start : Int} {l : List (Int × Int)} (h : okH l) (h2 : room ≤ room') :
    (hrs room start l).h ≤ (hrs room' start l).h ∧ sumI (hrs room' start l).b ≤ sumI (hrs room start l).b := by
  have : ∀ k, k ≤ l.length → (hrs room start (l.take k)).h ≤ (hrs room' start (l.take k)).h ∧ sumI (hrs room' start (l.take k)).b ≤ sumI (hrs room start (l.take k)).b := by
    intro k
    induction k with
    | zero => intro _; simp [hrs]
    | succ k ih =>
      intro hk
      have hlt : k < l.length := by omega
      obtain ⟨i1, i2⟩ := ih (by omega)
      have hx := h _ (List.getElem_mem hlt)
      rw [hrs_take room start l k hlt, hrs_take room' start l k hlt]
      generalize hrs room start (l.take k) = s at i1 i2
      generalize hrs room' start (l.take k) = t at i1 i2
      generalize l[k] = x at hx
      simp only [hour, sumI_snoc]
      omega
  have h := this l.length (Nat.le_refl _)
  rwa [List.take_length] at h
def buys (comes needs : List Int) (start room : Int) : Int := sumI (reuseR comes needs start room).1.b
def enoughB (comes needs : List Int) (start limit room : Int) : Bool := decide (buys comes needs start room ≤ limit)
theorem buys_mono {comes needs : List Int} {start room room' : Int} (h : reErr comes needs start start = 0) (h0 : start ≤ room) (h1 : room ≤ room') (h2 : room' ≤ 4294967296) :
    buys comes needs start room' ≤ buys comes needs start room := by
  have e1 := reErr_same h h0 (by omega)
  have e2 := reErr_same h (show start ≤ room' by omega) h2
  unfold buys reuseR
  rw [if_pos e1, if_pos e2]
  obtain ⟨a, b, c, d, e, f⟩ := reErr_ok h
  exact (hrs_mono c h1).2
theorem buys_bd {comes needs : List Int} {start room : Int} (h : reErr comes needs start start = 0) (h0 : start ≤ room) (h2 : room ≤ 4294967296) :
    0 ≤ buys comes needs start room ∧ buys comes needs start room ≤ 200 * 1099511627776 := by
  have e1 := reErr_same h h0 h2
  unfold buys reuseR
  rw [if_pos e1]
  obtain ⟨a, b, c, d, e, f⟩ := reErr_ok h
  have hz : (comes.zip needs).length = comes.length := by simp [b]
  have hb := hrs_bd (l := comes.zip needs) c d h0 h2 comes.length (by omega)
  rw [List.take_of_length_le (by omega)] at hb
  obtain ⟨q1, -, -, q4⟩ := hb
  have := sumI_bd (hrs room start (comes.zip needs)).b comes.length (by omega) (fun x hx => by have := q4 x hx; omega)
  rw [List.take_of_length_le (by omega)] at this
  simp only
  omega
/-- the least number from low to high for which p is true, if it is for high -/
def Least (p : Int → Bool) (low high n : Int) : Prop := low ≤ n ∧ n ≤ high ∧ p n = true ∧ (low < n → p (n - 1) = false)
theorem Least.uniq {p : Int → Bool} {low high n m : Int} (hp : ∀ a b, low ≤ a → a ≤ b → b ≤ high → p a = true → p b = true) (h : Least p low high n) (h' : Least p low high m) : n = m := by
  obtain ⟨a, b, c, d⟩ := h
  obtain ⟨a', b', c', d'⟩ := h'
  rcases Int.lt_trichotomy n m with hl | hl | hl
  · have := hp n (m - 1) a (by omega) (by omega) c
    rw [d' (by omega)] at this; cases this
  · exact hl
  · have := hp m (n - 1) a' (by omega) (by omega) c'
    rw [d (by omega)] at this; cases this
theorem enough_up {comes needs : List Int} {start limit : Int} (h : reErr comes needs start start = 0) : ∀ a b, start ≤ a → a ≤ b → b ≤ 4294967296 → enoughB comes needs start limit a = true → enoughB comes needs start limit b = true := by
  intro a b h0 h1 h2 ha
  simp only [enoughB, decide_eq_true_eq] at ha ⊢
  have := buys_mono h h0 h1 h2
  omega
/-- what Room returns: a number and an error -/
def RoomR (comes needs : List Int) (start limit n e : Int) : Prop :=
  if reErr comes needs start start ≠ 0 then n = 0 ∧ e = reErr comes needs start start
  else if limit < 0 ∨ 1099511627776 < limit then n = 0 ∧ e = 2
  else if enoughB comes needs start limit 4294967296 = false then n = 0 ∧ e = 4
  else e = 0 ∧ Least (enoughB comes needs start limit) start 4294967296 n
theorem RoomR.uniq {comes needs : List Int} {start limit n e n' e' : Int} (h : RoomR comes needs start limit n e) (h' : RoomR comes needs start limit n' e') : n = n' ∧ e = e' := by
  unfold RoomR at h h'
  split at h
  · rename_i h0; rw [if_pos h0] at h'; omega
  · rename_i h0
    rw [if_neg h0] at h'
    split at h
    · rename_i h1; rw [if_pos h1] at h'; omega
    · rename_i h1
      rw [if_neg h1] at h'
      split at h
      · rename_i h2; rw [if_pos h2] at h'; omega
      · rename_i h2
        rw [if_neg h2] at h'
        exact ⟨Least.uniq (enough_up (by simpa using h0)) h.2 h'.2, by omega⟩
/-- any other way to use what is stored, hour by hour -/
theorem least_step {room h g mine sum c n v u g1 h1 : Int} (i1 : mine ≤ sum) (i2 : mine + g - h ≤ sum)
    (hu : u = min (h + c) n) (hh1 : h1 = min room (h + c - u)) (hv : v ≤ min (g + c) n) (hg1 : g1 ≤ room) (hg2 : g1 ≤ g + c - v) :
    mine + (n - u) ≤ sum + n - v ∧ mine + (n - u) + g1 - h1 ≤ sum + n - v := by omega
end Go.Proofs.Ytjfopmjphiddiaa
/- Reuse. -/
namespace Go.Proofs.Ytjfopmjphiddiaa
open Go.RowKit Go.Shelf
theorem Try.info3 : (Try.prog.info? 3).map (fun i => (i.zero, i.size, i.bytes)) = some (some (.int .i64 0), 1, 8) := by kernel_rfl
theorem results_tmp4 {fn : Func} {t u v x : Tmp} (h : fn.results = #[.tmp t, .tmp u, .tmp v, .tmp x]) (tmps : Array Value) (P : Program) (w : World) :
    (results fn tmps).run P w = .ok (.tuple #[tmps.getD t undef, tmps.getD u undef, tmps.getD v undef, tmps.getD x undef]) w := by
  simp [results, h]
theorem own_low {w : World} {B n : Nat} {e : TypeId} {size : Nat} {v : Value} {xs : List Value} (h : w.ownsRow B e size v n xs) : ∀ k, v.ownBlock = some k → B ≤ k := fun k hk => (h.lt k hk).1
theorem own_only {S : Nat → Prop} {w w' : World} {B n : Nat} {e : TypeId} {size : Nat} {v : Value} {xs : List Value} (h : w.ownsRow B e size v n xs) (ho : Only S w w') (hS : ∀ g, B ≤ g → ¬ S g) : w'.ownsRow B e size v n xs := by
  refine ⟨h.1, ?_⟩
  rcases h.2 with hn | ⟨g, cap, cur, rfl, hb, hgg, rest⟩
  · exact .inl hn
  · refine .inr ⟨g, cap, cur, rfl, hb, ?_, rest⟩
    rw [ho.block g (Array.getElem?_eq_some_iff.1 hgg).1 (hS g hb)]
    exact hgg
theorem own_slice {w : World} {B n : Nat} {e : TypeId} {v : Value} {xs : List Int} (h : w.ownsRow B e 1 v n (xs.map (Value.int .i64))) (hn : n = xs.length) : ∃ A cap, v = .slice A xs.length cap ∧ IRow w w.heap.size A xs ∧ xs.length ≤ cap := by
  subst hn
  obtain ⟨_, (⟨rfl, h0⟩ | ⟨g, cap, cur, rfl, hB, hg, h1, h2, h3, h4⟩)⟩ := h
  · exact ⟨none, 0, by rw [h0], fun k hk => absurd hk (by omega), by omega⟩
  · refine ⟨some ⟨g, 0, none⟩, cap, rfl, fun k hk => ⟨g, 0, rfl, (Array.getElem?_eq_some_iff.1 hg).1, ?_⟩, h1⟩
    have hh : Has w g e cur := hg
    rw [Nat.zero_add, hh.cell]
    have hk2 : (cur.toList.take (xs.length * 1))[k]? = some (iv xs[k]) := by rw [h4]; simp [hk]
    rw [List.getElem?_take_of_lt (by omega)] at hk2
    simpa using hk2
theorem Has.grown {w w' : World} {g : Nat} {t : TypeId} {cs : Array Value} {row : Option Nat} (h : Has w g t cs) (hg : w.grownBy w' row) (hne : some g ≠ row) : Has w' g t cs := (hg.block g h.lt hne).trans h
theorem IRow.more {w : World} {B B' : Nat} {A : Option Addr} {l : List Int} (h : IRow w B A l) (hB : B ≤ B') : IRow w B' A l := fun k hk => by
  obtain ⟨g, o, e, hg, c⟩ := h k hk
  exact ⟨g, o, e, by omega, c⟩
theorem IRow.step {w w' : World} {A : Option Addr} {l : List Int} (h : IRow w w.heap.size A l) (hb : Below w.heap.size w w') : IRow w' w'.heap.size A l := (h.below hb).more hb.size

theorem below_drewN {B : Nat} {a w : World} (h : Below B a w) (n : Nat) : Below B a (w.drewN n) := ⟨h.os, h.tape, h.output, h.size, h.block⟩

def ReusePost (x : Rs × Int) (W : World) (e : Ending) (W' : World) : Prop :=
  ∃ A cap, e = .returned (.tuple #[.slice A x.1.b.length cap, .int .i64 x.1.h, .int .i64 x.1.a, .int .i64 x.2]) ∧ Below W.heap.size W W' ∧ IRow W' W'.heap.size A x.1.b
theorem reuse_bad {comes needs : List Int} {start room c : Int} {W : World} (h : reErr comes needs start room = c) (hc : c ≠ 0) :
    ReusePost (reuseR comes needs start room) W (.returned (.tuple #[.slice none 0 0, .int .i64 0, .int .i64 0, .int .i64 c])) W := by
  unfold reuseR
  rw [h, if_neg hc]
  exact ⟨none, 0, rfl, Below.refl _ _, fun k hk => absurd hk (by simp)⟩

set_option maxRecDepth 100000 in
set_option maxHeartbeats 4000000 in
theorem reuse_any (comes needs : List Int) (start room : Int) (A A' : Option Addr) (cap cap' : Nat) (W : World) (hr : IRow W W.heap.size A comes) (hr' : IRow W W.heap.size A' needs) (hl : comes.length ≤ 9223372036854775807) :
    Calls Try.prog 19 #[.slice A comes.length cap, .slice A' needs.length cap', .int .i64 start, .int .i64 room] W (ReusePost (reuseR comes needs start room) W) := by
  obtain ⟨i0, hi, hz0, hz1, hz2⟩ := info_parts Try.info3
  by_cases h200 : 200 < comes.length
  · have hE := Lib.hid (show reErr comes needs start room = 3 by unfold reErr; rw [if_pos h200])
    have hI : (200 : Int) < comes.length := by omega
    clear hr hr'
    go_enter Try.func19, Try.ntmps19
    go_wp2
    refine bodyPost_ret (results_tmp4 rfl _ _ _) rfl ?_
    exact reuse_bad hE.out (by omega)
  have hI : ¬ (200 : Int) < comes.length := by omega
  by_cases hn : needs.length = comes.length
  case neg =>
    have hE := Lib.hid (show reErr comes needs start room = 1 by unfold reErr; rw [if_neg h200, if_pos hn])
    have hq : ((needs.length : Int) != (comes.length : Int)) = true := by simp; omega
    clear hr hr'
    go_enter Try.func19, Try.ntmps19
    go_wp2
    refine bodyPost_ret (results_tmp4 rfl _ _ _) rfl ?_
    exact reuse_bad hE.out (by omega)
  have hq : ((needs.length : Int) != (comes.length : Int)) = false := by simp [hn]
  have HN := Lib.hid hn
  have hRR := Lib.hid (And.intro hr hr')
  clear hr hr'
  cases hc1 : comes.all hB
  · have hE := Lib.hid (show reErr comes needs start room = 2 by unfold reErr; rw [if_neg h200, if_neg (by omega), hc1]; rfl)
    have H1 := Lib.hid hc1
    clear hc1 hn
    go_enter Try.func19, Try.ntmps19
    go_wp2_with fail
    refine (allHeat_any comes A cap W hRR.out.1 (by omega)).mono ?_
    rintro e w' ⟨rfl, rfl⟩
    rw [H1.out]
    go_wp2_with fail
    refine bodyPost_ret (results_tmp4 rfl _ _ _) rfl ?_
    exact reuse_bad hE.out (by omega)
  cases hc2 : needs.all hB
  · have hE := Lib.hid (show reErr comes needs start room = 2 by unfold reErr; rw [if_neg h200, if_neg (by omega), hc1, hc2]; rfl)
    have H1 := Lib.hid (And.intro hc1 hc2)
    clear hc1 hc2 hn
    go_enter Try.func19, Try.ntmps19
    go_wp2_with fail
    refine (allHeat_any comes A cap W hRR.out.1 (by omega)).mono ?_
    rintro e w' ⟨rfl, rfl⟩
    rw [H1.out.1]
    go_wp2_with fail
    refine (allHeat_any needs A' cap' _ hRR.out.2 (by have := HN.out; omega)).mono ?_
    rintro e w' ⟨rfl, rfl⟩
    rw [H1.out.2]
    go_wp2_with fail
    refine bodyPost_ret (results_tmp4 rfl _ _ _) rfl ?_
    exact reuse_bad hE.out (by omega)
  cases hc3 : hB room
  · have hE := Lib.hid (show reErr comes needs start room = 2 by unfold reErr; rw [if_neg h200, if_neg (by omega), hc1, hc2, hc3]; rfl)
    have H1 := Lib.hid (And.intro hc1 (And.intro hc2 hc3))
    clear hc1 hc2 hc3 hn
    go_enter Try.func19, Try.ntmps19
    go_wp2_with fail
    refine (allHeat_any comes A cap W hRR.out.1 (by omega)).mono ?_
    rintro e w' ⟨rfl, rfl⟩
    rw [H1.out.1]
    go_wp2_with fail
    refine (allHeat_any needs A' cap' _ hRR.out.2 (by have := HN.out; omega)).mono ?_
    rintro e w' ⟨rfl, rfl⟩
    rw [H1.out.2.1]
    go_wp2_with fail
    refine (isHeat_any room _).mono ?_
    rintro e w' ⟨rfl, rfl⟩
    rw [H1.out.2.2]
    go_wp2_with fail
    refine bodyPost_ret (results_tmp4 rfl _ _ _) rfl ?_
    exact reuse_bad hE.out (by omega)
  by_cases hs0 : 0 ≤ start ∧ start ≤ room
  case neg =>
    have hE := Lib.hid (show reErr comes needs start room = 2 by unfold reErr; rw [if_neg h200, if_neg (by omega), hc1, hc2, hc3, if_pos]; simp; omega)
    have H1 := Lib.hid (And.intro hc1 (And.intro hc2 hc3))
    clear hc1 hc2 hc3 hn
    by_cases hs1 : start < 0
    · go_enter Try.func19, Try.ntmps19
      go_wp2_with fail
      refine (allHeat_any comes A cap W hRR.out.1 (by omega)).mono ?_
      rintro e w' ⟨rfl, rfl⟩
      rw [H1.out.1]
      go_wp2_with fail
      refine (allHeat_any needs A' cap' _ hRR.out.2 (by have := HN.out; omega)).mono ?_
      rintro e w' ⟨rfl, rfl⟩
      rw [H1.out.2.1]
      go_wp2_with fail
      refine (isHeat_any room _).mono ?_
      rintro e w' ⟨rfl, rfl⟩
      rw [H1.out.2.2]
      go_wp2_with fail
      refine bodyPost_ret (results_tmp4 rfl _ _ _) rfl ?_
      exact reuse_bad hE.out (by omega)
    · have hs2 : room < start := by omega
      go_enter Try.func19, Try.ntmps19
      go_wp2_with fail
      refine (allHeat_any comes A cap W hRR.out.1 (by omega)).mono ?_
      rintro e w' ⟨rfl, rfl⟩
      rw [H1.out.1]
      go_wp2_with fail
      refine (allHeat_any needs A' cap' _ hRR.out.2 (by have := HN.out; omega)).mono ?_
      rintro e w' ⟨rfl, rfl⟩
      rw [H1.out.2.1]
      go_wp2_with fail
      refine (isHeat_any room _).mono ?_
      rintro e w' ⟨rfl, rfl⟩
      rw [H1.out.2.2]
      go_wp2_with fail
      refine bodyPost_ret (results_tmp4 rfl _ _ _) rfl ?_
      exact reuse_bad hE.out (by omega)
  have hE : reErr comes needs start room = 0 := by
    unfold reErr; rw [if_neg h200, if_neg (by omega), hc1, hc2, hc3, if_neg]; simp; omega
  have hok := reErr_ok hE
  have hR := Lib.hid (show reuseR comes needs start room = (hrs room start (comes.zip needs), 0) by unfold reuseR; rw [if_pos hE])
  have H1 := Lib.hid (And.intro hc1 (And.intro hc2 hc3))
  have HO := Lib.hid (And.intro hok.2.2.1 (show (comes.zip needs).length = comes.length by simp [hn]))
  obtain ⟨hs0, hs1⟩ := hs0
  have hr2 := hok.2.2.2.2.2
  obtain ⟨L, hL⟩ : ∃ L, L = comes.zip needs := ⟨_, rfl⟩
  have HL := Lib.hid hL
  rw [← hL] at HO hR
  have hn200 : comes.length ≤ 200 := by omega
  clear hc1 hc2 hc3 hn hok hE hL
  go_enter Try.func19, Try.ntmps19
  go_wp2_with fail
  refine (allHeat_any comes A cap W hRR.out.1 (by omega)).mono ?_
  rintro e w' ⟨rfl, rfl⟩
  rw [H1.out.1]
  go_wp2_with fail
  refine (allHeat_any needs A' cap' _ hRR.out.2 (by have := HN.out; omega)).mono ?_
  rintro e w' ⟨rfl, rfl⟩
  rw [H1.out.2.1]
  go_wp2_with fail
  refine (isHeat_any room _).mono ?_
  rintro e w' ⟨rfl, rfl⟩
  rw [H1.out.2.2]
  go_wp2_with fail
  have hc0 : Has (w'.alloc (.cells #[.int .i64 start, .int .i64 room] 68)) w'.heap.size 68 #[.int .i64 start, .int .i64 room] := Has.new _ _ _
  go_loopw [50, 8, 10] (fun i v a wr => ∃ k : Nat, k ≤ comes.length ∧ i = .int .i64 k ∧ a = .int .i64 (hrs room start (L.take k)).a ∧ Hid (Below w'.heap.size w' wr ∧ Has wr w'.heap.size 68 #[.int .i64 (hrs room start (L.take k)).h, .int .i64 room] ∧ wr.ownsRow (w'.heap.size + 1) 3 1 v k ((hrs room start (L.take k)).b.map (Value.int .i64)))) (fun i _ _ _ => comes.length - (intOf i).toNat)
  case atStart => exact ⟨0, Nat.zero_le _, rfl, rfl, below_one _ _, hc0, World.ownsRow_nil _ _ _ _⟩
  case round =>
    obtain ⟨k, hk, rfl, rfl, HB⟩ := hrel
    obtain ⟨s, hs⟩ : ∃ s, s = hrs room start (L.take k) := ⟨_, rfl⟩
    rw [← hs] at HB ⊢
    by_cases hlt : k < comes.length
    · have hlt' : (k : Int) < comes.length := by omega
      have hnt : k < needs.length := by have := HN.out; omega
      have hnt' : (k : Int) < needs.length := by omega
      have hLk : k < L.length := by have := HO.out.2; omega
      obtain ⟨g, o, eA, hg, d0⟩ := (hRR.out.1.below HB.out.1) k hlt
      obtain ⟨g', o', eA', hg', d1⟩ := (hRR.out.2.below HB.out.1) k hnt
      have hsz := HB.out.1.size
      have hgw : g < wr.heap.size := by omega
      have hgw' : g' < wr.heap.size := by omega
      have hgn : g ≠ w'.heap.size := by omega
      have hgn' : g' ≠ w'.heap.size := by omega
      subst eA eA'
      have hbd := hrs_bd HO.out.1 hs0 hs1 hr2 k (by have := HO.out.2; omega)
      rw [← hs] at hbd
      obtain ⟨b1, ⟨b2, b3⟩, ⟨b4, b5⟩, b6⟩ := hbd
      have hxb := HO.out.1 _ (List.getElem_mem hLk)
      have hnext := hrs_take room start L k hLk
      rw [← hs] at hnext
      obtain ⟨c, hc⟩ : ∃ c, c = comes[k] := ⟨_, rfl⟩
      obtain ⟨n, hn⟩ : ∃ n, n = needs[k] := ⟨_, rfl⟩
      have hLx : L[k] = (c, n) := by
        have e := HL.out
        subst e
        rw [List.getElem_zip, hc, hn]
      rw [hLx] at hxb hnext
      rw [← hc] at d0
      rw [← hn] at d1
      simp only at hxb
      obtain ⟨⟨x1, x2⟩, x3, x4⟩ := hxb
      have e0 : wr.cell? ⟨w'.heap.size, 0, none⟩ = some (.int .i64 s.h) := HB.out.2.1.cell 0
      have e1 : wr.cell? ⟨w'.heap.size, 1, none⟩ = some (.int .i64 room) := HB.out.2.1.cell 1
      have f0 := HB.out.2.1.frozen 0
      have hwl := HB.out.2.1.lt
      have HX := Lib.hid (And.intro b1 (And.intro hnext hs))
      clear b1 hnext hs hc hn hLx b6
      have huse : Calls Try.prog 39 #[.pointer (some ⟨w'.heap.size, 0, none⟩), .int .i64 n] (wr.setCell ⟨w'.heap.size, 0, none⟩ (.int .i64 (s.h + c))) (UsePost w'.heap.size 0 68 #[.int .i64 (s.h + c), .int .i64 room] (n - min (s.h + c) n) (s.h + c - min (s.h + c) n) (wr.setCell ⟨w'.heap.size, 0, none⟩ (.int .i64 (s.h + c)))) :=
        use_any w'.heap.size 0 68 #[.int .i64 (s.h + c), .int .i64 room] (s.h + c) n _ (HB.out.2.1.set 0 (.int .i64 (s.h + c))) rfl (by omega) (by omega) (by omega) (by omega)
      have HU := Lib.hid huse
      clear huse
      go_wp2_with fail
      refine HU.out.mono ?_
      rintro e w2 ⟨rfl, ho2, hh2⟩
      have hso : (wr.setCell ⟨w'.heap.size, 0, none⟩ (.int .i64 (s.h + c))).ownsRow (w'.heap.size + 1) 3 1 _ k _ := own_only HB.out.2.2 ((Only.refl (fun j => j = w'.heap.size) wr).setCell (p := ⟨w'.heap.size, 0, none⟩) (.inl rfl) _) (fun g h => by omega)
      have hso2 := own_only hso ho2 (fun g h => by omega)
      have hb2 : Below w'.heap.size w' w2 := (HB.out.1.setCell (p := ⟨w'.heap.size, 0, none⟩) (by simp) _).trans (ho2.below (by simpa using hsz) (fun i hi => by omega))
      have hh2' : Has w2 w'.heap.size 68 #[.int .i64 (s.h + c - min (s.h + c) n), .int .i64 room] := hh2
      have hsz2 : w'.heap.size < w2.heap.size := hh2'.lt
      obtain ⟨bu, hbu⟩ : ∃ bu, bu = n - min (s.h + c) n := ⟨_, rfl⟩
      obtain ⟨lf, hlf⟩ : ∃ lf, lf = s.h + c - min (s.h + c) n := ⟨_, rfl⟩
      rw [← hlf] at hh2'
      rw [← hbu]
      have hlb : 0 ≤ lf ∧ lf ≤ 8589934592 := by omega
      have HC := Lib.hid (And.intro hbu hlf)
      have HD := Lib.hid (And.intro hb2 hh2')
      clear hso ho2 hh2 hbu hlf hb2 hh2' e0 e1 f0 d0 d1
      go_wp2_with (at_builtin; refine wpList_append_own _ rfl _ _ 39 rfl (w'.heap.size + 1) 3 i0 (.int .i64 0) 1 8 Try.underlying39 hi hz0 hz1 hz2 rfl (by decide) _ _ _ rfl (hso2.alloc _) ⟨w2.heap.size, 0, none⟩ 1 1 [.int .i64 bu] rfl rfl ?c1 ?c2 ?c3 ?c4 ?c5 ?_)
      case c1 => exact cell_one_new w2 (.int .i64 bu) 3
      case c2 => simp [Value.oneCell']
      case c3 => unfold maxLen; omega
      case c4 => omega
      case c5 => simp; omega
      intro v' w3 hown' hgrow _
      have hb3 : Below w'.heap.size w' w3 := (HD.out.1.alloc (by omega) _).grown hgrow (by simp; omega) (fun k hk => by have := own_low hso2 k hk; omega)
      have hh3 : Has w3 w'.heap.size 68 #[.int .i64 lf, .int .i64 room] := (HD.out.2.alloc _).grown hgrow (by intro e; have := own_low hso2 _ e.symm; omega)
      have HF := Lib.hid (And.intro hb3 (And.intro hh3 hown'))
      clear hb3 hh3 hown' hgrow hso2
      have hspill : Calls Try.prog 40 #[.pointer (some ⟨w'.heap.size, 0, none⟩)] w3 (UsePost w'.heap.size 0 68 #[.int .i64 lf, .int .i64 room] (max 0 (lf - room)) (lf - max 0 (lf - room)) w3) :=
        spill_any w'.heap.size 0 68 #[.int .i64 lf, .int .i64 room] lf room _ HF.out.2.1 rfl rfl (by omega) (by omega) (by omega) (by omega)
      have HS := Lib.hid hspill
      clear hspill
      obtain ⟨ov, hov⟩ : ∃ ov, ov = max 0 (lf - room) := ⟨_, rfl⟩
      have hovb : 0 ≤ ov ∧ ov ≤ 8589934592 := by omega
      rw [← hov] at HS
      have HV := Lib.hid hov
      clear hov
      have hw : IntKind.i64.wrap (s.a + ov) = s.a + ov := IntWalk.i64_in _ (by omega)
      go_wp2_with fail
      refine HS.out.mono ?_
      rintro e w4 ⟨rfl, ho4, hh4⟩
      have hh4' : Has w4 w'.heap.size 68 #[.int .i64 (lf - ov), .int .i64 room] := hh4
      have ho4' := own_only HF.out.2.2 ho4 (fun g h => by omega)
      have hb4 : Below w'.heap.size w' w4 := HF.out.1.trans (ho4.below HF.out.1.size (fun i hi => by omega))
      have HG := Lib.hid (And.intro hb4 (And.intro hh4' ho4'))
      clear hb4 hh4 hh4' ho4 ho4'
      go_wp2_with fail
      go_roundw
      case rel =>
        have e1 : s.b ++ [bu] = (hrs room start (L.take (k + 1))).b := by rw [HX.out.2.1, HC.out.1]; rfl
        have e2 : lf - ov = (hrs room start (L.take (k + 1))).h := by
          rw [HX.out.2.1]
          simp only [hour]
          have := HC.out.2; have := HV.out
          omega
        have e3 : s.a + ov = (hrs room start (L.take (k + 1))).a := by
          rw [HX.out.2.1]
          simp only [hour]
          have := HC.out.2; have := HV.out
          omega
        refine ⟨k + 1, by omega, by go_num, by rw [← e3], HG.out.1, by rw [← e2]; exact HG.out.2.1, ?_⟩
        rw [← e1, List.map_append]
        exact HG.out.2.2
      case measure => simp [intOf]; omega
    · have hk' : ¬ (k : Int) < comes.length := by omega
      have hke : k = comes.length := by omega
      have e0 : wr.cell? ⟨w'.heap.size, 0, none⟩ = some (.int .i64 s.h) := HB.out.2.1.cell 0
      have hwl := HB.out.2.1.lt
      have hs' : Hid (s = hrs room start L) := by
        show _ = _
        rw [hs, List.take_of_length_le (by have := HO.out.2; omega)]
      have hbl : Hid (k = s.b.length) := by
        show _ = _
        have := (hrs_bd HO.out.1 hs0 hs1 hr2 k (by have := HO.out.2; omega)).1
        rw [hs, this]
      clear hs hke
      go_wp2_with fail
      go_quiet (fail)
      go_wp2_with fail
      refine bodyPost_ret (results_tmp4 rfl _ _ _) rfl ?_
      rw [hR.out, ← hs'.out]
      obtain ⟨A1, cap1, e1, hI, _⟩ := own_slice HB.out.2.2 hbl.out
      exact ⟨A1, cap1, by rw [← e1]; rfl, below_drewN HB.out.1 _, hI⟩
end Go.Proofs.Ytjfopmjphiddiaa
/- Two lists of numbers compared; sort.Search; what is bought with a room; Room. -/
namespace Go.Proofs.Ytjfopmjphiddiaa
open Go.RowKit Go.Shelf
theorem still_all {P : Program} {id : Nat} {Q : Exit → Act → World → Prop} {a : Act} {w : World} {l : List Oper} (hm : P.follows .mixedOrders = true) (hB : Region.lexB .any l.toArray = true)
    (h : wpStill P l.toArray w.drew (fun a' => Q .normal a' w.drew) l a) : (Code.region id l.toArray true).wp P Q a w := wp_region_still_lit hm hB h
theorem below_dr {B : Nat} {a w : World} (h : Below B a w) : Below B a w.drew := ⟨h.os, h.tape, h.output, h.size, h.block⟩
set_option maxRecDepth 100000 in
set_option maxHeartbeats 800000 in
theorem ints_any (xs ys : List Int) (A A' : Option Addr) (cap cap' : Nat) (w : World) (hx : IRow w w.heap.size A xs) (hy : IRow w w.heap.size A' ys) (hl : xs.length ≤ 9223372036854775807) (hl' : ys.length ≤ 9223372036854775807) :
    Calls Try.prog 23 #[.slice A xs.length cap, .slice A' ys.length cap'] w fun e w' => e = .returned (.bool (decide (xs = ys))) ∧ Below w.heap.size w w' := by
  by_cases hlen : xs.length = ys.length
  · have hq : ((xs.length : Int) != (ys.length : Int)) = false := by simp [hlen]
    have HL := Lib.hid hlen
    clear hlen
    go_enter Try.func23, Try.ntmps23
    go_wp2
    go_loopw [5] (fun t wr => ∃ k : Nat, k ≤ xs.length ∧ t = .int .i64 k ∧ Hid (xs.take k = ys.take k) ∧ Below w.heap.size w wr) (fun t _ => xs.length - (intOf t).toNat)
    case atStart => exact ⟨0, Nat.zero_le _, rfl, (by show _ = _; simp), Below.refl _ _⟩
    case round =>
      obtain ⟨k, hk, rfl, hT, hb⟩ := hrel
      by_cases hlt : k < xs.length
      · have hlt' : k < ys.length := by have := HL.out; omega
        obtain ⟨g, o, rfl, hg, c0⟩ := hx k hlt
        obtain ⟨g', o', rfl, hg', d0⟩ := hy k hlt'
        rw [← hb.cell (p := ⟨g, _, none⟩) hg] at c0
        rw [← hb.cell (p := ⟨g', _, none⟩) hg'] at d0
        have hI : (k : Int) < xs.length := by omega
        have hI' : (k : Int) < ys.length := by omega
        by_cases hxy : xs[k] = ys[k]
        · have hqq : (xs[k] != ys[k]) = false := by simp [hxy]
          have HX : Hid (xs.take (k + 1) = ys.take (k + 1)) := by
            show _ = _
            rw [List.take_succ_eq_append_getElem hlt, List.take_succ_eq_append_getElem hlt', hT.out, hxy]
          clear hxy
          obtain ⟨x, hx0⟩ : ∃ x, x = xs[k] := ⟨_, rfl⟩
          obtain ⟨y, hy0⟩ : ∃ y, y = ys[k] := ⟨_, rfl⟩
          rw [← hx0] at c0 hqq
          rw [← hy0] at d0 hqq
          clear hx0 hy0
          go_wp2
          refine still_all (by kernel_rfl) (by kernel_rfl) ?_
          repeat still_step
          refine wpStill_nil ?_
          go_wp2
          go_roundw
          case rel => exact ⟨k + 1, by omega, by go_num, HX, below_dr hb⟩
          case measure => simp [intOf]; omega
        · have hqq : (xs[k] != ys[k]) = true := by simp [hxy]
          have HX : Hid (decide (xs = ys) = false) := by
            show _ = _
            simp only [decide_eq_false_iff_not]
            intro e; subst e; exact hxy rfl
          clear hxy
          obtain ⟨x, hx0⟩ : ∃ x, x = xs[k] := ⟨_, rfl⟩
          obtain ⟨y, hy0⟩ : ∃ y, y = ys[k] := ⟨_, rfl⟩
          rw [← hx0] at c0 hqq
          rw [← hy0] at d0 hqq
          clear hx0 hy0
          go_wp2
          refine still_all (by kernel_rfl) (by kernel_rfl) ?_
          repeat still_step
          refine wpStill_nil ?_
          go_wp2
          go_ret
          exact ⟨ret_bool HX.out.symm, below_dr hb⟩
      · have HX : Hid (decide (xs = ys) = true) := by
          show _ = _
          have h1 := hT.out
          have h2 := HL.out
          rw [List.take_of_length_le (by omega), List.take_of_length_le (by omega)] at h1
          simpa using h1
        go_wp2
        go_ret
        exact ⟨ret_bool HX.out.symm, hb⟩
  · have hq : ((xs.length : Int) != (ys.length : Int)) = true := by simp; omega
    have HX : Hid (decide (xs = ys) = false) := by
      show _ = _
      simp only [decide_eq_false_iff_not]
      intro e; subst e; exact hlen rfl
    clear hlen
    go_enter Try.func23, Try.ntmps23
    go_wp2
    go_ret
    exact ⟨ret_bool HX.out.symm, Below.refl _ _⟩
def SearchPost (p : Int → Bool) (n : Nat) (w : World) (e : Ending) (w' : World) : Prop :=
  ∃ r : Nat, e = .returned (iv r) ∧ r ≤ n ∧ (r < n → p r = true) ∧ (0 < r → p (r - 1) = false) ∧ Below w.heap.size w w'
set_option maxHeartbeats 400000 in
theorem search_any (f : Nat) (cp : Array Value) (p : Int → Bool) (n : Nat) (w : World) (hn : n ≤ 4294967296)
    (eg : ∀ args w, (callFunc f args).run Try.prog w = .ok (.enter f args) w)
    (hf : ∀ (x : Int) W, 0 ≤ x → x < n → Below w.heap.size w W → Calls Try.prog f (#[iv x] ++ cp) W fun e w' => e = .returned (.bool (p x)) ∧ Below W.heap.size W w') :
    Calls Try.prog 45 #[iv n, .func (.func f) #[] cp] w (SearchPost p n w) := by
  have HF := Lib.hid hf
  clear hf
  go_enter Try.func45, Try.ntmps45
  go_wp2
  go_loopw [5, 6] (fun a b wr => ∃ i j : Nat, i ≤ j ∧ j ≤ n ∧ a = .int .i64 i ∧ b = .int .i64 j ∧ Hid (0 < i → p (i - 1) = false) ∧ Hid (j < n → p j = true) ∧ Below w.heap.size w wr) (fun a b _ => (intOf b).toNat - (intOf a).toNat)
  case atStart => exact ⟨0, n, by omega, by omega, rfl, rfl, (fun h => absurd h (by omega)), (fun h => absurd h (by omega)), Below.refl _ _⟩
  case round =>
    obtain ⟨i, j, hij, hjn, rfl, rfl, hI, hJ, hb⟩ := hrel
    by_cases hlt : i < j
    · go_wp2_with fail
      have hh1 : ((i : Int) + j) / 2 = (((i + j) / 2 : Nat) : Int) := by omega
      refine (HF.out _ _ (by omega) (by omega) hb).mono ?_
      rintro e w1 ⟨rfl, hb1⟩
      have hb2 : Below w.heap.size w w1 := hb.trans (hb1.mono hb.size)
      clear hh1
      cases hp : p (((i : Int) + j) / 2)
      · have hp' : Hid (0 < (i + j) / 2 + 1 → p ((((i + j) / 2 + 1 : Nat) : Int) - 1) = false) := fun _ => by
          rw [show ((((i + j) / 2 + 1 : Nat) : Int) - 1) = ((i : Int) + j) / 2 by omega]; exact hp
        go_wp2_with fail
        go_roundw
        case rel => exact ⟨(i + j) / 2 + 1, j, by omega, hjn, by go_num, rfl, hp', hJ, hb2⟩
        case measure => simp [intOf]; omega
      · have hp' : Hid ((i + j) / 2 < n → p (((i + j) / 2 : Nat) : Int) = true) := fun _ => by
          rw [show ((((i + j) / 2 : Nat) : Int)) = ((i : Int) + j) / 2 by omega]; exact hp
        go_wp2_with fail
        go_roundw
        case rel => exact ⟨i, (i + j) / 2, by omega, by omega, rfl, by go_num, hI, hp', hb2⟩
        case measure => simp [intOf]; omega
    · obtain rfl : i = j := by omega
      go_wp2_with fail
      go_ret
      exact ⟨i, rfl, hjn, hJ.out, hI.out, hb⟩
theorem search_at (f : Nat) (cp : Array Value) (p : Int → Bool) (n : Nat) (N : Int) (hN : (n : Int) = N) (w : World) (hn : n ≤ 4294967296)
    (eg : ∀ args w, (callFunc f args).run Try.prog w = .ok (.enter f args) w)
    (hf : ∀ (x : Int) W, 0 ≤ x → x < n → Below w.heap.size w W → Calls Try.prog f (#[iv x] ++ cp) W fun e w' => e = .returned (.bool (p x)) ∧ Below W.heap.size W w') :
    Calls Try.prog 45 #[iv N, .func (.func f) #[] cp] w (SearchPost p n w) := by
  subst hN
  exact search_any f cp p n w hn eg hf

/-- what Room has boxed -/
structure RIn (w : World) (B0 B1 B2 B3 : Nat) (comes needs : List Int) (start limit : Int) (A A' : Option Addr) (cap cap' : Nat) : Prop where
  c : Has w B0 39 #[.slice A comes.length cap]
  n : Has w B1 39 #[.slice A' needs.length cap']
  s : Has w B2 3 #[.int .i64 start]
  m : Has w B3 3 #[.int .i64 limit]
  rc : IRow w w.heap.size A comes
  rn : IRow w w.heap.size A' needs
theorem RIn.below {w w' : World} {B0 B1 B2 B3 : Nat} {comes needs : List Int} {start limit : Int} {A A' : Option Addr} {cap cap' : Nat} (h : RIn w B0 B1 B2 B3 comes needs start limit A A' cap cap') (hb : Below w.heap.size w w') : RIn w' B0 B1 B2 B3 comes needs start limit A A' cap cap' :=
  ⟨h.c.below hb h.c.lt, h.n.below hb h.n.lt, h.s.below hb h.s.lt, h.m.below hb h.m.lt, h.rc.step hb, h.rn.step hb⟩
theorem reuse_all {comes needs : List Int} {start room : Int} (h : reErr comes needs start start = 0) (h0 : start ≤ room) (h2 : room ≤ 4294967296) :
    ∃ s : Rs, reuseR comes needs start room = (s, 0) ∧ s.b.length ≤ 200 ∧ (∀ x ∈ s.b, 0 ≤ x ∧ x ≤ 1099511627776) ∧ sumI s.b = buys comes needs start room := by
  have e1 := reErr_same h h0 h2
  obtain ⟨a, b, c, d, e, f⟩ := reErr_ok h
  have hz : (comes.zip needs).length = comes.length := by simp [b]
  have hb := hrs_bd (l := comes.zip needs) c d h0 h2 comes.length (by omega)
  rw [List.take_of_length_le (by omega)] at hb
  refine ⟨hrs room start (comes.zip needs), by unfold reuseR; rw [if_pos e1], by omega, fun x hx => by have := hb.2.2.2 x hx; omega, ?_⟩
  unfold buys reuseR; rw [if_pos e1]
set_option maxRecDepth 100000 in
set_option maxHeartbeats 1000000 in
theorem enough_any (comes needs : List Int) (start limit room : Int) (A A' : Option Addr) (cap cap' B0 B1 B2 B3 : Nat) (W : World) (h : RIn W B0 B1 B2 B3 comes needs start limit A A' cap cap') (he : reErr comes needs start start = 0) (h0 : start ≤ room) (h2 : room ≤ 4294967296) :
    Calls Try.prog 43 #[.int .i64 room, .pointer (some ⟨B0, 0, none⟩), .pointer (some ⟨B1, 0, none⟩), .pointer (some ⟨B2, 0, none⟩), .pointer (some ⟨B3, 0, none⟩)] W fun e W' => e = .returned (.bool (enoughB comes needs start limit room)) ∧ Below W.heap.size W W' := by
  obtain ⟨s, hs, hl, hbd, hsum⟩ := reuse_all he h0 h2
  have hlen := (reErr_ok he).1
  have c0 : W.cell? ⟨B0, 0, none⟩ = some (.slice A comes.length cap) := h.c.cell 0
  have c1 : W.cell? ⟨B1, 0, none⟩ = some (.slice A' needs.length cap') := h.n.cell 0
  have c2 : W.cell? ⟨B2, 0, none⟩ = some (.int .i64 start) := h.s.cell 0
  have hB : Hid (enoughB comes needs start limit room = decide (sumI s.b ≤ limit)) := by show _ = _; unfold enoughB; rw [hsum]
  have H := Lib.hid (And.intro h (And.intro hs (And.intro hl hbd)))
  clear h hs hl hbd hsum he h0 h2
  go_enter Try.func43, Try.ntmps43
  go_wp2_with fail
  refine (reuse_any comes needs start room A A' cap cap' W H.out.1.rc H.out.1.rn (by omega)).mono ?_
  rw [H.out.2.1]
  rintro e w1 ⟨A1, cap1, rfl, hb, hI⟩
  have h1 := H.out.1.below hb
  have c3 : w1.cell? ⟨B3, 0, none⟩ = some (.int .i64 limit) := h1.m.cell 0
  have hsa := fun n => sum_any s.b A1 cap1 (w1.drewN n) (hI.below (below_drewN (Below.refl _ _) n)) (by have := H.out.2.2.1; omega) H.out.2.2.2
  have HS := Lib.hid (And.intro hsa hb)
  clear hb hI h1 hsa c0 c1 c2
  go_wp2_with fail
  go_quiet ((go_at_call 44; exact Calls.quiet_of_same (HS.out.1 _)))
  go_wp2_with fail
  go_ret
  rw [hB.out]
  exact ⟨rfl, below_drewN HS.out.2 _⟩
set_option maxRecDepth 100000 in
set_option maxHeartbeats 1000000 in
theorem more_any (comes needs : List Int) (start limit more : Int) (A A' : Option Addr) (cap cap' B0 B1 B2 B3 B4 : Nat) (W : World) (h : RIn W B0 B1 B2 B3 comes needs start limit A A' cap cap') (h4 : Has W B4 78 #[.func (.func 43) #[] #[.pointer (some ⟨B0, 0, none⟩), .pointer (some ⟨B1, 0, none⟩), .pointer (some ⟨B2, 0, none⟩), .pointer (some ⟨B3, 0, none⟩)]]) (he : reErr comes needs start start = 0) (h0 : 0 ≤ more) (h2 : start + more ≤ 4294967296) :
    Calls Try.prog 46 #[.int .i64 more, .pointer (some ⟨B4, 0, none⟩), .pointer (some ⟨B2, 0, none⟩)] W fun e W' => e = .returned (.bool (enoughB comes needs start limit (start + more))) ∧ Below W.heap.size W W' := by
  have c4 : W.cell? ⟨B4, 0, none⟩ = some (.func (.func 43) #[] #[.pointer (some ⟨B0, 0, none⟩), .pointer (some ⟨B1, 0, none⟩), .pointer (some ⟨B2, 0, none⟩), .pointer (some ⟨B3, 0, none⟩)]) := h4.cell 0
  have c2 : W.cell? ⟨B2, 0, none⟩ = some (.int .i64 start) := h.s.cell 0
  have hst := (reErr_ok he).2.2.2.1
  have hen := enough_any comes needs start limit (start + more) A A' cap cap' B0 B1 B2 B3 W h he (by omega) h2
  have HE := Lib.hid hen
  have eg := fun args w => enters_of (P := Try.prog) Try.func43 (by kernel_rfl) rfl args w
  clear hen he h h4
  go_enter Try.func46, Try.ntmps46
  go_wp2_with fail
  refine HE.out.mono ?_
  rintro e w1 ⟨rfl, hb⟩
  go_wp2_with fail
  go_ret
  exact ⟨rfl, hb⟩
end Go.Proofs.Ytjfopmjphiddiaa
/- Room. -/
namespace Go.Proofs.Ytjfopmjphiddiaa
open Go.RowKit Go.Shelf
def RoomPost (comes needs : List Int) (start limit : Int) (W : World) (e : Ending) (W' : World) : Prop :=
  ∃ n c, e = .returned (.tuple #[.int .i64 n, .int .i64 c]) ∧ RoomR comes needs start limit n c ∧ Below W.heap.size W W'
theorem reuse_err {comes needs : List Int} {start room c : Int} (h : reErr comes needs start room = c) (hc : c ≠ 0) : reuseR comes needs start room = (⟨[], 0, 0⟩, c) := by
  unfold reuseR; rw [h, if_neg hc]
theorem RIn.start (W : World) (comes needs : List Int) (start limit : Int) (A A' : Option Addr) (cap cap' : Nat) (hr : IRow W W.heap.size A comes) (hr' : IRow W W.heap.size A' needs) :
    Below W.heap.size W ((((W.alloc (.cells #[.slice A comes.length cap] 39)).alloc (.cells #[.slice A' needs.length cap'] 39)).alloc (.cells #[.int .i64 start] 3)).alloc (.cells #[.int .i64 limit] 3)) ∧
    RIn ((((W.alloc (.cells #[.slice A comes.length cap] 39)).alloc (.cells #[.slice A' needs.length cap'] 39)).alloc (.cells #[.int .i64 start] 3)).alloc (.cells #[.int .i64 limit] 3)) W.heap.size (W.heap.size + 1) (W.heap.size + 1 + 1) (W.heap.size + 1 + 1 + 1) comes needs start limit A A' cap cap' := by
  have hb : Below W.heap.size W ((((W.alloc (.cells #[.slice A comes.length cap] 39)).alloc (.cells #[.slice A' needs.length cap'] 39)).alloc (.cells #[.int .i64 start] 3)).alloc (.cells #[.int .i64 limit] 3)) :=
    (((below_one _ _).alloc (by simp) _).alloc (by simp; omega) _).alloc (by simp; omega) _
  exact ⟨hb, (((Has.new _ _ _).alloc _).alloc _).alloc _, ((Has.newAt (by simp)).alloc _).alloc _, (Has.newAt (by simp)).alloc _, Has.newAt (by simp), hr.step hb, hr'.step hb⟩

set_option maxRecDepth 100000 in
set_option maxHeartbeats 4000000 in
theorem room_any (comes needs : List Int) (start limit : Int) (A A' : Option Addr) (cap cap' : Nat) (W : World) (hr : IRow W W.heap.size A comes) (hr' : IRow W W.heap.size A' needs) (hl : comes.length ≤ 9223372036854775807) :
    Calls Try.prog 21 #[.slice A comes.length cap, .slice A' needs.length cap', .int .i64 start, .int .i64 limit] W (RoomPost comes needs start limit W) := by
  have H0 := Lib.hid (RIn.start W comes needs start limit A A' cap cap' hr hr')
  clear hr hr'
  by_cases hE : reErr comes needs start start = 0
  case neg =>
    obtain ⟨c, hc⟩ : ∃ c, c = reErr comes needs start start := ⟨_, rfl⟩
    have hq : (c != 0) = true := by simp; omega
    have hR := Lib.hid (show RoomR comes needs start limit 0 c by unfold RoomR; rw [if_pos hE, hc]; exact ⟨rfl, rfl⟩)
    have hX := Lib.hid (reuse_err hc.symm (by omega))
    clear hE hc
    go_enter Try.func21, Try.ntmps21
    go_wp2_with fail
    refine (reuse_any comes needs start start A A' cap cap' _ H0.out.2.rc H0.out.2.rn hl).mono ?_
    rw [hX.out]
    rintro e w1 ⟨A1, cap1, rfl, hb, hI⟩
    have hb1 := Lib.hid (H0.out.1.trans (hb.mono H0.out.1.size))
    clear hb hI
    go_wp2_with fail
    go_ret2
    exact ⟨0, c, rfl, hR.out, hb1.out⟩
  have hb0 := reErr_ok hE
  have hs0 := hb0.2.2.2.1
  have hs1 := hb0.2.2.2.2.2
  obtain ⟨s, hs, hsl, -, -⟩ := reuse_all hE (Int.le_refl start) hs1
  have HE := Lib.hid (And.intro hE hs)
  clear hb0 hs hE
  by_cases hlm : limit < 0 ∨ 1099511627776 < limit
  · have hR := Lib.hid (show RoomR comes needs start limit 0 2 by unfold RoomR; rw [if_neg (by simp [HE.out.1]), if_pos hlm]; exact ⟨rfl, rfl⟩)
    rcases hlm with hlm | hlm
    · go_enter Try.func21, Try.ntmps21
      go_wp2_with fail
      refine (reuse_any comes needs start start A A' cap cap' _ H0.out.2.rc H0.out.2.rn hl).mono ?_
      rw [HE.out.2]
      rintro e w1 ⟨A1, cap1, rfl, hb, hI⟩
      have h1 := H0.out.2.below hb
      have c3 : w1.cell? ⟨W.heap.size + 1 + 1 + 1, 0, none⟩ = some (.int .i64 limit) := h1.m.cell 0
      have hb1 := Lib.hid (H0.out.1.trans (hb.mono H0.out.1.size))
      clear hb hI h1
      go_wp2_with fail
      go_ret2
      exact ⟨0, 2, rfl, hR.out, hb1.out⟩
    · have hn0 : decide (limit < 0) = false := by simp; omega
      go_enter Try.func21, Try.ntmps21
      go_wp2_with fail
      refine (reuse_any comes needs start start A A' cap cap' _ H0.out.2.rc H0.out.2.rn hl).mono ?_
      rw [HE.out.2]
      rintro e w1 ⟨A1, cap1, rfl, hb, hI⟩
      have h1 := H0.out.2.below hb
      have c3 : w1.cell? ⟨W.heap.size + 1 + 1 + 1, 0, none⟩ = some (.int .i64 limit) := h1.m.cell 0
      have hb1 := Lib.hid (H0.out.1.trans (hb.mono H0.out.1.size))
      clear hb hI h1
      go_wp2_with fail
      go_ret2
      exact ⟨0, 2, rfl, hR.out, hb1.out⟩
  have hl0 : 0 ≤ limit := by omega
  have hl1 : limit ≤ 1099511627776 := by omega
  have hn0 : decide (limit < 0) = false := by simp; omega
  have hn1 : decide (1099511627776 < limit) = false := by simp; omega
  have HM := Lib.hid hlm
  have hmf : ∀ (fn : Fn) (first cap : Array Value) (w : World), (Instr.makeFunc fn first cap).run Try.prog w = .ok (.func fn first cap) w := fun _ _ _ _ => rfl
  have eg := fun args w => enters_of (P := Try.prog) Try.func43 (by kernel_rfl) rfl args w
  clear hlm
  cases hM : enoughB comes needs start limit 4294967296
  · have hR := Lib.hid (show RoomR comes needs start limit 0 4 by unfold RoomR; rw [if_neg (by simp [HE.out.1]), if_neg HM.out, if_pos hM]; exact ⟨rfl, rfl⟩)
    have HH := Lib.hid hM
    clear hM
    go_enter Try.func21, Try.ntmps21
    go_wp2_with fail
    refine (reuse_any comes needs start start A A' cap cap' _ H0.out.2.rc H0.out.2.rn hl).mono ?_
    rw [HE.out.2]
    rintro e w1 ⟨A1, cap1, rfl, hb, hI⟩
    have h1 := H0.out.2.below hb
    have c3 : w1.cell? ⟨W.heap.size + 1 + 1 + 1, 0, none⟩ = some (.int .i64 limit) := h1.m.cell 0
    have hb1 := Lib.hid (And.intro (H0.out.1.trans (hb.mono H0.out.1.size)) h1)
    clear hb hI h1
    go_wp2_with fail
    refine (enough_any comes needs start limit 4294967296 A A' cap cap' W.heap.size (W.heap.size + 1) (W.heap.size + 1 + 1) (W.heap.size + 1 + 1 + 1) _ (hb1.out.2.below (below_one _ _)) HE.out.1 (by omega) (by omega)).mono ?_
    rw [HH.out]
    rintro e w2 ⟨rfl, hb2⟩
    have hb3 := Lib.hid (hb1.out.1.trans (((below_one w1 _).trans (hb2.mono (by simp))).mono hb1.out.1.size))
    clear hb2
    go_wp2_with fail
    go_ret2
    exact ⟨0, 4, rfl, hR.out, hb3.out⟩
  · have HH := Lib.hid hM
    clear hM
    obtain ⟨N, hN⟩ := Int.eq_ofNat_of_zero_le (show 0 ≤ 4294967296 - start by omega)
    have HN := Lib.hid hN
    clear hN
    go_enter Try.func21, Try.ntmps21
    go_wp2_with fail
    refine (reuse_any comes needs start start A A' cap cap' _ H0.out.2.rc H0.out.2.rn hl).mono ?_
    rw [HE.out.2]
    rintro e w1 ⟨A1, cap1, rfl, hb, hI⟩
    have h1 := H0.out.2.below hb
    have c3 : w1.cell? ⟨W.heap.size + 1 + 1 + 1, 0, none⟩ = some (.int .i64 limit) := h1.m.cell 0
    have hb1 := Lib.hid (And.intro (H0.out.1.trans (hb.mono H0.out.1.size)) h1)
    clear hb hI h1
    go_wp2_with fail
    have h4 : Has (w1.alloc (.cells #[.func (.func 43) #[] #[.pointer (some ⟨W.heap.size, 0, none⟩), .pointer (some ⟨W.heap.size + 1, 0, none⟩), .pointer (some ⟨W.heap.size + 1 + 1, 0, none⟩), .pointer (some ⟨W.heap.size + 1 + 1 + 1, 0, none⟩)]] 78)) w1.heap.size 78 #[.func (.func 43) #[] #[.pointer (some ⟨W.heap.size, 0, none⟩), .pointer (some ⟨W.heap.size + 1, 0, none⟩), .pointer (some ⟨W.heap.size + 1 + 1, 0, none⟩), .pointer (some ⟨W.heap.size + 1 + 1 + 1, 0, none⟩)]] := Has.new _ _ _
    refine (enough_any comes needs start limit 4294967296 A A' cap cap' W.heap.size (W.heap.size + 1) (W.heap.size + 1 + 1) (W.heap.size + 1 + 1 + 1) _ (hb1.out.2.below (below_one _ _)) HE.out.1 (by omega) (by omega)).mono ?_
    rw [HH.out]
    rintro e w2 ⟨rfl, hb2⟩
    have hw2 := (hb1.out.2.below (below_one w1 (.cells #[.func (.func 43) #[] #[.pointer (some ⟨W.heap.size, 0, none⟩), .pointer (some ⟨W.heap.size + 1, 0, none⟩), .pointer (some ⟨W.heap.size + 1 + 1, 0, none⟩), .pointer (some ⟨W.heap.size + 1 + 1 + 1, 0, none⟩)]] 78))).below hb2
    have c2 : w2.cell? ⟨W.heap.size + 1 + 1, 0, none⟩ = some (.int .i64 start) := hw2.s.cell 0
    have hb3 := Lib.hid (And.intro (hb1.out.1.trans (((below_one w1 _).trans (hb2.mono (by simp))).mono hb1.out.1.size)) (And.intro hw2 (h4.below hb2 (by simp))))
    clear hb2 h4 hw2 c3
    go_wp2_with fail
    refine (search_at 46 #[.pointer (some ⟨w1.heap.size, 0, none⟩), .pointer (some ⟨W.heap.size + 1 + 1, 0, none⟩)] (fun x => enoughB comes needs start limit (start + x)) N (4294967296 - start) HN.out.symm w2 (by have := HN.out; omega) (enters_of Try.func46 (by kernel_rfl) rfl)
      (fun x W2 hx0 hxN hbW => more_any comes needs start limit x A A' cap cap' W.heap.size (W.heap.size + 1) (W.heap.size + 1 + 1) (W.heap.size + 1 + 1 + 1) w1.heap.size W2 (hb3.out.2.1.below hbW) (hb3.out.2.2.below hbW hb3.out.2.2.lt) HE.out.1 hx0 (by have := HN.out; omega))).mono ?_
    rintro e w3 ⟨r, rfl, r1, r2, r3, hbs⟩
    have c2' : w3.cell? ⟨W.heap.size + 1 + 1, 0, none⟩ = some (.int .i64 start) := (hb3.out.2.1.below hbs).s.cell 0
    have hrN : start + (r : Int) ≤ 4294967296 := by have := HN.out; omega
    have hR := Lib.hid (show RoomR comes needs start limit (start + r) 0 by
      unfold RoomR; rw [if_neg (by simp [HE.out.1]), if_neg HM.out, if_neg (by simp [HH.out])]
      refine ⟨rfl, by omega, hrN, ?_, fun h => ?_⟩
      · by_cases hlt : r < N
        · exact r2 hlt
        · have := HN.out
          rw [show start + (r : Int) = 4294967296 by omega]; exact HH.out
      · have := r3 (by omega)
        rw [show start + (r : Int) - 1 = start + ((r : Int) - 1) by omega]; exact this)
    have hb4 := Lib.hid (hb3.out.1.trans (hbs.mono hb3.out.1.size))
    clear hbs r1 r2 r3 c2
    go_wp2_with fail
    go_ret2
    exact ⟨_, 0, rfl, hR.out, hb4.out⟩
end Go.Proofs.Ytjfopmjphiddiaa
