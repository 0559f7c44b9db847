/- The document's sample. -/
import Derived.Test.YtjfopmjphiddiaaMgQ
import Derived.Test.YtjfopmjphiddiaaMgO
namespace Go.Proofs.Ytjfopmjphiddiaa
open Go.RowKit Go.Shelf
def smT : Sl := ⟨100, 1000⟩
def smP : List Pp := [⟨50, [⟨30, 90⟩, ⟨20, 100⟩]⟩, ⟨40, [⟨10, 50⟩]⟩]
def smE : List Ev := [⟨0, 0, 30, 0⟩, ⟨1, 0, 0, 50⟩, ⟨2, 1, 15, 0⟩, ⟨0, 0, 20, 0⟩, ⟨4, 0, 0, 400⟩, ⟨5, 0, 0, 550⟩]
def laT : Sl := ⟨55, 115⟩
def laP : List Pp := [⟨50, [⟨30, 330⟩, ⟨20, 200⟩]⟩, ⟨40, [⟨20, 60⟩, ⟨20, 120⟩]⟩]
def smS : Sm := ⟨50, 15, 65, 0, 0, 400, 100, 550, 50⟩
theorem play_sample : playR smT smP 200 500 smE = (some ⟨laP, laT, ⟨0, 500, smS⟩⟩, 6, 0) := by kernel_rfl
/-- rows of blocks known whole -/
def sfa (l : List Sl) : Array Value := (l.flatMap fun s => [iv s.v, iv s.h]).toArray
def efl (l : List Ev) : Array Value := (l.flatMap fun e => [iv e.k, iv e.p, iv e.a, iv e.h]).toArray
theorem flat_get {α : Type} (f : α → List Value) (n : Nat) (hf : ∀ a, (f a).length = n) (l : List α) (i : Nat) (h : i < l.length) (j : Nat) (hj : j < n) : (l.flatMap f)[i * n + j]? = (f l[i])[j]? := by
  induction l generalizing i with
  | nil => exact absurd h (by simp)
  | cons a l ih =>
    cases i with
    | zero =>
      simp only [List.flatMap_cons, Nat.zero_mul, Nat.zero_add, List.getElem_cons_zero]
      rw [List.getElem?_append_left (by rw [hf]; exact hj)]
    | succ i =>
      simp only [List.flatMap_cons, List.getElem_cons_succ]
      rw [List.getElem?_append_right (by rw [hf, Nat.succ_mul]; omega), ← ih i (by simpa using h)]
      congr 1
      rw [hf, Nat.succ_mul]; omega
theorem srow_of {w : World} {B n : Nat} {l : List Sl} {t : TypeId} (h : Has w B t (sfa l)) (hn : B < n) : SRow w n (some ⟨B, 0, none⟩) l := fun k hk => by
  refine ⟨B, 0, rfl, hn, ?_, ?_⟩ <;> rw [Nat.zero_add, h.cell] <;> simp only [sfa, List.getElem?_toArray]
  · have := flat_get (fun s : Sl => [iv s.v, iv s.h]) 2 (fun _ => rfl) l k hk 0 (by omega); simpa using this
  · have := flat_get (fun s : Sl => [iv s.v, iv s.h]) 2 (fun _ => rfl) l k hk 1 (by omega); simpa using this
theorem erow_of {w : World} {B n : Nat} {l : List Ev} {t : TypeId} (h : Has w B t (efl l)) (hn : B < n) : ERow w n (some ⟨B, 0, none⟩) l := fun k hk => by
  refine ⟨B, 0, rfl, hn, ?_, ?_, ?_, ?_⟩ <;> rw [Nat.zero_add, h.cell] <;> simp only [efl, List.getElem?_toArray]
  · have := flat_get (fun e : Ev => [iv e.k, iv e.p, iv e.a, iv e.h]) 4 (fun _ => rfl) l k hk 0 (by omega); simpa using this
  · have := flat_get (fun e : Ev => [iv e.k, iv e.p, iv e.a, iv e.h]) 4 (fun _ => rfl) l k hk 1 (by omega); simpa using this
  · have := flat_get (fun e : Ev => [iv e.k, iv e.p, iv e.a, iv e.h]) 4 (fun _ => rfl) l k hk 2 (by omega); simpa using this
  · have := flat_get (fun e : Ev => [iv e.k, iv e.p, iv e.a, iv e.h]) 4 (fun _ => rfl) l k hk 3 (by omega); simpa using this
theorem prow_two {w : World} {B n g g' c c' : Nat} {p q : Pp} {t : TypeId} (h : Has w B t #[iv p.room, .slice (some ⟨g, 0, none⟩) p.l.length c, iv q.room, .slice (some ⟨g', 0, none⟩) q.l.length c']) (hn : B < n) (h1 : SRow w n (some ⟨g, 0, none⟩) p.l) (h2 : SRow w n (some ⟨g', 0, none⟩) q.l) :
    PRow w n (some ⟨B, 0, none⟩) [p, q] := fun k hk => by
  match k, hk with
  | 0, _ => exact ⟨B, 0, _, c, rfl, hn, h.cell 0, h.cell 1, h1⟩
  | 1, _ => exact ⟨B, 0, _, c', rfl, hn, h.cell 2, h.cell 3, h2⟩
def SamPost (t : Sl) (ps : List Pp) (heat hroom : Int) (es : List Ev) (w : World) (e : Ending) (w' : World) : Prop :=
  ∃ B B', e = .returned (.tuple #[brv t (some ⟨B, 0, none⟩) ps.length ps.length heat hroom, .slice (some ⟨B', 0, none⟩) es.length es.length]) ∧ Below w.heap.size w w' ∧ PRow w' w'.heap.size (some ⟨B, 0, none⟩) ps ∧ ERow w' w'.heap.size (some ⟨B', 0, none⟩) es
set_option maxRecDepth 100000 in
set_option maxHeartbeats 1000000 in
theorem sample_any (w : World) : Calls Try.prog 24 #[] w (SamPost smT smP 200 500 smE w) := by
  go_enter Try.func24, Try.ntmps24
  go_wp2
  refine bodyPost_ret (v := .tuple #[brv smT (some ⟨w.heap.size + 1 + 1 + 1, 0, none⟩) 2 2 200 500, .slice (some ⟨w.heap.size + 1 + 1 + 1 + 1 + 1, 0, none⟩) 6 6]) (by simp [results, Try.results24, go_sem, smT]) rfl ?_
  refine ⟨w.heap.size + 1 + 1 + 1, w.heap.size + 1 + 1 + 1 + 1 + 1, rfl, ?_, ?_, ?_⟩
  · exact (((((below_one _ _).alloc (by simp) _).alloc (by simp; omega) _).alloc (by simp; omega) _).alloc (by simp; omega) _).alloc (by simp; omega) _
  · refine prow_two (t := 51) (g := w.heap.size + 1) (g' := w.heap.size + 1 + 1) (c := 2) (c' := 1) ?_ ?_ ?_ ?_
    · exact ((Has.newAt (by simp)).alloc _).alloc _
    · simp
    · exact srow_of (t := 23) (((((Has.newAt (by simp)).alloc _).alloc _).alloc _).alloc _) (by simp)
    · exact srow_of (t := 23) ((((Has.newAt (by simp)).alloc _).alloc _).alloc _) (by simp)
  · exact erow_of (t := 56) (Has.newAt (by simp)) (by simp)
def LaPost (w : World) (e : Ending) (w' : World) : Prop :=
  ∃ B, e = .returned (brv laT (some ⟨B, 0, none⟩) laP.length laP.length 0 500) ∧ Below w.heap.size w w' ∧ PRow w' w'.heap.size (some ⟨B, 0, none⟩) laP
set_option maxRecDepth 100000 in
set_option maxHeartbeats 1000000 in
theorem last_any (w : World) : Calls Try.prog 25 #[] w (LaPost w) := by
  go_enter Try.func25, Try.ntmps25
  go_wp2
  refine bodyPost_ret (v := brv laT (some ⟨w.heap.size + 1 + 1 + 1, 0, none⟩) 2 2 0 500) (by simp [results, Try.results25, go_sem, laT]) rfl ?_
  refine ⟨w.heap.size + 1 + 1 + 1, rfl, ?_, ?_⟩
  · exact (((below_one _ _).alloc (by simp) _).alloc (by simp; omega) _).alloc (by simp; omega) _
  · refine prow_two (t := 51) (g := w.heap.size + 1) (g' := w.heap.size + 1 + 1) (c := 2) (c' := 2) ?_ ?_ ?_ ?_
    · exact Has.newAt (by simp)
    · simp
    · exact srow_of (t := 23) (((Has.newAt (by simp)).alloc _).alloc _) (by simp)
    · exact srow_of (t := 23) ((Has.newAt (by simp)).alloc _) (by simp)
end Go.Proofs.Ytjfopmjphiddiaa
/- Two brines of the same content compared. -/
namespace Go.Proofs.Ytjfopmjphiddiaa
open Go.RowKit Go.Shelf
theorem neq23 (x y : Sl) (w : World) : (binOp .neq 23 (slv x) (slv y)).run Try.prog w = .ok (.bool (!decide (x = y))) w := by
  rw [run_neq_struct, equal23 9998]; rfl
theorem neq23s (x : Sl) (w : World) : (binOp .neq 23 (.agg #[.int .i64 x.v, .int .i64 x.h]) (.agg #[.int .i64 x.v, .int .i64 x.h])).run Try.prog w = .ok (.bool false) w := by
  have := neq23 x x w
  simpa using this
structure Two (w w' : World) (x y : Nat) (a b : Array Value) : Prop where
  bl : Below w.heap.size w w'
  h : Has w' x 51 a
  k : Has w' y 51 b
theorem two1 (w : World) (a b : Array Value) : Two w ((w.alloc (.cells a 51)).alloc (.cells b 51)).drew w.heap.size (w.heap.size + 1) a b :=
  ⟨below_dr ((below_one _ _).alloc (by simp) _), ((Has.new _ _ _).alloc _).drew, (Has.newAt (by simp)).drew⟩
theorem two2 (w : World) (a b : Array Value) : Two w ((w.alloc (.cells b 51)).alloc (.cells a 51)).drew (w.heap.size + 1) w.heap.size a b :=
  ⟨below_dr ((below_one _ _).alloc (by simp) _), (Has.newAt (by simp)).drew, ((Has.new _ _ _).alloc _).drew⟩
set_option maxRecDepth 100000 in
set_option maxHeartbeats 4000000 in
theorem same_any (t : Sl) (ps : List Pp) (heat hroom : Int) (A A' : Option Addr) (cap cap' : Nat) (W : World) (hr : PRow W W.heap.size A ps) (hr' : PRow W W.heap.size A' ps) (hl : ps.length ≤ 9223372036854775807) (hml : ∀ p ∈ ps, p.l.length ≤ 9223372036854775807) :
    Calls Try.prog 18 #[brv t A ps.length cap heat hroom, brv t A' ps.length cap' heat hroom] W fun e W' => e = .returned (.bool true) ∧ Below W.heap.size W W' := by
  have hb0 : Below W.heap.size W ((W.alloc (Obj.cells #[.int .i64 t.v, .int .i64 t.h, .slice A ps.length cap, .int .i64 heat, .int .i64 hroom] 26)).alloc (Obj.cells #[.int .i64 t.v, .int .i64 t.h, .slice A' ps.length cap', .int .i64 heat, .int .i64 hroom] 26)) := (below_one _ _).alloc (by simp) _
  have hx0 : Has ((W.alloc (Obj.cells #[.int .i64 t.v, .int .i64 t.h, .slice A ps.length cap, .int .i64 heat, .int .i64 hroom] 26)).alloc (Obj.cells #[.int .i64 t.v, .int .i64 t.h, .slice A' ps.length cap', .int .i64 heat, .int .i64 hroom] 26)) W.heap.size 26 #[.int .i64 t.v, .int .i64 t.h, .slice A ps.length cap, .int .i64 heat, .int .i64 hroom] := (Has.new _ _ _).alloc _
  have hx1 : Has ((W.alloc (Obj.cells #[.int .i64 t.v, .int .i64 t.h, .slice A ps.length cap, .int .i64 heat, .int .i64 hroom] 26)).alloc (Obj.cells #[.int .i64 t.v, .int .i64 t.h, .slice A' ps.length cap', .int .i64 heat, .int .i64 hroom] 26)) (W.heap.size + 1) 26 #[.int .i64 t.v, .int .i64 t.h, .slice A' ps.length cap', .int .i64 heat, .int .i64 hroom] := Has.newAt (by simp)
  have H0 := Lib.hid (And.intro hb0 (And.intro hx0 hx1))
  have HR := Lib.hid (And.intro hr (And.intro hr' hml))
  have hq := neq23s t
  clear hb0 hx0 hx1 hr hr' hml
  go_enter Try.func18, Try.ntmps18
  go_wp2_with fail
  go_loopw [5] (fun i wr => ∃ k : Nat, k ≤ ps.length ∧ i = .int .i64 k ∧ Hid (Below W.heap.size W wr ∧ Has wr W.heap.size 26 #[.int .i64 t.v, .int .i64 t.h, .slice A ps.length cap, .int .i64 heat, .int .i64 hroom] ∧ Has wr (W.heap.size + 1) 26 #[.int .i64 t.v, .int .i64 t.h, .slice A' ps.length cap', .int .i64 heat, .int .i64 hroom])) (fun i _ => ps.length - (intOf i).toNat)
  case atStart => exact ⟨0, Nat.zero_le _, rfl, H0.out⟩
  case round =>
    obtain ⟨k, hk, rfl, HB⟩ := hrel
    have e2 : wr.cell? ⟨W.heap.size, 2, none⟩ = some (.slice A ps.length cap) := HB.out.2.1.cell 2
    have e2' : wr.cell? ⟨W.heap.size + 1, 2, none⟩ = some (.slice A' ps.length cap') := HB.out.2.2.cell 2
    have hwl := HB.out.2.1.lt
    have hwl' := HB.out.2.2.lt
    by_cases hlt : k < ps.length
    · have hlt' : (k : Int) < ps.length := by omega
      obtain ⟨g, o, Aq, cq, eA, hg, d0, d1, hs⟩ := (HR.out.1.below HB.out.1) k hlt
      obtain ⟨g', o', Aq', cq', eA', hg', d0', d1', hs'⟩ := (HR.out.2.1.below HB.out.1) k hlt
      subst eA eA'
      have hgw : g < wr.heap.size := by omega
      have hgw' : g' < wr.heap.size := by omega
      obtain ⟨p, hp⟩ : ∃ p, p = ps[k] := ⟨_, rfl⟩
      have hpl : p.l.length ≤ 9223372036854775807 := HR.out.2.2 p (by rw [hp]; exact List.getElem_mem hlt)
      rw [← hp] at d0 d1 hs d0' d1' hs'
      have HS := Lib.hid (And.intro hs hs')
      clear hs hs' hp
      go_wp2_with fail
      go_cut [6, 7] (fun a b wx => ∃ x y, a = .pointer (some ⟨x, 0, none⟩) ∧ b = .pointer (some ⟨y, 0, none⟩) ∧ Hid (Two wr wx x y #[.int .i64 p.room, .slice Aq p.l.length cq] #[.int .i64 p.room, .slice Aq' p.l.length cq']))
      case first =>
        go_region_held3 (fun w' => w'.cell? ⟨W.heap.size, 2, none⟩ = some (.slice (some ⟨g, o, none⟩) ps.length cap) ∧ w'.cell? ⟨W.heap.size + 1, 2, none⟩ = some (.slice (some ⟨g', o', none⟩) ps.length cap') ∧ w'.cell? ⟨g, o + k * 2, none⟩ = some (.int .i64 p.room) ∧ w'.cell? ⟨g, o + k * 2 + 1, none⟩ = some (.slice Aq p.l.length cq) ∧ w'.cell? ⟨g', o' + k * 2, none⟩ = some (.int .i64 p.room) ∧ w'.cell? ⟨g', o' + k * 2 + 1, none⟩ = some (.slice Aq' p.l.length cq')) (first | exact ⟨e2, e2', d0, d1, d0', d1'⟩ | go_keep) (fail)
        all_goals (try go_wp2_with fail)
        all_goals go_meet
        all_goals first
          | exact ⟨_, _, rfl, rfl, two1 _ _ _⟩
          | exact ⟨_, _, rfl, rfl, two2 _ _ _⟩
      case rest =>
        obtain ⟨x, y, rfl, rfl, HT⟩ := hcut
        have x0 : World.cell? _ ⟨x, 0, none⟩ = some (.int .i64 p.room) := HT.out.h.cell 0
        have x1 : World.cell? _ ⟨x, 1, none⟩ = some (.slice Aq p.l.length cq) := HT.out.h.cell 1
        have y0 : World.cell? _ ⟨y, 0, none⟩ = some (.int .i64 p.room) := HT.out.k.cell 0
        have y1 : World.cell? _ ⟨y, 1, none⟩ = some (.slice Aq' p.l.length cq') := HT.out.k.cell 1
        have xl := HT.out.h.lt
        have yl := HT.out.k.lt
        have HU := Lib.hid (And.intro (HB.out.1.trans (HT.out.bl.mono HB.out.1.size)) (And.intro (HB.out.2.1.below HT.out.bl HB.out.2.1.lt) (HB.out.2.2.below HT.out.bl HB.out.2.2.lt)))
        have HV := Lib.hid (And.intro (HS.out.1.below (HT.out.bl.mono HB.out.1.size)) (HS.out.2.below (HT.out.bl.mono HB.out.1.size)))
        have HW := Lib.hid (And.intro HT.out.h HT.out.k)
        have hxw : wr.heap.size ≤ wc.heap.size := HT.out.bl.size
        clear HT d0 d1 d0' d1' e2 e2' HB HS x0 x1 y0 y1
        have x0 : wc.cell? ⟨x, 0, none⟩ = some (.int .i64 p.room) := HW.out.1.cell 0
        have x1 : wc.cell? ⟨x, 1, none⟩ = some (.slice Aq p.l.length cq) := HW.out.1.cell 1
        have y0 : wc.cell? ⟨y, 0, none⟩ = some (.int .i64 p.room) := HW.out.2.cell 0
        have y1 : wc.cell? ⟨y, 1, none⟩ = some (.slice Aq' p.l.length cq') := HW.out.2.cell 1
        go_wp2_with fail
        go_loopw [8] (fun j wx => ∃ m : Nat, m ≤ p.l.length ∧ j = .int .i64 m ∧ Hid (Below wc.heap.size wc wx)) (fun j _ => p.l.length - (intOf j).toNat)
        case atStart => exact ⟨0, Nat.zero_le _, rfl, Below.refl _ _⟩
        case round =>
          obtain ⟨m, hm, rfl, HX⟩ := hrel
          clear x0 x1 y0 y1
          have x1 : wr.cell? ⟨x, 1, none⟩ = some (.slice Aq p.l.length cq) := (HX.out.cell (p := ⟨x, 1, none⟩) xl).trans (HW.out.1.cell 1)
          have y1 : wr.cell? ⟨y, 1, none⟩ = some (.slice Aq' p.l.length cq') := (HX.out.cell (p := ⟨y, 1, none⟩) yl).trans (HW.out.2.cell 1)
          have hwx := HX.out.size
          have xl' : x < wr.heap.size := by omega
          have yl' : y < wr.heap.size := by omega
          by_cases hmt : m < p.l.length
          · have hmt' : (m : Int) < p.l.length := by omega
            obtain ⟨g2, o2, eA2, hg2, s0, s1⟩ := (HV.out.1.below (HX.out.mono (by omega))) m hmt
            obtain ⟨g3, o3, eA3, hg3, s2, s3⟩ := (HV.out.2.below (HX.out.mono (by omega))) m hmt
            subst eA2 eA3
            have hgx2 : g2 < wr.heap.size := by omega
            have hgx3 : g3 < wr.heap.size := by omega
            have hq2 := neq23s p.l[m]
            go_wp2
            refine still_all (by kernel_rfl) (by kernel_rfl) ?_
            repeat still_step
            refine wpStill_nil ?_
            clear hq2
            have HX2 := Lib.hid (below_dr HX.out)
            go_wp2
            go_roundw
            case rel => exact ⟨m + 1, by omega, by go_num, HX2⟩
            case measure => simp [intOf]; omega
          · have hmt' : ¬ (m : Int) < p.l.length := by omega
            have HQ := Lib.hid (And.intro (HU.out.1.trans (HX.out.mono (by omega))) (And.intro (HU.out.2.1.below HX.out HU.out.2.1.lt) (HU.out.2.2.below HX.out HU.out.2.2.lt)))
            go_wp2_with fail
            go_roundw
            case rel => exact ⟨k + 1, by omega, by go_num, HQ⟩
            case measure => simp [intOf]; omega
    · have hk' : ¬ (k : Int) < ps.length := by omega
      go_wp2_with fail
      go_ret
      exact ⟨rfl, HB.out.1⟩
end Go.Proofs.Ytjfopmjphiddiaa
/- alive. -/
namespace Go.Proofs.Ytjfopmjphiddiaa
open Go.RowKit Go.Shelf
theorem PRow.step {w w' : World} {A : Option Addr} {l : List Pp} (h : PRow w w.heap.size A l) (hb : Below w.heap.size w w') : PRow w' w'.heap.size A l := (h.below hb).more hb.size
theorem ERow.step {w w' : World} {A : Option Addr} {l : List Ev} (h : ERow w w.heap.size A l) (hb : Below w.heap.size w w') : ERow w' w'.heap.size A l := fun k hk => by
  obtain ⟨g, o, e, hg, c⟩ := (h.below hb) k hk
  exact ⟨g, o, e, by have := hb.size; omega, c⟩
/-- what Play returns, as rows -/
def PlayRow (x : Option Yx × Nat × Int) (W : World) (e : Ending) (W' : World) : Prop :=
  Below W.heap.size W W' ∧ match x.1 with
  | none => e = .returned (.tuple #[zbr, zsm, .int .i64 x.2.1, .int .i64 x.2.2])
  | some z => ∃ A cap, e = .returned (.tuple #[brv z.t A z.ps.length cap z.r.heat z.r.room, smv z.r.s, .int .i64 x.2.1, .int .i64 x.2.2]) ∧ PRow W' W'.heap.size A z.ps
theorem srow_q {W : World} {q : Qu} (h : QHas W q) : SRow W W.heap.size (some ⟨q.g, q.off, none⟩) q.l := fun k hk => by
  obtain ⟨cur, hc, _, hs⟩ := h.blk
  refine ⟨q.g, q.off, rfl, hc.lt, ?_, ?_⟩
  · rw [hc.cell]; exact (hs k hk).1
  · rw [hc.cell]; exact (hs k hk).2
theorem prow_q {W : World} {Bn : Nat} {qs : List Qu} (h : Has W Bn 51 (qcells qs)) (hq : ∀ q ∈ qs, QHas W q) : PRow W W.heap.size (some ⟨Bn, 0, none⟩) (qs.map Qu.pp) := fun k hk => by
  have hk' : k < qs.length := by simpa using hk
  have g0 := flat_get (fun q : Qu => [iv q.room, q.sv]) 2 (fun _ => rfl) qs k hk' 0 (by omega)
  have g1 := flat_get (fun q : Qu => [iv q.room, q.sv]) 2 (fun _ => rfl) qs k hk' 1 (by omega)
  refine ⟨Bn, 0, some ⟨qs[k].g, qs[k].off, none⟩, qs[k].cap, rfl, h.lt, ?_, ?_, ?_⟩
  · rw [Nat.zero_add, h.cell]
    simp only [qcells, qcl, List.getElem?_toArray, List.getElem_map, Qu.pp]
    simpa using g0
  · rw [Nat.zero_add, h.cell]
    simp only [qcells, qcl, List.getElem?_toArray, List.getElem_map, Qu.pp]
    simpa [Qu.sv] using g1
  · have := srow_q (hq _ (List.getElem_mem hk'))
    simpa [Qu.pp] using this
theorem play_row {x : Option Yx × Nat × Int} {W W' : World} {e : Ending} (h : PlayPost x W e W') : PlayRow x W e W' := by
  obtain ⟨hb, h⟩ := h
  refine ⟨hb, ?_⟩
  cases hx : x.1 with
  | none => rw [hx] at h; exact h
  | some z =>
    rw [hx] at h
    obtain ⟨Bn, qs, rfl, hm, hh, hq, -, -⟩ := h
    have hl : z.ps.length = qs.length := by rw [← hm]; simp
    refine ⟨some ⟨Bn, 0, none⟩, qs.length, by rw [hl], ?_⟩
    rw [← hm]
    exact prow_q hh (fun q hq' => (hq q hq').1)
theorem reuse_sample : reuseR [100, 50, 0, 30] [20, 20, 80, 40] 10 60 = (⟨[0, 0, 20, 10], 0, 60⟩, 0) := by kernel_rfl
theorem irow_four {w : World} {B n : Nat} {a b c d : Int} (h : Has w B 3 #[iv a, iv b, iv c, iv d]) (hn : B < n) : IRow w n (some ⟨B, 0, none⟩) [a, b, c, d] := fun k hk => by
  refine ⟨B, 0, rfl, hn, ?_⟩
  rw [Nat.zero_add, h.cell]
  match k, hk with
  | 0, _ => rfl
  | 1, _ => rfl
  | 2, _ => rfl
  | 3, _ => rfl
def PSPost (wa : World) (r : Ending) (wb : World) : Prop :=
  ∃ A cap, r = .returned (.tuple #[brv laT A laP.length cap 0 500, smv smS, .int .i64 6, .int .i64 0]) ∧ Below wa.heap.size wa wb ∧ PRow wb wb.heap.size A laP
theorem play_sm (A A' : Option Addr) (wa : World) (h1 : PRow wa wa.heap.size A smP) (h2 : ERow wa wa.heap.size A' smE) : Calls Try.prog 14 #[brv smT A smP.length smP.length 200 500, .slice A' smE.length smE.length] wa (PSPost wa) := by
  refine (play_any smT smP smE A A' 2 6 200 500 wa h1 h2 (by decide) (by decide) (by decide) (by decide)).mono fun r wb h => ?_
  have h := play_row h
  rw [play_sample] at h
  obtain ⟨hb, A, cap, rfl, hp⟩ := h
  exact ⟨A, cap, rfl, hb, hp⟩
def RSPost (wa : World) (r : Ending) (wb : World) : Prop :=
  ∃ A cap, r = .returned (.tuple #[.slice A 4 cap, .int .i64 0, .int .i64 60, .int .i64 0]) ∧ Below wa.heap.size wa wb ∧ IRow wb wb.heap.size A [0, 0, 20, 10]
theorem reuse_sm (B B' : Nat) (wa : World) (h1 : Has wa B 3 #[iv 100, iv 50, iv 0, iv 30]) (h2 : Has wa B' 3 #[iv 20, iv 20, iv 80, iv 40]) : Calls Try.prog 19 #[.slice (some ⟨B, 0, none⟩) 4 4, .slice (some ⟨B', 0, none⟩) 4 4, .int .i64 10, .int .i64 60] wa (RSPost wa) := by
  refine (reuse_any [100, 50, 0, 30] [20, 20, 80, 40] 10 60 (some ⟨B, 0, none⟩) (some ⟨B', 0, none⟩) 4 4 wa (irow_four h1 h1.lt) (irow_four h2 h2.lt) (by decide)).mono fun r wb h => ?_
  rw [reuse_sample] at h
  obtain ⟨A, cap, rfl, hb, hI⟩ := h
  exact ⟨A, cap, rfl, hb, hI⟩
theorem same_la (A A' : Option Addr) (cap cap' : Nat) (wa : World) (h1 : PRow wa wa.heap.size A laP) (h2 : PRow wa wa.heap.size A' laP) : Calls Try.prog 18 #[brv laT A laP.length cap 0 500, brv laT A' laP.length cap' 0 500] wa fun r wb => r = .returned (.bool true) ∧ Below wa.heap.size wa wb :=
  same_any laT laP 0 500 A A' cap cap' wa h1 h2 (by decide) (by decide)
theorem ints_sm (A : Option Addr) (cap B : Nat) (wa : World) (h1 : IRow wa wa.heap.size A [0, 0, 20, 10]) (h2 : Has wa B 3 #[iv 0, iv 0, iv 20, iv 10]) : Calls Try.prog 23 #[.slice A 4 cap, .slice (some ⟨B, 0, none⟩) 4 4] wa fun r wb => r = .returned (.bool true) ∧ Below wa.heap.size wa wb := by
  refine (ints_any [0, 0, 20, 10] [0, 0, 20, 10] A (some ⟨B, 0, none⟩) cap 4 wa h1 (irow_four h2 h2.lt) (by decide) (by decide)).mono ?_
  rintro r wb ⟨rfl, hb⟩
  exact ⟨by simp, hb⟩
theorem Try.stood31 : Try.prog.stoodInHeld 31 = false := by kernel_rfl
theorem Try.fields31 : Try.prog.underlying 31 = some (.struct (Try.prog.fieldsOf 31)) := by kernel_rfl
theorem equal31 (n : Nat) (x y : Sm) (w : World) : (Op.equalIn (n + 3) 31 (smv x) (smv y)).run Try.prog w = .ok (decide (x.wa = y.wa ∧ x.lv = y.lv ∧ x.lh = y.lh ∧ x.fv = y.fv ∧ x.fh = y.fh ∧ x.ch = y.ch ∧ x.ai = y.ai ∧ x.us = y.us ∧ x.bo = y.bo)) w := by
  rw [run_equalIn_struct w (n + 2) 31 _ _ Try.fields31 Try.stood31]
  obtain ⟨a, b, c, d, e, f, g, h, i⟩ := x
  obtain ⟨a', b', c', d', e', f', g', h', i'⟩ := y
  simp [Program.fieldsOf, Try.underlying31, Op.eqFields, go_sem]
  repeat (split <;> simp_all)
theorem eql31s (x : Sm) (w : World) : (binOp .eql 31 (smv x) (smv x)).run Try.prog w = .ok (.bool true) w := by
  rw [run_eql_struct, equal31 9997]; simp
/-- what alive has laid, as it lies in a later world -/
structure AlK (w W : World) (b c d : Nat) (A3 A4 : Option Addr) (cap3 : Nat) : Prop where
  bl : Below w.heap.size w W
  e : Has W b 26 #[.int .i64 laT.v, .int .i64 laT.h, .slice A3 laP.length cap3, .int .i64 0, .int .i64 500]
  s : Has W c 31 #[.int .i64 smS.wa, .int .i64 smS.lv, .int .i64 smS.lh, .int .i64 smS.fv, .int .i64 smS.fh, .int .i64 smS.ch, .int .i64 smS.ai, .int .i64 smS.us, .int .i64 smS.bo]
  t : Has W d 31 #[.int .i64 50, .int .i64 15, .int .i64 65, .int .i64 0, .int .i64 0, .int .i64 400, .int .i64 100, .int .i64 550, .int .i64 50]
  p : PRow W W.heap.size A3 laP
  i : IRow W W.heap.size A4 [0, 0, 20, 10]
theorem AlK.step {w W W' : World} {b c t : Nat} {A3 A4 : Option Addr} {cap3 : Nat} (h : AlK w W b c t A3 A4 cap3) (hb : Below W.heap.size W W') : AlK w W' b c t A3 A4 cap3 :=
  ⟨h.bl.trans (hb.mono h.bl.size), h.e.below hb h.e.lt, h.s.below hb h.s.lt, h.t.below hb h.t.lt, h.p.step hb, h.i.step hb⟩
theorem AlK.keep {w W : World} {b c t : Nat} {A3 A4 : Option Addr} {cap3 : Nat} (h : AlK w W b c t A3 A4 cap3) :
    W.cell? ⟨b, 0, none⟩ = some (.int .i64 laT.v) ∧ W.cell? ⟨b, 1, none⟩ = some (.int .i64 laT.h) ∧ W.cell? ⟨b, 2, none⟩ = some (.slice A3 laP.length cap3) ∧ W.cell? ⟨b, 3, none⟩ = some (.int .i64 0) ∧ W.cell? ⟨b, 4, none⟩ = some (.int .i64 500) ∧ W.cell? ⟨c, 0, none⟩ = some (.int .i64 smS.wa) ∧ W.cell? ⟨c, 1, none⟩ = some (.int .i64 smS.lv) ∧ W.cell? ⟨c, 2, none⟩ = some (.int .i64 smS.lh) ∧ W.cell? ⟨c, 3, none⟩ = some (.int .i64 smS.fv) ∧ W.cell? ⟨c, 4, none⟩ = some (.int .i64 smS.fh) ∧ W.cell? ⟨c, 5, none⟩ = some (.int .i64 smS.ch) ∧ W.cell? ⟨c, 6, none⟩ = some (.int .i64 smS.ai) ∧ W.cell? ⟨c, 7, none⟩ = some (.int .i64 smS.us) ∧ W.cell? ⟨c, 8, none⟩ = some (.int .i64 smS.bo) ∧ W.cell? ⟨t, 0, none⟩ = some (.int .i64 50) ∧ W.cell? ⟨t, 1, none⟩ = some (.int .i64 15) ∧ W.cell? ⟨t, 2, none⟩ = some (.int .i64 65) ∧ W.cell? ⟨t, 3, none⟩ = some (.int .i64 0) ∧ W.cell? ⟨t, 4, none⟩ = some (.int .i64 0) ∧ W.cell? ⟨t, 5, none⟩ = some (.int .i64 400) ∧ W.cell? ⟨t, 6, none⟩ = some (.int .i64 100) ∧ W.cell? ⟨t, 7, none⟩ = some (.int .i64 550) ∧ W.cell? ⟨t, 8, none⟩ = some (.int .i64 50) :=
  ⟨h.e.cell 0, h.e.cell 1, h.e.cell 2, h.e.cell 3, h.e.cell 4, h.s.cell 0, h.s.cell 1, h.s.cell 2, h.s.cell 3, h.s.cell 4, h.s.cell 5, h.s.cell 6, h.s.cell 7, h.s.cell 8, h.t.cell 0, h.t.cell 1, h.t.cell 2, h.t.cell 3, h.t.cell 4, h.t.cell 5, h.t.cell 6, h.t.cell 7, h.t.cell 8⟩
set_option maxRecDepth 100000 in
set_option maxHeartbeats 4000000 in
theorem alive_any (w : World) : Calls Try.prog 13 #[] w fun e w' => e = .returned (.bool true) ∧ Below w.heap.size w w' := by
  go_enter Try.func13, Try.ntmps13
  go_wp2_with fail
  refine (sample_any w).mono ?_
  rintro r wa ⟨B1, B2, rfl, hb, hP, hE⟩
  have HZ := Lib.hid (And.intro hb (And.intro hP hE))
  clear hb hP hE
  go_wp2_with fail
  refine (play_sm (some ⟨B1, 0, none⟩) (some ⟨B2, 0, none⟩) _ (HZ.out.2.1.step (below_one _ _)) (HZ.out.2.2.step (below_one _ _))).mono ?_
  rintro r wb ⟨A3, cap3, rfl, hbb, hR⟩
  have hsa := HZ.out.1.size
  have hbB : Below w.heap.size w wb := HZ.out.1.trans (((below_one wa _).trans (hbb.mono (by simp))).mono hsa)
  have HB := Lib.hid (And.intro hbB hR)
  clear hbb hbB hR HZ
  go_wp2_with fail
  have he0 : Has (((wb.alloc (.cells #[.int .i64 laT.v, .int .i64 laT.h, .slice A3 laP.length cap3, .int .i64 0, .int .i64 500] 26)).alloc (.cells #[.int .i64 smS.wa, .int .i64 smS.lv, .int .i64 smS.lh, .int .i64 smS.fv, .int .i64 smS.fh, .int .i64 smS.ch, .int .i64 smS.ai, .int .i64 smS.us, .int .i64 smS.bo] 31)).alloc (.cells #[.int .i64 100, .int .i64 50, .int .i64 0, .int .i64 30] 3)) (wb.heap.size + 1 + 1) 3 #[.int .i64 100, .int .i64 50, .int .i64 0, .int .i64 30] := Has.newAt (by simp)
  refine (reuse_sm (wb.heap.size + 1 + 1) (wb.heap.size + 1 + 1 + 1) _ (he0.alloc _) (Has.newAt (by simp))).mono ?_
  clear he0
  rintro r wc ⟨A4, cap4, rfl, hbc, hI⟩
  have hwb := HB.out.1.size
  have hbb : Below wb.heap.size wb ((((wb.alloc (.cells #[.int .i64 laT.v, .int .i64 laT.h, .slice A3 laP.length cap3, .int .i64 0, .int .i64 500] 26)).alloc (.cells #[.int .i64 smS.wa, .int .i64 smS.lv, .int .i64 smS.lh, .int .i64 smS.fv, .int .i64 smS.fh, .int .i64 smS.ch, .int .i64 smS.ai, .int .i64 smS.us, .int .i64 smS.bo] 31)).alloc (.cells #[.int .i64 100, .int .i64 50, .int .i64 0, .int .i64 30] 3)).alloc (.cells #[.int .i64 20, .int .i64 20, .int .i64 80, .int .i64 40] 3)) := (((below_one _ _).alloc (by simp) _).alloc (by simp; omega) _).alloc (by simp; omega) _
  have hE1 : Has wc wb.heap.size 26 #[.int .i64 laT.v, .int .i64 laT.h, .slice A3 laP.length cap3, .int .i64 0, .int .i64 500] := ((((Has.new wb 26 _).alloc _).alloc _).alloc _).below hbc (by simp; omega)
  have hS1 : Has wc (wb.heap.size + 1) 31 #[.int .i64 smS.wa, .int .i64 smS.lv, .int .i64 smS.lh, .int .i64 smS.fv, .int .i64 smS.fh, .int .i64 smS.ch, .int .i64 smS.ai, .int .i64 smS.us, .int .i64 smS.bo] := (((Has.newAt (by simp)).alloc _).alloc _).below hbc (by simp)
  have hbW : Below wb.heap.size wb wc := hbb.trans (hbc.mono hbb.size)
  have HK : Hid (AlK w (wc.alloc (.cells #[.int .i64 50, .int .i64 15, .int .i64 65, .int .i64 0, .int .i64 0, .int .i64 400, .int .i64 100, .int .i64 550, .int .i64 50] 31)) wb.heap.size (wb.heap.size + 1) wc.heap.size A3 A4 cap3) := by
    have hb3 : Below wb.heap.size wb (wc.alloc (.cells #[.int .i64 50, .int .i64 15, .int .i64 65, .int .i64 0, .int .i64 0, .int .i64 400, .int .i64 100, .int .i64 550, .int .i64 50] 31)) := hbW.trans ((below_one _ _).mono hbW.size)
    exact ⟨HB.out.1.trans (hb3.mono hwb), hE1.alloc _, hS1.alloc _, Has.new _ _ _, HB.out.2.step hb3, hI.step (below_one _ _)⟩
  have hl1 := hbW.size
  have hl2 := hS1.lt
  clear hbc hI hbb hE1 hS1 hbW HB
  have hq31 : ∀ w, (binOp .eql 31 (.agg #[.int .i64 smS.wa, .int .i64 smS.lv, .int .i64 smS.lh, .int .i64 smS.fv, .int .i64 smS.fh, .int .i64 smS.ch, .int .i64 smS.ai, .int .i64 smS.us, .int .i64 smS.bo]) (.agg #[.int .i64 50, .int .i64 15, .int .i64 65, .int .i64 0, .int .i64 0, .int .i64 400, .int .i64 100, .int .i64 550, .int .i64 50])).run Try.prog w = .ok (.bool true) w := fun w => eql31s smS w
  go_wp2_with fail
  have HKd := Lib.hid (HK.out.step (below_dr (Below.refl _ _)))
  go_region_held3 (fun w' => w'.cell? ⟨wb.heap.size, 0, none⟩ = some (.int .i64 laT.v) ∧ w'.cell? ⟨wb.heap.size, 1, none⟩ = some (.int .i64 laT.h) ∧ w'.cell? ⟨wb.heap.size, 2, none⟩ = some (.slice A3 laP.length cap3) ∧ w'.cell? ⟨wb.heap.size, 3, none⟩ = some (.int .i64 0) ∧ w'.cell? ⟨wb.heap.size, 4, none⟩ = some (.int .i64 500) ∧ w'.cell? ⟨wb.heap.size + 1, 0, none⟩ = some (.int .i64 smS.wa) ∧ w'.cell? ⟨wb.heap.size + 1, 1, none⟩ = some (.int .i64 smS.lv) ∧ w'.cell? ⟨wb.heap.size + 1, 2, none⟩ = some (.int .i64 smS.lh) ∧ w'.cell? ⟨wb.heap.size + 1, 3, none⟩ = some (.int .i64 smS.fv) ∧ w'.cell? ⟨wb.heap.size + 1, 4, none⟩ = some (.int .i64 smS.fh) ∧ w'.cell? ⟨wb.heap.size + 1, 5, none⟩ = some (.int .i64 smS.ch) ∧ w'.cell? ⟨wb.heap.size + 1, 6, none⟩ = some (.int .i64 smS.ai) ∧ w'.cell? ⟨wb.heap.size + 1, 7, none⟩ = some (.int .i64 smS.us) ∧ w'.cell? ⟨wb.heap.size + 1, 8, none⟩ = some (.int .i64 smS.bo) ∧ w'.cell? ⟨wc.heap.size, 0, none⟩ = some (.int .i64 50) ∧ w'.cell? ⟨wc.heap.size, 1, none⟩ = some (.int .i64 15) ∧ w'.cell? ⟨wc.heap.size, 2, none⟩ = some (.int .i64 65) ∧ w'.cell? ⟨wc.heap.size, 3, none⟩ = some (.int .i64 0) ∧ w'.cell? ⟨wc.heap.size, 4, none⟩ = some (.int .i64 0) ∧ w'.cell? ⟨wc.heap.size, 5, none⟩ = some (.int .i64 400) ∧ w'.cell? ⟨wc.heap.size, 6, none⟩ = some (.int .i64 100) ∧ w'.cell? ⟨wc.heap.size, 7, none⟩ = some (.int .i64 550) ∧ w'.cell? ⟨wc.heap.size, 8, none⟩ = some (.int .i64 50)) (first | exact HKd.out.keep | exact HKn.out.keep) (first | (go_at_call 25; refine (last_any _).mono ?_; rintro r wL ⟨B5, rfl, hbL, hPL⟩; (have HKn := Lib.hid (HKd.out.step hbL)); have HL := Lib.hid hPL; clear hbL hPL HKd) | (go_at_call 18; refine (same_la A3 (some ⟨B5, 0, none⟩) cap3 laP.length _ HKn.out.p HL.out).mono ?_; rintro r wM ⟨rfl, hbM⟩; (have HKd := Lib.hid (HKn.out.step hbM)); have HKn := Lib.hid (HKd.out.step (below_one _ (.cells #[.int .i64 0, .int .i64 0, .int .i64 20, .int .i64 10] 3))); clear hbM HL) | (go_at_call 23; refine (ints_sm A4 cap4 wM.heap.size _ HKn.out.i (Has.new _ _ _)).mono ?_; rintro r wN ⟨rfl, hbN⟩; (have HKd := Lib.hid (HKn.out.step hbN)); clear hbN))
  all_goals
    clear hq31
    go_wp2
    go_ret
    exact ⟨rfl, HKd.out.bl⟩
end Go.Proofs.Ytjfopmjphiddiaa
