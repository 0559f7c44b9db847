/- The best from a place on, whole. -/
import Derived.Test.YtipejhfgfciabaaHrL
namespace Go.Proofs.Ytipejhfgfciabaa
open Go.RowKit Go.Shelf
set_option maxRecDepth 100000 in
set_option maxHeartbeats 2000000 in
theorem best_base (S : Nat → Prop) (x : Tt) (AH AG : Option Addr) (ch cg Bx BK BB BM m : Nat) (p : Pl) (w : World) (hv : VT x) (hp : VP x p) (hn : p.hour = x.H.length) (hm : MI S w Bx BK BB BM x AH AG ch cg m) :
    Calls Try.prog 82 #[plv p, .pointer (some ⟨Bx, 0, none⟩), .pointer (some ⟨BK, 0, none⟩), .pointer (some ⟨BB, 0, none⟩)] w (BestPost S (bestP x 0 p) Bx BK BB BM x AH AG ch cg m w) := by
  have hn' : ((p.hour : Int) == (x.H.length : Int)) = true := by simp; omega
  have HM := Lib.hid hm
  have HO := Lib.hid (fun w h => owned_any x AH AG ch cg p w h hv hp)
  have HLE := Lib.hid (show (ownedL x p).length ≤ 1000000 by rw [owned_length]; have := hv.ng; omega)
  clear hm hv hp hn
  unfold plv ttv at *
  refine calls_of_at (n := 3) Try.func82 rfl ?_
  simp only [Try.ntmps82, List.size_toArray, List.length_cons, List.length_nil, Nat.reduceAdd, Nat.reduceSub, Array.replicate_succ, Array.replicate_zero, List.push_toArray, List.append_toArray, List.nil_append, List.cons_append]
  refine wpAt_seq_wp ?_
  go_wp2
  have HM1 := Lib.hid (And.intro (HM.out.step (below_one w (.cells (plc p) 75))) (And.intro (below_one w (.cells (plc p) 75)) (Has.new w 75 (plc p))))
  unfold plc at HM1 ⊢
  generalize w.alloc (.cells #[.int .i64 p.hour, .int .i64 p.last, .int .i64 (p.given[0]?.getD 0), .int .i64 (p.given[1]?.getD 0), .int .i64 (p.given[2]?.getD 0), .int .i64 (p.given[3]?.getD 0), .int .i64 (p.given[4]?.getD 0)] 75) = w1 at HM1 ⊢
  have x0 : w1.cell? ⟨Bx, 0, none⟩ = some (.slice AH x.H.length ch) := HM1.out.1.fx.cell 0
  have x1 : w1.cell? ⟨Bx, 1, none⟩ = some (.slice AG x.G.length cg) := HM1.out.1.fx.cell 1
  have x2 : w1.cell? ⟨Bx, 2, none⟩ = some (.int .i64 x.R) := HM1.out.1.fx.cell 2
  have p0 : w1.cell? ⟨w.heap.size, 0, none⟩ = some (.int .i64 p.hour) := HM1.out.2.2.cell 0
  have p1 : w1.cell? ⟨w.heap.size, 1, none⟩ = some (.int .i64 p.last) := HM1.out.2.2.cell 1
  have p2 : w1.cell? ⟨w.heap.size, 2, none⟩ = some (.int .i64 (p.given[0]?.getD 0)) := HM1.out.2.2.cell 2
  have p3 : w1.cell? ⟨w.heap.size, 3, none⟩ = some (.int .i64 (p.given[1]?.getD 0)) := HM1.out.2.2.cell 3
  have p4 : w1.cell? ⟨w.heap.size, 4, none⟩ = some (.int .i64 (p.given[2]?.getD 0)) := HM1.out.2.2.cell 4
  have p5 : w1.cell? ⟨w.heap.size, 5, none⟩ = some (.int .i64 (p.given[3]?.getD 0)) := HM1.out.2.2.cell 5
  have p6 : w1.cell? ⟨w.heap.size, 6, none⟩ = some (.int .i64 (p.given[4]?.getD 0)) := HM1.out.2.2.cell 6
  refine wpAt_seq_wp ?_
  go_wp2_with fail
  refine (HO.out _ HM1.out.1.tr).mono ?_
  rintro e w2 ⟨g, hg, rfl, hh, hb⟩
  have H2 := Lib.hid (And.intro (HM1.out.1.step hb) (And.intro (HM1.out.2.1.trans (hb.mono HM1.out.2.1.size)) hh))
  have HR := Lib.hid (rising_any (ownedL x p) g 0 (ownedL x p).length w2 (fun j hj => by rw [Nat.zero_add]; exact (hh.cell j).trans (ils_at hj)) HLE.out)
  clear hg hh hb x0 x1 x2 p0 p1 p2 p3 p4 p5 p6
  go_wp2_with fail
  refine HR.out.mono ?_
  rintro e w3 ⟨g', c', hg', rfl, hcs, hb⟩
  have H3 := Lib.hid (And.intro (H2.out.1.step hb) (And.intro (H2.out.2.1.trans (hb.mono H2.out.2.1.size)) (And.intro hcs (show ¬ S g' from fun h => by have := H2.out.1.sb g' h; omega))))
  clear hg' hcs hb
  go_wp2_with fail
  exact leave_ret00 (v := .slice (some ⟨g', 0, none⟩) (bestP x 0 p).length c') (by simp [results, Try.results82, go_sem]; rfl) ⟨some ⟨g', 0, none⟩, c', rfl, fun k hk => ⟨g', 0, rfl, (H3.out.2.2.1 k hk).1, H3.out.2.2.2, by rw [Nat.zero_add]; exact (H3.out.2.2.1 k hk).2⟩, Only.of_below H3.out.2.1, H3.out.1⟩
theorem best_any (S : Nat → Prop) (x : Tt) (AH AG : Option Addr) (ch cg Bx BK BB BM : Nat) (hv : VT x) : ∀ (n : Nat) (p : Pl) (w : World) (m : Nat), VP x p → p.hour + n = x.H.length → MI S w Bx BK BB BM x AH AG ch cg m → m + cntB n ≤ 1000000000000 →
    Calls Try.prog 82 #[plv p, .pointer (some ⟨Bx, 0, none⟩), .pointer (some ⟨BK, 0, none⟩), .pointer (some ⟨BB, 0, none⟩)] w (BestPost S (bestP x n p) Bx BK BB BM x AH AG ch cg (m + cntB n) w)
  | 0, p, w, m, hp, hn, hm, _ => best_base S x AH AG ch cg Bx BK BB BM m p w hv hp (by omega) hm
  | n + 1, p, w, m, hp, hn, hm, hmax => best_step S x AH AG ch cg Bx BK BB BM m n p w hv hp (by omega) hm ⟨hm.fx.lt, hm.fk.lt, hm.fb.lt, hm.mm.lt⟩ hmax (fun q W m' hq h1 h2 h3 => best_any S x AH AG ch cg Bx BK BB BM hv n q W m' hq h1 h2 h3)
end Go.Proofs.Ytipejhfgfciabaa
