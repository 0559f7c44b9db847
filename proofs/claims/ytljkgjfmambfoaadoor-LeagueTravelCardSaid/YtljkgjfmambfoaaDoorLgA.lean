/- The league, plainly: games, points, outcomes, the table. -/
namespace Go.Proofs.YtljkgjfmambfoaaDoor
structure Gm where
  day : Int
  home : Int
  away : Int
  fin : Int
  hg : Int
  ag : Int
deriving DecidableEq, Inhabited
structure Lg where
  F : List (List Int)
  G : List Gm
def inB (n lo hi : Int) : Bool := decide (lo ≤ n ∧ n ≤ hi)
/-- the index of a team, among so many -/
def teamB (t n : Int) : Bool := inB n 0 (t - 1)
def openB (g : Gm) : Bool := decide (g.fin = 0)
def goalsB (n : Int) : Bool := inB n 0 99
def gameB (t : Int) (g : Gm) : Bool :=
  (inB g.day 0 16384 && teamB t g.home && teamB t g.away && !decide (g.home = g.away)) &&
    (decide (g.fin = 0) || ((decide (g.fin = 1) || decide (g.fin = 2)) && (goalsB g.hg && goalsB g.ag && !decide (g.hg = g.ag))))
def farRowB (t : Int) (r : List Int) : Bool := decide ((r.length : Int) = t) && r.all fun n => inB n 0 100000
def farB (F : List (List Int)) : Bool := decide (F.length ≤ 6) && F.all fun r => farRowB F.length r
def openN (G : List Gm) : Nat := (G.filter openB).length
def lgB (x : Lg) : Bool := farB x.F && (decide (x.G.length ≤ 64) && (x.G.all fun g => gameB x.F.length g)) && decide (openN x.G ≤ 8)
/-- does a team play in a game -/
def hasB (t : Int) (g : Gm) : Bool := decide (g.home = t) || decide (g.away = t)
def ofT (t : Int) (G : List Gm) : List Gm := G.filter (hasB t)
def playsB (G : List Gm) (t d : Int) : Bool := (ofT t G).any fun g => decide (g.day = d)
/-- what is wrong with the game i -/
def chkAt (G : List Gm) (i : Nat) : Int :=
  match G[i]? with
  | none => 0
  | some g => if 0 < i ∧ g.day < (G[i - 1]?.getD default).day then 7 else if playsB (G.take i) g.home g.day || playsB (G.take i) g.away g.day then 5 else 0
def chkR (x : Lg) : Int × Int :=
  if lgB x then match (List.range x.G.length).find? (fun i => decide (chkAt x.G i ≠ 0)) with
    | some i => ((i : Int), chkAt x.G i)
    | none => ((x.G.length : Int), 0)
  else (0, 1)
/-- how far it is -/
def farA (F : List (List Int)) (a b : Int) : Int := (F[a.toNat]?.getD [])[b.toNat]?.getD 0
/-- the way so far, and where it ends -/
def wayP (F : List (List Int)) (t : Int) (G : List Gm) : Int × Int := (ofT t G).foldl (fun s g => (s.1 + farA F s.2 g.home, g.home)) (0, t)
def travR (x : Lg) (t : Int) : Int × Int :=
  if lgB x then if teamB x.F.length t then ((wayP x.F t x.G).1 + farA x.F (wayP x.F t x.G).2 t, 0) else (0, 2) else (0, 1)
/-- points of each team -/
abbrev Pt := List Int
def zeroP : Pt := [0, 0, 0, 0, 0, 0]
def addAt (p : Pt) (i : Nat) (n : Int) : Pt := p.set i (p.getD i 0 + n)
def worthH (e : Nat) : Int := match e with | 0 => 3 | 1 => 2 | 2 => 1 | _ => 0
def worthA (e : Nat) : Int := match e with | 0 => 0 | 1 => 1 | 2 => 2 | _ => 3
def behindP (p : Pt) (g : Gm) (e : Nat) : Pt := addAt (addAt p g.home.toNat (worthH e)) g.away.toNat (worthA e)
def endOf (g : Gm) : Nat := if g.ag < g.hg then (if g.fin = 2 then 1 else 0) else (if g.fin = 2 then 2 else 3)
def earnedP (G : List Gm) : Pt := G.foldl (fun p g => if openB g then p else behindP p g (endOf g)) zeroP
def plusP (p q : Pt) : Pt := List.zipWith (· + ·) p q
/-- what the teams can get in the open games -/
def outsP (G : List Gm) : List Pt := G.foldl (fun l g => if openB g then l.flatMap (fun p => (List.range 4).map (behindP p g)) else l) [zeroP]
def othersP (n : Nat) (t : Int) (p : Pt) (more : Int) : Int := ((List.range n).filter fun (i : Nat) => !decide ((i : Int) = t) && decide (p.getD t.toNat 0 + more ≤ p.getD i 0)).length
def isInB (n : Nat) (t places : Int) (p : Pt) : Bool := decide (othersP n t p 0 < places)
def isOutB (n : Nat) (t places : Int) (p : Pt) : Bool := decide (places ≤ othersP n t p 1)
def aimR (x : Lg) (t places : Int) : Int := if lgB x then if teamB x.F.length t && inB places 1 x.F.length then 0 else 2 else 1
def clinR (x : Lg) (t places : Int) : Bool × Bool × Int :=
  if aimR x t places = 0 then ((outsP x.G).all (fun p => isInB x.F.length t places (plusP (earnedP x.G) p)), (outsP x.G).all (fun p => isOutB x.F.length t places (plusP (earnedP x.G) p)), 0)
  else (false, false, aimR x t places)
def needP (x : Lg) (t places : Int) : Int := (outsP x.G).foldl (fun n p => if isInB x.F.length t places (plusP (earnedP x.G) p) then n else max n (p.getD t.toNat 0 + 1)) 0
def mostP (G : List Gm) (t : Int) : Int := (((ofT t G).filter openB).length : Int) * 3
def needR (x : Lg) (t places : Int) : Int × Int :=
  if aimR x t places = 0 then if mostP x.G t < needP x t places then (0, 4) else (needP x t places, 0)
  else (0, aimR x t places)
/-- a row of the table -/
structure Rw where
  team : Int
  games : Int
  pts : Int
  gf : Int
  ga : Int
  among : Int
deriving DecidableEq, Inhabited
def sameG (G : List Gm) (p : Pt) : List Gm := G.filter fun g => decide (p.getD g.home.toNat 0 = p.getD g.away.toNat 0)
def shut (g : Gm) : Bool := !openB g
def gforOf (t : Int) (g : Gm) : Int := if g.away = t then g.ag else g.hg
def gagOf (t : Int) (g : Gm) : Int := if g.away = t then g.hg else g.ag
def addG (r : Rw) (g : Gm) : Rw := { r with games := r.games + 1, gf := r.gf + gforOf r.team g, ga := r.ga + gagOf r.team g }
def rowP (G : List Gm) (i : Nat) : Rw :=
  ((ofT i G).filter shut).foldl addG ⟨i, 0, (earnedP G).getD i 0, 0, 0, (earnedP (sameG G (earnedP G))).getD i 0⟩
def rowsP (x : Lg) : List Rw := (List.range x.F.length).map (rowP x.G)
def cmpI (a b : Int) : Int := if a < b then -1 else if b < a then 1 else 0
def cmpRw (a b : Rw) : Int :=
  let c1 := cmpI b.pts a.pts
  if c1 ≠ 0 then c1 else
  let c2 := cmpI b.among a.among
  if c2 ≠ 0 then c2 else
  let c3 := cmpI (b.gf - b.ga) (a.gf - a.ga)
  if c3 ≠ 0 then c3 else
  let c4 := cmpI b.gf a.gf
  if c4 ≠ 0 then c4 else cmpI (-b.team) (-a.team)
def aheadRw (a b : Rw) : Bool := decide (cmpRw a b < 0)
def insRw (a : Rw) : List Rw → List Rw
  | [] => [a]
  | b :: l => if aheadRw b a then b :: insRw a l else a :: b :: l
def srtRw : List Rw → List Rw
  | [] => []
  | a :: l => insRw a (srtRw l)
def tabP (x : Lg) : List Rw := srtRw (rowsP x)
def tabR (x : Lg) : List Rw × Int := if lgB x then (tabP x, 0) else ([], 1)

theorem insRw_perm (a : Rw) : ∀ l, (insRw a l).Perm (a :: l)
  | [] => .refl _
  | b :: l => by
    unfold insRw
    split
    · exact ((insRw_perm a l).cons b).trans (.swap a b l)
    · exact .refl _
theorem srtRw_perm : ∀ l, (srtRw l).Perm l
  | [] => .refl _
  | a :: l => (insRw_perm a (srtRw l)).trans ((srtRw_perm l).cons a)
theorem cmpI_neg (a b : Int) : cmpI a b < 0 ↔ a < b := by unfold cmpI; split <;> (try split) <;> omega
theorem cmpI_ne (a b : Int) : cmpI a b ≠ 0 ↔ a ≠ b := by unfold cmpI; split <;> (try split) <;> omega
theorem ahead_iff (a b : Rw) : aheadRw a b = true ↔ b.pts < a.pts ∨ (b.pts = a.pts ∧ (b.among < a.among ∨ (b.among = a.among ∧ (b.gf - b.ga < a.gf - a.ga ∨ (b.gf - b.ga = a.gf - a.ga ∧ (b.gf < a.gf ∨ (b.gf = a.gf ∧ a.team < b.team))))))) := by
  unfold aheadRw cmpRw
  simp only [decide_eq_true_eq]
  by_cases h1 : b.pts = a.pts
  · rw [if_neg (by rw [Decidable.not_not]; unfold cmpI; rw [h1]; simp)]
    by_cases h2 : b.among = a.among
    · rw [if_neg (by rw [Decidable.not_not]; unfold cmpI; rw [h2]; simp)]
      by_cases h3 : b.gf - b.ga = a.gf - a.ga
      · rw [if_neg (by rw [Decidable.not_not]; unfold cmpI; rw [h3]; simp)]
        by_cases h4 : b.gf = a.gf
        · rw [if_neg (by rw [Decidable.not_not]; unfold cmpI; rw [h4]; simp), cmpI_neg]
          omega
        · rw [if_pos ((cmpI_ne _ _).2 h4), cmpI_neg]; omega
      · rw [if_pos ((cmpI_ne _ _).2 h3), cmpI_neg]; omega
    · rw [if_pos ((cmpI_ne _ _).2 h2), cmpI_neg]; omega
  · rw [if_pos ((cmpI_ne _ _).2 h1), cmpI_neg]; omega
theorem ahead_trans {a b c : Rw} (h1 : aheadRw a b = true) (h2 : aheadRw b c = true) : aheadRw a c = true := by
  rw [ahead_iff] at *; omega
theorem ahead_irrefl (a : Rw) : aheadRw a a = false := by
  cases h : aheadRw a a
  · rfl
  · rw [ahead_iff] at h; omega
theorem ahead_total {a b : Rw} (h : a.team ≠ b.team) : aheadRw a b = true ∨ aheadRw b a = true := by
  rw [ahead_iff, ahead_iff]; omega
theorem ahead_asymm {a b : Rw} (h : aheadRw a b = true) : aheadRw b a = false := by
  cases h2 : aheadRw b a
  · rfl
  · rw [ahead_iff] at *; omega
theorem not_ahead_trans {a b c : Rw} (h1 : aheadRw b a = false) (h2 : aheadRw c b = false) : aheadRw c a = false := by
  cases h : aheadRw c a
  · rfl
  · exfalso
    have e1 := (Bool.not_eq_true _).mpr h1
    have e2 := (Bool.not_eq_true _).mpr h2
    rw [ahead_iff] at *; omega
theorem insRw_sorted (a : Rw) : ∀ l, l.Pairwise (fun x y => aheadRw y x = false) → (insRw a l).Pairwise (fun x y => aheadRw y x = false)
  | [], _ => by simp [insRw]
  | b :: l, h => by
    obtain ⟨h1, h2⟩ := List.pairwise_cons.1 h
    unfold insRw
    split
    · rename_i hab
      refine List.pairwise_cons.2 ⟨fun c hc => ?_, insRw_sorted a l h2⟩
      rcases List.mem_cons.1 ((insRw_perm a l).mem_iff.1 hc) with rfl | hc
      · exact ahead_asymm hab
      · exact h1 c hc
    · rename_i hab
      have hab : aheadRw b a = false := by simpa using hab
      refine List.pairwise_cons.2 ⟨fun c hc => ?_, h⟩
      rcases List.mem_cons.1 hc with rfl | hc
      · exact hab
      · exact not_ahead_trans hab (h1 c hc)
theorem srtRw_sorted : ∀ l, (srtRw l).Pairwise (fun x y => aheadRw y x = false)
  | [] => .nil
  | a :: l => insRw_sorted a _ (srtRw_sorted l)
/-- rows of different teams have one order alone -/
theorem sortRw_unique {l m : List Rw} (hp : l.Perm m) (hd : ∀ a ∈ l, ∀ b ∈ l, a.team = b.team → a = b) (h1 : l.Pairwise (fun x y => aheadRw y x = false)) (h2 : m.Pairwise (fun x y => aheadRw y x = false)) : l = m := by
  refine List.Perm.eq_of_pairwise (fun a b ha hb h h' => ?_) h1 h2 hp
  by_cases e : a.team = b.team
  · exact hd a ha b (hp.mem_iff.2 hb) e
  · rcases ahead_total e with h3 | h3
    · rw [h'] at h3; cases h3
    · rw [h] at h3; cases h3
end Go.Proofs.YtljkgjfmambfoaaDoor
