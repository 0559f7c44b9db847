/- Plain: calls, skatings, rules, scores; what a skating is worth, places, spans. -/
namespace Go.Proofs.Ytmclchaalmonnaa
structure Cl where
  place : Int
  element : Int
  under : Int
  late : Bool
  fall : Bool
  marks : List Int
structure Sk where
  calls : List Cl
  parts : List (List Int)
  over : Int
structure Ru where
  bases : List Int
  factor : Int
  most : Int
structure Sc where
  elements : Int
  parts : Int
  off : Int
  total : Int
def inB (n lo hi : Int) : Bool := decide (lo ≤ n ∧ n ≤ hi)
/-- insertion sort -/
def ins (a : Int) : List Int → List Int
  | [] => [a]
  | b :: l => if a ≤ b then a :: b :: l else b :: ins a l
def srt : List Int → List Int
  | [] => []
  | a :: l => ins a (srt l)
/-- the marks that count -/
def mid (l : List Int) : List Int := if 5 ≤ l.length then ((srt l).take (l.length - 1)).drop 1 else srt l
def rnd (n b : Int) : Int := if n < 0 then -((2 * (-n) + b) / (2 * b)) else (2 * n + b) / (2 * b)
def valC (b : Int) (c : Cl) : Int :=
  rnd (b * (10 - 2 * c.under) * (if c.late then 11 else 10)) 100 + rnd ((mid c.marks).sum * (b * (10 - 2 * c.under))) (100 * ((mid c.marks).length : Int))
/-- how many calls of the same element were skated ahead of a call -/
def ahead (l : List Cl) (c : Cl) : Nat := l.countP fun d => decide (d.element = c.element) && decide (d.place < c.place)
def valP (r : Ru) (l : List Cl) (c : Cl) : Int := if (ahead l c : Int) < r.most then valC (r.bases.getD c.element.toNat 0) c else 0
def valsP (r : Ru) (s : Sk) : List Int := s.calls.map (valP r s.calls)
def partP (f : Int) (m : List Int) : Int := rnd ((mid m).sum * f) (4 * ((mid m).length : Int))
def partsP (r : Ru) (s : Sk) : Int := (s.parts.map (partP r.factor)).sum
def fallsP (l : List Cl) : Nat := l.countP (·.fall)
def offP (s : Sk) : Int := 100 * ((fallsP s.calls : Int) + max ((fallsP s.calls : Int) - 2) 0 + max ((fallsP s.calls : Int) - 4) 0 + (s.over + 4) / 5)
def progP (r : Ru) (s : Sk) : Sc := ⟨(valsP r s).sum, partsP r s, offP s, max ((valsP r s).sum + partsP r s - offP s) 0⟩
/-- what is valid -/
def allB (l : List Int) (lo hi : Int) : Bool := l.all fun n => inB n lo hi
def ruB (r : Ru) : Bool := inB r.bases.length 1 64 && (allB r.bases 0 2000 && (inB r.factor 0 1000 && inB r.most 1 16))
def clB (r : Ru) (c : Cl) (n : Int) : Bool :=
  inB c.place 0 99 && (inB c.element 0 ((r.bases.length : Int) - 1) && (inB c.under 0 2 && (decide ((c.marks.length : Int) = n) && allB c.marks (-5) 5)))
def callsB (r : Ru) (n : Int) : List Cl → List Cl → Bool
  | _, [] => true
  | seen, c :: l => clB r c n && (!(seen.any fun d => decide (d.place = c.place)) && callsB r n (c :: seen) l)
def partsB (n : Int) (l : List (List Int)) : Bool := l.all fun m => decide ((m.length : Int) = n) && allB m 0 40
def skB (r : Ru) (s : Sk) (n : Int) : Bool := decide (s.calls.length ≤ 16) && (decide (s.parts.length ≤ 5) && (inB s.over 0 600 && (callsB r n [] s.calls && partsB n s.parts)))
/-- the number of judges, by the first list of marks -/
def judgesP : List Sk → Option Nat
  | [] => none
  | s :: l => match s.calls, s.parts with
    | c :: _, _ => some c.marks.length
    | [], m :: _ => some m.length
    | [], [] => judgesP l
def panelB (l : List Sk) : Bool := match judgesP l with | none => true | some n => inB n 1 9
def nP (l : List Sk) : Nat := (judgesP l).getD 0
def contestB (r : Ru) (l : List Sk) : Bool := ruB r && (panelB l && l.all fun s => skB r s (nP l))
/-- the judges, and the errno -/
def inspP (r : Ru) (l : List Sk) : Int × Int := if 40 < l.length then (0, 3) else if contestB r l then (nP l, 0) else (0, 1)
/-- places: total, elements -/
structure St where
  total : Int
  elements : Int
deriving DecidableEq
def stOf (s : Sc) : St := ⟨s.total, s.elements⟩
def betB (a b : St) : Bool := decide (b.total < a.total) || (decide (a.total = b.total) && decide (b.elements < a.elements))
def plP (s : St) (l : List St) : Int := 1 + (l.countP fun o => betB o s : Nat)
def ranksP (l : List Sc) : List Int := (l.map stOf).map fun s => plP s (l.map stOf)
def markC (j : Nat) (g : Int) (c : Cl) : Cl := { c with marks := c.marks.set j g }
def markP (s : Sk) (j : Nat) (g q : Int) : Sk := ⟨s.calls.map (markC j g), s.parts.map (fun m => m.set j q), s.over⟩
structure Sp where
  lo : Int
  hi : Int
deriving DecidableEq
def worstP (r : Ru) (j : Nat) (s : Sk) : St := stOf (progP r (markP s j (-5) 0))
def bestP (r : Ru) (j : Nat) (s : Sk) : St := stOf (progP r (markP s j 5 40))
def spanP (r : Ru) (l : List Sk) (j : Nat) (s : Sk) : Sp :=
  ⟨plP (bestP r j s) (l.map (worstP r j)), plP (worstP r j s) (l.map (bestP r j)) - (if bestP r j s = worstP r j s then 0 else 1)⟩
def swingP (r : Ru) (l : List Sk) (j : Nat) : List Sp := l.map (spanP r l j)
/-- the spans, and the errno -/
def swingR (r : Ru) (l : List Sk) (judge : Int) : List Sp × Int :=
  if (inspP r l).2 ≠ 0 then ([], (inspP r l).2) else if inB judge 0 ((inspP r l).1 - 1) then (swingP r l judge.toNat, 0) else ([], 2)
def openB (r : Ru) (l : List Sk) (first : Int) (i : Nat) : Bool :=
  (List.range (nP l)).any fun j => match (swingP r l j)[i]? with | some s => decide (s.lo ≤ first) && decide (first < s.hi) | none => false
def openP (r : Ru) (l : List Sk) (first : Int) : List Int := ((List.range l.length).filter (openB r l first)).map fun i : Nat => (i : Int)
def openR (r : Ru) (l : List Sk) (first : Int) : List Int × Int :=
  if (inspP r l).2 ≠ 0 then ([], (inspP r l).2) else if inB first 1 40 then (openP r l first, 0) else ([], 2)
def zeroSc : Sc := ⟨0, 0, 0, 0⟩
def progR (r : Ru) (s : Sk) : Sc × Int := if (inspP r [s]).2 ≠ 0 then (zeroSc, (inspP r [s]).2) else (progP r s, 0)
def valsR (r : Ru) (s : Sk) : List Int × Int := if (inspP r [s]).2 ≠ 0 then ([], (inspP r [s]).2) else (valsP r s, 0)
def ranksR (l : List Sc) : List Int × Int := if 40 < l.length then ([], 3) else (ranksP l, 0)
theorem ins_length (a : Int) : ∀ l, (ins a l).length = l.length + 1
  | [] => rfl
  | b :: l => by unfold ins; split <;> simp [ins_length a l]
theorem srt_length : ∀ l, (srt l).length = l.length
  | [] => rfl
  | a :: l => by unfold srt; rw [ins_length, srt_length l]; rfl
theorem mid_length (l : List Int) : (mid l).length = if 5 ≤ l.length then l.length - 2 else l.length := by
  unfold mid; split
  · simp [srt_length]; omega
  · exact srt_length l
end Go.Proofs.Ytmclchaalmonnaa
