/- Layer 4 by plain functions: what a source's first step is, and its tokens. No program stands in here. -/
import Derived.Lib.ItoaNum
namespace Go.Proofs.YtliebhpddjbjeaaGreatDoor
open Go
set_option linter.unusedVariables false

/-- A token without its places: its kind, its text, its number. -/
structure T0 where
  k : Nat
  x : List UInt8
  n : Int
def isLt (c : UInt8) : Bool := (decide (65 ≤ c.toNat) && decide (c.toNat ≤ 90)) || (decide (97 ≤ c.toNat) && decide (c.toNat ≤ 122))
def isDg (c : UInt8) : Bool := decide (48 ≤ c.toNat) && decide (c.toNat ≤ 57)
def isAn (c : UInt8) : Bool := isLt c || isDg c
def isHx (c : UInt8) : Bool := isDg c || (decide (65 ≤ c.toNat) && decide (c.toNat ≤ 70))
def isBl (c : UInt8) : Bool := c == 9 || c == 10 || c == 13 || c == 32
/-- The reserved words. -/
def resv : List (List UInt8) := [[65, 78, 68], [65, 82, 82, 65, 89], [66, 69, 71, 73, 78], [66, 89], [67, 65, 83, 69], [67, 79, 78, 83, 84], [68, 69, 70, 73, 78, 73, 84, 73, 79, 78], [68, 73, 86], [68, 79], [69, 76, 83, 69], [69, 76, 83, 73, 70], [69, 78, 68], [69, 88, 73, 84], [69, 88, 80, 79, 82, 84], [70, 79, 82], [70, 82, 79, 77], [73, 70], [73, 77, 80, 76, 69, 77, 69, 78, 84, 65, 84, 73, 79, 78], [73, 77, 80, 79, 82, 84], [73, 78], [76, 79, 79, 80], [77, 79, 68], [77, 79, 68, 85, 76, 69], [78, 79, 84], [79, 70], [79, 82], [80, 79, 73, 78, 84, 69, 82], [80, 82, 79, 67, 69, 68, 85, 82, 69], [81, 85, 65, 76, 73, 70, 73, 69, 68], [82, 69, 67, 79, 82, 68], [82, 69, 80, 69, 65, 84], [82, 69, 84, 85, 82, 78], [83, 69, 84], [84, 72, 69, 78], [84, 79], [84, 89, 80, 69], [85, 78, 84, 73, 76], [86, 65, 82], [87, 72, 73, 76, 69], [87, 73, 84, 72]]
def wordB (s : List UInt8) : Bool := resv.contains s
def nameB (s : List UInt8) : Bool := !s.isEmpty && decide (s.length ≤ 32) && (s.take 1).all isLt && !wordB s && s.all isAn
/-- How many bytes a comment has, of which so many are open. -/
def cmt : Nat → List UInt8 → Option Nat
  | _, [] => none
  | _, [_] => none
  | deep, c :: d :: r =>
    if c = 40 ∧ d = 42 then (cmt (deep + 1) r).map (· + 2)
    else if c = 42 ∧ d = 41 then (if deep ≤ 1 then some 2 else (cmt (deep - 1) r).map (· + 2))
    else (cmt deep (d :: r)).map (· + 1)
def digV (c : UInt8) : Int := if 65 ≤ c.toNat then (c.toNat : Int) - 55 else (c.toNat : Int) - 48
def valL (base most : Int) (n : Int) : List UInt8 → Option Int
  | [] => if n ≤ most then some n else none
  | c :: r => if base ≤ digV c ∨ most < n then none else valL base most (n * base + digV c) r
def valS (base most : Int) (s : List UInt8) : Option Int := if s = [] then none else valL base most 0 s
/-- What digits and letters are. -/
def num (s : List UInt8) : Option T0 :=
  if s.getLast? = some 72 then (valS 16 65535 s.dropLast).map (⟨2, [], ·⟩)
  else match valS 10 65535 s with
    | some n => some ⟨2, [], n⟩
    | none =>
      if s.getLast? = some 66 then (valS 8 65535 s.dropLast).map (⟨2, [], ·⟩)
      else if s.getLast? = some 67 then (valS 8 255 s.dropLast).map (⟨3, [], ·⟩)
      else none
def syms2 : List (List UInt8) := [[58, 61], [60, 62], [60, 61], [62, 61], [46, 46]]
def syms1 : List UInt8 := [43, 45, 42, 47, 126, 46, 44, 59, 40, 91, 123, 94, 61, 35, 60, 62, 58, 41, 93, 125, 124, 38]
def symb (s : List UInt8) : Nat :=
  if syms2.contains (s.take 2) then 2 else if syms1.contains (s.headD 0) then 1 else 0
/-- The one way to write a symbol. -/
def plainT (u : List UInt8) : T0 :=
  if u = [60, 62] then ⟨5, [35], 0⟩ else if u = [38] then ⟨6, [65, 78, 68], 0⟩ else if u = [126] then ⟨6, [78, 79, 84], 0⟩ else ⟨5, u, 0⟩
/-- The digits that a number begins with, and the H behind them. -/
def numS (s : List UInt8) : List UInt8 := if (s.drop (s.takeWhile isHx).length).head? = some 72 then s.takeWhile isHx ++ [72] else s.takeWhile isHx
/-- What stands in a string behind its mark. -/
def strS (c : UInt8) (r : List UInt8) : List UInt8 := r.takeWhile fun b => b != c && b != 10
/-- The token that s begins with, and how many bytes it has; none: the error. -/
def oneL (s : List UInt8) : Option T0 × Nat × Int :=
  if isLt (s.headD 0) then
    if 32 < (s.takeWhile isAn).length then (none, 0, 5) else (some ⟨if wordB (s.takeWhile isAn) then 6 else 1, s.takeWhile isAn, 0⟩, (s.takeWhile isAn).length, 0)
  else if isDg (s.headD 0) then
    match num (numS s) with
    | some t => (some t, (numS s).length, 0)
    | none => (none, 0, 41)
  else if s.headD 0 = 34 ∨ s.headD 0 = 39 then
    if (s.tail.drop (strS (s.headD 0) s.tail).length).head? = some (s.headD 0) then (some ⟨4, strS (s.headD 0) s.tail, 0⟩, (strS (s.headD 0) s.tail).length + 2, 0) else (none, 0, 42)
  else if symb s = 0 then (none, 0, 40) else (some (plainT (s.take (symb s))), symb s, 0)
/-- A source's first step: a token, or what is blank, of so many bytes; or an error. -/
def stp (s : List UInt8) : Option T0 × Nat × Int :=
  if isBl (s.headD 0) then (none, 1, 0)
  else if s.take 2 = [40, 42] then
    match cmt 0 s with
    | some n => (none, n, 0)
    | none => (none, 0, 43)
  else oneL s
/-- The tokens from a place on, with where they begin and end; where it ends, and its error. -/
def scanO : Nat → Nat → List UInt8 → List (T0 × Nat × Nat) × Nat × Int
  | 0, off, _ => ([], off, 0)
  | f + 1, off, s =>
    if s = [] then ([], off, 0) else
    match stp s with
    | (some t, n, _) => ((t, off, off + n) :: (scanO f (off + n) (s.drop n)).1, (scanO f (off + n) (s.drop n)).2)
    | (none, n, e) => if e = 0 then scanO f (off + n) (s.drop n) else ([], off, e)
def scanS (off : Nat) (s : List UInt8) : List (T0 × Nat × Nat) × Nat × Int := scanO s.length off s
/-- Digits 0 to 7 of a number. -/
def octD (u : Nat) : List UInt8 := if h : u < 8 then [UInt8.ofNat (48 + u)] else octD (u / 8) ++ [UInt8.ofNat (48 + u % 8)]
termination_by u
decreasing_by omega
/-- How a token is written. -/
def txtT (t : T0) : List UInt8 :=
  if t.k = 2 then Lib.decDigits t.n.toNat else if t.k = 3 then octD t.n.toNat ++ [67]
  else if t.k = 4 then (if t.x.contains 34 then 39 :: (t.x ++ [39]) else 34 :: (t.x ++ [34])) else t.x
/-- Tokens as a source. -/
def joinT : List T0 → List UInt8
  | [] => []
  | t :: r => if r = [] then txtT t else txtT t ++ 32 :: joinT r
end Go.Proofs.YtliebhpddjbjeaaGreatDoor
