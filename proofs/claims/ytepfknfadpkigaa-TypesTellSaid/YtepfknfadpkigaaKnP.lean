/- Values of constants, plain: which there are, what they are told as, what becomes of two of them by an operator. -/
import Derived.RowKit3
namespace Go.Proofs.Ytepfknfadpkigaa
set_option linter.unusedVariables false

inductive PV where
  | none
  | whole (n : Int)
  | letter (n : Int)
  | truth (b : Bool)
  | bits (n : Int)
  | str (s : ByteArray)
  | item (t n : Int)
  | null
  | num (n : Int)

/-- What is told of one: its sort, its type, its text, its number. -/
structure TV where
  s : Int
  t : Int
  x : ByteArray
  n : Int

def inW (n : Int) : Bool := decide (-32768 ≤ n) && decide (n ≤ 65535)
def b2i (b : Bool) : Int := if b then 1 else 0
def let1 (s : ByteArray) : Int := if s.size = 1 then ((s.data.getD 0 0).toNat : Int) else 0
def nilS : ByteArray := ⟨#[]⟩
def tellP : PV → TV
  | .none => ⟨0, 0, nilS, 0⟩
  | .whole n => if inW n = true then ⟨1, 0, nilS, n⟩ else ⟨0, 0, nilS, 0⟩
  | .letter n => ⟨2, 0, nilS, n⟩
  | .truth b => ⟨3, 0, nilS, b2i b⟩
  | .bits n => ⟨4, 0, nilS, n⟩
  | .str s => ⟨5, 0, s, let1 s⟩
  | .item t n => ⟨6, t, nilS, n⟩
  | .null => ⟨7, 0, nilS, 0⟩
  | .num _ => ⟨0, 0, nilS, 0⟩
/-- Numbers and words as their types have them. -/
def i64b (n : Int) : Prop := -9223372036854775808 ≤ n ∧ n ≤ 9223372036854775807
def PV.wf : PV → Prop
  | .whole n => i64b n
  | .letter n => 0 ≤ n ∧ n ≤ 255
  | .bits n => 0 ≤ n ∧ n ≤ 65535
  | .str s => s.size ≤ 9223372036854775807
  | .item t n => i64b t ∧ i64b n
  | .num n => i64b n
  | _ => True
def TV.let (x : TV) : Bool := x.s == 2 || (x.s == 5 && ((x.x.size : Int) == 1))
def TV.num (x : TV) : Bool := x.s == 1 || x.s == 3 || x.s == 6 || x.let
def ordP (x y : TV) : Bool := (x.let && y.let) || (x.num && y.num && x.s == y.s && x.t == y.t)
def bothP (x y : TV) (k : Int) : Bool := x.s == k && y.s == k
abbrev Do2 := Int → Int → PV × Int
def fitP (n : Int) : PV × Int := if inW n = true then (.whole n, 0) else (.none, 101)
def tru (b : Bool) : PV × Int := (.truth b, 0)
def ovr (f : Int → Int → Int) : Do2 := fun x y => if y = 0 then (.none, 102) else fitP (f x y)
/-- Operators, one table for each sort of pair. -/
inductive Tn where
  | tq | tw | tt | ts | te | tm
deriving DecidableEq
def orN (x y : Int) : Int := ((x.toNat ||| y.toNat : Nat) : Int)
def andN (x y : Int) : Int := ((x.toNat &&& y.toNat : Nat) : Int)
def xorN (x y : Int) : Int := ((x.toNat ^^^ y.toNat : Nat) : Int)
def offN (x y : Int) : Int := ((x.toNat &&& (65535 - y.toNat) : Nat) : Int)
def inN (x y : Int) : Bool := decide (0 ≤ x) && y.toNat.testBit x.toNat
def tab : Tn → List (List UInt8 × Do2)
  | .tq => [([61], fun x y => tru (x == y)), ([35], fun x y => tru (x != y)), ([60], fun x y => tru (decide (x < y))), ([60, 61], fun x y => tru (decide (x ≤ y))), ([62], fun x y => tru (decide (y < x))), ([62, 61], fun x y => tru (decide (y ≤ x)))]
  | .tw => [([43], fun x y => fitP (x + y)), ([45], fun x y => fitP (x - y)), ([42], fun x y => fitP (x * y)), ([68, 73, 86], ovr fun x y => x.tdiv y), ([77, 79, 68], ovr fun x y => x.tmod y)]
  | .tt => [([65, 78, 68], fun x y => tru (x == 1 && y == 1)), ([79, 82], fun x y => tru (x == 1 || y == 1))]
  | .ts => [([43], fun x y => (.bits (orN x y), 0)), ([45], fun x y => (.bits (offN x y), 0)), ([42], fun x y => (.bits (andN x y), 0)), ([47], fun x y => (.bits (xorN x y), 0)), ([60, 61], fun x y => tru (offN x y == 0)), ([62, 61], fun x y => tru (offN y x == 0))]
  | .te => [([61], fun x y => tru (x == y)), ([35], fun x y => tru (x != y))]
  | .tm => [([73, 78], fun x y => tru (inN x y))]
def rowsP (x y : TV) : List Tn :=
  (if ordP x y = true then [Tn.tq] else []) ++
  (if bothP x y 1 = true then [Tn.tw] else if bothP x y 3 = true then [Tn.tt] else if bothP x y 4 = true then [Tn.ts, Tn.te] else if bothP x y 7 = true then [Tn.te] else if (x.num && y.s == 4) = true then [Tn.tm] else [])
def opsL : List (List UInt8) := [[43], [45], [42], [47], [68, 73, 86], [77, 79, 68], [65, 78, 68], [79, 82], [61], [35], [60], [60, 61], [62], [62, 61], [73, 78]]
def firstT : List Tn → List UInt8 → Option Do2
  | [], _ => none
  | t :: l, o => match (tab t).lookup o with
    | some g => some g
    | none => firstT l o
def doesP (o : List UInt8) (a b : PV) : PV × Int :=
  if opsL.contains o = true then
    match firstT (rowsP (tellP a) (tellP b)) o with
    | some g => g (tellP a).n (tellP b).n
    | none => (.none, 100)
  else (.none, 103)
def oneP (o : List UInt8) (a : PV) : PV × Int :=
  if o = [43] then (if (tellP a).s = 1 then fitP (tellP a).n else (.none, 100))
  else if o = [45] then (if (tellP a).s = 1 then fitP (-(tellP a).n) else (.none, 100))
  else if o = [78, 79, 84] then (if (tellP a).s = 3 then tru ((tellP a).n == 0) else (.none, 100))
  else (.none, 103)
end Go.Proofs.Ytepfknfadpkigaa
