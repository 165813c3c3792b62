/- The tokens of a text as plain Lean functions over lists of bytes: no program stands here. -/
import Derived.Lib.ItoaNum
import Derived.Lib.AtoiAllCases
namespace Lx

abbrev B := UInt8

def small (c : B) : Bool := decide (97 ≤ c.toNat) && decide (c.toNat ≤ 122)
def capital (c : B) : Bool := decide (65 ≤ c.toNat) && decide (c.toNat ≤ 90)
def digit (c : B) : Bool := decide (48 ≤ c.toNat) && decide (c.toNat ≤ 57)
def part (c : B) : Bool := small c || capital c || digit c || decide (c.toNat = 95)
def space (c : B) : Bool := decide (c.toNat = 9) || decide (c.toNat = 10) || decide (c.toNat = 13) || decide (c.toNat = 32)

/-- How many bytes at the head of a list are in a set. -/
def span (p : B → Bool) : List B → Nat
  | [] => 0
  | c :: r => if p c then span p r + 1 else 0

/-- The byte n places ahead; 0 behind the end. -/
def peek (l : List B) (n : Nat) : B := l.getD n 0

/-- The numeral of an integer. -/
def digits (n : Int) : List B := if n < 0 then 126 :: Go.Lib.decDigits n.natAbs else Go.Lib.decDigits n.toNat

/-- The integers of 64 bits. -/
def fits (n : Int) : Prop := -9223372036854775808 ≤ n ∧ n ≤ 9223372036854775807

/-- A list without its first ~, with a minus in its place. -/
def conv : List B → List B
  | [] => []
  | c :: r => if c = 126 then 45 :: r else c :: r

/-- The integer that a list is the numeral of. -/
def number (l : List B) : Option Int :=
  match Go.Lib.atoiAll (conv l) with
  | .ok n => if digits n = l then some n else none
  | _ => none

/-- The words, by the bytes. -/
def words : List (List B) :=
  [[97,110,100],[99,97,115,101],[100,97,116,97],[101,108,115,101],[101,110,100],[102,110],[102,117,110],[105,102],[105,110],[105,110,112,117,116],[108,101,116],[111,102],[111,117,116,112,117,116],[116,104,101,110],[118,97,108]]

def isWord (l : List B) : Bool := words.contains l

/-- The bytes of the signs of one byte. -/
def sign1 : List B := [40,41,44,59,58,124,61,60,43,45,42,47,37,95]

/-- What begins at the head of a list that begins neither with a space nor with a comment: a kind, an integer and a length, or an error. -/
inductive Next where
  | tok (kind : Int) (num : Int) (len : Nat)
  | err (e : Int)
  deriving DecidableEq, Repr

/-- The length of a name: letters, digits and _, then a ' and digits. -/
def nameLen (l : List B) : Nat :=
  let j := span part l
  if peek l j = 39 ∧ digit (peek l (j + 1)) = true then j + 1 + span digit (l.drop (j + 1)) else j

def nextName (l : List B) : Next :=
  let j := nameLen l
  if 24 < j then .err 2
  else if capital (peek l 0) then .tok 3 0 j
  else if isWord (l.take j) then .tok 5 0 j
  else .tok 2 0 j

def nextVar (l : List B) : Next :=
  let j := 1 + span part (l.drop 1)
  if 24 < j then .err 2 else .tok 4 0 j

def numLen (l : List B) : Nat := if peek l 0 = 126 then 1 + span digit (l.drop 1) else span digit l

def nextNum (l : List B) : Next :=
  let j := numLen l
  match number (l.take j) with
  | none => .err 13
  | some n => if part (peek l j) || decide (peek l j = 39) then .err 13 else .tok 1 n j

def next (l : List B) : Next :=
  let c := peek l 0
  if small c || capital c then nextName l
  else if c = 39 ∧ small (peek l 1) = true then nextVar l
  else if c = 126 ∨ digit c = true then nextNum l
  else if (c = 61 ∨ c = 45) ∧ peek l 1 = 62 then .tok 6 0 2
  else if sign1.contains c then .tok 6 0 1
  else .err 11

/-- What a comment does: how many bytes it has, or that it is not closed, or how far in it is too deep. -/
inductive Com where
  | closed (len : Nat)
  | «open»
  | deep (at_ : Nat)
  deriving DecidableEq, Repr

/-- The comment from the head of a list on, n bytes of it being passed and k of it open. -/
def comment : List B → Nat → Nat → Com
  | 40 :: 42 :: r, k, n => if k = 100 then .deep n else comment r (k + 1) (n + 2)
  | 42 :: 41 :: r, k, n => if k ≤ 1 then .closed (n + 2) else comment r (k - 1) (n + 2)
  | _ :: r, k, n => comment r k (n + 1)
  | [], _, _ => .open

structure Tok where
  kind : Int
  num : Int
  text : List B
  pos : Nat
  deriving DecidableEq, Repr

/-- What a text has: its tokens and the places of its comments, or an error and its place. -/
inductive Scan where
  | ok (toks : List Tok) (coms : List (Nat × Nat))
  | err (pos : Nat) (e : Int)
  deriving DecidableEq, Repr

def Scan.tok (t : Tok) : Scan → Scan
  | .ok ts cs => .ok (t :: ts) cs
  | e => e
def Scan.com (a b : Nat) : Scan → Scan
  | .ok ts cs => .ok ts ((a, b) :: cs)
  | e => e

def begins (l : List B) : Bool := decide (peek l 0 = 40) && decide (peek l 1 = 42)

/-- The scan of a list, its head at a place; the first argument bounds its length. -/
def scanF : Nat → List B → Nat → Scan
  | _, [], _ => .ok [] []
  | 0, _, _ => .ok [] []
  | f + 1, c :: r, p =>
    if space c then scanF f r (p + 1)
    else if begins (c :: r) then
      match comment (c :: r) 0 0 with
      | .closed n => (scanF f ((c :: r).drop n) (p + n)).com p (p + n)
      | .open => .err p 12
      | .deep n => .err (p + n) 6
    else match next (c :: r) with
      | .tok k n j => (scanF f ((c :: r).drop j) (p + j)).tok { kind := k, num := n, text := (c :: r).take j, pos := p }
      | .err e => .err p e

def scan (l : List B) (p : Nat) : Scan := scanF l.length l p

/-- The scan of a text of at most so many bytes. -/
def upto (l : List B) (most : Nat) : Scan := if most < l.length then .err 0 2 else scan l 0

end Lx
