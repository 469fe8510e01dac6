/- What a spec's text says, as functions on lists of bytes. No program. -/
import Derived.PlainAid
import Derived.Lib.Bytealg
import Derived.WalkKit
set_option linter.unusedSimpArgs false
set_option linter.unusedVariables false
namespace Go.Cro
open Go Go.Op

abbrev Bytes := List UInt8

def isDig (c : UInt8) : Bool := decide (48 ≤ (c.toNat : Int)) && decide ((c.toNat : Int) ≤ 57)
/-- One or two decimal digits. -/
def numB : Bytes → Option Int
  | [a] => if isDig a then some ((a.toNat : Int) - 48) else none
  | [a, b] => if isDig a && isDig b then some (10 * ((a.toNat : Int) - 48) + ((b.toNat : Int) - 48)) else none
  | _ => none
theorem numB_bd {l : Bytes} {n : Int} (h : numB l = some n) : 0 ≤ n ∧ n ≤ 99 := by
  unfold numB at h
  split at h
  · split at h
    · rename_i a hd
      simp [isDig] at hd; simp at h; omega
    · cases h
  · split at h
    · rename_i a b hd
      simp [isDig] at hd; simp at h; omega
    · cases h
  · cases h
/-- A step: no noughts ahead. -/
def stepB (l : Bytes) : Option Int := if 1 < l.length ∧ l.head? = some 48 then none else numB l
/-- One of the names, three letters each, which count from 'first' on; else a number. -/
def namB (names : List Bytes) (first : Int) (l : Bytes) : Option Int :=
  if l.length = 3 then (names.findIdx? (· == l)).map fun i => first + (i : Int) else numB l
def months : List Bytes := [[106, 97, 110], [102, 101, 98], [109, 97, 114], [97, 112, 114], [109, 97, 121], [106, 117, 110], [106, 117, 108], [97, 117, 103], [115, 101, 112], [111, 99, 116], [110, 111, 118], [100, 101, 99]]
def weekdays : List Bytes := [[115, 117, 110], [109, 111, 110], [116, 117, 101], [119, 101, 100], [116, 104, 117], [102, 114, 105], [115, 97, 116]]
/-- How the numbers of a field are read. -/
def rdB (at_ : Nat) (l : Bytes) : Option Int := match at_ with
  | 3 => namB months 1 l
  | 4 => namB weekdays 0 l
  | _ => numB l

structure Sc where
  least : Int
  most : Int
  said : Int
def scB : Nat → Sc
  | 0 => ⟨0, 59, 59⟩
  | 1 => ⟨0, 23, 23⟩
  | 2 => ⟨1, 31, 31⟩
  | 3 => ⟨1, 12, 12⟩
  | _ => ⟨0, 6, 7⟩

structure It where
  star : Bool
  first : Int
  last : Int
  alone : Bool
  step : Int
  stepped : Bool

/-- What stands ahead of the first place of a byte, and behind it; whether it is there. -/
def cutB (c : UInt8) (l : Bytes) : Bytes × Bytes × Bool :=
  if 0 ≤ Lib.indexByte l c then (l.take (Lib.indexByte l c).toNat, l.drop ((Lib.indexByte l c).toNat + 1), true) else (l, [], false)
theorem indexByte_bd (c : UInt8) : ∀ l : Bytes, -1 ≤ Lib.indexByte l c ∧ Lib.indexByte l c < l.length ∨ Lib.indexByte l c = -1
  | [] => .inr rfl
  | b :: l => by
    simp only [Lib.indexByte]
    have := indexByte_bd c l
    split
    · left; simp
    · split
      · right; rfl
      · rename_i h; have : Lib.indexByte l c ≠ -1 := by simpa using h
        left; simp only [List.length_cons]; omega
theorem cutB_len (c : UInt8) (l : Bytes) : (cutB c l).1.length ≤ l.length ∧ (cutB c l).2.1.length ≤ l.length := by
  unfold cutB; split <;> simp <;> omega

def spanB (rd : Bytes → Option Int) (span : Bytes) (step : Int) (stepped : Bool) : Option It :=
  if span = [42] then some ⟨true, 0, 0, false, step, stepped⟩ else
  match rd (cutB 45 span).1 with
  | none => none
  | some f => if (cutB 45 span).2.2 then (rd (cutB 45 span).2.1).map fun t => ⟨false, f, t, false, step, stepped⟩ else some ⟨false, f, f, true, step, stepped⟩
def itemB (rd : Bytes → Option Int) (l : Bytes) : Option It :=
  if (cutB 47 l).2.2 then
    match stepB (cutB 47 l).2.1 with
    | none => none
    | some s => spanB rd (cutB 47 l).1 s true
  else spanB rd (cutB 47 l).1 1 false
def withinB (it : It) (s : Sc) : Bool := !(it.step == 0) && (it.star || (decide (s.least ≤ it.first) && decide (it.last ≤ s.said) && decide (it.first ≤ it.last)))

def setB (a v : Int) : Int := bits .or .u64 a (IntKind.u64.wrap (2 ^ v.toNat))
def valsFrom (least most last step : Int) : Nat → Int → Int → Int
  | 0, _, a => a
  | f + 1, v, a => if v ≤ last then valsFrom least most last step f (v + step) (setB a (if most < v then least else v)) else a
def valsB (s : Sc) (first last step : Int) : Int := valsFrom s.least s.most last step 100 first 0
theorem valsFrom_more (least most last step : Int) (hs : 1 ≤ step) : ∀ (f g : Nat) (v a : Int), last - v < f → last - v < g → valsFrom least most last step f v a = valsFrom least most last step g v a
  | 0, 0, _, _, _, _ => rfl
  | 0, g + 1, v, a, h, _ => by simp only [valsFrom]; rw [if_neg (by omega)]
  | f + 1, 0, v, a, _, h => by simp only [valsFrom]; rw [if_neg (by omega)]
  | f + 1, g + 1, v, a, h1, h2 => by
    simp only [valsFrom]
    split
    · exact valsFrom_more least most last step hs f g _ _ (by omega) (by omega)
    · rfl
def itValsB (it : It) (s : Sc) : Int :=
  if it.star then valsB s s.least s.most it.step else
  if it.alone && it.stepped then valsB s it.first (max it.first s.most) it.step else valsB s it.first it.last it.step

/-- The parts of a text between the bytes that part them, empty ones too. -/
def splitB (p : UInt8 → Bool) : Bytes → List Bytes
  | [] => [[]]
  | c :: l => if p c then [] :: splitB p l else
    match splitB p l with
    | [] => [[c]]
    | x :: r => (c :: x) :: r
theorem splitB_ne (p : UInt8 → Bool) (l : Bytes) : splitB p l ≠ [] := by
  cases l with
  | nil => simp [splitB]
  | cons c l => simp only [splitB]; split <;> (try split) <;> simp

/-- A field's bits and star, or what is at fault: 20, 21. -/
def fieldFrom (rd : Bytes → Option Int) (s : Sc) : List Bytes → Int → Bool → Except Int (Int × Bool)
  | [], b, st => .ok (b, st)
  | x :: r, b, st =>
    match itemB rd x with
    | none => .error 20
    | some it => if withinB it s then fieldFrom rd s r (bits .or .u64 b (itValsB it s)) (st || it.star) else .error 21
def commaB (c : UInt8) : Bool := c == 44
def blankB (c : UInt8) : Bool := c == 32 || c == 9
def fieldB (at_ : Nat) (l : Bytes) : Except Int (Int × Bool) := fieldFrom (rdB at_) (scB at_) (splitB commaB l) 0 false

/-- The fields of a text, from the place 'at_' on: the marks that came, or the fault and its place. -/
def parseFrom : List Bytes → Nat → List (Int × Bool) → Except (Int × Nat) (List (Int × Bool))
  | [], at_, ms => if at_ < 5 then .error (20, at_) else .ok ms
  | x :: r, at_, ms =>
    if at_ = 5 then .error (20, 5) else
    match fieldB at_ x with
    | .error e => .error (e, at_)
    | .ok m => parseFrom r (at_ + 1) (ms ++ [m])
def fieldsB (l : Bytes) : List Bytes := (splitB blankB l).filter (· ≠ [])
def parseB (l : Bytes) : Except (Int × Nat) (List (Int × Bool)) :=
  if 256 < l.length then .error (3, 0) else parseFrom (fieldsB l) 0 []
end Go.Cro
