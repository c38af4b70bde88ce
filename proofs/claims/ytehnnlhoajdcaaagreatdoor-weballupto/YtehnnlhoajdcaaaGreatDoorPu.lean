namespace TextNum
def DT : List UInt8 := [48, 49, 50, 51, 52, 53, 54, 55, 56, 57, 97, 98, 99, 100, 101, 102]
def LT : List UInt8 := [65, 66, 67, 68, 69, 70, 71, 72, 73, 74, 75, 76, 77, 78, 79, 80, 81, 82, 83, 84, 85, 86, 87, 88, 89, 90, 97, 98, 99, 100, 101, 102, 103, 104, 105, 106, 107, 108, 109, 110, 111, 112, 113, 114, 115, 116, 117, 118, 119, 120, 121, 122, 48, 49, 50, 51, 52, 53, 54, 55, 56, 57, 43, 47]
def dg (i : Nat) : UInt8 := DT.getD i 0
def lt (i : Nat) : UInt8 := LT.getD i 0
def pl (t : List UInt8) (c : UInt8) : Option Nat := t.idxOf? c
def its (x : UInt8) : Bool := decide (32 ≤ x.toNat) && decide (x.toNat ≤ 126) && decide (x.toNat ≠ 34) && decide (x.toNat ≠ 92)
def qb (x : UInt8) : List UInt8 := if its x then [x] else [92, 120, dg (x.toNat / 16), dg (x.toNat % 16)]
def qs : List UInt8 → List UInt8
 | [] => []
 | b :: r => qb b ++ qs r
def quo (l : List UInt8) : List UInt8 := 34 :: (qs l ++ [34])
end TextNum
