import Derived.Test.YtaobnnlcfefodaaGreatDoorSl
import Derived.Test.YtaobnnlcfefodaaGreatDoorTb
import Derived.Lib.Strings
namespace Go.Proofs.YtaobnnlcfefodaaGreatDoor
open Go.RowKit TextNum Go.Proofs
theorem HasPrefix_walk (s p : ByteArray) (w : World) : Calls Tryz.prog 100 #[.string s, .string p] w fun e w' => e = .returned (.bool (Go.Lib.hasPrefix s.data.toList p.data.toList)) ∧ w' = w :=
  Any.strings_HasPrefix Tryz.lays99 s p w
theorem TrimSuffix_walk (s p : ByteArray) (w : World) (hs : s.size ≤ 9223372036854775807) : Calls Tryz.prog 98 #[.string s, .string p] w fun e w' => e = .returned (.string ⟨(Go.Lib.trimSuffix s.data.toList p.data.toList).toArray⟩) ∧ w' = w :=
  Any.strings_TrimSuffix Tryz.lays102 s p w hs

/-! plain facts -/
theorem esc_short {l : List UInt8} (h : l.length < 4) : esc l = none := by
  unfold esc
  split
  · simp at h; omega
  · rfl
theorem esc_nopre {l : List UInt8} (h : Go.Lib.hasPrefix l [92, 120] = false) : esc l = none := by
  unfold esc
  split
  · simp [Go.Lib.hasPrefix, List.isPrefixOf] at h
  · rfl
theorem esc_pre {l : List UInt8} (h : Go.Lib.hasPrefix l [92, 120] = true) (h4 : 4 ≤ l.length) : esc l = match hexB l[2] l[3] with
    | some x => if its x then none else some (x, 4)
    | none => none := by
  match l, h4 with
  | a :: b :: c :: d :: r, _ =>
    simp [Go.Lib.hasPrefix, List.isPrefixOf] at h
    obtain ⟨rfl, rfl⟩ := h
    rfl
/-- what firstByte answers -/
def fbV (l : List UInt8) : Value := match fb l with
  | some (x, n) => .tuple #[.int .u8 (x.toNat : Int), .int .i64 (n : Int)]
  | none => .tuple #[.int .u8 0, .int .i64 0]
theorem fbV_some {l : List UInt8} {x : UInt8} {n : Nat} (h : fb l = some (x, n)) : fbV l = .tuple #[.int .u8 (x.toNat : Int), .int .i64 (n : Int)] := by unfold fbV; rw [h]
theorem fbV_none {l : List UInt8} (h : fb l = none) : fbV l = .tuple #[.int .u8 0, .int .i64 0] := by unfold fbV; rw [h]
end Go.Proofs.YtaobnnlcfefodaaGreatDoor
