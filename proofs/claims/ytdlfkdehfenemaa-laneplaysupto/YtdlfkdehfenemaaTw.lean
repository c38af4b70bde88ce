import Derived.Test.YtdlfkdehfenemaaRows
import Derived.Test.YtdlfkdehfenemaaPu
import Derived.WalkKit
import Derived.WalkSpells
import Derived.StillTactics
import Derived.StillTailTactics
import Derived.Laws.Pointers
import Derived.RowKit3
import Derived.Handy
import Derived.Below
import Derived.Laws.AppendOwn
import Derived.Laws.BytesArg
import Derived.Deep.QuietTactic
import Derived.BigQuiet
import Derived.Deep.MidRow
import Derived.Lib.Strings
import Derived.Deep.RegionHeld3
namespace Go.Proofs.Ytdlfkdehfenemaa
open Go.RowKit TextNum

/-- a byte, a text, a list of bytes as values -/
abbrev vb (c : UInt8) : Value := .int .u8 (c.toNat : Int)
abbrev vs (l : List UInt8) : Value := .string ⟨l.toArray⟩
def cb (l : List UInt8) : List Value := l.map fun c => Value.int .u8 (c.toNat : Int)
theorem cb_length (l : List UInt8) : (cb l).length = l.length := by simp [cb]
theorem cb_append (a b : List UInt8) : cb (a ++ b) = cb a ++ cb b := by simp [cb]
theorem cb_get {l : List UInt8} {i : Nat} (h : i < l.length) : (cb l)[i]? = some (.int .u8 (l[i].toNat : Int)) := by simp [cb, h]
theorem Hid.of {p : Prop} (h : p) : Hid p := h

/-- what was there is as it was -/
def Up (w w' : World) : Prop := Below w.heap.size w w'
theorem Up.refl (w : World) : Up w w := Below.refl _ _
theorem Up.trans {a b c : World} (h : Up a b) (k : Up b c) : Up a c := Below.trans h (Below.mono k h.size)
theorem Up.drew {a w : World} (h : Up a w) : Up a w.drew := Below.drew h
theorem Up.drewN {a w : World} (h : Up a w) (n : Nat) : Up a (w.drewN n) := ⟨h.os, h.tape, h.output, h.size, h.block⟩
theorem Up.alloc {a w : World} (h : Up a w) (o : Obj) : Up a (w.alloc o) := Below.alloc h h.size o
theorem Up.cell {a w : World} (h : Up a w) {p : Addr} {v : Value} (hp : a.cell? p = some v) : w.cell? p = some v := by
  have hb : p.block < a.heap.size := by
    rcases Nat.lt_or_ge p.block a.heap.size with h1 | h1
    · exact h1
    · simp [World.cell?, Array.getElem?_eq_none h1] at hp
  rw [Below.cell h hb]; exact hp

theorem sget' (s : ByteArray) (i : Nat) (h : i < s.size) : s[i] = s.data.toList[i]'(by rw [← Go.Lib.size_eq]; exact h) := rfl
theorem head_of' {s : ByteArray} (h : 0 < s.size) : ∃ r, s.data.toList = s[0] :: r := by
  have hl : 0 < s.data.toList.length := by rw [← Go.Lib.size_eq]; exact h
  refine ⟨s.data.toList.drop 1, ?_⟩
  rw [sget' s 0 h]
  have := List.drop_eq_getElem_cons hl
  simpa using this
theorem u8_eq {a b : UInt8} : ((a.toNat : Int) == (b.toNat : Int)) = (a == b) := by
  rw [Bool.eq_iff_iff]
  simp only [beq_iff_eq]
  exact ⟨fun h => UInt8.toNat_inj.1 (by omega), fun h => by rw [h]⟩
end Go.Proofs.Ytdlfkdehfenemaa
