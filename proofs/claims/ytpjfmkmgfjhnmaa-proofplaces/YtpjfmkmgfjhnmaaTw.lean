import Derived.Test.YtpjfmkmgfjhnmaaRows
import Derived.Test.YtpjfmkmgfjhnmaaSw
import Derived.WalkKit
import Derived.WalkSpells
import Derived.StillTactics
import Derived.StillTailTactics
import Derived.Laws.Pointers
import Derived.RowKit3
import Derived.Handy
import Derived.Below
import Derived.Laws.AppendOwn
import Derived.Deep.QuietTactic
import Derived.BigQuiet
import Derived.Deep.MidRow
import Derived.Deep.RegionHeld3
namespace Go.Proofs.Ytpjfmkmgfjhnmaa
open Go.RowKit Tlg
theorem Hid.of {p : Prop} (h : p) : Hid p := h

/-- what was there is as it was -/
def Up (w w' : World) : Prop := Below w.heap.size w w'
theorem Up.refl (w : World) : Up w w := Below.refl _ _
theorem Up.trans {a b c : World} (h : Up a b) (k : Up b c) : Up a c := Below.trans h (Below.mono k h.size)
theorem Up.drew {a w : World} (h : Up a w) : Up a w.drew := Below.drew h
theorem Up.drewN {a w : World} (h : Up a w) (n : Nat) : Up a (w.drewN n) := ⟨h.os, h.tape, h.output, h.size, h.block⟩
theorem Up.alloc {a w : World} (h : Up a w) (o : Obj) : Up a (w.alloc o) := Below.alloc h h.size o
theorem Up.cell {a w : World} (h : Up a w) {p : Addr} {v : Value} (hp : a.cell? p = some v) : w.cell? p = some v := by
  have hb : p.block < a.heap.size := by
    rcases Nat.lt_or_ge p.block a.heap.size with h1 | h1
    · exact h1
    · simp [World.cell?, Array.getElem?_eq_none h1] at hp
  rw [Below.cell h hb]; exact hp
end Go.Proofs.Ytpjfmkmgfjhnmaa
