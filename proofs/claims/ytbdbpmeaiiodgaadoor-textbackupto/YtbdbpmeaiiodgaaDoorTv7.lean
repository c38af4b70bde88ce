import Derived.Test.YtbdbpmeaiiodgaaDoorTs7
import Derived.Test.YtbdbpmeaiiodgaaDoorBd
import Derived.Test.YtbdbpmeaiiodgaaDoorBf
import Derived.Test.YtbdbpmeaiiodgaaDoorQn
import Derived.Test.YtbdbpmeaiiodgaaDoorQq
import Derived.Deep.RegionWith
namespace Go.Proofs.YtbdbpmeaiiodgaaDoor
open Go.RowKit TextNum
/-- what a reading call gives of its own text -/
def Bk (n : Nat) (er : Int) (g l : List UInt8) : Prop := (1048576 < n ∧ er = 2 ∧ g = []) ∨ (n ≤ 1048576 ∧ er = 0 ∧ g = l)
theorem Bk.len {n : Nat} {er : Int} {g l : List UInt8} (h : Bk n er g l) (hl : l.length ≤ 1048576) : g.length ≤ 1048576 := by
  rcases h with ⟨_, _, rfl⟩ | ⟨_, _, rfl⟩
  · simp
  · exact hl
/-- a call that reads: its list is of its own -/
def Rd (w : World) (n : Nat) (l : List UInt8) (e : Ending) (w' : World) : Prop := ∃ v er g, e = .returned (.tuple #[v, .int .i64 er]) ∧ Own w' w.heap.size v g ∧ Bk n er g l ∧ Up w w'
theorem rd64 (l : List UInt8) (S : ByteArray) (hS : S = ⟨(b64E l).toArray⟩) (w : World) (hT : TabL w) : Calls Tryd.prog 14 #[.string S] w (Rd w S.size l) := by
  refine (DecodeBase64_walk S w hT).mono ?_
  rintro e w' ⟨v, rfl, ho, hu⟩
  have e1 : S.data.toList = b64E l := by rw [hS]
  have e2 : S.size = (b64E l).length := by rw [Go.Lib.size_eq, e1]
  rw [e1] at ho ⊢
  refine ⟨v, _, _, rfl, ho, ?_, hu⟩
  rw [e2]
  by_cases h : 1048576 < (b64E l).length
  · rw [b64R_long h]; exact .inl ⟨h, rfl, rfl⟩
  · rw [b64R_some h (b64_back l)]; exact .inr ⟨by omega, rfl, rfl⟩
theorem rdHex (l : List UInt8) (S : ByteArray) (hS : S = ⟨(hexE l).toArray⟩) (w : World) (hT : TabD w) : Calls Tryd.prog 17 #[.string S] w (Rd w S.size l) := by
  refine (DecodeHex_walk S w hT).mono ?_
  rintro e w' ⟨v, rfl, ho, hu⟩
  have e1 : S.data.toList = hexE l := by rw [hS]
  have e2 : S.size = (hexE l).length := by rw [Go.Lib.size_eq, e1]
  rw [e1] at ho ⊢
  refine ⟨v, _, _, rfl, ho, ?_, hu⟩
  rw [e2]
  by_cases h : 1048576 < (hexE l).length
  · rw [hexR_long h]; exact .inl ⟨h, rfl, rfl⟩
  · rw [hexR_some h (hex_back l)]; exact .inr ⟨by omega, rfl, rfl⟩
theorem rdQuo (l : List UInt8) (S : ByteArray) (hS : S = ⟨(quo l).toArray⟩) (w : World) (hT : TabD w) : Calls Tryd.prog 18 #[.string S] w (Rd w S.size l) := by
  refine (Unquote_walk S w hT).mono ?_
  rintro e w' ⟨v, rfl, ho, hu⟩
  have e1 : S.data.toList = quo l := by rw [hS]
  have e2 : S.size = (quo l).length := by rw [Go.Lib.size_eq, e1]
  rw [e1] at ho ⊢
  refine ⟨v, _, _, rfl, ho, ?_, hu⟩
  rw [e2]
  by_cases h : 1048576 < (quo l).length
  · rw [quoR_long h]; exact .inl ⟨h, rfl, rfl⟩
  · rw [quoR_some h (quote_back l)]; exact .inr ⟨by omega, rfl, rfl⟩
/-- a moved list: in its two values -/
def Mv (w : World) (v v2 : Value) (g : List UInt8) (n : UInt8) : Prop := Sl w v (addn n g) ∧ Sl w v2 (addn n g ++ [n])
theorem Mv.up {w w' : World} {v v2 : Value} {g : List UInt8} {n : UInt8} (h : Mv w v v2 g n) (u : Up w w') : Mv w' v v2 g n := ⟨h.1.up u, h.2.up u⟩
/-- a world that changed in one block alone, and that block is newer than an older world -/
theorem up_by {w0 w w' : World} {row : Option Nat} (h : Up w0 w) (hg : w.grownBy w' row) (hr : ∀ r, row = some r → w0.heap.size ≤ r) : Up w0 w' := h.step (Nat.le_refl _) ((Below.refl w0.heap.size w).grown hg h.size hr)
/-- moved, straight behind what made the list -/
theorem moved1 (w0 : World) (v : Value) (g : List UInt8) (n : UInt8) (w : World) (hO : Own w w0.heap.size v g) (hu : Up w0 w) (hl : g.length ≤ 1048576) :
    Calls Tryd.prog 16 #[v, .int .u8 (n.toNat : Int)] w fun e w' => ∃ v2, e = .returned (.agg #[v, v2]) ∧ Mv w' v v2 g n ∧ Up w0 w' := by
  refine (moved_walk v g n w0.heap.size w hO hu.size hl).mono ?_
  rintro e w' ⟨v2, rfl, h1, h2, h3, h4⟩
  exact ⟨v2, rfl, ⟨h1, h2⟩, up_by hu h4 (fun r hr => (World.ownsRow.lt hO r hr).1)⟩
theorem staysM (v v2 : Value) (g l : List UInt8) (er : Int) (k : Nat) (n : UInt8) (b : ByteArray) (hb : b = ⟨l.toArray⟩) (w : World) (h : Mv w v v2 g n) (hk : Bk k er g l) (hl : l.length ≤ 1048576) :
    Calls Tryd.prog 19 #[.agg #[v, v2], .int .u8 (n.toNat : Int), .string b] w fun e w' => e = .returned (.bool true) ∧ Up w w' := by
  have hsz : b.size = l.length := by rw [hb, Go.Lib.size_eq]
  refine stays_walk v v2 (addn n g) n b w h.1 h.2 ?_ (by omega) ?_
  · rcases hk with ⟨_, _, rfl⟩ | ⟨_, _, rfl⟩
    · left; rfl
    · right; rw [hsz]; simp [addn]
  · intro i hi hi2
    rcases hk with ⟨_, _, rfl⟩ | ⟨_, _, rfl⟩
    · simp [addn] at hi
    · subst hb
      simp only [addn, List.getElem_map]
      congr 1
theorem backM (n : Nat) (v : Value) (g l : List UInt8) (b : ByteArray) (hb : b = ⟨l.toArray⟩) (er : Int) (w : World) (hS : Sl w v g) (h : Bk n er g l) :
    Calls Tryd.prog 15 #[.int .i64 (n : Int), v, .int .i64 er, .string b] w fun e w' => e = .returned (.bool true) ∧ w' = w := by
  subst hb
  exact back_walk n v g l er w hS h
theorem untouchedM (v : Value) (l : List UInt8) (b : ByteArray) (hb : b = ⟨l.toArray⟩) (w : World) (hS : Sl w v (l ++ List.replicate 400 165)) (hl : l.length ≤ 1048576) :
    Calls Tryd.prog 13 #[v, .string b] w fun e w' => e = .returned (.bool true) ∧ w' = w := by
  subst hb
  exact untouched_walk v l w hS hl
/-- a moved list in its place, and no block of it within some bounds -/
def Ap0 (w : World) (v v2 : Value) (g : List UInt8) (n : UInt8) (lo hi : Nat) : Prop := Mv w v v2 g n ∧ (∀ b, v.ownBlock = some b → b < lo) ∧ ∀ b, v2.ownBlock = some b → b < lo ∨ hi ≤ b
def Ap (w : World) (v v2 : Value) (g : List UInt8) (n : UInt8) (lo hi z : Nat) : Prop := Ap0 w v v2 g n lo hi ∧ w.cell? ⟨z, 0, none⟩ = some v ∧ w.cell? ⟨z, 1, none⟩ = some v2 ∧ hi ≤ z
theorem Ap.by {w w' : World} {v v2 : Value} {g : List UInt8} {n : UInt8} {lo hi z : Nat} {row : Option Nat} (h : Ap w v v2 g n lo hi z) (hg : w.grownBy w' row) (hr : ∀ r, row = some r → lo ≤ r ∧ r < hi) : Ap w' v v2 g n lo hi z := by
  obtain ⟨⟨⟨h1, h2⟩, h3, h4⟩, h5, h6, h7⟩ := h
  have e := hg.block z (block_lt_of_cell h5) (fun e => by have := hr z e.symm; omega)
  refine ⟨⟨⟨h1.by hg (fun r e k => ?_), h2.by hg (fun r e k => ?_)⟩, h3, h4⟩, by rw [World.cell?_of_block e]; exact h5, by rw [World.cell?_of_block e]; exact h6, h7⟩
  · have := hr r e
    have := h3 r k
    omega
  · have := hr r e
    have := h4 r k
    omega
theorem Ap.up {w w' : World} {v v2 : Value} {g : List UInt8} {n : UInt8} {lo hi z : Nat} (h : Ap w v v2 g n lo hi z) (u : Up w w') : Ap w' v v2 g n lo hi z := ⟨⟨h.1.1.up u, h.1.2⟩, u.cell h.2.1, u.cell h.2.2.1, h.2.2.2⟩
theorem moved2 (B lo hi : Nat) (v : Value) (g : List UInt8) (n : UInt8) (w : World) (hO : Own w B v g) (hB : B ≤ w.heap.size) (hl : g.length ≤ 1048576) (hlo : ∀ b, v.ownBlock = some b → b < lo) (hhi : hi ≤ w.heap.size) :
    Calls Tryd.prog 16 #[v, .int .u8 (n.toNat : Int)] w fun e w' => ∃ v2, e = .returned (.agg #[v, v2]) ∧ Ap0 w' v v2 g n lo hi ∧ w.grownBy w' v.ownBlock := by
  refine (moved_walk v g n B w hO hB hl).mono ?_
  rintro e w' ⟨v2, rfl, h1, h2, h3, h4⟩
  refine ⟨v2, rfl, ⟨⟨h1, h2⟩, hlo, fun b hb => ?_⟩, h4⟩
  rcases h3 b hb with h | h
  · exact .inl (hlo b h)
  · exact .inr (by omega)
theorem ap_new {w : World} {v v2 : Value} {g : List UInt8} {n : UInt8} {lo hi : Nat} (h : Ap0 w v v2 g n lo hi) (hh : hi ≤ w.heap.size) (t : TypeId) : Ap (w.alloc (.cells #[v, v2] t)) v v2 g n lo hi w.heap.size :=
  ⟨⟨h.1.up ((Up.refl _).alloc _), h.2⟩, by rw [World.cell?_alloc_at _ _ _ _ rfl]; rfl, by rw [World.cell?_alloc_at _ _ _ _ rfl]; rfl, hh⟩
theorem own_lt {w : World} {B : Nat} {v : Value} {l : List UInt8} (h : Own w B v l) : ∀ r, v.ownBlock = some r → B ≤ r ∧ r < w.heap.size := fun r hr => World.ownsRow.lt h r hr
end Go.Proofs.YtbdbpmeaiiodgaaDoor
