import Derived.Test.YtdlfkdehfenemaaAw
import Derived.Test.YtdlfkdehfenemaaCb
import Derived.Test.YtdlfkdehfenemaaCc
import Derived.Test.YtdlfkdehfenemaaGk
namespace Go.Proofs.Ytdlfkdehfenemaa
open Go.RowKit Go.Conc TextNum
theorem range_up' {w w' : World} {b o : Nat} {vs : List Value} (h : w.rangeAt b o vs) (u : Up w w') : w'.rangeAt b o vs := fun i v hv => by
  have h1 := h i v hv
  have hb : b < w.heap.size := by
    rcases Nat.lt_or_ge b w.heap.size with h2 | h2
    · exact h2
    · rw [World.cell?, Array.getElem?_eq_none h2] at h1; cases h1
  rw [World.cell?_of_block (a := ⟨b, o + i, none⟩) (u.block b hb)]
  exact h1
theorem fateE_ok {fs : List (Int × Int)} (h1 : fs.length ≤ 65536) (h2 : ∀ f ∈ fs, fok f = true) : fateE fs = 0 := by
  unfold fateE
  rw [if_neg (by omega), if_neg]
  intro h
  obtain ⟨f, hf, h3⟩ := List.any_eq_true.1 h
  rw [h2 f hf] at h3
  cases h3
theorem postA_now (A : AN) (i : Nat) (d : List UInt8) (n : Nat) : (postA A i d n).now = A.now := by
  unfold postA
  split <;> rfl
theorem sendA_now (A : AN) (i : Nat) (d : List UInt8) (f : Int × Int) : (sendA A i d f).now = A.now := by
  unfold sendA
  (repeat' split) <;> simp only [postA_now]
theorem nextA_now (A : AN) : (nextA A).2.now = A.now := by
  unfold nextA
  split <;> rfl
theorem SendA_now (A : AN) (i : Nat) (d : List UInt8) : (SendA A i d).now = A.now := by
  unfold SendA
  rw [sendA_now, nextA_now]
theorem u8_not_own {w : World} {S : NS} (h : NOk w S) {B : Nat} {v : Value} {d : List UInt8} (o : Ow w B v d) : ∀ g, v.ownBlock = some g → ¬ own S g := fun g hg hk => by
  have t := row_tag o hg
  rcases h.tag hk with e | e | e | e | e <;> rw [t] at e <;> cases e
theorem Stp.ow {N k : Nat} {w w' : World} {S S' : NS} {A : AN} (s : Stp N k w w' S S' A) (h : NOk w S) {B : Nat} {v : Value} {d : List UInt8} (o : Ow w B v d) : Ow w' B v d := s.fr.own o (u8_not_own h o)
end Go.Proofs.Ytdlfkdehfenemaa
