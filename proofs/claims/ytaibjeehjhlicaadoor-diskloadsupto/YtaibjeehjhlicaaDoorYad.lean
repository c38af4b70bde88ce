import Derived.Test.YtaibjeehjhlicaaDoorYaa
import Derived.Deep.AppendLies
import Derived.Laws.EntriesVeiled
import Derived.Deep.RegionHeld3
import Derived.Deep.RegionLaw
namespace Go.Proofs.YtaibjeehjhlicaaDoor
open Go.RowKit Go.Shelf TextNum ModNum
/-- a region whose orders all end alike -/
abbrev Once (A : Act) (W : World) : Exit → Act → World → Prop
  | .normal, a, w => a = A ∧ w = W
  | _, _, _ => False
theorem wp_once {P : Program} {c : Code} {Q : Exit → Act → World → Prop} {a : Act} {w : World} (A : Act) (W : World) (h : c.wp P (Once A W) a w) (k : Q Exit.normal A W) : c.wp P Q a w :=
  Code.wp_mono (fun e a' w' h => by
    cases e with
    | normal => obtain ⟨rfl, rfl⟩ := h; exact k
    | _ => exact h.elim) h
abbrev Som (R : Option Addr → Nat → World → Prop) (A : Option Addr → Nat → World → Act) (W : Option Addr → Nat → World → World) : Exit → Act → World → Prop
  | .normal, a, w => ∃ x c u, R x c u ∧ a = A x c u ∧ w = W x c u
  | _, _, _ => False
theorem wp_som {P : Program} {c : Code} {Q : Exit → Act → World → Prop} {a : Act} {w : World} (R : Option Addr → Nat → World → Prop) (A : Option Addr → Nat → World → Act) (W : Option Addr → Nat → World → World) (h : c.wp P (Som R A W) a w) (k : ∀ x c u, R x c u → Q Exit.normal (A x c u) (W x c u)) : c.wp P Q a w :=
  Code.wp_mono (fun e a' w' h => by
    cases e with
    | normal => obtain ⟨x, c, u, hR, rfl, rfl⟩ := h; exact k x c u hR
    | _ => exact h.elim) h
theorem At.ne {w : World} {a b : Nat} {t t' : TypeId} {cs cs' : List Value} (h : At w a t cs) (k : At w b t' cs') (ht : t ≠ t') : a ≠ b := fun e => by
  subst e
  unfold At at h k
  rw [h] at k
  injection k with k
  injection k with _ k
  exact ht k
theorem own_ne {w : World} {B n m b : Nat} {e t : TypeId} {v : Value} {xs cs : List Value} (h : w.ownsRow B e m v n xs) (k : At w b t cs) (ht : e ≠ t) : v.ownBlock ≠ some b := fun hb => by
  rcases h.2 with ⟨rfl, _⟩ | ⟨g, cap, cur, rfl, _, hg, _⟩
  · cases hb
  · obtain rfl : g = b := Option.some.inj hb
    unfold At at k
    rw [hg] at k
    injection k with k
    injection k with _ k
    exact ht k
theorem own_apart {w : World} {B B' n n' m m' g : Nat} {e e' : TypeId} {v v' : Value} {xs xs' : List Value} (h : w.ownsRow B e m v n xs) (k : w.ownsRow B' e' m' v' n' xs') (ht : e ≠ e') (hg : v.ownBlock = some g) : v'.ownBlock ≠ some g := fun hb => by
  rcases h.2 with ⟨rfl, _⟩ | ⟨g1, cap, cur, rfl, _, h1, _⟩
  · cases hg
  · rcases k.2 with ⟨rfl, _⟩ | ⟨g2, cap2, cur2, rfl, _, h2, _⟩
    · cases hb
    · obtain rfl : g1 = g := Option.some.inj hg
      obtain rfl : g2 = g1 := Option.some.inj hb
      rw [h1] at h2
      injection h2 with h2
      injection h2 with _ h2
      exact ht h2
/-- all but these blocks is as it was -/
structure Fr (S : Nat → Prop) (w w' : World) : Prop where
  os : w'.os = w.os
  tape : w'.tape = w.tape
  output : w'.output = w.output
  size : w.heap.size ≤ w'.heap.size
  block : ∀ k, k < w.heap.size → ¬ S k → w'.heap[k]? = w.heap[k]?
theorem Fr.refl (S : Nat → Prop) (w : World) : Fr S w w := ⟨rfl, rfl, rfl, Nat.le_refl _, fun _ _ _ => rfl⟩
theorem Fr.by {S : Nat → Prop} {a b c : World} {row : Option Nat} (h : Fr S a b) (k : b.grownBy c row) (hr : ∀ g, row = some g → S g ∨ a.heap.size ≤ g) : Fr S a c :=
  ⟨k.os.trans h.os, k.tape.trans h.tape, k.output.trans h.output, Nat.le_trans h.size k.size, fun j hj hS => (k.block j (Nat.lt_of_lt_of_le hj h.size) (fun e => by
    rcases hr j e.symm with h1 | h1
    · exact hS h1
    · omega)).trans (h.block j hj hS)⟩
theorem Fr.up {S : Nat → Prop} {a b c : World} (h : Fr S a b) (k : Up b c) : Fr S a c :=
  ⟨k.os.trans h.os, k.tape.trans h.tape, k.output.trans h.output, Nat.le_trans h.size k.size, fun j hj hS => (k.block j (Nat.lt_of_lt_of_le hj h.size)).trans (h.block j hj hS)⟩
theorem Fr.weak {S T : Nat → Prop} {a b : World} (h : Fr S a b) (k : ∀ g, S g → T g) : Fr T a b := ⟨h.os, h.tape, h.output, h.size, fun j hj hT => h.block j hj (fun hS => hT (k j hS))⟩
theorem Fr.trans {S : Nat → Prop} {a b c : World} {T : Nat → Prop} (h : Fr S a b) (k : Fr T b c) (hT : ∀ g, T g → S g ∨ a.heap.size ≤ g) : Fr S a c :=
  ⟨k.os.trans h.os, k.tape.trans h.tape, k.output.trans h.output, Nat.le_trans h.size k.size, fun j hj hS => (k.block j (Nat.lt_of_lt_of_le hj h.size) (fun e => by
    rcases hT j e with h1 | h1
    · exact hS h1
    · omega)).trans (h.block j hj hS)⟩
theorem Fr.at {S : Nat → Prop} {w w' : World} {b : Nat} {t : TypeId} {cs : List Value} (h : Fr S w w') (k : At w b t cs) (hS : ¬ S b) : At w' b t cs := by
  unfold At
  rw [h.block b (lt_of_at k) hS]
  exact k
theorem Fr.own {S : Nat → Prop} {w w' : World} {B n m : Nat} {e : TypeId} {v : Value} {xs : List Value} (h : Fr S w w') (k : w.ownsRow B e m v n xs) (hS : ∀ g, v.ownBlock = some g → ¬ S g) : w'.ownsRow B e m v n xs := by
  have hl := k.lt
  refine ⟨k.1, ?_⟩
  rcases k.2 with e | ⟨g, cap, cur, rfl, hb, hg, r⟩
  · exact .inl e
  · exact .inr ⟨g, cap, cur, rfl, hb, (h.block g (hl g rfl).2 (hS g rfl)).trans hg, r⟩
theorem ow_up {w w' : World} {B n m : Nat} {e : TypeId} {v : Value} {xs : List Value} (k : w.ownsRow B e m v n xs) (h : Up w w') : w'.ownsRow B e m v n xs := by
  have hl := k.lt
  refine ⟨k.1, ?_⟩
  rcases k.2 with e | ⟨g, cap, cur, rfl, hb, hg, r⟩
  · exact .inl e
  · exact .inr ⟨g, cap, cur, rfl, hb, (h.block g (hl g rfl).2).trans hg, r⟩
theorem ow_base {w : World} {B B' n m : Nat} {e : TypeId} {v : Value} {xs : List Value} (k : w.ownsRow B e m v n xs) (h : B' ≤ B) : w.ownsRow B' e m v n xs := by
  refine ⟨k.1, ?_⟩
  rcases k.2 with e | ⟨g, cap, cur, rfl, hb, r⟩
  · exact .inl e
  · exact .inr ⟨g, cap, cur, rfl, Nat.le_trans h hb, r⟩
theorem Tryd.infoLoose : (Tryd.prog.info? 123).map (fun i => (i.zero, i.size, i.bytes)) = some (some (.agg #[.int .i64 0, .int .i64 0, .nilFunc]), 3, 24) := by kernel_rfl
def lwc (tn : Int) (n ba bk : Nat) : List Value := [.int .i64 tn, .int .i64 (n : Int), .func (.func 0) #[] #[.pointer (some ⟨ba, 0, none⟩), .pointer (some ⟨bk, 0, none⟩)]]
theorem lwc_one (tn : Int) (n ba bk : Nat) : ∀ u ∈ lwc tn n ba bk, u.oneCell' = true := fun u hu => by
  simp only [lwc, List.mem_cons, List.not_mem_nil, or_false] at hu
  rcases hu with rfl | rfl | rfl <;> rfl
theorem news_new (w : World) (t : TypeId) (cs : List Value) : ∀ j u, cs[j]? = some u → ((w.alloc (.cells cs.toArray t)).drew).cell? ((⟨w.heap.size, 0, none⟩ : Addr).add j) = some u := fun j u hu => by
  rw [Addr.add_lit]
  exact (At.cell ((at_new w t cs).up (Up.refl _).drew) (i := 0 + j) (by rw [Nat.zero_add]; exact hu))
end Go.Proofs.YtaibjeehjhlicaaDoor
