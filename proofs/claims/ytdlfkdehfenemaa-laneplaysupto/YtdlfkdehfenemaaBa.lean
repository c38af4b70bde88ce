import Derived.Test.YtdlfkdehfenemaaDa
import Derived.OwnWalk
import Derived.Deep.RegionWith
import Derived.Lib.SliceRun
import Derived.Lib.ConvBytes
import Derived.Laws.Cover3
import Derived.Deep.AppendLies
import Derived.Deep.RegionLaw
namespace Go.Proofs.Ytdlfkdehfenemaa
open Go.RowKit TextNum
theorem Try.infoU8 : (Try.prog.info? 5).map (fun i => (i.zero, i.size, i.bytes)) = some (some (.int .u8 0), 1, 1) := by kernel_rfl
/-- a slice that reads as these bytes -/
def Sb (w : World) (v : Value) (ds : List UInt8) : Prop :=
  ∃ a c, v = .slice a ds.length c ∧ ds.length ≤ c ∧ c ≤ maxLen ∧ (a = none → ds = [] ∧ c = 0) ∧ ∀ ad, a = some ad → (ds ≠ [] → ad.spot = none) ∧ ∀ j u, (cb ds)[j]? = some u → w.cell? (ad.add j) = some u
theorem Sb.kept {w w' : World} {v : Value} {ds : List UInt8} {row : Option Nat} (h : Sb w v ds) (hg : w.grownBy w' row) (hne : v.ownBlock = none ∨ v.ownBlock ≠ row) : Sb w' v ds := by
  obtain ⟨a, c, rfl, h1, h2, h3, h4⟩ := h
  refine ⟨a, c, rfl, h1, h2, h3, fun ad e => ⟨(h4 ad e).1, fun j u hj => ?_⟩⟩
  subst e
  rcases hne with h | h
  · cases h
  · obtain ⟨b, o, sp⟩ := ad
    obtain rfl : sp = none := (h4 _ rfl).1 (fun e => by rw [e] at hj; cases hj)
    refine hg.cell ((h4 _ rfl).2 j u hj) ?_
    rw [Addr.add_lit]
    exact h
theorem Sb.up {w w' : World} {v : Value} {ds : List UInt8} (h : Sb w v ds) (k : Up w w') : Sb w' v ds := by
  obtain ⟨a, c, rfl, h1, h2, h3, h4⟩ := h
  exact ⟨a, c, rfl, h1, h2, h3, fun ad e => ⟨(h4 ad e).1, fun j u hj => k.cell ((h4 ad e).2 j u hj)⟩⟩
abbrev Ow (w : World) (B : Nat) (v : Value) (xs : List UInt8) : Prop := w.ownsRow B 5 1 v xs.length (cb xs)
theorem Ow.sb {w : World} {B : Nat} {v : Value} {xs : List UInt8} (h : Ow w B v xs) : Sb w v xs := by
  rcases h.2 with ⟨rfl, h0⟩ | ⟨g, cap, cur, rfl, _, hg, hnc, hcm, _, _⟩
  · have : xs = [] := List.eq_nil_of_length_eq_zero h0
    subst this
    exact ⟨none, 0, rfl, by simp, by simp, fun _ => ⟨rfl, rfl⟩, fun _ e => by cases e⟩
  · refine ⟨_, cap, rfl, hnc, hcm, fun e => ?_, fun ad e => ?_⟩
    · cases e
    · obtain rfl := Option.some.inj e
      exact ⟨fun _ => rfl, World.ownsRow.cells h rfl⟩
theorem cb_one (l : List UInt8) : ∀ u ∈ cb l, u.oneCell' = true := fun u hu => by
  obtain ⟨c, _, rfl⟩ := List.mem_map.1 hu
  rfl
theorem own_empty (w : World) : Ow (w.alloc (.cells #[] 5)) w.heap.size (.slice (some ⟨w.heap.size, 0, none⟩) 0 0) [] :=
  ⟨rfl, .inr ⟨w.heap.size, 0, #[], rfl, Nat.le_refl _, heap_alloc_new w _, Nat.le_refl _, by simp [maxLen], rfl, rfl⟩⟩
theorem up_grownBy {a b c : World} {row : Option Nat} (h : Up a b) (k : b.grownBy c row) (hr : ∀ g, row = some g → a.heap.size ≤ g) : Up a c :=
  ⟨k.os.trans h.os, k.tape.trans h.tape, k.output.trans h.output, Nat.le_trans h.size k.size, fun j hj => (k.block j (Nat.lt_of_lt_of_le hj h.size) (fun e => by have := hr j e.symm; omega)).trans (h.block j hj)⟩
theorem grownBy_undrew {w w' : World} {r : Option Nat} (h : w.drew.grownBy w' r) : w.grownBy w' r := ⟨h.os, h.tape, h.output, h.size, h.block⟩
/-- a struct in its block -/
def At (w : World) (b : Nat) (t : TypeId) (cs : List Value) : Prop := w.heap[b]? = some (.cells cs.toArray t)
theorem lt_of_at {w : World} {k : Nat} {o : Obj} (h : w.heap[k]? = some o) : k < w.heap.size := (Array.getElem?_eq_some_iff.1 h).1
theorem At.up {w w' : World} {b : Nat} {t : TypeId} {cs : List Value} (h : At w b t cs) (k : Up w w') : At w' b t cs := by
  unfold At
  rw [k.block b (lt_of_at h)]; exact h
theorem at_new (w : World) (t : TypeId) (cs : List Value) : At (w.alloc (.cells cs.toArray t)) w.heap.size t cs := by
  show (w.heap.push _)[w.heap.size]? = _
  simp
theorem At.cell {w : World} {b : Nat} {t : TypeId} {cs : List Value} (h : At w b t cs) {i : Nat} {v : Value} (hi : cs[i]? = some v) : w.cell? ⟨b, i, none⟩ = some v := by
  rw [cell_of_row w b i cs.toArray _ (0, 0) h]
  simpa using hi
theorem At.thaw {w : World} {b : Nat} {t : TypeId} {cs : List Value} (h : At w b t cs) (i : Nat) : w.frozen? ⟨b, i, none⟩ = false := by
  have h' : w.heap[b]? = some (.cells cs.toArray t (0, 0)) := h
  simp [World.frozen?, h']
theorem At.set {w : World} {b : Nat} {t : TypeId} {cs : List Value} (h : At w b t cs) (i : Nat) (v : Value) : At (w.setCell ⟨b, i, none⟩ v) b t (cs.set i v) := by
  have h1 := heap_setCell_same w b i _ t v h
  unfold At
  rw [h1]
  simp
theorem grown_set (w : World) (p : Addr) (v : Value) : w.grownBy (w.setCell p v) (some p.block) := ⟨rfl, rfl, rfl, by simp, fun k _ hk => by
  have hne : ¬ p.block = k := fun e => hk (by rw [e])
  simp only [World.setCell]
  split <;> simp [Array.getElem?_modify, hne]⟩
theorem grown_trans {a b c : World} {row : Option Nat} (h : a.grownBy b row) (k : b.grownBy c row) : a.grownBy c row := ⟨k.os.trans h.os, k.tape.trans h.tape, k.output.trans h.output, Nat.le_trans h.size k.size, fun i hi hr => (k.block i (Nat.lt_of_lt_of_le hi h.size) hr).trans (h.block i hi hr)⟩
theorem grown_up {a b c : World} {row : Option Nat} (h : a.grownBy b row) (k : Up b c) : a.grownBy c row := ⟨k.os.trans h.os, k.tape.trans h.tape, k.output.trans h.output, Nat.le_trans h.size k.size, fun i hi hr => (k.block i (Nat.lt_of_lt_of_le hi h.size)).trans (h.block i hi hr)⟩
theorem up_grown {a b c : World} {row : Option Nat} (h : Up a b) (k : b.grownBy c row) : a.grownBy c row := ⟨k.os.trans h.os, k.tape.trans h.tape, k.output.trans h.output, Nat.le_trans h.size k.size, fun i hi hr => (k.block i (Nat.lt_of_lt_of_le hi h.size) hr).trans (h.block i hi)⟩
theorem grown_refl (a : World) (row : Option Nat) : a.grownBy a row := ⟨rfl, rfl, rfl, Nat.le_refl _, fun _ _ _ => rfl⟩
theorem Up.by {w0 w w' : World} {row : Option Nat} (h : Up w0 w) (hg : w.grownBy w' row) (hr : ∀ g, row = some g → w0.heap.size ≤ g) : Up w0 w' := Below.trans h ((Below.refl _ w).grown hg h.size hr)
theorem At.by {w w' : World} {b : Nat} {t : TypeId} {cs : List Value} {row : Option Nat} (h : At w b t cs) (hg : w.grownBy w' row) (hr : row ≠ some b) : At w' b t cs := by
  unfold At
  rw [hg.block b (lt_of_at h) (fun e => hr e.symm)]; exact h
theorem At.range {w : World} {b : Nat} {t : TypeId} {cs : List Value} (h : At w b t cs) : w.rangeAt b 0 cs := fun j v hj => by
  rw [Nat.zero_add]; exact h.cell hj
theorem alloc_size (w : World) (o : Obj) : (w.alloc o).heap.size = w.heap.size + 1 := by
  show (w.heap.push o).size = _
  simp
theorem At.there {w : World} {b : Nat} {t : TypeId} {cs : List Value} (h : At w b t cs) : w.there b 0 cs.length := fun j hj => by
  rw [Nat.zero_add]
  exact ⟨by rw [h.cell (List.getElem?_eq_getElem hj)]; rfl, h.thaw j⟩
theorem at_sets {b : Nat} {t : TypeId} : ∀ (vs : List Value) (o : Nat) {w : World} {cs : List Value}, At w b t cs → o + vs.length ≤ cs.length → At (w.setCells b o vs) b t (cs.take o ++ vs ++ cs.drop (o + vs.length))
  | [], o, w, cs, h, _ => by simpa [World.setCells] using h
  | v :: r, o, w, cs, h, hl => by
    have := at_sets r (o + 1) (h.set o v) (by simp at hl ⊢; omega)
    show At ((w.setCell ⟨b, o, none⟩ v).setCells b (o + 1) r) b t _
    have e : (cs.set o v).take (o + 1) ++ r ++ (cs.set o v).drop (o + 1 + r.length) = cs.take o ++ (v :: r) ++ cs.drop (o + (v :: r).length) := by
      simp only [List.length_cons] at hl ⊢
      rw [List.take_set, List.drop_set, if_pos (by omega), List.take_succ_eq_append_getElem (by omega)]
      rw [List.set_append, if_neg (by simp; omega)]
      simp [Nat.min_eq_left (by omega : o ≤ cs.length)]
      rw [show o + 1 + r.length = o + (r.length + 1) by omega]
    rw [e] at this
    exact this
theorem At.sets {w : World} {b : Nat} {t : TypeId} {cs vs : List Value} (h : At w b t cs) (hl : vs.length = cs.length) : At (w.setCells b 0 vs) b t vs := by
  have := at_sets vs 0 h (by omega)
  simpa [hl] using this
theorem grown_sets (b : Nat) : ∀ (vs : List Value) (o : Nat) (w : World), w.grownBy (w.setCells b o vs) (some b)
  | [], _, w => grown_refl w _
  | v :: r, o, w => grown_trans (grown_set w ⟨b, o, none⟩ v) (grown_sets b r (o + 1) _)
theorem wpList_store_at {P : Program} {ops : Array Oper} {rest : List Oper} {op : Oper} {a : Act} {w : World} {Q : Exit → Act → World → Prop} (hgd : op.guard = none) (ty : TypeId) (x y : Operand) (ho : op.op = .store ty x y)
    (b : Nat) {t : TypeId} {cs : List Value} (hA : At w b t cs) (vs : List Value) (hx : a.eval x = .pointer (some ⟨b, 0, none⟩)) (hy : a.eval y = .agg vs.toArray) (hl : vs.length = cs.length)
    (hi : (P.info? ty).map (·.size) = some vs.toArray.size) (h1 : vs.toArray.all (·.oneCell') = true)
    (h : ∀ w2, At w2 b t vs → w.grownBy w2 (some b) → wpList P ops Q rest (a.put op.dst undef) w2) : wpList P ops Q (op :: rest) a w :=
  wpList_store_mid hgd ty x y ho b 0 vs.toArray hx hy (by have := hA.there; rw [← hl] at this; simpa using this) hi h1 (h _ (hA.sets hl) (grown_sets b _ _ _))
theorem grown_at (w : World) (b i : Nat) (v : Value) : w.grownBy (w.setCell ⟨b, i, none⟩ v) (some b) := grown_set w ⟨b, i, none⟩ v
/-- a region whose orders all end alike -/
abbrev Once (A : Act) (W : World) : Exit → Act → World → Prop
  | .normal, a, w => a = A ∧ w = W
  | _, _, _ => False
theorem wp_once {P : Program} {c : Code} {Q : Exit → Act → World → Prop} {a : Act} {w : World} (A : Act) (W : World) (h : c.wp P (Once A W) a w) (k : Q Exit.normal A W) : c.wp P Q a w :=
  Code.wp_mono (fun e a' w' h => by
    cases e with
    | normal => obtain ⟨rfl, rfl⟩ := h; exact k
    | _ => exact h.elim) h
abbrev Som (R : Option Addr → Nat → World → Prop) (A : Option Addr → Nat → World → Act) (W : Option Addr → Nat → World → World) : Exit → Act → World → Prop
  | .normal, a, w => ∃ x c u, R x c u ∧ a = A x c u ∧ w = W x c u
  | _, _, _ => False
theorem wp_som {P : Program} {c : Code} {Q : Exit → Act → World → Prop} {a : Act} {w : World} (R : Option Addr → Nat → World → Prop) (A : Option Addr → Nat → World → Act) (W : Option Addr → Nat → World → World) (h : c.wp P (Som R A W) a w) (k : ∀ x c u, R x c u → Q Exit.normal (A x c u) (W x c u)) : c.wp P Q a w :=
  Code.wp_mono (fun e a' w' h => by
    cases e with
    | normal => obtain ⟨x, c, u, hR, rfl, rfl⟩ := h; exact k x c u hR
    | _ => exact h.elim) h
theorem At.ne {w : World} {a b : Nat} {t t' : TypeId} {cs cs' : List Value} (h : At w a t cs) (k : At w b t' cs') (ht : t ≠ t') : a ≠ b := fun e => by
  subst e
  unfold At at h k
  rw [h] at k
  injection k with k
  injection k with _ k
  exact ht k
theorem own_ne {w : World} {B n m b : Nat} {e t : TypeId} {v : Value} {xs cs : List Value} (h : w.ownsRow B e m v n xs) (k : At w b t cs) (ht : e ≠ t) : v.ownBlock ≠ some b := fun hb => by
  rcases h.2 with ⟨rfl, _⟩ | ⟨g, cap, cur, rfl, _, hg, _⟩
  · cases hb
  · obtain rfl : g = b := Option.some.inj hb
    unfold At at k
    rw [hg] at k
    injection k with k
    injection k with _ k
    exact ht k
theorem own_apart {w : World} {B B' n n' m m' g : Nat} {e e' : TypeId} {v v' : Value} {xs xs' : List Value} (h : w.ownsRow B e m v n xs) (k : w.ownsRow B' e' m' v' n' xs') (ht : e ≠ e') (hg : v.ownBlock = some g) : v'.ownBlock ≠ some g := fun hb => by
  rcases h.2 with ⟨rfl, _⟩ | ⟨g1, cap, cur, rfl, _, h1, _⟩
  · cases hg
  · rcases k.2 with ⟨rfl, _⟩ | ⟨g2, cap2, cur2, rfl, _, h2, _⟩
    · cases hb
    · obtain rfl : g1 = g := Option.some.inj hg
      obtain rfl : g2 = g1 := Option.some.inj hb
      rw [h1] at h2
      injection h2 with h2
      injection h2 with _ h2
      exact ht h2
/-- all but these blocks is as it was -/
structure Fr (S : Nat → Prop) (w w' : World) : Prop where
  os : w'.os = w.os
  tape : w'.tape = w.tape
  output : w'.output = w.output
  size : w.heap.size ≤ w'.heap.size
  block : ∀ k, k < w.heap.size → ¬ S k → w'.heap[k]? = w.heap[k]?
theorem Fr.refl (S : Nat → Prop) (w : World) : Fr S w w := ⟨rfl, rfl, rfl, Nat.le_refl _, fun _ _ _ => rfl⟩
theorem Fr.by {S : Nat → Prop} {a b c : World} {row : Option Nat} (h : Fr S a b) (k : b.grownBy c row) (hr : ∀ g, row = some g → S g ∨ a.heap.size ≤ g) : Fr S a c :=
  ⟨k.os.trans h.os, k.tape.trans h.tape, k.output.trans h.output, Nat.le_trans h.size k.size, fun j hj hS => (k.block j (Nat.lt_of_lt_of_le hj h.size) (fun e => by
    rcases hr j e.symm with h1 | h1
    · exact hS h1
    · omega)).trans (h.block j hj hS)⟩
theorem Fr.up {S : Nat → Prop} {a b c : World} (h : Fr S a b) (k : Up b c) : Fr S a c :=
  ⟨k.os.trans h.os, k.tape.trans h.tape, k.output.trans h.output, Nat.le_trans h.size k.size, fun j hj hS => (k.block j (Nat.lt_of_lt_of_le hj h.size)).trans (h.block j hj hS)⟩
theorem Fr.weak {S T : Nat → Prop} {a b : World} (h : Fr S a b) (k : ∀ g, S g → T g) : Fr T a b := ⟨h.os, h.tape, h.output, h.size, fun j hj hT => h.block j hj (fun hS => hT (k j hS))⟩
theorem Fr.trans {S : Nat → Prop} {a b c : World} {T : Nat → Prop} (h : Fr S a b) (k : Fr T b c) (hT : ∀ g, T g → S g ∨ a.heap.size ≤ g) : Fr S a c :=
  ⟨k.os.trans h.os, k.tape.trans h.tape, k.output.trans h.output, Nat.le_trans h.size k.size, fun j hj hS => (k.block j (Nat.lt_of_lt_of_le hj h.size) (fun e => by
    rcases hT j e with h1 | h1
    · exact hS h1
    · omega)).trans (h.block j hj hS)⟩
theorem Fr.at {S : Nat → Prop} {w w' : World} {b : Nat} {t : TypeId} {cs : List Value} (h : Fr S w w') (k : At w b t cs) (hS : ¬ S b) : At w' b t cs := by
  unfold At
  rw [h.block b (lt_of_at k) hS]
  exact k
theorem Fr.own {S : Nat → Prop} {w w' : World} {B n m : Nat} {e : TypeId} {v : Value} {xs : List Value} (h : Fr S w w') (k : w.ownsRow B e m v n xs) (hS : ∀ g, v.ownBlock = some g → ¬ S g) : w'.ownsRow B e m v n xs := by
  have hl := k.lt
  refine ⟨k.1, ?_⟩
  rcases k.2 with e | ⟨g, cap, cur, rfl, hb, hg, r⟩
  · exact .inl e
  · exact .inr ⟨g, cap, cur, rfl, hb, (h.block g (hl g rfl).2 (hS g rfl)).trans hg, r⟩
theorem ow_up {w w' : World} {B n m : Nat} {e : TypeId} {v : Value} {xs : List Value} (k : w.ownsRow B e m v n xs) (h : Up w w') : w'.ownsRow B e m v n xs := by
  have hl := k.lt
  refine ⟨k.1, ?_⟩
  rcases k.2 with e | ⟨g, cap, cur, rfl, hb, hg, r⟩
  · exact .inl e
  · exact .inr ⟨g, cap, cur, rfl, hb, (h.block g (hl g rfl).2).trans hg, r⟩
theorem ow_base {w : World} {B B' n m : Nat} {e : TypeId} {v : Value} {xs : List Value} (k : w.ownsRow B e m v n xs) (h : B' ≤ B) : w.ownsRow B' e m v n xs := by
  refine ⟨k.1, ?_⟩
  rcases k.2 with e | ⟨g, cap, cur, rfl, hb, r⟩
  · exact .inl e
  · exact .inr ⟨g, cap, cur, rfl, Nat.le_trans h hb, r⟩
theorem news_new (w : World) (t : TypeId) (cs : List Value) : ∀ j u, cs[j]? = some u → ((w.alloc (.cells cs.toArray t)).drew).cell? ((⟨w.heap.size, 0, none⟩ : Addr).add j) = some u := fun j u hu => by
  rw [Addr.add_lit]
  exact (At.cell ((at_new w t cs).up (Up.refl _).drew) (i := 0 + j) (by rw [Nat.zero_add]; exact hu))
def cst (xs : List (List UInt8)) : List Value := xs.map fun l => Value.string ⟨l.toArray⟩
/-- a list of texts that is read -/
def SlS (w : World) (v : Value) (xs : List (List UInt8)) : Prop := ∃ a c, v = .slice a xs.length c ∧ xs.length ≤ c ∧ (xs = [] ∨ ∃ b off, a = some ⟨b, off, none⟩ ∧ b < w.heap.size ∧ ∀ i (h : i < xs.length), w.cell? ⟨b, off + i, none⟩ = some (.string ⟨xs[i].toArray⟩))
theorem conv_sb2 {w : World} {v : Value} {l : List UInt8} (h : Sb w v l) : (convert 47 9 v).run Try.prog w = .ok (.string ⟨l.toArray⟩) w := by
  obtain ⟨a, c, rfl, _, _, h3, h4⟩ := h
  cases a with
  | none =>
    obtain ⟨rfl, rfl⟩ := h3 rfl
    exact run_convert_bytes_nil w 47 5 Try.underlying47 Try.underlying5 _ _ 9 Try.underlying9
  | some ad =>
    exact run_convert_bytes_back w 47 9 5 ad c l Try.underlying47 Try.underlying5 Try.underlying9 (fun j hj => (h4 ad rfl).2 j _ (cb_get hj))
theorem range_up {w w' : World} {p off : Nat} {cs : List Value} (h : w.rangeAt p off cs) (g : Up w w') : w'.rangeAt p off cs := fun j v hv => g.cell (h j v hv)
theorem wpList_val7 {ops : Array Oper} {Q : Exit → Act → World → Prop} {rest : List Oper} {o : Oper} {a : Act} {w : World} (v : Value) (hgd : o.guard = none) (hy : (execOp a.eval o).run Try.prog w = .ok (.value v) w)
    (h : wpList Try.prog ops Q rest (a.put o.dst v) w) : wpList Try.prog ops Q (o :: rest) a w :=
  wpList_plain hgd fun K hK => by
    unfold Oper.wp
    rw [hy]
    exact hK _ _ h
theorem own_get {w : World} {B n : Nat} {e : TypeId} {a : Option Addr} {c : Nat} {xs : List Value} (h : w.ownsRow B e 1 (.slice a n c) n xs) {j : Nat} (hj : j < n) : ∃ g, a = some ⟨g, 0, none⟩ ∧ n ≤ c ∧ ∃ hx : j < xs.length, w.cell? ⟨g, j, none⟩ = some xs[j] := by
  have hl : xs.length = n := by have := h.1; omega
  rcases h.2 with ⟨_, h0⟩ | ⟨g, cap, cur, e1, _, hg, hc, _⟩
  · omega
  · injection e1 with e1 e2 e3
    subst e1 e3
    refine ⟨g, rfl, hc, by omega, ?_⟩
    have := World.ownsRow.cells h rfl j xs[j] (List.getElem?_eq_getElem (by omega))
    rw [Addr.add_lit, Nat.zero_add] at this
    exact this
theorem row_len {w : World} {B n : Nat} {e : TypeId} {v : Value} {xs : List Value} (h : w.ownsRow B e 1 v n xs) : ∃ a c, v = .slice a n c := by
  rcases h.2 with ⟨e1, h0⟩ | ⟨g, cap, cur, e1, _⟩
  · exact ⟨none, 0, by rw [e1, h0]⟩
  · exact ⟨_, cap, e1⟩
theorem own_off {w : World} {B B' n n' m m' : Nat} {e e' : TypeId} {v v' : Value} {xs xs' : List Value} (h : w.ownsRow B e m v n xs) (k : w.ownsRow B' e' m' v' n' xs') (ht : e ≠ e') : v.ownBlock = none ∨ v.ownBlock ≠ v'.ownBlock := by
  cases hv : v.ownBlock with
  | none => exact .inl rfl
  | some g => exact .inr (fun e0 => own_apart h k ht hv e0.symm)
theorem cst_snoc (xs : List (List UInt8)) (x : List UInt8) : cst (xs ++ [x]) = cst xs ++ [.string ⟨x.toArray⟩] := by simp [cst]
theorem cb_snoc (xs : List UInt8) (x : UInt8) : cb (xs ++ [x]) = cb xs ++ [.int .u8 (x.toNat : Int)] := by simp [cb]

/-- where a walk goes on behind one operation, and nowhere else -/
def onto (K : Act → World → Prop) : Exit → Act → World → Prop
  | .normal, a, w => K a w
  | _, _, _ => False
/-- an operation of a region that draws is run by a law about lists -/
theorem oper_of_list {P : Program} {ops : Array Oper} {Q : Exit → Act → World → Prop} {K : Act → World → Prop} {o : Oper} {a : Act} {w : World} (h : wpList P ops (onto K) [o] a w) : if Region.wanted o (yielded ops a.tmps) = true then Oper.wp P o a w K Q else K (a.put o.dst undef) w := by
  unfold wpList at h
  split
  · rename_i hw
    rw [if_pos hw] at h
    rcases h with h | ⟨_, ⟨_, _, h⟩⟩
    · have e : wpList P ops (onto K) [] = K := rfl
      rw [e] at h
      unfold Oper.wp at *
      generalize (execOp a.eval o).run P w = r at *
      cases r with
      | ok n w' =>
        cases n <;> simp only [Oper.upon] at h ⊢
        case value u => exact h
        case skip => exact h
        case defer d => exact h
        case enter f args =>
          refine Calls.mono h fun e w'' he => ?_
          cases e with
          | returned u => exact he
          | panicked c => exact he.elim
          | outgrown =>
            obtain ⟨_, _, h⟩ := he
            exact h.elim
        case row row args => exact h
      | halt x w' =>
        cases x <;> simp only [Oper.upon] at h ⊢
        case panic u => exact h.elim
    · exact h.elim
  · rename_i hw
    rw [if_neg hw] at h
    exact h
end Go.Proofs.Ytdlfkdehfenemaa
