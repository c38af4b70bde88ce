import Derived.Test.YtehnnlhoajdcaaaGreatDoorDa
import Derived.OwnWalk
import Derived.Deep.RegionWith
import Derived.Lib.SliceRun
import Derived.Lib.ConvBytes
import Derived.Laws.Cover3
import Derived.Deep.AppendLies
import Derived.Deep.RegionLaw
namespace Go.Proofs.YtehnnlhoajdcaaaGreatDoor
open Go.RowKit TextNum
theorem Tryz.infoU8 : (Tryz.prog.info? 5).map (fun i => (i.zero, i.size, i.bytes)) = some (some (.int .u8 0), 1, 1) := by kernel_rfl
def Sb (w : World) (v : Value) (ds : List UInt8) : Prop :=
 ∃ a c, v = .slice a ds.length c ∧ ds.length ≤ c ∧ c ≤ maxLen ∧ (a = none → ds = [] ∧ c = 0) ∧ ∀ ad, a = some ad → (ds ≠ [] → ad.spot = none) ∧ ∀ j u, (cb ds)[j]? = some u → w.cell? (ad.add j) = some u
theorem Sb.kept {w w' : World} {v : Value} {ds : List UInt8} {row : Option Nat} (h : Sb w v ds) (hg : w.grownBy w' row) (hne : v.ownBlock = none ∨ v.ownBlock ≠ row) : Sb w' v ds := by
 obtain ⟨a, c, rfl, h1, h2, h3, h4⟩ := h
 refine ⟨a, c, rfl, h1, h2, h3, fun ad e => ⟨(h4 ad e).1, fun j u hj => ?_⟩⟩
 subst e
 rcases hne with h | h
 · cases h
 obtain ⟨b, o, sp⟩ := ad
 obtain rfl : sp = none := (h4 _ rfl).1 (fun e => by rw [e] at hj; cases hj)
 refine hg.cell ((h4 _ rfl).2 j u hj) ?_
 rw [Addr.add_lit]
 exact h
theorem Sb.up {w w' : World} {v : Value} {ds : List UInt8} (h : Sb w v ds) (k : Up w w') : Sb w' v ds := by
 obtain ⟨a, c, rfl, h1, h2, h3, h4⟩ := h
 exact ⟨a, c, rfl, h1, h2, h3, fun ad e => ⟨(h4 ad e).1, fun j u hj => k.cell ((h4 ad e).2 j u hj)⟩⟩
abbrev Ow (w : World) (B : Nat) (v : Value) (xs : List UInt8) : Prop := w.ownsRow B 5 1 v xs.length (cb xs)
theorem Ow.sb {w : World} {B : Nat} {v : Value} {xs : List UInt8} (h : Ow w B v xs) : Sb w v xs := by
 rcases h.2 with ⟨rfl, h0⟩ | ⟨g, cap, cur, rfl, _, hg, hnc, hcm, _, _⟩
 · have : xs = [] := List.eq_nil_of_length_eq_zero h0
   subst this
   exact ⟨none, 0, rfl, by simp, by simp, fun _ => ⟨rfl, rfl⟩, fun _ e => by cases e⟩
 refine ⟨_, cap, rfl, hnc, hcm, fun e => ?_, fun ad e => ?_⟩
 · cases e
 obtain rfl := Option.some.inj e
 exact ⟨fun _ => rfl, World.ownsRow.cells h rfl⟩
theorem cb_one (l : List UInt8) : ∀ u ∈ cb l, u.oneCell' = true := fun u hu => by
 obtain ⟨c, _, rfl⟩ := List.mem_map.1 hu
 rfl
theorem own_empty (w : World) : Ow (w.alloc (.cells #[] 5)) w.heap.size (.slice (some ⟨w.heap.size, 0, none⟩) 0 0) [] :=
 ⟨rfl, .inr ⟨w.heap.size, 0, #[], rfl, Nat.le_refl _, heap_alloc_new w _, Nat.le_refl _, by simp [maxLen], rfl, rfl⟩⟩
theorem up_grownBy {a b c : World} {row : Option Nat} (h : Up a b) (k : b.grownBy c row) (hr : ∀ g, row = some g → a.heap.size ≤ g) : Up a c :=
 ⟨k.os.trans h.os, k.tape.trans h.tape, k.output.trans h.output, Nat.le_trans h.size k.size, fun j hj => (k.block j (Nat.lt_of_lt_of_le hj h.size) (fun e => by have := hr j e.symm; omega)).trans (h.block j hj)⟩
def At (w : World) (b : Nat) (t : TypeId) (cs : List Value) : Prop := w.heap[b]? = some (.cells cs.toArray t)
theorem lt_of_at {w : World} {k : Nat} {o : Obj} (h : w.heap[k]? = some o) : k < w.heap.size := (Array.getElem?_eq_some_iff.1 h).1
theorem At.up {w w' : World} {b : Nat} {t : TypeId} {cs : List Value} (h : At w b t cs) (k : Up w w') : At w' b t cs := by
 unfold At
 rw [k.block b (lt_of_at h)]; exact h
theorem at_new (w : World) (t : TypeId) (cs : List Value) : At (w.alloc (.cells cs.toArray t)) w.heap.size t cs := by
 show (w.heap.push _)[w.heap.size]? = _
 simp
theorem At.cell {w : World} {b : Nat} {t : TypeId} {cs : List Value} (h : At w b t cs) {i : Nat} {v : Value} (hi : cs[i]? = some v) : w.cell? ⟨b, i, none⟩ = some v := by
 rw [cell_of_row w b i cs.toArray _ (0, 0) h]
 simpa using hi
theorem At.thaw {w : World} {b : Nat} {t : TypeId} {cs : List Value} (h : At w b t cs) (i : Nat) : w.frozen? ⟨b, i, none⟩ = false := by
 have h' : w.heap[b]? = some (.cells cs.toArray t (0, 0)) := h
 simp [World.frozen?, h']
theorem At.set {w : World} {b : Nat} {t : TypeId} {cs : List Value} (h : At w b t cs) (i : Nat) (v : Value) : At (w.setCell ⟨b, i, none⟩ v) b t (cs.set i v) := by
 have h1 := heap_setCell_same w b i _ t v h
 unfold At
 rw [h1]
 simp
theorem grown_set (w : World) (p : Addr) (v : Value) : w.grownBy (w.setCell p v) (some p.block) := ⟨rfl, rfl, rfl, by simp, fun k _ hk => by
 have hne : ¬ p.block = k := fun e => hk (by rw [e])
 simp only [World.setCell]
 split <;> simp [Array.getElem?_modify, hne]⟩
theorem grown_trans {a b c : World} {row : Option Nat} (h : a.grownBy b row) (k : b.grownBy c row) : a.grownBy c row := ⟨k.os.trans h.os, k.tape.trans h.tape, k.output.trans h.output, Nat.le_trans h.size k.size, fun i hi hr => (k.block i (Nat.lt_of_lt_of_le hi h.size) hr).trans (h.block i hi hr)⟩
theorem up_grown {a b c : World} {row : Option Nat} (h : Up a b) (k : b.grownBy c row) : a.grownBy c row := ⟨k.os.trans h.os, k.tape.trans h.tape, k.output.trans h.output, Nat.le_trans h.size k.size, fun i hi hr => (k.block i (Nat.lt_of_lt_of_le hi h.size) hr).trans (h.block i hi)⟩
theorem grown_refl (a : World) (row : Option Nat) : a.grownBy a row := ⟨rfl, rfl, rfl, Nat.le_refl _, fun _ _ _ => rfl⟩
theorem Up.by {w0 w w' : World} {row : Option Nat} (h : Up w0 w) (hg : w.grownBy w' row) (hr : ∀ g, row = some g → w0.heap.size ≤ g) : Up w0 w' := Below.trans h ((Below.refl _ w).grown hg h.size hr)
theorem At.by {w w' : World} {b : Nat} {t : TypeId} {cs : List Value} {row : Option Nat} (h : At w b t cs) (hg : w.grownBy w' row) (hr : row ≠ some b) : At w' b t cs := by
 unfold At
 rw [hg.block b (lt_of_at h) (fun e => hr e.symm)]; exact h
theorem At.range {w : World} {b : Nat} {t : TypeId} {cs : List Value} (h : At w b t cs) : w.rangeAt b 0 cs := fun j v hj => by
 rw [Nat.zero_add]; exact h.cell hj
theorem alloc_size (w : World) (o : Obj) : (w.alloc o).heap.size = w.heap.size + 1 := by
 show (w.heap.push o).size = _
 simp
theorem At.there {w : World} {b : Nat} {t : TypeId} {cs : List Value} (h : At w b t cs) : w.there b 0 cs.length := fun j hj => by
 rw [Nat.zero_add]
 exact ⟨by rw [h.cell (List.getElem?_eq_getElem hj)]; rfl, h.thaw j⟩
theorem at_sets {b : Nat} {t : TypeId} : ∀ (vs : List Value) (o : Nat) {w : World} {cs : List Value}, At w b t cs → o + vs.length ≤ cs.length → At (w.setCells b o vs) b t (cs.take o ++ vs ++ cs.drop (o + vs.length))
 | [], o, w, cs, h, _ => by simpa [World.setCells] using h
 | v :: r, o, w, cs, h, hl => by
  have := at_sets r (o + 1) (h.set o v) (by simp at hl ⊢; omega)
  show At ((w.setCell ⟨b, o, none⟩ v).setCells b (o + 1) r) b t _
  have e : (cs.set o v).take (o + 1) ++ r ++ (cs.set o v).drop (o + 1 + r.length) = cs.take o ++ (v :: r) ++ cs.drop (o + (v :: r).length) := by
   simp only [List.length_cons] at hl ⊢
   rw [List.take_set, List.drop_set, if_pos (by omega), List.take_succ_eq_append_getElem (by omega)]
   rw [List.set_append, if_neg (by simp; omega)]
   simp [Nat.min_eq_left (by omega : o ≤ cs.length)]
   rw [show o + 1 + r.length = o + (r.length + 1) by omega]
  rw [e] at this
  exact this
theorem At.sets {w : World} {b : Nat} {t : TypeId} {cs vs : List Value} (h : At w b t cs) (hl : vs.length = cs.length) : At (w.setCells b 0 vs) b t vs := by
 have := at_sets vs 0 h (by omega)
 simpa [hl] using this
theorem grown_sets (b : Nat) : ∀ (vs : List Value) (o : Nat) (w : World), w.grownBy (w.setCells b o vs) (some b)
 | [], _, w => grown_refl w _
 | v :: r, o, w => grown_trans (grown_set w ⟨b, o, none⟩ v) (grown_sets b r (o + 1) _)
theorem wpList_store_at {P : Program} {ops : Array Oper} {rest : List Oper} {op : Oper} {a : Act} {w : World} {Q : Exit → Act → World → Prop} (hgd : op.guard = none) (ty : TypeId) (x y : Operand) (ho : op.op = .store ty x y)
  (b : Nat) {t : TypeId} {cs : List Value} (hA : At w b t cs) (vs : List Value) (hx : a.eval x = .pointer (some ⟨b, 0, none⟩)) (hy : a.eval y = .agg vs.toArray) (hl : vs.length = cs.length)
  (hi : (P.info? ty).map (·.size) = some vs.toArray.size) (h1 : vs.toArray.all (·.oneCell') = true)
  (h : ∀ w2, At w2 b t vs → w.grownBy w2 (some b) → wpList P ops Q rest (a.put op.dst undef) w2) : wpList P ops Q (op :: rest) a w :=
 wpList_store_mid hgd ty x y ho b 0 vs.toArray hx hy (by have := hA.there; rw [← hl] at this; simpa using this) hi h1 (h _ (hA.sets hl) (grown_sets b _ _ _))
theorem grown_at (w : World) (b i : Nat) (v : Value) : w.grownBy (w.setCell ⟨b, i, none⟩ v) (some b) := grown_set w ⟨b, i, none⟩ v
abbrev Once (A : Act) (W : World) : Exit → Act → World → Prop
 | .normal, a, w => a = A ∧ w = W
 | _, _, _ => False
theorem wp_once {P : Program} {c : Code} {Q : Exit → Act → World → Prop} {a : Act} {w : World} (A : Act) (W : World) (h : c.wp P (Once A W) a w) (k : Q Exit.normal A W) : c.wp P Q a w :=
 Code.wp_mono (fun e a' w' h => by
  cases e with
  | normal => obtain ⟨rfl, rfl⟩ := h; exact k
  | _ => exact h.elim) h
theorem At.ne {w : World} {a b : Nat} {t t' : TypeId} {cs cs' : List Value} (h : At w a t cs) (k : At w b t' cs') (ht : t ≠ t') : a ≠ b := fun e => by
 subst e
 unfold At at h k
 rw [h] at k
 injection k with k
 injection k with _ k
 exact ht k
theorem own_ne {w : World} {B n m b : Nat} {e t : TypeId} {v : Value} {xs cs : List Value} (h : w.ownsRow B e m v n xs) (k : At w b t cs) (ht : e ≠ t) : v.ownBlock ≠ some b := fun hb => by
 rcases h.2 with ⟨rfl, _⟩ | ⟨g, cap, cur, rfl, _, hg, _⟩
 · cases hb
 obtain rfl : g = b := Option.some.inj hb
 unfold At at k
 rw [hg] at k
 injection k with k
 injection k with _ k
 exact ht k
theorem own_apart {w : World} {B B' n n' m m' g : Nat} {e e' : TypeId} {v v' : Value} {xs xs' : List Value} (h : w.ownsRow B e m v n xs) (k : w.ownsRow B' e' m' v' n' xs') (ht : e ≠ e') (hg : v.ownBlock = some g) : v'.ownBlock ≠ some g := fun hb => by
 rcases h.2 with ⟨rfl, _⟩ | ⟨g1, cap, cur, rfl, _, h1, _⟩
 · cases hg
 rcases k.2 with ⟨rfl, _⟩ | ⟨g2, cap2, cur2, rfl, _, h2, _⟩
 · cases hb
 obtain rfl : g1 = g := Option.some.inj hg
 obtain rfl : g2 = g1 := Option.some.inj hb
 rw [h1] at h2
 injection h2 with h2
 injection h2 with _ h2
 exact ht h2
structure Fr (S : Nat → Prop) (w w' : World) : Prop where
 os : w'.os = w.os
 tape : w'.tape = w.tape
 output : w'.output = w.output
 size : w.heap.size ≤ w'.heap.size
 block : ∀ k, k < w.heap.size → ¬ S k → w'.heap[k]? = w.heap[k]?
theorem Fr.refl (S : Nat → Prop) (w : World) : Fr S w w := ⟨rfl, rfl, rfl, Nat.le_refl _, fun _ _ _ => rfl⟩
theorem Fr.by {S : Nat → Prop} {a b c : World} {row : Option Nat} (h : Fr S a b) (k : b.grownBy c row) (hr : ∀ g, row = some g → S g ∨ a.heap.size ≤ g) : Fr S a c :=
 ⟨k.os.trans h.os, k.tape.trans h.tape, k.output.trans h.output, Nat.le_trans h.size k.size, fun j hj hS => (k.block j (Nat.lt_of_lt_of_le hj h.size) (fun e => by
  rcases hr j e.symm with h1 | h1
  · exact hS h1
  omega)).trans (h.block j hj hS)⟩
theorem Fr.up {S : Nat → Prop} {a b c : World} (h : Fr S a b) (k : Up b c) : Fr S a c :=
 ⟨k.os.trans h.os, k.tape.trans h.tape, k.output.trans h.output, Nat.le_trans h.size k.size, fun j hj hS => (k.block j (Nat.lt_of_lt_of_le hj h.size)).trans (h.block j hj hS)⟩
theorem Fr.trans {S : Nat → Prop} {a b c : World} {T : Nat → Prop} (h : Fr S a b) (k : Fr T b c) (hT : ∀ g, T g → S g ∨ a.heap.size ≤ g) : Fr S a c :=
 ⟨k.os.trans h.os, k.tape.trans h.tape, k.output.trans h.output, Nat.le_trans h.size k.size, fun j hj hS => (k.block j (Nat.lt_of_lt_of_le hj h.size) (fun e => by
  rcases hT j e with h1 | h1
  · exact hS h1
  omega)).trans (h.block j hj hS)⟩
theorem Fr.at {S : Nat → Prop} {w w' : World} {b : Nat} {t : TypeId} {cs : List Value} (h : Fr S w w') (k : At w b t cs) (hS : ¬ S b) : At w' b t cs := by
 unfold At
 rw [h.block b (lt_of_at k) hS]
 exact k
theorem Fr.own {S : Nat → Prop} {w w' : World} {B n m : Nat} {e : TypeId} {v : Value} {xs : List Value} (h : Fr S w w') (k : w.ownsRow B e m v n xs) (hS : ∀ g, v.ownBlock = some g → ¬ S g) : w'.ownsRow B e m v n xs := by
 have hl := k.lt
 refine ⟨k.1, ?_⟩
 rcases k.2 with e | ⟨g, cap, cur, rfl, hb, hg, r⟩
 · exact .inl e
 exact .inr ⟨g, cap, cur, rfl, hb, (h.block g (hl g rfl).2 (hS g rfl)).trans hg, r⟩
theorem ow_up {w w' : World} {B n m : Nat} {e : TypeId} {v : Value} {xs : List Value} (k : w.ownsRow B e m v n xs) (h : Up w w') : w'.ownsRow B e m v n xs := by
 have hl := k.lt
 refine ⟨k.1, ?_⟩
 rcases k.2 with e | ⟨g, cap, cur, rfl, hb, hg, r⟩
 · exact .inl e
 exact .inr ⟨g, cap, cur, rfl, hb, (h.block g (hl g rfl).2).trans hg, r⟩
theorem ow_base {w : World} {B B' n m : Nat} {e : TypeId} {v : Value} {xs : List Value} (k : w.ownsRow B e m v n xs) (h : B' ≤ B) : w.ownsRow B' e m v n xs := by
 refine ⟨k.1, ?_⟩
 rcases k.2 with e | ⟨g, cap, cur, rfl, hb, r⟩
 · exact .inl e
 exact .inr ⟨g, cap, cur, rfl, Nat.le_trans h hb, r⟩
theorem conv_sb2 {w : World} {v : Value} {l : List UInt8} (h : Sb w v l) : (convert 22 9 v).run Tryz.prog w = .ok (.string ⟨l.toArray⟩) w := by
 obtain ⟨a, c, rfl, _, _, h3, h4⟩ := h
 cases a with
 | none =>
  obtain ⟨rfl, rfl⟩ := h3 rfl
  exact run_convert_bytes_nil w 22 5 Tryz.underlying22 Tryz.underlying5 _ _ 9 Tryz.underlying9
 | some ad =>
  exact run_convert_bytes_back w 22 9 5 ad c l Tryz.underlying22 Tryz.underlying5 Tryz.underlying9 (fun j hj => (h4 ad rfl).2 j _ (cb_get hj))
theorem range_up {w w' : World} {p off : Nat} {cs : List Value} (h : w.rangeAt p off cs) (g : Up w w') : w'.rangeAt p off cs := fun j v hv => g.cell (h j v hv)
theorem wpList_val7 {ops : Array Oper} {Q : Exit → Act → World → Prop} {rest : List Oper} {o : Oper} {a : Act} {w : World} (v : Value) (hgd : o.guard = none) (hy : (execOp a.eval o).run Tryz.prog w = .ok (.value v) w)
  (h : wpList Tryz.prog ops Q rest (a.put o.dst v) w) : wpList Tryz.prog ops Q (o :: rest) a w :=
 wpList_plain hgd fun K hK => by
  unfold Oper.wp
  rw [hy]
  exact hK _ _ h
theorem row_len {w : World} {B n : Nat} {e : TypeId} {v : Value} {xs : List Value} (h : w.ownsRow B e 1 v n xs) : ∃ a c, v = .slice a n c := by
 rcases h.2 with ⟨e1, h0⟩ | ⟨g, cap, cur, e1, _⟩
 · exact ⟨none, 0, by rw [e1, h0]⟩
 exact ⟨_, cap, e1⟩
theorem own_off {w : World} {B B' n n' m m' : Nat} {e e' : TypeId} {v v' : Value} {xs xs' : List Value} (h : w.ownsRow B e m v n xs) (k : w.ownsRow B' e' m' v' n' xs') (ht : e ≠ e') : v.ownBlock = none ∨ v.ownBlock ≠ v'.ownBlock := by
 cases hv : v.ownBlock with
 | none => exact .inl rfl
 | some g => exact .inr (fun e0 => own_apart h k ht hv e0.symm)
theorem cb_snoc (xs : List UInt8) (x : UInt8) : cb (xs ++ [x]) = cb xs ++ [.int .u8 (x.toNat : Int)] := by simp [cb]
def onto (K : Act → World → Prop) : Exit → Act → World → Prop
 | .normal, a, w => K a w
 | _, _, _ => False
theorem oper_of_list {P : Program} {ops : Array Oper} {Q : Exit → Act → World → Prop} {K : Act → World → Prop} {o : Oper} {a : Act} {w : World} (h : wpList P ops (onto K) [o] a w) : if Region.wanted o (yielded ops a.tmps) = true then Oper.wp P o a w K Q else K (a.put o.dst undef) w := by
 unfold wpList at h
 split
 · rename_i hw
   rw [if_pos hw] at h
   rcases h with h | ⟨_, ⟨_, _, h⟩⟩
   · have e : wpList P ops (onto K) [] = K := rfl
     rw [e] at h
     unfold Oper.wp at *
     generalize (execOp a.eval o).run P w = r at *
     cases r with
     | ok n w' =>
      cases n <;> simp only [Oper.upon] at h ⊢
      case value u => exact h
      case skip => exact h
      case defer d => exact h
      case enter f args =>
       refine Calls.mono h fun e w'' he => ?_
       cases e with
       | returned u => exact he
       | panicked c => exact he.elim
       | outgrown =>
        obtain ⟨_, _, h⟩ := he
        exact h.elim
      case row row args => exact h
     | halt x w' =>
      cases x <;> simp only [Oper.upon] at h ⊢
      case panic u => exact h.elim
   exact h.elim
 rename_i hw
 rw [if_neg hw] at h
 exact h
section
variable {P : Program} {ops : Array Oper} {Q : Exit → Act → World → Prop} {md : Region.Mode} {S : World → Prop} {fuel : Nat} {listed : Array Bool} {a : Act} {w : World}
abbrev eD (n : Nat) : Edge := ⟨n, .data⟩
abbrev eC (n : Nat) : Edge := ⟨n, .chain⟩
abbrev eF (n : Nat) : Edge := ⟨n, .phase⟩
abbrev eG (n : Nat) : Edge := ⟨n, .guard⟩
abbrev eT (n : Nat) (d : Departure) : Edge := ⟨n, .textOnly d⟩
abbrev eO (n : Nat) (d : Departure) : Edge := ⟨n, .gcOnly d⟩
theorem ops_at {i : Nat} {d : Option Tmp} {op : Op} {ty : TypeId} (hi : (ops[i]?).map (fun o => (o.dst, o.op, o.type, o.guard)) = some (d, op, ty, none)) : ∃ p af, ops[i]? = some ⟨d, op, ty, p, af, none⟩ := by
 cases ho : ops[i]? with
 | none => rw [ho] at hi; simp at hi
 | some o =>
  obtain ⟨od, oo, ot, op', oa, og⟩ := o
  rw [ho] at hi
  simp only [Option.map_some, Option.some.injEq, Prod.mk.injEq] at hi
  obtain ⟨rfl, rfl, rfl, rfl⟩ := hi
  exact ⟨_, _, rfl⟩
theorem tK (i : Nat) (d : Option Tmp) (op : Op) (ty : TypeId) (v : Value) (hS : S w)
  (hy : ∀ p af w, S w → (execOp a.eval ⟨d, op, ty, p, af, none⟩).run P w = .ok (.value v) w)
  (h : wpAnyH P md ops Q S fuel (listed.setIfInBounds i true) (a.put d v) w)
  (hi : (ops[i]?).map (fun o => (o.dst, o.op, o.type, o.guard)) = some (d, op, ty, none) := by kernel_rfl)
  (hs : Region.noSelect ops = true := by kernel_rfl) (hf : Region.free md ops listed i = true := by kernel_rfl) (hr : (Region.ready md ops listed).contains i = true := by kernel_rfl)
  (hQ : ∀ c a w, Q (.panic c) (a.put d v) w → Q (.panic c) a w := by exact fun _ _ _ h => h) : wpAnyH P md ops Q S (fuel + 1) listed a w := by
 obtain ⟨p, af, ho⟩ := ops_at hi
 exact wpAnyH_take ho hs hf hr hQ (Or.inl ⟨rfl, hy p af⟩) hS h
theorem tN (i : Nat) (d : Option Tmp) (op : Op) (ty : TypeId) (v : Value) (hS : S w)
  (h : wpAnyH P md ops Q S fuel (listed.setIfInBounds i true) (a.put d v) w)
  (hy : ∀ p af w, (execOp a.eval ⟨d, op, ty, p, af, none⟩).run P w = .ok (.value v) w := by clear hS; intro _ _ _; go_simp)
  (hi : (ops[i]?).map (fun o => (o.dst, o.op, o.type, o.guard)) = some (d, op, ty, none) := by kernel_rfl)
  (hs : Region.noSelect ops = true := by kernel_rfl) (hf : Region.free md ops listed i = true := by kernel_rfl) (hr : (Region.ready md ops listed).contains i = true := by kernel_rfl)
  (hQ : ∀ c a w, Q (.panic c) (a.put d v) w → Q (.panic c) a w := by exact fun _ _ _ h => h) : wpAnyH P md ops Q S (fuel + 1) listed a w := by
 obtain ⟨p, af, ho⟩ := ops_at hi
 exact wpAnyH_take ho hs hf hr hQ (Or.inl ⟨rfl, fun w _ => hy p af w⟩) hS h
theorem rD (i : Nat) (d : Option Tmp) (op : Op) (ty : TypeId)
  (h : ∀ p af (K' : Act → World → Prop), Shut (∀ a w, S w → (S w → wpAnyH P md ops Q S fuel (listed.setIfInBounds i true) a w) → K' a w) → if Region.wanted ⟨d, op, ty, p, af, none⟩ (yielded ops a.tmps) = true then Oper.wp P ⟨d, op, ty, p, af, none⟩ a w K' Q else K' (a.put d undef) w)
  (hi : (ops[i]?).map (fun o => (o.dst, o.op, o.type, o.guard)) = some (d, op, ty, none) := by kernel_rfl)
  (hr : Region.ready md ops listed = [i] := by kernel_rfl) : wpAnyH P md ops Q S (fuel + 1) listed a w := by
 obtain ⟨p, af, ho⟩ := ops_at hi
 exact wpAnyH_ready hr (by simp) (AllReadyH.cons ho (h p af) AllReadyH.nil)
end
theorem pA (a : Act) (k : Tmp) (v : Value) : a.put (some k) v = { a with tmps := a.tmps.setIfInBounds k v } := rfl
theorem pB {α : Type} (l : List α) (i : Nat) (v : α) : l.toArray.setIfInBounds i v = (l.set i v).toArray := List.setIfInBounds_toArray _ _ _
theorem pC {α : Type} (x v : α) (l : List α) : (x :: l).set 0 v = v :: l := rfl
theorem pD {α : Type} (x v : α) (l : List α) (i : Nat) : (x :: l).set (i + 1) v = x :: l.set i v := rfl
theorem ny {α : Type} (x : α) : ∃ y, x = y := ⟨_, rfl⟩
theorem fk {α : Type} {a : Option α} {x y : α} (h : a = some x) (e : x = y := by kernel_rfl) : a = some y := h.trans (congrArg some e)
section
variable {P : Program} {ops : Array Oper} {Q : Exit → Act → World → Prop} {d : Option Tmp} {x y : Operand} {ty : TypeId} {p : String} {af : Array Edge} {g : Option (Nat × Bool)} {l : List Oper} {a : Act} {w : World} {n : Nat} {xs : Array Operand} {ts : Array TypeId}
theorem sL (t : TypeId) (h : Shut (wpList P ops Q (⟨d, .load t x, ty, p, af, g⟩ :: l) a w)) : wpList P ops Q (⟨d, .load t x, ty, p, af, g⟩ :: l) a w := h
theorem sS (t : TypeId) (h : Shut (wpList P ops Q (⟨d, .store t x y, ty, p, af, g⟩ :: l) a w)) : wpList P ops Q (⟨d, .store t x y, ty, p, af, g⟩ :: l) a w := h
theorem sI (t : TypeId) (h : Shut (wpList P ops Q (⟨d, .indexAddr t x y, ty, p, af, g⟩ :: l) a w)) : wpList P ops Q (⟨d, .indexAddr t x y, ty, p, af, g⟩ :: l) a w := h
theorem sF (t : TypeId) (h : Shut (wpList P ops Q (⟨d, .fieldAddr t x n, ty, p, af, g⟩ :: l) a w)) : wpList P ops Q (⟨d, .fieldAddr t x n, ty, p, af, g⟩ :: l) a w := h
theorem sA (h : Shut (wpList P ops Q (⟨d, .call ⟨.builtin .append, xs, ts⟩, ty, p, af, g⟩ :: l) a w)) : wpList P ops Q (⟨d, .call ⟨.builtin .append, xs, ts⟩, ty, p, af, g⟩ :: l) a w := h
end
theorem spl {P : Program} {ops : Array Oper} {Q : Exit → Act → World → Prop} {l : List Oper} {a : Act} {w : World} {T : TypeId} {L : List Value} (h : ∀ w1, Hd (At w1 w.heap.size T L) → Hd (Up w w1) → wpList P ops Q l a w1) : wpList P ops Q l a (w.alloc (.cells L.toArray T)) :=
 h _ (Ho (at_new w T L)) (Ho ((Up.refl w).alloc _))
theorem spz {P : Program} {ops : Array Oper} {Q : Exit → Act → World → Prop} {l : List Oper} {a : Act} {w : World} {T : TypeId} {L : List Value} (h : ∀ w1, Hd (At w1 w.heap.size T L) → Hd (Up w w1) → Hd (w.heap.size < w1.heap.size) → wpList P ops Q l a w1) : wpList P ops Q l a (w.alloc (.cells L.toArray T)) :=
 h _ (Ho (at_new w T L)) (Ho ((Up.refl w).alloc _)) (Ho (by rw [alloc_size]; omega))
theorem Up.bz {w0 w w' : World} {b : Nat} (h : Up w0 w) (hg : w.grownBy w' (some b)) (hr : w0.heap.size ≤ b := by omega) : Up w0 w' := h.by hg (fun g hg => by have := Option.some.inj hg; omega)
end Go.Proofs.YtehnnlhoajdcaaaGreatDoor
