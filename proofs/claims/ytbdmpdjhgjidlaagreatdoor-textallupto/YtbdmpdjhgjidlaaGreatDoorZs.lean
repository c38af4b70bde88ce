import Derived.Test.YtbdmpdjhgjidlaaGreatDoorLy
import Derived.Test.YtbdmpdjhgjidlaaGreatDoorTa
namespace Go.Proofs.YtbdmpdjhgjidlaaGreatDoor
open Go.RowKit Go.Shelf TextNum
def cst (xs : List (List UInt8)) : List Value := xs.map fun l => Value.string ⟨l.toArray⟩
theorem cst_get {xs : List (List UInt8)} {i : Nat} (h : i < xs.length) : (cst xs)[i]? = some (.string ⟨xs[i].toArray⟩) := by simp [cst, h]
theorem cst_one (xs : List (List UInt8)) : ∀ u ∈ cst xs, u.oneCell' = true := by
  intro u hu
  obtain ⟨c, _, rfl⟩ := List.mem_map.1 hu
  rfl
theorem ownS_nil (w : World) (B : Nat) : OwnS w B (.slice none 0 0) [] := World.ownsRow_nil w B 9 1
theorem OwnS.up {w w' : World} {B : Nat} {v : Value} {xs : List (List UInt8)} (h : OwnS w B v xs) (k : Up w w') : OwnS w' B v xs := by
  refine ⟨h.1, ?_⟩
  rcases h.2 with e | ⟨g, cap, cur, e, hbg, hg, r⟩
  · exact .inl e
  · exact .inr ⟨g, cap, cur, e, hbg, (k.block g (Array.getElem?_eq_some_iff.1 hg).1).trans hg, r⟩
/-- a list of texts that is read -/
def SlS (w : World) (v : Value) (xs : List (List UInt8)) : Prop := ∃ a c, v = .slice a xs.length c ∧ xs.length ≤ c ∧ (xs = [] ∨ ∃ b off, a = some ⟨b, off, none⟩ ∧ b < w.heap.size ∧ ∀ i (h : i < xs.length), w.cell? ⟨b, off + i, none⟩ = some (.string ⟨xs[i].toArray⟩))
theorem SlS.up {w w' : World} {v : Value} {xs : List (List UInt8)} (h : SlS w v xs) (k : Up w w') : SlS w' v xs := by
  obtain ⟨a, c, e, hc0, h⟩ := h
  refine ⟨a, c, e, hc0, ?_⟩
  rcases h with h | ⟨b, off, e2, hb, hc⟩
  · exact .inl h
  · exact .inr ⟨b, off, e2, Nat.lt_of_lt_of_le hb k.size, fun i hi => k.cell (hc i hi)⟩
theorem slS_nil (w : World) : SlS w (.slice none 0 0) [] := ⟨none, 0, rfl, Nat.le_refl _, .inl rfl⟩
theorem OwnS.sl {w : World} {B : Nat} {v : Value} {xs : List (List UInt8)} (h : OwnS w B v xs) : SlS w v xs := by
  have h2 := h.2
  rcases h2 with ⟨rfl, e⟩ | ⟨g, cap, cur, rfl, hbg, hg, hnc, _⟩
  · have hl : xs = [] := List.eq_nil_of_length_eq_zero e
    subst hl
    exact slS_nil w
  · refine ⟨_, _, rfl, hnc, .inr ⟨g, 0, rfl, ?_, fun i hi => ?_⟩⟩
    · exact (World.ownsRow.lt h g rfl).2
    · have := World.ownsRow.cells h (g := g) rfl i _ (cst_get hi)
      rwa [add_plain] at this
theorem SlS.take {w : World} {a : Option Addr} {n c k : Nat} {xs : List (List UInt8)} (h : SlS w (.slice a n c) xs) (hk : k ≤ xs.length) : SlS w (.slice a k c) (xs.take k) := by
  obtain ⟨a', c', e, hc, h⟩ := h
  cases e
  refine ⟨a, c, by rw [List.length_take, Nat.min_eq_left hk], by rw [List.length_take]; omega, ?_⟩
  rcases h with rfl | ⟨b, off, rfl, hb, hcell⟩
  · exact .inl (by simp)
  · exact .inr ⟨b, off, rfl, hb, fun i hi => by
      have hi' : i < xs.length := by rw [List.length_take] at hi; omega
      rw [hcell i hi', List.getElem_take]⟩
theorem wpList_appS {ops : Array Oper} {rest : List Oper} {o : Oper} {a : Act} {w : World} {t : TypeId} {Q : Exit → Act → World → Prop} (hgd : o.guard = none) (s x : Operand)
    (ho : o.op = .call { callee := .builtin .append, args := #[s, x], argTypes := #[63, 63] }) (B : Nat) (v : Value) (xs : List (List UInt8)) (y : List UInt8) (hs : a.eval s = v) (hown : OwnS w B v xs)
    (c : Nat) (hx : a.eval x = .slice (some ⟨w.heap.size, 0, none⟩) 1 c) (hn : xs.length + 1 ≤ 1099511627776) (hB : B ≤ w.heap.size)
    (h : ∀ v' w', OwnS w' B v' (xs ++ [y]) → Below B w w' → wpList Tryz.prog ops Q rest (a.put o.dst v') w') : wpList Tryz.prog ops Q (o :: rest) a (w.alloc (.cells (cst [y]).toArray t)) := by
  obtain ⟨i0, hi, hz0, hz1, hz2⟩ := info_parts Tryz.infoStr
  refine wpList_append_own _ hgd s x 63 ho B 9 i0 (.string ⟨#[]⟩) 1 16 Tryz.underlying63 hi hz0 hz1 hz2 rfl (by decide) v xs.length (cst xs) hs (OwnS.up hown ((Up.refl w).alloc _)) ⟨w.heap.size, 0, none⟩ 1 c (cst [y]) hx (by simp [cst]) (cells_new w t (cst [y])) (cst_one [y]) (by unfold maxLen; omega) (by omega) (by simp; omega) ?_
  intro v' w' h1 h2 _
  refine h v' w' ?_ (((Below.refl B w).alloc hB _).trans ((Below.refl B _).grown h2 (by simp; omega) (fun k hk => (World.ownsRow.lt hown k hk).1)))
  unfold OwnS
  rw [List.length_append, List.map_append]
  exact h1
set_option maxRecDepth 100000 in
theorem sameLines_walk (v1 v2 : Value) (xs : List (List UInt8)) (w : World) (h1 : SlS w v1 xs) (h2 : SlS w v2 xs) (hl : xs.length ≤ 1099511627776) :
    Calls Tryz.prog 43 #[v1, v2] w fun e w' => e = .returned (.bool true) ∧ Up w w' := by
  have HC : Hid (∀ i (hi : i < xs.length), ∃ g1 o1 c1 g2 o2 c2, v1 = .slice (some ⟨g1, o1, none⟩) xs.length c1 ∧ v2 = .slice (some ⟨g2, o2, none⟩) xs.length c2 ∧ w.cell? ⟨g1, o1 + i, none⟩ = some (.string ⟨xs[i].toArray⟩) ∧ w.cell? ⟨g2, o2 + i, none⟩ = some (.string ⟨xs[i].toArray⟩)) := by
    intro i hi
    obtain ⟨a1, c1, e1, _, hh1⟩ := h1
    obtain ⟨a2, c2, e2, _, hh2⟩ := h2
    rcases hh1 with rfl | ⟨g1, o1, rfl, _, k1⟩
    · simp at hi
    · rcases hh2 with rfl | ⟨g2, o2, rfl, _, k2⟩
      · simp at hi
      · exact ⟨g1, o1, c1, g2, o2, c2, e1, e2, k1 i hi, k2 i hi⟩
  obtain ⟨a1, c1, rfl, _⟩ := h1
  obtain ⟨a2, c2, rfl, _⟩ := h2
  go_enter Tryz.func43, Tryz.ntmps43
  go_wp2
  go_loopw [5] (fun v5 wr => ∃ i : Nat, v5 = .int .i64 (i : Int) ∧ i ≤ xs.length ∧ Hid (Up w wr)) (fun v5 _ => xs.length - (intOf v5).toNat)
  case atStart => exact ⟨0, rfl, by omega, Up.refl _⟩
  case round =>
    obtain ⟨i, rfl, hi, hU⟩ := hrel
    by_cases hlt : i < xs.length
    · have hlt' : (i : Int) < (xs.length : Int) := by omega
      obtain ⟨g1, o1, d1, g2, o2, d2, e1, e2, k1, k2⟩ := HC.out i hlt
      injection e1 with e1 _ e1'
      injection e2 with e2 _ e2'
      subst e1 e1' e2 e2'
      have q1 := hU.out.cell k1
      have q2 := hU.out.cell k2
      clear k1 k2
      generalize (⟨xs[i].toArray⟩ : ByteArray) = x at *
      go_wp2
      go_quiet (fail)
      go_wp2
      go_roundw
      case rel => exact ⟨i + 1, by go_num, by omega, hU.out.drewN _⟩
      case measure => simp [intOf]; omega
    · obtain rfl : i = xs.length := by omega
      go_wp2
      go_ret
      exact ⟨rfl, hU.out⟩
end Go.Proofs.YtbdmpdjhgjidlaaGreatDoor
