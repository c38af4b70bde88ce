import Derived.Test.YtaphjbcnnkoffaaGreatDoorMk
import Derived.Laws.Cover3
namespace Go.Proofs.YtaphjbcnnkoffaaGreatDoor
open Go.RowKit Go.Shelf TextNum ModNum
/-- a struct in its block -/
def At (w : World) (b : Nat) (t : TypeId) (cs : List Value) : Prop := w.heap[b]? = some (.cells cs.toArray t)
theorem lt_of_at {w : World} {k : Nat} {o : Obj} (h : w.heap[k]? = some o) : k < w.heap.size := (Array.getElem?_eq_some_iff.1 h).1
theorem At.up {w w' : World} {b : Nat} {t : TypeId} {cs : List Value} (h : At w b t cs) (k : Up w w') : At w' b t cs := by
  unfold At
  rw [k.block b (lt_of_at h)]; exact h
theorem at_new (w : World) (t : TypeId) (cs : List Value) : At (w.alloc (.cells cs.toArray t)) w.heap.size t cs := by
  show (w.heap.push _)[w.heap.size]? = _
  simp
theorem At.cell {w : World} {b : Nat} {t : TypeId} {cs : List Value} (h : At w b t cs) {i : Nat} {v : Value} (hi : cs[i]? = some v) : w.cell? ⟨b, i, none⟩ = some v := by
  rw [cell_of_row w b i cs.toArray _ (0, 0) h]
  simpa using hi
theorem At.thaw {w : World} {b : Nat} {t : TypeId} {cs : List Value} (h : At w b t cs) (i : Nat) : w.frozen? ⟨b, i, none⟩ = false := by
  have h' : w.heap[b]? = some (.cells cs.toArray t (0, 0)) := h
  simp [World.frozen?, h']
theorem At.set {w : World} {b : Nat} {t : TypeId} {cs : List Value} (h : At w b t cs) (i : Nat) (v : Value) : At (w.setCell ⟨b, i, none⟩ v) b t (cs.set i v) := by
  have h1 := heap_setCell_same w b i _ t v h
  unfold At
  rw [h1]
  simp
theorem grown_set (w : World) (p : Addr) (v : Value) : w.grownBy (w.setCell p v) (some p.block) := ⟨rfl, rfl, rfl, by simp, fun k _ hk => by
  have hne : ¬ p.block = k := fun e => hk (by rw [e])
  simp only [World.setCell]
  split <;> simp [Array.getElem?_modify, hne]⟩
theorem grown_trans {a b c : World} {row : Option Nat} (h : a.grownBy b row) (k : b.grownBy c row) : a.grownBy c row := ⟨k.os.trans h.os, k.tape.trans h.tape, k.output.trans h.output, Nat.le_trans h.size k.size, fun i hi hr => (k.block i (Nat.lt_of_lt_of_le hi h.size) hr).trans (h.block i hi hr)⟩
theorem grown_up {a b c : World} {row : Option Nat} (h : a.grownBy b row) (k : Up b c) : a.grownBy c row := ⟨k.os.trans h.os, k.tape.trans h.tape, k.output.trans h.output, Nat.le_trans h.size k.size, fun i hi hr => (k.block i (Nat.lt_of_lt_of_le hi h.size)).trans (h.block i hi hr)⟩
theorem up_grown {a b c : World} {row : Option Nat} (h : Up a b) (k : b.grownBy c row) : a.grownBy c row := ⟨k.os.trans h.os, k.tape.trans h.tape, k.output.trans h.output, Nat.le_trans h.size k.size, fun i hi hr => (k.block i (Nat.lt_of_lt_of_le hi h.size) hr).trans (h.block i hi)⟩
theorem grown_refl (a : World) (row : Option Nat) : a.grownBy a row := ⟨rfl, rfl, rfl, Nat.le_refl _, fun _ _ _ => rfl⟩
theorem Up.by {w0 w w' : World} {row : Option Nat} (h : Up w0 w) (hg : w.grownBy w' row) (hr : ∀ g, row = some g → w0.heap.size ≤ g) : Up w0 w' := Below.trans h ((Below.refl _ w).grown hg h.size hr)
theorem At.by {w w' : World} {b : Nat} {t : TypeId} {cs : List Value} {row : Option Nat} (h : At w b t cs) (hg : w.grownBy w' row) (hr : row ≠ some b) : At w' b t cs := by
  unfold At
  rw [hg.block b (lt_of_at h) (fun e => hr e.symm)]; exact h
theorem SlS.by {w w' : World} {v : Value} {xs : List (List UInt8)} {row : Option Nat} (h : SlS w v xs) (hg : w.grownBy w' row) (hne : ∀ g, v.ownBlock = some g → row ≠ some g) : SlS w' v xs := by
  obtain ⟨a, c, rfl, hc0, h⟩ := h
  refine ⟨a, c, rfl, hc0, ?_⟩
  rcases h with h | ⟨b, off, rfl, hb, hc⟩
  · exact .inl h
  · refine .inr ⟨b, off, rfl, Nat.lt_of_lt_of_le hb hg.size, fun i hi => ?_⟩
    rw [← hc i hi]
    simp only [World.cell?]
    rw [hg.block b hb (fun e => hne b rfl e.symm)]
set_option maxRecDepth 100000 in
set_option maxHeartbeats 2000000 in
theorem takeNumbers_walk (s : ByteArray) (hs : s.size ≤ 1048576) (b : Nat) (x0 x1 x2 v i : Value) (w : World) (hG : GM w) (hA : At w b 107 [x0, x1, x2, v, i]) :
    Calls Tryz.prog 115 #[.pointer (some ⟨b, 0, none⟩), .string s] w fun e w' => e = .returned (.bool (decide ((pcs 46 s.data.toList).length = 3))) ∧ w.grownBy w' (some b) ∧ ∀ n0 n1 n2, pcs 46 s.data.toList = [n0, n1, n2] → At w' b 107 [.string ⟨n0.toArray⟩, .string ⟨n1.toArray⟩, .string ⟨n2.toArray⟩, v, i] := by
  have HS := Hid.of (Split_walk s 46 hs w hG)
  have HA := Hid.of hA
  have hpl := pcs_len 46 s.data.toList
  rw [len_of] at hpl
  clear hG hA
  generalize pcs 46 s.data.toList = es at *
  by_cases h3 : es.length = 3
  · obtain ⟨n0, n1, n2, rfl⟩ : ∃ n0 n1 n2, es = [n0, n1, n2] := by
      match es, h3 with
      | [a, b, c], _ => exact ⟨a, b, c, rfl⟩
    go_enter Tryz.func115, Tryz.ntmps115
    go_wp2_with fail
    refine HS.out.mono ?_
    rintro e w1 ⟨rfl, hS, u1⟩
    have HA1 := HA.out.up u1
    have c0 := HA1.cell (i := 0) rfl
    have c1 := HA1.cell (i := 1) rfl
    have c2 := HA1.cell (i := 2) rfl
    have t0 := HA1.thaw 0
    have t1 := HA1.thaw 1
    have t2 := HA1.thaw 2
    obtain ⟨b0, o0, e0, d0⟩ := hS.get (i := 0) (by simp)
    injection e0 with e0
    injection e0 with e1 e2
    subst e1 e2
    obtain ⟨b1, o1, e0, d1⟩ := hS.get (i := 1) (by simp)
    injection e0 with e0
    injection e0 with e1 e2
    subst e1 e2
    obtain ⟨b2, o2, e0, d2⟩ := hS.get (i := 2) (by simp)
    injection e0 with e0
    injection e0 with e1 e2
    subst e1 e2
    have H1 := Hid.of (And.intro HA1 u1)
    clear hS u1 HA1
    simp only [Nat.zero_add, List.getElem_cons_zero, List.getElem_cons_succ] at d0 d1 d2
    dsimp only
    have hat : ∀ w', (Instr.arrayAt 90 (.slice (some ⟨w.heap.size, 0, none⟩) 3 3)).run Tryz.prog w' = .ok (.pointer (some ⟨w.heap.size, 0, none⟩)) w' := fun w' => run_arrayAt w' 90 _ 3 _ 3 3 Tryz.underlying90 (Nat.le_refl _)
    go_wp2
    go_ret
    have hg : w1.grownBy (((w1.setCell ⟨b, 0, none⟩ (.string ⟨n0.toArray⟩)).setCell ⟨b, 1, none⟩ (.string ⟨n1.toArray⟩)).setCell ⟨b, 2, none⟩ (.string ⟨n2.toArray⟩)) (some b) := grown_trans (grown_trans (grown_set w1 ⟨b, 0, none⟩ _) (grown_set _ ⟨b, 1, none⟩ _)) (grown_set _ ⟨b, 2, none⟩ _)
    exact ⟨rfl, up_grown H1.out.2 hg, ((H1.out.1.set 0 _).set 1 _).set 2 _⟩
  · have h3z : ((es.length : Int) != 3) = true := by rw [bne_iff_ne]; omega
    have HF := Hid.of h3
    generalize hn : es.length = n at *
    have HNl := Hid.of (And.intro hn trivial)
    clear hn h3
    go_enter Tryz.func115, Tryz.ntmps115
    go_wp2_with fail
    refine HS.out.mono ?_
    rintro e w1 ⟨rfl, hS, u1⟩
    have H1 := Hid.of u1
    clear hS u1
    dsimp only
    go_wp2
    go_ret
    refine ⟨by rw [decide_eq_false HF.out]; rfl, up_grown H1.out (grown_refl _ _), fun m0 m1 m2 hm => ?_⟩
    exact absurd (by rw [← HNl.out.1, hm]; rfl) HF.out
end Go.Proofs.YtaphjbcnnkoffaaGreatDoor
