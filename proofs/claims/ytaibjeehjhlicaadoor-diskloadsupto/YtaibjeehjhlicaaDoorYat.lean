import Derived.Test.YtaibjeehjhlicaaDoorYai
import Derived.Test.YtaibjeehjhlicaaDoorSs
import Derived.Maps.RangeWalk
import Derived.Lib.ItoaMem
namespace Go.Proofs.YtaibjeehjhlicaaDoor
open Go.RowKit Go.Shelf TextNum ModNum Go.Sort
theorem Tryd.infoStr : (Tryd.prog.info? 9).map (fun i => (i.zero, i.size, i.bytes)) = some (some (.string ⟨#[]⟩), 1, 16) := by kernel_rfl
abbrev OwS (w : World) (B : Nat) (v : Value) (xs : List (List UInt8)) : Prop := w.ownsRow B 9 1 v xs.length (cst xs)
theorem Pre_walk (s p : ByteArray) (w : World) : Calls Tryd.prog 23 #[.string s, .string p] w fun e w' => e = .returned (.bool (pfx p.data.toList s.data.toList)) ∧ w' = w := Any.strings_HasPrefix Tryd.lays99 s p w
theorem OwS.sl {w : World} {B : Nat} {v : Value} {xs : List (List UInt8)} (h : OwS w B v xs) : SlS w v xs := by
  have hc := fun g hg => World.ownsRow.cells h (g := g) hg
  rcases h.2 with ⟨rfl, h0⟩ | ⟨g, cap, cur, rfl, _, hg, hnc, _, _, _⟩
  · have : xs = [] := List.eq_nil_of_length_eq_zero h0
    subst this
    exact slS_nil w
  · refine ⟨_, cap, rfl, hnc, .inr ⟨g, 0, rfl, (Array.getElem?_eq_some_iff.1 hg).1, fun i hi => ?_⟩⟩
    have := hc g rfl i _ (cst_get hi)
    rw [Addr.add_lit] at this
    exact this
/-- slices.Sort of an owned list of texts: what is read then -/
theorem Sort_walk (B : Nat) (v : Value) (xs : List (List UInt8)) (w : World) (h : OwS w B v xs) (hl : xs.length ≤ 1099511627776) :
    Calls Tryd.prog 24 #[v] w fun e w' => e = .returned (.tuple #[]) ∧ SlS w' v (xs.mergeSort fun x y => decide (x ≤ y)) ∧ w.grownBy w' v.ownBlock := by
  rcases h.2 with ⟨rfl, h0⟩ | ⟨g, cap, cur, rfl, hb, hg, hnc, hcm, hcs, ht⟩
  · have : xs = [] := List.eq_nil_of_length_eq_zero h0
    subst this
    refine (Any.slices_Sort_string_none Tryd.lays190 none 0 w).mono ?_
    rintro e w' ⟨rfl, rfl⟩
    exact ⟨rfl, by rw [List.mergeSort_nil]; exact slS_nil _, grown_refl _ _⟩
  · have hH : Go.Sort.Holds encStr w g 0 xs.toArray := fun j hj => by
      have hj1 : j < xs.length := by simpa using hj
      have h1 := World.ownsRow.cells h rfl j _ (cst_get hj1)
      rw [Addr.add_lit] at h1
      refine ⟨?_, by simp [World.frozen?, hg]⟩
      rw [h1]
      simp [hj1]
    have hlt : g < w.heap.size := (Array.getElem?_eq_some_iff.1 hg).1
    refine (Any.slices_Sort_string Tryd.lays190 g 0 cap xs w hH hlt (by omega)).mono ?_
    rintro e w' ⟨rfl, n, os, rfl⟩
    have hlen : (xs.mergeSort fun x y => decide (x ≤ y)).length = xs.length := List.length_mergeSort _
    have hup : Up (putRow encStr (Sort.ahead w n) g 0 (xs.mergeSort fun x y => decide (x ≤ y)).toArray) (Go.Sort.grow (putRow encStr (Sort.ahead w n) g 0 (xs.mergeSort fun x y => decide (x ≤ y)).toArray) os) :=
      ⟨rfl, rfl, rfl, by simp [Go.Sort.grow], fun k hk => heap_grow_old _ os hk⟩
    have hgb : w.grownBy (putRow encStr (Sort.ahead w n) g 0 (xs.mergeSort fun x y => decide (x ≤ y)).toArray) (some g) := ⟨rfl, rfl, rfl, by rw [size_putRow]; exact Nat.le_refl _, fun k hk hne => by
      have hne2 : ¬ g = k := fun e => hne (by rw [← e])
      simp [putRow, mapBlock, Array.getElem?_modify, hne2, Sort.ahead]⟩
    refine ⟨rfl, SlS.up (w := putRow encStr (Sort.ahead w n) g 0 (xs.mergeSort fun x y => decide (x ≤ y)).toArray) ⟨_, cap, by rw [hlen], by rw [hlen]; exact hnc, .inr ⟨g, 0, rfl, by rw [size_putRow]; exact hlt, fun i hi => ?_⟩⟩ hup, grown_up hgb hup⟩
    · have := cell?_putRow encStr (Sort.ahead w n) g 0 xs.toArray (xs.mergeSort fun x y => decide (x ≤ y)).toArray hH (by simp) i (by simpa using hi)
      rw [this]
      have hi2 : i < (xs.mergeSort fun x y => decide (x ≤ y)).toArray.size := by simpa using hi
      rw [getElem!_pos _ i hi2]
      simp
end Go.Proofs.YtaibjeehjhlicaaDoor
