import Derived.Test.YtaphjbcnnkoffaaGreatDoorMf
namespace Go.Proofs.YtaphjbcnnkoffaaGreatDoor
open Go.RowKit Go.Shelf TextNum ModNum
theorem split_pcs (c : UInt8) (l : List UInt8) : Go.Lib.splitK [c] 0 (Go.Lib.count l [c]) l = pcs c l ∧ Go.Lib.count l [c] + 1 = (pcs c l).length := by
  induction hn : l.length using Nat.strongRecOn generalizing l with
  | _ n ih =>
    have hm := idx_mem l c
    rw [decide_eq_decide] at hm
    have hc := cut_one l c
    unfold Go.Lib.cut at hc
    by_cases h : c ∈ l
    · have h0 : 0 ≤ Go.Lib.index l [c] := by rw [Go.Lib.index_one]; exact hm.2 h
      rw [if_pos h0] at hc
      injection hc with h1 h2
      injection h2 with h2 _
      obtain ⟨o, ho⟩ : ∃ o : Nat, Go.Lib.index l [c] = o := ⟨(Go.Lib.index l [c]).toNat, by omega⟩
      rw [ho] at h1 h2
      simp only [Int.toNat_natCast] at h1 h2
      have hlt : (bhd c l).length < n := by
        have := congrArg List.length (cut_eq h)
        rw [List.length_append, List.length_cons] at this
        omega
      obtain ⟨i1, i2⟩ := ih _ hlt (bhd c l) rfl
      have hct := Go.Lib.count_hit (s := l) (sub := [c]) (i := o) (by simp) ho
      rw [h2] at hct
      have hp : pcs c l = ahd c l :: pcs c (bhd c l) := by
        conv => lhs; rw [cut_eq h]
        rw [pcs_hit (ahd_no c l)]
      constructor
      · rw [hct, Nat.add_comm, Go.Lib.splitK, if_neg (by rw [ho]; simp), ho, hp]
        simp only [Int.toNat_natCast, Nat.add_zero]
        rw [h1, h2, i1]
      · rw [hct, hp, List.length_cons]
        omega
    · have hi : Go.Lib.index l [c] = -1 := by
        rcases Go.Lib.index_spec l [c] with ⟨e, _⟩ | ⟨i, e, _⟩
        · exact e
        · exfalso
          have := hm.1 (by rw [← Go.Lib.index_one, e]; omega)
          exact h this
      rw [Go.Lib.count_miss hi, pcs_miss h]
      exact ⟨rfl, rfl⟩
def cst (xs : List (List UInt8)) : List Value := xs.map fun l => Value.string ⟨l.toArray⟩
theorem cst_get {xs : List (List UInt8)} {i : Nat} (h : i < xs.length) : (cst xs)[i]? = some (.string ⟨xs[i].toArray⟩) := by simp [cst, h]
theorem cst_len (xs : List (List UInt8)) : (cst xs).length = xs.length := by simp [cst]
/-- a list of texts that is read -/
def SlS (w : World) (v : Value) (xs : List (List UInt8)) : Prop := ∃ a c, v = .slice a xs.length c ∧ xs.length ≤ c ∧ (xs = [] ∨ ∃ b off, a = some ⟨b, off, none⟩ ∧ b < w.heap.size ∧ ∀ i (h : i < xs.length), w.cell? ⟨b, off + i, none⟩ = some (.string ⟨xs[i].toArray⟩))
theorem SlS.up {w w' : World} {v : Value} {xs : List (List UInt8)} (h : SlS w v xs) (k : Up w w') : SlS w' v xs := by
  obtain ⟨a, c, e, hc0, h⟩ := h
  refine ⟨a, c, e, hc0, ?_⟩
  rcases h with h | ⟨b, off, e2, hb, hc⟩
  · exact .inl h
  · exact .inr ⟨b, off, e2, Nat.lt_of_lt_of_le hb k.size, fun i hi => k.cell (hc i hi)⟩
theorem slS_nil (w : World) : SlS w (.slice none 0 0) [] := ⟨none, 0, rfl, Nat.le_refl _, .inl rfl⟩
theorem SlS.len {w : World} {v : Value} {xs : List (List UInt8)} (h : SlS w v xs) : ∃ a c, v = .slice a xs.length c := by
  obtain ⟨a, c, e, _⟩ := h
  exact ⟨a, c, e⟩
theorem SlS.get {w : World} {a : Option Addr} {n c : Nat} {xs : List (List UInt8)} (h : SlS w (.slice a n c) xs) {i : Nat} (hi : i < xs.length) : ∃ b off, a = some ⟨b, off, none⟩ ∧ w.cell? ⟨b, off + i, none⟩ = some (.string ⟨xs[i].toArray⟩) := by
  obtain ⟨a', c', e, hc0, h⟩ := h
  injection e with e1
  rcases h with rfl | ⟨b, off, rfl, _, hc⟩
  · cases hi
  · exact ⟨b, off, e1, hc i hi⟩
/-- strings.Split at one byte -/
theorem Split_walk (s : ByteArray) (c : UInt8) (hs : s.size ≤ 1048576) (w : World) (hG : GM w) : Calls Tryz.prog 79 #[.string s, .string ⟨#[c]⟩] w fun e w' => e = .returned (.slice (some ⟨w.heap.size, 0, none⟩) (pcs c s.data.toList).length (pcs c s.data.toList).length) ∧ SlS w' (.slice (some ⟨w.heap.size, 0, none⟩) (pcs c s.data.toList).length (pcs c s.data.toList).length) (pcs c s.data.toList) ∧ Up w w' := by
  obtain ⟨m, hm⟩ := hG.ml
  refine (Any.strings_Split Tryz.lays146 (by kernel_rfl) s ⟨#[c]⟩ m w (by omega) hm (Nat.le_refl 1)).mono ?_
  rintro e w' ⟨rfl, rfl⟩
  obtain ⟨h1, h2⟩ := split_pcs c s.data.toList
  have h3 := Go.Lib.splitB_data ⟨#[c]⟩ 0 (Go.Lib.countB s ⟨#[c]⟩) s
  have hcb : Go.Lib.countB s ⟨#[c]⟩ = Go.Lib.count s.data.toList [c] := rfl
  rw [show (⟨#[c]⟩ : ByteArray).data.toList = [c] from rfl, hcb, h1] at h3
  have h4 : (Go.Lib.splitB ⟨#[c]⟩ 0 (Go.Lib.countB s ⟨#[c]⟩) s).map Value.string = cst (pcs c s.data.toList) := by
    rw [hcb, ← h3]
    unfold cst
    rw [List.map_map]
    rfl
  rw [h4, hcb, h2]
  refine ⟨rfl, ⟨_, _, rfl, Nat.le_refl _, .inr ⟨w.heap.size, 0, rfl, by simp, fun i hi => ?_⟩⟩, (Up.refl w).alloc _⟩
  rw [World.cell?_alloc_at _ _ _ _ rfl]
  rw [Nat.zero_add, List.getElem?_toArray, cst_get hi]
end Go.Proofs.YtaphjbcnnkoffaaGreatDoor
