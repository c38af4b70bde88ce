import Derived.Test.YtkegcilcapnpdaaDoorZKd
import Derived.Test.YtkegcilcapnpdaaDoorZOq
import Derived.Test.YtkegcilcapnpdaaDoorRows
namespace Go.Proofs.YtkegcilcapnpdaaDoor
open Go.ChangeShapes Go.WideShapes Go.ChangeAt Go.WideMaps Go.WideElems Go.RowKit Go.Shelf FieldNum

theorem one_le {H : Type} (d : DataW H) : 1 ≤ Rows.uptoBulk d := by
  cases d with
  | lit l => cases l <;> simp [Rows.uptoBulk]
  | nil => simp [Rows.uptoBulk]
  | ptr d => simp [Rows.uptoBulk]
  | slice elems spare => simp [Rows.uptoBulk]
  | agg parts => simp [Rows.uptoBulk]
  | iface t d => simp [Rows.uptoBulk]
  | map entries => simp [Rows.uptoBulk]
  | held h => simp [Rows.uptoBulk]
/-- so many places at the most -/
theorem len_le {H : Type} (l : List (DataW H)) : l.length ≤ Rows.uptoBulkAll l := by
  induction l with
  | nil => simp [Rows.uptoBulkAll]
  | cons x r ih => have := one_le x; simp only [Rows.uptoBulkAll, List.length_cons]; omega
theorem slice_le2 {H : Type} (elems spare : List (DataW H)) : elems.length ≤ Rows.uptoBulk (.slice elems spare) := by
  have h1 := len_le elems
  simp only [Rows.uptoBulk]
  omega
theorem mem_le {H : Type} {d : DataW H} {l : List (DataW H)} (h : d ∈ l) : Rows.uptoBulk d ≤ Rows.uptoBulkAll l := by
  induction l with
  | nil => cases h
  | cons x r ih =>
    simp only [Rows.uptoBulkAll]
    cases List.mem_cons.1 h with
    | inl e => subst e; omega
    | inr e => have := ih e; omega
theorem elem_le {H : Type} {d : DataW H} {elems spare : List (DataW H)} (h : d ∈ elems) : Rows.uptoBulk d ≤ Rows.uptoBulk (.slice elems spare) := by
  have := mem_le h
  simp only [Rows.uptoBulk]
  omega
/-- a list of numbers is opened -/
theorem ls_open2 {H : Type} {enc : TypeId × Value → H} {W : World} {fuel : Nat} {l : List Value} {d : DataW H} {ps : List MemPlace}
    (hf' : DataW.trod enc Tryd.prog W 0 (fun _ => true) true fuel 22 l = some (d, ps)) : ∃ a n c F, l = [.slice a n c] ∧ (∀ i, i < n → F i < M) ∧ Ls W (.slice a n c) n F ∧ n ≤ Rows.uptoBulk d := by
  rcases DataW.trod_slice Tryd.underlying22 hf' with ⟨e1, _⟩ | ⟨ad, len, cap, elems, rest, n, _, e1, hd, _, _, _, hel0, hel, _, _⟩
  · exact ⟨none, 0, 0, fun _ => 0, e1, fun i hi => absurd hi (Nat.not_lt_zero _), ⟨none, 0, rfl, fun h => absurd h (Nat.lt_irrefl _)⟩, Nat.zero_le _⟩
  · rw [cells32] at hel
    have key : ∀ i, i < len → ∃ x, x < M ∧ W.cells? 0 (ad.add (i * 32)) 32 = some (bl x) := by
      intro i hi
      have h1 := hel i hi
      rw [List.getElem?_eq_getElem (by omega), Option.bind_eq_some_iff] at h1
      obtain ⟨cs, hcs, hy⟩ := h1
      obtain ⟨x, hx, rfl, _, _⟩ := open32l hy
      exact ⟨x, hx, hcs⟩
    obtain ⟨f, hfM, hcell⟩ : ∃ f : Nat → Nat, (∀ i, i < len → f i < M) ∧ ∀ i, i < len → ∀ j, j < 32 → W.cell? ((ad.add (i * 32)).add j) = some (.int .u8 ((f i / 256 ^ j % 256 : Nat) : Int)) := by
      refine ⟨fun i => if h : i < len then (key i h).choose else 0, fun i hi => by simp only [dif_pos hi]; exact (key i hi).choose_spec.1, fun i hi j hj => ?_⟩
      simp only [dif_pos hi]
      have h2 := (World.cells?_some (key i hi).choose_spec.2).2.2 j hj
      rw [h2, bl_get _ j hj]
    clear key
    refine ⟨some ad, len, cap, f, e1, hfM, ⟨some ad, cap, rfl, fun hl0 => ?_⟩, ?_⟩
    rotate_left
    · injection hd with hd _
      rw [hd]
      have := slice_le2 (elems.map (·.1)) (rest.map (·.1))
      rw [List.length_map] at this
      omega
    have h00 := hcell 0 hl0 0 (by decide)
    obtain ⟨b, off, rfl⟩ : ∃ b off, ad = ⟨b, off, none⟩ := by
      obtain ⟨b, off, sp⟩ := ad
      cases sp with
      | none => exact ⟨b, off, rfl⟩
      | some s => exfalso; simp only [World.cell?, Addr.add] at h00; split at h00 <;> simp at h00
    have hcell' : ∀ i, i < len → W.rangeAt b (off + 32 * i) (bl (f i)) := by
      intro i hi j v hv
      have hj : j < 32 := by have := lt_of_get hv; rwa [bl_length] at this
      rw [bl_get _ j hj] at hv
      injection hv with hv
      subst hv
      have := hcell i hi j hj
      rwa [Addr.add_mid, Addr.add_mid, Nat.mul_comm i 32] at this
    exact ⟨b, off, rfl, block_lt_of_cell (cell_top0 (hcell' 0 hl0)), hcell'⟩
theorem keeps_all {H : Type} {enc : TypeId × Value → H} {W : World} {d : DataW H} {ps : List MemPlace} (v : Value) (a : Option Addr) (len cap : Nat) (hv : v = .slice a len cap) (hb : Rows.uptoBulk d ≤ 1048576)
    (h : DataW.Trod enc Tryd.prog W 0 (fun _ => true) true 35 v d ps) (hG : Gq W) :
    Calls Tryd.prog 7 #[v] W fun e w' => e = .returned (.bool true) ∧ Grown W w' := by
  subst hv
  obtain ⟨fuel, hf⟩ := h
  have hf' : DataW.trod enc Tryd.prog W 0 (fun _ => true) true fuel 35 [.slice a len cap] = some (d, ps) := hf
  rcases DataW.trod_slice Tryd.underlying35 hf' with ⟨e1, _⟩ | ⟨ad, l2, c2, elems, rest, n, _, e1, hd, _, _, _, hel0, hel, _, _⟩
  · simp only [List.cons.injEq, Value.slice.injEq, and_true] at e1
    obtain ⟨rfl, rfl, rfl⟩ := e1
    exact keeps_r none 0 0 W (by decide) (fun h => absurd h (Nat.lt_irrefl _)) hG
  · simp only [List.cons.injEq, Value.slice.injEq, and_true] at e1
    obtain ⟨rfl, rfl, rfl⟩ := e1
    injection hd with hd _
    have hlen : len ≤ 1048576 := by
      have := slice_le2 (elems.map (·.1)) (rest.map (·.1))
      rw [List.length_map, ← hd] at this
      omega
    rw [cellsSl] at hel
    refine keeps_r (some ad) len cap W hlen (fun h0 => ?_) hG
    have key : ∀ i, i < len → ∃ a n c F, W.cell? ((ad.add (i * 1)).add 0) = some (.slice a n c) ∧ Ls W (.slice a n c) n F ∧ (∀ j, j < n → F j < S256) ∧ n ≤ 1048576 := by
      intro i hi
      have h1 := hel i hi
      rw [List.getElem?_eq_getElem (by omega), Option.bind_eq_some_iff] at h1
      obtain ⟨cs, hcs, hy⟩ := h1
      obtain ⟨a, n, c, F, rfl, hF, hL, hn⟩ := ls_open2 (d := (elems[i]).1) (ps := (elems[i]).2) hy
      have h2 : Rows.uptoBulk (elems[i]).1 ≤ Rows.uptoBulk d := by
        rw [hd]
        exact elem_le (List.mem_map.2 ⟨_, List.getElem_mem _, rfl⟩)
      exact ⟨a, n, c, F, (World.cells?_some hcs).2.2 0 (by decide), hL, hF, by omega⟩
    obtain ⟨b, off, rfl⟩ : ∃ b off, ad = ⟨b, off, none⟩ := by
      obtain ⟨a, n, c, F, h01, _⟩ := key 0 h0
      obtain ⟨b, off, sp⟩ := ad
      cases sp with
      | none => exact ⟨b, off, rfl⟩
      | some s => exfalso; simp only [World.cell?, Addr.add] at h01; split at h01 <;> simp at h01
    refine ⟨b, off, rfl, fun i hi => ?_⟩
    obtain ⟨a, n, c, F, h1, h2⟩ := key i hi
    refine ⟨a, n, c, F, ?_, h2⟩
    rwa [Addr.add_mid, Addr.add_mid, Nat.mul_one, Nat.add_zero] at h1
end Go.Proofs.YtkegcilcapnpdaaDoor
