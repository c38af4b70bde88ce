import Derived.Test.YtkegcilcapnpdaaDoorZPo
import Derived.Test.YtkegcilcapnpdaaDoorMe
import Derived.ProofKit
import Derived.ChangeSame
import Derived.WideKeyArgs
import Derived.DataReads
namespace Go.Proofs.YtkegcilcapnpdaaDoor
open Go.ChangeShapes Go.WideShapes Go.ChangeAt Go.WideMaps Go.WideElems Go.RowKit Go.Shelf FieldNum

set_option maxRecDepth 100000 in
theorem open32l {H : Type} {enc : TypeId × Value → H} {W : World} {fuel : Nat} {l : List Value} {d : DataW H} {q : List MemPlace}
    (hf' : DataW.trod enc Tryd.prog W 0 (fun _ => true) true fuel 23 l = some (d, q)) :
    ∃ a : Nat, a < M ∧ l = bl a ∧ d = da H a ∧ q = [] := by
  obtain ⟨xs, m, rfl, hx, hlen, hxl, hel⟩ := DataW.trod_array Tryd.underlying23 hf'
  rw [cells8] at hel
  have hl : l.length = 32 := hlen.trans cells32
  have hcell : ∀ i, i < 32 → ∃ n : Nat, n < 256 ∧ l[i]? = some (.int .u8 (n : Int)) := by
    intro i hi
    have h1 := hel i hi
    rw [Nat.mul_one, List.drop_eq_getElem_cons (by omega), List.take_succ_cons, List.take_zero, List.getElem?_eq_getElem (by omega)] at h1
    obtain ⟨z, e0, _, w0⟩ := DataW.trod_int Tryd.underlying5 h1
    simp at e0
    have hb : 0 ≤ z ∧ z ≤ 255 := by
      simpa [Lit.wf, IntKind.min, IntKind.max, IntKind.signed, IntKind.bits] using w0
    refine ⟨z.toNat, by omega, ?_⟩
    rw [List.getElem?_eq_getElem (by omega), e0]
    congr 2
    omega
  obtain ⟨a, ha, hd⟩ := exists_digits (fun i => if hi : i < 32 then (hcell i hi).choose else 0) (fun i => by
    by_cases hi : i < 32
    · simp only [hi, ↓reduceDIte]; exact (hcell i hi).choose_spec.1
    · simp [hi]) 32
  have e32 : 256 ^ 32 = M := by decide
  rw [e32] at ha
  have el : l = bl a := by
    apply List.ext_getElem?
    intro i
    by_cases hi : i < 32
    · rw [bl_get a i hi, hd i hi]
      simp only [hi, ↓reduceDIte]
      exact (hcell i hi).choose_spec.2
    · rw [List.getElem?_eq_none (by omega), List.getElem?_eq_none (by rw [bl_length]; omega)]
  subst el
  have hm : m ≠ 0 := by
    rintro rfl
    have h1 := hel 0 (by decide)
    rw [List.getElem?_eq_getElem (by omega)] at h1
    simp [DataW.trod] at h1
  obtain ⟨m', rfl⟩ := Nat.exists_eq_succ_of_ne_zero hm
  have := trod32 enc W 0 (fun _ => true) true m' a
  rw [hf'] at this
  injection this with this
  injection this with e1 e2
  exact ⟨a, ha, rfl, e1, e2⟩

theorem cell_top0 {w : World} {b o n : Nat} (h : w.rangeAt b o (bl n)) : w.cell? ⟨b, o + 0, none⟩ = some (.int .u8 ((n / 256 ^ 0 % 256 : Nat) : Int)) := h 0 _ (bl_get n 0 (by decide))

theorem grown_same {W w' : World} (h : Grown W w') {q : MemPlace} (hp : q.block < W.heap.size) : W.sameAt w' q := by
  cases q with
  | cell b o => exact grown_cell h b o hp
  | map b =>
    have hb : b < W.heap.size := hp
    have h2 := h.1.2.2 b hb
    show w'.heap[b]? = W.heap[b]?
    cases e1 : W.heap[b]? with
    | none => rw [Array.getElem?_eq_getElem hb] at e1; cases e1
    | some o1 =>
      rw [e1] at h2
      cases e2 : w'.heap[b]? with
      | none => rw [e2] at h2; cases o1 <;> exact h2
      | some o2 =>
        rw [e2] at h2
        cases o1 <;> cases o2 <;> first
          | (obtain ⟨a1, a2, _, a4⟩ := h2
             have := Array.ext_getElem? (fun j => a4 j (fun x => x))
             subst a1 a2 this; rfl)
          | (rcases h2 with h2 | ⟨a1, a2⟩
             · cases h2
             · subst a1 a2; rfl)
          | exact h2

set_option maxRecDepth 100000 in
theorem cellsOp : Tryd.prog.cellsOf 50 = 66 := by kernel_rfl
set_option maxRecDepth 100000 in
theorem cellsSl : Tryd.prog.cellsOf 22 = 1 := by kernel_rfl
set_option maxRecDepth 100000 in
theorem cellsIn : Tryd.prog.cellsOf 3 = 1 := by kernel_rfl
/-- a list of numbers is opened -/
theorem ls_open {H : Type} {enc : TypeId × Value → H} {W : World} {fuel : Nat} {l : List Value} {d : DataW H} {ps : List MemPlace}
    (hf' : DataW.trod enc Tryd.prog W 0 (fun _ => true) true fuel 22 l = some (d, ps)) : ∃ a n c F, l = [.slice a n c] ∧ (∀ i, i < n → F i < M) ∧ Ls W (.slice a n c) n F := by
  rcases DataW.trod_slice Tryd.underlying22 hf' with ⟨e1, _⟩ | ⟨ad, len, cap, elems, rest, n, _, e1, _, _, _, _, hel0, hel, _, _⟩
  · exact ⟨none, 0, 0, fun _ => 0, e1, fun i hi => absurd hi (Nat.not_lt_zero _), none, 0, rfl, fun h => absurd h (Nat.lt_irrefl _)⟩
  · rw [cells32] at hel
    have key : ∀ i, i < len → ∃ x, x < M ∧ W.cells? 0 (ad.add (i * 32)) 32 = some (bl x) := by
      intro i hi
      have h1 := hel i hi
      rw [List.getElem?_eq_getElem (by omega), Option.bind_eq_some_iff] at h1
      obtain ⟨cs, hcs, hy⟩ := h1
      obtain ⟨x, hx, rfl, _, _⟩ := open32l hy
      exact ⟨x, hx, hcs⟩
    obtain ⟨f, hfM, hcell⟩ : ∃ f : Nat → Nat, (∀ i, i < len → f i < M) ∧ ∀ i, i < len → ∀ j, j < 32 → W.cell? ((ad.add (i * 32)).add j) = some (.int .u8 ((f i / 256 ^ j % 256 : Nat) : Int)) := by
      refine ⟨fun i => if h : i < len then (key i h).choose else 0, fun i hi => by simp only [dif_pos hi]; exact (key i hi).choose_spec.1, fun i hi j hj => ?_⟩
      simp only [dif_pos hi]
      have h2 := (World.cells?_some (key i hi).choose_spec.2).2.2 j hj
      rw [h2, bl_get _ j hj]
    clear key
    refine ⟨some ad, len, cap, f, e1, hfM, some ad, cap, rfl, fun hl0 => ?_⟩
    have h00 := hcell 0 hl0 0 (by decide)
    obtain ⟨b, off, rfl⟩ : ∃ b off, ad = ⟨b, off, none⟩ := by
      obtain ⟨b, off, sp⟩ := ad
      cases sp with
      | none => exact ⟨b, off, rfl⟩
      | some s => exfalso; simp only [World.cell?, Addr.add] at h00; split at h00 <;> simp at h00
    have hcell' : ∀ i, i < len → W.rangeAt b (off + 32 * i) (bl (f i)) := by
      intro i hi j v hv
      have hj : j < 32 := by have := lt_of_get hv; rwa [bl_length] at this
      rw [bl_get _ j hj] at hv
      injection hv with hv
      subst hv
      have := hcell i hi j hj
      rwa [Addr.add_mid, Addr.add_mid, Nat.mul_comm i 32] at this
    exact ⟨b, off, rfl, block_lt_of_cell (cell_top0 (hcell' 0 hl0)), hcell'⟩
theorem list66 {cs : List Value} {k : Int} {x y : Nat} {l : Value} (hl : cs.length = 66) (h0 : (cs.drop 0).take 1 = [.int .i64 k]) (h1 : (cs.drop 1).take 32 = bl x) (h2 : (cs.drop 33).take 32 = bl y) (h3 : (cs.drop 65).take 1 = [l]) : cs = opc k x y l := by
  have e3 : cs.drop 65 = [l] := by rw [← h3, List.take_of_length_le (by simp [hl])]
  have e2 : cs.drop 33 = bl y ++ [l] := by
    rw [← List.take_append_drop 32 (cs.drop 33), h2, List.drop_drop, e3]
  have e1 : cs.drop 1 = bl x ++ (bl y ++ [l]) := by
    rw [← List.take_append_drop 32 (cs.drop 1), h1, List.drop_drop, e2]
  rw [← List.take_append_drop 1 cs, e1]
  rw [List.drop_zero] at h0
  rw [h0]
  rfl
/-- one call is opened -/
theorem op_open {H : Type} {enc : TypeId × Value → H} {W : World} {fuel : Nat} {cs : List Value} {z : DataW H × List MemPlace}
    (hf : DataW.trod enc Tryd.prog W 0 (fun _ => true) true fuel 50 cs = some z) : ∃ (k : Int) (x y n c : Nat) (a : Option Addr) (F : Nat → Nat), x < M ∧ y < M ∧ (∀ i, i < n → F i < M) ∧ Ls W (.slice a n c) n F ∧ cs = opc k x y (.slice a n c) := by
  obtain ⟨ys, m, _, _, hl, hn, hel⟩ := DataW.trod_struct Tryd.underlying50 hf
  rw [cellsOp] at hl
  have hn4 : ys.length = 4 := hn
  have e0 : DataW.trod enc Tryd.prog W 0 (fun _ => true) true m 3 ((cs.drop 0).take (Tryd.prog.cellsOf 3)) = ys[0]? := hel 0 _ rfl
  have e1 : DataW.trod enc Tryd.prog W 0 (fun _ => true) true m 23 ((cs.drop 1).take (Tryd.prog.cellsOf 23)) = ys[1]? := hel 1 _ rfl
  have e2 : DataW.trod enc Tryd.prog W 0 (fun _ => true) true m 23 ((cs.drop 33).take (Tryd.prog.cellsOf 23)) = ys[2]? := hel 2 _ rfl
  have e3 : DataW.trod enc Tryd.prog W 0 (fun _ => true) true m 22 ((cs.drop 65).take (Tryd.prog.cellsOf 22)) = ys[3]? := hel 3 _ rfl
  rw [cellsIn, List.getElem?_eq_getElem (by omega)] at e0
  rw [cells32, List.getElem?_eq_getElem (by omega)] at e1 e2
  rw [cellsSl, List.getElem?_eq_getElem (by omega)] at e3
  obtain ⟨k, hk, _⟩ := DataW.trod_int Tryd.underlying3 e0
  obtain ⟨x, hx, hxl, _⟩ := open32l e1
  obtain ⟨y, hy, hyl, _⟩ := open32l e2
  obtain ⟨a, n, c, F, hll, hF, hL⟩ := ls_open e3
  exact ⟨k, x, y, n, c, a, F, hx, hy, hF, hL, list66 hl hk hxl hyl hll⟩
theorem okWide_slice_le {P : Program} {W : World} {r : Reach} {base : Nat} {t e : TypeId} {v : Value} (ht : P.underlying t = some (.slice e)) (h : Value.okWide P W r base t v) : ∃ a len cap, v = .slice a len cap ∧ (len : Int) ≤ 9223372036854775807 := by
  obtain ⟨a, len, cap, rfl⟩ := okWide_slice ht h
  refine ⟨a, len, cap, rfl, ?_⟩
  simp only [Value.okWide, ht, Cell.okWide] at h
  cases a with
  | none =>
    cases len with
    | zero => decide
    | succ n => simp [Cell.ok, ht] at h
  | some ad =>
    simp only [Cell.ok, ht] at h
    have h1 := h.1
    have h2 : (cap : Int) ≤ 9223372036854775807 := h.2.1
    omega
theorem all_all {H : Type} {enc : TypeId × Value → H} {W : World} {d : DataW H} {ps : List MemPlace} (v : Value) (a : Option Addr) (len cap : Nat) (hv : v = .slice a len cap) (hlen : (len : Int) ≤ 9223372036854775807)
    (h : DataW.Trod enc Tryd.prog W 0 (fun _ => true) true 42 v d ps) (hG : Gr W) :
    Calls Tryd.prog 9 #[v] W fun e w' => e = .returned (.bool true) ∧ Grown W w' := by
  subst hv
  refine all_r a len cap P1 p (Hid.of rfl) (Hid.of rfl) W hlen (fun h0 => ?_) hG
  obtain ⟨fuel, hf⟩ := h
  have hf' : DataW.trod enc Tryd.prog W 0 (fun _ => true) true fuel 42 [.slice a len cap] = some (d, ps) := hf
  rcases DataW.trod_slice Tryd.underlying42 hf' with ⟨e1, _⟩ | ⟨ad, l2, c2, elems, rest, n, _, e1, _, _, _, _, hel0, hel, _, _⟩
  · simp at e1; omega
  · simp only [List.cons.injEq, Value.slice.injEq, and_true] at e1
    obtain ⟨rfl, rfl, rfl⟩ := e1
    rw [cellsOp] at hel
    have key : ∀ i, i < len → ∃ (k : Int) (x y n c : Nat) (a : Option Addr) (F : Nat → Nat), x < M ∧ y < M ∧ (∀ i, i < n → F i < M) ∧ Ls W (.slice a n c) n F ∧ W.cells? 0 (ad.add (i * 66)) 66 = some (opc k x y (.slice a n c)) := by
      intro i hi
      have h1 := hel i hi
      rw [List.getElem?_eq_getElem (by omega), Option.bind_eq_some_iff] at h1
      obtain ⟨cs, hcs, hy⟩ := h1
      obtain ⟨k, x, y, n, c, a, F, hx, hy2, hF, hL, rfl⟩ := op_open hy
      exact ⟨k, x, y, n, c, a, F, hx, hy2, hF, hL, hcs⟩
    obtain ⟨b, off, rfl⟩ : ∃ b off, ad = ⟨b, off, none⟩ := by
      obtain ⟨k, x, y, n, c, a, F, _, _, _, _, hcs⟩ := key 0 h0
      have h00 := (World.cells?_some hcs).2.2 0 (by decide)
      have h01 : W.cell? ((ad.add (0 * 66)).add 0) = some (.int .i64 k) := h00.trans rfl
      obtain ⟨b, off, sp⟩ := ad
      cases sp with
      | none => exact ⟨b, off, rfl⟩
      | some s => exfalso; simp only [World.cell?, Addr.add] at h01; split at h01 <;> simp at h01
    refine ⟨b, off, rfl, fun i hi => ⟨?_⟩⟩
    obtain ⟨k, x, y, n, c, a, F, hx, hy, hF, hL, hcs⟩ := key i hi
    refine ⟨k, x, y, n, c, a, F, hx, hy, hF, hL, fun j v hv => ?_⟩
    have hj : j < 66 := by have := lt_of_get hv; rwa [opc_length] at this
    have := (World.cells?_some hcs).2.2 j hj
    rw [hv] at this
    rwa [Addr.add_mid, Addr.add_mid, Nat.mul_comm i 66] at this
end Go.Proofs.YtkegcilcapnpdaaDoor
