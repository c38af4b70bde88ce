import Derived.Test.YtngoedhddjakhaaOb
import Derived.Test.YtngoedhddjakhaaRows
namespace Go.Proofs.Ytngoedhddjakhaa
open Go.ChangeShapes Go.WideShapes Go.ChangeAt Go.WideMaps Go.WideElems Go.RowKit TextNum
theorem one_leB {H : Type} (d : DataW H) : 1 ≤ Rows.uptoBulk d := by
  cases d with
  | lit l => cases l <;> simp [Rows.uptoBulk]
  | nil => simp [Rows.uptoBulk]
  | ptr d => simp [Rows.uptoBulk]
  | slice elems spare => simp [Rows.uptoBulk]
  | agg parts => simp [Rows.uptoBulk]
  | iface t d => simp [Rows.uptoBulk]
  | map entries => simp [Rows.uptoBulk]
  | held h => simp [Rows.uptoBulk]
theorem len_leB {H : Type} : ∀ (l : List (DataW H)), l.length ≤ Rows.uptoBulkAll l
  | [] => Nat.zero_le _
  | x :: r => by have := one_leB x; have := len_leB r; simp only [Rows.uptoBulkAll, List.length_cons]; omega
theorem bulk_mem {H : Type} : ∀ {ds : List (DataW H)} {j : Nat} {d : DataW H}, ds[j]? = some d → Rows.uptoBulk d ≤ Rows.uptoBulkAll ds
  | d0 :: ds, 0, d, hd => by
    simp only [List.getElem?_cons_zero, Option.some.injEq] at hd
    subst hd
    simp only [Rows.uptoBulkAll]
    omega
  | d0 :: ds, j + 1, d, hd => by
    simp only [List.getElem?_cons_succ] at hd
    have := bulk_mem hd
    simp only [Rows.uptoBulkAll]
    omega
  | [], _, _, hd => by simp at hd
theorem sl_bulk {H : Type} {enc : TypeId × Value → H} {W : World} {fuel : Nat} {a : Option Addr} {n c : Nat} {d : DataW H} {ps : List MemPlace}
    (hf' : DataW.trod enc Try.prog W 0 (fun _ => true) true fuel 23 [.slice a n c] = some (d, ps)) : n ≤ Rows.uptoBulk d := by
  rcases open_ints Try.underlying23 Try.underlying5 cells8' hf' with ⟨e1, _⟩ | ⟨ad, len, cap, zs, e1, _, hlc, _, hzl, hx, hcell, hwf⟩
  · simp only [List.cons.injEq, Value.slice.injEq, and_true] at e1
    obtain ⟨rfl, rfl, rfl⟩ := e1
    exact Nat.zero_le _
  · simp only [List.cons.injEq, Value.slice.injEq, and_true] at e1
    obtain ⟨rfl, rfl, rfl⟩ := e1
    simp only [if_true] at hzl
    injection hx with hd _
    rw [hd]
    simp only [Rows.uptoBulk]
    have := len_leB (lits (H := H) .u8 (zs.take n))
    have e : (lits (H := H) .u8 (zs.take n)).length = (zs.take n).length := by simp [lits]
    rw [List.length_take, Nat.min_eq_left (by omega)] at e
    omega
/-- a list of bytes as an argument, with the bulk -/
theorem sl_openU {H : Type} {enc : TypeId × Value → H} {W : World} {v : Value} {d : DataW H} {ps : List MemPlace} (h : DataW.Trod enc Try.prog W 0 (fun _ => true) true 23 v d ps) (a : Option Addr) (len cap : Nat) (hv : v = .slice a len cap) :
    ∃ l, l.length = len ∧ Sl W v l ∧ len ≤ Rows.uptoBulk d := by
  obtain ⟨l, h1, h2⟩ := sl_open h a len cap hv
  subst hv
  obtain ⟨fuel, hf⟩ := h
  have hf' : DataW.trod enc Try.prog W 0 (fun _ => true) true fuel 23 [.slice a len cap] = some (d, ps) := hf
  exact ⟨l, h1, h2, sl_bulk hf'⟩
/-- a list of lists of bytes as an argument, with the bulk -/
theorem slT_openU {H : Type} {enc : TypeId × Value → H} {W : World} {v : Value} {d : DataW H} {ps : List MemPlace} (h : DataW.Trod enc Try.prog W 0 (fun _ => true) true 22 v d ps) (a : Option Addr) (len cap : Nat) (hv : v = .slice a len cap) :
    ∃ rs, rs.length = len ∧ SlT W v rs ∧ len ≤ Rows.uptoBulk d ∧ ∀ r ∈ rs, r.length ≤ Rows.uptoBulk d := by
  obtain ⟨rs, hrl, hS⟩ := slT_open h a len cap hv
  refine ⟨rs, hrl, hS, ?_⟩
  subst hv
  obtain ⟨fuel, hf⟩ := h
  have hf' : DataW.trod enc Try.prog W 0 (fun _ => true) true fuel 22 [.slice a len cap] = some (d, ps) := hf
  rcases DataW.trod_slice Try.underlying22 hf' with ⟨e1, _⟩ | ⟨ad, l2, c2, elems, rest, n, _, e1, hx, _, hlc, _, hel0, hel, _, _⟩
  · simp only [List.cons.injEq, Value.slice.injEq, and_true] at e1
    obtain ⟨rfl, rfl, rfl⟩ := e1
    have : rs = [] := List.eq_nil_of_length_eq_zero hrl
    subst this
    exact ⟨Nat.zero_le _, fun r hr => by cases hr⟩
  · simp only [List.cons.injEq, Value.slice.injEq, and_true] at e1
    obtain ⟨rfl, rfl, rfl⟩ := e1
    injection hx with hd _
    rw [cellsSl] at hel
    refine ⟨?_, fun r hr => ?_⟩
    · rw [hd]
      simp only [Rows.uptoBulk]
      have := len_leB (elems.map (·.1))
      rw [List.length_map] at this
      omega
    · obtain ⟨i, hi, rfl⟩ := List.getElem_of_mem hr
      obtain ⟨b, off, c3, a3, k3, e3, hb, hcell, hsl⟩ := hS.get hi
      injection e3 with e31 e32 e33
      injection e31 with e31
      subst e31
      have h1 := hel i (by omega)
      rw [List.getElem?_eq_getElem (by omega), Option.bind_eq_some_iff] at h1
      obtain ⟨cs, hcs, hy⟩ := h1
      obtain ⟨a', c', bs, rfl, hS'⟩ := sl_openW hy
      have h2 := (World.cells?_some hcs).2.2 0 (by decide)
      rw [Nat.mul_one, add_plain, add_plain, Nat.add_zero, hcell] at h2
      simp only [List.getElem?_cons_zero, Option.some.injEq, Value.slice.injEq] at h2
      have hbm := bulk_mem (ds := elems.map (·.1)) (j := i) (d := (elems[i]'(by omega)).1) (by rw [List.getElem?_map, List.getElem?_eq_getElem (by omega)]; rfl)
      have h3 : bs.length ≤ Rows.uptoBulk (elems[i]'(by omega)).1 := sl_bulk hy
      rw [h2.2.1, hd]
      simp only [Rows.uptoBulk]
      omega
end Go.Proofs.Ytngoedhddjakhaa
