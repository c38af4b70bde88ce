import Derived.Test.YteijccjdejjbjaaDoorQk12
import Derived.ProofKit
import Derived.ChangeSame
import Derived.WideKeyArgs
import Derived.DataReads
import Derived.Test.YteijccjdejjbjaaDoorTie
import Derived.Test.YteijccjdejjbjaaDoorCards
import Derived.LaidMore
import Derived.OpenShut
import Derived.Stop.Joined
import Derived.SevenTiedAt
namespace Go.Proofs.YteijccjdejjbjaaDoor
open Go.ChangeShapes Go.WideShapes Go.ChangeAt Go.RowKit Go.Shelf ScalarNum

/-- what is read of 64 bytes -/
def da64 (H : Type) (a : Nat) : DataW H := .agg ((List.range 64).map fun i => .lit (.int .u8 ((dg 256 a i : Nat) : Int)))

theorem cells64b : Tryd.prog.cellsOf 22 = 64 := by kernel_rfl

theorem trod64 {H : Type} (enc : TypeId × Value → H) (W : World) (base : Nat) (sp : Nat → Bool) (held : Bool) (k a : Nat) :
    DataW.trod enc Tryd.prog W base sp held (k + 2) 22 (yl 64 a) = some (da64 H a, []) := by
  have h1 : ∀ i ∈ List.range 64, DataW.trod enc Tryd.prog W base sp held (k + 1) 5 (((yl 64 a).drop (i * 1)).take 1) = some (.lit (.int .u8 ((dg 256 a i : Nat) : Int)), []) := by
    intro i hi
    have hi' : i < 64 := by simpa using hi
    have e : ((yl 64 a).drop (i * 1)).take 1 = [.int .u8 ((dg 256 a i : Nat) : Int)] := by
      have hl := yl_length 64 a
      have hg := yl_get 64 a i hi'
      rw [Nat.mul_one]
      rw [List.getElem?_eq_getElem (by omega)] at hg
      rw [List.drop_eq_getElem_cons (by omega), List.take_succ_cons, List.take_zero]
      injection hg with hg
      rw [hg]
    rw [e]
    unfold DataW.trod
    rw [Tryd.underlying5]
    simp only [wf_dg, and_self, ↓reduceIte]
  unfold DataW.trod
  rw [Tryd.underlying22]
  simp only [yl_length, cells64b, ↓reduceIte, cells8]
  rw [mapM_all _ _ _ h1]
  simp [da64, Function.comp_def]

theorem open64 {H : Type} {enc : TypeId × Value → H} {W : World} {base : Nat} {v : Value} {d : DataW H} {q : List MemPlace}
    (hval : Value.okWide Tryd.prog W .any base 22 v) (h : DataW.Trod enc Tryd.prog W 0 (fun _ => true) true 22 v d q) :
    ∃ a : Nat, a < M * M ∧ v = yv 64 a ∧ d = da64 H a ∧ q = [] := by
  obtain ⟨cs, rfl, hsz, _⟩ : ∃ cs, v = .agg cs ∧ cs.size = Tryd.prog.cellsOf 22 ∧ Row.okWide Tryd.prog W .any base 22 cs := by
    simpa [Value.okWide, Tryd.underlying22] using hval
  rw [cells64b] at hsz
  obtain ⟨l⟩ := cs
  obtain ⟨fuel, hf⟩ := h
  have hf' : DataW.trod enc Tryd.prog W 0 (fun _ => true) true fuel 22 l = some (d, q) := hf
  obtain ⟨xs, m, rfl, hx, hlen, hxl, hel⟩ := DataW.trod_array Tryd.underlying22 hf'
  rw [cells8] at hel
  have hl : l.length = 64 := by simpa using hsz
  have hcell : ∀ i, i < 64 → ∃ n : Nat, n < 256 ∧ l[i]? = some (.int .u8 (n : Int)) := by
    intro i hi
    have h1 := hel i hi
    rw [Nat.mul_one, List.drop_eq_getElem_cons (by omega), List.take_succ_cons, List.take_zero, List.getElem?_eq_getElem (by omega)] at h1
    obtain ⟨z, e0, _, w0⟩ := DataW.trod_int Tryd.underlying5 h1
    simp at e0
    have hb : 0 ≤ z ∧ z ≤ 255 := by
      simpa [Lit.wf, IntKind.min, IntKind.max, IntKind.signed, IntKind.bits] using w0
    refine ⟨z.toNat, by omega, ?_⟩
    rw [List.getElem?_eq_getElem (by omega), e0]
    congr 2
    omega
  obtain ⟨a, ha, hd⟩ := exists_digits (fun i => if hi : i < 64 then (hcell i hi).choose else 0) (fun i => by
    by_cases hi : i < 64
    · simp only [hi, ↓reduceDIte]; exact (hcell i hi).choose_spec.1
    · simp [hi]) 64
  have e64 : 256 ^ 64 = M * M := by decide
  rw [e64] at ha
  have el : l = yl 64 a := by
    apply List.ext_getElem?
    intro i
    by_cases hi : i < 64
    · rw [yl_get 64 a i hi, hd i hi]
      simp only [hi, ↓reduceDIte]
      exact (hcell i hi).choose_spec.2
    · rw [List.getElem?_eq_none (by omega), List.getElem?_eq_none (by rw [yl_length]; omega)]
  subst el
  have hm : m ≠ 0 := by
    rintro rfl
    have h1 := hel 0 (by decide)
    rw [List.getElem?_eq_getElem (by omega)] at h1
    simp [DataW.trod] at h1
  obtain ⟨m', rfl⟩ := Nat.exists_eq_succ_of_ne_zero hm
  have := trod64 enc W 0 (fun _ => true) true m' a
  rw [hf'] at this
  injection this with this
  injection this with e1 e2
  exact ⟨a, ha, rfl, e1, e2⟩

theorem shut64 {H : Type} (enc : TypeId × Value → H) (W : World) (sp : Nat → Bool) (a : Nat) : DataW.Trod enc Tryd.prog W 0 sp true 22 (yv 64 a) (da64 H a) [] := ⟨2, trod64 enc W 0 sp true 0 a⟩
end Go.Proofs.YteijccjdejjbjaaDoor
namespace Go.Proofs.YteijccjdejjbjaaDoor
open Go.ChangeShapes Go.WideShapes Go.ChangeAt Go.WideMaps Go.WideElems Go.RowKit Go.Shelf ScalarNum

set_option maxRecDepth 100000 in
theorem open32l {H : Type} {enc : TypeId × Value → H} {W : World} {fuel : Nat} {l : List Value} {z : DataW H × List MemPlace}
    (hf' : DataW.trod enc Tryd.prog W 0 (fun _ => true) true fuel 23 l = some z) : ∃ a : Nat, a < M ∧ l = yl 32 a := by
  obtain ⟨xs, m, rfl, hx, hlen, hxl, hel⟩ := DataW.trod_array Tryd.underlying23 hf'
  rw [cells8] at hel
  have hl : l.length = 32 := hlen.trans cells32
  have hcell : ∀ i, i < 32 → ∃ n : Nat, n < 256 ∧ l[i]? = some (.int .u8 (n : Int)) := by
    intro i hi
    have h1 := hel i hi
    rw [Nat.mul_one, List.drop_eq_getElem_cons (by omega), List.take_succ_cons, List.take_zero, List.getElem?_eq_getElem (by omega)] at h1
    obtain ⟨z, e0, _, w0⟩ := DataW.trod_int Tryd.underlying5 h1
    simp at e0
    have hb : 0 ≤ z ∧ z ≤ 255 := by
      simpa [Lit.wf, IntKind.min, IntKind.max, IntKind.signed, IntKind.bits] using w0
    refine ⟨z.toNat, by omega, ?_⟩
    rw [List.getElem?_eq_getElem (by omega), e0]
    congr 2
    omega
  obtain ⟨a, ha, hd⟩ := exists_digits (fun i => if hi : i < 32 then (hcell i hi).choose else 0) (fun i => by
    by_cases hi : i < 32
    · simp only [hi, ↓reduceDIte]; exact (hcell i hi).choose_spec.1
    · simp [hi]) 32
  have e32 : 256 ^ 32 = M := by decide
  rw [e32] at ha
  refine ⟨a, ha, ?_⟩
  apply List.ext_getElem?
  intro i
  by_cases hi : i < 32
  · rw [yl_get 32 a i hi, hd i hi]
    simp only [hi, ↓reduceDIte]
    exact (hcell i hi).choose_spec.2
  · rw [List.getElem?_eq_none (by omega), List.getElem?_eq_none (by rw [yl_length]; omega)]

set_option maxRecDepth 100000 in
theorem open64l {H : Type} {enc : TypeId × Value → H} {W : World} {fuel : Nat} {l : List Value} {z : DataW H × List MemPlace}
    (hf' : DataW.trod enc Tryd.prog W 0 (fun _ => true) true fuel 22 l = some z) : ∃ a : Nat, a < M * M ∧ l = yl 64 a := by
  obtain ⟨xs, m, rfl, hx, hlen, hxl, hel⟩ := DataW.trod_array Tryd.underlying22 hf'
  rw [cells8] at hel
  have hl : l.length = 64 := hlen.trans cells64b
  have hcell : ∀ i, i < 64 → ∃ n : Nat, n < 256 ∧ l[i]? = some (.int .u8 (n : Int)) := by
    intro i hi
    have h1 := hel i hi
    rw [Nat.mul_one, List.drop_eq_getElem_cons (by omega), List.take_succ_cons, List.take_zero, List.getElem?_eq_getElem (by omega)] at h1
    obtain ⟨z, e0, _, w0⟩ := DataW.trod_int Tryd.underlying5 h1
    simp at e0
    have hb : 0 ≤ z ∧ z ≤ 255 := by
      simpa [Lit.wf, IntKind.min, IntKind.max, IntKind.signed, IntKind.bits] using w0
    refine ⟨z.toNat, by omega, ?_⟩
    rw [List.getElem?_eq_getElem (by omega), e0]
    congr 2
    omega
  obtain ⟨a, ha, hd⟩ := exists_digits (fun i => if hi : i < 64 then (hcell i hi).choose else 0) (fun i => by
    by_cases hi : i < 64
    · simp only [hi, ↓reduceDIte]; exact (hcell i hi).choose_spec.1
    · simp [hi]) 64
  have e32 : 256 ^ 64 = M * M := by decide
  rw [e32] at ha
  refine ⟨a, ha, ?_⟩
  apply List.ext_getElem?
  intro i
  by_cases hi : i < 64
  · rw [yl_get 64 a i hi, hd i hi]
    simp only [hi, ↓reduceDIte]
    exact (hcell i hi).choose_spec.2
  · rw [List.getElem?_eq_none (by omega), List.getElem?_eq_none (by rw [yl_length]; omega)]

set_option maxRecDepth 100000 in
theorem cellsOp : Tryd.prog.cellsOf 51 = 163 := by kernel_rfl
set_option maxRecDepth 100000 in
theorem cellsSli : Tryd.prog.cellsOf 30 = 1 := by kernel_rfl
set_option maxRecDepth 100000 in
theorem cellsIn : Tryd.prog.cellsOf 3 = 1 := by kernel_rfl
theorem digs_open {H : Type} {enc : TypeId × Value → H} {W : World} {fuel : Nat} {cs : List Value} {z : DataW H × List MemPlace}
    (hf : DataW.trod enc Tryd.prog W 0 (fun _ => true) true fuel 30 cs = some z) : ∃ v l, cs = [v] ∧ Sl8 W v l ∧ l.length ≤ Rows.uptoBulk z.1 := by
  obtain ⟨d, ps⟩ := z
  rcases open_ints Tryd.underlying30 Tryd.underlying40 cells8i hf with ⟨e1, _⟩ | ⟨ad, l2, c2, zs, e1, _⟩
  · subst e1
    obtain ⟨l, h1, h2⟩ := open_digits (v := .slice none 0 0) (d := d) (ps := ps) ⟨fuel, hf⟩ none 0 0 rfl
    exact ⟨_, l, rfl, h1, h2⟩
  · subst e1
    obtain ⟨l, h1, h2⟩ := open_digits (v := .slice (some ad) l2 c2) (d := d) (ps := ps) ⟨fuel, hf⟩ (some ad) l2 c2 rfl
    exact ⟨_, l, rfl, h1, h2⟩
theorem bulk_mem {H : Type} {l : List (DataW H)} {x : DataW H} (h : x ∈ l) : Rows.uptoBulk x ≤ Rows.uptoBulkAll l := by
  induction l with
  | nil => cases h
  | cons y r ih =>
    simp only [Rows.uptoBulkAll]
    rcases List.mem_cons.1 h with rfl | h
    · omega
    · have := ih h; omega
theorem list163 {cs : List Value} {k n : Int} {a b c u : Nat} {d : Value} (hl : cs.length = 163) (h0 : (cs.drop 0).take 1 = [.int .i64 k]) (h1 : (cs.drop 1).take 32 = yl 32 a) (h2 : (cs.drop 33).take 32 = yl 32 b) (h3 : (cs.drop 65).take 32 = yl 32 c)
    (h4 : (cs.drop 97).take 64 = yl 64 u) (h5 : (cs.drop 161).take 1 = [.int .i64 n]) (h6 : (cs.drop 162).take 1 = [d]) : cs = opc k a b c u n d := by
  have e6 : cs.drop 162 = [d] := by rw [← h6, List.take_of_length_le (by simp [hl])]
  have e5 : cs.drop 161 = [.int .i64 n, d] := by rw [← List.take_append_drop 1 (cs.drop 161), h5, List.drop_drop, e6]; rfl
  have e4 : cs.drop 97 = yl 64 u ++ [.int .i64 n, d] := by rw [← List.take_append_drop 64 (cs.drop 97), h4, List.drop_drop, e5]
  have e3 : cs.drop 65 = yl 32 c ++ (yl 64 u ++ [.int .i64 n, d]) := by rw [← List.take_append_drop 32 (cs.drop 65), h3, List.drop_drop, e4]
  have e2 : cs.drop 33 = yl 32 b ++ (yl 32 c ++ (yl 64 u ++ [.int .i64 n, d])) := by rw [← List.take_append_drop 32 (cs.drop 33), h2, List.drop_drop, e3]
  have e1 : cs.drop 1 = yl 32 a ++ (yl 32 b ++ (yl 32 c ++ (yl 64 u ++ [.int .i64 n, d]))) := by rw [← List.take_append_drop 32 (cs.drop 1), h1, List.drop_drop, e2]
  rw [← List.take_append_drop 1 cs, e1]
  rw [List.drop_zero] at h0
  rw [h0]
  rfl
/-- one call is opened -/
theorem op_open {H : Type} {enc : TypeId × Value → H} {W : World} {fuel : Nat} {cs : List Value} {z : DataW H × List MemPlace}
    (hf : DataW.trod enc Tryd.prog W 0 (fun _ => true) true fuel 51 cs = some z) : ∃ (k : Int) (a b c u : Nat) (n : Int) (d : Value) (l : List I8), a < M ∧ b < M ∧ c < M ∧ u < M * M ∧ Sl8 W d l ∧ cs = opc k a b c u n d ∧ l.length ≤ Rows.uptoBulk z.1 ∧ (Lit.int .i64 n).wf = true := by
  obtain ⟨ys, m, _, hz, hl, hn, hel⟩ := DataW.trod_struct Tryd.underlying51 hf
  rw [cellsOp] at hl
  have hn7 : ys.length = 7 := hn
  have e0 : DataW.trod enc Tryd.prog W 0 (fun _ => true) true m 3 ((cs.drop 0).take (Tryd.prog.cellsOf 3)) = ys[0]? := hel 0 _ rfl
  have e1 : DataW.trod enc Tryd.prog W 0 (fun _ => true) true m 23 ((cs.drop 1).take (Tryd.prog.cellsOf 23)) = ys[1]? := hel 1 _ rfl
  have e2 : DataW.trod enc Tryd.prog W 0 (fun _ => true) true m 23 ((cs.drop 33).take (Tryd.prog.cellsOf 23)) = ys[2]? := hel 2 _ rfl
  have e3 : DataW.trod enc Tryd.prog W 0 (fun _ => true) true m 23 ((cs.drop 65).take (Tryd.prog.cellsOf 23)) = ys[3]? := hel 3 _ rfl
  have e4 : DataW.trod enc Tryd.prog W 0 (fun _ => true) true m 22 ((cs.drop 97).take (Tryd.prog.cellsOf 22)) = ys[4]? := hel 4 _ rfl
  have e5 : DataW.trod enc Tryd.prog W 0 (fun _ => true) true m 3 ((cs.drop 161).take (Tryd.prog.cellsOf 3)) = ys[5]? := hel 5 _ rfl
  have e6 : DataW.trod enc Tryd.prog W 0 (fun _ => true) true m 30 ((cs.drop 162).take (Tryd.prog.cellsOf 30)) = ys[6]? := hel 6 _ rfl
  rw [cellsIn, List.getElem?_eq_getElem (by omega)] at e0 e5
  rw [cells32, List.getElem?_eq_getElem (by omega)] at e1 e2 e3
  rw [cells64b, List.getElem?_eq_getElem (by omega)] at e4
  rw [cellsSli, List.getElem?_eq_getElem (by omega)] at e6
  obtain ⟨k, hk, _⟩ := DataW.trod_int Tryd.underlying3 e0
  obtain ⟨n, hn5, _, hnw⟩ := DataW.trod_int Tryd.underlying3 e5
  obtain ⟨a, ha, hal⟩ := open32l e1
  obtain ⟨b, hb, hbl⟩ := open32l e2
  obtain ⟨c, hc, hcl⟩ := open32l e3
  obtain ⟨u, hu, hul⟩ := open64l e4
  obtain ⟨d, l, hd, hS, hln⟩ := digs_open e6
  refine ⟨k, a, b, c, u, n, d, l, ha, hb, hc, hu, hS, list163 hl hk hal hbl hcl hul hn5 hd, ?_, hnw⟩
  subst hz
  refine Nat.le_trans hln ?_
  simp only [Rows.uptoBulk]
  have := bulk_mem (l := ys.map (·.1)) (x := ys[6].1) (List.mem_map.2 ⟨ys[6], List.getElem_mem _, rfl⟩)
  omega
theorem okWide_slice_le {P : Program} {W : World} {r : Reach} {base : Nat} {t e : TypeId} {v : Value} (ht : P.underlying t = some (.slice e)) (h : Value.okWide P W r base t v) : ∃ a len cap, v = .slice a len cap ∧ (len : Int) ≤ 9223372036854775807 := by
  obtain ⟨a, len, cap, rfl⟩ := okWide_slice ht h
  refine ⟨a, len, cap, rfl, ?_⟩
  simp only [Value.okWide, ht, Cell.okWide] at h
  cases a with
  | none =>
    cases len with
    | zero => decide
    | succ n => simp [Cell.ok, ht] at h
  | some ad =>
    simp only [Cell.ok, ht] at h
    have h1 := h.1
    have h2 : (cap : Int) ≤ 9223372036854775807 := h.2.1
    omega
/-- a script is opened */ -/
theorem ops_open {H : Type} {enc : TypeId × Value → H} {W : World} {d : DataW H} {ps : List MemPlace} {a : Option Addr} {len cap : Nat}
    (h : DataW.Trod enc Tryd.prog W 0 (fun _ => true) true 48 (.slice a len cap) d ps) (h0 : 0 < len) :
    ∃ b off, a = some ⟨b, off, none⟩ ∧ ∀ i, i < len → Op1 W b (off + 163 * i) := by
  obtain ⟨fuel, hf⟩ := h
  have hf' : DataW.trod enc Tryd.prog W 0 (fun _ => true) true fuel 48 [.slice a len cap] = some (d, ps) := hf
  rcases DataW.trod_slice Tryd.underlying48 hf' with ⟨e1, _⟩ | ⟨ad, l2, c2, elems, rest, n, _, e1, _, _, _, _, hel0, hel, _, _⟩
  · simp at e1; omega
  · simp only [List.cons.injEq, Value.slice.injEq, and_true] at e1
    obtain ⟨rfl, rfl, rfl⟩ := e1
    rw [cellsOp] at hel
    have key : ∀ i, i < len → ∃ (k : Int) (a b c u : Nat) (n : Int) (d : Value) (l : List I8), a < M ∧ b < M ∧ c < M ∧ u < M * M ∧ Sl8 W d l ∧ W.cells? 0 (ad.add (i * 163)) 163 = some (opc k a b c u n d) := by
      intro i hi
      have h1 := hel i hi
      rw [List.getElem?_eq_getElem (by omega), Option.bind_eq_some_iff] at h1
      obtain ⟨cs, hcs, hy⟩ := h1
      obtain ⟨k, a, b, c, u, n, d, l, ha, hb, hc, hu, hS, rfl, _⟩ := op_open hy
      exact ⟨k, a, b, c, u, n, d, l, ha, hb, hc, hu, hS, hcs⟩
    obtain ⟨b, off, rfl⟩ : ∃ b off, ad = ⟨b, off, none⟩ := by
      obtain ⟨k, a, b, c, u, n, d, l, _, _, _, _, _, hcs⟩ := key 0 h0
      have h00 := (World.cells?_some hcs).2.2 0 (by decide)
      have h01 : W.cell? ((ad.add (0 * 163)).add 0) = some (.int .i64 k) := h00.trans rfl
      obtain ⟨b, off, sp⟩ := ad
      cases sp with
      | none => exact ⟨b, off, rfl⟩
      | some s => exfalso; simp only [World.cell?, Addr.add] at h01; split at h01 <;> simp at h01
    refine ⟨b, off, rfl, fun i hi => ⟨?_⟩⟩
    obtain ⟨k, a, xb, c, u, n, d, l, ha, hb, hc, hu, hS, hcs⟩ := key i hi
    refine ⟨k, a, xb, c, u, n, d, l, ha, hb, hc, hu, hS, fun j v hv => ?_⟩
    have hj : j < 163 := by have := (List.getElem?_eq_some_iff.1 hv).1; rwa [opc_length] at this
    have := (World.cells?_some hcs).2.2 j hj
    rw [hv] at this
    rwa [Addr.add_mid, Addr.add_mid, Nat.mul_comm i 163] at this
end Go.Proofs.YteijccjdejjbjaaDoor
namespace Go.Proofs.YteijccjdejjbjaaDoor
open Go.ChangeShapes Go.WideShapes Go.ChangeAt Go.WideMaps Go.WideElems Go.RowKit Go.Shelf ScalarNum

theorem slice_len8 {H : Type} (l r : List (DataW H)) : l.length ≤ Rows.uptoBulk (DataW.slice l r) := by
  have := len_le l
  simp only [Rows.uptoBulk]; omega
theorem slice_mem8 {H : Type} {l r : List (DataW H)} {x : DataW H} (h : x ∈ l) : Rows.uptoBulk x ≤ Rows.uptoBulk (DataW.slice l r) := by
  have := bulk_mem h
  simp only [Rows.uptoBulk]; omega
/-- the law, of a script that is handed in -/
theorem keeps_all {H : Type} {enc : TypeId × Value → H} {W : World} {d : DataW H} {ps : List MemPlace} {a : Option Addr} {len cap : Nat}
    (h : DataW.Trod enc Tryd.prog W 0 (fun _ => true) true 48 (.slice a len cap) d ps) (hb : Rows.uptoBulk d ≤ 1048576) (hG : GS W) :
    Calls Tryd.prog 13 #[.slice a len cap] W fun e w' => e = .returned (.bool true) ∧ Lain W w' := by
  obtain ⟨fuel, hf⟩ := h
  have hf' : DataW.trod enc Tryd.prog W 0 (fun _ => true) true fuel 48 [.slice a len cap] = some (d, ps) := hf
  rcases DataW.trod_slice Tryd.underlying48 hf' with ⟨e1, _⟩ | ⟨ad, l2, c2, elems, rest, n, _, e1, hd, _, _, _, hel0, hel, _, _⟩
  · simp only [List.cons.injEq, Value.slice.injEq, and_true] at e1
    obtain ⟨rfl, rfl, rfl⟩ := e1
    exact keeps_walk none 0 0 W (by decide) (fun h => absurd h (Nat.lt_irrefl _)) hG
  · simp only [List.cons.injEq, Value.slice.injEq, and_true] at e1
    obtain ⟨rfl, rfl, rfl⟩ := e1
    injection hd with hd _
    have hlen : len ≤ 1048576 := by
      have := slice_len8 (elems.map (·.1)) (rest.map (·.1))
      rw [List.length_map, ← hd] at this
      omega
    rw [cellsOp] at hel
    refine keeps_walk (some ad) len cap W hlen (fun h0 => ?_) hG
    have key : ∀ i, i < len → ∃ (k : Int) (a b c u : Nat) (n : Int) (d : Value) (l : List I8), a < M ∧ b < M ∧ c < M ∧ u < M * M ∧ Sl8 W d l ∧ l.length ≤ 1048576 ∧ -9223372036854775808 ≤ n ∧ n ≤ 9223372036854775807 ∧ W.cells? 0 (ad.add (i * 163)) 163 = some (opc k a b c u n d) := by
      intro i hi
      have h1 := hel i hi
      rw [List.getElem?_eq_getElem (by omega), Option.bind_eq_some_iff] at h1
      obtain ⟨cs, hcs, hy⟩ := h1
      obtain ⟨k, a, b, c, u, n, d', l, ha, hb', hc, hu, hS, rfl, hl, hnw⟩ := op_open hy
      have hbl : Rows.uptoBulk (elems[i]'(by omega)).1 ≤ 1048576 := by
        have := slice_mem8 (l := elems.map (·.1)) (r := rest.map (·.1)) (x := (elems[i]'(by omega)).1) (List.mem_map.2 ⟨_, List.getElem_mem _, rfl⟩)
        rw [← hd] at this
        omega
      have hnb := bounds_i64 hnw
      exact ⟨k, a, b, c, u, n, d', l, ha, hb', hc, hu, hS, by omega, hnb.1, hnb.2, hcs⟩
    obtain ⟨b, off, rfl⟩ : ∃ b off, ad = ⟨b, off, none⟩ := by
      obtain ⟨k, a, b, c, u, n, d', l, _, _, _, _, _, _, _, _, hcs⟩ := key 0 h0
      have h00 := (World.cells?_some hcs).2.2 0 (by decide)
      have h01 : W.cell? ((ad.add (0 * 163)).add 0) = some (.int .i64 k) := h00.trans rfl
      obtain ⟨b, off, sp⟩ := ad
      cases sp with
      | none => exact ⟨b, off, rfl⟩
      | some s => exfalso; simp only [World.cell?, Addr.add] at h01; split at h01 <;> simp at h01
    refine ⟨b, off, rfl, fun i hi => ⟨?_⟩⟩
    obtain ⟨k, a, xb, c, u, n, d', l, ha, hb', hc, hu, hS, hl, hn1, hn2, hcs⟩ := key i hi
    refine ⟨k, a, xb, c, u, n, d', l, ha, hb', hc, hu, hS, hl, hn1, hn2, fun j v hv => ?_⟩
    have hj : j < 163 := by have := (List.getElem?_eq_some_iff.1 hv).1; rwa [opc_length] at this
    have := (World.cells?_some hcs).2.2 j hj
    rw [hv] at this
    rwa [Addr.add_mid, Addr.add_mid, Nat.mul_comm i 163] at this
end Go.Proofs.YteijccjdejjbjaaDoor
namespace Go.Proofs.YteijccjdejjbjaaDoor
open Go.ChangeShapes Go.WideShapes Go.ChangeAt Go.WideMaps Go.WideElems Go.RowKit Go.Shelf ScalarNum

theorem gTab : Tryd.prog.globalNamed "ledger/scalar.multiples" = some 0 := by kernel_rfl
theorem tTab : (Tryd.prog.globals[0]?).map (·.type) = some 72 := by kernel_rfl
theorem cellsN : Tryd.prog.cellsOf 62 = 4 := by kernel_rfl

theorem num_read {W : World} {sp : Nat → Bool} {m : Nat} {cs : List Value} {a0 a1 a2 a3 : Int} {pl : List MemPlace}
    (h : DataW.trod (fun _ => ()) Tryd.prog W 0 sp false m 62 cs = some (.agg [.lit (.int .u64 a0), .lit (.int .u64 a1), .lit (.int .u64 a2), .lit (.int .u64 a3)], pl)) : cs = [.int .u64 a0, .int .u64 a1, .int .u64 a2, .int .u64 a3] := by
  obtain ⟨xs, m1, rfl, hx1, hlen, hn, hel⟩ := DataW.trod_array Tryd.underlying62 h
  rw [cells64] at hel
  simp only [Prod.mk.injEq] at hx1
  have hD := hx1.1
  simp only [DataW.agg.injEq] at hD
  have hl : cs.length = 4 := hlen.trans (by kernel_rfl)
  match xs, hn, hD, hel with
  | [y0, y1, y2, y3], _, hD, hel =>
    simp only [List.map_cons, List.map_nil, List.cons.injEq, and_true] at hD
    obtain ⟨d0, d1, d2, d3⟩ := hD
    have key : ∀ (i : Nat) (y : DataW Unit × List MemPlace) (z : Int), i < 4 → DataW.trod (fun _ => ()) Tryd.prog W 0 sp false m1 60 ((cs.drop (i * 1)).take 1) = some y → .lit (.int .u64 z) = y.1 → cs[i]? = some (.int .u64 z) := by
      intro i y z hi h e
      rw [Nat.mul_one, List.drop_eq_getElem_cons (by omega), List.take_succ_cons, List.take_zero] at h
      obtain ⟨z0, e0, b0, _⟩ := DataW.trod_int Tryd.underlying60 h
      simp at e0
      rw [b0] at e
      simp at e
      subst e
      rw [List.getElem?_eq_getElem (by omega)]
      simp [e0]
    have r0 := key 0 y0 _ (by decide) (hel 0 (by decide)) d0
    have r1 := key 1 y1 _ (by decide) (hel 1 (by decide)) d1
    have r2 := key 2 y2 _ (by decide) (hel 2 (by decide)) d2
    have r3 := key 3 y3 _ (by decide) (hel 3 (by decide)) d3
    match cs, hl with
    | [c0, c1, c2, c3], _ =>
      simp at r0 r1 r2 r3
      subst r0 r1 r2 r3
      rfl

theorem tab_at {W : World} {cs0 : Array Value} (hc : ∀ i, W.cell? ⟨0, i, none⟩ = cs0[i]?) (q : Nat) {l : List Value} (h : (cs0.toList.drop (q * 4)).take 4 = l) : W.rangeAt 0 (q * 4) l := by
  intro j v hv
  rw [hc, ← Array.getElem?_toList]
  rw [← h, List.getElem?_take] at hv
  split at hv
  · rw [List.getElem?_drop] at hv; exact hv
  · cases hv

theorem row_0 : wl 4 (0 * L % M) = [.int .u64 0, .int .u64 0, .int .u64 0, .int .u64 0] := by kernel_rfl
theorem row_1 : wl 4 (1 * L % M) = [.int .u64 6346243789798364141, .int .u64 1503914060200516822, .int .u64 0, .int .u64 1152921504606846976] := by kernel_rfl
theorem row_2 : wl 4 (2 * L % M) = [.int .u64 12692487579596728282, .int .u64 3007828120401033644, .int .u64 0, .int .u64 2305843009213693952] := by kernel_rfl
theorem row_3 : wl 4 (3 * L % M) = [.int .u64 591987295685540807, .int .u64 4511742180601550467, .int .u64 0, .int .u64 3458764513820540928] := by kernel_rfl
theorem row_4 : wl 4 (4 * L % M) = [.int .u64 6938231085483904948, .int .u64 6015656240802067289, .int .u64 0, .int .u64 4611686018427387904] := by kernel_rfl
theorem row_5 : wl 4 (5 * L % M) = [.int .u64 13284474875282269089, .int .u64 7519570301002584111, .int .u64 0, .int .u64 5764607523034234880] := by kernel_rfl
theorem row_6 : wl 4 (6 * L % M) = [.int .u64 1183974591371081614, .int .u64 9023484361203100934, .int .u64 0, .int .u64 6917529027641081856] := by kernel_rfl
theorem row_7 : wl 4 (7 * L % M) = [.int .u64 7530218381169445755, .int .u64 10527398421403617756, .int .u64 0, .int .u64 8070450532247928832] := by kernel_rfl
theorem row_8 : wl 4 (8 * L % M) = [.int .u64 13876462170967809896, .int .u64 12031312481604134578, .int .u64 0, .int .u64 9223372036854775808] := by kernel_rfl
theorem row_9 : wl 4 (9 * L % M) = [.int .u64 1775961887056622421, .int .u64 13535226541804651401, .int .u64 0, .int .u64 10376293541461622784] := by kernel_rfl
theorem row_10 : wl 4 (10 * L % M) = [.int .u64 8122205676854986562, .int .u64 15039140602005168223, .int .u64 0, .int .u64 11529215046068469760] := by kernel_rfl
theorem row_11 : wl 4 (11 * L % M) = [.int .u64 14468449466653350703, .int .u64 16543054662205685045, .int .u64 0, .int .u64 12682136550675316736] := by kernel_rfl
theorem row_12 : wl 4 (12 * L % M) = [.int .u64 2367949182742163228, .int .u64 18046968722406201868, .int .u64 0, .int .u64 13835058055282163712] := by kernel_rfl
theorem row_13 : wl 4 (13 * L % M) = [.int .u64 8714192972540527369, .int .u64 1104138708897167074, .int .u64 1, .int .u64 14987979559889010688] := by kernel_rfl
theorem row_14 : wl 4 (14 * L % M) = [.int .u64 15060436762338891510, .int .u64 2608052769097683896, .int .u64 1, .int .u64 16140901064495857664] := by kernel_rfl
theorem row_15 : wl 4 (15 * L % M) = [.int .u64 2959936478427704035, .int .u64 4111966829298200719, .int .u64 1, .int .u64 17293822569102704640] := by kernel_rfl
theorem row_16 : wl 4 (16 * L % M) = [.int .u64 9306180268226068176, .int .u64 5615880889498717541, .int .u64 1, .int .u64 0] := by kernel_rfl

theorem tab_of_read {W : World} {cs0 : Array Value} {f0 : Nat} {p0 : List MemPlace} {sp : Nat → Bool} (hc : ∀ i, W.cell? ⟨0, i, none⟩ = cs0[i]?)
    (hd0 : DataW.trod (fun _ => ()) Tryd.prog W 0 sp false f0 72 cs0.toList = some (Rows.laid_ledger_scalar_multiples, p0)) : Tab W := by
  obtain ⟨xs, m1, rfl, hx1, hlen, hn, hel⟩ := DataW.trod_array Tryd.underlying72 hd0
  rw [cellsN] at hel
  simp only [Prod.mk.injEq] at hx1
  have hD := hx1.1
  unfold Rows.laid_ledger_scalar_multiples at hD
  simp only [DataW.agg.injEq] at hD
  match xs, hn, hD, hel with
  | [y0, y1, y2, y3, y4, y5, y6, y7, y8, y9, y10, y11, y12, y13, y14, y15, y16], _, hD, hel =>
    simp only [List.map_cons, List.map_nil, List.cons.injEq, and_true] at hD
    obtain ⟨d0, d1, d2, d3, d4, d5, d6, d7, d8, d9, d10, d11, d12, d13, d14, d15, d16⟩ := hD
    have r0 := tab_at hc 0 (num_read (pl := y0.2) ((hel 0 (by decide)).trans (by rw [d0]; rfl)))
    have r1 := tab_at hc 1 (num_read (pl := y1.2) ((hel 1 (by decide)).trans (by rw [d1]; rfl)))
    have r2 := tab_at hc 2 (num_read (pl := y2.2) ((hel 2 (by decide)).trans (by rw [d2]; rfl)))
    have r3 := tab_at hc 3 (num_read (pl := y3.2) ((hel 3 (by decide)).trans (by rw [d3]; rfl)))
    have r4 := tab_at hc 4 (num_read (pl := y4.2) ((hel 4 (by decide)).trans (by rw [d4]; rfl)))
    have r5 := tab_at hc 5 (num_read (pl := y5.2) ((hel 5 (by decide)).trans (by rw [d5]; rfl)))
    have r6 := tab_at hc 6 (num_read (pl := y6.2) ((hel 6 (by decide)).trans (by rw [d6]; rfl)))
    have r7 := tab_at hc 7 (num_read (pl := y7.2) ((hel 7 (by decide)).trans (by rw [d7]; rfl)))
    have r8 := tab_at hc 8 (num_read (pl := y8.2) ((hel 8 (by decide)).trans (by rw [d8]; rfl)))
    have r9 := tab_at hc 9 (num_read (pl := y9.2) ((hel 9 (by decide)).trans (by rw [d9]; rfl)))
    have r10 := tab_at hc 10 (num_read (pl := y10.2) ((hel 10 (by decide)).trans (by rw [d10]; rfl)))
    have r11 := tab_at hc 11 (num_read (pl := y11.2) ((hel 11 (by decide)).trans (by rw [d11]; rfl)))
    have r12 := tab_at hc 12 (num_read (pl := y12.2) ((hel 12 (by decide)).trans (by rw [d12]; rfl)))
    have r13 := tab_at hc 13 (num_read (pl := y13.2) ((hel 13 (by decide)).trans (by rw [d13]; rfl)))
    have r14 := tab_at hc 14 (num_read (pl := y14.2) ((hel 14 (by decide)).trans (by rw [d14]; rfl)))
    have r15 := tab_at hc 15 (num_read (pl := y15.2) ((hel 15 (by decide)).trans (by rw [d15]; rfl)))
    have r16 := tab_at hc 16 (num_read (pl := y16.2) ((hel 16 (by decide)).trans (by rw [d16]; rfl)))
    intro q hq
    have hcases : q = 0 ∨ q = 1 ∨ q = 2 ∨ q = 3 ∨ q = 4 ∨ q = 5 ∨ q = 6 ∨ q = 7 ∨ q = 8 ∨ q = 9 ∨ q = 10 ∨ q = 11 ∨ q = 12 ∨ q = 13 ∨ q = 14 ∨ q = 15 ∨ q = 16 := by omega
    rcases hcases with rfl | rfl | rfl | rfl | rfl | rfl | rfl | rfl | rfl | rfl | rfl | rfl | rfl | rfl | rfl | rfl | rfl
    · rw [row_0]; exact r0
    · rw [row_1]; exact r1
    · rw [row_2]; exact r2
    · rw [row_3]; exact r3
    · rw [row_4]; exact r4
    · rw [row_5]; exact r5
    · rw [row_6]; exact r6
    · rw [row_7]; exact r7
    · rw [row_8]; exact r8
    · rw [row_9]; exact r9
    · rw [row_10]; exact r10
    · rw [row_11]; exact r11
    · rw [row_12]; exact r12
    · rw [row_13]; exact r13
    · rw [row_14]; exact r14
    · rw [row_15]; exact r15
    · rw [row_16]; exact r16

theorem tab_of_laid {W : World} (h : laidMetH Tryd.prog Rows.scalarRingRow.laid W) : Tab W := by
  rw [MakeChecks.laidMetH_plain _ _ _ (by kernel_rfl)] at h
  obtain ⟨ps, ⟨g0, t0, cs0, f0, p0, q0, hg0, ht0, hv0, hd0, _, _⟩, _, _⟩ := h
  obtain rfl := Option.some.inj (gTab.symm.trans hg0)
  obtain rfl := Option.some.inj (tTab.symm.trans ht0)
  exact tab_of_read (World.var?_cell hg0 hv0) hd0
end Go.Proofs.YteijccjdejjbjaaDoor
namespace Go.Proofs.YteijccjdejjbjaaDoor
open Go.ChangeShapes Go.WideShapes Go.ChangeAt Go.WideMaps Go.WideElems Go.RowKit Go.Shelf ScalarNum

theorem gOrd : Tryd.prog.globalNamed "ledger/ledgerref03.order" = some 1 := by kernel_rfl
theorem tOrd : (Tryd.prog.globals[1]?).map (·.type) = some 23 := by kernel_rfl
theorem ord_datum : (Rows.laid_ledger_ledgerref03_order : DataW Unit) = .agg ((List.range 32).map fun i => .lit (.int .u8 ((dg 256 L i : Nat) : Int))) := by kernel_rfl

theorem ord_of_read {W : World} {cs0 : Array Value} {f0 : Nat} {p0 : List MemPlace} {sp : Nat → Bool} (hc : ∀ i, W.cell? ⟨1, i, none⟩ = cs0[i]?)
    (hd0 : DataW.trod (fun _ => ()) Tryd.prog W 0 sp false f0 23 cs0.toList = some (Rows.laid_ledger_ledgerref03_order, p0)) : W.rangeAt 1 0 (yl 32 L) := by
  rw [ord_datum] at hd0
  obtain ⟨xs, m1, rfl, hx1, hlen, hn, hel⟩ := DataW.trod_array Tryd.underlying23 hd0
  rw [cells8] at hel
  simp only [Prod.mk.injEq] at hx1
  have hD := hx1.1
  simp only [DataW.agg.injEq] at hD
  have hl : cs0.toList.length = 32 := hlen.trans (by kernel_rfl)
  intro j v hv
  have hj : j < 32 := by
    have := (List.getElem?_eq_some_iff.1 hv).1; rwa [yl_length] at this
  rw [yl_get 32 L j hj] at hv
  injection hv with hv
  subst hv
  rw [Nat.zero_add, hc j, ← Array.getElem?_toList]
  have h1 := hel j hj
  have h2 := congrArg (·[j]?) hD
  simp only [List.getElem?_map, List.getElem?_range hj, Option.map_some] at h2
  cases hy : xs[j]? with
  | none => rw [hy] at h2; simp at h2
  | some y =>
    rw [hy] at h1 h2
    simp only [Option.map_some, Option.some.injEq] at h2
    rw [Nat.mul_one, List.drop_eq_getElem_cons (by omega), List.take_succ_cons, List.take_zero] at h1
    obtain ⟨z0, e0, b0, _⟩ := DataW.trod_int Tryd.underlying5 h1
    simp at e0
    rw [b0] at h2
    simp at h2
    rw [List.getElem?_eq_getElem (by omega)]
    simp [e0, h2]

theorem both_of_laid {W : World} (h : laidMetH Tryd.prog Rows.scalarReducesRow.laid W) : Tab W ∧ W.rangeAt 1 0 (yl 32 L) := by
  rw [MakeChecks.laidMetH_plain _ _ _ (by kernel_rfl)] at h
  obtain ⟨ps, ⟨g0, t0, cs0, f0, p0, q0, hg0, ht0, hv0, hd0, ⟨g1, t1, cs1, f1, p1, q1, hg1, ht1, hv1, hd1, _, _⟩, _⟩, _, _⟩ := h
  obtain rfl := Option.some.inj (gOrd.symm.trans hg0)
  obtain rfl := Option.some.inj (tOrd.symm.trans ht0)
  obtain rfl := Option.some.inj (gTab.symm.trans hg1)
  obtain rfl := Option.some.inj (tTab.symm.trans ht1)
  exact ⟨tab_of_read (World.var?_cell hg1 hv1) hd1, ord_of_read (World.var?_cell hg0 hv0) hd0⟩
end Go.Proofs.YteijccjdejjbjaaDoor
namespace Go.Proofs.YteijccjdejjbjaaDoor
open Go.ChangeShapes Go.WideShapes Go.ChangeAt Go.WideMaps Go.WideElems Go.RowKit Go.Shelf ScalarNum

variable {H : Type} {enc : TypeId × Value → H} {P : Program}
/-- as post_of_same, with 'not frozen' asked of what lay ahead of the call alone -/
theorem post_of_old {f : Func} {s : ChangeSpec} {apart fresh handsOn again : Bool} {W W' : World} {args : Array Value} {v : Value} {ds gs : List (DataW H)} {before pa pv : List MemPlace}
    (hW : DataW.Whole enc P f.params.toList s.vars apart W args.toList ds gs before)
    (hres : ∀ (b : Nat) (sp : Nat → Bool) (hd : Bool), DataW.TrodAll enc P W' b sp hd f.resultTypes.toList (v.resultList f.resultTypes.size) (s.fn H (ds ++ gs)).results [])
    (hargs : ∀ sp : Nat → Bool, (∀ p ∈ before, sp p.block = true) → DataW.TrodAll enc P W' 0 sp true f.params.toList args.toList (s.fn H (ds ++ gs)).args pa)
    (hvars : ∀ sp : Nat → Bool, (∀ p ∈ before, sp p.block = true) → DataW.TrodVars enc P W' sp s.vars (s.fn H (ds ++ gs)).vars pv)
    (hps : before = pa ++ pv) (hk : W.keptBut W' (· ∈ before)) (hfz : ∀ a : Addr, a.block < W.heap.size → W'.frozen? a = W.frozen? a)
    (hok : ∀ (j : Nat) (t : TypeId) (r : Value), f.resultTypes[j]? = some t → (v.resultList f.resultTypes.size)[j]? = some r → Value.okWide P W' .any 0 t r) :
    s.post enc P f apart fresh handsOn again W args v W' := by
  have hlt := fun p hp => hW.lt p hp
  have hin : ∀ p ∈ before, (fun b => decide (b < W.heap.size)) p.block = true := fun p hp => by simpa using hlt p hp
  have hW2 := hW
  obtain ⟨_, _, _, _, _, hz, hn⟩ := hW2
  refine ⟨ds, gs, before, [], pa, pv, hW, hres _ _ _, hargs _ hin, hvars _ hin, World.keptBut_mono (fun p hp => ⟨hp, Or.inr (by rw [hps, List.mem_append] at hp; exact hp)⟩) hk, fun _ => ?_⟩
  refine ⟨hok, _, _, ([] ++ pa) ++ pv, ⟨[] ++ pa, pv, trodAll_append (hargs _ (fun _ _ => rfl)) (hres _ _ _), hvars _ (fun _ _ => rfl), rfl, fun b off hp => ?_, fun ha => ?_⟩, fun p hp _ => ?_⟩
  · have hb : MemPlace.cell b off ∈ before := by rw [hps]; simpa using hp
    rw [hfz ⟨b, off, none⟩ (hlt _ hb)]
    exact hz b off hb
  · have := hn ha
    rw [hps] at this
    simpa using this
  · rw [hps]; simpa using hp


theorem lain_same {W w' : World} (h : Lain W w') {p : MemPlace} (hp : p.block < W.heap.size) : W.sameAt w' p := by
  cases p with
  | cell b o => exact World.cell?_of_block (w := W) (h.2.2.2 b hp)
  | map b => exact h.2.2.2 b hp
end Go.Proofs.YteijccjdejjbjaaDoor
