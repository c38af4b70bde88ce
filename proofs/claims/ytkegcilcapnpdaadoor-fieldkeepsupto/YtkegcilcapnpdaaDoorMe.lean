import Derived.Test.YtkegcilcapnpdaaDoorMd
import Derived.ProofKit
namespace Go.Proofs.YtkegcilcapnpdaaDoor
open Go.ChangeShapes Go.WideShapes Go.ChangeAt Go.RowKit Go.Shelf FieldNum

set_option maxRecDepth 100000 in
theorem Tryd.own : ownKnob Tryd.prog.godebug = none := by kernel_rfl

set_option maxRecDepth 100000 in
theorem exists_digits (f : Nat → Nat) (hf : ∀ i, f i < 256) : ∀ k : Nat, ∃ a : Nat, a < 256 ^ k ∧ ∀ i, i < k → a / 256 ^ i % 256 = f i
  | 0 => ⟨0, by simp, fun i hi => by omega⟩
  | k + 1 => by
    obtain ⟨a, ha, h⟩ := exists_digits f hf k
    refine ⟨a + f k * 256 ^ k, ?_, fun i hi => ?_⟩
    · rw [Nat.pow_succ]
      have := hf k
      have h2 : (f k + 1) * 256 ^ k ≤ 256 * 256 ^ k := Nat.mul_le_mul_right _ (by omega)
      rw [Nat.add_mul] at h2
      omega
    · by_cases hik : i = k
      · subst hik
        rw [Nat.add_mul_div_right _ _ (Nat.pow_pos (by decide)), Nat.div_eq_of_lt ha, Nat.zero_add, Nat.mod_eq_of_lt (hf i)]
      · have hlt : i < k := by omega
        rw [← h i hlt]
        obtain ⟨d, rfl⟩ : ∃ d, k = i + 1 + d := ⟨k - (i + 1), by omega⟩
        have e : f (i + 1 + d) * 256 ^ (i + 1 + d) = (f (i + 1 + d) * 256 ^ d * 256) * 256 ^ i := by
          rw [Nat.pow_add, Nat.pow_succ]
          simp only [Nat.mul_assoc, Nat.mul_left_comm, Nat.mul_comm]
        rw [e, Nat.add_mul_div_right _ _ (Nat.pow_pos (by decide)), Nat.add_mul_mod_self_right]

/-- what is read of 32 bytes -/
def da (H : Type) (a : Nat) : DataW H := .agg ((List.range 32).map fun i => .lit (.int .u8 ((a / 256 ^ i % 256 : Nat) : Int)))

set_option maxRecDepth 100000 in
theorem mapM_all {α β : Type} (f : α → Option β) (g : α → β) : ∀ l : List α, (∀ x ∈ l, f x = some (g x)) → l.mapM f = some (l.map g)
  | [], _ => rfl
  | x :: t, h => by
    rw [List.mapM_cons, h x (by simp), mapM_all f g t (fun y hy => h y (by simp [hy]))]
    rfl

set_option maxRecDepth 100000 in
theorem wf_byte (n : Nat) : (Lit.int .u8 ((n % 256 : Nat) : Int)).wf = true := by
  simp [Lit.wf, IntKind.min, IntKind.max, IntKind.signed, IntKind.bits]; omega

set_option maxRecDepth 100000 in
theorem cells32 : Tryd.prog.cellsOf 23 = 32 := by kernel_rfl

set_option maxRecDepth 100000 in
theorem trod32 {H : Type} (enc : TypeId × Value → H) (W : World) (base : Nat) (sp : Nat → Bool) (held : Bool) (k a : Nat) :
    DataW.trod enc Tryd.prog W base sp held (k + 2) 23 (bl a) = some (da H a, []) := by
  have h1 : ∀ i ∈ List.range 32, DataW.trod enc Tryd.prog W base sp held (k + 1) 5 (((bl a).drop (i * 1)).take 1) = some (.lit (.int .u8 ((a / 256 ^ i % 256 : Nat) : Int)), []) := by
    intro i hi
    have hi' : i < 32 := by simpa using hi
    have e : ((bl a).drop (i * 1)).take 1 = [.int .u8 ((a / 256 ^ i % 256 : Nat) : Int)] := by
      have hl := bl_length a
      have hg := bl_get a i hi'
      rw [Nat.mul_one]
      rw [List.getElem?_eq_getElem (by omega)] at hg
      rw [List.drop_eq_getElem_cons (by omega), List.take_succ_cons, List.take_zero]
      injection hg with hg
      rw [hg]
    rw [e]
    unfold DataW.trod
    rw [Tryd.underlying5]
    simp only [wf_byte, and_self, ↓reduceIte]
  unfold DataW.trod
  rw [Tryd.underlying23]
  simp only [bl_length, cells32, ↓reduceIte, cells8]
  rw [mapM_all _ _ _ h1]
  simp [da, Function.comp_def]

set_option maxRecDepth 100000 in
theorem open32 {H : Type} {enc : TypeId × Value → H} {W : World} {base : Nat} {v : Value} {d : DataW H} {q : List MemPlace}
    (hval : Value.okWide Tryd.prog W .any base 23 v) (h : DataW.Trod enc Tryd.prog W 0 (fun _ => true) true 23 v d q) :
    ∃ a : Nat, a < M ∧ v = bv a ∧ d = da H a ∧ q = [] := by
  obtain ⟨cs, rfl, hsz, _⟩ : ∃ cs, v = .agg cs ∧ cs.size = Tryd.prog.cellsOf 23 ∧ Row.okWide Tryd.prog W .any base 23 cs := by
    simpa [Value.okWide, Tryd.underlying23] using hval
  rw [cells32] at hsz
  obtain ⟨l⟩ := cs
  obtain ⟨fuel, hf⟩ := h
  have hf' : DataW.trod enc Tryd.prog W 0 (fun _ => true) true fuel 23 l = some (d, q) := hf
  obtain ⟨xs, m, rfl, hx, hlen, hxl, hel⟩ := DataW.trod_array Tryd.underlying23 hf'
  rw [cells8] at hel
  have hl : l.length = 32 := by simpa using hsz
  have hcell : ∀ i, i < 32 → ∃ n : Nat, n < 256 ∧ l[i]? = some (.int .u8 (n : Int)) := by
    intro i hi
    have h1 := hel i hi
    rw [Nat.mul_one, List.drop_eq_getElem_cons (by omega), List.take_succ_cons, List.take_zero, List.getElem?_eq_getElem (by omega)] at h1
    obtain ⟨z, e0, _, w0⟩ := DataW.trod_int Tryd.underlying5 h1
    simp at e0
    have hb : 0 ≤ z ∧ z ≤ 255 := by
      simpa [Lit.wf, IntKind.min, IntKind.max, IntKind.signed, IntKind.bits] using w0
    refine ⟨z.toNat, by omega, ?_⟩
    rw [List.getElem?_eq_getElem (by omega), e0]
    congr 2
    omega
  obtain ⟨a, ha, hd⟩ := exists_digits (fun i => if hi : i < 32 then (hcell i hi).choose else 0) (fun i => by
    by_cases hi : i < 32
    · simp only [hi, ↓reduceDIte]; exact (hcell i hi).choose_spec.1
    · simp [hi]) 32
  have e32 : 256 ^ 32 = M := by decide
  rw [e32] at ha
  have el : l = bl a := by
    apply List.ext_getElem?
    intro i
    by_cases hi : i < 32
    · rw [bl_get a i hi, hd i hi]
      simp only [hi, ↓reduceDIte]
      exact (hcell i hi).choose_spec.2
    · rw [List.getElem?_eq_none (by omega), List.getElem?_eq_none (by rw [bl_length]; omega)]
  subst el
  have hm : m ≠ 0 := by
    rintro rfl
    have h1 := hel 0 (by decide)
    rw [List.getElem?_eq_getElem (by omega)] at h1
    simp [DataW.trod] at h1
  obtain ⟨m', rfl⟩ := Nat.exists_eq_succ_of_ne_zero hm
  have := trod32 enc W 0 (fun _ => true) true m' a
  rw [hf'] at this
  injection this with this
  injection this with e1 e2
  exact ⟨a, ha, rfl, e1, e2⟩

set_option maxRecDepth 100000 in
theorem shut32 {H : Type} (enc : TypeId × Value → H) (W : World) (sp : Nat → Bool) (a : Nat) : DataW.Trod enc Tryd.prog W 0 sp true 23 (bv a) (da H a) [] := ⟨2, trod32 enc W 0 sp true 0 a⟩
end Go.Proofs.YtkegcilcapnpdaaDoor

namespace Go.Proofs.YtkegcilcapnpdaaDoor
open Go.RowKit Go.Shelf FieldNum

set_option maxRecDepth 100000 in
theorem words_eq_iff {m n : Nat} (hm : m < M) (hn : n < M) : (∀ i ∈ List.range 4, ((m / 256 ^ (8 * i) % 18446744073709551616 : Nat) : Int) = ((n / 256 ^ (8 * i) % 18446744073709551616 : Nat) : Int)) ↔ m = n := by
  constructor
  · intro h
    have h0 := h 0 (by simp)
    have h1 := h 1 (by simp)
    have h2 := h 2 (by simp)
    have h3 := h 3 (by simp)
    simp only [Nat.mul_zero, Nat.mul_one, Nat.reduceMul, Nat.reducePow] at h0 h1 h2 h3
    unfold M at *
    omega
  · rintro rfl i _; rfl

/-- a number's words as cells -/
def nl (n : Nat) : List Value := (List.range 4).map fun i => .int .u64 ((n / 256 ^ (8 * i) % 18446744073709551616 : Nat) : Int)
set_option maxRecDepth 100000 in
theorem nl_get (n i : Nat) (h : i < 4) : (nl n)[i]? = some (.int .u64 ((n / 256 ^ (8 * i) % 18446744073709551616 : Nat) : Int)) := by simp [nl, h]
set_option maxRecDepth 100000 in
theorem nl_length (n : Nat) : (nl n).length = 4 := by simp [nl]
set_option maxRecDepth 100000 in
theorem numV_nl (n : Nat) : numV n = .agg (nl n).toArray := rfl

set_option maxRecDepth 100000 in
theorem equalN (d : Nat) (m n : Nat) (hm : m < M) (hn : n < M) (w : World) : (Op.equalIn (d + 2) 66 (numV m) (numV n)).run Tryd.prog w = .ok (decide (m = n)) w := by
  obtain ⟨i, hi⟩ : ∃ i, Tryd.prog.info? 64 = some i := Option.isSome_iff_exists.1 (by kernel_rfl)
  rw [numV_nl, numV_nl]
  rw [run_equalIn_array (w := w) (d + 1) _ _ Tryd.underlying66 hi, cells64]
  rw [eqItems_ints d 64 .u64 .u64 Tryd.underlying64 (fun xs j v w hv => by rw [Nat.mul_one]; exact run_part_plain (w := w) (by kernel_rfl) hv) (fun j => ((m / 256 ^ (8 * j) % 18446744073709551616 : Nat) : Int)) (fun j => ((n / 256 ^ (8 * j) % 18446744073709551616 : Nat) : Int)) _ _ w (List.range 4)
    (fun j hj => by rw [List.getElem?_toArray]; exact nl_get m j (by simpa using hj)) (fun j hj => by rw [List.getElem?_toArray]; exact nl_get n j (by simpa using hj))]
  simp only [words_eq_iff hm hn]

set_option maxRecDepth 100000 in
theorem exec_eqlN {o : Oper} {ρ : Operand → Value} {x y : Operand} {t : TypeId} (ho : o.op = .binOp .eql 66 x y t) (m n : Nat) (hx : ρ x = numV m) (hy : ρ y = numV n) (hm : m < M) (hn : n < M) (w : World) :
    (execOp ρ o).run Tryd.prog w = .ok (.value (.bool (decide (m = n)))) w := by
  have he := equalN 9998 m n hm hn w
  rw [numV_nl, numV_nl] at he
  rw [numV_nl] at hx hy
  unfold execOp
  simp only [ho, hx, hy, Sem.run_bind, run_eqGuard_agg (P := Tryd.prog) (w := w) .eql 66 x y _ _ Tryd.eqGuardType66, run_eql_struct, he, Result.andThen_ok, Sem.run_pure]
end Go.Proofs.YtkegcilcapnpdaaDoor

namespace Go.Proofs.YtkegcilcapnpdaaDoor
open Go.RowKit Go.Shelf FieldNum

set_option maxRecDepth 100000 in
theorem Hid.of {q : Prop} (h : q) : Hid q := h

/-- the table of the way -/
def PW : List Value := [.int .i64 1, .int .i64 0, .int .i64 2, .int .i64 1, .int .i64 1, .int .i64 0, .int .i64 5, .int .i64 3, .int .i64 10, .int .i64 4, .int .i64 20, .int .i64 5, .int .i64 10, .int .i64 4, .int .i64 50, .int .i64 7, .int .i64 100, .int .i64 8, .int .i64 50, .int .i64 7]
/-- the exponents on the way -/
def EX : List Nat := [1, 3, 15, 31, 1023, 1048575, 1099511627775, 1125899906842623, 1267650600228229401496703205375, 1606938044258990275541962092341162602522202993782792835301375, 1809251394333065553493296640760748560207343510400633813116524750123642650623]

set_option maxRecDepth 100000 in
theorem infoN : (Tryd.prog.info? 66).map (·.size) = some 4 := by kernel_rfl
set_option maxRecDepth 100000 in
theorem nl_one (n : Nat) : ∀ v ∈ nl n, v.oneCell' = true := by
  intro v hv
  simp only [nl, List.mem_map] at hv
  obtain ⟨i, _, rfl⟩ := hv
  rfl

section
variable {ops : Array Oper} {Q : Exit → Act → World → Prop} {md : Region.Mode} {S : World → Prop} {fuel : Nat} {listed : Array Bool} {a : Act} {w : World}

set_option maxRecDepth 100000 in
/-- a load of a number is taken first -/
theorem takeN (i : Nat) (n b off : Nat) {oi : Oper} (hi : ops.toList[i]? = some oi) (hs : Region.noSelect ops = true) (hf : Region.free md ops listed i = true) (hr : (Region.ready md ops listed).contains i = true)
    (hQ : ∀ c a w, Q (.panic c) (a.put oi.dst (numV n)) w → Q (.panic c) a w) (hw : Region.wanted oi (yielded ops a.tmps) = true) {x : Operand} (ho : oi.op = .load 66 x)
    (hx : a.eval x = .pointer (some ⟨b, off, none⟩)) (hS : ∀ w, S w → w.rangeAt b off (nl n)) (hSw : S w)
    (h : wpAnyH Tryd.prog md ops Q S fuel (listed.setIfInBounds i true) (a.put oi.dst (numV n)) w) : wpAnyH Tryd.prog md ops Q S (fuel + 1) listed a w :=
  wpAnyH_take (i := i) (oi := oi) (v := numV n) (by rw [← Array.getElem?_toList]; exact hi) hs hf hr hQ
    (yieldsIf_load_mid hw 66 x ho b off hx (nl n) _ hS Tryd.underlying66 rfl (by rw [nl_length]; exact infoN)) hSw h

set_option maxRecDepth 100000 in
/-- a store of a number -/
theorem storeN {o : Oper} {K : Act → World → Prop} (n b off : Nat) {x y : Operand} (ho : o.op = .store 66 x y) (hw : Region.wanted o (yielded ops a.tmps) = true)
    (hx : a.eval x = .pointer (some ⟨b, off, none⟩)) (hy : a.eval y = numV n) (ht : w.there b off 4) (h : ∀ w2, w2 = w.setCells b off (nl n) → K (a.put o.dst undef) w2) :
    if Region.wanted o (yielded ops a.tmps) = true then Oper.wp Tryd.prog o a w K Q else K (a.put o.dst undef) w := by
  rw [if_pos hw]
  exact wp_store_mid 66 x y ho b off (nl n).toArray hx hy (by rw [List.size_toArray, nl_length]; exact ht) (by rw [List.size_toArray, nl_length]; exact infoN) (all_oneCell_toArray (nl_one n)) (h _ rfl)
end

/-- what the variables of longPower hold -/
structure LP (w0 : World) (rb r : Nat) (zs : List Nat) (wr : World) : Prop where
  rows : ∀ j z, zs[j]? = some z → wr.rangeAt rb (4 * j) (nl z)
  th : wr.there rb 0 44
  tr : wr.there r 0 4
  rr : rb ≠ r
  gw : w0.heap.size ≤ rb
  grown : Grown w0 wr

set_option maxRecDepth 100000 in
theorem LP.grow {w0 wr w' : World} {rb r : Nat} {zs : List Nat} (h : LP w0 rb r zs wr) (hg : Grown wr w') : LP w0 rb r zs w' :=
  ⟨fun j z hj => rangeAt_grown (h.rows j z hj) hg, there_grown h.th hg, there_grown h.tr hg, h.rr, h.gw, grown_trans h.grown hg⟩

set_option maxRecDepth 100000 in
theorem LP.there4 {w0 wr : World} {rb r : Nat} {zs : List Nat} (h : LP w0 rb r zs wr) (o : Nat) (ho : o + 4 ≤ 44) : wr.there rb o 4 := by
  intro j hj
  have := h.th (o + j) (by omega)
  rwa [Nat.zero_add] at this

set_option maxRecDepth 100000 in
theorem LP.push {w0 wr w3 : World} {rb r : Nat} {zs : List Nat} (h : LP w0 rb r zs wr) (t : Nat) {k : Nat} (hk : zs.length = k + 1) (hk2 : k + 1 < 11) (hw3 : w3 = wr.setCells rb (4 * (k + 1)) (nl t)) : LP w0 rb r (zs ++ [t]) w3 := by
  subst hw3
  refine ⟨fun j z hj => ?_, World.there_setCells h.th _ _ _, World.there_setCells h.tr _ _ _, h.rr, h.gw, grown_setCells h.gw _ _ h.grown⟩
  by_cases hlt : j < zs.length
  · rw [List.getElem?_append_left hlt] at hj
    exact World.rangeAt_setCells_apart (h.rows j z hj) _ _ _ (by right; left; rw [nl_length]; omega)
  · rw [List.getElem?_append_right (by omega)] at hj
    have hj0 : j - zs.length = 0 := by
      have := (List.getElem?_eq_some_iff.1 hj).1
      simp at this; omega
    rw [hj0] at hj
    simp at hj
    subst hj
    have : j = k + 1 := by omega
    subst this
    exact World.rangeAt_setCells_same _ _ _ _ (by rw [nl_length]; exact h.there4 _ (by omega))

/-- .. and the row of the table -/
structure Sx (w0 : World) (rb r : Nat) (zs : List Nat) (sb : Nat) (s q : Int) (wr : World) : Prop where
  lp : LP w0 rb r zs wr
  c0 : wr.cell? ⟨sb, 0, none⟩ = some (.int .i64 s)
  c1 : wr.cell? ⟨sb, 1, none⟩ = some (.int .i64 q)
  ne : rb ≠ sb

set_option maxRecDepth 100000 in
theorem Sx.grown {w0 wr w' : World} {rb r : Nat} {zs : List Nat} {sb : Nat} {s q : Int} (h : Sx w0 rb r zs sb s q wr) (hg : Grown wr w') : Sx w0 rb r zs sb s q w' := by
  have hb : sb < wr.heap.size := block_lt_of_cell h.c0
  exact ⟨h.lp.grow hg, (grown_cell hg sb 0 hb).trans h.c0, (grown_cell hg sb 1 hb).trans h.c1, h.ne⟩

set_option maxRecDepth 100000 in
theorem Sx.start {w0 wr : World} {rb r : Nat} {zs : List Nat} (h : LP w0 rb r zs wr) (s q : Int) (T : TypeId) :
    Sx w0 rb r zs wr.heap.size s q (wr.alloc (Obj.cells #[Value.int IntKind.i64 s, Value.int IntKind.i64 q] T)).drew := by
  have hb : rb < wr.heap.size := by
    obtain ⟨v, hv⟩ := Option.isSome_iff_exists.1 (h.th 0 (by decide)).1
    exact block_lt_of_cell hv
  have e := heap_alloc_new wr (Obj.cells #[Value.int IntKind.i64 s, Value.int IntKind.i64 q] T)
  refine ⟨(h.grow (Grown.alloc (Grown.refl _) _ _)).grow (Grown.drew (Grown.refl _)), ?_, ?_, by omega⟩
  · exact (cell_of_row _ _ 0 _ _ _ e)
  · exact (cell_of_row _ _ 1 _ _ _ e)

set_option maxRecDepth 100000 in
theorem Sx.stored {w0 wr w3 : World} {rb r : Nat} {zs : List Nat} {sb : Nat} {s q : Int} {o t : Nat} (h : Sx w0 rb r zs sb s q wr) (ho : 4 * zs.length ≤ o) (hw3 : w3 = wr.setCells rb o (nl t)) : Sx w0 rb r zs sb s q w3 := by
  subst hw3
  have hc : ∀ i, (wr.setCells rb o (nl t)).cell? ⟨sb, i, none⟩ = wr.cell? ⟨sb, i, none⟩ := fun i => World.cell?_setCells_out rb _ _ _ _ (fun e => absurd e.symm h.ne)
  refine ⟨⟨fun j z hj => ?_, World.there_setCells h.lp.th _ _ _, World.there_setCells h.lp.tr _ _ _, h.lp.rr, h.lp.gw, grown_setCells h.lp.gw _ _ h.lp.grown⟩, (hc 0).trans h.c0, (hc 1).trans h.c1, h.ne⟩
  have hjl := (List.getElem?_eq_some_iff.1 hj).1
  exact World.rangeAt_setCells_apart (h.lp.rows j z hj) _ _ _ (by right; left; rw [nl_length]; omega)

/-- the numbers on the way are the powers -/
def Way (x : Nat) (zs : List Nat) : Prop := ∀ j z, zs[j]? = some z → z < M ∧ z % p = x ^ (EX.getD j 0) % p

set_option maxRecDepth 100000 in
theorem zs_push {x : Nat} {zs : List Nat} (h : Way x zs) (t : Nat) {k : Nat} (hk : zs.length = k + 1) (ht : t < M) (e : t % p = x ^ (EX.getD (k + 1) 0) % p) : Way x (zs ++ [t]) := by
  intro j z hj
  by_cases hlt : j < zs.length
  · rw [List.getElem?_append_left hlt] at hj
    exact h j z hj
  · rw [List.getElem?_append_right (by omega)] at hj
    have hj0 : j - zs.length = 0 := by
      have := (List.getElem?_eq_some_iff.1 hj).1
      simp at this; omega
    rw [hj0] at hj
    simp at hj
    subst hj
    have : j = k + 1 := by omega
    subst this
    exact ⟨ht, e⟩

set_option maxRecDepth 100000 in
theorem pw_step {x zk zp u t ek ep s : Nat} (h1 : zk % p = x ^ ek % p) (h2 : zp % p = x ^ ep % p) (h3 : u % p = zk ^ (2 ^ s) % p) (h4 : t % p = u * zp % p) : t % p = x ^ (ek * 2 ^ s + ep) % p := by
  rw [h4, Nat.mul_mod, h3, h2, Nat.pow_mod zk, h1, ← Nat.pow_mod, ← Nat.mul_mod, ← Nat.pow_mul, ← Nat.pow_add]

end Go.Proofs.YtkegcilcapnpdaaDoor

namespace Go.Proofs.YtkegcilcapnpdaaDoor
open Go.RowKit Go.Shelf FieldNum

theorem resultN {fn : Func} {q : Tmp} (h : fn.results = #[.cell q 66]) (tmps : Array Value) (w : World) (b n : Nat)
    (hp : tmps.getD q undef = .pointer (some ⟨b, 0, none⟩)) (hc : w.rangeAt b 0 (nl n)) : (results fn tmps).run Tryd.prog w = .ok (numV n) w := by
  have hp' : tmps[q]?.getD undef = .pointer (some ⟨b, 0, none⟩) := by simpa using hp
  simp [results, h, hp', asAddr, run_loadVar_mid w b 0 66 (nl n) _ hc Tryd.underlying66 rfl (by rw [nl_length]; exact infoN), numV_nl]

theorem infoT : (Tryd.prog.info? 104).map (·.size) = some 20 := by kernel_rfl

set_option maxRecDepth 100000 in
set_option maxHeartbeats 4000000 in
theorem longPower_num (x : Nat) (hx : x < M) (w : World) (hG : w.rangeAt 5 0 PW) :
    Calls Tryd.prog 80 #[numV x] w fun e w' => (∃ z, e = .returned (numV z) ∧ z < M ∧ z % p = x ^ (EX.getD 10 0) % p) ∧ Grown w w' := by
  obtain ⟨x0, x1, x2, x3, ex, _, _, _, _, _⟩ := words_of_num x hx
  have enl : nl x = [.int .u64 x0, .int .u64 x1, .int .u64 x2, .int .u64 x3] := by
    rw [numV_nl] at ex
    injection ex with ex
    exact congrArg Array.toList ex
  have hL0 : LP w (w.heap.size + 1 + 1) (w.heap.size + 1) [x] (((w.alloc (Obj.cells #[Value.int IntKind.u64 x0, Value.int IntKind.u64 x1, Value.int IntKind.u64 x2, Value.int IntKind.u64 x3] 66)).alloc (Obj.cells #[Value.int IntKind.u64 0, Value.int IntKind.u64 0, Value.int IntKind.u64 0, Value.int IntKind.u64 0] 66)).alloc (Obj.cells #[Value.int IntKind.u64 x0, Value.int IntKind.u64 x1, Value.int IntKind.u64 x2, Value.int IntKind.u64 x3, Value.int IntKind.u64 0, Value.int IntKind.u64 0, Value.int IntKind.u64 0, Value.int IntKind.u64 0, Value.int IntKind.u64 0, Value.int IntKind.u64 0, Value.int IntKind.u64 0, Value.int IntKind.u64 0, Value.int IntKind.u64 0, Value.int IntKind.u64 0, Value.int IntKind.u64 0, Value.int IntKind.u64 0, Value.int IntKind.u64 0, Value.int IntKind.u64 0, Value.int IntKind.u64 0, Value.int IntKind.u64 0, Value.int IntKind.u64 0, Value.int IntKind.u64 0, Value.int IntKind.u64 0, Value.int IntKind.u64 0, Value.int IntKind.u64 0, Value.int IntKind.u64 0, Value.int IntKind.u64 0, Value.int IntKind.u64 0, Value.int IntKind.u64 0, Value.int IntKind.u64 0, Value.int IntKind.u64 0, Value.int IntKind.u64 0, Value.int IntKind.u64 0, Value.int IntKind.u64 0, Value.int IntKind.u64 0, Value.int IntKind.u64 0, Value.int IntKind.u64 0, Value.int IntKind.u64 0, Value.int IntKind.u64 0, Value.int IntKind.u64 0, Value.int IntKind.u64 0, Value.int IntKind.u64 0, Value.int IntKind.u64 0, Value.int IntKind.u64 0] 102)) := by
    have e2 : (((w.alloc (Obj.cells #[Value.int IntKind.u64 x0, Value.int IntKind.u64 x1, Value.int IntKind.u64 x2, Value.int IntKind.u64 x3] 66)).alloc (Obj.cells #[Value.int IntKind.u64 0, Value.int IntKind.u64 0, Value.int IntKind.u64 0, Value.int IntKind.u64 0] 66)).alloc (Obj.cells #[Value.int IntKind.u64 x0, Value.int IntKind.u64 x1, Value.int IntKind.u64 x2, Value.int IntKind.u64 x3, Value.int IntKind.u64 0, Value.int IntKind.u64 0, Value.int IntKind.u64 0, Value.int IntKind.u64 0, Value.int IntKind.u64 0, Value.int IntKind.u64 0, Value.int IntKind.u64 0, Value.int IntKind.u64 0, Value.int IntKind.u64 0, Value.int IntKind.u64 0, Value.int IntKind.u64 0, Value.int IntKind.u64 0, Value.int IntKind.u64 0, Value.int IntKind.u64 0, Value.int IntKind.u64 0, Value.int IntKind.u64 0, Value.int IntKind.u64 0, Value.int IntKind.u64 0, Value.int IntKind.u64 0, Value.int IntKind.u64 0, Value.int IntKind.u64 0, Value.int IntKind.u64 0, Value.int IntKind.u64 0, Value.int IntKind.u64 0, Value.int IntKind.u64 0, Value.int IntKind.u64 0, Value.int IntKind.u64 0, Value.int IntKind.u64 0, Value.int IntKind.u64 0, Value.int IntKind.u64 0, Value.int IntKind.u64 0, Value.int IntKind.u64 0, Value.int IntKind.u64 0, Value.int IntKind.u64 0, Value.int IntKind.u64 0, Value.int IntKind.u64 0, Value.int IntKind.u64 0, Value.int IntKind.u64 0, Value.int IntKind.u64 0, Value.int IntKind.u64 0] 102)).heap[w.heap.size + 1 + 1]? = some (Obj.cells #[Value.int IntKind.u64 x0, Value.int IntKind.u64 x1, Value.int IntKind.u64 x2, Value.int IntKind.u64 x3, Value.int IntKind.u64 0, Value.int IntKind.u64 0, Value.int IntKind.u64 0, Value.int IntKind.u64 0, Value.int IntKind.u64 0, Value.int IntKind.u64 0, Value.int IntKind.u64 0, Value.int IntKind.u64 0, Value.int IntKind.u64 0, Value.int IntKind.u64 0, Value.int IntKind.u64 0, Value.int IntKind.u64 0, Value.int IntKind.u64 0, Value.int IntKind.u64 0, Value.int IntKind.u64 0, Value.int IntKind.u64 0, Value.int IntKind.u64 0, Value.int IntKind.u64 0, Value.int IntKind.u64 0, Value.int IntKind.u64 0, Value.int IntKind.u64 0, Value.int IntKind.u64 0, Value.int IntKind.u64 0, Value.int IntKind.u64 0, Value.int IntKind.u64 0, Value.int IntKind.u64 0, Value.int IntKind.u64 0, Value.int IntKind.u64 0, Value.int IntKind.u64 0, Value.int IntKind.u64 0, Value.int IntKind.u64 0, Value.int IntKind.u64 0, Value.int IntKind.u64 0, Value.int IntKind.u64 0, Value.int IntKind.u64 0, Value.int IntKind.u64 0, Value.int IntKind.u64 0, Value.int IntKind.u64 0, Value.int IntKind.u64 0, Value.int IntKind.u64 0] 102) := by
      have := heap_alloc_new ((w.alloc (Obj.cells #[Value.int IntKind.u64 x0, Value.int IntKind.u64 x1, Value.int IntKind.u64 x2, Value.int IntKind.u64 x3] 66)).alloc (Obj.cells #[Value.int IntKind.u64 0, Value.int IntKind.u64 0, Value.int IntKind.u64 0, Value.int IntKind.u64 0] 66)) (Obj.cells #[Value.int IntKind.u64 x0, Value.int IntKind.u64 x1, Value.int IntKind.u64 x2, Value.int IntKind.u64 x3, Value.int IntKind.u64 0, Value.int IntKind.u64 0, Value.int IntKind.u64 0, Value.int IntKind.u64 0, Value.int IntKind.u64 0, Value.int IntKind.u64 0, Value.int IntKind.u64 0, Value.int IntKind.u64 0, Value.int IntKind.u64 0, Value.int IntKind.u64 0, Value.int IntKind.u64 0, Value.int IntKind.u64 0, Value.int IntKind.u64 0, Value.int IntKind.u64 0, Value.int IntKind.u64 0, Value.int IntKind.u64 0, Value.int IntKind.u64 0, Value.int IntKind.u64 0, Value.int IntKind.u64 0, Value.int IntKind.u64 0, Value.int IntKind.u64 0, Value.int IntKind.u64 0, Value.int IntKind.u64 0, Value.int IntKind.u64 0, Value.int IntKind.u64 0, Value.int IntKind.u64 0, Value.int IntKind.u64 0, Value.int IntKind.u64 0, Value.int IntKind.u64 0, Value.int IntKind.u64 0, Value.int IntKind.u64 0, Value.int IntKind.u64 0, Value.int IntKind.u64 0, Value.int IntKind.u64 0, Value.int IntKind.u64 0, Value.int IntKind.u64 0, Value.int IntKind.u64 0, Value.int IntKind.u64 0, Value.int IntKind.u64 0, Value.int IntKind.u64 0] 102)
      simpa using this
    refine ⟨fun j z hj => ?_, ?_, ?_, by omega, by omega, by go_grown⟩
    · have hj0 : j = 0 := by
        have := (List.getElem?_eq_some_iff.1 hj).1
        simp at this; omega
      subst hj0
      simp at hj
      subst hj
      rw [enl]
      intro i v hv
      rw [cell_of_row _ _ _ _ _ _ e2]
      have hi : i < 4 := by have := (List.getElem?_eq_some_iff.1 hv).1; simpa using this
      have : i = 0 ∨ i = 1 ∨ i = 2 ∨ i = 3 := by omega
      rcases this with rfl | rfl | rfl | rfl <;> exact hv
    · intro j hj
      refine ⟨?_, frozen_of_row _ _ _ _ _ e2⟩
      rw [cell_of_row _ _ _ _ _ _ e2]
      simp; omega
    · have h1 : ((w.alloc (Obj.cells #[Value.int IntKind.u64 x0, Value.int IntKind.u64 x1, Value.int IntKind.u64 x2, Value.int IntKind.u64 x3] 66)).alloc (Obj.cells #[Value.int IntKind.u64 0, Value.int IntKind.u64 0, Value.int IntKind.u64 0, Value.int IntKind.u64 0] 66)).there (w.heap.size + 1) 0 4 := by
        have := there_alloc_new (w.alloc (Obj.cells #[Value.int IntKind.u64 x0, Value.int IntKind.u64 x1, Value.int IntKind.u64 x2, Value.int IntKind.u64 x3] 66)) 66 #[Value.int IntKind.u64 0, Value.int IntKind.u64 0, Value.int IntKind.u64 0, Value.int IntKind.u64 0] 4 (by simp)
        rwa [show (w.alloc (Obj.cells #[Value.int IntKind.u64 x0, Value.int IntKind.u64 x1, Value.int IntKind.u64 x2, Value.int IntKind.u64 x3] 66)).heap.size = w.heap.size + 1 by simp] at this
      exact there_grown h1 (Grown.alloc (Grown.refl _) _ _)
  have hG0 := rangeAt_grown hG hL0.grown
  rw [ex]
  go_enter Tryd.func80, Tryd.ntmps80
  go_wp2_with (with_reducible show wpList _ _ _ ({ dst := _, op := Op.load 104 _, type := _, pos := _, after := _, guard := _ } :: _) _ _; refine Shut.out ?_)
  show wpList _ _ _ _ _ _
  refine wpList_load_mid rfl 104 _ rfl 5 0 rfl PW _ hG0 Tryd.underlying104 rfl infoT ?_
  simp only [Act.put, List.setIfInBounds_toArray, List.set_cons_zero, List.set_cons_succ]
  generalize (((w.alloc (Obj.cells #[Value.int IntKind.u64 x0, Value.int IntKind.u64 x1, Value.int IntKind.u64 x2, Value.int IntKind.u64 x3] 66)).alloc (Obj.cells #[Value.int IntKind.u64 0, Value.int IntKind.u64 0, Value.int IntKind.u64 0, Value.int IntKind.u64 0] 66)).alloc (Obj.cells #[Value.int IntKind.u64 x0, Value.int IntKind.u64 x1, Value.int IntKind.u64 x2, Value.int IntKind.u64 x3, Value.int IntKind.u64 0, Value.int IntKind.u64 0, Value.int IntKind.u64 0, Value.int IntKind.u64 0, Value.int IntKind.u64 0, Value.int IntKind.u64 0, Value.int IntKind.u64 0, Value.int IntKind.u64 0, Value.int IntKind.u64 0, Value.int IntKind.u64 0, Value.int IntKind.u64 0, Value.int IntKind.u64 0, Value.int IntKind.u64 0, Value.int IntKind.u64 0, Value.int IntKind.u64 0, Value.int IntKind.u64 0, Value.int IntKind.u64 0, Value.int IntKind.u64 0, Value.int IntKind.u64 0, Value.int IntKind.u64 0, Value.int IntKind.u64 0, Value.int IntKind.u64 0, Value.int IntKind.u64 0, Value.int IntKind.u64 0, Value.int IntKind.u64 0, Value.int IntKind.u64 0, Value.int IntKind.u64 0, Value.int IntKind.u64 0, Value.int IntKind.u64 0, Value.int IntKind.u64 0, Value.int IntKind.u64 0, Value.int IntKind.u64 0, Value.int IntKind.u64 0, Value.int IntKind.u64 0, Value.int IntKind.u64 0, Value.int IntKind.u64 0, Value.int IntKind.u64 0, Value.int IntKind.u64 0, Value.int IntKind.u64 0, Value.int IntKind.u64 0] 102)) = W0 at hL0 ⊢
  clear hG0 enl
  unfold PW
  go_wp2
  go_loopw [9] (fun v9 wr => ∃ (k : Nat) (zs : List Nat), v9 = .int .i64 k ∧ k ≤ 10 ∧ zs.length = k + 1 ∧ Way x zs ∧ LP w (w.heap.size + 1 + 1) (w.heap.size + 1) zs wr) (fun v9 _ => (10 - intOf v9).toNat)
  case atStart =>
    refine ⟨0, [x], rfl, by decide, rfl, ?_, hL0⟩
    intro j z hj
    have hj0 : j = 0 := by
      have := (List.getElem?_eq_some_iff.1 hj).1
      simp at this; omega
    subst hj0
    simp at hj
    subst hj
    exact ⟨hx, by simp [EX]⟩
  case round =>
    obtain ⟨k, zs, rfl, hk, hlen, hz, hL⟩ := hrel
    clear hL0
    by_cases h10 : k = 10
    · subst h10
      obtain ⟨z, hzz⟩ : ∃ z, zs[10]? = some z := ⟨_, List.getElem?_eq_getElem (by omega)⟩
      obtain ⟨bz, ez⟩ := hz 10 z hzz
      have rz := hL.rows 10 z hzz
      have htr := hL.tr
      have hgw := hL.grown
      clear hz hL
      go_wp2_with (with_reducible show wpList _ _ _ ({ dst := _, op := Op.load 66 _, type := _, pos := _, after := _, guard := _ } :: _) _ _; refine Shut.out ?_)
      show wpList _ _ _ _ _ _
      refine wpList_load_mid rfl 66 _ rfl (w.heap.size + 1 + 1) 40 rfl (nl z) _ rz Tryd.underlying66 rfl (by rw [nl_length]; exact infoN) ?_
      simp only [Act.put, List.setIfInBounds_toArray, List.set_cons_zero, List.set_cons_succ]
      refine wpList_store_mid rfl 66 _ _ rfl (w.heap.size + 1) 0 (nl z).toArray rfl rfl (by rw [show (nl z).toArray.size = 4 from by rw [List.size_toArray, nl_length]]; exact htr) (by rw [List.size_toArray, nl_length]; exact infoN) (all_oneCell_toArray (nl_one z)) ?_
      simp only [Act.put]
      apply wpList_nil
      repeat go_step
      refine bodyPost_ret (v := numV z) (resultN Tryd.results80 _ _ (w.heap.size + 1) z ?hp (World.rangeAt_setCells_same wr (w.heap.size + 1) 0 (nl z) (by rw [nl_length]; exact htr))) ?hd ?_
      case hp => rfl
      case hd => rfl
      exact ⟨⟨z, rfl, bz, ez⟩, grown_setCells (by omega) _ _ hgw⟩
    rcases (by omega : k = 0 ∨ k = 1 ∨ k = 2 ∨ k = 3 ∨ k = 4 ∨ k = 5 ∨ k = 6 ∨ k = 7 ∨ k = 8 ∨ k = 9) with rfl | rfl | rfl | rfl | rfl | rfl | rfl | rfl | rfl | rfl
    · -- round 0
      obtain ⟨zk, hzk⟩ : ∃ z, zs[0]? = some z := ⟨_, List.getElem?_eq_getElem (by omega)⟩
      obtain ⟨zp, hzp⟩ : ∃ z, zs[0]? = some z := ⟨_, List.getElem?_eq_getElem (by omega)⟩
      obtain ⟨bk, ek⟩ := hz 0 zk hzk
      obtain ⟨bp, ep⟩ := hz 0 zp hzp
      have rk := hL.rows 0 zk hzk
      have hS : Sx w (w.heap.size + 1 + 1) (w.heap.size + 1) zs wr.heap.size 1 0 (wr.alloc (Obj.cells #[Value.int IntKind.i64 1, Value.int IntKind.i64 0] 103)).drew := Sx.start hL 1 0 103
      clear rk
      have hix : ∀ w : World, (Instr.index 104 (Value.agg #[Value.int IntKind.i64 1, Value.int IntKind.i64 0, Value.int IntKind.i64 2, Value.int IntKind.i64 1, Value.int IntKind.i64 1, Value.int IntKind.i64 0, Value.int IntKind.i64 5, Value.int IntKind.i64 3, Value.int IntKind.i64 10, Value.int IntKind.i64 4, Value.int IntKind.i64 20, Value.int IntKind.i64 5, Value.int IntKind.i64 10, Value.int IntKind.i64 4, Value.int IntKind.i64 50, Value.int IntKind.i64 7, Value.int IntKind.i64 100, Value.int IntKind.i64 8, Value.int IntKind.i64 50, Value.int IntKind.i64 7]) (Value.int IntKind.i64 0)).run Tryd.prog w = .ok (Value.agg #[Value.int IntKind.i64 1, Value.int IntKind.i64 0]) w := fun _ => by kernel_rfl
      go_wp2
      clear hix
      refine wp_region_noPanic ?_
      refine wp_region_held_drew (S := Sx w (w.heap.size + 1 + 1) (w.heap.size + 1) zs wr.heap.size 1 0) (by kernel_rfl) hS (fun hH => ?_)
      refine takeV 0 (.int .i64 0) rfl (by kernel_rfl) (by kernel_rfl) (by kernel_rfl) (fun _ _ _ h => h) (by rfl) (fun w _ => rfl) hH ?_
      simp only [Act.put, List.setIfInBounds_toArray, List.set_cons_zero, List.set_cons_succ]
      refine takeV 1 (.int .i64 1) rfl (by kernel_rfl) (by kernel_rfl) (by kernel_rfl) (fun _ _ _ h => h) (by rfl) (fun w _ => by go_simp; rfl) hH ?_
      simp only [Act.put, List.setIfInBounds_toArray, List.set_cons_zero, List.set_cons_succ]
      refine takeV 2 (.int .i64 0) rfl (by kernel_rfl) (by kernel_rfl) (by kernel_rfl) (fun _ _ _ h => h) (by rfl) (fun w _ => rfl) hH ?_
      simp only [Act.put, List.setIfInBounds_toArray, List.set_cons_zero, List.set_cons_succ]
      refine takeV 3 (.pointer (some ⟨w.heap.size + 1 + 1, 0, none⟩)) rfl (by kernel_rfl) (by kernel_rfl) (by kernel_rfl) (fun _ _ _ h => h) (by rfl) (fun w _ => by go_simp) hH ?_
      simp only [Act.put, List.setIfInBounds_toArray, List.set_cons_zero, List.set_cons_succ]
      refine takeN 4 zk (w.heap.size + 1 + 1) 0 rfl (by kernel_rfl) (by kernel_rfl) (by kernel_rfl) (fun _ _ _ h => h) (by rfl) rfl rfl (fun _ h => h.lp.rows 0 zk hzk) hH ?_
      simp only [Act.put, List.setIfInBounds_toArray, List.set_cons_zero, List.set_cons_succ]
      refine takeV 5 (.pointer (some ⟨wr.heap.size, 0, none⟩)) rfl (by kernel_rfl) (by kernel_rfl) (by kernel_rfl) (fun _ _ _ h => h) (by rfl) (fun w _ => by go_simp) hH ?_
      simp only [Act.put, List.setIfInBounds_toArray, List.set_cons_zero, List.set_cons_succ]
      refine takeV 6 (.int .i64 1) rfl (by kernel_rfl) (by kernel_rfl) (by kernel_rfl) (fun _ _ _ h => h) (by rfl) (fun w h => by have hc := h.c0; go_simp) hH ?_
      simp only [Act.put, List.setIfInBounds_toArray, List.set_cons_zero, List.set_cons_succ]
      refine takeV 8 (.pointer (some ⟨wr.heap.size, 1, none⟩)) rfl (by kernel_rfl) (by kernel_rfl) (by kernel_rfl) (fun _ _ _ h => h) (by rfl) (fun w _ => by go_simp) hH ?_
      simp only [Act.put, List.setIfInBounds_toArray, List.set_cons_zero, List.set_cons_succ]
      refine takeV 9 (.int .i64 0) rfl (by kernel_rfl) (by kernel_rfl) (by kernel_rfl) (fun _ _ _ h => h) (by rfl) (fun w h => by have hc := h.c1; go_simp) hH ?_
      simp only [Act.put, List.setIfInBounds_toArray, List.set_cons_zero, List.set_cons_succ]
      refine takeV 10 (.pointer (some ⟨w.heap.size + 1 + 1, 0, none⟩)) rfl (by kernel_rfl) (by kernel_rfl) (by kernel_rfl) (fun _ _ _ h => h) (by rfl) (fun w _ => by go_simp) hH ?_
      simp only [Act.put, List.setIfInBounds_toArray, List.set_cons_zero, List.set_cons_succ]
      refine takeN 11 zp (w.heap.size + 1 + 1) 0 rfl (by kernel_rfl) (by kernel_rfl) (by kernel_rfl) (fun _ _ _ h => h) (by rfl) rfl rfl (fun _ h => h.lp.rows 0 zp hzp) hH ?_
      simp only [Act.put, List.setIfInBounds_toArray, List.set_cons_zero, List.set_cons_succ]
      refine step1 7 (by kernel_rfl) rfl (fun K hK => ?_)
      rw [if_pos (by rfl)]
      go_simp
      refine Calls.mono (squared_num zk 1 bk (by decide) _) ?_
      rintro e w1 ⟨⟨u, rfl, hu, hup⟩, hg1⟩
      dsimp only
      refine hK.out _ _ (hH.grown hg1) (fun hH1 => ?_)
      clear hK K
      refine step1 12 (by kernel_rfl) rfl (fun K hK => ?_)
      rw [if_pos (by rfl)]
      go_simp
      refine Calls.mono (times_num u zp hu bp _) ?_
      rintro e w2 ⟨⟨t, rfl, ht, htp⟩, hg2⟩
      dsimp only
      refine hK.out _ _ (hH1.grown hg2) (fun hH2 => ?_)
      clear hK K
      refine takeV 13 (.pointer (some ⟨w.heap.size + 1 + 1, 4, none⟩)) rfl (by kernel_rfl) (by kernel_rfl) (by kernel_rfl) (fun _ _ _ h => h) (by rfl) (fun w _ => by go_simp) hH2 ?_
      simp only [Act.put, List.setIfInBounds_toArray, List.set_cons_zero, List.set_cons_succ]
      refine step1 14 (by kernel_rfl) rfl (fun K hK => ?_)
      refine storeN t (w.heap.size + 1 + 1) 4 rfl (by rfl) rfl rfl (hH2.lp.there4 4 (by decide)) (fun w3 hw3 => ?_)
      simp only [Act.put]
      have hP := hH2.lp.push t (by omega : zs.length = 0 + 1) (by decide) hw3
      refine hK.out _ _ (hH2.stored (by omega) hw3) (fun _ => ?_)
      clear hK K
      refine wpAnyH_done (by kernel_rfl) ?_ _
      refine NoPanic.normal ?_
      have hpw := pw_step ek ep hup htp
      rw [show EX.getD 0 0 * 2 ^ 1 + EX.getD 0 0 = EX.getD (0 + 1) 0 from by decide +kernel] at hpw
      have hzz := Hid.of (zs_push hz t (by omega : zs.length = 0 + 1) ht hpw)
      clear hS hH hH1 hH2 hz hL ek ep hup htp hg1 hg2 hw3 hpw
      go_wp2
      go_roundw
      case rel => exact ⟨1, zs ++ [t], rfl, by decide, by simp; omega, hzz.out, hP⟩
      case measure => simp [intOf]
    · -- round 1
      obtain ⟨zk, hzk⟩ : ∃ z, zs[1]? = some z := ⟨_, List.getElem?_eq_getElem (by omega)⟩
      obtain ⟨zp, hzp⟩ : ∃ z, zs[1]? = some z := ⟨_, List.getElem?_eq_getElem (by omega)⟩
      obtain ⟨bk, ek⟩ := hz 1 zk hzk
      obtain ⟨bp, ep⟩ := hz 1 zp hzp
      have rk := hL.rows 1 zk hzk
      have hS : Sx w (w.heap.size + 1 + 1) (w.heap.size + 1) zs wr.heap.size 2 1 (wr.alloc (Obj.cells #[Value.int IntKind.i64 2, Value.int IntKind.i64 1] 103)).drew := Sx.start hL 2 1 103
      clear rk
      have hix : ∀ w : World, (Instr.index 104 (Value.agg #[Value.int IntKind.i64 1, Value.int IntKind.i64 0, Value.int IntKind.i64 2, Value.int IntKind.i64 1, Value.int IntKind.i64 1, Value.int IntKind.i64 0, Value.int IntKind.i64 5, Value.int IntKind.i64 3, Value.int IntKind.i64 10, Value.int IntKind.i64 4, Value.int IntKind.i64 20, Value.int IntKind.i64 5, Value.int IntKind.i64 10, Value.int IntKind.i64 4, Value.int IntKind.i64 50, Value.int IntKind.i64 7, Value.int IntKind.i64 100, Value.int IntKind.i64 8, Value.int IntKind.i64 50, Value.int IntKind.i64 7]) (Value.int IntKind.i64 1)).run Tryd.prog w = .ok (Value.agg #[Value.int IntKind.i64 2, Value.int IntKind.i64 1]) w := fun _ => by kernel_rfl
      go_wp2
      clear hix
      refine wp_region_noPanic ?_
      refine wp_region_held_drew (S := Sx w (w.heap.size + 1 + 1) (w.heap.size + 1) zs wr.heap.size 2 1) (by kernel_rfl) hS (fun hH => ?_)
      refine takeV 0 (.int .i64 1) rfl (by kernel_rfl) (by kernel_rfl) (by kernel_rfl) (fun _ _ _ h => h) (by rfl) (fun w _ => rfl) hH ?_
      simp only [Act.put, List.setIfInBounds_toArray, List.set_cons_zero, List.set_cons_succ]
      refine takeV 1 (.int .i64 2) rfl (by kernel_rfl) (by kernel_rfl) (by kernel_rfl) (fun _ _ _ h => h) (by rfl) (fun w _ => by go_simp; rfl) hH ?_
      simp only [Act.put, List.setIfInBounds_toArray, List.set_cons_zero, List.set_cons_succ]
      refine takeV 2 (.int .i64 1) rfl (by kernel_rfl) (by kernel_rfl) (by kernel_rfl) (fun _ _ _ h => h) (by rfl) (fun w _ => rfl) hH ?_
      simp only [Act.put, List.setIfInBounds_toArray, List.set_cons_zero, List.set_cons_succ]
      refine takeV 3 (.pointer (some ⟨w.heap.size + 1 + 1, 4, none⟩)) rfl (by kernel_rfl) (by kernel_rfl) (by kernel_rfl) (fun _ _ _ h => h) (by rfl) (fun w _ => by go_simp) hH ?_
      simp only [Act.put, List.setIfInBounds_toArray, List.set_cons_zero, List.set_cons_succ]
      refine takeN 4 zk (w.heap.size + 1 + 1) 4 rfl (by kernel_rfl) (by kernel_rfl) (by kernel_rfl) (fun _ _ _ h => h) (by rfl) rfl rfl (fun _ h => h.lp.rows 1 zk hzk) hH ?_
      simp only [Act.put, List.setIfInBounds_toArray, List.set_cons_zero, List.set_cons_succ]
      refine takeV 5 (.pointer (some ⟨wr.heap.size, 0, none⟩)) rfl (by kernel_rfl) (by kernel_rfl) (by kernel_rfl) (fun _ _ _ h => h) (by rfl) (fun w _ => by go_simp) hH ?_
      simp only [Act.put, List.setIfInBounds_toArray, List.set_cons_zero, List.set_cons_succ]
      refine takeV 6 (.int .i64 2) rfl (by kernel_rfl) (by kernel_rfl) (by kernel_rfl) (fun _ _ _ h => h) (by rfl) (fun w h => by have hc := h.c0; go_simp) hH ?_
      simp only [Act.put, List.setIfInBounds_toArray, List.set_cons_zero, List.set_cons_succ]
      refine takeV 8 (.pointer (some ⟨wr.heap.size, 1, none⟩)) rfl (by kernel_rfl) (by kernel_rfl) (by kernel_rfl) (fun _ _ _ h => h) (by rfl) (fun w _ => by go_simp) hH ?_
      simp only [Act.put, List.setIfInBounds_toArray, List.set_cons_zero, List.set_cons_succ]
      refine takeV 9 (.int .i64 1) rfl (by kernel_rfl) (by kernel_rfl) (by kernel_rfl) (fun _ _ _ h => h) (by rfl) (fun w h => by have hc := h.c1; go_simp) hH ?_
      simp only [Act.put, List.setIfInBounds_toArray, List.set_cons_zero, List.set_cons_succ]
      refine takeV 10 (.pointer (some ⟨w.heap.size + 1 + 1, 4, none⟩)) rfl (by kernel_rfl) (by kernel_rfl) (by kernel_rfl) (fun _ _ _ h => h) (by rfl) (fun w _ => by go_simp) hH ?_
      simp only [Act.put, List.setIfInBounds_toArray, List.set_cons_zero, List.set_cons_succ]
      refine takeN 11 zp (w.heap.size + 1 + 1) 4 rfl (by kernel_rfl) (by kernel_rfl) (by kernel_rfl) (fun _ _ _ h => h) (by rfl) rfl rfl (fun _ h => h.lp.rows 1 zp hzp) hH ?_
      simp only [Act.put, List.setIfInBounds_toArray, List.set_cons_zero, List.set_cons_succ]
      refine step1 7 (by kernel_rfl) rfl (fun K hK => ?_)
      rw [if_pos (by rfl)]
      go_simp
      refine Calls.mono (squared_num zk 2 bk (by decide) _) ?_
      rintro e w1 ⟨⟨u, rfl, hu, hup⟩, hg1⟩
      dsimp only
      refine hK.out _ _ (hH.grown hg1) (fun hH1 => ?_)
      clear hK K
      refine step1 12 (by kernel_rfl) rfl (fun K hK => ?_)
      rw [if_pos (by rfl)]
      go_simp
      refine Calls.mono (times_num u zp hu bp _) ?_
      rintro e w2 ⟨⟨t, rfl, ht, htp⟩, hg2⟩
      dsimp only
      refine hK.out _ _ (hH1.grown hg2) (fun hH2 => ?_)
      clear hK K
      refine takeV 13 (.pointer (some ⟨w.heap.size + 1 + 1, 8, none⟩)) rfl (by kernel_rfl) (by kernel_rfl) (by kernel_rfl) (fun _ _ _ h => h) (by rfl) (fun w _ => by go_simp) hH2 ?_
      simp only [Act.put, List.setIfInBounds_toArray, List.set_cons_zero, List.set_cons_succ]
      refine step1 14 (by kernel_rfl) rfl (fun K hK => ?_)
      refine storeN t (w.heap.size + 1 + 1) 8 rfl (by rfl) rfl rfl (hH2.lp.there4 8 (by decide)) (fun w3 hw3 => ?_)
      simp only [Act.put]
      have hP := hH2.lp.push t (by omega : zs.length = 1 + 1) (by decide) hw3
      refine hK.out _ _ (hH2.stored (by omega) hw3) (fun _ => ?_)
      clear hK K
      refine wpAnyH_done (by kernel_rfl) ?_ _
      refine NoPanic.normal ?_
      have hpw := pw_step ek ep hup htp
      rw [show EX.getD 1 0 * 2 ^ 2 + EX.getD 1 0 = EX.getD (1 + 1) 0 from by decide +kernel] at hpw
      have hzz := Hid.of (zs_push hz t (by omega : zs.length = 1 + 1) ht hpw)
      clear hS hH hH1 hH2 hz hL ek ep hup htp hg1 hg2 hw3 hpw
      go_wp2
      go_roundw
      case rel => exact ⟨2, zs ++ [t], rfl, by decide, by simp; omega, hzz.out, hP⟩
      case measure => simp [intOf]
    · -- round 2
      obtain ⟨zk, hzk⟩ : ∃ z, zs[2]? = some z := ⟨_, List.getElem?_eq_getElem (by omega)⟩
      obtain ⟨zp, hzp⟩ : ∃ z, zs[0]? = some z := ⟨_, List.getElem?_eq_getElem (by omega)⟩
      obtain ⟨bk, ek⟩ := hz 2 zk hzk
      obtain ⟨bp, ep⟩ := hz 0 zp hzp
      have rk := hL.rows 2 zk hzk
      have hS : Sx w (w.heap.size + 1 + 1) (w.heap.size + 1) zs wr.heap.size 1 0 (wr.alloc (Obj.cells #[Value.int IntKind.i64 1, Value.int IntKind.i64 0] 103)).drew := Sx.start hL 1 0 103
      clear rk
      have hix : ∀ w : World, (Instr.index 104 (Value.agg #[Value.int IntKind.i64 1, Value.int IntKind.i64 0, Value.int IntKind.i64 2, Value.int IntKind.i64 1, Value.int IntKind.i64 1, Value.int IntKind.i64 0, Value.int IntKind.i64 5, Value.int IntKind.i64 3, Value.int IntKind.i64 10, Value.int IntKind.i64 4, Value.int IntKind.i64 20, Value.int IntKind.i64 5, Value.int IntKind.i64 10, Value.int IntKind.i64 4, Value.int IntKind.i64 50, Value.int IntKind.i64 7, Value.int IntKind.i64 100, Value.int IntKind.i64 8, Value.int IntKind.i64 50, Value.int IntKind.i64 7]) (Value.int IntKind.i64 2)).run Tryd.prog w = .ok (Value.agg #[Value.int IntKind.i64 1, Value.int IntKind.i64 0]) w := fun _ => by kernel_rfl
      go_wp2
      clear hix
      refine wp_region_noPanic ?_
      refine wp_region_held_drew (S := Sx w (w.heap.size + 1 + 1) (w.heap.size + 1) zs wr.heap.size 1 0) (by kernel_rfl) hS (fun hH => ?_)
      refine takeV 0 (.int .i64 2) rfl (by kernel_rfl) (by kernel_rfl) (by kernel_rfl) (fun _ _ _ h => h) (by rfl) (fun w _ => rfl) hH ?_
      simp only [Act.put, List.setIfInBounds_toArray, List.set_cons_zero, List.set_cons_succ]
      refine takeV 1 (.int .i64 3) rfl (by kernel_rfl) (by kernel_rfl) (by kernel_rfl) (fun _ _ _ h => h) (by rfl) (fun w _ => by go_simp; rfl) hH ?_
      simp only [Act.put, List.setIfInBounds_toArray, List.set_cons_zero, List.set_cons_succ]
      refine takeV 2 (.int .i64 2) rfl (by kernel_rfl) (by kernel_rfl) (by kernel_rfl) (fun _ _ _ h => h) (by rfl) (fun w _ => rfl) hH ?_
      simp only [Act.put, List.setIfInBounds_toArray, List.set_cons_zero, List.set_cons_succ]
      refine takeV 3 (.pointer (some ⟨w.heap.size + 1 + 1, 8, none⟩)) rfl (by kernel_rfl) (by kernel_rfl) (by kernel_rfl) (fun _ _ _ h => h) (by rfl) (fun w _ => by go_simp) hH ?_
      simp only [Act.put, List.setIfInBounds_toArray, List.set_cons_zero, List.set_cons_succ]
      refine takeN 4 zk (w.heap.size + 1 + 1) 8 rfl (by kernel_rfl) (by kernel_rfl) (by kernel_rfl) (fun _ _ _ h => h) (by rfl) rfl rfl (fun _ h => h.lp.rows 2 zk hzk) hH ?_
      simp only [Act.put, List.setIfInBounds_toArray, List.set_cons_zero, List.set_cons_succ]
      refine takeV 5 (.pointer (some ⟨wr.heap.size, 0, none⟩)) rfl (by kernel_rfl) (by kernel_rfl) (by kernel_rfl) (fun _ _ _ h => h) (by rfl) (fun w _ => by go_simp) hH ?_
      simp only [Act.put, List.setIfInBounds_toArray, List.set_cons_zero, List.set_cons_succ]
      refine takeV 6 (.int .i64 1) rfl (by kernel_rfl) (by kernel_rfl) (by kernel_rfl) (fun _ _ _ h => h) (by rfl) (fun w h => by have hc := h.c0; go_simp) hH ?_
      simp only [Act.put, List.setIfInBounds_toArray, List.set_cons_zero, List.set_cons_succ]
      refine takeV 8 (.pointer (some ⟨wr.heap.size, 1, none⟩)) rfl (by kernel_rfl) (by kernel_rfl) (by kernel_rfl) (fun _ _ _ h => h) (by rfl) (fun w _ => by go_simp) hH ?_
      simp only [Act.put, List.setIfInBounds_toArray, List.set_cons_zero, List.set_cons_succ]
      refine takeV 9 (.int .i64 0) rfl (by kernel_rfl) (by kernel_rfl) (by kernel_rfl) (fun _ _ _ h => h) (by rfl) (fun w h => by have hc := h.c1; go_simp) hH ?_
      simp only [Act.put, List.setIfInBounds_toArray, List.set_cons_zero, List.set_cons_succ]
      refine takeV 10 (.pointer (some ⟨w.heap.size + 1 + 1, 0, none⟩)) rfl (by kernel_rfl) (by kernel_rfl) (by kernel_rfl) (fun _ _ _ h => h) (by rfl) (fun w _ => by go_simp) hH ?_
      simp only [Act.put, List.setIfInBounds_toArray, List.set_cons_zero, List.set_cons_succ]
      refine takeN 11 zp (w.heap.size + 1 + 1) 0 rfl (by kernel_rfl) (by kernel_rfl) (by kernel_rfl) (fun _ _ _ h => h) (by rfl) rfl rfl (fun _ h => h.lp.rows 0 zp hzp) hH ?_
      simp only [Act.put, List.setIfInBounds_toArray, List.set_cons_zero, List.set_cons_succ]
      refine step1 7 (by kernel_rfl) rfl (fun K hK => ?_)
      rw [if_pos (by rfl)]
      go_simp
      refine Calls.mono (squared_num zk 1 bk (by decide) _) ?_
      rintro e w1 ⟨⟨u, rfl, hu, hup⟩, hg1⟩
      dsimp only
      refine hK.out _ _ (hH.grown hg1) (fun hH1 => ?_)
      clear hK K
      refine step1 12 (by kernel_rfl) rfl (fun K hK => ?_)
      rw [if_pos (by rfl)]
      go_simp
      refine Calls.mono (times_num u zp hu bp _) ?_
      rintro e w2 ⟨⟨t, rfl, ht, htp⟩, hg2⟩
      dsimp only
      refine hK.out _ _ (hH1.grown hg2) (fun hH2 => ?_)
      clear hK K
      refine takeV 13 (.pointer (some ⟨w.heap.size + 1 + 1, 12, none⟩)) rfl (by kernel_rfl) (by kernel_rfl) (by kernel_rfl) (fun _ _ _ h => h) (by rfl) (fun w _ => by go_simp) hH2 ?_
      simp only [Act.put, List.setIfInBounds_toArray, List.set_cons_zero, List.set_cons_succ]
      refine step1 14 (by kernel_rfl) rfl (fun K hK => ?_)
      refine storeN t (w.heap.size + 1 + 1) 12 rfl (by rfl) rfl rfl (hH2.lp.there4 12 (by decide)) (fun w3 hw3 => ?_)
      simp only [Act.put]
      have hP := hH2.lp.push t (by omega : zs.length = 2 + 1) (by decide) hw3
      refine hK.out _ _ (hH2.stored (by omega) hw3) (fun _ => ?_)
      clear hK K
      refine wpAnyH_done (by kernel_rfl) ?_ _
      refine NoPanic.normal ?_
      have hpw := pw_step ek ep hup htp
      rw [show EX.getD 2 0 * 2 ^ 1 + EX.getD 0 0 = EX.getD (2 + 1) 0 from by decide +kernel] at hpw
      have hzz := Hid.of (zs_push hz t (by omega : zs.length = 2 + 1) ht hpw)
      clear hS hH hH1 hH2 hz hL ek ep hup htp hg1 hg2 hw3 hpw
      go_wp2
      go_roundw
      case rel => exact ⟨3, zs ++ [t], rfl, by decide, by simp; omega, hzz.out, hP⟩
      case measure => simp [intOf]
    · -- round 3
      obtain ⟨zk, hzk⟩ : ∃ z, zs[3]? = some z := ⟨_, List.getElem?_eq_getElem (by omega)⟩
      obtain ⟨zp, hzp⟩ : ∃ z, zs[3]? = some z := ⟨_, List.getElem?_eq_getElem (by omega)⟩
      obtain ⟨bk, ek⟩ := hz 3 zk hzk
      obtain ⟨bp, ep⟩ := hz 3 zp hzp
      have rk := hL.rows 3 zk hzk
      have hS : Sx w (w.heap.size + 1 + 1) (w.heap.size + 1) zs wr.heap.size 5 3 (wr.alloc (Obj.cells #[Value.int IntKind.i64 5, Value.int IntKind.i64 3] 103)).drew := Sx.start hL 5 3 103
      clear rk
      have hix : ∀ w : World, (Instr.index 104 (Value.agg #[Value.int IntKind.i64 1, Value.int IntKind.i64 0, Value.int IntKind.i64 2, Value.int IntKind.i64 1, Value.int IntKind.i64 1, Value.int IntKind.i64 0, Value.int IntKind.i64 5, Value.int IntKind.i64 3, Value.int IntKind.i64 10, Value.int IntKind.i64 4, Value.int IntKind.i64 20, Value.int IntKind.i64 5, Value.int IntKind.i64 10, Value.int IntKind.i64 4, Value.int IntKind.i64 50, Value.int IntKind.i64 7, Value.int IntKind.i64 100, Value.int IntKind.i64 8, Value.int IntKind.i64 50, Value.int IntKind.i64 7]) (Value.int IntKind.i64 3)).run Tryd.prog w = .ok (Value.agg #[Value.int IntKind.i64 5, Value.int IntKind.i64 3]) w := fun _ => by kernel_rfl
      go_wp2
      clear hix
      refine wp_region_noPanic ?_
      refine wp_region_held_drew (S := Sx w (w.heap.size + 1 + 1) (w.heap.size + 1) zs wr.heap.size 5 3) (by kernel_rfl) hS (fun hH => ?_)
      refine takeV 0 (.int .i64 3) rfl (by kernel_rfl) (by kernel_rfl) (by kernel_rfl) (fun _ _ _ h => h) (by rfl) (fun w _ => rfl) hH ?_
      simp only [Act.put, List.setIfInBounds_toArray, List.set_cons_zero, List.set_cons_succ]
      refine takeV 1 (.int .i64 4) rfl (by kernel_rfl) (by kernel_rfl) (by kernel_rfl) (fun _ _ _ h => h) (by rfl) (fun w _ => by go_simp; rfl) hH ?_
      simp only [Act.put, List.setIfInBounds_toArray, List.set_cons_zero, List.set_cons_succ]
      refine takeV 2 (.int .i64 3) rfl (by kernel_rfl) (by kernel_rfl) (by kernel_rfl) (fun _ _ _ h => h) (by rfl) (fun w _ => rfl) hH ?_
      simp only [Act.put, List.setIfInBounds_toArray, List.set_cons_zero, List.set_cons_succ]
      refine takeV 3 (.pointer (some ⟨w.heap.size + 1 + 1, 12, none⟩)) rfl (by kernel_rfl) (by kernel_rfl) (by kernel_rfl) (fun _ _ _ h => h) (by rfl) (fun w _ => by go_simp) hH ?_
      simp only [Act.put, List.setIfInBounds_toArray, List.set_cons_zero, List.set_cons_succ]
      refine takeN 4 zk (w.heap.size + 1 + 1) 12 rfl (by kernel_rfl) (by kernel_rfl) (by kernel_rfl) (fun _ _ _ h => h) (by rfl) rfl rfl (fun _ h => h.lp.rows 3 zk hzk) hH ?_
      simp only [Act.put, List.setIfInBounds_toArray, List.set_cons_zero, List.set_cons_succ]
      refine takeV 5 (.pointer (some ⟨wr.heap.size, 0, none⟩)) rfl (by kernel_rfl) (by kernel_rfl) (by kernel_rfl) (fun _ _ _ h => h) (by rfl) (fun w _ => by go_simp) hH ?_
      simp only [Act.put, List.setIfInBounds_toArray, List.set_cons_zero, List.set_cons_succ]
      refine takeV 6 (.int .i64 5) rfl (by kernel_rfl) (by kernel_rfl) (by kernel_rfl) (fun _ _ _ h => h) (by rfl) (fun w h => by have hc := h.c0; go_simp) hH ?_
      simp only [Act.put, List.setIfInBounds_toArray, List.set_cons_zero, List.set_cons_succ]
      refine takeV 8 (.pointer (some ⟨wr.heap.size, 1, none⟩)) rfl (by kernel_rfl) (by kernel_rfl) (by kernel_rfl) (fun _ _ _ h => h) (by rfl) (fun w _ => by go_simp) hH ?_
      simp only [Act.put, List.setIfInBounds_toArray, List.set_cons_zero, List.set_cons_succ]
      refine takeV 9 (.int .i64 3) rfl (by kernel_rfl) (by kernel_rfl) (by kernel_rfl) (fun _ _ _ h => h) (by rfl) (fun w h => by have hc := h.c1; go_simp) hH ?_
      simp only [Act.put, List.setIfInBounds_toArray, List.set_cons_zero, List.set_cons_succ]
      refine takeV 10 (.pointer (some ⟨w.heap.size + 1 + 1, 12, none⟩)) rfl (by kernel_rfl) (by kernel_rfl) (by kernel_rfl) (fun _ _ _ h => h) (by rfl) (fun w _ => by go_simp) hH ?_
      simp only [Act.put, List.setIfInBounds_toArray, List.set_cons_zero, List.set_cons_succ]
      refine takeN 11 zp (w.heap.size + 1 + 1) 12 rfl (by kernel_rfl) (by kernel_rfl) (by kernel_rfl) (fun _ _ _ h => h) (by rfl) rfl rfl (fun _ h => h.lp.rows 3 zp hzp) hH ?_
      simp only [Act.put, List.setIfInBounds_toArray, List.set_cons_zero, List.set_cons_succ]
      refine step1 7 (by kernel_rfl) rfl (fun K hK => ?_)
      rw [if_pos (by rfl)]
      go_simp
      refine Calls.mono (squared_num zk 5 bk (by decide) _) ?_
      rintro e w1 ⟨⟨u, rfl, hu, hup⟩, hg1⟩
      dsimp only
      refine hK.out _ _ (hH.grown hg1) (fun hH1 => ?_)
      clear hK K
      refine step1 12 (by kernel_rfl) rfl (fun K hK => ?_)
      rw [if_pos (by rfl)]
      go_simp
      refine Calls.mono (times_num u zp hu bp _) ?_
      rintro e w2 ⟨⟨t, rfl, ht, htp⟩, hg2⟩
      dsimp only
      refine hK.out _ _ (hH1.grown hg2) (fun hH2 => ?_)
      clear hK K
      refine takeV 13 (.pointer (some ⟨w.heap.size + 1 + 1, 16, none⟩)) rfl (by kernel_rfl) (by kernel_rfl) (by kernel_rfl) (fun _ _ _ h => h) (by rfl) (fun w _ => by go_simp) hH2 ?_
      simp only [Act.put, List.setIfInBounds_toArray, List.set_cons_zero, List.set_cons_succ]
      refine step1 14 (by kernel_rfl) rfl (fun K hK => ?_)
      refine storeN t (w.heap.size + 1 + 1) 16 rfl (by rfl) rfl rfl (hH2.lp.there4 16 (by decide)) (fun w3 hw3 => ?_)
      simp only [Act.put]
      have hP := hH2.lp.push t (by omega : zs.length = 3 + 1) (by decide) hw3
      refine hK.out _ _ (hH2.stored (by omega) hw3) (fun _ => ?_)
      clear hK K
      refine wpAnyH_done (by kernel_rfl) ?_ _
      refine NoPanic.normal ?_
      have hpw := pw_step ek ep hup htp
      rw [show EX.getD 3 0 * 2 ^ 5 + EX.getD 3 0 = EX.getD (3 + 1) 0 from by decide +kernel] at hpw
      have hzz := Hid.of (zs_push hz t (by omega : zs.length = 3 + 1) ht hpw)
      clear hS hH hH1 hH2 hz hL ek ep hup htp hg1 hg2 hw3 hpw
      go_wp2
      go_roundw
      case rel => exact ⟨4, zs ++ [t], rfl, by decide, by simp; omega, hzz.out, hP⟩
      case measure => simp [intOf]
    · -- round 4
      obtain ⟨zk, hzk⟩ : ∃ z, zs[4]? = some z := ⟨_, List.getElem?_eq_getElem (by omega)⟩
      obtain ⟨zp, hzp⟩ : ∃ z, zs[4]? = some z := ⟨_, List.getElem?_eq_getElem (by omega)⟩
      obtain ⟨bk, ek⟩ := hz 4 zk hzk
      obtain ⟨bp, ep⟩ := hz 4 zp hzp
      have rk := hL.rows 4 zk hzk
      have hS : Sx w (w.heap.size + 1 + 1) (w.heap.size + 1) zs wr.heap.size 10 4 (wr.alloc (Obj.cells #[Value.int IntKind.i64 10, Value.int IntKind.i64 4] 103)).drew := Sx.start hL 10 4 103
      clear rk
      have hix : ∀ w : World, (Instr.index 104 (Value.agg #[Value.int IntKind.i64 1, Value.int IntKind.i64 0, Value.int IntKind.i64 2, Value.int IntKind.i64 1, Value.int IntKind.i64 1, Value.int IntKind.i64 0, Value.int IntKind.i64 5, Value.int IntKind.i64 3, Value.int IntKind.i64 10, Value.int IntKind.i64 4, Value.int IntKind.i64 20, Value.int IntKind.i64 5, Value.int IntKind.i64 10, Value.int IntKind.i64 4, Value.int IntKind.i64 50, Value.int IntKind.i64 7, Value.int IntKind.i64 100, Value.int IntKind.i64 8, Value.int IntKind.i64 50, Value.int IntKind.i64 7]) (Value.int IntKind.i64 4)).run Tryd.prog w = .ok (Value.agg #[Value.int IntKind.i64 10, Value.int IntKind.i64 4]) w := fun _ => by kernel_rfl
      go_wp2
      clear hix
      refine wp_region_noPanic ?_
      refine wp_region_held_drew (S := Sx w (w.heap.size + 1 + 1) (w.heap.size + 1) zs wr.heap.size 10 4) (by kernel_rfl) hS (fun hH => ?_)
      refine takeV 0 (.int .i64 4) rfl (by kernel_rfl) (by kernel_rfl) (by kernel_rfl) (fun _ _ _ h => h) (by rfl) (fun w _ => rfl) hH ?_
      simp only [Act.put, List.setIfInBounds_toArray, List.set_cons_zero, List.set_cons_succ]
      refine takeV 1 (.int .i64 5) rfl (by kernel_rfl) (by kernel_rfl) (by kernel_rfl) (fun _ _ _ h => h) (by rfl) (fun w _ => by go_simp; rfl) hH ?_
      simp only [Act.put, List.setIfInBounds_toArray, List.set_cons_zero, List.set_cons_succ]
      refine takeV 2 (.int .i64 4) rfl (by kernel_rfl) (by kernel_rfl) (by kernel_rfl) (fun _ _ _ h => h) (by rfl) (fun w _ => rfl) hH ?_
      simp only [Act.put, List.setIfInBounds_toArray, List.set_cons_zero, List.set_cons_succ]
      refine takeV 3 (.pointer (some ⟨w.heap.size + 1 + 1, 16, none⟩)) rfl (by kernel_rfl) (by kernel_rfl) (by kernel_rfl) (fun _ _ _ h => h) (by rfl) (fun w _ => by go_simp) hH ?_
      simp only [Act.put, List.setIfInBounds_toArray, List.set_cons_zero, List.set_cons_succ]
      refine takeN 4 zk (w.heap.size + 1 + 1) 16 rfl (by kernel_rfl) (by kernel_rfl) (by kernel_rfl) (fun _ _ _ h => h) (by rfl) rfl rfl (fun _ h => h.lp.rows 4 zk hzk) hH ?_
      simp only [Act.put, List.setIfInBounds_toArray, List.set_cons_zero, List.set_cons_succ]
      refine takeV 5 (.pointer (some ⟨wr.heap.size, 0, none⟩)) rfl (by kernel_rfl) (by kernel_rfl) (by kernel_rfl) (fun _ _ _ h => h) (by rfl) (fun w _ => by go_simp) hH ?_
      simp only [Act.put, List.setIfInBounds_toArray, List.set_cons_zero, List.set_cons_succ]
      refine takeV 6 (.int .i64 10) rfl (by kernel_rfl) (by kernel_rfl) (by kernel_rfl) (fun _ _ _ h => h) (by rfl) (fun w h => by have hc := h.c0; go_simp) hH ?_
      simp only [Act.put, List.setIfInBounds_toArray, List.set_cons_zero, List.set_cons_succ]
      refine takeV 8 (.pointer (some ⟨wr.heap.size, 1, none⟩)) rfl (by kernel_rfl) (by kernel_rfl) (by kernel_rfl) (fun _ _ _ h => h) (by rfl) (fun w _ => by go_simp) hH ?_
      simp only [Act.put, List.setIfInBounds_toArray, List.set_cons_zero, List.set_cons_succ]
      refine takeV 9 (.int .i64 4) rfl (by kernel_rfl) (by kernel_rfl) (by kernel_rfl) (fun _ _ _ h => h) (by rfl) (fun w h => by have hc := h.c1; go_simp) hH ?_
      simp only [Act.put, List.setIfInBounds_toArray, List.set_cons_zero, List.set_cons_succ]
      refine takeV 10 (.pointer (some ⟨w.heap.size + 1 + 1, 16, none⟩)) rfl (by kernel_rfl) (by kernel_rfl) (by kernel_rfl) (fun _ _ _ h => h) (by rfl) (fun w _ => by go_simp) hH ?_
      simp only [Act.put, List.setIfInBounds_toArray, List.set_cons_zero, List.set_cons_succ]
      refine takeN 11 zp (w.heap.size + 1 + 1) 16 rfl (by kernel_rfl) (by kernel_rfl) (by kernel_rfl) (fun _ _ _ h => h) (by rfl) rfl rfl (fun _ h => h.lp.rows 4 zp hzp) hH ?_
      simp only [Act.put, List.setIfInBounds_toArray, List.set_cons_zero, List.set_cons_succ]
      refine step1 7 (by kernel_rfl) rfl (fun K hK => ?_)
      rw [if_pos (by rfl)]
      go_simp
      refine Calls.mono (squared_num zk 10 bk (by decide) _) ?_
      rintro e w1 ⟨⟨u, rfl, hu, hup⟩, hg1⟩
      dsimp only
      refine hK.out _ _ (hH.grown hg1) (fun hH1 => ?_)
      clear hK K
      refine step1 12 (by kernel_rfl) rfl (fun K hK => ?_)
      rw [if_pos (by rfl)]
      go_simp
      refine Calls.mono (times_num u zp hu bp _) ?_
      rintro e w2 ⟨⟨t, rfl, ht, htp⟩, hg2⟩
      dsimp only
      refine hK.out _ _ (hH1.grown hg2) (fun hH2 => ?_)
      clear hK K
      refine takeV 13 (.pointer (some ⟨w.heap.size + 1 + 1, 20, none⟩)) rfl (by kernel_rfl) (by kernel_rfl) (by kernel_rfl) (fun _ _ _ h => h) (by rfl) (fun w _ => by go_simp) hH2 ?_
      simp only [Act.put, List.setIfInBounds_toArray, List.set_cons_zero, List.set_cons_succ]
      refine step1 14 (by kernel_rfl) rfl (fun K hK => ?_)
      refine storeN t (w.heap.size + 1 + 1) 20 rfl (by rfl) rfl rfl (hH2.lp.there4 20 (by decide)) (fun w3 hw3 => ?_)
      simp only [Act.put]
      have hP := hH2.lp.push t (by omega : zs.length = 4 + 1) (by decide) hw3
      refine hK.out _ _ (hH2.stored (by omega) hw3) (fun _ => ?_)
      clear hK K
      refine wpAnyH_done (by kernel_rfl) ?_ _
      refine NoPanic.normal ?_
      have hpw := pw_step ek ep hup htp
      rw [show EX.getD 4 0 * 2 ^ 10 + EX.getD 4 0 = EX.getD (4 + 1) 0 from by decide +kernel] at hpw
      have hzz := Hid.of (zs_push hz t (by omega : zs.length = 4 + 1) ht hpw)
      clear hS hH hH1 hH2 hz hL ek ep hup htp hg1 hg2 hw3 hpw
      go_wp2
      go_roundw
      case rel => exact ⟨5, zs ++ [t], rfl, by decide, by simp; omega, hzz.out, hP⟩
      case measure => simp [intOf]
    · -- round 5
      obtain ⟨zk, hzk⟩ : ∃ z, zs[5]? = some z := ⟨_, List.getElem?_eq_getElem (by omega)⟩
      obtain ⟨zp, hzp⟩ : ∃ z, zs[5]? = some z := ⟨_, List.getElem?_eq_getElem (by omega)⟩
      obtain ⟨bk, ek⟩ := hz 5 zk hzk
      obtain ⟨bp, ep⟩ := hz 5 zp hzp
      have rk := hL.rows 5 zk hzk
      have hS : Sx w (w.heap.size + 1 + 1) (w.heap.size + 1) zs wr.heap.size 20 5 (wr.alloc (Obj.cells #[Value.int IntKind.i64 20, Value.int IntKind.i64 5] 103)).drew := Sx.start hL 20 5 103
      clear rk
      have hix : ∀ w : World, (Instr.index 104 (Value.agg #[Value.int IntKind.i64 1, Value.int IntKind.i64 0, Value.int IntKind.i64 2, Value.int IntKind.i64 1, Value.int IntKind.i64 1, Value.int IntKind.i64 0, Value.int IntKind.i64 5, Value.int IntKind.i64 3, Value.int IntKind.i64 10, Value.int IntKind.i64 4, Value.int IntKind.i64 20, Value.int IntKind.i64 5, Value.int IntKind.i64 10, Value.int IntKind.i64 4, Value.int IntKind.i64 50, Value.int IntKind.i64 7, Value.int IntKind.i64 100, Value.int IntKind.i64 8, Value.int IntKind.i64 50, Value.int IntKind.i64 7]) (Value.int IntKind.i64 5)).run Tryd.prog w = .ok (Value.agg #[Value.int IntKind.i64 20, Value.int IntKind.i64 5]) w := fun _ => by kernel_rfl
      go_wp2
      clear hix
      refine wp_region_noPanic ?_
      refine wp_region_held_drew (S := Sx w (w.heap.size + 1 + 1) (w.heap.size + 1) zs wr.heap.size 20 5) (by kernel_rfl) hS (fun hH => ?_)
      refine takeV 0 (.int .i64 5) rfl (by kernel_rfl) (by kernel_rfl) (by kernel_rfl) (fun _ _ _ h => h) (by rfl) (fun w _ => rfl) hH ?_
      simp only [Act.put, List.setIfInBounds_toArray, List.set_cons_zero, List.set_cons_succ]
      refine takeV 1 (.int .i64 6) rfl (by kernel_rfl) (by kernel_rfl) (by kernel_rfl) (fun _ _ _ h => h) (by rfl) (fun w _ => by go_simp; rfl) hH ?_
      simp only [Act.put, List.setIfInBounds_toArray, List.set_cons_zero, List.set_cons_succ]
      refine takeV 2 (.int .i64 5) rfl (by kernel_rfl) (by kernel_rfl) (by kernel_rfl) (fun _ _ _ h => h) (by rfl) (fun w _ => rfl) hH ?_
      simp only [Act.put, List.setIfInBounds_toArray, List.set_cons_zero, List.set_cons_succ]
      refine takeV 3 (.pointer (some ⟨w.heap.size + 1 + 1, 20, none⟩)) rfl (by kernel_rfl) (by kernel_rfl) (by kernel_rfl) (fun _ _ _ h => h) (by rfl) (fun w _ => by go_simp) hH ?_
      simp only [Act.put, List.setIfInBounds_toArray, List.set_cons_zero, List.set_cons_succ]
      refine takeN 4 zk (w.heap.size + 1 + 1) 20 rfl (by kernel_rfl) (by kernel_rfl) (by kernel_rfl) (fun _ _ _ h => h) (by rfl) rfl rfl (fun _ h => h.lp.rows 5 zk hzk) hH ?_
      simp only [Act.put, List.setIfInBounds_toArray, List.set_cons_zero, List.set_cons_succ]
      refine takeV 5 (.pointer (some ⟨wr.heap.size, 0, none⟩)) rfl (by kernel_rfl) (by kernel_rfl) (by kernel_rfl) (fun _ _ _ h => h) (by rfl) (fun w _ => by go_simp) hH ?_
      simp only [Act.put, List.setIfInBounds_toArray, List.set_cons_zero, List.set_cons_succ]
      refine takeV 6 (.int .i64 20) rfl (by kernel_rfl) (by kernel_rfl) (by kernel_rfl) (fun _ _ _ h => h) (by rfl) (fun w h => by have hc := h.c0; go_simp) hH ?_
      simp only [Act.put, List.setIfInBounds_toArray, List.set_cons_zero, List.set_cons_succ]
      refine takeV 8 (.pointer (some ⟨wr.heap.size, 1, none⟩)) rfl (by kernel_rfl) (by kernel_rfl) (by kernel_rfl) (fun _ _ _ h => h) (by rfl) (fun w _ => by go_simp) hH ?_
      simp only [Act.put, List.setIfInBounds_toArray, List.set_cons_zero, List.set_cons_succ]
      refine takeV 9 (.int .i64 5) rfl (by kernel_rfl) (by kernel_rfl) (by kernel_rfl) (fun _ _ _ h => h) (by rfl) (fun w h => by have hc := h.c1; go_simp) hH ?_
      simp only [Act.put, List.setIfInBounds_toArray, List.set_cons_zero, List.set_cons_succ]
      refine takeV 10 (.pointer (some ⟨w.heap.size + 1 + 1, 20, none⟩)) rfl (by kernel_rfl) (by kernel_rfl) (by kernel_rfl) (fun _ _ _ h => h) (by rfl) (fun w _ => by go_simp) hH ?_
      simp only [Act.put, List.setIfInBounds_toArray, List.set_cons_zero, List.set_cons_succ]
      refine takeN 11 zp (w.heap.size + 1 + 1) 20 rfl (by kernel_rfl) (by kernel_rfl) (by kernel_rfl) (fun _ _ _ h => h) (by rfl) rfl rfl (fun _ h => h.lp.rows 5 zp hzp) hH ?_
      simp only [Act.put, List.setIfInBounds_toArray, List.set_cons_zero, List.set_cons_succ]
      refine step1 7 (by kernel_rfl) rfl (fun K hK => ?_)
      rw [if_pos (by rfl)]
      go_simp
      refine Calls.mono (squared_num zk 20 bk (by decide) _) ?_
      rintro e w1 ⟨⟨u, rfl, hu, hup⟩, hg1⟩
      dsimp only
      refine hK.out _ _ (hH.grown hg1) (fun hH1 => ?_)
      clear hK K
      refine step1 12 (by kernel_rfl) rfl (fun K hK => ?_)
      rw [if_pos (by rfl)]
      go_simp
      refine Calls.mono (times_num u zp hu bp _) ?_
      rintro e w2 ⟨⟨t, rfl, ht, htp⟩, hg2⟩
      dsimp only
      refine hK.out _ _ (hH1.grown hg2) (fun hH2 => ?_)
      clear hK K
      refine takeV 13 (.pointer (some ⟨w.heap.size + 1 + 1, 24, none⟩)) rfl (by kernel_rfl) (by kernel_rfl) (by kernel_rfl) (fun _ _ _ h => h) (by rfl) (fun w _ => by go_simp) hH2 ?_
      simp only [Act.put, List.setIfInBounds_toArray, List.set_cons_zero, List.set_cons_succ]
      refine step1 14 (by kernel_rfl) rfl (fun K hK => ?_)
      refine storeN t (w.heap.size + 1 + 1) 24 rfl (by rfl) rfl rfl (hH2.lp.there4 24 (by decide)) (fun w3 hw3 => ?_)
      simp only [Act.put]
      have hP := hH2.lp.push t (by omega : zs.length = 5 + 1) (by decide) hw3
      refine hK.out _ _ (hH2.stored (by omega) hw3) (fun _ => ?_)
      clear hK K
      refine wpAnyH_done (by kernel_rfl) ?_ _
      refine NoPanic.normal ?_
      have hpw := pw_step ek ep hup htp
      rw [show EX.getD 5 0 * 2 ^ 20 + EX.getD 5 0 = EX.getD (5 + 1) 0 from by decide +kernel] at hpw
      have hzz := Hid.of (zs_push hz t (by omega : zs.length = 5 + 1) ht hpw)
      clear hS hH hH1 hH2 hz hL ek ep hup htp hg1 hg2 hw3 hpw
      go_wp2
      go_roundw
      case rel => exact ⟨6, zs ++ [t], rfl, by decide, by simp; omega, hzz.out, hP⟩
      case measure => simp [intOf]
    · -- round 6
      obtain ⟨zk, hzk⟩ : ∃ z, zs[6]? = some z := ⟨_, List.getElem?_eq_getElem (by omega)⟩
      obtain ⟨zp, hzp⟩ : ∃ z, zs[4]? = some z := ⟨_, List.getElem?_eq_getElem (by omega)⟩
      obtain ⟨bk, ek⟩ := hz 6 zk hzk
      obtain ⟨bp, ep⟩ := hz 4 zp hzp
      have rk := hL.rows 6 zk hzk
      have hS : Sx w (w.heap.size + 1 + 1) (w.heap.size + 1) zs wr.heap.size 10 4 (wr.alloc (Obj.cells #[Value.int IntKind.i64 10, Value.int IntKind.i64 4] 103)).drew := Sx.start hL 10 4 103
      clear rk
      have hix : ∀ w : World, (Instr.index 104 (Value.agg #[Value.int IntKind.i64 1, Value.int IntKind.i64 0, Value.int IntKind.i64 2, Value.int IntKind.i64 1, Value.int IntKind.i64 1, Value.int IntKind.i64 0, Value.int IntKind.i64 5, Value.int IntKind.i64 3, Value.int IntKind.i64 10, Value.int IntKind.i64 4, Value.int IntKind.i64 20, Value.int IntKind.i64 5, Value.int IntKind.i64 10, Value.int IntKind.i64 4, Value.int IntKind.i64 50, Value.int IntKind.i64 7, Value.int IntKind.i64 100, Value.int IntKind.i64 8, Value.int IntKind.i64 50, Value.int IntKind.i64 7]) (Value.int IntKind.i64 6)).run Tryd.prog w = .ok (Value.agg #[Value.int IntKind.i64 10, Value.int IntKind.i64 4]) w := fun _ => by kernel_rfl
      go_wp2
      clear hix
      refine wp_region_noPanic ?_
      refine wp_region_held_drew (S := Sx w (w.heap.size + 1 + 1) (w.heap.size + 1) zs wr.heap.size 10 4) (by kernel_rfl) hS (fun hH => ?_)
      refine takeV 0 (.int .i64 6) rfl (by kernel_rfl) (by kernel_rfl) (by kernel_rfl) (fun _ _ _ h => h) (by rfl) (fun w _ => rfl) hH ?_
      simp only [Act.put, List.setIfInBounds_toArray, List.set_cons_zero, List.set_cons_succ]
      refine takeV 1 (.int .i64 7) rfl (by kernel_rfl) (by kernel_rfl) (by kernel_rfl) (fun _ _ _ h => h) (by rfl) (fun w _ => by go_simp; rfl) hH ?_
      simp only [Act.put, List.setIfInBounds_toArray, List.set_cons_zero, List.set_cons_succ]
      refine takeV 2 (.int .i64 6) rfl (by kernel_rfl) (by kernel_rfl) (by kernel_rfl) (fun _ _ _ h => h) (by rfl) (fun w _ => rfl) hH ?_
      simp only [Act.put, List.setIfInBounds_toArray, List.set_cons_zero, List.set_cons_succ]
      refine takeV 3 (.pointer (some ⟨w.heap.size + 1 + 1, 24, none⟩)) rfl (by kernel_rfl) (by kernel_rfl) (by kernel_rfl) (fun _ _ _ h => h) (by rfl) (fun w _ => by go_simp) hH ?_
      simp only [Act.put, List.setIfInBounds_toArray, List.set_cons_zero, List.set_cons_succ]
      refine takeN 4 zk (w.heap.size + 1 + 1) 24 rfl (by kernel_rfl) (by kernel_rfl) (by kernel_rfl) (fun _ _ _ h => h) (by rfl) rfl rfl (fun _ h => h.lp.rows 6 zk hzk) hH ?_
      simp only [Act.put, List.setIfInBounds_toArray, List.set_cons_zero, List.set_cons_succ]
      refine takeV 5 (.pointer (some ⟨wr.heap.size, 0, none⟩)) rfl (by kernel_rfl) (by kernel_rfl) (by kernel_rfl) (fun _ _ _ h => h) (by rfl) (fun w _ => by go_simp) hH ?_
      simp only [Act.put, List.setIfInBounds_toArray, List.set_cons_zero, List.set_cons_succ]
      refine takeV 6 (.int .i64 10) rfl (by kernel_rfl) (by kernel_rfl) (by kernel_rfl) (fun _ _ _ h => h) (by rfl) (fun w h => by have hc := h.c0; go_simp) hH ?_
      simp only [Act.put, List.setIfInBounds_toArray, List.set_cons_zero, List.set_cons_succ]
      refine takeV 8 (.pointer (some ⟨wr.heap.size, 1, none⟩)) rfl (by kernel_rfl) (by kernel_rfl) (by kernel_rfl) (fun _ _ _ h => h) (by rfl) (fun w _ => by go_simp) hH ?_
      simp only [Act.put, List.setIfInBounds_toArray, List.set_cons_zero, List.set_cons_succ]
      refine takeV 9 (.int .i64 4) rfl (by kernel_rfl) (by kernel_rfl) (by kernel_rfl) (fun _ _ _ h => h) (by rfl) (fun w h => by have hc := h.c1; go_simp) hH ?_
      simp only [Act.put, List.setIfInBounds_toArray, List.set_cons_zero, List.set_cons_succ]
      refine takeV 10 (.pointer (some ⟨w.heap.size + 1 + 1, 16, none⟩)) rfl (by kernel_rfl) (by kernel_rfl) (by kernel_rfl) (fun _ _ _ h => h) (by rfl) (fun w _ => by go_simp) hH ?_
      simp only [Act.put, List.setIfInBounds_toArray, List.set_cons_zero, List.set_cons_succ]
      refine takeN 11 zp (w.heap.size + 1 + 1) 16 rfl (by kernel_rfl) (by kernel_rfl) (by kernel_rfl) (fun _ _ _ h => h) (by rfl) rfl rfl (fun _ h => h.lp.rows 4 zp hzp) hH ?_
      simp only [Act.put, List.setIfInBounds_toArray, List.set_cons_zero, List.set_cons_succ]
      refine step1 7 (by kernel_rfl) rfl (fun K hK => ?_)
      rw [if_pos (by rfl)]
      go_simp
      refine Calls.mono (squared_num zk 10 bk (by decide) _) ?_
      rintro e w1 ⟨⟨u, rfl, hu, hup⟩, hg1⟩
      dsimp only
      refine hK.out _ _ (hH.grown hg1) (fun hH1 => ?_)
      clear hK K
      refine step1 12 (by kernel_rfl) rfl (fun K hK => ?_)
      rw [if_pos (by rfl)]
      go_simp
      refine Calls.mono (times_num u zp hu bp _) ?_
      rintro e w2 ⟨⟨t, rfl, ht, htp⟩, hg2⟩
      dsimp only
      refine hK.out _ _ (hH1.grown hg2) (fun hH2 => ?_)
      clear hK K
      refine takeV 13 (.pointer (some ⟨w.heap.size + 1 + 1, 28, none⟩)) rfl (by kernel_rfl) (by kernel_rfl) (by kernel_rfl) (fun _ _ _ h => h) (by rfl) (fun w _ => by go_simp) hH2 ?_
      simp only [Act.put, List.setIfInBounds_toArray, List.set_cons_zero, List.set_cons_succ]
      refine step1 14 (by kernel_rfl) rfl (fun K hK => ?_)
      refine storeN t (w.heap.size + 1 + 1) 28 rfl (by rfl) rfl rfl (hH2.lp.there4 28 (by decide)) (fun w3 hw3 => ?_)
      simp only [Act.put]
      have hP := hH2.lp.push t (by omega : zs.length = 6 + 1) (by decide) hw3
      refine hK.out _ _ (hH2.stored (by omega) hw3) (fun _ => ?_)
      clear hK K
      refine wpAnyH_done (by kernel_rfl) ?_ _
      refine NoPanic.normal ?_
      have hpw := pw_step ek ep hup htp
      rw [show EX.getD 6 0 * 2 ^ 10 + EX.getD 4 0 = EX.getD (6 + 1) 0 from by decide +kernel] at hpw
      have hzz := Hid.of (zs_push hz t (by omega : zs.length = 6 + 1) ht hpw)
      clear hS hH hH1 hH2 hz hL ek ep hup htp hg1 hg2 hw3 hpw
      go_wp2
      go_roundw
      case rel => exact ⟨7, zs ++ [t], rfl, by decide, by simp; omega, hzz.out, hP⟩
      case measure => simp [intOf]
    · -- round 7
      obtain ⟨zk, hzk⟩ : ∃ z, zs[7]? = some z := ⟨_, List.getElem?_eq_getElem (by omega)⟩
      obtain ⟨zp, hzp⟩ : ∃ z, zs[7]? = some z := ⟨_, List.getElem?_eq_getElem (by omega)⟩
      obtain ⟨bk, ek⟩ := hz 7 zk hzk
      obtain ⟨bp, ep⟩ := hz 7 zp hzp
      have rk := hL.rows 7 zk hzk
      have hS : Sx w (w.heap.size + 1 + 1) (w.heap.size + 1) zs wr.heap.size 50 7 (wr.alloc (Obj.cells #[Value.int IntKind.i64 50, Value.int IntKind.i64 7] 103)).drew := Sx.start hL 50 7 103
      clear rk
      have hix : ∀ w : World, (Instr.index 104 (Value.agg #[Value.int IntKind.i64 1, Value.int IntKind.i64 0, Value.int IntKind.i64 2, Value.int IntKind.i64 1, Value.int IntKind.i64 1, Value.int IntKind.i64 0, Value.int IntKind.i64 5, Value.int IntKind.i64 3, Value.int IntKind.i64 10, Value.int IntKind.i64 4, Value.int IntKind.i64 20, Value.int IntKind.i64 5, Value.int IntKind.i64 10, Value.int IntKind.i64 4, Value.int IntKind.i64 50, Value.int IntKind.i64 7, Value.int IntKind.i64 100, Value.int IntKind.i64 8, Value.int IntKind.i64 50, Value.int IntKind.i64 7]) (Value.int IntKind.i64 7)).run Tryd.prog w = .ok (Value.agg #[Value.int IntKind.i64 50, Value.int IntKind.i64 7]) w := fun _ => by kernel_rfl
      go_wp2
      clear hix
      refine wp_region_noPanic ?_
      refine wp_region_held_drew (S := Sx w (w.heap.size + 1 + 1) (w.heap.size + 1) zs wr.heap.size 50 7) (by kernel_rfl) hS (fun hH => ?_)
      refine takeV 0 (.int .i64 7) rfl (by kernel_rfl) (by kernel_rfl) (by kernel_rfl) (fun _ _ _ h => h) (by rfl) (fun w _ => rfl) hH ?_
      simp only [Act.put, List.setIfInBounds_toArray, List.set_cons_zero, List.set_cons_succ]
      refine takeV 1 (.int .i64 8) rfl (by kernel_rfl) (by kernel_rfl) (by kernel_rfl) (fun _ _ _ h => h) (by rfl) (fun w _ => by go_simp; rfl) hH ?_
      simp only [Act.put, List.setIfInBounds_toArray, List.set_cons_zero, List.set_cons_succ]
      refine takeV 2 (.int .i64 7) rfl (by kernel_rfl) (by kernel_rfl) (by kernel_rfl) (fun _ _ _ h => h) (by rfl) (fun w _ => rfl) hH ?_
      simp only [Act.put, List.setIfInBounds_toArray, List.set_cons_zero, List.set_cons_succ]
      refine takeV 3 (.pointer (some ⟨w.heap.size + 1 + 1, 28, none⟩)) rfl (by kernel_rfl) (by kernel_rfl) (by kernel_rfl) (fun _ _ _ h => h) (by rfl) (fun w _ => by go_simp) hH ?_
      simp only [Act.put, List.setIfInBounds_toArray, List.set_cons_zero, List.set_cons_succ]
      refine takeN 4 zk (w.heap.size + 1 + 1) 28 rfl (by kernel_rfl) (by kernel_rfl) (by kernel_rfl) (fun _ _ _ h => h) (by rfl) rfl rfl (fun _ h => h.lp.rows 7 zk hzk) hH ?_
      simp only [Act.put, List.setIfInBounds_toArray, List.set_cons_zero, List.set_cons_succ]
      refine takeV 5 (.pointer (some ⟨wr.heap.size, 0, none⟩)) rfl (by kernel_rfl) (by kernel_rfl) (by kernel_rfl) (fun _ _ _ h => h) (by rfl) (fun w _ => by go_simp) hH ?_
      simp only [Act.put, List.setIfInBounds_toArray, List.set_cons_zero, List.set_cons_succ]
      refine takeV 6 (.int .i64 50) rfl (by kernel_rfl) (by kernel_rfl) (by kernel_rfl) (fun _ _ _ h => h) (by rfl) (fun w h => by have hc := h.c0; go_simp) hH ?_
      simp only [Act.put, List.setIfInBounds_toArray, List.set_cons_zero, List.set_cons_succ]
      refine takeV 8 (.pointer (some ⟨wr.heap.size, 1, none⟩)) rfl (by kernel_rfl) (by kernel_rfl) (by kernel_rfl) (fun _ _ _ h => h) (by rfl) (fun w _ => by go_simp) hH ?_
      simp only [Act.put, List.setIfInBounds_toArray, List.set_cons_zero, List.set_cons_succ]
      refine takeV 9 (.int .i64 7) rfl (by kernel_rfl) (by kernel_rfl) (by kernel_rfl) (fun _ _ _ h => h) (by rfl) (fun w h => by have hc := h.c1; go_simp) hH ?_
      simp only [Act.put, List.setIfInBounds_toArray, List.set_cons_zero, List.set_cons_succ]
      refine takeV 10 (.pointer (some ⟨w.heap.size + 1 + 1, 28, none⟩)) rfl (by kernel_rfl) (by kernel_rfl) (by kernel_rfl) (fun _ _ _ h => h) (by rfl) (fun w _ => by go_simp) hH ?_
      simp only [Act.put, List.setIfInBounds_toArray, List.set_cons_zero, List.set_cons_succ]
      refine takeN 11 zp (w.heap.size + 1 + 1) 28 rfl (by kernel_rfl) (by kernel_rfl) (by kernel_rfl) (fun _ _ _ h => h) (by rfl) rfl rfl (fun _ h => h.lp.rows 7 zp hzp) hH ?_
      simp only [Act.put, List.setIfInBounds_toArray, List.set_cons_zero, List.set_cons_succ]
      refine step1 7 (by kernel_rfl) rfl (fun K hK => ?_)
      rw [if_pos (by rfl)]
      go_simp
      refine Calls.mono (squared_num zk 50 bk (by decide) _) ?_
      rintro e w1 ⟨⟨u, rfl, hu, hup⟩, hg1⟩
      dsimp only
      refine hK.out _ _ (hH.grown hg1) (fun hH1 => ?_)
      clear hK K
      refine step1 12 (by kernel_rfl) rfl (fun K hK => ?_)
      rw [if_pos (by rfl)]
      go_simp
      refine Calls.mono (times_num u zp hu bp _) ?_
      rintro e w2 ⟨⟨t, rfl, ht, htp⟩, hg2⟩
      dsimp only
      refine hK.out _ _ (hH1.grown hg2) (fun hH2 => ?_)
      clear hK K
      refine takeV 13 (.pointer (some ⟨w.heap.size + 1 + 1, 32, none⟩)) rfl (by kernel_rfl) (by kernel_rfl) (by kernel_rfl) (fun _ _ _ h => h) (by rfl) (fun w _ => by go_simp) hH2 ?_
      simp only [Act.put, List.setIfInBounds_toArray, List.set_cons_zero, List.set_cons_succ]
      refine step1 14 (by kernel_rfl) rfl (fun K hK => ?_)
      refine storeN t (w.heap.size + 1 + 1) 32 rfl (by rfl) rfl rfl (hH2.lp.there4 32 (by decide)) (fun w3 hw3 => ?_)
      simp only [Act.put]
      have hP := hH2.lp.push t (by omega : zs.length = 7 + 1) (by decide) hw3
      refine hK.out _ _ (hH2.stored (by omega) hw3) (fun _ => ?_)
      clear hK K
      refine wpAnyH_done (by kernel_rfl) ?_ _
      refine NoPanic.normal ?_
      have hpw := pw_step ek ep hup htp
      rw [show EX.getD 7 0 * 2 ^ 50 + EX.getD 7 0 = EX.getD (7 + 1) 0 from by decide +kernel] at hpw
      have hzz := Hid.of (zs_push hz t (by omega : zs.length = 7 + 1) ht hpw)
      clear hS hH hH1 hH2 hz hL ek ep hup htp hg1 hg2 hw3 hpw
      go_wp2
      go_roundw
      case rel => exact ⟨8, zs ++ [t], rfl, by decide, by simp; omega, hzz.out, hP⟩
      case measure => simp [intOf]
    · -- round 8
      obtain ⟨zk, hzk⟩ : ∃ z, zs[8]? = some z := ⟨_, List.getElem?_eq_getElem (by omega)⟩
      obtain ⟨zp, hzp⟩ : ∃ z, zs[8]? = some z := ⟨_, List.getElem?_eq_getElem (by omega)⟩
      obtain ⟨bk, ek⟩ := hz 8 zk hzk
      obtain ⟨bp, ep⟩ := hz 8 zp hzp
      have rk := hL.rows 8 zk hzk
      have hS : Sx w (w.heap.size + 1 + 1) (w.heap.size + 1) zs wr.heap.size 100 8 (wr.alloc (Obj.cells #[Value.int IntKind.i64 100, Value.int IntKind.i64 8] 103)).drew := Sx.start hL 100 8 103
      clear rk
      have hix : ∀ w : World, (Instr.index 104 (Value.agg #[Value.int IntKind.i64 1, Value.int IntKind.i64 0, Value.int IntKind.i64 2, Value.int IntKind.i64 1, Value.int IntKind.i64 1, Value.int IntKind.i64 0, Value.int IntKind.i64 5, Value.int IntKind.i64 3, Value.int IntKind.i64 10, Value.int IntKind.i64 4, Value.int IntKind.i64 20, Value.int IntKind.i64 5, Value.int IntKind.i64 10, Value.int IntKind.i64 4, Value.int IntKind.i64 50, Value.int IntKind.i64 7, Value.int IntKind.i64 100, Value.int IntKind.i64 8, Value.int IntKind.i64 50, Value.int IntKind.i64 7]) (Value.int IntKind.i64 8)).run Tryd.prog w = .ok (Value.agg #[Value.int IntKind.i64 100, Value.int IntKind.i64 8]) w := fun _ => by kernel_rfl
      go_wp2
      clear hix
      refine wp_region_noPanic ?_
      refine wp_region_held_drew (S := Sx w (w.heap.size + 1 + 1) (w.heap.size + 1) zs wr.heap.size 100 8) (by kernel_rfl) hS (fun hH => ?_)
      refine takeV 0 (.int .i64 8) rfl (by kernel_rfl) (by kernel_rfl) (by kernel_rfl) (fun _ _ _ h => h) (by rfl) (fun w _ => rfl) hH ?_
      simp only [Act.put, List.setIfInBounds_toArray, List.set_cons_zero, List.set_cons_succ]
      refine takeV 1 (.int .i64 9) rfl (by kernel_rfl) (by kernel_rfl) (by kernel_rfl) (fun _ _ _ h => h) (by rfl) (fun w _ => by go_simp; rfl) hH ?_
      simp only [Act.put, List.setIfInBounds_toArray, List.set_cons_zero, List.set_cons_succ]
      refine takeV 2 (.int .i64 8) rfl (by kernel_rfl) (by kernel_rfl) (by kernel_rfl) (fun _ _ _ h => h) (by rfl) (fun w _ => rfl) hH ?_
      simp only [Act.put, List.setIfInBounds_toArray, List.set_cons_zero, List.set_cons_succ]
      refine takeV 3 (.pointer (some ⟨w.heap.size + 1 + 1, 32, none⟩)) rfl (by kernel_rfl) (by kernel_rfl) (by kernel_rfl) (fun _ _ _ h => h) (by rfl) (fun w _ => by go_simp) hH ?_
      simp only [Act.put, List.setIfInBounds_toArray, List.set_cons_zero, List.set_cons_succ]
      refine takeN 4 zk (w.heap.size + 1 + 1) 32 rfl (by kernel_rfl) (by kernel_rfl) (by kernel_rfl) (fun _ _ _ h => h) (by rfl) rfl rfl (fun _ h => h.lp.rows 8 zk hzk) hH ?_
      simp only [Act.put, List.setIfInBounds_toArray, List.set_cons_zero, List.set_cons_succ]
      refine takeV 5 (.pointer (some ⟨wr.heap.size, 0, none⟩)) rfl (by kernel_rfl) (by kernel_rfl) (by kernel_rfl) (fun _ _ _ h => h) (by rfl) (fun w _ => by go_simp) hH ?_
      simp only [Act.put, List.setIfInBounds_toArray, List.set_cons_zero, List.set_cons_succ]
      refine takeV 6 (.int .i64 100) rfl (by kernel_rfl) (by kernel_rfl) (by kernel_rfl) (fun _ _ _ h => h) (by rfl) (fun w h => by have hc := h.c0; go_simp) hH ?_
      simp only [Act.put, List.setIfInBounds_toArray, List.set_cons_zero, List.set_cons_succ]
      refine takeV 8 (.pointer (some ⟨wr.heap.size, 1, none⟩)) rfl (by kernel_rfl) (by kernel_rfl) (by kernel_rfl) (fun _ _ _ h => h) (by rfl) (fun w _ => by go_simp) hH ?_
      simp only [Act.put, List.setIfInBounds_toArray, List.set_cons_zero, List.set_cons_succ]
      refine takeV 9 (.int .i64 8) rfl (by kernel_rfl) (by kernel_rfl) (by kernel_rfl) (fun _ _ _ h => h) (by rfl) (fun w h => by have hc := h.c1; go_simp) hH ?_
      simp only [Act.put, List.setIfInBounds_toArray, List.set_cons_zero, List.set_cons_succ]
      refine takeV 10 (.pointer (some ⟨w.heap.size + 1 + 1, 32, none⟩)) rfl (by kernel_rfl) (by kernel_rfl) (by kernel_rfl) (fun _ _ _ h => h) (by rfl) (fun w _ => by go_simp) hH ?_
      simp only [Act.put, List.setIfInBounds_toArray, List.set_cons_zero, List.set_cons_succ]
      refine takeN 11 zp (w.heap.size + 1 + 1) 32 rfl (by kernel_rfl) (by kernel_rfl) (by kernel_rfl) (fun _ _ _ h => h) (by rfl) rfl rfl (fun _ h => h.lp.rows 8 zp hzp) hH ?_
      simp only [Act.put, List.setIfInBounds_toArray, List.set_cons_zero, List.set_cons_succ]
      refine step1 7 (by kernel_rfl) rfl (fun K hK => ?_)
      rw [if_pos (by rfl)]
      go_simp
      refine Calls.mono (squared_num zk 100 bk (by decide) _) ?_
      rintro e w1 ⟨⟨u, rfl, hu, hup⟩, hg1⟩
      dsimp only
      refine hK.out _ _ (hH.grown hg1) (fun hH1 => ?_)
      clear hK K
      refine step1 12 (by kernel_rfl) rfl (fun K hK => ?_)
      rw [if_pos (by rfl)]
      go_simp
      refine Calls.mono (times_num u zp hu bp _) ?_
      rintro e w2 ⟨⟨t, rfl, ht, htp⟩, hg2⟩
      dsimp only
      refine hK.out _ _ (hH1.grown hg2) (fun hH2 => ?_)
      clear hK K
      refine takeV 13 (.pointer (some ⟨w.heap.size + 1 + 1, 36, none⟩)) rfl (by kernel_rfl) (by kernel_rfl) (by kernel_rfl) (fun _ _ _ h => h) (by rfl) (fun w _ => by go_simp) hH2 ?_
      simp only [Act.put, List.setIfInBounds_toArray, List.set_cons_zero, List.set_cons_succ]
      refine step1 14 (by kernel_rfl) rfl (fun K hK => ?_)
      refine storeN t (w.heap.size + 1 + 1) 36 rfl (by rfl) rfl rfl (hH2.lp.there4 36 (by decide)) (fun w3 hw3 => ?_)
      simp only [Act.put]
      have hP := hH2.lp.push t (by omega : zs.length = 8 + 1) (by decide) hw3
      refine hK.out _ _ (hH2.stored (by omega) hw3) (fun _ => ?_)
      clear hK K
      refine wpAnyH_done (by kernel_rfl) ?_ _
      refine NoPanic.normal ?_
      have hpw := pw_step ek ep hup htp
      rw [show EX.getD 8 0 * 2 ^ 100 + EX.getD 8 0 = EX.getD (8 + 1) 0 from by decide +kernel] at hpw
      have hzz := Hid.of (zs_push hz t (by omega : zs.length = 8 + 1) ht hpw)
      clear hS hH hH1 hH2 hz hL ek ep hup htp hg1 hg2 hw3 hpw
      go_wp2
      go_roundw
      case rel => exact ⟨9, zs ++ [t], rfl, by decide, by simp; omega, hzz.out, hP⟩
      case measure => simp [intOf]
    · -- round 9
      obtain ⟨zk, hzk⟩ : ∃ z, zs[9]? = some z := ⟨_, List.getElem?_eq_getElem (by omega)⟩
      obtain ⟨zp, hzp⟩ : ∃ z, zs[7]? = some z := ⟨_, List.getElem?_eq_getElem (by omega)⟩
      obtain ⟨bk, ek⟩ := hz 9 zk hzk
      obtain ⟨bp, ep⟩ := hz 7 zp hzp
      have rk := hL.rows 9 zk hzk
      have hS : Sx w (w.heap.size + 1 + 1) (w.heap.size + 1) zs wr.heap.size 50 7 (wr.alloc (Obj.cells #[Value.int IntKind.i64 50, Value.int IntKind.i64 7] 103)).drew := Sx.start hL 50 7 103
      clear rk
      have hix : ∀ w : World, (Instr.index 104 (Value.agg #[Value.int IntKind.i64 1, Value.int IntKind.i64 0, Value.int IntKind.i64 2, Value.int IntKind.i64 1, Value.int IntKind.i64 1, Value.int IntKind.i64 0, Value.int IntKind.i64 5, Value.int IntKind.i64 3, Value.int IntKind.i64 10, Value.int IntKind.i64 4, Value.int IntKind.i64 20, Value.int IntKind.i64 5, Value.int IntKind.i64 10, Value.int IntKind.i64 4, Value.int IntKind.i64 50, Value.int IntKind.i64 7, Value.int IntKind.i64 100, Value.int IntKind.i64 8, Value.int IntKind.i64 50, Value.int IntKind.i64 7]) (Value.int IntKind.i64 9)).run Tryd.prog w = .ok (Value.agg #[Value.int IntKind.i64 50, Value.int IntKind.i64 7]) w := fun _ => by kernel_rfl
      go_wp2
      clear hix
      refine wp_region_noPanic ?_
      refine wp_region_held_drew (S := Sx w (w.heap.size + 1 + 1) (w.heap.size + 1) zs wr.heap.size 50 7) (by kernel_rfl) hS (fun hH => ?_)
      refine takeV 0 (.int .i64 9) rfl (by kernel_rfl) (by kernel_rfl) (by kernel_rfl) (fun _ _ _ h => h) (by rfl) (fun w _ => rfl) hH ?_
      simp only [Act.put, List.setIfInBounds_toArray, List.set_cons_zero, List.set_cons_succ]
      refine takeV 1 (.int .i64 10) rfl (by kernel_rfl) (by kernel_rfl) (by kernel_rfl) (fun _ _ _ h => h) (by rfl) (fun w _ => by go_simp; rfl) hH ?_
      simp only [Act.put, List.setIfInBounds_toArray, List.set_cons_zero, List.set_cons_succ]
      refine takeV 2 (.int .i64 9) rfl (by kernel_rfl) (by kernel_rfl) (by kernel_rfl) (fun _ _ _ h => h) (by rfl) (fun w _ => rfl) hH ?_
      simp only [Act.put, List.setIfInBounds_toArray, List.set_cons_zero, List.set_cons_succ]
      refine takeV 3 (.pointer (some ⟨w.heap.size + 1 + 1, 36, none⟩)) rfl (by kernel_rfl) (by kernel_rfl) (by kernel_rfl) (fun _ _ _ h => h) (by rfl) (fun w _ => by go_simp) hH ?_
      simp only [Act.put, List.setIfInBounds_toArray, List.set_cons_zero, List.set_cons_succ]
      refine takeN 4 zk (w.heap.size + 1 + 1) 36 rfl (by kernel_rfl) (by kernel_rfl) (by kernel_rfl) (fun _ _ _ h => h) (by rfl) rfl rfl (fun _ h => h.lp.rows 9 zk hzk) hH ?_
      simp only [Act.put, List.setIfInBounds_toArray, List.set_cons_zero, List.set_cons_succ]
      refine takeV 5 (.pointer (some ⟨wr.heap.size, 0, none⟩)) rfl (by kernel_rfl) (by kernel_rfl) (by kernel_rfl) (fun _ _ _ h => h) (by rfl) (fun w _ => by go_simp) hH ?_
      simp only [Act.put, List.setIfInBounds_toArray, List.set_cons_zero, List.set_cons_succ]
      refine takeV 6 (.int .i64 50) rfl (by kernel_rfl) (by kernel_rfl) (by kernel_rfl) (fun _ _ _ h => h) (by rfl) (fun w h => by have hc := h.c0; go_simp) hH ?_
      simp only [Act.put, List.setIfInBounds_toArray, List.set_cons_zero, List.set_cons_succ]
      refine takeV 8 (.pointer (some ⟨wr.heap.size, 1, none⟩)) rfl (by kernel_rfl) (by kernel_rfl) (by kernel_rfl) (fun _ _ _ h => h) (by rfl) (fun w _ => by go_simp) hH ?_
      simp only [Act.put, List.setIfInBounds_toArray, List.set_cons_zero, List.set_cons_succ]
      refine takeV 9 (.int .i64 7) rfl (by kernel_rfl) (by kernel_rfl) (by kernel_rfl) (fun _ _ _ h => h) (by rfl) (fun w h => by have hc := h.c1; go_simp) hH ?_
      simp only [Act.put, List.setIfInBounds_toArray, List.set_cons_zero, List.set_cons_succ]
      refine takeV 10 (.pointer (some ⟨w.heap.size + 1 + 1, 28, none⟩)) rfl (by kernel_rfl) (by kernel_rfl) (by kernel_rfl) (fun _ _ _ h => h) (by rfl) (fun w _ => by go_simp) hH ?_
      simp only [Act.put, List.setIfInBounds_toArray, List.set_cons_zero, List.set_cons_succ]
      refine takeN 11 zp (w.heap.size + 1 + 1) 28 rfl (by kernel_rfl) (by kernel_rfl) (by kernel_rfl) (fun _ _ _ h => h) (by rfl) rfl rfl (fun _ h => h.lp.rows 7 zp hzp) hH ?_
      simp only [Act.put, List.setIfInBounds_toArray, List.set_cons_zero, List.set_cons_succ]
      refine step1 7 (by kernel_rfl) rfl (fun K hK => ?_)
      rw [if_pos (by rfl)]
      go_simp
      refine Calls.mono (squared_num zk 50 bk (by decide) _) ?_
      rintro e w1 ⟨⟨u, rfl, hu, hup⟩, hg1⟩
      dsimp only
      refine hK.out _ _ (hH.grown hg1) (fun hH1 => ?_)
      clear hK K
      refine step1 12 (by kernel_rfl) rfl (fun K hK => ?_)
      rw [if_pos (by rfl)]
      go_simp
      refine Calls.mono (times_num u zp hu bp _) ?_
      rintro e w2 ⟨⟨t, rfl, ht, htp⟩, hg2⟩
      dsimp only
      refine hK.out _ _ (hH1.grown hg2) (fun hH2 => ?_)
      clear hK K
      refine takeV 13 (.pointer (some ⟨w.heap.size + 1 + 1, 40, none⟩)) rfl (by kernel_rfl) (by kernel_rfl) (by kernel_rfl) (fun _ _ _ h => h) (by rfl) (fun w _ => by go_simp) hH2 ?_
      simp only [Act.put, List.setIfInBounds_toArray, List.set_cons_zero, List.set_cons_succ]
      refine step1 14 (by kernel_rfl) rfl (fun K hK => ?_)
      refine storeN t (w.heap.size + 1 + 1) 40 rfl (by rfl) rfl rfl (hH2.lp.there4 40 (by decide)) (fun w3 hw3 => ?_)
      simp only [Act.put]
      have hP := hH2.lp.push t (by omega : zs.length = 9 + 1) (by decide) hw3
      refine hK.out _ _ (hH2.stored (by omega) hw3) (fun _ => ?_)
      clear hK K
      refine wpAnyH_done (by kernel_rfl) ?_ _
      refine NoPanic.normal ?_
      have hpw := pw_step ek ep hup htp
      rw [show EX.getD 9 0 * 2 ^ 50 + EX.getD 7 0 = EX.getD (9 + 1) 0 from by decide +kernel] at hpw
      have hzz := Hid.of (zs_push hz t (by omega : zs.length = 9 + 1) ht hpw)
      clear hS hH hH1 hH2 hz hL ek ep hup htp hg1 hg2 hw3 hpw
      go_wp2
      go_roundw
      case rel => exact ⟨10, zs ++ [t], rfl, by decide, by simp; omega, hzz.out, hP⟩
      case measure => simp [intOf]
end Go.Proofs.YtkegcilcapnpdaaDoor
