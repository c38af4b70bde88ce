import Derived.Test.YtfnbodpbdfeiiaaDoorEqN
namespace Go.Proofs.YtfnbodpbdfeiiaaDoor
open Go.RowKit Go.Shelf FieldNum

theorem Hid.of {q : Prop} (h : q) : Hid q := h

/-- the table of the way -/
def PW : List Value := [.int .i64 1, .int .i64 0, .int .i64 2, .int .i64 1, .int .i64 1, .int .i64 0, .int .i64 5, .int .i64 3, .int .i64 10, .int .i64 4, .int .i64 20, .int .i64 5, .int .i64 10, .int .i64 4, .int .i64 50, .int .i64 7, .int .i64 100, .int .i64 8, .int .i64 50, .int .i64 7]
/-- the exponents on the way -/
def EX : List Nat := [1, 3, 15, 31, 1023, 1048575, 1099511627775, 1125899906842623, 1267650600228229401496703205375, 1606938044258990275541962092341162602522202993782792835301375, 1809251394333065553493296640760748560207343510400633813116524750123642650623]

theorem infoN : (Tryd.prog.info? 38).map (·.size) = some 4 := by kernel_rfl
theorem nl_one (n : Nat) : ∀ v ∈ nl n, v.oneCell' = true := by
  intro v hv
  simp only [nl, List.mem_map] at hv
  obtain ⟨i, _, rfl⟩ := hv
  rfl

section
variable {ops : Array Oper} {Q : Exit → Act → World → Prop} {md : Region.Mode} {S : World → Prop} {fuel : Nat} {listed : Array Bool} {a : Act} {w : World}

/-- a load of a number is taken first -/
theorem takeN (i : Nat) (n b off : Nat) {oi : Oper} (hi : ops.toList[i]? = some oi) (hs : Region.noSelect ops = true) (hf : Region.free md ops listed i = true) (hr : (Region.ready md ops listed).contains i = true)
    (hQ : ∀ c a w, Q (.panic c) (a.put oi.dst (numV n)) w → Q (.panic c) a w) (hw : Region.wanted oi (yielded ops a.tmps) = true) {x : Operand} (ho : oi.op = .load 38 x)
    (hx : a.eval x = .pointer (some ⟨b, off, none⟩)) (hS : ∀ w, S w → w.rangeAt b off (nl n)) (hSw : S w)
    (h : wpAnyH Tryd.prog md ops Q S fuel (listed.setIfInBounds i true) (a.put oi.dst (numV n)) w) : wpAnyH Tryd.prog md ops Q S (fuel + 1) listed a w :=
  wpAnyH_take (i := i) (oi := oi) (v := numV n) (by rw [← Array.getElem?_toList]; exact hi) hs hf hr hQ
    (yieldsIf_load_mid hw 38 x ho b off hx (nl n) _ hS Tryd.underlying38 rfl (by rw [nl_length]; exact infoN)) hSw h

/-- a store of a number -/
theorem storeN {o : Oper} {K : Act → World → Prop} (n b off : Nat) {x y : Operand} (ho : o.op = .store 38 x y) (hw : Region.wanted o (yielded ops a.tmps) = true)
    (hx : a.eval x = .pointer (some ⟨b, off, none⟩)) (hy : a.eval y = numV n) (ht : w.there b off 4) (h : ∀ w2, w2 = w.setCells b off (nl n) → K (a.put o.dst undef) w2) :
    if Region.wanted o (yielded ops a.tmps) = true then Oper.wp Tryd.prog o a w K Q else K (a.put o.dst undef) w := by
  rw [if_pos hw]
  exact wp_store_mid 38 x y ho b off (nl n).toArray hx hy (by rw [List.size_toArray, nl_length]; exact ht) (by rw [List.size_toArray, nl_length]; exact infoN) (all_oneCell_toArray (nl_one n)) (h _ rfl)
end

/-- what the variables of longPower hold -/
structure LP (w0 : World) (rb r : Nat) (zs : List Nat) (wr : World) : Prop where
  rows : ∀ j z, zs[j]? = some z → wr.rangeAt rb (4 * j) (nl z)
  th : wr.there rb 0 44
  tr : wr.there r 0 4
  rr : rb ≠ r
  gw : w0.heap.size ≤ rb
  grown : Grown w0 wr

theorem LP.grow {w0 wr w' : World} {rb r : Nat} {zs : List Nat} (h : LP w0 rb r zs wr) (hg : Grown wr w') : LP w0 rb r zs w' :=
  ⟨fun j z hj => rangeAt_grown (h.rows j z hj) hg, there_grown h.th hg, there_grown h.tr hg, h.rr, h.gw, grown_trans h.grown hg⟩

theorem LP.there4 {w0 wr : World} {rb r : Nat} {zs : List Nat} (h : LP w0 rb r zs wr) (o : Nat) (ho : o + 4 ≤ 44) : wr.there rb o 4 := by
  intro j hj
  have := h.th (o + j) (by omega)
  rwa [Nat.zero_add] at this

theorem LP.push {w0 wr w3 : World} {rb r : Nat} {zs : List Nat} (h : LP w0 rb r zs wr) (t : Nat) {k : Nat} (hk : zs.length = k + 1) (hk2 : k + 1 < 11) (hw3 : w3 = wr.setCells rb (4 * (k + 1)) (nl t)) : LP w0 rb r (zs ++ [t]) w3 := by
  subst hw3
  refine ⟨fun j z hj => ?_, World.there_setCells h.th _ _ _, World.there_setCells h.tr _ _ _, h.rr, h.gw, grown_setCells h.gw _ _ h.grown⟩
  by_cases hlt : j < zs.length
  · rw [List.getElem?_append_left hlt] at hj
    exact World.rangeAt_setCells_apart (h.rows j z hj) _ _ _ (by right; left; rw [nl_length]; omega)
  · rw [List.getElem?_append_right (by omega)] at hj
    have hj0 : j - zs.length = 0 := by
      have := (List.getElem?_eq_some_iff.1 hj).1
      simp at this; omega
    rw [hj0] at hj
    simp at hj
    subst hj
    have : j = k + 1 := by omega
    subst this
    exact World.rangeAt_setCells_same _ _ _ _ (by rw [nl_length]; exact h.there4 _ (by omega))

/-- .. and the row of the table -/
structure Sx (w0 : World) (rb r : Nat) (zs : List Nat) (sb : Nat) (s q : Int) (wr : World) : Prop where
  lp : LP w0 rb r zs wr
  c0 : wr.cell? ⟨sb, 0, none⟩ = some (.int .i64 s)
  c1 : wr.cell? ⟨sb, 1, none⟩ = some (.int .i64 q)
  ne : rb ≠ sb

theorem Sx.grown {w0 wr w' : World} {rb r : Nat} {zs : List Nat} {sb : Nat} {s q : Int} (h : Sx w0 rb r zs sb s q wr) (hg : Grown wr w') : Sx w0 rb r zs sb s q w' := by
  have hb : sb < wr.heap.size := block_lt_of_cell h.c0
  exact ⟨h.lp.grow hg, (grown_cell hg sb 0 hb).trans h.c0, (grown_cell hg sb 1 hb).trans h.c1, h.ne⟩

theorem Sx.start {w0 wr : World} {rb r : Nat} {zs : List Nat} (h : LP w0 rb r zs wr) (s q : Int) (T : TypeId) :
    Sx w0 rb r zs wr.heap.size s q (wr.alloc (Obj.cells #[Value.int IntKind.i64 s, Value.int IntKind.i64 q] T)).drew := by
  have hb : rb < wr.heap.size := by
    obtain ⟨v, hv⟩ := Option.isSome_iff_exists.1 (h.th 0 (by decide)).1
    exact block_lt_of_cell hv
  have e := heap_alloc_new wr (Obj.cells #[Value.int IntKind.i64 s, Value.int IntKind.i64 q] T)
  refine ⟨(h.grow (Grown.alloc (Grown.refl _) _ _)).grow (Grown.drew (Grown.refl _)), ?_, ?_, by omega⟩
  · exact (cell_of_row _ _ 0 _ _ _ e)
  · exact (cell_of_row _ _ 1 _ _ _ e)

theorem Sx.stored {w0 wr w3 : World} {rb r : Nat} {zs : List Nat} {sb : Nat} {s q : Int} {o t : Nat} (h : Sx w0 rb r zs sb s q wr) (ho : 4 * zs.length ≤ o) (hw3 : w3 = wr.setCells rb o (nl t)) : Sx w0 rb r zs sb s q w3 := by
  subst hw3
  have hc : ∀ i, (wr.setCells rb o (nl t)).cell? ⟨sb, i, none⟩ = wr.cell? ⟨sb, i, none⟩ := fun i => World.cell?_setCells_out rb _ _ _ _ (fun e => absurd e.symm h.ne)
  refine ⟨⟨fun j z hj => ?_, World.there_setCells h.lp.th _ _ _, World.there_setCells h.lp.tr _ _ _, h.lp.rr, h.lp.gw, grown_setCells h.lp.gw _ _ h.lp.grown⟩, (hc 0).trans h.c0, (hc 1).trans h.c1, h.ne⟩
  have hjl := (List.getElem?_eq_some_iff.1 hj).1
  exact World.rangeAt_setCells_apart (h.lp.rows j z hj) _ _ _ (by right; left; rw [nl_length]; omega)

/-- the numbers on the way are the powers -/
def Way (x : Nat) (zs : List Nat) : Prop := ∀ j z, zs[j]? = some z → z < M ∧ z % p = x ^ (EX.getD j 0) % p

theorem zs_push {x : Nat} {zs : List Nat} (h : Way x zs) (t : Nat) {k : Nat} (hk : zs.length = k + 1) (ht : t < M) (e : t % p = x ^ (EX.getD (k + 1) 0) % p) : Way x (zs ++ [t]) := by
  intro j z hj
  by_cases hlt : j < zs.length
  · rw [List.getElem?_append_left hlt] at hj
    exact h j z hj
  · rw [List.getElem?_append_right (by omega)] at hj
    have hj0 : j - zs.length = 0 := by
      have := (List.getElem?_eq_some_iff.1 hj).1
      simp at this; omega
    rw [hj0] at hj
    simp at hj
    subst hj
    have : j = k + 1 := by omega
    subst this
    exact ⟨ht, e⟩

theorem pw_step {x zk zp u t ek ep s : Nat} (h1 : zk % p = x ^ ek % p) (h2 : zp % p = x ^ ep % p) (h3 : u % p = zk ^ (2 ^ s) % p) (h4 : t % p = u * zp % p) : t % p = x ^ (ek * 2 ^ s + ep) % p := by
  rw [h4, Nat.mul_mod, h3, h2, Nat.pow_mod zk, h1, ← Nat.pow_mod, ← Nat.mul_mod, ← Nat.pow_mul, ← Nat.pow_add]

end Go.Proofs.YtfnbodpbdfeiiaaDoor
