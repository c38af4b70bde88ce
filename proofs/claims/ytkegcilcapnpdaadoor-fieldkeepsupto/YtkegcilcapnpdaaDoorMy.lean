import Derived.Test.YtkegcilcapnpdaaDoorMe
import Derived.Test.YtkegcilcapnpdaaDoorMf
namespace Go.Proofs.YtkegcilcapnpdaaDoor
open Go.RowKit Go.Shelf FieldNum

theorem wpList_store_newNw {ops : Array Oper} {Q : Exit → Act → World → Prop} {a : Act} {w : World} {rest : List Oper} {o : Oper} {x y : Operand} {c : Array Value} (n : Nat) (hc : 4 ≤ c.size) (hgd : o.guard = none) (ho : o.op = .store 66 x y)
    (hx : a.eval x = .pointer (some ⟨w.heap.size, 0, none⟩)) (hy : a.eval y = numV n)
    (h : ∀ w2, Grown w w2 → w2.rangeAt w.heap.size 0 (nl n) → w2.there w.heap.size 0 4 → wpList Tryd.prog ops Q rest (a.put o.dst undef) w2) :
    wpList Tryd.prog ops Q (o :: rest) a (w.alloc (.cells c 66)) := by
  have ht := there_alloc_new w 66 c 4 hc
  refine wpList_store_mid hgd 66 x y ho w.heap.size 0 (nl n).toArray hx hy (by rw [show (nl n).toArray.size = 4 from by rw [List.size_toArray, nl_length]]; exact ht) (by rw [List.size_toArray, nl_length]; exact infoN) (all_oneCell_toArray (nl_one n)) ?_
  exact h _ (grown_setCells (Nat.le_refl _) _ _ (Grown.alloc (Grown.refl _) _ _)) (World.rangeAt_setCells_same _ _ _ (nl n) (by rw [nl_length]; exact ht)) (World.there_setCells ht _ _ _)

theorem wpList_store_varNw {ops : Array Oper} {rest : List Oper} {op : Oper} {a : Act} {w : World} {Q : Exit → Act → World → Prop} (hgd : op.guard = none) (x y : Operand) (ho : op.op = .store 66 x y)
    (b n : Nat) (hx : a.eval x = .pointer (some ⟨b, 0, none⟩)) (hy : a.eval y = numV n) (ht : w.there b 0 4)
    (h : ∀ w2, w2 = w.setCells b 0 (nl n) → wpList Tryd.prog ops Q rest (a.put op.dst undef) w2) : wpList Tryd.prog ops Q (op :: rest) a w :=
  wpList_store_mid hgd 66 x y ho b 0 (nl n).toArray hx hy (by rw [show (nl n).toArray.size = 4 from by rw [List.size_toArray, nl_length]]; exact ht) (by rw [List.size_toArray, nl_length]; exact infoN) (all_oneCell_toArray (nl_one n)) (h _ rfl)

theorem wpList_loadNw {ops : Array Oper} {rest : List Oper} {op : Oper} {a : Act} {w : World} {Q : Exit → Act → World → Prop} (hgd : op.guard = none) (x : Operand) (ho : op.op = .load 66 x)
    (b : Nat) (hx : a.eval x = .pointer (some ⟨b, 0, none⟩)) (n : Nat) (hc : w.rangeAt b 0 (nl n))
    (h : wpList Tryd.prog ops Q rest (a.put op.dst (numV n)) w) : wpList Tryd.prog ops Q (op :: rest) a w :=
  wpList_load_mid hgd 66 x ho b 0 hx (nl n) _ hc Tryd.underlying66 rfl (by rw [nl_length]; exact infoN) h

theorem and8w : ∀ d : Nat, d < 256 → bits .and .u8 (d : Int) 1 = ((d % 2 : Nat) : Int) := by decide +kernel

section
variable {o : Oper} {ρ : Operand → Value} {x y : Operand} {t : TypeId} {w : World}
theorem exec_shr8w (ho : o.op = .binOp .shr 5 x y t) (c j : Nat) (hj : j < 8) (hx : ρ x = .int .u8 (c : Int)) (hy : ρ y = .int .i64 (j : Int)) : (execOp ρ o).run Tryd.prog w = .ok (.value (.int .u8 ((c / 2 ^ j : Nat) : Int))) w := by
  have h8 : j = 0 ∨ j = 1 ∨ j = 2 ∨ j = 3 ∨ j = 4 ∨ j = 5 ∨ j = 6 ∨ j = 7 := by omega
  unfold execOp
  simp only [ho, hx, hy]
  rcases h8 with rfl | rfl | rfl | rfl | rfl | rfl | rfl | rfl <;> simp [go_sem]
theorem exec_and8w (ho : o.op = .binOp .and 5 x y t) (c : Nat) (hc : c < 256) (hx : ρ x = .int .u8 (c : Int)) (hy : ρ y = .int .u8 1) : (execOp ρ o).run Tryd.prog w = .ok (.value (.int .u8 ((c % 2 : Nat) : Int))) w := by
  have := and8w c hc
  unfold execOp
  simp only [ho, hx, hy]
  simp [go_sem, this]
theorem exec_eql8w (ho : o.op = .binOp .eql 5 x y t) (c : Nat) (hx : ρ x = .int .u8 (c : Int)) (hy : ρ y = .int .u8 1) (b : Bool) (hb : decide (c = 1) = b) : (execOp ρ o).run Tryd.prog w = .ok (.value (.bool b)) w := by
  subst hb
  unfold execOp
  simp only [ho, hx, hy]
  simp [go_sem]
  by_cases h : c = 1
  · subst h; rfl
  · have : ((c : Int) == 1) = false := by simp; omega
    rw [this]; simp [h]
end

/-- what the variables of power hold -/
structure PX (w0 : World) (br x e v : Nat) (wr : World) : Prop where
  rx : wr.rangeAt w0.heap.size 0 (nl x)
  re : wr.rangeAt (w0.heap.size + 1) 0 (bl e)
  rv : wr.rangeAt br 0 (nl v)
  tv : wr.there br 0 4
  tr : wr.there (w0.heap.size + 1 + 1) 0 4
  lt : w0.heap.size + 1 + 1 < br
  gw : Grown w0 wr
theorem PX.grown {w0 wr w' : World} {br x e v : Nat} (h : PX w0 br x e v wr) (hg : Grown wr w') : PX w0 br x e v w' :=
  ⟨rangeAt_grown h.rx hg, rangeAt_grown h.re hg, rangeAt_grown h.rv hg, there_grown h.tv hg, there_grown h.tr hg, h.lt, grown_trans h.gw hg⟩
theorem PX.store {w0 wr : World} {br x e v : Nat} (h : PX w0 br x e v wr) (n : Nat) : PX w0 br x e n (wr.setCells br 0 (nl n)) := by
  have hl := h.lt
  exact ⟨World.rangeAt_setCells_apart h.rx _ _ _ (.inl (by omega)), World.rangeAt_setCells_apart h.re _ _ _ (.inl (by omega)), World.rangeAt_setCells_same _ _ _ _ (by rw [nl_length]; exact h.tv), World.there_setCells h.tv _ _ _, World.there_setCells h.tr _ _ _, h.lt, grown_setCells (by omega) _ _ h.gw⟩

/-- the exponent of the bits from j of byte i on -/
def ex (e i j : Nat) : Nat := e / 256 ^ i / 2 ^ j
theorem ex_step (e i j : Nat) : ex e i j = ex e i (j + 1) * 2 + e / 256 ^ i % 256 / 2 ^ j % 2 ∨ 8 ≤ j := by
  by_cases hj : 8 ≤ j
  · exact .inr hj
  · left
    unfold ex
    have h8 : j = 0 ∨ j = 1 ∨ j = 2 ∨ j = 3 ∨ j = 4 ∨ j = 5 ∨ j = 6 ∨ j = 7 := by omega
    rcases h8 with rfl | rfl | rfl | rfl | rfl | rfl | rfl | rfl <;> simp only [Nat.reducePow, Nat.reduceAdd] <;> omega
theorem ex_top (e i : Nat) : ex e i 8 = e / 256 ^ (i + 1) := by
  unfold ex
  rw [show (2 : Nat) ^ 8 = 256 from rfl, Nat.div_div_eq_div_mul, ← Nat.pow_succ]
theorem ex_zero (e i : Nat) : ex e i 0 = e / 256 ^ i := by unfold ex; rw [Nat.pow_zero, Nat.div_one]

theorem sq_pow {v z x n : Nat} (h : v % p = x ^ n % p) (hz : z % p = v ^ (2 ^ 1) % p) : z % p = x ^ (n * 2) % p := by
  rw [hz, Nat.pow_one, Nat.pow_mod, h, ← Nat.pow_mod, ← Nat.pow_mul]
theorem mul_pow1 {v z x n : Nat} (h : v % p = x ^ n % p) (hz : z % p = v * x % p) : z % p = x ^ (n + 1) % p := by
  rw [hz, Nat.mul_mod, h, ← Nat.mul_mod, ← Nat.pow_succ]

set_option maxRecDepth 100000 in
set_option maxHeartbeats 4000000 in
theorem power_num (x e : Nat) (hx : x < M) (he : e < M) (w : World) (hO : w.rangeAt 0 0 (nl 1)) :
    Calls Tryd.prog 67 #[numV x, bv e] w fun r w' => (∃ z, r = .returned (numV z) ∧ z < M ∧ z % p = x ^ e % p) ∧ Grown w w' := by
  obtain ⟨x0, x1, x2, x3, ew, _, _, _, _, _⟩ := words_of_num x hx
  have enl : nl x = [.int .u64 x0, .int .u64 x1, .int .u64 x2, .int .u64 x3] := by
    rw [numV_nl] at ew
    injection ew with ew
    exact congrArg Array.toList ew
  have h0 : (((w.alloc (Obj.cells #[Value.int IntKind.u64 x0, Value.int IntKind.u64 x1, Value.int IntKind.u64 x2, Value.int IntKind.u64 x3] 66)).alloc (Obj.cells (bl e).toArray 23)).alloc (Obj.cells #[Value.int IntKind.u64 0, Value.int IntKind.u64 0, Value.int IntKind.u64 0, Value.int IntKind.u64 0] 66)).rangeAt w.heap.size 0 (nl x) ∧ (((w.alloc (Obj.cells #[Value.int IntKind.u64 x0, Value.int IntKind.u64 x1, Value.int IntKind.u64 x2, Value.int IntKind.u64 x3] 66)).alloc (Obj.cells (bl e).toArray 23)).alloc (Obj.cells #[Value.int IntKind.u64 0, Value.int IntKind.u64 0, Value.int IntKind.u64 0, Value.int IntKind.u64 0] 66)).rangeAt (w.heap.size + 1) 0 (bl e) ∧ (((w.alloc (Obj.cells #[Value.int IntKind.u64 x0, Value.int IntKind.u64 x1, Value.int IntKind.u64 x2, Value.int IntKind.u64 x3] 66)).alloc (Obj.cells (bl e).toArray 23)).alloc (Obj.cells #[Value.int IntKind.u64 0, Value.int IntKind.u64 0, Value.int IntKind.u64 0, Value.int IntKind.u64 0] 66)).there (w.heap.size + 1 + 1) 0 4 ∧ Grown w (((w.alloc (Obj.cells #[Value.int IntKind.u64 x0, Value.int IntKind.u64 x1, Value.int IntKind.u64 x2, Value.int IntKind.u64 x3] 66)).alloc (Obj.cells (bl e).toArray 23)).alloc (Obj.cells #[Value.int IntKind.u64 0, Value.int IntKind.u64 0, Value.int IntKind.u64 0, Value.int IntKind.u64 0] 66)) ∧ (((w.alloc (Obj.cells #[Value.int IntKind.u64 x0, Value.int IntKind.u64 x1, Value.int IntKind.u64 x2, Value.int IntKind.u64 x3] 66)).alloc (Obj.cells (bl e).toArray 23)).alloc (Obj.cells #[Value.int IntKind.u64 0, Value.int IntKind.u64 0, Value.int IntKind.u64 0, Value.int IntKind.u64 0] 66)).heap.size = w.heap.size + 1 + 1 + 1 := by
    have b1 : (w.alloc (Obj.cells #[Value.int IntKind.u64 x0, Value.int IntKind.u64 x1, Value.int IntKind.u64 x2, Value.int IntKind.u64 x3] 66)).rangeAt w.heap.size 0 (nl x) := by
      have h1 : (w.alloc (Obj.cells (nl x).toArray 66)).rangeAt w.heap.size 0 (nl x) := rangeAt_alloc_new w 66 (nl x)
      rw [enl] at h1 ⊢; exact h1
    have s1 : (w.alloc (Obj.cells #[Value.int IntKind.u64 x0, Value.int IntKind.u64 x1, Value.int IntKind.u64 x2, Value.int IntKind.u64 x3] 66)).heap.size = w.heap.size + 1 := by simp
    have g1 : Grown w (w.alloc (Obj.cells #[Value.int IntKind.u64 x0, Value.int IntKind.u64 x1, Value.int IntKind.u64 x2, Value.int IntKind.u64 x3] 66)) := by go_grown
    generalize (w.alloc (Obj.cells #[Value.int IntKind.u64 x0, Value.int IntKind.u64 x1, Value.int IntKind.u64 x2, Value.int IntKind.u64 x3] 66)) = V1 at *
    have b2 := rangeAt_alloc_new V1 23 (bl e)
    rw [s1] at b2
    have s2 : (V1.alloc (Obj.cells (bl e).toArray 23)).heap.size = w.heap.size + 1 + 1 := by simp [s1]
    have b3 := there_alloc_new (V1.alloc (Obj.cells (bl e).toArray 23)) 66 #[Value.int IntKind.u64 0, Value.int IntKind.u64 0, Value.int IntKind.u64 0, Value.int IntKind.u64 0] 4 (by simp)
    rw [s2] at b3
    exact ⟨rangeAt_grown b1 (by go_grown), rangeAt_grown b2 (by go_grown), b3, grown_trans g1 (by go_grown), by simp [s1]⟩
  rw [ew, bv]
  clear ew enl
  go_enter Tryd.func67, Tryd.ntmps67
  go_wp2_with (with_reducible show wpList _ _ _ ({ dst := _, op := Op.load 66 _, type := _, pos := _, after := _, guard := _ } :: _) _ _; refine Shut.out ?_)
  show wpList _ _ _ _ _ _
  generalize (((w.alloc (Obj.cells #[Value.int IntKind.u64 x0, Value.int IntKind.u64 x1, Value.int IntKind.u64 x2, Value.int IntKind.u64 x3] 66)).alloc (Obj.cells (bl e).toArray 23)).alloc (Obj.cells #[Value.int IntKind.u64 0, Value.int IntKind.u64 0, Value.int IntKind.u64 0, Value.int IntKind.u64 0] 66)) = W0 at h0 ⊢
  obtain ⟨r1, r2, r3, g0, s0⟩ := h0
  have hs0 : w.heap.size + 1 + 1 < W0.heap.size := by omega
  clear s0
  refine wpList_loadNw rfl _ rfl 0 rfl 1 (rangeAt_grown hO g0) ?_
  simp only [Act.put, List.setIfInBounds_toArray, List.set_cons_zero, List.set_cons_succ]
  go_wp2_with (with_reducible show wpList _ _ _ ({ dst := _, op := Op.store 66 _ _, type := _, pos := _, after := _, guard := _ } :: _) _ _; refine Shut.out ?_)
  show wpList _ _ _ _ _ _
  refine wpList_store_newNw 1 (by simp) rfl rfl rfl rfl (fun w1 hg1 hr1 ht1 => ?_)
  simp only [Act.put]
  have hP0 : PX w W0.heap.size x e 1 w1 := ⟨rangeAt_grown r1 hg1, rangeAt_grown r2 hg1, hr1, ht1, there_grown r3 hg1, by omega, grown_trans g0 hg1⟩
  clear r1 r2 r3 g0 hs0 hg1 hr1 ht1 hO
  generalize W0.heap.size = br at *
  apply wpList_nil
  go_wp2
  go_loopw [6] (fun v6 wr => ∃ k v : Nat, v6 = .int .i64 ((k : Int) - 1) ∧ k ≤ 32 ∧ v < M ∧ v % p = x ^ (e / 256 ^ k) % p ∧ PX w br x e v wr) (fun v6 _ => (intOf v6 + 1).toNat)
  case atStart =>
    refine ⟨32, 1, rfl, by decide, by decide, ?_, hP0⟩
    have e32 : 256 ^ 32 = M := by decide
    rw [e32, Nat.div_eq_of_lt he, Nat.pow_zero]
  case round =>
    obtain ⟨k, v, rfl, hk, hv, hvp, hP⟩ := hrel
    clear hP0
    have hvq := Hid.of hvp
    clear hvp
    rcases Nat.eq_zero_or_pos k with rfl | hpos
    · have rz := hP.rv
      have htr := hP.tr
      have hgw := hP.gw
      clear hP
      go_wp2_with (with_reducible show wpList _ _ _ ({ dst := _, op := Op.load 66 _, type := _, pos := _, after := _, guard := _ } :: _) _ _; refine Shut.out ?_)
      show wpList _ _ _ _ _ _
      refine wpList_loadNw rfl _ rfl br rfl v rz ?_
      simp only [Act.put, List.setIfInBounds_toArray, List.set_cons_zero, List.set_cons_succ]
      refine wpList_store_varNw rfl _ _ rfl (w.heap.size + 1 + 1) v rfl rfl htr (fun w9 hw9 => ?_)
      simp only [Act.put]
      have hr9 : w9.rangeAt (w.heap.size + 1 + 1) 0 (nl v) := by rw [hw9]; exact World.rangeAt_setCells_same _ _ _ _ (by rw [nl_length]; exact htr)
      have hg9 : Grown w w9 := by rw [hw9]; exact grown_setCells (by omega) _ _ hgw
      clear hw9 rz htr hgw
      apply wpList_nil
      repeat go_step
      refine bodyPost_ret (v := numV v) (resultN Tryd.results67 _ _ (w.heap.size + 1 + 1) v ?hp hr9) ?hd ?_
      case hp => rfl
      case hd => rfl
      refine ⟨⟨v, rfl, hv, ?_⟩, hg9⟩
      have := hvq.out
      rwa [Nat.pow_zero, Nat.div_one] at this
    · obtain ⟨i, rfl⟩ : ∃ i, k = i + 1 := ⟨k - 1, by omega⟩
      obtain ⟨c, hc⟩ : ∃ c : Nat, c = e / 256 ^ i % 256 := ⟨_, rfl⟩
      have hc256 : c < 256 := by omega
      have hcell : ∀ wr : World, wr.rangeAt (w.heap.size + 1) 0 (bl e) → wr.cell? ⟨w.heap.size + 1, i, none⟩ = some (.int .u8 (c : Int)) := by
        intro wr h
        have := h i _ (bl_get e i (by omega))
        rw [Nat.zero_add, ← hc] at this
        exact this
      have hstep : ∀ j, j < 8 → ex e i j = ex e i (j + 1) * 2 + c / 2 ^ j % 2 := by
        intro j hj
        rw [hc]
        rcases ex_step e i j with h | h
        · exact h
        · omega
      have hst := Hid.of hstep
      clear hc hstep
      have ei : ((i + 1 : Nat) : Int) - 1 = (i : Int) := by omega
      rw [ei]
      clear ei
      have b0 : (0 : Int) ≤ (i : Int) := by omega
      have b1 : (i : Int) < 32 := by omega
      have wi : IntKind.i64.wrap ((i : Int) - 1) = (i : Int) - 1 := by rw [IntKind.wrap_i64]; omega
      have hv0 : Hid (v % p = x ^ (ex e i 8) % p) := by rw [ex_top]; exact hvq
      clear hvq
      go_wp2
      go_loopw [7] (fun v7 wr => ∃ b u : Nat, v7 = .int .i64 ((b : Int) - 1) ∧ b ≤ 8 ∧ u < M ∧ u % p = x ^ (ex e i b) % p ∧ PX w br x e u wr) (fun v7 _ => (intOf v7 + 1).toNat)
      case atStart => exact ⟨8, v, rfl, by decide, hv, hv0.out, hP⟩
      case round =>
        obtain ⟨b, u, rfl, hb, hu, hup, hQ⟩ := hrel
        clear hP
        have huq := Hid.of hup
        clear hup hv0
        rcases Nat.eq_zero_or_pos b with rfl | hbpos
        · have hfin : Hid (u % p = x ^ (e / 256 ^ i) % p) := by
            have := huq.out
            rw [ex_zero] at this
            exact this
          clear huq
          go_wp2
          go_roundw
          case rel => exact ⟨i, u, rfl, by omega, hu, hfin.out, hQ⟩
          case measure => simp [intOf]
        · obtain ⟨j, rfl⟩ : ∃ j, b = j + 1 := ⟨b - 1, by omega⟩
          have hj8 : j < 8 := by omega
          have ej : ((j + 1 : Nat) : Int) - 1 = (j : Int) := by omega
          rw [ej]
          clear ej
          have j0 : (0 : Int) ≤ (j : Int) := by omega
          have wj : IntKind.i64.wrap ((j : Int) - 1) = (j : Int) - 1 := by rw [IntKind.wrap_i64]; omega
          go_wp2_with (with_reducible show wpList _ _ _ ({ dst := _, op := Op.load 66 _, type := _, pos := _, after := _, guard := _ } :: _) _ _; refine Shut.out ?_)
          show wpList _ _ _ _ _ _
          refine wpList_loadNw rfl _ rfl br rfl u hQ.rv ?_
          simp only [Act.put, List.setIfInBounds_toArray, List.set_cons_zero, List.set_cons_succ]
          go_wp2_with fail
          refine Calls.mono (squared_num u 1 hu (by decide) _) ?_
          rintro r u1 ⟨⟨z, rfl, hz, hzp⟩, hg1⟩
          have hzq := Hid.of (sq_pow huq.out hzp)
          clear hzp huq
          dsimp only
          go_step
          refine wpList_store_varNw rfl _ _ rfl br z rfl rfl (hQ.grown hg1).tv (fun u2 hu2 => ?_)
          simp only [Act.put]
          have hP2 := (hQ.grown hg1).store z
          rw [← hu2] at hP2
          clear hu2 hg1 hQ
          apply wpList_nil
          repeat ((fail_if_success (with_reducible show Code.wp _ (Code.region _ _ _) _ _ _)); go_step)
          apply wp_region_lit
          refine wpList_val (.int .i64 i) rfl rfl ?_
          simp only [Act.put, List.setIfInBounds_toArray, List.set_cons_zero, List.set_cons_succ]
          refine wpList_val (.pointer (some ⟨w.heap.size + 1, i, none⟩)) rfl (by go_simp) ?_
          simp only [Act.put, List.setIfInBounds_toArray, List.set_cons_zero, List.set_cons_succ]
          refine wpList_val (.int .u8 c) rfl (by have hcc := hcell _ hP2.re; go_simp) ?_
          simp only [Act.put, List.setIfInBounds_toArray, List.set_cons_zero, List.set_cons_succ]
          refine wpList_val (.int .i64 j) rfl rfl ?_
          simp only [Act.put, List.setIfInBounds_toArray, List.set_cons_zero, List.set_cons_succ]
          refine wpList_val (.int .u8 ((c / 2 ^ j : Nat) : Int)) rfl (exec_shr8w rfl c j hj8 rfl rfl) ?_
          simp only [Act.put, List.setIfInBounds_toArray, List.set_cons_zero, List.set_cons_succ]
          have hd256 : c / 2 ^ j < 256 := Nat.lt_of_le_of_lt (Nat.div_le_self _ _) hc256
          refine wpList_val (.int .u8 ((c / 2 ^ j % 2 : Nat) : Int)) rfl (exec_and8w rfl (c / 2 ^ j) hd256 rfl rfl) ?_
          simp only [Act.put, List.setIfInBounds_toArray, List.set_cons_zero, List.set_cons_succ]
          by_cases hbit : c / 2 ^ j % 2 = 1
          · skip
            refine wpList_val (.bool true) rfl (exec_eql8w rfl (c / 2 ^ j % 2) rfl rfl true (decide_eq_true hbit)) ?_
            simp only [Act.put, List.setIfInBounds_toArray, List.set_cons_zero, List.set_cons_succ]
            apply wpList_nil
            have hexp := hst.out j (by omega)
            rw [hbit] at hexp
            have hex2 := Hid.of hexp
            clear hexp hbit
            repeat ((fail_if_success (with_reducible show Code.wp _ (Code.region _ _ _) _ _ _)); go_step)
            apply wp_region_lit
            refine wpList_loadNw rfl _ rfl br rfl z hP2.rv ?_
            simp only [Act.put, List.setIfInBounds_toArray, List.set_cons_zero, List.set_cons_succ]
            refine wpList_loadNw rfl _ rfl w.heap.size rfl x hP2.rx ?_
            simp only [Act.put, List.setIfInBounds_toArray, List.set_cons_zero, List.set_cons_succ]
            go_wp2_with fail
            refine Calls.mono (times_num z x hz hx _) ?_
            rintro r u3 ⟨⟨t, rfl, ht, htp⟩, hg3⟩
            have htq := Hid.of htp
            clear htp
            dsimp only
            go_step
            refine wpList_store_varNw rfl _ _ rfl br t rfl rfl (hP2.grown hg3).tv (fun u4 hu4 => ?_)
            simp only [Act.put]
            have hP4 := (hP2.grown hg3).store t
            rw [← hu4] at hP4
            clear hu4 hg3 hP2
            apply wpList_nil
            go_wp2
            go_roundw
            case rel => exact ⟨j, t, rfl, by omega, ht, (mul_pow1 hzq.out htq.out).trans (by rw [hex2.out]), hP4⟩
            case measure => simp [intOf]
          · skip
            refine wpList_val (.bool false) rfl (exec_eql8w rfl (c / 2 ^ j % 2) rfl rfl false (decide_eq_false hbit)) ?_
            simp only [Act.put, List.setIfInBounds_toArray, List.set_cons_zero, List.set_cons_succ]
            apply wpList_nil
            have hb0 : c / 2 ^ j % 2 = 0 := by omega
            have hexp := hst.out j (by omega)
            rw [hb0, Nat.add_zero] at hexp
            have hex2 := Hid.of hexp
            clear hexp hbit hb0
            go_wp2
            go_roundw
            case rel => exact ⟨j, z, rfl, by omega, hz, hzq.out.trans (by rw [hex2.out]), hP2⟩
            case measure => simp [intOf]
end Go.Proofs.YtkegcilcapnpdaaDoor

namespace Go.Proofs.YtkegcilcapnpdaaDoor
open Go.RowKit Go.Shelf FieldNum

set_option maxRecDepth 100000 in
set_option maxHeartbeats 1000000 in
theorem Pow_any (x y : Nat) (hx : x < M) (hy : y < M) (w : World) (hO : w.rangeAt 0 0 (nl 1)) :
    Calls Tryd.prog 28 #[bv x, bv y] w fun e w' => e = .returned (bv (x ^ y % p)) ∧ Grown w w' := by
  rw [bv, bv]
  go_enter Tryd.func28, Tryd.ntmps28
  go_wp2
  refine wp_region_noPanic ?_
  refine wp_region_held_drew (S := fun w' => w'.rangeAt w.heap.size 0 (bl x) ∧ w'.rangeAt (w.heap.size + 1) 0 (bl y) ∧ w'.there (w.heap.size + 1 + 1) 0 32 ∧ Grown w w') (by kernel_rfl) (start3 w (bl x) (bl y) _ (by simp)) (fun hH => ?_)
  refine take32 0 (x) (w.heap.size) rfl (by kernel_rfl) (by kernel_rfl) (by kernel_rfl) (fun _ _ _ h => h) (by rfl) rfl rfl (fun _ h => h.1) hH ?_
  simp only [Act.put, List.setIfInBounds_toArray, List.set_cons_zero, List.set_cons_succ]
  refine take32 2 (y) (w.heap.size + 1) rfl (by kernel_rfl) (by kernel_rfl) (by kernel_rfl) (fun _ _ _ h => h) (by rfl) rfl rfl (fun _ h => h.2.1) hH ?_
  simp only [Act.put, List.setIfInBounds_toArray, List.set_cons_zero, List.set_cons_succ]
  refine step1 1 (by kernel_rfl) rfl (fun K hK => ?_)
  go_simp
  refine Calls.mono (load_num x _) ?_
  rintro e w1 ⟨rfl, hg1⟩
  dsimp only
  refine hK.out _ _ (keep3 hH hg1) (fun hH => ?_)
  clear hK K
  refine step1 3 (by kernel_rfl) rfl (fun K hK => ?_)
  go_simp
  refine Calls.mono (power_num x y hx hy _ (rangeAt_grown hO hH.2.2.2)) ?_
  rintro e w3 ⟨⟨z, rfl, hz, hzp⟩, hg3⟩
  dsimp only
  refine hK.out _ _ (keep3 hH hg3) (fun hH => ?_)
  clear hK K
  refine step1 4 (by kernel_rfl) rfl (fun K hK => ?_)
  go_simp
  refine Calls.mono (bytes_num z hz _) ?_
  rintro e w4 ⟨rfl, hg4⟩
  dsimp only
  refine hK.out _ _ (keep3 hH hg4) (fun hH => ?_)
  clear hK K
  obtain ⟨hr1, hr2, hth, hgw⟩ := hH
  refine step1 5 (by kernel_rfl) rfl (fun K hK => ?_)
  refine store32 (z % p) (w.heap.size + 1 + 1) rfl (by rfl) rfl rfl hth ?_
  simp only [Act.put]
  refine hK.out _ _ ⟨World.rangeAt_setCells_apart hr1 _ _ _ (by left; omega), World.rangeAt_setCells_apart hr2 _ _ _ (by left; omega), World.there_setCells hth _ _ _, grown_setCells (by omega) _ _ hgw⟩ (fun _ => ?_)
  clear hK K
  refine wpAnyH_done (by kernel_rfl) ?_ _
  refine NoPanic.normal ?_
  repeat go_step
  rw [hzp]
  refine bodyPost_ret (v := bv (x ^ y % p)) (result32 Tryd.results28 _ _ (w.heap.size + 1 + 1) _ ?hp (World.rangeAt_setCells_same _ _ _ _ (by rw [bl_length]; exact hth))) ?hd ?_
  case hp => rfl
  case hd => rfl
  exact ⟨rfl, grown_setCells (by omega) _ _ hgw⟩

/-- the answer, under a name -/
def fpow (x y : Nat) : Nat := x ^ y % p
theorem fpow_lt (x y : Nat) : fpow x y < M := mod_lt256 _
theorem Pow_f (x y : Nat) (hx : x < M) (hy : y < M) (w : World) (hO : w.rangeAt 0 0 (nl 1)) : Calls Tryd.prog 28 #[bv x, bv y] w fun e w' => e = .returned (bv (fpow x y)) ∧ Grown w w' := Pow_any x y hx hy w hO
end Go.Proofs.YtkegcilcapnpdaaDoor
