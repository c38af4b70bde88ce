import Derived.Test.YtkegcilcapnpdaaDoorNc
import Derived.Laws.MakeOwn
import Derived.Test.YtkegcilcapnpdaaDoorMr
namespace FieldNum
/-- the product of the first k numbers that are not 0 -/
def pre (f : Nat → Nat) : Nat → Nat
  | 0 => 1
  | k + 1 => if f k % p = 0 then pre f k else pre f k * f k % p
theorem pre_lt (f : Nat → Nat) : ∀ k, pre f k < p
  | 0 => show 1 < p by decide +kernel
  | k + 1 => by
    unfold pre
    split
    · exact pre_lt f k
    · exact Nat.mod_lt _ p_pos
theorem pre_mod (f : Nat → Nat) (k : Nat) : pre f k % p = pre f k := Nat.mod_eq_of_lt (pre_lt f k)
theorem pre_zero {f : Nat → Nat} {k : Nat} (h : f k % p = 0) : pre f (k + 1) = pre f k := if_pos h
theorem pre_next {f : Nat → Nat} {k : Nat} (h : ¬ f k % p = 0) : pre f (k + 1) = pre f k * f k % p := if_neg h
theorem pre_ne (f : Nat → Nat) : ∀ k, pre f k % p ≠ 0
  | 0 => show 1 % p ≠ 0 by decide +kernel
  | k + 1 => by
    unfold pre
    split
    · exact pre_ne f k
    · rename_i h
      rw [mm]
      exact mul_ne (pre_ne f k) h
theorem zpow {x n q : Nat} (h : x % q = 0) (hn : 0 < n) : x ^ n % q = 0 := by rw [Nat.pow_mod, h, Nat.zero_pow hn, Nat.zero_mod]
theorem inv_0 {x : Nat} (h : x % p = 0) : inv x = 0 := zpow h (by decide +kernel)
theorem pre_this {f : Nat → Nat} {k r a : Nat} (h : ¬ f k % p = 0) (hr : r % p = inv (pre f (k + 1))) (ha : a % p = pre f k) : r * a % p = inv (f k) := by
  have hx := mul_inv (mul_ne (pre_ne f k) h)
  refine inv_uniq (Nat.mod_lt _ p_pos) ?_
  have e1 : r % p = inv (pre f k * f k) % p := by rw [hr, pre_next h, inv_mod]; exact (Nat.mod_eq_of_lt (inv_lt _)).symm
  have e2 : r * a % p = inv (pre f k * f k) * pre f k % p := mcong e1 (ha.trans (pre_mod f k).symm)
  rw [Nat.mul_mod, mm, ← Nat.mul_mod, Nat.mul_mod, e2, ← Nat.mul_mod]
  rw [show f k * (inv (pre f k * f k) * pre f k) = pre f k * f k * inv (pre f k * f k) by grind]
  exact hx
theorem pre_rest {f : Nat → Nat} {k r : Nat} (h : ¬ f k % p = 0) (hr : r % p = inv (pre f (k + 1))) : r * f k % p = inv (pre f k) := by
  have hx := mul_inv (mul_ne (pre_ne f k) h)
  refine inv_uniq (Nat.mod_lt _ p_pos) ?_
  have e1 : r % p = inv (pre f k * f k) % p := by rw [hr, pre_next h, inv_mod]; exact (Nat.mod_eq_of_lt (inv_lt _)).symm
  have e2 : r * f k % p = inv (pre f k * f k) * f k % p := mcong e1 rfl
  rw [Nat.mul_mod, mm, ← Nat.mul_mod, Nat.mul_mod, e2, ← Nat.mul_mod]
  rw [show pre f k * (inv (pre f k * f k) * f k) = pre f k * f k * inv (pre f k * f k) by grind]
  exact hx
end FieldNum
namespace Go.Proofs.YtkegcilcapnpdaaDoor
open Go.RowKit Go.Shelf FieldNum

set_option maxRecDepth 100000 in
theorem infoM : (Tryd.prog.info? 66).map (fun i => (i.zero, i.size, i.bytes)) = some (some (.agg (nl 0).toArray), 4, 32) := by kernel_rfl
set_option maxRecDepth 100000 in
theorem infoB : (Tryd.prog.info? 23).map (fun i => (i.zero, i.size, i.bytes)) = some (some (bv 0), 32, 32) := by kernel_rfl
theorem mk_num (n : Nat) (hn : n ≤ 256) (w : World) : (Instr.makeSlice 63 (.int .i64 (n : Int)) (.int .i64 (n : Int))).run Tryd.prog w = .ok (.slice (some ⟨w.heap.size, 0, none⟩) n n) (w.alloc (.cells (madeCells (nl 0).toArray (n * 4)) 66)) := by
  obtain ⟨i, hi, hzz⟩ := Option.map_eq_some_iff.1 infoM
  simp only [Prod.mk.injEq] at hzz
  obtain ⟨hz, hs, hb⟩ := hzz
  have := run_make (P := Tryd.prog) w 63 66 i _ Tryd.underlying63 hi hz .i64 .i64 n n (by omega) (by omega) (by rw [hb]; omega) (by omega)
  rw [hs] at this
  simpa [Value.cells] using this
theorem mk_b32 (n : Nat) (hn : n ≤ 256) (w : World) : (Instr.makeSlice 22 (.int .i64 (n : Int)) (.int .i64 (n : Int))).run Tryd.prog w = .ok (.slice (some ⟨w.heap.size, 0, none⟩) n n) (w.alloc (.cells (madeCells (bl 0).toArray (n * 32)) 23)) := by
  obtain ⟨i, hi, hzz⟩ := Option.map_eq_some_iff.1 infoB
  simp only [Prod.mk.injEq] at hzz
  obtain ⟨hz, hs, hb⟩ := hzz
  have := run_make (P := Tryd.prog) w 22 23 i _ Tryd.underlying22 hi hz .i64 .i64 n n (by omega) (by omega) (by rw [hb]; omega) (by omega)
  rw [hs] at this
  simpa [Value.cells, bv] using this
theorem bl0_get (k : Nat) (hk : k < 32) : (bl 0)[k]? = some (.int .u8 0) := by
  rw [bl_get 0 k hk]; simp
theorem made_b32 {w : World} {n i : Nat} (hi : i < n) : (w.alloc (.cells (madeCells (bl 0).toArray (n * 32)) 23)).rangeAt w.heap.size (32 * i) (bl 0) := by
  intro j v hv
  have hj : j < 32 := by have := lt_of_get hv; rwa [bl_length] at this
  rw [bl0_get j hj] at hv
  injection hv with hv
  subst hv
  have hlt : 32 * i + j < n * 32 := by omega
  simp only [World.cell?, World.alloc, madeCells]
  simp [hlt, bl_length]
  rw [bl0_get (j % 32) (Nat.mod_lt _ (by decide))]; rfl
section
variable {o : Oper} {ρ : Operand → Value} {x y : Operand} {w : World}
theorem exec_idxSB {b off n c : Nat} (i : Nat) (hi : i < n) (ho : o.op = .indexAddr 22 x y) (hx : ρ x = .slice (some ⟨b, off, none⟩) n c) (hy : ρ y = .int .i64 (i : Int)) : (execOp ρ o).run Tryd.prog w = .ok (.value (.pointer (some ⟨b, off + 32 * i, none⟩))) w := by
  unfold execOp
  simp only [ho, hx, hy]
  go_simp
theorem exec_idxSN {b off n c : Nat} (i : Nat) (hi : i < n) (ho : o.op = .indexAddr 63 x y) (hx : ρ x = .slice (some ⟨b, off, none⟩) n c) (hy : ρ y = .int .i64 (i : Int)) : (execOp ρ o).run Tryd.prog w = .ok (.value (.pointer (some ⟨b, off + 4 * i, none⟩))) w := by
  unfold execOp
  simp only [ho, hx, hy]
  go_simp
end
end Go.Proofs.YtkegcilcapnpdaaDoor

namespace Go.Proofs.YtkegcilcapnpdaaDoor
open Go.RowKit Go.Shelf FieldNum

theorem mod_M (x : Nat) : x % p < M := Nat.lt_trans (Nat.mod_lt _ p_pos) (by decide)
theorem exec_zeroN {o : Oper} {ρ : Operand → Value} {x y : Operand} {t : TypeId} (ho : o.op = .binOp .eql 66 x y t) (m n : Nat) (hx : ρ x = numV m) (hy : ρ y = numV n) (hm : m < M) (hn : n < M) (bb : Bool) (hb : decide (m = n) = bb) (w : World) : (execOp ρ o).run Tryd.prog w = .ok (.value (.bool bb)) w := by
  have := exec_eqlN ho m n hx hy hm hn w
  rwa [hb] at this

set_option maxRecDepth 100000 in
set_option maxHeartbeats 2000000 in
theorem zero_num (x : Nat) (hx : x < M) (bb : Bool) (h : decide (x % p = 0) = bb) (w : World) : Calls Tryd.prog 51 #[numV x] w fun e w' => e = .returned (.bool bb) ∧ Grown w w' := by
  have hW := Grown.refl w
  go_enter Tryd.func51, Tryd.ntmps51
  repeat ((fail_if_success (with_reducible show Code.wp _ (Code.region _ _ _) _ _ _)); go_step)
  refine wp_plain [.box 66 (nl (x)), .imm (.bool false)] (by kernel_rfl) (fun β => ?_) (fun β w1 hD => ?_)
  · refine Obs.cons (Ob.box rfl rfl (by kernel_rfl)) ?_
    refine Obs.cons (Ob.imm rfl (fun w => by kernel_rfl)) ?_
    exact Obs.nil
  obtain ⟨hf_b0, hr_b0⟩ := hD.bx 0 _ _ rfl
  replace hf_b0 := Nat.le_trans hW.2.2 hf_b0
  replace hW := grown_trans hW hD.gr
  clear hD
  simp only [finAct, putAll, valsFrom, Plan.value, Act.put, List.setIfInBounds_toArray, List.set_cons_zero, List.set_cons_succ]
  generalize β 0 = b0 at *
  repeat ((fail_if_success (with_reducible show Code.wp _ (Code.region _ _ _) _ _ _)); go_step)
  refine wp_plain [.val (numV (x)), .val (numV ((x) % p)), .imm (numV (0)), .imm (.bool bb), .imm (.bool bb)] (by kernel_rfl) (fun β => ?_) (fun β w2 hD => ?_)
  · refine Obs.cons (Ob.load (b0) 0 (nl (x)) rfl rfl (by kernel_rfl) hr_b0 Tryd.underlying66 rfl (by rw [nl_length]; exact infoN)) ?_
    refine Obs.cons (Ob.call 59 #[numV (x)] rfl (fun w => by kernel_rfl) (fun w hg => canonical_num (x) hx w)) ?_
    refine Obs.cons (Ob.imm rfl (fun w => exec_build rfl (by kernel_rfl) (build_n0 w))) ?_
    refine Obs.cons (Ob.imm rfl (fun w => exec_zeroN rfl ((x) % p) (0) (by kernel_rfl) (by kernel_rfl) (mod_M _) (by decide) bb (h) w)) ?_
    refine Obs.cons (Ob.imm rfl (fun w => by kernel_rfl)) ?_
    exact Obs.nil
  replace hr_b0 := rangeAt_grown hr_b0 hD.gr
  replace hW := grown_trans hW hD.gr
  clear hD
  simp only [finAct, putAll, valsFrom, Plan.value, Act.put, List.setIfInBounds_toArray, List.set_cons_zero, List.set_cons_succ]
  repeat go_step
  go_ret
  exact ⟨rfl, hW⟩

end Go.Proofs.YtkegcilcapnpdaaDoor

namespace Go.Proofs.YtkegcilcapnpdaaDoor
open Go.RowKit Go.Shelf FieldNum

theorem wpList_run {P : Program} {ops : Array Oper} {Q : Exit → Act → World → Prop} {a : Act} {w w' : World} {rest : List Oper} {o : Oper} {v : Value} (hg : o.guard = none) (he : (execOp a.eval o).run P w = .ok (.value v) w') (h : wpList P ops Q rest (a.put o.dst v) w') : wpList P ops Q (o :: rest) a w :=
  wpList_plain hg fun K hK => by unfold Oper.wp; rw [he]; exact hK _ _ h
theorem exec_make {P : Program} {ρ : Operand → Value} {o : Oper} {x y : Operand} {t : TypeId} {w w' : World} {v m n : Value} (ho : o.op = .makeSlice t x y) (hx : ρ x = m) (hy : ρ y = n) (hm : (Instr.makeSlice t m n).run P w = .ok v w') : (execOp ρ o).run P w = .ok (.value v) w' := by
  unfold execOp
  simp [ho, hx, hy, hm]
theorem there_part {w : World} {b m i s n : Nat} (h : w.there b 0 (m * n)) (hi : i < n) (hs : s = m) : w.there b (m * i) s := by
  subst hs
  intro j hj
  have : s * i + j < s * n := by
    have : s * (i + 1) ≤ s * n := Nat.mul_le_mul_left _ hi
    rw [Nat.mul_add] at this
    omega
  have := h (s * i + j) this
  rwa [Nat.zero_add] at this
/-- the first loop of Batch -/
structure BX (w0 : World) (b o n : Nat) (f : Nat → Nat) (A B k q : Nat) (g : Nat → Nat) (wr : World) : Prop where
  li : ∀ i, i < n → wr.rangeAt b (o + 32 * i) (bl (f i))
  ah : ∀ i, i < k → wr.rangeAt A (4 * i) (nl (g i))
  tA : wr.there A 0 (4 * n)
  rp : wr.rangeAt B 0 (nl q)
  tp : wr.there B 0 4
  ne : A ≠ B
  fA : w0.heap.size ≤ A
  fB : w0.heap.size ≤ B
  gw : Grown w0 wr
theorem BX.grown {w0 wr w' : World} {b o n : Nat} {f : Nat → Nat} {A B k q : Nat} {g : Nat → Nat} (s : BX w0 b o n f A B k q g wr) (hg : Grown wr w') : BX w0 b o n f A B k q g w' :=
  ⟨fun i hi => rangeAt_grown (s.li i hi) hg, fun i hi => rangeAt_grown (s.ah i hi) hg, there_grown s.tA hg, rangeAt_grown s.rp hg, there_grown s.tp hg, s.ne, s.fA, s.fB, grown_trans s.gw hg⟩
theorem BX.putA {w0 wr : World} {b o n : Nat} {f : Nat → Nat} {A B k q : Nat} {g : Nat → Nat} (s : BX w0 b o n f A B k q g wr) (hk : k < n) (hb : b < w0.heap.size) : BX w0 b o n f A B (k + 1) q (fun i => if i = k then q else g i) (wr.setCells A (4 * k) (nl q)) := by
  have hbA : b ≠ A := by have := s.fA; omega
  refine ⟨fun i hi => World.rangeAt_setCells_apart (s.li i hi) _ _ _ (.inl hbA), fun i hi => ?_, World.there_setCells s.tA _ _ _, World.rangeAt_setCells_apart s.rp _ _ _ (.inl (Ne.symm s.ne)), World.there_setCells s.tp _ _ _, s.ne, s.fA, s.fB, grown_setCells s.fA _ _ s.gw⟩
  by_cases e : i = k
  · subst e
    rw [if_pos rfl]
    exact World.rangeAt_setCells_same _ _ _ _ (by rw [nl_length]; exact there_part s.tA hk rfl)
  · rw [if_neg e]
    exact World.rangeAt_setCells_apart (s.ah i (by omega)) _ _ _ (.inr (by simp only [nl_length]; omega))
theorem BX.putB {w0 wr : World} {b o n : Nat} {f : Nat → Nat} {A B k q : Nat} {g : Nat → Nat} (s : BX w0 b o n f A B k q g wr) (z : Nat) (hb : 0 < n → b < w0.heap.size) : BX w0 b o n f A B k z g (wr.setCells B 0 (nl z)) := by
  refine ⟨fun i hi => World.rangeAt_setCells_apart (s.li i hi) _ _ _ (.inl (by have := s.fB; have := hb (by omega); omega)), fun i hi => World.rangeAt_setCells_apart (s.ah i hi) _ _ _ (.inl s.ne), World.there_setCells s.tA _ _ _, World.rangeAt_setCells_same _ _ _ _ (by rw [nl_length]; exact s.tp), World.there_setCells s.tp _ _ _, s.ne, s.fA, s.fB, grown_setCells s.fB _ _ s.gw⟩
theorem if_shift {k i x y : Nat} (e : ¬ i = k) : (if k + 1 ≤ i then x else y) = (if k ≤ i then x else y) := by
  by_cases h : k ≤ i
  · rw [if_pos h, if_pos (by omega)]
  · rw [if_neg h, if_neg (by omega)]
/-- the second -/
structure CX (w0 : World) (b o n : Nat) (f : Nat → Nat) (A : Nat) (g : Nat → Nat) (R S k q : Nat) (wr : World) : Prop where
  li : ∀ i, i < n → wr.rangeAt b (o + 32 * i) (bl (f i))
  ah : ∀ i, i < n → wr.rangeAt A (4 * i) (nl (g i))
  iv : ∀ i, i < n → wr.rangeAt R (32 * i) (bl (if k ≤ i then inv (f i) else 0))
  tR : wr.there R 0 (32 * n)
  rs : wr.rangeAt S 0 (nl q)
  ts : wr.there S 0 4
  nAR : 0 < n → A ≠ R
  nAS : 0 < n → A ≠ S
  nRS : R ≠ S
  fR : w0.heap.size ≤ R
  fS : w0.heap.size ≤ S
  gw : Grown w0 wr
theorem CX.grown {w0 wr w' : World} {b o n : Nat} {f : Nat → Nat} {A : Nat} {g : Nat → Nat} {R S k q : Nat} (s : CX w0 b o n f A g R S k q wr) (hg : Grown wr w') : CX w0 b o n f A g R S k q w' :=
  ⟨fun i hi => rangeAt_grown (s.li i hi) hg, fun i hi => rangeAt_grown (s.ah i hi) hg, fun i hi => rangeAt_grown (s.iv i hi) hg, there_grown s.tR hg, rangeAt_grown s.rs hg, there_grown s.ts hg, s.nAR, s.nAS, s.nRS, s.fR, s.fS, grown_trans s.gw hg⟩
theorem CX.putR {w0 wr : World} {b o n : Nat} {f : Nat → Nat} {A : Nat} {g : Nat → Nat} {R S k q : Nat} (s : CX w0 b o n f A g R S (k + 1) q wr) (hk : k < n) (hb : b < w0.heap.size) : CX w0 b o n f A g R S k q (wr.setCells R (32 * k) (bl (inv (f k)))) := by
  have hbR : b ≠ R := by have := s.fR; omega
  refine ⟨fun i hi => World.rangeAt_setCells_apart (s.li i hi) _ _ _ (.inl hbR), fun i hi => World.rangeAt_setCells_apart (s.ah i hi) _ _ _ (.inl (s.nAR (by omega))), fun i hi => ?_, World.there_setCells s.tR _ _ _, World.rangeAt_setCells_apart s.rs _ _ _ (.inl (Ne.symm s.nRS)), World.there_setCells s.ts _ _ _, s.nAR, s.nAS, s.nRS, s.fR, s.fS, grown_setCells s.fR _ _ s.gw⟩
  by_cases e : i = k
  · subst e
    rw [if_pos (Nat.le_refl _)]
    exact World.rangeAt_setCells_same _ _ _ _ (by rw [bl_length]; exact there_part s.tR hk rfl)
  · have h := s.iv i hi
    rw [if_shift e] at h
    exact World.rangeAt_setCells_apart h _ _ _ (.inr (by simp only [bl_length]; omega))
theorem CX.skip {w0 wr : World} {b o n : Nat} {f : Nat → Nat} {A : Nat} {g : Nat → Nat} {R S k q : Nat} (s : CX w0 b o n f A g R S (k + 1) q wr) (h0 : f k % p = 0) : CX w0 b o n f A g R S k q wr := by
  refine ⟨s.li, s.ah, fun i hi => ?_, s.tR, s.rs, s.ts, s.nAR, s.nAS, s.nRS, s.fR, s.fS, s.gw⟩
  have h := s.iv i hi
  by_cases e : i = k
  · subst e
    rw [if_pos (Nat.le_refl _), inv_0 h0]
    rwa [if_neg (by omega)] at h
  · rwa [if_shift e] at h
theorem CX.putS {w0 wr : World} {b o n : Nat} {f : Nat → Nat} {A : Nat} {g : Nat → Nat} {R S k q : Nat} (s : CX w0 b o n f A g R S k q wr) (z : Nat) (hb : 0 < n → b < w0.heap.size) : CX w0 b o n f A g R S k z (wr.setCells S 0 (nl z)) :=
  ⟨fun i hi => World.rangeAt_setCells_apart (s.li i hi) _ _ _ (.inl (by have := s.fS; have := hb (by omega); omega)), fun i hi => World.rangeAt_setCells_apart (s.ah i hi) _ _ _ (.inl (s.nAS (by omega))), fun i hi => World.rangeAt_setCells_apart (s.iv i hi) _ _ _ (.inl s.nRS), World.there_setCells s.tR _ _ _, World.rangeAt_setCells_same _ _ _ _ (by rw [nl_length]; exact s.ts), World.there_setCells s.ts _ _ _, s.nAR, s.nAS, s.nRS, s.fR, s.fS, grown_setCells s.fS _ _ s.gw⟩
end Go.Proofs.YtkegcilcapnpdaaDoor

namespace Go.Proofs.YtkegcilcapnpdaaDoor
open Go.RowKit Go.Shelf FieldNum

structure Gb (w : World) : Prop where
  one : w.rangeAt 0 0 (nl 1)
  pw : w.rangeAt 5 0 PW
theorem Gb.grown {w w' : World} (h : Gb w) (hg : Grown w w') : Gb w' := ⟨rangeAt_grown h.one hg, rangeAt_grown h.pw hg⟩
section
variable {o : Oper} {ρ : Operand → Value} {x y : Operand} {w : World}
theorem exec_idxA {b n c : Nat} (i : Nat) (hi : i < n) (ho : o.op = .indexAddr 63 x y) (hx : ρ x = .slice (some ⟨b, 0, none⟩) n c) (hy : ρ y = .int .i64 (i : Int)) : (execOp ρ o).run Tryd.prog w = .ok (.value (.pointer (some ⟨b, 4 * i, none⟩))) w := by
  have := exec_idxSN (w := w) i hi ho hx hy
  rwa [Nat.zero_add] at this
theorem exec_idxRB {b n c : Nat} (i : Nat) (hi : i < n) (ho : o.op = .indexAddr 22 x y) (hx : ρ x = .slice (some ⟨b, 0, none⟩) n c) (hy : ρ y = .int .i64 (i : Int)) : (execOp ρ o).run Tryd.prog w = .ok (.value (.pointer (some ⟨b, 32 * i, none⟩))) w := by
  have := exec_idxSB (w := w) i hi ho hx hy
  rwa [Nat.zero_add] at this
end
theorem there_lt {w : World} {b o n : Nat} (h : w.there b o n) (hn : 0 < n) : b < w.heap.size := by
  obtain ⟨v, hv⟩ := Option.isSome_iff_exists.1 (h 0 hn).1
  exact block_lt_of_cell hv
theorem exec_geI {o : Oper} {ρ : Operand → Value} {x y : Operand} {t : TypeId} {w : World} (m n : Int) (ho : o.op = .binOp .geq 3 x y t) (hx : ρ x = .int .i64 m) (hy : ρ y = .int .i64 n) (b : Bool) (hb : decide (n ≤ m) = b) : (execOp ρ o).run Tryd.prog w = .ok (.value (.bool b)) w := by
  subst hb
  unfold execOp
  simp only [ho, hx, hy]
  simp [go_sem]
/-- what the first loop knows -/
def PO (f : Nat → Nat) (k q : Nat) (g : Nat → Nat) : Prop := q < M ∧ q % p = pre f k ∧ ∀ i, i < k → g i < M ∧ g i % p = pre f i
theorem PO.put {f : Nat → Nat} {k q : Nat} {g : Nat → Nat} (h : PO f k q g) (z : Nat) (hz : z < M) (hq : z % p = pre f (k + 1)) : PO f (k + 1) z (fun i => if i = k then q else g i) := by
  refine ⟨hz, hq, fun i hi => ?_⟩
  by_cases e : i = k
  · subst e; simp only [if_true]; exact ⟨h.1, h.2.1⟩
  · simp only [if_neg e]; exact h.2.2 i (by omega)

set_option maxRecDepth 100000 in
set_option maxHeartbeats 8000000 in
theorem Batch_num (a : Option Addr) (b o n c : Nat) (f : Nat → Nat) (hn : n ≤ 256) (hs : 0 < n → a = some ⟨b, o, none⟩) (hf : ∀ i, i < n → f i < M) (w : World) (hb : 0 < n → b < w.heap.size) (hr : ∀ i, i < n → w.rangeAt b (o + 32 * i) (bl (f i))) (hGl0 : Gb w) :
    Calls Tryd.prog 12 #[.slice a n c] w fun e w' => (∃ r, e = .returned (.slice (some ⟨r, 0, none⟩) n n) ∧ w.heap.size ≤ r ∧ ∀ i, i < n → w'.rangeAt r (32 * i) (bl (inv (f i)))) ∧ Grown w w' := by
  go_enter Tryd.func12, Tryd.ntmps12
  repeat ((fail_if_success (with_reducible show Code.wp _ (Code.region _ _ _) _ _ _)); go_step)
  refine wp_plain [.imm (.slice none 0 0)] (by kernel_rfl) (fun β => ?_) (fun β w1 hD => ?_)
  · refine Obs.cons (Ob.imm rfl (fun w => by kernel_rfl)) ?_
    exact Obs.nil
  have hW := hD.gr
  clear hD
  simp only [finAct, putAll, valsFrom, Plan.value, Act.put, List.setIfInBounds_toArray, List.set_cons_zero, List.set_cons_succ]
  repeat ((fail_if_success (with_reducible show Code.wp _ (Code.region _ _ _) _ _ _)); go_step)
  refine wp_plain [.imm (.slice a n c), .imm (.int .i64 (n : Int)), .imm (.bool false)] (by kernel_rfl) (fun β => ?_) (fun β w2 hD => ?_)
  · refine Obs.cons (Ob.imm rfl (fun w => by kernel_rfl)) ?_
    refine Obs.cons (Ob.imm rfl (fun w => by kernel_rfl)) ?_
    refine Obs.cons (Ob.imm rfl (fun w => exec_gtrI rfl (n : Int) 256 (by kernel_rfl) (by kernel_rfl) false (decide_eq_false (by omega)))) ?_
    exact Obs.nil
  replace hW := grown_trans hW hD.gr
  clear hD
  simp only [finAct, putAll, valsFrom, Plan.value, Act.put, List.setIfInBounds_toArray, List.set_cons_zero, List.set_cons_succ]
  repeat ((fail_if_success (with_reducible show Code.wp _ (Code.region _ _ _) _ _ _)); go_step)
  refine wp_region_lit ?_
  refine wpList_run (v := .slice a n c) (w' := w2) rfl (by kernel_rfl) ?_
  refine wpList_run (v := .int .i64 (n : Int)) (w' := w2) rfl (by kernel_rfl) ?_
  refine wpList_run (v := .slice (some ⟨w2.heap.size, 0, none⟩) n n) rfl (exec_make rfl (by kernel_rfl) (by kernel_rfl) (mk_num n hn w2)) ?_
  refine wpList_run (v := .slice (some ⟨w2.heap.size, 0, none⟩) n n) (w' := w2.alloc (.cells (madeCells (nl 0).toArray (n * 4)) 66)) rfl (by kernel_rfl) ?_
  apply wpList_nil
  simp only [Act.put, List.setIfInBounds_toArray, List.set_cons_zero, List.set_cons_succ]
  have tA := there_alloc_new w2 66 (madeCells (nl 0).toArray (n * 4)) (4 * n) (by rw [size_madeCells]; omega)
  have gA : Grown w2 (w2.alloc (.cells (madeCells (nl 0).toArray (n * 4)) 66)) := Grown.alloc (Grown.refl _) _ _
  have hA1 : w2.heap.size < (w2.alloc (.cells (madeCells (nl 0).toArray (n * 4)) 66)).heap.size := by rw [World.size_alloc]; omega
  have hA0 : w.heap.size ≤ w2.heap.size := hW.2.2
  replace hW := grown_trans hW gA
  clear gA
  generalize w2.alloc (.cells (madeCells (nl 0).toArray (n * 4)) 66) = w3 at *
  generalize w2.heap.size = A at *
  have hGl := hGl0.grown hW
  repeat ((fail_if_success (with_reducible show Code.wp _ (Code.region _ _ _) _ _ _)); go_step)
  refine wp_plain [.val (numV 1), .new 66 4, .put 1 1 (fun _ => nl 1)] (by kernel_rfl) (fun β => ?_) (fun β w4 hD => ?_)
  · refine Obs.cons (Ob.load 0 0 (nl 1) rfl rfl (by kernel_rfl) hGl.one Tryd.underlying66 rfl (by rw [nl_length]; exact infoN)) ?_
    refine Obs.cons (Ob.new _ rfl rfl zeroN (by simp [nl_length])) ?_
    refine Obs.cons (Ob.put 66 rfl rfl rfl (by kernel_rfl) (by kernel_rfl) (by rw [nl_length]; exact infoN) (nl_one _)) ?_
    exact Obs.nil
  obtain ⟨hfB, htB⟩ := hD.nw 1 _ _ rfl
  have hrB : w4.rangeAt (β 1) 0 (nl 1) := hD.rg 2 1 1 (fun _ => nl 1) rfl
  have hP0 : BX w b o n f A (β 1) 0 1 (fun _ => 0) w4 := ⟨fun i hi => rangeAt_grown (hr i hi) (grown_trans hW hD.gr), fun i hi => absurd hi (Nat.not_lt_zero _), there_grown tA hD.gr, hrB, htB, by omega, hA0, Nat.le_trans hW.2.2 hfB, grown_trans hW hD.gr⟩
  clear hD hW tA hA1 hA0 hrB htB hfB hGl hr
  simp only [finAct, putAll, valsFrom, Plan.value, Act.put, List.setIfInBounds_toArray, List.set_cons_zero, List.set_cons_succ]
  generalize β (0 + 1) = B at *
  have hnn := Hid.of hn
  have hff := Hid.of hf
  have hss := Hid.of hs
  have hbb := Hid.of hb
  clear hn hf hs hb
  go_wp2
  go_loopw [21] (fun v wr => ∃ (k q : Nat) (g : Nat → Nat), v = .int .i64 (k : Int) ∧ k ≤ n ∧ BX w b o n f A B k q g wr ∧ PO f k q g) (fun v _ => ((n : Int) - intOf v).toNat)
  case atStart => exact ⟨0, 1, _, rfl, Nat.zero_le _, hP0, by decide, (show 1 % p = 1 by decide +kernel), fun i hi => absurd hi (Nat.not_lt_zero _)⟩
  case round =>
    obtain ⟨k, q, g, rfl, hk0, hX, hPO0⟩ := hrel
    clear hP0
    by_cases hk : k < n
    · have ha := hss.out (by omega)
      subst ha
      have hb0 := Hid.of (hbb.out (by omega))
      have hPO := Hid.of hPO0
      have hq := hPO0.1
      have hfk := hff.out k hk
      clear hPO0 hk0
      repeat ((fail_if_success (with_reducible show Code.wp _ (Code.region _ _ _) _ _ _)); go_step)
      refine wp_plain [.imm (.bool true)] (by kernel_rfl) (fun β => ?_) (fun β u1 hD => ?_)
      · refine Obs.cons (Ob.imm rfl (fun w => exec_lssI rfl (k : Int) (n : Int) (by kernel_rfl) (by kernel_rfl) true (decide_eq_true (by omega)))) ?_
        exact Obs.nil
      replace hX := hX.grown hD.gr
      clear hD
      simp only [finAct, putAll, valsFrom, Plan.value, Act.put, List.setIfInBounds_toArray, List.set_cons_zero, List.set_cons_succ]
      repeat ((fail_if_success (with_reducible show Code.wp _ (Code.region _ _ _) _ _ _)); go_step)
      refine wp_plain [.imm (.int .i64 (k : Int)), .imm (.pointer (some ⟨b, o + 32 * k, none⟩)), .val (bv (f k)), .new 23 32, .imm (.int .i64 (k : Int)), .put 3 3 (fun _ => bl (f k))] (by kernel_rfl) (fun β => ?_) (fun β u2 hD => ?_)
      · refine Obs.cons (Ob.imm rfl (fun w => by kernel_rfl)) ?_
        refine Obs.cons (Ob.imm rfl (fun w => exec_idxSB (c := c) k hk rfl (by kernel_rfl) (by kernel_rfl))) ?_
        refine Obs.cons (Ob.load b (o + 32 * k) (bl (f k)) rfl rfl (by kernel_rfl) (hX.li k hk) Tryd.underlying23 rfl (by rw [bl_length]; exact info32)) ?_
        refine Obs.cons (Ob.new _ rfl rfl zero32.1 (by simp [bl_length])) ?_
        refine Obs.cons (Ob.imm rfl (fun w => by kernel_rfl)) ?_
        refine Obs.cons (Ob.put 23 rfl rfl rfl (by kernel_rfl) (by kernel_rfl) (by rw [bl_length]; exact info32) (bl_one _)) ?_
        exact Obs.nil
      have hrD : u2.rangeAt (β 3) 0 (bl (f k)) := hD.rg 5 3 3 (fun _ => bl (f k)) rfl
      have hDA : β 3 ≠ A := by
        have h1 := (hD.nw 3 _ _ rfl).1
        have h2 := there_lt hX.tA (by omega)
        omega
      replace hX := hX.grown hD.gr
      clear hD
      simp only [finAct, putAll, valsFrom, Plan.value, Act.put, List.setIfInBounds_toArray, List.set_cons_zero, List.set_cons_succ]
      generalize β (0 + 1 + 1 + 1) = D at *
      repeat ((fail_if_success (with_reducible show Code.wp _ (Code.region _ _ _) _ _ _)); go_step)
      refine wp_plain_fin [.imm (.slice (some ⟨A, 0, none⟩) n n), .imm (.int .i64 (k : Int)), .val (numV q), .imm (.pointer (some ⟨A, 4 * k, none⟩)), .fin] A (4 * k) (fun _ => nl q) (by kernel_rfl) (fun β => ?_) (fun β u3 hD => ?_)
      · refine Obs.cons (Ob.imm rfl (fun w => by kernel_rfl)) ?_
        refine Obs.cons (Ob.imm rfl (fun w => by kernel_rfl)) ?_
        refine Obs.cons (Ob.load B 0 (nl q) rfl rfl (by kernel_rfl) hX.rp Tryd.underlying66 rfl (by rw [nl_length]; exact infoN)) ?_
        refine Obs.cons (Ob.imm rfl (fun w => exec_idxA (c := n) k hk rfl (by kernel_rfl) (by kernel_rfl))) ?_
        refine Obs.cons (Ob.fin rfl (by rw [nl_length]; exact there_part hX.tA hk rfl) rfl (by kernel_rfl) (by kernel_rfl) (by rw [nl_length]; exact infoN) (nl_one _)) ?_
        exact Obs.nil
      replace hrD := World.rangeAt_setCells_apart (rangeAt_grown hrD hD.gr) A (4 * k) (nl q) (.inl hDA)
      replace hX := (hX.grown hD.gr).putA hk hb0.out
      clear hD hDA
      simp only [finAct, putAll, valsFrom, Plan.value, Act.put, List.setIfInBounds_toArray, List.set_cons_zero, List.set_cons_succ]
      generalize u3.setCells A (4 * k) (nl q) = u4 at *
      repeat ((fail_if_success (with_reducible show Code.wp _ (Code.region _ _ _) _ _ _)); go_step)
      refine wp_plain [.val (bv (f k)), .val (numV (f k)), .new 66 4, .put 2 2 (fun _ => nl (f k))] (by kernel_rfl) (fun β => ?_) (fun β u5 hD => ?_)
      · refine Obs.cons (Ob.load D 0 (bl (f k)) rfl rfl (by kernel_rfl) hrD Tryd.underlying23 rfl (by rw [bl_length]; exact info32)) ?_
        refine Obs.cons (Ob.call 50 #[bv (f k)] rfl (fun w => by kernel_rfl) (fun w _ => load_num (f k) w)) ?_
        refine Obs.cons (Ob.new _ rfl rfl zeroN (by simp [nl_length])) ?_
        refine Obs.cons (Ob.put 66 rfl rfl rfl (by kernel_rfl) (by kernel_rfl) (by rw [nl_length]; exact infoN) (nl_one _)) ?_
        exact Obs.nil
      have hrE : u5.rangeAt (β 2) 0 (nl (f k)) := hD.rg 3 2 2 (fun _ => nl (f k)) rfl
      replace hX := hX.grown hD.gr
      clear hD hrD
      simp only [finAct, putAll, valsFrom, Plan.value, Act.put, List.setIfInBounds_toArray, List.set_cons_zero, List.set_cons_succ]
      generalize β (0 + 1 + 1) = E at *
      repeat ((fail_if_success (with_reducible show Code.wp _ (Code.region _ _ _) _ _ _)); go_step)
      have eL := Hid.of (show wrap64 ((k : Int) + 1) = ((k + 1 : Nat) : Int) by have := hnn.out; unfold wrap64; omega)
      have hkk := Hid.of hk
      by_cases h0 : f k % p = 0
      · refine wp_plain [.val (numV (f k)), .val (.bool true), .imm (.bool false)] (by kernel_rfl) (fun β => ?_) (fun β u6 hD => ?_)
        · refine Obs.cons (Ob.load E 0 (nl (f k)) rfl rfl (by kernel_rfl) hrE Tryd.underlying66 rfl (by rw [nl_length]; exact infoN)) ?_
          refine Obs.cons (Ob.call 51 #[numV (f k)] rfl (fun w => by kernel_rfl) (fun w _ => zero_num (f k) hfk true (decide_eq_true h0) w)) ?_
          refine Obs.cons (Ob.imm rfl (fun w => by kernel_rfl)) ?_
          exact Obs.nil
        have hX6 := Hid.of (hX.grown hD.gr)
        have hP6 := Hid.of (hPO.out.put q hPO.out.1 (hPO.out.2.1.trans (pre_zero h0).symm))
        clear hD hX hrE h0 hk hPO
        simp only [finAct, putAll, valsFrom, Plan.value, Act.put, List.setIfInBounds_toArray, List.set_cons_zero, List.set_cons_succ]
        go_wp2
        rw [eL.out]
        exact ⟨⟨k + 1, q, _, rfl, hkk.out, hX6.out, hP6.out⟩, by have := hkk.out; simp [intOf]; omega⟩
      · refine wp_plain [.val (numV (f k)), .val (.bool false), .imm (.bool true)] (by kernel_rfl) (fun β => ?_) (fun β u6 hD => ?_)
        · refine Obs.cons (Ob.load E 0 (nl (f k)) rfl rfl (by kernel_rfl) hrE Tryd.underlying66 rfl (by rw [nl_length]; exact infoN)) ?_
          refine Obs.cons (Ob.call 51 #[numV (f k)] rfl (fun w => by kernel_rfl) (fun w _ => zero_num (f k) hfk false (decide_eq_false h0) w)) ?_
          refine Obs.cons (Ob.imm rfl (fun w => by kernel_rfl)) ?_
          exact Obs.nil
        replace hrE := rangeAt_grown hrE hD.gr
        replace hX := hX.grown hD.gr
        clear hD
        simp only [finAct, putAll, valsFrom, Plan.value, Act.put, List.setIfInBounds_toArray, List.set_cons_zero, List.set_cons_succ]
        repeat ((fail_if_success (with_reducible show Code.wp _ (Code.region _ _ _) _ _ _)); go_step)
        refine wp_plain_fin [.val (numV q), .val (numV (f k)), .any (fun z => numV z) [] (fun _ z => z < M ∧ z % p = q * f k % p), .fin] B 0 (fun β => nl (β 2)) (by kernel_rfl) (fun β => ?_) (fun β u7 hD => ?_)
        · refine Obs.cons (Ob.load B 0 (nl q) rfl rfl (by kernel_rfl) hX.rp Tryd.underlying66 rfl (by rw [nl_length]; exact infoN)) ?_
          refine Obs.cons (Ob.load E 0 (nl (f k)) rfl rfl (by kernel_rfl) hrE Tryd.underlying66 rfl (by rw [nl_length]; exact infoN)) ?_
          refine Obs.cons (Ob.any 52 #[numV q, numV (f k)] rfl (fun w => by kernel_rfl) (fun _ w _ => times_num q (f k) hq hfk w)) ?_
          refine Obs.cons (Ob.fin rfl (by rw [nl_length]; exact hX.tp) rfl (by kernel_rfl) (by kernel_rfl) (by rw [nl_length]; exact infoN) (nl_one _)) ?_
          exact Obs.nil
        obtain ⟨hz, qz⟩ : β 2 < M ∧ β 2 % p = q * f k % p := hD.an 2 _ _ _ rfl
        have hX6 := Hid.of ((hX.grown hD.gr).putB (β 2) hbb.out)
        have hP6 := Hid.of (hPO.out.put (β 2) hz (by rw [qz, pre_next h0]; exact mcong (hPO.out.2.1.trans (pre_mod f k).symm) rfl))
        clear hD hX hrE h0 hk hPO hz qz
        simp only [finAct, putAll, valsFrom, Plan.value, Act.put, List.setIfInBounds_toArray, List.set_cons_zero, List.set_cons_succ]
        generalize β (0 + 1 + 1) = Z at *
        generalize u7.setCells B 0 (nl Z) = u8 at *
        go_wp2
        rw [eL.out]
        exact ⟨⟨k + 1, Z, _, rfl, hkk.out, hX6.out, hP6.out⟩, by have := hkk.out; simp [intOf]; omega⟩
    · obtain rfl : n = k := by omega
      have hPO := Hid.of hPO0
      have hq := hPO0.1
      clear hPO0 hk0 hk
      repeat ((fail_if_success (with_reducible show Code.wp _ (Code.region _ _ _) _ _ _)); go_step)
      refine wp_plain [.imm (.bool false)] (by kernel_rfl) (fun β => ?_) (fun β v1 hD => ?_)
      · refine Obs.cons (Ob.imm rfl (fun w => exec_lssI rfl (n : Int) (n : Int) (by kernel_rfl) (by kernel_rfl) false (decide_eq_false (by omega)))) ?_
        exact Obs.nil
      replace hX := hX.grown hD.gr
      clear hD
      simp only [finAct, putAll, valsFrom, Plan.value, Act.put, List.setIfInBounds_toArray, List.set_cons_zero, List.set_cons_succ]
      repeat ((fail_if_success (with_reducible show Code.wp _ (Code.region _ _ _) _ _ _)); go_step)
      have hn := hnn.out
      refine wp_region_lit ?_
      refine wpList_run (v := .slice a n c) (w' := v1) rfl (by kernel_rfl) ?_
      refine wpList_run (v := .int .i64 (n : Int)) (w' := v1) rfl (by kernel_rfl) ?_
      refine wpList_run (v := .slice (some ⟨v1.heap.size, 0, none⟩) n n) rfl (exec_make rfl (by kernel_rfl) (by kernel_rfl) (mk_b32 n hn v1)) ?_
      refine wpList_run (v := .slice (some ⟨v1.heap.size, 0, none⟩) n n) (w' := v1.alloc (.cells (madeCells (bl 0).toArray (n * 32)) 23)) rfl (by kernel_rfl) ?_
      apply wpList_nil
      simp only [Act.put, List.setIfInBounds_toArray, List.set_cons_zero, List.set_cons_succ]
      clear hn
      have mR : ∀ i, i < n → (v1.alloc (.cells (madeCells (bl 0).toArray (n * 32)) 23)).rangeAt v1.heap.size (32 * i) (bl 0) := fun i hi => made_b32 hi
      have tR := there_alloc_new v1 23 (madeCells (bl 0).toArray (n * 32)) (32 * n) (by rw [size_madeCells]; omega)
      have gR : Grown v1 (v1.alloc (.cells (madeCells (bl 0).toArray (n * 32)) 23)) := Grown.alloc (Grown.refl _) _ _
      have hR1 : v1.heap.size < (v1.alloc (.cells (madeCells (bl 0).toArray (n * 32)) 23)).heap.size := by rw [World.size_alloc]; omega
      have hR0 : w.heap.size ≤ v1.heap.size := hX.gw.2.2
      have hAR : 0 < n → A < v1.heap.size := fun h => there_lt hX.tA (by omega)
      replace hX := hX.grown gR
      clear gR
      generalize v1.alloc (.cells (madeCells (bl 0).toArray (n * 32)) 23) = v2 at *
      generalize v1.heap.size = R at *
      have hGl := hGl0.grown hX.gw
      repeat ((fail_if_success (with_reducible show Code.wp _ (Code.region _ _ _) _ _ _)); go_step)
      refine wp_plain [.val (numV q), .any (fun z => numV z) [] (fun _ z => z < M ∧ z % p = inv q), .new 66 4, .put 2 1 (fun z => nl z)] (by kernel_rfl) (fun β => ?_) (fun β v3 hD => ?_)
      · refine Obs.cons (Ob.load B 0 (nl q) rfl rfl (by kernel_rfl) hX.rp Tryd.underlying66 rfl (by rw [nl_length]; exact infoN)) ?_
        refine Obs.cons (Ob.any 53 #[numV q] rfl (fun w => by kernel_rfl) (fun _ w hg => inverse_num q hq w (hGl.grown hg).pw)) ?_
        refine Obs.cons (Ob.new _ rfl rfl zeroN (by simp [nl_length])) ?_
        refine Obs.cons (Ob.put 66 rfl rfl rfl (by kernel_rfl) (by kernel_rfl) (by rw [nl_length]; exact infoN) (nl_one _)) ?_
        exact Obs.nil
      obtain ⟨hfS, htS⟩ := hD.nw 2 _ _ rfl
      have hrS : v3.rangeAt (β 2) 0 (nl (β 1)) := hD.rg 3 2 1 (fun z => nl z) rfl
      obtain ⟨hz, qz⟩ : β 1 < M ∧ β 1 % p = inv q := hD.an 1 _ _ _ rfl
      have hC0 : CX w b o n f A g R (β 2) n (β 1) v3 := ⟨fun i hi => rangeAt_grown (hX.li i hi) hD.gr, fun i hi => rangeAt_grown (hX.ah i hi) hD.gr, fun i hi => by rw [if_neg (by omega)]; exact rangeAt_grown (mR i hi) hD.gr, there_grown tR hD.gr, hrS, htS, fun h => by have := hAR h; omega, fun h => by have := hAR h; omega, by omega, hR0, Nat.le_trans hX.gw.2.2 hfS, grown_trans hX.gw hD.gr⟩
      have hS0 := Hid.of (show β 1 < M ∧ β 1 % p = inv (pre f n) from ⟨hz, by rw [qz, ← inv_mod q, hPO.out.2.1]⟩)
      have hgg := Hid.of hPO.out.2.2
      clear hD hX hrS htS hfS mR tR hR1 hR0 hAR hz qz hGl hPO hq
      simp only [finAct, putAll, valsFrom, Plan.value, Act.put, List.setIfInBounds_toArray, List.set_cons_zero, List.set_cons_succ]
      generalize β (0 + 1 + 1) = S at *
      generalize β (0 + 1) = s0 at *
      have en : wrap64 ((n : Int) - 1) = (n : Int) - 1 := by have := hnn.out; unfold wrap64; omega
      go_wp2
      go_loopw [10] (fun v wr => ∃ (k s : Nat), v = .int .i64 ((k : Int) - 1) ∧ k ≤ n ∧ CX w b o n f A g R S k s wr ∧ s < M ∧ s % p = inv (pre f k)) (fun v _ => (intOf v + 1).toNat)
      case atStart => exact ⟨n, s0, by rw [en], Nat.le_refl _, hC0, hS0.out⟩
      case round =>
        obtain ⟨k1, s, rfl, hk1, hX, hs1, hs2⟩ := hrel
        clear hC0 hS0 en
        by_cases hlt : 0 < k1
        · obtain ⟨k, rfl⟩ : ∃ k, k1 = k + 1 := ⟨k1 - 1, by omega⟩
          have ei : ((k + 1 : Nat) : Int) - 1 = (k : Int) := by omega
          rw [ei]
          clear hlt ei
          have hk : k < n := hk1
          have hqs := Hid.of hs2
          clear hs2 hk1
          have ha := hss.out (by omega)
          subst ha
          have hb0 := Hid.of (hbb.out (by omega))
          have hfk := hff.out k hk
          have hgk := hgg.out k hk
          repeat ((fail_if_success (with_reducible show Code.wp _ (Code.region _ _ _) _ _ _)); go_step)
          refine wp_plain [.imm (.int .i64 (k : Int)), .imm (.bool true)] (by kernel_rfl) (fun β => ?_) (fun β x1 hD => ?_)
          · refine Obs.cons (Ob.imm rfl (fun w => by kernel_rfl)) ?_
            refine Obs.cons (Ob.imm rfl (fun w => exec_geI (k : Int) 0 rfl (by kernel_rfl) (by kernel_rfl) true (decide_eq_true (by omega)))) ?_
            exact Obs.nil
          replace hX := hX.grown hD.gr
          clear hD
          simp only [finAct, putAll, valsFrom, Plan.value, Act.put, List.setIfInBounds_toArray, List.set_cons_zero, List.set_cons_succ]
          repeat ((fail_if_success (with_reducible show Code.wp _ (Code.region _ _ _) _ _ _)); go_step)
          refine wp_plain [.imm (.slice (some ⟨b, o, none⟩) n c), .imm (.int .i64 (k : Int)), .imm (.pointer (some ⟨b, o + 32 * k, none⟩)), .val (bv (f k)), .val (numV (f k)), .new 66 4, .put 5 5 (fun _ => nl (f k))] (by kernel_rfl) (fun β => ?_) (fun β x2 hD => ?_)
          · refine Obs.cons (Ob.imm rfl (fun w => by kernel_rfl)) ?_
            refine Obs.cons (Ob.imm rfl (fun w => by kernel_rfl)) ?_
            refine Obs.cons (Ob.imm rfl (fun w => exec_idxSB (c := c) k hk rfl (by kernel_rfl) (by kernel_rfl))) ?_
            refine Obs.cons (Ob.load b (o + 32 * k) (bl (f k)) rfl rfl (by kernel_rfl) (hX.li k hk) Tryd.underlying23 rfl (by rw [bl_length]; exact info32)) ?_
            refine Obs.cons (Ob.call 50 #[bv (f k)] rfl (fun w => by kernel_rfl) (fun w _ => load_num (f k) w)) ?_
            refine Obs.cons (Ob.new _ rfl rfl zeroN (by simp [nl_length])) ?_
            refine Obs.cons (Ob.put 66 rfl rfl rfl (by kernel_rfl) (by kernel_rfl) (by rw [nl_length]; exact infoN) (nl_one _)) ?_
            exact Obs.nil
          have hrE : x2.rangeAt (β 5) 0 (nl (f k)) := hD.rg 6 5 5 (fun _ => nl (f k)) rfl
          have hER : β 5 ≠ R := by
            have h1 := (hD.nw 5 _ _ rfl).1
            have h2 := there_lt hX.tR (by omega)
            omega
          replace hX := hX.grown hD.gr
          clear hD
          simp only [finAct, putAll, valsFrom, Plan.value, Act.put, List.setIfInBounds_toArray, List.set_cons_zero, List.set_cons_succ]
          generalize β (0 + 1 + 1 + 1 + 1 + 1) = E at *
          repeat ((fail_if_success (with_reducible show Code.wp _ (Code.region _ _ _) _ _ _)); go_step)
          have eL := Hid.of (show wrap64 ((k : Int) - 1) = (k : Int) - 1 by have := hnn.out; unfold wrap64; omega)
          have hkk := Hid.of hk
          by_cases h0 : f k % p = 0
          · refine wp_plain [.val (numV (f k)), .val (.bool true), .imm (.bool false)] (by kernel_rfl) (fun β => ?_) (fun β x3 hD => ?_)
            · refine Obs.cons (Ob.load E 0 (nl (f k)) rfl rfl (by kernel_rfl) hrE Tryd.underlying66 rfl (by rw [nl_length]; exact infoN)) ?_
              refine Obs.cons (Ob.call 51 #[numV (f k)] rfl (fun w => by kernel_rfl) (fun w _ => zero_num (f k) hfk true (decide_eq_true h0) w)) ?_
              refine Obs.cons (Ob.imm rfl (fun w => by kernel_rfl)) ?_
              exact Obs.nil
            have hX6 := Hid.of ((hX.grown hD.gr).skip h0)
            have hq6 := Hid.of (And.intro hs1 (hqs.out.trans (by rw [pre_zero h0])))
            clear hD hX hrE hER h0 hk hqs hgk hs1
            simp only [finAct, putAll, valsFrom, Plan.value, Act.put, List.setIfInBounds_toArray, List.set_cons_zero, List.set_cons_succ]
            go_wp2
            rw [eL.out]
            exact ⟨⟨k, s, rfl, Nat.le_of_lt hkk.out, hX6.out, hq6.out⟩, by simp [intOf]⟩
          · refine wp_plain [.val (numV (f k)), .val (.bool false), .imm (.bool true)] (by kernel_rfl) (fun β => ?_) (fun β x3 hD => ?_)
            · refine Obs.cons (Ob.load E 0 (nl (f k)) rfl rfl (by kernel_rfl) hrE Tryd.underlying66 rfl (by rw [nl_length]; exact infoN)) ?_
              refine Obs.cons (Ob.call 51 #[numV (f k)] rfl (fun w => by kernel_rfl) (fun w _ => zero_num (f k) hfk false (decide_eq_false h0) w)) ?_
              refine Obs.cons (Ob.imm rfl (fun w => by kernel_rfl)) ?_
              exact Obs.nil
            replace hrE := rangeAt_grown (rangeAt_grown hrE hD.gr) (gdrew x3)
            replace hX := (hX.grown hD.gr).grown (gdrew x3)
            clear hD
            simp only [finAct, putAll, valsFrom, Plan.value, Act.put, List.setIfInBounds_toArray, List.set_cons_zero, List.set_cons_succ]
            repeat ((fail_if_success (with_reducible show Code.wp _ (Code.region _ _ _) _ _ _)); go_step)
            refine wp_loose_fin [.imm (.slice (some ⟨R, 0, none⟩) n n), .imm (.int .i64 (k : Int)), .val (numV s), .imm (.slice (some ⟨A, 0, none⟩) n n), .imm (.int .i64 (k : Int)), .imm (.pointer (some ⟨A, 4 * k, none⟩)), .val (numV (g k)), .any (fun z => numV z) [] (fun _ z => z < M ∧ z % p = s * g k % p), .val (bv (inv (f k))), .imm (.pointer (some ⟨R, 32 * k, none⟩)), .fin] R (32 * k) (fun _ => bl (inv (f k))) (by kernel_rfl) (by kernel_rfl) (fun β => ?_) (fun β x4 hD => ?_)
            · refine Obs.cons (Ob.imm rfl (fun w => by kernel_rfl)) ?_
              refine Obs.cons (Ob.imm rfl (fun w => by kernel_rfl)) ?_
              refine Obs.cons (Ob.load S 0 (nl s) rfl rfl (by kernel_rfl) hX.rs Tryd.underlying66 rfl (by rw [nl_length]; exact infoN)) ?_
              refine Obs.cons (Ob.imm rfl (fun w => by kernel_rfl)) ?_
              refine Obs.cons (Ob.imm rfl (fun w => by kernel_rfl)) ?_
              refine Obs.cons (Ob.imm rfl (fun w => exec_idxA (c := n) k hk rfl (by kernel_rfl) (by kernel_rfl))) ?_
              refine Obs.cons (Ob.load A (4 * k) (nl (g k)) rfl rfl (by kernel_rfl) (hX.ah k hk) Tryd.underlying66 rfl (by rw [nl_length]; exact infoN)) ?_
              refine Obs.cons (Ob.any 52 #[numV s, numV (g k)] rfl (fun w => by kernel_rfl) (fun _ w _ => times_num s (g k) hs1 hgk.1 w)) ?_
              refine Obs.cons (Ob.call' 54 #[numV (β 7)] rfl (fun w => by kernel_rfl) (fun hj w _ => by have h := bytes_num (β 7) (hj 7 _ _ _ rfl (bindsTo_spec (by kernel_rfl))).1 w; rw [(hj 7 _ _ _ rfl (bindsTo_spec (by kernel_rfl))).2, pre_this h0 hqs.out hgk.2] at h; exact h)) ?_
              refine Obs.cons (Ob.imm rfl (fun w => exec_idxRB (c := n) k hk rfl (by kernel_rfl) (by kernel_rfl))) ?_
              refine Obs.cons (Ob.fin rfl (by rw [bl_length]; exact there_part hX.tR hk rfl) rfl (by kernel_rfl) (by kernel_rfl) (by rw [bl_length]; exact info32) (bl_one _)) ?_
              exact Obs.nil
            replace hrE := World.rangeAt_setCells_apart (rangeAt_grown hrE hD.gr) R (32 * k) (bl (inv (f k))) (.inl hER)
            replace hX := (hX.grown hD.gr).putR hk hb0.out
            clear hD hER hgk
            simp only [finAct, putAll, valsFrom, Plan.value, Act.put, List.setIfInBounds_toArray, List.set_cons_zero, List.set_cons_succ]
            generalize x4.setCells R (32 * k) (bl (inv (f k))) = x5 at *
            repeat ((fail_if_success (with_reducible show Code.wp _ (Code.region _ _ _) _ _ _)); go_step)
            refine wp_plain_fin [.val (numV s), .val (numV (f k)), .any (fun z => numV z) [] (fun _ z => z < M ∧ z % p = s * f k % p), .fin] S 0 (fun β => nl (β 2)) (by kernel_rfl) (fun β => ?_) (fun β x6 hD => ?_)
            · refine Obs.cons (Ob.load S 0 (nl s) rfl rfl (by kernel_rfl) hX.rs Tryd.underlying66 rfl (by rw [nl_length]; exact infoN)) ?_
              refine Obs.cons (Ob.load E 0 (nl (f k)) rfl rfl (by kernel_rfl) hrE Tryd.underlying66 rfl (by rw [nl_length]; exact infoN)) ?_
              refine Obs.cons (Ob.any 52 #[numV s, numV (f k)] rfl (fun w => by kernel_rfl) (fun _ w _ => times_num s (f k) hs1 hfk w)) ?_
              refine Obs.cons (Ob.fin rfl (by rw [nl_length]; exact hX.ts) rfl (by kernel_rfl) (by kernel_rfl) (by rw [nl_length]; exact infoN) (nl_one _)) ?_
              exact Obs.nil
            obtain ⟨hz, qz⟩ : β 2 < M ∧ β 2 % p = s * f k % p := hD.an 2 _ _ _ rfl
            have hX6 := Hid.of ((hX.grown hD.gr).putS (β 2) hbb.out)
            have hq6 := Hid.of (And.intro hz (qz.trans (pre_rest h0 hqs.out)))
            clear hD hX hrE h0 hk hz qz hqs hs1
            simp only [finAct, putAll, valsFrom, Plan.value, Act.put, List.setIfInBounds_toArray, List.set_cons_zero, List.set_cons_succ]
            generalize β (0 + 1 + 1) = Z at *
            generalize x6.setCells S 0 (nl Z) = x7 at *
            go_wp2
            rw [eL.out]
            exact ⟨⟨k, Z, rfl, Nat.le_of_lt hkk.out, hX6.out, hq6.out⟩, by simp [intOf]⟩
        · obtain rfl : k1 = 0 := by omega
          rw [show ((0 : Nat) : Int) - 1 = -1 from rfl]
          clear hlt hk1 hs1 hs2
          repeat ((fail_if_success (with_reducible show Code.wp _ (Code.region _ _ _) _ _ _)); go_step)
          refine wp_plain [.imm (.int .i64 (-1)), .imm (.bool false)] (by kernel_rfl) (fun β => ?_) (fun β y1 hD => ?_)
          · refine Obs.cons (Ob.imm rfl (fun w => by kernel_rfl)) ?_
            refine Obs.cons (Ob.imm rfl (fun w => by kernel_rfl)) ?_
            exact Obs.nil
          replace hX := hX.grown hD.gr
          clear hD
          simp only [finAct, putAll, valsFrom, Plan.value, Act.put, List.setIfInBounds_toArray, List.set_cons_zero, List.set_cons_succ]
          repeat ((fail_if_success (with_reducible show Code.wp _ (Code.region _ _ _) _ _ _)); go_step)
          refine wp_plain [.imm (.slice (some ⟨R, 0, none⟩) n n), .imm (.slice (some ⟨R, 0, none⟩) n n)] (by kernel_rfl) (fun β => ?_) (fun β y2 hD => ?_)
          · refine Obs.cons (Ob.imm rfl (fun w => by kernel_rfl)) ?_
            refine Obs.cons (Ob.imm rfl (fun w => by kernel_rfl)) ?_
            exact Obs.nil
          replace hX := hX.grown hD.gr
          clear hD
          simp only [finAct, putAll, valsFrom, Plan.value, Act.put, List.setIfInBounds_toArray, List.set_cons_zero, List.set_cons_succ]
          repeat go_step
          go_ret
          exact ⟨⟨R, rfl, hX.fR, fun i hi => by have h := hX.iv i hi; rwa [if_pos (Nat.zero_le _)] at h⟩, hX.gw⟩
end Go.Proofs.YtkegcilcapnpdaaDoor
