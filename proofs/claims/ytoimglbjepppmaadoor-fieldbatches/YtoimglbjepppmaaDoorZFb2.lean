import Derived.Test.YtoimglbjepppmaaDoorZFb1
namespace Go.Proofs.YtoimglbjepppmaaDoor
open Go.RowKit Go.Shelf FieldNum

theorem wpList_run {P : Program} {ops : Array Oper} {Q : Exit → Act → World → Prop} {a : Act} {w w' : World} {rest : List Oper} {o : Oper} {v : Value} (hg : o.guard = none) (he : (execOp a.eval o).run P w = .ok (.value v) w') (h : wpList P ops Q rest (a.put o.dst v) w') : wpList P ops Q (o :: rest) a w :=
  wpList_plain hg fun K hK => by unfold Oper.wp; rw [he]; exact hK _ _ h
theorem exec_make {P : Program} {ρ : Operand → Value} {o : Oper} {x y : Operand} {t : TypeId} {w w' : World} {v m n : Value} (ho : o.op = .makeSlice t x y) (hx : ρ x = m) (hy : ρ y = n) (hm : (Instr.makeSlice t m n).run P w = .ok v w') : (execOp ρ o).run P w = .ok (.value v) w' := by
  unfold execOp
  simp [ho, hx, hy, hm]
theorem there_part {w : World} {b m i s n : Nat} (h : w.there b 0 (m * n)) (hi : i < n) (hs : s = m) : w.there b (m * i) s := by
  subst hs
  intro j hj
  have : s * i + j < s * n := by
    have : s * (i + 1) ≤ s * n := Nat.mul_le_mul_left _ hi
    rw [Nat.mul_add] at this
    omega
  have := h (s * i + j) this
  rwa [Nat.zero_add] at this
/-- the first loop of Batch -/
structure BX (w0 : World) (b o n : Nat) (f : Nat → Nat) (A B k q : Nat) (g : Nat → Nat) (wr : World) : Prop where
  li : ∀ i, i < n → wr.rangeAt b (o + 32 * i) (bl (f i))
  ah : ∀ i, i < k → wr.rangeAt A (4 * i) (nl (g i))
  tA : wr.there A 0 (4 * n)
  rp : wr.rangeAt B 0 (nl q)
  tp : wr.there B 0 4
  ne : A ≠ B
  fA : w0.heap.size ≤ A
  fB : w0.heap.size ≤ B
  gw : Grown w0 wr
theorem BX.grown {w0 wr w' : World} {b o n : Nat} {f : Nat → Nat} {A B k q : Nat} {g : Nat → Nat} (s : BX w0 b o n f A B k q g wr) (hg : Grown wr w') : BX w0 b o n f A B k q g w' :=
  ⟨fun i hi => rangeAt_grown (s.li i hi) hg, fun i hi => rangeAt_grown (s.ah i hi) hg, there_grown s.tA hg, rangeAt_grown s.rp hg, there_grown s.tp hg, s.ne, s.fA, s.fB, grown_trans s.gw hg⟩
theorem BX.putA {w0 wr : World} {b o n : Nat} {f : Nat → Nat} {A B k q : Nat} {g : Nat → Nat} (s : BX w0 b o n f A B k q g wr) (hk : k < n) (hb : b < w0.heap.size) : BX w0 b o n f A B (k + 1) q (fun i => if i = k then q else g i) (wr.setCells A (4 * k) (nl q)) := by
  have hbA : b ≠ A := by have := s.fA; omega
  refine ⟨fun i hi => World.rangeAt_setCells_apart (s.li i hi) _ _ _ (.inl hbA), fun i hi => ?_, World.there_setCells s.tA _ _ _, World.rangeAt_setCells_apart s.rp _ _ _ (.inl (Ne.symm s.ne)), World.there_setCells s.tp _ _ _, s.ne, s.fA, s.fB, grown_setCells s.fA _ _ s.gw⟩
  by_cases e : i = k
  · subst e
    rw [if_pos rfl]
    exact World.rangeAt_setCells_same _ _ _ _ (by rw [nl_length]; exact there_part s.tA hk rfl)
  · rw [if_neg e]
    exact World.rangeAt_setCells_apart (s.ah i (by omega)) _ _ _ (.inr (by simp only [nl_length]; omega))
theorem BX.putB {w0 wr : World} {b o n : Nat} {f : Nat → Nat} {A B k q : Nat} {g : Nat → Nat} (s : BX w0 b o n f A B k q g wr) (z : Nat) (hb : 0 < n → b < w0.heap.size) : BX w0 b o n f A B k z g (wr.setCells B 0 (nl z)) := by
  refine ⟨fun i hi => World.rangeAt_setCells_apart (s.li i hi) _ _ _ (.inl (by have := s.fB; have := hb (by omega); omega)), fun i hi => World.rangeAt_setCells_apart (s.ah i hi) _ _ _ (.inl s.ne), World.there_setCells s.tA _ _ _, World.rangeAt_setCells_same _ _ _ _ (by rw [nl_length]; exact s.tp), World.there_setCells s.tp _ _ _, s.ne, s.fA, s.fB, grown_setCells s.fB _ _ s.gw⟩
theorem if_shift {k i x y : Nat} (e : ¬ i = k) : (if k + 1 ≤ i then x else y) = (if k ≤ i then x else y) := by
  by_cases h : k ≤ i
  · rw [if_pos h, if_pos (by omega)]
  · rw [if_neg h, if_neg (by omega)]
/-- the second -/
structure CX (w0 : World) (b o n : Nat) (f : Nat → Nat) (A : Nat) (g : Nat → Nat) (R S k q : Nat) (wr : World) : Prop where
  li : ∀ i, i < n → wr.rangeAt b (o + 32 * i) (bl (f i))
  ah : ∀ i, i < n → wr.rangeAt A (4 * i) (nl (g i))
  iv : ∀ i, i < n → wr.rangeAt R (32 * i) (bl (if k ≤ i then inv (f i) else 0))
  tR : wr.there R 0 (32 * n)
  rs : wr.rangeAt S 0 (nl q)
  ts : wr.there S 0 4
  nAR : 0 < n → A ≠ R
  nAS : 0 < n → A ≠ S
  nRS : R ≠ S
  fR : w0.heap.size ≤ R
  fS : w0.heap.size ≤ S
  gw : Grown w0 wr
theorem CX.grown {w0 wr w' : World} {b o n : Nat} {f : Nat → Nat} {A : Nat} {g : Nat → Nat} {R S k q : Nat} (s : CX w0 b o n f A g R S k q wr) (hg : Grown wr w') : CX w0 b o n f A g R S k q w' :=
  ⟨fun i hi => rangeAt_grown (s.li i hi) hg, fun i hi => rangeAt_grown (s.ah i hi) hg, fun i hi => rangeAt_grown (s.iv i hi) hg, there_grown s.tR hg, rangeAt_grown s.rs hg, there_grown s.ts hg, s.nAR, s.nAS, s.nRS, s.fR, s.fS, grown_trans s.gw hg⟩
theorem CX.putR {w0 wr : World} {b o n : Nat} {f : Nat → Nat} {A : Nat} {g : Nat → Nat} {R S k q : Nat} (s : CX w0 b o n f A g R S (k + 1) q wr) (hk : k < n) (hb : b < w0.heap.size) : CX w0 b o n f A g R S k q (wr.setCells R (32 * k) (bl (inv (f k)))) := by
  have hbR : b ≠ R := by have := s.fR; omega
  refine ⟨fun i hi => World.rangeAt_setCells_apart (s.li i hi) _ _ _ (.inl hbR), fun i hi => World.rangeAt_setCells_apart (s.ah i hi) _ _ _ (.inl (s.nAR (by omega))), fun i hi => ?_, World.there_setCells s.tR _ _ _, World.rangeAt_setCells_apart s.rs _ _ _ (.inl (Ne.symm s.nRS)), World.there_setCells s.ts _ _ _, s.nAR, s.nAS, s.nRS, s.fR, s.fS, grown_setCells s.fR _ _ s.gw⟩
  by_cases e : i = k
  · subst e
    rw [if_pos (Nat.le_refl _)]
    exact World.rangeAt_setCells_same _ _ _ _ (by rw [bl_length]; exact there_part s.tR hk rfl)
  · have h := s.iv i hi
    rw [if_shift e] at h
    exact World.rangeAt_setCells_apart h _ _ _ (.inr (by simp only [bl_length]; omega))
theorem CX.skip {w0 wr : World} {b o n : Nat} {f : Nat → Nat} {A : Nat} {g : Nat → Nat} {R S k q : Nat} (s : CX w0 b o n f A g R S (k + 1) q wr) (h0 : f k % p = 0) : CX w0 b o n f A g R S k q wr := by
  refine ⟨s.li, s.ah, fun i hi => ?_, s.tR, s.rs, s.ts, s.nAR, s.nAS, s.nRS, s.fR, s.fS, s.gw⟩
  have h := s.iv i hi
  by_cases e : i = k
  · subst e
    rw [if_pos (Nat.le_refl _), inv_0 h0]
    rwa [if_neg (by omega)] at h
  · rwa [if_shift e] at h
theorem CX.putS {w0 wr : World} {b o n : Nat} {f : Nat → Nat} {A : Nat} {g : Nat → Nat} {R S k q : Nat} (s : CX w0 b o n f A g R S k q wr) (z : Nat) (hb : 0 < n → b < w0.heap.size) : CX w0 b o n f A g R S k z (wr.setCells S 0 (nl z)) :=
  ⟨fun i hi => World.rangeAt_setCells_apart (s.li i hi) _ _ _ (.inl (by have := s.fS; have := hb (by omega); omega)), fun i hi => World.rangeAt_setCells_apart (s.ah i hi) _ _ _ (.inl (s.nAS (by omega))), fun i hi => World.rangeAt_setCells_apart (s.iv i hi) _ _ _ (.inl s.nRS), World.there_setCells s.tR _ _ _, World.rangeAt_setCells_same _ _ _ _ (by rw [nl_length]; exact s.ts), World.there_setCells s.ts _ _ _, s.nAR, s.nAS, s.nRS, s.fR, s.fS, grown_setCells s.fS _ _ s.gw⟩
end Go.Proofs.YtoimglbjepppmaaDoor
