import Derived.Test.YtfnbodpbdfeiiaaDoorEq
namespace Go.Proofs.YtfnbodpbdfeiiaaDoor
open Go.RowKit Go.Shelf FieldNum

/-- which variables hold which numbers -/
def Holds (l : List (Nat × Nat)) (w : World) : Prop := ∀ q ∈ l, w.rangeAt q.1 0 (bl q.2)

theorem Holds.grown {l : List (Nat × Nat)} {w w' : World} (h : Holds l w) (hg : Grown w w') : Holds l w' := fun q hq => rangeAt_grown (h q hq) hg
theorem Holds.cons {l : List (Nat × Nat)} {w : World} {b n : Nat} (h : Holds l w) (hb : w.rangeAt b 0 (bl n)) : Holds ((b, n) :: l) w := by
  intro q hq
  rcases List.mem_cons.1 hq with rfl | hq
  · exact hb
  · exact h q hq
theorem Holds.nil (w : World) : Holds [] w := fun _ h => by cases h

theorem keepE {l : List (Nat × Nat)} {W w1 w2 : World} (h : Holds l w1 ∧ Grown W w1) (hg : Grown w1 w2) : Holds l w2 ∧ Grown W w2 := ⟨h.1.grown hg, grown_trans h.2 hg⟩

section
variable {ops : Array Oper} {Q : Exit → Act → World → Prop} {md : Region.Mode} {S : World → Prop} {fuel : Nat} {listed : Array Bool} {a : Act} {w : World}

theorem takeV (i : Nat) (v : Value) {oi : Oper} (hi : ops.toList[i]? = some oi) (hs : Region.noSelect ops = true) (hf : Region.free md ops listed i = true) (hr : (Region.ready md ops listed).contains i = true)
    (hQ : ∀ c a w, Q (.panic c) (a.put oi.dst v) w → Q (.panic c) a w) (hw : Region.wanted oi (yielded ops a.tmps) = true)
    (hy : ∀ w, S w → (execOp a.eval oi).run Tryd.prog w = .ok (.value v) w) (hSw : S w)
    (h : wpAnyH Tryd.prog md ops Q S fuel (listed.setIfInBounds i true) (a.put oi.dst v) w) : wpAnyH Tryd.prog md ops Q S (fuel + 1) listed a w :=
  wpAnyH_take (i := i) (oi := oi) (v := v) (by rw [← Array.getElem?_toList]; exact hi) hs hf hr hQ (Or.inl ⟨hw, hy⟩) hSw h

theorem takeU (i : Nat) {oi : Oper} (hi : ops.toList[i]? = some oi) (hs : Region.noSelect ops = true) (hf : Region.free md ops listed i = true) (hr : (Region.ready md ops listed).contains i = true)
    (hQ : ∀ c a w, Q (.panic c) (a.put oi.dst undef) w → Q (.panic c) a w) (hw : Region.wanted oi (yielded ops a.tmps) = false) (hSw : S w)
    (h : wpAnyH Tryd.prog md ops Q S fuel (listed.setIfInBounds i true) (a.put oi.dst undef) w) : wpAnyH Tryd.prog md ops Q S (fuel + 1) listed a w :=
  wpAnyH_take (i := i) (oi := oi) (v := undef) (by rw [← Array.getElem?_toList]; exact hi) hs hf hr hQ (Or.inr ⟨hw, rfl⟩) hSw h

theorem exec_neq_same {o : Oper} {ρ : Operand → Value} {x y : Operand} {t : TypeId} (ho : o.op = .binOp .neq 22 x y t) (m n : Nat) (hx : ρ x = bv m) (hy : ρ y = bv n) (hm : m < M) (hn : n < M) (e : m = n) (w : World) :
    (execOp ρ o).run Tryd.prog w = .ok (.value (.bool false)) w := by
  rw [exec_neq32 ho m n hx hy hm hn w, decide_eq_true e]; rfl
theorem exec_neq_apart {o : Oper} {ρ : Operand → Value} {x y : Operand} {t : TypeId} (ho : o.op = .binOp .neq 22 x y t) (m n : Nat) (hx : ρ x = bv m) (hy : ρ y = bv n) (hm : m < M) (hn : n < M) (e : ¬ m = n) (w : World) :
    (execOp ρ o).run Tryd.prog w = .ok (.value (.bool true)) w := by
  rw [exec_neq32 ho m n hx hy hm hn w, decide_eq_false e]; rfl
theorem exec_eql_same {o : Oper} {ρ : Operand → Value} {x y : Operand} {t : TypeId} (ho : o.op = .binOp .eql 22 x y t) (m n : Nat) (hx : ρ x = bv m) (hy : ρ y = bv n) (hm : m < M) (hn : n < M) (e : m = n) (w : World) :
    (execOp ρ o).run Tryd.prog w = .ok (.value (.bool true)) w := by
  rw [exec_eql32 ho m n hx hy hm hn w, decide_eq_true e]
theorem exec_eql_apart {o : Oper} {ρ : Operand → Value} {x y : Operand} {t : TypeId} (ho : o.op = .binOp .eql 22 x y t) (m n : Nat) (hx : ρ x = bv m) (hy : ρ y = bv n) (hm : m < M) (hn : n < M) (e : ¬ m = n) (w : World) :
    (execOp ρ o).run Tryd.prog w = .ok (.value (.bool false)) w := by
  rw [exec_eql32 ho m n hx hy hm hn w, decide_eq_false e]

/-- a new variable, and what is laid into it -/
theorem wpList_store_new {rest : List Oper} {o : Oper} {x y : Operand} {c : Array Value} (n : Nat) (hc : 32 ≤ c.size) (hgd : o.guard = none) (ho : o.op = .store 22 x y)
    (hx : a.eval x = .pointer (some ⟨w.heap.size, 0, none⟩)) (hy : a.eval y = bv n)
    (h : ∀ w2, Grown w w2 → w2.rangeAt w.heap.size 0 (bl n) → w2.there w.heap.size 0 32 → wpList Tryd.prog ops Q rest (a.put o.dst undef) w2) :
    wpList Tryd.prog ops Q (o :: rest) a (w.alloc (.cells c 22)) := by
  have ht := there_alloc_new w 22 c 32 hc
  refine wpList_store32 hgd x y ho w.heap.size n hx hy ht ?_
  exact h _ (grown_setCells (Nat.le_refl _) _ _ (Grown.alloc (Grown.refl _) _ _)) (World.rangeAt_setCells_same _ _ _ _ (by rw [bl_length]; exact ht)) (World.there_setCells ht _ _ _)
end

theorem bl_small (n : Int) (h0 : 0 ≤ n) (h1 : n < 256) : bl n.toNat = (.int .u8 n) :: List.replicate 31 (.int .u8 0) := by
  obtain ⟨k, rfl⟩ := Int.eq_ofNat_of_zero_le h0
  have hk : k < 256 := by omega
  simp only [Int.toNat_natCast, bl, List.range, List.range.loop, List.map, List.replicate]
  simp only [List.cons.injEq, Value.int.injEq, true_and, and_true, Nat.reducePow]
  refine ⟨?_, ?_, ?_, ?_, ?_, ?_, ?_, ?_, ?_, ?_, ?_, ?_, ?_, ?_, ?_, ?_, ?_, ?_, ?_, ?_, ?_, ?_, ?_, ?_, ?_, ?_, ?_, ?_, ?_, ?_, ?_, ?_⟩ <;> omega

set_option maxHeartbeats 1000000 in
theorem number_any (n : Int) (h0 : 0 ≤ n) (h1 : n < 256) (w : World) :
    Calls Tryd.prog 9 #[.int .u8 n] w fun e w' => e = .returned (bv n.toNat) ∧ Grown w w' := by
  have hb := bl_small n h0 h1
  go_enter Tryd.func9, Tryd.ntmps9
  go_wp2_with (with_reducible show wpList _ _ _ ({ dst := _, op := Op.store 22 _ _, type := _, pos := _, after := _, guard := _ } :: _) _ _; refine Shut.out ?_)
  show wpList _ _ _ _ _ _
  refine wpList_store_new n.toNat (by simp) rfl rfl rfl (by unfold bv; rw [hb]; rfl) (fun w2 hg hr _ => ?_)
  simp only [Act.put]
  apply wpList_nil
  repeat go_step
  refine bodyPost_ret (result32 Tryd.results9 _ _ w.heap.size _ ?hp hr) ?hd ?_
  case hp => rfl
  case hd => rfl
  exact ⟨rfl, hg⟩

theorem number_nat (n : Nat) (hn : n < 256) (i : Int) (hi : i = (n : Int)) (w : World) :
    Calls Tryd.prog 9 #[.int .u8 i] w fun e w' => e = .returned (bv n) ∧ Grown w w' := by
  have := number_any i (by omega) (by omega) w
  rwa [show i.toNat = n by omega] at this

theorem params1 (w : World) (a : Nat) : Holds [(w.heap.size, a)] (w.alloc (.cells (bl a).toArray 22)) ∧ Grown w (w.alloc (.cells (bl a).toArray 22)) :=
  ⟨(Holds.nil _).cons (rangeAt_alloc_new w 22 (bl a)), Grown.alloc (Grown.refl _) _ _⟩

theorem params2 (w : World) (a b : Nat) : Holds [(w.heap.size, a), (w.heap.size + 1, b)] ((w.alloc (.cells (bl a).toArray 22)).alloc (.cells (bl b).toArray 22)) ∧ Grown w ((w.alloc (.cells (bl a).toArray 22)).alloc (.cells (bl b).toArray 22)) := by
  have h1 := rangeAt_grown (rangeAt_alloc_new w 22 (bl a)) (Grown.alloc (Grown.refl _) (bl b).toArray 22)
  have h2 := rangeAt_alloc_new (w.alloc (.cells (bl a).toArray 22)) 22 (bl b)
  rw [show (w.alloc (.cells (bl a).toArray 22)).heap.size = w.heap.size + 1 by simp] at h2
  exact ⟨((Holds.nil _).cons h2).cons h1, by go_grown⟩

theorem params3 (w : World) (a b c : Nat) : Holds [(w.heap.size, a), (w.heap.size + 1, b), (w.heap.size + 1 + 1, c)] (((w.alloc (.cells (bl a).toArray 22)).alloc (.cells (bl b).toArray 22)).alloc (.cells (bl c).toArray 22)) ∧
    Grown w (((w.alloc (.cells (bl a).toArray 22)).alloc (.cells (bl b).toArray 22)).alloc (.cells (bl c).toArray 22)) := by
  obtain ⟨h, _⟩ := params2 w a b
  have h1 := h.grown (Grown.alloc (Grown.refl _) (bl c).toArray 22)
  have h2 := rangeAt_alloc_new ((w.alloc (.cells (bl a).toArray 22)).alloc (.cells (bl b).toArray 22)) 22 (bl c)
  rw [show ((w.alloc (.cells (bl a).toArray 22)).alloc (.cells (bl b).toArray 22)).heap.size = w.heap.size + 1 + 1 by simp] at h2
  exact ⟨(((Holds.nil _).cons h2).cons (h1 _ (.tail _ (.head _)))).cons (h1 _ (.head _)), by go_grown⟩
end Go.Proofs.YtfnbodpbdfeiiaaDoor
