import Derived.Test.YteijccjdejjbjaaDoorAp2
import Derived.Test.YteijccjdejjbjaaDoorAp3
import Derived.Deep.WholeRow
namespace Go.Proofs.YteijccjdejjbjaaDoor
open Go.RowKit Go.Shelf ScalarNum

/-- which variables hold which numbers -/
def Holds (l : List (Nat × Nat)) (w : World) : Prop := ∀ q ∈ l, w.rangeAt q.1 0 (yl 32 q.2)

theorem Holds.grown {l : List (Nat × Nat)} {w w' : World} (h : Holds l w) (hg : Grown w w') : Holds l w' := fun q hq => rangeAt_grown (h q hq) hg
theorem Holds.cons {l : List (Nat × Nat)} {w : World} {b n : Nat} (h : Holds l w) (hb : w.rangeAt b 0 (yl 32 n)) : Holds ((b, n) :: l) w := by
  intro q hq
  rcases List.mem_cons.1 hq with rfl | hq
  · exact hb
  · exact h q hq
theorem Holds.nil (w : World) : Holds [] w := fun _ h => by cases h

theorem keepE {l : List (Nat × Nat)} {W w1 w2 : World} (h : Holds l w1 ∧ Grown W w1) (hg : Grown w1 w2) : Holds l w2 ∧ Grown W w2 := ⟨h.1.grown hg, grown_trans h.2 hg⟩

section
variable {ops : Array Oper} {Q : Exit → Act → World → Prop} {md : Region.Mode} {S : World → Prop} {fuel : Nat} {listed : Array Bool} {a : Act} {w : World}

theorem exec_neq_same {o : Oper} {ρ : Operand → Value} {x y : Operand} {t : TypeId} (ho : o.op = .binOp .neq 23 x y t) (m n : Nat) (hx : ρ x = yv 32 m) (hy : ρ y = yv 32 n) (hm : m < M) (hn : n < M) (e : m = n) (w : World) :
    (execOp ρ o).run Tryd.prog w = .ok (.value (.bool false)) w := by
  rw [exec_neq32 ho m n hx hy hm hn w, decide_eq_true e]; rfl
theorem exec_neq_apart {o : Oper} {ρ : Operand → Value} {x y : Operand} {t : TypeId} (ho : o.op = .binOp .neq 23 x y t) (m n : Nat) (hx : ρ x = yv 32 m) (hy : ρ y = yv 32 n) (hm : m < M) (hn : n < M) (e : ¬ m = n) (w : World) :
    (execOp ρ o).run Tryd.prog w = .ok (.value (.bool true)) w := by
  rw [exec_neq32 ho m n hx hy hm hn w, decide_eq_false e]; rfl
theorem exec_eql_same {o : Oper} {ρ : Operand → Value} {x y : Operand} {t : TypeId} (ho : o.op = .binOp .eql 23 x y t) (m n : Nat) (hx : ρ x = yv 32 m) (hy : ρ y = yv 32 n) (hm : m < M) (hn : n < M) (e : m = n) (w : World) :
    (execOp ρ o).run Tryd.prog w = .ok (.value (.bool true)) w := by
  rw [exec_eql32 ho m n hx hy hm hn w, decide_eq_true e]
theorem exec_eql_apart {o : Oper} {ρ : Operand → Value} {x y : Operand} {t : TypeId} (ho : o.op = .binOp .eql 23 x y t) (m n : Nat) (hx : ρ x = yv 32 m) (hy : ρ y = yv 32 n) (hm : m < M) (hn : n < M) (e : ¬ m = n) (w : World) :
    (execOp ρ o).run Tryd.prog w = .ok (.value (.bool false)) w := by
  rw [exec_eql32 ho m n hx hy hm hn w, decide_eq_false e]

/-- a new variable, and what is laid into it -/
theorem wpList_store_new {rest : List Oper} {o : Oper} {x y : Operand} {c : Array Value} (n : Nat) (hc : 32 ≤ c.size) (hgd : o.guard = none) (ho : o.op = .store 23 x y)
    (hx : a.eval x = .pointer (some ⟨w.heap.size, 0, none⟩)) (hy : a.eval y = yv 32 n)
    (h : ∀ w2, Grown w w2 → w2.rangeAt w.heap.size 0 (yl 32 n) → w2.there w.heap.size 0 32 → wpList Tryd.prog ops Q rest (a.put o.dst undef) w2) :
    wpList Tryd.prog ops Q (o :: rest) a (w.alloc (.cells c 23)) := by
  have ht := there_alloc_new w 23 c 32 hc
  refine wpList_store32 hgd x y ho w.heap.size n hx hy ht ?_
  exact h _ (grown_setCells (Nat.le_refl _) _ _ (Grown.alloc (Grown.refl _) _ _)) (World.rangeAt_setCells_same _ _ _ _ (by rw [yl_length]; exact ht)) (World.there_setCells ht _ _ _)
end

theorem bl_small (n : Int) (h0 : 0 ≤ n) (h1 : n < 256) : yl 32 n.toNat = (.int .u8 n) :: List.replicate 31 (.int .u8 0) := by
  obtain ⟨k, rfl⟩ := Int.eq_ofNat_of_zero_le h0
  have hk : k < 256 := by omega
  simp only [Int.toNat_natCast, yl, ds, dg, List.range, List.range.loop, List.map, List.replicate]
  simp only [List.cons.injEq, Value.int.injEq, true_and, and_true, Nat.reducePow]
  refine ⟨?_, ?_, ?_, ?_, ?_, ?_, ?_, ?_, ?_, ?_, ?_, ?_, ?_, ?_, ?_, ?_, ?_, ?_, ?_, ?_, ?_, ?_, ?_, ?_, ?_, ?_, ?_, ?_, ?_, ?_, ?_, ?_⟩ <;> omega

set_option maxHeartbeats 1000000 in
theorem number_any (n : Int) (h0 : 0 ≤ n) (h1 : n < 256) (w : World) :
    Calls Tryd.prog 18 #[.int .u8 n] w fun e w' => e = .returned (yv 32 n.toNat) ∧ Grown w w' := by
  have hb := bl_small n h0 h1
  go_enter Tryd.func18, Tryd.ntmps18
  go_wp2_with (with_reducible show wpList _ _ _ ({ dst := _, op := Op.store 23 _ _, type := _, pos := _, after := _, guard := _ } :: _) _ _; refine Shut.out ?_)
  show wpList _ _ _ _ _ _
  refine wpList_store_new n.toNat (by simp) rfl rfl rfl (by unfold yv; rw [hb]; rfl) (fun w2 hg hr _ => ?_)
  simp only [Act.put]
  apply wpList_nil
  repeat go_step
  refine bodyPost_ret (result32 Tryd.results18 _ _ w.heap.size _ ?hp hr) ?hd ?_
  case hp => rfl
  case hd => rfl
  exact ⟨rfl, hg⟩

theorem number_nat (n : Nat) (hn : n < 256) (i : Int) (hi : i = (n : Int)) (w : World) :
    Calls Tryd.prog 18 #[.int .u8 i] w fun e w' => e = .returned (yv 32 n) ∧ Grown w w' := by
  have := number_any i (by omega) (by omega) w
  rwa [show i.toNat = n by omega] at this

theorem params1 (w : World) (a : Nat) : Holds [(w.heap.size, a)] (w.alloc (.cells (yl 32 a).toArray 23)) ∧ Grown w (w.alloc (.cells (yl 32 a).toArray 23)) :=
  ⟨(Holds.nil _).cons (rangeAt_alloc_new w 23 (yl 32 a)), Grown.alloc (Grown.refl _) _ _⟩

theorem params2 (w : World) (a b : Nat) : Holds [(w.heap.size, a), (w.heap.size + 1, b)] ((w.alloc (.cells (yl 32 a).toArray 23)).alloc (.cells (yl 32 b).toArray 23)) ∧ Grown w ((w.alloc (.cells (yl 32 a).toArray 23)).alloc (.cells (yl 32 b).toArray 23)) := by
  have h1 := rangeAt_grown (rangeAt_alloc_new w 23 (yl 32 a)) (Grown.alloc (Grown.refl _) (yl 32 b).toArray 23)
  have h2 := rangeAt_alloc_new (w.alloc (.cells (yl 32 a).toArray 23)) 23 (yl 32 b)
  rw [show (w.alloc (.cells (yl 32 a).toArray 23)).heap.size = w.heap.size + 1 by simp] at h2
  exact ⟨((Holds.nil _).cons h2).cons h1, by go_grown⟩

theorem params3 (w : World) (a b c : Nat) : Holds [(w.heap.size, a), (w.heap.size + 1, b), (w.heap.size + 1 + 1, c)] (((w.alloc (.cells (yl 32 a).toArray 23)).alloc (.cells (yl 32 b).toArray 23)).alloc (.cells (yl 32 c).toArray 23)) ∧
    Grown w (((w.alloc (.cells (yl 32 a).toArray 23)).alloc (.cells (yl 32 b).toArray 23)).alloc (.cells (yl 32 c).toArray 23)) := by
  obtain ⟨h, _⟩ := params2 w a b
  have h1 := h.grown (Grown.alloc (Grown.refl _) (yl 32 c).toArray 23)
  have h2 := rangeAt_alloc_new ((w.alloc (.cells (yl 32 a).toArray 23)).alloc (.cells (yl 32 b).toArray 23)) 23 (yl 32 c)
  rw [show ((w.alloc (.cells (yl 32 a).toArray 23)).alloc (.cells (yl 32 b).toArray 23)).heap.size = w.heap.size + 1 + 1 by simp] at h2
  exact ⟨(((Holds.nil _).cons h2).cons (h1 _ (.tail _ (.head _)))).cons (h1 _ (.head _)), by go_grown⟩

theorem zero32 : (∀ w, (zeroValue 23).run Tryd.prog w = .ok (yv 32 0) w) ∧ (Tryd.prog.info? 23).map (·.size) = some 32 :=
  zero_of_info (P := Tryd.prog) (t := 23) (v := yv 32 0) (n := 32) (by kernel_rfl)

section
variable {ops : Array Oper} {Q : Exit → Act → World → Prop} {md : Region.Mode} {S : World → Prop} {fuel : Nat} {listed : Array Bool} {a : Act} {w : World}

theorem run_alloc32 (w : World) (old : Value) : (Instr.alloc 23 true old).run Tryd.prog w = .ok (.pointer (some ⟨w.heap.size, 0, none⟩)) (w.alloc (.cells (yl 32 0).toArray 23)) := by
  have h1 := zero32.1
  unfold yv at h1
  have hi := info32
  simp [Instr.alloc, h1, go_sem]

/-- a new variable in a region that draws -/
theorem alloc_op {o : Oper} {K : Act → World → Prop} (ho : o.op = .alloc 23) (hw : Region.wanted o (yielded ops a.tmps) = true)
    (h : ∀ w2, Grown w w2 → w2.there w.heap.size 0 32 → K (a.put o.dst (.pointer (some ⟨w.heap.size, 0, none⟩))) w2) :
    if Region.wanted o (yielded ops a.tmps) = true then Oper.wp Tryd.prog o a w K Q else K (a.put o.dst undef) w := by
  rw [if_pos hw]
  unfold Oper.wp execOp
  simp only [ho, Sem.run_bind, run_alloc32, Result.andThen_ok, Sem.run_pure]
  exact h _ (Grown.alloc (Grown.refl _) _ _) (there_alloc_new w 23 _ 32 (by simp [yl_length]))

/-- a store into a new variable, in a region that draws -/
theorem store_op {o : Oper} {K : Act → World → Prop} {W0 : World} (n : Nat) {x y : Operand} (ho : o.op = .store 23 x y) (hw : Region.wanted o (yielded ops a.tmps) = true)
    (hx : a.eval x = .pointer (some ⟨W0.heap.size, 0, none⟩)) (hy : a.eval y = yv 32 n) (ht : w.there W0.heap.size 0 32) (hA : Grown W0 w)
    (h : ∀ w2, Grown W0 w2 → w2.rangeAt W0.heap.size 0 (yl 32 n) → K (a.put o.dst undef) w2) :
    if Region.wanted o (yielded ops a.tmps) = true then Oper.wp Tryd.prog o a w K Q else K (a.put o.dst undef) w :=
  store32 n W0.heap.size ho hw hx hy ht (h _ (grown_setCells (Nat.le_refl _) _ _ hA) (World.rangeAt_setCells_same _ _ _ _ (by rw [yl_length]; exact ht)))

end
end Go.Proofs.YteijccjdejjbjaaDoor
