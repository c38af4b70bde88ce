import Derived.Test.YteijccjdejjbjaaDoorQa2
import Derived.Deep.WholeRow
import Derived.Below
import Derived.Laws.AppendOwn
namespace Go.Proofs.YteijccjdejjbjaaDoor
open Go.RowKit Go.Shelf ScalarNum

/-- which variables hold which numbers -/
def Holds (l : List (Nat × Nat)) (w : World) : Prop := ∀ q ∈ l, w.rangeAt q.1 0 (yl 32 q.2)

theorem Holds.grown {l : List (Nat × Nat)} {w w' : World} (h : Holds l w) (hg : Grown w w') : Holds l w' := fun q hq => rangeAt_grown (h q hq) hg
theorem Holds.cons {l : List (Nat × Nat)} {w : World} {b n : Nat} (h : Holds l w) (hb : w.rangeAt b 0 (yl 32 n)) : Holds ((b, n) :: l) w := by
  intro q hq
  rcases List.mem_cons.1 hq with rfl | hq
  · exact hb
  · exact h q hq
theorem Holds.nil (w : World) : Holds [] w := fun _ h => by cases h

theorem keepE {l : List (Nat × Nat)} {W w1 w2 : World} (h : Holds l w1 ∧ Grown W w1) (hg : Grown w1 w2) : Holds l w2 ∧ Grown W w2 := ⟨h.1.grown hg, grown_trans h.2 hg⟩

section
variable {ops : Array Oper} {Q : Exit → Act → World → Prop} {md : Region.Mode} {S : World → Prop} {fuel : Nat} {listed : Array Bool} {a : Act} {w : World}

theorem exec_neq_same {o : Oper} {ρ : Operand → Value} {x y : Operand} {t : TypeId} (ho : o.op = .binOp .neq 23 x y t) (m n : Nat) (hx : ρ x = yv 32 m) (hy : ρ y = yv 32 n) (hm : m < M) (hn : n < M) (e : m = n) (w : World) :
    (execOp ρ o).run Tryd.prog w = .ok (.value (.bool false)) w := by
  rw [exec_neq32 ho m n hx hy hm hn w, decide_eq_true e]; rfl
theorem exec_neq_apart {o : Oper} {ρ : Operand → Value} {x y : Operand} {t : TypeId} (ho : o.op = .binOp .neq 23 x y t) (m n : Nat) (hx : ρ x = yv 32 m) (hy : ρ y = yv 32 n) (hm : m < M) (hn : n < M) (e : ¬ m = n) (w : World) :
    (execOp ρ o).run Tryd.prog w = .ok (.value (.bool true)) w := by
  rw [exec_neq32 ho m n hx hy hm hn w, decide_eq_false e]; rfl
theorem exec_eql_same {o : Oper} {ρ : Operand → Value} {x y : Operand} {t : TypeId} (ho : o.op = .binOp .eql 23 x y t) (m n : Nat) (hx : ρ x = yv 32 m) (hy : ρ y = yv 32 n) (hm : m < M) (hn : n < M) (e : m = n) (w : World) :
    (execOp ρ o).run Tryd.prog w = .ok (.value (.bool true)) w := by
  rw [exec_eql32 ho m n hx hy hm hn w, decide_eq_true e]
theorem exec_eql_apart {o : Oper} {ρ : Operand → Value} {x y : Operand} {t : TypeId} (ho : o.op = .binOp .eql 23 x y t) (m n : Nat) (hx : ρ x = yv 32 m) (hy : ρ y = yv 32 n) (hm : m < M) (hn : n < M) (e : ¬ m = n) (w : World) :
    (execOp ρ o).run Tryd.prog w = .ok (.value (.bool false)) w := by
  rw [exec_eql32 ho m n hx hy hm hn w, decide_eq_false e]

/-- a new variable, and what is laid into it -/
theorem wpList_store_new {rest : List Oper} {o : Oper} {x y : Operand} {c : Array Value} (n : Nat) (hc : 32 ≤ c.size) (hgd : o.guard = none) (ho : o.op = .store 23 x y)
    (hx : a.eval x = .pointer (some ⟨w.heap.size, 0, none⟩)) (hy : a.eval y = yv 32 n)
    (h : ∀ w2, Grown w w2 → w2.rangeAt w.heap.size 0 (yl 32 n) → w2.there w.heap.size 0 32 → wpList Tryd.prog ops Q rest (a.put o.dst undef) w2) :
    wpList Tryd.prog ops Q (o :: rest) a (w.alloc (.cells c 23)) := by
  have ht := there_alloc_new w 23 c 32 hc
  refine wpList_store32 hgd x y ho w.heap.size n hx hy ht ?_
  exact h _ (grown_setCells (Nat.le_refl _) _ _ (Grown.alloc (Grown.refl _) _ _)) (World.rangeAt_setCells_same _ _ _ _ (by rw [yl_length]; exact ht)) (World.there_setCells ht _ _ _)
end

theorem bl_small (n : Int) (h0 : 0 ≤ n) (h1 : n < 256) : yl 32 n.toNat = (.int .u8 n) :: List.replicate 31 (.int .u8 0) := by
  obtain ⟨k, rfl⟩ := Int.eq_ofNat_of_zero_le h0
  have hk : k < 256 := by omega
  simp only [Int.toNat_natCast, yl, ds, dg, List.range, List.range.loop, List.map, List.replicate]
  simp only [List.cons.injEq, Value.int.injEq, true_and, and_true, Nat.reducePow]
  refine ⟨?_, ?_, ?_, ?_, ?_, ?_, ?_, ?_, ?_, ?_, ?_, ?_, ?_, ?_, ?_, ?_, ?_, ?_, ?_, ?_, ?_, ?_, ?_, ?_, ?_, ?_, ?_, ?_, ?_, ?_, ?_, ?_⟩ <;> omega

set_option maxHeartbeats 1000000 in
theorem number_any (n : Int) (h0 : 0 ≤ n) (h1 : n < 256) (w : World) :
    Calls Tryd.prog 18 #[.int .u8 n] w fun e w' => e = .returned (yv 32 n.toNat) ∧ Grown w w' := by
  have hb := bl_small n h0 h1
  go_enter Tryd.func18, Tryd.ntmps18
  go_wp2_with (with_reducible show wpList _ _ _ ({ dst := _, op := Op.store 23 _ _, type := _, pos := _, after := _, guard := _ } :: _) _ _; refine Shut.out ?_)
  show wpList _ _ _ _ _ _
  refine wpList_store_new n.toNat (by simp) rfl rfl rfl (by unfold yv; rw [hb]; rfl) (fun w2 hg hr _ => ?_)
  simp only [Act.put]
  apply wpList_nil
  repeat go_step
  refine bodyPost_ret (result32 Tryd.results18 _ _ w.heap.size _ ?hp hr) ?hd ?_
  case hp => rfl
  case hd => rfl
  exact ⟨rfl, hg⟩

theorem number_nat (n : Nat) (hn : n < 256) (i : Int) (hi : i = (n : Int)) (w : World) :
    Calls Tryd.prog 18 #[.int .u8 i] w fun e w' => e = .returned (yv 32 n) ∧ Grown w w' := by
  have := number_any i (by omega) (by omega) w
  rwa [show i.toNat = n by omega] at this

theorem params1 (w : World) (a : Nat) : Holds [(w.heap.size, a)] (w.alloc (.cells (yl 32 a).toArray 23)) ∧ Grown w (w.alloc (.cells (yl 32 a).toArray 23)) :=
  ⟨(Holds.nil _).cons (rangeAt_alloc_new w 23 (yl 32 a)), Grown.alloc (Grown.refl _) _ _⟩

theorem params2 (w : World) (a b : Nat) : Holds [(w.heap.size, a), (w.heap.size + 1, b)] ((w.alloc (.cells (yl 32 a).toArray 23)).alloc (.cells (yl 32 b).toArray 23)) ∧ Grown w ((w.alloc (.cells (yl 32 a).toArray 23)).alloc (.cells (yl 32 b).toArray 23)) := by
  have h1 := rangeAt_grown (rangeAt_alloc_new w 23 (yl 32 a)) (Grown.alloc (Grown.refl _) (yl 32 b).toArray 23)
  have h2 := rangeAt_alloc_new (w.alloc (.cells (yl 32 a).toArray 23)) 23 (yl 32 b)
  rw [show (w.alloc (.cells (yl 32 a).toArray 23)).heap.size = w.heap.size + 1 by simp] at h2
  exact ⟨((Holds.nil _).cons h2).cons h1, by go_grown⟩

theorem params3 (w : World) (a b c : Nat) : Holds [(w.heap.size, a), (w.heap.size + 1, b), (w.heap.size + 1 + 1, c)] (((w.alloc (.cells (yl 32 a).toArray 23)).alloc (.cells (yl 32 b).toArray 23)).alloc (.cells (yl 32 c).toArray 23)) ∧
    Grown w (((w.alloc (.cells (yl 32 a).toArray 23)).alloc (.cells (yl 32 b).toArray 23)).alloc (.cells (yl 32 c).toArray 23)) := by
  obtain ⟨h, _⟩ := params2 w a b
  have h1 := h.grown (Grown.alloc (Grown.refl _) (yl 32 c).toArray 23)
  have h2 := rangeAt_alloc_new ((w.alloc (.cells (yl 32 a).toArray 23)).alloc (.cells (yl 32 b).toArray 23)) 23 (yl 32 c)
  rw [show ((w.alloc (.cells (yl 32 a).toArray 23)).alloc (.cells (yl 32 b).toArray 23)).heap.size = w.heap.size + 1 + 1 by simp] at h2
  exact ⟨(((Holds.nil _).cons h2).cons (h1 _ (.tail _ (.head _)))).cons (h1 _ (.head _)), by go_grown⟩

theorem zero32 : (∀ w, (zeroValue 23).run Tryd.prog w = .ok (yv 32 0) w) ∧ (Tryd.prog.info? 23).map (·.size) = some 32 :=
  zero_of_info (P := Tryd.prog) (t := 23) (v := yv 32 0) (n := 32) (by kernel_rfl)

section
variable {ops : Array Oper} {Q : Exit → Act → World → Prop} {md : Region.Mode} {S : World → Prop} {fuel : Nat} {listed : Array Bool} {a : Act} {w : World}

theorem run_alloc32 (w : World) (old : Value) : (Instr.alloc 23 true old).run Tryd.prog w = .ok (.pointer (some ⟨w.heap.size, 0, none⟩)) (w.alloc (.cells (yl 32 0).toArray 23)) := by
  have h1 := zero32.1
  unfold yv at h1
  have hi := info32
  simp [Instr.alloc, h1, go_sem]

/-- a new variable in a region that draws -/
theorem alloc_op {o : Oper} {K : Act → World → Prop} (ho : o.op = .alloc 23) (hw : Region.wanted o (yielded ops a.tmps) = true)
    (h : ∀ w2, Grown w w2 → w2.there w.heap.size 0 32 → K (a.put o.dst (.pointer (some ⟨w.heap.size, 0, none⟩))) w2) :
    if Region.wanted o (yielded ops a.tmps) = true then Oper.wp Tryd.prog o a w K Q else K (a.put o.dst undef) w := by
  rw [if_pos hw]
  unfold Oper.wp execOp
  simp only [ho, Sem.run_bind, run_alloc32, Result.andThen_ok, Sem.run_pure]
  exact h _ (Grown.alloc (Grown.refl _) _ _) (there_alloc_new w 23 _ 32 (by simp [yl_length]))

/-- a store into a new variable, in a region that draws -/
theorem store_op {o : Oper} {K : Act → World → Prop} {W0 : World} (n : Nat) {x y : Operand} (ho : o.op = .store 23 x y) (hw : Region.wanted o (yielded ops a.tmps) = true)
    (hx : a.eval x = .pointer (some ⟨W0.heap.size, 0, none⟩)) (hy : a.eval y = yv 32 n) (ht : w.there W0.heap.size 0 32) (hA : Grown W0 w)
    (h : ∀ w2, Grown W0 w2 → w2.rangeAt W0.heap.size 0 (yl 32 n) → K (a.put o.dst undef) w2) :
    if Region.wanted o (yielded ops a.tmps) = true then Oper.wp Tryd.prog o a w K Q else K (a.put o.dst undef) w :=
  store32 n W0.heap.size ho hw hx hy ht (h _ (grown_setCells (Nat.le_refl _) _ _ hA) (World.rangeAt_setCells_same _ _ _ _ (by rw [yl_length]; exact ht)))

end
end Go.Proofs.YteijccjdejjbjaaDoor
namespace Go.Proofs.YteijccjdejjbjaaDoor
open Go.RowKit Go.Shelf ScalarNum

theorem less_step {x y i : Nat} (h : x / 256 ^ (i + 1) = y / 256 ^ (i + 1)) : (x / 256 ^ i % 256 = y / 256 ^ i % 256 → x / 256 ^ i = y / 256 ^ i) ∧ (x / 256 ^ i % 256 ≠ y / 256 ^ i % 256 → (x / 256 ^ i % 256 < y / 256 ^ i % 256 ↔ x < y)) := by
  have e : ∀ z, z / 256 ^ (i + 1) = z / 256 ^ i / 256 := fun z => by rw [Nat.pow_succ, Nat.div_div_eq_div_mul]
  rw [e, e] at h
  refine ⟨fun h1 => by omega, fun h1 => ?_⟩
  have hp : 0 < 256 ^ i := Nat.pow_pos (by decide)
  have hlt : x / 256 ^ i % 256 < y / 256 ^ i % 256 ↔ x / 256 ^ i < y / 256 ^ i := by omega
  rw [hlt]
  have hne : x / 256 ^ i ≠ y / 256 ^ i := by omega
  constructor
  · intro h2
    apply Nat.lt_of_not_le
    intro h3
    have := Nat.div_le_div_right (c := 256 ^ i) h3
    omega
  · intro h2
    have := Nat.div_le_div_right (c := 256 ^ i) (Nat.le_of_lt h2)
    omega

set_option maxHeartbeats 1000000 in
theorem less_any (x y : Nat) (hx : x < M) (hy : y < M) (w : World) :
    Calls Tryd.prog 27 #[yv 32 x, yv 32 y] w fun e w' => e = .returned (.bool (decide (x < y))) ∧ Grown w w' := by
  obtain ⟨hE, hW⟩ := params2 w x y
  rw [yv, yv]
  have hcx := fun i (hi : i < 32) => hE _ (.head _) i _ (yl_get 32 x i hi)
  have hcy := fun i (hi : i < 32) => hE _ (.tail _ (.head _)) i _ (yl_get 32 y i hi)
  simp only [Nat.zero_add] at hcx hcy
  go_enter Tryd.func27, Tryd.ntmps27
  go_wp2
  generalize ((w.alloc (Obj.cells (yl 32 x).toArray 23)).alloc (Obj.cells (yl 32 y).toArray 23)) = W0 at *
  clear hE
  go_loopw [5] (fun v5 wr => ∃ k n : Nat, v5 = .int .i64 ((k : Int) - 1) ∧ k ≤ 32 ∧ wr = W0.drewN n ∧ x / 256 ^ k = y / 256 ^ k) (fun v5 _ => (intOf v5 + 1).toNat)
  case atStart =>
    refine ⟨32, 0, rfl, by decide, rfl, ?_⟩
    have e : 256 ^ 32 = M := by decide
    rw [e, Nat.div_eq_of_lt hx, Nat.div_eq_of_lt hy]
  case round =>
    obtain ⟨k, n, rfl, hk, rfl, hdiv⟩ := hrel
    rcases Nat.eq_zero_or_pos k with rfl | hpos
    · have hxy : x = y := by simpa using hdiv
      subst hxy
      clear hcx hcy hdiv
      go_wp2
      go_ret
      exact ⟨by simp, grown_drewN hW _⟩
    · obtain ⟨i, rfl⟩ : ∃ i, k = i + 1 := ⟨k - 1, by omega⟩
      obtain ⟨s1, s2⟩ := less_step hdiv
      have cx := hcx i (by omega)
      have cy := hcy i (by omega)
      simp only [dg] at cx cy
      clear hcx hcy hdiv
      have ei : ((i + 1 : Nat) : Int) - 1 = (i : Int) := by omega
      rw [ei]
      clear ei
      have b0 : (0 : Int) ≤ (i : Int) := by omega
      have b1 : (i : Int) < 32 := by omega
      have wi : IntKind.i64.wrap ((i : Int) - 1) = (i : Int) - 1 := by rw [IntKind.wrap_i64]; omega
      generalize hbx : x / 256 ^ i % 256 = bx at *
      generalize hby : y / 256 ^ i % 256 = by' at *

      by_cases hb : bx = by'
      · have s1' := s1 hb
        subst hb
        clear s1 s2 hbx hby
        have sd : Hid (x / 256 ^ i = y / 256 ^ i) := s1'
        clear s1'
        go_wp2
        go_quiet (fail)
        go_wp2
        go_roundw
        case rel => exact ⟨i, _, rfl, by omega, rfl, sd.out⟩
        case measure => simp [intOf]
      · have s2' := s2 hb
        have hbi : ¬ ((bx : Int) = (by' : Int)) := by omega
        clear s1 s2 hbx hby
        have sd : Hid (bx < by' ↔ x < y) := s2'
        clear s2'
        go_wp2
        go_quiet (fail)
        go_wp2
        go_quiet (fail)
        go_wp2
        go_ret
        refine ⟨?_, hW⟩
        have h : bx < by' ↔ x < y := sd.out
        show Ending.returned (.bool (decide (bx < by'))) = _
        rw [decide_eq_decide.2 h]
end Go.Proofs.YteijccjdejjbjaaDoor
namespace Go.Proofs.YteijccjdejjbjaaDoor
open Go.RowKit Go.Shelf ScalarNum

theorem keep2 {W w1 w2 : World} {b1 b2 : Nat} {xs : List Value} (h : w1.rangeAt b1 0 xs ∧ w1.there b2 0 32 ∧ Grown W w1) (hg : Grown w1 w2) :
    w2.rangeAt b1 0 xs ∧ w2.there b2 0 32 ∧ Grown W w2 :=
  ⟨rangeAt_grown h.1 hg, there_grown h.2.1 hg, grown_trans h.2.2 hg⟩

set_option maxRecDepth 100000 in
set_option maxHeartbeats 1000000 in
theorem cut_num (x : Nat) (hx : x < M) (w : World) (hT : Tab w) : Calls Tryd.prog 23 #[yv 32 x] w fun e w' => e = .returned (yv 32 (sred x)) ∧ Grown w w' := by
  have h0 := alloc2 w 23 23 (yl 32 x) (yl 32 0).toArray
  rw [show (yl 32 0).toArray.size = 32 from rfl] at h0
  have HT := Hid.of hT
  clear hT
  have es : smad x 1 0 = sred x := by unfold smad sred; rw [Nat.mul_one, Nat.add_zero]
  rw [yv]
  go_enter Tryd.func23, Tryd.ntmps23
  go_wp2
  rw [← yl32_zero]
  generalize ((w.alloc (.cells (yl 32 x).toArray 23)).alloc (.cells (yl 32 0).toArray 23)) = W0 at *
  refine wp_region_noPanic ?_
  refine wp_region_held_drew (S := fun w' => w'.rangeAt w.heap.size 0 (yl 32 x) ∧ w'.there (w.heap.size + 1) 0 32 ∧ Grown w w') (by kernel_rfl) ⟨h0.1, h0.2.2.1, h0.2.2.2⟩ (fun hH => ?_)
  clear h0
  refine take32 0 (x) (w.heap.size) rfl (by kernel_rfl) (by kernel_rfl) (by kernel_rfl) (fun _ _ _ h => h) (by rfl) rfl rfl (fun _ h => h.1) hH ?_
  simp only [Act.put, List.setIfInBounds_toArray, List.set_cons_zero, List.set_cons_succ]
  refine step1 1 (by kernel_rfl) rfl (fun K hK => ?_)
  go_simp
  refine Calls.mono (number_nat 1 (by decide) 1 rfl _) ?_
  rintro e w1 ⟨rfl, hg1⟩
  dsimp only
  refine hK.out _ _ (keep2 hH hg1) (fun hH => ?_)
  clear hK K
  refine step1 2 (by kernel_rfl) rfl (fun K hK => ?_)
  go_simp
  refine Calls.mono (number_nat 0 (by decide) 0 rfl _) ?_
  rintro e w2 ⟨rfl, hg2⟩
  dsimp only
  refine hK.out _ _ (keep2 hH hg2) (fun hH => ?_)
  clear hK K
  refine step1 3 (by kernel_rfl) rfl (fun K hK => ?_)
  go_simp
  refine Calls.mono (MulAdd_num x 1 0 hx (by decide) (by decide) _ (HT.out.grown hH.2.2)) ?_
  rintro e w3 ⟨rfl, hg3⟩
  dsimp only
  refine hK.out _ _ (keep2 hH hg3) (fun hH => ?_)
  clear hK K
  obtain ⟨hr1, hth, hgw⟩ := hH
  rw [es]
  refine step1 4 (by kernel_rfl) rfl (fun K hK => ?_)
  refine store32 (sred x) (w.heap.size + 1) rfl (by rfl) rfl rfl hth ?_
  simp only [Act.put]
  refine hK.out _ _ ⟨World.rangeAt_setCells_apart hr1 _ _ _ (by left; omega), World.there_setCells hth _ _ _, grown_setCells (by omega) _ _ hgw⟩ (fun _ => ?_)
  clear hK K
  refine wpAnyH_done (by kernel_rfl) ?_ _
  refine NoPanic.normal ?_
  repeat go_step
  refine bodyPost_ret (v := yv 32 (sred x)) (result32 Tryd.results23 _ _ (w.heap.size + 1) _ ?hp (World.rangeAt_setCells_same _ _ _ _ (by rw [yl_length]; exact hth))) ?hd ?_
  case hp => rfl
  case hd => rfl
  exact ⟨rfl, grown_setCells (by omega) _ _ hgw⟩

set_option maxRecDepth 100000 in
set_option maxHeartbeats 1000000 in
theorem Canonical_num (x : Nat) (hx : x < M) (w : World) (hT : Tab w) : Calls Tryd.prog 17 #[yv 32 x] w fun e w' => e = .returned (.bool (decide (x < L))) ∧ Grown w w' := by
  have h0 : (w.alloc (.cells (yl 32 x).toArray 23)).rangeAt w.heap.size 0 (yl 32 x) ∧ Grown w (w.alloc (.cells (yl 32 x).toArray 23)) := ⟨rangeAt_alloc_new w 23 (yl 32 x), Grown.alloc (Grown.refl _) _ _⟩
  have HT := Hid.of hT
  clear hT
  have ed : decide (x = x % L) = decide (x < L) := by
    apply decide_eq_decide.2
    constructor
    · intro h; rw [h]; exact modL_lt x
    · intro h; exact (Nat.mod_eq_of_lt h).symm
  rw [yv]
  go_enter Tryd.func17, Tryd.ntmps17
  go_wp2_with (with_reducible show wpList _ _ _ ({ dst := _, op := Op.load 23 _, type := _, pos := _, after := _, guard := _ } :: _) _ _; refine Shut.out ?_)
  show wpList _ _ _ _ _ _
  generalize (w.alloc (.cells (yl 32 x).toArray 23)) = W0 at *
  have H0 := Hid.of h0
  clear h0
  refine wpList_load32 rfl _ rfl w.heap.size rfl x H0.out.1 ?_
  simp only [Act.put, List.setIfInBounds_toArray, List.set_cons_zero, List.set_cons_succ]
  go_wp2_with fail
  refine Calls.mono (load_num x hx _) ?_
  rintro e w1 ⟨rfl, g1⟩
  dsimp only
  go_wp2_with (with_reducible show wpList _ _ _ ({ dst := _, op := Op.store 62 _ _, type := _, pos := _, after := _, guard := _ } :: _) _ _; refine Shut.out ?_)
  show wpList _ _ _ _ _ _
  refine wpList_store_newN x (by simp) rfl rfl rfl rfl (fun w2 hg2 hr2 ht2 => ?_)
  simp only [Act.put]
  apply wpList_nil
  have H1 := Hid.of (And.intro hr2 (grown_trans (grown_trans H0.out.2 g1) hg2))
  clear H0 g1 hg2 hr2 ht2
  generalize w1.heap.size = bx at *
  go_wp2
  refine wp_region_noPanic ?_
  refine wp_region_held_drew (S := fun w' => w'.rangeAt bx 0 (wl 4 x) ∧ Grown w w') (by kernel_rfl) H1.out (fun hH => ?_)
  refine takeN 0 x bx 0 rfl (by kernel_rfl) (by kernel_rfl) (by kernel_rfl) (fun _ _ _ h => h) (by rfl) rfl rfl (fun _ h => h.1) hH ?_
  simp only [Act.put, List.setIfInBounds_toArray, List.set_cons_zero, List.set_cons_succ]
  refine takeN 1 x bx 0 rfl (by kernel_rfl) (by kernel_rfl) (by kernel_rfl) (fun _ _ _ h => h) (by rfl) rfl rfl (fun _ h => h.1) hH ?_
  simp only [Act.put, List.setIfInBounds_toArray, List.set_cons_zero, List.set_cons_succ]
  refine step1 2 (by kernel_rfl) rfl (fun K hK => ?_)
  go_simp
  refine Calls.mono (reduced_num x hx _ (HT.out.grown hH.2)) ?_
  rintro e w3 ⟨rfl, hg3⟩
  dsimp only
  refine hK.out _ _ (⟨rangeAt_grown hH.1 hg3, grown_trans hH.2 hg3⟩) (fun hH => ?_)
  clear hK K
  refine takeV 3 (.bool (decide (x < L))) rfl (by kernel_rfl) (by kernel_rfl) (by kernel_rfl) (fun _ _ _ h => h) (by rfl) (fun w _ => by rw [← ed]; exact exec_eqlN rfl x (x % L) rfl rfl hx (modL_ltM x) w) hH ?_
  simp only [Act.put, List.setIfInBounds_toArray, List.set_cons_zero, List.set_cons_succ]
  refine takeV 4 (.bool (decide (x < L))) rfl (by kernel_rfl) (by kernel_rfl) (by kernel_rfl) (fun _ _ _ h => h) (by rfl) (fun w _ => rfl) hH ?_
  simp only [Act.put, List.setIfInBounds_toArray, List.set_cons_zero, List.set_cons_succ]
  refine wpAnyH_done (by kernel_rfl) ?_ _
  refine NoPanic.normal ?_
  repeat go_step
  go_ret
  exact ⟨rfl, hH.2⟩
theorem canon_is (x : Nat) (hx : x < M) (b : Bool) (hb : decide (x < L) = b) (w : World) (hT : Tab w) : Calls Tryd.prog 17 #[yv 32 x] w fun e w' => e = .returned (.bool b) ∧ Grown w w' := by
  rw [← hb]; exact Canonical_num x hx w hT
theorem less_is (x y : Nat) (hx : x < M) (hy : y < M) (b : Bool) (hb : decide (x < y) = b) (w : World) : Calls Tryd.prog 27 #[yv 32 x, yv 32 y] w fun e w' => e = .returned (.bool b) ∧ Grown w w' := by
  rw [← hb]; exact less_any x y hx hy w
end Go.Proofs.YteijccjdejjbjaaDoor
namespace Go.Proofs.YteijccjdejjbjaaDoor
open Go.RowKit Go.Shelf ScalarNum

/-- digits of 8 bits as cells of type int -/
def il (n v : Nat) : List Value := (ds 256 n v).map fun z : Nat => .int .i64 (z : Int)
def iv (n v : Nat) : Value := .agg (il n v).toArray
theorem il_length (n v : Nat) : (il n v).length = n := by simp [il, ds_length]
theorem il_get (n v i : Nat) (h : i < n) : (il n v)[i]? = some (.int .i64 ((dg 256 v i : Nat) : Int)) := by simp [il, ds_get _ _ _ _ h]
theorem il_one (n v : Nat) : ∀ u ∈ il n v, u.oneCell' = true := by
  intro u hu
  simp only [il, List.mem_map] at hu
  obtain ⟨i, _, rfl⟩ := hu
  rfl
theorem il_set {n v k z : Nat} (hz : z < 256) (hk : k < n) : (il n v).set k (.int .i64 (z : Int)) = il n (st 256 v k z) := by
  rw [il, il, ← ds_set (by decide) hz hk, List.map_set]
theorem irange_set {w : World} {b n v : Nat} (h : w.rangeAt b 0 (il n v)) {k z : Nat} (hz : z < 256) (hk : k < n) : (w.setCell ⟨b, k, none⟩ (.int .i64 (z : Int))).rangeAt b 0 (il n (st 256 v k z)) := by
  rw [← il_set hz hk]; exact range_set h k (by rw [il_length]; exact hk) _
theorem info33 : (Tryd.prog.info? 79).map (·.size) = some 33 := by kernel_rfl
theorem wpList_load33 {ops : Array Oper} {rest : List Oper} {op : Oper} {a : Act} {w : World} {Q : Exit → Act → World → Prop} (hgd : op.guard = none) (x : Operand) (ho : op.op = .load 79 x)
    (b : Nat) (hx : a.eval x = .pointer (some ⟨b, 0, none⟩)) (n : Nat) (hc : w.rangeAt b 0 (il 33 n))
    (h : wpList Tryd.prog ops Q rest (a.put op.dst (iv 33 n)) w) : wpList Tryd.prog ops Q (op :: rest) a w :=
  wpList_load_mid hgd 79 x ho b 0 hx (il 33 n) _ hc Tryd.underlying79 rfl (by rw [il_length]; exact info33) h

theorem less_top {x y : Nat} (hx : x / 256 ^ 32 % 256 = 0) (hx33 : x < 256 ^ 33) (hy : y < M) : x / 256 ^ 32 = y / 256 ^ 32 := by
  have e : (256 : Nat) ^ 32 = M := by decide
  rw [e, Nat.div_eq_of_lt hy, ← e]
  have h1 : x / 256 ^ 32 < 256 := Nat.div_lt_of_lt_mul (by rw [← Nat.pow_succ]; exact hx33)
  rwa [Nat.mod_eq_of_lt h1] at hx

set_option maxRecDepth 100000 in
set_option maxHeartbeats 1000000 in
theorem below_num (x y : Nat) (hx : x < 256 ^ 33) (hy : y < M) (w : World) :
    Calls Tryd.prog 60 #[iv 33 x, yv 32 y] w fun e w' => e = .returned (.bool (decide (x < y))) ∧ Grown w w' := by
  have h0 : ((w.alloc (.cells (il 33 x).toArray 79)).alloc (.cells (yl 32 y).toArray 23)).rangeAt w.heap.size 0 (il 33 x) ∧ ((w.alloc (.cells (il 33 x).toArray 79)).alloc (.cells (yl 32 y).toArray 23)).rangeAt (w.heap.size + 1) 0 (yl 32 y) ∧ Grown w ((w.alloc (.cells (il 33 x).toArray 79)).alloc (.cells (yl 32 y).toArray 23)) := by
    have h1 := rangeAt_grown (rangeAt_alloc_new w 79 (il 33 x)) (Grown.alloc (Grown.refl _) (yl 32 y).toArray 23)
    have h2 := rangeAt_alloc_new (w.alloc (.cells (il 33 x).toArray 79)) 23 (yl 32 y)
    rw [show (w.alloc (.cells (il 33 x).toArray 79)).heap.size = w.heap.size + 1 by simp] at h2
    exact ⟨h1, h2, Grown.alloc (Grown.alloc (Grown.refl _) _ _) _ _⟩
  have htop : (il 33 x)[32]? = some (.int .i64 (dg 256 x 32 : Nat)) := il_get 33 x 32 (by decide)
  have hd : x / 256 ^ 32 % 256 = dg 256 x 32 := rfl
  rw [iv, yv]
  generalize dg 256 x 32 = tp at *
  by_cases hz : tp = 0
  · subst hz
    have hlt := less_top hd hx hy
    clear hd hx hy
    go_enter Tryd.func60, Tryd.ntmps60
    go_wp2
    generalize ((w.alloc (Obj.cells (il 33 x).toArray 79)).alloc (Obj.cells (yl 32 y).toArray 23)) = W0 at *
    clear htop
    obtain ⟨rx, ry, hW⟩ := h0
    have hcx := fun i (hi : i < 33) => rx i _ (il_get 33 x i hi)
    have hcy := fun i (hi : i < 32) => ry i _ (yl_get 32 y i hi)
    simp only [Nat.zero_add] at hcx hcy
    clear rx ry
    go_loopw [5] (fun v5 wr => ∃ k n : Nat, v5 = .int .i64 ((k : Int) - 1) ∧ k ≤ 32 ∧ wr = W0.drewN n ∧ x / 256 ^ k = y / 256 ^ k) (fun v5 _ => (intOf v5 + 1).toNat)
    case atStart => exact ⟨32, 0, rfl, by decide, rfl, hlt⟩
    case round =>
      obtain ⟨k, n, rfl, hk, rfl, hdiv⟩ := hrel
      clear hlt
      rcases Nat.eq_zero_or_pos k with rfl | hpos
      · have hxy : x = y := by simpa using hdiv
        subst hxy
        clear hcx hcy hdiv
        go_wp2
        go_ret
        exact ⟨by simp, grown_drewN hW _⟩
      · obtain ⟨i, rfl⟩ : ∃ i, k = i + 1 := ⟨k - 1, by omega⟩
        obtain ⟨s1, s2⟩ := less_step hdiv
        have cx := hcx i (by omega)
        have cy := hcy i (by omega)
        simp only [dg] at cx cy
        clear hcx hcy hdiv
        have ei : ((i + 1 : Nat) : Int) - 1 = (i : Int) := by omega
        rw [ei]
        clear ei
        have b0 : (0 : Int) ≤ (i : Int) := by omega
        have b1 : (i : Int) < 32 := by omega
        have wi : IntKind.i64.wrap ((i : Int) - 1) = (i : Int) - 1 := by rw [IntKind.wrap_i64]; omega
        have q1 : x / 256 ^ i % 256 < 256 := Nat.mod_lt _ (by decide)
        have q2 : y / 256 ^ i % 256 < 256 := Nat.mod_lt _ (by decide)
        generalize hbx : x / 256 ^ i % 256 = bx at *
        generalize hby : y / 256 ^ i % 256 = by' at *
        have q3 : wrap64 (by' : Int) = (by' : Int) := by simp [wrap64]; omega
        by_cases hb : bx = by'
        · have s1' := s1 hb
          subst hb
          clear s1 s2 hbx hby
          have sd : Hid (x / 256 ^ i = y / 256 ^ i) := s1'
          clear s1'
          go_wp2
          go_quiet (fail)
          go_wp2
          go_roundw
          case rel => exact ⟨i, _, rfl, by omega, rfl, sd.out⟩
          case measure => simp [intOf]
        · have s2' := s2 hb
          have hbi : ¬ ((bx : Int) = (by' : Int)) := fun h => hb (Int.ofNat_inj.1 h)
          clear s1 s2 hbx hby
          have sd : Hid (bx < by' ↔ x < y) := s2'
          clear s2'
          go_wp2
          go_quiet (fail)
          go_wp2
          go_quiet (fail)
          go_wp2
          go_ret
          refine ⟨?_, hW⟩
          have h : bx < by' ↔ x < y := sd.out
          show Ending.returned (.bool (decide (bx < by'))) = _
          rw [decide_eq_decide.2 h]
  · have hge : ¬ x < y := by
      intro h
      have h1 : x / 256 ^ 32 = 0 := Nat.div_eq_of_lt (Nat.lt_trans h (by rw [show (256 : Nat) ^ 32 = M from by decide]; exact hy))
      rw [h1, Nat.zero_mod] at hd
      exact hz hd.symm
    rw [decide_eq_false hge]
    clear hge hx hy
    have hzi : ¬ (tp : Int) = 0 := by omega
    have HW := Hid.of h0.2.2
    clear hd h0
    go_enter Tryd.func60, Tryd.ntmps60
    go_wp2
    go_ret
    exact ⟨rfl, HW.out⟩
end Go.Proofs.YteijccjdejjbjaaDoor
namespace ScalarNum

theorem accb (b v k t : Nat) : st b v k ((dg b v k + t) % b) + (dg b v k + t) / b * b ^ (k + 1) = v + t * b ^ k := by
  have h := st_eq b v k ((dg b v k + t) % b)
  have h2 := Nat.div_add_mod (dg b v k + t) b
  generalize st b v k ((dg b v k + t) % b) = v' at *
  generalize dg b v k = w at *
  generalize (w + t) / b = q at *
  generalize (w + t) % b = r at *
  rw [Nat.pow_succ]
  generalize b ^ k = P at *
  have e : (w + t) * P = q * (P * b) + r * P := by
    rw [← h2, Nat.add_mul]
    congr 1
    rw [Nat.mul_comm b q, Nat.mul_assoc, Nat.mul_comm b P]
  rw [Nat.add_mul] at e
  omega
theorem decb (b v k t d c : Nat) (hd : d + t = dg b v k + c * b) : st b v k d + t * b ^ k = v + c * b ^ (k + 1) := by
  have h := st_eq b v k d
  generalize st b v k d = v' at *
  generalize dg b v k = w at *
  rw [Nat.pow_succ]
  generalize b ^ k = P at *
  have e : d * P + t * P = w * P + c * (P * b) := by
    rw [← Nat.add_mul, hd, Nat.add_mul, Nat.mul_assoc, Nat.mul_comm b P]
  omega
theorem div_succb {b v x k : Nat} (h : v / b ^ k = x / b ^ k) : v / b ^ (k + 1) = x / b ^ (k + 1) := by
  rw [Nat.pow_succ, ← Nat.div_div_eq_div_mul, h, Nat.div_div_eq_div_mul]

/-- doubling, digit by digit -/
theorem dbl_step {cur c R bit j : Nat} (h : cur + c * 256 ^ j = R + R % 256 ^ j + bit) (hx : cur / 256 ^ j = R / 256 ^ j) :
    st 256 cur j ((2 * dg 256 cur j + c) % 256) + (2 * dg 256 cur j + c) / 256 * 256 ^ (j + 1) = R + R % 256 ^ (j + 1) + bit ∧
    st 256 cur j ((2 * dg 256 cur j + c) % 256) / 256 ^ (j + 1) = R / 256 ^ (j + 1) := by
  have hw : dg 256 cur j = dg 256 R j := by unfold dg; rw [hx]
  have a := accb 256 cur j (dg 256 cur j + c)
  rw [show dg 256 cur j + (dg 256 cur j + c) = 2 * dg 256 cur j + c by omega] at a
  refine ⟨?_, ?_⟩
  · rw [a, mod_succ, Nat.add_mul, hw]
    omega
  · rw [st_div (by decide) (Nat.mod_lt _ (by decide))]; exact div_succb hx
theorem sub_step256 {cur X Y c j d c' : Nat} (h : cur + Y % 256 ^ j = X + c * 256 ^ j) (hd : d + (dg 256 Y j + c) = dg 256 cur j + c' * 256) :
    st 256 cur j d + Y % 256 ^ (j + 1) = X + c' * 256 ^ (j + 1) := by
  have := decb 256 cur j (dg 256 Y j + c) d c' hd
  rw [mod_succ]
  rw [Nat.add_mul] at this
  omega
theorem bit_byte (v i : Nat) : dg 256 v (i / 8) / 2 ^ (i % 8) % 2 = v / 2 ^ i % 2 := by
  unfold dg
  have hj : i = 8 * (i / 8) + i % 8 := by omega
  have hr : i % 8 < 8 := Nat.mod_lt _ (by decide)
  generalize i / 8 = k at *
  generalize i % 8 = r at *
  subst hj
  rw [show (256 : Nat) ^ k = 2 ^ (8 * k) from by rw [show (256 : Nat) = 2 ^ 8 from by decide, ← Nat.pow_mul], Nat.pow_add, ← Nat.div_div_eq_div_mul]
  generalize v / 2 ^ (8 * k) = y
  have h8 : r = 0 ∨ r = 1 ∨ r = 2 ∨ r = 3 ∨ r = 4 ∨ r = 5 ∨ r = 6 ∨ r = 7 := by omega
  rcases h8 with rfl | rfl | rfl | rfl | rfl | rfl | rfl | rfl <;> simp only [Nat.reducePow, Nat.div_one] <;> omega
theorem rest_step (L v i : Nat) : (2 * (v / 2 ^ (i + 1) % L) + v / 2 ^ i % 2) % L = v / 2 ^ i % L := by
  rw [Nat.add_mod, Nat.mul_mod, Nat.mod_mod, ← Nat.mul_mod, ← Nat.add_mod]
  congr 1
  rw [Nat.pow_succ, ← Nat.div_div_eq_div_mul]
  omega
end ScalarNum
namespace Go.Proofs.YteijccjdejjbjaaDoor
open Go.RowKit Go.Shelf ScalarNum

theorem il33_zero : (il 33 0).toArray = #[.int .i64 0, .int .i64 0, .int .i64 0, .int .i64 0, .int .i64 0, .int .i64 0, .int .i64 0, .int .i64 0, .int .i64 0, .int .i64 0, .int .i64 0, .int .i64 0, .int .i64 0, .int .i64 0, .int .i64 0, .int .i64 0, .int .i64 0, .int .i64 0, .int .i64 0, .int .i64 0, .int .i64 0, .int .i64 0, .int .i64 0, .int .i64 0, .int .i64 0, .int .i64 0, .int .i64 0, .int .i64 0, .int .i64 0, .int .i64 0, .int .i64 0, .int .i64 0, .int .i64 0] := by rfl

theorem w64s (q : Nat) (h : q < 256) : wrap64 (q : Int) = (q : Int) := by unfold wrap64; omega
theorem tmods (q : Nat) : (q : Int).tmod 256 = ((q % 256 : Nat) : Int) := by rw [Int.tmod_eq_emod_of_nonneg (by omega)]; omega
theorem tmod2 (q : Nat) : (q : Int).tmod 2 = ((q % 2 : Nat) : Int) := by rw [Int.tmod_eq_emod_of_nonneg (by omega)]; omega
theorem tdivs (q : Nat) : (q : Int).tdiv 256 = ((q / 256 : Nat) : Int) := by rw [Int.tdiv_eq_ediv_of_nonneg (by omega)]; omega
theorem dblb (wd c : Nat) (hw : wd < 256) (hc : c ≤ 1) : 2 * (wd : Int) + (c : Int) = ((2 * wd + c : Nat) : Int) ∧ 2 * wd + c < 512 ∧ (2 * wd + c) / 256 ≤ 1 := by omega

theorem dbl_end {cur c R bit : Nat} (h : cur + c * 256 ^ 33 = R + R % 256 ^ 33 + bit) (hR : R < L) (hR33 : R < 256 ^ 33) (hb : bit < 2) (hc : cur < 256 ^ 33) : cur = 2 * R + bit ∧ 2 * R + bit < 2 * L := by
  rw [Nat.mod_eq_of_lt hR33] at h
  have hL : 2 * L < 256 ^ 33 := by decide
  rcases c with _ | c
  · omega
  · exfalso
    have : 256 ^ 33 ≤ (c + 1) * 256 ^ 33 := Nat.le_mul_of_pos_left _ (by omega)
    omega

theorem sub_end {cur c X : Nat} (h : cur + L % 256 ^ 33 = X + c * 256 ^ 33) (h1 : L ≤ X) (h2 : X < 2 * L) (hc : cur < 256 ^ 33) : cur = X % L := by
  rw [Nat.mod_eq_of_lt (show L < 256 ^ 33 by decide)] at h
  have h3 : X % L = X - L := by
    rw [Nat.mod_eq_sub_mod h1, Nat.mod_eq_of_lt (by omega)]
  have hL : 2 * L < 256 ^ 33 := by decide
  rw [h3]
  rcases c with _ | c
  · omega
  · exfalso
    have : 256 ^ 33 ≤ (c + 1) * 256 ^ 33 := Nat.le_mul_of_pos_left _ (by omega)
    omega
theorem sub_neg {wd ld c : Nat} (h : wd < ld + c) (hw : wd < 256) (hl : ld < 256) (hc : c ≤ 1) : (wd : Int) - (c : Int) - (ld : Int) < 0 ∧ (wd : Int) - (c : Int) - (ld : Int) + 256 = ((wd + 256 - (ld + c) : Nat) : Int) ∧ wd + 256 - (ld + c) < 256 ∧ (wd + 256 - (ld + c)) + (ld + c) = wd + 1 * 256 := by omega
theorem sub_pos {wd ld c : Nat} (h : ¬ wd < ld + c) (hw : wd < 256) (hl : ld < 256) (hc : c ≤ 1) : ¬ (wd : Int) - (c : Int) - (ld : Int) < 0 ∧ (wd : Int) - (c : Int) - (ld : Int) = ((wd - (ld + c) : Nat) : Int) ∧ wd - (ld + c) < 256 ∧ (wd - (ld + c)) + (ld + c) = wd + 0 * 256 := by omega

/-- what the variables of rest hold -/
structure RX (w0 : World) (R : Nat) (wr : World) : Prop where
  t0 : wr.there w0.heap.size 0 32
  rr : wr.rangeAt (w0.heap.size + 1) 0 (il 33 R)
  tr : wr.there (w0.heap.size + 1) 0 33
  gw : Grown w0 wr
theorem RX.set {w0 wr : World} {R j z : Nat} (h : RX w0 R wr) (hz : z < 256) (hj : j < 33) : RX w0 (st 256 R j z) (wr.setCell ⟨w0.heap.size + 1, j, none⟩ (.int .i64 (z : Int))) :=
  ⟨there_setCell h.t0 _ _, irange_set h.rr hz hj, there_setCell h.tr _ _, Grown.setCell h.gw (by show _ ≤ w0.heap.size + 1; omega) _⟩
theorem RX.grown {w0 wr w' : World} {R : Nat} (h : RX w0 R wr) (hg : Grown wr w') : RX w0 R w' :=
  ⟨there_grown h.t0 hg, rangeAt_grown h.rr hg, there_grown h.tr hg, grown_trans h.gw hg⟩

theorem alloc2z (w : World) (t1 t2 : TypeId) (c1 : Array Value) (c2 : List Value) :
    ((w.alloc (.cells c1 t1)).alloc (.cells c2.toArray t2)).there w.heap.size 0 c1.size ∧
    ((w.alloc (.cells c1 t1)).alloc (.cells c2.toArray t2)).rangeAt (w.heap.size + 1) 0 c2 ∧
    ((w.alloc (.cells c1 t1)).alloc (.cells c2.toArray t2)).there (w.heap.size + 1) 0 c2.length ∧
    Grown w ((w.alloc (.cells c1 t1)).alloc (.cells c2.toArray t2)) := by
  have g1 : ∀ (w : World) (t : TypeId) (a : Array Value), Grown w (w.alloc (.cells a t)) := fun w t a => Grown.alloc (Grown.refl _) _ _
  have s1 : (w.alloc (.cells c1 t1)).heap.size = w.heap.size + 1 := by simp
  have b1 := there_alloc_new w t1 c1 c1.size (Nat.le_refl _)
  have gV1 := g1 w t1 c1
  generalize w.alloc (.cells c1 t1) = V1 at *
  have b2 := rangeAt_alloc_new V1 t2 c2
  have b3 := there_alloc_new V1 t2 c2.toArray c2.length (by simp)
  rw [s1] at b2 b3
  exact ⟨there_grown b1 (g1 _ _ _), b2, b3, grown_trans gV1 (g1 _ _ _)⟩

set_option maxRecDepth 100000 in
set_option maxHeartbeats 8000000 in
theorem rest_num (bs n v cap : Nat) (hn : n < 1099511627776) (hv : v < 256 ^ n) (w : World) (hb : w.rangeAt bs 0 (yl n v)) (hO : w.rangeAt 1 0 (yl 32 L)) :
    Calls Tryd.prog 42 #[.slice (some ⟨bs, 0, none⟩) n cap] w fun e w' => e = .returned (yv 32 (v % L)) ∧ Grown w w' := by
  have h0 := alloc2z w 23 79 (yl 32 0).toArray (il 33 0)
  rw [show (yl 32 0).toArray.size = 32 from rfl, show (il 33 0).length = 33 from rfl] at h0
  have HB := Hid.of hb
  have HO := Hid.of hO
  have HV := Hid.of hv
  clear hb hO hv
  have hni : (n : Int) < 1099511627776 := by omega
  go_enter Tryd.func42, Tryd.ntmps42
  go_wp2
  rw [← yl32_zero, ← il33_zero]
  generalize ((w.alloc (Obj.cells (yl 32 0).toArray 23)).alloc (Obj.cells (il 33 0).toArray 79)) = W0 at *
  have H0 := Hid.of (show RX w 0 W0 from ⟨h0.1, h0.2.1, h0.2.2.1, h0.2.2.2⟩)
  clear h0
  go_loopw [4] (fun v4 wr => ∃ k R : Nat, v4 = .int .i64 ((k : Int) - 1) ∧ k ≤ 8 * n ∧ R = v / 2 ^ k % L ∧ RX w R wr) (fun v4 _ => (intOf v4 + 1).toNat)
  case atStart =>
    refine ⟨8 * n, 0, ?_, Nat.le_refl _, ?_, H0.out⟩
    · simp
    · rw [show 2 ^ (8 * n) = 256 ^ n from by rw [Nat.pow_mul], Nat.div_eq_of_lt HV.out, Nat.zero_mod]
  case round =>
    obtain ⟨k, R, rfl, hk, hR, hX⟩ := hrel
    clear H0
    have HX := Hid.of hX
    have HR := Hid.of hR
    have hRL : R < L := by rw [hR]; exact modL_lt _
    clear hX hR
    rcases Nat.eq_zero_or_pos k with rfl | hpos
    · have eR : R = v % L := by rw [HR.out, Nat.pow_zero, Nat.div_one]
      have hRM : R < M := Nat.lt_trans hRL L_lt_M
      have HE := Hid.of eR
      have HRM := Hid.of hRM
      clear HR hRL hk eR hRM
      have h9 : (wr.alloc (Obj.cells (yl 32 0).toArray 23)).rangeAt wr.heap.size 0 (yl 32 0) ∧ (wr.alloc (Obj.cells (yl 32 0).toArray 23)).there wr.heap.size 0 32 ∧ Grown wr (wr.alloc (Obj.cells (yl 32 0).toArray 23)) :=
        ⟨rangeAt_alloc_new wr 23 (yl 32 0), there_alloc_new wr 23 (yl 32 0).toArray 32 (by rw [List.size_toArray, yl_length]; exact Nat.le_refl _), Grown.alloc (Grown.refl _) _ _⟩
      have hlo : w.heap.size + 1 < wr.heap.size := there_lt HX.out.tr (by decide)
      go_wp2
      rw [← yl32_zero]
      have H9 := Hid.of (show RX w R (wr.alloc (Obj.cells (yl 32 0).toArray 23)) ∧ (wr.alloc (Obj.cells (yl 32 0).toArray 23)).rangeAt wr.heap.size 0 (yl 32 (R % 256 ^ 0)) ∧ (wr.alloc (Obj.cells (yl 32 0).toArray 23)).there wr.heap.size 0 32 from ⟨HX.out.grown h9.2.2, by rw [Nat.pow_zero, Nat.mod_one]; exact h9.1, h9.2.1⟩)
      clear h9 HX
      generalize wr.heap.size = bo at *
      generalize wr.alloc (Obj.cells (yl 32 0).toArray 23) = W9 at *
      go_loopw [13] (fun v13 wr => ∃ j : Nat, v13 = .int .i64 (j : Int) ∧ j ≤ 32 ∧ RX w R wr ∧ wr.rangeAt bo 0 (yl 32 (R % 256 ^ j)) ∧ wr.there bo 0 32) (fun v13 _ => 32 - (intOf v13).toNat)
      case atStart => exact ⟨0, rfl, by decide, H9.out⟩
      case round =>
        obtain ⟨j, rfl, hj, hX, hro, hto⟩ := hrel
        clear H9
        by_cases hjt : j < 32
        · have d1 : wr.cell? ⟨w.heap.size + 1, j, none⟩ = some (.int .i64 (dg 256 R j : Nat)) := by
            have := hX.rr j _ (il_get 33 R j (by omega)); rwa [Nat.zero_add] at this
          have d2 : wr.frozen? ⟨bo, j, none⟩ = false := by
            have := (hto j hjt).2; rwa [Nat.zero_add] at this
          have d3 := hro j _ (yl_get 32 _ j hjt)
          rw [Nat.zero_add] at d3
          generalize (Value.int IntKind.u8 (dg 256 (R % 256 ^ j) j : Nat)) = u0 at d3
          have hl2 := by_step R j
          have hw : dg 256 R j < 256 := dg_lt (by decide)
          generalize dg 256 R j = wd at *
          have hwi : (wd : Int) < 256 := Int.ofNat_lt.2 hw
          have b2 : (j : Int) < 32 := Int.ofNat_lt.2 hjt
          have HY := Hid.of (And.intro hl2 (And.intro hX (And.intro hro hto)))
          clear hl2 hX hro hto
          go_wp2
          try rw [show ((wd : Int) % 256) = (wd : Int) from by omega]
          go_roundw
          case rel =>
            obtain ⟨hl2, hX, hro, hto⟩ := HY.out
            have r1 := yrange_set hro hw hjt
            rw [hl2] at r1
            exact ⟨j + 1, by go_num, by omega, ⟨there_setCell hX.t0 _ _, range_put hX.rr _ _ (by omega) _, there_setCell hX.tr _ _, Grown.setCell hX.gw (by show _ ≤ bo; omega) _⟩, r1, there_setCell hto _ _⟩
          case measure => simp [intOf]; omega
        · have hj3 : j = 32 := by omega
          subst hj3
          rw [show (256 : Nat) ^ 32 = M from by decide, Nat.mod_eq_of_lt HRM.out, HE.out] at hro
          have HY := Hid.of (And.intro hro (And.intro hX.t0 hX.gw))
          clear hro hX hto hj hjt
          go_wp2_with (with_reducible show wpList _ _ _ ({ dst := _, op := Op.load 23 _, type := _, pos := _, after := _, guard := _ } :: _) _ _; refine Shut.out ?_)
          show wpList _ _ _ _ _ _
          refine wpList_load32 rfl _ rfl (bo) rfl (v % L) (HY.out.1) ?_
          simp only [Act.put, List.setIfInBounds_toArray, List.set_cons_zero, List.set_cons_succ]
          refine wpList_store32 rfl _ _ rfl (w.heap.size) (v % L) rfl rfl (HY.out.2.1) ?_
          simp only [Act.put]
          apply wpList_nil
          repeat go_step
          refine bodyPost_ret (v := yv 32 (v % L)) (result32 Tryd.results42 _ _ (w.heap.size) _ ?hp (World.rangeAt_setCells_same _ _ _ _ (by rw [yl_length]; exact HY.out.2.1))) ?hd ?_
          case hp => rfl
          case hd => rfl
          exact ⟨rfl, grown_setCells (by omega) _ _ (HY.out.2.2)⟩
    · obtain ⟨i, rfl⟩ : ∃ i, k = i + 1 := ⟨k - 1, by omega⟩
      have ei : ((i + 1 : Nat) : Int) - 1 = (i : Int) := by omega
      rw [ei]
      clear ei
      have b1 : (i : Int) < 8 * (n : Int) := by omega
      have c1 : wr.cell? ⟨bs, i / 8, none⟩ = some (.int .u8 (dg 256 v (i / 8) : Nat)) := by
        have := rangeAt_grown HB.out HX.out.gw (i / 8) _ (yl_get n v (i / 8) (by omega)); rwa [Nat.zero_add] at this
      have hbb := bit_byte v i
      have hst := rest_step L v i
      have hd8 : dg 256 v (i / 8) < 256 := dg_lt (by decide)
      generalize dg 256 v (i / 8) = bt at *
      have hbit : v / 2 ^ i % 2 < 2 := Nat.mod_lt _ (by decide)
      have hq8 : bt / 2 ^ (i % 8) < 256 := Nat.lt_of_le_of_lt (Nat.div_le_self _ _) hd8
      have eq1 : (bt : Int) / 2 ^ (i % 8) = ((bt / 2 ^ (i % 8) : Nat) : Int) := by simp
      generalize bt / 2 ^ (i % 8) = q at *
      have eq2 := w64s q hq8
      have eq3 : (q : Int).tmod 2 = ((v / 2 ^ i % 2 : Nat) : Int) := by rw [← hbb]; exact tmod2 q
      rw [← HR.out] at hst
      have HST := Hid.of hst
      clear hbb hst HR hq8
      generalize v / 2 ^ i % 2 = bit at *
      go_wp2
      clear eq1 eq2 eq3 c1
      have hRM : R < 256 ^ 33 := Nat.lt_trans hRL (by decide)
      have HRL := Hid.of (And.intro hRL hRM)
      clear hRL hRM
      go_loopw [5, 6] (fun v5 v6 wr => ∃ j cur c : Nat, v6 = .int .i64 (j : Int) ∧ v5 = .int .i64 (c : Int) ∧ j ≤ 33 ∧ cur + c * 256 ^ j = R + R % 256 ^ j + bit ∧ cur / 256 ^ j = R / 256 ^ j ∧ c ≤ 1 ∧ cur < 256 ^ 33 ∧ RX w cur wr) (fun _ v6 _ => 33 - (intOf v6).toNat)
      case atStart => exact ⟨0, R, bit, rfl, rfl, by decide, by rw [Nat.pow_zero, Nat.mod_one, Nat.mul_one, Nat.add_zero], rfl, Nat.le_of_lt_succ hbit, HRL.out.2, HX.out⟩
      case round =>
        obtain ⟨j, cur, c, rfl, rfl, hj, he, hdv, hc, hcur, hX2⟩ := hrel
        clear HX
        by_cases hjt : j < 33
        · have d1 : wr.cell? ⟨w.heap.size + 1, j, none⟩ = some (.int .i64 (dg 256 cur j : Nat)) := by
            have := hX2.rr j _ (il_get 33 cur j hjt); rwa [Nat.zero_add] at this
          have d2 : wr.frozen? ⟨w.heap.size + 1, j, none⟩ = false := by
            have := (hX2.tr j hjt).2; rwa [Nat.zero_add] at this
          obtain ⟨s1, s2⟩ := dbl_step he hdv
          have hw : dg 256 cur j < 256 := dg_lt (by decide)
          have hst2 := st_lt (b := 256) (n := 33) (v := cur) (k := j) (z := (2 * dg 256 cur j + c) % 256) (by decide) (Nat.mod_lt _ (by decide)) hjt hcur
          generalize dg 256 cur j = wd at *
          obtain ⟨es, hs2, q3⟩ := dblb wd c hw hc
          generalize 2 * wd + c = s at *
          have q1 := tmods s
          have q2 := tdivs s
          have b2 : (j : Int) < 33 := Int.ofNat_lt.2 hjt
          have HY := Hid.of (And.intro s1 (And.intro s2 (And.intro q3 (And.intro hst2 hX2))))
          clear s1 s2 hst2 hX2 he hdv hcur
          go_wp2
          go_roundw
          case rel =>
            obtain ⟨s1, s2, q3, hst2, hX2⟩ := HY.out
            refine ⟨j + 1, st 256 cur j (s % 256), s / 256, by go_num, by simp, by omega, s1, s2, q3, hst2, ?_⟩
            have h := hX2.set (z := s % 256) (Nat.mod_lt _ (by decide)) hjt
            rw [show ((s % 256 : Nat) : Int) = (s : Int) % 256 from by simp] at h
            exact h
          case measure => simp [intOf]; omega
        · have hj3 : j = 33 := by omega
          subst hj3
          obtain ⟨ec, hXL2⟩ := dbl_end he HRL.out.1 HRL.out.2 hbit hcur
          subst ec
          have HX2 := Hid.of hX2
          have hX33 := Hid.of hcur
          clear hX2 he hdv hc hcur hj hjt
          go_wp2_with (with_reducible show wpList _ _ _ ({ dst := _, op := Op.load 79 _, type := _, pos := _, after := _, guard := _ } :: _) _ _; refine Shut.out ?_)
          show wpList _ _ _ _ _ _
          refine wpList_load33 rfl _ rfl (w.heap.size + 1) rfl (2 * R + bit) HX2.out.rr ?_
          simp only [Act.put, List.setIfInBounds_toArray, List.set_cons_zero, List.set_cons_succ]
          refine wpList_load32 rfl _ rfl 1 rfl L (rangeAt_grown HO.out HX2.out.gw) ?_
          simp only [Act.put, List.setIfInBounds_toArray, List.set_cons_zero, List.set_cons_succ]
          go_wp2_with fail
          refine Calls.mono (below_num (2 * R + bit) L hX33.out L_lt_M _) ?_
          rintro e w1 ⟨rfl, g1⟩
          have HX3 := Hid.of (HX2.out.grown g1)
          clear HX2 g1
          dsimp only
          by_cases hsm : 2 * R + bit < L
          · rw [decide_eq_true hsm]
            have hnew := Hid.of (show 2 * R + bit = v / 2 ^ i % L by rw [← HST.out, Nat.mod_eq_of_lt hsm])
            clear HST hX33 hsm
            go_wp2
            go_roundw
            case rel => exact ⟨i, 2 * R + bit, rfl, by omega, hnew.out, HX3.out⟩
            case measure => simp [intOf]
          · rw [decide_eq_false hsm]
            generalize 2 * R + bit = X at *
            have HXL := Hid.of (And.intro (Nat.le_of_not_lt hsm) hXL2)
            clear hsm hXL2 hbit
            go_wp2
            go_loopw [9, 10] (fun v9 v10 wr => ∃ j cur c : Nat, v10 = .int .i64 (j : Int) ∧ v9 = .int .i64 (c : Int) ∧ j ≤ 33 ∧ cur + L % 256 ^ j = X + c * 256 ^ j ∧ c ≤ 1 ∧ cur < 256 ^ 33 ∧ RX w cur wr) (fun _ v10 _ => 33 - (intOf v10).toNat)
            case atStart => exact ⟨0, X, 0, rfl, rfl, by decide, by rw [Nat.pow_zero, Nat.mod_one, Nat.zero_mul], by decide, hX33.out, HX3.out⟩
            case round =>
              obtain ⟨j, cur, c, rfl, rfl, hj, he, hc, hcur, hX2⟩ := hrel
              clear HX3 hX33
              by_cases hjt : j < 33
              · have d1 : wr.cell? ⟨w.heap.size + 1, j, none⟩ = some (.int .i64 (dg 256 cur j : Nat)) := by
                  have := hX2.rr j _ (il_get 33 cur j hjt); rwa [Nat.zero_add] at this
                have d2 : wr.frozen? ⟨w.heap.size + 1, j, none⟩ = false := by
                  have := (hX2.tr j hjt).2; rwa [Nat.zero_add] at this
                have hw : dg 256 cur j < 256 := dg_lt (by decide)
                have hl : dg 256 L j < 256 := dg_lt (by decide)
                have hsb := fun d c' (hd : d + (dg 256 L j + c) = dg 256 cur j + c' * 256) => sub_step256 he hd
                have hst2 := fun z (hz : z < 256) => st_lt (b := 256) (n := 33) (v := cur) (k := j) (z := z) (by decide) hz hjt hcur
                have hset := fun z (hz : z < 256) => hX2.set hz hjt
                have HS := Hid.of (And.intro hsb (And.intro hst2 hset))
                have b2 : (j : Int) < 33 := Int.ofNat_lt.2 hjt
                by_cases hj2 : j < 32
                · have d3 : wr.cell? ⟨1, j, none⟩ = some (.int .u8 (dg 256 L j : Nat)) := by
                    have := rangeAt_grown HO.out hX2.gw j _ (yl_get 32 L j hj2); rwa [Nat.zero_add] at this
                  have b3 : (j : Int) < 32 := Int.ofNat_lt.2 hj2
                  clear hsb hst2 hset he hcur hX2
                  generalize dg 256 L j = ld at *
                  generalize dg 256 cur j = wd at *
                  have e1 := w64s ld hl
                  by_cases hlt : wd < ld + c
                  · obtain ⟨t1, t2, t3, t4⟩ := sub_neg hlt hw hl hc
                    generalize wd + 256 - (ld + c) = d at *
                    go_wp2
                    go_roundw
                    case rel =>
                      obtain ⟨hsb, hst2, hset⟩ := HS.out
                      exact ⟨j + 1, st 256 cur j d, 1, by go_num, rfl, by omega, hsb d 1 t4, by decide, hst2 d t3, hset d t3⟩
                    case measure => simp [intOf]; omega
                  · obtain ⟨t1, t2, t3, t4⟩ := sub_pos hlt hw hl hc
                    generalize wd - (ld + c) = d at *
                    have T4 := Hid.of t4
                    have T2 := Hid.of t2
                    clear t2 t4 hlt
                    go_wp2
                    go_roundw
                    case rel =>
                      obtain ⟨hsb, hst2, hset⟩ := HS.out
                      exact ⟨j + 1, st 256 cur j d, 0, by go_num, rfl, by omega, hsb d 0 T4.out, by decide, hst2 d t3, by rw [T2.out]; exact hset d t3⟩
                    case measure => simp [intOf]; omega
                · have hj3 : j = 32 := by omega
                  subst hj3
                  have hl0 : dg 256 L 32 = 0 := by decide
                  clear hsb hst2 hset he hcur hX2
                  rw [hl0] at HS
                  generalize dg 256 cur 32 = wd at *
                  by_cases hlt : wd < 0 + c
                  · obtain ⟨t1, t2, t3, t4⟩ := sub_neg hlt hw (by decide) hc
                    generalize wd + 256 - (0 + c) = d at *
                    rw [show (((0 : Nat) : Int)) = 0 from rfl, Int.sub_zero] at t1 t2
                    go_wp2
                    go_roundw
                    case rel =>
                      obtain ⟨hsb, hst2, hset⟩ := HS.out
                      exact ⟨33, st 256 cur 32 d, 1, rfl, rfl, by omega, hsb d 1 t4, by decide, hst2 d t3, hset d t3⟩
                    case measure => simp [intOf]
                  · obtain ⟨t1, t2, t3, t4⟩ := sub_pos hlt hw (by decide) hc
                    generalize wd - (0 + c) = d at *
                    rw [show (((0 : Nat) : Int)) = 0 from rfl, Int.sub_zero] at t1 t2
                    have T4 := Hid.of t4
                    have T2 := Hid.of t2
                    clear t2 t4 hlt
                    go_wp2
                    go_roundw
                    case rel =>
                      obtain ⟨hsb, hst2, hset⟩ := HS.out
                      exact ⟨33, st 256 cur 32 d, 0, rfl, rfl, by omega, hsb d 0 T4.out, by decide, hst2 d t3, by rw [T2.out]; exact hset d t3⟩
                    case measure => simp [intOf]
              · have hj3 : j = 33 := by omega
                subst hj3
                have ec := sub_end he HXL.out.1 HXL.out.2 hcur
                have hnew := Hid.of (show cur = v / 2 ^ i % L by rw [← HST.out]; exact ec)
                have HX4 := Hid.of hX2
                clear HST HXL he hc hcur hX2 ec hj hjt
                go_wp2
                go_roundw
                case rel => exact ⟨i, cur, rfl, by omega, hnew.out, HX4.out⟩
                case measure => simp [intOf]
end Go.Proofs.YteijccjdejjbjaaDoor
namespace Go.Proofs.YteijccjdejjbjaaDoor
open Go.RowKit Go.Shelf ScalarNum

theorem frozen_drew (w : World) (a : Addr) : w.drew.frozen? a = w.frozen? a := rfl
theorem frozen_setRow {w : World} {g : Nat} {cur : Array Value} {e : TypeId} (hg : w.heap[g]? = some (.cells cur e (0, 0))) (cs : Array Value) (a : Addr) : (w.setRow g cs).frozen? a = w.frozen? a := by
  by_cases h : a.block = g
  · have e1 : (w.setRow g cs).heap[a.block]? = some (.cells cs e (0, 0)) := by rw [h]; exact setRow_heap w g cur _ e _ hg
    have e2 : w.heap[a.block]? = some (.cells cur e (0, 0)) := by rw [h]; exact hg
    simp [World.frozen?, e1, e2]
  · have e1 : (w.setRow g cs).heap[a.block]? = w.heap[a.block]? := setRow_other w g a.block _ h
    simp [World.frozen?, e1]

/-- one element of one cell and one byte is appended to a slice of one's own: nothing is frozen by it -/
theorem append_one {w : World} {base : Nat} {t e ty : TypeId} {i : TypeInfo} {z : Value} (ht : Tryd.prog.underlying t = some (.slice e)) (hi : Tryd.prog.info? e = some i) (hz : i.zero = some z)
    (hsize : i.size = 1) (hby : i.bytes = 1) (hzs : z.cells.size = 1)
    {v : Value} {n : Nat} {xs : List Value} (hown : w.ownsRow base e 1 v n xs) (ad : Addr) (c : Nat) (u : Value) (hu : w.cell? (ad.add 0) = some u) (h1 : u.oneCell' = true)
    (hn : n < 1099511627776) (hbase : base ≤ w.heap.size) :
    ∃ v' w', (Builtin.append_ #[t, t] ty #[v, .slice (some ad) 1 c]).run Tryd.prog w = .ok v' w' ∧ w'.ownsRow base e 1 v' (n + 1) (xs ++ [u]) ∧ w.grownBy w' v.ownBlock ∧ (∃ g cap, v' = .slice (some ⟨g, 0, none⟩) (n + 1) cap) ∧ ∀ a, w'.frozen? a = w.frozen? a := by
  have hnews : ∀ j x, [u][j]? = some x → w.cell? (ad.add j) = some x := by
    intro j x hx
    match j, hx with
    | 0, hx => simp at hx; subst hx; exact hu
  have hone : ∀ x ∈ [u], x.oneCell' = true := by intro x hx; simp at hx; subst hx; exact h1
  have h63 : n + 1 ≤ maxLen := by unfold maxLen; omega
  obtain ⟨v', w', hr, ho, hg, hiff⟩ := run_append_own (P := Tryd.prog) w base t ty e i z 1 1 ht hi hz hsize hby hzs (by decide) v n xs hown ad 1 c [u] (by simp) hnews hone h63 (by omega) hbase
  refine ⟨v', w', hr, ho, hg, ?_, ?_⟩
  · rcases ho.2 with ⟨_, h⟩ | ⟨g, cap, _, h, _⟩
    · omega
    · exact ⟨g, cap, h⟩
  · rcases hown.2 with ⟨rfl, rfl⟩ | ⟨g, cap, cur, rfl, hbg, hgg, hnc, hcm, hcs, htake⟩
    · have h2 := run_append_nil (P := Tryd.prog) w t ty e i z ht hi hz ad 1 c [u] (by simp [hsize]) hnews (by decide) (by decide) (by rw [hby]; decide)
      rw [h2] at hr
      injection hr with _ hw
      subst hw
      intro a
      rw [frozen?_alloc_cells]; rfl
    · by_cases hroom : n + 1 ≤ cap
      · have h2 := run_append_room (P := Tryd.prog) w t ty e i ht hi g n cap cur hgg ad 1 c [u] (by simp [hsize]) hnews hone hroom (by rw [hsize, hcs]; simp; omega)
        rw [h2] at hr
        injection hr with _ hw
        subst hw
        intro a
        exact frozen_setRow hgg _ a
      · have holds : ∀ j x, xs[j]? = some x → w.cell? ((⟨g, 0, none⟩ : Addr).add j) = some x := hown.cells (g := g) rfl
        have h2 := run_append_grow (P := Tryd.prog) w t ty e i z ht hi hz ⟨g, 0, none⟩ n cap xs (by rw [hsize]; exact hown.1) holds ad 1 c [u] (by simp [hsize]) hnews (by omega) (by omega) (growslice_fits (by omega) (by rw [hby]; omega))
        rw [h2] at hr
        injection hr with _ hw
        subst hw
        intro a
        rw [frozen?_alloc_cells]; rfl

theorem grown_by {w0 w w' : World} {row : Option Nat} (h0 : Grown w0 w) (hg : w.grownBy w' row) (hr : ∀ k, row = some k → w0.heap.size ≤ k) (hf : ∀ a, w'.frozen? a = w.frozen? a) : Grown w0 w' := by
  refine ⟨⟨hg.os.trans h0.1.1, hg.output.trans h0.1.2.1, fun i hi => ?_⟩, fun a => (hf a).trans (h0.2.1 a), Nat.le_trans h0.2.2 hg.size⟩
  rw [hg.block i (Nat.lt_of_lt_of_le hi h0.2.2) (fun e => by have := hr i e.symm; omega)]
  exact h0.1.2.2 i hi

/-- what a slice of one's own holds -/
theorem owns_range {w : World} {base : Nat} {e : TypeId} {n : Nat} {xs : List Value} {g cap : Nat} (h : w.ownsRow base e 1 (.slice (some ⟨g, 0, none⟩) n cap) n xs) : w.rangeAt g 0 xs := by
  intro j u hj
  have := h.cells (g := g) rfl j u hj
  rw [Addr.add_lit] at this
  exact this

/-- the step, with what has grown since W0 -/
theorem wpList_append_one {ops : Array Oper} {rest : List Oper} {o : Oper} {a : Act} {w W0 : World} {Q : Exit → Act → World → Prop} (hgd : o.guard = none) (s x : Operand) {t e : TypeId} {i : TypeInfo} {z : Value}
    (ho : o.op = .call { callee := .builtin .append, args := #[s, x], argTypes := #[t, t] })
    (ht : Tryd.prog.underlying t = some (.slice e)) (hi : Tryd.prog.info? e = some i) (hz : i.zero = some z) (hsize : i.size = 1) (hby : i.bytes = 1) (hzs : z.cells.size = 1)
    (v : Value) (n : Nat) (xs : List Value) (hs : a.eval s = v) (hown : w.ownsRow W0.heap.size e 1 v n xs) (ad : Addr) (c : Nat) (u : Value) (hx : a.eval x = .slice (some ad) 1 c) (hu : w.cell? (ad.add 0) = some u) (h1 : u.oneCell' = true)
    (hn : n < 1099511627776) (hg : Grown W0 w)
    (h : ∀ v' w', w'.ownsRow W0.heap.size e 1 v' (n + 1) (xs ++ [u]) → w.grownBy w' v.ownBlock → (∃ g cap, v' = .slice (some ⟨g, 0, none⟩) (n + 1) cap) → Grown W0 w' → wpList Tryd.prog ops Q rest (a.put o.dst v') w') : wpList Tryd.prog ops Q (o :: rest) a w := by
  refine wpList_plain hgd fun K hK => ?_
  obtain ⟨v', w', hr, h2, h3, h4, h5⟩ := append_one (ty := o.type) ht hi hz hsize hby hzs hown ad c u hu h1 hn hg.2.2
  unfold Oper.wp execOp
  simp only [ho, resolve, invoke, builtin, Sem.run_bind, Sem.run_pure, Result.andThen_ok, List.map_toArray, List.map_cons, List.map_nil, hs, hx, hr]
  exact hK _ _ (h v' w' h2 h3 h4 (grown_by hg h3 (fun k hk => (hown.lt k hk).1) h5))
end Go.Proofs.YteijccjdejjbjaaDoor
