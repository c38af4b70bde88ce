import Derived.Test.YtfnbodpbdfeiiaaDoorEng
import Derived.Deep.WholeRow
namespace Go.Proofs.YtfnbodpbdfeiiaaDoor
open Go.RowKit Go.Shelf FieldNum

/-- the answers, under names -/
def fadd (x y : Nat) : Nat := (x + y) % p
def fmul (x y : Nat) : Nat := x * y % p
def fred (x : Nat) : Nat := x % p
theorem fadd_lt (x y : Nat) : fadd x y < M := mod_lt256 _
theorem fmul_lt (x y : Nat) : fmul x y < M := mod_lt256 _
theorem fred_lt (x : Nat) : fred x < M := mod_lt256 _
theorem fsb_lt (x y : Nat) : sb x y < M := lt256 (sb_lt _ _)
theorem fng_lt (x : Nat) : ng x < M := lt256 (ng_lt _)
theorem Add_f (x y : Nat) (hx : x < M) (hy : y < M) (w : World) : Calls Tryd.prog 20 #[bv x, bv y] w fun e w' => e = .returned (bv (fadd x y)) ∧ Grown w w' := Add_any x y hx hy w
theorem Mul_f (x y : Nat) (hx : x < M) (hy : y < M) (w : World) : Calls Tryd.prog 11 #[bv x, bv y] w fun e w' => e = .returned (bv (fmul x y)) ∧ Grown w w' := Mul_any x y hx hy w
theorem Square_f (x : Nat) (hx : x < M) (w : World) : Calls Tryd.prog 12 #[bv x] w fun e w' => e = .returned (bv (fmul x x)) ∧ Grown w w' := Square_any x hx w
theorem Reduce_f (x : Nat) (hx : x < M) (w : World) : Calls Tryd.prog 10 #[bv x] w fun e w' => e = .returned (bv (fred x)) ∧ Grown w w' := Reduce_any x hx w

theorem zero32 : (∀ w, (zeroValue 22).run Tryd.prog w = .ok (bv 0) w) ∧ (Tryd.prog.info? 22).map (·.size) = some 32 :=
  zero_of_info (P := Tryd.prog) (t := 22) (v := bv 0) (n := 32) (by kernel_rfl)

section
variable {ops : Array Oper} {Q : Exit → Act → World → Prop} {md : Region.Mode} {S : World → Prop} {fuel : Nat} {listed : Array Bool} {a : Act} {w : World}

theorem run_alloc32 (w : World) (old : Value) : (Instr.alloc 22 true old).run Tryd.prog w = .ok (.pointer (some ⟨w.heap.size, 0, none⟩)) (w.alloc (.cells (bl 0).toArray 22)) := by
  have h1 := zero32.1
  unfold bv at h1
  have hi := info32
  simp [Instr.alloc, h1, go_sem]

/-- a new variable in a region that draws -/
theorem alloc_op {o : Oper} {K : Act → World → Prop} (ho : o.op = .alloc 22) (hw : Region.wanted o (yielded ops a.tmps) = true)
    (h : ∀ w2, Grown w w2 → w2.there w.heap.size 0 32 → K (a.put o.dst (.pointer (some ⟨w.heap.size, 0, none⟩))) w2) :
    if Region.wanted o (yielded ops a.tmps) = true then Oper.wp Tryd.prog o a w K Q else K (a.put o.dst undef) w := by
  rw [if_pos hw]
  unfold Oper.wp execOp
  simp only [ho, Sem.run_bind, run_alloc32, Result.andThen_ok, Sem.run_pure]
  exact h _ (Grown.alloc (Grown.refl _) _ _) (there_alloc_new w 22 _ 32 (by simp [bl_length]))

/-- a store into a new variable, in a region that draws -/
theorem store_op {o : Oper} {K : Act → World → Prop} {W0 : World} (n : Nat) {x y : Operand} (ho : o.op = .store 22 x y) (hw : Region.wanted o (yielded ops a.tmps) = true)
    (hx : a.eval x = .pointer (some ⟨W0.heap.size, 0, none⟩)) (hy : a.eval y = bv n) (ht : w.there W0.heap.size 0 32) (hA : Grown W0 w)
    (h : ∀ w2, Grown W0 w2 → w2.rangeAt W0.heap.size 0 (bl n) → K (a.put o.dst undef) w2) :
    if Region.wanted o (yielded ops a.tmps) = true then Oper.wp Tryd.prog o a w K Q else K (a.put o.dst undef) w :=
  store32 n W0.heap.size ho hw hx hy ht (h _ (grown_setCells (Nat.le_refl _) _ _ hA) (World.rangeAt_setCells_same _ _ _ _ (by rw [bl_length]; exact ht)))

/-- two operations may come up -/
theorem step2 (i j : Nat) {o o' : Oper} (hr : Region.ready md ops listed = [i, j]) (hi : ops.toList[i]? = some o) (hj : ops.toList[j]? = some o')
    (h : ∀ K' : Act → World → Prop, Shut (∀ a w, S w → (S w → wpAnyH Tryd.prog md ops Q S fuel (listed.setIfInBounds i true) a w) → K' a w) → if Region.wanted o (yielded ops a.tmps) = true then Oper.wp Tryd.prog o a w K' Q else K' (a.put o.dst undef) w)
    (h' : ∀ K' : Act → World → Prop, Shut (∀ a w, S w → (S w → wpAnyH Tryd.prog md ops Q S fuel (listed.setIfInBounds j true) a w) → K' a w) → if Region.wanted o' (yielded ops a.tmps) = true then Oper.wp Tryd.prog o' a w K' Q else K' (a.put o'.dst undef) w) :
    wpAnyH Tryd.prog md ops Q S (fuel + 1) listed a w :=
  wpAnyH_ready hr (by simp) (AllReadyH.cons (by rw [← Array.getElem?_toList]; exact hi) h (AllReadyH.cons (by rw [← Array.getElem?_toList]; exact hj) h' AllReadyH.nil))
end
end Go.Proofs.YtfnbodpbdfeiiaaDoor
