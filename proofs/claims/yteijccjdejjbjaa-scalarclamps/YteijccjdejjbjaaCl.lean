import Derived.Test.YteijccjdejjbjaaEng
import Derived.Deep.DeepCutAuto
namespace Go.Proofs.Yteijccjdejjbjaa
open Go.RowKit Go.Shelf ScalarNum

theorem yl32_zero : (yl 32 0).toArray = #[.int .u8 0, .int .u8 0, .int .u8 0, .int .u8 0, .int .u8 0, .int .u8 0, .int .u8 0, .int .u8 0, .int .u8 0, .int .u8 0, .int .u8 0, .int .u8 0, .int .u8 0, .int .u8 0, .int .u8 0, .int .u8 0, .int .u8 0, .int .u8 0, .int .u8 0, .int .u8 0, .int .u8 0, .int .u8 0, .int .u8 0, .int .u8 0, .int .u8 0, .int .u8 0, .int .u8 0, .int .u8 0, .int .u8 0, .int .u8 0, .int .u8 0, .int .u8 0] := by rfl

theorem alloc2 (w : World) (t1 t2 : TypeId) (cs : List Value) (c2 : Array Value) :
    ((w.alloc (.cells cs.toArray t1)).alloc (.cells c2 t2)).rangeAt w.heap.size 0 cs ∧
    ((w.alloc (.cells cs.toArray t1)).alloc (.cells c2 t2)).there w.heap.size 0 cs.length ∧
    ((w.alloc (.cells cs.toArray t1)).alloc (.cells c2 t2)).there (w.heap.size + 1) 0 c2.size ∧
    Grown w ((w.alloc (.cells cs.toArray t1)).alloc (.cells c2 t2)) := by
  have g1 : ∀ (w : World) (t : TypeId) (a : Array Value), Grown w (w.alloc (.cells a t)) := fun w t a => Grown.alloc (Grown.refl _) _ _
  have s1 : (w.alloc (.cells cs.toArray t1)).heap.size = w.heap.size + 1 := by simp
  have b1 := rangeAt_alloc_new w t1 cs
  have b0 := there_alloc_new w t1 cs.toArray cs.length (by simp)
  have gV1 := g1 w t1 cs.toArray
  generalize w.alloc (.cells cs.toArray t1) = V1 at *
  have b2 := there_alloc_new V1 t2 c2 c2.size (Nat.le_refl _)
  rw [s1] at b2
  exact ⟨rangeAt_grown b1 (g1 _ _ _), there_grown b0 (g1 _ _ _), b2, grown_trans gV1 (g1 _ _ _)⟩

theorem and248 : ∀ d : Nat, d < 256 → bits .and .u8 (d : Int) 248 = ((d / 8 * 8 : Nat) : Int) := by decide +kernel
theorem and63 : ∀ d : Nat, d < 256 → bits .and .u8 (d : Int) 63 = ((d % 64 : Nat) : Int) := by decide +kernel
theorem or64 : ∀ d : Nat, d < 64 → bits .or .u8 (d : Int) 64 = ((d + 64 : Nat) : Int) := by decide +kernel

/-- what Clamp answers -/
def cl (x : Nat) : Nat := st 256 (st 256 x 0 (dg 256 x 0 / 8 * 8)) 31 (dg 256 x 31 % 64 + 64)
theorem cl_lt {x : Nat} (hx : x < M) : cl x < M := by
  have e : M = 256 ^ 32 := by decide
  rw [e] at hx ⊢
  have h0 : dg 256 x 0 < 256 := dg_lt (by decide)
  have h1 : dg 256 x 31 % 64 < 64 := Nat.mod_lt _ (by decide)
  exact st_lt (by decide) (by omega) (by decide) (st_lt (by decide) (by omega) (by decide) hx)
theorem cl_0 (x : Nat) : dg 256 (cl x) 0 = dg 256 x 0 / 8 * 8 := by
  have h0 : dg 256 x 0 < 256 := dg_lt (by decide)
  have h1 : dg 256 x 31 % 64 < 64 := Nat.mod_lt _ (by decide)
  unfold cl
  rw [st_other (by decide) (by omega) (by decide), st_same (by decide) (by omega)]
theorem cl_31 (x : Nat) : dg 256 (cl x) 31 = dg 256 x 31 % 64 + 64 := by
  have h1 : dg 256 x 31 % 64 < 64 := Nat.mod_lt _ (by decide)
  unfold cl
  rw [st_same (by decide) (by omega)]
theorem cl_mid (x i : Nat) (h0 : i ≠ 0) (h1 : i ≠ 31) : dg 256 (cl x) i = dg 256 x i := by
  have q0 : dg 256 x 0 < 256 := dg_lt (by decide)
  have q1 : dg 256 x 31 % 64 < 64 := Nat.mod_lt _ (by decide)
  unfold cl
  rw [st_other (by decide) (by omega) h1, st_other (by decide) (by omega) h0]
theorem cl_cl (x : Nat) (hx : x < M) : cl (cl x) = cl x := by
  have e : M = 256 ^ 32 := by decide
  have h : ∀ i, i < 32 → dg 256 (cl (cl x)) i = dg 256 (cl x) i := by
    intro i _
    by_cases h0 : i = 0
    · subst h0; rw [cl_0, cl_0]; omega
    · by_cases h1 : i = 31
      · subst h1; rw [cl_31, cl_31]; omega
      · rw [cl_mid _ _ h0 h1]
  have := ds_inj h
  rw [← e, Nat.mod_eq_of_lt (cl_lt (cl_lt hx)), Nat.mod_eq_of_lt (cl_lt hx)] at this
  exact this

set_option maxRecDepth 100000 in
set_option maxHeartbeats 1000000 in
theorem Clamp_num (x : Nat) (w : World) : Calls Try.prog 6 #[yv 32 x] w fun e w' => e = .returned (yv 32 (cl x)) ∧ Grown w w' := by
  have h0 := alloc2 w 22 22 (yl 32 x) (yl 32 0).toArray
  rw [show (yl 32 0).toArray.size = 32 from rfl, yl_length] at h0
  rw [yv]
  go_enter Try.func6, Try.ntmps6
  go_upto_region 1 with (fail)
  rw [← yl32_zero]
  generalize ((w.alloc (.cells (yl 32 x).toArray 22)).alloc (.cells (yl 32 0).toArray 22)) = W0 at *
  obtain ⟨r0, t0, t1, g0⟩ := h0
  have d0 : W0.cell? ⟨w.heap.size, 0, none⟩ = some (.int .u8 (dg 256 x 0 : Nat)) := r0 0 _ (yl_get 32 x 0 (by decide))
  have d1 : W0.cell? ⟨w.heap.size, 31, none⟩ = some (.int .u8 (dg 256 x 31 : Nat)) := r0 31 _ (yl_get 32 x 31 (by decide))
  have f0 : W0.frozen? ⟨w.heap.size, 0, none⟩ = false := (t0 0 (by decide)).2
  have f1 : W0.frozen? ⟨w.heap.size, 31, none⟩ = false := (t0 31 (by decide)).2
  have q0 : dg 256 x 0 < 256 := dg_lt (by decide)
  have q1 : dg 256 x 31 < 256 := dg_lt (by decide)
  have e0 := and248 _ q0
  have e1 := and63 _ q1
  have e2 := or64 (dg 256 x 31 % 64) (Nat.mod_lt _ (by decide))
  have z0 : dg 256 x 0 / 8 * 8 < 256 := by omega
  have z1 : dg 256 x 31 % 64 + 64 < 256 := by omega
  have hr : ((W0.setCell ⟨w.heap.size, 0, none⟩ (.int .u8 ((dg 256 x 0 / 8 * 8 : Nat) : Int))).setCell ⟨w.heap.size, 31, none⟩ (.int .u8 ((dg 256 x 31 % 64 + 64 : Nat) : Int))).rangeAt w.heap.size 0 (yl 32 (cl x)) := yrange_set (yrange_set r0 z0 (by decide)) z1 (by decide)
  have HR := Hid.of (And.intro hr (And.intro (there_setCell (there_setCell t1 ⟨w.heap.size, 0, none⟩ (.int .u8 ((dg 256 x 0 / 8 * 8 : Nat) : Int))) ⟨w.heap.size, 31, none⟩ (.int .u8 ((dg 256 x 31 % 64 + 64 : Nat) : Int))) (Grown.setCell (Grown.setCell g0 (a := ⟨w.heap.size, 0, none⟩) (Nat.le_refl _) (.int .u8 ((dg 256 x 0 / 8 * 8 : Nat) : Int))) (a := ⟨w.heap.size, 31, none⟩) (Nat.le_refl _) (.int .u8 ((dg 256 x 31 % 64 + 64 : Nat) : Int)))))
  clear hr r0 t0 t1 g0
  generalize dg 256 x 31 % 64 + 64 = y1 at *
  generalize dg 256 x 31 % 64 = y2 at *
  generalize dg 256 x 0 / 8 * 8 = y0 at *
  generalize dg 256 x 0 = x0 at *
  generalize dg 256 x 31 = x1 at *
  clear q0 q1 z0 z1
  go_wp2_with (with_reducible show wpList _ _ _ ({ dst := _, op := Op.load 22 _, type := _, pos := _, after := _, guard := _ } :: _) _ _; refine Shut.out ?_)
  show wpList _ _ _ _ _ _
  generalize ((W0.setCell ⟨w.heap.size, 0, none⟩ (.int .u8 (y0 : Int))).setCell ⟨w.heap.size, 31, none⟩ (.int .u8 (y1 : Int))) = W2 at *
  go_wp2_with (with_reducible show wpList _ _ _ ({ dst := _, op := Op.load 22 _, type := _, pos := _, after := _, guard := _ } :: _) _ _; refine Shut.out ?_)
  show wpList _ _ _ _ _ _
  refine wpList_load32 rfl _ rfl (w.heap.size) rfl (cl x) (HR.out.1) ?_
  simp only [Act.put, List.setIfInBounds_toArray, List.set_cons_zero, List.set_cons_succ]
  refine wpList_store32 rfl _ _ rfl (w.heap.size + 1) (cl x) rfl rfl (HR.out.2.1) ?_
  simp only [Act.put]
  apply wpList_nil
  repeat go_step
  refine bodyPost_ret (v := yv 32 (cl x)) (result32 Try.results6 _ _ (w.heap.size + 1) _ ?hp (World.rangeAt_setCells_same _ _ _ _ (by rw [yl_length]; exact HR.out.2.1))) ?hd ?_
  case hp => rfl
  case hd => rfl
  exact ⟨rfl, grown_setCells (by omega) _ _ (HR.out.2.2)⟩
end Go.Proofs.Yteijccjdejjbjaa
