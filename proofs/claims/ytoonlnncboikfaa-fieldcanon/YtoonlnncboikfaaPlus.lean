import Derived.Test.YtoonlnncboikfaaCan2
namespace Go.Proofs.Ytoonlnncboikfaa
open Go.RowKit Go.Shelf FieldNum

/-- how far the sum is laid -/
structure PL (w0 : World) (bs x y k : Nat) (wr : World) : Prop where
  ra : wr.rangeAt w0.heap.size 0 (bl x)
  rb : wr.rangeAt (w0.heap.size + 1) 0 (bl y)
  lo : ∀ j, j < k → wr.cell? ⟨bs, j, none⟩ = some (.int .u8 (((x + y) / 256 ^ j % 256 : Nat) : Int))
  hi : ∀ j, k ≤ j → j < 32 → wr.cell? ⟨bs, j, none⟩ = some (.int .u8 0)
  fr : ∀ j, wr.frozen? ⟨bs, j, none⟩ = false
  tr : wr.there (w0.heap.size + 1 + 1) 0 32
  eb : bs = w0.heap.size + 1 + 1 + 1
  gw : Grown w0 wr

theorem PL.drewN {w0 wr : World} {bs x y k : Nat} (h : PL w0 bs x y k wr) (n : Nat) : PL w0 bs x y k (wr.drewN n) := ⟨h.ra, h.rb, h.lo, h.hi, h.fr, h.tr, h.eb, h.gw⟩

theorem rangeAt_setCell {w : World} {b : Nat} {cs : List Value} (h : w.rangeAt b 0 cs) (b' i : Nat) (v : Value) (hb : b ≠ b') : (w.setCell ⟨b', i, none⟩ v).rangeAt b 0 cs := by
  intro j u hu
  rw [World.cell?_setCell_far _ _ _ _ (fun e => hb e.symm)]
  exact h j u hu

theorem PL.step {w0 wr : World} {bs x y k : Nat} (h : PL w0 bs x y k wr) (hk : k < 32) (d : Nat) (hd : d = (x + y) / 256 ^ k % 256) : PL w0 bs x y (k + 1) (wr.setCell ⟨bs, k, none⟩ (.int .u8 (d : Int))) := by
  have heb := h.eb
  refine ⟨rangeAt_setCell h.ra _ _ _ (by omega), rangeAt_setCell h.rb _ _ _ (by omega), fun j hj => ?_, fun j h1 h2 => ?_, fun j => (World.frozen?_setCell _ _ _ _).trans (h.fr j), there_setCell h.tr _ _, h.eb, Grown.setCell h.gw (by simp; omega) _⟩
  · by_cases e : j = k
    · subst e
      have := h.hi j (Nat.le_refl _) hk
      rw [hd]
      exact World.cell?_setCell_same _ _ _ this
    · rw [set_other _ _ _ _ _ e]; exact h.lo j (by omega)
  · rw [set_other _ _ _ _ _ (by omega)]; exact h.hi j (by omega) h2

theorem carry_step {x y k c : Nat} (h : (x + y) / 256 ^ k = x / 256 ^ k + y / 256 ^ k + c) :
    (x + y) / 256 ^ k % 256 = (c + x / 256 ^ k % 256 + y / 256 ^ k % 256) % 256 ∧ (x + y) / 256 ^ (k + 1) = x / 256 ^ (k + 1) + y / 256 ^ (k + 1) + (c + x / 256 ^ k % 256 + y / 256 ^ k % 256) / 256 := by
  have e : ∀ z, z / 256 ^ (k + 1) = z / 256 ^ k / 256 := fun z => by rw [Nat.pow_succ, Nat.div_div_eq_div_mul]
  rw [e, e, e, h]
  constructor <;> omega

theorem bl_mod (n : Nat) : bl (n % M) = bl n := by
  apply List.ext_getElem?
  intro i
  by_cases hi : i < 32
  · rw [bl_get _ i hi, bl_get _ i hi]
    have e : M = 256 ^ i * 256 * 256 ^ (31 - i) := by
      have h1 : 256 ^ i * 256 * 256 ^ (31 - i) = 256 ^ (i + 1 + (31 - i)) := by rw [Nat.pow_add, Nat.pow_succ]
      rw [h1, show i + 1 + (31 - i) = 32 by omega]
    have key : n % M / 256 ^ i % 256 = n / 256 ^ i % 256 := by
      rw [e, Nat.mul_assoc, Nat.mod_mul_right_div_self, Nat.mod_mul_right_mod]
    rw [key]
  · rw [List.getElem?_eq_none (by rw [bl_length]; omega), List.getElem?_eq_none (by rw [bl_length]; omega)]

set_option maxRecDepth 100000 in
set_option maxHeartbeats 2000000 in
theorem lawplus_any (x y : Nat) (w : World) :
    Calls Try.prog 13 #[bv x, bv y] w fun e w' => (∃ c : Int, e = .returned (.tuple #[bv ((x + y) % M), .int .i64 c])) ∧ Grown w w' := by
  have hP0 : PL w (w.heap.size + 1 + 1 + 1) x y 0 ((((w.alloc (Obj.cells (bl x).toArray 22)).alloc (Obj.cells (bl y).toArray 22)).alloc (Obj.cells #[Value.int IntKind.u8 0, Value.int IntKind.u8 0, Value.int IntKind.u8 0, Value.int IntKind.u8 0, Value.int IntKind.u8 0, Value.int IntKind.u8 0, Value.int IntKind.u8 0, Value.int IntKind.u8 0, Value.int IntKind.u8 0, Value.int IntKind.u8 0, Value.int IntKind.u8 0, Value.int IntKind.u8 0, Value.int IntKind.u8 0, Value.int IntKind.u8 0, Value.int IntKind.u8 0, Value.int IntKind.u8 0, Value.int IntKind.u8 0, Value.int IntKind.u8 0, Value.int IntKind.u8 0, Value.int IntKind.u8 0, Value.int IntKind.u8 0, Value.int IntKind.u8 0, Value.int IntKind.u8 0, Value.int IntKind.u8 0, Value.int IntKind.u8 0, Value.int IntKind.u8 0, Value.int IntKind.u8 0, Value.int IntKind.u8 0, Value.int IntKind.u8 0, Value.int IntKind.u8 0, Value.int IntKind.u8 0, Value.int IntKind.u8 0] 22)).alloc (Obj.cells #[Value.int IntKind.u8 0, Value.int IntKind.u8 0, Value.int IntKind.u8 0, Value.int IntKind.u8 0, Value.int IntKind.u8 0, Value.int IntKind.u8 0, Value.int IntKind.u8 0, Value.int IntKind.u8 0, Value.int IntKind.u8 0, Value.int IntKind.u8 0, Value.int IntKind.u8 0, Value.int IntKind.u8 0, Value.int IntKind.u8 0, Value.int IntKind.u8 0, Value.int IntKind.u8 0, Value.int IntKind.u8 0, Value.int IntKind.u8 0, Value.int IntKind.u8 0, Value.int IntKind.u8 0, Value.int IntKind.u8 0, Value.int IntKind.u8 0, Value.int IntKind.u8 0, Value.int IntKind.u8 0, Value.int IntKind.u8 0, Value.int IntKind.u8 0, Value.int IntKind.u8 0, Value.int IntKind.u8 0, Value.int IntKind.u8 0, Value.int IntKind.u8 0, Value.int IntKind.u8 0, Value.int IntKind.u8 0, Value.int IntKind.u8 0] 22)) := by
    obtain ⟨h, hg⟩ := params2 w x y
    have s2 : ((w.alloc (Obj.cells (bl x).toArray 22)).alloc (Obj.cells (bl y).toArray 22)).heap.size = w.heap.size + 1 + 1 := by simp
    generalize ((w.alloc (Obj.cells (bl x).toArray 22)).alloc (Obj.cells (bl y).toArray 22)) = W0 at *
    have e2 : ((W0.alloc (Obj.cells #[Value.int IntKind.u8 0, Value.int IntKind.u8 0, Value.int IntKind.u8 0, Value.int IntKind.u8 0, Value.int IntKind.u8 0, Value.int IntKind.u8 0, Value.int IntKind.u8 0, Value.int IntKind.u8 0, Value.int IntKind.u8 0, Value.int IntKind.u8 0, Value.int IntKind.u8 0, Value.int IntKind.u8 0, Value.int IntKind.u8 0, Value.int IntKind.u8 0, Value.int IntKind.u8 0, Value.int IntKind.u8 0, Value.int IntKind.u8 0, Value.int IntKind.u8 0, Value.int IntKind.u8 0, Value.int IntKind.u8 0, Value.int IntKind.u8 0, Value.int IntKind.u8 0, Value.int IntKind.u8 0, Value.int IntKind.u8 0, Value.int IntKind.u8 0, Value.int IntKind.u8 0, Value.int IntKind.u8 0, Value.int IntKind.u8 0, Value.int IntKind.u8 0, Value.int IntKind.u8 0, Value.int IntKind.u8 0, Value.int IntKind.u8 0] 22)).alloc (Obj.cells #[Value.int IntKind.u8 0, Value.int IntKind.u8 0, Value.int IntKind.u8 0, Value.int IntKind.u8 0, Value.int IntKind.u8 0, Value.int IntKind.u8 0, Value.int IntKind.u8 0, Value.int IntKind.u8 0, Value.int IntKind.u8 0, Value.int IntKind.u8 0, Value.int IntKind.u8 0, Value.int IntKind.u8 0, Value.int IntKind.u8 0, Value.int IntKind.u8 0, Value.int IntKind.u8 0, Value.int IntKind.u8 0, Value.int IntKind.u8 0, Value.int IntKind.u8 0, Value.int IntKind.u8 0, Value.int IntKind.u8 0, Value.int IntKind.u8 0, Value.int IntKind.u8 0, Value.int IntKind.u8 0, Value.int IntKind.u8 0, Value.int IntKind.u8 0, Value.int IntKind.u8 0, Value.int IntKind.u8 0, Value.int IntKind.u8 0, Value.int IntKind.u8 0, Value.int IntKind.u8 0, Value.int IntKind.u8 0, Value.int IntKind.u8 0] 22)).heap[W0.heap.size + 1]? = some (Obj.cells #[Value.int IntKind.u8 0, Value.int IntKind.u8 0, Value.int IntKind.u8 0, Value.int IntKind.u8 0, Value.int IntKind.u8 0, Value.int IntKind.u8 0, Value.int IntKind.u8 0, Value.int IntKind.u8 0, Value.int IntKind.u8 0, Value.int IntKind.u8 0, Value.int IntKind.u8 0, Value.int IntKind.u8 0, Value.int IntKind.u8 0, Value.int IntKind.u8 0, Value.int IntKind.u8 0, Value.int IntKind.u8 0, Value.int IntKind.u8 0, Value.int IntKind.u8 0, Value.int IntKind.u8 0, Value.int IntKind.u8 0, Value.int IntKind.u8 0, Value.int IntKind.u8 0, Value.int IntKind.u8 0, Value.int IntKind.u8 0, Value.int IntKind.u8 0, Value.int IntKind.u8 0, Value.int IntKind.u8 0, Value.int IntKind.u8 0, Value.int IntKind.u8 0, Value.int IntKind.u8 0, Value.int IntKind.u8 0, Value.int IntKind.u8 0] 22) := heap_alloc2_new W0 _ _
    rw [s2] at e2
    have h1 := there_grown (there_alloc_new W0 22 #[Value.int IntKind.u8 0, Value.int IntKind.u8 0, Value.int IntKind.u8 0, Value.int IntKind.u8 0, Value.int IntKind.u8 0, Value.int IntKind.u8 0, Value.int IntKind.u8 0, Value.int IntKind.u8 0, Value.int IntKind.u8 0, Value.int IntKind.u8 0, Value.int IntKind.u8 0, Value.int IntKind.u8 0, Value.int IntKind.u8 0, Value.int IntKind.u8 0, Value.int IntKind.u8 0, Value.int IntKind.u8 0, Value.int IntKind.u8 0, Value.int IntKind.u8 0, Value.int IntKind.u8 0, Value.int IntKind.u8 0, Value.int IntKind.u8 0, Value.int IntKind.u8 0, Value.int IntKind.u8 0, Value.int IntKind.u8 0, Value.int IntKind.u8 0, Value.int IntKind.u8 0, Value.int IntKind.u8 0, Value.int IntKind.u8 0, Value.int IntKind.u8 0, Value.int IntKind.u8 0, Value.int IntKind.u8 0, Value.int IntKind.u8 0] 32 (by simp)) (Grown.alloc (Grown.refl _) #[Value.int IntKind.u8 0, Value.int IntKind.u8 0, Value.int IntKind.u8 0, Value.int IntKind.u8 0, Value.int IntKind.u8 0, Value.int IntKind.u8 0, Value.int IntKind.u8 0, Value.int IntKind.u8 0, Value.int IntKind.u8 0, Value.int IntKind.u8 0, Value.int IntKind.u8 0, Value.int IntKind.u8 0, Value.int IntKind.u8 0, Value.int IntKind.u8 0, Value.int IntKind.u8 0, Value.int IntKind.u8 0, Value.int IntKind.u8 0, Value.int IntKind.u8 0, Value.int IntKind.u8 0, Value.int IntKind.u8 0, Value.int IntKind.u8 0, Value.int IntKind.u8 0, Value.int IntKind.u8 0, Value.int IntKind.u8 0, Value.int IntKind.u8 0, Value.int IntKind.u8 0, Value.int IntKind.u8 0, Value.int IntKind.u8 0, Value.int IntKind.u8 0, Value.int IntKind.u8 0, Value.int IntKind.u8 0, Value.int IntKind.u8 0] 22)
    rw [s2] at h1
    have hgg : Grown W0 ((W0.alloc (Obj.cells #[Value.int IntKind.u8 0, Value.int IntKind.u8 0, Value.int IntKind.u8 0, Value.int IntKind.u8 0, Value.int IntKind.u8 0, Value.int IntKind.u8 0, Value.int IntKind.u8 0, Value.int IntKind.u8 0, Value.int IntKind.u8 0, Value.int IntKind.u8 0, Value.int IntKind.u8 0, Value.int IntKind.u8 0, Value.int IntKind.u8 0, Value.int IntKind.u8 0, Value.int IntKind.u8 0, Value.int IntKind.u8 0, Value.int IntKind.u8 0, Value.int IntKind.u8 0, Value.int IntKind.u8 0, Value.int IntKind.u8 0, Value.int IntKind.u8 0, Value.int IntKind.u8 0, Value.int IntKind.u8 0, Value.int IntKind.u8 0, Value.int IntKind.u8 0, Value.int IntKind.u8 0, Value.int IntKind.u8 0, Value.int IntKind.u8 0, Value.int IntKind.u8 0, Value.int IntKind.u8 0, Value.int IntKind.u8 0, Value.int IntKind.u8 0] 22)).alloc (Obj.cells #[Value.int IntKind.u8 0, Value.int IntKind.u8 0, Value.int IntKind.u8 0, Value.int IntKind.u8 0, Value.int IntKind.u8 0, Value.int IntKind.u8 0, Value.int IntKind.u8 0, Value.int IntKind.u8 0, Value.int IntKind.u8 0, Value.int IntKind.u8 0, Value.int IntKind.u8 0, Value.int IntKind.u8 0, Value.int IntKind.u8 0, Value.int IntKind.u8 0, Value.int IntKind.u8 0, Value.int IntKind.u8 0, Value.int IntKind.u8 0, Value.int IntKind.u8 0, Value.int IntKind.u8 0, Value.int IntKind.u8 0, Value.int IntKind.u8 0, Value.int IntKind.u8 0, Value.int IntKind.u8 0, Value.int IntKind.u8 0, Value.int IntKind.u8 0, Value.int IntKind.u8 0, Value.int IntKind.u8 0, Value.int IntKind.u8 0, Value.int IntKind.u8 0, Value.int IntKind.u8 0, Value.int IntKind.u8 0, Value.int IntKind.u8 0] 22)) := by go_grown
    refine ⟨rangeAt_grown (h _ (.head _)) hgg, rangeAt_grown (h _ (.tail _ (.head _))) hgg, fun j hj => by omega, fun j _ hj => ?_, fun j => frozen_of_row _ _ _ _ _ e2, h1, rfl, grown_trans hg hgg⟩
    rw [cell_of_row _ _ _ _ _ _ e2]
    show ((List.replicate 32 (Value.int IntKind.u8 0)).toArray)[j]? = _
    rw [List.getElem?_toArray, List.getElem?_replicate, if_pos hj]
  rw [bv, bv]
  go_enter Try.func13, Try.ntmps13
  go_wp2
  generalize ((((w.alloc (Obj.cells (bl x).toArray 22)).alloc (Obj.cells (bl y).toArray 22)).alloc (Obj.cells #[Value.int IntKind.u8 0, Value.int IntKind.u8 0, Value.int IntKind.u8 0, Value.int IntKind.u8 0, Value.int IntKind.u8 0, Value.int IntKind.u8 0, Value.int IntKind.u8 0, Value.int IntKind.u8 0, Value.int IntKind.u8 0, Value.int IntKind.u8 0, Value.int IntKind.u8 0, Value.int IntKind.u8 0, Value.int IntKind.u8 0, Value.int IntKind.u8 0, Value.int IntKind.u8 0, Value.int IntKind.u8 0, Value.int IntKind.u8 0, Value.int IntKind.u8 0, Value.int IntKind.u8 0, Value.int IntKind.u8 0, Value.int IntKind.u8 0, Value.int IntKind.u8 0, Value.int IntKind.u8 0, Value.int IntKind.u8 0, Value.int IntKind.u8 0, Value.int IntKind.u8 0, Value.int IntKind.u8 0, Value.int IntKind.u8 0, Value.int IntKind.u8 0, Value.int IntKind.u8 0, Value.int IntKind.u8 0, Value.int IntKind.u8 0] 22)).alloc (Obj.cells #[Value.int IntKind.u8 0, Value.int IntKind.u8 0, Value.int IntKind.u8 0, Value.int IntKind.u8 0, Value.int IntKind.u8 0, Value.int IntKind.u8 0, Value.int IntKind.u8 0, Value.int IntKind.u8 0, Value.int IntKind.u8 0, Value.int IntKind.u8 0, Value.int IntKind.u8 0, Value.int IntKind.u8 0, Value.int IntKind.u8 0, Value.int IntKind.u8 0, Value.int IntKind.u8 0, Value.int IntKind.u8 0, Value.int IntKind.u8 0, Value.int IntKind.u8 0, Value.int IntKind.u8 0, Value.int IntKind.u8 0, Value.int IntKind.u8 0, Value.int IntKind.u8 0, Value.int IntKind.u8 0, Value.int IntKind.u8 0, Value.int IntKind.u8 0, Value.int IntKind.u8 0, Value.int IntKind.u8 0, Value.int IntKind.u8 0, Value.int IntKind.u8 0, Value.int IntKind.u8 0, Value.int IntKind.u8 0, Value.int IntKind.u8 0] 22)) = W1 at hP0 ⊢
  go_loopw [7, 8] (fun v7 v8 wr => ∃ k c : Nat, v7 = .int .i64 c ∧ v8 = .int .i64 k ∧ k ≤ 32 ∧ c ≤ 1 ∧ (x + y) / 256 ^ k = x / 256 ^ k + y / 256 ^ k + c ∧ PL w (w.heap.size + 1 + 1 + 1) x y k wr) (fun _ v8 _ => (32 - intOf v8).toNat)
  case atStart => exact ⟨0, 0, rfl, rfl, by decide, by decide, by simp, hP0⟩
  case round =>
    obtain ⟨k, c, rfl, rfl, hk, hc, hdiv, hP⟩ := hrel
    clear hP0
    by_cases hlt : k < 32
    · obtain ⟨q1, q2⟩ := carry_step hdiv
      have cx := hP.ra k _ (bl_get x k hlt)
      have cy := hP.rb k _ (bl_get y k hlt)
      rw [Nat.zero_add] at cx cy
      have bx1 : x / 256 ^ k % 256 < 256 := Nat.mod_lt _ (by decide)
      have by1 : y / 256 ^ k % 256 < 256 := Nat.mod_lt _ (by decide)
      generalize x / 256 ^ k % 256 = xb at *
      generalize y / 256 ^ k % 256 = yb at *
      have cs := hP.hi k (Nat.le_refl _) hlt
      have fs := hP.fr k
      have hS := hP.step hlt _ q1.symm
      have hq2 := Hid.of q2
      clear q1 q2 hdiv
      have b0 : (0 : Int) ≤ (k : Int) := by omega
      have b1 : (k : Int) < 32 := by omega
      have wk : IntKind.i64.wrap ((k : Int) + 1) = (k : Int) + 1 := by rw [IntKind.wrap_i64]; omega
      have w1 : IntKind.i64.wrap ((c : Int) + (xb : Int)) = ((c + xb : Nat) : Int) := by rw [IntKind.wrap_i64]; omega
      have w2 : IntKind.i64.wrap (((c + xb : Nat) : Int) + (yb : Int)) = ((c + xb + yb : Nat) : Int) := by rw [IntKind.wrap_i64]; omega
      go_wp2
      go_quiet (fail)
      obtain ⟨s, hs⟩ : ∃ s : Nat, s = c + xb + yb := ⟨_, rfl⟩
      have hs511 : s ≤ 511 := by omega
      rw [← hs] at hS
      have hq3 : Hid ((x + y) / 256 ^ (k + 1) = x / 256 ^ (k + 1) + y / 256 ^ (k + 1) + s / 256) := by rw [hs]; exact hq2
      rw [show ((c : Int) + (xb : Int) + (yb : Int)) = (s : Int) by omega]
      have hSn := hS
      clear hq2 w1 w2 cx cy hs hP hS
      have r1 : (s : Int).tmod 256 = ((s % 256 : Nat) : Int) := by rw [Int.tmod_eq_emod_of_nonneg (by omega)]; omega
      have r2 : (s : Int).tdiv 256 = ((s / 256 : Nat) : Int) := by rw [Int.tdiv_eq_ediv_of_nonneg (by omega)]; omega
      go_wp2
      go_roundw
      case rel => exact ⟨k + 1, s / 256, by simp, by go_num, by omega, by omega, hq3.out, by rw [show ((s : Int) % 256) = ((s % 256 : Nat) : Int) by simp]; exact hSn.drewN _⟩
      case measure => simp [intOf]; omega
    · have h32 : k = 32 := by omega
      subst h32
      have ht := hP.tr
      have hg := hP.gw
      have hr : wr.rangeAt (w.heap.size + 1 + 1 + 1) 0 (bl ((x + y) % M)) := by
        rw [bl_mod]
        intro j v hv
        have hj : j < 32 := by have := (List.getElem?_eq_some_iff.1 hv).1; rwa [bl_length] at this
        rw [bl_get _ j hj] at hv
        injection hv with hv
        subst hv
        rw [Nat.zero_add]
        exact hP.lo j hj
      clear hP hdiv
      go_wp2_with (with_reducible show wpList _ _ _ ({ dst := _, op := Op.load 22 _, type := _, pos := _, after := _, guard := _ } :: _) _ _; refine Shut.out ?_)
      show wpList _ _ _ _ _ _
      refine wpList_load32 rfl _ rfl _ rfl ((x + y) % M) hr ?_
      simp only [Act.put, List.setIfInBounds_toArray, List.set_cons_zero, List.set_cons_succ]
      refine wpList_val (.int .i64 c) rfl rfl ?_
      simp only [Act.put, List.setIfInBounds_toArray, List.set_cons_zero, List.set_cons_succ]
      refine wpList_store32 rfl _ _ rfl _ ((x + y) % M) rfl rfl ht ?_
      simp only [Act.put]
      refine wpList_val (.int .i64 c) rfl rfl ?_
      simp only [Act.put, List.setIfInBounds_toArray, List.set_cons_zero, List.set_cons_succ]
      apply wpList_nil
      repeat go_step
      have hrr : (wr.setCells (w.heap.size + 1 + 1) 0 (bl ((x + y) % M))).rangeAt (w.heap.size + 1 + 1) 0 (bl ((x + y) % M)) := World.rangeAt_setCells_same _ _ _ _ (by rw [bl_length]; exact ht)
      have hl := run_loadVar_mid (P := Try.prog) _ (w.heap.size + 1 + 1) 0 22 (bl ((x + y) % M)) _ hrr Try.underlying22 rfl (by rw [bl_length]; exact info32)
      have hgr : Grown w (wr.setCells (w.heap.size + 1 + 1) 0 (bl ((x + y) % M))) := grown_setCells (by omega) _ _ hg
      clear hrr ht hr hg
      generalize (wr.setCells (w.heap.size + 1 + 1) 0 (bl ((x + y) % M))) = W9 at *
      refine bodyPost_ret (v := .tuple #[bv ((x + y) % M), .int .i64 c]) (by simp [results, Try.results13, asAddr, hl, bv]) rfl ?_
      exact ⟨⟨_, rfl⟩, hgr⟩
end Go.Proofs.Ytoonlnncboikfaa
