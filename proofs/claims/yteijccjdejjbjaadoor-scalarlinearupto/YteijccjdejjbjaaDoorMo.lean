import Derived.Test.YteijccjdejjbjaaDoorVk
import Derived.Test.YteijccjdejjbjaaDoorPt
namespace Go.Proofs.YteijccjdejjbjaaDoor
open Go.RowKit Go.Shelf ScalarNum

/-- the digit modulo L -/
def md (d : Int) : Nat := (d % (L : Int)).toNat
theorem md_lt (d : Int) : md d < L := by
  have h1 : d % (L : Int) < L := Int.emod_lt_of_pos _ (by decide)
  have h2 : 0 ≤ d % (L : Int) := Int.emod_nonneg _ (by decide)
  unfold md; omega
theorem md_cast (d : Int) : ((md d : Nat) : Int) = d % (L : Int) := Int.toNat_of_nonneg (Int.emod_nonneg _ (by decide))
theorem md_pos {q : Nat} (h : q < 128) : md (q : Int) = q := by
  have e : (q : Int) % (L : Int) = (q : Int) := Int.emod_eq_of_lt (by omega) (Int.lt_trans (Int.ofNat_lt.2 h) (by decide))
  unfold md; rw [e]; rfl
theorem md_neg {q : Nat} (h0 : 0 < q) (h : q ≤ 128) : md (-(q : Int)) = (L - q) % L := by
  have hL : (128 : Nat) < L := by decide
  have e : (-(q : Int)) % (L : Int) = ((L - q : Nat) : Int) := by
    rw [← Int.add_emod_right, show -(q : Int) + (L : Int) = ((L - q : Nat) : Int) from by omega]
    exact Int.emod_eq_of_lt (by omega) (by omega)
  unfold md; rw [e, Nat.mod_eq_of_lt (by omega)]; rfl

theorem there_new4 (w : World) (t : TypeId) : (w.alloc (.cells #[Value.int IntKind.u64 0, Value.int IntKind.u64 0, Value.int IntKind.u64 0, Value.int IntKind.u64 0] t)).there w.heap.size 0 4 := by
  have := (alloc2 w t t [] #[Value.int IntKind.u64 0, Value.int IntKind.u64 0, Value.int IntKind.u64 0, Value.int IntKind.u64 0])
  intro j hj
  refine ⟨?_, ?_⟩
  · have : (w.alloc (.cells #[Value.int IntKind.u64 0, Value.int IntKind.u64 0, Value.int IntKind.u64 0, Value.int IntKind.u64 0] t)).heap[w.heap.size]? = some (.cells #[Value.int IntKind.u64 0, Value.int IntKind.u64 0, Value.int IntKind.u64 0, Value.int IntKind.u64 0] t) := (MapKept.heap_alloc w _).1
    simp only [World.cell?, this]
    match j, hj with
    | 0, _ => rfl
    | 1, _ => rfl
    | 2, _ => rfl
    | 3, _ => rfl
  · rw [frozen?_alloc_cells]; simp [World.frozen?]

set_option maxRecDepth 100000 in
set_option maxHeartbeats 1000000 in
theorem modulo_num (d : Int) (hd : -128 ≤ d ∧ d ≤ 127) (w : World) (hT : Tab w) : Calls Tryd.prog 65 #[.int .i8 d] w fun e w' => e = .returned (wv 4 (md d)) ∧ Grown w w' := by
  by_cases h : d < 0
  · obtain ⟨q, rfl⟩ : ∃ q : Nat, d = -(q : Int) := ⟨d.natAbs, by omega⟩
    have hq0 : 0 < q := by omega
    have hq : q ≤ 128 := by omega
    have e1 : IntKind.i64.wrap (-(q : Int)) = -(q : Int) := by rw [IntKind.wrap_i64]; omega
    have e2 : IntKind.i64.wrap (q : Int) = (q : Int) := by rw [IntKind.wrap_i64]; omega
    have hm := Hid.of (md_neg hq0 hq)
    have HT := Hid.of hT
    clear hd hT
    have g0 : Grown w (w.alloc (.cells #[Value.int IntKind.u64 0, Value.int IntKind.u64 0, Value.int IntKind.u64 0, Value.int IntKind.u64 0] 62)) := Grown.alloc (Grown.refl _) _ _
    have t0 : (w.alloc (.cells #[Value.int IntKind.u64 0, Value.int IntKind.u64 0, Value.int IntKind.u64 0, Value.int IntKind.u64 0] 62)).there w.heap.size 0 4 := there_new4 w _
    go_enter Tryd.func65, Tryd.ntmps65
    have e3 : wrap64 (q : Int) = (q : Int) := by unfold wrap64; omega
    have e4 : wrap64 (-(q : Int)) = -(q : Int) := by unfold wrap64; omega
    go_wp2_with (with_reducible show wpList _ _ _ ({ dst := _, op := Op.build 62 _, type := _, pos := _, after := _, guard := _ } :: _) _ _; refine Shut.out ?_)
    show wpList _ _ _ _ _ _
    refine wpList_val (wv 4 q) rfl ?hv ?_
    case hv => rw [← small_wv q (by omega)]; go_simp
    simp only [Act.put, List.setIfInBounds_toArray, List.set_cons_zero, List.set_cons_succ]
    go_wp2_with fail
    generalize (w.alloc (.cells #[Value.int IntKind.u64 0, Value.int IntKind.u64 0, Value.int IntKind.u64 0, Value.int IntKind.u64 0] 62)) = W0 at *
    have H0 := Hid.of (And.intro g0 t0)
    clear g0 t0
    refine Calls.mono (negated_num q (Nat.lt_of_le_of_lt hq (by decide)) _ (HT.out.grown H0.out.1)) ?_
    rintro e w1 ⟨rfl, g1⟩
    dsimp only
    rw [← hm.out]
    have H1 := Hid.of (And.intro (grown_trans H0.out.1 g1) (there_grown H0.out.2 g1))
    clear H0 g1
    go_wp2_with (with_reducible show wpList _ _ _ ({ dst := _, op := Op.store 62 _ _, type := _, pos := _, after := _, guard := _ } :: _) _ _; refine Shut.out ?_)
    show wpList _ _ _ _ _ _
    refine wpList_storeN rfl _ _ rfl (w.heap.size) (md (-(q : Int))) rfl rfl (H1.out.2) ?_
    simp only [Act.put]
    apply wpList_nil
    repeat go_step
    refine bodyPost_ret (v := wv 4 (md (-(q : Int)))) (resultN Tryd.results65 _ _ (w.heap.size) _ ?hp (World.rangeAt_setCells_same _ _ _ _ (by rw [wl_length]; exact H1.out.2))) ?hd ?_
    case hp => rfl
    case hd => rfl
    exact ⟨rfl, grown_setCells (by omega) _ _ H1.out.1⟩
  · obtain ⟨q, rfl⟩ : ∃ q : Nat, d = (q : Int) := ⟨d.natAbs, by omega⟩
    have hq : q < 128 := by omega
    have h' : ¬ (q : Int) < 0 := h
    have e1 : IntKind.u64.wrap (q : Int) = (q : Int) := by rw [IntKind.wrap_u64]; omega
    have hm := Hid.of (md_pos hq)
    clear hd hT h
    have g0 : Grown w (w.alloc (.cells #[Value.int IntKind.u64 0, Value.int IntKind.u64 0, Value.int IntKind.u64 0, Value.int IntKind.u64 0] 62)) := Grown.alloc (Grown.refl _) _ _
    have t0 : (w.alloc (.cells #[Value.int IntKind.u64 0, Value.int IntKind.u64 0, Value.int IntKind.u64 0, Value.int IntKind.u64 0] 62)).there w.heap.size 0 4 := there_new4 w _
    go_enter Tryd.func65, Tryd.ntmps65
    go_wp2_with (with_reducible show wpList _ _ _ ({ dst := _, op := Op.build 62 _, type := _, pos := _, after := _, guard := _ } :: _) _ _; refine Shut.out ?_)
    show wpList _ _ _ _ _ _
    generalize (w.alloc (.cells #[Value.int IntKind.u64 0, Value.int IntKind.u64 0, Value.int IntKind.u64 0, Value.int IntKind.u64 0] 62)) = W0 at *
    have H1 := Hid.of (And.intro g0 t0)
    clear g0 t0
    refine wpList_val (wv 4 q) rfl ?hv ?_
    case hv => rw [← small_wv q (by omega)]; go_simp
    simp only [Act.put, List.setIfInBounds_toArray, List.set_cons_zero, List.set_cons_succ]
    rw [← hm.out]
    refine wpList_storeN rfl _ _ rfl (w.heap.size) (md (q : Int)) rfl rfl (H1.out.2) ?_
    simp only [Act.put]
    apply wpList_nil
    repeat go_step
    refine bodyPost_ret (v := wv 4 (md (q : Int))) (resultN Tryd.results65 _ _ (w.heap.size) _ ?hp (World.rangeAt_setCells_same _ _ _ _ (by rw [wl_length]; exact H1.out.2))) ?hd ?_
    case hp => rfl
    case hd => rfl
    exact ⟨rfl, grown_setCells (by omega) _ _ H1.out.1⟩
end Go.Proofs.YteijccjdejjbjaaDoor
