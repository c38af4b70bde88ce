import Derived.Test.YteijccjdejjbjaaDoorDi
import Derived.Test.YteijccjdejjbjaaDoorBy
namespace Go.Proofs.YteijccjdejjbjaaDoor
open Go.RowKit Go.Shelf ScalarNum

theorem alloc2 (w : World) (t1 t2 : TypeId) (cs : List Value) (c2 : Array Value) :
    ((w.alloc (.cells cs.toArray t1)).alloc (.cells c2 t2)).rangeAt w.heap.size 0 cs ∧
    ((w.alloc (.cells cs.toArray t1)).alloc (.cells c2 t2)).there w.heap.size 0 cs.length ∧
    ((w.alloc (.cells cs.toArray t1)).alloc (.cells c2 t2)).there (w.heap.size + 1) 0 c2.size ∧
    Grown w ((w.alloc (.cells cs.toArray t1)).alloc (.cells c2 t2)) := by
  have g1 : ∀ (w : World) (t : TypeId) (a : Array Value), Grown w (w.alloc (.cells a t)) := fun w t a => Grown.alloc (Grown.refl _) _ _
  have s1 : (w.alloc (.cells cs.toArray t1)).heap.size = w.heap.size + 1 := by simp
  have b1 := rangeAt_alloc_new w t1 cs
  have b0 := there_alloc_new w t1 cs.toArray cs.length (by simp)
  have gV1 := g1 w t1 cs.toArray
  generalize w.alloc (.cells cs.toArray t1) = V1 at *
  have b2 := there_alloc_new V1 t2 c2 c2.size (Nat.le_refl _)
  rw [s1] at b2
  exact ⟨rangeAt_grown b1 (g1 _ _ _), there_grown b0 (g1 _ _ _), b2, grown_trans gV1 (g1 _ _ _)⟩

theorem top4 {v : Nat} (hv : v < M) : dg B v 3 / 1152921504606846976 = v / 7237005577332262213973186563042994240829374041602535252466099000494570602496 := by
  unfold dg
  rw [Nat.mod_eq_of_lt (Nat.div_lt_of_lt_mul (by rw [Nat.mul_comm, ← Nat.pow_succ']; rw [B4]; exact hv)), Nat.div_div_eq_div_mul, show B ^ 3 * 1152921504606846976 = 7237005577332262213973186563042994240829374041602535252466099000494570602496 from by decide]

set_option maxRecDepth 100000 in
set_option maxHeartbeats 4000000 in
theorem reduced_num (n : Nat) (hn : n < M) (w : World) (hT : Tab w) : Calls Tryd.prog 43 #[wv 4 n] w fun e w' => e = .returned (wv 4 (n % L)) ∧ Grown w w' := by
  rw [wv]
  have h3 : (wl 4 n)[3]? = some (.int .u64 (dg B n 3 : Nat)) := wl_get 4 n 3 (by decide)
  have hq := top4 hn
  have hd3 : dg B n 3 < 18446744073709551616 := dg_lt B_pos
  generalize dg B n 3 = td at *
  have hq2 : td / 1152921504606846976 ≤ 16 := by omega
  obtain ⟨q, hqq⟩ : ∃ q, q = td / 1152921504606846976 := ⟨_, rfl⟩
  have hqi : (td : Int) / 1152921504606846976 = (q : Int) := by omega
  rw [← hqq] at hq hq2
  have Hq := Hid.of (And.intro hq hq2)
  have HT := Hid.of hT
  clear hd3 hq hq2 hqq hT
  have h0 := Hid.of (alloc2 w 62 62 (wl 4 n) #[Value.int IntKind.u64 0, Value.int IntKind.u64 0, Value.int IntKind.u64 0, Value.int IntKind.u64 0])
  go_enter Tryd.func43, Tryd.ntmps43
  go_wp2_with fail
  generalize ((w.alloc (Obj.cells (wl 4 n).toArray 62)).alloc (Obj.cells #[Value.int IntKind.u64 0, Value.int IntKind.u64 0, Value.int IntKind.u64 0, Value.int IntKind.u64 0] 62)) = W0 at *
  obtain ⟨r0, t0, t1, g0⟩ := h0.out
  have hsz := HT.out.lt
  refine Calls.mono (divide_num w.heap.size q n (by omega) Hq.out.1.symm Hq.out.2 _ (HT.out.grown g0) (by rw [Nat.mod_eq_of_lt hn]; exact r0) (by rw [wl_length] at t0; exact t0)) ?_
  rintro e w1 ⟨rfl, g1, r1, t2⟩
  have t3 : w1.there (w.heap.size + 1) 0 4 := g1.there t1 (by omega)
  have H := Hid.of (And.intro r1 (And.intro t3 (GB.own g0 (Nat.le_refl _) g1)))
  clear h0 r0 t0 t1 g0 g1 r1 t2 t3 HT Hq
  dsimp only
  go_wp2_with (with_reducible show wpList _ _ _ ({ dst := _, op := Op.load 62 _, type := _, pos := _, after := _, guard := _ } :: _) _ _; refine Shut.out ?_)
  show wpList _ _ _ _ _ _
  refine wpList_loadN rfl _ rfl (w.heap.size) rfl (n % L) (H.out.1) ?_
  simp only [Act.put, List.setIfInBounds_toArray, List.set_cons_zero, List.set_cons_succ]
  refine wpList_storeN rfl _ _ rfl (w.heap.size + 1) (n % L) rfl rfl (H.out.2.1) ?_
  simp only [Act.put]
  apply wpList_nil
  repeat go_step
  refine bodyPost_ret (v := wv 4 (n % L)) (resultN Tryd.results43 _ _ (w.heap.size + 1) _ ?hp (World.rangeAt_setCells_same _ _ _ _ (by rw [wl_length]; exact H.out.2.1))) ?hd ?_
  case hp => rfl
  case hd => rfl
  exact ⟨rfl, grown_setCells (by omega) _ _ (H.out.2.2)⟩
end Go.Proofs.YteijccjdejjbjaaDoor
