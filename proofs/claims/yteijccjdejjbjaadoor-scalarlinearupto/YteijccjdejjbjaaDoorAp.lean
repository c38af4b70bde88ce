import Derived.Test.YteijccjdejjbjaaDoorTi
namespace Go.Proofs.YteijccjdejjbjaaDoor
open Go.RowKit Go.Shelf ScalarNum

/-- the answers, under names -/
def sred (x : Nat) : Nat := x % L
def sadd (x y : Nat) : Nat := (x + y) % L
def sneg (x : Nat) : Nat := (L - x % L) % L
def smad (x y z : Nat) : Nat := (x * y + z) % L
theorem L_lt_M : L < M := by decide
theorem modL_lt (x : Nat) : x % L < L := Nat.mod_lt _ (by decide)
theorem modL_ltM (x : Nat) : x % L < M := Nat.lt_trans (modL_lt x) L_lt_M
theorem sred_lt (x : Nat) : sred x < M := modL_ltM _
theorem sadd_lt (x y : Nat) : sadd x y < M := modL_ltM _
theorem sneg_lt (x : Nat) : sneg x < M := modL_ltM _
theorem smad_lt (x y z : Nat) : smad x y z < M := modL_ltM _
theorem timesM {x y z : Nat} (hx : x < M) (hy : y < M) (hz : z < M) : x * y + z < M * M := by
  have h1 : x * y ≤ (M - 1) * M := Nat.mul_le_mul (by omega) (Nat.le_of_lt hy)
  have h2 : (M - 1) * M + M = M * M := by decide
  omega

theorem alloc1 (w : World) (t : TypeId) (c : Array Value) : (w.alloc (.cells c t)).there w.heap.size 0 c.size ∧ Grown w (w.alloc (.cells c t)) :=
  ⟨there_alloc_new w t c c.size (Nat.le_refl _), Grown.alloc (Grown.refl _) _ _⟩

set_option maxRecDepth 100000 in
set_option maxHeartbeats 1000000 in
theorem Order_num (w : World) (hT : Tab w) : Calls Tryd.prog 22 #[] w fun e w' => e = .returned (yv 32 L) ∧ Grown w w' := by
  have h0 := alloc1 w 23 (yl 32 0).toArray
  rw [show (yl 32 0).toArray.size = 32 from rfl] at h0
  have HT := Hid.of hT
  clear hT
  go_enter Tryd.func22, Tryd.ntmps22
  go_wp2_with (with_reducible show wpList _ _ _ ({ dst := _, op := Op.load 62 _, type := _, pos := _, after := _, guard := _ } :: _) _ _; refine Shut.out ?_)
  show wpList _ _ _ _ _ _
  rw [← yl32_zero]
  generalize (w.alloc (.cells (yl 32 0).toArray 23)) = W0 at *
  have H0 := Hid.of h0
  clear h0
  refine wpList_loadNo rfl _ rfl 0 4 ?hp2 L ?hr2 ?_
  case hp2 => go_simp
  case hr2 => have := (HT.out.grown H0.out.2) 1 (by decide); rwa [Nat.one_mul, Nat.one_mul, Nat.mod_eq_of_lt (by decide)] at this
  simp only [Act.put, List.setIfInBounds_toArray, List.set_cons_zero, List.set_cons_succ]
  go_wp2_with fail
  refine Calls.mono (bytes_num L L_lt_M _) ?_
  rintro e w1 ⟨rfl, g1⟩
  dsimp only
  have H1 := Hid.of (And.intro (there_grown H0.out.1 g1) (grown_trans H0.out.2 g1))
  clear H0 g1
  go_wp2_with (with_reducible show wpList _ _ _ ({ dst := _, op := Op.store 23 _ _, type := _, pos := _, after := _, guard := _ } :: _) _ _; refine Shut.out ?_)
  show wpList _ _ _ _ _ _
  refine wpList_store32 rfl _ _ rfl (w.heap.size) (L) rfl rfl (H1.out.1) ?_
  simp only [Act.put]
  apply wpList_nil
  repeat go_step
  refine bodyPost_ret (v := yv 32 (L)) (result32 Tryd.results22 _ _ (w.heap.size) _ ?hp (World.rangeAt_setCells_same _ _ _ _ (by rw [yl_length]; exact H1.out.1))) ?hd ?_
  case hp => rfl
  case hd => rfl
  exact ⟨rfl, grown_setCells (by omega) _ _ (H1.out.2)⟩

set_option maxRecDepth 100000 in
set_option maxHeartbeats 1000000 in
theorem Neg_num (x : Nat) (hx : x < M) (w : World) (hT : Tab w) : Calls Tryd.prog 25 #[yv 32 x] w fun e w' => e = .returned (yv 32 (sneg x)) ∧ Grown w w' := by
  have h0 := alloc2 w 23 23 (yl 32 x) (yl 32 0).toArray
  rw [show (yl 32 0).toArray.size = 32 from rfl] at h0
  have HT := Hid.of hT
  clear hT
  rw [yv]
  go_enter Tryd.func25, Tryd.ntmps25
  go_wp2_with (with_reducible show wpList _ _ _ ({ dst := _, op := Op.load 23 _, type := _, pos := _, after := _, guard := _ } :: _) _ _; refine Shut.out ?_)
  show wpList _ _ _ _ _ _
  rw [← yl32_zero]
  generalize ((w.alloc (.cells (yl 32 x).toArray 23)).alloc (.cells (yl 32 0).toArray 23)) = W0 at *
  have H0 := Hid.of h0
  clear h0
  refine wpList_load32 rfl _ rfl w.heap.size rfl x H0.out.1 ?_
  simp only [Act.put, List.setIfInBounds_toArray, List.set_cons_zero, List.set_cons_succ]
  go_wp2_with fail
  refine Calls.mono (load_num x hx _) ?_
  rintro e w1 ⟨rfl, g1⟩
  dsimp only
  go_wp2_with fail
  refine Calls.mono (reduced_num x hx _ ((HT.out.grown H0.out.2.2.2).grown g1)) ?_
  rintro e w2 ⟨rfl, g2⟩
  dsimp only
  go_wp2_with fail
  refine Calls.mono (negated_num (x % L) (modL_lt x) _ (((HT.out.grown H0.out.2.2.2).grown g1).grown g2)) ?_
  rintro e w3 ⟨rfl, g3⟩
  dsimp only
  go_wp2_with fail
  refine Calls.mono (bytes_num _ (modL_ltM _) _) ?_
  rintro e w4 ⟨rfl, g4⟩
  dsimp only
  have gg := grown_trans g1 (grown_trans g2 (grown_trans g3 g4))
  have H1 := Hid.of (And.intro (there_grown H0.out.2.2.1 gg) (grown_trans H0.out.2.2.2 gg))
  clear H0 g1 g2 g3 g4 gg
  rw [show (L - x % L) % L = sneg x from rfl]
  go_wp2_with (with_reducible show wpList _ _ _ ({ dst := _, op := Op.store 23 _ _, type := _, pos := _, after := _, guard := _ } :: _) _ _; refine Shut.out ?_)
  show wpList _ _ _ _ _ _
  refine wpList_store32 rfl _ _ rfl (w.heap.size + 1) (sneg x) rfl rfl (H1.out.1) ?_
  simp only [Act.put]
  apply wpList_nil
  repeat go_step
  refine bodyPost_ret (v := yv 32 (sneg x)) (result32 Tryd.results25 _ _ (w.heap.size + 1) _ ?hp (World.rangeAt_setCells_same _ _ _ _ (by rw [yl_length]; exact H1.out.1))) ?hd ?_
  case hp => rfl
  case hd => rfl
  exact ⟨rfl, grown_setCells (by omega) _ _ (H1.out.2)⟩
end Go.Proofs.YteijccjdejjbjaaDoor
