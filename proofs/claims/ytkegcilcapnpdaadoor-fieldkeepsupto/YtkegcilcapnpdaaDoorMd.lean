import Derived.Test.YtkegcilcapnpdaaDoorMc
import Derived.ChangeKeysEq
import Derived.Deep.WholeRow
namespace Go.Proofs.YtkegcilcapnpdaaDoor
open Go.RowKit Go.Shelf FieldNum

set_option maxRecDepth 100000 in
set_option maxHeartbeats 1000000 in
theorem Mul_any (x y : Nat) (hx : x < M) (hy : y < M) (w : World) :
    Calls Tryd.prog 14 #[bv x, bv y] w fun e w' => e = .returned (bv (x * y % p)) ∧ Grown w w' := by
  rw [bv, bv]
  go_enter Tryd.func14, Tryd.ntmps14
  go_wp2
  refine wp_region_noPanic ?_
  refine wp_region_held_drew (S := fun w' => w'.rangeAt w.heap.size 0 (bl x) ∧ w'.rangeAt (w.heap.size + 1) 0 (bl y) ∧ w'.there (w.heap.size + 1 + 1) 0 32 ∧ Grown w w') (by kernel_rfl) (start3 w (bl x) (bl y) _ (by simp)) (fun hH => ?_)
  refine take32 0 (x) (w.heap.size) rfl (by kernel_rfl) (by kernel_rfl) (by kernel_rfl) (fun _ _ _ h => h) (by rfl) rfl rfl (fun _ h => h.1) hH ?_
  simp only [Act.put, List.setIfInBounds_toArray, List.set_cons_zero, List.set_cons_succ]
  refine take32 2 (y) (w.heap.size + 1) rfl (by kernel_rfl) (by kernel_rfl) (by kernel_rfl) (fun _ _ _ h => h) (by rfl) rfl rfl (fun _ h => h.2.1) hH ?_
  simp only [Act.put, List.setIfInBounds_toArray, List.set_cons_zero, List.set_cons_succ]
  refine step1 1 (by kernel_rfl) rfl (fun K hK => ?_)
  go_simp
  refine Calls.mono (load_num x _) ?_
  rintro e w1 ⟨rfl, hg1⟩
  dsimp only
  refine hK.out _ _ (keep3 hH hg1) (fun hH => ?_)
  clear hK K
  refine step1 3 (by kernel_rfl) rfl (fun K hK => ?_)
  go_simp
  refine Calls.mono (load_num y _) ?_
  rintro e w2 ⟨rfl, hg2⟩
  dsimp only
  refine hK.out _ _ (keep3 hH hg2) (fun hH => ?_)
  clear hK K
  refine step1 4 (by kernel_rfl) rfl (fun K hK => ?_)
  go_simp
  refine Calls.mono (times_num x y hx hy _) ?_
  rintro e w3 ⟨⟨z, rfl, hz, hzp⟩, hg3⟩
  dsimp only
  refine hK.out _ _ (keep3 hH hg3) (fun hH => ?_)
  clear hK K
  refine step1 5 (by kernel_rfl) rfl (fun K hK => ?_)
  go_simp
  refine Calls.mono (bytes_num z hz _) ?_
  rintro e w4 ⟨rfl, hg4⟩
  dsimp only
  refine hK.out _ _ (keep3 hH hg4) (fun hH => ?_)
  clear hK K
  obtain ⟨hr1, hr2, hth, hgw⟩ := hH
  refine step1 6 (by kernel_rfl) rfl (fun K hK => ?_)
  refine store32 (z % p) (w.heap.size + 1 + 1) rfl (by rfl) rfl rfl hth ?_
  simp only [Act.put]
  refine hK.out _ _ ⟨World.rangeAt_setCells_apart hr1 _ _ _ (by left; omega), World.rangeAt_setCells_apart hr2 _ _ _ (by left; omega), World.there_setCells hth _ _ _, grown_setCells (by omega) _ _ hgw⟩ (fun _ => ?_)
  clear hK K
  refine wpAnyH_done (by kernel_rfl) ?_ _
  refine NoPanic.normal ?_
  repeat go_step
  rw [hzp]
  refine bodyPost_ret (v := bv (x * y % p)) (result32 Tryd.results14 _ _ (w.heap.size + 1 + 1) _ ?hp (World.rangeAt_setCells_same _ _ _ _ (by rw [bl_length]; exact hth))) ?hd ?_
  case hp => rfl
  case hd => rfl
  exact ⟨rfl, grown_setCells (by omega) _ _ hgw⟩

set_option maxRecDepth 100000 in
set_option maxHeartbeats 1000000 in
theorem Add_any (x y : Nat) (hx : x < M) (hy : y < M) (w : World) :
    Calls Tryd.prog 21 #[bv x, bv y] w fun e w' => e = .returned (bv ((x + y) % p)) ∧ Grown w w' := by
  rw [bv, bv]
  go_enter Tryd.func21, Tryd.ntmps21
  go_wp2
  refine wp_region_noPanic ?_
  refine wp_region_held_drew (S := fun w' => w'.rangeAt w.heap.size 0 (bl x) ∧ w'.rangeAt (w.heap.size + 1) 0 (bl y) ∧ w'.there (w.heap.size + 1 + 1) 0 32 ∧ Grown w w') (by kernel_rfl) (start3 w (bl x) (bl y) _ (by simp)) (fun hH => ?_)
  refine take32 0 (x) (w.heap.size) rfl (by kernel_rfl) (by kernel_rfl) (by kernel_rfl) (fun _ _ _ h => h) (by rfl) rfl rfl (fun _ h => h.1) hH ?_
  simp only [Act.put, List.setIfInBounds_toArray, List.set_cons_zero, List.set_cons_succ]
  refine take32 2 (y) (w.heap.size + 1) rfl (by kernel_rfl) (by kernel_rfl) (by kernel_rfl) (fun _ _ _ h => h) (by rfl) rfl rfl (fun _ h => h.2.1) hH ?_
  simp only [Act.put, List.setIfInBounds_toArray, List.set_cons_zero, List.set_cons_succ]
  refine step1 1 (by kernel_rfl) rfl (fun K hK => ?_)
  go_simp
  refine Calls.mono (load_num x _) ?_
  rintro e w1 ⟨rfl, hg1⟩
  dsimp only
  refine hK.out _ _ (keep3 hH hg1) (fun hH => ?_)
  clear hK K
  refine step1 3 (by kernel_rfl) rfl (fun K hK => ?_)
  go_simp
  refine Calls.mono (load_num y _) ?_
  rintro e w2 ⟨rfl, hg2⟩
  dsimp only
  refine hK.out _ _ (keep3 hH hg2) (fun hH => ?_)
  clear hK K
  refine step1 4 (by kernel_rfl) rfl (fun K hK => ?_)
  go_simp
  refine Calls.mono (plus_num x y hx hy _) ?_
  rintro e w3 ⟨⟨z, rfl, hz, hzp⟩, hg3⟩
  dsimp only
  refine hK.out _ _ (keep3 hH hg3) (fun hH => ?_)
  clear hK K
  refine step1 5 (by kernel_rfl) rfl (fun K hK => ?_)
  go_simp
  refine Calls.mono (bytes_num z hz _) ?_
  rintro e w4 ⟨rfl, hg4⟩
  dsimp only
  refine hK.out _ _ (keep3 hH hg4) (fun hH => ?_)
  clear hK K
  obtain ⟨hr1, hr2, hth, hgw⟩ := hH
  refine step1 6 (by kernel_rfl) rfl (fun K hK => ?_)
  refine store32 (z % p) (w.heap.size + 1 + 1) rfl (by rfl) rfl rfl hth ?_
  simp only [Act.put]
  refine hK.out _ _ ⟨World.rangeAt_setCells_apart hr1 _ _ _ (by left; omega), World.rangeAt_setCells_apart hr2 _ _ _ (by left; omega), World.there_setCells hth _ _ _, grown_setCells (by omega) _ _ hgw⟩ (fun _ => ?_)
  clear hK K
  refine wpAnyH_done (by kernel_rfl) ?_ _
  refine NoPanic.normal ?_
  repeat go_step
  rw [hzp]
  refine bodyPost_ret (v := bv ((x + y) % p)) (result32 Tryd.results21 _ _ (w.heap.size + 1 + 1) _ ?hp (World.rangeAt_setCells_same _ _ _ _ (by rw [bl_length]; exact hth))) ?hd ?_
  case hp => rfl
  case hd => rfl
  exact ⟨rfl, grown_setCells (by omega) _ _ hgw⟩

set_option maxRecDepth 100000 in
set_option maxHeartbeats 1000000 in
theorem Sub_any (x y : Nat) (hx : x < M) (hy : y < M) (w : World) :
    Calls Tryd.prog 26 #[bv x, bv y] w fun e w' => e = .returned (bv (sb x y)) ∧ Grown w w' := by
  rw [bv, bv]
  go_enter Tryd.func26, Tryd.ntmps26
  go_wp2
  refine wp_region_noPanic ?_
  refine wp_region_held_drew (S := fun w' => w'.rangeAt w.heap.size 0 (bl x) ∧ w'.rangeAt (w.heap.size + 1) 0 (bl y) ∧ w'.there (w.heap.size + 1 + 1) 0 32 ∧ Grown w w') (by kernel_rfl) (start3 w (bl x) (bl y) _ (by simp)) (fun hH => ?_)
  refine take32 0 (x) (w.heap.size) rfl (by kernel_rfl) (by kernel_rfl) (by kernel_rfl) (fun _ _ _ h => h) (by rfl) rfl rfl (fun _ h => h.1) hH ?_
  simp only [Act.put, List.setIfInBounds_toArray, List.set_cons_zero, List.set_cons_succ]
  refine take32 2 (y) (w.heap.size + 1) rfl (by kernel_rfl) (by kernel_rfl) (by kernel_rfl) (fun _ _ _ h => h) (by rfl) rfl rfl (fun _ h => h.2.1) hH ?_
  simp only [Act.put, List.setIfInBounds_toArray, List.set_cons_zero, List.set_cons_succ]
  refine step1 1 (by kernel_rfl) rfl (fun K hK => ?_)
  go_simp
  refine Calls.mono (load_num x _) ?_
  rintro e w1 ⟨rfl, hg1⟩
  dsimp only
  refine hK.out _ _ (keep3 hH hg1) (fun hH => ?_)
  clear hK K
  refine step1 3 (by kernel_rfl) rfl (fun K hK => ?_)
  go_simp
  refine Calls.mono (load_num y _) ?_
  rintro e w2 ⟨rfl, hg2⟩
  dsimp only
  refine hK.out _ _ (keep3 hH hg2) (fun hH => ?_)
  clear hK K
  refine step1 4 (by kernel_rfl) rfl (fun K hK => ?_)
  go_simp
  refine Calls.mono (minus_num x y hx hy _) ?_
  rintro e w3 ⟨⟨z, rfl, hz, hzp⟩, hg3⟩
  dsimp only
  refine hK.out _ _ (keep3 hH hg3) (fun hH => ?_)
  clear hK K
  refine step1 5 (by kernel_rfl) rfl (fun K hK => ?_)
  go_simp
  refine Calls.mono (bytes_num z hz _) ?_
  rintro e w4 ⟨rfl, hg4⟩
  dsimp only
  refine hK.out _ _ (keep3 hH hg4) (fun hH => ?_)
  clear hK K
  obtain ⟨hr1, hr2, hth, hgw⟩ := hH
  refine step1 6 (by kernel_rfl) rfl (fun K hK => ?_)
  refine store32 (z % p) (w.heap.size + 1 + 1) rfl (by rfl) rfl rfl hth ?_
  simp only [Act.put]
  refine hK.out _ _ ⟨World.rangeAt_setCells_apart hr1 _ _ _ (by left; omega), World.rangeAt_setCells_apart hr2 _ _ _ (by left; omega), World.there_setCells hth _ _ _, grown_setCells (by omega) _ _ hgw⟩ (fun _ => ?_)
  clear hK K
  refine wpAnyH_done (by kernel_rfl) ?_ _
  refine NoPanic.normal ?_
  repeat go_step
  rw [hzp]
  refine bodyPost_ret (v := bv (sb x y)) (result32 Tryd.results26 _ _ (w.heap.size + 1 + 1) _ ?hp (World.rangeAt_setCells_same _ _ _ _ (by rw [bl_length]; exact hth))) ?hd ?_
  case hp => rfl
  case hd => rfl
  exact ⟨rfl, grown_setCells (by omega) _ _ hgw⟩
end Go.Proofs.YtkegcilcapnpdaaDoor

namespace Go.Proofs.YtkegcilcapnpdaaDoor
open Go.RowKit Go.Shelf FieldNum

set_option maxRecDepth 100000 in
set_option maxHeartbeats 1000000 in
theorem Reduce_any (x : Nat) (hx : x < M) (w : World) :
    Calls Tryd.prog 15 #[bv x] w fun e w' => e = .returned (bv (x % p)) ∧ Grown w w' := by
  rw [bv]
  go_enter Tryd.func15, Tryd.ntmps15
  have hr : ∀ c : Array Value, ((w.alloc (.cells (bl x).toArray 23)).alloc (.cells c 23)).rangeAt w.heap.size 0 (bl x) := fun c => rangeAt_grown (rangeAt_alloc_new w 23 (bl x)) (Grown.alloc (Grown.refl _) _ _)
  have ht : ∀ c : Array Value, 32 ≤ c.size → ((w.alloc (.cells (bl x).toArray 23)).alloc (.cells c 23)).there (w.heap.size + 1) 0 32 := fun c hc => by
    have := there_alloc_new (w.alloc (.cells (bl x).toArray 23)) 23 c 32 hc
    rwa [show (w.alloc (.cells (bl x).toArray 23)).heap.size = w.heap.size + 1 by simp] at this
  go_wp2_with (with_reducible show wpList _ _ _ ({ dst := _, op := Op.load 23 _, type := _, pos := _, after := _, guard := _ } :: _) _ _; refine Shut.out ?_)
  show wpList _ _ _ _ _ _
  refine wpList_load32 rfl _ rfl _ rfl x (hr _) ?_
  simp only [Act.put, List.setIfInBounds_toArray, List.set_cons_zero, List.set_cons_succ]
  go_wp2_with fail
  refine Calls.mono (load_num x _) ?_
  rintro e w1 ⟨rfl, hg1⟩
  have hth1 := there_grown (ht _ (by simp)) hg1
  have hgw1 : Grown w w1 := grown_trans (by go_grown) hg1
  go_wp2_with fail
  refine Calls.mono (bytes_num x hx _) ?_
  rintro e w3 ⟨rfl, hg3⟩
  have hth3 := there_grown hth1 hg3
  have hgw3 := grown_trans hgw1 hg3
  go_wp2_with (with_reducible show wpList _ _ _ ({ dst := _, op := Op.store 23 _ _, type := _, pos := _, after := _, guard := _ } :: _) _ _; refine Shut.out ?_)
  show wpList _ _ _ _ _ _
  refine wpList_store32 rfl _ _ rfl _ _ rfl rfl hth3 ?_
  simp only [Act.put]
  apply wpList_nil
  repeat go_step
  refine bodyPost_ret (result32 Tryd.results15 _ _ (w.heap.size + 1) _ ?hp (World.rangeAt_setCells_same _ _ _ _ (by rw [bl_length]; exact hth3))) ?hd ?_
  case hp => rfl
  case hd => rfl
  exact ⟨rfl, grown_setCells (by omega) _ _ hgw3⟩

set_option maxRecDepth 100000 in
set_option maxHeartbeats 1000000 in
theorem Neg_any (x : Nat) (hx : x < M) (w : World) :
    Calls Tryd.prog 45 #[bv x] w fun e w' => e = .returned (bv (ng x)) ∧ Grown w w' := by
  rw [bv]
  go_enter Tryd.func45, Tryd.ntmps45
  have hr : ∀ c : Array Value, ((w.alloc (.cells (bl x).toArray 23)).alloc (.cells c 23)).rangeAt w.heap.size 0 (bl x) := fun c => rangeAt_grown (rangeAt_alloc_new w 23 (bl x)) (Grown.alloc (Grown.refl _) _ _)
  have ht : ∀ c : Array Value, 32 ≤ c.size → ((w.alloc (.cells (bl x).toArray 23)).alloc (.cells c 23)).there (w.heap.size + 1) 0 32 := fun c hc => by
    have := there_alloc_new (w.alloc (.cells (bl x).toArray 23)) 23 c 32 hc
    rwa [show (w.alloc (.cells (bl x).toArray 23)).heap.size = w.heap.size + 1 by simp] at this
  go_wp2_with (with_reducible show wpList _ _ _ ({ dst := _, op := Op.load 23 _, type := _, pos := _, after := _, guard := _ } :: _) _ _; refine Shut.out ?_)
  show wpList _ _ _ _ _ _
  refine wpList_load32 rfl _ rfl _ rfl x (hr _) ?_
  simp only [Act.put, List.setIfInBounds_toArray, List.set_cons_zero, List.set_cons_succ]
  go_wp2_with fail
  refine Calls.mono (load_num x _) ?_
  rintro e w1 ⟨rfl, hg1⟩
  have hth1 := there_grown (ht _ (by simp)) hg1
  have hgw1 : Grown w w1 := grown_trans (by go_grown) hg1
  go_wp2_with fail
  refine Calls.mono (negated_num x hx _) ?_
  rintro e w2 ⟨⟨z, rfl, hz, hzp⟩, hg2⟩
  have hth2 := there_grown hth1 hg2
  have hgw2 := grown_trans hgw1 hg2
  go_wp2_with fail
  refine Calls.mono (bytes_num z hz _) ?_
  rintro e w3 ⟨rfl, hg3⟩
  have hth3 := there_grown hth2 hg3
  have hgw3 := grown_trans hgw2 hg3
  go_wp2_with (with_reducible show wpList _ _ _ ({ dst := _, op := Op.store 23 _ _, type := _, pos := _, after := _, guard := _ } :: _) _ _; refine Shut.out ?_)
  show wpList _ _ _ _ _ _
  refine wpList_store32 rfl _ _ rfl _ _ rfl rfl hth3 ?_
  simp only [Act.put]
  apply wpList_nil
  repeat go_step
  refine bodyPost_ret (result32 Tryd.results45 _ _ (w.heap.size + 1) _ ?hp (World.rangeAt_setCells_same _ _ _ _ (by rw [bl_length]; exact hth3))) ?hd ?_
  case hp => rfl
  case hd => rfl
  exact ⟨rfl, grown_setCells (by omega) _ _ hgw3⟩

set_option maxRecDepth 100000 in
set_option maxHeartbeats 1000000 in
theorem Square_any (x : Nat) (hx : x < M) (w : World) :
    Calls Tryd.prog 19 #[bv x] w fun e w' => e = .returned (bv (x * x % p)) ∧ Grown w w' := by
  rw [bv]
  go_enter Tryd.func19, Tryd.ntmps19
  have hr : ∀ c : Array Value, ((w.alloc (.cells (bl x).toArray 23)).alloc (.cells c 23)).rangeAt w.heap.size 0 (bl x) := fun c => rangeAt_grown (rangeAt_alloc_new w 23 (bl x)) (Grown.alloc (Grown.refl _) _ _)
  have ht : ∀ c : Array Value, 32 ≤ c.size → ((w.alloc (.cells (bl x).toArray 23)).alloc (.cells c 23)).there (w.heap.size + 1) 0 32 := fun c hc => by
    have := there_alloc_new (w.alloc (.cells (bl x).toArray 23)) 23 c 32 hc
    rwa [show (w.alloc (.cells (bl x).toArray 23)).heap.size = w.heap.size + 1 by simp] at this
  go_wp2_with (with_reducible show wpList _ _ _ ({ dst := _, op := Op.load 23 _, type := _, pos := _, after := _, guard := _ } :: _) _ _; refine Shut.out ?_)
  show wpList _ _ _ _ _ _
  refine wpList_load32 rfl _ rfl _ rfl x (hr _) ?_
  simp only [Act.put, List.setIfInBounds_toArray, List.set_cons_zero, List.set_cons_succ]
  go_wp2_with fail
  refine Calls.mono (load_num x _) ?_
  rintro e w1 ⟨rfl, hg1⟩
  have hth1 := there_grown (ht _ (by simp)) hg1
  have hgw1 : Grown w w1 := grown_trans (by go_grown) hg1
  go_wp2_with fail
  refine Calls.mono (squared_num x 1 hx (by decide) _) ?_
  rintro e w2 ⟨⟨z, rfl, hz, hzp⟩, hg2⟩
  have hth2 := there_grown hth1 hg2
  have hgw2 := grown_trans hgw1 hg2
  go_wp2_with fail
  refine Calls.mono (bytes_num z hz _) ?_
  rintro e w3 ⟨rfl, hg3⟩
  have hth3 := there_grown hth2 hg3
  have hgw3 := grown_trans hgw2 hg3
  go_wp2_with (with_reducible show wpList _ _ _ ({ dst := _, op := Op.store 23 _ _, type := _, pos := _, after := _, guard := _ } :: _) _ _; refine Shut.out ?_)
  show wpList _ _ _ _ _ _
  refine wpList_store32 rfl _ _ rfl _ _ rfl rfl hth3 ?_
  simp only [Act.put]
  apply wpList_nil
  repeat go_step
  refine bodyPost_ret (result32 Tryd.results19 _ _ (w.heap.size + 1) _ ?hp (World.rangeAt_setCells_same _ _ _ _ (by rw [bl_length]; exact hth3))) ?hd ?_
  case hp => rfl
  case hd => rfl
  exact ⟨by rw [Nat.pow_two], grown_setCells (by omega) _ _ hgw3⟩
end Go.Proofs.YtkegcilcapnpdaaDoor

namespace Go.Proofs.YtkegcilcapnpdaaDoor
open Go.RowKit Go.Shelf FieldNum

theorem cells8 : Tryd.prog.cellsOf 5 = 1 := by kernel_rfl
theorem cells64 : Tryd.prog.cellsOf 64 = 1 := by kernel_rfl

theorem eqItems_ints (d : Nat) (e : TypeId) (k k' : IntKind) (hu : Tryd.prog.underlying e = some (.int k')) (hp : ∀ (xs : Array Value) (i : Nat) (v : Value) (w : World), xs[i]? = some v → (part e xs (i * 1)).run Tryd.prog w = .ok v w)
    (f g : Nat → Int) (xs ys : Array Value) (w : World) : ∀ (is : List Nat), (∀ i ∈ is, xs[i]? = some (.int k (f i))) → (∀ i ∈ is, ys[i]? = some (.int k (g i))) →
    (Op.eqItems (d + 1) e 1 xs ys is).run Tryd.prog w = .ok (decide (∀ i ∈ is, f i = g i)) w
  | [], _, _ => by simp [Op.eqItems]
  | i :: is, hx, hy => by
    have ih := eqItems_ints d e k k' hu hp f g xs ys w is (fun j hj => hx j (by simp [hj])) (fun j hj => hy j (by simp [hj]))
    have p1 := hp xs i _ w (hx i (by simp))
    have p2 := hp ys i _ w (hy i (by simp))
    have p3 := run_equalIn_int (P := Tryd.prog) (w := w) d e k k' (f i) (g i) hu
    simp only [Op.eqItems, Sem.run_bind, p1, p2, p3, Result.andThen_ok]
    by_cases h : f i = g i
    · simp [h, ih]
    · simp [h]

theorem digits_eq (b m n : Nat) : ∀ k : Nat, (∀ i, i < k → m / b ^ i % b = n / b ^ i % b) → m % b ^ k = n % b ^ k
  | 0, _ => by simp [Nat.mod_one]
  | k + 1, h => by
    have ih := digits_eq b m n k (fun i hi => h i (by omega))
    have hk := h k (by omega)
    rw [Nat.pow_succ, Nat.mod_mul, Nat.mod_mul, ih, hk]

theorem bytes_eq_iff {m n : Nat} (hm : m < M) (hn : n < M) : (∀ i ∈ List.range 32, ((m / 256 ^ i % 256 : Nat) : Int) = ((n / 256 ^ i % 256 : Nat) : Int)) ↔ m = n := by
  constructor
  · intro h
    have := digits_eq 256 m n 32 (fun i hi => by have := h i (by simp [hi]); omega)
    have e : 256 ^ 32 = M := by decide
    rw [e, Nat.mod_eq_of_lt hm, Nat.mod_eq_of_lt hn] at this
    exact this
  · rintro rfl i _; rfl

theorem equal32 (d : Nat) (m n : Nat) (hm : m < M) (hn : n < M) (w : World) : (Op.equalIn (d + 2) 23 (bv m) (bv n)).run Tryd.prog w = .ok (decide (m = n)) w := by
  obtain ⟨i, hi⟩ : ∃ i, Tryd.prog.info? 5 = some i := Option.isSome_iff_exists.1 (by kernel_rfl)
  unfold bv
  rw [run_equalIn_array (w := w) (d + 1) _ _ Tryd.underlying23 hi, cells8]
  rw [eqItems_ints d 5 .u8 .u8 Tryd.underlying5 (fun xs j v w hv => by rw [Nat.mul_one]; exact run_part_plain (w := w) (by kernel_rfl) hv) (fun j => ((m / 256 ^ j % 256 : Nat) : Int)) (fun j => ((n / 256 ^ j % 256 : Nat) : Int)) _ _ w (List.range 32)
    (fun j hj => by rw [List.getElem?_toArray]; exact bl_get m j (by simpa using hj)) (fun j hj => by rw [List.getElem?_toArray]; exact bl_get n j (by simpa using hj))]
  simp only [bytes_eq_iff hm hn]

theorem exec_neq32 {o : Oper} {ρ : Operand → Value} {x y : Operand} {t : TypeId} (ho : o.op = .binOp .neq 23 x y t) (m n : Nat) (hx : ρ x = bv m) (hy : ρ y = bv n) (hm : m < M) (hn : n < M) (w : World) :
    (execOp ρ o).run Tryd.prog w = .ok (.value (.bool (!decide (m = n)))) w := by
  have he := equal32 9998 m n hm hn w
  unfold bv at *
  unfold execOp
  simp only [ho, hx, hy, Sem.run_bind, run_eqGuard_agg (P := Tryd.prog) (w := w) .neq 23 x y _ _ Tryd.eqGuardType23, run_neq_struct, he, Result.andThen_ok, Sem.run_pure]

theorem exec_eql32 {o : Oper} {ρ : Operand → Value} {x y : Operand} {t : TypeId} (ho : o.op = .binOp .eql 23 x y t) (m n : Nat) (hx : ρ x = bv m) (hy : ρ y = bv n) (hm : m < M) (hn : n < M) (w : World) :
    (execOp ρ o).run Tryd.prog w = .ok (.value (.bool (decide (m = n)))) w := by
  have he := equal32 9998 m n hm hn w
  unfold bv at *
  unfold execOp
  simp only [ho, hx, hy, Sem.run_bind, run_eqGuard_agg (P := Tryd.prog) (w := w) .eql 23 x y _ _ Tryd.eqGuardType23, run_eql_struct, he, Result.andThen_ok, Sem.run_pure]
end Go.Proofs.YtkegcilcapnpdaaDoor

namespace Go.Proofs.YtkegcilcapnpdaaDoor
open Go.RowKit Go.Shelf FieldNum

/-- which variables hold which numbers -/
def Holds (l : List (Nat × Nat)) (w : World) : Prop := ∀ q ∈ l, w.rangeAt q.1 0 (bl q.2)

set_option maxRecDepth 100000 in
theorem Holds.grown {l : List (Nat × Nat)} {w w' : World} (h : Holds l w) (hg : Grown w w') : Holds l w' := fun q hq => rangeAt_grown (h q hq) hg
set_option maxRecDepth 100000 in
theorem Holds.cons {l : List (Nat × Nat)} {w : World} {b n : Nat} (h : Holds l w) (hb : w.rangeAt b 0 (bl n)) : Holds ((b, n) :: l) w := by
  intro q hq
  rcases List.mem_cons.1 hq with rfl | hq
  · exact hb
  · exact h q hq
set_option maxRecDepth 100000 in
theorem Holds.nil (w : World) : Holds [] w := fun _ h => by cases h

set_option maxRecDepth 100000 in
theorem keepE {l : List (Nat × Nat)} {W w1 w2 : World} (h : Holds l w1 ∧ Grown W w1) (hg : Grown w1 w2) : Holds l w2 ∧ Grown W w2 := ⟨h.1.grown hg, grown_trans h.2 hg⟩

section
variable {ops : Array Oper} {Q : Exit → Act → World → Prop} {md : Region.Mode} {S : World → Prop} {fuel : Nat} {listed : Array Bool} {a : Act} {w : World}

set_option maxRecDepth 100000 in
theorem takeV (i : Nat) (v : Value) {oi : Oper} (hi : ops.toList[i]? = some oi) (hs : Region.noSelect ops = true) (hf : Region.free md ops listed i = true) (hr : (Region.ready md ops listed).contains i = true)
    (hQ : ∀ c a w, Q (.panic c) (a.put oi.dst v) w → Q (.panic c) a w) (hw : Region.wanted oi (yielded ops a.tmps) = true)
    (hy : ∀ w, S w → (execOp a.eval oi).run Tryd.prog w = .ok (.value v) w) (hSw : S w)
    (h : wpAnyH Tryd.prog md ops Q S fuel (listed.setIfInBounds i true) (a.put oi.dst v) w) : wpAnyH Tryd.prog md ops Q S (fuel + 1) listed a w :=
  wpAnyH_take (i := i) (oi := oi) (v := v) (by rw [← Array.getElem?_toList]; exact hi) hs hf hr hQ (Or.inl ⟨hw, hy⟩) hSw h

set_option maxRecDepth 100000 in
theorem takeU (i : Nat) {oi : Oper} (hi : ops.toList[i]? = some oi) (hs : Region.noSelect ops = true) (hf : Region.free md ops listed i = true) (hr : (Region.ready md ops listed).contains i = true)
    (hQ : ∀ c a w, Q (.panic c) (a.put oi.dst undef) w → Q (.panic c) a w) (hw : Region.wanted oi (yielded ops a.tmps) = false) (hSw : S w)
    (h : wpAnyH Tryd.prog md ops Q S fuel (listed.setIfInBounds i true) (a.put oi.dst undef) w) : wpAnyH Tryd.prog md ops Q S (fuel + 1) listed a w :=
  wpAnyH_take (i := i) (oi := oi) (v := undef) (by rw [← Array.getElem?_toList]; exact hi) hs hf hr hQ (Or.inr ⟨hw, rfl⟩) hSw h

set_option maxRecDepth 100000 in
theorem exec_neq_same {o : Oper} {ρ : Operand → Value} {x y : Operand} {t : TypeId} (ho : o.op = .binOp .neq 23 x y t) (m n : Nat) (hx : ρ x = bv m) (hy : ρ y = bv n) (hm : m < M) (hn : n < M) (e : m = n) (w : World) :
    (execOp ρ o).run Tryd.prog w = .ok (.value (.bool false)) w := by
  rw [exec_neq32 ho m n hx hy hm hn w, decide_eq_true e]; rfl
set_option maxRecDepth 100000 in
theorem exec_neq_apart {o : Oper} {ρ : Operand → Value} {x y : Operand} {t : TypeId} (ho : o.op = .binOp .neq 23 x y t) (m n : Nat) (hx : ρ x = bv m) (hy : ρ y = bv n) (hm : m < M) (hn : n < M) (e : ¬ m = n) (w : World) :
    (execOp ρ o).run Tryd.prog w = .ok (.value (.bool true)) w := by
  rw [exec_neq32 ho m n hx hy hm hn w, decide_eq_false e]; rfl
set_option maxRecDepth 100000 in
theorem exec_eql_same {o : Oper} {ρ : Operand → Value} {x y : Operand} {t : TypeId} (ho : o.op = .binOp .eql 23 x y t) (m n : Nat) (hx : ρ x = bv m) (hy : ρ y = bv n) (hm : m < M) (hn : n < M) (e : m = n) (w : World) :
    (execOp ρ o).run Tryd.prog w = .ok (.value (.bool true)) w := by
  rw [exec_eql32 ho m n hx hy hm hn w, decide_eq_true e]
set_option maxRecDepth 100000 in
theorem exec_eql_apart {o : Oper} {ρ : Operand → Value} {x y : Operand} {t : TypeId} (ho : o.op = .binOp .eql 23 x y t) (m n : Nat) (hx : ρ x = bv m) (hy : ρ y = bv n) (hm : m < M) (hn : n < M) (e : ¬ m = n) (w : World) :
    (execOp ρ o).run Tryd.prog w = .ok (.value (.bool false)) w := by
  rw [exec_eql32 ho m n hx hy hm hn w, decide_eq_false e]

set_option maxRecDepth 100000 in
/-- a new variable, and what is laid into it -/
theorem wpList_store_new {rest : List Oper} {o : Oper} {x y : Operand} {c : Array Value} (n : Nat) (hc : 32 ≤ c.size) (hgd : o.guard = none) (ho : o.op = .store 23 x y)
    (hx : a.eval x = .pointer (some ⟨w.heap.size, 0, none⟩)) (hy : a.eval y = bv n)
    (h : ∀ w2, Grown w w2 → w2.rangeAt w.heap.size 0 (bl n) → w2.there w.heap.size 0 32 → wpList Tryd.prog ops Q rest (a.put o.dst undef) w2) :
    wpList Tryd.prog ops Q (o :: rest) a (w.alloc (.cells c 23)) := by
  have ht := there_alloc_new w 23 c 32 hc
  refine wpList_store32 hgd x y ho w.heap.size n hx hy ht ?_
  exact h _ (grown_setCells (Nat.le_refl _) _ _ (Grown.alloc (Grown.refl _) _ _)) (World.rangeAt_setCells_same _ _ _ _ (by rw [bl_length]; exact ht)) (World.there_setCells ht _ _ _)
end

set_option maxRecDepth 100000 in
theorem bl_small (n : Int) (h0 : 0 ≤ n) (h1 : n < 256) : bl n.toNat = (.int .u8 n) :: List.replicate 31 (.int .u8 0) := by
  obtain ⟨k, rfl⟩ := Int.eq_ofNat_of_zero_le h0
  have hk : k < 256 := by omega
  simp only [Int.toNat_natCast, bl, List.range, List.range.loop, List.map, List.replicate]
  simp only [List.cons.injEq, Value.int.injEq, true_and, and_true, Nat.reducePow]
  refine ⟨?_, ?_, ?_, ?_, ?_, ?_, ?_, ?_, ?_, ?_, ?_, ?_, ?_, ?_, ?_, ?_, ?_, ?_, ?_, ?_, ?_, ?_, ?_, ?_, ?_, ?_, ?_, ?_, ?_, ?_, ?_, ?_⟩ <;> omega

set_option maxHeartbeats 1000000 in
theorem number_any (n : Int) (h0 : 0 ≤ n) (h1 : n < 256) (w : World) :
    Calls Tryd.prog 11 #[.int .u8 n] w fun e w' => e = .returned (bv n.toNat) ∧ Grown w w' := by
  have hb := bl_small n h0 h1
  go_enter Tryd.func11, Tryd.ntmps11
  go_wp2_with (with_reducible show wpList _ _ _ ({ dst := _, op := Op.store 23 _ _, type := _, pos := _, after := _, guard := _ } :: _) _ _; refine Shut.out ?_)
  show wpList _ _ _ _ _ _
  refine wpList_store_new n.toNat (by simp) rfl rfl rfl (by unfold bv; rw [hb]; rfl) (fun w2 hg hr _ => ?_)
  simp only [Act.put]
  apply wpList_nil
  repeat go_step
  refine bodyPost_ret (result32 Tryd.results11 _ _ w.heap.size _ ?hp hr) ?hd ?_
  case hp => rfl
  case hd => rfl
  exact ⟨rfl, hg⟩

set_option maxRecDepth 100000 in
theorem number_nat (n : Nat) (hn : n < 256) (i : Int) (hi : i = (n : Int)) (w : World) :
    Calls Tryd.prog 11 #[.int .u8 i] w fun e w' => e = .returned (bv n) ∧ Grown w w' := by
  have := number_any i (by omega) (by omega) w
  rwa [show i.toNat = n by omega] at this

set_option maxRecDepth 100000 in
theorem params1 (w : World) (a : Nat) : Holds [(w.heap.size, a)] (w.alloc (.cells (bl a).toArray 23)) ∧ Grown w (w.alloc (.cells (bl a).toArray 23)) :=
  ⟨(Holds.nil _).cons (rangeAt_alloc_new w 23 (bl a)), Grown.alloc (Grown.refl _) _ _⟩

set_option maxRecDepth 100000 in
theorem params2 (w : World) (a b : Nat) : Holds [(w.heap.size, a), (w.heap.size + 1, b)] ((w.alloc (.cells (bl a).toArray 23)).alloc (.cells (bl b).toArray 23)) ∧ Grown w ((w.alloc (.cells (bl a).toArray 23)).alloc (.cells (bl b).toArray 23)) := by
  have h1 := rangeAt_grown (rangeAt_alloc_new w 23 (bl a)) (Grown.alloc (Grown.refl _) (bl b).toArray 23)
  have h2 := rangeAt_alloc_new (w.alloc (.cells (bl a).toArray 23)) 23 (bl b)
  rw [show (w.alloc (.cells (bl a).toArray 23)).heap.size = w.heap.size + 1 by simp] at h2
  exact ⟨((Holds.nil _).cons h2).cons h1, by go_grown⟩

set_option maxRecDepth 100000 in
theorem params3 (w : World) (a b c : Nat) : Holds [(w.heap.size, a), (w.heap.size + 1, b), (w.heap.size + 1 + 1, c)] (((w.alloc (.cells (bl a).toArray 23)).alloc (.cells (bl b).toArray 23)).alloc (.cells (bl c).toArray 23)) ∧
    Grown w (((w.alloc (.cells (bl a).toArray 23)).alloc (.cells (bl b).toArray 23)).alloc (.cells (bl c).toArray 23)) := by
  obtain ⟨h, _⟩ := params2 w a b
  have h1 := h.grown (Grown.alloc (Grown.refl _) (bl c).toArray 23)
  have h2 := rangeAt_alloc_new ((w.alloc (.cells (bl a).toArray 23)).alloc (.cells (bl b).toArray 23)) 23 (bl c)
  rw [show ((w.alloc (.cells (bl a).toArray 23)).alloc (.cells (bl b).toArray 23)).heap.size = w.heap.size + 1 + 1 by simp] at h2
  exact ⟨(((Holds.nil _).cons h2).cons (h1 _ (.tail _ (.head _)))).cons (h1 _ (.head _)), by go_grown⟩
end Go.Proofs.YtkegcilcapnpdaaDoor

namespace Go.Proofs.YtkegcilcapnpdaaDoor
open Go.RowKit Go.Shelf FieldNum

/-- the answers, under names -/
def fadd (x y : Nat) : Nat := (x + y) % p
def fmul (x y : Nat) : Nat := x * y % p
def fred (x : Nat) : Nat := x % p
set_option maxRecDepth 100000 in
theorem fadd_lt (x y : Nat) : fadd x y < M := mod_lt256 _
set_option maxRecDepth 100000 in
theorem fmul_lt (x y : Nat) : fmul x y < M := mod_lt256 _
set_option maxRecDepth 100000 in
theorem fred_lt (x : Nat) : fred x < M := mod_lt256 _
set_option maxRecDepth 100000 in
theorem fsb_lt (x y : Nat) : sb x y < M := lt256 (sb_lt _ _)
set_option maxRecDepth 100000 in
theorem fng_lt (x : Nat) : ng x < M := lt256 (ng_lt _)
set_option maxRecDepth 100000 in
theorem Add_f (x y : Nat) (hx : x < M) (hy : y < M) (w : World) : Calls Tryd.prog 21 #[bv x, bv y] w fun e w' => e = .returned (bv (fadd x y)) ∧ Grown w w' := Add_any x y hx hy w
set_option maxRecDepth 100000 in
theorem Mul_f (x y : Nat) (hx : x < M) (hy : y < M) (w : World) : Calls Tryd.prog 14 #[bv x, bv y] w fun e w' => e = .returned (bv (fmul x y)) ∧ Grown w w' := Mul_any x y hx hy w
set_option maxRecDepth 100000 in
theorem Square_f (x : Nat) (hx : x < M) (w : World) : Calls Tryd.prog 19 #[bv x] w fun e w' => e = .returned (bv (fmul x x)) ∧ Grown w w' := Square_any x hx w
set_option maxRecDepth 100000 in
theorem Reduce_f (x : Nat) (hx : x < M) (w : World) : Calls Tryd.prog 15 #[bv x] w fun e w' => e = .returned (bv (fred x)) ∧ Grown w w' := Reduce_any x hx w

set_option maxRecDepth 100000 in
theorem zero32 : (∀ w, (zeroValue 23).run Tryd.prog w = .ok (bv 0) w) ∧ (Tryd.prog.info? 23).map (·.size) = some 32 :=
  zero_of_info (P := Tryd.prog) (t := 23) (v := bv 0) (n := 32) (by kernel_rfl)

section
variable {ops : Array Oper} {Q : Exit → Act → World → Prop} {md : Region.Mode} {S : World → Prop} {fuel : Nat} {listed : Array Bool} {a : Act} {w : World}

set_option maxRecDepth 100000 in
theorem run_alloc32 (w : World) (old : Value) : (Instr.alloc 23 true old).run Tryd.prog w = .ok (.pointer (some ⟨w.heap.size, 0, none⟩)) (w.alloc (.cells (bl 0).toArray 23)) := by
  have h1 := zero32.1
  unfold bv at h1
  have hi := info32
  simp [Instr.alloc, h1, go_sem]

set_option maxRecDepth 100000 in
/-- a new variable in a region that draws -/
theorem alloc_op {o : Oper} {K : Act → World → Prop} (ho : o.op = .alloc 23) (hw : Region.wanted o (yielded ops a.tmps) = true)
    (h : ∀ w2, Grown w w2 → w2.there w.heap.size 0 32 → K (a.put o.dst (.pointer (some ⟨w.heap.size, 0, none⟩))) w2) :
    if Region.wanted o (yielded ops a.tmps) = true then Oper.wp Tryd.prog o a w K Q else K (a.put o.dst undef) w := by
  rw [if_pos hw]
  unfold Oper.wp execOp
  simp only [ho, Sem.run_bind, run_alloc32, Result.andThen_ok, Sem.run_pure]
  exact h _ (Grown.alloc (Grown.refl _) _ _) (there_alloc_new w 23 _ 32 (by simp [bl_length]))

set_option maxRecDepth 100000 in
/-- a store into a new variable, in a region that draws -/
theorem store_op {o : Oper} {K : Act → World → Prop} {W0 : World} (n : Nat) {x y : Operand} (ho : o.op = .store 23 x y) (hw : Region.wanted o (yielded ops a.tmps) = true)
    (hx : a.eval x = .pointer (some ⟨W0.heap.size, 0, none⟩)) (hy : a.eval y = bv n) (ht : w.there W0.heap.size 0 32) (hA : Grown W0 w)
    (h : ∀ w2, Grown W0 w2 → w2.rangeAt W0.heap.size 0 (bl n) → K (a.put o.dst undef) w2) :
    if Region.wanted o (yielded ops a.tmps) = true then Oper.wp Tryd.prog o a w K Q else K (a.put o.dst undef) w :=
  store32 n W0.heap.size ho hw hx hy ht (h _ (grown_setCells (Nat.le_refl _) _ _ hA) (World.rangeAt_setCells_same _ _ _ _ (by rw [bl_length]; exact ht)))

set_option maxRecDepth 100000 in
/-- two operations may come up -/
theorem step2 (i j : Nat) {o o' : Oper} (hr : Region.ready md ops listed = [i, j]) (hi : ops.toList[i]? = some o) (hj : ops.toList[j]? = some o')
    (h : ∀ K' : Act → World → Prop, Shut (∀ a w, S w → (S w → wpAnyH Tryd.prog md ops Q S fuel (listed.setIfInBounds i true) a w) → K' a w) → if Region.wanted o (yielded ops a.tmps) = true then Oper.wp Tryd.prog o a w K' Q else K' (a.put o.dst undef) w)
    (h' : ∀ K' : Act → World → Prop, Shut (∀ a w, S w → (S w → wpAnyH Tryd.prog md ops Q S fuel (listed.setIfInBounds j true) a w) → K' a w) → if Region.wanted o' (yielded ops a.tmps) = true then Oper.wp Tryd.prog o' a w K' Q else K' (a.put o'.dst undef) w) :
    wpAnyH Tryd.prog md ops Q S (fuel + 1) listed a w :=
  wpAnyH_ready hr (by simp) (AllReadyH.cons (by rw [← Array.getElem?_toList]; exact hi) h (AllReadyH.cons (by rw [← Array.getElem?_toList]; exact hj) h' AllReadyH.nil))
end
end Go.Proofs.YtkegcilcapnpdaaDoor
