import Derived.Test.YteijccjdejjbjaaDoorLd
namespace Go.Proofs.YteijccjdejjbjaaDoor
open Go.RowKit Go.Shelf ScalarNum

theorem yl32_zero : (yl 32 0).toArray = #[.int .u8 0, .int .u8 0, .int .u8 0, .int .u8 0, .int .u8 0, .int .u8 0, .int .u8 0, .int .u8 0, .int .u8 0, .int .u8 0, .int .u8 0, .int .u8 0, .int .u8 0, .int .u8 0, .int .u8 0, .int .u8 0, .int .u8 0, .int .u8 0, .int .u8 0, .int .u8 0, .int .u8 0, .int .u8 0, .int .u8 0, .int .u8 0, .int .u8 0, .int .u8 0, .int .u8 0, .int .u8 0, .int .u8 0, .int .u8 0, .int .u8 0, .int .u8 0] := by rfl

theorem alloc3 (w : World) (t1 t2 t3 : TypeId) (cs : List Value) (c2 : Array Value) (cs3 : List Value) :
    (((w.alloc (.cells cs.toArray t1)).alloc (.cells c2 t2)).alloc (.cells cs3.toArray t3)).rangeAt w.heap.size 0 cs ∧
    (((w.alloc (.cells cs.toArray t1)).alloc (.cells c2 t2)).alloc (.cells cs3.toArray t3)).there (w.heap.size + 1) 0 c2.size ∧
    (((w.alloc (.cells cs.toArray t1)).alloc (.cells c2 t2)).alloc (.cells cs3.toArray t3)).rangeAt (w.heap.size + 1 + 1) 0 cs3 ∧
    (((w.alloc (.cells cs.toArray t1)).alloc (.cells c2 t2)).alloc (.cells cs3.toArray t3)).there (w.heap.size + 1 + 1) 0 cs3.length ∧
    Grown w (((w.alloc (.cells cs.toArray t1)).alloc (.cells c2 t2)).alloc (.cells cs3.toArray t3)) := by
  have g1 : ∀ (w : World) (t : TypeId) (a : Array Value), Grown w (w.alloc (.cells a t)) := fun w t a => Grown.alloc (Grown.refl _) _ _
  have s1 : (w.alloc (.cells cs.toArray t1)).heap.size = w.heap.size + 1 := by simp
  have b1 := rangeAt_alloc_new w t1 cs
  have gV1 := g1 w t1 cs.toArray
  generalize w.alloc (.cells cs.toArray t1) = V1 at *
  have s2 : (V1.alloc (.cells c2 t2)).heap.size = w.heap.size + 1 + 1 := by simp [s1]
  have b2 := there_alloc_new V1 t2 c2 c2.size (Nat.le_refl _)
  rw [s1] at b2
  have gV2 := g1 V1 t2 c2
  generalize V1.alloc (.cells c2 t2) = V2 at *
  have b3 := rangeAt_alloc_new V2 t3 cs3
  have b4 := there_alloc_new V2 t3 cs3.toArray cs3.length (by simp)
  rw [s2] at b3 b4
  exact ⟨rangeAt_grown (rangeAt_grown b1 gV2) (g1 _ _ _), there_grown b2 (g1 _ _ _), b3, b4, grown_trans (grown_trans gV1 gV2) (g1 _ _ _)⟩

structure BX (w0 : World) (n i : Nat) (wr : World) : Prop where
  rx : wr.rangeAt w0.heap.size 0 (wl 4 n)
  tr : wr.there (w0.heap.size + 1) 0 32
  rb : wr.rangeAt (w0.heap.size + 1 + 1) 0 (yl 32 (n % 256 ^ i))
  tb : wr.there (w0.heap.size + 1 + 1) 0 32
  gw : Grown w0 wr

set_option maxRecDepth 100000 in
set_option maxHeartbeats 4000000 in
theorem bytes_num (n : Nat) (hn : n < M) (w : World) : Calls Tryd.prog 41 #[wv 4 n] w fun e w' => e = .returned (yv 32 n) ∧ Grown w w' := by
  rw [wv]
  go_enter Tryd.func41, Tryd.ntmps41
  go_wp2
  rw [← yl32_zero]
  have h0 := alloc3 w 62 23 23 (wl 4 n) (yl 32 0).toArray (yl 32 0)
  rw [show (yl 32 0).toArray.size = 32 from rfl, show (yl 32 0).length = 32 from rfl] at h0
  generalize (((w.alloc (Obj.cells (wl 4 n).toArray 62)).alloc (Obj.cells (yl 32 0).toArray 23)).alloc (Obj.cells (yl 32 0).toArray 23)) = W0 at *
  go_loopw [5] (fun v5 wr => ∃ i : Nat, v5 = .int .i64 (i : Int) ∧ i ≤ 32 ∧ BX w n i wr) (fun v5 _ => 32 - (intOf v5).toNat)
  case atStart =>
    refine ⟨0, rfl, by decide, h0.1, h0.2.1, ?_, h0.2.2.2.1, h0.2.2.2.2⟩
    rw [Nat.pow_zero, Nat.mod_one]; exact h0.2.2.1
  case round =>
    obtain ⟨i, rfl, hi, hL⟩ := hrel
    clear h0
    obtain ⟨rx, tr, rb, tb, gw⟩ := hL
    by_cases hlt : i < 32
    · have c2 : wr.cell? ⟨w.heap.size, i / 8, none⟩ = some (.int .u64 (dg B n (i / 8) : Nat)) := by
        have := rx (i / 8) _ (wl_get 4 _ (i / 8) (by omega)); rwa [Nat.zero_add] at this
      have c1 := (tb i hlt).2
      have c0 := rb i _ (yl_get 32 _ i hlt)
      rw [Nat.zero_add] at c0 c1
      generalize (Value.int IntKind.u8 (dg 256 (n % 256 ^ i) i : Nat)) = u0 at c0
      have l1 := byte_word n i
      have l2 := by_step n i
      have hb0 : dg 256 n i < 256 := dg_lt (by decide)
      generalize dg 256 n i = bt at *
      generalize dg B n (i / 8) = wd at *
      have b1 : (i : Int) < 32 := by omega
      have H1 := Hid.of l1
      have H2 := Hid.of l2
      have H3 := Hid.of hb0
      have H4 := Hid.of rx
      have H5 := Hid.of tb
      have H6 := Hid.of rb
      have H7 := Hid.of tr
      have H8 := Hid.of gw
      clear l1 l2 hb0 rx tb rb tr gw
      go_wp2
      have e : ((wd : Int) / 2 ^ (i % 8 * 8) % 256) = ((bt : Nat) : Int) := by
        rw [← H1.out]; simp
      rw [e]
      go_roundw
      case rel =>
        refine ⟨i + 1, by go_num, by omega, ?_⟩
        have r1 := yrange_set H6.out H3.out (show i < 32 from hlt)
        rw [H2.out] at r1
        exact ⟨range_put H4.out _ _ (by omega) _, there_setCell H7.out _ _, r1, there_setCell H5.out _ _, Grown.setCell H8.out (by show _ ≤ w.heap.size + 1 + 1; omega) _⟩
      case measure => simp [intOf]; omega
    · have hi32 : i = 32 := by omega
      subst hi32
      have e32 : n % 256 ^ 32 = n := Nat.mod_eq_of_lt (by rw [show (256 : Nat) ^ 32 = M from by decide]; exact hn)
      rw [e32] at rb
      have H4 := Hid.of rb
      have H7 := Hid.of tr
      have H8 := Hid.of gw
      clear rb tr rx tb gw hi hlt e32
      go_wp2_with (with_reducible show wpList _ _ _ ({ dst := _, op := Op.load 23 _, type := _, pos := _, after := _, guard := _ } :: _) _ _; refine Shut.out ?_)
      show wpList _ _ _ _ _ _
      refine wpList_load32 rfl _ rfl (w.heap.size + 1 + 1) rfl n H4.out ?_
      simp only [Act.put, List.setIfInBounds_toArray, List.set_cons_zero, List.set_cons_succ]
      refine wpList_store32 rfl _ _ rfl (w.heap.size + 1) n rfl rfl H7.out ?_
      simp only [Act.put]
      apply wpList_nil
      repeat go_step
      refine bodyPost_ret (v := yv 32 n) (result32 Tryd.results41 _ _ (w.heap.size + 1) _ ?hp (World.rangeAt_setCells_same _ _ _ _ (by rw [yl_length]; exact H7.out))) ?hd ?_
      case hp => rfl
      case hd => rfl
      exact ⟨rfl, grown_setCells (by omega) _ _ H8.out⟩
end Go.Proofs.YteijccjdejjbjaaDoor
