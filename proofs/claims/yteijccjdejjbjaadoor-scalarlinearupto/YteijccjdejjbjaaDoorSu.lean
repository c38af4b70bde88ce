import Derived.Test.YteijccjdejjbjaaDoorLd
namespace Go.Proofs.YteijccjdejjbjaaDoor
open Go.RowKit Go.Shelf ScalarNum

theorem sub_borrow {a b c : Nat} (ha : a < B) (hb : b < B) (hc : c ≤ 1) : (a + B - b - c) % B + (b + c) = a + (if a < b + c then 1 else 0) * B := by
  have h : ∀ a b c : Nat, a < 18446744073709551616 → b < 18446744073709551616 → c ≤ 1 → (a + 18446744073709551616 - b - c) % 18446744073709551616 + (b + c) = a + (if a < b + c then 1 else 0) * 18446744073709551616 := by
    intro a b c h1 h2 h3
    split <;> omega
  exact h a b c ha hb hc

structure SX (w0 : World) (b x y v c k : Nat) (wr : World) : Prop where
  rx : wr.rangeAt b 0 (wl 4 v)
  tx : wr.there b 0 4
  ry : wr.rangeAt w0.heap.size 0 (wl 4 y)
  eq : v + y % B ^ k = x + c * B ^ k
  vM : v < M
  c1 : c ≤ 1
  gw : GB b w0 wr

set_option maxRecDepth 100000 in
set_option maxHeartbeats 4000000 in
theorem sub_num (b x y : Nat) (hx : x < M) (hy : y < M) (w : World) (hr : w.rangeAt b 0 (wl 4 x)) (ht : w.there b 0 4) :
    Calls Tryd.prog 66 #[.pointer (some ⟨b, 0, none⟩), wv 4 y] w fun e w' => e = .returned (.tuple #[]) ∧ GB b w w' ∧ (∃ v c, w'.rangeAt b 0 (wl 4 v) ∧ v + y = x + c * M ∧ v < M) ∧ w'.there b 0 4 := by
  have hbs : b < w.heap.size := there_lt ht (by decide)
  rw [wv]
  go_enter Tryd.func66, Tryd.ntmps66
  go_wp2
  have g0 : Grown w (w.alloc (.cells (wl 4 y).toArray 62)) := Grown.alloc (Grown.refl _) _ _
  have h0 : SX w b x y x 0 0 (w.alloc (.cells (wl 4 y).toArray 62)) :=
    ⟨rangeAt_grown hr g0, there_grown ht g0, rangeAt_alloc_new w 62 (wl 4 y), by rw [Nat.zero_mul, Nat.pow_zero, Nat.mod_one], hx, by decide, GB.of g0⟩
  generalize (w.alloc (.cells (wl 4 y).toArray 62)) = W0 at *
  clear g0 hr ht
  go_loopw [4, 6] (fun v4 v6 wr => ∃ k v c : Nat, v6 = .int .i64 (k : Int) ∧ v4 = .int .u64 (c : Int) ∧ k ≤ 4 ∧ SX w b x y v c k wr) (fun _ v6 _ => 4 - (intOf v6).toNat)
  case atStart => exact ⟨0, x, 0, rfl, rfl, by decide, h0⟩
  case round =>
    obtain ⟨k, v, c, rfl, rfl, hk, hA⟩ := hrel
    clear h0
    obtain ⟨rx, tx, ry, eq, vM, c1, gw⟩ := hA
    by_cases hlt : k < 4
    · have d1 : wr.cell? ⟨b, k, none⟩ = some (.int .u64 (dg B v k : Nat)) := by
        have := rx k _ (wl_get 4 _ k hlt); rwa [Nat.zero_add] at this
      have d2 : wr.cell? ⟨w.heap.size, k, none⟩ = some (.int .u64 (dg B y k : Nat)) := by
        have := ry k _ (wl_get 4 _ k hlt); rwa [Nat.zero_add] at this
      have d3 : wr.frozen? ⟨b, k, none⟩ = false := by
        have := (tx k hlt).2; rwa [Nat.zero_add] at this
      have hw1 : dg B v k < B := dg_lt B_pos
      have hw2 : dg B y k < B := dg_lt B_pos
      have hcall : ∀ w, (callFunc 70 #[.int .u64 (dg B v k : Nat), .int .u64 (dg B y k : Nat), .int .u64 (c : Int)]).run Tryd.prog w = .ok (.value (.tuple #[.int .u64 (((dg B v k + B - dg B y k - c) % B : Nat) : Int), .int .u64 ((if dg B v k < dg B y k + c then 1 else 0 : Nat) : Int)])) w := fun w => sub64 (dg B v k) (dg B y k) c c1 w
      have l1 := sub_step eq (sub_borrow hw1 hw2 c1)
      have hs : (dg B v k + B - dg B y k - c) % B < B := Nat.mod_lt _ B_pos
      have hst := st_lt (n := 4) B_pos hs hlt (by rw [B4]; exact vM)
      have hq : (if dg B v k < dg B y k + c then 1 else 0) ≤ 1 := by split <;> omega
      generalize (dg B v k + B - dg B y k - c) % B = rr at *
      generalize (if dg B v k < dg B y k + c then 1 else 0) = qq at *
      generalize dg B y k = yd at *
      generalize dg B v k = vd at *
      have b1 : (k : Int) < 4 := by omega
      have H1 := Hid.of l1
      have H2 := Hid.of hs
      have H3 := Hid.of hq
      have H4 := Hid.of rx
      have H5 := Hid.of tx
      have H6 := Hid.of ry
      have H7 := Hid.of hst
      have H8 := Hid.of gw
      clear l1 hs hq rx tx ry hst gw eq vM c1 hw1 hw2
      go_wp2
      go_region
      go_wp2
      go_roundw
      case rel =>
        refine ⟨k + 1, st B v k rr, qq, by go_num, rfl, by omega, ?_⟩
        exact ⟨wrange_set H4.out H2.out hlt, there_setCell H5.out _ _, range_put H6.out _ _ (by omega) _, H1.out, by rw [← B4]; exact H7.out, H3.out, GB.drewN (GB.setCell H8.out _) 1⟩
      case measure => simp [intOf]; omega
    · have hk4 : k = 4 := by omega
      subst hk4
      rw [B4, Nat.mod_eq_of_lt hy] at eq
      have H := Hid.of (show GB b w wr ∧ (∃ v c, wr.rangeAt b 0 (wl 4 v) ∧ v + y = x + c * M ∧ v < M) ∧ wr.there b 0 4 from ⟨gw, ⟨v, c, rx, eq, vM⟩, tx⟩)
      clear rx tx ry eq vM c1 gw hk hlt
      go_wp2
      go_end0
      exact ⟨rfl, H.out⟩
end Go.Proofs.YteijccjdejjbjaaDoor
