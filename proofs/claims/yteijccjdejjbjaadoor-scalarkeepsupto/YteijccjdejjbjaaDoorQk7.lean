import Derived.Test.YteijccjdejjbjaaDoorQk6
namespace Go.Proofs.YteijccjdejjbjaaDoor
open Go.RowKit Go.Shelf ScalarNum

theorem wrap8 (n : Int) : IntKind.i8.wrap n = (n + 128) % 256 - 128 := by
  simp [IntKind.wrap, IntKind.signed, IntKind.bits]
  split <;> omega
theorem mask (x w : Nat) (hx : x < B) (hw : w ≤ 8) : bits .and .u64 (x : Int) ((2 ^ w - 1 : Nat) : Int) = ((x % 2 ^ w : Nat) : Int) := by
  have h1 : 2 ^ w - 1 < 18446744073709551616 := by
    have : 2 ^ w ≤ 2 ^ 8 := Nat.pow_le_pow_right (by decide) hw
    omega
  have := bits_and_u64_nat x (2 ^ w - 1) hx h1
  rwa [Nat.and_two_pow_sub_one_eq_mod] at this
theorem low_mod (n w : Nat) (hw : w ≤ 8) : dg B n 0 % 2 ^ w = n % 2 ^ w := by
  unfold dg
  rw [Nat.pow_zero, Nat.div_one, show B = 2 ^ w * 2 ^ (64 - w) from by rw [← Nat.pow_add, show w + (64 - w) = 64 by omega], Nat.mod_mul_right_mod]
theorem st_low (n e : Nat) (he : e ≤ dg B n 0) : st B n 0 (dg B n 0 - e) + e = n := by
  have := st_eq B n 0 (dg B n 0 - e)
  rw [Nat.pow_zero, Nat.mul_one, Nat.mul_one] at this
  omega
theorem small_wv (p : Nat) (hp : p < 512) : Value.agg #[.int .u64 (p : Int), .int .u64 0, .int .u64 0, .int .u64 0] = wv 4 p := by
  have hB : B = 18446744073709551616 := rfl
  have h0 : dg B p 0 = p := by unfold dg; rw [Nat.pow_zero, Nat.div_one, Nat.mod_eq_of_lt (by omega)]
  have hz : ∀ i, 1 ≤ i → dg B p i = 0 := by
    intro i hi
    unfold dg
    have : B ^ 1 ≤ B ^ i := Nat.pow_le_pow_right B_pos hi
    rw [Nat.div_eq_of_lt (by rw [Nat.pow_one] at this; omega), Nat.zero_mod]
  simp [wv, wl, ds, List.range, List.range.loop, h0, hz 1 (by decide), hz 2 (by decide), hz 3 (by decide)]
theorem nq_small {w N : Nat} (h2 : ¬ N % 2 = 0) (h : N % 2 ^ w < 2 ^ (w - 1)) : nq w N = N - N % 2 ^ w ∧ nd w N = ((N % 2 ^ w : Nat) : Int) := by
  unfold nq nd; rw [if_neg h2, if_pos h, if_neg h2, if_pos h]; exact ⟨rfl, rfl⟩
theorem nq_great {w N : Nat} (h2 : ¬ N % 2 = 0) (h : ¬ N % 2 ^ w < 2 ^ (w - 1)) : nq w N = N - N % 2 ^ w + 2 ^ w ∧ nd w N = ((N % 2 ^ w : Nat) : Int) - ((2 ^ w : Nat) : Int) := by
  unfold nq nd; rw [if_neg h2, if_neg h, if_neg h2, if_neg h]; exact ⟨rfl, rfl⟩

theorem i8_2 (e : Nat) (h : ¬ e < 2) (h2 : e < 4) : wrap64 (e : Int) = (e : Int) ∧ IntKind.i8.wrap ((e : Int) - 4) = (e : Int) - 4 ∧ IntKind.i64.wrap ((e : Int) - 4) = (e : Int) - 4 ∧ IntKind.i64.wrap (e : Int) = (e : Int) := by
  rw [wrap8, IntKind.wrap_i64, IntKind.wrap_i64]; unfold wrap64; omega
theorem i8s_2 (e : Nat) (h : e < 2) : IntKind.i8.wrap (e : Int) = (e : Int) := by rw [wrap8]; omega

set_option maxRecDepth 100000 in
set_option maxHeartbeats 4000000 in
theorem part_2 (b n : Nat) (hn : n < M) (hodd : ¬ n % 2 = 0) (w : World) (hr : w.rangeAt b 0 (wl 4 n)) (ht : w.there b 0 4) :
    Calls Tryd.prog 67 #[.pointer (some ⟨b, 0, none⟩), .int .i64 2] w fun e w' => (∃ v c, e = .returned (.tuple #[.int .i8 (nd 2 n), .int .u64 ((c : Nat) : Int)]) ∧ w'.rangeAt b 0 (wl 4 v) ∧ v + c * M = nq 2 n ∧ v < M ∧ c ≤ 1) ∧ GB b w w' ∧ w'.there b 0 4 := by
  have d1 : w.cell? ⟨b, 0, none⟩ = some (.int .u64 (dg B n 0 : Nat)) := hr 0 _ (wl_get 4 n 0 (by decide))
  have d2 : w.frozen? ⟨b, 0, none⟩ = false := (ht 0 (by decide)).2
  have hd : dg B n 0 < B := dg_lt B_pos
  have hm : bits .and .u64 ((dg B n 0 : Nat) : Int) 3 = ((dg B n 0 % 4 : Nat) : Int) := mask (dg B n 0) 2 hd (by decide)
  have hl : dg B n 0 % 4 = n % 4 := low_mod n 2 (by decide)
  have hle : dg B n 0 % 4 ≤ dg B n 0 := Nat.mod_le _ _
  have hst := st_low n _ hle
  have hlt : dg B n 0 % 4 < 4 := Nat.mod_lt _ (by decide)
  have hsub : dg B n 0 - dg B n 0 % 4 < B := Nat.lt_of_le_of_lt (Nat.sub_le _ _) hd
  have hset := wrange_set hr hsub (show 0 < 4 by decide)
  have eint : ((dg B n 0 : Nat) : Int) - ((dg B n 0 % 4 : Nat) : Int) = ((dg B n 0 - dg B n 0 % 4 : Nat) : Int) := (Int.ofNat_sub hle).symm
  have hvlt : st B n 0 (dg B n 0 - dg B n 0 % 4) < M := by rw [← B4]; exact st_lt B_pos hsub (by decide) (by rw [B4]; exact hn)
  have es : st B n 0 (dg B n 0 - dg B n 0 % 4) = n - n % 4 := by
    rw [← hl]; generalize dg B n 0 % 4 = t at *; generalize st B n 0 (dg B n 0 - t) = s at *; clear hset d1 d2 hm eint; omega
  rw [es] at hset hvlt
  rw [hl] at hlt hm eint hsub hset
  have hsubB : dg B n 0 - n % 4 < 18446744073709551616 := hsub
  have HT := Hid.of (And.intro hset (And.intro (there_setCell ht ⟨b, 0, none⟩ (.int .u64 ((dg B n 0 - n % 4 : Nat) : Int))) (And.intro (GB.setCell (GB.refl b w) (o := 0) (.int .u64 ((dg B n 0 - n % 4 : Nat) : Int))) hvlt)))
  have hdB : dg B n 0 < 18446744073709551616 := hd
  clear hl hle hst es hset hvlt hr ht hd hsub
  by_cases hsm : n % 4 < 2
  · obtain ⟨q1, q2⟩ := nq_small (w := 2) hodd hsm
    have HQ := Hid.of (And.intro q1 q2)
    have hii := i8s_2 _ hsm
    clear q1 q2 hodd
    have hsi : ((n % 4 : Nat) : Int) < 2 := Int.ofNat_lt.2 hsm
    have HQ2 := Hid.of (show ((n % 4 : Nat) : Int) = nd 2 n from HQ.out.2.symm)
    generalize hx : dg B n 0 - n % 4 = x1 at *
    generalize hen : n % 4 = en at *
    generalize dg B n 0 = x0 at *
    clear hx
    have HN := Hid.of hen
    clear hen
    go_enter Tryd.func67, Tryd.ntmps67
    go_wp2
    go_quiet (fail)
    go_wp2
    go_region
    go_wp2
    go_ret2
    refine ⟨⟨_, 0, ?_, HT.out.1, ?_, HT.out.2.2.2, by decide⟩, HT.out.2.2.1, HT.out.2.1⟩
    · rw [← HQ2.out]; simp
    · rw [HQ.out.1, Nat.zero_mul, Nat.add_zero]
  · obtain ⟨q1, q2⟩ := nq_great (w := 2) hodd hsm
    have HQ := Hid.of (And.intro q1 q2)
    obtain ⟨i1, i2, i3, i4⟩ := i8_2 _ hsm hlt
    clear q1 q2 hodd
    have hsi : ¬ ((n % 4 : Nat) : Int) < 2 := fun h => hsm (Int.ofNat_lt.1 h)
    have HQ2 := Hid.of (show ((n % 4 : Nat) : Int) - 4 = nd 2 n from HQ.out.2.symm)
    generalize hx : dg B n 0 - n % 4 = x1 at *
    generalize hen : n % 4 = en at *
    generalize dg B n 0 = x0 at *
    clear hx
    have HN := Hid.of hen
    clear hen
    go_enter Tryd.func67, Tryd.ntmps67
    go_wp2
    go_quiet (fail)
    go_wp2
    go_region
    go_wp2
    have hM1 : n - en < M := Nat.lt_of_le_of_lt (Nat.sub_le _ _) hn
    have HH := Hid.of hM1
    clear hM1
    refine wp_region_noPanic ?_
    refine wp_region_held_drew (S := fun _ => True) (by kernel_rfl) trivial (fun hH => ?_)
    refine takeV 0 (.int .u64 (en : Int)) rfl (by kernel_rfl) (by kernel_rfl) (by kernel_rfl) (fun _ _ _ h => h) (by rfl) (fun w _ => by first | rfl | (go_simp; done)) hH ?_
    simp only [Act.put, List.setIfInBounds_toArray, List.set_cons_zero, List.set_cons_succ]
    refine takeV 1 (.int .i64 (en : Int)) rfl (by kernel_rfl) (by kernel_rfl) (by kernel_rfl) (fun _ _ _ h => h) (by rfl) (fun w _ => by first | rfl | (go_simp; done)) hH ?_
    simp only [Act.put, List.setIfInBounds_toArray, List.set_cons_zero, List.set_cons_succ]
    refine takeV 2 (.int .i64 2) rfl (by kernel_rfl) (by kernel_rfl) (by kernel_rfl) (fun _ _ _ h => h) (by rfl) (fun w _ => by first | rfl | (go_simp; done)) hH ?_
    simp only [Act.put, List.setIfInBounds_toArray, List.set_cons_zero, List.set_cons_succ]
    refine takeV 3 (.int .i64 4) rfl (by kernel_rfl) (by kernel_rfl) (by kernel_rfl) (fun _ _ _ h => h) (by rfl) (fun w _ => by first | rfl | (go_simp; done)) hH ?_
    simp only [Act.put, List.setIfInBounds_toArray, List.set_cons_zero, List.set_cons_succ]
    refine takeV 4 (.int .i64 ((en : Int) - 4)) rfl (by kernel_rfl) (by kernel_rfl) (by kernel_rfl) (fun _ _ _ h => h) (by rfl) (fun w _ => by first | rfl | (go_simp; done)) hH ?_
    simp only [Act.put, List.setIfInBounds_toArray, List.set_cons_zero, List.set_cons_succ]
    refine takeV 5 (.int .i8 ((en : Int) - 4)) rfl (by kernel_rfl) (by kernel_rfl) (by kernel_rfl) (fun _ _ _ h => h) (by rfl) (fun w _ => by first | rfl | (go_simp; done)) hH ?_
    simp only [Act.put, List.setIfInBounds_toArray, List.set_cons_zero, List.set_cons_succ]
    refine takeV 6 (.pointer (some ⟨b, 0, none⟩)) rfl (by kernel_rfl) (by kernel_rfl) (by kernel_rfl) (fun _ _ _ h => h) (by rfl) (fun w _ => by first | rfl | (go_simp; done)) hH ?_
    simp only [Act.put, List.setIfInBounds_toArray, List.set_cons_zero, List.set_cons_succ]
    refine takeV 7 (.int .i64 2) rfl (by kernel_rfl) (by kernel_rfl) (by kernel_rfl) (fun _ _ _ h => h) (by rfl) (fun w _ => by first | rfl | (go_simp; done)) hH ?_
    simp only [Act.put, List.setIfInBounds_toArray, List.set_cons_zero, List.set_cons_succ]
    refine takeV 8 (.int .u64 4) rfl (by kernel_rfl) (by kernel_rfl) (by kernel_rfl) (fun _ _ _ h => h) (by rfl) (fun w _ => by first | rfl | (go_simp; done)) hH ?_
    simp only [Act.put, List.setIfInBounds_toArray, List.set_cons_zero, List.set_cons_succ]
    refine takeV 9 (wv 4 4) rfl (by kernel_rfl) (by kernel_rfl) (by kernel_rfl) (fun _ _ _ h => h) (by rfl) (fun w _ => by rw [← small_wv 4 (by decide)]; first | rfl | (go_simp; done) | kernel_rfl) hH ?_
    simp only [Act.put, List.setIfInBounds_toArray, List.set_cons_zero, List.set_cons_succ]
    refine step1 10 (by kernel_rfl) rfl (fun K hK => ?_)
    rw [if_pos (by rfl)]
    go_simp
    refine Calls.mono (add_num b (n - en) 4 HH.out (by decide) _ HT.out.1 HT.out.2.1) ?_
    rintro e w5 ⟨rfl, g5, r5, t5⟩
    dsimp only
    refine hK.out _ _ trivial (fun hH => ?_)
    clear hK K
    refine takeV 11 (.int .i8 ((en : Int) - 4)) rfl (by kernel_rfl) (by kernel_rfl) (by kernel_rfl) (fun _ _ _ h => h) (by rfl) (fun w _ => by first | rfl | (go_simp; done)) hH ?_
    simp only [Act.put, List.setIfInBounds_toArray, List.set_cons_zero, List.set_cons_succ]
    refine takeV 12 (.int .u64 (((n - en + 4) / M : Nat) : Int)) rfl (by kernel_rfl) (by kernel_rfl) (by kernel_rfl) (fun _ _ _ h => h) (by rfl) (fun w _ => by first | rfl | (go_simp; done)) hH ?_
    simp only [Act.put, List.setIfInBounds_toArray, List.set_cons_zero, List.set_cons_succ]
    refine wpAnyH_done (by kernel_rfl) ?_ _
    refine NoPanic.normal ?_
    repeat go_step
    go_ret2
    refine ⟨⟨(n - en + 4) % M, (n - en + 4) / M, ?_, r5, ?_, Nat.mod_lt _ (by decide), ?_⟩, ?_, t5⟩
    · rw [← HQ2.out]; simp
    · rw [HQ.out.1, Nat.mul_comm]; exact Nat.mod_add_div (n - en + 4) M
    · have h9 : n - en < M := HH.out
      have h8 : 4 < M := by decide
      have h7 : (n - en + 4) / M < 2 := Nat.div_lt_of_lt_mul (by omega)
      exact Nat.le_of_lt_succ h7
    · exact GB.trans HT.out.2.2.1 g5

theorem i8_3 (e : Nat) (h : ¬ e < 4) (h2 : e < 8) : wrap64 (e : Int) = (e : Int) ∧ IntKind.i8.wrap ((e : Int) - 8) = (e : Int) - 8 ∧ IntKind.i64.wrap ((e : Int) - 8) = (e : Int) - 8 ∧ IntKind.i64.wrap (e : Int) = (e : Int) := by
  rw [wrap8, IntKind.wrap_i64, IntKind.wrap_i64]; unfold wrap64; omega
theorem i8s_3 (e : Nat) (h : e < 4) : IntKind.i8.wrap (e : Int) = (e : Int) := by rw [wrap8]; omega

set_option maxRecDepth 100000 in
set_option maxHeartbeats 4000000 in
theorem part_3 (b n : Nat) (hn : n < M) (hodd : ¬ n % 2 = 0) (w : World) (hr : w.rangeAt b 0 (wl 4 n)) (ht : w.there b 0 4) :
    Calls Tryd.prog 67 #[.pointer (some ⟨b, 0, none⟩), .int .i64 3] w fun e w' => (∃ v c, e = .returned (.tuple #[.int .i8 (nd 3 n), .int .u64 ((c : Nat) : Int)]) ∧ w'.rangeAt b 0 (wl 4 v) ∧ v + c * M = nq 3 n ∧ v < M ∧ c ≤ 1) ∧ GB b w w' ∧ w'.there b 0 4 := by
  have d1 : w.cell? ⟨b, 0, none⟩ = some (.int .u64 (dg B n 0 : Nat)) := hr 0 _ (wl_get 4 n 0 (by decide))
  have d2 : w.frozen? ⟨b, 0, none⟩ = false := (ht 0 (by decide)).2
  have hd : dg B n 0 < B := dg_lt B_pos
  have hm : bits .and .u64 ((dg B n 0 : Nat) : Int) 7 = ((dg B n 0 % 8 : Nat) : Int) := mask (dg B n 0) 3 hd (by decide)
  have hl : dg B n 0 % 8 = n % 8 := low_mod n 3 (by decide)
  have hle : dg B n 0 % 8 ≤ dg B n 0 := Nat.mod_le _ _
  have hst := st_low n _ hle
  have hlt : dg B n 0 % 8 < 8 := Nat.mod_lt _ (by decide)
  have hsub : dg B n 0 - dg B n 0 % 8 < B := Nat.lt_of_le_of_lt (Nat.sub_le _ _) hd
  have hset := wrange_set hr hsub (show 0 < 4 by decide)
  have eint : ((dg B n 0 : Nat) : Int) - ((dg B n 0 % 8 : Nat) : Int) = ((dg B n 0 - dg B n 0 % 8 : Nat) : Int) := (Int.ofNat_sub hle).symm
  have hvlt : st B n 0 (dg B n 0 - dg B n 0 % 8) < M := by rw [← B4]; exact st_lt B_pos hsub (by decide) (by rw [B4]; exact hn)
  have es : st B n 0 (dg B n 0 - dg B n 0 % 8) = n - n % 8 := by
    rw [← hl]; generalize dg B n 0 % 8 = t at *; generalize st B n 0 (dg B n 0 - t) = s at *; clear hset d1 d2 hm eint; omega
  rw [es] at hset hvlt
  rw [hl] at hlt hm eint hsub hset
  have hsubB : dg B n 0 - n % 8 < 18446744073709551616 := hsub
  have HT := Hid.of (And.intro hset (And.intro (there_setCell ht ⟨b, 0, none⟩ (.int .u64 ((dg B n 0 - n % 8 : Nat) : Int))) (And.intro (GB.setCell (GB.refl b w) (o := 0) (.int .u64 ((dg B n 0 - n % 8 : Nat) : Int))) hvlt)))
  have hdB : dg B n 0 < 18446744073709551616 := hd
  clear hl hle hst es hset hvlt hr ht hd hsub
  by_cases hsm : n % 8 < 4
  · obtain ⟨q1, q2⟩ := nq_small (w := 3) hodd hsm
    have HQ := Hid.of (And.intro q1 q2)
    have hii := i8s_3 _ hsm
    clear q1 q2 hodd
    have hsi : ((n % 8 : Nat) : Int) < 4 := Int.ofNat_lt.2 hsm
    have HQ2 := Hid.of (show ((n % 8 : Nat) : Int) = nd 3 n from HQ.out.2.symm)
    generalize hx : dg B n 0 - n % 8 = x1 at *
    generalize hen : n % 8 = en at *
    generalize dg B n 0 = x0 at *
    clear hx
    have HN := Hid.of hen
    clear hen
    go_enter Tryd.func67, Tryd.ntmps67
    go_wp2
    go_quiet (fail)
    go_wp2
    go_region
    go_wp2
    go_ret2
    refine ⟨⟨_, 0, ?_, HT.out.1, ?_, HT.out.2.2.2, by decide⟩, HT.out.2.2.1, HT.out.2.1⟩
    · rw [← HQ2.out]; simp
    · rw [HQ.out.1, Nat.zero_mul, Nat.add_zero]
  · obtain ⟨q1, q2⟩ := nq_great (w := 3) hodd hsm
    have HQ := Hid.of (And.intro q1 q2)
    obtain ⟨i1, i2, i3, i4⟩ := i8_3 _ hsm hlt
    clear q1 q2 hodd
    have hsi : ¬ ((n % 8 : Nat) : Int) < 4 := fun h => hsm (Int.ofNat_lt.1 h)
    have HQ2 := Hid.of (show ((n % 8 : Nat) : Int) - 8 = nd 3 n from HQ.out.2.symm)
    generalize hx : dg B n 0 - n % 8 = x1 at *
    generalize hen : n % 8 = en at *
    generalize dg B n 0 = x0 at *
    clear hx
    have HN := Hid.of hen
    clear hen
    go_enter Tryd.func67, Tryd.ntmps67
    go_wp2
    go_quiet (fail)
    go_wp2
    go_region
    go_wp2
    have hM1 : n - en < M := Nat.lt_of_le_of_lt (Nat.sub_le _ _) hn
    have HH := Hid.of hM1
    clear hM1
    refine wp_region_noPanic ?_
    refine wp_region_held_drew (S := fun _ => True) (by kernel_rfl) trivial (fun hH => ?_)
    refine takeV 0 (.int .u64 (en : Int)) rfl (by kernel_rfl) (by kernel_rfl) (by kernel_rfl) (fun _ _ _ h => h) (by rfl) (fun w _ => by first | rfl | (go_simp; done)) hH ?_
    simp only [Act.put, List.setIfInBounds_toArray, List.set_cons_zero, List.set_cons_succ]
    refine takeV 1 (.int .i64 (en : Int)) rfl (by kernel_rfl) (by kernel_rfl) (by kernel_rfl) (fun _ _ _ h => h) (by rfl) (fun w _ => by first | rfl | (go_simp; done)) hH ?_
    simp only [Act.put, List.setIfInBounds_toArray, List.set_cons_zero, List.set_cons_succ]
    refine takeV 2 (.int .i64 3) rfl (by kernel_rfl) (by kernel_rfl) (by kernel_rfl) (fun _ _ _ h => h) (by rfl) (fun w _ => by first | rfl | (go_simp; done)) hH ?_
    simp only [Act.put, List.setIfInBounds_toArray, List.set_cons_zero, List.set_cons_succ]
    refine takeV 3 (.int .i64 8) rfl (by kernel_rfl) (by kernel_rfl) (by kernel_rfl) (fun _ _ _ h => h) (by rfl) (fun w _ => by first | rfl | (go_simp; done)) hH ?_
    simp only [Act.put, List.setIfInBounds_toArray, List.set_cons_zero, List.set_cons_succ]
    refine takeV 4 (.int .i64 ((en : Int) - 8)) rfl (by kernel_rfl) (by kernel_rfl) (by kernel_rfl) (fun _ _ _ h => h) (by rfl) (fun w _ => by first | rfl | (go_simp; done)) hH ?_
    simp only [Act.put, List.setIfInBounds_toArray, List.set_cons_zero, List.set_cons_succ]
    refine takeV 5 (.int .i8 ((en : Int) - 8)) rfl (by kernel_rfl) (by kernel_rfl) (by kernel_rfl) (fun _ _ _ h => h) (by rfl) (fun w _ => by first | rfl | (go_simp; done)) hH ?_
    simp only [Act.put, List.setIfInBounds_toArray, List.set_cons_zero, List.set_cons_succ]
    refine takeV 6 (.pointer (some ⟨b, 0, none⟩)) rfl (by kernel_rfl) (by kernel_rfl) (by kernel_rfl) (fun _ _ _ h => h) (by rfl) (fun w _ => by first | rfl | (go_simp; done)) hH ?_
    simp only [Act.put, List.setIfInBounds_toArray, List.set_cons_zero, List.set_cons_succ]
    refine takeV 7 (.int .i64 3) rfl (by kernel_rfl) (by kernel_rfl) (by kernel_rfl) (fun _ _ _ h => h) (by rfl) (fun w _ => by first | rfl | (go_simp; done)) hH ?_
    simp only [Act.put, List.setIfInBounds_toArray, List.set_cons_zero, List.set_cons_succ]
    refine takeV 8 (.int .u64 8) rfl (by kernel_rfl) (by kernel_rfl) (by kernel_rfl) (fun _ _ _ h => h) (by rfl) (fun w _ => by first | rfl | (go_simp; done)) hH ?_
    simp only [Act.put, List.setIfInBounds_toArray, List.set_cons_zero, List.set_cons_succ]
    refine takeV 9 (wv 4 8) rfl (by kernel_rfl) (by kernel_rfl) (by kernel_rfl) (fun _ _ _ h => h) (by rfl) (fun w _ => by rw [← small_wv 8 (by decide)]; first | rfl | (go_simp; done) | kernel_rfl) hH ?_
    simp only [Act.put, List.setIfInBounds_toArray, List.set_cons_zero, List.set_cons_succ]
    refine step1 10 (by kernel_rfl) rfl (fun K hK => ?_)
    rw [if_pos (by rfl)]
    go_simp
    refine Calls.mono (add_num b (n - en) 8 HH.out (by decide) _ HT.out.1 HT.out.2.1) ?_
    rintro e w5 ⟨rfl, g5, r5, t5⟩
    dsimp only
    refine hK.out _ _ trivial (fun hH => ?_)
    clear hK K
    refine takeV 11 (.int .i8 ((en : Int) - 8)) rfl (by kernel_rfl) (by kernel_rfl) (by kernel_rfl) (fun _ _ _ h => h) (by rfl) (fun w _ => by first | rfl | (go_simp; done)) hH ?_
    simp only [Act.put, List.setIfInBounds_toArray, List.set_cons_zero, List.set_cons_succ]
    refine takeV 12 (.int .u64 (((n - en + 8) / M : Nat) : Int)) rfl (by kernel_rfl) (by kernel_rfl) (by kernel_rfl) (fun _ _ _ h => h) (by rfl) (fun w _ => by first | rfl | (go_simp; done)) hH ?_
    simp only [Act.put, List.setIfInBounds_toArray, List.set_cons_zero, List.set_cons_succ]
    refine wpAnyH_done (by kernel_rfl) ?_ _
    refine NoPanic.normal ?_
    repeat go_step
    go_ret2
    refine ⟨⟨(n - en + 8) % M, (n - en + 8) / M, ?_, r5, ?_, Nat.mod_lt _ (by decide), ?_⟩, ?_, t5⟩
    · rw [← HQ2.out]; simp
    · rw [HQ.out.1, Nat.mul_comm]; exact Nat.mod_add_div (n - en + 8) M
    · have h9 : n - en < M := HH.out
      have h8 : 8 < M := by decide
      have h7 : (n - en + 8) / M < 2 := Nat.div_lt_of_lt_mul (by omega)
      exact Nat.le_of_lt_succ h7
    · exact GB.trans HT.out.2.2.1 g5

theorem i8_4 (e : Nat) (h : ¬ e < 8) (h2 : e < 16) : wrap64 (e : Int) = (e : Int) ∧ IntKind.i8.wrap ((e : Int) - 16) = (e : Int) - 16 ∧ IntKind.i64.wrap ((e : Int) - 16) = (e : Int) - 16 ∧ IntKind.i64.wrap (e : Int) = (e : Int) := by
  rw [wrap8, IntKind.wrap_i64, IntKind.wrap_i64]; unfold wrap64; omega
theorem i8s_4 (e : Nat) (h : e < 8) : IntKind.i8.wrap (e : Int) = (e : Int) := by rw [wrap8]; omega

set_option maxRecDepth 100000 in
set_option maxHeartbeats 4000000 in
theorem part_4 (b n : Nat) (hn : n < M) (hodd : ¬ n % 2 = 0) (w : World) (hr : w.rangeAt b 0 (wl 4 n)) (ht : w.there b 0 4) :
    Calls Tryd.prog 67 #[.pointer (some ⟨b, 0, none⟩), .int .i64 4] w fun e w' => (∃ v c, e = .returned (.tuple #[.int .i8 (nd 4 n), .int .u64 ((c : Nat) : Int)]) ∧ w'.rangeAt b 0 (wl 4 v) ∧ v + c * M = nq 4 n ∧ v < M ∧ c ≤ 1) ∧ GB b w w' ∧ w'.there b 0 4 := by
  have d1 : w.cell? ⟨b, 0, none⟩ = some (.int .u64 (dg B n 0 : Nat)) := hr 0 _ (wl_get 4 n 0 (by decide))
  have d2 : w.frozen? ⟨b, 0, none⟩ = false := (ht 0 (by decide)).2
  have hd : dg B n 0 < B := dg_lt B_pos
  have hm : bits .and .u64 ((dg B n 0 : Nat) : Int) 15 = ((dg B n 0 % 16 : Nat) : Int) := mask (dg B n 0) 4 hd (by decide)
  have hl : dg B n 0 % 16 = n % 16 := low_mod n 4 (by decide)
  have hle : dg B n 0 % 16 ≤ dg B n 0 := Nat.mod_le _ _
  have hst := st_low n _ hle
  have hlt : dg B n 0 % 16 < 16 := Nat.mod_lt _ (by decide)
  have hsub : dg B n 0 - dg B n 0 % 16 < B := Nat.lt_of_le_of_lt (Nat.sub_le _ _) hd
  have hset := wrange_set hr hsub (show 0 < 4 by decide)
  have eint : ((dg B n 0 : Nat) : Int) - ((dg B n 0 % 16 : Nat) : Int) = ((dg B n 0 - dg B n 0 % 16 : Nat) : Int) := (Int.ofNat_sub hle).symm
  have hvlt : st B n 0 (dg B n 0 - dg B n 0 % 16) < M := by rw [← B4]; exact st_lt B_pos hsub (by decide) (by rw [B4]; exact hn)
  have es : st B n 0 (dg B n 0 - dg B n 0 % 16) = n - n % 16 := by
    rw [← hl]; generalize dg B n 0 % 16 = t at *; generalize st B n 0 (dg B n 0 - t) = s at *; clear hset d1 d2 hm eint; omega
  rw [es] at hset hvlt
  rw [hl] at hlt hm eint hsub hset
  have hsubB : dg B n 0 - n % 16 < 18446744073709551616 := hsub
  have HT := Hid.of (And.intro hset (And.intro (there_setCell ht ⟨b, 0, none⟩ (.int .u64 ((dg B n 0 - n % 16 : Nat) : Int))) (And.intro (GB.setCell (GB.refl b w) (o := 0) (.int .u64 ((dg B n 0 - n % 16 : Nat) : Int))) hvlt)))
  have hdB : dg B n 0 < 18446744073709551616 := hd
  clear hl hle hst es hset hvlt hr ht hd hsub
  by_cases hsm : n % 16 < 8
  · obtain ⟨q1, q2⟩ := nq_small (w := 4) hodd hsm
    have HQ := Hid.of (And.intro q1 q2)
    have hii := i8s_4 _ hsm
    clear q1 q2 hodd
    have hsi : ((n % 16 : Nat) : Int) < 8 := Int.ofNat_lt.2 hsm
    have HQ2 := Hid.of (show ((n % 16 : Nat) : Int) = nd 4 n from HQ.out.2.symm)
    generalize hx : dg B n 0 - n % 16 = x1 at *
    generalize hen : n % 16 = en at *
    generalize dg B n 0 = x0 at *
    clear hx
    have HN := Hid.of hen
    clear hen
    go_enter Tryd.func67, Tryd.ntmps67
    go_wp2
    go_quiet (fail)
    go_wp2
    go_region
    go_wp2
    go_ret2
    refine ⟨⟨_, 0, ?_, HT.out.1, ?_, HT.out.2.2.2, by decide⟩, HT.out.2.2.1, HT.out.2.1⟩
    · rw [← HQ2.out]; simp
    · rw [HQ.out.1, Nat.zero_mul, Nat.add_zero]
  · obtain ⟨q1, q2⟩ := nq_great (w := 4) hodd hsm
    have HQ := Hid.of (And.intro q1 q2)
    obtain ⟨i1, i2, i3, i4⟩ := i8_4 _ hsm hlt
    clear q1 q2 hodd
    have hsi : ¬ ((n % 16 : Nat) : Int) < 8 := fun h => hsm (Int.ofNat_lt.1 h)
    have HQ2 := Hid.of (show ((n % 16 : Nat) : Int) - 16 = nd 4 n from HQ.out.2.symm)
    generalize hx : dg B n 0 - n % 16 = x1 at *
    generalize hen : n % 16 = en at *
    generalize dg B n 0 = x0 at *
    clear hx
    have HN := Hid.of hen
    clear hen
    go_enter Tryd.func67, Tryd.ntmps67
    go_wp2
    go_quiet (fail)
    go_wp2
    go_region
    go_wp2
    have hM1 : n - en < M := Nat.lt_of_le_of_lt (Nat.sub_le _ _) hn
    have HH := Hid.of hM1
    clear hM1
    refine wp_region_noPanic ?_
    refine wp_region_held_drew (S := fun _ => True) (by kernel_rfl) trivial (fun hH => ?_)
    refine takeV 0 (.int .u64 (en : Int)) rfl (by kernel_rfl) (by kernel_rfl) (by kernel_rfl) (fun _ _ _ h => h) (by rfl) (fun w _ => by first | rfl | (go_simp; done)) hH ?_
    simp only [Act.put, List.setIfInBounds_toArray, List.set_cons_zero, List.set_cons_succ]
    refine takeV 1 (.int .i64 (en : Int)) rfl (by kernel_rfl) (by kernel_rfl) (by kernel_rfl) (fun _ _ _ h => h) (by rfl) (fun w _ => by first | rfl | (go_simp; done)) hH ?_
    simp only [Act.put, List.setIfInBounds_toArray, List.set_cons_zero, List.set_cons_succ]
    refine takeV 2 (.int .i64 4) rfl (by kernel_rfl) (by kernel_rfl) (by kernel_rfl) (fun _ _ _ h => h) (by rfl) (fun w _ => by first | rfl | (go_simp; done)) hH ?_
    simp only [Act.put, List.setIfInBounds_toArray, List.set_cons_zero, List.set_cons_succ]
    refine takeV 3 (.int .i64 16) rfl (by kernel_rfl) (by kernel_rfl) (by kernel_rfl) (fun _ _ _ h => h) (by rfl) (fun w _ => by first | rfl | (go_simp; done)) hH ?_
    simp only [Act.put, List.setIfInBounds_toArray, List.set_cons_zero, List.set_cons_succ]
    refine takeV 4 (.int .i64 ((en : Int) - 16)) rfl (by kernel_rfl) (by kernel_rfl) (by kernel_rfl) (fun _ _ _ h => h) (by rfl) (fun w _ => by first | rfl | (go_simp; done)) hH ?_
    simp only [Act.put, List.setIfInBounds_toArray, List.set_cons_zero, List.set_cons_succ]
    refine takeV 5 (.int .i8 ((en : Int) - 16)) rfl (by kernel_rfl) (by kernel_rfl) (by kernel_rfl) (fun _ _ _ h => h) (by rfl) (fun w _ => by first | rfl | (go_simp; done)) hH ?_
    simp only [Act.put, List.setIfInBounds_toArray, List.set_cons_zero, List.set_cons_succ]
    refine takeV 6 (.pointer (some ⟨b, 0, none⟩)) rfl (by kernel_rfl) (by kernel_rfl) (by kernel_rfl) (fun _ _ _ h => h) (by rfl) (fun w _ => by first | rfl | (go_simp; done)) hH ?_
    simp only [Act.put, List.setIfInBounds_toArray, List.set_cons_zero, List.set_cons_succ]
    refine takeV 7 (.int .i64 4) rfl (by kernel_rfl) (by kernel_rfl) (by kernel_rfl) (fun _ _ _ h => h) (by rfl) (fun w _ => by first | rfl | (go_simp; done)) hH ?_
    simp only [Act.put, List.setIfInBounds_toArray, List.set_cons_zero, List.set_cons_succ]
    refine takeV 8 (.int .u64 16) rfl (by kernel_rfl) (by kernel_rfl) (by kernel_rfl) (fun _ _ _ h => h) (by rfl) (fun w _ => by first | rfl | (go_simp; done)) hH ?_
    simp only [Act.put, List.setIfInBounds_toArray, List.set_cons_zero, List.set_cons_succ]
    refine takeV 9 (wv 4 16) rfl (by kernel_rfl) (by kernel_rfl) (by kernel_rfl) (fun _ _ _ h => h) (by rfl) (fun w _ => by rw [← small_wv 16 (by decide)]; first | rfl | (go_simp; done) | kernel_rfl) hH ?_
    simp only [Act.put, List.setIfInBounds_toArray, List.set_cons_zero, List.set_cons_succ]
    refine step1 10 (by kernel_rfl) rfl (fun K hK => ?_)
    rw [if_pos (by rfl)]
    go_simp
    refine Calls.mono (add_num b (n - en) 16 HH.out (by decide) _ HT.out.1 HT.out.2.1) ?_
    rintro e w5 ⟨rfl, g5, r5, t5⟩
    dsimp only
    refine hK.out _ _ trivial (fun hH => ?_)
    clear hK K
    refine takeV 11 (.int .i8 ((en : Int) - 16)) rfl (by kernel_rfl) (by kernel_rfl) (by kernel_rfl) (fun _ _ _ h => h) (by rfl) (fun w _ => by first | rfl | (go_simp; done)) hH ?_
    simp only [Act.put, List.setIfInBounds_toArray, List.set_cons_zero, List.set_cons_succ]
    refine takeV 12 (.int .u64 (((n - en + 16) / M : Nat) : Int)) rfl (by kernel_rfl) (by kernel_rfl) (by kernel_rfl) (fun _ _ _ h => h) (by rfl) (fun w _ => by first | rfl | (go_simp; done)) hH ?_
    simp only [Act.put, List.setIfInBounds_toArray, List.set_cons_zero, List.set_cons_succ]
    refine wpAnyH_done (by kernel_rfl) ?_ _
    refine NoPanic.normal ?_
    repeat go_step
    go_ret2
    refine ⟨⟨(n - en + 16) % M, (n - en + 16) / M, ?_, r5, ?_, Nat.mod_lt _ (by decide), ?_⟩, ?_, t5⟩
    · rw [← HQ2.out]; simp
    · rw [HQ.out.1, Nat.mul_comm]; exact Nat.mod_add_div (n - en + 16) M
    · have h9 : n - en < M := HH.out
      have h8 : 16 < M := by decide
      have h7 : (n - en + 16) / M < 2 := Nat.div_lt_of_lt_mul (by omega)
      exact Nat.le_of_lt_succ h7
    · exact GB.trans HT.out.2.2.1 g5

theorem i8_5 (e : Nat) (h : ¬ e < 16) (h2 : e < 32) : wrap64 (e : Int) = (e : Int) ∧ IntKind.i8.wrap ((e : Int) - 32) = (e : Int) - 32 ∧ IntKind.i64.wrap ((e : Int) - 32) = (e : Int) - 32 ∧ IntKind.i64.wrap (e : Int) = (e : Int) := by
  rw [wrap8, IntKind.wrap_i64, IntKind.wrap_i64]; unfold wrap64; omega
theorem i8s_5 (e : Nat) (h : e < 16) : IntKind.i8.wrap (e : Int) = (e : Int) := by rw [wrap8]; omega

set_option maxRecDepth 100000 in
set_option maxHeartbeats 4000000 in
theorem part_5 (b n : Nat) (hn : n < M) (hodd : ¬ n % 2 = 0) (w : World) (hr : w.rangeAt b 0 (wl 4 n)) (ht : w.there b 0 4) :
    Calls Tryd.prog 67 #[.pointer (some ⟨b, 0, none⟩), .int .i64 5] w fun e w' => (∃ v c, e = .returned (.tuple #[.int .i8 (nd 5 n), .int .u64 ((c : Nat) : Int)]) ∧ w'.rangeAt b 0 (wl 4 v) ∧ v + c * M = nq 5 n ∧ v < M ∧ c ≤ 1) ∧ GB b w w' ∧ w'.there b 0 4 := by
  have d1 : w.cell? ⟨b, 0, none⟩ = some (.int .u64 (dg B n 0 : Nat)) := hr 0 _ (wl_get 4 n 0 (by decide))
  have d2 : w.frozen? ⟨b, 0, none⟩ = false := (ht 0 (by decide)).2
  have hd : dg B n 0 < B := dg_lt B_pos
  have hm : bits .and .u64 ((dg B n 0 : Nat) : Int) 31 = ((dg B n 0 % 32 : Nat) : Int) := mask (dg B n 0) 5 hd (by decide)
  have hl : dg B n 0 % 32 = n % 32 := low_mod n 5 (by decide)
  have hle : dg B n 0 % 32 ≤ dg B n 0 := Nat.mod_le _ _
  have hst := st_low n _ hle
  have hlt : dg B n 0 % 32 < 32 := Nat.mod_lt _ (by decide)
  have hsub : dg B n 0 - dg B n 0 % 32 < B := Nat.lt_of_le_of_lt (Nat.sub_le _ _) hd
  have hset := wrange_set hr hsub (show 0 < 4 by decide)
  have eint : ((dg B n 0 : Nat) : Int) - ((dg B n 0 % 32 : Nat) : Int) = ((dg B n 0 - dg B n 0 % 32 : Nat) : Int) := (Int.ofNat_sub hle).symm
  have hvlt : st B n 0 (dg B n 0 - dg B n 0 % 32) < M := by rw [← B4]; exact st_lt B_pos hsub (by decide) (by rw [B4]; exact hn)
  have es : st B n 0 (dg B n 0 - dg B n 0 % 32) = n - n % 32 := by
    rw [← hl]; generalize dg B n 0 % 32 = t at *; generalize st B n 0 (dg B n 0 - t) = s at *; clear hset d1 d2 hm eint; omega
  rw [es] at hset hvlt
  rw [hl] at hlt hm eint hsub hset
  have hsubB : dg B n 0 - n % 32 < 18446744073709551616 := hsub
  have HT := Hid.of (And.intro hset (And.intro (there_setCell ht ⟨b, 0, none⟩ (.int .u64 ((dg B n 0 - n % 32 : Nat) : Int))) (And.intro (GB.setCell (GB.refl b w) (o := 0) (.int .u64 ((dg B n 0 - n % 32 : Nat) : Int))) hvlt)))
  have hdB : dg B n 0 < 18446744073709551616 := hd
  clear hl hle hst es hset hvlt hr ht hd hsub
  by_cases hsm : n % 32 < 16
  · obtain ⟨q1, q2⟩ := nq_small (w := 5) hodd hsm
    have HQ := Hid.of (And.intro q1 q2)
    have hii := i8s_5 _ hsm
    clear q1 q2 hodd
    have hsi : ((n % 32 : Nat) : Int) < 16 := Int.ofNat_lt.2 hsm
    have HQ2 := Hid.of (show ((n % 32 : Nat) : Int) = nd 5 n from HQ.out.2.symm)
    generalize hx : dg B n 0 - n % 32 = x1 at *
    generalize hen : n % 32 = en at *
    generalize dg B n 0 = x0 at *
    clear hx
    have HN := Hid.of hen
    clear hen
    go_enter Tryd.func67, Tryd.ntmps67
    go_wp2
    go_quiet (fail)
    go_wp2
    go_region
    go_wp2
    go_ret2
    refine ⟨⟨_, 0, ?_, HT.out.1, ?_, HT.out.2.2.2, by decide⟩, HT.out.2.2.1, HT.out.2.1⟩
    · rw [← HQ2.out]; simp
    · rw [HQ.out.1, Nat.zero_mul, Nat.add_zero]
  · obtain ⟨q1, q2⟩ := nq_great (w := 5) hodd hsm
    have HQ := Hid.of (And.intro q1 q2)
    obtain ⟨i1, i2, i3, i4⟩ := i8_5 _ hsm hlt
    clear q1 q2 hodd
    have hsi : ¬ ((n % 32 : Nat) : Int) < 16 := fun h => hsm (Int.ofNat_lt.1 h)
    have HQ2 := Hid.of (show ((n % 32 : Nat) : Int) - 32 = nd 5 n from HQ.out.2.symm)
    generalize hx : dg B n 0 - n % 32 = x1 at *
    generalize hen : n % 32 = en at *
    generalize dg B n 0 = x0 at *
    clear hx
    have HN := Hid.of hen
    clear hen
    go_enter Tryd.func67, Tryd.ntmps67
    go_wp2
    go_quiet (fail)
    go_wp2
    go_region
    go_wp2
    have hM1 : n - en < M := Nat.lt_of_le_of_lt (Nat.sub_le _ _) hn
    have HH := Hid.of hM1
    clear hM1
    refine wp_region_noPanic ?_
    refine wp_region_held_drew (S := fun _ => True) (by kernel_rfl) trivial (fun hH => ?_)
    refine takeV 0 (.int .u64 (en : Int)) rfl (by kernel_rfl) (by kernel_rfl) (by kernel_rfl) (fun _ _ _ h => h) (by rfl) (fun w _ => by first | rfl | (go_simp; done)) hH ?_
    simp only [Act.put, List.setIfInBounds_toArray, List.set_cons_zero, List.set_cons_succ]
    refine takeV 1 (.int .i64 (en : Int)) rfl (by kernel_rfl) (by kernel_rfl) (by kernel_rfl) (fun _ _ _ h => h) (by rfl) (fun w _ => by first | rfl | (go_simp; done)) hH ?_
    simp only [Act.put, List.setIfInBounds_toArray, List.set_cons_zero, List.set_cons_succ]
    refine takeV 2 (.int .i64 5) rfl (by kernel_rfl) (by kernel_rfl) (by kernel_rfl) (fun _ _ _ h => h) (by rfl) (fun w _ => by first | rfl | (go_simp; done)) hH ?_
    simp only [Act.put, List.setIfInBounds_toArray, List.set_cons_zero, List.set_cons_succ]
    refine takeV 3 (.int .i64 32) rfl (by kernel_rfl) (by kernel_rfl) (by kernel_rfl) (fun _ _ _ h => h) (by rfl) (fun w _ => by first | rfl | (go_simp; done)) hH ?_
    simp only [Act.put, List.setIfInBounds_toArray, List.set_cons_zero, List.set_cons_succ]
    refine takeV 4 (.int .i64 ((en : Int) - 32)) rfl (by kernel_rfl) (by kernel_rfl) (by kernel_rfl) (fun _ _ _ h => h) (by rfl) (fun w _ => by first | rfl | (go_simp; done)) hH ?_
    simp only [Act.put, List.setIfInBounds_toArray, List.set_cons_zero, List.set_cons_succ]
    refine takeV 5 (.int .i8 ((en : Int) - 32)) rfl (by kernel_rfl) (by kernel_rfl) (by kernel_rfl) (fun _ _ _ h => h) (by rfl) (fun w _ => by first | rfl | (go_simp; done)) hH ?_
    simp only [Act.put, List.setIfInBounds_toArray, List.set_cons_zero, List.set_cons_succ]
    refine takeV 6 (.pointer (some ⟨b, 0, none⟩)) rfl (by kernel_rfl) (by kernel_rfl) (by kernel_rfl) (fun _ _ _ h => h) (by rfl) (fun w _ => by first | rfl | (go_simp; done)) hH ?_
    simp only [Act.put, List.setIfInBounds_toArray, List.set_cons_zero, List.set_cons_succ]
    refine takeV 7 (.int .i64 5) rfl (by kernel_rfl) (by kernel_rfl) (by kernel_rfl) (fun _ _ _ h => h) (by rfl) (fun w _ => by first | rfl | (go_simp; done)) hH ?_
    simp only [Act.put, List.setIfInBounds_toArray, List.set_cons_zero, List.set_cons_succ]
    refine takeV 8 (.int .u64 32) rfl (by kernel_rfl) (by kernel_rfl) (by kernel_rfl) (fun _ _ _ h => h) (by rfl) (fun w _ => by first | rfl | (go_simp; done)) hH ?_
    simp only [Act.put, List.setIfInBounds_toArray, List.set_cons_zero, List.set_cons_succ]
    refine takeV 9 (wv 4 32) rfl (by kernel_rfl) (by kernel_rfl) (by kernel_rfl) (fun _ _ _ h => h) (by rfl) (fun w _ => by rw [← small_wv 32 (by decide)]; first | rfl | (go_simp; done) | kernel_rfl) hH ?_
    simp only [Act.put, List.setIfInBounds_toArray, List.set_cons_zero, List.set_cons_succ]
    refine step1 10 (by kernel_rfl) rfl (fun K hK => ?_)
    rw [if_pos (by rfl)]
    go_simp
    refine Calls.mono (add_num b (n - en) 32 HH.out (by decide) _ HT.out.1 HT.out.2.1) ?_
    rintro e w5 ⟨rfl, g5, r5, t5⟩
    dsimp only
    refine hK.out _ _ trivial (fun hH => ?_)
    clear hK K
    refine takeV 11 (.int .i8 ((en : Int) - 32)) rfl (by kernel_rfl) (by kernel_rfl) (by kernel_rfl) (fun _ _ _ h => h) (by rfl) (fun w _ => by first | rfl | (go_simp; done)) hH ?_
    simp only [Act.put, List.setIfInBounds_toArray, List.set_cons_zero, List.set_cons_succ]
    refine takeV 12 (.int .u64 (((n - en + 32) / M : Nat) : Int)) rfl (by kernel_rfl) (by kernel_rfl) (by kernel_rfl) (fun _ _ _ h => h) (by rfl) (fun w _ => by first | rfl | (go_simp; done)) hH ?_
    simp only [Act.put, List.setIfInBounds_toArray, List.set_cons_zero, List.set_cons_succ]
    refine wpAnyH_done (by kernel_rfl) ?_ _
    refine NoPanic.normal ?_
    repeat go_step
    go_ret2
    refine ⟨⟨(n - en + 32) % M, (n - en + 32) / M, ?_, r5, ?_, Nat.mod_lt _ (by decide), ?_⟩, ?_, t5⟩
    · rw [← HQ2.out]; simp
    · rw [HQ.out.1, Nat.mul_comm]; exact Nat.mod_add_div (n - en + 32) M
    · have h9 : n - en < M := HH.out
      have h8 : 32 < M := by decide
      have h7 : (n - en + 32) / M < 2 := Nat.div_lt_of_lt_mul (by omega)
      exact Nat.le_of_lt_succ h7
    · exact GB.trans HT.out.2.2.1 g5

theorem i8_6 (e : Nat) (h : ¬ e < 32) (h2 : e < 64) : wrap64 (e : Int) = (e : Int) ∧ IntKind.i8.wrap ((e : Int) - 64) = (e : Int) - 64 ∧ IntKind.i64.wrap ((e : Int) - 64) = (e : Int) - 64 ∧ IntKind.i64.wrap (e : Int) = (e : Int) := by
  rw [wrap8, IntKind.wrap_i64, IntKind.wrap_i64]; unfold wrap64; omega
theorem i8s_6 (e : Nat) (h : e < 32) : IntKind.i8.wrap (e : Int) = (e : Int) := by rw [wrap8]; omega

set_option maxRecDepth 100000 in
set_option maxHeartbeats 4000000 in
theorem part_6 (b n : Nat) (hn : n < M) (hodd : ¬ n % 2 = 0) (w : World) (hr : w.rangeAt b 0 (wl 4 n)) (ht : w.there b 0 4) :
    Calls Tryd.prog 67 #[.pointer (some ⟨b, 0, none⟩), .int .i64 6] w fun e w' => (∃ v c, e = .returned (.tuple #[.int .i8 (nd 6 n), .int .u64 ((c : Nat) : Int)]) ∧ w'.rangeAt b 0 (wl 4 v) ∧ v + c * M = nq 6 n ∧ v < M ∧ c ≤ 1) ∧ GB b w w' ∧ w'.there b 0 4 := by
  have d1 : w.cell? ⟨b, 0, none⟩ = some (.int .u64 (dg B n 0 : Nat)) := hr 0 _ (wl_get 4 n 0 (by decide))
  have d2 : w.frozen? ⟨b, 0, none⟩ = false := (ht 0 (by decide)).2
  have hd : dg B n 0 < B := dg_lt B_pos
  have hm : bits .and .u64 ((dg B n 0 : Nat) : Int) 63 = ((dg B n 0 % 64 : Nat) : Int) := mask (dg B n 0) 6 hd (by decide)
  have hl : dg B n 0 % 64 = n % 64 := low_mod n 6 (by decide)
  have hle : dg B n 0 % 64 ≤ dg B n 0 := Nat.mod_le _ _
  have hst := st_low n _ hle
  have hlt : dg B n 0 % 64 < 64 := Nat.mod_lt _ (by decide)
  have hsub : dg B n 0 - dg B n 0 % 64 < B := Nat.lt_of_le_of_lt (Nat.sub_le _ _) hd
  have hset := wrange_set hr hsub (show 0 < 4 by decide)
  have eint : ((dg B n 0 : Nat) : Int) - ((dg B n 0 % 64 : Nat) : Int) = ((dg B n 0 - dg B n 0 % 64 : Nat) : Int) := (Int.ofNat_sub hle).symm
  have hvlt : st B n 0 (dg B n 0 - dg B n 0 % 64) < M := by rw [← B4]; exact st_lt B_pos hsub (by decide) (by rw [B4]; exact hn)
  have es : st B n 0 (dg B n 0 - dg B n 0 % 64) = n - n % 64 := by
    rw [← hl]; generalize dg B n 0 % 64 = t at *; generalize st B n 0 (dg B n 0 - t) = s at *; clear hset d1 d2 hm eint; omega
  rw [es] at hset hvlt
  rw [hl] at hlt hm eint hsub hset
  have hsubB : dg B n 0 - n % 64 < 18446744073709551616 := hsub
  have HT := Hid.of (And.intro hset (And.intro (there_setCell ht ⟨b, 0, none⟩ (.int .u64 ((dg B n 0 - n % 64 : Nat) : Int))) (And.intro (GB.setCell (GB.refl b w) (o := 0) (.int .u64 ((dg B n 0 - n % 64 : Nat) : Int))) hvlt)))
  have hdB : dg B n 0 < 18446744073709551616 := hd
  clear hl hle hst es hset hvlt hr ht hd hsub
  by_cases hsm : n % 64 < 32
  · obtain ⟨q1, q2⟩ := nq_small (w := 6) hodd hsm
    have HQ := Hid.of (And.intro q1 q2)
    have hii := i8s_6 _ hsm
    clear q1 q2 hodd
    have hsi : ((n % 64 : Nat) : Int) < 32 := Int.ofNat_lt.2 hsm
    have HQ2 := Hid.of (show ((n % 64 : Nat) : Int) = nd 6 n from HQ.out.2.symm)
    generalize hx : dg B n 0 - n % 64 = x1 at *
    generalize hen : n % 64 = en at *
    generalize dg B n 0 = x0 at *
    clear hx
    have HN := Hid.of hen
    clear hen
    go_enter Tryd.func67, Tryd.ntmps67
    go_wp2
    go_quiet (fail)
    go_wp2
    go_region
    go_wp2
    go_ret2
    refine ⟨⟨_, 0, ?_, HT.out.1, ?_, HT.out.2.2.2, by decide⟩, HT.out.2.2.1, HT.out.2.1⟩
    · rw [← HQ2.out]; simp
    · rw [HQ.out.1, Nat.zero_mul, Nat.add_zero]
  · obtain ⟨q1, q2⟩ := nq_great (w := 6) hodd hsm
    have HQ := Hid.of (And.intro q1 q2)
    obtain ⟨i1, i2, i3, i4⟩ := i8_6 _ hsm hlt
    clear q1 q2 hodd
    have hsi : ¬ ((n % 64 : Nat) : Int) < 32 := fun h => hsm (Int.ofNat_lt.1 h)
    have HQ2 := Hid.of (show ((n % 64 : Nat) : Int) - 64 = nd 6 n from HQ.out.2.symm)
    generalize hx : dg B n 0 - n % 64 = x1 at *
    generalize hen : n % 64 = en at *
    generalize dg B n 0 = x0 at *
    clear hx
    have HN := Hid.of hen
    clear hen
    go_enter Tryd.func67, Tryd.ntmps67
    go_wp2
    go_quiet (fail)
    go_wp2
    go_region
    go_wp2
    have hM1 : n - en < M := Nat.lt_of_le_of_lt (Nat.sub_le _ _) hn
    have HH := Hid.of hM1
    clear hM1
    refine wp_region_noPanic ?_
    refine wp_region_held_drew (S := fun _ => True) (by kernel_rfl) trivial (fun hH => ?_)
    refine takeV 0 (.int .u64 (en : Int)) rfl (by kernel_rfl) (by kernel_rfl) (by kernel_rfl) (fun _ _ _ h => h) (by rfl) (fun w _ => by first | rfl | (go_simp; done)) hH ?_
    simp only [Act.put, List.setIfInBounds_toArray, List.set_cons_zero, List.set_cons_succ]
    refine takeV 1 (.int .i64 (en : Int)) rfl (by kernel_rfl) (by kernel_rfl) (by kernel_rfl) (fun _ _ _ h => h) (by rfl) (fun w _ => by first | rfl | (go_simp; done)) hH ?_
    simp only [Act.put, List.setIfInBounds_toArray, List.set_cons_zero, List.set_cons_succ]
    refine takeV 2 (.int .i64 6) rfl (by kernel_rfl) (by kernel_rfl) (by kernel_rfl) (fun _ _ _ h => h) (by rfl) (fun w _ => by first | rfl | (go_simp; done)) hH ?_
    simp only [Act.put, List.setIfInBounds_toArray, List.set_cons_zero, List.set_cons_succ]
    refine takeV 3 (.int .i64 64) rfl (by kernel_rfl) (by kernel_rfl) (by kernel_rfl) (fun _ _ _ h => h) (by rfl) (fun w _ => by first | rfl | (go_simp; done)) hH ?_
    simp only [Act.put, List.setIfInBounds_toArray, List.set_cons_zero, List.set_cons_succ]
    refine takeV 4 (.int .i64 ((en : Int) - 64)) rfl (by kernel_rfl) (by kernel_rfl) (by kernel_rfl) (fun _ _ _ h => h) (by rfl) (fun w _ => by first | rfl | (go_simp; done)) hH ?_
    simp only [Act.put, List.setIfInBounds_toArray, List.set_cons_zero, List.set_cons_succ]
    refine takeV 5 (.int .i8 ((en : Int) - 64)) rfl (by kernel_rfl) (by kernel_rfl) (by kernel_rfl) (fun _ _ _ h => h) (by rfl) (fun w _ => by first | rfl | (go_simp; done)) hH ?_
    simp only [Act.put, List.setIfInBounds_toArray, List.set_cons_zero, List.set_cons_succ]
    refine takeV 6 (.pointer (some ⟨b, 0, none⟩)) rfl (by kernel_rfl) (by kernel_rfl) (by kernel_rfl) (fun _ _ _ h => h) (by rfl) (fun w _ => by first | rfl | (go_simp; done)) hH ?_
    simp only [Act.put, List.setIfInBounds_toArray, List.set_cons_zero, List.set_cons_succ]
    refine takeV 7 (.int .i64 6) rfl (by kernel_rfl) (by kernel_rfl) (by kernel_rfl) (fun _ _ _ h => h) (by rfl) (fun w _ => by first | rfl | (go_simp; done)) hH ?_
    simp only [Act.put, List.setIfInBounds_toArray, List.set_cons_zero, List.set_cons_succ]
    refine takeV 8 (.int .u64 64) rfl (by kernel_rfl) (by kernel_rfl) (by kernel_rfl) (fun _ _ _ h => h) (by rfl) (fun w _ => by first | rfl | (go_simp; done)) hH ?_
    simp only [Act.put, List.setIfInBounds_toArray, List.set_cons_zero, List.set_cons_succ]
    refine takeV 9 (wv 4 64) rfl (by kernel_rfl) (by kernel_rfl) (by kernel_rfl) (fun _ _ _ h => h) (by rfl) (fun w _ => by rw [← small_wv 64 (by decide)]; first | rfl | (go_simp; done) | kernel_rfl) hH ?_
    simp only [Act.put, List.setIfInBounds_toArray, List.set_cons_zero, List.set_cons_succ]
    refine step1 10 (by kernel_rfl) rfl (fun K hK => ?_)
    rw [if_pos (by rfl)]
    go_simp
    refine Calls.mono (add_num b (n - en) 64 HH.out (by decide) _ HT.out.1 HT.out.2.1) ?_
    rintro e w5 ⟨rfl, g5, r5, t5⟩
    dsimp only
    refine hK.out _ _ trivial (fun hH => ?_)
    clear hK K
    refine takeV 11 (.int .i8 ((en : Int) - 64)) rfl (by kernel_rfl) (by kernel_rfl) (by kernel_rfl) (fun _ _ _ h => h) (by rfl) (fun w _ => by first | rfl | (go_simp; done)) hH ?_
    simp only [Act.put, List.setIfInBounds_toArray, List.set_cons_zero, List.set_cons_succ]
    refine takeV 12 (.int .u64 (((n - en + 64) / M : Nat) : Int)) rfl (by kernel_rfl) (by kernel_rfl) (by kernel_rfl) (fun _ _ _ h => h) (by rfl) (fun w _ => by first | rfl | (go_simp; done)) hH ?_
    simp only [Act.put, List.setIfInBounds_toArray, List.set_cons_zero, List.set_cons_succ]
    refine wpAnyH_done (by kernel_rfl) ?_ _
    refine NoPanic.normal ?_
    repeat go_step
    go_ret2
    refine ⟨⟨(n - en + 64) % M, (n - en + 64) / M, ?_, r5, ?_, Nat.mod_lt _ (by decide), ?_⟩, ?_, t5⟩
    · rw [← HQ2.out]; simp
    · rw [HQ.out.1, Nat.mul_comm]; exact Nat.mod_add_div (n - en + 64) M
    · have h9 : n - en < M := HH.out
      have h8 : 64 < M := by decide
      have h7 : (n - en + 64) / M < 2 := Nat.div_lt_of_lt_mul (by omega)
      exact Nat.le_of_lt_succ h7
    · exact GB.trans HT.out.2.2.1 g5

theorem i8_7 (e : Nat) (h : ¬ e < 64) (h2 : e < 128) : wrap64 (e : Int) = (e : Int) ∧ IntKind.i8.wrap ((e : Int) - 128) = (e : Int) - 128 ∧ IntKind.i64.wrap ((e : Int) - 128) = (e : Int) - 128 ∧ IntKind.i64.wrap (e : Int) = (e : Int) := by
  rw [wrap8, IntKind.wrap_i64, IntKind.wrap_i64]; unfold wrap64; omega
theorem i8s_7 (e : Nat) (h : e < 64) : IntKind.i8.wrap (e : Int) = (e : Int) := by rw [wrap8]; omega

set_option maxRecDepth 100000 in
set_option maxHeartbeats 4000000 in
theorem part_7 (b n : Nat) (hn : n < M) (hodd : ¬ n % 2 = 0) (w : World) (hr : w.rangeAt b 0 (wl 4 n)) (ht : w.there b 0 4) :
    Calls Tryd.prog 67 #[.pointer (some ⟨b, 0, none⟩), .int .i64 7] w fun e w' => (∃ v c, e = .returned (.tuple #[.int .i8 (nd 7 n), .int .u64 ((c : Nat) : Int)]) ∧ w'.rangeAt b 0 (wl 4 v) ∧ v + c * M = nq 7 n ∧ v < M ∧ c ≤ 1) ∧ GB b w w' ∧ w'.there b 0 4 := by
  have d1 : w.cell? ⟨b, 0, none⟩ = some (.int .u64 (dg B n 0 : Nat)) := hr 0 _ (wl_get 4 n 0 (by decide))
  have d2 : w.frozen? ⟨b, 0, none⟩ = false := (ht 0 (by decide)).2
  have hd : dg B n 0 < B := dg_lt B_pos
  have hm : bits .and .u64 ((dg B n 0 : Nat) : Int) 127 = ((dg B n 0 % 128 : Nat) : Int) := mask (dg B n 0) 7 hd (by decide)
  have hl : dg B n 0 % 128 = n % 128 := low_mod n 7 (by decide)
  have hle : dg B n 0 % 128 ≤ dg B n 0 := Nat.mod_le _ _
  have hst := st_low n _ hle
  have hlt : dg B n 0 % 128 < 128 := Nat.mod_lt _ (by decide)
  have hsub : dg B n 0 - dg B n 0 % 128 < B := Nat.lt_of_le_of_lt (Nat.sub_le _ _) hd
  have hset := wrange_set hr hsub (show 0 < 4 by decide)
  have eint : ((dg B n 0 : Nat) : Int) - ((dg B n 0 % 128 : Nat) : Int) = ((dg B n 0 - dg B n 0 % 128 : Nat) : Int) := (Int.ofNat_sub hle).symm
  have hvlt : st B n 0 (dg B n 0 - dg B n 0 % 128) < M := by rw [← B4]; exact st_lt B_pos hsub (by decide) (by rw [B4]; exact hn)
  have es : st B n 0 (dg B n 0 - dg B n 0 % 128) = n - n % 128 := by
    rw [← hl]; generalize dg B n 0 % 128 = t at *; generalize st B n 0 (dg B n 0 - t) = s at *; clear hset d1 d2 hm eint; omega
  rw [es] at hset hvlt
  rw [hl] at hlt hm eint hsub hset
  have hsubB : dg B n 0 - n % 128 < 18446744073709551616 := hsub
  have HT := Hid.of (And.intro hset (And.intro (there_setCell ht ⟨b, 0, none⟩ (.int .u64 ((dg B n 0 - n % 128 : Nat) : Int))) (And.intro (GB.setCell (GB.refl b w) (o := 0) (.int .u64 ((dg B n 0 - n % 128 : Nat) : Int))) hvlt)))
  have hdB : dg B n 0 < 18446744073709551616 := hd
  clear hl hle hst es hset hvlt hr ht hd hsub
  by_cases hsm : n % 128 < 64
  · obtain ⟨q1, q2⟩ := nq_small (w := 7) hodd hsm
    have HQ := Hid.of (And.intro q1 q2)
    have hii := i8s_7 _ hsm
    clear q1 q2 hodd
    have hsi : ((n % 128 : Nat) : Int) < 64 := Int.ofNat_lt.2 hsm
    have HQ2 := Hid.of (show ((n % 128 : Nat) : Int) = nd 7 n from HQ.out.2.symm)
    generalize hx : dg B n 0 - n % 128 = x1 at *
    generalize hen : n % 128 = en at *
    generalize dg B n 0 = x0 at *
    clear hx
    have HN := Hid.of hen
    clear hen
    go_enter Tryd.func67, Tryd.ntmps67
    go_wp2
    go_quiet (fail)
    go_wp2
    go_region
    go_wp2
    go_ret2
    refine ⟨⟨_, 0, ?_, HT.out.1, ?_, HT.out.2.2.2, by decide⟩, HT.out.2.2.1, HT.out.2.1⟩
    · rw [← HQ2.out]; simp
    · rw [HQ.out.1, Nat.zero_mul, Nat.add_zero]
  · obtain ⟨q1, q2⟩ := nq_great (w := 7) hodd hsm
    have HQ := Hid.of (And.intro q1 q2)
    obtain ⟨i1, i2, i3, i4⟩ := i8_7 _ hsm hlt
    clear q1 q2 hodd
    have hsi : ¬ ((n % 128 : Nat) : Int) < 64 := fun h => hsm (Int.ofNat_lt.1 h)
    have HQ2 := Hid.of (show ((n % 128 : Nat) : Int) - 128 = nd 7 n from HQ.out.2.symm)
    generalize hx : dg B n 0 - n % 128 = x1 at *
    generalize hen : n % 128 = en at *
    generalize dg B n 0 = x0 at *
    clear hx
    have HN := Hid.of hen
    clear hen
    go_enter Tryd.func67, Tryd.ntmps67
    go_wp2
    go_quiet (fail)
    go_wp2
    go_region
    go_wp2
    have hM1 : n - en < M := Nat.lt_of_le_of_lt (Nat.sub_le _ _) hn
    have HH := Hid.of hM1
    clear hM1
    refine wp_region_noPanic ?_
    refine wp_region_held_drew (S := fun _ => True) (by kernel_rfl) trivial (fun hH => ?_)
    refine takeV 0 (.int .u64 (en : Int)) rfl (by kernel_rfl) (by kernel_rfl) (by kernel_rfl) (fun _ _ _ h => h) (by rfl) (fun w _ => by first | rfl | (go_simp; done)) hH ?_
    simp only [Act.put, List.setIfInBounds_toArray, List.set_cons_zero, List.set_cons_succ]
    refine takeV 1 (.int .i64 (en : Int)) rfl (by kernel_rfl) (by kernel_rfl) (by kernel_rfl) (fun _ _ _ h => h) (by rfl) (fun w _ => by first | rfl | (go_simp; done)) hH ?_
    simp only [Act.put, List.setIfInBounds_toArray, List.set_cons_zero, List.set_cons_succ]
    refine takeV 2 (.int .i64 7) rfl (by kernel_rfl) (by kernel_rfl) (by kernel_rfl) (fun _ _ _ h => h) (by rfl) (fun w _ => by first | rfl | (go_simp; done)) hH ?_
    simp only [Act.put, List.setIfInBounds_toArray, List.set_cons_zero, List.set_cons_succ]
    refine takeV 3 (.int .i64 128) rfl (by kernel_rfl) (by kernel_rfl) (by kernel_rfl) (fun _ _ _ h => h) (by rfl) (fun w _ => by first | rfl | (go_simp; done)) hH ?_
    simp only [Act.put, List.setIfInBounds_toArray, List.set_cons_zero, List.set_cons_succ]
    refine takeV 4 (.int .i64 ((en : Int) - 128)) rfl (by kernel_rfl) (by kernel_rfl) (by kernel_rfl) (fun _ _ _ h => h) (by rfl) (fun w _ => by first | rfl | (go_simp; done)) hH ?_
    simp only [Act.put, List.setIfInBounds_toArray, List.set_cons_zero, List.set_cons_succ]
    refine takeV 5 (.int .i8 ((en : Int) - 128)) rfl (by kernel_rfl) (by kernel_rfl) (by kernel_rfl) (fun _ _ _ h => h) (by rfl) (fun w _ => by first | rfl | (go_simp; done)) hH ?_
    simp only [Act.put, List.setIfInBounds_toArray, List.set_cons_zero, List.set_cons_succ]
    refine takeV 6 (.pointer (some ⟨b, 0, none⟩)) rfl (by kernel_rfl) (by kernel_rfl) (by kernel_rfl) (fun _ _ _ h => h) (by rfl) (fun w _ => by first | rfl | (go_simp; done)) hH ?_
    simp only [Act.put, List.setIfInBounds_toArray, List.set_cons_zero, List.set_cons_succ]
    refine takeV 7 (.int .i64 7) rfl (by kernel_rfl) (by kernel_rfl) (by kernel_rfl) (fun _ _ _ h => h) (by rfl) (fun w _ => by first | rfl | (go_simp; done)) hH ?_
    simp only [Act.put, List.setIfInBounds_toArray, List.set_cons_zero, List.set_cons_succ]
    refine takeV 8 (.int .u64 128) rfl (by kernel_rfl) (by kernel_rfl) (by kernel_rfl) (fun _ _ _ h => h) (by rfl) (fun w _ => by first | rfl | (go_simp; done)) hH ?_
    simp only [Act.put, List.setIfInBounds_toArray, List.set_cons_zero, List.set_cons_succ]
    refine takeV 9 (wv 4 128) rfl (by kernel_rfl) (by kernel_rfl) (by kernel_rfl) (fun _ _ _ h => h) (by rfl) (fun w _ => by rw [← small_wv 128 (by decide)]; first | rfl | (go_simp; done) | kernel_rfl) hH ?_
    simp only [Act.put, List.setIfInBounds_toArray, List.set_cons_zero, List.set_cons_succ]
    refine step1 10 (by kernel_rfl) rfl (fun K hK => ?_)
    rw [if_pos (by rfl)]
    go_simp
    refine Calls.mono (add_num b (n - en) 128 HH.out (by decide) _ HT.out.1 HT.out.2.1) ?_
    rintro e w5 ⟨rfl, g5, r5, t5⟩
    dsimp only
    refine hK.out _ _ trivial (fun hH => ?_)
    clear hK K
    refine takeV 11 (.int .i8 ((en : Int) - 128)) rfl (by kernel_rfl) (by kernel_rfl) (by kernel_rfl) (fun _ _ _ h => h) (by rfl) (fun w _ => by first | rfl | (go_simp; done)) hH ?_
    simp only [Act.put, List.setIfInBounds_toArray, List.set_cons_zero, List.set_cons_succ]
    refine takeV 12 (.int .u64 (((n - en + 128) / M : Nat) : Int)) rfl (by kernel_rfl) (by kernel_rfl) (by kernel_rfl) (fun _ _ _ h => h) (by rfl) (fun w _ => by first | rfl | (go_simp; done)) hH ?_
    simp only [Act.put, List.setIfInBounds_toArray, List.set_cons_zero, List.set_cons_succ]
    refine wpAnyH_done (by kernel_rfl) ?_ _
    refine NoPanic.normal ?_
    repeat go_step
    go_ret2
    refine ⟨⟨(n - en + 128) % M, (n - en + 128) / M, ?_, r5, ?_, Nat.mod_lt _ (by decide), ?_⟩, ?_, t5⟩
    · rw [← HQ2.out]; simp
    · rw [HQ.out.1, Nat.mul_comm]; exact Nat.mod_add_div (n - en + 128) M
    · have h9 : n - en < M := HH.out
      have h8 : 128 < M := by decide
      have h7 : (n - en + 128) / M < 2 := Nat.div_lt_of_lt_mul (by omega)
      exact Nat.le_of_lt_succ h7
    · exact GB.trans HT.out.2.2.1 g5

theorem i8_8 (e : Nat) (h : ¬ e < 128) (h2 : e < 256) : wrap64 (e : Int) = (e : Int) ∧ IntKind.i8.wrap ((e : Int) - 256) = (e : Int) - 256 ∧ IntKind.i64.wrap ((e : Int) - 256) = (e : Int) - 256 ∧ IntKind.i64.wrap (e : Int) = (e : Int) := by
  rw [wrap8, IntKind.wrap_i64, IntKind.wrap_i64]; unfold wrap64; omega
theorem i8s_8 (e : Nat) (h : e < 128) : IntKind.i8.wrap (e : Int) = (e : Int) := by rw [wrap8]; omega

set_option maxRecDepth 100000 in
set_option maxHeartbeats 4000000 in
theorem part_8 (b n : Nat) (hn : n < M) (hodd : ¬ n % 2 = 0) (w : World) (hr : w.rangeAt b 0 (wl 4 n)) (ht : w.there b 0 4) :
    Calls Tryd.prog 67 #[.pointer (some ⟨b, 0, none⟩), .int .i64 8] w fun e w' => (∃ v c, e = .returned (.tuple #[.int .i8 (nd 8 n), .int .u64 ((c : Nat) : Int)]) ∧ w'.rangeAt b 0 (wl 4 v) ∧ v + c * M = nq 8 n ∧ v < M ∧ c ≤ 1) ∧ GB b w w' ∧ w'.there b 0 4 := by
  have d1 : w.cell? ⟨b, 0, none⟩ = some (.int .u64 (dg B n 0 : Nat)) := hr 0 _ (wl_get 4 n 0 (by decide))
  have d2 : w.frozen? ⟨b, 0, none⟩ = false := (ht 0 (by decide)).2
  have hd : dg B n 0 < B := dg_lt B_pos
  have hm : bits .and .u64 ((dg B n 0 : Nat) : Int) 255 = ((dg B n 0 % 256 : Nat) : Int) := mask (dg B n 0) 8 hd (by decide)
  have hl : dg B n 0 % 256 = n % 256 := low_mod n 8 (by decide)
  have hle : dg B n 0 % 256 ≤ dg B n 0 := Nat.mod_le _ _
  have hst := st_low n _ hle
  have hlt : dg B n 0 % 256 < 256 := Nat.mod_lt _ (by decide)
  have hsub : dg B n 0 - dg B n 0 % 256 < B := Nat.lt_of_le_of_lt (Nat.sub_le _ _) hd
  have hset := wrange_set hr hsub (show 0 < 4 by decide)
  have eint : ((dg B n 0 : Nat) : Int) - ((dg B n 0 % 256 : Nat) : Int) = ((dg B n 0 - dg B n 0 % 256 : Nat) : Int) := (Int.ofNat_sub hle).symm
  have hvlt : st B n 0 (dg B n 0 - dg B n 0 % 256) < M := by rw [← B4]; exact st_lt B_pos hsub (by decide) (by rw [B4]; exact hn)
  have es : st B n 0 (dg B n 0 - dg B n 0 % 256) = n - n % 256 := by
    rw [← hl]; generalize dg B n 0 % 256 = t at *; generalize st B n 0 (dg B n 0 - t) = s at *; clear hset d1 d2 hm eint; omega
  rw [es] at hset hvlt
  rw [hl] at hlt hm eint hsub hset
  have hsubB : dg B n 0 - n % 256 < 18446744073709551616 := hsub
  have HT := Hid.of (And.intro hset (And.intro (there_setCell ht ⟨b, 0, none⟩ (.int .u64 ((dg B n 0 - n % 256 : Nat) : Int))) (And.intro (GB.setCell (GB.refl b w) (o := 0) (.int .u64 ((dg B n 0 - n % 256 : Nat) : Int))) hvlt)))
  have hdB : dg B n 0 < 18446744073709551616 := hd
  clear hl hle hst es hset hvlt hr ht hd hsub
  by_cases hsm : n % 256 < 128
  · obtain ⟨q1, q2⟩ := nq_small (w := 8) hodd hsm
    have HQ := Hid.of (And.intro q1 q2)
    have hii := i8s_8 _ hsm
    clear q1 q2 hodd
    have hsi : ((n % 256 : Nat) : Int) < 128 := Int.ofNat_lt.2 hsm
    have HQ2 := Hid.of (show ((n % 256 : Nat) : Int) = nd 8 n from HQ.out.2.symm)
    generalize hx : dg B n 0 - n % 256 = x1 at *
    generalize hen : n % 256 = en at *
    generalize dg B n 0 = x0 at *
    clear hx
    have HN := Hid.of hen
    clear hen
    go_enter Tryd.func67, Tryd.ntmps67
    go_wp2
    go_quiet (fail)
    go_wp2
    go_region
    go_wp2
    go_ret2
    refine ⟨⟨_, 0, ?_, HT.out.1, ?_, HT.out.2.2.2, by decide⟩, HT.out.2.2.1, HT.out.2.1⟩
    · rw [← HQ2.out]; simp
    · rw [HQ.out.1, Nat.zero_mul, Nat.add_zero]
  · obtain ⟨q1, q2⟩ := nq_great (w := 8) hodd hsm
    have HQ := Hid.of (And.intro q1 q2)
    obtain ⟨i1, i2, i3, i4⟩ := i8_8 _ hsm hlt
    clear q1 q2 hodd
    have hsi : ¬ ((n % 256 : Nat) : Int) < 128 := fun h => hsm (Int.ofNat_lt.1 h)
    have HQ2 := Hid.of (show ((n % 256 : Nat) : Int) - 256 = nd 8 n from HQ.out.2.symm)
    generalize hx : dg B n 0 - n % 256 = x1 at *
    generalize hen : n % 256 = en at *
    generalize dg B n 0 = x0 at *
    clear hx
    have HN := Hid.of hen
    clear hen
    go_enter Tryd.func67, Tryd.ntmps67
    go_wp2
    go_quiet (fail)
    go_wp2
    go_region
    go_wp2
    have hM1 : n - en < M := Nat.lt_of_le_of_lt (Nat.sub_le _ _) hn
    have HH := Hid.of hM1
    clear hM1
    refine wp_region_noPanic ?_
    refine wp_region_held_drew (S := fun _ => True) (by kernel_rfl) trivial (fun hH => ?_)
    refine takeV 0 (.int .u64 (en : Int)) rfl (by kernel_rfl) (by kernel_rfl) (by kernel_rfl) (fun _ _ _ h => h) (by rfl) (fun w _ => by first | rfl | (go_simp; done)) hH ?_
    simp only [Act.put, List.setIfInBounds_toArray, List.set_cons_zero, List.set_cons_succ]
    refine takeV 1 (.int .i64 (en : Int)) rfl (by kernel_rfl) (by kernel_rfl) (by kernel_rfl) (fun _ _ _ h => h) (by rfl) (fun w _ => by first | rfl | (go_simp; done)) hH ?_
    simp only [Act.put, List.setIfInBounds_toArray, List.set_cons_zero, List.set_cons_succ]
    refine takeV 2 (.int .i64 8) rfl (by kernel_rfl) (by kernel_rfl) (by kernel_rfl) (fun _ _ _ h => h) (by rfl) (fun w _ => by first | rfl | (go_simp; done)) hH ?_
    simp only [Act.put, List.setIfInBounds_toArray, List.set_cons_zero, List.set_cons_succ]
    refine takeV 3 (.int .i64 256) rfl (by kernel_rfl) (by kernel_rfl) (by kernel_rfl) (fun _ _ _ h => h) (by rfl) (fun w _ => by first | rfl | (go_simp; done)) hH ?_
    simp only [Act.put, List.setIfInBounds_toArray, List.set_cons_zero, List.set_cons_succ]
    refine takeV 4 (.int .i64 ((en : Int) - 256)) rfl (by kernel_rfl) (by kernel_rfl) (by kernel_rfl) (fun _ _ _ h => h) (by rfl) (fun w _ => by first | rfl | (go_simp; done)) hH ?_
    simp only [Act.put, List.setIfInBounds_toArray, List.set_cons_zero, List.set_cons_succ]
    refine takeV 5 (.int .i8 ((en : Int) - 256)) rfl (by kernel_rfl) (by kernel_rfl) (by kernel_rfl) (fun _ _ _ h => h) (by rfl) (fun w _ => by first | rfl | (go_simp; done)) hH ?_
    simp only [Act.put, List.setIfInBounds_toArray, List.set_cons_zero, List.set_cons_succ]
    refine takeV 6 (.pointer (some ⟨b, 0, none⟩)) rfl (by kernel_rfl) (by kernel_rfl) (by kernel_rfl) (fun _ _ _ h => h) (by rfl) (fun w _ => by first | rfl | (go_simp; done)) hH ?_
    simp only [Act.put, List.setIfInBounds_toArray, List.set_cons_zero, List.set_cons_succ]
    refine takeV 7 (.int .i64 8) rfl (by kernel_rfl) (by kernel_rfl) (by kernel_rfl) (fun _ _ _ h => h) (by rfl) (fun w _ => by first | rfl | (go_simp; done)) hH ?_
    simp only [Act.put, List.setIfInBounds_toArray, List.set_cons_zero, List.set_cons_succ]
    refine takeV 8 (.int .u64 256) rfl (by kernel_rfl) (by kernel_rfl) (by kernel_rfl) (fun _ _ _ h => h) (by rfl) (fun w _ => by first | rfl | (go_simp; done)) hH ?_
    simp only [Act.put, List.setIfInBounds_toArray, List.set_cons_zero, List.set_cons_succ]
    refine takeV 9 (wv 4 256) rfl (by kernel_rfl) (by kernel_rfl) (by kernel_rfl) (fun _ _ _ h => h) (by rfl) (fun w _ => by rw [← small_wv 256 (by decide)]; first | rfl | (go_simp; done) | kernel_rfl) hH ?_
    simp only [Act.put, List.setIfInBounds_toArray, List.set_cons_zero, List.set_cons_succ]
    refine step1 10 (by kernel_rfl) rfl (fun K hK => ?_)
    rw [if_pos (by rfl)]
    go_simp
    refine Calls.mono (add_num b (n - en) 256 HH.out (by decide) _ HT.out.1 HT.out.2.1) ?_
    rintro e w5 ⟨rfl, g5, r5, t5⟩
    dsimp only
    refine hK.out _ _ trivial (fun hH => ?_)
    clear hK K
    refine takeV 11 (.int .i8 ((en : Int) - 256)) rfl (by kernel_rfl) (by kernel_rfl) (by kernel_rfl) (fun _ _ _ h => h) (by rfl) (fun w _ => by first | rfl | (go_simp; done)) hH ?_
    simp only [Act.put, List.setIfInBounds_toArray, List.set_cons_zero, List.set_cons_succ]
    refine takeV 12 (.int .u64 (((n - en + 256) / M : Nat) : Int)) rfl (by kernel_rfl) (by kernel_rfl) (by kernel_rfl) (fun _ _ _ h => h) (by rfl) (fun w _ => by first | rfl | (go_simp; done)) hH ?_
    simp only [Act.put, List.setIfInBounds_toArray, List.set_cons_zero, List.set_cons_succ]
    refine wpAnyH_done (by kernel_rfl) ?_ _
    refine NoPanic.normal ?_
    repeat go_step
    go_ret2
    refine ⟨⟨(n - en + 256) % M, (n - en + 256) / M, ?_, r5, ?_, Nat.mod_lt _ (by decide), ?_⟩, ?_, t5⟩
    · rw [← HQ2.out]; simp
    · rw [HQ.out.1, Nat.mul_comm]; exact Nat.mod_add_div (n - en + 256) M
    · have h9 : n - en < M := HH.out
      have h8 : 256 < M := by decide
      have h7 : (n - en + 256) / M < 2 := Nat.div_lt_of_lt_mul (by omega)
      exact Nat.le_of_lt_succ h7
    · exact GB.trans HT.out.2.2.1 g5

theorem part_num (b n k : Nat) (hn : n < M) (hodd : ¬ n % 2 = 0) (hk : 2 ≤ k) (hk8 : k ≤ 8) (w : World) (hr : w.rangeAt b 0 (wl 4 n)) (ht : w.there b 0 4) :
    Calls Tryd.prog 67 #[.pointer (some ⟨b, 0, none⟩), .int .i64 (k : Int)] w fun e w' => (∃ v c, e = .returned (.tuple #[.int .i8 (nd k n), .int .u64 ((c : Nat) : Int)]) ∧ w'.rangeAt b 0 (wl 4 v) ∧ v + c * M = nq k n ∧ v < M ∧ c ≤ 1) ∧ GB b w w' ∧ w'.there b 0 4 := by
  have h : k = 2 ∨ k = 3 ∨ k = 4 ∨ k = 5 ∨ k = 6 ∨ k = 7 ∨ k = 8 := by omega
  rcases h with rfl | rfl | rfl | rfl | rfl | rfl | rfl
  · exact part_2 b n hn hodd w hr ht
  · exact part_3 b n hn hodd w hr ht
  · exact part_4 b n hn hodd w hr ht
  · exact part_5 b n hn hodd w hr ht
  · exact part_6 b n hn hodd w hr ht
  · exact part_7 b n hn hodd w hr ht
  · exact part_8 b n hn hodd w hr ht
end Go.Proofs.YteijccjdejjbjaaDoor
