import Derived.Test.YtdlfkdehfenemaaGb
namespace Go.Proofs.Ytdlfkdehfenemaa
open Go.RowKit Go.Conc TextNum
set_option maxRecDepth 100000 in
theorem short_val (w : World) (a : Option Addr) (c : Nat) (d : List UInt8) (h : Sb w (.slice a d.length c) d) : Calls Try.prog 21 #[.slice a d.length c] w fun e w' => e = .returned (.slice a (d.take 4096).length c) ∧ w' = w := by
  obtain ⟨a', c', e, h1, h2, h3, h4⟩ := id h
  injection e with e1 _ e3
  subst e1 e3
  by_cases hl : 4096 < d.length
  · have hz : (4096 : Int) < (d.length : Int) := by omega
    have hz2 : (4096 : Int) ≤ (c : Int) := by omega
    have he : (d.take 4096).length = 4096 := by rw [List.length_take]; omega
    rw [he]
    clear h h1 h2 h3 h4 he
    go_enter Try.func21, Try.ntmps21
    go_wp2
    go_ret
    exact ⟨by cases a <;> rfl, rfl⟩
  · have hz : ¬ ((4096 : Int) < (d.length : Int)) := by omega
    have he : (d.take 4096).length = d.length := by rw [List.length_take]; omega
    rw [he]
    clear h h1 h2 h3 h4 he
    go_enter Try.func21, Try.ntmps21
    go_wp2
    go_ret
    exact ⟨rfl, rfl⟩
theorem sb_short {w : World} {a : Option Addr} {c : Nat} {d : List UInt8} (h : Sb w (.slice a d.length c) d) : Sb w (.slice a (d.take 4096).length c) (d.take 4096) := by
  by_cases hl : 4096 < d.length
  · have := Sb.take' h 4096 (by omega)
    rw [show (d.take 4096).length = 4096 by rw [List.length_take]; omega]
    exact this
  · rw [List.take_of_length_le (by omega)]
    exact h
set_option maxRecDepth 100000 in
set_option maxHeartbeats 4000000 in
theorem tamed_walk (w w0 : World) (g i k n : Int) (a : Option Addr) (c : Nat) (l : List UInt8) (h : Sb w (.slice a l.length c) l) (h0 : Sb w0 (.slice a l.length c) l) :
    Calls Try.prog 42 #[.agg #[.int .i64 g, .int .i64 i, .slice a l.length c, .int .i64 k, .int .i64 n]] w fun e w' => ∃ s : Sn, e = .returned (.agg (snc s).toArray) ∧ SnOk w0 s ∧ (0 ≤ s.n ∧ s.n < 40) ∧ Up w w' := by
  have HS := Hid.of h0
  have HA := Hid.of (show At ((w.alloc (.cells #[.int .i64 g, .int .i64 i, .slice a l.length c, .int .i64 k, .int .i64 n] 65)).alloc (.cells #[.int .i64 0, .int .i64 0, .slice none 0 0, .int .i64 0, .int .i64 0] 65)) w.heap.size 65 [.int .i64 g, .int .i64 i, .slice a l.length c, .int .i64 k, .int .i64 n] from (at_new w 65 [.int .i64 g, .int .i64 i, .slice a l.length c, .int .i64 k, .int .i64 n]).up ((Up.refl _).alloc (.cells #[.int .i64 0, .int .i64 0, .slice none 0 0, .int .i64 0, .int .i64 0] 65)))
  have HB := Hid.of (show At ((w.alloc (.cells #[.int .i64 g, .int .i64 i, .slice a l.length c, .int .i64 k, .int .i64 n] 65)).alloc (.cells #[.int .i64 0, .int .i64 0, .slice none 0 0, .int .i64 0, .int .i64 0] 65)) (w.heap.size + 1) 65 [.int .i64 0, .int .i64 0, .slice none 0 0, .int .i64 0, .int .i64 0] from by
    have := at_new (w.alloc (.cells #[.int .i64 g, .int .i64 i, .slice a l.length c, .int .i64 k, .int .i64 n] 65)) 65 [.int .i64 0, .int .i64 0, .slice none 0 0, .int .i64 0, .int .i64 0]
    rw [show (w.alloc (.cells #[.int .i64 g, .int .i64 i, .slice a l.length c, .int .i64 k, .int .i64 n] 65)).heap.size = w.heap.size + 1 by show (w.heap.push _).size = _; rw [Array.size_push]] at this
    exact this)
  have HU := Hid.of (((Up.refl w).alloc (.cells #[.int .i64 g, .int .i64 i, .slice a l.length c, .int .i64 k, .int .i64 n] 65)).alloc (.cells #[.int .i64 0, .int .i64 0, .slice none 0 0, .int .i64 0, .int .i64 0] 65))
  have c0 := HA.out.cell (i := 2) rfl
  have hsz : (w.alloc (.cells #[.int .i64 g, .int .i64 i, .slice a l.length c, .int .i64 k, .int .i64 n] 65)).heap.size = w.heap.size + 1 := by show (w.heap.push _).size = _; rw [Array.size_push]
  have hSh := short_val ((w.alloc (.cells #[.int .i64 g, .int .i64 i, .slice a l.length c, .int .i64 k, .int .i64 n] 65)).alloc (.cells #[.int .i64 0, .int .i64 0, .slice none 0 0, .int .i64 0, .int .i64 0] 65)) a c l (h.up HU.out)
  clear h h0
  go_enter Try.func42, Try.ntmps42
  go_wp2_with fail
  clear c0 hsz
  generalize (w.alloc (.cells #[.int .i64 g, .int .i64 i, .slice a l.length c, .int .i64 k, .int .i64 n] 65)).alloc (.cells #[.int .i64 0, .int .i64 0, .slice none 0 0, .int .i64 0, .int .i64 0] 65) = W0 at *
  refine hSh.mono ?_
  rintro e w9 ⟨rfl, h9⟩
  obtain rfl := h9.symm
  clear h9 hSh
  have hl4 : (l.take 4096).length ≤ 4096 := by rw [List.length_take]; omega
  have HT := Hid.of (sb_short HS.out)
  generalize l.take 4096 = d at *
  generalize hb0 : w.heap.size = b0 at *
  dsimp only
  have cS := HA.out.cell (i := 2) rfl
  have t0 := HA.out.thaw 2
  have HA2 := Hid.of (HA.out.set 2 (.slice a d.length c))
  simp only [List.set_cons_zero, List.set_cons_succ] at HA2
  have HB2 := Hid.of (HB.out.by (grown_at W0 b0 2 (.slice a d.length c)) (by simp))
  have HU2 := Hid.of (HU.out.by (grown_at W0 b0 2 (.slice a d.length c)) (fun g hg => by have := Option.some.inj hg; omega))
  have c0 := HA2.out.cell (i := 0) rfl
  clear HA HB HU
  have HA := HA2
  have HB := HB2
  have HU := HU2
  clear HA2 HB2 HU2
  go_wp2_with fail
  clear t0 c0 cS
  generalize W0.setCell ⟨b0, 2, none⟩ (.slice a d.length c) = W1 at *
  refine (below_walk W1 g 20 (by omega) (by omega)).mono ?_
  rintro e w9 ⟨g1, rfl, hg1, h9⟩
  obtain rfl := h9.symm
  clear h9
  dsimp only
  have cS := HA.out.cell (i := 0) rfl
  have t0 := HA.out.thaw 0
  have HA2 := Hid.of (HA.out.set 0 (.int .i64 (g1 : Int)))
  simp only [List.set_cons_zero] at HA2
  have HB2 := Hid.of (HB.out.by (grown_at W1 b0 0 (.int .i64 (g1 : Int))) (by simp))
  have HU2 := Hid.of (HU.out.by (grown_at W1 b0 0 (.int .i64 (g1 : Int))) (fun g hg => by have := Option.some.inj hg; omega))
  have c0 := HA2.out.cell (i := 1) rfl
  clear HA HB HU
  have HA := HA2
  have HB := HB2
  have HU := HU2
  clear HA2 HB2 HU2
  go_wp2_with fail
  clear t0 c0 cS
  generalize W1.setCell ⟨b0, 0, none⟩ (.int .i64 (g1 : Int)) = W2 at *
  refine (below_walk W2 i 2 (by omega) (by omega)).mono ?_
  rintro e w9 ⟨i1, rfl, hi1, h9⟩
  obtain rfl := h9.symm
  clear h9
  dsimp only
  have cS := HA.out.cell (i := 1) rfl
  have t0 := HA.out.thaw 1
  have HA2 := Hid.of (HA.out.set 1 (.int .i64 (i1 : Int)))
  simp only [List.set_cons_zero, List.set_cons_succ] at HA2
  have HB2 := Hid.of (HB.out.by (grown_at W2 b0 1 (.int .i64 (i1 : Int))) (by simp))
  have HU2 := Hid.of (HU.out.by (grown_at W2 b0 1 (.int .i64 (i1 : Int))) (fun g hg => by have := Option.some.inj hg; omega))
  have c0 := HA2.out.cell (i := 3) rfl
  clear HA HB HU
  have HA := HA2
  have HB := HB2
  have HU := HU2
  clear HA2 HB2 HU2
  go_wp2_with fail
  clear t0 c0 cS
  generalize W2.setCell ⟨b0, 1, none⟩ (.int .i64 (i1 : Int)) = W3 at *
  refine (below_walk W3 k 6 (by omega) (by omega)).mono ?_
  rintro e w9 ⟨k1, rfl, hk1, h9⟩
  obtain rfl := h9.symm
  clear h9
  dsimp only
  by_cases hk2 : k1 = 2
  · subst hk2
    rw [show ((2 : Nat) : Int) = 2 from rfl]
    have cS := HA.out.cell (i := 3) rfl
    have t0 := HA.out.thaw 3
    have HA2 := Hid.of (HA.out.set 3 (.int .i64 2))
    simp only [List.set_cons_zero, List.set_cons_succ] at HA2
    have HB2 := Hid.of (HB.out.by (grown_at W3 b0 3 (.int .i64 2)) (by simp))
    have HU2 := Hid.of (HU.out.by (grown_at W3 b0 3 (.int .i64 2)) (fun g hg => by have := Option.some.inj hg; omega))
    have c0 := HA2.out.cell (i := 3) rfl
    clear HA HB HU
    have HA := HA2
    have HB := HB2
    have HU := HU2
    clear HA2 HB2 HU2
    have c1 := HA.out.cell (i := 4) rfl
    go_wp2_with fail
    clear t0 c0 c1 cS
    generalize W3.setCell ⟨b0, 3, none⟩ (.int .i64 2) = W4 at *
    refine (below_walk W4 n 40 (by omega) (by omega)).mono ?_
    rintro e w9 ⟨n1, rfl, hn1, h9⟩
    obtain rfl := h9.symm
    clear h9
    dsimp only
    have cS := HA.out.cell (i := 4) rfl
    have t0 := HA.out.thaw 4
    have HA2 := Hid.of (HA.out.set 4 (.int .i64 (n1 : Int)))
    simp only [List.set_cons_zero, List.set_cons_succ] at HA2
    have HB2 := Hid.of (HB.out.by (grown_at W4 b0 4 (.int .i64 (n1 : Int))) (by simp))
    have HU2 := Hid.of (HU.out.by (grown_at W4 b0 4 (.int .i64 (n1 : Int))) (fun g hg => by have := Option.some.inj hg; omega))
    clear HA HB HU
    go_wp2_with (with_reducible show wpList _ _ _ ({ dst := _, op := Op.load 65 _, type := _, pos := _, after := _, guard := _ } :: _) _ _; refine Shut.out ?_)
    show wpList _ _ _ _ _ _
    generalize W4.setCell ⟨b0, 4, none⟩ (.int .i64 (n1 : Int)) = WZ at *
    refine wpList_load_row rfl 65 _ rfl b0 rfl 65 #[.int .i64 (g1 : Int), .int .i64 (i1 : Int), .slice a d.length c, .int .i64 2, .int .i64 (n1 : Int)] (0, 0) _ HA2.out Try.underlying65 rfl (by kernel_rfl) ?_
    simp only [Act.put, List.setIfInBounds_toArray, List.set_cons_zero, List.set_cons_succ]
    go_wp2_with (with_reducible show wpList _ _ _ ({ dst := _, op := Op.store 65 _ _, type := _, pos := _, after := _, guard := _ } :: _) _ _; refine Shut.out ?_)
    show wpList _ _ _ _ _ _
    refine wpList_store_at rfl 65 _ _ rfl (b0 + 1) HB2.out [.int .i64 (g1 : Int), .int .i64 (i1 : Int), .slice a d.length c, .int .i64 2, .int .i64 (n1 : Int)] rfl rfl rfl (by kernel_rfl) (by simp [Value.oneCell']) ?_
    intro w5 a5 g5
    simp only [Act.put]
    go_wp2
    refine bodyPost_ret (results_cell_row rfl _ _ (b0 + 1) 65 #[.int .i64 (g1 : Int), .int .i64 (i1 : Int), .slice a d.length c, .int .i64 2, .int .i64 (n1 : Int)] (0, 0) _ rfl a5 Try.underlying65 rfl (by kernel_rfl)) rfl ?_
    refine ⟨⟨g1, i1, a, c, d, 2, (n1 : Int)⟩, rfl, ⟨HT.out, hl4, hi1, hg1, ?_⟩, ⟨by show (0 : Int) ≤ (n1 : Int); omega, by show (n1 : Int) < 40; omega⟩, HU2.out.by g5 (fun g hg => by have := Option.some.inj hg; omega)⟩
    show fok (2, (n1 : Int)) = true
    simp [fok]
    omega
  · by_cases hk3 : k1 = 3
    · subst hk3
      rw [show ((3 : Nat) : Int) = 3 from rfl]
      have cS := HA.out.cell (i := 3) rfl
      have t0 := HA.out.thaw 3
      have HA2 := Hid.of (HA.out.set 3 (.int .i64 3))
      simp only [List.set_cons_zero, List.set_cons_succ] at HA2
      have HB2 := Hid.of (HB.out.by (grown_at W3 b0 3 (.int .i64 3)) (by simp))
      have HU2 := Hid.of (HU.out.by (grown_at W3 b0 3 (.int .i64 3)) (fun g hg => by have := Option.some.inj hg; omega))
      have c0 := HA2.out.cell (i := 3) rfl
      clear HA HB HU
      have HA := HA2
      have HB := HB2
      have HU := HU2
      clear HA2 HB2 HU2
      have c1 := HA.out.cell (i := 4) rfl
      go_wp2_with fail
      clear t0 c0 c1 cS
      generalize W3.setCell ⟨b0, 3, none⟩ (.int .i64 3) = W4 at *
      refine (below_walk W4 n 40 (by omega) (by omega)).mono ?_
      rintro e w9 ⟨n1, rfl, hn1, h9⟩
      obtain rfl := h9.symm
      clear h9
      dsimp only
      have cS := HA.out.cell (i := 4) rfl
      have t0 := HA.out.thaw 4
      have HA2 := Hid.of (HA.out.set 4 (.int .i64 (n1 : Int)))
      simp only [List.set_cons_zero, List.set_cons_succ] at HA2
      have HB2 := Hid.of (HB.out.by (grown_at W4 b0 4 (.int .i64 (n1 : Int))) (by simp))
      have HU2 := Hid.of (HU.out.by (grown_at W4 b0 4 (.int .i64 (n1 : Int))) (fun g hg => by have := Option.some.inj hg; omega))
      clear HA HB HU
      go_wp2_with (with_reducible show wpList _ _ _ ({ dst := _, op := Op.load 65 _, type := _, pos := _, after := _, guard := _ } :: _) _ _; refine Shut.out ?_)
      show wpList _ _ _ _ _ _
      generalize W4.setCell ⟨b0, 4, none⟩ (.int .i64 (n1 : Int)) = WZ at *
      refine wpList_load_row rfl 65 _ rfl b0 rfl 65 #[.int .i64 (g1 : Int), .int .i64 (i1 : Int), .slice a d.length c, .int .i64 3, .int .i64 (n1 : Int)] (0, 0) _ HA2.out Try.underlying65 rfl (by kernel_rfl) ?_
      simp only [Act.put, List.setIfInBounds_toArray, List.set_cons_zero, List.set_cons_succ]
      go_wp2_with (with_reducible show wpList _ _ _ ({ dst := _, op := Op.store 65 _ _, type := _, pos := _, after := _, guard := _ } :: _) _ _; refine Shut.out ?_)
      show wpList _ _ _ _ _ _
      refine wpList_store_at rfl 65 _ _ rfl (b0 + 1) HB2.out [.int .i64 (g1 : Int), .int .i64 (i1 : Int), .slice a d.length c, .int .i64 3, .int .i64 (n1 : Int)] rfl rfl rfl (by kernel_rfl) (by simp [Value.oneCell']) ?_
      intro w5 a5 g5
      simp only [Act.put]
      go_wp2
      refine bodyPost_ret (results_cell_row rfl _ _ (b0 + 1) 65 #[.int .i64 (g1 : Int), .int .i64 (i1 : Int), .slice a d.length c, .int .i64 3, .int .i64 (n1 : Int)] (0, 0) _ rfl a5 Try.underlying65 rfl (by kernel_rfl)) rfl ?_
      refine ⟨⟨g1, i1, a, c, d, 3, (n1 : Int)⟩, rfl, ⟨HT.out, hl4, hi1, hg1, ?_⟩, ⟨by show (0 : Int) ≤ (n1 : Int); omega, by show (n1 : Int) < 40; omega⟩, HU2.out.by g5 (fun g hg => by have := Option.some.inj hg; omega)⟩
      show fok (3, (n1 : Int)) = true
      simp [fok]
      omega
    · have hz2 : ¬ (k1 : Int) = 2 := by omega
      have hz3 : ¬ (k1 : Int) = 3 := by omega
      have cS := HA.out.cell (i := 3) rfl
      have t0 := HA.out.thaw 3
      have HA2 := Hid.of (HA.out.set 3 (.int .i64 (k1 : Int)))
      simp only [List.set_cons_zero, List.set_cons_succ] at HA2
      have HB2 := Hid.of (HB.out.by (grown_at W3 b0 3 (.int .i64 (k1 : Int))) (by simp))
      have HU2 := Hid.of (HU.out.by (grown_at W3 b0 3 (.int .i64 (k1 : Int))) (fun g hg => by have := Option.some.inj hg; omega))
      have c0 := HA2.out.cell (i := 3) rfl
      clear HA HB HU
      have HA := HA2
      have HB := HB2
      have HU := HU2
      clear HA2 HB2 HU2
      have c1 := HA.out.cell (i := 4) rfl
      go_wp2_with fail
      clear t0 c0 c1 cS
      generalize W3.setCell ⟨b0, 3, none⟩ (.int .i64 (k1 : Int)) = W4 at *
      refine (below_walk W4 n 12 (by omega) (by omega)).mono ?_
      rintro e w9 ⟨n1, rfl, hn1, h9⟩
      obtain rfl := h9.symm
      clear h9
      dsimp only
      have cS := HA.out.cell (i := 4) rfl
      have t0 := HA.out.thaw 4
      have HA2 := Hid.of (HA.out.set 4 (.int .i64 (n1 : Int)))
      simp only [List.set_cons_zero, List.set_cons_succ] at HA2
      have HB2 := Hid.of (HB.out.by (grown_at W4 b0 4 (.int .i64 (n1 : Int))) (by simp))
      have HU2 := Hid.of (HU.out.by (grown_at W4 b0 4 (.int .i64 (n1 : Int))) (fun g hg => by have := Option.some.inj hg; omega))
      clear HA HB HU
      go_wp2_with (with_reducible show wpList _ _ _ ({ dst := _, op := Op.load 65 _, type := _, pos := _, after := _, guard := _ } :: _) _ _; refine Shut.out ?_)
      show wpList _ _ _ _ _ _
      generalize W4.setCell ⟨b0, 4, none⟩ (.int .i64 (n1 : Int)) = WZ at *
      refine wpList_load_row rfl 65 _ rfl b0 rfl 65 #[.int .i64 (g1 : Int), .int .i64 (i1 : Int), .slice a d.length c, .int .i64 (k1 : Int), .int .i64 (n1 : Int)] (0, 0) _ HA2.out Try.underlying65 rfl (by kernel_rfl) ?_
      simp only [Act.put, List.setIfInBounds_toArray, List.set_cons_zero, List.set_cons_succ]
      go_wp2_with (with_reducible show wpList _ _ _ ({ dst := _, op := Op.store 65 _ _, type := _, pos := _, after := _, guard := _ } :: _) _ _; refine Shut.out ?_)
      show wpList _ _ _ _ _ _
      refine wpList_store_at rfl 65 _ _ rfl (b0 + 1) HB2.out [.int .i64 (g1 : Int), .int .i64 (i1 : Int), .slice a d.length c, .int .i64 (k1 : Int), .int .i64 (n1 : Int)] rfl rfl rfl (by kernel_rfl) (by simp [Value.oneCell']) ?_
      intro w5 a5 g5
      simp only [Act.put]
      go_wp2
      refine bodyPost_ret (results_cell_row rfl _ _ (b0 + 1) 65 #[.int .i64 (g1 : Int), .int .i64 (i1 : Int), .slice a d.length c, .int .i64 (k1 : Int), .int .i64 (n1 : Int)] (0, 0) _ rfl a5 Try.underlying65 rfl (by kernel_rfl)) rfl ?_
      refine ⟨⟨g1, i1, a, c, d, (k1 : Int), (n1 : Int)⟩, rfl, ⟨HT.out, hl4, hi1, hg1, ?_⟩, ⟨by show (0 : Int) ≤ (n1 : Int); omega, by show (n1 : Int) < 40; omega⟩, HU2.out.by g5 (fun g hg => by have := Option.some.inj hg; omega)⟩
      show fok ((k1 : Int), (n1 : Int)) = true
      simp only [fok, Bool.or_eq_true, Bool.and_eq_true, beq_iff_eq, decide_eq_true_eq]
      omega
end Go.Proofs.Ytdlfkdehfenemaa
