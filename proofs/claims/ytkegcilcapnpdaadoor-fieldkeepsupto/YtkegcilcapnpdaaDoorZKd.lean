import Derived.Test.YtkegcilcapnpdaaDoorNh
namespace Go.Proofs.YtkegcilcapnpdaaDoor
open Go.RowKit Go.Shelf FieldNum

theorem New.put {w0 w : World} {r m j q : Nat} {G : Nat → Nat} (h : New w0 w (.slice (some ⟨r, 0, none⟩) m m) m (fun t => if t < j then q else G t)) (hj : j < m) (ht : w.there r (32 * j) 32) : New w0 (w.setCells r (32 * j) (bl q)) (.slice (some ⟨r, 0, none⟩) m m) m (fun t => if t < j + 1 then q else G t) := by
  rcases h with ⟨h, _⟩ | ⟨r', h, h2, hr⟩
  · cases h
  · injection h with h _ _
    injection h with h
    injection h with h _ _
    subst h
    refine .inr ⟨r, rfl, h2, fun i hi => ?_⟩
    show (w.setCells r (32 * j) (bl q)).rangeAt r (32 * i) (bl (if i < j + 1 then q else G i))
    by_cases e : i = j
    · subst e
      rw [if_pos (Nat.lt_succ_self i)]
      exact World.rangeAt_setCells_same _ _ _ _ (by rw [bl_length]; exact ht)
    · have : (w.setCells r (32 * j) (bl q)).rangeAt r (32 * i) (bl (if i < j then q else G i)) := World.rangeAt_setCells_apart (hr i hi) r (32 * j) (bl q) (.inr (by simp only [bl_length]; omega))
      by_cases e2 : i < j
      · rw [if_pos (by omega)]; rw [if_pos e2] at this; exact this
      · rw [if_neg (by omega)]; rw [if_neg e2] at this; exact this
theorem New.apart {w0 w : World} {v : Value} {m b o : Nat} {G : Nat → Nat} {cs : List Value} (h : New w0 w v m G) (hb : ∀ r, v.ownBlock = some r → 0 < m → r ≠ b) : New w0 (w.setCells b o cs) v m G := by
  rcases h with h | ⟨r, rfl, h2, hr⟩
  · exact .inl h
  · exact .inr ⟨r, rfl, h2, fun i hi => World.rangeAt_setCells_apart (hr i hi) b o cs (.inl (hb r rfl (by omega)))⟩
theorem New.congr {w0 w : World} {v : Value} {m : Nat} {G H : Nat → Nat} (h : New w0 w v m G) (hc : ∀ i, i < m → G i = H i) : New w0 w v m H := by
  rcases h with h | ⟨r, h1, h2, hr⟩
  · exact .inl h
  · exact .inr ⟨r, h1, h2, fun i hi => by rw [← hc i hi]; exact hr i hi⟩
theorem build_mkq (i q : Nat) (h : q = mk i) (w : World) : (Instr.build 23 #[(0, .int .u8 ((i % 256 : Nat) : Int)), (1, .int .u8 ((i / 256 % 256 : Nat) : Int)), (2, .int .u8 1), (3, .int .u8 201)]).run Tryd.prog w = .ok (bv q) w := by
  rw [h]; exact build_mk i w
set_option maxRecDepth 100000 in
theorem build_b1 (w : World) : (Instr.build 23 #[(0, .int .u8 1)]).run Tryd.prog w = .ok (bv 1) w := by kernel_rfl
theorem inv_one : inv 1 = 1 := (inv_uniq (by decide +kernel) (by decide +kernel)).symm

set_option maxRecDepth 100000 in
set_option maxHeartbeats 32000000 in
theorem keeps_r (a0 : Option Addr) (N c0 : Nat) (w : World) (hN : N ≤ 1048576) (hls : 0 < N → ∃ b off, a0 = some ⟨b, off, none⟩ ∧ ∀ i, i < N → ∃ a n c F, w.cell? ⟨b, off + i, none⟩ = some (.slice a n c) ∧ Ls w (.slice a n c) n F ∧ (∀ j, j < n → F j < S256) ∧ n ≤ 1048576) (hGl0 : Gq w) : Calls Tryd.prog 7 #[.slice a0 N c0] w fun e w' => e = .returned (.bool true) ∧ Grown w w' := by
  have HH := Hid.of (And.intro hls hN)
  have HG := Hid.of hGl0
  clear hls hN hGl0
  go_enter Tryd.func7, Tryd.ntmps7
  repeat ((fail_if_success (with_reducible show Code.wp _ (Code.region _ _ _) _ _ _)); go_step)
  refine wp_plain [.imm (.bool false)] (by kernel_rfl) (fun β => ?_) (fun β w1 hD => ?_)
  · refine Obs.cons (Ob.imm rfl (fun w => by kernel_rfl)) ?_
    exact Obs.nil
  have hW := hD.gr
  clear hD
  simp only [finAct, putAll, valsFrom, Plan.value, Act.put, List.setIfInBounds_toArray, List.set_cons_zero, List.set_cons_succ]
  repeat ((fail_if_success (with_reducible show Code.wp _ (Code.region _ _ _) _ _ _)); go_step)
  refine wp_plain [.imm (.slice none 0 0)] (by kernel_rfl) (fun β => ?_) (fun β w2 hD => ?_)
  · refine Obs.cons (Ob.imm rfl (fun w => by kernel_rfl)) ?_
    exact Obs.nil
  replace hW := grown_trans hW hD.gr
  clear hD
  simp only [finAct, putAll, valsFrom, Plan.value, Act.put, List.setIfInBounds_toArray, List.set_cons_zero, List.set_cons_succ]
  go_wp2
  go_loopw [3, 4] (fun v3 v4 wr => ∃ (i : Nat) (bk : Value) (E : Nat → Value × Value × Nat), v4 = .int .i64 (i : Int) ∧ bk = v3 ∧ i ≤ N ∧ wr.ownsRow w.heap.size 39 34 bk i (hcat E i) ∧ (∀ e, e < i → Ent wr bk (E e)) ∧ Grown w wr) (fun _ v4 _ => ((N : Int) - intOf v4).toNat)
  case atStart => exact ⟨0, _, fun _ => (.slice none 0 0, .slice none 0 0, 0), rfl, rfl, Nat.zero_le _, World.ownsRow_nil _ _ _ _, fun e he => absurd he (Nat.not_lt_zero _), hW⟩
  case round =>
    clear hW
    obtain ⟨i, bk, E, rfl, rfl, hiN, hO, hE, hW⟩ := hrel
    by_cases hi : i < N
    · obtain ⟨b, off, rfl, hcell⟩ := HH.out.1 (by omega)
      obtain ⟨a, n, c, F, hc, hL, hF, hn⟩ := hcell i hi
      have hN := HH.out.2
      have hbw : b < w.heap.size := block_lt_of_cell hc
      repeat ((fail_if_success (with_reducible show Code.wp _ (Code.region _ _ _) _ _ _)); go_step)
      refine wp_plain [.imm (.int .i64 (i : Int)), .imm (.slice (some ⟨b, off, none⟩) N c0), .imm (.int .i64 (N : Int)), .imm (.bool true)] (by kernel_rfl) (fun β => ?_) (fun β u1 hD => ?_)
      · refine Obs.cons (Ob.imm rfl (fun w => by kernel_rfl)) ?_
        refine Obs.cons (Ob.imm rfl (fun w => by kernel_rfl)) ?_
        refine Obs.cons (Ob.imm rfl (fun w => by kernel_rfl)) ?_
        refine Obs.cons (Ob.imm rfl (fun w => exec_lssI rfl (i : Int) (N : Int) (by kernel_rfl) (by kernel_rfl) true (decide_eq_true (by omega)))) ?_
        exact Obs.nil
      replace hO := owns_grown hO hD.gr
      replace hE := fun e he => (hE e he).grown hD.gr
      replace hW := grown_trans hW hD.gr
      clear hD
      simp only [finAct, putAll, valsFrom, Plan.value, Act.put, List.setIfInBounds_toArray, List.set_cons_zero, List.set_cons_succ]
      repeat ((fail_if_success (with_reducible show Code.wp _ (Code.region _ _ _) _ _ _)); go_step)
      have hcu : u1.cell? ⟨b, off + i, none⟩ = some (.slice a n c) := (grown_cell hW b (off + i) hbw).trans hc
      refine wp_region_lit ?_
      refine wpList_runS (v := .slice (some ⟨b, off, none⟩) N c0) (w' := u1) rfl (by kernel_rfl) ?_
      refine wpList_runS (v := .int .i64 (i : Int)) (w' := u1) rfl (by kernel_rfl) ?_
      refine wpList_runS (v := .pointer (some ⟨b, off + i, none⟩)) (w' := u1) rfl (exec_idxSS (c := c0) i hi rfl (by kernel_rfl) (by kernel_rfl)) ?_
      refine wpList_runS (v := .slice a n c) (w' := u1) rfl (exec_ldL rfl (by kernel_rfl) hcu) ?_
      refine wpList_callsS (f := 31) (args := #[.slice a n c]) rfl (by kernel_rfl) (BatchR_any a n c F u1 (hL.grown hW) hF (HG.out.grown hW).pr) (fun e u2 hR => ?_)
      obtain ⟨⟨vr, rfl, hvr⟩, hg⟩ := hR
      refine ⟨vr, rfl, ?_⟩
      refine wpList_runS (v := vr) (w' := u2) rfl (by kernel_rfl) ?_
      apply wpList_nil
      simp only [Act.put, List.setIfInBounds_toArray, List.set_cons_zero, List.set_cons_succ]
      replace hO := owns_grown hO hg
      replace hE := fun e he => (hE e he).grown hg
      replace hW := grown_trans hW hg
      clear hg hcu
      repeat ((fail_if_success (with_reducible show Code.wp _ (Code.region _ _ _) _ _ _)); go_step)
      have hcu : u2.cell? ⟨b, off + i, none⟩ = some (.slice a n c) := (grown_cell hW b (off + i) hbw).trans hc
      refine wp_region_lit ?_
      refine wpList_runS (v := .slice (some ⟨b, off, none⟩) N c0) (w' := u2) rfl (by kernel_rfl) ?_
      refine wpList_runS (v := .int .i64 (i : Int)) (w' := u2) rfl (by kernel_rfl) ?_
      refine wpList_runS (v := .pointer (some ⟨b, off + i, none⟩)) (w' := u2) rfl (exec_idxSS (c := c0) i hi rfl (by kernel_rfl) (by kernel_rfl)) ?_
      refine wpList_runS (v := .slice a n c) (w' := u2) rfl (exec_ldL rfl (by kernel_rfl) hcu) ?_
      refine wpList_callsS (f := 32) (args := #[.slice a n c]) rfl (by kernel_rfl) (roomy_r a n c F u2 (hL.grown hW) hF hn) (fun e u3 hR => ?_)
      obtain ⟨⟨vw, rfl, hvw⟩, hg⟩ := hR
      refine ⟨vw, rfl, ?_⟩
      refine wpList_runS (v := vw) (w' := u3) rfl (by kernel_rfl) ?_
      apply wpList_nil
      simp only [Act.put, List.setIfInBounds_toArray, List.set_cons_zero, List.set_cons_succ]
      have hbkb : ∀ g, bk.ownBlock = some g → g < u2.heap.size := fun g hg => (hO.lt g hg).2
      replace hO := owns_grown hO hg
      replace hE := fun e he => (hE e he).grown hg
      replace hvr := hvr.grown hg
      replace hW := grown_trans hW hg
      have hu23 := hg.2.2
      clear hg hcu
      have hLw := owns_ls hvw
      obtain ⟨gw, cw, rfl, hgw, hcw⟩ : ∃ gw cw, vw = .slice (some ⟨gw, 0, none⟩) (n + 300) cw ∧ u2.heap.size ≤ gw ∧ n + 300 ≤ cw := by
        rcases hvw.2 with ⟨_, h⟩ | ⟨g, cap, _, h, h2, _, h3, _⟩
        · omega
        · exact ⟨g, cap, h, h2, h3⟩
      clear hvw
      have hLp : Ls u3 (.slice (some ⟨gw, 0, none⟩) n cw) n F := by
        obtain ⟨a', c', e', h'⟩ := hLw
        injection e' with e1 _ e2
        subst e1 e2
        refine ⟨_, _, rfl, fun hn0 => ?_⟩
        obtain ⟨b', o', e1, hb', hr'⟩ := h' (by omega)
        refine ⟨b', o', e1, hb', fun t ht => ?_⟩
        have := hr' t (by omega)
        rwa [show wf n F t = F t from if_pos ht] at this
      repeat ((fail_if_success (with_reducible show Code.wp _ (Code.region _ _ _) _ _ _)); go_step)
      have hcu : u3.cell? ⟨b, off + i, none⟩ = some (.slice a n c) := (grown_cell hW b (off + i) hbw).trans hc
      refine wp_region_lit ?_
      refine wpList_runS (v := .slice (some ⟨gw, 0, none⟩) (n + 300) cw) (w' := u3) rfl (by kernel_rfl) ?_
      refine wpList_runS (v := .slice (some ⟨b, off, none⟩) N c0) (w' := u3) rfl (by kernel_rfl) ?_
      refine wpList_runS (v := .int .i64 (i : Int)) (w' := u3) rfl (by kernel_rfl) ?_
      refine wpList_runS (v := .pointer (some ⟨b, off + i, none⟩)) (w' := u3) rfl (exec_idxSS (c := c0) i hi rfl (by kernel_rfl) (by kernel_rfl)) ?_
      refine wpList_runS (v := .slice a n c) (w' := u3) rfl (exec_ldL rfl (by kernel_rfl) hcu) ?_
      refine wpList_runS (v := .int .i64 (n : Int)) (w' := u3) rfl (by kernel_rfl) ?_
      refine wpList_runS (v := .slice (some ⟨gw, 0, none⟩) n cw) (w' := u3) rfl (exec_sliceTo (by omega) hcw rfl (by kernel_rfl) (by kernel_rfl)) ?_
      refine wpList_callsS (f := 12) (args := #[.slice (some ⟨gw, 0, none⟩) n cw]) rfl (by kernel_rfl) (Batch_new (some ⟨gw, 0, none⟩) n cw F u3 hLp hF (HG.out.grown hW)) (fun e u4 hR => ?_)
      obtain ⟨⟨vd, rfl, hvd⟩, hX⟩ := hR
      refine ⟨vd, rfl, ?_⟩
      refine wpList_runS (v := vd) (w' := u4) rfl (by kernel_rfl) ?_
      apply wpList_nil
      simp only [Act.put, List.setIfInBounds_toArray, List.set_cons_zero, List.set_cons_succ]
      clear hcu hLp
      obtain ⟨m, em⟩ : ∃ m, m = bm n := ⟨_, rfl⟩
      have hm : m ≤ 256 := by rw [em]; exact bm_le n
      rw [← em] at hvd hvr
      obtain ⟨ad, cd, rfl⟩ : ∃ ad cd, vd = .slice ad m cd := by
        obtain ⟨ad, cd, h, _⟩ := hvd.ls
        exact ⟨ad, cd, h⟩
      have hW0 := hW
      replace hW := grown_trans hW0 hX
      repeat ((fail_if_success (with_reducible show Code.wp _ (Code.region _ _ _) _ _ _)); go_step)
      have hcu : u4.cell? ⟨b, off + i, none⟩ = some (.slice a n c) := (grown_cell hW b (off + i) hbw).trans hc
      have hk1 := hLw.grown hX
      have hk2 := hL.grown hW
      have hk3 := hvr.grown hX
      have hk4 := hvd.ls
      refine wp_plain [.imm (.slice (some ⟨gw, 0, none⟩) (n + 300) cw), .imm (.slice (some ⟨b, off, none⟩) N c0), .imm (.int .i64 (i : Int)), .imm (.pointer (some ⟨b, off + i, none⟩)), .val (.slice a n c), .val (.bool true), .imm (.bool false), .imm (.bool false), .imm (.slice ad m cd), .imm vr, .val (.bool true), .imm (.bool false), .imm (.bool false)] (by kernel_rfl) (fun β => ?_) (fun β u5 hD => ?_)
      · refine Obs.cons (Ob.imm rfl (fun w => by kernel_rfl)) ?_
        refine Obs.cons (Ob.imm rfl (fun w => by kernel_rfl)) ?_
        refine Obs.cons (Ob.imm rfl (fun w => by kernel_rfl)) ?_
        refine Obs.cons (Ob.imm rfl (fun w => exec_idxSS (c := c0) i hi rfl (by kernel_rfl) (by kernel_rfl))) ?_
        refine Obs.cons (Ob.load1 b (off + i) rfl rfl (by kernel_rfl) (block_lt_of_cell hcu) hcu (fun w h => run_loadL w h)) ?_
        refine Obs.cons (Ob.call 33 #[.slice (some ⟨gw, 0, none⟩) (n + 300) cw, .slice a n c] rfl (fun w => by kernel_rfl) (fun w hg => kept_r _ a n c F w (hk1.grown hg) (hk2.grown hg) hF hn)) ?_
        refine Obs.cons (Ob.imm rfl (fun w => by kernel_rfl)) ?_
        refine Obs.cons (Ob.imm rfl (fun w => by kernel_rfl)) ?_
        refine Obs.cons (Ob.imm (by kernel_rfl) (fun w => by kernel_rfl)) ?_
        refine Obs.cons (Ob.imm (by kernel_rfl) (fun w => by kernel_rfl)) ?_
        refine Obs.cons (Ob.call 34 #[.slice ad m cd, vr] (by kernel_rfl) (fun w => by kernel_rfl) (fun w hg => same_r _ _ m _ w (hk4.grown hg) (hk3.grown hg) (fun _ _ => inv_S _) hm)) ?_
        refine Obs.cons (Ob.imm (by kernel_rfl) (fun w => by kernel_rfl)) ?_
        refine Obs.cons (Ob.imm rfl (fun w => by kernel_rfl)) ?_
        exact Obs.nil
      replace hvd := hvd.grown hD.gr
      replace hX := grown_trans hX hD.gr
      clear hD hcu hk1 hk2 hk3 hk4 hvr
      simp only [finAct, putAll, valsFrom, Plan.value, Act.put, List.setIfInBounds_toArray, List.set_cons_zero, List.set_cons_succ]
      repeat ((fail_if_success (with_reducible show Code.wp _ (Code.region _ _ _) _ _ _)); go_step)
      obtain ⟨q, eq⟩ : ∃ q, q = mk i := ⟨_, rfl⟩
      have hq : q < S256 := by rw [eq]; exact mk_S i
      refine wp_plain [.imm (.slice ad m cd), .imm (.int .i64 (i : Int)), .imm (.int .u8 ((i % 256 : Nat) : Int)), .imm (.int .i64 (i : Int)), .imm (.int .i64 ((i / 256 : Nat) : Int)), .imm (.int .u8 ((i / 256 % 256 : Nat) : Int)), .imm (bv q), .imm (hval (.slice ad m cd) (.slice none 0 0) q), .new 39 34, .put 8 8 (fun _ => hcs (.slice ad m cd) (.slice none 0 0) q)] (by kernel_rfl) (fun β => ?_) (fun β u6 hD => ?_)
      · refine Obs.cons (Ob.imm rfl (fun w => by kernel_rfl)) ?_
        refine Obs.cons (Ob.imm rfl (fun w => by kernel_rfl)) ?_
        refine Obs.cons (Ob.imm rfl (fun w => exec_c35m i rfl (by kernel_rfl))) ?_
        refine Obs.cons (Ob.imm rfl (fun w => by kernel_rfl)) ?_
        refine Obs.cons (Ob.imm rfl (fun w => exec_quoZ (i : Int) 256 _ (by decide) (by omega) (by omega) rfl (by kernel_rfl) (by kernel_rfl) (by omega))) ?_
        refine Obs.cons (Ob.imm rfl (fun w => exec_c35m (i / 256) rfl (by kernel_rfl))) ?_
        refine Obs.cons (Ob.imm rfl (fun w => exec_build rfl (by kernel_rfl) (build_mkq i q eq w))) ?_
        refine Obs.cons (Ob.imm rfl (fun w => exec_build rfl (by kernel_rfl) (build_hd ad m cd q w))) ?_
        refine Obs.cons (Ob.new _ rfl rfl zeroHd (by simp [hcs_length])) ?_
        refine Obs.cons (Ob.put 39 rfl rfl rfl (by kernel_rfl) (by kernel_rfl) (by rw [hcs_length]; exact infoHd) (hcs_one _ _ _ _ _ _ _)) ?_
        exact Obs.nil
      have hrB : u6.rangeAt (β 8) 0 (hcs (.slice ad m cd) (.slice none 0 0) q) := hD.rg 9 8 8 (fun _ => hcs (.slice ad m cd) (.slice none 0 0) q) rfl
      have hfB := (hD.nw 8 _ _ rfl).1
      have hrB' : ∀ r, (Value.slice ad m cd).ownBlock = some r → 0 < m → r ≠ β 8 := fun r hr h0 => by
        have := ls_block hvd.ls h0 hr
        omega
      replace hvd := hvd.grown hD.gr
      have hXB : u3.heap.size ≤ β 8 := Nat.le_trans hX.2.2 hfB
      replace hX := grown_trans hX hD.gr
      clear hD hfB
      simp only [finAct, putAll, valsFrom, Plan.value, Act.put, List.setIfInBounds_toArray, List.set_cons_zero, List.set_cons_succ]
      generalize β (0 + 1 + 1 + 1 + 1 + 1 + 1 + 1 + 1) = B at *
      replace hvd := hvd.congr (H := fun t => if t < 0 then q else inv (F t)) (fun i _ => (if_neg (Nat.not_lt_zero i)).symm)
      have hst := Hid.of (And.intro hvd (And.intro hrB hX))
      have hfx := Hid.of (And.intro hO (And.intro hE (And.intro hW0 (And.intro hLw (And.intro hL hF)))))
      have hnum := Hid.of (And.intro hm (And.intro hn (And.intro hN (And.intro hi (And.intro hq (And.intro hgw (And.intro hu23 hXB)))))))
      have hbk := Hid.of (And.intro hbkb (And.intro hrB' (And.intro hc hbw)))
      clear hvd hrB hX hO hE hW hW0 hLw hL hF hm hn hN hi hq hgw hu23 hXB hbkb hrB' hc hbw hcell hiN hcw em eq
      go_wp2
      go_loopw [9] (fun v9 wr' => ∃ j : Nat, v9 = .int .i64 (j : Int) ∧ j ≤ m ∧ New u3 wr' (.slice ad m cd) m (fun t => if t < j then q else inv (F t)) ∧ wr'.rangeAt B 0 (hcs (.slice ad m cd) (.slice none 0 0) q) ∧ Grown u3 wr') (fun v9 _ => ((m : Int) - intOf v9).toNat)
      case atStart => exact ⟨0, rfl, Nat.zero_le _, hst.out.1, hst.out.2.1, hst.out.2.2⟩
      case round =>
        clear hst
        obtain ⟨j, rfl, hjm, hvd, hrB, hX⟩ := hrel
        by_cases hj : j < m
        · repeat ((fail_if_success (with_reducible show Code.wp _ (Code.region _ _ _) _ _ _)); go_step)
          refine wp_plain [.imm (.int .i64 (j : Int)), .imm (.slice ad m cd), .imm (.int .i64 (m : Int)), .imm (.bool true)] (by kernel_rfl) (fun β => ?_) (fun β u7 hD => ?_)
          · refine Obs.cons (Ob.imm rfl (fun w => by kernel_rfl)) ?_
            refine Obs.cons (Ob.imm rfl (fun w => by kernel_rfl)) ?_
            refine Obs.cons (Ob.imm rfl (fun w => by kernel_rfl)) ?_
            refine Obs.cons (Ob.imm rfl (fun w => exec_lssI rfl (j : Int) (m : Int) (by kernel_rfl) (by kernel_rfl) true (decide_eq_true (by omega)))) ?_
            exact Obs.nil
          replace hvd := hvd.grown hD.gr
          replace hrB := rangeAt_grown hrB hD.gr
          replace hX := grown_trans hX hD.gr
          clear hD
          simp only [finAct, putAll, valsFrom, Plan.value, Act.put, List.setIfInBounds_toArray, List.set_cons_zero, List.set_cons_succ]
          obtain ⟨r, er, hr3, hrr⟩ : ∃ r, Value.slice ad m cd = .slice (some ⟨r, 0, none⟩) m m ∧ u3.heap.size ≤ r ∧ ∀ i, i < m → u7.rangeAt r (32 * i) (bl (if i < j then q else inv (F i))) := by
            rcases hvd with ⟨_, h⟩ | h
            · omega
            · exact h
          injection er with er1 _ er2
          subst er1 er2
          have hrne := hbk.out.2.1 r rfl (by omega)
          have hm := hnum.out.1
          repeat ((fail_if_success (with_reducible show Code.wp _ (Code.region _ _ _) _ _ _)); go_step)
          have hthr : u7.there r (32 * j) 32 := there_bl (hrr j hj) (fun t => (hX.2.1 _).trans (frozen_past hr3))
          refine wp_plain_fin [.imm (.slice (some ⟨r, 0, none⟩) cd cd), .imm (.int .i64 (j : Int)), .imm (.pointer (some ⟨B, 2, none⟩)), .val (bv q), .imm (.pointer (some ⟨r, 32 * j, none⟩)), .fin] r (32 * j) (fun _ => bl q) (by kernel_rfl) (fun β => ?_) (fun β u8 hD => ?_)
          · refine Obs.cons (Ob.imm rfl (fun w => by kernel_rfl)) ?_
            refine Obs.cons (Ob.imm rfl (fun w => by kernel_rfl)) ?_
            refine Obs.cons (Ob.imm rfl (fun w => by kernel_rfl)) ?_
            refine Obs.cons (Ob.load B 2 (bl q) rfl rfl (by kernel_rfl) (hcs_k0 hrB) Tryd.underlying23 rfl (by rw [bl_length]; exact info32)) ?_
            refine Obs.cons (Ob.imm rfl (fun w => exec_idxRB (c := cd) j hj rfl (by kernel_rfl) (by kernel_rfl))) ?_
            refine Obs.cons (Ob.fin rfl (by rw [bl_length]; exact hthr) rfl (by kernel_rfl) (by kernel_rfl) (by rw [bl_length]; exact info32) (bl_one _)) ?_
            exact Obs.nil
          have hth2 := there_grown hthr hD.gr
          have hS := Hid.of (And.intro ((hvd.grown hD.gr).put hj hth2) (And.intro (World.rangeAt_setCells_apart (rangeAt_grown hrB hD.gr) r (32 * j) (bl q) (.inl (Ne.symm hrne))) (grown_setCells hr3 (bl q) (32 * j) (grown_trans hX hD.gr))))
          have hjj := Hid.of hj
          have eL := Hid.of (show wrap64 ((j : Int) + 1) = ((j + 1 : Nat) : Int) by unfold wrap64; omega)
          clear hD hvd hrB hX hrr hr3 hrne hj hjm hthr hth2 hm
          simp only [finAct, putAll, valsFrom, Plan.value, Act.put, List.setIfInBounds_toArray, List.set_cons_zero, List.set_cons_succ]
          generalize u8.setCells r (32 * j) (bl q) = u9 at *
          go_wp2
          rw [eL.out]
          exact ⟨⟨j + 1, rfl, hjj.out, hS.out.1, hS.out.2.1, hS.out.2.2⟩, by have := hjj.out; simp [intOf]; omega⟩
        · obtain rfl : j = m := by omega
          obtain ⟨hm, hn, hN, hi, hq, hgw, hu23, hXB⟩ := hnum.out
          repeat ((fail_if_success (with_reducible show Code.wp _ (Code.region _ _ _) _ _ _)); go_step)
          refine wp_plain [.imm (.int .i64 (j : Int)), .imm (.slice ad j cd), .imm (.int .i64 (j : Int)), .imm (.bool false)] (by kernel_rfl) (fun β => ?_) (fun β u7 hD => ?_)
          · refine Obs.cons (Ob.imm rfl (fun w => by kernel_rfl)) ?_
            refine Obs.cons (Ob.imm rfl (fun w => by kernel_rfl)) ?_
            refine Obs.cons (Ob.imm rfl (fun w => by kernel_rfl)) ?_
            refine Obs.cons (Ob.imm rfl (fun w => exec_lssI rfl (j : Int) (j : Int) (by kernel_rfl) (by kernel_rfl) false (decide_eq_false (by omega)))) ?_
            exact Obs.nil
          replace hvd := (hvd.grown hD.gr).congr (H := fun _ => q) (fun t ht => if_pos ht)
          replace hrB := rangeAt_grown hrB hD.gr
          replace hX := grown_trans hX hD.gr
          clear hD
          simp only [finAct, putAll, valsFrom, Plan.value, Act.put, List.setIfInBounds_toArray, List.set_cons_zero, List.set_cons_succ]
          repeat ((fail_if_success (with_reducible show Code.wp _ (Code.region _ _ _) _ _ _)); go_step)
          obtain ⟨ti, tz, hi1, hz, hsz, hby, hzs⟩ := hEl
          refine wp_region_lit ?_
          refine wpList_runS (v := .slice ad j cd) (w' := u7) rfl (by kernel_rfl) ?_
          refine wpList_runS (v := .pointer (some ⟨B, 2, none⟩)) (w' := u7) rfl (by kernel_rfl) ?_
          refine wpList_load_mid rfl 23 _ rfl B 2 rfl (bl q) _ (hcs_k0 hrB) Tryd.underlying23 rfl (by rw [bl_length]; exact info32) ?_
          refine wpList_runS (v := .slice (some ⟨u7.heap.size, 0, none⟩) 1 1) (w' := u7.alloc (.cells (bl q).toArray 23)) rfl (exec_buildSl q rfl (by kernel_rfl)) ?_
          have gA : Grown u7 (u7.alloc (.cells (bl q).toArray 23)) := Grown.alloc (Grown.refl _) _ _
          have hnew : ∀ t u, (bl q)[t]? = some u → (u7.alloc (.cells (bl q).toArray 23)).cell? ((⟨u7.heap.size, 0, none⟩ : Addr).add t) = some u := fun t u ht => by
            rw [Addr.add_lit, Nat.zero_add, World.cell?_alloc_new]
            simpa using ht
          replace hvd := hvd.grown gA
          replace hrB := rangeAt_grown hrB gA
          replace hX := grown_trans hX gA
          clear gA
          generalize u7.alloc (.cells (bl q).toArray 23) = u8 at *
          generalize u7.heap.size = A at *
          refine wpList_append_full rfl _ _ rfl Tryd.underlying22 hi1 hz hsz hby rfl hvd hm ⟨A, 0, none⟩ 1 q rfl hnew (fun M cap u9 hM hg hth => ?_)
          refine wpList_runS (v := .pointer (some ⟨B, 1, none⟩)) (w' := u9) rfl (by kernel_rfl) ?_
          have hMB : B ≠ M := by
            have : B < u8.heap.size := block_lt_of_cell (hcs_l0 hrB)
            omega
          have hMd : ∀ r, (Value.slice ad j cd).ownBlock = some r → 0 < j → r ≠ M := fun r hr h0 => by
            have := ls_block hvd.ls h0 hr
            omega
          have hM3 : u3.heap.size ≤ M := by have := hX.2.2; omega
          replace hvd := hvd.grown hg
          replace hrB := rangeAt_grown hrB hg
          replace hX := grown_trans hX hg
          refine wpList_storeL rfl _ _ rfl (b := B) (off := 1) rfl rfl (hcs_m0 hrB) ((hX.2.1 _).trans (frozen_past hXB)) ?_
          apply wpList_nil
          simp only [Act.put, List.setIfInBounds_toArray, List.set_cons_zero, List.set_cons_succ]
          have hrB2 := hcs_put (m' := .slice (some ⟨M, 0, none⟩) (j + 1) cap) hrB
          have hvd2 : New u3 (u9.setCell ⟨B, 1, none⟩ (.slice (some ⟨M, 0, none⟩) (j + 1) cap)) (.slice ad j cd) j (fun _ => q) := hvd.apart (b := B) (o := 1) (cs := [.slice (some ⟨M, 0, none⟩) (j + 1) cap]) hbk.out.2.1
          have hX2 : Grown u3 (u9.setCell ⟨B, 1, none⟩ (.slice (some ⟨M, 0, none⟩) (j + 1) cap)) := grown_setCells hXB [.slice (some ⟨M, 0, none⟩) (j + 1) cap] 1 hX
          have hth2 : (u9.setCell ⟨B, 1, none⟩ (.slice (some ⟨M, 0, none⟩) (j + 1) cap)).there M 0 (32 * (j + 1)) := World.there_setCells hth B 1 [.slice (some ⟨M, 0, none⟩) (j + 1) cap]
          have hst := Hid.of (And.intro hvd2 (And.intro hrB2 (And.intro hX2 hth2)))
          have hnum2 := Hid.of (And.intro hMB (And.intro hMd hM3))
          clear hvd hrB hX hvd2 hrB2 hX2 hth2 hth hnew hi1 hz hsz hby hzs hM hg hMB hMd hM3 hj hjm hm hn hN hi hq hgw hu23 hXB
          generalize u9.setCell ⟨B, 1, none⟩ (.slice (some ⟨M, 0, none⟩) (j + 1) cap) = u10 at *
          go_wp2
          go_loopw [10] (fun v10 wr' => ∃ t : Nat, v10 = .int .i64 (t : Int) ∧ t ≤ j + 1 ∧ (∀ s, s < t → wr'.rangeAt M (32 * s) (bl q)) ∧ wr'.there M 0 (32 * (j + 1)) ∧ New u3 wr' (.slice ad j cd) j (fun _ => q) ∧ wr'.rangeAt B 0 (hcs (.slice ad j cd) (.slice (some ⟨M, 0, none⟩) (j + 1) cap) q) ∧ Grown u3 wr') (fun v10 _ => (((j + 1 : Nat) : Int) - intOf v10).toNat)
          case atStart => exact ⟨0, rfl, Nat.zero_le _, fun s hs => absurd hs (Nat.not_lt_zero _), hst.out.2.2.2, hst.out.1, hst.out.2.1, hst.out.2.2.1⟩
          case round =>
            clear hst
            obtain ⟨t, rfl, htj, hrM, hth, hvd, hrB, hX⟩ := hrel
            obtain ⟨hm, hn, hN, hi, hq, hgw, hu23, hXB⟩ := hnum.out
            obtain ⟨hMB, hMd, hM3⟩ := hnum2.out
            by_cases ht : t < j + 1
            · repeat ((fail_if_success (with_reducible show Code.wp _ (Code.region _ _ _) _ _ _)); go_step)
              refine wp_plain [.imm (.int .i64 (t : Int)), .imm (.pointer (some ⟨B, 1, none⟩)), .val (.slice (some ⟨M, 0, none⟩) (j + 1) cap), .imm (.int .i64 ((j + 1 : Nat) : Int)), .imm (.bool true)] (by kernel_rfl) (fun β => ?_) (fun β v1 hD => ?_)
              · refine Obs.cons (Ob.imm rfl (fun w => by kernel_rfl)) ?_
                refine Obs.cons (Ob.imm rfl (fun w => by kernel_rfl)) ?_
                refine Obs.cons (Ob.load1 B 1 rfl rfl (by kernel_rfl) (block_lt_of_cell (hcs_m0 hrB)) (hcs_m0 hrB) (fun w h => run_loadL w h)) ?_
                refine Obs.cons (Ob.imm rfl (fun w => by kernel_rfl)) ?_
                refine Obs.cons (Ob.imm rfl (fun w => exec_lssI rfl (t : Int) ((j + 1 : Nat) : Int) (by kernel_rfl) (by kernel_rfl) true (decide_eq_true (by omega)))) ?_
                exact Obs.nil
              replace hrM := fun s hs => rangeAt_grown (hrM s hs) hD.gr
              replace hth := there_grown hth hD.gr
              replace hvd := hvd.grown hD.gr
              replace hrB := rangeAt_grown hrB hD.gr
              replace hX := grown_trans hX hD.gr
              clear hD
              simp only [finAct, putAll, valsFrom, Plan.value, Act.put, List.setIfInBounds_toArray, List.set_cons_zero, List.set_cons_succ]
              repeat ((fail_if_success (with_reducible show Code.wp _ (Code.region _ _ _) _ _ _)); go_step)
              have htm : v1.there M (32 * t) 32 := there_part hth ht rfl
              refine wp_plain_fin [.imm (.pointer (some ⟨B, 1, none⟩)), .val (.slice (some ⟨M, 0, none⟩) (j + 1) cap), .imm (.int .i64 (t : Int)), .imm (.pointer (some ⟨B, 2, none⟩)), .val (bv q), .imm (.pointer (some ⟨M, 32 * t, none⟩)), .fin] M (32 * t) (fun _ => bl q) (by kernel_rfl) (fun β => ?_) (fun β v2 hD => ?_)
              · refine Obs.cons (Ob.imm rfl (fun w => by kernel_rfl)) ?_
                refine Obs.cons (Ob.load1 B 1 rfl rfl (by kernel_rfl) (block_lt_of_cell (hcs_m0 hrB)) (hcs_m0 hrB) (fun w h => run_loadL w h)) ?_
                refine Obs.cons (Ob.imm rfl (fun w => by kernel_rfl)) ?_
                refine Obs.cons (Ob.imm rfl (fun w => by kernel_rfl)) ?_
                refine Obs.cons (Ob.load B 2 (bl q) rfl rfl (by kernel_rfl) (hcs_k0 hrB) Tryd.underlying23 rfl (by rw [bl_length]; exact info32)) ?_
                refine Obs.cons (Ob.imm rfl (fun w => exec_idxRB (c := cap) t ht rfl (by kernel_rfl) (by kernel_rfl))) ?_
                refine Obs.cons (Ob.fin rfl (by rw [bl_length]; exact htm) rfl (by kernel_rfl) (by kernel_rfl) (by rw [bl_length]; exact info32) (bl_one _)) ?_
                exact Obs.nil
              have htm2 := there_grown htm hD.gr
              replace hrM := fun s hs => rangeAt_grown (hrM s hs) hD.gr
              replace hth := there_grown hth hD.gr
              replace hvd := hvd.grown hD.gr
              replace hrB := rangeAt_grown hrB hD.gr
              replace hX := grown_trans hX hD.gr
              clear hD
              have hrM2 : ∀ s, s < t + 1 → (v2.setCells M (32 * t) (bl q)).rangeAt M (32 * s) (bl q) := fun s hs => by
                by_cases e : s = t
                · subst e
                  exact World.rangeAt_setCells_same _ _ _ _ (by rw [bl_length]; exact htm2)
                · exact World.rangeAt_setCells_apart (hrM s (by omega)) _ _ _ (.inr (by simp only [bl_length]; omega))
              have hS := Hid.of (And.intro hrM2 (And.intro (World.there_setCells hth M (32 * t) (bl q)) (And.intro (hvd.apart (b := M) (o := 32 * t) (cs := bl q) hMd) (And.intro (World.rangeAt_setCells_apart hrB M (32 * t) (bl q) (.inl hMB)) (grown_setCells hM3 (bl q) (32 * t) hX)))))
              have htt := Hid.of ht
              have eL := Hid.of (show wrap64 ((t : Int) + 1) = ((t + 1 : Nat) : Int) by unfold wrap64; omega)
              clear hrM2 hrM hth hvd hrB hX htm htm2 ht htj hm hn hN hi hq hgw hu23 hXB hMB hMd hM3
              simp only [finAct, putAll, valsFrom, Plan.value, Act.put, List.setIfInBounds_toArray, List.set_cons_zero, List.set_cons_succ]
              generalize v2.setCells M (32 * t) (bl q) = v3 at *
              go_wp2
              rw [eL.out]
              exact ⟨⟨t + 1, rfl, htt.out, hS.out.1, hS.out.2.1, hS.out.2.2.1, hS.out.2.2.2.1, hS.out.2.2.2.2⟩, by have := htt.out; simp [intOf]; omega⟩
            · obtain rfl : t = j + 1 := by omega
              repeat ((fail_if_success (with_reducible show Code.wp _ (Code.region _ _ _) _ _ _)); go_step)
              refine wp_plain [.imm (.int .i64 ((j + 1 : Nat) : Int)), .imm (.pointer (some ⟨B, 1, none⟩)), .val (.slice (some ⟨M, 0, none⟩) (j + 1) cap), .imm (.int .i64 ((j + 1 : Nat) : Int)), .imm (.bool false)] (by kernel_rfl) (fun β => ?_) (fun β v1 hD => ?_)
              · refine Obs.cons (Ob.imm rfl (fun w => by kernel_rfl)) ?_
                refine Obs.cons (Ob.imm rfl (fun w => by kernel_rfl)) ?_
                refine Obs.cons (Ob.load1 B 1 rfl rfl (by kernel_rfl) (block_lt_of_cell (hcs_m0 hrB)) (hcs_m0 hrB) (fun w h => run_loadL w h)) ?_
                refine Obs.cons (Ob.imm rfl (fun w => by kernel_rfl)) ?_
                refine Obs.cons (Ob.imm rfl (fun w => exec_lssI rfl ((j + 1 : Nat) : Int) ((j + 1 : Nat) : Int) (by kernel_rfl) (by kernel_rfl) false (decide_eq_false (by omega)))) ?_
                exact Obs.nil
              replace hrM := fun s hs => rangeAt_grown (hrM s hs) hD.gr
              replace hth := there_grown hth hD.gr
              replace hvd := hvd.grown hD.gr
              replace hrB := rangeAt_grown hrB hD.gr
              replace hX := grown_trans hX hD.gr
              clear hD
              simp only [finAct, putAll, valsFrom, Plan.value, Act.put, List.setIfInBounds_toArray, List.set_cons_zero, List.set_cons_succ]
              repeat ((fail_if_success (with_reducible show Code.wp _ (Code.region _ _ _) _ _ _)); go_step)
              obtain ⟨hO, hE, hW0, hLw, hL, hF⟩ := hfx.out
              obtain ⟨hbkb, hrB', hc, hbw⟩ := hbk.out
              replace hO := owns_grown hO hX
              replace hE := fun e he => (hE e he).grown hX
              have hW := grown_trans hW0 hX
              replace hLw := hLw.grown hX
              have hLd := hvd.ls
              have hLm : Ls v1 (.slice (some ⟨M, 0, none⟩) (j + 1) cap) (j + 1) (fun _ => q) := ⟨_, _, rfl, fun _ => ⟨M, 0, rfl, block_lt_of_cell (hrM 0 (by omega) 0 _ (bl_get _ 0 (by decide))), fun s hs => by rw [Nat.zero_add]; exact hrM s hs⟩⟩
              have hd1 : 0 < j → ∀ g, bk.ownBlock = some g → (Value.slice ad j cd).ownBlock ≠ some g := fun h0 g hg e => by
                have h1 := hbkb g hg
                rcases hvd with ⟨_, h⟩ | ⟨r, h, h2, _⟩
                · omega
                · rw [h] at e
                  injection e with e
                  have e' : r = g := e
                  omega
              have hd2 : ∀ g, bk.ownBlock = some g → (Value.slice (some ⟨M, 0, none⟩) (j + 1) cap).ownBlock ≠ some g := fun g hg e => by
                have h1 := hbkb g hg
                injection e with e
                have e' : M = g := e
                omega
              have hd3 : ∀ g, bk.ownBlock = some g → (Value.slice (some ⟨gw, 0, none⟩) (n + 300) cw).ownBlock ≠ some g := fun g hg e => by
                have h1 := hbkb g hg
                injection e with e
                have e' : gw = g := e
                omega
              clear hrM hth hvd hX
              obtain ⟨ti, tz, hi1, hz, hsz, hby, hzs⟩ := hHl
              refine wp_region_lit ?_
              refine wpList_runS (v := bk) (w' := v1) rfl (by kernel_rfl) ?_
              refine wpList_load_mid rfl 39 _ rfl B 0 rfl (hcs (.slice ad j cd) (.slice (some ⟨M, 0, none⟩) (j + 1) cap) q) _ hrB Tryd.underlying39 rfl (by rw [hcs_length]; exact infoHd) ?_
              refine wpList_runS (v := .slice (some ⟨v1.heap.size, 0, none⟩) 1 1) (w' := v1.alloc (.cells (hcs (.slice ad j cd) (.slice (some ⟨M, 0, none⟩) (j + 1) cap) q).toArray 39)) rfl (exec_buildHl ad (some ⟨M, 0, none⟩) j cd (j + 1) cap q rfl (by kernel_rfl)) ?_
              have gA : Grown v1 (v1.alloc (.cells (hcs (.slice ad j cd) (.slice (some ⟨M, 0, none⟩) (j + 1) cap) q).toArray 39)) := Grown.alloc (Grown.refl _) _ _
              have hnew : ∀ t u, (hcs (.slice ad j cd) (.slice (some ⟨M, 0, none⟩) (j + 1) cap) q)[t]? = some u → (v1.alloc (.cells (hcs (.slice ad j cd) (.slice (some ⟨M, 0, none⟩) (j + 1) cap) q).toArray 39)).cell? ((⟨v1.heap.size, 0, none⟩ : Addr).add t) = some u := fun t u ht => by
                rw [Addr.add_lit, Nat.zero_add, World.cell?_alloc_new]
                simpa using ht
              replace hO := owns_grown hO gA
              replace hE := fun e he => (hE e he).grown gA
              replace hLw := hLw.grown gA
              replace hLd := hLd.grown gA
              replace hLm := hLm.grown gA
              replace hW := grown_trans hW gA
              clear gA hrB
              generalize v1.alloc (.cells (hcs (.slice ad j cd) (.slice (some ⟨M, 0, none⟩) (j + 1) cap) q).toArray 39) = v2 at *
              generalize v1.heap.size = A at *
              refine wpList_append_hd rfl _ _ rfl Tryd.underlying36 hi1 hz hsz hby hzs _ i _ rfl hO ⟨A, 0, none⟩ 1 (hcs (.slice ad j cd) (.slice (some ⟨M, 0, none⟩) (j + 1) cap) q) (hcs_length _ _ _) rfl hnew (hcs_one _ _ _ _ _ _ _) (by omega) hW (fun bk' v3 hO3 hg3 hb3 hW3 => ?_)
              refine wpList_runS (v := bk') (w' := v3) rfl (by kernel_rfl) ?_
              apply wpList_nil
              simp only [Act.put, List.setIfInBounds_toArray, List.set_cons_zero, List.set_cons_succ]
              obtain ⟨E', eE⟩ : ∃ E' : Nat → Value × Value × Nat, E' = fun e => if e = i then (.slice ad j cd, .slice (some ⟨M, 0, none⟩) (j + 1) cap, q) else E e := ⟨_, rfl⟩
              have eEi : E' i = (.slice ad j cd, .slice (some ⟨M, 0, none⟩) (j + 1) cap, q) := by rw [eE]; exact if_pos rfl
              have hO4 : v3.ownsRow w.heap.size 39 34 bk' (i + 1) (hcat E' (i + 1)) := by
                show v3.ownsRow w.heap.size 39 34 bk' (i + 1) (hcat E' i ++ hcs (E' i).1 (E' i).2.1 (E' i).2.2)
                rw [hcat_congr (E := E') (G := E) (fun e he => by rw [eE]; exact if_neg (by omega)), eEi]
                exact hO3
              have hEn : Ent v2 bk (E' i) := by
                rw [eEi]
                exact ⟨j, ad, _, cd, cap, hm, hq, rfl, rfl, hLd, hLm, hd1, hd2⟩
              have hE4 : ∀ e, e < i + 1 → Ent v3 bk' (E' e) := fun e he => by
                by_cases ee : e = i
                · subst ee
                  exact hEn.by hg3 hb3
                · have : E' e = E e := by rw [eE]; exact if_neg ee
                  rw [this]
                  exact (hE e (by omega)).by hg3 hb3
              have hLw4 := hLw.by hg3 (fun _ g hg => hd3 g hg)
              have hL4 := hL.grown hW3
              obtain ⟨ab, cb, rfl, hbok⟩ := book_ok hO4 hE4
              clear hO hE hLw hLd hLm hnew hi1 hz hsz hby hzs hO3 hg3 hb3 hEn hd1 hd2 hd3 hW
              repeat ((fail_if_success (with_reducible show Code.wp _ (Code.region _ _ _) _ _ _)); go_step)
              have hcu : v3.cell? ⟨b, off + i, none⟩ = some (.slice a n c) := (grown_cell hW3 b (off + i) hbw).trans hc
              have hbok2 : ∀ u, Grown v3 u → (0 < i + 1 → ∃ b off, ab = some ⟨b, off, none⟩ ∧ ∀ e, e < i + 1 → HeldAt u b (off + 34 * e)) := fun u hg h0 => by
                obtain ⟨b, off, h1, h2⟩ := hbok h0
                refine ⟨b, off, h1, fun e he => ⟨?_⟩⟩
                obtain ⟨n, k, a1, a2, c1, c2, g1, g2, g3, g4, g5⟩ := (h2 e he).ex
                exact ⟨n, k, a1, a2, c1, c2, g1, g2, rangeAt_grown g3 hg, g4.grown hg, g5.grown hg⟩
              refine wp_plain [.imm (.slice ab (i + 1) cb), .val (.bool true), .imm (.bool false), .imm (.bool false), .imm (.slice (some ⟨gw, 0, none⟩) (n + 300) cw), .imm (.slice (some ⟨b, off, none⟩) N c0), .imm (.int .i64 (i : Int)), .imm (.pointer (some ⟨b, off + i, none⟩)), .val (.slice a n c), .val (.bool true), .imm (.bool false), .imm (.bool false)] (by kernel_rfl) (fun β => ?_) (fun β v4 hD => ?_)
              · refine Obs.cons (Ob.imm rfl (fun w => by kernel_rfl)) ?_
                refine Obs.cons (Ob.call 35 #[.slice ab (i + 1) cb] rfl (fun w => by kernel_rfl) (fun w hg => marked_r ab (i + 1) cb w (by omega) (hbok2 w hg))) ?_
                refine Obs.cons (Ob.imm rfl (fun w => by kernel_rfl)) ?_
                refine Obs.cons (Ob.imm rfl (fun w => by kernel_rfl)) ?_
                refine Obs.cons (Ob.imm (by kernel_rfl) (fun w => by kernel_rfl)) ?_
                refine Obs.cons (Ob.imm (by kernel_rfl) (fun w => by kernel_rfl)) ?_
                refine Obs.cons (Ob.imm (by kernel_rfl) (fun w => by kernel_rfl)) ?_
                refine Obs.cons (Ob.imm (by kernel_rfl) (fun w => exec_idxSS (c := c0) i hi rfl (by kernel_rfl) (by kernel_rfl))) ?_
                refine Obs.cons (Ob.load1 b (off + i) (by kernel_rfl) rfl (by kernel_rfl) (block_lt_of_cell hcu) hcu (fun w h => run_loadL w h)) ?_
                refine Obs.cons (Ob.call 33 #[.slice (some ⟨gw, 0, none⟩) (n + 300) cw, .slice a n c] (by kernel_rfl) (fun w => by kernel_rfl) (fun w hg => kept_r _ a n c F w (hLw4.grown hg) (hL4.grown hg) hF hn)) ?_
                refine Obs.cons (Ob.imm (by kernel_rfl) (fun w => by kernel_rfl)) ?_
                refine Obs.cons (Ob.imm rfl (fun w => by kernel_rfl)) ?_
                exact Obs.nil
              have hS := Hid.of (And.intro (owns_grown hO4 hD.gr) (And.intro (fun e he => (hE4 e he).grown hD.gr) (grown_trans hW3 hD.gr)))
              have hii := Hid.of hi
              have eL := Hid.of (show wrap64 ((i : Int) + 1) = ((i + 1 : Nat) : Int) by unfold wrap64; omega)
              clear hD hO4 hE4 hW3 hLw4 hL4 hbok hbok2 hcu hm hn hN hi hq hgw hu23 hXB hMB hMd hM3 hbkb hrB' hc hbw hW0 hL hF ht htj eEi eE hfx hbk hnum hnum2
              simp only [finAct, putAll, valsFrom, Plan.value, Act.put, List.setIfInBounds_toArray, List.set_cons_zero, List.set_cons_succ]
              go_wp2
              rw [eL.out]
              exact ⟨⟨i + 1, _, E', rfl, rfl, hii.out, hS.out.1, hS.out.2.1, hS.out.2.2⟩, by have := hii.out; simp [intOf]; omega⟩
    · obtain rfl : i = N := by omega
      have hN := HH.out.2
      obtain ⟨ab, cb, rfl, hbok⟩ := book_ok hO hE
      repeat ((fail_if_success (with_reducible show Code.wp _ (Code.region _ _ _) _ _ _)); go_step)
      refine wp_plain [.imm (.int .i64 (i : Int)), .imm (.slice a0 i c0), .imm (.int .i64 (i : Int)), .imm (.bool false)] (by kernel_rfl) (fun β => ?_) (fun β u1 hD => ?_)
      · refine Obs.cons (Ob.imm rfl (fun w => by kernel_rfl)) ?_
        refine Obs.cons (Ob.imm rfl (fun w => by kernel_rfl)) ?_
        refine Obs.cons (Ob.imm rfl (fun w => by kernel_rfl)) ?_
        refine Obs.cons (Ob.imm rfl (fun w => exec_lssI rfl (i : Int) (i : Int) (by kernel_rfl) (by kernel_rfl) false (decide_eq_false (by omega)))) ?_
        exact Obs.nil
      have hX := hD.gr
      replace hW := grown_trans hW hD.gr
      clear hD
      simp only [finAct, putAll, valsFrom, Plan.value, Act.put, List.setIfInBounds_toArray, List.set_cons_zero, List.set_cons_succ]
      repeat ((fail_if_success (with_reducible show Code.wp _ (Code.region _ _ _) _ _ _)); go_step)
      refine wp_plain [.imm (bv 1), .new 23 32, .put 1 1 (fun _ => bl 1)] (by kernel_rfl) (fun β => ?_) (fun β u2 hD => ?_)
      · refine Obs.cons (Ob.imm rfl (fun w => exec_build rfl (by kernel_rfl) (build_b1 w))) ?_
        refine Obs.cons (Ob.new _ rfl rfl zero32.1 (by simp [bl_length])) ?_
        refine Obs.cons (Ob.put 23 rfl rfl rfl (by kernel_rfl) (by kernel_rfl) (by rw [bl_length]; exact info32) (bl_one _)) ?_
        exact Obs.nil
      have hrO : u2.rangeAt (β 1) 0 (bl 1) := hD.rg 2 1 1 (fun _ => bl 1) rfl
      replace hX := grown_trans hX hD.gr
      replace hW := grown_trans hW hD.gr
      clear hD
      simp only [finAct, putAll, valsFrom, Plan.value, Act.put, List.setIfInBounds_toArray, List.set_cons_zero, List.set_cons_succ]
      generalize β (0 + 1) = O1 at *
      repeat ((fail_if_success (with_reducible show Code.wp _ (Code.region _ _ _) _ _ _)); go_step)
      refine wp_region_lit ?_
      refine wpList_load_mid rfl 23 _ rfl O1 0 rfl (bl 1) _ hrO Tryd.underlying23 rfl (by rw [bl_length]; exact info32) ?_
      refine wpList_runS (v := .slice (some ⟨u2.heap.size, 0, none⟩) 1 1) (w' := u2.alloc (.cells (bl 1).toArray 23)) rfl (exec_buildSl 1 rfl (by kernel_rfl)) ?_
      have gA : Grown u2 (u2.alloc (.cells (bl 1).toArray 23)) := Grown.alloc (Grown.refl _) _ _
      have hnew : (u2.alloc (.cells (bl 1).toArray 23)).rangeAt u2.heap.size 0 (bl 1) := fun t u ht => by
        rw [Nat.zero_add, World.cell?_alloc_new]
        simpa using ht
      replace hrO := rangeAt_grown hrO gA
      replace hX := grown_trans hX gA
      replace hW := grown_trans hW gA
      clear gA
      generalize u2.alloc (.cells (bl 1).toArray 23) = u3 at *
      generalize u2.heap.size = A at *
      have hL1 : Ls u3 (.slice (some ⟨A, 0, none⟩) 1 1) 1 (fun _ => 1) := ⟨_, _, rfl, fun _ => ⟨A, 0, rfl, block_lt_of_cell (hnew 0 _ (bl_get 1 0 (by decide))), fun s hs => by
        obtain rfl : s = 0 := by omega
        exact hnew⟩⟩
      refine wpList_callsS (f := 12) (args := #[.slice (some ⟨A, 0, none⟩) 1 1]) rfl (by kernel_rfl) (Batch_new (some ⟨A, 0, none⟩) 1 1 (fun _ => 1) u3 hL1 (fun _ _ => by decide) (HG.out.grown hW)) (fun e u4 hR => ?_)
      obtain ⟨⟨vd, rfl, hvd⟩, hg⟩ := hR
      refine ⟨vd, rfl, ?_⟩
      refine wpList_runS (v := vd) (w' := u4) rfl (by kernel_rfl) ?_
      apply wpList_nil
      simp only [Act.put, List.setIfInBounds_toArray, List.set_cons_zero, List.set_cons_succ]
      replace hrO := rangeAt_grown hrO hg
      replace hX := grown_trans hX hg
      replace hW := grown_trans hW hg
      obtain ⟨r, rfl, hr⟩ : ∃ r, vd = .slice (some ⟨r, 0, none⟩) 1 1 ∧ u4.rangeAt r (32 * 0) (bl 1) := by
        rcases hvd with ⟨_, h⟩ | ⟨r, h, _, hr⟩
        · cases h
        · refine ⟨r, h, ?_⟩
          have := hr 0 (by decide)
          rwa [inv_one] at this
      clear hnew hL1 hvd hg
      replace hrO := rangeAt_grown hrO (gdrew u4)
      replace hr := rangeAt_grown hr (gdrew u4)
      replace hX := grown_trans hX (gdrew u4)
      replace hW := grown_trans hW (gdrew u4)
      have hbok2 : ∀ u, Grown u4.drew u → (0 < i → ∃ b off, ab = some ⟨b, off, none⟩ ∧ ∀ e, e < i → HeldAt u b (off + 34 * e)) := fun u hg h0 => by
        obtain ⟨b, off, h1, h2⟩ := hbok h0
        refine ⟨b, off, h1, fun e he => ⟨?_⟩⟩
        obtain ⟨n, k, a1, a2, c1, c2, g1, g2, g3, g4, g5⟩ := (h2 e he).ex
        have hg' := grown_trans hX hg
        exact ⟨n, k, a1, a2, c1, c2, g1, g2, rangeAt_grown g3 hg', g4.grown hg', g5.grown hg'⟩
      repeat ((fail_if_success (with_reducible show Code.wp _ (Code.region _ _ _) _ _ _)); go_step)
      refine wp_loose [.imm (.slice ab i cb), .val (.bool true), .imm (.bool true), .imm (.slice (some ⟨r, 0, none⟩) 1 1), .imm (.int .i64 1), .imm (.bool true), .imm (.bool true), .imm (.bool true), .imm (.slice (some ⟨r, 0, none⟩) 1 1), .imm (.pointer (some ⟨r, 32 * 0, none⟩)), .val (bv 1), .val (bv 1), .imm (.bool true), .imm (.bool true), .imm (.bool true)] (by kernel_rfl) (by kernel_rfl) (fun β => ?_) (fun β u5 hD => ?_)
      · refine Obs.cons (Ob.imm rfl (fun w => by kernel_rfl)) ?_
        refine Obs.cons (Ob.call 35 #[.slice ab i cb] rfl (fun w => by kernel_rfl) (fun w hg => marked_r ab i cb w (by omega) (hbok2 w hg))) ?_
        refine Obs.cons (Ob.imm rfl (fun w => by kernel_rfl)) ?_
        refine Obs.cons (Ob.imm (by kernel_rfl) (fun w => by kernel_rfl)) ?_
        refine Obs.cons (Ob.imm (by kernel_rfl) (fun w => by kernel_rfl)) ?_
        refine Obs.cons (Ob.imm (by kernel_rfl) (fun w => by kernel_rfl)) ?_
        refine Obs.cons (Ob.imm rfl (fun w => by kernel_rfl)) ?_
        refine Obs.cons (Ob.imm rfl (fun w => by kernel_rfl)) ?_
        refine Obs.cons (Ob.imm (by kernel_rfl) (fun w => by kernel_rfl)) ?_
        refine Obs.cons (Ob.imm (by kernel_rfl) (fun w => exec_idxRB (n := 1) (c := 1) 0 (by decide) rfl (by kernel_rfl) (by kernel_rfl))) ?_
        refine Obs.cons (Ob.load r (32 * 0) (bl 1) (by kernel_rfl) rfl (by kernel_rfl) hr Tryd.underlying23 rfl (by rw [bl_length]; exact info32)) ?_
        refine Obs.cons (Ob.load O1 0 (bl 1) (by kernel_rfl) rfl (by kernel_rfl) hrO Tryd.underlying23 rfl (by rw [bl_length]; exact info32)) ?_
        refine Obs.cons (Ob.imm (by kernel_rfl) (fun w => exec_eql_same rfl 1 1 (by kernel_rfl) (by kernel_rfl) (by decide) (by decide) rfl w)) ?_
        refine Obs.cons (Ob.imm rfl (fun w => by kernel_rfl)) ?_
        refine Obs.cons (Ob.imm rfl (fun w => by kernel_rfl)) ?_
        exact Obs.nil
      replace hW := grown_trans hW hD.gr
      clear hD
      simp only [finAct, putAll, valsFrom, Plan.value, Act.put, List.setIfInBounds_toArray, List.set_cons_zero, List.set_cons_succ]
      repeat go_step
      go_ret
      exact ⟨rfl, hW⟩

end Go.Proofs.YtkegcilcapnpdaaDoor
