import Derived.Test.YtkegcilcapnpdaaDoorMw
import Derived.Test.YtkegcilcapnpdaaDoorMu
namespace Go.Proofs.YtkegcilcapnpdaaDoor
open Go.RowKit Go.Shelf FieldNum

theorem ne_of_freshR {w : World} {b c : Nat} {f : Nat → Int} (h : w.rangeAt b 0 (il 16 f)) (hf : w.heap.size ≤ c) : b ≠ c := ne_of_freshI h (by decide) hf
theorem Zero_b (a : Nat) (ha : a < S256) (b : Bool) (hb : decide (a = 0) = b) (w : World) : Calls Tryd.prog 70 #[sn a] w fun e w' => e = .returned (.bool b) ∧ Grown w w' := by
  rw [← hb]; exact Zero_r a ha w
theorem Same_b (a c : Nat) (ha : a < S256) (hc : c < S256) (b : Bool) (hb : decide (a = c) = b) (w : World) : Calls Tryd.prog 92 #[sn a, sn c] w fun e w' => e = .returned (.bool b) ∧ Grown w w' := by
  rw [← hb]; exact Same_r a c ha hc w
theorem Below_b (a c : Nat) (ha : a < S256) (hc : c < S256) (b : Bool) (hb : decide (a < c) = b) (w : World) : Calls Tryd.prog 95 #[sn a, sn c] w fun e w' => e = .returned (.bool b) ∧ Grown w w' := by
  rw [← hb]; exact Below_r a c ha hc w
theorem Minus_p (a b : Nat) (ha : a < p) (hb : b < S256) (w : World) (hGl0 : Gp w) : Calls Tryd.prog 66 #[sn a, sn b] w fun e w' => e = .returned (sn (sb a b)) ∧ Grown w w' := by
  have := Minus_r a b (Nat.lt_trans ha p_S) hb w hGl0
  rw [sb_mod] at this
  exact this
theorem le_S {a : Nat} (h : a ≤ p) : a < S256 := Nat.lt_of_le_of_lt h p_S
theorem lt_S {a : Nat} (h : a < p) : a < S256 := Nat.lt_trans h p_S

/-- the four numbers, 1, and the result's variable -/
structure JX (w0 : World) (bU bV bX bY bO bR u v x y : Nat) (wr : World) : Prop where
  ru : wr.rangeAt bU 0 (il 16 (d16 u))
  rv : wr.rangeAt bV 0 (il 16 (d16 v))
  rx : wr.rangeAt bX 0 (il 16 (d16 x))
  ry : wr.rangeAt bY 0 (il 16 (d16 y))
  ro : wr.rangeAt bO 0 (il 16 (d16 1))
  tu : wr.there bU 0 16
  tv : wr.there bV 0 16
  tx : wr.there bX 0 16
  ty : wr.there bY 0 16
  tr : wr.there bR 0 16
  nUV : bU ≠ bV
  nUX : bU ≠ bX
  nUY : bU ≠ bY
  nUO : bU ≠ bO
  nVX : bV ≠ bX
  nVY : bV ≠ bY
  nVO : bV ≠ bO
  nXY : bX ≠ bY
  nXO : bX ≠ bO
  nYO : bY ≠ bO
  fu : w0.heap.size ≤ bU
  fv : w0.heap.size ≤ bV
  fx : w0.heap.size ≤ bX
  fy : w0.heap.size ≤ bY
  fr : w0.heap.size ≤ bR
  gw : Grown w0 wr
theorem JX.grown {w0 wr : World} {bU bV bX bY bO bR u v x y : Nat} {w' : World} (s : JX w0 bU bV bX bY bO bR u v x y wr) (hg : Grown wr w') : JX w0 bU bV bX bY bO bR u v x y w' :=
  ⟨rangeAt_grown s.ru hg, rangeAt_grown s.rv hg, rangeAt_grown s.rx hg, rangeAt_grown s.ry hg, rangeAt_grown s.ro hg, there_grown s.tu hg, there_grown s.tv hg, there_grown s.tx hg, there_grown s.ty hg, there_grown s.tr hg, s.nUV, s.nUX, s.nUY, s.nUO, s.nVX, s.nVY, s.nVO, s.nXY, s.nXO, s.nYO, s.fu, s.fv, s.fx, s.fy, s.fr, grown_trans s.gw hg⟩
theorem JX.putU {w0 wr : World} {bU bV bX bY bO bR u v x y : Nat} (s : JX w0 bU bV bX bY bO bR u v x y wr) (z : Nat) : JX w0 bU bV bX bY bO bR z v x y (wr.setCells bU 0 (il 16 (d16 z))) :=
  ⟨World.rangeAt_setCells_same _ _ _ _ (by rw [il_length]; exact s.tu), World.rangeAt_setCells_apart s.rv _ _ _ (.inl (s.nUV.symm)), World.rangeAt_setCells_apart s.rx _ _ _ (.inl (s.nUX.symm)), World.rangeAt_setCells_apart s.ry _ _ _ (.inl (s.nUY.symm)), World.rangeAt_setCells_apart s.ro _ _ _ (.inl (s.nUO.symm)), World.there_setCells s.tu _ _ _, World.there_setCells s.tv _ _ _, World.there_setCells s.tx _ _ _, World.there_setCells s.ty _ _ _, World.there_setCells s.tr _ _ _, s.nUV, s.nUX, s.nUY, s.nUO, s.nVX, s.nVY, s.nVO, s.nXY, s.nXO, s.nYO, s.fu, s.fv, s.fx, s.fy, s.fr, grown_setCells s.fu _ _ s.gw⟩
theorem JX.putV {w0 wr : World} {bU bV bX bY bO bR u v x y : Nat} (s : JX w0 bU bV bX bY bO bR u v x y wr) (z : Nat) : JX w0 bU bV bX bY bO bR u z x y (wr.setCells bV 0 (il 16 (d16 z))) :=
  ⟨World.rangeAt_setCells_apart s.ru _ _ _ (.inl (s.nUV)), World.rangeAt_setCells_same _ _ _ _ (by rw [il_length]; exact s.tv), World.rangeAt_setCells_apart s.rx _ _ _ (.inl (s.nVX.symm)), World.rangeAt_setCells_apart s.ry _ _ _ (.inl (s.nVY.symm)), World.rangeAt_setCells_apart s.ro _ _ _ (.inl (s.nVO.symm)), World.there_setCells s.tu _ _ _, World.there_setCells s.tv _ _ _, World.there_setCells s.tx _ _ _, World.there_setCells s.ty _ _ _, World.there_setCells s.tr _ _ _, s.nUV, s.nUX, s.nUY, s.nUO, s.nVX, s.nVY, s.nVO, s.nXY, s.nXO, s.nYO, s.fu, s.fv, s.fx, s.fy, s.fr, grown_setCells s.fv _ _ s.gw⟩
theorem JX.putX {w0 wr : World} {bU bV bX bY bO bR u v x y : Nat} (s : JX w0 bU bV bX bY bO bR u v x y wr) (z : Nat) : JX w0 bU bV bX bY bO bR u v z y (wr.setCells bX 0 (il 16 (d16 z))) :=
  ⟨World.rangeAt_setCells_apart s.ru _ _ _ (.inl (s.nUX)), World.rangeAt_setCells_apart s.rv _ _ _ (.inl (s.nVX)), World.rangeAt_setCells_same _ _ _ _ (by rw [il_length]; exact s.tx), World.rangeAt_setCells_apart s.ry _ _ _ (.inl (s.nXY.symm)), World.rangeAt_setCells_apart s.ro _ _ _ (.inl (s.nXO.symm)), World.there_setCells s.tu _ _ _, World.there_setCells s.tv _ _ _, World.there_setCells s.tx _ _ _, World.there_setCells s.ty _ _ _, World.there_setCells s.tr _ _ _, s.nUV, s.nUX, s.nUY, s.nUO, s.nVX, s.nVY, s.nVO, s.nXY, s.nXO, s.nYO, s.fu, s.fv, s.fx, s.fy, s.fr, grown_setCells s.fx _ _ s.gw⟩
theorem JX.putY {w0 wr : World} {bU bV bX bY bO bR u v x y : Nat} (s : JX w0 bU bV bX bY bO bR u v x y wr) (z : Nat) : JX w0 bU bV bX bY bO bR u v x z (wr.setCells bY 0 (il 16 (d16 z))) :=
  ⟨World.rangeAt_setCells_apart s.ru _ _ _ (.inl (s.nUY)), World.rangeAt_setCells_apart s.rv _ _ _ (.inl (s.nVY)), World.rangeAt_setCells_apart s.rx _ _ _ (.inl (s.nXY)), World.rangeAt_setCells_same _ _ _ _ (by rw [il_length]; exact s.ty), World.rangeAt_setCells_apart s.ro _ _ _ (.inl (s.nYO.symm)), World.there_setCells s.tu _ _ _, World.there_setCells s.tv _ _ _, World.there_setCells s.tx _ _ _, World.there_setCells s.ty _ _ _, World.there_setCells s.tr _ _ _, s.nUV, s.nUX, s.nUY, s.nUO, s.nVX, s.nVY, s.nVO, s.nXY, s.nXO, s.nYO, s.fu, s.fv, s.fx, s.fy, s.fr, grown_setCells s.fy _ _ s.gw⟩
theorem rd_range {w : World} {g n : Nat} {f : Nat → Int} (h : w.rangeAt g 0 (il n f)) : es (rdI w g) n = es f n := by
  refine es_congr fun j hj => ?_
  unfold rdI
  rw [cell_i h hj]
theorem JX.meas {w0 wr : World} {bU bV bX bY bO bR u v x y : Nat} (s : JX w0 bU bV bX bY bO bR u v x y wr) (hu : u < S256) (hv : v < S256) : (es (rdI wr bU) 16 + es (rdI wr bV) 16).toNat = u + v := by
  rw [rd_range s.ru, rd_range s.rv, es_d16 hu, es_d16 hv]
  omega

set_option maxRecDepth 100000 in
set_option maxHeartbeats 4000000 in
theorem Inverse_0 (a : Nat) (ha : a < S256) (h0 : a % p = 0) (w : World) (hGl0 : Gp w) : Calls Tryd.prog 69 #[sn a] w fun e w' => e = .returned (sn (a % p)) ∧ Grown w w' := by
  have hW := Grown.refl w
  have hGl := hGl0
  go_enter Tryd.func69, Tryd.ntmps69
  repeat ((fail_if_success (with_reducible show Code.wp _ (Code.region _ _ _) _ _ _)); go_step)
  refine wp_plain [.box 45 (il 16 (d16 (a))), .new 45 16] (by kernel_rfl) (fun β => ?_) (fun β w1 hD => ?_)
  · refine Obs.cons (Ob.box rfl rfl (by kernel_rfl)) ?_
    refine Obs.cons (Ob.new _ rfl rfl zeroS (by simp [il_length])) ?_
    exact Obs.nil
  obtain ⟨hf_b0, hr_b0⟩ := hD.bx 0 _ _ rfl
  replace hf_b0 := Nat.le_trans hW.2.2 hf_b0
  obtain ⟨hf_b1, ht_b1⟩ := hD.nw 1 _ _ rfl
  replace hf_b1 := Nat.le_trans hW.2.2 hf_b1
  replace hW := grown_trans hW hD.gr
  clear hD
  simp only [finAct, putAll, valsFrom, Plan.value, Act.put, List.setIfInBounds_toArray, List.set_cons_zero, List.set_cons_succ]
  replace hGl := hGl0.grown hW
  generalize β 0 = b0 at *
  generalize β (0 + 1) = b1 at *
  repeat ((fail_if_success (with_reducible show Code.wp _ (Code.region _ _ _) _ _ _)); go_step)
  refine wp_plain [.val (sn (a)), .val (sn ((a) % p)), .new 45 16, .put 2 2 (fun _ => il 16 (d16 ((a) % p)))] (by kernel_rfl) (fun β => ?_) (fun β w2 hD => ?_)
  · refine Obs.cons (Ob.load (b0) 0 (il 16 (d16 (a))) rfl rfl (by kernel_rfl) hr_b0 Tryd.underlying45 rfl (by rw [il_length]; exact infoS)) ?_
    refine Obs.cons (Ob.call 87 #[sn (a)] rfl (fun w => by kernel_rfl) (fun w hg => fit_r (a) ha w (hGl.grown hg))) ?_
    refine Obs.cons (Ob.new _ rfl rfl zeroS (by simp [il_length])) ?_
    refine Obs.cons (Ob.put 45 rfl rfl rfl (by kernel_rfl) (by kernel_rfl) (by rw [il_length]; exact infoS) (il_one _ _)) ?_
    exact Obs.nil
  replace hr_b0 := rangeAt_grown hr_b0 hD.gr
  replace ht_b1 := there_grown ht_b1 hD.gr
  obtain ⟨hf_b2, ht_b2⟩ := hD.nw 2 _ _ rfl
  have hr_b2 : w2.rangeAt (β 2) 0 (il 16 (d16 ((a) % p))) := hD.rg 3 2 2 (fun _ => il 16 (d16 ((a) % p))) rfl
  replace hf_b2 := Nat.le_trans hW.2.2 hf_b2
  replace hW := grown_trans hW hD.gr
  clear hD
  simp only [finAct, putAll, valsFrom, Plan.value, Act.put, List.setIfInBounds_toArray, List.set_cons_zero, List.set_cons_succ]
  replace hGl := hGl0.grown hW
  generalize β (0 + 1 + 1) = b2 at *
  repeat ((fail_if_success (with_reducible show Code.wp _ (Code.region _ _ _) _ _ _)); go_step)
  refine wp_plain [.val (sn ((a) % p)), .val (.bool true), .imm (.bool true)] (by kernel_rfl) (fun β => ?_) (fun β w3 hD => ?_)
  · refine Obs.cons (Ob.load (b2) 0 (il 16 (d16 ((a) % p))) rfl rfl (by kernel_rfl) hr_b2 Tryd.underlying45 rfl (by rw [il_length]; exact infoS)) ?_
    refine Obs.cons (Ob.call 70 #[sn ((a) % p)] rfl (fun w => by kernel_rfl) (fun w hg => Zero_b ((a) % p) (mod_S _) true (decide_eq_true h0) w)) ?_
    refine Obs.cons (Ob.imm rfl (fun w => by kernel_rfl)) ?_
    exact Obs.nil
  replace hr_b0 := rangeAt_grown hr_b0 hD.gr
  replace hr_b2 := rangeAt_grown hr_b2 hD.gr
  replace ht_b1 := there_grown ht_b1 hD.gr
  replace ht_b2 := there_grown ht_b2 hD.gr
  replace hW := grown_trans hW hD.gr
  clear hD
  simp only [finAct, putAll, valsFrom, Plan.value, Act.put, List.setIfInBounds_toArray, List.set_cons_zero, List.set_cons_succ]
  replace hGl := hGl0.grown hW
  repeat ((fail_if_success (with_reducible show Code.wp _ (Code.region _ _ _) _ _ _)); go_step)
  refine wp_plain [.imm (.bool true)] (by kernel_rfl) (fun β => ?_) (fun β w4 hD => ?_)
  · refine Obs.cons (Ob.imm rfl (fun w => by kernel_rfl)) ?_
    exact Obs.nil
  replace hr_b0 := rangeAt_grown hr_b0 hD.gr
  replace hr_b2 := rangeAt_grown hr_b2 hD.gr
  replace ht_b1 := there_grown ht_b1 hD.gr
  replace ht_b2 := there_grown ht_b2 hD.gr
  replace hW := grown_trans hW hD.gr
  clear hD
  simp only [finAct, putAll, valsFrom, Plan.value, Act.put, List.setIfInBounds_toArray, List.set_cons_zero, List.set_cons_succ]
  replace hGl := hGl0.grown hW
  repeat ((fail_if_success (with_reducible show Code.wp _ (Code.region _ _ _) _ _ _)); go_step)
  refine wp_plain_fin [.val (sn ((a) % p)), .fin] (b1) 0 (fun _ => il 16 (d16 ((a) % p))) (by kernel_rfl) (fun β => ?_) (fun β w5 hD => ?_)
  · refine Obs.cons (Ob.load (b2) 0 (il 16 (d16 ((a) % p))) rfl rfl (by kernel_rfl) hr_b2 Tryd.underlying45 rfl (by rw [il_length]; exact infoS)) ?_
    refine Obs.cons (Ob.fin rfl (by rw [il_length]; exact ht_b1) rfl (by kernel_rfl) (by kernel_rfl) (by rw [il_length]; exact infoS) (il_one _ _)) ?_
    exact Obs.nil
  replace hr_b0 := rangeAt_grown hr_b0 hD.gr
  replace hr_b2 := rangeAt_grown hr_b2 hD.gr
  replace ht_b1 := there_grown ht_b1 hD.gr
  replace ht_b2 := there_grown ht_b2 hD.gr
  replace hW := grown_trans hW hD.gr
  clear hD
  simp only [finAct, putAll, valsFrom, Plan.value, Act.put, List.setIfInBounds_toArray, List.set_cons_zero, List.set_cons_succ]
  replace hGl := hGl0.grown hW
  have hs5 := World.rangeAt_setCells_same w5 (b1) 0 (il 16 (d16 ((a) % p))) (by rw [il_length]; exact ht_b1)
  replace hW := grown_setCells hf_b1 (il 16 (d16 ((a) % p))) 0 hW
  generalize w5.setCells (b1) 0 (il 16 (d16 ((a) % p))) = w5s at *
  repeat go_step
  refine bodyPost_ret (v := sn ((a) % p)) (result_cells Tryd.results69 _ _ (b1) _ ?hp hs5 Tryd.underlying45 rfl (by rw [il_length]; exact infoS)) ?hd ?_
  case hp => rfl
  case hd => rfl
  exact ⟨rfl, hW⟩

set_option maxRecDepth 100000 in
set_option maxHeartbeats 16000000 in
theorem Inverse_1 (a : Nat) (ha : a < S256) (h0 : ¬ a % p = 0) (w : World) (hGl0 : Gp w) : Calls Tryd.prog 69 #[sn a] w fun e w' => e = .returned (sn (inv a)) ∧ Grown w w' := by
  have hW := Grown.refl w
  have hGl := hGl0
  go_enter Tryd.func69, Tryd.ntmps69
  repeat ((fail_if_success (with_reducible show Code.wp _ (Code.region _ _ _) _ _ _)); go_step)
  refine wp_plain [.box 45 (il 16 (d16 (a))), .new 45 16] (by kernel_rfl) (fun β => ?_) (fun β w1 hD => ?_)
  · refine Obs.cons (Ob.box rfl rfl (by kernel_rfl)) ?_
    refine Obs.cons (Ob.new _ rfl rfl zeroS (by simp [il_length])) ?_
    exact Obs.nil
  obtain ⟨hf_b0, hr_b0⟩ := hD.bx 0 _ _ rfl
  replace hf_b0 := Nat.le_trans hW.2.2 hf_b0
  obtain ⟨hf_b1, ht_b1⟩ := hD.nw 1 _ _ rfl
  replace hf_b1 := Nat.le_trans hW.2.2 hf_b1
  have hn_b0_b1 := hD.ap 0 1 _ _ rfl rfl rfl rfl (by decide)
  replace hW := grown_trans hW hD.gr
  clear hD
  simp only [finAct, putAll, valsFrom, Plan.value, Act.put, List.setIfInBounds_toArray, List.set_cons_zero, List.set_cons_succ]
  replace hGl := hGl0.grown hW
  generalize β 0 = b0 at *
  generalize β (0 + 1) = b1 at *
  repeat ((fail_if_success (with_reducible show Code.wp _ (Code.region _ _ _) _ _ _)); go_step)
  refine wp_plain [.val (sn (a)), .val (sn ((a) % p)), .new 45 16, .put 2 2 (fun _ => il 16 (d16 ((a) % p)))] (by kernel_rfl) (fun β => ?_) (fun β w2 hD => ?_)
  · refine Obs.cons (Ob.load (b0) 0 (il 16 (d16 (a))) rfl rfl (by kernel_rfl) hr_b0 Tryd.underlying45 rfl (by rw [il_length]; exact infoS)) ?_
    refine Obs.cons (Ob.call 87 #[sn (a)] rfl (fun w => by kernel_rfl) (fun w hg => fit_r (a) ha w (hGl.grown hg))) ?_
    refine Obs.cons (Ob.new _ rfl rfl zeroS (by simp [il_length])) ?_
    refine Obs.cons (Ob.put 45 rfl rfl rfl (by kernel_rfl) (by kernel_rfl) (by rw [il_length]; exact infoS) (il_one _ _)) ?_
    exact Obs.nil
  have hn_b0_b2 := ne_of_freshR hr_b0 (hD.nw 2 _ _ rfl).1
  replace hr_b0 := rangeAt_grown hr_b0 hD.gr
  replace ht_b1 := there_grown ht_b1 hD.gr
  obtain ⟨hf_b2, ht_b2⟩ := hD.nw 2 _ _ rfl
  have hr_b2 : w2.rangeAt (β 2) 0 (il 16 (d16 ((a) % p))) := hD.rg 3 2 2 (fun _ => il 16 (d16 ((a) % p))) rfl
  replace hf_b2 := Nat.le_trans hW.2.2 hf_b2
  replace hW := grown_trans hW hD.gr
  clear hD
  simp only [finAct, putAll, valsFrom, Plan.value, Act.put, List.setIfInBounds_toArray, List.set_cons_zero, List.set_cons_succ]
  replace hGl := hGl0.grown hW
  generalize β (0 + 1 + 1) = b2 at *
  repeat ((fail_if_success (with_reducible show Code.wp _ (Code.region _ _ _) _ _ _)); go_step)
  refine wp_plain [.val (sn ((a) % p)), .val (.bool false), .imm (.bool false)] (by kernel_rfl) (fun β => ?_) (fun β w3 hD => ?_)
  · refine Obs.cons (Ob.load (b2) 0 (il 16 (d16 ((a) % p))) rfl rfl (by kernel_rfl) hr_b2 Tryd.underlying45 rfl (by rw [il_length]; exact infoS)) ?_
    refine Obs.cons (Ob.call 70 #[sn ((a) % p)] rfl (fun w => by kernel_rfl) (fun w hg => Zero_b ((a) % p) (mod_S _) false (decide_eq_false h0) w)) ?_
    refine Obs.cons (Ob.imm rfl (fun w => by kernel_rfl)) ?_
    exact Obs.nil
  replace hr_b0 := rangeAt_grown hr_b0 hD.gr
  replace hr_b2 := rangeAt_grown hr_b2 hD.gr
  replace ht_b1 := there_grown ht_b1 hD.gr
  replace ht_b2 := there_grown ht_b2 hD.gr
  replace hW := grown_trans hW hD.gr
  clear hD
  simp only [finAct, putAll, valsFrom, Plan.value, Act.put, List.setIfInBounds_toArray, List.set_cons_zero, List.set_cons_succ]
  replace hGl := hGl0.grown hW
  repeat ((fail_if_success (with_reducible show Code.wp _ (Code.region _ _ _) _ _ _)); go_step)
  refine wp_plain [.imm (.bool false)] (by kernel_rfl) (fun β => ?_) (fun β w4 hD => ?_)
  · refine Obs.cons (Ob.imm rfl (fun w => by kernel_rfl)) ?_
    exact Obs.nil
  replace hr_b0 := rangeAt_grown hr_b0 hD.gr
  replace hr_b2 := rangeAt_grown hr_b2 hD.gr
  replace ht_b1 := there_grown ht_b1 hD.gr
  replace ht_b2 := there_grown ht_b2 hD.gr
  replace hW := grown_trans hW hD.gr
  clear hD
  simp only [finAct, putAll, valsFrom, Plan.value, Act.put, List.setIfInBounds_toArray, List.set_cons_zero, List.set_cons_succ]
  replace hGl := hGl0.grown hW
  repeat ((fail_if_success (with_reducible show Code.wp _ (Code.region _ _ _) _ _ _)); go_step)
  refine wp_plain [.val (sn (p)), .new 45 16, .put 1 1 (fun _ => il 16 (d16 (p)))] (by kernel_rfl) (fun β => ?_) (fun β w5 hD => ?_)
  · refine Obs.cons (Ob.call 40 #[] rfl (fun w => by kernel_rfl) (fun w hg => P_r p w (hGl.grown hg))) ?_
    refine Obs.cons (Ob.new _ rfl rfl zeroS (by simp [il_length])) ?_
    refine Obs.cons (Ob.put 45 rfl rfl rfl (by kernel_rfl) (by kernel_rfl) (by rw [il_length]; exact infoS) (il_one _ _)) ?_
    exact Obs.nil
  have hn_b0_b3 := ne_of_freshR hr_b0 (hD.nw 1 _ _ rfl).1
  have hn_b2_b3 := ne_of_freshR hr_b2 (hD.nw 1 _ _ rfl).1
  replace hr_b0 := rangeAt_grown hr_b0 hD.gr
  replace hr_b2 := rangeAt_grown hr_b2 hD.gr
  replace ht_b1 := there_grown ht_b1 hD.gr
  replace ht_b2 := there_grown ht_b2 hD.gr
  obtain ⟨hf_b3, ht_b3⟩ := hD.nw 1 _ _ rfl
  have hr_b3 : w5.rangeAt (β 1) 0 (il 16 (d16 (p))) := hD.rg 2 1 1 (fun _ => il 16 (d16 (p))) rfl
  replace hf_b3 := Nat.le_trans hW.2.2 hf_b3
  replace hW := grown_trans hW hD.gr
  clear hD
  simp only [finAct, putAll, valsFrom, Plan.value, Act.put, List.setIfInBounds_toArray, List.set_cons_zero, List.set_cons_succ]
  replace hGl := hGl0.grown hW
  generalize β (0 + 1) = b3 at *
  repeat ((fail_if_success (with_reducible show Code.wp _ (Code.region _ _ _) _ _ _)); go_step)
  refine wp_plain [.val (sn (1)), .new 45 16, .put 1 1 (fun _ => il 16 (d16 (1)))] (by kernel_rfl) (fun β => ?_) (fun β w6 hD => ?_)
  · refine Obs.cons (Ob.call 39 #[.int .i64 (1)] rfl (fun w => by kernel_rfl) (fun w hg => Small_r 1 (by decide) 1 rfl w)) ?_
    refine Obs.cons (Ob.new _ rfl rfl zeroS (by simp [il_length])) ?_
    refine Obs.cons (Ob.put 45 rfl rfl rfl (by kernel_rfl) (by kernel_rfl) (by rw [il_length]; exact infoS) (il_one _ _)) ?_
    exact Obs.nil
  have hn_b0_b4 := ne_of_freshR hr_b0 (hD.nw 1 _ _ rfl).1
  have hn_b2_b4 := ne_of_freshR hr_b2 (hD.nw 1 _ _ rfl).1
  have hn_b3_b4 := ne_of_freshR hr_b3 (hD.nw 1 _ _ rfl).1
  replace hr_b0 := rangeAt_grown hr_b0 hD.gr
  replace hr_b2 := rangeAt_grown hr_b2 hD.gr
  replace hr_b3 := rangeAt_grown hr_b3 hD.gr
  replace ht_b1 := there_grown ht_b1 hD.gr
  replace ht_b2 := there_grown ht_b2 hD.gr
  replace ht_b3 := there_grown ht_b3 hD.gr
  obtain ⟨hf_b4, ht_b4⟩ := hD.nw 1 _ _ rfl
  have hr_b4 : w6.rangeAt (β 1) 0 (il 16 (d16 (1))) := hD.rg 2 1 1 (fun _ => il 16 (d16 (1))) rfl
  replace hf_b4 := Nat.le_trans hW.2.2 hf_b4
  replace hW := grown_trans hW hD.gr
  clear hD
  simp only [finAct, putAll, valsFrom, Plan.value, Act.put, List.setIfInBounds_toArray, List.set_cons_zero, List.set_cons_succ]
  replace hGl := hGl0.grown hW
  generalize β (0 + 1) = b4 at *
  repeat ((fail_if_success (with_reducible show Code.wp _ (Code.region _ _ _) _ _ _)); go_step)
  refine wp_plain [.val (sn (0)), .new 45 16, .put 1 1 (fun _ => il 16 (d16 (0)))] (by kernel_rfl) (fun β => ?_) (fun β w7 hD => ?_)
  · refine Obs.cons (Ob.call 39 #[.int .i64 (0)] rfl (fun w => by kernel_rfl) (fun w hg => Small_r 0 (by decide) 0 rfl w)) ?_
    refine Obs.cons (Ob.new _ rfl rfl zeroS (by simp [il_length])) ?_
    refine Obs.cons (Ob.put 45 rfl rfl rfl (by kernel_rfl) (by kernel_rfl) (by rw [il_length]; exact infoS) (il_one _ _)) ?_
    exact Obs.nil
  have hn_b0_b5 := ne_of_freshR hr_b0 (hD.nw 1 _ _ rfl).1
  have hn_b2_b5 := ne_of_freshR hr_b2 (hD.nw 1 _ _ rfl).1
  have hn_b3_b5 := ne_of_freshR hr_b3 (hD.nw 1 _ _ rfl).1
  have hn_b4_b5 := ne_of_freshR hr_b4 (hD.nw 1 _ _ rfl).1
  replace hr_b0 := rangeAt_grown hr_b0 hD.gr
  replace hr_b2 := rangeAt_grown hr_b2 hD.gr
  replace hr_b3 := rangeAt_grown hr_b3 hD.gr
  replace hr_b4 := rangeAt_grown hr_b4 hD.gr
  replace ht_b1 := there_grown ht_b1 hD.gr
  replace ht_b2 := there_grown ht_b2 hD.gr
  replace ht_b3 := there_grown ht_b3 hD.gr
  replace ht_b4 := there_grown ht_b4 hD.gr
  obtain ⟨hf_b5, ht_b5⟩ := hD.nw 1 _ _ rfl
  have hr_b5 : w7.rangeAt (β 1) 0 (il 16 (d16 (0))) := hD.rg 2 1 1 (fun _ => il 16 (d16 (0))) rfl
  replace hf_b5 := Nat.le_trans hW.2.2 hf_b5
  replace hW := grown_trans hW hD.gr
  clear hD
  simp only [finAct, putAll, valsFrom, Plan.value, Act.put, List.setIfInBounds_toArray, List.set_cons_zero, List.set_cons_succ]
  replace hGl := hGl0.grown hW
  generalize β (0 + 1) = b5 at *
  repeat ((fail_if_success (with_reducible show Code.wp _ (Code.region _ _ _) _ _ _)); go_step)
  refine wp_plain [.val (sn (1)), .new 45 16, .put 1 1 (fun _ => il 16 (d16 (1)))] (by kernel_rfl) (fun β => ?_) (fun β w8 hD => ?_)
  · refine Obs.cons (Ob.call 39 #[.int .i64 (1)] rfl (fun w => by kernel_rfl) (fun w hg => Small_r 1 (by decide) 1 rfl w)) ?_
    refine Obs.cons (Ob.new _ rfl rfl zeroS (by simp [il_length])) ?_
    refine Obs.cons (Ob.put 45 rfl rfl rfl (by kernel_rfl) (by kernel_rfl) (by rw [il_length]; exact infoS) (il_one _ _)) ?_
    exact Obs.nil
  have hn_b0_b6 := ne_of_freshR hr_b0 (hD.nw 1 _ _ rfl).1
  have hn_b2_b6 := ne_of_freshR hr_b2 (hD.nw 1 _ _ rfl).1
  have hn_b3_b6 := ne_of_freshR hr_b3 (hD.nw 1 _ _ rfl).1
  have hn_b4_b6 := ne_of_freshR hr_b4 (hD.nw 1 _ _ rfl).1
  have hn_b5_b6 := ne_of_freshR hr_b5 (hD.nw 1 _ _ rfl).1
  replace hr_b0 := rangeAt_grown hr_b0 hD.gr
  replace hr_b2 := rangeAt_grown hr_b2 hD.gr
  replace hr_b3 := rangeAt_grown hr_b3 hD.gr
  replace hr_b4 := rangeAt_grown hr_b4 hD.gr
  replace hr_b5 := rangeAt_grown hr_b5 hD.gr
  replace ht_b1 := there_grown ht_b1 hD.gr
  replace ht_b2 := there_grown ht_b2 hD.gr
  replace ht_b3 := there_grown ht_b3 hD.gr
  replace ht_b4 := there_grown ht_b4 hD.gr
  replace ht_b5 := there_grown ht_b5 hD.gr
  obtain ⟨hf_b6, ht_b6⟩ := hD.nw 1 _ _ rfl
  have hr_b6 : w8.rangeAt (β 1) 0 (il 16 (d16 (1))) := hD.rg 2 1 1 (fun _ => il 16 (d16 (1))) rfl
  replace hf_b6 := Nat.le_trans hW.2.2 hf_b6
  replace hW := grown_trans hW hD.gr
  clear hD
  simp only [finAct, putAll, valsFrom, Plan.value, Act.put, List.setIfInBounds_toArray, List.set_cons_zero, List.set_cons_succ]
  replace hGl := hGl0.grown hW
  generalize β (0 + 1) = b6 at *
  have hP0 : JX w b2 b3 b4 b5 b6 b1 (a % p) p 1 0 w8 := ⟨hr_b2, hr_b3, hr_b4, hr_b5, hr_b6, ht_b2, ht_b3, ht_b4, ht_b5, ht_b1, hn_b2_b3, hn_b2_b4, hn_b2_b5, hn_b2_b6, hn_b3_b4, hn_b3_b5, hn_b3_b6, hn_b4_b5, hn_b4_b6, hn_b5_b6, hf_b2, hf_b3, hf_b4, hf_b5, hf_b1, hW⟩
  have HG := Hid.of hGl0
  have HS := Hid.of (IS.start h0)
  clear hGl hGl0
  go_wp2
  go_loopw [9] (fun _ wr => ∃ u v x y : Nat, JX w b2 b3 b4 b5 b6 b1 u v x y wr ∧ IS a u v x y) (fun _ wr => (es (rdI wr b2) 16 + es (rdI wr b3) 16).toNat)
  case atStart => exact ⟨_, _, _, _, hP0, HS.out⟩
  case round =>
    clear hP0 HS
    obtain ⟨u, v, x, y, hX, hI⟩ := hrel
    have hu := le_S hI.up
    have hv := le_S hI.vp
    have hx := lt_S hI.xp
    have hy := lt_S hI.yp
    have hme := Hid.of (hX.meas hu hv)
    have hGp := HG.out.grown hX.gw
    repeat ((fail_if_success (with_reducible show Code.wp _ (Code.region _ _ _) _ _ _)); go_step)
    by_cases h1 : u = 1
    · refine wp_plain [.val (sn u), .val (sn 1), .val (.bool true), .imm (.bool true)] (by kernel_rfl) (fun β => ?_) (fun β w2 hD => ?_)
      · refine Obs.cons (Ob.load b2 0 (il 16 (d16 u)) rfl rfl (by kernel_rfl) hX.ru Tryd.underlying45 rfl (by rw [il_length]; exact infoS)) ?_
        refine Obs.cons (Ob.load b6 0 (il 16 (d16 1)) rfl rfl (by kernel_rfl) hX.ro Tryd.underlying45 rfl (by rw [il_length]; exact infoS)) ?_
        refine Obs.cons (Ob.call 92 #[sn u, sn 1] rfl (fun w => by kernel_rfl) (fun w _ => Same_b u 1 hu one_S true (decide_eq_true h1) w)) ?_
        refine Obs.cons (Ob.imm rfl (fun w => by kernel_rfl)) ?_
        exact Obs.nil
      replace hX := hX.grown hD.gr
      replace hGp := hGp.grown hD.gr
      clear hD
      simp only [finAct, putAll, valsFrom, Plan.value, Act.put, List.setIfInBounds_toArray, List.set_cons_zero, List.set_cons_succ]
      repeat ((fail_if_success (with_reducible show Code.wp _ (Code.region _ _ _) _ _ _)); go_step)
      refine wp_plain [.imm (.bool true)] (by kernel_rfl) (fun β => ?_) (fun β w21 hD => ?_)
      · refine Obs.cons (Ob.imm rfl (fun w => by kernel_rfl)) ?_
        exact Obs.nil
      replace hX := hX.grown hD.gr
      replace hGp := hGp.grown hD.gr
      clear hD
      simp only [finAct, putAll, valsFrom, Plan.value, Act.put, List.setIfInBounds_toArray, List.set_cons_zero, List.set_cons_succ]
      repeat ((fail_if_success (with_reducible show Code.wp _ (Code.region _ _ _) _ _ _)); go_step)
      subst h1
      refine wp_plain_fin [.val (sn x), .fin] b1 0 (fun _ => il 16 (d16 x)) (by kernel_rfl) (fun β => ?_) (fun β w9 hD => ?_)
      · refine Obs.cons (Ob.load b4 0 (il 16 (d16 x)) rfl rfl (by kernel_rfl) hX.rx Tryd.underlying45 rfl (by rw [il_length]; exact infoS)) ?_
        refine Obs.cons (Ob.fin rfl (by rw [il_length]; exact hX.tr) rfl (by kernel_rfl) (by kernel_rfl) (by rw [il_length]; exact infoS) (il_one _ _)) ?_
        exact Obs.nil
      replace hX := hX.grown hD.gr
      have hr := World.rangeAt_setCells_same w9 b1 0 (il 16 (d16 x)) (by rw [il_length]; exact hX.tr)
      have hW := grown_setCells hX.fr (il 16 (d16 x)) 0 hX.gw
      clear hD
      simp only [finAct, putAll, valsFrom, Plan.value, Act.put, List.setIfInBounds_toArray, List.set_cons_zero, List.set_cons_succ]
      repeat go_step
      refine bodyPost_ret (v := sn x) (result_cells Tryd.results69 _ _ b1 (il 16 (d16 x)) ?hp hr Tryd.underlying45 rfl (by rw [il_length]; exact infoS)) ?hd ?_
      case hp => rfl
      case hd => rfl
      exact ⟨by rw [hI.done], hW⟩
    · refine wp_plain [.val (sn u), .val (sn 1), .val (.bool false), .imm (.bool false)] (by kernel_rfl) (fun β => ?_) (fun β w2 hD => ?_)
      · refine Obs.cons (Ob.load b2 0 (il 16 (d16 u)) rfl rfl (by kernel_rfl) hX.ru Tryd.underlying45 rfl (by rw [il_length]; exact infoS)) ?_
        refine Obs.cons (Ob.load b6 0 (il 16 (d16 1)) rfl rfl (by kernel_rfl) hX.ro Tryd.underlying45 rfl (by rw [il_length]; exact infoS)) ?_
        refine Obs.cons (Ob.call 92 #[sn u, sn 1] rfl (fun w => by kernel_rfl) (fun w _ => Same_b u 1 hu one_S false (decide_eq_false h1) w)) ?_
        refine Obs.cons (Ob.imm rfl (fun w => by kernel_rfl)) ?_
        exact Obs.nil
      replace hX := hX.grown hD.gr
      replace hGp := hGp.grown hD.gr
      clear hD
      simp only [finAct, putAll, valsFrom, Plan.value, Act.put, List.setIfInBounds_toArray, List.set_cons_zero, List.set_cons_succ]
      repeat ((fail_if_success (with_reducible show Code.wp _ (Code.region _ _ _) _ _ _)); go_step)
      refine wp_plain [.imm (.bool false)] (by kernel_rfl) (fun β => ?_) (fun β w21 hD => ?_)
      · refine Obs.cons (Ob.imm rfl (fun w => by kernel_rfl)) ?_
        exact Obs.nil
      replace hX := hX.grown hD.gr
      replace hGp := hGp.grown hD.gr
      clear hD
      simp only [finAct, putAll, valsFrom, Plan.value, Act.put, List.setIfInBounds_toArray, List.set_cons_zero, List.set_cons_succ]
      repeat ((fail_if_success (with_reducible show Code.wp _ (Code.region _ _ _) _ _ _)); go_step)
      by_cases h2 : v = 1
      · refine wp_plain [.val (sn v), .val (sn 1), .val (.bool true), .imm (.bool true)] (by kernel_rfl) (fun β => ?_) (fun β w3 hD => ?_)
        · refine Obs.cons (Ob.load b3 0 (il 16 (d16 v)) rfl rfl (by kernel_rfl) hX.rv Tryd.underlying45 rfl (by rw [il_length]; exact infoS)) ?_
          refine Obs.cons (Ob.load b6 0 (il 16 (d16 1)) rfl rfl (by kernel_rfl) hX.ro Tryd.underlying45 rfl (by rw [il_length]; exact infoS)) ?_
          refine Obs.cons (Ob.call 92 #[sn v, sn 1] rfl (fun w => by kernel_rfl) (fun w _ => Same_b v 1 hv one_S true (decide_eq_true h2) w)) ?_
          refine Obs.cons (Ob.imm rfl (fun w => by kernel_rfl)) ?_
          exact Obs.nil
        replace hX := hX.grown hD.gr
        replace hGp := hGp.grown hD.gr
        clear hD
        simp only [finAct, putAll, valsFrom, Plan.value, Act.put, List.setIfInBounds_toArray, List.set_cons_zero, List.set_cons_succ]
        repeat ((fail_if_success (with_reducible show Code.wp _ (Code.region _ _ _) _ _ _)); go_step)
        refine wp_plain [.imm (.bool true)] (by kernel_rfl) (fun β => ?_) (fun β w31 hD => ?_)
        · refine Obs.cons (Ob.imm rfl (fun w => by kernel_rfl)) ?_
          exact Obs.nil
        replace hX := hX.grown hD.gr
        replace hGp := hGp.grown hD.gr
        clear hD
        simp only [finAct, putAll, valsFrom, Plan.value, Act.put, List.setIfInBounds_toArray, List.set_cons_zero, List.set_cons_succ]
        repeat ((fail_if_success (with_reducible show Code.wp _ (Code.region _ _ _) _ _ _)); go_step)
        subst h2
        refine wp_plain_fin [.val (sn y), .fin] b1 0 (fun _ => il 16 (d16 y)) (by kernel_rfl) (fun β => ?_) (fun β w9 hD => ?_)
        · refine Obs.cons (Ob.load b5 0 (il 16 (d16 y)) rfl rfl (by kernel_rfl) hX.ry Tryd.underlying45 rfl (by rw [il_length]; exact infoS)) ?_
          refine Obs.cons (Ob.fin rfl (by rw [il_length]; exact hX.tr) rfl (by kernel_rfl) (by kernel_rfl) (by rw [il_length]; exact infoS) (il_one _ _)) ?_
          exact Obs.nil
        replace hX := hX.grown hD.gr
        have hr := World.rangeAt_setCells_same w9 b1 0 (il 16 (d16 y)) (by rw [il_length]; exact hX.tr)
        have hW := grown_setCells hX.fr (il 16 (d16 y)) 0 hX.gw
        clear hD
        simp only [finAct, putAll, valsFrom, Plan.value, Act.put, List.setIfInBounds_toArray, List.set_cons_zero, List.set_cons_succ]
        repeat go_step
        refine bodyPost_ret (v := sn y) (result_cells Tryd.results69 _ _ b1 (il 16 (d16 y)) ?hp hr Tryd.underlying45 rfl (by rw [il_length]; exact infoS)) ?hd ?_
        case hp => rfl
        case hd => rfl
        exact ⟨by rw [hI.symm.done], hW⟩
      · refine wp_plain [.val (sn v), .val (sn 1), .val (.bool false), .imm (.bool false)] (by kernel_rfl) (fun β => ?_) (fun β w3 hD => ?_)
        · refine Obs.cons (Ob.load b3 0 (il 16 (d16 v)) rfl rfl (by kernel_rfl) hX.rv Tryd.underlying45 rfl (by rw [il_length]; exact infoS)) ?_
          refine Obs.cons (Ob.load b6 0 (il 16 (d16 1)) rfl rfl (by kernel_rfl) hX.ro Tryd.underlying45 rfl (by rw [il_length]; exact infoS)) ?_
          refine Obs.cons (Ob.call 92 #[sn v, sn 1] rfl (fun w => by kernel_rfl) (fun w _ => Same_b v 1 hv one_S false (decide_eq_false h2) w)) ?_
          refine Obs.cons (Ob.imm rfl (fun w => by kernel_rfl)) ?_
          exact Obs.nil
        replace hX := hX.grown hD.gr
        replace hGp := hGp.grown hD.gr
        clear hD
        simp only [finAct, putAll, valsFrom, Plan.value, Act.put, List.setIfInBounds_toArray, List.set_cons_zero, List.set_cons_succ]
        repeat ((fail_if_success (with_reducible show Code.wp _ (Code.region _ _ _) _ _ _)); go_step)
        refine wp_plain [.imm (.bool false)] (by kernel_rfl) (fun β => ?_) (fun β w31 hD => ?_)
        · refine Obs.cons (Ob.imm rfl (fun w => by kernel_rfl)) ?_
          exact Obs.nil
        replace hX := hX.grown hD.gr
        replace hGp := hGp.grown hD.gr
        clear hD
        simp only [finAct, putAll, valsFrom, Plan.value, Act.put, List.setIfInBounds_toArray, List.set_cons_zero, List.set_cons_succ]
        repeat ((fail_if_success (with_reducible show Code.wp _ (Code.region _ _ _) _ _ _)); go_step)
        by_cases he : u % 2 = 0
        · have hxa := cell_i hX.ru (j := 0) (by decide)
          have hod := d16_odd u
          have hdx := d16_in u 16 0 (by decide)
          generalize d16 u 0 = d at hxa hod hdx
          refine wp_plain [.imm (.pointer (some ⟨b2, 0, none⟩)), .val (.int .i64 d), .imm (.int .i64 (d % 2)), .imm (.bool true), .imm (.bool true)] (by kernel_rfl) (fun β => ?_) (fun β w4 hD => ?_)
          · refine Obs.cons (Ob.imm rfl (fun w => exec_idxS 0 (by decide) rfl (by kernel_rfl) (by kernel_rfl))) ?_
            refine Obs.cons (Ob.load1 b2 0 rfl rfl (by kernel_rfl) (block_lt_of_cell hxa) hxa (fun w h => run_loadI w h)) ?_
            refine Obs.cons (Ob.imm rfl (fun w => exec_remZ d 2 _ (by decide) (by omega) rfl (by kernel_rfl) (by kernel_rfl) rfl)) ?_
            refine Obs.cons (Ob.imm rfl (fun w => exec_eqlI rfl (d % 2) 0 (by kernel_rfl) (by kernel_rfl) true (decide_eq_true (by omega)))) ?_
            refine Obs.cons (Ob.imm rfl (fun w => by kernel_rfl)) ?_
            exact Obs.nil
          replace hX := hX.grown hD.gr
          replace hGp := hGp.grown hD.gr
          clear hD
          clear hxa hod hdx
          simp only [finAct, putAll, valsFrom, Plan.value, Act.put, List.setIfInBounds_toArray, List.set_cons_zero, List.set_cons_succ]
          repeat ((fail_if_success (with_reducible show Code.wp _ (Code.region _ _ _) _ _ _)); go_step)
          refine wp_plain_fin [.val (sn u), .val (sn (u / 2)), .fin] b2 0 (fun _ => il 16 (d16 (u / 2))) (by kernel_rfl) (fun β => ?_) (fun β w5 hD => ?_)
          · refine Obs.cons (Ob.load b2 0 (il 16 (d16 u)) rfl rfl (by kernel_rfl) hX.ru Tryd.underlying45 rfl (by rw [il_length]; exact infoS)) ?_
            refine Obs.cons (Ob.call 93 #[sn u] rfl (fun w => by kernel_rfl) (fun w hg => half_r u hu w)) ?_
            refine Obs.cons (Ob.fin rfl (by rw [il_length]; exact hX.tu) rfl (by kernel_rfl) (by kernel_rfl) (by rw [il_length]; exact infoS) (il_one _ _)) ?_
            exact Obs.nil
          replace hX := (hX.grown hD.gr).putU (u / 2)
          clear hD hGp
          simp only [finAct, putAll, valsFrom, Plan.value, Act.put, List.setIfInBounds_toArray, List.set_cons_zero, List.set_cons_succ]
          generalize w5.setCells b2 0 (il 16 (d16 (u / 2))) = w6 at *
          have hGp := HG.out.grown hX.gw
          repeat ((fail_if_success (with_reducible show Code.wp _ (Code.region _ _ _) _ _ _)); go_step)
          refine wp_plain_fin [.val (sn x), .val (sn (hm x)), .fin] b4 0 (fun _ => il 16 (d16 (hm x))) (by kernel_rfl) (fun β => ?_) (fun β w7 hD => ?_)
          · refine Obs.cons (Ob.load b4 0 (il 16 (d16 x)) rfl rfl (by kernel_rfl) hX.rx Tryd.underlying45 rfl (by rw [il_length]; exact infoS)) ?_
            refine Obs.cons (Ob.call 94 #[sn x] rfl (fun w => by kernel_rfl) (fun w hg => halfMod_r x hI.xp w (hGp.grown hg))) ?_
            refine Obs.cons (Ob.fin rfl (by rw [il_length]; exact hX.tx) rfl (by kernel_rfl) (by kernel_rfl) (by rw [il_length]; exact infoS) (il_one _ _)) ?_
            exact Obs.nil
          replace hX := (hX.grown hD.gr).putX (hm x)
          clear hD hGp
          simp only [finAct, putAll, valsFrom, Plan.value, Act.put, List.setIfInBounds_toArray, List.set_cons_zero, List.set_cons_succ]
          generalize w7.setCells b4 0 (il 16 (d16 (hm x))) = w8 at *
          have hGp := HG.out.grown hX.gw
          have hI2 := hI.half he
          have hm2 := Hid.of (hX.meas (le_S hI2.up) (le_S hI2.vp))
          have hh := Hid.of (And.intro hX (And.intro hI2 (And.intro hI.u1 hI.v1)))
          clear hX hI hI2 hGp
          go_wp2
          refine ⟨⟨_, _, _, _, hh.out.1, hh.out.2.1⟩, ?_⟩
          rw [hm2.out, hme.out]
          have := hh.out.2.2
          omega
        · have hxa := cell_i hX.ru (j := 0) (by decide)
          have hod := d16_odd u
          have hdx := d16_in u 16 0 (by decide)
          generalize d16 u 0 = d at hxa hod hdx
          refine wp_plain [.imm (.pointer (some ⟨b2, 0, none⟩)), .val (.int .i64 d), .imm (.int .i64 (d % 2)), .imm (.bool false), .imm (.bool false)] (by kernel_rfl) (fun β => ?_) (fun β w4 hD => ?_)
          · refine Obs.cons (Ob.imm rfl (fun w => exec_idxS 0 (by decide) rfl (by kernel_rfl) (by kernel_rfl))) ?_
            refine Obs.cons (Ob.load1 b2 0 rfl rfl (by kernel_rfl) (block_lt_of_cell hxa) hxa (fun w h => run_loadI w h)) ?_
            refine Obs.cons (Ob.imm rfl (fun w => exec_remZ d 2 _ (by decide) (by omega) rfl (by kernel_rfl) (by kernel_rfl) rfl)) ?_
            refine Obs.cons (Ob.imm rfl (fun w => exec_eqlI rfl (d % 2) 0 (by kernel_rfl) (by kernel_rfl) false (decide_eq_false (by omega)))) ?_
            refine Obs.cons (Ob.imm rfl (fun w => by kernel_rfl)) ?_
            exact Obs.nil
          replace hX := hX.grown hD.gr
          replace hGp := hGp.grown hD.gr
          clear hD
          clear hxa hod hdx
          simp only [finAct, putAll, valsFrom, Plan.value, Act.put, List.setIfInBounds_toArray, List.set_cons_zero, List.set_cons_succ]
          repeat ((fail_if_success (with_reducible show Code.wp _ (Code.region _ _ _) _ _ _)); go_step)
          by_cases hf : v % 2 = 0
          · have hxa := cell_i hX.rv (j := 0) (by decide)
            have hod := d16_odd v
            have hdx := d16_in v 16 0 (by decide)
            generalize d16 v 0 = d at hxa hod hdx
            refine wp_plain [.imm (.pointer (some ⟨b3, 0, none⟩)), .val (.int .i64 d), .imm (.int .i64 (d % 2)), .imm (.bool true), .imm (.bool true)] (by kernel_rfl) (fun β => ?_) (fun β w5 hD => ?_)
            · refine Obs.cons (Ob.imm rfl (fun w => exec_idxS 0 (by decide) rfl (by kernel_rfl) (by kernel_rfl))) ?_
              refine Obs.cons (Ob.load1 b3 0 rfl rfl (by kernel_rfl) (block_lt_of_cell hxa) hxa (fun w h => run_loadI w h)) ?_
              refine Obs.cons (Ob.imm rfl (fun w => exec_remZ d 2 _ (by decide) (by omega) rfl (by kernel_rfl) (by kernel_rfl) rfl)) ?_
              refine Obs.cons (Ob.imm rfl (fun w => exec_eqlI rfl (d % 2) 0 (by kernel_rfl) (by kernel_rfl) true (decide_eq_true (by omega)))) ?_
              refine Obs.cons (Ob.imm rfl (fun w => by kernel_rfl)) ?_
              exact Obs.nil
            replace hX := hX.grown hD.gr
            replace hGp := hGp.grown hD.gr
            clear hD
            clear hxa hod hdx
            simp only [finAct, putAll, valsFrom, Plan.value, Act.put, List.setIfInBounds_toArray, List.set_cons_zero, List.set_cons_succ]
            repeat ((fail_if_success (with_reducible show Code.wp _ (Code.region _ _ _) _ _ _)); go_step)
            refine wp_plain_fin [.val (sn v), .val (sn (v / 2)), .fin] b3 0 (fun _ => il 16 (d16 (v / 2))) (by kernel_rfl) (fun β => ?_) (fun β w6 hD => ?_)
            · refine Obs.cons (Ob.load b3 0 (il 16 (d16 v)) rfl rfl (by kernel_rfl) hX.rv Tryd.underlying45 rfl (by rw [il_length]; exact infoS)) ?_
              refine Obs.cons (Ob.call 93 #[sn v] rfl (fun w => by kernel_rfl) (fun w hg => half_r v hv w)) ?_
              refine Obs.cons (Ob.fin rfl (by rw [il_length]; exact hX.tv) rfl (by kernel_rfl) (by kernel_rfl) (by rw [il_length]; exact infoS) (il_one _ _)) ?_
              exact Obs.nil
            replace hX := (hX.grown hD.gr).putV (v / 2)
            clear hD hGp
            simp only [finAct, putAll, valsFrom, Plan.value, Act.put, List.setIfInBounds_toArray, List.set_cons_zero, List.set_cons_succ]
            generalize w6.setCells b3 0 (il 16 (d16 (v / 2))) = w7 at *
            have hGp := HG.out.grown hX.gw
            repeat ((fail_if_success (with_reducible show Code.wp _ (Code.region _ _ _) _ _ _)); go_step)
            refine wp_plain_fin [.val (sn y), .val (sn (hm y)), .fin] b5 0 (fun _ => il 16 (d16 (hm y))) (by kernel_rfl) (fun β => ?_) (fun β w8 hD => ?_)
            · refine Obs.cons (Ob.load b5 0 (il 16 (d16 y)) rfl rfl (by kernel_rfl) hX.ry Tryd.underlying45 rfl (by rw [il_length]; exact infoS)) ?_
              refine Obs.cons (Ob.call 94 #[sn y] rfl (fun w => by kernel_rfl) (fun w hg => halfMod_r y hI.yp w (hGp.grown hg))) ?_
              refine Obs.cons (Ob.fin rfl (by rw [il_length]; exact hX.ty) rfl (by kernel_rfl) (by kernel_rfl) (by rw [il_length]; exact infoS) (il_one _ _)) ?_
              exact Obs.nil
            replace hX := (hX.grown hD.gr).putY (hm y)
            clear hD hGp
            simp only [finAct, putAll, valsFrom, Plan.value, Act.put, List.setIfInBounds_toArray, List.set_cons_zero, List.set_cons_succ]
            generalize w8.setCells b5 0 (il 16 (d16 (hm y))) = w9 at *
            have hGp := HG.out.grown hX.gw
            have hI2 := (hI.symm.half hf).symm
            have hm2 := Hid.of (hX.meas (le_S hI2.up) (le_S hI2.vp))
            have hh := Hid.of (And.intro hX (And.intro hI2 (And.intro hI.u1 hI.v1)))
            clear hX hI hI2 hGp
            go_wp2
            refine ⟨⟨_, _, _, _, hh.out.1, hh.out.2.1⟩, ?_⟩
            rw [hm2.out, hme.out]
            have := hh.out.2.2
            omega
          · have hxa := cell_i hX.rv (j := 0) (by decide)
            have hod := d16_odd v
            have hdx := d16_in v 16 0 (by decide)
            generalize d16 v 0 = d at hxa hod hdx
            refine wp_plain [.imm (.pointer (some ⟨b3, 0, none⟩)), .val (.int .i64 d), .imm (.int .i64 (d % 2)), .imm (.bool false), .imm (.bool false)] (by kernel_rfl) (fun β => ?_) (fun β w5 hD => ?_)
            · refine Obs.cons (Ob.imm rfl (fun w => exec_idxS 0 (by decide) rfl (by kernel_rfl) (by kernel_rfl))) ?_
              refine Obs.cons (Ob.load1 b3 0 rfl rfl (by kernel_rfl) (block_lt_of_cell hxa) hxa (fun w h => run_loadI w h)) ?_
              refine Obs.cons (Ob.imm rfl (fun w => exec_remZ d 2 _ (by decide) (by omega) rfl (by kernel_rfl) (by kernel_rfl) rfl)) ?_
              refine Obs.cons (Ob.imm rfl (fun w => exec_eqlI rfl (d % 2) 0 (by kernel_rfl) (by kernel_rfl) false (decide_eq_false (by omega)))) ?_
              refine Obs.cons (Ob.imm rfl (fun w => by kernel_rfl)) ?_
              exact Obs.nil
            replace hX := hX.grown hD.gr
            replace hGp := hGp.grown hD.gr
            clear hD
            clear hxa hod hdx
            simp only [finAct, putAll, valsFrom, Plan.value, Act.put, List.setIfInBounds_toArray, List.set_cons_zero, List.set_cons_succ]
            repeat ((fail_if_success (with_reducible show Code.wp _ (Code.region _ _ _) _ _ _)); go_step)
            by_cases hb : u < v
            · refine wp_plain [.val (sn u), .val (sn v), .val (.bool true), .imm (.bool true)] (by kernel_rfl) (fun β => ?_) (fun β w6 hD => ?_)
              · refine Obs.cons (Ob.load b2 0 (il 16 (d16 u)) rfl rfl (by kernel_rfl) hX.ru Tryd.underlying45 rfl (by rw [il_length]; exact infoS)) ?_
                refine Obs.cons (Ob.load b3 0 (il 16 (d16 v)) rfl rfl (by kernel_rfl) hX.rv Tryd.underlying45 rfl (by rw [il_length]; exact infoS)) ?_
                refine Obs.cons (Ob.call 95 #[sn u, sn v] rfl (fun w => by kernel_rfl) (fun w _ => Below_b u v hu hv true (decide_eq_true hb) w)) ?_
                refine Obs.cons (Ob.imm rfl (fun w => by kernel_rfl)) ?_
                exact Obs.nil
              replace hX := hX.grown hD.gr
              replace hGp := hGp.grown hD.gr
              clear hD
              simp only [finAct, putAll, valsFrom, Plan.value, Act.put, List.setIfInBounds_toArray, List.set_cons_zero, List.set_cons_succ]
              repeat ((fail_if_success (with_reducible show Code.wp _ (Code.region _ _ _) _ _ _)); go_step)
              refine wp_plain [.imm (.bool true)] (by kernel_rfl) (fun β => ?_) (fun β w7 hD => ?_)
              · refine Obs.cons (Ob.imm rfl (fun w => by kernel_rfl)) ?_
                exact Obs.nil
              replace hX := hX.grown hD.gr
              replace hGp := hGp.grown hD.gr
              clear hD
              simp only [finAct, putAll, valsFrom, Plan.value, Act.put, List.setIfInBounds_toArray, List.set_cons_zero, List.set_cons_succ]
              repeat ((fail_if_success (with_reducible show Code.wp _ (Code.region _ _ _) _ _ _)); go_step)
              refine wp_plain_fin [.val (sn v), .val (sn u), .val (sn (v - u)), .fin] b3 0 (fun _ => il 16 (d16 (v - u))) (by kernel_rfl) (fun β => ?_) (fun β w8 hD => ?_)
              · refine Obs.cons (Ob.load b3 0 (il 16 (d16 v)) rfl rfl (by kernel_rfl) hX.rv Tryd.underlying45 rfl (by rw [il_length]; exact infoS)) ?_
                refine Obs.cons (Ob.load b2 0 (il 16 (d16 u)) rfl rfl (by kernel_rfl) hX.ru Tryd.underlying45 rfl (by rw [il_length]; exact infoS)) ?_
                refine Obs.cons (Ob.call 90 #[sn v, sn u] rfl (fun w => by kernel_rfl) (fun w hg => less_r v u hv (by omega) w)) ?_
                refine Obs.cons (Ob.fin rfl (by rw [il_length]; exact hX.tv) rfl (by kernel_rfl) (by kernel_rfl) (by rw [il_length]; exact infoS) (il_one _ _)) ?_
                exact Obs.nil
              replace hX := (hX.grown hD.gr).putV (v - u)
              clear hD hGp
              simp only [finAct, putAll, valsFrom, Plan.value, Act.put, List.setIfInBounds_toArray, List.set_cons_zero, List.set_cons_succ]
              generalize w8.setCells b3 0 (il 16 (d16 (v - u))) = w9 at *
              have hGp := HG.out.grown hX.gw
              repeat ((fail_if_success (with_reducible show Code.wp _ (Code.region _ _ _) _ _ _)); go_step)
              refine wp_plain_fin [.val (sn y), .val (sn x), .val (sn (sb y x)), .fin] b5 0 (fun _ => il 16 (d16 (sb y x))) (by kernel_rfl) (fun β => ?_) (fun β w10 hD => ?_)
              · refine Obs.cons (Ob.load b5 0 (il 16 (d16 y)) rfl rfl (by kernel_rfl) hX.ry Tryd.underlying45 rfl (by rw [il_length]; exact infoS)) ?_
                refine Obs.cons (Ob.load b4 0 (il 16 (d16 x)) rfl rfl (by kernel_rfl) hX.rx Tryd.underlying45 rfl (by rw [il_length]; exact infoS)) ?_
                refine Obs.cons (Ob.call 66 #[sn y, sn x] rfl (fun w => by kernel_rfl) (fun w hg => Minus_p y x hI.yp hx w (hGp.grown hg))) ?_
                refine Obs.cons (Ob.fin rfl (by rw [il_length]; exact hX.ty) rfl (by kernel_rfl) (by kernel_rfl) (by rw [il_length]; exact infoS) (il_one _ _)) ?_
                exact Obs.nil
              replace hX := (hX.grown hD.gr).putY (sb y x)
              clear hD hGp
              simp only [finAct, putAll, valsFrom, Plan.value, Act.put, List.setIfInBounds_toArray, List.set_cons_zero, List.set_cons_succ]
              generalize w10.setCells b5 0 (il 16 (d16 (sb y x))) = w11 at *
              have hGp := HG.out.grown hX.gw
              have hI2 := (hI.symm.less hb).symm
              have hm2 := Hid.of (hX.meas (le_S hI2.up) (le_S hI2.vp))
              have hh := Hid.of (And.intro hX (And.intro hI2 (And.intro hI.u1 hI.v1)))
              clear hX hI hI2 hGp
              go_wp2
              refine ⟨⟨_, _, _, _, hh.out.1, hh.out.2.1⟩, ?_⟩
              rw [hm2.out, hme.out]
              have := hh.out.2.2
              omega
            · refine wp_plain [.val (sn u), .val (sn v), .val (.bool false), .imm (.bool false)] (by kernel_rfl) (fun β => ?_) (fun β w6 hD => ?_)
              · refine Obs.cons (Ob.load b2 0 (il 16 (d16 u)) rfl rfl (by kernel_rfl) hX.ru Tryd.underlying45 rfl (by rw [il_length]; exact infoS)) ?_
                refine Obs.cons (Ob.load b3 0 (il 16 (d16 v)) rfl rfl (by kernel_rfl) hX.rv Tryd.underlying45 rfl (by rw [il_length]; exact infoS)) ?_
                refine Obs.cons (Ob.call 95 #[sn u, sn v] rfl (fun w => by kernel_rfl) (fun w _ => Below_b u v hu hv false (decide_eq_false hb) w)) ?_
                refine Obs.cons (Ob.imm rfl (fun w => by kernel_rfl)) ?_
                exact Obs.nil
              replace hX := hX.grown hD.gr
              replace hGp := hGp.grown hD.gr
              clear hD
              simp only [finAct, putAll, valsFrom, Plan.value, Act.put, List.setIfInBounds_toArray, List.set_cons_zero, List.set_cons_succ]
              repeat ((fail_if_success (with_reducible show Code.wp _ (Code.region _ _ _) _ _ _)); go_step)
              refine wp_plain [.imm (.bool false)] (by kernel_rfl) (fun β => ?_) (fun β w7 hD => ?_)
              · refine Obs.cons (Ob.imm rfl (fun w => by kernel_rfl)) ?_
                exact Obs.nil
              replace hX := hX.grown hD.gr
              replace hGp := hGp.grown hD.gr
              clear hD
              simp only [finAct, putAll, valsFrom, Plan.value, Act.put, List.setIfInBounds_toArray, List.set_cons_zero, List.set_cons_succ]
              repeat ((fail_if_success (with_reducible show Code.wp _ (Code.region _ _ _) _ _ _)); go_step)
              refine wp_plain_fin [.val (sn u), .val (sn v), .val (sn (u - v)), .fin] b2 0 (fun _ => il 16 (d16 (u - v))) (by kernel_rfl) (fun β => ?_) (fun β w8 hD => ?_)
              · refine Obs.cons (Ob.load b2 0 (il 16 (d16 u)) rfl rfl (by kernel_rfl) hX.ru Tryd.underlying45 rfl (by rw [il_length]; exact infoS)) ?_
                refine Obs.cons (Ob.load b3 0 (il 16 (d16 v)) rfl rfl (by kernel_rfl) hX.rv Tryd.underlying45 rfl (by rw [il_length]; exact infoS)) ?_
                refine Obs.cons (Ob.call 90 #[sn u, sn v] rfl (fun w => by kernel_rfl) (fun w hg => less_r u v hu (by omega) w)) ?_
                refine Obs.cons (Ob.fin rfl (by rw [il_length]; exact hX.tu) rfl (by kernel_rfl) (by kernel_rfl) (by rw [il_length]; exact infoS) (il_one _ _)) ?_
                exact Obs.nil
              replace hX := (hX.grown hD.gr).putU (u - v)
              clear hD hGp
              simp only [finAct, putAll, valsFrom, Plan.value, Act.put, List.setIfInBounds_toArray, List.set_cons_zero, List.set_cons_succ]
              generalize w8.setCells b2 0 (il 16 (d16 (u - v))) = w9 at *
              have hGp := HG.out.grown hX.gw
              repeat ((fail_if_success (with_reducible show Code.wp _ (Code.region _ _ _) _ _ _)); go_step)
              refine wp_plain_fin [.val (sn x), .val (sn y), .val (sn (sb x y)), .fin] b4 0 (fun _ => il 16 (d16 (sb x y))) (by kernel_rfl) (fun β => ?_) (fun β w10 hD => ?_)
              · refine Obs.cons (Ob.load b4 0 (il 16 (d16 x)) rfl rfl (by kernel_rfl) hX.rx Tryd.underlying45 rfl (by rw [il_length]; exact infoS)) ?_
                refine Obs.cons (Ob.load b5 0 (il 16 (d16 y)) rfl rfl (by kernel_rfl) hX.ry Tryd.underlying45 rfl (by rw [il_length]; exact infoS)) ?_
                refine Obs.cons (Ob.call 66 #[sn x, sn y] rfl (fun w => by kernel_rfl) (fun w hg => Minus_p x y hI.xp hy w (hGp.grown hg))) ?_
                refine Obs.cons (Ob.fin rfl (by rw [il_length]; exact hX.tx) rfl (by kernel_rfl) (by kernel_rfl) (by rw [il_length]; exact infoS) (il_one _ _)) ?_
                exact Obs.nil
              replace hX := (hX.grown hD.gr).putX (sb x y)
              clear hD hGp
              simp only [finAct, putAll, valsFrom, Plan.value, Act.put, List.setIfInBounds_toArray, List.set_cons_zero, List.set_cons_succ]
              generalize w10.setCells b4 0 (il 16 (d16 (sb x y))) = w11 at *
              have hGp := HG.out.grown hX.gw
              have hI2 := hI.less (by have := hI.ne h1; omega)
              have hm2 := Hid.of (hX.meas (le_S hI2.up) (le_S hI2.vp))
              have hh := Hid.of (And.intro hX (And.intro hI2 (And.intro hI.u1 hI.v1)))
              clear hX hI hI2 hGp
              go_wp2
              refine ⟨⟨_, _, _, _, hh.out.1, hh.out.2.1⟩, ?_⟩
              rw [hm2.out, hme.out]
              have := hh.out.2.2
              omega

theorem Inverse_r (a : Nat) (ha : a < S256) (w : World) (hGl0 : Gp w) : Calls Tryd.prog 69 #[sn a] w fun e w' => e = .returned (sn (inv a)) ∧ Grown w w' := by
  by_cases h0 : a % p = 0
  · have := Inverse_0 a ha h0 w hGl0
    rw [h0] at this
    rw [inv_of_zero h0]
    exact this
  · exact Inverse_1 a ha h0 w hGl0
end Go.Proofs.YtkegcilcapnpdaaDoor

namespace Go.Proofs.YtkegcilcapnpdaaDoor
open Go.RowKit Go.Shelf FieldNum

theorem inv_S (a : Nat) : inv a < S256 := mod_lt256 _
set_option maxRecDepth 100000 in
set_option maxHeartbeats 4000000 in
theorem PowR_raw (a e : Nat) (ha : a < S256) (he : e < S256) (w : World) (hGl0 : Gp w) : Calls Tryd.prog 29 #[bv (a), bv (e)] w fun ex w' => ex = .returned (bv ((a % p) ^ e % p)) ∧ Grown w w' := by
  have hW := Grown.refl w
  have hGl := hGl0
  go_enter Tryd.func29, Tryd.ntmps29
  repeat ((fail_if_success (with_reducible show Code.wp _ (Code.region _ _ _) _ _ _)); go_step)
  refine wp_plain [.box 23 (bl (a)), .box 23 (bl (e)), .new 23 32] (by kernel_rfl) (fun β => ?_) (fun β w1 hD => ?_)
  · refine Obs.cons (Ob.box rfl rfl (by kernel_rfl)) ?_
    refine Obs.cons (Ob.box rfl rfl (by kernel_rfl)) ?_
    refine Obs.cons (Ob.new _ rfl rfl zero32.1 (by simp [bl_length])) ?_
    exact Obs.nil
  obtain ⟨hf_b0, hr_b0⟩ := hD.bx 0 _ _ rfl
  replace hf_b0 := Nat.le_trans hW.2.2 hf_b0
  obtain ⟨hf_b1, hr_b1⟩ := hD.bx 1 _ _ rfl
  replace hf_b1 := Nat.le_trans hW.2.2 hf_b1
  obtain ⟨hf_b2, ht_b2⟩ := hD.nw 2 _ _ rfl
  replace hf_b2 := Nat.le_trans hW.2.2 hf_b2
  replace hW := grown_trans hW hD.gr
  clear hD
  simp only [finAct, putAll, valsFrom, Plan.value, Act.put, List.setIfInBounds_toArray, List.set_cons_zero, List.set_cons_succ]
  replace hGl := hGl0.grown hW
  generalize β 0 = b0 at *
  generalize β (0 + 1) = b1 at *
  generalize β (0 + 1 + 1) = b2 at *
  repeat ((fail_if_success (with_reducible show Code.wp _ (Code.region _ _ _) _ _ _)); go_step)
  refine wp_plain [.val (bv (a)), .val (sn ((a) % p)), .new 45 16, .put 2 2 (fun _ => il 16 (d16 ((a) % p)))] (by kernel_rfl) (fun β => ?_) (fun β w2 hD => ?_)
  · refine Obs.cons (Ob.load (b0) 0 (bl (a)) rfl rfl (by kernel_rfl) hr_b0 Tryd.underlying23 rfl (by rw [bl_length]; exact info32)) ?_
    refine Obs.cons (Ob.call 62 #[bv (a)] rfl (fun w => by kernel_rfl) (fun w hg => From_r (a) ha w (hGl.grown hg))) ?_
    refine Obs.cons (Ob.new _ rfl rfl zeroS (by simp [il_length])) ?_
    refine Obs.cons (Ob.put 45 rfl rfl rfl (by kernel_rfl) (by kernel_rfl) (by rw [il_length]; exact infoS) (il_one _ _)) ?_
    exact Obs.nil
  replace hr_b0 := rangeAt_grown hr_b0 hD.gr
  replace hr_b1 := rangeAt_grown hr_b1 hD.gr
  replace ht_b2 := there_grown ht_b2 hD.gr
  obtain ⟨hf_b3, ht_b3⟩ := hD.nw 2 _ _ rfl
  have hr_b3 : w2.rangeAt (β 2) 0 (il 16 (d16 ((a) % p))) := hD.rg 3 2 2 (fun _ => il 16 (d16 ((a) % p))) rfl
  replace hf_b3 := Nat.le_trans hW.2.2 hf_b3
  replace hW := grown_trans hW hD.gr
  clear hD
  simp only [finAct, putAll, valsFrom, Plan.value, Act.put, List.setIfInBounds_toArray, List.set_cons_zero, List.set_cons_succ]
  replace hGl := hGl0.grown hW
  generalize β (0 + 1 + 1) = b3 at *
  repeat ((fail_if_success (with_reducible show Code.wp _ (Code.region _ _ _) _ _ _)); go_step)
  refine wp_plain [.val (sn ((a) % p)), .val (bv (e)), .val (sn (((a) % p) ^ (e) % p)), .new 45 16, .put 3 3 (fun _ => il 16 (d16 (((a) % p) ^ (e) % p)))] (by kernel_rfl) (fun β => ?_) (fun β w3 hD => ?_)
  · refine Obs.cons (Ob.load (b3) 0 (il 16 (d16 ((a) % p))) rfl rfl (by kernel_rfl) hr_b3 Tryd.underlying45 rfl (by rw [il_length]; exact infoS)) ?_
    refine Obs.cons (Ob.load (b1) 0 (bl (e)) rfl rfl (by kernel_rfl) hr_b1 Tryd.underlying23 rfl (by rw [bl_length]; exact info32)) ?_
    refine Obs.cons (Ob.call 68 #[sn ((a) % p), bv (e)] rfl (fun w => by kernel_rfl) (fun w hg => Power_r ((a) % p) (e) (mod_S _) he w (hGl.grown hg))) ?_
    refine Obs.cons (Ob.new _ rfl rfl zeroS (by simp [il_length])) ?_
    refine Obs.cons (Ob.put 45 rfl rfl rfl (by kernel_rfl) (by kernel_rfl) (by rw [il_length]; exact infoS) (il_one _ _)) ?_
    exact Obs.nil
  replace hr_b0 := rangeAt_grown hr_b0 hD.gr
  replace hr_b1 := rangeAt_grown hr_b1 hD.gr
  replace hr_b3 := rangeAt_grown hr_b3 hD.gr
  replace ht_b2 := there_grown ht_b2 hD.gr
  replace ht_b3 := there_grown ht_b3 hD.gr
  obtain ⟨hf_b4, ht_b4⟩ := hD.nw 3 _ _ rfl
  have hr_b4 : w3.rangeAt (β 3) 0 (il 16 (d16 (((a) % p) ^ (e) % p))) := hD.rg 4 3 3 (fun _ => il 16 (d16 (((a) % p) ^ (e) % p))) rfl
  replace hf_b4 := Nat.le_trans hW.2.2 hf_b4
  replace hW := grown_trans hW hD.gr
  clear hD
  simp only [finAct, putAll, valsFrom, Plan.value, Act.put, List.setIfInBounds_toArray, List.set_cons_zero, List.set_cons_succ]
  replace hGl := hGl0.grown hW
  generalize β (0 + 1 + 1 + 1) = b4 at *
  repeat ((fail_if_success (with_reducible show Code.wp _ (Code.region _ _ _) _ _ _)); go_step)
  refine wp_plain_fin [.val (sn (((a) % p) ^ (e) % p)), .val (bv (((a) % p) ^ (e) % p)), .fin] (b2) 0 (fun _ => bl (((a) % p) ^ (e) % p)) (by kernel_rfl) (fun β => ?_) (fun β w4 hD => ?_)
  · refine Obs.cons (Ob.load (b4) 0 (il 16 (d16 (((a) % p) ^ (e) % p))) rfl rfl (by kernel_rfl) hr_b4 Tryd.underlying45 rfl (by rw [il_length]; exact infoS)) ?_
    refine Obs.cons (Ob.call 38 #[sn (((a) % p) ^ (e) % p)] rfl (fun w => by kernel_rfl) (fun w hg => Bytes_r (((a) % p) ^ (e) % p) w)) ?_
    refine Obs.cons (Ob.fin rfl (by rw [bl_length]; exact ht_b2) rfl (by kernel_rfl) (by kernel_rfl) (by rw [bl_length]; exact info32) (bl_one _)) ?_
    exact Obs.nil
  replace hr_b0 := rangeAt_grown hr_b0 hD.gr
  replace hr_b1 := rangeAt_grown hr_b1 hD.gr
  replace hr_b3 := rangeAt_grown hr_b3 hD.gr
  replace hr_b4 := rangeAt_grown hr_b4 hD.gr
  replace ht_b2 := there_grown ht_b2 hD.gr
  replace ht_b3 := there_grown ht_b3 hD.gr
  replace ht_b4 := there_grown ht_b4 hD.gr
  replace hW := grown_trans hW hD.gr
  clear hD
  simp only [finAct, putAll, valsFrom, Plan.value, Act.put, List.setIfInBounds_toArray, List.set_cons_zero, List.set_cons_succ]
  replace hGl := hGl0.grown hW
  have hs4 := World.rangeAt_setCells_same w4 (b2) 0 (bl (((a) % p) ^ (e) % p)) (by rw [bl_length]; exact ht_b2)
  replace hW := grown_setCells hf_b2 (bl (((a) % p) ^ (e) % p)) 0 hW
  generalize w4.setCells (b2) 0 (bl (((a) % p) ^ (e) % p)) = w4s at *
  repeat go_step
  refine bodyPost_ret (v := bv (((a) % p) ^ (e) % p)) (result_cells Tryd.results29 _ _ (b2) _ ?hp hs4 Tryd.underlying23 rfl (by rw [bl_length]; exact info32)) ?hd ?_
  case hp => rfl
  case hd => rfl
  exact ⟨rfl, hW⟩

set_option maxRecDepth 100000 in
set_option maxHeartbeats 4000000 in
theorem InvertR_raw (a : Nat) (ha : a < S256) (w : World) (hGl0 : Gp w) : Calls Tryd.prog 30 #[bv (a)] w fun e w' => e = .returned (bv (inv (a % p))) ∧ Grown w w' := by
  have hW := Grown.refl w
  have hGl := hGl0
  go_enter Tryd.func30, Tryd.ntmps30
  repeat ((fail_if_success (with_reducible show Code.wp _ (Code.region _ _ _) _ _ _)); go_step)
  refine wp_plain [.box 23 (bl (a)), .new 23 32] (by kernel_rfl) (fun β => ?_) (fun β w1 hD => ?_)
  · refine Obs.cons (Ob.box rfl rfl (by kernel_rfl)) ?_
    refine Obs.cons (Ob.new _ rfl rfl zero32.1 (by simp [bl_length])) ?_
    exact Obs.nil
  obtain ⟨hf_b0, hr_b0⟩ := hD.bx 0 _ _ rfl
  replace hf_b0 := Nat.le_trans hW.2.2 hf_b0
  obtain ⟨hf_b1, ht_b1⟩ := hD.nw 1 _ _ rfl
  replace hf_b1 := Nat.le_trans hW.2.2 hf_b1
  replace hW := grown_trans hW hD.gr
  clear hD
  simp only [finAct, putAll, valsFrom, Plan.value, Act.put, List.setIfInBounds_toArray, List.set_cons_zero, List.set_cons_succ]
  replace hGl := hGl0.grown hW
  generalize β 0 = b0 at *
  generalize β (0 + 1) = b1 at *
  repeat ((fail_if_success (with_reducible show Code.wp _ (Code.region _ _ _) _ _ _)); go_step)
  refine wp_plain [.val (bv (a)), .val (sn ((a) % p)), .new 45 16, .put 2 2 (fun _ => il 16 (d16 ((a) % p)))] (by kernel_rfl) (fun β => ?_) (fun β w2 hD => ?_)
  · refine Obs.cons (Ob.load (b0) 0 (bl (a)) rfl rfl (by kernel_rfl) hr_b0 Tryd.underlying23 rfl (by rw [bl_length]; exact info32)) ?_
    refine Obs.cons (Ob.call 62 #[bv (a)] rfl (fun w => by kernel_rfl) (fun w hg => From_r (a) ha w (hGl.grown hg))) ?_
    refine Obs.cons (Ob.new _ rfl rfl zeroS (by simp [il_length])) ?_
    refine Obs.cons (Ob.put 45 rfl rfl rfl (by kernel_rfl) (by kernel_rfl) (by rw [il_length]; exact infoS) (il_one _ _)) ?_
    exact Obs.nil
  replace hr_b0 := rangeAt_grown hr_b0 hD.gr
  replace ht_b1 := there_grown ht_b1 hD.gr
  obtain ⟨hf_b2, ht_b2⟩ := hD.nw 2 _ _ rfl
  have hr_b2 : w2.rangeAt (β 2) 0 (il 16 (d16 ((a) % p))) := hD.rg 3 2 2 (fun _ => il 16 (d16 ((a) % p))) rfl
  replace hf_b2 := Nat.le_trans hW.2.2 hf_b2
  replace hW := grown_trans hW hD.gr
  clear hD
  simp only [finAct, putAll, valsFrom, Plan.value, Act.put, List.setIfInBounds_toArray, List.set_cons_zero, List.set_cons_succ]
  replace hGl := hGl0.grown hW
  generalize β (0 + 1 + 1) = b2 at *
  repeat ((fail_if_success (with_reducible show Code.wp _ (Code.region _ _ _) _ _ _)); go_step)
  refine wp_plain [.val (sn ((a) % p)), .val (sn (inv ((a) % p))), .new 45 16, .put 2 2 (fun _ => il 16 (d16 (inv ((a) % p))))] (by kernel_rfl) (fun β => ?_) (fun β w3 hD => ?_)
  · refine Obs.cons (Ob.load (b2) 0 (il 16 (d16 ((a) % p))) rfl rfl (by kernel_rfl) hr_b2 Tryd.underlying45 rfl (by rw [il_length]; exact infoS)) ?_
    refine Obs.cons (Ob.call 69 #[sn ((a) % p)] rfl (fun w => by kernel_rfl) (fun w hg => Inverse_r ((a) % p) (mod_S _) w (hGl.grown hg))) ?_
    refine Obs.cons (Ob.new _ rfl rfl zeroS (by simp [il_length])) ?_
    refine Obs.cons (Ob.put 45 rfl rfl rfl (by kernel_rfl) (by kernel_rfl) (by rw [il_length]; exact infoS) (il_one _ _)) ?_
    exact Obs.nil
  replace hr_b0 := rangeAt_grown hr_b0 hD.gr
  replace hr_b2 := rangeAt_grown hr_b2 hD.gr
  replace ht_b1 := there_grown ht_b1 hD.gr
  replace ht_b2 := there_grown ht_b2 hD.gr
  obtain ⟨hf_b3, ht_b3⟩ := hD.nw 2 _ _ rfl
  have hr_b3 : w3.rangeAt (β 2) 0 (il 16 (d16 (inv ((a) % p)))) := hD.rg 3 2 2 (fun _ => il 16 (d16 (inv ((a) % p)))) rfl
  replace hf_b3 := Nat.le_trans hW.2.2 hf_b3
  replace hW := grown_trans hW hD.gr
  clear hD
  simp only [finAct, putAll, valsFrom, Plan.value, Act.put, List.setIfInBounds_toArray, List.set_cons_zero, List.set_cons_succ]
  replace hGl := hGl0.grown hW
  generalize β (0 + 1 + 1) = b3 at *
  repeat ((fail_if_success (with_reducible show Code.wp _ (Code.region _ _ _) _ _ _)); go_step)
  refine wp_plain_fin [.val (sn (inv ((a) % p))), .val (bv (inv ((a) % p))), .fin] (b1) 0 (fun _ => bl (inv ((a) % p))) (by kernel_rfl) (fun β => ?_) (fun β w4 hD => ?_)
  · refine Obs.cons (Ob.load (b3) 0 (il 16 (d16 (inv ((a) % p)))) rfl rfl (by kernel_rfl) hr_b3 Tryd.underlying45 rfl (by rw [il_length]; exact infoS)) ?_
    refine Obs.cons (Ob.call 38 #[sn (inv ((a) % p))] rfl (fun w => by kernel_rfl) (fun w hg => Bytes_r (inv ((a) % p)) w)) ?_
    refine Obs.cons (Ob.fin rfl (by rw [bl_length]; exact ht_b1) rfl (by kernel_rfl) (by kernel_rfl) (by rw [bl_length]; exact info32) (bl_one _)) ?_
    exact Obs.nil
  replace hr_b0 := rangeAt_grown hr_b0 hD.gr
  replace hr_b2 := rangeAt_grown hr_b2 hD.gr
  replace hr_b3 := rangeAt_grown hr_b3 hD.gr
  replace ht_b1 := there_grown ht_b1 hD.gr
  replace ht_b2 := there_grown ht_b2 hD.gr
  replace ht_b3 := there_grown ht_b3 hD.gr
  replace hW := grown_trans hW hD.gr
  clear hD
  simp only [finAct, putAll, valsFrom, Plan.value, Act.put, List.setIfInBounds_toArray, List.set_cons_zero, List.set_cons_succ]
  replace hGl := hGl0.grown hW
  have hs4 := World.rangeAt_setCells_same w4 (b1) 0 (bl (inv ((a) % p))) (by rw [bl_length]; exact ht_b1)
  replace hW := grown_setCells hf_b1 (bl (inv ((a) % p))) 0 hW
  generalize w4.setCells (b1) 0 (bl (inv ((a) % p))) = w4s at *
  repeat go_step
  refine bodyPost_ret (v := bv (inv ((a) % p))) (result_cells Tryd.results30 _ _ (b1) _ ?hp hs4 Tryd.underlying23 rfl (by rw [bl_length]; exact info32)) ?hd ?_
  case hp => rfl
  case hd => rfl
  exact ⟨rfl, hW⟩

theorem InvertR (a : Nat) (ha : a < S256) (w : World) (hGl0 : Gp w) : Calls Tryd.prog 30 #[bv a] w fun e w' => e = .returned (bv (inv a)) ∧ Grown w w' := by
  have := InvertR_raw a ha w hGl0
  rw [inv_mod] at this
  exact this
end Go.Proofs.YtkegcilcapnpdaaDoor
