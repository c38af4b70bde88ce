import Derived.Test.YtoimglbjepppmaaDoorZQw
namespace Go.Proofs.YtoimglbjepppmaaDoor
open Go.RowKit Go.Shelf FieldNum

theorem ne_of_freshP {w : World} {b c x y : Nat} (h : w.rangeAt b 0 (pcs x y)) (hf : w.heap.size ≤ c) : b ≠ c := ne_of_fresh (rangeAt_left h) hf
theorem exec_neqB {o : Oper} {ρ : Operand → Value} {x y : Operand} {t : TypeId} {w : World} (ho : o.op = .binOp .neq 4 x y t) (c : Bool) (hx : ρ x = .bool c) (hy : ρ y = .bool c) : (execOp ρ o).run Tryd.prog w = .ok (.value (.bool false)) w := by
  unfold execOp
  simp only [ho, hx, hy]
  simp [go_sem]
def encV (x y : Nat) : Nat := if isP x y then (if x % 2 = 1 then y + H else y) else 0
def ern (x y : Nat) : Int := if isP x y then 0 else 43
def ern2 (x y u v : Nat) : Int := if isP x y ∧ isP u v then 0 else 43
def nX (x y : Nat) : Nat := if isP x y then ng x else 0
def nY (x y : Nat) : Nat := if isP x y then y else 0
def a2X (x y u v : Nat) : Nat := if isP x y ∧ isP u v then aX x y u v else 0
def a2Y (x y u v : Nat) : Nat := if isP x y ∧ isP u v then aY x y u v else 0
def smA (x y : Nat) : Bool := if isP x y then smB x y else false
theorem encV_M (x y : Nat) (hy : y < M) : encV x y < M := by
  unfold encV
  split
  · rename_i h
    split
    · exact yH_lt h.2.1
    · exact hy
  · decide
theorem nX_M (x y : Nat) : nX x y < M := by
  unfold nX; split
  · exact fng_lt _
  · decide
theorem nY_M (x y : Nat) (hy : y < M) : nY x y < M := by
  unfold nY; split
  · exact hy
  · decide
theorem a2X_M (x y u v : Nat) : a2X x y u v < M := by
  unfold a2X; split
  · exact aX_M _ _ _ _
  · decide
theorem a2Y_M (x y u v : Nat) : a2Y x y u v < M := by
  unfold a2Y; split
  · exact aY_M _ _ _ _
  · decide
theorem odd_p {x y : Nat} (h : isP x y) : x % p % 2 = x % 2 := by rw [Nat.mod_eq_of_lt h.1]
def GP (w : World) : Prop := G2 w ∧ GR w
theorem GP.grown {w w' : World} (h : GP w) (hg : Grown w w') : GP w' := ⟨h.1.grown hg, h.2.grown hg⟩
theorem EncP (x y : Nat) (hx : x < M) (hy : y < M) (w : World) (hG : G2 w) : Calls Tryd.prog 33 #[pv x y] w fun e w' => e = .returned (.tuple #[bv (encV x y), .int .i64 (ern x y)]) ∧ Grown w w' := by
  unfold encV ern
  by_cases ho : isP x y
  · rw [if_pos ho, if_pos ho]
    by_cases he : x % 2 = 1
    · rw [if_pos he]; exact E_odd x y hx hy ho ((odd_p ho).trans he) w hG
    · rw [if_neg he]; exact E_even x y hx hy ho (fun h => he ((odd_p ho).symm.trans h)) w hG
  · rw [if_neg ho, if_neg ho]; exact E_off x y hx hy ho w hG
theorem EncR (x y : Nat) (hx : x < M) (hy : y < M) (w : World) (hG : GR w) : Calls Tryd.prog 39 #[pv x y] w fun e w' => e = .returned (.tuple #[bv (encV x y), .int .i64 (ern x y)]) ∧ Grown w w' := by
  unfold encV ern
  by_cases ho : isP x y
  · rw [if_pos ho, if_pos ho]
    by_cases he : x % 2 = 1
    · rw [if_pos he]; exact ER_odd x y hx hy ho he w hG
    · rw [if_neg he]; exact ER_even x y hx hy ho (by omega) w hG
  · rw [if_neg ho, if_neg ho]; exact ER_off x y hx hy ho w hG
theorem NegP (x y : Nat) (hx : x < M) (hy : y < M) (w : World) (hG : G2 w) : Calls Tryd.prog 40 #[pv x y] w fun e w' => e = .returned (.tuple #[pv (nX x y) (nY x y), .int .i64 (ern x y)]) ∧ Grown w w' := by
  unfold nX nY ern
  by_cases ho : isP x y
  · rw [if_pos ho, if_pos ho, if_pos ho]; exact Neg_1 x y hx hy ho w hG
  · rw [if_neg ho, if_neg ho, if_neg ho]; exact Neg_0 x y hx hy ho w hG
theorem NegRR (x y : Nat) (hx : x < M) (hy : y < M) (w : World) (hG : GR w) : Calls Tryd.prog 41 #[pv x y] w fun e w' => e = .returned (.tuple #[pv (nX x y) (nY x y), .int .i64 (ern x y)]) ∧ Grown w w' := by
  unfold nX nY ern
  by_cases ho : isP x y
  · rw [if_pos ho, if_pos ho, if_pos ho]; exact NegR_1 x y hx hy ho w hG
  · rw [if_neg ho, if_neg ho, if_neg ho]; exact NegR_0 x y hx hy ho w hG
theorem AddP (x y u v : Nat) (hx : x < M) (hy : y < M) (hu : u < M) (hv : v < M) (w : World) (hG : G2 w) : Calls Tryd.prog 46 #[pv x y, pv u v] w fun e w' => e = .returned (.tuple #[pv (a2X x y u v) (a2Y x y u v), .int .i64 (ern2 x y u v)]) ∧ Grown w w' := by
  unfold a2X a2Y ern2
  by_cases ho : isP x y
  · by_cases hq : isP u v
    · rw [if_pos ⟨ho, hq⟩, if_pos ⟨ho, hq⟩, if_pos ⟨ho, hq⟩]; exact Add_11 x y u v hx hy hu hv ho hq w hG
    · rw [if_neg (fun h => hq h.2), if_neg (fun h => hq h.2), if_neg (fun h => hq h.2)]; exact Add_10 x y u v hx hy hu hv ho hq w hG
  · rw [if_neg (fun h => ho h.1), if_neg (fun h => ho h.1), if_neg (fun h => ho h.1)]; exact Add_0 x y u v hx hy hu hv ho w hG
theorem AddRR (x y u v : Nat) (hx : x < M) (hy : y < M) (hu : u < M) (hv : v < M) (w : World) (hG : GR w) : Calls Tryd.prog 43 #[pv x y, pv u v] w fun e w' => e = .returned (.tuple #[pv (a2X x y u v) (a2Y x y u v), .int .i64 (ern2 x y u v)]) ∧ Grown w w' := by
  unfold a2X a2Y ern2
  by_cases ho : isP x y
  · by_cases hq : isP u v
    · rw [if_pos ⟨ho, hq⟩, if_pos ⟨ho, hq⟩, if_pos ⟨ho, hq⟩]; exact AddR_11 x y u v hx hy hu hv ho hq w hG
    · rw [if_neg (fun h => hq h.2), if_neg (fun h => hq h.2), if_neg (fun h => hq h.2)]; exact AddR_10 x y u v hx hy hu hv ho hq w hG
  · rw [if_neg (fun h => ho h.1), if_neg (fun h => ho h.1), if_neg (fun h => ho h.1)]; exact AddR_0 x y u v hx hy hu hv ho w hG
theorem AddS (x y u v : Nat) (hx : x < M) (hy : y < M) (hu : u < M) (hv : v < M) (w : World) (hG : G2 w) : Calls Tryd.prog 46 #[pv u v, pv x y] w fun e w' => e = .returned (.tuple #[pv (a2X x y u v) (a2Y x y u v), .int .i64 (ern2 x y u v)]) ∧ Grown w w' := by
  have h := AddP u v x y hu hv hx hy w hG
  have e : (isP u v ∧ isP x y) = (isP x y ∧ isP u v) := propext And.comm
  unfold a2X a2Y ern2 at *
  rw [aX_comm, aY_comm] at h
  simp only [e] at h
  exact h
theorem DblP (x y : Nat) (hx : x < M) (hy : y < M) (w : World) (hG : G2 w) : Calls Tryd.prog 42 #[pv x y] w fun e w' => e = .returned (.tuple #[pv (a2X x y x y) (a2Y x y x y), .int .i64 (ern2 x y x y)]) ∧ Grown w w' := by
  unfold a2X a2Y ern2
  by_cases ho : isP x y
  · rw [if_pos ⟨ho, ho⟩, if_pos ⟨ho, ho⟩, if_pos ⟨ho, ho⟩, ← dbl_aX ho.2.2, ← dbl_aY ho.2.2]; exact Double_1 x y hx hy ho w hG
  · rw [if_neg (fun h => ho h.1), if_neg (fun h => ho h.1), if_neg (fun h => ho h.1)]; exact Double_0 x y hx hy ho w hG
theorem SmP (x y : Nat) (hx : x < M) (hy : y < M) (w : World) (hG : G2 w) : Calls Tryd.prog 44 #[pv x y] w fun e w' => e = .returned (.tuple #[.bool (smA x y), .int .i64 (ern x y)]) ∧ Grown w w' := by
  unfold smA ern
  by_cases ho : isP x y
  · rw [if_pos ho, if_pos ho]; exact Small_1 x y hx hy ho w hG
  · rw [if_neg ho, if_neg ho]; exact Small_0 x y hx hy ho w hG
theorem SmR (x y : Nat) (hx : x < M) (hy : y < M) (w : World) (hG : GR w) : Calls Tryd.prog 45 #[pv x y] w fun e w' => e = .returned (.tuple #[.bool (smA x y), .int .i64 (ern x y)]) ∧ Grown w w' := by
  unfold smA ern
  by_cases ho : isP x y
  · rw [if_pos ho, if_pos ho]; exact SmallR_1 x y hx hy ho w hG
  · rw [if_neg ho, if_neg ho]; exact SmallR_0 x y hx hy ho w hG
set_option maxRecDepth 100000 in
set_option maxHeartbeats 2000000 in
theorem mine_r (x y : Nat) (w : World) : Calls Tryd.prog 37 #[pv x y] w fun e w' => e = .returned (pv x y) ∧ Grown w w' := by
  have hW := Grown.refl w
  go_enter Tryd.func37, Tryd.ntmps37
  repeat ((fail_if_success (with_reducible show Code.wp _ (Code.region _ _ _) _ _ _)); go_step)
  refine wp_plain [.box 39 (pcs (x) (y)), .new 37 64] (by kernel_rfl) (fun β => ?_) (fun β w1 hD => ?_)
  · refine Obs.cons (Ob.box rfl rfl (by kernel_rfl)) ?_
    refine Obs.cons (Ob.new _ rfl rfl zeroP (by simp [pcs_length])) ?_
    exact Obs.nil
  obtain ⟨hf_b0, hr_b0⟩ := hD.bx 0 _ _ rfl
  replace hf_b0 := Nat.le_trans hW.2.2 hf_b0
  obtain ⟨hf_b1, ht_b1⟩ := hD.nw 1 _ _ rfl
  replace hf_b1 := Nat.le_trans hW.2.2 hf_b1
  replace hW := grown_trans hW hD.gr
  clear hD
  simp only [finAct, putAll, valsFrom, Plan.value, Act.put, List.setIfInBounds_toArray, List.set_cons_zero, List.set_cons_succ]
  generalize β 0 = b0 at *
  generalize β (0 + 1) = b1 at *
  have hr_b0x : w1.rangeAt b0 0 (bl (x)) := rangeAt_left hr_b0
  have hr_b0y : w1.rangeAt b0 32 (bl (y)) := rangeAt_right 32 (bl_length _) hr_b0
  repeat ((fail_if_success (with_reducible show Code.wp _ (Code.region _ _ _) _ _ _)); go_step)
  refine wp_plain_fin [.imm (.pointer (some ⟨b0, 0, none⟩)), .val (bv (x)), .imm (.pointer (some ⟨b0, 32, none⟩)), .val (bv (y)), .imm (pv (x) (y)), .fin] (b1) 0 (fun _ => pcs (x) (y)) (by kernel_rfl) (fun β => ?_) (fun β w2 hD => ?_)
  · refine Obs.cons (Ob.imm rfl (fun w => by kernel_rfl)) ?_
    refine Obs.cons (Ob.load (b0) 0 (bl (x)) rfl rfl (by kernel_rfl) hr_b0x Tryd.underlying23 rfl (by rw [bl_length]; exact info32)) ?_
    refine Obs.cons (Ob.imm rfl (fun w => by kernel_rfl)) ?_
    refine Obs.cons (Ob.load (b0) 32 (bl (y)) rfl rfl (by kernel_rfl) hr_b0y Tryd.underlying23 rfl (by rw [bl_length]; exact info32)) ?_
    refine Obs.cons (Ob.imm rfl (fun w => exec_build rfl (by kernel_rfl) (build_pt _ _ w))) ?_
    refine Obs.cons (Ob.fin rfl (by rw [pcs_length]; exact ht_b1) rfl (by kernel_rfl) (by kernel_rfl) (by rw [pcs_length]; exact infoP) (pcs_one _ _)) ?_
    exact Obs.nil
  replace hr_b0 := rangeAt_grown hr_b0 hD.gr
  replace hr_b0x := rangeAt_grown hr_b0x hD.gr
  replace hr_b0y := rangeAt_grown hr_b0y hD.gr
  replace ht_b1 := there_grown ht_b1 hD.gr
  replace hW := grown_trans hW hD.gr
  clear hD
  simp only [finAct, putAll, valsFrom, Plan.value, Act.put, List.setIfInBounds_toArray, List.set_cons_zero, List.set_cons_succ]
  have hs2 := World.rangeAt_setCells_same w2 (b1) 0 (pcs (x) (y)) (by rw [pcs_length]; exact ht_b1)
  replace hW := grown_setCells hf_b1 (pcs (x) (y)) 0 hW
  generalize w2.setCells (b1) 0 (pcs (x) (y)) = w2s at *
  repeat go_step
  refine bodyPost_ret (v := pv (x) (y)) (result_cells Tryd.results37 _ _ (b1) _ ?hp hs2 Tryd.underlying37 rfl (by rw [pcs_length]; exact infoP)) ?hd ?_
  case hp => rfl
  case hd => rfl
  exact ⟨rfl, hW⟩

set_option maxRecDepth 100000 in
set_option maxHeartbeats 8000000 in
theorem PPairs (x y u v : Nat) (hx : x < M) (hy : y < M) (hu : u < M) (hv : v < M) (w : World) (hGl0 : GP w) : Calls Tryd.prog 8 #[pv x y, pv u v] w fun e w' => e = .returned (.bool true) ∧ Grown w w' := by
  have hW := Grown.refl w
  have hGl := hGl0
  go_enter Tryd.func8, Tryd.ntmps8
  repeat ((fail_if_success (with_reducible show Code.wp _ (Code.region _ _ _) _ _ _)); go_step)
  refine wp_plain [.box 39 (pcs (x) (y)), .box 39 (pcs (u) (v)), .imm (.bool false)] (by kernel_rfl) (fun β => ?_) (fun β w1 hD => ?_)
  · refine Obs.cons (Ob.box rfl rfl (by kernel_rfl)) ?_
    refine Obs.cons (Ob.box rfl rfl (by kernel_rfl)) ?_
    refine Obs.cons (Ob.imm rfl (fun w => by kernel_rfl)) ?_
    exact Obs.nil
  obtain ⟨hf_b0, hr_b0⟩ := hD.bx 0 _ _ rfl
  replace hf_b0 := Nat.le_trans hW.2.2 hf_b0
  obtain ⟨hf_b1, hr_b1⟩ := hD.bx 1 _ _ rfl
  replace hf_b1 := Nat.le_trans hW.2.2 hf_b1
  have hn_b0_b1 := hD.ap 0 1 _ _ rfl rfl rfl rfl (by decide)
  replace hW := grown_trans hW hD.gr
  clear hD
  simp only [finAct, putAll, valsFrom, Plan.value, Act.put, List.setIfInBounds_toArray, List.set_cons_zero, List.set_cons_succ]
  replace hGl := hGl0.grown hW
  generalize β 0 = b0 at *
  generalize β (0 + 1) = b1 at *
  have hr_b0x : w1.rangeAt b0 0 (bl (x)) := rangeAt_left hr_b0
  have hr_b0y : w1.rangeAt b0 32 (bl (y)) := rangeAt_right 32 (bl_length _) hr_b0
  have hr_b1x : w1.rangeAt b1 0 (bl (u)) := rangeAt_left hr_b1
  have hr_b1y : w1.rangeAt b1 32 (bl (v)) := rangeAt_right 32 (bl_length _) hr_b1
  repeat ((fail_if_success (with_reducible show Code.wp _ (Code.region _ _ _) _ _ _)); go_step)
  refine wp_plain [.val (pv (x) (y)), .val (pv (x) (y)), .new 37 64, .put 2 2 (fun _ => pcs (x) (y))] (by kernel_rfl) (fun β => ?_) (fun β w2 hD => ?_)
  · refine Obs.cons (Ob.load (b0) 0 (pcs (x) (y)) rfl rfl (by kernel_rfl) hr_b0 Tryd.underlying39 rfl (by rw [pcs_length]; exact infoQ)) ?_
    refine Obs.cons (Ob.call 37 #[pv (x) (y)] rfl (fun w => by kernel_rfl) (fun w hg => mine_r (x) (y) w)) ?_
    refine Obs.cons (Ob.new _ rfl rfl zeroP (by simp [pcs_length])) ?_
    refine Obs.cons (Ob.put 37 rfl rfl rfl (by kernel_rfl) (by kernel_rfl) (by rw [pcs_length]; exact infoP) (pcs_one _ _)) ?_
    exact Obs.nil
  have hn_b0_b2 := ne_of_freshP hr_b0 (hD.nw 2 _ _ rfl).1
  have hn_b1_b2 := ne_of_freshP hr_b1 (hD.nw 2 _ _ rfl).1
  replace hr_b0 := rangeAt_grown hr_b0 hD.gr
  replace hr_b0x := rangeAt_grown hr_b0x hD.gr
  replace hr_b0y := rangeAt_grown hr_b0y hD.gr
  replace hr_b1 := rangeAt_grown hr_b1 hD.gr
  replace hr_b1x := rangeAt_grown hr_b1x hD.gr
  replace hr_b1y := rangeAt_grown hr_b1y hD.gr
  obtain ⟨hf_b2, ht_b2⟩ := hD.nw 2 _ _ rfl
  have hr_b2 : w2.rangeAt (β 2) 0 (pcs (x) (y)) := hD.rg 3 2 2 (fun _ => pcs (x) (y)) rfl
  replace hf_b2 := Nat.le_trans hW.2.2 hf_b2
  replace hW := grown_trans hW hD.gr
  clear hD
  simp only [finAct, putAll, valsFrom, Plan.value, Act.put, List.setIfInBounds_toArray, List.set_cons_zero, List.set_cons_succ]
  replace hGl := hGl0.grown hW
  generalize β (0 + 1 + 1) = b2 at *
  have hr_b2x : w2.rangeAt b2 0 (bl (x)) := rangeAt_left hr_b2
  have hr_b2y : w2.rangeAt b2 32 (bl (y)) := rangeAt_right 32 (bl_length _) hr_b2
  repeat ((fail_if_success (with_reducible show Code.wp _ (Code.region _ _ _) _ _ _)); go_step)
  refine wp_plain [.val (pv (u) (v)), .val (pv (u) (v)), .new 37 64, .put 2 2 (fun _ => pcs (u) (v))] (by kernel_rfl) (fun β => ?_) (fun β w3 hD => ?_)
  · refine Obs.cons (Ob.load (b1) 0 (pcs (u) (v)) rfl rfl (by kernel_rfl) hr_b1 Tryd.underlying39 rfl (by rw [pcs_length]; exact infoQ)) ?_
    refine Obs.cons (Ob.call 37 #[pv (u) (v)] rfl (fun w => by kernel_rfl) (fun w hg => mine_r (u) (v) w)) ?_
    refine Obs.cons (Ob.new _ rfl rfl zeroP (by simp [pcs_length])) ?_
    refine Obs.cons (Ob.put 37 rfl rfl rfl (by kernel_rfl) (by kernel_rfl) (by rw [pcs_length]; exact infoP) (pcs_one _ _)) ?_
    exact Obs.nil
  have hn_b0_b3 := ne_of_freshP hr_b0 (hD.nw 2 _ _ rfl).1
  have hn_b1_b3 := ne_of_freshP hr_b1 (hD.nw 2 _ _ rfl).1
  have hn_b2_b3 := ne_of_freshP hr_b2 (hD.nw 2 _ _ rfl).1
  replace hr_b0 := rangeAt_grown hr_b0 hD.gr
  replace hr_b0x := rangeAt_grown hr_b0x hD.gr
  replace hr_b0y := rangeAt_grown hr_b0y hD.gr
  replace hr_b1 := rangeAt_grown hr_b1 hD.gr
  replace hr_b1x := rangeAt_grown hr_b1x hD.gr
  replace hr_b1y := rangeAt_grown hr_b1y hD.gr
  replace hr_b2 := rangeAt_grown hr_b2 hD.gr
  replace hr_b2x := rangeAt_grown hr_b2x hD.gr
  replace hr_b2y := rangeAt_grown hr_b2y hD.gr
  replace ht_b2 := there_grown ht_b2 hD.gr
  obtain ⟨hf_b3, ht_b3⟩ := hD.nw 2 _ _ rfl
  have hr_b3 : w3.rangeAt (β 2) 0 (pcs (u) (v)) := hD.rg 3 2 2 (fun _ => pcs (u) (v)) rfl
  replace hf_b3 := Nat.le_trans hW.2.2 hf_b3
  replace hW := grown_trans hW hD.gr
  clear hD
  simp only [finAct, putAll, valsFrom, Plan.value, Act.put, List.setIfInBounds_toArray, List.set_cons_zero, List.set_cons_succ]
  replace hGl := hGl0.grown hW
  generalize β (0 + 1 + 1) = b3 at *
  have hr_b3x : w3.rangeAt b3 0 (bl (u)) := rangeAt_left hr_b3
  have hr_b3y : w3.rangeAt b3 32 (bl (v)) := rangeAt_right 32 (bl_length _) hr_b3
  repeat ((fail_if_success (with_reducible show Code.wp _ (Code.region _ _ _) _ _ _)); go_step)
  replace hr_b0 := rangeAt_grown hr_b0 (gdrew w3)
  replace hr_b0x := rangeAt_grown hr_b0x (gdrew w3)
  replace hr_b0y := rangeAt_grown hr_b0y (gdrew w3)
  replace hr_b1 := rangeAt_grown hr_b1 (gdrew w3)
  replace hr_b1x := rangeAt_grown hr_b1x (gdrew w3)
  replace hr_b1y := rangeAt_grown hr_b1y (gdrew w3)
  replace hr_b2 := rangeAt_grown hr_b2 (gdrew w3)
  replace hr_b2x := rangeAt_grown hr_b2x (gdrew w3)
  replace hr_b2y := rangeAt_grown hr_b2y (gdrew w3)
  replace hr_b3 := rangeAt_grown hr_b3 (gdrew w3)
  replace hr_b3x := rangeAt_grown hr_b3x (gdrew w3)
  replace hr_b3y := rangeAt_grown hr_b3y (gdrew w3)
  replace ht_b2 := there_grown ht_b2 (gdrew w3)
  replace ht_b3 := there_grown ht_b3 (gdrew w3)
  replace hW := grown_trans hW (gdrew w3)
  replace hGl := hGl0.grown hW
  refine wp_loose [.val (pv (x) (y)), .val (.bool (decide (isP (x) (y)))), .val (pv (x) (y)), .val (.bool (decide (isP (x) (y)))), .imm (.bool false), .imm (.bool false), .val (pv (u) (v)), .val (.bool (decide (isP (u) (v)))), .val (pv (u) (v)), .val (.bool (decide (isP (u) (v)))), .imm (.bool false), .imm (.bool false)] (by kernel_rfl) (by kernel_rfl) (fun β => ?_) (fun β w4 hD => ?_)
  · refine Obs.cons (Ob.load (b2) 0 (pcs (x) (y)) rfl rfl (by kernel_rfl) hr_b2 Tryd.underlying37 rfl (by rw [pcs_length]; exact infoP)) ?_
    refine Obs.cons (Ob.call 34 #[pv (x) (y)] rfl (fun w => by kernel_rfl) (fun w hg => On_is (x) (y) hx hy _ rfl w (hGl.grown hg).1)) ?_
    refine Obs.cons (Ob.load (b0) 0 (pcs (x) (y)) rfl rfl (by kernel_rfl) hr_b0 Tryd.underlying39 rfl (by rw [pcs_length]; exact infoQ)) ?_
    refine Obs.cons (Ob.call 38 #[pv (x) (y)] rfl (fun w => by kernel_rfl) (fun w hg => OnR_is (x) (y) hx hy _ rfl w (hGl.grown hg).2)) ?_
    refine Obs.cons (Ob.imm rfl (fun w => exec_neqB rfl (decide (isP (x) (y))) (by kernel_rfl) (by kernel_rfl))) ?_
    refine Obs.cons (Ob.imm rfl (fun w => by kernel_rfl)) ?_
    refine Obs.cons (Ob.load (b3) 0 (pcs (u) (v)) (by kernel_rfl) rfl (by kernel_rfl) hr_b3 Tryd.underlying37 rfl (by rw [pcs_length]; exact infoP)) ?_
    refine Obs.cons (Ob.call 34 #[pv (u) (v)] (by kernel_rfl) (fun w => by kernel_rfl) (fun w hg => On_is (u) (v) hu hv _ rfl w (hGl.grown hg).1)) ?_
    refine Obs.cons (Ob.load (b1) 0 (pcs (u) (v)) (by kernel_rfl) rfl (by kernel_rfl) hr_b1 Tryd.underlying39 rfl (by rw [pcs_length]; exact infoQ)) ?_
    refine Obs.cons (Ob.call 38 #[pv (u) (v)] (by kernel_rfl) (fun w => by kernel_rfl) (fun w hg => OnR_is (u) (v) hu hv _ rfl w (hGl.grown hg).2)) ?_
    refine Obs.cons (Ob.imm (by kernel_rfl) (fun w => exec_neqB rfl (decide (isP (u) (v))) (by kernel_rfl) (by kernel_rfl))) ?_
    refine Obs.cons (Ob.imm rfl (fun w => by kernel_rfl)) ?_
    exact Obs.nil
  replace hr_b0 := rangeAt_grown hr_b0 hD.gr
  replace hr_b0x := rangeAt_grown hr_b0x hD.gr
  replace hr_b0y := rangeAt_grown hr_b0y hD.gr
  replace hr_b1 := rangeAt_grown hr_b1 hD.gr
  replace hr_b1x := rangeAt_grown hr_b1x hD.gr
  replace hr_b1y := rangeAt_grown hr_b1y hD.gr
  replace hr_b2 := rangeAt_grown hr_b2 hD.gr
  replace hr_b2x := rangeAt_grown hr_b2x hD.gr
  replace hr_b2y := rangeAt_grown hr_b2y hD.gr
  replace hr_b3 := rangeAt_grown hr_b3 hD.gr
  replace hr_b3x := rangeAt_grown hr_b3x hD.gr
  replace hr_b3y := rangeAt_grown hr_b3y hD.gr
  replace ht_b2 := there_grown ht_b2 hD.gr
  replace ht_b3 := there_grown ht_b3 hD.gr
  replace hW := grown_trans hW hD.gr
  clear hD
  simp only [finAct, putAll, valsFrom, Plan.value, Act.put, List.setIfInBounds_toArray, List.set_cons_zero, List.set_cons_succ]
  replace hGl := hGl0.grown hW
  repeat ((fail_if_success (with_reducible show Code.wp _ (Code.region _ _ _) _ _ _)); go_step)
  refine wp_plain [.val (pv (x) (y)), .val (.tuple #[bv (encV (x) (y)), .int .i64 (ern (x) (y))]), .imm (.tuple #[bv (encV (x) (y)), .int .i64 (ern (x) (y))]), .imm (bv (encV (x) (y))), .imm (.int .i64 (ern (x) (y))), .new 23 32, .put 5 5 (fun _ => bl (encV (x) (y))), .imm (.int .i64 (ern (x) (y)))] (by kernel_rfl) (fun β => ?_) (fun β w5 hD => ?_)
  · refine Obs.cons (Ob.load (b2) 0 (pcs (x) (y)) rfl rfl (by kernel_rfl) hr_b2 Tryd.underlying37 rfl (by rw [pcs_length]; exact infoP)) ?_
    refine Obs.cons (Ob.call 33 #[pv (x) (y)] rfl (fun w => by kernel_rfl) (fun w hg => EncP (x) (y) hx hy w (hGl.grown hg).1)) ?_
    refine Obs.cons (Ob.imm rfl (fun w => by kernel_rfl)) ?_
    refine Obs.cons (Ob.imm rfl (fun w => by kernel_rfl)) ?_
    refine Obs.cons (Ob.imm rfl (fun w => by kernel_rfl)) ?_
    refine Obs.cons (Ob.new _ rfl rfl zero32.1 (by simp [bl_length])) ?_
    refine Obs.cons (Ob.put 23 rfl rfl rfl (by kernel_rfl) (by kernel_rfl) (by rw [bl_length]; exact info32) (bl_one _)) ?_
    refine Obs.cons (Ob.imm rfl (fun w => by kernel_rfl)) ?_
    exact Obs.nil
  have hn_b0_b4 := ne_of_freshP hr_b0 (hD.nw 5 _ _ rfl).1
  have hn_b1_b4 := ne_of_freshP hr_b1 (hD.nw 5 _ _ rfl).1
  have hn_b2_b4 := ne_of_freshP hr_b2 (hD.nw 5 _ _ rfl).1
  have hn_b3_b4 := ne_of_freshP hr_b3 (hD.nw 5 _ _ rfl).1
  replace hr_b0 := rangeAt_grown hr_b0 hD.gr
  replace hr_b0x := rangeAt_grown hr_b0x hD.gr
  replace hr_b0y := rangeAt_grown hr_b0y hD.gr
  replace hr_b1 := rangeAt_grown hr_b1 hD.gr
  replace hr_b1x := rangeAt_grown hr_b1x hD.gr
  replace hr_b1y := rangeAt_grown hr_b1y hD.gr
  replace hr_b2 := rangeAt_grown hr_b2 hD.gr
  replace hr_b2x := rangeAt_grown hr_b2x hD.gr
  replace hr_b2y := rangeAt_grown hr_b2y hD.gr
  replace hr_b3 := rangeAt_grown hr_b3 hD.gr
  replace hr_b3x := rangeAt_grown hr_b3x hD.gr
  replace hr_b3y := rangeAt_grown hr_b3y hD.gr
  replace ht_b2 := there_grown ht_b2 hD.gr
  replace ht_b3 := there_grown ht_b3 hD.gr
  obtain ⟨hf_b4, ht_b4⟩ := hD.nw 5 _ _ rfl
  have hr_b4 : w5.rangeAt (β 5) 0 (bl (encV (x) (y))) := hD.rg 6 5 5 (fun _ => bl (encV (x) (y))) rfl
  replace hf_b4 := Nat.le_trans hW.2.2 hf_b4
  replace hW := grown_trans hW hD.gr
  clear hD
  simp only [finAct, putAll, valsFrom, Plan.value, Act.put, List.setIfInBounds_toArray, List.set_cons_zero, List.set_cons_succ]
  replace hGl := hGl0.grown hW
  generalize β (0 + 1 + 1 + 1 + 1 + 1) = b4 at *
  repeat ((fail_if_success (with_reducible show Code.wp _ (Code.region _ _ _) _ _ _)); go_step)
  refine wp_plain [.val (pv (x) (y)), .val (.tuple #[bv (encV (x) (y)), .int .i64 (ern (x) (y))]), .imm (.tuple #[bv (encV (x) (y)), .int .i64 (ern (x) (y))]), .imm (bv (encV (x) (y))), .imm (.int .i64 (ern (x) (y))), .new 23 32, .put 5 5 (fun _ => bl (encV (x) (y))), .imm (.int .i64 (ern (x) (y)))] (by kernel_rfl) (fun β => ?_) (fun β w6 hD => ?_)
  · refine Obs.cons (Ob.load (b0) 0 (pcs (x) (y)) rfl rfl (by kernel_rfl) hr_b0 Tryd.underlying39 rfl (by rw [pcs_length]; exact infoQ)) ?_
    refine Obs.cons (Ob.call 39 #[pv (x) (y)] rfl (fun w => by kernel_rfl) (fun w hg => EncR (x) (y) hx hy w (hGl.grown hg).2)) ?_
    refine Obs.cons (Ob.imm rfl (fun w => by kernel_rfl)) ?_
    refine Obs.cons (Ob.imm rfl (fun w => by kernel_rfl)) ?_
    refine Obs.cons (Ob.imm rfl (fun w => by kernel_rfl)) ?_
    refine Obs.cons (Ob.new _ rfl rfl zero32.1 (by simp [bl_length])) ?_
    refine Obs.cons (Ob.put 23 rfl rfl rfl (by kernel_rfl) (by kernel_rfl) (by rw [bl_length]; exact info32) (bl_one _)) ?_
    refine Obs.cons (Ob.imm rfl (fun w => by kernel_rfl)) ?_
    exact Obs.nil
  have hn_b0_b5 := ne_of_freshP hr_b0 (hD.nw 5 _ _ rfl).1
  have hn_b1_b5 := ne_of_freshP hr_b1 (hD.nw 5 _ _ rfl).1
  have hn_b2_b5 := ne_of_freshP hr_b2 (hD.nw 5 _ _ rfl).1
  have hn_b3_b5 := ne_of_freshP hr_b3 (hD.nw 5 _ _ rfl).1
  have hn_b4_b5 := ne_of_fresh hr_b4 (hD.nw 5 _ _ rfl).1
  replace hr_b0 := rangeAt_grown hr_b0 hD.gr
  replace hr_b0x := rangeAt_grown hr_b0x hD.gr
  replace hr_b0y := rangeAt_grown hr_b0y hD.gr
  replace hr_b1 := rangeAt_grown hr_b1 hD.gr
  replace hr_b1x := rangeAt_grown hr_b1x hD.gr
  replace hr_b1y := rangeAt_grown hr_b1y hD.gr
  replace hr_b2 := rangeAt_grown hr_b2 hD.gr
  replace hr_b2x := rangeAt_grown hr_b2x hD.gr
  replace hr_b2y := rangeAt_grown hr_b2y hD.gr
  replace hr_b3 := rangeAt_grown hr_b3 hD.gr
  replace hr_b3x := rangeAt_grown hr_b3x hD.gr
  replace hr_b3y := rangeAt_grown hr_b3y hD.gr
  replace hr_b4 := rangeAt_grown hr_b4 hD.gr
  replace ht_b2 := there_grown ht_b2 hD.gr
  replace ht_b3 := there_grown ht_b3 hD.gr
  replace ht_b4 := there_grown ht_b4 hD.gr
  obtain ⟨hf_b5, ht_b5⟩ := hD.nw 5 _ _ rfl
  have hr_b5 : w6.rangeAt (β 5) 0 (bl (encV (x) (y))) := hD.rg 6 5 5 (fun _ => bl (encV (x) (y))) rfl
  replace hf_b5 := Nat.le_trans hW.2.2 hf_b5
  replace hW := grown_trans hW hD.gr
  clear hD
  simp only [finAct, putAll, valsFrom, Plan.value, Act.put, List.setIfInBounds_toArray, List.set_cons_zero, List.set_cons_succ]
  replace hGl := hGl0.grown hW
  generalize β (0 + 1 + 1 + 1 + 1 + 1) = b5 at *
  repeat ((fail_if_success (with_reducible show Code.wp _ (Code.region _ _ _) _ _ _)); go_step)
  refine wp_plain [.val (bv (encV (x) (y))), .val (bv (encV (x) (y))), .imm (.bool false), .imm (.bool false), .imm (.int .i64 (ern (x) (y))), .val (.int .i64 (ern (x) (y))), .imm (.int .i64 (ern (x) (y))), .imm (.bool false), .imm (.bool false)] (by kernel_rfl) (fun β => ?_) (fun β w7 hD => ?_)
  · refine Obs.cons (Ob.load (b4) 0 (bl (encV (x) (y))) rfl rfl (by kernel_rfl) hr_b4 Tryd.underlying23 rfl (by rw [bl_length]; exact info32)) ?_
    refine Obs.cons (Ob.load (b5) 0 (bl (encV (x) (y))) rfl rfl (by kernel_rfl) hr_b5 Tryd.underlying23 rfl (by rw [bl_length]; exact info32)) ?_
    refine Obs.cons (Ob.imm rfl (fun w => exec_neq_same rfl (encV (x) (y)) (encV (x) (y)) (by kernel_rfl) (by kernel_rfl) (encV_M _ _ hy) (encV_M _ _ hy) (rfl) w)) ?_
    refine Obs.cons (Ob.imm rfl (fun w => by kernel_rfl)) ?_
    refine Obs.cons (Ob.imm (by kernel_rfl) (fun w => by kernel_rfl)) ?_
    refine Obs.cons (Ob.call 32 #[.int .i64 (ern (x) (y))] (by kernel_rfl) (fun w => by kernel_rfl) (fun w hg => num_is (ern (x) (y)) w)) ?_
    refine Obs.cons (Ob.imm (by kernel_rfl) (fun w => by kernel_rfl)) ?_
    refine Obs.cons (Ob.imm (by kernel_rfl) (fun w => exec_neqI rfl (ern (x) (y)) (ern (x) (y)) (by kernel_rfl) (by kernel_rfl) false (by simp))) ?_
    refine Obs.cons (Ob.imm rfl (fun w => by kernel_rfl)) ?_
    exact Obs.nil
  replace hr_b0 := rangeAt_grown hr_b0 hD.gr
  replace hr_b0x := rangeAt_grown hr_b0x hD.gr
  replace hr_b0y := rangeAt_grown hr_b0y hD.gr
  replace hr_b1 := rangeAt_grown hr_b1 hD.gr
  replace hr_b1x := rangeAt_grown hr_b1x hD.gr
  replace hr_b1y := rangeAt_grown hr_b1y hD.gr
  replace hr_b2 := rangeAt_grown hr_b2 hD.gr
  replace hr_b2x := rangeAt_grown hr_b2x hD.gr
  replace hr_b2y := rangeAt_grown hr_b2y hD.gr
  replace hr_b3 := rangeAt_grown hr_b3 hD.gr
  replace hr_b3x := rangeAt_grown hr_b3x hD.gr
  replace hr_b3y := rangeAt_grown hr_b3y hD.gr
  replace hr_b4 := rangeAt_grown hr_b4 hD.gr
  replace hr_b5 := rangeAt_grown hr_b5 hD.gr
  replace ht_b2 := there_grown ht_b2 hD.gr
  replace ht_b3 := there_grown ht_b3 hD.gr
  replace ht_b4 := there_grown ht_b4 hD.gr
  replace ht_b5 := there_grown ht_b5 hD.gr
  replace hW := grown_trans hW hD.gr
  clear hD
  simp only [finAct, putAll, valsFrom, Plan.value, Act.put, List.setIfInBounds_toArray, List.set_cons_zero, List.set_cons_succ]
  replace hGl := hGl0.grown hW
  repeat ((fail_if_success (with_reducible show Code.wp _ (Code.region _ _ _) _ _ _)); go_step)
  refine wp_plain [.val (pv (x) (y)), .val (.tuple #[pv (nX (x) (y)) (nY (x) (y)), .int .i64 (ern (x) (y))]), .imm (.tuple #[pv (nX (x) (y)) (nY (x) (y)), .int .i64 (ern (x) (y))]), .imm (pv (nX (x) (y)) (nY (x) (y))), .imm (.int .i64 (ern (x) (y))), .new 37 64, .put 5 5 (fun _ => pcs (nX (x) (y)) (nY (x) (y))), .imm (.int .i64 (ern (x) (y)))] (by kernel_rfl) (fun β => ?_) (fun β w8 hD => ?_)
  · refine Obs.cons (Ob.load (b2) 0 (pcs (x) (y)) rfl rfl (by kernel_rfl) hr_b2 Tryd.underlying37 rfl (by rw [pcs_length]; exact infoP)) ?_
    refine Obs.cons (Ob.call 40 #[pv (x) (y)] rfl (fun w => by kernel_rfl) (fun w hg => NegP (x) (y) hx hy w (hGl.grown hg).1)) ?_
    refine Obs.cons (Ob.imm rfl (fun w => by kernel_rfl)) ?_
    refine Obs.cons (Ob.imm rfl (fun w => by kernel_rfl)) ?_
    refine Obs.cons (Ob.imm rfl (fun w => by kernel_rfl)) ?_
    refine Obs.cons (Ob.new _ rfl rfl zeroP (by simp [pcs_length])) ?_
    refine Obs.cons (Ob.put 37 rfl rfl rfl (by kernel_rfl) (by kernel_rfl) (by rw [pcs_length]; exact infoP) (pcs_one _ _)) ?_
    refine Obs.cons (Ob.imm rfl (fun w => by kernel_rfl)) ?_
    exact Obs.nil
  have hn_b0_b6 := ne_of_freshP hr_b0 (hD.nw 5 _ _ rfl).1
  have hn_b1_b6 := ne_of_freshP hr_b1 (hD.nw 5 _ _ rfl).1
  have hn_b2_b6 := ne_of_freshP hr_b2 (hD.nw 5 _ _ rfl).1
  have hn_b3_b6 := ne_of_freshP hr_b3 (hD.nw 5 _ _ rfl).1
  have hn_b4_b6 := ne_of_fresh hr_b4 (hD.nw 5 _ _ rfl).1
  have hn_b5_b6 := ne_of_fresh hr_b5 (hD.nw 5 _ _ rfl).1
  replace hr_b0 := rangeAt_grown hr_b0 hD.gr
  replace hr_b0x := rangeAt_grown hr_b0x hD.gr
  replace hr_b0y := rangeAt_grown hr_b0y hD.gr
  replace hr_b1 := rangeAt_grown hr_b1 hD.gr
  replace hr_b1x := rangeAt_grown hr_b1x hD.gr
  replace hr_b1y := rangeAt_grown hr_b1y hD.gr
  replace hr_b2 := rangeAt_grown hr_b2 hD.gr
  replace hr_b2x := rangeAt_grown hr_b2x hD.gr
  replace hr_b2y := rangeAt_grown hr_b2y hD.gr
  replace hr_b3 := rangeAt_grown hr_b3 hD.gr
  replace hr_b3x := rangeAt_grown hr_b3x hD.gr
  replace hr_b3y := rangeAt_grown hr_b3y hD.gr
  replace hr_b4 := rangeAt_grown hr_b4 hD.gr
  replace hr_b5 := rangeAt_grown hr_b5 hD.gr
  replace ht_b2 := there_grown ht_b2 hD.gr
  replace ht_b3 := there_grown ht_b3 hD.gr
  replace ht_b4 := there_grown ht_b4 hD.gr
  replace ht_b5 := there_grown ht_b5 hD.gr
  obtain ⟨hf_b6, ht_b6⟩ := hD.nw 5 _ _ rfl
  have hr_b6 : w8.rangeAt (β 5) 0 (pcs (nX (x) (y)) (nY (x) (y))) := hD.rg 6 5 5 (fun _ => pcs (nX (x) (y)) (nY (x) (y))) rfl
  replace hf_b6 := Nat.le_trans hW.2.2 hf_b6
  replace hW := grown_trans hW hD.gr
  clear hD
  simp only [finAct, putAll, valsFrom, Plan.value, Act.put, List.setIfInBounds_toArray, List.set_cons_zero, List.set_cons_succ]
  replace hGl := hGl0.grown hW
  generalize β (0 + 1 + 1 + 1 + 1 + 1) = b6 at *
  have hr_b6x : w8.rangeAt b6 0 (bl (nX (x) (y))) := rangeAt_left hr_b6
  have hr_b6y : w8.rangeAt b6 32 (bl (nY (x) (y))) := rangeAt_right 32 (bl_length _) hr_b6
  repeat ((fail_if_success (with_reducible show Code.wp _ (Code.region _ _ _) _ _ _)); go_step)
  refine wp_plain [.val (pv (x) (y)), .val (.tuple #[pv (nX (x) (y)) (nY (x) (y)), .int .i64 (ern (x) (y))]), .imm (.tuple #[pv (nX (x) (y)) (nY (x) (y)), .int .i64 (ern (x) (y))]), .imm (pv (nX (x) (y)) (nY (x) (y))), .imm (.int .i64 (ern (x) (y))), .new 39 64, .put 5 5 (fun _ => pcs (nX (x) (y)) (nY (x) (y))), .imm (.int .i64 (ern (x) (y)))] (by kernel_rfl) (fun β => ?_) (fun β w9 hD => ?_)
  · refine Obs.cons (Ob.load (b0) 0 (pcs (x) (y)) rfl rfl (by kernel_rfl) hr_b0 Tryd.underlying39 rfl (by rw [pcs_length]; exact infoQ)) ?_
    refine Obs.cons (Ob.call 41 #[pv (x) (y)] rfl (fun w => by kernel_rfl) (fun w hg => NegRR (x) (y) hx hy w (hGl.grown hg).2)) ?_
    refine Obs.cons (Ob.imm rfl (fun w => by kernel_rfl)) ?_
    refine Obs.cons (Ob.imm rfl (fun w => by kernel_rfl)) ?_
    refine Obs.cons (Ob.imm rfl (fun w => by kernel_rfl)) ?_
    refine Obs.cons (Ob.new _ rfl rfl zeroQ (by simp [pcs_length])) ?_
    refine Obs.cons (Ob.put 39 rfl rfl rfl (by kernel_rfl) (by kernel_rfl) (by rw [pcs_length]; exact infoQ) (pcs_one _ _)) ?_
    refine Obs.cons (Ob.imm rfl (fun w => by kernel_rfl)) ?_
    exact Obs.nil
  have hn_b0_b7 := ne_of_freshP hr_b0 (hD.nw 5 _ _ rfl).1
  have hn_b1_b7 := ne_of_freshP hr_b1 (hD.nw 5 _ _ rfl).1
  have hn_b2_b7 := ne_of_freshP hr_b2 (hD.nw 5 _ _ rfl).1
  have hn_b3_b7 := ne_of_freshP hr_b3 (hD.nw 5 _ _ rfl).1
  have hn_b4_b7 := ne_of_fresh hr_b4 (hD.nw 5 _ _ rfl).1
  have hn_b5_b7 := ne_of_fresh hr_b5 (hD.nw 5 _ _ rfl).1
  have hn_b6_b7 := ne_of_freshP hr_b6 (hD.nw 5 _ _ rfl).1
  replace hr_b0 := rangeAt_grown hr_b0 hD.gr
  replace hr_b0x := rangeAt_grown hr_b0x hD.gr
  replace hr_b0y := rangeAt_grown hr_b0y hD.gr
  replace hr_b1 := rangeAt_grown hr_b1 hD.gr
  replace hr_b1x := rangeAt_grown hr_b1x hD.gr
  replace hr_b1y := rangeAt_grown hr_b1y hD.gr
  replace hr_b2 := rangeAt_grown hr_b2 hD.gr
  replace hr_b2x := rangeAt_grown hr_b2x hD.gr
  replace hr_b2y := rangeAt_grown hr_b2y hD.gr
  replace hr_b3 := rangeAt_grown hr_b3 hD.gr
  replace hr_b3x := rangeAt_grown hr_b3x hD.gr
  replace hr_b3y := rangeAt_grown hr_b3y hD.gr
  replace hr_b4 := rangeAt_grown hr_b4 hD.gr
  replace hr_b5 := rangeAt_grown hr_b5 hD.gr
  replace hr_b6 := rangeAt_grown hr_b6 hD.gr
  replace hr_b6x := rangeAt_grown hr_b6x hD.gr
  replace hr_b6y := rangeAt_grown hr_b6y hD.gr
  replace ht_b2 := there_grown ht_b2 hD.gr
  replace ht_b3 := there_grown ht_b3 hD.gr
  replace ht_b4 := there_grown ht_b4 hD.gr
  replace ht_b5 := there_grown ht_b5 hD.gr
  replace ht_b6 := there_grown ht_b6 hD.gr
  obtain ⟨hf_b7, ht_b7⟩ := hD.nw 5 _ _ rfl
  have hr_b7 : w9.rangeAt (β 5) 0 (pcs (nX (x) (y)) (nY (x) (y))) := hD.rg 6 5 5 (fun _ => pcs (nX (x) (y)) (nY (x) (y))) rfl
  replace hf_b7 := Nat.le_trans hW.2.2 hf_b7
  replace hW := grown_trans hW hD.gr
  clear hD
  simp only [finAct, putAll, valsFrom, Plan.value, Act.put, List.setIfInBounds_toArray, List.set_cons_zero, List.set_cons_succ]
  replace hGl := hGl0.grown hW
  generalize β (0 + 1 + 1 + 1 + 1 + 1) = b7 at *
  have hr_b7x : w9.rangeAt b7 0 (bl (nX (x) (y))) := rangeAt_left hr_b7
  have hr_b7y : w9.rangeAt b7 32 (bl (nY (x) (y))) := rangeAt_right 32 (bl_length _) hr_b7
  repeat ((fail_if_success (with_reducible show Code.wp _ (Code.region _ _ _) _ _ _)); go_step)
  refine wp_plain [.val (pv (nX (x) (y)) (nY (x) (y))), .val (pv (nX (x) (y)) (nY (x) (y))), .val (.bool true), .imm (.bool false), .imm (.bool false), .imm (.int .i64 (ern (x) (y))), .val (.int .i64 (ern (x) (y))), .imm (.int .i64 (ern (x) (y))), .imm (.bool false), .imm (.bool false)] (by kernel_rfl) (fun β => ?_) (fun β w10 hD => ?_)
  · refine Obs.cons (Ob.load (b6) 0 (pcs (nX (x) (y)) (nY (x) (y))) rfl rfl (by kernel_rfl) hr_b6 Tryd.underlying37 rfl (by rw [pcs_length]; exact infoP)) ?_
    refine Obs.cons (Ob.load (b7) 0 (pcs (nX (x) (y)) (nY (x) (y))) rfl rfl (by kernel_rfl) hr_b7 Tryd.underlying39 rfl (by rw [pcs_length]; exact infoQ)) ?_
    refine Obs.cons (Ob.call 21 #[pv (nX (x) (y)) (nY (x) (y)), pv (nX (x) (y)) (nY (x) (y))] rfl (fun w => by kernel_rfl) (fun w hg => alike_1 (nX (x) (y)) (nY (x) (y)) (nX_M _ _) (nY_M _ _ hy) w)) ?_
    refine Obs.cons (Ob.imm rfl (fun w => by kernel_rfl)) ?_
    refine Obs.cons (Ob.imm rfl (fun w => by kernel_rfl)) ?_
    refine Obs.cons (Ob.imm (by kernel_rfl) (fun w => by kernel_rfl)) ?_
    refine Obs.cons (Ob.call 32 #[.int .i64 (ern (x) (y))] (by kernel_rfl) (fun w => by kernel_rfl) (fun w hg => num_is (ern (x) (y)) w)) ?_
    refine Obs.cons (Ob.imm (by kernel_rfl) (fun w => by kernel_rfl)) ?_
    refine Obs.cons (Ob.imm (by kernel_rfl) (fun w => exec_neqI rfl (ern (x) (y)) (ern (x) (y)) (by kernel_rfl) (by kernel_rfl) false (by simp))) ?_
    refine Obs.cons (Ob.imm rfl (fun w => by kernel_rfl)) ?_
    exact Obs.nil
  replace hr_b0 := rangeAt_grown hr_b0 hD.gr
  replace hr_b0x := rangeAt_grown hr_b0x hD.gr
  replace hr_b0y := rangeAt_grown hr_b0y hD.gr
  replace hr_b1 := rangeAt_grown hr_b1 hD.gr
  replace hr_b1x := rangeAt_grown hr_b1x hD.gr
  replace hr_b1y := rangeAt_grown hr_b1y hD.gr
  replace hr_b2 := rangeAt_grown hr_b2 hD.gr
  replace hr_b2x := rangeAt_grown hr_b2x hD.gr
  replace hr_b2y := rangeAt_grown hr_b2y hD.gr
  replace hr_b3 := rangeAt_grown hr_b3 hD.gr
  replace hr_b3x := rangeAt_grown hr_b3x hD.gr
  replace hr_b3y := rangeAt_grown hr_b3y hD.gr
  replace hr_b4 := rangeAt_grown hr_b4 hD.gr
  replace hr_b5 := rangeAt_grown hr_b5 hD.gr
  replace hr_b6 := rangeAt_grown hr_b6 hD.gr
  replace hr_b6x := rangeAt_grown hr_b6x hD.gr
  replace hr_b6y := rangeAt_grown hr_b6y hD.gr
  replace hr_b7 := rangeAt_grown hr_b7 hD.gr
  replace hr_b7x := rangeAt_grown hr_b7x hD.gr
  replace hr_b7y := rangeAt_grown hr_b7y hD.gr
  replace ht_b2 := there_grown ht_b2 hD.gr
  replace ht_b3 := there_grown ht_b3 hD.gr
  replace ht_b4 := there_grown ht_b4 hD.gr
  replace ht_b5 := there_grown ht_b5 hD.gr
  replace ht_b6 := there_grown ht_b6 hD.gr
  replace ht_b7 := there_grown ht_b7 hD.gr
  replace hW := grown_trans hW hD.gr
  clear hD
  simp only [finAct, putAll, valsFrom, Plan.value, Act.put, List.setIfInBounds_toArray, List.set_cons_zero, List.set_cons_succ]
  replace hGl := hGl0.grown hW
  repeat ((fail_if_success (with_reducible show Code.wp _ (Code.region _ _ _) _ _ _)); go_step)
  refine wp_plain_fin [.val (pv (x) (y)), .val (.tuple #[pv (a2X (x) (y) (x) (y)) (a2Y (x) (y) (x) (y)), .int .i64 (ern2 (x) (y) (x) (y))]), .imm (.tuple #[pv (a2X (x) (y) (x) (y)) (a2Y (x) (y) (x) (y)), .int .i64 (ern2 (x) (y) (x) (y))]), .imm (pv (a2X (x) (y) (x) (y)) (a2Y (x) (y) (x) (y))), .imm (.int .i64 (ern2 (x) (y) (x) (y))), .fin, .imm (.int .i64 (ern2 (x) (y) (x) (y)))] (b6) 0 (fun _ => pcs (a2X (x) (y) (x) (y)) (a2Y (x) (y) (x) (y))) (by kernel_rfl) (fun β => ?_) (fun β w11 hD => ?_)
  · refine Obs.cons (Ob.load (b2) 0 (pcs (x) (y)) rfl rfl (by kernel_rfl) hr_b2 Tryd.underlying37 rfl (by rw [pcs_length]; exact infoP)) ?_
    refine Obs.cons (Ob.call 42 #[pv (x) (y)] rfl (fun w => by kernel_rfl) (fun w hg => DblP (x) (y) hx hy w (hGl.grown hg).1)) ?_
    refine Obs.cons (Ob.imm rfl (fun w => by kernel_rfl)) ?_
    refine Obs.cons (Ob.imm rfl (fun w => by kernel_rfl)) ?_
    refine Obs.cons (Ob.imm rfl (fun w => by kernel_rfl)) ?_
    refine Obs.cons (Ob.fin rfl (by rw [pcs_length]; exact ht_b6) rfl (by kernel_rfl) (by kernel_rfl) (by rw [pcs_length]; exact infoP) (pcs_one _ _)) ?_
    refine Obs.cons (Ob.imm rfl (fun w => by kernel_rfl)) ?_
    exact Obs.nil
  replace hr_b0 := rangeAt_grown hr_b0 hD.gr
  replace hr_b0x := rangeAt_grown hr_b0x hD.gr
  replace hr_b0y := rangeAt_grown hr_b0y hD.gr
  replace hr_b1 := rangeAt_grown hr_b1 hD.gr
  replace hr_b1x := rangeAt_grown hr_b1x hD.gr
  replace hr_b1y := rangeAt_grown hr_b1y hD.gr
  replace hr_b2 := rangeAt_grown hr_b2 hD.gr
  replace hr_b2x := rangeAt_grown hr_b2x hD.gr
  replace hr_b2y := rangeAt_grown hr_b2y hD.gr
  replace hr_b3 := rangeAt_grown hr_b3 hD.gr
  replace hr_b3x := rangeAt_grown hr_b3x hD.gr
  replace hr_b3y := rangeAt_grown hr_b3y hD.gr
  replace hr_b4 := rangeAt_grown hr_b4 hD.gr
  replace hr_b5 := rangeAt_grown hr_b5 hD.gr
  replace hr_b6 := rangeAt_grown hr_b6 hD.gr
  replace hr_b6x := rangeAt_grown hr_b6x hD.gr
  replace hr_b6y := rangeAt_grown hr_b6y hD.gr
  replace hr_b7 := rangeAt_grown hr_b7 hD.gr
  replace hr_b7x := rangeAt_grown hr_b7x hD.gr
  replace hr_b7y := rangeAt_grown hr_b7y hD.gr
  replace ht_b2 := there_grown ht_b2 hD.gr
  replace ht_b3 := there_grown ht_b3 hD.gr
  replace ht_b4 := there_grown ht_b4 hD.gr
  replace ht_b5 := there_grown ht_b5 hD.gr
  replace ht_b6 := there_grown ht_b6 hD.gr
  replace ht_b7 := there_grown ht_b7 hD.gr
  replace hW := grown_trans hW hD.gr
  clear hD
  simp only [finAct, putAll, valsFrom, Plan.value, Act.put, List.setIfInBounds_toArray, List.set_cons_zero, List.set_cons_succ]
  replace hGl := hGl0.grown hW
  have hs11 := World.rangeAt_setCells_same w11 (b6) 0 (pcs (a2X (x) (y) (x) (y)) (a2Y (x) (y) (x) (y))) (by rw [pcs_length]; exact ht_b6)
  replace hW := grown_setCells hf_b6 (pcs (a2X (x) (y) (x) (y)) (a2Y (x) (y) (x) (y))) 0 hW
  replace hr_b0 := World.rangeAt_setCells_apart hr_b0 (b6) 0 (pcs (a2X (x) (y) (x) (y)) (a2Y (x) (y) (x) (y))) (.inl (hn_b0_b6))
  replace hr_b0x := World.rangeAt_setCells_apart hr_b0x (b6) 0 (pcs (a2X (x) (y) (x) (y)) (a2Y (x) (y) (x) (y))) (.inl (hn_b0_b6))
  replace hr_b0y := World.rangeAt_setCells_apart hr_b0y (b6) 0 (pcs (a2X (x) (y) (x) (y)) (a2Y (x) (y) (x) (y))) (.inl (hn_b0_b6))
  replace hr_b1 := World.rangeAt_setCells_apart hr_b1 (b6) 0 (pcs (a2X (x) (y) (x) (y)) (a2Y (x) (y) (x) (y))) (.inl (hn_b1_b6))
  replace hr_b1x := World.rangeAt_setCells_apart hr_b1x (b6) 0 (pcs (a2X (x) (y) (x) (y)) (a2Y (x) (y) (x) (y))) (.inl (hn_b1_b6))
  replace hr_b1y := World.rangeAt_setCells_apart hr_b1y (b6) 0 (pcs (a2X (x) (y) (x) (y)) (a2Y (x) (y) (x) (y))) (.inl (hn_b1_b6))
  replace hr_b2 := World.rangeAt_setCells_apart hr_b2 (b6) 0 (pcs (a2X (x) (y) (x) (y)) (a2Y (x) (y) (x) (y))) (.inl (hn_b2_b6))
  replace hr_b2x := World.rangeAt_setCells_apart hr_b2x (b6) 0 (pcs (a2X (x) (y) (x) (y)) (a2Y (x) (y) (x) (y))) (.inl (hn_b2_b6))
  replace hr_b2y := World.rangeAt_setCells_apart hr_b2y (b6) 0 (pcs (a2X (x) (y) (x) (y)) (a2Y (x) (y) (x) (y))) (.inl (hn_b2_b6))
  replace hr_b3 := World.rangeAt_setCells_apart hr_b3 (b6) 0 (pcs (a2X (x) (y) (x) (y)) (a2Y (x) (y) (x) (y))) (.inl (hn_b3_b6))
  replace hr_b3x := World.rangeAt_setCells_apart hr_b3x (b6) 0 (pcs (a2X (x) (y) (x) (y)) (a2Y (x) (y) (x) (y))) (.inl (hn_b3_b6))
  replace hr_b3y := World.rangeAt_setCells_apart hr_b3y (b6) 0 (pcs (a2X (x) (y) (x) (y)) (a2Y (x) (y) (x) (y))) (.inl (hn_b3_b6))
  replace hr_b7 := World.rangeAt_setCells_apart hr_b7 (b6) 0 (pcs (a2X (x) (y) (x) (y)) (a2Y (x) (y) (x) (y))) (.inl (Ne.symm hn_b6_b7))
  replace hr_b7x := World.rangeAt_setCells_apart hr_b7x (b6) 0 (pcs (a2X (x) (y) (x) (y)) (a2Y (x) (y) (x) (y))) (.inl (Ne.symm hn_b6_b7))
  replace hr_b7y := World.rangeAt_setCells_apart hr_b7y (b6) 0 (pcs (a2X (x) (y) (x) (y)) (a2Y (x) (y) (x) (y))) (.inl (Ne.symm hn_b6_b7))
  replace ht_b2 := World.there_setCells ht_b2 (b6) 0 (pcs (a2X (x) (y) (x) (y)) (a2Y (x) (y) (x) (y)))
  replace ht_b3 := World.there_setCells ht_b3 (b6) 0 (pcs (a2X (x) (y) (x) (y)) (a2Y (x) (y) (x) (y)))
  replace ht_b4 := World.there_setCells ht_b4 (b6) 0 (pcs (a2X (x) (y) (x) (y)) (a2Y (x) (y) (x) (y)))
  replace ht_b5 := World.there_setCells ht_b5 (b6) 0 (pcs (a2X (x) (y) (x) (y)) (a2Y (x) (y) (x) (y)))
  replace ht_b6 := World.there_setCells ht_b6 (b6) 0 (pcs (a2X (x) (y) (x) (y)) (a2Y (x) (y) (x) (y)))
  replace ht_b7 := World.there_setCells ht_b7 (b6) 0 (pcs (a2X (x) (y) (x) (y)) (a2Y (x) (y) (x) (y)))
  replace hGl := hGl0.grown hW
  generalize w11.setCells (b6) 0 (pcs (a2X (x) (y) (x) (y)) (a2Y (x) (y) (x) (y))) = w11s at *
  have hs11x : w11s.rangeAt b6 0 (bl (a2X (x) (y) (x) (y))) := rangeAt_left hs11
  have hs11y : w11s.rangeAt b6 32 (bl (a2Y (x) (y) (x) (y))) := rangeAt_right 32 (bl_length _) hs11
  repeat ((fail_if_success (with_reducible show Code.wp _ (Code.region _ _ _) _ _ _)); go_step)
  refine wp_plain_fin [.val (pv (x) (y)), .val (pv (x) (y)), .val (.tuple #[pv (a2X (x) (y) (x) (y)) (a2Y (x) (y) (x) (y)), .int .i64 (ern2 (x) (y) (x) (y))]), .imm (.tuple #[pv (a2X (x) (y) (x) (y)) (a2Y (x) (y) (x) (y)), .int .i64 (ern2 (x) (y) (x) (y))]), .imm (pv (a2X (x) (y) (x) (y)) (a2Y (x) (y) (x) (y))), .imm (.int .i64 (ern2 (x) (y) (x) (y))), .fin, .imm (.int .i64 (ern2 (x) (y) (x) (y)))] (b7) 0 (fun _ => pcs (a2X (x) (y) (x) (y)) (a2Y (x) (y) (x) (y))) (by kernel_rfl) (fun β => ?_) (fun β w12 hD => ?_)
  · refine Obs.cons (Ob.load (b0) 0 (pcs (x) (y)) rfl rfl (by kernel_rfl) hr_b0 Tryd.underlying39 rfl (by rw [pcs_length]; exact infoQ)) ?_
    refine Obs.cons (Ob.load (b0) 0 (pcs (x) (y)) rfl rfl (by kernel_rfl) hr_b0 Tryd.underlying39 rfl (by rw [pcs_length]; exact infoQ)) ?_
    refine Obs.cons (Ob.call 43 #[pv (x) (y), pv (x) (y)] rfl (fun w => by kernel_rfl) (fun w hg => AddRR (x) (y) (x) (y) hx hy hx hy w (hGl.grown hg).2)) ?_
    refine Obs.cons (Ob.imm rfl (fun w => by kernel_rfl)) ?_
    refine Obs.cons (Ob.imm rfl (fun w => by kernel_rfl)) ?_
    refine Obs.cons (Ob.imm rfl (fun w => by kernel_rfl)) ?_
    refine Obs.cons (Ob.fin rfl (by rw [pcs_length]; exact ht_b7) rfl (by kernel_rfl) (by kernel_rfl) (by rw [pcs_length]; exact infoQ) (pcs_one _ _)) ?_
    refine Obs.cons (Ob.imm rfl (fun w => by kernel_rfl)) ?_
    exact Obs.nil
  replace hr_b0 := rangeAt_grown hr_b0 hD.gr
  replace hr_b0x := rangeAt_grown hr_b0x hD.gr
  replace hr_b0y := rangeAt_grown hr_b0y hD.gr
  replace hr_b1 := rangeAt_grown hr_b1 hD.gr
  replace hr_b1x := rangeAt_grown hr_b1x hD.gr
  replace hr_b1y := rangeAt_grown hr_b1y hD.gr
  replace hr_b2 := rangeAt_grown hr_b2 hD.gr
  replace hr_b2x := rangeAt_grown hr_b2x hD.gr
  replace hr_b2y := rangeAt_grown hr_b2y hD.gr
  replace hr_b3 := rangeAt_grown hr_b3 hD.gr
  replace hr_b3x := rangeAt_grown hr_b3x hD.gr
  replace hr_b3y := rangeAt_grown hr_b3y hD.gr
  replace hr_b7 := rangeAt_grown hr_b7 hD.gr
  replace hr_b7x := rangeAt_grown hr_b7x hD.gr
  replace hr_b7y := rangeAt_grown hr_b7y hD.gr
  replace hs11 := rangeAt_grown hs11 hD.gr
  replace hs11x := rangeAt_grown hs11x hD.gr
  replace hs11y := rangeAt_grown hs11y hD.gr
  replace ht_b2 := there_grown ht_b2 hD.gr
  replace ht_b3 := there_grown ht_b3 hD.gr
  replace ht_b4 := there_grown ht_b4 hD.gr
  replace ht_b5 := there_grown ht_b5 hD.gr
  replace ht_b6 := there_grown ht_b6 hD.gr
  replace ht_b7 := there_grown ht_b7 hD.gr
  replace hW := grown_trans hW hD.gr
  clear hD
  simp only [finAct, putAll, valsFrom, Plan.value, Act.put, List.setIfInBounds_toArray, List.set_cons_zero, List.set_cons_succ]
  replace hGl := hGl0.grown hW
  have hs12 := World.rangeAt_setCells_same w12 (b7) 0 (pcs (a2X (x) (y) (x) (y)) (a2Y (x) (y) (x) (y))) (by rw [pcs_length]; exact ht_b7)
  replace hW := grown_setCells hf_b7 (pcs (a2X (x) (y) (x) (y)) (a2Y (x) (y) (x) (y))) 0 hW
  replace hr_b0 := World.rangeAt_setCells_apart hr_b0 (b7) 0 (pcs (a2X (x) (y) (x) (y)) (a2Y (x) (y) (x) (y))) (.inl (hn_b0_b7))
  replace hr_b0x := World.rangeAt_setCells_apart hr_b0x (b7) 0 (pcs (a2X (x) (y) (x) (y)) (a2Y (x) (y) (x) (y))) (.inl (hn_b0_b7))
  replace hr_b0y := World.rangeAt_setCells_apart hr_b0y (b7) 0 (pcs (a2X (x) (y) (x) (y)) (a2Y (x) (y) (x) (y))) (.inl (hn_b0_b7))
  replace hr_b1 := World.rangeAt_setCells_apart hr_b1 (b7) 0 (pcs (a2X (x) (y) (x) (y)) (a2Y (x) (y) (x) (y))) (.inl (hn_b1_b7))
  replace hr_b1x := World.rangeAt_setCells_apart hr_b1x (b7) 0 (pcs (a2X (x) (y) (x) (y)) (a2Y (x) (y) (x) (y))) (.inl (hn_b1_b7))
  replace hr_b1y := World.rangeAt_setCells_apart hr_b1y (b7) 0 (pcs (a2X (x) (y) (x) (y)) (a2Y (x) (y) (x) (y))) (.inl (hn_b1_b7))
  replace hr_b2 := World.rangeAt_setCells_apart hr_b2 (b7) 0 (pcs (a2X (x) (y) (x) (y)) (a2Y (x) (y) (x) (y))) (.inl (hn_b2_b7))
  replace hr_b2x := World.rangeAt_setCells_apart hr_b2x (b7) 0 (pcs (a2X (x) (y) (x) (y)) (a2Y (x) (y) (x) (y))) (.inl (hn_b2_b7))
  replace hr_b2y := World.rangeAt_setCells_apart hr_b2y (b7) 0 (pcs (a2X (x) (y) (x) (y)) (a2Y (x) (y) (x) (y))) (.inl (hn_b2_b7))
  replace hr_b3 := World.rangeAt_setCells_apart hr_b3 (b7) 0 (pcs (a2X (x) (y) (x) (y)) (a2Y (x) (y) (x) (y))) (.inl (hn_b3_b7))
  replace hr_b3x := World.rangeAt_setCells_apart hr_b3x (b7) 0 (pcs (a2X (x) (y) (x) (y)) (a2Y (x) (y) (x) (y))) (.inl (hn_b3_b7))
  replace hr_b3y := World.rangeAt_setCells_apart hr_b3y (b7) 0 (pcs (a2X (x) (y) (x) (y)) (a2Y (x) (y) (x) (y))) (.inl (hn_b3_b7))
  replace hs11 := World.rangeAt_setCells_apart hs11 (b7) 0 (pcs (a2X (x) (y) (x) (y)) (a2Y (x) (y) (x) (y))) (.inl (hn_b6_b7))
  replace hs11x := World.rangeAt_setCells_apart hs11x (b7) 0 (pcs (a2X (x) (y) (x) (y)) (a2Y (x) (y) (x) (y))) (.inl (hn_b6_b7))
  replace hs11y := World.rangeAt_setCells_apart hs11y (b7) 0 (pcs (a2X (x) (y) (x) (y)) (a2Y (x) (y) (x) (y))) (.inl (hn_b6_b7))
  replace ht_b2 := World.there_setCells ht_b2 (b7) 0 (pcs (a2X (x) (y) (x) (y)) (a2Y (x) (y) (x) (y)))
  replace ht_b3 := World.there_setCells ht_b3 (b7) 0 (pcs (a2X (x) (y) (x) (y)) (a2Y (x) (y) (x) (y)))
  replace ht_b4 := World.there_setCells ht_b4 (b7) 0 (pcs (a2X (x) (y) (x) (y)) (a2Y (x) (y) (x) (y)))
  replace ht_b5 := World.there_setCells ht_b5 (b7) 0 (pcs (a2X (x) (y) (x) (y)) (a2Y (x) (y) (x) (y)))
  replace ht_b6 := World.there_setCells ht_b6 (b7) 0 (pcs (a2X (x) (y) (x) (y)) (a2Y (x) (y) (x) (y)))
  replace ht_b7 := World.there_setCells ht_b7 (b7) 0 (pcs (a2X (x) (y) (x) (y)) (a2Y (x) (y) (x) (y)))
  replace hGl := hGl0.grown hW
  generalize w12.setCells (b7) 0 (pcs (a2X (x) (y) (x) (y)) (a2Y (x) (y) (x) (y))) = w12s at *
  have hs12x : w12s.rangeAt b7 0 (bl (a2X (x) (y) (x) (y))) := rangeAt_left hs12
  have hs12y : w12s.rangeAt b7 32 (bl (a2Y (x) (y) (x) (y))) := rangeAt_right 32 (bl_length _) hs12
  repeat ((fail_if_success (with_reducible show Code.wp _ (Code.region _ _ _) _ _ _)); go_step)
  refine wp_plain [.val (pv (a2X (x) (y) (x) (y)) (a2Y (x) (y) (x) (y))), .val (pv (a2X (x) (y) (x) (y)) (a2Y (x) (y) (x) (y))), .val (.bool true), .imm (.bool false), .imm (.bool false), .imm (.int .i64 (ern2 (x) (y) (x) (y))), .val (.int .i64 (ern2 (x) (y) (x) (y))), .imm (.int .i64 (ern2 (x) (y) (x) (y))), .imm (.bool false), .imm (.bool false)] (by kernel_rfl) (fun β => ?_) (fun β w13 hD => ?_)
  · refine Obs.cons (Ob.load (b6) 0 (pcs (a2X (x) (y) (x) (y)) (a2Y (x) (y) (x) (y))) rfl rfl (by kernel_rfl) hs11 Tryd.underlying37 rfl (by rw [pcs_length]; exact infoP)) ?_
    refine Obs.cons (Ob.load (b7) 0 (pcs (a2X (x) (y) (x) (y)) (a2Y (x) (y) (x) (y))) rfl rfl (by kernel_rfl) hs12 Tryd.underlying39 rfl (by rw [pcs_length]; exact infoQ)) ?_
    refine Obs.cons (Ob.call 21 #[pv (a2X (x) (y) (x) (y)) (a2Y (x) (y) (x) (y)), pv (a2X (x) (y) (x) (y)) (a2Y (x) (y) (x) (y))] rfl (fun w => by kernel_rfl) (fun w hg => alike_1 (a2X (x) (y) (x) (y)) (a2Y (x) (y) (x) (y)) (a2X_M _ _ _ _) (a2Y_M _ _ _ _) w)) ?_
    refine Obs.cons (Ob.imm rfl (fun w => by kernel_rfl)) ?_
    refine Obs.cons (Ob.imm rfl (fun w => by kernel_rfl)) ?_
    refine Obs.cons (Ob.imm (by kernel_rfl) (fun w => by kernel_rfl)) ?_
    refine Obs.cons (Ob.call 32 #[.int .i64 (ern2 (x) (y) (x) (y))] (by kernel_rfl) (fun w => by kernel_rfl) (fun w hg => num_is (ern2 (x) (y) (x) (y)) w)) ?_
    refine Obs.cons (Ob.imm (by kernel_rfl) (fun w => by kernel_rfl)) ?_
    refine Obs.cons (Ob.imm (by kernel_rfl) (fun w => exec_neqI rfl (ern2 (x) (y) (x) (y)) (ern2 (x) (y) (x) (y)) (by kernel_rfl) (by kernel_rfl) false (by simp))) ?_
    refine Obs.cons (Ob.imm rfl (fun w => by kernel_rfl)) ?_
    exact Obs.nil
  replace hr_b0 := rangeAt_grown hr_b0 hD.gr
  replace hr_b0x := rangeAt_grown hr_b0x hD.gr
  replace hr_b0y := rangeAt_grown hr_b0y hD.gr
  replace hr_b1 := rangeAt_grown hr_b1 hD.gr
  replace hr_b1x := rangeAt_grown hr_b1x hD.gr
  replace hr_b1y := rangeAt_grown hr_b1y hD.gr
  replace hr_b2 := rangeAt_grown hr_b2 hD.gr
  replace hr_b2x := rangeAt_grown hr_b2x hD.gr
  replace hr_b2y := rangeAt_grown hr_b2y hD.gr
  replace hr_b3 := rangeAt_grown hr_b3 hD.gr
  replace hr_b3x := rangeAt_grown hr_b3x hD.gr
  replace hr_b3y := rangeAt_grown hr_b3y hD.gr
  replace hs11 := rangeAt_grown hs11 hD.gr
  replace hs11x := rangeAt_grown hs11x hD.gr
  replace hs11y := rangeAt_grown hs11y hD.gr
  replace hs12 := rangeAt_grown hs12 hD.gr
  replace hs12x := rangeAt_grown hs12x hD.gr
  replace hs12y := rangeAt_grown hs12y hD.gr
  replace ht_b2 := there_grown ht_b2 hD.gr
  replace ht_b3 := there_grown ht_b3 hD.gr
  replace ht_b4 := there_grown ht_b4 hD.gr
  replace ht_b5 := there_grown ht_b5 hD.gr
  replace ht_b6 := there_grown ht_b6 hD.gr
  replace ht_b7 := there_grown ht_b7 hD.gr
  replace hW := grown_trans hW hD.gr
  clear hD
  simp only [finAct, putAll, valsFrom, Plan.value, Act.put, List.setIfInBounds_toArray, List.set_cons_zero, List.set_cons_succ]
  replace hGl := hGl0.grown hW
  repeat ((fail_if_success (with_reducible show Code.wp _ (Code.region _ _ _) _ _ _)); go_step)
  refine wp_plain [.val (pv (x) (y)), .val (.tuple #[.bool (smA (x) (y)), .int .i64 (ern (x) (y))]), .imm (.tuple #[.bool (smA (x) (y)), .int .i64 (ern (x) (y))]), .imm (.bool (smA (x) (y))), .imm (.int .i64 (ern (x) (y))), .imm (.bool (smA (x) (y))), .imm (.int .i64 (ern (x) (y)))] (by kernel_rfl) (fun β => ?_) (fun β w14 hD => ?_)
  · refine Obs.cons (Ob.load (b2) 0 (pcs (x) (y)) rfl rfl (by kernel_rfl) hr_b2 Tryd.underlying37 rfl (by rw [pcs_length]; exact infoP)) ?_
    refine Obs.cons (Ob.call 44 #[pv (x) (y)] rfl (fun w => by kernel_rfl) (fun w hg => SmP (x) (y) hx hy w (hGl.grown hg).1)) ?_
    refine Obs.cons (Ob.imm rfl (fun w => by kernel_rfl)) ?_
    refine Obs.cons (Ob.imm rfl (fun w => by kernel_rfl)) ?_
    refine Obs.cons (Ob.imm rfl (fun w => by kernel_rfl)) ?_
    refine Obs.cons (Ob.imm rfl (fun w => by kernel_rfl)) ?_
    refine Obs.cons (Ob.imm rfl (fun w => by kernel_rfl)) ?_
    exact Obs.nil
  replace hr_b0 := rangeAt_grown hr_b0 hD.gr
  replace hr_b0x := rangeAt_grown hr_b0x hD.gr
  replace hr_b0y := rangeAt_grown hr_b0y hD.gr
  replace hr_b1 := rangeAt_grown hr_b1 hD.gr
  replace hr_b1x := rangeAt_grown hr_b1x hD.gr
  replace hr_b1y := rangeAt_grown hr_b1y hD.gr
  replace hr_b2 := rangeAt_grown hr_b2 hD.gr
  replace hr_b2x := rangeAt_grown hr_b2x hD.gr
  replace hr_b2y := rangeAt_grown hr_b2y hD.gr
  replace hr_b3 := rangeAt_grown hr_b3 hD.gr
  replace hr_b3x := rangeAt_grown hr_b3x hD.gr
  replace hr_b3y := rangeAt_grown hr_b3y hD.gr
  replace hs11 := rangeAt_grown hs11 hD.gr
  replace hs11x := rangeAt_grown hs11x hD.gr
  replace hs11y := rangeAt_grown hs11y hD.gr
  replace hs12 := rangeAt_grown hs12 hD.gr
  replace hs12x := rangeAt_grown hs12x hD.gr
  replace hs12y := rangeAt_grown hs12y hD.gr
  replace ht_b2 := there_grown ht_b2 hD.gr
  replace ht_b3 := there_grown ht_b3 hD.gr
  replace ht_b4 := there_grown ht_b4 hD.gr
  replace ht_b5 := there_grown ht_b5 hD.gr
  replace ht_b6 := there_grown ht_b6 hD.gr
  replace ht_b7 := there_grown ht_b7 hD.gr
  replace hW := grown_trans hW hD.gr
  clear hD
  simp only [finAct, putAll, valsFrom, Plan.value, Act.put, List.setIfInBounds_toArray, List.set_cons_zero, List.set_cons_succ]
  replace hGl := hGl0.grown hW
  repeat ((fail_if_success (with_reducible show Code.wp _ (Code.region _ _ _) _ _ _)); go_step)
  refine wp_plain [.val (pv (x) (y)), .val (.tuple #[.bool (smA (x) (y)), .int .i64 (ern (x) (y))]), .imm (.tuple #[.bool (smA (x) (y)), .int .i64 (ern (x) (y))]), .imm (.bool (smA (x) (y))), .imm (.int .i64 (ern (x) (y))), .imm (.bool (smA (x) (y))), .imm (.int .i64 (ern (x) (y)))] (by kernel_rfl) (fun β => ?_) (fun β w15 hD => ?_)
  · refine Obs.cons (Ob.load (b0) 0 (pcs (x) (y)) rfl rfl (by kernel_rfl) hr_b0 Tryd.underlying39 rfl (by rw [pcs_length]; exact infoQ)) ?_
    refine Obs.cons (Ob.call 45 #[pv (x) (y)] rfl (fun w => by kernel_rfl) (fun w hg => SmR (x) (y) hx hy w (hGl.grown hg).2)) ?_
    refine Obs.cons (Ob.imm rfl (fun w => by kernel_rfl)) ?_
    refine Obs.cons (Ob.imm rfl (fun w => by kernel_rfl)) ?_
    refine Obs.cons (Ob.imm rfl (fun w => by kernel_rfl)) ?_
    refine Obs.cons (Ob.imm rfl (fun w => by kernel_rfl)) ?_
    refine Obs.cons (Ob.imm rfl (fun w => by kernel_rfl)) ?_
    exact Obs.nil
  replace hr_b0 := rangeAt_grown hr_b0 hD.gr
  replace hr_b0x := rangeAt_grown hr_b0x hD.gr
  replace hr_b0y := rangeAt_grown hr_b0y hD.gr
  replace hr_b1 := rangeAt_grown hr_b1 hD.gr
  replace hr_b1x := rangeAt_grown hr_b1x hD.gr
  replace hr_b1y := rangeAt_grown hr_b1y hD.gr
  replace hr_b2 := rangeAt_grown hr_b2 hD.gr
  replace hr_b2x := rangeAt_grown hr_b2x hD.gr
  replace hr_b2y := rangeAt_grown hr_b2y hD.gr
  replace hr_b3 := rangeAt_grown hr_b3 hD.gr
  replace hr_b3x := rangeAt_grown hr_b3x hD.gr
  replace hr_b3y := rangeAt_grown hr_b3y hD.gr
  replace hs11 := rangeAt_grown hs11 hD.gr
  replace hs11x := rangeAt_grown hs11x hD.gr
  replace hs11y := rangeAt_grown hs11y hD.gr
  replace hs12 := rangeAt_grown hs12 hD.gr
  replace hs12x := rangeAt_grown hs12x hD.gr
  replace hs12y := rangeAt_grown hs12y hD.gr
  replace ht_b2 := there_grown ht_b2 hD.gr
  replace ht_b3 := there_grown ht_b3 hD.gr
  replace ht_b4 := there_grown ht_b4 hD.gr
  replace ht_b5 := there_grown ht_b5 hD.gr
  replace ht_b6 := there_grown ht_b6 hD.gr
  replace ht_b7 := there_grown ht_b7 hD.gr
  replace hW := grown_trans hW hD.gr
  clear hD
  simp only [finAct, putAll, valsFrom, Plan.value, Act.put, List.setIfInBounds_toArray, List.set_cons_zero, List.set_cons_succ]
  replace hGl := hGl0.grown hW
  repeat ((fail_if_success (with_reducible show Code.wp _ (Code.region _ _ _) _ _ _)); go_step)
  refine wp_plain [.imm (.bool (smA (x) (y))), .imm (.bool (smA (x) (y))), .imm (.bool false), .imm (.bool false), .imm (.int .i64 (ern (x) (y))), .val (.int .i64 (ern (x) (y))), .imm (.int .i64 (ern (x) (y))), .imm (.bool false), .imm (.bool false)] (by kernel_rfl) (fun β => ?_) (fun β w16 hD => ?_)
  · refine Obs.cons (Ob.imm rfl (fun w => by kernel_rfl)) ?_
    refine Obs.cons (Ob.imm rfl (fun w => by kernel_rfl)) ?_
    refine Obs.cons (Ob.imm rfl (fun w => exec_neqB rfl (smA (x) (y)) (by kernel_rfl) (by kernel_rfl))) ?_
    refine Obs.cons (Ob.imm rfl (fun w => by kernel_rfl)) ?_
    refine Obs.cons (Ob.imm (by kernel_rfl) (fun w => by kernel_rfl)) ?_
    refine Obs.cons (Ob.call 32 #[.int .i64 (ern (x) (y))] (by kernel_rfl) (fun w => by kernel_rfl) (fun w hg => num_is (ern (x) (y)) w)) ?_
    refine Obs.cons (Ob.imm (by kernel_rfl) (fun w => by kernel_rfl)) ?_
    refine Obs.cons (Ob.imm (by kernel_rfl) (fun w => exec_neqI rfl (ern (x) (y)) (ern (x) (y)) (by kernel_rfl) (by kernel_rfl) false (by simp))) ?_
    refine Obs.cons (Ob.imm rfl (fun w => by kernel_rfl)) ?_
    exact Obs.nil
  replace hr_b0 := rangeAt_grown hr_b0 hD.gr
  replace hr_b0x := rangeAt_grown hr_b0x hD.gr
  replace hr_b0y := rangeAt_grown hr_b0y hD.gr
  replace hr_b1 := rangeAt_grown hr_b1 hD.gr
  replace hr_b1x := rangeAt_grown hr_b1x hD.gr
  replace hr_b1y := rangeAt_grown hr_b1y hD.gr
  replace hr_b2 := rangeAt_grown hr_b2 hD.gr
  replace hr_b2x := rangeAt_grown hr_b2x hD.gr
  replace hr_b2y := rangeAt_grown hr_b2y hD.gr
  replace hr_b3 := rangeAt_grown hr_b3 hD.gr
  replace hr_b3x := rangeAt_grown hr_b3x hD.gr
  replace hr_b3y := rangeAt_grown hr_b3y hD.gr
  replace hs11 := rangeAt_grown hs11 hD.gr
  replace hs11x := rangeAt_grown hs11x hD.gr
  replace hs11y := rangeAt_grown hs11y hD.gr
  replace hs12 := rangeAt_grown hs12 hD.gr
  replace hs12x := rangeAt_grown hs12x hD.gr
  replace hs12y := rangeAt_grown hs12y hD.gr
  replace ht_b2 := there_grown ht_b2 hD.gr
  replace ht_b3 := there_grown ht_b3 hD.gr
  replace ht_b4 := there_grown ht_b4 hD.gr
  replace ht_b5 := there_grown ht_b5 hD.gr
  replace ht_b6 := there_grown ht_b6 hD.gr
  replace ht_b7 := there_grown ht_b7 hD.gr
  replace hW := grown_trans hW hD.gr
  clear hD
  simp only [finAct, putAll, valsFrom, Plan.value, Act.put, List.setIfInBounds_toArray, List.set_cons_zero, List.set_cons_succ]
  replace hGl := hGl0.grown hW
  repeat ((fail_if_success (with_reducible show Code.wp _ (Code.region _ _ _) _ _ _)); go_step)
  refine wp_plain_fin [.val (pv (x) (y)), .val (pv (u) (v)), .val (.tuple #[pv (a2X (x) (y) (u) (v)) (a2Y (x) (y) (u) (v)), .int .i64 (ern2 (x) (y) (u) (v))]), .imm (.tuple #[pv (a2X (x) (y) (u) (v)) (a2Y (x) (y) (u) (v)), .int .i64 (ern2 (x) (y) (u) (v))]), .imm (pv (a2X (x) (y) (u) (v)) (a2Y (x) (y) (u) (v))), .imm (.int .i64 (ern2 (x) (y) (u) (v))), .fin, .imm (.int .i64 (ern2 (x) (y) (u) (v)))] (b6) 0 (fun _ => pcs (a2X (x) (y) (u) (v)) (a2Y (x) (y) (u) (v))) (by kernel_rfl) (fun β => ?_) (fun β w17 hD => ?_)
  · refine Obs.cons (Ob.load (b2) 0 (pcs (x) (y)) rfl rfl (by kernel_rfl) hr_b2 Tryd.underlying37 rfl (by rw [pcs_length]; exact infoP)) ?_
    refine Obs.cons (Ob.load (b3) 0 (pcs (u) (v)) rfl rfl (by kernel_rfl) hr_b3 Tryd.underlying37 rfl (by rw [pcs_length]; exact infoP)) ?_
    refine Obs.cons (Ob.call 46 #[pv (x) (y), pv (u) (v)] rfl (fun w => by kernel_rfl) (fun w hg => AddP (x) (y) (u) (v) hx hy hu hv w (hGl.grown hg).1)) ?_
    refine Obs.cons (Ob.imm rfl (fun w => by kernel_rfl)) ?_
    refine Obs.cons (Ob.imm rfl (fun w => by kernel_rfl)) ?_
    refine Obs.cons (Ob.imm rfl (fun w => by kernel_rfl)) ?_
    refine Obs.cons (Ob.fin rfl (by rw [pcs_length]; exact ht_b6) rfl (by kernel_rfl) (by kernel_rfl) (by rw [pcs_length]; exact infoP) (pcs_one _ _)) ?_
    refine Obs.cons (Ob.imm rfl (fun w => by kernel_rfl)) ?_
    exact Obs.nil
  replace hr_b0 := rangeAt_grown hr_b0 hD.gr
  replace hr_b0x := rangeAt_grown hr_b0x hD.gr
  replace hr_b0y := rangeAt_grown hr_b0y hD.gr
  replace hr_b1 := rangeAt_grown hr_b1 hD.gr
  replace hr_b1x := rangeAt_grown hr_b1x hD.gr
  replace hr_b1y := rangeAt_grown hr_b1y hD.gr
  replace hr_b2 := rangeAt_grown hr_b2 hD.gr
  replace hr_b2x := rangeAt_grown hr_b2x hD.gr
  replace hr_b2y := rangeAt_grown hr_b2y hD.gr
  replace hr_b3 := rangeAt_grown hr_b3 hD.gr
  replace hr_b3x := rangeAt_grown hr_b3x hD.gr
  replace hr_b3y := rangeAt_grown hr_b3y hD.gr
  replace hs11 := rangeAt_grown hs11 hD.gr
  replace hs11x := rangeAt_grown hs11x hD.gr
  replace hs11y := rangeAt_grown hs11y hD.gr
  replace hs12 := rangeAt_grown hs12 hD.gr
  replace hs12x := rangeAt_grown hs12x hD.gr
  replace hs12y := rangeAt_grown hs12y hD.gr
  replace ht_b2 := there_grown ht_b2 hD.gr
  replace ht_b3 := there_grown ht_b3 hD.gr
  replace ht_b4 := there_grown ht_b4 hD.gr
  replace ht_b5 := there_grown ht_b5 hD.gr
  replace ht_b6 := there_grown ht_b6 hD.gr
  replace ht_b7 := there_grown ht_b7 hD.gr
  replace hW := grown_trans hW hD.gr
  clear hD
  simp only [finAct, putAll, valsFrom, Plan.value, Act.put, List.setIfInBounds_toArray, List.set_cons_zero, List.set_cons_succ]
  replace hGl := hGl0.grown hW
  have hs17 := World.rangeAt_setCells_same w17 (b6) 0 (pcs (a2X (x) (y) (u) (v)) (a2Y (x) (y) (u) (v))) (by rw [pcs_length]; exact ht_b6)
  replace hW := grown_setCells hf_b6 (pcs (a2X (x) (y) (u) (v)) (a2Y (x) (y) (u) (v))) 0 hW
  replace hr_b0 := World.rangeAt_setCells_apart hr_b0 (b6) 0 (pcs (a2X (x) (y) (u) (v)) (a2Y (x) (y) (u) (v))) (.inl (hn_b0_b6))
  replace hr_b0x := World.rangeAt_setCells_apart hr_b0x (b6) 0 (pcs (a2X (x) (y) (u) (v)) (a2Y (x) (y) (u) (v))) (.inl (hn_b0_b6))
  replace hr_b0y := World.rangeAt_setCells_apart hr_b0y (b6) 0 (pcs (a2X (x) (y) (u) (v)) (a2Y (x) (y) (u) (v))) (.inl (hn_b0_b6))
  replace hr_b1 := World.rangeAt_setCells_apart hr_b1 (b6) 0 (pcs (a2X (x) (y) (u) (v)) (a2Y (x) (y) (u) (v))) (.inl (hn_b1_b6))
  replace hr_b1x := World.rangeAt_setCells_apart hr_b1x (b6) 0 (pcs (a2X (x) (y) (u) (v)) (a2Y (x) (y) (u) (v))) (.inl (hn_b1_b6))
  replace hr_b1y := World.rangeAt_setCells_apart hr_b1y (b6) 0 (pcs (a2X (x) (y) (u) (v)) (a2Y (x) (y) (u) (v))) (.inl (hn_b1_b6))
  replace hr_b2 := World.rangeAt_setCells_apart hr_b2 (b6) 0 (pcs (a2X (x) (y) (u) (v)) (a2Y (x) (y) (u) (v))) (.inl (hn_b2_b6))
  replace hr_b2x := World.rangeAt_setCells_apart hr_b2x (b6) 0 (pcs (a2X (x) (y) (u) (v)) (a2Y (x) (y) (u) (v))) (.inl (hn_b2_b6))
  replace hr_b2y := World.rangeAt_setCells_apart hr_b2y (b6) 0 (pcs (a2X (x) (y) (u) (v)) (a2Y (x) (y) (u) (v))) (.inl (hn_b2_b6))
  replace hr_b3 := World.rangeAt_setCells_apart hr_b3 (b6) 0 (pcs (a2X (x) (y) (u) (v)) (a2Y (x) (y) (u) (v))) (.inl (hn_b3_b6))
  replace hr_b3x := World.rangeAt_setCells_apart hr_b3x (b6) 0 (pcs (a2X (x) (y) (u) (v)) (a2Y (x) (y) (u) (v))) (.inl (hn_b3_b6))
  replace hr_b3y := World.rangeAt_setCells_apart hr_b3y (b6) 0 (pcs (a2X (x) (y) (u) (v)) (a2Y (x) (y) (u) (v))) (.inl (hn_b3_b6))
  replace hs12 := World.rangeAt_setCells_apart hs12 (b6) 0 (pcs (a2X (x) (y) (u) (v)) (a2Y (x) (y) (u) (v))) (.inl (Ne.symm hn_b6_b7))
  replace hs12x := World.rangeAt_setCells_apart hs12x (b6) 0 (pcs (a2X (x) (y) (u) (v)) (a2Y (x) (y) (u) (v))) (.inl (Ne.symm hn_b6_b7))
  replace hs12y := World.rangeAt_setCells_apart hs12y (b6) 0 (pcs (a2X (x) (y) (u) (v)) (a2Y (x) (y) (u) (v))) (.inl (Ne.symm hn_b6_b7))
  replace ht_b2 := World.there_setCells ht_b2 (b6) 0 (pcs (a2X (x) (y) (u) (v)) (a2Y (x) (y) (u) (v)))
  replace ht_b3 := World.there_setCells ht_b3 (b6) 0 (pcs (a2X (x) (y) (u) (v)) (a2Y (x) (y) (u) (v)))
  replace ht_b4 := World.there_setCells ht_b4 (b6) 0 (pcs (a2X (x) (y) (u) (v)) (a2Y (x) (y) (u) (v)))
  replace ht_b5 := World.there_setCells ht_b5 (b6) 0 (pcs (a2X (x) (y) (u) (v)) (a2Y (x) (y) (u) (v)))
  replace ht_b6 := World.there_setCells ht_b6 (b6) 0 (pcs (a2X (x) (y) (u) (v)) (a2Y (x) (y) (u) (v)))
  replace ht_b7 := World.there_setCells ht_b7 (b6) 0 (pcs (a2X (x) (y) (u) (v)) (a2Y (x) (y) (u) (v)))
  replace hGl := hGl0.grown hW
  generalize w17.setCells (b6) 0 (pcs (a2X (x) (y) (u) (v)) (a2Y (x) (y) (u) (v))) = w17s at *
  have hs17x : w17s.rangeAt b6 0 (bl (a2X (x) (y) (u) (v))) := rangeAt_left hs17
  have hs17y : w17s.rangeAt b6 32 (bl (a2Y (x) (y) (u) (v))) := rangeAt_right 32 (bl_length _) hs17
  repeat ((fail_if_success (with_reducible show Code.wp _ (Code.region _ _ _) _ _ _)); go_step)
  refine wp_plain_fin [.val (pv (x) (y)), .val (pv (u) (v)), .val (.tuple #[pv (a2X (x) (y) (u) (v)) (a2Y (x) (y) (u) (v)), .int .i64 (ern2 (x) (y) (u) (v))]), .imm (.tuple #[pv (a2X (x) (y) (u) (v)) (a2Y (x) (y) (u) (v)), .int .i64 (ern2 (x) (y) (u) (v))]), .imm (pv (a2X (x) (y) (u) (v)) (a2Y (x) (y) (u) (v))), .imm (.int .i64 (ern2 (x) (y) (u) (v))), .fin, .imm (.int .i64 (ern2 (x) (y) (u) (v)))] (b7) 0 (fun _ => pcs (a2X (x) (y) (u) (v)) (a2Y (x) (y) (u) (v))) (by kernel_rfl) (fun β => ?_) (fun β w18 hD => ?_)
  · refine Obs.cons (Ob.load (b0) 0 (pcs (x) (y)) rfl rfl (by kernel_rfl) hr_b0 Tryd.underlying39 rfl (by rw [pcs_length]; exact infoQ)) ?_
    refine Obs.cons (Ob.load (b1) 0 (pcs (u) (v)) rfl rfl (by kernel_rfl) hr_b1 Tryd.underlying39 rfl (by rw [pcs_length]; exact infoQ)) ?_
    refine Obs.cons (Ob.call 43 #[pv (x) (y), pv (u) (v)] rfl (fun w => by kernel_rfl) (fun w hg => AddRR (x) (y) (u) (v) hx hy hu hv w (hGl.grown hg).2)) ?_
    refine Obs.cons (Ob.imm rfl (fun w => by kernel_rfl)) ?_
    refine Obs.cons (Ob.imm rfl (fun w => by kernel_rfl)) ?_
    refine Obs.cons (Ob.imm rfl (fun w => by kernel_rfl)) ?_
    refine Obs.cons (Ob.fin rfl (by rw [pcs_length]; exact ht_b7) rfl (by kernel_rfl) (by kernel_rfl) (by rw [pcs_length]; exact infoQ) (pcs_one _ _)) ?_
    refine Obs.cons (Ob.imm rfl (fun w => by kernel_rfl)) ?_
    exact Obs.nil
  replace hr_b0 := rangeAt_grown hr_b0 hD.gr
  replace hr_b0x := rangeAt_grown hr_b0x hD.gr
  replace hr_b0y := rangeAt_grown hr_b0y hD.gr
  replace hr_b1 := rangeAt_grown hr_b1 hD.gr
  replace hr_b1x := rangeAt_grown hr_b1x hD.gr
  replace hr_b1y := rangeAt_grown hr_b1y hD.gr
  replace hr_b2 := rangeAt_grown hr_b2 hD.gr
  replace hr_b2x := rangeAt_grown hr_b2x hD.gr
  replace hr_b2y := rangeAt_grown hr_b2y hD.gr
  replace hr_b3 := rangeAt_grown hr_b3 hD.gr
  replace hr_b3x := rangeAt_grown hr_b3x hD.gr
  replace hr_b3y := rangeAt_grown hr_b3y hD.gr
  replace hs12 := rangeAt_grown hs12 hD.gr
  replace hs12x := rangeAt_grown hs12x hD.gr
  replace hs12y := rangeAt_grown hs12y hD.gr
  replace hs17 := rangeAt_grown hs17 hD.gr
  replace hs17x := rangeAt_grown hs17x hD.gr
  replace hs17y := rangeAt_grown hs17y hD.gr
  replace ht_b2 := there_grown ht_b2 hD.gr
  replace ht_b3 := there_grown ht_b3 hD.gr
  replace ht_b4 := there_grown ht_b4 hD.gr
  replace ht_b5 := there_grown ht_b5 hD.gr
  replace ht_b6 := there_grown ht_b6 hD.gr
  replace ht_b7 := there_grown ht_b7 hD.gr
  replace hW := grown_trans hW hD.gr
  clear hD
  simp only [finAct, putAll, valsFrom, Plan.value, Act.put, List.setIfInBounds_toArray, List.set_cons_zero, List.set_cons_succ]
  replace hGl := hGl0.grown hW
  have hs18 := World.rangeAt_setCells_same w18 (b7) 0 (pcs (a2X (x) (y) (u) (v)) (a2Y (x) (y) (u) (v))) (by rw [pcs_length]; exact ht_b7)
  replace hW := grown_setCells hf_b7 (pcs (a2X (x) (y) (u) (v)) (a2Y (x) (y) (u) (v))) 0 hW
  replace hr_b0 := World.rangeAt_setCells_apart hr_b0 (b7) 0 (pcs (a2X (x) (y) (u) (v)) (a2Y (x) (y) (u) (v))) (.inl (hn_b0_b7))
  replace hr_b0x := World.rangeAt_setCells_apart hr_b0x (b7) 0 (pcs (a2X (x) (y) (u) (v)) (a2Y (x) (y) (u) (v))) (.inl (hn_b0_b7))
  replace hr_b0y := World.rangeAt_setCells_apart hr_b0y (b7) 0 (pcs (a2X (x) (y) (u) (v)) (a2Y (x) (y) (u) (v))) (.inl (hn_b0_b7))
  replace hr_b1 := World.rangeAt_setCells_apart hr_b1 (b7) 0 (pcs (a2X (x) (y) (u) (v)) (a2Y (x) (y) (u) (v))) (.inl (hn_b1_b7))
  replace hr_b1x := World.rangeAt_setCells_apart hr_b1x (b7) 0 (pcs (a2X (x) (y) (u) (v)) (a2Y (x) (y) (u) (v))) (.inl (hn_b1_b7))
  replace hr_b1y := World.rangeAt_setCells_apart hr_b1y (b7) 0 (pcs (a2X (x) (y) (u) (v)) (a2Y (x) (y) (u) (v))) (.inl (hn_b1_b7))
  replace hr_b2 := World.rangeAt_setCells_apart hr_b2 (b7) 0 (pcs (a2X (x) (y) (u) (v)) (a2Y (x) (y) (u) (v))) (.inl (hn_b2_b7))
  replace hr_b2x := World.rangeAt_setCells_apart hr_b2x (b7) 0 (pcs (a2X (x) (y) (u) (v)) (a2Y (x) (y) (u) (v))) (.inl (hn_b2_b7))
  replace hr_b2y := World.rangeAt_setCells_apart hr_b2y (b7) 0 (pcs (a2X (x) (y) (u) (v)) (a2Y (x) (y) (u) (v))) (.inl (hn_b2_b7))
  replace hr_b3 := World.rangeAt_setCells_apart hr_b3 (b7) 0 (pcs (a2X (x) (y) (u) (v)) (a2Y (x) (y) (u) (v))) (.inl (hn_b3_b7))
  replace hr_b3x := World.rangeAt_setCells_apart hr_b3x (b7) 0 (pcs (a2X (x) (y) (u) (v)) (a2Y (x) (y) (u) (v))) (.inl (hn_b3_b7))
  replace hr_b3y := World.rangeAt_setCells_apart hr_b3y (b7) 0 (pcs (a2X (x) (y) (u) (v)) (a2Y (x) (y) (u) (v))) (.inl (hn_b3_b7))
  replace hs17 := World.rangeAt_setCells_apart hs17 (b7) 0 (pcs (a2X (x) (y) (u) (v)) (a2Y (x) (y) (u) (v))) (.inl (hn_b6_b7))
  replace hs17x := World.rangeAt_setCells_apart hs17x (b7) 0 (pcs (a2X (x) (y) (u) (v)) (a2Y (x) (y) (u) (v))) (.inl (hn_b6_b7))
  replace hs17y := World.rangeAt_setCells_apart hs17y (b7) 0 (pcs (a2X (x) (y) (u) (v)) (a2Y (x) (y) (u) (v))) (.inl (hn_b6_b7))
  replace ht_b2 := World.there_setCells ht_b2 (b7) 0 (pcs (a2X (x) (y) (u) (v)) (a2Y (x) (y) (u) (v)))
  replace ht_b3 := World.there_setCells ht_b3 (b7) 0 (pcs (a2X (x) (y) (u) (v)) (a2Y (x) (y) (u) (v)))
  replace ht_b4 := World.there_setCells ht_b4 (b7) 0 (pcs (a2X (x) (y) (u) (v)) (a2Y (x) (y) (u) (v)))
  replace ht_b5 := World.there_setCells ht_b5 (b7) 0 (pcs (a2X (x) (y) (u) (v)) (a2Y (x) (y) (u) (v)))
  replace ht_b6 := World.there_setCells ht_b6 (b7) 0 (pcs (a2X (x) (y) (u) (v)) (a2Y (x) (y) (u) (v)))
  replace ht_b7 := World.there_setCells ht_b7 (b7) 0 (pcs (a2X (x) (y) (u) (v)) (a2Y (x) (y) (u) (v)))
  replace hGl := hGl0.grown hW
  generalize w18.setCells (b7) 0 (pcs (a2X (x) (y) (u) (v)) (a2Y (x) (y) (u) (v))) = w18s at *
  have hs18x : w18s.rangeAt b7 0 (bl (a2X (x) (y) (u) (v))) := rangeAt_left hs18
  have hs18y : w18s.rangeAt b7 32 (bl (a2Y (x) (y) (u) (v))) := rangeAt_right 32 (bl_length _) hs18
  repeat ((fail_if_success (with_reducible show Code.wp _ (Code.region _ _ _) _ _ _)); go_step)
  refine wp_plain [.val (pv (a2X (x) (y) (u) (v)) (a2Y (x) (y) (u) (v))), .val (pv (a2X (x) (y) (u) (v)) (a2Y (x) (y) (u) (v))), .val (.bool true), .imm (.bool false), .imm (.bool false), .imm (.int .i64 (ern2 (x) (y) (u) (v))), .val (.int .i64 (ern2 (x) (y) (u) (v))), .imm (.int .i64 (ern2 (x) (y) (u) (v))), .imm (.bool false), .imm (.bool false)] (by kernel_rfl) (fun β => ?_) (fun β w19 hD => ?_)
  · refine Obs.cons (Ob.load (b6) 0 (pcs (a2X (x) (y) (u) (v)) (a2Y (x) (y) (u) (v))) rfl rfl (by kernel_rfl) hs17 Tryd.underlying37 rfl (by rw [pcs_length]; exact infoP)) ?_
    refine Obs.cons (Ob.load (b7) 0 (pcs (a2X (x) (y) (u) (v)) (a2Y (x) (y) (u) (v))) rfl rfl (by kernel_rfl) hs18 Tryd.underlying39 rfl (by rw [pcs_length]; exact infoQ)) ?_
    refine Obs.cons (Ob.call 21 #[pv (a2X (x) (y) (u) (v)) (a2Y (x) (y) (u) (v)), pv (a2X (x) (y) (u) (v)) (a2Y (x) (y) (u) (v))] rfl (fun w => by kernel_rfl) (fun w hg => alike_1 (a2X (x) (y) (u) (v)) (a2Y (x) (y) (u) (v)) (a2X_M _ _ _ _) (a2Y_M _ _ _ _) w)) ?_
    refine Obs.cons (Ob.imm rfl (fun w => by kernel_rfl)) ?_
    refine Obs.cons (Ob.imm rfl (fun w => by kernel_rfl)) ?_
    refine Obs.cons (Ob.imm (by kernel_rfl) (fun w => by kernel_rfl)) ?_
    refine Obs.cons (Ob.call 32 #[.int .i64 (ern2 (x) (y) (u) (v))] (by kernel_rfl) (fun w => by kernel_rfl) (fun w hg => num_is (ern2 (x) (y) (u) (v)) w)) ?_
    refine Obs.cons (Ob.imm (by kernel_rfl) (fun w => by kernel_rfl)) ?_
    refine Obs.cons (Ob.imm (by kernel_rfl) (fun w => exec_neqI rfl (ern2 (x) (y) (u) (v)) (ern2 (x) (y) (u) (v)) (by kernel_rfl) (by kernel_rfl) false (by simp))) ?_
    refine Obs.cons (Ob.imm rfl (fun w => by kernel_rfl)) ?_
    exact Obs.nil
  replace hr_b0 := rangeAt_grown hr_b0 hD.gr
  replace hr_b0x := rangeAt_grown hr_b0x hD.gr
  replace hr_b0y := rangeAt_grown hr_b0y hD.gr
  replace hr_b1 := rangeAt_grown hr_b1 hD.gr
  replace hr_b1x := rangeAt_grown hr_b1x hD.gr
  replace hr_b1y := rangeAt_grown hr_b1y hD.gr
  replace hr_b2 := rangeAt_grown hr_b2 hD.gr
  replace hr_b2x := rangeAt_grown hr_b2x hD.gr
  replace hr_b2y := rangeAt_grown hr_b2y hD.gr
  replace hr_b3 := rangeAt_grown hr_b3 hD.gr
  replace hr_b3x := rangeAt_grown hr_b3x hD.gr
  replace hr_b3y := rangeAt_grown hr_b3y hD.gr
  replace hs17 := rangeAt_grown hs17 hD.gr
  replace hs17x := rangeAt_grown hs17x hD.gr
  replace hs17y := rangeAt_grown hs17y hD.gr
  replace hs18 := rangeAt_grown hs18 hD.gr
  replace hs18x := rangeAt_grown hs18x hD.gr
  replace hs18y := rangeAt_grown hs18y hD.gr
  replace ht_b2 := there_grown ht_b2 hD.gr
  replace ht_b3 := there_grown ht_b3 hD.gr
  replace ht_b4 := there_grown ht_b4 hD.gr
  replace ht_b5 := there_grown ht_b5 hD.gr
  replace ht_b6 := there_grown ht_b6 hD.gr
  replace ht_b7 := there_grown ht_b7 hD.gr
  replace hW := grown_trans hW hD.gr
  clear hD
  simp only [finAct, putAll, valsFrom, Plan.value, Act.put, List.setIfInBounds_toArray, List.set_cons_zero, List.set_cons_succ]
  replace hGl := hGl0.grown hW
  repeat ((fail_if_success (with_reducible show Code.wp _ (Code.region _ _ _) _ _ _)); go_step)
  refine wp_plain_fin [.val (pv (u) (v)), .val (pv (x) (y)), .val (.tuple #[pv (a2X (x) (y) (u) (v)) (a2Y (x) (y) (u) (v)), .int .i64 (ern2 (x) (y) (u) (v))]), .imm (.tuple #[pv (a2X (x) (y) (u) (v)) (a2Y (x) (y) (u) (v)), .int .i64 (ern2 (x) (y) (u) (v))]), .imm (pv (a2X (x) (y) (u) (v)) (a2Y (x) (y) (u) (v))), .imm (.int .i64 (ern2 (x) (y) (u) (v))), .fin, .imm (.int .i64 (ern2 (x) (y) (u) (v)))] (b6) 0 (fun _ => pcs (a2X (x) (y) (u) (v)) (a2Y (x) (y) (u) (v))) (by kernel_rfl) (fun β => ?_) (fun β w20 hD => ?_)
  · refine Obs.cons (Ob.load (b3) 0 (pcs (u) (v)) rfl rfl (by kernel_rfl) hr_b3 Tryd.underlying37 rfl (by rw [pcs_length]; exact infoP)) ?_
    refine Obs.cons (Ob.load (b2) 0 (pcs (x) (y)) rfl rfl (by kernel_rfl) hr_b2 Tryd.underlying37 rfl (by rw [pcs_length]; exact infoP)) ?_
    refine Obs.cons (Ob.call 46 #[pv (u) (v), pv (x) (y)] rfl (fun w => by kernel_rfl) (fun w hg => AddS (x) (y) (u) (v) hx hy hu hv w (hGl.grown hg).1)) ?_
    refine Obs.cons (Ob.imm rfl (fun w => by kernel_rfl)) ?_
    refine Obs.cons (Ob.imm rfl (fun w => by kernel_rfl)) ?_
    refine Obs.cons (Ob.imm rfl (fun w => by kernel_rfl)) ?_
    refine Obs.cons (Ob.fin rfl (by rw [pcs_length]; exact ht_b6) rfl (by kernel_rfl) (by kernel_rfl) (by rw [pcs_length]; exact infoP) (pcs_one _ _)) ?_
    refine Obs.cons (Ob.imm rfl (fun w => by kernel_rfl)) ?_
    exact Obs.nil
  replace hr_b0 := rangeAt_grown hr_b0 hD.gr
  replace hr_b0x := rangeAt_grown hr_b0x hD.gr
  replace hr_b0y := rangeAt_grown hr_b0y hD.gr
  replace hr_b1 := rangeAt_grown hr_b1 hD.gr
  replace hr_b1x := rangeAt_grown hr_b1x hD.gr
  replace hr_b1y := rangeAt_grown hr_b1y hD.gr
  replace hr_b2 := rangeAt_grown hr_b2 hD.gr
  replace hr_b2x := rangeAt_grown hr_b2x hD.gr
  replace hr_b2y := rangeAt_grown hr_b2y hD.gr
  replace hr_b3 := rangeAt_grown hr_b3 hD.gr
  replace hr_b3x := rangeAt_grown hr_b3x hD.gr
  replace hr_b3y := rangeAt_grown hr_b3y hD.gr
  replace hs17 := rangeAt_grown hs17 hD.gr
  replace hs17x := rangeAt_grown hs17x hD.gr
  replace hs17y := rangeAt_grown hs17y hD.gr
  replace hs18 := rangeAt_grown hs18 hD.gr
  replace hs18x := rangeAt_grown hs18x hD.gr
  replace hs18y := rangeAt_grown hs18y hD.gr
  replace ht_b2 := there_grown ht_b2 hD.gr
  replace ht_b3 := there_grown ht_b3 hD.gr
  replace ht_b4 := there_grown ht_b4 hD.gr
  replace ht_b5 := there_grown ht_b5 hD.gr
  replace ht_b6 := there_grown ht_b6 hD.gr
  replace ht_b7 := there_grown ht_b7 hD.gr
  replace hW := grown_trans hW hD.gr
  clear hD
  simp only [finAct, putAll, valsFrom, Plan.value, Act.put, List.setIfInBounds_toArray, List.set_cons_zero, List.set_cons_succ]
  replace hGl := hGl0.grown hW
  have hs20 := World.rangeAt_setCells_same w20 (b6) 0 (pcs (a2X (x) (y) (u) (v)) (a2Y (x) (y) (u) (v))) (by rw [pcs_length]; exact ht_b6)
  replace hW := grown_setCells hf_b6 (pcs (a2X (x) (y) (u) (v)) (a2Y (x) (y) (u) (v))) 0 hW
  replace hr_b0 := World.rangeAt_setCells_apart hr_b0 (b6) 0 (pcs (a2X (x) (y) (u) (v)) (a2Y (x) (y) (u) (v))) (.inl (hn_b0_b6))
  replace hr_b0x := World.rangeAt_setCells_apart hr_b0x (b6) 0 (pcs (a2X (x) (y) (u) (v)) (a2Y (x) (y) (u) (v))) (.inl (hn_b0_b6))
  replace hr_b0y := World.rangeAt_setCells_apart hr_b0y (b6) 0 (pcs (a2X (x) (y) (u) (v)) (a2Y (x) (y) (u) (v))) (.inl (hn_b0_b6))
  replace hr_b1 := World.rangeAt_setCells_apart hr_b1 (b6) 0 (pcs (a2X (x) (y) (u) (v)) (a2Y (x) (y) (u) (v))) (.inl (hn_b1_b6))
  replace hr_b1x := World.rangeAt_setCells_apart hr_b1x (b6) 0 (pcs (a2X (x) (y) (u) (v)) (a2Y (x) (y) (u) (v))) (.inl (hn_b1_b6))
  replace hr_b1y := World.rangeAt_setCells_apart hr_b1y (b6) 0 (pcs (a2X (x) (y) (u) (v)) (a2Y (x) (y) (u) (v))) (.inl (hn_b1_b6))
  replace hr_b2 := World.rangeAt_setCells_apart hr_b2 (b6) 0 (pcs (a2X (x) (y) (u) (v)) (a2Y (x) (y) (u) (v))) (.inl (hn_b2_b6))
  replace hr_b2x := World.rangeAt_setCells_apart hr_b2x (b6) 0 (pcs (a2X (x) (y) (u) (v)) (a2Y (x) (y) (u) (v))) (.inl (hn_b2_b6))
  replace hr_b2y := World.rangeAt_setCells_apart hr_b2y (b6) 0 (pcs (a2X (x) (y) (u) (v)) (a2Y (x) (y) (u) (v))) (.inl (hn_b2_b6))
  replace hr_b3 := World.rangeAt_setCells_apart hr_b3 (b6) 0 (pcs (a2X (x) (y) (u) (v)) (a2Y (x) (y) (u) (v))) (.inl (hn_b3_b6))
  replace hr_b3x := World.rangeAt_setCells_apart hr_b3x (b6) 0 (pcs (a2X (x) (y) (u) (v)) (a2Y (x) (y) (u) (v))) (.inl (hn_b3_b6))
  replace hr_b3y := World.rangeAt_setCells_apart hr_b3y (b6) 0 (pcs (a2X (x) (y) (u) (v)) (a2Y (x) (y) (u) (v))) (.inl (hn_b3_b6))
  replace hs18 := World.rangeAt_setCells_apart hs18 (b6) 0 (pcs (a2X (x) (y) (u) (v)) (a2Y (x) (y) (u) (v))) (.inl (Ne.symm hn_b6_b7))
  replace hs18x := World.rangeAt_setCells_apart hs18x (b6) 0 (pcs (a2X (x) (y) (u) (v)) (a2Y (x) (y) (u) (v))) (.inl (Ne.symm hn_b6_b7))
  replace hs18y := World.rangeAt_setCells_apart hs18y (b6) 0 (pcs (a2X (x) (y) (u) (v)) (a2Y (x) (y) (u) (v))) (.inl (Ne.symm hn_b6_b7))
  replace ht_b2 := World.there_setCells ht_b2 (b6) 0 (pcs (a2X (x) (y) (u) (v)) (a2Y (x) (y) (u) (v)))
  replace ht_b3 := World.there_setCells ht_b3 (b6) 0 (pcs (a2X (x) (y) (u) (v)) (a2Y (x) (y) (u) (v)))
  replace ht_b4 := World.there_setCells ht_b4 (b6) 0 (pcs (a2X (x) (y) (u) (v)) (a2Y (x) (y) (u) (v)))
  replace ht_b5 := World.there_setCells ht_b5 (b6) 0 (pcs (a2X (x) (y) (u) (v)) (a2Y (x) (y) (u) (v)))
  replace ht_b6 := World.there_setCells ht_b6 (b6) 0 (pcs (a2X (x) (y) (u) (v)) (a2Y (x) (y) (u) (v)))
  replace ht_b7 := World.there_setCells ht_b7 (b6) 0 (pcs (a2X (x) (y) (u) (v)) (a2Y (x) (y) (u) (v)))
  replace hGl := hGl0.grown hW
  generalize w20.setCells (b6) 0 (pcs (a2X (x) (y) (u) (v)) (a2Y (x) (y) (u) (v))) = w20s at *
  have hs20x : w20s.rangeAt b6 0 (bl (a2X (x) (y) (u) (v))) := rangeAt_left hs20
  have hs20y : w20s.rangeAt b6 32 (bl (a2Y (x) (y) (u) (v))) := rangeAt_right 32 (bl_length _) hs20
  repeat ((fail_if_success (with_reducible show Code.wp _ (Code.region _ _ _) _ _ _)); go_step)
  refine wp_plain [.val (pv (a2X (x) (y) (u) (v)) (a2Y (x) (y) (u) (v))), .val (pv (a2X (x) (y) (u) (v)) (a2Y (x) (y) (u) (v))), .val (.bool true), .imm (.bool true), .imm (.int .i64 (ern2 (x) (y) (u) (v))), .val (.int .i64 (ern2 (x) (y) (u) (v))), .imm (.int .i64 (ern2 (x) (y) (u) (v))), .imm (.bool true), .imm (.bool true), .imm (.bool true)] (by kernel_rfl) (fun β => ?_) (fun β w21 hD => ?_)
  · refine Obs.cons (Ob.load (b6) 0 (pcs (a2X (x) (y) (u) (v)) (a2Y (x) (y) (u) (v))) rfl rfl (by kernel_rfl) hs20 Tryd.underlying37 rfl (by rw [pcs_length]; exact infoP)) ?_
    refine Obs.cons (Ob.load (b7) 0 (pcs (a2X (x) (y) (u) (v)) (a2Y (x) (y) (u) (v))) rfl rfl (by kernel_rfl) hs18 Tryd.underlying39 rfl (by rw [pcs_length]; exact infoQ)) ?_
    refine Obs.cons (Ob.call 21 #[pv (a2X (x) (y) (u) (v)) (a2Y (x) (y) (u) (v)), pv (a2X (x) (y) (u) (v)) (a2Y (x) (y) (u) (v))] rfl (fun w => by kernel_rfl) (fun w hg => alike_1 (a2X (x) (y) (u) (v)) (a2Y (x) (y) (u) (v)) (a2X_M _ _ _ _) (a2Y_M _ _ _ _) w)) ?_
    refine Obs.cons (Ob.imm rfl (fun w => by kernel_rfl)) ?_
    refine Obs.cons (Ob.imm (by kernel_rfl) (fun w => by kernel_rfl)) ?_
    refine Obs.cons (Ob.call 32 #[.int .i64 (ern2 (x) (y) (u) (v))] (by kernel_rfl) (fun w => by kernel_rfl) (fun w hg => num_is (ern2 (x) (y) (u) (v)) w)) ?_
    refine Obs.cons (Ob.imm (by kernel_rfl) (fun w => by kernel_rfl)) ?_
    refine Obs.cons (Ob.imm (by kernel_rfl) (fun w => exec_eqlI rfl (ern2 (x) (y) (u) (v)) (ern2 (x) (y) (u) (v)) (by kernel_rfl) (by kernel_rfl) true (decide_eq_true rfl))) ?_
    refine Obs.cons (Ob.imm rfl (fun w => by kernel_rfl)) ?_
    refine Obs.cons (Ob.imm rfl (fun w => by kernel_rfl)) ?_
    exact Obs.nil
  replace hr_b0 := rangeAt_grown hr_b0 hD.gr
  replace hr_b0x := rangeAt_grown hr_b0x hD.gr
  replace hr_b0y := rangeAt_grown hr_b0y hD.gr
  replace hr_b1 := rangeAt_grown hr_b1 hD.gr
  replace hr_b1x := rangeAt_grown hr_b1x hD.gr
  replace hr_b1y := rangeAt_grown hr_b1y hD.gr
  replace hr_b2 := rangeAt_grown hr_b2 hD.gr
  replace hr_b2x := rangeAt_grown hr_b2x hD.gr
  replace hr_b2y := rangeAt_grown hr_b2y hD.gr
  replace hr_b3 := rangeAt_grown hr_b3 hD.gr
  replace hr_b3x := rangeAt_grown hr_b3x hD.gr
  replace hr_b3y := rangeAt_grown hr_b3y hD.gr
  replace hs18 := rangeAt_grown hs18 hD.gr
  replace hs18x := rangeAt_grown hs18x hD.gr
  replace hs18y := rangeAt_grown hs18y hD.gr
  replace hs20 := rangeAt_grown hs20 hD.gr
  replace hs20x := rangeAt_grown hs20x hD.gr
  replace hs20y := rangeAt_grown hs20y hD.gr
  replace ht_b2 := there_grown ht_b2 hD.gr
  replace ht_b3 := there_grown ht_b3 hD.gr
  replace ht_b4 := there_grown ht_b4 hD.gr
  replace ht_b5 := there_grown ht_b5 hD.gr
  replace ht_b6 := there_grown ht_b6 hD.gr
  replace ht_b7 := there_grown ht_b7 hD.gr
  replace hW := grown_trans hW hD.gr
  clear hD
  simp only [finAct, putAll, valsFrom, Plan.value, Act.put, List.setIfInBounds_toArray, List.set_cons_zero, List.set_cons_succ]
  replace hGl := hGl0.grown hW
  repeat go_step
  go_ret
  exact ⟨rfl, hW⟩

end Go.Proofs.YtoimglbjepppmaaDoor
