import Derived.Test.YtoimglbjepppmaaDoorMk
namespace Go.Proofs.YtoimglbjepppmaaDoor
open Go.RowKit Go.Shelf FieldNum
theorem result_tmp2 {P : Program} {fn : Func} {q q2 : Tmp} (h : fn.results = #[.tmp q, .tmp q2]) (tmps : Array Value) (w : World) (v v2 : Value) (hp : tmps.getD q undef = v) (hv : tmps.getD q2 undef = v2) : (results fn tmps).run P w = .ok (.tuple #[v, v2]) w := by
  have hp' : tmps[q]?.getD undef = v := by simpa using hp
  have hv' : tmps[q2]?.getD undef = v2 := by simpa using hv
  simp [results, h, hp', hv']

def plX (x y z t u v c s : Nat) : Nat := fmul (sb (fmul (fadd x y) (fadd (u) (v))) (fadd (fmul x (u)) (fmul y (v)))) (sb (fmul (z) (c)) (fmul (dd) (fmul (t) (s))))
theorem plX_lt (x y z t u v c s : Nat) : plX x y z t u v c s < M := fmul_lt _ _
def plY (x y z t u v c s : Nat) : Nat := fmul (fadd (fmul x (u)) (fmul y (v))) (fadd (fmul (z) (c)) (fmul (dd) (fmul (t) (s))))
theorem plY_lt (x y z t u v c s : Nat) : plY x y z t u v c s < M := fmul_lt _ _
def plZ (_x _y z t _u _v c s : Nat) : Nat := fmul (fadd (fmul (z) (c)) (fmul (dd) (fmul (t) (s)))) (sb (fmul (z) (c)) (fmul (dd) (fmul (t) (s))))
theorem plZ_lt (x y z t u v c s : Nat) : plZ x y z t u v c s < M := fmul_lt _ _
def plT (x y _z _t u v _c _s : Nat) : Nat := fmul (sb (fmul (fadd x y) (fadd (u) (v))) (fadd (fmul x (u)) (fmul y (v)))) (fadd (fmul x (u)) (fmul y (v)))
theorem plT_lt (x y z t u v c s : Nat) : plT x y z t u v c s < M := fmul_lt _ _
set_option maxRecDepth 100000 in
set_option maxHeartbeats 2000000 in
theorem iplus_num (x y z t u v c s : Nat) (hx : x < M) (hy : y < M) (hz : z < M) (ht : t < M) (hu : u < M) (hv : v < M) (hc : c < M) (hs : s < M) (w : World) (hGl0 : G2 w) :
    Calls Tryd.prog 82 #[iv x y z t, iv u v c s] w fun ex w' => ex = .returned (iv (fmul (sb (fmul (fadd (x) (y)) (fadd (u) (v))) (fadd (fmul (x) (u)) (fmul (y) (v)))) (sb (fmul (z) (c)) (fmul (dd) (fmul (t) (s))))) (fmul (fadd (fmul (x) (u)) (fmul (y) (v))) (fadd (fmul (z) (c)) (fmul (dd) (fmul (t) (s))))) (fmul (fadd (fmul (z) (c)) (fmul (dd) (fmul (t) (s)))) (sb (fmul (z) (c)) (fmul (dd) (fmul (t) (s))))) (fmul (sb (fmul (fadd (x) (y)) (fadd (u) (v))) (fadd (fmul (x) (u)) (fmul (y) (v)))) (fadd (fmul (x) (u)) (fmul (y) (v))))) ∧ Grown w w' := by
  have hW := Grown.refl w
  have hGl := hGl0
  go_enter Tryd.func82, Tryd.ntmps82
  repeat ((fail_if_success (with_reducible show Code.wp _ (Code.region _ _ _) _ _ _)); go_step)
  refine wp_plain [.box 93 (ics (x) (y) (z) (t)), .box 93 (ics (u) (v) (c) (s)), .new 93 128] (by kernel_rfl) (fun β => ?_) (fun β w1 hD => ?_)
  · refine Obs.cons (Ob.box rfl rfl (by kernel_rfl)) ?_
    refine Obs.cons (Ob.box rfl rfl (by kernel_rfl)) ?_
    refine Obs.cons (Ob.new _ rfl rfl zeroI (by simp [ics_length])) ?_
    exact Obs.nil
  obtain ⟨hf_b0, hr_b0⟩ := hD.bx 0 _ _ rfl
  replace hf_b0 := Nat.le_trans hW.2.2 hf_b0
  obtain ⟨hf_b1, hr_b1⟩ := hD.bx 1 _ _ rfl
  replace hf_b1 := Nat.le_trans hW.2.2 hf_b1
  obtain ⟨hf_b2, ht_b2⟩ := hD.nw 2 _ _ rfl
  replace hf_b2 := Nat.le_trans hW.2.2 hf_b2
  replace hW := grown_trans hW hD.gr
  clear hD
  simp only [finAct, putAll, valsFrom, Plan.value, Act.put, List.setIfInBounds_toArray, List.set_cons_zero, List.set_cons_succ]
  replace hGl := hGl0.grown hW
  generalize β 0 = b0 at *
  generalize β (0 + 1) = b1 at *
  generalize β (0 + 1 + 1) = b2 at *
  have hr_b0x : w1.rangeAt b0 0 (bl (x)) := rangeAt_left hr_b0
  have hr_b0r := rangeAt_right 32 (bl_length _) hr_b0
  have hr_b0y : w1.rangeAt b0 32 (bl (y)) := rangeAt_left hr_b0r
  have hr_b0s := rangeAt_right 32 (bl_length _) hr_b0r
  have hr_b0z : w1.rangeAt b0 64 (bl (z)) := rangeAt_left hr_b0s
  have hr_b0w : w1.rangeAt b0 96 (bl (t)) := rangeAt_right 32 (bl_length _) hr_b0s
  clear hr_b0r hr_b0s
  have hr_b0p : w1.rangeAt b0 0 (pcs (x) (y)) := rangeAt_point hr_b0
  have hr_b1x : w1.rangeAt b1 0 (bl (u)) := rangeAt_left hr_b1
  have hr_b1r := rangeAt_right 32 (bl_length _) hr_b1
  have hr_b1y : w1.rangeAt b1 32 (bl (v)) := rangeAt_left hr_b1r
  have hr_b1s := rangeAt_right 32 (bl_length _) hr_b1r
  have hr_b1z : w1.rangeAt b1 64 (bl (c)) := rangeAt_left hr_b1s
  have hr_b1w : w1.rangeAt b1 96 (bl (s)) := rangeAt_right 32 (bl_length _) hr_b1s
  clear hr_b1r hr_b1s
  have hr_b1p : w1.rangeAt b1 0 (pcs (u) (v)) := rangeAt_point hr_b1
  repeat ((fail_if_success (with_reducible show Code.wp _ (Code.region _ _ _) _ _ _)); go_step)
  replace hr_b0 := rangeAt_grown hr_b0 (gdrew w1)
  replace hr_b0x := rangeAt_grown hr_b0x (gdrew w1)
  replace hr_b0y := rangeAt_grown hr_b0y (gdrew w1)
  replace hr_b0z := rangeAt_grown hr_b0z (gdrew w1)
  replace hr_b0w := rangeAt_grown hr_b0w (gdrew w1)
  replace hr_b0p := rangeAt_grown hr_b0p (gdrew w1)
  replace hr_b1 := rangeAt_grown hr_b1 (gdrew w1)
  replace hr_b1x := rangeAt_grown hr_b1x (gdrew w1)
  replace hr_b1y := rangeAt_grown hr_b1y (gdrew w1)
  replace hr_b1z := rangeAt_grown hr_b1z (gdrew w1)
  replace hr_b1w := rangeAt_grown hr_b1w (gdrew w1)
  replace hr_b1p := rangeAt_grown hr_b1p (gdrew w1)
  replace ht_b2 := there_grown ht_b2 (gdrew w1)
  replace hW := grown_trans hW (gdrew w1)
  replace hGl := hGl0.grown hW
  refine wp_loose [.imm (.pointer (some ⟨b0, 0, none⟩)), .imm (.pointer (some ⟨b0, 0, none⟩)), .val (bv (x)), .imm (.pointer (some ⟨b1, 0, none⟩)), .imm (.pointer (some ⟨b1, 0, none⟩)), .val (bv (u)), .val (bv (fmul (x) (u))), .imm (.pointer (some ⟨b0, 0, none⟩)), .imm (.pointer (some ⟨b0, 32, none⟩)), .val (bv (y)), .imm (.pointer (some ⟨b1, 0, none⟩)), .imm (.pointer (some ⟨b1, 32, none⟩)), .val (bv (v)), .val (bv (fmul (y) (v))), .new 23 32, .new 23 32, .put 14 14 (fun _ => bl (fmul (x) (u))), .put 15 15 (fun _ => bl (fmul (y) (v)))] (by kernel_rfl) (by kernel_rfl) (fun β => ?_) (fun β w2 hD => ?_)
  · refine Obs.cons (Ob.imm rfl (fun w => by kernel_rfl)) ?_
    refine Obs.cons (Ob.imm rfl (fun w => by kernel_rfl)) ?_
    refine Obs.cons (Ob.load (b0) 0 (bl (x)) rfl rfl (by kernel_rfl) hr_b0x Tryd.underlying23 rfl (by rw [bl_length]; exact info32)) ?_
    refine Obs.cons (Ob.imm rfl (fun w => by kernel_rfl)) ?_
    refine Obs.cons (Ob.imm rfl (fun w => by kernel_rfl)) ?_
    refine Obs.cons (Ob.load (b1) 0 (bl (u)) rfl rfl (by kernel_rfl) hr_b1x Tryd.underlying23 rfl (by rw [bl_length]; exact info32)) ?_
    refine Obs.cons (Ob.call 12 #[bv (x), bv (u)] rfl (fun w => by kernel_rfl) (fun w hg => Mul_f (x) (u) hx hu w)) ?_
    refine Obs.cons (Ob.imm rfl (fun w => by kernel_rfl)) ?_
    refine Obs.cons (Ob.imm rfl (fun w => by kernel_rfl)) ?_
    refine Obs.cons (Ob.load (b0) 32 (bl (y)) rfl rfl (by kernel_rfl) hr_b0y Tryd.underlying23 rfl (by rw [bl_length]; exact info32)) ?_
    refine Obs.cons (Ob.imm rfl (fun w => by kernel_rfl)) ?_
    refine Obs.cons (Ob.imm rfl (fun w => by kernel_rfl)) ?_
    refine Obs.cons (Ob.load (b1) 32 (bl (v)) rfl rfl (by kernel_rfl) hr_b1y Tryd.underlying23 rfl (by rw [bl_length]; exact info32)) ?_
    refine Obs.cons (Ob.call 12 #[bv (y), bv (v)] rfl (fun w => by kernel_rfl) (fun w hg => Mul_f (y) (v) hy hv w)) ?_
    refine Obs.cons (Ob.new _ rfl rfl zero32.1 (by simp [bl_length])) ?_
    refine Obs.cons (Ob.new _ rfl rfl zero32.1 (by simp [bl_length])) ?_
    refine Obs.cons (Ob.put 23 rfl rfl rfl (by kernel_rfl) (by kernel_rfl) (by rw [bl_length]; exact info32) (bl_one _)) ?_
    refine Obs.cons (Ob.put 23 rfl rfl rfl (by kernel_rfl) (by kernel_rfl) (by rw [bl_length]; exact info32) (bl_one _)) ?_
    exact Obs.nil
  replace hr_b0 := rangeAt_grown hr_b0 hD.gr
  replace hr_b0x := rangeAt_grown hr_b0x hD.gr
  replace hr_b0y := rangeAt_grown hr_b0y hD.gr
  replace hr_b0z := rangeAt_grown hr_b0z hD.gr
  replace hr_b0w := rangeAt_grown hr_b0w hD.gr
  replace hr_b0p := rangeAt_grown hr_b0p hD.gr
  replace hr_b1 := rangeAt_grown hr_b1 hD.gr
  replace hr_b1x := rangeAt_grown hr_b1x hD.gr
  replace hr_b1y := rangeAt_grown hr_b1y hD.gr
  replace hr_b1z := rangeAt_grown hr_b1z hD.gr
  replace hr_b1w := rangeAt_grown hr_b1w hD.gr
  replace hr_b1p := rangeAt_grown hr_b1p hD.gr
  replace ht_b2 := there_grown ht_b2 hD.gr
  obtain ⟨hf_b3, ht_b3⟩ := hD.nw 14 _ _ rfl
  have hr_b3 : w2.rangeAt (β 14) 0 (bl (fmul (x) (u))) := hD.rg 16 14 14 (fun _ => bl (fmul (x) (u))) rfl
  replace hf_b3 := Nat.le_trans hW.2.2 hf_b3
  obtain ⟨hf_b4, ht_b4⟩ := hD.nw 15 _ _ rfl
  have hr_b4 : w2.rangeAt (β 15) 0 (bl (fmul (y) (v))) := hD.rg 17 15 15 (fun _ => bl (fmul (y) (v))) rfl
  replace hf_b4 := Nat.le_trans hW.2.2 hf_b4
  replace hW := grown_trans hW hD.gr
  clear hD
  simp only [finAct, putAll, valsFrom, Plan.value, Act.put, List.setIfInBounds_toArray, List.set_cons_zero, List.set_cons_succ]
  replace hGl := hGl0.grown hW
  generalize β (0 + 1 + 1 + 1 + 1 + 1 + 1 + 1 + 1 + 1 + 1 + 1 + 1 + 1 + 1) = b3 at *
  generalize β (0 + 1 + 1 + 1 + 1 + 1 + 1 + 1 + 1 + 1 + 1 + 1 + 1 + 1 + 1 + 1) = b4 at *
  repeat ((fail_if_success (with_reducible show Code.wp _ (Code.region _ _ _) _ _ _)); go_step)
  refine wp_plain [.val (bv (fmul (x) (u))), .val (bv (fmul (y) (v))), .val (bv (fadd (fmul (x) (u)) (fmul (y) (v)))), .new 23 32, .put 3 3 (fun _ => bl (fadd (fmul (x) (u)) (fmul (y) (v))))] (by kernel_rfl) (fun β => ?_) (fun β w3 hD => ?_)
  · refine Obs.cons (Ob.load (b3) 0 (bl (fmul (x) (u))) rfl rfl (by kernel_rfl) hr_b3 Tryd.underlying23 rfl (by rw [bl_length]; exact info32)) ?_
    refine Obs.cons (Ob.load (b4) 0 (bl (fmul (y) (v))) rfl rfl (by kernel_rfl) hr_b4 Tryd.underlying23 rfl (by rw [bl_length]; exact info32)) ?_
    refine Obs.cons (Ob.call 19 #[bv (fmul (x) (u)), bv (fmul (y) (v))] rfl (fun w => by kernel_rfl) (fun w hg => Add_f (fmul (x) (u)) (fmul (y) (v)) (fmul_lt _ _) (fmul_lt _ _) w)) ?_
    refine Obs.cons (Ob.new _ rfl rfl zero32.1 (by simp [bl_length])) ?_
    refine Obs.cons (Ob.put 23 rfl rfl rfl (by kernel_rfl) (by kernel_rfl) (by rw [bl_length]; exact info32) (bl_one _)) ?_
    exact Obs.nil
  replace hr_b0 := rangeAt_grown hr_b0 hD.gr
  replace hr_b0x := rangeAt_grown hr_b0x hD.gr
  replace hr_b0y := rangeAt_grown hr_b0y hD.gr
  replace hr_b0z := rangeAt_grown hr_b0z hD.gr
  replace hr_b0w := rangeAt_grown hr_b0w hD.gr
  replace hr_b0p := rangeAt_grown hr_b0p hD.gr
  replace hr_b1 := rangeAt_grown hr_b1 hD.gr
  replace hr_b1x := rangeAt_grown hr_b1x hD.gr
  replace hr_b1y := rangeAt_grown hr_b1y hD.gr
  replace hr_b1z := rangeAt_grown hr_b1z hD.gr
  replace hr_b1w := rangeAt_grown hr_b1w hD.gr
  replace hr_b1p := rangeAt_grown hr_b1p hD.gr
  replace hr_b3 := rangeAt_grown hr_b3 hD.gr
  replace hr_b4 := rangeAt_grown hr_b4 hD.gr
  replace ht_b2 := there_grown ht_b2 hD.gr
  replace ht_b3 := there_grown ht_b3 hD.gr
  replace ht_b4 := there_grown ht_b4 hD.gr
  obtain ⟨hf_b5, ht_b5⟩ := hD.nw 3 _ _ rfl
  have hr_b5 : w3.rangeAt (β 3) 0 (bl (fadd (fmul (x) (u)) (fmul (y) (v)))) := hD.rg 4 3 3 (fun _ => bl (fadd (fmul (x) (u)) (fmul (y) (v)))) rfl
  replace hf_b5 := Nat.le_trans hW.2.2 hf_b5
  replace hW := grown_trans hW hD.gr
  clear hD
  simp only [finAct, putAll, valsFrom, Plan.value, Act.put, List.setIfInBounds_toArray, List.set_cons_zero, List.set_cons_succ]
  replace hGl := hGl0.grown hW
  generalize β (0 + 1 + 1 + 1) = b5 at *
  repeat ((fail_if_success (with_reducible show Code.wp _ (Code.region _ _ _) _ _ _)); go_step)
  replace hr_b0 := rangeAt_grown hr_b0 (gdrew w3)
  replace hr_b0x := rangeAt_grown hr_b0x (gdrew w3)
  replace hr_b0y := rangeAt_grown hr_b0y (gdrew w3)
  replace hr_b0z := rangeAt_grown hr_b0z (gdrew w3)
  replace hr_b0w := rangeAt_grown hr_b0w (gdrew w3)
  replace hr_b0p := rangeAt_grown hr_b0p (gdrew w3)
  replace hr_b1 := rangeAt_grown hr_b1 (gdrew w3)
  replace hr_b1x := rangeAt_grown hr_b1x (gdrew w3)
  replace hr_b1y := rangeAt_grown hr_b1y (gdrew w3)
  replace hr_b1z := rangeAt_grown hr_b1z (gdrew w3)
  replace hr_b1w := rangeAt_grown hr_b1w (gdrew w3)
  replace hr_b1p := rangeAt_grown hr_b1p (gdrew w3)
  replace hr_b3 := rangeAt_grown hr_b3 (gdrew w3)
  replace hr_b4 := rangeAt_grown hr_b4 (gdrew w3)
  replace hr_b5 := rangeAt_grown hr_b5 (gdrew w3)
  replace ht_b2 := there_grown ht_b2 (gdrew w3)
  replace ht_b3 := there_grown ht_b3 (gdrew w3)
  replace ht_b4 := there_grown ht_b4 (gdrew w3)
  replace ht_b5 := there_grown ht_b5 (gdrew w3)
  replace hW := grown_trans hW (gdrew w3)
  replace hGl := hGl0.grown hW
  refine wp_loose [.imm (.pointer (some ⟨b0, 0, none⟩)), .imm (.pointer (some ⟨b0, 0, none⟩)), .val (bv (x)), .imm (.pointer (some ⟨b0, 0, none⟩)), .imm (.pointer (some ⟨b0, 32, none⟩)), .val (bv (y)), .val (bv (fadd (x) (y))), .imm (.pointer (some ⟨b1, 0, none⟩)), .imm (.pointer (some ⟨b1, 0, none⟩)), .val (bv (u)), .imm (.pointer (some ⟨b1, 0, none⟩)), .imm (.pointer (some ⟨b1, 32, none⟩)), .val (bv (v)), .val (bv (fadd (u) (v))), .val (bv (fmul (fadd (x) (y)) (fadd (u) (v)))), .val (bv (fadd (fmul (x) (u)) (fmul (y) (v)))), .val (bv (sb (fmul (fadd (x) (y)) (fadd (u) (v))) (fadd (fmul (x) (u)) (fmul (y) (v))))), .new 23 32, .put 17 17 (fun _ => bl (sb (fmul (fadd (x) (y)) (fadd (u) (v))) (fadd (fmul (x) (u)) (fmul (y) (v)))))] (by kernel_rfl) (by kernel_rfl) (fun β => ?_) (fun β w4 hD => ?_)
  · refine Obs.cons (Ob.imm rfl (fun w => by kernel_rfl)) ?_
    refine Obs.cons (Ob.imm rfl (fun w => by kernel_rfl)) ?_
    refine Obs.cons (Ob.load (b0) 0 (bl (x)) rfl rfl (by kernel_rfl) hr_b0x Tryd.underlying23 rfl (by rw [bl_length]; exact info32)) ?_
    refine Obs.cons (Ob.imm rfl (fun w => by kernel_rfl)) ?_
    refine Obs.cons (Ob.imm rfl (fun w => by kernel_rfl)) ?_
    refine Obs.cons (Ob.load (b0) 32 (bl (y)) rfl rfl (by kernel_rfl) hr_b0y Tryd.underlying23 rfl (by rw [bl_length]; exact info32)) ?_
    refine Obs.cons (Ob.call 19 #[bv (x), bv (y)] rfl (fun w => by kernel_rfl) (fun w hg => Add_f (x) (y) hx hy w)) ?_
    refine Obs.cons (Ob.imm rfl (fun w => by kernel_rfl)) ?_
    refine Obs.cons (Ob.imm rfl (fun w => by kernel_rfl)) ?_
    refine Obs.cons (Ob.load (b1) 0 (bl (u)) rfl rfl (by kernel_rfl) hr_b1x Tryd.underlying23 rfl (by rw [bl_length]; exact info32)) ?_
    refine Obs.cons (Ob.imm rfl (fun w => by kernel_rfl)) ?_
    refine Obs.cons (Ob.imm rfl (fun w => by kernel_rfl)) ?_
    refine Obs.cons (Ob.load (b1) 32 (bl (v)) rfl rfl (by kernel_rfl) hr_b1y Tryd.underlying23 rfl (by rw [bl_length]; exact info32)) ?_
    refine Obs.cons (Ob.call 19 #[bv (u), bv (v)] rfl (fun w => by kernel_rfl) (fun w hg => Add_f (u) (v) hu hv w)) ?_
    refine Obs.cons (Ob.call 12 #[bv (fadd (x) (y)), bv (fadd (u) (v))] rfl (fun w => by kernel_rfl) (fun w hg => Mul_f (fadd (x) (y)) (fadd (u) (v)) (fadd_lt _ _) (fadd_lt _ _) w)) ?_
    refine Obs.cons (Ob.load (b5) 0 (bl (fadd (fmul (x) (u)) (fmul (y) (v)))) rfl rfl (by kernel_rfl) hr_b5 Tryd.underlying23 rfl (by rw [bl_length]; exact info32)) ?_
    refine Obs.cons (Ob.call 29 #[bv (fmul (fadd (x) (y)) (fadd (u) (v))), bv (fadd (fmul (x) (u)) (fmul (y) (v)))] rfl (fun w => by kernel_rfl) (fun w hg => Sub_any (fmul (fadd (x) (y)) (fadd (u) (v))) (fadd (fmul (x) (u)) (fmul (y) (v))) (fmul_lt _ _) (fadd_lt _ _) w)) ?_
    refine Obs.cons (Ob.new _ rfl rfl zero32.1 (by simp [bl_length])) ?_
    refine Obs.cons (Ob.put 23 rfl rfl rfl (by kernel_rfl) (by kernel_rfl) (by rw [bl_length]; exact info32) (bl_one _)) ?_
    exact Obs.nil
  replace hr_b0 := rangeAt_grown hr_b0 hD.gr
  replace hr_b0x := rangeAt_grown hr_b0x hD.gr
  replace hr_b0y := rangeAt_grown hr_b0y hD.gr
  replace hr_b0z := rangeAt_grown hr_b0z hD.gr
  replace hr_b0w := rangeAt_grown hr_b0w hD.gr
  replace hr_b0p := rangeAt_grown hr_b0p hD.gr
  replace hr_b1 := rangeAt_grown hr_b1 hD.gr
  replace hr_b1x := rangeAt_grown hr_b1x hD.gr
  replace hr_b1y := rangeAt_grown hr_b1y hD.gr
  replace hr_b1z := rangeAt_grown hr_b1z hD.gr
  replace hr_b1w := rangeAt_grown hr_b1w hD.gr
  replace hr_b1p := rangeAt_grown hr_b1p hD.gr
  replace hr_b3 := rangeAt_grown hr_b3 hD.gr
  replace hr_b4 := rangeAt_grown hr_b4 hD.gr
  replace hr_b5 := rangeAt_grown hr_b5 hD.gr
  replace ht_b2 := there_grown ht_b2 hD.gr
  replace ht_b3 := there_grown ht_b3 hD.gr
  replace ht_b4 := there_grown ht_b4 hD.gr
  replace ht_b5 := there_grown ht_b5 hD.gr
  obtain ⟨hf_b6, ht_b6⟩ := hD.nw 17 _ _ rfl
  have hr_b6 : w4.rangeAt (β 17) 0 (bl (sb (fmul (fadd (x) (y)) (fadd (u) (v))) (fadd (fmul (x) (u)) (fmul (y) (v))))) := hD.rg 18 17 17 (fun _ => bl (sb (fmul (fadd (x) (y)) (fadd (u) (v))) (fadd (fmul (x) (u)) (fmul (y) (v))))) rfl
  replace hf_b6 := Nat.le_trans hW.2.2 hf_b6
  replace hW := grown_trans hW hD.gr
  clear hD
  simp only [finAct, putAll, valsFrom, Plan.value, Act.put, List.setIfInBounds_toArray, List.set_cons_zero, List.set_cons_succ]
  replace hGl := hGl0.grown hW
  generalize β (0 + 1 + 1 + 1 + 1 + 1 + 1 + 1 + 1 + 1 + 1 + 1 + 1 + 1 + 1 + 1 + 1 + 1) = b6 at *
  repeat ((fail_if_success (with_reducible show Code.wp _ (Code.region _ _ _) _ _ _)); go_step)
  refine wp_plain [.imm (.pointer (some ⟨b0, 64, none⟩)), .val (bv (z)), .imm (.pointer (some ⟨b1, 64, none⟩)), .val (bv (c)), .val (bv (fmul (z) (c))), .new 23 32, .put 5 5 (fun _ => bl (fmul (z) (c)))] (by kernel_rfl) (fun β => ?_) (fun β w5 hD => ?_)
  · refine Obs.cons (Ob.imm rfl (fun w => by kernel_rfl)) ?_
    refine Obs.cons (Ob.load (b0) 64 (bl (z)) rfl rfl (by kernel_rfl) hr_b0z Tryd.underlying23 rfl (by rw [bl_length]; exact info32)) ?_
    refine Obs.cons (Ob.imm rfl (fun w => by kernel_rfl)) ?_
    refine Obs.cons (Ob.load (b1) 64 (bl (c)) rfl rfl (by kernel_rfl) hr_b1z Tryd.underlying23 rfl (by rw [bl_length]; exact info32)) ?_
    refine Obs.cons (Ob.call 12 #[bv (z), bv (c)] rfl (fun w => by kernel_rfl) (fun w hg => Mul_f (z) (c) hz hc w)) ?_
    refine Obs.cons (Ob.new _ rfl rfl zero32.1 (by simp [bl_length])) ?_
    refine Obs.cons (Ob.put 23 rfl rfl rfl (by kernel_rfl) (by kernel_rfl) (by rw [bl_length]; exact info32) (bl_one _)) ?_
    exact Obs.nil
  replace hr_b0 := rangeAt_grown hr_b0 hD.gr
  replace hr_b0x := rangeAt_grown hr_b0x hD.gr
  replace hr_b0y := rangeAt_grown hr_b0y hD.gr
  replace hr_b0z := rangeAt_grown hr_b0z hD.gr
  replace hr_b0w := rangeAt_grown hr_b0w hD.gr
  replace hr_b0p := rangeAt_grown hr_b0p hD.gr
  replace hr_b1 := rangeAt_grown hr_b1 hD.gr
  replace hr_b1x := rangeAt_grown hr_b1x hD.gr
  replace hr_b1y := rangeAt_grown hr_b1y hD.gr
  replace hr_b1z := rangeAt_grown hr_b1z hD.gr
  replace hr_b1w := rangeAt_grown hr_b1w hD.gr
  replace hr_b1p := rangeAt_grown hr_b1p hD.gr
  replace hr_b3 := rangeAt_grown hr_b3 hD.gr
  replace hr_b4 := rangeAt_grown hr_b4 hD.gr
  replace hr_b5 := rangeAt_grown hr_b5 hD.gr
  replace hr_b6 := rangeAt_grown hr_b6 hD.gr
  replace ht_b2 := there_grown ht_b2 hD.gr
  replace ht_b3 := there_grown ht_b3 hD.gr
  replace ht_b4 := there_grown ht_b4 hD.gr
  replace ht_b5 := there_grown ht_b5 hD.gr
  replace ht_b6 := there_grown ht_b6 hD.gr
  obtain ⟨hf_b7, ht_b7⟩ := hD.nw 5 _ _ rfl
  have hr_b7 : w5.rangeAt (β 5) 0 (bl (fmul (z) (c))) := hD.rg 6 5 5 (fun _ => bl (fmul (z) (c))) rfl
  replace hf_b7 := Nat.le_trans hW.2.2 hf_b7
  replace hW := grown_trans hW hD.gr
  clear hD
  simp only [finAct, putAll, valsFrom, Plan.value, Act.put, List.setIfInBounds_toArray, List.set_cons_zero, List.set_cons_succ]
  replace hGl := hGl0.grown hW
  generalize β (0 + 1 + 1 + 1 + 1 + 1) = b7 at *
  repeat ((fail_if_success (with_reducible show Code.wp _ (Code.region _ _ _) _ _ _)); go_step)
  replace hr_b0 := rangeAt_grown hr_b0 (gdrew w5)
  replace hr_b0x := rangeAt_grown hr_b0x (gdrew w5)
  replace hr_b0y := rangeAt_grown hr_b0y (gdrew w5)
  replace hr_b0z := rangeAt_grown hr_b0z (gdrew w5)
  replace hr_b0w := rangeAt_grown hr_b0w (gdrew w5)
  replace hr_b0p := rangeAt_grown hr_b0p (gdrew w5)
  replace hr_b1 := rangeAt_grown hr_b1 (gdrew w5)
  replace hr_b1x := rangeAt_grown hr_b1x (gdrew w5)
  replace hr_b1y := rangeAt_grown hr_b1y (gdrew w5)
  replace hr_b1z := rangeAt_grown hr_b1z (gdrew w5)
  replace hr_b1w := rangeAt_grown hr_b1w (gdrew w5)
  replace hr_b1p := rangeAt_grown hr_b1p (gdrew w5)
  replace hr_b3 := rangeAt_grown hr_b3 (gdrew w5)
  replace hr_b4 := rangeAt_grown hr_b4 (gdrew w5)
  replace hr_b5 := rangeAt_grown hr_b5 (gdrew w5)
  replace hr_b6 := rangeAt_grown hr_b6 (gdrew w5)
  replace hr_b7 := rangeAt_grown hr_b7 (gdrew w5)
  replace ht_b2 := there_grown ht_b2 (gdrew w5)
  replace ht_b3 := there_grown ht_b3 (gdrew w5)
  replace ht_b4 := there_grown ht_b4 (gdrew w5)
  replace ht_b5 := there_grown ht_b5 (gdrew w5)
  replace ht_b6 := there_grown ht_b6 (gdrew w5)
  replace ht_b7 := there_grown ht_b7 (gdrew w5)
  replace hW := grown_trans hW (gdrew w5)
  replace hGl := hGl0.grown hW
  refine wp_loose [.val (bv (dd)), .imm (.pointer (some ⟨b0, 96, none⟩)), .val (bv (t)), .imm (.pointer (some ⟨b1, 96, none⟩)), .val (bv (s)), .val (bv (fmul (t) (s))), .val (bv (fmul (dd) (fmul (t) (s)))), .new 23 32, .put 7 7 (fun _ => bl (fmul (dd) (fmul (t) (s))))] (by kernel_rfl) (by kernel_rfl) (fun β => ?_) (fun β w6 hD => ?_)
  · refine Obs.cons (Ob.load (3) 0 (bl (dd)) rfl rfl (by kernel_rfl) hGl.g2.pd Tryd.underlying23 rfl (by rw [bl_length]; exact info32)) ?_
    refine Obs.cons (Ob.imm rfl (fun w => by kernel_rfl)) ?_
    refine Obs.cons (Ob.load (b0) 96 (bl (t)) rfl rfl (by kernel_rfl) hr_b0w Tryd.underlying23 rfl (by rw [bl_length]; exact info32)) ?_
    refine Obs.cons (Ob.imm rfl (fun w => by kernel_rfl)) ?_
    refine Obs.cons (Ob.load (b1) 96 (bl (s)) rfl rfl (by kernel_rfl) hr_b1w Tryd.underlying23 rfl (by rw [bl_length]; exact info32)) ?_
    refine Obs.cons (Ob.call 12 #[bv (t), bv (s)] rfl (fun w => by kernel_rfl) (fun w hg => Mul_f (t) (s) ht hs w)) ?_
    refine Obs.cons (Ob.call 12 #[bv (dd), bv (fmul (t) (s))] rfl (fun w => by kernel_rfl) (fun w hg => Mul_f (dd) (fmul (t) (s)) dd_M (fmul_lt _ _) w)) ?_
    refine Obs.cons (Ob.new _ rfl rfl zero32.1 (by simp [bl_length])) ?_
    refine Obs.cons (Ob.put 23 rfl rfl rfl (by kernel_rfl) (by kernel_rfl) (by rw [bl_length]; exact info32) (bl_one _)) ?_
    exact Obs.nil
  replace hr_b0 := rangeAt_grown hr_b0 hD.gr
  replace hr_b0x := rangeAt_grown hr_b0x hD.gr
  replace hr_b0y := rangeAt_grown hr_b0y hD.gr
  replace hr_b0z := rangeAt_grown hr_b0z hD.gr
  replace hr_b0w := rangeAt_grown hr_b0w hD.gr
  replace hr_b0p := rangeAt_grown hr_b0p hD.gr
  replace hr_b1 := rangeAt_grown hr_b1 hD.gr
  replace hr_b1x := rangeAt_grown hr_b1x hD.gr
  replace hr_b1y := rangeAt_grown hr_b1y hD.gr
  replace hr_b1z := rangeAt_grown hr_b1z hD.gr
  replace hr_b1w := rangeAt_grown hr_b1w hD.gr
  replace hr_b1p := rangeAt_grown hr_b1p hD.gr
  replace hr_b3 := rangeAt_grown hr_b3 hD.gr
  replace hr_b4 := rangeAt_grown hr_b4 hD.gr
  replace hr_b5 := rangeAt_grown hr_b5 hD.gr
  replace hr_b6 := rangeAt_grown hr_b6 hD.gr
  replace hr_b7 := rangeAt_grown hr_b7 hD.gr
  replace ht_b2 := there_grown ht_b2 hD.gr
  replace ht_b3 := there_grown ht_b3 hD.gr
  replace ht_b4 := there_grown ht_b4 hD.gr
  replace ht_b5 := there_grown ht_b5 hD.gr
  replace ht_b6 := there_grown ht_b6 hD.gr
  replace ht_b7 := there_grown ht_b7 hD.gr
  obtain ⟨hf_b8, ht_b8⟩ := hD.nw 7 _ _ rfl
  have hr_b8 : w6.rangeAt (β 7) 0 (bl (fmul (dd) (fmul (t) (s)))) := hD.rg 8 7 7 (fun _ => bl (fmul (dd) (fmul (t) (s)))) rfl
  replace hf_b8 := Nat.le_trans hW.2.2 hf_b8
  replace hW := grown_trans hW hD.gr
  clear hD
  simp only [finAct, putAll, valsFrom, Plan.value, Act.put, List.setIfInBounds_toArray, List.set_cons_zero, List.set_cons_succ]
  replace hGl := hGl0.grown hW
  generalize β (0 + 1 + 1 + 1 + 1 + 1 + 1 + 1) = b8 at *
  repeat ((fail_if_success (with_reducible show Code.wp _ (Code.region _ _ _) _ _ _)); go_step)
  replace hr_b0 := rangeAt_grown hr_b0 (gdrew w6)
  replace hr_b0x := rangeAt_grown hr_b0x (gdrew w6)
  replace hr_b0y := rangeAt_grown hr_b0y (gdrew w6)
  replace hr_b0z := rangeAt_grown hr_b0z (gdrew w6)
  replace hr_b0w := rangeAt_grown hr_b0w (gdrew w6)
  replace hr_b0p := rangeAt_grown hr_b0p (gdrew w6)
  replace hr_b1 := rangeAt_grown hr_b1 (gdrew w6)
  replace hr_b1x := rangeAt_grown hr_b1x (gdrew w6)
  replace hr_b1y := rangeAt_grown hr_b1y (gdrew w6)
  replace hr_b1z := rangeAt_grown hr_b1z (gdrew w6)
  replace hr_b1w := rangeAt_grown hr_b1w (gdrew w6)
  replace hr_b1p := rangeAt_grown hr_b1p (gdrew w6)
  replace hr_b3 := rangeAt_grown hr_b3 (gdrew w6)
  replace hr_b4 := rangeAt_grown hr_b4 (gdrew w6)
  replace hr_b5 := rangeAt_grown hr_b5 (gdrew w6)
  replace hr_b6 := rangeAt_grown hr_b6 (gdrew w6)
  replace hr_b7 := rangeAt_grown hr_b7 (gdrew w6)
  replace hr_b8 := rangeAt_grown hr_b8 (gdrew w6)
  replace ht_b2 := there_grown ht_b2 (gdrew w6)
  replace ht_b3 := there_grown ht_b3 (gdrew w6)
  replace ht_b4 := there_grown ht_b4 (gdrew w6)
  replace ht_b5 := there_grown ht_b5 (gdrew w6)
  replace ht_b6 := there_grown ht_b6 (gdrew w6)
  replace ht_b7 := there_grown ht_b7 (gdrew w6)
  replace ht_b8 := there_grown ht_b8 (gdrew w6)
  replace hW := grown_trans hW (gdrew w6)
  replace hGl := hGl0.grown hW
  refine wp_loose_fin [.val (bv (sb (fmul (fadd (x) (y)) (fadd (u) (v))) (fadd (fmul (x) (u)) (fmul (y) (v))))), .val (bv (fmul (z) (c))), .val (bv (fmul (dd) (fmul (t) (s)))), .val (bv (fadd (fmul (z) (c)) (fmul (dd) (fmul (t) (s))))), .val (bv (fadd (fmul (x) (u)) (fmul (y) (v)))), .val (bv (fmul (z) (c))), .val (bv (fmul (dd) (fmul (t) (s)))), .val (bv (sb (fmul (z) (c)) (fmul (dd) (fmul (t) (s))))), .val (iv (fmul (sb (fmul (fadd (x) (y)) (fadd (u) (v))) (fadd (fmul (x) (u)) (fmul (y) (v)))) (sb (fmul (z) (c)) (fmul (dd) (fmul (t) (s))))) (fmul (fadd (fmul (x) (u)) (fmul (y) (v))) (fadd (fmul (z) (c)) (fmul (dd) (fmul (t) (s))))) (fmul (fadd (fmul (z) (c)) (fmul (dd) (fmul (t) (s)))) (sb (fmul (z) (c)) (fmul (dd) (fmul (t) (s))))) (fmul (sb (fmul (fadd (x) (y)) (fadd (u) (v))) (fadd (fmul (x) (u)) (fmul (y) (v)))) (fadd (fmul (x) (u)) (fmul (y) (v))))), .fin] (b2) 0 (fun _ => ics (fmul (sb (fmul (fadd (x) (y)) (fadd (u) (v))) (fadd (fmul (x) (u)) (fmul (y) (v)))) (sb (fmul (z) (c)) (fmul (dd) (fmul (t) (s))))) (fmul (fadd (fmul (x) (u)) (fmul (y) (v))) (fadd (fmul (z) (c)) (fmul (dd) (fmul (t) (s))))) (fmul (fadd (fmul (z) (c)) (fmul (dd) (fmul (t) (s)))) (sb (fmul (z) (c)) (fmul (dd) (fmul (t) (s))))) (fmul (sb (fmul (fadd (x) (y)) (fadd (u) (v))) (fadd (fmul (x) (u)) (fmul (y) (v)))) (fadd (fmul (x) (u)) (fmul (y) (v))))) (by kernel_rfl) (by kernel_rfl) (fun β => ?_) (fun β w7 hD => ?_)
  · refine Obs.cons (Ob.load (b6) 0 (bl (sb (fmul (fadd (x) (y)) (fadd (u) (v))) (fadd (fmul (x) (u)) (fmul (y) (v))))) rfl rfl (by kernel_rfl) hr_b6 Tryd.underlying23 rfl (by rw [bl_length]; exact info32)) ?_
    refine Obs.cons (Ob.load (b7) 0 (bl (fmul (z) (c))) rfl rfl (by kernel_rfl) hr_b7 Tryd.underlying23 rfl (by rw [bl_length]; exact info32)) ?_
    refine Obs.cons (Ob.load (b8) 0 (bl (fmul (dd) (fmul (t) (s)))) rfl rfl (by kernel_rfl) hr_b8 Tryd.underlying23 rfl (by rw [bl_length]; exact info32)) ?_
    refine Obs.cons (Ob.call 19 #[bv (fmul (z) (c)), bv (fmul (dd) (fmul (t) (s)))] rfl (fun w => by kernel_rfl) (fun w hg => Add_f (fmul (z) (c)) (fmul (dd) (fmul (t) (s))) (fmul_lt _ _) (fmul_lt _ _) w)) ?_
    refine Obs.cons (Ob.load (b5) 0 (bl (fadd (fmul (x) (u)) (fmul (y) (v)))) rfl rfl (by kernel_rfl) hr_b5 Tryd.underlying23 rfl (by rw [bl_length]; exact info32)) ?_
    refine Obs.cons (Ob.load (b7) 0 (bl (fmul (z) (c))) rfl rfl (by kernel_rfl) hr_b7 Tryd.underlying23 rfl (by rw [bl_length]; exact info32)) ?_
    refine Obs.cons (Ob.load (b8) 0 (bl (fmul (dd) (fmul (t) (s)))) rfl rfl (by kernel_rfl) hr_b8 Tryd.underlying23 rfl (by rw [bl_length]; exact info32)) ?_
    refine Obs.cons (Ob.call 29 #[bv (fmul (z) (c)), bv (fmul (dd) (fmul (t) (s)))] rfl (fun w => by kernel_rfl) (fun w hg => Sub_any (fmul (z) (c)) (fmul (dd) (fmul (t) (s))) (fmul_lt _ _) (fmul_lt _ _) w)) ?_
    refine Obs.cons (Ob.call 97 #[bv (sb (fmul (fadd (x) (y)) (fadd (u) (v))) (fadd (fmul (x) (u)) (fmul (y) (v)))), bv (fadd (fmul (z) (c)) (fmul (dd) (fmul (t) (s)))), bv (fadd (fmul (x) (u)) (fmul (y) (v))), bv (sb (fmul (z) (c)) (fmul (dd) (fmul (t) (s))))] rfl (fun w => by kernel_rfl) (fun w hg => quotients_num (sb (fmul (fadd (x) (y)) (fadd (u) (v))) (fadd (fmul (x) (u)) (fmul (y) (v)))) (fadd (fmul (z) (c)) (fmul (dd) (fmul (t) (s)))) (fadd (fmul (x) (u)) (fmul (y) (v))) (sb (fmul (z) (c)) (fmul (dd) (fmul (t) (s)))) (fsb_lt _ _) (fadd_lt _ _) (fadd_lt _ _) (fsb_lt _ _) w)) ?_
    refine Obs.cons (Ob.fin rfl (by rw [ics_length]; exact ht_b2) rfl (by kernel_rfl) (by kernel_rfl) (by rw [ics_length]; exact infoI) (ics_one _ _ _ _)) ?_
    exact Obs.nil
  replace hr_b0 := rangeAt_grown hr_b0 hD.gr
  replace hr_b0x := rangeAt_grown hr_b0x hD.gr
  replace hr_b0y := rangeAt_grown hr_b0y hD.gr
  replace hr_b0z := rangeAt_grown hr_b0z hD.gr
  replace hr_b0w := rangeAt_grown hr_b0w hD.gr
  replace hr_b0p := rangeAt_grown hr_b0p hD.gr
  replace hr_b1 := rangeAt_grown hr_b1 hD.gr
  replace hr_b1x := rangeAt_grown hr_b1x hD.gr
  replace hr_b1y := rangeAt_grown hr_b1y hD.gr
  replace hr_b1z := rangeAt_grown hr_b1z hD.gr
  replace hr_b1w := rangeAt_grown hr_b1w hD.gr
  replace hr_b1p := rangeAt_grown hr_b1p hD.gr
  replace hr_b3 := rangeAt_grown hr_b3 hD.gr
  replace hr_b4 := rangeAt_grown hr_b4 hD.gr
  replace hr_b5 := rangeAt_grown hr_b5 hD.gr
  replace hr_b6 := rangeAt_grown hr_b6 hD.gr
  replace hr_b7 := rangeAt_grown hr_b7 hD.gr
  replace hr_b8 := rangeAt_grown hr_b8 hD.gr
  replace ht_b2 := there_grown ht_b2 hD.gr
  replace ht_b3 := there_grown ht_b3 hD.gr
  replace ht_b4 := there_grown ht_b4 hD.gr
  replace ht_b5 := there_grown ht_b5 hD.gr
  replace ht_b6 := there_grown ht_b6 hD.gr
  replace ht_b7 := there_grown ht_b7 hD.gr
  replace ht_b8 := there_grown ht_b8 hD.gr
  replace hW := grown_trans hW hD.gr
  clear hD
  simp only [finAct, putAll, valsFrom, Plan.value, Act.put, List.setIfInBounds_toArray, List.set_cons_zero, List.set_cons_succ]
  replace hGl := hGl0.grown hW
  have hs7 := World.rangeAt_setCells_same w7 (b2) 0 (ics (fmul (sb (fmul (fadd (x) (y)) (fadd (u) (v))) (fadd (fmul (x) (u)) (fmul (y) (v)))) (sb (fmul (z) (c)) (fmul (dd) (fmul (t) (s))))) (fmul (fadd (fmul (x) (u)) (fmul (y) (v))) (fadd (fmul (z) (c)) (fmul (dd) (fmul (t) (s))))) (fmul (fadd (fmul (z) (c)) (fmul (dd) (fmul (t) (s)))) (sb (fmul (z) (c)) (fmul (dd) (fmul (t) (s))))) (fmul (sb (fmul (fadd (x) (y)) (fadd (u) (v))) (fadd (fmul (x) (u)) (fmul (y) (v)))) (fadd (fmul (x) (u)) (fmul (y) (v))))) (by rw [ics_length]; exact ht_b2)
  replace hW := grown_setCells hf_b2 (ics (fmul (sb (fmul (fadd (x) (y)) (fadd (u) (v))) (fadd (fmul (x) (u)) (fmul (y) (v)))) (sb (fmul (z) (c)) (fmul (dd) (fmul (t) (s))))) (fmul (fadd (fmul (x) (u)) (fmul (y) (v))) (fadd (fmul (z) (c)) (fmul (dd) (fmul (t) (s))))) (fmul (fadd (fmul (z) (c)) (fmul (dd) (fmul (t) (s)))) (sb (fmul (z) (c)) (fmul (dd) (fmul (t) (s))))) (fmul (sb (fmul (fadd (x) (y)) (fadd (u) (v))) (fadd (fmul (x) (u)) (fmul (y) (v)))) (fadd (fmul (x) (u)) (fmul (y) (v))))) 0 hW
  generalize w7.setCells (b2) 0 (ics (fmul (sb (fmul (fadd (x) (y)) (fadd (u) (v))) (fadd (fmul (x) (u)) (fmul (y) (v)))) (sb (fmul (z) (c)) (fmul (dd) (fmul (t) (s))))) (fmul (fadd (fmul (x) (u)) (fmul (y) (v))) (fadd (fmul (z) (c)) (fmul (dd) (fmul (t) (s))))) (fmul (fadd (fmul (z) (c)) (fmul (dd) (fmul (t) (s)))) (sb (fmul (z) (c)) (fmul (dd) (fmul (t) (s))))) (fmul (sb (fmul (fadd (x) (y)) (fadd (u) (v))) (fadd (fmul (x) (u)) (fmul (y) (v)))) (fadd (fmul (x) (u)) (fmul (y) (v))))) = w7s at *
  repeat go_step
  refine bodyPost_ret (v := iv (fmul (sb (fmul (fadd (x) (y)) (fadd (u) (v))) (fadd (fmul (x) (u)) (fmul (y) (v)))) (sb (fmul (z) (c)) (fmul (dd) (fmul (t) (s))))) (fmul (fadd (fmul (x) (u)) (fmul (y) (v))) (fadd (fmul (z) (c)) (fmul (dd) (fmul (t) (s))))) (fmul (fadd (fmul (z) (c)) (fmul (dd) (fmul (t) (s)))) (sb (fmul (z) (c)) (fmul (dd) (fmul (t) (s))))) (fmul (sb (fmul (fadd (x) (y)) (fadd (u) (v))) (fadd (fmul (x) (u)) (fmul (y) (v)))) (fadd (fmul (x) (u)) (fmul (y) (v))))) (result_cells Tryd.results82 _ _ (b2) _ ?hp hs7 Tryd.underlying93 rfl (by rw [ics_length]; exact infoI)) ?hd ?_
  case hp => rfl
  case hd => rfl
  exact ⟨rfl, hW⟩

theorem plus_d (x y z t u v c s : Nat) (hx : x < M) (hy : y < M) (hz : z < M) (ht : t < M) (hu : u < M) (hv : v < M) (hc : c < M) (hs : s < M) (w : World) (hGl0 : G2 w) :
    Calls Tryd.prog 82 #[iv x y z t, iv u v c s] w fun ex w' => ex = .returned (iv (plX x y z t u v c s) (plY x y z t u v c s) (plZ x y z t u v c s) (plT x y z t u v c s)) ∧ Grown w w' := iplus_num x y z t u v c s hx hy hz ht hu hv hc hs w hGl0

set_option maxRecDepth 100000 in
set_option maxHeartbeats 2000000 in
theorem Add_11 (x y u v : Nat) (hx : x < M) (hy : y < M) (hu : u < M) (hv : v < M) (ho : isP x y) (hq : isP u v) (w : World) (hGl0 : G2 w) :
    Calls Tryd.prog 46 #[pv x y, pv u v] w fun ex w' => ex = .returned (.tuple #[pv (fmul (plX (x) (y) (1) (fmul (x) (y)) (u) (v) (1) (fmul (u) (v))) (inv (plZ (x) (y) (1) (fmul (x) (y)) (u) (v) (1) (fmul (u) (v))))) (fmul (plY (x) (y) (1) (fmul (x) (y)) (u) (v) (1) (fmul (u) (v))) (inv (plZ (x) (y) (1) (fmul (x) (y)) (u) (v) (1) (fmul (u) (v))))), .int .i64 0]) ∧ Grown w w' := by
  have hW := Grown.refl w
  have hGl := hGl0
  go_enter Tryd.func46, Tryd.ntmps46
  repeat ((fail_if_success (with_reducible show Code.wp _ (Code.region _ _ _) _ _ _)); go_step)
  refine wp_plain [.box 37 (pcs (x) (y)), .box 37 (pcs (u) (v)), .new 37 64, .imm (.int .i64 (0))] (by kernel_rfl) (fun β => ?_) (fun β w1 hD => ?_)
  · refine Obs.cons (Ob.box rfl rfl (by kernel_rfl)) ?_
    refine Obs.cons (Ob.box rfl rfl (by kernel_rfl)) ?_
    refine Obs.cons (Ob.new _ rfl rfl zeroP (by simp [pcs_length])) ?_
    refine Obs.cons (Ob.imm rfl (fun w => by kernel_rfl)) ?_
    exact Obs.nil
  obtain ⟨hf_b0, hr_b0⟩ := hD.bx 0 _ _ rfl
  replace hf_b0 := Nat.le_trans hW.2.2 hf_b0
  obtain ⟨hf_b1, hr_b1⟩ := hD.bx 1 _ _ rfl
  replace hf_b1 := Nat.le_trans hW.2.2 hf_b1
  obtain ⟨hf_b2, ht_b2⟩ := hD.nw 2 _ _ rfl
  replace hf_b2 := Nat.le_trans hW.2.2 hf_b2
  replace hW := grown_trans hW hD.gr
  clear hD
  simp only [finAct, putAll, valsFrom, Plan.value, Act.put, List.setIfInBounds_toArray, List.set_cons_zero, List.set_cons_succ]
  replace hGl := hGl0.grown hW
  generalize β 0 = b0 at *
  generalize β (0 + 1) = b1 at *
  generalize β (0 + 1 + 1) = b2 at *
  have hr_b0x : w1.rangeAt b0 0 (bl (x)) := rangeAt_left hr_b0
  have hr_b0y : w1.rangeAt b0 32 (bl (y)) := rangeAt_right 32 (bl_length _) hr_b0
  have hr_b1x : w1.rangeAt b1 0 (bl (u)) := rangeAt_left hr_b1
  have hr_b1y : w1.rangeAt b1 32 (bl (v)) := rangeAt_right 32 (bl_length _) hr_b1
  repeat ((fail_if_success (with_reducible show Code.wp _ (Code.region _ _ _) _ _ _)); go_step)
  refine wp_plain [.val (pv (x) (y)), .val (.bool true), .imm (.bool false), .imm (.bool false), .val (pv (u) (v)), .val (.bool true), .imm (.bool false), .imm (.bool false)] (by kernel_rfl) (fun β => ?_) (fun β w2 hD => ?_)
  · refine Obs.cons (Ob.load (b0) 0 (pcs (x) (y)) rfl rfl (by kernel_rfl) hr_b0 Tryd.underlying37 rfl (by rw [pcs_length]; exact infoP)) ?_
    refine Obs.cons (Ob.call 34 #[pv (x) (y)] rfl (fun w => by kernel_rfl) (fun w hg => On_is (x) (y) hx hy true (decide_eq_true ho) w (hGl.grown hg).g2)) ?_
    refine Obs.cons (Ob.imm rfl (fun w => by kernel_rfl)) ?_
    refine Obs.cons (Ob.imm rfl (fun w => by kernel_rfl)) ?_
    refine Obs.cons (Ob.load (b1) 0 (pcs (u) (v)) (by kernel_rfl) rfl (by kernel_rfl) hr_b1 Tryd.underlying37 rfl (by rw [pcs_length]; exact infoP)) ?_
    refine Obs.cons (Ob.call 34 #[pv (u) (v)] (by kernel_rfl) (fun w => by kernel_rfl) (fun w hg => On_is (u) (v) hu hv true (decide_eq_true hq) w (hGl.grown hg).g2)) ?_
    refine Obs.cons (Ob.imm (by kernel_rfl) (fun w => by kernel_rfl)) ?_
    refine Obs.cons (Ob.imm rfl (fun w => by kernel_rfl)) ?_
    exact Obs.nil
  replace hr_b0 := rangeAt_grown hr_b0 hD.gr
  replace hr_b0x := rangeAt_grown hr_b0x hD.gr
  replace hr_b0y := rangeAt_grown hr_b0y hD.gr
  replace hr_b1 := rangeAt_grown hr_b1 hD.gr
  replace hr_b1x := rangeAt_grown hr_b1x hD.gr
  replace hr_b1y := rangeAt_grown hr_b1y hD.gr
  replace ht_b2 := there_grown ht_b2 hD.gr
  replace hW := grown_trans hW hD.gr
  clear hD
  simp only [finAct, putAll, valsFrom, Plan.value, Act.put, List.setIfInBounds_toArray, List.set_cons_zero, List.set_cons_succ]
  replace hGl := hGl0.grown hW
  repeat ((fail_if_success (with_reducible show Code.wp _ (Code.region _ _ _) _ _ _)); go_step)
  replace hr_b0 := rangeAt_grown hr_b0 (gdrew w2)
  replace hr_b0x := rangeAt_grown hr_b0x (gdrew w2)
  replace hr_b0y := rangeAt_grown hr_b0y (gdrew w2)
  replace hr_b1 := rangeAt_grown hr_b1 (gdrew w2)
  replace hr_b1x := rangeAt_grown hr_b1x (gdrew w2)
  replace hr_b1y := rangeAt_grown hr_b1y (gdrew w2)
  replace ht_b2 := there_grown ht_b2 (gdrew w2)
  replace hW := grown_trans hW (gdrew w2)
  replace hGl := hGl0.grown hW
  refine wp_loose_fin [.val (pv (x) (y)), .val (iv (x) (y) (1) (fmul (x) (y))), .val (pv (u) (v)), .val (iv (u) (v) (1) (fmul (u) (v))), .val (iv (plX (x) (y) (1) (fmul (x) (y)) (u) (v) (1) (fmul (u) (v))) (plY (x) (y) (1) (fmul (x) (y)) (u) (v) (1) (fmul (u) (v))) (plZ (x) (y) (1) (fmul (x) (y)) (u) (v) (1) (fmul (u) (v))) (plT (x) (y) (1) (fmul (x) (y)) (u) (v) (1) (fmul (u) (v)))), .val (pv (fmul (plX (x) (y) (1) (fmul (x) (y)) (u) (v) (1) (fmul (u) (v))) (inv (plZ (x) (y) (1) (fmul (x) (y)) (u) (v) (1) (fmul (u) (v))))) (fmul (plY (x) (y) (1) (fmul (x) (y)) (u) (v) (1) (fmul (u) (v))) (inv (plZ (x) (y) (1) (fmul (x) (y)) (u) (v) (1) (fmul (u) (v)))))), .fin, .imm (.int .i64 (0))] (b2) 0 (fun _ => pcs (fmul (plX (x) (y) (1) (fmul (x) (y)) (u) (v) (1) (fmul (u) (v))) (inv (plZ (x) (y) (1) (fmul (x) (y)) (u) (v) (1) (fmul (u) (v))))) (fmul (plY (x) (y) (1) (fmul (x) (y)) (u) (v) (1) (fmul (u) (v))) (inv (plZ (x) (y) (1) (fmul (x) (y)) (u) (v) (1) (fmul (u) (v)))))) (by kernel_rfl) (by kernel_rfl) (fun β => ?_) (fun β w3 hD => ?_)
  · refine Obs.cons (Ob.load (b0) 0 (pcs (x) (y)) rfl rfl (by kernel_rfl) hr_b0 Tryd.underlying37 rfl (by rw [pcs_length]; exact infoP)) ?_
    refine Obs.cons (Ob.call 76 #[pv (x) (y)] rfl (fun w => by kernel_rfl) (fun w hg => innerOf_num (x) (y) hx hy w (hGl.grown hg).g2)) ?_
    refine Obs.cons (Ob.load (b1) 0 (pcs (u) (v)) rfl rfl (by kernel_rfl) hr_b1 Tryd.underlying37 rfl (by rw [pcs_length]; exact infoP)) ?_
    refine Obs.cons (Ob.call 76 #[pv (u) (v)] rfl (fun w => by kernel_rfl) (fun w hg => innerOf_num (u) (v) hu hv w (hGl.grown hg).g2)) ?_
    refine Obs.cons (Ob.call 82 #[iv (x) (y) (1) (fmul (x) (y)), iv (u) (v) (1) (fmul (u) (v))] rfl (fun w => by kernel_rfl) (fun w hg => plus_d (x) (y) (1) (fmul (x) (y)) (u) (v) (1) (fmul (u) (v)) hx hy (by decide) (fmul_lt _ _) hu hv (by decide) (fmul_lt _ _) w (hGl.grown hg).g2)) ?_
    refine Obs.cons (Ob.call 78 #[iv (plX (x) (y) (1) (fmul (x) (y)) (u) (v) (1) (fmul (u) (v))) (plY (x) (y) (1) (fmul (x) (y)) (u) (v) (1) (fmul (u) (v))) (plZ (x) (y) (1) (fmul (x) (y)) (u) (v) (1) (fmul (u) (v))) (plT (x) (y) (1) (fmul (x) (y)) (u) (v) (1) (fmul (u) (v)))] rfl (fun w => by kernel_rfl) (fun w hg => plain_num (plX (x) (y) (1) (fmul (x) (y)) (u) (v) (1) (fmul (u) (v))) (plY (x) (y) (1) (fmul (x) (y)) (u) (v) (1) (fmul (u) (v))) (plZ (x) (y) (1) (fmul (x) (y)) (u) (v) (1) (fmul (u) (v))) (plT (x) (y) (1) (fmul (x) (y)) (u) (v) (1) (fmul (u) (v))) (plX_lt _ _ _ _ _ _ _ _) (plY_lt _ _ _ _ _ _ _ _) (plZ_lt _ _ _ _ _ _ _ _) w (hGl.grown hg).g0)) ?_
    refine Obs.cons (Ob.fin rfl (by rw [pcs_length]; exact ht_b2) rfl (by kernel_rfl) (by kernel_rfl) (by rw [pcs_length]; exact infoP) (pcs_one _ _)) ?_
    refine Obs.cons (Ob.imm rfl (fun w => by kernel_rfl)) ?_
    exact Obs.nil
  replace hr_b0 := rangeAt_grown hr_b0 hD.gr
  replace hr_b0x := rangeAt_grown hr_b0x hD.gr
  replace hr_b0y := rangeAt_grown hr_b0y hD.gr
  replace hr_b1 := rangeAt_grown hr_b1 hD.gr
  replace hr_b1x := rangeAt_grown hr_b1x hD.gr
  replace hr_b1y := rangeAt_grown hr_b1y hD.gr
  replace ht_b2 := there_grown ht_b2 hD.gr
  replace hW := grown_trans hW hD.gr
  clear hD
  simp only [finAct, putAll, valsFrom, Plan.value, Act.put, List.setIfInBounds_toArray, List.set_cons_zero, List.set_cons_succ]
  replace hGl := hGl0.grown hW
  have hs3 := World.rangeAt_setCells_same w3 (b2) 0 (pcs (fmul (plX (x) (y) (1) (fmul (x) (y)) (u) (v) (1) (fmul (u) (v))) (inv (plZ (x) (y) (1) (fmul (x) (y)) (u) (v) (1) (fmul (u) (v))))) (fmul (plY (x) (y) (1) (fmul (x) (y)) (u) (v) (1) (fmul (u) (v))) (inv (plZ (x) (y) (1) (fmul (x) (y)) (u) (v) (1) (fmul (u) (v)))))) (by rw [pcs_length]; exact ht_b2)
  replace hW := grown_setCells hf_b2 (pcs (fmul (plX (x) (y) (1) (fmul (x) (y)) (u) (v) (1) (fmul (u) (v))) (inv (plZ (x) (y) (1) (fmul (x) (y)) (u) (v) (1) (fmul (u) (v))))) (fmul (plY (x) (y) (1) (fmul (x) (y)) (u) (v) (1) (fmul (u) (v))) (inv (plZ (x) (y) (1) (fmul (x) (y)) (u) (v) (1) (fmul (u) (v)))))) 0 hW
  generalize w3.setCells (b2) 0 (pcs (fmul (plX (x) (y) (1) (fmul (x) (y)) (u) (v) (1) (fmul (u) (v))) (inv (plZ (x) (y) (1) (fmul (x) (y)) (u) (v) (1) (fmul (u) (v))))) (fmul (plY (x) (y) (1) (fmul (x) (y)) (u) (v) (1) (fmul (u) (v))) (inv (plZ (x) (y) (1) (fmul (x) (y)) (u) (v) (1) (fmul (u) (v)))))) = w3s at *
  repeat go_step
  refine bodyPost_ret (v := .tuple #[pv (fmul (plX (x) (y) (1) (fmul (x) (y)) (u) (v) (1) (fmul (u) (v))) (inv (plZ (x) (y) (1) (fmul (x) (y)) (u) (v) (1) (fmul (u) (v))))) (fmul (plY (x) (y) (1) (fmul (x) (y)) (u) (v) (1) (fmul (u) (v))) (inv (plZ (x) (y) (1) (fmul (x) (y)) (u) (v) (1) (fmul (u) (v))))), .int .i64 (0)]) (result_cell_tmp Tryd.results46 _ _ (b2) _ (.int .i64 (0)) ?hp ?hv hs3 Tryd.underlying37 rfl (by rw [pcs_length]; exact infoP)) ?hd ?_
  case hp => rfl
  case hv => rfl
  case hd => rfl
  exact ⟨rfl, hW⟩

set_option maxRecDepth 100000 in
set_option maxHeartbeats 2000000 in
theorem Add_10 (x y u v : Nat) (hx : x < M) (hy : y < M) (hu : u < M) (hv : v < M) (ho : isP x y) (hq : ¬ isP u v) (w : World) (hGl0 : G2 w) :
    Calls Tryd.prog 46 #[pv x y, pv u v] w fun ex w' => ex = .returned (.tuple #[pv (0) (0), .int .i64 43]) ∧ Grown w w' := by
  have hW := Grown.refl w
  have hGl := hGl0
  go_enter Tryd.func46, Tryd.ntmps46
  repeat ((fail_if_success (with_reducible show Code.wp _ (Code.region _ _ _) _ _ _)); go_step)
  refine wp_plain [.box 37 (pcs (x) (y)), .box 37 (pcs (u) (v)), .new 37 64, .imm (.int .i64 (0))] (by kernel_rfl) (fun β => ?_) (fun β w1 hD => ?_)
  · refine Obs.cons (Ob.box rfl rfl (by kernel_rfl)) ?_
    refine Obs.cons (Ob.box rfl rfl (by kernel_rfl)) ?_
    refine Obs.cons (Ob.new _ rfl rfl zeroP (by simp [pcs_length])) ?_
    refine Obs.cons (Ob.imm rfl (fun w => by kernel_rfl)) ?_
    exact Obs.nil
  obtain ⟨hf_b0, hr_b0⟩ := hD.bx 0 _ _ rfl
  replace hf_b0 := Nat.le_trans hW.2.2 hf_b0
  obtain ⟨hf_b1, hr_b1⟩ := hD.bx 1 _ _ rfl
  replace hf_b1 := Nat.le_trans hW.2.2 hf_b1
  obtain ⟨hf_b2, ht_b2⟩ := hD.nw 2 _ _ rfl
  replace hf_b2 := Nat.le_trans hW.2.2 hf_b2
  replace hW := grown_trans hW hD.gr
  clear hD
  simp only [finAct, putAll, valsFrom, Plan.value, Act.put, List.setIfInBounds_toArray, List.set_cons_zero, List.set_cons_succ]
  replace hGl := hGl0.grown hW
  generalize β 0 = b0 at *
  generalize β (0 + 1) = b1 at *
  generalize β (0 + 1 + 1) = b2 at *
  have hr_b0x : w1.rangeAt b0 0 (bl (x)) := rangeAt_left hr_b0
  have hr_b0y : w1.rangeAt b0 32 (bl (y)) := rangeAt_right 32 (bl_length _) hr_b0
  have hr_b1x : w1.rangeAt b1 0 (bl (u)) := rangeAt_left hr_b1
  have hr_b1y : w1.rangeAt b1 32 (bl (v)) := rangeAt_right 32 (bl_length _) hr_b1
  repeat ((fail_if_success (with_reducible show Code.wp _ (Code.region _ _ _) _ _ _)); go_step)
  refine wp_plain [.val (pv (x) (y)), .val (.bool true), .imm (.bool false), .imm (.bool false), .val (pv (u) (v)), .val (.bool false), .imm (.bool true), .imm (.bool true)] (by kernel_rfl) (fun β => ?_) (fun β w2 hD => ?_)
  · refine Obs.cons (Ob.load (b0) 0 (pcs (x) (y)) rfl rfl (by kernel_rfl) hr_b0 Tryd.underlying37 rfl (by rw [pcs_length]; exact infoP)) ?_
    refine Obs.cons (Ob.call 34 #[pv (x) (y)] rfl (fun w => by kernel_rfl) (fun w hg => On_is (x) (y) hx hy true (decide_eq_true ho) w (hGl.grown hg).g2)) ?_
    refine Obs.cons (Ob.imm rfl (fun w => by kernel_rfl)) ?_
    refine Obs.cons (Ob.imm rfl (fun w => by kernel_rfl)) ?_
    refine Obs.cons (Ob.load (b1) 0 (pcs (u) (v)) (by kernel_rfl) rfl (by kernel_rfl) hr_b1 Tryd.underlying37 rfl (by rw [pcs_length]; exact infoP)) ?_
    refine Obs.cons (Ob.call 34 #[pv (u) (v)] (by kernel_rfl) (fun w => by kernel_rfl) (fun w hg => On_is (u) (v) hu hv false (decide_eq_false hq) w (hGl.grown hg).g2)) ?_
    refine Obs.cons (Ob.imm (by kernel_rfl) (fun w => by kernel_rfl)) ?_
    refine Obs.cons (Ob.imm rfl (fun w => by kernel_rfl)) ?_
    exact Obs.nil
  replace hr_b0 := rangeAt_grown hr_b0 hD.gr
  replace hr_b0x := rangeAt_grown hr_b0x hD.gr
  replace hr_b0y := rangeAt_grown hr_b0y hD.gr
  replace hr_b1 := rangeAt_grown hr_b1 hD.gr
  replace hr_b1x := rangeAt_grown hr_b1x hD.gr
  replace hr_b1y := rangeAt_grown hr_b1y hD.gr
  replace ht_b2 := there_grown ht_b2 hD.gr
  replace hW := grown_trans hW hD.gr
  clear hD
  simp only [finAct, putAll, valsFrom, Plan.value, Act.put, List.setIfInBounds_toArray, List.set_cons_zero, List.set_cons_succ]
  replace hGl := hGl0.grown hW
  repeat ((fail_if_success (with_reducible show Code.wp _ (Code.region _ _ _) _ _ _)); go_step)
  refine wp_plain_fin [.imm (pv (0) (0)), .fin, .imm (.int .i64 (43))] (b2) 0 (fun _ => pcs (0) (0)) (by kernel_rfl) (fun β => ?_) (fun β w3 hD => ?_)
  · refine Obs.cons (Ob.imm rfl (fun w => exec_build rfl (by kernel_rfl) (build_pt0 w))) ?_
    refine Obs.cons (Ob.fin rfl (by rw [pcs_length]; exact ht_b2) rfl (by kernel_rfl) (by kernel_rfl) (by rw [pcs_length]; exact infoP) (pcs_one _ _)) ?_
    refine Obs.cons (Ob.imm rfl (fun w => by kernel_rfl)) ?_
    exact Obs.nil
  replace hr_b0 := rangeAt_grown hr_b0 hD.gr
  replace hr_b0x := rangeAt_grown hr_b0x hD.gr
  replace hr_b0y := rangeAt_grown hr_b0y hD.gr
  replace hr_b1 := rangeAt_grown hr_b1 hD.gr
  replace hr_b1x := rangeAt_grown hr_b1x hD.gr
  replace hr_b1y := rangeAt_grown hr_b1y hD.gr
  replace ht_b2 := there_grown ht_b2 hD.gr
  replace hW := grown_trans hW hD.gr
  clear hD
  simp only [finAct, putAll, valsFrom, Plan.value, Act.put, List.setIfInBounds_toArray, List.set_cons_zero, List.set_cons_succ]
  replace hGl := hGl0.grown hW
  have hs3 := World.rangeAt_setCells_same w3 (b2) 0 (pcs (0) (0)) (by rw [pcs_length]; exact ht_b2)
  replace hW := grown_setCells hf_b2 (pcs (0) (0)) 0 hW
  generalize w3.setCells (b2) 0 (pcs (0) (0)) = w3s at *
  repeat go_step
  refine bodyPost_ret (v := .tuple #[pv (0) (0), .int .i64 (43)]) (result_cell_tmp Tryd.results46 _ _ (b2) _ (.int .i64 (43)) ?hp ?hv hs3 Tryd.underlying37 rfl (by rw [pcs_length]; exact infoP)) ?hd ?_
  case hp => rfl
  case hv => rfl
  case hd => rfl
  exact ⟨rfl, hW⟩

set_option maxRecDepth 100000 in
set_option maxHeartbeats 2000000 in
theorem Add_0 (x y u v : Nat) (hx : x < M) (hy : y < M) (_hu : u < M) (_hv : v < M) (ho : ¬ isP x y) (w : World) (hGl0 : G2 w) :
    Calls Tryd.prog 46 #[pv x y, pv u v] w fun ex w' => ex = .returned (.tuple #[pv (0) (0), .int .i64 43]) ∧ Grown w w' := by
  have hW := Grown.refl w
  have hGl := hGl0
  go_enter Tryd.func46, Tryd.ntmps46
  repeat ((fail_if_success (with_reducible show Code.wp _ (Code.region _ _ _) _ _ _)); go_step)
  refine wp_plain [.box 37 (pcs (x) (y)), .box 37 (pcs (u) (v)), .new 37 64, .imm (.int .i64 (0))] (by kernel_rfl) (fun β => ?_) (fun β w1 hD => ?_)
  · refine Obs.cons (Ob.box rfl rfl (by kernel_rfl)) ?_
    refine Obs.cons (Ob.box rfl rfl (by kernel_rfl)) ?_
    refine Obs.cons (Ob.new _ rfl rfl zeroP (by simp [pcs_length])) ?_
    refine Obs.cons (Ob.imm rfl (fun w => by kernel_rfl)) ?_
    exact Obs.nil
  obtain ⟨hf_b0, hr_b0⟩ := hD.bx 0 _ _ rfl
  replace hf_b0 := Nat.le_trans hW.2.2 hf_b0
  obtain ⟨hf_b1, hr_b1⟩ := hD.bx 1 _ _ rfl
  replace hf_b1 := Nat.le_trans hW.2.2 hf_b1
  obtain ⟨hf_b2, ht_b2⟩ := hD.nw 2 _ _ rfl
  replace hf_b2 := Nat.le_trans hW.2.2 hf_b2
  replace hW := grown_trans hW hD.gr
  clear hD
  simp only [finAct, putAll, valsFrom, Plan.value, Act.put, List.setIfInBounds_toArray, List.set_cons_zero, List.set_cons_succ]
  replace hGl := hGl0.grown hW
  generalize β 0 = b0 at *
  generalize β (0 + 1) = b1 at *
  generalize β (0 + 1 + 1) = b2 at *
  have hr_b0x : w1.rangeAt b0 0 (bl (x)) := rangeAt_left hr_b0
  have hr_b0y : w1.rangeAt b0 32 (bl (y)) := rangeAt_right 32 (bl_length _) hr_b0
  have hr_b1x : w1.rangeAt b1 0 (bl (u)) := rangeAt_left hr_b1
  have hr_b1y : w1.rangeAt b1 32 (bl (v)) := rangeAt_right 32 (bl_length _) hr_b1
  repeat ((fail_if_success (with_reducible show Code.wp _ (Code.region _ _ _) _ _ _)); go_step)
  refine wp_plain [.val (pv (x) (y)), .val (.bool false), .imm (.bool true), .imm (.bool true), .skip, .skip, .skip, .imm (.bool true)] (by kernel_rfl) (fun β => ?_) (fun β w2 hD => ?_)
  · refine Obs.cons (Ob.load (b0) 0 (pcs (x) (y)) rfl rfl (by kernel_rfl) hr_b0 Tryd.underlying37 rfl (by rw [pcs_length]; exact infoP)) ?_
    refine Obs.cons (Ob.call 34 #[pv (x) (y)] rfl (fun w => by kernel_rfl) (fun w hg => On_is (x) (y) hx hy false (decide_eq_false ho) w (hGl.grown hg).g2)) ?_
    refine Obs.cons (Ob.imm rfl (fun w => by kernel_rfl)) ?_
    refine Obs.cons (Ob.imm rfl (fun w => by kernel_rfl)) ?_
    refine Obs.cons (Ob.skip (by kernel_rfl)) ?_
    refine Obs.cons (Ob.skip (by kernel_rfl)) ?_
    refine Obs.cons (Ob.skip (by kernel_rfl)) ?_
    refine Obs.cons (Ob.imm rfl (fun w => by kernel_rfl)) ?_
    exact Obs.nil
  replace hr_b0 := rangeAt_grown hr_b0 hD.gr
  replace hr_b0x := rangeAt_grown hr_b0x hD.gr
  replace hr_b0y := rangeAt_grown hr_b0y hD.gr
  replace hr_b1 := rangeAt_grown hr_b1 hD.gr
  replace hr_b1x := rangeAt_grown hr_b1x hD.gr
  replace hr_b1y := rangeAt_grown hr_b1y hD.gr
  replace ht_b2 := there_grown ht_b2 hD.gr
  replace hW := grown_trans hW hD.gr
  clear hD
  simp only [finAct, putAll, valsFrom, Plan.value, Act.put, List.setIfInBounds_toArray, List.set_cons_zero, List.set_cons_succ]
  replace hGl := hGl0.grown hW
  repeat ((fail_if_success (with_reducible show Code.wp _ (Code.region _ _ _) _ _ _)); go_step)
  refine wp_plain_fin [.imm (pv (0) (0)), .fin, .imm (.int .i64 (43))] (b2) 0 (fun _ => pcs (0) (0)) (by kernel_rfl) (fun β => ?_) (fun β w3 hD => ?_)
  · refine Obs.cons (Ob.imm rfl (fun w => exec_build rfl (by kernel_rfl) (build_pt0 w))) ?_
    refine Obs.cons (Ob.fin rfl (by rw [pcs_length]; exact ht_b2) rfl (by kernel_rfl) (by kernel_rfl) (by rw [pcs_length]; exact infoP) (pcs_one _ _)) ?_
    refine Obs.cons (Ob.imm rfl (fun w => by kernel_rfl)) ?_
    exact Obs.nil
  replace hr_b0 := rangeAt_grown hr_b0 hD.gr
  replace hr_b0x := rangeAt_grown hr_b0x hD.gr
  replace hr_b0y := rangeAt_grown hr_b0y hD.gr
  replace hr_b1 := rangeAt_grown hr_b1 hD.gr
  replace hr_b1x := rangeAt_grown hr_b1x hD.gr
  replace hr_b1y := rangeAt_grown hr_b1y hD.gr
  replace ht_b2 := there_grown ht_b2 hD.gr
  replace hW := grown_trans hW hD.gr
  clear hD
  simp only [finAct, putAll, valsFrom, Plan.value, Act.put, List.setIfInBounds_toArray, List.set_cons_zero, List.set_cons_succ]
  replace hGl := hGl0.grown hW
  have hs3 := World.rangeAt_setCells_same w3 (b2) 0 (pcs (0) (0)) (by rw [pcs_length]; exact ht_b2)
  replace hW := grown_setCells hf_b2 (pcs (0) (0)) 0 hW
  generalize w3.setCells (b2) 0 (pcs (0) (0)) = w3s at *
  repeat go_step
  refine bodyPost_ret (v := .tuple #[pv (0) (0), .int .i64 (43)]) (result_cell_tmp Tryd.results46 _ _ (b2) _ (.int .i64 (43)) ?hp ?hv hs3 Tryd.underlying37 rfl (by rw [pcs_length]; exact infoP)) ?hd ?_
  case hp => rfl
  case hv => rfl
  case hd => rfl
  exact ⟨rfl, hW⟩

set_option maxRecDepth 100000 in
set_option maxHeartbeats 2000000 in
theorem Neg_1 (x y : Nat) (hx : x < M) (hy : y < M) (ho : isP x y) (w : World) (hGl0 : G2 w) :
    Calls Tryd.prog 40 #[pv x y] w fun ex w' => ex = .returned (.tuple #[pv (ng (x)) (y), .int .i64 0]) ∧ Grown w w' := by
  have hW := Grown.refl w
  have hGl := hGl0
  go_enter Tryd.func40, Tryd.ntmps40
  repeat ((fail_if_success (with_reducible show Code.wp _ (Code.region _ _ _) _ _ _)); go_step)
  refine wp_plain [.box 37 (pcs (x) (y)), .new 37 64, .imm (.int .i64 (0))] (by kernel_rfl) (fun β => ?_) (fun β w1 hD => ?_)
  · refine Obs.cons (Ob.box rfl rfl (by kernel_rfl)) ?_
    refine Obs.cons (Ob.new _ rfl rfl zeroP (by simp [pcs_length])) ?_
    refine Obs.cons (Ob.imm rfl (fun w => by kernel_rfl)) ?_
    exact Obs.nil
  obtain ⟨hf_b0, hr_b0⟩ := hD.bx 0 _ _ rfl
  replace hf_b0 := Nat.le_trans hW.2.2 hf_b0
  obtain ⟨hf_b1, ht_b1⟩ := hD.nw 1 _ _ rfl
  replace hf_b1 := Nat.le_trans hW.2.2 hf_b1
  replace hW := grown_trans hW hD.gr
  clear hD
  simp only [finAct, putAll, valsFrom, Plan.value, Act.put, List.setIfInBounds_toArray, List.set_cons_zero, List.set_cons_succ]
  replace hGl := hGl0.grown hW
  generalize β 0 = b0 at *
  generalize β (0 + 1) = b1 at *
  have hr_b0x : w1.rangeAt b0 0 (bl (x)) := rangeAt_left hr_b0
  have hr_b0y : w1.rangeAt b0 32 (bl (y)) := rangeAt_right 32 (bl_length _) hr_b0
  repeat ((fail_if_success (with_reducible show Code.wp _ (Code.region _ _ _) _ _ _)); go_step)
  refine wp_plain [.val (pv (x) (y)), .val (.bool true), .imm (.bool false)] (by kernel_rfl) (fun β => ?_) (fun β w2 hD => ?_)
  · refine Obs.cons (Ob.load (b0) 0 (pcs (x) (y)) rfl rfl (by kernel_rfl) hr_b0 Tryd.underlying37 rfl (by rw [pcs_length]; exact infoP)) ?_
    refine Obs.cons (Ob.call 34 #[pv (x) (y)] rfl (fun w => by kernel_rfl) (fun w hg => On_is (x) (y) hx hy true (decide_eq_true ho) w (hGl.grown hg).g2)) ?_
    refine Obs.cons (Ob.imm rfl (fun w => by kernel_rfl)) ?_
    exact Obs.nil
  replace hr_b0 := rangeAt_grown hr_b0 hD.gr
  replace hr_b0x := rangeAt_grown hr_b0x hD.gr
  replace hr_b0y := rangeAt_grown hr_b0y hD.gr
  replace ht_b1 := there_grown ht_b1 hD.gr
  replace hW := grown_trans hW hD.gr
  clear hD
  simp only [finAct, putAll, valsFrom, Plan.value, Act.put, List.setIfInBounds_toArray, List.set_cons_zero, List.set_cons_succ]
  replace hGl := hGl0.grown hW
  repeat ((fail_if_success (with_reducible show Code.wp _ (Code.region _ _ _) _ _ _)); go_step)
  replace hr_b0 := rangeAt_grown hr_b0 (gdrew w2)
  replace hr_b0x := rangeAt_grown hr_b0x (gdrew w2)
  replace hr_b0y := rangeAt_grown hr_b0y (gdrew w2)
  replace ht_b1 := there_grown ht_b1 (gdrew w2)
  replace hW := grown_trans hW (gdrew w2)
  replace hGl := hGl0.grown hW
  refine wp_loose_fin [.imm (.pointer (some ⟨b0, 0, none⟩)), .val (bv (x)), .val (bv (ng (x))), .imm (.pointer (some ⟨b0, 32, none⟩)), .val (bv (y)), .imm (pv (ng (x)) (y)), .fin, .imm (.int .i64 (0))] (b1) 0 (fun _ => pcs (ng (x)) (y)) (by kernel_rfl) (by kernel_rfl) (fun β => ?_) (fun β w3 hD => ?_)
  · refine Obs.cons (Ob.imm rfl (fun w => by kernel_rfl)) ?_
    refine Obs.cons (Ob.load (b0) 0 (bl (x)) rfl rfl (by kernel_rfl) hr_b0x Tryd.underlying23 rfl (by rw [bl_length]; exact info32)) ?_
    refine Obs.cons (Ob.call 31 #[bv (x)] rfl (fun w => by kernel_rfl) (fun w hg => Neg_any (x) hx w)) ?_
    refine Obs.cons (Ob.imm rfl (fun w => by kernel_rfl)) ?_
    refine Obs.cons (Ob.load (b0) 32 (bl (y)) rfl rfl (by kernel_rfl) hr_b0y Tryd.underlying23 rfl (by rw [bl_length]; exact info32)) ?_
    refine Obs.cons (Ob.imm rfl (fun w => exec_build rfl (by kernel_rfl) (build_pt _ _ w))) ?_
    refine Obs.cons (Ob.fin rfl (by rw [pcs_length]; exact ht_b1) rfl (by kernel_rfl) (by kernel_rfl) (by rw [pcs_length]; exact infoP) (pcs_one _ _)) ?_
    refine Obs.cons (Ob.imm rfl (fun w => by kernel_rfl)) ?_
    exact Obs.nil
  replace hr_b0 := rangeAt_grown hr_b0 hD.gr
  replace hr_b0x := rangeAt_grown hr_b0x hD.gr
  replace hr_b0y := rangeAt_grown hr_b0y hD.gr
  replace ht_b1 := there_grown ht_b1 hD.gr
  replace hW := grown_trans hW hD.gr
  clear hD
  simp only [finAct, putAll, valsFrom, Plan.value, Act.put, List.setIfInBounds_toArray, List.set_cons_zero, List.set_cons_succ]
  replace hGl := hGl0.grown hW
  have hs3 := World.rangeAt_setCells_same w3 (b1) 0 (pcs (ng (x)) (y)) (by rw [pcs_length]; exact ht_b1)
  replace hW := grown_setCells hf_b1 (pcs (ng (x)) (y)) 0 hW
  generalize w3.setCells (b1) 0 (pcs (ng (x)) (y)) = w3s at *
  repeat go_step
  refine bodyPost_ret (v := .tuple #[pv (ng (x)) (y), .int .i64 (0)]) (result_cell_tmp Tryd.results40 _ _ (b1) _ (.int .i64 (0)) ?hp ?hv hs3 Tryd.underlying37 rfl (by rw [pcs_length]; exact infoP)) ?hd ?_
  case hp => rfl
  case hv => rfl
  case hd => rfl
  exact ⟨rfl, hW⟩

set_option maxRecDepth 100000 in
set_option maxHeartbeats 2000000 in
theorem Neg_0 (x y : Nat) (hx : x < M) (hy : y < M) (ho : ¬ isP x y) (w : World) (hGl0 : G2 w) :
    Calls Tryd.prog 40 #[pv x y] w fun ex w' => ex = .returned (.tuple #[pv (0) (0), .int .i64 43]) ∧ Grown w w' := by
  have hW := Grown.refl w
  have hGl := hGl0
  go_enter Tryd.func40, Tryd.ntmps40
  repeat ((fail_if_success (with_reducible show Code.wp _ (Code.region _ _ _) _ _ _)); go_step)
  refine wp_plain [.box 37 (pcs (x) (y)), .new 37 64, .imm (.int .i64 (0))] (by kernel_rfl) (fun β => ?_) (fun β w1 hD => ?_)
  · refine Obs.cons (Ob.box rfl rfl (by kernel_rfl)) ?_
    refine Obs.cons (Ob.new _ rfl rfl zeroP (by simp [pcs_length])) ?_
    refine Obs.cons (Ob.imm rfl (fun w => by kernel_rfl)) ?_
    exact Obs.nil
  obtain ⟨hf_b0, hr_b0⟩ := hD.bx 0 _ _ rfl
  replace hf_b0 := Nat.le_trans hW.2.2 hf_b0
  obtain ⟨hf_b1, ht_b1⟩ := hD.nw 1 _ _ rfl
  replace hf_b1 := Nat.le_trans hW.2.2 hf_b1
  replace hW := grown_trans hW hD.gr
  clear hD
  simp only [finAct, putAll, valsFrom, Plan.value, Act.put, List.setIfInBounds_toArray, List.set_cons_zero, List.set_cons_succ]
  replace hGl := hGl0.grown hW
  generalize β 0 = b0 at *
  generalize β (0 + 1) = b1 at *
  have hr_b0x : w1.rangeAt b0 0 (bl (x)) := rangeAt_left hr_b0
  have hr_b0y : w1.rangeAt b0 32 (bl (y)) := rangeAt_right 32 (bl_length _) hr_b0
  repeat ((fail_if_success (with_reducible show Code.wp _ (Code.region _ _ _) _ _ _)); go_step)
  refine wp_plain [.val (pv (x) (y)), .val (.bool false), .imm (.bool true)] (by kernel_rfl) (fun β => ?_) (fun β w2 hD => ?_)
  · refine Obs.cons (Ob.load (b0) 0 (pcs (x) (y)) rfl rfl (by kernel_rfl) hr_b0 Tryd.underlying37 rfl (by rw [pcs_length]; exact infoP)) ?_
    refine Obs.cons (Ob.call 34 #[pv (x) (y)] rfl (fun w => by kernel_rfl) (fun w hg => On_is (x) (y) hx hy false (decide_eq_false ho) w (hGl.grown hg).g2)) ?_
    refine Obs.cons (Ob.imm rfl (fun w => by kernel_rfl)) ?_
    exact Obs.nil
  replace hr_b0 := rangeAt_grown hr_b0 hD.gr
  replace hr_b0x := rangeAt_grown hr_b0x hD.gr
  replace hr_b0y := rangeAt_grown hr_b0y hD.gr
  replace ht_b1 := there_grown ht_b1 hD.gr
  replace hW := grown_trans hW hD.gr
  clear hD
  simp only [finAct, putAll, valsFrom, Plan.value, Act.put, List.setIfInBounds_toArray, List.set_cons_zero, List.set_cons_succ]
  replace hGl := hGl0.grown hW
  repeat ((fail_if_success (with_reducible show Code.wp _ (Code.region _ _ _) _ _ _)); go_step)
  refine wp_plain_fin [.imm (pv (0) (0)), .fin, .imm (.int .i64 (43))] (b1) 0 (fun _ => pcs (0) (0)) (by kernel_rfl) (fun β => ?_) (fun β w3 hD => ?_)
  · refine Obs.cons (Ob.imm rfl (fun w => exec_build rfl (by kernel_rfl) (build_pt0 w))) ?_
    refine Obs.cons (Ob.fin rfl (by rw [pcs_length]; exact ht_b1) rfl (by kernel_rfl) (by kernel_rfl) (by rw [pcs_length]; exact infoP) (pcs_one _ _)) ?_
    refine Obs.cons (Ob.imm rfl (fun w => by kernel_rfl)) ?_
    exact Obs.nil
  replace hr_b0 := rangeAt_grown hr_b0 hD.gr
  replace hr_b0x := rangeAt_grown hr_b0x hD.gr
  replace hr_b0y := rangeAt_grown hr_b0y hD.gr
  replace ht_b1 := there_grown ht_b1 hD.gr
  replace hW := grown_trans hW hD.gr
  clear hD
  simp only [finAct, putAll, valsFrom, Plan.value, Act.put, List.setIfInBounds_toArray, List.set_cons_zero, List.set_cons_succ]
  replace hGl := hGl0.grown hW
  have hs3 := World.rangeAt_setCells_same w3 (b1) 0 (pcs (0) (0)) (by rw [pcs_length]; exact ht_b1)
  replace hW := grown_setCells hf_b1 (pcs (0) (0)) 0 hW
  generalize w3.setCells (b1) 0 (pcs (0) (0)) = w3s at *
  repeat go_step
  refine bodyPost_ret (v := .tuple #[pv (0) (0), .int .i64 (43)]) (result_cell_tmp Tryd.results40 _ _ (b1) _ (.int .i64 (43)) ?hp ?hv hs3 Tryd.underlying37 rfl (by rw [pcs_length]; exact infoP)) ?hd ?_
  case hp => rfl
  case hv => rfl
  case hd => rfl
  exact ⟨rfl, hW⟩

set_option maxRecDepth 100000 in
set_option maxHeartbeats 2000000 in
theorem identity_num (x y z t : Nat) (hx : x < M) (hy : y < M) (hz : z < M) (bb : Bool) (h : decide (x = 0 ∧ y = z) = bb) (w : World) :
    Calls Tryd.prog 81 #[iv x y z t] w fun ex w' => ex = .returned (.bool bb) ∧ Grown w w' := by
  have hW := Grown.refl w
  go_enter Tryd.func81, Tryd.ntmps81
  repeat ((fail_if_success (with_reducible show Code.wp _ (Code.region _ _ _) _ _ _)); go_step)
  refine wp_plain [.box 93 (ics (x) (y) (z) (t)), .imm (.bool false)] (by kernel_rfl) (fun β => ?_) (fun β w1 hD => ?_)
  · refine Obs.cons (Ob.box rfl rfl (by kernel_rfl)) ?_
    refine Obs.cons (Ob.imm rfl (fun w => by kernel_rfl)) ?_
    exact Obs.nil
  obtain ⟨hf_b0, hr_b0⟩ := hD.bx 0 _ _ rfl
  replace hf_b0 := Nat.le_trans hW.2.2 hf_b0
  replace hW := grown_trans hW hD.gr
  clear hD
  simp only [finAct, putAll, valsFrom, Plan.value, Act.put, List.setIfInBounds_toArray, List.set_cons_zero, List.set_cons_succ]
  generalize β 0 = b0 at *
  have hr_b0x : w1.rangeAt b0 0 (bl (x)) := rangeAt_left hr_b0
  have hr_b0r := rangeAt_right 32 (bl_length _) hr_b0
  have hr_b0y : w1.rangeAt b0 32 (bl (y)) := rangeAt_left hr_b0r
  have hr_b0s := rangeAt_right 32 (bl_length _) hr_b0r
  have hr_b0z : w1.rangeAt b0 64 (bl (z)) := rangeAt_left hr_b0s
  have hr_b0w : w1.rangeAt b0 96 (bl (t)) := rangeAt_right 32 (bl_length _) hr_b0s
  clear hr_b0r hr_b0s
  have hr_b0p : w1.rangeAt b0 0 (pcs (x) (y)) := rangeAt_point hr_b0
  repeat ((fail_if_success (with_reducible show Code.wp _ (Code.region _ _ _) _ _ _)); go_step)
  refine wp_plain [.imm (.pointer (some ⟨b0, 0, none⟩)), .val (pv (x) (y)), .imm (.pointer (some ⟨b0, 64, none⟩)), .val (bv (z)), .imm (pv (0) (z)), .imm (.bool bb), .imm (.bool bb)] (by kernel_rfl) (fun β => ?_) (fun β w2 hD => ?_)
  · refine Obs.cons (Ob.imm rfl (fun w => by kernel_rfl)) ?_
    refine Obs.cons (Ob.load (b0) 0 (pcs (x) (y)) rfl rfl (by kernel_rfl) hr_b0p Tryd.underlying37 rfl (by rw [pcs_length]; exact infoP)) ?_
    refine Obs.cons (Ob.imm rfl (fun w => by kernel_rfl)) ?_
    refine Obs.cons (Ob.load (b0) 64 (bl (z)) rfl rfl (by kernel_rfl) hr_b0z Tryd.underlying23 rfl (by rw [bl_length]; exact info32)) ?_
    refine Obs.cons (Ob.imm rfl (fun w => exec_build rfl (by kernel_rfl) (build_ptY _ w))) ?_
    refine Obs.cons (Ob.imm rfl (fun w => exec_eqlP rfl (x) (y) (0) (z) (by kernel_rfl) (by kernel_rfl) hx hy (by decide) hz bb (h) w)) ?_
    refine Obs.cons (Ob.imm rfl (fun w => by kernel_rfl)) ?_
    exact Obs.nil
  replace hr_b0 := rangeAt_grown hr_b0 hD.gr
  replace hr_b0x := rangeAt_grown hr_b0x hD.gr
  replace hr_b0y := rangeAt_grown hr_b0y hD.gr
  replace hr_b0z := rangeAt_grown hr_b0z hD.gr
  replace hr_b0w := rangeAt_grown hr_b0w hD.gr
  replace hr_b0p := rangeAt_grown hr_b0p hD.gr
  replace hW := grown_trans hW hD.gr
  clear hD
  simp only [finAct, putAll, valsFrom, Plan.value, Act.put, List.setIfInBounds_toArray, List.set_cons_zero, List.set_cons_succ]
  repeat go_step
  go_ret
  exact ⟨rfl, hW⟩

set_option maxRecDepth 100000 in
set_option maxHeartbeats 2000000 in
theorem Small_1 (x y : Nat) (hx : x < M) (hy : y < M) (ho : isP x y) (w : World) (hGl0 : G2 w) :
    Calls Tryd.prog 44 #[pv x y] w fun ex w' => ex = .returned (.tuple #[.bool (decide ((dbX (dbX (dbX (x) (y) (1)) (dbY (x) (y)) (dbZ (x) (y) (1))) (dbY (dbX (x) (y) (1)) (dbY (x) (y))) (dbZ (dbX (x) (y) (1)) (dbY (x) (y)) (dbZ (x) (y) (1)))) = 0 ∧ (dbY (dbX (dbX (x) (y) (1)) (dbY (x) (y)) (dbZ (x) (y) (1))) (dbY (dbX (x) (y) (1)) (dbY (x) (y)))) = (dbZ (dbX (dbX (x) (y) (1)) (dbY (x) (y)) (dbZ (x) (y) (1))) (dbY (dbX (x) (y) (1)) (dbY (x) (y))) (dbZ (dbX (x) (y) (1)) (dbY (x) (y)) (dbZ (x) (y) (1)))))), .int .i64 0]) ∧ Grown w w' := by
  have hW := Grown.refl w
  have hGl := hGl0
  go_enter Tryd.func44, Tryd.ntmps44
  repeat ((fail_if_success (with_reducible show Code.wp _ (Code.region _ _ _) _ _ _)); go_step)
  refine wp_plain [.box 37 (pcs (x) (y)), .imm (.bool false), .imm (.int .i64 (0))] (by kernel_rfl) (fun β => ?_) (fun β w1 hD => ?_)
  · refine Obs.cons (Ob.box rfl rfl (by kernel_rfl)) ?_
    refine Obs.cons (Ob.imm rfl (fun w => by kernel_rfl)) ?_
    refine Obs.cons (Ob.imm rfl (fun w => by kernel_rfl)) ?_
    exact Obs.nil
  obtain ⟨hf_b0, hr_b0⟩ := hD.bx 0 _ _ rfl
  replace hf_b0 := Nat.le_trans hW.2.2 hf_b0
  replace hW := grown_trans hW hD.gr
  clear hD
  simp only [finAct, putAll, valsFrom, Plan.value, Act.put, List.setIfInBounds_toArray, List.set_cons_zero, List.set_cons_succ]
  replace hGl := hGl0.grown hW
  generalize β 0 = b0 at *
  have hr_b0x : w1.rangeAt b0 0 (bl (x)) := rangeAt_left hr_b0
  have hr_b0y : w1.rangeAt b0 32 (bl (y)) := rangeAt_right 32 (bl_length _) hr_b0
  repeat ((fail_if_success (with_reducible show Code.wp _ (Code.region _ _ _) _ _ _)); go_step)
  refine wp_plain [.val (pv (x) (y)), .val (.bool true), .imm (.bool false)] (by kernel_rfl) (fun β => ?_) (fun β w2 hD => ?_)
  · refine Obs.cons (Ob.load (b0) 0 (pcs (x) (y)) rfl rfl (by kernel_rfl) hr_b0 Tryd.underlying37 rfl (by rw [pcs_length]; exact infoP)) ?_
    refine Obs.cons (Ob.call 34 #[pv (x) (y)] rfl (fun w => by kernel_rfl) (fun w hg => On_is (x) (y) hx hy true (decide_eq_true ho) w (hGl.grown hg).g2)) ?_
    refine Obs.cons (Ob.imm rfl (fun w => by kernel_rfl)) ?_
    exact Obs.nil
  replace hr_b0 := rangeAt_grown hr_b0 hD.gr
  replace hr_b0x := rangeAt_grown hr_b0x hD.gr
  replace hr_b0y := rangeAt_grown hr_b0y hD.gr
  replace hW := grown_trans hW hD.gr
  clear hD
  simp only [finAct, putAll, valsFrom, Plan.value, Act.put, List.setIfInBounds_toArray, List.set_cons_zero, List.set_cons_succ]
  replace hGl := hGl0.grown hW
  repeat ((fail_if_success (with_reducible show Code.wp _ (Code.region _ _ _) _ _ _)); go_step)
  refine wp_plain [.val (pv (x) (y)), .val (iv (x) (y) (1) (fmul (x) (y))), .val (iv (dbX (x) (y) (1)) (dbY (x) (y)) (dbZ (x) (y) (1)) (dbT (x) (y))), .val (iv (dbX (dbX (x) (y) (1)) (dbY (x) (y)) (dbZ (x) (y) (1))) (dbY (dbX (x) (y) (1)) (dbY (x) (y))) (dbZ (dbX (x) (y) (1)) (dbY (x) (y)) (dbZ (x) (y) (1))) (dbT (dbX (x) (y) (1)) (dbY (x) (y)))), .val (iv (dbX (dbX (dbX (x) (y) (1)) (dbY (x) (y)) (dbZ (x) (y) (1))) (dbY (dbX (x) (y) (1)) (dbY (x) (y))) (dbZ (dbX (x) (y) (1)) (dbY (x) (y)) (dbZ (x) (y) (1)))) (dbY (dbX (dbX (x) (y) (1)) (dbY (x) (y)) (dbZ (x) (y) (1))) (dbY (dbX (x) (y) (1)) (dbY (x) (y)))) (dbZ (dbX (dbX (x) (y) (1)) (dbY (x) (y)) (dbZ (x) (y) (1))) (dbY (dbX (x) (y) (1)) (dbY (x) (y))) (dbZ (dbX (x) (y) (1)) (dbY (x) (y)) (dbZ (x) (y) (1)))) (dbT (dbX (dbX (x) (y) (1)) (dbY (x) (y)) (dbZ (x) (y) (1))) (dbY (dbX (x) (y) (1)) (dbY (x) (y))))), .val (.bool (decide ((dbX (dbX (dbX (x) (y) (1)) (dbY (x) (y)) (dbZ (x) (y) (1))) (dbY (dbX (x) (y) (1)) (dbY (x) (y))) (dbZ (dbX (x) (y) (1)) (dbY (x) (y)) (dbZ (x) (y) (1)))) = 0 ∧ (dbY (dbX (dbX (x) (y) (1)) (dbY (x) (y)) (dbZ (x) (y) (1))) (dbY (dbX (x) (y) (1)) (dbY (x) (y)))) = (dbZ (dbX (dbX (x) (y) (1)) (dbY (x) (y)) (dbZ (x) (y) (1))) (dbY (dbX (x) (y) (1)) (dbY (x) (y))) (dbZ (dbX (x) (y) (1)) (dbY (x) (y)) (dbZ (x) (y) (1))))))), .imm (.bool (decide ((dbX (dbX (dbX (x) (y) (1)) (dbY (x) (y)) (dbZ (x) (y) (1))) (dbY (dbX (x) (y) (1)) (dbY (x) (y))) (dbZ (dbX (x) (y) (1)) (dbY (x) (y)) (dbZ (x) (y) (1)))) = 0 ∧ (dbY (dbX (dbX (x) (y) (1)) (dbY (x) (y)) (dbZ (x) (y) (1))) (dbY (dbX (x) (y) (1)) (dbY (x) (y)))) = (dbZ (dbX (dbX (x) (y) (1)) (dbY (x) (y)) (dbZ (x) (y) (1))) (dbY (dbX (x) (y) (1)) (dbY (x) (y))) (dbZ (dbX (x) (y) (1)) (dbY (x) (y)) (dbZ (x) (y) (1))))))), .imm (.int .i64 (0))] (by kernel_rfl) (fun β => ?_) (fun β w3 hD => ?_)
  · refine Obs.cons (Ob.load (b0) 0 (pcs (x) (y)) rfl rfl (by kernel_rfl) hr_b0 Tryd.underlying37 rfl (by rw [pcs_length]; exact infoP)) ?_
    refine Obs.cons (Ob.call 76 #[pv (x) (y)] rfl (fun w => by kernel_rfl) (fun w hg => innerOf_num (x) (y) hx hy w (hGl.grown hg).g2)) ?_
    refine Obs.cons (Ob.call 77 #[iv (x) (y) (1) (fmul (x) (y))] rfl (fun w => by kernel_rfl) (fun w hg => doubled_d (x) (y) (1) (fmul (x) (y)) hx hy (by decide) w)) ?_
    refine Obs.cons (Ob.call 77 #[iv (dbX (x) (y) (1)) (dbY (x) (y)) (dbZ (x) (y) (1)) (dbT (x) (y))] rfl (fun w => by kernel_rfl) (fun w hg => doubled_d (dbX (x) (y) (1)) (dbY (x) (y)) (dbZ (x) (y) (1)) (dbT (x) (y)) (dbX_lt _ _ _) (dbY_lt _ _) (dbZ_lt _ _ _) w)) ?_
    refine Obs.cons (Ob.call 77 #[iv (dbX (dbX (x) (y) (1)) (dbY (x) (y)) (dbZ (x) (y) (1))) (dbY (dbX (x) (y) (1)) (dbY (x) (y))) (dbZ (dbX (x) (y) (1)) (dbY (x) (y)) (dbZ (x) (y) (1))) (dbT (dbX (x) (y) (1)) (dbY (x) (y)))] rfl (fun w => by kernel_rfl) (fun w hg => doubled_d (dbX (dbX (x) (y) (1)) (dbY (x) (y)) (dbZ (x) (y) (1))) (dbY (dbX (x) (y) (1)) (dbY (x) (y))) (dbZ (dbX (x) (y) (1)) (dbY (x) (y)) (dbZ (x) (y) (1))) (dbT (dbX (x) (y) (1)) (dbY (x) (y))) (dbX_lt _ _ _) (dbY_lt _ _) (dbZ_lt _ _ _) w)) ?_
    refine Obs.cons (Ob.call 81 #[iv (dbX (dbX (dbX (x) (y) (1)) (dbY (x) (y)) (dbZ (x) (y) (1))) (dbY (dbX (x) (y) (1)) (dbY (x) (y))) (dbZ (dbX (x) (y) (1)) (dbY (x) (y)) (dbZ (x) (y) (1)))) (dbY (dbX (dbX (x) (y) (1)) (dbY (x) (y)) (dbZ (x) (y) (1))) (dbY (dbX (x) (y) (1)) (dbY (x) (y)))) (dbZ (dbX (dbX (x) (y) (1)) (dbY (x) (y)) (dbZ (x) (y) (1))) (dbY (dbX (x) (y) (1)) (dbY (x) (y))) (dbZ (dbX (x) (y) (1)) (dbY (x) (y)) (dbZ (x) (y) (1)))) (dbT (dbX (dbX (x) (y) (1)) (dbY (x) (y)) (dbZ (x) (y) (1))) (dbY (dbX (x) (y) (1)) (dbY (x) (y))))] rfl (fun w => by kernel_rfl) (fun w hg => identity_num (dbX (dbX (dbX (x) (y) (1)) (dbY (x) (y)) (dbZ (x) (y) (1))) (dbY (dbX (x) (y) (1)) (dbY (x) (y))) (dbZ (dbX (x) (y) (1)) (dbY (x) (y)) (dbZ (x) (y) (1)))) (dbY (dbX (dbX (x) (y) (1)) (dbY (x) (y)) (dbZ (x) (y) (1))) (dbY (dbX (x) (y) (1)) (dbY (x) (y)))) (dbZ (dbX (dbX (x) (y) (1)) (dbY (x) (y)) (dbZ (x) (y) (1))) (dbY (dbX (x) (y) (1)) (dbY (x) (y))) (dbZ (dbX (x) (y) (1)) (dbY (x) (y)) (dbZ (x) (y) (1)))) (dbT (dbX (dbX (x) (y) (1)) (dbY (x) (y)) (dbZ (x) (y) (1))) (dbY (dbX (x) (y) (1)) (dbY (x) (y)))) (dbX_lt _ _ _) (dbY_lt _ _) (dbZ_lt _ _ _) _ rfl w)) ?_
    refine Obs.cons (Ob.imm rfl (fun w => by kernel_rfl)) ?_
    refine Obs.cons (Ob.imm rfl (fun w => by kernel_rfl)) ?_
    exact Obs.nil
  replace hr_b0 := rangeAt_grown hr_b0 hD.gr
  replace hr_b0x := rangeAt_grown hr_b0x hD.gr
  replace hr_b0y := rangeAt_grown hr_b0y hD.gr
  replace hW := grown_trans hW hD.gr
  clear hD
  simp only [finAct, putAll, valsFrom, Plan.value, Act.put, List.setIfInBounds_toArray, List.set_cons_zero, List.set_cons_succ]
  replace hGl := hGl0.grown hW
  repeat go_step
  refine bodyPost_ret (v := .tuple #[.bool (decide ((dbX (dbX (dbX (x) (y) (1)) (dbY (x) (y)) (dbZ (x) (y) (1))) (dbY (dbX (x) (y) (1)) (dbY (x) (y))) (dbZ (dbX (x) (y) (1)) (dbY (x) (y)) (dbZ (x) (y) (1)))) = 0 ∧ (dbY (dbX (dbX (x) (y) (1)) (dbY (x) (y)) (dbZ (x) (y) (1))) (dbY (dbX (x) (y) (1)) (dbY (x) (y)))) = (dbZ (dbX (dbX (x) (y) (1)) (dbY (x) (y)) (dbZ (x) (y) (1))) (dbY (dbX (x) (y) (1)) (dbY (x) (y))) (dbZ (dbX (x) (y) (1)) (dbY (x) (y)) (dbZ (x) (y) (1)))))), .int .i64 (0)]) (result_tmp2 Tryd.results44 _ _ (.bool (decide ((dbX (dbX (dbX (x) (y) (1)) (dbY (x) (y)) (dbZ (x) (y) (1))) (dbY (dbX (x) (y) (1)) (dbY (x) (y))) (dbZ (dbX (x) (y) (1)) (dbY (x) (y)) (dbZ (x) (y) (1)))) = 0 ∧ (dbY (dbX (dbX (x) (y) (1)) (dbY (x) (y)) (dbZ (x) (y) (1))) (dbY (dbX (x) (y) (1)) (dbY (x) (y)))) = (dbZ (dbX (dbX (x) (y) (1)) (dbY (x) (y)) (dbZ (x) (y) (1))) (dbY (dbX (x) (y) (1)) (dbY (x) (y))) (dbZ (dbX (x) (y) (1)) (dbY (x) (y)) (dbZ (x) (y) (1))))))) (.int .i64 (0)) ?hp ?hv) ?hd ?_
  case hp => rfl
  case hv => rfl
  case hd => rfl
  exact ⟨rfl, hW⟩

set_option maxRecDepth 100000 in
set_option maxHeartbeats 2000000 in
theorem Small_0 (x y : Nat) (hx : x < M) (hy : y < M) (ho : ¬ isP x y) (w : World) (hGl0 : G2 w) :
    Calls Tryd.prog 44 #[pv x y] w fun ex w' => ex = .returned (.tuple #[.bool false, .int .i64 43]) ∧ Grown w w' := by
  have hW := Grown.refl w
  have hGl := hGl0
  go_enter Tryd.func44, Tryd.ntmps44
  repeat ((fail_if_success (with_reducible show Code.wp _ (Code.region _ _ _) _ _ _)); go_step)
  refine wp_plain [.box 37 (pcs (x) (y)), .imm (.bool false), .imm (.int .i64 (0))] (by kernel_rfl) (fun β => ?_) (fun β w1 hD => ?_)
  · refine Obs.cons (Ob.box rfl rfl (by kernel_rfl)) ?_
    refine Obs.cons (Ob.imm rfl (fun w => by kernel_rfl)) ?_
    refine Obs.cons (Ob.imm rfl (fun w => by kernel_rfl)) ?_
    exact Obs.nil
  obtain ⟨hf_b0, hr_b0⟩ := hD.bx 0 _ _ rfl
  replace hf_b0 := Nat.le_trans hW.2.2 hf_b0
  replace hW := grown_trans hW hD.gr
  clear hD
  simp only [finAct, putAll, valsFrom, Plan.value, Act.put, List.setIfInBounds_toArray, List.set_cons_zero, List.set_cons_succ]
  replace hGl := hGl0.grown hW
  generalize β 0 = b0 at *
  have hr_b0x : w1.rangeAt b0 0 (bl (x)) := rangeAt_left hr_b0
  have hr_b0y : w1.rangeAt b0 32 (bl (y)) := rangeAt_right 32 (bl_length _) hr_b0
  repeat ((fail_if_success (with_reducible show Code.wp _ (Code.region _ _ _) _ _ _)); go_step)
  refine wp_plain [.val (pv (x) (y)), .val (.bool false), .imm (.bool true)] (by kernel_rfl) (fun β => ?_) (fun β w2 hD => ?_)
  · refine Obs.cons (Ob.load (b0) 0 (pcs (x) (y)) rfl rfl (by kernel_rfl) hr_b0 Tryd.underlying37 rfl (by rw [pcs_length]; exact infoP)) ?_
    refine Obs.cons (Ob.call 34 #[pv (x) (y)] rfl (fun w => by kernel_rfl) (fun w hg => On_is (x) (y) hx hy false (decide_eq_false ho) w (hGl.grown hg).g2)) ?_
    refine Obs.cons (Ob.imm rfl (fun w => by kernel_rfl)) ?_
    exact Obs.nil
  replace hr_b0 := rangeAt_grown hr_b0 hD.gr
  replace hr_b0x := rangeAt_grown hr_b0x hD.gr
  replace hr_b0y := rangeAt_grown hr_b0y hD.gr
  replace hW := grown_trans hW hD.gr
  clear hD
  simp only [finAct, putAll, valsFrom, Plan.value, Act.put, List.setIfInBounds_toArray, List.set_cons_zero, List.set_cons_succ]
  replace hGl := hGl0.grown hW
  repeat ((fail_if_success (with_reducible show Code.wp _ (Code.region _ _ _) _ _ _)); go_step)
  refine wp_plain [.imm (.bool false), .imm (.int .i64 (43))] (by kernel_rfl) (fun β => ?_) (fun β w3 hD => ?_)
  · refine Obs.cons (Ob.imm rfl (fun w => by kernel_rfl)) ?_
    refine Obs.cons (Ob.imm rfl (fun w => by kernel_rfl)) ?_
    exact Obs.nil
  replace hr_b0 := rangeAt_grown hr_b0 hD.gr
  replace hr_b0x := rangeAt_grown hr_b0x hD.gr
  replace hr_b0y := rangeAt_grown hr_b0y hD.gr
  replace hW := grown_trans hW hD.gr
  clear hD
  simp only [finAct, putAll, valsFrom, Plan.value, Act.put, List.setIfInBounds_toArray, List.set_cons_zero, List.set_cons_succ]
  replace hGl := hGl0.grown hW
  repeat go_step
  refine bodyPost_ret (v := .tuple #[.bool false, .int .i64 (43)]) (result_tmp2 Tryd.results44 _ _ (.bool false) (.int .i64 (43)) ?hp ?hv) ?hd ?_
  case hp => rfl
  case hv => rfl
  case hd => rfl
  exact ⟨rfl, hW⟩

end Go.Proofs.YtoimglbjepppmaaDoor
