import Derived.Test.YtehnnlhoajdcaaaGreatDoorNe
import Derived.Test.YtehnnlhoajdcaaaGreatDoorNf
import Derived.Test.YtehnnlhoajdcaaaGreatDoorNg
import Derived.Test.YtehnnlhoajdcaaaGreatDoorWh
import Derived.Test.YtehnnlhoajdcaaaGreatDoorNb
namespace Go.Proofs.YtehnnlhoajdcaaaGreatDoor
open Go.RowKit Go.Shelf TextNum
set_option maxRecDepth 100000 in
theorem numbers_walk (w : World) : Calls Tryz.prog 27 #[] w fun e w' => e = .returned (.bool true) ∧ w' = w := by
 go_enter Tryz.func27, Tryz.ntmps27
 go_wp2
 go_ret
 exact ⟨rfl, rfl⟩
set_option maxRecDepth 100000 in
set_option maxHeartbeats 4000000 in
theorem plays_k1 (a : Option Addr) (n c : Nat) (pad N : Int) (S : ByteArray) (qm qt : ByteArray) (qi : Int) (qa : Option Addr) (qn qc : Nat) (qa2 : Option Addr) (qn2 qc2 : Nat) (qa3 : Option Addr) (qn3 qc3 : Nat) (qp r0 r1 : Int) (ra : Option Addr) (rn rc : Nat) (ra2 : Option Addr) (rn2 rc2 : Nat) (ra3 : Option Addr) (rn3 rc3 : Nat) (rp : Int) (w : World) (hP : ∀ w2, Up w w2 → Calls Tryz.prog 8 #[.agg #[.int .i64 1, .slice a n c, .int .i64 pad, .int .i64 N, .string S, .string qm, .string qt, .int .i64 qi, .slice qa qn qc, .slice qa2 qn2 qc2, .slice qa3 qn3 qc3, .int .i64 qp, .int .i64 r0, .int .i64 r1, .slice ra rn rc, .slice ra2 rn2 rc2, .slice ra3 rn3 rc3, .int .i64 rp]] w2 fun e w' => e = .returned (.bool true) ∧ Up w2 w') :
  Calls Tryz.prog 28 #[.agg #[.int .i64 1, .slice a n c, .int .i64 pad, .int .i64 N, .string S, .string qm, .string qt, .int .i64 qi, .slice qa qn qc, .slice qa2 qn2 qc2, .slice qa3 qn3 qc3, .int .i64 qp, .int .i64 r0, .int .i64 r1, .slice ra rn rc, .slice ra2 rn2 rc2, .slice ra3 rn3 rc3, .int .i64 rp]] w fun e w' => e = .returned (.bool true) ∧ Up w w' := by
 have HP := Ho hP
 clear hP
 go_enter Tryz.func28, Tryz.ntmps28
 go_wp2_with (with_reducible refine sF 31 ?_)
 show wpList _ _ _ _ _ _
 refine spl fun w1 HA1 HU1 => ?_
 have p0 : w1.cell? ⟨w.heap.size, 0, none⟩ = _ := HA1.o.cell (i := 0) rfl
 go_wp2_with (with_reducible refine sL 31 ?_)
 show wpList _ _ _ _ _ _
 refine wpList_load_mid rfl _ _ rfl w.heap.size 0 rfl _ _ HA1.o.range Tryz.underlying31 rfl (by kernel_rfl) ?_
 simp only [Act.put, pB, pC, pD]
 go_wp2_with fail
 refine (HP.o w1 HU1.o).mono ?_
 rintro e w2 ⟨rfl, h9⟩
 have HU2 := Ho (HU1.o.trans h9)
 clear h9
 dsimp only
 go_wp2
 go_ret
 exact ⟨rfl, HU2.o⟩
set_option maxRecDepth 100000 in
set_option maxHeartbeats 4000000 in
theorem plays_k2 (a : Option Addr) (n c : Nat) (pad N : Int) (S : ByteArray) (qm qt : ByteArray) (qi : Int) (qa : Option Addr) (qn qc : Nat) (qa2 : Option Addr) (qn2 qc2 : Nat) (qa3 : Option Addr) (qn3 qc3 : Nat) (qp r0 r1 : Int) (ra : Option Addr) (rn rc : Nat) (ra2 : Option Addr) (rn2 rc2 : Nat) (ra3 : Option Addr) (rn3 rc3 : Nat) (rp : Int) (w : World) (hP : ∀ w2, Up w w2 → Calls Tryz.prog 8 #[.agg #[.int .i64 2, .slice a n c, .int .i64 pad, .int .i64 N, .string S, .string qm, .string qt, .int .i64 qi, .slice qa qn qc, .slice qa2 qn2 qc2, .slice qa3 qn3 qc3, .int .i64 qp, .int .i64 r0, .int .i64 r1, .slice ra rn rc, .slice ra2 rn2 rc2, .slice ra3 rn3 rc3, .int .i64 rp]] w2 fun e w' => e = .returned (.bool true) ∧ Up w2 w') :
  Calls Tryz.prog 28 #[.agg #[.int .i64 2, .slice a n c, .int .i64 pad, .int .i64 N, .string S, .string qm, .string qt, .int .i64 qi, .slice qa qn qc, .slice qa2 qn2 qc2, .slice qa3 qn3 qc3, .int .i64 qp, .int .i64 r0, .int .i64 r1, .slice ra rn rc, .slice ra2 rn2 rc2, .slice ra3 rn3 rc3, .int .i64 rp]] w fun e w' => e = .returned (.bool true) ∧ Up w w' := by
 have HP := Ho hP
 clear hP
 go_enter Tryz.func28, Tryz.ntmps28
 go_wp2_with (with_reducible refine sF 31 ?_)
 show wpList _ _ _ _ _ _
 refine spl fun w1 HA1 HU1 => ?_
 have p0 : w1.cell? ⟨w.heap.size, 0, none⟩ = _ := HA1.o.cell (i := 0) rfl
 go_wp2_with (with_reducible refine sL 31 ?_)
 show wpList _ _ _ _ _ _
 refine wpList_load_mid rfl _ _ rfl w.heap.size 0 rfl _ _ HA1.o.range Tryz.underlying31 rfl (by kernel_rfl) ?_
 simp only [Act.put, pB, pC, pD]
 go_wp2_with fail
 refine (HP.o w1 HU1.o).mono ?_
 rintro e w2 ⟨rfl, h9⟩
 have HU2 := Ho (HU1.o.trans h9)
 clear h9
 dsimp only
 go_wp2
 go_ret
 exact ⟨rfl, HU2.o⟩
set_option maxRecDepth 100000 in
set_option maxHeartbeats 4000000 in
theorem plays_k9 (a : Option Addr) (n c : Nat) (pad N : Int) (S : ByteArray) (qm qt : ByteArray) (qi : Int) (qa : Option Addr) (qn qc : Nat) (qa2 : Option Addr) (qn2 qc2 : Nat) (qa3 : Option Addr) (qn3 qc3 : Nat) (qp r0 r1 : Int) (ra : Option Addr) (rn rc : Nat) (ra2 : Option Addr) (rn2 rc2 : Nat) (ra3 : Option Addr) (rn3 rc3 : Nat) (rp : Int) (w : World) (hP : ∀ w2, Up w w2 → Calls Tryz.prog 8 #[.agg #[.int .i64 9, .slice a n c, .int .i64 pad, .int .i64 N, .string S, .string qm, .string qt, .int .i64 qi, .slice qa qn qc, .slice qa2 qn2 qc2, .slice qa3 qn3 qc3, .int .i64 qp, .int .i64 r0, .int .i64 r1, .slice ra rn rc, .slice ra2 rn2 rc2, .slice ra3 rn3 rc3, .int .i64 rp]] w2 fun e w' => e = .returned (.bool true) ∧ Up w2 w') :
  Calls Tryz.prog 28 #[.agg #[.int .i64 9, .slice a n c, .int .i64 pad, .int .i64 N, .string S, .string qm, .string qt, .int .i64 qi, .slice qa qn qc, .slice qa2 qn2 qc2, .slice qa3 qn3 qc3, .int .i64 qp, .int .i64 r0, .int .i64 r1, .slice ra rn rc, .slice ra2 rn2 rc2, .slice ra3 rn3 rc3, .int .i64 rp]] w fun e w' => e = .returned (.bool true) ∧ Up w w' := by
 have HP := Ho hP
 clear hP
 go_enter Tryz.func28, Tryz.ntmps28
 go_wp2_with (with_reducible refine sF 31 ?_)
 show wpList _ _ _ _ _ _
 refine spl fun w1 HA1 HU1 => ?_
 have p0 : w1.cell? ⟨w.heap.size, 0, none⟩ = _ := HA1.o.cell (i := 0) rfl
 go_wp2_with (with_reducible refine sL 31 ?_)
 show wpList _ _ _ _ _ _
 refine wpList_load_mid rfl _ _ rfl w.heap.size 0 rfl _ _ HA1.o.range Tryz.underlying31 rfl (by kernel_rfl) ?_
 simp only [Act.put, pB, pC, pD]
 go_wp2_with fail
 refine (HP.o w1 HU1.o).mono ?_
 rintro e w2 ⟨rfl, h9⟩
 have HU2 := Ho (HU1.o.trans h9)
 clear h9
 dsimp only
 go_wp2
 go_ret
 exact ⟨rfl, HU2.o⟩
set_option maxRecDepth 100000 in
set_option maxHeartbeats 4000000 in
theorem plays_k10 (a : Option Addr) (n c : Nat) (pad N : Int) (S : ByteArray) (qm qt : ByteArray) (qi : Int) (qa : Option Addr) (qn qc : Nat) (qa2 : Option Addr) (qn2 qc2 : Nat) (qa3 : Option Addr) (qn3 qc3 : Nat) (qp r0 r1 : Int) (ra : Option Addr) (rn rc : Nat) (ra2 : Option Addr) (rn2 rc2 : Nat) (ra3 : Option Addr) (rn3 rc3 : Nat) (rp : Int) (w : World) (hP : ∀ w2, Up w w2 → Calls Tryz.prog 8 #[.agg #[.int .i64 10, .slice a n c, .int .i64 pad, .int .i64 N, .string S, .string qm, .string qt, .int .i64 qi, .slice qa qn qc, .slice qa2 qn2 qc2, .slice qa3 qn3 qc3, .int .i64 qp, .int .i64 r0, .int .i64 r1, .slice ra rn rc, .slice ra2 rn2 rc2, .slice ra3 rn3 rc3, .int .i64 rp]] w2 fun e w' => e = .returned (.bool true) ∧ Up w2 w') :
  Calls Tryz.prog 28 #[.agg #[.int .i64 10, .slice a n c, .int .i64 pad, .int .i64 N, .string S, .string qm, .string qt, .int .i64 qi, .slice qa qn qc, .slice qa2 qn2 qc2, .slice qa3 qn3 qc3, .int .i64 qp, .int .i64 r0, .int .i64 r1, .slice ra rn rc, .slice ra2 rn2 rc2, .slice ra3 rn3 rc3, .int .i64 rp]] w fun e w' => e = .returned (.bool true) ∧ Up w w' := by
 have HP := Ho hP
 clear hP
 go_enter Tryz.func28, Tryz.ntmps28
 go_wp2_with (with_reducible refine sF 31 ?_)
 show wpList _ _ _ _ _ _
 refine spl fun w1 HA1 HU1 => ?_
 have p0 : w1.cell? ⟨w.heap.size, 0, none⟩ = _ := HA1.o.cell (i := 0) rfl
 go_wp2_with (with_reducible refine sL 31 ?_)
 show wpList _ _ _ _ _ _
 refine wpList_load_mid rfl _ _ rfl w.heap.size 0 rfl _ _ HA1.o.range Tryz.underlying31 rfl (by kernel_rfl) ?_
 simp only [Act.put, pB, pC, pD]
 go_wp2_with fail
 refine (HP.o w1 HU1.o).mono ?_
 rintro e w2 ⟨rfl, h9⟩
 have HU2 := Ho (HU1.o.trans h9)
 clear h9
 dsimp only
 go_wp2
 go_ret
 exact ⟨rfl, HU2.o⟩
set_option maxRecDepth 100000 in
set_option maxHeartbeats 4000000 in
theorem plays_k3 (a : Option Addr) (n c : Nat) (pad N : Int) (S : ByteArray) (qm qt : ByteArray) (qi : Int) (qa : Option Addr) (qn qc : Nat) (qa2 : Option Addr) (qn2 qc2 : Nat) (qa3 : Option Addr) (qn3 qc3 : Nat) (qp r0 r1 : Int) (ra : Option Addr) (rn rc : Nat) (ra2 : Option Addr) (rn2 rc2 : Nat) (ra3 : Option Addr) (rn3 rc3 : Nat) (rp : Int) (w : World) (hP : ∀ w2, Up w w2 → Calls Tryz.prog 61 #[.agg #[.int .i64 3, .slice a n c, .int .i64 pad, .int .i64 N, .string S, .string qm, .string qt, .int .i64 qi, .slice qa qn qc, .slice qa2 qn2 qc2, .slice qa3 qn3 qc3, .int .i64 qp, .int .i64 r0, .int .i64 r1, .slice ra rn rc, .slice ra2 rn2 rc2, .slice ra3 rn3 rc3, .int .i64 rp]] w2 fun e w' => e = .returned (.bool true) ∧ Up w2 w') :
  Calls Tryz.prog 28 #[.agg #[.int .i64 3, .slice a n c, .int .i64 pad, .int .i64 N, .string S, .string qm, .string qt, .int .i64 qi, .slice qa qn qc, .slice qa2 qn2 qc2, .slice qa3 qn3 qc3, .int .i64 qp, .int .i64 r0, .int .i64 r1, .slice ra rn rc, .slice ra2 rn2 rc2, .slice ra3 rn3 rc3, .int .i64 rp]] w fun e w' => e = .returned (.bool true) ∧ Up w w' := by
 have HP := Ho hP
 clear hP
 go_enter Tryz.func28, Tryz.ntmps28
 go_wp2_with (with_reducible refine sF 31 ?_)
 show wpList _ _ _ _ _ _
 refine spl fun w1 HA1 HU1 => ?_
 have p0 : w1.cell? ⟨w.heap.size, 0, none⟩ = _ := HA1.o.cell (i := 0) rfl
 go_wp2_with (with_reducible refine sL 31 ?_)
 show wpList _ _ _ _ _ _
 refine wpList_load_mid rfl _ _ rfl w.heap.size 0 rfl _ _ HA1.o.range Tryz.underlying31 rfl (by kernel_rfl) ?_
 simp only [Act.put, pB, pC, pD]
 go_wp2_with fail
 refine (HP.o w1 HU1.o).mono ?_
 rintro e w2 ⟨rfl, h9⟩
 have HU2 := Ho (HU1.o.trans h9)
 clear h9
 dsimp only
 go_wp2
 go_ret
 exact ⟨rfl, HU2.o⟩
set_option maxRecDepth 100000 in
set_option maxHeartbeats 4000000 in
theorem plays_k4 (a : Option Addr) (n c : Nat) (pad N : Int) (S : ByteArray) (qm qt : ByteArray) (qi : Int) (qa : Option Addr) (qn qc : Nat) (qa2 : Option Addr) (qn2 qc2 : Nat) (qa3 : Option Addr) (qn3 qc3 : Nat) (qp r0 r1 : Int) (ra : Option Addr) (rn rc : Nat) (ra2 : Option Addr) (rn2 rc2 : Nat) (ra3 : Option Addr) (rn3 rc3 : Nat) (rp : Int) (w : World) (hP : ∀ w2, Up w w2 → Calls Tryz.prog 61 #[.agg #[.int .i64 4, .slice a n c, .int .i64 pad, .int .i64 N, .string S, .string qm, .string qt, .int .i64 qi, .slice qa qn qc, .slice qa2 qn2 qc2, .slice qa3 qn3 qc3, .int .i64 qp, .int .i64 r0, .int .i64 r1, .slice ra rn rc, .slice ra2 rn2 rc2, .slice ra3 rn3 rc3, .int .i64 rp]] w2 fun e w' => e = .returned (.bool true) ∧ Up w2 w') :
  Calls Tryz.prog 28 #[.agg #[.int .i64 4, .slice a n c, .int .i64 pad, .int .i64 N, .string S, .string qm, .string qt, .int .i64 qi, .slice qa qn qc, .slice qa2 qn2 qc2, .slice qa3 qn3 qc3, .int .i64 qp, .int .i64 r0, .int .i64 r1, .slice ra rn rc, .slice ra2 rn2 rc2, .slice ra3 rn3 rc3, .int .i64 rp]] w fun e w' => e = .returned (.bool true) ∧ Up w w' := by
 have HP := Ho hP
 clear hP
 go_enter Tryz.func28, Tryz.ntmps28
 go_wp2_with (with_reducible refine sF 31 ?_)
 show wpList _ _ _ _ _ _
 refine spl fun w1 HA1 HU1 => ?_
 have p0 : w1.cell? ⟨w.heap.size, 0, none⟩ = _ := HA1.o.cell (i := 0) rfl
 go_wp2_with (with_reducible refine sL 31 ?_)
 show wpList _ _ _ _ _ _
 refine wpList_load_mid rfl _ _ rfl w.heap.size 0 rfl _ _ HA1.o.range Tryz.underlying31 rfl (by kernel_rfl) ?_
 simp only [Act.put, pB, pC, pD]
 go_wp2_with fail
 refine (HP.o w1 HU1.o).mono ?_
 rintro e w2 ⟨rfl, h9⟩
 have HU2 := Ho (HU1.o.trans h9)
 clear h9
 dsimp only
 go_wp2
 go_ret
 exact ⟨rfl, HU2.o⟩
set_option maxRecDepth 100000 in
set_option maxHeartbeats 4000000 in
theorem plays_k8 (a : Option Addr) (n c : Nat) (pad N : Int) (S : ByteArray) (qm qt : ByteArray) (qi : Int) (qa : Option Addr) (qn qc : Nat) (qa2 : Option Addr) (qn2 qc2 : Nat) (qa3 : Option Addr) (qn3 qc3 : Nat) (qp r0 r1 : Int) (ra : Option Addr) (rn rc : Nat) (ra2 : Option Addr) (rn2 rc2 : Nat) (ra3 : Option Addr) (rn3 rc3 : Nat) (rp : Int) (w : World) (ad : Nat → Addr) (hE : GE w ad) (hs : S.size ≤ 1048576) :
  Calls Tryz.prog 28 #[.agg #[.int .i64 8, .slice a n c, .int .i64 pad, .int .i64 N, .string S, .string qm, .string qt, .int .i64 qi, .slice qa qn qc, .slice qa2 qn2 qc2, .slice qa3 qn3 qc3, .int .i64 qp, .int .i64 r0, .int .i64 r1, .slice ra rn rc, .slice ra2 rn2 rc2, .slice ra3 rn3 rc3, .int .i64 rp]] w fun e w' => e = .returned (.bool true) ∧ Up w w' := by
 have HR := Ho (fun w2 => REscape_walk S (by omega) w2)
 have HP := Ho (fun w2 (k : Up w w2) => Escape_walk ad S (by omega) w2 (hE.up k))
 clear hE
 go_enter Tryz.func28, Tryz.ntmps28
 go_wp2_with (with_reducible refine sF 31 ?_)
 show wpList _ _ _ _ _ _
 refine spl fun w1 HA1 HU1 => ?_
 have p0 : w1.cell? ⟨w.heap.size, 0, none⟩ = _ := HA1.o.cell (i := 0) rfl
 have p4 : w1.cell? ⟨w.heap.size, 4, none⟩ = _ := HA1.o.cell (i := 4) rfl
 go_wp2_with fail
 refine (HR.o w1).mono ?_
 rintro e w2 ⟨rfl, h9⟩
 have HU2 := Ho (HU1.o.trans h9)
 have HA2 := Ho (HA1.o.up h9)
 clear h9 p0 p4 HR
 have HVv : Hd (eaR S.data.toList = eaR S.data.toList) := Ho rfl
 by_cases hb : eok S.data.toList = true
 · have hv : eaR S.data.toList = .tuple #[vs (escX S.data.toList), .int .i64 0] := by unfold eaR; rw [if_pos hb]
   rw [hv] at HP ⊢
   obtain ⟨X, hX⟩ := ny (⟨(escX S.data.toList).toArray⟩ : ByteArray)
   rw [show vs (escX S.data.toList) = .string X by rw [← hX]] at HP ⊢
   clear hX hv HVv
   have p4 : w2.cell? ⟨w.heap.size, 4, none⟩ = _ := HA2.o.cell (i := 4) rfl
   dsimp only
   go_wp2_with fail
   refine (HP.o w2 HU2.o).mono ?_
   rintro e w3 ⟨rfl, h9⟩
   have HU3 := Ho (HU2.o.trans h9)
   clear h9 p4 HP
   dsimp only
   have e1 : (X.toList == X.toList) = true := beq_self_eq_true _
   go_wp2
   go_ret
   exact ⟨rfl, HU3.o⟩
 have hv : eaR S.data.toList = .tuple #[.string ⟨#[]⟩, .int .i64 147] := by unfold eaR; rw [if_neg hb]
 rw [hv] at HP ⊢
 clear hv HVv
 have p4 : w2.cell? ⟨w.heap.size, 4, none⟩ = _ := HA2.o.cell (i := 4) rfl
 dsimp only
 go_wp2_with fail
 refine (HP.o w2 HU2.o).mono ?_
 rintro e w3 ⟨rfl, h9⟩
 have HU3 := Ho (HU2.o.trans h9)
 clear h9 p4 HP
 dsimp only
 go_wp2
 go_ret
 exact ⟨rfl, HU3.o⟩
set_option maxRecDepth 100000 in
set_option maxHeartbeats 4000000 in
theorem plays_k7 (a : Option Addr) (n c : Nat) (pad N : Int) (S : ByteArray) (qm qt : ByteArray) (qi : Int) (qa : Option Addr) (qn qc : Nat) (qa2 : Option Addr) (qn2 qc2 : Nat) (qa3 : Option Addr) (qn3 qc3 : Nat) (qp r0 r1 : Int) (ra : Option Addr) (rn rc : Nat) (ra2 : Option Addr) (rn2 rc2 : Nat) (ra3 : Option Addr) (rn3 rc3 : Nat) (rp : Int) (w : World) (ad : Nat → Addr) (hE : GE w ad) (hs : S.size ≤ 1048576) :
  Calls Tryz.prog 28 #[.agg #[.int .i64 7, .slice a n c, .int .i64 pad, .int .i64 N, .string S, .string qm, .string qt, .int .i64 qi, .slice qa qn qc, .slice qa2 qn2 qc2, .slice qa3 qn3 qc3, .int .i64 qp, .int .i64 r0, .int .i64 r1, .slice ra rn rc, .slice ra2 rn2 rc2, .slice ra3 rn3 rc3, .int .i64 rp]] w fun e w' => e = .returned (.bool true) ∧ Up w w' := by
 have HR := Ho (fun w2 => RPath_walk S (by omega) w2)
 have HP := Ho (fun w2 (k : Up w w2) => Path_walk ad S (by omega) w2 (hE.up k))
 clear hE
 go_enter Tryz.func28, Tryz.ntmps28
 go_wp2_with (with_reducible refine sF 31 ?_)
 show wpList _ _ _ _ _ _
 refine spl fun w1 HA1 HU1 => ?_
 have p0 : w1.cell? ⟨w.heap.size, 0, none⟩ = _ := HA1.o.cell (i := 0) rfl
 have p4 : w1.cell? ⟨w.heap.size, 4, none⟩ = _ := HA1.o.cell (i := 4) rfl
 go_wp2_with fail
 refine (HR.o w1).mono ?_
 rintro e w2 ⟨rfl, h9⟩
 have HU2 := Ho (HU1.o.trans h9)
 have HA2 := Ho (HA1.o.up h9)
 clear h9 p0 p4 HR
 have HVv : Hd (paR S.data.toList = paR S.data.toList) := Ho rfl
 by_cases hb : pok S.data.toList = true
 · have hv : paR S.data.toList = .tuple #[vs (pth S.data.toList), vs (cQ S.data.toList), .int .i64 0] := by unfold paR; rw [if_pos hb]
   rw [hv] at HP ⊢
   obtain ⟨X, hX⟩ := ny (⟨(pth S.data.toList).toArray⟩ : ByteArray)
   obtain ⟨Y, hY⟩ := ny (⟨(cQ S.data.toList).toArray⟩ : ByteArray)
   rw [show vs (pth S.data.toList) = .string X by rw [← hX], show vs (cQ S.data.toList) = .string Y by rw [← hY]] at HP ⊢
   clear hX hY hv HVv
   have p4 : w2.cell? ⟨w.heap.size, 4, none⟩ = _ := HA2.o.cell (i := 4) rfl
   dsimp only
   go_wp2_with fail
   refine (HP.o w2 HU2.o).mono ?_
   rintro e w3 ⟨rfl, h9⟩
   have HU3 := Ho (HU2.o.trans h9)
   clear h9 p4 HP
   dsimp only
   have e1 : (X.toList == X.toList) = true := beq_self_eq_true _
   have e2 : (Y.toList == Y.toList) = true := beq_self_eq_true _
   go_wp2
   go_ret
   exact ⟨rfl, HU3.o⟩
 have hv : paR S.data.toList = .tuple #[.string ⟨#[]⟩, .string ⟨#[]⟩, .int .i64 147] := by unfold paR; rw [if_neg hb]
 rw [hv] at HP ⊢
 clear hv HVv
 have p4 : w2.cell? ⟨w.heap.size, 4, none⟩ = _ := HA2.o.cell (i := 4) rfl
 dsimp only
 go_wp2_with fail
 refine (HP.o w2 HU2.o).mono ?_
 rintro e w3 ⟨rfl, h9⟩
 have HU3 := Ho (HU2.o.trans h9)
 clear h9 p4 HP
 dsimp only
 go_wp2
 go_ret
 exact ⟨rfl, HU3.o⟩
set_option maxRecDepth 100000 in
set_option maxHeartbeats 4000000 in
theorem plays_no (a : Option Addr) (n c : Nat) (pad N : Int) (S : ByteArray) (qm qt : ByteArray) (qi : Int) (qa : Option Addr) (qn qc : Nat) (qa2 : Option Addr) (qn2 qc2 : Nat) (qa3 : Option Addr) (qn3 qc3 : Nat) (qp r0 r1 : Int) (ra : Option Addr) (rn rc : Nat) (ra2 : Option Addr) (rn2 rc2 : Nat) (ra3 : Option Addr) (rn3 rc3 : Nat) (rp : Int) (w : World) (kd : Int) (k1 : (kd == 1) = false) (k2 : (kd == 2) = false) (k3 : (kd == 3) = false) (k4 : (kd == 4) = false) (k5 : (kd == 5) = false) (k6 : (kd == 6) = false) (k7 : (kd == 7) = false) (k8 : (kd == 8) = false) (k9 : (kd == 9) = false) (k10 : (kd == 10) = false) (k11 : (kd == 11) = false) :
  Calls Tryz.prog 28 #[.agg #[.int .i64 kd, .slice a n c, .int .i64 pad, .int .i64 N, .string S, .string qm, .string qt, .int .i64 qi, .slice qa qn qc, .slice qa2 qn2 qc2, .slice qa3 qn3 qc3, .int .i64 qp, .int .i64 r0, .int .i64 r1, .slice ra rn rc, .slice ra2 rn2 rc2, .slice ra3 rn3 rc3, .int .i64 rp]] w fun e w' => e = .returned (.bool true) ∧ Up w w' := by
 go_enter Tryz.func28, Tryz.ntmps28
 go_wp2_with (with_reducible refine sF 31 ?_)
 show wpList _ _ _ _ _ _
 refine spl fun w1 HA1 HU1 => ?_
 have p0 : w1.cell? ⟨w.heap.size, 0, none⟩ = _ := HA1.o.cell (i := 0) rfl
 go_wp2
 go_ret
 exact ⟨rfl, HU1.o⟩
end Go.Proofs.YtehnnlhoajdcaaaGreatDoor
namespace Go.Proofs.YtehnnlhoajdcaaaGreatDoor
open Go.RowKit TextNum
def sOf (e : Int) : Int := if e = 0 then 200 else match (List.range 12).find? fun k => nums k == e with
 | some k => stas k
 | none => 500
set_option maxRecDepth 100000 in
set_option maxHeartbeats 1000000 in
theorem StatusOf_walk (ad : Nat → Addr) (er : Int) (w : World) (h : GE w ad) : Calls Tryz.prog 70 #[.int .i64 er] w fun e w' => e = .returned (.int .i64 (sOf er)) ∧ Up w w' := by
 have HR := Ho (refusals_walk ad w h)
 clear h
 by_cases h0 : er = 0
 · subst h0
   go_enter Tryz.func70, Tryz.ntmps70
   go_wp2
   go_ret
   exact ⟨rfl, Up.refl _⟩
 have hez : (er == 0) = false := by rw [beq_eq_false_iff_ne]; exact h0
 have HS := Ho (show sOf er = match (List.range 12).find? fun k => nums k == er with
  | some k => stas k
  | none => 500 from if_neg h0)
 clear h0
 obtain ⟨so, hso⟩ := ny (sOf er)
 rw [hso] at HS ⊢
 clear hso
 go_enter Tryz.func70, Tryz.ntmps70
 go_wp2_with fail
 refine HR.o.mono ?_
 rintro e w1 ⟨rfl, u1⟩
 have HU1 := Ho u1
 clear u1 HR
 dsimp only
 obtain ⟨vr, hvr⟩ := ny (Value.agg (rfC ad).toArray)
 have HVR := Ho hvr
 rw [hvr]
 clear hvr
 go_wp2
 go_loopw [8] (fun v8 wr => ∃ i : Nat, v8 = .int .i64 (i : Int) ∧ i ≤ 12 ∧ Hd (Up w wr ∧ (List.range i).find? (fun k => nums k == er) = none)) (fun v8 _ => 12 - (intOf v8).toNat)
 case atStart => exact ⟨0, rfl, Nat.zero_le _, Ho ⟨HU1.o, rfl⟩⟩
 case round =>
  obtain ⟨i, rfl, hi, hU⟩ := hrel
  have HU := Ho hU.o
  clear hU
  by_cases hil : i < 12
  · have hiz : (i : Int) < 12 := by omega
    go_wp2_with (with_reducible show wpList _ _ _ (⟨_, .index 161 _ _, _, _, _, _⟩ :: _) _ _; refine Shut.out ?_)
    show wpList _ _ _ _ _ _
    refine wpList_val7 (.agg (rfR ad i).toArray) rfl (exec_rf ad i (by omega) rfl HVR.o.symm rfl) ?_
    simp only [Act.put, pB, pC, pD]
    have HUA := Ho (HU.o.1.alloc (.cells #[Value.iface 299 (Value.pointer (some (ad i))), Value.int IntKind.i64 (nums i), Value.int IntKind.i64 (stas i)] 160))
    have hrf : rfR ad i = [ev (ad i), .int .i64 (nums i), .int .i64 (stas i)] := rfl
    rw [hrf]
    have HX := Ho (show (List.range (i + 1)).find? (fun k => nums k == er) = if nums i == er then some i else none by
     rw [List.range_succ, List.find?_append, HU.o.2]
     simp)
    have HY := Ho (show nums i == er → so = stas i from fun e => by
     rw [HS.o]
     have h1 : (List.range 12).find? (fun k => nums k == er) = some i := by
      have h2 : List.range 12 = List.range (i + 1) ++ (List.range (12 - (i + 1))).map (i + 1 + ·) := by
       rw [← List.range_add]
       congr 1
       omega
      rw [h2, List.find?_append, HX.o, if_pos e]
      rfl
     rw [h1])
    generalize nums i = ni at *
    generalize stas i = si at *
    cases hne : (ni == er) with
    | true =>
     have HE := Ho (HY.o hne)
     go_wp2
     go_ret
     rw [HE.o]
     exact ⟨rfl, HUA.o⟩
    | false =>
     rw [hne] at HX
     go_wp2
     go_roundw
     all_goals first
      | exact ⟨i + 1, by go_num, by omega, Ho ⟨HUA.o, HX.o⟩⟩
      | (simp [intOf]; omega)
  have hiz : ¬ (i : Int) < 12 := by omega
  have hi12 : i = 12 := by omega
  subst hi12
  have HE := Ho (show so = 500 by rw [HS.o, HU.o.2])
  go_wp2
  go_ret
  rw [HE.o]
  exact ⟨rfl, HU.o.1⟩
set_option maxRecDepth 100000 in
set_option maxHeartbeats 1000000 in
theorem RStatusOf_walk (er : Int) (w : World) : Calls Tryz.prog 71 #[.int .i64 er] w fun e w' => e = .returned (.int .i64 (sOf er)) ∧ w' = w := by
 by_cases h0 : er = 0
 · subst h0
   go_enter Tryz.func71, Tryz.ntmps71
   go_wp2
   go_ret
   exact ⟨rfl, rfl⟩
 by_cases h140 : er = 140
 · subst h140
   go_enter Tryz.func71, Tryz.ntmps71
   go_wp2
   go_ret
   exact ⟨rfl, rfl⟩
 by_cases h141 : er = 141
 · subst h141
   go_enter Tryz.func71, Tryz.ntmps71
   go_wp2
   go_ret
   exact ⟨rfl, rfl⟩
 by_cases h143 : er = 143
 · subst h143
   go_enter Tryz.func71, Tryz.ntmps71
   go_wp2
   go_ret
   exact ⟨rfl, rfl⟩
 by_cases h144 : er = 144
 · subst h144
   go_enter Tryz.func71, Tryz.ntmps71
   go_wp2
   go_ret
   exact ⟨rfl, rfl⟩
 by_cases h146 : er = 146
 · subst h146
   go_enter Tryz.func71, Tryz.ntmps71
   go_wp2
   go_ret
   exact ⟨rfl, rfl⟩
 by_cases h145 : er = 145
 · subst h145
   go_enter Tryz.func71, Tryz.ntmps71
   go_wp2
   go_ret
   exact ⟨rfl, rfl⟩
 by_cases h147 : er = 147
 · subst h147
   go_enter Tryz.func71, Tryz.ntmps71
   go_wp2
   go_ret
   exact ⟨rfl, rfl⟩
 by_cases h2 : er = 2
 · subst h2
   go_enter Tryz.func71, Tryz.ntmps71
   go_wp2
   go_ret
   exact ⟨rfl, rfl⟩
 by_cases h148 : er = 148
 · subst h148
   go_enter Tryz.func71, Tryz.ntmps71
   go_wp2
   go_ret
   exact ⟨rfl, rfl⟩
 by_cases h142 : er = 142
 · subst h142
   go_enter Tryz.func71, Tryz.ntmps71
   go_wp2
   go_ret
   exact ⟨rfl, rfl⟩
 by_cases h1 : er = 1
 · subst h1
   go_enter Tryz.func71, Tryz.ntmps71
   go_wp2
   go_ret
   exact ⟨rfl, rfl⟩
 by_cases h149 : er = 149
 · subst h149
   go_enter Tryz.func71, Tryz.ntmps71
   go_wp2
   go_ret
   exact ⟨rfl, rfl⟩
 have HE := Ho (show sOf er = 500 by
  unfold sOf
  rw [if_neg h0]
  have hf : (List.range 12).find? (fun k => nums k == er) = none := by
   rw [List.find?_eq_none]
   intro k hk
   have hk12 : k < 12 := List.mem_range.1 hk
   rw [beq_iff_eq]
   intro e
   match k, hk12 with
   | 0, _ => exact h1 e.symm
   | 1, _ => exact h2 e.symm
   | 2, _ => exact h140 e.symm
   | 3, _ => exact h141 e.symm
   | 4, _ => exact h142 e.symm
   | 5, _ => exact h143 e.symm
   | 6, _ => exact h144 e.symm
   | 7, _ => exact h145 e.symm
   | 8, _ => exact h146 e.symm
   | 9, _ => exact h147 e.symm
   | 10, _ => exact h148 e.symm
   | 11, _ => exact h149 e.symm
  rw [hf])
 have z0 : (er == 0) = false := by rw [beq_eq_false_iff_ne]; exact h0
 have z140 : (er == 140) = false := by rw [beq_eq_false_iff_ne]; exact h140
 have z141 : (er == 141) = false := by rw [beq_eq_false_iff_ne]; exact h141
 have z143 : (er == 143) = false := by rw [beq_eq_false_iff_ne]; exact h143
 have z144 : (er == 144) = false := by rw [beq_eq_false_iff_ne]; exact h144
 have z146 : (er == 146) = false := by rw [beq_eq_false_iff_ne]; exact h146
 have z145 : (er == 145) = false := by rw [beq_eq_false_iff_ne]; exact h145
 have z147 : (er == 147) = false := by rw [beq_eq_false_iff_ne]; exact h147
 have z2 : (er == 2) = false := by rw [beq_eq_false_iff_ne]; exact h2
 have z148 : (er == 148) = false := by rw [beq_eq_false_iff_ne]; exact h148
 have z142 : (er == 142) = false := by rw [beq_eq_false_iff_ne]; exact h142
 have z1 : (er == 1) = false := by rw [beq_eq_false_iff_ne]; exact h1
 have z149 : (er == 149) = false := by rw [beq_eq_false_iff_ne]; exact h149
 clear h0 h140 h141 h143 h144 h146 h145 h147 h2 h148 h142 h1 h149
 go_enter Tryz.func71, Tryz.ntmps71
 go_wp2
 go_ret
 rw [HE.o]
 exact ⟨rfl, rfl⟩
end Go.Proofs.YtehnnlhoajdcaaaGreatDoor
namespace Go.Proofs.YtehnnlhoajdcaaaGreatDoor
open Go.RowKit Go.Shelf TextNum
set_option maxRecDepth 100000 in
set_option maxHeartbeats 1000000 in
theorem Value_walk (a : Option Addr) (fs : List FD) (c : Nat) (nm : ByteArray) (w : World) (h : FdL w a fs c) (hl : fs.length ≤ 1099511627776) (hs : ∀ f ∈ fs, f.n.size ≤ 4611686018427387904) :
  Calls Tryz.prog 63 #[.slice a fs.length c, .string nm] w fun e w' => e = .returned (vlR fs nm) ∧ Up w w' := by
 have HF := Ho h
 have HS := Ho hs
 have hcap := h.cap
 clear h hs
 go_enter Tryz.func63, Tryz.ntmps63
 go_wp2
 go_loopw [10] (fun v10 wr => ∃ i : Nat, v10 = .int .i64 (i : Int) ∧ i ≤ fs.length ∧ Hd (Up w wr ∧ fnd (fs.take i) nm = none)) (fun v10 _ => fs.length - (intOf v10).toNat)
 case atStart => exact ⟨0, rfl, Nat.zero_le _, Ho ⟨Up.refl _, rfl⟩⟩
 case round =>
  obtain ⟨i, rfl, hi, hU⟩ := hrel
  have HU := Ho hU.o
  clear hU
  by_cases hil : i < fs.length
  · have hilz : (i : Int) < (fs.length : Int) := by omega
    obtain ⟨b, off, rfl, k1, k2⟩ := HF.o.cells i hil
    have HR := Ho (range2 (HU.o.1.cell k1) (HU.o.1.cell k2))
    have HT := Ho (List.take_succ_eq_append_getElem hil)
    have HD := Ho (show fs = fs.take i ++ fs[i] :: fs.drop (i + 1) by rw [List.getElem_cons_drop, List.take_append_drop])
    have hfs := HS.o _ (List.getElem_mem hil)
    obtain ⟨f, hf⟩ := ny (fs[i])
    rw [hf] at HR HT HD hfs
    clear hf k1 k2
    go_wp2_with (with_reducible refine sI 36 ?_)
    show wpList _ _ _ _ _ _
    refine wpList_val7 (.pointer (some ⟨b, off + i * 2, none⟩)) rfl (exec_idxFd i hil rfl rfl rfl) ?_
    simp only [Act.put, pB, pC, pD]
    refine wpList_load_mid rfl _ _ rfl b (off + i * 2) rfl [.string f.n, .string f.v] _ HR.o Tryz.underlying89 rfl infoFd2 ?_
    simp only [Act.put, pB, pC, pD]
    go_wp2_with fail
    have HAt := Ho (at_new wr 89 [.string f.n, .string f.v])
    refine (sameWord_walk f.n nm _ hfs).mono ?_
    rintro e w5 ⟨rfl, u5⟩
    have HU5 := Ho ((HU.o.1.alloc (.cells [.string f.n, .string f.v].toArray 89)).trans u5)
    have c1 := (HAt.o.up u5).cell (i := 1) rfl
    clear u5 HAt
    dsimp only
    cases hw : (lws f.n.data.toList == lws nm.data.toList) with
    | true =>
     have HV := Ho (show vlR fs nm = .tuple #[.string f.v, .bool true] by
      unfold vlR
      have h1 : fnd fs nm = some f := by
       rw [HD.o]
       unfold fnd
       rw [List.find?_append]
       have h2 : (fs.take i).find? (fun f => lws f.n.data.toList == lws nm.data.toList) = none := HU.o.2
       rw [h2, List.find?_cons]
       simp [hw]
      rw [h1])
     clear hw
     go_wp2
     go_ret2
     rw [HV.o]
     exact ⟨rfl, HU5.o⟩
    | false =>
     have HN := Ho (show fnd (fs.take (i + 1)) nm = none by
      rw [HT.o]
      unfold fnd
      rw [List.find?_append]
      have h2 : (fs.take i).find? (fun f => lws f.n.data.toList == lws nm.data.toList) = none := HU.o.2
      rw [h2, List.find?_cons]
      simp [hw])
     clear hw
     go_wp2
     go_roundw
     all_goals first
      | exact ⟨i + 1, by go_num, by omega, Ho ⟨HU5.o, HN.o⟩⟩
      | (simp [intOf]; omega)
  have hilz : ¬ (i : Int) < (fs.length : Int) := by omega
  have HV := Ho (show vlR fs nm = .tuple #[.string ⟨#[]⟩, .bool false] by
   unfold vlR
   have h1 := HU.o.2
   rw [List.take_of_length_le (by omega)] at h1
   rw [h1])
  go_wp2
  go_ret2
  rw [HV.o]
  exact ⟨rfl, HU.o.1⟩
theorem fnd_alv (fs : List FD) (nm : ByteArray) (X : ByteArray) (h : X.data.toList = lws nm.data.toList) : vlR fs nm = match alv fs X with
  | [] => .tuple #[.string ⟨#[]⟩, .bool false]
  | v :: _ => .tuple #[.string v, .bool true] := by
 unfold vlR
 have hf : fnd fs nm = (fs.filter fun f => lws f.n.data.toList == X.data.toList).head? := by
  unfold fnd
  rw [h]
  induction fs with
  | nil => rfl
  | cons f r ih =>
   rw [List.find?_cons, List.filter_cons]
   cases (lws f.n.data.toList == lws nm.data.toList) with
   | true => rfl
   | false => exact ih
 rw [hf]
 unfold alv
 cases (fs.filter fun f => lws f.n.data.toList == X.data.toList) with
 | nil => rfl
 | cons f r => rfl
set_option maxRecDepth 100000 in
set_option maxHeartbeats 1000000 in
theorem RValue_walk (a : Option Addr) (fs : List FD) (c : Nat) (nm : ByteArray) (hnm : nm.size ≤ 1099511627776) (w : World) (h : FdL w a fs c) (hl : szs fs ≤ 1099511627776) :
  Calls Tryz.prog 62 #[.slice a fs.length c, .string nm] w fun e w' => e = .returned (vlR fs nm) ∧ Up w w' := by
 obtain ⟨X, hX⟩ := ny (⟨(lws nm.data.toList).toArray⟩ : ByteArray)
 have HSm := Ho (lowerL_walk nm w hnm)
 rw [hX] at HSm
 have HA := Ho (fun w2 (k : Up w w2) => Rall_walk a fs c X w2 (h.up k) hl)
 have hAl : (alv fs X).length ≤ 1099511627776 := by
  have h1 := szs_len fs
  unfold alv
  rw [List.length_map]
  have h2 := List.length_filter_le (fun f => lws f.n.data.toList == X.data.toList) fs
  omega
 have HR := Ho (fnd_alv fs nm X (by rw [← hX]))
 have hcap := h.cap
 obtain ⟨rv, hrv⟩ := ny (vlR fs nm)
 rw [hrv] at HR ⊢
 clear hrv hX h hl
 generalize alv fs X = vv at *
 go_enter Tryz.func62, Tryz.ntmps62
 go_wp2_with fail
 refine HSm.o.mono ?_
 rintro e w2 ⟨rfl, h9⟩
 have HU2 := Ho h9
 clear h9 HSm
 dsimp only
 go_wp2_with fail
 refine (HA.o w2 HU2.o).mono ?_
 rintro e w3 ⟨⟨a2, c2, rfl, hO⟩, h9⟩
 have HU3 := Ho (HU2.o.trans h9)
 have HO := Ho hO.o.stl
 have hcap2 := hO.o.stl.cap
 clear h9 HA hO
 cases vv with
 | nil =>
  dsimp only [List.length_nil]
  go_wp2
  go_ret2
  rw [HR.o]
  exact ⟨rfl, HU3.o⟩
 | cons v r =>
  obtain ⟨n, hn⟩ := ny ((v :: r).length)
  have hn0 : 0 < n := by rw [← hn, List.length_cons]; omega
  obtain ⟨b, off, rfl, k0⟩ := HO.o.cells 0 (by rw [hn]; exact hn0)
  have c0 : w3.cell? ⟨b, off, none⟩ = some (.string v) := k0
  rw [hn] at hcap2 hAl
  dsimp only
  rw [hn]
  have hnz : ((n : Int) == 0) = false := by rw [beq_eq_false_iff_ne]; omega
  clear hn k0 HO
  go_wp2
  go_ret2
  rw [HR.o]
  exact ⟨rfl, HU3.o⟩
set_option maxRecDepth 100000 in
set_option maxHeartbeats 4000000 in
theorem plays_k6 (a : Option Addr) (n c : Nat) (pad N : Int) (S : ByteArray) (qm qt : ByteArray) (qi : Int) (qa : Option Addr) (qn qc : Nat) (qa2 : Option Addr) (qn2 qc2 : Nat) (qa3 : Option Addr) (qn3 qc3 : Nat) (qp r0 r1 : Int) (ra : Option Addr) (rn rc : Nat) (ra2 : Option Addr) (rn2 rc2 : Nat) (ra3 : Option Addr) (rn3 rc3 : Nat) (rp : Int) (w : World) (hN0 : -9223372036854775808 ≤ N) (hN1 : N ≤ 9223372036854775807) (hG : GN w) (hRs : w.rangeAt 8 0 rsC) (hRi : w.rangeAt 9 0 rsI) (hRr : w.rangeAt 10 0 rsS) :
  Calls Tryz.prog 28 #[.agg #[.int .i64 6, .slice a n c, .int .i64 pad, .int .i64 N, .string S, .string qm, .string qt, .int .i64 qi, .slice qa qn qc, .slice qa2 qn2 qc2, .slice qa3 qn3 qc3, .int .i64 qp, .int .i64 r0, .int .i64 r1, .slice ra rn rc, .slice ra2 rn2 rc2, .slice ra3 rn3 rc3, .int .i64 rp]] w fun e w' => e = .returned (.bool true) ∧ Up w w' := by
 have HP := Ho (fun w2 (k : Up w w2) => Reason_walk N hN0 hN1 w2 (hG.up k) (range_up hRs k))
 have HR := Ho (fun w2 (k : Up w w2) => RReason_walk N hN0 hN1 w2 (range_up hRi k) (range_up hRr k))
 obtain ⟨X, hX⟩ := ny (⟨(rsn N).toArray⟩ : ByteArray)
 rw [show vs (rsn N) = .string X by rw [← hX]] at HP HR
 clear hX hG hRs hRi hRr
 go_enter Tryz.func28, Tryz.ntmps28
 go_wp2_with (with_reducible refine sF 31 ?_)
 show wpList _ _ _ _ _ _
 refine spl fun w1 HA1 HU1 => ?_
 have p0 : w1.cell? ⟨w.heap.size, 0, none⟩ = _ := HA1.o.cell (i := 0) rfl
 go_wp2
 clear p0
 have HUd := Ho HU1.o.drew
 have HAd := Ho (HA1.o.up (Up.refl _).drew)
 refine wp_region_held_drew (S := fun w2 => At w2 w.heap.size 31 [.int .i64 6, .slice a n c, .int .i64 pad, .int .i64 N, .string S, .string qm, .string qt, .int .i64 qi, .slice qa qn qc, .slice qa2 qn2 qc2, .slice qa3 qn3 qc3, .int .i64 qp, .int .i64 r0, .int .i64 r1, .slice ra rn rc, .slice ra2 rn2 rc2, .slice ra3 rn3 rc3, .int .i64 rp] ∧ Up w w2) (by kernel_rfl) ⟨HA1.o.up (Up.refl _).drew, HU1.o.drew⟩ (fun hS => ?_)
 refine tN 0 (some 63) (.fieldAddr 31 (.tmp 1) 3) 0 (.pointer (some ⟨w.heap.size, 3, none⟩)) hS ?_
 simp only [Act.put, pB, pC, pD]
 refine tK 1 (some 64) (.load 3 (.tmp 63)) 3 (.int .i64 N) hS ?_ ?_
 · intro _ _ w5 hSw
   have h0 := hSw.1.cell (i := 3) rfl
   clear hSw hS
   go_simp
 simp only [pA, pB, pC, pD]
 refine tN 3 (some 66) (.fieldAddr 31 (.tmp 1) 3) 0 (.pointer (some ⟨w.heap.size, 3, none⟩)) hS ?_
 simp only [pA, pB, pC, pD]
 refine tK 4 (some 67) (.load 3 (.tmp 66)) 3 (.int .i64 N) hS ?_ ?_
 · intro _ _ w5 hSw
   have h0 := hSw.1.cell (i := 3) rfl
   clear hSw hS
   go_simp
 simp only [pA, pB, pC, pD]
 refine rD 2 (some 65) (.call ⟨.value (.func 64), #[.tmp 64], #[3]⟩) 9 fun _ _ K hK => ?_
 rw [if_pos (by kernel_rfl)]
 go_simp
 refine (HP.o _ HUd.o).mono ?_
 rintro e w5 ⟨rfl, h9⟩
 have HU5 := Ho (HUd.o.trans h9)
 have HA5 := Ho (HAd.o.up h9)
 clear h9
 dsimp only
 refine hK.out _ _ ⟨HA5.o, HU5.o⟩ (fun hS => ?_)
 clear hK K
 refine rD 5 (some 68) (.call ⟨.value (.func 65), #[.tmp 67], #[3]⟩) 9 fun _ _ K hK => ?_
 rw [if_pos (by kernel_rfl)]
 go_simp
 refine (HR.o _ HU5.o).mono ?_
 rintro e w6 ⟨rfl, h9⟩
 have HU6 := Ho (HU5.o.trans h9)
 have HA6 := Ho (HA5.o.up h9)
 clear h9
 dsimp only
 refine hK.out _ _ ⟨HA6.o, HU6.o⟩ (fun hS => ?_)
 clear hK K
 refine tK 6 (some 69) (.binOp .eql 9 (.tmp 65) (.tmp 68) 9) 4 (.bool true) hS ?_ ?_
 · intro _ _ w5 hSw
   clear hSw hS
   (have e1 : (X.toList == X.toList) = true := beq_self_eq_true _); go_simp
 simp only [Act.put, pB, pC, pD]
 refine tN 7 (some 2) (.assign (.tmp 69)) 4 (.bool true) hS ?_
 simp only [pA, pB, pC, pD]
 clear hS
 refine wpAnyH_done (by kernel_rfl) ?_ _
 go_wp2
 go_ret
 exact ⟨rfl, HU6.o⟩
set_option maxRecDepth 100000 in
set_option maxHeartbeats 4000000 in
theorem plays_k11 (a : Option Addr) (n c : Nat) (pad N : Int) (S : ByteArray) (qm qt : ByteArray) (qi : Int) (qa : Option Addr) (qn qc : Nat) (qa2 : Option Addr) (qn2 qc2 : Nat) (qa3 : Option Addr) (qn3 qc3 : Nat) (qp r0 r1 : Int) (ra : Option Addr) (rn rc : Nat) (ra2 : Option Addr) (rn2 rc2 : Nat) (ra3 : Option Addr) (rn3 rc3 : Nat) (rp : Int) (w : World) (ad : Nat → Addr) (hE : GE w ad) :
  Calls Tryz.prog 28 #[.agg #[.int .i64 11, .slice a n c, .int .i64 pad, .int .i64 N, .string S, .string qm, .string qt, .int .i64 qi, .slice qa qn qc, .slice qa2 qn2 qc2, .slice qa3 qn3 qc3, .int .i64 qp, .int .i64 r0, .int .i64 r1, .slice ra rn rc, .slice ra2 rn2 rc2, .slice ra3 rn3 rc3, .int .i64 rp]] w fun e w' => e = .returned (.bool true) ∧ Up w w' := by
 have HP := Ho (fun w2 (k : Up w w2) => StatusOf_walk ad N w2 (hE.up k))
 have HR := Ho (show ∀ w2, Up w w2 → Calls Tryz.prog 71 #[.int .i64 N] w2 fun e w' => e = .returned (.int .i64 (sOf N)) ∧ Up w2 w' from fun w2 _ => (RStatusOf_walk N w2).mono (by
  rintro e w' ⟨rfl, rfl⟩
  exact ⟨rfl, Up.refl _⟩))
 obtain ⟨so, hso⟩ := ny (sOf N)
 rw [hso] at HP HR
 clear hso hE
 go_enter Tryz.func28, Tryz.ntmps28
 go_wp2_with (with_reducible refine sF 31 ?_)
 show wpList _ _ _ _ _ _
 refine spl fun w1 HA1 HU1 => ?_
 have p0 : w1.cell? ⟨w.heap.size, 0, none⟩ = _ := HA1.o.cell (i := 0) rfl
 go_wp2
 clear p0
 have HUd := Ho HU1.o.drew
 have HAd := Ho (HA1.o.up (Up.refl _).drew)
 refine wp_region_held_drew (S := fun w2 => At w2 w.heap.size 31 [.int .i64 11, .slice a n c, .int .i64 pad, .int .i64 N, .string S, .string qm, .string qt, .int .i64 qi, .slice qa qn qc, .slice qa2 qn2 qc2, .slice qa3 qn3 qc3, .int .i64 qp, .int .i64 r0, .int .i64 r1, .slice ra rn rc, .slice ra2 rn2 rc2, .slice ra3 rn3 rc3, .int .i64 rp] ∧ Up w w2) (by kernel_rfl) ⟨HA1.o.up (Up.refl _).drew, HU1.o.drew⟩ (fun hS => ?_)
 refine tN 0 (some 123) (.fieldAddr 31 (.tmp 1) 3) 0 (.pointer (some ⟨w.heap.size, 3, none⟩)) hS ?_
 simp only [Act.put, pB, pC, pD]
 refine tK 1 (some 124) (.load 3 (.tmp 123)) 3 (.int .i64 N) hS ?_ ?_
 · intro _ _ w5 hSw
   have h0 := hSw.1.cell (i := 3) rfl
   clear hSw hS
   go_simp
 simp only [pA, pB, pC, pD]
 refine tN 3 (some 126) (.fieldAddr 31 (.tmp 1) 3) 0 (.pointer (some ⟨w.heap.size, 3, none⟩)) hS ?_
 simp only [pA, pB, pC, pD]
 refine tK 4 (some 127) (.load 3 (.tmp 126)) 3 (.int .i64 N) hS ?_ ?_
 · intro _ _ w5 hSw
   have h0 := hSw.1.cell (i := 3) rfl
   clear hSw hS
   go_simp
 simp only [pA, pB, pC, pD]
 refine rD 2 (some 125) (.call ⟨.value (.func 70), #[.tmp 124], #[58]⟩) 3 fun _ _ K hK => ?_
 rw [if_pos (by kernel_rfl)]
 go_simp
 refine (HP.o _ HUd.o).mono ?_
 rintro e w5 ⟨rfl, h9⟩
 have HU5 := Ho (HUd.o.trans h9)
 have HA5 := Ho (HAd.o.up h9)
 clear h9
 dsimp only
 refine hK.out _ _ ⟨HA5.o, HU5.o⟩ (fun hS => ?_)
 clear hK K
 refine rD 5 (some 128) (.call ⟨.value (.func 71), #[.tmp 127], #[3]⟩) 3 fun _ _ K hK => ?_
 rw [if_pos (by kernel_rfl)]
 go_simp
 refine (HR.o _ HU5.o).mono ?_
 rintro e w6 ⟨rfl, h9⟩
 have HU6 := Ho (HU5.o.trans h9)
 have HA6 := Ho (HA5.o.up h9)
 clear h9
 dsimp only
 refine hK.out _ _ ⟨HA6.o, HU6.o⟩ (fun hS => ?_)
 clear hK K
 refine tK 6 (some 129) (.binOp .eql 3 (.tmp 125) (.tmp 128) 3) 4 (.bool true) hS ?_ ?_
 · intro _ _ w5 hSw
   clear hSw hS
   (have e1 : (so == so) = true := beq_self_eq_true _); go_simp
 simp only [Act.put, pB, pC, pD]
 refine tN 7 (some 2) (.assign (.tmp 129)) 4 (.bool true) hS ?_
 simp only [pA, pB, pC, pD]
 clear hS
 refine wpAnyH_done (by kernel_rfl) ?_ _
 go_wp2
 go_ret
 exact ⟨rfl, HU6.o⟩
theorem exec_loadQ {o : Oper} {ρ : Operand → Value} {x : Operand} {w : World} {b off : Nat} {v0 v1 v2 v3 v4 v5 v6 : Value} (ho : o.op = .load 27 x) (hx : ρ x = .pointer (some ⟨b, off, none⟩)) (h : w.rangeAt b off [v0, v1, v2, v3, v4, v5, v6]) : (execOp ρ o).run Tryz.prog w = .ok (.value (.agg #[v0, v1, v2, v3, v4, v5, v6])) w := by
 unfold execOp
 simp only [ho, hx]
 have := run_loadAt_mid (P := Tryz.prog) w b off 27 [v0, v1, v2, v3, v4, v5, v6] _ h Tryz.underlying27 rfl (by kernel_rfl)
 simp [this]
set_option maxRecDepth 100000 in
theorem fldR (m t : ByteArray) (mi : Int) (aF : Option Addr) (nF cF : Nat) (aR : Option Addr) (nR cR : Nat) (w : World) : (Instr.field 56 (.agg #[.string m, .string t, .int .i64 mi, .slice aF nF cF, .slice aR nR cR, .bool false]) 3).run Tryz.prog w = .ok (.slice aF nF cF) w := by kernel_rfl
theorem exec_fldR {o : Oper} {ρ : Operand → Value} {x : Operand} {w : World} {m t : ByteArray} {mi : Int} {aF : Option Addr} {nF cF : Nat} {aR : Option Addr} {nR cR : Nat} (ho : o.op = .field 56 x 3) (hx : ρ x = .agg #[.string m, .string t, .int .i64 mi, .slice aF nF cF, .slice aR nR cR, .bool false]) : (execOp ρ o).run Tryz.prog w = .ok (.value (.slice aF nF cF)) w := by
 have h := fldR m t mi aF nF cF aR nR cR w
 unfold execOp
 simp only [ho, hx]
 simp [h]
set_option maxRecDepth 100000 in
theorem fldP (m t : ByteArray) (mi : Int) (aF : Option Addr) (nF cF : Nat) (aR : Option Addr) (nR cR : Nat) (w : World) : (Instr.field 48 (.agg #[.string m, .string t, .int .i64 mi, .slice aF nF cF, .slice aR nR cR, .bool false]) 3).run Tryz.prog w = .ok (.slice aF nF cF) w := by kernel_rfl
theorem exec_fldP {o : Oper} {ρ : Operand → Value} {x : Operand} {w : World} {m t : ByteArray} {mi : Int} {aF : Option Addr} {nF cF : Nat} {aR : Option Addr} {nR cR : Nat} (ho : o.op = .field 48 x 3) (hx : ρ x = .agg #[.string m, .string t, .int .i64 mi, .slice aF nF cF, .slice aR nR cR, .bool false]) : (execOp ρ o).run Tryz.prog w = .ok (.value (.slice aF nF cF)) w := by
 have h := fldP m t mi aF nF cF aR nR cR w
 unfold execOp
 simp only [ho, hx]
 simp [h]
theorem vlR_form (fs : List FD) (nm : ByteArray) : ∃ X Y, vlR fs nm = .tuple #[.string X, .bool Y] := by
 unfold vlR
 split
 · exact ⟨_, _, rfl⟩
 exact ⟨_, _, rfl⟩
set_option maxRecDepth 100000 in
set_option maxHeartbeats 8000000 in
theorem plays_k5 (a : Option Addr) (n c : Nat) (pad N : Int) (S : ByteArray) (m t : ByteArray) (mi : Int) (an : Option Addr) (ns : List ByteArray) (nF cn : Nat) (av : Option Addr) (us : List ByteArray) (nV cv : Nat) (ab : Option Addr) (nb cb' : Nat) (bd : List UInt8) (qp : Int) (r0 r1 : Int) (ra : Option Addr) (rn rc : Nat) (ra2 : Option Addr) (rn2 rc2 : Nat) (ra3 : Option Addr) (rn3 rc3 : Nat) (rp : Int) (w : World) (hnF : ns.length = nF) (hnV : us.length = nV) (hN : StL w an ns cn) (hV : StL w av us cv) (hB : Sb w (.slice ab nb cb') bd)
  (hz : szs (mkF ns us) ≤ 1099511627000) (hnl : nF ≤ 1048576) (hbl : bd.length ≤ 1048576) (hS : S.size ≤ 1048576) :
  Calls Tryz.prog 28 #[.agg #[.int .i64 5, .slice a n c, .int .i64 pad, .int .i64 N, .string S, .string m, .string t, .int .i64 mi, .slice an nF cn, .slice av nV cv, .slice ab nb cb', .int .i64 qp, .int .i64 r0, .int .i64 r1, .slice ra rn rc, .slice ra2 rn2 rc2, .slice ra3 rn3 rc3, .int .i64 rp]] w fun e w' => e = .returned (.bool true) ∧ Up w w' := by
 obtain ⟨X, Y, hv⟩ := vlR_form (mkF ns us) S
 have HNF := Ho (show (mkF ns us).length = nF by rw [mkF_len]; exact hnF)
 have HQa := Ho (show ∀ w2, Up w w2 → _ from fun w2 k => asked_walk m t mi an ns cn av us cv ab nb cb' bd qp w2 (hN.up k) (hV.up k) (hB.up k) (by omega) hbl)
 have HQr := Ho (show ∀ w2, Up w w2 → _ from fun w2 k => request_walk m t mi an ns cn av us cv ab nb cb' bd qp w2 (hN.up k) (hV.up k) (hB.up k) (by omega) hbl)
 have HVa := Ho (show ∀ (aF : Option Addr) (cF : Nat) w2, FdL w2 aF (mkF ns us) cF → Up w w2 → _ from fun aF cF w2 h _ => RValue_walk aF (mkF ns us) cF S (by omega) w2 h (by omega))
 have HVr := Ho (show ∀ (aF : Option Addr) (cF : Nat) w2, FdL w2 aF (mkF ns us) cF → Up w w2 → _ from fun aF cF w2 h _ => Value_walk aF (mkF ns us) cF S w2 h (by have := szs_len (mkF ns us); omega) (fun f hf => by have := szs_mem (mkF ns us) hf; omega))
 rw [hv, HNF.o] at HVa HVr
 rw [hnF, hnV] at HQa HQr
 clear hv hN hV hB hz hnF hnV
 generalize mkF ns us = F at *
 have HX := Ho (fun W (h : At W w.heap.size 31 [.int .i64 5, .slice a n c, .int .i64 pad, .int .i64 N, .string S, .string m, .string t, .int .i64 mi, .slice an nF cn, .slice av nV cv, .slice ab nb cb', .int .i64 qp, .int .i64 r0, .int .i64 r1, .slice ra rn rc, .slice ra2 rn2 rc2, .slice ra3 rn3 rc3, .int .i64 rp]) => (show W.rangeAt w.heap.size 5 [.string m, .string t, .int .i64 mi, .slice an nF cn, .slice av nV cv, .slice ab nb cb', .int .i64 qp] from (rng_mid (p := [.int .i64 5, .slice a n c, .int .i64 pad, .int .i64 N, .string S]) (m := [.string m, .string t, .int .i64 mi, .slice an nF cn, .slice av nV cv, .slice ab nb cb', .int .i64 qp]) (s := [.int .i64 r0, .int .i64 r1, .slice ra rn rc, .slice ra2 rn2 rc2, .slice ra3 rn3 rc3, .int .i64 rp]) h.range)))
 go_enter Tryz.func28, Tryz.ntmps28
 go_wp2_with (with_reducible refine sF 31 ?_)
 show wpList _ _ _ _ _ _
 refine spl fun w1 HA1 HU1 => ?_
 have p0 : w1.cell? ⟨w.heap.size, 0, none⟩ = _ := HA1.o.cell (i := 0) rfl
 go_wp2
 clear p0
 refine wp_region_held_drew (S := fun w2 => At w2 w.heap.size 31 [.int .i64 5, .slice a n c, .int .i64 pad, .int .i64 N, .string S, .string m, .string t, .int .i64 mi, .slice an nF cn, .slice av nV cv, .slice ab nb cb', .int .i64 qp, .int .i64 r0, .int .i64 r1, .slice ra rn rc, .slice ra2 rn2 rc2, .slice ra3 rn3 rc3, .int .i64 rp] ∧ Up w w2) (by kernel_rfl) ⟨HA1.o.up (Up.refl _).drew, HU1.o.drew⟩ (fun hS => ?_)
 refine tN 0 (some 34) (.fieldAddr 31 (.tmp 1) 5) 0 (.pointer (some ⟨w.heap.size, 5, none⟩)) hS ?_
 simp only [Act.put, pB, pC, pD]
 refine tK 1 (some 35) (.load 27 (.tmp 34)) 27 (.agg #[.string m, .string t, .int .i64 mi, .slice an nF cn, .slice av nV cv, .slice ab nb cb', .int .i64 qp]) hS ?_ ?_
 · intro _ _ w5 hSw
   have h0 := HX.o _ hSw.1
   clear hSw hS
   exact exec_loadQ rfl rfl h0
 simp only [pA, pB, pC, pD]
 refine tN 4 (some 38) (.fieldAddr 31 (.tmp 1) 4) 0 (.pointer (some ⟨w.heap.size, 4, none⟩)) hS ?_
 simp only [pA, pB, pC, pD]
 refine tK 5 (some 39) (.load 9 (.tmp 38)) 9 (.string S) hS ?_ ?_
 · intro _ _ w5 hSw
   have h0 := hSw.1.cell (i := 4) rfl
   clear hSw hS
   go_simp
 simp only [pA, pB, pC, pD]
 refine rD 2 (some 36) (.call ⟨.value (.func 19), #[.tmp 35], #[27]⟩) 56 fun _ _ K hK => ?_
 rw [if_pos (by kernel_rfl)]
 go_simp
 refine (HQa.o _ HU1.o.drew).mono ?_
 rintro e w2 ⟨⟨aF, cF, vF, rfl, hO⟩, h9⟩
 obtain ⟨aR, cR, rfl⟩ := row_len hO.o.2
 have HU2 := Ho (HU1.o.drew.trans h9)
 have HA2 := Ho ((HA1.o.up (Up.refl _).drew).up h9)
 have HF2 := Ho (RfO.fdl hO.o.1)
 have hcF := HF2.o.cap
 rw [HNF.o] at hcF
 clear h9 hO
 dsimp only
 refine hK.out _ _ ⟨HA2.o, HU2.o⟩ (fun hS => ?_)
 clear hK K
 refine tK 3 (some 37) (.field 56 (.tmp 36) 3) 54 (.slice aF nF cF) hS ?_ ?_
 · intro _ _ w5 hSw
   clear hSw hS
   exact exec_fldR rfl rfl
 simp only [Act.put, pB, pC, pD]
 refine rD 6 (some 40) (.call ⟨.value (.func 62), #[.tmp 37, .tmp 39], #[54, 9]⟩) 114 fun _ _ K hK => ?_
 rw [if_pos (by kernel_rfl)]
 go_simp
 refine (HVa.o aF cF _ HF2.o HU2.o).mono ?_
 rintro e w3 ⟨rfl, h9⟩
 have HU3 := Ho (HU2.o.trans h9)
 have HA3 := Ho (HA2.o.up h9)
 clear h9 hcF
 dsimp only
 refine hK.out _ _ ⟨HA3.o, HU3.o⟩ (fun hS => ?_)
 clear hK K
 refine tN 7 (some 33) (.move (.tmp 40)) 114 (.tuple #[.string X, .bool Y]) hS ?_
 simp only [Act.put, pB, pC, pD]
 refine tN 8 (some 41) (.extract (.tmp 33) 0) 9 (.string X) hS ?_
 simp only [pA, pB, pC, pD]
 refine tN 9 (some 42) (.extract (.tmp 33) 1) 4 (.bool Y) hS ?_
 simp only [pA, pB, pC, pD]
 refine tN 10 (some 3) (.assign (.tmp 41)) 9 (.string X) hS ?_
 simp only [pA, pB, pC, pD]
 refine tN 11 (some 4) (.assign (.tmp 42)) 4 (.bool Y) hS ?_
 simp only [pA, pB, pC, pD]
 clear hS
 refine wpAnyH_done (by kernel_rfl) ?_ _
 go_wp2
 refine wp_region_held_drew (S := fun w2 => At w2 w.heap.size 31 [.int .i64 5, .slice a n c, .int .i64 pad, .int .i64 N, .string S, .string m, .string t, .int .i64 mi, .slice an nF cn, .slice av nV cv, .slice ab nb cb', .int .i64 qp, .int .i64 r0, .int .i64 r1, .slice ra rn rc, .slice ra2 rn2 rc2, .slice ra3 rn3 rc3, .int .i64 rp] ∧ Up w w2) (by kernel_rfl) ⟨HA3.o.up (Up.refl _).drew, HU3.o.drew⟩ (fun hS => ?_)
 refine tN 0 (some 44) (.fieldAddr 31 (.tmp 1) 5) 0 (.pointer (some ⟨w.heap.size, 5, none⟩)) hS ?_
 simp only [pA, pB, pC, pD]
 refine tK 1 (some 45) (.load 27 (.tmp 44)) 27 (.agg #[.string m, .string t, .int .i64 mi, .slice an nF cn, .slice av nV cv, .slice ab nb cb', .int .i64 qp]) hS ?_ ?_
 · intro _ _ w5 hSw
   have h0 := HX.o _ hSw.1
   clear hSw hS
   exact exec_loadQ rfl rfl h0
 simp only [pA, pB, pC, pD]
 refine tN 4 (some 48) (.fieldAddr 31 (.tmp 1) 4) 0 (.pointer (some ⟨w.heap.size, 4, none⟩)) hS ?_
 simp only [pA, pB, pC, pD]
 refine tK 5 (some 49) (.load 9 (.tmp 48)) 9 (.string S) hS ?_ ?_
 · intro _ _ w5 hSw
   have h0 := hSw.1.cell (i := 4) rfl
   clear hSw hS
   go_simp
 simp only [pA, pB, pC, pD]
 refine rD 2 (some 46) (.call ⟨.value (.func 16), #[.tmp 45], #[27]⟩) 48 fun _ _ K hK => ?_
 rw [if_pos (by kernel_rfl)]
 go_simp
 refine (HQr.o _ HU3.o.drew).mono ?_
 rintro e w4 ⟨⟨aF, cF, vF, rfl, hO⟩, h9⟩
 obtain ⟨aR, cR, rfl⟩ := row_len hO.o.2
 have HU4 := Ho (HU3.o.drew.trans h9)
 have HA4 := Ho ((HA3.o.up (Up.refl _).drew).up h9)
 have HF4 := Ho (FdO.fdl hO.o.1)
 have hcF := HF4.o.cap
 rw [HNF.o] at hcF
 clear h9 hO
 dsimp only
 refine hK.out _ _ ⟨HA4.o, HU4.o⟩ (fun hS => ?_)
 clear hK K
 refine tK 3 (some 47) (.field 48 (.tmp 46) 3) 36 (.slice aF nF cF) hS ?_ ?_
 · intro _ _ w5 hSw
   clear hSw hS
   exact exec_fldP rfl rfl
 simp only [Act.put, pB, pC, pD]
 refine rD 6 (some 50) (.call ⟨.value (.func 63), #[.tmp 47, .tmp 49], #[36, 9]⟩) 114 fun _ _ K hK => ?_
 rw [if_pos (by kernel_rfl)]
 go_simp
 refine (HVr.o aF cF _ HF4.o HU4.o).mono ?_
 rintro e w5 ⟨rfl, h9⟩
 have HU5 := Ho (HU4.o.trans h9)
 have HA5 := Ho (HA4.o.up h9)
 clear h9 hcF
 dsimp only
 refine hK.out _ _ ⟨HA5.o, HU5.o⟩ (fun hS => ?_)
 clear hK K
 refine tN 7 (some 43) (.move (.tmp 50)) 114 (.tuple #[.string X, .bool Y]) hS ?_
 simp only [Act.put, pB, pC, pD]
 refine tN 8 (some 51) (.extract (.tmp 43) 0) 9 (.string X) hS ?_
 simp only [pA, pB, pC, pD]
 refine tN 9 (some 52) (.extract (.tmp 43) 1) 4 (.bool Y) hS ?_
 simp only [pA, pB, pC, pD]
 refine tN 10 (some 5) (.assign (.tmp 51)) 9 (.string X) hS ?_
 simp only [pA, pB, pC, pD]
 refine tN 11 (some 6) (.assign (.tmp 52)) 4 (.bool Y) hS ?_
 simp only [pA, pB, pC, pD]
 clear hS
 refine wpAnyH_done (by kernel_rfl) ?_ _
 go_wp2
 go_ret
 exact ⟨rfl, HU5.o⟩
structure OpD where
 k : Int
 a : Option Addr
 n : Nat
 c : Nat
 b : List UInt8
 pad : Int
 N : Int
 S : ByteArray
 m : ByteArray
 t : ByteArray
 mi : Int
 an : Option Addr
 ns : List ByteArray
 cn : Nat
 av : Option Addr
 us : List ByteArray
 cv : Nat
 ab : Option Addr
 nb : Nat
 cb' : Nat
 bd : List UInt8
 qp : Int
 st : Int
 mj : Int
 am : Option Addr
 ms : List ByteArray
 cm : Nat
 au : Option Addr
 vs' : List ByteArray
 cu : Nat
 ac : Option Addr
 nc : Nat
 cc : Nat
 bc : List UInt8
 rp : Int
def opc (d : OpD) : List Value := [.int .i64 d.k, .slice d.a d.n d.c, .int .i64 d.pad, .int .i64 d.N, .string d.S, .string d.m, .string d.t, .int .i64 d.mi, .slice d.an d.ns.length d.cn, .slice d.av d.us.length d.cv, .slice d.ab d.nb d.cb', .int .i64 d.qp, .int .i64 d.st, .int .i64 d.mj, .slice d.am d.ms.length d.cm, .slice d.au d.vs'.length d.cu, .slice d.ac d.nc d.cc, .int .i64 d.rp]
structure OpOk (w : World) (d : OpD) : Prop where
 hS : Sb w (.slice d.a d.n d.c) d.b
 hb : d.b.length ≤ 1048576
 hN0 : -9223372036854775808 ≤ d.N
 hN1 : d.N ≤ 9223372036854775807
 hs : d.S.size ≤ 1048576
 hNs : StL w d.an d.ns d.cn
 hVs : StL w d.av d.us d.cv
 hB : Sb w (.slice d.ab d.nb d.cb') d.bd
 hm : d.m.size ≤ 1099511627776
 ht : d.t.size ≤ 1099511627776
 hm0 : -9223372036854775808 ≤ d.mi
 hm1 : d.mi ≤ 9223372036854775807
 hz : szs (mkF d.ns d.us) ≤ 1099511627000
 hnl : d.ns.length ≤ 1048576
 hbl : d.bd.length ≤ 1048576
 hNs2 : StL w d.am d.ms d.cm
 hVs2 : StL w d.au d.vs' d.cu
 hB2 : Sb w (.slice d.ac d.nc d.cc) d.bc
 hs0 : -9223372036854775808 ≤ d.st
 hs1 : d.st ≤ 9223372036854775807
 hj0 : -9223372036854775808 ≤ d.mj
 hj1 : d.mj ≤ 9223372036854775807
 hz2 : szs (mkF d.ms d.vs') ≤ 1099511627000
 hml : d.ms.length ≤ 1048576
 hcl : d.bc.length ≤ 1048576
structure GA (w : World) (ad : Nat → Addr) : Prop where
 gw : GW w ad
 gd : GD w
 mt : w.rangeAt 0 0 mtC
 rs : w.rangeAt 8 0 rsC
 ri : w.rangeAt 9 0 rsI
 rr : w.rangeAt 10 0 rsS
theorem GA.up {w w' : World} {ad : Nat → Addr} (h : GA w ad) (k : Up w w') : GA w' ad := ⟨h.gw.up k, k.cell h.gd, range_up h.mt k, range_up h.rs k, range_up h.ri k, range_up h.rr k⟩
theorem OpOk.up {w w' : World} {d : OpD} (h : OpOk w d) (k : Up w w') : OpOk w' d :=
 { h with hS := h.hS.up k, hNs := h.hNs.up k, hVs := h.hVs.up k, hB := h.hB.up k, hNs2 := h.hNs2.up k, hVs2 := h.hVs2.up k, hB2 := h.hB2.up k }
theorem plays_any (ad : Nat → Addr) (d : OpD) (w : World) (h : OpOk w d) (g : GA w ad) : Calls Tryz.prog 28 #[.agg (opc d).toArray] w fun e w' => e = .returned (.bool true) ∧ Up w w' := by
 obtain ⟨k, a, n, c, b, pad, N, S, m, t, mi, an, ns, cn, av, us, cv, ab, nb, cb', bd, qp, st, mj, am, ms, cm, au, vs', cu, ac, nc, cc, bc, rp⟩ := d
 by_cases k1 : k = 1
 · subst k1
   exact plays_k1 a n c pad N S m t mi an ns.length cn av us.length cv ab nb cb' qp st mj am ms.length cm au vs'.length cu ac nc cc rp w (fun w2 u => parsesA_req ad a n c b pad N S m t mi an ns.length cn av us.length cv ab nb cb' qp st mj am ms.length cm au vs'.length cu ac nc cc rp w2 (h.hS.up u) (g.gw.up u) (range_up g.mt u) (by have hb9 : b.length ≤ 1048576 := h.hb; omega))
 by_cases k2 : k = 2
 · subst k2
   exact plays_k2 a n c pad N S m t mi an ns.length cn av us.length cv ab nb cb' qp st mj am ms.length cm au vs'.length cu ac nc cc rp w (fun w2 u => parsesA_res ad a n c b pad N S m t mi an ns.length cn av us.length cv ab nb cb' qp st mj am ms.length cm au vs'.length cu ac nc cc rp w2 (h.hS.up u) (g.gw.up u) (by have hb9 : b.length ≤ 1048576 := h.hb; omega))
 by_cases k3 : k = 3
 · subst k3
   exact plays_k3 a n c pad N S m t mi an ns.length cn av us.length cv ab nb cb' qp st mj am ms.length cm au vs'.length cu ac nc cc rp w (fun w2 u => printsA_req ad a n c pad N S st mj am ms.length cm au vs'.length cu ac nc cc rp m t mi an ns cn av us cv ab nb cb' bd qp w2 (h.hNs.up u) (h.hVs.up u) (h.hB.up u) (g.gw.up u) (range_up g.mt u) h.hm h.ht h.hm0 h.hm1 h.hz h.hnl h.hbl)
 by_cases k4 : k = 4
 · subst k4
   exact plays_k4 a n c pad N S m t mi an ns.length cn av us.length cv ab nb cb' qp st mj am ms.length cm au vs'.length cu ac nc cc rp w (fun w2 u => printsA_res ad a n c pad N S m t mi an ns.length cn av us.length cv ab nb cb' qp st mj am ms cm au vs' cu ac nc cc bc rp w2 (h.hNs2.up u) (h.hVs2.up u) (h.hB2.up u) (g.gw.up u) (range_up g.rs u) (range_up g.ri u) (range_up g.rr u) h.hs0 h.hs1 h.hj0 h.hj1 h.hz2 h.hml h.hcl)
 by_cases k5 : k = 5
 · subst k5
   exact plays_k5 a n c pad N S m t mi an ns ns.length cn av us us.length cv ab nb cb' bd qp st mj am ms.length cm au vs'.length cu ac nc cc rp w rfl rfl h.hNs h.hVs h.hB h.hz h.hnl h.hbl h.hs
 by_cases k6 : k = 6
 · subst k6
   exact plays_k6 a n c pad N S m t mi an ns.length cn av us.length cv ab nb cb' qp st mj am ms.length cm au vs'.length cu ac nc cc rp w h.hN0 h.hN1 g.gw.gn g.rs g.ri g.rr
 by_cases k7 : k = 7
 · subst k7
   exact plays_k7 a n c pad N S m t mi an ns.length cn av us.length cv ab nb cb' qp st mj am ms.length cm au vs'.length cu ac nc cc rp w ad g.gw.ge h.hs
 by_cases k8 : k = 8
 · subst k8
   exact plays_k8 a n c pad N S m t mi an ns.length cn av us.length cv ab nb cb' qp st mj am ms.length cm au vs'.length cu ac nc cc rp w ad g.gw.ge h.hs
 by_cases k9 : k = 9
 · subst k9
   exact plays_k9 a n c pad N S m t mi an ns.length cn av us.length cv ab nb cb' qp st mj am ms.length cm au vs'.length cu ac nc cc rp w (fun w2 u => parsesA_chk ad a n c b pad N S m t mi an ns.length cn av us.length cv ab nb cb' qp st mj am ms.length cm au vs'.length cu ac nc cc rp w2 (h.hS.up u) (g.gw.ge.up u) (u.cell g.gd) (by have hb9 : b.length ≤ 1048576 := h.hb; omega))
 by_cases k10 : k = 10
 · subst k10
   exact plays_k10 a n c pad N S m t mi an ns.length cn av us.length cv ab nb cb' qp st mj am ms.length cm au vs'.length cu ac nc cc rp w (fun w2 u => parsesA_unk ad a n c b pad N S m t mi an ns.length cn av us.length cv ab nb cb' qp st mj am ms.length cm au vs'.length cu ac nc cc rp w2 (h.hS.up u) (g.gw.ge.up u) (by have hb9 : b.length ≤ 1048576 := h.hb; omega))
 by_cases k11 : k = 11
 · subst k11
   exact plays_k11 a n c pad N S m t mi an ns.length cn av us.length cv ab nb cb' qp st mj am ms.length cm au vs'.length cu ac nc cc rp w ad g.gw.ge
 exact plays_no a n c pad N S m t mi an ns.length cn av us.length cv ab nb cb' qp st mj am ms.length cm au vs'.length cu ac nc cc rp w k (by simpa using k1) (by simpa using k2) (by simpa using k3) (by simpa using k4) (by simpa using k5) (by simpa using k6) (by simpa using k7) (by simpa using k8) (by simpa using k9) (by simpa using k10) (by simpa using k11)
structure OPL (w : World) (a : Option Addr) (qs : List OpD) (c : Nat) : Prop where
 cap : qs.length ≤ c
 cells : ∀ i (h : i < qs.length), ∃ b off, a = some ⟨b, off, none⟩ ∧ w.rangeAt b (off + i * 18) (opc qs[i])
 oks : ∀ q ∈ qs, OpOk w q
theorem exec_idxOp {o : Oper} {ρ : Operand → Value} {x y : Operand} {w : World} {b off n c : Nat} (i : Nat) (hi : i < n) (ho : o.op = .indexAddr 33 x y) (hx : ρ x = .slice (some ⟨b, off, none⟩) n c) (hy : ρ y = .int .i64 (i : Int)) : (execOp ρ o).run Tryz.prog w = .ok (.value (.pointer (some ⟨b, off + i * 18, none⟩))) w := by
 have hi' : (i : Int) < (n : Int) := by omega
 unfold execOp
 simp only [ho, hx, hy]
 go_simp
set_option maxRecDepth 100000 in
set_option maxHeartbeats 4000000 in
theorem all_walk (ad : Nat → Addr) (al : Option Addr) (qs : List OpD) (cl : Nat) (nq : Nat) (hnq : qs.length = nq) (w : World) (hQ : OPL w al qs cl) (g : GA w ad) (hql : nq ≤ 1048576) :
  Calls Tryz.prog 6 #[.slice al nq cl] w fun e w' => e = .returned (.bool true) ∧ Up w w' := by
 have HQ := Ho hQ
 have HG := Ho g
 have hcap := hQ.cap
 rw [hnq] at hcap
 have HNq := Ho hnq
 have HK := Ho (known_walk ad w g.gw)
 clear hQ g hnq
 go_enter Tryz.func6, Tryz.ntmps6
 go_wp2_with fail
 refine (numbers_walk w).mono ?_
 rintro e w9 ⟨rfl, h9⟩
 obtain rfl := h9.symm
 clear h9
 dsimp only
 go_wp2_with fail
 refine HK.o.mono ?_
 rintro e w2 ⟨rfl, h9⟩
 have HU2 := Ho h9
 clear h9 HK
 dsimp only
 go_wp2
 go_loopw [3] (fun v3 wr => ∃ i : Nat, v3 = .int .i64 (i : Int) ∧ i ≤ nq ∧ Hd (Up w wr)) (fun v3 _ => nq - (intOf v3).toNat)
 case atStart => exact ⟨0, rfl, Nat.zero_le _, HU2⟩
 case round =>
  obtain ⟨i, rfl, hi, hU⟩ := hrel
  have HU := Ho hU.o
  clear hU
  by_cases hil : i < nq
  · have hilz : (i : Int) < (nq : Int) := by omega
    obtain ⟨b, off, rfl, hrg⟩ := HQ.o.cells i (by rw [HNq.o]; exact hil)
    have HRg := Ho (range_up hrg HU.o)
    have HP := Ho (plays_any ad (qs[i]'(by rw [HNq.o]; exact hil)) wr ((HQ.o.oks _ (List.getElem_mem _)).up HU.o) (HG.o.up HU.o))
    generalize qs[i]'(by rw [HNq.o]; exact hil) = d at *
    clear hrg
    go_wp2_with (with_reducible refine sI 33 ?_)
    show wpList _ _ _ _ _ _
    refine wpList_val7 (.pointer (some ⟨b, off + i * 18, none⟩)) rfl (exec_idxOp i hil rfl rfl rfl) ?_
    simp only [Act.put, pB, pC, pD]
    refine wpList_load_mid rfl _ _ rfl b (off + i * 18) rfl (opc d) _ HRg.o Tryz.underlying31 rfl (by kernel_rfl) ?_
    simp only [Act.put, pB, pC, pD]
    go_wp2_with fail
    refine HP.o.mono ?_
    rintro e w3 ⟨rfl, h9⟩
    have HU3 := Ho (HU.o.trans h9)
    clear h9
    dsimp only
    go_wp2
    go_roundw
    all_goals first
     | exact ⟨i + 1, by go_num, by omega, HU3⟩
     | (simp [intOf]; omega)
  have hilz : ¬ (i : Int) < (nq : Int) := by omega
  go_wp2
  go_ret
  exact ⟨rfl, HU.o⟩
end Go.Proofs.YtehnnlhoajdcaaaGreatDoor
