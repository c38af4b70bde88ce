import Derived.Test.YtehnnlhoajdcaaaGreatDoorNa
import Derived.Test.YtehnnlhoajdcaaaGreatDoorMe
import Derived.Laws.Bits64b
import Derived.Test.YtehnnlhoajdcaaaGreatDoorNb
import Derived.Test.YtehnnlhoajdcaaaGreatDoorNc
import Derived.Test.YtehnnlhoajdcaaaGreatDoorNd
namespace Go.Proofs.YtehnnlhoajdcaaaGreatDoor
open Go.RowKit Go.Shelf TextNum
theorem wpList_appSb3 {w : World} {N q : Nat} {ops : Array Oper} {rest : List Oper} {o : Oper} {a : Act} {Q : Exit → Act → World → Prop} (hgd : o.guard = none) (x y : Operand)
  (ho : o.op = .call { callee := .builtin .append, args := #[x, y], argTypes := #[22, 22] }) (ax : Option Addr) (cx : Nat) (xs : List UInt8) (vy : Value) (ds : List UInt8) (hx : a.eval x = .slice ax q cx) (hy : a.eval y = vy) (hSb : Sb w vy ds)
  (hR : w.ownsRow N 5 1 (.slice ax q cx) q (cb xs)) (hNw : N ≤ w.heap.size) (hql : q + ds.length ≤ 1099511627776)
  (K : ∀ ax2 cx2 w', w'.ownsRow N 5 1 (.slice ax2 (q + ds.length) cx2) (q + ds.length) (cb (xs ++ ds)) → (∀ W, Up W w → W.heap.size ≤ N → Up W w') → w.grownBy w' (Value.slice ax q cx).ownBlock → (∀ g, (Value.slice ax2 (q + ds.length) cx2).ownBlock = some g → (Value.slice ax q cx).ownBlock = some g ∨ w.heap.size ≤ g) → wpList Tryz.prog ops Q rest (a.put o.dst (.slice ax2 (q + ds.length) cx2)) w') :
  wpList Tryz.prog ops Q (o :: rest) a w := by
 obtain ⟨i0, hi0, hz0, hz1, hz2⟩ := info_parts Tryz.infoU8
 obtain ⟨ay, cy, rfl, k1, k2, k3, k4⟩ := hSb
 cases ay with
 | none =>
  obtain ⟨rfl, rfl⟩ := k3 rfl
  refine wpList_plain hgd fun K2 hK => ?_
  have hr := run_app_none (ty := o.type) (c := 0) hR
  unfold Oper.wp execOp
  simp only [List.length_nil] at hy
  simp only [ho, resolve, invoke, builtin, Sem.run_bind, Sem.run_pure, Result.andThen_ok, List.map_toArray, List.map_cons, List.map_nil, hx, hy, hr]
  exact hK _ _ (K ax cx w (by rw [List.append_nil]; exact hR) (fun W hU _ => hU) (World.grownBy.refl _ _) (fun g hg => .inl hg))
 | some ad =>
  refine wpList_append_frs hgd x y 22 ho N 5 i0 (.int .u8 0) 1 Tryz.underlying22 hi0 hz0 hz1 hz2 rfl _ q _ hx hR ad ds.length cy (cb ds) hy (by rw [cb_length]; omega) (k4 ad rfl).2 (cb_one ds) (by simp only [maxLen]; omega) (by omega) hNw ?_
  intro v8 w8 o8 g8 f8
  obtain ⟨a4, c4, rfl⟩ := row_len o8
  exact K a4 c4 w8 (by rw [cb_append]; exact o8) (fun W hU hW => up_grownBy hU g8 (fun g hg => Nat.le_trans hW (World.ownsRow.lt hR g hg).1)) g8 (fun g hg => f8 g hg)
def hdg (n : Nat) : UInt8 := [48, 49, 50, 51, 52, 53, 54, 55, 56, 57, 97, 98, 99, 100, 101, 102].getD n 0
def hexL (n : Nat) : List UInt8 := if _h : n < 16 then [hdg n] else hexL (n / 16) ++ [hdg (n % 16)]
theorem hexL_lt {n : Nat} (h : n < 16) : hexL n = [hdg n] := by rw [hexL, dif_pos h]
theorem hexL_ge {n : Nat} (h : ¬ n < 16) : hexL n = hexL (n / 16) ++ [hdg (n % 16)] := by rw [hexL, dif_neg h]
def GD (w : World) : Prop := w.cell? ⟨23, 15, none⟩ = some (.int .u8 4)
set_option maxRecDepth 100000 in
set_option maxHeartbeats 1000000 in
theorem TrailingZeros64_16 (w : World) (h : GD w) : Calls Tryz.prog 221 #[.int .u64 16] w fun e w' => e = .returned (.int .i64 4) ∧ w' = w := by
 unfold GD at h
 have e1 : bits BinOp.and IntKind.u64 16 (IntKind.u64.wrap (-16)) = 16 := by decide +kernel
 have e2 : IntKind.u64.wrap (16 * 285870213051353865) / 288230376151711744 = 15 := by decide +kernel
 go_enter Tryz.func221, Tryz.ntmps221
 go_wp2
 go_ret
 exact ⟨rfl, rfl⟩
set_option maxRecDepth 100000 in
set_option maxHeartbeats 1000000 in
theorem TrailingZeros_16 (w : World) (h : GD w) : Calls Tryz.prog 212 #[.int .u64 16] w fun e w' => e = .returned (.int .i64 4) ∧ w' = w := by
 have HT := Ho (TrailingZeros64_16 w h)
 clear h
 go_enter Tryz.func212, Tryz.ntmps212
 go_wp2_with fail
 refine HT.o.mono ?_
 rintro e w2 ⟨rfl, h9⟩
 obtain rfl := h9.symm
 clear h9
 dsimp only
 go_wp2
 go_ret
 exact ⟨rfl, rfl⟩
set_option maxRecDepth 100000 in
theorem isPowerOfTwo_16 (w : World) : Calls Tryz.prog 211 #[.int .i64 16] w fun e w' => e = .returned (.bool true) ∧ w' = w := by
 go_enter Tryz.func211, Tryz.ntmps211
 go_wp2
 go_ret
 exact ⟨rfl, rfl⟩
theorem and15 (q : Nat) (hq : q < 18446744073709551616) : bits .and .u64 (q : Int) 15 = ((q % 16 : Nat) : Int) := by
 have := bits_and_u64_nat q 15 hq (by omega)
 have e : q &&& 15 = q % 16 := Nat.and_two_pow_sub_one_eq_mod q 4
 rw [e] at this
 exact this
def dgT : ByteArray := ⟨#[48, 49, 50, 51, 52, 53, 54, 55, 56, 57, 97, 98, 99, 100, 101, 102, 103, 104, 105, 106, 107, 108, 109, 110, 111, 112, 113, 114, 115, 116, 117, 118, 119, 120, 121, 122]⟩
theorem run_dig (w : World) : ∀ d : Nat, d < 16 → (Instr.index 9 (.string dgT) (.int .u64 (d : Int))).run Tryz.prog w = .ok (vb (hdg d)) w
 | 0, _ => by kernel_rfl
 | 1, _ => by kernel_rfl
 | 2, _ => by kernel_rfl
 | 3, _ => by kernel_rfl
 | 4, _ => by kernel_rfl
 | 5, _ => by kernel_rfl
 | 6, _ => by kernel_rfl
 | 7, _ => by kernel_rfl
 | 8, _ => by kernel_rfl
 | 9, _ => by kernel_rfl
 | 10, _ => by kernel_rfl
 | 11, _ => by kernel_rfl
 | 12, _ => by kernel_rfl
 | 13, _ => by kernel_rfl
 | 14, _ => by kernel_rfl
 | 15, _ => by kernel_rfl
 | n + 16, h => by omega
theorem exec_dig {o : Oper} {ρ : Operand → Value} {y : Operand} {w : World} (d : Nat) (hd : d < 16) (ho : o.op = .index 9 (.const (.string dgT)) y) (hx : ρ (.const (.string dgT)) = .string dgT) (hy : ρ y = .int .u64 (d : Int)) : (execOp ρ o).run Tryz.prog w = .ok (.value (vb (hdg d))) w := by
 unfold execOp
 simp only [ho, hx, hy]
 rw [Sem.run_bind, run_dig w d hd]
 rfl
set_option maxRecDepth 100000 in
theorem run_suba (w : World) (b lo : Nat) (h : lo < 65) : (Instr.sliceAt 276 (.pointer (some ⟨b, 0, none⟩)) (some (.int .i64 (lo : Int))) none none).run Tryz.prog w = .ok (.slice (some ⟨b, lo, none⟩) (65 - lo) (65 - lo)) w := by
 have hal : Tryz.prog.arrayLen 276 = 65 := by kernel_rfl
 rw [run_sliceAt_array_l w 276 ⟨b, 0, none⟩ (by kernel_rfl) .i64 (lo : Int) (by omega) (by rw [hal]; omega), hal]
 have hs : (sizeOf (Tryz.prog.elem 276)).run Tryz.prog w = .ok 1 w := by kernel_rfl
 rw [hs, Result.andThen_ok]
 unfold slicedAt
 rw [if_neg (by omega), Addr.add_lit, Int.toNat_natCast, Nat.mul_one, Nat.zero_add]
theorem exec_suba {o : Oper} {ρ : Operand → Value} {x y : Operand} {w : World} {b lo : Nat} (h : lo < 65) (ho : o.op = .slice 276 x (some y) none none) (hx : ρ x = .pointer (some ⟨b, 0, none⟩)) (hy : ρ y = .int .i64 (lo : Int)) :
  (execOp ρ o).run Tryz.prog w = .ok (.value (.slice (some ⟨b, lo, none⟩) (65 - lo) (65 - lo))) w := by
 unfold execOp
 simp only [ho, hx, Option.map_some, Option.map_none, hy]
 rw [Sem.run_bind, run_suba w b lo h]
 rfl
set_option maxRecDepth 100000 in
set_option maxHeartbeats 4000000 in
theorem formatBits_hex (a : Option Addr) (q c : Nat) (xs : List UInt8) (N u : Nat) (w : World) (hR : w.ownsRow N 5 1 (.slice a q c) q (cb xs)) (hN : N ≤ w.heap.size) (hq : q ≤ 1099511627) (hu : u ≤ 65536) (hG : GD w) :
  Calls Tryz.prog 195 #[.slice a q c, .int .u64 (u : Int), .int .i64 16, .bool false, .bool true] w fun e w' => (∃ a2 c2, e = .returned (.tuple #[.slice a2 (q + (hexL u).length) c2, .string ⟨#[]⟩]) ∧ Hd (w'.ownsRow N 5 1 (.slice a2 (q + (hexL u).length) c2) (q + (hexL u).length) (cb (xs ++ hexL u)))) ∧ (∀ W, Up W w → W.heap.size ≤ N → Up W w') := by
 have HR := Ho hR
 have HN := Ho hN
 have HG := Ho hG
 clear hR hN hG
 have HA0 := Ho (at_new w 276 [.int .u8 0, .int .u8 0, .int .u8 0, .int .u8 0, .int .u8 0, .int .u8 0, .int .u8 0, .int .u8 0, .int .u8 0, .int .u8 0, .int .u8 0, .int .u8 0, .int .u8 0, .int .u8 0, .int .u8 0, .int .u8 0, .int .u8 0, .int .u8 0, .int .u8 0, .int .u8 0, .int .u8 0, .int .u8 0, .int .u8 0, .int .u8 0, .int .u8 0, .int .u8 0, .int .u8 0, .int .u8 0, .int .u8 0, .int .u8 0, .int .u8 0, .int .u8 0, .int .u8 0, .int .u8 0, .int .u8 0, .int .u8 0, .int .u8 0, .int .u8 0, .int .u8 0, .int .u8 0, .int .u8 0, .int .u8 0, .int .u8 0, .int .u8 0, .int .u8 0, .int .u8 0, .int .u8 0, .int .u8 0, .int .u8 0, .int .u8 0, .int .u8 0, .int .u8 0, .int .u8 0, .int .u8 0, .int .u8 0, .int .u8 0, .int .u8 0, .int .u8 0, .int .u8 0, .int .u8 0, .int .u8 0, .int .u8 0, .int .u8 0, .int .u8 0, .int .u8 0])
 have HU0 := Ho ((Up.refl w).alloc (.cells ([.int .u8 0, .int .u8 0, .int .u8 0, .int .u8 0, .int .u8 0, .int .u8 0, .int .u8 0, .int .u8 0, .int .u8 0, .int .u8 0, .int .u8 0, .int .u8 0, .int .u8 0, .int .u8 0, .int .u8 0, .int .u8 0, .int .u8 0, .int .u8 0, .int .u8 0, .int .u8 0, .int .u8 0, .int .u8 0, .int .u8 0, .int .u8 0, .int .u8 0, .int .u8 0, .int .u8 0, .int .u8 0, .int .u8 0, .int .u8 0, .int .u8 0, .int .u8 0, .int .u8 0, .int .u8 0, .int .u8 0, .int .u8 0, .int .u8 0, .int .u8 0, .int .u8 0, .int .u8 0, .int .u8 0, .int .u8 0, .int .u8 0, .int .u8 0, .int .u8 0, .int .u8 0, .int .u8 0, .int .u8 0, .int .u8 0, .int .u8 0, .int .u8 0, .int .u8 0, .int .u8 0, .int .u8 0, .int .u8 0, .int .u8 0, .int .u8 0, .int .u8 0, .int .u8 0, .int .u8 0, .int .u8 0, .int .u8 0, .int .u8 0, .int .u8 0, .int .u8 0] : List Value).toArray 276))
 go_enter Tryz.func195, Tryz.ntmps195
 go_wp2_with fail
 obtain ⟨w1, hw1⟩ := ny (w.alloc (.cells ([.int .u8 0, .int .u8 0, .int .u8 0, .int .u8 0, .int .u8 0, .int .u8 0, .int .u8 0, .int .u8 0, .int .u8 0, .int .u8 0, .int .u8 0, .int .u8 0, .int .u8 0, .int .u8 0, .int .u8 0, .int .u8 0, .int .u8 0, .int .u8 0, .int .u8 0, .int .u8 0, .int .u8 0, .int .u8 0, .int .u8 0, .int .u8 0, .int .u8 0, .int .u8 0, .int .u8 0, .int .u8 0, .int .u8 0, .int .u8 0, .int .u8 0, .int .u8 0, .int .u8 0, .int .u8 0, .int .u8 0, .int .u8 0, .int .u8 0, .int .u8 0, .int .u8 0, .int .u8 0, .int .u8 0, .int .u8 0, .int .u8 0, .int .u8 0, .int .u8 0, .int .u8 0, .int .u8 0, .int .u8 0, .int .u8 0, .int .u8 0, .int .u8 0, .int .u8 0, .int .u8 0, .int .u8 0, .int .u8 0, .int .u8 0, .int .u8 0, .int .u8 0, .int .u8 0, .int .u8 0, .int .u8 0, .int .u8 0, .int .u8 0, .int .u8 0, .int .u8 0] : List Value).toArray 276))
 rw [hw1] at HA0 HU0
 change Calls _ _ _ (w.alloc (.cells ([.int .u8 0, .int .u8 0, .int .u8 0, .int .u8 0, .int .u8 0, .int .u8 0, .int .u8 0, .int .u8 0, .int .u8 0, .int .u8 0, .int .u8 0, .int .u8 0, .int .u8 0, .int .u8 0, .int .u8 0, .int .u8 0, .int .u8 0, .int .u8 0, .int .u8 0, .int .u8 0, .int .u8 0, .int .u8 0, .int .u8 0, .int .u8 0, .int .u8 0, .int .u8 0, .int .u8 0, .int .u8 0, .int .u8 0, .int .u8 0, .int .u8 0, .int .u8 0, .int .u8 0, .int .u8 0, .int .u8 0, .int .u8 0, .int .u8 0, .int .u8 0, .int .u8 0, .int .u8 0, .int .u8 0, .int .u8 0, .int .u8 0, .int .u8 0, .int .u8 0, .int .u8 0, .int .u8 0, .int .u8 0, .int .u8 0, .int .u8 0, .int .u8 0, .int .u8 0, .int .u8 0, .int .u8 0, .int .u8 0, .int .u8 0, .int .u8 0, .int .u8 0, .int .u8 0, .int .u8 0, .int .u8 0, .int .u8 0, .int .u8 0, .int .u8 0, .int .u8 0] : List Value).toArray 276)) _
 rw [hw1]
 clear hw1
 refine (isPowerOfTwo_16 w1).mono ?_
 rintro e w2 ⟨rfl, h9⟩
 obtain rfl := h9.symm
 clear h9
 dsimp only
 go_wp2_with fail
 refine (TrailingZeros_16 w1 (HU0.o.cell HG.o)).mono ?_
 rintro e w2 ⟨rfl, h9⟩
 obtain rfl := h9.symm
 clear h9
 dsimp only
 have HJ0 := Ho (show ∃ cs ds : List _, At w1 w.heap.size 276 cs ∧ cs.length = 65 ∧ cs.drop 65 = cb ds ∧ hexL u = hexL u ++ ds from ⟨_, [], HA0.o, rfl, rfl, by rw [List.append_nil]⟩)
 clear HA0
 go_wp2
 go_loopw [1, 13] (fun v1 v13 wr => ∃ i cur : Nat, v13 = .int .i64 (i : Int) ∧ v1 = .int .u64 (cur : Int) ∧ ((i = 65 ∧ cur ≤ 65536) ∨ (i = 64 ∧ cur ≤ 4096) ∨ (i = 63 ∧ cur ≤ 256) ∨ (i = 62 ∧ cur ≤ 16) ∨ (i = 61 ∧ cur ≤ 1)) ∧ Hd (Up w wr ∧ ∃ cs ds : List _, At wr w.heap.size 276 cs ∧ cs.length = 65 ∧ cs.drop i = cb ds ∧ hexL u = hexL cur ++ ds)) (fun v1 _ _ => (intOf v1).toNat)
 case atStart => exact ⟨65, u, rfl, rfl, .inl ⟨rfl, hu⟩, Ho ⟨HU0.o, HJ0.o⟩⟩
 case round =>
  obtain ⟨i, cur, rfl, rfl, hb, hX⟩ := hrel
  obtain ⟨hU, cs, ds, hA, hl, hd, hh⟩ := hX.o
  clear hX
  have HUr := Ho hU
  have HA := Ho hA
  have HD := Ho hd
  have HH := Ho hh
  have HL := Ho hl
  obtain ⟨j, rfl⟩ : ∃ j, i = j + 1 := ⟨i - 1, by omega⟩
  have hj1 : 60 ≤ j ∧ j ≤ 64 := by omega
  have hjc : j < cs.length := by omega
  have kj := hA.cell (List.getElem?_eq_getElem hjc)
  have fj := hA.thaw j
  have HDj := Ho (fun (x : UInt8) => show (cs.set j (vb x)).drop j = cb (x :: ds) by
   rw [List.drop_eq_getElem_cons (by rw [List.length_set]; exact hjc), List.getElem_set_self, List.drop_set_of_lt (Nat.lt_succ_self j), hd]
   rfl)
  clear hU hA hd hh hl
  by_cases h16 : 16 ≤ cur
  · have h16z : (16 : Int) ≤ (cur : Int) := by omega
    obtain ⟨d, hd⟩ := ny (cur % 16)
    have hd16 : d < 16 := by omega
    have e15 : bits BinOp.and IntKind.u64 (cur : Int) 15 = (d : Int) := by rw [and15 cur (by omega), hd]
    have HDd := Ho hd
    clear hd
    go_wp2_with (with_reducible show wpList _ _ _ (⟨_, .index 9 _ _, _, _, _, _⟩ :: _) _ _; refine Shut.out ?_)
    show wpList _ _ _ _ _ _
    refine wpList_val7 (vb (hdg d)) rfl (exec_dig d hd16 rfl rfl rfl) ?_
    simp only [Act.put, pB, pC, pD]
    have HA9 := Ho (HA.o.set j (vb (hdg d)))
    have HU9 := Ho (HUr.o.by (grown_set1 wr w.heap.size j (vb (hdg d))) (fun g hg => by have := Option.some.inj hg; omega))
    have HH9 := Ho (show hexL u = hexL (cur / 16) ++ (hdg d :: ds) by rw [HH.o, hexL_ge (by omega), HDd.o, List.append_assoc]; rfl)
    have hcz : (cur : Int) / 16 = ((cur / 16 : Nat) : Int) := by omega
    have hb2 : (j = 65 ∧ cur / 16 ≤ 65536) ∨ (j = 64 ∧ cur / 16 ≤ 4096) ∨ (j = 63 ∧ cur / 16 ≤ 256) ∨ (j = 62 ∧ cur / 16 ≤ 16) ∨ (j = 61 ∧ cur / 16 ≤ 1) := by omega
    have HCz := Ho hcz
    clear hcz
    go_wp2
    go_roundw
    all_goals first
     | exact ⟨j, cur / 16, by go_num, by rw [← HCz.o], hb2, Ho ⟨HU9.o, _, _, HA9.o, by rw [List.length_set]; exact HL.o, HDj.o (hdg d), HH9.o⟩⟩
     | (simp [intOf]; omega)
  have h16z : ¬ (16 : Int) ≤ (cur : Int) := by omega
  have hc16 : cur < 16 := by omega
  have HA9 := Ho (HA.o.set j (vb (hdg cur)))
  have HU9 := Ho (HUr.o.by (grown_set1 wr w.heap.size j (vb (hdg cur))) (fun g hg => by have := Option.some.inj hg; omega))
  have HH9 := Ho (show hexL u = hdg cur :: ds by rw [HH.o, hexL_lt hc16]; rfl)
  clear hb
  go_wp2_with (with_reducible show wpList _ _ _ (⟨_, .index 9 _ _, _, _, _, _⟩ :: _) _ _; refine Shut.out ?_)
  show wpList _ _ _ _ _ _
  refine wpList_val7 (vb (hdg cur)) rfl (exec_dig cur hc16 rfl rfl rfl) ?_
  simp only [Act.put, pB, pC, pD]
  go_wp2_with (with_reducible show wpList _ _ _ (⟨_, .slice 276 _ _ _ _, _, _, _, _⟩ :: _) _ _; refine Shut.out ?_)
  show wpList _ _ _ _ _ _
  obtain ⟨w9, hw9⟩ := ny (wr.setCell ⟨w.heap.size, j, none⟩ (vb (hdg cur)))
  rw [hw9] at HA9 HU9
  change wpList _ _ _ _ _ (wr.setCell ⟨w.heap.size, j, none⟩ (vb (hdg cur)))
  rw [hw9]
  clear hw9 kj fj
  refine wpList_val7 (.slice (some ⟨w.heap.size, j, none⟩) (65 - j) (65 - j)) rfl (exec_suba (by omega) rfl rfl rfl) ?_
  simp only [Act.put, pB, pC, pD]
  have HLs := Ho (show (hexL u).length = 65 - j by
   have h1 := HDj.o (hdg cur)
   have h2 := congrArg List.length h1
   rw [List.length_drop, List.length_set, HL.o, cb_length] at h2
   rw [HH9.o]
   omega)
  have HS9 := Ho (show Sb w9 (.slice (some ⟨w.heap.size, j, none⟩) (65 - j) (65 - j)) (hexL u) from ⟨some ⟨w.heap.size, j, none⟩, 65 - j, by rw [HLs.o], by rw [HLs.o]; exact Nat.le_refl _, by unfold maxLen; omega, (fun e => by cases e), fun ad e => by
   obtain rfl := Option.some.inj e
   refine ⟨fun _ => rfl, fun k v hv => ?_⟩
   rw [Addr.add_lit]
   refine HA9.o.cell ?_
   rw [HH9.o, ← HDj.o (hdg cur), List.getElem?_drop] at hv
   exact hv⟩)
  have HR9 := Ho (ow_up HR.o HU9.o)
  have hlu : (hexL u).length ≤ 65 := by rw [HLs.o]; omega
  clear HDj HLs HH9 HH HD HL HA HA9 hjc hj1
  go_wp2_with (with_reducible refine sA ?_)
  show wpList _ _ _ _ _ _
  refine wpList_appSb3 (N := N) rfl _ _ rfl a c xs _ (hexL u) rfl rfl HS9.o HR9.o (Nat.le_trans HN.o HU9.o.size) (by omega) ?_
  intro a2 c2 w10 o10 u10 _ _
  have HO10 := Ho o10
  have HU10 := Ho (fun W (hW : Up W w) (hN : W.heap.size ≤ N) => u10 W (hW.trans HU9.o) hN)
  clear o10 u10
  simp only [Act.put, pB, pC, pD]
  go_wp2
  go_ret2
  exact ⟨⟨a2, c2, rfl, HO10⟩, HU10.o⟩
def nib (n : Nat) : List Nat := if _h : n < 16 then [n] else nib (n / 16) ++ [n % 16]
theorem nib_lt {n : Nat} (h : n < 16) : nib n = [n] := by rw [nib, dif_pos h]
theorem nib_ge {n : Nat} (h : ¬ n < 16) : nib n = nib (n / 16) ++ [n % 16] := by rw [nib, dif_neg h]
theorem hexL_nib (n : Nat) : hexL n = (nib n).map hdg := by
 induction n using Nat.strongRecOn with
 | _ n ih =>
  by_cases h : n < 16
  · rw [hexL_lt h, nib_lt h]; rfl
  rw [hexL_ge h, nib_ge h, ih (n / 16) (by omega), List.map_append]; rfl
theorem nib_all (n : Nat) : ∀ v ∈ nib n, v < 16 := by
 induction n using Nat.strongRecOn with
 | _ n ih =>
  by_cases h : n < 16
  · rw [nib_lt h]; intro v hv; rw [List.mem_singleton.1 hv]; exact h
  rw [nib_ge h]
  intro v hv
  rcases List.mem_append.1 hv with hv | hv
  · exact ih (n / 16) (by omega) v hv
  rw [List.mem_singleton.1 hv]; omega
theorem nib_step (n : Nat) : (nib n).length ≤ 1 + (if n < 16 then 0 else (nib (n / 16)).length) := by
 by_cases h : n < 16
 · rw [nib_lt h, if_pos h]; simp
 rw [nib_ge h, if_neg h, List.length_append]; simp; omega
theorem nib_len {n : Nat} (h : n ≤ 65536) : (nib n).length ≤ 5 ∧ 1 ≤ (nib n).length := by
 have hp : ∀ m, 1 ≤ (nib m).length := by
  intro m
  by_cases h : m < 16
  · rw [nib_lt h]; simp
  rw [nib_ge h, List.length_append]; simp
 refine ⟨?_, hp n⟩
 have h1 := nib_step n
 have h2 := nib_step (n / 16)
 have h3 := nib_step (n / 16 / 16)
 have h4 := nib_step (n / 16 / 16 / 16)
 have h5 := nib_step (n / 16 / 16 / 16 / 16)
 rw [if_pos (show n / 16 / 16 / 16 / 16 < 16 by omega)] at h5
 split at h1 <;> split at h2 <;> split at h3 <;> split at h4 <;> omega
theorem hdg_facts : ∀ v : Nat, v < 16 → hdg v ≠ 59 ∧ hxv (hdg v) = some (UInt8.ofNat v) ∧ (UInt8.ofNat v).toNat = v ∧ hdg v ≠ 10 ∧ hdg v ≠ 13 := by decide +kernel
theorem hexL_facts {n : Nat} (h : n ≤ 65536) : (10 : UInt8) ∉ hexL n ∧ (hexL n).length ≤ 5 := by
 refine ⟨fun hm => ?_, by rw [hexL_nib, List.length_map]; exact (nib_len h).1⟩
 rw [hexL_nib] at hm
 obtain ⟨v, hv, e⟩ := List.mem_map.1 hm
 exact (hdg_facts v (nib_all n v hv)).2.2.2.1 e
def chf : Nat → Nat → List UInt8 → List UInt8
 | 0, _, _ => []
 | f + 1, s, l => if l = [] then [] else hexL (min s l.length) ++ [13, 10] ++ l.take (min s l.length) ++ [13, 10] ++ chf f s (l.drop (min s l.length))
def chE : List UInt8 := [48, 13, 10, 13, 10]
def chk (s : Nat) (l : List UInt8) : List UInt8 := chf l.length s l ++ chE
theorem chf_nil (f s : Nat) : chf f s [] = [] := by cases f <;> rfl
set_option maxRecDepth 100000 in
set_option maxHeartbeats 1000000 in
theorem AppendUint_hex (a : Option Addr) (q c : Nat) (xs : List UInt8) (N u : Nat) (w : World) (hR : w.ownsRow N 5 1 (.slice a q c) q (cb xs)) (hN : N ≤ w.heap.size) (hq : q ≤ 1099511627) (hu : u ≤ 65536) (hG : GD w) :
  Calls Tryz.prog 172 #[.slice a q c, .int .u64 (u : Int), .int .i64 16] w fun e w' => (∃ a2 c2, e = .returned (.slice a2 (q + (hexL u).length) c2) ∧ Hd (w'.ownsRow N 5 1 (.slice a2 (q + (hexL u).length) c2) (q + (hexL u).length) (cb (xs ++ hexL u)))) ∧ (∀ W, Up W w → W.heap.size ≤ N → Up W w') := by
 have HF := Ho (formatBits_hex a q c xs N u w hR hN hq hu hG)
 clear hR hN hG
 go_enter Tryz.func172, Tryz.ntmps172
 go_wp2_with fail
 refine HF.o.mono ?_
 rintro e w2 ⟨⟨a2, c2, rfl, hO⟩, hU⟩
 have HO := Ho hO.o
 have HU := Ho hU
 clear hO hU HF
 dsimp only
 go_wp2
 go_ret
 exact ⟨⟨a2, c2, rfl, HO⟩, HU.o⟩
set_option maxRecDepth 100000 in
set_option maxHeartbeats 1000000 in
theorem IAppendInt_hex (a : Option Addr) (q c : Nat) (xs : List UInt8) (N u : Nat) (w : World) (hR : w.ownsRow N 5 1 (.slice a q c) q (cb xs)) (hN : N ≤ w.heap.size) (hq : q ≤ 1099511627) (hu : u ≤ 65536) (hG : GD w) :
  Calls Tryz.prog 138 #[.slice a q c, .int .i64 (u : Int), .int .i64 16] w fun e w' => (∃ a2 c2, e = .returned (.slice a2 (q + (hexL u).length) c2) ∧ Hd (w'.ownsRow N 5 1 (.slice a2 (q + (hexL u).length) c2) (q + (hexL u).length) (cb (xs ++ hexL u)))) ∧ (∀ W, Up W w → W.heap.size ≤ N → Up W w') := by
 have HF := Ho (AppendUint_hex a q c xs N u w hR hN hq hu hG)
 clear hR hN hG
 go_enter Tryz.func138, Tryz.ntmps138
 go_wp2_with fail
 refine HF.o.mono ?_
 rintro e w2 ⟨⟨a2, c2, rfl, hO⟩, hU⟩
 have HO := Ho hO.o
 have HU := Ho hU
 clear hO hU HF
 dsimp only
 go_wp2
 go_ret
 exact ⟨⟨a2, c2, rfl, HO⟩, HU.o⟩
set_option maxRecDepth 100000 in
set_option maxHeartbeats 1000000 in
theorem AppendInt_hex (a : Option Addr) (q c : Nat) (xs : List UInt8) (N u : Nat) (w : World) (hR : w.ownsRow N 5 1 (.slice a q c) q (cb xs)) (hN : N ≤ w.heap.size) (hq : q ≤ 1099511627) (hu : u ≤ 65536) (hG : GD w) :
  Calls Tryz.prog 109 #[.slice a q c, .int .i64 (u : Int), .int .i64 16] w fun e w' => (∃ a2 c2, e = .returned (.slice a2 (q + (hexL u).length) c2) ∧ Hd (w'.ownsRow N 5 1 (.slice a2 (q + (hexL u).length) c2) (q + (hexL u).length) (cb (xs ++ hexL u)))) ∧ (∀ W, Up W w → W.heap.size ≤ N → Up W w') := by
 have HF := Ho (IAppendInt_hex a q c xs N u w hR hN hq hu hG)
 clear hR hN hG
 go_enter Tryz.func109, Tryz.ntmps109
 go_wp2_with fail
 refine HF.o.mono ?_
 rintro e w2 ⟨⟨a2, c2, rfl, hO⟩, hU⟩
 have HO := Ho hO.o
 have HU := Ho hU
 clear hO hU HF
 dsimp only
 go_wp2
 go_ret
 exact ⟨⟨a2, c2, rfl, HO⟩, HU.o⟩
theorem row_n {w : World} {N q c : Nat} {a : Option Addr} {xs : List UInt8} (h : w.ownsRow N 5 1 (.slice a q c) q (cb xs)) : xs.length = q := by
 have h1 := h.1
 rw [cb_length] at h1
 omega
theorem row_ow {w : World} {N q c : Nat} {a : Option Addr} {xs : List UInt8} (h : w.ownsRow N 5 1 (.slice a q c) q (cb xs)) : Ow w N (.slice a q c) xs := by
 unfold Ow
 rw [row_n h]
 exact h
theorem ow_row {w : World} {N q c : Nat} {a : Option Addr} {xs : List UInt8} (h : Ow w N (.slice a q c) xs) (hq : xs.length = q) : w.ownsRow N 5 1 (.slice a q c) q (cb xs) := by
 unfold Ow at h
 rw [hq] at h
 exact h
def lenOf : Value → Nat
 | .slice _ n _ => n
 | _ => 0
def chR (bd : List UInt8) (sz : Int) : Er (List UInt8) := if sz < 1 ∨ 65536 < sz then .error 0 else if 1048576 < bd.length then .error 1 else .ok (chk sz.toNat bd)
def ChRo (ad : Nat → Addr) (w w' : World) (e : Ending) : Er (List UInt8) → Prop
 | .error k => e = .returned (.tuple #[.slice none 0 0, ev (ad k)])
 | .ok l => ∃ a c, e = .returned (.tuple #[.slice a l.length c, .nilIface]) ∧ Hd (Ow w' w.heap.size (.slice a l.length c) l)
set_option maxRecDepth 100000 in
set_option maxHeartbeats 4000000 in
theorem chunked_walk (ad : Nat → Addr) (ab : Option Addr) (nb cb' : Nat) (bd : List UInt8) (size : Int) (w : World) (hB : Sb w (.slice ab nb cb') bd) (hG : GE w ad) (hD : GD w) :
  Calls Tryz.prog 59 #[.slice ab nb cb', .int .i64 size] w fun e w' => ChRo ad w w' e (chR bd size) ∧ Up w w' := by
 obtain ⟨hbn, hbc, hbm⟩ := hB.len
 unfold maxLen at hbm
 have HB := Ho hB
 have HG := Ho hG
 have HGD := Ho hD
 have HBn := Ho hbn
 clear hB hG hD hbn
 obtain ⟨rv, hrv⟩ := ny (chR bd size)
 have HR := Ho hrv
 rw [hrv]
 clear hrv
 go_enter Tryz.func59, Tryz.ntmps59
 by_cases h1 : size < 1
 · have hgl : w.cell? ⟨7, 0, none⟩ = _ := HG.o.gl 0 (by decide)
   have HE := Ho (show rv = .error 0 by rw [← HR.o]; unfold chR; rw [if_pos (.inl h1)])
   go_wp2
   go_quiet (fail)
   go_wp2
   go_ret2
   rw [HE.o]
   exact ⟨rfl, (Up.refl _).drewN _⟩
 by_cases h2 : 65536 < size
 · have hgl : w.cell? ⟨7, 0, none⟩ = _ := HG.o.gl 0 (by decide)
   have HE := Ho (show rv = .error 0 by rw [← HR.o]; unfold chR; rw [if_pos (.inr h2)])
   go_wp2
   go_quiet (fail)
   go_wp2
   go_ret2
   rw [HE.o]
   exact ⟨rfl, (Up.refl _).drewN _⟩
 by_cases h3 : 1048576 < nb
 · have h3z : (1048576 : Int) < (nb : Int) := by omega
   have hgl : w.cell? ⟨2, 0, none⟩ = _ := HG.o.gl 1 (by decide)
   have HE := Ho (show rv = .error 1 by rw [← HR.o]; unfold chR; rw [if_neg (by omega), if_pos (by rw [← HBn.o]; exact h3)])
   go_wp2
   go_quiet (fail)
   go_wp2
   go_ret2
   rw [HE.o]
   exact ⟨rfl, (Up.refl _).drewN _⟩
 have h3z : ¬ (1048576 : Int) < (nb : Int) := by omega
 obtain ⟨sz, rfl⟩ : ∃ sz : Nat, size = (sz : Int) := ⟨size.toNat, by omega⟩
 have HE := Ho (show rv = .ok (chk sz bd) by rw [← HR.o]; unfold chR; rw [if_neg (by omega), if_neg (by rw [← HBn.o]; exact h3), Int.toNat_natCast])
 have hs1 : 1 ≤ sz ∧ sz ≤ 65536 := by omega
 obtain ⟨hs1, hs2⟩ := hs1
 clear HR
 go_wp2
 go_loopw [0, 6] (fun v0 v6 wr => ∃ n0 a0 c0, v0 = .slice a0 n0 c0 ∧ n0 ≤ 1048576 ∧ n0 ≤ c0 ∧ ∃ L a6 c6, v6 = .slice a6 L c6 ∧ L ≤ 10 * (1048576 - n0) ∧ Hd (Up w wr ∧ ∃ rest acc f, Sb w (.slice a0 n0 c0) rest ∧ rest.length ≤ f ∧ wr.ownsRow w.heap.size 5 1 (.slice a6 L c6) L (cb acc) ∧ chf bd.length sz bd = acc ++ chf f sz rest)) (fun v0 _ _ => lenOf v0)
 case atStart => exact ⟨nb, ab, cb', rfl, by omega, by omega, 0, none, 0, rfl, Nat.zero_le _, Ho ⟨Up.refl _, bd, [], bd.length, HB.o, Nat.le_refl _, World.ownsRow_nil _ _ _ _, by rw [List.nil_append]⟩⟩
 case round =>
  obtain ⟨n0, a0, c0, rfl, hn0, hnc0, L, a6, c6, rfl, hL6, hX⟩ := hrel
  obtain ⟨hU, rest, acc, f, hS, hf, hO, hE⟩ := hX.o
  clear hX
  have hl0 := hS.len.1
  have HLr := Ho hl0
  have HS := Ho hS
  have HU := Ho hU
  have HO := Ho hO
  have HE1 := Ho hE
  clear hU hS hO hE
  by_cases h0 : 0 < n0
  · have h0z : (0 : Int) < (n0 : Int) := by omega
    obtain ⟨g, rfl⟩ : ∃ g, f = g + 1 := ⟨f - 1, by omega⟩
    obtain ⟨n, hn⟩ := ny (min sz n0)
    have hn1 : 1 ≤ n ∧ n ≤ 65536 ∧ n ≤ n0 := by omega
    have hmz : min (sz : Int) (n0 : Int) = (n : Int) := by omega
    have HE2 := Ho (show chf bd.length sz bd = acc ++ hexL n ++ [13, 10] ++ rest.take n ++ [13, 10] ++ chf g sz (rest.drop n) by
     rw [HE1.o]
     have hne : rest ≠ [] := fun e => by rw [e] at hl0; simp at hl0; omega
     show acc ++ (if rest = [] then [] else _) = _
     rw [if_neg hne, ← hl0, hn]
     simp)
    have hxl := (hexL_facts hn1.2.1).2
    have HMz := Ho hmz
    have hf2 : (rest.drop n).length ≤ g := by rw [List.length_drop, ← hl0]; omega
    have HF2 := Ho hf2
    clear hl0 hn HE1 hmz hf hf2
    obtain ⟨hn1, hn2, hn3⟩ := hn1
    have HRt := Ho (show Sb w (.slice a0 n c0) (rest.take n) from by
     have h1 := HS.o
     rw [HLr.o] at h1
     exact h1.take n (by rw [← HLr.o]; exact hn3))
    have HRd := Ho (show Sb w (.slice (sv a0 c0 n) (n0 - n) (c0 - n)) (rest.drop n) from by
     have h1 := HS.o.sub n n0 hn3 (by rw [HLr.o]; exact Nat.le_refl _)
     rw [List.take_of_length_le (by rw [HLr.o]; exact Nat.le_refl _)] at h1
     exact h1)
    have HLt := Ho (show (rest.take n).length = n by rw [List.length_take, ← HLr.o]; omega)
    go_wp2_with fail
    rw [HMz.o]
    refine (AppendInt_hex a6 L c6 acc w.heap.size n wr HO.o HU.o.size (by omega) hn2 (HU.o.cell HGD.o)).mono ?_
    rintro e w2 ⟨⟨a2, c2, rfl, hO2⟩, hu2⟩
    have HO2 := Ho hO2.o
    have HU2 := Ho (hu2 w HU.o (Nat.le_refl _))
    clear hO2 hu2 HO
    dsimp only
    generalize (hexL n).length = xl at HO2 hxl ⊢
    obtain ⟨A1, hA1⟩ := ny (acc ++ hexL n)
    rw [hA1] at HO2 HE2
    clear hA1
    go_wp2_with (with_reducible refine sA ?_)
    show wpList _ _ _ _ _ _
    refine wpList_appStr rfl _ _ rfl a2 c2 A1 ⟨#[13, 10]⟩ [13, 10] rfl rfl rfl (row_n HO2.o) (row_ow HO2.o) HU2.o.size (by simp only [List.length_cons, List.length_nil]; omega) ?_
    intro a3 c3 w3 o3 u3
    rw [show ([13, 10] : List UInt8).length = 2 from rfl] at o3 ⊢
    have HO3 := Ho (ow_row o3 (by rw [List.length_append, row_n HO2.o]; rfl))
    have HU3 := Ho (u3 w HU2.o (Nat.le_refl _))
    clear o3 u3 HO2
    obtain ⟨A2, hA2⟩ := ny (A1 ++ [13, 10])
    rw [hA2] at HO3 HE2
    clear hA2
    simp only [Act.put, pB, pC, pD]
    go_wp2_with (with_reducible show wpList _ _ _ (⟨_, .slice 22 _ _ _ _, _, _, _, _⟩ :: _) _ _; refine Shut.out ?_)
    show wpList _ _ _ _ _ _
    refine wpList_val7 (.slice a0 n c0) rfl (exec_subhi (by omega) rfl rfl rfl) ?_
    simp only [Act.put, pB, pC, pD]
    go_wp2_with (with_reducible refine sA ?_)
    show wpList _ _ _ _ _ _
    refine wpList_appSb3 (N := w.heap.size) rfl _ _ rfl a3 c3 A2 _ (rest.take n) rfl rfl (HRt.o.up HU3.o) HO3.o HU3.o.size (by rw [HLt.o]; omega) ?_
    intro a4 c4 w4 o4 u4 _ _
    rw [HLt.o] at o4 ⊢
    have HO4 := Ho o4
    have HU4 := Ho (u4 w HU3.o (Nat.le_refl _))
    clear o4 u4 HO3
    obtain ⟨A3, hA3⟩ := ny (A2 ++ rest.take n)
    rw [hA3] at HO4 HE2
    clear hA3
    simp only [Act.put, pB, pC, pD]
    go_wp2_with (with_reducible refine sA ?_)
    show wpList _ _ _ _ _ _
    refine wpList_appStr rfl _ _ rfl a4 c4 A3 ⟨#[13, 10]⟩ [13, 10] rfl rfl rfl (row_n HO4.o) (row_ow HO4.o) HU4.o.size (by simp only [List.length_cons, List.length_nil]; omega) ?_
    intro a5 c5 w5 o5 u5
    rw [show ([13, 10] : List UInt8).length = 2 from rfl] at o5 ⊢
    have HO5 := Ho (ow_row o5 (by rw [List.length_append, row_n HO4.o]; rfl))
    have HU5 := Ho (u5 w HU4.o (Nat.le_refl _))
    clear o5 u5 HO4
    simp only [Act.put, pB, pC, pD]
    go_wp2_with (with_reducible show wpList _ _ _ (⟨_, .slice 22 _ _ _ _, _, _, _, _⟩ :: _) _ _; refine Shut.out ?_)
    show wpList _ _ _ _ _ _
    refine wpList_val7 (.slice (sv a0 c0 n) (n0 - n) (c0 - n)) rfl (exec_sublo (lo := n) (by omega) rfl rfl rfl) ?_
    simp only [Act.put, pB, pC, pD]
    have hL9 : L + xl + 2 + n + 2 ≤ 10 * (1048576 - (n0 - n)) := by omega
    go_wp2
    go_roundw
    all_goals first
     | exact ⟨n0 - n, sv a0 c0 n, c0 - n, rfl, by omega, by omega, L + xl + 2 + n + 2, a5, c5, rfl, hL9, Ho ⟨HU5.o, rest.drop n, _, g, HRd.o, HF2.o, HO5.o, HE2.o⟩⟩
     | (simp [lenOf]; omega)
  have h0z : ¬ (0 : Int) < (n0 : Int) := by omega
  have hr0 : rest = [] := List.eq_nil_of_length_eq_zero (by omega)
  have HA := Ho (show acc ++ chE = chk sz bd by unfold chk; rw [HE1.o, hr0, chf_nil, List.append_nil])
  clear hr0
  go_wp2_with (with_reducible refine sA ?_)
  show wpList _ _ _ _ _ _
  refine wpList_appStr rfl _ _ rfl a6 c6 acc ⟨#[48, 13, 10, 13, 10]⟩ chE rfl rfl rfl (row_n HO.o) (row_ow HO.o) HU.o.size (by simp only [chE, List.length_cons, List.length_nil]; omega) ?_
  intro a5 c5 w5 o5 u5
  have hla : L + chE.length = (chk sz bd).length := by rw [← HA.o, List.length_append, row_n HO.o]
  rw [hla, HA.o] at o5
  rw [hla]
  have HO5 := Ho o5
  have HU5 := Ho (u5 w HU.o (Nat.le_refl _))
  clear o5 u5 hla
  simp only [Act.put, pB, pC, pD]
  go_wp2
  go_ret2
  rw [HE.o]
  exact ⟨⟨a5, c5, rfl, HO5⟩, HU5.o⟩
def d16 : ByteArray := ⟨#[48, 49, 50, 51, 52, 53, 54, 55, 56, 57, 97, 98, 99, 100, 101, 102]⟩
theorem d16_at {r : Nat} (h : r < 16) : (d16.extract r (r + 1)).data.toList = [hdg r] := by
 have : ∀ r, r < 16 → (d16.extract r (r + 1)).data.toList = [hdg r] := by decide +kernel
 exact this r h
set_option maxRecDepth 100000 in
set_option maxHeartbeats 2000000 in
theorem Rsmall16_walk (n : Nat) (hn : n ≤ 1048576) (h1 : 1 ≤ n) (w : World) : Calls Tryz.prog 60 #[.int .i64 (n : Int)] w fun e w' => e = .returned (vs (hexL n)) ∧ w' = w := by
 go_enter Tryz.func60, Tryz.ntmps60
 go_wp2
 go_loop [0, 3] (fun v0 v3 => ∃ (m : Nat) (S : ByteArray), v0 = .int .i64 (m : Int) ∧ v3 = .string S ∧ m ≤ n ∧ S.size ≤ 1048576 - m ∧ Hd ((m = 0 → S.data.toList = hexL n) ∧ (m ≠ 0 → hexL m ++ S.data.toList = hexL n))) (fun v0 _ => (intOf v0).toNat)
 case atStart => exact ⟨n, ⟨#[]⟩, rfl, rfl, Nat.le_refl _, by simp [ByteArray.size], Ho ⟨fun h => by omega, fun _ => by simp⟩⟩
 case round =>
  obtain ⟨m, S, rfl, rfl, hm, hSz, hI⟩ := hrel
  by_cases h0 : 0 < m
  · have h0z : (0 : Int) < (m : Int) := by omega
    obtain ⟨r, hr⟩ := ny (m % 16)
    have hr16 : r < 16 := by rw [← hr]; exact Nat.mod_lt _ (by decide)
    have hrm : (m : Int).tmod 16 = (r : Int) := by rw [Int.tmod_eq_emod_of_nonneg (by omega)]; omega
    obtain ⟨q, hq⟩ := ny (m / 16)
    have hqm : (m : Int).tdiv 16 = (q : Int) := by rw [Int.tdiv_eq_ediv_of_nonneg (by omega)]; omega
    have hql : q < m := by rw [← hq]; omega
    have HE := Ho (d16_at hr16)
    have hr1 : (r : Int) ≤ (r : Int) + 1 := by omega
    have hr2 : (r : Int) + 1 ≤ 16 := by omega
    have HN := Ho (show (q = 0 → (d16.extract r (r + 1) ++ S).data.toList = hexL n) ∧ (q ≠ 0 → hexL q ++ (d16.extract r (r + 1) ++ S).data.toList = hexL n) by
     rw [bat_app, HE.o]
     have h2 := hI.o.2 (by omega)
     refine ⟨fun hq0 => ?_, fun hq0 => ?_⟩
     · rw [hexL_lt (by omega)] at h2
       rw [← h2, show m = r by omega]
     rw [hexL_ge (by omega), hr, hq, List.append_assoc] at h2
     exact h2)
    have HSz2 := Ho (show (d16.extract r (r + 1) ++ S).size ≤ 1048576 - q by
     rw [ByteArray.size_append]
     have : (d16.extract r (r + 1)).size = 1 := by rw [Go.Lib.size_eq, HE.o]; rfl
     omega)
    unfold d16 at HN HSz2
    clear hI hr hq HE
    go_wp2
    go_round
    case rel => exact ⟨q, _, rfl, rfl, by omega, HSz2.o, HN⟩
    case measure => simp [intOf]; omega
  have h0z : ¬ (0 : Int) < (m : Int) := by omega
  have hm0 : m = 0 := by omega
  have HE := Ho (hI.o.1 hm0)
  go_wp2
  go_ret
  rw [← HE.o]
  exact ⟨rfl, rfl⟩
def RChQ (w w' : World) (e : Ending) : Er (List UInt8) → Prop
 | .error k => e = .returned (.tuple #[.slice none 0 0, .int .i64 (nums k)])
 | .ok l => ∃ a c, e = .returned (.tuple #[.slice a l.length c, .int .i64 0]) ∧ Hd (Ow w' w.heap.size (.slice a l.length c) l)
set_option maxRecDepth 100000 in
set_option maxHeartbeats 4000000 in
theorem RChunked_walk (ab : Option Addr) (nb cb' : Nat) (bd : List UInt8) (size : Int) (w : World) (hB : Sb w (.slice ab nb cb') bd) :
  Calls Tryz.prog 25 #[.slice ab nb cb', .int .i64 size] w fun e w' => RChQ w w' e (chR bd size) ∧ Up w w' := by
 obtain ⟨hbn, hbc, hbm⟩ := hB.len
 unfold maxLen at hbm
 have HB := Ho hB
 have HBn := Ho hbn
 clear hB hbn
 obtain ⟨rv, hrv⟩ := ny (chR bd size)
 have HR := Ho hrv
 rw [hrv]
 clear hrv
 go_enter Tryz.func25, Tryz.ntmps25
 by_cases h1 : size < 1
 · have HE := Ho (show rv = .error 0 by rw [← HR.o]; unfold chR; rw [if_pos (.inl h1)])
   go_wp2
   go_ret2
   rw [HE.o]
   exact ⟨rfl, Up.refl _⟩
 by_cases h2 : 65536 < size
 · have HE := Ho (show rv = .error 0 by rw [← HR.o]; unfold chR; rw [if_pos (.inr h2)])
   go_wp2
   go_ret2
   rw [HE.o]
   exact ⟨rfl, Up.refl _⟩
 by_cases h3 : 1048576 < nb
 · have h3z : (1048576 : Int) < (nb : Int) := by omega
   have HE := Ho (show rv = .error 1 by rw [← HR.o]; unfold chR; rw [if_neg (by omega), if_pos (by rw [← HBn.o]; exact h3)])
   go_wp2
   go_ret2
   rw [HE.o]
   exact ⟨rfl, Up.refl _⟩
 have h3z : ¬ (1048576 : Int) < (nb : Int) := by omega
 obtain ⟨sz, rfl⟩ : ∃ sz : Nat, size = (sz : Int) := ⟨size.toNat, by omega⟩
 have HE := Ho (show rv = .ok (chk sz bd) by rw [← HR.o]; unfold chR; rw [if_neg (by omega), if_neg (by rw [← HBn.o]; exact h3), Int.toNat_natCast])
 have hs1 : 1 ≤ sz ∧ sz ≤ 65536 := by omega
 obtain ⟨hs1, hs2⟩ := hs1
 clear HR
 go_wp2
 go_loopw [0, 6] (fun v0 v6 wr => ∃ n0 a0 c0, v0 = .slice a0 n0 c0 ∧ n0 ≤ 1048576 ∧ n0 ≤ c0 ∧ ∃ L a6 c6, v6 = .slice a6 L c6 ∧ L ≤ 10 * (1048576 - n0) ∧ Hd (Up w wr ∧ ∃ rest acc f, Sb w (.slice a0 n0 c0) rest ∧ rest.length ≤ f ∧ wr.ownsRow w.heap.size 5 1 (.slice a6 L c6) L (cb acc) ∧ chf bd.length sz bd = acc ++ chf f sz rest)) (fun v0 _ _ => lenOf v0)
 case atStart => exact ⟨nb, ab, cb', rfl, by omega, by omega, 0, none, 0, rfl, Nat.zero_le _, Ho ⟨Up.refl _, bd, [], bd.length, HB.o, Nat.le_refl _, World.ownsRow_nil _ _ _ _, by rw [List.nil_append]⟩⟩
 case round =>
  obtain ⟨n0, a0, c0, rfl, hn0, hnc0, L, a6, c6, rfl, hL6, hX⟩ := hrel
  obtain ⟨hU, rest, acc, f, hS, hf, hO, hE⟩ := hX.o
  clear hX
  have hl0 := hS.len.1
  have HLr := Ho hl0
  have HS := Ho hS
  have HU := Ho hU
  have HO := Ho hO
  have HE1 := Ho hE
  clear hU hS hO hE
  by_cases h0 : 0 < n0
  · have h0z : (0 : Int) < (n0 : Int) := by omega
    obtain ⟨g, rfl⟩ : ∃ g, f = g + 1 := ⟨f - 1, by omega⟩
    obtain ⟨n, hn⟩ := ny (min sz n0)
    have hn1 : 1 ≤ n ∧ n ≤ 65536 ∧ n ≤ n0 := by omega
    have hcase : ((n0 : Int) < (sz : Int) ∧ n = n0) ∨ (¬ (n0 : Int) < (sz : Int) ∧ n = sz) := by omega
    have HE2 := Ho (show chf bd.length sz bd = acc ++ (hexL n ++ [13, 10]) ++ rest.take n ++ [13, 10] ++ chf g sz (rest.drop n) by
     rw [HE1.o]
     have hne : rest ≠ [] := fun e => by rw [e] at hl0; simp at hl0; omega
     show acc ++ (if rest = [] then [] else _) = _
     rw [if_neg hne, ← hl0, hn]
     simp)
    have hxl := (hexL_facts hn1.2.1).2
    have hf2 : (rest.drop n).length ≤ g := by rw [List.length_drop, ← hl0]; omega
    have HF2 := Ho hf2
    clear hl0 hn HE1 hf hf2
    obtain ⟨hn1, hn2, hn3⟩ := hn1
    have HRt := Ho (show Sb w (.slice a0 n c0) (rest.take n) from by
     have h1 := HS.o
     rw [HLr.o] at h1
     exact h1.take n (by rw [← HLr.o]; exact hn3))
    have HRd := Ho (show Sb w (.slice (sv a0 c0 n) (n0 - n) (c0 - n)) (rest.drop n) from by
     have h1 := HS.o.sub n n0 hn3 (by rw [HLr.o]; exact Nat.le_refl _)
     rw [List.take_of_length_le (by rw [HLr.o]; exact Nat.le_refl _)] at h1
     exact h1)
    have HLt := Ho (show (rest.take n).length = n by rw [List.length_take, ← HLr.o]; omega)
    have HSm := Ho (Rsmall16_walk n (by omega) hn1 wr)
    obtain ⟨X, hX⟩ := ny (⟨(hexL n).toArray⟩ : ByteArray)
    have HX := Ho (show (X ++ (⟨#[13, 10]⟩ : ByteArray)).data.toList = hexL n ++ [13, 10] by rw [bat_app, ← hX])
    have hXz : X.size ≤ 5 := by rw [Go.Lib.size_eq, ← hX]; exact hxl
    have hvX : vs (hexL n) = .string X := by rw [← hX]
    rw [hvX] at HSm
    have HXl := Ho (show (hexL n ++ [13, 10]).length ≤ 7 by rw [List.length_append]; simp only [List.length_cons, List.length_nil]; omega)
    generalize hexL n ++ [13, 10] = hx at *
    clear hX hvX hxl
    rcases hcase with ⟨hc, rfl⟩ | ⟨hc, rfl⟩
    all_goals
     go_wp2_with fail
     refine HSm.o.mono ?_
     rintro e w2 ⟨rfl, h9⟩
     obtain rfl := h9.symm
     clear h9 HSm
     dsimp only
     go_wp2_with (with_reducible refine sA ?_)
     show wpList _ _ _ _ _ _
     refine wpList_appStr rfl _ _ rfl a6 c6 acc (X ++ (⟨#[13, 10]⟩ : ByteArray)) hx rfl rfl HX.o (row_n HO.o) (row_ow HO.o) HU.o.size (by have := HXl.o; omega) ?_
     intro a3 c3 w3 o3 u3
     have HO3 := Ho (ow_row o3 (by rw [List.length_append, row_n HO.o]))
     have HU3 := Ho (u3 w HU.o (Nat.le_refl _))
     clear o3 u3 HO
     have hxl2 := HXl.o
     generalize hx.length = xl at HO3 hxl2 ⊢
     obtain ⟨A2, hA2⟩ := ny (acc ++ hx)
     rw [hA2] at HO3 HE2
     clear hA2
     simp only [Act.put, pB, pC, pD]
     go_wp2_with (with_reducible show wpList _ _ _ (⟨_, .slice 22 _ _ _ _, _, _, _, _⟩ :: _) _ _; refine Shut.out ?_)
     show wpList _ _ _ _ _ _
     refine wpList_val7 (.slice a0 _ c0) rfl (exec_subhi (by omega) rfl rfl rfl) ?_
     simp only [Act.put, pB, pC, pD]
     go_wp2_with (with_reducible refine sA ?_)
     show wpList _ _ _ _ _ _
     refine wpList_appSb3 (N := w.heap.size) rfl _ _ rfl a3 c3 A2 _ _ rfl rfl (HRt.o.up HU3.o) HO3.o HU3.o.size (by rw [HLt.o]; omega) ?_
     intro a4 c4 w4 o4 u4 _ _
     rw [HLt.o] at o4 ⊢
     have HO4 := Ho o4
     have HU4 := Ho (u4 w HU3.o (Nat.le_refl _))
     clear o4 u4 HO3
     simp only [Act.put, pB, pC, pD]
     go_wp2_with (with_reducible refine sA ?_)
     show wpList _ _ _ _ _ _
     refine wpList_appStr rfl _ _ rfl a4 c4 _ ⟨#[13, 10]⟩ [13, 10] rfl rfl rfl (row_n HO4.o) (row_ow HO4.o) HU4.o.size (by simp only [List.length_cons, List.length_nil]; omega) ?_
     intro a5 c5 w5 o5 u5
     rw [show ([13, 10] : List UInt8).length = 2 from rfl] at o5 ⊢
     have HO5 := Ho (ow_row o5 (by rw [List.length_append, row_n HO4.o]; rfl))
     have HU5 := Ho (u5 w HU4.o (Nat.le_refl _))
     clear o5 u5 HO4
     simp only [Act.put, pB, pC, pD]
     go_wp2_with (with_reducible show wpList _ _ _ (⟨_, .slice 22 _ _ _ _, _, _, _, _⟩ :: _) _ _; refine Shut.out ?_)
     show wpList _ _ _ _ _ _
     refine wpList_val7 (.slice (sv a0 c0 _) _ _) rfl (exec_sublo (by omega) rfl rfl rfl) ?_
     simp only [Act.put, pB, pC, pD]
     go_wp2
     go_roundw
     all_goals first
      | exact ⟨n0 - n0, sv a0 c0 n0, c0 - n0, rfl, by omega, by omega, L + xl + n0 + 2, a5, c5, rfl, by omega, Ho ⟨HU5.o, rest.drop n0, _, g, HRd.o, HF2.o, HO5.o, HE2.o⟩⟩
      | exact ⟨n - n, sv a0 c0 n, c0 - n, rfl, by omega, by omega, L + xl + n + 2, a5, c5, rfl, by omega, Ho ⟨HU5.o, rest.drop n, _, g, HRd.o, HF2.o, HO5.o, HE2.o⟩⟩
      | exact ⟨n0 - sz, sv a0 c0 sz, c0 - sz, rfl, by omega, by omega, L + xl + sz + 2, a5, c5, rfl, by omega, Ho ⟨HU5.o, rest.drop sz, _, g, HRd.o, HF2.o, HO5.o, HE2.o⟩⟩
      | exact ⟨n0 - n, sv a0 c0 n, c0 - n, rfl, by omega, by omega, L + xl + n + 2, a5, c5, rfl, by omega, Ho ⟨HU5.o, rest.drop n, _, g, HRd.o, HF2.o, HO5.o, HE2.o⟩⟩
      | (simp [lenOf]; omega)
  have h0z : ¬ (0 : Int) < (n0 : Int) := by omega
  have hr0 : rest = [] := List.eq_nil_of_length_eq_zero (by omega)
  have HA := Ho (show acc ++ chE = chk sz bd by unfold chk; rw [HE1.o, hr0, chf_nil, List.append_nil])
  clear hr0
  go_wp2_with (with_reducible refine sA ?_)
  show wpList _ _ _ _ _ _
  refine wpList_appStr rfl _ _ rfl a6 c6 acc ⟨#[48, 13, 10, 13, 10]⟩ chE rfl rfl rfl (row_n HO.o) (row_ow HO.o) HU.o.size (by simp only [chE, List.length_cons, List.length_nil]; omega) ?_
  intro a5 c5 w5 o5 u5
  have hla : L + chE.length = (chk sz bd).length := by rw [← HA.o, List.length_append, row_n HO.o]
  rw [hla, HA.o] at o5
  rw [hla]
  have HO5 := Ho o5
  have HU5 := Ho (u5 w HU.o (Nat.le_refl _))
  clear o5 u5
  simp only [Act.put, pB, pC, pD]
  go_wp2
  go_ret2
  rw [HE.o]
  exact ⟨⟨a5, c5, rfl, HO5⟩, HU5.o⟩
def ChQ (w w' : World) (e : Ending) : Er (List UInt8) → Prop
 | .error k => e = .returned (.tuple #[.slice none 0 0, .int .i64 (nums k)])
 | .ok l => ∃ a c, e = .returned (.tuple #[.slice a l.length c, .int .i64 0]) ∧ Hd (Ow w' w.heap.size (.slice a l.length c) l)
set_option maxRecDepth 100000 in
set_option maxHeartbeats 2000000 in
theorem Chunked_walk (ad : Nat → Addr) (ab : Option Addr) (nb cb' : Nat) (bd : List UInt8) (size : Int) (w : World) (hB : Sb w (.slice ab nb cb') bd) (hG : GE w ad) (hD : GD w) :
  Calls Tryz.prog 24 #[.slice ab nb cb', .int .i64 size] w fun e w' => ChQ w w' e (chR bd size) ∧ Up w w' := by
 have HC := Ho (chunked_walk ad ab nb cb' bd size w hB hG hD)
 have HG := Ho hG
 have hk : ∀ k, chR bd size = .error k → k < 12 := by
  intro k h
  unfold chR at h
  split at h
  · injection h with h; omega
  split at h
  · injection h with h; omega
  cases h
 clear hB hG hD
 go_enter Tryz.func24, Tryz.ntmps24
 go_wp2_with fail
 refine HC.o.mono ?_
 rintro e w2 ⟨hR, hU⟩
 have HU := Ho hU
 clear hU HC
 cases hq : chR bd size with
 | error k =>
  rw [hq] at hR
  obtain rfl := hR
  have hk2 := hk k hq
  have HQ := Ho hq
  clear hk hq
  dsimp only
  go_wp2_with fail
  refine (numberOf_err ad k hk2 w2 (HG.o.up HU.o)).mono ?_
  rintro e w3 ⟨rfl, h9⟩
  have HU3 := Ho (HU.o.trans h9)
  clear h9
  dsimp only
  go_wp2
  go_ret2
  rw [HQ.o]
  exact ⟨rfl, HU3.o⟩
 | ok l =>
  rw [hq] at hR
  obtain ⟨a, c, rfl, hO⟩ := hR
  have HO := Ho hO.o
  have HQ := Ho hq
  clear hk hq hO
  dsimp only
  go_wp2_with fail
  refine (numberOf_nil ad w2 (HG.o.up HU.o)).mono ?_
  rintro e w3 ⟨rfl, h9⟩
  have HU3 := Ho (HU.o.trans h9)
  have HO3 := Ho (ow_up HO.o h9)
  clear h9
  dsimp only
  go_wp2
  go_ret2
  rw [HQ.o]
  exact ⟨⟨a, c, rfl, HO3⟩, HU3.o⟩
def UnQ (w w' : World) (e : Ending) : Er (List UInt8 × Nat) → Prop
 | .error k => e = .returned (.tuple #[.slice none 0 0, .int .i64 0, .int .i64 (numK k)])
 | .ok (b, k) => ∃ a c, e = .returned (.tuple #[.slice a b.length c, .int .i64 (k : Int), .int .i64 0]) ∧ Hd (Ow w' w.heap.size (.slice a b.length c) b)
theorem unk_lt {l : List UInt8} {k : Nat} (h : unk l = .error k) : k < 24 := by
 unfold unk at h
 cases hc : unc (l.length + 1) [] l with
 | error e =>
  rw [hc] at h
  injection h with h
  have := unc_er _ _ _ _ hc
  omega
 | ok q =>
  rw [hc] at h
  cases h
set_option maxRecDepth 100000 in
set_option maxHeartbeats 2000000 in
theorem Unchunk_walk (ad : Nat → Addr) {a : Option Addr} {n c : Nat} {ds : List UInt8} (hn40 : n ≤ 1099511627776) (w : World) (hS : Sb w (.slice a n c) ds) (hG : GE w ad) : Calls Tryz.prog 35 #[.slice a n c] w fun e w' => UnQ w w' e (unk ds) ∧ Up w w' := by
 have HC := Ho (unchunk_walk ad hn40 w hS hG)
 have HG := Ho hG
 clear hS hG
 go_enter Tryz.func35, Tryz.ntmps35
 go_wp2_with fail
 refine HC.o.mono ?_
 rintro e w2 ⟨hR, hU⟩
 have HU := Ho hU
 clear hU HC
 cases hq : unk ds with
 | error k =>
  rw [hq] at hR
  obtain rfl := hR
  have hk2 := unk_lt hq
  have HQ := Ho hq
  clear hq
  dsimp only
  go_wp2_with fail
  refine (numberOf_any ad k hk2 w2 (HG.o.up HU.o)).mono ?_
  rintro e w3 ⟨rfl, h9⟩
  have HU3 := Ho (HU.o.trans h9)
  clear h9
  dsimp only
  go_wp2
  go_ret3
  rw [HQ.o]
  exact ⟨rfl, HU3.o⟩
 | ok q =>
  obtain ⟨b, k⟩ := q
  rw [hq] at hR
  obtain ⟨v, rfl, hO⟩ := hR
  obtain ⟨a2, c2, rfl⟩ := row_len hO.o
  have HO := Ho hO.o
  have HQ := Ho hq
  clear hq hO
  dsimp only
  go_wp2_with fail
  refine (numberOf_nil ad w2 (HG.o.up HU.o)).mono ?_
  rintro e w3 ⟨rfl, h9⟩
  have HU3 := Ho (HU.o.trans h9)
  have HO3 := Ho (ow_up HO.o h9)
  clear h9
  dsimp only
  go_wp2
  go_ret3
  rw [HQ.o]
  exact ⟨⟨a2, c2, rfl, HO3⟩, HU3.o⟩
theorem pdd_len (b : List UInt8) (pad : Int) : (pdd b pad).length ≤ b.length + 1100000 := by
 unfold pdd
 rw [List.length_append, List.length_replicate]
 omega
set_option maxRecDepth 100000 in
set_option maxHeartbeats 8000000 in
theorem parsesA_req (ad : Nat → Addr) (a : Option Addr) (n c : Nat) (b : List UInt8) (pad N : Int) (S : ByteArray) (qm qt : ByteArray) (qi : Int) (qa : Option Addr) (qn qc : Nat) (qa2 : Option Addr) (qn2 qc2 : Nat) (qa3 : Option Addr) (qn3 qc3 : Nat) (qp r0 r1 : Int) (ra : Option Addr) (rn rc : Nat) (ra2 : Option Addr) (rn2 rc2 : Nat) (ra3 : Option Addr) (rn3 rc3 : Nat) (rp : Int) (w : World) (hS : Sb w (.slice a n c) b) (hW : GW w ad) (hMt : w.rangeAt 0 0 mtC) (hb : b.length ≤ 1099511000) :
  Calls Tryz.prog 8 #[.agg #[.int .i64 1, .slice a n c, .int .i64 pad, .int .i64 N, .string S, .string qm, .string qt, .int .i64 qi, .slice qa qn qc, .slice qa2 qn2 qc2, .slice qa3 qn3 qc3, .int .i64 qp, .int .i64 r0, .int .i64 r1, .slice ra rn rc, .slice ra2 rn2 rc2, .slice ra3 rn3 rc3, .int .i64 rp]] w fun e w' => e = .returned (.bool true) ∧ Up w w' := by
 have HA1 := Ho (at_new w 31 [.int .i64 1, .slice a n c, .int .i64 pad, .int .i64 N, .string S, .string qm, .string qt, .int .i64 qi, .slice qa qn qc, .slice qa2 qn2 qc2, .slice qa3 qn3 qc3, .int .i64 qp, .int .i64 r0, .int .i64 r1, .slice ra rn rc, .slice ra2 rn2 rc2, .slice ra3 rn3 rc3, .int .i64 rp])
 have HU1 := Ho ((Up.refl w).alloc (.cells [.int .i64 1, .slice a n c, .int .i64 pad, .int .i64 N, .string S, .string qm, .string qt, .int .i64 qi, .slice qa qn qc, .slice qa2 qn2 qc2, .slice qa3 qn3 qc3, .int .i64 qp, .int .i64 r0, .int .i64 r1, .slice ra rn rc, .slice ra2 rn2 rc2, .slice ra3 rn3 rc3, .int .i64 rp].toArray 31))
 have HPd := Ho (padded_walk (.slice a n c) b pad (by omega) (w.alloc (.cells [.int .i64 1, .slice a n c, .int .i64 pad, .int .i64 N, .string S, .string qm, .string qt, .int .i64 qi, .slice qa qn qc, .slice qa2 qn2 qc2, .slice qa3 qn3 qc3, .int .i64 qp, .int .i64 r0, .int .i64 r1, .slice ra rn rc, .slice ra2 rn2 rc2, .slice ra3 rn3 rc3, .int .i64 rp].toArray 31)) (hS.up HU1.o))
 obtain ⟨b2, hb2⟩ := ny (pdd b pad)
 rw [hb2] at HPd
 have hbb : b2.length ≤ 1099511627000 := by rw [← hb2]; have := pdd_len b pad; omega
 clear hb2
 have HW := Ho hW
 have HMt := Ho hMt
 clear hS hW hMt
 obtain ⟨D, hD⟩ := ny (datQ (rqP b2))
 have HR := Ho (show ∀ (a : Option Addr) (n c : Nat) w2, n ≤ 1099511627000 → Sb w2 (.slice a n c) b2 → Up w w2 → Calls Tryz.prog 30 #[.slice a n c] w2 fun e w' => (∃ a c v, e = .returned (.tuple #[qV D a c v, .int .i64 D.n, .int .i64 D.e]) ∧ Hd (FdL w' a D.fs c ∧ Sb w' v D.b)) ∧ Up w2 w' from fun a n c w2 h1 h2 h3 => by
  rw [← hD]
  exact RParseRequest_dat h1 w2 h2 (range_up HMt.o h3))
 have HP := Ho (show ∀ (a : Option Addr) (n c : Nat) w2, n ≤ 1099511627000 → Sb w2 (.slice a n c) b2 → Up w w2 → Calls Tryz.prog 29 #[.slice a n c] w2 fun e w' => (∃ a c v, e = .returned (.tuple #[qV D a c v, .int .i64 D.n, .int .i64 D.e]) ∧ Hd (FdL w' a D.fs c ∧ Sb w' v D.b)) ∧ Up w2 w' from fun a n c w2 h1 h2 h3 => by
  rw [← hD]
  refine (ParseRequest_dat ad (by omega) w2 h2 (HW.o.up h3)).mono ?_
  rintro e w' ⟨a', c', v, rfl, hO, hU⟩
  exact ⟨⟨a', c', v, rfl, Ho ⟨hO.o.1.fdl, hO.o.2.sb⟩⟩, hU⟩)
 have hsm : Sml D.fs := by rw [← hD]; exact datQ_sml
 obtain ⟨M, T, mi, fs, cl, bo, nn, ee⟩ := D
 dsimp only [qV] at HR HP hsm
 obtain ⟨nf, hnf⟩ := ny fs.length
 rw [hnf] at HR HP
 have HNf := Ho hnf
 have hnfz : nf ≤ 1048576 := by rw [← hnf]; exact hsm.1
 clear hD hnf hsm
 go_enter Tryz.func8, Tryz.ntmps8
 go_wp2_with (with_reducible refine sF 31 ?_)
 show wpList _ _ _ _ _ _
 change wpList _ _ _ _ _ (w.alloc (.cells [.int .i64 1, .slice a n c, .int .i64 pad, .int .i64 N, .string S, .string qm, .string qt, .int .i64 qi, .slice qa qn qc, .slice qa2 qn2 qc2, .slice qa3 qn3 qc3, .int .i64 qp, .int .i64 r0, .int .i64 r1, .slice ra rn rc, .slice ra2 rn2 rc2, .slice ra3 rn3 rc3, .int .i64 rp].toArray 31))
 generalize w.alloc (.cells [.int .i64 1, .slice a n c, .int .i64 pad, .int .i64 N, .string S, .string qm, .string qt, .int .i64 qi, .slice qa qn qc, .slice qa2 qn2 qc2, .slice qa3 qn3 qc3, .int .i64 qp, .int .i64 r0, .int .i64 r1, .slice ra rn rc, .slice ra2 rn2 rc2, .slice ra3 rn3 rc3, .int .i64 rp].toArray 31) = w1 at *
 have p1 : w1.cell? ⟨w.heap.size, 1, none⟩ = _ := HA1.o.cell (i := 1) rfl
 have p2 : w1.cell? ⟨w.heap.size, 2, none⟩ = _ := HA1.o.cell (i := 2) rfl
 go_wp2_with fail
 refine HPd.o.mono ?_
 rintro e w2 ⟨v2, rfl, hO2, h9⟩
 obtain ⟨a2, c2, rfl⟩ := row_len hO2
 have HU2 := Ho (HU1.o.trans h9)
 have HA2 := Ho (HA1.o.up h9)
 have HS2 := Ho (Ow.sb hO2)
 clear h9 hO2 p1 p2 HPd
 dsimp only
 have p0 : w2.cell? ⟨w.heap.size, 0, none⟩ = _ := HA2.o.cell (i := 0) rfl
 go_wp2_with fail
 refine (HR.o a2 b2.length c2 w2 (by omega) HS2.o HU2.o).mono ?_
 rintro e w3 ⟨⟨aR, cR, vR, rfl, hO⟩, h9⟩
 have HU3 := Ho (HU2.o.trans h9)
 have HS3 := Ho (HS2.o.up h9)
 have HF3 := Ho hO.o.1
 have HB3 := Ho hO.o.2
 obtain ⟨aB, nB, cB, rfl⟩ := Sb.shape HB3.o
 clear h9 hO p0 HR
 dsimp only
 have HA3 := Ho (at_new w3 56 z6)
 have HUa3 := Ho ((Up.refl w3).alloc (.cells z6.toArray 56))
 go_wp2_with (with_reducible refine sS 56 ?_)
 show wpList _ _ _ _ _ _
 refine wpList_store_at rfl 56 _ _ rfl (w3.heap.size) HA3.o [.string M, .string T, .int .i64 mi, .slice aR nf cR, .slice aB nB cB, .bool cl] rfl rfl rfl (by kernel_rfl) (by kernel_rfl) ?_
 intro w4 hA4 hg4
 have HA4 := Ho hA4
 have HU34 := Ho (HUa3.o.bz hg4)
 have HU4 := Ho (HU3.o.trans HU34.o)
 have HS4 := Ho (HS3.o.up HU34.o)
 have HF4 := Ho (HF3.o.up HU34.o)
 have HB4 := Ho (HB3.o.up HU34.o)
 clear hA4 hg4 HA3 HUa3 HF3 HB3 HS3
 simp only [Act.put]
 go_wp2_with fail
 refine (HP.o a2 b2.length c2 w4 (by omega) HS4.o HU4.o).mono ?_
 rintro e w5 ⟨⟨aP, cP, vP, rfl, hO⟩, h9⟩
 have HU5 := Ho (HU4.o.trans h9)
 have HA5 := Ho (HA4.o.up h9)
 have HF5 := Ho (HF4.o.up h9)
 have HB5 := Ho (HB4.o.up h9)
 have HG5 := Ho hO.o.1
 have HC5 := Ho hO.o.2
 obtain ⟨aC, nC, cC, rfl⟩ := Sb.shape HC5.o
 clear h9 hO HP HS4
 dsimp only
 have HZ5 := Ho (at_new w5 48 z6)
 have HUa5 := Ho ((Up.refl w5).alloc (.cells z6.toArray 48))
 go_wp2_with (with_reducible refine sS 48 ?_)
 show wpList _ _ _ _ _ _
 refine wpList_store_at rfl 48 _ _ rfl (w5.heap.size) HZ5.o [.string M, .string T, .int .i64 mi, .slice aP nf cP, .slice aC nC cC, .bool cl] rfl rfl rfl (by kernel_rfl) (by kernel_rfl) ?_
 intro w6 hA6 hg6
 have HZ6 := Ho hA6
 have HU56 := Ho (HUa5.o.bz hg6)
 have HU6 := Ho (HU5.o.trans HU56.o)
 have HA6 := Ho (HA5.o.up HU56.o)
 have HF6 := Ho (HF5.o.up HU56.o)
 have HB6 := Ho (HB5.o.up HU56.o)
 have HG6 := Ho (HG5.o.up HU56.o)
 have HC6 := Ho (HC5.o.up HU56.o)
 clear hA6 hg6 HZ5 HUa5
 simp only [Act.put]
 go_wp2_with (with_reducible refine sL 48 ?_)
 show wpList _ _ _ _ _ _
 refine wpList_load_midH (by kernel_rfl) _ _ rfl w5.heap.size 0 rfl [.string M, .string T, .int .i64 mi, .slice aP nf cP, .slice aC nC cC, .bool cl] _ HZ6.o.range Tryz.underlying48 rfl (by kernel_rfl) ?_
 simp only [Act.put, pB, pC, pD]
 go_wp2_with (with_reducible refine sL 56 ?_)
 show wpList _ _ _ _ _ _
 refine wpList_load_midH (by kernel_rfl) _ _ rfl w3.heap.size 0 rfl [.string M, .string T, .int .i64 mi, .slice aR nf cR, .slice aB nB cB, .bool cl] _ HA6.o.range Tryz.underlying56 rfl (by kernel_rfl) ?_
 simp only [Act.put, pB, pC, pD]
 go_wp2_with fail
 refine (sameReq_same M T mi fs nf cl aP aR cP cR (.slice aC nC cC) (.slice aB nB cB) bo HNf.o hnfz w6 HG6.o HF6.o HC6.o HB6.o).mono ?_
 rintro e w7 ⟨rfl, h9⟩
 have HU7 := Ho (HU6.o.trans h9)
 clear h9
 dsimp only
 go_wp2
 go_ret
 exact ⟨rfl, HU7.o⟩
set_option maxRecDepth 100000 in
set_option maxHeartbeats 8000000 in
theorem parsesA_res (ad : Nat → Addr) (a : Option Addr) (n c : Nat) (b : List UInt8) (pad N : Int) (S : ByteArray) (qm qt : ByteArray) (qi : Int) (qa : Option Addr) (qn qc : Nat) (qa2 : Option Addr) (qn2 qc2 : Nat) (qa3 : Option Addr) (qn3 qc3 : Nat) (qp r0 r1 : Int) (ra : Option Addr) (rn rc : Nat) (ra2 : Option Addr) (rn2 rc2 : Nat) (ra3 : Option Addr) (rn3 rc3 : Nat) (rp : Int) (w : World) (hS : Sb w (.slice a n c) b) (hW : GW w ad) (hb : b.length ≤ 1099511000) :
  Calls Tryz.prog 8 #[.agg #[.int .i64 2, .slice a n c, .int .i64 pad, .int .i64 N, .string S, .string qm, .string qt, .int .i64 qi, .slice qa qn qc, .slice qa2 qn2 qc2, .slice qa3 qn3 qc3, .int .i64 qp, .int .i64 r0, .int .i64 r1, .slice ra rn rc, .slice ra2 rn2 rc2, .slice ra3 rn3 rc3, .int .i64 rp]] w fun e w' => e = .returned (.bool true) ∧ Up w w' := by
 have HA1 := Ho (at_new w 31 [.int .i64 2, .slice a n c, .int .i64 pad, .int .i64 N, .string S, .string qm, .string qt, .int .i64 qi, .slice qa qn qc, .slice qa2 qn2 qc2, .slice qa3 qn3 qc3, .int .i64 qp, .int .i64 r0, .int .i64 r1, .slice ra rn rc, .slice ra2 rn2 rc2, .slice ra3 rn3 rc3, .int .i64 rp])
 have HU1 := Ho ((Up.refl w).alloc (.cells [.int .i64 2, .slice a n c, .int .i64 pad, .int .i64 N, .string S, .string qm, .string qt, .int .i64 qi, .slice qa qn qc, .slice qa2 qn2 qc2, .slice qa3 qn3 qc3, .int .i64 qp, .int .i64 r0, .int .i64 r1, .slice ra rn rc, .slice ra2 rn2 rc2, .slice ra3 rn3 rc3, .int .i64 rp].toArray 31))
 have HPd := Ho (padded_walk (.slice a n c) b pad (by omega) (w.alloc (.cells [.int .i64 2, .slice a n c, .int .i64 pad, .int .i64 N, .string S, .string qm, .string qt, .int .i64 qi, .slice qa qn qc, .slice qa2 qn2 qc2, .slice qa3 qn3 qc3, .int .i64 qp, .int .i64 r0, .int .i64 r1, .slice ra rn rc, .slice ra2 rn2 rc2, .slice ra3 rn3 rc3, .int .i64 rp].toArray 31)) (hS.up HU1.o))
 obtain ⟨b2, hb2⟩ := ny (pdd b pad)
 rw [hb2] at HPd
 have hbb : b2.length ≤ 1099511627000 := by rw [← hb2]; have := pdd_len b pad; omega
 clear hb2
 have HW := Ho hW
 clear hS hW
 obtain ⟨D, hD⟩ := ny (datS (rsP b2))
 have HR := Ho (show ∀ (a : Option Addr) (n c : Nat) w2, n ≤ 1099511627000 → Sb w2 (.slice a n c) b2 → Up w w2 → Calls Tryz.prog 31 #[.slice a n c] w2 fun e w' => (∃ a c v, e = .returned (.tuple #[sV D a c v, .int .i64 D.n, .int .i64 D.e]) ∧ Hd (FdL w' a D.fs c ∧ Sb w' v D.b)) ∧ Up w2 w' from fun a n c w2 h1 h2 h3 => by
  rw [← hD]
  exact RParseResponse_dat h1 w2 h2)
 have HP := Ho (show ∀ (a : Option Addr) (n c : Nat) w2, n ≤ 1099511627000 → Sb w2 (.slice a n c) b2 → Up w w2 → Calls Tryz.prog 32 #[.slice a n c] w2 fun e w' => (∃ a c v, e = .returned (.tuple #[sV D a c v, .int .i64 D.n, .int .i64 D.e]) ∧ Hd (FdL w' a D.fs c ∧ Sb w' v D.b)) ∧ Up w2 w' from fun a n c w2 h1 h2 h3 => by
  rw [← hD]
  refine (ParseResponse_dat ad (by omega) w2 h2 (HW.o.up h3)).mono ?_
  rintro e w' ⟨a', c', v, rfl, hO, hU⟩
  exact ⟨⟨a', c', v, rfl, Ho ⟨hO.o.1.fdl, hO.o.2.sb⟩⟩, hU⟩)
 have hsm : Sml D.fs := by rw [← hD]; exact datS_sml
 obtain ⟨st, mi, fs, cl, bo, nn, ee⟩ := D
 dsimp only [sV] at HR HP hsm
 obtain ⟨nf, hnf⟩ := ny fs.length
 rw [hnf] at HR HP
 have HNf := Ho hnf
 have hnfz : nf ≤ 1048576 := by rw [← hnf]; exact hsm.1
 clear hD hnf hsm
 go_enter Tryz.func8, Tryz.ntmps8
 go_wp2_with (with_reducible refine sF 31 ?_)
 show wpList _ _ _ _ _ _
 change wpList _ _ _ _ _ (w.alloc (.cells [.int .i64 2, .slice a n c, .int .i64 pad, .int .i64 N, .string S, .string qm, .string qt, .int .i64 qi, .slice qa qn qc, .slice qa2 qn2 qc2, .slice qa3 qn3 qc3, .int .i64 qp, .int .i64 r0, .int .i64 r1, .slice ra rn rc, .slice ra2 rn2 rc2, .slice ra3 rn3 rc3, .int .i64 rp].toArray 31))
 generalize w.alloc (.cells [.int .i64 2, .slice a n c, .int .i64 pad, .int .i64 N, .string S, .string qm, .string qt, .int .i64 qi, .slice qa qn qc, .slice qa2 qn2 qc2, .slice qa3 qn3 qc3, .int .i64 qp, .int .i64 r0, .int .i64 r1, .slice ra rn rc, .slice ra2 rn2 rc2, .slice ra3 rn3 rc3, .int .i64 rp].toArray 31) = w1 at *
 have p1 : w1.cell? ⟨w.heap.size, 1, none⟩ = _ := HA1.o.cell (i := 1) rfl
 have p2 : w1.cell? ⟨w.heap.size, 2, none⟩ = _ := HA1.o.cell (i := 2) rfl
 go_wp2_with fail
 refine HPd.o.mono ?_
 rintro e w2 ⟨v2, rfl, hO2, h9⟩
 obtain ⟨a2, c2, rfl⟩ := row_len hO2
 have HU2 := Ho (HU1.o.trans h9)
 have HA2 := Ho (HA1.o.up h9)
 have HS2 := Ho (Ow.sb hO2)
 clear h9 hO2 p1 p2 HPd
 dsimp only
 have p0 : w2.cell? ⟨w.heap.size, 0, none⟩ = _ := HA2.o.cell (i := 0) rfl
 go_wp2_with fail
 refine (HR.o a2 b2.length c2 w2 (by omega) HS2.o HU2.o).mono ?_
 rintro e w3 ⟨⟨aR, cR, vR, rfl, hO⟩, h9⟩
 have HU3 := Ho (HU2.o.trans h9)
 have HS3 := Ho (HS2.o.up h9)
 have HF3 := Ho hO.o.1
 have HB3 := Ho hO.o.2
 obtain ⟨aB, nB, cB, rfl⟩ := Sb.shape HB3.o
 clear h9 hO p0 HR
 dsimp only
 have HA3 := Ho (at_new w3 73 z5)
 have HUa3 := Ho ((Up.refl w3).alloc (.cells z5.toArray 73))
 go_wp2_with (with_reducible refine sS 73 ?_)
 show wpList _ _ _ _ _ _
 refine wpList_store_at rfl 73 _ _ rfl (w3.heap.size) HA3.o [.int .i64 st, .int .i64 mi, .slice aR nf cR, .slice aB nB cB, .bool cl] rfl rfl rfl (by kernel_rfl) (by kernel_rfl) ?_
 intro w4 hA4 hg4
 have HA4 := Ho hA4
 have HU34 := Ho (HUa3.o.bz hg4)
 have HU4 := Ho (HU3.o.trans HU34.o)
 have HS4 := Ho (HS3.o.up HU34.o)
 have HF4 := Ho (HF3.o.up HU34.o)
 have HB4 := Ho (HB3.o.up HU34.o)
 clear hA4 hg4 HA3 HUa3 HF3 HB3 HS3
 simp only [Act.put]
 go_wp2_with fail
 refine (HP.o a2 b2.length c2 w4 (by omega) HS4.o HU4.o).mono ?_
 rintro e w5 ⟨⟨aP, cP, vP, rfl, hO⟩, h9⟩
 have HU5 := Ho (HU4.o.trans h9)
 have HA5 := Ho (HA4.o.up h9)
 have HF5 := Ho (HF4.o.up h9)
 have HB5 := Ho (HB4.o.up h9)
 have HG5 := Ho hO.o.1
 have HC5 := Ho hO.o.2
 obtain ⟨aC, nC, cC, rfl⟩ := Sb.shape HC5.o
 clear h9 hO HP HS4
 dsimp only
 have HZ5 := Ho (at_new w5 77 z5)
 have HUa5 := Ho ((Up.refl w5).alloc (.cells z5.toArray 77))
 go_wp2_with (with_reducible refine sS 77 ?_)
 show wpList _ _ _ _ _ _
 refine wpList_store_at rfl 77 _ _ rfl (w5.heap.size) HZ5.o [.int .i64 st, .int .i64 mi, .slice aP nf cP, .slice aC nC cC, .bool cl] rfl rfl rfl (by kernel_rfl) (by kernel_rfl) ?_
 intro w6 hA6 hg6
 have HZ6 := Ho hA6
 have HU56 := Ho (HUa5.o.bz hg6)
 have HU6 := Ho (HU5.o.trans HU56.o)
 have HA6 := Ho (HA5.o.up HU56.o)
 have HF6 := Ho (HF5.o.up HU56.o)
 have HB6 := Ho (HB5.o.up HU56.o)
 have HG6 := Ho (HG5.o.up HU56.o)
 have HC6 := Ho (HC5.o.up HU56.o)
 clear hA6 hg6 HZ5 HUa5
 simp only [Act.put]
 go_wp2_with (with_reducible refine sL 77 ?_)
 show wpList _ _ _ _ _ _
 refine wpList_load_midH (by kernel_rfl) _ _ rfl w5.heap.size 0 rfl [.int .i64 st, .int .i64 mi, .slice aP nf cP, .slice aC nC cC, .bool cl] _ HZ6.o.range Tryz.underlying77 rfl (by kernel_rfl) ?_
 simp only [Act.put, pB, pC, pD]
 go_wp2_with (with_reducible refine sL 73 ?_)
 show wpList _ _ _ _ _ _
 refine wpList_load_midH (by kernel_rfl) _ _ rfl w3.heap.size 0 rfl [.int .i64 st, .int .i64 mi, .slice aR nf cR, .slice aB nB cB, .bool cl] _ HA6.o.range Tryz.underlying73 rfl (by kernel_rfl) ?_
 simp only [Act.put, pB, pC, pD]
 go_wp2_with fail
 refine (sameRes_same st mi fs nf cl aP aR cP cR (.slice aC nC cC) (.slice aB nB cB) bo HNf.o hnfz w6 HG6.o HF6.o HC6.o HB6.o).mono ?_
 rintro e w7 ⟨rfl, h9⟩
 have HU7 := Ho (HU6.o.trans h9)
 clear h9
 dsimp only
 go_wp2
 go_ret
 exact ⟨rfl, HU7.o⟩
set_option maxRecDepth 100000 in
set_option maxHeartbeats 8000000 in
theorem parsesA_chk (ad : Nat → Addr) (a : Option Addr) (n c : Nat) (b : List UInt8) (pad N : Int) (S : ByteArray) (qm qt : ByteArray) (qi : Int) (qa : Option Addr) (qn qc : Nat) (qa2 : Option Addr) (qn2 qc2 : Nat) (qa3 : Option Addr) (qn3 qc3 : Nat) (qp r0 r1 : Int) (ra : Option Addr) (rn rc : Nat) (ra2 : Option Addr) (rn2 rc2 : Nat) (ra3 : Option Addr) (rn3 rc3 : Nat) (rp : Int) (w : World) (hS : Sb w (.slice a n c) b) (hE : GE w ad) (hD : GD w) (hb : b.length ≤ 1099511000) :
  Calls Tryz.prog 8 #[.agg #[.int .i64 9, .slice a n c, .int .i64 pad, .int .i64 N, .string S, .string qm, .string qt, .int .i64 qi, .slice qa qn qc, .slice qa2 qn2 qc2, .slice qa3 qn3 qc3, .int .i64 qp, .int .i64 r0, .int .i64 r1, .slice ra rn rc, .slice ra2 rn2 rc2, .slice ra3 rn3 rc3, .int .i64 rp]] w fun e w' => e = .returned (.bool true) ∧ Up w w' := by
 have HA1 := Ho (at_new w 31 [.int .i64 9, .slice a n c, .int .i64 pad, .int .i64 N, .string S, .string qm, .string qt, .int .i64 qi, .slice qa qn qc, .slice qa2 qn2 qc2, .slice qa3 qn3 qc3, .int .i64 qp, .int .i64 r0, .int .i64 r1, .slice ra rn rc, .slice ra2 rn2 rc2, .slice ra3 rn3 rc3, .int .i64 rp])
 have HU1 := Ho ((Up.refl w).alloc (.cells [.int .i64 9, .slice a n c, .int .i64 pad, .int .i64 N, .string S, .string qm, .string qt, .int .i64 qi, .slice qa qn qc, .slice qa2 qn2 qc2, .slice qa3 qn3 qc3, .int .i64 qp, .int .i64 r0, .int .i64 r1, .slice ra rn rc, .slice ra2 rn2 rc2, .slice ra3 rn3 rc3, .int .i64 rp].toArray 31))
 have HPd := Ho (padded_walk (.slice a n c) b pad (by omega) (w.alloc (.cells [.int .i64 9, .slice a n c, .int .i64 pad, .int .i64 N, .string S, .string qm, .string qt, .int .i64 qi, .slice qa qn qc, .slice qa2 qn2 qc2, .slice qa3 qn3 qc3, .int .i64 qp, .int .i64 r0, .int .i64 r1, .slice ra rn rc, .slice ra2 rn2 rc2, .slice ra3 rn3 rc3, .int .i64 rp].toArray 31)) (hS.up HU1.o))
 obtain ⟨b2, hb2⟩ := ny (pdd b pad)
 rw [hb2] at HPd
 have hbb : b2.length ≤ 1099511627000 := by rw [← hb2]; have := pdd_len b pad; omega
 clear hb2
 have HE := Ho hE
 have HGD := Ho hD
 clear hS hE hD
 obtain ⟨rc0, hrc0⟩ := ny (chR b2 N)
 have HR := Ho (fun (a : Option Addr) (n c : Nat) w2 (h : Sb w2 (.slice a n c) b2) => RChunked_walk a n c b2 N w2 h)
 have HP := Ho (fun (a : Option Addr) (n c : Nat) w2 (h : Sb w2 (.slice a n c) b2) (k : Up w w2) => Chunked_walk ad a n c b2 N w2 h (HE.o.up k) (k.cell HGD.o))
 rw [hrc0] at HR HP
 clear hrc0
 go_enter Tryz.func8, Tryz.ntmps8
 go_wp2_with (with_reducible refine sF 31 ?_)
 show wpList _ _ _ _ _ _
 change wpList _ _ _ _ _ (w.alloc (.cells [.int .i64 9, .slice a n c, .int .i64 pad, .int .i64 N, .string S, .string qm, .string qt, .int .i64 qi, .slice qa qn qc, .slice qa2 qn2 qc2, .slice qa3 qn3 qc3, .int .i64 qp, .int .i64 r0, .int .i64 r1, .slice ra rn rc, .slice ra2 rn2 rc2, .slice ra3 rn3 rc3, .int .i64 rp].toArray 31))
 generalize w.alloc (.cells [.int .i64 9, .slice a n c, .int .i64 pad, .int .i64 N, .string S, .string qm, .string qt, .int .i64 qi, .slice qa qn qc, .slice qa2 qn2 qc2, .slice qa3 qn3 qc3, .int .i64 qp, .int .i64 r0, .int .i64 r1, .slice ra rn rc, .slice ra2 rn2 rc2, .slice ra3 rn3 rc3, .int .i64 rp].toArray 31) = w1 at *
 have p1 : w1.cell? ⟨w.heap.size, 1, none⟩ = _ := HA1.o.cell (i := 1) rfl
 have p2 : w1.cell? ⟨w.heap.size, 2, none⟩ = _ := HA1.o.cell (i := 2) rfl
 go_wp2_with fail
 refine HPd.o.mono ?_
 rintro e w2 ⟨v2, rfl, hO2, h9⟩
 obtain ⟨a2, c2, rfl⟩ := row_len hO2
 have HU2 := Ho (HU1.o.trans h9)
 have HA2 := Ho (HA1.o.up h9)
 have HS2 := Ho (Ow.sb hO2)
 clear h9 hO2 p1 p2 HPd
 dsimp only
 have p0 : w2.cell? ⟨w.heap.size, 0, none⟩ = _ := HA2.o.cell (i := 0) rfl
 have p3 : w2.cell? ⟨w.heap.size, 3, none⟩ = _ := HA2.o.cell (i := 3) rfl
 go_wp2_with fail
 refine (HR.o a2 b2.length c2 w2 HS2.o).mono ?_
 rintro e w3 ⟨hR, h9⟩
 have HU3 := Ho (HU2.o.trans h9)
 have HA3 := Ho (HA2.o.up h9)
 have HS3 := Ho (HS2.o.up h9)
 clear h9 HR p0 p3
 cases rc0 with
 | error k =>
  obtain rfl : e = _ := hR
  dsimp only
  have p3 : w3.cell? ⟨w.heap.size, 3, none⟩ = _ := HA3.o.cell (i := 3) rfl
  go_wp2_with fail
  refine (HP.o a2 b2.length c2 w3 HS3.o HU3.o).mono ?_
  rintro e w5 ⟨hR, h9⟩
  obtain rfl : e = _ := hR
  have HU5 := Ho (HU3.o.trans h9)
  clear h9 p3
  dsimp only
  have hcv1 := conv_sb2 (sb_nil' w5)
  go_wp2
  go_ret
  exact ⟨rfl, HU5.o⟩
 | ok l =>
  obtain ⟨a3, c3, rfl, hO3⟩ := hR
  have HO3 := Ho (Ow.sb hO3.o)
  obtain ⟨ll, hll⟩ := ny l.length
  rw [hll] at HO3
  clear hO3
  dsimp only
  rw [hll]
  have p3 : w3.cell? ⟨w.heap.size, 3, none⟩ = _ := HA3.o.cell (i := 3) rfl
  go_wp2_with fail
  refine (HP.o a2 b2.length c2 w3 HS3.o HU3.o).mono ?_
  rintro e w5 ⟨hR, h9⟩
  obtain ⟨a5, c5, rfl, hO5⟩ := hR
  have HO5 := Ho (Ow.sb hO5.o)
  rw [hll] at HO5
  have HU5 := Ho (HU3.o.trans h9)
  have hcv1 := conv_sb2 (HO3.o.up h9)
  have hcv2 := conv_sb2 HO5.o
  clear h9 hO5 p3
  obtain ⟨LB, hLB⟩ := ny (⟨l.toArray⟩ : ByteArray)
  rw [hLB] at hcv1 hcv2
  dsimp only
  rw [hll]
  clear hLB hll
  have e5 : (LB.toList == LB.toList) = true := beq_self_eq_true _
  go_wp2
  go_ret
  exact ⟨rfl, HU5.o⟩
set_option maxRecDepth 100000 in
set_option maxHeartbeats 8000000 in
theorem parsesA_unk (ad : Nat → Addr) (a : Option Addr) (n c : Nat) (b : List UInt8) (pad N : Int) (S : ByteArray) (qm qt : ByteArray) (qi : Int) (qa : Option Addr) (qn qc : Nat) (qa2 : Option Addr) (qn2 qc2 : Nat) (qa3 : Option Addr) (qn3 qc3 : Nat) (qp r0 r1 : Int) (ra : Option Addr) (rn rc : Nat) (ra2 : Option Addr) (rn2 rc2 : Nat) (ra3 : Option Addr) (rn3 rc3 : Nat) (rp : Int) (w : World) (hS : Sb w (.slice a n c) b) (hE : GE w ad) (hb : b.length ≤ 1099511000) :
  Calls Tryz.prog 8 #[.agg #[.int .i64 10, .slice a n c, .int .i64 pad, .int .i64 N, .string S, .string qm, .string qt, .int .i64 qi, .slice qa qn qc, .slice qa2 qn2 qc2, .slice qa3 qn3 qc3, .int .i64 qp, .int .i64 r0, .int .i64 r1, .slice ra rn rc, .slice ra2 rn2 rc2, .slice ra3 rn3 rc3, .int .i64 rp]] w fun e w' => e = .returned (.bool true) ∧ Up w w' := by
 have HA1 := Ho (at_new w 31 [.int .i64 10, .slice a n c, .int .i64 pad, .int .i64 N, .string S, .string qm, .string qt, .int .i64 qi, .slice qa qn qc, .slice qa2 qn2 qc2, .slice qa3 qn3 qc3, .int .i64 qp, .int .i64 r0, .int .i64 r1, .slice ra rn rc, .slice ra2 rn2 rc2, .slice ra3 rn3 rc3, .int .i64 rp])
 have HU1 := Ho ((Up.refl w).alloc (.cells [.int .i64 10, .slice a n c, .int .i64 pad, .int .i64 N, .string S, .string qm, .string qt, .int .i64 qi, .slice qa qn qc, .slice qa2 qn2 qc2, .slice qa3 qn3 qc3, .int .i64 qp, .int .i64 r0, .int .i64 r1, .slice ra rn rc, .slice ra2 rn2 rc2, .slice ra3 rn3 rc3, .int .i64 rp].toArray 31))
 have HPd := Ho (padded_walk (.slice a n c) b pad (by omega) (w.alloc (.cells [.int .i64 10, .slice a n c, .int .i64 pad, .int .i64 N, .string S, .string qm, .string qt, .int .i64 qi, .slice qa qn qc, .slice qa2 qn2 qc2, .slice qa3 qn3 qc3, .int .i64 qp, .int .i64 r0, .int .i64 r1, .slice ra rn rc, .slice ra2 rn2 rc2, .slice ra3 rn3 rc3, .int .i64 rp].toArray 31)) (hS.up HU1.o))
 obtain ⟨b2, hb2⟩ := ny (pdd b pad)
 rw [hb2] at HPd
 have hbb : b2.length ≤ 1099511627000 := by rw [← hb2]; have := pdd_len b pad; omega
 clear hb2
 have HE := Ho hE
 clear hS hE
 obtain ⟨rc0, hrc0⟩ := ny (unk b2)
 have HR := Ho (fun (a : Option Addr) (n c : Nat) w2 (hn : n ≤ 1099511627000) (h : Sb w2 (.slice a n c) b2) => RUnchunk_walk hn w2 h)
 have HP := Ho (fun (a : Option Addr) (n c : Nat) w2 (hn : n ≤ 1099511627776) (h : Sb w2 (.slice a n c) b2) (k : Up w w2) => Unchunk_walk ad hn w2 h (HE.o.up k))
 rw [hrc0] at HR HP
 clear hrc0
 go_enter Tryz.func8, Tryz.ntmps8
 go_wp2_with (with_reducible refine sF 31 ?_)
 show wpList _ _ _ _ _ _
 change wpList _ _ _ _ _ (w.alloc (.cells [.int .i64 10, .slice a n c, .int .i64 pad, .int .i64 N, .string S, .string qm, .string qt, .int .i64 qi, .slice qa qn qc, .slice qa2 qn2 qc2, .slice qa3 qn3 qc3, .int .i64 qp, .int .i64 r0, .int .i64 r1, .slice ra rn rc, .slice ra2 rn2 rc2, .slice ra3 rn3 rc3, .int .i64 rp].toArray 31))
 generalize w.alloc (.cells [.int .i64 10, .slice a n c, .int .i64 pad, .int .i64 N, .string S, .string qm, .string qt, .int .i64 qi, .slice qa qn qc, .slice qa2 qn2 qc2, .slice qa3 qn3 qc3, .int .i64 qp, .int .i64 r0, .int .i64 r1, .slice ra rn rc, .slice ra2 rn2 rc2, .slice ra3 rn3 rc3, .int .i64 rp].toArray 31) = w1 at *
 have p1 : w1.cell? ⟨w.heap.size, 1, none⟩ = _ := HA1.o.cell (i := 1) rfl
 have p2 : w1.cell? ⟨w.heap.size, 2, none⟩ = _ := HA1.o.cell (i := 2) rfl
 go_wp2_with fail
 refine HPd.o.mono ?_
 rintro e w2 ⟨v2, rfl, hO2, h9⟩
 obtain ⟨a2, c2, rfl⟩ := row_len hO2
 have HU2 := Ho (HU1.o.trans h9)
 have HA2 := Ho (HA1.o.up h9)
 have HS2 := Ho (Ow.sb hO2)
 clear h9 hO2 p1 p2 HPd
 dsimp only
 have p0 : w2.cell? ⟨w.heap.size, 0, none⟩ = _ := HA2.o.cell (i := 0) rfl
 go_wp2_with fail
 refine (HR.o a2 b2.length c2 w2 hbb HS2.o).mono ?_
 rintro e w3 ⟨hR, h9⟩
 have HU3 := Ho (HU2.o.trans h9)
 have HS3 := Ho (HS2.o.up h9)
 clear h9 HR p0
 cases rc0 with
 | error k =>
  obtain rfl : e = _ := hR
  dsimp only
  go_wp2_with fail
  refine (HP.o a2 b2.length c2 w3 (by omega) HS3.o HU3.o).mono ?_
  rintro e w5 ⟨hR, h9⟩
  obtain rfl : e = _ := hR
  have HU5 := Ho (HU3.o.trans h9)
  clear h9
  dsimp only
  have hcv1 := conv_sb2 (sb_nil' w5)
  go_wp2
  go_ret
  exact ⟨rfl, HU5.o⟩
 | ok p =>
  obtain ⟨l, kk⟩ := p
  obtain ⟨v3, rfl, hO3⟩ := hR
  obtain ⟨a3, c3, rfl⟩ := row_len hO3.o
  have HO3 := Ho (Ow.sb hO3.o)
  obtain ⟨ll, hll⟩ := ny l.length
  rw [hll] at HO3
  clear hO3
  dsimp only
  rw [hll]
  go_wp2_with fail
  refine (HP.o a2 b2.length c2 w3 (by omega) HS3.o HU3.o).mono ?_
  rintro e w5 ⟨hR, h9⟩
  obtain ⟨a5, c5, rfl, hO5⟩ := hR
  have HO5 := Ho (Ow.sb hO5.o)
  rw [hll] at HO5
  have HU5 := Ho (HU3.o.trans h9)
  have hcv1 := conv_sb2 (HO3.o.up h9)
  have hcv2 := conv_sb2 HO5.o
  clear h9 hO5
  obtain ⟨LB, hLB⟩ := ny (⟨l.toArray⟩ : ByteArray)
  rw [hLB] at hcv1 hcv2
  dsimp only
  rw [hll]
  clear hLB hll
  have e5 : (LB.toList == LB.toList) = true := beq_self_eq_true _
  go_wp2
  go_ret
  exact ⟨rfl, HU5.o⟩
end Go.Proofs.YtehnnlhoajdcaaaGreatDoor
