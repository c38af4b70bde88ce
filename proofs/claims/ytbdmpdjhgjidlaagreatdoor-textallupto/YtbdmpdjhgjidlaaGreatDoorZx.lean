import Derived.Test.YtbdmpdjhgjidlaaGreatDoorYg
import Derived.Test.YtbdmpdjhgjidlaaGreatDoorOp
import Derived.SizedLaws
import Derived.ProofKit
import Derived.OpenShut
import Derived.ChangeSame
import Derived.WideKeyArgs
import Derived.DataReads
import Derived.Lib.LaidTab
import Derived.Stop.LaidErr
import Derived.LaidMore
namespace Go.Proofs.YtbdmpdjhgjidlaaGreatDoor
section
open Go.RowKit Go.Shelf TextNum
set_option maxRecDepth 100000 in
set_option maxHeartbeats 1000000 in
theorem plays_prs (s : ByteArray) (b : Value) (n m : Int) (w : World) (hG : GZ w) (hm0 : -9223372036854775808 ≤ m) (hm1 : m ≤ 9223372036854775807) :
    Calls Tryz.prog 6 #[.agg (opc 6 s b n m).toArray] w fun e w' => e = .returned (.bool true) ∧ Up w w' := by
  have HO := Hid.of (And.intro (ob_new w 6 s b n m 30) ((Up.refl w).alloc (.cells #[.int .i64 6, .string s, b, .int .i64 n, .int .i64 m] 30)))
  have HG := Hid.of (And.intro hG (And.intro hm0 hm1))
  clear hG hm0 hm1
  unfold opc
  go_enter Tryz.func6, Tryz.ntmps6
  go_wp2_with fail
  refine (ParseNumber_walk s m _ (HG.out.1.gn.up HO.out.2)).mono ?_
  rintro e w1 ⟨rfl, u1⟩
  have hc1 := (HO.out.1.up u1).rs
  have hm1 := (HO.out.1.up u1).rm
  have H1 := Hid.of (HO.out.2.trans u1)
  clear u1 HO
  dsimp only
  go_wp2_with fail
  refine (RParse_walk s m HG.out.2.1 HG.out.2.2 w1).mono ?_
  rintro e w2 ⟨rfl, u2⟩
  have H2 := Hid.of (H1.out.trans u2)
  clear u2 hc1 hm1 H1
  dsimp only
  go_wp2
  go_ret
  exact ⟨by simp, H2.out⟩
theorem infoOp : (Tryz.prog.info? 30).map (·.size) = some 5 := by kernel_rfl
set_option maxRecDepth 100000 in
set_option maxHeartbeats 1000000 in
theorem plays_dec (k : Int) (hk : k = 2 ∨ k = 4 ∨ k = 12) (s : ByteArray) (b : Value) (n m : Int) (w : World)
    (hD : ∀ W, Up w W → Calls Tryz.prog 14 #[.agg (opc k s b n m).toArray] W fun e w' => e = .returned (.bool true) ∧ Up W w') :
    Calls Tryz.prog 6 #[.agg (opc k s b n m).toArray] w fun e w' => e = .returned (.bool true) ∧ Up w w' := by
  have HO := Hid.of ((Up.refl w).alloc (.cells #[.int .i64 k, .string s, b, .int .i64 n, .int .i64 m] 30))
  have HD := Hid.of hD
  clear hD
  unfold opc at HD ⊢
  rcases hk with rfl | rfl | rfl
  · go_enter Tryz.func6, Tryz.ntmps6
    go_wp2_with fail
    refine (HD.out _ HO.out).mono ?_
    rintro e w1 ⟨rfl, u1⟩
    have H1 := Hid.of (HO.out.trans u1)
    clear u1 HO HD
    dsimp only
    go_wp2
    go_ret
    exact ⟨by simp, H1.out⟩
  · go_enter Tryz.func6, Tryz.ntmps6
    go_wp2_with fail
    refine (HD.out _ HO.out).mono ?_
    rintro e w1 ⟨rfl, u1⟩
    have H1 := Hid.of (HO.out.trans u1)
    clear u1 HO HD
    dsimp only
    go_wp2
    go_ret
    exact ⟨by simp, H1.out⟩
  · go_enter Tryz.func6, Tryz.ntmps6
    go_wp2_with fail
    refine (HD.out _ HO.out).mono ?_
    rintro e w1 ⟨rfl, u1⟩
    have H1 := Hid.of (HO.out.trans u1)
    clear u1 HO HD
    dsimp only
    go_wp2
    go_ret
    exact ⟨by simp, H1.out⟩
set_option maxRecDepth 100000 in
set_option maxHeartbeats 1000000 in
theorem plays_lin (k : Int) (hk : k = 8 ∨ k = 9 ∨ k = 10) (s : ByteArray) (b : Value) (n m : Int) (w : World)
    (hD : ∀ W, Up w W → Calls Tryz.prog 21 #[.agg (opc k s b n m).toArray] W fun e w' => e = .returned (.bool true) ∧ Up W w') :
    Calls Tryz.prog 6 #[.agg (opc k s b n m).toArray] w fun e w' => e = .returned (.bool true) ∧ Up w w' := by
  have HO := Hid.of ((Up.refl w).alloc (.cells #[.int .i64 k, .string s, b, .int .i64 n, .int .i64 m] 30))
  have HD := Hid.of hD
  clear hD
  unfold opc at HD ⊢
  rcases hk with rfl | rfl | rfl
  · go_enter Tryz.func6, Tryz.ntmps6
    go_wp2_with fail
    refine (HD.out _ HO.out).mono ?_
    rintro e w1 ⟨rfl, u1⟩
    have H1 := Hid.of (HO.out.trans u1)
    clear u1 HO HD
    dsimp only
    go_wp2
    go_ret
    exact ⟨by simp, H1.out⟩
  · go_enter Tryz.func6, Tryz.ntmps6
    go_wp2_with fail
    refine (HD.out _ HO.out).mono ?_
    rintro e w1 ⟨rfl, u1⟩
    have H1 := Hid.of (HO.out.trans u1)
    clear u1 HO HD
    dsimp only
    go_wp2
    go_ret
    exact ⟨by simp, H1.out⟩
  · go_enter Tryz.func6, Tryz.ntmps6
    go_wp2_with fail
    refine (HD.out _ HO.out).mono ?_
    rintro e w1 ⟨rfl, u1⟩
    have H1 := Hid.of (HO.out.trans u1)
    clear u1 HO HD
    dsimp only
    go_wp2
    go_ret
    exact ⟨by simp, H1.out⟩
set_option maxRecDepth 100000 in
set_option maxHeartbeats 1000000 in
theorem plays_else (k : Int) (h : ∀ j : Nat, 1 ≤ j → j ≤ 12 → k ≠ (j : Int)) (s : ByteArray) (b : Value) (n m : Int) (w : World) :
    Calls Tryz.prog 6 #[.agg (opc k s b n m).toArray] w fun e w' => e = .returned (.bool true) ∧ Up w w' := by
  have HO := Hid.of ((Up.refl w).alloc (.cells #[.int .i64 k, .string s, b, .int .i64 n, .int .i64 m] 30))
  have h1 : ¬ k = 1 := h 1 (by decide) (by decide)
  have h2 : ¬ k = 2 := h 2 (by decide) (by decide)
  have h3 : ¬ k = 3 := h 3 (by decide) (by decide)
  have h4 : ¬ k = 4 := h 4 (by decide) (by decide)
  have h5 : ¬ k = 5 := h 5 (by decide) (by decide)
  have h6 : ¬ k = 6 := h 6 (by decide) (by decide)
  have h7 : ¬ k = 7 := h 7 (by decide) (by decide)
  have h8 : ¬ k = 8 := h 8 (by decide) (by decide)
  have h9 : ¬ k = 9 := h 9 (by decide) (by decide)
  have h10 : ¬ k = 10 := h 10 (by decide) (by decide)
  have h11 : ¬ k = 11 := h 11 (by decide) (by decide)
  have h12 : ¬ k = 12 := h 12 (by decide) (by decide)
  clear h
  unfold opc
  go_enter Tryz.func6, Tryz.ntmps6
  go_wp2
  go_ret
  exact ⟨by simp, HO.out⟩
theorem plays_walk (k : Int) (s : ByteArray) (b : Value) (l : List UInt8) (n m : Int) (w : World) (hG : GZ w) (hb : Sl w b l) (hl : l.length ≤ 1099511627776) (hn0 : -9223372036854775808 ≤ n) (hn1 : n ≤ 9223372036854775807) (hm0 : -9223372036854775808 ≤ m) (hm1 : m ≤ 9223372036854775807) :
    Calls Tryz.prog 6 #[.agg (opc k s b n m).toArray] w fun e w' => e = .returned (.bool true) ∧ Up w w' := by
  by_cases h : ∀ j : Nat, 1 ≤ j → j ≤ 12 → k ≠ (j : Int)
  · exact plays_else k h s b n m w
  · simp only [Classical.not_forall] at h
    obtain ⟨j, h1, h2, h3⟩ := h
    have h3 : k = (j : Int) := Classical.not_not.1 h3
    have hj : j = 1 ∨ j = 2 ∨ j = 3 ∨ j = 4 ∨ j = 5 ∨ j = 6 ∨ j = 7 ∨ j = 8 ∨ j = 9 ∨ j = 10 ∨ j = 11 ∨ j = 12 := by omega
    rcases hj with rfl | rfl | rfl | rfl | rfl | rfl | rfl | rfl | rfl | rfl | rfl | rfl <;> subst h3
    · exact plays_b64 s b l n m w hG hb hl hn0 hn1
    · exact plays_dec _ (by decide) s b n m w fun W g => decodes_two s b n m W ⟨hG.dt.up g, hG.lt.up g⟩
    · exact plays_hex s b l n m w hG hb hl hn0 hn1
    · exact plays_dec _ (by decide) s b n m w fun W g => decodes_four s b n m W ⟨hG.dt.up g, hG.lt.up g⟩
    · exact plays_fmt s b l n m w hG hb hl hn0 hn1
    · exact plays_prs s b n m w hG hm0 hm1
    · exact plays_pla s b l n m w hG hb hl hn0 hn1
    · exact plays_lin _ (by decide) s b n m w fun W g => lines_lines s b n m W
    · exact plays_lin _ (by decide) s b n m w fun W g => lines_each s b n m hm1 W
    · exact plays_lin _ (by decide) s b n m w fun W g => lines_cut s b n m W
    · exact plays_quo s b l n m w hG hb hl hn0 hn1
    · exact plays_dec _ (by decide) s b n m w fun W g => decodes_rest s b n m W ⟨hG.dt.up g, hG.lt.up g⟩
set_option maxRecDepth 100000 in
theorem numbers_walk (w : World) : Calls Tryz.prog 5 #[] w fun e w' => e = .returned (.bool true) ∧ w' = w := by
  go_enter Tryz.func5, Tryz.ntmps5
  go_wp2
  go_ret
  exact ⟨by simp, rfl⟩
end
section
open Go.RowKit Go.Shelf TextNum
/-- one call of a script, as it lies -/
def Op1 (w : World) (p off : Nat) : Prop :=
  ∃ (k : Int) (s : ByteArray) (b : Value) (l : List UInt8) (n m : Int), Sl w b l ∧ l.length ≤ 1099511627776 ∧ -9223372036854775808 ≤ n ∧ n ≤ 9223372036854775807 ∧ -9223372036854775808 ≤ m ∧ m ≤ 9223372036854775807 ∧ w.rangeAt p off (opc k s b n m)
theorem range_up {w w' : World} {p off : Nat} {cs : List Value} (h : w.rangeAt p off cs) (g : Up w w') : w'.rangeAt p off cs := fun j v hv => g.cell (h j v hv)
theorem exec_idxOp {o : Oper} {ρ : Operand → Value} {x y : Operand} {w : World} {b off n c : Nat} (i : Nat) (hi : i < n) (ho : o.op = .indexAddr 22 x y) (hx : ρ x = .slice (some ⟨b, off, none⟩) n c) (hy : ρ y = .int .i64 (i : Int)) : (execOp ρ o).run Tryz.prog w = .ok (.value (.pointer (some ⟨b, off + i * 5, none⟩))) w := by
  have hi' : (i : Int) < (n : Int) := by omega
  unfold execOp
  simp only [ho, hx, hy]
  go_simp
theorem wpList_val7 {ops : Array Oper} {Q : Exit → Act → World → Prop} {rest : List Oper} {o : Oper} {a : Act} {w : World} (v : Value) (hgd : o.guard = none) (hy : (execOp a.eval o).run Tryz.prog w = .ok (.value v) w)
    (h : wpList Tryz.prog ops Q rest (a.put o.dst v) w) : wpList Tryz.prog ops Q (o :: rest) a w :=
  wpList_plain hgd fun K hK => by
    unfold Oper.wp
    rw [hy]
    exact hK _ _ h
theorem foo_one : b64R (⟨#[90, 109, 57, 118]⟩ : ByteArray).data.toList = ([102, 111, 111], 0) := by decide +kernel
set_option maxRecDepth 100000 in
set_option maxHeartbeats 1000000 in
theorem all_walk (a0 : Option Addr) (n0 c0 : Nat) (w : World) (hn0 : (n0 : Int) ≤ 9223372036854775807) (hsc : 0 < n0 → ∃ b off, a0 = some ⟨b, off, none⟩ ∧ ∀ i, i < n0 → Op1 w b (off + i * 5)) (hG : GZ w) :
    Calls Tryz.prog 3 #[.slice a0 n0 c0] w fun e w' => e = .returned (.bool true) ∧ Up w w' := by
  have HG := Hid.of hG
  have HS := Hid.of hsc
  clear hG hsc
  go_enter Tryz.func3, Tryz.ntmps3
  go_wp2_with fail
  refine (DecodeBase64_walk ⟨#[90, 109, 57, 118]⟩ w HG.out.lt).mono ?_
  rintro e w1 ⟨v1, rfl, h1, u1⟩
  rw [foo_one] at h1 ⊢
  have hcv := conv_sl h1.sl
  have H1 := Hid.of u1
  clear h1 u1
  dsimp only
  go_wp2_with fail
  refine (numbers_walk w1).mono ?_
  rintro e w2 ⟨rfl, hw⟩
  obtain rfl := hw.symm
  dsimp only
  go_wp2
  clear hcv
  go_loopw [5] (fun v3 wr => ∃ i : Nat, v3 = .int .i64 (i : Int) ∧ i ≤ n0 ∧ Hid (Up w wr)) (fun v3 _ => n0 - (intOf v3).toNat)
  case atStart => exact ⟨0, rfl, by omega, H1⟩
  case round =>
    obtain ⟨i, rfl, hi, hL⟩ := hrel
    by_cases hlt : i < n0
    · have hlt' : (i : Int) < (n0 : Int) := by omega
      obtain ⟨b, off, rfl, hop⟩ := HS.out (by omega)
      obtain ⟨k, s, bv, l, n, m, hSl, hl, hn0', hn1, hm0, hm1, hr⟩ := hop i hlt
      have HR := Hid.of (And.intro (range_up hr hL.out) (And.intro (hSl.up hL.out) (And.intro hl (And.intro hn0' (And.intro hn1 (And.intro hm0 hm1))))))
      clear hr hSl hop hl hn0' hn1 hm0 hm1
      go_wp2_with (with_reducible show wpList _ _ _ ({ dst := _, op := Op.indexAddr _ _ _, type := _, pos := _, after := _, guard := _ } :: _) _ _; refine Shut.out ?_)
      show wpList _ _ _ _ _ _
      refine wpList_val7 (.pointer (some ⟨b, off + i * 5, none⟩)) rfl (exec_idxOp i hlt rfl rfl rfl) ?_
      simp only [Act.put, List.setIfInBounds_toArray, List.set_cons_zero, List.set_cons_succ]
      refine wpList_load_mid rfl _ _ rfl b (off + i * 5) rfl (opc k s bv n m) _ HR.out.1 Tryz.underlying30 rfl infoOp ?_
      simp only [Act.put, List.setIfInBounds_toArray, List.set_cons_zero, List.set_cons_succ]
      go_wp2_with fail
      refine Calls.mono (plays_walk k s bv l n m wr (HG.out.up hL.out) HR.out.2.1 HR.out.2.2.1 HR.out.2.2.2.1 HR.out.2.2.2.2.1 HR.out.2.2.2.2.2.1 HR.out.2.2.2.2.2.2) ?_
      rintro e w5 ⟨rfl, g5⟩
      have H5 := Hid.of (hL.out.trans g5)
      clear g5 HR hL
      dsimp only
      go_wp2
      go_roundw
      case rel => exact ⟨i + 1, by go_num, by omega, H5⟩
      case measure => simp [intOf]; omega
    · obtain rfl : i = n0 := by omega
      go_wp2
      go_ret
      exact ⟨by simp, hL.out⟩
end
section
open Go.ChangeShapes Go.WideShapes Go.ChangeAt Go.WideMaps Go.WideElems Go.RowKit TextNum
theorem bulk_mem {H : Type} : ∀ {ds : List (DataW H)} {j : Nat} {d : DataW H}, ds[j]? = some d → Rows.uptoBulk d ≤ Rows.uptoBulkAll ds
  | d0 :: ds, 0, d, hd => by
    simp only [List.getElem?_cons_zero, Option.some.injEq] at hd
    subst hd
    simp only [Rows.uptoBulkAll]
    omega
  | d0 :: ds, j + 1, d, hd => by
    simp only [List.getElem?_cons_succ] at hd
    have := bulk_mem hd
    simp only [Rows.uptoBulkAll]
    omega
  | [], _, _, hd => by simp at hd
theorem sl_openB {H : Type} {enc : TypeId × Value → H} {W : World} {fuel : Nat} {l : List Value} {d : DataW H} {ps : List MemPlace}
    (hf' : DataW.trod enc Tryz.prog W 0 (fun _ => true) true fuel 23 l = some (d, ps)) :
    ∃ a c bs, l = [.slice a bs.length c] ∧ Sl W (.slice a bs.length c) bs ∧ bs.length ≤ Rows.uptoBulk d := by
  rcases open_ints Tryz.underlying23 Tryz.underlying5 cells8' hf' with ⟨e1, _⟩ | ⟨ad, len, cap, zs, e1, _, hlc, _, hzl, hx, hcell, hwf⟩
  · exact ⟨none, 0, [], e1, ⟨none, 0, rfl, Nat.le_refl _, .inl rfl⟩, Nat.zero_le _⟩
  · simp only [if_true] at hzl
    injection hx with hd _
    have hlen : ((zs.take len).map fun z => UInt8.ofNat z.toNat).length = len := by
      rw [List.length_map, List.length_take, Nat.min_eq_left (by omega)]
    refine ⟨some ad, cap, (zs.take len).map fun z => UInt8.ofNat z.toNat, by rw [hlen]; exact e1, ⟨some ad, cap, rfl, by rw [hlen]; omega, ?_⟩, ?_⟩
    · rcases Nat.eq_zero_or_pos len with h0 | h0
      · left; subst h0; simp
      · right
        have h00 := hcell 0 (by omega)
        obtain ⟨b, off, rfl⟩ : ∃ b off, ad = ⟨b, off, none⟩ := by
          obtain ⟨b, off, sp⟩ := ad
          cases sp with
          | none => exact ⟨b, off, rfl⟩
          | some s => exfalso; simp only [World.cell?, Addr.add] at h00; split at h00 <;> simp at h00
        refine ⟨b, off, rfl, lt_of_cell (i := off + 0) (by rw [add_plain] at h00; exact h00), fun i hi => ?_⟩
        rw [hlen] at hi
        have h1 := hcell i (by omega)
        rw [add_plain] at h1
        rw [h1]
        have hi2 : i < zs.length := by omega
        have hz := hwf zs[i] (List.getElem_mem hi2)
        have hb : 0 ≤ zs[i] ∧ zs[i] ≤ 255 := by
          simpa [Lit.wf, IntKind.min, IntKind.max, IntKind.signed, IntKind.bits] using hz
        simp only [List.getElem_map, List.getElem_take, List.getD_eq_getElem?_getD, List.getElem?_eq_getElem hi2, Option.getD_some]
        congr 2
        rw [ofNat_toNat (by omega)]
        omega
    · rw [hlen, hd]
      simp only [Rows.uptoBulk]
      have := len_le (lits (H := H) .u8 (zs.take len))
      have e : (lits (H := H) .u8 (zs.take len)).length = (zs.take len).length := by simp [lits]
      rw [List.length_take, Nat.min_eq_left (by omega)] at e
      omega
set_option maxRecDepth 100000 in
theorem op_openB {H : Type} {enc : TypeId × Value → H} {W : World} {fuel : Nat} {cs : List Value} {d : DataW H} {ps : List MemPlace}
    (hf : DataW.trod enc Tryz.prog W 0 (fun _ => true) true fuel 30 cs = some (d, ps)) :
    ∃ (k : Int) (s : ByteArray) (b : Value) (l : List UInt8) (n m : Int), Sl W b l ∧ l.length ≤ Rows.uptoBulk d ∧ -9223372036854775808 ≤ n ∧ n ≤ 9223372036854775807 ∧ -9223372036854775808 ≤ m ∧ m ≤ 9223372036854775807 ∧ cs = opc k s b n m := by
  obtain ⟨ys, m, _, hx, hl, hn, hel⟩ := DataW.trod_struct Tryz.underlying30 hf
  rw [show Tryz.prog.cellsOf 30 = 5 by kernel_rfl] at hl
  have hn3 : ys.length = 5 := hn
  injection hx with hd _
  have e0 : DataW.trod enc Tryz.prog W 0 (fun _ => true) true m 3 ((cs.drop 0).take (Tryz.prog.cellsOf 3)) = ys[0]? := hel 0 _ rfl
  have e1 : DataW.trod enc Tryz.prog W 0 (fun _ => true) true m 9 ((cs.drop 1).take (Tryz.prog.cellsOf 9)) = ys[1]? := hel 1 _ rfl
  have e2 : DataW.trod enc Tryz.prog W 0 (fun _ => true) true m 23 ((cs.drop 2).take (Tryz.prog.cellsOf 23)) = ys[2]? := hel 2 _ rfl
  have e3 : DataW.trod enc Tryz.prog W 0 (fun _ => true) true m 2 ((cs.drop 3).take (Tryz.prog.cellsOf 2)) = ys[3]? := hel 3 _ rfl
  have e4 : DataW.trod enc Tryz.prog W 0 (fun _ => true) true m 2 ((cs.drop 4).take (Tryz.prog.cellsOf 2)) = ys[4]? := hel 4 _ rfl
  rw [show Tryz.prog.cellsOf 3 = 1 by kernel_rfl, List.getElem?_eq_getElem (by omega)] at e0
  rw [show Tryz.prog.cellsOf 9 = 1 by kernel_rfl, List.getElem?_eq_getElem (by omega)] at e1
  rw [show Tryz.prog.cellsOf 23 = 1 by kernel_rfl, List.getElem?_eq_getElem (by omega)] at e2
  rw [show Tryz.prog.cellsOf 2 = 1 by kernel_rfl, List.getElem?_eq_getElem (by omega)] at e3
  rw [show Tryz.prog.cellsOf 2 = 1 by kernel_rfl, List.getElem?_eq_getElem (by omega)] at e4
  obtain ⟨k, f0, _, _⟩ := DataW.trod_int Tryz.underlying3 e0
  obtain ⟨nm, f1, _, _⟩ := DataW.trod_string Tryz.underlying9 e1
  obtain ⟨a, c, bs, f2, hS, hB⟩ := sl_openB e2
  obtain ⟨z3, f3, _, w3⟩ := DataW.trod_int Tryz.underlying2 e3
  obtain ⟨z4, f4, _, w4⟩ := DataW.trod_int Tryz.underlying2 e4
  have hz3 : -9223372036854775808 ≤ z3 ∧ z3 ≤ 9223372036854775807 := by
    simpa [Lit.wf, IntKind.min, IntKind.max, IntKind.signed, IntKind.bits] using w3
  have hz4 : -9223372036854775808 ≤ z4 ∧ z4 ≤ 9223372036854775807 := by
    simpa [Lit.wf, IntKind.min, IntKind.max, IntKind.signed, IntKind.bits] using w4
  refine ⟨k, nm, .slice a bs.length c, bs, z3, z4, hS, ?_, hz3.1, hz3.2, hz4.1, hz4.2, ?_⟩
  · rw [hd]
    simp only [Rows.uptoBulk]
    have h2 := bulk_mem (ds := ys.map (·.1)) (j := 2) (by rw [List.getElem?_map, List.getElem?_eq_getElem (by omega)]; rfl)
    exact Nat.le_trans hB (Nat.le_trans h2 (Nat.le_succ _))
  · match cs, hl with
    | [x, y, u, v, t], _ =>
      simp only [List.drop_zero, List.take_succ_cons, List.take_zero, List.cons.injEq, and_true, List.drop_succ_cons] at f0 f1 f2 f3 f4
      rw [f0, f1, f2, f3, f4]
      rfl
set_option maxRecDepth 100000 in
theorem cellsOp : Tryz.prog.cellsOf 30 = 5 := by kernel_rfl
/-- a script as an argument -/
theorem ops_openB {H : Type} {enc : TypeId × Value → H} {W : World} {d : DataW H} {ps : List MemPlace} {a : Option Addr} {len cap : Nat}
    (h : DataW.Trod enc Tryz.prog W 0 (fun _ => true) true 22 (.slice a len cap) d ps) (hd0 : Rows.uptoBulk d ≤ 1099511627776) (h0 : 0 < len) :
    ∃ b off, a = some ⟨b, off, none⟩ ∧ ∀ i, i < len → Op1 W b (off + i * 5) := by
  obtain ⟨fuel, hf⟩ := h
  have hf' : DataW.trod enc Tryz.prog W 0 (fun _ => true) true fuel 22 [.slice a len cap] = some (d, ps) := hf
  rcases DataW.trod_slice Tryz.underlying22 hf' with ⟨e1, _⟩ | ⟨ad, l2, c2, elems, rest, n, _, e1, hx, _, hlc, _, hel0, hel, _, _⟩
  · simp at e1; omega
  · simp only [List.cons.injEq, Value.slice.injEq, and_true] at e1
    obtain ⟨rfl, rfl, rfl⟩ := e1
    injection hx with hd _
    rw [cellsOp] at hel
    have key : ∀ i, i < len → ∃ (k : Int) (s : ByteArray) (b : Value) (l : List UInt8) (n m : Int), Sl W b l ∧ l.length ≤ 1099511627776 ∧ -9223372036854775808 ≤ n ∧ n ≤ 9223372036854775807 ∧ -9223372036854775808 ≤ m ∧ m ≤ 9223372036854775807 ∧ W.cells? 0 (ad.add (i * 5)) 5 = some (opc k s b n m) := by
      intro i hi
      have h1 := hel i hi
      rw [List.getElem?_eq_getElem (by omega), Option.bind_eq_some_iff] at h1
      obtain ⟨cs, hcs, hy⟩ := h1
      obtain ⟨k, s, b, l, n, m, h2, h3, h4, h5, h6, h7, rfl⟩ := op_openB hy
      have hbm := bulk_mem (ds := elems.map (·.1)) (j := i) (d := (elems[i]'(by omega)).1) (by rw [List.getElem?_map, List.getElem?_eq_getElem (by omega)]; rfl)
      refine ⟨k, s, b, l, n, m, h2, ?_, h4, h5, h6, h7, hcs⟩
      rw [hd] at hd0
      simp only [Rows.uptoBulk] at hd0
      have h8 := Nat.le_trans hbm (Nat.le_trans (Nat.le_add_right _ (Rows.uptoBulkAll (rest.map (·.1)))) (Nat.le_succ _))
      exact Nat.le_trans h3 (Nat.le_trans h8 hd0)
    obtain ⟨b, off, rfl⟩ : ∃ b off, ad = ⟨b, off, none⟩ := by
      obtain ⟨k, s, b, l, n, m, _, _, _, _, _, _, hcs⟩ := key 0 h0
      have h00 := (World.cells?_some hcs).2.2 0 (by decide)
      have h01 : W.cell? ((ad.add (0 * 5)).add 0) = some (.int .i64 k) := h00.trans rfl
      obtain ⟨b, off, sp⟩ := ad
      cases sp with
      | none => exact ⟨b, off, rfl⟩
      | some s => exfalso; simp only [World.cell?, Addr.add] at h01; split at h01 <;> simp at h01
    refine ⟨b, off, rfl, fun i hi => ?_⟩
    obtain ⟨k, s, bv, l, n, m, h2, h3, h4, h5, h6, h7, hcs⟩ := key i hi
    refine ⟨k, s, bv, l, n, m, h2, h3, h4, h5, h6, h7, fun j v hv => ?_⟩
    have hj : j < 5 := (List.getElem?_eq_some_iff.1 hv).1
    have := (World.cells?_some hcs).2.2 j hj
    rw [hv] at this
    rwa [add_plain, add_plain] at this
theorem okWide_slice_le {P : Program} {W : World} {r : Reach} {base : Nat} {t e : TypeId} {v : Value} (ht : P.underlying t = some (.slice e)) (h : Value.okWide P W r base t v) : ∃ a len cap, v = .slice a len cap ∧ (len : Int) ≤ 9223372036854775807 := by
  obtain ⟨a, len, cap, rfl⟩ := okWide_slice ht h
  refine ⟨a, len, cap, rfl, ?_⟩
  simp only [Value.okWide, ht, Cell.okWide] at h
  cases a with
  | none =>
    cases len with
    | zero => decide
    | succ n => simp [Cell.ok, ht] at h
  | some ad =>
    simp only [Cell.ok, ht] at h
    have h1 := h.1
    have h2 : (cap : Int) ≤ 9223372036854775807 := h.2.1
    omega
end
section
open Go.RowKit TextNum Go.Lib

set_option maxRecDepth 100000 in
theorem tabDig : (Rows.laid_ledger_text_digits : DataW Unit) = tabData .u8 (DT.map fun c => (c.toNat : Int)) := by kernel_rfl
set_option maxRecDepth 100000 in
theorem tabLet : (Rows.laid_ledger_text_letters : DataW Unit) = tabData .u8 (TextNum.LT.map fun c => (c.toNat : Int)) := by kernel_rfl
set_option maxRecDepth 100000 in
theorem tabPow : (Rows.laid_internal_strconv_uint64pow10 : DataW Unit) = tabData .u64 pow10Tab := by kernel_rfl
set_option maxRecDepth 100000 in
theorem nDig : Tryz.prog.globalNamed "ledger/text.digits" = some 1 := by kernel_rfl
set_option maxRecDepth 100000 in
theorem nLet : Tryz.prog.globalNamed "ledger/text.letters" = some 0 := by kernel_rfl
set_option maxRecDepth 100000 in
theorem nErr : Tryz.prog.globalNamed "strconv.ErrRange" = some 4 := by kernel_rfl

set_option maxRecDepth 100000 in
theorem dig_of {W : World} {r : List (String × DataW Unit)} (h : laidMet Tryz.prog (("ledger/text.digits", Rows.laid_ledger_text_digits) :: r) W) : TabD W := by
  rw [tabDig] at h
  have ht := tabIs_of_head (P := Tryz.prog) (g := 1) (t := 76) (e := 5) (n := 16) nDig (by kernel_rfl) Tryz.underlying76 Tryz.underlying5 (by kernel_rfl) (by kernel_rfl) h
  intro i hi
  have := TabIs.cell ht nDig i (by simpa [DT] using hi)
  rw [this]
  have hl : i < DT.length := by simpa [DT] using hi
  simp [TextNum.dg, List.getD, hl]
set_option maxRecDepth 100000 in
theorem let_of {W : World} {r : List (String × DataW Unit)} (h : laidMet Tryz.prog (("ledger/text.letters", Rows.laid_ledger_text_letters) :: r) W) : TabL W := by
  rw [tabLet] at h
  have ht := tabIs_of_head (P := Tryz.prog) (g := 0) (t := 75) (e := 5) (n := 64) nLet (by kernel_rfl) Tryz.underlying75 Tryz.underlying5 (by kernel_rfl) (by kernel_rfl) h
  intro i hi
  have hl : i < TextNum.LT.length := by simpa [TextNum.LT] using hi
  have := TabIs.cell ht nLet i (by simpa using hl)
  rw [this]
  simp [TextNum.lt, List.getD, hl]
set_option maxRecDepth 100000 in
theorem pow_of {W : World} {r : List (String × DataW Unit)} (h : laidMet Tryz.prog (("internal/strconv.uint64pow10", Rows.laid_internal_strconv_uint64pow10) :: r) W) : TabIs Tryz.prog W "internal/strconv.uint64pow10" .u64 pow10Tab := by
  rw [tabPow] at h
  exact tabIs_of_head (P := Tryz.prog) (g := 2) (t := 106) (e := 91) (n := 20) (by kernel_rfl) (by kernel_rfl) Tryz.underlying106 Tryz.underlying91 (by kernel_rfl) (by kernel_rfl) h
set_option maxRecDepth 100000 in
theorem err_of {W : World} {r : List (String × DataW Unit)} (h : laidMet Tryz.prog (("strconv.ErrRange", Rows.laid_strconv_ErrRange) :: r) W) : ∃ te pe, W.cell? ⟨4, 0, none⟩ = some (.iface te pe) := by
  obtain ⟨ps, ⟨g0, t0, cs0, f0, p0, q0, hg0, ht0, hv0, hd0, _, e0⟩, _, _⟩ := h
  obtain rfl := Option.some.inj (nErr.symm.trans hg0)
  obtain rfl := Option.some.inj ((show (Tryz.prog.globals[4]?).map (·.type) = some 58 by kernel_rfl).symm.trans ht0)
  obtain ⟨f1, u, v, hcs, _, _⟩ := iface_of_trod Tryz.underlying58 hd0
  have h0 := World.var?_cell hg0 hv0 0
  rw [← Array.getElem?_toList, hcs] at h0
  exact ⟨u, v, h0⟩
theorem glAll {W : World} (h : laidMetH Tryz.prog Rows.textAllUptoRow.laid W) : GZ W := by
  rw [MakeChecks.laidMetH_plain _ _ _ (by kernel_rfl)] at h
  have h2 := laidMet.tail (laidMet.tail h)
  have h3 := laidMet.tail h2
  have h5 := laidMet.tail (laidMet.tail h3)
  exact ⟨dig_of (laidMet.tail h5), let_of h5, ⟨pow_of h2, err_of h3⟩⟩
end
end Go.Proofs.YtbdmpdjhgjidlaaGreatDoor
