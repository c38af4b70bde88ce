import Derived.Test.YtbdmpdjhgjidlaaGreatDoorRc6
import Derived.Test.YtbdmpdjhgjidlaaGreatDoorRn
namespace Go.Proofs.YtbdmpdjhgjidlaaGreatDoor
open Go.RowKit TextNum

/-- the letters' text -/
def LS : ByteArray := ⟨#[65, 66, 67, 68, 69, 70, 71, 72, 73, 74, 75, 76, 77, 78, 79, 80, 81, 82, 83, 84, 85, 86, 87, 88, 89, 90, 97, 98, 99, 100, 101, 102, 103, 104, 105, 106, 107, 108, 109, 110, 111, 112, 113, 114, 115, 116, 117, 118, 119, 120, 121, 122, 48, 49, 50, 51, 52, 53, 54, 55, 56, 57, 43, 47]⟩
theorem LS_get (k : Nat) (h : k < 64) : LS[k]'h = lt k := (by decide : ∀ k : Fin 64, LS[k.1]'(k.2) = lt k.1) ⟨k, h⟩
theorem own_sl_up {w w' : World} {B : Nat} {v : Value} {l : List UInt8} (h : Own w B v l) (k : Up w w') : Sl w' v l := h.sl.up k
theorem rep_succ (k : Nat) : List.replicate (k + 1) 0 = List.replicate k 0 ++ [0] := by rw [List.replicate_succ']
theorem rep61 (k : Nat) : List.replicate (k + 1) (61 : UInt8) = List.replicate k 61 ++ [61] := by rw [List.replicate_succ']

set_option linter.unusedSimpArgs false in
set_option maxRecDepth 100000 in
set_option maxHeartbeats 4000000 in
theorem REncode64_walk (v : Value) (l : List UInt8) (w : World) (hS : Sl w v l) (hl : l.length ≤ 1099511627776) :
    Calls Tryz.prog 10 #[v] w fun e w' => e = .returned (vs (b64E l)) ∧ Up w w' := by
  obtain ⟨a, c, ev, _, _⟩ := id hS
  have HS := Hid.of hS
  clear hS
  subst ev
  go_enter Tryz.func10, Tryz.ntmps10
  go_wp2_with fail
  refine (bits_walk _ l w HS.out hl).mono ?_
  rintro e w1 ⟨v1, rfl, h1, u1⟩
  have H1 := Hid.of (And.intro h1 u1)
  clear h1 u1
  dsimp only
  go_wp2
  go_loopw [3] (fun v3 wr => ∃ k n : Nat, slen v3 = n ∧ n = 8 * l.length + k ∧ k ≤ 4 ∧ (l.length % 3 = 0 → k = 0) ∧ (l.length % 3 = 2 → k ≤ 2) ∧ Hid (OwnI wr w.heap.size v3 (bt l ++ List.replicate k 0) ∧ Up w wr)) (fun v3 _ => 8 * l.length + 4 - slen v3)
  case atStart =>
    refine ⟨0, 8 * l.length, ?_, by omega, by omega, fun _ => rfl, fun _ => by omega, ?_⟩
    · obtain ⟨a3, c3, e⟩ := H1.out.1.len
      rw [e]; exact bt_length l
    · exact Hid.of (by simpa using H1.out)
  case round =>
    obtain ⟨k, n, hsl, hn, hk4, hk0, hk2, hI⟩ := hrel
    obtain ⟨a3, c3, ev⟩ := hI.out.1.len
    have hlen : (bt l ++ List.replicate k 0).length = n := by rw [List.length_append, bt_length, List.length_replicate, hn]
    rw [hlen] at ev
    subst ev
    clear hsl
    by_cases h6 : n % 6 = 0
    · have d6 : ((n : Int) % 6) = 0 := by omega
      have hP2 : ∀ b ∈ bt l ++ List.replicate k 0, b < 2 := by
        intro b hb
        rcases List.mem_append.1 hb with h | h
        · exact bt_two l b h
        · rw [(List.mem_replicate.1 h).2]; decide
      have hkk : (l.length % 3 = 0 ∧ k = 0) ∨ (l.length % 3 = 1 ∧ k = 4) ∨ (l.length % 3 = 2 ∧ k = 2) := by omega
      obtain ⟨P, hP⟩ : ∃ P, P = bt l ++ List.replicate k 0 := ⟨_, rfl⟩
      rw [← hP] at hlen hP2 hI
      have HPE := Hid.of hP
      have HKK := Hid.of hkk
      have HP2 := Hid.of hP2
      have HPL := Hid.of hlen
      obtain ⟨wb, hwb⟩ : ∃ wb, wb = wr := ⟨_, rfl⟩
      subst hwb
      clear hP hP2 hlen hkk hk0 hk2
      have hnb : n ≤ 8796093022212 := by omega
      have HNN := Hid.of hn
      clear hn
      go_wp2
      clear d6
      go_loopw [4, 5] (fun v4 v5 wr => ∃ i : Nat, v5 = .int .i64 (i : Int) ∧ i ≤ n ∧ i % 6 = 0 ∧ Hid (Own wr wb.heap.size v4 (grp (P.take i)) ∧ Up wb wr)) (fun _ v5 _ => n - (intOf v5).toNat)
      case atStart => exact ⟨0, rfl, by omega, rfl, own_nil _ _, Up.refl _⟩
      case round =>
        obtain ⟨i, rfl, hi, hi6, hI2⟩ := hrel
        obtain ⟨wc, hwc⟩ : ∃ wc, wc = wr := ⟨_, rfl⟩
        subst hwc
        by_cases hlt : i < n
        · have hlt' : (i : Int) < (n : Int) := by omega
          have hi5 : i + 6 ≤ n := by omega
          obtain ⟨g, c', ev, hcap, hg, hcell⟩ := hI.out.1.cells (fun e => by have := HPL.out; rw [e] at this; simp at this; omega)
          rw [HPL.out] at ev
          cases ev
          have HC := Hid.of hcell
          clear hcell
          go_wp2
          go_loop [6, 7] (fun v6 v7 => ∃ j : Nat, v7 = .int .i64 (j : Int) ∧ j ≤ 6 ∧ v6 = .int .i64 (bv6 ((P.drop i).take j) : Int)) (fun _ v7 => 6 - (intOf v7).toNat)
          case atStart => exact ⟨0, rfl, by omega, rfl⟩
          case round =>
            obtain ⟨j, rfl, hj, rfl⟩ := hrel
            by_cases hj6 : j < 6
            · have hj6' : (j : Int) < 6 := by omega
              have hij : i + j < P.length := by rw [HPL.out]; omega
              have hcx := hI2.out.2.cell (HC.out (i + j) hij)
              have hbt : P[i + j] < 2 := HP2.out _ (List.getElem_mem hij)
              have hbv : bv6 ((P.drop i).take j) < 64 := Nat.lt_of_lt_of_le (bv6_lt j _ (by rw [List.length_take, List.length_drop, HPL.out]; omega) (fun b hb => HP2.out b (List.mem_of_mem_drop (List.mem_of_mem_take hb)))) (Nat.pow_le_pow_right (by decide) (by omega) : 2 ^ j ≤ 2 ^ 6)
              have HBV := Hid.of (show bv6 ((P.drop i).take (j + 1)) = 2 * bv6 ((P.drop i).take j) + P[i + j] by
                rw [← bv6_snoc]
                congr 1
                have hjl : j < (P.drop i).length := by rw [List.length_drop]; omega
                rw [List.take_succ_eq_append_getElem hjl, List.getElem_drop])
              generalize bv6 ((P.drop i).take j) = nn at *
              generalize P[i + j] = bb at *
              go_wp2
              go_round
              case rel => exact ⟨j + 1, by go_num, by omega, by rw [HBV.out]; go_num⟩
              case measure => simp [intOf]; omega
            · obtain rfl : j = 6 := by omega
              have hd6 : ((P.drop i).take 6).length = 6 := by rw [List.length_take, List.length_drop, HPL.out]; omega
              have hbv : bv6 ((P.drop i).take 6) < 64 := bv6_lt 6 _ hd6 (fun b hb => HP2.out b (List.mem_of_mem_drop (List.mem_of_mem_take hb)))
              have HG := Hid.of (show grp (P.take (i + 6)) = grp (P.take i) ++ [lt (bv6 ((P.drop i).take 6))] by
                rw [List.take_add, grp_append _ _ (by rw [List.length_take, HPL.out]; omega), grp_six _ hd6])
              have HL := Hid.of (show (grp (P.take i)).length + 1 ≤ 140737488355328 by rw [grp_length, List.length_take]; omega)
              clear hd6
              have g1 := LS_get _ hbv
              unfold LS at g1
              generalize bv6 ((P.drop i).take 6) = nn at *
              go_wp2_with (with_reducible show wpList _ _ _ ({ dst := _, op := Op.call { callee := Callee.builtin Builtin.append, args := _, argTypes := _ }, type := _, pos := _, after := _, guard := _ } :: _) _ _; refine Shut.out ?_)
              show wpList _ _ _ _ _ _
              refine wpList_app1 rfl _ _ rfl wb.heap.size _ (grp (P.take i)) [lt nn] rfl (by exact hI2.out.1) 1 rfl (by have := HL.out; simpa using this) hI2.out.2.size ?_
              intro v' w3 h3 k3
              have H3 := Hid.of (And.intro h3 (hI2.out.2.step (Nat.le_refl _) k3))
              clear h3 k3
              simp only [Act.put, List.setIfInBounds_toArray, List.set_cons_zero, List.set_cons_succ]
              go_wp2
              go_roundw
              case rel => exact ⟨i + 6, by go_num, by omega, by omega, by rw [HG.out]; exact H3.out.1, H3.out.2⟩
              case measure => simp [intOf]; omega
        · obtain rfl : i = n := by omega
          have hlt' : ¬ (i : Int) < (i : Int) := by omega
          have hmt : grp (P.take i) = grp P := by rw [List.take_of_length_le (by rw [HPL.out]; exact Nat.le_refl _)]
          have hml : (grp P).length = i / 6 := by rw [grp_length, HPL.out]
          rw [hmt] at hI2
          have HML := Hid.of hml
          clear hmt hml
          go_wp2
          go_loopw [4] (fun v4 wr => ∃ q m : Nat, slen v4 = m ∧ m = i / 6 + q ∧ q ≤ 2 ∧ (l.length % 3 = 0 → q = 0) ∧ (l.length % 3 = 2 → q ≤ 1) ∧ Hid (Own wr wb.heap.size v4 (grp P ++ List.replicate q 61) ∧ Up wb wr)) (fun v4 _ => i / 6 + 2 - slen v4)
          case atStart =>
            refine ⟨0, i / 6, ?_, by omega, by omega, fun _ => rfl, fun _ => by omega, ?_⟩
            · obtain ⟨a3, c3, e⟩ := hI2.out.1.len
              rw [e]; exact HML.out
            · exact Hid.of (by simpa using hI2.out)
          case round =>
            obtain ⟨q, m, hsl, hm, hq2, hq0, hq1, hI3⟩ := hrel
            obtain ⟨a4, c4, ev⟩ := hI3.out.1.len
            rw [List.length_append, HML.out, List.length_replicate, ← hm] at ev
            subst ev
            clear hsl
            have HM := Hid.of hm
            have hnn := HNN.out
            by_cases h4 : m % 4 = 0
            · have d4 : ((m : Int) % 4) = 0 := by omega
              have HE := Hid.of (enc_eq l k q (by have := HKK.out; omega))
              clear hm hnn
              rw [← HPE.out] at HE
              have hcv := conv_sl (Own.sl hI3.out.1)
              rw [HE.out] at hcv
              go_wp2
              go_ret
              exact ⟨rfl, (hI.out.2.trans hI3.out.2)⟩
            · have d4 : ((m : Int) % 4 != 0) = true := by simp; omega
              have HR := Hid.of (rep61 q)
              have HKN := Hid.of (show q + 1 ≤ 2 ∧ (l.length % 3 = 0 → q + 1 = 0) ∧ (l.length % 3 = 2 → q + 1 ≤ 1) ∧ m ≤ 1466015503704 by have := HKK.out; omega)
              have hmb := HKN.out.2.2.2
              clear hm hnn
              go_wp2_with (with_reducible show wpList _ _ _ ({ dst := _, op := Op.call { callee := Callee.builtin Builtin.append, args := _, argTypes := _ }, type := _, pos := _, after := _, guard := _ } :: _) _ _; refine Shut.out ?_)
              show wpList _ _ _ _ _ _
              refine wpList_app1 rfl _ _ rfl wb.heap.size _ (grp P ++ List.replicate q 61) [61] rfl (by exact hI3.out.1) 1 rfl (by have := HM.out; simp [HML.out]; omega) hI3.out.2.size ?_
              intro v' w3 h3 k3
              have H3 := Hid.of (And.intro h3 (hI3.out.2.step (Nat.le_refl _) k3))
              clear h3 k3
              simp only [Act.put, List.setIfInBounds_toArray, List.set_cons_zero, List.set_cons_succ]
              go_wp2
              go_roundw
              case rel =>
                refine ⟨q + 1, m + 1, ?_, by have := HM.out; omega, HKN.out.1, HKN.out.2.1, HKN.out.2.2.1, by rw [HR.out, ← List.append_assoc]; exact H3.out.1, H3.out.2⟩
                obtain ⟨_, _, e⟩ := H3.out.1.len
                rw [e]; have := HM.out; simp [slen, HML.out]; omega
              case measure =>
                obtain ⟨_, _, e⟩ := H3.out.1.len
                rw [e]
                have e1 := HM.out
                have e2 := HKN.out.1
                have e3 : (grp P ++ List.replicate q 61 ++ [61]).length = m + 1 := by rw [List.length_append, List.length_append, HML.out, List.length_replicate, ← e1]; rfl
                show i / 6 + 2 - (grp P ++ List.replicate q 61 ++ [61]).length < i / 6 + 2 - m
                rw [e3]
                omega
    · have d6 : ((n : Int) % 6 != 0) = true := by simp; omega
      have HR := Hid.of (rep_succ k)
      have HNN := Hid.of hn
      have HKN := Hid.of (show k + 1 ≤ 4 ∧ (l.length % 3 = 0 → k + 1 = 0) ∧ (l.length % 3 = 2 → k + 1 ≤ 2) ∧ n + 1 ≤ 17592186044416 by omega)
      have hnb := HKN.out.2.2.2
      clear hn
      go_wp2_with (with_reducible show wpList _ _ _ ({ dst := _, op := Op.call { callee := Callee.builtin Builtin.append, args := _, argTypes := _ }, type := _, pos := _, after := _, guard := _ } :: _) _ _; refine Shut.out ?_)
      show wpList _ _ _ _ _ _
      refine wpList_appI rfl _ _ rfl w.heap.size _ (bt l ++ List.replicate k 0) 0 rfl (by rw [← hlen] at *; exact hI.out.1) 1 rfl (by rw [hlen]; omega) hI.out.2.size ?_
      intro v' w3 h3 k3
      have H3 := Hid.of (And.intro h3 (hI.out.2.step (Nat.le_refl _) k3))
      clear h3 k3
      simp only [Act.put, List.setIfInBounds_toArray, List.set_cons_zero, List.set_cons_succ]
      go_wp2
      go_roundw
      case rel =>
        refine ⟨k + 1, n + 1, ?_, by have := HNN.out; omega, HKN.out.1, HKN.out.2.1, HKN.out.2.2.1, by rw [HR.out, ← List.append_assoc]; exact H3.out.1, H3.out.2⟩
        obtain ⟨_, _, e⟩ := H3.out.1.len
        rw [e]; show (bt l ++ List.replicate k 0 ++ [0]).length = n + 1
        rw [List.length_append, hlen]; rfl
      case measure =>
        obtain ⟨_, _, e⟩ := H3.out.1.len
        rw [e]; show 8 * l.length + 4 - (bt l ++ List.replicate k 0 ++ [0]).length < 8 * l.length + 4 - n
        rw [List.length_append, hlen]
        have := HNN.out; have := HKN.out.1
        simp; omega
end Go.Proofs.YtbdmpdjhgjidlaaGreatDoor
