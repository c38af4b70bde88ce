import Derived.Test.YtbdmpdjhgjidlaaGreatDoorNp
import Derived.Test.YtbdmpdjhgjidlaaGreatDoorHf
namespace Go.Proofs.YtbdmpdjhgjidlaaGreatDoor
open Go.RowKit TextNum

def slen : Value → Nat
  | .slice _ n _ => n
  | _ => 0
/-- what the first loop keeps -/
def JF (M m : Nat) (back : List UInt8) : Prop := (back ≠ [] ∧ m = 0 ∧ Go.Lib.decDigits M = back.reverse) ∨ ((back = [] ∨ m ≠ 0) ∧ Go.Lib.decDigits M = Go.Lib.decDigits m ++ back.reverse)
theorem JF.step {M m : Nat} {back : List UInt8} (h : JF M m back) (hb : back = [] ∨ m ≠ 0) : JF M (m / 10) (back ++ [UInt8.ofNat (48 + m % 10)]) := by
  rcases h with ⟨h1, h2, _⟩ | ⟨_, h⟩
  · rcases hb with hb | hb
    · exact absurd hb h1
    · exact absurd h2 hb
  · by_cases hm : m < 10
    · refine .inl ⟨by simp, by omega, ?_⟩
      rw [h, Go.Lib.decDigits_one hm, Nat.mod_eq_of_lt hm]; simp
    · refine .inr ⟨.inr (by omega), ?_⟩
      rw [h, Go.Lib.decDigits, dif_neg hm]; simp
theorem JF.len {M m : Nat} {back : List UInt8} (h : JF M m back) : back.length ≤ (Go.Lib.decDigits M).length := by
  rcases h with ⟨_, _, h⟩ | ⟨_, h⟩ <;> rw [h] <;> simp
theorem JF.end' {M : Nat} {back : List UInt8} (h : JF M 0 back) (hb : back ≠ []) : Go.Lib.decDigits M = back.reverse := by
  rcases h with ⟨_, _, h⟩ | ⟨h1, _⟩
  · exact h
  · rcases h1 with h1 | h1
    · exact absurd h1 hb
    · exact absurd rfl h1
theorem dig_len {M : Nat} (h : M ≤ 9223372036854775808) : (Go.Lib.decDigits M).length ≤ 20 := by
  rcases Nat.lt_or_ge M 9223372036854775808 with h1 | h1
  · have := (itoa_len (M : Int) (by omega) (by omega)).1
    rw [itoa_nat] at this; exact this
  · obtain rfl : M = 9223372036854775808 := by omega
    have := (itoa_len (-9223372036854775808) (by omega) (by omega)).1
    simp [Go.Lib.itoa] at this; omega
theorem rev_take {l : List UInt8} {i : Nat} (h : i < l.length) : (l.drop (i + 1)).reverse ++ [l[i]] = (l.drop i).reverse := by
  rw [List.drop_eq_getElem_cons h, List.reverse_cons]

set_option maxRecDepth 100000 in
set_option maxHeartbeats 1000000 in
theorem RFormat_pos (n : Int) (h0 : -9223372036854775808 ≤ n) (h1 : n ≤ 9223372036854775807) (hn : 0 < n) (w : World) :
    Calls Tryz.prog 16 #[.int .i64 n] w fun e w' => e = .returned (vs (Go.Lib.itoa n)) ∧ Up w w' := by
  obtain ⟨M, hM⟩ : ∃ M : Nat, n = (M : Int) := ⟨n.toNat, by omega⟩
  have HE := Hid.of (show Go.Lib.itoa n = Go.Lib.decDigits M by rw [hM]; exact itoa_nat M)
  have hMb : M ≤ 9223372036854775808 := by omega
  have HM := Hid.of (show -n = -(M : Int) by omega)
  have hnn : ¬ n < 0 := by omega
  clear hM
  go_enter Tryz.func16, Tryz.ntmps16
  go_wp2
  go_loopw [3, 4] (fun v3 v4 wr => ∃ (z : Int) (m : Nat) (back : List UInt8), v3 = .int .i64 z ∧ -9223372036854775808 ≤ z ∧ z ≤ 0 ∧ slen v4 = back.length ∧ Hid (z = -(m : Int)) ∧ Hid (JF M m back ∧ Own wr w.heap.size v4 back ∧ Up w wr)) (fun v3 v4 _ => 2 * (intOf v3).natAbs + (1 - slen v4))
  case atStart => exact ⟨-n, M, [], rfl, by omega, by omega, rfl, HM.out, .inr ⟨.inl rfl, by simp⟩, own_nil _ _, Up.refl _⟩
  case round =>
    obtain ⟨z, m, back, rfl, hz0, hz1, hsl, hzm, hI⟩ := hrel
    obtain ⟨a4, c4, rfl⟩ := hI.out.2.1.len
    have hlen : back.length ≤ 20 := Nat.le_trans hI.out.1.len (dig_len hMb)
    clear hsl
    by_cases hx : back = [] ∨ m ≠ 0
    · have hd : m % 10 < 10 := Nat.mod_lt _ (by decide)
      have hr : z.tmod 10 = -((m % 10 : Nat) : Int) := by rw [hzm.out, Int.neg_tmod, Int.tmod_eq_emod_of_nonneg (by omega)]; rfl
      have hq : z.tdiv 10 = -((m / 10 : Nat) : Int) := by rw [hzm.out, Int.neg_tdiv, Int.tdiv_eq_ediv_of_nonneg (by omega)]; rfl
      have HS := Hid.of (hI.out.1.step hx)
      have HW := Hid.of (show (back.length = 0 → 2 * (m / 10) < 2 * m + 1) ∧ (back.length ≠ 0 → 2 * (m / 10) < 2 * m) from ⟨fun _ => by omega, fun hb => by
        rcases hx with h | h
        · subst h; simp at hb
        · omega⟩)
      have HMZ := Hid.of (show z.natAbs = m by have := hzm.out; omega)
      have hzb : (m / 10 : Nat) ≤ 922337203685477580 := by have := hzm.out; omega
      obtain ⟨x, hxx⟩ : ∃ x : UInt8, x = UInt8.ofNat (48 + m % 10) := ⟨_, rfl⟩
      have hxn : 48 + ((m % 10 : Nat) : Int) = (x.toNat : Int) := by rw [hxx, dig_toNat hd]; omega
      rw [← hxx] at HS
      clear hxx
      have hxl : x.toNat < 256 := x.toNat_lt
      have hcond : ((back.length : Int) == 0) = true ∨ (((back.length : Int) == 0) = false ∧ (z != 0) = true) := by
        by_cases hb : back = []
        · left; subst hb; rfl
        · right
          have : 0 < back.length := List.length_pos_iff.2 hb
          have hm := hx.resolve_left hb
          have := hzm.out
          refine ⟨?_, ?_⟩
          · simp; omega
          · simp; omega
      clear hx hzm
      generalize m % 10 = d at *
      generalize m / 10 = m' at *
      rcases hcond with hc1 | ⟨hc1, hc2⟩
      ·
        go_wp2_with (with_reducible show wpList _ _ _ ({ dst := _, op := Op.call { callee := Callee.builtin Builtin.append, args := _, argTypes := _ }, type := _, pos := _, after := _, guard := _ } :: _) _ _; refine Shut.out ?_)
        show wpList _ _ _ _ _ _

        refine wpList_app1 rfl _ _ rfl w.heap.size _ back [x] rfl (by exact hI.out.2.1) 1 rfl (by simp; omega) hI.out.2.2.size ?_
        intro v' w2 h2 b2
        have H2 := Hid.of (And.intro h2 (hI.out.2.2.step (Nat.le_refl _) b2))
        clear h2 b2
        simp only [Act.put, List.setIfInBounds_toArray, List.set_cons_zero, List.set_cons_succ]
        go_wp2
        go_roundw
        case rel => exact ⟨-(m' : Int), m', back ++ [x], rfl, by omega, by omega, by obtain ⟨_, _, e⟩ := H2.out.1.len; rw [e]; rfl, rfl, HS.out, H2.out.1, H2.out.2⟩
        case measure =>
          have hv : ∃ aa cc, v' = .slice aa (back ++ [x]).length cc := H2.out.1.len
          obtain ⟨aa, cc, rfl⟩ := hv
          simp only [intOf, slen, HMZ.out, List.length_append, List.length_cons, List.length_nil]
          by_cases hb : back.length = 0
          · have := HW.out.1 hb; omega
          · have := HW.out.2 hb; omega
      ·
        go_wp2_with (with_reducible show wpList _ _ _ ({ dst := _, op := Op.call { callee := Callee.builtin Builtin.append, args := _, argTypes := _ }, type := _, pos := _, after := _, guard := _ } :: _) _ _; refine Shut.out ?_)
        show wpList _ _ _ _ _ _

        refine wpList_app1 rfl _ _ rfl w.heap.size _ back [x] rfl (by exact hI.out.2.1) 1 rfl (by simp; omega) hI.out.2.2.size ?_
        intro v' w2 h2 b2
        have H2 := Hid.of (And.intro h2 (hI.out.2.2.step (Nat.le_refl _) b2))
        clear h2 b2
        simp only [Act.put, List.setIfInBounds_toArray, List.set_cons_zero, List.set_cons_succ]
        go_wp2
        go_roundw
        case rel => exact ⟨-(m' : Int), m', back ++ [x], rfl, by omega, by omega, by obtain ⟨_, _, e⟩ := H2.out.1.len; rw [e]; rfl, rfl, HS.out, H2.out.1, H2.out.2⟩
        case measure =>
          have hv : ∃ aa cc, v' = .slice aa (back ++ [x]).length cc := H2.out.1.len
          obtain ⟨aa, cc, rfl⟩ := hv
          simp only [intOf, slen, HMZ.out, List.length_append, List.length_cons, List.length_nil]
          by_cases hb : back.length = 0
          · have := HW.out.1 hb; omega
          · have := HW.out.2 hb; omega
    · have hx1 : back ≠ [] := fun h => hx (.inl h)
      have hx2 : m = 0 := by
        rcases Nat.eq_zero_or_pos m with h | h
        · exact h
        · exact absurd (Or.inr (by omega)) hx
      subst hx2
      obtain rfl : z = 0 := by have := hzm.out; omega
      have HD := Hid.of (hI.out.1.end' hx1)
      have hp : 0 < back.length := List.length_pos_iff.2 hx1
      have hc1 : ((back.length : Int) == 0) = false := by simp; omega
      clear hx hx1 hzm
      obtain ⟨ab, cb', esl, hcap, hcel⟩ := hI.out.2.1.sl
      cases esl
      obtain ⟨wb, hwb⟩ : ∃ wb, wb = wr := ⟨_, rfl⟩
      subst hwb
      rcases hcel with rfl | ⟨b, off, rfl, hb, hcel⟩
      · simp at hp
      go_wp2
      go_loopw [5, 6] (fun v5 v6 ws => ∃ i : Nat, v6 = .int .i64 ((i : Int) - 1) ∧ i ≤ back.length ∧ Hid (Own ws wb.heap.size v5 ((back.drop i).reverse) ∧ Below wb.heap.size wb ws)) (fun _ v6 _ => ((intOf v6) + 1).toNat)
      case atStart => exact ⟨back.length, by go_num, Nat.le_refl _, by rw [List.drop_length]; exact ⟨own_nil _ _, Below.refl _ _⟩⟩
      case round =>
        obtain ⟨ws, hws⟩ : ∃ ws, ws = wr := ⟨_, rfl⟩
        subst hws
        obtain ⟨i, rfl, hi, hI2⟩ := hrel
        by_cases hi0 : i = 0
        · subst hi0
          have hcv := conv_sl (Own.sl hI2.out.1)
          rw [List.drop_zero, ← HD.out] at hcv
          go_wp2
          go_ret
          rw [HE.out]
          exact ⟨rfl, hI.out.2.2.step hI.out.2.2.size hI2.out.2⟩
        · obtain ⟨k, rfl⟩ : ∃ k, i = k + 1 := ⟨i - 1, by omega⟩
          have hk : k < back.length := by omega
          have hcx : ws.cell? ⟨b, off + k, none⟩ = some (.int .u8 (back[k].toNat : Int)) := Up.cell hI2.out.2 (hcel k hk)
          have HV := Hid.of (rev_take hk)
          have ek : (((k + 1 : Nat) : Int) - 1) = (k : Int) := by omega
          rw [ek]
          clear hi0 ek
          generalize back[k] = x at *
          go_wp2_with (with_reducible show wpList _ _ _ ({ dst := _, op := Op.call { callee := Callee.builtin Builtin.append, args := _, argTypes := _ }, type := _, pos := _, after := _, guard := _ } :: _) _ _; refine Shut.out ?_)
          show wpList _ _ _ _ _ _
          refine wpList_app1 rfl _ _ rfl wb.heap.size _ ((back.drop (k + 1)).reverse) [x] rfl (by exact hI2.out.1) 1 rfl (by simp; omega) hI2.out.2.size ?_
          intro v' w3 h3 b3
          have H3 := Hid.of (And.intro h3 (hI2.out.2.trans b3))
          clear h3 b3
          simp only [Act.put, List.setIfInBounds_toArray, List.set_cons_zero, List.set_cons_succ]
          go_wp2
          go_roundw
          case rel => exact ⟨k, by go_num, by omega, by have := H3.out; rwa [HV.out] at this⟩
          case measure => simp [intOf]

set_option maxRecDepth 100000 in
set_option maxHeartbeats 1000000 in
theorem RFormat_zer (n : Int) (h0 : -9223372036854775808 ≤ n) (h1 : n ≤ 9223372036854775807) (hn : n = 0) (w : World) :
    Calls Tryz.prog 16 #[.int .i64 n] w fun e w' => e = .returned (vs (Go.Lib.itoa n)) ∧ Up w w' := by
  subst hn
  obtain ⟨M, hM⟩ : ∃ M : Nat, M = 0 := ⟨0, rfl⟩
  have HE := Hid.of (show Go.Lib.itoa 0 = Go.Lib.decDigits M by subst hM; rfl)
  have hMb : M ≤ 9223372036854775808 := by omega
  have HM := Hid.of (show (0 : Int) = -(M : Int) by omega)
  clear hM
  go_enter Tryz.func16, Tryz.ntmps16
  go_wp2
  go_loopw [3, 4] (fun v3 v4 wr => ∃ (z : Int) (m : Nat) (back : List UInt8), v3 = .int .i64 z ∧ -9223372036854775808 ≤ z ∧ z ≤ 0 ∧ slen v4 = back.length ∧ Hid (z = -(m : Int)) ∧ Hid (JF M m back ∧ Own wr w.heap.size v4 back ∧ Up w wr)) (fun v3 v4 _ => 2 * (intOf v3).natAbs + (1 - slen v4))
  case atStart => exact ⟨0, M, [], rfl, by omega, by omega, rfl, HM.out, .inr ⟨.inl rfl, by simp⟩, own_nil _ _, Up.refl _⟩
  case round =>
    obtain ⟨z, m, back, rfl, hz0, hz1, hsl, hzm, hI⟩ := hrel
    obtain ⟨a4, c4, rfl⟩ := hI.out.2.1.len
    have hlen : back.length ≤ 20 := Nat.le_trans hI.out.1.len (dig_len hMb)
    clear hsl
    by_cases hx : back = [] ∨ m ≠ 0
    · have hd : m % 10 < 10 := Nat.mod_lt _ (by decide)
      have hr : z.tmod 10 = -((m % 10 : Nat) : Int) := by rw [hzm.out, Int.neg_tmod, Int.tmod_eq_emod_of_nonneg (by omega)]; rfl
      have hq : z.tdiv 10 = -((m / 10 : Nat) : Int) := by rw [hzm.out, Int.neg_tdiv, Int.tdiv_eq_ediv_of_nonneg (by omega)]; rfl
      have HS := Hid.of (hI.out.1.step hx)
      have HW := Hid.of (show (back.length = 0 → 2 * (m / 10) < 2 * m + 1) ∧ (back.length ≠ 0 → 2 * (m / 10) < 2 * m) from ⟨fun _ => by omega, fun hb => by
        rcases hx with h | h
        · subst h; simp at hb
        · omega⟩)
      have HMZ := Hid.of (show z.natAbs = m by have := hzm.out; omega)
      have hzb : (m / 10 : Nat) ≤ 922337203685477580 := by have := hzm.out; omega
      obtain ⟨x, hxx⟩ : ∃ x : UInt8, x = UInt8.ofNat (48 + m % 10) := ⟨_, rfl⟩
      have hxn : 48 + ((m % 10 : Nat) : Int) = (x.toNat : Int) := by rw [hxx, dig_toNat hd]; omega
      rw [← hxx] at HS
      clear hxx
      have hxl : x.toNat < 256 := x.toNat_lt
      have hcond : ((back.length : Int) == 0) = true ∨ (((back.length : Int) == 0) = false ∧ (z != 0) = true) := by
        by_cases hb : back = []
        · left; subst hb; rfl
        · right
          have : 0 < back.length := List.length_pos_iff.2 hb
          have hm := hx.resolve_left hb
          have := hzm.out
          refine ⟨?_, ?_⟩
          · simp; omega
          · simp; omega
      clear hx hzm
      generalize m % 10 = d at *
      generalize m / 10 = m' at *
      rcases hcond with hc1 | ⟨hc1, hc2⟩
      ·
        go_wp2_with (with_reducible show wpList _ _ _ ({ dst := _, op := Op.call { callee := Callee.builtin Builtin.append, args := _, argTypes := _ }, type := _, pos := _, after := _, guard := _ } :: _) _ _; refine Shut.out ?_)
        show wpList _ _ _ _ _ _

        refine wpList_app1 rfl _ _ rfl w.heap.size _ back [x] rfl (by exact hI.out.2.1) 1 rfl (by simp; omega) hI.out.2.2.size ?_
        intro v' w2 h2 b2
        have H2 := Hid.of (And.intro h2 (hI.out.2.2.step (Nat.le_refl _) b2))
        clear h2 b2
        simp only [Act.put, List.setIfInBounds_toArray, List.set_cons_zero, List.set_cons_succ]
        go_wp2
        go_roundw
        case rel => exact ⟨-(m' : Int), m', back ++ [x], rfl, by omega, by omega, by obtain ⟨_, _, e⟩ := H2.out.1.len; rw [e]; rfl, rfl, HS.out, H2.out.1, H2.out.2⟩
        case measure =>
          have hv : ∃ aa cc, v' = .slice aa (back ++ [x]).length cc := H2.out.1.len
          obtain ⟨aa, cc, rfl⟩ := hv
          simp only [intOf, slen, HMZ.out, List.length_append, List.length_cons, List.length_nil]
          by_cases hb : back.length = 0
          · have := HW.out.1 hb; omega
          · have := HW.out.2 hb; omega
      ·
        go_wp2_with (with_reducible show wpList _ _ _ ({ dst := _, op := Op.call { callee := Callee.builtin Builtin.append, args := _, argTypes := _ }, type := _, pos := _, after := _, guard := _ } :: _) _ _; refine Shut.out ?_)
        show wpList _ _ _ _ _ _

        refine wpList_app1 rfl _ _ rfl w.heap.size _ back [x] rfl (by exact hI.out.2.1) 1 rfl (by simp; omega) hI.out.2.2.size ?_
        intro v' w2 h2 b2
        have H2 := Hid.of (And.intro h2 (hI.out.2.2.step (Nat.le_refl _) b2))
        clear h2 b2
        simp only [Act.put, List.setIfInBounds_toArray, List.set_cons_zero, List.set_cons_succ]
        go_wp2
        go_roundw
        case rel => exact ⟨-(m' : Int), m', back ++ [x], rfl, by omega, by omega, by obtain ⟨_, _, e⟩ := H2.out.1.len; rw [e]; rfl, rfl, HS.out, H2.out.1, H2.out.2⟩
        case measure =>
          have hv : ∃ aa cc, v' = .slice aa (back ++ [x]).length cc := H2.out.1.len
          obtain ⟨aa, cc, rfl⟩ := hv
          simp only [intOf, slen, HMZ.out, List.length_append, List.length_cons, List.length_nil]
          by_cases hb : back.length = 0
          · have := HW.out.1 hb; omega
          · have := HW.out.2 hb; omega
    · have hx1 : back ≠ [] := fun h => hx (.inl h)
      have hx2 : m = 0 := by
        rcases Nat.eq_zero_or_pos m with h | h
        · exact h
        · exact absurd (Or.inr (by omega)) hx
      subst hx2
      obtain rfl : z = 0 := by have := hzm.out; omega
      have HD := Hid.of (hI.out.1.end' hx1)
      have hp : 0 < back.length := List.length_pos_iff.2 hx1
      have hc1 : ((back.length : Int) == 0) = false := by simp; omega
      clear hx hx1 hzm
      obtain ⟨ab, cb', esl, hcap, hcel⟩ := hI.out.2.1.sl
      cases esl
      obtain ⟨wb, hwb⟩ : ∃ wb, wb = wr := ⟨_, rfl⟩
      subst hwb
      rcases hcel with rfl | ⟨b, off, rfl, hb, hcel⟩
      · simp at hp
      go_wp2
      go_loopw [5, 6] (fun v5 v6 ws => ∃ i : Nat, v6 = .int .i64 ((i : Int) - 1) ∧ i ≤ back.length ∧ Hid (Own ws wb.heap.size v5 ((back.drop i).reverse) ∧ Below wb.heap.size wb ws)) (fun _ v6 _ => ((intOf v6) + 1).toNat)
      case atStart => exact ⟨back.length, by go_num, Nat.le_refl _, by rw [List.drop_length]; exact ⟨own_nil _ _, Below.refl _ _⟩⟩
      case round =>
        obtain ⟨ws, hws⟩ : ∃ ws, ws = wr := ⟨_, rfl⟩
        subst hws
        obtain ⟨i, rfl, hi, hI2⟩ := hrel
        by_cases hi0 : i = 0
        · subst hi0
          have hcv := conv_sl (Own.sl hI2.out.1)
          rw [List.drop_zero, ← HD.out] at hcv
          go_wp2
          go_ret
          rw [HE.out]
          exact ⟨rfl, hI.out.2.2.step hI.out.2.2.size hI2.out.2⟩
        · obtain ⟨k, rfl⟩ : ∃ k, i = k + 1 := ⟨i - 1, by omega⟩
          have hk : k < back.length := by omega
          have hcx : ws.cell? ⟨b, off + k, none⟩ = some (.int .u8 (back[k].toNat : Int)) := Up.cell hI2.out.2 (hcel k hk)
          have HV := Hid.of (rev_take hk)
          have ek : (((k + 1 : Nat) : Int) - 1) = (k : Int) := by omega
          rw [ek]
          clear hi0 ek
          generalize back[k] = x at *
          go_wp2_with (with_reducible show wpList _ _ _ ({ dst := _, op := Op.call { callee := Callee.builtin Builtin.append, args := _, argTypes := _ }, type := _, pos := _, after := _, guard := _ } :: _) _ _; refine Shut.out ?_)
          show wpList _ _ _ _ _ _
          refine wpList_app1 rfl _ _ rfl wb.heap.size _ ((back.drop (k + 1)).reverse) [x] rfl (by exact hI2.out.1) 1 rfl (by simp; omega) hI2.out.2.size ?_
          intro v' w3 h3 b3
          have H3 := Hid.of (And.intro h3 (hI2.out.2.trans b3))
          clear h3 b3
          simp only [Act.put, List.setIfInBounds_toArray, List.set_cons_zero, List.set_cons_succ]
          go_wp2
          go_roundw
          case rel => exact ⟨k, by go_num, by omega, by have := H3.out; rwa [HV.out] at this⟩
          case measure => simp [intOf]

set_option maxRecDepth 100000 in
set_option maxHeartbeats 1000000 in
theorem RFormat_neg (n : Int) (h0 : -9223372036854775808 ≤ n) (h1 : n ≤ 9223372036854775807) (hn : n < 0) (w : World) :
    Calls Tryz.prog 16 #[.int .i64 n] w fun e w' => e = .returned (vs (Go.Lib.itoa n)) ∧ Up w w' := by
  obtain ⟨M, hM⟩ : ∃ M : Nat, M = n.natAbs := ⟨_, rfl⟩
  have HE := Hid.of (show Go.Lib.itoa n = 45 :: Go.Lib.decDigits M by rw [hM]; exact if_pos hn)
  have hMb : M ≤ 9223372036854775808 := by omega
  have HM := Hid.of (show n = -(M : Int) by omega)
  have hnn : ¬ 0 < n := by omega
  clear hM
  go_enter Tryz.func16, Tryz.ntmps16
  go_wp2
  go_loopw [3, 4] (fun v3 v4 wr => ∃ (z : Int) (m : Nat) (back : List UInt8), v3 = .int .i64 z ∧ -9223372036854775808 ≤ z ∧ z ≤ 0 ∧ slen v4 = back.length ∧ Hid (z = -(m : Int)) ∧ Hid (JF M m back ∧ Own wr w.heap.size v4 back ∧ Up w wr)) (fun v3 v4 _ => 2 * (intOf v3).natAbs + (1 - slen v4))
  case atStart => exact ⟨n, M, [], rfl, by omega, by omega, rfl, HM.out, .inr ⟨.inl rfl, by simp⟩, own_nil _ _, Up.refl _⟩
  case round =>
    obtain ⟨z, m, back, rfl, hz0, hz1, hsl, hzm, hI⟩ := hrel
    obtain ⟨a4, c4, rfl⟩ := hI.out.2.1.len
    have hlen : back.length ≤ 20 := Nat.le_trans hI.out.1.len (dig_len hMb)
    clear hsl
    by_cases hx : back = [] ∨ m ≠ 0
    · have hd : m % 10 < 10 := Nat.mod_lt _ (by decide)
      have hr : z.tmod 10 = -((m % 10 : Nat) : Int) := by rw [hzm.out, Int.neg_tmod, Int.tmod_eq_emod_of_nonneg (by omega)]; rfl
      have hq : z.tdiv 10 = -((m / 10 : Nat) : Int) := by rw [hzm.out, Int.neg_tdiv, Int.tdiv_eq_ediv_of_nonneg (by omega)]; rfl
      have HS := Hid.of (hI.out.1.step hx)
      have HW := Hid.of (show (back.length = 0 → 2 * (m / 10) < 2 * m + 1) ∧ (back.length ≠ 0 → 2 * (m / 10) < 2 * m) from ⟨fun _ => by omega, fun hb => by
        rcases hx with h | h
        · subst h; simp at hb
        · omega⟩)
      have HMZ := Hid.of (show z.natAbs = m by have := hzm.out; omega)
      have hzb : (m / 10 : Nat) ≤ 922337203685477580 := by have := hzm.out; omega
      obtain ⟨x, hxx⟩ : ∃ x : UInt8, x = UInt8.ofNat (48 + m % 10) := ⟨_, rfl⟩
      have hxn : 48 + ((m % 10 : Nat) : Int) = (x.toNat : Int) := by rw [hxx, dig_toNat hd]; omega
      rw [← hxx] at HS
      clear hxx
      have hxl : x.toNat < 256 := x.toNat_lt
      have hcond : ((back.length : Int) == 0) = true ∨ (((back.length : Int) == 0) = false ∧ (z != 0) = true) := by
        by_cases hb : back = []
        · left; subst hb; rfl
        · right
          have : 0 < back.length := List.length_pos_iff.2 hb
          have hm := hx.resolve_left hb
          have := hzm.out
          refine ⟨?_, ?_⟩
          · simp; omega
          · simp; omega
      clear hx hzm
      generalize m % 10 = d at *
      generalize m / 10 = m' at *
      rcases hcond with hc1 | ⟨hc1, hc2⟩
      ·
        go_wp2_with (with_reducible show wpList _ _ _ ({ dst := _, op := Op.call { callee := Callee.builtin Builtin.append, args := _, argTypes := _ }, type := _, pos := _, after := _, guard := _ } :: _) _ _; refine Shut.out ?_)
        show wpList _ _ _ _ _ _

        refine wpList_app1 rfl _ _ rfl w.heap.size _ back [x] rfl (by exact hI.out.2.1) 1 rfl (by simp; omega) hI.out.2.2.size ?_
        intro v' w2 h2 b2
        have H2 := Hid.of (And.intro h2 (hI.out.2.2.step (Nat.le_refl _) b2))
        clear h2 b2
        simp only [Act.put, List.setIfInBounds_toArray, List.set_cons_zero, List.set_cons_succ]
        go_wp2
        go_roundw
        case rel => exact ⟨-(m' : Int), m', back ++ [x], rfl, by omega, by omega, by obtain ⟨_, _, e⟩ := H2.out.1.len; rw [e]; rfl, rfl, HS.out, H2.out.1, H2.out.2⟩
        case measure =>
          have hv : ∃ aa cc, v' = .slice aa (back ++ [x]).length cc := H2.out.1.len
          obtain ⟨aa, cc, rfl⟩ := hv
          simp only [intOf, slen, HMZ.out, List.length_append, List.length_cons, List.length_nil]
          by_cases hb : back.length = 0
          · have := HW.out.1 hb; omega
          · have := HW.out.2 hb; omega
      ·
        go_wp2_with (with_reducible show wpList _ _ _ ({ dst := _, op := Op.call { callee := Callee.builtin Builtin.append, args := _, argTypes := _ }, type := _, pos := _, after := _, guard := _ } :: _) _ _; refine Shut.out ?_)
        show wpList _ _ _ _ _ _

        refine wpList_app1 rfl _ _ rfl w.heap.size _ back [x] rfl (by exact hI.out.2.1) 1 rfl (by simp; omega) hI.out.2.2.size ?_
        intro v' w2 h2 b2
        have H2 := Hid.of (And.intro h2 (hI.out.2.2.step (Nat.le_refl _) b2))
        clear h2 b2
        simp only [Act.put, List.setIfInBounds_toArray, List.set_cons_zero, List.set_cons_succ]
        go_wp2
        go_roundw
        case rel => exact ⟨-(m' : Int), m', back ++ [x], rfl, by omega, by omega, by obtain ⟨_, _, e⟩ := H2.out.1.len; rw [e]; rfl, rfl, HS.out, H2.out.1, H2.out.2⟩
        case measure =>
          have hv : ∃ aa cc, v' = .slice aa (back ++ [x]).length cc := H2.out.1.len
          obtain ⟨aa, cc, rfl⟩ := hv
          simp only [intOf, slen, HMZ.out, List.length_append, List.length_cons, List.length_nil]
          by_cases hb : back.length = 0
          · have := HW.out.1 hb; omega
          · have := HW.out.2 hb; omega
    · have hx1 : back ≠ [] := fun h => hx (.inl h)
      have hx2 : m = 0 := by
        rcases Nat.eq_zero_or_pos m with h | h
        · exact h
        · exact absurd (Or.inr (by omega)) hx
      subst hx2
      obtain rfl : z = 0 := by have := hzm.out; omega
      have HD := Hid.of (hI.out.1.end' hx1)
      have hp : 0 < back.length := List.length_pos_iff.2 hx1
      have hc1 : ((back.length : Int) == 0) = false := by simp; omega
      clear hx hx1 hzm
      obtain ⟨ab, cb', esl, hcap, hcel⟩ := hI.out.2.1.sl
      cases esl
      obtain ⟨wb, hwb⟩ : ∃ wb, wb = wr := ⟨_, rfl⟩
      subst hwb
      rcases hcel with rfl | ⟨b, off, rfl, hb, hcel⟩
      · simp at hp
      go_wp2_with (with_reducible show wpList _ _ _ ({ dst := _, op := Op.call { callee := Callee.builtin Builtin.append, args := _, argTypes := _ }, type := _, pos := _, after := _, guard := _ } :: _) _ _; refine Shut.out ?_)
      show wpList _ _ _ _ _ _
      refine wpList_app1 rfl _ _ rfl wb.heap.size _ [] [45] rfl (by exact own_nil _ _) 1 rfl (by decide) (Nat.le_refl _) ?_
      intro v5 w5 h5 b5
      simp only [Act.put, List.setIfInBounds_toArray, List.set_cons_zero, List.set_cons_succ]
      have H5 := Hid.of (And.intro h5 b5)
      clear h5 b5
      go_wp2
      go_loopw [5, 6] (fun v5 v6 ws => ∃ i : Nat, v6 = .int .i64 ((i : Int) - 1) ∧ i ≤ back.length ∧ Hid (Own ws wb.heap.size v5 (45 :: (back.drop i).reverse) ∧ Below wb.heap.size wb ws)) (fun _ v6 _ => ((intOf v6) + 1).toNat)
      case atStart => exact ⟨back.length, by go_num, Nat.le_refl _, by rw [List.drop_length]; exact ⟨H5.out.1, H5.out.2⟩⟩
      case round =>
        obtain ⟨ws, hws⟩ : ∃ ws, ws = wr := ⟨_, rfl⟩
        subst hws
        obtain ⟨i, rfl, hi, hI2⟩ := hrel
        by_cases hi0 : i = 0
        · subst hi0
          have hcv := conv_sl (Own.sl hI2.out.1)
          rw [List.drop_zero, ← HD.out] at hcv
          go_wp2
          go_ret
          rw [HE.out]
          exact ⟨rfl, hI.out.2.2.step hI.out.2.2.size hI2.out.2⟩
        · obtain ⟨k, rfl⟩ : ∃ k, i = k + 1 := ⟨i - 1, by omega⟩
          have hk : k < back.length := by omega
          have hcx : ws.cell? ⟨b, off + k, none⟩ = some (.int .u8 (back[k].toNat : Int)) := Up.cell hI2.out.2 (hcel k hk)
          have HV := Hid.of (rev_take hk)
          have ek : (((k + 1 : Nat) : Int) - 1) = (k : Int) := by omega
          rw [ek]
          clear hi0 ek
          generalize back[k] = x at *
          go_wp2_with (with_reducible show wpList _ _ _ ({ dst := _, op := Op.call { callee := Callee.builtin Builtin.append, args := _, argTypes := _ }, type := _, pos := _, after := _, guard := _ } :: _) _ _; refine Shut.out ?_)
          show wpList _ _ _ _ _ _
          refine wpList_app1 rfl _ _ rfl wb.heap.size _ (45 :: (back.drop (k + 1)).reverse) [x] rfl (by exact hI2.out.1) 1 rfl (by simp; omega) hI2.out.2.size ?_
          intro v' w3 h3 b3
          have H3 := Hid.of (And.intro h3 (hI2.out.2.trans b3))
          clear h3 b3
          simp only [Act.put, List.setIfInBounds_toArray, List.set_cons_zero, List.set_cons_succ]
          go_wp2
          go_roundw
          case rel => exact ⟨k, by go_num, by omega, by have := H3.out; rwa [List.cons_append, HV.out] at this⟩
          case measure => simp [intOf]

theorem RFormat_walk (n : Int) (h0 : -9223372036854775808 ≤ n) (h1 : n ≤ 9223372036854775807) (w : World) :
    Calls Tryz.prog 16 #[.int .i64 n] w fun e w' => e = .returned (vs (Go.Lib.itoa n)) ∧ Up w w' := by
  by_cases hp : 0 < n
  · exact RFormat_pos n h0 h1 hp w
  · by_cases hz : n = 0
    · exact RFormat_zer n h0 h1 hz w
    · exact RFormat_neg n h0 h1 (by omega) w
end Go.Proofs.YtbdmpdjhgjidlaaGreatDoor
