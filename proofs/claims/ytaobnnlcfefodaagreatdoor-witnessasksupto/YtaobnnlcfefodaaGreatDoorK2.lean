import Derived.Test.YtaobnnlcfefodaaGreatDoorWa
import Derived.Test.YtaobnnlcfefodaaGreatDoorNp
import Derived.Laws.Cover1
import Derived.Lib.Strings
namespace Go.Proofs.YtaobnnlcfefodaaGreatDoor
open Go.RowKit TextNum Go.Lib
/-! ### an ask that is read loosely, line by line, in plain lists -/
def lnA (l : List UInt8) : List UInt8 := l.takeWhile (· != 10)
def rsA (l : List UInt8) : List UInt8 := (l.dropWhile (· != 10)).drop 1
theorem lnA_hit : ∀ {a b : List UInt8}, (10 : UInt8) ∉ a → lnA (a ++ 10 :: b) = a ∧ rsA (a ++ 10 :: b) = b
  | [], b, _ => by simp [lnA, rsA]
  | c :: a, b, h => by
    have hc : (c != 10) = true := by
      rw [bne_iff_ne]
      intro e
      exact h (by rw [e]; exact List.mem_cons_self)
    have ih := lnA_hit (a := a) (b := b) (fun e => h (List.mem_cons_of_mem _ e))
    unfold lnA rsA at *
    rw [List.cons_append, List.takeWhile_cons, List.dropWhile_cons, if_pos hc, if_pos hc, ih.1]
    exact ⟨rfl, ih.2⟩
theorem lnA_no {a : List UInt8} (h : (10 : UInt8) ∉ a) : lnA a = a ∧ rsA a = [] := by
  induction a with
  | nil => exact ⟨rfl, rfl⟩
  | cons c a ih =>
    have hc : (c != 10) = true := by
      rw [bne_iff_ne]
      intro e
      exact h (by rw [e]; exact List.mem_cons_self)
    have ih := ih (fun e => h (List.mem_cons_of_mem _ e))
    unfold lnA rsA at *
    rw [List.takeWhile_cons, List.dropWhile_cons, if_pos hc, if_pos hc, ih.1]
    exact ⟨rfl, ih.2⟩
/-- what is left of an ask behind k hashes -/
def rst (hs : List (List UInt8)) (m : List UInt8) (k : Nat) : List UInt8 := (hs.drop k).flatMap hln ++ 10 :: m
theorem rst_step {hs : List (List UInt8)} {m : List UInt8} {k : Nat} (h : k < hs.length) : lnA (rst hs m k) = b64E hs[k] ∧ rsA (rst hs m k) = rst hs m (k + 1) := by
  have e : rst hs m k = b64E hs[k] ++ 10 :: rst hs m (k + 1) := by
    unfold rst
    rw [List.drop_eq_getElem_cons h, List.flatMap_cons]
    simp [hln]
  rw [e]
  exact lnA_hit (g_no10' _)
theorem rst_end {hs : List (List UInt8)} {m : List UInt8} {k : Nat} (h : hs.length ≤ k) : lnA (rst hs m k) = [] ∧ rsA (rst hs m k) = m := by
  unfold rst
  rw [List.drop_of_length_le h]
  exact lnA_hit (a := []) (by simp)
theorem fmA_line {o : Int} {hs : List (List UInt8)} {m : List UInt8} (v : VA o hs m) : lnA (fmA o hs m) = OLD ++ itoa o ∧ rsA (fmA o hs m) = rst hs m 0 := by
  have e : fmA o hs m = (OLD ++ itoa o) ++ 10 :: rst hs m 0 := by unfold fmA rst; simp
  rw [e]
  exact lnA_hit (old_no10 v.o0)
/-- a line and what is behind it, by its end -/
theorem lnA_cut {l : List UInt8} {i : Nat} (hi : i < l.length) (h10 : l[i] = 10) (hb : ∀ k (hk : k < l.length), k < i → l[k] ≠ 10) : lnA l = l.take i ∧ rsA l = l.drop (i + 1) := by
  have e : l = l.take i ++ 10 :: l.drop (i + 1) := by
    conv => lhs; rw [← List.take_append_drop i l, List.drop_eq_getElem_cons hi, h10]
  have hno : (10 : UInt8) ∉ l.take i := fun h => by
    obtain ⟨k, hk, e2⟩ := List.getElem_of_mem h
    have hki : k < i := by rw [List.length_take] at hk; omega
    rw [List.getElem_take] at e2
    exact hb k (by omega) hki e2
  have := lnA_hit (b := l.drop (i + 1)) hno
  rw [← e] at this
  exact this
end Go.Proofs.YtaobnnlcfefodaaGreatDoor
namespace Go.Proofs.YtaobnnlcfefodaaGreatDoor
open Go.RowKit Go.Shelf TextNum Go.Lib
theorem ext_strW (s : ByteArray) (a b : Nat) : s.extract a b = ⟨((s.data.toList.drop a).take (b - a)).toArray⟩ := by
  apply ByteArray.ext
  rw [ByteArray.data_extract, ← Array.toList_inj, Array.toList_extract]
set_option maxRecDepth 100000 in
set_option maxHeartbeats 1000000 in
theorem lineOf_walk (s : ByteArray) (at0 : Nat) (h : at0 ≤ s.size) (hs : s.size ≤ 1048576) (w : World) : Calls Tryz.prog 24 #[.string s, .int .i64 (at0 : Int)] w fun e w' => (∃ at' : Nat, e = .returned (.tuple #[.string ⟨(lnA (s.data.toList.drop at0)).toArray⟩, .int .i64 (at' : Int)]) ∧ at' ≤ s.size ∧ s.data.toList.drop at' = rsA (s.data.toList.drop at0)) ∧ w' = w := by
  have HS := Hid.of (Go.Lib.size_eq s)
  have hz : (at0 : Int) ≤ (s.size : Int) := by omega
  go_enter Tryz.func24, Tryz.ntmps24
  go_wp2
  go_loopw [6] (fun v6 wr => ∃ i : Nat, v6 = .int .i64 (i : Int) ∧ at0 ≤ i ∧ i ≤ s.size ∧ wr = w ∧ Hid (∀ k (hk : k < s.data.toList.length), at0 ≤ k → k < i → s.data.toList[k] ≠ 10)) (fun v6 _ => s.size - (intOf v6).toNat)
  case atStart => exact ⟨at0, rfl, Nat.le_refl _, h, rfl, fun k hk h1 h2 => by omega⟩
  case round =>
    obtain ⟨i, rfl, ha, hi, hwr, hI⟩ := hrel
    obtain rfl := hwr.symm
    clear hwr
    by_cases hlt : i < s.size
    · have hlz : (i : Int) < (s.size : Int) := by omega
      have hlL : i < s.data.toList.length := by rw [← HS.out]; exact hlt
      by_cases hd : s[i] = 10
      · have hd' : (((s[i].toNat : Nat) : Int) != 10) = false := by rw [hd]; rfl
        have hne : ((i : Int) == (s.size : Int)) = false := by rw [beq_eq_false_iff_ne]; omega
        have hai : (at0 : Int) ≤ (i : Int) := by omega
        have hcut := lnA_cut (l := s.data.toList.drop at0) (i := i - at0) (by rw [List.length_drop]; omega) (by
          rw [List.getElem_drop]
          have e : at0 + (i - at0) = i := by omega
          simp only [e]
          rw [← sget' s i hlt]; exact hd) (fun k hk hki => by
          rw [List.getElem_drop]
          rw [List.length_drop] at hk
          exact hI.out (at0 + k) (by omega) (by omega) (by omega))
        have HC := Hid.of hcut
        clear hd hcut hI
        go_wp2
        go_ret2
        refine ⟨⟨i + 1, ?_, by omega, ?_⟩, rfl⟩
        · rw [HC.out.1, ← ext_strW]
          simp
        · rw [HC.out.2, List.drop_drop, show at0 + (i - at0 + 1) = i + 1 by omega]
      · have hd' : (((s[i].toNat : Nat) : Int) != 10) = true := by
          rw [bne_iff_ne]
          intro e
          exact hd (UInt8.toNat_inj.1 (by have : (10 : UInt8).toNat = 10 := rfl; omega))
        have HN := Hid.of (show ∀ k (hk : k < s.data.toList.length), at0 ≤ k → k < i + 1 → s.data.toList[k] ≠ 10 from fun k hk h1 h2 => by
          by_cases e : k = i
          · subst e; rw [← sget' s k hlt]; exact hd
          · exact hI.out k hk h1 (by omega))
        clear hd hI
        go_wp2
        go_roundw
        case rel => exact ⟨i + 1, by go_num, by omega, by omega, by simp, HN⟩
        case measure => simp [intOf]; omega
    · have hlz : ¬ (i : Int) < (s.size : Int) := by omega
      obtain rfl : i = s.size := by omega
      have hno : (10 : UInt8) ∉ s.data.toList.drop at0 := fun h2 => by
        obtain ⟨k, hk, e⟩ := List.getElem_of_mem h2
        rw [List.getElem_drop] at e
        rw [List.length_drop] at hk
        exact hI.out (at0 + k) (by omega) (by omega) (by have := HS.out; omega) e
      have HC := Hid.of (lnA_no hno)
      clear hI hno
      go_wp2
      go_ret2
      refine ⟨⟨s.size, ?_, Nat.le_refl _, ?_⟩, rfl⟩
      · rw [HC.out.1]
        first | rfl | (rw [ext_strW, List.take_of_length_le (by rw [List.length_drop, ← HS.out]; exact Nat.le_refl _)]; rfl) | simp [ext_strW]
      · rw [HC.out.2, List.drop_of_length_le (by rw [← HS.out]; exact Nat.le_refl _)]
end Go.Proofs.YtaobnnlcfefodaaGreatDoor
namespace Go.Proofs.YtaobnnlcfefodaaGreatDoor
open Go.RowKit TextNum

def slenR : Value → Nat
  | .slice _ n _ => n
  | _ => 0
/-- what the first loop keeps -/
def JF (M m : Nat) (back : List UInt8) : Prop := (back ≠ [] ∧ m = 0 ∧ Go.Lib.decDigits M = back.reverse) ∨ ((back = [] ∨ m ≠ 0) ∧ Go.Lib.decDigits M = Go.Lib.decDigits m ++ back.reverse)
theorem JF.step {M m : Nat} {back : List UInt8} (h : JF M m back) (hb : back = [] ∨ m ≠ 0) : JF M (m / 10) (back ++ [UInt8.ofNat (48 + m % 10)]) := by
  rcases h with ⟨h1, h2, _⟩ | ⟨_, h⟩
  · rcases hb with hb | hb
    · exact absurd hb h1
    · exact absurd h2 hb
  · by_cases hm : m < 10
    · refine .inl ⟨by simp, by omega, ?_⟩
      rw [h, Go.Lib.decDigits_one hm, Nat.mod_eq_of_lt hm]; simp
    · refine .inr ⟨.inr (by omega), ?_⟩
      rw [h, Go.Lib.decDigits, dif_neg hm]; simp
theorem JF.len {M m : Nat} {back : List UInt8} (h : JF M m back) : back.length ≤ (Go.Lib.decDigits M).length := by
  rcases h with ⟨_, _, h⟩ | ⟨_, h⟩ <;> rw [h] <;> simp
theorem JF.end' {M : Nat} {back : List UInt8} (h : JF M 0 back) (hb : back ≠ []) : Go.Lib.decDigits M = back.reverse := by
  rcases h with ⟨_, _, h⟩ | ⟨h1, _⟩
  · exact h
  · rcases h1 with h1 | h1
    · exact absurd h1 hb
    · exact absurd rfl h1
theorem dig_len {M : Nat} (h : M ≤ 9223372036854775808) : (Go.Lib.decDigits M).length ≤ 20 := by
  rcases Nat.lt_or_ge M 9223372036854775808 with h1 | h1
  · have := (itoa_len (M : Int) (by omega) (by omega)).1
    rw [itoa_nat] at this; exact this
  · obtain rfl : M = 9223372036854775808 := by omega
    have := (itoa_len (-9223372036854775808) (by omega) (by omega)).1
    simp [Go.Lib.itoa] at this; omega
theorem rev_take {l : List UInt8} {i : Nat} (h : i < l.length) : (l.drop (i + 1)).reverse ++ [l[i]] = (l.drop i).reverse := by
  rw [List.drop_eq_getElem_cons h, List.reverse_cons]

set_option maxRecDepth 100000 in
set_option maxHeartbeats 1000000 in
theorem RFormat_pos (n : Int) (h0 : -9223372036854775808 ≤ n) (h1 : n ≤ 9223372036854775807) (hn : 0 < n) (w : World) :
    Calls Tryz.prog 18 #[.int .i64 n] w fun e w' => e = .returned (vs (Go.Lib.itoa n)) ∧ Up w w' := by
  obtain ⟨M, hM⟩ : ∃ M : Nat, n = (M : Int) := ⟨n.toNat, by omega⟩
  have HE := Hid.of (show Go.Lib.itoa n = Go.Lib.decDigits M by rw [hM]; exact itoa_nat M)
  have hMb : M ≤ 9223372036854775808 := by omega
  have HM := Hid.of (show -n = -(M : Int) by omega)
  have hnn : ¬ n < 0 := by omega
  clear hM
  go_enter Tryz.func18, Tryz.ntmps18
  go_wp2
  go_loopw [3, 4] (fun v3 v4 wr => ∃ (z : Int) (m : Nat) (back : List UInt8), v3 = .int .i64 z ∧ -9223372036854775808 ≤ z ∧ z ≤ 0 ∧ slenR v4 = back.length ∧ Hid (z = -(m : Int)) ∧ Hid (JF M m back ∧ Own wr w.heap.size v4 back ∧ Up w wr)) (fun v3 v4 _ => 2 * (intOf v3).natAbs + (1 - slenR v4))
  case atStart => exact ⟨-n, M, [], rfl, by omega, by omega, rfl, HM.out, .inr ⟨.inl rfl, by simp⟩, own_nil _ _, Up.refl _⟩
  case round =>
    obtain ⟨z, m, back, rfl, hz0, hz1, hsl, hzm, hI⟩ := hrel
    obtain ⟨a4, c4, rfl⟩ := hI.out.2.1.len
    have hlen : back.length ≤ 20 := Nat.le_trans hI.out.1.len (dig_len hMb)
    clear hsl
    by_cases hx : back = [] ∨ m ≠ 0
    · have hd : m % 10 < 10 := Nat.mod_lt _ (by decide)
      have hr : z.tmod 10 = -((m % 10 : Nat) : Int) := by rw [hzm.out, Int.neg_tmod, Int.tmod_eq_emod_of_nonneg (by omega)]; rfl
      have hq : z.tdiv 10 = -((m / 10 : Nat) : Int) := by rw [hzm.out, Int.neg_tdiv, Int.tdiv_eq_ediv_of_nonneg (by omega)]; rfl
      have HS := Hid.of (hI.out.1.step hx)
      have HW := Hid.of (show (back.length = 0 → 2 * (m / 10) < 2 * m + 1) ∧ (back.length ≠ 0 → 2 * (m / 10) < 2 * m) from ⟨fun _ => by omega, fun hb => by
        rcases hx with h | h
        · subst h; simp at hb
        · omega⟩)
      have HMZ := Hid.of (show z.natAbs = m by have := hzm.out; omega)
      have hzb : (m / 10 : Nat) ≤ 922337203685477580 := by have := hzm.out; omega
      obtain ⟨x, hxx⟩ : ∃ x : UInt8, x = UInt8.ofNat (48 + m % 10) := ⟨_, rfl⟩
      have hxn : 48 + ((m % 10 : Nat) : Int) = (x.toNat : Int) := by rw [hxx, dig_toNat hd]; omega
      rw [← hxx] at HS
      clear hxx
      have hxl : x.toNat < 256 := x.toNat_lt
      have hcond : ((back.length : Int) == 0) = true ∨ (((back.length : Int) == 0) = false ∧ (z != 0) = true) := by
        by_cases hb : back = []
        · left; subst hb; rfl
        · right
          have : 0 < back.length := List.length_pos_iff.2 hb
          have hm := hx.resolve_left hb
          have := hzm.out
          refine ⟨?_, ?_⟩
          · simp; omega
          · simp; omega
      clear hx hzm
      generalize m % 10 = d at *
      generalize m / 10 = m' at *
      rcases hcond with hc1 | ⟨hc1, hc2⟩
      ·
        go_wp2_with (with_reducible show wpList _ _ _ ({ dst := _, op := Op.call { callee := Callee.builtin Builtin.append, args := _, argTypes := _ }, type := _, pos := _, after := _, guard := _ } :: _) _ _; refine Shut.out ?_)
        show wpList _ _ _ _ _ _

        refine wpList_app1 rfl _ _ rfl w.heap.size _ back [x] rfl (by exact hI.out.2.1) 1 rfl (by simp; omega) hI.out.2.2.size ?_
        intro v' w2 h2 b2
        have H2 := Hid.of (And.intro h2 (hI.out.2.2.step (Nat.le_refl _) b2))
        clear h2 b2
        simp only [Act.put, List.setIfInBounds_toArray, List.set_cons_zero, List.set_cons_succ]
        go_wp2
        go_roundw
        case rel => exact ⟨-(m' : Int), m', back ++ [x], rfl, by omega, by omega, by obtain ⟨_, _, e⟩ := H2.out.1.len; rw [e]; rfl, rfl, HS.out, H2.out.1, H2.out.2⟩
        case measure =>
          have hv : ∃ aa cc, v' = .slice aa (back ++ [x]).length cc := H2.out.1.len
          obtain ⟨aa, cc, rfl⟩ := hv
          simp only [intOf, slenR, HMZ.out, List.length_append, List.length_cons, List.length_nil]
          by_cases hb : back.length = 0
          · have := HW.out.1 hb; omega
          · have := HW.out.2 hb; omega
      ·
        go_wp2_with (with_reducible show wpList _ _ _ ({ dst := _, op := Op.call { callee := Callee.builtin Builtin.append, args := _, argTypes := _ }, type := _, pos := _, after := _, guard := _ } :: _) _ _; refine Shut.out ?_)
        show wpList _ _ _ _ _ _

        refine wpList_app1 rfl _ _ rfl w.heap.size _ back [x] rfl (by exact hI.out.2.1) 1 rfl (by simp; omega) hI.out.2.2.size ?_
        intro v' w2 h2 b2
        have H2 := Hid.of (And.intro h2 (hI.out.2.2.step (Nat.le_refl _) b2))
        clear h2 b2
        simp only [Act.put, List.setIfInBounds_toArray, List.set_cons_zero, List.set_cons_succ]
        go_wp2
        go_roundw
        case rel => exact ⟨-(m' : Int), m', back ++ [x], rfl, by omega, by omega, by obtain ⟨_, _, e⟩ := H2.out.1.len; rw [e]; rfl, rfl, HS.out, H2.out.1, H2.out.2⟩
        case measure =>
          have hv : ∃ aa cc, v' = .slice aa (back ++ [x]).length cc := H2.out.1.len
          obtain ⟨aa, cc, rfl⟩ := hv
          simp only [intOf, slenR, HMZ.out, List.length_append, List.length_cons, List.length_nil]
          by_cases hb : back.length = 0
          · have := HW.out.1 hb; omega
          · have := HW.out.2 hb; omega
    · have hx1 : back ≠ [] := fun h => hx (.inl h)
      have hx2 : m = 0 := by
        rcases Nat.eq_zero_or_pos m with h | h
        · exact h
        · exact absurd (Or.inr (by omega)) hx
      subst hx2
      obtain rfl : z = 0 := by have := hzm.out; omega
      have HD := Hid.of (hI.out.1.end' hx1)
      have hp : 0 < back.length := List.length_pos_iff.2 hx1
      have hc1 : ((back.length : Int) == 0) = false := by simp; omega
      clear hx hx1 hzm
      obtain ⟨ab, cb', esl, hcap, hcel⟩ := hI.out.2.1.sl
      cases esl
      obtain ⟨wb, hwb⟩ : ∃ wb, wb = wr := ⟨_, rfl⟩
      subst hwb
      rcases hcel with rfl | ⟨b, off, rfl, hb, hcel⟩
      · simp at hp
      go_wp2
      go_loopw [5, 6] (fun v5 v6 ws => ∃ i : Nat, v6 = .int .i64 ((i : Int) - 1) ∧ i ≤ back.length ∧ Hid (Own ws wb.heap.size v5 ((back.drop i).reverse) ∧ Below wb.heap.size wb ws)) (fun _ v6 _ => ((intOf v6) + 1).toNat)
      case atStart => exact ⟨back.length, by go_num, Nat.le_refl _, by rw [List.drop_length]; exact ⟨own_nil _ _, Below.refl _ _⟩⟩
      case round =>
        obtain ⟨ws, hws⟩ : ∃ ws, ws = wr := ⟨_, rfl⟩
        subst hws
        obtain ⟨i, rfl, hi, hI2⟩ := hrel
        by_cases hi0 : i = 0
        · subst hi0
          have hcv := conv_sl (Own.sl hI2.out.1)
          rw [List.drop_zero, ← HD.out] at hcv
          go_wp2
          go_ret
          rw [HE.out]
          exact ⟨rfl, hI.out.2.2.step hI.out.2.2.size hI2.out.2⟩
        · obtain ⟨k, rfl⟩ : ∃ k, i = k + 1 := ⟨i - 1, by omega⟩
          have hk : k < back.length := by omega
          have hcx : ws.cell? ⟨b, off + k, none⟩ = some (.int .u8 (back[k].toNat : Int)) := Up.cell hI2.out.2 (hcel k hk)
          have HV := Hid.of (rev_take hk)
          have ek : (((k + 1 : Nat) : Int) - 1) = (k : Int) := by omega
          rw [ek]
          clear hi0 ek
          generalize back[k] = x at *
          go_wp2_with (with_reducible show wpList _ _ _ ({ dst := _, op := Op.call { callee := Callee.builtin Builtin.append, args := _, argTypes := _ }, type := _, pos := _, after := _, guard := _ } :: _) _ _; refine Shut.out ?_)
          show wpList _ _ _ _ _ _
          refine wpList_app1 rfl _ _ rfl wb.heap.size _ ((back.drop (k + 1)).reverse) [x] rfl (by exact hI2.out.1) 1 rfl (by simp; omega) hI2.out.2.size ?_
          intro v' w3 h3 b3
          have H3 := Hid.of (And.intro h3 (hI2.out.2.trans b3))
          clear h3 b3
          simp only [Act.put, List.setIfInBounds_toArray, List.set_cons_zero, List.set_cons_succ]
          go_wp2
          go_roundw
          case rel => exact ⟨k, by go_num, by omega, by have := H3.out; rwa [HV.out] at this⟩
          case measure => simp [intOf]

set_option maxRecDepth 100000 in
set_option maxHeartbeats 1000000 in
theorem RFormat_zer (n : Int) (h0 : -9223372036854775808 ≤ n) (h1 : n ≤ 9223372036854775807) (hn : n = 0) (w : World) :
    Calls Tryz.prog 18 #[.int .i64 n] w fun e w' => e = .returned (vs (Go.Lib.itoa n)) ∧ Up w w' := by
  subst hn
  obtain ⟨M, hM⟩ : ∃ M : Nat, M = 0 := ⟨0, rfl⟩
  have HE := Hid.of (show Go.Lib.itoa 0 = Go.Lib.decDigits M by subst hM; rfl)
  have hMb : M ≤ 9223372036854775808 := by omega
  have HM := Hid.of (show (0 : Int) = -(M : Int) by omega)
  clear hM
  go_enter Tryz.func18, Tryz.ntmps18
  go_wp2
  go_loopw [3, 4] (fun v3 v4 wr => ∃ (z : Int) (m : Nat) (back : List UInt8), v3 = .int .i64 z ∧ -9223372036854775808 ≤ z ∧ z ≤ 0 ∧ slenR v4 = back.length ∧ Hid (z = -(m : Int)) ∧ Hid (JF M m back ∧ Own wr w.heap.size v4 back ∧ Up w wr)) (fun v3 v4 _ => 2 * (intOf v3).natAbs + (1 - slenR v4))
  case atStart => exact ⟨0, M, [], rfl, by omega, by omega, rfl, HM.out, .inr ⟨.inl rfl, by simp⟩, own_nil _ _, Up.refl _⟩
  case round =>
    obtain ⟨z, m, back, rfl, hz0, hz1, hsl, hzm, hI⟩ := hrel
    obtain ⟨a4, c4, rfl⟩ := hI.out.2.1.len
    have hlen : back.length ≤ 20 := Nat.le_trans hI.out.1.len (dig_len hMb)
    clear hsl
    by_cases hx : back = [] ∨ m ≠ 0
    · have hd : m % 10 < 10 := Nat.mod_lt _ (by decide)
      have hr : z.tmod 10 = -((m % 10 : Nat) : Int) := by rw [hzm.out, Int.neg_tmod, Int.tmod_eq_emod_of_nonneg (by omega)]; rfl
      have hq : z.tdiv 10 = -((m / 10 : Nat) : Int) := by rw [hzm.out, Int.neg_tdiv, Int.tdiv_eq_ediv_of_nonneg (by omega)]; rfl
      have HS := Hid.of (hI.out.1.step hx)
      have HW := Hid.of (show (back.length = 0 → 2 * (m / 10) < 2 * m + 1) ∧ (back.length ≠ 0 → 2 * (m / 10) < 2 * m) from ⟨fun _ => by omega, fun hb => by
        rcases hx with h | h
        · subst h; simp at hb
        · omega⟩)
      have HMZ := Hid.of (show z.natAbs = m by have := hzm.out; omega)
      have hzb : (m / 10 : Nat) ≤ 922337203685477580 := by have := hzm.out; omega
      obtain ⟨x, hxx⟩ : ∃ x : UInt8, x = UInt8.ofNat (48 + m % 10) := ⟨_, rfl⟩
      have hxn : 48 + ((m % 10 : Nat) : Int) = (x.toNat : Int) := by rw [hxx, dig_toNat hd]; omega
      rw [← hxx] at HS
      clear hxx
      have hxl : x.toNat < 256 := x.toNat_lt
      have hcond : ((back.length : Int) == 0) = true ∨ (((back.length : Int) == 0) = false ∧ (z != 0) = true) := by
        by_cases hb : back = []
        · left; subst hb; rfl
        · right
          have : 0 < back.length := List.length_pos_iff.2 hb
          have hm := hx.resolve_left hb
          have := hzm.out
          refine ⟨?_, ?_⟩
          · simp; omega
          · simp; omega
      clear hx hzm
      generalize m % 10 = d at *
      generalize m / 10 = m' at *
      rcases hcond with hc1 | ⟨hc1, hc2⟩
      ·
        go_wp2_with (with_reducible show wpList _ _ _ ({ dst := _, op := Op.call { callee := Callee.builtin Builtin.append, args := _, argTypes := _ }, type := _, pos := _, after := _, guard := _ } :: _) _ _; refine Shut.out ?_)
        show wpList _ _ _ _ _ _

        refine wpList_app1 rfl _ _ rfl w.heap.size _ back [x] rfl (by exact hI.out.2.1) 1 rfl (by simp; omega) hI.out.2.2.size ?_
        intro v' w2 h2 b2
        have H2 := Hid.of (And.intro h2 (hI.out.2.2.step (Nat.le_refl _) b2))
        clear h2 b2
        simp only [Act.put, List.setIfInBounds_toArray, List.set_cons_zero, List.set_cons_succ]
        go_wp2
        go_roundw
        case rel => exact ⟨-(m' : Int), m', back ++ [x], rfl, by omega, by omega, by obtain ⟨_, _, e⟩ := H2.out.1.len; rw [e]; rfl, rfl, HS.out, H2.out.1, H2.out.2⟩
        case measure =>
          have hv : ∃ aa cc, v' = .slice aa (back ++ [x]).length cc := H2.out.1.len
          obtain ⟨aa, cc, rfl⟩ := hv
          simp only [intOf, slenR, HMZ.out, List.length_append, List.length_cons, List.length_nil]
          by_cases hb : back.length = 0
          · have := HW.out.1 hb; omega
          · have := HW.out.2 hb; omega
      ·
        go_wp2_with (with_reducible show wpList _ _ _ ({ dst := _, op := Op.call { callee := Callee.builtin Builtin.append, args := _, argTypes := _ }, type := _, pos := _, after := _, guard := _ } :: _) _ _; refine Shut.out ?_)
        show wpList _ _ _ _ _ _

        refine wpList_app1 rfl _ _ rfl w.heap.size _ back [x] rfl (by exact hI.out.2.1) 1 rfl (by simp; omega) hI.out.2.2.size ?_
        intro v' w2 h2 b2
        have H2 := Hid.of (And.intro h2 (hI.out.2.2.step (Nat.le_refl _) b2))
        clear h2 b2
        simp only [Act.put, List.setIfInBounds_toArray, List.set_cons_zero, List.set_cons_succ]
        go_wp2
        go_roundw
        case rel => exact ⟨-(m' : Int), m', back ++ [x], rfl, by omega, by omega, by obtain ⟨_, _, e⟩ := H2.out.1.len; rw [e]; rfl, rfl, HS.out, H2.out.1, H2.out.2⟩
        case measure =>
          have hv : ∃ aa cc, v' = .slice aa (back ++ [x]).length cc := H2.out.1.len
          obtain ⟨aa, cc, rfl⟩ := hv
          simp only [intOf, slenR, HMZ.out, List.length_append, List.length_cons, List.length_nil]
          by_cases hb : back.length = 0
          · have := HW.out.1 hb; omega
          · have := HW.out.2 hb; omega
    · have hx1 : back ≠ [] := fun h => hx (.inl h)
      have hx2 : m = 0 := by
        rcases Nat.eq_zero_or_pos m with h | h
        · exact h
        · exact absurd (Or.inr (by omega)) hx
      subst hx2
      obtain rfl : z = 0 := by have := hzm.out; omega
      have HD := Hid.of (hI.out.1.end' hx1)
      have hp : 0 < back.length := List.length_pos_iff.2 hx1
      have hc1 : ((back.length : Int) == 0) = false := by simp; omega
      clear hx hx1 hzm
      obtain ⟨ab, cb', esl, hcap, hcel⟩ := hI.out.2.1.sl
      cases esl
      obtain ⟨wb, hwb⟩ : ∃ wb, wb = wr := ⟨_, rfl⟩
      subst hwb
      rcases hcel with rfl | ⟨b, off, rfl, hb, hcel⟩
      · simp at hp
      go_wp2
      go_loopw [5, 6] (fun v5 v6 ws => ∃ i : Nat, v6 = .int .i64 ((i : Int) - 1) ∧ i ≤ back.length ∧ Hid (Own ws wb.heap.size v5 ((back.drop i).reverse) ∧ Below wb.heap.size wb ws)) (fun _ v6 _ => ((intOf v6) + 1).toNat)
      case atStart => exact ⟨back.length, by go_num, Nat.le_refl _, by rw [List.drop_length]; exact ⟨own_nil _ _, Below.refl _ _⟩⟩
      case round =>
        obtain ⟨ws, hws⟩ : ∃ ws, ws = wr := ⟨_, rfl⟩
        subst hws
        obtain ⟨i, rfl, hi, hI2⟩ := hrel
        by_cases hi0 : i = 0
        · subst hi0
          have hcv := conv_sl (Own.sl hI2.out.1)
          rw [List.drop_zero, ← HD.out] at hcv
          go_wp2
          go_ret
          rw [HE.out]
          exact ⟨rfl, hI.out.2.2.step hI.out.2.2.size hI2.out.2⟩
        · obtain ⟨k, rfl⟩ : ∃ k, i = k + 1 := ⟨i - 1, by omega⟩
          have hk : k < back.length := by omega
          have hcx : ws.cell? ⟨b, off + k, none⟩ = some (.int .u8 (back[k].toNat : Int)) := Up.cell hI2.out.2 (hcel k hk)
          have HV := Hid.of (rev_take hk)
          have ek : (((k + 1 : Nat) : Int) - 1) = (k : Int) := by omega
          rw [ek]
          clear hi0 ek
          generalize back[k] = x at *
          go_wp2_with (with_reducible show wpList _ _ _ ({ dst := _, op := Op.call { callee := Callee.builtin Builtin.append, args := _, argTypes := _ }, type := _, pos := _, after := _, guard := _ } :: _) _ _; refine Shut.out ?_)
          show wpList _ _ _ _ _ _
          refine wpList_app1 rfl _ _ rfl wb.heap.size _ ((back.drop (k + 1)).reverse) [x] rfl (by exact hI2.out.1) 1 rfl (by simp; omega) hI2.out.2.size ?_
          intro v' w3 h3 b3
          have H3 := Hid.of (And.intro h3 (hI2.out.2.trans b3))
          clear h3 b3
          simp only [Act.put, List.setIfInBounds_toArray, List.set_cons_zero, List.set_cons_succ]
          go_wp2
          go_roundw
          case rel => exact ⟨k, by go_num, by omega, by have := H3.out; rwa [HV.out] at this⟩
          case measure => simp [intOf]

set_option maxRecDepth 100000 in
set_option maxHeartbeats 1000000 in
theorem RFormat_neg (n : Int) (h0 : -9223372036854775808 ≤ n) (h1 : n ≤ 9223372036854775807) (hn : n < 0) (w : World) :
    Calls Tryz.prog 18 #[.int .i64 n] w fun e w' => e = .returned (vs (Go.Lib.itoa n)) ∧ Up w w' := by
  obtain ⟨M, hM⟩ : ∃ M : Nat, M = n.natAbs := ⟨_, rfl⟩
  have HE := Hid.of (show Go.Lib.itoa n = 45 :: Go.Lib.decDigits M by rw [hM]; exact if_pos hn)
  have hMb : M ≤ 9223372036854775808 := by omega
  have HM := Hid.of (show n = -(M : Int) by omega)
  have hnn : ¬ 0 < n := by omega
  clear hM
  go_enter Tryz.func18, Tryz.ntmps18
  go_wp2
  go_loopw [3, 4] (fun v3 v4 wr => ∃ (z : Int) (m : Nat) (back : List UInt8), v3 = .int .i64 z ∧ -9223372036854775808 ≤ z ∧ z ≤ 0 ∧ slenR v4 = back.length ∧ Hid (z = -(m : Int)) ∧ Hid (JF M m back ∧ Own wr w.heap.size v4 back ∧ Up w wr)) (fun v3 v4 _ => 2 * (intOf v3).natAbs + (1 - slenR v4))
  case atStart => exact ⟨n, M, [], rfl, by omega, by omega, rfl, HM.out, .inr ⟨.inl rfl, by simp⟩, own_nil _ _, Up.refl _⟩
  case round =>
    obtain ⟨z, m, back, rfl, hz0, hz1, hsl, hzm, hI⟩ := hrel
    obtain ⟨a4, c4, rfl⟩ := hI.out.2.1.len
    have hlen : back.length ≤ 20 := Nat.le_trans hI.out.1.len (dig_len hMb)
    clear hsl
    by_cases hx : back = [] ∨ m ≠ 0
    · have hd : m % 10 < 10 := Nat.mod_lt _ (by decide)
      have hr : z.tmod 10 = -((m % 10 : Nat) : Int) := by rw [hzm.out, Int.neg_tmod, Int.tmod_eq_emod_of_nonneg (by omega)]; rfl
      have hq : z.tdiv 10 = -((m / 10 : Nat) : Int) := by rw [hzm.out, Int.neg_tdiv, Int.tdiv_eq_ediv_of_nonneg (by omega)]; rfl
      have HS := Hid.of (hI.out.1.step hx)
      have HW := Hid.of (show (back.length = 0 → 2 * (m / 10) < 2 * m + 1) ∧ (back.length ≠ 0 → 2 * (m / 10) < 2 * m) from ⟨fun _ => by omega, fun hb => by
        rcases hx with h | h
        · subst h; simp at hb
        · omega⟩)
      have HMZ := Hid.of (show z.natAbs = m by have := hzm.out; omega)
      have hzb : (m / 10 : Nat) ≤ 922337203685477580 := by have := hzm.out; omega
      obtain ⟨x, hxx⟩ : ∃ x : UInt8, x = UInt8.ofNat (48 + m % 10) := ⟨_, rfl⟩
      have hxn : 48 + ((m % 10 : Nat) : Int) = (x.toNat : Int) := by rw [hxx, dig_toNat hd]; omega
      rw [← hxx] at HS
      clear hxx
      have hxl : x.toNat < 256 := x.toNat_lt
      have hcond : ((back.length : Int) == 0) = true ∨ (((back.length : Int) == 0) = false ∧ (z != 0) = true) := by
        by_cases hb : back = []
        · left; subst hb; rfl
        · right
          have : 0 < back.length := List.length_pos_iff.2 hb
          have hm := hx.resolve_left hb
          have := hzm.out
          refine ⟨?_, ?_⟩
          · simp; omega
          · simp; omega
      clear hx hzm
      generalize m % 10 = d at *
      generalize m / 10 = m' at *
      rcases hcond with hc1 | ⟨hc1, hc2⟩
      ·
        go_wp2_with (with_reducible show wpList _ _ _ ({ dst := _, op := Op.call { callee := Callee.builtin Builtin.append, args := _, argTypes := _ }, type := _, pos := _, after := _, guard := _ } :: _) _ _; refine Shut.out ?_)
        show wpList _ _ _ _ _ _

        refine wpList_app1 rfl _ _ rfl w.heap.size _ back [x] rfl (by exact hI.out.2.1) 1 rfl (by simp; omega) hI.out.2.2.size ?_
        intro v' w2 h2 b2
        have H2 := Hid.of (And.intro h2 (hI.out.2.2.step (Nat.le_refl _) b2))
        clear h2 b2
        simp only [Act.put, List.setIfInBounds_toArray, List.set_cons_zero, List.set_cons_succ]
        go_wp2
        go_roundw
        case rel => exact ⟨-(m' : Int), m', back ++ [x], rfl, by omega, by omega, by obtain ⟨_, _, e⟩ := H2.out.1.len; rw [e]; rfl, rfl, HS.out, H2.out.1, H2.out.2⟩
        case measure =>
          have hv : ∃ aa cc, v' = .slice aa (back ++ [x]).length cc := H2.out.1.len
          obtain ⟨aa, cc, rfl⟩ := hv
          simp only [intOf, slenR, HMZ.out, List.length_append, List.length_cons, List.length_nil]
          by_cases hb : back.length = 0
          · have := HW.out.1 hb; omega
          · have := HW.out.2 hb; omega
      ·
        go_wp2_with (with_reducible show wpList _ _ _ ({ dst := _, op := Op.call { callee := Callee.builtin Builtin.append, args := _, argTypes := _ }, type := _, pos := _, after := _, guard := _ } :: _) _ _; refine Shut.out ?_)
        show wpList _ _ _ _ _ _

        refine wpList_app1 rfl _ _ rfl w.heap.size _ back [x] rfl (by exact hI.out.2.1) 1 rfl (by simp; omega) hI.out.2.2.size ?_
        intro v' w2 h2 b2
        have H2 := Hid.of (And.intro h2 (hI.out.2.2.step (Nat.le_refl _) b2))
        clear h2 b2
        simp only [Act.put, List.setIfInBounds_toArray, List.set_cons_zero, List.set_cons_succ]
        go_wp2
        go_roundw
        case rel => exact ⟨-(m' : Int), m', back ++ [x], rfl, by omega, by omega, by obtain ⟨_, _, e⟩ := H2.out.1.len; rw [e]; rfl, rfl, HS.out, H2.out.1, H2.out.2⟩
        case measure =>
          have hv : ∃ aa cc, v' = .slice aa (back ++ [x]).length cc := H2.out.1.len
          obtain ⟨aa, cc, rfl⟩ := hv
          simp only [intOf, slenR, HMZ.out, List.length_append, List.length_cons, List.length_nil]
          by_cases hb : back.length = 0
          · have := HW.out.1 hb; omega
          · have := HW.out.2 hb; omega
    · have hx1 : back ≠ [] := fun h => hx (.inl h)
      have hx2 : m = 0 := by
        rcases Nat.eq_zero_or_pos m with h | h
        · exact h
        · exact absurd (Or.inr (by omega)) hx
      subst hx2
      obtain rfl : z = 0 := by have := hzm.out; omega
      have HD := Hid.of (hI.out.1.end' hx1)
      have hp : 0 < back.length := List.length_pos_iff.2 hx1
      have hc1 : ((back.length : Int) == 0) = false := by simp; omega
      clear hx hx1 hzm
      obtain ⟨ab, cb', esl, hcap, hcel⟩ := hI.out.2.1.sl
      cases esl
      obtain ⟨wb, hwb⟩ : ∃ wb, wb = wr := ⟨_, rfl⟩
      subst hwb
      rcases hcel with rfl | ⟨b, off, rfl, hb, hcel⟩
      · simp at hp
      go_wp2_with (with_reducible show wpList _ _ _ ({ dst := _, op := Op.call { callee := Callee.builtin Builtin.append, args := _, argTypes := _ }, type := _, pos := _, after := _, guard := _ } :: _) _ _; refine Shut.out ?_)
      show wpList _ _ _ _ _ _
      refine wpList_app1 rfl _ _ rfl wb.heap.size _ [] [45] rfl (by exact own_nil _ _) 1 rfl (by decide) (Nat.le_refl _) ?_
      intro v5 w5 h5 b5
      simp only [Act.put, List.setIfInBounds_toArray, List.set_cons_zero, List.set_cons_succ]
      have H5 := Hid.of (And.intro h5 b5)
      clear h5 b5
      go_wp2
      go_loopw [5, 6] (fun v5 v6 ws => ∃ i : Nat, v6 = .int .i64 ((i : Int) - 1) ∧ i ≤ back.length ∧ Hid (Own ws wb.heap.size v5 (45 :: (back.drop i).reverse) ∧ Below wb.heap.size wb ws)) (fun _ v6 _ => ((intOf v6) + 1).toNat)
      case atStart => exact ⟨back.length, by go_num, Nat.le_refl _, by rw [List.drop_length]; exact ⟨H5.out.1, H5.out.2⟩⟩
      case round =>
        obtain ⟨ws, hws⟩ : ∃ ws, ws = wr := ⟨_, rfl⟩
        subst hws
        obtain ⟨i, rfl, hi, hI2⟩ := hrel
        by_cases hi0 : i = 0
        · subst hi0
          have hcv := conv_sl (Own.sl hI2.out.1)
          rw [List.drop_zero, ← HD.out] at hcv
          go_wp2
          go_ret
          rw [HE.out]
          exact ⟨rfl, hI.out.2.2.step hI.out.2.2.size hI2.out.2⟩
        · obtain ⟨k, rfl⟩ : ∃ k, i = k + 1 := ⟨i - 1, by omega⟩
          have hk : k < back.length := by omega
          have hcx : ws.cell? ⟨b, off + k, none⟩ = some (.int .u8 (back[k].toNat : Int)) := Up.cell hI2.out.2 (hcel k hk)
          have HV := Hid.of (rev_take hk)
          have ek : (((k + 1 : Nat) : Int) - 1) = (k : Int) := by omega
          rw [ek]
          clear hi0 ek
          generalize back[k] = x at *
          go_wp2_with (with_reducible show wpList _ _ _ ({ dst := _, op := Op.call { callee := Callee.builtin Builtin.append, args := _, argTypes := _ }, type := _, pos := _, after := _, guard := _ } :: _) _ _; refine Shut.out ?_)
          show wpList _ _ _ _ _ _
          refine wpList_app1 rfl _ _ rfl wb.heap.size _ (45 :: (back.drop (k + 1)).reverse) [x] rfl (by exact hI2.out.1) 1 rfl (by simp; omega) hI2.out.2.size ?_
          intro v' w3 h3 b3
          have H3 := Hid.of (And.intro h3 (hI2.out.2.trans b3))
          clear h3 b3
          simp only [Act.put, List.setIfInBounds_toArray, List.set_cons_zero, List.set_cons_succ]
          go_wp2
          go_roundw
          case rel => exact ⟨k, by go_num, by omega, by have := H3.out; rwa [List.cons_append, HV.out] at this⟩
          case measure => simp [intOf]

theorem RFormat_walk (n : Int) (h0 : -9223372036854775808 ≤ n) (h1 : n ≤ 9223372036854775807) (w : World) :
    Calls Tryz.prog 18 #[.int .i64 n] w fun e w' => e = .returned (vs (Go.Lib.itoa n)) ∧ Up w w' := by
  by_cases hp : 0 < n
  · exact RFormat_pos n h0 h1 hp w
  · by_cases hz : n = 0
    · exact RFormat_zer n h0 h1 hz w
    · exact RFormat_neg n h0 h1 (by omega) w
end Go.Proofs.YtaobnnlcfefodaaGreatDoor
namespace TextNum
theorem nvf_lt : ∀ (l m : List UInt8) (a b : Nat), l.all isD = true → l.length = m.length → a < b → nvf a l < nvf b m
  | [], [], _, _, _, _, h => h
  | [], _ :: _, _, _, _, h, _ => by simp at h
  | _ :: _, [], _, _, _, h, _ => by simp at h
  | c :: l, d :: m, a, b, hl, hn, h => by
    rw [nvf_cons, nvf_cons]
    simp only [List.all_cons, Bool.and_eq_true] at hl
    have := isD_iff.1 hl.1
    exact nvf_lt l m _ _ hl.2 (by simpa using hn) (by omega)
theorem nvf_lt2 : ∀ (r m : List UInt8) (a : Nat), m.all isD = true → m.length ≤ r.length → 1 ≤ a → nvf 0 m < nvf a r
  | [], m, a, hm, h, ha => by
    obtain rfl : m = [] := List.eq_nil_of_length_eq_zero (by simpa using h)
    exact ha
  | x :: r, m, a, hm, h, ha => by
    rcases Nat.lt_or_ge m.length (x :: r).length with h1 | h1
    · rw [nvf_cons]
      exact nvf_lt2 r m _ hm (by simp at h1; omega) (by omega)
    · exact nvf_lt m (x :: r) 0 a hm (by omega) (by omega)
theorem nv_longer {l m : List UInt8} (hl : isN l = true) (hm : m.all isD = true) (h : m.length < l.length) (h1 : 1 ≤ m.length) : nv m < nv l := by
  obtain ⟨c, r, rfl, hc⟩ := isN_cons hl
  have hc' := isD_iff.1 hc
  have hh : c ≠ 48 := by
    simp only [isN, Bool.and_eq_true, Bool.or_eq_true, decide_eq_true_eq] at hl
    rcases hl.2 with h2 | h2
    · omega
    · simpa using h2.2
  have h3 : c.toNat ≠ 48 := fun e => hh (by apply UInt8.toNat_inj.1; simpa using e)
  show nvf 0 m < nvf 0 (c :: r)
  rw [nvf_cons]
  exact nvf_lt2 r m _ hm (by simp at h; omega) (by omega)
theorem less_nv : ∀ (l m : List UInt8) (a : Nat), l.all isD = true → m.all isD = true → l.length = m.length → Go.Op.bytesLess l m = decide (nvf a l < nvf a m)
  | [], [], a, _, _, _ => by simp [Go.Op.bytesLess]
  | [], _ :: _, _, _, _, h => by simp at h
  | _ :: _, [], _, _, _, h => by simp at h
  | c :: l, d :: m, a, hl, hm, hn => by
    rw [nvf_cons, nvf_cons, Go.Op.bytesLess]
    simp only [List.all_cons, Bool.and_eq_true] at hl hm
    have h1 := isD_iff.1 hl.1
    have h2 := isD_iff.1 hm.1
    have hn' : l.length = m.length := by simpa using hn
    rcases Nat.lt_trichotomy c.toNat d.toNat with h | h | h
    · have e1 : decide (c < d) = true := by simpa using UInt8.lt_iff_toNat_lt.2 h
      rw [e1, Bool.true_or, decide_eq_true (nvf_lt l m _ _ hl.2 hn' (by omega))]
    · obtain rfl : c = d := UInt8.toNat_inj.1 h
      rw [less_nv l m (10 * a + (c.toNat - 48)) hl.2 hm.2 hn']
      simp
    · have e1 : decide (c < d) = false := by simp only [decide_eq_false_iff_not, UInt8.lt_iff_toNat_lt]; omega
      have e2 : (c == d) = false := by simp; intro e; subst e; omega
      have := nvf_lt m l _ _ hm.2 hn'.symm (show 10 * a + (d.toNat - 48) < 10 * a + (c.toNat - 48) by omega)
      rw [e1, e2, Bool.false_and, Bool.or_false, decide_eq_false (by omega)]
theorem nv_inj {l m : List UInt8} (hl : isN l = true) (hm : isN m = true) (h : nv l = nv m) : l = m := by rw [← dec_nv l hl, ← dec_nv m hm, h]
theorem isN_all {l : List UInt8} (h : isN l = true) : l.all isD = true := by simp only [isN, Bool.and_eq_true] at h; exact h.1
theorem isN_len {l : List UInt8} (h : isN l = true) : 1 ≤ l.length := by obtain ⟨c, r, rfl, _⟩ := isN_cons h; simp
/-- the greater one, as the reference tells it -/
theorem more_nv {l m : List UInt8} (hl : isN l = true) (hm : isN m = true) (hn : l.length = m.length) : (!Go.Op.bytesLess l m && !(l == m)) = decide (nv m < nv l) := by
  rw [less_nv l m 0 (isN_all hl) (isN_all hm) hn]
  show (!decide (nv l < nv m) && !(l == m)) = decide (nv m < nv l)
  rcases Nat.lt_trichotomy (nv l) (nv m) with h | h | h
  · rw [decide_eq_true h, decide_eq_false (by omega)]; rfl
  · rw [nv_inj hl hm h]; simp
  · have : (l == m) = false := by simp; intro e; subst e; omega
    rw [decide_eq_false (by omega), this, decide_eq_true h]; rfl
theorem nv_take (l : List UInt8) (i : Nat) : nv (l.take i) ≤ nv l := by
  have : nv l = nvf (nv (l.take i)) (l.drop i) := by
    conv => lhs; rw [← List.take_append_drop i l]
    simp only [nv, nvf, List.foldl_append]
  rw [this]
  exact nvf_le _ _
end TextNum
namespace Go.Proofs.YtaobnnlcfefodaaGreatDoor
open Go.RowKit TextNum

set_option maxRecDepth 100000 in
set_option maxHeartbeats 1000000 in
theorem RParse_walk (s : ByteArray) (max : Int) (h0 : -9223372036854775808 ≤ max) (h1 : max ≤ 9223372036854775807) (w : World) :
    Calls Tryz.prog 25 #[.string s, .int .i64 max] w fun e w' => e = .returned (.tuple #[.int .i64 (prs s.data.toList max).1, .int .i64 (prs s.data.toList max).2]) ∧ Up w w' := by
  have HS := Hid.of (Go.Lib.size_eq s)
  go_enter Tryz.func25, Tryz.ntmps25
  by_cases hl : 1048576 < s.size
  · have d1 : (1048576 : Int) < (s.size : Int) := by omega
    go_wp2
    go_ret2
    rw [prs_long (by rw [← HS.out]; exact hl)]
    exact ⟨rfl, Up.refl _⟩
  · have d1 : ¬ (1048576 : Int) < (s.size : Int) := by omega
    have hle : s.size ≤ 1048576 := by omega
    have HN := Hid.of (show ¬ 1048576 < s.data.toList.length by rw [← HS.out]; exact hl)
    clear hl
    by_cases he : s.size = 0
    · have hs : s = ⟨#[]⟩ := by
        obtain ⟨d⟩ := s
        have : d.size = 0 := he
        rw [Array.size_eq_zero_iff] at this
        subst this; rfl
      subst hs
      have HF := Hid.of (show prs (⟨#[]⟩ : ByteArray).data.toList max = (0, 62) from prs_no HN.out (by rfl))
      go_wp2
      go_ret2
      rw [HF.out]
      exact ⟨rfl, Up.refl _⟩
    · have hne : s.toList.isEmpty = false := by
        rw [Go.Lib.toList_data]
        cases hh : s.data.toList with
        | nil => rw [Go.Lib.size_eq, hh] at he; simp at he
        | cons a b => rfl
      go_wp2
      go_loop [6] (fun v6 => ∃ i : Nat, v6 = .int .i64 (i : Int) ∧ i ≤ s.size ∧ Hid ((s.data.toList.take i).all isD = true)) (fun v6 => s.size - (intOf v6).toNat)
      case atStart => exact ⟨0, rfl, by omega, Hid.of (by simp)⟩
      case round =>
        obtain ⟨i, rfl, hi, hI⟩ := hrel
        by_cases hlt : i < s.size
        · have hlt' : (i : Int) < (s.size : Int) := by omega
          have ht : s.data.toList.take (i + 1) = s.data.toList.take i ++ [s[i]] := by rw [sget' s i hlt]; exact take_succ0 (by rw [← HS.out]; exact hlt)
          by_cases hd : isD s[i] = true
          · have hd' := isD_iff.1 hd
            have HN' := Hid.of (show (s.data.toList.take (i + 1)).all isD = true by rw [ht, List.all_append, hI.out]; simp [hd])
            have b1 : ¬ (s[i].toNat : Int) < 48 := by omega
            have b2 : decide ((s[i].toNat : Int) < 48) = false := by simp; omega
            have b3 : decide ((57 : Int) < (s[i].toNat : Int)) = false := by simp; omega
            clear ht hd hd'
            go_wp2
            go_round
            case rel => exact ⟨i + 1, by go_num, by omega, HN'⟩
            case measure => simp [intOf]; omega
          · have hf : isN s.data.toList = false := by
              unfold isN
              have hno : s.data.toList.all isD = false := by
                rw [List.all_eq_false]
                refine ⟨s[i], ?_, hd⟩
                rw [sget' s i hlt]
                exact List.getElem_mem (by rw [← HS.out]; exact hlt)
              rw [hno]; rfl
            have HF := Hid.of (prs_no (max := max) HN.out hf)
            have hd' : s[i].toNat < 48 ∨ 57 < s[i].toNat := by
              rw [isD_iff] at hd; omega
            clear hd hf ht
            rcases hd' with hd' | hd'
            · have b2 : (s[i].toNat : Int) < 48 := by omega
              go_wp2
              go_ret2
              rw [HF.out]
              exact ⟨rfl, Up.refl _⟩
            · have b2 : decide ((s[i].toNat : Int) < 48) = false := by simp; omega
              have b3 : (57 : Int) < (s[i].toNat : Int) := by omega
              go_wp2
              go_ret2
              rw [HF.out]
              exact ⟨rfl, Up.refl _⟩
        · have hie : i = s.size := by omega
          have hall : s.data.toList.all isD = true := by have := hI.out; rwa [hie, HS.out, List.take_length] at this
          have hN : isN s.data.toList = (decide (s.size = 1) || (decide (1 < s.size) && decide (s.data.toList.head? ≠ some 48))) := by
            unfold isN; rw [hall, Bool.true_and, ← Go.Lib.size_eq]
          have HN2 := Hid.of hN
          have HA := Hid.of hall
          clear hN hall hI
          have hp0 : 0 < s.size := by omega
          obtain ⟨r, hr⟩ := head_of' (s := s) hp0
          by_cases hz : s[0].toNat = 48 ∧ 1 < s.size
          · have b1 : (s[0].toNat : Int) = 48 := by omega
            have b1' : ((s[0].toNat : Int) == 48) = true := by simp; omega
            have b2 : (1 : Int) < (s.size : Int) := by omega
            have hz0 : s[0] = 48 := by apply UInt8.toNat_inj.1; rw [hz.1]; rfl
            have HF := Hid.of (prs_no (max := max) HN.out (by rw [HN2.out, hr, hz0]; simp; omega))
            clear hz hr hz0
            go_wp2
            go_ret2
            rw [HF.out]
            exact ⟨rfl, Up.refl _⟩
          · have hisN : isN s.data.toList = true := by
              rw [HN2.out, hr]
              by_cases h1 : s.size = 1
              · simp [h1]
              · have h2 : 1 < s.size := by omega
                have h3 : s[0] ≠ 48 := fun e => hz ⟨by rw [e]; rfl, h2⟩
                simp [h2, h3]
            have HI := Hid.of hisN
            have hzc : ((s[0].toNat : Int) == 48) = false ∨ (((s[0].toNat : Int) == 48) = true ∧ ¬ (1 : Int) < (s.size : Int)) := by
              by_cases h3 : s[0].toNat = 48
              · right; exact ⟨by simp; omega, by omega⟩
              · left; simp; omega
            have hltN : ¬ (i : Int) < (s.size : Int) := by omega
            clear hz hr hisN hie hlt
            by_cases hm : max < 0
            · have HF := Hid.of (prs_rng (max := max) HN.out HI.out (by omega))
              rcases hzc with q1 | ⟨q1, q2⟩
              · go_wp2
                go_ret2
                rw [HF.out]
                exact ⟨rfl, Up.refl _⟩
              · go_wp2
                go_ret2
                rw [HF.out]
                exact ⟨rfl, Up.refl _⟩
            · obtain ⟨M, hM⟩ : ∃ M : Nat, max = (M : Int) := ⟨max.toNat, by omega⟩
              have HM := Hid.of (show Go.Lib.itoa max = Go.Lib.decDigits M by rw [hM]; exact itoa_nat M)
              have HW := Hid.of (RFormat_walk max h0 h1 w)
              have HMM := Hid.of hM
              clear hM
              rcases hzc with q1 | ⟨q1, q2⟩
              ·
                go_wp2_with fail
                refine HW.out.mono ?_
                rintro e w1 ⟨rfl, hu⟩
                have H1 := Hid.of hu
                clear hu
                rw [HM.out]
                obtain ⟨sb, hsb⟩ : ∃ sb : ByteArray, sb = ⟨(Go.Lib.decDigits M).toArray⟩ := ⟨_, rfl⟩
                rw [show vs (Go.Lib.decDigits M) = .string sb by rw [hsb]]
                have hdb : sb.data.toList = Go.Lib.decDigits M := by rw [hsb]
                have HD := Hid.of hdb
                have hsz : sb.size ≤ 20 := by
                  rw [Go.Lib.size_eq, hdb]; exact dig_len (by have := HMM.out; omega)
                clear hsb hdb
                dsimp only
                have HNM := Hid.of (show nv sb.data.toList = M ∧ isN sb.data.toList = true by rw [HD.out]; exact ⟨nv_dec M, isN_dec M⟩)
                by_cases hov : sb.size < s.size
                · have o1 : (sb.size : Int) < (s.size : Int) := by omega
                  have HF := Hid.of (prs_rng (max := max) HN.out HI.out (by
                    have := nv_longer HI.out (isN_all HNM.out.2) (by rw [← Go.Lib.size_eq, ← Go.Lib.size_eq]; exact hov) (isN_len HNM.out.2)
                    rw [HNM.out.1] at this; have := HMM.out; omega))
                  go_wp2
                  go_ret2
                  rw [HF.out]
                  exact ⟨rfl, H1.out⟩
                · have o1 : decide ((sb.size : Int) < (s.size : Int)) = false := by simp; omega
                  have key : (((s.size : Int) == (sb.size : Int)) = false ∧ nv s.data.toList ≤ M) ∨ (((s.size : Int) == (sb.size : Int)) = true ∧ (!Op.bytesLess s.toList sb.toList && !(s.toList == sb.toList)) = decide (M < nv s.data.toList)) := by
                    by_cases heq : s.size = sb.size
                    · right
                      refine ⟨by simp; omega, ?_⟩
                      rw [Go.Lib.toList_data, Go.Lib.toList_data, more_nv HI.out HNM.out.2 (by rw [← Go.Lib.size_eq, ← Go.Lib.size_eq]; exact heq), HNM.out.1]
                    · left
                      refine ⟨by simp; omega, ?_⟩
                      have := nv_longer HNM.out.2 (isN_all HI.out) (by rw [← Go.Lib.size_eq, ← Go.Lib.size_eq]; omega) (isN_len HI.out)
                      rw [HNM.out.1] at this; omega
                  rcases key with ⟨k1, k2⟩ | ⟨k1, k2⟩
                  · have HB := Hid.of k2
                    clear k2
                    go_wp2
                    go_loop [8, 9] (fun v8 v9 => ∃ i : Nat, v9 = .int .i64 (i : Int) ∧ i ≤ s.size ∧ v8 = .int .i64 (nv (s.data.toList.take i) : Int)) (fun _ v9 => s.size - (intOf v9).toNat)
                    case atStart => exact ⟨0, rfl, by omega, rfl⟩
                    case round =>
                      obtain ⟨j, rfl, hj, rfl⟩ := hrel
                      by_cases hlt : j < s.size
                      · have hlt' : (j : Int) < (s.size : Int) := by omega
                        have ht : s.data.toList.take (j + 1) = s.data.toList.take j ++ [s[j]] := by rw [sget' s j hlt]; exact take_succ0 (by rw [← HS.out]; exact hlt)
                        have hd := isD_iff.1 (show isD s[j] = true from List.all_eq_true.1 HA.out _ (by rw [sget' s j hlt]; exact List.getElem_mem _))
                        have hnx : nv (s.data.toList.take (j + 1)) = 10 * nv (s.data.toList.take j) + (s[j].toNat - 48) := by rw [ht, nv_snoc]
                        have hnl := nv_take s.data.toList (j + 1)
                        have hbd : 10 * nv (s.data.toList.take j) + (s[j].toNat - 48) ≤ 9223372036854775807 := by
                          have := HB.out; have := HMM.out; omega
                        have HX := Hid.of hnx
                        clear ht hnx hnl
                        generalize hq : nv (s.data.toList.take j) = q at *
                        have b1 : (48 : Int) ≤ (s[j].toNat : Int) := by omega
                        have b2 : (s[j].toNat : Int) ≤ 57 := by omega
                        clear hq
                        go_wp2
                        go_round
                        case rel => exact ⟨j + 1, by go_num, by omega, by rw [HX.out]; go_num⟩
                        case measure => simp [intOf]; omega
                      · have hje : j = s.size := by omega
                        have hlt' : ¬ (j : Int) < (s.size : Int) := by omega
                        have HF := Hid.of (prs_ok (max := max) HN.out HI.out (by have := HB.out; have := HMM.out; omega) (by have := HB.out; have := HMM.out; omega))
                        have HT := Hid.of (show nv (s.data.toList.take j) = nv s.data.toList by rw [hje, HS.out, List.take_length])
                        clear hje
                        go_wp2
                        go_ret2
                        rw [HF.out, HT.out]
                        exact ⟨rfl, H1.out⟩
                  · cases hk : decide (M < nv s.data.toList) with
                    | true =>
                      have HF := Hid.of (prs_rng (max := max) HN.out HI.out (by have := of_decide_eq_true hk; have := HMM.out; omega))
                      rw [hk] at k2
                      clear hk
                      go_wp2
                      go_ret2
                      rw [HF.out]
                      exact ⟨rfl, H1.out⟩
                    | false =>
                      have HB := Hid.of (show nv s.data.toList ≤ M by have := of_decide_eq_false hk; omega)
                      rw [hk] at k2
                      clear hk
                      go_wp2
                      go_loop [8, 9] (fun v8 v9 => ∃ i : Nat, v9 = .int .i64 (i : Int) ∧ i ≤ s.size ∧ v8 = .int .i64 (nv (s.data.toList.take i) : Int)) (fun _ v9 => s.size - (intOf v9).toNat)
                      case atStart => exact ⟨0, rfl, by omega, rfl⟩
                      case round =>
                        obtain ⟨j, rfl, hj, rfl⟩ := hrel
                        by_cases hlt : j < s.size
                        · have hlt' : (j : Int) < (s.size : Int) := by omega
                          have ht : s.data.toList.take (j + 1) = s.data.toList.take j ++ [s[j]] := by rw [sget' s j hlt]; exact take_succ0 (by rw [← HS.out]; exact hlt)
                          have hd := isD_iff.1 (show isD s[j] = true from List.all_eq_true.1 HA.out _ (by rw [sget' s j hlt]; exact List.getElem_mem _))
                          have hnx : nv (s.data.toList.take (j + 1)) = 10 * nv (s.data.toList.take j) + (s[j].toNat - 48) := by rw [ht, nv_snoc]
                          have hnl := nv_take s.data.toList (j + 1)
                          have hbd : 10 * nv (s.data.toList.take j) + (s[j].toNat - 48) ≤ 9223372036854775807 := by
                            have := HB.out; have := HMM.out; omega
                          have HX := Hid.of hnx
                          clear ht hnx hnl
                          generalize hq : nv (s.data.toList.take j) = q at *
                          have b1 : (48 : Int) ≤ (s[j].toNat : Int) := by omega
                          have b2 : (s[j].toNat : Int) ≤ 57 := by omega
                          clear hq
                          go_wp2
                          go_round
                          case rel => exact ⟨j + 1, by go_num, by omega, by rw [HX.out]; go_num⟩
                          case measure => simp [intOf]; omega
                        · have hje : j = s.size := by omega
                          have hlt' : ¬ (j : Int) < (s.size : Int) := by omega
                          have HF := Hid.of (prs_ok (max := max) HN.out HI.out (by have := HB.out; have := HMM.out; omega) (by have := HB.out; have := HMM.out; omega))
                          have HT := Hid.of (show nv (s.data.toList.take j) = nv s.data.toList by rw [hje, HS.out, List.take_length])
                          clear hje
                          go_wp2
                          go_ret2
                          rw [HF.out, HT.out]
                          exact ⟨rfl, H1.out⟩
              ·
                go_wp2_with fail
                refine HW.out.mono ?_
                rintro e w1 ⟨rfl, hu⟩
                have H1 := Hid.of hu
                clear hu
                rw [HM.out]
                obtain ⟨sb, hsb⟩ : ∃ sb : ByteArray, sb = ⟨(Go.Lib.decDigits M).toArray⟩ := ⟨_, rfl⟩
                rw [show vs (Go.Lib.decDigits M) = .string sb by rw [hsb]]
                have hdb : sb.data.toList = Go.Lib.decDigits M := by rw [hsb]
                have HD := Hid.of hdb
                have hsz : sb.size ≤ 20 := by
                  rw [Go.Lib.size_eq, hdb]; exact dig_len (by have := HMM.out; omega)
                clear hsb hdb
                dsimp only
                have HNM := Hid.of (show nv sb.data.toList = M ∧ isN sb.data.toList = true by rw [HD.out]; exact ⟨nv_dec M, isN_dec M⟩)
                by_cases hov : sb.size < s.size
                · have o1 : (sb.size : Int) < (s.size : Int) := by omega
                  have HF := Hid.of (prs_rng (max := max) HN.out HI.out (by
                    have := nv_longer HI.out (isN_all HNM.out.2) (by rw [← Go.Lib.size_eq, ← Go.Lib.size_eq]; exact hov) (isN_len HNM.out.2)
                    rw [HNM.out.1] at this; have := HMM.out; omega))
                  go_wp2
                  go_ret2
                  rw [HF.out]
                  exact ⟨rfl, H1.out⟩
                · have o1 : decide ((sb.size : Int) < (s.size : Int)) = false := by simp; omega
                  have key : (((s.size : Int) == (sb.size : Int)) = false ∧ nv s.data.toList ≤ M) ∨ (((s.size : Int) == (sb.size : Int)) = true ∧ (!Op.bytesLess s.toList sb.toList && !(s.toList == sb.toList)) = decide (M < nv s.data.toList)) := by
                    by_cases heq : s.size = sb.size
                    · right
                      refine ⟨by simp; omega, ?_⟩
                      rw [Go.Lib.toList_data, Go.Lib.toList_data, more_nv HI.out HNM.out.2 (by rw [← Go.Lib.size_eq, ← Go.Lib.size_eq]; exact heq), HNM.out.1]
                    · left
                      refine ⟨by simp; omega, ?_⟩
                      have := nv_longer HNM.out.2 (isN_all HI.out) (by rw [← Go.Lib.size_eq, ← Go.Lib.size_eq]; omega) (isN_len HI.out)
                      rw [HNM.out.1] at this; omega
                  rcases key with ⟨k1, k2⟩ | ⟨k1, k2⟩
                  · have HB := Hid.of k2
                    clear k2
                    go_wp2
                    go_loop [8, 9] (fun v8 v9 => ∃ i : Nat, v9 = .int .i64 (i : Int) ∧ i ≤ s.size ∧ v8 = .int .i64 (nv (s.data.toList.take i) : Int)) (fun _ v9 => s.size - (intOf v9).toNat)
                    case atStart => exact ⟨0, rfl, by omega, rfl⟩
                    case round =>
                      obtain ⟨j, rfl, hj, rfl⟩ := hrel
                      by_cases hlt : j < s.size
                      · have hlt' : (j : Int) < (s.size : Int) := by omega
                        have ht : s.data.toList.take (j + 1) = s.data.toList.take j ++ [s[j]] := by rw [sget' s j hlt]; exact take_succ0 (by rw [← HS.out]; exact hlt)
                        have hd := isD_iff.1 (show isD s[j] = true from List.all_eq_true.1 HA.out _ (by rw [sget' s j hlt]; exact List.getElem_mem _))
                        have hnx : nv (s.data.toList.take (j + 1)) = 10 * nv (s.data.toList.take j) + (s[j].toNat - 48) := by rw [ht, nv_snoc]
                        have hnl := nv_take s.data.toList (j + 1)
                        have hbd : 10 * nv (s.data.toList.take j) + (s[j].toNat - 48) ≤ 9223372036854775807 := by
                          have := HB.out; have := HMM.out; omega
                        have HX := Hid.of hnx
                        clear ht hnx hnl
                        generalize hq : nv (s.data.toList.take j) = q at *
                        have b1 : (48 : Int) ≤ (s[j].toNat : Int) := by omega
                        have b2 : (s[j].toNat : Int) ≤ 57 := by omega
                        clear hq
                        go_wp2
                        go_round
                        case rel => exact ⟨j + 1, by go_num, by omega, by rw [HX.out]; go_num⟩
                        case measure => simp [intOf]; omega
                      · have hje : j = s.size := by omega
                        have hlt' : ¬ (j : Int) < (s.size : Int) := by omega
                        have HF := Hid.of (prs_ok (max := max) HN.out HI.out (by have := HB.out; have := HMM.out; omega) (by have := HB.out; have := HMM.out; omega))
                        have HT := Hid.of (show nv (s.data.toList.take j) = nv s.data.toList by rw [hje, HS.out, List.take_length])
                        clear hje
                        go_wp2
                        go_ret2
                        rw [HF.out, HT.out]
                        exact ⟨rfl, H1.out⟩
                  · cases hk : decide (M < nv s.data.toList) with
                    | true =>
                      have HF := Hid.of (prs_rng (max := max) HN.out HI.out (by have := of_decide_eq_true hk; have := HMM.out; omega))
                      rw [hk] at k2
                      clear hk
                      go_wp2
                      go_ret2
                      rw [HF.out]
                      exact ⟨rfl, H1.out⟩
                    | false =>
                      have HB := Hid.of (show nv s.data.toList ≤ M by have := of_decide_eq_false hk; omega)
                      rw [hk] at k2
                      clear hk
                      go_wp2
                      go_loop [8, 9] (fun v8 v9 => ∃ i : Nat, v9 = .int .i64 (i : Int) ∧ i ≤ s.size ∧ v8 = .int .i64 (nv (s.data.toList.take i) : Int)) (fun _ v9 => s.size - (intOf v9).toNat)
                      case atStart => exact ⟨0, rfl, by omega, rfl⟩
                      case round =>
                        obtain ⟨j, rfl, hj, rfl⟩ := hrel
                        by_cases hlt : j < s.size
                        · have hlt' : (j : Int) < (s.size : Int) := by omega
                          have ht : s.data.toList.take (j + 1) = s.data.toList.take j ++ [s[j]] := by rw [sget' s j hlt]; exact take_succ0 (by rw [← HS.out]; exact hlt)
                          have hd := isD_iff.1 (show isD s[j] = true from List.all_eq_true.1 HA.out _ (by rw [sget' s j hlt]; exact List.getElem_mem _))
                          have hnx : nv (s.data.toList.take (j + 1)) = 10 * nv (s.data.toList.take j) + (s[j].toNat - 48) := by rw [ht, nv_snoc]
                          have hnl := nv_take s.data.toList (j + 1)
                          have hbd : 10 * nv (s.data.toList.take j) + (s[j].toNat - 48) ≤ 9223372036854775807 := by
                            have := HB.out; have := HMM.out; omega
                          have HX := Hid.of hnx
                          clear ht hnx hnl
                          generalize hq : nv (s.data.toList.take j) = q at *
                          have b1 : (48 : Int) ≤ (s[j].toNat : Int) := by omega
                          have b2 : (s[j].toNat : Int) ≤ 57 := by omega
                          clear hq
                          go_wp2
                          go_round
                          case rel => exact ⟨j + 1, by go_num, by omega, by rw [HX.out]; go_num⟩
                          case measure => simp [intOf]; omega
                        · have hje : j = s.size := by omega
                          have hlt' : ¬ (j : Int) < (s.size : Int) := by omega
                          have HF := Hid.of (prs_ok (max := max) HN.out HI.out (by have := HB.out; have := HMM.out; omega) (by have := HB.out; have := HMM.out; omega))
                          have HT := Hid.of (show nv (s.data.toList.take j) = nv s.data.toList by rw [hje, HS.out, List.take_length])
                          clear hje
                          go_wp2
                          go_ret2
                          rw [HF.out, HT.out]
                          exact ⟨rfl, H1.out⟩
end Go.Proofs.YtaobnnlcfefodaaGreatDoor
