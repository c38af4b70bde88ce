import Derived.Test.YtbdmpdjhgjidlaaGreatDoorZb
import Derived.Test.YtbdmpdjhgjidlaaGreatDoorCt7
import Derived.RangeFuncBox
import Derived.RangeFuncNested
import Derived.RangeFuncBound
import Derived.RangeFuncCalls
import Derived.RangeFuncLeaves
import Derived.RangeFuncWrites
import Derived.OwnWalkIn
import Derived.TacticsInMore
import Derived.LoopNIn
import Derived.LoopIn
namespace Go.Proofs.YtbdmpdjhgjidlaaGreatDoor
section
open Go.RowKit Go.Shelf TextNum

theorem cutV_uniq {s : ByteArray} {r r' : Value} (h : cutV s r) (h' : cutV s r') : r = r' := by
  rcases h with ⟨rfl, hn⟩ | ⟨i, rfl, hs, _, hb, hl⟩
  · rcases h' with ⟨rfl, _⟩ | ⟨j, rfl, hs, _, hb, _⟩
    · rfl
    · rcases hn with hn | hn
      · omega
      · exact absurd hb (hn j)
  · rcases h' with ⟨rfl, hn⟩ | ⟨j, rfl, _, _, hb', hl'⟩
    · rcases hn with hn | hn
      · omega
      · exact absurd hb (hn i)
    · rcases Nat.lt_trichotomy i j with e | e | e
      · exact absurd hb' (hl j e)
      · subst e; rfl
      · exact absurd hb (hl' i e)
/-- the lines that Lines tells */ -/
def lnL (l : List UInt8) : List (List UInt8) := if lnE l = 0 then linesOf l else []
theorem lnL_yes {l : List UInt8} (h : lnE l = 0) : lnL l = linesOf l := if_pos h
theorem lnL_no {l : List UInt8} (h : ¬ lnE l = 0) : lnL l = [] := if_neg h
theorem last_at {s : ByteArray} (h : 0 < s.size) : s.data.toList.getLast? = some (s[s.size - 1]'(by omega)) := by
  rw [List.getLast?_eq_getElem?, ← Go.Lib.size_eq, List.getElem?_eq_getElem (by rw [← Go.Lib.size_eq]; omega), ← sget' s (s.size - 1) (by omega)]
set_option maxRecDepth 100000 in
set_option maxHeartbeats 1000000 in
theorem RLines_walk (s : ByteArray) (w : World) : Calls Tryz.prog 42 #[.string s] w fun e w' => ∃ v, e = .returned (.tuple #[v, .int .i64 (lnE s.data.toList)]) ∧ SlS w' v (lnL s.data.toList) ∧ Up w w' := by
  have HS := Hid.of (Go.Lib.size_eq s)
  go_enter Tryz.func42, Tryz.ntmps42
  by_cases h1 : 1048576 < s.size
  · have HE := Hid.of (show lnE s.data.toList = 2 from if_pos (by rw [← HS.out]; exact h1))
    have d1 : (1048576 : Int) < (s.size : Int) := by omega
    go_wp2
    go_ret2
    rw [lnL_no (by rw [HE.out]; decide), HE.out]
    exact ⟨_, rfl, slS_nil _, Up.refl _⟩
  have d1 : ¬ (1048576 : Int) < (s.size : Int) := by omega
  have hsl : ¬ 1048576 < s.data.toList.length := by rw [← HS.out]; exact h1
  have hP : pcs s = linesOf s.data.toList := if_neg h1
  by_cases h0 : s.size = 0
  · obtain rfl := szero h0
    have HE := Hid.of (show lnE (⟨#[]⟩ : ByteArray).data.toList = 0 by unfold lnE; rw [if_neg hsl, if_pos (.inl rfl)])
    have HP := Hid.of hP
    clear hP hsl h1 h0
    go_wp2_with fail
    refine (RPieces_walk ⟨#[]⟩ w).mono ?_
    rintro e w1 ⟨v, rfl, o1, u1⟩
    have H1 := Hid.of (And.intro o1.sl u1)
    clear o1 u1
    dsimp only
    go_wp2
    go_ret2
    rw [lnL_yes HE.out, HE.out, ← HP.out]
    exact ⟨_, rfl, H1.out.1, H1.out.2⟩
  · have hpos : 0 < s.size := by omega
    have e0 := eno h0
    have hla := last_at hpos
    have hix : (s.size : Int) - 1 = ((s.size - 1 : Nat) : Int) := by omega
    have hlt : s.size - 1 < s.size := by omega
    by_cases hd : s[s.size - 1] = 10
    · have hd' : ((s[s.size - 1].toNat : Int) == 10) = true := by rw [hd]; rfl
      have HE := Hid.of (show lnE s.data.toList = 0 by unfold lnE; rw [if_neg hsl, if_pos (.inr (by rw [hla, hd]))])
      have HP := Hid.of hP
      clear hP hsl h1 h0 hla hd
      obtain ⟨z, hz⟩ : ∃ z, s.size - 1 = z := ⟨_, rfl⟩
      simp only [hz] at hd' hix hlt
      go_wp2_with fail
      refine (RPieces_walk s w).mono ?_
      rintro e w1 ⟨v, rfl, o1, u1⟩
      have H1 := Hid.of (And.intro o1.sl u1)
      clear o1 u1
      dsimp only
      go_wp2
      go_ret2
      rw [lnL_yes HE.out, HE.out, ← HP.out]
      exact ⟨_, rfl, H1.out.1, H1.out.2⟩
    · have hd' : ((s[s.size - 1].toNat : Int) == 10) = false := by
        rw [show ((s[s.size - 1].toNat : Int) == 10) = (s[s.size - 1] == 10) from u8_eq (a := s[s.size - 1]) (b := 10)]
        simpa using hd
      have HE := Hid.of (show lnE s.data.toList = 64 by
        unfold lnE
        rw [if_neg hsl, if_neg]
        rintro (h | h)
        · rw [HS.out, h] at h0; simp at h0
        · rw [hla] at h; injection h with h; exact hd h)
      clear hP hsl h1 h0 hla hd
      obtain ⟨z, hz⟩ : ∃ z, s.size - 1 = z := ⟨_, rfl⟩
      simp only [hz] at hd' hix hlt
      go_wp2
      go_ret2
      rw [lnL_no (by rw [HE.out]; decide), HE.out]
      exact ⟨_, rfl, slS_nil _, Up.refl _⟩
set_option maxRecDepth 100000 in
set_option maxHeartbeats 1000000 in
theorem RCut_walk (s : ByteArray) (w : World) : Calls Tryz.prog 47 #[.string s] w fun e w' => ∃ r, e = .returned r ∧ cutV s r ∧ Up w w' := by
  have HS := Hid.of (Go.Lib.size_eq s)
  go_enter Tryz.func47, Tryz.ntmps47
  by_cases h1 : 1048576 < s.size
  · have d1 : (1048576 : Int) < (s.size : Int) := by omega
    go_wp2
    go_ret3
    exact ⟨_, rfl, .inl ⟨rfl, .inl h1⟩, Up.refl _⟩
  have d1 : ¬ (1048576 : Int) < (s.size : Int) := by omega
  have hs : s.size ≤ 1048576 := by omega
  clear h1
  go_wp2
  go_loop [5] (fun v5 => ∃ k : Nat, v5 = .int .i64 ((k : Int) - 2) ∧ k ≤ s.size ∧ Hid (∀ j, k ≤ j + 1 → ¬ bk s.data.toList j)) (fun v5 => (intOf v5 + 2).toNat)
  case atStart =>
    refine ⟨s.size, rfl, by omega, fun j hj hb => ?_⟩
    have := hb.2
    rw [List.getElem?_eq_none (by rw [← HS.out]; omega)] at this
    cases this
  case round =>
    obtain ⟨k, rfl, hk, hI⟩ := hrel
    by_cases hk2 : k < 2
    · have d2 : ¬ (0 : Int) ≤ (k : Int) - 2 := by omega
      go_wp2
      go_ret3
      refine ⟨_, rfl, .inl ⟨rfl, .inr fun j hb => ?_⟩, Up.refl _⟩
      by_cases h : k ≤ j + 1
      · exact hI.out j h hb
      · omega
    · obtain ⟨i, rfl⟩ : ∃ i, k = i + 2 := ⟨k - 2, by omega⟩
      have e0 : ((i + 2 : Nat) : Int) - 2 = (i : Int) := by omega
      have e1 : (0 : Int) ≤ (i : Int) := by omega
      have e2 : i < s.size := by omega
      have e3 : i + 1 < s.size := by omega
      rw [e0]
      clear e0 hk2
      have HB : Hid (bk s.data.toList i ↔ s[i] = 10 ∧ s[i + 1] = 10) := by
        unfold bk
        rw [List.getElem?_eq_getElem (by rw [← HS.out]; exact e2), List.getElem?_eq_getElem (by rw [← HS.out]; exact e3), ← sget' s i e2, ← sget' s (i + 1) e3]
        exact ⟨fun h => ⟨Option.some.inj h.1, Option.some.inj h.2⟩, fun h => ⟨by rw [h.1], by rw [h.2]⟩⟩
      have hq : ∀ x : UInt8, ((x.toNat : Int) == 10) = (x == 10) := fun x => u8_eq (a := x) (b := 10)
      by_cases ha : s[i] = 10
      · have ha' : ((s[i].toNat : Int) == 10) = true := by rw [hq]; simpa using ha
        by_cases hb : s[i + 1] = 10
        · have hb' : ((s[i + 1].toNat : Int) == 10) = true := by rw [hq]; simpa using hb
          have HX := Hid.of (HB.out.2 ⟨ha, hb⟩)
          have e4 : (i : Int) + 1 ≤ (s.size : Int) := by omega
          have e5 : (i : Int) + 2 ≤ (s.size : Int) := by omega
          clear HB ha hb hq
          go_wp2
          go_quiet (fail)
          go_wp2
          go_ret3
          exact ⟨_, rfl, .inr ⟨i, rfl, hs, e3, HX.out, fun j hj => hI.out j (by omega)⟩, (Up.refl _).drewN _⟩
        · have hb' : ((s[i + 1].toNat : Int) == 10) = false := by rw [hq]; simpa using hb
          have HN : Hid (∀ j, i + 1 ≤ j + 1 → ¬ bk s.data.toList j) := by
            intro j hj hbk
            by_cases e : j = i
            · subst e; exact hb (HB.out.1 hbk).2
            · exact hI.out j (by omega) hbk
          clear HB ha hb hq hI
          go_wp2
          go_round
          case rel => exact ⟨i + 1, by go_num, by omega, HN⟩
          case measure => simp [intOf]; omega
      · have ha' : ((s[i].toNat : Int) == 10) = false := by rw [hq]; simpa using ha
        have HN : Hid (∀ j, i + 1 ≤ j + 1 → ¬ bk s.data.toList j) := by
          intro j hj hbk
          by_cases e : j = i
          · subst e; exact ha (HB.out.1 hbk).1
          · exact hI.out j (by omega) hbk
        clear HB ha hq hI
        go_wp2
        go_round
        case rel => exact ⟨i + 1, by go_num, by omega, HN⟩
        case measure => simp [intOf]; omega
end
section
open Go.RowKit Go.Shelf TextNum
attribute [local go_sem] Oper.semAt_some
set_option maxRecDepth 100000 in
set_option maxHeartbeats 1000000 in
theorem each1_any (n : Nat) (hn : 1 ≤ n) (l Bs n₀ : Nat) (s : ByteArray) (J Jx : List (Nat × List UInt8) → World → Prop)
    (hA : ∀ xs W q, J xs W → J xs (World.drewN W q))
    (hY : ∀ pre x W, J pre W → pre.length < (pcs s).length → YieldAt Fence.wide (n - 1) Tryz.prog l #[.int .i64 ((x : Nat × List UInt8).1 : Int), .string ⟨x.2.toArray⟩] W fun e W' =>
      (e = .returned (.bool true) ∧ J (pre ++ [x]) W' ∧ Below n₀ W W') ∨ (e = .returned (.bool false) ∧ Jx (pre ++ [x]) W'))
    (W : World) (hBs : W.cell? ⟨Bs, 0, none⟩ = some (.string s)) (h0 : J [] W) :
    CallsIn Fence.wide n Tryz.prog 76 #[.func (.yield l) #[] #[], .pointer (some ⟨Bs, 0, none⟩)] W fun e W' => (∃ v, e = .returned v) ∧
      ((∃ ys, ys = ixs 0 (pcs s) ∧ J ys W') ∨ (∃ pre, (∃ r, ixs 0 (pcs s) = pre ++ r) ∧ Jx pre W')) := by
  by_cases hlong : 1048576 < s.size
  · have HP := Hid.of (show pcs s = [] from if_pos hlong)
    refine callsIn_of_wp Tryz.func76 rfl trivial ?_ rfl
    simp only [Tryz.ntmps76, List.size_toArray, List.length_cons, List.length_nil, Nat.reduceAdd, Nat.reduceSub, Array.replicate_succ, Array.replicate_zero, List.push_toArray, List.append_toArray, List.nil_append, List.cons_append]
    gi_wp2_with fail
    refine ⟨trivial, ?_⟩
    refine (callsIn_wide.2 (tooLongP_walk s W)).mono ?_
    rintro e w' ⟨rfl, hw⟩
    obtain rfl := hw.symm
    rw [decide_eq_true hlong]
    dsimp only
    gi_wp2
    refine bodyPost_ret (results_none rfl _ _ _) rfl ?_
    exact ⟨⟨_, rfl⟩, .inl (by rw [HP.out]; exact h0)⟩
  have hs : s.size ≤ 1048576 := by omega
  have hP : pcs s = linesOf s.data.toList := if_neg hlong
  rw [hP] at hY ⊢
  clear hP
  refine callsIn_of_wp Tryz.func76 rfl trivial ?_ rfl
  simp only [Tryz.ntmps76, List.size_toArray, List.length_cons, List.length_nil, Nat.reduceAdd, Nat.reduceSub, Array.replicate_succ, Array.replicate_zero, List.push_toArray, List.append_toArray, List.nil_append, List.cons_append]
  have HS := Hid.of hs
  gi_wp2_with fail
  refine ⟨trivial, ?_⟩
  refine (callsIn_wide.2 (tooLongP_walk s W)).mono ?_
  rintro e w' ⟨rfl, hw⟩
  obtain rfl := hw.symm
  rw [decide_eq_false hlong]
  clear hlong
  dsimp only
  gi_wp2
  gi_loopw [3, 4] (fun v3 v4 wr => ∃ (pre : List (Nat × List UInt8)) (r : List UInt8), v3 = .string ⟨r.toArray⟩ ∧ v4 = .int .i64 (pre.length : Int) ∧ Hid (ixs 0 (linesOf s.data.toList) = pre ++ ixs pre.length (linesOf r) ∧ r.length ≤ 1048576 ∧ pre.length + r.length ≤ 1048576 ∧ J pre wr))
    (fun v3 _ _ => szOf v3)
  case atStart =>
    refine ⟨[], s.data.toList, rfl, rfl, rfl, ?_, ?_, h0⟩
    · rw [← Go.Lib.size_eq]; exact HS.out
    · rw [← Go.Lib.size_eq]; simpa using HS.out
  case round =>
    obtain ⟨pre, r, rfl, rfl, hI⟩ := hrel
    by_cases hr : r = []
    · subst hr
      gi_wp2
      go_end0
      exact ⟨⟨_, rfl⟩, .inl ⟨pre, by have := hI.out.1; simpa [linesOf, lns, ixs] using this.symm, hI.out.2.2.2⟩⟩
    · have e0 : r.isEmpty = false := by
        cases r with
        | nil => exact absurd rfl hr
        | cons a b => rfl
      have HR := Hid.of (And.intro hr (tail_lt hr))
      clear hr
      gi_wp2_with fail
      refine ⟨trivial, ?_⟩
      refine (callsIn_wide.2 (Cut1_walk ⟨r.toArray⟩ (by rw [str_len]; exact hI.out.2.1) 10 wr)).mono ?_
      rintro e w2 ⟨rfl, q, rfl⟩
      dsimp only
      rw [(cut_ten r).1, (cut_ten r).2]
      have hcons := linesOf_cons HR.out.1
      have hlt2 := HR.out.2
      generalize r.takeWhile (· != 10) = a at *
      generalize (r.dropWhile (· != 10)).drop 1 = b at *
      have hix : ixs 0 (linesOf s.data.toList) = (pre ++ [(pre.length, a)]) ++ ixs (pre.length + 1) (linesOf b) := by
        rw [hI.out.1, hcons]; simp [ixs]
      have hple : pre.length < (linesOf s.data.toList).length := by
        have := congrArg List.length hix
        rw [ixs_len] at this
        rw [this]; simp
      obtain ⟨fn, tmps, assign, body, hy, hR⟩ := hY pre (pre.length, a) (World.drewN wr q) (hA _ _ _ hI.out.2.2.2) hple
      dsimp only at hy hR
      have HD := Hid.of (And.intro hix (And.intro hlt2 hI.out.2.2.1))
      have hwp : IntKind.i64.wrap ((pre.length : Int) + 1) = (pre.length : Int) + 1 := by
        have := hI.out.2.2.1
        simp only [IntKind.wrap, IntKind.signed, IntKind.bits]
        simp
        omega
      clear hix hlt2 hcons hple hI HR
      generalize hpl : pre.length = k at *
      have HPL := Hid.of hpl
      clear hpl
      gi_wp2
      refine hR.mono ?_
      rintro e W3 (⟨rfl, hJ3, hk3⟩ | ⟨rfl, hJx3⟩)
      · have HJ := Hid.of (And.intro hJ3 hk3)
        clear hJ3 hk3
        gi_wp2
        go_roundw
        case rel =>
          refine ⟨pre ++ [(k, a)], b, rfl, ?_, ?_, ?_, ?_, HJ.out.1⟩
          · simp [HPL.out]
          · rw [HD.out.1]; simp [HPL.out]
          · have := HD.out.2; omega
          · have := HD.out.2; have := HPL.out; simp; omega
        case measure => rw [szOf_str, szOf_str]; exact HD.out.2.1
      · have HJ := Hid.of hJx3
        clear hJx3
        gi_wp2
        refine bodyPost_ret (results_none rfl _ _ _) rfl ?_
        exact ⟨⟨_, rfl⟩, .inr ⟨_, ⟨_, HD.out.1⟩, HJ.out⟩⟩
theorem each_stops2 (n : Nat) (hn : 1 ≤ n) (Bs n₀ : Nat) (s : ByteArray) (w : World) (hB : Bs < w.heap.size) (hc : w.cell? ⟨Bs, 0, none⟩ = some (.string s)) :
    SeqStopsK Fence.wide n Tryz.prog 76 #[.pointer (some ⟨Bs, 0, none⟩)] (fun x : Nat × List UInt8 => #[Value.int .i64 (x.1 : Int), .string ⟨x.2.toArray⟩]) (Below n₀) (fun ys => ys = ixs 0 (pcs s)) (fun pre => ∃ r, ixs 0 (pcs s) = pre ++ r) (pcs s).length w := fun l J Jx W hW hA _ hY h0 =>
  each1_any n hn l Bs n₀ s J Jx (fun xs W' q hj => hA xs W' _ none hj ⟨rfl, rfl, rfl, Nat.le_refl _, fun _ _ _ => rfl⟩ (fun r e => by cases e)) hY W ((hW.cell (p := ⟨Bs, 0, none⟩) hB).trans hc) h0

theorem boxed_own {β : Type} (n b : Nat) (t : TypeId) (v : Value) : OwnFrom n (fun (_ : β) W => Boxed W b t v) := by
  intro s W W' row hs hg hr
  refine hs.kept hg ?_
  intro e
  obtain ⟨_, o, ho, hc⟩ := hr b e.symm
  rw [show W.heap[b]? = _ from hs] at ho
  cases ho
  cases hc
theorem ixs_at : ∀ (k : Nat) (xs : List (List UInt8)) (pre r : List (Nat × List UInt8)) (x : Nat × List UInt8), ixs k xs = pre ++ x :: r → x.1 = k + pre.length
  | k, [], pre, r, x, h => by simp [ixs] at h
  | k, y :: ys, [], r, x, h => by simp [ixs] at h; simp [← h.1]
  | k, y :: ys, p :: pre, r, x, h => by
    simp only [ixs, List.cons_append, List.cons.injEq] at h
    have := ixs_at (k + 1) ys pre r x h.2
    simp only [List.length_cons]; omega
theorem ixs_pre : ∀ (k : Nat) (xs : List (List UInt8)) (pre r : List (Nat × List UInt8)), ixs k xs = pre ++ r → pre.map (·.2) = xs.take pre.length
  | k, xs, [], r, h => by simp
  | k, [], p :: pre, r, h => by simp [ixs] at h
  | k, y :: ys, p :: pre, r, h => by
    simp only [ixs, List.cons_append, List.cons.injEq] at h
    simp [← h.1, ixs_pre (k + 1) ys pre r h.2]
theorem pcs_len (s : ByteArray) : (pcs s).length ≤ 1048576 := by
  unfold pcs
  split
  · simp
  · have := lines_len s.data.toList
    rw [← Go.Lib.size_eq] at this
    omega
theorem run_loadVar_plain {P : Program} (w : World) (a : Addr) (ty : TypeId) (v : Value) (d : TypeDesc) (hc : w.cell? a = some v) (hu : P.underlying ty = some d) (hd : d.isRow = false) : (loadVar ty a).run P w = .ok v w := by
  have hagg : (isAgg ty).run P w = .ok false w := by
    unfold isAgg
    rw [Sem.run_bind, run_underlying hu w]
    cases d <;> simp_all
  simp [loadVar, Sem.run_bind, hagg, hc]
theorem results_cell2 {P : Program} {fn : Func} {q q2 : Tmp} {T T2 : TypeId} (h : fn.results = #[.cell q T, .cell q2 T2]) (tmps : Array Value) (w : World) (b b2 : Nat) (v v2 : Value) {d d2 : TypeDesc}
    (hp : tmps.getD q undef = .pointer (some ⟨b, 0, none⟩)) (hp2 : tmps.getD q2 undef = .pointer (some ⟨b2, 0, none⟩)) (hc : w.cell? ⟨b, 0, none⟩ = some v) (hc2 : w.cell? ⟨b2, 0, none⟩ = some v2) (hu : P.underlying T = some d) (hd : d.isRow = false) (hu2 : P.underlying T2 = some d2) (hd2 : d2.isRow = false) : (results fn tmps).run P w = .ok (.tuple #[v, v2]) w := by
  have hp' : tmps[q]?.getD undef = .pointer (some ⟨b, 0, none⟩) := by simpa using hp
  have hv' : tmps[q2]?.getD undef = .pointer (some ⟨b2, 0, none⟩) := by simpa using hp2
  simp [results, h, hp', hv', asAddr, run_loadVar_plain w _ T v _ hc hu hd, run_loadVar_plain w _ T2 v2 _ hc2 hu2 hd2]
theorem each_fin {w W : World} {D : Nat} {a : Option Addr} {n c : Nat} {xs : List (List UInt8)} (hD : w.heap.size + 1 + 1 < D) (hK : W.heap[D]? = some (.deferred (some []))) (hrow : W.ownsRow w.heap.size 9 1 (.slice a n c) xs.length (xs.map fun l => Value.string ⟨l.toArray⟩)) (hB : Below w.heap.size w W)
    (c4 : Boxed W (w.heap.size + 1) 63 (.slice none 0 0)) (c5 : Boxed W (w.heap.size + 1 + 1) 4 (.bool false)) (tmps : Array Value) (h4 : tmps.getD 4 undef = .pointer (some ⟨w.heap.size + 1, 0, none⟩)) (h5 : tmps.getD 5 undef = .pointer (some ⟨w.heap.size + 1 + 1, 0, none⟩)) :
    ∃ r, (results Tryz.f44 tmps).run Tryz.prog ((((W.setCell ⟨w.heap.size + 1, 0, none⟩ (.slice a n c)).setCell ⟨w.heap.size + 1 + 1, 0, none⟩ (.bool true)).putObj D (.deferred none))) = .ok r ((((W.setCell ⟨w.heap.size + 1, 0, none⟩ (.slice a n c)).setCell ⟨w.heap.size + 1 + 1, 0, none⟩ (.bool true)).putObj D (.deferred none))) ∧
      ∃ v, Ending.returned r = .returned (.tuple #[v, .bool true]) ∧ OwnS ((((W.setCell ⟨w.heap.size + 1, 0, none⟩ (.slice a n c)).setCell ⟨w.heap.size + 1 + 1, 0, none⟩ (.bool true)).putObj D (.deferred none))) w.heap.size v xs ∧ Up w ((((W.setCell ⟨w.heap.size + 1, 0, none⟩ (.slice a n c)).setCell ⟨w.heap.size + 1 + 1, 0, none⟩ (.bool true)).putObj D (.deferred none))) := by
  have G1 := grownBy_setCell' W (w.heap.size + 1) (.slice a n c)
  have G2 := grownBy_setCell' (W.setCell ⟨w.heap.size + 1, 0, none⟩ (.slice a n c)) (w.heap.size + 1 + 1) (.bool true)
  have hK' : ((W.setCell ⟨w.heap.size + 1, 0, none⟩ (.slice a n c)).setCell ⟨w.heap.size + 1 + 1, 0, none⟩ (.bool true)).heap[D]? = some (.deferred (some [])) := by
    rw [Below.heap_setCell _ _ _ _ (by show D ≠ w.heap.size + 1 + 1; omega), Below.heap_setCell _ _ _ _ (by show D ≠ w.heap.size + 1; omega)]; exact hK
  have G3 := grownBy_putObj' ((W.setCell ⟨w.heap.size + 1, 0, none⟩ (.slice a n c)).setCell ⟨w.heap.size + 1 + 1, 0, none⟩ (.bool true)) D (.deferred none)
  have g4 := ((c4.set (.slice a n c)).kept G2 (by simp)).kept G3 (by simp; omega)
  have g5 := ((c5.kept G1 (by simp)).set (.bool true)).kept G3 (by simp; omega)
  have n4 := c4.not_row (by decide) hrow
  have n5 := c5.not_row (by decide) hrow
  have r1 := hrow.kept G1 (by rcases hrow.2 with ⟨e, _⟩ | ⟨g, cap, cur, e, _⟩ <;> first | exact .inr fun h => n4 h.symm | exact .inr n4)
  have r2 := r1.kept G2 (by first | exact .inr fun h => n5 h.symm | exact .inr n5)
  have r3 := ownsRow_putObj r2 (.deferred none) hK' rfl
  have B3 : Below w.heap.size w (((W.setCell ⟨w.heap.size + 1, 0, none⟩ (.slice a n c)).setCell ⟨w.heap.size + 1 + 1, 0, none⟩ (.bool true)).putObj D (.deferred none)) := (((hB.setCell (p := ⟨w.heap.size + 1, 0, none⟩) (by simp) _).setCell (p := ⟨w.heap.size + 1 + 1, 0, none⟩) (by show w.heap.size ≤ w.heap.size + 1 + 1; omega) _)).trans (belowK_b (w := w) (Nat.le_refl _) _ D _ _ (by omega) hK' rfl rfl)
  exact ⟨_, results_cell2 rfl tmps _ _ _ _ _ h4 h5 g4.cell g5.cell Tryz.underlying63 rfl Tryz.underlying4 rfl, _, rfl, r3, B3⟩
/-- what each tells -/
def evs (s : ByteArray) (most : Int) : List (List UInt8) := (pcs s).take most.toNat
set_option maxRecDepth 100000 in
set_option maxHeartbeats 2000000 in
theorem each_main (s : ByteArray) (most : Int) (hm0 : 1 ≤ most) (hm1 : most ≤ 9223372036854775807) (w : World) : Calls Tryz.prog 44 #[.string s, .int .i64 most] w fun e w' => ∃ v, e = .returned (.tuple #[v, .bool true]) ∧ OwnS w' w.heap.size v (evs s most) ∧ Up w w' := by
  refine (callsIn_wide (n := 4)).1 ?_
  refine callsIn_of_wp_marks Tryz.func44 rfl trivial ?_ rfl
  simp only [Tryz.ntmps44, List.size_toArray, List.length_cons, List.length_nil, Nat.reduceAdd, Nat.reduceSub, Array.replicate_succ, Array.replicate_zero, List.push_toArray, List.append_toArray, List.nil_append, List.cons_append]
  have hm2 : ¬ most < 1 := by omega
  gi_wp2_with fail
  refine ⟨trivial, ?_⟩
  refine (callsIn_wide.2 (each_in s _)).mono ?_
  rintro e w' ⟨rfl, hw⟩
  obtain rfl := hw.symm
  dsimp only
  have b3 := ((((Boxed.new w 2 (.int .i64 most)).alloc (.cells #[.slice none 0 0] 63)).alloc (.cells #[.bool false] 4)).alloc (.cells #[.slice none 0 0] 63)).alloc (.cells #[.string s] 9)
  have b4 := (((Boxed.new (w.alloc (.cells #[.int .i64 most] 2)) 63 (.slice none 0 0)).alloc (.cells #[.bool false] 4)).alloc (.cells #[.slice none 0 0] 63)).alloc (.cells #[.string s] 9)
  have b5 := ((Boxed.new ((w.alloc (.cells #[.int .i64 most] 2)).alloc (.cells #[.slice none 0 0] 63)) 4 (.bool false)).alloc (.cells #[.slice none 0 0] 63)).alloc (.cells #[.string s] 9)
  have b6 := (Boxed.new (((w.alloc (.cells #[.int .i64 most] 2)).alloc (.cells #[.slice none 0 0] 63)).alloc (.cells #[.bool false] 4)) 63 (.slice none 0 0)).alloc (.cells #[.string s] 9)
  have b7 := Boxed.new ((((w.alloc (.cells #[.int .i64 most] 2)).alloc (.cells #[.slice none 0 0] 63)).alloc (.cells #[.bool false] 4)).alloc (.cells #[.slice none 0 0] 63)) 9 (.string s)
  have hU : Below w.heap.size w (((((w.alloc (.cells #[.int .i64 most] 2)).alloc (.cells #[.slice none 0 0] 63)).alloc (.cells #[.bool false] 4)).alloc (.cells #[.slice none 0 0] 63)).alloc (.cells #[.string s] 9)) := (((((Up.refl w).alloc _).alloc _).alloc _).alloc _).alloc _
  simp only [World.size_alloc] at b4 b5 b6 b7 ⊢
  have hsz : (((((w.alloc (.cells #[.int .i64 most] 2)).alloc (.cells #[.slice none 0 0] 63)).alloc (.cells #[.bool false] 4)).alloc (.cells #[.slice none 0 0] 63)).alloc (.cells #[.string s] 9)).heap.size = w.heap.size + 1 + 1 + 1 + 1 + 1 := by simp
  generalize (((((w.alloc (.cells #[.int .i64 most] 2)).alloc (.cells #[.slice none 0 0] 63)).alloc (.cells #[.bool false] 4)).alloc (.cells #[.slice none 0 0] 63)).alloc (.cells #[.string s] 9)) = W5 at *
  obtain ⟨i0, hi, hz0, hz1, hz2⟩ := info_parts Tryz.infoStr
  have HB : ∀ n, OwnFrom (β := List (Nat × List UInt8)) (max n w.heap.size) (fun pre W => ((∃ v, Boxed W (w.heap.size + 1 + 1 + 1) 63 v ∧ W.ownsRow w.heap.size 9 1 v pre.length (pre.map fun x => Value.string ⟨x.2.toArray⟩) ∧ True) ∧ Below w.heap.size w W) ∧ (Boxed W w.heap.size 2 (.int .i64 most) ∧ (Boxed W (w.heap.size + 1) 63 (.slice none 0 0) ∧ Boxed W (w.heap.size + 1 + 1) 4 (.bool false)))) := fun n =>
    OwnFrom.and (OwnFrom.and (Own.from (holdsRow_own w.heap.size (w.heap.size + 1 + 1 + 1) 63 9 1 (fun pre : List (Nat × List UInt8) => pre.length) (fun pre => pre.map fun x => Value.string ⟨x.2.toArray⟩) (fun _ _ => True)) _) (ownFrom_below (Nat.le_refl _) (Nat.le_max_right _ _))) (OwnFrom.and (boxed_own _ _ _ _) (OwnFrom.and (boxed_own _ _ _ _) (boxed_own _ _ _ _)))
  have HB5 := HB W5.heap.size
  rw [Nat.max_eq_left (by omega)] at HB5
  obtain ⟨BB, hBB⟩ : ∃ BB : List (Nat × List UInt8) → World → Prop, BB = fun pre W => ((∃ v, Boxed W (w.heap.size + 1 + 1 + 1) 63 v ∧ W.ownsRow w.heap.size 9 1 v pre.length (pre.map fun x => Value.string ⟨x.2.toArray⟩) ∧ True) ∧ Below w.heap.size w W) ∧ (Boxed W w.heap.size 2 (.int .i64 most) ∧ (Boxed W (w.heap.size + 1) 63 (.slice none 0 0) ∧ Boxed W (w.heap.size + 1 + 1) 4 (.bool false))) := ⟨_, rfl⟩
  rw [← hBB] at HB5
  have h00 : BB [] W5 := by
    rw [hBB]
    exact ⟨⟨⟨_, b6, World.ownsRow_nil _ _ _ _, trivial⟩, hU⟩, b3, b4, b5⟩
  clear HB b3 b4 b5 b6 hU
  gi_wp2_with fail
  refine wpIn_rangeFunc_ownG rfl (by decide) (gf := 76) (lb := #[.pointer (some ⟨w.heap.size + 1 + 1 + 1 + 1, 0, none⟩)]) rfl trivial (enters_of Tryz.func76 (by kernel_rfl) rfl)
    (each_stops2 3 (by decide) (w.heap.size + 1 + 1 + 1 + 1) w.heap.size s W5 (by omega) b7.cell) belowK_t (belowK_b (by omega)) (Below.refl _ _) (fun _ => rfl)
    (fun (pre : List (Nat × List UInt8)) W => (pre.length : Int) < most ∧ BB pre W)
    (fun c pre W => (c = .exit 0 ∧ (pre.length : Int) = most ∧ BB pre W) ∨ ∃ pre' x, pre = pre' ++ [x] ∧ (x : Nat × List UInt8).1 ≠ pre'.length)
    (fun s W W' row hs hg hr => ⟨hs.1, HB5 s W W' row hs.2 hg hr⟩)
    (fun c s W W' row hs hg hr => hs.imp (fun h => ⟨h.1, h.2.1, HB5 s W W' row h.2.2 hg hr⟩) id)
    ⟨by simp; omega, h00⟩
    (fun x => { tmps := #[.string s, .int .i64 most, undef, .pointer (some ⟨w.heap.size, 0, none⟩), .pointer (some ⟨w.heap.size + 1, 0, none⟩), .pointer (some ⟨w.heap.size + 1 + 1, 0, none⟩), .pointer (some ⟨w.heap.size + 1 + 1 + 1, 0, none⟩), .int .i64 (x.1 : Int), .string ⟨x.2.toArray⟩, .int .i64 most, .bool false, undef, .string s, .func (.func 76) #[] #[.pointer (some ⟨w.heap.size + 1 + 1 + 1 + 1, 0, none⟩)], .int .i64 (x.1 : Int), .string ⟨x.2.toArray⟩, undef, undef, undef, undef, undef, undef, undef, undef, undef, undef, undef, undef, undef], defers := [] }) ?assign ?body ?done ?stop
  case assign =>
    intro l x W K hK
    gi_wp2
    exact hK
  case body =>
    rintro l pre x W ⟨hpm, hb⟩ hlt
    rw [hBB] at hb
    obtain ⟨⟨⟨v, hv, hrow, _⟩, hB⟩, c3, c4, c5⟩ := hb
    obtain ⟨av, cv, rfl⟩ : ∃ a c, v = .slice a pre.length c := by
      rcases hrow.2 with ⟨rfl, e⟩ | ⟨g, cap, cur, rfl, _⟩
      · exact ⟨none, 0, by rw [e]⟩
      · exact ⟨_, _, rfl⟩
    have hll := pcs_len s
    have hw1 : w.heap.size ≤ w.heap.size + 1 + 1 + 1 := by omega
    have hc := hv.cell
    have hm := c3.cell
    obtain ⟨k, y⟩ := x
    by_cases hx : k = pre.length
    · subst hx
      by_cases hA : most ≤ (pre.length : Int) + 1
      · have hcmp : most ≤ (pre.length : Int) + 1 := by omega
        gi_wp2_with (gi_at_builtin; refine wpListIn_append_own _ rfl _ _ 63 rfl w.heap.size 9 i0 (.string ⟨#[]⟩) 1 16 Tryz.underlying63 hi hz0 hz1 hz2 rfl (by decide) _ _ _ rfl (hrow.alloc _) ⟨W.heap.size, 0, none⟩ 1 1 [.string ⟨y.toArray⟩] rfl rfl (cell_one_new _ _ _) (by simp [Value.oneCell']) (by unfold maxLen; omega) (by omega) (by have := hB.size; simp; omega) ?_; intro v' w2 hown' hgrow' _; obtain ⟨g', cap', rfl⟩ := ownsRow_succ hown'; obtain ⟨hv1, hv2, hr2, hk2, hb2⟩ := hv.appended (by decide) hrow hB.size hw1 hown' hgrow'; have hc1 := hv1.cell; have hf1 := hv1.frozen; have hc2 := hv2.cell; have f3 := ((c3.alloc _).kept hgrow' (c3.not_row (by decide) hrow)).kept (grownBy_setCell' w2 (w.heap.size + 1 + 1 + 1) (.slice (some ⟨g', 0, none⟩) (pre.length + 1) cap')) (by simp; omega); have f4 := ((c4.alloc _).kept hgrow' (c4.not_row (by decide) hrow)).kept (grownBy_setCell' w2 (w.heap.size + 1 + 1 + 1) (.slice (some ⟨g', 0, none⟩) (pre.length + 1) cap')) (by simp); have f5 := ((c5.alloc _).kept hgrow' (c5.not_row (by decide) hrow)).kept (grownBy_setCell' w2 (w.heap.size + 1 + 1 + 1) (.slice (some ⟨g', 0, none⟩) (pre.length + 1) cap')) (by simp); have hm2' := f3.cell)
        have hfin : BB (pre ++ [(pre.length, y)]) (w2.setCell ⟨w.heap.size + 1 + 1 + 1, 0, none⟩ (.slice (some ⟨g', 0, none⟩) (pre.length + 1) cap')) := by
          rw [hBB]
          exact ⟨⟨⟨_, hv2, by simpa using hr2, trivial⟩, hB.trans hb2⟩, f3, f4, f5⟩
        refine ⟨hk2.from _, Or.inl ⟨rfl, ?_, hfin⟩⟩
        simp; omega
      · have hcmp : ¬ most ≤ (pre.length : Int) + 1 := by omega
        gi_wp2_with (gi_at_builtin; refine wpListIn_append_own _ rfl _ _ 63 rfl w.heap.size 9 i0 (.string ⟨#[]⟩) 1 16 Tryz.underlying63 hi hz0 hz1 hz2 rfl (by decide) _ _ _ rfl (hrow.alloc _) ⟨W.heap.size, 0, none⟩ 1 1 [.string ⟨y.toArray⟩] rfl rfl (cell_one_new _ _ _) (by simp [Value.oneCell']) (by unfold maxLen; omega) (by omega) (by have := hB.size; simp; omega) ?_; intro v' w2 hown' hgrow' _; obtain ⟨g', cap', rfl⟩ := ownsRow_succ hown'; obtain ⟨hv1, hv2, hr2, hk2, hb2⟩ := hv.appended (by decide) hrow hB.size hw1 hown' hgrow'; have hc1 := hv1.cell; have hf1 := hv1.frozen; have hc2 := hv2.cell; have f3 := ((c3.alloc _).kept hgrow' (c3.not_row (by decide) hrow)).kept (grownBy_setCell' w2 (w.heap.size + 1 + 1 + 1) (.slice (some ⟨g', 0, none⟩) (pre.length + 1) cap')) (by simp; omega); have f4 := ((c4.alloc _).kept hgrow' (c4.not_row (by decide) hrow)).kept (grownBy_setCell' w2 (w.heap.size + 1 + 1 + 1) (.slice (some ⟨g', 0, none⟩) (pre.length + 1) cap')) (by simp); have f5 := ((c5.alloc _).kept hgrow' (c5.not_row (by decide) hrow)).kept (grownBy_setCell' w2 (w.heap.size + 1 + 1 + 1) (.slice (some ⟨g', 0, none⟩) (pre.length + 1) cap')) (by simp); have hm2' := f3.cell)
        have hfin : BB (pre ++ [(pre.length, y)]) (w2.setCell ⟨w.heap.size + 1 + 1 + 1, 0, none⟩ (.slice (some ⟨g', 0, none⟩) (pre.length + 1) cap')) := by
          rw [hBB]
          exact ⟨⟨⟨_, hv2, by simpa using hr2, trivial⟩, hB.trans hb2⟩, f3, f4, f5⟩
        refine ⟨hk2.from _, hb2, ?_⟩
        exact ⟨by simp; omega, ⟨⟨_, hv2, by simpa using hr2⟩, hB.trans hb2⟩, f3, f4, f5⟩
    · have hxx : ((k : Int) == (pre.length : Int)) = false := by simp; omega
      have hc4 := c4.cell
      have hf4 := c4.frozen
      have hc5 := ((c5.kept (grownBy_setCell' W (w.heap.size + 1) (.slice none 0 0)) (by simp))).cell
      have hf5 := ((c5.kept (grownBy_setCell' W (w.heap.size + 1) (.slice none 0 0)) (by simp))).frozen
      gi_wp2
      exact ⟨((KeepsOthers.setCell W _ _).trans (KeepsOthers.setCell _ _ _)).from _, .inr ⟨pre, (k, y), rfl, hx⟩⟩
  case done =>
    rintro D ys W hD rfl ⟨hpm, hb⟩ hK
    rw [hBB] at hb
    obtain ⟨⟨⟨v, hv, hrow, _⟩, hB⟩, c3, c4, c5⟩ := hb
    obtain ⟨av, nv, cv, rfl⟩ : ∃ a n c, v = .slice a n c := by
      rcases hrow.2 with ⟨rfl, e⟩ | ⟨g, cap, cur, rfl, _⟩
      · exact ⟨none, 0, 0, rfl⟩
      · exact ⟨_, _, _, rfl⟩
    have hc := hv.cell
    have hc4 := c4.cell
    have hf4 := c4.frozen
    have hc5 := (c5.kept (grownBy_setCell' W (w.heap.size + 1) (.slice av nv cv)) (by simp)).cell
    have hf5 := (c5.kept (grownBy_setCell' W (w.heap.size + 1) (.slice av nv cv)) (by simp)).frozen
    gi_wp2
    refine ⟨by simp, .inl ⟨_, _, rfl, run_takeDeferred ?_, ?_⟩⟩
    · rw [Below.heap_setCell _ _ _ _ (by show D ≠ w.heap.size + 1 + 1; omega), Below.heap_setCell _ _ _ _ (by show D ≠ w.heap.size + 1; omega)]; exact hK
    · have e1 := ixs_map 0 (pcs s)
      have e2 := ixs_len 0 (pcs s)
      have e3 : ((ixs 0 (pcs s)).map fun x => Value.string ⟨x.2.toArray⟩) = (pcs s).map fun l => Value.string ⟨l.toArray⟩ := by
        conv => rhs; rw [← e1]
        rw [List.map_map]; rfl
      rw [e2, e3] at hrow
      rw [e2] at hpm
      rw [show evs s most = pcs s from List.take_of_length_le (by omega)]
      exact each_fin (by omega) hK hrow hB c4 c5 _ rfl rfl
  case stop =>
    rintro D c pre W hD ⟨r, hr⟩ h hK
    rcases h with ⟨rfl, hpm, hb⟩ | ⟨pre', x, rfl, hx⟩
    · rw [hBB] at hb
      obtain ⟨⟨⟨v, hv, hrow, _⟩, hB⟩, c3, c4, c5⟩ := hb
      obtain ⟨av, nv, cv, rfl⟩ : ∃ a n c, v = .slice a n c := by
        rcases hrow.2 with ⟨rfl, e⟩ | ⟨g, cap, cur, rfl, _⟩
        · exact ⟨none, 0, 0, rfl⟩
        · exact ⟨_, _, _, rfl⟩
      have hc := hv.cell
      have hc4 := c4.cell
      have hf4 := c4.frozen
      have hc5 := (c5.kept (grownBy_setCell' W (w.heap.size + 1) (.slice av nv cv)) (by simp)).cell
      have hf5 := (c5.kept (grownBy_setCell' W (w.heap.size + 1) (.slice av nv cv)) (by simp)).frozen
      gi_wp2
      refine ⟨by simp, .inl ⟨_, _, rfl, run_takeDeferred ?_, ?_⟩⟩
      · rw [Below.heap_setCell _ _ _ _ (by show D ≠ w.heap.size + 1 + 1; omega), Below.heap_setCell _ _ _ _ (by show D ≠ w.heap.size + 1; omega)]; exact hK
      · have e1 := ixs_pre 0 (pcs s) pre r hr
        have e3 : (pre.map fun x => Value.string ⟨x.2.toArray⟩) = (evs s most).map fun l => Value.string ⟨l.toArray⟩ := by
          rw [show evs s most = pre.map (·.2) from by rw [e1]; unfold evs; congr 1; omega, List.map_map]; rfl
        have e2 : pre.length = (evs s most).length := by
          have := congrArg List.length e3
          simpa using this
        rw [e3, e2] at hrow
        exact each_fin (by omega) hK hrow hB c4 c5 _ rfl rfl
    · exfalso
      rw [List.append_assoc] at hr
      exact hx (by have := ixs_at 0 (pcs s) pre' r x hr; omega)
set_option maxRecDepth 100000 in
theorem each_none (s : ByteArray) (most : Int) (hm0 : most < 1) (w : World) : Calls Tryz.prog 44 #[.string s, .int .i64 most] w fun e w' => ∃ v, e = .returned (.tuple #[v, .bool true]) ∧ OwnS w' w.heap.size v (evs s most) ∧ Up w w' := by
  go_enter Tryz.func44, Tryz.ntmps44
  go_wp2
  have b4 := (((Boxed.new (w.alloc (.cells #[.int .i64 most] 2)) 63 (.slice none 0 0)).alloc (.cells #[.bool true] 4)).alloc (.cells #[.slice none 0 0] 63))
  have b5 := ((Boxed.new ((w.alloc (.cells #[.int .i64 most] 2)).alloc (.cells #[.slice none 0 0] 63)) 4 (.bool true)).alloc (.cells #[.slice none 0 0] 63))
  simp only [World.size_alloc] at b4 b5
  refine bodyPost_ret (results_cell2 rfl _ _ _ _ _ _ rfl rfl b4.cell b5.cell Tryz.underlying63 rfl Tryz.underlying4 rfl) rfl ?_
  refine ⟨_, rfl, ?_, ((((Up.refl w).alloc _).alloc _).alloc _).alloc _⟩
  rw [show evs s most = [] from by unfold evs; rw [show most.toNat = 0 by omega]; rfl]
  exact ⟨by simp, .inl ⟨rfl, rfl⟩⟩
theorem each_walk (s : ByteArray) (most : Int) (hm1 : most ≤ 9223372036854775807) (w : World) : Calls Tryz.prog 44 #[.string s, .int .i64 most] w fun e w' => ∃ v, e = .returned (.tuple #[v, .bool true]) ∧ OwnS w' w.heap.size v (evs s most) ∧ Up w w' := by
  by_cases h : most < 1
  · exact each_none s most h w
  · exact each_main s most (by omega) hm1 w
end
section
open Go.RowKit Go.Shelf TextNum

/-- the cells of one call -/
def opc (k : Int) (s : ByteArray) (b : Value) (n m : Int) : List Value := [.int .i64 k, .string s, b, .int .i64 n, .int .i64 m]
/-- a call that lies in memory -/
structure OB (w : World) (p : Nat) (k : Int) (s : ByteArray) (b : Value) (n m : Int) : Prop where
  rk : w.cell? ⟨p, 0, none⟩ = some (.int .i64 k)
  rs : w.cell? ⟨p, 1, none⟩ = some (.string s)
  rb : w.cell? ⟨p, 2, none⟩ = some b
  rn : w.cell? ⟨p, 3, none⟩ = some (.int .i64 n)
  rm : w.cell? ⟨p, 4, none⟩ = some (.int .i64 m)
theorem OB.up {w w' : World} {p : Nat} {k : Int} {s : ByteArray} {b : Value} {n m : Int} (h : OB w p k s b n m) (g : Up w w') : OB w' p k s b n m := ⟨g.cell h.rk, g.cell h.rs, g.cell h.rb, g.cell h.rn, g.cell h.rm⟩
theorem ob_new (w : World) (k : Int) (s : ByteArray) (b : Value) (n m : Int) (t : TypeId) : OB (w.alloc (.cells #[.int .i64 k, .string s, b, .int .i64 n, .int .i64 m] t)) w.heap.size k s b n m := by
  constructor <;> (rw [World.cell?_alloc_at _ _ _ _ rfl]; rfl)

theorem lnL_len (l : List UInt8) : (lnL l).length ≤ 1099511627776 := by
  by_cases he : lnE l = 0
  · rw [lnL_yes he]
    have h1 := lines_len l
    unfold lnE at he
    split at he
    · cases he
    · omega
  · rw [lnL_no he]; simp
theorem SlS.take7 {w : World} {a : Option Addr} {c : Nat} {xs : List (List UInt8)} (h : SlS w (.slice a xs.length c) xs) {k : Nat} (hk : k ≤ xs.length) : SlS w (.slice a k c) (xs.take k) := by
  have hl : (xs.take k).length = k := by rw [List.length_take]; omega
  obtain ⟨a', c', e, hc, h⟩ := h
  cases e
  refine ⟨a, c, by rw [hl], by omega, ?_⟩
  rcases h with h | ⟨b, off, e2, hb, hg⟩
  · left; rw [h]; simp
  · right
    refine ⟨b, off, e2, hb, fun i hi => ?_⟩
    rw [hl] at hi
    rw [hg i (by omega)]
    simp
theorem cutV_form {s : ByteArray} {r : Value} (h : cutV s r) : ∃ x y z, r = .tuple #[.string x, .string y, .bool z] := by
  rcases h with ⟨rfl, _⟩ | ⟨i, rfl, _⟩
  · exact ⟨_, _, _, rfl⟩
  · exact ⟨_, _, _, rfl⟩
set_option maxRecDepth 100000 in
set_option maxHeartbeats 1000000 in
theorem lines_lines (s : ByteArray) (b : Value) (n m : Int) (w : World) :
    Calls Tryz.prog 21 #[.agg (opc 8 s b n m).toArray] w fun e w' => e = .returned (.bool true) ∧ Up w w' := by
  have HO := Hid.of (And.intro (ob_new w 8 s b n m 30) ((Up.refl w).alloc (.cells #[.int .i64 8, .string s, b, .int .i64 n, .int .i64 m] 30)))
  unfold opc
  go_enter Tryz.func21, Tryz.ntmps21
  go_wp2_with fail
  refine (Lines_walk s _).mono ?_
  rintro e w1 ⟨v1, rfl, hn, ho, u1⟩
  have h1 : SlS w1 v1 (lnL s.data.toList) := by
    by_cases he : lnE s.data.toList = 0
    · rw [lnL_yes he]; exact (ho he).sl
    · rw [lnL_no he, hn he]; exact (ownS_nil w1 0).sl
  have hc1 := (HO.out.1.up u1).rs
  have H1 := Hid.of (And.intro h1 (HO.out.2.trans u1))
  clear h1 u1 hn ho HO
  dsimp only
  go_wp2_with fail
  refine (RLines_walk s w1).mono ?_
  rintro e w2 ⟨v2, rfl, h2, u2⟩
  have H2 := Hid.of (And.intro h2 u2)
  clear h2 u2 hc1
  have her : (lnE s.data.toList == lnE s.data.toList) = true := by simp
  have HL := Hid.of (show (lnL s.data.toList).length ≤ 1099511627776 from lnL_len _)
  generalize lnE s.data.toList = er at *
  dsimp only
  go_wp2_with fail
  refine (sameLines_walk v1 v2 _ w2 (H1.out.1.up H2.out.2) H2.out.1 HL.out).mono ?_
  rintro e w3 ⟨rfl, u3⟩
  have H3 := Hid.of u3
  clear u3
  dsimp only
  go_wp2
  go_ret
  exact ⟨by simp, (H1.out.2.trans H2.out.2).trans H3.out⟩
set_option maxRecDepth 100000 in
set_option maxHeartbeats 1000000 in
theorem lines_each (s : ByteArray) (b : Value) (n m : Int) (hm : m ≤ 9223372036854775807) (w : World) :
    Calls Tryz.prog 21 #[.agg (opc 9 s b n m).toArray] w fun e w' => e = .returned (.bool true) ∧ Up w w' := by
  have HO := Hid.of (And.intro (ob_new w 9 s b n m 30) ((Up.refl w).alloc (.cells #[.int .i64 9, .string s, b, .int .i64 n, .int .i64 m] 30)))
  have HM := Hid.of hm
  clear hm
  unfold opc
  go_enter Tryz.func21, Tryz.ntmps21
  go_wp2_with fail
  refine (each_walk s m HM.out _).mono ?_
  rintro e w1 ⟨v1, rfl, h1, u1⟩
  have hc1 := (HO.out.1.up u1).rs
  have hm1 := (HO.out.1.up u1).rm
  have H1 := Hid.of (And.intro h1.sl (And.intro (HO.out.2.trans u1) (HO.out.1.up u1)))
  clear h1 u1 HO
  dsimp only
  go_wp2_with fail
  refine (RPieces_walk s w1).mono ?_
  rintro e w2 ⟨v2, rfl, h2, u2⟩
  have hm2 := (H1.out.2.2.up u2).rm
  have H2 := Hid.of (And.intro h2.sl u2)
  clear h2 u2 hc1 hm1
  obtain ⟨a2, c2, rfl, hc2, hr2⟩ := id H2.out.1
  have HL := Hid.of (show (evs s m).length ≤ 1099511627776 from by have := pcs_len s; unfold evs; rw [List.length_take]; omega)
  have hpl := pcs_len s
  by_cases h1 : m < (pcs s).length
  · by_cases h2 : m < 1
    · dsimp only
      go_wp2_with fail
      refine (sameLines_walk v1 (.slice none 0 0) _ w2 (H1.out.1.up H2.out.2) (by rw [show evs s m = [] from by unfold evs; rw [show m.toNat = 0 by omega]; rfl]; exact (ownS_nil w2 0).sl) HL.out).mono ?_
      rintro e w3 ⟨rfl, u3⟩
      have H3 := Hid.of u3
      clear u3
      dsimp only
      go_wp2
      go_ret
      exact ⟨by simp, (H1.out.2.1.trans H2.out.2).trans H3.out⟩
    · dsimp only
      go_wp2_with fail
      refine (sameLines_walk v1 (.slice a2 m.toNat c2) _ w2 (H1.out.1.up H2.out.2) (H2.out.1.take7 (by omega)) HL.out).mono ?_
      rintro e w3 ⟨rfl, u3⟩
      have H3 := Hid.of u3
      clear u3
      dsimp only
      go_wp2
      go_ret
      exact ⟨by simp, (H1.out.2.1.trans H2.out.2).trans H3.out⟩
  · dsimp only
    go_wp2_with fail
    refine (sameLines_walk v1 (.slice a2 (pcs s).length c2) _ w2 (H1.out.1.up H2.out.2) (by rw [show evs s m = pcs s from List.take_of_length_le (by omega)]; exact H2.out.1) HL.out).mono ?_
    rintro e w3 ⟨rfl, u3⟩
    have H3 := Hid.of u3
    clear u3
    dsimp only
    go_wp2
    go_ret
    exact ⟨by simp, (H1.out.2.1.trans H2.out.2).trans H3.out⟩
set_option maxRecDepth 100000 in
set_option maxHeartbeats 1000000 in
theorem lines_cut (s : ByteArray) (b : Value) (n m : Int) (w : World) :
    Calls Tryz.prog 21 #[.agg (opc 10 s b n m).toArray] w fun e w' => e = .returned (.bool true) ∧ Up w w' := by
  have HO := Hid.of (And.intro (ob_new w 10 s b n m 30) ((Up.refl w).alloc (.cells #[.int .i64 10, .string s, b, .int .i64 n, .int .i64 m] 30)))
  unfold opc
  go_enter Tryz.func21, Tryz.ntmps21
  go_wp2_with fail
  refine (Cut_walk s _).mono ?_
  rintro e w1 ⟨r, rfl, h1, u1⟩
  have hc1 := (HO.out.1.up u1).rs
  have H1 := Hid.of (And.intro h1 (HO.out.2.trans u1))
  obtain ⟨x, y, z, rfl⟩ := cutV_form h1
  clear h1 u1 HO
  dsimp only
  go_wp2_with fail
  refine (RCut_walk s w1).mono ?_
  rintro e w2 ⟨r2, rfl, h2, u2⟩
  obtain rfl := cutV_uniq h2 H1.out.1
  have H2 := Hid.of u2
  clear h2 u2 hc1
  dsimp only
  go_wp2
  go_ret
  exact ⟨by simp, H1.out.2.trans H2.out⟩
end
end Go.Proofs.YtbdmpdjhgjidlaaGreatDoor
