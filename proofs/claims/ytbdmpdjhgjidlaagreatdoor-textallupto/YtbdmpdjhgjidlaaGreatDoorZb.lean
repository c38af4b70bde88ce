import Derived.Test.YtbdmpdjhgjidlaaGreatDoorZs
namespace Go.Proofs.YtbdmpdjhgjidlaaGreatDoor
open TextNum
theorem lines_at {y t : List UInt8} (h : (10 : UInt8) ∉ y) : linesOf (y ++ 10 :: t) = y :: linesOf t := by
  have h1 := linesOf_cons (l := y ++ 10 :: t) (by simp)
  have e1 : (y ++ 10 :: t).takeWhile (· != 10) = y := by
    rw [List.takeWhile_append_of_pos (fun a ha => by simp; intro e; subst e; exact h ha)]
    simp
  have e2 : (y ++ 10 :: t).dropWhile (· != 10) = 10 :: t := by
    rw [List.dropWhile_append_of_pos (fun a ha => by simp; intro e; subst e; exact h ha)]
    simp
  rw [h1, e1, e2]; rfl
theorem tw_all : ∀ {y : List UInt8}, (10 : UInt8) ∉ y → y.takeWhile (· != 10) = y ∧ y.dropWhile (· != 10) = []
  | [], _ => ⟨rfl, rfl⟩
  | x :: r, h => by
    have hx : (x != 10) = true := by simp; intro e; subst e; simp at h
    have := tw_all (y := r) (fun hm => h (by simp [hm]))
    rw [List.takeWhile_cons, List.dropWhile_cons, if_pos hx, if_pos hx, this.1]
    exact ⟨rfl, this.2⟩
theorem lines_end {y : List UInt8} (h : (10 : UInt8) ∉ y) (h0 : y ≠ []) : linesOf y = [y] := by
  rw [linesOf_cons h0, (tw_all h).1, (tw_all h).2]; rfl
/-- the lines that are told -/
def pcs (s : ByteArray) : List (List UInt8) := if 1048576 < s.size then [] else linesOf s.data.toList
theorem seg_no {L : List UInt8} {f i : Nat} (hf : f ≤ i) (hi : i ≤ L.length) (h : ∀ k (hk : k < L.length), f ≤ k → k < i → L[k] ≠ 10) : (10 : UInt8) ∉ (L.drop f).take (i - f) := by
  intro hm
  obtain ⟨k, hk, e⟩ := List.mem_iff_getElem.1 hm
  have hk' : k < i - f := by rw [List.length_take] at hk; omega
  rw [List.getElem_take, List.getElem_drop] at e
  exact h (f + k) (by omega) (by omega) (by omega) e
theorem seg_cut {L : List UInt8} {f i : Nat} (hf : f ≤ i) (hi : i < L.length) (h10 : L[i] = 10) : L.drop f = (L.drop f).take (i - f) ++ 10 :: L.drop (i + 1) := by
  have h1 := List.take_append_drop (i - f) (L.drop f)
  rw [List.drop_drop, show f + (i - f) = i by omega, List.drop_eq_getElem_cons hi, h10] at h1
  exact h1.symm
end Go.Proofs.YtbdmpdjhgjidlaaGreatDoor
namespace Go.Proofs.YtbdmpdjhgjidlaaGreatDoor
open Go.RowKit Go.Shelf TextNum

theorem ext_str (s : ByteArray) (a b : Nat) : s.extract a b = ⟨((s.data.toList.drop a).take (b - a)).toArray⟩ := by
  have h := Go.Lib.extract_data s a b
  cases hh : s.extract a b with
  | mk d =>
    rw [hh] at h
    simp only at h
    congr 1
    rw [← h]
set_option maxRecDepth 100000 in
set_option maxHeartbeats 1000000 in
theorem RPieces_walk (s : ByteArray) (w : World) : Calls Tryz.prog 45 #[.string s] w fun e w' => ∃ v, e = .returned v ∧ OwnS w' w.heap.size v (pcs s) ∧ Up w w' := by
  have HS := Hid.of (Go.Lib.size_eq s)
  go_enter Tryz.func45, Tryz.ntmps45
  by_cases h1 : 1048576 < s.size
  · have HP := Hid.of (show pcs s = [] from if_pos h1)
    have d1 : (1048576 : Int) < (s.size : Int) := by omega
    go_wp2
    go_ret
    rw [HP.out]
    exact ⟨_, rfl, ownS_nil _ _, Up.refl _⟩
  · have HP := Hid.of (show pcs s = linesOf s.data.toList from if_neg h1)
    have d1 : ¬ (1048576 : Int) < (s.size : Int) := by omega
    have hs : s.size ≤ 1048576 := by omega
    clear h1
    go_wp2
    go_loopw [3, 4, 5] (fun v3 v4 v5 wr => ∃ f i : Nat, v4 = .int .i64 (f : Int) ∧ v5 = .int .i64 (i : Int) ∧ f ≤ i ∧ i ≤ s.size ∧ Hid (∃ xs, OwnS wr w.heap.size v3 xs ∧ xs.length ≤ i ∧ linesOf s.data.toList = xs ++ linesOf (s.data.toList.drop f) ∧ Up w wr ∧ ∀ k (hk : k < s.data.toList.length), f ≤ k → k < i → s.data.toList[k] ≠ 10)) (fun _ _ v5 _ => s.size - (intOf v5).toNat)
    case atStart => exact ⟨0, 0, rfl, rfl, by omega, by omega, [], ownS_nil _ _, by simp, by simp, Up.refl _, fun k hk h1 h2 => absurd h2 (Nat.not_lt_zero _)⟩
    case round =>
      obtain ⟨f, i, rfl, rfl, hf, hi, hI⟩ := hrel
      obtain ⟨wb, hwb⟩ : ∃ wb, wb = wr := ⟨_, rfl⟩
      subst hwb
      by_cases hlt : i < s.size
      · have hlt' : (i : Int) < (s.size : Int) := by omega
        have hlL : i < s.data.toList.length := by rw [← HS.out]; exact hlt
        by_cases hd : s[i] = 10
        · have hd' : ((s[i].toNat : Int) == 10) = true := by rw [hd]; rfl
          obtain ⟨xs, o1, o2, o3, o4, o5⟩ := hI.out
          have hd2 : s.data.toList[i] = 10 := by rw [← sget' s i hlt]; exact hd
          have HX := Hid.of (And.intro (seg_no hf (by omega) o5) (seg_cut hf hlL hd2))
          have HO := Hid.of (And.intro o1 (And.intro o3 o4))
          have e1 : (f : Int) ≤ (i : Int) := by omega
          clear o1 o3 o4 o5 hd hI hd2
          go_wp2_with (with_reducible show wpList _ _ _ ({ dst := _, op := Op.call { callee := Callee.builtin Builtin.append, args := _, argTypes := _ }, type := _, pos := _, after := _, guard := _ } :: _) _ _; refine Shut.out ?_)
          show wpList _ _ _ _ _ _
          simp only [ext_str]
          refine wpList_appS rfl _ _ rfl w.heap.size _ xs ((s.data.toList.drop f).take (i - f)) rfl (by exact HO.out.1) 1 rfl (by omega) HO.out.2.2.size ?_
          intro v' w3 h3 k3
          have H3 := Hid.of (And.intro h3 (HO.out.2.2.step (Nat.le_refl _) k3))
          clear h3 k3
          simp only [Act.put, List.setIfInBounds_toArray, List.set_cons_zero, List.set_cons_succ]
          go_wp2
          go_roundw
          case rel =>
            refine ⟨i + 1, i + 1, by go_num, by go_num, by omega, by omega, _, H3.out.1, by simp; omega, ?_, H3.out.2, fun k hk h1 h2 => by omega⟩
            rw [HO.out.2.1]
            conv => lhs; rw [HX.out.2]
            rw [lines_at HX.out.1, List.append_assoc]; rfl
          case measure => simp [intOf]; omega
        · have hd' : ((s[i].toNat : Int) == 10) = false := by
            rw [show ((s[i].toNat : Int) == 10) = (s[i] == 10) from u8_eq (a := s[i]) (b := 10)]
            simpa using hd
          have HN : Hid (∃ xs, OwnS wb w.heap.size u3 xs ∧ xs.length ≤ i + 1 ∧ linesOf s.data.toList = xs ++ linesOf (s.data.toList.drop f) ∧ Up w wb ∧ ∀ k (hk : k < s.data.toList.length), f ≤ k → k < i + 1 → s.data.toList[k] ≠ 10) := by
            obtain ⟨xs, o1, o2, o3, o4, o5⟩ := hI.out
            refine ⟨xs, o1, by omega, o3, o4, fun k hk h1 h2 => ?_⟩
            by_cases e : k = i
            · subst e; rw [← sget' s k hlt]; exact hd
            · exact o5 k hk h1 (by omega)
          clear hI hd
          go_wp2
          go_roundw
          case rel => exact ⟨f, i + 1, rfl, by go_num, by omega, by omega, HN.out⟩
          case measure => simp [intOf]; omega
      · obtain rfl : i = s.size := by omega
        by_cases hfl : f < s.size
        · have hfl' : (f : Int) < (s.size : Int) := by omega
          obtain ⟨xs, o1, o2, o3, o4, o5⟩ := hI.out
          have hno : (10 : UInt8) ∉ s.data.toList.drop f := by
            have := seg_no (L := s.data.toList) hf (by rw [← HS.out]; exact Nat.le_refl _) o5
            rwa [List.take_of_length_le (by rw [List.length_drop, ← HS.out]; exact Nat.le_refl _)] at this
          have HE := Hid.of (lines_end hno (by intro e; have := congrArg List.length e; rw [List.length_drop, ← HS.out] at this; simp at this; omega))
          have HO := Hid.of (And.intro o1 (And.intro o3 o4))
          have hext : (s.data.toList.drop f).take (s.size - f) = s.data.toList.drop f := List.take_of_length_le (by rw [List.length_drop, ← HS.out]; exact Nat.le_refl _)
          clear o1 o3 o4 o5 hI hno
          go_wp2_with (with_reducible show wpList _ _ _ ({ dst := _, op := Op.call { callee := Callee.builtin Builtin.append, args := _, argTypes := _ }, type := _, pos := _, after := _, guard := _ } :: _) _ _; refine Shut.out ?_)
          show wpList _ _ _ _ _ _
          simp only [ext_str, hext]
          refine wpList_appS rfl _ _ rfl w.heap.size _ xs (s.data.toList.drop f) rfl (by exact HO.out.1) 1 rfl (by omega) HO.out.2.2.size ?_
          intro v' w3 h3 k3
          have H3 := Hid.of (And.intro h3 (HO.out.2.2.step (Nat.le_refl _) k3))
          clear h3 k3
          simp only [Act.put, List.setIfInBounds_toArray, List.set_cons_zero, List.set_cons_succ]
          go_wp2
          go_ret
          rw [HP.out, HO.out.2.1, HE.out]
          exact ⟨_, rfl, H3.out.1, H3.out.2⟩
        · obtain rfl : f = s.size := by omega
          go_wp2
          go_ret
          obtain ⟨xs, o1, o2, o3, o4, o5⟩ := hI.out
          rw [HP.out, o3, List.drop_of_length_le (by rw [← HS.out]; exact Nat.le_refl _), linesOf_nil, List.append_nil]
          exact ⟨_, rfl, o1, o4⟩
end Go.Proofs.YtbdmpdjhgjidlaaGreatDoor
