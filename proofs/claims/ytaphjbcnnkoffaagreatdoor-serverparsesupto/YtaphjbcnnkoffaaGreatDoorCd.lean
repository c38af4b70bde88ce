import Derived.Test.YtaphjbcnnkoffaaGreatDoorCc
namespace Go.Proofs.YtaphjbcnnkoffaaGreatDoor
open Go.RowKit Go.Shelf TextNum ModNum
theorem cst_one (xs : List (List UInt8)) : ∀ u ∈ cst xs, u.oneCell' = true := by
  intro u hu
  obtain ⟨c, _, rfl⟩ := List.mem_map.1 hu
  rfl
theorem ownS_nil (w : World) (B : Nat) : OwnS w B (.slice none 0 0) [] := World.ownsRow_nil w B 9 1
theorem OwnS.up {w w' : World} {B : Nat} {v : Value} {xs : List (List UInt8)} (h : OwnS w B v xs) (k : Up w w') : OwnS w' B v xs := by
  refine ⟨h.1, ?_⟩
  rcases h.2 with e | ⟨g, cap, cur, e, hbg, hg, r⟩
  · exact .inl e
  · exact .inr ⟨g, cap, cur, e, hbg, (k.block g (Array.getElem?_eq_some_iff.1 hg).1).trans hg, r⟩
theorem wpList_appS {ops : Array Oper} {rest : List Oper} {o : Oper} {a : Act} {w : World} {t : TypeId} {Q : Exit → Act → World → Prop} (hgd : o.guard = none) (s x : Operand)
    (ho : o.op = .call { callee := .builtin .append, args := #[s, x], argTypes := #[57, 57] }) (B : Nat) (v : Value) (xs : List (List UInt8)) (y : List UInt8) (hs : a.eval s = v) (hown : OwnS w B v xs)
    (c : Nat) (hx : a.eval x = .slice (some ⟨w.heap.size, 0, none⟩) 1 c) (hn : xs.length + 1 ≤ 1099511627776) (hB : B ≤ w.heap.size)
    (h : ∀ v' w', OwnS w' B v' (xs ++ [y]) → Below B w w' → wpList Tryz.prog ops Q rest (a.put o.dst v') w') : wpList Tryz.prog ops Q (o :: rest) a (w.alloc (.cells (cst [y]).toArray t)) := by
  obtain ⟨i0, hi, hz0, hz1, hz2⟩ := info_parts Tryz.infoStr
  refine wpList_append_own _ hgd s x 57 ho B 9 i0 (.string ⟨#[]⟩) 1 16 Tryz.underlying57 hi hz0 hz1 hz2 rfl (by decide) v xs.length (cst xs) hs (OwnS.up hown ((Up.refl w).alloc _)) ⟨w.heap.size, 0, none⟩ 1 c (cst [y]) hx (by simp [cst]) (cells_new w t (cst [y])) (cst_one [y]) (by unfold maxLen; omega) (by omega) (by simp; omega) ?_
  intro v' w' h1 h2 _
  refine h v' w' ?_ (((Below.refl B w).alloc hB _).trans ((Below.refl B _).grown h2 (by simp; omega) (fun k hk => (World.ownsRow.lt hown k hk).1)))
  unfold OwnS
  rw [List.length_append, List.map_append]
  exact h1
theorem seg_no {c : UInt8} {L : List UInt8} {f i : Nat} (hf : f ≤ i) (hi : i ≤ L.length) (h : ∀ k (hk : k < L.length), f ≤ k → k < i → L[k] ≠ c) : c ∉ (L.drop f).take (i - f) := by
  intro hm
  obtain ⟨k, hk, e⟩ := List.mem_iff_getElem.1 hm
  have hk' : k < i - f := by rw [List.length_take] at hk; omega
  rw [List.getElem_take, List.getElem_drop] at e
  exact h (f + k) (by omega) (by omega) (by omega) e
theorem seg_cut {c : UInt8} {L : List UInt8} {f i : Nat} (hf : f ≤ i) (hi : i < L.length) (h10 : L[i] = c) : L.drop f = (L.drop f).take (i - f) ++ c :: L.drop (i + 1) := by
  have h1 := List.take_append_drop (i - f) (L.drop f)
  rw [List.drop_drop, show f + (i - f) = i by omega, List.drop_eq_getElem_cons hi, h10] at h1
  exact h1.symm
theorem ext_str (s : ByteArray) (a b : Nat) : s.extract a b = ⟨((s.data.toList.drop a).take (b - a)).toArray⟩ := by
  have h := Go.Lib.extract_data s a b
  cases hh : s.extract a b with
  | mk d =>
    rw [hh] at h
    simp only at h
    congr 1
    rw [← h]
theorem u8z {a b : UInt8} : ((a.toNat : Int) == (b.toNat : Int)) = (a == b) := by
  rw [Bool.eq_iff_iff, beq_iff_eq, beq_iff_eq]
  constructor
  · intro h; exact UInt8.toNat_inj.1 (by omega)
  · intro h; rw [h]
set_option maxRecDepth 100000 in
set_option maxHeartbeats 1000000 in
theorem Pieces_walk (s : ByteArray) (c : UInt8) (hs : s.size ≤ 1048576) (w : World) : Calls Tryz.prog 35 #[.string s, .int .u8 (c.toNat : Int)] w fun e w' => ∃ v, e = .returned v ∧ OwnS w' w.heap.size v (pcs c s.data.toList) ∧ Up w w' := by
  have HS := Hid.of (Go.Lib.size_eq s)
  go_enter Tryz.func35, Tryz.ntmps35
  go_wp2
  go_loopw [5, 6, 7] (fun v5 v6 v7 wr => ∃ f i : Nat, v6 = .int .i64 (f : Int) ∧ v7 = .int .i64 (i : Int) ∧ f ≤ i ∧ i ≤ s.size ∧ Hid (∃ xs, OwnS wr w.heap.size v5 xs ∧ xs.length ≤ i ∧ pcs c s.data.toList = xs ++ pcs c (s.data.toList.drop f) ∧ Up w wr ∧ ∀ k (hk : k < s.data.toList.length), f ≤ k → k < i → s.data.toList[k] ≠ c)) (fun _ _ v7 _ => s.size - (intOf v7).toNat)
  case atStart => exact ⟨0, 0, rfl, rfl, by omega, by omega, [], ownS_nil _ _, by simp, by simp, Up.refl _, fun k hk h1 h2 => absurd h2 (Nat.not_lt_zero _)⟩
  case round =>
    obtain ⟨f, i, rfl, rfl, hf, hi, hI⟩ := hrel
    obtain ⟨wb, hwb⟩ : ∃ wb, wb = wr := ⟨_, rfl⟩
    subst hwb
    by_cases hlt : i < s.size
    · have hlt' : (i : Int) < (s.size : Int) := by omega
      have hlL : i < s.data.toList.length := by rw [← HS.out]; exact hlt
      by_cases hd : s[i] = c
      · have hd' : ((s[i].toNat : Int) == (c.toNat : Int)) = true := by rw [u8z, hd]; exact beq_self_eq_true c
        obtain ⟨xs, o1, o2, o3, o4, o5⟩ := hI.out
        have hd2 : s.data.toList[i] = c := by rw [← sget' s i hlt]; exact hd
        have HX := Hid.of (And.intro (seg_no hf (by omega) o5) (seg_cut hf hlL hd2))
        have HO := Hid.of (And.intro o1 (And.intro o3 o4))
        have e1 : (f : Int) ≤ (i : Int) := by omega
        clear o1 o3 o4 o5 hd hI hd2
        go_wp2_with (with_reducible show wpList _ _ _ ({ dst := _, op := Op.call { callee := Callee.builtin Builtin.append, args := _, argTypes := _ }, type := _, pos := _, after := _, guard := _ } :: _) _ _; refine Shut.out ?_)
        show wpList _ _ _ _ _ _
        simp only [ext_str]
        refine wpList_appS rfl _ _ rfl w.heap.size _ xs ((s.data.toList.drop f).take (i - f)) rfl (by exact HO.out.1) 1 rfl (by omega) HO.out.2.2.size ?_
        intro v' w3 h3 k3
        have H3 := Hid.of (And.intro h3 (HO.out.2.2.step (Nat.le_refl _) k3))
        clear h3 k3
        simp only [Act.put, List.setIfInBounds_toArray, List.set_cons_zero, List.set_cons_succ]
        go_wp2
        go_roundw
        case rel =>
          refine ⟨i + 1, i + 1, by go_num, by go_num, by omega, by omega, _, H3.out.1, by simp; omega, ?_, H3.out.2, fun k hk h1 h2 => by omega⟩
          rw [HO.out.2.1]
          conv => lhs; rw [HX.out.2]
          rw [pcs_hit HX.out.1, List.append_assoc]; rfl
        case measure => simp [intOf]; omega
      · have hd' : ((s[i].toNat : Int) == (c.toNat : Int)) = false := by
          rw [u8z]
          simpa using hd
        have HN : Hid (∃ xs, OwnS wb w.heap.size u5 xs ∧ xs.length ≤ i + 1 ∧ pcs c s.data.toList = xs ++ pcs c (s.data.toList.drop f) ∧ Up w wb ∧ ∀ k (hk : k < s.data.toList.length), f ≤ k → k < i + 1 → s.data.toList[k] ≠ c) := by
          obtain ⟨xs, o1, o2, o3, o4, o5⟩ := hI.out
          refine ⟨xs, o1, by omega, o3, o4, fun k hk h1 h2 => ?_⟩
          by_cases e : k = i
          · subst e; rw [← sget' s k hlt]; exact hd
          · exact o5 k hk h1 (by omega)
        clear hI hd
        go_wp2
        go_roundw
        case rel => exact ⟨f, i + 1, rfl, by go_num, by omega, by omega, HN.out⟩
        case measure => simp [intOf]; omega
    · obtain rfl : i = s.size := by omega
      have hfl' : (f : Int) ≤ (s.size : Int) := by omega
      obtain ⟨xs, o1, o2, o3, o4, o5⟩ := hI.out
      have hno : c ∉ s.data.toList.drop f := by
        have := seg_no (L := s.data.toList) hf (by rw [← HS.out]; exact Nat.le_refl _) o5
        rwa [List.take_of_length_le (by rw [List.length_drop, ← HS.out]; exact Nat.le_refl _)] at this
      have HE := Hid.of (pcs_miss hno)
      have HO := Hid.of (And.intro o1 (And.intro o3 o4))
      have hext : (s.data.toList.drop f).take (s.size - f) = s.data.toList.drop f := List.take_of_length_le (by rw [List.length_drop, ← HS.out]; exact Nat.le_refl _)
      clear o1 o3 o4 o5 hI hno
      go_wp2_with (with_reducible show wpList _ _ _ ({ dst := _, op := Op.call { callee := Callee.builtin Builtin.append, args := _, argTypes := _ }, type := _, pos := _, after := _, guard := _ } :: _) _ _; refine Shut.out ?_)
      show wpList _ _ _ _ _ _
      simp only [ext_str, hext]
      refine wpList_appS rfl _ _ rfl w.heap.size _ xs (s.data.toList.drop f) rfl (by exact HO.out.1) 1 rfl (by omega) HO.out.2.2.size ?_
      intro v' w3 h3 k3
      have H3 := Hid.of (And.intro h3 (HO.out.2.2.step (Nat.le_refl _) k3))
      clear h3 k3
      simp only [Act.put, List.setIfInBounds_toArray, List.set_cons_zero, List.set_cons_succ]
      go_wp2
      go_ret
      rw [HO.out.2.1, HE.out]
      exact ⟨_, rfl, H3.out.1, H3.out.2⟩
set_option maxRecDepth 100000 in
theorem ahead_walk (s : ByteArray) (c : UInt8) (hs : s.size ≤ 1048576) (w : World) : Calls Tryz.prog 64 #[.string s, .int .u8 (c.toNat : Int)] w fun e w' => e = .returned (.string ⟨(ahd c s.data.toList).toArray⟩) ∧ Up w w' := by
  have HP := Hid.of (Pieces_walk s c hs w)
  have HA := Hid.of (ahd_pcs c s.data.toList)
  generalize pcs c s.data.toList = ps at *
  clear hs
  go_enter Tryz.func64, Tryz.ntmps64
  go_wp2_with fail
  refine HP.out.mono ?_
  rintro e w1 ⟨v, rfl, h1, u1⟩
  have hS := h1.sl
  obtain ⟨a, n, rfl⟩ := hS.len
  cases ps with
  | nil => cases HA.out
  | cons y ys =>
    obtain ⟨b, off, e1, hc⟩ := hS.get (i := 0) (by simp)
    subst e1
    have hy : y = ahd c s.data.toList := Option.some.inj HA.out
    simp only [List.getElem_cons_zero, Nat.add_zero] at hc
    rw [hy] at hc
    have H1 := Hid.of u1
    have hlz : (0 : Int) < ((y :: ys).length : Int) := by rw [List.length_cons]; omega
    generalize (y :: ys).length = m at *
    obtain ⟨q, hq⟩ : ∃ q : ByteArray, ⟨(ahd c s.data.toList).toArray⟩ = q := ⟨_, rfl⟩
    rw [hq] at hc
    have HQ := Hid.of hq
    clear u1 h1 hS hy HA HP hq
    dsimp only
    go_wp2
    go_ret
    rw [HQ.out]
    exact ⟨rfl, H1.out⟩
theorem sfx_drop (p l : List UInt8) : sfx p l = (decide (p.length ≤ l.length) && (l.drop (l.length - p.length) == p)) := by
  unfold sfx
  rw [Bool.eq_iff_iff, List.isSuffixOf_iff_suffix]
  simp only [Bool.and_eq_true, decide_eq_true_eq, beq_iff_eq]
  constructor
  · intro h
    exact ⟨h.length_le, (List.suffix_iff_eq_drop.1 h).symm⟩
  · rintro ⟨_, h⟩
    rw [← h]
    exact List.drop_suffix _ _
set_option maxRecDepth 100000 in
theorem ends_walk (s : ByteArray) (hs : s.size ≤ 1048576) (w : World) : Calls Tryz.prog 63 #[.string s, .string ⟨#[43, 105, 110, 99, 111, 109, 112, 97, 116, 105, 98, 108, 101]⟩] w fun e w' => e = .returned (.bool (sfx INC s.data.toList)) ∧ Up w w' := by
  have HX := Hid.of (sfx_drop INC s.data.toList)
  rw [len_of] at HX
  by_cases h : 13 ≤ s.size
  · have hz : (13 : Int) ≤ (s.size : Int) := by omega
    have HE := Hid.of (show sfx INC s.data.toList = (s.data.toList.drop (s.size - 13) == INC) by rw [HX.out, show INC.length = 13 from rfl, decide_eq_true h]; rfl)
    have HL := Hid.of (show (s.data.toList.drop (s.size - 13)).take (s.size - (s.size - 13)) = s.data.toList.drop (s.size - 13) from List.take_of_length_le (by rw [List.length_drop, len_of]; omega))
    go_enter Tryz.func63, Tryz.ntmps63
    go_wp2
    go_ret
    rw [HE.out]
    exact ⟨by simp only [eq_str, ext_str, HL.out]; rfl, Up.refl _⟩
  · have hz : ¬ (13 : Int) ≤ (s.size : Int) := by omega
    have HE := Hid.of (show sfx INC s.data.toList = false by rw [HX.out, show INC.length = 13 from rfl, decide_eq_false h]; rfl)
    go_enter Tryz.func63, Tryz.ntmps63
    go_wp2
    go_ret
    rw [HE.out]
    exact ⟨rfl, Up.refl _⟩
end Go.Proofs.YtaphjbcnnkoffaaGreatDoor
