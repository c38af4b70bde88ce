import Derived.Test.YtfhdddhapjdocaaDoorMu
import Derived.Test.YtfhdddhapjdocaaDoorHg
namespace Go.Proofs.YtfhdddhapjdocaaDoor
open Go.RowKit Go.Shelf TextNum ModNum
/-- a letter escaped -/
def es1 (c : UInt8) : List UInt8 := if kd c.toNat = 2 then [33, c + 32] else [c]
def esc' (l : List UInt8) : List UInt8 := l.flatMap es1
/-- an escaped text turned back -/
def une : List UInt8 → Option (List UInt8)
  | [] => some []
  | c :: r => if kd c.toNat = 2 then none else if c = 33 then (match r with
      | [] => none
      | d :: r' => if kd d.toNat = 1 then (une r').map ((d - 32) :: ·) else none) else (une r).map (c :: ·)
theorem kd_cap {c : UInt8} : kd c.toNat = 2 ↔ 65 ≤ c.toNat ∧ c.toNat ≤ 90 := by
  unfold kd
  (repeat' split) <;> omega
theorem kd_sml {c : UInt8} : kd c.toNat = 1 ↔ 97 ≤ c.toNat ∧ c.toNat ≤ 122 := by
  unfold kd
  (repeat' split) <;> omega
theorem up_nat {c : UInt8} (h : kd c.toNat = 2) : (c + 32).toNat = c.toNat + 32 := by
  have := kd_cap.1 h
  rw [UInt8.toNat_add]
  show (c.toNat + 32) % 256 = _
  omega
theorem dn_nat {c : UInt8} (h : kd c.toNat = 1) : (c - 32).toNat = c.toNat - 32 := by
  have := kd_sml.1 h
  rw [UInt8.toNat_sub]
  show (256 - 32 + c.toNat) % 256 = _
  omega
theorem une_esc : ∀ (l p : List UInt8), une l = some p → esc' p = l
  | [], p, h => by simp [une] at h; subst h; rfl
  | c :: r, p, h => by
    unfold une at h
    split at h
    · cases h
    · rename_i h1
      split at h
      · rename_i h2
        subst h2
        match r, h with
        | [], h => cases h
        | d :: r', h =>
          simp only at h
          split at h
          · rename_i h3
            obtain ⟨q, hq, rfl⟩ := Option.map_eq_some_iff.1 h
            have ih := une_esc r' q hq
            have hn := dn_nat h3
            have hs := kd_sml.1 h3
            have h4 : kd (d - 32).toNat = 2 := kd_cap.2 (by rw [hn]; omega)
            have h5 : d - 32 + 32 = d := UInt8.toNat_inj.1 (by rw [up_nat h4, hn]; omega)
            show es1 (d - 32) ++ esc' q = _
            rw [ih]
            unfold es1
            rw [if_pos h4, h5]
            rfl
          · cases h
      · obtain ⟨q, hq, rfl⟩ := Option.map_eq_some_iff.1 h
        have ih := une_esc r q hq
        show es1 c ++ esc' q = _
        rw [ih]
        unfold es1
        rw [if_neg h1]
        rfl
theorem esc_une : ∀ (p : List UInt8), (33 : UInt8) ∉ p → une (esc' p) = some p
  | [], _ => rfl
  | c :: p, h => by
    have ih := esc_une p (fun e => h (by simp [e]))
    show une (es1 c ++ esc' p) = _
    unfold es1
    by_cases h2 : kd c.toNat = 2
    · rw [if_pos h2]
      have hn := up_nat h2
      have hc := kd_cap.1 h2
      have h3 : kd (c + 32).toNat = 1 := kd_sml.2 (by rw [hn]; omega)
      have h5 : c + 32 - 32 = c := UInt8.toNat_inj.1 (by rw [dn_nat h3, hn]; omega)
      show une (33 :: (c + 32) :: esc' p) = _
      unfold une
      rw [if_neg (by decide), if_pos rfl]
      simp only
      rw [if_pos h3, ih, h5]
      rfl
    · rw [if_neg h2]
      have hne : ¬ c = 33 := fun e => h (by simp [e])
      show une (c :: esc' p) = _
      unfold une
      rw [if_neg h2, if_neg hne, ih]
      rfl
theorem esc_len (l : List UInt8) : (esc' l).length ≤ 2 * l.length := by
  induction l with
  | nil => simp [esc']
  | cons c l ih =>
    show (es1 c ++ esc' l).length ≤ _
    rw [List.length_append, List.length_cons]
    have : (es1 c).length ≤ 2 := by unfold es1; split <;> simp
    omega
theorem esc_snoc (l : List UInt8) (c : UInt8) : esc' (l ++ [c]) = esc' l ++ es1 c := by simp [esc']
theorem u8_32 (c : UInt8) : ((c.toNat : Int) + 32) % 256 = ((c + 32 : UInt8).toNat : Int) := by
  rw [UInt8.toNat_add]
  show ((c.toNat : Int) + 32) % 256 = (((c.toNat + 32) % 256 : Nat) : Int)
  omega
theorem u8_m32 (c : UInt8) : ((c.toNat : Int) - 32) % 256 = ((c - 32 : UInt8).toNat : Int) := by
  have := c.toNat_lt
  rw [UInt8.toNat_sub]
  show ((c.toNat : Int) - 32) % 256 = (((256 - 32 + c.toNat) % 256 : Nat) : Int)
  omega
theorem w32 (c : UInt8) : wrap32 ((c.toNat : Nat) : Int) = (c.toNat : Int) := by
  have := c.toNat_lt
  unfold wrap32
  omega
set_option maxRecDepth 100000 in
set_option maxHeartbeats 1000000 in
theorem escape_walk (s : ByteArray) (hs : s.size ≤ 1048576) (w : World) (hG : GM w) : Calls Tryd.prog 35 #[.string s] w fun e w' => e = .returned (vs (esc' s.data.toList)) ∧ Up w w' := by
  have HG := Hid.of hG
  clear hG
  have hq : IntKind.i64.wrap (2 * (s.size : Int)) = 2 * (s.size : Int) := by
    simp only [IntKind.wrap, IntKind.signed, IntKind.bits]
    simp
    omega
  go_enter Tryd.func35, Tryd.ntmps35
  go_wp2_with (with_reducible show wpList _ _ _ ({ dst := _, op := Op.makeSlice 32 _ _, type := _, pos := _, after := _, guard := _ } :: _) _ _; refine Shut.out ?_)
  show wpList _ _ _ _ _ _
  refine wpList_mk rfl _ _ rfl _ _ _ (2 * s.size) rfl rfl (by omega) (by omega) ?_
  intro w1 h1 u1
  simp only [Act.put, List.setIfInBounds_toArray, List.set_cons_zero, List.set_cons_succ]
  have H1 := Hid.of (And.intro h1 u1)
  clear h1 u1 hq
  go_wp2
  go_loopw [3, 4, 11] (fun v3 _ v11 wr => ∃ i : Nat, v11 = .int .i64 (i : Int) ∧ i ≤ s.size ∧ Hid (Own wr w.heap.size v3 (esc' (s.data.toList.take i)) ∧ Up w wr)) (fun _ _ v11 _ => s.size - (intOf v11).toNat)
  case atStart => exact ⟨0, rfl, by omega, H1.out.1, H1.out.2⟩
  case round =>
    obtain ⟨i, rfl, hi, hI⟩ := hrel
    by_cases hlt : i < s.size
    · have hlt' : (i : Int) < (s.size : Int) := by omega
      have HK := Hid.of (kindOf_walk s[i].toNat wr (HG.out.up hI.out.2))
      have hX := esc_snoc (s.data.toList.take i) s[i]
      rw [← take_succ hlt] at hX
      have HX := Hid.of (And.intro hX trivial)
      clear hX
      have hlen := esc_len (s.data.toList.take i)
      rw [List.length_take, len_of] at hlen
      have HL := Hid.of (show (esc' (s.data.toList.take i)).length + 2 ≤ 140737488355328 by omega)
      clear hlen
      have hw3 := w32 s[i]
      generalize hxx : s[i] = x at *
      by_cases hc : kd x.toNat = 2
      · rw [hc] at HK
        have HE : Hid (es1 x = [33, x + 32] ∧ True) := ⟨if_pos hc, trivial⟩
        have H32 := Hid.of (And.intro (u8_32 x) trivial)
        clear hc
        go_wp2_with fail
        refine (HK.out).mono ?_
        rintro e w2 ⟨rfl, u2⟩
        have H2 := Hid.of (hI.out.2.trans u2)
        have Hu2 := Hid.of u2
        clear u2
        dsimp only
        go_wp2_with (with_reducible show wpList _ _ _ ({ dst := _, op := Op.call { callee := Callee.builtin Builtin.append, args := _, argTypes := _ }, type := _, pos := _, after := _, guard := _ } :: _) _ _; refine Shut.out ?_)
        show wpList _ _ _ _ _ _
        rw [H32.out.1]
        refine wpList_app1 (w := w2) rfl _ _ rfl w.heap.size _ (esc' (s.data.toList.take i)) [33, x + 32] rfl (by exact hI.out.1.below Hu2.out) 2 rfl HL.out H2.out.size ?_
        intro v' w' h1 h2
        simp only [Act.put, List.setIfInBounds_toArray, List.set_cons_zero, List.set_cons_succ]
        go_wp2
        go_roundw
        case rel => exact ⟨i + 1, by go_num, by omega, by rw [HX.out.1, HE.out.1]; exact h1, H2.out.step (Nat.le_refl _) h2⟩
        case measure => simp [intOf]; omega
      · have HE : Hid (es1 x = [x] ∧ True) := ⟨if_neg hc, trivial⟩
        have hkz : (((kd x.toNat : Nat) : Int) == 2) = false := by rw [beq_eq_false_iff_ne]; omega
        generalize kd x.toNat = kk at *
        clear hc
        go_wp2_with fail
        refine (HK.out).mono ?_
        rintro e w2 ⟨rfl, u2⟩
        have H2 := Hid.of (hI.out.2.trans u2)
        have Hu2 := Hid.of u2
        clear u2
        dsimp only
        go_wp2_with (with_reducible show wpList _ _ _ ({ dst := _, op := Op.call { callee := Callee.builtin Builtin.append, args := _, argTypes := _ }, type := _, pos := _, after := _, guard := _ } :: _) _ _; refine Shut.out ?_)
        show wpList _ _ _ _ _ _
        refine wpList_app1 (w := w2) rfl _ _ rfl w.heap.size _ (esc' (s.data.toList.take i)) [x] rfl (by exact hI.out.1.below Hu2.out) 1 rfl (by have := HL.out; simp; omega) H2.out.size ?_
        intro v' w' h1 h2
        simp only [Act.put, List.setIfInBounds_toArray, List.set_cons_zero, List.set_cons_succ]
        go_wp2
        go_roundw
        case rel => exact ⟨i + 1, by go_num, by omega, by rw [HX.out.1, HE.out.1]; exact h1, H2.out.step (Nat.le_refl _) h2⟩
        case measure => simp [intOf]; omega
    · have hcv := conv_sl (Own.sl hI.out.1)
      have hltz : ¬ (i : Int) < (s.size : Int) := by omega
      rw [List.take_of_length_le (by rw [len_of]; omega)] at hcv
      go_wp2
      go_ret
      exact ⟨rfl, hI.out.2⟩
end Go.Proofs.YtfhdddhapjdocaaDoor
