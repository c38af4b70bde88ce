import Derived.Test.YtfmdaollnjnhgaaDoorCb
namespace Go.Proofs.YtfmdaollnjnhgaaDoor
open Go.RowKit Go.Shelf TextNum ModNum
theorem drop_at {s : ByteArray} {i : Nat} (h : i < s.size) : s.data.toList.drop i = s[i] :: s.data.toList.drop (i + 1) := by
  rw [List.drop_eq_getElem_cons (by rw [len_of]; exact h)]
  rfl
theorem cmpB_at {a b : ByteArray} {i : Nat} (ha : i < a.size) (hb : i < b.size) : cmpB (a.data.toList.drop i) (b.data.toList.drop i) = if a[i].toNat < b[i].toNat then -1 else if b[i].toNat < a[i].toNat then 1 else cmpB (a.data.toList.drop (i + 1)) (b.data.toList.drop (i + 1)) := by
  rw [drop_at ha, drop_at hb]
  rfl
set_option maxRecDepth 100000 in
set_option maxHeartbeats 2000000 in
theorem bytes_walk' (a b : ByteArray) (hsa : a.size ≤ 1048576) (w : World) : Calls Tryd.prog 77 #[.string a, .string b] w fun e w' => e = .returned (.int .i64 (cmpB a.data.toList b.data.toList)) ∧ Up w w' := by
  go_enter Tryd.func77, Tryd.ntmps77
  go_wp2
  go_loopw [5] (fun v5 wr => ∃ i : Nat, v5 = .int .i64 (i : Int) ∧ i ≤ a.size ∧ i ≤ b.size ∧ Hid (cmpB a.data.toList b.data.toList = cmpB (a.data.toList.drop i) (b.data.toList.drop i) ∧ Up w wr)) (fun v5 _ => a.size - (intOf v5).toNat)
  case atStart => exact ⟨0, rfl, by omega, by omega, rfl, Up.refl _⟩
  case round =>
    obtain ⟨i, rfl, hi, hib, hI⟩ := hrel
    by_cases hla : i < a.size
    · have hlaz : (i : Int) < (a.size : Int) := by omega
      by_cases hlb : i < b.size
      · have hlbz : (i : Int) < (b.size : Int) := by omega
        have HX := Hid.of (hI.out.1.trans (cmpB_at hla hlb))
        generalize hxx : a[i] = x at *
        generalize hyy : b[i] = y at *
        rcases Nat.lt_trichotomy x.toNat y.toNat with h | h | h
        · have HR := Hid.of (HX.out.trans (if_pos h))
          have h1 : ((x.toNat : Int) != (y.toNat : Int)) = true := by rw [bne_iff_ne]; omega
          have h2 : (x.toNat : Int) < (y.toNat : Int) := by omega
          clear h HX
          go_wp2
          go_region
          go_wp2
          go_region
          go_wp2
          go_ret
          rw [HR.out]
          exact ⟨rfl, hI.out.2.drew.drew⟩
        · have HR := Hid.of (HX.out.trans (by rw [if_neg (by omega), if_neg (by omega)]))
          have h1 : (x.toNat : Int) = (y.toNat : Int) := by omega
          clear h HX
          go_wp2
          go_region
          go_wp2
          go_roundw
          case rel => exact ⟨i + 1, by go_num, by omega, by omega, HR.out, hI.out.2.drew⟩
          case measure => simp [intOf]; omega
        · have HR := Hid.of (HX.out.trans (by rw [if_neg (by omega), if_pos h]))
          have h1 : ((x.toNat : Int) != (y.toNat : Int)) = true := by rw [bne_iff_ne]; omega
          have h2 : ¬ (x.toNat : Int) < (y.toNat : Int) := by omega
          clear h HX
          go_wp2
          go_region
          go_wp2
          go_region
          go_wp2
          go_ret
          rw [HR.out]
          exact ⟨rfl, hI.out.2.drew.drew⟩
      · have hlbz : ¬ (i : Int) < (b.size : Int) := by omega
        have h1 : ¬ (a.size : Int) < (b.size : Int) := by omega
        have h2 : (b.size : Int) < (a.size : Int) := by omega
        have HR := Hid.of (show cmpB a.data.toList b.data.toList = 1 by
          rw [hI.out.1, drop_at hla, List.drop_of_length_le (l := b.data.toList) (by rw [len_of]; omega)]; rfl)
        go_wp2
        go_ret
        rw [HR.out]
        exact ⟨rfl, hI.out.2⟩
    · have hlaz : ¬ (i : Int) < (a.size : Int) := by omega
      by_cases hlb : i < b.size
      · have h1 : (a.size : Int) < (b.size : Int) := by omega
        have HR := Hid.of (show cmpB a.data.toList b.data.toList = -1 by
          rw [hI.out.1, drop_at hlb, List.drop_of_length_le (l := a.data.toList) (by rw [len_of]; omega)]; rfl)
        go_wp2
        go_ret
        rw [HR.out]
        exact ⟨rfl, hI.out.2⟩
      · have h1 : ¬ (a.size : Int) < (b.size : Int) := by omega
        have h2 : ¬ (b.size : Int) < (a.size : Int) := by omega
        have HR := Hid.of (show cmpB a.data.toList b.data.toList = 0 by
          rw [hI.out.1, List.drop_of_length_le (l := b.data.toList) (by rw [len_of]; omega), List.drop_of_length_le (l := a.data.toList) (by rw [len_of]; omega)]; rfl)
        go_wp2
        go_ret
        rw [HR.out]
        exact ⟨rfl, hI.out.2⟩
set_option maxRecDepth 100000 in
theorem numbers_walk (a b : ByteArray) (hsa : a.size ≤ 1048576) (w : World) : Calls Tryd.prog 46 #[.string a, .string b] w fun e w' => e = .returned (.int .i64 (cmpU a.data.toList b.data.toList)) ∧ Up w w' := by
  have HB := Hid.of (bytes_walk' a b hsa w)
  have HU : Hid (cmpU a.data.toList b.data.toList = if cmpN a.size b.size = 0 then cmpB a.data.toList b.data.toList else cmpN a.size b.size) := by
    rw [← len_of a, ← len_of b]; rfl
  generalize cmpU a.data.toList b.data.toList = u at *
  generalize cmpB a.data.toList b.data.toList = c at *
  rcases Nat.lt_trichotomy a.size b.size with h | h | h
  · have HR := Hid.of (show u = -1 by rw [HU.out]; simp [cmpN, h])
    have h1 : ((a.size : Int) != (b.size : Int)) = true := by rw [bne_iff_ne]; omega
    have h2 : (a.size : Int) < (b.size : Int) := by omega
    clear h HU
    go_enter Tryd.func46, Tryd.ntmps46
    go_wp2
    go_ret
    rw [HR.out]
    exact ⟨rfl, Up.refl _⟩
  · have HR := Hid.of (show u = c by rw [HU.out]; simp [cmpN, h])
    have h1 : (a.size : Int) = (b.size : Int) := by omega
    clear h HU
    go_enter Tryd.func46, Tryd.ntmps46
    go_wp2_with fail
    refine (HB.out).mono ?_
    rintro e w1 ⟨rfl, u1⟩
    have H1 := Hid.of (u1)
    have Hu1 := Hid.of u1
    clear u1
    dsimp only
    go_wp2
    go_ret
    rw [HR.out]
    exact ⟨rfl, H1.out⟩
  · have HR := Hid.of (show u = 1 by rw [HU.out]; simp [cmpN, h, Nat.lt_asymm h])
    have h1 : ((a.size : Int) != (b.size : Int)) = true := by rw [bne_iff_ne]; omega
    have h2 : ¬ (a.size : Int) < (b.size : Int) := by omega
    clear h HU
    go_enter Tryd.func46, Tryd.ntmps46
    go_wp2
    go_ret
    rw [HR.out]
    exact ⟨rfl, Up.refl _⟩
theorem wrd_num {l : List UInt8} (h : isWrd l = true) : isNum l = dgl l := by
  have h1 := isWrd_eq l
  rw [h] at h1
  cases hd : dgl l with
  | true =>
    rw [hd] at h1
    simp at h1
    exact h1.2
  | false => rw [isNum_eq, hd]; rfl
set_option maxRecDepth 100000 in
theorem words_walk (a b : ByteArray) (hsa : a.size ≤ 1048576) (hsb : b.size ≤ 1048576) (ha : isWrd a.data.toList = true) (hb : isWrd b.data.toList = true) (w : World) : Calls Tryd.prog 78 #[.string a, .string b] w fun e w' => e = .returned (.int .i64 (cmpW a.data.toList b.data.toList)) ∧ Up w w' := by
  have HB := fun w' => Hid.of (bytes_walk' a b hsa w')
  have HN := fun w' => Hid.of (numbers_walk a b hsa w')
  have HX := Hid.of (digits_walk a hsa w)
  have HY := fun w' => Hid.of (digits_walk b hsb w')
  have HW : Hid (cmpW a.data.toList b.data.toList = if dgl a.data.toList then (if dgl b.data.toList then cmpU a.data.toList b.data.toList else -1) else if dgl b.data.toList then 1 else cmpB a.data.toList b.data.toList) := by
    rw [← wrd_num ha, ← wrd_num hb]; rfl
  generalize cmpW a.data.toList b.data.toList = r at *
  generalize cmpU a.data.toList b.data.toList = u at *
  generalize cmpB a.data.toList b.data.toList = c at *
  generalize dgl a.data.toList = x at *
  generalize dgl b.data.toList = y at *
  clear ha hb hsa hsb
  go_enter Tryd.func78, Tryd.ntmps78
  go_wp2_with fail
  refine (HX.out).mono ?_
  rintro e w1 ⟨rfl, u1⟩
  have H1 := Hid.of (u1)
  have Hu1 := Hid.of u1
  clear u1
  dsimp only
  go_wp2_with fail
  refine ((HY _).out).mono ?_
  rintro e w2 ⟨rfl, u2⟩
  have H2 := Hid.of (H1.out.trans u2)
  have Hu2 := Hid.of u2
  clear u2
  dsimp only
  cases x with
  | true =>
    cases y with
    | true =>
      have HR := Hid.of HW.out
      go_wp2_with fail
      refine ((HN _).out).mono ?_
      rintro e w3 ⟨rfl, u3⟩
      have H3 := Hid.of (H2.out.trans u3)
      have Hu3 := Hid.of u3
      clear u3
      dsimp only
      go_wp2
      go_ret
      rw [HR.out]
      exact ⟨rfl, H3.out⟩
    | false =>
      have HR := Hid.of HW.out
      go_wp2
      go_ret
      rw [HR.out]
      exact ⟨rfl, H2.out⟩
  | false =>
    cases y with
    | true =>
      have HR := Hid.of HW.out
      go_wp2
      go_ret
      rw [HR.out]
      exact ⟨rfl, H2.out⟩
    | false =>
      have HR := Hid.of HW.out
      go_wp2_with fail
      refine ((HB _).out).mono ?_
      rintro e w3 ⟨rfl, u3⟩
      have H3 := Hid.of (H2.out.trans u3)
      have Hu3 := Hid.of u3
      clear u3
      dsimp only
      go_wp2
      go_ret
      rw [HR.out]
      exact ⟨rfl, H3.out⟩
end Go.Proofs.YtfmdaollnjnhgaaDoor
