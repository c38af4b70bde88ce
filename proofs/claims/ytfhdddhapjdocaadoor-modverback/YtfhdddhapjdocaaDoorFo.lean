import Derived.Test.YtfhdddhapjdocaaDoorSp
namespace Go.Proofs.YtfhdddhapjdocaaDoor
open Go.RowKit Go.Shelf TextNum ModNum
theorem mem_pcs {c x : UInt8} : ∀ {l : List UInt8}, x ∈ l → x = c ∨ ∃ p ∈ pcs c l, x ∈ p
  | [], h => by cases h
  | y :: r, h => by
    unfold pcs
    split
    · rename_i hy
      rcases List.mem_cons.1 h with e | h
      · left; rw [e, hy]
      · rcases mem_pcs (c := c) h with h | ⟨p, hp, hx⟩
        · exact .inl h
        · exact .inr ⟨p, List.mem_cons_of_mem _ hp, hx⟩
    · split
      · rename_i e; exact absurd e (pcs_ne c r)
      · rename_i q qs e
        rcases List.mem_cons.1 h with rfl | h
        · exact .inr ⟨_, List.mem_cons_self, List.mem_cons_self⟩
        · rcases mem_pcs (c := c) h with h | ⟨p, hp, hx⟩
          · exact .inl h
          · rw [e] at hp
            rcases List.mem_cons.1 hp with rfl | hp
            · exact .inr ⟨_, List.mem_cons_self, List.mem_cons_of_mem _ hx⟩
            · exact .inr ⟨p, List.mem_cons_of_mem _ hp, hx⟩
/-- a byte that may stand in a version -/
def vch (c : UInt8) : Prop := kd c.toNat &&& 31 ≠ 0 ∨ c = 43
theorem and_kd (n : Nat) : kd n = 0 ∨ kd n = 1 ∨ kd n = 2 ∨ kd n = 4 ∨ kd n = 8 ∨ kd n = 16 ∨ kd n = 32 ∨ kd n = 64 := by
  unfold kd
  (repeat' split) <;> simp
theorem num_ch {l : List UInt8} (h : isNum l = true) {c : UInt8} (hc : c ∈ l) : vch c := by
  unfold isNum at h
  rw [Bool.and_eq_true] at h
  have h2 := al_mem h.1 hc
  left
  rcases and_kd c.toNat with e | e | e | e | e | e | e | e <;> rw [e] at h2 ⊢ <;> first | decide | exact absurd rfl h2
theorem wrd_ch {l : List UInt8} (h : isWrd l = true) {c : UInt8} (hc : c ∈ l) : vch c := by
  unfold isWrd at h
  split at h
  · exact num_ch h hc
  · have h2 := al_mem h hc
    left
    rcases and_kd c.toNat with e | e | e | e | e | e | e | e <;> rw [e] at h2 ⊢ <;> first | decide | exact absurd rfl h2
theorem inc_ch : ∀ c ∈ INC, vch c := by unfold vch; decide
theorem tsf_mem {p l : List UInt8} {c : UInt8} (hc : c ∈ l) : c ∈ tsf p l ∨ c ∈ p := by
  unfold tsf sfx
  split
  · rename_i h
    obtain ⟨t, rfl⟩ := List.isSuffixOf_iff_suffix.1 h
    rw [List.length_append, Nat.add_sub_cancel, List.take_left']
    · exact (List.mem_append.1 hc)
    · rfl
  · exact .inl hc
theorem ver_ch {l : List UInt8} {q : Prt} (h : ver l = some q) : ∀ c ∈ l, vch c := by
  intro c hc
  have hh := (ver_len h).2
  unfold ver at h
  split at h
  · cases h
  · split at h
    · rename_i h3
      obtain ⟨hn, hok⟩ := h3
      unfold vok at hok
      rw [Bool.and_eq_true, Bool.and_eq_true, List.all_eq_true, List.all_eq_true] at hok
      cases l with
      | nil => cases hc
      | cons x r =>
        injection hh with hx
        subst hx
        rcases List.mem_cons.1 hc with rfl | hc
        · left; decide
        · rcases tsf_mem (p := INC) hc with hc | hc
          · have hv : vcore (118 :: r) = tsf INC r := rfl
            rw [← hv] at hc
            have hdot : vch 46 := by left; decide
            have hda : vch 45 := by left; decide
            by_cases hd : 45 ∈ vcore (118 :: r)
            · rw [cut_eq hd] at hc
              rcases List.mem_append.1 hc with hc | hc
              · rcases mem_pcs (c := 46) hc with rfl | ⟨p, hp, hx⟩
                · exact hdot
                · exact num_ch (hok.1.1 p hp) hx
              · rcases List.mem_cons.1 hc with rfl | hc
                · exact hda
                · rcases mem_pcs (c := 46) hc with rfl | ⟨p, hp, hx⟩
                  · exact hdot
                  · exact wrd_ch (hok.1.2 p (by unfold vprt; rw [if_pos hd]; exact hp)) hx
            · have hc2 : c ∈ ahd 45 (vcore (118 :: r)) := by rw [ahd_miss hd]; exact hc
              rcases mem_pcs (c := 46) hc2 with rfl | ⟨p, hp, hx⟩
              · exact hdot
              · exact num_ch (hok.1.1 p hp) hx
          · exact inc_ch c hc
    · cases h
theorem ver_33 {l : List UInt8} {q : Prt} (h : ver l = some q) : (33 : UInt8) ∉ l := fun hc => by
  rcases ver_ch h 33 hc with h | h
  · exact h (by decide)
  · cases h
theorem maj_33 {l m : List UInt8} (h : maj l = some m) : (33 : UInt8) ∉ l := fun hc => al_mem (maj_len h).2 hc (by decide)
theorem esc_low (l : List UInt8) : (esc' l).map lwr = esc' l := by
  induction l with
  | nil => rfl
  | cons c l ih =>
    show (es1 c ++ esc' l).map lwr = es1 c ++ esc' l
    rw [List.map_append, ih]
    congr 1
    unfold es1
    split
    · rename_i h
      have h1 := kd_cap.1 h
      have h2 := up_nat h
      have e : lwr (c + 32) = c + 32 := by unfold lwr; rw [if_neg (by rw [h2]; omega)]
      show [lwr 33, lwr (c + 32)] = _
      rw [e]
      rfl
    · rename_i h
      have e : lwr c = c := by unfold lwr; rw [if_neg (fun h2 => h (kd_cap.2 h2))]
      show [lwr c] = _
      rw [e]
theorem esc_inj {a b : List UInt8} (ha : (33 : UInt8) ∉ a) (hb : (33 : UInt8) ∉ b) (h : esc' a = esc' b) : a = b := by
  have h1 := esc_une a ha
  rw [h, esc_une b hb] at h1
  exact (Option.some.inj h1).symm
set_option maxRecDepth 100000 in
set_option maxHeartbeats 1000000 in
theorem lower_walk (s : ByteArray) (hs : s.size ≤ 1048576) (w : World) : Calls Tryd.prog 19 #[.string s] w fun e w' => e = .returned (vs (s.data.toList.map lwr)) ∧ Up w w' := by
  go_enter Tryd.func19, Tryd.ntmps19
  go_wp2
  go_loopw [3, 4, 5] (fun v3 v4 _ wr => ∃ i : Nat, v4 = .int .i64 (i : Int) ∧ i ≤ s.size ∧ Hid (Own wr w.heap.size v3 ((s.data.toList.take i).map lwr) ∧ Up w wr)) (fun _ v4 _ _ => s.size - (intOf v4).toNat)
  case atStart => exact ⟨0, rfl, by omega, own_nil _ _, Up.refl _⟩
  case round =>
    obtain ⟨i, rfl, hi, hI⟩ := hrel
    by_cases hlt : i < s.size
    · have hlt' : (i : Int) < (s.size : Int) := by omega
      have hX : (s.data.toList.take (i + 1)).map lwr = (s.data.toList.take i).map lwr ++ [lwr s[i]] := by rw [take_succ hlt]; simp
      have HX := Hid.of (And.intro hX trivial)
      clear hX
      have HL := Hid.of (show ((s.data.toList.take i).map lwr).length + 1 ≤ 140737488355328 by rw [List.length_map, List.length_take, len_of]; omega)
      have hb := s[i].toNat_lt
      generalize hxx : s[i] = x at *
      by_cases hc : 65 ≤ x.toNat ∧ x.toNat ≤ 90
      · have HE : Hid (lwr x = x + 32 ∧ True) := ⟨if_pos hc, trivial⟩
        have H32 := Hid.of (And.intro (u8_32 x) trivial)
        have H33 := Hid.of (And.intro (show ((x.toNat : Int) + 32) = ((x + 32 : UInt8).toNat : Int) by rw [← u8_32 x]; omega) trivial)
        have k1 : (65 : Int) ≤ (x.toNat : Int) := by omega
        have k2 : (x.toNat : Int) ≤ 90 := by omega
        clear hc
        go_wp2_with (with_reducible show wpList _ _ _ ({ dst := _, op := Op.call { callee := Callee.builtin Builtin.append, args := _, argTypes := _ }, type := _, pos := _, after := _, guard := _ } :: _) _ _; refine Shut.out ?_)
        show wpList _ _ _ _ _ _
        first | rw [H32.out.1] | rw [H33.out.1]
        refine wpList_app1 (w := wr) rfl _ _ rfl w.heap.size _ ((s.data.toList.take i).map lwr) [x + 32] rfl (by exact hI.out.1) 1 rfl (by have := HL.out; simp at this ⊢; omega) hI.out.2.size ?_
        intro v' w' h1 h2
        simp only [Act.put, List.setIfInBounds_toArray, List.set_cons_zero, List.set_cons_succ]
        go_wp2
        go_roundw
        case rel => exact ⟨i + 1, by go_num, by omega, by rw [HX.out.1, HE.out.1]; exact h1, hI.out.2.step (Nat.le_refl _) h2⟩
        case measure => simp [intOf]; omega
      · have HE : Hid (lwr x = x ∧ True) := ⟨if_neg hc, trivial⟩
        by_cases k1 : 65 ≤ x.toNat
        · have k1z : (65 : Int) ≤ (x.toNat : Int) := by omega
          have k2z : ¬ (x.toNat : Int) ≤ 90 := by omega
          clear hc k1
          go_wp2_with (with_reducible show wpList _ _ _ ({ dst := _, op := Op.call { callee := Callee.builtin Builtin.append, args := _, argTypes := _ }, type := _, pos := _, after := _, guard := _ } :: _) _ _; refine Shut.out ?_)
          show wpList _ _ _ _ _ _
          refine wpList_app1 (w := wr) rfl _ _ rfl w.heap.size _ ((s.data.toList.take i).map lwr) [x] rfl (by exact hI.out.1) 1 rfl (by have := HL.out; simp at this ⊢; omega) hI.out.2.size ?_
          intro v' w' h1 h2
          simp only [Act.put, List.setIfInBounds_toArray, List.set_cons_zero, List.set_cons_succ]
          go_wp2
          go_roundw
          case rel => exact ⟨i + 1, by go_num, by omega, by rw [HX.out.1, HE.out.1]; exact h1, hI.out.2.step (Nat.le_refl _) h2⟩
          case measure => simp [intOf]; omega
        · have k1z : ¬ (65 : Int) ≤ (x.toNat : Int) := by omega
          clear hc k1
          go_wp2_with (with_reducible show wpList _ _ _ ({ dst := _, op := Op.call { callee := Callee.builtin Builtin.append, args := _, argTypes := _ }, type := _, pos := _, after := _, guard := _ } :: _) _ _; refine Shut.out ?_)
          show wpList _ _ _ _ _ _
          refine wpList_app1 (w := wr) rfl _ _ rfl w.heap.size _ ((s.data.toList.take i).map lwr) [x] rfl (by exact hI.out.1) 1 rfl (by have := HL.out; simp at this ⊢; omega) hI.out.2.size ?_
          intro v' w' h1 h2
          simp only [Act.put, List.setIfInBounds_toArray, List.set_cons_zero, List.set_cons_succ]
          go_wp2
          go_roundw
          case rel => exact ⟨i + 1, by go_num, by omega, by rw [HX.out.1, HE.out.1]; exact h1, hI.out.2.step (Nat.le_refl _) h2⟩
          case measure => simp [intOf]; omega
    · have hcv := conv_sl (Own.sl hI.out.1)
      have hltz : ¬ (i : Int) < (s.size : Int) := by omega
      rw [List.take_of_length_le (by rw [len_of]; omega)] at hcv
      go_wp2
      go_ret
      exact ⟨rfl, hI.out.2⟩
theorem lower_esc (l : List UInt8) (hl : l.length ≤ 255) (s : ByteArray) (hs : s = ⟨(esc' l).toArray⟩) (w : World) : Calls Tryd.prog 19 #[.string s] w fun e w' => e = .returned (.string s) ∧ Up w w' := by
  have h2 := esc_len l
  have := lower_walk ⟨(esc' l).toArray⟩ (by rw [str_len]; omega) w
  rw [ba_data', esc_low] at this
  rw [hs]
  exact this
set_option maxRecDepth 100000 in
set_option maxHeartbeats 4000000 in
theorem folds_walk (a b : ByteArray) (w : World) (hG : GR w) (hT : TabL w) : Calls Tryd.prog 6 #[.string a, .string b] w fun e w' => e = .returned (.bool true) ∧ Up w w' := by
  have HS := Hid.of (sample_walk w hG hT)
  have HPa := fun w' => fun (u : Up w w') => Hid.of (EscapePath_walk a w' (hG.up u))
  have HPb := fun w' => fun (u : Up w w') => Hid.of (EscapePath_walk b w' (hG.up u))
  have HVa := fun w' => fun (u : Up w w') => Hid.of (EscapeVersion_walk a w' (hG.up u).toGM)
  have HVb := fun w' => fun (u : Up w w') => Hid.of (EscapeVersion_walk b w' (hG.up u).toGM)
  clear hG hT
  obtain ⟨ca, sx, hPA⟩ : ∃ (ca : Bool) (sx : ByteArray), (ca = false ∧ majE a.data.toList = 110) ∨ (ca = true ∧ majE a.data.toList = 0 ∧ sx = ⟨(esc' a.data.toList).toArray⟩ ∧ epT a.data.toList = esc' a.data.toList ∧ a.data.toList.length ≤ 255 ∧ (33 : UInt8) ∉ a.data.toList) := by
    cases h : maj a.data.toList with
    | none => exact ⟨false, ⟨#[]⟩, .inl ⟨rfl, majE_none h⟩⟩
    | some m => exact ⟨true, _, .inr ⟨rfl, majE_some h, rfl, by unfold epT; rw [h]; rfl, (maj_len h).1, maj_33 h⟩⟩
  obtain ⟨cb', sy, hPB⟩ : ∃ (cb' : Bool) (sy : ByteArray), (cb' = false ∧ majE b.data.toList = 110) ∨ (cb' = true ∧ majE b.data.toList = 0 ∧ sy = ⟨(esc' b.data.toList).toArray⟩ ∧ epT b.data.toList = esc' b.data.toList ∧ b.data.toList.length ≤ 255 ∧ (33 : UInt8) ∉ b.data.toList) := by
    cases h : maj b.data.toList with
    | none => exact ⟨false, ⟨#[]⟩, .inl ⟨rfl, majE_none h⟩⟩
    | some m => exact ⟨true, _, .inr ⟨rfl, majE_some h, rfl, by unfold epT; rw [h]; rfl, (maj_len h).1, maj_33 h⟩⟩
  obtain ⟨va, tx, hVA⟩ : ∃ (va : Bool) (tx : ByteArray), (va = false ∧ verE a.data.toList = 111) ∨ (va = true ∧ verE a.data.toList = 0 ∧ tx = ⟨(esc' a.data.toList).toArray⟩ ∧ evT a.data.toList = esc' a.data.toList ∧ a.data.toList.length ≤ 255 ∧ (33 : UInt8) ∉ a.data.toList) := by
    cases h : ver a.data.toList with
    | none => exact ⟨false, ⟨#[]⟩, .inl ⟨rfl, verE_none h⟩⟩
    | some m => exact ⟨true, _, .inr ⟨rfl, verE_some h, rfl, by unfold evT; rw [h]; rfl, by have := (ver_len h).1; omega, ver_33 h⟩⟩
  obtain ⟨vb, ty, hVB⟩ : ∃ (vb : Bool) (ty : ByteArray), (vb = false ∧ verE b.data.toList = 111) ∨ (vb = true ∧ verE b.data.toList = 0 ∧ ty = ⟨(esc' b.data.toList).toArray⟩ ∧ evT b.data.toList = esc' b.data.toList ∧ b.data.toList.length ≤ 255 ∧ (33 : UInt8) ∉ b.data.toList) := by
    cases h : ver b.data.toList with
    | none => exact ⟨false, ⟨#[]⟩, .inl ⟨rfl, verE_none h⟩⟩
    | some m => exact ⟨true, _, .inr ⟨rfl, verE_some h, rfl, by unfold evT; rw [h]; rfl, by have := (ver_len h).1; omega, ver_33 h⟩⟩
  have hQ : ∀ (x y : ByteArray), x = ⟨(esc' a.data.toList).toArray⟩ → y = ⟨(esc' b.data.toList).toArray⟩ → (33 : UInt8) ∉ a.data.toList → (33 : UInt8) ∉ b.data.toList → (x.toList == y.toList) = (a.toList == b.toList) := by
    intro x y hx hy h1 h2
    rw [hx, hy]
    simp only [Go.Lib.toList_data]
    rw [Bool.eq_iff_iff]
    simp only [beq_iff_eq]
    exact ⟨fun h => esc_inj h1 h2 h, fun h => by rw [h]⟩
  go_enter Tryd.func6, Tryd.ntmps6
  go_wp2_with fail
  refine (HS.out).mono ?_
  rintro e w1 ⟨rfl, u1⟩
  have H1 := Hid.of (u1)
  have Hu1 := Hid.of u1
  clear u1
  dsimp only
  go_wp2_with fail
  refine ((HPa _ H1.out).out).mono ?_
  rintro e w2 ⟨rfl, u2⟩
  have H2 := Hid.of (H1.out.trans u2)
  have Hu2 := Hid.of u2
  clear u2
  dsimp only
  go_wp2_with fail
  refine ((HPb _ H2.out).out).mono ?_
  rintro e w3 ⟨rfl, u3⟩
  have H3 := Hid.of (H2.out.trans u3)
  have Hu3 := Hid.of u3
  clear u3
  dsimp only
  clear HS HPa HPb
  rcases hPA with ⟨rfl, ha0⟩ | ⟨rfl, ha0, hax, hat, hal, ha3⟩
  · rw [ha0]
    clear hPB ha0
    generalize epT a.data.toList = ga at *
    generalize epT b.data.toList = gb at *
    generalize majE b.data.toList = gc at *
    go_wp2_with fail
    refine ((HVa _ (H3.out)).out).mono ?_
    rintro e w5 ⟨rfl, u5⟩
    have H5 := Hid.of (H3.out.trans u5)
    have Hu5 := Hid.of u5
    clear u5
    dsimp only
    go_wp2_with fail
    refine ((HVb _ H5.out).out).mono ?_
    rintro e w6 ⟨rfl, u6⟩
    have H6 := Hid.of (H5.out.trans u6)
    have Hu6 := Hid.of u6
    clear u6
    dsimp only
    clear HVa HVb
    try clear hab4 hqs hq
    rcases hVA with ⟨rfl, ha0⟩ | ⟨rfl, ha0, hax, hat, hal, ha3⟩
    · rw [ha0]
      clear hVB ha0
      generalize evT a.data.toList = ga at *
      generalize evT b.data.toList = gb at *
      generalize verE b.data.toList = gc at *
      go_wp2
      go_ret
      exact ⟨by simp, H6.out⟩
    · have HL1 := fun w' => Hid.of (lower_esc _ hal tx hax w')
      rw [ha0, hat]
      unfold vs
      rw [← hax]
      rcases hVB with ⟨rfl, hb0⟩ | ⟨rfl, hb0, hbx, hbt, hbl, hb3⟩
      · rw [hb0]
        clear ha0 hat hal hb0 hax ha3
        generalize evT b.data.toList = gb at *
        go_wp2_with fail
        refine ((HL1 _).out).mono ?_
        rintro e w71 ⟨rfl, u71⟩
        have H71 := Hid.of (H6.out.trans u71)
        have Hu71 := Hid.of u71
        clear u71
        dsimp only
        go_wp2
        go_ret
        exact ⟨by simp, H71.out⟩
      · have HL2 := fun w' => Hid.of (lower_esc _ hbl ty hbx w')
        rw [hb0, hbt]
        rw [← hbx]
        have hq := hQ _ _ hax hbx ha3 hb3
        clear ha0 hat hal hb0 hbt hbl hax hbx ha3 hb3
        generalize hab7 : (a.toList == b.toList) = qq at hq
        have hqs : (tx.toList == ty.toList) = qq := hq
        go_wp2_with fail
        refine ((HL1 _).out).mono ?_
        rintro e w71 ⟨rfl, u71⟩
        have H71 := Hid.of (H6.out.trans u71)
        have Hu71 := Hid.of u71
        clear u71
        dsimp only
        go_wp2_with fail
        refine ((HL1 _).out).mono ?_
        rintro e w72 ⟨rfl, u72⟩
        have H72 := Hid.of (H71.out.trans u72)
        have Hu72 := Hid.of u72
        clear u72
        dsimp only
        go_wp2_with fail
        refine ((HL2 _).out).mono ?_
        rintro e w73 ⟨rfl, u73⟩
        have H73 := Hid.of (H72.out.trans u73)
        have Hu73 := Hid.of u73
        clear u73
        dsimp only
        go_wp2
        go_ret
        exact ⟨by simp, H73.out⟩
  · have HL1 := fun w' => Hid.of (lower_esc _ hal sx hax w')
    rw [ha0, hat]
    unfold vs
    rw [← hax]
    rcases hPB with ⟨rfl, hb0⟩ | ⟨rfl, hb0, hbx, hbt, hbl, hb3⟩
    · rw [hb0]
      clear ha0 hat hal hb0 hax ha3
      generalize epT b.data.toList = gb at *
      go_wp2_with fail
      refine ((HL1 _).out).mono ?_
      rintro e w41 ⟨rfl, u41⟩
      have H41 := Hid.of (H3.out.trans u41)
      have Hu41 := Hid.of u41
      clear u41
      dsimp only
      go_wp2_with fail
      refine ((HVa _ (H41.out)).out).mono ?_
      rintro e w5 ⟨rfl, u5⟩
      have H5 := Hid.of (H41.out.trans u5)
      have Hu5 := Hid.of u5
      clear u5
      dsimp only
      go_wp2_with fail
      refine ((HVb _ H5.out).out).mono ?_
      rintro e w6 ⟨rfl, u6⟩
      have H6 := Hid.of (H5.out.trans u6)
      have Hu6 := Hid.of u6
      clear u6
      dsimp only
      clear HVa HVb
      try clear hab4 hqs hq
      rcases hVA with ⟨rfl, ha0⟩ | ⟨rfl, ha0, hax, hat, hal, ha3⟩
      · rw [ha0]
        clear hVB ha0
        generalize evT a.data.toList = ga at *
        generalize evT b.data.toList = gb at *
        generalize verE b.data.toList = gc at *
        go_wp2
        go_ret
        exact ⟨by simp, H6.out⟩
      · have HL1 := fun w' => Hid.of (lower_esc _ hal tx hax w')
        rw [ha0, hat]
        unfold vs
        rw [← hax]
        rcases hVB with ⟨rfl, hb0⟩ | ⟨rfl, hb0, hbx, hbt, hbl, hb3⟩
        · rw [hb0]
          clear ha0 hat hal hb0 hax ha3
          generalize evT b.data.toList = gb at *
          go_wp2_with fail
          refine ((HL1 _).out).mono ?_
          rintro e w71 ⟨rfl, u71⟩
          have H71 := Hid.of (H6.out.trans u71)
          have Hu71 := Hid.of u71
          clear u71
          dsimp only
          go_wp2
          go_ret
          exact ⟨by simp, H71.out⟩
        · have HL2 := fun w' => Hid.of (lower_esc _ hbl ty hbx w')
          rw [hb0, hbt]
          rw [← hbx]
          have hq := hQ _ _ hax hbx ha3 hb3
          clear ha0 hat hal hb0 hbt hbl hax hbx ha3 hb3
          generalize hab7 : (a.toList == b.toList) = qq at hq
          have hqs : (tx.toList == ty.toList) = qq := hq
          go_wp2_with fail
          refine ((HL1 _).out).mono ?_
          rintro e w71 ⟨rfl, u71⟩
          have H71 := Hid.of (H6.out.trans u71)
          have Hu71 := Hid.of u71
          clear u71
          dsimp only
          go_wp2_with fail
          refine ((HL1 _).out).mono ?_
          rintro e w72 ⟨rfl, u72⟩
          have H72 := Hid.of (H71.out.trans u72)
          have Hu72 := Hid.of u72
          clear u72
          dsimp only
          go_wp2_with fail
          refine ((HL2 _).out).mono ?_
          rintro e w73 ⟨rfl, u73⟩
          have H73 := Hid.of (H72.out.trans u73)
          have Hu73 := Hid.of u73
          clear u73
          dsimp only
          go_wp2
          go_ret
          exact ⟨by simp, H73.out⟩
    · have HL2 := fun w' => Hid.of (lower_esc _ hbl sy hbx w')
      rw [hb0, hbt]
      rw [← hbx]
      have hq := hQ _ _ hax hbx ha3 hb3
      clear ha0 hat hal hb0 hbt hbl hax hbx ha3 hb3
      generalize hab4 : (a.toList == b.toList) = qq at hq
      have hqs : (sx.toList == sy.toList) = qq := hq
      go_wp2_with fail
      refine ((HL1 _).out).mono ?_
      rintro e w41 ⟨rfl, u41⟩
      have H41 := Hid.of (H3.out.trans u41)
      have Hu41 := Hid.of u41
      clear u41
      dsimp only
      go_wp2_with fail
      refine ((HL1 _).out).mono ?_
      rintro e w42 ⟨rfl, u42⟩
      have H42 := Hid.of (H41.out.trans u42)
      have Hu42 := Hid.of u42
      clear u42
      dsimp only
      go_wp2_with fail
      refine ((HL2 _).out).mono ?_
      rintro e w43 ⟨rfl, u43⟩
      have H43 := Hid.of (H42.out.trans u43)
      have Hu43 := Hid.of u43
      clear u43
      dsimp only
      go_wp2_with fail
      refine ((HVa _ (H43.out)).out).mono ?_
      rintro e w5 ⟨rfl, u5⟩
      have H5 := Hid.of (H43.out.trans u5)
      have Hu5 := Hid.of u5
      clear u5
      dsimp only
      go_wp2_with fail
      refine ((HVb _ H5.out).out).mono ?_
      rintro e w6 ⟨rfl, u6⟩
      have H6 := Hid.of (H5.out.trans u6)
      have Hu6 := Hid.of u6
      clear u6
      dsimp only
      clear HVa HVb
      try clear hab4 hqs hq
      rcases hVA with ⟨rfl, ha0⟩ | ⟨rfl, ha0, hax, hat, hal, ha3⟩
      · rw [ha0]
        clear hVB ha0
        generalize evT a.data.toList = ga at *
        generalize evT b.data.toList = gb at *
        generalize verE b.data.toList = gc at *
        go_wp2
        go_ret
        exact ⟨by simp, H6.out⟩
      · have HL1 := fun w' => Hid.of (lower_esc _ hal tx hax w')
        rw [ha0, hat]
        unfold vs
        rw [← hax]
        rcases hVB with ⟨rfl, hb0⟩ | ⟨rfl, hb0, hbx, hbt, hbl, hb3⟩
        · rw [hb0]
          clear ha0 hat hal hb0 hax ha3
          generalize evT b.data.toList = gb at *
          go_wp2_with fail
          refine ((HL1 _).out).mono ?_
          rintro e w71 ⟨rfl, u71⟩
          have H71 := Hid.of (H6.out.trans u71)
          have Hu71 := Hid.of u71
          clear u71
          dsimp only
          go_wp2
          go_ret
          exact ⟨by simp, H71.out⟩
        · have HL2 := fun w' => Hid.of (lower_esc _ hbl ty hbx w')
          rw [hb0, hbt]
          rw [← hbx]
          have hq := hQ _ _ hax hbx ha3 hb3
          clear ha0 hat hal hb0 hbt hbl hax hbx ha3 hb3
          generalize hab7 : (a.toList == b.toList) = qq at hq
          have hqs : (tx.toList == ty.toList) = qq := hq
          go_wp2_with fail
          refine ((HL1 _).out).mono ?_
          rintro e w71 ⟨rfl, u71⟩
          have H71 := Hid.of (H6.out.trans u71)
          have Hu71 := Hid.of u71
          clear u71
          dsimp only
          go_wp2_with fail
          refine ((HL1 _).out).mono ?_
          rintro e w72 ⟨rfl, u72⟩
          have H72 := Hid.of (H71.out.trans u72)
          have Hu72 := Hid.of u72
          clear u72
          dsimp only
          go_wp2_with fail
          refine ((HL2 _).out).mono ?_
          rintro e w73 ⟨rfl, u73⟩
          have H73 := Hid.of (H72.out.trans u73)
          have Hu73 := Hid.of u73
          clear u73
          dsimp only
          go_wp2
          go_ret
          exact ⟨by simp, H73.out⟩
end Go.Proofs.YtfhdddhapjdocaaDoor
