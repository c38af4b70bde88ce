import Derived.Test.YtlghhdngmcfkgaaDoorKc
import Derived.Test.YtlghhdngmcfkgaaDoorSp
namespace Go.Proofs.YtlghhdngmcfkgaaDoor
open Go.RowKit Go.Shelf TextNum ModNum
theorem majE_nil : majE [] = 110 := by decide +kernel
theorem verE_nil : verE [] = 111 := by decide +kernel
theorem maj_ne {p m : List UInt8} (h : maj p = some m) : p ≠ [] := by
  rintro rfl
  have := majE_some h
  rw [majE_nil] at this
  cases this
theorem ver_ne {p : List UInt8} {q : Prt} (h : ver p = some q) : p ≠ [] := by
  rintro rfl
  have := verE_some h
  rw [verE_nil] at this
  cases this
theorem fte_ne {p v : List UInt8} (h : fte p v = 0) : p ≠ [] := by
  obtain ⟨m, q, hm, _, _⟩ := fte_ok h
  exact maj_ne hm
theorem emp_no {p : List UInt8} (h : p ≠ []) : ((⟨p.toArray⟩ : ByteArray).toList.isEmpty) = false := by
  rw [emp_eq]
  cases p with
  | nil => exact absurd rfl h
  | cons _ _ => rfl
theorem once_path (s : List UInt8) : (upE s = 0 ∧ majE (upT s) = 0 ∧ epT (upT s) = s ∧ upT s ≠ []) ∨ (upE s ≠ 0 ∧ upT s = []) := by
  unfold upE upT
  cases hu : une s with
  | none => exact .inr ⟨by decide, rfl⟩
  | some p =>
    simp only
    cases hm : maj p with
    | none => exact .inr ⟨by rw [majE_none hm]; decide, rfl⟩
    | some m =>
      refine .inl ⟨majE_some hm, ?_, ?_, ?_⟩
      · show majE p = 0; exact majE_some hm
      · show epT p = s; unfold epT; rw [hm]; exact une_esc s p hu
      · exact maj_ne hm
theorem once_ver (s : List UInt8) : (uvE s = 0 ∧ verE (uvT s) = 0 ∧ evT (uvT s) = s ∧ uvT s ≠ []) ∨ (uvE s ≠ 0 ∧ uvT s = []) := by
  unfold uvE uvT
  cases hu : une s with
  | none => exact .inr ⟨by decide, rfl⟩
  | some p =>
    simp only
    cases hm : ver p with
    | none => exact .inr ⟨by rw [verE_none hm]; decide, rfl⟩
    | some m =>
      refine .inl ⟨verE_some hm, ?_, ?_, ?_⟩
      · show verE p = 0; exact verE_some hm
      · show evT p = s; unfold evT; rw [hm]; exact une_esc s p hu
      · exact ver_ne hm
theorem once_key (s : List UInt8) : (pkE s = 0 ∧ fte (pkP s) (pkV s) = 0 ∧ keyT (pkP s) (pkV s) = s ∧ pkP s ≠ []) ∨ (pkE s ≠ 0 ∧ pkP s = []) := by
  by_cases h : pkE s = 0
  · have hp : pkP s = ahd 64 s := if_pos h
    have hv : pkV s = bhd 64 s := if_pos h
    rw [hp, hv]
    have h2 := h
    unfold pkE at h2
    split at h2
    · cases h2
    · rename_i hn
      refine .inl ⟨h, h2, ?_, fte_ne h2⟩
      unfold keyT
      rw [if_pos h2]
      exact (cut_eq (Decidable.not_not.1 (fun hh => hn (.inl hh)))).symm
  · exact .inr ⟨h, if_neg h⟩
theorem psm_once {s : List UInt8} (h : (psm s).2 = 0) : sumT (psm s).1 = s := by
  unfold psm at h ⊢
  split
  · rename_i hh
    obtain ⟨h1, h2, h3⟩ := hh
    simp only
    unfold pfx at h1
    obtain ⟨t, rfl⟩ := List.isPrefixOf_iff_prefix.1 h1
    have hd : ([104, 49, 58] ++ t).drop 3 = t := rfl
    rw [hd] at h2 ⊢
    unfold b64R at h2 ⊢
    split
    · rename_i hl; rw [if_pos hl] at h2; cases h2
    · rename_i hl
      rw [if_neg hl] at h2
      cases hb : b64D t with
      | none => rw [hb] at h2; cases h2
      | some x =>
        show sumT x = _
        unfold sumT
        rw [b64_once t x hb]
        rfl
  · rename_i hh
    rw [if_neg hh] at h
    cases h
theorem tw_join {l : List UInt8} {x : List UInt8 × List UInt8 × List UInt8} (h : tw l = some x) : l = x.1 ++ 32 :: x.2.1 ++ 32 :: x.2.2 := by
  have h1 := (tw_sub h).1
  have h2 := jn_pcs 32 l
  rw [h1] at h2
  rw [← h2]
  simp [jn]
theorem once_rec (s : List UInt8) : ((prc s).e = 0 ∧ fte (prc s).p (prc s).v = 0 ∧ recT (prc s).p (prc s).v (prc s).a (prc s).b = s ∧ (prc s).p ≠ []) ∨ ((prc s).e ≠ 0 ∧ (prc s).p = []) := by
  unfold prc
  cases ht : two s with
  | none => exact .inr ⟨(show (115 : Int) ≠ 0 by decide), rfl⟩
  | some q =>
    obtain ⟨x, y⟩ := q
    simp only
    split
    · exact .inr ⟨(show (115 : Int) ≠ 0 by decide), rfl⟩
    · rename_i hn
      split
      · rename_i he; exact .inr ⟨he, rfl⟩
      · rename_i he
        have he0 : (rdw x.1 x.2.1 x.2.2 y.2.2).2.2 = 0 := Decidable.not_not.1 he
        unfold rdw at he0 ⊢
        split at he0
        · rename_i hf; exact absurd he0 hf
        · rename_i hf
          have hf0 : fte x.1 x.2.1 = 0 := Decidable.not_not.1 hf
          split at he0
          · rename_i hs; exact absurd he0 hs
          · rename_i hs
            have hs0 : (psm x.2.2).2 = 0 := Decidable.not_not.1 hs
            simp only [hf, hs, if_false]
            refine .inl ⟨trivial, hf0, ?_, fte_ne hf0⟩
            unfold recT
            rw [if_pos hf0, psm_once hs0, psm_once he0]
            obtain ⟨a, b, _, hl, hls, hta, htb⟩ := two_sub ht
            have hj := join_lines s (by
              unfold lnE at hl
              split at hl
              · cases hl
              · split at hl
                · assumption
                · cases hl)
            rw [hls] at hj
            rw [← hj, tw_join hta, tw_join htb]
            have e1 : y.1 = x.1 := Decidable.not_not.1 (fun h => hn (.inl h))
            have e2 : y.2.1 = x.2.1 ++ GOM := Decidable.not_not.1 (fun h => hn (.inr h))
            rw [e1, e2]
            simp [lin, joinL]
theorem prc_len (s : List UInt8) : (prc s).a.length = 32 ∧ (prc s).b.length = 32 := by
  unfold prc
  split
  · exact ⟨rfl, rfl⟩
  · split
    · exact ⟨rfl, rfl⟩
    · split
      · exact ⟨rfl, rfl⟩
      · exact rdw_len _ _ _ _
set_option maxRecDepth 100000 in
set_option maxHeartbeats 40000000 in
theorem once_walk (s : ByteArray) (hs : s.size ≤ 140737488355000) (w : World) (hG : GR w) (hT : TabL w) : Calls Tryd.prog 8 #[.string s] w fun e w' => e = .returned (.bool true) ∧ Up w w' := by
  have HS := Hid.of (sample_walk w hG hT)
  have hsd : (⟨s.data.toList.toArray⟩ : ByteArray) = s := rfl
  obtain ⟨p1, q1, e1, f1, HU1, HE1, hc1⟩ : ∃ (p q : ByteArray) (e f : Int), (∀ w', Up w w' → Hid (Calls Tryd.prog 22 #[.string s] w' fun r w'' => r = .returned (.tuple #[.string p, .int .i64 e]) ∧ Up w' w'')) ∧ (∀ w', Up w w' → Hid (Calls Tryd.prog 18 #[.string p] w' fun r w'' => r = .returned (.tuple #[.string q, .int .i64 f]) ∧ Up w' w'')) ∧ ((e = 0 ∧ f = 0 ∧ q = s ∧ p.toList.isEmpty = false) ∨ ((e == 0) = false ∧ p.toList.isEmpty = true)) := by
    refine ⟨⟨(upT s.data.toList).toArray⟩, ⟨(epT (upT s.data.toList)).toArray⟩, upE s.data.toList, majE (upT s.data.toList), fun w' u => UnescapePath_walk s hs w' (hG.up u), fun w' u => EscapePath_walk ⟨(upT s.data.toList).toArray⟩ w' (hG.up u), ?_⟩
    rcases once_path s.data.toList with ⟨h1, h2, h3, h4⟩ | ⟨h1, h2⟩
    · exact .inl ⟨h1, h2, by rw [h3], emp_no h4⟩
    · exact .inr ⟨by rw [beq_eq_false_iff_ne]; exact h1, by rw [h2, emp_eq]; rfl⟩
  obtain ⟨p2, q2, e2, f2, HU2, HE2, hc2⟩ : ∃ (p q : ByteArray) (e f : Int), (∀ w', Up w w' → Hid (Calls Tryd.prog 23 #[.string s] w' fun r w'' => r = .returned (.tuple #[.string p, .int .i64 e]) ∧ Up w' w'')) ∧ (∀ w', Up w w' → Hid (Calls Tryd.prog 20 #[.string p] w' fun r w'' => r = .returned (.tuple #[.string q, .int .i64 f]) ∧ Up w' w'')) ∧ ((e = 0 ∧ f = 0 ∧ q = s ∧ p.toList.isEmpty = false) ∨ ((e == 0) = false ∧ p.toList.isEmpty = true)) := by
    refine ⟨⟨(uvT s.data.toList).toArray⟩, ⟨(evT (uvT s.data.toList)).toArray⟩, uvE s.data.toList, verE (uvT s.data.toList), fun w' u => UnescapeVersion_walk s hs w' (hG.up u).toGM, fun w' u => EscapeVersion_walk ⟨(uvT s.data.toList).toArray⟩ w' (hG.up u).toGM, ?_⟩
    rcases once_ver s.data.toList with ⟨h1, h2, h3, h4⟩ | ⟨h1, h2⟩
    · exact .inl ⟨h1, h2, by rw [h3], emp_no h4⟩
    · exact .inr ⟨by rw [beq_eq_false_iff_ne]; exact h1, by rw [h2, emp_eq]; rfl⟩
  obtain ⟨p3, v3, q3, e3, f3, HU3, HE3, hc3⟩ : ∃ (p v q : ByteArray) (e f : Int), (∀ w', Up w w' → Hid (Calls Tryd.prog 24 #[.string s] w' fun r w'' => r = .returned (.tuple #[.string p, .string v, .int .i64 e]) ∧ Up w' w'')) ∧ (∀ w', Up w w' → Hid (Calls Tryd.prog 25 #[.string p, .string v] w' fun r w'' => r = .returned (.tuple #[.string q, .int .i64 f]) ∧ Up w' w'')) ∧ ((e = 0 ∧ f = 0 ∧ q = s ∧ p.toList.isEmpty = false) ∨ ((e == 0) = false ∧ p.toList.isEmpty = true)) := by
    refine ⟨⟨(pkP s.data.toList).toArray⟩, ⟨(pkV s.data.toList).toArray⟩, ⟨(keyT (pkP s.data.toList) (pkV s.data.toList)).toArray⟩, pkE s.data.toList, fte (pkP s.data.toList) (pkV s.data.toList), fun w' u => ParseKey_walk s (by omega) w' (hG.up u), fun w' u => Key_walk ⟨(pkP s.data.toList).toArray⟩ ⟨(pkV s.data.toList).toArray⟩ w' (hG.up u), ?_⟩
    rcases once_key s.data.toList with ⟨h1, h2, h3, h4⟩ | ⟨h1, h2⟩
    · exact .inl ⟨h1, h2, by rw [h3], emp_no h4⟩
    · exact .inr ⟨by rw [beq_eq_false_iff_ne]; exact h1, by rw [h2, emp_eq]; rfl⟩
  obtain ⟨x4, q4, e4, hx4, HU4, HE4, hc4⟩ : ∃ (x : List UInt8) (q : ByteArray) (e : Int), x.length = 32 ∧ (∀ w', Up w w' → Hid (Calls Tryd.prog 26 #[.string s] w' fun r w'' => r = .returned (.tuple #[.agg (cb x).toArray, .int .i64 e]) ∧ Up w' w'')) ∧ (∀ w', Up w w' → Hid (Calls Tryd.prog 27 #[.agg (cb x).toArray] w' fun r w'' => r = .returned (.string q) ∧ Up w' w'')) ∧ ((e = 0 ∧ q = s) ∨ (e == 0) = false) := by
    refine ⟨(psm s.data.toList).1, ⟨(sumT (psm s.data.toList).1).toArray⟩, (psm s.data.toList).2, psm_len _, fun w' u => ParseSum_walk s w' (hT.below hT.lt u), fun w' u => Sum_walk _ (psm_len _) w' (hT.below hT.lt u), ?_⟩
    by_cases h : (psm s.data.toList).2 = 0
    · exact .inl ⟨h, by rw [psm_once h]⟩
    · exact .inr (by rw [beq_eq_false_iff_ne]; exact h)
  obtain ⟨p5, v5, q5, x5, y5, e5, f5, hx5, hy5, HU5, HE5, hc5⟩ : ∃ (p v q : ByteArray) (x y : List UInt8) (e f : Int), x.length = 32 ∧ y.length = 32 ∧ (∀ w', Up w w' → Hid (Calls Tryd.prog 28 #[.string s] w' fun r w'' => r = .returned (.tuple #[.string p, .string v, .agg (cb x).toArray, .agg (cb y).toArray, .int .i64 e]) ∧ Up w' w'')) ∧ (∀ w', Up w w' → Hid (Calls Tryd.prog 29 #[.string p, .string v, .agg (cb x).toArray, .agg (cb y).toArray] w' fun r w'' => r = .returned (.tuple #[.string q, .int .i64 f]) ∧ Up w' w'')) ∧ ((e = 0 ∧ f = 0 ∧ q = s ∧ p.toList.isEmpty = false) ∨ ((e == 0) = false ∧ p.toList.isEmpty = true)) := by
    refine ⟨⟨(prc s.data.toList).p.toArray⟩, ⟨(prc s.data.toList).v.toArray⟩, ⟨(recT (prc s.data.toList).p (prc s.data.toList).v (prc s.data.toList).a (prc s.data.toList).b).toArray⟩, (prc s.data.toList).a, (prc s.data.toList).b, (prc s.data.toList).e, fte (prc s.data.toList).p (prc s.data.toList).v, (prc_len _).1, (prc_len _).2, fun w' u => ParseRecord_walk s w' (hG.up u) (hT.below hT.lt u), fun w' u => Record_walk ⟨(prc s.data.toList).p.toArray⟩ ⟨(prc s.data.toList).v.toArray⟩ _ _ (prc_len _).1 (prc_len _).2 w' (hG.up u) (hT.below hT.lt u), ?_⟩
    rcases once_rec s.data.toList with ⟨h1, h2, h3, h4⟩ | ⟨h1, h2⟩
    · exact .inl ⟨h1, h2, by rw [h3], emp_no h4⟩
    · exact .inr ⟨by rw [beq_eq_false_iff_ne]; exact h1, by rw [h2, emp_eq]; rfl⟩
  clear hG hT hs hsd
  have HX4 := Hid.of hx4
  have HX5 := Hid.of (And.intro hx5 hy5)
  clear hx4 hx5 hy5
  go_enter Tryd.func8, Tryd.ntmps8
  go_wp2_with fail
  refine (HS.out).mono ?_
  rintro e w1 ⟨rfl, u1⟩
  have H1 := Hid.of (u1)
  have Hu1 := Hid.of u1
  clear u1
  dsimp only
  clear HS
  go_wp2_with fail
  refine ((HU1 _ (H1.out)).out).mono ?_
  rintro e w10 ⟨rfl, u10⟩
  have H10 := Hid.of (H1.out.trans u10)
  have Hu10 := Hid.of u10
  clear u10
  dsimp only
  go_wp2_with fail
  refine ((HE1 _ H10.out).out).mono ?_
  rintro e w11 ⟨rfl, u11⟩
  have H11 := Hid.of (H10.out.trans u11)
  have Hu11 := Hid.of u11
  clear u11
  dsimp only
  clear HU1 HE1
  rcases hc1 with ⟨rfl, rfl, hq1, h1⟩ | ⟨h1, h1b⟩
  · subst hq1
    go_wp2_with fail
    refine ((HU2 _ (H11.out)).out).mono ?_
    rintro e w20 ⟨rfl, u20⟩
    have H20 := Hid.of (H11.out.trans u20)
    have Hu20 := Hid.of u20
    clear u20
    dsimp only
    go_wp2_with fail
    refine ((HE2 _ H20.out).out).mono ?_
    rintro e w21 ⟨rfl, u21⟩
    have H21 := Hid.of (H20.out.trans u21)
    have Hu21 := Hid.of u21
    clear u21
    dsimp only
    clear HU2 HE2
    rcases hc2 with ⟨rfl, rfl, hq2, h2⟩ | ⟨h2, h2b⟩
    · subst hq2
      go_wp2_with fail
      refine ((HU3 _ (H21.out)).out).mono ?_
      rintro e w30 ⟨rfl, u30⟩
      have H30 := Hid.of (H21.out.trans u30)
      have Hu30 := Hid.of u30
      clear u30
      dsimp only
      go_wp2_with fail
      refine ((HE3 _ H30.out).out).mono ?_
      rintro e w31 ⟨rfl, u31⟩
      have H31 := Hid.of (H30.out.trans u31)
      have Hu31 := Hid.of u31
      clear u31
      dsimp only
      clear HU3 HE3
      rcases hc3 with ⟨rfl, rfl, hq3, h3⟩ | ⟨h3, h3b⟩
      · subst hq3
        go_wp2_with fail
        refine ((HU4 _ (H31.out)).out).mono ?_
        rintro e w40 ⟨rfl, u40⟩
        have H40 := Hid.of (H31.out.trans u40)
        have Hu40 := Hid.of u40
        clear u40
        dsimp only
        have HLt4 := Hid.of H40.out.size
        have HA4 := Hid.of (at_new w40 43 (cb Z32))
        have HW4 := Hid.of (H40.out.alloc (.cells (cb Z32).toArray 43))
        go_wp2_with (with_reducible show wpList _ _ _ ({ dst := _, op := Op.store 43 _ _, type := _, pos := _, after := _, guard := _ } :: _) _ _; refine Shut.out ?_)
        show wpList _ _ _ _ _ _
        rw [zlit]
        generalize w40.alloc (.cells (cb Z32).toArray 43) = W4 at *
        refine wpList_store_at rfl _ _ _ rfl w40.heap.size HA4.out (cb x4) rfl rfl (by rw [cb_length, cb_length, HX4.out]; rfl) (by rw [List.size_toArray, cb_length, HX4.out]; kernel_rfl) (cb_all _) fun z1 hz1 hg1 => ?_
        have HZ1 := Hid.of hz1
        have HZU := Hid.of (HW4.out.by hg1 (fun g hg => by have := HLt4.out; injection hg with hg; omega))
        clear hz1 hg1 HA4 HW4
        simp only [Act.put]
        rcases hc4 with ⟨rfl, rfl⟩ | h4
        · skip
          go_wp2_with (with_reducible show wpList _ _ _ ({ dst := _, op := Op.load 43 _, type := _, pos := _, after := _, guard := _ } :: _) _ _; refine Shut.out ?_)
          show wpList _ _ _ _ _ _
          refine wpList_load_want (by kernel_rfl) _ _ rfl w40.heap.size 0 rfl (cb x4) _ HZ1.out.range Tryd.underlying43 rfl (by rw [cb_length, HX4.out]; kernel_rfl) ?_
          simp only [Act.put, List.setIfInBounds_toArray, List.set_cons_zero, List.set_cons_succ]
          go_wp2_with fail
          refine ((HE4 _ HZU.out).out).mono ?_
          rintro e w41 ⟨rfl, u41⟩
          have H41 := Hid.of (HZU.out.trans u41)
          have Hu41 := Hid.of u41
          clear u41
          dsimp only
          go_wp2_with fail
          refine ((HU5 _ (H41.out)).out).mono ?_
          rintro e w50 ⟨rfl, u50⟩
          have H50 := Hid.of (H41.out.trans u50)
          have Hu50 := Hid.of u50
          clear u50
          dsimp only
          have HLt := Hid.of H50.out.size
          have HB2 : Hid (At ((w50.alloc (.cells (cb Z32).toArray 43)).alloc (.cells (cb Z32).toArray 43)) (w50.heap.size + 1) 43 (cb Z32)) := by
            have := at_new (w50.alloc (.cells (cb Z32).toArray 43)) 43 (cb Z32)
            rw [alloc_size] at this
            exact this
          have HB1 : Hid (At ((w50.alloc (.cells (cb Z32).toArray 43)).alloc (.cells (cb Z32).toArray 43)) w50.heap.size 43 (cb Z32)) := At.up (at_new w50 43 (cb Z32)) ((Up.refl _).alloc _)
          have HU := Hid.of ((H50.out.alloc (.cells (cb Z32).toArray 43)).alloc (.cells (cb Z32).toArray 43))
          go_wp2_with (with_reducible show wpList _ _ _ ({ dst := _, op := Op.store 43 _ _, type := _, pos := _, after := _, guard := _ } :: _) _ _; refine Shut.out ?_)
          show wpList _ _ _ _ _ _
          rw [zlit]
          generalize (w50.alloc (.cells (cb Z32).toArray 43)).alloc (.cells (cb Z32).toArray 43) = W5 at *
          refine wpList_store_at rfl _ _ _ rfl w50.heap.size HB1.out (cb x5) rfl rfl (by rw [cb_length, cb_length, HX5.out.1]; rfl) (by rw [List.size_toArray, cb_length, HX5.out.1]; kernel_rfl) (cb_all _) fun x1 hx1 hg1 => ?_
          have HX1 := Hid.of hx1
          have HX2 := Hid.of (HB2.out.by hg1 (by intro h; injection h with h; omega))
          have HXU := Hid.of (HU.out.by hg1 (fun g hg => by have := HLt.out; injection hg with hg; omega))
          clear hx1 hg1 HB1 HB2 HU
          simp only [Act.put]
          go_wp2_with (with_reducible show wpList _ _ _ ({ dst := _, op := Op.store 43 _ _, type := _, pos := _, after := _, guard := _ } :: _) _ _; refine Shut.out ?_)
          show wpList _ _ _ _ _ _
          refine wpList_store_at rfl _ _ _ rfl (w50.heap.size + 1) HX2.out (cb y5) rfl rfl (by rw [cb_length, cb_length, HX5.out.2]; rfl) (by rw [List.size_toArray, cb_length, HX5.out.2]; kernel_rfl) (cb_all _) fun x2 hx2 hg2 => ?_
          have HY2 := Hid.of hx2
          have HY1 := Hid.of (HX1.out.by hg2 (by intro h; injection h with h; omega))
          have HYU := Hid.of (HXU.out.by hg2 (fun g hg => by have := HLt.out; injection hg with hg; omega))
          clear hx2 hg2 HX1 HX2 HXU
          simp only [Act.put]
          go_wp2_with (with_reducible show wpList _ _ _ ({ dst := _, op := Op.load 43 _, type := _, pos := _, after := _, guard := _ } :: _) _ _; refine Shut.out ?_)
          show wpList _ _ _ _ _ _
          refine wpList_load_mid rfl _ _ rfl w50.heap.size 0 rfl (cb x5) _ HY1.out.range Tryd.underlying43 rfl (by rw [cb_length, HX5.out.1]; kernel_rfl) ?_
          simp only [Act.put, List.setIfInBounds_toArray, List.set_cons_zero, List.set_cons_succ]
          go_wp2_with (with_reducible show wpList _ _ _ ({ dst := _, op := Op.load 43 _, type := _, pos := _, after := _, guard := _ } :: _) _ _; refine Shut.out ?_)
          show wpList _ _ _ _ _ _
          refine wpList_load_mid rfl _ _ rfl (w50.heap.size + 1) 0 rfl (cb y5) _ HY2.out.range Tryd.underlying43 rfl (by rw [cb_length, HX5.out.2]; kernel_rfl) ?_
          simp only [Act.put, List.setIfInBounds_toArray, List.set_cons_zero, List.set_cons_succ]
          go_wp2_with fail
          refine ((HE5 _ HYU.out).out).mono ?_
          rintro e w51 ⟨rfl, u51⟩
          have H51 := Hid.of (HYU.out.trans u51)
          have Hu51 := Hid.of u51
          clear u51
          dsimp only
          rcases hc5 with ⟨rfl, rfl, rfl, h5⟩ | ⟨h5, h6⟩
          · go_wp2
            go_ret
            exact ⟨by first | rfl | simp, H51.out⟩
          · have h5n : (e5 != 0) = true := by rw [bne, h5]; rfl
            go_wp2
            go_ret
            exact ⟨by first | rfl | simp, H51.out⟩
        · clear HE4 HZ1
          go_wp2_with fail
          refine ((HU5 _ (HZU.out)).out).mono ?_
          rintro e w50 ⟨rfl, u50⟩
          have H50 := Hid.of (HZU.out.trans u50)
          have Hu50 := Hid.of u50
          clear u50
          dsimp only
          have HLt := Hid.of H50.out.size
          have HB2 : Hid (At ((w50.alloc (.cells (cb Z32).toArray 43)).alloc (.cells (cb Z32).toArray 43)) (w50.heap.size + 1) 43 (cb Z32)) := by
            have := at_new (w50.alloc (.cells (cb Z32).toArray 43)) 43 (cb Z32)
            rw [alloc_size] at this
            exact this
          have HB1 : Hid (At ((w50.alloc (.cells (cb Z32).toArray 43)).alloc (.cells (cb Z32).toArray 43)) w50.heap.size 43 (cb Z32)) := At.up (at_new w50 43 (cb Z32)) ((Up.refl _).alloc _)
          have HU := Hid.of ((H50.out.alloc (.cells (cb Z32).toArray 43)).alloc (.cells (cb Z32).toArray 43))
          go_wp2_with (with_reducible show wpList _ _ _ ({ dst := _, op := Op.store 43 _ _, type := _, pos := _, after := _, guard := _ } :: _) _ _; refine Shut.out ?_)
          show wpList _ _ _ _ _ _
          rw [zlit]
          generalize (w50.alloc (.cells (cb Z32).toArray 43)).alloc (.cells (cb Z32).toArray 43) = W5 at *
          refine wpList_store_at rfl _ _ _ rfl w50.heap.size HB1.out (cb x5) rfl rfl (by rw [cb_length, cb_length, HX5.out.1]; rfl) (by rw [List.size_toArray, cb_length, HX5.out.1]; kernel_rfl) (cb_all _) fun x1 hx1 hg1 => ?_
          have HX1 := Hid.of hx1
          have HX2 := Hid.of (HB2.out.by hg1 (by intro h; injection h with h; omega))
          have HXU := Hid.of (HU.out.by hg1 (fun g hg => by have := HLt.out; injection hg with hg; omega))
          clear hx1 hg1 HB1 HB2 HU
          simp only [Act.put]
          go_wp2_with (with_reducible show wpList _ _ _ ({ dst := _, op := Op.store 43 _ _, type := _, pos := _, after := _, guard := _ } :: _) _ _; refine Shut.out ?_)
          show wpList _ _ _ _ _ _
          refine wpList_store_at rfl _ _ _ rfl (w50.heap.size + 1) HX2.out (cb y5) rfl rfl (by rw [cb_length, cb_length, HX5.out.2]; rfl) (by rw [List.size_toArray, cb_length, HX5.out.2]; kernel_rfl) (cb_all _) fun x2 hx2 hg2 => ?_
          have HY2 := Hid.of hx2
          have HY1 := Hid.of (HX1.out.by hg2 (by intro h; injection h with h; omega))
          have HYU := Hid.of (HXU.out.by hg2 (fun g hg => by have := HLt.out; injection hg with hg; omega))
          clear hx2 hg2 HX1 HX2 HXU
          simp only [Act.put]
          go_wp2_with (with_reducible show wpList _ _ _ ({ dst := _, op := Op.load 43 _, type := _, pos := _, after := _, guard := _ } :: _) _ _; refine Shut.out ?_)
          show wpList _ _ _ _ _ _
          refine wpList_load_mid rfl _ _ rfl w50.heap.size 0 rfl (cb x5) _ HY1.out.range Tryd.underlying43 rfl (by rw [cb_length, HX5.out.1]; kernel_rfl) ?_
          simp only [Act.put, List.setIfInBounds_toArray, List.set_cons_zero, List.set_cons_succ]
          go_wp2_with (with_reducible show wpList _ _ _ ({ dst := _, op := Op.load 43 _, type := _, pos := _, after := _, guard := _ } :: _) _ _; refine Shut.out ?_)
          show wpList _ _ _ _ _ _
          refine wpList_load_mid rfl _ _ rfl (w50.heap.size + 1) 0 rfl (cb y5) _ HY2.out.range Tryd.underlying43 rfl (by rw [cb_length, HX5.out.2]; kernel_rfl) ?_
          simp only [Act.put, List.setIfInBounds_toArray, List.set_cons_zero, List.set_cons_succ]
          go_wp2_with fail
          refine ((HE5 _ HYU.out).out).mono ?_
          rintro e w51 ⟨rfl, u51⟩
          have H51 := Hid.of (HYU.out.trans u51)
          have Hu51 := Hid.of u51
          clear u51
          dsimp only
          rcases hc5 with ⟨rfl, rfl, rfl, h5⟩ | ⟨h5, h6⟩
          · go_wp2
            go_ret
            exact ⟨by first | rfl | simp, H51.out⟩
          · have h5n : (e5 != 0) = true := by rw [bne, h5]; rfl
            go_wp2
            go_ret
            exact ⟨by first | rfl | simp, H51.out⟩
      · skip
        go_wp2_with fail
        refine ((HU4 _ (H31.out)).out).mono ?_
        rintro e w40 ⟨rfl, u40⟩
        have H40 := Hid.of (H31.out.trans u40)
        have Hu40 := Hid.of u40
        clear u40
        dsimp only
        have HLt4 := Hid.of H40.out.size
        have HA4 := Hid.of (at_new w40 43 (cb Z32))
        have HW4 := Hid.of (H40.out.alloc (.cells (cb Z32).toArray 43))
        go_wp2_with (with_reducible show wpList _ _ _ ({ dst := _, op := Op.store 43 _ _, type := _, pos := _, after := _, guard := _ } :: _) _ _; refine Shut.out ?_)
        show wpList _ _ _ _ _ _
        rw [zlit]
        generalize w40.alloc (.cells (cb Z32).toArray 43) = W4 at *
        refine wpList_store_at rfl _ _ _ rfl w40.heap.size HA4.out (cb x4) rfl rfl (by rw [cb_length, cb_length, HX4.out]; rfl) (by rw [List.size_toArray, cb_length, HX4.out]; kernel_rfl) (cb_all _) fun z1 hz1 hg1 => ?_
        have HZ1 := Hid.of hz1
        have HZU := Hid.of (HW4.out.by hg1 (fun g hg => by have := HLt4.out; injection hg with hg; omega))
        clear hz1 hg1 HA4 HW4
        simp only [Act.put]
        rcases hc4 with ⟨rfl, rfl⟩ | h4
        · skip
          go_wp2_with (with_reducible show wpList _ _ _ ({ dst := _, op := Op.load 43 _, type := _, pos := _, after := _, guard := _ } :: _) _ _; refine Shut.out ?_)
          show wpList _ _ _ _ _ _
          refine wpList_load_want (by kernel_rfl) _ _ rfl w40.heap.size 0 rfl (cb x4) _ HZ1.out.range Tryd.underlying43 rfl (by rw [cb_length, HX4.out]; kernel_rfl) ?_
          simp only [Act.put, List.setIfInBounds_toArray, List.set_cons_zero, List.set_cons_succ]
          go_wp2_with fail
          refine ((HE4 _ HZU.out).out).mono ?_
          rintro e w41 ⟨rfl, u41⟩
          have H41 := Hid.of (HZU.out.trans u41)
          have Hu41 := Hid.of u41
          clear u41
          dsimp only
          go_wp2_with fail
          refine ((HU5 _ (H41.out)).out).mono ?_
          rintro e w50 ⟨rfl, u50⟩
          have H50 := Hid.of (H41.out.trans u50)
          have Hu50 := Hid.of u50
          clear u50
          dsimp only
          have HLt := Hid.of H50.out.size
          have HB2 : Hid (At ((w50.alloc (.cells (cb Z32).toArray 43)).alloc (.cells (cb Z32).toArray 43)) (w50.heap.size + 1) 43 (cb Z32)) := by
            have := at_new (w50.alloc (.cells (cb Z32).toArray 43)) 43 (cb Z32)
            rw [alloc_size] at this
            exact this
          have HB1 : Hid (At ((w50.alloc (.cells (cb Z32).toArray 43)).alloc (.cells (cb Z32).toArray 43)) w50.heap.size 43 (cb Z32)) := At.up (at_new w50 43 (cb Z32)) ((Up.refl _).alloc _)
          have HU := Hid.of ((H50.out.alloc (.cells (cb Z32).toArray 43)).alloc (.cells (cb Z32).toArray 43))
          go_wp2_with (with_reducible show wpList _ _ _ ({ dst := _, op := Op.store 43 _ _, type := _, pos := _, after := _, guard := _ } :: _) _ _; refine Shut.out ?_)
          show wpList _ _ _ _ _ _
          rw [zlit]
          generalize (w50.alloc (.cells (cb Z32).toArray 43)).alloc (.cells (cb Z32).toArray 43) = W5 at *
          refine wpList_store_at rfl _ _ _ rfl w50.heap.size HB1.out (cb x5) rfl rfl (by rw [cb_length, cb_length, HX5.out.1]; rfl) (by rw [List.size_toArray, cb_length, HX5.out.1]; kernel_rfl) (cb_all _) fun x1 hx1 hg1 => ?_
          have HX1 := Hid.of hx1
          have HX2 := Hid.of (HB2.out.by hg1 (by intro h; injection h with h; omega))
          have HXU := Hid.of (HU.out.by hg1 (fun g hg => by have := HLt.out; injection hg with hg; omega))
          clear hx1 hg1 HB1 HB2 HU
          simp only [Act.put]
          go_wp2_with (with_reducible show wpList _ _ _ ({ dst := _, op := Op.store 43 _ _, type := _, pos := _, after := _, guard := _ } :: _) _ _; refine Shut.out ?_)
          show wpList _ _ _ _ _ _
          refine wpList_store_at rfl _ _ _ rfl (w50.heap.size + 1) HX2.out (cb y5) rfl rfl (by rw [cb_length, cb_length, HX5.out.2]; rfl) (by rw [List.size_toArray, cb_length, HX5.out.2]; kernel_rfl) (cb_all _) fun x2 hx2 hg2 => ?_
          have HY2 := Hid.of hx2
          have HY1 := Hid.of (HX1.out.by hg2 (by intro h; injection h with h; omega))
          have HYU := Hid.of (HXU.out.by hg2 (fun g hg => by have := HLt.out; injection hg with hg; omega))
          clear hx2 hg2 HX1 HX2 HXU
          simp only [Act.put]
          go_wp2_with (with_reducible show wpList _ _ _ ({ dst := _, op := Op.load 43 _, type := _, pos := _, after := _, guard := _ } :: _) _ _; refine Shut.out ?_)
          show wpList _ _ _ _ _ _
          refine wpList_load_mid rfl _ _ rfl w50.heap.size 0 rfl (cb x5) _ HY1.out.range Tryd.underlying43 rfl (by rw [cb_length, HX5.out.1]; kernel_rfl) ?_
          simp only [Act.put, List.setIfInBounds_toArray, List.set_cons_zero, List.set_cons_succ]
          go_wp2_with (with_reducible show wpList _ _ _ ({ dst := _, op := Op.load 43 _, type := _, pos := _, after := _, guard := _ } :: _) _ _; refine Shut.out ?_)
          show wpList _ _ _ _ _ _
          refine wpList_load_mid rfl _ _ rfl (w50.heap.size + 1) 0 rfl (cb y5) _ HY2.out.range Tryd.underlying43 rfl (by rw [cb_length, HX5.out.2]; kernel_rfl) ?_
          simp only [Act.put, List.setIfInBounds_toArray, List.set_cons_zero, List.set_cons_succ]
          go_wp2_with fail
          refine ((HE5 _ HYU.out).out).mono ?_
          rintro e w51 ⟨rfl, u51⟩
          have H51 := Hid.of (HYU.out.trans u51)
          have Hu51 := Hid.of u51
          clear u51
          dsimp only
          rcases hc5 with ⟨rfl, rfl, rfl, h5⟩ | ⟨h5, h6⟩
          · go_wp2
            go_ret
            exact ⟨by first | rfl | simp, H51.out⟩
          · have h5n : (e5 != 0) = true := by rw [bne, h5]; rfl
            go_wp2
            go_ret
            exact ⟨by first | rfl | simp, H51.out⟩
        · clear HE4 HZ1
          go_wp2_with fail
          refine ((HU5 _ (HZU.out)).out).mono ?_
          rintro e w50 ⟨rfl, u50⟩
          have H50 := Hid.of (HZU.out.trans u50)
          have Hu50 := Hid.of u50
          clear u50
          dsimp only
          have HLt := Hid.of H50.out.size
          have HB2 : Hid (At ((w50.alloc (.cells (cb Z32).toArray 43)).alloc (.cells (cb Z32).toArray 43)) (w50.heap.size + 1) 43 (cb Z32)) := by
            have := at_new (w50.alloc (.cells (cb Z32).toArray 43)) 43 (cb Z32)
            rw [alloc_size] at this
            exact this
          have HB1 : Hid (At ((w50.alloc (.cells (cb Z32).toArray 43)).alloc (.cells (cb Z32).toArray 43)) w50.heap.size 43 (cb Z32)) := At.up (at_new w50 43 (cb Z32)) ((Up.refl _).alloc _)
          have HU := Hid.of ((H50.out.alloc (.cells (cb Z32).toArray 43)).alloc (.cells (cb Z32).toArray 43))
          go_wp2_with (with_reducible show wpList _ _ _ ({ dst := _, op := Op.store 43 _ _, type := _, pos := _, after := _, guard := _ } :: _) _ _; refine Shut.out ?_)
          show wpList _ _ _ _ _ _
          rw [zlit]
          generalize (w50.alloc (.cells (cb Z32).toArray 43)).alloc (.cells (cb Z32).toArray 43) = W5 at *
          refine wpList_store_at rfl _ _ _ rfl w50.heap.size HB1.out (cb x5) rfl rfl (by rw [cb_length, cb_length, HX5.out.1]; rfl) (by rw [List.size_toArray, cb_length, HX5.out.1]; kernel_rfl) (cb_all _) fun x1 hx1 hg1 => ?_
          have HX1 := Hid.of hx1
          have HX2 := Hid.of (HB2.out.by hg1 (by intro h; injection h with h; omega))
          have HXU := Hid.of (HU.out.by hg1 (fun g hg => by have := HLt.out; injection hg with hg; omega))
          clear hx1 hg1 HB1 HB2 HU
          simp only [Act.put]
          go_wp2_with (with_reducible show wpList _ _ _ ({ dst := _, op := Op.store 43 _ _, type := _, pos := _, after := _, guard := _ } :: _) _ _; refine Shut.out ?_)
          show wpList _ _ _ _ _ _
          refine wpList_store_at rfl _ _ _ rfl (w50.heap.size + 1) HX2.out (cb y5) rfl rfl (by rw [cb_length, cb_length, HX5.out.2]; rfl) (by rw [List.size_toArray, cb_length, HX5.out.2]; kernel_rfl) (cb_all _) fun x2 hx2 hg2 => ?_
          have HY2 := Hid.of hx2
          have HY1 := Hid.of (HX1.out.by hg2 (by intro h; injection h with h; omega))
          have HYU := Hid.of (HXU.out.by hg2 (fun g hg => by have := HLt.out; injection hg with hg; omega))
          clear hx2 hg2 HX1 HX2 HXU
          simp only [Act.put]
          go_wp2_with (with_reducible show wpList _ _ _ ({ dst := _, op := Op.load 43 _, type := _, pos := _, after := _, guard := _ } :: _) _ _; refine Shut.out ?_)
          show wpList _ _ _ _ _ _
          refine wpList_load_mid rfl _ _ rfl w50.heap.size 0 rfl (cb x5) _ HY1.out.range Tryd.underlying43 rfl (by rw [cb_length, HX5.out.1]; kernel_rfl) ?_
          simp only [Act.put, List.setIfInBounds_toArray, List.set_cons_zero, List.set_cons_succ]
          go_wp2_with (with_reducible show wpList _ _ _ ({ dst := _, op := Op.load 43 _, type := _, pos := _, after := _, guard := _ } :: _) _ _; refine Shut.out ?_)
          show wpList _ _ _ _ _ _
          refine wpList_load_mid rfl _ _ rfl (w50.heap.size + 1) 0 rfl (cb y5) _ HY2.out.range Tryd.underlying43 rfl (by rw [cb_length, HX5.out.2]; kernel_rfl) ?_
          simp only [Act.put, List.setIfInBounds_toArray, List.set_cons_zero, List.set_cons_succ]
          go_wp2_with fail
          refine ((HE5 _ HYU.out).out).mono ?_
          rintro e w51 ⟨rfl, u51⟩
          have H51 := Hid.of (HYU.out.trans u51)
          have Hu51 := Hid.of u51
          clear u51
          dsimp only
          rcases hc5 with ⟨rfl, rfl, rfl, h5⟩ | ⟨h5, h6⟩
          · go_wp2
            go_ret
            exact ⟨by first | rfl | simp, H51.out⟩
          · have h5n : (e5 != 0) = true := by rw [bne, h5]; rfl
            go_wp2
            go_ret
            exact ⟨by first | rfl | simp, H51.out⟩
    · skip
      go_wp2_with fail
      refine ((HU3 _ (H21.out)).out).mono ?_
      rintro e w30 ⟨rfl, u30⟩
      have H30 := Hid.of (H21.out.trans u30)
      have Hu30 := Hid.of u30
      clear u30
      dsimp only
      go_wp2_with fail
      refine ((HE3 _ H30.out).out).mono ?_
      rintro e w31 ⟨rfl, u31⟩
      have H31 := Hid.of (H30.out.trans u31)
      have Hu31 := Hid.of u31
      clear u31
      dsimp only
      clear HU3 HE3
      rcases hc3 with ⟨rfl, rfl, hq3, h3⟩ | ⟨h3, h3b⟩
      · subst hq3
        go_wp2_with fail
        refine ((HU4 _ (H31.out)).out).mono ?_
        rintro e w40 ⟨rfl, u40⟩
        have H40 := Hid.of (H31.out.trans u40)
        have Hu40 := Hid.of u40
        clear u40
        dsimp only
        have HLt4 := Hid.of H40.out.size
        have HA4 := Hid.of (at_new w40 43 (cb Z32))
        have HW4 := Hid.of (H40.out.alloc (.cells (cb Z32).toArray 43))
        go_wp2_with (with_reducible show wpList _ _ _ ({ dst := _, op := Op.store 43 _ _, type := _, pos := _, after := _, guard := _ } :: _) _ _; refine Shut.out ?_)
        show wpList _ _ _ _ _ _
        rw [zlit]
        generalize w40.alloc (.cells (cb Z32).toArray 43) = W4 at *
        refine wpList_store_at rfl _ _ _ rfl w40.heap.size HA4.out (cb x4) rfl rfl (by rw [cb_length, cb_length, HX4.out]; rfl) (by rw [List.size_toArray, cb_length, HX4.out]; kernel_rfl) (cb_all _) fun z1 hz1 hg1 => ?_
        have HZ1 := Hid.of hz1
        have HZU := Hid.of (HW4.out.by hg1 (fun g hg => by have := HLt4.out; injection hg with hg; omega))
        clear hz1 hg1 HA4 HW4
        simp only [Act.put]
        rcases hc4 with ⟨rfl, rfl⟩ | h4
        · skip
          go_wp2_with (with_reducible show wpList _ _ _ ({ dst := _, op := Op.load 43 _, type := _, pos := _, after := _, guard := _ } :: _) _ _; refine Shut.out ?_)
          show wpList _ _ _ _ _ _
          refine wpList_load_want (by kernel_rfl) _ _ rfl w40.heap.size 0 rfl (cb x4) _ HZ1.out.range Tryd.underlying43 rfl (by rw [cb_length, HX4.out]; kernel_rfl) ?_
          simp only [Act.put, List.setIfInBounds_toArray, List.set_cons_zero, List.set_cons_succ]
          go_wp2_with fail
          refine ((HE4 _ HZU.out).out).mono ?_
          rintro e w41 ⟨rfl, u41⟩
          have H41 := Hid.of (HZU.out.trans u41)
          have Hu41 := Hid.of u41
          clear u41
          dsimp only
          go_wp2_with fail
          refine ((HU5 _ (H41.out)).out).mono ?_
          rintro e w50 ⟨rfl, u50⟩
          have H50 := Hid.of (H41.out.trans u50)
          have Hu50 := Hid.of u50
          clear u50
          dsimp only
          have HLt := Hid.of H50.out.size
          have HB2 : Hid (At ((w50.alloc (.cells (cb Z32).toArray 43)).alloc (.cells (cb Z32).toArray 43)) (w50.heap.size + 1) 43 (cb Z32)) := by
            have := at_new (w50.alloc (.cells (cb Z32).toArray 43)) 43 (cb Z32)
            rw [alloc_size] at this
            exact this
          have HB1 : Hid (At ((w50.alloc (.cells (cb Z32).toArray 43)).alloc (.cells (cb Z32).toArray 43)) w50.heap.size 43 (cb Z32)) := At.up (at_new w50 43 (cb Z32)) ((Up.refl _).alloc _)
          have HU := Hid.of ((H50.out.alloc (.cells (cb Z32).toArray 43)).alloc (.cells (cb Z32).toArray 43))
          go_wp2_with (with_reducible show wpList _ _ _ ({ dst := _, op := Op.store 43 _ _, type := _, pos := _, after := _, guard := _ } :: _) _ _; refine Shut.out ?_)
          show wpList _ _ _ _ _ _
          rw [zlit]
          generalize (w50.alloc (.cells (cb Z32).toArray 43)).alloc (.cells (cb Z32).toArray 43) = W5 at *
          refine wpList_store_at rfl _ _ _ rfl w50.heap.size HB1.out (cb x5) rfl rfl (by rw [cb_length, cb_length, HX5.out.1]; rfl) (by rw [List.size_toArray, cb_length, HX5.out.1]; kernel_rfl) (cb_all _) fun x1 hx1 hg1 => ?_
          have HX1 := Hid.of hx1
          have HX2 := Hid.of (HB2.out.by hg1 (by intro h; injection h with h; omega))
          have HXU := Hid.of (HU.out.by hg1 (fun g hg => by have := HLt.out; injection hg with hg; omega))
          clear hx1 hg1 HB1 HB2 HU
          simp only [Act.put]
          go_wp2_with (with_reducible show wpList _ _ _ ({ dst := _, op := Op.store 43 _ _, type := _, pos := _, after := _, guard := _ } :: _) _ _; refine Shut.out ?_)
          show wpList _ _ _ _ _ _
          refine wpList_store_at rfl _ _ _ rfl (w50.heap.size + 1) HX2.out (cb y5) rfl rfl (by rw [cb_length, cb_length, HX5.out.2]; rfl) (by rw [List.size_toArray, cb_length, HX5.out.2]; kernel_rfl) (cb_all _) fun x2 hx2 hg2 => ?_
          have HY2 := Hid.of hx2
          have HY1 := Hid.of (HX1.out.by hg2 (by intro h; injection h with h; omega))
          have HYU := Hid.of (HXU.out.by hg2 (fun g hg => by have := HLt.out; injection hg with hg; omega))
          clear hx2 hg2 HX1 HX2 HXU
          simp only [Act.put]
          go_wp2_with (with_reducible show wpList _ _ _ ({ dst := _, op := Op.load 43 _, type := _, pos := _, after := _, guard := _ } :: _) _ _; refine Shut.out ?_)
          show wpList _ _ _ _ _ _
          refine wpList_load_mid rfl _ _ rfl w50.heap.size 0 rfl (cb x5) _ HY1.out.range Tryd.underlying43 rfl (by rw [cb_length, HX5.out.1]; kernel_rfl) ?_
          simp only [Act.put, List.setIfInBounds_toArray, List.set_cons_zero, List.set_cons_succ]
          go_wp2_with (with_reducible show wpList _ _ _ ({ dst := _, op := Op.load 43 _, type := _, pos := _, after := _, guard := _ } :: _) _ _; refine Shut.out ?_)
          show wpList _ _ _ _ _ _
          refine wpList_load_mid rfl _ _ rfl (w50.heap.size + 1) 0 rfl (cb y5) _ HY2.out.range Tryd.underlying43 rfl (by rw [cb_length, HX5.out.2]; kernel_rfl) ?_
          simp only [Act.put, List.setIfInBounds_toArray, List.set_cons_zero, List.set_cons_succ]
          go_wp2_with fail
          refine ((HE5 _ HYU.out).out).mono ?_
          rintro e w51 ⟨rfl, u51⟩
          have H51 := Hid.of (HYU.out.trans u51)
          have Hu51 := Hid.of u51
          clear u51
          dsimp only
          rcases hc5 with ⟨rfl, rfl, rfl, h5⟩ | ⟨h5, h6⟩
          · go_wp2
            go_ret
            exact ⟨by first | rfl | simp, H51.out⟩
          · have h5n : (e5 != 0) = true := by rw [bne, h5]; rfl
            go_wp2
            go_ret
            exact ⟨by first | rfl | simp, H51.out⟩
        · clear HE4 HZ1
          go_wp2_with fail
          refine ((HU5 _ (HZU.out)).out).mono ?_
          rintro e w50 ⟨rfl, u50⟩
          have H50 := Hid.of (HZU.out.trans u50)
          have Hu50 := Hid.of u50
          clear u50
          dsimp only
          have HLt := Hid.of H50.out.size
          have HB2 : Hid (At ((w50.alloc (.cells (cb Z32).toArray 43)).alloc (.cells (cb Z32).toArray 43)) (w50.heap.size + 1) 43 (cb Z32)) := by
            have := at_new (w50.alloc (.cells (cb Z32).toArray 43)) 43 (cb Z32)
            rw [alloc_size] at this
            exact this
          have HB1 : Hid (At ((w50.alloc (.cells (cb Z32).toArray 43)).alloc (.cells (cb Z32).toArray 43)) w50.heap.size 43 (cb Z32)) := At.up (at_new w50 43 (cb Z32)) ((Up.refl _).alloc _)
          have HU := Hid.of ((H50.out.alloc (.cells (cb Z32).toArray 43)).alloc (.cells (cb Z32).toArray 43))
          go_wp2_with (with_reducible show wpList _ _ _ ({ dst := _, op := Op.store 43 _ _, type := _, pos := _, after := _, guard := _ } :: _) _ _; refine Shut.out ?_)
          show wpList _ _ _ _ _ _
          rw [zlit]
          generalize (w50.alloc (.cells (cb Z32).toArray 43)).alloc (.cells (cb Z32).toArray 43) = W5 at *
          refine wpList_store_at rfl _ _ _ rfl w50.heap.size HB1.out (cb x5) rfl rfl (by rw [cb_length, cb_length, HX5.out.1]; rfl) (by rw [List.size_toArray, cb_length, HX5.out.1]; kernel_rfl) (cb_all _) fun x1 hx1 hg1 => ?_
          have HX1 := Hid.of hx1
          have HX2 := Hid.of (HB2.out.by hg1 (by intro h; injection h with h; omega))
          have HXU := Hid.of (HU.out.by hg1 (fun g hg => by have := HLt.out; injection hg with hg; omega))
          clear hx1 hg1 HB1 HB2 HU
          simp only [Act.put]
          go_wp2_with (with_reducible show wpList _ _ _ ({ dst := _, op := Op.store 43 _ _, type := _, pos := _, after := _, guard := _ } :: _) _ _; refine Shut.out ?_)
          show wpList _ _ _ _ _ _
          refine wpList_store_at rfl _ _ _ rfl (w50.heap.size + 1) HX2.out (cb y5) rfl rfl (by rw [cb_length, cb_length, HX5.out.2]; rfl) (by rw [List.size_toArray, cb_length, HX5.out.2]; kernel_rfl) (cb_all _) fun x2 hx2 hg2 => ?_
          have HY2 := Hid.of hx2
          have HY1 := Hid.of (HX1.out.by hg2 (by intro h; injection h with h; omega))
          have HYU := Hid.of (HXU.out.by hg2 (fun g hg => by have := HLt.out; injection hg with hg; omega))
          clear hx2 hg2 HX1 HX2 HXU
          simp only [Act.put]
          go_wp2_with (with_reducible show wpList _ _ _ ({ dst := _, op := Op.load 43 _, type := _, pos := _, after := _, guard := _ } :: _) _ _; refine Shut.out ?_)
          show wpList _ _ _ _ _ _
          refine wpList_load_mid rfl _ _ rfl w50.heap.size 0 rfl (cb x5) _ HY1.out.range Tryd.underlying43 rfl (by rw [cb_length, HX5.out.1]; kernel_rfl) ?_
          simp only [Act.put, List.setIfInBounds_toArray, List.set_cons_zero, List.set_cons_succ]
          go_wp2_with (with_reducible show wpList _ _ _ ({ dst := _, op := Op.load 43 _, type := _, pos := _, after := _, guard := _ } :: _) _ _; refine Shut.out ?_)
          show wpList _ _ _ _ _ _
          refine wpList_load_mid rfl _ _ rfl (w50.heap.size + 1) 0 rfl (cb y5) _ HY2.out.range Tryd.underlying43 rfl (by rw [cb_length, HX5.out.2]; kernel_rfl) ?_
          simp only [Act.put, List.setIfInBounds_toArray, List.set_cons_zero, List.set_cons_succ]
          go_wp2_with fail
          refine ((HE5 _ HYU.out).out).mono ?_
          rintro e w51 ⟨rfl, u51⟩
          have H51 := Hid.of (HYU.out.trans u51)
          have Hu51 := Hid.of u51
          clear u51
          dsimp only
          rcases hc5 with ⟨rfl, rfl, rfl, h5⟩ | ⟨h5, h6⟩
          · go_wp2
            go_ret
            exact ⟨by first | rfl | simp, H51.out⟩
          · have h5n : (e5 != 0) = true := by rw [bne, h5]; rfl
            go_wp2
            go_ret
            exact ⟨by first | rfl | simp, H51.out⟩
      · skip
        go_wp2_with fail
        refine ((HU4 _ (H31.out)).out).mono ?_
        rintro e w40 ⟨rfl, u40⟩
        have H40 := Hid.of (H31.out.trans u40)
        have Hu40 := Hid.of u40
        clear u40
        dsimp only
        have HLt4 := Hid.of H40.out.size
        have HA4 := Hid.of (at_new w40 43 (cb Z32))
        have HW4 := Hid.of (H40.out.alloc (.cells (cb Z32).toArray 43))
        go_wp2_with (with_reducible show wpList _ _ _ ({ dst := _, op := Op.store 43 _ _, type := _, pos := _, after := _, guard := _ } :: _) _ _; refine Shut.out ?_)
        show wpList _ _ _ _ _ _
        rw [zlit]
        generalize w40.alloc (.cells (cb Z32).toArray 43) = W4 at *
        refine wpList_store_at rfl _ _ _ rfl w40.heap.size HA4.out (cb x4) rfl rfl (by rw [cb_length, cb_length, HX4.out]; rfl) (by rw [List.size_toArray, cb_length, HX4.out]; kernel_rfl) (cb_all _) fun z1 hz1 hg1 => ?_
        have HZ1 := Hid.of hz1
        have HZU := Hid.of (HW4.out.by hg1 (fun g hg => by have := HLt4.out; injection hg with hg; omega))
        clear hz1 hg1 HA4 HW4
        simp only [Act.put]
        rcases hc4 with ⟨rfl, rfl⟩ | h4
        · skip
          go_wp2_with (with_reducible show wpList _ _ _ ({ dst := _, op := Op.load 43 _, type := _, pos := _, after := _, guard := _ } :: _) _ _; refine Shut.out ?_)
          show wpList _ _ _ _ _ _
          refine wpList_load_want (by kernel_rfl) _ _ rfl w40.heap.size 0 rfl (cb x4) _ HZ1.out.range Tryd.underlying43 rfl (by rw [cb_length, HX4.out]; kernel_rfl) ?_
          simp only [Act.put, List.setIfInBounds_toArray, List.set_cons_zero, List.set_cons_succ]
          go_wp2_with fail
          refine ((HE4 _ HZU.out).out).mono ?_
          rintro e w41 ⟨rfl, u41⟩
          have H41 := Hid.of (HZU.out.trans u41)
          have Hu41 := Hid.of u41
          clear u41
          dsimp only
          go_wp2_with fail
          refine ((HU5 _ (H41.out)).out).mono ?_
          rintro e w50 ⟨rfl, u50⟩
          have H50 := Hid.of (H41.out.trans u50)
          have Hu50 := Hid.of u50
          clear u50
          dsimp only
          have HLt := Hid.of H50.out.size
          have HB2 : Hid (At ((w50.alloc (.cells (cb Z32).toArray 43)).alloc (.cells (cb Z32).toArray 43)) (w50.heap.size + 1) 43 (cb Z32)) := by
            have := at_new (w50.alloc (.cells (cb Z32).toArray 43)) 43 (cb Z32)
            rw [alloc_size] at this
            exact this
          have HB1 : Hid (At ((w50.alloc (.cells (cb Z32).toArray 43)).alloc (.cells (cb Z32).toArray 43)) w50.heap.size 43 (cb Z32)) := At.up (at_new w50 43 (cb Z32)) ((Up.refl _).alloc _)
          have HU := Hid.of ((H50.out.alloc (.cells (cb Z32).toArray 43)).alloc (.cells (cb Z32).toArray 43))
          go_wp2_with (with_reducible show wpList _ _ _ ({ dst := _, op := Op.store 43 _ _, type := _, pos := _, after := _, guard := _ } :: _) _ _; refine Shut.out ?_)
          show wpList _ _ _ _ _ _
          rw [zlit]
          generalize (w50.alloc (.cells (cb Z32).toArray 43)).alloc (.cells (cb Z32).toArray 43) = W5 at *
          refine wpList_store_at rfl _ _ _ rfl w50.heap.size HB1.out (cb x5) rfl rfl (by rw [cb_length, cb_length, HX5.out.1]; rfl) (by rw [List.size_toArray, cb_length, HX5.out.1]; kernel_rfl) (cb_all _) fun x1 hx1 hg1 => ?_
          have HX1 := Hid.of hx1
          have HX2 := Hid.of (HB2.out.by hg1 (by intro h; injection h with h; omega))
          have HXU := Hid.of (HU.out.by hg1 (fun g hg => by have := HLt.out; injection hg with hg; omega))
          clear hx1 hg1 HB1 HB2 HU
          simp only [Act.put]
          go_wp2_with (with_reducible show wpList _ _ _ ({ dst := _, op := Op.store 43 _ _, type := _, pos := _, after := _, guard := _ } :: _) _ _; refine Shut.out ?_)
          show wpList _ _ _ _ _ _
          refine wpList_store_at rfl _ _ _ rfl (w50.heap.size + 1) HX2.out (cb y5) rfl rfl (by rw [cb_length, cb_length, HX5.out.2]; rfl) (by rw [List.size_toArray, cb_length, HX5.out.2]; kernel_rfl) (cb_all _) fun x2 hx2 hg2 => ?_
          have HY2 := Hid.of hx2
          have HY1 := Hid.of (HX1.out.by hg2 (by intro h; injection h with h; omega))
          have HYU := Hid.of (HXU.out.by hg2 (fun g hg => by have := HLt.out; injection hg with hg; omega))
          clear hx2 hg2 HX1 HX2 HXU
          simp only [Act.put]
          go_wp2_with (with_reducible show wpList _ _ _ ({ dst := _, op := Op.load 43 _, type := _, pos := _, after := _, guard := _ } :: _) _ _; refine Shut.out ?_)
          show wpList _ _ _ _ _ _
          refine wpList_load_mid rfl _ _ rfl w50.heap.size 0 rfl (cb x5) _ HY1.out.range Tryd.underlying43 rfl (by rw [cb_length, HX5.out.1]; kernel_rfl) ?_
          simp only [Act.put, List.setIfInBounds_toArray, List.set_cons_zero, List.set_cons_succ]
          go_wp2_with (with_reducible show wpList _ _ _ ({ dst := _, op := Op.load 43 _, type := _, pos := _, after := _, guard := _ } :: _) _ _; refine Shut.out ?_)
          show wpList _ _ _ _ _ _
          refine wpList_load_mid rfl _ _ rfl (w50.heap.size + 1) 0 rfl (cb y5) _ HY2.out.range Tryd.underlying43 rfl (by rw [cb_length, HX5.out.2]; kernel_rfl) ?_
          simp only [Act.put, List.setIfInBounds_toArray, List.set_cons_zero, List.set_cons_succ]
          go_wp2_with fail
          refine ((HE5 _ HYU.out).out).mono ?_
          rintro e w51 ⟨rfl, u51⟩
          have H51 := Hid.of (HYU.out.trans u51)
          have Hu51 := Hid.of u51
          clear u51
          dsimp only
          rcases hc5 with ⟨rfl, rfl, rfl, h5⟩ | ⟨h5, h6⟩
          · go_wp2
            go_ret
            exact ⟨by first | rfl | simp, H51.out⟩
          · have h5n : (e5 != 0) = true := by rw [bne, h5]; rfl
            go_wp2
            go_ret
            exact ⟨by first | rfl | simp, H51.out⟩
        · clear HE4 HZ1
          go_wp2_with fail
          refine ((HU5 _ (HZU.out)).out).mono ?_
          rintro e w50 ⟨rfl, u50⟩
          have H50 := Hid.of (HZU.out.trans u50)
          have Hu50 := Hid.of u50
          clear u50
          dsimp only
          have HLt := Hid.of H50.out.size
          have HB2 : Hid (At ((w50.alloc (.cells (cb Z32).toArray 43)).alloc (.cells (cb Z32).toArray 43)) (w50.heap.size + 1) 43 (cb Z32)) := by
            have := at_new (w50.alloc (.cells (cb Z32).toArray 43)) 43 (cb Z32)
            rw [alloc_size] at this
            exact this
          have HB1 : Hid (At ((w50.alloc (.cells (cb Z32).toArray 43)).alloc (.cells (cb Z32).toArray 43)) w50.heap.size 43 (cb Z32)) := At.up (at_new w50 43 (cb Z32)) ((Up.refl _).alloc _)
          have HU := Hid.of ((H50.out.alloc (.cells (cb Z32).toArray 43)).alloc (.cells (cb Z32).toArray 43))
          go_wp2_with (with_reducible show wpList _ _ _ ({ dst := _, op := Op.store 43 _ _, type := _, pos := _, after := _, guard := _ } :: _) _ _; refine Shut.out ?_)
          show wpList _ _ _ _ _ _
          rw [zlit]
          generalize (w50.alloc (.cells (cb Z32).toArray 43)).alloc (.cells (cb Z32).toArray 43) = W5 at *
          refine wpList_store_at rfl _ _ _ rfl w50.heap.size HB1.out (cb x5) rfl rfl (by rw [cb_length, cb_length, HX5.out.1]; rfl) (by rw [List.size_toArray, cb_length, HX5.out.1]; kernel_rfl) (cb_all _) fun x1 hx1 hg1 => ?_
          have HX1 := Hid.of hx1
          have HX2 := Hid.of (HB2.out.by hg1 (by intro h; injection h with h; omega))
          have HXU := Hid.of (HU.out.by hg1 (fun g hg => by have := HLt.out; injection hg with hg; omega))
          clear hx1 hg1 HB1 HB2 HU
          simp only [Act.put]
          go_wp2_with (with_reducible show wpList _ _ _ ({ dst := _, op := Op.store 43 _ _, type := _, pos := _, after := _, guard := _ } :: _) _ _; refine Shut.out ?_)
          show wpList _ _ _ _ _ _
          refine wpList_store_at rfl _ _ _ rfl (w50.heap.size + 1) HX2.out (cb y5) rfl rfl (by rw [cb_length, cb_length, HX5.out.2]; rfl) (by rw [List.size_toArray, cb_length, HX5.out.2]; kernel_rfl) (cb_all _) fun x2 hx2 hg2 => ?_
          have HY2 := Hid.of hx2
          have HY1 := Hid.of (HX1.out.by hg2 (by intro h; injection h with h; omega))
          have HYU := Hid.of (HXU.out.by hg2 (fun g hg => by have := HLt.out; injection hg with hg; omega))
          clear hx2 hg2 HX1 HX2 HXU
          simp only [Act.put]
          go_wp2_with (with_reducible show wpList _ _ _ ({ dst := _, op := Op.load 43 _, type := _, pos := _, after := _, guard := _ } :: _) _ _; refine Shut.out ?_)
          show wpList _ _ _ _ _ _
          refine wpList_load_mid rfl _ _ rfl w50.heap.size 0 rfl (cb x5) _ HY1.out.range Tryd.underlying43 rfl (by rw [cb_length, HX5.out.1]; kernel_rfl) ?_
          simp only [Act.put, List.setIfInBounds_toArray, List.set_cons_zero, List.set_cons_succ]
          go_wp2_with (with_reducible show wpList _ _ _ ({ dst := _, op := Op.load 43 _, type := _, pos := _, after := _, guard := _ } :: _) _ _; refine Shut.out ?_)
          show wpList _ _ _ _ _ _
          refine wpList_load_mid rfl _ _ rfl (w50.heap.size + 1) 0 rfl (cb y5) _ HY2.out.range Tryd.underlying43 rfl (by rw [cb_length, HX5.out.2]; kernel_rfl) ?_
          simp only [Act.put, List.setIfInBounds_toArray, List.set_cons_zero, List.set_cons_succ]
          go_wp2_with fail
          refine ((HE5 _ HYU.out).out).mono ?_
          rintro e w51 ⟨rfl, u51⟩
          have H51 := Hid.of (HYU.out.trans u51)
          have Hu51 := Hid.of u51
          clear u51
          dsimp only
          rcases hc5 with ⟨rfl, rfl, rfl, h5⟩ | ⟨h5, h6⟩
          · go_wp2
            go_ret
            exact ⟨by first | rfl | simp, H51.out⟩
          · have h5n : (e5 != 0) = true := by rw [bne, h5]; rfl
            go_wp2
            go_ret
            exact ⟨by first | rfl | simp, H51.out⟩
  · skip
    go_wp2_with fail
    refine ((HU2 _ (H11.out)).out).mono ?_
    rintro e w20 ⟨rfl, u20⟩
    have H20 := Hid.of (H11.out.trans u20)
    have Hu20 := Hid.of u20
    clear u20
    dsimp only
    go_wp2_with fail
    refine ((HE2 _ H20.out).out).mono ?_
    rintro e w21 ⟨rfl, u21⟩
    have H21 := Hid.of (H20.out.trans u21)
    have Hu21 := Hid.of u21
    clear u21
    dsimp only
    clear HU2 HE2
    rcases hc2 with ⟨rfl, rfl, hq2, h2⟩ | ⟨h2, h2b⟩
    · subst hq2
      go_wp2_with fail
      refine ((HU3 _ (H21.out)).out).mono ?_
      rintro e w30 ⟨rfl, u30⟩
      have H30 := Hid.of (H21.out.trans u30)
      have Hu30 := Hid.of u30
      clear u30
      dsimp only
      go_wp2_with fail
      refine ((HE3 _ H30.out).out).mono ?_
      rintro e w31 ⟨rfl, u31⟩
      have H31 := Hid.of (H30.out.trans u31)
      have Hu31 := Hid.of u31
      clear u31
      dsimp only
      clear HU3 HE3
      rcases hc3 with ⟨rfl, rfl, hq3, h3⟩ | ⟨h3, h3b⟩
      · subst hq3
        go_wp2_with fail
        refine ((HU4 _ (H31.out)).out).mono ?_
        rintro e w40 ⟨rfl, u40⟩
        have H40 := Hid.of (H31.out.trans u40)
        have Hu40 := Hid.of u40
        clear u40
        dsimp only
        have HLt4 := Hid.of H40.out.size
        have HA4 := Hid.of (at_new w40 43 (cb Z32))
        have HW4 := Hid.of (H40.out.alloc (.cells (cb Z32).toArray 43))
        go_wp2_with (with_reducible show wpList _ _ _ ({ dst := _, op := Op.store 43 _ _, type := _, pos := _, after := _, guard := _ } :: _) _ _; refine Shut.out ?_)
        show wpList _ _ _ _ _ _
        rw [zlit]
        generalize w40.alloc (.cells (cb Z32).toArray 43) = W4 at *
        refine wpList_store_at rfl _ _ _ rfl w40.heap.size HA4.out (cb x4) rfl rfl (by rw [cb_length, cb_length, HX4.out]; rfl) (by rw [List.size_toArray, cb_length, HX4.out]; kernel_rfl) (cb_all _) fun z1 hz1 hg1 => ?_
        have HZ1 := Hid.of hz1
        have HZU := Hid.of (HW4.out.by hg1 (fun g hg => by have := HLt4.out; injection hg with hg; omega))
        clear hz1 hg1 HA4 HW4
        simp only [Act.put]
        rcases hc4 with ⟨rfl, rfl⟩ | h4
        · skip
          go_wp2_with (with_reducible show wpList _ _ _ ({ dst := _, op := Op.load 43 _, type := _, pos := _, after := _, guard := _ } :: _) _ _; refine Shut.out ?_)
          show wpList _ _ _ _ _ _
          refine wpList_load_want (by kernel_rfl) _ _ rfl w40.heap.size 0 rfl (cb x4) _ HZ1.out.range Tryd.underlying43 rfl (by rw [cb_length, HX4.out]; kernel_rfl) ?_
          simp only [Act.put, List.setIfInBounds_toArray, List.set_cons_zero, List.set_cons_succ]
          go_wp2_with fail
          refine ((HE4 _ HZU.out).out).mono ?_
          rintro e w41 ⟨rfl, u41⟩
          have H41 := Hid.of (HZU.out.trans u41)
          have Hu41 := Hid.of u41
          clear u41
          dsimp only
          go_wp2_with fail
          refine ((HU5 _ (H41.out)).out).mono ?_
          rintro e w50 ⟨rfl, u50⟩
          have H50 := Hid.of (H41.out.trans u50)
          have Hu50 := Hid.of u50
          clear u50
          dsimp only
          have HLt := Hid.of H50.out.size
          have HB2 : Hid (At ((w50.alloc (.cells (cb Z32).toArray 43)).alloc (.cells (cb Z32).toArray 43)) (w50.heap.size + 1) 43 (cb Z32)) := by
            have := at_new (w50.alloc (.cells (cb Z32).toArray 43)) 43 (cb Z32)
            rw [alloc_size] at this
            exact this
          have HB1 : Hid (At ((w50.alloc (.cells (cb Z32).toArray 43)).alloc (.cells (cb Z32).toArray 43)) w50.heap.size 43 (cb Z32)) := At.up (at_new w50 43 (cb Z32)) ((Up.refl _).alloc _)
          have HU := Hid.of ((H50.out.alloc (.cells (cb Z32).toArray 43)).alloc (.cells (cb Z32).toArray 43))
          go_wp2_with (with_reducible show wpList _ _ _ ({ dst := _, op := Op.store 43 _ _, type := _, pos := _, after := _, guard := _ } :: _) _ _; refine Shut.out ?_)
          show wpList _ _ _ _ _ _
          rw [zlit]
          generalize (w50.alloc (.cells (cb Z32).toArray 43)).alloc (.cells (cb Z32).toArray 43) = W5 at *
          refine wpList_store_at rfl _ _ _ rfl w50.heap.size HB1.out (cb x5) rfl rfl (by rw [cb_length, cb_length, HX5.out.1]; rfl) (by rw [List.size_toArray, cb_length, HX5.out.1]; kernel_rfl) (cb_all _) fun x1 hx1 hg1 => ?_
          have HX1 := Hid.of hx1
          have HX2 := Hid.of (HB2.out.by hg1 (by intro h; injection h with h; omega))
          have HXU := Hid.of (HU.out.by hg1 (fun g hg => by have := HLt.out; injection hg with hg; omega))
          clear hx1 hg1 HB1 HB2 HU
          simp only [Act.put]
          go_wp2_with (with_reducible show wpList _ _ _ ({ dst := _, op := Op.store 43 _ _, type := _, pos := _, after := _, guard := _ } :: _) _ _; refine Shut.out ?_)
          show wpList _ _ _ _ _ _
          refine wpList_store_at rfl _ _ _ rfl (w50.heap.size + 1) HX2.out (cb y5) rfl rfl (by rw [cb_length, cb_length, HX5.out.2]; rfl) (by rw [List.size_toArray, cb_length, HX5.out.2]; kernel_rfl) (cb_all _) fun x2 hx2 hg2 => ?_
          have HY2 := Hid.of hx2
          have HY1 := Hid.of (HX1.out.by hg2 (by intro h; injection h with h; omega))
          have HYU := Hid.of (HXU.out.by hg2 (fun g hg => by have := HLt.out; injection hg with hg; omega))
          clear hx2 hg2 HX1 HX2 HXU
          simp only [Act.put]
          go_wp2_with (with_reducible show wpList _ _ _ ({ dst := _, op := Op.load 43 _, type := _, pos := _, after := _, guard := _ } :: _) _ _; refine Shut.out ?_)
          show wpList _ _ _ _ _ _
          refine wpList_load_mid rfl _ _ rfl w50.heap.size 0 rfl (cb x5) _ HY1.out.range Tryd.underlying43 rfl (by rw [cb_length, HX5.out.1]; kernel_rfl) ?_
          simp only [Act.put, List.setIfInBounds_toArray, List.set_cons_zero, List.set_cons_succ]
          go_wp2_with (with_reducible show wpList _ _ _ ({ dst := _, op := Op.load 43 _, type := _, pos := _, after := _, guard := _ } :: _) _ _; refine Shut.out ?_)
          show wpList _ _ _ _ _ _
          refine wpList_load_mid rfl _ _ rfl (w50.heap.size + 1) 0 rfl (cb y5) _ HY2.out.range Tryd.underlying43 rfl (by rw [cb_length, HX5.out.2]; kernel_rfl) ?_
          simp only [Act.put, List.setIfInBounds_toArray, List.set_cons_zero, List.set_cons_succ]
          go_wp2_with fail
          refine ((HE5 _ HYU.out).out).mono ?_
          rintro e w51 ⟨rfl, u51⟩
          have H51 := Hid.of (HYU.out.trans u51)
          have Hu51 := Hid.of u51
          clear u51
          dsimp only
          rcases hc5 with ⟨rfl, rfl, rfl, h5⟩ | ⟨h5, h6⟩
          · go_wp2
            go_ret
            exact ⟨by first | rfl | simp, H51.out⟩
          · have h5n : (e5 != 0) = true := by rw [bne, h5]; rfl
            go_wp2
            go_ret
            exact ⟨by first | rfl | simp, H51.out⟩
        · clear HE4 HZ1
          go_wp2_with fail
          refine ((HU5 _ (HZU.out)).out).mono ?_
          rintro e w50 ⟨rfl, u50⟩
          have H50 := Hid.of (HZU.out.trans u50)
          have Hu50 := Hid.of u50
          clear u50
          dsimp only
          have HLt := Hid.of H50.out.size
          have HB2 : Hid (At ((w50.alloc (.cells (cb Z32).toArray 43)).alloc (.cells (cb Z32).toArray 43)) (w50.heap.size + 1) 43 (cb Z32)) := by
            have := at_new (w50.alloc (.cells (cb Z32).toArray 43)) 43 (cb Z32)
            rw [alloc_size] at this
            exact this
          have HB1 : Hid (At ((w50.alloc (.cells (cb Z32).toArray 43)).alloc (.cells (cb Z32).toArray 43)) w50.heap.size 43 (cb Z32)) := At.up (at_new w50 43 (cb Z32)) ((Up.refl _).alloc _)
          have HU := Hid.of ((H50.out.alloc (.cells (cb Z32).toArray 43)).alloc (.cells (cb Z32).toArray 43))
          go_wp2_with (with_reducible show wpList _ _ _ ({ dst := _, op := Op.store 43 _ _, type := _, pos := _, after := _, guard := _ } :: _) _ _; refine Shut.out ?_)
          show wpList _ _ _ _ _ _
          rw [zlit]
          generalize (w50.alloc (.cells (cb Z32).toArray 43)).alloc (.cells (cb Z32).toArray 43) = W5 at *
          refine wpList_store_at rfl _ _ _ rfl w50.heap.size HB1.out (cb x5) rfl rfl (by rw [cb_length, cb_length, HX5.out.1]; rfl) (by rw [List.size_toArray, cb_length, HX5.out.1]; kernel_rfl) (cb_all _) fun x1 hx1 hg1 => ?_
          have HX1 := Hid.of hx1
          have HX2 := Hid.of (HB2.out.by hg1 (by intro h; injection h with h; omega))
          have HXU := Hid.of (HU.out.by hg1 (fun g hg => by have := HLt.out; injection hg with hg; omega))
          clear hx1 hg1 HB1 HB2 HU
          simp only [Act.put]
          go_wp2_with (with_reducible show wpList _ _ _ ({ dst := _, op := Op.store 43 _ _, type := _, pos := _, after := _, guard := _ } :: _) _ _; refine Shut.out ?_)
          show wpList _ _ _ _ _ _
          refine wpList_store_at rfl _ _ _ rfl (w50.heap.size + 1) HX2.out (cb y5) rfl rfl (by rw [cb_length, cb_length, HX5.out.2]; rfl) (by rw [List.size_toArray, cb_length, HX5.out.2]; kernel_rfl) (cb_all _) fun x2 hx2 hg2 => ?_
          have HY2 := Hid.of hx2
          have HY1 := Hid.of (HX1.out.by hg2 (by intro h; injection h with h; omega))
          have HYU := Hid.of (HXU.out.by hg2 (fun g hg => by have := HLt.out; injection hg with hg; omega))
          clear hx2 hg2 HX1 HX2 HXU
          simp only [Act.put]
          go_wp2_with (with_reducible show wpList _ _ _ ({ dst := _, op := Op.load 43 _, type := _, pos := _, after := _, guard := _ } :: _) _ _; refine Shut.out ?_)
          show wpList _ _ _ _ _ _
          refine wpList_load_mid rfl _ _ rfl w50.heap.size 0 rfl (cb x5) _ HY1.out.range Tryd.underlying43 rfl (by rw [cb_length, HX5.out.1]; kernel_rfl) ?_
          simp only [Act.put, List.setIfInBounds_toArray, List.set_cons_zero, List.set_cons_succ]
          go_wp2_with (with_reducible show wpList _ _ _ ({ dst := _, op := Op.load 43 _, type := _, pos := _, after := _, guard := _ } :: _) _ _; refine Shut.out ?_)
          show wpList _ _ _ _ _ _
          refine wpList_load_mid rfl _ _ rfl (w50.heap.size + 1) 0 rfl (cb y5) _ HY2.out.range Tryd.underlying43 rfl (by rw [cb_length, HX5.out.2]; kernel_rfl) ?_
          simp only [Act.put, List.setIfInBounds_toArray, List.set_cons_zero, List.set_cons_succ]
          go_wp2_with fail
          refine ((HE5 _ HYU.out).out).mono ?_
          rintro e w51 ⟨rfl, u51⟩
          have H51 := Hid.of (HYU.out.trans u51)
          have Hu51 := Hid.of u51
          clear u51
          dsimp only
          rcases hc5 with ⟨rfl, rfl, rfl, h5⟩ | ⟨h5, h6⟩
          · go_wp2
            go_ret
            exact ⟨by first | rfl | simp, H51.out⟩
          · have h5n : (e5 != 0) = true := by rw [bne, h5]; rfl
            go_wp2
            go_ret
            exact ⟨by first | rfl | simp, H51.out⟩
      · skip
        go_wp2_with fail
        refine ((HU4 _ (H31.out)).out).mono ?_
        rintro e w40 ⟨rfl, u40⟩
        have H40 := Hid.of (H31.out.trans u40)
        have Hu40 := Hid.of u40
        clear u40
        dsimp only
        have HLt4 := Hid.of H40.out.size
        have HA4 := Hid.of (at_new w40 43 (cb Z32))
        have HW4 := Hid.of (H40.out.alloc (.cells (cb Z32).toArray 43))
        go_wp2_with (with_reducible show wpList _ _ _ ({ dst := _, op := Op.store 43 _ _, type := _, pos := _, after := _, guard := _ } :: _) _ _; refine Shut.out ?_)
        show wpList _ _ _ _ _ _
        rw [zlit]
        generalize w40.alloc (.cells (cb Z32).toArray 43) = W4 at *
        refine wpList_store_at rfl _ _ _ rfl w40.heap.size HA4.out (cb x4) rfl rfl (by rw [cb_length, cb_length, HX4.out]; rfl) (by rw [List.size_toArray, cb_length, HX4.out]; kernel_rfl) (cb_all _) fun z1 hz1 hg1 => ?_
        have HZ1 := Hid.of hz1
        have HZU := Hid.of (HW4.out.by hg1 (fun g hg => by have := HLt4.out; injection hg with hg; omega))
        clear hz1 hg1 HA4 HW4
        simp only [Act.put]
        rcases hc4 with ⟨rfl, rfl⟩ | h4
        · skip
          go_wp2_with (with_reducible show wpList _ _ _ ({ dst := _, op := Op.load 43 _, type := _, pos := _, after := _, guard := _ } :: _) _ _; refine Shut.out ?_)
          show wpList _ _ _ _ _ _
          refine wpList_load_want (by kernel_rfl) _ _ rfl w40.heap.size 0 rfl (cb x4) _ HZ1.out.range Tryd.underlying43 rfl (by rw [cb_length, HX4.out]; kernel_rfl) ?_
          simp only [Act.put, List.setIfInBounds_toArray, List.set_cons_zero, List.set_cons_succ]
          go_wp2_with fail
          refine ((HE4 _ HZU.out).out).mono ?_
          rintro e w41 ⟨rfl, u41⟩
          have H41 := Hid.of (HZU.out.trans u41)
          have Hu41 := Hid.of u41
          clear u41
          dsimp only
          go_wp2_with fail
          refine ((HU5 _ (H41.out)).out).mono ?_
          rintro e w50 ⟨rfl, u50⟩
          have H50 := Hid.of (H41.out.trans u50)
          have Hu50 := Hid.of u50
          clear u50
          dsimp only
          have HLt := Hid.of H50.out.size
          have HB2 : Hid (At ((w50.alloc (.cells (cb Z32).toArray 43)).alloc (.cells (cb Z32).toArray 43)) (w50.heap.size + 1) 43 (cb Z32)) := by
            have := at_new (w50.alloc (.cells (cb Z32).toArray 43)) 43 (cb Z32)
            rw [alloc_size] at this
            exact this
          have HB1 : Hid (At ((w50.alloc (.cells (cb Z32).toArray 43)).alloc (.cells (cb Z32).toArray 43)) w50.heap.size 43 (cb Z32)) := At.up (at_new w50 43 (cb Z32)) ((Up.refl _).alloc _)
          have HU := Hid.of ((H50.out.alloc (.cells (cb Z32).toArray 43)).alloc (.cells (cb Z32).toArray 43))
          go_wp2_with (with_reducible show wpList _ _ _ ({ dst := _, op := Op.store 43 _ _, type := _, pos := _, after := _, guard := _ } :: _) _ _; refine Shut.out ?_)
          show wpList _ _ _ _ _ _
          rw [zlit]
          generalize (w50.alloc (.cells (cb Z32).toArray 43)).alloc (.cells (cb Z32).toArray 43) = W5 at *
          refine wpList_store_at rfl _ _ _ rfl w50.heap.size HB1.out (cb x5) rfl rfl (by rw [cb_length, cb_length, HX5.out.1]; rfl) (by rw [List.size_toArray, cb_length, HX5.out.1]; kernel_rfl) (cb_all _) fun x1 hx1 hg1 => ?_
          have HX1 := Hid.of hx1
          have HX2 := Hid.of (HB2.out.by hg1 (by intro h; injection h with h; omega))
          have HXU := Hid.of (HU.out.by hg1 (fun g hg => by have := HLt.out; injection hg with hg; omega))
          clear hx1 hg1 HB1 HB2 HU
          simp only [Act.put]
          go_wp2_with (with_reducible show wpList _ _ _ ({ dst := _, op := Op.store 43 _ _, type := _, pos := _, after := _, guard := _ } :: _) _ _; refine Shut.out ?_)
          show wpList _ _ _ _ _ _
          refine wpList_store_at rfl _ _ _ rfl (w50.heap.size + 1) HX2.out (cb y5) rfl rfl (by rw [cb_length, cb_length, HX5.out.2]; rfl) (by rw [List.size_toArray, cb_length, HX5.out.2]; kernel_rfl) (cb_all _) fun x2 hx2 hg2 => ?_
          have HY2 := Hid.of hx2
          have HY1 := Hid.of (HX1.out.by hg2 (by intro h; injection h with h; omega))
          have HYU := Hid.of (HXU.out.by hg2 (fun g hg => by have := HLt.out; injection hg with hg; omega))
          clear hx2 hg2 HX1 HX2 HXU
          simp only [Act.put]
          go_wp2_with (with_reducible show wpList _ _ _ ({ dst := _, op := Op.load 43 _, type := _, pos := _, after := _, guard := _ } :: _) _ _; refine Shut.out ?_)
          show wpList _ _ _ _ _ _
          refine wpList_load_mid rfl _ _ rfl w50.heap.size 0 rfl (cb x5) _ HY1.out.range Tryd.underlying43 rfl (by rw [cb_length, HX5.out.1]; kernel_rfl) ?_
          simp only [Act.put, List.setIfInBounds_toArray, List.set_cons_zero, List.set_cons_succ]
          go_wp2_with (with_reducible show wpList _ _ _ ({ dst := _, op := Op.load 43 _, type := _, pos := _, after := _, guard := _ } :: _) _ _; refine Shut.out ?_)
          show wpList _ _ _ _ _ _
          refine wpList_load_mid rfl _ _ rfl (w50.heap.size + 1) 0 rfl (cb y5) _ HY2.out.range Tryd.underlying43 rfl (by rw [cb_length, HX5.out.2]; kernel_rfl) ?_
          simp only [Act.put, List.setIfInBounds_toArray, List.set_cons_zero, List.set_cons_succ]
          go_wp2_with fail
          refine ((HE5 _ HYU.out).out).mono ?_
          rintro e w51 ⟨rfl, u51⟩
          have H51 := Hid.of (HYU.out.trans u51)
          have Hu51 := Hid.of u51
          clear u51
          dsimp only
          rcases hc5 with ⟨rfl, rfl, rfl, h5⟩ | ⟨h5, h6⟩
          · go_wp2
            go_ret
            exact ⟨by first | rfl | simp, H51.out⟩
          · have h5n : (e5 != 0) = true := by rw [bne, h5]; rfl
            go_wp2
            go_ret
            exact ⟨by first | rfl | simp, H51.out⟩
        · clear HE4 HZ1
          go_wp2_with fail
          refine ((HU5 _ (HZU.out)).out).mono ?_
          rintro e w50 ⟨rfl, u50⟩
          have H50 := Hid.of (HZU.out.trans u50)
          have Hu50 := Hid.of u50
          clear u50
          dsimp only
          have HLt := Hid.of H50.out.size
          have HB2 : Hid (At ((w50.alloc (.cells (cb Z32).toArray 43)).alloc (.cells (cb Z32).toArray 43)) (w50.heap.size + 1) 43 (cb Z32)) := by
            have := at_new (w50.alloc (.cells (cb Z32).toArray 43)) 43 (cb Z32)
            rw [alloc_size] at this
            exact this
          have HB1 : Hid (At ((w50.alloc (.cells (cb Z32).toArray 43)).alloc (.cells (cb Z32).toArray 43)) w50.heap.size 43 (cb Z32)) := At.up (at_new w50 43 (cb Z32)) ((Up.refl _).alloc _)
          have HU := Hid.of ((H50.out.alloc (.cells (cb Z32).toArray 43)).alloc (.cells (cb Z32).toArray 43))
          go_wp2_with (with_reducible show wpList _ _ _ ({ dst := _, op := Op.store 43 _ _, type := _, pos := _, after := _, guard := _ } :: _) _ _; refine Shut.out ?_)
          show wpList _ _ _ _ _ _
          rw [zlit]
          generalize (w50.alloc (.cells (cb Z32).toArray 43)).alloc (.cells (cb Z32).toArray 43) = W5 at *
          refine wpList_store_at rfl _ _ _ rfl w50.heap.size HB1.out (cb x5) rfl rfl (by rw [cb_length, cb_length, HX5.out.1]; rfl) (by rw [List.size_toArray, cb_length, HX5.out.1]; kernel_rfl) (cb_all _) fun x1 hx1 hg1 => ?_
          have HX1 := Hid.of hx1
          have HX2 := Hid.of (HB2.out.by hg1 (by intro h; injection h with h; omega))
          have HXU := Hid.of (HU.out.by hg1 (fun g hg => by have := HLt.out; injection hg with hg; omega))
          clear hx1 hg1 HB1 HB2 HU
          simp only [Act.put]
          go_wp2_with (with_reducible show wpList _ _ _ ({ dst := _, op := Op.store 43 _ _, type := _, pos := _, after := _, guard := _ } :: _) _ _; refine Shut.out ?_)
          show wpList _ _ _ _ _ _
          refine wpList_store_at rfl _ _ _ rfl (w50.heap.size + 1) HX2.out (cb y5) rfl rfl (by rw [cb_length, cb_length, HX5.out.2]; rfl) (by rw [List.size_toArray, cb_length, HX5.out.2]; kernel_rfl) (cb_all _) fun x2 hx2 hg2 => ?_
          have HY2 := Hid.of hx2
          have HY1 := Hid.of (HX1.out.by hg2 (by intro h; injection h with h; omega))
          have HYU := Hid.of (HXU.out.by hg2 (fun g hg => by have := HLt.out; injection hg with hg; omega))
          clear hx2 hg2 HX1 HX2 HXU
          simp only [Act.put]
          go_wp2_with (with_reducible show wpList _ _ _ ({ dst := _, op := Op.load 43 _, type := _, pos := _, after := _, guard := _ } :: _) _ _; refine Shut.out ?_)
          show wpList _ _ _ _ _ _
          refine wpList_load_mid rfl _ _ rfl w50.heap.size 0 rfl (cb x5) _ HY1.out.range Tryd.underlying43 rfl (by rw [cb_length, HX5.out.1]; kernel_rfl) ?_
          simp only [Act.put, List.setIfInBounds_toArray, List.set_cons_zero, List.set_cons_succ]
          go_wp2_with (with_reducible show wpList _ _ _ ({ dst := _, op := Op.load 43 _, type := _, pos := _, after := _, guard := _ } :: _) _ _; refine Shut.out ?_)
          show wpList _ _ _ _ _ _
          refine wpList_load_mid rfl _ _ rfl (w50.heap.size + 1) 0 rfl (cb y5) _ HY2.out.range Tryd.underlying43 rfl (by rw [cb_length, HX5.out.2]; kernel_rfl) ?_
          simp only [Act.put, List.setIfInBounds_toArray, List.set_cons_zero, List.set_cons_succ]
          go_wp2_with fail
          refine ((HE5 _ HYU.out).out).mono ?_
          rintro e w51 ⟨rfl, u51⟩
          have H51 := Hid.of (HYU.out.trans u51)
          have Hu51 := Hid.of u51
          clear u51
          dsimp only
          rcases hc5 with ⟨rfl, rfl, rfl, h5⟩ | ⟨h5, h6⟩
          · go_wp2
            go_ret
            exact ⟨by first | rfl | simp, H51.out⟩
          · have h5n : (e5 != 0) = true := by rw [bne, h5]; rfl
            go_wp2
            go_ret
            exact ⟨by first | rfl | simp, H51.out⟩
    · skip
      go_wp2_with fail
      refine ((HU3 _ (H21.out)).out).mono ?_
      rintro e w30 ⟨rfl, u30⟩
      have H30 := Hid.of (H21.out.trans u30)
      have Hu30 := Hid.of u30
      clear u30
      dsimp only
      go_wp2_with fail
      refine ((HE3 _ H30.out).out).mono ?_
      rintro e w31 ⟨rfl, u31⟩
      have H31 := Hid.of (H30.out.trans u31)
      have Hu31 := Hid.of u31
      clear u31
      dsimp only
      clear HU3 HE3
      rcases hc3 with ⟨rfl, rfl, hq3, h3⟩ | ⟨h3, h3b⟩
      · subst hq3
        go_wp2_with fail
        refine ((HU4 _ (H31.out)).out).mono ?_
        rintro e w40 ⟨rfl, u40⟩
        have H40 := Hid.of (H31.out.trans u40)
        have Hu40 := Hid.of u40
        clear u40
        dsimp only
        have HLt4 := Hid.of H40.out.size
        have HA4 := Hid.of (at_new w40 43 (cb Z32))
        have HW4 := Hid.of (H40.out.alloc (.cells (cb Z32).toArray 43))
        go_wp2_with (with_reducible show wpList _ _ _ ({ dst := _, op := Op.store 43 _ _, type := _, pos := _, after := _, guard := _ } :: _) _ _; refine Shut.out ?_)
        show wpList _ _ _ _ _ _
        rw [zlit]
        generalize w40.alloc (.cells (cb Z32).toArray 43) = W4 at *
        refine wpList_store_at rfl _ _ _ rfl w40.heap.size HA4.out (cb x4) rfl rfl (by rw [cb_length, cb_length, HX4.out]; rfl) (by rw [List.size_toArray, cb_length, HX4.out]; kernel_rfl) (cb_all _) fun z1 hz1 hg1 => ?_
        have HZ1 := Hid.of hz1
        have HZU := Hid.of (HW4.out.by hg1 (fun g hg => by have := HLt4.out; injection hg with hg; omega))
        clear hz1 hg1 HA4 HW4
        simp only [Act.put]
        rcases hc4 with ⟨rfl, rfl⟩ | h4
        · skip
          go_wp2_with (with_reducible show wpList _ _ _ ({ dst := _, op := Op.load 43 _, type := _, pos := _, after := _, guard := _ } :: _) _ _; refine Shut.out ?_)
          show wpList _ _ _ _ _ _
          refine wpList_load_want (by kernel_rfl) _ _ rfl w40.heap.size 0 rfl (cb x4) _ HZ1.out.range Tryd.underlying43 rfl (by rw [cb_length, HX4.out]; kernel_rfl) ?_
          simp only [Act.put, List.setIfInBounds_toArray, List.set_cons_zero, List.set_cons_succ]
          go_wp2_with fail
          refine ((HE4 _ HZU.out).out).mono ?_
          rintro e w41 ⟨rfl, u41⟩
          have H41 := Hid.of (HZU.out.trans u41)
          have Hu41 := Hid.of u41
          clear u41
          dsimp only
          go_wp2_with fail
          refine ((HU5 _ (H41.out)).out).mono ?_
          rintro e w50 ⟨rfl, u50⟩
          have H50 := Hid.of (H41.out.trans u50)
          have Hu50 := Hid.of u50
          clear u50
          dsimp only
          have HLt := Hid.of H50.out.size
          have HB2 : Hid (At ((w50.alloc (.cells (cb Z32).toArray 43)).alloc (.cells (cb Z32).toArray 43)) (w50.heap.size + 1) 43 (cb Z32)) := by
            have := at_new (w50.alloc (.cells (cb Z32).toArray 43)) 43 (cb Z32)
            rw [alloc_size] at this
            exact this
          have HB1 : Hid (At ((w50.alloc (.cells (cb Z32).toArray 43)).alloc (.cells (cb Z32).toArray 43)) w50.heap.size 43 (cb Z32)) := At.up (at_new w50 43 (cb Z32)) ((Up.refl _).alloc _)
          have HU := Hid.of ((H50.out.alloc (.cells (cb Z32).toArray 43)).alloc (.cells (cb Z32).toArray 43))
          go_wp2_with (with_reducible show wpList _ _ _ ({ dst := _, op := Op.store 43 _ _, type := _, pos := _, after := _, guard := _ } :: _) _ _; refine Shut.out ?_)
          show wpList _ _ _ _ _ _
          rw [zlit]
          generalize (w50.alloc (.cells (cb Z32).toArray 43)).alloc (.cells (cb Z32).toArray 43) = W5 at *
          refine wpList_store_at rfl _ _ _ rfl w50.heap.size HB1.out (cb x5) rfl rfl (by rw [cb_length, cb_length, HX5.out.1]; rfl) (by rw [List.size_toArray, cb_length, HX5.out.1]; kernel_rfl) (cb_all _) fun x1 hx1 hg1 => ?_
          have HX1 := Hid.of hx1
          have HX2 := Hid.of (HB2.out.by hg1 (by intro h; injection h with h; omega))
          have HXU := Hid.of (HU.out.by hg1 (fun g hg => by have := HLt.out; injection hg with hg; omega))
          clear hx1 hg1 HB1 HB2 HU
          simp only [Act.put]
          go_wp2_with (with_reducible show wpList _ _ _ ({ dst := _, op := Op.store 43 _ _, type := _, pos := _, after := _, guard := _ } :: _) _ _; refine Shut.out ?_)
          show wpList _ _ _ _ _ _
          refine wpList_store_at rfl _ _ _ rfl (w50.heap.size + 1) HX2.out (cb y5) rfl rfl (by rw [cb_length, cb_length, HX5.out.2]; rfl) (by rw [List.size_toArray, cb_length, HX5.out.2]; kernel_rfl) (cb_all _) fun x2 hx2 hg2 => ?_
          have HY2 := Hid.of hx2
          have HY1 := Hid.of (HX1.out.by hg2 (by intro h; injection h with h; omega))
          have HYU := Hid.of (HXU.out.by hg2 (fun g hg => by have := HLt.out; injection hg with hg; omega))
          clear hx2 hg2 HX1 HX2 HXU
          simp only [Act.put]
          go_wp2_with (with_reducible show wpList _ _ _ ({ dst := _, op := Op.load 43 _, type := _, pos := _, after := _, guard := _ } :: _) _ _; refine Shut.out ?_)
          show wpList _ _ _ _ _ _
          refine wpList_load_mid rfl _ _ rfl w50.heap.size 0 rfl (cb x5) _ HY1.out.range Tryd.underlying43 rfl (by rw [cb_length, HX5.out.1]; kernel_rfl) ?_
          simp only [Act.put, List.setIfInBounds_toArray, List.set_cons_zero, List.set_cons_succ]
          go_wp2_with (with_reducible show wpList _ _ _ ({ dst := _, op := Op.load 43 _, type := _, pos := _, after := _, guard := _ } :: _) _ _; refine Shut.out ?_)
          show wpList _ _ _ _ _ _
          refine wpList_load_mid rfl _ _ rfl (w50.heap.size + 1) 0 rfl (cb y5) _ HY2.out.range Tryd.underlying43 rfl (by rw [cb_length, HX5.out.2]; kernel_rfl) ?_
          simp only [Act.put, List.setIfInBounds_toArray, List.set_cons_zero, List.set_cons_succ]
          go_wp2_with fail
          refine ((HE5 _ HYU.out).out).mono ?_
          rintro e w51 ⟨rfl, u51⟩
          have H51 := Hid.of (HYU.out.trans u51)
          have Hu51 := Hid.of u51
          clear u51
          dsimp only
          rcases hc5 with ⟨rfl, rfl, rfl, h5⟩ | ⟨h5, h6⟩
          · go_wp2
            go_ret
            exact ⟨by first | rfl | simp, H51.out⟩
          · have h5n : (e5 != 0) = true := by rw [bne, h5]; rfl
            go_wp2
            go_ret
            exact ⟨by first | rfl | simp, H51.out⟩
        · clear HE4 HZ1
          go_wp2_with fail
          refine ((HU5 _ (HZU.out)).out).mono ?_
          rintro e w50 ⟨rfl, u50⟩
          have H50 := Hid.of (HZU.out.trans u50)
          have Hu50 := Hid.of u50
          clear u50
          dsimp only
          have HLt := Hid.of H50.out.size
          have HB2 : Hid (At ((w50.alloc (.cells (cb Z32).toArray 43)).alloc (.cells (cb Z32).toArray 43)) (w50.heap.size + 1) 43 (cb Z32)) := by
            have := at_new (w50.alloc (.cells (cb Z32).toArray 43)) 43 (cb Z32)
            rw [alloc_size] at this
            exact this
          have HB1 : Hid (At ((w50.alloc (.cells (cb Z32).toArray 43)).alloc (.cells (cb Z32).toArray 43)) w50.heap.size 43 (cb Z32)) := At.up (at_new w50 43 (cb Z32)) ((Up.refl _).alloc _)
          have HU := Hid.of ((H50.out.alloc (.cells (cb Z32).toArray 43)).alloc (.cells (cb Z32).toArray 43))
          go_wp2_with (with_reducible show wpList _ _ _ ({ dst := _, op := Op.store 43 _ _, type := _, pos := _, after := _, guard := _ } :: _) _ _; refine Shut.out ?_)
          show wpList _ _ _ _ _ _
          rw [zlit]
          generalize (w50.alloc (.cells (cb Z32).toArray 43)).alloc (.cells (cb Z32).toArray 43) = W5 at *
          refine wpList_store_at rfl _ _ _ rfl w50.heap.size HB1.out (cb x5) rfl rfl (by rw [cb_length, cb_length, HX5.out.1]; rfl) (by rw [List.size_toArray, cb_length, HX5.out.1]; kernel_rfl) (cb_all _) fun x1 hx1 hg1 => ?_
          have HX1 := Hid.of hx1
          have HX2 := Hid.of (HB2.out.by hg1 (by intro h; injection h with h; omega))
          have HXU := Hid.of (HU.out.by hg1 (fun g hg => by have := HLt.out; injection hg with hg; omega))
          clear hx1 hg1 HB1 HB2 HU
          simp only [Act.put]
          go_wp2_with (with_reducible show wpList _ _ _ ({ dst := _, op := Op.store 43 _ _, type := _, pos := _, after := _, guard := _ } :: _) _ _; refine Shut.out ?_)
          show wpList _ _ _ _ _ _
          refine wpList_store_at rfl _ _ _ rfl (w50.heap.size + 1) HX2.out (cb y5) rfl rfl (by rw [cb_length, cb_length, HX5.out.2]; rfl) (by rw [List.size_toArray, cb_length, HX5.out.2]; kernel_rfl) (cb_all _) fun x2 hx2 hg2 => ?_
          have HY2 := Hid.of hx2
          have HY1 := Hid.of (HX1.out.by hg2 (by intro h; injection h with h; omega))
          have HYU := Hid.of (HXU.out.by hg2 (fun g hg => by have := HLt.out; injection hg with hg; omega))
          clear hx2 hg2 HX1 HX2 HXU
          simp only [Act.put]
          go_wp2_with (with_reducible show wpList _ _ _ ({ dst := _, op := Op.load 43 _, type := _, pos := _, after := _, guard := _ } :: _) _ _; refine Shut.out ?_)
          show wpList _ _ _ _ _ _
          refine wpList_load_mid rfl _ _ rfl w50.heap.size 0 rfl (cb x5) _ HY1.out.range Tryd.underlying43 rfl (by rw [cb_length, HX5.out.1]; kernel_rfl) ?_
          simp only [Act.put, List.setIfInBounds_toArray, List.set_cons_zero, List.set_cons_succ]
          go_wp2_with (with_reducible show wpList _ _ _ ({ dst := _, op := Op.load 43 _, type := _, pos := _, after := _, guard := _ } :: _) _ _; refine Shut.out ?_)
          show wpList _ _ _ _ _ _
          refine wpList_load_mid rfl _ _ rfl (w50.heap.size + 1) 0 rfl (cb y5) _ HY2.out.range Tryd.underlying43 rfl (by rw [cb_length, HX5.out.2]; kernel_rfl) ?_
          simp only [Act.put, List.setIfInBounds_toArray, List.set_cons_zero, List.set_cons_succ]
          go_wp2_with fail
          refine ((HE5 _ HYU.out).out).mono ?_
          rintro e w51 ⟨rfl, u51⟩
          have H51 := Hid.of (HYU.out.trans u51)
          have Hu51 := Hid.of u51
          clear u51
          dsimp only
          rcases hc5 with ⟨rfl, rfl, rfl, h5⟩ | ⟨h5, h6⟩
          · go_wp2
            go_ret
            exact ⟨by first | rfl | simp, H51.out⟩
          · have h5n : (e5 != 0) = true := by rw [bne, h5]; rfl
            go_wp2
            go_ret
            exact ⟨by first | rfl | simp, H51.out⟩
      · skip
        go_wp2_with fail
        refine ((HU4 _ (H31.out)).out).mono ?_
        rintro e w40 ⟨rfl, u40⟩
        have H40 := Hid.of (H31.out.trans u40)
        have Hu40 := Hid.of u40
        clear u40
        dsimp only
        have HLt4 := Hid.of H40.out.size
        have HA4 := Hid.of (at_new w40 43 (cb Z32))
        have HW4 := Hid.of (H40.out.alloc (.cells (cb Z32).toArray 43))
        go_wp2_with (with_reducible show wpList _ _ _ ({ dst := _, op := Op.store 43 _ _, type := _, pos := _, after := _, guard := _ } :: _) _ _; refine Shut.out ?_)
        show wpList _ _ _ _ _ _
        rw [zlit]
        generalize w40.alloc (.cells (cb Z32).toArray 43) = W4 at *
        refine wpList_store_at rfl _ _ _ rfl w40.heap.size HA4.out (cb x4) rfl rfl (by rw [cb_length, cb_length, HX4.out]; rfl) (by rw [List.size_toArray, cb_length, HX4.out]; kernel_rfl) (cb_all _) fun z1 hz1 hg1 => ?_
        have HZ1 := Hid.of hz1
        have HZU := Hid.of (HW4.out.by hg1 (fun g hg => by have := HLt4.out; injection hg with hg; omega))
        clear hz1 hg1 HA4 HW4
        simp only [Act.put]
        rcases hc4 with ⟨rfl, rfl⟩ | h4
        · skip
          go_wp2_with (with_reducible show wpList _ _ _ ({ dst := _, op := Op.load 43 _, type := _, pos := _, after := _, guard := _ } :: _) _ _; refine Shut.out ?_)
          show wpList _ _ _ _ _ _
          refine wpList_load_want (by kernel_rfl) _ _ rfl w40.heap.size 0 rfl (cb x4) _ HZ1.out.range Tryd.underlying43 rfl (by rw [cb_length, HX4.out]; kernel_rfl) ?_
          simp only [Act.put, List.setIfInBounds_toArray, List.set_cons_zero, List.set_cons_succ]
          go_wp2_with fail
          refine ((HE4 _ HZU.out).out).mono ?_
          rintro e w41 ⟨rfl, u41⟩
          have H41 := Hid.of (HZU.out.trans u41)
          have Hu41 := Hid.of u41
          clear u41
          dsimp only
          go_wp2_with fail
          refine ((HU5 _ (H41.out)).out).mono ?_
          rintro e w50 ⟨rfl, u50⟩
          have H50 := Hid.of (H41.out.trans u50)
          have Hu50 := Hid.of u50
          clear u50
          dsimp only
          have HLt := Hid.of H50.out.size
          have HB2 : Hid (At ((w50.alloc (.cells (cb Z32).toArray 43)).alloc (.cells (cb Z32).toArray 43)) (w50.heap.size + 1) 43 (cb Z32)) := by
            have := at_new (w50.alloc (.cells (cb Z32).toArray 43)) 43 (cb Z32)
            rw [alloc_size] at this
            exact this
          have HB1 : Hid (At ((w50.alloc (.cells (cb Z32).toArray 43)).alloc (.cells (cb Z32).toArray 43)) w50.heap.size 43 (cb Z32)) := At.up (at_new w50 43 (cb Z32)) ((Up.refl _).alloc _)
          have HU := Hid.of ((H50.out.alloc (.cells (cb Z32).toArray 43)).alloc (.cells (cb Z32).toArray 43))
          go_wp2_with (with_reducible show wpList _ _ _ ({ dst := _, op := Op.store 43 _ _, type := _, pos := _, after := _, guard := _ } :: _) _ _; refine Shut.out ?_)
          show wpList _ _ _ _ _ _
          rw [zlit]
          generalize (w50.alloc (.cells (cb Z32).toArray 43)).alloc (.cells (cb Z32).toArray 43) = W5 at *
          refine wpList_store_at rfl _ _ _ rfl w50.heap.size HB1.out (cb x5) rfl rfl (by rw [cb_length, cb_length, HX5.out.1]; rfl) (by rw [List.size_toArray, cb_length, HX5.out.1]; kernel_rfl) (cb_all _) fun x1 hx1 hg1 => ?_
          have HX1 := Hid.of hx1
          have HX2 := Hid.of (HB2.out.by hg1 (by intro h; injection h with h; omega))
          have HXU := Hid.of (HU.out.by hg1 (fun g hg => by have := HLt.out; injection hg with hg; omega))
          clear hx1 hg1 HB1 HB2 HU
          simp only [Act.put]
          go_wp2_with (with_reducible show wpList _ _ _ ({ dst := _, op := Op.store 43 _ _, type := _, pos := _, after := _, guard := _ } :: _) _ _; refine Shut.out ?_)
          show wpList _ _ _ _ _ _
          refine wpList_store_at rfl _ _ _ rfl (w50.heap.size + 1) HX2.out (cb y5) rfl rfl (by rw [cb_length, cb_length, HX5.out.2]; rfl) (by rw [List.size_toArray, cb_length, HX5.out.2]; kernel_rfl) (cb_all _) fun x2 hx2 hg2 => ?_
          have HY2 := Hid.of hx2
          have HY1 := Hid.of (HX1.out.by hg2 (by intro h; injection h with h; omega))
          have HYU := Hid.of (HXU.out.by hg2 (fun g hg => by have := HLt.out; injection hg with hg; omega))
          clear hx2 hg2 HX1 HX2 HXU
          simp only [Act.put]
          go_wp2_with (with_reducible show wpList _ _ _ ({ dst := _, op := Op.load 43 _, type := _, pos := _, after := _, guard := _ } :: _) _ _; refine Shut.out ?_)
          show wpList _ _ _ _ _ _
          refine wpList_load_mid rfl _ _ rfl w50.heap.size 0 rfl (cb x5) _ HY1.out.range Tryd.underlying43 rfl (by rw [cb_length, HX5.out.1]; kernel_rfl) ?_
          simp only [Act.put, List.setIfInBounds_toArray, List.set_cons_zero, List.set_cons_succ]
          go_wp2_with (with_reducible show wpList _ _ _ ({ dst := _, op := Op.load 43 _, type := _, pos := _, after := _, guard := _ } :: _) _ _; refine Shut.out ?_)
          show wpList _ _ _ _ _ _
          refine wpList_load_mid rfl _ _ rfl (w50.heap.size + 1) 0 rfl (cb y5) _ HY2.out.range Tryd.underlying43 rfl (by rw [cb_length, HX5.out.2]; kernel_rfl) ?_
          simp only [Act.put, List.setIfInBounds_toArray, List.set_cons_zero, List.set_cons_succ]
          go_wp2_with fail
          refine ((HE5 _ HYU.out).out).mono ?_
          rintro e w51 ⟨rfl, u51⟩
          have H51 := Hid.of (HYU.out.trans u51)
          have Hu51 := Hid.of u51
          clear u51
          dsimp only
          rcases hc5 with ⟨rfl, rfl, rfl, h5⟩ | ⟨h5, h6⟩
          · go_wp2
            go_ret
            exact ⟨by first | rfl | simp, H51.out⟩
          · have h5n : (e5 != 0) = true := by rw [bne, h5]; rfl
            go_wp2
            go_ret
            exact ⟨by first | rfl | simp, H51.out⟩
        · clear HE4 HZ1
          go_wp2_with fail
          refine ((HU5 _ (HZU.out)).out).mono ?_
          rintro e w50 ⟨rfl, u50⟩
          have H50 := Hid.of (HZU.out.trans u50)
          have Hu50 := Hid.of u50
          clear u50
          dsimp only
          have HLt := Hid.of H50.out.size
          have HB2 : Hid (At ((w50.alloc (.cells (cb Z32).toArray 43)).alloc (.cells (cb Z32).toArray 43)) (w50.heap.size + 1) 43 (cb Z32)) := by
            have := at_new (w50.alloc (.cells (cb Z32).toArray 43)) 43 (cb Z32)
            rw [alloc_size] at this
            exact this
          have HB1 : Hid (At ((w50.alloc (.cells (cb Z32).toArray 43)).alloc (.cells (cb Z32).toArray 43)) w50.heap.size 43 (cb Z32)) := At.up (at_new w50 43 (cb Z32)) ((Up.refl _).alloc _)
          have HU := Hid.of ((H50.out.alloc (.cells (cb Z32).toArray 43)).alloc (.cells (cb Z32).toArray 43))
          go_wp2_with (with_reducible show wpList _ _ _ ({ dst := _, op := Op.store 43 _ _, type := _, pos := _, after := _, guard := _ } :: _) _ _; refine Shut.out ?_)
          show wpList _ _ _ _ _ _
          rw [zlit]
          generalize (w50.alloc (.cells (cb Z32).toArray 43)).alloc (.cells (cb Z32).toArray 43) = W5 at *
          refine wpList_store_at rfl _ _ _ rfl w50.heap.size HB1.out (cb x5) rfl rfl (by rw [cb_length, cb_length, HX5.out.1]; rfl) (by rw [List.size_toArray, cb_length, HX5.out.1]; kernel_rfl) (cb_all _) fun x1 hx1 hg1 => ?_
          have HX1 := Hid.of hx1
          have HX2 := Hid.of (HB2.out.by hg1 (by intro h; injection h with h; omega))
          have HXU := Hid.of (HU.out.by hg1 (fun g hg => by have := HLt.out; injection hg with hg; omega))
          clear hx1 hg1 HB1 HB2 HU
          simp only [Act.put]
          go_wp2_with (with_reducible show wpList _ _ _ ({ dst := _, op := Op.store 43 _ _, type := _, pos := _, after := _, guard := _ } :: _) _ _; refine Shut.out ?_)
          show wpList _ _ _ _ _ _
          refine wpList_store_at rfl _ _ _ rfl (w50.heap.size + 1) HX2.out (cb y5) rfl rfl (by rw [cb_length, cb_length, HX5.out.2]; rfl) (by rw [List.size_toArray, cb_length, HX5.out.2]; kernel_rfl) (cb_all _) fun x2 hx2 hg2 => ?_
          have HY2 := Hid.of hx2
          have HY1 := Hid.of (HX1.out.by hg2 (by intro h; injection h with h; omega))
          have HYU := Hid.of (HXU.out.by hg2 (fun g hg => by have := HLt.out; injection hg with hg; omega))
          clear hx2 hg2 HX1 HX2 HXU
          simp only [Act.put]
          go_wp2_with (with_reducible show wpList _ _ _ ({ dst := _, op := Op.load 43 _, type := _, pos := _, after := _, guard := _ } :: _) _ _; refine Shut.out ?_)
          show wpList _ _ _ _ _ _
          refine wpList_load_mid rfl _ _ rfl w50.heap.size 0 rfl (cb x5) _ HY1.out.range Tryd.underlying43 rfl (by rw [cb_length, HX5.out.1]; kernel_rfl) ?_
          simp only [Act.put, List.setIfInBounds_toArray, List.set_cons_zero, List.set_cons_succ]
          go_wp2_with (with_reducible show wpList _ _ _ ({ dst := _, op := Op.load 43 _, type := _, pos := _, after := _, guard := _ } :: _) _ _; refine Shut.out ?_)
          show wpList _ _ _ _ _ _
          refine wpList_load_mid rfl _ _ rfl (w50.heap.size + 1) 0 rfl (cb y5) _ HY2.out.range Tryd.underlying43 rfl (by rw [cb_length, HX5.out.2]; kernel_rfl) ?_
          simp only [Act.put, List.setIfInBounds_toArray, List.set_cons_zero, List.set_cons_succ]
          go_wp2_with fail
          refine ((HE5 _ HYU.out).out).mono ?_
          rintro e w51 ⟨rfl, u51⟩
          have H51 := Hid.of (HYU.out.trans u51)
          have Hu51 := Hid.of u51
          clear u51
          dsimp only
          rcases hc5 with ⟨rfl, rfl, rfl, h5⟩ | ⟨h5, h6⟩
          · go_wp2
            go_ret
            exact ⟨by first | rfl | simp, H51.out⟩
          · have h5n : (e5 != 0) = true := by rw [bne, h5]; rfl
            go_wp2
            go_ret
            exact ⟨by first | rfl | simp, H51.out⟩
end Go.Proofs.YtlghhdngmcfkgaaDoor
