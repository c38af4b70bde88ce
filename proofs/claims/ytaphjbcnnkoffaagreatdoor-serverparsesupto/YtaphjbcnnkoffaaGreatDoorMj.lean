import Derived.Test.YtaphjbcnnkoffaaGreatDoorMi
namespace Go.Proofs.YtaphjbcnnkoffaaGreatDoor
open Go.RowKit Go.Shelf TextNum ModNum
theorem pcs_len (c : UInt8) (l : List UInt8) : (pcs c l).length ≤ l.length + 1 := by
  induction l with
  | nil => simp [pcs]
  | cons x r ih =>
    unfold pcs
    split
    · simp; omega
    · split
      · simp
      · rename_i p ps e
        rw [e] at ih
        simp at ih ⊢
        omega
theorem pcs_sub {c : UInt8} {l p : List UInt8} (h : p ∈ pcs c l) : p.length ≤ l.length := by
  induction l generalizing p with
  | nil => simp [pcs] at h; subst h; simp
  | cons y r ih =>
    unfold pcs at h
    split at h
    · rcases List.mem_cons.1 h with rfl | h
      · simp
      · have := ih h; simp; omega
    · split at h
      · rename_i e; exact absurd e (pcs_ne c r)
      · rename_i q qs e
        rcases List.mem_cons.1 h with rfl | h
        · have := ih (p := q) (by rw [e]; simp); simp; omega
        · have := ih (p := p) (by rw [e]; simp [h]); simp; omega
def majE (p : List UInt8) : Int := if (maj p).isSome then 0 else 110
set_option maxRecDepth 100000 in
set_option maxHeartbeats 2000000 in
theorem majorOf_walk (s : ByteArray) (w : World) (hG : GR w) : Calls Tryz.prog 80 #[.string s] w fun e w' => e = .returned (.tuple #[.string ⟨((maj s.data.toList).getD []).toArray⟩, .int .i64 (majE s.data.toList)]) ∧ Up w w' := by
  have HG := Hid.of hG
  clear hG
  have HNo : Hid (maj s.data.toList = none → (maj s.data.toList).getD [] = [] ∧ majE s.data.toList = 110) := fun h => by unfold majE; rw [h]; exact ⟨rfl, rfl⟩
  by_cases h1 : 255 < s.size
  · have h1z : (255 : Int) < (s.size : Int) := by omega
    have hM : maj s.data.toList = none := by unfold maj; rw [if_pos (.inl (by rw [len_of]; exact h1))]
    obtain ⟨e1, e2⟩ := HNo.out hM
    rw [e1, e2]
    clear h1 e1 e2 hM HNo
    go_enter Tryz.func80, Tryz.ntmps80
    go_wp2
    go_ret2
    exact ⟨rfl, Up.refl _⟩
  · have h1z : ¬ (255 : Int) < (s.size : Int) := by omega
    have HA := Hid.of (allOf_walk s 127 (by decide) w HG.out.toGM)
    cases hal : al 127 s.data.toList with
    | false =>
      rw [hal] at HA
      have hM : maj s.data.toList = none := by unfold maj; rw [if_pos (.inr hal)]
      obtain ⟨e1, e2⟩ := HNo.out hM
      rw [e1, e2]
      clear h1 e1 e2 hM HNo hal
      go_enter Tryz.func80, Tryz.ntmps80
      go_wp2_with fail
      refine (HA.out).mono ?_
      rintro e w1 ⟨rfl, u1⟩
      have H1 := Hid.of (u1)
      have Hu1 := Hid.of u1
      clear u1
      dsimp only
      go_wp2
      go_ret2
      exact ⟨rfl, H1.out⟩
    | true =>
      rw [hal] at HA
      have hM : maj s.data.toList = if hst ((pcs 47 s.data.toList).headD []) && (pcs 47 s.data.toList).all elm then mel (pcs 47 s.data.toList) else none := by
        unfold maj
        rw [if_neg (by rintro (h | h); exact h1 (by rwa [len_of] at h); rw [hal] at h; cases h)]
      have hasc := al_ascii hal
      have hSp := fun w' => fun (u : Up w w') => Hid.of (Split_walk s 47 (by omega) w' (HG.out.up u).toGM)
      have hne := pcs_ne 47 s.data.toList
      have hel : ∀ e ∈ pcs 47 s.data.toList, e.length ≤ 1048576 ∧ ∀ c ∈ e, c.toNat < 128 := fun e he => ⟨by have := pcs_sub he; rw [len_of] at this; omega, fun c hc => hasc c (pcs_mem he c hc)⟩
      have hpl : (pcs 47 s.data.toList).length ≤ 1048576 := by have := pcs_len 47 s.data.toList; rw [len_of] at this; omega
      clear hasc hal
      generalize pcs 47 s.data.toList = es at *
      have hpos : 0 < es.length := List.length_pos_iff.2 hne
      obtain ⟨e0, he0, hhd⟩ : ∃ e0, es[0]? = some e0 ∧ es.headD [] = e0 := by
        cases es with
        | nil => cases hpos
        | cons x r => exact ⟨x, rfl, rfl⟩
      rw [hhd] at hM
      have HM := Hid.of hM
      have HEl := Hid.of hel
      have HNe := Hid.of hne
      have HE0 := Hid.of (And.intro he0 trivial)
      have HB := fun w' => fun (u : Up w w') => Hid.of (mayBeHost_walk ⟨e0.toArray⟩ w' (HG.out.up u).toGM)
      rw [show (⟨e0.toArray⟩ : ByteArray).data.toList = e0 from rfl] at HB
      clear hM hel hne hhd h1 he0
      generalize hn : es.length = n at *
      have HNl := Hid.of (And.intro hn trivial)
      clear hn
      go_enter Tryz.func80, Tryz.ntmps80
      go_wp2_with fail
      refine (HA.out).mono ?_
      rintro e w1 ⟨rfl, u1⟩
      have H1 := Hid.of (u1)
      have Hu1 := Hid.of u1
      clear u1
      dsimp only
      go_wp2_with fail
      refine (hSp _ H1.out).out.mono ?_
      rintro e w2 ⟨rfl, hS, u2⟩
      have H2 := Hid.of (H1.out.trans u2)
      have HS := Hid.of hS
      obtain ⟨b, off, eb, hc0⟩ := hS.get (show 0 < es.length by rw [HNl.out.1]; exact hpos)
      injection eb with eb
      injection eb with e1 e2
      subst e1 e2
      have h00 : es[0]'(by rw [HNl.out.1]; exact hpos) = e0 := by
        have := HE0.out.1
        rw [List.getElem?_eq_getElem (by rw [HNl.out.1]; exact hpos)] at this
        exact Option.some.inj this
      rw [Nat.add_zero, h00] at hc0
      clear hS u2 hSp HA h00
      dsimp only
      go_wp2_with fail
      refine (HB _ H2.out).out.mono ?_
      rintro e w3 ⟨rfl, u3⟩
      have H3 := Hid.of (H2.out.trans u3)
      have HS3 := Hid.of (HS.out.up u3)
      clear u3 HB hc0 HS
      dsimp only
      cases hhs : hst e0 with
      | false =>
        have hM : maj s.data.toList = none := by rw [HM.out, hhs]; rfl
        obtain ⟨e1, e2⟩ := HNo.out hM
        have HE12 := Hid.of (And.intro e1 e2)
        clear e1 e2 hM hhs HNo
        go_wp2
        go_ret2
        rw [HE12.out.1, HE12.out.2]
        exact ⟨rfl, H3.out⟩
      | true =>
        rw [hhs] at HM
        clear hhs
        go_wp2_with fail
        go_loopw [6, 26] (fun _ v26 wr => ∃ i : Nat, v26 = .int .i64 (i : Int) ∧ i ≤ n ∧ Hid ((es.take i).all elm = true ∧ Up w wr ∧ SlS wr (.slice (some ⟨w1.heap.size, 0, none⟩) n n) es)) (fun _ v26 _ => n - (intOf v26).toNat)
        case atStart => exact ⟨0, rfl, by omega, by simp, H3.out, HS3.out⟩
        case round =>
          obtain ⟨i, rfl, hi, hI⟩ := hrel
          by_cases hlt : i < n
          · have hltz : (i : Int) < (n : Int) := by omega
            have hil : i < es.length := by rw [HNl.out.1]; exact hlt
            obtain ⟨b, off, eb, hci⟩ := hI.out.2.2.get hil
            injection eb with eb
            injection eb with e1 e2
            subst e1 e2
            have hEi := HEl.out es[i] (List.getElem_mem hil)
            have HE := Hid.of (mayBeElement_walk ⟨es[i].toArray⟩ (by rw [size_str]; exact hEi.1) hEi.2 wr (HG.out.up hI.out.2.1))
            rw [show (⟨es[i].toArray⟩ : ByteArray).data.toList = es[i] from rfl] at HE
            have HT := Hid.of (And.intro (List.take_succ_eq_append_getElem hil) (List.getElem_mem hil))
            generalize es[i] = ei at *
            clear hEi hil
            rw [Nat.zero_add] at hci
            go_wp2_with fail
            refine HE.out.mono ?_
            rintro e w4 ⟨rfl, u4⟩
            have H4 := Hid.of (And.intro (hI.out.2.1.trans u4) (hI.out.2.2.up u4))
            clear u4 hci
            dsimp only
            cases hel : elm ei with
            | false =>
              have hM : maj s.data.toList = none := by
                rw [HM.out, if_neg]
                intro h
                rw [Bool.true_and, List.all_eq_true] at h
                have := h ei HT.out.2
                rw [hel] at this
                cases this
              obtain ⟨e1, e2⟩ := HNo.out hM
              have HE12 := Hid.of (And.intro e1 e2)
              clear e1 e2 hM hel HNo
              go_wp2
              go_ret2
              rw [HE12.out.1, HE12.out.2]
              exact ⟨rfl, H4.out.1⟩
            | true =>
              have HA' := Hid.of (show (es.take (i + 1)).all elm = true by rw [HT.out.1, List.all_append, hI.out.1]; simp [hel])
              clear hel
              go_wp2
              go_roundw
              case rel => exact ⟨i + 1, by go_num, by omega, HA'.out, H4.out.1, H4.out.2⟩
              case measure => simp [intOf]; omega
          · have hltz : ¬ (i : Int) < (n : Int) := by omega
            have hM : maj s.data.toList = mel es := by
              have h2 := hI.out.1
              rw [List.take_of_length_le (by rw [HNl.out.1]; omega)] at h2
              rw [HM.out, h2]; rfl
            have HM2 := Hid.of hM
            have HML := Hid.of (majorOfElements_walk _ es wr (HG.out.up hI.out.2.1).toGM HNe.out hI.out.2.2 (by rw [HNl.out.1]; exact hpl) HEl.out)
            clear hM
            go_wp2_with fail
            refine HML.out.mono ?_
            rintro e w4 ⟨m, rfl, hm, u4⟩
            have H4 := Hid.of (hI.out.2.1.trans u4)
            have Hm := Hid.of hm
            clear u4 hm
            dsimp only
            cases hq : mel es with
            | none =>
              rw [show (none : Option (List UInt8)).isSome = false from rfl]
              have hM : maj s.data.toList = none := HM2.out.trans hq
              obtain ⟨e1, e2⟩ := HNo.out hM
              have HE12 := Hid.of (And.intro e1 e2)
              clear e1 e2 hM hq HNo
              go_wp2
              go_ret2
              rw [HE12.out.1, HE12.out.2]
              exact ⟨rfl, H4.out⟩
            | some x =>
              rw [show (some x : Option (List UInt8)).isSome = true from rfl]
              have hM : maj s.data.toList = some x := HM2.out.trans hq
              have e1 : (maj s.data.toList).getD [] = m := by rw [hM]; exact (Hm.out x hq).symm
              have e2 : majE s.data.toList = 0 := by unfold majE; rw [hM]; rfl
              have HE12 := Hid.of (And.intro e1 e2)
              clear e1 e2 hM hq HNo Hm
              go_wp2
              go_ret2
              rw [HE12.out.1, HE12.out.2]
              exact ⟨rfl, H4.out⟩
end Go.Proofs.YtaphjbcnnkoffaaGreatDoor
