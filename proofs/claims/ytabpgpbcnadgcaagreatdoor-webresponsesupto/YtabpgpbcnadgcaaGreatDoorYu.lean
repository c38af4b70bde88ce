import Derived.Test.YtabpgpbcnadgcaaGreatDoorYt
namespace Go.Proofs.YtabpgpbcnadgcaaGreatDoor
open Go.RowKit Go.Shelf TextNum
/-- the host's fields -/
def ish (f : FD) : Bool := kdf f.n == 1
def okh (f : FD) : Bool := !ish f || hst f.v.data.toList
def ckh (fs : List FD) (minor : Int) : Option Nat := if fs.all okh = false then some 6 else if 1 < fs.countP ish ∨ (fs.countP ish = 0 ∧ minor = 1) then some 6 else none
def eoV (ad : Nat → Addr) : Option Nat → Value
  | none => .nilIface
  | some k => ev (ad k)
set_option maxRecDepth 100000 in
set_option maxHeartbeats 1000000 in
theorem checkHost_walk (ad : Nat → Addr) (a : Option Addr) (fs : List FD) (c : Nat) (minor : Int) (w : World) (h : FdL w a fs c) (hl : fs.length ≤ 1048576) (hs : ∀ f ∈ fs, f.v.size ≤ 1048576) (hE : GE w ad) (hK : w.rangeAt 13 0 kdC) :
    Calls Tryz.prog 106 #[.slice a fs.length c, .int .i64 minor] w fun e w' => e = .returned (eoV ad (ckh fs minor)) ∧ Up w w' := by
  have HF := Hid.of h
  have HS := Hid.of hs
  have HG := Hid.of hE
  have HKd := Hid.of hK
  have hcap := h.cap
  clear h hs hE hK
  obtain ⟨rv, hrv⟩ : ∃ rv, eoV ad (ckh fs minor) = rv := ⟨_, rfl⟩
  have HR := Hid.of hrv
  rw [hrv]
  clear hrv
  go_enter Tryz.func106, Tryz.ntmps106
  go_wp2
  go_loopw [5, 10] (fun v5 v10 wr => ∃ i k : Nat, v10 = .int .i64 (i : Int) ∧ v5 = .int .i64 (k : Int) ∧ i ≤ fs.length ∧ k ≤ i ∧ Hid (Up w wr ∧ (fs.take i).all okh = true ∧ (fs.take i).countP ish = k)) (fun _ v10 _ => fs.length - (intOf v10).toNat)
  case atStart => exact ⟨0, 0, rfl, rfl, Nat.zero_le _, Nat.le_refl _, Hid.of ⟨Up.refl _, rfl, rfl⟩⟩
  case round =>
    obtain ⟨i, k, rfl, rfl, hi, hki, hU⟩ := hrel
    have HU := Hid.of hU.out
    clear hU
    by_cases hil : i < fs.length
    · have hilz : (i : Int) < (fs.length : Int) := by omega
      obtain ⟨b, off, rfl, k1, k2⟩ := HF.out.cells i hil
      have HRg := Hid.of (range2 (HU.out.1.cell k1) (HU.out.1.cell k2))
      have HT := Hid.of (List.take_succ_eq_append_getElem hil)
      have HMm := Hid.of (List.getElem_mem hil)
      obtain ⟨f, hf⟩ : ∃ f, fs[i] = f := ⟨_, rfl⟩
      rw [hf] at HRg HT HMm
      have hfs := HS.out _ HMm.out
      clear hf k1 k2
      go_wp2_with (with_reducible show wpList _ _ _ ({ dst := _, op := Op.indexAddr 36 _ _, type := _, pos := _, after := _, guard := _ } :: _) _ _; refine Shut.out ?_)
      show wpList _ _ _ _ _ _
      refine wpList_val7 (.pointer (some ⟨b, off + i * 2, none⟩)) rfl (exec_idxFd i hil rfl rfl rfl) ?_
      simp only [Act.put, List.setIfInBounds_toArray, List.set_cons_zero, List.set_cons_succ]
      refine wpList_load_mid rfl _ _ rfl b (off + i * 2) rfl [.string f.n, .string f.v] _ HRg.out Tryz.underlying89 rfl infoFd2 ?_
      simp only [Act.put, List.setIfInBounds_toArray, List.set_cons_zero, List.set_cons_succ]
      have HAt := Hid.of (at_new wr 89 [.string f.n, .string f.v])
      have HUa := Hid.of (HU.out.1.alloc (.cells [.string f.n, .string f.v].toArray 89))
      go_wp2_with (with_reducible show wpList _ _ _ ({ dst := _, op := Op.load 89 _, type := _, pos := _, after := _, guard := _ } :: _) _ _; refine Shut.out ?_)
      show wpList _ _ _ _ _ _
      refine wpList_load_mid rfl _ _ rfl wr.heap.size 0 rfl [.string f.n, .string f.v] _ HAt.out.range Tryz.underlying89 rfl infoFd2 ?_
      simp only [Act.put, List.setIfInBounds_toArray, List.set_cons_zero, List.set_cons_succ]
      go_wp2_with fail
      refine (kindOf_walk f.n f.v _ (range_up HKd.out HUa.out)).mono ?_
      rintro e w5 ⟨rfl, u5⟩
      have HU5 := Hid.of (HUa.out.trans u5)
      have cv : w5.cell? ⟨wr.heap.size, 1, none⟩ = some (.string f.v) := (HAt.out.up u5).cell (i := 1) rfl
      clear u5 HAt
      dsimp only
      cases hk1 : (kdf f.n == 1) with
      | false =>
        have hne : (kdf f.n != 1) = true := by rw [bne, hk1]; rfl
        have HA2 := Hid.of (show (fs.take (i + 1)).all okh = true by rw [HT.out, List.all_append, HU.out.2.1]; simp [okh, ish, hk1])
        have HC2 := Hid.of (show (fs.take (i + 1)).countP ish = k by rw [HT.out, List.countP_append, HU.out.2.2]; simp [ish, hk1])
        clear hk1
        go_wp2
        go_roundw
        all_goals first
          | exact ⟨i + 1, k, by go_num, rfl, by omega, by omega, Hid.of ⟨HU5.out, HA2.out, HC2.out⟩⟩
          | (simp [intOf]; omega)
      | true =>
        have hne : (kdf f.n != 1) = false := by rw [bne, hk1]; rfl
        have HMH := Hid.of (mayBeHost_walk f.v hfs w5)
        cases hh : hst f.v.data.toList with
        | false =>
          rw [hh] at HMH
          have HE := Hid.of (show rv = ev (ad 6) by
            rw [← HR.out]
            unfold ckh
            rw [if_pos (List.all_eq_false.2 ⟨f, HMm.out, by simp [okh, ish, hk1, hh]⟩)]
            rfl)
          clear hk1
          go_wp2_with fail
          refine HMH.out.mono ?_
          rintro e w6 ⟨rfl, h9⟩
          have HU6 := Hid.of (HU5.out.trans h9)
          clear h9
          dsimp only
          have hgl : w6.cell? ⟨16, 0, none⟩ = _ := (HG.out.up HU6.out).gl 6 (by decide)
          go_wp2
          go_ret
          rw [HE.out]
          exact ⟨rfl, HU6.out⟩
        | true =>
          rw [hh] at HMH
          have HA2 := Hid.of (show (fs.take (i + 1)).all okh = true by rw [HT.out, List.all_append, HU.out.2.1]; simp [okh, hh])
          have HC2 := Hid.of (show (fs.take (i + 1)).countP ish = k + 1 by rw [HT.out, List.countP_append, HU.out.2.2]; simp [ish, hk1])
          clear hk1
          go_wp2_with fail
          refine HMH.out.mono ?_
          rintro e w6 ⟨rfl, h9⟩
          have HU6 := Hid.of (HU5.out.trans h9)
          clear h9
          dsimp only
          go_wp2
          go_roundw
          all_goals first
            | exact ⟨i + 1, k + 1, by go_num, by go_num, by omega, by omega, Hid.of ⟨HU6.out, HA2.out, HC2.out⟩⟩
            | (simp [intOf]; omega)
    · have hilz : ¬ (i : Int) < (fs.length : Int) := by omega
      have HTk := Hid.of (show fs.take i = fs from List.take_of_length_le (by omega))
      have HR2 := Hid.of (show rv = eoV ad (if 1 < k ∨ (k = 0 ∧ minor = 1) then some 6 else none) by
        have h1 := HU.out.2.1
        have h2 := HU.out.2.2
        rw [HTk.out] at h1 h2
        rw [← HR.out]
        unfold ckh
        rw [if_neg (by rw [h1]; simp), h2])
      have hgl : wr.cell? ⟨16, 0, none⟩ = _ := (HG.out.up HU.out.1).gl 6 (by decide)
      by_cases hk1 : 1 < k
      · have hkz : (1 : Int) < (k : Int) := by omega
        have HE := Hid.of (show rv = ev (ad 6) by rw [HR2.out, if_pos (.inl hk1)]; rfl)
        go_wp2
        go_ret
        rw [HE.out]
        exact ⟨rfl, HU.out.1⟩
      · have hkz : ¬ (1 : Int) < (k : Int) := by omega
        by_cases hk0 : k = 0
        · have hk0z : ((k : Int) == 0) = true := by rw [hk0]; rfl
          by_cases hm : minor = 1
          · have hmz : (minor == 1) = true := by rw [hm]; rfl
            have HE := Hid.of (show rv = ev (ad 6) by rw [HR2.out, if_pos (.inr ⟨hk0, hm⟩)]; rfl)
            clear hk0 hm
            go_wp2
            go_ret
            rw [HE.out]
            exact ⟨rfl, HU.out.1⟩
          · have hmz : (minor == 1) = false := by rw [beq_eq_false_iff_ne]; exact hm
            have HE := Hid.of (show rv = .nilIface by rw [HR2.out, if_neg (by omega)]; rfl)
            clear hk0
            go_wp2
            go_ret
            rw [HE.out]
            exact ⟨rfl, HU.out.1⟩
        · have hk0z : ((k : Int) == 0) = false := by rw [beq_eq_false_iff_ne]; omega
          have HE := Hid.of (show rv = .nilIface by rw [HR2.out, if_neg (by omega)]; rfl)
          go_wp2
          go_ret
          rw [HE.out]
          exact ⟨rfl, HU.out.1⟩
end Go.Proofs.YtabpgpbcnadgcaaGreatDoor
