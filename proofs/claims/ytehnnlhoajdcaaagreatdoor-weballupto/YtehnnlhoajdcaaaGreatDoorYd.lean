import Derived.Test.YtehnnlhoajdcaaaGreatDoorXm
namespace Go.Proofs.YtehnnlhoajdcaaaGreatDoor
open Go.RowKit TextNum
def vis (c : UInt8) : Bool := decide (32 < c.toNat) && decide (c.toNat < 127)
set_option maxRecDepth 100000 in
theorem isVisible_walk (c : UInt8) (w : World) : Calls Tryz.prog 133 #[vb c] w fun e w' => e = .returned (.bool (vis c)) ∧ w' = w := by
 unfold vis
 by_cases h1 : 32 < c.toNat
 · have z1 : (32 : Int) < (c.toNat : Int) := by omega
   rw [decide_eq_true h1]
   by_cases h2 : c.toNat < 127
   · have z2 : (c.toNat : Int) < 127 := by omega
     rw [decide_eq_true h2]
     go_enter Tryz.func133, Tryz.ntmps133
     go_wp2
     go_ret
     exact ⟨rfl, rfl⟩
   have z2 : ¬ (c.toNat : Int) < 127 := by omega
   rw [decide_eq_false h2]
   go_enter Tryz.func133, Tryz.ntmps133
   go_wp2
   go_ret
   exact ⟨rfl, rfl⟩
 have z1 : ¬ (32 : Int) < (c.toNat : Int) := by omega
 rw [decide_eq_false h1]
 go_enter Tryz.func133, Tryz.ntmps133
 go_wp2
 go_ret
 exact ⟨rfl, rfl⟩
def tgt (l : List UInt8) : Bool := !l.isEmpty && l.all vis
def vlc (c : UInt8) : Bool := !ctl c || c == 9
def vlu (l : List UInt8) : Bool := l.all vlc
def tks : ByteArray := ⟨#[33, 35, 36, 37, 38, 39, 42, 43, 45, 46, 94, 95, 96, 124, 126]⟩
def tkc (c : UInt8) : Bool := isL c || tks.data.toList.contains c
def tok (l : List UInt8) : Bool := !l.isEmpty && l.all tkc
theorem vis_take {l : List UInt8} {i : Nat} (h : i < l.length) : (l.take (i + 1)).all vis = ((l.take i).all vis && vis l[i]) := by
 rw [List.take_succ_eq_append_getElem h, List.all_append]
 simp
set_option maxRecDepth 100000 in
set_option maxHeartbeats 1000000 in
theorem isTarget_walk (s : ByteArray) (hs : s.size ≤ 1099511627776) (w : World) : Calls Tryz.prog 102 #[.string s] w fun e w' => e = .returned (.bool (tgt s.data.toList)) ∧ Up w w' := by
 have HS := Ho (show s.size = s.data.toList.length from Go.Lib.size_eq s)
 obtain ⟨r, hr⟩ := ny (tgt s.data.toList)
 have HR := Ho hr
 rw [hr]
 clear hr
 go_enter Tryz.func102, Tryz.ntmps102
 go_wp2
 go_loopw [6] (fun v6 wr => ∃ i : Nat, v6 = .int .i64 (i : Int) ∧ i ≤ s.size ∧ Hd (Up w wr ∧ (s.data.toList.take i).all vis = true)) (fun v6 _ => s.size - (intOf v6).toNat)
 case atStart => exact ⟨0, rfl, Nat.zero_le _, Ho ⟨Up.refl _, rfl⟩⟩
 case round =>
  obtain ⟨i, rfl, hi, hU⟩ := hrel
  have HU := Ho hU.o
  clear hU
  by_cases hil : i < s.size
  · have hilz : (i : Int) < (s.size : Int) := by omega
    have hg := sget' s i hil
    have HQ := Ho (vis_take (l := s.data.toList) (i := i) (by rw [← HS.o]; exact hil))
    have HF := Ho (show ∀ x, s.data.toList[i]'(by rw [← HS.o]; exact hil) = x → vis x = false → r = false from fun x hx hb => by
     rw [← HR.o]
     unfold tgt
     have : s.data.toList.all vis = false := List.all_eq_false.2 ⟨_, List.getElem_mem (by rw [← HS.o]; exact hil), by rw [hx, hb]; simp⟩
     rw [this]; simp)
    generalize s.data.toList[i]'(by rw [← HS.o]; exact hil) = x at *
    replace HF := Ho (HF.o x rfl)
    have HV := Ho (isVisible_walk x wr)
    cases hv : vis x with
    | true =>
     have HY := Ho hv
     rw [hv] at HV
     go_wp2_with fail
     refine HV.o.mono ?_
     rintro e w9 ⟨rfl, h9⟩
     obtain rfl := h9.symm
     clear h9
     dsimp only
     go_wp2
     go_roundw
     all_goals first
      | exact ⟨i + 1, by go_num, by omega, Ho ⟨HU.o.1, by rw [HQ.o, HU.o.2, HY.o]; rfl⟩⟩
      | (simp [intOf]; omega)
    | false =>
     have HE := Ho (HF.o hv)
     rw [hv] at HV
     go_wp2_with fail
     refine HV.o.mono ?_
     rintro e w9 ⟨rfl, h9⟩
     obtain rfl := h9.symm
     clear h9
     dsimp only
     go_wp2
     go_ret
     rw [HE.o]
     exact ⟨rfl, HU.o.1⟩
  have hilz : ¬ (i : Int) < (s.size : Int) := by omega
  have hal : s.data.toList.all vis = true := by
   have h1 := HU.o.2
   rw [List.take_of_length_le (by rw [← HS.o]; omega)] at h1
   exact h1
  have HT := Ho (show r = !(s.toList.isEmpty) by
   rw [← HR.o, Go.Lib.toList_data]
   unfold tgt
   rw [hal]
   simp)
  clear hal
  cases hb : s.toList.isEmpty with
  | true =>
   rw [hb] at HT
   go_wp2
   go_ret
   rw [HT.o]
   exact ⟨rfl, HU.o.1⟩
  | false =>
   rw [hb] at HT
   go_wp2
   go_ret
   rw [HT.o]
   exact ⟨rfl, HU.o.1⟩
theorem vlc_take {l : List UInt8} {i : Nat} (h : i < l.length) : (l.take (i + 1)).all vlc = ((l.take i).all vlc && vlc l[i]) := by
 rw [List.take_succ_eq_append_getElem h, List.all_append]
 simp
set_option maxRecDepth 100000 in
set_option maxHeartbeats 1000000 in
theorem mayBeValue_walk (s : ByteArray) (hs : s.size ≤ 1099511627776) (w : World) : Calls Tryz.prog 156 #[.string s] w fun e w' => e = .returned (.bool (vlu s.data.toList)) ∧ Up w w' := by
 have HS := Ho (show s.size = s.data.toList.length from Go.Lib.size_eq s)
 obtain ⟨r, hr⟩ := ny (vlu s.data.toList)
 have HR := Ho hr
 rw [hr]
 clear hr
 go_enter Tryz.func156, Tryz.ntmps156
 go_wp2
 go_loopw [6] (fun v6 wr => ∃ i : Nat, v6 = .int .i64 (i : Int) ∧ i ≤ s.size ∧ Hd (Up w wr ∧ (s.data.toList.take i).all vlc = true)) (fun v6 _ => s.size - (intOf v6).toNat)
 case atStart => exact ⟨0, rfl, Nat.zero_le _, Ho ⟨Up.refl _, rfl⟩⟩
 case round =>
  obtain ⟨i, rfl, hi, hU⟩ := hrel
  have HU := Ho hU.o
  clear hU
  by_cases hil : i < s.size
  · have hilz : (i : Int) < (s.size : Int) := by omega
    have hg := sget' s i hil
    have HQ := Ho (vlc_take (l := s.data.toList) (i := i) (by rw [← HS.o]; exact hil))
    have HF := Ho (show ∀ x, s.data.toList[i]'(by rw [← HS.o]; exact hil) = x → vlc x = false → r = false from fun x hx hb => by
     rw [← HR.o]
     unfold vlu
     have : s.data.toList.all vlc = false := List.all_eq_false.2 ⟨_, List.getElem_mem (by rw [← HS.o]; exact hil), by rw [hx, hb]; simp⟩
     rw [this])
    generalize s.data.toList[i]'(by rw [← HS.o]; exact hil) = x at *
    replace HF := Ho (HF.o x rfl)
    have HV := Ho (isControl_walk x wr)
    have h9 : ((x.toNat : Int) == 9) = (x == 9) := u8_eq (a := x) (b := 9)
    cases hv : ctl x with
    | false =>
     have HY := Ho (show vlc x = true by unfold vlc; rw [hv]; rfl)
     rw [hv] at HV
     clear h9
     go_wp2_with fail
     refine HV.o.mono ?_
     rintro e w9 ⟨rfl, h9⟩
     obtain rfl := h9.symm
     clear h9
     dsimp only
     go_wp2
     go_roundw
     all_goals first
      | exact ⟨i + 1, by go_num, by omega, Ho ⟨HU.o.1, by rw [HQ.o, HU.o.2, HY.o]; rfl⟩⟩
      | (simp [intOf]; omega)
    | true =>
     rw [hv] at HV
     cases h1 : (x == 9) with
     | true =>
      have HY := Ho (show vlc x = true by unfold vlc; rw [hv, h1]; rfl)
      rw [h1] at h9
      have b9 : ((x.toNat : Int) != 9) = false := by rw [bne, h9]; rfl
      clear h9 h1
      go_wp2_with fail
      refine HV.o.mono ?_
      rintro e w9 ⟨rfl, h9⟩
      obtain rfl := h9.symm
      clear h9
      dsimp only
      go_wp2
      go_roundw
      all_goals first
       | exact ⟨i + 1, by go_num, by omega, Ho ⟨HU.o.1, by rw [HQ.o, HU.o.2, HY.o]; rfl⟩⟩
       | (simp [intOf]; omega)
     | false =>
      have HE := Ho (HF.o (by unfold vlc; rw [hv, h1]; rfl))
      rw [h1] at h9
      have b9 : ((x.toNat : Int) != 9) = true := by rw [bne, h9]; rfl
      clear h9 h1
      go_wp2_with fail
      refine HV.o.mono ?_
      rintro e w9 ⟨rfl, h9⟩
      obtain rfl := h9.symm
      clear h9
      dsimp only
      go_wp2
      go_ret
      rw [HE.o]
      exact ⟨rfl, HU.o.1⟩
  have hilz : ¬ (i : Int) < (s.size : Int) := by omega
  have hal : s.data.toList.all vlc = true := by
   have h1 := HU.o.2
   rw [List.take_of_length_le (by rw [← HS.o]; omega)] at h1
   exact h1
  have HT := Ho (show r = true by
   rw [← HR.o]
   unfold vlu
   exact hal)
  clear hal
  go_wp2
  go_ret
  rw [HT.o]
  exact ⟨rfl, HU.o.1⟩
theorem tkc_take {l : List UInt8} {i : Nat} (h : i < l.length) : (l.take (i + 1)).all tkc = ((l.take i).all tkc && tkc l[i]) := by
 rw [List.take_succ_eq_append_getElem h, List.all_append]
 simp
set_option maxRecDepth 100000 in
set_option maxHeartbeats 1000000 in
theorem isToken_walk (s : ByteArray) (hs : s.size ≤ 1099511627776) (w : World) : Calls Tryz.prog 101 #[.string s] w fun e w' => e = .returned (.bool (tok s.data.toList)) ∧ Up w w' := by
 have HS := Ho (show s.size = s.data.toList.length from Go.Lib.size_eq s)
 obtain ⟨r, hr⟩ := ny (tok s.data.toList)
 have HR := Ho hr
 rw [hr]
 clear hr
 go_enter Tryz.func101, Tryz.ntmps101
 go_wp2
 go_loopw [6] (fun v6 wr => ∃ i : Nat, v6 = .int .i64 (i : Int) ∧ i ≤ s.size ∧ Hd (Up w wr ∧ (s.data.toList.take i).all tkc = true)) (fun v6 _ => s.size - (intOf v6).toNat)
 case atStart => exact ⟨0, rfl, Nat.zero_le _, Ho ⟨Up.refl _, rfl⟩⟩
 case round =>
  obtain ⟨i, rfl, hi, hU⟩ := hrel
  have HU := Ho hU.o
  clear hU
  by_cases hil : i < s.size
  · have hilz : (i : Int) < (s.size : Int) := by omega
    have hg := sget' s i hil
    have HQ := Ho (tkc_take (l := s.data.toList) (i := i) (by rw [← HS.o]; exact hil))
    have HF := Ho (show ∀ x, s.data.toList[i]'(by rw [← HS.o]; exact hil) = x → tkc x = false → r = false from fun x hx hb => by
     rw [← HR.o]
     unfold tok
     have : s.data.toList.all tkc = false := List.all_eq_false.2 ⟨_, List.getElem_mem (by rw [← HS.o]; exact hil), by rw [hx, hb]; simp⟩
     rw [this]; simp)
    generalize s.data.toList[i]'(by rw [← HS.o]; exact hil) = x at *
    replace HF := Ho (HF.o x rfl)
    have HV := Ho (isLetterOrDigit_walk x wr)
    have hI : Calls Tryz.prog 132 #[.string tks, vb x] wr fun e w' => e = .returned (.int .i64 (Go.Lib.indexByte tks.data.toList x)) ∧ w' = wr := by
     refine (Go.Proofs.Any.strings_IndexByte Tryz.lays137 tks (x.toNat : Int) wr).mono ?_
     rintro e w' ⟨rfl, rfl⟩
     refine ⟨?_, rfl⟩
     simp
    have HI := Ho hI
    clear hI
    have HC := Ho (ixb_con tks.data.toList x)
    cases hv : isL x with
    | true =>
     have HY := Ho (show tkc x = true by unfold tkc; rw [hv]; rfl)
     rw [hv] at HV
     go_wp2_with fail
     refine HV.o.mono ?_
     rintro e w9 ⟨rfl, h9⟩
     obtain rfl := h9.symm
     clear h9
     dsimp only
     go_wp2
     go_roundw
     all_goals first
      | exact ⟨i + 1, by go_num, by omega, Ho ⟨HU.o.1, by rw [HQ.o, HU.o.2, HY.o]; rfl⟩⟩
      | (simp [intOf]; omega)
    | false =>
     rw [hv] at HV
     obtain ⟨z, hz⟩ := ny (Go.Lib.indexByte tks.data.toList x)
     rw [hz] at HI HC
     clear hz
     by_cases h0 : 0 ≤ z
     · have HY := Ho (show tkc x = true by unfold tkc; rw [hv, ← HC.o, decide_eq_true h0]; rfl)
       have z0 : ¬ z < 0 := by omega
       unfold tks at HI
       go_wp2_with fail
       refine HV.o.mono ?_
       rintro e w9 ⟨rfl, h9⟩
       obtain rfl := h9.symm
       clear h9
       dsimp only
       go_wp2_with fail
       refine HI.o.mono ?_
       rintro e w9 ⟨rfl, h9⟩
       obtain rfl := h9.symm
       clear h9
       dsimp only
       go_wp2
       go_roundw
       all_goals first
        | exact ⟨i + 1, by go_num, by omega, Ho ⟨HU.o.1, by rw [HQ.o, HU.o.2, HY.o]; rfl⟩⟩
        | (simp [intOf]; omega)
     have HE := Ho (HF.o (by unfold tkc; rw [hv, ← HC.o, decide_eq_false h0]; rfl))
     have z0 : z < 0 := by omega
     unfold tks at HI
     go_wp2_with fail
     refine HV.o.mono ?_
     rintro e w9 ⟨rfl, h9⟩
     obtain rfl := h9.symm
     clear h9
     dsimp only
     go_wp2_with fail
     refine HI.o.mono ?_
     rintro e w9 ⟨rfl, h9⟩
     obtain rfl := h9.symm
     clear h9
     dsimp only
     go_wp2
     go_ret
     rw [HE.o]
     exact ⟨rfl, HU.o.1⟩
  have hilz : ¬ (i : Int) < (s.size : Int) := by omega
  have hal : s.data.toList.all tkc = true := by
   have h1 := HU.o.2
   rw [List.take_of_length_le (by rw [← HS.o]; omega)] at h1
   exact h1
  have HT := Ho (show r = !(s.toList.isEmpty) by
   rw [← HR.o, Go.Lib.toList_data]
   unfold tok
   rw [hal]
   simp)
  clear hal
  cases hb : s.toList.isEmpty with
  | true =>
   rw [hb] at HT
   go_wp2
   go_ret
   rw [HT.o]
   exact ⟨rfl, HU.o.1⟩
  | false =>
   rw [hb] at HT
   go_wp2
   go_ret
   rw [HT.o]
   exact ⟨rfl, HU.o.1⟩
end Go.Proofs.YtehnnlhoajdcaaaGreatDoor
