import Derived.Test.YtaphjbcnnkoffaaGreatDoorMh
namespace Go.Proofs.YtaphjbcnnkoffaaGreatDoor
open Go.RowKit Go.Shelf TextNum ModNum
theorem Cpf_walk (s : ByteArray) (w : World) : Calls Tryz.prog 83 #[.string s, .string ⟨#[118]⟩] w fun e w' => e = .returned (.tuple #[.string ⟨(if s.data.toList.head? = some 118 then s.data.toList.drop 1 else s.data.toList).toArray⟩, .bool (decide (s.data.toList.head? = some 118))]) ∧ w' = w := by
  refine (Any.strings_CutPrefix Tryz.lays103 s ⟨#[118]⟩ w).mono ?_
  rintro e w' ⟨rfl, h⟩
  have hp : Go.Lib.hasPrefix s.data.toList [118] = decide (s.data.toList.head? = some 118) := by
    unfold Go.Lib.hasPrefix
    cases s.data.toList with
    | nil => rfl
    | cons a l => 
      rw [Bool.eq_iff_iff]
      simp [List.isPrefixOf]
      exact ⟨fun h => h.symm, fun h => h.symm⟩
  rw [show (⟨#[118]⟩ : ByteArray).data.toList = [118] from rfl]
  unfold Go.Lib.trimPrefix
  rw [hp]
  refine ⟨?_, h⟩
  by_cases h2 : s.data.toList.head? = some 118
  · simp [h2]
  · simp [h2]
/-- what majorOfElements answers -/
def MR (es : List (List UInt8)) (w : World) (e : Ending) (w' : World) : Prop := ∃ m : List UInt8, e = .returned (.tuple #[.string ⟨m.toArray⟩, .bool (mel es).isSome]) ∧ (∀ x, mel es = some x → m = x) ∧ Up w w'
set_option maxRecDepth 100000 in
set_option maxHeartbeats 2000000 in
theorem majorOfElements_walk (v : Value) (es : List (List UInt8)) (w : World) (hG : GM w) (h0 : es ≠ []) (hS : SlS w v es) (hln : es.length ≤ 1048576) (hl : ∀ e ∈ es, e.length ≤ 1048576 ∧ ∀ c ∈ e, c.toNat < 128) :
    Calls Tryz.prog 113 #[v] w (MR es w) := by
  obtain ⟨a, cc, rfl⟩ := hS.len
  have hpos : 0 < es.length := List.length_pos_iff.2 h0
  obtain ⟨b, off, rfl, hc0⟩ := hS.get hpos
  obtain ⟨b', off', e', hcl⟩ := hS.get (show es.length - 1 < es.length by omega)
  injection e' with e'
  injection e' with e1 e2
  subst e1 e2
  have hlast : es.getLastD [] = es[es.length - 1] := by
    cases es with
    | nil => cases hpos
    | cons x r => simp [List.getLastD_eq_getLast?, List.getLast?_eq_getElem?]
  have hhead : es.headD [] = es[0] := by
    cases es with
    | nil => cases hpos
    | cons x r => rfl
  have hlb := hl es[es.length - 1] (List.getElem_mem _)
  have HR : Hid (mel es = (if es[0] = GOPKG then (if dbh (tsf UNST es[es.length - 1]) [46, 118] && isNum (dgs (tsf UNST es[es.length - 1])) then some (dgs (tsf UNST es[es.length - 1])) else none)
      else if es.length = 1 ∨ (es[es.length - 1]).head? ≠ some 118 ∨ (es[es.length - 1]).drop 1 = [] ∨ al 20 ((es[es.length - 1]).drop 1) = false then some []
      else if isNum ((es[es.length - 1]).drop 1) && !isLow ((es[es.length - 1]).drop 1) then some ((es[es.length - 1]).drop 1) else none)) := by
    unfold mel
    rw [hlast, hhead]
    rfl
  clear hS hl hlast hhead
  generalize es[es.length - 1] = last at *
  generalize es[0] = first at *
  generalize hnn : es.length = n at *
  clear hnn
  have HG := Hid.of hG
  clear hG
  obtain ⟨fs, hfs⟩ : ∃ fs : ByteArray, fs = ⟨first.toArray⟩ := ⟨_, rfl⟩
  obtain ⟨la, hla⟩ : ∃ la : ByteArray, la = ⟨last.toArray⟩ := ⟨_, rfl⟩
  have hfd : fs.data.toList = first := by rw [hfs]
  have hld : la.data.toList = last := by rw [hla]
  have hlsz : la.size ≤ 1048576 := by rw [Go.Lib.size_eq, hld]; exact hlb.1
  rw [← hfs, Nat.add_zero] at hc0
  rw [← hla] at hcl
  clear hfs hla
  have hlz : (n : Int) - 1 = ((n - 1 : Nat) : Int) := by omega
  have hnz : ((n - 1 : Nat) : Int) < (n : Int) := by omega
  have htl : (tsf UNST last).length ≤ 1048576 ∧ ∀ c ∈ tsf UNST last, c.toNat < 128 := by
    unfold tsf
    split
    · exact ⟨by rw [List.length_take]; omega, fun c hc => hlb.2 c (List.mem_of_mem_take hc)⟩
    · exact hlb
  have HTL := Hid.of htl
  clear htl
  have HT := Hid.of (Tsf_walk la ⟨#[45, 117, 110, 115, 116, 97, 98, 108, 101]⟩ hlsz w)
  rw [hld, show (⟨#[45, 117, 110, 115, 116, 97, 98, 108, 101]⟩ : ByteArray).data.toList = UNST from rfl] at HT
  have HD := Hid.of (digitsBehind_walk ⟨(tsf UNST last).toArray⟩ ⟨#[46, 118]⟩ HTL.out.2 (by rw [size_str]; exact HTL.out.1) w HG.out)
  rw [show (⟨#[46, 118]⟩ : ByteArray).data.toList = [46, 118] from rfl, show (⟨(tsf UNST last).toArray⟩ : ByteArray).data.toList = tsf UNST last from rfl] at HD
  have HN := fun w' => fun (u : Up w w') => Hid.of (isNumber_walk ⟨(dgs (tsf UNST last)).toArray⟩ w' (HG.out.up u))
  by_cases hgo : first = GOPKG
  · have heq : (fs.toList == [103, 111, 112, 107, 103, 46, 105, 110]) = true := by rw [Go.Lib.toList_data, hfd, hgo]; rfl
    rw [if_pos hgo] at HR
    clear hgo hfd hld hlb
    generalize tsf UNST last = tl at *
    generalize dgs tl = dd at *
    cases hdb : dbh tl [46, 118] with
    | false =>
      rw [hdb] at HD HR
      clear hdb
      go_enter Tryz.func113, Tryz.ntmps113
      go_wp2_with fail
      refine (HT.out).mono ?_
      rintro e w9 ⟨rfl, h9⟩
      obtain rfl := h9.symm
      clear h9
      dsimp only
      go_wp2_with fail
      refine (HD.out).mono ?_
      rintro e w1 ⟨rfl, u1⟩
      have H1 := Hid.of (u1)
      have Hu1 := Hid.of u1
      clear u1
      dsimp only
      go_wp2
      go_ret2
      have hr : mel es = none := HR.out
      exact ⟨dd, by rw [hr]; rfl, (fun x hx => by rw [hr] at hx; cases hx), H1.out⟩
    | true =>
      rw [hdb] at HD HR
      clear hdb
      go_enter Tryz.func113, Tryz.ntmps113
      go_wp2_with fail
      refine (HT.out).mono ?_
      rintro e w9 ⟨rfl, h9⟩
      obtain rfl := h9.symm
      clear h9
      dsimp only
      go_wp2_with fail
      refine (HD.out).mono ?_
      rintro e w1 ⟨rfl, u1⟩
      have H1 := Hid.of (u1)
      have Hu1 := Hid.of u1
      clear u1
      dsimp only
      go_wp2_with fail
      refine ((HN _ H1.out).out).mono ?_
      rintro e w2 ⟨rfl, u2⟩
      have H2 := Hid.of (H1.out.trans u2)
      have Hu2 := Hid.of u2
      clear u2
      dsimp only
      go_wp2
      go_ret2
      have hr : mel es = if isNum dd = true then some dd else none := HR.out
      refine ⟨dd, ?_, fun x hx => ?_, H2.out⟩
      · rw [hr]
        cases isNum dd <;> rfl
      · rw [hr] at hx
        cases hq : isNum dd with
        | true => rw [hq] at hx; exact Option.some.inj hx
        | false => rw [hq] at hx; cases hx
  · have heq : (fs.toList == [103, 111, 112, 107, 103, 46, 105, 110]) = false := by
      rw [Go.Lib.toList_data, hfd, beq_eq_false_iff_ne]; exact hgo
    rw [if_neg hgo] at HR
    clear hgo hfd HT HD HN HTL
    have HP := Hid.of (Cpf_walk la w)
    rw [hld] at HP
    have HA := Hid.of (allOf_walk ⟨(last.drop 1).toArray⟩ 20 (by decide) w HG.out)
    have HN := fun w' => fun (u : Up w w') => Hid.of (isNumber_walk ⟨(last.drop 1).toArray⟩ w' (HG.out.up u))
    have HL := fun w' => Hid.of (isLow_walk ⟨(last.drop 1).toArray⟩ w')
    clear hld hlb
    by_cases hn1 : n = 1
    · have hn1z : ((n : Int) == 1) = true := by rw [beq_iff_eq]; omega
      rw [if_pos (.inl hn1)] at HR
      subst hn1
      rw [Nat.sub_self, Nat.add_zero] at hcl
      have hfl : fs = la := by
        rw [hc0] at hcl
        injection hcl with hcl
        injection hcl
      subst hfl
      generalize (if last.head? = some 118 then last.drop 1 else last) = q at *
      go_enter Tryz.func113, Tryz.ntmps113
      go_wp2_with fail
      refine (HP.out).mono ?_
      rintro e w9 ⟨rfl, h9⟩
      obtain rfl := h9.symm
      clear h9
      dsimp only
      go_wp2
      go_ret2
      exact ⟨[], by rw [HR.out]; rfl, fun x hx => by rw [HR.out] at hx; exact Option.some.inj hx, Up.refl _⟩
    · have hn1z : ((n : Int) == 1) = false := by rw [beq_eq_false_iff_ne]; omega
      by_cases hh : last.head? = some 118
      · rw [if_pos hh, decide_eq_true hh] at HP
        obtain ⟨mj, hmj⟩ : ∃ mj : ByteArray, mj = ⟨(last.drop 1).toArray⟩ := ⟨_, rfl⟩
        have hmd : mj.data.toList = last.drop 1 := by rw [hmj]
        rw [← hmj] at HP HA HN HL
        rw [hmd] at HA HN HL
        have hmE : mj.toList.isEmpty = (last.drop 1).isEmpty := by rw [Go.Lib.toList_data, hmd]
        by_cases he : last.drop 1 = []
        · rw [he] at hmE
          rw [if_pos (.inr (.inr (.inl he)))] at HR
          clear hmj hmd he
          go_enter Tryz.func113, Tryz.ntmps113
          go_wp2_with fail
          refine (HP.out).mono ?_
          rintro e w9 ⟨rfl, h9⟩
          obtain rfl := h9.symm
          clear h9
          dsimp only
          go_wp2
          go_ret2
          exact ⟨[], by rw [HR.out]; rfl, fun x hx => by rw [HR.out] at hx; exact Option.some.inj hx, Up.refl _⟩
        · have he2 : (last.drop 1).isEmpty = false := by
            cases hq : last.drop 1 with
            | nil => exact absurd hq he
            | cons a r => rfl
          rw [he2] at hmE
          cases hal : al 20 (last.drop 1) with
          | false =>
            rw [hal] at HA
            rw [if_pos (.inr (.inr (.inr hal)))] at HR
            clear hmj hmd he he2 hal
            go_enter Tryz.func113, Tryz.ntmps113
            go_wp2_with fail
            refine (HP.out).mono ?_
            rintro e w9 ⟨rfl, h9⟩
            obtain rfl := h9.symm
            clear h9
            dsimp only
            go_wp2_with fail
            refine (HA.out).mono ?_
            rintro e w1 ⟨rfl, u1⟩
            have H1 := Hid.of (u1)
            have Hu1 := Hid.of u1
            clear u1
            dsimp only
            go_wp2
            go_ret2
            exact ⟨[], by rw [HR.out]; rfl, fun x hx => by rw [HR.out] at hx; exact Option.some.inj hx, H1.out⟩
          | true =>
            rw [hal] at HA
            rw [if_neg (by rintro (h | h | h | h) <;> first | exact hn1 h | exact h hh | exact he h | (rw [hal] at h; cases h))] at HR
            have HM := Hid.of hmj
            clear hmj hmd he he2 hal
            generalize last.drop 1 = md at *
            cases hnm : isNum md with
            | false =>
              rw [hnm] at HN HR
              clear hnm
              go_enter Tryz.func113, Tryz.ntmps113
              go_wp2_with fail
              refine (HP.out).mono ?_
              rintro e w9 ⟨rfl, h9⟩
              obtain rfl := h9.symm
              clear h9
              dsimp only
              go_wp2_with fail
              refine (HA.out).mono ?_
              rintro e w1 ⟨rfl, u1⟩
              have H1 := Hid.of (u1)
              have Hu1 := Hid.of u1
              clear u1
              dsimp only
              go_wp2_with fail
              refine ((HN _ H1.out).out).mono ?_
              rintro e w2 ⟨rfl, u2⟩
              have H2 := Hid.of (H1.out.trans u2)
              have Hu2 := Hid.of u2
              clear u2
              dsimp only
              go_wp2
              go_ret2
              have hr : mel es = none := HR.out
              exact ⟨md, by rw [hr, HM.out]; rfl, (fun x hx => by rw [hr] at hx; cases hx), H2.out⟩
            | true =>
              rw [hnm] at HN HR
              clear hnm
              go_enter Tryz.func113, Tryz.ntmps113
              go_wp2_with fail
              refine (HP.out).mono ?_
              rintro e w9 ⟨rfl, h9⟩
              obtain rfl := h9.symm
              clear h9
              dsimp only
              go_wp2_with fail
              refine (HA.out).mono ?_
              rintro e w1 ⟨rfl, u1⟩
              have H1 := Hid.of (u1)
              have Hu1 := Hid.of u1
              clear u1
              dsimp only
              go_wp2_with fail
              refine ((HN _ H1.out).out).mono ?_
              rintro e w2 ⟨rfl, u2⟩
              have H2 := Hid.of (H1.out.trans u2)
              have Hu2 := Hid.of u2
              clear u2
              dsimp only
              go_wp2_with fail
              refine ((HL _).out).mono ?_
              rintro e w9 ⟨rfl, h9⟩
              obtain rfl := h9.symm
              clear h9
              dsimp only
              go_wp2
              go_ret2
              have hr : mel es = if (!isLow md) = true then some md else none := HR.out
              refine ⟨md, ?_, fun x hx => ?_, H2.out⟩
              · rw [hr, HM.out]
                cases isLow md <;> rfl
              · rw [hr] at hx
                cases hq : isLow md with
                | false => rw [hq] at hx; exact Option.some.inj hx
                | true => rw [hq] at hx; cases hx
      · rw [if_neg hh, decide_eq_false hh] at HP
        rw [if_pos (.inr (.inl hh))] at HR
        go_enter Tryz.func113, Tryz.ntmps113
        go_wp2_with fail
        refine (HP.out).mono ?_
        rintro e w9 ⟨rfl, h9⟩
        obtain rfl := h9.symm
        clear h9
        dsimp only
        go_wp2
        go_ret2
        exact ⟨[], by rw [HR.out]; rfl, fun x hx => by rw [HR.out] at hx; exact Option.some.inj hx, Up.refl _⟩
end Go.Proofs.YtaphjbcnnkoffaaGreatDoor
