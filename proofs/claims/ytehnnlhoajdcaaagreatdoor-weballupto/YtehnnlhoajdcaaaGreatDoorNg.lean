import Derived.Test.YtehnnlhoajdcaaaGreatDoorXm
import Derived.Test.YtehnnlhoajdcaaaGreatDoorSn
import Derived.Test.YtehnnlhoajdcaaaGreatDoorWh
import Derived.Test.YtehnnlhoajdcaaaGreatDoorSr
import Derived.Test.YtehnnlhoajdcaaaGreatDoorSl
import Derived.Lib.CutLaws
import Derived.Lib.IndexLaws
import Derived.Lib.IndexBytes
import Derived.Test.YtehnnlhoajdcaaaGreatDoorNb
import Derived.Test.YtehnnlhoajdcaaaGreatDoorNc
namespace Go.Proofs.YtehnnlhoajdcaaaGreatDoor
open Go.RowKit Go.Shelf TextNum
set_option maxRecDepth 100000 in
theorem isPlain_walk (c : UInt8) (w : World) : Calls Tryz.prog 145 #[vb c] w fun e w' => e = .returned (.bool (pl c)) ∧ w' = w := by
 have HL := Ho (isLetterOrDigit_walk c w)
 have hI : Calls Tryz.prog 132 #[.string mks, vb c] w fun e w' => e = .returned (.int .i64 (Go.Lib.indexByte mks.data.toList c)) ∧ w' = w := by
  refine (Go.Proofs.Any.strings_IndexByte Tryz.lays137 mks (c.toNat : Int) w).mono ?_
  rintro e w' ⟨rfl, rfl⟩
  refine ⟨?_, rfl⟩
  simp
 have HI := Ho hI
 clear hI
 have HC := Ho (ixb_con mks.data.toList c)
 unfold pl
 cases hl : isL c with
 | true =>
  rw [hl] at HL
  go_enter Tryz.func145, Tryz.ntmps145
  go_wp2_with fail
  refine HL.o.mono ?_
  rintro e w9 ⟨rfl, h9⟩
  obtain rfl := h9.symm
  clear h9
  dsimp only
  go_wp2
  go_ret
  exact ⟨rfl, rfl⟩
 | false =>
  rw [hl] at HL
  obtain ⟨z, hz⟩ := ny (Go.Lib.indexByte mks.data.toList c)
  rw [hz] at HI HC
  rw [← HC.o]
  clear HC hz
  go_enter Tryz.func145, Tryz.ntmps145
  go_wp2_with fail
  refine HL.o.mono ?_
  rintro e w9 ⟨rfl, h9⟩
  obtain rfl := h9.symm
  clear h9
  dsimp only
  go_wp2_with fail
  refine HI.o.mono ?_
  rintro e w9 ⟨rfl, h9⟩
  obtain rfl := h9.symm
  clear h9
  dsimp only
  go_wp2
  go_ret
  exact ⟨by simp, rfl⟩
end Go.Proofs.YtehnnlhoajdcaaaGreatDoor
namespace Go.Proofs.YtehnnlhoajdcaaaGreatDoor
open Go.RowKit TextNum
theorem hxv_le {c d : UInt8} (h : hxv c = some d) : d.toNat ≤ 15 := by
 unfold hxv at h
 split at h
 · rename_i hd
   have hdd : 48 ≤ c.toNat ∧ c.toNat ≤ 57 := by simpa [isD] using hd
   injection h with h
   rw [← h, UInt8.toNat_sub_of_le _ _ (by rw [UInt8.le_iff_toNat_le]; simpa using hdd.1)]
   have : (48 : UInt8).toNat = 48 := rfl
   omega
 split at h
 · rename_i h2
   injection h with h
   have := (lw c).toNat_lt
   rw [← h, UInt8.toNat_add, UInt8.toNat_sub_of_le _ _ (by rw [UInt8.le_iff_toNat_le]; simpa using h2.1)]
   have : (97 : UInt8).toNat = 97 := rfl
   have : (10 : UInt8).toNat = 10 := rfl
   omega
 cases h
theorem hxv_le0 (c : UInt8) : ((hxv c).getD 0).toNat ≤ 15 := by
 cases h : hxv c with
 | none => decide
 | some d => exact hxv_le h
def trb (a b : UInt8) : UInt8 := UInt8.ofNat (((hxv a).getD 0).toNat * 16 + ((hxv b).getD 0).toNat)
def trk (a b : UInt8) : Bool := (hxv a).isSome && (hxv b).isSome && !ctl (trb a b) && (trb a b != 47)
theorem or16 : ∀ a : Nat, a ≤ 15 → ∀ b : Nat, b ≤ 15 → bits BinOp.or IntKind.u8 ((a : Int) * 16) (b : Int) = ((a * 16 + b : Nat) : Int) := by decide +kernel
set_option maxRecDepth 100000 in
theorem readTriple_walk (s : ByteArray) (h3 : 3 ≤ s.size) (w : World) : Calls Tryz.prog 174 #[.string s] w fun e w' => e = .returned (.tuple #[vb (trb s[1] s[2]), .bool (trk s[1] s[2])]) ∧ w' = w := by
 have H1 := Ho (hexDigit_walk s[1] w)
 have H2 := Ho (hexDigit_walk s[2] w)
 have HC := Ho (isControl_walk (trb s[1] s[2]) w)
 have hz : ¬ (s.size : Int) < 3 := by omega
 have hz1 : (1 : Int) < (s.size : Int) := by omega
 have hz2 : (2 : Int) < (s.size : Int) := by omega
 unfold trk
 have b1 := hxv_le0 s[1]
 have b2 := hxv_le0 s[2]
 have HT := Ho (show (trb s[1] s[2]).toNat = ((hxv s[1]).getD 0).toNat * 16 + ((hxv s[2]).getD 0).toNat by
  unfold trb
  rw [UInt8.toNat_ofNat', Nat.mod_eq_of_lt (by omega)])
 have hor := or16 _ b1 _ b2
 rw [← HT.o] at hor
 clear HT
 generalize (hxv s[1]).getD 0 = x at *
 generalize (hxv s[2]).getD 0 = y at *
 generalize trb s[1] s[2] = t at *
 generalize (hxv s[1]).isSome = p at *
 generalize (hxv s[2]).isSome = q at *
 go_enter Tryz.func174, Tryz.ntmps174
 go_wp2_with fail
 refine H1.o.mono ?_
 rintro e w9 ⟨rfl, h9⟩
 obtain rfl := h9.symm
 clear h9
 dsimp only
 go_wp2_with fail
 refine H2.o.mono ?_
 rintro e w9 ⟨rfl, h9⟩
 obtain rfl := h9.symm
 clear h9
 dsimp only
 cases p with
 | false =>
  go_wp2
  go_ret2
  exact ⟨rfl, rfl⟩
 | true =>
  cases q with
  | false =>
   go_wp2
   go_ret2
   exact ⟨rfl, rfl⟩
  | true =>
   go_wp2_with fail
   refine HC.o.mono ?_
   rintro e w9 ⟨rfl, h9⟩
   obtain rfl := h9.symm
   clear h9
   dsimp only
   have h47 : ((t.toNat : Int) == 47) = (t == 47) := by
    have := u8_eq (a := t) (b := 47)
    exact this
   cases hc : ctl t with
   | true =>
    go_wp2
    go_ret2
    rw [hc]
    exact ⟨rfl, rfl⟩
   | false =>
    have hbz : ((t.toNat : Int) != 47) = (t != 47) := by rw [bne, bne, h47]
    clear h47
    go_wp2
    go_ret2
    rw [hc, ← hbz]
    exact ⟨by first | rfl | simp, rfl⟩
set_option maxRecDepth 100000 in
theorem readTriple_short (s : ByteArray) (h3 : s.size < 3) (w : World) : Calls Tryz.prog 174 #[.string s] w fun e w' => e = .returned (.tuple #[vb 0, .bool false]) ∧ w' = w := by
 have hz : (s.size : Int) < 3 := by omega
 go_enter Tryz.func174, Tryz.ntmps174
 go_wp2
 go_ret2
 exact ⟨rfl, rfl⟩
def qok (l : List UInt8) : Bool := l.all fun c => pl c || c == 37 || c == 63
theorem qok_take {l : List UInt8} {i : Nat} (h : i < l.length) : qok (l.take (i + 1)) = (qok (l.take i) && (pl l[i] || l[i] == 37 || l[i] == 63)) := by
 unfold qok
 rw [List.take_succ_eq_append_getElem h, List.all_append]
 simp
set_option maxRecDepth 100000 in
set_option maxHeartbeats 1000000 in
theorem mayBeQuery_walk (s : ByteArray) (hs : s.size ≤ 1099511627776) (w : World) : Calls Tryz.prog 143 #[.string s] w fun e w' => e = .returned (.bool (qok s.data.toList)) ∧ Up w w' := by
 have HS := Ho (show s.size = s.data.toList.length from Go.Lib.size_eq s)
 obtain ⟨r, hr⟩ := ny (qok s.data.toList)
 have HR := Ho hr
 rw [hr]
 clear hr
 go_enter Tryz.func143, Tryz.ntmps143
 go_wp2
 go_loopw [6] (fun v6 wr => ∃ i : Nat, v6 = .int .i64 (i : Int) ∧ i ≤ s.size ∧ Hd (Up w wr ∧ qok (s.data.toList.take i) = true)) (fun v6 _ => s.size - (intOf v6).toNat)
 case atStart => exact ⟨0, rfl, Nat.zero_le _, Ho ⟨Up.refl _, rfl⟩⟩
 case round =>
  obtain ⟨i, rfl, hi, hU⟩ := hrel
  have HU := Ho hU.o
  clear hU
  by_cases hil : i < s.size
  · have hilz : (i : Int) < (s.size : Int) := by omega
    have hg := sget' s i hil
    have HQ := Ho (qok_take (l := s.data.toList) (i := i) (by rw [← HS.o]; exact hil))
    have HF := Ho (show ∀ x, s.data.toList[i]'(by rw [← HS.o]; exact hil) = x → (pl x || x == 37 || x == 63) = false → r = false from fun x hx hb => by
     rw [← HR.o]
     unfold qok
     rw [List.all_eq_false]
     exact ⟨_, List.getElem_mem (by rw [← HS.o]; exact hil), by rw [hx, hb]; simp⟩)
    generalize s.data.toList[i]'(by rw [← HS.o]; exact hil) = x at *
    replace HF := Ho (HF.o x rfl)
    have h37 : ((x.toNat : Int) == 37) = (x == 37) := u8_eq (a := x) (b := 37)
    have h63 : ((x.toNat : Int) == 63) = (x == 63) := u8_eq (a := x) (b := 63)
    have HP := fun w => isPlain_walk x w
    have HPh := Ho HP
    clear HP
    cases hp : pl x with
    | true =>
     have HY := Ho (show (pl x || x == 37 || x == 63) = true by rw [hp]; rfl)
     rw [hp] at HPh
     go_wp2
     refine wp_region_held_drew (S := fun w2 => Up wr w2) (by kernel_rfl) (Up.refl _).drew (fun hS => ?_)
     refine tN 0 (some 9) (.move (.tmp 0)) 9 (.string s) hS ?_
     simp only [Act.put, pB, pC, pD]
     refine tN 1 (some 10) (.move (.tmp 3)) 3 (.int .i64 (i : Int)) hS ?_
     simp only [pA, pB, pC, pD]
     refine tN 2 (some 11) (.index 9 (.tmp 9) (.tmp 10)) 5 (vb x) hS ?_
     simp only [pA, pB, pC, pD]
     refine rD 3 (some 12) (.call ⟨.value (.func 145), #[.tmp 11], #[5]⟩) 4 fun _ _ K hK => ?_
     rw [if_pos (by kernel_rfl)]
     go_simp
     refine (HPh.o _).mono ?_
     rintro e w5 ⟨rfl, h9⟩
     obtain rfl := h9.symm
     clear h9
     dsimp only
     refine hK.out _ _ hS (fun hS => ?_)
     clear hK K
     refine tN 4 (some 13) (.unOp .not 4 (.tmp 12)) 4 (.bool false) hS ?_
     simp only [Act.put, pB, pC, pD]
     refine tN 5 (some 14) (.move (.tmp 13)) 4 (.bool false) hS ?_
     simp only [pA, pB, pC, pD]
     refine wpAnyH_take (i := 6) (oi := ⟨some 15, .move (.tmp 0), 9, "target.go:52", #[eG 5], some (5, true)⟩) (v := undef) rfl (by kernel_rfl) (by kernel_rfl) (by kernel_rfl) (fun _ _ _ h => h) (Or.inr ⟨by kernel_rfl, rfl⟩) hS ?_
     simp only [pA, pB, pC, pD]
     refine wpAnyH_take (i := 7) (oi := ⟨some 16, .move (.tmp 3), 3, "target.go:52", #[eG 5], some (5, true)⟩) (v := undef) rfl (by kernel_rfl) (by kernel_rfl) (by kernel_rfl) (fun _ _ _ h => h) (Or.inr ⟨by kernel_rfl, rfl⟩) hS ?_
     simp only [pA, pB, pC, pD]
     refine wpAnyH_take (i := 8) (oi := ⟨some 17, .index 9 (.tmp 15) (.tmp 16), 5, "target.go:52", #[eD 6, eD 7, eG 5], some (5, true)⟩) (v := undef) rfl (by kernel_rfl) (by kernel_rfl) (by kernel_rfl) (fun _ _ _ h => h) (Or.inr ⟨by kernel_rfl, rfl⟩) hS ?_
     simp only [pA, pB, pC, pD]
     refine wpAnyH_take (i := 9) (oi := ⟨some 18, .binOp .neq 5 (.tmp 17) (.const (.int .u8 37)) 5, 4, "target.go:52", #[eD 8, eG 5], some (5, true)⟩) (v := undef) rfl (by kernel_rfl) (by kernel_rfl) (by kernel_rfl) (fun _ _ _ h => h) (Or.inr ⟨by kernel_rfl, rfl⟩) hS ?_
     simp only [pA, pB, pC, pD]
     refine tN 10 (some 19) (.pick (.tmp 14) (.tmp 18) (.const (.bool false))) 4 (.bool false) hS ?_
     simp only [pA, pB, pC, pD]
     refine tN 11 (some 20) (.move (.tmp 19)) 4 (.bool false) hS ?_
     simp only [pA, pB, pC, pD]
     refine wpAnyH_take (i := 12) (oi := ⟨some 21, .move (.tmp 0), 9, "target.go:52", #[eG 11], some (11, true)⟩) (v := undef) rfl (by kernel_rfl) (by kernel_rfl) (by kernel_rfl) (fun _ _ _ h => h) (Or.inr ⟨by kernel_rfl, rfl⟩) hS ?_
     simp only [pA, pB, pC, pD]
     refine wpAnyH_take (i := 13) (oi := ⟨some 22, .move (.tmp 3), 3, "target.go:52", #[eG 11], some (11, true)⟩) (v := undef) rfl (by kernel_rfl) (by kernel_rfl) (by kernel_rfl) (fun _ _ _ h => h) (Or.inr ⟨by kernel_rfl, rfl⟩) hS ?_
     simp only [pA, pB, pC, pD]
     refine wpAnyH_take (i := 14) (oi := ⟨some 23, .index 9 (.tmp 21) (.tmp 22), 5, "target.go:52", #[eD 12, eD 13, eG 11], some (11, true)⟩) (v := undef) rfl (by kernel_rfl) (by kernel_rfl) (by kernel_rfl) (fun _ _ _ h => h) (Or.inr ⟨by kernel_rfl, rfl⟩) hS ?_
     simp only [pA, pB, pC, pD]
     refine wpAnyH_take (i := 15) (oi := ⟨some 24, .index 9 (.const (.string { data := #[63] })) (.const (.int .i64 0)), 5, "target.go:52", #[eG 11], some (11, true)⟩) (v := undef) rfl (by kernel_rfl) (by kernel_rfl) (by kernel_rfl) (fun _ _ _ h => h) (Or.inr ⟨by kernel_rfl, rfl⟩) hS ?_
     simp only [pA, pB, pC, pD]
     refine wpAnyH_take (i := 16) (oi := ⟨some 25, .binOp .neq 5 (.tmp 23) (.tmp 24) 5, 4, "target.go:52", #[eD 14, eD 15, eG 11], some (11, true)⟩) (v := undef) rfl (by kernel_rfl) (by kernel_rfl) (by kernel_rfl) (fun _ _ _ h => h) (Or.inr ⟨by kernel_rfl, rfl⟩) hS ?_
     simp only [pA, pB, pC, pD]
     refine tN 17 (some 26) (.pick (.tmp 20) (.tmp 25) (.const (.bool false))) 4 (.bool false) hS ?_
     simp only [pA, pB, pC, pD]
     have HSY := Ho hS
     clear hS
     refine wpAnyH_done (by kernel_rfl) ?_ _
     go_wp2
     go_roundw
     all_goals first
      | exact ⟨i + 1, by go_num, by omega, Ho ⟨HU.o.1.trans HSY.o, by rw [HQ.o, HU.o.2, HY.o]; rfl⟩⟩
      | (simp [intOf]; omega)
    | false =>
     rw [hp] at HPh
     cases h1 : (x == 37) with
     | true =>
      have HY := Ho (show (pl x || x == 37 || x == 63) = true by rw [hp, h1]; rfl)
      rw [h1] at h37
      have b37 : ((x.toNat : Int) != 37) = false := by rw [bne, h37]; rfl
      go_wp2
      refine wp_region_held_drew (S := fun w2 => Up wr w2) (by kernel_rfl) (Up.refl _).drew (fun hS => ?_)
      refine tN 0 (some 9) (.move (.tmp 0)) 9 (.string s) hS ?_
      simp only [pA, pB, pC, pD]
      refine tN 1 (some 10) (.move (.tmp 3)) 3 (.int .i64 (i : Int)) hS ?_
      simp only [pA, pB, pC, pD]
      refine tN 2 (some 11) (.index 9 (.tmp 9) (.tmp 10)) 5 (vb x) hS ?_
      simp only [pA, pB, pC, pD]
      refine rD 3 (some 12) (.call ⟨.value (.func 145), #[.tmp 11], #[5]⟩) 4 fun _ _ K hK => ?_
      rw [if_pos (by kernel_rfl)]
      go_simp
      refine (HPh.o _).mono ?_
      rintro e w5 ⟨rfl, h9⟩
      obtain rfl := h9.symm
      clear h9
      dsimp only
      refine hK.out _ _ hS (fun hS => ?_)
      clear hK K
      refine tN 4 (some 13) (.unOp .not 4 (.tmp 12)) 4 (.bool true) hS ?_
      simp only [Act.put, pB, pC, pD]
      refine tN 5 (some 14) (.move (.tmp 13)) 4 (.bool true) hS ?_
      simp only [pA, pB, pC, pD]
      refine wpAnyH_take (i := 6) (oi := ⟨some 15, .move (.tmp 0), 9, "target.go:52", #[eG 5], some (5, true)⟩) (v := .string s) rfl (by kernel_rfl) (by kernel_rfl) (by kernel_rfl) (fun _ _ _ h => h) (Or.inl ⟨by kernel_rfl, ?_⟩) hS ?_
      · intro w5 hSw
        clear hSw hS
        go_simp
      simp only [pA, pB, pC, pD]
      refine wpAnyH_take (i := 7) (oi := ⟨some 16, .move (.tmp 3), 3, "target.go:52", #[eG 5], some (5, true)⟩) (v := .int .i64 (i : Int)) rfl (by kernel_rfl) (by kernel_rfl) (by kernel_rfl) (fun _ _ _ h => h) (Or.inl ⟨by kernel_rfl, ?_⟩) hS ?_
      · intro w5 hSw
        clear hSw hS
        go_simp
      simp only [pA, pB, pC, pD]
      refine wpAnyH_take (i := 8) (oi := ⟨some 17, .index 9 (.tmp 15) (.tmp 16), 5, "target.go:52", #[eD 6, eD 7, eG 5], some (5, true)⟩) (v := vb x) rfl (by kernel_rfl) (by kernel_rfl) (by kernel_rfl) (fun _ _ _ h => h) (Or.inl ⟨by kernel_rfl, ?_⟩) hS ?_
      · intro w5 hSw
        clear hSw hS
        go_simp
      simp only [pA, pB, pC, pD]
      refine wpAnyH_take (i := 9) (oi := ⟨some 18, .binOp .neq 5 (.tmp 17) (.const (.int .u8 37)) 5, 4, "target.go:52", #[eD 8, eG 5], some (5, true)⟩) (v := .bool false) rfl (by kernel_rfl) (by kernel_rfl) (by kernel_rfl) (fun _ _ _ h => h) (Or.inl ⟨by kernel_rfl, ?_⟩) hS ?_
      · intro w5 hSw
        clear hSw hS
        go_simp
      simp only [pA, pB, pC, pD]
      refine tN 10 (some 19) (.pick (.tmp 14) (.tmp 18) (.const (.bool false))) 4 (.bool false) hS ?_
      simp only [pA, pB, pC, pD]
      refine tN 11 (some 20) (.move (.tmp 19)) 4 (.bool false) hS ?_
      simp only [pA, pB, pC, pD]
      refine wpAnyH_take (i := 12) (oi := ⟨some 21, .move (.tmp 0), 9, "target.go:52", #[eG 11], some (11, true)⟩) (v := undef) rfl (by kernel_rfl) (by kernel_rfl) (by kernel_rfl) (fun _ _ _ h => h) (Or.inr ⟨by kernel_rfl, rfl⟩) hS ?_
      simp only [pA, pB, pC, pD]
      refine wpAnyH_take (i := 13) (oi := ⟨some 22, .move (.tmp 3), 3, "target.go:52", #[eG 11], some (11, true)⟩) (v := undef) rfl (by kernel_rfl) (by kernel_rfl) (by kernel_rfl) (fun _ _ _ h => h) (Or.inr ⟨by kernel_rfl, rfl⟩) hS ?_
      simp only [pA, pB, pC, pD]
      refine wpAnyH_take (i := 14) (oi := ⟨some 23, .index 9 (.tmp 21) (.tmp 22), 5, "target.go:52", #[eD 12, eD 13, eG 11], some (11, true)⟩) (v := undef) rfl (by kernel_rfl) (by kernel_rfl) (by kernel_rfl) (fun _ _ _ h => h) (Or.inr ⟨by kernel_rfl, rfl⟩) hS ?_
      simp only [pA, pB, pC, pD]
      refine wpAnyH_take (i := 15) (oi := ⟨some 24, .index 9 (.const (.string { data := #[63] })) (.const (.int .i64 0)), 5, "target.go:52", #[eG 11], some (11, true)⟩) (v := undef) rfl (by kernel_rfl) (by kernel_rfl) (by kernel_rfl) (fun _ _ _ h => h) (Or.inr ⟨by kernel_rfl, rfl⟩) hS ?_
      simp only [pA, pB, pC, pD]
      refine wpAnyH_take (i := 16) (oi := ⟨some 25, .binOp .neq 5 (.tmp 23) (.tmp 24) 5, 4, "target.go:52", #[eD 14, eD 15, eG 11], some (11, true)⟩) (v := undef) rfl (by kernel_rfl) (by kernel_rfl) (by kernel_rfl) (fun _ _ _ h => h) (Or.inr ⟨by kernel_rfl, rfl⟩) hS ?_
      simp only [pA, pB, pC, pD]
      refine tN 17 (some 26) (.pick (.tmp 20) (.tmp 25) (.const (.bool false))) 4 (.bool false) hS ?_
      simp only [pA, pB, pC, pD]
      have HSY := Ho hS
      clear hS
      refine wpAnyH_done (by kernel_rfl) ?_ _
      go_wp2
      go_roundw
      all_goals first
       | exact ⟨i + 1, by go_num, by omega, Ho ⟨HU.o.1.trans HSY.o, by rw [HQ.o, HU.o.2, HY.o]; rfl⟩⟩
       | (simp [intOf]; omega)
     | false =>
      rw [h1] at h37
      have b37 : ((x.toNat : Int) != 37) = true := by rw [bne, h37]; rfl
      cases h2 : (x == 63) with
      | true =>
       have HY := Ho (show (pl x || x == 37 || x == 63) = true by rw [hp, h1, h2]; rfl)
       rw [h2] at h63
       have b63 : ((x.toNat : Int) != 63) = false := by rw [bne, h63]; rfl
       go_wp2
       refine wp_region_held_drew (S := fun w2 => Up wr w2) (by kernel_rfl) (Up.refl _).drew (fun hS => ?_)
       refine tN 0 (some 9) (.move (.tmp 0)) 9 (.string s) hS ?_
       simp only [pA, pB, pC, pD]
       refine tN 1 (some 10) (.move (.tmp 3)) 3 (.int .i64 (i : Int)) hS ?_
       simp only [pA, pB, pC, pD]
       refine tN 2 (some 11) (.index 9 (.tmp 9) (.tmp 10)) 5 (vb x) hS ?_
       simp only [pA, pB, pC, pD]
       refine rD 3 (some 12) (.call ⟨.value (.func 145), #[.tmp 11], #[5]⟩) 4 fun _ _ K hK => ?_
       rw [if_pos (by kernel_rfl)]
       go_simp
       refine (HPh.o _).mono ?_
       rintro e w5 ⟨rfl, h9⟩
       obtain rfl := h9.symm
       clear h9
       dsimp only
       refine hK.out _ _ hS (fun hS => ?_)
       clear hK K
       refine tN 4 (some 13) (.unOp .not 4 (.tmp 12)) 4 (.bool true) hS ?_
       simp only [Act.put, pB, pC, pD]
       refine tN 5 (some 14) (.move (.tmp 13)) 4 (.bool true) hS ?_
       simp only [pA, pB, pC, pD]
       refine wpAnyH_take (i := 6) (oi := ⟨some 15, .move (.tmp 0), 9, "target.go:52", #[eG 5], some (5, true)⟩) (v := .string s) rfl (by kernel_rfl) (by kernel_rfl) (by kernel_rfl) (fun _ _ _ h => h) (Or.inl ⟨by kernel_rfl, ?_⟩) hS ?_
       · intro w5 hSw
         clear hSw hS
         go_simp
       simp only [pA, pB, pC, pD]
       refine wpAnyH_take (i := 7) (oi := ⟨some 16, .move (.tmp 3), 3, "target.go:52", #[eG 5], some (5, true)⟩) (v := .int .i64 (i : Int)) rfl (by kernel_rfl) (by kernel_rfl) (by kernel_rfl) (fun _ _ _ h => h) (Or.inl ⟨by kernel_rfl, ?_⟩) hS ?_
       · intro w5 hSw
         clear hSw hS
         go_simp
       simp only [pA, pB, pC, pD]
       refine wpAnyH_take (i := 8) (oi := ⟨some 17, .index 9 (.tmp 15) (.tmp 16), 5, "target.go:52", #[eD 6, eD 7, eG 5], some (5, true)⟩) (v := vb x) rfl (by kernel_rfl) (by kernel_rfl) (by kernel_rfl) (fun _ _ _ h => h) (Or.inl ⟨by kernel_rfl, ?_⟩) hS ?_
       · intro w5 hSw
         clear hSw hS
         go_simp
       simp only [pA, pB, pC, pD]
       refine wpAnyH_take (i := 9) (oi := ⟨some 18, .binOp .neq 5 (.tmp 17) (.const (.int .u8 37)) 5, 4, "target.go:52", #[eD 8, eG 5], some (5, true)⟩) (v := .bool true) rfl (by kernel_rfl) (by kernel_rfl) (by kernel_rfl) (fun _ _ _ h => h) (Or.inl ⟨by kernel_rfl, ?_⟩) hS ?_
       · intro w5 hSw
         clear hSw hS
         go_simp
       simp only [pA, pB, pC, pD]
       refine tN 10 (some 19) (.pick (.tmp 14) (.tmp 18) (.const (.bool false))) 4 (.bool true) hS ?_
       simp only [pA, pB, pC, pD]
       refine tN 11 (some 20) (.move (.tmp 19)) 4 (.bool true) hS ?_
       simp only [pA, pB, pC, pD]
       refine wpAnyH_take (i := 12) (oi := ⟨some 21, .move (.tmp 0), 9, "target.go:52", #[eG 11], some (11, true)⟩) (v := .string s) rfl (by kernel_rfl) (by kernel_rfl) (by kernel_rfl) (fun _ _ _ h => h) (Or.inl ⟨by kernel_rfl, ?_⟩) hS ?_
       · intro w5 hSw
         clear hSw hS
         go_simp
       simp only [pA, pB, pC, pD]
       refine wpAnyH_take (i := 13) (oi := ⟨some 22, .move (.tmp 3), 3, "target.go:52", #[eG 11], some (11, true)⟩) (v := .int .i64 (i : Int)) rfl (by kernel_rfl) (by kernel_rfl) (by kernel_rfl) (fun _ _ _ h => h) (Or.inl ⟨by kernel_rfl, ?_⟩) hS ?_
       · intro w5 hSw
         clear hSw hS
         go_simp
       simp only [pA, pB, pC, pD]
       refine wpAnyH_take (i := 14) (oi := ⟨some 23, .index 9 (.tmp 21) (.tmp 22), 5, "target.go:52", #[eD 12, eD 13, eG 11], some (11, true)⟩) (v := vb x) rfl (by kernel_rfl) (by kernel_rfl) (by kernel_rfl) (fun _ _ _ h => h) (Or.inl ⟨by kernel_rfl, ?_⟩) hS ?_
       · intro w5 hSw
         clear hSw hS
         go_simp
       simp only [pA, pB, pC, pD]
       refine wpAnyH_take (i := 15) (oi := ⟨some 24, .index 9 (.const (.string { data := #[63] })) (.const (.int .i64 0)), 5, "target.go:52", #[eG 11], some (11, true)⟩) (v := .int .u8 63) rfl (by kernel_rfl) (by kernel_rfl) (by kernel_rfl) (fun _ _ _ h => h) (Or.inl ⟨by kernel_rfl, ?_⟩) hS ?_
       · intro w5 hSw
         clear hSw hS
         (go_simp; rfl)
       simp only [pA, pB, pC, pD]
       refine wpAnyH_take (i := 16) (oi := ⟨some 25, .binOp .neq 5 (.tmp 23) (.tmp 24) 5, 4, "target.go:52", #[eD 14, eD 15, eG 11], some (11, true)⟩) (v := .bool false) rfl (by kernel_rfl) (by kernel_rfl) (by kernel_rfl) (fun _ _ _ h => h) (Or.inl ⟨by kernel_rfl, ?_⟩) hS ?_
       · intro w5 hSw
         clear hSw hS
         go_simp
       simp only [pA, pB, pC, pD]
       refine tN 17 (some 26) (.pick (.tmp 20) (.tmp 25) (.const (.bool false))) 4 (.bool false) hS ?_
       simp only [pA, pB, pC, pD]
       have HSY := Ho hS
       clear hS
       refine wpAnyH_done (by kernel_rfl) ?_ _
       go_wp2
       go_roundw
       all_goals first
        | exact ⟨i + 1, by go_num, by omega, Ho ⟨HU.o.1.trans HSY.o, by rw [HQ.o, HU.o.2, HY.o]; rfl⟩⟩
        | (simp [intOf]; omega)
      | false =>
       have HE := Ho (HF.o (by rw [hp, h1, h2]; rfl))
       rw [h2] at h63
       have b63 : ((x.toNat : Int) != 63) = true := by rw [bne, h63]; rfl
       go_wp2
       refine wp_region_held_drew (S := fun w2 => Up wr w2) (by kernel_rfl) (Up.refl _).drew (fun hS => ?_)
       refine tN 0 (some 9) (.move (.tmp 0)) 9 (.string s) hS ?_
       simp only [pA, pB, pC, pD]
       refine tN 1 (some 10) (.move (.tmp 3)) 3 (.int .i64 (i : Int)) hS ?_
       simp only [pA, pB, pC, pD]
       refine tN 2 (some 11) (.index 9 (.tmp 9) (.tmp 10)) 5 (vb x) hS ?_
       simp only [pA, pB, pC, pD]
       refine rD 3 (some 12) (.call ⟨.value (.func 145), #[.tmp 11], #[5]⟩) 4 fun _ _ K hK => ?_
       rw [if_pos (by kernel_rfl)]
       go_simp
       refine (HPh.o _).mono ?_
       rintro e w5 ⟨rfl, h9⟩
       obtain rfl := h9.symm
       clear h9
       dsimp only
       refine hK.out _ _ hS (fun hS => ?_)
       clear hK K
       refine tN 4 (some 13) (.unOp .not 4 (.tmp 12)) 4 (.bool true) hS ?_
       simp only [Act.put, pB, pC, pD]
       refine tN 5 (some 14) (.move (.tmp 13)) 4 (.bool true) hS ?_
       simp only [pA, pB, pC, pD]
       refine wpAnyH_take (i := 6) (oi := ⟨some 15, .move (.tmp 0), 9, "target.go:52", #[eG 5], some (5, true)⟩) (v := .string s) rfl (by kernel_rfl) (by kernel_rfl) (by kernel_rfl) (fun _ _ _ h => h) (Or.inl ⟨by kernel_rfl, ?_⟩) hS ?_
       · intro w5 hSw
         clear hSw hS
         go_simp
       simp only [pA, pB, pC, pD]
       refine wpAnyH_take (i := 7) (oi := ⟨some 16, .move (.tmp 3), 3, "target.go:52", #[eG 5], some (5, true)⟩) (v := .int .i64 (i : Int)) rfl (by kernel_rfl) (by kernel_rfl) (by kernel_rfl) (fun _ _ _ h => h) (Or.inl ⟨by kernel_rfl, ?_⟩) hS ?_
       · intro w5 hSw
         clear hSw hS
         go_simp
       simp only [pA, pB, pC, pD]
       refine wpAnyH_take (i := 8) (oi := ⟨some 17, .index 9 (.tmp 15) (.tmp 16), 5, "target.go:52", #[eD 6, eD 7, eG 5], some (5, true)⟩) (v := vb x) rfl (by kernel_rfl) (by kernel_rfl) (by kernel_rfl) (fun _ _ _ h => h) (Or.inl ⟨by kernel_rfl, ?_⟩) hS ?_
       · intro w5 hSw
         clear hSw hS
         go_simp
       simp only [pA, pB, pC, pD]
       refine wpAnyH_take (i := 9) (oi := ⟨some 18, .binOp .neq 5 (.tmp 17) (.const (.int .u8 37)) 5, 4, "target.go:52", #[eD 8, eG 5], some (5, true)⟩) (v := .bool true) rfl (by kernel_rfl) (by kernel_rfl) (by kernel_rfl) (fun _ _ _ h => h) (Or.inl ⟨by kernel_rfl, ?_⟩) hS ?_
       · intro w5 hSw
         clear hSw hS
         go_simp
       simp only [pA, pB, pC, pD]
       refine tN 10 (some 19) (.pick (.tmp 14) (.tmp 18) (.const (.bool false))) 4 (.bool true) hS ?_
       simp only [pA, pB, pC, pD]
       refine tN 11 (some 20) (.move (.tmp 19)) 4 (.bool true) hS ?_
       simp only [pA, pB, pC, pD]
       refine wpAnyH_take (i := 12) (oi := ⟨some 21, .move (.tmp 0), 9, "target.go:52", #[eG 11], some (11, true)⟩) (v := .string s) rfl (by kernel_rfl) (by kernel_rfl) (by kernel_rfl) (fun _ _ _ h => h) (Or.inl ⟨by kernel_rfl, ?_⟩) hS ?_
       · intro w5 hSw
         clear hSw hS
         go_simp
       simp only [pA, pB, pC, pD]
       refine wpAnyH_take (i := 13) (oi := ⟨some 22, .move (.tmp 3), 3, "target.go:52", #[eG 11], some (11, true)⟩) (v := .int .i64 (i : Int)) rfl (by kernel_rfl) (by kernel_rfl) (by kernel_rfl) (fun _ _ _ h => h) (Or.inl ⟨by kernel_rfl, ?_⟩) hS ?_
       · intro w5 hSw
         clear hSw hS
         go_simp
       simp only [pA, pB, pC, pD]
       refine wpAnyH_take (i := 14) (oi := ⟨some 23, .index 9 (.tmp 21) (.tmp 22), 5, "target.go:52", #[eD 12, eD 13, eG 11], some (11, true)⟩) (v := vb x) rfl (by kernel_rfl) (by kernel_rfl) (by kernel_rfl) (fun _ _ _ h => h) (Or.inl ⟨by kernel_rfl, ?_⟩) hS ?_
       · intro w5 hSw
         clear hSw hS
         go_simp
       simp only [pA, pB, pC, pD]
       refine wpAnyH_take (i := 15) (oi := ⟨some 24, .index 9 (.const (.string { data := #[63] })) (.const (.int .i64 0)), 5, "target.go:52", #[eG 11], some (11, true)⟩) (v := .int .u8 63) rfl (by kernel_rfl) (by kernel_rfl) (by kernel_rfl) (fun _ _ _ h => h) (Or.inl ⟨by kernel_rfl, ?_⟩) hS ?_
       · intro w5 hSw
         clear hSw hS
         (go_simp; rfl)
       simp only [pA, pB, pC, pD]
       refine wpAnyH_take (i := 16) (oi := ⟨some 25, .binOp .neq 5 (.tmp 23) (.tmp 24) 5, 4, "target.go:52", #[eD 14, eD 15, eG 11], some (11, true)⟩) (v := .bool true) rfl (by kernel_rfl) (by kernel_rfl) (by kernel_rfl) (fun _ _ _ h => h) (Or.inl ⟨by kernel_rfl, ?_⟩) hS ?_
       · intro w5 hSw
         clear hSw hS
         go_simp
       simp only [pA, pB, pC, pD]
       refine tN 17 (some 26) (.pick (.tmp 20) (.tmp 25) (.const (.bool false))) 4 (.bool true) hS ?_
       simp only [pA, pB, pC, pD]
       have HSY := Ho hS
       clear hS
       refine wpAnyH_done (by kernel_rfl) ?_ _
       go_wp2
       go_ret
       rw [HE.o]
       exact ⟨rfl, HU.o.1.trans HSY.o⟩
  have hilz : ¬ (i : Int) < (s.size : Int) := by omega
  have HT := Ho (show r = true by
   rw [← HR.o]
   have h1 := HU.o.2
   rw [List.take_of_length_le (by rw [← HS.o]; omega)] at h1
   exact h1)
  go_wp2
  go_ret
  rw [HT.o]
  exact ⟨rfl, HU.o.1⟩
def une : List UInt8 → Option (List UInt8)
 | [] => some []
 | c :: r => if c = 37 then
    match r with
    | a :: b :: q => if trk a b = true then (une q).map (trb a b :: ·) else none
    | _ => none
   else if pl c = true then (une r).map (c :: ·) else none
theorem une_pl {c : UInt8} {r : List UInt8} (h : c ≠ 37) (hp : pl c = true) : une (c :: r) = (une r).map (c :: ·) := by
 match r with
 | [] => simp [une, h, hp]
 | [a] => rw [une, if_neg h, if_pos hp]; intro _ _ _ e; cases e
 | a :: b :: q => rw [une, if_neg h, if_pos hp]
theorem une_no {c : UInt8} {r : List UInt8} (h : c ≠ 37) (hp : pl c = false) : une (c :: r) = none := by
 match r with
 | [] => rw [une, if_neg h, if_neg (by rw [hp]; simp)]; intro _ _ _ e; cases e
 | [a] => rw [une, if_neg h, if_neg (by rw [hp]; simp)]; intro _ _ _ e; cases e
 | a :: b :: q => rw [une, if_neg h, if_neg (by rw [hp]; simp)]
theorem une_tri {a b : UInt8} {q : List UInt8} (h : trk a b = true) : une (37 :: a :: b :: q) = (une q).map (trb a b :: ·) := by
 rw [une, if_pos rfl]
 simp only [h, if_true]
theorem une_tri_no {a b : UInt8} {q : List UInt8} (h : trk a b = false) : une (37 :: a :: b :: q) = none := by
 rw [une, if_pos rfl]
 simp only [h]
 rfl
theorem une_end {r : List UInt8} (h : r.length < 2) : une (37 :: r) = none := by
 match r, h with
 | [], _ => rw [une, if_pos rfl]; intro _ _ _ e; cases e
 | [a], _ => rw [une, if_pos rfl]; intro _ _ _ e; cases e
def hxd (n : Nat) : UInt8 := [48, 49, 50, 51, 52, 53, 54, 55, 56, 57, 65, 66, 67, 68, 69, 70].getD n 0
def ec (c : UInt8) : List UInt8 := if pl c = true then [c] else [37, hxd (c.toNat / 16), hxd (c.toNat % 16)]
def escX (l : List UInt8) : List UInt8 := l.flatMap ec
theorem esc_take {l : List UInt8} {i : Nat} (h : i < l.length) : escX (l.take (i + 1)) = escX (l.take i) ++ ec l[i] := by
 unfold escX
 rw [List.take_succ_eq_append_getElem h, List.flatMap_append]
 simp
theorem esc_len (l : List UInt8) : (escX l).length ≤ 3 * l.length := by
 induction l with
 | nil => exact Nat.zero_le _
 | cons c r ih =>
  unfold escX at *
  rw [List.flatMap_cons, List.length_append, List.length_cons]
  have : (ec c).length ≤ 3 := by unfold ec; split <;> simp
  omega
theorem wpList_app1X {w : World} {N q : Nat} {ops : Array Oper} {rest : List Oper} {o : Oper} {a : Act} {Q : Exit → Act → World → Prop} (hgd : o.guard = none) (x y : Operand)
  (ho : o.op = .call { callee := .builtin .append, args := #[x, y], argTypes := #[22, 22] }) (ax : Option Addr) (cx : Nat) (xs : List UInt8) (b : UInt8) (hx : a.eval x = .slice ax q cx) (hy : a.eval y = .slice (some ⟨w.heap.size, 0, none⟩) 1 1)
  (hR : w.ownsRow N 5 1 (.slice ax q cx) q (cb xs)) (hNw : N ≤ w.heap.size) (hql : q ≤ 1099511627776)
  (K : ∀ ax2 cx2 w', w'.ownsRow N 5 1 (.slice ax2 (q + 1) cx2) (q + 1) (cb (xs ++ [b])) → (∀ W, Up W w → W.heap.size ≤ N → Up W w') → w.grownBy w' (Value.slice ax q cx).ownBlock → wpList Tryz.prog ops Q rest (a.put o.dst (.slice ax2 (q + 1) cx2)) w') :
  wpList Tryz.prog ops Q (o :: rest) a (w.alloc (.cells #[.int .u8 (b.toNat : Int)] 5)) := by
 obtain ⟨i0, hi0, hz0, hz1, hz2⟩ := info_parts Tryz.infoU8
 have HUx := (Up.refl w).alloc (.cells #[.int .u8 (b.toNat : Int)] 5)
 refine wpList_append_frs hgd x y 22 ho N 5 i0 (.int .u8 0) 1 Tryz.underlying22 hi0 hz0 hz1 hz2 rfl _ q _ hx (ow_up hR HUx) ⟨w.heap.size, 0, none⟩ 1 1 [.int .u8 (b.toNat : Int)] hy rfl ?_ ?_ (by simp only [maxLen]; omega) (by omega) (Nat.le_trans hNw HUx.size) ?_
 · intro j u hu
   rw [Addr.add_lit]
   exact At.cell (at_new w 5 [.int .u8 (b.toNat : Int)]) (i := 0 + j) (by rw [Nat.zero_add]; exact hu)
 · intro u hu
   obtain rfl := List.mem_singleton.1 hu
   rfl
 intro v8 w8 o8 g8 _
 obtain ⟨a4, c4, rfl⟩ := row_len o8
 refine K a4 c4 w8 (by rw [cb_snoc]; exact o8) (fun W hU hW => up_grownBy (hU.trans HUx) g8 (fun g hg => Nat.le_trans hW (World.ownsRow.lt hR g hg).1)) (up_grown HUx g8)
theorem wpList_mkX {ops : Array Oper} {rest : List Oper} {o : Oper} {a : Act} {w : World} {Q : Exit → Act → World → Prop} (hg : o.guard = none) (l c : Operand) (hop : o.op = Op.makeSlice 22 l c)
  (kl kc : IntKind) (C : Int) (n : Nat) (hl : a.eval l = .int kl 0) (hc : a.eval c = .int kc C) (hC : C = (n : Int)) (hn : n ≤ 140737488355328)
  (hK : ∀ w', Ow w' w.heap.size (.slice (some ⟨w.heap.size, 0, none⟩) 0 n) [] → Up w w' → wpList Tryz.prog ops Q rest (a.put o.dst (.slice (some ⟨w.heap.size, 0, none⟩) 0 n)) w') : wpList Tryz.prog ops Q (o :: rest) a w := by
 obtain ⟨i0, hi, hz0, hz1, hz2⟩ := info_parts Tryz.infoU8
 refine wpList_make_own w hg l c 22 hop w.heap.size 5 i0 (.int .u8 0) 1 Tryz.underlying22 hi hz0 hz1 kl kc C n hl hc hC (by rw [hz2]; omega) (by unfold maxLen; omega) (Nat.le_refl _) ?_
 intro w' h1 h2
 exact hK w' h1 ((Below.refl _ w).grown h2 (Nat.le_refl _) (fun k hk => by cases hk))
theorem ext_drop (s : ByteArray) (k : Nat) : (s.extract k s.size).data.toList = s.data.toList.drop k := by
 have hz : s.size = s.data.toList.length := Go.Lib.size_eq s
 rw [ByteArray.data_extract, Array.toList_extract, List.extract_eq_drop_take', List.take_of_length_le (by rw [← hz]; exact Nat.le_refl _)]
def unR (l : List UInt8) : Value := match une l with
 | some p => .tuple #[vs p, .bool true]
 | none => .tuple #[.string ⟨#[]⟩, .bool false]
theorem unR_none {l : List UInt8} (h : une l = none) : unR l = .tuple #[.string ⟨#[]⟩, .bool false] := by unfold unR; rw [h]
theorem unR_some {l p : List UInt8} (h : une l = some p) : unR l = .tuple #[vs p, .bool true] := by unfold unR; rw [h]
set_option maxRecDepth 100000 in
set_option maxHeartbeats 2000000 in
theorem unescape_walk (s0 : ByteArray) (hs : s0.size ≤ 1099511627776) (w : World) : Calls Tryz.prog 141 #[.string s0] w fun e w' => e = .returned (unR s0.data.toList) ∧ Up w w' := by
 obtain ⟨L0, hL0⟩ := ny s0.data.toList
 have HL0 := Ho hL0
 have HSz := Ho (show s0.size = L0.length by rw [← hL0]; exact Go.Lib.size_eq s0)
 rw [hL0]
 clear hL0
 go_enter Tryz.func141, Tryz.ntmps141
 go_wp2_with (with_reducible show wpList _ _ _ (⟨_, .makeSlice 22 _ _, _, _, _, _⟩ :: _) _ _; refine Shut.out ?_)
 show wpList _ _ _ _ _ _
 refine wpList_mkX rfl _ _ rfl .i64 .i64 (s0.size : Int) s0.size rfl rfl rfl (by omega) ?_
 intro w1 o1 u1
 have HO1 := Ho o1
 have HU1 := Ho u1
 clear o1 u1
 generalize hb0 : w.heap.size = bb at *
 have HBB := Ho hb0
 clear hb0
 simp only [Act.put, List.setIfInBounds_toArray]
 go_wp2
 go_loopw [0, 4] (fun v0 v4 wr => ∃ (s : ByteArray) (n : Nat) (a4 : Option Addr) (c4 : Nat) (p : List UInt8), v0 = .string s ∧ v4 = .slice a4 n c4 ∧ List.length p = n ∧ s.size + n ≤ s0.size ∧ Hd (wr.ownsRow bb 5 1 (.slice a4 n c4) n (cb p) ∧ Up w wr ∧ une L0 = (une s.data.toList).map (p ++ ·))) (fun v0 _ _ => match v0 with | .string s => s.size | _ => 0)
 case atStart => exact ⟨s0, 0, some ⟨bb, 0, none⟩, s0.size, [], rfl, rfl, rfl, by omega, Ho ⟨HO1.o, HU1.o, by rw [HL0.o]; cases une L0 <;> rfl⟩⟩
 case round =>
  obtain ⟨s, n, a4, c4, p, rfl, rfl, hpn, hsn, hQ⟩ := hrel
  have HQ := Ho hQ.o
  have HPN := Ho hpn
  clear hQ hpn
  have hbw : bb ≤ wr.heap.size := by have := HQ.o.2.1.size; have := HBB.o; omega
  by_cases h0 : s.size = 0
  · have hse : s.data.toList = [] := List.eq_nil_of_length_eq_zero (by rw [← Go.Lib.size_eq]; exact h0)
    have hnz : (s.toList.isEmpty) = true := by rw [Go.Lib.toList_data, hse]; rfl
    have HE := Ho (show unR L0 = .tuple #[vs p, .bool true] from unR_some (by rw [HQ.o.2.2, hse, une]; simp))
    have hSb : Sb wr (.slice a4 n c4) p := by
     have h1 := HQ.o.1
     rw [← HPN.o] at h1 ⊢
     exact Ow.sb (B := bb) h1
    have hcv := conv_sb2 hSb
    clear hSb
    go_wp2
    go_ret2
    rw [HE.o]
    exact ⟨rfl, HQ.o.2.1⟩
  have hnz : (s.toList.isEmpty) = false := by rw [Go.Lib.toList_data]; cases h : s.data.toList with | nil => exact absurd (by rw [Go.Lib.size_eq, h]; rfl) h0 | cons a b => rfl
  have h0z : (0 : Int) < (s.size : Int) := by omega
  obtain ⟨r, hr⟩ := head_of' (s := s) (by omega)
  have hrl : r.length + 1 = s.size := by have := congrArg List.length hr; rw [← Go.Lib.size_eq] at this; simpa using this.symm
  have HR := Ho hr
  clear hr
  obtain ⟨c, hc⟩ := ny (s[0])
  rw [hc] at HR
  have h37 : ((c.toNat : Int) == 37) = (c == 37) := u8_eq (a := c) (b := 37)
  by_cases hpc : c = 37
  · have h37t : ((c.toNat : Int) == 37) = true := by rw [h37, beq_iff_eq]; exact hpc
    clear h37
    by_cases h3 : 3 ≤ s.size
    · obtain ⟨x, y, q, hq⟩ : ∃ x y q, r = x :: y :: q := by
       match r, hrl with
       | [], h => simp at h; omega
       | [a], h => simp at h; omega
       | a :: b :: q, _ => exact ⟨a, b, q, rfl⟩
      have hlst : s.data.toList = c :: x :: y :: q := by rw [HR.o, hq]
      have hs1 : s[1] = x := by rw [sget' s 1 (by omega)]; simp [hlst]
      have hs2 : s[2] = y := by rw [sget' s 2 (by omega)]; simp [hlst]
      have HRT := Ho (readTriple_walk s h3 wr)
      rw [hs1, hs2] at HRT
      have HLs := Ho hlst
      have HDr := Ho (show (s.extract 3 s.size).data.toList = q by rw [ext_drop, hlst]; rfl)
      clear hlst hs1 hs2 hq
      cases ht : trk x y with
      | false =>
       have HE := Ho (show unR L0 = .tuple #[.string ⟨#[]⟩, .bool false] from unR_none (by rw [HQ.o.2.2, HLs.o, hpc, une_tri_no ht]; rfl))
       rw [ht] at HRT
       go_wp2_with fail
       refine HRT.o.mono ?_
       rintro e w9 ⟨rfl, h9⟩
       obtain rfl := h9.symm
       clear h9
       dsimp only
       go_wp2
       go_ret2
       rw [HE.o]
       exact ⟨rfl, HQ.o.2.1⟩
      | true =>
       have HN := Ho (show une s.data.toList = (une (s.extract 3 s.size).data.toList).map (trb x y :: ·) by rw [HDr.o, HLs.o, hpc, une_tri ht])
       rw [ht] at HRT
       generalize trb x y = t at *
       have hz3 : (3 : Int) ≤ (s.size : Int) := by omega
       go_wp2_with fail
       refine HRT.o.mono ?_
       rintro e w9 ⟨rfl, h9⟩
       obtain rfl := h9.symm
       clear h9
       dsimp only
       go_wp2
       refine wp_region_held_drew (S := fun w2 => Up w w2) (by kernel_rfl) HQ.o.2.1.drew (fun hS => ?_)
       refine tN 0 (some 29) (.move (.tmp 4)) 22 (.slice a4 n c4) hS ?_
       simp only [Act.put, pB, pC, pD]
       refine tN 1 (some 30) (.move (.tmp 5)) 5 (vb t) hS ?_
       simp only [pA, pB, pC, pD]
       refine tN 4 (some 33) (.move (.tmp 0)) 9 (.string s) hS ?_
       simp only [pA, pB, pC, pD]
       refine tN 5 (some 34) (.move (.tmp 6)) 3 (.int .i64 3) hS ?_
       simp only [pA, pB, pC, pD]
       refine tN 6 (some 35) (.slice 9 (.tmp 33) (some (.tmp 34)) none none) 9 (.string (s.extract 3 s.size)) hS ?_
       simp only [pA, pB, pC, pD]
       refine rD 2 (some 31) (.buildSlice 22 1 #[(0, .tmp 30)]) 22 fun _ _ K hK => ?_
       rw [if_pos (by kernel_rfl)]
       go_simp
       refine hK.out _ _ (hS.alloc _) (fun hS => ?_)
       clear hK K
       refine rD 3 (some 32) (.call ⟨.builtin .append, #[.tmp 29, .tmp 31], #[22, 22]⟩) 22 fun _ _ K hK => oper_of_list ?_
       refine wpList_app1X (w := wr.drew) (N := bb) rfl _ _ rfl a4 c4 p t rfl rfl (ow_up HQ.o.1 (Up.refl _).drew) (by exact hbw) (by omega) ?_
       intro a5 c5 w5 o5 u5 _
       have HO5 := Ho o5
       have HU5 := Ho (u5 w HQ.o.2.1.drew (by rw [HBB.o]; exact Nat.le_refl _))
       clear o5 u5
       refine hK.out _ _ HU5.o (fun hS => ?_)
       clear hK K
       simp only [Act.put, pB, pC, pD]
       refine tN 7 (some 4) (.assign (.tmp 32)) 22 (.slice a5 (n + 1) c5) hS ?_
       simp only [pA, pB, pC, pD]
       refine tN 8 (some 0) (.assign (.tmp 35)) 9 (.string (s.extract 3 s.size)) hS ?_
       simp only [Act.put, List.setIfInBounds_toArray, List.set_cons_zero]
       clear hS
       refine wpAnyH_done (by kernel_rfl) ?_ _
       go_wp2
       go_roundw
       all_goals first
        | exact ⟨s.extract 3 s.size, n + 1, a5, c5, p ++ [t], rfl, rfl, by rw [List.length_append, HPN.o]; rfl, by rw [ByteArray.size_extract]; omega, Ho ⟨HO5.o, HU5.o, by rw [HQ.o.2.2, HN.o]; cases une _ <;> simp⟩⟩
        | (simp only [ByteArray.size_extract]; omega)
    have HE := Ho (show unR L0 = .tuple #[.string ⟨#[]⟩, .bool false] from unR_none (by rw [HQ.o.2.2, HR.o, hpc, une_end (by omega)]; rfl))
    have HRT := Ho (readTriple_short s (by omega) wr)
    go_wp2_with fail
    refine HRT.o.mono ?_
    rintro e w9 ⟨rfl, h9⟩
    obtain rfl := h9.symm
    clear h9
    dsimp only
    go_wp2
    go_ret2
    rw [HE.o]
    exact ⟨rfl, HQ.o.2.1⟩
  have h37t : ((c.toNat : Int) == 37) = false := by rw [h37, beq_eq_false_iff_ne]; exact hpc
  clear h37
  have HP := Ho (isPlain_walk c wr)
  cases hpl : pl c with
  | false =>
   have HE := Ho (show unR L0 = .tuple #[.string ⟨#[]⟩, .bool false] from unR_none (by rw [HQ.o.2.2, HR.o, une_no hpc hpl]; rfl))
   rw [hpl] at HP
   go_wp2_with fail
   refine HP.o.mono ?_
   rintro e w9 ⟨rfl, h9⟩
   obtain rfl := h9.symm
   clear h9
   dsimp only
   go_wp2
   go_ret2
   rw [HE.o]
   exact ⟨rfl, HQ.o.2.1⟩
  | true =>
   have HN := Ho (show une s.data.toList = (une (s.extract 1 s.size).data.toList).map (c :: ·) by rw [ext_drop, HR.o, une_pl hpc hpl]; rfl)
   rw [hpl] at HP
   have hz1 : (1 : Int) ≤ (s.size : Int) := by omega
   go_wp2_with fail
   refine HP.o.mono ?_
   rintro e w9 ⟨rfl, h9⟩
   obtain rfl := h9.symm
   clear h9
   dsimp only
   go_wp2
   refine wp_region_held_drew (S := fun w2 => Up w w2) (by kernel_rfl) HQ.o.2.1.drew (fun hS => ?_)
   refine tN 0 (some 29) (.move (.tmp 4)) 22 (.slice a4 n c4) hS ?_
   simp only [pA, pB, pC, pD]
   refine tN 1 (some 30) (.move (.tmp 5)) 5 (vb c) hS ?_
   simp only [pA, pB, pC, pD]
   refine tN 4 (some 33) (.move (.tmp 0)) 9 (.string s) hS ?_
   simp only [pA, pB, pC, pD]
   refine tN 5 (some 34) (.move (.tmp 6)) 3 (.int .i64 1) hS ?_
   simp only [pA, pB, pC, pD]
   refine tN 6 (some 35) (.slice 9 (.tmp 33) (some (.tmp 34)) none none) 9 (.string (s.extract 1 s.size)) hS ?_
   simp only [pA, pB, pC, pD]
   refine rD 2 (some 31) (.buildSlice 22 1 #[(0, .tmp 30)]) 22 fun _ _ K hK => ?_
   rw [if_pos (by kernel_rfl)]
   go_simp
   refine hK.out _ _ (hS.alloc _) (fun hS => ?_)
   clear hK K
   refine rD 3 (some 32) (.call ⟨.builtin .append, #[.tmp 29, .tmp 31], #[22, 22]⟩) 22 fun _ _ K hK => oper_of_list ?_
   refine wpList_app1X (w := wr.drew) (N := bb) rfl _ _ rfl a4 c4 p c rfl rfl (ow_up HQ.o.1 (Up.refl _).drew) (by exact hbw) (by omega) ?_
   intro a5 c5 w5 o5 u5 _
   have HO5 := Ho o5
   have HU5 := Ho (u5 w HQ.o.2.1.drew (by rw [HBB.o]; exact Nat.le_refl _))
   clear o5 u5
   refine hK.out _ _ HU5.o (fun hS => ?_)
   clear hK K
   simp only [Act.put, pB, pC, pD]
   refine tN 7 (some 4) (.assign (.tmp 32)) 22 (.slice a5 (n + 1) c5) hS ?_
   simp only [pA, pB, pC, pD]
   refine tN 8 (some 0) (.assign (.tmp 35)) 9 (.string (s.extract 1 s.size)) hS ?_
   simp only [Act.put, List.setIfInBounds_toArray, List.set_cons_zero]
   clear hS
   refine wpAnyH_done (by kernel_rfl) ?_ _
   go_wp2
   go_roundw
   all_goals first
    | exact ⟨s.extract 1 s.size, n + 1, a5, c5, p ++ [c], rfl, rfl, by rw [List.length_append, HPN.o]; rfl, by rw [ByteArray.size_extract]; omega, Ho ⟨HO5.o, HU5.o, by rw [HQ.o.2.2, HN.o]; cases une _ <;> simp⟩⟩
    | (simp only [ByteArray.size_extract]; omega)
theorem wpList_app3 {w : World} {N q : Nat} {ops : Array Oper} {rest : List Oper} {o : Oper} {a : Act} {Q : Exit → Act → World → Prop} (hgd : o.guard = none) (x y : Operand)
  (ho : o.op = .call { callee := .builtin .append, args := #[x, y], argTypes := #[22, 22] }) (ax : Option Addr) (cx : Nat) (xs : List UInt8) (b b2 b3 : UInt8) (hx : a.eval x = .slice ax q cx) (hy : a.eval y = .slice (some ⟨w.heap.size, 0, none⟩) 3 3)
  (hR : w.ownsRow N 5 1 (.slice ax q cx) q (cb xs)) (hNw : N ≤ w.heap.size) (hql : q ≤ 1099511627776)
  (K : ∀ ax2 cx2 w', w'.ownsRow N 5 1 (.slice ax2 (q + 3) cx2) (q + 3) (cb (xs ++ [b, b2, b3])) → (∀ W, Up W w → W.heap.size ≤ N → Up W w') → wpList Tryz.prog ops Q rest (a.put o.dst (.slice ax2 (q + 3) cx2)) w') :
  wpList Tryz.prog ops Q (o :: rest) a (w.alloc (.cells #[.int .u8 (b.toNat : Int), .int .u8 (b2.toNat : Int), .int .u8 (b3.toNat : Int)] 5)) := by
 obtain ⟨i0, hi0, hz0, hz1, hz2⟩ := info_parts Tryz.infoU8
 have HUx := (Up.refl w).alloc (.cells #[.int .u8 (b.toNat : Int), .int .u8 (b2.toNat : Int), .int .u8 (b3.toNat : Int)] 5)
 refine wpList_append_frs hgd x y 22 ho N 5 i0 (.int .u8 0) 1 Tryz.underlying22 hi0 hz0 hz1 hz2 rfl _ q _ hx (ow_up hR HUx) ⟨w.heap.size, 0, none⟩ 3 3 [.int .u8 (b.toNat : Int), .int .u8 (b2.toNat : Int), .int .u8 (b3.toNat : Int)] hy rfl ?_ ?_ (by simp only [maxLen]; omega) (by omega) (Nat.le_trans hNw HUx.size) ?_
 · intro j u hu
   rw [Addr.add_lit]
   exact At.cell (at_new w 5 [.int .u8 (b.toNat : Int), .int .u8 (b2.toNat : Int), .int .u8 (b3.toNat : Int)]) (i := 0 + j) (by rw [Nat.zero_add]; exact hu)
 · intro u hu
   simp only [List.mem_cons, List.not_mem_nil, or_false] at hu
   rcases hu with rfl | rfl | rfl <;> rfl
 intro v8 w8 o8 g8 _
 obtain ⟨a4, c4, rfl⟩ := row_len o8
 refine K a4 c4 w8 (by rw [cb_append]; exact o8) (fun W hU hW => up_grownBy (hU.trans HUx) g8 (fun g hg => Nat.le_trans hW (World.ownsRow.lt hR g hg).1))
def hexs : ByteArray := ⟨#[48, 49, 50, 51, 52, 53, 54, 55, 56, 57, 65, 66, 67, 68, 69, 70]⟩
theorem idx_hex (w : World) : ∀ k : Nat, k < 16 → (Instr.index 9 (.string hexs) (.int .u8 (k : Int))).run Tryz.prog w = .ok (vb (hxd k)) w
 | 0, _ => by kernel_rfl
 | 1, _ => by kernel_rfl
 | 2, _ => by kernel_rfl
 | 3, _ => by kernel_rfl
 | 4, _ => by kernel_rfl
 | 5, _ => by kernel_rfl
 | 6, _ => by kernel_rfl
 | 7, _ => by kernel_rfl
 | 8, _ => by kernel_rfl
 | 9, _ => by kernel_rfl
 | 10, _ => by kernel_rfl
 | 11, _ => by kernel_rfl
 | 12, _ => by kernel_rfl
 | 13, _ => by kernel_rfl
 | 14, _ => by kernel_rfl
 | 15, _ => by kernel_rfl
 | k + 16, h => absurd h (by omega)
theorem exec_hex {o : Oper} {ρ : Operand → Value} {x y : Operand} {w : World} (k : Nat) (hk : k < 16) (ho : o.op = .index 9 x y) (hx : ρ x = .string hexs) (hy : ρ y = .int .u8 (k : Int)) : (execOp ρ o).run Tryz.prog w = .ok (.value (vb (hxd k))) w := by
 have h := idx_hex w k hk
 unfold execOp
 simp only [ho, hx, hy]
 go_simp
theorem and15X : ∀ n : Nat, n < 256 → bits BinOp.and IntKind.u8 (n : Int) 15 = ((n % 16 : Nat) : Int) := by decide +kernel
theorem exec_and {o : Oper} {ρ : Operand → Value} {x y : Operand} {w : World} (c : UInt8) (ho : o.op = .binOp .and 5 x y 5) (hx : ρ x = vb c) (hy : ρ y = .int .u8 15) : (execOp ρ o).run Tryz.prog w = .ok (.value (.int .u8 ((c.toNat % 16 : Nat) : Int))) w := by
 have h := and15X c.toNat c.toNat_lt
 have hl := c.toNat_lt
 unfold execOp
 simp only [ho, hx, hy]
 go_simp
theorem exec_shr {o : Oper} {ρ : Operand → Value} {x y : Operand} {w : World} (c : UInt8) (ho : o.op = .binOp .shr 5 x y 215) (hx : ρ x = vb c) (hy : ρ y = .int .u64 4) : (execOp ρ o).run Tryz.prog w = .ok (.value (.int .u8 ((c.toNat / 16 : Nat) : Int))) w := by
 have hl := c.toNat_lt
 unfold execOp
 simp only [ho, hx, hy]
 go_simp
def hd47 : List UInt8 → Bool
 | [] => false
 | c :: _ => c == 47
theorem Pre47_walk (s : ByteArray) (w : World) : Calls Tryz.prog 142 #[.string s, .string ⟨#[47]⟩] w fun e w' => e = .returned (.bool (hd47 s.data.toList)) ∧ w' = w := by
 refine (Any.strings_HasPrefix Tryz.lays99 s ⟨#[47]⟩ w).mono ?_
 rintro e w' ⟨rfl, rfl⟩
 refine ⟨?_, rfl⟩
 have : Go.Lib.hasPrefix s.data.toList [47] = hd47 s.data.toList := by
  cases s.data.toList with
  | nil => rfl
  | cons c r => simp [Go.Lib.hasPrefix, hd47, List.isPrefixOf, Bool.beq_comm (a := (47 : UInt8))]
 rw [← this]
def eok (l : List UInt8) : Bool := hd47 l && l.all fun c => !ctl c
def esR (ad : Nat → Addr) (l : List UInt8) : Value := if eok l = true then .tuple #[vs (escX l), .nilIface] else .tuple #[.string ⟨#[]⟩, ev (ad 9)]
theorem esR_no {ad : Nat → Addr} {l : List UInt8} (h : eok l = false) : esR ad l = .tuple #[.string ⟨#[]⟩, ev (ad 9)] := by unfold esR; rw [if_neg (by rw [h]; simp)]
theorem esR_ok {ad : Nat → Addr} {l : List UInt8} (h : eok l = true) : esR ad l = .tuple #[vs (escX l), .nilIface] := by unfold esR; rw [if_pos h]
theorem all_take {l : List UInt8} {i : Nat} (h : i < l.length) : ((l.take (i + 1)).all fun c => !ctl c) = (((l.take i).all fun c => !ctl c) && !ctl l[i]) := by
 rw [List.take_succ_eq_append_getElem h, List.all_append]
 simp
set_option maxRecDepth 100000 in
set_option maxHeartbeats 2000000 in
theorem escape_walk (ad : Nat → Addr) (s : ByteArray) (hs : s.size ≤ 68719476736) (w : World) (h : GE w ad) : Calls Tryz.prog 114 #[.string s] w fun e w' => e = .returned (esR ad s.data.toList) ∧ Up w w' := by
 have HG := Ho h
 clear h
 obtain ⟨L, hL⟩ := ny s.data.toList
 have HLL := Ho hL
 have HS := Ho (show s.size = L.length by rw [← hL]; exact Go.Lib.size_eq s)
 have HP := Ho (Pre47_walk s w)
 rw [hL] at HP ⊢
 clear hL
 cases hh : hd47 L with
 | false =>
  have HE := Ho (show esR ad L = _ from esR_no (by unfold eok; rw [hh]; rfl))
  rw [hh] at HP
  go_enter Tryz.func114, Tryz.ntmps114
  go_wp2_with fail
  refine HP.o.mono ?_
  rintro e w9 ⟨rfl, h9⟩
  obtain rfl := h9.symm
  clear h9
  dsimp only
  go_wp2
  refine wp_region_held_drew (S := fun w2 => GE w2 ad ∧ Up w w2) (by kernel_rfl) ⟨HG.o.up (Up.refl w).drew, (Up.refl w).drew⟩ (fun hS => ?_)
  refine tK 0 (some 10) (.load 106 (.global 1)) 106 (ev (ad 9)) hS ?_ ?_
  · intro _ _ w5 hSw
    have hgl : w5.cell? ⟨1, 0, none⟩ = _ := hSw.1.gl 9 (by decide)
    clear hSw hS
    go_simp
  simp only [Act.put, pB, pC, pD]
  refine tN 1 (some 2) (.assign (.const (.string { data := #[] }))) 9 (.string ⟨#[]⟩) hS ?_
  simp only [pA, pB, pC, pD]
  refine tN 2 (some 3) (.assign (.tmp 10)) 106 (ev (ad 9)) hS ?_
  simp only [pA, pB, pC, pD]
  refine wpAnyH_done (by kernel_rfl) ?_ _
  have HS2 := Ho hS.2
  clear hS
  go_wp2
  go_ret2
  rw [HE.o]
  exact ⟨rfl, HS2.o⟩
 | true =>
  rw [hh] at HP
  go_enter Tryz.func114, Tryz.ntmps114
  go_wp2_with fail
  refine HP.o.mono ?_
  rintro e w9 ⟨rfl, h9⟩
  obtain rfl := h9.symm
  clear h9
  dsimp only
  go_wp2_with (with_reducible show wpList _ _ _ (⟨_, .makeSlice 22 _ _, _, _, _, _⟩ :: _) _ _; refine Shut.out ?_)
  show wpList _ _ _ _ _ _
  refine wpList_mkX rfl _ _ rfl .i64 .i64 (s.size : Int) s.size rfl rfl rfl (by omega) ?_
  intro w1 o1 u1
  have HO1 := Ho o1
  have HU1 := Ho u1
  clear o1 u1
  simp only [Act.put, List.setIfInBounds_toArray]
  simp only [List.set_cons_zero, List.set_cons_succ]
  go_wp2
  go_loopw [4, 16] (fun v4 v16 wr => ∃ (i n : Nat) (a4 : Option Addr) (c4 : Nat), v16 = .int .i64 (i : Int) ∧ i ≤ s.size ∧ v4 = .slice a4 n c4 ∧ n = (escX (L.take i)).length ∧ Hd (wr.ownsRow w.heap.size 5 1 (.slice a4 n c4) n (cb (escX (L.take i))) ∧ Up w wr ∧ ((L.take i).all fun c => !ctl c) = true)) (fun _ v16 _ => s.size - (intOf v16).toNat)
  case atStart => exact ⟨0, 0, some ⟨w.heap.size, 0, none⟩, s.size, rfl, Nat.zero_le _, rfl, rfl, Ho ⟨HO1.o, HU1.o, rfl⟩⟩
  case round =>
   obtain ⟨i, n, a4, c4, rfl, hi, rfl, hpn, hQ⟩ := hrel
   have HQ := Ho hQ.o
   have hn3 : n ≤ 3 * i := by
    have h1 := esc_len (L.take i)
    rw [List.length_take] at h1
    omega
   have HPN := Ho hpn
   clear hQ hpn
   by_cases hil : i < s.size
   · have hilz : (i : Int) < (s.size : Int) := by omega
     have hiL : i < L.length := by rw [← HS.o]; exact hil
     obtain ⟨x, hx⟩ := ny (L[i])
     have hg : s[i] = x := by
      rw [sget' s i hil, ← hx]
      simp only [HLL.o]
     have HT := Ho (esc_take hiL)
     have HAl := Ho (all_take hiL)
     have HMem := Ho (show x ∈ L by rw [← hx]; exact List.getElem_mem hiL)
     rw [hx] at HT HAl
     clear hx hiL
     have HC := Ho (isControl_walk x wr)
     have HPl := Ho (isPlain_walk x wr)
     have hxl := x.toNat_lt
     have hd16 : x.toNat / 16 < 16 := by omega
     have hm16 : x.toNat % 16 < 16 := by omega
     cases hct : ctl x with
     | true =>
      have HE := Ho (show esR ad L = _ from esR_no (by
       unfold eok
       rw [hh, Bool.true_and]
       cases ha : L.all fun c => !ctl c with
       | false => rfl
       | true => have := List.all_eq_true.1 ha x HMem.o; rw [hct] at this; cases this))
      rw [hct] at HC
      clear hd16 hm16
      go_wp2_with fail
      refine HC.o.mono ?_
      rintro e w9 ⟨rfl, h9⟩
      obtain rfl := h9.symm
      clear h9
      dsimp only
      go_wp2
      refine wp_region_held_drew (S := fun w2 => GE w2 ad ∧ Up w w2) (by kernel_rfl) ⟨HG.o.up HQ.o.2.1.drew, HQ.o.2.1.drew⟩ (fun hS => ?_)
      refine tK 0 (some 34) (.load 106 (.global 1)) 106 (ev (ad 9)) hS ?_ ?_
      · intro _ _ w5 hSw
        have hgl : w5.cell? ⟨1, 0, none⟩ = _ := hSw.1.gl 9 (by decide)
        clear hSw hS
        go_simp
      simp only [Act.put, pB, pC, pD]
      refine tN 1 (some 2) (.assign (.const (.string { data := #[] }))) 9 (.string ⟨#[]⟩) hS ?_
      simp only [pA, pB, pC, pD]
      refine tN 2 (some 3) (.assign (.tmp 34)) 106 (ev (ad 9)) hS ?_
      simp only [pA, pB, pC, pD]
      refine wpAnyH_done (by kernel_rfl) ?_ _
      have HS2 := Ho hS.2
      clear hS
      go_wp2
      go_ret2
      rw [HE.o]
      exact ⟨rfl, HS2.o⟩
     | false =>
      rw [hct] at HC
      cases hpl : pl x with
      | true =>
       have HEC := Ho (show ec x = [x] by unfold ec; rw [if_pos hpl])
       rw [hpl] at HPl
       clear hd16 hm16
       go_wp2_with fail
       refine HC.o.mono ?_
       rintro e w9 ⟨rfl, h9⟩
       obtain rfl := h9.symm
       clear h9
       dsimp only
       go_wp2_with fail
       refine HPl.o.mono ?_
       rintro e w9 ⟨rfl, h9⟩
       obtain rfl := h9.symm
       clear h9
       dsimp only
       go_wp2_with (with_reducible refine sA ?_)
       show wpList _ _ _ _ _ _
       refine wpList_app1X (N := w.heap.size) rfl _ _ rfl a4 c4 (escX (L.take i)) x rfl rfl HQ.o.1 HQ.o.2.1.size (by omega) ?_
       intro a5 c5 w5 o5 u5 _
       have HO5 := Ho o5
       have HU5 := Ho (u5 w HQ.o.2.1 (Nat.le_refl _))
       clear o5 u5
       simp only [Act.put, pB, pC, pD]
       go_wp2
       go_roundw
       all_goals first
        | exact ⟨i + 1, n + 1, a5, c5, by go_num, by omega, rfl, by rw [HT.o, HEC.o, List.length_append, ← HPN.o]; rfl, Ho ⟨by rw [HT.o, HEC.o]; exact HO5.o, HU5.o, by rw [HAl.o, hct]; simp [HQ.o.2.2]⟩⟩
        | (simp [intOf]; omega)
      | false =>
       have HEC := Ho (show ec x = [37, hxd (x.toNat / 16), hxd (x.toNat % 16)] by unfold ec; rw [if_neg (by rw [hpl]; simp)])
       rw [hpl] at HPl
       go_wp2_with fail
       refine HC.o.mono ?_
       rintro e w9 ⟨rfl, h9⟩
       obtain rfl := h9.symm
       clear h9
       dsimp only
       go_wp2_with fail
       refine HPl.o.mono ?_
       rintro e w9 ⟨rfl, h9⟩
       obtain rfl := h9.symm
       clear h9
       dsimp only
       go_wp2
       refine wp_region_held_drew (S := fun w2 => Up w w2) (by kernel_rfl) HQ.o.2.1.drew (fun hS => ?_)
       refine tN 0 (some 22) (.move (.tmp 4)) 22 (.slice a4 n c4) hS ?_
       simp only [pA, pB, pC, pD]
       refine tN 1 (some 23) (.move (.tmp 6)) 5 (vb x) hS ?_
       simp only [pA, pB, pC, pD]
       refine tK 2 (some 24) (.binOp .shr 5 (.tmp 23) (.const (.int .u64 4)) 215) 5 (.int .u8 ((x.toNat / 16 : Nat) : Int)) hS ?_ ?_
       · intro _ _ w5 hSw
         clear hSw hS
         exact exec_shr x rfl rfl rfl
       simp only [pA, pB, pC, pD]
       refine tK 3 (some 25) (.index 9 (.const (.string { data := #[48, 49, 50, 51, 52, 53, 54, 55, 56, 57, 65, 66, 67, 68, 69, 70] })) (.tmp 24)) 5 (vb (hxd (x.toNat / 16))) hS ?_ ?_
       · intro _ _ w5 hSw
         clear hSw hS
         exact exec_hex _ hd16 rfl rfl rfl
       simp only [pA, pB, pC, pD]
       refine tN 4 (some 26) (.move (.tmp 6)) 5 (vb x) hS ?_
       simp only [pA, pB, pC, pD]
       refine tK 5 (some 27) (.binOp .and 5 (.tmp 26) (.const (.int .u8 15)) 5) 5 (.int .u8 ((x.toNat % 16 : Nat) : Int)) hS ?_ ?_
       · intro _ _ w5 hSw
         clear hSw hS
         exact exec_and x rfl rfl rfl
       simp only [pA, pB, pC, pD]
       refine tK 6 (some 28) (.index 9 (.const (.string { data := #[48, 49, 50, 51, 52, 53, 54, 55, 56, 57, 65, 66, 67, 68, 69, 70] })) (.tmp 27)) 5 (vb (hxd (x.toNat % 16))) hS ?_ ?_
       · intro _ _ w5 hSw
         clear hSw hS
         exact exec_hex _ hm16 rfl rfl rfl
       simp only [pA, pB, pC, pD]
       refine rD 7 (some 29) (.buildSlice 22 3 #[(0, .const (.int .u8 37)), (1, .tmp 25), (2, .tmp 28)]) 22 fun _ _ K hK => ?_
       rw [if_pos (by kernel_rfl)]
       go_simp
       refine hK.out _ _ (hS.alloc _) (fun hS => ?_)
       clear hK K
       refine rD 8 (some 30) (.call ⟨.builtin .append, #[.tmp 22, .tmp 29], #[22, 22]⟩) 22 fun _ _ K hK => oper_of_list ?_
       refine wpList_app3 (w := wr.drew) (N := w.heap.size) rfl _ _ rfl a4 c4 (escX (L.take i)) 37 (hxd (x.toNat / 16)) (hxd (x.toNat % 16)) rfl rfl (ow_up HQ.o.1 (Up.refl _).drew) HQ.o.2.1.size (by omega) ?_
       intro a5 c5 w5 o5 u5
       have HO5 := Ho o5
       have HU5 := Ho (u5 w HQ.o.2.1.drew (Nat.le_refl _))
       clear o5 u5
       refine hK.out _ _ HU5.o (fun hS => ?_)
       clear hK K
       simp only [Act.put, pB, pC, pD]
       refine tN 9 (some 4) (.assign (.tmp 30)) 22 (.slice a5 (n + 3) c5) hS ?_
       simp only [pA, pB, pC, pD]
       clear hS
       refine wpAnyH_done (by kernel_rfl) ?_ _
       go_wp2
       go_roundw
       all_goals first
        | exact ⟨i + 1, n + 3, a5, c5, by go_num, by omega, rfl, by rw [HT.o, HEC.o, List.length_append, ← HPN.o]; rfl, Ho ⟨by rw [HT.o, HEC.o]; exact HO5.o, HU5.o, by rw [HAl.o, hct]; simp [HQ.o.2.2]⟩⟩
        | (simp [intOf]; omega)
   have hilz : ¬ (i : Int) < (s.size : Int) := by omega
   have HTk := Ho (show L.take i = L from List.take_of_length_le (by rw [← HS.o]; omega))
   have hSb : Sb wr (.slice a4 n c4) (escX (L.take i)) := by
    have h1 := HQ.o.1
    rw [HPN.o] at h1 ⊢
    exact Ow.sb (B := w.heap.size) h1
   have hcv := conv_sb2 hSb
   rw [HTk.o] at hcv
   have HE := Ho (show esR ad L = _ from esR_ok (by
    have h1 := HQ.o.2.2
    rw [HTk.o] at h1
    unfold eok
    rw [hh, h1]; rfl))
   clear hSb
   go_wp2
   go_ret2
   rw [HE.o]
   exact ⟨rfl, HQ.o.2.1⟩
end Go.Proofs.YtehnnlhoajdcaaaGreatDoor
namespace Go.Proofs.YtehnnlhoajdcaaaGreatDoor
open Go.RowKit Go.Shelf TextNum
set_option maxRecDepth 100000 in
theorem slCut_walkX (s : ByteArray) (hs : s.size ≤ 4398046511104) (c : UInt8) (w : World) : Calls Tryz.prog 173 #[.string s, .string ⟨#[c]⟩] w fun e w' => e = .returned (.tuple #[.string ⟨(Go.Lib.cut s.data.toList [c]).1.toArray⟩, .string ⟨(Go.Lib.cut s.data.toList [c]).2.1.toArray⟩, .bool (Go.Lib.cut s.data.toList [c]).2.2]) ∧ ∃ n, w' = w.drewN n := by
 have hix : Go.Lib.indexB s ⟨#[c]⟩ = Go.Lib.indexByte s.data.toList c := Go.Lib.index_one _ _
 have L : Lays.n219 Tryz.prog Tryz.lays145_ren := { Tryz.lays145 with }
 rcases Go.Lib.indexB_cases s ⟨#[c]⟩ with hx | ⟨i, hx, hroom⟩
 · obtain ⟨e1, e2, e3⟩ := Go.Lib.cutB_miss s ⟨#[c]⟩ hx
   rw [hix] at hx
   rw [show [c] = (⟨#[c]⟩ : ByteArray).data.toList from rfl, e1, e2, e3]
   clear e1 e2 e3 hix
   go_enter Tryz.func173, Tryz.ntmps173
   go_wp2_with fail
   refine (Any.stringslite_Index_one L s c w).mono ?_
   rintro e w' ⟨rfl, rfl⟩
   rw [hx]
   dsimp only
   go_wp2
   go_ret3
   exact ⟨rfl, 0, rfl⟩
 obtain ⟨e1, e2, e3⟩ := Go.Lib.cutB_hit s ⟨#[c]⟩ i hx
 rw [hix] at hx
 rw [show [c] = (⟨#[c]⟩ : ByteArray).data.toList from rfl, e1, e2, e3]
 have hr : i + 1 ≤ s.size := hroom
 have c1 : (0 : Int) ≤ ↑i := by omega
 have c2 : (↑i : Int) ≤ ↑s.size := by omega
 have c3 : (0 : Int) ≤ ↑i + 1 := by omega
 have c4 : (↑i + 1 : Int) ≤ ↑s.size := by omega
 have c5 : IntKind.i64.wrap ((i : Int) + 1) = (i : Int) + 1 := by
  simp only [IntKind.wrap, IntKind.signed, IntKind.bits]
  simp
  omega
 have mixed := L.mixed
 clear e1 e2 e3 hix hroom
 go_enter Tryz.func173, Tryz.ntmps173
 go_wp2_with fail
 refine (Any.stringslite_Index_one L s c w).mono ?_
 rintro e w' ⟨rfl, rfl⟩
 rw [hx]
 dsimp only
 go_wp2
 go_region_o
 go_wp2
 go_ret3
 exact ⟨rfl, 1, rfl⟩
set_option maxRecDepth 100000 in
theorem Cut1_walkX (s : ByteArray) (hs : s.size ≤ 4398046511104) (c : UInt8) (w : World) : Calls Tryz.prog 140 #[.string s, .string ⟨#[c]⟩] w fun e w' => e = .returned (.tuple #[.string ⟨(Go.Lib.cut s.data.toList [c]).1.toArray⟩, .string ⟨(Go.Lib.cut s.data.toList [c]).2.1.toArray⟩, .bool (Go.Lib.cut s.data.toList [c]).2.2]) ∧ ∃ n, w' = w.drewN n := by
 go_enter Tryz.func140, Tryz.ntmps140
 go_wp2_with fail
 refine (slCut_walkX s hs c w).mono ?_
 rintro e w' ⟨rfl, n, rfl⟩
 dsimp only
 go_wp2
 go_ret3
 exact ⟨rfl, n, rfl⟩
def cA (l : List UInt8) : List UInt8 := (Go.Lib.cut l [63]).1
def cQ (l : List UInt8) : List UInt8 := (Go.Lib.cut l [63]).2.1
theorem cA_len (l : List UInt8) : (cA l).length ≤ l.length ∧ (cQ l).length ≤ l.length := by
 unfold cA cQ Go.Lib.cut
 split <;> simp <;> omega
def pok (l : List UInt8) : Bool := (une (cA l)).isSome && (hd47 (cA l) && qok (cQ l))
def pth (l : List UInt8) : List UInt8 := (une (cA l)).getD []
def spR (ad : Nat → Addr) (l : List UInt8) : Value := if pok l = true then .tuple #[vs (pth l), vs (cQ l), .nilIface] else .tuple #[.string ⟨#[]⟩, .string ⟨#[]⟩, ev (ad 9)]
theorem spR_no {ad : Nat → Addr} {l : List UInt8} (h : pok l = false) : spR ad l = .tuple #[.string ⟨#[]⟩, .string ⟨#[]⟩, ev (ad 9)] := by unfold spR; rw [if_neg (by rw [h]; simp)]
theorem spR_ok {ad : Nat → Addr} {l : List UInt8} (h : pok l = true) : spR ad l = .tuple #[vs (pth l), vs (cQ l), .nilIface] := by unfold spR; rw [if_pos h]
set_option maxRecDepth 100000 in
set_option maxHeartbeats 2000000 in
theorem splitTarget_walk (ad : Nat → Addr) (s : ByteArray) (hs : s.size ≤ 1099511627776) (w : World) (h : GE w ad) : Calls Tryz.prog 113 #[.string s] w fun e w' => e = .returned (spR ad s.data.toList) ∧ Up w w' := by
 have HG := Ho h
 clear h
 have HCut := Ho (Cut1_walkX s (by omega) 63 w)
 have hAl := cA_len s.data.toList
 rw [← Go.Lib.size_eq] at hAl
 obtain ⟨L, hL⟩ := ny s.data.toList
 rw [hL] at HCut hAl ⊢
 clear hL
 obtain ⟨p, hp⟩ := ny (⟨(Go.Lib.cut L [63]).1.toArray⟩ : ByteArray)
 obtain ⟨q, hq⟩ := ny (⟨(Go.Lib.cut L [63]).2.1.toArray⟩ : ByteArray)
 rw [hp, hq] at HCut
 generalize (Go.Lib.cut L [63]).2.2 = bb at *
 have hpA : p.data.toList = cA L := by rw [← hp]; rfl
 have hqA : q.data.toList = cQ L := by rw [← hq]; rfl
 have HQv := Ho (show Value.string q = vs (cQ L) by rw [← hq]; rfl)
 clear hp hq
 have hps : p.size ≤ 1099511627776 := by rw [Go.Lib.size_eq, hpA]; omega
 have hqs : q.size ≤ 1099511627776 := by rw [Go.Lib.size_eq, hqA]; omega
 have HPA := Ho hpA
 have HQA := Ho hqA
 clear hpA hqA hAl
 go_enter Tryz.func113, Tryz.ntmps113
 go_wp2_with fail
 refine HCut.o.mono ?_
 rintro e w1 ⟨rfl, n, h9⟩
 have HU1 := Ho (show Up w w1 by rw [h9]; exact (Up.refl w).drewN n)
 clear h9
 dsimp only
 have HUn := Ho (unescape_walk p hps w1)
 rw [HPA.o] at HUn
 cases hu : une (cA L) with
 | none =>
  have HE := Ho (show spR ad L = _ from spR_no (by unfold pok; rw [hu]; rfl))
  rw [unR_none hu] at HUn
  go_wp2_with fail
  refine HUn.o.mono ?_
  rintro e w2 ⟨rfl, h9⟩
  have HU2 := Ho (HU1.o.trans h9)
  clear h9
  dsimp only
  go_wp2
  refine wp_region_held_drew (S := fun w2 => GE w2 ad ∧ Up w w2) (by kernel_rfl) ⟨HG.o.up HU2.o.drew, HU2.o.drew⟩ (fun hS => ?_)
  refine tK 0 (some 31) (.load 106 (.global 1)) 106 (ev (ad 9)) hS ?_ ?_
  · intro _ _ w5 hSw
    have hgl : w5.cell? ⟨1, 0, none⟩ = _ := hSw.1.gl 9 (by decide)
    clear hSw hS
    go_simp
  simp only [Act.put, pB, pC, pD]
  refine tN 1 (some 2) (.assign (.const (.string { data := #[] }))) 9 (.string ⟨#[]⟩) hS ?_
  simp only [pA, pB, pC, pD]
  refine tN 2 (some 3) (.assign (.const (.string { data := #[] }))) 9 (.string ⟨#[]⟩) hS ?_
  simp only [pA, pB, pC, pD]
  refine tN 3 (some 4) (.assign (.tmp 31)) 106 (ev (ad 9)) hS ?_
  simp only [pA, pB, pC, pD]
  refine wpAnyH_done (by kernel_rfl) ?_ _
  have HS2 := Ho hS.2
  clear hS
  go_wp2
  go_ret3
  rw [HE.o]
  exact ⟨rfl, HS2.o⟩
 | some u =>
  rw [unR_some hu] at HUn
  go_wp2_with fail
  refine HUn.o.mono ?_
  rintro e w2 ⟨rfl, h9⟩
  have HU2 := Ho (HU1.o.trans h9)
  clear h9
  dsimp only
  have HP := Ho (Pre47_walk p w2)
  rw [HPA.o] at HP
  cases hh : hd47 (cA L) with
  | false =>
   have HE := Ho (show spR ad L = _ from spR_no (by unfold pok; rw [hu, hh]; rfl))
   rw [hh] at HP
   go_wp2_with fail
   refine HP.o.mono ?_
   rintro e w9 ⟨rfl, h9⟩
   obtain rfl := h9.symm
   clear h9
   dsimp only
   go_wp2
   refine wp_region_held_drew (S := fun w2 => GE w2 ad ∧ Up w w2) (by kernel_rfl) ⟨HG.o.up HU2.o.drew, HU2.o.drew⟩ (fun hS => ?_)
   refine tK 0 (some 31) (.load 106 (.global 1)) 106 (ev (ad 9)) hS ?_ ?_
   · intro _ _ w5 hSw
     have hgl : w5.cell? ⟨1, 0, none⟩ = _ := hSw.1.gl 9 (by decide)
     clear hSw hS
     go_simp
   simp only [pA, pB, pC, pD]
   refine tN 1 (some 2) (.assign (.const (.string { data := #[] }))) 9 (.string ⟨#[]⟩) hS ?_
   simp only [pA, pB, pC, pD]
   refine tN 2 (some 3) (.assign (.const (.string { data := #[] }))) 9 (.string ⟨#[]⟩) hS ?_
   simp only [pA, pB, pC, pD]
   refine tN 3 (some 4) (.assign (.tmp 31)) 106 (ev (ad 9)) hS ?_
   simp only [pA, pB, pC, pD]
   refine wpAnyH_done (by kernel_rfl) ?_ _
   have HS2 := Ho hS.2
   clear hS
   go_wp2
   go_ret3
   rw [HE.o]
   exact ⟨rfl, HS2.o⟩
  | true =>
   rw [hh] at HP
   go_wp2_with fail
   refine HP.o.mono ?_
   rintro e w9 ⟨rfl, h9⟩
   obtain rfl := h9.symm
   clear h9
   dsimp only
   have HM := Ho (mayBeQuery_walk q hqs w2)
   rw [HQA.o] at HM
   cases hm : qok (cQ L) with
   | false =>
    have HE := Ho (show spR ad L = _ from spR_no (by unfold pok; rw [hu, hh, hm]; rfl))
    rw [hm] at HM
    go_wp2_with fail
    refine HM.o.mono ?_
    rintro e w3 ⟨rfl, h9⟩
    have HU3 := Ho (HU2.o.trans h9)
    clear h9
    dsimp only
    go_wp2
    refine wp_region_held_drew (S := fun w2 => GE w2 ad ∧ Up w w2) (by kernel_rfl) ⟨HG.o.up HU3.o.drew, HU3.o.drew⟩ (fun hS => ?_)
    refine tK 0 (some 31) (.load 106 (.global 1)) 106 (ev (ad 9)) hS ?_ ?_
    · intro _ _ w5 hSw
      have hgl : w5.cell? ⟨1, 0, none⟩ = _ := hSw.1.gl 9 (by decide)
      clear hSw hS
      go_simp
    simp only [pA, pB, pC, pD]
    refine tN 1 (some 2) (.assign (.const (.string { data := #[] }))) 9 (.string ⟨#[]⟩) hS ?_
    simp only [pA, pB, pC, pD]
    refine tN 2 (some 3) (.assign (.const (.string { data := #[] }))) 9 (.string ⟨#[]⟩) hS ?_
    simp only [pA, pB, pC, pD]
    refine tN 3 (some 4) (.assign (.tmp 31)) 106 (ev (ad 9)) hS ?_
    simp only [pA, pB, pC, pD]
    refine wpAnyH_done (by kernel_rfl) ?_ _
    have HS2 := Ho hS.2
    clear hS
    go_wp2
    go_ret3
    rw [HE.o]
    exact ⟨rfl, HS2.o⟩
   | true =>
    have HE := Ho (show spR ad L = .tuple #[vs u, vs (cQ L), .nilIface] from (spR_ok (by unfold pok; rw [hu, hh, hm]; rfl)).trans (by unfold pth; rw [hu]; rfl))
    rw [hm] at HM
    go_wp2_with fail
    refine HM.o.mono ?_
    rintro e w3 ⟨rfl, h9⟩
    have HU3 := Ho (HU2.o.trans h9)
    clear h9
    dsimp only
    go_wp2
    go_ret3
    rw [HE.o, ← HQv.o]
    exact ⟨rfl, HU3.o⟩
def paR (l : List UInt8) : Value := if pok l = true then .tuple #[vs (pth l), vs (cQ l), .int .i64 0] else .tuple #[.string ⟨#[]⟩, .string ⟨#[]⟩, .int .i64 147]
set_option maxRecDepth 100000 in
theorem Path_walk (ad : Nat → Addr) (s : ByteArray) (hs : s.size ≤ 1099511627776) (w : World) (h : GE w ad) : Calls Tryz.prog 67 #[.string s] w fun e w' => e = .returned (paR s.data.toList) ∧ Up w w' := by
 have HG := Ho h
 clear h
 have HSp := Ho (splitTarget_walk ad s hs w HG.o)
 unfold paR
 unfold spR at HSp
 cases hp : pok s.data.toList with
 | true =>
  rw [if_pos hp] at HSp
  rw [if_pos rfl]
  generalize vs (pth s.data.toList) = v1 at *
  generalize vs (cQ s.data.toList) = v2 at *
  go_enter Tryz.func67, Tryz.ntmps67
  go_wp2_with fail
  refine HSp.o.mono ?_
  rintro e w1 ⟨rfl, h9⟩
  have HU1 := Ho h9
  clear h9
  dsimp only
  go_wp2_with fail
  refine (numberOf_nil ad w1 (HG.o.up HU1.o)).mono ?_
  rintro e w2 ⟨rfl, h9⟩
  have HU2 := Ho (HU1.o.trans h9)
  clear h9
  dsimp only
  go_wp2
  go_ret3
  exact ⟨rfl, HU2.o⟩
 | false =>
  rw [if_neg (by rw [hp]; simp)] at HSp
  rw [if_neg (by simp)]
  go_enter Tryz.func67, Tryz.ntmps67
  go_wp2_with fail
  refine HSp.o.mono ?_
  rintro e w1 ⟨rfl, h9⟩
  have HU1 := Ho h9
  clear h9
  dsimp only
  go_wp2_with fail
  refine (numberOf_err ad 9 (by decide) w1 (HG.o.up HU1.o)).mono ?_
  rintro e w2 ⟨rfl, h9⟩
  have HU2 := Ho (HU1.o.trans h9)
  clear h9
  dsimp only
  go_wp2
  go_ret3
  exact ⟨rfl, HU2.o⟩
def eaR (l : List UInt8) : Value := if eok l = true then .tuple #[vs (escX l), .int .i64 0] else .tuple #[.string ⟨#[]⟩, .int .i64 147]
set_option maxRecDepth 100000 in
theorem Escape_walk (ad : Nat → Addr) (s : ByteArray) (hs : s.size ≤ 68719476736) (w : World) (h : GE w ad) : Calls Tryz.prog 69 #[.string s] w fun e w' => e = .returned (eaR s.data.toList) ∧ Up w w' := by
 have HG := Ho h
 clear h
 have HSp := Ho (escape_walk ad s hs w HG.o)
 unfold eaR
 unfold esR at HSp
 cases hp : eok s.data.toList with
 | true =>
  rw [if_pos hp] at HSp
  rw [if_pos rfl]
  generalize vs (escX s.data.toList) = v1 at *
  go_enter Tryz.func69, Tryz.ntmps69
  go_wp2_with fail
  refine HSp.o.mono ?_
  rintro e w1 ⟨rfl, h9⟩
  have HU1 := Ho h9
  clear h9
  dsimp only
  go_wp2_with fail
  refine (numberOf_nil ad w1 (HG.o.up HU1.o)).mono ?_
  rintro e w2 ⟨rfl, h9⟩
  have HU2 := Ho (HU1.o.trans h9)
  clear h9
  dsimp only
  go_wp2
  go_ret2
  exact ⟨rfl, HU2.o⟩
 | false =>
  rw [if_neg (by rw [hp]; simp)] at HSp
  rw [if_neg (by simp)]
  go_enter Tryz.func69, Tryz.ntmps69
  go_wp2_with fail
  refine HSp.o.mono ?_
  rintro e w1 ⟨rfl, h9⟩
  have HU1 := Ho h9
  clear h9
  dsimp only
  go_wp2_with fail
  refine (numberOf_err ad 9 (by decide) w1 (HG.o.up HU1.o)).mono ?_
  rintro e w2 ⟨rfl, h9⟩
  have HU2 := Ho (HU1.o.trans h9)
  clear h9
  dsimp only
  go_wp2
  go_ret2
  exact ⟨rfl, HU2.o⟩
def rpk : ByteArray := ⟨#[45, 46, 95, 126, 33, 36, 38, 39, 40, 41, 42, 43, 44, 59, 61, 58, 64, 47]⟩
theorem pl_ref (x : UInt8) : pl x = (rlt x || (isD x || rpk.data.toList.contains x)) := by
 have h : ∀ n : Nat, n < 256 → pl (UInt8.ofNat n) = (rlt (UInt8.ofNat n) || (isD (UInt8.ofNat n) || rpk.data.toList.contains (UInt8.ofNat n))) := by decide +kernel
 have h1 := h x.toNat x.toNat_lt
 rw [UInt8.ofNat_toNat] at h1
 exact h1
set_option maxRecDepth 100000 in
theorem Rplain_walk (c : UInt8) (w : World) : Calls Tryz.prog 111 #[vb c] w fun e w' => e = .returned (.bool (pl c)) ∧ w' = w := by
 have HG := Ho (show Calls Tryz.prog 94 #[.string rpk, vb c] w fun e w' => e = .returned (.bool (rpk.data.toList.contains c)) ∧ w' = w from Ramong_walk rpk c (by decide) w)
 obtain ⟨rv, hrv⟩ := ny (pl c)
 have HR := Ho (pl_ref c)
 rw [hrv] at HR ⊢
 clear hrv
 have HL := Ho (Rletter_walk c w)
 have HD := Ho (Rdigit_walk c w)
 generalize rpk.data.toList.contains c = b3 at *
 generalize rlt c = b1 at *
 generalize isD c = b2 at *
 go_enter Tryz.func111, Tryz.ntmps111
 go_wp2_with fail
 refine HL.o.mono ?_
 rintro e w9 ⟨rfl, h9⟩
 obtain rfl := h9.symm
 clear h9
 dsimp only
 cases b1 with
 | true =>
  go_wp2
  go_ret
  rw [HR.o]
  exact ⟨rfl, rfl⟩
 | false =>
  go_wp2_with fail
  refine HD.o.mono ?_
  rintro e w9 ⟨rfl, h9⟩
  obtain rfl := h9.symm
  clear h9
  dsimp only
  cases b2 with
  | true =>
   go_wp2
   go_ret
   rw [HR.o]
   exact ⟨rfl, rfl⟩
  | false =>
   go_wp2_with fail
   refine HG.o.mono ?_
   rintro e w9 ⟨rfl, h9⟩
   obtain rfl := h9.symm
   clear h9
   dsimp only
   go_wp2
   go_ret
   rw [HR.o]
   exact ⟨rfl, rfl⟩
theorem row_owX {w : World} {N q c : Nat} {a : Option Addr} {xs : List UInt8} (h : w.ownsRow N 5 1 (.slice a q c) q (cb xs)) : Ow w N (.slice a q c) xs := by
 have hl : xs.length = q := by have := h.1; rw [cb_length] at this; omega
 show w.ownsRow N 5 1 (.slice a q c) xs.length (cb xs)
 rw [hl]
 exact h
theorem hd47_cons (x : UInt8) (r : List UInt8) : hd47 (x :: r) = (x == 47) := by
 by_cases h : x = 47
 · subst h; rfl
 simp [hd47]
set_option maxRecDepth 100000 in
set_option maxHeartbeats 4000000 in
theorem REscape_walk (s : ByteArray) (hs : s.size ≤ 68719476736) (w : World) : Calls Tryz.prog 68 #[.string s] w fun e w' => e = .returned (eaR s.data.toList) ∧ Up w w' := by
 obtain ⟨L, hL⟩ := ny s.data.toList
 have HLL := Ho hL
 have HS := Ho (show s.size = L.length by rw [← hL]; exact Go.Lib.size_eq s)
 rw [hL]
 clear hL
 obtain ⟨rv, hrv⟩ := ny (eaR L)
 have HNo := Ho (show eok L = false → rv = .tuple #[.string ⟨#[]⟩, .int .i64 147] from fun h => by rw [← hrv]; unfold eaR; rw [h]; rfl)
 have HYes := Ho (show eok L = true → rv = .tuple #[vs (escX L), .int .i64 0] from fun h => by rw [← hrv]; unfold eaR; rw [h]; rfl)
 rw [hrv]
 clear hrv
 by_cases hz : s.size = 0
 · have hem := emp_yes hz
   have HE := Ho (HNo.o (by
    have : L = [] := List.length_eq_zero_iff.1 (by rw [← HS.o]; exact hz)
    rw [this]
    decide))
   go_enter Tryz.func68, Tryz.ntmps68
   go_wp2
   go_ret2
   rw [HE.o]
   exact ⟨rfl, Up.refl _⟩
 have hzp : 0 < s.size := by omega
 have hzpz : (0 : Int) < (s.size : Int) := by omega
 have hem := emp_no hzp
 obtain ⟨x0, r0, hx0⟩ : ∃ x r, L = x :: r := by
  cases hc : L with
  | nil => rw [HS.o, hc] at hzp; simp at hzp
  | cons x r => exact ⟨x, r, rfl⟩
 have hg0 : s[0] = x0 := by
  rw [sget' s 0 hzp]
  simp only [HLL.o, hx0, List.getElem_cons_zero]
 have HH := Ho (show hd47 L = (x0 == 47) by rw [hx0]; exact hd47_cons x0 r0)
 clear hx0
 by_cases h47 : x0 = 47
 · subst h47
   have HK := Ho (show eok L = L.all fun c => !ctl c by unfold eok; rw [HH.o]; rfl)
   have HFl := Ho (show ∀ x ∈ L, ctl x = true → rv = .tuple #[.string ⟨#[]⟩, .int .i64 147] from fun x hx hc => HNo.o (by
    rw [HK.o]
    exact List.all_eq_false.2 ⟨x, hx, by rw [hc]; simp⟩))
   go_enter Tryz.func68, Tryz.ntmps68
   go_wp2
   go_loopw [4, 5] (fun v4 v5 wr => ∃ i : Nat, v5 = .int .i64 (i : Int) ∧ i ≤ s.size ∧ ∃ q a4 c4, v4 = .slice a4 q c4 ∧ q ≤ 3 * i ∧ Hd (wr.ownsRow w.heap.size 5 1 (.slice a4 q c4) q (cb (escX (L.take i))) ∧ Up w wr ∧ ∀ x ∈ L.take i, ctl x = false)) (fun _ v5 _ => s.size - (intOf v5).toNat)
   case atStart => exact ⟨0, rfl, Nat.zero_le _, 0, none, 0, rfl, Nat.zero_le _, Ho ⟨World.ownsRow_nil _ _ _ _, Up.refl _, by simp⟩⟩
   case round =>
    obtain ⟨i, rfl, hi, q, a4, c4, rfl, hq, hX⟩ := hrel
    have HO := Ho hX.o.1
    have HU := Ho hX.o.2.1
    have HC := Ho hX.o.2.2
    clear hX
    by_cases hil : i < s.size
    · have hilz : (i : Int) < (s.size : Int) := by omega
      have hiL : i < L.length := by rw [← HS.o]; exact hil
      have hg : s[i] = L[i] := by
       rw [sget' s i hil]
       simp only [HLL.o]
      have HT := Ho (esc_take hiL)
      have HTk := Ho (List.take_succ_eq_append_getElem hiL)
      have HMm := Ho (List.getElem_mem hiL)
      generalize L[i] = x at *
      clear hiL
      have hx256 := x.toNat_lt
      by_cases h32 : x.toNat < 32
      · have h32z : (x.toNat : Int) < 32 := by omega
        have HE := Ho (HFl.o x HMm.o (by unfold ctl; rw [decide_eq_true h32]; rfl))
        go_wp2
        go_ret2
        rw [HE.o]
        exact ⟨rfl, HU.o⟩
      have h32z : ¬ (x.toNat : Int) < 32 := by omega
      by_cases h127 : x.toNat = 127
      · have h127z : ((x.toNat : Int) == 127) = true := by rw [h127]; rfl
        have HE := Ho (HFl.o x HMm.o (by unfold ctl; rw [decide_eq_true h127]; simp))
        go_wp2
        go_ret2
        rw [HE.o]
        exact ⟨rfl, HU.o⟩
      have h127z : ((x.toNat : Int) == 127) = false := by rw [beq_eq_false_iff_ne]; omega
      have HCx := Ho (show ctl x = false by unfold ctl; rw [decide_eq_false h32, decide_eq_false h127]; rfl)
      have HC7 := Ho (show ∀ y ∈ L.take (i + 1), ctl y = false by
       rw [HTk.o]
       intro y hy
       rcases List.mem_append.1 hy with h | h
       · exact HC.o y h
       rw [List.mem_singleton.1 h]; exact HCx.o)
      clear HFl HMm HTk HCx HC
      go_wp2_with fail
      refine (Rplain_walk x _).mono ?_
      rintro e w9 ⟨rfl, h9⟩
      obtain rfl := h9.symm
      clear h9
      dsimp only
      cases hp : pl x with
      | true =>
       have HEc := Ho (show ec x = [x] by unfold ec; rw [if_pos hp])
       go_wp2_with (with_reducible refine sA ?_)
       show wpList _ _ _ _ _ _
       refine wpList_app1X (N := w.heap.size) rfl _ _ rfl a4 c4 (escX (L.take i)) x rfl rfl HO.o HU.o.size (by omega) ?_
       intro a5 c5 w5 o5 u5 _
       have HO5 := Ho (show w5.ownsRow w.heap.size 5 1 (.slice a5 (q + 1) c5) (q + 1) (cb (escX (L.take (i + 1)))) by rw [HT.o, HEc.o]; exact o5)
       have HU5 := Ho (u5 w HU.o (Nat.le_refl _))
       clear o5 u5
       simp only [Act.put, pB, pC, pD]
       go_wp2
       go_roundw
       all_goals first
        | exact ⟨i + 1, by go_num, by omega, q + 1, a5, c5, rfl, by omega, Ho ⟨HO5.o, HU5.o, HC7.o⟩⟩
        | (simp [intOf]; omega)
      | false =>
       obtain ⟨d1, hd1e⟩ := ny (x.toNat / 16)
       obtain ⟨d2, hd2e⟩ := ny (x.toNat % 16)
       have HEc := Ho (show ec x = [37, hxd d1, hxd d2] by unfold ec; rw [if_neg (by rw [hp]; simp), hd1e, hd2e])
       have hd1 : d1 < 16 := by omega
       have hd2 : d2 < 16 := by omega
       have hq1 : (x.toNat : Int).tdiv 16 = (d1 : Int) := by rw [Int.tdiv_eq_ediv_of_nonneg (by omega)]; omega
       have hq2 : (x.toNat : Int).tmod 16 = (d2 : Int) := by rw [Int.tmod_eq_emod_of_nonneg (by omega)]; omega
       have hq3 : (x.toNat : Int) / 16 = (d1 : Int) := by omega
       have hq4 : (x.toNat : Int) % 16 = (d2 : Int) := by omega
       have hw1 : IntKind.u8.wrap (d1 : Int) = (d1 : Int) := wrapu8 _ (by omega) (by omega)
       have hw2 : IntKind.u8.wrap (d2 : Int) = (d2 : Int) := wrapu8 _ (by omega) (by omega)
       clear hd1e hd2e
       go_wp2
       refine wp_region_held_drew (S := fun w2 => Up w w2) (by kernel_rfl) HU.o.drew (fun hS => ?_)
       refine tN 0 (some 23) (.move (.tmp 4)) 22 (.slice a4 q c4) hS ?_
       simp only [pA, pB, pC, pD]
       refine tN 1 (some 24) (.move (.tmp 6)) 5 (vb x) hS ?_
       simp only [pA, pB, pC, pD]
       refine tN 2 (some 25) (.binOp .quo 5 (.tmp 24) (.const (.int .u8 16)) 5) 5 (.int .u8 (d1 : Int)) hS ?_
       simp only [pA, pB, pC, pD]
       refine tK 3 (some 26) (.index 9 (.const (.string { data := #[48, 49, 50, 51, 52, 53, 54, 55, 56, 57, 65, 66, 67, 68, 69, 70] })) (.tmp 25)) 5 (vb (hxd d1)) hS ?_ ?_
       · intro _ _ w5 hSw
         clear hSw hS
         exact exec_hex _ hd1 rfl rfl rfl
       simp only [pA, pB, pC, pD]
       refine tN 4 (some 27) (.move (.tmp 6)) 5 (vb x) hS ?_
       simp only [pA, pB, pC, pD]
       refine tN 5 (some 28) (.binOp .rem 5 (.tmp 27) (.const (.int .u8 16)) 5) 5 (.int .u8 (d2 : Int)) hS ?_
       simp only [pA, pB, pC, pD]
       refine tK 6 (some 29) (.index 9 (.const (.string { data := #[48, 49, 50, 51, 52, 53, 54, 55, 56, 57, 65, 66, 67, 68, 69, 70] })) (.tmp 28)) 5 (vb (hxd d2)) hS ?_ ?_
       · intro _ _ w5 hSw
         clear hSw hS
         exact exec_hex _ hd2 rfl rfl rfl
       simp only [pA, pB, pC, pD]
       refine rD 7 (some 30) (.buildSlice 22 3 #[(0, .const (.int .u8 37)), (1, .tmp 26), (2, .tmp 29)]) 22 fun _ _ K hK => ?_
       rw [if_pos (by kernel_rfl)]
       go_simp
       refine hK.out _ _ (hS.alloc _) (fun hS => ?_)
       clear hK K
       refine rD 8 (some 31) (.call ⟨.builtin .append, #[.tmp 23, .tmp 30], #[22, 22]⟩) 22 fun _ _ K hK => oper_of_list ?_
       refine wpList_app3 (w := wr.drew) (N := w.heap.size) rfl _ _ rfl a4 c4 (escX (L.take i)) 37 (hxd d1) (hxd d2) rfl rfl (ow_up HO.o (Up.refl _).drew) HU.o.drew.size (by omega) ?_
       intro a5 c5 w5 o5 u5
       have HO5 := Ho (show w5.ownsRow w.heap.size 5 1 (.slice a5 (q + 3) c5) (q + 3) (cb (escX (L.take (i + 1)))) by rw [HT.o, HEc.o]; exact o5)
       have HU5 := Ho (u5 w HU.o.drew (Nat.le_refl _))
       clear o5 u5
       refine hK.out _ _ HU5.o (fun hS => ?_)
       clear hK K
       simp only [Act.put, pB, pC, pD]
       refine tN 9 (some 4) (.assign (.tmp 31)) 22 (.slice a5 (q + 3) c5) hS ?_
       simp only [pA, pB, pC, pD]
       clear hS
       refine wpAnyH_done (by kernel_rfl) ?_ _
       go_wp2
       go_roundw
       all_goals first
        | exact ⟨i + 1, by go_num, by omega, q + 3, a5, c5, rfl, by omega, Ho ⟨HO5.o, HU5.o, HC7.o⟩⟩
        | (simp [intOf]; omega)
    have hilz : ¬ (i : Int) < (s.size : Int) := by omega
    have hcv := conv_sb2 (Ow.sb (row_owX HO.o))
    rw [List.take_of_length_le (by rw [← HS.o]; omega)] at hcv
    have HE := Ho (HYes.o (by
     rw [HK.o]
     have h1 := HC.o
     rw [List.take_of_length_le (by rw [← HS.o]; omega)] at h1
     rw [List.all_eq_true]
     intro y hy
     rw [h1 y hy]
     rfl))
    go_wp2
    go_ret2
    rw [HE.o]
    exact ⟨rfl, HU.o⟩
 have h47z := neU (k := 47) rfl h47
 have HE := Ho (HNo.o (by unfold eok; rw [HH.o, show (x0 == 47) = false by simpa using h47]; rfl))
 go_enter Tryz.func68, Tryz.ntmps68
 go_wp2
 go_ret2
 rw [HE.o]
 exact ⟨rfl, Up.refl _⟩
theorem trk_hex {a b : UInt8} (h : (hxv a).isSome = false ∨ (hxv b).isSome = false) : trk a b = false := by
 unfold trk
 rcases h with h | h
 · rw [h]; rfl
 rw [h]; simp
theorem hxi_none {c : UInt8} (h : hxv c = none) : hxi c = -1 := by unfold hxi; rw [h]
theorem hxi_some {c v : UInt8} (h : hxv c = some v) : hxi c = (v.toNat : Int) := by unfold hxi; rw [h]
set_option maxRecDepth 100000 in
set_option maxHeartbeats 8000000 in
theorem RPath_walk (s : ByteArray) (hs : s.size ≤ 1099511627000) (w : World) : Calls Tryz.prog 66 #[.string s] w fun e w' => e = .returned (paR s.data.toList) ∧ Up w w' := by
 have HS := Ho (Go.Lib.size_eq s)
 obtain ⟨L, hL⟩ := ny s.data.toList
 have HL := Ho hL
 have HPc := Ho (Rpieces_walk s 63 (by omega) w)
 rw [hL] at HS HPc ⊢
 clear hL
 obtain ⟨rv, hrv⟩ := ny (paR L)
 have HNo := Ho (show pok L = false → rv = .tuple #[.string ⟨#[]⟩, .string ⟨#[]⟩, .int .i64 147] from fun h => by rw [← hrv]; unfold paR; rw [h]; rfl)
 obtain ⟨SL, hSL⟩ := ny (cA L)
 obtain ⟨QL, hQL⟩ := ny (cQ L)
 have HQe := Ho hQL
 have HNu := Ho (show une SL = none → rv = .tuple #[.string ⟨#[]⟩, .string ⟨#[]⟩, .int .i64 147] from fun h => HNo.o (by unfold pok; rw [hSL, h]; rfl))
 have HNh := Ho (show hd47 SL = false → rv = .tuple #[.string ⟨#[]⟩, .string ⟨#[]⟩, .int .i64 147] from fun h => HNo.o (by unfold pok; rw [hSL, h]; simp))
 have HYs := Ho (show hd47 SL = true → ∀ p, une SL = some p → qok (cQ L) = true → rv = .tuple #[vs p, vs QL, .int .i64 0] from fun h1 p h2 h3 => by
  rw [← hrv]
  unfold paR
  have : pok L = true := by unfold pok; rw [hSL, h1, h2, h3]; rfl
  rw [this]
  unfold pth
  rw [hSL, h2, hQL]
  rfl)
 have HPs : Hd (∃ r, pcs 63 L = SL :: r ∧ ((r = [] ∧ QL = [] ∧ L = SL) ∨ (r ≠ [] ∧ L = SL ++ 63 :: QL))) := Ho (by
  rcases cut_cases 63 L with ⟨hn, hc⟩ | ⟨a, b, hn, he, hc⟩
  · have e1 : cA L = L := by unfold cA; rw [hc]
    have e2 : cQ L = [] := by unfold cQ; rw [hc]
    refine ⟨[], ?_, .inl ⟨rfl, by rw [← hQL, e2], by rw [← hSL, e1]⟩⟩
    rw [pcs_no hn, ← hSL, e1]
  have e1 : cA L = a := by unfold cA; rw [hc]
  have e2 : cQ L = b := by unfold cQ; rw [hc]
  refine ⟨pcs 63 b, ?_, .inr ⟨pcs_ne 63 b, ?_⟩⟩
  · rw [he, pcs_cut b hn, ← hSL, e1]
  rw [← hSL, ← hQL, e1, e2]; exact he)
 rw [hrv]
 clear hrv hSL hQL
 obtain ⟨r, hpc, hcase⟩ := HPs.o
 rw [hpc] at HPc
 clear HPs hpc
 obtain ⟨n, hn⟩ := ny ((SL :: r).length)
 have hnp : 0 < n := by rw [← hn, List.length_cons]; omega
 have hn1 : r = [] ↔ n = 1 := by
  rw [← hn, List.length_cons]
  constructor
  · intro h; rw [h]; rfl
  intro h; exact List.length_eq_zero_iff.1 (by omega)
 have HNn := Ho (show (bts (SL :: r)).length = n by rw [bts_len]; exact hn)
 have HB0 := Ho (show bts (SL :: r) = ⟨SL.toArray⟩ :: bts r from rfl)
 rw [hn] at HPc
 clear hn
 obtain ⟨S, hS⟩ := ny (⟨SL.toArray⟩ : ByteArray)
 have HSl := Ho (show S.data.toList = SL by rw [← hS])
 have HSz := Ho (show S.size = SL.length by rw [Go.Lib.size_eq, HSl.o])
 rw [hS] at HB0
 clear hS
 go_enter Tryz.func66, Tryz.ntmps66
 go_wp2_with fail
 refine HPc.o.mono ?_
 rintro e w2 ⟨⟨a2, c2, rfl, hO⟩, h9⟩
 have HU2 := Ho h9
 obtain ⟨b0, off, rfl, k0⟩ := hO.o.stl.cells 0 (by rw [HNn.o]; omega)
 have hcap := hO.o.stl.cap
 rw [HNn.o] at hcap
 have k0' : w2.cell? ⟨b0, off, none⟩ = some (.string S) := by
  simp only [HB0.o] at k0
  exact k0
 clear h9 HPc hO k0 HB0 HNn
 dsimp only
 have k0c := k0'
 rcases hcase with ⟨hr0, hq0, hLS⟩ | ⟨hr0, hLS⟩
 · have hn1' : n = 1 := hn1.1 hr0
   have h1z : ¬ (1 : Int) < (n : Int) := by omega
   have HQn := Ho hq0
   have hSs : S.size ≤ s.size := by rw [HSz.o, HS.o, hLS]; exact Nat.le_refl _
   clear hr0 hq0 hLS hn1
   by_cases hz : S.size = 0
   · have hem := emp_yes hz
     have HE := Ho (HNh.o (by
      have : SL = [] := List.length_eq_zero_iff.1 (by rw [← HSz.o]; exact hz)
      rw [this]
      decide))
     go_wp2
     go_ret3
     rw [HE.o]
     exact ⟨rfl, HU2.o⟩
   have hzp : 0 < S.size := by omega
   have hzpz : (0 : Int) < (S.size : Int) := by omega
   have hem := emp_no hzp
   obtain ⟨x0, r0, hx0⟩ : ∃ x r, SL = x :: r := by
    cases hc : SL with
    | nil => rw [HSz.o, hc] at hzp; simp at hzp
    | cons x r => exact ⟨x, r, rfl⟩
   have hg0 : S[0] = x0 := by
    rw [sget' S 0 hzp]
    simp only [HSl.o, hx0, List.getElem_cons_zero]
   have HH := Ho (show hd47 SL = (x0 == 47) by rw [hx0]; exact hd47_cons x0 r0)
   clear hx0
   by_cases h47 : x0 = 47
   · subst h47
     have HYes := Ho (HYs.o HH.o)
     clear HH HYs HNh
     go_wp2
     go_loopw [8, 9] (fun v8 v9 wr => ∃ i : Nat, v9 = .int .i64 (i : Int) ∧ i ≤ S.size ∧ ∃ q a8 c8, v8 = .slice a8 q c8 ∧ q ≤ i ∧ Hd (∃ acc, wr.ownsRow w.heap.size 5 1 (.slice a8 q c8) q (cb acc) ∧ Up w wr ∧ une SL = (une (SL.drop i)).map (acc ++ ·))) (fun _ v9 _ => S.size - (intOf v9).toNat)
     case atStart =>
      refine ⟨0, rfl, Nat.zero_le _, 0, none, 0, rfl, Nat.zero_le _, Ho ⟨[], World.ownsRow_nil _ _ _ _, HU2.o, ?_⟩⟩
      rw [List.drop_zero]
      cases une SL <;> simp
     case round =>
      obtain ⟨i, rfl, hi, q, a8, c8, rfl, hq, hX⟩ := hrel
      obtain ⟨acc, hO, hU, hE⟩ := hX.o
      have HO := Ho hO
      have HU := Ho hU
      have HEq := Ho hE
      clear hX hO hU hE
      by_cases hil : i < S.size
      · have hilz : (i : Int) < (S.size : Int) := by omega
        have hiL : i < SL.length := by rw [← HSz.o]; exact hil
        have hg : S[i] = SL[i] := by
         rw [sget' S i hil]
         simp only [HSl.o]
        have HDr := Ho (List.drop_eq_getElem_cons hiL)
        generalize SL[i] = x at *
        clear hiL
        by_cases h37 : x = 37
        · subst h37
          by_cases h2 : i + 2 < S.size
          · have h2z : ¬ (S.size : Int) ≤ (i : Int) + 2 := by omega
            have h2a : (i : Int) + 1 < (S.size : Int) := by omega
            have h2b : (i : Int) + 2 < (S.size : Int) := by omega
            have hga : S[i + 1]'(by omega) = SL[i + 1]'(by rw [← HSz.o]; omega) := by
             rw [sget' S (i + 1) (by omega)]
             simp only [HSl.o]
            have hgb : S[i + 2]'(by omega) = SL[i + 2]'(by rw [← HSz.o]; omega) := by
             rw [sget' S (i + 2) (by omega)]
             simp only [HSl.o]
            have HD3 := Ho (show SL.drop i = 37 :: SL[i + 1]'(by rw [← HSz.o]; omega) :: SL[i + 2]'(by rw [← HSz.o]; omega) :: SL.drop (i + 3) by
             rw [HDr.o, List.drop_eq_getElem_cons (show i + 1 < SL.length by rw [← HSz.o]; omega), List.drop_eq_getElem_cons (show i + 2 < SL.length by rw [← HSz.o]; omega)])
            generalize SL[i + 1]'(by rw [← HSz.o]; omega) = xa at *
            generalize SL[i + 2]'(by rw [← HSz.o]; omega) = xb at *
            have HTno := Ho (show trk xa xb = false → rv = .tuple #[.string ⟨#[]⟩, .string ⟨#[]⟩, .int .i64 147] from fun h => HNu.o (by rw [HEq.o, HD3.o, une_tri_no h]; rfl))
            have HTyes := Ho (show trk xa xb = true → une SL = (une (SL.drop (i + 3))).map ((acc ++ [trb xa xb]) ++ ·) from fun h => by
             rw [HEq.o, HD3.o, une_tri h, Option.map_map]
             congr 1
             funext p
             simp)
            clear HD3 HDr
            have HHa := Ho (fun w => Rhex_walk xa w)
            have HHb := Ho (fun w => Rhex_walk xb w)
            cases hva : hxv xa with
            | none =>
             have HE := Ho (HTno.o (trk_hex (.inl (by rw [hva]; rfl))))
             rw [hxi_none hva] at HHa
             go_wp2_with fail
             refine (HHa.o _).mono ?_
             rintro e w9 ⟨rfl, h9⟩
             obtain rfl := h9.symm
             clear h9
             dsimp only
             go_wp2
             go_ret3
             rw [HE.o]
             exact ⟨rfl, HU.o⟩
            | some va =>
             have hva15 := hxv_le' hva
             rw [hxi_some hva] at HHa
             have hva0 : ¬ (va.toNat : Int) < 0 := by omega
             go_wp2_with fail
             refine (HHa.o _).mono ?_
             rintro e w9 ⟨rfl, h9⟩
             obtain rfl := h9.symm
             clear h9
             dsimp only
             cases hvb : hxv xb with
             | none =>
              have HE := Ho (HTno.o (trk_hex (.inr (by rw [hvb]; rfl))))
              rw [hxi_none hvb] at HHb
              go_wp2_with fail
              refine (HHb.o _).mono ?_
              rintro e w9 ⟨rfl, h9⟩
              obtain rfl := h9.symm
              clear h9
              dsimp only
              go_wp2
              go_ret3
              rw [HE.o]
              exact ⟨rfl, HU.o⟩
             | some vb2 =>
              have hvb15 := hxv_le' hvb
              rw [hxi_some hvb] at HHb
              have hvb0 : ¬ (vb2.toNat : Int) < 0 := by omega
              have HTb := Ho (show (trb xa xb).toNat = 16 * va.toNat + vb2.toNat by
               unfold trb
               rw [hva, hvb]
               show (UInt8.ofNat (va.toNat * 16 + vb2.toNat)).toNat = _
               rw [UInt8.toNat_ofNat_of_lt' (by show _ < 256; omega)]
               omega)
              have HTk := Ho (show trk xa xb = (!ctl (trb xa xb) && (trb xa xb != 47)) by
               unfold trk
               rw [hva, hvb]
               simp)
              go_wp2_with fail
              refine (HHb.o _).mono ?_
              rintro e w9 ⟨rfl, h9⟩
              obtain rfl := h9.symm
              clear h9
              dsimp only
              have hw1 : IntKind.i64.wrap (16 * (va.toNat : Int)) = 16 * (va.toNat : Int) := wrapk _ (by omega) (by omega)
              have hw2 : IntKind.i64.wrap (16 * (va.toNat : Int) + (vb2.toNat : Int)) = 16 * (va.toNat : Int) + (vb2.toNat : Int) := wrapk _ (by omega) (by omega)
              have hwi1 : IntKind.i64.wrap ((i : Int) + 1) = (i : Int) + 1 := wrapk _ (by omega) (by omega)
              have hwi2 : IntKind.i64.wrap ((i : Int) + 2) = (i : Int) + 2 := wrapk _ (by omega) (by omega)
              have hi1n : ¬ (i : Int) + 1 < 0 := by omega
              have hi2n : ¬ (i : Int) + 2 < 0 := by omega
              have hi1s : ¬ (S.size : Int) ≤ (i : Int) + 1 := by omega
              have ht1 : ((i : Int) + 1).toNat = i + 1 := by omega
              have ht2 : ((i : Int) + 2).toNat = i + 2 := by omega
              clear hva hvb
              go_wp2
              refine wp_region_held_drew (S := fun w2 => Up w w2) (by kernel_rfl) HU.o.drew (fun hS => ?_)
              refine tN 0 (some 72) (.move (.tmp 6)) 9 (.string S) hS ?_
              simp only [Act.put, pB, pC, pD]
              refine tN 1 (some 73) (.move (.tmp 9)) 3 (.int .i64 (i : Int)) hS ?_
              simp only [pA, pB, pC, pD]
              refine tN 2 (some 74) (.binOp .add 3 (.tmp 73) (.const (.int .i64 1)) 3) 3 (.int .i64 ((i : Int) + 1)) hS ?_
              simp only [pA, pB, pC, pD]
              refine tN 3 (some 75) (.index 9 (.tmp 72) (.tmp 74)) 5 (vb xa) hS ?_
              simp only [pA, pB, pC, pD]
              refine tN 6 (some 78) (.move (.tmp 6)) 9 (.string S) hS ?_
              simp only [pA, pB, pC, pD]
              refine tN 7 (some 79) (.move (.tmp 9)) 3 (.int .i64 (i : Int)) hS ?_
              simp only [pA, pB, pC, pD]
              refine tN 8 (some 80) (.binOp .add 3 (.tmp 79) (.const (.int .i64 2)) 3) 3 (.int .i64 ((i : Int) + 2)) hS ?_
              simp only [pA, pB, pC, pD]
              refine tN 9 (some 81) (.index 9 (.tmp 78) (.tmp 80)) 5 (vb xb) hS ?_
              simp only [pA, pB, pC, pD]
              refine rD 4 (some 76) (.call ⟨.value (.func 112), #[.tmp 75], #[5]⟩) 3 fun _ _ K hK => ?_
              rw [if_pos (by kernel_rfl)]
              go_simp
              refine (HHa.o wr.drew).mono ?_
              rintro e w6 ⟨rfl, h9⟩
              obtain rfl := h9.symm
              clear h9
              dsimp only
              refine hK.out _ _ hS (fun hS => ?_)
              clear hK K
              refine tN 5 (some 77) (.binOp .mul 3 (.const (.int .i64 16)) (.tmp 76) 3) 3 (.int .i64 (16 * (va.toNat : Int))) hS ?_
              simp only [Act.put, pB, pC, pD]
              refine rD 10 (some 82) (.call ⟨.value (.func 112), #[.tmp 81], #[5]⟩) 3 fun _ _ K hK => ?_
              rw [if_pos (by kernel_rfl)]
              go_simp
              refine (HHb.o wr.drew).mono ?_
              rintro e w6 ⟨rfl, h9⟩
              obtain rfl := h9.symm
              clear h9
              dsimp only
              refine hK.out _ _ hS (fun hS => ?_)
              clear hK K
              refine tN 11 (some 83) (.binOp .add 3 (.tmp 77) (.tmp 82) 3) 3 (.int .i64 (16 * (va.toNat : Int) + (vb2.toNat : Int))) hS ?_
              simp only [Act.put, pB, pC, pD]
              refine tN 12 (some 11) (.assign (.tmp 83)) 3 (.int .i64 (16 * (va.toNat : Int) + (vb2.toNat : Int))) hS ?_
              simp only [pA, pB, pC, pD]
              clear hS
              refine wpAnyH_done (by kernel_rfl) ?_ _
              have HU3 := Ho HU.o.drew
              have HO3 := Ho (ow_up HO.o (Up.refl wr).drew)
              obtain ⟨t, ht⟩ := ny (trb xa xb)
              rw [ht] at HTb HTk HTyes
              have htv : 16 * (va.toNat : Int) + (vb2.toNat : Int) = (t.toNat : Int) := by rw [HTb.o]; omega
              have ht256 := t.toNat_lt
              rw [htv]
              clear ht htv HTb hw1 hw2
              by_cases h32 : t.toNat < 32
              · have h32z : (t.toNat : Int) < 32 := by omega
                have HE := Ho (HTno.o (by rw [HTk.o]; unfold ctl; rw [decide_eq_true h32]; rfl))
                go_wp2
                go_ret3
                rw [HE.o]
                exact ⟨rfl, HU3.o⟩
              have h32z : ¬ (t.toNat : Int) < 32 := by omega
              by_cases h127 : t.toNat = 127
              · have h127z : ((t.toNat : Int) == 127) = true := by rw [h127]; rfl
                have HE := Ho (HTno.o (by rw [HTk.o]; unfold ctl; rw [decide_eq_true h127]; simp))
                go_wp2
                go_ret3
                rw [HE.o]
                exact ⟨rfl, HU3.o⟩
              have h127z : ((t.toNat : Int) == 127) = false := by rw [beq_eq_false_iff_ne]; omega
              by_cases ht47 : t = 47
              · subst ht47
                have HE := Ho (HTno.o (by rw [HTk.o]; simp))
                go_wp2
                go_ret3
                rw [HE.o]
                exact ⟨rfl, HU3.o⟩
              have ht47z : ((t.toNat : Int) == 47) = false := by
               have := neU (k := 47) rfl ht47
               rw [bne] at this
               simpa using this
              have HN := Ho (HTyes.o (by rw [HTk.o]; unfold ctl; rw [decide_eq_false h32, decide_eq_false h127, show (t != 47) = true by simpa using ht47]; rfl))
              have hwt : IntKind.u8.wrap (t.toNat : Int) = (t.toNat : Int) := wrapu8 _ (by omega) (by omega)
              go_wp2_with (with_reducible refine sA ?_)
              show wpList _ _ _ _ _ _
              refine wpList_app1X (N := w.heap.size) rfl _ _ rfl a8 c8 acc t rfl rfl HO3.o HU3.o.size (by omega) ?_
              intro a5 c5 w5 o5 u5 _
              have HO5 := Ho o5
              have HU5 := Ho (u5 w HU3.o (Nat.le_refl _))
              clear o5 u5
              simp only [Act.put, pB, pC, pD]
              go_wp2
              go_roundw
              all_goals first
               | exact ⟨i + 3, by go_num, by omega, q + 1, a5, c5, rfl, by omega, Ho ⟨acc ++ [t], HO5.o, HU5.o, HN.o⟩⟩
               | (simp [intOf]; omega)
          have h2z : (S.size : Int) ≤ (i : Int) + 2 := by omega
          have HE := Ho (HNu.o (by
           rw [HEq.o, HDr.o, une_end (by rw [List.length_drop, ← HSz.o]; omega)]
           rfl))
          go_wp2
          go_ret3
          rw [HE.o]
          exact ⟨rfl, HU.o⟩
        have h37z := neU (k := 37) rfl h37
        go_wp2_with fail
        refine (Rplain_walk x _).mono ?_
        rintro e w9 ⟨rfl, h9⟩
        obtain rfl := h9.symm
        clear h9
        dsimp only
        cases hp : pl x with
        | false =>
         have HE := Ho (HNu.o (by rw [HEq.o, HDr.o, une_no h37 hp]; rfl))
         go_wp2
         go_ret3
         rw [HE.o]
         exact ⟨rfl, HU.o⟩
        | true =>
         have HN := Ho (show une SL = (une (SL.drop (i + 1))).map ((acc ++ [x]) ++ ·) by
          rw [HEq.o, HDr.o, une_pl h37 hp, Option.map_map]
          congr 1
          funext p
          simp)
         go_wp2_with (with_reducible refine sA ?_)
         show wpList _ _ _ _ _ _
         refine wpList_app1X (N := w.heap.size) rfl _ _ rfl a8 c8 acc x rfl rfl HO.o HU.o.size (by omega) ?_
         intro a5 c5 w5 o5 u5 _
         have HO5 := Ho o5
         have HU5 := Ho (u5 w HU.o (Nat.le_refl _))
         clear o5 u5
         simp only [Act.put, pB, pC, pD]
         go_wp2
         go_roundw
         all_goals first
          | exact ⟨i + 1, by go_num, by omega, q + 1, a5, c5, rfl, by omega, Ho ⟨acc ++ [x], HO5.o, HU5.o, HN.o⟩⟩
          | (simp [intOf]; omega)
      have hilz : ¬ (i : Int) < (S.size : Int) := by omega
      have HUne := Ho (show une SL = some acc by
       rw [HEq.o, List.drop_eq_nil_of_le (by rw [← HSz.o]; omega)]
       simp [une])
      have HUq := Ho HU.o
      have HSp := Ho (show Sb wr (.slice a8 q c8) acc from Ow.sb (row_owX HO.o))
      clear HEq
      obtain ⟨wq, hwq⟩ := ny wr
      rw [hwq] at HSp HUq HO HU ⊢
      clear hwq
      go_wp2
      go_loopw [12] (fun v12 wr2 => v12 = .int .i64 0 ∧ Hd (Up wq wr2)) (fun _ _ => 0)
      case atStart => exact ⟨rfl, Ho (Up.refl _)⟩
      case round =>
       obtain ⟨rfl, hU4⟩ := hrel
       have HU4 := Ho (HUq.o.trans hU4.o)
       have HE := Ho (HYes.o acc HUne.o (by rw [HQe.o, HQn.o]; rfl))
       have hcv := conv_sb2 ((HSp.o).up hU4.o)
       clear hU4
       go_wp2
       go_ret3
       rw [HE.o, HQn.o]
       exact ⟨rfl, HU4.o⟩
   have h47z := neU (k := 47) rfl h47
   have HE := Ho (HNh.o (by rw [HH.o]; simpa using h47))
   go_wp2
   go_ret3
   rw [HE.o]
   exact ⟨rfl, HU2.o⟩
 have h1z : (1 : Int) < (n : Int) := by
  have : ¬ n = 1 := fun e => hr0 (hn1.2 e)
  omega
 have hSL2 : s.size = S.size + 1 + QL.length := by rw [HS.o, HSz.o, hLS, List.length_append, List.length_cons]; omega
 obtain ⟨Q, hQ⟩ := ny (s.extract (S.size + 1) s.size : ByteArray)
 have HQl := Ho (show Q.data.toList = QL by
  rw [← hQ, extr_drop, HL.o, HSz.o, hLS, List.drop_append]
  simp)
 have HQz := Ho (show Q.size = QL.length by rw [Go.Lib.size_eq, HQl.o])
 have hQz : Q.size ≤ s.size := by rw [HQz.o]; omega
 have HQv := Ho (show vs QL = .string Q by rw [← HQl.o, vs_data'])
 have hSs : S.size ≤ s.size := by omega
 have hs1 : (S.size : Int) + 1 ≤ (s.size : Int) := by omega
 clear hr0 hLS hn1 hSL2
 by_cases hz : S.size = 0
 · have hem := emp_yes hz
   have HE := Ho (HNh.o (by
    have : SL = [] := List.length_eq_zero_iff.1 (by rw [← HSz.o]; exact hz)
    rw [this]
    decide))
   go_wp2
   go_ret3
   rw [HE.o]
   exact ⟨rfl, HU2.o⟩
 have hzp : 0 < S.size := by omega
 have hzpz : (0 : Int) < (S.size : Int) := by omega
 have hem := emp_no hzp
 obtain ⟨x0, r0, hx0⟩ : ∃ x r, SL = x :: r := by
  cases hc : SL with
  | nil => rw [HSz.o, hc] at hzp; simp at hzp
  | cons x r => exact ⟨x, r, rfl⟩
 have hg0 : S[0] = x0 := by
  rw [sget' S 0 hzp]
  simp only [HSl.o, hx0, List.getElem_cons_zero]
 have HH := Ho (show hd47 SL = (x0 == 47) by rw [hx0]; exact hd47_cons x0 r0)
 clear hx0
 by_cases h47 : x0 = 47
 · subst h47
   have HYes := Ho (HYs.o HH.o)
   clear HH HYs HNh
   go_wp2
   go_loopw [8, 9] (fun v8 v9 wr => ∃ i : Nat, v9 = .int .i64 (i : Int) ∧ i ≤ S.size ∧ ∃ q a8 c8, v8 = .slice a8 q c8 ∧ q ≤ i ∧ Hd (∃ acc, wr.ownsRow w.heap.size 5 1 (.slice a8 q c8) q (cb acc) ∧ Up w wr ∧ une SL = (une (SL.drop i)).map (acc ++ ·))) (fun _ v9 _ => S.size - (intOf v9).toNat)
   case atStart =>
    refine ⟨0, rfl, Nat.zero_le _, 0, none, 0, rfl, Nat.zero_le _, Ho ⟨[], World.ownsRow_nil _ _ _ _, HU2.o, ?_⟩⟩
    rw [List.drop_zero]
    cases une SL <;> simp
   case round =>
    obtain ⟨i, rfl, hi, q, a8, c8, rfl, hq, hX⟩ := hrel
    obtain ⟨acc, hO, hU, hE⟩ := hX.o
    have HO := Ho hO
    have HU := Ho hU
    have HEq := Ho hE
    clear hX hO hU hE
    by_cases hil : i < S.size
    · have hilz : (i : Int) < (S.size : Int) := by omega
      have hiL : i < SL.length := by rw [← HSz.o]; exact hil
      have hg : S[i] = SL[i] := by
       rw [sget' S i hil]
       simp only [HSl.o]
      have HDr := Ho (List.drop_eq_getElem_cons hiL)
      generalize SL[i] = x at *
      clear hiL
      by_cases h37 : x = 37
      · subst h37
        by_cases h2 : i + 2 < S.size
        · have h2z : ¬ (S.size : Int) ≤ (i : Int) + 2 := by omega
          have h2a : (i : Int) + 1 < (S.size : Int) := by omega
          have h2b : (i : Int) + 2 < (S.size : Int) := by omega
          have hga : S[i + 1]'(by omega) = SL[i + 1]'(by rw [← HSz.o]; omega) := by
           rw [sget' S (i + 1) (by omega)]
           simp only [HSl.o]
          have hgb : S[i + 2]'(by omega) = SL[i + 2]'(by rw [← HSz.o]; omega) := by
           rw [sget' S (i + 2) (by omega)]
           simp only [HSl.o]
          have HD3 := Ho (show SL.drop i = 37 :: SL[i + 1]'(by rw [← HSz.o]; omega) :: SL[i + 2]'(by rw [← HSz.o]; omega) :: SL.drop (i + 3) by
           rw [HDr.o, List.drop_eq_getElem_cons (show i + 1 < SL.length by rw [← HSz.o]; omega), List.drop_eq_getElem_cons (show i + 2 < SL.length by rw [← HSz.o]; omega)])
          generalize SL[i + 1]'(by rw [← HSz.o]; omega) = xa at *
          generalize SL[i + 2]'(by rw [← HSz.o]; omega) = xb at *
          have HTno := Ho (show trk xa xb = false → rv = .tuple #[.string ⟨#[]⟩, .string ⟨#[]⟩, .int .i64 147] from fun h => HNu.o (by rw [HEq.o, HD3.o, une_tri_no h]; rfl))
          have HTyes := Ho (show trk xa xb = true → une SL = (une (SL.drop (i + 3))).map ((acc ++ [trb xa xb]) ++ ·) from fun h => by
           rw [HEq.o, HD3.o, une_tri h, Option.map_map]
           congr 1
           funext p
           simp)
          clear HD3 HDr
          have HHa := Ho (fun w => Rhex_walk xa w)
          have HHb := Ho (fun w => Rhex_walk xb w)
          cases hva : hxv xa with
          | none =>
           have HE := Ho (HTno.o (trk_hex (.inl (by rw [hva]; rfl))))
           rw [hxi_none hva] at HHa
           go_wp2_with fail
           refine (HHa.o _).mono ?_
           rintro e w9 ⟨rfl, h9⟩
           obtain rfl := h9.symm
           clear h9
           dsimp only
           go_wp2
           go_ret3
           rw [HE.o]
           exact ⟨rfl, HU.o⟩
          | some va =>
           have hva15 := hxv_le' hva
           rw [hxi_some hva] at HHa
           have hva0 : ¬ (va.toNat : Int) < 0 := by omega
           go_wp2_with fail
           refine (HHa.o _).mono ?_
           rintro e w9 ⟨rfl, h9⟩
           obtain rfl := h9.symm
           clear h9
           dsimp only
           cases hvb : hxv xb with
           | none =>
            have HE := Ho (HTno.o (trk_hex (.inr (by rw [hvb]; rfl))))
            rw [hxi_none hvb] at HHb
            go_wp2_with fail
            refine (HHb.o _).mono ?_
            rintro e w9 ⟨rfl, h9⟩
            obtain rfl := h9.symm
            clear h9
            dsimp only
            go_wp2
            go_ret3
            rw [HE.o]
            exact ⟨rfl, HU.o⟩
           | some vb2 =>
            have hvb15 := hxv_le' hvb
            rw [hxi_some hvb] at HHb
            have hvb0 : ¬ (vb2.toNat : Int) < 0 := by omega
            have HTb := Ho (show (trb xa xb).toNat = 16 * va.toNat + vb2.toNat by
             unfold trb
             rw [hva, hvb]
             show (UInt8.ofNat (va.toNat * 16 + vb2.toNat)).toNat = _
             rw [UInt8.toNat_ofNat_of_lt' (by show _ < 256; omega)]
             omega)
            have HTk := Ho (show trk xa xb = (!ctl (trb xa xb) && (trb xa xb != 47)) by
             unfold trk
             rw [hva, hvb]
             simp)
            go_wp2_with fail
            refine (HHb.o _).mono ?_
            rintro e w9 ⟨rfl, h9⟩
            obtain rfl := h9.symm
            clear h9
            dsimp only
            have hw1 : IntKind.i64.wrap (16 * (va.toNat : Int)) = 16 * (va.toNat : Int) := wrapk _ (by omega) (by omega)
            have hw2 : IntKind.i64.wrap (16 * (va.toNat : Int) + (vb2.toNat : Int)) = 16 * (va.toNat : Int) + (vb2.toNat : Int) := wrapk _ (by omega) (by omega)
            have hwi1 : IntKind.i64.wrap ((i : Int) + 1) = (i : Int) + 1 := wrapk _ (by omega) (by omega)
            have hwi2 : IntKind.i64.wrap ((i : Int) + 2) = (i : Int) + 2 := wrapk _ (by omega) (by omega)
            have hi1n : ¬ (i : Int) + 1 < 0 := by omega
            have hi2n : ¬ (i : Int) + 2 < 0 := by omega
            have hi1s : ¬ (S.size : Int) ≤ (i : Int) + 1 := by omega
            have ht1 : ((i : Int) + 1).toNat = i + 1 := by omega
            have ht2 : ((i : Int) + 2).toNat = i + 2 := by omega
            clear hva hvb
            go_wp2
            refine wp_region_held_drew (S := fun w2 => Up w w2) (by kernel_rfl) HU.o.drew (fun hS => ?_)
            refine tN 0 (some 72) (.move (.tmp 6)) 9 (.string S) hS ?_
            simp only [pA, pB, pC, pD]
            refine tN 1 (some 73) (.move (.tmp 9)) 3 (.int .i64 (i : Int)) hS ?_
            simp only [pA, pB, pC, pD]
            refine tN 2 (some 74) (.binOp .add 3 (.tmp 73) (.const (.int .i64 1)) 3) 3 (.int .i64 ((i : Int) + 1)) hS ?_
            simp only [pA, pB, pC, pD]
            refine tN 3 (some 75) (.index 9 (.tmp 72) (.tmp 74)) 5 (vb xa) hS ?_
            simp only [pA, pB, pC, pD]
            refine tN 6 (some 78) (.move (.tmp 6)) 9 (.string S) hS ?_
            simp only [pA, pB, pC, pD]
            refine tN 7 (some 79) (.move (.tmp 9)) 3 (.int .i64 (i : Int)) hS ?_
            simp only [pA, pB, pC, pD]
            refine tN 8 (some 80) (.binOp .add 3 (.tmp 79) (.const (.int .i64 2)) 3) 3 (.int .i64 ((i : Int) + 2)) hS ?_
            simp only [pA, pB, pC, pD]
            refine tN 9 (some 81) (.index 9 (.tmp 78) (.tmp 80)) 5 (vb xb) hS ?_
            simp only [pA, pB, pC, pD]
            refine rD 4 (some 76) (.call ⟨.value (.func 112), #[.tmp 75], #[5]⟩) 3 fun _ _ K hK => ?_
            rw [if_pos (by kernel_rfl)]
            go_simp
            refine (HHa.o wr.drew).mono ?_
            rintro e w6 ⟨rfl, h9⟩
            obtain rfl := h9.symm
            clear h9
            dsimp only
            refine hK.out _ _ hS (fun hS => ?_)
            clear hK K
            refine tN 5 (some 77) (.binOp .mul 3 (.const (.int .i64 16)) (.tmp 76) 3) 3 (.int .i64 (16 * (va.toNat : Int))) hS ?_
            simp only [Act.put, pB, pC, pD]
            refine rD 10 (some 82) (.call ⟨.value (.func 112), #[.tmp 81], #[5]⟩) 3 fun _ _ K hK => ?_
            rw [if_pos (by kernel_rfl)]
            go_simp
            refine (HHb.o wr.drew).mono ?_
            rintro e w6 ⟨rfl, h9⟩
            obtain rfl := h9.symm
            clear h9
            dsimp only
            refine hK.out _ _ hS (fun hS => ?_)
            clear hK K
            refine tN 11 (some 83) (.binOp .add 3 (.tmp 77) (.tmp 82) 3) 3 (.int .i64 (16 * (va.toNat : Int) + (vb2.toNat : Int))) hS ?_
            simp only [Act.put, pB, pC, pD]
            refine tN 12 (some 11) (.assign (.tmp 83)) 3 (.int .i64 (16 * (va.toNat : Int) + (vb2.toNat : Int))) hS ?_
            simp only [pA, pB, pC, pD]
            clear hS
            refine wpAnyH_done (by kernel_rfl) ?_ _
            have HU3 := Ho HU.o.drew
            have HO3 := Ho (ow_up HO.o (Up.refl wr).drew)
            obtain ⟨t, ht⟩ := ny (trb xa xb)
            rw [ht] at HTb HTk HTyes
            have htv : 16 * (va.toNat : Int) + (vb2.toNat : Int) = (t.toNat : Int) := by rw [HTb.o]; omega
            have ht256 := t.toNat_lt
            rw [htv]
            clear ht htv HTb hw1 hw2
            by_cases h32 : t.toNat < 32
            · have h32z : (t.toNat : Int) < 32 := by omega
              have HE := Ho (HTno.o (by rw [HTk.o]; unfold ctl; rw [decide_eq_true h32]; rfl))
              go_wp2
              go_ret3
              rw [HE.o]
              exact ⟨rfl, HU3.o⟩
            have h32z : ¬ (t.toNat : Int) < 32 := by omega
            by_cases h127 : t.toNat = 127
            · have h127z : ((t.toNat : Int) == 127) = true := by rw [h127]; rfl
              have HE := Ho (HTno.o (by rw [HTk.o]; unfold ctl; rw [decide_eq_true h127]; simp))
              go_wp2
              go_ret3
              rw [HE.o]
              exact ⟨rfl, HU3.o⟩
            have h127z : ((t.toNat : Int) == 127) = false := by rw [beq_eq_false_iff_ne]; omega
            by_cases ht47 : t = 47
            · subst ht47
              have HE := Ho (HTno.o (by rw [HTk.o]; simp))
              go_wp2
              go_ret3
              rw [HE.o]
              exact ⟨rfl, HU3.o⟩
            have ht47z : ((t.toNat : Int) == 47) = false := by
             have := neU (k := 47) rfl ht47
             rw [bne] at this
             simpa using this
            have HN := Ho (HTyes.o (by rw [HTk.o]; unfold ctl; rw [decide_eq_false h32, decide_eq_false h127, show (t != 47) = true by simpa using ht47]; rfl))
            have hwt : IntKind.u8.wrap (t.toNat : Int) = (t.toNat : Int) := wrapu8 _ (by omega) (by omega)
            go_wp2_with (with_reducible refine sA ?_)
            show wpList _ _ _ _ _ _
            refine wpList_app1X (N := w.heap.size) rfl _ _ rfl a8 c8 acc t rfl rfl HO3.o HU3.o.size (by omega) ?_
            intro a5 c5 w5 o5 u5 _
            have HO5 := Ho o5
            have HU5 := Ho (u5 w HU3.o (Nat.le_refl _))
            clear o5 u5
            simp only [Act.put, pB, pC, pD]
            go_wp2
            go_roundw
            all_goals first
             | exact ⟨i + 3, by go_num, by omega, q + 1, a5, c5, rfl, by omega, Ho ⟨acc ++ [t], HO5.o, HU5.o, HN.o⟩⟩
             | (simp [intOf]; omega)
        have h2z : (S.size : Int) ≤ (i : Int) + 2 := by omega
        have HE := Ho (HNu.o (by
         rw [HEq.o, HDr.o, une_end (by rw [List.length_drop, ← HSz.o]; omega)]
         rfl))
        go_wp2
        go_ret3
        rw [HE.o]
        exact ⟨rfl, HU.o⟩
      have h37z := neU (k := 37) rfl h37
      go_wp2_with fail
      refine (Rplain_walk x _).mono ?_
      rintro e w9 ⟨rfl, h9⟩
      obtain rfl := h9.symm
      clear h9
      dsimp only
      cases hp : pl x with
      | false =>
       have HE := Ho (HNu.o (by rw [HEq.o, HDr.o, une_no h37 hp]; rfl))
       go_wp2
       go_ret3
       rw [HE.o]
       exact ⟨rfl, HU.o⟩
      | true =>
       have HN := Ho (show une SL = (une (SL.drop (i + 1))).map ((acc ++ [x]) ++ ·) by
        rw [HEq.o, HDr.o, une_pl h37 hp, Option.map_map]
        congr 1
        funext p
        simp)
       go_wp2_with (with_reducible refine sA ?_)
       show wpList _ _ _ _ _ _
       refine wpList_app1X (N := w.heap.size) rfl _ _ rfl a8 c8 acc x rfl rfl HO.o HU.o.size (by omega) ?_
       intro a5 c5 w5 o5 u5 _
       have HO5 := Ho o5
       have HU5 := Ho (u5 w HU.o (Nat.le_refl _))
       clear o5 u5
       simp only [Act.put, pB, pC, pD]
       go_wp2
       go_roundw
       all_goals first
        | exact ⟨i + 1, by go_num, by omega, q + 1, a5, c5, rfl, by omega, Ho ⟨acc ++ [x], HO5.o, HU5.o, HN.o⟩⟩
        | (simp [intOf]; omega)
    have hilz : ¬ (i : Int) < (S.size : Int) := by omega
    have HUne := Ho (show une SL = some acc by
     rw [HEq.o, List.drop_eq_nil_of_le (by rw [← HSz.o]; omega)]
     simp [une])
    have HUq := Ho HU.o
    have HSp := Ho (show Sb wr (.slice a8 q c8) acc from Ow.sb (row_owX HO.o))
    clear HEq
    obtain ⟨wq, hwq⟩ := ny wr
    rw [hwq] at HSp HUq HO HU ⊢
    clear hwq
    go_wp2
    go_loopw [12] (fun v12 wr2 => ∃ j : Nat, v12 = .int .i64 (j : Int) ∧ j ≤ Q.size ∧ Hd (Up wq wr2 ∧ qok (QL.take j) = true)) (fun v12 _ => Q.size - (intOf v12).toNat)
    case atStart => exact ⟨0, rfl, Nat.zero_le _, Ho ⟨Up.refl _, rfl⟩⟩
    case round =>
     obtain ⟨j, rfl, hj, hU4⟩ := hrel
     have HU4 := Ho hU4.o
     clear hU4
     by_cases hjl : j < Q.size
     · have hjlz : (j : Int) < (Q.size : Int) := by omega
       have hjL : j < QL.length := by rw [← HQz.o]; exact hjl
       have hg : Q[j] = QL[j] := by
        rw [sget' Q j hjl]
        simp only [HQl.o]
       have HT := Ho (qok_take hjL)
       have HBq := Ho (show (pl QL[j] || QL[j] == 37 || QL[j] == 63) = false → rv = .tuple #[.string ⟨#[]⟩, .string ⟨#[]⟩, .int .i64 147] from fun hb => HNo.o (by
        unfold pok
        have : qok (cQ L) = false := by
         rw [HQe.o]
         unfold qok
         exact List.all_eq_false.2 ⟨_, List.getElem_mem hjL, by rw [hb]; simp⟩
        rw [this]
        simp))
       generalize QL[j] = y at *
       clear hjL
       go_wp2_with fail
       refine (Rplain_walk y _).mono ?_
       rintro e w9 ⟨rfl, h9⟩
       obtain rfl := h9.symm
       clear h9
       dsimp only
       cases hp : pl y with
       | true =>
        have HN := Ho (show qok (QL.take (j + 1)) = true by rw [HT.o, HU4.o.2, hp]; rfl)
        go_wp2
        go_roundw
        all_goals first
         | exact ⟨j + 1, by go_num, by omega, Ho ⟨HU4.o.1, HN.o⟩⟩
         | (simp [intOf]; omega)
       | false =>
        by_cases h37 : y = 37
        · subst h37
          have HN := Ho (show qok (QL.take (j + 1)) = true by rw [HT.o, HU4.o.2]; rfl)
          go_wp2
          go_roundw
          all_goals first
           | exact ⟨j + 1, by go_num, by omega, Ho ⟨HU4.o.1, HN.o⟩⟩
           | (simp [intOf]; omega)
        have h37z := neU (k := 37) rfl h37
        by_cases h63 : y = 63
        · subst h63
          have HN := Ho (show qok (QL.take (j + 1)) = true by rw [HT.o, HU4.o.2]; rfl)
          go_wp2
          go_roundw
          all_goals first
           | exact ⟨j + 1, by go_num, by omega, Ho ⟨HU4.o.1, HN.o⟩⟩
           | (simp [intOf]; omega)
        have h63z := neU (k := 63) rfl h63
        have HE := Ho (HBq.o (by rw [hp, show (y == 37) = false by simpa using h37, show (y == 63) = false by simpa using h63]; rfl))
        go_wp2
        go_ret3
        rw [HE.o]
        exact ⟨rfl, HUq.o.trans HU4.o.1⟩
     have hjlz : ¬ (j : Int) < (Q.size : Int) := by omega
     have HE := Ho (HYes.o acc HUne.o (by
      have h1 := HU4.o.2
      rw [List.take_of_length_le (by rw [← HQz.o]; omega)] at h1
      rw [HQe.o]
      exact h1))
     have hcv := conv_sb2 ((HSp.o).up HU4.o.1)
     go_wp2
     go_ret3
     rw [HE.o, HQv.o]
     exact ⟨rfl, HUq.o.trans HU4.o.1⟩
 have h47z := neU (k := 47) rfl h47
 have HE := Ho (HNh.o (by rw [HH.o]; simpa using h47))
 go_wp2
 go_ret3
 rw [HE.o]
 exact ⟨rfl, HU2.o⟩
end Go.Proofs.YtehnnlhoajdcaaaGreatDoor
