import Derived.Test.YtehnnlhoajdcaaaGreatDoorMd
import Derived.Test.YtehnnlhoajdcaaaGreatDoorYd
import Derived.WalkMore
import Derived.Laws.BitsLemmas
namespace Go.Proofs.YtehnnlhoajdcaaaGreatDoor
open Go.RowKit TextNum
theorem ext_drop' (s : ByteArray) (k : Nat) : (s.extract k s.size).data.toList = s.data.toList.drop k := by
 have hz : s.size = s.data.toList.length := Go.Lib.size_eq s
 rw [ByteArray.data_extract, Array.toList_extract, List.extract_eq_drop_take', List.take_of_length_le (by rw [← hz]; exact Nat.le_refl _)]
theorem wraps_i62 (n : Int) (h₀ : 0 ≤ n) (h₁ : n < 2 ^ 62) : IntKind.i64.wrap n = n := wrapk n h₀ (by omega)
theorem or16i (z v : Nat) (hz : z < 4294967296) (hv : v ≤ 15) : bits .or .i64 ((z : Int) * 16) (v : Int) = ((z * 16 + v : Nat) : Int) := by
 have := bits_join .i64 62 (by decide) wraps_i62 4 ((z : Int) * 16) (v : Int) (by omega) (by omega) (by omega) (by omega) (by omega) (by omega)
 rw [this]
 omega
theorem hxv_le' {c d : UInt8} (h : hxv c = some d) : d.toNat ≤ 15 := by
 unfold hxv at h
 split at h
 · rename_i hd
   have hdd : 48 ≤ c.toNat ∧ c.toNat ≤ 57 := by simpa [isD] using hd
   injection h with h
   rw [← h, UInt8.toNat_sub_of_le _ _ (by rw [UInt8.le_iff_toNat_le]; simpa using hdd.1)]
   have : (48 : UInt8).toNat = 48 := rfl
   omega
 split at h
 · rename_i h2
   injection h with h
   have := (lw c).toNat_lt
   rw [← h, UInt8.toNat_add, UInt8.toNat_sub_of_le _ _ (by rw [UInt8.le_iff_toNat_le]; simpa using h2.1)]
   have : (97 : UInt8).toNat = 97 := rfl
   have : (10 : UInt8).toNat = 10 := rfl
   omega
 cases h
def csl (d z : Nat) : List UInt8 → Er (Nat × Nat)
 | [] => .ok (d, z)
 | x :: r => if x = 59 then .ok (d, z) else match hxv x with
   | none => .error 8
   | some v => if d = 8 then .error 8 else csl (d + 1) (z * 16 + v.toNat) r
def cSz (l : List UInt8) : Er Nat := match csl 0 0 l with
 | .error e => .error e
 | .ok (d, z) => if d = 0 ∨ vlu (l.drop d) = false then .error 8 else .ok z
def csR (ad : Nat → Addr) : Er Nat → Value
 | .error k => .tuple #[.int .i64 0, ev (ad k)]
 | .ok z => .tuple #[.int .i64 (z : Int), .nilIface]
theorem pow16_le : ∀ d : Nat, d ≤ 7 → 16 ^ d ≤ 268435456 := by decide
set_option maxRecDepth 100000 in
set_option maxHeartbeats 1000000 in
theorem chunkSize_walk (ad : Nat → Addr) (s : ByteArray) (hs : s.size ≤ 1048576) (w : World) (h : GE w ad) : Calls Tryz.prog 126 #[.string s] w fun e w' => e = .returned (csR ad (cSz s.data.toList)) ∧ Up w w' := by
 have HG := Ho h
 clear h
 obtain ⟨L, hL⟩ := ny s.data.toList
 have HLL := Ho hL
 have HS := Ho (show s.size = L.length by rw [← hL]; exact Go.Lib.size_eq s)
 rw [hL]
 clear hL
 go_enter Tryz.func126, Tryz.ntmps126
 go_wp2
 go_step3
 go_wp2
 go_step3
 go_wp2
 go_loopw [4, 5] (fun v4 v5 wr => ∃ d z : Nat, v4 = .int .i64 (z : Int) ∧ v5 = .int .i64 (d : Int) ∧ d ≤ s.size ∧ d ≤ 8 ∧ z < 4294967296 ∧ Hd (Up w wr ∧ z < 16 ^ d ∧ csl 0 0 L = csl d z (L.drop d))) (fun _ v5 _ => s.size - (intOf v5).toNat)
 case atStart => exact ⟨0, 0, rfl, rfl, Nat.zero_le _, by omega, by omega, Ho ⟨Up.refl _, by decide, rfl⟩⟩
 case round =>
  obtain ⟨d, z, rfl, rfl, hd, hd8, hz32, hQ⟩ := hrel
  have HQ := Ho hQ.o
  clear hQ
  by_cases hil : d < s.size
  · have hilz : (d : Int) < (s.size : Int) := by omega
    have hiL : d < L.length := by rw [← HS.o]; exact hil
    obtain ⟨x, hx⟩ := ny (L[d])
    have hg : s[d] = x := by
     rw [sget' s d hil, ← hx]
     simp only [HLL.o]
    have HD := Ho (show L.drop d = x :: L.drop (d + 1) by rw [← hx]; exact List.drop_eq_getElem_cons hiL)
    clear hx hiL
    have HX := Ho (hexDigit_walk x wr)
    have h59 : ((x.toNat : Int) == 59) = (x == 59) := u8_eq (a := x) (b := 59)
    by_cases hx59 : x = 59
    · have z59 : ((x.toNat : Int) == 59) = true := by rw [h59, beq_iff_eq]; exact hx59
      clear h59
      have HC := Ho (show csl 0 0 L = .ok (d, z) by rw [HQ.o.2.2, HD.o, csl, if_pos hx59])
      clear hx59
      go_wp2_with fail
      refine HX.o.mono ?_
      rintro e w9 ⟨rfl, h9⟩
      obtain rfl := h9.symm
      clear h9
      dsimp only
      by_cases hd0 : d = 0
      · have hdz : ((d : Int) == 0) = true := by rw [hd0]; rfl
        have HE := Ho (show csR ad (cSz L) = csR ad (.error 8) by unfold cSz; rw [HC.o]; dsimp only; rw [if_pos (.inl hd0)])
        clear hd0
        go_wp2
        refine wp_region_held_drew (S := fun w2 => GE w2 ad ∧ Up w w2) (by kernel_rfl) ⟨HG.o.up HQ.o.1.drew, HQ.o.1.drew⟩ (fun hS => ?_)
        refine tK 0 (some 48) (.load 106 (.global 11)) 106 (ev (ad 8)) hS ?_ ?_
        · intro _ _ w5 hSw
          have hgl : w5.cell? ⟨11, 0, none⟩ = _ := hSw.1.gl 8 (by decide)
          clear hSw hS
          go_simp
        simp only [Act.put, pB, pC, pD]
        refine tN 1 (some 2) (.assign (.const (.int .i64 0))) 2 (.int .i64 0) hS ?_
        simp only [pA, pB, pC, pD]
        refine tN 2 (some 3) (.assign (.tmp 48)) 106 (ev (ad 8)) hS ?_
        simp only [pA, pB, pC, pD]
        refine wpAnyH_done (by kernel_rfl) ?_ _
        have HS2 := Ho hS.2
        clear hS
        go_wp2
        try rw [Exit.noGoto_ret]
        go_ret2
        rw [HE.o]
        exact ⟨rfl, HS2.o⟩
      have hdz : ((d : Int) == 0) = false := by rw [beq_eq_false_iff_ne]; omega
      have HM := Ho (mayBeValue_walk (s.extract d s.size) (by rw [ByteArray.size_extract]; omega) wr)
      rw [ext_drop', HLL.o] at HM
      have hdl : (d : Int) ≤ (s.size : Int) := by omega
      cases hv : vlu (L.drop d) with
      | false =>
       have HE := Ho (show csR ad (cSz L) = csR ad (.error 8) by unfold cSz; rw [HC.o]; dsimp only; rw [if_pos (.inr hv)])
       rw [hv] at HM
       go_wp2_with fail
       refine HM.o.mono ?_
       rintro e w9 ⟨rfl, h9⟩
       have HU9 := Ho (HQ.o.1.trans h9)
       clear h9
       dsimp only
       go_wp2
       refine wp_region_held_drew (S := fun w2 => GE w2 ad ∧ Up w w2) (by kernel_rfl) ⟨HG.o.up HU9.o.drew, HU9.o.drew⟩ (fun hS => ?_)
       refine tK 0 (some 48) (.load 106 (.global 11)) 106 (ev (ad 8)) hS ?_ ?_
       · intro _ _ w5 hSw
         have hgl : w5.cell? ⟨11, 0, none⟩ = _ := hSw.1.gl 8 (by decide)
         clear hSw hS
         go_simp
       simp only [pA, pB, pC, pD]
       refine tN 1 (some 2) (.assign (.const (.int .i64 0))) 2 (.int .i64 0) hS ?_
       simp only [pA, pB, pC, pD]
       refine tN 2 (some 3) (.assign (.tmp 48)) 106 (ev (ad 8)) hS ?_
       simp only [pA, pB, pC, pD]
       refine wpAnyH_done (by kernel_rfl) ?_ _
       have HS2 := Ho hS.2
       clear hS
       go_wp2
       try rw [Exit.noGoto_ret]
       go_ret2
       rw [HE.o]
       exact ⟨rfl, HS2.o⟩
      | true =>
       have HE := Ho (show csR ad (cSz L) = .tuple #[.int .i64 (z : Int), .nilIface] by unfold cSz; rw [HC.o]; dsimp only; rw [if_neg (by rw [hv]; simp [hd0])]; rfl)
       rw [hv] at HM
       go_wp2_with fail
       refine HM.o.mono ?_
       rintro e w9 ⟨rfl, h9⟩
       have HU9 := Ho (HQ.o.1.trans h9)
       clear h9
       dsimp only
       go_wp2
       try rw [Exit.noGoto_ret]
       go_ret2
       rw [HE.o]
       exact ⟨rfl, HU9.o⟩
    have z59 : ((x.toNat : Int) == 59) = false := by rw [h59, beq_eq_false_iff_ne]; exact hx59
    clear h59
    cases hv : hxv x with
    | none =>
     have HE := Ho (show csR ad (cSz L) = csR ad (.error 8) by unfold cSz; rw [HQ.o.2.2, HD.o, csl, if_neg hx59, hv])
     rw [hv] at HX
     go_wp2_with fail
     refine HX.o.mono ?_
     rintro e w9 ⟨rfl, h9⟩
     obtain rfl := h9.symm
     clear h9
     dsimp only
     go_wp2
     refine wp_region_held_drew (S := fun w2 => GE w2 ad ∧ Up w w2) (by kernel_rfl) ⟨HG.o.up HQ.o.1.drew, HQ.o.1.drew⟩ (fun hS => ?_)
     refine tK 0 (some 31) (.load 106 (.global 11)) 106 (ev (ad 8)) hS ?_ ?_
     · intro _ _ w5 hSw
       have hgl : w5.cell? ⟨11, 0, none⟩ = _ := hSw.1.gl 8 (by decide)
       clear hSw hS
       go_simp
     simp only [pA, pB, pC, pD]
     refine tN 1 (some 2) (.assign (.const (.int .i64 0))) 2 (.int .i64 0) hS ?_
     simp only [pA, pB, pC, pD]
     refine tN 2 (some 3) (.assign (.tmp 31)) 106 (ev (ad 8)) hS ?_
     simp only [pA, pB, pC, pD]
     refine wpAnyH_done (by kernel_rfl) ?_ _
     have HS2 := Ho hS.2
     clear hS
     go_wp2
     try rw [Exit.noGoto_ret]
     go_ret2
     rw [HE.o]
     exact ⟨rfl, HS2.o⟩
    | some v =>
     rw [hv] at HX
     by_cases h8 : d = 8
     · have z8 : ((d : Int) == 8) = true := by rw [h8]; rfl
       have HE := Ho (show csR ad (cSz L) = csR ad (.error 8) by unfold cSz; rw [HQ.o.2.2, HD.o, csl, if_neg hx59, hv]; dsimp only; rw [if_pos h8])
       clear h8
       go_wp2_with fail
       refine HX.o.mono ?_
       rintro e w9 ⟨rfl, h9⟩
       obtain rfl := h9.symm
       clear h9
       dsimp only
       go_wp2
       refine wp_region_held_drew (S := fun w2 => GE w2 ad ∧ Up w w2) (by kernel_rfl) ⟨HG.o.up HQ.o.1.drew, HQ.o.1.drew⟩ (fun hS => ?_)
       refine tK 0 (some 31) (.load 106 (.global 11)) 106 (ev (ad 8)) hS ?_ ?_
       · intro _ _ w5 hSw
         have hgl : w5.cell? ⟨11, 0, none⟩ = _ := hSw.1.gl 8 (by decide)
         clear hSw hS
         go_simp
       simp only [pA, pB, pC, pD]
       refine tN 1 (some 2) (.assign (.const (.int .i64 0))) 2 (.int .i64 0) hS ?_
       simp only [pA, pB, pC, pD]
       refine tN 2 (some 3) (.assign (.tmp 31)) 106 (ev (ad 8)) hS ?_
       simp only [pA, pB, pC, pD]
       refine wpAnyH_done (by kernel_rfl) ?_ _
       have HS2 := Ho hS.2
       clear hS
       go_wp2
       try rw [Exit.noGoto_ret]
       go_ret2
       rw [HE.o]
       exact ⟨rfl, HS2.o⟩
     have z8 : ((d : Int) == 8) = false := by rw [beq_eq_false_iff_ne]; omega
     have hv15 := hxv_le' hv
     have HN := Ho (show csl 0 0 L = csl (d + 1) (z * 16 + v.toNat) (L.drop (d + 1)) by rw [HQ.o.2.2, HD.o, csl, if_neg hx59, hv]; dsimp only; rw [if_neg h8])
     have HP := Ho (show z * 16 + v.toNat < 16 ^ (d + 1) by have := HQ.o.2.1; rw [Nat.pow_succ]; omega)
     have hz28 : z < 268435456 := Nat.lt_of_lt_of_le HQ.o.2.1 (pow16_le d (by omega))
     have hor := or16i z v.toNat hz32 hv15
     have HZ := Ho (show z * 16 + v.toNat < 4294967296 by omega)
     dsimp only [Option.getD, Option.isSome] at HX
     go_wp2_with fail
     refine HX.o.mono ?_
     rintro e w9 ⟨rfl, h9⟩
     obtain rfl := h9.symm
     clear h9
     dsimp only
     go_wp2
     go_roundw
     all_goals first
      | exact ⟨d + 1, z * 16 + v.toNat, by first | rfl | simp, by go_num, by omega, by omega, HZ.o, Ho ⟨HQ.o.1, HP.o, HN.o⟩⟩
      | (simp [intOf]; omega)
  have hilz : ¬ (d : Int) < (s.size : Int) := by omega
  have HC := Ho (show csl 0 0 L = .ok (d, z) by rw [HQ.o.2.2, List.drop_eq_nil_of_le (by rw [← HS.o]; omega), csl])
  by_cases hd0 : d = 0
  · have hdz : ((d : Int) == 0) = true := by rw [hd0]; rfl
    have HE := Ho (show csR ad (cSz L) = csR ad (.error 8) by unfold cSz; rw [HC.o]; dsimp only; rw [if_pos (.inl hd0)])
    clear hd0
    go_wp2
    refine wp_region_held_drew (S := fun w2 => GE w2 ad ∧ Up w w2) (by kernel_rfl) ⟨HG.o.up HQ.o.1.drew, HQ.o.1.drew⟩ (fun hS => ?_)
    refine tK 0 (some 48) (.load 106 (.global 11)) 106 (ev (ad 8)) hS ?_ ?_
    · intro _ _ w5 hSw
      have hgl : w5.cell? ⟨11, 0, none⟩ = _ := hSw.1.gl 8 (by decide)
      clear hSw hS
      go_simp
    simp only [pA, pB, pC, pD]
    refine tN 1 (some 2) (.assign (.const (.int .i64 0))) 2 (.int .i64 0) hS ?_
    simp only [pA, pB, pC, pD]
    refine tN 2 (some 3) (.assign (.tmp 48)) 106 (ev (ad 8)) hS ?_
    simp only [pA, pB, pC, pD]
    refine wpAnyH_done (by kernel_rfl) ?_ _
    have HS2 := Ho hS.2
    clear hS
    go_wp2
    try rw [Exit.noGoto_ret]
    go_ret2
    rw [HE.o]
    exact ⟨rfl, HS2.o⟩
  have hdz : ((d : Int) == 0) = false := by rw [beq_eq_false_iff_ne]; omega
  have HM := Ho (mayBeValue_walk (s.extract d s.size) (by rw [ByteArray.size_extract]; omega) wr)
  rw [ext_drop', HLL.o] at HM
  have hdl : (d : Int) ≤ (s.size : Int) := by omega
  cases hv : vlu (L.drop d) with
  | false =>
   have HE := Ho (show csR ad (cSz L) = csR ad (.error 8) by unfold cSz; rw [HC.o]; dsimp only; rw [if_pos (.inr hv)])
   rw [hv] at HM
   go_wp2_with fail
   refine HM.o.mono ?_
   rintro e w9 ⟨rfl, h9⟩
   have HU9 := Ho (HQ.o.1.trans h9)
   clear h9
   dsimp only
   go_wp2
   refine wp_region_held_drew (S := fun w2 => GE w2 ad ∧ Up w w2) (by kernel_rfl) ⟨HG.o.up HU9.o.drew, HU9.o.drew⟩ (fun hS => ?_)
   refine tK 0 (some 48) (.load 106 (.global 11)) 106 (ev (ad 8)) hS ?_ ?_
   · intro _ _ w5 hSw
     have hgl : w5.cell? ⟨11, 0, none⟩ = _ := hSw.1.gl 8 (by decide)
     clear hSw hS
     go_simp
   simp only [pA, pB, pC, pD]
   refine tN 1 (some 2) (.assign (.const (.int .i64 0))) 2 (.int .i64 0) hS ?_
   simp only [pA, pB, pC, pD]
   refine tN 2 (some 3) (.assign (.tmp 48)) 106 (ev (ad 8)) hS ?_
   simp only [pA, pB, pC, pD]
   refine wpAnyH_done (by kernel_rfl) ?_ _
   have HS2 := Ho hS.2
   clear hS
   go_wp2
   try rw [Exit.noGoto_ret]
   go_ret2
   rw [HE.o]
   exact ⟨rfl, HS2.o⟩
  | true =>
   have HE := Ho (show csR ad (cSz L) = .tuple #[.int .i64 (z : Int), .nilIface] by unfold cSz; rw [HC.o]; dsimp only; rw [if_neg (by rw [hv]; simp [hd0])]; rfl)
   rw [hv] at HM
   go_wp2_with fail
   refine HM.o.mono ?_
   rintro e w9 ⟨rfl, h9⟩
   have HU9 := Ho (HQ.o.1.trans h9)
   clear h9
   dsimp only
   go_wp2
   try rw [Exit.noGoto_ret]
   go_ret2
   rw [HE.o]
   exact ⟨rfl, HU9.o⟩
end Go.Proofs.YtehnnlhoajdcaaaGreatDoor
