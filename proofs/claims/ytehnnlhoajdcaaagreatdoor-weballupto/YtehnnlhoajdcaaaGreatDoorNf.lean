import Derived.Test.YtehnnlhoajdcaaaGreatDoorNb
import Derived.Test.YtehnnlhoajdcaaaGreatDoorNc
import Derived.Test.YtehnnlhoajdcaaaGreatDoorNa
namespace Go.Proofs.YtehnnlhoajdcaaaGreatDoor
open Go.RowKit Go.Shelf TextNum
def RfrR (w' : World) (e : Ending) : Er (List UInt8) → Prop
 | .error k => e = .returned (.tuple #[.slice none 0 0, .int .i64 (nums k)])
 | .ok l => ∃ a c, e = .returned (.tuple #[.slice a l.length c, .int .i64 0]) ∧ Hd (Sb w' (.slice a l.length c) l)
def erM (l : List UInt8) : Option Nat → Er (List UInt8)
 | some k => .error k
 | none => .ok l
theorem nums_ne {k : Nat} (h : k < 12) : (nums k == 0) = false := by
 have : ∀ k : Nat, k < 12 → (nums k == 0) = false := by decide +kernel
 exact this k h
theorem mnr_eq (mi : Int) : mnr mi = (mi == 0 || mi == 1) := by
 unfold mnr
 first | rfl | (rw [Bool.or_comm]) | simp
theorem tld_neg (fs : List FD) : tld fs (-1) = pfs fs := by unfold tld; rw [if_neg (by decide)]
theorem tld_nat (fs : List FD) (n : Nat) : tld fs (n : Int) = pfs fs ++ [lnf n] := by unfold tld; rw [if_pos (by omega)]; rfl
set_option maxRecDepth 100000 in
set_option maxHeartbeats 8000000 in
theorem RFormatRequest_walk (m t : ByteArray) (mi : Int) (a : Option Addr) (fs : List FD) (c : Nat) (ab : Option Addr) (nb cb' : Nat) (bd : List UInt8) (cl : Bool) (w : World) (h : FdL w a fs c) (hb : Sb w (.slice ab nb cb') bd) (hMt : w.rangeAt 0 0 mtC) (hm : m.size ≤ 1099511627776) (ht : t.size ≤ 1099511627776)
  (hm0 : -9223372036854775808 ≤ mi) (hm1 : mi ≤ 9223372036854775807) (hl : szs fs ≤ 1099511627000) (hnb : nb ≤ 1099511627776) :
  Calls Tryz.prog 18 #[.agg #[.string m, .string t, .int .i64 mi, .slice a fs.length c, .slice ab nb cb', .bool cl]] w fun e w' => RfrR w' e (frQ m t mi fs bd) ∧ Up w w' := by
 have HF := Ho h
 have HMt := Ho hMt
 have HB := Ho hb
 have hcap := h.cap
 obtain ⟨hbn, hbc, hbm⟩ := hb.len
 unfold maxLen at hbm
 have HBn := Ho hbn
 clear h hMt hb
 obtain ⟨rv, hrv⟩ := ny (frQ m t mi fs bd)
 have HZf := szs_frF fs nb hnb
 have hsl := szs_len fs
 obtain ⟨F, hF⟩ := ny (frF fs nb)
 rw [hF] at HZf
 have HFr := Ho hF
 obtain ⟨ck, hck⟩ := ny (ckq m t mi F nb)
 have HRv := Ho (show rv = erM (prt (frS m t mi) F bd) ck by
   rw [← hrv, ← hck]
   unfold frQ erM
   rw [← hbn, hF]
   rfl)
 rw [hrv]
 clear hrv hF hbn
 unfold ckq at hck
 have HC := Ho hck
 clear hck
 have hvl := vtx_len mi hm0 hm1
 obtain ⟨SZ, hSZ⟩ := ny (m.size + 1 + t.size + 1 + (vtx mi).length)
 have HSz := Ho hSZ
 have HVz0 : (⟨(Go.Lib.itoa mi).toArray⟩ : ByteArray).size = (Go.Lib.itoa mi).length := by simp [ByteArray.size]
 have HVx := Ho (show vs (Go.Lib.itoa mi) = .string ⟨(Go.Lib.itoa mi).toArray⟩ from rfl)
 have HVd0 : (⟨(Go.Lib.itoa mi).toArray⟩ : ByteArray).data.toList = Go.Lib.itoa mi := rfl
 have hvz3 : (vtx mi).length = 7 + (Go.Lib.itoa mi).length := by unfold vtx; rw [List.length_append]; rfl
 generalize (⟨(Go.Lib.itoa mi).toArray⟩ : ByteArray) = vt at HVx HVz0 HVd0
 have hvz2 : vt.size ≤ 64 := by omega
 have HVz := Ho hvz2
 have HSd := Ho (show (m ++ (⟨#[32]⟩ : ByteArray) ++ t ++ (⟨#[32, 72, 84, 84, 80, 47, 49, 46]⟩ : ByteArray) ++ vt).data.toList = frS m t mi by
  rw [bat_app, bat_app, bat_app, bat_app]
  unfold frS vtx
  rw [HVd0]
  simp [List.append_assoc])
 have HSs := Ho (show (m ++ (⟨#[32]⟩ : ByteArray) ++ t ++ (⟨#[32, 72, 84, 84, 80, 47, 49, 46]⟩ : ByteArray) ++ vt).size = SZ by
  rw [Go.Lib.size_eq, HSd.o, ← hSZ]
  unfold frS
  simp only [List.length_append, List.length_cons, List.length_nil]
  rw [← Go.Lib.size_eq, ← Go.Lib.size_eq])
 have hl1 : ¬ 9223372036854775807 < m.size + 1 := by omega
 have hl2 : ¬ 9223372036854775807 < m.size + 1 + t.size := by omega
 have hl3 : ¬ 9223372036854775807 < m.size + 1 + t.size + 8 := by omega
 have hl4 : ¬ 9223372036854775807 < m.size + 1 + t.size + 8 + vt.size := by omega
 clear HVz0 HVd0 hvz3 hSZ
 have HHb := Ho (fun a2 c2 w' (h : FdL w' a2 F c2) => RheadBytes_walk a2 F c2 w' h (by omega))
 have HCf := Ho (fun a2 c2 w' (h : FdL w' a2 F c2) => Rchecked_walk a2 F c2 w' h (by omega))
 have HHo := Ho (fun a2 c2 w' (h : FdL w' a2 F c2) h2 => Rhost_walk a2 F c2 mi w' h h2)
 have HLd := Ho (fun (st : ByteArray) a2 c2 w' (h : FdL w' a2 F c2) (h2 : Sb w' (.slice ab nb cb') bd) h3 h4 h5 => Rlaid_walk st a2 F c2 _ bd w' h h2 h3 h4 h5)
 obtain ⟨nF, hnF⟩ := ny F.length
 have HNF := Ho hnF
 obtain ⟨z, hz⟩ := ny (szs F)
 rw [hnF] at HHb HCf HHo HLd
 rw [hz] at HHb HHo HLd HC HZf
 clear hnF hz
 have HT0 := Ho (tld_neg fs)
 have HT1 := Ho (tld_nat fs nb)
 have HF1 := HFr.o
 unfold frF at HF1
 go_enter Tryz.func18, Tryz.ntmps18
 go_wp2_with (with_reducible refine sL 22 ?_)
 show wpList _ _ _ _ _ _
 refine spl fun w1 HA0 HU0 => ?_
 have c4 := HA0.o.cell (i := 4) rfl
 by_cases hb0 : nb = 0
 case' _ =>
  have hb0z : ((nb : Int) == 0) = true := by rw [hb0]; rfl
  have HT := Ho (show tld fs (-1) = F by rw [HT0.o, ← HF1, if_neg (by omega)])
  have Hb0 := Ho hb0
  clear HT0 HT1 HF1 hb0
  have c3 := HA0.o.cell (i := 3) rfl
  go_wp2_with fail
  refine (Rprinted_walk a fs c (-1) w1 (HF.o.up HU0.o) (by omega) (by omega) (by omega)).mono ?_
 rotate_left
 case' _ =>
  have hb0z : ((nb : Int) == 0) = false := by rw [beq_eq_false_iff_ne]; omega
  have HT := Ho (show tld fs (nb : Int) = F by rw [HT1.o, ← HF1, if_pos (by omega)])
  clear HT0 HT1 HF1
  have c3 := HA0.o.cell (i := 3) rfl
  go_wp2_with fail
  refine (Rprinted_walk a fs c (nb : Int) w1 (HF.o.up HU0.o) (by omega) (by omega) (by omega)).mono ?_
 all_goals
  rintro e w2 ⟨⟨a2, c2, rfl, hO2⟩, h9⟩
  have HU2 := Ho (HU0.o.trans h9)
  have HA2 := Ho (HA0.o.up h9)
  have hO3 := hO2.o.fdl
  rw [HT.o] at hO3 ⊢
  have HF2 := Ho hO3
  have hcap2 := hO3.cap
  rw [HNF.o] at hcap2 ⊢
  clear h9 hO2 hO3 c3 c4 HT
  dsimp only
  go_wp2
  refine wp_region_held_drew (S := fun w2 => At w2 w.heap.size 56 [.string m, .string t, .int .i64 mi, .slice a fs.length c, .slice ab nb cb', .bool cl] ∧ Up w w2) (by kernel_rfl) ⟨HA2.o.up (Up.refl _).drew, HU2.o.drew⟩ (fun hS => ?_)
  refine tN 0 (some 17) (.fieldAddr 56 (.tmp 1) 0) 0 (.pointer (some ⟨w.heap.size, 0, none⟩)) hS ?_
  simp only [Act.put, pB, pC, pD]
  refine tK 1 (some 18) (.load 9 (.tmp 17)) 9 (.string m) hS ?_ ?_
  · intro _ _ w5 hSw
    have h0 := hSw.1.cell (i := 0) rfl
    clear hSw hS
    go_simp
  simp only [Act.put, pB, pC, pD]
  refine tN 2 (some 19) (.binOp .add 9 (.tmp 18) (.const (.string { data := #[32] })) 9) 9 (.string (m ++ (⟨#[32]⟩ : ByteArray))) hS ?_
  simp only [Act.put, pB, pC, pD]
  refine tN 3 (some 20) (.fieldAddr 56 (.tmp 1) 1) 0 (.pointer (some ⟨w.heap.size, 1, none⟩)) hS ?_
  simp only [Act.put, pB, pC, pD]
  refine tK 4 (some 21) (.load 9 (.tmp 20)) 9 (.string t) hS ?_ ?_
  · intro _ _ w5 hSw
    have h0 := hSw.1.cell (i := 1) rfl
    clear hSw hS
    go_simp
  simp only [Act.put, pB, pC, pD]
  refine tN 5 (some 22) (.binOp .add 9 (.tmp 19) (.tmp 21) 9) 9 (.string (m ++ (⟨#[32]⟩ : ByteArray) ++ t)) hS ?_
  simp only [Act.put, pB, pC, pD]
  refine tN 6 (some 23) (.binOp .add 9 (.tmp 22) (.const (.string { data := #[32, 72, 84, 84, 80, 47, 49, 46] })) 9) 9 (.string (m ++ (⟨#[32]⟩ : ByteArray) ++ t ++ (⟨#[32, 72, 84, 84, 80, 47, 49, 46]⟩ : ByteArray))) hS ?_
  simp only [Act.put, pB, pC, pD]
  refine tN 7 (some 24) (.fieldAddr 56 (.tmp 1) 2) 0 (.pointer (some ⟨w.heap.size, 2, none⟩)) hS ?_
  simp only [Act.put, pB, pC, pD]
  refine tK 8 (some 25) (.load 3 (.tmp 24)) 3 (.int .i64 mi) hS ?_ ?_
  · intro _ _ w5 hSw
    have h0 := hSw.1.cell (i := 2) rfl
    clear hSw hS
    go_simp
  simp only [Act.put, pB, pC, pD]
  refine rD 9 (some 26) (.call ⟨.value (.func 44), #[.tmp 25], #[2]⟩) 9 fun _ _ K hK => ?_
  rw [if_pos (by kernel_rfl)]
  go_simp
  refine (RFormatNumber_walk mi hm0 hm1 w2.drew).mono ?_
  rintro e w3 ⟨rfl, h9⟩
  have HU3 := Ho (HU2.o.drew.trans h9)
  have HA3 := Ho ((HA2.o.up (Up.refl _).drew).up h9)
  have HF3 := Ho ((HF2.o.up (Up.refl _).drew).up h9)
  clear h9 hS HU2 HA2 HF2
  rw [HVx.o]
  dsimp only
  refine hK.out _ _ ⟨HA3.o, HU3.o⟩ (fun hS => ?_)
  clear hK K
  refine tK 10 (some 27) (.binOp .add 9 (.tmp 23) (.tmp 26) 9) 9 (.string (m ++ (⟨#[32]⟩ : ByteArray) ++ t ++ (⟨#[32, 72, 84, 84, 80, 47, 49, 46]⟩ : ByteArray) ++ vt)) hS ?_ ?_
  · intro _ _ w5 hSw
    clear hSw hS
    have hvz := HVz.o
    go_simp
  simp only [Act.put, pB, pC, pD]
  refine tN 11 (some 6) (.assign (.tmp 27)) 9 (.string (m ++ (⟨#[32]⟩ : ByteArray) ++ t ++ (⟨#[32, 72, 84, 84, 80, 47, 49, 46]⟩ : ByteArray) ++ vt)) hS ?_
  simp only [Act.put, pB, pC, pD]
  clear hS
  refine wpAnyH_done (by kernel_rfl) ?_ _
  generalize m ++ (⟨#[32]⟩ : ByteArray) ++ t ++ (⟨#[32, 72, 84, 84, 80, 47, 49, 46]⟩ : ByteArray) ++ vt = st at HSd HSs ⊢
  by_cases hs1 : 8000 < SZ
  · have hs1z : (8000 : Int) < (st.size : Int) := by rw [HSs.o]; omega
    have HE := Ho (show rv = .error 9 by rw [HRv.o, ← HC.o, if_pos (by have := HSz.o; omega)]; rfl)
    go_wp2
    go_ret2
    rw [HE.o]
    exact ⟨rfl, HU3.o⟩
  have hs1z : ¬ (8000 : Int) < (st.size : Int) := by rw [HSs.o]; omega
  rw [if_neg (by have := HSz.o; omega)] at HC
  go_wp2_with fail
  refine (HHb.o _ _ _ HF3.o).mono ?_
  rintro e w4 ⟨rfl, h9⟩
  have HU4 := Ho (HU3.o.trans h9)
  have HA4 := Ho (HA3.o.up h9)
  have HF4 := Ho (HF3.o.up h9)
  clear h9
  dsimp only
  by_cases h2 : 16384 < z
  · have h2z : (16384 : Int) < (z : Int) := by omega
    have HE := Ho (show rv = .error 1 by rw [HRv.o, ← HC.o, if_pos h2]; rfl)
    go_wp2
    go_ret2
    rw [HE.o]
    exact ⟨rfl, HU4.o⟩
  have h2z : ¬ (16384 : Int) < (z : Int) := by omega
  rw [if_neg h2] at HC
  have HHo := Ho (fun a2 c2 w' h => HHo.o a2 c2 w' h (by omega))
  have c0 := HA4.o.cell (i := 0) rfl
  go_wp2_with fail
  refine (Rtoken_walk m hm w4).mono ?_
  rintro e w5 ⟨rfl, h9⟩
  have HU5 := Ho (HU4.o.trans h9)
  have HA5 := Ho (HA4.o.up h9)
  have HF5 := Ho (HF4.o.up h9)
  clear h9
  dsimp only
  cases htk : tok m.data.toList with
  | false =>
   have HE := Ho (show rv = .error 3 by rw [HRv.o, ← HC.o, if_pos htk]; rfl)
   go_wp2
   go_ret2
   rw [HE.o]
   exact ⟨rfl, HU5.o⟩
  | true =>
   rw [if_neg (by rw [htk]; simp)] at HC
   clear htk
   clear c0
   have c1 := HA5.o.cell (i := 1) rfl
   go_wp2_with fail
   refine (Rvisible_walk t ht w5).mono ?_
   rintro e w6 ⟨rfl, h9⟩
   have HU6 := Ho (HU5.o.trans h9)
   have HA6 := Ho (HA5.o.up h9)
   have HF6 := Ho (HF5.o.up h9)
   clear h9
   dsimp only
   cases htg : tgt t.data.toList with
   | false =>
    have HE := Ho (show rv = .error 3 by rw [HRv.o, ← HC.o, if_pos htg]; rfl)
    go_wp2
    go_ret2
    rw [HE.o]
    exact ⟨rfl, HU6.o⟩
   | true =>
    rw [if_neg (by rw [htg]; simp)] at HC
    clear htg c1
    have c0 := HA6.o.cell (i := 0) rfl
    go_wp2_with fail
    refine (Rknown_walk m w6 (range_up HMt.o HU6.o)).mono ?_
    rintro e w7 ⟨rfl, h9⟩
    obtain rfl := h9.symm
    clear h9
    dsimp only
    cases hmt : mtk m with
    | false =>
     have HE := Ho (show rv = .error 10 by rw [HRv.o, ← HC.o, if_pos hmt]; rfl)
     go_wp2
     go_ret2
     rw [HE.o]
     exact ⟨rfl, HU6.o⟩
    | true =>
     rw [if_neg (by rw [hmt]; simp)] at HC
     clear hmt c0
     have c2 := HA6.o.cell (i := 2) rfl
     have HM := Ho (show mnr mi = (mi == 0 || mi == 1) from mnr_eq mi)
     by_cases hm2 : mi = 0
     · subst hm2
       rw [if_neg (show ¬ mnr 0 = false by decide)] at HC
       go_wp2_with fail
       refine (HCf.o _ _ _ HF6.o).mono ?_
       rintro e w8 ⟨rfl, h9⟩
       have HU8 := Ho (HU6.o.trans h9)
       have HA8 := Ho (HA6.o.up h9)
       have HF8 := Ho (HF6.o.up h9)
       clear h9
       dsimp only
       clear c2
       cases hcf : ckf F with
       | some k =>
        have hkz := nums_ne (ckf_lt hcf)
        have HE := Ho (show rv = .error k by rw [HRv.o, ← HC.o, hcf]; rfl)
        clear hcf
        rw [show ckN (some k) = nums k from rfl]
        go_wp2
        go_ret2
        rw [HE.o]
        exact ⟨rfl, HU8.o⟩
       | none =>
        rw [hcf] at HC
        rw [show ckN none = 0 from rfl]
        clear hcf
        have c2 := HA8.o.cell (i := 2) rfl
        go_wp2_with fail
        refine (HHo.o _ _ _ HF8.o).mono ?_
        rintro e w9 ⟨rfl, h9⟩
        have HU9 := Ho (HU8.o.trans h9)
        have HA9 := Ho (HA8.o.up h9)
        have HF9 := Ho (HF8.o.up h9)
        clear h9
        dsimp only
        cases hch : ckh F 0 with
        | some k =>
         have hkz := nums_ne (ckh_lt hch)
         have HE := Ho (show rv = .error k by rw [HRv.o, ← HC.o, hch]; rfl)
         clear hch
         rw [show ckN (some k) = nums k from rfl]
         go_wp2
         go_ret2
         rw [HE.o]
         exact ⟨rfl, HU9.o⟩
        | none =>
         rw [hch] at HC
         rw [show ckN none = 0 from rfl]
         clear hch c2
         have c4 := HA9.o.cell (i := 4) rfl
         by_cases hbl : 1048576 < nb
         first
         | · exact absurd hbl (by have := Hb0.o; omega)
         | · have hblz : (1048576 : Int) < (nb : Int) := by omega
             have HE := Ho (show rv = .error 7 by rw [HRv.o, ← HC.o, if_pos hbl]; rfl)
             go_wp2
             go_ret2
             rw [HE.o]
             exact ⟨rfl, HU9.o⟩
         have hblz : ¬ (1048576 : Int) < (nb : Int) := by omega
         have hbl2 : bd.length ≤ 1048576 := by have := HBn.o; omega
         go_wp2_with fail
         refine (HLd.o st _ _ _ HF9.o (HB.o.up HU9.o) (by rw [HSs.o]; omega) (by omega) (by omega)).mono ?_
         rintro e w10 ⟨⟨a8, c8, rfl, hO8⟩, h9⟩
         have HU10 := Ho (HU9.o.trans h9)
         have HO8 := Ho hO8.o
         clear h9 hO8
         rw [HSd.o] at HO8 ⊢
         dsimp only
         have HE := Ho (show rv = .ok (prt (frS m t 0) F bd) by rw [HRv.o, ← HC.o, if_neg hbl]; rfl)
         go_wp2
         go_ret2
         rw [HE.o]
         exact ⟨⟨a8, c8, rfl, Ho HO8.o⟩, HU10.o⟩
     by_cases hm3 : mi = 1
     · subst hm3
       rw [if_neg (show ¬ mnr 1 = false by decide)] at HC
       go_wp2_with fail
       refine (HCf.o _ _ _ HF6.o).mono ?_
       rintro e w8 ⟨rfl, h9⟩
       have HU8 := Ho (HU6.o.trans h9)
       have HA8 := Ho (HA6.o.up h9)
       have HF8 := Ho (HF6.o.up h9)
       clear h9
       dsimp only
       clear c2
       cases hcf : ckf F with
       | some k =>
        have hkz := nums_ne (ckf_lt hcf)
        have HE := Ho (show rv = .error k by rw [HRv.o, ← HC.o, hcf]; rfl)
        clear hcf
        rw [show ckN (some k) = nums k from rfl]
        go_wp2
        go_ret2
        rw [HE.o]
        exact ⟨rfl, HU8.o⟩
       | none =>
        rw [hcf] at HC
        rw [show ckN none = 0 from rfl]
        clear hcf
        have c2 := HA8.o.cell (i := 2) rfl
        go_wp2_with fail
        refine (HHo.o _ _ _ HF8.o).mono ?_
        rintro e w9 ⟨rfl, h9⟩
        have HU9 := Ho (HU8.o.trans h9)
        have HA9 := Ho (HA8.o.up h9)
        have HF9 := Ho (HF8.o.up h9)
        clear h9
        dsimp only
        cases hch : ckh F 1 with
        | some k =>
         have hkz := nums_ne (ckh_lt hch)
         have HE := Ho (show rv = .error k by rw [HRv.o, ← HC.o, hch]; rfl)
         clear hch
         rw [show ckN (some k) = nums k from rfl]
         go_wp2
         go_ret2
         rw [HE.o]
         exact ⟨rfl, HU9.o⟩
        | none =>
         rw [hch] at HC
         rw [show ckN none = 0 from rfl]
         clear hch c2
         have c4 := HA9.o.cell (i := 4) rfl
         by_cases hbl : 1048576 < nb
         first
         | · exact absurd hbl (by have := Hb0.o; omega)
         | · have hblz : (1048576 : Int) < (nb : Int) := by omega
             have HE := Ho (show rv = .error 7 by rw [HRv.o, ← HC.o, if_pos hbl]; rfl)
             go_wp2
             go_ret2
             rw [HE.o]
             exact ⟨rfl, HU9.o⟩
         have hblz : ¬ (1048576 : Int) < (nb : Int) := by omega
         have hbl2 : bd.length ≤ 1048576 := by have := HBn.o; omega
         go_wp2_with fail
         refine (HLd.o st _ _ _ HF9.o (HB.o.up HU9.o) (by rw [HSs.o]; omega) (by omega) (by omega)).mono ?_
         rintro e w10 ⟨⟨a8, c8, rfl, hO8⟩, h9⟩
         have HU10 := Ho (HU9.o.trans h9)
         have HO8 := Ho hO8.o
         clear h9 hO8
         rw [HSd.o] at HO8 ⊢
         dsimp only
         have HE := Ho (show rv = .ok (prt (frS m t 1) F bd) by rw [HRv.o, ← HC.o, if_neg hbl]; rfl)
         go_wp2
         go_ret2
         rw [HE.o]
         exact ⟨⟨a8, c8, rfl, Ho HO8.o⟩, HU10.o⟩
     have q0 : (mi == 0) = false := beq_eq_false_iff_ne.2 hm2
     have q1 : (mi == 1) = false := beq_eq_false_iff_ne.2 hm3
     have q2 : (mi != 0) = true := by rw [bne, q0]; rfl
     have q3 : (mi != 1) = true := by rw [bne, q1]; rfl
     have HMf := Ho (show mnr mi = false by rw [HM.o, q0, q1]; rfl)
     have HE := Ho (show rv = .error 4 by rw [HRv.o, ← HC.o, if_pos HMf.o]; rfl)
     go_wp2
     go_ret2
     rw [HE.o]
     exact ⟨rfl, HU6.o⟩
def ckr (st mi : Int) (fs : List FD) (nb : Nat) : Option Nat :=
 if 16384 < szs fs then some 1 else if mnr mi = false then some 4 else if sto st = false then some 11 else
  match ckf fs with
  | some k => some k
  | none => if 1048576 < nb then some 7 else if 0 < nb ∧ bdl st = true then some 7 else none
def raF (st : Int) (fs : List FD) (n : Nat) : List FD := if bdl st = true then pfs fs else pfs fs ++ [lnf n]
def raS (st mi : Int) : List UInt8 := vtx mi ++ [32] ++ Go.Lib.itoa st ++ [32] ++ rsn st
def raQ (st mi : Int) (fs : List FD) (bd : List UInt8) : Er (List UInt8) := match ckr st mi (raF st fs bd.length) bd.length with
 | some k => .error k
 | none => .ok (prt (raS st mi) (raF st fs bd.length) bd)
theorem st_facts : ∀ k : Nat, k < 600 → 100 ≤ k → (10 : UInt8) ∉ Go.Lib.itoa (k : Int) ∧ (10 : UInt8) ∉ rsn (k : Int) ∧ (rsn (k : Int)).length ≤ 64 ∧ (Go.Lib.itoa (k : Int)).length = 3 := by decide +kernel
theorem sto_nat {st : Int} (h : sto st = true) : ∃ k : Nat, st = (k : Int) ∧ k < 600 ∧ 100 ≤ k := by
 unfold sto at h
 rw [Bool.and_eq_true, decide_eq_true_eq, decide_eq_true_eq] at h
 exact ⟨st.toNat, by omega, by omega, by omega⟩
theorem vtx_32 {mi : Int} (h : mnr mi = true) : (32 : UInt8) ∉ vtx mi ∧ (vtx mi).length = 8 := by
 rcases mnr_or h with rfl | rfl
 · rw [show vtx 0 = [72, 84, 84, 80, 47, 49, 46, 48] by decide +kernel]
   exact ⟨by decide +kernel, rfl⟩
 rw [show vtx 1 = [72, 84, 84, 80, 47, 49, 46, 49] by decide +kernel]
 exact ⟨by decide +kernel, rfl⟩
theorem raS_no {st mi : Int} (hs : sto st = true) (hi : mnr mi = true) : (10 : UInt8) ∉ raS st mi ∧ (raS st mi).length ≤ 100 := by
 obtain ⟨k, rfl, hj1, hj2⟩ := sto_nat hs
 obtain ⟨f5, f6, f7, f8⟩ := st_facts k hj1 hj2
 obtain ⟨_, _, h3⟩ := vtx_facts hi
 obtain ⟨_, h4⟩ := vtx_32 hi
 refine ⟨?_, ?_⟩
 · unfold raS
   simp only [List.mem_append, List.mem_cons, List.not_mem_nil, or_false]
   rintro ((((h | h) | h) | h) | h)
   · exact h3 h
   · revert h; decide
   · exact f5 h
   · revert h; decide
   exact f6 h
 unfold raS
 simp only [List.length_append, List.length_cons, List.length_nil]
 omega
theorem ckr_lt {st mi : Int} {fs : List FD} {nb k : Nat} (h : ckr st mi fs nb = some k) : k < 12 := by
 unfold ckr at h
 repeat' split at h
 all_goals first
  | (cases h; done)
  | (injection h with h; subst h; decide)
  | (injection h with h; subst h; exact ckf_lt (by assumption))
theorem ckr_ok {st mi : Int} {fs : List FD} {nb : Nat} (h : ckr st mi fs nb = none) : szs fs ≤ 16384 ∧ mnr mi = true ∧ sto st = true ∧ ckf fs = none ∧ nb ≤ 1048576 ∧ (bdl st = true → nb = 0) := by
 unfold ckr at h
 repeat' split at h
 all_goals first
  | (cases h; done)
  | skip
 rename_i h1 h2 h3 _ h4 h5 h6
 refine ⟨by omega, by simpa using h2, by simpa using h3, h4, by omega, fun hb => ?_⟩
 rcases Nat.eq_zero_or_pos nb with h | h
 · exact h
 exact absurd ⟨h, hb⟩ h6
theorem szs_raF (st : Int) (fs : List FD) (n : Nat) (h : n ≤ 1099511627776) : szs (raF st fs n) ≤ szs fs + 128 := by
 have h1 := szs_pfs fs
 unfold raF
 split
 · omega
 rw [szs_snoc]
 have h2 : szf (lnf n) ≤ 128 := by
  have h3 := itoa_len (n : Int) (by omega) (by omega)
  have h4 : (⟨(Go.Lib.itoa (n : Int)).toArray⟩ : ByteArray).size = (Go.Lib.itoa (n : Int)).length := by simp [ByteArray.size]
  have h5 : ctlN.size = 14 := rfl
  unfold szf lnf
  dsimp only
  omega
 omega
set_option maxRecDepth 100000 in
set_option maxHeartbeats 4000000 in
theorem checkResponse_walk (ad : Nat → Addr) (st mi : Int) (af : Option Addr) (nf cf : Nat) (ab : Option Addr) (nb cb' : Nat) (cl : Bool) (a : Option Addr) (fs : List FD) (c : Nat) (w : World) (h : FdL w a fs c) (hG : GW w ad)
  (hl : szs fs ≤ 1099511627776) (hnb : nb ≤ 1099511627776) :
  Calls Tryz.prog 88 #[.agg #[.int .i64 st, .int .i64 mi, .slice af nf cf, .slice ab nb cb', .bool cl], .slice a fs.length c] w fun e w' => e = .returned (eoV ad (ckr st mi fs nb)) ∧ Up w w' := by
 have HF := Ho h
 have HW := Ho hG
 have hcap := h.cap
 have hsl := szs_len fs
 clear h hG
 have HA0 := Ho (at_new w 77 [.int .i64 st, .int .i64 mi, .slice af nf cf, .slice ab nb cb', .bool cl])
 have HU0 := Ho ((Up.refl w).alloc (.cells [.int .i64 st, .int .i64 mi, .slice af nf cf, .slice ab nb cb', .bool cl].toArray 77))
 obtain ⟨rv, hrv⟩ := ny (eoV ad (ckr st mi fs nb))
 rw [hrv]
 unfold ckr at hrv
 have HR := Ho hrv
 clear hrv
 obtain ⟨z, hz⟩ := ny (szs fs)
 have HSz := Ho (fun w (hF : FdL w a fs c) => sizeOf_walk a fs c w hF hl)
 have HCf := Ho (fun w (hF : FdL w a fs c) (hE : GE w ad) => checkFields_walk ad a fs c w hF hl hE)
 rw [hz] at HR hl hsl HSz
 clear hz
 go_enter Tryz.func88, Tryz.ntmps88
 go_wp2_with fail
 obtain ⟨w1, hw1⟩ := ny (w.alloc (.cells [.int .i64 st, .int .i64 mi, .slice af nf cf, .slice ab nb cb', .bool cl].toArray 77))
 rw [hw1] at HA0 HU0
 change Calls _ _ _ (w.alloc (.cells [.int .i64 st, .int .i64 mi, .slice af nf cf, .slice ab nb cb', .bool cl].toArray 77)) _
 rw [hw1]
 clear hw1
 refine (HSz.o w1 (HF.o.up HU0.o)).mono ?_
 rintro e w2 ⟨rfl, h9⟩
 have HU2 := Ho (HU0.o.trans h9)
 have HA2 := Ho (HA0.o.up h9)
 clear h9
 dsimp only
 by_cases h2 : 16384 < z
 · have h2z : (16384 : Int) < (z : Int) := by omega
   have HE := Ho (show rv = ev (ad 1) by rw [← HR.o, if_pos h2]; rfl)
   have hgl : w2.cell? ⟨2, 0, none⟩ = _ := (HW.o.up HU2.o).ge.gl 1 (by decide)
   go_wp2
   go_ret
   rw [HE.o]
   exact ⟨rfl, HU2.o⟩
 have h2z : ¬ (16384 : Int) < (z : Int) := by omega
 rw [if_neg h2] at HR
 have c1 := HA2.o.cell (i := 1) rfl
 go_wp2_with fail
 refine (isMinor_walk mi w2).mono ?_
 rintro e w8 ⟨rfl, h9⟩
 obtain rfl := h9.symm
 clear h9
 dsimp only
 cases hmn : mnr mi with
 | false =>
  have HE := Ho (show rv = ev (ad 4) by rw [← HR.o, if_pos hmn]; rfl)
  have hgl : w2.cell? ⟨5, 0, none⟩ = _ := (HW.o.up HU2.o).ge.gl 4 (by decide)
  go_wp2
  go_ret
  rw [HE.o]
  exact ⟨rfl, HU2.o⟩
 | true =>
  rw [if_neg (by rw [hmn]; simp)] at HR
  clear hmn c1
  have c0 := HA2.o.cell (i := 0) rfl
  go_wp2_with fail
  refine (isStatus_walk st w2).mono ?_
  rintro e w8 ⟨rfl, h9⟩
  obtain rfl := h9.symm
  clear h9
  dsimp only
  cases hst : sto st with
  | false =>
   have HE := Ho (show rv = ev (ad 11) by rw [← HR.o, if_pos hst]; rfl)
   have hgl : w2.cell? ⟨12, 0, none⟩ = _ := (HW.o.up HU2.o).ge.gl 11 (by decide)
   go_wp2
   go_ret
   rw [HE.o]
   exact ⟨rfl, HU2.o⟩
  | true =>
   rw [if_neg (by rw [hst]; simp)] at HR
   clear hst c0
   go_wp2_with fail
   refine (HCf.o w2 (HF.o.up HU2.o) (HW.o.up HU2.o).ge).mono ?_
   rintro e w3 ⟨rfl, h9⟩
   have HU3 := Ho (HU2.o.trans h9)
   have HA3 := Ho (HA2.o.up h9)
   clear h9
   dsimp only
   cases hcf : ckf fs with
   | some k =>
    have HE := Ho (show rv = ev (ad k) by rw [← HR.o, hcf]; rfl)
    rw [show eoV ad (some k) = ev (ad k) from rfl]
    have hne := ev_neq ad k
    go_wp2
    go_ret
    rw [HE.o]
    exact ⟨rfl, HU3.o⟩
   | none =>
    rw [hcf] at HR
    dsimp only at HR
    rw [show eoV ad none = Value.nilIface from rfl]
    clear hcf
    have c3 := HA3.o.cell (i := 3) rfl
    have c0 := HA3.o.cell (i := 0) rfl
    by_cases hbl : 1048576 < nb
    · have hblz : (1048576 : Int) < (nb : Int) := by omega
      have HE := Ho (show rv = ev (ad 7) by rw [← HR.o, if_pos hbl]; rfl)
      have hgl : w3.cell? ⟨6, 0, none⟩ = _ := (HW.o.up HU3.o).ge.gl 7 (by decide)
      go_wp2
      go_ret
      rw [HE.o]
      exact ⟨rfl, HU3.o⟩
    have hblz : ¬ (1048576 : Int) < (nb : Int) := by omega
    rw [if_neg hbl] at HR
    clear hbl
    by_cases hb0 : 0 < nb
    · have hb0z : (0 : Int) < (nb : Int) := by omega
      go_wp2_with fail
      refine (isBodiless_walk st w3).mono ?_
      rintro e w9 ⟨rfl, h9⟩
      obtain rfl := h9.symm
      clear h9
      dsimp only
      cases hbd : bdl st with
      | true =>
       have HE := Ho (show rv = ev (ad 7) by rw [← HR.o, if_pos ⟨hb0, hbd⟩]; rfl)
       have hgl : w3.cell? ⟨6, 0, none⟩ = _ := (HW.o.up HU3.o).ge.gl 7 (by decide)
       go_wp2
       go_ret
       rw [HE.o]
       exact ⟨rfl, HU3.o⟩
      | false =>
       have HE := Ho (show rv = .nilIface by rw [← HR.o, if_neg (fun h => by rw [hbd] at h; cases h.2)]; rfl)
       go_wp2
       go_ret
       rw [HE.o]
       exact ⟨rfl, HU3.o⟩
    have hb0z : ¬ (0 : Int) < (nb : Int) := by omega
    have HE := Ho (show rv = .nilIface by rw [← HR.o, if_neg (fun h => hb0 h.1)]; rfl)
    go_wp2
    go_ret
    rw [HE.o]
    exact ⟨rfl, HU3.o⟩
set_option maxRecDepth 100000 in
set_option maxHeartbeats 4000000 in
theorem FormatResponse_walk (ad : Nat → Addr) (st mi : Int) (a : Option Addr) (fs : List FD) (c : Nat) (ab : Option Addr) (nb cb' : Nat) (bd : List UInt8) (cl : Bool) (w : World) (h : FdL w a fs c) (hb : Sb w (.slice ab nb cb') bd) (hG : GW w ad) (hRs : w.rangeAt 8 0 rsC)
  (hs0 : -9223372036854775808 ≤ st) (hs1 : st ≤ 9223372036854775807) (hm0 : -9223372036854775808 ≤ mi) (hm1 : mi ≤ 9223372036854775807) (hl : szs fs ≤ 1099511627000) (hnb : nb ≤ 1099511627776) :
  Calls Tryz.prog 41 #[.agg #[.int .i64 st, .int .i64 mi, .slice a fs.length c, .slice ab nb cb', .bool cl]] w fun e w' => FrR w w' e (raQ st mi fs bd) ∧ Up w w' := by
 have HF := Ho h
 have HW := Ho hG
 have HB := Ho hb
 have HRs := Ho hRs
 have hcap := h.cap
 obtain ⟨hbn, hbc, hbm⟩ := hb.len
 unfold maxLen at hbm
 have HBn := Ho hbn
 clear h hG hb hbn hRs
 have HVz0 : (⟨(vtx mi).toArray⟩ : ByteArray).size = (vtx mi).length := by simp [ByteArray.size]
 have HVx := Ho (show vs (vtx mi) = .string ⟨(vtx mi).toArray⟩ from rfl)
 have HVd0 : (⟨(vtx mi).toArray⟩ : ByteArray).data.toList = vtx mi := rfl
 generalize (⟨(vtx mi).toArray⟩ : ByteArray) = vt at HVx HVz0 HVd0
 have HVd := Ho HVd0
 obtain ⟨vl, hVn⟩ := ny ((vtx mi).length)
 rw [hVn] at HVz0
 have HVz := Ho HVz0
 have HVn := Ho hVn
 clear HVz0 HVd0 hVn
 have HSz0 : (⟨(Go.Lib.itoa st).toArray⟩ : ByteArray).size = (Go.Lib.itoa st).length := by simp [ByteArray.size]
 have HSx := Ho (show vs (Go.Lib.itoa st) = .string ⟨(Go.Lib.itoa st).toArray⟩ from rfl)
 have HSd0 : (⟨(Go.Lib.itoa st).toArray⟩ : ByteArray).data.toList = Go.Lib.itoa st := rfl
 generalize (⟨(Go.Lib.itoa st).toArray⟩ : ByteArray) = sx at HSx HSz0 HSd0
 have HSd := Ho HSd0
 obtain ⟨sl, hSn⟩ := ny ((Go.Lib.itoa st).length)
 rw [hSn] at HSz0
 have HSz := Ho HSz0
 have HSn := Ho hSn
 clear HSz0 HSd0 hSn
 have HRz0 : (⟨(rsn st).toArray⟩ : ByteArray).size = (rsn st).length := by simp [ByteArray.size]
 have HRx := Ho (show vs (rsn st) = .string ⟨(rsn st).toArray⟩ from rfl)
 have HRd0 : (⟨(rsn st).toArray⟩ : ByteArray).data.toList = rsn st := rfl
 generalize (⟨(rsn st).toArray⟩ : ByteArray) = rx at HRx HRz0 HRd0
 have HRd := Ho HRd0
 obtain ⟨rl, hRn⟩ := ny ((rsn st).length)
 rw [hRn] at HRz0
 have HRz := Ho HRz0
 have HRn := Ho hRn
 clear HRz0 HRd0 hRn
 have hsl := szs_len fs
 have hpl := pfs_len fs
 have HZf := Ho (szs_raF st fs nb hnb)
 obtain ⟨rv, hrv⟩ := ny (raQ st mi fs bd)
 have HR := Ho hrv
 rw [hrv]
 clear hrv
 go_enter Tryz.func41, Tryz.ntmps41
 go_wp2_with (with_reducible refine sL 36 ?_)
 show wpList _ _ _ _ _ _
 refine spz fun w1 HA0 HU0 HS1 => ?_
 have c3 := HA0.o.cell (i := 2) rfl
 go_wp2_with fail
 refine (printedFields_walk a fs c w1 (HF.o.up HU0.o) (by omega) (HW.o.up HU0.o).kd).mono ?_
 rintro e w2 ⟨⟨a2, c2, rfl, hO2⟩, h9⟩
 have HU2 := Ho (HU0.o.trans h9)
 have HA2 := Ho (HA0.o.up h9)
 have HO2 := Ho hO2.o
 have HW1 := Ho h9
 clear h9 hO2 c3
 dsimp only
 have c0 := HA2.o.cell (i := 0) rfl
 go_wp2_with fail
 refine (isBodiless_walk st w2).mono ?_
 rintro e w3 ⟨rfl, h9⟩
 obtain rfl := h9.symm
 clear h9 c0
 dsimp only
 cases hb0 : bdl st
 case' false =>
  have HFr0 : raF st fs nb = pfs fs ++ [lnf nb] := by unfold raF; rw [if_neg (by rw [hb0]; simp)]
  clear hb0
  have c4 := HA2.o.cell (i := 3) rfl
  obtain ⟨np, hnp⟩ := ny ((pfs fs).length)
  have HNp := Ho hnp
  rw [hnp] at hpl ⊢
  clear hnp
  go_wp2_with fail
  refine (lengthOf_walk ab nb cb' hnb w2 (HW.o.up HU2.o).gn).mono ?_
  rintro e w3 ⟨rfl, h9⟩
  have HU3 := Ho (HU2.o.trans h9)
  have HA3 := Ho (HA2.o.up h9)
  have Hu3 := Ho h9
  clear h9
  dsimp only
  go_wp2_with (with_reducible refine sA ?_)
  show wpList _ _ _ _ _ _
  refine wpList_appFd (w := w3) (N := w1.heap.size) rfl _ _ rfl a2 c2 (pfs fs) (lnf nb) HNp.o rfl rfl (ow_up HO2.o Hu3.o) (Nat.le_trans HW1.o.size Hu3.o.size) (by omega) ?_
  intro a4 c4' w4 o4 u4 g4
  have HA4 := Ho (HA3.o.by g4 (fun e => by
   have h1 := ow_up HO2.o Hu3.o
   unfold FdO at h1
   rw [HNp.o] at h1
   have h2 := (World.ownsRow.lt h1 w.heap.size e).1
   have h3 := HS1.o
   omega))
  have hu4 := u4 w1 (HW1.o.trans Hu3.o) (Nat.le_refl _)
  have HU4 := Ho (HU0.o.trans hu4)
  have hZ := HZf.o
  rw [HFr0] at hZ
  have HFr := Ho HFr0
  have HNF0 : (pfs fs ++ [lnf nb]).length = np + 1 := by rw [List.length_append, HNp.o]; rfl
  have HF4 := Ho o4.fdl
  clear o4 u4 g4 hu4 HFr0 c4
  generalize pfs fs ++ [lnf nb] = F at HF4 HFr HNF0 hZ
  rw [← HNF0]
  clear HNF0
  have hFz : szs F ≤ 1099511627776 := by omega
  clear hZ
  simp only [Act.put, pB, pC, pD]
  obtain ⟨nF, hnF⟩ := ny F.length
  have HNF := Ho hnF
  have hnFc := HF4.o.cap
  have HCk := Ho (checkResponse_walk ad st mi a fs.length c ab nb cb' cl a4 F c4' w4 HF4.o (HW.o.up HU4.o) hFz hnb)
  have HPm := Ho (fun (st : ByteArray) (w7 : World) (h1 : FdL w7 a4 F c4') (h2 : Sb w7 (.slice ab nb cb') bd) h3 h4 h5 => printMessage_walk st a4 F c4' ab nb cb' bd w7 h1 h2 h3 h4 h5)
  rw [hnF] at HCk HPm hnFc ⊢
  clear hnF
  go_wp2_with (with_reducible refine sL 77 ?_)
  show wpList _ _ _ _ _ _
  refine wpList_load_mid rfl _ _ rfl w.heap.size 0 rfl _ _ HA4.o.range Tryz.underlying77 rfl (by kernel_rfl) ?_
  simp only [Act.put, pB, pC, pD]
  go_wp2_with fail
  refine HCk.o.mono ?_
  rintro e w6 ⟨rfl, h9⟩
  have HU6 := Ho (HU4.o.trans h9)
  have HA6 := Ho (HA4.o.up h9)
 case' true =>
  have HFr := Ho (show raF st fs nb = pfs fs by unfold raF; rw [if_pos hb0])
  clear hb0
  have HF4 := Ho HO2.o.fdl
  have hZ := HZf.o
  rw [HFr.o] at hZ
  generalize pfs fs = F at HF4 HFr hZ ⊢
  have hFz : szs F ≤ 1099511627776 := by omega
  clear hZ
  obtain ⟨nF, hnF⟩ := ny F.length
  have HNF := Ho hnF
  have hnFc := HF4.o.cap
  have HCk := Ho (checkResponse_walk ad st mi a fs.length c ab nb cb' cl a2 F c2 w2 HF4.o (HW.o.up HU2.o) hFz hnb)
  have HPm := Ho (fun (st : ByteArray) (w7 : World) (h1 : FdL w7 a2 F c2) (h2 : Sb w7 (.slice ab nb cb') bd) h3 h4 h5 => printMessage_walk st a2 F c2 ab nb cb' bd w7 h1 h2 h3 h4 h5)
  rw [hnF] at HCk HPm hnFc ⊢
  clear hnF
  go_wp2_with (with_reducible refine sL 77 ?_)
  show wpList _ _ _ _ _ _
  refine wpList_load_mid rfl _ _ rfl w.heap.size 0 rfl _ _ HA2.o.range Tryz.underlying77 rfl (by kernel_rfl) ?_
  simp only [Act.put, pB, pC, pD]
  go_wp2_with fail
  refine HCk.o.mono ?_
  rintro e w6 ⟨rfl, h9⟩
  have HU6 := Ho (HU2.o.trans h9)
  have HA6 := Ho (HA2.o.up h9)
 all_goals
  have HF6 := Ho (HF4.o.up h9)
  clear h9
  dsimp only
  cases hck : ckr st mi F nb with
  | some k =>
   have HE := Ho (show rv = .error k by rw [← HR.o]; unfold raQ; rw [← HBn.o, HFr.o, hck])
   have hk := ckr_lt hck
   rw [show eoV ad (some k) = ev (ad k) from rfl]
   have hne := ev_neq ad k
   clear hck
   go_wp2_with fail
   refine (numberOf_err ad k hk w6 (HW.o.up HU6.o).ge).mono ?_
   rintro e w7 ⟨rfl, h9⟩
   have HU7 := Ho (HU6.o.trans h9)
   clear h9
   dsimp only
   go_wp2
   go_ret2
   rw [HE.o]
   exact ⟨rfl, HU7.o⟩
  | none =>
   have HE := Ho (show rv = .ok (prt (raS st mi) F bd) by rw [← HR.o]; unfold raQ; rw [← HBn.o, HFr.o, hck])
   obtain ⟨hq1, hq2, hq3, hq4, hq5, hq6⟩ := ckr_ok hck
   rw [show eoV ad none = Value.nilIface from rfl]
   have HSt := Ho (show (vt ++ (⟨#[32]⟩ : ByteArray) ++ sx ++ (⟨#[32]⟩ : ByteArray) ++ rx).data.toList = raS st mi by rw [bat_app, bat_app, bat_app, bat_app]; unfold raS; rw [HVd.o, HSd.o, HRd.o])
   have hsz4 : (vt ++ (⟨#[32]⟩ : ByteArray) ++ sx ++ (⟨#[32]⟩ : ByteArray) ++ rx).size ≤ 1048576 := by
    rw [Go.Lib.size_eq, HSt.o]
    exact Nat.le_trans (raS_no hq3 hq2).2 (by decide)
   have hsm : vl ≤ 100 ∧ sl ≤ 100 ∧ rl ≤ 100 := by
    have h1 := (raS_no hq3 hq2).2
    have h2 := HVn.o
    have h3 := HSn.o
    have h4 := HRn.o
    unfold raS at h1
    simp only [List.length_append, List.length_cons, List.length_nil] at h1
    omega
   obtain ⟨hvl, hsl2, hrl⟩ := hsm
   have HPm := Ho (fun w7 h1 h2 => HPm.o (vt ++ (⟨#[32]⟩ : ByteArray) ++ sx ++ (⟨#[32]⟩ : ByteArray) ++ rx) w7 h1 h2 hsz4 (by omega) (by rw [← HBn.o]; exact hq5))
   rw [HSt.o] at HPm
   clear hsz4 HSt
   obtain ⟨L, hL⟩ := ny ((prt (raS st mi) F bd).length)
   have HL := Ho hL
   rw [hL] at HPm
   clear hL hck
   have hl1 : ¬ 9223372036854775807 < vl + 1 := by omega
   have hl2 : ¬ 9223372036854775807 < vl + 1 + sl := by omega
   have hl3 : ¬ 9223372036854775807 < vl + 1 + sl + 1 := by omega
   have hl4 : ¬ 9223372036854775807 < vl + 1 + sl + 1 + rl := by omega
   go_wp2
   have HUd := Ho HU6.o.drew
   have HAd := Ho (HA6.o.up (Up.refl _).drew)
   have HFd := Ho (HF6.o.up (Up.refl _).drew)
   refine wp_region_held_drew (S := fun w2 => At w2 w.heap.size 77 [.int .i64 st, .int .i64 mi, .slice a fs.length c, .slice ab nb cb', .bool cl] ∧ GW w2 ad ∧ Up w w2) (by kernel_rfl) ⟨HAd.o, HW.o.up HUd.o, HUd.o⟩ (fun hS => ?_)
   refine tN 0 (some 26) (.fieldAddr 77 (.tmp 1) 1) 0 (.pointer (some ⟨w.heap.size, 1, none⟩)) hS ?_
   simp only [Act.put, pB, pC, pD]
   refine tK 1 (some 27) (.load 3 (.tmp 26)) 3 (.int .i64 mi) hS ?_ ?_
   · intro _ _ w5 hSw
     have h0 := hSw.1.cell (i := 1) rfl
     clear hSw hS
     go_simp
   simp only [Act.put, pB, pC, pD]
   refine tN 4 (some 30) (.fieldAddr 77 (.tmp 1) 0) 0 (.pointer (some ⟨w.heap.size, 0, none⟩)) hS ?_
   simp only [Act.put, pB, pC, pD]
   refine tK 5 (some 31) (.load 3 (.tmp 30)) 3 (.int .i64 st) hS ?_ ?_
   · intro _ _ w5 hSw
     have h0 := hSw.1.cell (i := 0) rfl
     clear hSw hS
     go_simp
   simp only [Act.put, pB, pC, pD]
   refine tN 9 (some 35) (.fieldAddr 77 (.tmp 1) 0) 0 (.pointer (some ⟨w.heap.size, 0, none⟩)) hS ?_
   simp only [Act.put, pB, pC, pD]
   refine tK 10 (some 36) (.load 3 (.tmp 35)) 3 (.int .i64 st) hS ?_ ?_
   · intro _ _ w5 hSw
     have h0 := hSw.1.cell (i := 0) rfl
     clear hSw hS
     go_simp
   simp only [Act.put, pB, pC, pD]
   first
   | refine tN 13 (some 39) (.move (.tmp 4)) 36 (.slice a4 nF c4') hS ?_
   | refine tN 13 (some 39) (.move (.tmp 4)) 36 (.slice a2 nF c2) hS ?_
   simp only [Act.put, pB, pC, pD]
   refine tN 14 (some 40) (.fieldAddr 77 (.tmp 1) 3) 0 (.pointer (some ⟨w.heap.size, 3, none⟩)) hS ?_
   simp only [Act.put, pB, pC, pD]
   refine tK 15 (some 41) (.load 22 (.tmp 40)) 22 (.slice ab nb cb') hS ?_ ?_
   · intro _ _ w5 hSw
     have h0 := hSw.1.cell (i := 3) rfl
     clear hSw hS
     go_simp
   simp only [Act.put, pB, pC, pD]
   refine rD 2 (some 28) (.call ⟨.value (.func 57), #[.tmp 27], #[3]⟩) 9 fun _ _ K hK => ?_
   rw [if_pos (by kernel_rfl)]
   go_simp
   refine (versionText_walk mi hm0 hm1 w6.drew (HW.o.up HUd.o).gn).mono ?_
   rintro e w7 ⟨rfl, h9⟩
   have HU7 := Ho (HUd.o.trans h9)
   have HA7 := Ho (HAd.o.up h9)
   have HF7 := Ho (HFd.o.up h9)
   clear h9 hS
   rw [HVx.o]
   dsimp only
   refine hK.out _ _ ⟨HA7.o, HW.o.up HU7.o, HU7.o⟩ (fun hS => ?_)
   clear hK K
   refine tK 3 (some 29) (.binOp .add 9 (.tmp 28) (.const (.string { data := #[32] })) 9) 9 (.string (vt ++ (⟨#[32]⟩ : ByteArray))) hS ?_ ?_
   · intro _ _ w5 hSw
     clear hSw hS
     have hvz := HVz.o
     have hsz := HSz.o
     have hrz := HRz.o
     go_simp
   simp only [Act.put, pB, pC, pD]
   refine rD 6 (some 32) (.call ⟨.value (.func 89), #[.tmp 31], #[3]⟩) 9 fun _ _ K hK => ?_
   rw [if_pos (by kernel_rfl)]
   go_simp
   refine (statusText_walk st hs0 hs1 w7 (HW.o.up HU7.o).gn).mono ?_
   rintro e w8 ⟨rfl, h9⟩
   have HU8 := Ho (HU7.o.trans h9)
   have HA8 := Ho (HA7.o.up h9)
   have HF8 := Ho (HF7.o.up h9)
   clear h9 hS
   rw [HSx.o]
   dsimp only
   refine hK.out _ _ ⟨HA8.o, HW.o.up HU8.o, HU8.o⟩ (fun hS => ?_)
   clear hK K
   refine tK 7 (some 33) (.binOp .add 9 (.tmp 29) (.tmp 32) 9) 9 (.string (vt ++ (⟨#[32]⟩ : ByteArray) ++ sx)) hS ?_ ?_
   · intro _ _ w5 hSw
     clear hSw hS
     have hvz := HVz.o
     have hsz := HSz.o
     have hrz := HRz.o
     go_simp
   simp only [Act.put, pB, pC, pD]
   refine tK 8 (some 34) (.binOp .add 9 (.tmp 33) (.const (.string { data := #[32] })) 9) 9 (.string (vt ++ (⟨#[32]⟩ : ByteArray) ++ sx ++ (⟨#[32]⟩ : ByteArray))) hS ?_ ?_
   · intro _ _ w5 hSw
     clear hSw hS
     have hvz := HVz.o
     have hsz := HSz.o
     have hrz := HRz.o
     go_simp
   simp only [Act.put, pB, pC, pD]
   refine rD 11 (some 37) (.call ⟨.value (.func 64), #[.tmp 36], #[3]⟩) 9 fun _ _ K hK => ?_
   rw [if_pos (by kernel_rfl)]
   go_simp
   refine (Reason_walk st hs0 hs1 w8 (HW.o.up HU8.o).gn (range_up HRs.o HU8.o)).mono ?_
   rintro e w9 ⟨rfl, h9⟩
   have HU9 := Ho (HU8.o.trans h9)
   have HA9 := Ho (HA8.o.up h9)
   have HF9 := Ho (HF8.o.up h9)
   clear h9 hS
   rw [HRx.o]
   dsimp only
   refine hK.out _ _ ⟨HA9.o, HW.o.up HU9.o, HU9.o⟩ (fun hS => ?_)
   clear hK K
   refine tK 12 (some 38) (.binOp .add 9 (.tmp 34) (.tmp 37) 9) 9 (.string (vt ++ (⟨#[32]⟩ : ByteArray) ++ sx ++ (⟨#[32]⟩ : ByteArray) ++ rx)) hS ?_ ?_
   · intro _ _ w5 hSw
     clear hSw hS
     have hvz := HVz.o
     have hsz := HSz.o
     have hrz := HRz.o
     go_simp
   simp only [Act.put, pB, pC, pD]
   refine rD 16 (some 42) (.call ⟨.value (.func 56), #[.tmp 38, .tmp 39, .tmp 41], #[9, 36, 22]⟩) 22 fun _ _ K hK => ?_
   rw [if_pos (by kernel_rfl)]
   go_simp
   refine (HPm.o w9 HF9.o (HB.o.up HU9.o)).mono ?_
   rintro e w10 ⟨⟨a8, c8, rfl, hO8⟩, h9⟩
   have HU10 := Ho (HU9.o.trans h9)
   have HA10 := Ho (HA9.o.up h9)
   have HO8 := Ho (show Ow w10 w.heap.size _ _ from ow_base hO8.o HU9.o.size)
   clear h9 hS hO8
   dsimp only
   refine hK.out _ _ ⟨HA10.o, HW.o.up HU10.o, HU10.o⟩ (fun hS => ?_)
   clear hK K
   refine tN 17 (some 2) (.assign (.tmp 42)) 22 (.slice a8 L c8) hS ?_
   simp only [Act.put, pB, pC, pD]
   refine tN 18 (some 3) (.assign (.const (.int .i64 0))) 58 (.int .i64 0) hS ?_
   simp only [Act.put, pB, pC, pD]
   clear hS
   refine wpAnyH_done (by kernel_rfl) ?_ _
   go_wp2
   go_ret2
   rw [HE.o]
   exact ⟨⟨a8, c8, by rw [HL.o]; rfl, Ho (by rw [HL.o]; exact HO8.o)⟩, HU10.o⟩
set_option maxRecDepth 100000 in
theorem Rbare_walk (z : Int) (w : World) : Calls Tryz.prog 81 #[.int .i64 z] w fun e w' => e = .returned (.bool (bdl z)) ∧ w' = w := by
 obtain ⟨rv, hrv⟩ := ny (bdl z)
 have HR := Ho hrv
 rw [hrv]
 clear hrv
 unfold bdl at HR
 by_cases h0 : 100 ≤ z ∧ z ≤ 199
 · have h1 := h0.1
   have h2 := h0.2
   have h3 : z < 200 := by omega
   have HE := Ho (show rv = true by rw [← HR.o, decide_eq_true h1, decide_eq_true h2]; rfl)
   clear h0
   go_enter Tryz.func81, Tryz.ntmps81
   go_wp2
   go_ret
   rw [HE.o]
   exact ⟨rfl, rfl⟩
 have hd : (decide (100 ≤ z) && decide (z ≤ 199)) = false := by
  rw [Bool.and_eq_false_iff, decide_eq_false_iff_not, decide_eq_false_iff_not]; omega
 have HR2 := Ho (show rv = ((z == 204) || (z == 304)) by rw [← HR.o, hd]; rfl)
 clear HR hd
 cases h4 : (z == 204) with
 | true =>
  rw [h4] at HR2
  have HE := Ho (show rv = true from HR2.o)
  have hz : z = 204 := by simpa using h4
  subst hz
  clear h0
  go_enter Tryz.func81, Tryz.ntmps81
  go_wp2
  go_ret
  rw [HE.o]
  exact ⟨rfl, rfl⟩
 | false =>
  rw [h4] at HR2
  have HE := Ho (show rv = (z == 304) by rw [HR2.o]; rfl)
  by_cases h1 : 100 ≤ z
  · have h2 : ¬ z < 200 := by omega
    clear h0
    go_enter Tryz.func81, Tryz.ntmps81
    go_wp2
    go_ret
    rw [HE.o]
    exact ⟨rfl, rfl⟩
  clear h0
  go_enter Tryz.func81, Tryz.ntmps81
  go_wp2
  go_ret
  rw [HE.o]
  exact ⟨rfl, rfl⟩
theorem rsn_len (st : Int) (h0 : -9223372036854775808 ≤ st) (h1 : st ≤ 9223372036854775807) : (rsn st).length ≤ 64 := by
 have hT : ∀ p ∈ rsT, p.2.data.toList.length ≤ 64 := by decide +kernel
 have hi := itoa_len st h0 h1
 unfold rsn
 split
 · rename_i p hp
   exact hT p (List.mem_of_find?_eq_some hp)
 rw [List.length_append]
 simp only [List.length_cons, List.length_nil]
 omega
set_option maxRecDepth 100000 in
set_option maxHeartbeats 8000000 in
theorem RFormatResponse_walk (st mi : Int) (a : Option Addr) (fs : List FD) (c : Nat) (ab : Option Addr) (nb cb' : Nat) (bd : List UInt8) (cl : Bool) (w : World) (h : FdL w a fs c) (hb : Sb w (.slice ab nb cb') bd) (hRi : w.rangeAt 9 0 rsI) (hRs : w.rangeAt 10 0 rsS)
  (hs0 : -9223372036854775808 ≤ st) (hs1 : st ≤ 9223372036854775807) (hm0 : -9223372036854775808 ≤ mi) (hm1 : mi ≤ 9223372036854775807) (hl : szs fs ≤ 1099511627000) (hnb : nb ≤ 1099511627776) :
  Calls Tryz.prog 39 #[.agg #[.int .i64 st, .int .i64 mi, .slice a fs.length c, .slice ab nb cb', .bool cl]] w fun e w' => RfrR w' e (raQ st mi fs bd) ∧ Up w w' := by
 have HF := Ho h
 have HB := Ho hb
 have hcap := h.cap
 obtain ⟨hbn, hbc, hbm⟩ := hb.len
 unfold maxLen at hbm
 have HBn := Ho hbn
 clear h hb
 obtain ⟨rv, hrv⟩ := ny (raQ st mi fs bd)
 have HZf := szs_raF st fs nb hnb
 have hsl := szs_len fs
 obtain ⟨F, hF⟩ := ny (raF st fs nb)
 rw [hF] at HZf
 have HFr := Ho hF
 obtain ⟨ck, hck⟩ := ny (ckr st mi F nb)
 have HRv := Ho (show rv = erM (prt (raS st mi) F bd) ck by
   rw [← hrv, ← hck]
   unfold raQ erM
   rw [← hbn, hF]
   all_goals rfl)
 rw [hrv]
 clear hrv hF hbn
 unfold ckr at hck
 have HC := Ho hck
 clear hck
 have hil := itoa_len mi hm0 hm1
 have hsl2 := itoa_len st hs0 hs1
 have hrl : (rsn st).length ≤ 64 := rsn_len st hs0 hs1
 have HVz0 : (⟨(Go.Lib.itoa mi).toArray⟩ : ByteArray).size = (Go.Lib.itoa mi).length := by simp [ByteArray.size]
 have HVx : vs (Go.Lib.itoa mi) = .string ⟨(Go.Lib.itoa mi).toArray⟩ := rfl
 have HVd0 : (⟨(Go.Lib.itoa mi).toArray⟩ : ByteArray).data.toList = Go.Lib.itoa mi := rfl
 generalize (⟨(Go.Lib.itoa mi).toArray⟩ : ByteArray) = vt at HVx HVz0 HVd0
 have HSz0 : (⟨(Go.Lib.itoa st).toArray⟩ : ByteArray).size = (Go.Lib.itoa st).length := by simp [ByteArray.size]
 have HSx : vs (Go.Lib.itoa st) = .string ⟨(Go.Lib.itoa st).toArray⟩ := rfl
 have HSd0 : (⟨(Go.Lib.itoa st).toArray⟩ : ByteArray).data.toList = Go.Lib.itoa st := rfl
 generalize (⟨(Go.Lib.itoa st).toArray⟩ : ByteArray) = sx at HSx HSz0 HSd0
 have HRz0 : (⟨(rsn st).toArray⟩ : ByteArray).size = (rsn st).length := by simp [ByteArray.size]
 have HRx : vs (rsn st) = .string ⟨(rsn st).toArray⟩ := rfl
 have HRd0 : (⟨(rsn st).toArray⟩ : ByteArray).data.toList = rsn st := rfl
 generalize (⟨(rsn st).toArray⟩ : ByteArray) = rx at HRx HRz0 HRd0
 have HFm := Ho (fun w' => RFormatNumber_walk mi hm0 hm1 w')
 have HFs := Ho (fun w' => RFormatNumber_walk st hs0 hs1 w')
 have HRr := Ho (fun w' (h : Up w w') => RReason_walk st hs0 hs1 w' (range_up hRi h) (range_up hRs h))
 rw [HVx] at HFm
 rw [HSx] at HFs
 rw [HRx] at HRr
 have HSd := Ho (show ((⟨#[72, 84, 84, 80, 47, 49, 46]⟩ : ByteArray) ++ vt ++ (⟨#[32]⟩ : ByteArray) ++ sx ++ (⟨#[32]⟩ : ByteArray) ++ rx).data.toList = raS st mi by
  rw [bat_app, bat_app, bat_app, bat_app, bat_app]
  unfold raS vtx
  rw [HVd0, HSd0, HRd0])
 have HSs := Ho (show ((⟨#[72, 84, 84, 80, 47, 49, 46]⟩ : ByteArray) ++ vt ++ (⟨#[32]⟩ : ByteArray) ++ sx ++ (⟨#[32]⟩ : ByteArray) ++ rx).size = (raS st mi).length by rw [Go.Lib.size_eq, HSd.o])
 have HVz := Ho (show vt.size ≤ 64 by omega)
 have HSz := Ho (show sx.size ≤ 64 by omega)
 have HRz := Ho (show rx.size ≤ 64 by omega)
 have hl0 : ¬ 9223372036854775807 < 7 + vt.size := by omega
 have hl1 : ¬ 9223372036854775807 < 7 + vt.size + 1 := by omega
 have hl2 : ¬ 9223372036854775807 < 7 + vt.size + 1 + sx.size := by omega
 have hl3 : ¬ 9223372036854775807 < 7 + vt.size + 1 + sx.size + 1 := by omega
 have hl4 : ¬ 9223372036854775807 < 7 + vt.size + 1 + sx.size + 1 + rx.size := by omega
 clear HVz0 HVd0 HSz0 HSd0 HRz0 HRd0 HVx HSx HRx hil hsl2 hrl hRi hRs
 have HHb := Ho (fun a2 c2 w' (h : FdL w' a2 F c2) => RheadBytes_walk a2 F c2 w' h (by omega))
 have HCf := Ho (fun a2 c2 w' (h : FdL w' a2 F c2) => Rchecked_walk a2 F c2 w' h (by omega))
 have HLd := Ho (fun (st : ByteArray) a2 c2 w' (h : FdL w' a2 F c2) (h2 : Sb w' (.slice ab nb cb') bd) h3 h4 h5 => Rlaid_walk st a2 F c2 _ bd w' h h2 h3 h4 h5)
 obtain ⟨nF, hnF⟩ := ny F.length
 have HNF := Ho hnF
 obtain ⟨z, hz⟩ := ny (szs F)
 rw [hnF] at HHb HCf HLd
 rw [hz] at HHb HLd HC HZf
 clear hnF hz
 have HT0 := Ho (tld_neg fs)
 have HT1 := Ho (tld_nat fs nb)
 have HF1 := HFr.o
 unfold raF at HF1
 go_enter Tryz.func39, Tryz.ntmps39
 go_wp2_with (with_reducible refine sL 22 ?_)
 show wpList _ _ _ _ _ _
 refine spl fun w1 HA0 HU0 => ?_
 have c3 := HA0.o.cell (i := 3) rfl
 have c0 := HA0.o.cell (i := 0) rfl
 go_wp2_with fail
 refine (Rbare_walk st w1).mono ?_
 rintro e w2 ⟨rfl, h9⟩
 obtain rfl := h9.symm
 clear h9
 dsimp only
 cases hno : bdl st
 case' true =>
  have HT := Ho (show tld fs (-1) = F by rw [HT0.o, ← HF1, if_pos hno])
  have HNb := Ho hno
  clear HT0 HT1 HF1 hno
  have c2 := HA0.o.cell (i := 2) rfl
  go_wp2_with fail
  refine (Rprinted_walk a fs c (-1) w1 (HF.o.up HU0.o) (by omega) (by omega) (by omega)).mono ?_
 case' false =>
  have HT := Ho (show tld fs (nb : Int) = F by rw [HT1.o, ← HF1, if_neg (by rw [hno]; simp)])
  have HNb := Ho hno
  clear HT0 HT1 HF1 hno
  have c2 := HA0.o.cell (i := 2) rfl
  go_wp2_with fail
  refine (Rprinted_walk a fs c (nb : Int) w1 (HF.o.up HU0.o) (by omega) (by omega) (by omega)).mono ?_
 all_goals
  rintro e w2 ⟨⟨a2, c2', rfl, hO2⟩, h9⟩
  have HU2 := Ho (HU0.o.trans h9)
  have HA2 := Ho (HA0.o.up h9)
  have hO3 := hO2.o.fdl
  rw [HT.o] at hO3 ⊢
  have HF2 := Ho hO3
  have hcap2 := hO3.cap
  rw [HNF.o] at hcap2 ⊢
  clear h9 hO2 hO3 c2 c0 c3 HT
  dsimp only
  go_wp2_with fail
  refine (HHb.o _ _ _ HF2.o).mono ?_
  rintro e w4 ⟨rfl, h9⟩
  have HU4 := Ho (HU2.o.trans h9)
  have HA4 := Ho (HA2.o.up h9)
  have HF4 := Ho (HF2.o.up h9)
  clear h9
  dsimp only
  by_cases h2 : 16384 < z
  · have h2z : (16384 : Int) < (z : Int) := by omega
    have HE := Ho (show rv = .error 1 by rw [HRv.o, ← HC.o, if_pos h2]; rfl)
    go_wp2
    go_ret2
    rw [HE.o]
    exact ⟨rfl, HU4.o⟩
  have h2z : ¬ (16384 : Int) < (z : Int) := by omega
  rw [if_neg h2] at HC
  have c1 := HA4.o.cell (i := 1) rfl
  by_cases hm2 : mi = 0
  · subst hm2
    rw [if_neg (show ¬ mnr 0 = false by decide)] at HC
    have c0 := HA4.o.cell (i := 0) rfl
    by_cases ht1 : st < 100
    · have HSf := Ho (show sto st = false by unfold sto; rw [decide_eq_false (show ¬ 100 ≤ st by omega)]; rfl)
      have HE := Ho (show rv = .error 11 by rw [HRv.o, ← HC.o, if_pos HSf.o]; rfl)
      go_wp2
      go_ret2
      rw [HE.o]
      exact ⟨rfl, HU4.o⟩
    by_cases ht2 : 599 < st
    · have HSf := Ho (show sto st = false by unfold sto; rw [decide_eq_false (show ¬ st ≤ 599 by omega), Bool.and_false])
      have HE := Ho (show rv = .error 11 by rw [HRv.o, ← HC.o, if_pos HSf.o]; rfl)
      go_wp2
      go_ret2
      rw [HE.o]
      exact ⟨rfl, HU4.o⟩
    have HSt := Ho (show sto st = true by unfold sto; rw [decide_eq_true (show 100 ≤ st by omega), decide_eq_true (show st ≤ 599 by omega)]; rfl)
    rw [if_neg (by rw [HSt.o]; simp)] at HC
    go_wp2_with fail
    refine (HCf.o _ _ _ HF4.o).mono ?_
    rintro e w8 ⟨rfl, h9⟩
    have HU8 := Ho (HU4.o.trans h9)
    have HA8 := Ho (HA4.o.up h9)
    have HF8 := Ho (HF4.o.up h9)
    clear h9
    dsimp only
    clear c0
    cases hcf : ckf F with
    | some k =>
     have hkz := nums_ne (ckf_lt hcf)
     have HE := Ho (show rv = .error k by rw [HRv.o, ← HC.o, hcf]; rfl)
     clear hcf
     rw [show ckN (some k) = nums k from rfl]
     go_wp2
     go_ret2
     rw [HE.o]
     exact ⟨rfl, HU8.o⟩
    | none =>
     rw [hcf] at HC
     rw [show ckN none = 0 from rfl]
     clear hcf
     have c3 := HA8.o.cell (i := 3) rfl
     by_cases hbl : 1048576 < nb
     · have hblz : (1048576 : Int) < (nb : Int) := by omega
       have HE := Ho (show rv = .error 7 by rw [HRv.o, ← HC.o, if_pos hbl]; rfl)
       go_wp2
       go_ret2
       rw [HE.o]
       exact ⟨rfl, HU8.o⟩
     have hblz : ¬ (1048576 : Int) < (nb : Int) := by omega
     first
     | by_cases hb1 : 0 < nb
       · have hb1z : (0 : Int) < (nb : Int) := by omega
         have HE := Ho (show rv = .error 7 by rw [HRv.o, ← HC.o, if_neg hbl, if_pos ⟨hb1, HNb.o⟩]; rfl)
         go_wp2
         go_ret2
         rw [HE.o]
         exact ⟨rfl, HU8.o⟩
       have hb1z : ¬ (0 : Int) < (nb : Int) := by omega
       have HB0 := Ho (show ¬ (0 < nb ∧ bdl st = true) from fun h => hb1 h.1)
     | have HB0 := Ho (show ¬ (0 < nb ∧ bdl st = true) by rw [HNb.o]; simp)
     have HNo := Ho (raS_no HSt.o (show mnr 0 = true by decide)).2
     go_wp2
     clear c3
     have HUd := Ho HU8.o.drew
     have HAd := Ho (HA8.o.up (Up.refl _).drew)
     have HFd := Ho (HF8.o.up (Up.refl _).drew)
     refine wp_region_held_drew (S := fun w2 => At w2 w.heap.size 73 [.int .i64 st, .int .i64 0, .slice a fs.length c, .slice ab nb cb', .bool cl] ∧ Up w w2) (by kernel_rfl) ⟨HAd.o, HUd.o⟩ (fun hS => ?_)
     refine tN 0 (some 57) (.fieldAddr 73 (.tmp 1) 1) 0 (.pointer (some ⟨w.heap.size, 1, none⟩)) hS ?_
     simp only [Act.put, pB, pC, pD]
     refine tK 1 (some 58) (.load 3 (.tmp 57)) 3 (.int .i64 0) hS ?_ ?_
     · intro _ _ w5 hSw
       have h0 := hSw.1.cell (i := 1) rfl
       clear hSw hS
       go_simp
     simp only [Act.put, pB, pC, pD]
     refine tN 5 (some 62) (.fieldAddr 73 (.tmp 1) 0) 0 (.pointer (some ⟨w.heap.size, 0, none⟩)) hS ?_
     simp only [Act.put, pB, pC, pD]
     refine tK 6 (some 63) (.load 3 (.tmp 62)) 3 (.int .i64 st) hS ?_ ?_
     · intro _ _ w5 hSw
       have h0 := hSw.1.cell (i := 0) rfl
       clear hSw hS
       go_simp
     simp only [Act.put, pB, pC, pD]
     refine tN 10 (some 67) (.fieldAddr 73 (.tmp 1) 0) 0 (.pointer (some ⟨w.heap.size, 0, none⟩)) hS ?_
     simp only [Act.put, pB, pC, pD]
     refine tK 11 (some 68) (.load 3 (.tmp 67)) 3 (.int .i64 st) hS ?_ ?_
     · intro _ _ w5 hSw
       have h0 := hSw.1.cell (i := 0) rfl
       clear hSw hS
       go_simp
     simp only [Act.put, pB, pC, pD]
     refine rD 2 (some 59) (.call ⟨.value (.func 44), #[.tmp 58], #[2]⟩) 9 fun _ _ K hK => ?_
     rw [if_pos (by kernel_rfl)]
     go_simp
     refine (HFm.o w8.drew).mono ?_
     rintro e w10 ⟨rfl, h9⟩
     have HU10 := Ho (HUd.o.trans h9)
     have HA10 := Ho (HAd.o.up h9)
     have HF10 := Ho (HFd.o.up h9)
     clear h9 hS
     dsimp only
     refine hK.out _ _ ⟨HA10.o, HU10.o⟩ (fun hS => ?_)
     clear hK K
     refine tK 3 (some 60) (.binOp .add 9 (.const (.string { data := #[72, 84, 84, 80, 47, 49, 46] })) (.tmp 59) 9) 9 (.string ((⟨#[72, 84, 84, 80, 47, 49, 46]⟩ : ByteArray) ++ vt)) hS ?_ ?_
     · intro _ _ w5 hSw
       clear hSw hS
       have hvz := HVz.o
       have hsz := HSz.o
       have hrz := HRz.o
       go_simp
     simp only [Act.put, pB, pC, pD]
     refine tK 4 (some 61) (.binOp .add 9 (.tmp 60) (.const (.string { data := #[32] })) 9) 9 (.string ((⟨#[72, 84, 84, 80, 47, 49, 46]⟩ : ByteArray) ++ vt ++ (⟨#[32]⟩ : ByteArray))) hS ?_ ?_
     · intro _ _ w5 hSw
       clear hSw hS
       have hvz := HVz.o
       have hsz := HSz.o
       have hrz := HRz.o
       go_simp
     simp only [Act.put, pB, pC, pD]
     refine rD 7 (some 64) (.call ⟨.value (.func 44), #[.tmp 63], #[2]⟩) 9 fun _ _ K hK => ?_
     rw [if_pos (by kernel_rfl)]
     go_simp
     refine (HFs.o w10).mono ?_
     rintro e w11 ⟨rfl, h9⟩
     have HU11 := Ho (HU10.o.trans h9)
     have HA11 := Ho (HA10.o.up h9)
     have HF11 := Ho (HF10.o.up h9)
     clear h9 hS
     dsimp only
     refine hK.out _ _ ⟨HA11.o, HU11.o⟩ (fun hS => ?_)
     clear hK K
     refine tK 8 (some 65) (.binOp .add 9 (.tmp 61) (.tmp 64) 9) 9 (.string ((⟨#[72, 84, 84, 80, 47, 49, 46]⟩ : ByteArray) ++ vt ++ (⟨#[32]⟩ : ByteArray) ++ sx)) hS ?_ ?_
     · intro _ _ w5 hSw
       clear hSw hS
       have hvz := HVz.o
       have hsz := HSz.o
       have hrz := HRz.o
       go_simp
     simp only [Act.put, pB, pC, pD]
     refine tK 9 (some 66) (.binOp .add 9 (.tmp 65) (.const (.string { data := #[32] })) 9) 9 (.string ((⟨#[72, 84, 84, 80, 47, 49, 46]⟩ : ByteArray) ++ vt ++ (⟨#[32]⟩ : ByteArray) ++ sx ++ (⟨#[32]⟩ : ByteArray))) hS ?_ ?_
     · intro _ _ w5 hSw
       clear hSw hS
       have hvz := HVz.o
       have hsz := HSz.o
       have hrz := HRz.o
       go_simp
     simp only [Act.put, pB, pC, pD]
     refine rD 12 (some 69) (.call ⟨.value (.func 65), #[.tmp 68], #[3]⟩) 9 fun _ _ K hK => ?_
     rw [if_pos (by kernel_rfl)]
     go_simp
     refine (HRr.o w11 HU11.o).mono ?_
     rintro e w12 ⟨rfl, h9⟩
     have HU12 := Ho (HU11.o.trans h9)
     have HA12 := Ho (HA11.o.up h9)
     have HF12 := Ho (HF11.o.up h9)
     clear h9 hS
     dsimp only
     refine hK.out _ _ ⟨HA12.o, HU12.o⟩ (fun hS => ?_)
     clear hK K
     refine tK 13 (some 70) (.binOp .add 9 (.tmp 66) (.tmp 69) 9) 9 (.string ((⟨#[72, 84, 84, 80, 47, 49, 46]⟩ : ByteArray) ++ vt ++ (⟨#[32]⟩ : ByteArray) ++ sx ++ (⟨#[32]⟩ : ByteArray) ++ rx)) hS ?_ ?_
     · intro _ _ w5 hSw
       clear hSw hS
       have hvz := HVz.o
       have hsz := HSz.o
       have hrz := HRz.o
       go_simp
     simp only [Act.put, pB, pC, pD]
     refine tN 14 (some 8) (.assign (.tmp 70)) 9 (.string ((⟨#[72, 84, 84, 80, 47, 49, 46]⟩ : ByteArray) ++ vt ++ (⟨#[32]⟩ : ByteArray) ++ sx ++ (⟨#[32]⟩ : ByteArray) ++ rx)) hS ?_
     simp only [Act.put, pB, pC, pD]
     clear hS
     refine wpAnyH_done (by kernel_rfl) ?_ _
     generalize (⟨#[72, 84, 84, 80, 47, 49, 46]⟩ : ByteArray) ++ vt ++ (⟨#[32]⟩ : ByteArray) ++ sx ++ (⟨#[32]⟩ : ByteArray) ++ rx = fst at HSd HSs ⊢
     have hbl2 : bd.length ≤ 1048576 := by have := HBn.o; omega
     have hfl : fst.size ≤ 1048576 := by rw [HSs.o]; exact Nat.le_trans HNo.o (by decide)
     have c3 := HA12.o.cell (i := 3) rfl
     go_wp2_with fail
     refine (HLd.o fst _ _ _ HF12.o (HB.o.up HU12.o) hfl (by omega) hbl2).mono ?_
     rintro e w13 ⟨⟨a8, c8, rfl, hO8⟩, h9⟩
     have HU13 := Ho (HU12.o.trans h9)
     have HO8 := Ho hO8.o
     clear h9 hO8
     rw [HSd.o] at HO8 ⊢
     dsimp only
     have HE := Ho (show rv = .ok (prt (raS st 0) F bd) by rw [HRv.o, ← HC.o, if_neg hbl, if_neg HB0.o]; rfl)
     go_wp2
     go_ret2
     rw [HE.o]
     exact ⟨⟨a8, c8, rfl, Ho HO8.o⟩, HU13.o⟩
  by_cases hm3 : mi = 1
  · subst hm3
    rw [if_neg (show ¬ mnr 1 = false by decide)] at HC
    have c0 := HA4.o.cell (i := 0) rfl
    by_cases ht1 : st < 100
    · have HSf := Ho (show sto st = false by unfold sto; rw [decide_eq_false (show ¬ 100 ≤ st by omega)]; rfl)
      have HE := Ho (show rv = .error 11 by rw [HRv.o, ← HC.o, if_pos HSf.o]; rfl)
      go_wp2
      go_ret2
      rw [HE.o]
      exact ⟨rfl, HU4.o⟩
    by_cases ht2 : 599 < st
    · have HSf := Ho (show sto st = false by unfold sto; rw [decide_eq_false (show ¬ st ≤ 599 by omega), Bool.and_false])
      have HE := Ho (show rv = .error 11 by rw [HRv.o, ← HC.o, if_pos HSf.o]; rfl)
      go_wp2
      go_ret2
      rw [HE.o]
      exact ⟨rfl, HU4.o⟩
    have HSt := Ho (show sto st = true by unfold sto; rw [decide_eq_true (show 100 ≤ st by omega), decide_eq_true (show st ≤ 599 by omega)]; rfl)
    rw [if_neg (by rw [HSt.o]; simp)] at HC
    go_wp2_with fail
    refine (HCf.o _ _ _ HF4.o).mono ?_
    rintro e w8 ⟨rfl, h9⟩
    have HU8 := Ho (HU4.o.trans h9)
    have HA8 := Ho (HA4.o.up h9)
    have HF8 := Ho (HF4.o.up h9)
    clear h9
    dsimp only
    clear c0
    cases hcf : ckf F with
    | some k =>
     have hkz := nums_ne (ckf_lt hcf)
     have HE := Ho (show rv = .error k by rw [HRv.o, ← HC.o, hcf]; rfl)
     clear hcf
     rw [show ckN (some k) = nums k from rfl]
     go_wp2
     go_ret2
     rw [HE.o]
     exact ⟨rfl, HU8.o⟩
    | none =>
     rw [hcf] at HC
     rw [show ckN none = 0 from rfl]
     clear hcf
     have c3 := HA8.o.cell (i := 3) rfl
     by_cases hbl : 1048576 < nb
     · have hblz : (1048576 : Int) < (nb : Int) := by omega
       have HE := Ho (show rv = .error 7 by rw [HRv.o, ← HC.o, if_pos hbl]; rfl)
       go_wp2
       go_ret2
       rw [HE.o]
       exact ⟨rfl, HU8.o⟩
     have hblz : ¬ (1048576 : Int) < (nb : Int) := by omega
     first
     | by_cases hb1 : 0 < nb
       · have hb1z : (0 : Int) < (nb : Int) := by omega
         have HE := Ho (show rv = .error 7 by rw [HRv.o, ← HC.o, if_neg hbl, if_pos ⟨hb1, HNb.o⟩]; rfl)
         go_wp2
         go_ret2
         rw [HE.o]
         exact ⟨rfl, HU8.o⟩
       have hb1z : ¬ (0 : Int) < (nb : Int) := by omega
       have HB0 := Ho (show ¬ (0 < nb ∧ bdl st = true) from fun h => hb1 h.1)
     | have HB0 := Ho (show ¬ (0 < nb ∧ bdl st = true) by rw [HNb.o]; simp)
     have HNo := Ho (raS_no HSt.o (show mnr 1 = true by decide)).2
     go_wp2
     clear c3
     have HUd := Ho HU8.o.drew
     have HAd := Ho (HA8.o.up (Up.refl _).drew)
     have HFd := Ho (HF8.o.up (Up.refl _).drew)
     refine wp_region_held_drew (S := fun w2 => At w2 w.heap.size 73 [.int .i64 st, .int .i64 1, .slice a fs.length c, .slice ab nb cb', .bool cl] ∧ Up w w2) (by kernel_rfl) ⟨HAd.o, HUd.o⟩ (fun hS => ?_)
     refine tN 0 (some 57) (.fieldAddr 73 (.tmp 1) 1) 0 (.pointer (some ⟨w.heap.size, 1, none⟩)) hS ?_
     simp only [Act.put, pB, pC, pD]
     refine tK 1 (some 58) (.load 3 (.tmp 57)) 3 (.int .i64 1) hS ?_ ?_
     · intro _ _ w5 hSw
       have h0 := hSw.1.cell (i := 1) rfl
       clear hSw hS
       go_simp
     simp only [Act.put, pB, pC, pD]
     refine tN 5 (some 62) (.fieldAddr 73 (.tmp 1) 0) 0 (.pointer (some ⟨w.heap.size, 0, none⟩)) hS ?_
     simp only [Act.put, pB, pC, pD]
     refine tK 6 (some 63) (.load 3 (.tmp 62)) 3 (.int .i64 st) hS ?_ ?_
     · intro _ _ w5 hSw
       have h0 := hSw.1.cell (i := 0) rfl
       clear hSw hS
       go_simp
     simp only [Act.put, pB, pC, pD]
     refine tN 10 (some 67) (.fieldAddr 73 (.tmp 1) 0) 0 (.pointer (some ⟨w.heap.size, 0, none⟩)) hS ?_
     simp only [Act.put, pB, pC, pD]
     refine tK 11 (some 68) (.load 3 (.tmp 67)) 3 (.int .i64 st) hS ?_ ?_
     · intro _ _ w5 hSw
       have h0 := hSw.1.cell (i := 0) rfl
       clear hSw hS
       go_simp
     simp only [Act.put, pB, pC, pD]
     refine rD 2 (some 59) (.call ⟨.value (.func 44), #[.tmp 58], #[2]⟩) 9 fun _ _ K hK => ?_
     rw [if_pos (by kernel_rfl)]
     go_simp
     refine (HFm.o w8.drew).mono ?_
     rintro e w10 ⟨rfl, h9⟩
     have HU10 := Ho (HUd.o.trans h9)
     have HA10 := Ho (HAd.o.up h9)
     have HF10 := Ho (HFd.o.up h9)
     clear h9 hS
     dsimp only
     refine hK.out _ _ ⟨HA10.o, HU10.o⟩ (fun hS => ?_)
     clear hK K
     refine tK 3 (some 60) (.binOp .add 9 (.const (.string { data := #[72, 84, 84, 80, 47, 49, 46] })) (.tmp 59) 9) 9 (.string ((⟨#[72, 84, 84, 80, 47, 49, 46]⟩ : ByteArray) ++ vt)) hS ?_ ?_
     · intro _ _ w5 hSw
       clear hSw hS
       have hvz := HVz.o
       have hsz := HSz.o
       have hrz := HRz.o
       go_simp
     simp only [Act.put, pB, pC, pD]
     refine tK 4 (some 61) (.binOp .add 9 (.tmp 60) (.const (.string { data := #[32] })) 9) 9 (.string ((⟨#[72, 84, 84, 80, 47, 49, 46]⟩ : ByteArray) ++ vt ++ (⟨#[32]⟩ : ByteArray))) hS ?_ ?_
     · intro _ _ w5 hSw
       clear hSw hS
       have hvz := HVz.o
       have hsz := HSz.o
       have hrz := HRz.o
       go_simp
     simp only [Act.put, pB, pC, pD]
     refine rD 7 (some 64) (.call ⟨.value (.func 44), #[.tmp 63], #[2]⟩) 9 fun _ _ K hK => ?_
     rw [if_pos (by kernel_rfl)]
     go_simp
     refine (HFs.o w10).mono ?_
     rintro e w11 ⟨rfl, h9⟩
     have HU11 := Ho (HU10.o.trans h9)
     have HA11 := Ho (HA10.o.up h9)
     have HF11 := Ho (HF10.o.up h9)
     clear h9 hS
     dsimp only
     refine hK.out _ _ ⟨HA11.o, HU11.o⟩ (fun hS => ?_)
     clear hK K
     refine tK 8 (some 65) (.binOp .add 9 (.tmp 61) (.tmp 64) 9) 9 (.string ((⟨#[72, 84, 84, 80, 47, 49, 46]⟩ : ByteArray) ++ vt ++ (⟨#[32]⟩ : ByteArray) ++ sx)) hS ?_ ?_
     · intro _ _ w5 hSw
       clear hSw hS
       have hvz := HVz.o
       have hsz := HSz.o
       have hrz := HRz.o
       go_simp
     simp only [Act.put, pB, pC, pD]
     refine tK 9 (some 66) (.binOp .add 9 (.tmp 65) (.const (.string { data := #[32] })) 9) 9 (.string ((⟨#[72, 84, 84, 80, 47, 49, 46]⟩ : ByteArray) ++ vt ++ (⟨#[32]⟩ : ByteArray) ++ sx ++ (⟨#[32]⟩ : ByteArray))) hS ?_ ?_
     · intro _ _ w5 hSw
       clear hSw hS
       have hvz := HVz.o
       have hsz := HSz.o
       have hrz := HRz.o
       go_simp
     simp only [Act.put, pB, pC, pD]
     refine rD 12 (some 69) (.call ⟨.value (.func 65), #[.tmp 68], #[3]⟩) 9 fun _ _ K hK => ?_
     rw [if_pos (by kernel_rfl)]
     go_simp
     refine (HRr.o w11 HU11.o).mono ?_
     rintro e w12 ⟨rfl, h9⟩
     have HU12 := Ho (HU11.o.trans h9)
     have HA12 := Ho (HA11.o.up h9)
     have HF12 := Ho (HF11.o.up h9)
     clear h9 hS
     dsimp only
     refine hK.out _ _ ⟨HA12.o, HU12.o⟩ (fun hS => ?_)
     clear hK K
     refine tK 13 (some 70) (.binOp .add 9 (.tmp 66) (.tmp 69) 9) 9 (.string ((⟨#[72, 84, 84, 80, 47, 49, 46]⟩ : ByteArray) ++ vt ++ (⟨#[32]⟩ : ByteArray) ++ sx ++ (⟨#[32]⟩ : ByteArray) ++ rx)) hS ?_ ?_
     · intro _ _ w5 hSw
       clear hSw hS
       have hvz := HVz.o
       have hsz := HSz.o
       have hrz := HRz.o
       go_simp
     simp only [Act.put, pB, pC, pD]
     refine tN 14 (some 8) (.assign (.tmp 70)) 9 (.string ((⟨#[72, 84, 84, 80, 47, 49, 46]⟩ : ByteArray) ++ vt ++ (⟨#[32]⟩ : ByteArray) ++ sx ++ (⟨#[32]⟩ : ByteArray) ++ rx)) hS ?_
     simp only [Act.put, pB, pC, pD]
     clear hS
     refine wpAnyH_done (by kernel_rfl) ?_ _
     generalize (⟨#[72, 84, 84, 80, 47, 49, 46]⟩ : ByteArray) ++ vt ++ (⟨#[32]⟩ : ByteArray) ++ sx ++ (⟨#[32]⟩ : ByteArray) ++ rx = fst at HSd HSs ⊢
     have hbl2 : bd.length ≤ 1048576 := by have := HBn.o; omega
     have hfl : fst.size ≤ 1048576 := by rw [HSs.o]; exact Nat.le_trans HNo.o (by decide)
     have c3 := HA12.o.cell (i := 3) rfl
     go_wp2_with fail
     refine (HLd.o fst _ _ _ HF12.o (HB.o.up HU12.o) hfl (by omega) hbl2).mono ?_
     rintro e w13 ⟨⟨a8, c8, rfl, hO8⟩, h9⟩
     have HU13 := Ho (HU12.o.trans h9)
     have HO8 := Ho hO8.o
     clear h9 hO8
     rw [HSd.o] at HO8 ⊢
     dsimp only
     have HE := Ho (show rv = .ok (prt (raS st 1) F bd) by rw [HRv.o, ← HC.o, if_neg hbl, if_neg HB0.o]; rfl)
     go_wp2
     go_ret2
     rw [HE.o]
     exact ⟨⟨a8, c8, rfl, Ho HO8.o⟩, HU13.o⟩
  have q0 : (mi == 0) = false := beq_eq_false_iff_ne.2 hm2
  have q1 : (mi == 1) = false := beq_eq_false_iff_ne.2 hm3
  have q2 : (mi != 0) = true := by rw [bne, q0]; rfl
  have q3 : (mi != 1) = true := by rw [bne, q1]; rfl
  have HMf := Ho (show mnr mi = false by rw [mnr_eq, q0, q1]; rfl)
  have HE := Ho (show rv = .error 4 by rw [HRv.o, ← HC.o, if_pos HMf.o]; rfl)
  go_wp2
  go_ret2
  rw [HE.o]
  exact ⟨rfl, HU4.o⟩
set_option maxRecDepth 100000 in
set_option maxHeartbeats 8000000 in
theorem asked_walk (m t : ByteArray) (mi : Int) (an : Option Addr) (ns : List ByteArray) (cn : Nat) (av : Option Addr) (us : List ByteArray) (cv : Nat) (ab : Option Addr) (nb cb' : Nat) (bd : List UInt8) (pad : Int) (w : World) (hN : StL w an ns cn) (hV : StL w av us cv) (hB : Sb w (.slice ab nb cb') bd) (hnl : ns.length ≤ 1048576) (hbl : bd.length ≤ 1048576) :
  Calls Tryz.prog 19 #[.agg #[.string m, .string t, .int .i64 mi, .slice an ns.length cn, .slice av us.length cv, .slice ab nb cb', .int .i64 pad]] w fun e w' => (∃ a c v, e = .returned (.agg #[.string m, .string t, .int .i64 mi, .slice a ns.length c, v, .bool false]) ∧ Hd (RfO w' w.heap.size a (mkF ns us) c ∧ Ow w' w.heap.size v (pdd bd pad))) ∧ Up w w' := by
 have HN := Ho hN
 have HV := Ho hV
 have HB := Ho hB
 have hcap := hN.cap
 have hcapv := hV.cap
 obtain ⟨hbn, hbc, hbm⟩ := hB.len
 unfold maxLen at hbm
 clear hN hV hB hbn
 obtain ⟨F, hF⟩ := ny (mkF ns us)
 have HFl := Ho (show F.length = ns.length by rw [← hF, mkF_len])
 have HFg := Ho (show ∀ i (h : i < ns.length) (h' : i < F.length), F[i] = ⟨ns[i], vat us i⟩ by subst hF; exact fun i h h' => mkF_get h h')
 rw [hF]
 clear hF
 have HA0 := Ho ((at_new w 27 [.string m, .string t, .int .i64 mi, .slice an ns.length cn, .slice av us.length cv, .slice ab nb cb', .int .i64 pad]).up ((Up.refl _).alloc (.cells z6.toArray 56)))
 have HZ0 := Ho (at_new (w.alloc (.cells [.string m, .string t, .int .i64 mi, .slice an ns.length cn, .slice av us.length cv, .slice ab nb cb', .int .i64 pad].toArray 27)) 56 z6)
 have HU0 := Ho (((Up.refl w).alloc (.cells [.string m, .string t, .int .i64 mi, .slice an ns.length cn, .slice av us.length cv, .slice ab nb cb', .int .i64 pad].toArray 27)).alloc (.cells z6.toArray 56))
 rw [alloc_size] at HZ0
 go_enter Tryz.func19, Tryz.ntmps19
 go_wp2
 obtain ⟨w1, hw1⟩ := ny ((w.alloc (.cells [.string m, .string t, .int .i64 mi, .slice an ns.length cn, .slice av us.length cv, .slice ab nb cb', .int .i64 pad].toArray 27)).alloc (.cells z6.toArray 56))
 have HS1 := Ho (show w.heap.size + 1 < w1.heap.size by rw [← hw1, alloc_size, alloc_size]; omega)
 rw [hw1] at HA0 HU0 HZ0
 change Code.wp _ _ _ _ ((w.alloc (.cells [.string m, .string t, .int .i64 mi, .slice an ns.length cn, .slice av us.length cv, .slice ab nb cb', .int .i64 pad].toArray 27)).alloc (.cells z6.toArray 56))
 rw [hw1]
 clear hw1
 refine wp_region_held_drew (S := fun w2 => At w2 w.heap.size 27 [.string m, .string t, .int .i64 mi, .slice an ns.length cn, .slice av us.length cv, .slice ab nb cb', .int .i64 pad] ∧ At w2 (w.heap.size + 1) 56 z6 ∧ Up w w2) (by kernel_rfl) ⟨HA0.o.up (Up.refl _).drew, HZ0.o.up (Up.refl _).drew, HU0.o.drew⟩ (fun hS => ?_)
 refine tN 0 (some 5) (.fieldAddr 27 (.tmp 1) 0) 0 (.pointer (some ⟨w.heap.size, 0, none⟩)) hS ?_
 simp only [Act.put, pB, pC, pD]
 refine tK 1 (some 6) (.load 9 (.tmp 5)) 9 (.string m) hS ?_ ?_
 · intro _ _ w5 hSw
   have h0 := hSw.1.cell (i := 0) rfl
   clear hSw hS
   go_simp
 simp only [pA, pB, pC, pD]
 refine tN 2 (some 7) (.fieldAddr 27 (.tmp 1) 1) 0 (.pointer (some ⟨w.heap.size, 1, none⟩)) hS ?_
 simp only [pA, pB, pC, pD]
 refine tK 3 (some 8) (.load 9 (.tmp 7)) 9 (.string t) hS ?_ ?_
 · intro _ _ w5 hSw
   have h0 := hSw.1.cell (i := 1) rfl
   clear hSw hS
   go_simp
 simp only [pA, pB, pC, pD]
 refine tN 4 (some 9) (.fieldAddr 27 (.tmp 1) 2) 0 (.pointer (some ⟨w.heap.size, 2, none⟩)) hS ?_
 simp only [pA, pB, pC, pD]
 refine tK 5 (some 10) (.load 3 (.tmp 9)) 3 (.int .i64 mi) hS ?_ ?_
 · intro _ _ w5 hSw
   have h0 := hSw.1.cell (i := 2) rfl
   clear hSw hS
   go_simp
 simp only [pA, pB, pC, pD]
 refine tN 6 (some 11) (.fieldAddr 27 (.tmp 1) 5) 0 (.pointer (some ⟨w.heap.size, 5, none⟩)) hS ?_
 simp only [pA, pB, pC, pD]
 refine tK 7 (some 12) (.load 22 (.tmp 11)) 22 (.slice ab nb cb') hS ?_ ?_
 · intro _ _ w5 hSw
   have h0 := hSw.1.cell (i := 5) rfl
   clear hSw hS
   go_simp
 simp only [pA, pB, pC, pD]
 refine tN 8 (some 13) (.fieldAddr 27 (.tmp 1) 6) 0 (.pointer (some ⟨w.heap.size, 6, none⟩)) hS ?_
 simp only [pA, pB, pC, pD]
 refine tK 9 (some 14) (.load 3 (.tmp 13)) 3 (.int .i64 pad) hS ?_ ?_
 · intro _ _ w5 hSw
   have h0 := hSw.1.cell (i := 6) rfl
   clear hSw hS
   go_simp
 simp only [pA, pB, pC, pD]
 refine wpAnyH_ready (rs := [10, 12]) (by kernel_rfl) (by simp) ?_
 refine AllReadyH.cons (o := ⟨some 15, .call ⟨.value (.func 23), #[.tmp 12, .tmp 14], #[22, 3]⟩, 22, "law.go:115", #[eD 7, eD 9], none⟩) rfl (fun K hK => ?_) (AllReadyH.cons (o := ⟨some 3, .alloc 56, 0, "law.go:115", #[], none⟩) rfl (fun K hK => ?_) AllReadyH.nil)
 case' _ =>
  rw [if_pos (by kernel_rfl)]
  go_simp
  refine (padded_walk (.slice ab nb cb') bd pad (by omega) w1.drew (HB.o.up (HU0.o.drew))).mono ?_
  rintro e w2 ⟨v5, rfl, hO, h9⟩
  obtain ⟨a5, c5, rfl⟩ := row_len hO
  have HO2 := Ho (show Ow w2 w.heap.size _ (pdd bd pad) from ow_base hO (HU0.o.drew).size)
  have HU2 := Ho ((HU0.o.drew).trans h9)
  have HA2 := Ho ((HA0.o.up (Up.refl _).drew).up h9)
  have HZ2 := Ho ((HZ0.o.up (Up.refl _).drew).up h9)
  have Hs2 := Ho (show w1.drew.heap.size ≤ w2.heap.size from h9.size)
  clear h9 hO hS
  obtain ⟨L5, hL5⟩ := ny ((pdd bd pad).length)
  have HL5 := Ho hL5
  rw [hL5] at HO2 ⊢
  clear hL5
  dsimp only
  refine hK.out _ _ ⟨HA2.o, HZ2.o, HU2.o⟩ (fun hS => ?_)
  clear hK K
  refine tN 11 (some 16) (.build 56 #[(0, .tmp 6), (1, .tmp 8), (2, .tmp 10), (4, .tmp 15)]) 56 (.agg #[.string m, .string t, .int .i64 mi, .slice none 0 0, .slice a5 L5 c5, .bool false]) hS ?_
  simp only [Act.put, pB, pC, pD]
  refine rD 12 (some 3) (.alloc 56) 0 fun _ _ K hK => ?_
  rw [if_pos (by kernel_rfl)]
  go_simp
  have HR3 := Ho (at_new w2 56 z6)
  have HBr := Ho (show w.heap.size + 1 < w2.heap.size from Nat.lt_of_lt_of_le HS1.o (Nat.le_trans (Up.refl w1).drew.size Hs2.o))
  have HO3 := Ho (ow_up HO2.o ((Up.refl w2).alloc (.cells z6.toArray 56)))
  clear HO2
  refine hK.out _ _ ⟨hS.1.up ((Up.refl _).alloc _), hS.2.1.up ((Up.refl _).alloc _), hS.2.2.alloc _⟩ (fun hS => ?_)
  clear hK K
  refine rD 13 none (.store 56 (.tmp 3) (.tmp 16)) 0 fun _ _ K hK => oper_of_list ?_
  refine wpList_store_at rfl 56 _ _ rfl (w2.heap.size) HR3.o ([.string m, .string t, .int .i64 mi, .slice none 0 0, .slice a5 L5 c5, .bool false]) rfl rfl rfl (by kernel_rfl) (by kernel_rfl) ?_
  intro w4 hA4 hg4
  have HR4 := Ho hA4
  have HU4 := Ho (hS.2.2.by hg4 (fun g hg => by have := Option.some.inj hg; have := HBr.o; omega))
  have HA4 := Ho (hS.1.by hg4 (fun e => by have := Option.some.inj e; have := HBr.o; omega))
  have HZ4 := Ho (hS.2.1.by hg4 (fun e => by have := Option.some.inj e; have := HBr.o; omega))
  have HO4 := Ho (HO3.o.kept hg4 (.inr (own_ne HO3.o HR3.o (by decide))))
  clear hA4 hg4 HR3 HO3
  refine hK.out _ _ ⟨HA4.o, HZ4.o, HU4.o⟩ (fun hS => ?_)
  clear hK K hS
  refine wpAnyH_done (by kernel_rfl) ?_ _
  obtain ⟨Br, hBr⟩ := ny w2.heap.size
 rotate_left
 case' _ =>
  rw [if_pos (by kernel_rfl)]
  go_simp
  have HR1 := Ho (show At _ w1.heap.size 56 z6 from at_new w1.drew 56 z6)
  have HUa := Ho ((Up.refl w1.drew).alloc (.cells z6.toArray 56))
  have HBr := Ho (show w.heap.size + 1 < w1.heap.size from HS1.o)
  refine hK.out _ _ ⟨hS.1.up HUa.o, hS.2.1.up HUa.o, hS.2.2.trans HUa.o⟩ (fun hS => ?_)
  clear hK K
  refine rD 10 (some 15) (.call ⟨.value (.func 23), #[.tmp 12, .tmp 14], #[22, 3]⟩) 22 fun _ _ K hK => ?_
  rw [if_pos (by kernel_rfl)]
  go_simp
  refine (padded_walk (.slice ab nb cb') bd pad (by omega) _ (HB.o.up (HU0.o.drew.trans HUa.o))).mono ?_
  rintro e w2 ⟨v5, rfl, hO, h9⟩
  obtain ⟨a5, c5, rfl⟩ := row_len hO
  have HO2 := Ho (show Ow w2 w.heap.size _ (pdd bd pad) from ow_base hO (HU0.o.drew.trans HUa.o).size)
  have HU2 := Ho ((HU0.o.drew.trans HUa.o).trans h9)
  have HA2 := Ho (((HA0.o.up (Up.refl _).drew).up HUa.o).up h9)
  have HZ2 := Ho (((HZ0.o.up (Up.refl _).drew).up HUa.o).up h9)
  have HR3 := Ho (HR1.o.up h9)
  clear h9 hO hS
  obtain ⟨L5, hL5⟩ := ny ((pdd bd pad).length)
  have HL5 := Ho hL5
  rw [hL5] at HO2 ⊢
  clear hL5
  dsimp only
  refine hK.out _ _ ⟨HA2.o, HZ2.o, HU2.o⟩ (fun hS => ?_)
  clear hK K
  have HO3 := Ho HO2.o
  clear HO2
  refine tN 11 (some 16) (.build 56 #[(0, .tmp 6), (1, .tmp 8), (2, .tmp 10), (4, .tmp 15)]) 56 (.agg #[.string m, .string t, .int .i64 mi, .slice none 0 0, .slice a5 L5 c5, .bool false]) hS ?_
  simp only [Act.put, pB, pC, pD]
  refine rD 13 none (.store 56 (.tmp 3) (.tmp 16)) 0 fun _ _ K hK => oper_of_list ?_
  refine wpList_store_at rfl 56 _ _ rfl (w1.heap.size) HR3.o ([.string m, .string t, .int .i64 mi, .slice none 0 0, .slice a5 L5 c5, .bool false]) rfl rfl rfl (by kernel_rfl) (by kernel_rfl) ?_
  intro w4 hA4 hg4
  have HR4 := Ho hA4
  have HU4 := Ho (hS.2.2.by hg4 (fun g hg => by have := Option.some.inj hg; have := HBr.o; omega))
  have HA4 := Ho (hS.1.by hg4 (fun e => by have := Option.some.inj e; have := HBr.o; omega))
  have HZ4 := Ho (hS.2.1.by hg4 (fun e => by have := Option.some.inj e; have := HBr.o; omega))
  have HO4 := Ho (HO3.o.kept hg4 (.inr (own_ne HO3.o HR3.o (by decide))))
  clear hA4 hg4 HR3 HO3
  refine hK.out _ _ ⟨HA4.o, HZ4.o, HU4.o⟩ (fun hS => ?_)
  clear hK K hS
  refine wpAnyH_done (by kernel_rfl) ?_ _
  obtain ⟨Br, hBr⟩ := ny w1.heap.size
 all_goals
  rw [hBr] at HR4 HBr ⊢
  clear hBr
  go_wp2
  go_loopw [4] (fun v4 wr => ∃ i : Nat, v4 = .int .i64 (i : Int) ∧ i ≤ ns.length ∧ Hd (∃ a7 c7, At wr Br 56 [.string m, .string t, .int .i64 mi, .slice a7 i c7, .slice a5 L5 c5, .bool false] ∧ RfO wr w.heap.size a7 (F.take i) c7 ∧ wr.ownsRow w.heap.size 5 1 (.slice a5 L5 c5) L5 (cb (pdd bd pad)) ∧ At wr w.heap.size 27 [.string m, .string t, .int .i64 mi, .slice an ns.length cn, .slice av us.length cv, .slice ab nb cb', .int .i64 pad] ∧ At wr (w.heap.size + 1) 56 z6 ∧ Up w wr)) (fun v4 _ => ns.length - (intOf v4).toNat)
  case atStart => exact ⟨0, rfl, Nat.zero_le _, Ho ⟨none, 0, HR4.o, World.ownsRow_nil _ _ _ _, (by have h := HO4.o; rw [HL5.o] at h; exact h), HA4.o, HZ4.o, HU4.o⟩⟩
  case round =>
   obtain ⟨i, rfl, hi, hQ⟩ := hrel
   obtain ⟨a7, c7, q1, q2, q3, q4, q5, q6⟩ := hQ.o
   have HR7 := Ho q1
   have HF7 := Ho q2
   have HO7 := Ho q3
   have HA7 := Ho q4
   have HZ7 := Ho q5
   have HU7 := Ho q6
   have h3 := q4.cell (i := 3) rfl
   clear hQ q1 q2 q3 q4 q5 q6
   by_cases hil : i < ns.length
   · have hilz : (i : Int) < (ns.length : Int) := by omega
     have hif : i < F.length := by rw [HFl.o]; exact hil
     obtain ⟨b, off, han, k1⟩ := HN.o.cells i hil
     have HAn := Ho han
     clear han
     have HT := Ho (List.take_succ_eq_append_getElem hif)
     have HLn := Ho (show (F.take i).length = i by rw [List.length_take]; omega)
     have hfg := HFg.o i hil hif
     obtain ⟨f, hf⟩ := ny (F[i])
     rw [hf] at HT hfg
     have HFv := Ho (show vat us i = f.v by rw [hfg])
     have HK1 := Ho (show w.cell? ⟨b, off + i, none⟩ = some (.string f.n) by rw [k1, hfg])
     clear hf hfg k1
     have HRd := Ho (HR7.o.up (Up.refl wr).drew)
     have HFd := Ho (ow_up HF7.o (Up.refl wr).drew)
     have HFd' := Ho (show wr.drew.ownsRow w.heap.size 102 2 (.slice a7 i c7) i (fdc (F.take i)) by have := HFd.o; rw [HLn.o] at this; exact this)
     have HOd := Ho (ow_up HO7.o (Up.refl wr).drew)
     have HAd := Ho (HA7.o.up (Up.refl wr).drew)
     have HZd := Ho (HZ7.o.up (Up.refl wr).drew)
     go_wp2
     refine wp_region_held_drew (S := fun w2 => At w2 w.heap.size 27 [.string m, .string t, .int .i64 mi, .slice an ns.length cn, .slice av us.length cv, .slice ab nb cb', .int .i64 pad] ∧ At w2 (w.heap.size + 1) 56 z6 ∧ Up w w2) (by kernel_rfl) ⟨HA7.o.up (Up.refl _).drew, HZ7.o.up (Up.refl _).drew, HU7.o.drew⟩ (fun hS => ?_)
     refine tN 0 (some 24) (.fieldAddr 56 (.tmp 3) 3) 0 (.pointer (some ⟨Br, 3, none⟩)) hS ?_
     simp only [Act.put, pB, pC, pD]
     refine tN 2 (some 26) (.fieldAddr 27 (.tmp 1) 3) 0 (.pointer (some ⟨w.heap.size, 3, none⟩)) hS ?_
     simp only [pA, pB, pC, pD]
     refine tK 3 (some 27) (.load 25 (.tmp 26)) 25 (.slice (some ⟨b, off, none⟩) ns.length cn) hS ?_ ?_
     · intro _ _ w5 hSw
       have h0 := hSw.1.cell (i := 3) rfl
       rw [HAn.o] at h0
       clear hSw hS
       go_simp
     simp only [pA, pB, pC, pD]
     refine tN 4 (some 28) (.move (.tmp 4)) 3 (.int .i64 (i : Int)) hS ?_
     simp only [pA, pB, pC, pD]
     refine tN 5 (some 29) (.indexAddr 25 (.tmp 27) (.tmp 28)) 0 (.pointer (some ⟨b, off + i, none⟩)) hS ?_
     simp only [pA, pB, pC, pD]
     refine tK 6 (some 30) (.load 9 (.tmp 29)) 9 (.string f.n) hS ?_ ?_
     · intro _ _ w5 hSw
       have h0 := hSw.2.2.cell HK1.o
       clear hSw hS
       go_simp
     simp only [pA, pB, pC, pD]
     refine tN 7 (some 31) (.fieldAddr 27 (.tmp 1) 4) 0 (.pointer (some ⟨w.heap.size, 4, none⟩)) hS ?_
     simp only [pA, pB, pC, pD]
     refine tK 8 (some 32) (.load 25 (.tmp 31)) 25 (.slice av us.length cv) hS ?_ ?_
     · intro _ _ w5 hSw
       have h0 := hSw.1.cell (i := 4) rfl
       clear hSw hS
       go_simp
     simp only [pA, pB, pC, pD]
     refine tN 9 (some 33) (.move (.tmp 4)) 3 (.int .i64 (i : Int)) hS ?_
     simp only [pA, pB, pC, pD]
     refine wpAnyH_ready (rs := [1, 10]) (by kernel_rfl) (by simp) ?_
     refine AllReadyH.cons (o := ⟨some 25, .load 54 (.tmp 24), 54, "law.go:117", #[eD 0], none⟩) rfl (fun K hK => ?_) (AllReadyH.cons (o := ⟨some 34, .call ⟨.value (.func 42), #[.tmp 32, .tmp 33], #[25, 3]⟩, 9, "law.go:117", #[eD 8, eD 9], none⟩) rfl (fun K hK => ?_) AllReadyH.nil)
     · rw [if_pos (by kernel_rfl)]
       have k3 := HRd.o.cell (i := 3) rfl
       go_simp
       refine hK.out _ _ hS (fun hS => ?_)
       clear hK K k3
       refine rD 10 (some 34) (.call ⟨.value (.func 42), #[.tmp 32, .tmp 33], #[25, 3]⟩) 9 fun _ _ K hK => ?_
       rw [if_pos (by kernel_rfl)]
       go_simp
       refine (value_walk av us cv i wr.drew (HV.o.up HU7.o.drew)).mono ?_
       rintro e w5 ⟨rfl, h9⟩
       obtain rfl := h9.symm
       clear h9
       rw [HFv.o]
       dsimp only
       refine hK.out _ _ hS (fun hS => ?_)
       clear hK K
       refine tN 11 (some 35) (.build 102 #[(0, .tmp 30), (1, .tmp 34)]) 102 (.agg #[.string f.n, .string f.v]) hS ?_
       simp only [Act.put, pB, pC, pD]
       refine rD 12 (some 36) (.buildSlice 54 1 #[(0, .tmp 35)]) 54 fun _ _ K hK => ?_
       rw [if_pos (by kernel_rfl)]
       go_simp
       refine hK.out _ _ ⟨hS.1.up ((Up.refl _).alloc _), hS.2.1.up ((Up.refl _).alloc _), hS.2.2.alloc _⟩ (fun hS => ?_)
       clear hK K
       refine rD 13 (some 37) (.call ⟨.builtin .append, #[.tmp 25, .tmp 36], #[54, 54]⟩) 54 fun _ _ K hK => oper_of_list ?_
       refine wpList_appRf (w := wr.drew) (N := w.heap.size) rfl _ _ rfl a7 c7 (F.take i) f HLn.o rfl rfl HFd.o HU7.o.drew.size (by omega) ?_
       intro ax2 cx2 w7 o7 u7 g7
       have HU8 := Ho (u7 w HU7.o.drew (Nat.le_refl _))
       have HR8 := Ho (HRd.o.by g7 (own_ne HFd'.o HRd.o (by decide)))
       have HA8 := Ho (HAd.o.by g7 (own_ne HFd'.o HAd.o (by decide)))
       have HZ8 := Ho (HZd.o.by g7 (own_ne HFd'.o HZd.o (by decide)))
       have HB8 := Ho (HOd.o.kept g7 (own_off HOd.o HFd'.o (by decide)))
       have HF8 := Ho (show RfO w7 w.heap.size ax2 (F.take (i + 1)) cx2 by rw [HT.o]; exact o7)
       clear o7 u7 g7
       refine hK.out _ _ ⟨HA8.o, HZ8.o, HU8.o⟩ (fun hS => ?_)
       clear hK K
       simp only [Act.put, pB, pC, pD]
       refine tN 14 (some 38) (.fieldAddr 56 (.tmp 3) 3) 0 (.pointer (some ⟨Br, 3, none⟩)) hS ?_
       simp only [pA, pB, pC, pD]
       refine rD 15 none (.store 54 (.tmp 38) (.tmp 37)) 0 fun _ _ K hK => ?_
       have k3 := HR8.o.cell (i := 3) rfl
       have f3 := HR8.o.thaw 3
       have G8 := grown_set1 w7 Br 3 (.slice ax2 (i + 1) cx2)
       have HR9 := Ho (HR8.o.set 3 (.slice ax2 (i + 1) cx2))
       have HU9 := Ho (HU8.o.by G8 (fun g hg => by have := Option.some.inj hg; have := HBr.o; omega))
       have HA9 := Ho (HA8.o.by G8 (fun e => by have := Option.some.inj e; have := HBr.o; omega))
       have HZ9 := Ho (HZ8.o.by G8 (fun e => by have := Option.some.inj e; have := HBr.o; omega))
       have HB9 := Ho (HB8.o.kept G8 (.inr (own_ne HB8.o HR8.o (by decide))))
       have HF9 := Ho (show RfO (w7.setCell ⟨Br, 3, none⟩ (.slice ax2 (i + 1) cx2)) w.heap.size ax2 (F.take (i + 1)) cx2 from HF8.o.kept G8 (.inr (own_ne HF8.o HR8.o (by decide))))
       clear G8
       rw [if_pos (by kernel_rfl)]
       go_simp
       refine hK.out _ _ ⟨HA9.o, HZ9.o, HU9.o⟩ (fun hS => ?_)
       clear hK K hS
       refine wpAnyH_done (by kernel_rfl) ?_ _
       go_wp2
       go_roundw
       all_goals first
        | exact ⟨i + 1, by go_num, by omega, Ho ⟨ax2, cx2, HR9.o, HF9.o, HB9.o, HA9.o, HZ9.o, HU9.o⟩⟩
        | (simp [intOf]; omega)
     rw [if_pos (by kernel_rfl)]
     go_simp
     refine (value_walk av us cv i wr.drew (HV.o.up HU7.o.drew)).mono ?_
     rintro e w5 ⟨rfl, h9⟩
     obtain rfl := h9.symm
     clear h9
     rw [HFv.o]
     dsimp only
     refine hK.out _ _ hS (fun hS => ?_)
     clear hK K
     refine tN 11 (some 35) (.build 102 #[(0, .tmp 30), (1, .tmp 34)]) 102 (.agg #[.string f.n, .string f.v]) hS ?_
     simp only [Act.put, pB, pC, pD]
     refine wpAnyH_ready (rs := [1, 12]) (by kernel_rfl) (by simp) ?_
     refine AllReadyH.cons (o := ⟨some 25, .load 54 (.tmp 24), 54, "law.go:117", #[eD 0], none⟩) rfl (fun K hK => ?_) (AllReadyH.cons (o := ⟨some 36, .buildSlice 54 1 #[(0, .tmp 35)], 54, "law.go:117", #[eD 11], none⟩) rfl (fun K hK => ?_) AllReadyH.nil)
     case' _ =>
      rw [if_pos (by kernel_rfl)]
      have k3 := HRd.o.cell (i := 3) rfl
      go_simp
      refine hK.out _ _ hS (fun hS => ?_)
      clear hK K k3
      refine rD 12 (some 36) (.buildSlice 54 1 #[(0, .tmp 35)]) 54 fun _ _ K hK => ?_
      rw [if_pos (by kernel_rfl)]
      go_simp
      refine hK.out _ _ ⟨hS.1.up ((Up.refl _).alloc _), hS.2.1.up ((Up.refl _).alloc _), hS.2.2.alloc _⟩ (fun hS => ?_)
      clear hK K
     rotate_left
     case' _ =>
      rw [if_pos (by kernel_rfl)]
      go_simp
      refine hK.out _ _ ⟨hS.1.up ((Up.refl _).alloc _), hS.2.1.up ((Up.refl _).alloc _), hS.2.2.alloc _⟩ (fun hS => ?_)
      clear hK K
      refine rD 1 (some 25) (.load 54 (.tmp 24)) 54 fun _ _ K hK => ?_
      rw [if_pos (by kernel_rfl)]
      have k3 := ((HR7.o.up ((Up.refl wr).alloc (.cells #[.string f.n, .string f.v] 102))).up (Up.refl _).drew).cell (i := 3) rfl
      go_simp
      refine hK.out _ _ hS (fun hS => ?_)
      clear hK K k3
     all_goals
      refine rD 13 (some 37) (.call ⟨.builtin .append, #[.tmp 25, .tmp 36], #[54, 54]⟩) 54 fun _ _ K hK => oper_of_list ?_
      refine wpList_appRf (w := wr.drew) (N := w.heap.size) rfl _ _ rfl a7 c7 (F.take i) f HLn.o rfl rfl HFd.o HU7.o.drew.size (by omega) ?_
      intro ax2 cx2 w7 o7 u7 g7
      have HU8 := Ho (u7 w HU7.o.drew (Nat.le_refl _))
      have HR8 := Ho (HRd.o.by g7 (own_ne HFd'.o HRd.o (by decide)))
      have HA8 := Ho (HAd.o.by g7 (own_ne HFd'.o HAd.o (by decide)))
      have HZ8 := Ho (HZd.o.by g7 (own_ne HFd'.o HZd.o (by decide)))
      have HB8 := Ho (HOd.o.kept g7 (own_off HOd.o HFd'.o (by decide)))
      have HF8 := Ho (show RfO w7 w.heap.size ax2 (F.take (i + 1)) cx2 by rw [HT.o]; exact o7)
      clear o7 u7 g7
      refine hK.out _ _ ⟨HA8.o, HZ8.o, HU8.o⟩ (fun hS => ?_)
      clear hK K
      simp only [Act.put, pB, pC, pD]
      refine tN 14 (some 38) (.fieldAddr 56 (.tmp 3) 3) 0 (.pointer (some ⟨Br, 3, none⟩)) hS ?_
      simp only [pA, pB, pC, pD]
      refine rD 15 none (.store 54 (.tmp 38) (.tmp 37)) 0 fun _ _ K hK => ?_
      have k3 := HR8.o.cell (i := 3) rfl
      have f3 := HR8.o.thaw 3
      have G8 := grown_set1 w7 Br 3 (.slice ax2 (i + 1) cx2)
      have HR9 := Ho (HR8.o.set 3 (.slice ax2 (i + 1) cx2))
      have HU9 := Ho (HU8.o.by G8 (fun g hg => by have := Option.some.inj hg; have := HBr.o; omega))
      have HA9 := Ho (HA8.o.by G8 (fun e => by have := Option.some.inj e; have := HBr.o; omega))
      have HZ9 := Ho (HZ8.o.by G8 (fun e => by have := Option.some.inj e; have := HBr.o; omega))
      have HB9 := Ho (HB8.o.kept G8 (.inr (own_ne HB8.o HR8.o (by decide))))
      have HF9 := Ho (show RfO (w7.setCell ⟨Br, 3, none⟩ (.slice ax2 (i + 1) cx2)) w.heap.size ax2 (F.take (i + 1)) cx2 from HF8.o.kept G8 (.inr (own_ne HF8.o HR8.o (by decide))))
      clear G8
      rw [if_pos (by kernel_rfl)]
      go_simp
      refine hK.out _ _ ⟨HA9.o, HZ9.o, HU9.o⟩ (fun hS => ?_)
      clear hK K hS
      refine wpAnyH_done (by kernel_rfl) ?_ _
      go_wp2
      go_roundw
      all_goals first
       | exact ⟨i + 1, by go_num, by omega, Ho ⟨ax2, cx2, HR9.o, HF9.o, HB9.o, HA9.o, HZ9.o, HU9.o⟩⟩
       | (simp [intOf]; omega)
   have hilz : ¬ (i : Int) < (ns.length : Int) := by omega
   have hin : i = ns.length := by omega
   subst hin
   have HF8 := Ho (show RfO wr w.heap.size a7 F c7 by
    have h1 := HF7.o
    rw [List.take_of_length_le (by rw [HFl.o]; exact Nat.le_refl _)] at h1
    exact h1)
   go_wp2_with (with_reducible refine sL 56 ?_)
   show wpList _ _ _ _ _ _
   refine wpList_load_mid rfl _ _ rfl Br 0 rfl _ _ HR7.o.range Tryz.underlying56 rfl (by kernel_rfl) ?_
   simp only [Act.put, pB, pC, pD]
   refine wpList_store_at rfl 56 _ _ rfl (w.heap.size + 1) HZ7.o [.string m, .string t, .int .i64 mi, .slice a7 ns.length c7, .slice a5 L5 c5, .bool false] rfl rfl rfl (by kernel_rfl) (by kernel_rfl) ?_
   intro w8 hA8 hg8
   have HA8 := Ho hA8
   have HU8 := Ho (HU7.o.bz hg8)
   have HF9 := Ho (show RfO w8 w.heap.size a7 F c7 from HF8.o.kept hg8 (.inr (own_ne HF8.o HZ7.o (by decide))))
   have HO9 := Ho (HO7.o.kept hg8 (.inr (own_ne HO7.o HZ7.o (by decide))))
   clear hA8 hg8
   simp only [Act.put]
   repeat go_step
   refine bodyPost_ret (results_agg1 Tryz.results19 _ _ (w.heap.size + 1) [.string m, .string t, .int .i64 mi, .slice a7 ns.length c7, .slice a5 L5 c5, .bool false] rfl HA8.o.range Tryz.underlying56 rfl (by kernel_rfl)) rfl ?_
   exact ⟨⟨a7, c7, _, rfl, Ho ⟨HF9.o, by unfold Ow; rw [HL5.o]; exact HO9.o⟩⟩, HU8.o⟩
set_option maxRecDepth 100000 in
set_option maxHeartbeats 8000000 in
theorem response_walk (st mi : Int) (an : Option Addr) (ns : List ByteArray) (cn : Nat) (av : Option Addr) (us : List ByteArray) (cv : Nat) (ab : Option Addr) (nb cb' : Nat) (bd : List UInt8) (pad : Int) (w : World) (hN : StL w an ns cn) (hV : StL w av us cv) (hB : Sb w (.slice ab nb cb') bd) (hnl : ns.length ≤ 1048576) (hbl : bd.length ≤ 1048576) :
  Calls Tryz.prog 38 #[.agg #[.int .i64 st, .int .i64 mi, .slice an ns.length cn, .slice av us.length cv, .slice ab nb cb', .int .i64 pad]] w fun e w' => (∃ a c v, e = .returned (.agg #[.int .i64 st, .int .i64 mi, .slice a ns.length c, v, .bool false]) ∧ Hd (FdO w' w.heap.size a (mkF ns us) c ∧ Ow w' w.heap.size v (pdd bd pad))) ∧ Up w w' := by
 have HN := Ho hN
 have HV := Ho hV
 have HB := Ho hB
 have hcap := hN.cap
 have hcapv := hV.cap
 obtain ⟨hbn, hbc, hbm⟩ := hB.len
 unfold maxLen at hbm
 clear hN hV hB hbn
 obtain ⟨F, hF⟩ := ny (mkF ns us)
 have HFl := Ho (show F.length = ns.length by rw [← hF, mkF_len])
 have HFg := Ho (show ∀ i (h : i < ns.length) (h' : i < F.length), F[i] = ⟨ns[i], vat us i⟩ by subst hF; exact fun i h h' => mkF_get h h')
 rw [hF]
 clear hF
 have HA0 := Ho ((at_new w 29 [.int .i64 st, .int .i64 mi, .slice an ns.length cn, .slice av us.length cv, .slice ab nb cb', .int .i64 pad]).up ((Up.refl _).alloc (.cells z5.toArray 77)))
 have HZ0 := Ho (at_new (w.alloc (.cells [.int .i64 st, .int .i64 mi, .slice an ns.length cn, .slice av us.length cv, .slice ab nb cb', .int .i64 pad].toArray 29)) 77 z5)
 have HU0 := Ho (((Up.refl w).alloc (.cells [.int .i64 st, .int .i64 mi, .slice an ns.length cn, .slice av us.length cv, .slice ab nb cb', .int .i64 pad].toArray 29)).alloc (.cells z5.toArray 77))
 rw [alloc_size] at HZ0
 go_enter Tryz.func38, Tryz.ntmps38
 go_wp2
 obtain ⟨w1, hw1⟩ := ny ((w.alloc (.cells [.int .i64 st, .int .i64 mi, .slice an ns.length cn, .slice av us.length cv, .slice ab nb cb', .int .i64 pad].toArray 29)).alloc (.cells z5.toArray 77))
 have HS1 := Ho (show w.heap.size + 1 < w1.heap.size by rw [← hw1, alloc_size, alloc_size]; omega)
 rw [hw1] at HA0 HU0 HZ0
 change Code.wp _ _ _ _ ((w.alloc (.cells [.int .i64 st, .int .i64 mi, .slice an ns.length cn, .slice av us.length cv, .slice ab nb cb', .int .i64 pad].toArray 29)).alloc (.cells z5.toArray 77))
 rw [hw1]
 clear hw1
 refine wp_region_held_drew (S := fun w2 => At w2 w.heap.size 29 [.int .i64 st, .int .i64 mi, .slice an ns.length cn, .slice av us.length cv, .slice ab nb cb', .int .i64 pad] ∧ At w2 (w.heap.size + 1) 77 z5 ∧ Up w w2) (by kernel_rfl) ⟨HA0.o.up (Up.refl _).drew, HZ0.o.up (Up.refl _).drew, HU0.o.drew⟩ (fun hS => ?_)
 refine tN 0 (some 5) (.fieldAddr 29 (.tmp 1) 0) 0 (.pointer (some ⟨w.heap.size, 0, none⟩)) hS ?_
 simp only [Act.put, pB, pC, pD]
 refine tK 1 (some 6) (.load 3 (.tmp 5)) 3 (.int .i64 st) hS ?_ ?_
 · intro _ _ w5 hSw
   have h0 := hSw.1.cell (i := 0) rfl
   clear hSw hS
   go_simp
 simp only [pA, pB, pC, pD]
 refine tN 2 (some 7) (.fieldAddr 29 (.tmp 1) 1) 0 (.pointer (some ⟨w.heap.size, 1, none⟩)) hS ?_
 simp only [pA, pB, pC, pD]
 refine tK 3 (some 8) (.load 3 (.tmp 7)) 3 (.int .i64 mi) hS ?_ ?_
 · intro _ _ w5 hSw
   have h0 := hSw.1.cell (i := 1) rfl
   clear hSw hS
   go_simp
 simp only [pA, pB, pC, pD]
 refine tN 4 (some 9) (.fieldAddr 29 (.tmp 1) 4) 0 (.pointer (some ⟨w.heap.size, 4, none⟩)) hS ?_
 simp only [pA, pB, pC, pD]
 refine tK 5 (some 10) (.load 22 (.tmp 9)) 22 (.slice ab nb cb') hS ?_ ?_
 · intro _ _ w5 hSw
   have h0 := hSw.1.cell (i := 4) rfl
   clear hSw hS
   go_simp
 simp only [pA, pB, pC, pD]
 refine tN 6 (some 11) (.fieldAddr 29 (.tmp 1) 5) 0 (.pointer (some ⟨w.heap.size, 5, none⟩)) hS ?_
 simp only [pA, pB, pC, pD]
 refine tK 7 (some 12) (.load 3 (.tmp 11)) 3 (.int .i64 pad) hS ?_ ?_
 · intro _ _ w5 hSw
   have h0 := hSw.1.cell (i := 5) rfl
   clear hSw hS
   go_simp
 simp only [pA, pB, pC, pD]
 refine wpAnyH_ready (rs := [8, 10]) (by kernel_rfl) (by simp) ?_
 refine AllReadyH.cons (o := ⟨some 13, .call ⟨.value (.func 23), #[.tmp 10, .tmp 12], #[22, 3]⟩, 22, "law.go:124", #[eD 5, eD 7], none⟩) rfl (fun K hK => ?_) (AllReadyH.cons (o := ⟨some 3, .alloc 77, 0, "law.go:124", #[], none⟩) rfl (fun K hK => ?_) AllReadyH.nil)
 case' _ =>
  rw [if_pos (by kernel_rfl)]
  go_simp
  refine (padded_walk (.slice ab nb cb') bd pad (by omega) w1.drew (HB.o.up (HU0.o.drew))).mono ?_
  rintro e w2 ⟨v5, rfl, hO, h9⟩
  obtain ⟨a5, c5, rfl⟩ := row_len hO
  have HO2 := Ho (show Ow w2 w.heap.size _ (pdd bd pad) from ow_base hO (HU0.o.drew).size)
  have HU2 := Ho ((HU0.o.drew).trans h9)
  have HA2 := Ho ((HA0.o.up (Up.refl _).drew).up h9)
  have HZ2 := Ho ((HZ0.o.up (Up.refl _).drew).up h9)
  have Hs2 := Ho (show w1.drew.heap.size ≤ w2.heap.size from h9.size)
  clear h9 hO hS
  obtain ⟨L5, hL5⟩ := ny ((pdd bd pad).length)
  have HL5 := Ho hL5
  rw [hL5] at HO2 ⊢
  clear hL5
  dsimp only
  refine hK.out _ _ ⟨HA2.o, HZ2.o, HU2.o⟩ (fun hS => ?_)
  clear hK K
  refine tN 9 (some 14) (.build 77 #[(0, .tmp 6), (1, .tmp 8), (3, .tmp 13)]) 77 (.agg #[.int .i64 st, .int .i64 mi, .slice none 0 0, .slice a5 L5 c5, .bool false]) hS ?_
  simp only [Act.put, pB, pC, pD]
  refine rD 10 (some 3) (.alloc 77) 0 fun _ _ K hK => ?_
  rw [if_pos (by kernel_rfl)]
  go_simp
  have HR3 := Ho (at_new w2 77 z5)
  have HBr := Ho (show w.heap.size + 1 < w2.heap.size from Nat.lt_of_lt_of_le HS1.o (Nat.le_trans (Up.refl w1).drew.size Hs2.o))
  have HO3 := Ho (ow_up HO2.o ((Up.refl w2).alloc (.cells z5.toArray 77)))
  clear HO2
  refine hK.out _ _ ⟨hS.1.up ((Up.refl _).alloc _), hS.2.1.up ((Up.refl _).alloc _), hS.2.2.alloc _⟩ (fun hS => ?_)
  clear hK K
  refine rD 11 none (.store 77 (.tmp 3) (.tmp 14)) 0 fun _ _ K hK => oper_of_list ?_
  refine wpList_store_at rfl 77 _ _ rfl (w2.heap.size) HR3.o ([.int .i64 st, .int .i64 mi, .slice none 0 0, .slice a5 L5 c5, .bool false]) rfl rfl rfl (by kernel_rfl) (by kernel_rfl) ?_
  intro w4 hA4 hg4
  have HR4 := Ho hA4
  have HU4 := Ho (hS.2.2.by hg4 (fun g hg => by have := Option.some.inj hg; have := HBr.o; omega))
  have HA4 := Ho (hS.1.by hg4 (fun e => by have := Option.some.inj e; have := HBr.o; omega))
  have HZ4 := Ho (hS.2.1.by hg4 (fun e => by have := Option.some.inj e; have := HBr.o; omega))
  have HO4 := Ho (HO3.o.kept hg4 (.inr (own_ne HO3.o HR3.o (by decide))))
  clear hA4 hg4 HR3 HO3
  refine hK.out _ _ ⟨HA4.o, HZ4.o, HU4.o⟩ (fun hS => ?_)
  clear hK K hS
  refine wpAnyH_done (by kernel_rfl) ?_ _
  obtain ⟨Br, hBr⟩ := ny w2.heap.size
 rotate_left
 case' _ =>
  rw [if_pos (by kernel_rfl)]
  go_simp
  have HR1 := Ho (show At _ w1.heap.size 77 z5 from at_new w1.drew 77 z5)
  have HUa := Ho ((Up.refl w1.drew).alloc (.cells z5.toArray 77))
  have HBr := Ho (show w.heap.size + 1 < w1.heap.size from HS1.o)
  refine hK.out _ _ ⟨hS.1.up HUa.o, hS.2.1.up HUa.o, hS.2.2.trans HUa.o⟩ (fun hS => ?_)
  clear hK K
  refine rD 8 (some 13) (.call ⟨.value (.func 23), #[.tmp 10, .tmp 12], #[22, 3]⟩) 22 fun _ _ K hK => ?_
  rw [if_pos (by kernel_rfl)]
  go_simp
  refine (padded_walk (.slice ab nb cb') bd pad (by omega) _ (HB.o.up (HU0.o.drew.trans HUa.o))).mono ?_
  rintro e w2 ⟨v5, rfl, hO, h9⟩
  obtain ⟨a5, c5, rfl⟩ := row_len hO
  have HO2 := Ho (show Ow w2 w.heap.size _ (pdd bd pad) from ow_base hO (HU0.o.drew.trans HUa.o).size)
  have HU2 := Ho ((HU0.o.drew.trans HUa.o).trans h9)
  have HA2 := Ho (((HA0.o.up (Up.refl _).drew).up HUa.o).up h9)
  have HZ2 := Ho (((HZ0.o.up (Up.refl _).drew).up HUa.o).up h9)
  have HR3 := Ho (HR1.o.up h9)
  clear h9 hO hS
  obtain ⟨L5, hL5⟩ := ny ((pdd bd pad).length)
  have HL5 := Ho hL5
  rw [hL5] at HO2 ⊢
  clear hL5
  dsimp only
  refine hK.out _ _ ⟨HA2.o, HZ2.o, HU2.o⟩ (fun hS => ?_)
  clear hK K
  have HO3 := Ho HO2.o
  clear HO2
  refine tN 9 (some 14) (.build 77 #[(0, .tmp 6), (1, .tmp 8), (3, .tmp 13)]) 77 (.agg #[.int .i64 st, .int .i64 mi, .slice none 0 0, .slice a5 L5 c5, .bool false]) hS ?_
  simp only [Act.put, pB, pC, pD]
  refine rD 11 none (.store 77 (.tmp 3) (.tmp 14)) 0 fun _ _ K hK => oper_of_list ?_
  refine wpList_store_at rfl 77 _ _ rfl (w1.heap.size) HR3.o ([.int .i64 st, .int .i64 mi, .slice none 0 0, .slice a5 L5 c5, .bool false]) rfl rfl rfl (by kernel_rfl) (by kernel_rfl) ?_
  intro w4 hA4 hg4
  have HR4 := Ho hA4
  have HU4 := Ho (hS.2.2.by hg4 (fun g hg => by have := Option.some.inj hg; have := HBr.o; omega))
  have HA4 := Ho (hS.1.by hg4 (fun e => by have := Option.some.inj e; have := HBr.o; omega))
  have HZ4 := Ho (hS.2.1.by hg4 (fun e => by have := Option.some.inj e; have := HBr.o; omega))
  have HO4 := Ho (HO3.o.kept hg4 (.inr (own_ne HO3.o HR3.o (by decide))))
  clear hA4 hg4 HR3 HO3
  refine hK.out _ _ ⟨HA4.o, HZ4.o, HU4.o⟩ (fun hS => ?_)
  clear hK K hS
  refine wpAnyH_done (by kernel_rfl) ?_ _
  obtain ⟨Br, hBr⟩ := ny w1.heap.size
 all_goals
  rw [hBr] at HR4 HBr ⊢
  clear hBr
  go_wp2
  go_loopw [4] (fun v4 wr => ∃ i : Nat, v4 = .int .i64 (i : Int) ∧ i ≤ ns.length ∧ Hd (∃ a7 c7, At wr Br 77 [.int .i64 st, .int .i64 mi, .slice a7 i c7, .slice a5 L5 c5, .bool false] ∧ FdO wr w.heap.size a7 (F.take i) c7 ∧ wr.ownsRow w.heap.size 5 1 (.slice a5 L5 c5) L5 (cb (pdd bd pad)) ∧ At wr w.heap.size 29 [.int .i64 st, .int .i64 mi, .slice an ns.length cn, .slice av us.length cv, .slice ab nb cb', .int .i64 pad] ∧ At wr (w.heap.size + 1) 77 z5 ∧ Up w wr)) (fun v4 _ => ns.length - (intOf v4).toNat)
  case atStart => exact ⟨0, rfl, Nat.zero_le _, Ho ⟨none, 0, HR4.o, World.ownsRow_nil _ _ _ _, (by have h := HO4.o; rw [HL5.o] at h; exact h), HA4.o, HZ4.o, HU4.o⟩⟩
  case round =>
   obtain ⟨i, rfl, hi, hQ⟩ := hrel
   obtain ⟨a7, c7, q1, q2, q3, q4, q5, q6⟩ := hQ.o
   have HR7 := Ho q1
   have HF7 := Ho q2
   have HO7 := Ho q3
   have HA7 := Ho q4
   have HZ7 := Ho q5
   have HU7 := Ho q6
   have h3 := q4.cell (i := 2) rfl
   clear hQ q1 q2 q3 q4 q5 q6
   by_cases hil : i < ns.length
   · have hilz : (i : Int) < (ns.length : Int) := by omega
     have hif : i < F.length := by rw [HFl.o]; exact hil
     obtain ⟨b, off, han, k1⟩ := HN.o.cells i hil
     have HAn := Ho han
     clear han
     have HT := Ho (List.take_succ_eq_append_getElem hif)
     have HLn := Ho (show (F.take i).length = i by rw [List.length_take]; omega)
     have hfg := HFg.o i hil hif
     obtain ⟨f, hf⟩ := ny (F[i])
     rw [hf] at HT hfg
     have HFv := Ho (show vat us i = f.v by rw [hfg])
     have HK1 := Ho (show w.cell? ⟨b, off + i, none⟩ = some (.string f.n) by rw [k1, hfg])
     clear hf hfg k1
     have HRd := Ho (HR7.o.up (Up.refl wr).drew)
     have HFd := Ho (ow_up HF7.o (Up.refl wr).drew)
     have HFd' := Ho (show wr.drew.ownsRow w.heap.size 89 2 (.slice a7 i c7) i (fdc (F.take i)) by have := HFd.o; rw [HLn.o] at this; exact this)
     have HOd := Ho (ow_up HO7.o (Up.refl wr).drew)
     have HAd := Ho (HA7.o.up (Up.refl wr).drew)
     have HZd := Ho (HZ7.o.up (Up.refl wr).drew)
     go_wp2
     refine wp_region_held_drew (S := fun w2 => At w2 w.heap.size 29 [.int .i64 st, .int .i64 mi, .slice an ns.length cn, .slice av us.length cv, .slice ab nb cb', .int .i64 pad] ∧ At w2 (w.heap.size + 1) 77 z5 ∧ Up w w2) (by kernel_rfl) ⟨HA7.o.up (Up.refl _).drew, HZ7.o.up (Up.refl _).drew, HU7.o.drew⟩ (fun hS => ?_)
     refine tN 0 (some 22) (.fieldAddr 77 (.tmp 3) 2) 0 (.pointer (some ⟨Br, 2, none⟩)) hS ?_
     simp only [Act.put, pB, pC, pD]
     refine tN 2 (some 24) (.fieldAddr 29 (.tmp 1) 2) 0 (.pointer (some ⟨w.heap.size, 2, none⟩)) hS ?_
     simp only [pA, pB, pC, pD]
     refine tK 3 (some 25) (.load 25 (.tmp 24)) 25 (.slice (some ⟨b, off, none⟩) ns.length cn) hS ?_ ?_
     · intro _ _ w5 hSw
       have h0 := hSw.1.cell (i := 2) rfl
       rw [HAn.o] at h0
       clear hSw hS
       go_simp
     simp only [pA, pB, pC, pD]
     refine tN 4 (some 26) (.move (.tmp 4)) 3 (.int .i64 (i : Int)) hS ?_
     simp only [pA, pB, pC, pD]
     refine tN 5 (some 27) (.indexAddr 25 (.tmp 25) (.tmp 26)) 0 (.pointer (some ⟨b, off + i, none⟩)) hS ?_
     simp only [pA, pB, pC, pD]
     refine tK 6 (some 28) (.load 9 (.tmp 27)) 9 (.string f.n) hS ?_ ?_
     · intro _ _ w5 hSw
       have h0 := hSw.2.2.cell HK1.o
       clear hSw hS
       go_simp
     simp only [pA, pB, pC, pD]
     refine tN 7 (some 29) (.fieldAddr 29 (.tmp 1) 3) 0 (.pointer (some ⟨w.heap.size, 3, none⟩)) hS ?_
     simp only [pA, pB, pC, pD]
     refine tK 8 (some 30) (.load 25 (.tmp 29)) 25 (.slice av us.length cv) hS ?_ ?_
     · intro _ _ w5 hSw
       have h0 := hSw.1.cell (i := 3) rfl
       clear hSw hS
       go_simp
     simp only [pA, pB, pC, pD]
     refine tN 9 (some 31) (.move (.tmp 4)) 3 (.int .i64 (i : Int)) hS ?_
     simp only [pA, pB, pC, pD]
     refine wpAnyH_ready (rs := [1, 10]) (by kernel_rfl) (by simp) ?_
     refine AllReadyH.cons (o := ⟨some 23, .load 36 (.tmp 22), 36, "law.go:126", #[eD 0], none⟩) rfl (fun K hK => ?_) (AllReadyH.cons (o := ⟨some 32, .call ⟨.value (.func 42), #[.tmp 30, .tmp 31], #[25, 3]⟩, 9, "law.go:126", #[eD 8, eD 9], none⟩) rfl (fun K hK => ?_) AllReadyH.nil)
     · rw [if_pos (by kernel_rfl)]
       have k3 := HRd.o.cell (i := 2) rfl
       go_simp
       refine hK.out _ _ hS (fun hS => ?_)
       clear hK K k3
       refine rD 10 (some 32) (.call ⟨.value (.func 42), #[.tmp 30, .tmp 31], #[25, 3]⟩) 9 fun _ _ K hK => ?_
       rw [if_pos (by kernel_rfl)]
       go_simp
       refine (value_walk av us cv i wr.drew (HV.o.up HU7.o.drew)).mono ?_
       rintro e w5 ⟨rfl, h9⟩
       obtain rfl := h9.symm
       clear h9
       rw [HFv.o]
       dsimp only
       refine hK.out _ _ hS (fun hS => ?_)
       clear hK K
       refine tN 11 (some 33) (.build 89 #[(0, .tmp 28), (1, .tmp 32)]) 89 (.agg #[.string f.n, .string f.v]) hS ?_
       simp only [Act.put, pB, pC, pD]
       refine rD 12 (some 34) (.buildSlice 36 1 #[(0, .tmp 33)]) 36 fun _ _ K hK => ?_
       rw [if_pos (by kernel_rfl)]
       go_simp
       refine hK.out _ _ ⟨hS.1.up ((Up.refl _).alloc _), hS.2.1.up ((Up.refl _).alloc _), hS.2.2.alloc _⟩ (fun hS => ?_)
       clear hK K
       refine rD 13 (some 35) (.call ⟨.builtin .append, #[.tmp 23, .tmp 34], #[36, 36]⟩) 36 fun _ _ K hK => oper_of_list ?_
       refine wpList_appFd (w := wr.drew) (N := w.heap.size) rfl _ _ rfl a7 c7 (F.take i) f HLn.o rfl rfl HFd.o HU7.o.drew.size (by omega) ?_
       intro ax2 cx2 w7 o7 u7 g7
       have HU8 := Ho (u7 w HU7.o.drew (Nat.le_refl _))
       have HR8 := Ho (HRd.o.by g7 (own_ne HFd'.o HRd.o (by decide)))
       have HA8 := Ho (HAd.o.by g7 (own_ne HFd'.o HAd.o (by decide)))
       have HZ8 := Ho (HZd.o.by g7 (own_ne HFd'.o HZd.o (by decide)))
       have HB8 := Ho (HOd.o.kept g7 (own_off HOd.o HFd'.o (by decide)))
       have HF8 := Ho (show FdO w7 w.heap.size ax2 (F.take (i + 1)) cx2 by rw [HT.o]; exact o7)
       clear o7 u7 g7
       refine hK.out _ _ ⟨HA8.o, HZ8.o, HU8.o⟩ (fun hS => ?_)
       clear hK K
       simp only [Act.put, pB, pC, pD]
       refine tN 14 (some 36) (.fieldAddr 77 (.tmp 3) 2) 0 (.pointer (some ⟨Br, 2, none⟩)) hS ?_
       simp only [pA, pB, pC, pD]
       refine rD 15 none (.store 36 (.tmp 36) (.tmp 35)) 0 fun _ _ K hK => ?_
       have k3 := HR8.o.cell (i := 2) rfl
       have f3 := HR8.o.thaw 2
       have G8 := grown_set1 w7 Br 2 (.slice ax2 (i + 1) cx2)
       have HR9 := Ho (HR8.o.set 2 (.slice ax2 (i + 1) cx2))
       have HU9 := Ho (HU8.o.by G8 (fun g hg => by have := Option.some.inj hg; have := HBr.o; omega))
       have HA9 := Ho (HA8.o.by G8 (fun e => by have := Option.some.inj e; have := HBr.o; omega))
       have HZ9 := Ho (HZ8.o.by G8 (fun e => by have := Option.some.inj e; have := HBr.o; omega))
       have HB9 := Ho (HB8.o.kept G8 (.inr (own_ne HB8.o HR8.o (by decide))))
       have HF9 := Ho (show FdO (w7.setCell ⟨Br, 2, none⟩ (.slice ax2 (i + 1) cx2)) w.heap.size ax2 (F.take (i + 1)) cx2 from HF8.o.kept G8 (.inr (own_ne HF8.o HR8.o (by decide))))
       clear G8
       rw [if_pos (by kernel_rfl)]
       go_simp
       refine hK.out _ _ ⟨HA9.o, HZ9.o, HU9.o⟩ (fun hS => ?_)
       clear hK K hS
       refine wpAnyH_done (by kernel_rfl) ?_ _
       go_wp2
       go_roundw
       all_goals first
        | exact ⟨i + 1, by go_num, by omega, Ho ⟨ax2, cx2, HR9.o, HF9.o, HB9.o, HA9.o, HZ9.o, HU9.o⟩⟩
        | (simp [intOf]; omega)
     rw [if_pos (by kernel_rfl)]
     go_simp
     refine (value_walk av us cv i wr.drew (HV.o.up HU7.o.drew)).mono ?_
     rintro e w5 ⟨rfl, h9⟩
     obtain rfl := h9.symm
     clear h9
     rw [HFv.o]
     dsimp only
     refine hK.out _ _ hS (fun hS => ?_)
     clear hK K
     refine tN 11 (some 33) (.build 89 #[(0, .tmp 28), (1, .tmp 32)]) 89 (.agg #[.string f.n, .string f.v]) hS ?_
     simp only [Act.put, pB, pC, pD]
     refine wpAnyH_ready (rs := [1, 12]) (by kernel_rfl) (by simp) ?_
     refine AllReadyH.cons (o := ⟨some 23, .load 36 (.tmp 22), 36, "law.go:126", #[eD 0], none⟩) rfl (fun K hK => ?_) (AllReadyH.cons (o := ⟨some 34, .buildSlice 36 1 #[(0, .tmp 33)], 36, "law.go:126", #[eD 11], none⟩) rfl (fun K hK => ?_) AllReadyH.nil)
     case' _ =>
      rw [if_pos (by kernel_rfl)]
      have k3 := HRd.o.cell (i := 2) rfl
      go_simp
      refine hK.out _ _ hS (fun hS => ?_)
      clear hK K k3
      refine rD 12 (some 34) (.buildSlice 36 1 #[(0, .tmp 33)]) 36 fun _ _ K hK => ?_
      rw [if_pos (by kernel_rfl)]
      go_simp
      refine hK.out _ _ ⟨hS.1.up ((Up.refl _).alloc _), hS.2.1.up ((Up.refl _).alloc _), hS.2.2.alloc _⟩ (fun hS => ?_)
      clear hK K
     rotate_left
     case' _ =>
      rw [if_pos (by kernel_rfl)]
      go_simp
      refine hK.out _ _ ⟨hS.1.up ((Up.refl _).alloc _), hS.2.1.up ((Up.refl _).alloc _), hS.2.2.alloc _⟩ (fun hS => ?_)
      clear hK K
      refine rD 1 (some 23) (.load 36 (.tmp 22)) 36 fun _ _ K hK => ?_
      rw [if_pos (by kernel_rfl)]
      have k3 := ((HR7.o.up ((Up.refl wr).alloc (.cells #[.string f.n, .string f.v] 89))).up (Up.refl _).drew).cell (i := 2) rfl
      go_simp
      refine hK.out _ _ hS (fun hS => ?_)
      clear hK K k3
     all_goals
      refine rD 13 (some 35) (.call ⟨.builtin .append, #[.tmp 23, .tmp 34], #[36, 36]⟩) 36 fun _ _ K hK => oper_of_list ?_
      refine wpList_appFd (w := wr.drew) (N := w.heap.size) rfl _ _ rfl a7 c7 (F.take i) f HLn.o rfl rfl HFd.o HU7.o.drew.size (by omega) ?_
      intro ax2 cx2 w7 o7 u7 g7
      have HU8 := Ho (u7 w HU7.o.drew (Nat.le_refl _))
      have HR8 := Ho (HRd.o.by g7 (own_ne HFd'.o HRd.o (by decide)))
      have HA8 := Ho (HAd.o.by g7 (own_ne HFd'.o HAd.o (by decide)))
      have HZ8 := Ho (HZd.o.by g7 (own_ne HFd'.o HZd.o (by decide)))
      have HB8 := Ho (HOd.o.kept g7 (own_off HOd.o HFd'.o (by decide)))
      have HF8 := Ho (show FdO w7 w.heap.size ax2 (F.take (i + 1)) cx2 by rw [HT.o]; exact o7)
      clear o7 u7 g7
      refine hK.out _ _ ⟨HA8.o, HZ8.o, HU8.o⟩ (fun hS => ?_)
      clear hK K
      simp only [Act.put, pB, pC, pD]
      refine tN 14 (some 36) (.fieldAddr 77 (.tmp 3) 2) 0 (.pointer (some ⟨Br, 2, none⟩)) hS ?_
      simp only [pA, pB, pC, pD]
      refine rD 15 none (.store 36 (.tmp 36) (.tmp 35)) 0 fun _ _ K hK => ?_
      have k3 := HR8.o.cell (i := 2) rfl
      have f3 := HR8.o.thaw 2
      have G8 := grown_set1 w7 Br 2 (.slice ax2 (i + 1) cx2)
      have HR9 := Ho (HR8.o.set 2 (.slice ax2 (i + 1) cx2))
      have HU9 := Ho (HU8.o.by G8 (fun g hg => by have := Option.some.inj hg; have := HBr.o; omega))
      have HA9 := Ho (HA8.o.by G8 (fun e => by have := Option.some.inj e; have := HBr.o; omega))
      have HZ9 := Ho (HZ8.o.by G8 (fun e => by have := Option.some.inj e; have := HBr.o; omega))
      have HB9 := Ho (HB8.o.kept G8 (.inr (own_ne HB8.o HR8.o (by decide))))
      have HF9 := Ho (show FdO (w7.setCell ⟨Br, 2, none⟩ (.slice ax2 (i + 1) cx2)) w.heap.size ax2 (F.take (i + 1)) cx2 from HF8.o.kept G8 (.inr (own_ne HF8.o HR8.o (by decide))))
      clear G8
      rw [if_pos (by kernel_rfl)]
      go_simp
      refine hK.out _ _ ⟨HA9.o, HZ9.o, HU9.o⟩ (fun hS => ?_)
      clear hK K hS
      refine wpAnyH_done (by kernel_rfl) ?_ _
      go_wp2
      go_roundw
      all_goals first
       | exact ⟨i + 1, by go_num, by omega, Ho ⟨ax2, cx2, HR9.o, HF9.o, HB9.o, HA9.o, HZ9.o, HU9.o⟩⟩
       | (simp [intOf]; omega)
   have hilz : ¬ (i : Int) < (ns.length : Int) := by omega
   have hin : i = ns.length := by omega
   subst hin
   have HF8 := Ho (show FdO wr w.heap.size a7 F c7 by
    have h1 := HF7.o
    rw [List.take_of_length_le (by rw [HFl.o]; exact Nat.le_refl _)] at h1
    exact h1)
   go_wp2_with (with_reducible refine sL 77 ?_)
   show wpList _ _ _ _ _ _
   refine wpList_load_mid rfl _ _ rfl Br 0 rfl _ _ HR7.o.range Tryz.underlying77 rfl (by kernel_rfl) ?_
   simp only [Act.put, pB, pC, pD]
   refine wpList_store_at rfl 77 _ _ rfl (w.heap.size + 1) HZ7.o [.int .i64 st, .int .i64 mi, .slice a7 ns.length c7, .slice a5 L5 c5, .bool false] rfl rfl rfl (by kernel_rfl) (by kernel_rfl) ?_
   intro w8 hA8 hg8
   have HA8 := Ho hA8
   have HU8 := Ho (HU7.o.bz hg8)
   have HF9 := Ho (show FdO w8 w.heap.size a7 F c7 from HF8.o.kept hg8 (.inr (own_ne HF8.o HZ7.o (by decide))))
   have HO9 := Ho (HO7.o.kept hg8 (.inr (own_ne HO7.o HZ7.o (by decide))))
   clear hA8 hg8
   simp only [Act.put]
   repeat go_step
   refine bodyPost_ret (results_agg1 Tryz.results38 _ _ (w.heap.size + 1) [.int .i64 st, .int .i64 mi, .slice a7 ns.length c7, .slice a5 L5 c5, .bool false] rfl HA8.o.range Tryz.underlying77 rfl (by kernel_rfl)) rfl ?_
   exact ⟨⟨a7, c7, _, rfl, Ho ⟨HF9.o, by unfold Ow; rw [HL5.o]; exact HO9.o⟩⟩, HU8.o⟩
set_option maxRecDepth 100000 in
set_option maxHeartbeats 8000000 in
theorem answered_walk (st mi : Int) (an : Option Addr) (ns : List ByteArray) (cn : Nat) (av : Option Addr) (us : List ByteArray) (cv : Nat) (ab : Option Addr) (nb cb' : Nat) (bd : List UInt8) (pad : Int) (w : World) (hN : StL w an ns cn) (hV : StL w av us cv) (hB : Sb w (.slice ab nb cb') bd) (hnl : ns.length ≤ 1048576) (hbl : bd.length ≤ 1048576) :
  Calls Tryz.prog 40 #[.agg #[.int .i64 st, .int .i64 mi, .slice an ns.length cn, .slice av us.length cv, .slice ab nb cb', .int .i64 pad]] w fun e w' => (∃ a c v, e = .returned (.agg #[.int .i64 st, .int .i64 mi, .slice a ns.length c, v, .bool false]) ∧ Hd (RfO w' w.heap.size a (mkF ns us) c ∧ Ow w' w.heap.size v (pdd bd pad))) ∧ Up w w' := by
 have HN := Ho hN
 have HV := Ho hV
 have HB := Ho hB
 have hcap := hN.cap
 have hcapv := hV.cap
 obtain ⟨hbn, hbc, hbm⟩ := hB.len
 unfold maxLen at hbm
 clear hN hV hB hbn
 obtain ⟨F, hF⟩ := ny (mkF ns us)
 have HFl := Ho (show F.length = ns.length by rw [← hF, mkF_len])
 have HFg := Ho (show ∀ i (h : i < ns.length) (h' : i < F.length), F[i] = ⟨ns[i], vat us i⟩ by subst hF; exact fun i h h' => mkF_get h h')
 rw [hF]
 clear hF
 have HA0 := Ho ((at_new w 29 [.int .i64 st, .int .i64 mi, .slice an ns.length cn, .slice av us.length cv, .slice ab nb cb', .int .i64 pad]).up ((Up.refl _).alloc (.cells z5.toArray 73)))
 have HZ0 := Ho (at_new (w.alloc (.cells [.int .i64 st, .int .i64 mi, .slice an ns.length cn, .slice av us.length cv, .slice ab nb cb', .int .i64 pad].toArray 29)) 73 z5)
 have HU0 := Ho (((Up.refl w).alloc (.cells [.int .i64 st, .int .i64 mi, .slice an ns.length cn, .slice av us.length cv, .slice ab nb cb', .int .i64 pad].toArray 29)).alloc (.cells z5.toArray 73))
 rw [alloc_size] at HZ0
 go_enter Tryz.func40, Tryz.ntmps40
 go_wp2
 obtain ⟨w1, hw1⟩ := ny ((w.alloc (.cells [.int .i64 st, .int .i64 mi, .slice an ns.length cn, .slice av us.length cv, .slice ab nb cb', .int .i64 pad].toArray 29)).alloc (.cells z5.toArray 73))
 have HS1 := Ho (show w.heap.size + 1 < w1.heap.size by rw [← hw1, alloc_size, alloc_size]; omega)
 rw [hw1] at HA0 HU0 HZ0
 change Code.wp _ _ _ _ ((w.alloc (.cells [.int .i64 st, .int .i64 mi, .slice an ns.length cn, .slice av us.length cv, .slice ab nb cb', .int .i64 pad].toArray 29)).alloc (.cells z5.toArray 73))
 rw [hw1]
 clear hw1
 refine wp_region_held_drew (S := fun w2 => At w2 w.heap.size 29 [.int .i64 st, .int .i64 mi, .slice an ns.length cn, .slice av us.length cv, .slice ab nb cb', .int .i64 pad] ∧ At w2 (w.heap.size + 1) 73 z5 ∧ Up w w2) (by kernel_rfl) ⟨HA0.o.up (Up.refl _).drew, HZ0.o.up (Up.refl _).drew, HU0.o.drew⟩ (fun hS => ?_)
 refine tN 0 (some 5) (.fieldAddr 29 (.tmp 1) 0) 0 (.pointer (some ⟨w.heap.size, 0, none⟩)) hS ?_
 simp only [Act.put, pB, pC, pD]
 refine tK 1 (some 6) (.load 3 (.tmp 5)) 3 (.int .i64 st) hS ?_ ?_
 · intro _ _ w5 hSw
   have h0 := hSw.1.cell (i := 0) rfl
   clear hSw hS
   go_simp
 simp only [pA, pB, pC, pD]
 refine tN 2 (some 7) (.fieldAddr 29 (.tmp 1) 1) 0 (.pointer (some ⟨w.heap.size, 1, none⟩)) hS ?_
 simp only [pA, pB, pC, pD]
 refine tK 3 (some 8) (.load 3 (.tmp 7)) 3 (.int .i64 mi) hS ?_ ?_
 · intro _ _ w5 hSw
   have h0 := hSw.1.cell (i := 1) rfl
   clear hSw hS
   go_simp
 simp only [pA, pB, pC, pD]
 refine tN 4 (some 9) (.fieldAddr 29 (.tmp 1) 4) 0 (.pointer (some ⟨w.heap.size, 4, none⟩)) hS ?_
 simp only [pA, pB, pC, pD]
 refine tK 5 (some 10) (.load 22 (.tmp 9)) 22 (.slice ab nb cb') hS ?_ ?_
 · intro _ _ w5 hSw
   have h0 := hSw.1.cell (i := 4) rfl
   clear hSw hS
   go_simp
 simp only [pA, pB, pC, pD]
 refine tN 6 (some 11) (.fieldAddr 29 (.tmp 1) 5) 0 (.pointer (some ⟨w.heap.size, 5, none⟩)) hS ?_
 simp only [pA, pB, pC, pD]
 refine tK 7 (some 12) (.load 3 (.tmp 11)) 3 (.int .i64 pad) hS ?_ ?_
 · intro _ _ w5 hSw
   have h0 := hSw.1.cell (i := 5) rfl
   clear hSw hS
   go_simp
 simp only [pA, pB, pC, pD]
 refine wpAnyH_ready (rs := [8, 10]) (by kernel_rfl) (by simp) ?_
 refine AllReadyH.cons (o := ⟨some 13, .call ⟨.value (.func 23), #[.tmp 10, .tmp 12], #[22, 3]⟩, 22, "law.go:133", #[eD 5, eD 7], none⟩) rfl (fun K hK => ?_) (AllReadyH.cons (o := ⟨some 3, .alloc 73, 0, "law.go:133", #[], none⟩) rfl (fun K hK => ?_) AllReadyH.nil)
 case' _ =>
  rw [if_pos (by kernel_rfl)]
  go_simp
  refine (padded_walk (.slice ab nb cb') bd pad (by omega) w1.drew (HB.o.up (HU0.o.drew))).mono ?_
  rintro e w2 ⟨v5, rfl, hO, h9⟩
  obtain ⟨a5, c5, rfl⟩ := row_len hO
  have HO2 := Ho (show Ow w2 w.heap.size _ (pdd bd pad) from ow_base hO (HU0.o.drew).size)
  have HU2 := Ho ((HU0.o.drew).trans h9)
  have HA2 := Ho ((HA0.o.up (Up.refl _).drew).up h9)
  have HZ2 := Ho ((HZ0.o.up (Up.refl _).drew).up h9)
  have Hs2 := Ho (show w1.drew.heap.size ≤ w2.heap.size from h9.size)
  clear h9 hO hS
  obtain ⟨L5, hL5⟩ := ny ((pdd bd pad).length)
  have HL5 := Ho hL5
  rw [hL5] at HO2 ⊢
  clear hL5
  dsimp only
  refine hK.out _ _ ⟨HA2.o, HZ2.o, HU2.o⟩ (fun hS => ?_)
  clear hK K
  refine tN 9 (some 14) (.build 73 #[(0, .tmp 6), (1, .tmp 8), (3, .tmp 13)]) 73 (.agg #[.int .i64 st, .int .i64 mi, .slice none 0 0, .slice a5 L5 c5, .bool false]) hS ?_
  simp only [Act.put, pB, pC, pD]
  refine rD 10 (some 3) (.alloc 73) 0 fun _ _ K hK => ?_
  rw [if_pos (by kernel_rfl)]
  go_simp
  have HR3 := Ho (at_new w2 73 z5)
  have HBr := Ho (show w.heap.size + 1 < w2.heap.size from Nat.lt_of_lt_of_le HS1.o (Nat.le_trans (Up.refl w1).drew.size Hs2.o))
  have HO3 := Ho (ow_up HO2.o ((Up.refl w2).alloc (.cells z5.toArray 73)))
  clear HO2
  refine hK.out _ _ ⟨hS.1.up ((Up.refl _).alloc _), hS.2.1.up ((Up.refl _).alloc _), hS.2.2.alloc _⟩ (fun hS => ?_)
  clear hK K
  refine rD 11 none (.store 73 (.tmp 3) (.tmp 14)) 0 fun _ _ K hK => oper_of_list ?_
  refine wpList_store_at rfl 73 _ _ rfl (w2.heap.size) HR3.o ([.int .i64 st, .int .i64 mi, .slice none 0 0, .slice a5 L5 c5, .bool false]) rfl rfl rfl (by kernel_rfl) (by kernel_rfl) ?_
  intro w4 hA4 hg4
  have HR4 := Ho hA4
  have HU4 := Ho (hS.2.2.by hg4 (fun g hg => by have := Option.some.inj hg; have := HBr.o; omega))
  have HA4 := Ho (hS.1.by hg4 (fun e => by have := Option.some.inj e; have := HBr.o; omega))
  have HZ4 := Ho (hS.2.1.by hg4 (fun e => by have := Option.some.inj e; have := HBr.o; omega))
  have HO4 := Ho (HO3.o.kept hg4 (.inr (own_ne HO3.o HR3.o (by decide))))
  clear hA4 hg4 HR3 HO3
  refine hK.out _ _ ⟨HA4.o, HZ4.o, HU4.o⟩ (fun hS => ?_)
  clear hK K hS
  refine wpAnyH_done (by kernel_rfl) ?_ _
  obtain ⟨Br, hBr⟩ := ny w2.heap.size
 rotate_left
 case' _ =>
  rw [if_pos (by kernel_rfl)]
  go_simp
  have HR1 := Ho (show At _ w1.heap.size 73 z5 from at_new w1.drew 73 z5)
  have HUa := Ho ((Up.refl w1.drew).alloc (.cells z5.toArray 73))
  have HBr := Ho (show w.heap.size + 1 < w1.heap.size from HS1.o)
  refine hK.out _ _ ⟨hS.1.up HUa.o, hS.2.1.up HUa.o, hS.2.2.trans HUa.o⟩ (fun hS => ?_)
  clear hK K
  refine rD 8 (some 13) (.call ⟨.value (.func 23), #[.tmp 10, .tmp 12], #[22, 3]⟩) 22 fun _ _ K hK => ?_
  rw [if_pos (by kernel_rfl)]
  go_simp
  refine (padded_walk (.slice ab nb cb') bd pad (by omega) _ (HB.o.up (HU0.o.drew.trans HUa.o))).mono ?_
  rintro e w2 ⟨v5, rfl, hO, h9⟩
  obtain ⟨a5, c5, rfl⟩ := row_len hO
  have HO2 := Ho (show Ow w2 w.heap.size _ (pdd bd pad) from ow_base hO (HU0.o.drew.trans HUa.o).size)
  have HU2 := Ho ((HU0.o.drew.trans HUa.o).trans h9)
  have HA2 := Ho (((HA0.o.up (Up.refl _).drew).up HUa.o).up h9)
  have HZ2 := Ho (((HZ0.o.up (Up.refl _).drew).up HUa.o).up h9)
  have HR3 := Ho (HR1.o.up h9)
  clear h9 hO hS
  obtain ⟨L5, hL5⟩ := ny ((pdd bd pad).length)
  have HL5 := Ho hL5
  rw [hL5] at HO2 ⊢
  clear hL5
  dsimp only
  refine hK.out _ _ ⟨HA2.o, HZ2.o, HU2.o⟩ (fun hS => ?_)
  clear hK K
  have HO3 := Ho HO2.o
  clear HO2
  refine tN 9 (some 14) (.build 73 #[(0, .tmp 6), (1, .tmp 8), (3, .tmp 13)]) 73 (.agg #[.int .i64 st, .int .i64 mi, .slice none 0 0, .slice a5 L5 c5, .bool false]) hS ?_
  simp only [Act.put, pB, pC, pD]
  refine rD 11 none (.store 73 (.tmp 3) (.tmp 14)) 0 fun _ _ K hK => oper_of_list ?_
  refine wpList_store_at rfl 73 _ _ rfl (w1.heap.size) HR3.o ([.int .i64 st, .int .i64 mi, .slice none 0 0, .slice a5 L5 c5, .bool false]) rfl rfl rfl (by kernel_rfl) (by kernel_rfl) ?_
  intro w4 hA4 hg4
  have HR4 := Ho hA4
  have HU4 := Ho (hS.2.2.by hg4 (fun g hg => by have := Option.some.inj hg; have := HBr.o; omega))
  have HA4 := Ho (hS.1.by hg4 (fun e => by have := Option.some.inj e; have := HBr.o; omega))
  have HZ4 := Ho (hS.2.1.by hg4 (fun e => by have := Option.some.inj e; have := HBr.o; omega))
  have HO4 := Ho (HO3.o.kept hg4 (.inr (own_ne HO3.o HR3.o (by decide))))
  clear hA4 hg4 HR3 HO3
  refine hK.out _ _ ⟨HA4.o, HZ4.o, HU4.o⟩ (fun hS => ?_)
  clear hK K hS
  refine wpAnyH_done (by kernel_rfl) ?_ _
  obtain ⟨Br, hBr⟩ := ny w1.heap.size
 all_goals
  rw [hBr] at HR4 HBr ⊢
  clear hBr
  go_wp2
  go_loopw [4] (fun v4 wr => ∃ i : Nat, v4 = .int .i64 (i : Int) ∧ i ≤ ns.length ∧ Hd (∃ a7 c7, At wr Br 73 [.int .i64 st, .int .i64 mi, .slice a7 i c7, .slice a5 L5 c5, .bool false] ∧ RfO wr w.heap.size a7 (F.take i) c7 ∧ wr.ownsRow w.heap.size 5 1 (.slice a5 L5 c5) L5 (cb (pdd bd pad)) ∧ At wr w.heap.size 29 [.int .i64 st, .int .i64 mi, .slice an ns.length cn, .slice av us.length cv, .slice ab nb cb', .int .i64 pad] ∧ At wr (w.heap.size + 1) 73 z5 ∧ Up w wr)) (fun v4 _ => ns.length - (intOf v4).toNat)
  case atStart => exact ⟨0, rfl, Nat.zero_le _, Ho ⟨none, 0, HR4.o, World.ownsRow_nil _ _ _ _, (by have h := HO4.o; rw [HL5.o] at h; exact h), HA4.o, HZ4.o, HU4.o⟩⟩
  case round =>
   obtain ⟨i, rfl, hi, hQ⟩ := hrel
   obtain ⟨a7, c7, q1, q2, q3, q4, q5, q6⟩ := hQ.o
   have HR7 := Ho q1
   have HF7 := Ho q2
   have HO7 := Ho q3
   have HA7 := Ho q4
   have HZ7 := Ho q5
   have HU7 := Ho q6
   have h3 := q4.cell (i := 2) rfl
   clear hQ q1 q2 q3 q4 q5 q6
   by_cases hil : i < ns.length
   · have hilz : (i : Int) < (ns.length : Int) := by omega
     have hif : i < F.length := by rw [HFl.o]; exact hil
     obtain ⟨b, off, han, k1⟩ := HN.o.cells i hil
     have HAn := Ho han
     clear han
     have HT := Ho (List.take_succ_eq_append_getElem hif)
     have HLn := Ho (show (F.take i).length = i by rw [List.length_take]; omega)
     have hfg := HFg.o i hil hif
     obtain ⟨f, hf⟩ := ny (F[i])
     rw [hf] at HT hfg
     have HFv := Ho (show vat us i = f.v by rw [hfg])
     have HK1 := Ho (show w.cell? ⟨b, off + i, none⟩ = some (.string f.n) by rw [k1, hfg])
     clear hf hfg k1
     have HRd := Ho (HR7.o.up (Up.refl wr).drew)
     have HFd := Ho (ow_up HF7.o (Up.refl wr).drew)
     have HFd' := Ho (show wr.drew.ownsRow w.heap.size 102 2 (.slice a7 i c7) i (fdc (F.take i)) by have := HFd.o; rw [HLn.o] at this; exact this)
     have HOd := Ho (ow_up HO7.o (Up.refl wr).drew)
     have HAd := Ho (HA7.o.up (Up.refl wr).drew)
     have HZd := Ho (HZ7.o.up (Up.refl wr).drew)
     go_wp2
     refine wp_region_held_drew (S := fun w2 => At w2 w.heap.size 29 [.int .i64 st, .int .i64 mi, .slice an ns.length cn, .slice av us.length cv, .slice ab nb cb', .int .i64 pad] ∧ At w2 (w.heap.size + 1) 73 z5 ∧ Up w w2) (by kernel_rfl) ⟨HA7.o.up (Up.refl _).drew, HZ7.o.up (Up.refl _).drew, HU7.o.drew⟩ (fun hS => ?_)
     refine tN 0 (some 22) (.fieldAddr 73 (.tmp 3) 2) 0 (.pointer (some ⟨Br, 2, none⟩)) hS ?_
     simp only [Act.put, pB, pC, pD]
     refine tN 2 (some 24) (.fieldAddr 29 (.tmp 1) 2) 0 (.pointer (some ⟨w.heap.size, 2, none⟩)) hS ?_
     simp only [pA, pB, pC, pD]
     refine tK 3 (some 25) (.load 25 (.tmp 24)) 25 (.slice (some ⟨b, off, none⟩) ns.length cn) hS ?_ ?_
     · intro _ _ w5 hSw
       have h0 := hSw.1.cell (i := 2) rfl
       rw [HAn.o] at h0
       clear hSw hS
       go_simp
     simp only [pA, pB, pC, pD]
     refine tN 4 (some 26) (.move (.tmp 4)) 3 (.int .i64 (i : Int)) hS ?_
     simp only [pA, pB, pC, pD]
     refine tN 5 (some 27) (.indexAddr 25 (.tmp 25) (.tmp 26)) 0 (.pointer (some ⟨b, off + i, none⟩)) hS ?_
     simp only [pA, pB, pC, pD]
     refine tK 6 (some 28) (.load 9 (.tmp 27)) 9 (.string f.n) hS ?_ ?_
     · intro _ _ w5 hSw
       have h0 := hSw.2.2.cell HK1.o
       clear hSw hS
       go_simp
     simp only [pA, pB, pC, pD]
     refine tN 7 (some 29) (.fieldAddr 29 (.tmp 1) 3) 0 (.pointer (some ⟨w.heap.size, 3, none⟩)) hS ?_
     simp only [pA, pB, pC, pD]
     refine tK 8 (some 30) (.load 25 (.tmp 29)) 25 (.slice av us.length cv) hS ?_ ?_
     · intro _ _ w5 hSw
       have h0 := hSw.1.cell (i := 3) rfl
       clear hSw hS
       go_simp
     simp only [pA, pB, pC, pD]
     refine tN 9 (some 31) (.move (.tmp 4)) 3 (.int .i64 (i : Int)) hS ?_
     simp only [pA, pB, pC, pD]
     refine wpAnyH_ready (rs := [1, 10]) (by kernel_rfl) (by simp) ?_
     refine AllReadyH.cons (o := ⟨some 23, .load 54 (.tmp 22), 54, "law.go:135", #[eD 0], none⟩) rfl (fun K hK => ?_) (AllReadyH.cons (o := ⟨some 32, .call ⟨.value (.func 42), #[.tmp 30, .tmp 31], #[25, 3]⟩, 9, "law.go:135", #[eD 8, eD 9], none⟩) rfl (fun K hK => ?_) AllReadyH.nil)
     · rw [if_pos (by kernel_rfl)]
       have k3 := HRd.o.cell (i := 2) rfl
       go_simp
       refine hK.out _ _ hS (fun hS => ?_)
       clear hK K k3
       refine rD 10 (some 32) (.call ⟨.value (.func 42), #[.tmp 30, .tmp 31], #[25, 3]⟩) 9 fun _ _ K hK => ?_
       rw [if_pos (by kernel_rfl)]
       go_simp
       refine (value_walk av us cv i wr.drew (HV.o.up HU7.o.drew)).mono ?_
       rintro e w5 ⟨rfl, h9⟩
       obtain rfl := h9.symm
       clear h9
       rw [HFv.o]
       dsimp only
       refine hK.out _ _ hS (fun hS => ?_)
       clear hK K
       refine tN 11 (some 33) (.build 102 #[(0, .tmp 28), (1, .tmp 32)]) 102 (.agg #[.string f.n, .string f.v]) hS ?_
       simp only [Act.put, pB, pC, pD]
       refine rD 12 (some 34) (.buildSlice 54 1 #[(0, .tmp 33)]) 54 fun _ _ K hK => ?_
       rw [if_pos (by kernel_rfl)]
       go_simp
       refine hK.out _ _ ⟨hS.1.up ((Up.refl _).alloc _), hS.2.1.up ((Up.refl _).alloc _), hS.2.2.alloc _⟩ (fun hS => ?_)
       clear hK K
       refine rD 13 (some 35) (.call ⟨.builtin .append, #[.tmp 23, .tmp 34], #[54, 54]⟩) 54 fun _ _ K hK => oper_of_list ?_
       refine wpList_appRf (w := wr.drew) (N := w.heap.size) rfl _ _ rfl a7 c7 (F.take i) f HLn.o rfl rfl HFd.o HU7.o.drew.size (by omega) ?_
       intro ax2 cx2 w7 o7 u7 g7
       have HU8 := Ho (u7 w HU7.o.drew (Nat.le_refl _))
       have HR8 := Ho (HRd.o.by g7 (own_ne HFd'.o HRd.o (by decide)))
       have HA8 := Ho (HAd.o.by g7 (own_ne HFd'.o HAd.o (by decide)))
       have HZ8 := Ho (HZd.o.by g7 (own_ne HFd'.o HZd.o (by decide)))
       have HB8 := Ho (HOd.o.kept g7 (own_off HOd.o HFd'.o (by decide)))
       have HF8 := Ho (show RfO w7 w.heap.size ax2 (F.take (i + 1)) cx2 by rw [HT.o]; exact o7)
       clear o7 u7 g7
       refine hK.out _ _ ⟨HA8.o, HZ8.o, HU8.o⟩ (fun hS => ?_)
       clear hK K
       simp only [Act.put, pB, pC, pD]
       refine tN 14 (some 36) (.fieldAddr 73 (.tmp 3) 2) 0 (.pointer (some ⟨Br, 2, none⟩)) hS ?_
       simp only [pA, pB, pC, pD]
       refine rD 15 none (.store 54 (.tmp 36) (.tmp 35)) 0 fun _ _ K hK => ?_
       have k3 := HR8.o.cell (i := 2) rfl
       have f3 := HR8.o.thaw 2
       have G8 := grown_set1 w7 Br 2 (.slice ax2 (i + 1) cx2)
       have HR9 := Ho (HR8.o.set 2 (.slice ax2 (i + 1) cx2))
       have HU9 := Ho (HU8.o.by G8 (fun g hg => by have := Option.some.inj hg; have := HBr.o; omega))
       have HA9 := Ho (HA8.o.by G8 (fun e => by have := Option.some.inj e; have := HBr.o; omega))
       have HZ9 := Ho (HZ8.o.by G8 (fun e => by have := Option.some.inj e; have := HBr.o; omega))
       have HB9 := Ho (HB8.o.kept G8 (.inr (own_ne HB8.o HR8.o (by decide))))
       have HF9 := Ho (show RfO (w7.setCell ⟨Br, 2, none⟩ (.slice ax2 (i + 1) cx2)) w.heap.size ax2 (F.take (i + 1)) cx2 from HF8.o.kept G8 (.inr (own_ne HF8.o HR8.o (by decide))))
       clear G8
       rw [if_pos (by kernel_rfl)]
       go_simp
       refine hK.out _ _ ⟨HA9.o, HZ9.o, HU9.o⟩ (fun hS => ?_)
       clear hK K hS
       refine wpAnyH_done (by kernel_rfl) ?_ _
       go_wp2
       go_roundw
       all_goals first
        | exact ⟨i + 1, by go_num, by omega, Ho ⟨ax2, cx2, HR9.o, HF9.o, HB9.o, HA9.o, HZ9.o, HU9.o⟩⟩
        | (simp [intOf]; omega)
     rw [if_pos (by kernel_rfl)]
     go_simp
     refine (value_walk av us cv i wr.drew (HV.o.up HU7.o.drew)).mono ?_
     rintro e w5 ⟨rfl, h9⟩
     obtain rfl := h9.symm
     clear h9
     rw [HFv.o]
     dsimp only
     refine hK.out _ _ hS (fun hS => ?_)
     clear hK K
     refine tN 11 (some 33) (.build 102 #[(0, .tmp 28), (1, .tmp 32)]) 102 (.agg #[.string f.n, .string f.v]) hS ?_
     simp only [Act.put, pB, pC, pD]
     refine wpAnyH_ready (rs := [1, 12]) (by kernel_rfl) (by simp) ?_
     refine AllReadyH.cons (o := ⟨some 23, .load 54 (.tmp 22), 54, "law.go:135", #[eD 0], none⟩) rfl (fun K hK => ?_) (AllReadyH.cons (o := ⟨some 34, .buildSlice 54 1 #[(0, .tmp 33)], 54, "law.go:135", #[eD 11], none⟩) rfl (fun K hK => ?_) AllReadyH.nil)
     case' _ =>
      rw [if_pos (by kernel_rfl)]
      have k3 := HRd.o.cell (i := 2) rfl
      go_simp
      refine hK.out _ _ hS (fun hS => ?_)
      clear hK K k3
      refine rD 12 (some 34) (.buildSlice 54 1 #[(0, .tmp 33)]) 54 fun _ _ K hK => ?_
      rw [if_pos (by kernel_rfl)]
      go_simp
      refine hK.out _ _ ⟨hS.1.up ((Up.refl _).alloc _), hS.2.1.up ((Up.refl _).alloc _), hS.2.2.alloc _⟩ (fun hS => ?_)
      clear hK K
     rotate_left
     case' _ =>
      rw [if_pos (by kernel_rfl)]
      go_simp
      refine hK.out _ _ ⟨hS.1.up ((Up.refl _).alloc _), hS.2.1.up ((Up.refl _).alloc _), hS.2.2.alloc _⟩ (fun hS => ?_)
      clear hK K
      refine rD 1 (some 23) (.load 54 (.tmp 22)) 54 fun _ _ K hK => ?_
      rw [if_pos (by kernel_rfl)]
      have k3 := ((HR7.o.up ((Up.refl wr).alloc (.cells #[.string f.n, .string f.v] 102))).up (Up.refl _).drew).cell (i := 2) rfl
      go_simp
      refine hK.out _ _ hS (fun hS => ?_)
      clear hK K k3
     all_goals
      refine rD 13 (some 35) (.call ⟨.builtin .append, #[.tmp 23, .tmp 34], #[54, 54]⟩) 54 fun _ _ K hK => oper_of_list ?_
      refine wpList_appRf (w := wr.drew) (N := w.heap.size) rfl _ _ rfl a7 c7 (F.take i) f HLn.o rfl rfl HFd.o HU7.o.drew.size (by omega) ?_
      intro ax2 cx2 w7 o7 u7 g7
      have HU8 := Ho (u7 w HU7.o.drew (Nat.le_refl _))
      have HR8 := Ho (HRd.o.by g7 (own_ne HFd'.o HRd.o (by decide)))
      have HA8 := Ho (HAd.o.by g7 (own_ne HFd'.o HAd.o (by decide)))
      have HZ8 := Ho (HZd.o.by g7 (own_ne HFd'.o HZd.o (by decide)))
      have HB8 := Ho (HOd.o.kept g7 (own_off HOd.o HFd'.o (by decide)))
      have HF8 := Ho (show RfO w7 w.heap.size ax2 (F.take (i + 1)) cx2 by rw [HT.o]; exact o7)
      clear o7 u7 g7
      refine hK.out _ _ ⟨HA8.o, HZ8.o, HU8.o⟩ (fun hS => ?_)
      clear hK K
      simp only [Act.put, pB, pC, pD]
      refine tN 14 (some 36) (.fieldAddr 73 (.tmp 3) 2) 0 (.pointer (some ⟨Br, 2, none⟩)) hS ?_
      simp only [pA, pB, pC, pD]
      refine rD 15 none (.store 54 (.tmp 36) (.tmp 35)) 0 fun _ _ K hK => ?_
      have k3 := HR8.o.cell (i := 2) rfl
      have f3 := HR8.o.thaw 2
      have G8 := grown_set1 w7 Br 2 (.slice ax2 (i + 1) cx2)
      have HR9 := Ho (HR8.o.set 2 (.slice ax2 (i + 1) cx2))
      have HU9 := Ho (HU8.o.by G8 (fun g hg => by have := Option.some.inj hg; have := HBr.o; omega))
      have HA9 := Ho (HA8.o.by G8 (fun e => by have := Option.some.inj e; have := HBr.o; omega))
      have HZ9 := Ho (HZ8.o.by G8 (fun e => by have := Option.some.inj e; have := HBr.o; omega))
      have HB9 := Ho (HB8.o.kept G8 (.inr (own_ne HB8.o HR8.o (by decide))))
      have HF9 := Ho (show RfO (w7.setCell ⟨Br, 2, none⟩ (.slice ax2 (i + 1) cx2)) w.heap.size ax2 (F.take (i + 1)) cx2 from HF8.o.kept G8 (.inr (own_ne HF8.o HR8.o (by decide))))
      clear G8
      rw [if_pos (by kernel_rfl)]
      go_simp
      refine hK.out _ _ ⟨HA9.o, HZ9.o, HU9.o⟩ (fun hS => ?_)
      clear hK K hS
      refine wpAnyH_done (by kernel_rfl) ?_ _
      go_wp2
      go_roundw
      all_goals first
       | exact ⟨i + 1, by go_num, by omega, Ho ⟨ax2, cx2, HR9.o, HF9.o, HB9.o, HA9.o, HZ9.o, HU9.o⟩⟩
       | (simp [intOf]; omega)
   have hilz : ¬ (i : Int) < (ns.length : Int) := by omega
   have hin : i = ns.length := by omega
   subst hin
   have HF8 := Ho (show RfO wr w.heap.size a7 F c7 by
    have h1 := HF7.o
    rw [List.take_of_length_le (by rw [HFl.o]; exact Nat.le_refl _)] at h1
    exact h1)
   go_wp2_with (with_reducible refine sL 73 ?_)
   show wpList _ _ _ _ _ _
   refine wpList_load_mid rfl _ _ rfl Br 0 rfl _ _ HR7.o.range Tryz.underlying73 rfl (by kernel_rfl) ?_
   simp only [Act.put, pB, pC, pD]
   refine wpList_store_at rfl 73 _ _ rfl (w.heap.size + 1) HZ7.o [.int .i64 st, .int .i64 mi, .slice a7 ns.length c7, .slice a5 L5 c5, .bool false] rfl rfl rfl (by kernel_rfl) (by kernel_rfl) ?_
   intro w8 hA8 hg8
   have HA8 := Ho hA8
   have HU8 := Ho (HU7.o.bz hg8)
   have HF9 := Ho (show RfO w8 w.heap.size a7 F c7 from HF8.o.kept hg8 (.inr (own_ne HF8.o HZ7.o (by decide))))
   have HO9 := Ho (HO7.o.kept hg8 (.inr (own_ne HO7.o HZ7.o (by decide))))
   clear hA8 hg8
   simp only [Act.put]
   repeat go_step
   refine bodyPost_ret (results_agg1 Tryz.results40 _ _ (w.heap.size + 1) [.int .i64 st, .int .i64 mi, .slice a7 ns.length c7, .slice a5 L5 c5, .bool false] rfl HA8.o.range Tryz.underlying73 rfl (by kernel_rfl)) rfl ?_
   exact ⟨⟨a7, c7, _, rfl, Ho ⟨HF9.o, by unfold Ow; rw [HL5.o]; exact HO9.o⟩⟩, HU8.o⟩
theorem rng_mid {w : World} {b : Nat} {p m s : List Value} (h : w.rangeAt b 0 (p ++ (m ++ s))) : w.rangeAt b p.length m := fun j v hv => by
 have hj : j < m.length := by
  rcases List.getElem?_eq_some_iff.1 hv with ⟨h1, _⟩
  exact h1
 have := h (p.length + j) v (by rw [List.getElem?_append_right (by omega), Nat.add_sub_cancel_left, List.getElem?_append_left hj]; exact hv)
 rwa [Nat.zero_add] at this
theorem sb_nil0 (w : World) : Sb w (.slice none 0 0) [] := ⟨none, 0, rfl, by simp, by unfold maxLen; omega, fun _ => ⟨rfl, rfl⟩, fun _ h => by cases h⟩
set_option maxRecDepth 100000 in
set_option maxHeartbeats 8000000 in
theorem printsA_req (ad : Nat → Addr) (oa : Option Addr) (on oc : Nat) (opd oN : Int) (oS : ByteArray) (r0 r1 : Int) (ra : Option Addr) (rn rc : Nat) (ra2 : Option Addr) (rn2 rc2 : Nat) (ra3 : Option Addr) (rn3 rc3 : Nat) (rp : Int) (m t : ByteArray) (mi : Int) (an : Option Addr) (ns : List ByteArray) (cn : Nat) (av : Option Addr) (us : List ByteArray) (cv : Nat) (ab : Option Addr) (nb cb' : Nat) (bd : List UInt8) (pad : Int) (w : World) (hN : StL w an ns cn) (hV : StL w av us cv) (hB : Sb w (.slice ab nb cb') bd) (hW : GW w ad) (hMt : w.rangeAt 0 0 mtC) (hm : m.size ≤ 1099511627776) (ht : t.size ≤ 1099511627776)
  (hm0 : -9223372036854775808 ≤ mi) (hm1 : mi ≤ 9223372036854775807) (hz : szs (mkF ns us) ≤ 1099511627000) (hnl : ns.length ≤ 1048576) (hbl : bd.length ≤ 1048576) :
  Calls Tryz.prog 61 #[.agg #[.int .i64 3, .slice oa on oc, .int .i64 opd, .int .i64 oN, .string oS, .string m, .string t, .int .i64 mi, .slice an ns.length cn, .slice av us.length cv, .slice ab nb cb', .int .i64 pad, .int .i64 r0, .int .i64 r1, .slice ra rn rc, .slice ra2 rn2 rc2, .slice ra3 rn3 rc3, .int .i64 rp]] w fun e w' => e = .returned (.bool true) ∧ Up w w' := by
 have HN := Ho hN
 have HV := Ho hV
 have HB := Ho hB
 have HW := Ho hW
 have hcn := hN.cap
 have hcv := hV.cap
 obtain ⟨hbn, hbc, hbm⟩ := hB.len
 unfold maxLen at hbm
 clear hN hV hB hbn
 obtain ⟨F, hF⟩ := ny (mkF ns us)
 have HFl0 : F.length = ns.length := by rw [← hF, mkF_len]
 rw [hF] at hz
 have HFe := Ho hF
 clear hF
 obtain ⟨BB, hBB⟩ := ny (pdd bd pad)
 have hBl : BB.length ≤ 2200000 := by
  rw [← hBB]
  unfold pdd
  rw [List.length_append, List.length_replicate]
  omega
 have HBe := Ho hBB
 clear hBB
 obtain ⟨nB, hnB⟩ := ny BB.length
 have HBn := Ho hnB
 obtain ⟨nF, hnF⟩ := ny ns.length
 have HNF := Ho (show F.length = nF by rw [HFl0]; exact hnF)
 have HNs := Ho hnF
 rw [hnB] at hBl
 obtain ⟨rq, hrq⟩ := ny (frQ m t mi F BB)
 have HRf := Ho (fun aF cF aR cR w2 (h : FdL w2 aF F cF) (hb : Sb w2 (.slice aR nB cR) BB) (hU : Up w w2) => RFormatRequest_walk m t mi aF F cF aR nB cR BB false w2 h hb (range_up hMt hU) hm ht hm0 hm1 hz (by omega))
 have HWf := Ho (fun aF cF aR cR w2 (h : FdL w2 aF F cF) (hb : Sb w2 (.slice aR nB cR) BB) (hU : Up w w2) => FormatRequest_walk ad m t mi aF F cF aR nB cR BB false w2 h hb (HW.o.up hU) hm ht hm0 hm1 hz (by omega))
 rw [hrq, HNF.o] at HRf HWf
 clear hrq HFl0 hnB hnF hW hMt
 have HX := Ho (fun W (h : At W w.heap.size 31 [.int .i64 3, .slice oa on oc, .int .i64 opd, .int .i64 oN, .string oS, .string m, .string t, .int .i64 mi, .slice an ns.length cn, .slice av us.length cv, .slice ab nb cb', .int .i64 pad, .int .i64 r0, .int .i64 r1, .slice ra rn rc, .slice ra2 rn2 rc2, .slice ra3 rn3 rc3, .int .i64 rp]) => (show W.rangeAt w.heap.size 5 [.string m, .string t, .int .i64 mi, .slice an ns.length cn, .slice av us.length cv, .slice ab nb cb', .int .i64 pad] from (rng_mid (p := [.int .i64 3, .slice oa on oc, .int .i64 opd, .int .i64 oN, .string oS]) (m := [.string m, .string t, .int .i64 mi, .slice an ns.length cn, .slice av us.length cv, .slice ab nb cb', .int .i64 pad]) (s := [.int .i64 r0, .int .i64 r1, .slice ra rn rc, .slice ra2 rn2 rc2, .slice ra3 rn3 rc3, .int .i64 rp]) h.range)))
 go_enter Tryz.func61, Tryz.ntmps61
 go_wp2_with (with_reducible refine sL 3 ?_)
 show wpList _ _ _ _ _ _
 refine spl fun w1 HA1 HU1 => ?_
 have c0 := HA1.o.cell (i := 0) rfl
 go_wp2_with (with_reducible refine sL 27 ?_)
 show wpList _ _ _ _ _ _
 refine wpList_load_mid rfl _ _ rfl w.heap.size 5 rfl [.string m, .string t, .int .i64 mi, .slice an ns.length cn, .slice av us.length cv, .slice ab nb cb', .int .i64 pad] _ (HX.o _ HA1.o) Tryz.underlying27 rfl (by kernel_rfl) ?_
 simp only [Act.put, pB, pC, pD]
 go_wp2_with fail
 refine (asked_walk m t mi an ns cn av us cv ab nb cb' bd pad w1 (HN.o.up HU1.o) (HV.o.up HU1.o) (HB.o.up HU1.o) hnl hbl).mono ?_
 rintro e w2 ⟨⟨aF, cF, vF, rfl, hO⟩, h9⟩
 rw [HBe.o, HFe.o] at hO
 obtain ⟨aR, cR, rfl⟩ := row_len hO.o.2
 have HU2 := Ho (HU1.o.trans h9)
 have HA2 := Ho (HA1.o.up h9)
 have HF2 := Ho (RfO.fdl hO.o.1)
 have HB2 := Ho (Ow.sb hO.o.2)
 clear hO h9
 have hcF := HF2.o.cap
 have hcB := HB2.o.len
 unfold maxLen at hcB
 obtain ⟨_, hcB1, hcB2⟩ := hcB
 rw [HBn.o] at HB2 hcB1 ⊢
 rw [HNF.o] at hcF
 dsimp only
 rw [HNs.o]
 go_wp2_with fail
 refine (HRf.o aF cF aR cR w2 HF2.o HB2.o HU2.o).mono ?_
 rintro e w3 ⟨hR, h9⟩
 have HU3 := Ho (HU2.o.trans h9)
 have HA3 := Ho (HA2.o.up h9)
 clear h9 hcF hcB1 hcB2 HF2 HB2
 cases rq with
 | error k =>
  change e = _ at hR
  subst hR
  dsimp only
  go_wp2_with (with_reducible refine sL 27 ?_)
  show wpList _ _ _ _ _ _
  refine wpList_load_mid rfl _ _ rfl w.heap.size 5 rfl [.string m, .string t, .int .i64 mi, .slice an ns.length cn, .slice av us.length cv, .slice ab nb cb', .int .i64 pad] _ (HX.o _ HA3.o) Tryz.underlying27 rfl (by kernel_rfl) ?_
  simp only [Act.put, pB, pC, pD]
  go_wp2_with fail
  refine (request_walk m t mi an ns cn av us cv ab nb cb' bd pad w3 (HN.o.up HU3.o) (HV.o.up HU3.o) (HB.o.up HU3.o) hnl hbl).mono ?_
  rintro e w4 ⟨⟨aF, cF, vF, rfl, hO⟩, h9⟩
  rw [HBe.o, HFe.o] at hO
  obtain ⟨aR, cR, rfl⟩ := row_len hO.o.2
  have HU4 := Ho (HU3.o.trans h9)
  have HA4 := Ho (HA3.o.up h9)
  have HF4 := Ho (FdO.fdl hO.o.1)
  have HB4 := Ho (Ow.sb hO.o.2)
  clear hO h9
  have hcF := HF4.o.cap
  have hcB := HB4.o.len
  unfold maxLen at hcB
  obtain ⟨_, hcB1, hcB2⟩ := hcB
  rw [HBn.o] at HB4 hcB1 ⊢
  rw [HNF.o] at hcF
  dsimp only
  rw [HNs.o]
  go_wp2_with fail
  refine (HWf.o aF cF aR cR w4 HF4.o HB4.o HU4.o).mono ?_
  rintro e w5 ⟨hR, h9⟩
  have HU5 := Ho (HU4.o.trans h9)
  clear h9
  change e = _ at hR
  subst hR
  dsimp only
  have hcv1 := conv_sb2 (sb_nil0 w5)
  go_wp2
  go_ret
  exact ⟨rfl, HU5.o⟩
 | ok l =>
  obtain ⟨a8, c8, rfl, hO8⟩ := hR
  have HO8 := Ho hO8.o
  have hO9 := hO8.o.len
  unfold maxLen at hO9
  obtain ⟨_, hO91, hO92⟩ := hO9
  clear hO8
  have HL := Ho (rfl : l.length = l.length)
  obtain ⟨L, hL⟩ := ny l.length
  rw [hL] at HO8 hO91 ⊢
  dsimp only
  go_wp2_with (with_reducible refine sL 27 ?_)
  show wpList _ _ _ _ _ _
  refine wpList_load_mid rfl _ _ rfl w.heap.size 5 rfl [.string m, .string t, .int .i64 mi, .slice an ns.length cn, .slice av us.length cv, .slice ab nb cb', .int .i64 pad] _ (HX.o _ HA3.o) Tryz.underlying27 rfl (by kernel_rfl) ?_
  simp only [Act.put, pB, pC, pD]
  go_wp2_with fail
  refine (request_walk m t mi an ns cn av us cv ab nb cb' bd pad w3 (HN.o.up HU3.o) (HV.o.up HU3.o) (HB.o.up HU3.o) hnl hbl).mono ?_
  rintro e w4 ⟨⟨aF, cF, vF, rfl, hO⟩, h9⟩
  rw [HBe.o, HFe.o] at hO
  obtain ⟨aR, cR, rfl⟩ := row_len hO.o.2
  have HU4 := Ho (HU3.o.trans h9)
  have Hu34 := Ho h9
  have HA4 := Ho (HA3.o.up h9)
  have HF4 := Ho (FdO.fdl hO.o.1)
  have HB4 := Ho (Ow.sb hO.o.2)
  clear hO h9
  have hcF := HF4.o.cap
  have hcB := HB4.o.len
  unfold maxLen at hcB
  obtain ⟨_, hcB1, hcB2⟩ := hcB
  rw [HBn.o] at HB4 hcB1 ⊢
  rw [HNF.o] at hcF
  dsimp only
  rw [HNs.o]
  go_wp2_with fail
  refine (HWf.o aF cF aR cR w4 HF4.o HB4.o HU4.o).mono ?_
  rintro e w5 ⟨hR, h9⟩
  have HU5 := Ho (HU4.o.trans h9)
  have HOr := Ho (HO8.o.up (Hu34.o.trans h9))
  clear h9
  obtain ⟨a9, c9, rfl, hO10⟩ := hR
  have HOw := Ho (Ow.sb hO10.o)
  clear hO10
  have hOw := HOw.o.len
  unfold maxLen at hOw
  obtain ⟨_, hOw1, hOw2⟩ := hOw
  rw [hL] at HOw hOw1 ⊢
  dsimp only
  have hcv1 := conv_sb2 HOr.o
  have hcv2 := conv_sb2 HOw.o
  clear hL HL
  go_wp2
  go_ret
  exact ⟨rfl, HU5.o⟩
set_option maxRecDepth 100000 in
set_option maxHeartbeats 8000000 in
theorem printsA_res (ad : Nat → Addr) (oa : Option Addr) (on oc : Nat) (opd oN : Int) (oS : ByteArray) (qm qt : ByteArray) (qi : Int) (qa : Option Addr) (qn qc : Nat) (qa2 : Option Addr) (qn2 qc2 : Nat) (qa3 : Option Addr) (qn3 qc3 : Nat) (qp : Int) (st mi : Int) (an : Option Addr) (ns : List ByteArray) (cn : Nat) (av : Option Addr) (us : List ByteArray) (cv : Nat) (ab : Option Addr) (nb cb' : Nat) (bd : List UInt8) (pad : Int) (w : World) (hN : StL w an ns cn) (hV : StL w av us cv) (hB : Sb w (.slice ab nb cb') bd) (hW : GW w ad) (hRs : w.rangeAt 8 0 rsC) (hRi : w.rangeAt 9 0 rsI) (hRr : w.rangeAt 10 0 rsS) (hs0 : -9223372036854775808 ≤ st) (hs1 : st ≤ 9223372036854775807)
  (hm0 : -9223372036854775808 ≤ mi) (hm1 : mi ≤ 9223372036854775807) (hz : szs (mkF ns us) ≤ 1099511627000) (hnl : ns.length ≤ 1048576) (hbl : bd.length ≤ 1048576) :
  Calls Tryz.prog 61 #[.agg #[.int .i64 4, .slice oa on oc, .int .i64 opd, .int .i64 oN, .string oS, .string qm, .string qt, .int .i64 qi, .slice qa qn qc, .slice qa2 qn2 qc2, .slice qa3 qn3 qc3, .int .i64 qp, .int .i64 st, .int .i64 mi, .slice an ns.length cn, .slice av us.length cv, .slice ab nb cb', .int .i64 pad]] w fun e w' => e = .returned (.bool true) ∧ Up w w' := by
 have HN := Ho hN
 have HV := Ho hV
 have HB := Ho hB
 have HW := Ho hW
 have hcn := hN.cap
 have hcv := hV.cap
 obtain ⟨hbn, hbc, hbm⟩ := hB.len
 unfold maxLen at hbm
 clear hN hV hB hbn
 obtain ⟨F, hF⟩ := ny (mkF ns us)
 have HFl0 : F.length = ns.length := by rw [← hF, mkF_len]
 rw [hF] at hz
 have HFe := Ho hF
 clear hF
 obtain ⟨BB, hBB⟩ := ny (pdd bd pad)
 have hBl : BB.length ≤ 2200000 := by
  rw [← hBB]
  unfold pdd
  rw [List.length_append, List.length_replicate]
  omega
 have HBe := Ho hBB
 clear hBB
 obtain ⟨nB, hnB⟩ := ny BB.length
 have HBn := Ho hnB
 obtain ⟨nF, hnF⟩ := ny ns.length
 have HNF := Ho (show F.length = nF by rw [HFl0]; exact hnF)
 have HNs := Ho hnF
 rw [hnB] at hBl
 obtain ⟨rq, hrq⟩ := ny (raQ st mi F BB)
 have HRf := Ho (fun aF cF aR cR w2 (h : FdL w2 aF F cF) (hb : Sb w2 (.slice aR nB cR) BB) (hU : Up w w2) => RFormatResponse_walk st mi aF F cF aR nB cR BB false w2 h hb (range_up hRi hU) (range_up hRr hU) hs0 hs1 hm0 hm1 hz (by omega))
 have HWf := Ho (fun aF cF aR cR w2 (h : FdL w2 aF F cF) (hb : Sb w2 (.slice aR nB cR) BB) (hU : Up w w2) => FormatResponse_walk ad st mi aF F cF aR nB cR BB false w2 h hb (HW.o.up hU) (range_up hRs hU) hs0 hs1 hm0 hm1 hz (by omega))
 rw [hrq, HNF.o] at HRf HWf
 clear hrq HFl0 hnB hnF hW hRs hRi hRr
 have HX := Ho (fun W (h : At W w.heap.size 31 [.int .i64 4, .slice oa on oc, .int .i64 opd, .int .i64 oN, .string oS, .string qm, .string qt, .int .i64 qi, .slice qa qn qc, .slice qa2 qn2 qc2, .slice qa3 qn3 qc3, .int .i64 qp, .int .i64 st, .int .i64 mi, .slice an ns.length cn, .slice av us.length cv, .slice ab nb cb', .int .i64 pad]) => (show W.rangeAt w.heap.size 12 [.int .i64 st, .int .i64 mi, .slice an ns.length cn, .slice av us.length cv, .slice ab nb cb', .int .i64 pad] from (rng_mid (p := [.int .i64 4, .slice oa on oc, .int .i64 opd, .int .i64 oN, .string oS, .string qm, .string qt, .int .i64 qi, .slice qa qn qc, .slice qa2 qn2 qc2, .slice qa3 qn3 qc3, .int .i64 qp]) (m := [.int .i64 st, .int .i64 mi, .slice an ns.length cn, .slice av us.length cv, .slice ab nb cb', .int .i64 pad]) (s := []) h.range)))
 go_enter Tryz.func61, Tryz.ntmps61
 go_wp2_with (with_reducible refine sL 3 ?_)
 show wpList _ _ _ _ _ _
 refine spl fun w1 HA1 HU1 => ?_
 have c0 := HA1.o.cell (i := 0) rfl
 go_wp2_with (with_reducible refine sL 29 ?_)
 show wpList _ _ _ _ _ _
 refine wpList_load_mid rfl _ _ rfl w.heap.size 12 rfl [.int .i64 st, .int .i64 mi, .slice an ns.length cn, .slice av us.length cv, .slice ab nb cb', .int .i64 pad] _ (HX.o _ HA1.o) Tryz.underlying29 rfl (by kernel_rfl) ?_
 simp only [Act.put, pB, pC, pD]
 go_wp2_with fail
 refine (answered_walk st mi an ns cn av us cv ab nb cb' bd pad w1 (HN.o.up HU1.o) (HV.o.up HU1.o) (HB.o.up HU1.o) hnl hbl).mono ?_
 rintro e w2 ⟨⟨aF, cF, vF, rfl, hO⟩, h9⟩
 rw [HBe.o, HFe.o] at hO
 obtain ⟨aR, cR, rfl⟩ := row_len hO.o.2
 have HU2 := Ho (HU1.o.trans h9)
 have HA2 := Ho (HA1.o.up h9)
 have HF2 := Ho (RfO.fdl hO.o.1)
 have HB2 := Ho (Ow.sb hO.o.2)
 clear hO h9
 have hcF := HF2.o.cap
 have hcB := HB2.o.len
 unfold maxLen at hcB
 obtain ⟨_, hcB1, hcB2⟩ := hcB
 rw [HBn.o] at HB2 hcB1 ⊢
 rw [HNF.o] at hcF
 dsimp only
 rw [HNs.o]
 go_wp2_with fail
 refine (HRf.o aF cF aR cR w2 HF2.o HB2.o HU2.o).mono ?_
 rintro e w3 ⟨hR, h9⟩
 have HU3 := Ho (HU2.o.trans h9)
 have HA3 := Ho (HA2.o.up h9)
 clear h9 hcF hcB1 hcB2 HF2 HB2
 cases rq with
 | error k =>
  change e = _ at hR
  subst hR
  dsimp only
  go_wp2_with (with_reducible refine sL 29 ?_)
  show wpList _ _ _ _ _ _
  refine wpList_load_mid rfl _ _ rfl w.heap.size 12 rfl [.int .i64 st, .int .i64 mi, .slice an ns.length cn, .slice av us.length cv, .slice ab nb cb', .int .i64 pad] _ (HX.o _ HA3.o) Tryz.underlying29 rfl (by kernel_rfl) ?_
  simp only [Act.put, pB, pC, pD]
  go_wp2_with fail
  refine (response_walk st mi an ns cn av us cv ab nb cb' bd pad w3 (HN.o.up HU3.o) (HV.o.up HU3.o) (HB.o.up HU3.o) hnl hbl).mono ?_
  rintro e w4 ⟨⟨aF, cF, vF, rfl, hO⟩, h9⟩
  rw [HBe.o, HFe.o] at hO
  obtain ⟨aR, cR, rfl⟩ := row_len hO.o.2
  have HU4 := Ho (HU3.o.trans h9)
  have HA4 := Ho (HA3.o.up h9)
  have HF4 := Ho (FdO.fdl hO.o.1)
  have HB4 := Ho (Ow.sb hO.o.2)
  clear hO h9
  have hcF := HF4.o.cap
  have hcB := HB4.o.len
  unfold maxLen at hcB
  obtain ⟨_, hcB1, hcB2⟩ := hcB
  rw [HBn.o] at HB4 hcB1 ⊢
  rw [HNF.o] at hcF
  dsimp only
  rw [HNs.o]
  go_wp2_with fail
  refine (HWf.o aF cF aR cR w4 HF4.o HB4.o HU4.o).mono ?_
  rintro e w5 ⟨hR, h9⟩
  have HU5 := Ho (HU4.o.trans h9)
  clear h9
  change e = _ at hR
  subst hR
  dsimp only
  have hcv1 := conv_sb2 (sb_nil0 w5)
  go_wp2
  go_ret
  exact ⟨rfl, HU5.o⟩
 | ok l =>
  obtain ⟨a8, c8, rfl, hO8⟩ := hR
  have HO8 := Ho hO8.o
  have hO9 := hO8.o.len
  unfold maxLen at hO9
  obtain ⟨_, hO91, hO92⟩ := hO9
  clear hO8
  have HL := Ho (rfl : l.length = l.length)
  obtain ⟨L, hL⟩ := ny l.length
  rw [hL] at HO8 hO91 ⊢
  dsimp only
  go_wp2_with (with_reducible refine sL 29 ?_)
  show wpList _ _ _ _ _ _
  refine wpList_load_mid rfl _ _ rfl w.heap.size 12 rfl [.int .i64 st, .int .i64 mi, .slice an ns.length cn, .slice av us.length cv, .slice ab nb cb', .int .i64 pad] _ (HX.o _ HA3.o) Tryz.underlying29 rfl (by kernel_rfl) ?_
  simp only [Act.put, pB, pC, pD]
  go_wp2_with fail
  refine (response_walk st mi an ns cn av us cv ab nb cb' bd pad w3 (HN.o.up HU3.o) (HV.o.up HU3.o) (HB.o.up HU3.o) hnl hbl).mono ?_
  rintro e w4 ⟨⟨aF, cF, vF, rfl, hO⟩, h9⟩
  rw [HBe.o, HFe.o] at hO
  obtain ⟨aR, cR, rfl⟩ := row_len hO.o.2
  have HU4 := Ho (HU3.o.trans h9)
  have Hu34 := Ho h9
  have HA4 := Ho (HA3.o.up h9)
  have HF4 := Ho (FdO.fdl hO.o.1)
  have HB4 := Ho (Ow.sb hO.o.2)
  clear hO h9
  have hcF := HF4.o.cap
  have hcB := HB4.o.len
  unfold maxLen at hcB
  obtain ⟨_, hcB1, hcB2⟩ := hcB
  rw [HBn.o] at HB4 hcB1 ⊢
  rw [HNF.o] at hcF
  dsimp only
  rw [HNs.o]
  go_wp2_with fail
  refine (HWf.o aF cF aR cR w4 HF4.o HB4.o HU4.o).mono ?_
  rintro e w5 ⟨hR, h9⟩
  have HU5 := Ho (HU4.o.trans h9)
  have HOr := Ho (HO8.o.up (Hu34.o.trans h9))
  clear h9
  obtain ⟨a9, c9, rfl, hO10⟩ := hR
  have HOw := Ho (Ow.sb hO10.o)
  clear hO10
  have hOw := HOw.o.len
  unfold maxLen at hOw
  obtain ⟨_, hOw1, hOw2⟩ := hOw
  rw [hL] at HOw hOw1 ⊢
  dsimp only
  have hcv1 := conv_sb2 HOr.o
  have hcv2 := conv_sb2 HOw.o
  clear hL HL
  go_wp2
  go_ret
  exact ⟨rfl, HU5.o⟩
end Go.Proofs.YtehnnlhoajdcaaaGreatDoor
