import Derived.Test.YtehnnlhoajdcaaaGreatDoorWi
import Derived.Test.YtehnnlhoajdcaaaGreatDoorPn
import Derived.Test.YtehnnlhoajdcaaaGreatDoorSp
import Derived.Lib.ConvBytes
namespace Go.Proofs.YtehnnlhoajdcaaaGreatDoor
open Go.RowKit TextNum
theorem up_bytes (w : World) (e : TypeId) (s : ByteArray) : Up w (Go.Lib.bytesWorld w e s) :=
 ⟨rfl, rfl, rfl, by rw [Go.Lib.bytesWorld_size]; omega, fun k hk => Go.Lib.bytesWorld_at_old w e s k hk⟩
theorem take_succ0 {l : List UInt8} {i : Nat} (h : i < l.length) : l.take (i + 1) = l.take i ++ [l[i]] := by simp
structure GP (w : World) : Prop where
 rng : ∃ te pe, w.cell? ⟨25, 0, none⟩ = some (.iface te pe)
theorem GP.up {w w' : World} (h : GP w) (k : Up w w') : GP w' := ⟨by obtain ⟨te, pe, hc⟩ := h.rng; exact ⟨te, pe, k.cell hc⟩⟩
set_option maxRecDepth 100000 in
theorem tooLong_walk (s : ByteArray) (w : World) : Calls Tryz.prog 181 #[.string s] w fun e w' => e = .returned (.bool (decide (1048576 < s.size))) ∧ w' = w := by
 go_enter Tryz.func181, Tryz.ntmps181
 go_wp2
 go_ret
 refine ⟨congrArg (fun b => Ending.returned (Value.bool b)) (show decide ((1048576 : Int) < (s.size : Int)) = decide (1048576 < s.size) from ?_), rfl⟩
 rw [decide_eq_decide]
 omega
set_option maxRecDepth 100000 in
theorem isNumber_walk (s : ByteArray) (hs : s.size ≤ 1048576) (w : World) : Calls Tryz.prog 201 #[.string s] w fun e w' => e = .returned (.bool (isN s.data.toList)) ∧ w' = w := by
 have HS := Ho (Go.Lib.size_eq s)
 go_enter Tryz.func201, Tryz.ntmps201
 go_wp2
 go_loop [6] (fun v6 => ∃ i : Nat, v6 = .int .i64 (i : Int) ∧ i ≤ s.size ∧ Hd ((s.data.toList.take i).all isD = true)) (fun v6 => s.size - (intOf v6).toNat)
 case atStart => exact ⟨0, rfl, by omega, Ho (by simp)⟩
 case round =>
  obtain ⟨i, rfl, hi, hI⟩ := hrel
  by_cases hlt : i < s.size
  · have hlt' : (i : Int) < (s.size : Int) := by omega
    have ht : s.data.toList.take (i + 1) = s.data.toList.take i ++ [s[i]] := by rw [sget' s i hlt]; exact take_succ0 (by rw [← HS.o]; exact hlt)
    by_cases hd : isD s[i] = true
    · have hd' := isD_iff.1 hd
      have HN := Ho (show (s.data.toList.take (i + 1)).all isD = true by rw [ht, List.all_append, hI.o]; simp [hd])
      have b1 : ¬ (s[i].toNat : Int) < 48 := by omega
      have b2 : decide ((s[i].toNat : Int) < 48) = false := by simp; omega
      have b3 : decide ((57 : Int) < (s[i].toNat : Int)) = false := by simp; omega
      have b4 : (s[i].toNat : Int) ≤ 57 := by omega
      clear ht hd hd'
      go_wp2
      go_round
      case rel => exact ⟨i + 1, by go_num, by omega, HN⟩
      case measure => simp [intOf]; omega
    have hf : isN s.data.toList = false := by
     unfold isN
     have hno : s.data.toList.all isD = false := by
      rw [List.all_eq_false]
      refine ⟨s[i], ?_, hd⟩
      rw [sget' s i hlt]
      exact List.getElem_mem (by rw [← HS.o]; exact hlt)
     rw [hno]; rfl
    have HF := Ho hf
    have hd' : s[i].toNat < 48 ∨ 57 < s[i].toNat := by
     rw [isD_iff] at hd; omega
    clear hd hf ht
    rcases hd' with hd' | hd'
    · have b2 : (s[i].toNat : Int) < 48 := by omega
      go_wp2
      go_ret
      rw [HF.o]
      exact ⟨rfl, rfl⟩
    have b2 : decide ((s[i].toNat : Int) < 48) = false := by simp; omega
    have b3 : (57 : Int) < (s[i].toNat : Int) := by omega
    go_wp2
    go_ret
    rw [HF.o]
    exact ⟨rfl, rfl⟩
  have hie : i = s.size := by omega
  have hall : s.data.toList.all isD = true := by have := hI.o; rwa [hie, HS.o, List.take_length] at this
  have hN : isN s.data.toList = (decide (s.size = 1) || (decide (1 < s.size) && decide (s.data.toList.head? ≠ some 48))) := by
   unfold isN; rw [hall, Bool.true_and, ← Go.Lib.size_eq]
  have HN := Ho hN
  clear hN hall hI
  by_cases h1 : s.size = 1
  · have HF := Ho (show isN s.data.toList = true by rw [HN.o]; simp [h1])
    have b1 : ((s.size : Int) == 1) = true := by simp; omega
    go_wp2
    go_ret
    rw [HF.o]
    exact ⟨rfl, rfl⟩
  have b1 : ((s.size : Int) == 1) = false := by simp; omega
  by_cases h2 : 1 < s.size
  · have h0 : 0 < s.size := by omega
    have b2 : (1 : Int) < (s.size : Int) := by omega
    obtain ⟨r, hr⟩ := head_of' (s := s) h0
    have HF := Ho (show isN s.data.toList = ((s[0].toNat : Int) != 48) by
     rw [HN.o, hr]
     simp only [h1, h2, decide_false, decide_true, Bool.false_or, Bool.true_and, List.head?_cons, ne_eq, Option.some.injEq, bne]
     rw [show ((s[0].toNat : Int) == 48) = (s[0] == 48) from u8_eq (a := s[0]) (b := 48)]
     cases h : (s[0] == 48) <;> simp_all)
    clear hr
    go_wp2
    go_ret
    rw [HF.o]
    exact ⟨rfl, rfl⟩
  have HF := Ho (show isN s.data.toList = false by rw [HN.o]; simp [h1, h2])
  have b2 : ¬ (1 : Int) < (s.size : Int) := by omega
  have b3 : decide ((1 : Int) < (s.size : Int)) = false := by simp; omega
  go_wp2
  go_ret
  rw [HF.o]
  exact ⟨rfl, rfl⟩
theorem prs_long {l : List UInt8} {max : Int} (h : 1048576 < l.length) : prs l max = (0, 2) := if_pos h
theorem prs_no {l : List UInt8} {max : Int} (h : ¬ 1048576 < l.length) (hn : isN l = false) : prs l max = (0, 62) := by unfold prs; rw [if_neg h, if_neg (by rw [hn]; simp)]
theorem prs_ok {l : List UInt8} {max : Int} (h : ¬ 1048576 < l.length) (hn : isN l = true) (h1 : (nv l : Int) ≤ max) (h2 : nv l < 9223372036854775808) : prs l max = ((nv l : Int), 0) := by unfold prs; rw [if_neg h, if_pos hn, if_pos ⟨h1, h2⟩]
theorem prs_rng {l : List UInt8} {max : Int} (h : ¬ 1048576 < l.length) (hn : isN l = true) (h1 : ¬ ((nv l : Int) ≤ max ∧ nv l < 9223372036854775808)) : prs l max = (0, 63) := by unfold prs; rw [if_neg h, if_pos hn, if_neg h1]
set_option maxRecDepth 100000 in
theorem ParseNumber_walk (s : ByteArray) (max : Int) (w : World) (hG : GP w) :
  Calls Tryz.prog 183 #[.string s, .int .i64 max] w fun e w' => e = .returned (.tuple #[.int .i64 (prs s.data.toList max).1, .int .i64 (prs s.data.toList max).2]) ∧ Up w w' := by
 have HG := Ho hG
 clear hG
 have HS := Ho (Go.Lib.size_eq s)
 go_enter Tryz.func183, Tryz.ntmps183
 go_wp2_with fail
 refine (tooLong_walk s w).mono ?_
 rintro e w' ⟨rfl, hw⟩
 obtain rfl := hw.symm
 dsimp only
 by_cases h1 : 1048576 < s.size
 · have d1 : decide (1048576 < s.size) = true := by simpa using h1
   rw [d1]
   go_wp2
   go_ret2
   rw [prs_long (by rw [← HS.o]; exact h1)]
   exact ⟨rfl, Up.refl _⟩
 have d1 : decide (1048576 < s.size) = false := by simpa using h1
 rw [d1]
 have hle : s.size ≤ 1048576 := by omega
 have HN := Ho (show ¬ 1048576 < s.data.toList.length by rw [← HS.o]; exact h1)
 clear d1 h1
 go_wp2_with fail
 refine (isNumber_walk s hle w).mono ?_
 rintro e w' ⟨rfl, hw⟩
 obtain rfl := hw.symm
 dsimp only
 cases hn : isN s.data.toList with
 | false =>
  have HF := Ho (prs_no (max := max) HN.o hn)
  clear hn
  go_wp2
  go_ret2
  rw [HF.o]
  exact ⟨rfl, Up.refl _⟩
 | true =>
  have hp := parse_isN hn
  by_cases hv : nv s.data.toList < 9223372036854775808
  · rw [if_pos hv] at hp
    have HP := Ho (And.intro hp hn)
    obtain ⟨n, hnv⟩ : ∃ n, n = nv s.data.toList := ⟨_, rfl⟩
    have HV := Ho (And.intro hnv hv)
    rw [← hnv] at hp
    have HP2 := Ho hp
    clear hn hp hv hnv
    go_wp2_with fail
    refine Calls.mono (Go.Proofs.Any.strconv_ParseInt_10_at64_ok Tryz.laysc174 s (by omega) (n : Int) HP2.o w) ?_
    rintro e w2 ⟨rfl, hw2⟩
    have hu : Up w w2 := by
     rcases hw2 with rfl | ⟨t, rfl⟩
     · exact Up.refl _
     exact up_bytes _ _ _
    have HU := Ho hu
    clear hw2 hu
    dsimp only
    by_cases hm : (n : Int) ≤ max
    · have HF := Ho (prs_ok (max := max) HN.o HP.o.2 (by rw [← HV.o.1]; exact hm) HV.o.2)
      have hm' : ¬ max < (n : Int) := by omega
      have dm : decide (max < (n : Int)) = false := by simp; omega
      go_wp2
      go_ret2
      rw [HF.o, ← HV.o.1]
      exact ⟨rfl, HU.o⟩
    have HF := Ho (prs_rng (max := max) HN.o HP.o.2 (by rw [← HV.o.1]; omega))
    have hm' : max < (n : Int) := by omega
    go_wp2
    go_ret2
    rw [HF.o]
    exact ⟨rfl, HU.o⟩
  rw [if_neg hv] at hp
  have HF := Ho (prs_rng (max := max) HN.o hn (by omega))
  have HP := Ho hp
  clear hn hp hv
  obtain ⟨te, pe, hc⟩ := HG.o.rng
  have HC := Ho hc
  clear hc
  go_wp2_with fail
  refine Calls.mono (Go.Proofs.Any.strconv_ParseInt_10_at64_range Tryz.laysc174 s (by omega) HP.o (.iface te pe) w HC.o (.inr ⟨te, pe, rfl⟩)) ?_
  rintro e w2 ⟨N, rfl, hN, hw2, hb⟩
  have HU := Ho (show Up w w2 from hb)
  clear hN hw2 hb
  generalize Go.Lib.intSat 64 s.data.toList = q
  dsimp only
  go_wp2
  go_ret2
  rw [HF.o]
  exact ⟨rfl, HU.o⟩
end Go.Proofs.YtehnnlhoajdcaaaGreatDoor
