import Derived.Test.YtehnnlhoajdcaaaGreatDoorWg
import Derived.Test.YtehnnlhoajdcaaaGreatDoorSl
import Derived.Lib.ItoaNum
namespace Go.Proofs.YtehnnlhoajdcaaaGreatDoor
open Go.RowKit TextNum
theorem up_grow (w : World) (os : Array Obj) : Up w (Go.Sort.grow w os) :=
 ⟨rfl, rfl, rfl, by simp [Go.Sort.grow], fun k hk => by simp [Go.Sort.grow, Array.getElem?_append, hk]⟩
theorem var_up {P : Program} {w w' : World} (hu : Up w w') {n : String} {cs : Array Value} (h : w.var? P n = some cs) : w'.var? P n = some cs := by
 unfold World.var? at h ⊢
 cases hg : P.globalNamed n with
 | none => simp [hg] at h
 | some g =>
  simp only [hg, Option.bind_some] at h ⊢
  have hlt : g < w.heap.size := by
   rcases Nat.lt_or_ge g w.heap.size with h' | h'
   · exact h'
   simp [Array.getElem?_eq_none h'] at h
  rw [hu.block g hlt]
  exact h
theorem itoa_len (n : Int) (h0 : -9223372036854775808 ≤ n) (h1 : n ≤ 9223372036854775807) : (Go.Lib.itoa n).length ≤ 20 ∧ 1 ≤ (Go.Lib.itoa n).length := by
 have key : ∀ u : Nat, u ≤ 9223372036854775808 → (Go.Lib.decDigits u).length ≤ 19 ∧ 1 ≤ (Go.Lib.decDigits u).length := by
  intro u hu
  rw [Go.Lib.decDigits_length]
  refine ⟨?_, Go.Lib.nDigits_pos u⟩
  rcases Nat.lt_or_ge 19 (Go.Lib.nDigits u) with h | h
  · exfalso
    have : ∀ k u, k < Go.Lib.nDigits u → 10 ^ k ≤ u ∨ k = 0 := by
     intro k
     induction k with
     | zero => intro u _; exact .inr rfl
     | succ k ih =>
      intro u hk
      left
      by_cases h : u < 10
      · rw [Go.Lib.nDigits_small h] at hk; omega
      rw [Go.Lib.nDigits_big h] at hk
      rcases ih (u / 10) (by omega) with h2 | rfl
      · rw [Nat.pow_succ]; omega
      simp; omega
    rcases this 19 u h with h2 | h2
    · simp only [Nat.reducePow] at h2; omega
    omega
  exact h
 unfold Go.Lib.itoa
 split
 · have := key n.natAbs (by omega); simp; omega
 have := key n.toNat (by omega); omega
theorem ba_app (a b : Array UInt8) : ((⟨a⟩ : ByteArray) ++ ⟨b⟩) = ⟨a ++ b⟩ := ByteArray.ext ByteArray.data_append
def rsT : List (Int × ByteArray) := [(100, ⟨#[67, 111, 110, 116, 105, 110, 117, 101]⟩), (200, ⟨#[79, 75]⟩), (204, ⟨#[78, 111, 32, 67, 111, 110, 116, 101, 110, 116]⟩), (301, ⟨#[77, 111, 118, 101, 100, 32, 80, 101, 114, 109, 97, 110, 101, 110, 116, 108, 121]⟩), (302, ⟨#[70, 111, 117, 110, 100]⟩), (304, ⟨#[78, 111, 116, 32, 77, 111, 100, 105, 102, 105, 101, 100]⟩), (400, ⟨#[66, 97, 100, 32, 82, 101, 113, 117, 101, 115, 116]⟩), (403, ⟨#[70, 111, 114, 98, 105, 100, 100, 101, 110]⟩), (404, ⟨#[78, 111, 116, 32, 70, 111, 117, 110, 100]⟩), (405, ⟨#[77, 101, 116, 104, 111, 100, 32, 78, 111, 116, 32, 65, 108, 108, 111, 119, 101, 100]⟩), (408, ⟨#[82, 101, 113, 117, 101, 115, 116, 32, 84, 105, 109, 101, 111, 117, 116]⟩), (409, ⟨#[67, 111, 110, 102, 108, 105, 99, 116]⟩), (410, ⟨#[71, 111, 110, 101]⟩), (411, ⟨#[76, 101, 110, 103, 116, 104, 32, 82, 101, 113, 117, 105, 114, 101, 100]⟩), (413, ⟨#[67, 111, 110, 116, 101, 110, 116, 32, 84, 111, 111, 32, 76, 97, 114, 103, 101]⟩), (414, ⟨#[85, 82, 73, 32, 84, 111, 111, 32, 76, 111, 110, 103]⟩), (429, ⟨#[84, 111, 111, 32, 77, 97, 110, 121, 32, 82, 101, 113, 117, 101, 115, 116, 115]⟩), (431, ⟨#[82, 101, 113, 117, 101, 115, 116, 32, 72, 101, 97, 100, 101, 114, 32, 70, 105, 101, 108, 100, 115, 32, 84, 111, 111, 32, 76, 97, 114, 103, 101]⟩), (500, ⟨#[73, 110, 116, 101, 114, 110, 97, 108, 32, 83, 101, 114, 118, 101, 114, 32, 69, 114, 114, 111, 114]⟩), (501, ⟨#[78, 111, 116, 32, 73, 109, 112, 108, 101, 109, 101, 110, 116, 101, 100]⟩), (502, ⟨#[66, 97, 100, 32, 71, 97, 116, 101, 119, 97, 121]⟩), (503, ⟨#[83, 101, 114, 118, 105, 99, 101, 32, 85, 110, 97, 118, 97, 105, 108, 97, 98, 108, 101]⟩), (504, ⟨#[71, 97, 116, 101, 119, 97, 121, 32, 84, 105, 109, 101, 111, 117, 116]⟩), (505, ⟨#[72, 84, 84, 80, 32, 86, 101, 114, 115, 105, 111, 110, 32, 78, 111, 116, 32, 83, 117, 112, 112, 111, 114, 116, 101, 100]⟩)]
def rsR (k : Nat) : List Value := [.int .i64 ((rsT.getD k (0, ⟨#[]⟩)).1), .string ((rsT.getD k (0, ⟨#[]⟩)).2)]
def rsC : List Value := (List.range 24).flatMap rsR
structure GN (w : World) : Prop where
 tab : Go.Lib.TabIs Tryz.prog w "internal/strconv.uint64pow10" .u64 Go.Lib.pow10Tab
theorem GN.up {w w' : World} (h : GN w) (k : Up w w') : GN w' := ⟨var_up k h.tab⟩
set_option maxRecDepth 100000 in
theorem FormatNumber_walk (n : Int) (h0 : -9223372036854775808 ≤ n) (h1 : n ≤ 9223372036854775807) (w : World) (hG : GN w) :
  Calls Tryz.prog 99 #[.int .i64 n] w fun e w' => e = .returned (vs (Go.Lib.itoa n)) ∧ Up w w' := by
 have HG := Ho hG
 clear hG
 go_enter Tryz.func99, Tryz.ntmps99
 go_wp2_with fail
 refine Calls.mono (Go.Proofs.Any.strconv_FormatInt_10 Tryz.laysm173 n h0 h1 w HG.o.tab) ?_
 rintro e w' ⟨rfl, k, os, rfl⟩
 dsimp only
 go_wp2
 go_ret
 exact ⟨rfl, ((Up.refl w).drewN k).trans (up_grow _ os)⟩
set_option maxRecDepth 100000 in
theorem statusText_walk (n : Int) (h0 : -9223372036854775808 ≤ n) (h1 : n ≤ 9223372036854775807) (w : World) (hG : GN w) :
  Calls Tryz.prog 89 #[.int .i64 n] w fun e w' => e = .returned (vs (Go.Lib.itoa n)) ∧ Up w w' := by
 have HF := Ho (FormatNumber_walk n h0 h1 w hG)
 clear hG
 go_enter Tryz.func89, Tryz.ntmps89
 go_wp2_with fail
 refine HF.o.mono ?_
 rintro e w' ⟨rfl, u⟩
 dsimp only
 go_wp2
 go_ret
 exact ⟨rfl, u⟩
theorem idx_rs (w : World) : ∀ k : Nat, k < 24 → (Instr.index 168 (.agg rsC.toArray) (.int .i64 (k : Int))).run Tryz.prog w = .ok (.agg (rsR k).toArray) w
 | 0, _ => by kernel_rfl
 | 1, _ => by kernel_rfl
 | 2, _ => by kernel_rfl
 | 3, _ => by kernel_rfl
 | 4, _ => by kernel_rfl
 | 5, _ => by kernel_rfl
 | 6, _ => by kernel_rfl
 | 7, _ => by kernel_rfl
 | 8, _ => by kernel_rfl
 | 9, _ => by kernel_rfl
 | 10, _ => by kernel_rfl
 | 11, _ => by kernel_rfl
 | 12, _ => by kernel_rfl
 | 13, _ => by kernel_rfl
 | 14, _ => by kernel_rfl
 | 15, _ => by kernel_rfl
 | 16, _ => by kernel_rfl
 | 17, _ => by kernel_rfl
 | 18, _ => by kernel_rfl
 | 19, _ => by kernel_rfl
 | 20, _ => by kernel_rfl
 | 21, _ => by kernel_rfl
 | 22, _ => by kernel_rfl
 | 23, _ => by kernel_rfl
 | k + 24, h => absurd h (by omega)
theorem exec_rs {o : Oper} {ρ : Operand → Value} {x y : Operand} {w : World} (k : Nat) (hk : k < 24) (ho : o.op = .index 168 x y) (hx : ρ x = .agg rsC.toArray) (hy : ρ y = .int .i64 (k : Int)) : (execOp ρ o).run Tryz.prog w = .ok (.value (.agg (rsR k).toArray)) w := by
 have h := idx_rs w k hk
 unfold execOp
 simp only [ho, hx, hy]
 go_simp
def rsn (st : Int) : List UInt8 := match rsT.find? fun p => p.1 == st with
 | some p => p.2.data.toList
 | none => [83, 116, 97, 116, 117, 115, 32] ++ Go.Lib.itoa st
theorem rsT_take {k : Nat} (hk : k < 24) : rsT.take (k + 1) = rsT.take k ++ [rsT.getD k (0, ⟨#[]⟩)] := by
 have h : k < rsT.length := hk
 rw [List.take_succ_eq_append_getElem h, List.getD_eq_getElem?_getD, List.getElem?_eq_getElem h]
 rfl
theorem rsT_split {k : Nat} (hk : k < 24) : rsT = rsT.take k ++ rsT.getD k (0, ⟨#[]⟩) :: rsT.drop (k + 1) := by
 have h : k < rsT.length := hk
 rw [List.getD_eq_getElem?_getD, List.getElem?_eq_getElem h]
 show rsT = rsT.take k ++ rsT[k] :: rsT.drop (k + 1)
 rw [List.getElem_cons_drop, List.take_append_drop]
set_option maxRecDepth 100000 in
set_option maxHeartbeats 1000000 in
theorem Reason_walk (st : Int) (h0 : -9223372036854775808 ≤ st) (h1 : st ≤ 9223372036854775807) (w : World) (hG : GN w) (hRs : w.rangeAt 8 0 rsC) :
  Calls Tryz.prog 64 #[.int .i64 st] w fun e w' => e = .returned (vs (rsn st)) ∧ Up w w' := by
 have HG := Ho hG
 have HRn := Ho hRs
 clear hG hRs
 obtain ⟨rn, hrn⟩ := ny (rsn st)
 have HN := Ho hrn
 rw [hrn]
 clear hrn
 go_enter Tryz.func64, Tryz.ntmps64
 go_wp2_with (with_reducible refine sL 168 ?_)
 show wpList _ _ _ _ _ _
 refine wpList_load_mid rfl _ _ rfl 8 0 rfl rsC _ HRn.o Tryz.underlying168 rfl (by kernel_rfl) ?_
 simp only [Act.put, pB, pC, pD]
 obtain ⟨vr, hvr⟩ := ny (Value.agg rsC.toArray)
 have HVR := Ho hvr
 rw [hvr]
 clear hvr
 go_wp2
 go_loopw [6] (fun v6 wr => ∃ i : Nat, v6 = .int .i64 (i : Int) ∧ i ≤ 24 ∧ Hd (Up w wr ∧ (rsT.take i).find? (fun p => p.1 == st) = none)) (fun v6 _ => 24 - (intOf v6).toNat)
 case atStart => exact ⟨0, rfl, Nat.zero_le _, Ho ⟨Up.refl _, rfl⟩⟩
 case round =>
  obtain ⟨i, rfl, hi, hU⟩ := hrel
  have HU := Ho hU.o
  clear hU
  by_cases hil : i < 24
  · have hiz : (i : Int) < 24 := by omega
    go_wp2_with (with_reducible show wpList _ _ _ (⟨_, .index 168 _ _, _, _, _, _⟩ :: _) _ _; refine Shut.out ?_)
    show wpList _ _ _ _ _ _
    refine wpList_val7 (.agg (rsR i).toArray) rfl (exec_rs i (by omega) rfl HVR.o.symm rfl) ?_
    simp only [Act.put, pB, pC, pD]
    have HX := Ho (show (rsT.take (i + 1)).find? (fun p => p.1 == st) = if (rsT.getD i (0, ⟨#[]⟩)).1 == st then some (rsT.getD i (0, ⟨#[]⟩)) else none by
     rw [rsT_take hil, List.find?_append, HU.o.2]
     simp)
    have HY := Ho (show (rsT.getD i (0, ⟨#[]⟩)).1 == st → rn = (rsT.getD i (0, ⟨#[]⟩)).2.data.toList from fun e => by
     rw [← HN.o]
     unfold rsn
     have h1 : rsT.find? (fun p => p.1 == st) = some (rsT.getD i (0, ⟨#[]⟩)) := by
      conv => lhs; rw [rsT_split hil]
      rw [List.find?_append, HU.o.2, List.find?_cons]
      simp only [e]
      rfl
     rw [h1])
    have hrf : rsR i = [.int .i64 ((rsT.getD i (0, ⟨#[]⟩)).1), .string ((rsT.getD i (0, ⟨#[]⟩)).2)] := rfl
    rw [hrf]
    clear hrf
    generalize rsT.getD i (0, ⟨#[]⟩) = p at *
    obtain ⟨ni, si⟩ := p
    dsimp only at *
    have HUA := Ho (HU.o.1.alloc (.cells #[.int .i64 ni, .string si] 167))
    cases hne : (ni == st) with
    | true =>
     have HE := Ho (HY.o hne)
     go_wp2
     go_ret
     rw [HE.o]
     exact ⟨rfl, HUA.o⟩
    | false =>
     rw [hne] at HX
     go_wp2
     go_roundw
     all_goals first
      | exact ⟨i + 1, by go_num, by omega, Ho ⟨HUA.o, HX.o⟩⟩
      | (simp [intOf]; omega)
  have hiz : ¬ (i : Int) < 24 := by omega
  have hi24 : i = 24 := by omega
  subst hi24
  have HE := Ho (show rn = [83, 116, 97, 116, 117, 115, 32] ++ Go.Lib.itoa st by
   rw [← HN.o]
   unfold rsn
   have h2 : (rsT.take 24).find? (fun p => p.1 == st) = none := HU.o.2
   rw [show rsT.take 24 = rsT from rfl] at h2
   rw [h2])
  have hlen : ¬ 9223372036854775807 < 7 + (Go.Lib.itoa st).length := by have := itoa_len st h0 h1; omega
  go_wp2_with fail
  refine (statusText_walk st h0 h1 wr (HG.o.up HU.o.1)).mono ?_
  rintro e w5 ⟨rfl, u5⟩
  have HU5 := Ho (HU.o.1.trans u5)
  clear u5
  dsimp only
  go_wp2
  go_ret
  rw [HE.o]
  refine ⟨?_, HU5.o⟩
  show Ending.returned (Value.string (_ ++ _)) = _
  rw [ba_app]
  simp
end Go.Proofs.YtehnnlhoajdcaaaGreatDoor
