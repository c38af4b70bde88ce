import Derived.Test.YtaobnnlcfefodaaGreatDoorHg
import Derived.Test.YtaobnnlcfefodaaGreatDoorSf
import Derived.Test.YtaobnnlcfefodaaGreatDoorPn
import Derived.Lib.ConvBytes
namespace Go.Proofs.YtaobnnlcfefodaaGreatDoor
open Go.RowKit TextNum

theorem up_bytes (w : World) (e : TypeId) (s : ByteArray) : Up w (Go.Lib.bytesWorld w e s) :=
  ⟨rfl, rfl, rfl, by rw [Go.Lib.bytesWorld_size]; omega, fun k hk => Go.Lib.bytesWorld_at_old w e s k hk⟩
theorem up_grow (w : World) (os : Array Obj) : Up w (Go.Sort.grow w os) :=
  ⟨rfl, rfl, rfl, by simp [Go.Sort.grow], fun k hk => by simp [Go.Sort.grow, Array.getElem?_append, hk]⟩
theorem var_up {P : Program} {w w' : World} (hu : Up w w') {n : String} {cs : Array Value} (h : w.var? P n = some cs) : w'.var? P n = some cs := by
  unfold World.var? at h ⊢
  cases hg : P.globalNamed n with
  | none => simp [hg] at h
  | some g =>
    simp only [hg, Option.bind_some] at h ⊢
    have hlt : g < w.heap.size := by
      rcases Nat.lt_or_ge g w.heap.size with h' | h'
      · exact h'
      · simp [Array.getElem?_eq_none h'] at h
    rw [hu.block g hlt]
    exact h
theorem take_succ0 {l : List UInt8} {i : Nat} (h : i < l.length) : l.take (i + 1) = l.take i ++ [l[i]] := by simp
/-- the laid variables that the numbers' calls read -/
structure GN (w : World) : Prop where
  tab : Go.Lib.TabIs Tryz.prog w "internal/strconv.uint64pow10" .u64 Go.Lib.pow10Tab
  rng : ∃ te pe, w.cell? ⟨5, 0, none⟩ = some (.iface te pe)
theorem GN.up {w w' : World} (h : GN w) (k : Up w w') : GN w' := ⟨var_up k h.tab, by obtain ⟨te, pe, hc⟩ := h.rng; exact ⟨te, pe, k.cell hc⟩⟩

set_option maxRecDepth 100000 in
theorem FormatNumber_walk (n : Int) (h0 : -9223372036854775808 ≤ n) (h1 : n ≤ 9223372036854775807) (w : World) (hG : GN w) :
    Calls Tryz.prog 21 #[.int .i64 n] w fun e w' => e = .returned (vs (Go.Lib.itoa n)) ∧ Up w w' := by
  have HG := Hid.of hG
  clear hG
  go_enter Tryz.func21, Tryz.ntmps21
  go_wp2_with fail
  refine Calls.mono (Go.Proofs.Any.strconv_FormatInt_10 Tryz.laysm173 n h0 h1 w HG.out.tab) ?_
  rintro e w' ⟨rfl, k, os, rfl⟩
  dsimp only
  go_wp2
  go_ret
  exact ⟨rfl, ((Up.refl w).drewN k).trans (up_grow _ os)⟩

set_option maxRecDepth 100000 in
theorem isNumber_walk (s : ByteArray) (hs : s.size ≤ 1048576) (w : World) : Calls Tryz.prog 51 #[.string s] w fun e w' => e = .returned (.bool (isN s.data.toList)) ∧ w' = w := by
  have HS := Hid.of (Go.Lib.size_eq s)
  go_enter Tryz.func51, Tryz.ntmps51
  go_wp2
  go_loop [6] (fun v6 => ∃ i : Nat, v6 = .int .i64 (i : Int) ∧ i ≤ s.size ∧ Hid ((s.data.toList.take i).all isD = true)) (fun v6 => s.size - (intOf v6).toNat)
  case atStart => exact ⟨0, rfl, by omega, Hid.of (by simp)⟩
  case round =>
    obtain ⟨i, rfl, hi, hI⟩ := hrel
    by_cases hlt : i < s.size
    · have hlt' : (i : Int) < (s.size : Int) := by omega
      have ht : s.data.toList.take (i + 1) = s.data.toList.take i ++ [s[i]] := by rw [sget' s i hlt]; exact take_succ0 (by rw [← HS.out]; exact hlt)
      by_cases hd : isD s[i] = true
      · have hd' := isD_iff.1 hd
        have HN := Hid.of (show (s.data.toList.take (i + 1)).all isD = true by rw [ht, List.all_append, hI.out]; simp [hd])
        have b1 : ¬ (s[i].toNat : Int) < 48 := by omega
        have b2 : decide ((s[i].toNat : Int) < 48) = false := by simp; omega
        have b3 : decide ((57 : Int) < (s[i].toNat : Int)) = false := by simp; omega
        have b4 : (s[i].toNat : Int) ≤ 57 := by omega
        clear ht hd hd'
        go_wp2
        go_round
        case rel => exact ⟨i + 1, by go_num, by omega, HN⟩
        case measure => simp [intOf]; omega
      · have hf : isN s.data.toList = false := by
          unfold isN
          have hno : s.data.toList.all isD = false := by
            rw [List.all_eq_false]
            refine ⟨s[i], ?_, hd⟩
            rw [sget' s i hlt]
            exact List.getElem_mem (by rw [← HS.out]; exact hlt)
          rw [hno]; rfl
        have HF := Hid.of hf
        have hd' : s[i].toNat < 48 ∨ 57 < s[i].toNat := by
          rw [isD_iff] at hd; omega
        clear hd hf ht
        rcases hd' with hd' | hd'
        · have b2 : (s[i].toNat : Int) < 48 := by omega
          go_wp2
          go_ret
          rw [HF.out]
          exact ⟨rfl, rfl⟩
        · have b2 : decide ((s[i].toNat : Int) < 48) = false := by simp; omega
          have b3 : (57 : Int) < (s[i].toNat : Int) := by omega
          go_wp2
          go_ret
          rw [HF.out]
          exact ⟨rfl, rfl⟩
    · have hie : i = s.size := by omega
      have hall : s.data.toList.all isD = true := by have := hI.out; rwa [hie, HS.out, List.take_length] at this
      have hN : isN s.data.toList = (decide (s.size = 1) || (decide (1 < s.size) && decide (s.data.toList.head? ≠ some 48))) := by
        unfold isN; rw [hall, Bool.true_and, ← Go.Lib.size_eq]
      have HN := Hid.of hN
      clear hN hall hI
      by_cases h1 : s.size = 1
      · have HF := Hid.of (show isN s.data.toList = true by rw [HN.out]; simp [h1])
        have b1 : ((s.size : Int) == 1) = true := by simp; omega
        go_wp2
        go_ret
        rw [HF.out]
        exact ⟨rfl, rfl⟩
      · have b1 : ((s.size : Int) == 1) = false := by simp; omega
        by_cases h2 : 1 < s.size
        · have h0 : 0 < s.size := by omega
          have b2 : (1 : Int) < (s.size : Int) := by omega
          obtain ⟨r, hr⟩ := head_of' (s := s) h0
          have HF := Hid.of (show isN s.data.toList = ((s[0].toNat : Int) != 48) by
            rw [HN.out, hr]
            simp only [h1, h2, decide_false, decide_true, Bool.false_or, Bool.true_and, List.head?_cons, ne_eq, Option.some.injEq, bne]
            rw [show ((s[0].toNat : Int) == 48) = (s[0] == 48) from u8_eq (a := s[0]) (b := 48)]
            cases h : (s[0] == 48) <;> simp_all)
          clear hr
          go_wp2
          go_ret
          rw [HF.out]
          exact ⟨rfl, rfl⟩
        · have HF := Hid.of (show isN s.data.toList = false by rw [HN.out]; simp [h1, h2])
          have b2 : ¬ (1 : Int) < (s.size : Int) := by omega
          have b3 : decide ((1 : Int) < (s.size : Int)) = false := by simp; omega
          go_wp2
          go_ret
          rw [HF.out]
          exact ⟨rfl, rfl⟩
end Go.Proofs.YtaobnnlcfefodaaGreatDoor
