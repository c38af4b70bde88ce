import Derived.Test.YtbdmpdjhgjidlaaGreatDoorTb
namespace Go.Proofs.YtbdmpdjhgjidlaaGreatDoor
open Go.RowKit TextNum

def dnV (c : UInt8) : Value := .tuple #[.int .u8 (((pl DT c).getD 0 : Nat) : Int), .bool (pl DT c).isSome]
theorem dn_hit {c : UInt8} {i : Nat} (hi : i < 16) (h : (dg i).toNat = c.toNat) : pl DT c = some i := by
  have e : dg i = c := UInt8.toNat_inj.1 h
  rw [← e, dg_pl i hi]
theorem dn_miss {c : UInt8} (h : ∀ i, i < 16 → (dg i).toNat ≠ c.toNat) : pl DT c = none := by
  cases e : pl DT c with
  | none => rfl
  | some i => obtain ⟨h1, h2⟩ := pl_dg e; exact absurd (by rw [h1]) (h i h2)

set_option maxRecDepth 100000 in
theorem digitNumber_walk (c : UInt8) (w : World) (hT : TabD w) : Calls Tryz.prog 62 #[vb c] w fun e w' => e = .returned (dnV c) ∧ w' = w := by
  have HT := Hid.of hT
  clear hT
  go_enter Tryz.func62, Tryz.ntmps62
  go_wp2
  go_loop [5] (fun v5 => ∃ i : Nat, v5 = .int .i64 (i : Int) ∧ i ≤ 16 ∧ Hid (∀ j, j < i → (dg j).toNat ≠ c.toNat)) (fun v5 => 16 - (intOf v5).toNat)
  case atStart => exact ⟨0, rfl, by decide, fun j hj => by omega⟩
  case round =>
    obtain ⟨i, rfl, hi, hno⟩ := hrel
    by_cases hlt : i < 16
    · have hc := HT.out i hlt
      by_cases he : (dg i).toNat = c.toNat
      · have hd := dn_hit hlt he
        have b1 : ((dg i).toNat : Int) = (c.toNat : Int) := by rw [he]
        have HD := Hid.of hd
        clear hd he hno
        generalize dg i = d at *
        rw [show vb d = vb c by unfold vb; rw [b1]] at hc
        clear b1
        go_wp2
        go_ret2
        refine ⟨?_, rfl⟩
        unfold dnV
        rw [HD.out]
        simp
        done
      · have hno' := Hid.of (show ∀ j, j < i + 1 → (dg j).toNat ≠ c.toNat from fun j hj => by
          by_cases e : j = i
          · subst e; exact he
          · exact hno.out j (by omega))
        clear hno
        have b1 : (((dg i).toNat : Int) == (c.toNat : Int)) = false := by simp; omega
        generalize dg i = d at *
        clear he
        go_wp2
        go_round
        case rel => exact ⟨i + 1, by go_num, by omega, hno'⟩
        case measure => simp [intOf]; omega
    · obtain rfl : i = 16 := by omega
      have hd := Hid.of (dn_miss hno.out)
      clear hno
      go_wp2
      go_ret2
      refine ⟨?_, rfl⟩
      unfold dnV
      rw [hd.out]
      rfl
end Go.Proofs.YtbdmpdjhgjidlaaGreatDoor
