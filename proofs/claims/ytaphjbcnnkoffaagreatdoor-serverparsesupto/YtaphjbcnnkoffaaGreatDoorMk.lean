import Derived.Test.YtaphjbcnnkoffaaGreatDoorMj
namespace Go.Proofs.YtaphjbcnnkoffaaGreatDoor
open Go.RowKit Go.Shelf TextNum ModNum
theorem ix3 (n0 n1 n2 : List UInt8) (w : World) (i : Nat) (h : i < 3) : ∃ k, [n0, n1, n2][i]? = some k ∧ (Instr.index 90 (.agg #[.string ⟨n0.toArray⟩, .string ⟨n1.toArray⟩, .string ⟨n2.toArray⟩]) (.int .i64 (i : Int))).run Tryz.prog w = .ok (.string ⟨k.toArray⟩) w := by
  obtain rfl | rfl | rfl : i = 0 ∨ i = 1 ∨ i = 2 := by omega
  · exact ⟨n0, rfl, by kernel_rfl⟩
  · exact ⟨n1, rfl, by kernel_rfl⟩
  · exact ⟨n2, rfl, by kernel_rfl⟩
/-- the cells of parts -/
abbrev pc5 (n0 n1 n2 : List UInt8) (v : Value) (inc : Bool) : Array Value := #[.string ⟨n0.toArray⟩, .string ⟨n1.toArray⟩, .string ⟨n2.toArray⟩, v, .bool inc]
theorem vok_num {n : List (List UInt8)} {ws : List (List UInt8)} {inc : Bool} {i : Nat} {k : List UInt8} (h : n[i]? = some k) (hk : isNum k = false) : vok ⟨n, ws, inc⟩ = false := by
  unfold vok
  have : n.all isNum = false := by
    rw [Bool.eq_false_iff]
    intro h2
    rw [List.all_eq_true] at h2
    rw [h2 k (List.mem_of_getElem? h)] at hk
    cases hk
  simp only [this, Bool.false_and]
theorem vok_wrd {n : List (List UInt8)} {ws : List (List UInt8)} {inc : Bool} {k : List UInt8} (h : k ∈ ws) (hk : isWrd k = false) : vok ⟨n, ws, inc⟩ = false := by
  unfold vok
  have : ws.all isWrd = false := by
    rw [Bool.eq_false_iff]
    intro h2
    rw [List.all_eq_true] at h2
    rw [h2 k h] at hk
    cases hk
  simp only [this, Bool.and_false, Bool.false_and]
theorem take_get {α : Type} {l : List α} {i : Nat} {k : α} (h : l[i]? = some k) : l.take (i + 1) = l.take i ++ [k] := by
  rw [List.take_add_one, h]; rfl
set_option maxRecDepth 100000 in
set_option maxHeartbeats 2000000 in
theorem mayBe_walk (n0 n1 n2 : List UInt8) (v : Value) (ws : List (List UInt8)) (inc : Bool) (w : World) (hG : GM w) (hS : SlS w v ws) (hln : ws.length ≤ 1048576) :
    Calls Tryz.prog 116 #[.agg (pc5 n0 n1 n2 v inc)] w fun e w' => e = .returned (.bool (vok ⟨[n0, n1, n2], ws, inc⟩)) ∧ Up w w' := by
  have HG := Hid.of hG
  have HS := Hid.of hS
  obtain ⟨a, cc, rfl⟩ := hS.len
  clear hG hS
  have HX := Hid.of (ix3 n0 n1 n2)
  go_enter Tryz.func116, Tryz.ntmps116
  go_wp2
  have HU0 : Hid (Up w (w.alloc (.cells (pc5 n0 n1 n2 (.slice a ws.length cc) inc) 107))) := (Up.refl w).alloc _
  have hb1 : (w.alloc (.cells (pc5 n0 n1 n2 (.slice a ws.length cc) inc) 107)).cell? ⟨w.heap.size, 3, none⟩ = some (.slice a ws.length cc) := by rw [World.cell?_alloc_at _ _ _ _ rfl]; rfl
  have hb2 : (w.alloc (.cells (pc5 n0 n1 n2 (.slice a ws.length cc) inc) 107)).cell? ⟨w.heap.size, 4, none⟩ = some (.bool inc) := by rw [World.cell?_alloc_at _ _ _ _ rfl]; rfl
  have hb0 : (w.alloc (.cells (pc5 n0 n1 n2 (.slice a ws.length cc) inc) 107)).cell? ⟨w.heap.size, 0, none⟩ = some (.string ⟨n0.toArray⟩) := by rw [World.cell?_alloc_at _ _ _ _ rfl]; rfl
  have HB := Hid.of (And.intro hb0 (And.intro hb1 hb2))
  clear hb0 hb1 hb2
  generalize (w.alloc (.cells (pc5 n0 n1 n2 (.slice a ws.length cc) inc) 107)) = W0 at *
  go_loopw [4, 9] (fun _ v9 wr => ∃ i : Nat, v9 = .int .i64 (i : Int) ∧ i ≤ 3 ∧ Hid (([n0, n1, n2].take i).all isNum = true ∧ Up W0 wr)) (fun _ v9 _ => 3 - (intOf v9).toNat)
  case atStart => exact ⟨0, rfl, by omega, rfl, Up.refl _⟩
  case round =>
    obtain ⟨i, rfl, hi, hI⟩ := hrel
    by_cases hlt : i < 3
    · have hltz : (i : Int) < 3 := by omega
      obtain ⟨k, hk, hx⟩ := HX.out wr i hlt
      have HN := Hid.of (isNumber_walk ⟨k.toArray⟩ wr (HG.out.up (HU0.out.trans hI.out.2)))
      rw [show (⟨k.toArray⟩ : ByteArray).data.toList = k from rfl] at HN
      have HK := Hid.of (And.intro hk trivial)
      clear hk
      cases hn : isNum k with
      | false =>
        rw [hn] at HN
        have HV := Hid.of (vok_num (ws := ws) (inc := inc) HK.out.1 hn)
        clear hn
        go_wp2_with fail
        refine (HN.out).mono ?_
        rintro e w1 ⟨rfl, u1⟩
        have H1 := Hid.of (hI.out.2.trans u1)
        have Hu1 := Hid.of u1
        clear u1
        dsimp only
        go_wp2
        go_ret
        rw [HV.out]
        exact ⟨rfl, HU0.out.trans H1.out⟩
      | true =>
        rw [hn] at HN
        have HT := Hid.of (show ([n0, n1, n2].take (i + 1)).all isNum = true by rw [take_get HK.out.1, List.all_append, hI.out.1]; simp [hn])
        clear hn
        go_wp2_with fail
        refine (HN.out).mono ?_
        rintro e w1 ⟨rfl, u1⟩
        have H1 := Hid.of (hI.out.2.trans u1)
        have Hu1 := Hid.of u1
        clear u1
        dsimp only
        go_wp2
        go_roundw
        case rel => exact ⟨i + 1, by go_num, by omega, HT.out, H1.out⟩
        case measure => simp [intOf]; omega
    · have hltz : ¬ (i : Int) < 3 := by omega
      have HA := Hid.of (show [n0, n1, n2].all isNum = true by
        have := hI.out.1
        rwa [List.take_of_length_le (by simp; omega)] at this)
      have hc1 := hI.out.2.cell HB.out.2.1
      clear HX
      go_wp2
      clear hc1 hltz hlt hi
      go_loopw [6, 19] (fun _ v19 wr => ∃ i : Nat, v19 = .int .i64 (i : Int) ∧ i ≤ ws.length ∧ Hid ((ws.take i).all isWrd = true ∧ Up W0 wr)) (fun _ v19 _ => ws.length - (intOf v19).toNat)
      case atStart => exact ⟨0, rfl, by omega, rfl, hI.out.2⟩
      case round =>
        clear hI
        obtain ⟨j, rfl, hj, hJ⟩ := hrel
        by_cases hlt : j < ws.length
        · have hltz : (j : Int) < (ws.length : Int) := by omega
          obtain ⟨b, off, rfl, hcj⟩ := (HS.out.up (HU0.out.trans hJ.out.2)).get hlt
          have HT := Hid.of (And.intro (List.take_succ_eq_append_getElem hlt) (List.getElem_mem hlt))
          have HN := Hid.of (isWord_walk ⟨ws[j].toArray⟩ wr (HG.out.up (HU0.out.trans hJ.out.2)))
          rw [show (⟨ws[j].toArray⟩ : ByteArray).data.toList = ws[j] from rfl] at HN
          generalize ws[j] = k at *
          cases hn : isWrd k with
          | false =>
            rw [hn] at HN
            have HV := Hid.of (vok_wrd (n := [n0, n1, n2]) (inc := inc) HT.out.2 hn)
            clear hn
            go_wp2_with fail
            refine (HN.out).mono ?_
            rintro e w1 ⟨rfl, u1⟩
            have H1 := Hid.of (hJ.out.2.trans u1)
            have Hu1 := Hid.of u1
            clear u1
            dsimp only
            go_wp2
            go_ret
            rw [HV.out]
            exact ⟨rfl, HU0.out.trans H1.out⟩
          | true =>
            rw [hn] at HN
            have HT2 := Hid.of (show (ws.take (j + 1)).all isWrd = true by rw [HT.out.1, List.all_append, hJ.out.1]; simp [hn])
            clear hn
            go_wp2_with fail
            refine (HN.out).mono ?_
            rintro e w1 ⟨rfl, u1⟩
            have H1 := Hid.of (hJ.out.2.trans u1)
            have Hu1 := Hid.of u1
            clear u1
            dsimp only
            go_wp2
            go_roundw
            case rel => exact ⟨j + 1, by go_num, by omega, HT2.out, H1.out⟩
            case measure => simp [intOf]; omega
        · have hltz : ¬ (j : Int) < (ws.length : Int) := by omega
          have HW := Hid.of (show ws.all isWrd = true by
            have := hJ.out.1
            rwa [List.take_of_length_le (by omega)] at this)
          have hc2 := hJ.out.2.cell HB.out.2.2
          have hc0 := hJ.out.2.cell HB.out.1
          have HL := Hid.of (isLow_walk ⟨n0.toArray⟩ wr)
          rw [show (⟨n0.toArray⟩ : ByteArray).data.toList = n0 from rfl] at HL
          have HV : Hid (vok ⟨[n0, n1, n2], ws, inc⟩ = !(inc && isLow n0)) := by
            unfold vok
            simp only [HA.out, HW.out, Bool.true_and]
            rfl
          cases inc with
          | false =>
            go_wp2
            go_ret
            rw [HV.out]
            exact ⟨rfl, HU0.out.trans hJ.out.2⟩
          | true =>
            go_wp2_with fail
            refine (HL.out).mono ?_
            rintro e w9 ⟨rfl, h9⟩
            obtain rfl := h9.symm
            clear h9
            dsimp only
            go_wp2
            go_ret
            rw [HV.out]
            exact ⟨by simp, HU0.out.trans hJ.out.2⟩
end Go.Proofs.YtaphjbcnnkoffaaGreatDoor
