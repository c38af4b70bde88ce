import Derived.Test.YtfhdddhapjdocaaDoorMjp
import Derived.Test.YtfhdddhapjdocaaDoorSp
namespace Go.Proofs.YtfhdddhapjdocaaDoor
open Go.RowKit Go.Shelf TextNum ModNum
theorem ba_app2 (a b : ByteArray) : (a ++ b).data.toList = a.data.toList ++ b.data.toList := by
  rw [ByteArray.data_append, Array.toList_append]
set_option maxRecDepth 100000 in
theorem takes_walk (p v : ByteArray) (w : World) (hG : GR w) : Calls Tryd.prog 21 #[.string p, .string v] w fun e w' => e = .returned (.bool (fte p.data.toList v.data.toList == 0)) ∧ Up w w' := by
  have HK := Hid.of (Key_walk p v w hG)
  generalize (⟨(keyT p.data.toList v.data.toList).toArray⟩ : ByteArray) = k at *
  generalize fte p.data.toList v.data.toList = f at *
  clear hG
  go_enter Tryd.func21, Tryd.ntmps21
  go_wp2_with fail
  refine (HK.out).mono ?_
  rintro e w1 ⟨rfl, u1⟩
  have H1 := Hid.of (u1)
  have Hu1 := Hid.of u1
  clear u1
  dsimp only
  go_wp2
  go_ret
  exact ⟨rfl, H1.out⟩
theorem takes_is {p v : ByteArray} {w : World} (hG : GR w) {b : Bool} (h : (fte p.data.toList v.data.toList == 0) = b) : ∀ w', Up w w' → Hid (Calls Tryd.prog 21 #[.string p, .string v] w' fun e w'' => e = .returned (.bool b) ∧ Up w' w'') := fun w' u => by
  have := takes_walk p v w' (hG.up u)
  rw [h] at this
  exact this
theorem beq_no {a : Int} (h : a = 111) : (a == 0) = false := by rw [h]; rfl
theorem beq_ok {a : Int} (h : a = 0) : (a == 0) = true := by rw [h]; rfl
theorem sls_tls (w : World) (t : TypeId) : SlS (w.alloc (.cells (TLS.map fun l => Value.string ⟨l.toArray⟩).toArray t)) (.slice (some ⟨w.heap.size, 0, none⟩) 12 12) TLS := by
  refine ⟨_, 12, rfl, Nat.le_refl _, .inr ⟨w.heap.size, 0, rfl, by rw [alloc_size]; omega, fun i hi => ?_⟩⟩
  rw [Nat.zero_add]
  exact (at_new w t _).cell (by rw [List.getElem?_map, List.getElem?_eq_getElem hi]; rfl)
set_option maxRecDepth 100000 in
set_option maxHeartbeats 8000000 in
theorem majors_walk (p : ByteArray) (w : World) (hG : GR w) (hT : TabL w) : Calls Tryd.prog 7 #[.string p] w fun e w' => e = .returned (.bool true) ∧ Up w w' := by
  have HS := Hid.of (sample_walk w hG hT)
  have HA := takes_is (p := ⟨#[97, 46, 99, 111, 109]⟩) (v := ⟨#[118, 49, 46, 48, 46, 48]⟩) hG (b := true) (by decide +kernel)
  have hT1 := takes_is (p := p) (v := ⟨#[118, 49, 46, 48, 46, 48]⟩) hG rfl
  have hT0 := takes_is (p := p) (v := ⟨#[118, 48, 46, 48, 46, 48]⟩) hG rfl
  obtain ⟨t1, ht1⟩ : ∃ t1, (fte p.data.toList (⟨#[118, 49, 46, 48, 46, 48]⟩ : ByteArray).data.toList == 0) = t1 := ⟨_, rfl⟩
  obtain ⟨t0, ht0⟩ : ∃ t0, (fte p.data.toList (⟨#[118, 48, 46, 48, 46, 48]⟩ : ByteArray).data.toList == 0) = t0 := ⟨_, rfl⟩
  rw [ht1] at hT1
  rw [ht0] at hT0
  have HG := Hid.of hG
  have HF1 := Hid.of ht1
  have HF0 := Hid.of ht0
  clear hG hT ht1 ht0
  have hls : p.data.toList.length = p.size := rfl
  have HLS := Hid.of hls
  clear hls
  go_enter Tryd.func7, Tryd.ntmps7
  go_wp2_with fail
  refine (HS.out).mono ?_
  rintro e w1 ⟨rfl, u1⟩
  have H1 := Hid.of (u1)
  have Hu1 := Hid.of u1
  clear u1
  dsimp only
  go_wp2_with fail
  refine ((HA _ H1.out).out).mono ?_
  rintro e w2 ⟨rfl, u2⟩
  have H2 := Hid.of (H1.out.trans u2)
  have Hu2 := Hid.of u2
  clear u2
  dsimp only
  go_wp2_with fail
  refine ((hT1 _ H2.out).out).mono ?_
  rintro e w3 ⟨rfl, u3⟩
  have H3 := Hid.of (H2.out.trans u3)
  have Hu3 := Hid.of u3
  clear u3
  dsimp only
  clear HS HA hT1
  cases t1 with
  | false =>
    go_wp2
    go_ret
    exact ⟨rfl, H3.out⟩
  | true =>
    go_wp2_with fail
    refine ((hT0 _ H3.out).out).mono ?_
    rintro e w4 ⟨rfl, u4⟩
    have H4 := Hid.of (H3.out.trans u4)
    have Hu4 := Hid.of u4
    clear u4
    dsimp only
    clear hT0
    cases t0 with
    | false =>
      go_wp2
      go_ret
      exact ⟨rfl, H4.out⟩
    | true =>
      by_cases hl : p.size ≤ 250
      · have hlz : ¬ (250 : Int) < (p.size : Int) := by omega
        have h0 := majors_keys (p := p.data.toList) (by have := HF1.out; rwa [beq_iff_eq] at this) (by have := HF0.out; rwa [beq_iff_eq] at this) (by have := HLS.out; omega)
        obtain ⟨q2, q2i, q9i, r2, r2x, r1, r3, r2i, rT, rS, rX⟩ := h0
        have hT2 := takes_is (p := p) (v := ⟨#[118, 50, 46, 48, 46, 48]⟩) HG.out (beq_no q2)
        have hT2i := takes_is (p := p) (v := ⟨#[118, 50, 46, 48, 46, 48, 43, 105, 110, 99, 111, 109, 112, 97, 116, 105, 98, 108, 101]⟩) HG.out (beq_ok q2i)
        have hT9i := takes_is (p := p) (v := ⟨#[118, 57, 46, 49, 46, 48, 45, 97, 43, 105, 110, 99, 111, 109, 112, 97, 116, 105, 98, 108, 101]⟩) HG.out (beq_ok q9i)
        have e2 : (p ++ (⟨#[47, 118, 50]⟩ : ByteArray)).data.toList = p.data.toList ++ [47, 118, 50] := ba_app2 _ _
        have hU2 := takes_is (p := p ++ ⟨#[47, 118, 50]⟩) (v := ⟨#[118, 50, 46, 48, 46, 48]⟩) HG.out (b := true) (by rw [e2]; exact beq_ok r2)
        have hU2x := takes_is (p := p ++ ⟨#[47, 118, 50]⟩) (v := ⟨#[118, 50, 46, 51, 46, 52, 45, 120]⟩) HG.out (b := true) (by rw [e2]; exact beq_ok r2x)
        have hU1 := takes_is (p := p ++ ⟨#[47, 118, 50]⟩) (v := ⟨#[118, 49, 46, 48, 46, 48]⟩) HG.out (b := false) (by rw [e2]; exact beq_no r1)
        have hU3 := takes_is (p := p ++ ⟨#[47, 118, 50]⟩) (v := ⟨#[118, 51, 46, 48, 46, 48]⟩) HG.out (b := false) (by rw [e2]; exact beq_no r3)
        have hU2i := takes_is (p := p ++ ⟨#[47, 118, 50]⟩) (v := ⟨#[118, 50, 46, 48, 46, 48, 43, 105, 110, 99, 111, 109, 112, 97, 116, 105, 98, 108, 101]⟩) HG.out (b := false) (by rw [e2]; exact beq_no r2i)
        have HT := Hid.of (And.intro rT (And.intro rS rX))
        have HL := Hid.of hl
        clear e2 q2 q2i q9i r2 r2x r1 r3 r2i rT rS rX HF1 HF0 hl
        have k1 : ¬ 9223372036854775807 < p.size + 3 := by have := HL.out; omega
        have k2 : ¬ 9223372036854775807 < 1 + p.size := by have := HL.out; omega
        go_wp2_with fail
        refine ((hT2 _ H4.out).out).mono ?_
        rintro e w5 ⟨rfl, u5⟩
        have H5 := Hid.of (H4.out.trans u5)
        have Hu5 := Hid.of u5
        clear u5
        dsimp only
        go_wp2_with fail
        refine ((hT2i _ H5.out).out).mono ?_
        rintro e w6 ⟨rfl, u6⟩
        have H6 := Hid.of (H5.out.trans u6)
        have Hu6 := Hid.of u6
        clear u6
        dsimp only
        go_wp2_with fail
        refine ((hT9i _ H6.out).out).mono ?_
        rintro e w7 ⟨rfl, u7⟩
        have H7 := Hid.of (H6.out.trans u7)
        have Hu7 := Hid.of u7
        clear u7
        dsimp only
        clear hT2 hT2i hT9i
        go_wp2_with fail
        refine ((hU2 _ H7.out).out).mono ?_
        rintro e w8 ⟨rfl, u8⟩
        have H8 := Hid.of (H7.out.trans u8)
        have Hu8 := Hid.of u8
        clear u8
        dsimp only
        go_wp2_with fail
        refine ((hU2x _ H8.out).out).mono ?_
        rintro e w9 ⟨rfl, u9⟩
        have H9 := Hid.of (H8.out.trans u9)
        have Hu9 := Hid.of u9
        clear u9
        dsimp only
        go_wp2_with fail
        refine ((hU1 _ H9.out).out).mono ?_
        rintro e w10 ⟨rfl, u10⟩
        have H10 := Hid.of (H9.out.trans u10)
        have Hu10 := Hid.of u10
        clear u10
        dsimp only
        go_wp2_with fail
        refine ((hU3 _ H10.out).out).mono ?_
        rintro e w11 ⟨rfl, u11⟩
        have H11 := Hid.of (H10.out.trans u11)
        have Hu11 := Hid.of u11
        clear u11
        dsimp only
        go_wp2_with fail
        refine ((hU2i _ H11.out).out).mono ?_
        rintro e w12 ⟨rfl, u12⟩
        have H12 := Hid.of (H11.out.trans u12)
        have Hu12 := Hid.of u12
        clear u12
        dsimp only
        clear hU2 hU2x hU1 hU3 hU2i
        have HB := Hid.of (sls_tls w12 9)
        have HBU := Hid.of (H12.out.alloc (.cells (TLS.map fun l => Value.string ⟨l.toArray⟩).toArray 9))
        go_wp2_with fail
        rw [show (#[Value.string ⟨#[47]⟩, Value.string ⟨#[47, 118, 48]⟩, Value.string ⟨#[47, 118, 49]⟩, Value.string ⟨#[47, 118, 48, 50]⟩, Value.string ⟨#[47, 118, 50, 46, 48]⟩, Value.string ⟨#[47, 47, 98]⟩, Value.string ⟨#[47, 46, 98]⟩, Value.string ⟨#[47, 98, 46]⟩, Value.string ⟨#[47, 97, 32, 98]⟩, Value.string ⟨#[47, 99, 111, 110]⟩, Value.string ⟨#[47, 78, 117, 108, 46, 120]⟩, Value.string ⟨#[47, 120, 126, 49]⟩] : Array Value) = (TLS.map fun l => Value.string ⟨l.toArray⟩).toArray from rfl]
        generalize w12.alloc (.cells (TLS.map fun l => Value.string ⟨l.toArray⟩).toArray 9) = W0 at *
        go_loopw [5, 61] (fun _ v61 wr => ∃ i : Nat, v61 = .int .i64 (i : Int) ∧ i ≤ 12 ∧ Hid (Up w wr ∧ SlS wr (.slice (some ⟨w12.heap.size, 0, none⟩) 12 12) TLS)) (fun _ v61 _ => 12 - (intOf v61).toNat)
        case atStart => exact ⟨0, rfl, by omega, HBU.out, HB.out⟩
        case round =>
          obtain ⟨i, rfl, hi, hI⟩ := hrel
          by_cases hlt : i < 12
          · have hltz : (i : Int) < (12 : Int) := by omega
            have hil : i < TLS.length := hlt
            obtain ⟨b, off, eb, hci⟩ := hI.out.2.get hil
            injection eb with eb
            injection eb with e1 e2
            subst e1 e2
            rw [Nat.zero_add] at hci
            obtain ⟨s, hs⟩ : ∃ s, TLS[i] = s := ⟨_, rfl⟩
            have hm : s ∈ TLS := by rw [← hs]; exact List.getElem_mem hil
            rw [hs] at hci
            obtain ⟨z, hz⟩ : ∃ z : ByteArray, ⟨s.toArray⟩ = z := ⟨_, rfl⟩
            rw [hz] at hci
            have hzs : z.size ≤ 6 := by
              have h1 := List.all_eq_true.1 tls_all s hm
              simp only [Bool.and_eq_true, beq_iff_eq, decide_eq_true_eq] at h1
              rw [← hz]
              show s.toArray.size ≤ 6
              rw [List.size_toArray]
              exact h1.2
            have HC := Hid.of (CheckPath_walk (p ++ z) wr (HG.out.up hI.out.1))
            rw [ba_app2, show z.data.toList = s by rw [← hz], HT.out.1 s hm] at HC
            have k3 : ¬ 9223372036854775807 < p.size + z.size := by have := HL.out; omega
            clear hs hm hz hzs hil
            go_wp2_with fail
            refine HC.out.mono ?_
            rintro e w13 ⟨rfl, u13⟩
            have H13 := Hid.of (And.intro (hI.out.1.trans u13) (hI.out.2.up u13))
            clear u13 hci
            dsimp only
            go_wp2
            go_roundw
            case rel => exact ⟨i + 1, by go_num, by omega, H13.out⟩
            case measure => simp [intOf]; omega
          · obtain rfl : i = 12 := by omega
            clear hlt
            have HP1 := fun w' => fun (u : Up w w') => Hid.of (CheckPath_walk ((⟨#[47]⟩ : ByteArray) ++ p) w' (HG.out.up u))
            have HP2 := fun w' => fun (u : Up w w') => Hid.of (CheckPath_walk (p ++ (⟨#[47, 118, 120]⟩ : ByteArray)) w' (HG.out.up u))
            rw [ba_app2, show (⟨#[47]⟩ : ByteArray).data.toList ++ p.data.toList = 47 :: p.data.toList from rfl, HT.out.2.1] at HP1
            rw [ba_app2, show (⟨#[47, 118, 120]⟩ : ByteArray).data.toList = [47, 118, 120] from rfl, HT.out.2.2] at HP2
            go_wp2_with fail
            refine ((HP1 _ hI.out.1).out).mono ?_
            rintro e w20 ⟨rfl, u20⟩
            have H20 := Hid.of (hI.out.1.trans u20)
            have Hu20 := Hid.of u20
            clear u20
            dsimp only
            go_wp2_with fail
            refine ((HP2 _ H20.out).out).mono ?_
            rintro e w21 ⟨rfl, u21⟩
            have H21 := Hid.of (H20.out.trans u21)
            have Hu21 := Hid.of u21
            clear u21
            dsimp only
            go_wp2
            go_ret
            exact ⟨rfl, H21.out⟩
      · have hlz : (250 : Int) < (p.size : Int) := by omega
        go_wp2
        go_ret
        exact ⟨rfl, H4.out⟩
end Go.Proofs.YtfhdddhapjdocaaDoor
