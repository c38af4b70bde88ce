import Derived.Test.YtlghhdngmcfkgaaDoorFo
namespace Go.Proofs.YtlghhdngmcfkgaaDoor
open Go.RowKit Go.Shelf TextNum ModNum
theorem v000 : verE [118, 48, 46, 48, 46, 48] = 0 := by decide +kernel
theorem bad_maj {l : List UInt8} {c : UInt8} (hc : c ∈ l) (h : kd c.toNat = 0) : majE l = 110 := by
  cases hm : maj l with
  | none => exact majE_none hm
  | some m => exact absurd (by rw [h]; rfl) (al_mem (maj_len hm).2 hc)
theorem bad_ver {l : List UInt8} {c : UInt8} (hc : c ∈ l) (h : kd c.toNat &&& 31 = 0) (h2 : c.toNat ≠ 43) : verE l = 111 := by
  cases hm : ver l with
  | none => exact verE_none hm
  | some m =>
    rcases ver_ch hm c hc with h3 | h3
    · exact absurd h h3
    · exact absurd (by rw [h3]; rfl) h2
set_option maxRecDepth 100000 in
set_option maxHeartbeats 4000000 in
theorem bytes_walk (a b : ByteArray) (c : UInt8) (ha : a.size ≤ 4611686018427387000) (hb : b.size ≤ 4611686018427387000) (w : World) (hG : GR w) (hT : TabL w) : Calls Tryd.prog 5 #[.string a, .int .u8 (c.toNat : Int), .string b] w fun e w' => e = .returned (.bool true) ∧ Up w w' := by
  have HS := fun w' => fun (u : Up w w') => Hid.of (sample_walk w' (hG.up u) (hT.below hT.lt u))
  have HZ := fun w' => fun (u : Up w w') => Hid.of (CheckVersion_walk ⟨#[118, 48, 46, 48, 46, 48]⟩ w' (hG.up u).toGM)
  rw [show (⟨#[118, 48, 46, 48, 46, 48]⟩ : ByteArray).data.toList = [118, 48, 46, 48, 46, 48] from rfl, v000] at HZ
  have HP := fun w' => fun (u : Up w w') => Hid.of (CheckPath_walk (a ++ ⟨#[c]⟩ ++ b) w' (hG.up u))
  have HV := fun w' => fun (u : Up w w') => Hid.of (CheckVersion_walk (a ++ ⟨#[c]⟩ ++ b) w' (hG.up u).toGM)
  have hm : c ∈ (a ++ ⟨#[c]⟩ ++ b).data.toList := by rw [ba_app, ba_app]; simp
  have hP0 : kd c.toNat = 0 → majE (a ++ ⟨#[c]⟩ ++ b).data.toList = 110 := bad_maj hm
  have hV0 : kd c.toNat &&& 31 = 0 → c.toNat ≠ 43 → verE (a ++ ⟨#[c]⟩ ++ b).data.toList = 111 := bad_ver hm
  generalize majE (a ++ ⟨#[c]⟩ ++ b).data.toList = mE at *
  generalize verE (a ++ ⟨#[c]⟩ ++ b).data.toList = vE at *
  have k1 : ¬ 9223372036854775807 < a.size + 1 := by omega
  have k2 : ¬ 9223372036854775807 < a.size + 1 + b.size := by omega
  have hcv : (convert 32 9 (.slice (some ⟨w.heap.size, 0, none⟩) 1 1)).run Tryd.prog (w.alloc (.cells #[.int .u8 (c.toNat : Int)] 5)) = .ok (.string ⟨#[c]⟩) (w.alloc (.cells #[.int .u8 (c.toNat : Int)] 5)) := by
    refine conv_sl (w := w.alloc (.cells #[.int .u8 (c.toNat : Int)] 5)) (l := [c]) ⟨_, _, rfl, Nat.le_refl _, .inr ⟨w.heap.size, 0, rfl, by simp, fun i hi => ?_⟩⟩
    obtain rfl : i = 0 := by simp at hi; omega
    exact (at_new w 5 [.int .u8 (c.toNat : Int)]).cell (i := 0) rfl
  have hc := c.toNat_lt
  clear hG hT hm ha hb
  have kdd : ∀ n, kd n = if 97 ≤ n ∧ n ≤ 122 then 1 else if 65 ≤ n ∧ n ≤ 90 then 2 else if 48 ≤ n ∧ n ≤ 57 then 4 else if n = 45 then 8 else if n = 46 then 16 else if n = 95 then 32 else if n = 126 then 32 else if n = 47 then 64 else 0 := fun _ => rfl
  have hK : (97 ≤ c.toNat ∧ c.toNat ≤ 122) ∨ (65 ≤ c.toNat ∧ c.toNat ≤ 90) ∨ (48 ≤ c.toNat ∧ c.toNat ≤ 57) ∨ c.toNat = 45 ∨ c.toNat = 46 ∨ c.toNat = 95 ∨ c.toNat = 126 ∨ c.toNat = 47 ∨ c.toNat = 43 ∨ (kd c.toNat = 0 ∧ c.toNat ≠ 43 ∧ c.toNat ≠ 45 ∧ c.toNat ≠ 46 ∧ c.toNat ≠ 95 ∧ c.toNat ≠ 126 ∧ c.toNat ≠ 47 ∧ ¬ (97 ≤ c.toNat ∧ c.toNat ≤ 122) ∧ ¬ (65 ≤ c.toNat ∧ c.toNat ≤ 90) ∧ ¬ (48 ≤ c.toNat ∧ c.toNat ≤ 57)) := by
    rw [kdd]
    (repeat' split) <;> omega
  clear kdd
  rcases hK with h | h | h | h | h | h | h | h | h | h
  · have q1 : (97 : Int) ≤ (c.toNat : Int) := by omega
    have q2 : (c.toNat : Int) ≤ 122 := by omega
    clear hP0 hV0 h
    generalize (c.toNat : Int) = z at *
    go_enter Tryd.func5, Tryd.ntmps5
    go_wp2_with fail
    refine ((HS _ ((Up.refl w).alloc _)).out).mono ?_
    rintro e w1 ⟨rfl, u1⟩
    have H1 := Hid.of (((Up.refl w).alloc _).trans u1)
    have Hu1 := Hid.of u1
    clear u1
    dsimp only
    go_wp2_with fail
    refine ((HZ _ H1.out).out).mono ?_
    rintro e w2 ⟨rfl, u2⟩
    have H2 := Hid.of (H1.out.trans u2)
    have Hu2 := Hid.of u2
    clear u2
    dsimp only
    go_wp2
    go_ret
    exact ⟨rfl, H2.out⟩
  · have q1 : ¬ (97 : Int) ≤ (c.toNat : Int) := by omega
    have q2 : (65 : Int) ≤ (c.toNat : Int) := by omega
    have q3 : (c.toNat : Int) ≤ 90 := by omega
    clear hP0 hV0 h
    generalize (c.toNat : Int) = z at *
    go_enter Tryd.func5, Tryd.ntmps5
    go_wp2_with fail
    refine ((HS _ ((Up.refl w).alloc _)).out).mono ?_
    rintro e w1 ⟨rfl, u1⟩
    have H1 := Hid.of (((Up.refl w).alloc _).trans u1)
    have Hu1 := Hid.of u1
    clear u1
    dsimp only
    go_wp2_with fail
    refine ((HZ _ H1.out).out).mono ?_
    rintro e w2 ⟨rfl, u2⟩
    have H2 := Hid.of (H1.out.trans u2)
    have Hu2 := Hid.of u2
    clear u2
    dsimp only
    go_wp2
    go_ret
    exact ⟨rfl, H2.out⟩
  · have q1 : ¬ (97 : Int) ≤ (c.toNat : Int) := by omega
    have q2 : ¬ (65 : Int) ≤ (c.toNat : Int) := by omega
    have q3 : (48 : Int) ≤ (c.toNat : Int) := by omega
    have q4 : (c.toNat : Int) ≤ 57 := by omega
    clear hP0 hV0 h
    generalize (c.toNat : Int) = z at *
    go_enter Tryd.func5, Tryd.ntmps5
    go_wp2_with fail
    refine ((HS _ ((Up.refl w).alloc _)).out).mono ?_
    rintro e w1 ⟨rfl, u1⟩
    have H1 := Hid.of (((Up.refl w).alloc _).trans u1)
    have Hu1 := Hid.of u1
    clear u1
    dsimp only
    go_wp2_with fail
    refine ((HZ _ H1.out).out).mono ?_
    rintro e w2 ⟨rfl, u2⟩
    have H2 := Hid.of (H1.out.trans u2)
    have Hu2 := Hid.of u2
    clear u2
    dsimp only
    go_wp2
    go_ret
    exact ⟨rfl, H2.out⟩
  · have hz : (c.toNat : Int) = 45 := by omega
    clear hP0 hV0 h hc
    rw [hz] at hcv ⊢
    clear hz
    go_enter Tryd.func5, Tryd.ntmps5
    go_wp2_with fail
    refine ((HS _ ((Up.refl w).alloc _)).out).mono ?_
    rintro e w1 ⟨rfl, u1⟩
    have H1 := Hid.of (((Up.refl w).alloc _).trans u1)
    have Hu1 := Hid.of u1
    clear u1
    dsimp only
    go_wp2_with fail
    refine ((HZ _ H1.out).out).mono ?_
    rintro e w2 ⟨rfl, u2⟩
    have H2 := Hid.of (H1.out.trans u2)
    have Hu2 := Hid.of u2
    clear u2
    dsimp only
    go_wp2
    go_ret
    exact ⟨rfl, H2.out⟩
  · have hz : (c.toNat : Int) = 46 := by omega
    clear hP0 hV0 h hc
    rw [hz] at hcv ⊢
    clear hz
    go_enter Tryd.func5, Tryd.ntmps5
    go_wp2_with fail
    refine ((HS _ ((Up.refl w).alloc _)).out).mono ?_
    rintro e w1 ⟨rfl, u1⟩
    have H1 := Hid.of (((Up.refl w).alloc _).trans u1)
    have Hu1 := Hid.of u1
    clear u1
    dsimp only
    go_wp2_with fail
    refine ((HZ _ H1.out).out).mono ?_
    rintro e w2 ⟨rfl, u2⟩
    have H2 := Hid.of (H1.out.trans u2)
    have Hu2 := Hid.of u2
    clear u2
    dsimp only
    go_wp2
    go_ret
    exact ⟨rfl, H2.out⟩
  · have hz : (c.toNat : Int) = 95 := by omega
    have hv1 := hV0 (by rw [h]; decide) (by rw [h]; decide)
    subst hv1
    clear hP0 hV0 h hc
    rw [hz] at hcv ⊢
    clear hz
    go_enter Tryd.func5, Tryd.ntmps5
    go_wp2_with fail
    refine ((HS _ ((Up.refl w).alloc _)).out).mono ?_
    rintro e w1 ⟨rfl, u1⟩
    have H1 := Hid.of (((Up.refl w).alloc _).trans u1)
    have Hu1 := Hid.of u1
    clear u1
    dsimp only
    go_wp2_with fail
    refine ((HZ _ H1.out).out).mono ?_
    rintro e w2 ⟨rfl, u2⟩
    have H2 := Hid.of (H1.out.trans u2)
    have Hu2 := Hid.of u2
    clear u2
    dsimp only
    go_wp2_with fail
    refine ((HV _ H2.out).out).mono ?_
    rintro e w4 ⟨rfl, u4⟩
    have H4 := Hid.of (H2.out.trans u4)
    have Hu4 := Hid.of u4
    clear u4
    dsimp only
    go_wp2
    go_ret
    exact ⟨rfl, H4.out⟩
  · have hz : (c.toNat : Int) = 126 := by omega
    have hv1 := hV0 (by rw [h]; decide) (by rw [h]; decide)
    subst hv1
    clear hP0 hV0 h hc
    rw [hz] at hcv ⊢
    clear hz
    go_enter Tryd.func5, Tryd.ntmps5
    go_wp2_with fail
    refine ((HS _ ((Up.refl w).alloc _)).out).mono ?_
    rintro e w1 ⟨rfl, u1⟩
    have H1 := Hid.of (((Up.refl w).alloc _).trans u1)
    have Hu1 := Hid.of u1
    clear u1
    dsimp only
    go_wp2_with fail
    refine ((HZ _ H1.out).out).mono ?_
    rintro e w2 ⟨rfl, u2⟩
    have H2 := Hid.of (H1.out.trans u2)
    have Hu2 := Hid.of u2
    clear u2
    dsimp only
    go_wp2_with fail
    refine ((HV _ H2.out).out).mono ?_
    rintro e w4 ⟨rfl, u4⟩
    have H4 := Hid.of (H2.out.trans u4)
    have Hu4 := Hid.of u4
    clear u4
    dsimp only
    go_wp2
    go_ret
    exact ⟨rfl, H4.out⟩
  · have hz : (c.toNat : Int) = 47 := by omega
    have hv1 := hV0 (by rw [h]; decide) (by rw [h]; decide)
    subst hv1
    clear hP0 hV0 h hc
    rw [hz] at hcv ⊢
    clear hz
    go_enter Tryd.func5, Tryd.ntmps5
    go_wp2_with fail
    refine ((HS _ ((Up.refl w).alloc _)).out).mono ?_
    rintro e w1 ⟨rfl, u1⟩
    have H1 := Hid.of (((Up.refl w).alloc _).trans u1)
    have Hu1 := Hid.of u1
    clear u1
    dsimp only
    go_wp2_with fail
    refine ((HZ _ H1.out).out).mono ?_
    rintro e w2 ⟨rfl, u2⟩
    have H2 := Hid.of (H1.out.trans u2)
    have Hu2 := Hid.of u2
    clear u2
    dsimp only
    go_wp2_with fail
    refine ((HV _ H2.out).out).mono ?_
    rintro e w4 ⟨rfl, u4⟩
    have H4 := Hid.of (H2.out.trans u4)
    have Hu4 := Hid.of u4
    clear u4
    dsimp only
    go_wp2
    go_ret
    exact ⟨rfl, H4.out⟩
  · have hz : (c.toNat : Int) = 43 := by omega
    have hp1 := hP0 (by rw [h]; decide)
    subst hp1
    clear hP0 hV0 h hc
    rw [hz] at hcv ⊢
    clear hz
    go_enter Tryd.func5, Tryd.ntmps5
    go_wp2_with fail
    refine ((HS _ ((Up.refl w).alloc _)).out).mono ?_
    rintro e w1 ⟨rfl, u1⟩
    have H1 := Hid.of (((Up.refl w).alloc _).trans u1)
    have Hu1 := Hid.of u1
    clear u1
    dsimp only
    go_wp2_with fail
    refine ((HZ _ H1.out).out).mono ?_
    rintro e w2 ⟨rfl, u2⟩
    have H2 := Hid.of (H1.out.trans u2)
    have Hu2 := Hid.of u2
    clear u2
    dsimp only
    go_wp2_with fail
    refine ((HP _ H2.out).out).mono ?_
    rintro e w3 ⟨rfl, u3⟩
    have H3 := Hid.of (H2.out.trans u3)
    have Hu3 := Hid.of u3
    clear u3
    dsimp only
    go_wp2
    go_ret
    exact ⟨rfl, H3.out⟩
  · obtain ⟨h0, n43, n45, n46, n95, n126, n47, nl, nu, nd⟩ := h
    have hp1 := hP0 h0
    subst hp1
    have hv1 := hV0 (by rw [h0]; rfl) n43
    subst hv1
    have e43 : ((c.toNat : Int) == 43) = false := by rw [beq_eq_false_iff_ne]; omega
    have e45 : ((c.toNat : Int) == 45) = false := by rw [beq_eq_false_iff_ne]; omega
    have e46 : ((c.toNat : Int) == 46) = false := by rw [beq_eq_false_iff_ne]; omega
    have e95 : ((c.toNat : Int) == 95) = false := by rw [beq_eq_false_iff_ne]; omega
    have e126 : ((c.toNat : Int) == 126) = false := by rw [beq_eq_false_iff_ne]; omega
    have e47 : ((c.toNat : Int) == 47) = false := by rw [beq_eq_false_iff_ne]; omega
    clear hP0 hV0 h0 n43 n45 n46 n95 n126 n47 hc
    rcases (by omega : (97 ≤ c.toNat ∧ 122 < c.toNat) ∨ (¬ 97 ≤ c.toNat ∧ 90 < c.toNat) ∨ (¬ 65 ≤ c.toNat ∧ 57 < c.toNat) ∨ ¬ 48 ≤ c.toNat) with h | h | h | h
    · have q0 : (97 : Int) ≤ (c.toNat : Int) := by omega
      have q1 : ¬ (c.toNat : Int) ≤ 122 := by omega
      have q2 : (65 : Int) ≤ (c.toNat : Int) := by omega
      have q3 : ¬ (c.toNat : Int) ≤ 90 := by omega
      have q4 : (48 : Int) ≤ (c.toNat : Int) := by omega
      have q5 : ¬ (c.toNat : Int) ≤ 57 := by omega
      clear h nl nu nd
      generalize (c.toNat : Int) = z at *
      go_enter Tryd.func5, Tryd.ntmps5
      go_wp2_with fail
      refine ((HS _ ((Up.refl w).alloc _)).out).mono ?_
      rintro e w1 ⟨rfl, u1⟩
      have H1 := Hid.of (((Up.refl w).alloc _).trans u1)
      have Hu1 := Hid.of u1
      clear u1
      dsimp only
      go_wp2_with fail
      refine ((HZ _ H1.out).out).mono ?_
      rintro e w2 ⟨rfl, u2⟩
      have H2 := Hid.of (H1.out.trans u2)
      have Hu2 := Hid.of u2
      clear u2
      dsimp only
      go_wp2_with fail
      refine ((HP _ H2.out).out).mono ?_
      rintro e w3 ⟨rfl, u3⟩
      have H3 := Hid.of (H2.out.trans u3)
      have Hu3 := Hid.of u3
      clear u3
      dsimp only
      go_wp2_with fail
      refine ((HV _ H3.out).out).mono ?_
      rintro e w4 ⟨rfl, u4⟩
      have H4 := Hid.of (H3.out.trans u4)
      have Hu4 := Hid.of u4
      clear u4
      dsimp only
      go_wp2
      go_ret
      exact ⟨rfl, H4.out⟩
    · have q0 : ¬ (97 : Int) ≤ (c.toNat : Int) := by omega
      have q1 : (65 : Int) ≤ (c.toNat : Int) := by omega
      have q2 : ¬ (c.toNat : Int) ≤ 90 := by omega
      have q3 : (48 : Int) ≤ (c.toNat : Int) := by omega
      have q4 : ¬ (c.toNat : Int) ≤ 57 := by omega
      clear h nl nu nd
      generalize (c.toNat : Int) = z at *
      go_enter Tryd.func5, Tryd.ntmps5
      go_wp2_with fail
      refine ((HS _ ((Up.refl w).alloc _)).out).mono ?_
      rintro e w1 ⟨rfl, u1⟩
      have H1 := Hid.of (((Up.refl w).alloc _).trans u1)
      have Hu1 := Hid.of u1
      clear u1
      dsimp only
      go_wp2_with fail
      refine ((HZ _ H1.out).out).mono ?_
      rintro e w2 ⟨rfl, u2⟩
      have H2 := Hid.of (H1.out.trans u2)
      have Hu2 := Hid.of u2
      clear u2
      dsimp only
      go_wp2_with fail
      refine ((HP _ H2.out).out).mono ?_
      rintro e w3 ⟨rfl, u3⟩
      have H3 := Hid.of (H2.out.trans u3)
      have Hu3 := Hid.of u3
      clear u3
      dsimp only
      go_wp2_with fail
      refine ((HV _ H3.out).out).mono ?_
      rintro e w4 ⟨rfl, u4⟩
      have H4 := Hid.of (H3.out.trans u4)
      have Hu4 := Hid.of u4
      clear u4
      dsimp only
      go_wp2
      go_ret
      exact ⟨rfl, H4.out⟩
    · have q0 : ¬ (97 : Int) ≤ (c.toNat : Int) := by omega
      have q1 : ¬ (65 : Int) ≤ (c.toNat : Int) := by omega
      have q2 : (48 : Int) ≤ (c.toNat : Int) := by omega
      have q3 : ¬ (c.toNat : Int) ≤ 57 := by omega
      clear h nl nu nd
      generalize (c.toNat : Int) = z at *
      go_enter Tryd.func5, Tryd.ntmps5
      go_wp2_with fail
      refine ((HS _ ((Up.refl w).alloc _)).out).mono ?_
      rintro e w1 ⟨rfl, u1⟩
      have H1 := Hid.of (((Up.refl w).alloc _).trans u1)
      have Hu1 := Hid.of u1
      clear u1
      dsimp only
      go_wp2_with fail
      refine ((HZ _ H1.out).out).mono ?_
      rintro e w2 ⟨rfl, u2⟩
      have H2 := Hid.of (H1.out.trans u2)
      have Hu2 := Hid.of u2
      clear u2
      dsimp only
      go_wp2_with fail
      refine ((HP _ H2.out).out).mono ?_
      rintro e w3 ⟨rfl, u3⟩
      have H3 := Hid.of (H2.out.trans u3)
      have Hu3 := Hid.of u3
      clear u3
      dsimp only
      go_wp2_with fail
      refine ((HV _ H3.out).out).mono ?_
      rintro e w4 ⟨rfl, u4⟩
      have H4 := Hid.of (H3.out.trans u4)
      have Hu4 := Hid.of u4
      clear u4
      dsimp only
      go_wp2
      go_ret
      exact ⟨rfl, H4.out⟩
    · have q0 : ¬ (97 : Int) ≤ (c.toNat : Int) := by omega
      have q1 : ¬ (65 : Int) ≤ (c.toNat : Int) := by omega
      have q2 : ¬ (48 : Int) ≤ (c.toNat : Int) := by omega
      clear h nl nu nd
      generalize (c.toNat : Int) = z at *
      go_enter Tryd.func5, Tryd.ntmps5
      go_wp2_with fail
      refine ((HS _ ((Up.refl w).alloc _)).out).mono ?_
      rintro e w1 ⟨rfl, u1⟩
      have H1 := Hid.of (((Up.refl w).alloc _).trans u1)
      have Hu1 := Hid.of u1
      clear u1
      dsimp only
      go_wp2_with fail
      refine ((HZ _ H1.out).out).mono ?_
      rintro e w2 ⟨rfl, u2⟩
      have H2 := Hid.of (H1.out.trans u2)
      have Hu2 := Hid.of u2
      clear u2
      dsimp only
      go_wp2_with fail
      refine ((HP _ H2.out).out).mono ?_
      rintro e w3 ⟨rfl, u3⟩
      have H3 := Hid.of (H2.out.trans u3)
      have Hu3 := Hid.of u3
      clear u3
      dsimp only
      go_wp2_with fail
      refine ((HV _ H3.out).out).mono ?_
      rintro e w4 ⟨rfl, u4⟩
      have H4 := Hid.of (H3.out.trans u4)
      have Hu4 := Hid.of u4
      clear u4
      dsimp only
      go_wp2
      go_ret
      exact ⟨rfl, H4.out⟩
end Go.Proofs.YtlghhdngmcfkgaaDoor
