import Derived.Test.YtpjfmkmgfjhnmaaPd
import Derived.Test.YtpjfmkmgfjhnmaaOz
import Derived.Deep.LoopGhost
namespace Go.Proofs.Ytpjfmkmgfjhnmaa
open Go.RowKit Tlg
theorem wh_no {n : Nat} (h : ¬ Wh n) : wh n = false := by
  rcases e : wh n with _ | _
  · rfl
  · exact absurd (wh_iff.1 e) h

set_option maxRecDepth 100000 in
set_option maxHeartbeats 1000000 in
theorem peaks_walk (a0 b : Nat) (h : Rg a0 b) (hb : b ≤ 281474976710656) (w : World) : Calls Try.prog 13 #[sp a0 b] w fun e w' => ∃ v, e = .returned v ∧ OwnL w' w.heap.size v (pkr a0 b) ∧ Up w w' := by
  have HL0 : Hid ((pkr a0 b).length ≤ 49) := (pkr_spec h hb).2.2
  have HR0 := Hid.of h
  have hab0 := h.1
  clear h
  go_enter Try.func13, Try.ntmps13
  go_wp2
  go_loopg [3] (b - a0) (fun k s3 wr => ∃ a : Nat, a < b ∧ b - a ≤ k ∧ wr.cell? ⟨w.heap.size, 0, none⟩ = some (.int .i64 (a : Int)) ∧ wr.cell? ⟨w.heap.size, 1, none⟩ = some (.int .i64 (b : Int)) ∧ Hid (Rg a b ∧ wr.heap[w.heap.size]? = some (.cells #[.int .i64 (a : Int), .int .i64 (b : Int)] 41)) ∧ Hid (∃ l, OwnL wr (w.heap.size + 1) s3 l ∧ l ++ pkr a b = pkr a0 b) ∧ Hid (Up w wr))
  case atStart => exact ⟨a0, hab0, Nat.le_refl _, by simp, by simp, ⟨HR0.out, alloc_new _ _⟩, ⟨[], ownL_nil _ _, rfl⟩, (Up.refl _).alloc _⟩
  case round =>
    obtain ⟨a, hab, hk, c0, c1, HR, HO, HU⟩ := hrel
    obtain ⟨wb, hwb⟩ : ∃ wb, wb = wr := ⟨_, rfl⟩
    subst hwb
    have HW := fun w => Hid.of (whole_walk a b hab hb w)
    rcases Classical.em (Wh (b - a)) with hw | hw
    · have hwh : wh (b - a) = true := wh_iff.2 hw
      have HP := fun w => Hid.of (place_walk a b HR.out.1 hw hb w)
      have HE := Hid.of (pkr_wh hw)
      rw [hwh] at HW
      clear hw hwh
      go_wp2_with fail
      refine (HW wb).out.mono ?_
      rintro e w1 ⟨rfl, u1⟩
      dsimp only
      have c0' := u1.cell c0
      have c1' := u1.cell c1
      have HU1 := Hid.of u1
      clear u1 c0 c1
      go_wp2_with fail
      refine (HP _).out.mono ?_
      rintro e w2 ⟨rfl, u2⟩
      dsimp only
      obtain ⟨l, hl, hE⟩ := HO.out
      have HL := Hid.of ((hl.below HU1.out).below u2)
      have HE2 : Hid (l ++ [pl a b] = pkr a0 b ∧ l.length ≤ 49) := by
        rw [HE.out] at hE
        refine ⟨hE, ?_⟩
        have := HL0.out
        rw [← hE, List.length_append] at this
        omega
      have HU2 := Hid.of ((HU.out.trans HU1.out).trans u2)
      have hsz : w.heap.size + 1 ≤ w2.heap.size := by
        have h1 := lt_of_at HR.out.2
        have h2 := HU1.out.size
        have h3 := u2.size
        omega
      clear u2 hE hl HO HE HU1 HU c0' c1'
      go_wp2_with (with_reducible show wpList _ _ _ ({ dst := _, op := Op.call { callee := Callee.builtin Builtin.append, args := _, argTypes := _ }, type := _, pos := _, after := _, guard := _ } :: _) _ _; refine Shut.out ?_)
      show wpList _ _ _ _ _ _
      refine wpList_appL2 rfl _ _ rfl (w.heap.size + 1) _ l (pl a b) rfl (by exact HL.out) 1 rfl (by have := HE2.out.2; omega) hsz ?_
      intro v' w3 h3 k3 _
      have H3 := Hid.of (And.intro h3 (HU2.out.step (by omega) k3))
      clear h3 k3
      simp only [Act.put, List.setIfInBounds_toArray, List.set_cons_zero, List.set_cons_succ]
      go_wp2
      go_ret
      rw [← HE2.out.1]
      exact ⟨_, rfl, H3.out.1.mono (by omega), H3.out.2⟩
    · have hwh : wh (b - a) = false := wh_no hw
      have h2 := two_of hab hw
      obtain ⟨q1, q2⟩ := cut_in h2
      have HP := fun w => Hid.of (place_walk a (cut a b) (rg_left HR.out.1 h2) wh_left (by omega) w)
      have HC := fun w => Hid.of (children_walk a b h2 hb w)
      have HRR := Hid.of (rg_right HR.out.1 h2)
      have HE := Hid.of (pkr_step HR.out.1 hb hw)
      rw [hwh] at HW
      clear hw hwh h2
      generalize cut a b = c at q1 q2 HP HC HRR HE
      generalize pl a c = p at HP HE
      go_wp2_with fail
      refine (HW wb).out.mono ?_
      rintro e w1 ⟨rfl, u1⟩
      dsimp only
      have c0' := u1.cell c0
      have c1' := u1.cell c1
      have HU1 := Hid.of u1
      clear u1 c0 c1
      go_wp2_with fail
      refine (HC _).out.mono ?_
      rintro e w2 ⟨rfl, u2⟩
      dsimp only
      have HU2 := Hid.of (HU1.out.trans u2)
      clear u2 HU1 c0' c1'
      go_wp2_with fail
      refine (HP _).out.mono ?_
      rintro e w3 ⟨rfl, u3⟩
      dsimp only
      obtain ⟨g, hg⟩ : ∃ g, g = w2.heap.size + 1 := ⟨_, rfl⟩
      rw [← hg]
      have HX : Hid (w3.heap[g]? = some (.cells #[.int .i64 (c : Int), .int .i64 (b : Int)] 41) ∧ w3.heap[w.heap.size]? = some (.cells #[.int .i64 (a : Int), .int .i64 (b : Int)] 41)) := by
        refine ⟨u3.at ?_, u3.at (alloc_old (alloc_old (HU2.out.at HR.out.2)))⟩
        have := alloc_new (w2.alloc (Obj.cells #[.int .i64 (a : Int), .int .i64 (c : Int)] 41)) (Obj.cells #[.int .i64 (c : Int), .int .i64 (b : Int)] 41)
        rw [alloc_size] at this
        rw [hg]
        exact this
      have HG : Hid (w.heap.size < g) := by
        have h1 := lt_of_at HR.out.2
        have h2 := HU2.out.size
        show w.heap.size < g
        omega
      obtain ⟨l, hl, hE⟩ := HO.out
      have HU3 : Hid (Up wb w3) := Hid.of (((HU2.out.alloc _).alloc _).trans u3)
      have HL := Hid.of (hl.below HU3.out)
      have HE2 : Hid ((l ++ [p]) ++ pkr c b = pkr a0 b ∧ l.length ≤ 49) := by
        rw [HE.out] at hE
        refine ⟨by rw [List.append_assoc]; exact hE, ?_⟩
        have := HL0.out
        rw [← hE, List.length_append] at this
        omega
      have hsz : w.heap.size + 1 ≤ w3.heap.size := by
        have h1 := lt_of_at HX.out.2
        omega
      clear u3 hE hl HO HE HU2 hg HR
      go_wp2_with (with_reducible show wpList _ _ _ ({ dst := _, op := Op.call { callee := Callee.builtin Builtin.append, args := _, argTypes := _ }, type := _, pos := _, after := _, guard := _ } :: _) _ _; refine Shut.out ?_)
      show wpList _ _ _ _ _ _
      refine wpList_appL2 rfl _ _ rfl (w.heap.size + 1) _ l p rfl (by exact HL.out) 1 rfl (by have := HE2.out.2; omega) hsz ?_
      intro v' w4 h4 k4 t4
      have H4 := Hid.of (And.intro h4 ((HU.out.trans HU3.out).step (by omega) k4))
      have HY : Hid (w4.heap[g]? = some (.cells #[.int .i64 (c : Int), .int .i64 (b : Int)] 41) ∧ w4.heap[w.heap.size]? = some (.cells #[.int .i64 (a : Int), .int .i64 (b : Int)] 41)) := ⟨t4 _ _ _ _ (by decide) HX.out.1, t4 _ _ _ _ (by decide) HX.out.2⟩
      clear h4 k4 t4 HX HL HU HU3 hsz
      simp only [Act.put, List.setIfInBounds_toArray, List.set_cons_zero, List.set_cons_succ]
      have d0 := cell_at (i := 0) (v := .int .i64 (c : Int)) HY.out.1 rfl
      have d1 := cell_at (i := 1) (v := .int .i64 (b : Int)) HY.out.1 rfl
      have e0 := cell_at (i := 0) (v := .int .i64 (a : Int)) HY.out.2 rfl
      have e1 := cell_at (i := 1) (v := .int .i64 (b : Int)) HY.out.2 rfl
      have f0 := thaw_at (i := 0) HY.out.2
      have f1 := thaw_at (i := 1) HY.out.2
      go_wp2
      clear d0 d1 e0 e1 f0 f1
      go_roundg (b - c)
      case measure => omega
      case rel =>
        have hX : (put2 w4 w.heap.size (.int .i64 (c : Int)) (.int .i64 (b : Int))).heap[w.heap.size]? = some (.cells #[.int .i64 (c : Int), .int .i64 (b : Int)] 41) := put2_at HY.out.2
        refine ⟨c, by omega, Nat.le_refl _, cell_at hX rfl, cell_at hX rfl, ⟨HRR.out, hX⟩, ⟨_, ?_, HE2.out.1⟩, H4.out.2.put2 (Nat.le_refl _) _ _⟩
        exact H4.out.1.kt (t := 41) (fun k cs u fz hu hk => (put2_other (fun e => by subst e; rw [HY.out.2] at hk; cases hk; exact hu rfl)).trans hk) (by decide)
end Go.Proofs.Ytpjfmkmgfjhnmaa
