import Derived.Test.YtngoedhddjakhaaGx
import Derived.Test.YtngoedhddjakhaaRk
namespace Go.Proofs.Ytngoedhddjakhaa
open Go.RowKit Go.Shelf TextNum TileNum
set_option maxRecDepth 100000 in
set_option maxHeartbeats 2000000 in
theorem untouched_walk (v1 v2 : Value) (rs : List (List UInt8)) (w : World) (h1 : SlT w v1 (rs.map lt7)) (h2 : SlT w v2 rs) (hl : rs.length ≤ 1048576) (hr : ∀ r ∈ rs, r.length ≤ 1048576) : Calls Try.prog 18 #[v1, v2] w fun e w' => e = .returned (.bool true) ∧ Up w w' := by
  have HL := Hid.of h1
  have HS := Hid.of h2
  have HR := Hid.of hr
  obtain ⟨a1, c1, e1, _, _⟩ := h1
  obtain ⟨a2, c2, rfl, _, _⟩ := h2
  rw [List.length_map] at e1
  subst e1
  clear hr
  go_enter Try.func18, Try.ntmps18
  go_wp2
  go_loopg [5] rs.length (fun g s5 wr => ∃ i : Nat, i ≤ rs.length ∧ rs.length - i ≤ g ∧ s5 = .int .i64 (i : Int) ∧ Hid (Up w wr))
  case atStart => exact ⟨0, by omega, by omega, rfl, Up.refl _⟩
  case round =>
    obtain ⟨i, hi, hgi, rfl, hI⟩ := hrel
    obtain ⟨wb, hwb⟩ : ∃ wb, wb = wr := ⟨_, rfl⟩
    subst hwb
    by_cases hlt : i < rs.length
    · have hltz : (i : Int) < (rs.length : Int) := by omega
      obtain ⟨b1, o1, d1, p1, k1, ea, _, j1, s1⟩ := HL.out.get (i := i) (by rw [List.length_map]; exact hlt)
      rw [List.length_map] at ea
      injection ea with ea1 ea2 ea3
      subst ea1 ea3
      obtain ⟨b2, o2, d2, p2, k2, eb, _, j2, s2⟩ := HS.out.get hlt
      injection eb with eb1 eb2 eb3
      subst eb1 eb3
      have j1' := hI.out.cell j1
      have j2' := hI.out.cell j2
      rw [List.getElem_map] at s1 j1'
      have HW := fun w' => fun (u : Up w w') => Hid.of (whole_walk _ _ rs[i] w' (s1.up u) (s2.up u) (HR.out _ (List.getElem_mem hlt)))
      clear j1 j2 s1 s2 ea2 eb2
      generalize (lt7 rs[i]).length = m1 at *
      generalize rs[i].length = m2 at *
      go_wp2_with fail
      refine wp_region_held_drew (S := fun w2 => Up wb w2) (by kernel_rfl) (Up.refl _).drew (fun hS => ?_)
      refine wpAnyH_take (i := 0) (oi := { dst := some 12, op := Go.Op.move (Go.Operand.tmp 0), type := 22, pos := "law.go:86", after := #[], guard := none }) (v := .slice (some ⟨b1, o1, none⟩) rs.length c1) rfl (by kernel_rfl) (by kernel_rfl) (by kernel_rfl) (fun _ _ _ h => h) (Or.inl ⟨by kernel_rfl, ?_⟩) hS ?_
      · intro w5 hSw
        clear hSw hS
        go_simp
      simp only [Act.put, List.setIfInBounds_toArray, List.set_cons_zero, List.set_cons_succ]
      refine wpAnyH_take (i := 1) (oi := { dst := some 13, op := Go.Op.move (Go.Operand.tmp 5), type := 3, pos := "law.go:86", after := #[], guard := none }) (v := .int .i64 (i : Int)) rfl (by kernel_rfl) (by kernel_rfl) (by kernel_rfl) (fun _ _ _ h => h) (Or.inl ⟨by kernel_rfl, ?_⟩) hS ?_
      · intro w5 hSw
        clear hSw hS
        go_simp
      simp only [Act.put, List.setIfInBounds_toArray, List.set_cons_zero, List.set_cons_succ]
      refine wpAnyH_take (i := 2) (oi := { dst := some 14, op := Go.Op.indexAddr 22 (Go.Operand.tmp 12) (Go.Operand.tmp 13), type := 0, pos := "law.go:86", after := #[{ on := 0, ground := Go.Ground.data }, { on := 1, ground := Go.Ground.data }], guard := none }) (v := .pointer (some ⟨b1, o1 + i, none⟩)) rfl (by kernel_rfl) (by kernel_rfl) (by kernel_rfl) (fun _ _ _ h => h) (Or.inl ⟨by kernel_rfl, ?_⟩) hS ?_
      · intro w5 hSw
        clear hSw hS
        go_simp
      simp only [Act.put, List.setIfInBounds_toArray, List.set_cons_zero, List.set_cons_succ]
      refine wpAnyH_take (i := 3) (oi := { dst := some 15, op := Go.Op.load 23 (Go.Operand.tmp 14), type := 23, pos := "law.go:86", after := #[{ on := 2, ground := Go.Ground.data }], guard := none }) (v := .slice p1 m1 k1) rfl (by kernel_rfl) (by kernel_rfl) (by kernel_rfl) (fun _ _ _ h => h) (Or.inl ⟨by kernel_rfl, ?_⟩) hS ?_
      · intro w5 hSw
        have h0 := hSw.cell j1'
        have h1 := hSw.cell j2'
        clear hSw hS
        go_simp
      simp only [Act.put, List.setIfInBounds_toArray, List.set_cons_zero, List.set_cons_succ]
      refine wpAnyH_take (i := 4) (oi := { dst := some 16, op := Go.Op.move (Go.Operand.tmp 1), type := 22, pos := "law.go:86", after := #[], guard := none }) (v := .slice (some ⟨b2, o2, none⟩) rs.length c2) rfl (by kernel_rfl) (by kernel_rfl) (by kernel_rfl) (fun _ _ _ h => h) (Or.inl ⟨by kernel_rfl, ?_⟩) hS ?_
      · intro w5 hSw
        clear hSw hS
        go_simp
      simp only [Act.put, List.setIfInBounds_toArray, List.set_cons_zero, List.set_cons_succ]
      refine wpAnyH_take (i := 5) (oi := { dst := some 17, op := Go.Op.move (Go.Operand.tmp 5), type := 3, pos := "law.go:86", after := #[], guard := none }) (v := .int .i64 (i : Int)) rfl (by kernel_rfl) (by kernel_rfl) (by kernel_rfl) (fun _ _ _ h => h) (Or.inl ⟨by kernel_rfl, ?_⟩) hS ?_
      · intro w5 hSw
        clear hSw hS
        go_simp
      simp only [Act.put, List.setIfInBounds_toArray, List.set_cons_zero, List.set_cons_succ]
      refine wpAnyH_take (i := 6) (oi := { dst := some 18, op := Go.Op.indexAddr 22 (Go.Operand.tmp 16) (Go.Operand.tmp 17), type := 0, pos := "law.go:86", after := #[{ on := 4, ground := Go.Ground.data }, { on := 5, ground := Go.Ground.data }], guard := none }) (v := .pointer (some ⟨b2, o2 + i, none⟩)) rfl (by kernel_rfl) (by kernel_rfl) (by kernel_rfl) (fun _ _ _ h => h) (Or.inl ⟨by kernel_rfl, ?_⟩) hS ?_
      · intro w5 hSw
        clear hSw hS
        go_simp
      simp only [Act.put, List.setIfInBounds_toArray, List.set_cons_zero, List.set_cons_succ]
      refine wpAnyH_take (i := 7) (oi := { dst := some 19, op := Go.Op.load 23 (Go.Operand.tmp 18), type := 23, pos := "law.go:86", after := #[{ on := 6, ground := Go.Ground.data }], guard := none }) (v := .slice p2 m2 k2) rfl (by kernel_rfl) (by kernel_rfl) (by kernel_rfl) (fun _ _ _ h => h) (Or.inl ⟨by kernel_rfl, ?_⟩) hS ?_
      · intro w5 hSw
        have h0 := hSw.cell j1'
        have h1 := hSw.cell j2'
        clear hSw hS
        go_simp
      simp only [Act.put, List.setIfInBounds_toArray, List.set_cons_zero, List.set_cons_succ]
      refine wpAnyH_ready (rs := [8]) (by kernel_rfl) (by simp) ?_
      refine AllReadyH.cons (o := { dst := some 20, op := Go.Op.call { callee := Go.Callee.value (Go.Operand.func 21), args := #[Go.Operand.tmp 15, Go.Operand.tmp 19], argTypes := #[23, 23] }, type := 4, pos := "law.go:86", after := #[{ on := 3, ground := Go.Ground.data }, { on := 7, ground := Go.Ground.data }], guard := none }) rfl (fun K hK => ?_) AllReadyH.nil
      rw [if_pos (by kernel_rfl)]
      go_simp
      refine ((HW _ (hI.out.trans hS)).out).mono ?_
      rintro e w2 ⟨rfl, u⟩
      dsimp only
      have hS2 := hS.trans u
      clear hS u
      refine hK.out _ _ hS2 (fun hS => ?_)
      clear hK hS2 K
      refine wpAnyH_take (i := 9) (oi := { dst := some 21, op := Go.Op.unOp Go.UnOp.not 4 (Go.Operand.tmp 20), type := 4, pos := "law.go:86", after := #[{ on := 8, ground := Go.Ground.data }], guard := none }) (v := .bool false) rfl (by kernel_rfl) (by kernel_rfl) (by kernel_rfl) (fun _ _ _ h => h) (Or.inl ⟨by kernel_rfl, ?_⟩) hS ?_
      · intro w5 hSw
        clear hSw hS
        go_simp
      simp only [Act.put, List.setIfInBounds_toArray, List.set_cons_zero, List.set_cons_succ]
      have HU2 := Hid.of (hI.out.trans hS)
      clear hS
      refine wpAnyH_done (by kernel_rfl) ?_ _
      go_wp2
      go_roundg (rs.length - (i + 1))
      case measure => omega
      case rel => exact ⟨i + 1, by omega, by omega, by go_num, HU2.out⟩
    · have hltz : ¬ (i : Int) < (rs.length : Int) := by omega
      go_wp2
      go_ret
      exact ⟨rfl, hI.out⟩
end Go.Proofs.Ytngoedhddjakhaa
