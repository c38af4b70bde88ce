import Derived.Test.YtngoedhddjakhaaJt
namespace Go.Proofs.Ytngoedhddjakhaa
open Go.RowKit Go.Shelf TextNum TileNum
set_option maxRecDepth 100000 in
set_option maxHeartbeats 1000000 in
theorem lists_walk (v1 v2 : Value) (rs : List (List UInt8)) (w : World) (h1 : SlT w v1 rs) (h2 : SlT w v2 rs) (hl : rs.length ≤ 9223372036854775806) : Calls Try.prog 20 #[v1, v2] w fun e w' => e = .returned (.bool true) ∧ Up w w' := by
  have HL := Hid.of h1
  have HS := Hid.of h2
  obtain ⟨a1, c1, rfl, _, _⟩ := h1
  obtain ⟨a2, c2, rfl, _, _⟩ := h2
  have hnn : ((rs.length : Int) == (rs.length : Int)) = true := by simp
  go_enter Try.func20, Try.ntmps20
  go_wp2
  go_loopg [5] rs.length (fun g s5 wr => ∃ i : Nat, i ≤ rs.length ∧ rs.length - i ≤ g ∧ s5 = .int .i64 (i : Int) ∧ Hid (Up w wr))
  case atStart => exact ⟨0, by omega, by omega, rfl, Up.refl _⟩
  case round =>
    obtain ⟨i, hi, hgi, rfl, hI⟩ := hrel
    obtain ⟨wb, hwb⟩ : ∃ wb, wb = wr := ⟨_, rfl⟩
    subst hwb
    by_cases hlt : i < rs.length
    · have hltz : (i : Int) < (rs.length : Int) := by omega
      obtain ⟨b1, o1, d1, p1, k1, ea, _, j1, s1⟩ := HL.out.get hlt
      injection ea with ea1 ea2 ea3
      subst ea1 ea3
      obtain ⟨b2, o2, d2, p2, k2, eb, _, j2, s2⟩ := HS.out.get hlt
      injection eb with eb1 eb2 eb3
      subst eb1 eb3
      have j1' := hI.out.cell j1
      have j2' := hI.out.cell j2
      have hv1 : ∀ k, (convert 23 9 (.slice p1 rs[i].length k1)).run Try.prog (wb.drewN k) = .ok (vs rs[i]) (wb.drewN k) := fun k => conv_sl (s1.up (hI.out.drewN k))
      have hv2 : ∀ k, (convert 23 9 (.slice p2 rs[i].length k2)).run Try.prog (wb.drewN k) = .ok (vs rs[i]) (wb.drewN k) := fun k => conv_sl (s2.up (hI.out.drewN k))
      clear j1 j2 s1 s2 ea2 eb2
      rw [show vs rs[i] = .string ⟨rs[i].toArray⟩ from rfl] at hv1 hv2
      generalize (⟨rs[i].toArray⟩ : ByteArray) = bs at *
      generalize rs[i].length = m at *
      have HV := Hid.of (And.intro hv1 hv2)
      clear hv1 hv2
      go_wp2_with fail
      refine wp_region_quiet_lit (by kernel_rfl) (by kernel_rfl) ?_
      repeat (go_big_quiet_step (fail))
      refine BigFrame.wpQuiet_want (by kernel_rfl) (fun K hK => ?_)
      refine quiet_conv _ rfl _ bs rfl (fun w2 hw => ?_) ?_
      · obtain ⟨k, rfl⟩ := hw
        exact HV.out.1 _
      refine hK _ ?_
      clear hK K
      simp only [Act.put, List.setIfInBounds_toArray, List.set_cons_zero, List.set_cons_succ]
      repeat (go_big_quiet_step (fail))
      refine BigFrame.wpQuiet_want (by kernel_rfl) (fun K hK => ?_)
      refine quiet_conv _ rfl _ bs rfl (fun w2 hw => ?_) ?_
      · obtain ⟨k, rfl⟩ := hw
        exact HV.out.2 _
      refine hK _ ?_
      clear hK K
      simp only [Act.put, List.setIfInBounds_toArray, List.set_cons_zero, List.set_cons_succ]
      repeat (go_big_quiet_step (fail))
      refine wpQuiet_nil ?_
      intro w2 hw
      obtain ⟨k, rfl⟩ := hw
      go_wp2
      go_roundg (rs.length - (i + 1))
      case measure => omega
      case rel => exact ⟨i + 1, by omega, by omega, by go_num, hI.out.drewN _⟩
    · have hltz : ¬ (i : Int) < (rs.length : Int) := by omega
      go_wp2
      go_ret
      exact ⟨rfl, hI.out⟩
theorem any_take {rs : List (List UInt8)} {i : Nat} (h : (rs.take i).any tl = false) (hi : i = rs.length) : rs.any tl = false := by
  subst hi
  rwa [List.take_length] at h
theorem any_in {rs : List (List UInt8)} {i : Nat} (hi : i < rs.length) (h : 1024 < rs[i].length) : rs.any tl = true := by
  rw [List.any_eq_true]
  exact ⟨rs[i], List.getElem_mem hi, by simpa [tl] using h⟩
set_option maxRecDepth 100000 in
set_option maxHeartbeats 1000000 in
theorem refJoin_walk (v : Value) (rs : List (List UInt8)) (w : World) (h : SlT w v rs) : Calls Try.prog 15 #[v] w (JR rs w) := by
  have HS := Hid.of h
  obtain ⟨a, c, rfl, hc, _⟩ := h
  by_cases h1 : 256 < rs.length
  · have hg : lg rs = true := by simp [lg, h1]
    have hz : (256 : Int) < (rs.length : Int) := by omega
    go_enter Try.func15, Try.ntmps15
    go_wp2
    go_ret2
    exact ⟨Up.refl _, by rw [if_pos hg]; rfl⟩
  · have hz : ¬ (256 : Int) < (rs.length : Int) := by omega
    go_enter Try.func15, Try.ntmps15
    go_wp2
    go_loopg [4, 5, 6] rs.length (fun k s4 s5 _ wr => ∃ i : Nat, i ≤ rs.length ∧ rs.length - i ≤ k ∧ s5 = .int .i64 (i : Int) ∧ Hid ((rs.take i).any tl = false) ∧ Hid (Own wr w.heap.size s4 (jn (rs.take i))) ∧ Hid (Up w wr))
    case atStart => exact ⟨0, by omega, by omega, rfl, rfl, World.ownsRow_nil _ _ 5 1, Up.refl _⟩
    case round =>
      obtain ⟨i, hi, hk, rfl, HN, HO, HU1⟩ := hrel
      obtain ⟨wb, hwb⟩ : ∃ wb, wb = wr := ⟨_, rfl⟩
      subst hwb
      by_cases hlt : i < rs.length
      · have hltz : (i : Int) < (rs.length : Int) := by omega
        obtain ⟨b, off, c', a', k', ea, hb, hcell0, hsl⟩ := HS.out.get hlt
        have hcell := HU1.out.cell hcell0
        clear hcell0
        injection ea with ea1 ea2 ea3
        subst ea1 ea3
        have HSl := Hid.of hsl
        clear hsl ea2
        by_cases hr : 1024 < rs[i].length
        · have hg : lg rs = true := by simp only [lg, any_in hlt hr, Bool.or_true]
          have hrz : (1024 : Int) < (rs[i].length : Int) := by omega
          generalize rs[i].length = n at *
          go_wp2
          go_ret2
          exact ⟨HU1.out, by rw [if_pos hg]; rfl⟩
        · have hrz : ¬ (1024 : Int) < (rs[i].length : Int) := by omega
          have HE := Hid.of (jn_take hlt)
          have HN2 : Hid ((rs.take (i + 1)).any tl = false) := by
            show (rs.take (i + 1)).any tl = false
            rw [List.take_succ_eq_append_getElem hlt, List.any_append, HN.out]
            simp [tl]
            omega
          have HJ : Hid ((jn (rs.take i)).length ≤ 300000) := by
            have h1 := jn_le (rs.take i) (fun r hr => by
              have := HN.out
              rw [List.any_eq_false] at this
              have := this r hr
              simp [tl] at this
              omega)
            have h3 : (rs.take i).length * 1026 ≤ 256 * 1026 := Nat.mul_le_mul_right _ (by rw [List.length_take]; omega)
            show (jn (rs.take i)).length ≤ 300000
            omega
          generalize rs[i] = r at *
          generalize jn (rs.take i) = l at *
          go_wp2_with (with_reducible show wpList _ _ _ ({ dst := _, op := Op.call { callee := Callee.builtin Builtin.append, args := _, argTypes := _ }, type := _, pos := _, after := _, guard := _ } :: _) _ _; refine Shut.out ?_)
          show wpList _ _ _ _ _ _
          have hcb : (#[Value.int .u8 ((r.length : Int) / 256), Value.int .u8 ((r.length : Int) % 256)] : Array Value) = (cb [UInt8.ofNat (r.length / 256), UInt8.ofNat r.length]).toArray := by
            simp [cb]
            omega
          rw [hcb]
          clear hcb
          have hsz1 := HU1.out.size
          refine wpList_app1 rfl _ _ rfl w.heap.size _ l _ rfl (by exact HO.out) 2 rfl (by have := HJ.out; simp; omega) hsz1 ?_
          intro v1 w2 h2 k2
          have H2 := Hid.of (And.intro h2 (Up.step HU1.out (Nat.le_refl _) k2))
          have hsz2 := H2.out.2.size
          have HS2 := Hid.of (HSl.out.up H2.out.2)
          have hcell2 : w2.cell? ⟨b, off + i, none⟩ = some (.slice a' r.length k') := by
            obtain ⟨b', off', c'', a'', k'', ea', hb', hcell0', hsl'⟩ := HS.out.get hlt
            injection ea' with ea1' _ _
            injection ea1' with ea1'
            injection ea1' with ea1' ea2' _
            subst ea1' ea2'
            have q1 := HU1.out.cell hcell0'
            rw [hcell] at q1
            rw [H2.out.2.cell hcell0', ← q1]
          clear h2 k2
          simp only [Act.put, List.setIfInBounds_toArray, List.set_cons_zero, List.set_cons_succ]
          go_wp2_with (with_reducible show wpList _ _ _ ({ dst := _, op := Op.call { callee := Callee.builtin Builtin.append, args := _, argTypes := _ }, type := _, pos := _, after := _, guard := _ } :: _) _ _; refine Shut.out ?_)
          show wpList _ _ _ _ _ _
          refine wpList_appSl rfl _ _ rfl w.heap.size _ _ (l ++ [UInt8.ofNat (r.length / 256), UInt8.ofNat r.length]) r rfl (by exact H2.out.1) rfl (by exact HS2.out) (by have := HJ.out; simp; omega) hsz2 ?_
          intro v3 w3 h3 k3
          have H3 := Hid.of (And.intro h3 (Up.step H2.out.2 (Nat.le_refl _) k3))
          clear h3 k3
          simp only [Act.put, List.setIfInBounds_toArray, List.set_cons_zero, List.set_cons_succ]
          go_wp2
          go_roundg (rs.length - (i + 1))
          case measure => omega
          case rel => exact ⟨i + 1, by omega, by omega, by go_num, HN2.out, by rw [HE.out]; exact H3.out.1, H3.out.2⟩
      · have hltz : ¬ (i : Int) < (rs.length : Int) := by omega
        have hi2 : i = rs.length := by omega
        have hg : lg rs = false := by simp only [lg, any_take HN.out hi2, Bool.or_false]; simpa using h1
        subst hi2
        go_wp2
        go_ret2
        refine ⟨HU1.out, ?_⟩
        rw [if_neg (by rw [hg]; decide)]
        rw [List.take_length] at HO
        exact ⟨_, rfl, HO.out⟩
end Go.Proofs.Ytngoedhddjakhaa
