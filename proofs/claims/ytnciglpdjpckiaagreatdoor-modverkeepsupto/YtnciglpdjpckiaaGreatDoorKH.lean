import Derived.Test.YtnciglpdjpckiaaGreatDoorKF
import Derived.Test.YtnciglpdjpckiaaGreatDoorK8
import Derived.Test.YtnciglpdjpckiaaGreatDoorKW
import Derived.Test.YtnciglpdjpckiaaGreatDoorKD
namespace Go.Proofs.YtnciglpdjpckiaaGreatDoor
open Go.RowKit Go.Shelf TextNum ModNum
set_option maxRecDepth 100000 in
set_option maxHeartbeats 4000000 in
theorem CompareR_walk (a b : ByteArray) (w : World) : Calls Tryz.prog 41 #[.string a, .string b] w fun e w' => e = .returned (.int .i64 (cmpV a.data.toList b.data.toList)) ∧ Up w w' := by
  have HSa := fun w' => Hid.of (SplitR_walk a w')
  have HSb := fun w' => Hid.of (SplitR_walk b w')
  go_enter Tryz.func41, Tryz.ntmps41
  go_wp2_with fail
  refine (HSa w).out.mono ?_
  rintro e w1 ⟨m0, m1, m2, va, i1, rfl, ha, ⟨a1, l1, c1, rfl⟩, u1⟩
  have HU1 := Hid.of u1
  have HVa := Hid.of ha
  clear u1 ha HSa
  dsimp only
  have HA1 := Hid.of (at_new w1 111 z5)
  have HW1 := Hid.of (HU1.out.alloc (.cells z5.toArray 111))
  have HZ1 := Hid.of ((Up.refl w1).alloc (.cells z5.toArray 111))
  go_wp2_with (with_reducible show wpList _ _ _ ({ dst := _, op := Op.store 111 _ _, type := _, pos := _, after := _, guard := _ } :: _) _ _; refine Shut.out ?_)
  show wpList _ _ _ _ _ _
  rw [z5lit]
  generalize w1.alloc (.cells z5.toArray 111) = W1 at *
  refine wpList_store_at rfl _ _ _ rfl w1.heap.size HA1.out [.string ⟨m0.toArray⟩, .string ⟨m1.toArray⟩, .string ⟨m2.toArray⟩, .slice a1 l1 c1, .bool i1] rfl rfl rfl (by kernel_rfl) (one5 _ _ _ _ _ _ _) fun x1 hx1 hg1 => ?_
  have HX1 := Hid.of hx1
  have HXU := Hid.of (HW1.out.by hg1 (fun g hg => by have := HU1.out.size; injection hg with hg; omega))
  have HXS := Hid.of (HZ1.out.by hg1 (fun g hg => by injection hg with hg; omega))
  clear hx1 hg1 HA1 HW1 HZ1
  simp only [Act.put]
  go_wp2_with fail
  refine (HSb x1).out.mono ?_
  rintro e w2 ⟨n0, n1, n2, vb, i2, rfl, hb, ⟨a2, l2, c2, rfl⟩, u2⟩
  have HU2 := Hid.of (HXU.out.trans u2)
  have HXa := Hid.of (HX1.out.up u2)
  have HSU := Hid.of (HXS.out.trans u2)
  have HVb := Hid.of hb
  have HLt := Hid.of (lt_of_at HXa.out)
  clear u2 hb HSb HX1 HXU HXS
  dsimp only
  have HA2 := Hid.of (at_new w2 111 z5)
  have HA1 := Hid.of (HXa.out.up ((Up.refl w2).alloc (.cells z5.toArray 111)))
  have HW2 := Hid.of (HU2.out.alloc (.cells z5.toArray 111))
  have HZ1 := Hid.of (HSU.out.alloc (.cells z5.toArray 111))
  have HZ2 := Hid.of ((Up.refl w2).alloc (.cells z5.toArray 111))
  go_wp2_with (with_reducible show wpList _ _ _ ({ dst := _, op := Op.store 111 _ _, type := _, pos := _, after := _, guard := _ } :: _) _ _; refine Shut.out ?_)
  show wpList _ _ _ _ _ _
  rw [z5lit]
  generalize w2.alloc (.cells z5.toArray 111) = W2 at *
  refine wpList_store_at rfl _ _ _ rfl w2.heap.size HA2.out [.string ⟨n0.toArray⟩, .string ⟨n1.toArray⟩, .string ⟨n2.toArray⟩, .slice a2 l2 c2, .bool i2] rfl rfl rfl (by kernel_rfl) (one5 _ _ _ _ _ _ _) fun x2 hx2 hg2 => ?_
  have HY2 := Hid.of hx2
  have HY1 := Hid.of (HA1.out.by hg2 (by intro h; have := HLt.out; injection h with h; omega))
  have HU := Hid.of (HW2.out.by hg2 (fun g hg => by have := HU2.out.size; injection hg with hg; omega))
  have HSa := Hid.of (HZ1.out.by hg2 (fun g hg => by have := HSU.out.size; injection hg with hg; omega))
  have HSb := Hid.of (HZ2.out.by hg2 (fun g hg => by injection hg with hg; omega))
  have HNe := Hid.of (show w1.heap.size < w2.heap.size from HLt.out)
  clear hx2 hg2 HA1 HA2 HW2 HZ1 HZ2 HXa HSU HU1 HU2 HLt
  simp only [Act.put]
  cases hva : ver a.data.toList with
  | none =>
    cases hvb : ver b.data.toList with
    | none =>
      have HR := Hid.of (cmpV_nn hva hvb)
      simp only [Option.isSome_none]
      clear hva hvb
      go_wp2
      go_ret
      rw [HR.out]
      exact ⟨rfl, HU.out⟩
    | some qb =>
      have HR := Hid.of (cmpV_no hva hvb)
      simp only [Option.isSome_none, Option.isSome_some]
      clear hva hvb
      go_wp2
      go_ret
      rw [HR.out]
      exact ⟨rfl, HU.out⟩
  | some qa =>
    cases hvb : ver b.data.toList with
    | none =>
      have HR := Hid.of (cmpV_on hva hvb)
      simp only [Option.isSome_none, Option.isSome_some]
      clear hva hvb
      go_wp2
      go_ret
      rw [HR.out]
      exact ⟨rfl, HU.out⟩
    | some qb =>
      obtain ⟨ea, sa, _⟩ := HVa.out qa hva
      obtain ⟨eb, sb, _⟩ := HVb.out qb hvb
      have hba := ver_bounds hva
      have hbb := ver_bounds hvb
      obtain ⟨na, wa, ia⟩ := qa
      obtain ⟨nb, wb', ib⟩ := qb
      simp only at ea eb sa sb hba hbb
      subst ea eb
      have HS1 := Hid.of (sa.up HSa.out)
      have HS2 := Hid.of (sb.up HSb.out)
      have HB := Hid.of (And.intro hba hbb)
      have HR := Hid.of (show cmpV a.data.toList b.data.toList = if cmp3 [m0, m1, m2] [n0, n1, n2] = 0 then cmpWs wa wb' else cmp3 [m0, m1, m2] [n0, n1, n2] by
        unfold cmpV
        rw [hva, hvb]
        rfl)
      simp only [Option.isSome_some]
      clear hva hvb sa sb hba hbb HVa HVb HSa HSb
      go_wp2
      go_loopw [9, 10] (fun v9 _ wr => ∃ i : Nat, v9 = .int .i64 (i : Int) ∧ i ≤ 3 ∧ Hid (cmp3 [m0, m1, m2] [n0, n1, n2] = cmp3 ([m0, m1, m2].drop i) ([n0, n1, n2].drop i) ∧ Up x2 wr)) (fun v9 _ _ => 3 - (intOf v9).toNat)
      case atStart => exact ⟨0, rfl, by omega, rfl, Up.refl _⟩
      case round =>
        obtain ⟨i, rfl, hi, hI⟩ := hrel
        obtain ⟨wb, hwb⟩ : ∃ wb, wb = wr := ⟨_, rfl⟩
        subst hwb
        by_cases hlt : i < 3
        · have hltz : (i : Int) < 3 := by omega
          obtain ⟨x, hx, hx2⟩ := pc_get (n0 := m0) (n1 := m1) (n2 := m2) (v := .slice a1 l1 c1) (inc := i1) hlt
          obtain ⟨y, hy, hy2⟩ := pc_get (n0 := n0) (n1 := n1) (n2 := n2) (v := .slice a2 l2 c2) (inc := i2) hlt
          have hcx := (HY1.out.up hI.out.2).cell hx2
          have hcy := (HY2.out.up hI.out.2).cell hy2
          have HE := Hid.of (hI.out.1.trans (cmp3_step hx hy))
          have HC := fun w' => Hid.of (numbers_walk ⟨x.toArray⟩ ⟨y.toArray⟩ (by rw [size_str]; exact HB.out.1.1 x (List.mem_of_getElem? hx)) w')
          simp only at HC
          clear hx hx2 hy hy2
          by_cases hz : cmpU x y = 0
          · have HE2 := Hid.of (HE.out.trans (if_pos hz))
            rw [hz] at HC
            clear hz
            go_wp2
            go_region_with (go_at_call 75; refine (HC _).out.mono ?_; rintro e w5 ⟨rfl, u5⟩; have H5 := Hid.of (Up.trans (by first | exact hI.out.2.drew | exact hI.out.2) u5); clear u5)
            all_goals go_wp2
            all_goals go_roundw
            all_goals first | exact ⟨i + 1, by go_num, by omega, HE2.out, H5.out⟩ | (simp [intOf]; omega)
          · have HE2 := Hid.of (HE.out.trans (if_neg hz))
            have hzz : (cmpU x y != 0) = true := by rw [bne_iff_ne]; exact hz
            have HR2 := Hid.of (show cmpV a.data.toList b.data.toList = cmpU x y by rw [HR.out, HE2.out, if_neg hz])
            generalize cmpU x y = cu at *
            clear hz
            go_wp2
            go_region_with (go_at_call 75; refine (HC _).out.mono ?_; rintro e w5 ⟨rfl, u5⟩; have H5 := Hid.of (Up.trans (by first | exact hI.out.2.drew | exact hI.out.2) u5); clear u5)
            all_goals go_wp2
            all_goals go_ret
            all_goals rw [HR2.out]
            all_goals exact ⟨rfl, HU.out.trans H5.out⟩
        · have hltz : ¬ (i : Int) < 3 := by omega
          have HR2 := Hid.of (show cmpV a.data.toList b.data.toList = cmpWs wa wb' by
            have h2 := hI.out.1
            have h3 : i = 3 := by omega
            rw [h3] at h2
            have h4 : cmp3 [m0, m1, m2] [n0, n1, n2] = 0 := h2
            rw [HR.out, if_pos h4])
          have hc1 := (HY1.out.up hI.out.2).cell (i := 3) rfl
          have hc2 := (HY2.out.up hI.out.2).cell (i := 3) rfl
          have HL := Hid.of (releases_walk _ _ wa wb' wb (HS1.out.up hI.out.2) (HS2.out.up hI.out.2) HB.out.1.2.1 HB.out.2.2.1 HB.out.1.2.2 HB.out.2.2.2)
          generalize cmpWs wa wb' = cw at *
          go_wp2_with fail
          refine (HL.out).mono ?_
          rintro e w9 ⟨rfl, u9⟩
          have H9 := Hid.of (hI.out.2.trans u9)
          have Hu9 := Hid.of u9
          clear u9
          dsimp only
          go_wp2
          go_ret
          rw [HR2.out]
          exact ⟨rfl, HU.out.trans H9.out⟩
end Go.Proofs.YtnciglpdjpckiaaGreatDoor
namespace Go.Proofs.YtnciglpdjpckiaaGreatDoor
open Go.RowKit Go.Shelf TextNum ModNum
theorem pkE_two {s : List UInt8} (h : pkE s = 0) : 64 ∈ s ∧ 64 ∉ bhd 64 s := by
  have h1 := pkE_at h
  refine ⟨h1, fun h2 => ?_⟩
  unfold pkE at h
  rw [if_pos (.inr h2)] at h
  simp at h
theorem OwnS.two {w : World} {B : Nat} {v : Value} {a b : List UInt8} {p q : ByteArray} (h : OwnS w B v [a, b]) (hp : (⟨a.toArray⟩ : ByteArray) = p) (hq : (⟨b.toArray⟩ : ByteArray) = q) : ∃ g c, v = .slice (some ⟨g, 0, none⟩) 2 c ∧ 2 ≤ c ∧ w.cell? ⟨g, 0, none⟩ = some (.string p) ∧ w.cell? ⟨g, 1, none⟩ = some (.string q) := by
  obtain ⟨g, c, rfl, _, _, hc, hcl, _⟩ := h.row (by simp)
  have h0 := hcl 0 (by simp)
  have h1 := hcl 1 (by simp)
  simp only [List.getElem_cons_zero, List.getElem_cons_succ, hp, hq] at h0 h1
  exact ⟨g, c, rfl, hc, h0, h1⟩
set_option maxRecDepth 100000 in
set_option maxHeartbeats 1000000 in
theorem Before_walk (s t : ByteArray) (hs : s.size ≤ 1048576) (ht : t.size ≤ 1048576) (h0 : pkE s.data.toList = 0) (h1 : pkE t.data.toList = 0) (w : World) : Calls Tryz.prog 35 #[.string s, .string t] w fun e w' => e = .returned (.bool (decide (kcm s.data.toList t.data.toList < 0))) ∧ Up w w' := by
  have HP := Hid.of (Pieces_walk s 64 hs w)
  have HQ := fun w' => Hid.of (Pieces_walk t 64 ht w')
  rw [show ((64 : UInt8).toNat : Int) = 64 from rfl] at HP HQ
  have k1 := pkE_two h0
  have k2 := pkE_two h1
  rw [pcs_pair k1.1 k1.2] at HP
  rw [pcs_pair k2.1 k2.2] at HQ
  obtain ⟨p, hp1, hp2⟩ := ba_of (ahd 64 s.data.toList)
  obtain ⟨v, hv1, hv2⟩ := ba_of (bhd 64 s.data.toList)
  obtain ⟨q, hq1, hq2⟩ := ba_of (ahd 64 t.data.toList)
  obtain ⟨x, hx1, hx2⟩ := ba_of (bhd 64 t.data.toList)
  have hpl : p.size ≤ 1048576 ∧ v.size ≤ 1048576 := by
    have h2 := congrArg List.length (cut_eq k1.1)
    rw [List.length_append, List.length_cons, ← hp1, ← hv1, len_of, len_of, len_of] at h2
    omega
  have HB1 := fun w' => Hid.of (bytes_walk' p q hpl.1 w')
  have HB2 := fun w' => Hid.of (CompareR_walk v x w')
  have HB3 := fun w' => Hid.of (bytes_walk' v x hpl.2 w')
  have HR : Hid (kcm s.data.toList t.data.toList = if cmpB p.data.toList q.data.toList = 0 then (if cmpV v.data.toList x.data.toList = 0 then cmpB v.data.toList x.data.toList else cmpV v.data.toList x.data.toList) else cmpB p.data.toList q.data.toList) := by
    rw [hp1, hv1, hq1, hx1]; rfl
  generalize kcm s.data.toList t.data.toList = rr at *
  generalize cmpB p.data.toList q.data.toList = r0 at *
  generalize cmpV v.data.toList x.data.toList = r1 at *
  generalize cmpB v.data.toList x.data.toList = r2 at *
  have HH := Hid.of (And.intro (And.intro hp2 hv2) (And.intro hq2 hx2))
  clear k1 k2 h0 h1 hp1 hp2 hv1 hv2 hq1 hq2 hx1 hx2 hpl hs ht
  go_enter Tryz.func35, Tryz.ntmps35
  go_wp2_with fail
  refine HP.out.mono ?_
  rintro e w1 ⟨va, rfl, ha, u1⟩
  have H1 := Hid.of u1
  obtain ⟨g1, c1, rfl, hc1, ca0, ca1⟩ := ha.two HH.out.1.1 HH.out.1.2
  have HCA := Hid.of (And.intro ca0 ca1)
  have hc1z : (2 : Int) ≤ (c1 : Int) := by omega
  clear HP ha u1 ca0 ca1 hc1
  dsimp only
  go_wp2_with fail
  refine (HQ w1).out.mono ?_
  rintro e w2 ⟨vb, rfl, hb, u2⟩
  have H2 := Hid.of u2
  have H12 := Hid.of (H1.out.trans u2)
  obtain ⟨g2, c2, rfl, hc2, cb0, cb1⟩ := hb.two HH.out.2.1 HH.out.2.2
  have HCB := Hid.of (And.intro cb0 cb1)
  have hc2z : (2 : Int) ≤ (c2 : Int) := by omega
  clear HQ hb u2 cb0 cb1 hc2 HH
  dsimp only
  go_wp2
  refine wp_region_held_drew (S := fun w5 => Up w2 w5) (by kernel_rfl) ((Up.refl w2).drew) (fun hS => ?_)
  refine wpAnyH_take (i := 0) (oi := { dst := some 12, op := Go.Op.move (Go.Operand.tmp 5), type := 22, pos := "order.go:102", after := #[], guard := none }) (v := .slice (some ⟨g1, 0, none⟩) 2 c1) rfl (by kernel_rfl) (by kernel_rfl) (by kernel_rfl) (fun _ _ _ h => h) (Or.inl ⟨by kernel_rfl, ?_⟩) hS ?_
  · intro w5 hSw
    go_simp
  simp only [Act.put, List.setIfInBounds_toArray, List.set_cons_zero, List.set_cons_succ]
  refine wpAnyH_take (i := 1) (oi := { dst := some 13, op := Go.Op.indexAddr 22 (Go.Operand.tmp 12) (Go.Operand.const (Go.Value.int Go.IntKind.i64 0)), type := 0, pos := "order.go:102", after := #[{ on := 0, ground := Go.Ground.data }], guard := none }) (v := .pointer (some ⟨g1, 0, none⟩)) rfl (by kernel_rfl) (by kernel_rfl) (by kernel_rfl) (fun _ _ _ h => h) (Or.inl ⟨by kernel_rfl, ?_⟩) hS ?_
  · intro w5 hSw
    go_simp
  simp only [Act.put, List.setIfInBounds_toArray, List.set_cons_zero, List.set_cons_succ]
  refine wpAnyH_take (i := 2) (oi := { dst := some 14, op := Go.Op.load 9 (Go.Operand.tmp 13), type := 9, pos := "order.go:102", after := #[{ on := 1, ground := Go.Ground.data }], guard := none }) (v := .string p) rfl (by kernel_rfl) (by kernel_rfl) (by kernel_rfl) (fun _ _ _ h => h) (Or.inl ⟨by kernel_rfl, ?_⟩) hS ?_
  · intro w5 hSw
    have hq := hSw.cell (H2.out.cell HCA.out.1)
    go_simp
  simp only [Act.put, List.setIfInBounds_toArray, List.set_cons_zero, List.set_cons_succ]
  refine wpAnyH_take (i := 3) (oi := { dst := some 15, op := Go.Op.move (Go.Operand.tmp 6), type := 22, pos := "order.go:102", after := #[], guard := none }) (v := .slice (some ⟨g2, 0, none⟩) 2 c2) rfl (by kernel_rfl) (by kernel_rfl) (by kernel_rfl) (fun _ _ _ h => h) (Or.inl ⟨by kernel_rfl, ?_⟩) hS ?_
  · intro w5 hSw
    go_simp
  simp only [Act.put, List.setIfInBounds_toArray, List.set_cons_zero, List.set_cons_succ]
  refine wpAnyH_take (i := 4) (oi := { dst := some 16, op := Go.Op.indexAddr 22 (Go.Operand.tmp 15) (Go.Operand.const (Go.Value.int Go.IntKind.i64 0)), type := 0, pos := "order.go:102", after := #[{ on := 3, ground := Go.Ground.data }], guard := none }) (v := .pointer (some ⟨g2, 0, none⟩)) rfl (by kernel_rfl) (by kernel_rfl) (by kernel_rfl) (fun _ _ _ h => h) (Or.inl ⟨by kernel_rfl, ?_⟩) hS ?_
  · intro w5 hSw
    go_simp
  simp only [Act.put, List.setIfInBounds_toArray, List.set_cons_zero, List.set_cons_succ]
  refine wpAnyH_take (i := 5) (oi := { dst := some 17, op := Go.Op.load 9 (Go.Operand.tmp 16), type := 9, pos := "order.go:102", after := #[{ on := 4, ground := Go.Ground.data }], guard := none }) (v := .string q) rfl (by kernel_rfl) (by kernel_rfl) (by kernel_rfl) (fun _ _ _ h => h) (Or.inl ⟨by kernel_rfl, ?_⟩) hS ?_
  · intro w5 hSw
    have hq := hSw.cell HCB.out.1
    go_simp
  simp only [Act.put, List.setIfInBounds_toArray, List.set_cons_zero, List.set_cons_succ]
  refine wpAnyH_ready (rs := [6]) (by kernel_rfl) (by simp) ?_
  refine AllReadyH.cons (o := { dst := some 18, op := Go.Op.call { callee := Go.Callee.value (Go.Operand.func 63), args := #[Go.Operand.tmp 14, Go.Operand.tmp 17], argTypes := #[9, 9] }, type := 3, pos := "order.go:102", after := #[{ on := 2, ground := Go.Ground.data }, { on := 5, ground := Go.Ground.data }], guard := none }) rfl (fun K hK => ?_) AllReadyH.nil
  rw [if_pos (by kernel_rfl)]
  go_simp
  refine (HB1 _).out.mono ?_
  rintro e v1 ⟨rfl, u1⟩
  dsimp only
  refine hK.out _ _ (hS.trans u1) (fun hS1 => ?_)
  clear hK hS
  refine wpAnyH_ready (rs := [7]) (by kernel_rfl) (by simp) ?_
  refine AllReadyH.cons (o := { dst := some 7, op := Go.Op.assign (Go.Operand.tmp 18), type := 3, pos := "order.go:102", after := #[{ on := 6, ground := Go.Ground.data }, { on := 6, ground := Go.Ground.chain }, { on := 0, ground := Go.Ground.phase }, { on := 1, ground := Go.Ground.phase }, { on := 2, ground := Go.Ground.phase }, { on := 3, ground := Go.Ground.phase }, { on := 4, ground := Go.Ground.phase }, { on := 5, ground := Go.Ground.phase }, { on := 6, ground := Go.Ground.phase }], guard := none }) rfl (fun K hK => ?_) AllReadyH.nil
  rw [if_pos (by kernel_rfl)]
  go_simp
  refine hK.out _ _ hS1 (fun hS2 => ?_)
  clear hK hS1
  refine wpAnyH_done (by kernel_rfl) ?_ _
  have H7 := Hid.of hS2
  clear hS2
  by_cases h0 : r0 = 0
  · subst h0
    rw [if_pos rfl] at HR
    go_wp2
    refine wp_region_held_drew (S := fun w5 => Up w2 w5) (by kernel_rfl) (H7.out.drew) (fun hS => ?_)
    refine wpAnyH_take (i := 0) (oi := { dst := some 23, op := Go.Op.move (Go.Operand.tmp 5), type := 22, pos := "order.go:106", after := #[], guard := none }) (v := .slice (some ⟨g1, 0, none⟩) 2 c1) rfl (by kernel_rfl) (by kernel_rfl) (by kernel_rfl) (fun _ _ _ h => h) (Or.inl ⟨by kernel_rfl, ?_⟩) hS ?_
    · intro w5 hSw
      go_simp
    simp only [Act.put, List.setIfInBounds_toArray, List.set_cons_zero, List.set_cons_succ]
    refine wpAnyH_take (i := 1) (oi := { dst := some 24, op := Go.Op.indexAddr 22 (Go.Operand.tmp 23) (Go.Operand.const (Go.Value.int Go.IntKind.i64 1)), type := 0, pos := "order.go:106", after := #[{ on := 0, ground := Go.Ground.data }], guard := none }) (v := .pointer (some ⟨g1, 1, none⟩)) rfl (by kernel_rfl) (by kernel_rfl) (by kernel_rfl) (fun _ _ _ h => h) (Or.inl ⟨by kernel_rfl, ?_⟩) hS ?_
    · intro w5 hSw
      go_simp
    simp only [Act.put, List.setIfInBounds_toArray, List.set_cons_zero, List.set_cons_succ]
    refine wpAnyH_take (i := 2) (oi := { dst := some 25, op := Go.Op.load 9 (Go.Operand.tmp 24), type := 9, pos := "order.go:106", after := #[{ on := 1, ground := Go.Ground.data }], guard := none }) (v := .string v) rfl (by kernel_rfl) (by kernel_rfl) (by kernel_rfl) (fun _ _ _ h => h) (Or.inl ⟨by kernel_rfl, ?_⟩) hS ?_
    · intro w5 hSw
      have hq := hSw.cell (H2.out.cell HCA.out.2)
      go_simp
    simp only [Act.put, List.setIfInBounds_toArray, List.set_cons_zero, List.set_cons_succ]
    refine wpAnyH_take (i := 3) (oi := { dst := some 26, op := Go.Op.move (Go.Operand.tmp 6), type := 22, pos := "order.go:106", after := #[], guard := none }) (v := .slice (some ⟨g2, 0, none⟩) 2 c2) rfl (by kernel_rfl) (by kernel_rfl) (by kernel_rfl) (fun _ _ _ h => h) (Or.inl ⟨by kernel_rfl, ?_⟩) hS ?_
    · intro w5 hSw
      go_simp
    simp only [Act.put, List.setIfInBounds_toArray, List.set_cons_zero, List.set_cons_succ]
    refine wpAnyH_take (i := 4) (oi := { dst := some 27, op := Go.Op.indexAddr 22 (Go.Operand.tmp 26) (Go.Operand.const (Go.Value.int Go.IntKind.i64 1)), type := 0, pos := "order.go:106", after := #[{ on := 3, ground := Go.Ground.data }], guard := none }) (v := .pointer (some ⟨g2, 1, none⟩)) rfl (by kernel_rfl) (by kernel_rfl) (by kernel_rfl) (fun _ _ _ h => h) (Or.inl ⟨by kernel_rfl, ?_⟩) hS ?_
    · intro w5 hSw
      go_simp
    simp only [Act.put, List.setIfInBounds_toArray, List.set_cons_zero, List.set_cons_succ]
    refine wpAnyH_take (i := 5) (oi := { dst := some 28, op := Go.Op.load 9 (Go.Operand.tmp 27), type := 9, pos := "order.go:106", after := #[{ on := 4, ground := Go.Ground.data }], guard := none }) (v := .string x) rfl (by kernel_rfl) (by kernel_rfl) (by kernel_rfl) (fun _ _ _ h => h) (Or.inl ⟨by kernel_rfl, ?_⟩) hS ?_
    · intro w5 hSw
      have hq := hSw.cell HCB.out.2
      go_simp
    simp only [Act.put, List.setIfInBounds_toArray, List.set_cons_zero, List.set_cons_succ]
    refine wpAnyH_ready (rs := [6]) (by kernel_rfl) (by simp) ?_
    refine AllReadyH.cons (o := { dst := some 29, op := Go.Op.call { callee := Go.Callee.value (Go.Operand.func 41), args := #[Go.Operand.tmp 25, Go.Operand.tmp 28], argTypes := #[9, 9] }, type := 3, pos := "order.go:106", after := #[{ on := 2, ground := Go.Ground.data }, { on := 5, ground := Go.Ground.data }], guard := none }) rfl (fun K hK => ?_) AllReadyH.nil
    rw [if_pos (by kernel_rfl)]
    go_simp
    refine (HB2 _).out.mono ?_
    rintro e v1 ⟨rfl, u1⟩
    dsimp only
    refine hK.out _ _ (hS.trans u1) (fun hS1 => ?_)
    clear hK hS
    refine wpAnyH_ready (rs := [7]) (by kernel_rfl) (by simp) ?_
    refine AllReadyH.cons (o := { dst := some 7, op := Go.Op.assign (Go.Operand.tmp 29), type := 3, pos := "order.go:106", after := #[{ on := 6, ground := Go.Ground.data }, { on := 6, ground := Go.Ground.chain }, { on := 0, ground := Go.Ground.phase }, { on := 1, ground := Go.Ground.phase }, { on := 2, ground := Go.Ground.phase }, { on := 3, ground := Go.Ground.phase }, { on := 4, ground := Go.Ground.phase }, { on := 5, ground := Go.Ground.phase }, { on := 6, ground := Go.Ground.phase }], guard := none }) rfl (fun K hK => ?_) AllReadyH.nil
    rw [if_pos (by kernel_rfl)]
    go_simp
    refine hK.out _ _ hS1 (fun hS2 => ?_)
    clear hK hS1
    refine wpAnyH_done (by kernel_rfl) ?_ _
    have H10 := Hid.of hS2
    clear hS2
    by_cases h1 : r1 = 0
    · subst h1
      rw [if_pos rfl] at HR
      go_wp2
      refine wp_region_held_drew (S := fun w5 => Up w2 w5) (by kernel_rfl) (H10.out.drew) (fun hS => ?_)
      refine wpAnyH_take (i := 0) (oi := { dst := some 34, op := Go.Op.move (Go.Operand.tmp 5), type := 22, pos := "order.go:110", after := #[], guard := none }) (v := .slice (some ⟨g1, 0, none⟩) 2 c1) rfl (by kernel_rfl) (by kernel_rfl) (by kernel_rfl) (fun _ _ _ h => h) (Or.inl ⟨by kernel_rfl, ?_⟩) hS ?_
      · intro w5 hSw
        go_simp
      simp only [Act.put, List.setIfInBounds_toArray, List.set_cons_zero, List.set_cons_succ]
      refine wpAnyH_take (i := 1) (oi := { dst := some 35, op := Go.Op.indexAddr 22 (Go.Operand.tmp 34) (Go.Operand.const (Go.Value.int Go.IntKind.i64 1)), type := 0, pos := "order.go:110", after := #[{ on := 0, ground := Go.Ground.data }], guard := none }) (v := .pointer (some ⟨g1, 1, none⟩)) rfl (by kernel_rfl) (by kernel_rfl) (by kernel_rfl) (fun _ _ _ h => h) (Or.inl ⟨by kernel_rfl, ?_⟩) hS ?_
      · intro w5 hSw
        go_simp
      simp only [Act.put, List.setIfInBounds_toArray, List.set_cons_zero, List.set_cons_succ]
      refine wpAnyH_take (i := 2) (oi := { dst := some 36, op := Go.Op.load 9 (Go.Operand.tmp 35), type := 9, pos := "order.go:110", after := #[{ on := 1, ground := Go.Ground.data }], guard := none }) (v := .string v) rfl (by kernel_rfl) (by kernel_rfl) (by kernel_rfl) (fun _ _ _ h => h) (Or.inl ⟨by kernel_rfl, ?_⟩) hS ?_
      · intro w5 hSw
        have hq := hSw.cell (H2.out.cell HCA.out.2)
        go_simp
      simp only [Act.put, List.setIfInBounds_toArray, List.set_cons_zero, List.set_cons_succ]
      refine wpAnyH_take (i := 3) (oi := { dst := some 37, op := Go.Op.move (Go.Operand.tmp 6), type := 22, pos := "order.go:110", after := #[], guard := none }) (v := .slice (some ⟨g2, 0, none⟩) 2 c2) rfl (by kernel_rfl) (by kernel_rfl) (by kernel_rfl) (fun _ _ _ h => h) (Or.inl ⟨by kernel_rfl, ?_⟩) hS ?_
      · intro w5 hSw
        go_simp
      simp only [Act.put, List.setIfInBounds_toArray, List.set_cons_zero, List.set_cons_succ]
      refine wpAnyH_take (i := 4) (oi := { dst := some 38, op := Go.Op.indexAddr 22 (Go.Operand.tmp 37) (Go.Operand.const (Go.Value.int Go.IntKind.i64 1)), type := 0, pos := "order.go:110", after := #[{ on := 3, ground := Go.Ground.data }], guard := none }) (v := .pointer (some ⟨g2, 1, none⟩)) rfl (by kernel_rfl) (by kernel_rfl) (by kernel_rfl) (fun _ _ _ h => h) (Or.inl ⟨by kernel_rfl, ?_⟩) hS ?_
      · intro w5 hSw
        go_simp
      simp only [Act.put, List.setIfInBounds_toArray, List.set_cons_zero, List.set_cons_succ]
      refine wpAnyH_take (i := 5) (oi := { dst := some 39, op := Go.Op.load 9 (Go.Operand.tmp 38), type := 9, pos := "order.go:110", after := #[{ on := 4, ground := Go.Ground.data }], guard := none }) (v := .string x) rfl (by kernel_rfl) (by kernel_rfl) (by kernel_rfl) (fun _ _ _ h => h) (Or.inl ⟨by kernel_rfl, ?_⟩) hS ?_
      · intro w5 hSw
        have hq := hSw.cell HCB.out.2
        go_simp
      simp only [Act.put, List.setIfInBounds_toArray, List.set_cons_zero, List.set_cons_succ]
      refine wpAnyH_ready (rs := [6]) (by kernel_rfl) (by simp) ?_
      refine AllReadyH.cons (o := { dst := some 40, op := Go.Op.call { callee := Go.Callee.value (Go.Operand.func 63), args := #[Go.Operand.tmp 36, Go.Operand.tmp 39], argTypes := #[9, 9] }, type := 3, pos := "order.go:110", after := #[{ on := 2, ground := Go.Ground.data }, { on := 5, ground := Go.Ground.data }], guard := none }) rfl (fun K hK => ?_) AllReadyH.nil
      rw [if_pos (by kernel_rfl)]
      go_simp
      refine (HB3 _).out.mono ?_
      rintro e v1 ⟨rfl, u1⟩
      dsimp only
      refine hK.out _ _ (hS.trans u1) (fun hS1 => ?_)
      clear hK hS
      refine wpAnyH_ready (rs := [7]) (by kernel_rfl) (by simp) ?_
      refine AllReadyH.cons (o := { dst := some 41, op := Go.Op.binOp Go.BinOp.lss 3 (Go.Operand.tmp 40) (Go.Operand.const (Go.Value.int Go.IntKind.i64 0)) 3, type := 4, pos := "order.go:110", after := #[{ on := 6, ground := Go.Ground.data }], guard := none }) rfl (fun K hK => ?_) AllReadyH.nil
      rw [if_pos (by kernel_rfl)]
      go_simp
      refine hK.out _ _ hS1 (fun hS2 => ?_)
      clear hK hS1
      refine wpAnyH_ready (rs := [8]) (by kernel_rfl) (by simp) ?_
      refine AllReadyH.cons (o := { dst := some 4, op := Go.Op.assign (Go.Operand.tmp 41), type := 4, pos := "order.go:110", after := #[{ on := 7, ground := Go.Ground.data }, { on := 6, ground := Go.Ground.chain }, { on := 0, ground := Go.Ground.phase }, { on := 1, ground := Go.Ground.phase }, { on := 2, ground := Go.Ground.phase }, { on := 3, ground := Go.Ground.phase }, { on := 4, ground := Go.Ground.phase }, { on := 5, ground := Go.Ground.phase }, { on := 6, ground := Go.Ground.phase }, { on := 7, ground := Go.Ground.phase }], guard := none }) rfl (fun K hK => ?_) AllReadyH.nil
      rw [if_pos (by kernel_rfl)]
      go_simp
      refine hK.out _ _ hS2 (fun hS3 => ?_)
      clear hK hS2
      refine wpAnyH_done (by kernel_rfl) ?_ _
      have H13 := Hid.of hS3
      clear hS3
      go_wp2
      go_ret
      rw [HR.out]
      exact ⟨rfl, H12.out.trans H13.out⟩
    · have h1z : (r1 != 0) = true := by rw [bne_iff_ne]; exact h1
      rw [if_neg h1] at HR
      clear h1
      go_wp2
      go_ret
      rw [HR.out]
      exact ⟨rfl, H12.out.trans H10.out⟩
  · have h0z : (r0 != 0) = true := by rw [bne_iff_ne]; exact h0
    rw [if_neg h0] at HR
    clear h0
    go_wp2
    go_ret
    rw [HR.out]
    exact ⟨rfl, H12.out.trans H7.out⟩
end Go.Proofs.YtnciglpdjpckiaaGreatDoor
namespace Go.Proofs.YtnciglpdjpckiaaGreatDoor
open Go.RowKit Go.Shelf TextNum ModNum
/-- what the inner loop keeps -/
def IS (w wr : World) (g cap i : Nat) (ks : List (List UInt8)) (j : Nat) : Prop := ∃ A x C, A.length = j ∧ OwnS wr w.heap.size (.slice (some ⟨g, 0, none⟩) (i + 1) cap) (A ++ x :: C) ∧ (A ++ C).Pairwise kle ∧ (∀ b ∈ C, kle x b) ∧ List.Perm (A ++ x :: C) (ks.take (i + 1)) ∧ Up w wr
/-- what the outer loop keeps -/
def QS (w wr : World) (v : Value) (ks : List (List UInt8)) (i : Nat) : Prop := ∃ ls, OwnS wr w.heap.size v ls ∧ ls.Pairwise kle ∧ List.Perm ls (ks.take i) ∧ Up w wr
theorem perm_len {a ks : List (List UInt8)} {i : Nat} (h : List.Perm a (ks.take i)) (hi : i ≤ ks.length) : a.length = i := by
  have := h.length_eq
  rw [List.length_take] at this
  omega
set_option maxRecDepth 100000 in
set_option maxHeartbeats 4000000 in
theorem RSort_walk (v : Value) (ks : List (List UInt8)) (hsz : ∀ s ∈ ks, s.length ≤ 1048576) (w : World) (hT : TK w) (hS : SlS w v ks) : Calls Tryz.prog 14 #[v] w (SRT ks w) := by
  have HS := Hid.of hS
  have HT := Hid.of hT
  have HSZ := Hid.of hsz
  obtain ⟨a, c, rfl, hcc, _⟩ := id hS
  obtain ⟨n, hn⟩ : ∃ n, ks.length = n := ⟨_, rfl⟩
  have HN := Hid.of hn
  rw [hn] at hcc HS ⊢
  have hccz : (n : Int) ≤ (c : Int) := by omega
  by_cases h4 : 4096 < n
  · have h4z : (4096 : Int) < (n : Int) := by omega
    have HE := Hid.of (show (2 : Int) = (if 4096 < ks.length then 2 else kE ks) by rw [hn, if_pos h4])
    clear hS hn hT hsz h4
    go_enter Tryz.func14, Tryz.ntmps14
    go_wp2
    go_ret2
    exact ⟨_, 2, [], rfl, HE.out, fun _ => rfl, fun h => absurd h (by decide), ownS_nil _ _, Up.refl _⟩
  · have h4z : ¬ (4096 : Int) < (n : Int) := by omega
    have HE := Hid.of (show (if 4096 < ks.length then 2 else kE ks) = kE ks by rw [hn, if_neg h4])
    clear hS hn hT hsz
    go_enter Tryz.func14, Tryz.ntmps14
    go_wp2
    go_loopw [5, 6, 7, 8] (fun v5 _ _ _ wr => ∃ i : Nat, v5 = .int .i64 (i : Int) ∧ i ≤ n ∧ Hid (Up w wr ∧ ∀ s ∈ ks.take i, pkE s = 0)) (fun v5 _ _ _ _ => n - (intOf v5).toNat)
    case atStart => exact ⟨0, rfl, by omega, Up.refl _, fun s hs => by simp at hs⟩
    case round =>
      obtain ⟨i, rfl, hi, hI⟩ := hrel
      obtain ⟨wb, hwb⟩ : ∃ wb, wb = wr := ⟨_, rfl⟩
      subst hwb
      by_cases hlt : i < n
      · have hltz : (i : Int) < (n : Int) := by omega
        have hil : i < ks.length := by rw [HN.out]; exact hlt
        obtain ⟨b, off, rfl, hc⟩ := (HS.out.up hI.out.1).get hil
        obtain ⟨s, hs1, hs2⟩ := ba_of ks[i]
        rw [hs2] at hc
        have hss : s.size ≤ 1048576 := by
          rw [← len_of, hs1]
          exact HSZ.out _ (List.getElem_mem hil)
        have HP := Hid.of (RParseKey_walk s hss wb (HT.out.up hI.out.1))
        rw [hs1] at HP
        by_cases h0 : pkE ks[i] = 0
        · have HI2 := Hid.of (show ∀ t ∈ ks.take (i + 1), pkE t = 0 from fun t ht => by
            rw [List.take_add_one, List.getElem?_eq_getElem hil] at ht
            rcases List.mem_append.1 ht with ht | ht
            · exact hI.out.2 t ht
            · have : t = ks[i] := by simpa using ht
              rw [this]; exact h0)
          rw [h0] at HP
          clear h0 hs1 hs2 hss
          go_wp2_with fail
          refine (HP.out).mono ?_
          rintro e w5 ⟨rfl, u5⟩
          have H5 := Hid.of (hI.out.1.trans u5)
          have Hu5 := Hid.of u5
          clear u5
          dsimp only
          go_wp2
          go_roundw
          case rel => exact ⟨i + 1, by go_num, by omega, H5.out, HI2.out⟩
          case measure => simp [intOf]; omega
        · have h0z : (pkE ks[i] != 0) = true := by rw [bne_iff_ne]; exact h0
          have HF := Hid.of (show pkE ks[i] = (if 4096 < ks.length then 2 else kE ks) ∧ pkE ks[i] ≠ 0 from ⟨by rw [HE.out]; exact (kE_at hil hI.out.2 h0).symm, h0⟩)
          clear h0 hs1 hs2 hss
          generalize pkE ks[i] = er at *
          go_wp2_with fail
          refine (HP.out).mono ?_
          rintro e w5 ⟨rfl, u5⟩
          have H5 := Hid.of (hI.out.1.trans u5)
          have Hu5 := Hid.of u5
          clear u5
          dsimp only
          go_wp2
          go_ret2
          exact ⟨_, er, [], rfl, HF.out.1, fun _ => rfl, fun h => absurd h HF.out.2, ownS_nil _ _, H5.out⟩
      · have hltz : ¬ (i : Int) < (n : Int) := by omega
        have hin : i = n := by omega
        have HGD := Hid.of (show ∀ s ∈ ks, pkE s = 0 from fun s hs => by
          have h1 := hI.out.2
          rw [hin, List.take_of_length_le (by rw [HN.out]; exact Nat.le_refl _)] at h1
          exact h1 s hs)
        have HI0 := Hid.of (show QS w wb (.slice none 0 0) ks 0 from ⟨[], ownS_nil _ _, List.Pairwise.nil, by simp, hI.out.1⟩)
        clear hin hlt hI

        go_wp2
        go_loopw [9, 10, 11, 12] (fun v9 v10 _ _ wr => ∃ i : Nat, v10 = .int .i64 (i : Int) ∧ i ≤ n ∧ Hid (QS w wr v9 ks i)) (fun _ v10 _ _ _ => n - (intOf v10).toNat)
        case atStart => exact ⟨0, rfl, by omega, HI0⟩
        case round =>
          obtain ⟨i, rfl, hi, hI⟩ := hrel
          obtain ⟨wb2, hwb2⟩ : ∃ wb2, wb2 = wr := ⟨_, rfl⟩
          subst hwb2
          obtain ⟨ls, o1, o2, o3, o4⟩ := hI.out
          have hll := perm_len o3 (by rw [HN.out]; exact hi)
          have HO := Hid.of (And.intro o1 (And.intro o2 (And.intro o3 o4)))
          clear o1 o2 o3 o4 hI
          by_cases hlt : i < n
          · have hltz : (i : Int) < (n : Int) := by omega
            have hil : i < ks.length := by rw [HN.out]; exact hlt
            obtain ⟨b, off, rfl, hc⟩ := (HS.out.up HO.out.2.2.2).get hil
            go_wp2_with (with_reducible show wpList _ _ _ ({ dst := _, op := Op.call { callee := Callee.builtin Builtin.append, args := _, argTypes := _ }, type := _, pos := _, after := _, guard := _ } :: _) _ _; refine Shut.out ?_)
            show wpList _ _ _ _ _ _
            refine wpList_appS rfl _ _ rfl w.heap.size _ ls ks[i] rfl (by exact HO.out.1) 1 rfl (by omega) HO.out.2.2.2.size ?_
            intro v' w3 h3 k3
            obtain ⟨g, cap, hv, hBg, _, hcap, _, _⟩ := h3.row (by simp)
            have hlen : (ls ++ [ks[i]]).length = i + 1 := by rw [List.length_append, hll]; rfl
            rw [hlen] at hv hcap
            subst hv
            have hcapz : ((i + 1 : Nat) : Int) ≤ (cap : Int) := by omega
            have HI3 := Hid.of (show IS w w3 g cap i ks i from ⟨ls, ks[i], [], hll, h3, by rw [List.append_nil]; exact HO.out.2.1, (fun b hb => by cases hb), by
              rw [List.take_add_one, List.getElem?_eq_getElem hil]
              exact List.Perm.append_right _ HO.out.2.2.1, HO.out.2.2.2.step (Nat.le_refl _) k3⟩)
            have HBG := Hid.of hBg
            have hib : i ≤ 4096 := by omega
            clear h3 k3 hlen hBg HO hll hc
            simp only [Act.put, List.setIfInBounds_toArray, List.set_cons_zero, List.set_cons_succ]
            go_wp2
            go_loopw [11, 12] (fun v11 _ wr => ∃ j : Nat, v11 = .int .i64 (j : Int) ∧ j ≤ i ∧ Hid (IS w wr g cap i ks j)) (fun v11 _ _ => (intOf v11).toNat)
            case atStart => exact ⟨i, rfl, Nat.le_refl _, HI3⟩
            case round =>
              obtain ⟨j, rfl, hj, hJ⟩ := hrel
              obtain ⟨wc, hwc⟩ : ∃ wc, wc = wr := ⟨_, rfl⟩
              subst hwc
              by_cases hj0 : 0 < j
              · obtain ⟨A0, xx, C, q1, q2, q3, q4, q5, q6⟩ := hJ.out
                obtain ⟨A, yy, rfl⟩ : ∃ A yy, A0 = A ++ [yy] := by
                  rcases List.eq_nil_or_concat A0 with h | ⟨A, y, h⟩
                  · rw [h] at q1; simp at q1; omega
                  · exact ⟨A, y, by simpa using h⟩
                obtain ⟨q, hq⟩ : ∃ q, A.length = q := ⟨_, rfl⟩
                have hjq : j = q + 1 := by rw [← q1, List.length_append, hq]; rfl
                have HIJ := Hid.of (show (j : Int) - 1 = (q : Int) by omega)
                have hat := ins_at A C xx yy
                rw [hq] at hat
                obtain ⟨g', cap', hv', _, _, _, hcl, hfz⟩ := q2.row (by simp)
                have hg' : g = g' := by
                  simp only [Value.slice.injEq, Option.some.injEq, Addr.mk.injEq, and_true] at hv'
                  exact hv'.1
                subst hg'
                have hlL := perm_len q5 (by rw [HN.out]; omega)
                have hjl : j < (A ++ [yy] ++ xx :: C).length := by omega
                have hql : q < (A ++ [yy] ++ xx :: C).length := by omega
                have c1 := hcl j hjl
                have c2 := hcl q hql
                rw [show (A ++ [yy] ++ xx :: C)[j] = xx by have := hat.1; rw [← hjq, List.getElem?_eq_getElem hjl] at this; exact Option.some.inj this] at c1
                rw [show (A ++ [yy] ++ xx :: C)[q] = yy by have := hat.2; rw [List.getElem?_eq_getElem hql] at this; exact Option.some.inj this] at c2
                have f1 := hfz j
                have f2 := hfz q
                have hmx : pkE xx = 0 ∧ xx.length ≤ 1048576 := by
                  have h1 := List.mem_of_mem_take (q5.mem_iff.1 (show xx ∈ A ++ [yy] ++ xx :: C by simp))
                  exact ⟨HGD.out _ h1, HSZ.out _ h1⟩
                have hmy : pkE yy = 0 ∧ yy.length ≤ 1048576 := by
                  have h1 := List.mem_of_mem_take (q5.mem_iff.1 (show yy ∈ A ++ [yy] ++ xx :: C by simp))
                  exact ⟨HGD.out _ h1, HSZ.out _ h1⟩
                obtain ⟨x, hx1, hx2⟩ := ba_of xx
                obtain ⟨y, hy1, hy2⟩ := ba_of yy
                rw [← hx1, len_of] at hmx
                rw [← hy1, len_of] at hmy
                have HB := fun w' => Hid.of (Before_walk x y hmx.2 hmy.2 hmx.1 hmy.1 w')
                rw [hx1, hy1] at HB
                obtain ⟨bb, hbb⟩ : ∃ bb, decide (kcm xx yy < 0) = bb := ⟨_, rfl⟩
                rw [hbb] at HB
                have HBB := Hid.of hbb
                have hnz : True := trivial
                rw [hx2] at c1
                rw [hy2] at c2
                have HX := Hid.of (And.intro c1 c2)
                have HZ := Hid.of (And.intro q2 (And.intro q3 (And.intro q4 (And.intro q5 q6))))
                have HF := Hid.of (And.intro f1 f2)
                have HXY := Hid.of (And.intro hx2 hy2)
                have HQ := Hid.of (And.intro hq (And.intro hjq hlL))
                have hjn : (j : Int) < (i : Int) + 1 := by omega
                have hqn : (q : Int) < (i : Int) + 1 := by omega
                clear c1 c2 f1 f2 q1 q2 q3 q4 q5 q6 hmx hmy hx1 hx2 hy1 hy2 hq hjq hat hcl hfz hjl hql hlL hv' hJ hbb
                have hj0z : (0 : Int) < (j : Int) := by omega
                go_wp2
                refine wp_region_held_drew (S := fun w5 => Up wc w5) (by kernel_rfl) ((Up.refl wc).drew) (fun hS => ?_)
                refine wpAnyH_take (i := 0) (oi := { dst := some 56, op := Go.Op.move (Go.Operand.tmp 9), type := 22, pos := "order.go:129", after := #[], guard := none }) (v := .slice (some ⟨g, 0, none⟩) (i + 1) cap) rfl (by kernel_rfl) (by kernel_rfl) (by kernel_rfl) (fun _ _ _ h => h) (Or.inl ⟨by kernel_rfl, ?_⟩) hS ?_
                · intro w5 hSw
                  go_simp
                simp only [Act.put, List.setIfInBounds_toArray, List.set_cons_zero, List.set_cons_succ]
                refine wpAnyH_take (i := 1) (oi := { dst := some 57, op := Go.Op.move (Go.Operand.tmp 11), type := 3, pos := "order.go:129", after := #[], guard := none }) (v := .int .i64 (j : Int)) rfl (by kernel_rfl) (by kernel_rfl) (by kernel_rfl) (fun _ _ _ h => h) (Or.inl ⟨by kernel_rfl, ?_⟩) hS ?_
                · intro w5 hSw
                  go_simp
                simp only [Act.put, List.setIfInBounds_toArray, List.set_cons_zero, List.set_cons_succ]
                refine wpAnyH_take (i := 2) (oi := { dst := some 58, op := Go.Op.indexAddr 22 (Go.Operand.tmp 56) (Go.Operand.tmp 57), type := 0, pos := "order.go:129", after := #[{ on := 0, ground := Go.Ground.data }, { on := 1, ground := Go.Ground.data }], guard := none }) (v := .pointer (some ⟨g, j, none⟩)) rfl (by kernel_rfl) (by kernel_rfl) (by kernel_rfl) (fun _ _ _ h => h) (Or.inl ⟨by kernel_rfl, ?_⟩) hS ?_
                · intro w5 hSw
                  go_simp
                simp only [Act.put, List.setIfInBounds_toArray, List.set_cons_zero, List.set_cons_succ]
                refine wpAnyH_take (i := 3) (oi := { dst := some 59, op := Go.Op.load 9 (Go.Operand.tmp 58), type := 9, pos := "order.go:129", after := #[{ on := 2, ground := Go.Ground.data }], guard := none }) (v := .string x) rfl (by kernel_rfl) (by kernel_rfl) (by kernel_rfl) (fun _ _ _ h => h) (Or.inl ⟨by kernel_rfl, ?_⟩) hS ?_
                · intro w5 hSw
                  have hq := hSw.cell HX.out.1
                  go_simp
                simp only [Act.put, List.setIfInBounds_toArray, List.set_cons_zero, List.set_cons_succ]
                refine wpAnyH_take (i := 4) (oi := { dst := some 60, op := Go.Op.move (Go.Operand.tmp 9), type := 22, pos := "order.go:129", after := #[], guard := none }) (v := .slice (some ⟨g, 0, none⟩) (i + 1) cap) rfl (by kernel_rfl) (by kernel_rfl) (by kernel_rfl) (fun _ _ _ h => h) (Or.inl ⟨by kernel_rfl, ?_⟩) hS ?_
                · intro w5 hSw
                  go_simp
                simp only [Act.put, List.setIfInBounds_toArray, List.set_cons_zero, List.set_cons_succ]
                refine wpAnyH_take (i := 5) (oi := { dst := some 61, op := Go.Op.move (Go.Operand.tmp 11), type := 3, pos := "order.go:129", after := #[], guard := none }) (v := .int .i64 (j : Int)) rfl (by kernel_rfl) (by kernel_rfl) (by kernel_rfl) (fun _ _ _ h => h) (Or.inl ⟨by kernel_rfl, ?_⟩) hS ?_
                · intro w5 hSw
                  go_simp
                simp only [Act.put, List.setIfInBounds_toArray, List.set_cons_zero, List.set_cons_succ]
                refine wpAnyH_take (i := 6) (oi := { dst := some 62, op := Go.Op.binOp Go.BinOp.sub 3 (Go.Operand.tmp 61) (Go.Operand.const (Go.Value.int Go.IntKind.i64 1)) 3, type := 3, pos := "order.go:129", after := #[{ on := 5, ground := Go.Ground.data }], guard := none }) (v := .int .i64 (q : Int)) rfl (by kernel_rfl) (by kernel_rfl) (by kernel_rfl) (fun _ _ _ h => h) (Or.inl ⟨by kernel_rfl, ?_⟩) hS ?_
                · intro w5 hSw
                  rw [← HIJ.out]
                  go_simp
                  rw [HIJ.out]; simp [IntKind.wrap, IntKind.bits, IntKind.signed]; omega
                simp only [Act.put, List.setIfInBounds_toArray, List.set_cons_zero, List.set_cons_succ]
                refine wpAnyH_take (i := 7) (oi := { dst := some 63, op := Go.Op.indexAddr 22 (Go.Operand.tmp 60) (Go.Operand.tmp 62), type := 0, pos := "order.go:129", after := #[{ on := 4, ground := Go.Ground.data }, { on := 6, ground := Go.Ground.data }], guard := none }) (v := .pointer (some ⟨g, q, none⟩)) rfl (by kernel_rfl) (by kernel_rfl) (by kernel_rfl) (fun _ _ _ h => h) (Or.inl ⟨by kernel_rfl, ?_⟩) hS ?_
                · intro w5 hSw
                  go_simp
                simp only [Act.put, List.setIfInBounds_toArray, List.set_cons_zero, List.set_cons_succ]
                refine wpAnyH_take (i := 8) (oi := { dst := some 64, op := Go.Op.load 9 (Go.Operand.tmp 63), type := 9, pos := "order.go:129", after := #[{ on := 7, ground := Go.Ground.data }], guard := none }) (v := .string y) rfl (by kernel_rfl) (by kernel_rfl) (by kernel_rfl) (fun _ _ _ h => h) (Or.inl ⟨by kernel_rfl, ?_⟩) hS ?_
                · intro w5 hSw
                  have hq := hSw.cell HX.out.2
                  go_simp
                simp only [Act.put, List.setIfInBounds_toArray, List.set_cons_zero, List.set_cons_succ]
                refine wpAnyH_ready (rs := [9]) (by kernel_rfl) (by simp) ?_
                refine AllReadyH.cons (o := { dst := some 65, op := Go.Op.call { callee := Go.Callee.value (Go.Operand.func 35), args := #[Go.Operand.tmp 59, Go.Operand.tmp 64], argTypes := #[9, 9] }, type := 4, pos := "order.go:129", after := #[{ on := 3, ground := Go.Ground.data }, { on := 8, ground := Go.Ground.data }], guard := none }) rfl (fun K hK => ?_) AllReadyH.nil
                rw [if_pos (by kernel_rfl)]
                go_simp
                refine (HB _).out.mono ?_
                rintro e v1 ⟨rfl, u1⟩
                dsimp only
                refine hK.out _ _ (hS.trans u1) (fun hS1 => ?_)
                clear hK hS
                refine wpAnyH_ready (rs := [10]) (by kernel_rfl) (by simp) ?_
                refine AllReadyH.cons (o := { dst := some 66, op := Go.Op.unOp Go.UnOp.not 4 (Go.Operand.tmp 65), type := 4, pos := "order.go:129", after := #[{ on := 9, ground := Go.Ground.data }], guard := none }) rfl (fun K hK => ?_) AllReadyH.nil
                rw [if_pos (by kernel_rfl)]
                go_simp
                refine hK.out _ _ hS1 (fun hS2 => ?_)
                clear hK hS1
                refine wpAnyH_done (by kernel_rfl) ?_ _
                have H4 := Hid.of hS2
                clear hS2
                cases bb with
                | true =>
                  have hb : kcm xx yy < 0 := of_decide_eq_true HBB.out
                  have HO4 := Hid.of (HZ.out.1.up H4.out)
                  have HU4 := Hid.of (HZ.out.2.2.2.2.trans H4.out)
                  have c1 := H4.out.cell HX.out.1
                  have c2 := H4.out.cell HX.out.2
                  obtain ⟨g', cap', hv', _, _, _, _, hfz⟩ := HO4.out.row (by simp)
                  have hg' : g = g' := by
                    simp only [Value.slice.injEq, Option.some.injEq, Addr.mk.injEq, and_true] at hv'
                    exact hv'.1
                  subst hg'
                  have f1 := hfz j
                  have hjq := HQ.out.2.1
                  have hqn2 : q ≠ j := by omega
                  have HO5 := Hid.of (HO4.out.put HQ.out.2.2 j yy)
                  have HO6 := Hid.of (HO5.out.put (by rw [List.length_set]; exact HQ.out.2.2) q xx)
                  have hsw : ((A ++ [yy] ++ xx :: C).set j yy).set q xx = A ++ xx :: yy :: C := by
                    have := ins_swap A C xx yy
                    rw [HQ.out.1, ← hjq] at this
                    exact this
                  rw [hsw] at HO6
                  rw [HXY.out.2] at HO5 HO6
                  rw [HXY.out.1] at HO6
                  have HU6 := Hid.of ((HU4.out.by (grown_set v1 ⟨g, j, none⟩ (.string y)) (fun k hk => by have hk2 : g = k := (by injection hk); have := HBG.out; omega)).by (grown_set (v1.setCell ⟨g, j, none⟩ (.string y)) ⟨g, q, none⟩ (.string x)) (fun k hk => by have hk2 : g = k := (by injection hk); have := HBG.out; omega))
                  have HI6 := Hid.of (show IS w ((v1.setCell ⟨g, j, none⟩ (.string y)).setCell ⟨g, q, none⟩ (.string x)) g cap i ks q from ⟨A, xx, yy :: C, HQ.out.1, HO6.out, by
                    have := HZ.out.2.1
                    rwa [List.append_assoc] at this, fun b hb2 => by
                    rcases List.mem_cons.1 hb2 with rfl | hb2
                    · show kcm xx b ≤ 0
                      omega
                    · exact HZ.out.2.2.1 b hb2, by
                    refine List.Perm.trans ?_ HZ.out.2.2.2.1
                    rw [List.append_assoc]
                    exact List.Perm.append_left A (List.Perm.swap yy xx C), HU6.out⟩)
                  obtain ⟨g5, cap5, hv5, _, _, _, hcl5, hfz5⟩ := HO5.out.row (by simp)
                  have hg5 : g = g5 := by
                    simp only [Value.slice.injEq, Option.some.injEq, Addr.mk.injEq, and_true] at hv5
                    exact hv5.1
                  subst hg5
                  have d2 : (v1.setCell ⟨g, j, none⟩ (.string y)).cell? ⟨g, q, none⟩ = some (.string y) := by
                    rw [World.cell?_setCell_other _ _ _ _ (by intro e; simp only [Addr.mk.injEq] at e; omega)]
                    exact c2
                  have e2 := hfz5 q
                  have hij := HIJ.out
                  have hwq : IntKind.i64.wrap (q : Int) = (q : Int) := by simp [IntKind.wrap, IntKind.bits, IntKind.signed]; omega
                  clear hcl5 hfz5 hv5 hfz hv' hsw hb hjq hqn2 HO5 HO6 HU6 hnz
                  go_wp2
                  go_roundw
                  case rel => exact ⟨q, rfl, by have := HQ.out.2.1; omega, HI6.out⟩
                  case measure => have := HQ.out.2.1; simp [intOf]; omega
                | false =>
                  have hb : ¬ kcm xx yy < 0 := of_decide_eq_false HBB.out
                  have HST := Hid.of (show QS w v1 (.slice (some ⟨g, 0, none⟩) (i + 1) cap) ks (i + 1) from ⟨_, HZ.out.1.up H4.out, ins_stop HZ.out.2.1 HZ.out.2.2.1 hb, HZ.out.2.2.2.1, HZ.out.2.2.2.2.trans H4.out⟩)
                  clear hb hnz
                  go_wp2
                  go_roundw
                  case rel => exact ⟨i + 1, by go_num, by omega, HST.out⟩
                  case measure => simp [intOf]; omega
              · obtain rfl : j = 0 := by omega
                have HST := Hid.of (show QS w wc (.slice (some ⟨g, 0, none⟩) (i + 1) cap) ks (i + 1) from by
                  obtain ⟨A, xx, C, q1, q2, q3, q4, q5, q6⟩ := hJ.out
                  have hA : A = [] := List.eq_nil_of_length_eq_zero q1
                  subst hA
                  exact ⟨_, q2, ins_nil q3 q4, q5, q6⟩)
                clear hJ hj hj0
                go_wp2
                go_roundw
                case rel => exact ⟨i + 1, by go_num, by omega, HST.out⟩
                case measure => simp [intOf]; omega
          · have hltz : ¬ (i : Int) < (n : Int) := by omega
            have hin : i = n := by omega
            have HPM := Hid.of (show List.Perm ls ks by
              have h1 := HO.out.2.2.1
              rwa [hin, List.take_of_length_le (by rw [HN.out]; exact Nat.le_refl _)] at h1)
            clear hin
            go_wp2
            go_ret2
            exact ⟨_, 0, ls, rfl, by rw [HE.out, kE_all HGD.out], fun h => absurd rfl h, fun _ => ⟨HPM.out, HO.out.2.1⟩, HO.out.1, HO.out.2.2.2⟩
end Go.Proofs.YtnciglpdjpckiaaGreatDoor
namespace Go.Proofs.YtnciglpdjpckiaaGreatDoor
open Go.RowKit Go.Shelf TextNum ModNum
theorem tl_eqS (q : ByteArray) : (q.toList == q.toList) = true := beq_self_eq_true _
set_option maxRecDepth 100000 in
set_option maxHeartbeats 1000000 in
theorem same_yes (v1 v2 : Value) (xs : List (List UInt8)) (hx : xs.length ≤ 1099511627776) (w : World) (h1 : SlS w v1 xs) (h2 : SlS w v2 xs) : Calls Tryz.prog 15 #[v1, v2] w fun e w' => e = .returned (.bool true) ∧ Up w w' := by
  have H1 := Hid.of h1
  have H2 := Hid.of h2
  obtain ⟨a1, c1, rfl, hc1, _⟩ := id h1
  obtain ⟨a2, c2, rfl, hc2, _⟩ := id h2
  obtain ⟨n, hn⟩ : ∃ n, xs.length = n := ⟨_, rfl⟩
  have HN := Hid.of hn
  rw [hn] at hc1 hc2 hx H1 H2 ⊢
  have hc1z : (n : Int) ≤ (c1 : Int) := by omega
  have hc2z : (n : Int) ≤ (c2 : Int) := by omega
  clear h1 h2 hn
  go_enter Tryz.func15, Tryz.ntmps15
  go_wp2
  go_loopw [5] (fun v5 wr => ∃ i : Nat, v5 = .int .i64 (i : Int) ∧ i ≤ n ∧ Hid (Up w wr)) (fun v5 _ => n - (intOf v5).toNat)
  case atStart => exact ⟨0, rfl, by omega, Up.refl _⟩
  case round =>
    obtain ⟨i, rfl, hi, hI⟩ := hrel
    obtain ⟨wb, hwb⟩ : ∃ wb, wb = wr := ⟨_, rfl⟩
    subst hwb
    by_cases hlt : i < n
    · have hltz : (i : Int) < (n : Int) := by omega
      have hil : i < xs.length := by rw [HN.out]; exact hlt
      obtain ⟨b1, o1, rfl, k1⟩ := (H1.out.up hI.out).get hil
      obtain ⟨b2, o2, rfl, k2⟩ := (H2.out.up hI.out).get hil
      obtain ⟨x, hx1, hx2⟩ := ba_of xs[i]
      rw [hx2] at k1 k2
      have hq := tl_eqS x
      clear hx1 hx2
      go_wp2
      go_quiet (fail)
      go_wp2
      go_roundw
      case rel => exact ⟨i + 1, by go_num, by omega, hI.out.drewN _⟩
      case measure => simp [intOf]; omega
    · have hltz : ¬ (i : Int) < (n : Int) := by omega
      go_wp2
      go_ret
      exact ⟨rfl, hI.out⟩
end Go.Proofs.YtnciglpdjpckiaaGreatDoor
namespace Go.Proofs.YtnciglpdjpckiaaGreatDoor
open Go.RowKit Go.Shelf TextNum ModNum
/-- what is appended to may be read as it was, too -/
theorem app_both {w : World} (base : Nat) (t ty e : TypeId) (i : TypeInfo) (z : Value) (size bytes : Nat) (ht : Tryz.prog.underlying t = some (.slice e)) (hi : Tryz.prog.info? e = some i) (hz : i.zero = some z)
    (hsize : i.size = size) (hby : i.bytes = bytes) (hzs : z.cells.size = size) (hsz : 0 < size)
    (v : Value) (n : Nat) (xs : List Value) (hown : w.ownsRow base e size v n xs)
    (a : Addr) (m c : Nat) (news : List Value) (hl : news.length = m * size) (hnews : ∀ j u, news[j]? = some u → w.cell? (a.add j) = some u) (h1 : ∀ u ∈ news, u.oneCell' = true)
    (h63 : n + m ≤ maxLen) (hbytes : (n + m) * bytes ≤ 140737488355328) (hbase : base ≤ w.heap.size) :
    ∃ v' w', (Builtin.append_ #[t, t] ty #[v, .slice (some a) m c]).run Tryz.prog w = .ok v' w' ∧ w'.ownsRow base e size v' (n + m) (xs ++ news) ∧ w.grownBy w' v.ownBlock ∧ w'.ownsRow base e size v n xs ∧ (v'.ownBlock = v.ownBlock ∨ ∀ g, v'.ownBlock = some g → w.heap.size ≤ g) := by
  obtain ⟨v', w', hr, ho, hg, hnn⟩ := run_append_own (P := Tryz.prog) w base t ty e i z size bytes ht hi hz hsize hby hzs hsz v n xs hown a m c news hl hnews h1 h63 hbytes hbase
  refine ⟨v', w', hr, ho, hg, ?_⟩
  subst hsize
  subst hby
  have hsmall : n + m ≤ 9223372036854775807 := by simp only [maxLen] at h63; omega
  rcases hown.2 with ⟨rfl, rfl⟩ | ⟨g, cap, cur, rfl, hbg, hgx, hnc, hcm, hcs, htake⟩
  · have hx : xs = [] := List.eq_nil_of_length_eq_zero (by simpa using hown.1)
    subst hx
    refine ⟨World.ownsRow_nil w' base e i.size, ?_⟩
    by_cases hm : m = 0
    · exact .inl (by rw [hnn.2 ⟨rfl, hm⟩])
    · have hr2 := run_append_nil (P := Tryz.prog) w t ty e i z ht hi hz a m c news hl hnews (by omega) (by omega) (by have hb := hbytes; simp only [Nat.zero_add] at hb; omega)
      rw [hr2] at hr
      injection hr with hr3 hr4
      subst hr3
      refine .inr fun g hg' => ?_
      obtain rfl : w.heap.size = g := Option.some.inj hg'
      exact Nat.le_refl _
  · by_cases hroom : n + m ≤ cap
    · have hfit : n * i.size + news.length ≤ cur.size := by rw [hl, hcs, ← Nat.add_mul]; exact Nat.mul_le_mul_right _ hroom
      have hr2 := run_append_room (P := Tryz.prog) w t ty e i ht hi g n cap cur hgx a m c news hl hnews h1 hroom hfit
      rw [hr2] at hr
      injection hr with hr3 hr4
      subst hr3
      subst hr4
      refine ⟨⟨hown.1, .inr ⟨g, cap, _, rfl, hbg, setRow_heap w g cur _ e _ hgx, hnc, hcm, ?_, ?_⟩⟩, .inl rfl⟩
      · simp only [List.size_toArray, List.length_append, List.length_take, List.length_drop, Array.length_toList]
        omega
      · rw [htake, List.append_assoc, ← hown.1]
        exact List.take_left
    · have holds : ∀ j u, xs[j]? = some u → w.cell? ((⟨g, 0, none⟩ : Addr).add j) = some u := hown.cells (g := g) rfl
      have hr2 := run_append_grow (P := Tryz.prog) w t ty e i z ht hi hz ⟨g, 0, none⟩ n cap xs hown.1 holds a m c news hl hnews (by omega) (by omega) (growslice_fits (by omega) hbytes)
      rw [hr2] at hr
      injection hr with hr3 hr4
      subst hr3
      subst hr4
      refine ⟨World.ownsRow.kept hown (row := none) ⟨rfl, rfl, rfl, by simp, fun k hk _ => heap_alloc_old w.drew _ hk⟩ (.inr (by simp [Value.ownBlock])), .inr fun g' hg' => ?_⟩
      obtain rfl : w.heap.size = g' := Option.some.inj hg'
      exact Nat.le_refl _
/-- the marks behind a list -/
def mkj (j : Nat) : List UInt8 := [101, UInt8.ofNat j]
def mks (n : Nat) : List (List UInt8) := (List.range n).map mkj
theorem mks_len (n : Nat) : (mks n).length = n := by simp [mks]
theorem mks_succ (n : Nat) : mks (n + 1) = mks n ++ [mkj n] := by simp [mks, List.range_succ]
theorem mks_get {n j : Nat} (h : j < n) : (mks n)[j]'(by rw [mks_len]; exact h) = mkj j := by simp [mks]
theorem wrap_u8 (j : Nat) : IntKind.u8.wrap (j : Int) = ((UInt8.ofNat j).toNat : Int) := by
  rw [UInt8.toNat_ofNat']
  simp only [IntKind.wrap, IntKind.bits, IntKind.signed]
  simp
theorem conv_two (x y : UInt8) (w : World) : (convert 42 9 (.slice (some ⟨w.heap.size, 0, none⟩) 2 2)).run Tryz.prog (w.alloc (.cells #[.int .u8 (x.toNat : Int), .int .u8 (y.toNat : Int)] 5)) = .ok (.string ⟨[x, y].toArray⟩) (w.alloc (.cells #[.int .u8 (x.toNat : Int), .int .u8 (y.toNat : Int)] 5)) := by
  refine conv_sl (w := w.alloc (.cells #[.int .u8 (x.toNat : Int), .int .u8 (y.toNat : Int)] 5)) (l := [x, y]) ⟨_, _, rfl, Nat.le_refl _, .inr ⟨w.heap.size, 0, rfl, by simp, fun i hi => ?_⟩⟩
  obtain rfl | rfl : i = 0 ∨ i = 1 := by simp at hi; omega
  · exact (at_new w 5 [.int .u8 (x.toNat : Int), .int .u8 (y.toNat : Int)]).cell (i := 0) rfl
  · exact (at_new w 5 [.int .u8 (x.toNat : Int), .int .u8 (y.toNat : Int)]).cell (i := 1) rfl
theorem conv_twoD (x y : UInt8) (w : World) : (convert 42 9 (.slice (some ⟨w.heap.size, 0, none⟩) 2 2)).run Tryz.prog (w.alloc (.cells #[.int .u8 (x.toNat : Int), .int .u8 (y.toNat : Int)] 5)).drew = .ok (.string ⟨[x, y].toArray⟩) (w.alloc (.cells #[.int .u8 (x.toNat : Int), .int .u8 (y.toNat : Int)] 5)).drew := by
  refine conv_sl (w := (w.alloc (.cells #[.int .u8 (x.toNat : Int), .int .u8 (y.toNat : Int)] 5)).drew) (l := [x, y]) ⟨_, _, rfl, Nat.le_refl _, .inr ⟨w.heap.size, 0, rfl, by simp, fun i hi => ?_⟩⟩
  obtain rfl | rfl : i = 0 ∨ i = 1 := by simp at hi; omega
  · exact (at_new w 5 [.int .u8 (x.toNat : Int), .int .u8 (y.toNat : Int)]).cell (i := 0) rfl
  · exact (at_new w 5 [.int .u8 (x.toNat : Int), .int .u8 (y.toNat : Int)]).cell (i := 1) rfl
theorem SlS.pre {w : World} {a : Option Addr} {m c : Nat} {xs ys : List (List UInt8)} (h : SlS w (.slice a m c) (xs ++ ys)) : SlS w (.slice a xs.length c) xs := by
  obtain ⟨a', c', e, hc, hd⟩ := h
  simp only [Value.slice.injEq] at e
  obtain ⟨rfl, hm, rfl⟩ := e
  rw [List.length_append] at hc
  refine ⟨a, c, rfl, by omega, ?_⟩
  rcases hd with h1 | ⟨b, off, rfl, hb, hc2⟩
  · exact .inl (List.append_eq_nil_iff.1 h1).1
  · refine .inr ⟨b, off, rfl, hb, fun i hi => ?_⟩
    have := hc2 i (by rw [List.length_append]; omega)
    rw [this, List.getElem_append_left hi]
set_option maxRecDepth 100000 in
set_option maxHeartbeats 2000000 in
theorem kept_walk (v1 v2 : Value) (ks : List (List UInt8)) (hk : ks.length ≤ 1048576) (w : World) (h1 : SlS w v1 (ks ++ mks 300)) (h2 : SlS w v2 ks) : Calls Tryz.prog 16 #[v1, v2] w fun e w' => e = .returned (.bool true) ∧ Up w w' := by
  have H1 := Hid.of h1
  have H2 := Hid.of h2
  obtain ⟨a1, c1, rfl, hc1, _⟩ := id h1
  obtain ⟨a2, c2, rfl, hc2, _⟩ := id h2
  obtain ⟨n, hn⟩ : ∃ n, ks.length = n := ⟨_, rfl⟩
  have HN := Hid.of hn
  have hl : (ks ++ mks 300).length = n + 300 := by rw [List.length_append, mks_len, hn]
  rw [hl] at hc1 H1 ⊢
  rw [hn] at hc2 hk H2 ⊢
  have HPRE := Hid.of (show SlS w (.slice a1 n c1) ks by have := SlS.pre H1.out; rwa [HN.out] at this)
  have hc1z : (n : Int) + 300 ≤ (c1 : Int) := by omega
  have hc1y : (n : Int) ≤ (c1 : Int) := by omega
  have hc2z : (n : Int) ≤ (c2 : Int) := by omega
  clear h1 h2 hn hl
  go_enter Tryz.func16, Tryz.ntmps16
  go_wp2
  go_loopw [5] (fun v5 wr => ∃ j : Nat, v5 = .int .i64 (j : Int) ∧ j ≤ 300 ∧ Hid (Up w wr)) (fun v5 _ => 300 - (intOf v5).toNat)
  case atStart => exact ⟨0, rfl, by omega, Up.refl _⟩
  case round =>
    obtain ⟨j, rfl, hj, hI⟩ := hrel
    obtain ⟨wb, hwb⟩ : ∃ wb, wb = wr := ⟨_, rfl⟩
    subst hwb
    by_cases hlt : j < 300
    · have hltz : (j : Int) < 300 := by omega
      obtain ⟨t, ht⟩ : ∃ t, n + j = t := ⟨_, rfl⟩
      have HT := Hid.of (show (n : Int) + (j : Int) = (t : Int) by omega)
      have htl : t < (ks ++ mks 300).length := by rw [List.length_append, mks_len, HN.out]; omega
      have htz : (t : Int) < (n : Int) + 300 := by omega
      obtain ⟨b1, o1, rfl, hc⟩ := (H1.out.up hI.out).get htl
      have hget : (ks ++ mks 300)[t] = mkj j := by
        rw [List.getElem_append_right (by rw [HN.out]; omega)]
        have : t - ks.length = j := by rw [HN.out]; omega
        simp only [this]
        exact mks_get hlt
      rw [hget] at hc
      obtain ⟨q, hq1, hq2⟩ := ba_of (mkj j)
      rw [hq2] at hc
      have HC := Hid.of hc
      have hqq := tl_eq q
      have hcv := conv_twoD 101 (UInt8.ofNat j)
      rw [show (⟨[101, UInt8.ofNat j].toArray⟩ : ByteArray) = q from hq2, show (((101 : UInt8).toNat : Nat) : Int) = 101 from rfl] at hcv
      have hzw := wrap_u8 j
      generalize ((UInt8.ofNat j).toNat : Int) = z at *
      have HZ := Hid.of hzw
      clear hc hget hq1 hq2 htl ht
      go_wp2
      refine wp_region_held_drew (S := fun w2 => Up wb w2) (by kernel_rfl) ((Up.refl wb).drew) (fun hS => ?_)
      refine wpAnyH_take (i := 0) (oi := { dst := some 10, op := Go.Op.move (Go.Operand.tmp 0), type := 22, pos := "law.go:217", after := #[], guard := none }) (v := .slice (some ⟨b1, o1, none⟩) (n + 300) c1) rfl (by kernel_rfl) (by kernel_rfl) (by kernel_rfl) (fun _ _ _ h => h) (Or.inl ⟨by kernel_rfl, ?_⟩) hS ?_
      · intro w5 hSw
        go_simp
      simp only [Act.put, List.setIfInBounds_toArray, List.set_cons_zero, List.set_cons_succ]
      refine wpAnyH_take (i := 1) (oi := { dst := some 11, op := Go.Op.move (Go.Operand.tmp 1), type := 22, pos := "law.go:217", after := #[], guard := none }) (v := .slice a2 n c2) rfl (by kernel_rfl) (by kernel_rfl) (by kernel_rfl) (fun _ _ _ h => h) (Or.inl ⟨by kernel_rfl, ?_⟩) hS ?_
      · intro w5 hSw
        go_simp
      simp only [Act.put, List.setIfInBounds_toArray, List.set_cons_zero, List.set_cons_succ]
      refine wpAnyH_take (i := 2) (oi := { dst := some 12, op := Go.Op.call { callee := Go.Callee.builtin Go.Builtin.len, args := #[Go.Operand.tmp 11], argTypes := #[22] }, type := 3, pos := "law.go:217", after := #[{ on := 1, ground := Go.Ground.data }], guard := none }) (v := .int .i64 (n : Int)) rfl (by kernel_rfl) (by kernel_rfl) (by kernel_rfl) (fun _ _ _ h => h) (Or.inl ⟨by kernel_rfl, ?_⟩) hS ?_
      · intro w5 hSw
        go_simp
      simp only [Act.put, List.setIfInBounds_toArray, List.set_cons_zero, List.set_cons_succ]
      refine wpAnyH_take (i := 3) (oi := { dst := some 13, op := Go.Op.move (Go.Operand.tmp 5), type := 3, pos := "law.go:217", after := #[], guard := none }) (v := .int .i64 (j : Int)) rfl (by kernel_rfl) (by kernel_rfl) (by kernel_rfl) (fun _ _ _ h => h) (Or.inl ⟨by kernel_rfl, ?_⟩) hS ?_
      · intro w5 hSw
        go_simp
      simp only [Act.put, List.setIfInBounds_toArray, List.set_cons_zero, List.set_cons_succ]
      refine wpAnyH_take (i := 4) (oi := { dst := some 14, op := Go.Op.binOp Go.BinOp.add 3 (Go.Operand.tmp 12) (Go.Operand.tmp 13) 3, type := 3, pos := "law.go:217", after := #[{ on := 2, ground := Go.Ground.data }, { on := 3, ground := Go.Ground.data }], guard := none }) (v := .int .i64 (t : Int)) rfl (by kernel_rfl) (by kernel_rfl) (by kernel_rfl) (fun _ _ _ h => h) (Or.inl ⟨by kernel_rfl, ?_⟩) hS ?_
      · intro w5 hSw
        rw [← HT.out]
        go_simp
        rw [HT.out]; simp [IntKind.wrap, IntKind.bits, IntKind.signed]; omega
      simp only [Act.put, List.setIfInBounds_toArray, List.set_cons_zero, List.set_cons_succ]
      refine wpAnyH_take (i := 5) (oi := { dst := some 15, op := Go.Op.indexAddr 22 (Go.Operand.tmp 10) (Go.Operand.tmp 14), type := 0, pos := "law.go:217", after := #[{ on := 0, ground := Go.Ground.data }, { on := 4, ground := Go.Ground.data }], guard := none }) (v := .pointer (some ⟨b1, o1 + t, none⟩)) rfl (by kernel_rfl) (by kernel_rfl) (by kernel_rfl) (fun _ _ _ h => h) (Or.inl ⟨by kernel_rfl, ?_⟩) hS ?_
      · intro w5 hSw
        go_simp
      simp only [Act.put, List.setIfInBounds_toArray, List.set_cons_zero, List.set_cons_succ]
      refine wpAnyH_take (i := 6) (oi := { dst := some 16, op := Go.Op.load 9 (Go.Operand.tmp 15), type := 9, pos := "law.go:217", after := #[{ on := 5, ground := Go.Ground.data }], guard := none }) (v := .string q) rfl (by kernel_rfl) (by kernel_rfl) (by kernel_rfl) (fun _ _ _ h => h) (Or.inl ⟨by kernel_rfl, ?_⟩) hS ?_
      · intro w5 hSw
        have hq := hSw.cell HC.out
        go_simp
      simp only [Act.put, List.setIfInBounds_toArray, List.set_cons_zero, List.set_cons_succ]
      refine wpAnyH_take (i := 7) (oi := { dst := some 17, op := Go.Op.move (Go.Operand.tmp 5), type := 3, pos := "law.go:217", after := #[], guard := none }) (v := .int .i64 (j : Int)) rfl (by kernel_rfl) (by kernel_rfl) (by kernel_rfl) (fun _ _ _ h => h) (Or.inl ⟨by kernel_rfl, ?_⟩) hS ?_
      · intro w5 hSw
        go_simp
      simp only [Act.put, List.setIfInBounds_toArray, List.set_cons_zero, List.set_cons_succ]
      refine wpAnyH_take (i := 8) (oi := { dst := some 18, op := Go.Op.convert 3 5 (Go.Operand.tmp 17), type := 5, pos := "law.go:217", after := #[{ on := 7, ground := Go.Ground.data }], guard := none }) (v := .int .u8 z) rfl (by kernel_rfl) (by kernel_rfl) (by kernel_rfl) (fun _ _ _ h => h) (Or.inl ⟨by kernel_rfl, ?_⟩) hS ?_
      · intro w5 hSw
        go_simp
      simp only [Act.put, List.setIfInBounds_toArray, List.set_cons_zero, List.set_cons_succ]
      refine wpAnyH_ready (rs := [9]) (by kernel_rfl) (by simp) ?_
      refine AllReadyH.cons (o := { dst := some 19, op := Go.Op.buildSlice 42 2 #[(0, Go.Operand.const (Go.Value.int Go.IntKind.u8 101)), (1, Go.Operand.tmp 18)], type := 42, pos := "law.go:217", after := #[{ on := 8, ground := Go.Ground.data }], guard := none }) rfl (fun K hK => ?_) AllReadyH.nil
      rw [if_pos (by kernel_rfl)]
      go_simp
      refine hK.out _ _ (hS.alloc _) (fun hS1 => ?_)
      clear hK hS
      refine wpAnyH_ready (rs := [10]) (by kernel_rfl) (by simp) ?_
      refine AllReadyH.cons (o := { dst := some 20, op := Go.Op.convert 42 9 (Go.Operand.tmp 19), type := 9, pos := "law.go:217", after := #[{ on := 9, ground := Go.Ground.data }], guard := none }) rfl (fun K hK => ?_) AllReadyH.nil
      rw [if_pos (by kernel_rfl)]
      go_simp
      refine hK.out _ _ hS1 (fun hS2 => ?_)
      clear hK hS1
      refine wpAnyH_take (i := 11) (oi := { dst := some 21, op := Go.Op.binOp Go.BinOp.neq 9 (Go.Operand.tmp 16) (Go.Operand.tmp 20) 9, type := 4, pos := "law.go:217", after := #[{ on := 6, ground := Go.Ground.data }, { on := 10, ground := Go.Ground.data }], guard := none }) (v := .bool false) rfl (by kernel_rfl) (by kernel_rfl) (by kernel_rfl) (fun _ _ _ h => h) (Or.inl ⟨by kernel_rfl, ?_⟩) hS2 ?_
      · intro w5 hSw
        go_simp
      simp only [Act.put, List.setIfInBounds_toArray, List.set_cons_zero, List.set_cons_succ]
      refine wpAnyH_done (by kernel_rfl) ?_ _
      have H4 := Hid.of hS2
      clear hS2
      go_wp2
      go_roundw
      case rel => exact ⟨j + 1, by go_num, by omega, hI.out.trans H4.out⟩
      case measure => simp [intOf]; omega
    · have hltz : ¬ (j : Int) < 300 := by omega
      have HSM := Hid.of (same_yes (.slice a1 n c1) (.slice a2 n c2) ks (by rw [HN.out]; omega) wb (HPRE.out.up hI.out) (H2.out.up hI.out))
      go_wp2_with fail
      refine HSM.out.mono ?_
      rintro e w3 ⟨rfl, u3⟩
      have H3 := Hid.of (hI.out.trans u3)
      clear u3
      dsimp only
      go_wp2
      go_ret
      exact ⟨rfl, H3.out⟩
end Go.Proofs.YtnciglpdjpckiaaGreatDoor
namespace Go.Proofs.YtnciglpdjpckiaaGreatDoor
open Go.RowKit Go.Shelf TextNum ModNum
/-- an answer that is kept: the list, with one more, its mark, how long it was -/
structure HE where
  vl : Value
  vm : Value
  mt : List UInt8
  n : Nat
def hc3 (x : HE) : List Value := [x.vl, x.vm, .string ⟨x.mt.toArray⟩]
def hcs (l : List HE) : List Value := l.flatMap hc3
theorem hcs_len (l : List HE) : (hcs l).length = l.length * 3 := by
  induction l with
  | nil => rfl
  | cons x l ih => simp [hcs, hc3] at ih ⊢; omega
theorem hcs_app (l m : List HE) : hcs (l ++ m) = hcs l ++ hcs m := by simp [hcs]
theorem hcs_get : ∀ (ws : List HE) {i c : Nat} (hi : i < ws.length), c < 3 → (hcs ws)[i * 3 + c]? = (hc3 ws[i])[c]?
  | x :: r, 0, c, _, hc => by
    show (hc3 x ++ hcs r)[0 * 3 + c]? = _
    rw [Nat.zero_mul, Nat.zero_add, List.getElem?_append_left (by show c < 3; exact hc)]
    rfl
  | x :: r, i + 1, c, hi, hc => by
    have ih := hcs_get r (i := i) (c := c) (by simpa using hi) hc
    show (hc3 x ++ hcs r)[(i + 1) * 3 + c]? = _
    rw [List.getElem?_append_right (by show 3 ≤ _; omega), show (i + 1) * 3 + c - (hc3 x).length = i * 3 + c by show _ - 3 = _; omega, ih]
    rfl
/-- it is as it was left -/
def HK (w : World) (x : HE) : Prop := SlS w x.vl (List.replicate x.n x.mt) ∧ SlS w x.vm (List.replicate (x.n + 1) x.mt) ∧ x.n ≤ 4096
theorem HK.up {w w' : World} {x : HE} (h : HK w x) (u : Up w w') : HK w' x := ⟨h.1.up u, h.2.1.up u, h.2.2⟩
theorem exec_idxH {o : Oper} {ρ : Operand → Value} {x y : Operand} {w : World} {b n c : Nat} (i : Nat) (hi : i < n) (ho : o.op = .indexAddr 39 x y) (hx : ρ x = .slice (some ⟨b, 0, none⟩) n c) (hy : ρ y = .int .i64 (i : Int)) : (execOp ρ o).run Tryz.prog w = .ok (.value (.pointer (some ⟨b, i * 3, none⟩))) w := by
  have hi' : (i : Int) < (n : Int) := by omega
  unfold execOp
  simp only [ho, hx, hy]
  go_simp
abbrev z3h : List Value := [.slice none 0 0, .slice none 0 0, .string ⟨#[]⟩]
set_option maxRecDepth 100000 in
theorem infoH3 : (Tryz.prog.info? 45).map (·.size) = some 3 := by kernel_rfl
theorem SlS.shape3 {w : World} {v : Value} {xs : List (List UInt8)} (h : SlS w v xs) : ∃ a c, v = .slice a xs.length c ∧ xs.length ≤ c := by
  obtain ⟨a, c, e, hc, _⟩ := h
  exact ⟨a, c, e, hc⟩
theorem SlS.rep {w : World} {a : Option Addr} {m c n : Nat} {x : List UInt8} {q : ByteArray} (hq : (⟨x.toArray⟩ : ByteArray) = q) (h : SlS w (.slice a m c) (List.replicate n x)) {i : Nat} (hi : i < n) : ∃ b off, a = some ⟨b, off, none⟩ ∧ w.cell? ⟨b, off + i, none⟩ = some (.string q) := by
  obtain ⟨b, off, e, hc⟩ := h.get (i := i) (by simpa using hi)
  rw [List.getElem_replicate, hq] at hc
  exact ⟨b, off, e, hc⟩
set_option maxRecDepth 100000 in
set_option maxHeartbeats 4000000 in
theorem marked_walk (B : Nat) (v : Value) (xs : List HE) (hx : xs.length ≤ 1048576) (w : World) (hO : w.ownsRow B 45 3 v xs.length (hcs xs)) (hK : ∀ x ∈ xs, HK w x) : Calls Tryz.prog 17 #[v] w fun e w' => e = .returned (.bool true) ∧ Up w w' := by
  obtain ⟨n, hn⟩ : ∃ n, xs.length = n := ⟨_, rfl⟩
  have HN := Hid.of hn
  have HKK := Hid.of hK
  rw [hn] at hO hx
  obtain ⟨a, c, rfl, hc, hrow⟩ : ∃ a c, v = .slice a n c ∧ n ≤ c ∧ ∀ i (hi : i < n), ∃ g, a = some ⟨g, 0, none⟩ ∧ w.rangeAt g (i * 3) (hc3 (xs[i]'(by rw [HN.out]; exact hi))) := by
    rcases hO.2 with ⟨rfl, h0⟩ | ⟨g, cap, cur, rfl, hb, hg, hnc, _⟩
    · subst h0
      exact ⟨none, 0, rfl, Nat.le_refl _, fun i hi => absurd hi (Nat.not_lt_zero _)⟩
    · refine ⟨_, cap, rfl, hnc, fun i hi => ⟨g, rfl, fun j u hu => ?_⟩⟩
      have hj : j < 3 := (List.getElem?_eq_some_iff.1 hu).1
      have := World.ownsRow.cells hO (g := g) rfl (i * 3 + j) u (by rw [hcs_get xs (by rw [HN.out]; exact hi) hj]; exact hu)
      rwa [add_plain, Nat.zero_add] at this
  have HROW := Hid.of hrow
  have hcz : (n : Int) ≤ (c : Int) := by omega
  clear hO hK hrow hn
  go_enter Tryz.func17, Tryz.ntmps17
  go_wp2
  go_loopw [3, 4, 5] (fun v3 _ _ wr => ∃ i : Nat, v3 = .int .i64 (i : Int) ∧ i ≤ n ∧ Hid (Up w wr)) (fun v3 _ _ _ => n - (intOf v3).toNat)
  case atStart => exact ⟨0, rfl, by omega, Up.refl _⟩
  case round =>
    obtain ⟨i, rfl, hi, hI⟩ := hrel
    obtain ⟨wb, hwb⟩ : ∃ wb, wb = wr := ⟨_, rfl⟩
    subst hwb
    by_cases hlt : i < n
    · have hltz : (i : Int) < (n : Int) := by omega
      obtain ⟨g, rfl, hrg⟩ := HROW.out i hlt
      have HRG := Hid.of (range_up hrg hI.out)
      have hkx := (HKK.out _ (List.getElem_mem (show i < xs.length by rw [HN.out]; exact hlt)))
      generalize xs[i]'(by rw [HN.out]; exact hlt) = x at *
      obtain ⟨vl, vm, mk, m⟩ := x
      obtain ⟨q, hq1, hq2⟩ := ba_of mk
      have hc3e : hc3 ⟨vl, vm, mk, m⟩ = [vl, vm, .string q] := by unfold hc3; rw [hq2]
      rw [hc3e] at HRG
      have hKL : SlS w vl (List.replicate m mk) := hkx.1
      have hKM : SlS w vm (List.replicate (m + 1) mk) := hkx.2.1
      have hm4 : m ≤ 4096 := hkx.2.2
      obtain ⟨a1, c1, rfl, hc1⟩ := hKL.shape3
      obtain ⟨a2, c2, rfl, hc2⟩ := hKM.shape3
      rw [List.length_replicate] at hc1 hc2 hKL hKM
      simp only [List.length_replicate] at HRG
      obtain ⟨b2, o2, rfl, hlast⟩ := hKM.rep hq2 (i := m) (by omega)
      have HKL := Hid.of hKL
      have HKM := Hid.of hKM
      have HQ2 := Hid.of hq2
      have hqq := tl_eq q
      have hc1z : (m : Int) ≤ (c1 : Int) := by omega
      have hc2z : (m : Int) + 1 ≤ (c2 : Int) := by omega
      clear hrg hkx hc3e hKL hKM hq1 hq2
      go_wp2_with (with_reducible show wpList _ _ _ ({ dst := _, op := Op.indexAddr 39 _ _, type := _, pos := _, after := _, guard := _ } :: _) _ _; refine Shut.out ?_)
      show wpList _ _ _ _ _ _
      refine wpList_val7 (.pointer (some ⟨g, i * 3, none⟩)) rfl (exec_idxH i hlt rfl rfl rfl) ?_
      simp only [Act.put, List.setIfInBounds_toArray, List.set_cons_zero, List.set_cons_succ]
      go_wp2_with (with_reducible show wpList _ _ _ ({ dst := _, op := Op.load 45 _, type := _, pos := _, after := _, guard := _ } :: _) _ _; refine Shut.out ?_)
      show wpList _ _ _ _ _ _
      refine wpList_load_mid rfl 45 _ rfl g (i * 3) rfl [.slice a1 m c1, .slice (some ⟨b2, o2, none⟩) (m + 1) c2, .string q] _ HRG.out Tryz.underlying45 rfl infoH3 ?_
      simp only [Act.put, List.setIfInBounds_toArray, List.set_cons_zero, List.set_cons_succ]
      go_wp2_with (with_reducible show wpList _ _ _ ({ dst := _, op := Op.store 45 _ _, type := _, pos := _, after := _, guard := _ } :: _) _ _; refine Shut.out ?_)
      show wpList _ _ _ _ _ _
      refine wpList_store_at rfl _ _ _ rfl wb.heap.size (at_new wb 45 z3h) [.slice a1 m c1, .slice (some ⟨b2, o2, none⟩) (m + 1) c2, .string q] rfl rfl rfl (by kernel_rfl) (all_oneCell_toArray (fun u hu => by simp at hu; rcases hu with rfl | rfl | rfl <;> rfl)) fun w5 hA5 hg5 => ?_
      have HU5 := Hid.of (show Up wb w5 from ((Up.refl wb).alloc _).by hg5 (fun k hk => by injection hk with hk; omega))
      have HUW := Hid.of (hI.out.trans HU5.out)
      have k0 := hA5.cell (i := 0) (v := .slice a1 m c1) rfl
      have k1 := hA5.cell (i := 1) (v := .slice (some ⟨b2, o2, none⟩) (m + 1) c2) rfl
      have k2 := hA5.cell (i := 2) (v := .string q) rfl
      have kl := HUW.out.cell hlast
      have HA5 := Hid.of hA5
      clear hA5 hg5
      generalize hbw : wb.heap.size = bw at *
      simp only [Act.put]
      go_wp2
      go_quiet (fail)
      go_wp2
      go_loopw [5] (fun v5 wr => ∃ j : Nat, v5 = .int .i64 (j : Int) ∧ j ≤ m ∧ Hid (Up w5 wr)) (fun v5 _ => m - (intOf v5).toNat)
      case atStart => exact ⟨0, rfl, by omega, (Up.refl w5).drewN _⟩
      case round =>
        obtain ⟨j, rfl, hj, hJ⟩ := hrel
        obtain ⟨wc, hwc⟩ : ∃ wc, wc = wr := ⟨_, rfl⟩
        subst hwc
        have d0 := (HA5.out.up hJ.out).cell (i := 0) (v := .slice a1 m c1) rfl
        have d1 := (HA5.out.up hJ.out).cell (i := 1) (v := .slice (some ⟨b2, o2, none⟩) (m + 1) c2) rfl
        have d2 := (HA5.out.up hJ.out).cell (i := 2) (v := .string q) rfl
        clear k0 k1 k2 kl
        by_cases hjt : j < m
        · have hjz : (j : Int) < (m : Int) := by omega
          have hjy : (j : Int) < (m : Int) + 1 := by omega
          obtain ⟨b1, o1, rfl, e1⟩ := HKL.out.rep HQ2.out hjt
          obtain ⟨b3, o3, h3, e3⟩ := HKM.out.rep HQ2.out (i := j) (by omega)
          simp only [Option.some.injEq, Addr.mk.injEq, and_true] at h3
          obtain ⟨rfl, rfl⟩ := h3
          have e1 := (HUW.out.trans hJ.out).cell e1
          have e3 := (HUW.out.trans hJ.out).cell e3
          go_wp2
          go_quiet (fail)
          go_wp2
          go_roundw
          case rel => exact ⟨j + 1, by go_num, by omega, hJ.out.drewN _⟩
          case measure => simp [intOf]; omega
        · have hjz : ¬ (j : Int) < (m : Int) := by omega
          go_wp2
          go_roundw
          case rel => exact ⟨i + 1, by go_num, by omega, HUW.out.trans hJ.out⟩
          case measure => simp [intOf]; omega
    · have hltz : ¬ (i : Int) < (n : Int) := by omega
      go_wp2
      go_ret
      exact ⟨rfl, hI.out⟩
end Go.Proofs.YtnciglpdjpckiaaGreatDoor
namespace Go.Proofs.YtnciglpdjpckiaaGreatDoor
open Go.RowKit Go.Shelf TextNum ModNum
theorem OwnS.rebase {w : World} {B B' : Nat} {v : Value} {xs : List (List UInt8)} (h : OwnS w B v xs) (hb : ∀ g, v.ownBlock = some g → B' ≤ g) : OwnS w B' v xs := by
  refine ⟨h.1, ?_⟩
  rcases h.2 with e | ⟨g, cap, cur, e, hbg, r⟩
  · exact .inl e
  · exact .inr ⟨g, cap, cur, e, hb g (by rw [e]; rfl), r⟩
theorem wpList_appF {ops : Array Oper} {rest : List Oper} {o : Oper} {a : Act} {W : World} {t : TypeId} {Q : Exit → Act → World → Prop} (hgd : o.guard = none) (s x : Operand)
    (ho : o.op = .call { callee := .builtin .append, args := #[s, x], argTypes := #[22, 22] }) (B : Nat) (v : Value) (xs : List (List UInt8)) (y : List UInt8) (hs : a.eval s = v) (hown : OwnS W B v xs)
    (hfull : v = .slice none 0 0 ∨ ∃ g, v = .slice (some ⟨g, 0, none⟩) xs.length xs.length)
    (c : Nat) (hx : a.eval x = .slice (some ⟨W.heap.size, 0, none⟩) 1 c) (hn : xs.length ≤ 8192) (hB : B ≤ W.heap.size)
    (h : ∀ g cap w', OwnS w' W.heap.size (.slice (some ⟨g, 0, none⟩) (xs.length + 1) cap) (xs ++ [y]) → W.heap.size ≤ g → Up W w' → wpList Tryz.prog ops Q rest (a.put o.dst (.slice (some ⟨g, 0, none⟩) (xs.length + 1) cap)) w') : wpList Tryz.prog ops Q (o :: rest) a (W.alloc (.cells (cst [y]).toArray t)) := by
  obtain ⟨i0, hi, hz0, hz1, hz2⟩ := info_parts Tryz.infoStr
  have hown1 := OwnS.up hown ((Up.refl W).alloc (.cells (cst [y]).toArray t))
  have hnews := cells_new W t (cst [y])
  obtain ⟨v', w', hr, ho', hg, _⟩ := run_append_own (P := Tryz.prog) (W.alloc (.cells (cst [y]).toArray t)) B 22 o.type 9 i0 (.string ⟨#[]⟩) 1 16 Tryz.underlying22 hi hz0 hz1 hz2 rfl (by decide) v xs.length (cst xs) hown1 ⟨W.heap.size, 0, none⟩ 1 c (cst [y]) (by simp [cst]) hnews (cst_one [y]) (by unfold maxLen; omega) (by omega) (by simp; omega)
  have hO : OwnS w' B v' (xs ++ [y]) := by
    unfold OwnS
    rw [List.length_append, List.map_append]
    exact ho'
  have hnew : ∃ cap, v' = .slice (some ⟨(W.alloc (.cells (cst [y]).toArray t)).heap.size, 0, none⟩) (xs.length + 1) cap ∧ Up W w' := by
    rcases hfull with rfl | ⟨g, rfl⟩
    · have hx0 : xs = [] := by
        rcases hown.2 with ⟨_, e⟩ | ⟨g, cap, cur, e, _⟩
        · exact List.eq_nil_of_length_eq_zero e
        · cases e
      subst hx0
      have hr2 := run_append_nil (P := Tryz.prog) (W.alloc (.cells (cst [y]).toArray t)) 22 o.type 9 i0 (.string ⟨#[]⟩) Tryz.underlying22 hi hz0 ⟨W.heap.size, 0, none⟩ 1 c (cst [y]) (by rw [hz1]; simp [cst]) hnews (by omega) (by omega) (by rw [hz2]; omega)
      rw [hr2] at hr
      injection hr with hr3 hr4
      subst hr3 hr4
      exact ⟨_, rfl, (((Up.refl W).alloc _).drew).alloc _⟩
    · have hr2 := run_append_grow (P := Tryz.prog) (W.alloc (.cells (cst [y]).toArray t)) 22 o.type 9 i0 (.string ⟨#[]⟩) Tryz.underlying22 hi hz0 ⟨g, 0, none⟩ xs.length xs.length (cst xs) (by rw [hz1, cst_len]; omega) (hown1.cells (g := g) rfl) ⟨W.heap.size, 0, none⟩ 1 c (cst [y]) (by rw [hz1]; simp [cst]) hnews (by omega) (by omega) (by rw [hz2]; exact growslice_fits (by omega) (by omega))
      rw [hr2] at hr
      injection hr with hr3 hr4
      subst hr3 hr4
      exact ⟨_, rfl, (((Up.refl W).alloc _).drew).alloc _⟩
  obtain ⟨cap, rfl, hup⟩ := hnew
  refine wpList_plain hgd fun K2 hK => ?_
  unfold Oper.wp execOp
  simp only [ho, resolve, invoke, builtin, Sem.run_bind, Sem.run_pure, Result.andThen_ok, List.map_toArray, List.map_cons, List.map_nil, hs, hx, hr]
  exact hK _ _ (h _ cap w' (hO.rebase (fun g hg2 => by injection hg2 with hg2; rw [← hg2]; simp)) (by simp) hup)
/-- a value's block stands, and is not the book's -/
def HB (w : World) (bk : Option Nat) (v : Value) : Prop := ∀ g, v.ownBlock = some g → bk ≠ some g ∧ g < w.heap.size
/-- what the law keeps: the book -/
structure KP (w wr : World) (v : Value) (xs : List HE) : Prop where
  own : wr.ownsRow w.heap.size 45 3 v xs.length (hcs xs)
  up : Up w wr
  ok : ∀ x ∈ xs, HK wr x ∧ HB wr v.ownBlock x.vl ∧ HB wr v.ownBlock x.vm
theorem HB.up {w w' : World} {bk : Option Nat} {v : Value} (h : HB w bk v) (hs : w.heap.size ≤ w'.heap.size) : HB w' bk v := fun g hg => ⟨(h g hg).1, Nat.lt_of_lt_of_le (h g hg).2 hs⟩
theorem own_upH {w w' : World} {B n : Nat} {v : Value} {cs : List Value} (h : w.ownsRow B 45 3 v n cs) (u : Up w w') : w'.ownsRow B 45 3 v n cs := by
  refine ⟨h.1, ?_⟩
  rcases h.2 with e | ⟨g, cap, cur, e, hbg, hg, r⟩
  · exact .inl e
  · exact .inr ⟨g, cap, cur, e, hbg, (u.block g (Array.getElem?_eq_some_iff.1 hg).1).trans hg, r⟩
theorem KP.step {w wr w' : World} {v : Value} {xs : List HE} (h : KP w wr v xs) (u : Up wr w') : KP w w' v xs :=
  ⟨own_upH h.own u, h.up.trans u, fun x hx => ⟨(h.ok x hx).1.up u, (h.ok x hx).2.1.up u.size, (h.ok x hx).2.2.up u.size⟩⟩
theorem HK.by {w w' : World} {bk : Option Nat} {x : HE} (h : HK w x) (h1 : HB w bk x.vl) (h2 : HB w bk x.vm) (hg : w.grownBy w' bk) : HK w' x := ⟨h.1.by hg (fun g hh => (h1 g hh).1), h.2.1.by hg (fun g hh => (h2 g hh).1), h.2.2⟩
theorem KP.app {w W w' : World} {v v' : Value} {xs : List HE} {x : HE} (h : KP w W v xs) (ho : w'.ownsRow w.heap.size 45 3 v' (xs.length + 1) (hcs xs ++ hc3 x)) (hg : W.grownBy w' v.ownBlock)
    (hv : v'.ownBlock = v.ownBlock ∨ ∀ g, v'.ownBlock = some g → W.heap.size ≤ g) (hx : HK W x) (h1 : HB W v.ownBlock x.vl) (h2 : HB W v.ownBlock x.vm) : KP w w' v' (xs ++ [x]) := by
  have hne : ∀ u, HB W v.ownBlock u → HB w' v'.ownBlock u := fun u hu g hgg => ⟨by
    rcases hv with e | e
    · rw [e]; exact (hu g hgg).1
    · intro e2
      have := e g e2
      have := (hu g hgg).2
      omega, Nat.lt_of_lt_of_le (hu g hgg).2 hg.size⟩
  refine ⟨?_, h.up.by hg (fun g hgg => (World.ownsRow.lt h.own g hgg).1), ?_⟩
  · rw [List.length_append, hcs_app]
    show w'.ownsRow _ _ _ _ _ (hcs xs ++ (hc3 x ++ []))
    rw [List.append_nil]
    exact ho
  · intro y hy
    rcases List.mem_append.1 hy with hy | hy
    · have hk := h.ok y hy
      exact ⟨hk.1.by hk.2.1 hk.2.2 hg, hne _ hk.2.1, hne _ hk.2.2⟩
    · rw [List.mem_singleton.1 hy]
      exact ⟨hx.by h1 h2 hg, hne _ h1, hne _ h2⟩
theorem hc3_one (x : HE) (hl : x.vl.oneCell' = true) (hm : x.vm.oneCell' = true) : ∀ u ∈ hc3 x, u.oneCell' = true := by
  intro u hu
  simp only [hc3, List.mem_cons, List.not_mem_nil, or_false] at hu
  rcases hu with rfl | rfl | rfl
  · exact hl
  · exact hm
  · rfl
set_option maxRecDepth 100000 in
theorem Tryz.infoHe : (Tryz.prog.info? 45).map (fun i => (i.zero, i.size, i.bytes)) = some (some (.agg z3h.toArray), 3, 64) := by kernel_rfl
theorem wpList_appH {ops : Array Oper} {rest : List Oper} {o : Oper} {a : Act} {w W : World} {t : TypeId} {Q : Exit → Act → World → Prop} (hgd : o.guard = none) (s x : Operand)
    (ho : o.op = .call { callee := .builtin .append, args := #[s, x], argTypes := #[39, 39] }) (v : Value) (xs : List HE) (y : HE) (hs : a.eval s = v) (hK : KP w W v xs)
    (c : Nat) (hx : a.eval x = .slice (some ⟨W.heap.size, 0, none⟩) 1 c) (hn : xs.length ≤ 1048576) (hyk : HK W y) (hl : y.vl.oneCell' = true) (hm : y.vm.oneCell' = true) (h1 : HB W v.ownBlock y.vl) (h2 : HB W v.ownBlock y.vm)
    (h : ∀ v' w', KP w w' v' (xs ++ [y]) → W.grownBy w' v.ownBlock → wpList Tryz.prog ops Q rest (a.put o.dst v') w') : wpList Tryz.prog ops Q (o :: rest) a (W.alloc (.cells (hc3 y).toArray t)) := by
  obtain ⟨i0, hi, hz0, hz1, hz2⟩ := info_parts Tryz.infoHe
  have hK1 := hK.step ((Up.refl W).alloc (.cells (hc3 y).toArray t))
  have hnews := cells_new W t (hc3 y)
  obtain ⟨v', w', hr, ho', hg, _, hv⟩ := app_both (w := W.alloc (.cells (hc3 y).toArray t)) w.heap.size 39 o.type 45 i0 (.agg z3h.toArray) 3 64 Tryz.underlying39 hi hz0 hz1 hz2 rfl (by decide) v xs.length (hcs xs) hK1.own ⟨W.heap.size, 0, none⟩ 1 c (hc3 y) rfl hnews (hc3_one y hl hm) (by unfold maxLen; omega) (by omega) (Nat.le_trans hK.up.size (by simp))
  have hup := (Up.refl W).alloc (.cells (hc3 y).toArray t)
  refine wpList_plain hgd fun K2 hK2 => ?_
  unfold Oper.wp execOp
  simp only [ho, resolve, invoke, builtin, Sem.run_bind, Sem.run_pure, Result.andThen_ok, List.map_toArray, List.map_cons, List.map_nil, hs, hx, hr]
  exact hK2 _ _ (h v' w' (hK1.app ho' hg hv (hyk.up hup) (h1.up hup.size) (h2.up hup.size)) (up_grown hup hg))
end Go.Proofs.YtnciglpdjpckiaaGreatDoor
namespace Go.Proofs.YtnciglpdjpckiaaGreatDoor
open Go.RowKit Go.Shelf TextNum ModNum
/-- lists of texts that are given -/
def LL (w : World) (a : Option Addr) (kss : List (List (List UInt8))) : Prop := ∀ i (h : i < kss.length), ∃ b off vk, a = some ⟨b, off, none⟩ ∧ w.cell? ⟨b, off + i, none⟩ = some vk ∧ SlS w vk kss[i] ∧ kss[i].length ≤ 1048576 ∧ ∀ t ∈ kss[i], t.length ≤ 1048576
theorem conv_three (x y z : UInt8) (w : World) : (convert 42 9 (.slice (some ⟨w.heap.size, 0, none⟩) 3 3)).run Tryz.prog (w.alloc (.cells #[.int .u8 (x.toNat : Int), .int .u8 (y.toNat : Int), .int .u8 (z.toNat : Int)] 5)) = .ok (.string ⟨[x, y, z].toArray⟩) (w.alloc (.cells #[.int .u8 (x.toNat : Int), .int .u8 (y.toNat : Int), .int .u8 (z.toNat : Int)] 5)) := by
  refine conv_sl (w := w.alloc (.cells #[.int .u8 (x.toNat : Int), .int .u8 (y.toNat : Int), .int .u8 (z.toNat : Int)] 5)) (l := [x, y, z]) ⟨_, _, rfl, Nat.le_refl _, .inr ⟨w.heap.size, 0, rfl, by simp, fun i hi => ?_⟩⟩
  obtain rfl | rfl | rfl : i = 0 ∨ i = 1 ∨ i = 2 := by simp at hi; omega
  · exact (at_new w 5 [.int .u8 (x.toNat : Int), .int .u8 (y.toNat : Int), .int .u8 (z.toNat : Int)]).cell (i := 0) rfl
  · exact (at_new w 5 [.int .u8 (x.toNat : Int), .int .u8 (y.toNat : Int), .int .u8 (z.toNat : Int)]).cell (i := 1) rfl
  · exact (at_new w 5 [.int .u8 (x.toNat : Int), .int .u8 (y.toNat : Int), .int .u8 (z.toNat : Int)]).cell (i := 2) rfl
theorem rep_set {l : List (List UInt8)} {j : Nat} {x : List UInt8} (h : j < l.length) : (List.replicate j x ++ l.drop j).set j x = List.replicate (j + 1) x ++ l.drop (j + 1) := by
  rw [List.set_append, if_neg (by simp), List.length_replicate, Nat.sub_self, List.drop_eq_getElem_cons h, List.set_cons_zero, List.replicate_succ', List.append_assoc]
  rfl
theorem rep_same {n k : Nat} {x : List UInt8} : (List.replicate n x).set k x = List.replicate n x := by
  apply List.ext_getElem?
  intro i
  rw [List.getElem?_set]
  split
  · rename_i h
    subst h
    split <;> rename_i h2 <;> simp at h2 ⊢ <;> simp [h2]
  · rfl
abbrev BKY : List UInt8 := [98, 46, 99, 64, 118, 49, 46, 48, 46, 48]
abbrev AKY : List UInt8 := [97, 46, 99, 64, 118, 49, 46, 48, 46, 48]
theorem two_kE : kE [BKY, AKY] = 0 := by decide +kernel
theorem two_pw : List.Pairwise kle [AKY, BKY] := List.pairwise_cons.2 ⟨fun b hb => by
  rw [List.mem_singleton.1 hb]
  exact (show kcm AKY BKY ≤ 0 by decide +kernel), List.pairwise_cons.2 ⟨(fun b hb => by cases hb), List.Pairwise.nil⟩⟩
theorem two_sz : ∀ s ∈ [BKY, AKY], s.length ≤ 1048576 := by
  intro s hs
  simp only [List.mem_cons, List.not_mem_nil, or_false] at hs
  rcases hs with rfl | rfl <;> decide
theorem hA_set {w : World} {b : Nat} {t : TypeId} {x y z : Value} (h : At w b t [x, y, z]) (v : Value) : At (w.setCell ⟨b, 1, none⟩ v) b t [x, v, z] := h.set 1 v
set_option maxRecDepth 100000 in
set_option maxHeartbeats 8000000 in
theorem keeps_law (a : Option Addr) (c : Nat) (kss : List (List (List UInt8))) (hkn : kss.length ≤ 1048576) (hcc : kss.length ≤ c) (w : World) (hG : GR w) (hT : TK w) (hL : LL w a kss) : Calls Tryz.prog 5 #[.slice a kss.length c] w fun e w' => e = .returned (.bool true) ∧ Up w w' := by
  have HG := Hid.of hG
  have HT := Hid.of hT
  have HL := Hid.of hL
  obtain ⟨n, hn⟩ : ∃ n, kss.length = n := ⟨_, rfl⟩
  have HN := Hid.of hn
  rw [hn] at hcc hkn ⊢
  have hccz : (n : Int) ≤ (c : Int) := by omega
  clear hG hT hL hn
  go_enter Tryz.func5, Tryz.ntmps5
  go_wp2
  go_loopw [3, 4, 5, 6, 7, 8, 9, 10, 11, 12, 13] (fun v3 v4 _ _ _ _ _ _ _ _ _ wr => ∃ (i : Nat) (xs : List HE), v4 = .int .i64 (i : Int) ∧ i ≤ n ∧ Hid (KP w wr v3 xs ∧ xs.length = i)) (fun _ v4 _ _ _ _ _ _ _ _ _ _ => n - (intOf v4).toNat)
  case atStart => exact ⟨0, [], rfl, by omega, ⟨World.ownsRow_nil w _ _ _, Up.refl _, fun x hx => by cases hx⟩, rfl⟩
  case round =>
    obtain ⟨i, xs, rfl, hi, hI⟩ := hrel
    obtain ⟨wb, hwb⟩ : ∃ wb, wb = wr := ⟨_, rfl⟩
    subst hwb
    by_cases hlt : i < n
    · have hltz : (i : Int) < (n : Int) := by omega
      obtain ⟨b, off, vk, rfl, hck, hSk, hkl, hksz⟩ := HL.out i (by rw [HN.out]; exact hlt)
      generalize kss[i]'(by rw [HN.out]; exact hlt) = ks at *
      have HU0 := Hid.of hI.out.1.up
      have HSK := Hid.of hSk
      have HCK := Hid.of hck
      have HSZ := Hid.of hksz
      obtain ⟨ak, ck, rfl, hckc⟩ := hSk.shape3
      obtain ⟨m, hm⟩ : ∃ m, ks.length = m := ⟨_, rfl⟩
      have HM := Hid.of hm
      rw [hm] at hkl HSK HCK hckc
      have hmc : (m : Int) ≤ (ck : Int) := by omega
      have HR := Hid.of (RSort_walk (.slice ak m ck) ks HSZ.out wb (HT.out.up HU0.out) (HSK.out.up HU0.out))
      have x1 := HU0.out.cell HCK.out
      clear hck hSk hksz hm
      go_wp2_with fail
      refine HR.out.mono ?_
      rintro e w1 ⟨v1, e1, l1, rfl, he1, hn1, hy1, hO1, u1⟩
      have HE1 := Hid.of (And.intro he1 (And.intro hn1 hy1))
      have HO1 := Hid.of hO1
      have H1 := Hid.of (HU0.out.trans u1)
      have HB1 := Hid.of u1
      have x2 := u1.cell x1
      clear he1 hn1 hy1 hO1 u1 x1 HR
      dsimp only
      go_wp2_with (with_reducible show wpList _ _ _ ({ dst := _, op := Op.call { callee := Callee.builtin Builtin.append, args := _, argTypes := _ }, type := _, pos := _, after := _, guard := _ } :: _) _ _; refine Shut.out ?_)
      show wpList _ _ _ _ _ _
      refine wpList_appR rfl _ _ rfl w1.heap.size (.slice none 0 0) (.slice ak m ck) [] ks rfl rfl (ownS_nil _ _) (HSK.out.up H1.out) (by rw [HM.out]; simp; omega) (Nat.le_refl _) ?_
      intro v2 w2 hO2 hb2
      rw [List.nil_append] at hO2
      have HW2 := Hid.of (show OwnS w2 w1.heap.size v2 (ks ++ mks 0) ∧ Up w1 w2 from ⟨by simpa [mks] using hO2, hb2⟩)
      clear hO2 hb2 x2
      simp only [Act.put, List.setIfInBounds_toArray, List.set_cons_zero, List.set_cons_succ]
      go_wp2
      go_loopw [7, 8] (fun v7 v8 wr => ∃ j : Nat, v8 = .int .i64 (j : Int) ∧ j ≤ 300 ∧ Hid (OwnS wr w1.heap.size v7 (ks ++ mks j) ∧ Up w1 wr)) (fun _ v8 _ => 300 - (intOf v8).toNat)
      case atStart => exact ⟨0, rfl, by omega, HW2⟩
      case round =>
        obtain ⟨j, rfl, hj, hJ⟩ := hrel
        obtain ⟨wc, hwc⟩ : ∃ wc, wc = wr := ⟨_, rfl⟩
        subst hwc
        by_cases hjt : j < 300
        · have hjz : (j : Int) < 300 := by omega
          have hcv := conv_two 101 (UInt8.ofNat j)
          rw [show (((101 : UInt8).toNat : Nat) : Int) = 101 from rfl] at hcv
          have hzw := wrap_u8 j
          generalize ((UInt8.ofNat j).toNat : Int) = z at *
          go_wp2_with (with_reducible show wpList _ _ _ ({ dst := _, op := Op.call { callee := Callee.builtin Builtin.append, args := _, argTypes := _ }, type := _, pos := _, after := _, guard := _ } :: _) _ _; refine Shut.out ?_)
          show wpList _ _ _ _ _ _
          refine wpList_appS rfl _ _ rfl w1.heap.size _ (ks ++ mks j) (mkj j) rfl (OwnS.up hJ.out.1 ((Up.refl _).alloc _)) 1 (by rw [alloc_size]; rfl) (by rw [List.length_append, mks_len, HM.out]; omega) (Nat.le_trans hJ.out.2.size (by simp)) ?_
          intro v' w3 h3 k3
          have HW3 := Hid.of (show OwnS w3 w1.heap.size v' (ks ++ mks (j + 1)) ∧ Up w1 w3 from ⟨by rw [mks_succ, ← List.append_assoc]; exact h3, (hJ.out.2.alloc _).step (Nat.le_refl _) k3⟩)
          clear h3 k3 hcv hzw
          simp only [Act.put, List.setIfInBounds_toArray, List.set_cons_zero, List.set_cons_succ]
          go_wp2
          go_roundw
          case rel => exact ⟨j + 1, by go_num, by omega, HW3⟩
          case measure => simp [intOf]; omega
        · have hjz : ¬ (j : Int) < 300 := by omega
          obtain rfl : j = 300 := by omega
          have HWD := Hid.of hJ.out.1
          have HU2 := Hid.of hJ.out.2
          have H2 := Hid.of (H1.out.trans HU2.out)
          clear hj hjt hjz hJ
          have hne : ks ++ mks 300 ≠ [] := by
            intro h
            have := congrArg List.length h
            rw [List.length_append, mks_len] at this
            simp at this
          obtain ⟨gw, cw, hv7, hgw1, hgw2, hcw, _, _⟩ := HWD.out.row hne
          have hlw : (ks ++ mks 300).length = m + 300 := by rw [List.length_append, mks_len, HM.out]
          rw [hlw] at hv7 hcw
          subst hv7
          have HWS := Hid.of HWD.out.sl
          have HPRE := Hid.of (show SlS wc (.slice (some ⟨gw, 0, none⟩) m cw) ks by have := SlS.pre HWS.out; rwa [HM.out] at this)
          have HGW := Hid.of (And.intro hgw1 hgw2)
          have hcwz : (m : Int) ≤ (cw : Int) := by omega
          have x3 := H2.out.cell HCK.out
          have HS := Hid.of (Sort_walk (.slice (some ⟨gw, 0, none⟩) m cw) ks HSZ.out wc (HG.out.up H2.out) HPRE.out)
          clear hne hgw1 hgw2 hcw hlw HWD
          go_wp2_with fail
          refine HS.out.mono ?_
          rintro e w4 ⟨v4, e4, l4, rfl, he4, hn4, hy4, hO4, u4⟩
          obtain ⟨he1, hn1, hy1⟩ := HE1.out
          obtain rfl : e1 = e4 := he1.trans he4.symm
          have hll : l1 = l4 := by
            by_cases h0 : e1 = 0
            · have h3 := hy1 h0
              have h4 := hy4 h0
              have hk0 : kE ks = 0 := by
                by_cases h5 : 4096 < ks.length
                · rw [if_pos h5] at he1; omega
                · rw [if_neg h5] at he1; omega
              exact SRT.one hk0 h3 ⟨h4.1, h4.2.1⟩
            · rw [hn1 h0, (hn4 h0).1]
          subst hll
          -- how long it is, and what it is
          have hfin : l1.length ≤ 4096 ∧ (v4 = .slice none 0 0 ∨ ∃ g, v4 = .slice (some ⟨g, 0, none⟩) l1.length l1.length) := by
            by_cases h0 : e1 = 0
            · refine ⟨?_, .inr ?_⟩
              · rw [(hy1 h0).1.length_eq]
                by_cases h5 : 4096 < ks.length
                · rw [if_pos h5] at he1; omega
                · omega
              · obtain ⟨g, hg, _⟩ := (hy4 h0).2.2
                exact ⟨g, hg⟩
            · obtain ⟨h6, h7⟩ := hn4 h0
              rw [h6]
              exact ⟨by simp, .inl h7⟩
          have HFI := Hid.of hfin
          have H4 := Hid.of (H2.out.trans u4)
          have HU4 := Hid.of u4
          have HO4 := Hid.of hO4
          have HSM := Hid.of (same_yes v4 v1 l1 (by have := hfin.1; omega) w4 hO4.sl (HO1.out.up (HU2.out.trans u4)).sl)
          have x4 := u4.cell x3
          clear he1 hn1 hy1 he4 hn4 hy4 hO4 u4 hfin HE1 x3
          dsimp only
          go_wp2_with fail
          refine HSM.out.mono ?_
          rintro e w5 ⟨rfl, u5⟩
          have HU5 := Hid.of (HU4.out.trans u5)
          have H5 := Hid.of (H4.out.trans u5)
          have HO5 := Hid.of (HO4.out.up u5)
          have HKP := Hid.of (kept_walk (.slice (some ⟨gw, 0, none⟩) (m + 300) cw) (.slice ak m ck) ks (by rw [HM.out]; exact hkl) w5 (HWS.out.up HU5.out) (HSK.out.up H5.out))
          have x5 := u5.cell x4
          clear u5 x4 HSM
          dsimp only
          go_wp2_with fail
          refine HKP.out.mono ?_
          rintro e w6 ⟨rfl, u6⟩
          have HU6 := Hid.of (HU5.out.trans u6)
          have H6 := Hid.of (H5.out.trans u6)
          have HO6 := Hid.of (HO5.out.up u6)
          clear u6 x5 HKP
          dsimp only
          have hcv := conv_three 109 (UInt8.ofNat i) (UInt8.ofNat (i / 256))
          rw [show (((109 : UInt8).toNat : Nat) : Int) = 109 from rfl] at hcv
          have hz1 := wrap_u8 i
          have hz2 : (i : Int) / 256 % 256 = ((UInt8.ofNat (i / 256)).toNat : Int) := by rw [UInt8.toNat_ofNat']; omega
          obtain ⟨mt, hmt⟩ : ∃ mt, [109, UInt8.ofNat i, UInt8.ofNat (i / 256)] = mt := ⟨_, rfl⟩
          rw [hmt] at hcv
          generalize ((UInt8.ofNat i).toNat : Int) = y1 at *
          generalize ((UInt8.ofNat (i / 256)).toNat : Int) = y2 at *
          obtain ⟨p, hp⟩ : ∃ p, l1.length = p := ⟨_, rfl⟩
          have HPP := Hid.of hp
          obtain ⟨a4, c4, rfl, hc4⟩ := HO4.out.sl.shape3
          rw [hp] at HFI HO4 HO5 HO6 hc4 ⊢
          have hc4z : (p : Int) ≤ (c4 : Int) := by omega
          have hp4 := HFI.out.1
          clear hp hmt
          go_wp2
          have HA7 := Hid.of (at_new (w6.alloc (.cells #[.int .u8 109, .int .u8 y1, .int .u8 y2] 5)) 45 [.slice a4 p c4, .slice none 0 0, .string ⟨mt.toArray⟩])
          have HU7 := Hid.of ((HU6.out.alloc (.cells #[.int .u8 109, .int .u8 y1, .int .u8 y2] 5)).alloc (.cells #[.slice a4 p c4, .slice none 0 0, .string ⟨mt.toArray⟩] 45))
          have HO7 := Hid.of (((HO6.out.up ((Up.refl w6).alloc (.cells #[.int .u8 109, .int .u8 y1, .int .u8 y2] 5)))).up ((Up.refl _).alloc (.cells #[.slice a4 p c4, .slice none 0 0, .string ⟨mt.toArray⟩] 45)))
          rw [alloc_size] at HA7
          have HBH := Hid.of (show wc.heap.size ≤ w6.heap.size + 1 ∧ ∀ g, (Value.slice a4 p c4).ownBlock = some g → wc.heap.size ≤ g ∧ g < w6.heap.size from ⟨Nat.le_succ_of_le HU6.out.size, fun g hg => World.ownsRow.lt HO6.out g hg⟩)
          clear hcv hz1 hz2
          generalize hbh : w6.heap.size + 1 = bh at *
          generalize (w6.alloc (Obj.cells #[Value.int IntKind.u8 109, Value.int IntKind.u8 y1, Value.int IntKind.u8 y2] 5)).alloc (Obj.cells #[Value.slice a4 p c4, Value.slice none 0 0, Value.string ⟨mt.toArray⟩] 45) = W7 at *
          have HBH6 := Hid.of hbh
          clear hbh
          go_loopw [12] (fun v12 wr => ∃ j : Nat, v12 = .int .i64 (j : Int) ∧ j ≤ p ∧ Hid (At wr bh 45 [.slice a4 p c4, .slice none 0 0, .string ⟨mt.toArray⟩] ∧ OwnS wr wc.heap.size (.slice a4 p c4) (List.replicate j mt ++ l1.drop j) ∧ Up wc wr)) (fun v12 _ => p - (intOf v12).toNat)
          case atStart => exact ⟨0, rfl, by omega, HA7.out, by simpa using HO7.out, HU7.out⟩
          case round =>
            obtain ⟨j, rfl, hj, hJ⟩ := hrel
            obtain ⟨wd, hwd⟩ : ∃ wd, wd = wr := ⟨_, rfl⟩
            subst hwd
            by_cases hjt : j < p
            · have hjz : (j : Int) < (p : Int) := by omega
              have hjl : (List.replicate j mt ++ l1.drop j).length = p := by
                rw [List.length_append, List.length_replicate, List.length_drop, HPP.out]
                omega
              obtain ⟨g, cg, hv, hg1, hg2, _, hcl, hfz⟩ := hJ.out.2.1.row (by intro h; rw [h] at hjl; simp at hjl; omega)
              rw [hjl] at hv
              simp only [Value.slice.injEq] at hv
              obtain ⟨rfl, _, rfl⟩ := hv
              obtain ⟨old, e1⟩ : ∃ old, wd.cell? ⟨g, j, none⟩ = some old := ⟨_, hcl j (by rw [hjl]; exact hjt)⟩
              have e2 := hfz j
              have e3 := hJ.out.1.cell (i := 2) (v := .string ⟨mt.toArray⟩) rfl
              have hbg : bh ≠ g := by
                have := (HBH.out.2 g rfl).2
                have := HBH6.out
                omega
              have hgs := grown_set wd ⟨g, j, none⟩ (.string ⟨mt.toArray⟩)
              have HN := Hid.of (show At (wd.setCell ⟨g, j, none⟩ (.string ⟨mt.toArray⟩)) bh 45 [.slice (some ⟨g, 0, none⟩) p c4, .slice none 0 0, .string ⟨mt.toArray⟩] ∧ OwnS (wd.setCell ⟨g, j, none⟩ (.string ⟨mt.toArray⟩)) wc.heap.size (.slice (some ⟨g, 0, none⟩) p c4) (List.replicate (j + 1) mt ++ l1.drop (j + 1)) ∧ Up wc (wd.setCell ⟨g, j, none⟩ (.string ⟨mt.toArray⟩)) from
                ⟨hJ.out.1.by hgs (fun e => by injection e with e; exact hbg e.symm), by
                  have h5 := hJ.out.2.1.put hjl j mt
                  rwa [rep_set (by rw [HPP.out]; exact hjt)] at h5, hJ.out.2.2.by hgs (fun k hk => by have hk2 : g = k := (by injection hk); omega)⟩)
              clear hcl hfz hjl hgs hbg hg1 hg2
              go_wp2
              go_roundw
              case rel => exact ⟨j + 1, by go_num, by omega, HN⟩
              case measure => simp [intOf]; omega
            · have hjz : ¬ (j : Int) < (p : Int) := by omega
              obtain rfl : j = p := by omega
              have HA8 := Hid.of hJ.out.1
              have HO8 := Hid.of (show OwnS wd wc.heap.size (.slice a4 j c4) (List.replicate j mt) by
                have h5 := hJ.out.2.1
                rwa [List.drop_of_length_le (by rw [HPP.out]; exact Nat.le_refl _), List.append_nil] at h5)
              have HU8 := Hid.of hJ.out.2.2
              have e2 := HA8.out.cell (i := 2) (v := .string ⟨mt.toArray⟩) rfl
              clear hj hjt hjz hJ
              go_wp2_with (with_reducible show wpList _ _ _ ({ dst := _, op := Op.call { callee := Callee.builtin Builtin.append, args := _, argTypes := _ }, type := _, pos := _, after := _, guard := _ } :: _) _ _; refine Shut.out ?_)
              show wpList _ _ _ _ _ _
              refine wpList_appF rfl _ _ rfl wc.heap.size (.slice a4 j c4) (List.replicate j mt) mt rfl HO8.out (by rw [List.length_replicate]; exact HFI.out.2) 1 rfl (by rw [List.length_replicate]; omega) HU8.out.size ?_
              intro g8 c8 w8 hO8 hg8 hup8
              rw [List.length_replicate, ← List.replicate_succ'] at hO8
              simp only [List.length_replicate]
              simp only [Act.put, List.setIfInBounds_toArray, List.set_cons_zero, List.set_cons_succ]
              have HA9 := Hid.of (hA_set (HA8.out.up hup8) (.slice (some ⟨g8, 0, none⟩) (j + 1) c8))
              have hgs := grown_set w8 ⟨bh, 1, none⟩ (.slice (some ⟨g8, 0, none⟩) (j + 1) c8)
              have HU9 := Hid.of ((HU8.out.trans hup8).by hgs (fun k hk => by have hk2 : bh = k := (by injection hk); have := HBH.out.1; omega))
              have hne8 : bh ≠ g8 := by have := lt_of_at HA8.out; omega
              have HO9 := Hid.of (show OwnS (w8.setCell ⟨bh, 1, none⟩ (.slice (some ⟨g8, 0, none⟩) (j + 1) c8)) wd.heap.size (.slice (some ⟨g8, 0, none⟩) (j + 1) c8) (List.replicate (j + 1) mt) from World.ownsRow.kept hO8 hgs (.inr (by
                show some g8 ≠ some bh
                intro e
                injection e with e
                exact hne8 e.symm)))
              have HL9 := Hid.of (show SlS (w8.setCell ⟨bh, 1, none⟩ (.slice (some ⟨g8, 0, none⟩) (j + 1) c8)) (.slice a4 j c4) (List.replicate j mt) from (HO8.out.sl.up hup8).by hgs (fun g hg e => by
                have h6 := (HBH.out.2 g hg).2
                have h7 : bh = g := by injection e
                have := HBH6.out
                omega))
              have HLT := Hid.of (show ∀ g, (Value.slice a4 j c4).ownBlock = some g → g < wd.heap.size from fun g hg => (World.ownsRow.lt HO8.out g hg).2)
              have HG8 := Hid.of hg8
              have f1 := (HA8.out.up hup8).cell (i := 1) (v := .slice none 0 0) rfl
              have f2 := (HA8.out.up hup8).thaw 1
              clear hO8 hg8 hup8 hgs hne8 e2
              go_wp2
              generalize w8.setCell ⟨bh, 1, none⟩ (.slice (some ⟨g8, 0, none⟩) (j + 1) c8) = w9 at *
              clear f1 f2
              go_loopw [13] (fun v13 wr => ∃ k : Nat, v13 = .int .i64 (k : Int) ∧ k ≤ j + 1 ∧ Hid (At wr bh 45 [.slice a4 j c4, .slice (some ⟨g8, 0, none⟩) (j + 1) c8, .string ⟨mt.toArray⟩] ∧ OwnS wr wd.heap.size (.slice (some ⟨g8, 0, none⟩) (j + 1) c8) (List.replicate (j + 1) mt) ∧ SlS wr (.slice a4 j c4) (List.replicate j mt) ∧ Up wc wr)) (fun v13 _ => j + 1 - (intOf v13).toNat)
              case atStart => exact ⟨0, rfl, by omega, HA9.out, HO9.out, HL9.out, HU9.out⟩
              case round =>
                obtain ⟨k, rfl, hk, hM⟩ := hrel
                obtain ⟨we, hwe⟩ : ∃ we, we = wr := ⟨_, rfl⟩
                subst hwe
                have d1 := hM.out.1.cell (i := 1) (v := .slice (some ⟨g8, 0, none⟩) (j + 1) c8) rfl
                have d2 := hM.out.1.cell (i := 2) (v := .string ⟨mt.toArray⟩) rfl
                by_cases hkt : k < j + 1
                · have hkz : (k : Int) < (j : Int) + 1 := by omega
                  obtain ⟨g9, c9, hv9, _, _, hc9, hcl, hfz⟩ := hM.out.2.1.row (by intro h; have := congrArg List.length h; rw [List.length_replicate] at this; simp at this)
                  rw [List.length_replicate] at hv9 hc9
                  simp only [Value.slice.injEq, Option.some.injEq, Addr.mk.injEq, and_true, true_and] at hv9
                  obtain ⟨rfl, rfl⟩ := hv9
                  obtain ⟨old, e1⟩ : ∃ old, we.cell? ⟨g8, k, none⟩ = some old := ⟨_, hcl k (by rw [List.length_replicate]; exact hkt)⟩
                  have e2 := hfz k
                  have hbg : bh ≠ g8 := by
                    have h6 := lt_of_at HA8.out
                    have := HG8.out
                    omega
                  have hgs := grown_set we ⟨g8, k, none⟩ (.string ⟨mt.toArray⟩)
                  have HN := Hid.of (show At (we.setCell ⟨g8, k, none⟩ (.string ⟨mt.toArray⟩)) bh 45 [.slice a4 j c4, .slice (some ⟨g8, 0, none⟩) (j + 1) c8, .string ⟨mt.toArray⟩] ∧ OwnS (we.setCell ⟨g8, k, none⟩ (.string ⟨mt.toArray⟩)) wd.heap.size (.slice (some ⟨g8, 0, none⟩) (j + 1) c8) (List.replicate (j + 1) mt) ∧ SlS (we.setCell ⟨g8, k, none⟩ (.string ⟨mt.toArray⟩)) (.slice a4 j c4) (List.replicate j mt) ∧ Up wc (we.setCell ⟨g8, k, none⟩ (.string ⟨mt.toArray⟩)) from
                    ⟨hM.out.1.by hgs (fun e => by injection e with e; exact hbg e.symm), by
                      have h5 := hM.out.2.1.put (by rw [List.length_replicate]) k mt
                      rwa [rep_same] at h5, hM.out.2.2.1.by hgs (fun g hg e => by
                        have h6 := HLT.out g hg
                        have h7 : g8 = g := by injection e
                        have := HG8.out
                        omega), hM.out.2.2.2.by hgs (fun k2 hk2 => by
                        have h7 : g8 = k2 := by injection hk2
                        have := HG8.out
                        have := HU8.out.size
                        omega)⟩)
                  clear hcl hfz hgs hbg
                  go_wp2
                  go_roundw
                  case rel => exact ⟨k + 1, by go_num, by omega, HN⟩
                  case measure => simp [intOf]; omega
                · have hkz : ¬ (k : Int) < (j : Int) + 1 := by omega
                  have HKb := Hid.of (hI.out.1.step (HB1.out.trans (HU2.out.trans hM.out.2.2.2)))
                  have HBK := Hid.of (show ∀ g, u3.ownBlock = some g → g < w1.heap.size ∧ g < wc.heap.size from fun g hg => by
                    have h6 := (World.ownsRow.lt hI.out.1.own g hg).2
                    have := HB1.out.size
                    have := HU2.out.size
                    omega)
                  have HY := Hid.of (show HK we ⟨.slice a4 j c4, .slice (some ⟨g8, 0, none⟩) (j + 1) c8, mt, j⟩ ∧ HB we u3.ownBlock (.slice a4 j c4) ∧ HB we u3.ownBlock (.slice (some ⟨g8, 0, none⟩) (j + 1) c8) from
                    ⟨⟨hM.out.2.2.1, hM.out.2.1.sl, hp4⟩, (fun g hg => ⟨fun e => by
                      have h6 := (HBK.out g e).2
                      have := (HBH.out.2 g hg).1
                      omega, by
                      have h6 := HLT.out g hg
                      have := (World.ownsRow.lt hM.out.2.1 g8 rfl).2
                      have := HG8.out
                      omega⟩), (fun g hg => by
                      have h7 : g8 = g := by injection hg
                      subst h7
                      exact ⟨fun e => by
                        have h6 := (HBK.out _ e).2
                        have := HG8.out
                        have := HU8.out.size
                        omega, (World.ownsRow.lt hM.out.2.1 g8 rfl).2⟩)⟩)
                  have hxl := hI.out.2
                  have HXL := Hid.of hxl
                  go_wp2_with (with_reducible show wpList _ _ _ ({ dst := _, op := Op.load 45 _, type := _, pos := _, after := _, guard := _ } :: _) _ _; refine Shut.out ?_)
                  show wpList _ _ _ _ _ _
                  refine wpList_load_mid rfl 45 _ rfl bh 0 rfl [.slice a4 j c4, .slice (some ⟨g8, 0, none⟩) (j + 1) c8, .string ⟨mt.toArray⟩] _ hM.out.1.range Tryz.underlying45 rfl infoH3 ?_
                  simp only [Act.put, List.setIfInBounds_toArray, List.set_cons_zero, List.set_cons_succ]
                  clear d1 d2
                  go_wp2_with (with_reducible show wpList _ _ _ ({ dst := _, op := Op.call { callee := Callee.builtin Builtin.append, args := _, argTypes := _ }, type := _, pos := _, after := _, guard := _ } :: _) _ _; refine Shut.out ?_)
                  show wpList _ _ _ _ _ _
                  refine wpList_appH (w := w) rfl _ _ rfl u3 xs ⟨.slice a4 j c4, .slice (some ⟨g8, 0, none⟩) (j + 1) c8, mt, j⟩ rfl HKb.out 1 rfl (by omega) HY.out.1 rfl rfl HY.out.2.1 HY.out.2.2 ?_
                  intro vb wf hKf hgf
                  have HKF := Hid.of hKf
                  have HMK := Hid.of (marked_walk w.heap.size vb _ (by rw [List.length_append, hxl]; simp; omega) wf hKf.own (fun x hx => (hKf.ok x hx).1))
                  have HWF := Hid.of (show SlS wf (.slice (some ⟨gw, 0, none⟩) (m + 300) cw) (ks ++ mks 300) from (HWS.out.up hM.out.2.2.2).by hgf (fun g hg e => by
                    have h6 := (HBK.out g e).1
                    have h7 : gw = g := by injection hg
                    have := HGW.out.1
                    omega))
                  clear hKf hgf hxl
                  simp only [Act.put, List.setIfInBounds_toArray, List.set_cons_zero, List.set_cons_succ]
                  go_wp2_with fail
                  refine HMK.out.mono ?_
                  rintro e wg ⟨rfl, ug⟩
                  have HUG := Hid.of ug
                  have HKG := Hid.of (HKF.out.step ug)
                  have HKP2 := Hid.of (kept_walk (.slice (some ⟨gw, 0, none⟩) (m + 300) cw) (.slice ak m ck) ks (by rw [HM.out]; exact hkl) wg (HWF.out.up ug) (HSK.out.up HKG.out.up))
                  have xg := HKG.out.up.cell HCK.out
                  clear ug HMK
                  dsimp only
                  go_wp2_with fail
                  refine HKP2.out.mono ?_
                  rintro e wh ⟨rfl, uh⟩
                  have HKH := Hid.of (HKG.out.step uh)
                  clear uh xg HKP2
                  dsimp only
                  go_wp2
                  go_roundw
                  case rel => exact ⟨i + 1, _, by go_num, by omega, HKH.out, by rw [List.length_append, HXL.out]; rfl⟩
                  case measure => simp [intOf]; omega
    · have hltz : ¬ (i : Int) < (n : Int) := by omega
      have HKW := Hid.of hI.out.1
      have hxl := hI.out.2
      have HSS := Hid.of (show SlS (wb.alloc (.cells #[.string ⟨#[98, 46, 99, 64, 118, 49, 46, 48, 46, 48]⟩, .string ⟨#[97, 46, 99, 64, 118, 49, 46, 48, 46, 48]⟩] 9)) (.slice (some ⟨wb.heap.size, 0, none⟩) 2 2) [BKY, AKY] from ⟨_, _, rfl, Nat.le_refl _, .inr ⟨wb.heap.size, 0, rfl, by simp, fun i hi => by
        obtain rfl | rfl : i = 0 ∨ i = 1 := by simp at hi; omega
        · exact (at_new wb 9 [.string ⟨#[98, 46, 99, 64, 118, 49, 46, 48, 46, 48]⟩, .string ⟨#[97, 46, 99, 64, 118, 49, 46, 48, 46, 48]⟩]).cell (i := 0) rfl
        · exact (at_new wb 9 [.string ⟨#[98, 46, 99, 64, 118, 49, 46, 48, 46, 48]⟩, .string ⟨#[97, 46, 99, 64, 118, 49, 46, 48, 46, 48]⟩]).cell (i := 1) rfl⟩⟩)
      have HU1 := Hid.of (HKW.out.up.alloc (.cells #[.string ⟨#[98, 46, 99, 64, 118, 49, 46, 48, 46, 48]⟩, .string ⟨#[97, 46, 99, 64, 118, 49, 46, 48, 46, 48]⟩] 9))
      have HK1 := Hid.of (HKW.out.step ((Up.refl wb).alloc (.cells #[.string ⟨#[98, 46, 99, 64, 118, 49, 46, 48, 46, 48]⟩, .string ⟨#[97, 46, 99, 64, 118, 49, 46, 48, 46, 48]⟩] 9)))
      have HST := Hid.of (Sort_walk (.slice (some ⟨wb.heap.size, 0, none⟩) 2 2) [BKY, AKY] two_sz _ (HG.out.up HU1.out) HSS.out)
      clear hlt hI
      go_wp2_with fail
      refine HST.out.mono ?_
      rintro e w2 ⟨v2, e2, l2, rfl, he2, hn2, hy2, hO2, u2⟩
      have he0 : e2 = 0 := by rw [he2, if_neg (by decide)]; exact two_kE
      subst he0
      obtain ⟨hp2, hs2, g2, hv2, _⟩ := hy2 rfl
      have hl2 : l2 = [AKY, BKY] := SRT.one two_kE ⟨hp2, hs2⟩ ⟨List.Perm.swap BKY AKY [], two_pw⟩
      subst hl2
      subst hv2
      obtain ⟨g3, c3, hv3, _, _, _, hcl, _⟩ := hO2.row (by simp)
      simp only [Value.slice.injEq, Option.some.injEq, Addr.mk.injEq, and_true] at hv3
      have hg3 := hv3.1
      clear hv3
      subst hg3
      have HC0 := Hid.of (show w2.cell? ⟨g2, 0, none⟩ = some (.string ⟨#[97, 46, 99, 64, 118, 49, 46, 48, 46, 48]⟩) from hcl 0 (by simp))
      have HK2 := Hid.of (HK1.out.step u2)
      have HMK := Hid.of (marked_walk w.heap.size _ xs (by rw [hxl]; omega) w2 HK2.out.own (fun x hx => (HK2.out.ok x hx).1))
      clear he2 hn2 hy2 hO2 u2 hp2 hs2 hcl HST hxl
      dsimp only
      go_wp2_with fail
      refine HMK.out.mono ?_
      rintro e w3 ⟨rfl, u3'⟩
      have h0 := u3'.cell HC0.out
      have HU3 := Hid.of (HK2.out.up.trans u3')
      clear u3' HMK
      dsimp only
      go_wp2
      go_ret
      exact ⟨rfl, HU3.out⟩
end Go.Proofs.YtnciglpdjpckiaaGreatDoor
namespace Go.Proofs.YtnciglpdjpckiaaGreatDoor
open Go.ChangeShapes Go.WideShapes Go.ChangeAt Go.WideMaps Go.WideElems Go.RowKit TextNum
set_option maxRecDepth 100000 in
theorem cellsSst : Tryz.prog.cellsOf 22 = 1 := by kernel_rfl
theorem bulk_in {H : Type} {l : List (DataW H)} {x : DataW H} (h : x ∈ l) : Rows.uptoBulk x ≤ Rows.uptoBulkAll l := by
  obtain ⟨j, hj, rfl⟩ := List.mem_iff_getElem.1 h
  exact bulk_mem (List.getElem?_eq_getElem hj)
theorem sst_open {H : Type} {enc : TypeId × Value → H} {W : World} {fuel : Nat} {cs : List Value} {z : DataW H × List MemPlace}
    (hf : DataW.trod enc Tryz.prog W 0 (fun _ => true) true fuel 22 cs = some z) : ∃ v ks, cs = [v] ∧ SlS W v ks ∧ ks.length ≤ Rows.uptoBulk z.1 ∧ ∀ s ∈ ks, s.length ≤ Rows.uptoBulk z.1 := by
  obtain ⟨d, ps⟩ := z
  have key : ∀ a len cap, cs = [.slice a len cap] → ∃ v ks, cs = [v] ∧ SlS W v ks ∧ ks.length ≤ Rows.uptoBulk d ∧ ∀ s ∈ ks, s.length ≤ Rows.uptoBulk d := fun a len cap h => by
    subst h
    obtain ⟨ks, h1, h2, h3⟩ := st_openC (v := .slice a len cap) (d := d) (ps := ps) ⟨fuel, hf⟩ a len cap rfl
    exact ⟨_, ks, rfl, h1, h2, h3⟩
  rcases DataW.trod_slice Tryz.underlying22 hf with ⟨e1, _⟩ | ⟨ad, l2, c2, _, _, _, _, e1, _⟩
  · exact key _ _ _ e1
  · exact key _ _ _ e1
end Go.Proofs.YtnciglpdjpckiaaGreatDoor
namespace Go.Proofs.YtnciglpdjpckiaaGreatDoor
open Go.ChangeShapes Go.WideShapes Go.ChangeAt Go.WideMaps Go.WideElems Go.RowKit TextNum
set_option maxRecDepth 100000 in
/-- lists of texts as an argument, with the bulk -/
theorem lls_open {H : Type} {enc : TypeId × Value → H} {W : World} {v : Value} {d : DataW H} {ps : List MemPlace} {base : Nat}
    (hval : Value.okWide Tryz.prog W .any base 38 v) (h : DataW.Trod enc Tryz.prog W 0 (fun _ => true) true 38 v d ps) (hk : Rows.uptoBulk d ≤ 1048576) :
    ∃ a kss c, v = .slice a (List.length kss) c ∧ List.length kss ≤ 1048576 ∧ List.length kss ≤ c ∧ LL W a kss := by
  obtain ⟨a, len, cap, rfl⟩ := okWide_slice Tryz.underlying38 hval
  obtain ⟨fuel, hf⟩ := h
  have hf' : DataW.trod enc Tryz.prog W 0 (fun _ => true) true fuel 38 [.slice a len cap] = some (d, ps) := hf
  rcases DataW.trod_slice Tryz.underlying38 hf' with ⟨e1, _⟩ | ⟨ad, l2, c2, elems, rest, n, _, e1, hx, _, hlc, _, hel0, hel, _, _⟩
  · simp only [List.cons.injEq, Value.slice.injEq, and_true] at e1
    obtain ⟨rfl, rfl, rfl⟩ := e1
    exact ⟨none, [], 0, rfl, Nat.zero_le _, Nat.le_refl _, fun i hi => absurd hi (Nat.not_lt_zero _)⟩
  · simp only [List.cons.injEq, Value.slice.injEq, and_true] at e1
    obtain ⟨rfl, rfl, rfl⟩ := e1
    injection hx with hd _
    rw [cellsSst] at hel
    have hbulk : Rows.uptoBulkAll (elems.map (·.1)) ≤ Rows.uptoBulk d := by
      rw [hd]
      simp only [Rows.uptoBulk]
      omega
    have hlen : len ≤ 1048576 := by
      have := len_leB (elems.map (·.1))
      rw [List.length_map] at this
      omega
    have key : ∀ i, i < len → ∃ (ks : List (List UInt8)) (vk : Value), W.cell? (ad.add i) = some vk ∧ SlS W vk ks ∧ ks.length ≤ 1048576 ∧ ∀ t ∈ ks, t.length ≤ 1048576 := by
      intro i hi
      have h1 := hel i hi
      rw [List.getElem?_eq_getElem (by omega), Option.bind_eq_some_iff] at h1
      obtain ⟨cs, hcs, hy⟩ := h1
      obtain ⟨vk, ks, rfl, hS, q2, q3⟩ := sst_open hy
      have hb1 := bulk_in (l := elems.map (·.1)) (x := (elems[i]'(by omega)).1) (List.mem_map.2 ⟨_, List.getElem_mem _, rfl⟩)
      have h4 := (World.cells?_some hcs).2.2 0 (by decide)
      rw [Nat.mul_one] at h4
      have e : (ad.add i).add 0 = ad.add i := by
        obtain ⟨b, off, sp⟩ := ad
        unfold Addr.add
        split <;> simp_all
      rw [e] at h4
      exact ⟨ks, vk, h4.trans rfl, hS, by omega, fun t ht => by have := q3 t ht; omega⟩
    have mk : ∀ k, k ≤ len → ∃ kss : List (List (List UInt8)), kss.length = k ∧ ∀ i (hi : i < kss.length), ∃ vk, W.cell? (ad.add i) = some vk ∧ SlS W vk kss[i] ∧ kss[i].length ≤ 1048576 ∧ ∀ t ∈ kss[i], t.length ≤ 1048576 := by
      intro k
      induction k with
      | zero => exact fun _ => ⟨[], rfl, fun i hi => by cases hi⟩
      | succ k ih =>
        intro hk
        obtain ⟨ts, hl, ht⟩ := ih (by omega)
        obtain ⟨ks, hk2⟩ := key k (by omega)
        refine ⟨ts ++ [ks], by rw [List.length_append, hl]; rfl, fun i hi => ?_⟩
        by_cases hik : i < ts.length
        · rw [List.getElem_append_left hik]
          exact ht i hik
        · have e : i = k := by rw [List.length_append] at hi; simp at hi; omega
          subst e
          rw [List.getElem_append_right (by omega)]
          simp only [hl, Nat.sub_self, List.getElem_cons_zero]
          exact hk2
    obtain ⟨kss, hl, ht⟩ := mk len (Nat.le_refl _)
    refine ⟨some ad, kss, cap, by rw [hl], by omega, by omega, fun i hi => ?_⟩
    obtain ⟨vk0, hc0, _⟩ := ht 0 (by omega)
    have hsp := plain_of hc0
    obtain ⟨vk, hc, hS, h1, h2⟩ := ht i hi
    obtain ⟨b, off, sp⟩ := ad
    obtain rfl : sp = none := hsp
    rw [add_plain] at hc
    exact ⟨b, off, vk, rfl, hc, hS, h1, h2⟩
theorem glKeeps {W : World} (h : laidMetH Tryz.prog Rows.modverKeepsUptoRow.laid W) (hs : W.ShapedOpen Tryz.prog) : GR W ∧ TK W := by
  rw [MakeChecks.laidMetH_plain _ _ _ (by kernel_rfl)] at h
  exact ⟨⟨⟨chars_of (Go.Lib.laidMet.reads h (by simp [Rows.modverKeepsUptoRow])), max_of hs⟩, res_of (Go.Lib.laidMet.reads h (by simp [Rows.modverKeepsUptoRow]))⟩, taken_of (Go.Lib.laidMet.reads h (by simp [Rows.modverKeepsUptoRow]))⟩
end Go.Proofs.YtnciglpdjpckiaaGreatDoor
