import Derived.Test.YtnciglpdjpckiaaGreatDoorKF
import Derived.Test.YtnciglpdjpckiaaGreatDoorK8
import Derived.Test.YtnciglpdjpckiaaGreatDoorKW
import Derived.Test.YtnciglpdjpckiaaGreatDoorKD
import Derived.Laws.StructEq
import Derived.Stop.BytesEq
import Derived.Test.YtnciglpdjpckiaaGreatDoorKY
import Derived.Test.YtnciglpdjpckiaaGreatDoorRb
import Derived.OpenShut
import Derived.ChangeSame
import Derived.WideKeyArgs
namespace Go.Proofs.YtnciglpdjpckiaaGreatDoor
open Go.RowKit Go.Shelf TextNum ModNum
set_option maxRecDepth 100000 in
set_option maxHeartbeats 4000000 in
theorem CompareR_walk (a b : ByteArray) (w : World) : Calls Tryz.prog 41 #[.string a, .string b] w fun e w' => e = .returned (.int .i64 (cmpV a.data.toList b.data.toList)) ∧ Up w w' := by
  have HSa := fun w' => Hid.of (SplitR_walk a w')
  have HSb := fun w' => Hid.of (SplitR_walk b w')
  go_enter Tryz.func41, Tryz.ntmps41
  go_wp2_with fail
  refine (HSa w).out.mono ?_
  rintro e w1 ⟨m0, m1, m2, va, i1, rfl, ha, ⟨a1, l1, c1, rfl⟩, u1⟩
  have HU1 := Hid.of u1
  have HVa := Hid.of ha
  clear u1 ha HSa
  dsimp only
  have HA1 := Hid.of (at_new w1 111 z5)
  have HW1 := Hid.of (HU1.out.alloc (.cells z5.toArray 111))
  have HZ1 := Hid.of ((Up.refl w1).alloc (.cells z5.toArray 111))
  go_wp2_with (with_reducible show wpList _ _ _ ({ dst := _, op := Op.store 111 _ _, type := _, pos := _, after := _, guard := _ } :: _) _ _; refine Shut.out ?_)
  show wpList _ _ _ _ _ _
  rw [z5lit]
  generalize w1.alloc (.cells z5.toArray 111) = W1 at *
  refine wpList_store_at rfl _ _ _ rfl w1.heap.size HA1.out [.string ⟨m0.toArray⟩, .string ⟨m1.toArray⟩, .string ⟨m2.toArray⟩, .slice a1 l1 c1, .bool i1] rfl rfl rfl (by kernel_rfl) (one5 _ _ _ _ _ _ _) fun x1 hx1 hg1 => ?_
  have HX1 := Hid.of hx1
  have HXU := Hid.of (HW1.out.by hg1 (fun g hg => by have := HU1.out.size; injection hg with hg; omega))
  have HXS := Hid.of (HZ1.out.by hg1 (fun g hg => by injection hg with hg; omega))
  clear hx1 hg1 HA1 HW1 HZ1
  simp only [Act.put]
  go_wp2_with fail
  refine (HSb x1).out.mono ?_
  rintro e w2 ⟨n0, n1, n2, vb, i2, rfl, hb, ⟨a2, l2, c2, rfl⟩, u2⟩
  have HU2 := Hid.of (HXU.out.trans u2)
  have HXa := Hid.of (HX1.out.up u2)
  have HSU := Hid.of (HXS.out.trans u2)
  have HVb := Hid.of hb
  have HLt := Hid.of (lt_of_at HXa.out)
  clear u2 hb HSb HX1 HXU HXS
  dsimp only
  have HA2 := Hid.of (at_new w2 111 z5)
  have HA1 := Hid.of (HXa.out.up ((Up.refl w2).alloc (.cells z5.toArray 111)))
  have HW2 := Hid.of (HU2.out.alloc (.cells z5.toArray 111))
  have HZ1 := Hid.of (HSU.out.alloc (.cells z5.toArray 111))
  have HZ2 := Hid.of ((Up.refl w2).alloc (.cells z5.toArray 111))
  go_wp2_with (with_reducible show wpList _ _ _ ({ dst := _, op := Op.store 111 _ _, type := _, pos := _, after := _, guard := _ } :: _) _ _; refine Shut.out ?_)
  show wpList _ _ _ _ _ _
  rw [z5lit]
  generalize w2.alloc (.cells z5.toArray 111) = W2 at *
  refine wpList_store_at rfl _ _ _ rfl w2.heap.size HA2.out [.string ⟨n0.toArray⟩, .string ⟨n1.toArray⟩, .string ⟨n2.toArray⟩, .slice a2 l2 c2, .bool i2] rfl rfl rfl (by kernel_rfl) (one5 _ _ _ _ _ _ _) fun x2 hx2 hg2 => ?_
  have HY2 := Hid.of hx2
  have HY1 := Hid.of (HA1.out.by hg2 (by intro h; have := HLt.out; injection h with h; omega))
  have HU := Hid.of (HW2.out.by hg2 (fun g hg => by have := HU2.out.size; injection hg with hg; omega))
  have HSa := Hid.of (HZ1.out.by hg2 (fun g hg => by have := HSU.out.size; injection hg with hg; omega))
  have HSb := Hid.of (HZ2.out.by hg2 (fun g hg => by injection hg with hg; omega))
  have HNe := Hid.of (show w1.heap.size < w2.heap.size from HLt.out)
  clear hx2 hg2 HA1 HA2 HW2 HZ1 HZ2 HXa HSU HU1 HU2 HLt
  simp only [Act.put]
  cases hva : ver a.data.toList with
  | none =>
    cases hvb : ver b.data.toList with
    | none =>
      have HR := Hid.of (cmpV_nn hva hvb)
      simp only [Option.isSome_none]
      clear hva hvb
      go_wp2
      go_ret
      rw [HR.out]
      exact ⟨rfl, HU.out⟩
    | some qb =>
      have HR := Hid.of (cmpV_no hva hvb)
      simp only [Option.isSome_none, Option.isSome_some]
      clear hva hvb
      go_wp2
      go_ret
      rw [HR.out]
      exact ⟨rfl, HU.out⟩
  | some qa =>
    cases hvb : ver b.data.toList with
    | none =>
      have HR := Hid.of (cmpV_on hva hvb)
      simp only [Option.isSome_none, Option.isSome_some]
      clear hva hvb
      go_wp2
      go_ret
      rw [HR.out]
      exact ⟨rfl, HU.out⟩
    | some qb =>
      obtain ⟨ea, sa, _⟩ := HVa.out qa hva
      obtain ⟨eb, sb, _⟩ := HVb.out qb hvb
      have hba := ver_bounds hva
      have hbb := ver_bounds hvb
      obtain ⟨na, wa, ia⟩ := qa
      obtain ⟨nb, wb', ib⟩ := qb
      simp only at ea eb sa sb hba hbb
      subst ea eb
      have HS1 := Hid.of (sa.up HSa.out)
      have HS2 := Hid.of (sb.up HSb.out)
      have HB := Hid.of (And.intro hba hbb)
      have HR := Hid.of (show cmpV a.data.toList b.data.toList = if cmp3 [m0, m1, m2] [n0, n1, n2] = 0 then cmpWs wa wb' else cmp3 [m0, m1, m2] [n0, n1, n2] by
        unfold cmpV
        rw [hva, hvb]
        rfl)
      simp only [Option.isSome_some]
      clear hva hvb sa sb hba hbb HVa HVb HSa HSb
      go_wp2
      go_loopw [9, 10] (fun v9 _ wr => ∃ i : Nat, v9 = .int .i64 (i : Int) ∧ i ≤ 3 ∧ Hid (cmp3 [m0, m1, m2] [n0, n1, n2] = cmp3 ([m0, m1, m2].drop i) ([n0, n1, n2].drop i) ∧ Up x2 wr)) (fun v9 _ _ => 3 - (intOf v9).toNat)
      case atStart => exact ⟨0, rfl, by omega, rfl, Up.refl _⟩
      case round =>
        obtain ⟨i, rfl, hi, hI⟩ := hrel
        obtain ⟨wb, hwb⟩ : ∃ wb, wb = wr := ⟨_, rfl⟩
        subst hwb
        by_cases hlt : i < 3
        · have hltz : (i : Int) < 3 := by omega
          obtain ⟨x, hx, hx2⟩ := pc_get (n0 := m0) (n1 := m1) (n2 := m2) (v := .slice a1 l1 c1) (inc := i1) hlt
          obtain ⟨y, hy, hy2⟩ := pc_get (n0 := n0) (n1 := n1) (n2 := n2) (v := .slice a2 l2 c2) (inc := i2) hlt
          have hcx := (HY1.out.up hI.out.2).cell hx2
          have hcy := (HY2.out.up hI.out.2).cell hy2
          have HE := Hid.of (hI.out.1.trans (cmp3_step hx hy))
          have HC := fun w' => Hid.of (numbers_walk ⟨x.toArray⟩ ⟨y.toArray⟩ (by rw [size_str]; exact HB.out.1.1 x (List.mem_of_getElem? hx)) w')
          simp only at HC
          clear hx hx2 hy hy2
          by_cases hz : cmpU x y = 0
          · have HE2 := Hid.of (HE.out.trans (if_pos hz))
            rw [hz] at HC
            clear hz
            go_wp2
            go_region_with (go_at_call 75; refine (HC _).out.mono ?_; rintro e w5 ⟨rfl, u5⟩; have H5 := Hid.of (Up.trans (by first | exact hI.out.2.drew | exact hI.out.2) u5); clear u5)
            all_goals go_wp2
            all_goals go_roundw
            all_goals first | exact ⟨i + 1, by go_num, by omega, HE2.out, H5.out⟩ | (simp [intOf]; omega)
          · have HE2 := Hid.of (HE.out.trans (if_neg hz))
            have hzz : (cmpU x y != 0) = true := by rw [bne_iff_ne]; exact hz
            have HR2 := Hid.of (show cmpV a.data.toList b.data.toList = cmpU x y by rw [HR.out, HE2.out, if_neg hz])
            generalize cmpU x y = cu at *
            clear hz
            go_wp2
            go_region_with (go_at_call 75; refine (HC _).out.mono ?_; rintro e w5 ⟨rfl, u5⟩; have H5 := Hid.of (Up.trans (by first | exact hI.out.2.drew | exact hI.out.2) u5); clear u5)
            all_goals go_wp2
            all_goals go_ret
            all_goals rw [HR2.out]
            all_goals exact ⟨rfl, HU.out.trans H5.out⟩
        · have hltz : ¬ (i : Int) < 3 := by omega
          have HR2 := Hid.of (show cmpV a.data.toList b.data.toList = cmpWs wa wb' by
            have h2 := hI.out.1
            have h3 : i = 3 := by omega
            rw [h3] at h2
            have h4 : cmp3 [m0, m1, m2] [n0, n1, n2] = 0 := h2
            rw [HR.out, if_pos h4])
          have hc1 := (HY1.out.up hI.out.2).cell (i := 3) rfl
          have hc2 := (HY2.out.up hI.out.2).cell (i := 3) rfl
          have HL := Hid.of (releases_walk _ _ wa wb' wb (HS1.out.up hI.out.2) (HS2.out.up hI.out.2) HB.out.1.2.1 HB.out.2.2.1 HB.out.1.2.2 HB.out.2.2.2)
          generalize cmpWs wa wb' = cw at *
          go_wp2_with fail
          refine (HL.out).mono ?_
          rintro e w9 ⟨rfl, u9⟩
          have H9 := Hid.of (hI.out.2.trans u9)
          have Hu9 := Hid.of u9
          clear u9
          dsimp only
          go_wp2
          go_ret
          rw [HR2.out]
          exact ⟨rfl, HU.out.trans H9.out⟩
end Go.Proofs.YtnciglpdjpckiaaGreatDoor
namespace Go.Proofs.YtnciglpdjpckiaaGreatDoor
open Go.RowKit Go.Shelf TextNum ModNum
theorem pkE_two {s : List UInt8} (h : pkE s = 0) : 64 ∈ s ∧ 64 ∉ bhd 64 s := by
  have h1 := pkE_at h
  refine ⟨h1, fun h2 => ?_⟩
  unfold pkE at h
  rw [if_pos (.inr h2)] at h
  simp at h
theorem OwnS.two {w : World} {B : Nat} {v : Value} {a b : List UInt8} {p q : ByteArray} (h : OwnS w B v [a, b]) (hp : (⟨a.toArray⟩ : ByteArray) = p) (hq : (⟨b.toArray⟩ : ByteArray) = q) : ∃ g c, v = .slice (some ⟨g, 0, none⟩) 2 c ∧ 2 ≤ c ∧ w.cell? ⟨g, 0, none⟩ = some (.string p) ∧ w.cell? ⟨g, 1, none⟩ = some (.string q) := by
  obtain ⟨g, c, rfl, _, _, hc, hcl, _⟩ := h.row (by simp)
  have h0 := hcl 0 (by simp)
  have h1 := hcl 1 (by simp)
  simp only [List.getElem_cons_zero, List.getElem_cons_succ, hp, hq] at h0 h1
  exact ⟨g, c, rfl, hc, h0, h1⟩
set_option maxRecDepth 100000 in
set_option maxHeartbeats 1000000 in
theorem Before_walk (s t : ByteArray) (hs : s.size ≤ 1048576) (ht : t.size ≤ 1048576) (h0 : pkE s.data.toList = 0) (h1 : pkE t.data.toList = 0) (w : World) : Calls Tryz.prog 35 #[.string s, .string t] w fun e w' => e = .returned (.bool (decide (kcm s.data.toList t.data.toList < 0))) ∧ Up w w' := by
  have HP := Hid.of (Pieces_walk s 64 hs w)
  have HQ := fun w' => Hid.of (Pieces_walk t 64 ht w')
  rw [show ((64 : UInt8).toNat : Int) = 64 from rfl] at HP HQ
  have k1 := pkE_two h0
  have k2 := pkE_two h1
  rw [pcs_pair k1.1 k1.2] at HP
  rw [pcs_pair k2.1 k2.2] at HQ
  obtain ⟨p, hp1, hp2⟩ := ba_of (ahd 64 s.data.toList)
  obtain ⟨v, hv1, hv2⟩ := ba_of (bhd 64 s.data.toList)
  obtain ⟨q, hq1, hq2⟩ := ba_of (ahd 64 t.data.toList)
  obtain ⟨x, hx1, hx2⟩ := ba_of (bhd 64 t.data.toList)
  have hpl : p.size ≤ 1048576 ∧ v.size ≤ 1048576 := by
    have h2 := congrArg List.length (cut_eq k1.1)
    rw [List.length_append, List.length_cons, ← hp1, ← hv1, len_of, len_of, len_of] at h2
    omega
  have HB1 := fun w' => Hid.of (bytes_walk' p q hpl.1 w')
  have HB2 := fun w' => Hid.of (CompareR_walk v x w')
  have HB3 := fun w' => Hid.of (bytes_walk' v x hpl.2 w')
  have HR : Hid (kcm s.data.toList t.data.toList = if cmpB p.data.toList q.data.toList = 0 then (if cmpV v.data.toList x.data.toList = 0 then cmpB v.data.toList x.data.toList else cmpV v.data.toList x.data.toList) else cmpB p.data.toList q.data.toList) := by
    rw [hp1, hv1, hq1, hx1]; rfl
  generalize kcm s.data.toList t.data.toList = rr at *
  generalize cmpB p.data.toList q.data.toList = r0 at *
  generalize cmpV v.data.toList x.data.toList = r1 at *
  generalize cmpB v.data.toList x.data.toList = r2 at *
  have HH := Hid.of (And.intro (And.intro hp2 hv2) (And.intro hq2 hx2))
  clear k1 k2 h0 h1 hp1 hp2 hv1 hv2 hq1 hq2 hx1 hx2 hpl hs ht
  go_enter Tryz.func35, Tryz.ntmps35
  go_wp2_with fail
  refine HP.out.mono ?_
  rintro e w1 ⟨va, rfl, ha, u1⟩
  have H1 := Hid.of u1
  obtain ⟨g1, c1, rfl, hc1, ca0, ca1⟩ := ha.two HH.out.1.1 HH.out.1.2
  have HCA := Hid.of (And.intro ca0 ca1)
  have hc1z : (2 : Int) ≤ (c1 : Int) := by omega
  clear HP ha u1 ca0 ca1 hc1
  dsimp only
  go_wp2_with fail
  refine (HQ w1).out.mono ?_
  rintro e w2 ⟨vb, rfl, hb, u2⟩
  have H2 := Hid.of u2
  have H12 := Hid.of (H1.out.trans u2)
  obtain ⟨g2, c2, rfl, hc2, cb0, cb1⟩ := hb.two HH.out.2.1 HH.out.2.2
  have HCB := Hid.of (And.intro cb0 cb1)
  have hc2z : (2 : Int) ≤ (c2 : Int) := by omega
  clear HQ hb u2 cb0 cb1 hc2 HH
  dsimp only
  go_wp2
  refine wp_region_held_drew (S := fun w5 => Up w2 w5) (by kernel_rfl) ((Up.refl w2).drew) (fun hS => ?_)
  refine wpAnyH_take (i := 0) (oi := { dst := some 12, op := Go.Op.move (Go.Operand.tmp 5), type := 22, pos := "order.go:102", after := #[], guard := none }) (v := .slice (some ⟨g1, 0, none⟩) 2 c1) rfl (by kernel_rfl) (by kernel_rfl) (by kernel_rfl) (fun _ _ _ h => h) (Or.inl ⟨by kernel_rfl, ?_⟩) hS ?_
  · intro w5 hSw
    go_simp
  simp only [Act.put, List.setIfInBounds_toArray, List.set_cons_zero, List.set_cons_succ]
  refine wpAnyH_take (i := 1) (oi := { dst := some 13, op := Go.Op.indexAddr 22 (Go.Operand.tmp 12) (Go.Operand.const (Go.Value.int Go.IntKind.i64 0)), type := 0, pos := "order.go:102", after := #[{ on := 0, ground := Go.Ground.data }], guard := none }) (v := .pointer (some ⟨g1, 0, none⟩)) rfl (by kernel_rfl) (by kernel_rfl) (by kernel_rfl) (fun _ _ _ h => h) (Or.inl ⟨by kernel_rfl, ?_⟩) hS ?_
  · intro w5 hSw
    go_simp
  simp only [Act.put, List.setIfInBounds_toArray, List.set_cons_zero, List.set_cons_succ]
  refine wpAnyH_take (i := 2) (oi := { dst := some 14, op := Go.Op.load 9 (Go.Operand.tmp 13), type := 9, pos := "order.go:102", after := #[{ on := 1, ground := Go.Ground.data }], guard := none }) (v := .string p) rfl (by kernel_rfl) (by kernel_rfl) (by kernel_rfl) (fun _ _ _ h => h) (Or.inl ⟨by kernel_rfl, ?_⟩) hS ?_
  · intro w5 hSw
    have hq := hSw.cell (H2.out.cell HCA.out.1)
    go_simp
  simp only [Act.put, List.setIfInBounds_toArray, List.set_cons_zero, List.set_cons_succ]
  refine wpAnyH_take (i := 3) (oi := { dst := some 15, op := Go.Op.move (Go.Operand.tmp 6), type := 22, pos := "order.go:102", after := #[], guard := none }) (v := .slice (some ⟨g2, 0, none⟩) 2 c2) rfl (by kernel_rfl) (by kernel_rfl) (by kernel_rfl) (fun _ _ _ h => h) (Or.inl ⟨by kernel_rfl, ?_⟩) hS ?_
  · intro w5 hSw
    go_simp
  simp only [Act.put, List.setIfInBounds_toArray, List.set_cons_zero, List.set_cons_succ]
  refine wpAnyH_take (i := 4) (oi := { dst := some 16, op := Go.Op.indexAddr 22 (Go.Operand.tmp 15) (Go.Operand.const (Go.Value.int Go.IntKind.i64 0)), type := 0, pos := "order.go:102", after := #[{ on := 3, ground := Go.Ground.data }], guard := none }) (v := .pointer (some ⟨g2, 0, none⟩)) rfl (by kernel_rfl) (by kernel_rfl) (by kernel_rfl) (fun _ _ _ h => h) (Or.inl ⟨by kernel_rfl, ?_⟩) hS ?_
  · intro w5 hSw
    go_simp
  simp only [Act.put, List.setIfInBounds_toArray, List.set_cons_zero, List.set_cons_succ]
  refine wpAnyH_take (i := 5) (oi := { dst := some 17, op := Go.Op.load 9 (Go.Operand.tmp 16), type := 9, pos := "order.go:102", after := #[{ on := 4, ground := Go.Ground.data }], guard := none }) (v := .string q) rfl (by kernel_rfl) (by kernel_rfl) (by kernel_rfl) (fun _ _ _ h => h) (Or.inl ⟨by kernel_rfl, ?_⟩) hS ?_
  · intro w5 hSw
    have hq := hSw.cell HCB.out.1
    go_simp
  simp only [Act.put, List.setIfInBounds_toArray, List.set_cons_zero, List.set_cons_succ]
  refine wpAnyH_ready (rs := [6]) (by kernel_rfl) (by simp) ?_
  refine AllReadyH.cons (o := { dst := some 18, op := Go.Op.call { callee := Go.Callee.value (Go.Operand.func 63), args := #[Go.Operand.tmp 14, Go.Operand.tmp 17], argTypes := #[9, 9] }, type := 3, pos := "order.go:102", after := #[{ on := 2, ground := Go.Ground.data }, { on := 5, ground := Go.Ground.data }], guard := none }) rfl (fun K hK => ?_) AllReadyH.nil
  rw [if_pos (by kernel_rfl)]
  go_simp
  refine (HB1 _).out.mono ?_
  rintro e v1 ⟨rfl, u1⟩
  dsimp only
  refine hK.out _ _ (hS.trans u1) (fun hS1 => ?_)
  clear hK hS
  refine wpAnyH_ready (rs := [7]) (by kernel_rfl) (by simp) ?_
  refine AllReadyH.cons (o := { dst := some 7, op := Go.Op.assign (Go.Operand.tmp 18), type := 3, pos := "order.go:102", after := #[{ on := 6, ground := Go.Ground.data }, { on := 6, ground := Go.Ground.chain }, { on := 0, ground := Go.Ground.phase }, { on := 1, ground := Go.Ground.phase }, { on := 2, ground := Go.Ground.phase }, { on := 3, ground := Go.Ground.phase }, { on := 4, ground := Go.Ground.phase }, { on := 5, ground := Go.Ground.phase }, { on := 6, ground := Go.Ground.phase }], guard := none }) rfl (fun K hK => ?_) AllReadyH.nil
  rw [if_pos (by kernel_rfl)]
  go_simp
  refine hK.out _ _ hS1 (fun hS2 => ?_)
  clear hK hS1
  refine wpAnyH_done (by kernel_rfl) ?_ _
  have H7 := Hid.of hS2
  clear hS2
  by_cases h0 : r0 = 0
  · subst h0
    rw [if_pos rfl] at HR
    go_wp2
    refine wp_region_held_drew (S := fun w5 => Up w2 w5) (by kernel_rfl) (H7.out.drew) (fun hS => ?_)
    refine wpAnyH_take (i := 0) (oi := { dst := some 23, op := Go.Op.move (Go.Operand.tmp 5), type := 22, pos := "order.go:106", after := #[], guard := none }) (v := .slice (some ⟨g1, 0, none⟩) 2 c1) rfl (by kernel_rfl) (by kernel_rfl) (by kernel_rfl) (fun _ _ _ h => h) (Or.inl ⟨by kernel_rfl, ?_⟩) hS ?_
    · intro w5 hSw
      go_simp
    simp only [Act.put, List.setIfInBounds_toArray, List.set_cons_zero, List.set_cons_succ]
    refine wpAnyH_take (i := 1) (oi := { dst := some 24, op := Go.Op.indexAddr 22 (Go.Operand.tmp 23) (Go.Operand.const (Go.Value.int Go.IntKind.i64 1)), type := 0, pos := "order.go:106", after := #[{ on := 0, ground := Go.Ground.data }], guard := none }) (v := .pointer (some ⟨g1, 1, none⟩)) rfl (by kernel_rfl) (by kernel_rfl) (by kernel_rfl) (fun _ _ _ h => h) (Or.inl ⟨by kernel_rfl, ?_⟩) hS ?_
    · intro w5 hSw
      go_simp
    simp only [Act.put, List.setIfInBounds_toArray, List.set_cons_zero, List.set_cons_succ]
    refine wpAnyH_take (i := 2) (oi := { dst := some 25, op := Go.Op.load 9 (Go.Operand.tmp 24), type := 9, pos := "order.go:106", after := #[{ on := 1, ground := Go.Ground.data }], guard := none }) (v := .string v) rfl (by kernel_rfl) (by kernel_rfl) (by kernel_rfl) (fun _ _ _ h => h) (Or.inl ⟨by kernel_rfl, ?_⟩) hS ?_
    · intro w5 hSw
      have hq := hSw.cell (H2.out.cell HCA.out.2)
      go_simp
    simp only [Act.put, List.setIfInBounds_toArray, List.set_cons_zero, List.set_cons_succ]
    refine wpAnyH_take (i := 3) (oi := { dst := some 26, op := Go.Op.move (Go.Operand.tmp 6), type := 22, pos := "order.go:106", after := #[], guard := none }) (v := .slice (some ⟨g2, 0, none⟩) 2 c2) rfl (by kernel_rfl) (by kernel_rfl) (by kernel_rfl) (fun _ _ _ h => h) (Or.inl ⟨by kernel_rfl, ?_⟩) hS ?_
    · intro w5 hSw
      go_simp
    simp only [Act.put, List.setIfInBounds_toArray, List.set_cons_zero, List.set_cons_succ]
    refine wpAnyH_take (i := 4) (oi := { dst := some 27, op := Go.Op.indexAddr 22 (Go.Operand.tmp 26) (Go.Operand.const (Go.Value.int Go.IntKind.i64 1)), type := 0, pos := "order.go:106", after := #[{ on := 3, ground := Go.Ground.data }], guard := none }) (v := .pointer (some ⟨g2, 1, none⟩)) rfl (by kernel_rfl) (by kernel_rfl) (by kernel_rfl) (fun _ _ _ h => h) (Or.inl ⟨by kernel_rfl, ?_⟩) hS ?_
    · intro w5 hSw
      go_simp
    simp only [Act.put, List.setIfInBounds_toArray, List.set_cons_zero, List.set_cons_succ]
    refine wpAnyH_take (i := 5) (oi := { dst := some 28, op := Go.Op.load 9 (Go.Operand.tmp 27), type := 9, pos := "order.go:106", after := #[{ on := 4, ground := Go.Ground.data }], guard := none }) (v := .string x) rfl (by kernel_rfl) (by kernel_rfl) (by kernel_rfl) (fun _ _ _ h => h) (Or.inl ⟨by kernel_rfl, ?_⟩) hS ?_
    · intro w5 hSw
      have hq := hSw.cell HCB.out.2
      go_simp
    simp only [Act.put, List.setIfInBounds_toArray, List.set_cons_zero, List.set_cons_succ]
    refine wpAnyH_ready (rs := [6]) (by kernel_rfl) (by simp) ?_
    refine AllReadyH.cons (o := { dst := some 29, op := Go.Op.call { callee := Go.Callee.value (Go.Operand.func 41), args := #[Go.Operand.tmp 25, Go.Operand.tmp 28], argTypes := #[9, 9] }, type := 3, pos := "order.go:106", after := #[{ on := 2, ground := Go.Ground.data }, { on := 5, ground := Go.Ground.data }], guard := none }) rfl (fun K hK => ?_) AllReadyH.nil
    rw [if_pos (by kernel_rfl)]
    go_simp
    refine (HB2 _).out.mono ?_
    rintro e v1 ⟨rfl, u1⟩
    dsimp only
    refine hK.out _ _ (hS.trans u1) (fun hS1 => ?_)
    clear hK hS
    refine wpAnyH_ready (rs := [7]) (by kernel_rfl) (by simp) ?_
    refine AllReadyH.cons (o := { dst := some 7, op := Go.Op.assign (Go.Operand.tmp 29), type := 3, pos := "order.go:106", after := #[{ on := 6, ground := Go.Ground.data }, { on := 6, ground := Go.Ground.chain }, { on := 0, ground := Go.Ground.phase }, { on := 1, ground := Go.Ground.phase }, { on := 2, ground := Go.Ground.phase }, { on := 3, ground := Go.Ground.phase }, { on := 4, ground := Go.Ground.phase }, { on := 5, ground := Go.Ground.phase }, { on := 6, ground := Go.Ground.phase }], guard := none }) rfl (fun K hK => ?_) AllReadyH.nil
    rw [if_pos (by kernel_rfl)]
    go_simp
    refine hK.out _ _ hS1 (fun hS2 => ?_)
    clear hK hS1
    refine wpAnyH_done (by kernel_rfl) ?_ _
    have H10 := Hid.of hS2
    clear hS2
    by_cases h1 : r1 = 0
    · subst h1
      rw [if_pos rfl] at HR
      go_wp2
      refine wp_region_held_drew (S := fun w5 => Up w2 w5) (by kernel_rfl) (H10.out.drew) (fun hS => ?_)
      refine wpAnyH_take (i := 0) (oi := { dst := some 34, op := Go.Op.move (Go.Operand.tmp 5), type := 22, pos := "order.go:110", after := #[], guard := none }) (v := .slice (some ⟨g1, 0, none⟩) 2 c1) rfl (by kernel_rfl) (by kernel_rfl) (by kernel_rfl) (fun _ _ _ h => h) (Or.inl ⟨by kernel_rfl, ?_⟩) hS ?_
      · intro w5 hSw
        go_simp
      simp only [Act.put, List.setIfInBounds_toArray, List.set_cons_zero, List.set_cons_succ]
      refine wpAnyH_take (i := 1) (oi := { dst := some 35, op := Go.Op.indexAddr 22 (Go.Operand.tmp 34) (Go.Operand.const (Go.Value.int Go.IntKind.i64 1)), type := 0, pos := "order.go:110", after := #[{ on := 0, ground := Go.Ground.data }], guard := none }) (v := .pointer (some ⟨g1, 1, none⟩)) rfl (by kernel_rfl) (by kernel_rfl) (by kernel_rfl) (fun _ _ _ h => h) (Or.inl ⟨by kernel_rfl, ?_⟩) hS ?_
      · intro w5 hSw
        go_simp
      simp only [Act.put, List.setIfInBounds_toArray, List.set_cons_zero, List.set_cons_succ]
      refine wpAnyH_take (i := 2) (oi := { dst := some 36, op := Go.Op.load 9 (Go.Operand.tmp 35), type := 9, pos := "order.go:110", after := #[{ on := 1, ground := Go.Ground.data }], guard := none }) (v := .string v) rfl (by kernel_rfl) (by kernel_rfl) (by kernel_rfl) (fun _ _ _ h => h) (Or.inl ⟨by kernel_rfl, ?_⟩) hS ?_
      · intro w5 hSw
        have hq := hSw.cell (H2.out.cell HCA.out.2)
        go_simp
      simp only [Act.put, List.setIfInBounds_toArray, List.set_cons_zero, List.set_cons_succ]
      refine wpAnyH_take (i := 3) (oi := { dst := some 37, op := Go.Op.move (Go.Operand.tmp 6), type := 22, pos := "order.go:110", after := #[], guard := none }) (v := .slice (some ⟨g2, 0, none⟩) 2 c2) rfl (by kernel_rfl) (by kernel_rfl) (by kernel_rfl) (fun _ _ _ h => h) (Or.inl ⟨by kernel_rfl, ?_⟩) hS ?_
      · intro w5 hSw
        go_simp
      simp only [Act.put, List.setIfInBounds_toArray, List.set_cons_zero, List.set_cons_succ]
      refine wpAnyH_take (i := 4) (oi := { dst := some 38, op := Go.Op.indexAddr 22 (Go.Operand.tmp 37) (Go.Operand.const (Go.Value.int Go.IntKind.i64 1)), type := 0, pos := "order.go:110", after := #[{ on := 3, ground := Go.Ground.data }], guard := none }) (v := .pointer (some ⟨g2, 1, none⟩)) rfl (by kernel_rfl) (by kernel_rfl) (by kernel_rfl) (fun _ _ _ h => h) (Or.inl ⟨by kernel_rfl, ?_⟩) hS ?_
      · intro w5 hSw
        go_simp
      simp only [Act.put, List.setIfInBounds_toArray, List.set_cons_zero, List.set_cons_succ]
      refine wpAnyH_take (i := 5) (oi := { dst := some 39, op := Go.Op.load 9 (Go.Operand.tmp 38), type := 9, pos := "order.go:110", after := #[{ on := 4, ground := Go.Ground.data }], guard := none }) (v := .string x) rfl (by kernel_rfl) (by kernel_rfl) (by kernel_rfl) (fun _ _ _ h => h) (Or.inl ⟨by kernel_rfl, ?_⟩) hS ?_
      · intro w5 hSw
        have hq := hSw.cell HCB.out.2
        go_simp
      simp only [Act.put, List.setIfInBounds_toArray, List.set_cons_zero, List.set_cons_succ]
      refine wpAnyH_ready (rs := [6]) (by kernel_rfl) (by simp) ?_
      refine AllReadyH.cons (o := { dst := some 40, op := Go.Op.call { callee := Go.Callee.value (Go.Operand.func 63), args := #[Go.Operand.tmp 36, Go.Operand.tmp 39], argTypes := #[9, 9] }, type := 3, pos := "order.go:110", after := #[{ on := 2, ground := Go.Ground.data }, { on := 5, ground := Go.Ground.data }], guard := none }) rfl (fun K hK => ?_) AllReadyH.nil
      rw [if_pos (by kernel_rfl)]
      go_simp
      refine (HB3 _).out.mono ?_
      rintro e v1 ⟨rfl, u1⟩
      dsimp only
      refine hK.out _ _ (hS.trans u1) (fun hS1 => ?_)
      clear hK hS
      refine wpAnyH_ready (rs := [7]) (by kernel_rfl) (by simp) ?_
      refine AllReadyH.cons (o := { dst := some 41, op := Go.Op.binOp Go.BinOp.lss 3 (Go.Operand.tmp 40) (Go.Operand.const (Go.Value.int Go.IntKind.i64 0)) 3, type := 4, pos := "order.go:110", after := #[{ on := 6, ground := Go.Ground.data }], guard := none }) rfl (fun K hK => ?_) AllReadyH.nil
      rw [if_pos (by kernel_rfl)]
      go_simp
      refine hK.out _ _ hS1 (fun hS2 => ?_)
      clear hK hS1
      refine wpAnyH_ready (rs := [8]) (by kernel_rfl) (by simp) ?_
      refine AllReadyH.cons (o := { dst := some 4, op := Go.Op.assign (Go.Operand.tmp 41), type := 4, pos := "order.go:110", after := #[{ on := 7, ground := Go.Ground.data }, { on := 6, ground := Go.Ground.chain }, { on := 0, ground := Go.Ground.phase }, { on := 1, ground := Go.Ground.phase }, { on := 2, ground := Go.Ground.phase }, { on := 3, ground := Go.Ground.phase }, { on := 4, ground := Go.Ground.phase }, { on := 5, ground := Go.Ground.phase }, { on := 6, ground := Go.Ground.phase }, { on := 7, ground := Go.Ground.phase }], guard := none }) rfl (fun K hK => ?_) AllReadyH.nil
      rw [if_pos (by kernel_rfl)]
      go_simp
      refine hK.out _ _ hS2 (fun hS3 => ?_)
      clear hK hS2
      refine wpAnyH_done (by kernel_rfl) ?_ _
      have H13 := Hid.of hS3
      clear hS3
      go_wp2
      go_ret
      rw [HR.out]
      exact ⟨rfl, H12.out.trans H13.out⟩
    · have h1z : (r1 != 0) = true := by rw [bne_iff_ne]; exact h1
      rw [if_neg h1] at HR
      clear h1
      go_wp2
      go_ret
      rw [HR.out]
      exact ⟨rfl, H12.out.trans H10.out⟩
  · have h0z : (r0 != 0) = true := by rw [bne_iff_ne]; exact h0
    rw [if_neg h0] at HR
    clear h0
    go_wp2
    go_ret
    rw [HR.out]
    exact ⟨rfl, H12.out.trans H7.out⟩
end Go.Proofs.YtnciglpdjpckiaaGreatDoor
namespace Go.Proofs.YtnciglpdjpckiaaGreatDoor
open Go.RowKit Go.Shelf TextNum ModNum
/-- what the inner loop keeps -/
def IS (w wr : World) (g cap i : Nat) (ks : List (List UInt8)) (j : Nat) : Prop := ∃ A x C, A.length = j ∧ OwnS wr w.heap.size (.slice (some ⟨g, 0, none⟩) (i + 1) cap) (A ++ x :: C) ∧ (A ++ C).Pairwise kle ∧ (∀ b ∈ C, kle x b) ∧ List.Perm (A ++ x :: C) (ks.take (i + 1)) ∧ Up w wr
/-- what the outer loop keeps -/
def QS (w wr : World) (v : Value) (ks : List (List UInt8)) (i : Nat) : Prop := ∃ ls, OwnS wr w.heap.size v ls ∧ ls.Pairwise kle ∧ List.Perm ls (ks.take i) ∧ Up w wr
theorem perm_len {a ks : List (List UInt8)} {i : Nat} (h : List.Perm a (ks.take i)) (hi : i ≤ ks.length) : a.length = i := by
  have := h.length_eq
  rw [List.length_take] at this
  omega
set_option maxRecDepth 100000 in
set_option maxHeartbeats 4000000 in
theorem RSort_walk (v : Value) (ks : List (List UInt8)) (hsz : ∀ s ∈ ks, s.length ≤ 1048576) (w : World) (hT : TK w) (hS : SlS w v ks) : Calls Tryz.prog 14 #[v] w (SRT ks w) := by
  have HS := Hid.of hS
  have HT := Hid.of hT
  have HSZ := Hid.of hsz
  obtain ⟨a, c, rfl, hcc, _⟩ := id hS
  obtain ⟨n, hn⟩ : ∃ n, ks.length = n := ⟨_, rfl⟩
  have HN := Hid.of hn
  rw [hn] at hcc HS ⊢
  have hccz : (n : Int) ≤ (c : Int) := by omega
  by_cases h4 : 4096 < n
  · have h4z : (4096 : Int) < (n : Int) := by omega
    have HE := Hid.of (show (2 : Int) = (if 4096 < ks.length then 2 else kE ks) by rw [hn, if_pos h4])
    clear hS hn hT hsz h4
    go_enter Tryz.func14, Tryz.ntmps14
    go_wp2
    go_ret2
    exact ⟨_, 2, [], rfl, HE.out, fun _ => rfl, fun h => absurd h (by decide), ownS_nil _ _, Up.refl _⟩
  · have h4z : ¬ (4096 : Int) < (n : Int) := by omega
    have HE := Hid.of (show (if 4096 < ks.length then 2 else kE ks) = kE ks by rw [hn, if_neg h4])
    clear hS hn hT hsz
    go_enter Tryz.func14, Tryz.ntmps14
    go_wp2
    go_loopw [5, 6, 7, 8] (fun v5 _ _ _ wr => ∃ i : Nat, v5 = .int .i64 (i : Int) ∧ i ≤ n ∧ Hid (Up w wr ∧ ∀ s ∈ ks.take i, pkE s = 0)) (fun v5 _ _ _ _ => n - (intOf v5).toNat)
    case atStart => exact ⟨0, rfl, by omega, Up.refl _, fun s hs => by simp at hs⟩
    case round =>
      obtain ⟨i, rfl, hi, hI⟩ := hrel
      obtain ⟨wb, hwb⟩ : ∃ wb, wb = wr := ⟨_, rfl⟩
      subst hwb
      by_cases hlt : i < n
      · have hltz : (i : Int) < (n : Int) := by omega
        have hil : i < ks.length := by rw [HN.out]; exact hlt
        obtain ⟨b, off, rfl, hc⟩ := (HS.out.up hI.out.1).get hil
        obtain ⟨s, hs1, hs2⟩ := ba_of ks[i]
        rw [hs2] at hc
        have hss : s.size ≤ 1048576 := by
          rw [← len_of, hs1]
          exact HSZ.out _ (List.getElem_mem hil)
        have HP := Hid.of (RParseKey_walk s hss wb (HT.out.up hI.out.1))
        rw [hs1] at HP
        by_cases h0 : pkE ks[i] = 0
        · have HI2 := Hid.of (show ∀ t ∈ ks.take (i + 1), pkE t = 0 from fun t ht => by
            rw [List.take_add_one, List.getElem?_eq_getElem hil] at ht
            rcases List.mem_append.1 ht with ht | ht
            · exact hI.out.2 t ht
            · have : t = ks[i] := by simpa using ht
              rw [this]; exact h0)
          rw [h0] at HP
          clear h0 hs1 hs2 hss
          go_wp2_with fail
          refine (HP.out).mono ?_
          rintro e w5 ⟨rfl, u5⟩
          have H5 := Hid.of (hI.out.1.trans u5)
          have Hu5 := Hid.of u5
          clear u5
          dsimp only
          go_wp2
          go_roundw
          case rel => exact ⟨i + 1, by go_num, by omega, H5.out, HI2.out⟩
          case measure => simp [intOf]; omega
        · have h0z : (pkE ks[i] != 0) = true := by rw [bne_iff_ne]; exact h0
          have HF := Hid.of (show pkE ks[i] = (if 4096 < ks.length then 2 else kE ks) ∧ pkE ks[i] ≠ 0 from ⟨by rw [HE.out]; exact (kE_at hil hI.out.2 h0).symm, h0⟩)
          clear h0 hs1 hs2 hss
          generalize pkE ks[i] = er at *
          go_wp2_with fail
          refine (HP.out).mono ?_
          rintro e w5 ⟨rfl, u5⟩
          have H5 := Hid.of (hI.out.1.trans u5)
          have Hu5 := Hid.of u5
          clear u5
          dsimp only
          go_wp2
          go_ret2
          exact ⟨_, er, [], rfl, HF.out.1, fun _ => rfl, fun h => absurd h HF.out.2, ownS_nil _ _, H5.out⟩
      · have hltz : ¬ (i : Int) < (n : Int) := by omega
        have hin : i = n := by omega
        have HGD := Hid.of (show ∀ s ∈ ks, pkE s = 0 from fun s hs => by
          have h1 := hI.out.2
          rw [hin, List.take_of_length_le (by rw [HN.out]; exact Nat.le_refl _)] at h1
          exact h1 s hs)
        have HI0 := Hid.of (show QS w wb (.slice none 0 0) ks 0 from ⟨[], ownS_nil _ _, List.Pairwise.nil, by simp, hI.out.1⟩)
        clear hin hlt hI

        go_wp2
        go_loopw [9, 10, 11, 12] (fun v9 v10 _ _ wr => ∃ i : Nat, v10 = .int .i64 (i : Int) ∧ i ≤ n ∧ Hid (QS w wr v9 ks i)) (fun _ v10 _ _ _ => n - (intOf v10).toNat)
        case atStart => exact ⟨0, rfl, by omega, HI0⟩
        case round =>
          obtain ⟨i, rfl, hi, hI⟩ := hrel
          obtain ⟨wb2, hwb2⟩ : ∃ wb2, wb2 = wr := ⟨_, rfl⟩
          subst hwb2
          obtain ⟨ls, o1, o2, o3, o4⟩ := hI.out
          have hll := perm_len o3 (by rw [HN.out]; exact hi)
          have HO := Hid.of (And.intro o1 (And.intro o2 (And.intro o3 o4)))
          clear o1 o2 o3 o4 hI
          by_cases hlt : i < n
          · have hltz : (i : Int) < (n : Int) := by omega
            have hil : i < ks.length := by rw [HN.out]; exact hlt
            obtain ⟨b, off, rfl, hc⟩ := (HS.out.up HO.out.2.2.2).get hil
            go_wp2_with (with_reducible show wpList _ _ _ ({ dst := _, op := Op.call { callee := Callee.builtin Builtin.append, args := _, argTypes := _ }, type := _, pos := _, after := _, guard := _ } :: _) _ _; refine Shut.out ?_)
            show wpList _ _ _ _ _ _
            refine wpList_appS rfl _ _ rfl w.heap.size _ ls ks[i] rfl (by exact HO.out.1) 1 rfl (by omega) HO.out.2.2.2.size ?_
            intro v' w3 h3 k3
            obtain ⟨g, cap, hv, hBg, _, hcap, _, _⟩ := h3.row (by simp)
            have hlen : (ls ++ [ks[i]]).length = i + 1 := by rw [List.length_append, hll]; rfl
            rw [hlen] at hv hcap
            subst hv
            have hcapz : ((i + 1 : Nat) : Int) ≤ (cap : Int) := by omega
            have HI3 := Hid.of (show IS w w3 g cap i ks i from ⟨ls, ks[i], [], hll, h3, by rw [List.append_nil]; exact HO.out.2.1, (fun b hb => by cases hb), by
              rw [List.take_add_one, List.getElem?_eq_getElem hil]
              exact List.Perm.append_right _ HO.out.2.2.1, HO.out.2.2.2.step (Nat.le_refl _) k3⟩)
            have HBG := Hid.of hBg
            have hib : i ≤ 4096 := by omega
            clear h3 k3 hlen hBg HO hll hc
            simp only [Act.put, List.setIfInBounds_toArray, List.set_cons_zero, List.set_cons_succ]
            go_wp2
            go_loopw [11, 12] (fun v11 _ wr => ∃ j : Nat, v11 = .int .i64 (j : Int) ∧ j ≤ i ∧ Hid (IS w wr g cap i ks j)) (fun v11 _ _ => (intOf v11).toNat)
            case atStart => exact ⟨i, rfl, Nat.le_refl _, HI3⟩
            case round =>
              obtain ⟨j, rfl, hj, hJ⟩ := hrel
              obtain ⟨wc, hwc⟩ : ∃ wc, wc = wr := ⟨_, rfl⟩
              subst hwc
              by_cases hj0 : 0 < j
              · obtain ⟨A0, xx, C, q1, q2, q3, q4, q5, q6⟩ := hJ.out
                obtain ⟨A, yy, rfl⟩ : ∃ A yy, A0 = A ++ [yy] := by
                  rcases List.eq_nil_or_concat A0 with h | ⟨A, y, h⟩
                  · rw [h] at q1; simp at q1; omega
                  · exact ⟨A, y, by simpa using h⟩
                obtain ⟨q, hq⟩ : ∃ q, A.length = q := ⟨_, rfl⟩
                have hjq : j = q + 1 := by rw [← q1, List.length_append, hq]; rfl
                have HIJ := Hid.of (show (j : Int) - 1 = (q : Int) by omega)
                have hat := ins_at A C xx yy
                rw [hq] at hat
                obtain ⟨g', cap', hv', _, _, _, hcl, hfz⟩ := q2.row (by simp)
                have hg' : g = g' := by
                  simp only [Value.slice.injEq, Option.some.injEq, Addr.mk.injEq, and_true] at hv'
                  exact hv'.1
                subst hg'
                have hlL := perm_len q5 (by rw [HN.out]; omega)
                have hjl : j < (A ++ [yy] ++ xx :: C).length := by omega
                have hql : q < (A ++ [yy] ++ xx :: C).length := by omega
                have c1 := hcl j hjl
                have c2 := hcl q hql
                rw [show (A ++ [yy] ++ xx :: C)[j] = xx by have := hat.1; rw [← hjq, List.getElem?_eq_getElem hjl] at this; exact Option.some.inj this] at c1
                rw [show (A ++ [yy] ++ xx :: C)[q] = yy by have := hat.2; rw [List.getElem?_eq_getElem hql] at this; exact Option.some.inj this] at c2
                have f1 := hfz j
                have f2 := hfz q
                have hmx : pkE xx = 0 ∧ xx.length ≤ 1048576 := by
                  have h1 := List.mem_of_mem_take (q5.mem_iff.1 (show xx ∈ A ++ [yy] ++ xx :: C by simp))
                  exact ⟨HGD.out _ h1, HSZ.out _ h1⟩
                have hmy : pkE yy = 0 ∧ yy.length ≤ 1048576 := by
                  have h1 := List.mem_of_mem_take (q5.mem_iff.1 (show yy ∈ A ++ [yy] ++ xx :: C by simp))
                  exact ⟨HGD.out _ h1, HSZ.out _ h1⟩
                obtain ⟨x, hx1, hx2⟩ := ba_of xx
                obtain ⟨y, hy1, hy2⟩ := ba_of yy
                rw [← hx1, len_of] at hmx
                rw [← hy1, len_of] at hmy
                have HB := fun w' => Hid.of (Before_walk x y hmx.2 hmy.2 hmx.1 hmy.1 w')
                rw [hx1, hy1] at HB
                obtain ⟨bb, hbb⟩ : ∃ bb, decide (kcm xx yy < 0) = bb := ⟨_, rfl⟩
                rw [hbb] at HB
                have HBB := Hid.of hbb
                have hnz : True := trivial
                rw [hx2] at c1
                rw [hy2] at c2
                have HX := Hid.of (And.intro c1 c2)
                have HZ := Hid.of (And.intro q2 (And.intro q3 (And.intro q4 (And.intro q5 q6))))
                have HF := Hid.of (And.intro f1 f2)
                have HXY := Hid.of (And.intro hx2 hy2)
                have HQ := Hid.of (And.intro hq (And.intro hjq hlL))
                have hjn : (j : Int) < (i : Int) + 1 := by omega
                have hqn : (q : Int) < (i : Int) + 1 := by omega
                clear c1 c2 f1 f2 q1 q2 q3 q4 q5 q6 hmx hmy hx1 hx2 hy1 hy2 hq hjq hat hcl hfz hjl hql hlL hv' hJ hbb
                have hj0z : (0 : Int) < (j : Int) := by omega
                go_wp2
                refine wp_region_held_drew (S := fun w5 => Up wc w5) (by kernel_rfl) ((Up.refl wc).drew) (fun hS => ?_)
                refine wpAnyH_take (i := 0) (oi := { dst := some 56, op := Go.Op.move (Go.Operand.tmp 9), type := 22, pos := "order.go:129", after := #[], guard := none }) (v := .slice (some ⟨g, 0, none⟩) (i + 1) cap) rfl (by kernel_rfl) (by kernel_rfl) (by kernel_rfl) (fun _ _ _ h => h) (Or.inl ⟨by kernel_rfl, ?_⟩) hS ?_
                · intro w5 hSw
                  go_simp
                simp only [Act.put, List.setIfInBounds_toArray, List.set_cons_zero, List.set_cons_succ]
                refine wpAnyH_take (i := 1) (oi := { dst := some 57, op := Go.Op.move (Go.Operand.tmp 11), type := 3, pos := "order.go:129", after := #[], guard := none }) (v := .int .i64 (j : Int)) rfl (by kernel_rfl) (by kernel_rfl) (by kernel_rfl) (fun _ _ _ h => h) (Or.inl ⟨by kernel_rfl, ?_⟩) hS ?_
                · intro w5 hSw
                  go_simp
                simp only [Act.put, List.setIfInBounds_toArray, List.set_cons_zero, List.set_cons_succ]
                refine wpAnyH_take (i := 2) (oi := { dst := some 58, op := Go.Op.indexAddr 22 (Go.Operand.tmp 56) (Go.Operand.tmp 57), type := 0, pos := "order.go:129", after := #[{ on := 0, ground := Go.Ground.data }, { on := 1, ground := Go.Ground.data }], guard := none }) (v := .pointer (some ⟨g, j, none⟩)) rfl (by kernel_rfl) (by kernel_rfl) (by kernel_rfl) (fun _ _ _ h => h) (Or.inl ⟨by kernel_rfl, ?_⟩) hS ?_
                · intro w5 hSw
                  go_simp
                simp only [Act.put, List.setIfInBounds_toArray, List.set_cons_zero, List.set_cons_succ]
                refine wpAnyH_take (i := 3) (oi := { dst := some 59, op := Go.Op.load 9 (Go.Operand.tmp 58), type := 9, pos := "order.go:129", after := #[{ on := 2, ground := Go.Ground.data }], guard := none }) (v := .string x) rfl (by kernel_rfl) (by kernel_rfl) (by kernel_rfl) (fun _ _ _ h => h) (Or.inl ⟨by kernel_rfl, ?_⟩) hS ?_
                · intro w5 hSw
                  have hq := hSw.cell HX.out.1
                  go_simp
                simp only [Act.put, List.setIfInBounds_toArray, List.set_cons_zero, List.set_cons_succ]
                refine wpAnyH_take (i := 4) (oi := { dst := some 60, op := Go.Op.move (Go.Operand.tmp 9), type := 22, pos := "order.go:129", after := #[], guard := none }) (v := .slice (some ⟨g, 0, none⟩) (i + 1) cap) rfl (by kernel_rfl) (by kernel_rfl) (by kernel_rfl) (fun _ _ _ h => h) (Or.inl ⟨by kernel_rfl, ?_⟩) hS ?_
                · intro w5 hSw
                  go_simp
                simp only [Act.put, List.setIfInBounds_toArray, List.set_cons_zero, List.set_cons_succ]
                refine wpAnyH_take (i := 5) (oi := { dst := some 61, op := Go.Op.move (Go.Operand.tmp 11), type := 3, pos := "order.go:129", after := #[], guard := none }) (v := .int .i64 (j : Int)) rfl (by kernel_rfl) (by kernel_rfl) (by kernel_rfl) (fun _ _ _ h => h) (Or.inl ⟨by kernel_rfl, ?_⟩) hS ?_
                · intro w5 hSw
                  go_simp
                simp only [Act.put, List.setIfInBounds_toArray, List.set_cons_zero, List.set_cons_succ]
                refine wpAnyH_take (i := 6) (oi := { dst := some 62, op := Go.Op.binOp Go.BinOp.sub 3 (Go.Operand.tmp 61) (Go.Operand.const (Go.Value.int Go.IntKind.i64 1)) 3, type := 3, pos := "order.go:129", after := #[{ on := 5, ground := Go.Ground.data }], guard := none }) (v := .int .i64 (q : Int)) rfl (by kernel_rfl) (by kernel_rfl) (by kernel_rfl) (fun _ _ _ h => h) (Or.inl ⟨by kernel_rfl, ?_⟩) hS ?_
                · intro w5 hSw
                  rw [← HIJ.out]
                  go_simp
                  rw [HIJ.out]; simp [IntKind.wrap, IntKind.bits, IntKind.signed]; omega
                simp only [Act.put, List.setIfInBounds_toArray, List.set_cons_zero, List.set_cons_succ]
                refine wpAnyH_take (i := 7) (oi := { dst := some 63, op := Go.Op.indexAddr 22 (Go.Operand.tmp 60) (Go.Operand.tmp 62), type := 0, pos := "order.go:129", after := #[{ on := 4, ground := Go.Ground.data }, { on := 6, ground := Go.Ground.data }], guard := none }) (v := .pointer (some ⟨g, q, none⟩)) rfl (by kernel_rfl) (by kernel_rfl) (by kernel_rfl) (fun _ _ _ h => h) (Or.inl ⟨by kernel_rfl, ?_⟩) hS ?_
                · intro w5 hSw
                  go_simp
                simp only [Act.put, List.setIfInBounds_toArray, List.set_cons_zero, List.set_cons_succ]
                refine wpAnyH_take (i := 8) (oi := { dst := some 64, op := Go.Op.load 9 (Go.Operand.tmp 63), type := 9, pos := "order.go:129", after := #[{ on := 7, ground := Go.Ground.data }], guard := none }) (v := .string y) rfl (by kernel_rfl) (by kernel_rfl) (by kernel_rfl) (fun _ _ _ h => h) (Or.inl ⟨by kernel_rfl, ?_⟩) hS ?_
                · intro w5 hSw
                  have hq := hSw.cell HX.out.2
                  go_simp
                simp only [Act.put, List.setIfInBounds_toArray, List.set_cons_zero, List.set_cons_succ]
                refine wpAnyH_ready (rs := [9]) (by kernel_rfl) (by simp) ?_
                refine AllReadyH.cons (o := { dst := some 65, op := Go.Op.call { callee := Go.Callee.value (Go.Operand.func 35), args := #[Go.Operand.tmp 59, Go.Operand.tmp 64], argTypes := #[9, 9] }, type := 4, pos := "order.go:129", after := #[{ on := 3, ground := Go.Ground.data }, { on := 8, ground := Go.Ground.data }], guard := none }) rfl (fun K hK => ?_) AllReadyH.nil
                rw [if_pos (by kernel_rfl)]
                go_simp
                refine (HB _).out.mono ?_
                rintro e v1 ⟨rfl, u1⟩
                dsimp only
                refine hK.out _ _ (hS.trans u1) (fun hS1 => ?_)
                clear hK hS
                refine wpAnyH_ready (rs := [10]) (by kernel_rfl) (by simp) ?_
                refine AllReadyH.cons (o := { dst := some 66, op := Go.Op.unOp Go.UnOp.not 4 (Go.Operand.tmp 65), type := 4, pos := "order.go:129", after := #[{ on := 9, ground := Go.Ground.data }], guard := none }) rfl (fun K hK => ?_) AllReadyH.nil
                rw [if_pos (by kernel_rfl)]
                go_simp
                refine hK.out _ _ hS1 (fun hS2 => ?_)
                clear hK hS1
                refine wpAnyH_done (by kernel_rfl) ?_ _
                have H4 := Hid.of hS2
                clear hS2
                cases bb with
                | true =>
                  have hb : kcm xx yy < 0 := of_decide_eq_true HBB.out
                  have HO4 := Hid.of (HZ.out.1.up H4.out)
                  have HU4 := Hid.of (HZ.out.2.2.2.2.trans H4.out)
                  have c1 := H4.out.cell HX.out.1
                  have c2 := H4.out.cell HX.out.2
                  obtain ⟨g', cap', hv', _, _, _, _, hfz⟩ := HO4.out.row (by simp)
                  have hg' : g = g' := by
                    simp only [Value.slice.injEq, Option.some.injEq, Addr.mk.injEq, and_true] at hv'
                    exact hv'.1
                  subst hg'
                  have f1 := hfz j
                  have hjq := HQ.out.2.1
                  have hqn2 : q ≠ j := by omega
                  have HO5 := Hid.of (HO4.out.put HQ.out.2.2 j yy)
                  have HO6 := Hid.of (HO5.out.put (by rw [List.length_set]; exact HQ.out.2.2) q xx)
                  have hsw : ((A ++ [yy] ++ xx :: C).set j yy).set q xx = A ++ xx :: yy :: C := by
                    have := ins_swap A C xx yy
                    rw [HQ.out.1, ← hjq] at this
                    exact this
                  rw [hsw] at HO6
                  rw [HXY.out.2] at HO5 HO6
                  rw [HXY.out.1] at HO6
                  have HU6 := Hid.of ((HU4.out.by (grown_set v1 ⟨g, j, none⟩ (.string y)) (fun k hk => by have hk2 : g = k := (by injection hk); have := HBG.out; omega)).by (grown_set (v1.setCell ⟨g, j, none⟩ (.string y)) ⟨g, q, none⟩ (.string x)) (fun k hk => by have hk2 : g = k := (by injection hk); have := HBG.out; omega))
                  have HI6 := Hid.of (show IS w ((v1.setCell ⟨g, j, none⟩ (.string y)).setCell ⟨g, q, none⟩ (.string x)) g cap i ks q from ⟨A, xx, yy :: C, HQ.out.1, HO6.out, by
                    have := HZ.out.2.1
                    rwa [List.append_assoc] at this, fun b hb2 => by
                    rcases List.mem_cons.1 hb2 with rfl | hb2
                    · show kcm xx b ≤ 0
                      omega
                    · exact HZ.out.2.2.1 b hb2, by
                    refine List.Perm.trans ?_ HZ.out.2.2.2.1
                    rw [List.append_assoc]
                    exact List.Perm.append_left A (List.Perm.swap yy xx C), HU6.out⟩)
                  obtain ⟨g5, cap5, hv5, _, _, _, hcl5, hfz5⟩ := HO5.out.row (by simp)
                  have hg5 : g = g5 := by
                    simp only [Value.slice.injEq, Option.some.injEq, Addr.mk.injEq, and_true] at hv5
                    exact hv5.1
                  subst hg5
                  have d2 : (v1.setCell ⟨g, j, none⟩ (.string y)).cell? ⟨g, q, none⟩ = some (.string y) := by
                    rw [World.cell?_setCell_other _ _ _ _ (by intro e; simp only [Addr.mk.injEq] at e; omega)]
                    exact c2
                  have e2 := hfz5 q
                  have hij := HIJ.out
                  have hwq : IntKind.i64.wrap (q : Int) = (q : Int) := by simp [IntKind.wrap, IntKind.bits, IntKind.signed]; omega
                  clear hcl5 hfz5 hv5 hfz hv' hsw hb hjq hqn2 HO5 HO6 HU6 hnz
                  go_wp2
                  go_roundw
                  case rel => exact ⟨q, rfl, by have := HQ.out.2.1; omega, HI6.out⟩
                  case measure => have := HQ.out.2.1; simp [intOf]; omega
                | false =>
                  have hb : ¬ kcm xx yy < 0 := of_decide_eq_false HBB.out
                  have HST := Hid.of (show QS w v1 (.slice (some ⟨g, 0, none⟩) (i + 1) cap) ks (i + 1) from ⟨_, HZ.out.1.up H4.out, ins_stop HZ.out.2.1 HZ.out.2.2.1 hb, HZ.out.2.2.2.1, HZ.out.2.2.2.2.trans H4.out⟩)
                  clear hb hnz
                  go_wp2
                  go_roundw
                  case rel => exact ⟨i + 1, by go_num, by omega, HST.out⟩
                  case measure => simp [intOf]; omega
              · obtain rfl : j = 0 := by omega
                have HST := Hid.of (show QS w wc (.slice (some ⟨g, 0, none⟩) (i + 1) cap) ks (i + 1) from by
                  obtain ⟨A, xx, C, q1, q2, q3, q4, q5, q6⟩ := hJ.out
                  have hA : A = [] := List.eq_nil_of_length_eq_zero q1
                  subst hA
                  exact ⟨_, q2, ins_nil q3 q4, q5, q6⟩)
                clear hJ hj hj0
                go_wp2
                go_roundw
                case rel => exact ⟨i + 1, by go_num, by omega, HST.out⟩
                case measure => simp [intOf]; omega
          · have hltz : ¬ (i : Int) < (n : Int) := by omega
            have hin : i = n := by omega
            have HPM := Hid.of (show List.Perm ls ks by
              have h1 := HO.out.2.2.1
              rwa [hin, List.take_of_length_le (by rw [HN.out]; exact Nat.le_refl _)] at h1)
            clear hin
            go_wp2
            go_ret2
            exact ⟨_, 0, ls, rfl, by rw [HE.out, kE_all HGD.out], fun h => absurd rfl h, fun _ => ⟨HPM.out, HO.out.2.1⟩, HO.out.1, HO.out.2.2.2⟩
end Go.Proofs.YtnciglpdjpckiaaGreatDoor
namespace Go.Proofs.YtnciglpdjpckiaaGreatDoor
open Go.RowKit Go.Shelf TextNum ModNum
theorem tl_eqS (q : ByteArray) : (q.toList == q.toList) = true := beq_self_eq_true _
set_option maxRecDepth 100000 in
set_option maxHeartbeats 1000000 in
theorem same_yes (v1 v2 : Value) (xs : List (List UInt8)) (hx : xs.length ≤ 1099511627776) (w : World) (h1 : SlS w v1 xs) (h2 : SlS w v2 xs) : Calls Tryz.prog 15 #[v1, v2] w fun e w' => e = .returned (.bool true) ∧ Up w w' := by
  have H1 := Hid.of h1
  have H2 := Hid.of h2
  obtain ⟨a1, c1, rfl, hc1, _⟩ := id h1
  obtain ⟨a2, c2, rfl, hc2, _⟩ := id h2
  obtain ⟨n, hn⟩ : ∃ n, xs.length = n := ⟨_, rfl⟩
  have HN := Hid.of hn
  rw [hn] at hc1 hc2 hx H1 H2 ⊢
  have hc1z : (n : Int) ≤ (c1 : Int) := by omega
  have hc2z : (n : Int) ≤ (c2 : Int) := by omega
  clear h1 h2 hn
  go_enter Tryz.func15, Tryz.ntmps15
  go_wp2
  go_loopw [5] (fun v5 wr => ∃ i : Nat, v5 = .int .i64 (i : Int) ∧ i ≤ n ∧ Hid (Up w wr)) (fun v5 _ => n - (intOf v5).toNat)
  case atStart => exact ⟨0, rfl, by omega, Up.refl _⟩
  case round =>
    obtain ⟨i, rfl, hi, hI⟩ := hrel
    obtain ⟨wb, hwb⟩ : ∃ wb, wb = wr := ⟨_, rfl⟩
    subst hwb
    by_cases hlt : i < n
    · have hltz : (i : Int) < (n : Int) := by omega
      have hil : i < xs.length := by rw [HN.out]; exact hlt
      obtain ⟨b1, o1, rfl, k1⟩ := (H1.out.up hI.out).get hil
      obtain ⟨b2, o2, rfl, k2⟩ := (H2.out.up hI.out).get hil
      obtain ⟨x, hx1, hx2⟩ := ba_of xs[i]
      rw [hx2] at k1 k2
      have hq := tl_eqS x
      clear hx1 hx2
      go_wp2
      go_quiet (fail)
      go_wp2
      go_roundw
      case rel => exact ⟨i + 1, by go_num, by omega, hI.out.drewN _⟩
      case measure => simp [intOf]; omega
    · have hltz : ¬ (i : Int) < (n : Int) := by omega
      go_wp2
      go_ret
      exact ⟨rfl, hI.out⟩
end Go.Proofs.YtnciglpdjpckiaaGreatDoor
namespace Go.Proofs.YtnciglpdjpckiaaGreatDoor
open Go.RowKit Go.Shelf TextNum ModNum
/-- three rows of zeros -/
structure Z3 (w W : World) (zz : List Value) : Prop where
  a : At W w.heap.size 32 zz
  b : At W (w.heap.size + 1) 32 zz
  c : At W (w.heap.size + 1 + 1) 32 zz
  u : Up w W
theorem Z3.up {w W W' : World} {zz : List Value} (h : Z3 w W zz) (k : Up W W') : Z3 w W' zz := ⟨h.a.up k, h.b.up k, h.c.up k, h.u.trans k⟩
theorem Z3.s0 {w W : World} {zz : List Value} (h : Z3 w W zz) : Z3 w (W.setCells w.heap.size 0 zz) zz :=
  ⟨h.a.sets rfl, h.b.by (grown_sets _ _ _ _) (fun e => by injection e with e; omega), h.c.by (grown_sets _ _ _ _) (fun e => by injection e with e; omega), h.u.by (grown_sets _ _ _ _) (fun g e => by injection e with e; omega)⟩
theorem Z3.s1 {w W : World} {zz : List Value} (h : Z3 w W zz) : Z3 w (W.setCells (w.heap.size + 1) 0 zz) zz :=
  ⟨h.a.by (grown_sets _ _ _ _) (fun e => by injection e with e; omega), h.b.sets rfl, h.c.by (grown_sets _ _ _ _) (fun e => by injection e with e; omega), h.u.by (grown_sets _ _ _ _) (fun g e => by injection e with e; omega)⟩
theorem z3_new (w : World) : Z3 w (((w.alloc (.cells (cb Z32).toArray 32)).alloc (.cells (cb Z32).toArray 32)).alloc (.cells (cb Z32).toArray 32)) (cb Z32) := by
  have h := twoZ_new w
  have h2 := at_new ((w.alloc (.cells (cb Z32).toArray 32)).alloc (.cells (cb Z32).toArray 32)) 32 (cb Z32)
  rw [alloc_size, alloc_size] at h2
  exact ⟨h.a.up ((Up.refl _).alloc _), h.b.up ((Up.refl _).alloc _), h2, h.u.alloc _⟩
/-- what the last return reads -/
structure F4 (w w2 : World) (g off : Nat) (xa xb : ByteArray) (bt bm : Nat) (t1 t2 : List Value) : Prop where
  u : Up w w2
  c0 : w2.cell? ⟨g, off, none⟩ = some (.string xa)
  c1 : w2.cell? ⟨g, off + 1, none⟩ = some (.string xb)
  r1 : w2.rangeAt bt 0 t1
  r2 : w2.rangeAt bm 0 t2
  th0 : w2.there w.heap.size 0 32
  th1 : w2.there (w.heap.size + 1) 0 32
theorem F4.drew {w w2 : World} {g off : Nat} {xa xb : ByteArray} {bt bm : Nat} {t1 t2 : List Value} (h : F4 w w2 g off xa xb bt bm t1 t2) : F4 w w2.drew g off xa xb bt bm t1 t2 :=
  ⟨h.u.drew, (World.cell?_drew _ _).trans h.c0, (World.cell?_drew _ _).trans h.c1, fun j v hv => (World.cell?_drew _ _).trans (h.r1 j v hv), fun j v hv => (World.cell?_drew _ _).trans (h.r2 j v hv), h.th0, h.th1⟩
theorem F4.st {w w2 : World} {g off : Nat} {xa xb : ByteArray} {bt bm : Nat} {t1 t2 : List Value} (h : F4 w w2 g off xa xb bt bm t1 t2) {b : Nat} (hb : w.heap.size ≤ b) (h1 : b ≠ g) (h2 : b ≠ bt) (h3 : b ≠ bm) (vs : List Value) : F4 w (w2.setCells b 0 vs) g off xa xb bt bm t1 t2 :=
  ⟨h.u.by (grown_sets _ _ _ _) (fun k e => by injection e with e; omega), (grown_sets _ _ _ _).cell h.c0 (fun e => by injection e with e; exact h1 e.symm), (grown_sets _ _ _ _).cell h.c1 (fun e => by injection e with e; exact h1 e.symm), World.rangeAt_setCells_apart h.r1 _ _ _ (.inl (fun e => h2 e.symm)), World.rangeAt_setCells_apart h.r2 _ _ _ (.inl (fun e => h3 e.symm)), World.there_setCells h.th0 _ _ _, World.there_setCells h.th1 _ _ _⟩
theorem str_row {W : World} {b off : Nat} {t : TypeId} {l : List UInt8} {x : ByteArray} (h : At W b t (cb l)) (hc : W.cell? ⟨b, off, none⟩ = some (.string x)) : False := by
  have h2 := cell_of_row W b off (cb l).toArray t (0, 0) h
  rw [h2] at hc
  have h3 : (cb l)[off]? = some (.string x) := by simpa using hc
  obtain ⟨hlt, e⟩ := List.getElem?_eq_some_iff.1 h3
  simp [cb] at e
theorem psm_err (l : List UInt8) : (psm l).2 = 0 ∨ (psm l).2 = 114 := by
  unfold psm
  split
  · exact .inl rfl
  · exact .inr rfl
theorem SlS.sixth {w : World} {v : Value} {a b c d e f : List UInt8} (h : SlS w v [a, b, c, d, e, f]) : ∃ g off cc, ∃ xa xb xc xd xe xf : ByteArray, v = .slice (some ⟨g, off, none⟩) 6 cc ∧ 6 ≤ cc ∧ (w.cell? ⟨g, off, none⟩ = some (.string xa) ∧ w.cell? ⟨g, off + 1, none⟩ = some (.string xb) ∧ w.cell? ⟨g, off + 2, none⟩ = some (.string xc) ∧ w.cell? ⟨g, off + 3, none⟩ = some (.string xd) ∧ w.cell? ⟨g, off + 4, none⟩ = some (.string xe) ∧ w.cell? ⟨g, off + 5, none⟩ = some (.string xf)) ∧ xa.data.toList = a ∧ xb.data.toList = b ∧ xc.data.toList = c ∧ xd.data.toList = d ∧ xe.data.toList = e ∧ xf.data.toList = f := by
  obtain ⟨ad, cc, rfl, hcc, hcl⟩ := h
  rcases hcl with h | ⟨g, off, rfl, _, hc⟩
  · cases h
  · exact ⟨g, off, cc, ⟨a.toArray⟩, ⟨b.toArray⟩, ⟨c.toArray⟩, ⟨d.toArray⟩, ⟨e.toArray⟩, ⟨f.toArray⟩, rfl, hcc, ⟨hc 0 (by simp), hc 1 (by simp), hc 2 (by simp), hc 3 (by simp), hc 4 (by simp), hc 5 (by simp)⟩, rfl, rfl, rfl, rfl, rfl, rfl⟩
set_option maxRecDepth 100000 in
set_option maxHeartbeats 4000000 in
theorem RParseRecord_walk (s : ByteArray) (w : World) (hT : TK w) : Calls Tryz.prog 33 #[.string s] w fun e w' => e = .returned (prcV (prc s.data.toList)) ∧ Up w w' := by
  have HTK := Hid.of hT
  have HZ := Hid.of (z3_new w)
  have hlit := zlit
  obtain ⟨zz, hzz⟩ : ∃ zz, zz = cb Z32 := ⟨_, rfl⟩
  have iz : (Tryz.prog.info? 32).map (·.size) = some zz.length := by rw [hzz]; kernel_rfl
  have oz : zz.toArray.all (·.oneCell') = true := by rw [hzz]; exact cb_all _
  rw [← hzz] at HZ hlit
  have HZZ := Hid.of hzz
  have HLit := Hid.of hlit
  clear hzz hlit
  have mixed : Tryz.prog.follows .mixedOrders = true := by kernel_rfl
  have HP : Hid (prc s.data.toList = match two s.data.toList with
    | none => ⟨[], [], Z32, Z32, 115⟩
    | some (x, y) => if y.1 ≠ x.1 ∨ y.2.1 ≠ x.2.1 ++ GOM then ⟨[], [], Z32, Z32, 115⟩
      else if (rdw x.1 x.2.1 x.2.2 y.2.2).2.2 ≠ 0 then ⟨[], [], Z32, Z32, (rdw x.1 x.2.1 x.2.2 y.2.2).2.2⟩
      else ⟨x.1, x.2.1, (rdw x.1 x.2.1 x.2.2 y.2.2).1, (rdw x.1 x.2.1 x.2.2 y.2.2).2.1, 0⟩) := rfl
  clear hT
  by_cases h1024 : 1024 < s.size
  · have hz : (1024 : Int) < (s.size : Int) := by omega
    have HN := Hid.of (show prc s.data.toList = ⟨[], [], Z32, Z32, 115⟩ by
      rw [HP.out, show two s.data.toList = none from if_pos (.inl (by rw [len_of]; exact h1024))])
    clear h1024 HP
    go_enter Tryz.func33, Tryz.ntmps33
    go_wp2
    rw [HLit.out]
    generalize ((w.alloc (.cells zz.toArray 32)).alloc (.cells zz.toArray 32)).alloc (.cells zz.toArray 32) = W0 at *
    refine wp_region_held_drew (S := fun w2 => Z3 w w2 zz) (by kernel_rfl) (HZ.out.up ((Up.refl W0).drew)) (fun hS => ?_)
    refine wpAnyH_take (i := 0) (oi := { dst := some 18, op := Go.Op.load 32 (Go.Operand.tmp 7), type := 32, pos := "order.go:195", after := #[{ on := 3, ground := Go.Ground.gcOnly Go.Departure.lateStores }], guard := none }) (v := .agg (zz).toArray) rfl (by kernel_rfl) (by kernel_rfl) (by kernel_rfl) (fun _ _ _ h => h) (yieldsIf_load_mid (by kernel_rfl) _ _ rfl (w.heap.size + 1 + 1) 0 rfl (zz) _ (fun w5 hSw => hSw.c.range) Tryz.underlying32 rfl iz) hS ?_
    simp only [Act.put, List.setIfInBounds_toArray, List.set_cons_zero, List.set_cons_succ]
    refine wpAnyH_take (i := 1) (oi := { dst := some 19, op := Go.Op.load 32 (Go.Operand.tmp 7), type := 32, pos := "order.go:195", after := #[{ on := 4, ground := Go.Ground.gcOnly Go.Departure.lateStores }], guard := none }) (v := .agg (zz).toArray) rfl (by kernel_rfl) (by kernel_rfl) (by kernel_rfl) (fun _ _ _ h => h) (yieldsIf_load_mid (by kernel_rfl) _ _ rfl (w.heap.size + 1 + 1) 0 rfl (zz) _ (fun w5 hSw => hSw.c.range) Tryz.underlying32 rfl iz) hS ?_
    simp only [Act.put, List.setIfInBounds_toArray, List.set_cons_zero, List.set_cons_succ]
    refine wpAnyH_ready (rs := [2]) (by kernel_rfl) (by simp) ?_
    refine AllReadyH.cons (o := { dst := some 2, op := Go.Op.assign (Go.Operand.const (Go.Value.string { data := #[] })), type := 9, pos := "order.go:195", after := #[{ on := 0, ground := Go.Ground.textOnly Go.Departure.lateStores }, { on := 1, ground := Go.Ground.textOnly Go.Departure.lateStores }], guard := none }) rfl (fun K hK => ?_) AllReadyH.nil
    rw [if_pos (by kernel_rfl)]
    go_simp
    refine hK.out _ _ hS (fun hS1 => ?_)
    clear hK hS
    refine wpAnyH_ready (rs := [3]) (by kernel_rfl) (by simp) ?_
    refine AllReadyH.cons (o := { dst := some 3, op := Go.Op.assign (Go.Operand.const (Go.Value.string { data := #[] })), type := 9, pos := "order.go:195", after := #[{ on := 2, ground := Go.Ground.chain }, { on := 0, ground := Go.Ground.textOnly Go.Departure.lateStores }, { on := 1, ground := Go.Ground.textOnly Go.Departure.lateStores }, { on := 2, ground := Go.Ground.phase }], guard := none }) rfl (fun K hK => ?_) AllReadyH.nil
    rw [if_pos (by kernel_rfl)]
    go_simp
    refine hK.out _ _ hS1 (fun hS2 => ?_)
    clear hK hS1
    refine wpAnyH_ready (rs := [4]) (by kernel_rfl) (by simp) ?_
    refine AllReadyH.cons (o := { dst := none, op := Go.Op.store 32 (Go.Operand.tmp 4) (Go.Operand.tmp 18), type := 0, pos := "order.go:195", after := #[{ on := 0, ground := Go.Ground.data }, { on := 3, ground := Go.Ground.chain }, { on := 0, ground := Go.Ground.phase }, { on := 1, ground := Go.Ground.textOnly Go.Departure.lateStores }, { on := 2, ground := Go.Ground.phase }, { on := 3, ground := Go.Ground.phase }], guard := none }) rfl (fun K hK => ?_) AllReadyH.nil
    rw [if_pos (by kernel_rfl)]
    refine wp_store_mid _ _ _ rfl (w.heap.size) 0 (zz).toArray rfl rfl (show World.there _ _ _ (List.length zz) from hS2.a.there) iz oz ?_
    simp only [Act.put]
    refine hK.out _ _ (hS2.s0) (fun hS3 => ?_)
    clear hK
    refine wpAnyH_ready (rs := [5]) (by kernel_rfl) (by simp) ?_
    refine AllReadyH.cons (o := { dst := none, op := Go.Op.store 32 (Go.Operand.tmp 5) (Go.Operand.tmp 19), type := 0, pos := "order.go:195", after := #[{ on := 1, ground := Go.Ground.data }, { on := 4, ground := Go.Ground.chain }, { on := 0, ground := Go.Ground.phase }, { on := 1, ground := Go.Ground.phase }, { on := 2, ground := Go.Ground.phase }, { on := 3, ground := Go.Ground.phase }, { on := 4, ground := Go.Ground.phase }], guard := none }) rfl (fun K hK => ?_) AllReadyH.nil
    rw [if_pos (by kernel_rfl)]
    refine wp_store_mid _ _ _ rfl (w.heap.size + 1) 0 (zz).toArray rfl rfl (show World.there _ _ _ (List.length zz) from hS3.b.there) iz oz ?_
    simp only [Act.put]
    refine hK.out _ _ (hS3.s1) (fun hS4 => ?_)
    clear hK
    refine wpAnyH_ready (rs := [6]) (by kernel_rfl) (by simp) ?_
    refine AllReadyH.cons (o := { dst := some 6, op := Go.Op.assign (Go.Operand.const (Go.Value.int Go.IntKind.i64 115)), type := 3, pos := "order.go:195", after := #[{ on := 5, ground := Go.Ground.chain }, { on := 0, ground := Go.Ground.phase }, { on := 1, ground := Go.Ground.phase }, { on := 2, ground := Go.Ground.phase }, { on := 3, ground := Go.Ground.phase }, { on := 4, ground := Go.Ground.phase }, { on := 5, ground := Go.Ground.phase }], guard := none }) rfl (fun K hK => ?_) AllReadyH.nil
    rw [if_pos (by kernel_rfl)]
    go_simp
    refine hK.out _ _ hS4 (fun hS5 => ?_)
    clear hK hS4
    refine wpAnyH_done (by kernel_rfl) ?_ _
    have HY := Hid.of hS5
    clear hS5
    go_wp2
    refine bodyPost_ret (result_t2c2t Tryz.results33 _ _ _ _ zz zz _ _ _ rfl rfl rfl rfl rfl HY.out.a.range Tryz.underlying32 rfl iz HY.out.b.range Tryz.underlying32 rfl iz) rfl ?_
    refine ⟨?_, HY.out.u⟩
    rw [HN.out, HZZ.out]
    rfl
  have hz : ¬ (1024 : Int) < (s.size : Int) := by omega
  have H6 := fun w' => Hid.of (six_walk s (by omega) w')
  clear h1024
  go_enter Tryz.func33, Tryz.ntmps33
  go_wp2_with fail
  rw [HLit.out]
  generalize ((w.alloc (.cells zz.toArray 32)).alloc (.cells zz.toArray 32)).alloc (.cells zz.toArray 32) = W0 at *
  refine (H6 _).out.mono ?_
  clear H6
  rintro e w1 ⟨v, rfl, ⟨a1, n1, c1, rfl⟩, hsl, u1⟩
  have HZ1 := Hid.of (HZ.out.up u1)
  have HSL := Hid.of hsl
  clear u1 hsl HZ
  cases ht : two s.data.toList with
  | none =>
    have HN := Hid.of (show prc s.data.toList = ⟨[], [], Z32, Z32, 115⟩ by rw [HP.out, ht])
    clear ht HSL HP
    dsimp only [Option.isSome]
    go_wp2
    go_quiet (fail)
    go_wp2
    refine wp_region_held_drew (S := fun w2 => Z3 w w2 zz) (by kernel_rfl) (HZ1.out.up (((Up.refl _).drewN _).drew)) (fun hS => ?_)
    refine wpAnyH_take (i := 0) (oi := { dst := some 46, op := Go.Op.load 32 (Go.Operand.tmp 7), type := 32, pos := "order.go:199", after := #[{ on := 3, ground := Go.Ground.gcOnly Go.Departure.lateStores }], guard := none }) (v := .agg (zz).toArray) rfl (by kernel_rfl) (by kernel_rfl) (by kernel_rfl) (fun _ _ _ h => h) (yieldsIf_load_mid (by kernel_rfl) _ _ rfl (w.heap.size + 1 + 1) 0 rfl (zz) _ (fun w5 hSw => hSw.c.range) Tryz.underlying32 rfl iz) hS ?_
    simp only [Act.put, List.setIfInBounds_toArray, List.set_cons_zero, List.set_cons_succ]
    refine wpAnyH_take (i := 1) (oi := { dst := some 47, op := Go.Op.load 32 (Go.Operand.tmp 7), type := 32, pos := "order.go:199", after := #[{ on := 4, ground := Go.Ground.gcOnly Go.Departure.lateStores }], guard := none }) (v := .agg (zz).toArray) rfl (by kernel_rfl) (by kernel_rfl) (by kernel_rfl) (fun _ _ _ h => h) (yieldsIf_load_mid (by kernel_rfl) _ _ rfl (w.heap.size + 1 + 1) 0 rfl (zz) _ (fun w5 hSw => hSw.c.range) Tryz.underlying32 rfl iz) hS ?_
    simp only [Act.put, List.setIfInBounds_toArray, List.set_cons_zero, List.set_cons_succ]
    refine wpAnyH_ready (rs := [2]) (by kernel_rfl) (by simp) ?_
    refine AllReadyH.cons (o := { dst := some 2, op := Go.Op.assign (Go.Operand.const (Go.Value.string { data := #[] })), type := 9, pos := "order.go:199", after := #[{ on := 0, ground := Go.Ground.textOnly Go.Departure.lateStores }, { on := 1, ground := Go.Ground.textOnly Go.Departure.lateStores }], guard := none }) rfl (fun K hK => ?_) AllReadyH.nil
    rw [if_pos (by kernel_rfl)]
    go_simp
    refine hK.out _ _ hS (fun hS1 => ?_)
    clear hK hS
    refine wpAnyH_ready (rs := [3]) (by kernel_rfl) (by simp) ?_
    refine AllReadyH.cons (o := { dst := some 3, op := Go.Op.assign (Go.Operand.const (Go.Value.string { data := #[] })), type := 9, pos := "order.go:199", after := #[{ on := 2, ground := Go.Ground.chain }, { on := 0, ground := Go.Ground.textOnly Go.Departure.lateStores }, { on := 1, ground := Go.Ground.textOnly Go.Departure.lateStores }, { on := 2, ground := Go.Ground.phase }], guard := none }) rfl (fun K hK => ?_) AllReadyH.nil
    rw [if_pos (by kernel_rfl)]
    go_simp
    refine hK.out _ _ hS1 (fun hS2 => ?_)
    clear hK hS1
    refine wpAnyH_ready (rs := [4]) (by kernel_rfl) (by simp) ?_
    refine AllReadyH.cons (o := { dst := none, op := Go.Op.store 32 (Go.Operand.tmp 4) (Go.Operand.tmp 46), type := 0, pos := "order.go:199", after := #[{ on := 0, ground := Go.Ground.data }, { on := 3, ground := Go.Ground.chain }, { on := 0, ground := Go.Ground.phase }, { on := 1, ground := Go.Ground.textOnly Go.Departure.lateStores }, { on := 2, ground := Go.Ground.phase }, { on := 3, ground := Go.Ground.phase }], guard := none }) rfl (fun K hK => ?_) AllReadyH.nil
    rw [if_pos (by kernel_rfl)]
    refine wp_store_mid _ _ _ rfl (w.heap.size) 0 (zz).toArray rfl rfl (show World.there _ _ _ (List.length zz) from hS2.a.there) iz oz ?_
    simp only [Act.put]
    refine hK.out _ _ (hS2.s0) (fun hS3 => ?_)
    clear hK
    refine wpAnyH_ready (rs := [5]) (by kernel_rfl) (by simp) ?_
    refine AllReadyH.cons (o := { dst := none, op := Go.Op.store 32 (Go.Operand.tmp 5) (Go.Operand.tmp 47), type := 0, pos := "order.go:199", after := #[{ on := 1, ground := Go.Ground.data }, { on := 4, ground := Go.Ground.chain }, { on := 0, ground := Go.Ground.phase }, { on := 1, ground := Go.Ground.phase }, { on := 2, ground := Go.Ground.phase }, { on := 3, ground := Go.Ground.phase }, { on := 4, ground := Go.Ground.phase }], guard := none }) rfl (fun K hK => ?_) AllReadyH.nil
    rw [if_pos (by kernel_rfl)]
    refine wp_store_mid _ _ _ rfl (w.heap.size + 1) 0 (zz).toArray rfl rfl (show World.there _ _ _ (List.length zz) from hS3.b.there) iz oz ?_
    simp only [Act.put]
    refine hK.out _ _ (hS3.s1) (fun hS4 => ?_)
    clear hK
    refine wpAnyH_ready (rs := [6]) (by kernel_rfl) (by simp) ?_
    refine AllReadyH.cons (o := { dst := some 6, op := Go.Op.assign (Go.Operand.const (Go.Value.int Go.IntKind.i64 115)), type := 3, pos := "order.go:199", after := #[{ on := 5, ground := Go.Ground.chain }, { on := 0, ground := Go.Ground.phase }, { on := 1, ground := Go.Ground.phase }, { on := 2, ground := Go.Ground.phase }, { on := 3, ground := Go.Ground.phase }, { on := 4, ground := Go.Ground.phase }, { on := 5, ground := Go.Ground.phase }], guard := none }) rfl (fun K hK => ?_) AllReadyH.nil
    rw [if_pos (by kernel_rfl)]
    go_simp
    refine hK.out _ _ hS4 (fun hS5 => ?_)
    clear hK hS4
    refine wpAnyH_done (by kernel_rfl) ?_ _
    have HY := Hid.of hS5
    clear hS5
    go_wp2
    refine bodyPost_ret (result_t2c2t Tryz.results33 _ _ _ _ zz zz _ _ _ rfl rfl rfl rfl rfl HY.out.a.range Tryz.underlying32 rfl iz HY.out.b.range Tryz.underlying32 rfl iz) rfl ?_
    refine ⟨?_, HY.out.u⟩
    rw [HN.out, HZZ.out]
    rfl
  | some q =>
    obtain ⟨x, y⟩ := q
    have hvl := two_len ht
    obtain ⟨g, off, cc, xa, xb, xc, xd, xe, xf, e', hcc, ⟨k0, k1, k2, k3, k4, k5⟩, ea, eb, ec, ed, ee, ef⟩ := (HSL.out x y ht).sixth
    injection e' with f1 f2 f3
    subst f1 f2 f3
    have HP2 := Hid.of (show prc s.data.toList = if y.1 ≠ x.1 ∨ y.2.1 ≠ x.2.1 ++ GOM then ⟨[], [], Z32, Z32, 115⟩
      else if (rdw x.1 x.2.1 x.2.2 y.2.2).2.2 ≠ 0 then ⟨[], [], Z32, Z32, (rdw x.1 x.2.1 x.2.2 y.2.2).2.2⟩
      else ⟨x.1, x.2.1, (rdw x.1 x.2.1 x.2.2 y.2.2).1, (rdw x.1 x.2.1 x.2.2 y.2.2).2.1, 0⟩ from HP.out.trans (by rw [ht]))
    have hccz : (6 : Int) ≤ (c1 : Int) := by omega
    have hbs : xb.size ≤ 1024 := by rw [← len_of, eb]; exact hvl
    rw [← ea, ← eb, ← ec, ← ed, ← ee, ← ef] at HP2
    clear ht HSL HP hcc hvl ea eb ec ed ee ef
    have hsn : ¬ 9223372036854775807 < xb.size + 7 := by omega
    dsimp only [Option.isSome]
    by_cases h1 : xd.data.toList = xa.data.toList
    · have hq1 : (xa.toList == xd.toList) = true := by rw [Go.Lib.toList_data, Go.Lib.toList_data, h1]; exact beq_self_eq_true _
      by_cases h2 : xe.data.toList = xb.data.toList ++ GOM
      · have hq2 : ((xb ++ ⟨#[47, 103, 111, 46, 109, 111, 100]⟩).toList == xe.toList) = true := by rw [Go.Lib.toList_data, Go.Lib.toList_data, h2, ba_app]; exact beq_self_eq_true _
        have HP3 := Hid.of (HP2.out.trans (if_neg (by rintro (h | h); exact h h1; exact h h2)))
        have HF := fun w' => fun (u : Up w w') => Hid.of (Fits_walk xa xb w' (HTK.out.up u))
        have HRD : Hid (rdw xa.data.toList xb.data.toList xc.data.toList xf.data.toList = if fte xa.data.toList xb.data.toList ≠ 0 then (Z32, Z32, fte xa.data.toList xb.data.toList) else if (psm xc.data.toList).2 ≠ 0 then ((psm xc.data.toList).1, Z32, (psm xc.data.toList).2) else ((psm xc.data.toList).1, (psm xf.data.toList).1, (psm xf.data.toList).2)) := rfl
        generalize fte xa.data.toList xb.data.toList = f at *
        clear h1 h2 HP2
        go_wp2
        go_quiet (fail)
        go_wp2
        clear hq1 hq2 hsn hbs
        refine wp_region_held_drew (S := fun w2 => Up w1 w2) (by kernel_rfl) (((Up.refl w1).drewN _).drew) (fun hS => ?_)
        refine wpAnyH_take (i := 0) (oi := { dst := some 48, op := Go.Op.move (Go.Operand.tmp 8), type := 22, pos := "order.go:201", after := #[], guard := none }) (v := .slice (some ⟨g, off, none⟩) 6 c1) rfl (by kernel_rfl) (by kernel_rfl) (by kernel_rfl) (fun _ _ _ h => h) (Or.inl ⟨by kernel_rfl, ?_⟩) hS ?_
        · intro w5 hSw
          go_simp
        simp only [Act.put, List.setIfInBounds_toArray, List.set_cons_zero, List.set_cons_succ]
        refine wpAnyH_take (i := 1) (oi := { dst := some 49, op := Go.Op.indexAddr 22 (Go.Operand.tmp 48) (Go.Operand.const (Go.Value.int Go.IntKind.i64 0)), type := 0, pos := "order.go:201", after := #[{ on := 0, ground := Go.Ground.data }], guard := none }) (v := .pointer (some ⟨g, off, none⟩)) rfl (by kernel_rfl) (by kernel_rfl) (by kernel_rfl) (fun _ _ _ h => h) (Or.inl ⟨by kernel_rfl, ?_⟩) hS ?_
        · intro w5 hSw
          go_simp
        simp only [Act.put, List.setIfInBounds_toArray, List.set_cons_zero, List.set_cons_succ]
        refine wpAnyH_take (i := 2) (oi := { dst := some 50, op := Go.Op.load 9 (Go.Operand.tmp 49), type := 9, pos := "order.go:201", after := #[{ on := 1, ground := Go.Ground.data }], guard := none }) (v := .string xa) rfl (by kernel_rfl) (by kernel_rfl) (by kernel_rfl) (fun _ _ _ h => h) (Or.inl ⟨by kernel_rfl, ?_⟩) hS ?_
        · intro w5 hSw
          have hq := hSw.cell k0
          go_simp
        simp only [Act.put, List.setIfInBounds_toArray, List.set_cons_zero, List.set_cons_succ]
        refine wpAnyH_take (i := 3) (oi := { dst := some 51, op := Go.Op.move (Go.Operand.tmp 8), type := 22, pos := "order.go:201", after := #[], guard := none }) (v := .slice (some ⟨g, off, none⟩) 6 c1) rfl (by kernel_rfl) (by kernel_rfl) (by kernel_rfl) (fun _ _ _ h => h) (Or.inl ⟨by kernel_rfl, ?_⟩) hS ?_
        · intro w5 hSw
          go_simp
        simp only [Act.put, List.setIfInBounds_toArray, List.set_cons_zero, List.set_cons_succ]
        refine wpAnyH_take (i := 4) (oi := { dst := some 52, op := Go.Op.indexAddr 22 (Go.Operand.tmp 51) (Go.Operand.const (Go.Value.int Go.IntKind.i64 1)), type := 0, pos := "order.go:201", after := #[{ on := 3, ground := Go.Ground.data }], guard := none }) (v := .pointer (some ⟨g, off + 1, none⟩)) rfl (by kernel_rfl) (by kernel_rfl) (by kernel_rfl) (fun _ _ _ h => h) (Or.inl ⟨by kernel_rfl, ?_⟩) hS ?_
        · intro w5 hSw
          go_simp
        simp only [Act.put, List.setIfInBounds_toArray, List.set_cons_zero, List.set_cons_succ]
        refine wpAnyH_take (i := 5) (oi := { dst := some 53, op := Go.Op.load 9 (Go.Operand.tmp 52), type := 9, pos := "order.go:201", after := #[{ on := 4, ground := Go.Ground.data }], guard := none }) (v := .string xb) rfl (by kernel_rfl) (by kernel_rfl) (by kernel_rfl) (fun _ _ _ h => h) (Or.inl ⟨by kernel_rfl, ?_⟩) hS ?_
        · intro w5 hSw
          have hq := hSw.cell k1
          go_simp
        simp only [Act.put, List.setIfInBounds_toArray, List.set_cons_zero, List.set_cons_succ]
        refine wpAnyH_ready (rs := [6]) (by kernel_rfl) (by simp) ?_
        refine AllReadyH.cons (o := { dst := some 54, op := Go.Op.call { callee := Go.Callee.value (Go.Operand.func 51), args := #[Go.Operand.tmp 50, Go.Operand.tmp 53], argTypes := #[9, 9] }, type := 3, pos := "order.go:201", after := #[{ on := 2, ground := Go.Ground.data }, { on := 5, ground := Go.Ground.data }], guard := none }) rfl (fun K hK => ?_) AllReadyH.nil
        rw [if_pos (by kernel_rfl)]
        go_simp
        refine (HF _ (HZ1.out.u.trans hS)).out.mono ?_
        rintro e v1 ⟨rfl, u1⟩
        dsimp only
        refine hK.out _ _ (hS.trans u1) (fun hS1 => ?_)
        clear hK hS
        refine wpAnyH_ready (rs := [7]) (by kernel_rfl) (by simp) ?_
        refine AllReadyH.cons (o := { dst := some 10, op := Go.Op.assign (Go.Operand.tmp 54), type := 3, pos := "order.go:201", after := #[{ on := 6, ground := Go.Ground.data }, { on := 6, ground := Go.Ground.chain }, { on := 0, ground := Go.Ground.phase }, { on := 1, ground := Go.Ground.phase }, { on := 2, ground := Go.Ground.phase }, { on := 3, ground := Go.Ground.phase }, { on := 4, ground := Go.Ground.phase }, { on := 5, ground := Go.Ground.phase }, { on := 6, ground := Go.Ground.phase }], guard := none }) rfl (fun K hK => ?_) AllReadyH.nil
        rw [if_pos (by kernel_rfl)]
        go_simp
        refine hK.out _ _ hS1 (fun hS2 => ?_)
        clear hK hS1
        refine wpAnyH_done (by kernel_rfl) ?_ _
        have H7 := Hid.of hS2
        clear hS2
        have HZ7 := Hid.of (HZ1.out.up H7.out)
        by_cases h0 : f = 0
        · subst h0
          rw [if_neg (by decide)] at HRD
          have hl1 := psm_len xc.data.toList
          have hl2 := psm_len xf.data.toList
          have hm1 := psm_err xc.data.toList
          have hm2 := psm_err xf.data.toList
          have HS1 := fun w' => Hid.of (RParseSum_walk xc w')
          have HS2 := fun w' => Hid.of (RParseSum_walk xf w')
          have hgne : w.heap.size ≠ g ∧ w.heap.size + 1 ≠ g := by
            have e1 := HZ1.out.a
            have e2 := HZ1.out.b
            rw [HZZ.out] at e1 e2
            exact ⟨fun h => by subst h; exact str_row e1 k0, fun h => by subst h; exact str_row e2 k0⟩
          generalize psm xc.data.toList = r1 at *
          generalize psm xf.data.toList = r2 at *
          obtain ⟨t1, m1⟩ := r1
          obtain ⟨t2, m2⟩ := r2
          dsimp only at hl1 hl2 hm1 hm2 HS1 HS2 HRD
          have n1 : (cb t1).length = 32 := by rw [cb_length, hl1]
          have n2 : (cb t2).length = 32 := by rw [cb_length, hl2]
          have i1 := i32 hl1
          have i2 := i32 hl2
          have o1 := cb_all t1
          have o2 := cb_all t2
          have lz : zz.length = 32 := by rw [HZZ.out]; rfl
          have HG := Hid.of hgne
          have HM := Hid.of (And.intro hm1 hm2)
          clear hm1 hm2 hgne
          have j2 := H7.out.cell k2
          go_wp2_with fail
          refine (HS1 _).out.mono ?_
          rintro e w4 ⟨rfl, u4⟩
          have H4 := Hid.of (H7.out.trans u4)
          clear u4 HS1 j2
          dsimp only
          go_wp2_with (with_reducible show wpList _ _ _ ({ dst := _, op := Op.store 32 _ _, type := _, pos := _, after := _, guard := _ } :: _) _ _; refine Shut.out ?_)
          show wpList _ _ _ _ _ _
          rw [HLit.out]
          refine wpList_store_at rfl _ _ _ rfl w4.heap.size (at_new w4 32 zz) (cb t1) rfl rfl (by rw [n1, lz]) (by rw [List.size_toArray, n1]; kernel_rfl) o1 fun x5 hA5 hg5 => ?_
          have HA5 := Hid.of hA5
          have HU5 := Hid.of ((H4.out.alloc (.cells zz.toArray 32)).by hg5 (fun g hg => by injection hg with hg; have := H4.out.size; omega))
          have HW4 := Hid.of H4.out.size
          clear hA5 hg5 H4
          simp only [Act.put]
          have j5 := HU5.out.cell k5
          go_wp2_with fail
          refine (HS2 _).out.mono ?_
          rintro e w6 ⟨rfl, u6⟩
          have H6 := Hid.of (HU5.out.trans u6)
          have HA6 := Hid.of (HA5.out.up u6)
          clear u6 HS2 j5 HA5 HU5
          dsimp only
          go_wp2_with (with_reducible show wpList _ _ _ ({ dst := _, op := Op.store 32 _ _, type := _, pos := _, after := _, guard := _ } :: _) _ _; refine Shut.out ?_)
          show wpList _ _ _ _ _ _
          rw [HLit.out]
          refine wpList_store_at rfl _ _ _ rfl w6.heap.size (at_new w6 32 zz) (cb t2) rfl rfl (by rw [n2, lz]) (by rw [List.size_toArray, n2]; kernel_rfl) o2 fun x7 hA7 hg7 => ?_
          have HA7 := Hid.of hA7
          have HA8 := Hid.of ((HA6.out.up ((Up.refl w6).alloc (.cells zz.toArray 32))).by hg7 (fun e => by injection e with e; have := lt_of_at HA6.out; omega))
          have HU7 := Hid.of ((H6.out.alloc (.cells zz.toArray 32)).by hg7 (fun g hg => by injection hg with hg; have := H6.out.size; omega))
          have HLT := Hid.of (And.intro (lt_of_at HA6.out) (And.intro (lt_of_at HZ1.out.a) (lt_of_at HZ1.out.b)))
          clear hA7 hg7 H6 HA6
          simp only [Act.put]
          have HZ9 := Hid.of (HZ1.out.up HU7.out)
          by_cases hm1 : m1 = 0
          · subst hm1
            rw [if_neg (by decide)] at HRD
            by_cases hm2 : m2 = 0
            · subst hm2
              have HN := Hid.of (show prc s.data.toList = ⟨xa.data.toList, xb.data.toList, t1, t2, 0⟩ by
                rw [HP3.out, HRD.out]
                rfl)
              have hne0 : w.heap.size ≠ g ∧ w.heap.size ≠ w4.heap.size ∧ w.heap.size ≠ w6.heap.size := by
                obtain ⟨q1, q2, q3⟩ := HLT.out
                have q4 := HW4.out
                exact ⟨HG.out.1, by omega, by omega⟩
              have hne1 : w.heap.size + 1 ≠ g ∧ w.heap.size + 1 ≠ w4.heap.size ∧ w.heap.size + 1 ≠ w6.heap.size := by
                obtain ⟨q1, q2, q3⟩ := HLT.out
                have q4 := HW4.out
                exact ⟨HG.out.2, by omega, by omega⟩
              have HF4 := Hid.of (show F4 w x7 g off xa xb w4.heap.size w6.heap.size (cb t1) (cb t2) from ⟨HZ9.out.u, HU7.out.cell k0, HU7.out.cell k1, HA8.out.range, HA7.out.range, by have := HZ9.out.a.there; rwa [lz] at this, by have := HZ9.out.b.there; rwa [lz] at this⟩)
              clear HP3 HRD HG HM HLT HW4
              go_wp2
              refine wp_region_held_drew (S := fun w2 => F4 w w2 g off xa xb w4.heap.size w6.heap.size (cb t1) (cb t2)) (by kernel_rfl) (HF4.out.drew) (fun hS => ?_)
              refine wpAnyH_take (i := 0) (oi := { dst := some 82, op := Go.Op.move (Go.Operand.tmp 8), type := 22, pos := "order.go:210", after := #[], guard := none }) (v := .slice (some ⟨g, off, none⟩) 6 c1) rfl (by kernel_rfl) (by kernel_rfl) (by kernel_rfl) (fun _ _ _ h => h) (Or.inl ⟨by kernel_rfl, ?_⟩) hS ?_
              · intro w5 hSw
                go_simp
              simp only [Act.put, List.setIfInBounds_toArray, List.set_cons_zero, List.set_cons_succ]
              refine wpAnyH_take (i := 1) (oi := { dst := some 83, op := Go.Op.indexAddr 22 (Go.Operand.tmp 82) (Go.Operand.const (Go.Value.int Go.IntKind.i64 0)), type := 0, pos := "order.go:210", after := #[{ on := 0, ground := Go.Ground.data }], guard := none }) (v := .pointer (some ⟨g, off, none⟩)) rfl (by kernel_rfl) (by kernel_rfl) (by kernel_rfl) (fun _ _ _ h => h) (Or.inl ⟨by kernel_rfl, ?_⟩) hS ?_
              · intro w5 hSw
                go_simp
              simp only [Act.put, List.setIfInBounds_toArray, List.set_cons_zero, List.set_cons_succ]
              refine wpAnyH_take (i := 2) (oi := { dst := some 84, op := Go.Op.load 9 (Go.Operand.tmp 83), type := 9, pos := "order.go:210", after := #[{ on := 1, ground := Go.Ground.data }], guard := none }) (v := .string xa) rfl (by kernel_rfl) (by kernel_rfl) (by kernel_rfl) (fun _ _ _ h => h) (Or.inl ⟨by kernel_rfl, ?_⟩) hS ?_
              · intro w5 hSw
                have hq := hSw.c0
                go_simp
              simp only [Act.put, List.setIfInBounds_toArray, List.set_cons_zero, List.set_cons_succ]
              refine wpAnyH_take (i := 3) (oi := { dst := some 85, op := Go.Op.move (Go.Operand.tmp 8), type := 22, pos := "order.go:210", after := #[{ on := 8, ground := Go.Ground.gcOnly Go.Departure.lateStores }], guard := none }) (v := .slice (some ⟨g, off, none⟩) 6 c1) rfl (by kernel_rfl) (by kernel_rfl) (by kernel_rfl) (fun _ _ _ h => h) (Or.inl ⟨by kernel_rfl, ?_⟩) hS ?_
              · intro w5 hSw
                go_simp
              simp only [Act.put, List.setIfInBounds_toArray, List.set_cons_zero, List.set_cons_succ]
              refine wpAnyH_take (i := 4) (oi := { dst := some 86, op := Go.Op.indexAddr 22 (Go.Operand.tmp 85) (Go.Operand.const (Go.Value.int Go.IntKind.i64 1)), type := 0, pos := "order.go:210", after := #[{ on := 3, ground := Go.Ground.data }, { on := 8, ground := Go.Ground.gcOnly Go.Departure.lateStores }], guard := none }) (v := .pointer (some ⟨g, off + 1, none⟩)) rfl (by kernel_rfl) (by kernel_rfl) (by kernel_rfl) (fun _ _ _ h => h) (Or.inl ⟨by kernel_rfl, ?_⟩) hS ?_
              · intro w5 hSw
                go_simp
              simp only [Act.put, List.setIfInBounds_toArray, List.set_cons_zero, List.set_cons_succ]
              refine wpAnyH_take (i := 5) (oi := { dst := some 87, op := Go.Op.load 9 (Go.Operand.tmp 86), type := 9, pos := "order.go:210", after := #[{ on := 4, ground := Go.Ground.data }, { on := 8, ground := Go.Ground.gcOnly Go.Departure.lateStores }], guard := none }) (v := .string xb) rfl (by kernel_rfl) (by kernel_rfl) (by kernel_rfl) (fun _ _ _ h => h) (Or.inl ⟨by kernel_rfl, ?_⟩) hS ?_
              · intro w5 hSw
                have hq := hSw.c1
                go_simp
              simp only [Act.put, List.setIfInBounds_toArray, List.set_cons_zero, List.set_cons_succ]
              refine wpAnyH_take (i := 6) (oi := { dst := some 88, op := Go.Op.load 32 (Go.Operand.tmp 11), type := 32, pos := "order.go:210", after := #[{ on := 9, ground := Go.Ground.gcOnly Go.Departure.lateStores }], guard := none }) (v := .agg (cb t1).toArray) rfl (by kernel_rfl) (by kernel_rfl) (by kernel_rfl) (fun _ _ _ h => h) (yieldsIf_load_mid (by kernel_rfl) _ _ rfl (w4.heap.size) 0 rfl (cb t1) _ (fun w5 hSw => hSw.r1) Tryz.underlying32 rfl i1) hS ?_
              simp only [Act.put, List.setIfInBounds_toArray, List.set_cons_zero, List.set_cons_succ]
              refine wpAnyH_take (i := 7) (oi := { dst := some 89, op := Go.Op.load 32 (Go.Operand.tmp 13), type := 32, pos := "order.go:210", after := #[{ on := 10, ground := Go.Ground.gcOnly Go.Departure.lateStores }], guard := none }) (v := .agg (cb t2).toArray) rfl (by kernel_rfl) (by kernel_rfl) (by kernel_rfl) (fun _ _ _ h => h) (yieldsIf_load_mid (by kernel_rfl) _ _ rfl (w6.heap.size) 0 rfl (cb t2) _ (fun w5 hSw => hSw.r2) Tryz.underlying32 rfl i2) hS ?_
              simp only [Act.put, List.setIfInBounds_toArray, List.set_cons_zero, List.set_cons_succ]
              refine wpAnyH_ready (rs := [8]) (by kernel_rfl) (by simp) ?_
              refine AllReadyH.cons (o := { dst := some 2, op := Go.Op.assign (Go.Operand.tmp 84), type := 9, pos := "order.go:210", after := #[{ on := 2, ground := Go.Ground.data }, { on := 0, ground := Go.Ground.phase }, { on := 1, ground := Go.Ground.phase }, { on := 2, ground := Go.Ground.phase }, { on := 3, ground := Go.Ground.textOnly Go.Departure.lateStores }, { on := 4, ground := Go.Ground.textOnly Go.Departure.lateStores }, { on := 5, ground := Go.Ground.textOnly Go.Departure.lateStores }, { on := 6, ground := Go.Ground.textOnly Go.Departure.lateStores }, { on := 7, ground := Go.Ground.textOnly Go.Departure.lateStores }], guard := none }) rfl (fun K hK => ?_) AllReadyH.nil
              rw [if_pos (by kernel_rfl)]
              go_simp
              refine hK.out _ _ hS (fun hS1 => ?_)
              clear hK hS
              refine wpAnyH_ready (rs := [9]) (by kernel_rfl) (by simp) ?_
              refine AllReadyH.cons (o := { dst := some 3, op := Go.Op.assign (Go.Operand.tmp 87), type := 9, pos := "order.go:210", after := #[{ on := 5, ground := Go.Ground.data }, { on := 8, ground := Go.Ground.chain }, { on := 0, ground := Go.Ground.phase }, { on := 1, ground := Go.Ground.phase }, { on := 2, ground := Go.Ground.phase }, { on := 3, ground := Go.Ground.phase }, { on := 4, ground := Go.Ground.phase }, { on := 5, ground := Go.Ground.phase }, { on := 6, ground := Go.Ground.textOnly Go.Departure.lateStores }, { on := 7, ground := Go.Ground.textOnly Go.Departure.lateStores }, { on := 8, ground := Go.Ground.phase }], guard := none }) rfl (fun K hK => ?_) AllReadyH.nil
              rw [if_pos (by kernel_rfl)]
              go_simp
              refine hK.out _ _ hS1 (fun hS2 => ?_)
              clear hK hS1
              refine wpAnyH_ready (rs := [10]) (by kernel_rfl) (by simp) ?_
              refine AllReadyH.cons (o := { dst := none, op := Go.Op.store 32 (Go.Operand.tmp 4) (Go.Operand.tmp 88), type := 0, pos := "order.go:210", after := #[{ on := 6, ground := Go.Ground.data }, { on := 9, ground := Go.Ground.chain }, { on := 0, ground := Go.Ground.phase }, { on := 1, ground := Go.Ground.phase }, { on := 2, ground := Go.Ground.phase }, { on := 3, ground := Go.Ground.phase }, { on := 4, ground := Go.Ground.phase }, { on := 5, ground := Go.Ground.phase }, { on := 6, ground := Go.Ground.phase }, { on := 7, ground := Go.Ground.textOnly Go.Departure.lateStores }, { on := 8, ground := Go.Ground.phase }, { on := 9, ground := Go.Ground.phase }], guard := none }) rfl (fun K hK => ?_) AllReadyH.nil
              rw [if_pos (by kernel_rfl)]
              refine wp_store_mid _ _ _ rfl (w.heap.size) 0 (cb t1).toArray rfl rfl (show World.there _ _ _ (List.length (cb t1)) from (by rw [n1]; exact hS2.th0)) i1 o1 ?_
              simp only [Act.put]
              refine hK.out _ _ (hS2.st (Nat.le_refl _) hne0.1 hne0.2.1 hne0.2.2 (cb t1)) (fun hS3 => ?_)
              clear hK
              refine wpAnyH_ready (rs := [11]) (by kernel_rfl) (by simp) ?_
              refine AllReadyH.cons (o := { dst := none, op := Go.Op.store 32 (Go.Operand.tmp 5) (Go.Operand.tmp 89), type := 0, pos := "order.go:210", after := #[{ on := 7, ground := Go.Ground.data }, { on := 10, ground := Go.Ground.chain }, { on := 0, ground := Go.Ground.phase }, { on := 1, ground := Go.Ground.phase }, { on := 2, ground := Go.Ground.phase }, { on := 3, ground := Go.Ground.phase }, { on := 4, ground := Go.Ground.phase }, { on := 5, ground := Go.Ground.phase }, { on := 6, ground := Go.Ground.phase }, { on := 7, ground := Go.Ground.phase }, { on := 8, ground := Go.Ground.phase }, { on := 9, ground := Go.Ground.phase }, { on := 10, ground := Go.Ground.phase }], guard := none }) rfl (fun K hK => ?_) AllReadyH.nil
              rw [if_pos (by kernel_rfl)]
              refine wp_store_mid _ _ _ rfl (w.heap.size + 1) 0 (cb t2).toArray rfl rfl (show World.there _ _ _ (List.length (cb t2)) from (by rw [n2]; exact hS3.th1)) i2 o2 ?_
              simp only [Act.put]
              refine hK.out _ _ (hS3.st (by omega) hne1.1 hne1.2.1 hne1.2.2 (cb t2)) (fun hS4 => ?_)
              clear hK
              refine wpAnyH_ready (rs := [12]) (by kernel_rfl) (by simp) ?_
              refine AllReadyH.cons (o := { dst := some 6, op := Go.Op.assign (Go.Operand.const (Go.Value.int Go.IntKind.i64 0)), type := 3, pos := "order.go:210", after := #[{ on := 11, ground := Go.Ground.chain }, { on := 0, ground := Go.Ground.phase }, { on := 1, ground := Go.Ground.phase }, { on := 2, ground := Go.Ground.phase }, { on := 3, ground := Go.Ground.phase }, { on := 4, ground := Go.Ground.phase }, { on := 5, ground := Go.Ground.phase }, { on := 6, ground := Go.Ground.phase }, { on := 7, ground := Go.Ground.phase }, { on := 8, ground := Go.Ground.phase }, { on := 9, ground := Go.Ground.phase }, { on := 10, ground := Go.Ground.phase }, { on := 11, ground := Go.Ground.phase }], guard := none }) rfl (fun K hK => ?_) AllReadyH.nil
              rw [if_pos (by kernel_rfl)]
              go_simp
              refine hK.out _ _ hS4 (fun hS5 => ?_)
              clear hK hS4
              refine wpAnyH_done (by kernel_rfl) ?_ _
              have HY := Hid.of hS5
              clear hS5
              go_wp2
              refine bodyPost_ret (result_t2c2t Tryz.results33 _ _ _ _ (cb t1) (cb t2) _ _ _ rfl rfl rfl rfl rfl (World.rangeAt_setCells_apart (World.rangeAt_setCells_same _ _ _ (cb t1) (by rw [n1]; exact hS2.th0)) _ _ (cb t2) (.inl (by omega))) Tryz.underlying32 rfl i1 (World.rangeAt_setCells_same _ _ _ (cb t2) (by rw [n2]; exact hS3.th1)) Tryz.underlying32 rfl i2) rfl ?_
              refine ⟨?_, HY.out.u⟩
              rw [HN.out]
              rfl
            · have hm2z : (m2 != 0) = true := by rw [bne_iff_ne]; exact hm2
              have HN := Hid.of (show prc s.data.toList = ⟨[], [], Z32, Z32, 114⟩ by
                rw [HP3.out, HRD.out, if_pos hm2, HM.out.2.resolve_left hm2])
              clear hm2
              go_wp2
              refine wp_region_held_drew (S := fun w2 => Z3 w w2 zz) (by kernel_rfl) (HZ9.out.up ((Up.refl x7).drew)) (fun hS => ?_)
              refine wpAnyH_take (i := 0) (oi := { dst := some 80, op := Go.Op.load 32 (Go.Operand.tmp 7), type := 32, pos := "order.go:208", after := #[{ on := 3, ground := Go.Ground.gcOnly Go.Departure.lateStores }], guard := none }) (v := .agg (zz).toArray) rfl (by kernel_rfl) (by kernel_rfl) (by kernel_rfl) (fun _ _ _ h => h) (yieldsIf_load_mid (by kernel_rfl) _ _ rfl (w.heap.size + 1 + 1) 0 rfl (zz) _ (fun w5 hSw => hSw.c.range) Tryz.underlying32 rfl iz) hS ?_
              simp only [Act.put, List.setIfInBounds_toArray, List.set_cons_zero, List.set_cons_succ]
              refine wpAnyH_take (i := 1) (oi := { dst := some 81, op := Go.Op.load 32 (Go.Operand.tmp 7), type := 32, pos := "order.go:208", after := #[{ on := 4, ground := Go.Ground.gcOnly Go.Departure.lateStores }], guard := none }) (v := .agg (zz).toArray) rfl (by kernel_rfl) (by kernel_rfl) (by kernel_rfl) (fun _ _ _ h => h) (yieldsIf_load_mid (by kernel_rfl) _ _ rfl (w.heap.size + 1 + 1) 0 rfl (zz) _ (fun w5 hSw => hSw.c.range) Tryz.underlying32 rfl iz) hS ?_
              simp only [Act.put, List.setIfInBounds_toArray, List.set_cons_zero, List.set_cons_succ]
              refine wpAnyH_ready (rs := [2]) (by kernel_rfl) (by simp) ?_
              refine AllReadyH.cons (o := { dst := some 2, op := Go.Op.assign (Go.Operand.const (Go.Value.string { data := #[] })), type := 9, pos := "order.go:208", after := #[{ on := 0, ground := Go.Ground.textOnly Go.Departure.lateStores }, { on := 1, ground := Go.Ground.textOnly Go.Departure.lateStores }], guard := none }) rfl (fun K hK => ?_) AllReadyH.nil
              rw [if_pos (by kernel_rfl)]
              go_simp
              refine hK.out _ _ hS (fun hS1 => ?_)
              clear hK hS
              refine wpAnyH_ready (rs := [3]) (by kernel_rfl) (by simp) ?_
              refine AllReadyH.cons (o := { dst := some 3, op := Go.Op.assign (Go.Operand.const (Go.Value.string { data := #[] })), type := 9, pos := "order.go:208", after := #[{ on := 2, ground := Go.Ground.chain }, { on := 0, ground := Go.Ground.textOnly Go.Departure.lateStores }, { on := 1, ground := Go.Ground.textOnly Go.Departure.lateStores }, { on := 2, ground := Go.Ground.phase }], guard := none }) rfl (fun K hK => ?_) AllReadyH.nil
              rw [if_pos (by kernel_rfl)]
              go_simp
              refine hK.out _ _ hS1 (fun hS2 => ?_)
              clear hK hS1
              refine wpAnyH_ready (rs := [4]) (by kernel_rfl) (by simp) ?_
              refine AllReadyH.cons (o := { dst := none, op := Go.Op.store 32 (Go.Operand.tmp 4) (Go.Operand.tmp 80), type := 0, pos := "order.go:208", after := #[{ on := 0, ground := Go.Ground.data }, { on := 3, ground := Go.Ground.chain }, { on := 0, ground := Go.Ground.phase }, { on := 1, ground := Go.Ground.textOnly Go.Departure.lateStores }, { on := 2, ground := Go.Ground.phase }, { on := 3, ground := Go.Ground.phase }], guard := none }) rfl (fun K hK => ?_) AllReadyH.nil
              rw [if_pos (by kernel_rfl)]
              refine wp_store_mid _ _ _ rfl (w.heap.size) 0 (zz).toArray rfl rfl (show World.there _ _ _ (List.length zz) from hS2.a.there) iz oz ?_
              simp only [Act.put]
              refine hK.out _ _ (hS2.s0) (fun hS3 => ?_)
              clear hK
              refine wpAnyH_ready (rs := [5]) (by kernel_rfl) (by simp) ?_
              refine AllReadyH.cons (o := { dst := none, op := Go.Op.store 32 (Go.Operand.tmp 5) (Go.Operand.tmp 81), type := 0, pos := "order.go:208", after := #[{ on := 1, ground := Go.Ground.data }, { on := 4, ground := Go.Ground.chain }, { on := 0, ground := Go.Ground.phase }, { on := 1, ground := Go.Ground.phase }, { on := 2, ground := Go.Ground.phase }, { on := 3, ground := Go.Ground.phase }, { on := 4, ground := Go.Ground.phase }], guard := none }) rfl (fun K hK => ?_) AllReadyH.nil
              rw [if_pos (by kernel_rfl)]
              refine wp_store_mid _ _ _ rfl (w.heap.size + 1) 0 (zz).toArray rfl rfl (show World.there _ _ _ (List.length zz) from hS3.b.there) iz oz ?_
              simp only [Act.put]
              refine hK.out _ _ (hS3.s1) (fun hS4 => ?_)
              clear hK
              refine wpAnyH_ready (rs := [6]) (by kernel_rfl) (by simp) ?_
              refine AllReadyH.cons (o := { dst := some 6, op := Go.Op.assign (Go.Operand.const (Go.Value.int Go.IntKind.i64 114)), type := 3, pos := "order.go:208", after := #[{ on := 5, ground := Go.Ground.chain }, { on := 0, ground := Go.Ground.phase }, { on := 1, ground := Go.Ground.phase }, { on := 2, ground := Go.Ground.phase }, { on := 3, ground := Go.Ground.phase }, { on := 4, ground := Go.Ground.phase }, { on := 5, ground := Go.Ground.phase }], guard := none }) rfl (fun K hK => ?_) AllReadyH.nil
              rw [if_pos (by kernel_rfl)]
              go_simp
              refine hK.out _ _ hS4 (fun hS5 => ?_)
              clear hK hS4
              refine wpAnyH_done (by kernel_rfl) ?_ _
              have HY := Hid.of hS5
              clear hS5
              go_wp2
              refine bodyPost_ret (result_t2c2t Tryz.results33 _ _ _ _ zz zz _ _ _ rfl rfl rfl rfl rfl HY.out.a.range Tryz.underlying32 rfl iz HY.out.b.range Tryz.underlying32 rfl iz) rfl ?_
              refine ⟨?_, HY.out.u⟩
              rw [HN.out, HZZ.out]
              rfl
          · have hm1z : (m1 != 0) = true := by rw [bne_iff_ne]; exact hm1
            rw [if_pos hm1] at HRD
            have HN := Hid.of (show prc s.data.toList = ⟨[], [], Z32, Z32, 114⟩ by
              rw [HP3.out, HRD.out, if_pos hm1, HM.out.1.resolve_left hm1])
            clear hm1
            go_wp2
            refine wp_region_held_drew (S := fun w2 => Z3 w w2 zz) (by kernel_rfl) (HZ9.out.up ((Up.refl x7).drew)) (fun hS => ?_)
            refine wpAnyH_take (i := 0) (oi := { dst := some 80, op := Go.Op.load 32 (Go.Operand.tmp 7), type := 32, pos := "order.go:208", after := #[{ on := 3, ground := Go.Ground.gcOnly Go.Departure.lateStores }], guard := none }) (v := .agg (zz).toArray) rfl (by kernel_rfl) (by kernel_rfl) (by kernel_rfl) (fun _ _ _ h => h) (yieldsIf_load_mid (by kernel_rfl) _ _ rfl (w.heap.size + 1 + 1) 0 rfl (zz) _ (fun w5 hSw => hSw.c.range) Tryz.underlying32 rfl iz) hS ?_
            simp only [Act.put, List.setIfInBounds_toArray, List.set_cons_zero, List.set_cons_succ]
            refine wpAnyH_take (i := 1) (oi := { dst := some 81, op := Go.Op.load 32 (Go.Operand.tmp 7), type := 32, pos := "order.go:208", after := #[{ on := 4, ground := Go.Ground.gcOnly Go.Departure.lateStores }], guard := none }) (v := .agg (zz).toArray) rfl (by kernel_rfl) (by kernel_rfl) (by kernel_rfl) (fun _ _ _ h => h) (yieldsIf_load_mid (by kernel_rfl) _ _ rfl (w.heap.size + 1 + 1) 0 rfl (zz) _ (fun w5 hSw => hSw.c.range) Tryz.underlying32 rfl iz) hS ?_
            simp only [Act.put, List.setIfInBounds_toArray, List.set_cons_zero, List.set_cons_succ]
            refine wpAnyH_ready (rs := [2]) (by kernel_rfl) (by simp) ?_
            refine AllReadyH.cons (o := { dst := some 2, op := Go.Op.assign (Go.Operand.const (Go.Value.string { data := #[] })), type := 9, pos := "order.go:208", after := #[{ on := 0, ground := Go.Ground.textOnly Go.Departure.lateStores }, { on := 1, ground := Go.Ground.textOnly Go.Departure.lateStores }], guard := none }) rfl (fun K hK => ?_) AllReadyH.nil
            rw [if_pos (by kernel_rfl)]
            go_simp
            refine hK.out _ _ hS (fun hS1 => ?_)
            clear hK hS
            refine wpAnyH_ready (rs := [3]) (by kernel_rfl) (by simp) ?_
            refine AllReadyH.cons (o := { dst := some 3, op := Go.Op.assign (Go.Operand.const (Go.Value.string { data := #[] })), type := 9, pos := "order.go:208", after := #[{ on := 2, ground := Go.Ground.chain }, { on := 0, ground := Go.Ground.textOnly Go.Departure.lateStores }, { on := 1, ground := Go.Ground.textOnly Go.Departure.lateStores }, { on := 2, ground := Go.Ground.phase }], guard := none }) rfl (fun K hK => ?_) AllReadyH.nil
            rw [if_pos (by kernel_rfl)]
            go_simp
            refine hK.out _ _ hS1 (fun hS2 => ?_)
            clear hK hS1
            refine wpAnyH_ready (rs := [4]) (by kernel_rfl) (by simp) ?_
            refine AllReadyH.cons (o := { dst := none, op := Go.Op.store 32 (Go.Operand.tmp 4) (Go.Operand.tmp 80), type := 0, pos := "order.go:208", after := #[{ on := 0, ground := Go.Ground.data }, { on := 3, ground := Go.Ground.chain }, { on := 0, ground := Go.Ground.phase }, { on := 1, ground := Go.Ground.textOnly Go.Departure.lateStores }, { on := 2, ground := Go.Ground.phase }, { on := 3, ground := Go.Ground.phase }], guard := none }) rfl (fun K hK => ?_) AllReadyH.nil
            rw [if_pos (by kernel_rfl)]
            refine wp_store_mid _ _ _ rfl (w.heap.size) 0 (zz).toArray rfl rfl (show World.there _ _ _ (List.length zz) from hS2.a.there) iz oz ?_
            simp only [Act.put]
            refine hK.out _ _ (hS2.s0) (fun hS3 => ?_)
            clear hK
            refine wpAnyH_ready (rs := [5]) (by kernel_rfl) (by simp) ?_
            refine AllReadyH.cons (o := { dst := none, op := Go.Op.store 32 (Go.Operand.tmp 5) (Go.Operand.tmp 81), type := 0, pos := "order.go:208", after := #[{ on := 1, ground := Go.Ground.data }, { on := 4, ground := Go.Ground.chain }, { on := 0, ground := Go.Ground.phase }, { on := 1, ground := Go.Ground.phase }, { on := 2, ground := Go.Ground.phase }, { on := 3, ground := Go.Ground.phase }, { on := 4, ground := Go.Ground.phase }], guard := none }) rfl (fun K hK => ?_) AllReadyH.nil
            rw [if_pos (by kernel_rfl)]
            refine wp_store_mid _ _ _ rfl (w.heap.size + 1) 0 (zz).toArray rfl rfl (show World.there _ _ _ (List.length zz) from hS3.b.there) iz oz ?_
            simp only [Act.put]
            refine hK.out _ _ (hS3.s1) (fun hS4 => ?_)
            clear hK
            refine wpAnyH_ready (rs := [6]) (by kernel_rfl) (by simp) ?_
            refine AllReadyH.cons (o := { dst := some 6, op := Go.Op.assign (Go.Operand.const (Go.Value.int Go.IntKind.i64 114)), type := 3, pos := "order.go:208", after := #[{ on := 5, ground := Go.Ground.chain }, { on := 0, ground := Go.Ground.phase }, { on := 1, ground := Go.Ground.phase }, { on := 2, ground := Go.Ground.phase }, { on := 3, ground := Go.Ground.phase }, { on := 4, ground := Go.Ground.phase }, { on := 5, ground := Go.Ground.phase }], guard := none }) rfl (fun K hK => ?_) AllReadyH.nil
            rw [if_pos (by kernel_rfl)]
            go_simp
            refine hK.out _ _ hS4 (fun hS5 => ?_)
            clear hK hS4
            refine wpAnyH_done (by kernel_rfl) ?_ _
            have HY := Hid.of hS5
            clear hS5
            go_wp2
            refine bodyPost_ret (result_t2c2t Tryz.results33 _ _ _ _ zz zz _ _ _ rfl rfl rfl rfl rfl HY.out.a.range Tryz.underlying32 rfl iz HY.out.b.range Tryz.underlying32 rfl iz) rfl ?_
            refine ⟨?_, HY.out.u⟩
            rw [HN.out, HZZ.out]
            rfl
        · have h0z : (f != 0) = true := by rw [bne_iff_ne]; exact h0
          rw [if_pos h0] at HRD
          have HN := Hid.of (show prc s.data.toList = ⟨[], [], Z32, Z32, f⟩ by
            rw [HP3.out, HRD.out, if_pos h0])
          clear h0
          go_wp2
          refine wp_region_held_drew (S := fun w2 => Z3 w w2 zz) (by kernel_rfl) (HZ7.out.up ((Up.refl _).drew)) (fun hS => ?_)
          refine wpAnyH_take (i := 0) (oi := { dst := some 57, op := Go.Op.load 32 (Go.Operand.tmp 7), type := 32, pos := "order.go:203", after := #[{ on := 4, ground := Go.Ground.gcOnly Go.Departure.lateStores }], guard := none }) (v := .agg (zz).toArray) rfl (by kernel_rfl) (by kernel_rfl) (by kernel_rfl) (fun _ _ _ h => h) (yieldsIf_load_mid (by kernel_rfl) _ _ rfl (w.heap.size + 1 + 1) 0 rfl (zz) _ (fun w5 hSw => hSw.c.range) Tryz.underlying32 rfl iz) hS ?_
          simp only [Act.put, List.setIfInBounds_toArray, List.set_cons_zero, List.set_cons_succ]
          refine wpAnyH_take (i := 1) (oi := { dst := some 58, op := Go.Op.load 32 (Go.Operand.tmp 7), type := 32, pos := "order.go:203", after := #[{ on := 5, ground := Go.Ground.gcOnly Go.Departure.lateStores }], guard := none }) (v := .agg (zz).toArray) rfl (by kernel_rfl) (by kernel_rfl) (by kernel_rfl) (fun _ _ _ h => h) (yieldsIf_load_mid (by kernel_rfl) _ _ rfl (w.heap.size + 1 + 1) 0 rfl (zz) _ (fun w5 hSw => hSw.c.range) Tryz.underlying32 rfl iz) hS ?_
          simp only [Act.put, List.setIfInBounds_toArray, List.set_cons_zero, List.set_cons_succ]
          refine wpAnyH_take (i := 2) (oi := { dst := some 59, op := Go.Op.move (Go.Operand.tmp 10), type := 3, pos := "order.go:203", after := #[{ on := 6, ground := Go.Ground.gcOnly Go.Departure.lateStores }], guard := none }) (v := .int .i64 f) rfl (by kernel_rfl) (by kernel_rfl) (by kernel_rfl) (fun _ _ _ h => h) (Or.inl ⟨by kernel_rfl, ?_⟩) hS ?_
          · intro w5 hSw
            go_simp
          simp only [Act.put, List.setIfInBounds_toArray, List.set_cons_zero, List.set_cons_succ]
          refine wpAnyH_ready (rs := [3]) (by kernel_rfl) (by simp) ?_
          refine AllReadyH.cons (o := { dst := some 2, op := Go.Op.assign (Go.Operand.const (Go.Value.string { data := #[] })), type := 9, pos := "order.go:203", after := #[{ on := 0, ground := Go.Ground.textOnly Go.Departure.lateStores }, { on := 1, ground := Go.Ground.textOnly Go.Departure.lateStores }, { on := 2, ground := Go.Ground.textOnly Go.Departure.lateStores }], guard := none }) rfl (fun K hK => ?_) AllReadyH.nil
          rw [if_pos (by kernel_rfl)]
          go_simp
          refine hK.out _ _ hS (fun hS1 => ?_)
          clear hK hS
          refine wpAnyH_ready (rs := [4]) (by kernel_rfl) (by simp) ?_
          refine AllReadyH.cons (o := { dst := some 3, op := Go.Op.assign (Go.Operand.const (Go.Value.string { data := #[] })), type := 9, pos := "order.go:203", after := #[{ on := 3, ground := Go.Ground.chain }, { on := 0, ground := Go.Ground.textOnly Go.Departure.lateStores }, { on := 1, ground := Go.Ground.textOnly Go.Departure.lateStores }, { on := 2, ground := Go.Ground.textOnly Go.Departure.lateStores }, { on := 3, ground := Go.Ground.phase }], guard := none }) rfl (fun K hK => ?_) AllReadyH.nil
          rw [if_pos (by kernel_rfl)]
          go_simp
          refine hK.out _ _ hS1 (fun hS2 => ?_)
          clear hK hS1
          refine wpAnyH_ready (rs := [5]) (by kernel_rfl) (by simp) ?_
          refine AllReadyH.cons (o := { dst := none, op := Go.Op.store 32 (Go.Operand.tmp 4) (Go.Operand.tmp 57), type := 0, pos := "order.go:203", after := #[{ on := 0, ground := Go.Ground.data }, { on := 4, ground := Go.Ground.chain }, { on := 0, ground := Go.Ground.phase }, { on := 1, ground := Go.Ground.textOnly Go.Departure.lateStores }, { on := 2, ground := Go.Ground.textOnly Go.Departure.lateStores }, { on := 3, ground := Go.Ground.phase }, { on := 4, ground := Go.Ground.phase }], guard := none }) rfl (fun K hK => ?_) AllReadyH.nil
          rw [if_pos (by kernel_rfl)]
          refine wp_store_mid _ _ _ rfl (w.heap.size) 0 (zz).toArray rfl rfl (show World.there _ _ _ (List.length zz) from hS2.a.there) iz oz ?_
          simp only [Act.put]
          refine hK.out _ _ (hS2.s0) (fun hS3 => ?_)
          clear hK
          refine wpAnyH_ready (rs := [6]) (by kernel_rfl) (by simp) ?_
          refine AllReadyH.cons (o := { dst := none, op := Go.Op.store 32 (Go.Operand.tmp 5) (Go.Operand.tmp 58), type := 0, pos := "order.go:203", after := #[{ on := 1, ground := Go.Ground.data }, { on := 5, ground := Go.Ground.chain }, { on := 0, ground := Go.Ground.phase }, { on := 1, ground := Go.Ground.phase }, { on := 2, ground := Go.Ground.textOnly Go.Departure.lateStores }, { on := 3, ground := Go.Ground.phase }, { on := 4, ground := Go.Ground.phase }, { on := 5, ground := Go.Ground.phase }], guard := none }) rfl (fun K hK => ?_) AllReadyH.nil
          rw [if_pos (by kernel_rfl)]
          refine wp_store_mid _ _ _ rfl (w.heap.size + 1) 0 (zz).toArray rfl rfl (show World.there _ _ _ (List.length zz) from hS3.b.there) iz oz ?_
          simp only [Act.put]
          refine hK.out _ _ (hS3.s1) (fun hS4 => ?_)
          clear hK
          refine wpAnyH_ready (rs := [7]) (by kernel_rfl) (by simp) ?_
          refine AllReadyH.cons (o := { dst := some 6, op := Go.Op.assign (Go.Operand.tmp 59), type := 3, pos := "order.go:203", after := #[{ on := 2, ground := Go.Ground.data }, { on := 6, ground := Go.Ground.chain }, { on := 0, ground := Go.Ground.phase }, { on := 1, ground := Go.Ground.phase }, { on := 2, ground := Go.Ground.phase }, { on := 3, ground := Go.Ground.phase }, { on := 4, ground := Go.Ground.phase }, { on := 5, ground := Go.Ground.phase }, { on := 6, ground := Go.Ground.phase }], guard := none }) rfl (fun K hK => ?_) AllReadyH.nil
          rw [if_pos (by kernel_rfl)]
          go_simp
          refine hK.out _ _ hS4 (fun hS5 => ?_)
          clear hK hS4
          refine wpAnyH_done (by kernel_rfl) ?_ _
          have HY := Hid.of hS5
          clear hS5
          go_wp2
          refine bodyPost_ret (result_t2c2t Tryz.results33 _ _ _ _ zz zz _ _ _ rfl rfl rfl rfl rfl HY.out.a.range Tryz.underlying32 rfl iz HY.out.b.range Tryz.underlying32 rfl iz) rfl ?_
          refine ⟨?_, HY.out.u⟩
          rw [HN.out, HZZ.out]
          rfl
      · have hq2 : ((xb ++ ⟨#[47, 103, 111, 46, 109, 111, 100]⟩).toList == xe.toList) = false := by
          rw [Go.Lib.toList_data, Go.Lib.toList_data, ba_app, beq_eq_false_iff_ne]
          exact fun h => h2 h.symm
        have HN := Hid.of (HP2.out.trans (if_pos (.inr h2)))
        clear h1 h2 HP2
        go_wp2
        go_quiet (fail)
        clear hq1 hq2 hsn hbs
        go_wp2
        refine wp_region_held_drew (S := fun w2 => Z3 w w2 zz) (by kernel_rfl) (HZ1.out.up (((Up.refl _).drewN _).drew)) (fun hS => ?_)
        refine wpAnyH_take (i := 0) (oi := { dst := some 46, op := Go.Op.load 32 (Go.Operand.tmp 7), type := 32, pos := "order.go:199", after := #[{ on := 3, ground := Go.Ground.gcOnly Go.Departure.lateStores }], guard := none }) (v := .agg (zz).toArray) rfl (by kernel_rfl) (by kernel_rfl) (by kernel_rfl) (fun _ _ _ h => h) (yieldsIf_load_mid (by kernel_rfl) _ _ rfl (w.heap.size + 1 + 1) 0 rfl (zz) _ (fun w5 hSw => hSw.c.range) Tryz.underlying32 rfl iz) hS ?_
        simp only [Act.put, List.setIfInBounds_toArray, List.set_cons_zero, List.set_cons_succ]
        refine wpAnyH_take (i := 1) (oi := { dst := some 47, op := Go.Op.load 32 (Go.Operand.tmp 7), type := 32, pos := "order.go:199", after := #[{ on := 4, ground := Go.Ground.gcOnly Go.Departure.lateStores }], guard := none }) (v := .agg (zz).toArray) rfl (by kernel_rfl) (by kernel_rfl) (by kernel_rfl) (fun _ _ _ h => h) (yieldsIf_load_mid (by kernel_rfl) _ _ rfl (w.heap.size + 1 + 1) 0 rfl (zz) _ (fun w5 hSw => hSw.c.range) Tryz.underlying32 rfl iz) hS ?_
        simp only [Act.put, List.setIfInBounds_toArray, List.set_cons_zero, List.set_cons_succ]
        refine wpAnyH_ready (rs := [2]) (by kernel_rfl) (by simp) ?_
        refine AllReadyH.cons (o := { dst := some 2, op := Go.Op.assign (Go.Operand.const (Go.Value.string { data := #[] })), type := 9, pos := "order.go:199", after := #[{ on := 0, ground := Go.Ground.textOnly Go.Departure.lateStores }, { on := 1, ground := Go.Ground.textOnly Go.Departure.lateStores }], guard := none }) rfl (fun K hK => ?_) AllReadyH.nil
        rw [if_pos (by kernel_rfl)]
        go_simp
        refine hK.out _ _ hS (fun hS1 => ?_)
        clear hK hS
        refine wpAnyH_ready (rs := [3]) (by kernel_rfl) (by simp) ?_
        refine AllReadyH.cons (o := { dst := some 3, op := Go.Op.assign (Go.Operand.const (Go.Value.string { data := #[] })), type := 9, pos := "order.go:199", after := #[{ on := 2, ground := Go.Ground.chain }, { on := 0, ground := Go.Ground.textOnly Go.Departure.lateStores }, { on := 1, ground := Go.Ground.textOnly Go.Departure.lateStores }, { on := 2, ground := Go.Ground.phase }], guard := none }) rfl (fun K hK => ?_) AllReadyH.nil
        rw [if_pos (by kernel_rfl)]
        go_simp
        refine hK.out _ _ hS1 (fun hS2 => ?_)
        clear hK hS1
        refine wpAnyH_ready (rs := [4]) (by kernel_rfl) (by simp) ?_
        refine AllReadyH.cons (o := { dst := none, op := Go.Op.store 32 (Go.Operand.tmp 4) (Go.Operand.tmp 46), type := 0, pos := "order.go:199", after := #[{ on := 0, ground := Go.Ground.data }, { on := 3, ground := Go.Ground.chain }, { on := 0, ground := Go.Ground.phase }, { on := 1, ground := Go.Ground.textOnly Go.Departure.lateStores }, { on := 2, ground := Go.Ground.phase }, { on := 3, ground := Go.Ground.phase }], guard := none }) rfl (fun K hK => ?_) AllReadyH.nil
        rw [if_pos (by kernel_rfl)]
        refine wp_store_mid _ _ _ rfl (w.heap.size) 0 (zz).toArray rfl rfl (show World.there _ _ _ (List.length zz) from hS2.a.there) iz oz ?_
        simp only [Act.put]
        refine hK.out _ _ (hS2.s0) (fun hS3 => ?_)
        clear hK
        refine wpAnyH_ready (rs := [5]) (by kernel_rfl) (by simp) ?_
        refine AllReadyH.cons (o := { dst := none, op := Go.Op.store 32 (Go.Operand.tmp 5) (Go.Operand.tmp 47), type := 0, pos := "order.go:199", after := #[{ on := 1, ground := Go.Ground.data }, { on := 4, ground := Go.Ground.chain }, { on := 0, ground := Go.Ground.phase }, { on := 1, ground := Go.Ground.phase }, { on := 2, ground := Go.Ground.phase }, { on := 3, ground := Go.Ground.phase }, { on := 4, ground := Go.Ground.phase }], guard := none }) rfl (fun K hK => ?_) AllReadyH.nil
        rw [if_pos (by kernel_rfl)]
        refine wp_store_mid _ _ _ rfl (w.heap.size + 1) 0 (zz).toArray rfl rfl (show World.there _ _ _ (List.length zz) from hS3.b.there) iz oz ?_
        simp only [Act.put]
        refine hK.out _ _ (hS3.s1) (fun hS4 => ?_)
        clear hK
        refine wpAnyH_ready (rs := [6]) (by kernel_rfl) (by simp) ?_
        refine AllReadyH.cons (o := { dst := some 6, op := Go.Op.assign (Go.Operand.const (Go.Value.int Go.IntKind.i64 115)), type := 3, pos := "order.go:199", after := #[{ on := 5, ground := Go.Ground.chain }, { on := 0, ground := Go.Ground.phase }, { on := 1, ground := Go.Ground.phase }, { on := 2, ground := Go.Ground.phase }, { on := 3, ground := Go.Ground.phase }, { on := 4, ground := Go.Ground.phase }, { on := 5, ground := Go.Ground.phase }], guard := none }) rfl (fun K hK => ?_) AllReadyH.nil
        rw [if_pos (by kernel_rfl)]
        go_simp
        refine hK.out _ _ hS4 (fun hS5 => ?_)
        clear hK hS4
        refine wpAnyH_done (by kernel_rfl) ?_ _
        have HY := Hid.of hS5
        clear hS5
        go_wp2
        refine bodyPost_ret (result_t2c2t Tryz.results33 _ _ _ _ zz zz _ _ _ rfl rfl rfl rfl rfl HY.out.a.range Tryz.underlying32 rfl iz HY.out.b.range Tryz.underlying32 rfl iz) rfl ?_
        refine ⟨?_, HY.out.u⟩
        rw [HN.out, HZZ.out]
        rfl
    · have hq1 : (xa.toList == xd.toList) = false := by
        rw [Go.Lib.toList_data, Go.Lib.toList_data, beq_eq_false_iff_ne]
        exact fun h => h1 h.symm
      have HN := Hid.of (HP2.out.trans (if_pos (.inl h1)))
      clear h1 HP2
      go_wp2
      go_quiet (fail)
      clear hq1 hsn hbs
      go_wp2
      refine wp_region_held_drew (S := fun w2 => Z3 w w2 zz) (by kernel_rfl) (HZ1.out.up (((Up.refl _).drewN _).drew)) (fun hS => ?_)
      refine wpAnyH_take (i := 0) (oi := { dst := some 46, op := Go.Op.load 32 (Go.Operand.tmp 7), type := 32, pos := "order.go:199", after := #[{ on := 3, ground := Go.Ground.gcOnly Go.Departure.lateStores }], guard := none }) (v := .agg (zz).toArray) rfl (by kernel_rfl) (by kernel_rfl) (by kernel_rfl) (fun _ _ _ h => h) (yieldsIf_load_mid (by kernel_rfl) _ _ rfl (w.heap.size + 1 + 1) 0 rfl (zz) _ (fun w5 hSw => hSw.c.range) Tryz.underlying32 rfl iz) hS ?_
      simp only [Act.put, List.setIfInBounds_toArray, List.set_cons_zero, List.set_cons_succ]
      refine wpAnyH_take (i := 1) (oi := { dst := some 47, op := Go.Op.load 32 (Go.Operand.tmp 7), type := 32, pos := "order.go:199", after := #[{ on := 4, ground := Go.Ground.gcOnly Go.Departure.lateStores }], guard := none }) (v := .agg (zz).toArray) rfl (by kernel_rfl) (by kernel_rfl) (by kernel_rfl) (fun _ _ _ h => h) (yieldsIf_load_mid (by kernel_rfl) _ _ rfl (w.heap.size + 1 + 1) 0 rfl (zz) _ (fun w5 hSw => hSw.c.range) Tryz.underlying32 rfl iz) hS ?_
      simp only [Act.put, List.setIfInBounds_toArray, List.set_cons_zero, List.set_cons_succ]
      refine wpAnyH_ready (rs := [2]) (by kernel_rfl) (by simp) ?_
      refine AllReadyH.cons (o := { dst := some 2, op := Go.Op.assign (Go.Operand.const (Go.Value.string { data := #[] })), type := 9, pos := "order.go:199", after := #[{ on := 0, ground := Go.Ground.textOnly Go.Departure.lateStores }, { on := 1, ground := Go.Ground.textOnly Go.Departure.lateStores }], guard := none }) rfl (fun K hK => ?_) AllReadyH.nil
      rw [if_pos (by kernel_rfl)]
      go_simp
      refine hK.out _ _ hS (fun hS1 => ?_)
      clear hK hS
      refine wpAnyH_ready (rs := [3]) (by kernel_rfl) (by simp) ?_
      refine AllReadyH.cons (o := { dst := some 3, op := Go.Op.assign (Go.Operand.const (Go.Value.string { data := #[] })), type := 9, pos := "order.go:199", after := #[{ on := 2, ground := Go.Ground.chain }, { on := 0, ground := Go.Ground.textOnly Go.Departure.lateStores }, { on := 1, ground := Go.Ground.textOnly Go.Departure.lateStores }, { on := 2, ground := Go.Ground.phase }], guard := none }) rfl (fun K hK => ?_) AllReadyH.nil
      rw [if_pos (by kernel_rfl)]
      go_simp
      refine hK.out _ _ hS1 (fun hS2 => ?_)
      clear hK hS1
      refine wpAnyH_ready (rs := [4]) (by kernel_rfl) (by simp) ?_
      refine AllReadyH.cons (o := { dst := none, op := Go.Op.store 32 (Go.Operand.tmp 4) (Go.Operand.tmp 46), type := 0, pos := "order.go:199", after := #[{ on := 0, ground := Go.Ground.data }, { on := 3, ground := Go.Ground.chain }, { on := 0, ground := Go.Ground.phase }, { on := 1, ground := Go.Ground.textOnly Go.Departure.lateStores }, { on := 2, ground := Go.Ground.phase }, { on := 3, ground := Go.Ground.phase }], guard := none }) rfl (fun K hK => ?_) AllReadyH.nil
      rw [if_pos (by kernel_rfl)]
      refine wp_store_mid _ _ _ rfl (w.heap.size) 0 (zz).toArray rfl rfl (show World.there _ _ _ (List.length zz) from hS2.a.there) iz oz ?_
      simp only [Act.put]
      refine hK.out _ _ (hS2.s0) (fun hS3 => ?_)
      clear hK
      refine wpAnyH_ready (rs := [5]) (by kernel_rfl) (by simp) ?_
      refine AllReadyH.cons (o := { dst := none, op := Go.Op.store 32 (Go.Operand.tmp 5) (Go.Operand.tmp 47), type := 0, pos := "order.go:199", after := #[{ on := 1, ground := Go.Ground.data }, { on := 4, ground := Go.Ground.chain }, { on := 0, ground := Go.Ground.phase }, { on := 1, ground := Go.Ground.phase }, { on := 2, ground := Go.Ground.phase }, { on := 3, ground := Go.Ground.phase }, { on := 4, ground := Go.Ground.phase }], guard := none }) rfl (fun K hK => ?_) AllReadyH.nil
      rw [if_pos (by kernel_rfl)]
      refine wp_store_mid _ _ _ rfl (w.heap.size + 1) 0 (zz).toArray rfl rfl (show World.there _ _ _ (List.length zz) from hS3.b.there) iz oz ?_
      simp only [Act.put]
      refine hK.out _ _ (hS3.s1) (fun hS4 => ?_)
      clear hK
      refine wpAnyH_ready (rs := [6]) (by kernel_rfl) (by simp) ?_
      refine AllReadyH.cons (o := { dst := some 6, op := Go.Op.assign (Go.Operand.const (Go.Value.int Go.IntKind.i64 115)), type := 3, pos := "order.go:199", after := #[{ on := 5, ground := Go.Ground.chain }, { on := 0, ground := Go.Ground.phase }, { on := 1, ground := Go.Ground.phase }, { on := 2, ground := Go.Ground.phase }, { on := 3, ground := Go.Ground.phase }, { on := 4, ground := Go.Ground.phase }, { on := 5, ground := Go.Ground.phase }], guard := none }) rfl (fun K hK => ?_) AllReadyH.nil
      rw [if_pos (by kernel_rfl)]
      go_simp
      refine hK.out _ _ hS4 (fun hS5 => ?_)
      clear hK hS4
      refine wpAnyH_done (by kernel_rfl) ?_ _
      have HY := Hid.of hS5
      clear hS5
      go_wp2
      refine bodyPost_ret (result_t2c2t Tryz.results33 _ _ _ _ zz zz _ _ _ rfl rfl rfl rfl rfl HY.out.a.range Tryz.underlying32 rfl iz HY.out.b.range Tryz.underlying32 rfl iz) rfl ?_
      refine ⟨?_, HY.out.u⟩
      rw [HN.out, HZZ.out]
      rfl
end Go.Proofs.YtnciglpdjpckiaaGreatDoor
namespace Go.Proofs.YtnciglpdjpckiaaGreatDoor
open Go.RowKit Go.Shelf TextNum ModNum
theorem wpList_load_want {P : Program} {ops : Array Oper} {rest : List Oper} {op : Oper} {a : Act} {w : World} {Q : Exit → Act → World → Prop} (hw : Region.wanted op (yielded ops a.tmps) = true) (ty : TypeId) (x : Operand) (ho : op.op = .load ty x)
    (b o : Nat) (hx : a.eval x = .pointer (some ⟨b, o, none⟩)) (cs : List Value) (d : TypeDesc) (hc : w.rangeAt b o cs)
    (hu : P.underlying ty = some d) (hd : d.isRow = true) (hi : (P.info? ty).map (·.size) = some cs.length)
    (h : wpList P ops Q rest (a.put op.dst (.agg cs.toArray)) w) : wpList P ops Q (op :: rest) a w :=
  Go.BigFrame.wpList_want hw fun _ hK => wp_load_mid ty x ho b o hx cs d hc hu hd hi (hK _ _ h)
theorem wpList_yield_want {P : Program} {ops : Array Oper} {rest : List Oper} {o : Oper} {a : Act} {w : World} {Q : Exit → Act → World → Prop} {v : Value} (hw : Region.wanted o (yielded ops a.tmps) = true)
    (hr : (execOp a.eval o).run P w = .ok (.value v) w) (h : wpList P ops Q rest (a.put o.dst v) w) : wpList P ops Q (o :: rest) a w :=
  Go.BigFrame.wpList_want hw fun _ hK => by
    unfold Oper.wp
    rw [hr]
    exact hK _ _ h
theorem equal32 (d : Nat) (r q : List UInt8) (hr : r.length = 32) (hq : q.length = 32) (w : World) : (Op.equalIn (d + 2) 32 (.agg (cb r).toArray) (.agg (cb q).toArray)).run Tryz.prog w = .ok (r == q) w :=
  run_equalIn_bytes w d 32 5 32 Tryz.underlying32 Tryz.underlying5 (fun w => Tryz.sizeOf5 w) r q hr hq
theorem exec_eql32 {op : Oper} {ρ : Operand → Value} {x y : Operand} {t : TypeId} (ho : op.op = .binOp .eql 32 x y t) (r q : List UInt8) (hx : ρ x = .agg (cb r).toArray) (hy : ρ y = .agg (cb q).toArray) (hr : r.length = 32) (hl : q.length = 32) (w : World) : (execOp ρ op).run Tryz.prog w = .ok (.value (.bool (r == q))) w := by
  have hq := equal32 9998 r q hr hl w
  unfold execOp
  simp only [ho, hx, hy, Sem.run_bind, run_eqGuard_agg (P := Tryz.prog) (w := w) .eql 32 x y _ _ Tryz.eqGuardType32, run_eql_struct, hq, Result.andThen_ok, Sem.run_pure]
set_option maxRecDepth 100000 in
set_option maxHeartbeats 2000000 in
theorem rec_k8 (s u : ByteArray) (a b : List UInt8) (l : Value) (ha : a.length = 32) (hb : b.length = 32) (hs : s.size ≤ 1048576) (w : World) (hG : GR w) (_hL : TabL w) (hT : TK w) : Calls Tryz.prog 13 #[.agg (opc 8 s u a b l).toArray] w fun e w' => e = .returned (.bool true) ∧ Up w w' := by
  have HO := Hid.of (opA_new w 8 s u a b l ha hb)
  have HU := Hid.of ((Up.refl w).alloc (.cells (opc 8 s u a b l).toArray 36))
  obtain ⟨q, hq1, hq2⟩ := ba_ex (pkP s.data.toList)
  obtain ⟨r, hr1, hr2⟩ := ba_ex (pkV s.data.toList)
  have HR := fun w' => fun (k : Up w w') => Hid.of (RParseKey_walk s hs w' (hT.up k))
  have HP := fun w' => fun (k : Up w w') => Hid.of (ParseKey_walk s (by omega) w' (hG.up k))
  rw [show vs (pkP s.data.toList) = .string q from congrArg Value.string hq2, show vs (pkV s.data.toList) = .string r from congrArg Value.string hr2] at HR HP
  have hqq := tl_eq q
  have hrr := tl_eq r
  generalize pkE s.data.toList = f at *
  clear hq1 hq2 hr1 hr2
  clear hG hT ha hb
  go_enter Tryz.func13, Tryz.ntmps13
  generalize hW0 : w.alloc (.cells (opc 8 s u a b l).toArray 36) = W0 at *
  have k0 := HO.out.c0
  have k1 := HO.out.c1
  generalize hg : w.heap.size = g at *
  go_wp2_with fail
  refine (HR _ HU.out).out.mono ?_
  rintro e w1 ⟨rfl, u1⟩
  have H1 := Hid.of (HU.out.trans u1)
  have j1 := u1.cell k1
  clear u1 k0 k1
  dsimp only
  go_wp2_with fail
  refine (HP _ H1.out).out.mono ?_
  rintro e w2 ⟨rfl, u2⟩
  have H2 := Hid.of (H1.out.trans u2)
  clear u2
  dsimp only
  go_wp2
  go_ret
  exact ⟨rfl, H2.out⟩
set_option maxRecDepth 100000 in
set_option maxHeartbeats 2000000 in
theorem rec_k12 (s u : ByteArray) (a b : List UInt8) (l : Value) (ha : a.length = 32) (hb : b.length = 32) (_hs : s.size ≤ 1048576) (w : World) (_hG : GR w) (hL : TabL w) (_hT : TK w) : Calls Tryz.prog 13 #[.agg (opc 12 s u a b l).toArray] w fun e w' => e = .returned (.bool true) ∧ Up w w' := by
  have HO := Hid.of (opA_new w 12 s u a b l ha hb)
  have HU := Hid.of ((Up.refl w).alloc (.cells (opc 12 s u a b l).toArray 36))
  have hlit := zlit
  obtain ⟨zz, hzz⟩ : ∃ zz, zz = cb Z32 := ⟨_, rfl⟩
  have lz : zz.length = 32 := by rw [hzz]; rfl
  rw [← hzz] at hlit
  have HLit := Hid.of hlit
  clear hzz hlit
  have hl1 := psm_len s.data.toList
  have HR := fun w' => Hid.of (RParseSum_walk s w')
  have HP := fun w' => fun (k : Up w w') => Hid.of (ParseSum_walk s w' (hL.below hL.lt k))
  generalize psm s.data.toList = r1 at *
  obtain ⟨t1, m1⟩ := r1
  dsimp only at hl1 HR HP
  have n1 : (cb t1).length = 32 := by rw [cb_length, hl1]
  have i1 := i32 hl1
  have o1 := cb_all t1
  clear hL ha hb
  go_enter Tryz.func13, Tryz.ntmps13
  generalize hW0 : w.alloc (.cells (opc 12 s u a b l).toArray 36) = W0 at *
  have k0 := HO.out.c0
  have k1 := HO.out.c1
  generalize hg : w.heap.size = g at *
  go_wp2_with fail
  refine (HR _).out.mono ?_
  rintro e w1 ⟨rfl, u1⟩
  have H1 := Hid.of (HU.out.trans u1)
  have j1 := u1.cell k1
  clear u1 k0 k1 HR
  dsimp only
  go_wp2_with (with_reducible show wpList _ _ _ ({ dst := _, op := Op.store 32 _ _, type := _, pos := _, after := _, guard := _ } :: _) _ _; refine Shut.out ?_)
  show wpList _ _ _ _ _ _
  rw [HLit.out]
  refine wpList_store_at rfl _ _ _ rfl w1.heap.size (at_new w1 32 zz) (cb t1) rfl rfl (by rw [n1, lz]) (by rw [List.size_toArray, n1]; kernel_rfl) o1 fun x2 hA2 hg2 => ?_
  have HA2 := Hid.of hA2
  have HU2 := Hid.of (((Up.refl w1).alloc (.cells zz.toArray 32)).by hg2 (fun g hg => by injection hg with hg; omega))
  have j2 := HU2.out.cell j1
  clear hA2 hg2 j1
  simp only [Act.put]
  go_wp2_with fail
  refine (HP _ (H1.out.trans HU2.out)).out.mono ?_
  rintro e w3 ⟨rfl, u3⟩
  have H3 := Hid.of ((H1.out.trans HU2.out).trans u3)
  have HA3 := Hid.of (HA2.out.up u3)
  clear u3 HP j2 HA2 HU2 H1
  dsimp only
  go_wp2_with (with_reducible show wpList _ _ _ ({ dst := _, op := Op.store 32 _ _, type := _, pos := _, after := _, guard := _ } :: _) _ _; refine Shut.out ?_)
  show wpList _ _ _ _ _ _
  rw [HLit.out]
  refine wpList_store_at rfl _ _ _ rfl w3.heap.size (at_new w3 32 zz) (cb t1) rfl rfl (by rw [n1, lz]) (by rw [List.size_toArray, n1]; kernel_rfl) o1 fun x4 hA4 hg4 => ?_
  have HA4 := Hid.of hA4
  have HB4 := Hid.of ((HA3.out.up ((Up.refl w3).alloc (.cells zz.toArray 32))).by hg4 (fun e => by injection e with e; have := lt_of_at HA3.out; omega))
  have HU4 := Hid.of ((H3.out.alloc (.cells zz.toArray 32)).by hg4 (fun g hg => by injection hg with hg; have := H3.out.size; omega))
  clear hA4 hg4 H3 HA3
  simp only [Act.put]
  go_wp2_with (with_reducible show wpList _ _ _ ({ dst := _, op := Op.load 32 _, type := _, pos := _, after := _, guard := _ } :: _) _ _; refine Shut.out ?_)
  show wpList _ _ _ _ _ _
  refine wpList_load_mid rfl _ _ rfl w3.heap.size 0 rfl (cb t1) _ HA4.out.range Tryz.underlying32 rfl i1 ?_
  simp only [Act.put, List.setIfInBounds_toArray, List.set_cons_zero, List.set_cons_succ]
  go_wp2_with (with_reducible show wpList _ _ _ ({ dst := _, op := Op.load 32 _, type := _, pos := _, after := _, guard := _ } :: _) _ _; refine Shut.out ?_)
  show wpList _ _ _ _ _ _
  refine wpList_load_mid rfl _ _ rfl w1.heap.size 0 rfl (cb t1) _ HB4.out.range Tryz.underlying32 rfl i1 ?_
  simp only [Act.put, List.setIfInBounds_toArray, List.set_cons_zero, List.set_cons_succ]
  go_wp2_with (with_reducible show wpList _ _ _ ({ dst := _, op := Op.binOp BinOp.eql 32 _ _ _, type := _, pos := _, after := _, guard := _ } :: _) _ _; refine Shut.out ?_)
  show wpList _ _ _ _ _ _
  refine wpList_plain rfl fun K hK => ?_
  unfold Oper.wp
  rw [exec_eql32 rfl t1 t1 rfl rfl hl1 hl1, beq_self_eq_true]
  refine hK _ _ ?_
  simp only [Act.put, List.setIfInBounds_toArray, List.set_cons_zero, List.set_cons_succ]
  go_wp2
  go_ret
  exact ⟨rfl, HU4.out⟩
theorem two_at (w : World) (zz : List Value) : At ((w.alloc (.cells zz.toArray 32)).alloc (.cells zz.toArray 32)) w.heap.size 32 zz ∧ At ((w.alloc (.cells zz.toArray 32)).alloc (.cells zz.toArray 32)) (w.heap.size + 1) 32 zz ∧ Up w ((w.alloc (.cells zz.toArray 32)).alloc (.cells zz.toArray 32)) := by
  refine ⟨At.up (at_new w 32 zz) ((Up.refl _).alloc _), ?_, ((Up.refl w).alloc _).alloc _⟩
  have := at_new (w.alloc (.cells zz.toArray 32)) 32 zz
  rwa [alloc_size] at this
theorem prc_lens (l : List UInt8) : (prc l).a.length = 32 ∧ (prc l).b.length = 32 := by
  have hz : Z32.length = 32 := rfl
  unfold prc
  split
  · exact ⟨hz, hz⟩
  · rename_i x y _
    split
    · exact ⟨hz, hz⟩
    · split
      · exact ⟨hz, hz⟩
      · exact rdw_len x.1 x.2.1 x.2.2 y.2.2
set_option maxRecDepth 100000 in
set_option maxHeartbeats 2000000 in
theorem rec_k14 (s u : ByteArray) (a b : List UInt8) (l : Value) (ha : a.length = 32) (hb : b.length = 32) (_hs : s.size ≤ 1048576) (w : World) (hG : GR w) (hL : TabL w) (hT : TK w) : Calls Tryz.prog 13 #[.agg (opc 14 s u a b l).toArray] w fun e w' => e = .returned (.bool true) ∧ Up w w' := by
  have HO := Hid.of (opA_new w 14 s u a b l ha hb)
  have HU := Hid.of ((Up.refl w).alloc (.cells (opc 14 s u a b l).toArray 36))
  have hlit := zlit
  obtain ⟨zz, hzz⟩ : ∃ zz, zz = cb Z32 := ⟨_, rfl⟩
  have lz : zz.length = 32 := by rw [hzz]; rfl
  rw [← hzz] at hlit
  have HLit := Hid.of hlit
  clear hzz hlit
  have hl := prc_lens s.data.toList
  have HR := fun w' => fun (k : Up w w') => Hid.of (RParseRecord_walk s w' (hT.up k))
  have HP := fun w' => fun (k : Up w w') => Hid.of (ParseRecord_walk s w' (hG.up k) (hL.below hL.lt k))
  generalize prc s.data.toList = r1 at *
  obtain ⟨p1, v1, ta, tb, m1⟩ := r1
  dsimp only [prcV] at hl HR HP
  obtain ⟨hla, hlb⟩ := hl
  have na : (cb ta).length = 32 := by rw [cb_length, hla]
  have nb : (cb tb).length = 32 := by rw [cb_length, hlb]
  have ia := i32 hla
  have ib := i32 hlb
  have oa := cb_all ta
  have ob := cb_all tb
  obtain ⟨q, hq1, hq2⟩ := ba_ex p1
  obtain ⟨r, hr1, hr2⟩ := ba_ex v1
  rw [show vs p1 = .string q from congrArg Value.string hq2, show vs v1 = .string r from congrArg Value.string hr2] at HR HP
  have hqq := tl_eq q
  have hrr := tl_eq r
  clear hq1 hq2 hr1 hr2
  clear hG hT hL ha hb
  go_enter Tryz.func13, Tryz.ntmps13
  generalize hW0 : w.alloc (.cells (opc 14 s u a b l).toArray 36) = W0 at *
  have k0 := HO.out.c0
  have k1 := HO.out.c1
  generalize hg : w.heap.size = g at *
  go_wp2_with fail
  refine (HR _ HU.out).out.mono ?_
  rintro e w1 ⟨rfl, u1⟩
  have H1 := Hid.of (HU.out.trans u1)
  have j1 := u1.cell k1
  clear u1 k0 k1 HR
  dsimp only
  go_wp2_with (with_reducible show wpList _ _ _ ({ dst := _, op := Op.store 32 _ _, type := _, pos := _, after := _, guard := _ } :: _) _ _; refine Shut.out ?_)
  show wpList _ _ _ _ _ _
  rw [HLit.out]
  have hT1 := two_at w1 zz
  generalize (w1.alloc (.cells zz.toArray 32)).alloc (.cells zz.toArray 32) = V1 at *
  refine wpList_store_at rfl _ _ _ rfl w1.heap.size hT1.1 (cb ta) rfl rfl (by rw [na, lz]) (by rw [List.size_toArray, na]; kernel_rfl) oa fun x2 hA hgA => ?_
  have HA1 := Hid.of hA
  have HB1 := Hid.of (hT1.2.1.by hgA (fun e => by injection e with e; omega))
  have HV1 := Hid.of (hT1.2.2.by hgA (fun g hg => by injection hg with hg; omega))
  clear hA hgA hT1
  simp only [Act.put]
  go_wp2_with (with_reducible show wpList _ _ _ ({ dst := _, op := Op.store 32 _ _, type := _, pos := _, after := _, guard := _ } :: _) _ _; refine Shut.out ?_)
  show wpList _ _ _ _ _ _
  refine wpList_store_at rfl _ _ _ rfl (w1.heap.size + 1) HB1.out (cb tb) rfl rfl (by rw [nb, lz]) (by rw [List.size_toArray, nb]; kernel_rfl) ob fun x3 hB hgB => ?_
  have HP1 := Hid.of hB
  have HQ1 := Hid.of (HA1.out.by hgB (fun e => by injection e with e; omega))
  have HW1 := Hid.of (HV1.out.by hgB (fun g hg => by injection hg with hg; omega))
  clear hB hgB HA1 HB1 HV1
  simp only [Act.put]
  have j3 := HW1.out.cell j1
  clear j1
  go_wp2_with fail
  refine (HP _ (H1.out.trans HW1.out)).out.mono ?_
  rintro e w4 ⟨rfl, u4⟩
  have H4 := Hid.of ((H1.out.trans HW1.out).trans u4)
  have HX4 := Hid.of (HP1.out.up u4)
  have HY4 := Hid.of (HQ1.out.up u4)
  clear u4 HP j3 HP1 HQ1 HW1 H1
  dsimp only
  go_wp2_with (with_reducible show wpList _ _ _ ({ dst := _, op := Op.store 32 _ _, type := _, pos := _, after := _, guard := _ } :: _) _ _; refine Shut.out ?_)
  show wpList _ _ _ _ _ _
  rw [HLit.out]
  have hT2 := two_at w4 zz
  generalize (w4.alloc (.cells zz.toArray 32)).alloc (.cells zz.toArray 32) = V2 at *
  refine wpList_store_at rfl _ _ _ rfl w4.heap.size hT2.1 (cb ta) rfl rfl (by rw [na, lz]) (by rw [List.size_toArray, na]; kernel_rfl) oa fun x5 hA hgA => ?_
  have HA2 := Hid.of hA
  have HB2 := Hid.of (hT2.2.1.by hgA (fun e => by injection e with e; omega))
  have HV2 := Hid.of (hT2.2.2.by hgA (fun g hg => by injection hg with hg; omega))
  clear hA hgA hT2
  simp only [Act.put]
  go_wp2_with (with_reducible show wpList _ _ _ ({ dst := _, op := Op.store 32 _ _, type := _, pos := _, after := _, guard := _ } :: _) _ _; refine Shut.out ?_)
  show wpList _ _ _ _ _ _
  refine wpList_store_at rfl _ _ _ rfl (w4.heap.size + 1) HB2.out (cb tb) rfl rfl (by rw [nb, lz]) (by rw [List.size_toArray, nb]; kernel_rfl) ob fun x6 hB hgB => ?_
  have HP2 := Hid.of hB
  have HQ2 := Hid.of (HA2.out.by hgB (fun e => by injection e with e; omega))
  have HW2 := Hid.of (HV2.out.by hgB (fun g hg => by injection hg with hg; omega))
  clear hB hgB HA2 HB2 HV2
  simp only [Act.put]
  have HX6 := Hid.of (HX4.out.up HW2.out)
  have HY6 := Hid.of (HY4.out.up HW2.out)
  have HU6 := Hid.of (H4.out.trans HW2.out)
  clear HX4 HY4 H4 HW2
  go_wp2_with (with_reducible show wpList _ _ _ ({ dst := _, op := Op.load 32 _, type := _, pos := _, after := _, guard := _ } :: _) _ _; refine Shut.out ?_)
  show wpList _ _ _ _ _ _
  refine wpList_load_want (by kernel_rfl) _ _ rfl (w4.heap.size) 0 rfl (cb ta) _ HQ2.out.range Tryz.underlying32 rfl ia ?_
  simp only [Act.put, List.setIfInBounds_toArray, List.set_cons_zero, List.set_cons_succ]
  go_wp2_with (with_reducible show wpList _ _ _ ({ dst := _, op := Op.load 32 _, type := _, pos := _, after := _, guard := _ } :: _) _ _; refine Shut.out ?_)
  show wpList _ _ _ _ _ _
  refine wpList_load_want (by kernel_rfl) _ _ rfl (w1.heap.size) 0 rfl (cb ta) _ HY6.out.range Tryz.underlying32 rfl ia ?_
  simp only [Act.put, List.setIfInBounds_toArray, List.set_cons_zero, List.set_cons_succ]
  go_wp2_with (with_reducible show wpList _ _ _ ({ dst := _, op := Op.binOp BinOp.eql 32 _ _ _, type := _, pos := _, after := _, guard := _ } :: _) _ _; refine Shut.out ?_)
  show wpList _ _ _ _ _ _
  refine wpList_yield_want (by kernel_rfl) (exec_eql32 rfl ta ta rfl rfl hla hla _) ?_
  rw [beq_self_eq_true]
  simp only [Act.put, List.setIfInBounds_toArray, List.set_cons_zero, List.set_cons_succ]
  go_wp2_with (with_reducible show wpList _ _ _ ({ dst := _, op := Op.load 32 _, type := _, pos := _, after := _, guard := _ } :: _) _ _; refine Shut.out ?_)
  show wpList _ _ _ _ _ _
  refine wpList_load_want (by kernel_rfl) _ _ rfl (w4.heap.size + 1) 0 rfl (cb tb) _ HP2.out.range Tryz.underlying32 rfl ib ?_
  simp only [Act.put, List.setIfInBounds_toArray, List.set_cons_zero, List.set_cons_succ]
  go_wp2_with (with_reducible show wpList _ _ _ ({ dst := _, op := Op.load 32 _, type := _, pos := _, after := _, guard := _ } :: _) _ _; refine Shut.out ?_)
  show wpList _ _ _ _ _ _
  refine wpList_load_want (by kernel_rfl) _ _ rfl (w1.heap.size + 1) 0 rfl (cb tb) _ HX6.out.range Tryz.underlying32 rfl ib ?_
  simp only [Act.put, List.setIfInBounds_toArray, List.set_cons_zero, List.set_cons_succ]
  go_wp2_with (with_reducible show wpList _ _ _ ({ dst := _, op := Op.binOp BinOp.eql 32 _ _ _, type := _, pos := _, after := _, guard := _ } :: _) _ _; refine Shut.out ?_)
  show wpList _ _ _ _ _ _
  refine wpList_yield_want (by kernel_rfl) (exec_eql32 rfl tb tb rfl rfl hlb hlb _) ?_
  rw [beq_self_eq_true]
  simp only [Act.put, List.setIfInBounds_toArray, List.set_cons_zero, List.set_cons_succ]
  go_wp2
  go_ret
  exact ⟨rfl, HU6.out⟩
end Go.Proofs.YtnciglpdjpckiaaGreatDoor
namespace Go.Proofs.YtnciglpdjpckiaaGreatDoor
open Go.RowKit Go.Shelf TextNum ModNum
theorem opc_len (k : Int) (s u : ByteArray) {a b : List UInt8} (l : Value) (ha : a.length = 32) (hb : b.length = 32) : (opc k s u a b l).length = 68 := by
  unfold opc
  simp only [List.length_cons, List.length_append, cb_length, ha, hb, List.length_nil]
set_option maxRecDepth 100000 in
theorem info68 : (Tryz.prog.info? 36).map (·.size) = some 68 := by kernel_rfl
set_option maxRecDepth 100000 in
set_option maxHeartbeats 2000000 in
theorem esc_k3 (s u : ByteArray) (a b : List UInt8) (l : Value) (ha : a.length = 32) (hb : b.length = 32) (hs : s.size ≤ 1048576) (w : World) (hG : GR w) (hT : TK w) : Calls Tryz.prog 40 #[.agg (opc 3 s u a b l).toArray] w fun e w' => e = .returned (.bool true) ∧ Up w w' := by
  have HO := Hid.of (opA_new w 3 s u a b l ha hb)
  have HU := Hid.of ((Up.refl w).alloc (.cells (opc 3 s u a b l).toArray 36))
  obtain ⟨q, hq1, hq2⟩ := ba_ex (epT s.data.toList)
  have HR := fun w' => fun (_k : Up w w') => Hid.of (REscapePath_walk s w' (hT.up _k))
  have HP := fun w' => fun (k : Up w w') => Hid.of (EscapePath_walk s w' (hG.up k))
  rw [show vs (epT s.data.toList) = .string q from congrArg Value.string hq2] at HR HP
  have hqq := tl_eq q
  have hss := hs
  have hTT := hT
  generalize majE s.data.toList = f at *
  clear hG hT hq1 hq2 ha hb hss hTT
  go_enter Tryz.func40, Tryz.ntmps40
  generalize hW0 : w.alloc (.cells (opc 3 s u a b l).toArray 36) = W0 at *
  have k0 := HO.out.c0
  have k1 := HO.out.c1
  generalize hg : w.heap.size = g at *
  go_wp2_with fail
  refine (HR _ HU.out).out.mono ?_
  rintro e w1 ⟨rfl, u1⟩
  have H1 := Hid.of (HU.out.trans u1)
  have j1 := u1.cell k1
  clear u1 k0 k1
  dsimp only
  go_wp2_with fail
  refine (HP _ H1.out).out.mono ?_
  rintro e w2 ⟨rfl, u2⟩
  have H2 := Hid.of (H1.out.trans u2)
  clear u2
  dsimp only
  go_wp2
  go_ret
  exact ⟨rfl, H2.out⟩
set_option maxRecDepth 100000 in
set_option maxHeartbeats 2000000 in
theorem esc_k4 (s u : ByteArray) (a b : List UInt8) (l : Value) (ha : a.length = 32) (hb : b.length = 32) (hs : s.size ≤ 1048576) (w : World) (hG : GR w) (hT : TK w) : Calls Tryz.prog 40 #[.agg (opc 4 s u a b l).toArray] w fun e w' => e = .returned (.bool true) ∧ Up w w' := by
  have HO := Hid.of (opA_new w 4 s u a b l ha hb)
  have HU := Hid.of ((Up.refl w).alloc (.cells (opc 4 s u a b l).toArray 36))
  obtain ⟨q, hq1, hq2⟩ := ba_ex (upT s.data.toList)
  have HR := fun w' => fun (_k : Up w w') => Hid.of (RUnescapePath_walk s hs w' (hT.up _k))
  have HP := fun w' => fun (k : Up w w') => Hid.of (UnescapePath_walk s (by omega) w' (hG.up k))
  rw [show vs (upT s.data.toList) = .string q from congrArg Value.string hq2] at HR HP
  have hqq := tl_eq q
  have hss := hs
  have hTT := hT
  generalize upE s.data.toList = f at *
  clear hG hT hq1 hq2 ha hb hss hTT
  go_enter Tryz.func40, Tryz.ntmps40
  generalize hW0 : w.alloc (.cells (opc 4 s u a b l).toArray 36) = W0 at *
  have k0 := HO.out.c0
  have k1 := HO.out.c1
  generalize hg : w.heap.size = g at *
  go_wp2_with fail
  refine (HR _ HU.out).out.mono ?_
  rintro e w1 ⟨rfl, u1⟩
  have H1 := Hid.of (HU.out.trans u1)
  have j1 := u1.cell k1
  clear u1 k0 k1
  dsimp only
  go_wp2_with fail
  refine (HP _ H1.out).out.mono ?_
  rintro e w2 ⟨rfl, u2⟩
  have H2 := Hid.of (H1.out.trans u2)
  clear u2
  dsimp only
  go_wp2
  go_ret
  exact ⟨rfl, H2.out⟩
set_option maxRecDepth 100000 in
set_option maxHeartbeats 2000000 in
theorem esc_k5 (s u : ByteArray) (a b : List UInt8) (l : Value) (ha : a.length = 32) (hb : b.length = 32) (hs : s.size ≤ 1048576) (w : World) (hG : GR w) (hT : TK w) : Calls Tryz.prog 40 #[.agg (opc 5 s u a b l).toArray] w fun e w' => e = .returned (.bool true) ∧ Up w w' := by
  have HO := Hid.of (opA_new w 5 s u a b l ha hb)
  have HU := Hid.of ((Up.refl w).alloc (.cells (opc 5 s u a b l).toArray 36))
  obtain ⟨q, hq1, hq2⟩ := ba_ex (evT s.data.toList)
  have HR := fun w' => fun (_k : Up w w') => Hid.of (REscapeVersion_walk s w')
  have HP := fun w' => fun (k : Up w w') => Hid.of (EscapeVersion_walk s w' (hG.up k).toGM)
  rw [show vs (evT s.data.toList) = .string q from congrArg Value.string hq2] at HR HP
  have hqq := tl_eq q
  have hss := hs
  have hTT := hT
  generalize verE s.data.toList = f at *
  clear hG hT hq1 hq2 ha hb hss hTT
  go_enter Tryz.func40, Tryz.ntmps40
  generalize hW0 : w.alloc (.cells (opc 5 s u a b l).toArray 36) = W0 at *
  have k0 := HO.out.c0
  have k1 := HO.out.c1
  generalize hg : w.heap.size = g at *
  go_wp2_with fail
  refine (HR _ HU.out).out.mono ?_
  rintro e w1 ⟨rfl, u1⟩
  have H1 := Hid.of (HU.out.trans u1)
  have j1 := u1.cell k1
  clear u1 k0 k1
  dsimp only
  go_wp2_with fail
  refine (HP _ H1.out).out.mono ?_
  rintro e w2 ⟨rfl, u2⟩
  have H2 := Hid.of (H1.out.trans u2)
  clear u2
  dsimp only
  go_wp2
  go_ret
  exact ⟨rfl, H2.out⟩
set_option maxRecDepth 100000 in
set_option maxHeartbeats 2000000 in
theorem esc_k6 (s u : ByteArray) (a b : List UInt8) (l : Value) (ha : a.length = 32) (hb : b.length = 32) (hs : s.size ≤ 1048576) (w : World) (hG : GR w) (hT : TK w) : Calls Tryz.prog 40 #[.agg (opc 6 s u a b l).toArray] w fun e w' => e = .returned (.bool true) ∧ Up w w' := by
  have HO := Hid.of (opA_new w 6 s u a b l ha hb)
  have HU := Hid.of ((Up.refl w).alloc (.cells (opc 6 s u a b l).toArray 36))
  obtain ⟨q, hq1, hq2⟩ := ba_ex (uvT s.data.toList)
  have HR := fun w' => fun (_k : Up w w') => Hid.of (RUnescapeVersion_walk s hs w')
  have HP := fun w' => fun (k : Up w w') => Hid.of (UnescapeVersion_walk s (by omega) w' (hG.up k).toGM)
  rw [show vs (uvT s.data.toList) = .string q from congrArg Value.string hq2] at HR HP
  have hqq := tl_eq q
  have hss := hs
  have hTT := hT
  generalize uvE s.data.toList = f at *
  clear hG hT hq1 hq2 ha hb hss hTT
  go_enter Tryz.func40, Tryz.ntmps40
  generalize hW0 : w.alloc (.cells (opc 6 s u a b l).toArray 36) = W0 at *
  have k0 := HO.out.c0
  have k1 := HO.out.c1
  generalize hg : w.heap.size = g at *
  go_wp2_with fail
  refine (HR _ HU.out).out.mono ?_
  rintro e w1 ⟨rfl, u1⟩
  have H1 := Hid.of (HU.out.trans u1)
  have j1 := u1.cell k1
  clear u1 k0 k1
  dsimp only
  go_wp2_with fail
  refine (HP _ H1.out).out.mono ?_
  rintro e w2 ⟨rfl, u2⟩
  have H2 := Hid.of (H1.out.trans u2)
  clear u2
  dsimp only
  go_wp2
  go_ret
  exact ⟨rfl, H2.out⟩
set_option maxRecDepth 100000 in
set_option maxHeartbeats 2000000 in
theorem plays_k1 (s u : ByteArray) (a b : List UInt8) (l : Value) (ha : a.length = 32) (hb : b.length = 32) (hs : s.size ≤ 1048576) (w : World) (hG : GR w) (hL : TabL w) (hT : TK w) : Calls Tryz.prog 18 #[.agg (opc 1 s u a b l).toArray] w fun e w' => e = .returned (.bool true) ∧ Up w w' := by
  have HO := Hid.of (opA_new w 1 s u a b l ha hb)
  have HU := Hid.of ((Up.refl w).alloc (.cells (opc 1 s u a b l).toArray 36))
  have HP := fun w' => fun (k : Up w w') => Hid.of (CheckPath_walk s w' (hG.up k))
  have HR := fun w' => fun (_k : Up w w') => Hid.of (RCheckPath_walk s w' (hT.up _k))
  have hxx := And.intro hs (And.intro hL hT)
  generalize majE s.data.toList = f at *
  clear hG hT hL ha hb hxx hs
  go_enter Tryz.func18, Tryz.ntmps18
  generalize hW0 : w.alloc (.cells (opc 1 s u a b l).toArray 36) = W0 at *
  have k0 := HO.out.c0
  have k1 := HO.out.c1
  generalize hg : w.heap.size = g at *
  go_wp2
  refine wp_region_held_drew (S := fun w2 => Up W0 w2) (by kernel_rfl) ((Up.refl W0).drew) (fun hS => ?_)
  refine wpAnyH_take (i := 0) (oi := { dst := some 11, op := Go.Op.fieldAddr 36 (Go.Operand.tmp 1) 1, type := 0, pos := "law.go:120", after := #[], guard := none }) (v := .pointer (some ⟨g, 1, none⟩)) rfl (by kernel_rfl) (by kernel_rfl) (by kernel_rfl) (fun _ _ _ h => h) (Or.inl ⟨by kernel_rfl, ?_⟩) hS ?_
  · intro w5 hSw
    go_simp
  simp only [Act.put, List.setIfInBounds_toArray, List.set_cons_zero, List.set_cons_succ]
  refine wpAnyH_take (i := 1) (oi := { dst := some 12, op := Go.Op.load 9 (Go.Operand.tmp 11), type := 9, pos := "law.go:120", after := #[{ on := 0, ground := Go.Ground.data }], guard := none }) (v := .string s) rfl (by kernel_rfl) (by kernel_rfl) (by kernel_rfl) (fun _ _ _ h => h) (Or.inl ⟨by kernel_rfl, ?_⟩) hS ?_
  · intro w5 hSw
    have hq := hSw.cell k1
    go_simp
  simp only [Act.put, List.setIfInBounds_toArray, List.set_cons_zero, List.set_cons_succ]
  refine wpAnyH_take (i := 3) (oi := { dst := some 14, op := Go.Op.fieldAddr 36 (Go.Operand.tmp 1) 1, type := 0, pos := "law.go:120", after := #[], guard := none }) (v := .pointer (some ⟨g, 1, none⟩)) rfl (by kernel_rfl) (by kernel_rfl) (by kernel_rfl) (fun _ _ _ h => h) (Or.inl ⟨by kernel_rfl, ?_⟩) hS ?_
  · intro w5 hSw
    go_simp
  simp only [Act.put, List.setIfInBounds_toArray, List.set_cons_zero, List.set_cons_succ]
  refine wpAnyH_take (i := 4) (oi := { dst := some 15, op := Go.Op.load 9 (Go.Operand.tmp 14), type := 9, pos := "law.go:120", after := #[{ on := 3, ground := Go.Ground.data }], guard := none }) (v := .string s) rfl (by kernel_rfl) (by kernel_rfl) (by kernel_rfl) (fun _ _ _ h => h) (Or.inl ⟨by kernel_rfl, ?_⟩) hS ?_
  · intro w5 hSw
    have hq := hSw.cell k1
    go_simp
  simp only [Act.put, List.setIfInBounds_toArray, List.set_cons_zero, List.set_cons_succ]
  refine wpAnyH_ready (rs := [2]) (by kernel_rfl) (by simp) ?_
  refine AllReadyH.cons (o := { dst := some 13, op := Go.Op.call { callee := Go.Callee.value (Go.Operand.func 36), args := #[Go.Operand.tmp 12], argTypes := #[9] }, type := 23, pos := "law.go:120", after := #[{ on := 1, ground := Go.Ground.data }], guard := none }) rfl (fun K hK => ?_) AllReadyH.nil
  rw [if_pos (by kernel_rfl)]
  go_simp
  refine (HP _ (HU.out.trans hS)).out.mono ?_
  rintro e v1 ⟨rfl, u1⟩
  dsimp only
  refine hK.out _ _ (hS.trans u1) (fun hS1 => ?_)
  clear hK hS
  refine wpAnyH_ready (rs := [5]) (by kernel_rfl) (by simp) ?_
  refine AllReadyH.cons (o := { dst := some 16, op := Go.Op.call { callee := Go.Callee.value (Go.Operand.func 37), args := #[Go.Operand.tmp 15], argTypes := #[9] }, type := 3, pos := "law.go:120", after := #[{ on := 4, ground := Go.Ground.data }, { on := 2, ground := Go.Ground.chain }], guard := none }) rfl (fun K hK => ?_) AllReadyH.nil
  rw [if_pos (by kernel_rfl)]
  go_simp
  refine (HR _ (HU.out.trans hS1)).out.mono ?_
  rintro e v2 ⟨rfl, u2⟩
  dsimp only
  refine hK.out _ _ (hS1.trans u2) (fun hS2 => ?_)
  clear hK hS1
  refine wpAnyH_take (i := 6) (oi := { dst := some 17, op := Go.Op.binOp Go.BinOp.eql 3 (Go.Operand.tmp 13) (Go.Operand.tmp 16) 3, type := 4, pos := "law.go:120", after := #[{ on := 2, ground := Go.Ground.data }, { on := 5, ground := Go.Ground.data }], guard := none }) (v := .bool true) rfl (by kernel_rfl) (by kernel_rfl) (by kernel_rfl) (fun _ _ _ h => h) (Or.inl ⟨by kernel_rfl, ?_⟩) hS2 ?_
  · intro w5 hSw
    go_simp
  simp only [Act.put, List.setIfInBounds_toArray, List.set_cons_zero, List.set_cons_succ]
  refine wpAnyH_ready (rs := [7]) (by kernel_rfl) (by simp) ?_
  refine AllReadyH.cons (o := { dst := some 2, op := Go.Op.assign (Go.Operand.tmp 17), type := 4, pos := "law.go:120", after := #[{ on := 6, ground := Go.Ground.data }, { on := 5, ground := Go.Ground.chain }, { on := 0, ground := Go.Ground.phase }, { on := 1, ground := Go.Ground.phase }, { on := 2, ground := Go.Ground.phase }, { on := 3, ground := Go.Ground.phase }, { on := 4, ground := Go.Ground.phase }, { on := 5, ground := Go.Ground.phase }, { on := 6, ground := Go.Ground.phase }], guard := none }) rfl (fun K hK => ?_) AllReadyH.nil
  rw [if_pos (by kernel_rfl)]
  go_simp
  refine hK.out _ _ hS2 (fun hS3 => ?_)
  clear hK hS2
  refine wpAnyH_done (by kernel_rfl) ?_ _
  have HY := Hid.of hS3
  clear hS3
  go_wp2
  go_ret
  exact ⟨rfl, HU.out.trans HY.out⟩
set_option maxRecDepth 100000 in
set_option maxHeartbeats 2000000 in
theorem plays_k2 (s u : ByteArray) (a b : List UInt8) (l : Value) (ha : a.length = 32) (hb : b.length = 32) (hs : s.size ≤ 1048576) (w : World) (hG : GR w) (hL : TabL w) (hT : TK w) : Calls Tryz.prog 18 #[.agg (opc 2 s u a b l).toArray] w fun e w' => e = .returned (.bool true) ∧ Up w w' := by
  have HO := Hid.of (opA_new w 2 s u a b l ha hb)
  have HU := Hid.of ((Up.refl w).alloc (.cells (opc 2 s u a b l).toArray 36))
  have HP := fun w' => fun (k : Up w w') => Hid.of (CheckVersion_walk s w' (hG.up k).toGM)
  have HR := fun w' => fun (_k : Up w w') => Hid.of (RCheckVersion_walk s w')
  have hxx := And.intro hs (And.intro hL hT)
  generalize verE s.data.toList = f at *
  clear hG hT hL ha hb hxx hs
  go_enter Tryz.func18, Tryz.ntmps18
  generalize hW0 : w.alloc (.cells (opc 2 s u a b l).toArray 36) = W0 at *
  have k0 := HO.out.c0
  have k1 := HO.out.c1
  generalize hg : w.heap.size = g at *
  go_wp2
  refine wp_region_held_drew (S := fun w2 => Up W0 w2) (by kernel_rfl) ((Up.refl W0).drew) (fun hS => ?_)
  refine wpAnyH_take (i := 0) (oi := { dst := some 20, op := Go.Op.fieldAddr 36 (Go.Operand.tmp 1) 1, type := 0, pos := "law.go:122", after := #[], guard := none }) (v := .pointer (some ⟨g, 1, none⟩)) rfl (by kernel_rfl) (by kernel_rfl) (by kernel_rfl) (fun _ _ _ h => h) (Or.inl ⟨by kernel_rfl, ?_⟩) hS ?_
  · intro w5 hSw
    go_simp
  simp only [Act.put, List.setIfInBounds_toArray, List.set_cons_zero, List.set_cons_succ]
  refine wpAnyH_take (i := 1) (oi := { dst := some 21, op := Go.Op.load 9 (Go.Operand.tmp 20), type := 9, pos := "law.go:122", after := #[{ on := 0, ground := Go.Ground.data }], guard := none }) (v := .string s) rfl (by kernel_rfl) (by kernel_rfl) (by kernel_rfl) (fun _ _ _ h => h) (Or.inl ⟨by kernel_rfl, ?_⟩) hS ?_
  · intro w5 hSw
    have hq := hSw.cell k1
    go_simp
  simp only [Act.put, List.setIfInBounds_toArray, List.set_cons_zero, List.set_cons_succ]
  refine wpAnyH_take (i := 3) (oi := { dst := some 23, op := Go.Op.fieldAddr 36 (Go.Operand.tmp 1) 1, type := 0, pos := "law.go:122", after := #[], guard := none }) (v := .pointer (some ⟨g, 1, none⟩)) rfl (by kernel_rfl) (by kernel_rfl) (by kernel_rfl) (fun _ _ _ h => h) (Or.inl ⟨by kernel_rfl, ?_⟩) hS ?_
  · intro w5 hSw
    go_simp
  simp only [Act.put, List.setIfInBounds_toArray, List.set_cons_zero, List.set_cons_succ]
  refine wpAnyH_take (i := 4) (oi := { dst := some 24, op := Go.Op.load 9 (Go.Operand.tmp 23), type := 9, pos := "law.go:122", after := #[{ on := 3, ground := Go.Ground.data }], guard := none }) (v := .string s) rfl (by kernel_rfl) (by kernel_rfl) (by kernel_rfl) (fun _ _ _ h => h) (Or.inl ⟨by kernel_rfl, ?_⟩) hS ?_
  · intro w5 hSw
    have hq := hSw.cell k1
    go_simp
  simp only [Act.put, List.setIfInBounds_toArray, List.set_cons_zero, List.set_cons_succ]
  refine wpAnyH_ready (rs := [2]) (by kernel_rfl) (by simp) ?_
  refine AllReadyH.cons (o := { dst := some 22, op := Go.Op.call { callee := Go.Callee.value (Go.Operand.func 38), args := #[Go.Operand.tmp 21], argTypes := #[9] }, type := 23, pos := "law.go:122", after := #[{ on := 1, ground := Go.Ground.data }], guard := none }) rfl (fun K hK => ?_) AllReadyH.nil
  rw [if_pos (by kernel_rfl)]
  go_simp
  refine (HP _ (HU.out.trans hS)).out.mono ?_
  rintro e v1 ⟨rfl, u1⟩
  dsimp only
  refine hK.out _ _ (hS.trans u1) (fun hS1 => ?_)
  clear hK hS
  refine wpAnyH_ready (rs := [5]) (by kernel_rfl) (by simp) ?_
  refine AllReadyH.cons (o := { dst := some 25, op := Go.Op.call { callee := Go.Callee.value (Go.Operand.func 39), args := #[Go.Operand.tmp 24], argTypes := #[9] }, type := 3, pos := "law.go:122", after := #[{ on := 4, ground := Go.Ground.data }, { on := 2, ground := Go.Ground.chain }], guard := none }) rfl (fun K hK => ?_) AllReadyH.nil
  rw [if_pos (by kernel_rfl)]
  go_simp
  refine (HR _ (HU.out.trans hS1)).out.mono ?_
  rintro e v2 ⟨rfl, u2⟩
  dsimp only
  refine hK.out _ _ (hS1.trans u2) (fun hS2 => ?_)
  clear hK hS1
  refine wpAnyH_take (i := 6) (oi := { dst := some 26, op := Go.Op.binOp Go.BinOp.eql 3 (Go.Operand.tmp 22) (Go.Operand.tmp 25) 3, type := 4, pos := "law.go:122", after := #[{ on := 2, ground := Go.Ground.data }, { on := 5, ground := Go.Ground.data }], guard := none }) (v := .bool true) rfl (by kernel_rfl) (by kernel_rfl) (by kernel_rfl) (fun _ _ _ h => h) (Or.inl ⟨by kernel_rfl, ?_⟩) hS2 ?_
  · intro w5 hSw
    go_simp
  simp only [Act.put, List.setIfInBounds_toArray, List.set_cons_zero, List.set_cons_succ]
  refine wpAnyH_ready (rs := [7]) (by kernel_rfl) (by simp) ?_
  refine AllReadyH.cons (o := { dst := some 2, op := Go.Op.assign (Go.Operand.tmp 26), type := 4, pos := "law.go:122", after := #[{ on := 6, ground := Go.Ground.data }, { on := 5, ground := Go.Ground.chain }, { on := 0, ground := Go.Ground.phase }, { on := 1, ground := Go.Ground.phase }, { on := 2, ground := Go.Ground.phase }, { on := 3, ground := Go.Ground.phase }, { on := 4, ground := Go.Ground.phase }, { on := 5, ground := Go.Ground.phase }, { on := 6, ground := Go.Ground.phase }], guard := none }) rfl (fun K hK => ?_) AllReadyH.nil
  rw [if_pos (by kernel_rfl)]
  go_simp
  refine hK.out _ _ hS2 (fun hS3 => ?_)
  clear hK hS2
  refine wpAnyH_done (by kernel_rfl) ?_ _
  have HY := Hid.of hS3
  clear hS3
  go_wp2
  go_ret
  exact ⟨rfl, HU.out.trans HY.out⟩
set_option maxRecDepth 100000 in
set_option maxHeartbeats 2000000 in
theorem plays_k3 (s u : ByteArray) (a b : List UInt8) (l : Value) (ha : a.length = 32) (hb : b.length = 32) (hs : s.size ≤ 1048576) (w : World) (hG : GR w) (hL : TabL w) (hT : TK w) : Calls Tryz.prog 18 #[.agg (opc 3 s u a b l).toArray] w fun e w' => e = .returned (.bool true) ∧ Up w w' := by
  have HA := Hid.of (at_new w 36 (opc 3 s u a b l))
  have HU := Hid.of ((Up.refl w).alloc (.cells (opc 3 s u a b l).toArray 36))
  have HC := fun w' => fun (k : Up w w') => Hid.of (esc_k3 s u a b l ha hb hs w' (hG.up k) (hT.up k))
  have HI := Hid.of (show (Tryz.prog.info? 36).map (·.size) = some (opc 3 s u a b l).length by rw [opc_len 3 s u l ha hb]; exact info68)
  have hxx := And.intro hs (And.intro hL (And.intro hT hG))
  clear hG hT hL ha hb hxx hs
  go_enter Tryz.func18, Tryz.ntmps18
  have k0 := HA.out.cell (i := 0) rfl
  generalize hW0 : w.alloc (.cells (opc 3 s u a b l).toArray 36) = W0 at *
  generalize hg : w.heap.size = g at *
  go_wp2_with (with_reducible show wpList _ _ _ ({ dst := _, op := Op.load 36 _, type := _, pos := _, after := _, guard := _ } :: _) _ _; refine Shut.out ?_)
  show wpList _ _ _ _ _ _
  refine wpList_load_mid rfl _ _ rfl g 0 rfl (opc 3 s u a b l) _ HA.out.range Tryz.underlying36 rfl HI.out ?_
  simp only [Act.put, List.setIfInBounds_toArray, List.set_cons_zero, List.set_cons_succ]
  go_wp2_with fail
  refine (HC _ HU.out).out.mono ?_
  rintro e w1 ⟨rfl, u1⟩
  have H1 := Hid.of (HU.out.trans u1)
  clear u1
  dsimp only
  go_wp2
  go_ret
  exact ⟨rfl, H1.out⟩
set_option maxRecDepth 100000 in
set_option maxHeartbeats 2000000 in
theorem plays_k4 (s u : ByteArray) (a b : List UInt8) (l : Value) (ha : a.length = 32) (hb : b.length = 32) (hs : s.size ≤ 1048576) (w : World) (hG : GR w) (hL : TabL w) (hT : TK w) : Calls Tryz.prog 18 #[.agg (opc 4 s u a b l).toArray] w fun e w' => e = .returned (.bool true) ∧ Up w w' := by
  have HA := Hid.of (at_new w 36 (opc 4 s u a b l))
  have HU := Hid.of ((Up.refl w).alloc (.cells (opc 4 s u a b l).toArray 36))
  have HC := fun w' => fun (k : Up w w') => Hid.of (esc_k4 s u a b l ha hb hs w' (hG.up k) (hT.up k))
  have HI := Hid.of (show (Tryz.prog.info? 36).map (·.size) = some (opc 4 s u a b l).length by rw [opc_len 4 s u l ha hb]; exact info68)
  have hxx := And.intro hs (And.intro hL (And.intro hT hG))
  clear hG hT hL ha hb hxx hs
  go_enter Tryz.func18, Tryz.ntmps18
  have k0 := HA.out.cell (i := 0) rfl
  generalize hW0 : w.alloc (.cells (opc 4 s u a b l).toArray 36) = W0 at *
  generalize hg : w.heap.size = g at *
  go_wp2_with (with_reducible show wpList _ _ _ ({ dst := _, op := Op.load 36 _, type := _, pos := _, after := _, guard := _ } :: _) _ _; refine Shut.out ?_)
  show wpList _ _ _ _ _ _
  refine wpList_load_mid rfl _ _ rfl g 0 rfl (opc 4 s u a b l) _ HA.out.range Tryz.underlying36 rfl HI.out ?_
  simp only [Act.put, List.setIfInBounds_toArray, List.set_cons_zero, List.set_cons_succ]
  go_wp2_with fail
  refine (HC _ HU.out).out.mono ?_
  rintro e w1 ⟨rfl, u1⟩
  have H1 := Hid.of (HU.out.trans u1)
  clear u1
  dsimp only
  go_wp2
  go_ret
  exact ⟨rfl, H1.out⟩
set_option maxRecDepth 100000 in
set_option maxHeartbeats 2000000 in
theorem plays_k5 (s u : ByteArray) (a b : List UInt8) (l : Value) (ha : a.length = 32) (hb : b.length = 32) (hs : s.size ≤ 1048576) (w : World) (hG : GR w) (hL : TabL w) (hT : TK w) : Calls Tryz.prog 18 #[.agg (opc 5 s u a b l).toArray] w fun e w' => e = .returned (.bool true) ∧ Up w w' := by
  have HA := Hid.of (at_new w 36 (opc 5 s u a b l))
  have HU := Hid.of ((Up.refl w).alloc (.cells (opc 5 s u a b l).toArray 36))
  have HC := fun w' => fun (k : Up w w') => Hid.of (esc_k5 s u a b l ha hb hs w' (hG.up k) (hT.up k))
  have HI := Hid.of (show (Tryz.prog.info? 36).map (·.size) = some (opc 5 s u a b l).length by rw [opc_len 5 s u l ha hb]; exact info68)
  have hxx := And.intro hs (And.intro hL (And.intro hT hG))
  clear hG hT hL ha hb hxx hs
  go_enter Tryz.func18, Tryz.ntmps18
  have k0 := HA.out.cell (i := 0) rfl
  generalize hW0 : w.alloc (.cells (opc 5 s u a b l).toArray 36) = W0 at *
  generalize hg : w.heap.size = g at *
  go_wp2_with (with_reducible show wpList _ _ _ ({ dst := _, op := Op.load 36 _, type := _, pos := _, after := _, guard := _ } :: _) _ _; refine Shut.out ?_)
  show wpList _ _ _ _ _ _
  refine wpList_load_mid rfl _ _ rfl g 0 rfl (opc 5 s u a b l) _ HA.out.range Tryz.underlying36 rfl HI.out ?_
  simp only [Act.put, List.setIfInBounds_toArray, List.set_cons_zero, List.set_cons_succ]
  go_wp2_with fail
  refine (HC _ HU.out).out.mono ?_
  rintro e w1 ⟨rfl, u1⟩
  have H1 := Hid.of (HU.out.trans u1)
  clear u1
  dsimp only
  go_wp2
  go_ret
  exact ⟨rfl, H1.out⟩
set_option maxRecDepth 100000 in
set_option maxHeartbeats 2000000 in
theorem plays_k6 (s u : ByteArray) (a b : List UInt8) (l : Value) (ha : a.length = 32) (hb : b.length = 32) (hs : s.size ≤ 1048576) (w : World) (hG : GR w) (hL : TabL w) (hT : TK w) : Calls Tryz.prog 18 #[.agg (opc 6 s u a b l).toArray] w fun e w' => e = .returned (.bool true) ∧ Up w w' := by
  have HA := Hid.of (at_new w 36 (opc 6 s u a b l))
  have HU := Hid.of ((Up.refl w).alloc (.cells (opc 6 s u a b l).toArray 36))
  have HC := fun w' => fun (k : Up w w') => Hid.of (esc_k6 s u a b l ha hb hs w' (hG.up k) (hT.up k))
  have HI := Hid.of (show (Tryz.prog.info? 36).map (·.size) = some (opc 6 s u a b l).length by rw [opc_len 6 s u l ha hb]; exact info68)
  have hxx := And.intro hs (And.intro hL (And.intro hT hG))
  clear hG hT hL ha hb hxx hs
  go_enter Tryz.func18, Tryz.ntmps18
  have k0 := HA.out.cell (i := 0) rfl
  generalize hW0 : w.alloc (.cells (opc 6 s u a b l).toArray 36) = W0 at *
  generalize hg : w.heap.size = g at *
  go_wp2_with (with_reducible show wpList _ _ _ ({ dst := _, op := Op.load 36 _, type := _, pos := _, after := _, guard := _ } :: _) _ _; refine Shut.out ?_)
  show wpList _ _ _ _ _ _
  refine wpList_load_mid rfl _ _ rfl g 0 rfl (opc 6 s u a b l) _ HA.out.range Tryz.underlying36 rfl HI.out ?_
  simp only [Act.put, List.setIfInBounds_toArray, List.set_cons_zero, List.set_cons_succ]
  go_wp2_with fail
  refine (HC _ HU.out).out.mono ?_
  rintro e w1 ⟨rfl, u1⟩
  have H1 := Hid.of (HU.out.trans u1)
  clear u1
  dsimp only
  go_wp2
  go_ret
  exact ⟨rfl, H1.out⟩
set_option maxRecDepth 100000 in
set_option maxHeartbeats 2000000 in
theorem plays_k8 (s u : ByteArray) (a b : List UInt8) (l : Value) (ha : a.length = 32) (hb : b.length = 32) (hs : s.size ≤ 1048576) (w : World) (hG : GR w) (hL : TabL w) (hT : TK w) : Calls Tryz.prog 18 #[.agg (opc 8 s u a b l).toArray] w fun e w' => e = .returned (.bool true) ∧ Up w w' := by
  have HA := Hid.of (at_new w 36 (opc 8 s u a b l))
  have HU := Hid.of ((Up.refl w).alloc (.cells (opc 8 s u a b l).toArray 36))
  have HC := fun w' => fun (k : Up w w') => Hid.of (rec_k8 s u a b l ha hb hs w' (hG.up k) (hL.below hL.lt k) (hT.up k))
  have HI := Hid.of (show (Tryz.prog.info? 36).map (·.size) = some (opc 8 s u a b l).length by rw [opc_len 8 s u l ha hb]; exact info68)
  have hxx := And.intro hs (And.intro hL (And.intro hT hG))
  clear hG hT hL ha hb hxx hs
  go_enter Tryz.func18, Tryz.ntmps18
  have k0 := HA.out.cell (i := 0) rfl
  generalize hW0 : w.alloc (.cells (opc 8 s u a b l).toArray 36) = W0 at *
  generalize hg : w.heap.size = g at *
  go_wp2_with (with_reducible show wpList _ _ _ ({ dst := _, op := Op.load 36 _, type := _, pos := _, after := _, guard := _ } :: _) _ _; refine Shut.out ?_)
  show wpList _ _ _ _ _ _
  refine wpList_load_mid rfl _ _ rfl g 0 rfl (opc 8 s u a b l) _ HA.out.range Tryz.underlying36 rfl HI.out ?_
  simp only [Act.put, List.setIfInBounds_toArray, List.set_cons_zero, List.set_cons_succ]
  go_wp2_with fail
  refine (HC _ HU.out).out.mono ?_
  rintro e w1 ⟨rfl, u1⟩
  have H1 := Hid.of (HU.out.trans u1)
  clear u1
  dsimp only
  go_wp2
  go_ret
  exact ⟨rfl, H1.out⟩
set_option maxRecDepth 100000 in
set_option maxHeartbeats 2000000 in
theorem plays_k12 (s u : ByteArray) (a b : List UInt8) (l : Value) (ha : a.length = 32) (hb : b.length = 32) (hs : s.size ≤ 1048576) (w : World) (hG : GR w) (hL : TabL w) (hT : TK w) : Calls Tryz.prog 18 #[.agg (opc 12 s u a b l).toArray] w fun e w' => e = .returned (.bool true) ∧ Up w w' := by
  have HA := Hid.of (at_new w 36 (opc 12 s u a b l))
  have HU := Hid.of ((Up.refl w).alloc (.cells (opc 12 s u a b l).toArray 36))
  have HC := fun w' => fun (k : Up w w') => Hid.of (rec_k12 s u a b l ha hb hs w' (hG.up k) (hL.below hL.lt k) (hT.up k))
  have HI := Hid.of (show (Tryz.prog.info? 36).map (·.size) = some (opc 12 s u a b l).length by rw [opc_len 12 s u l ha hb]; exact info68)
  have hxx := And.intro hs (And.intro hL (And.intro hT hG))
  clear hG hT hL ha hb hxx hs
  go_enter Tryz.func18, Tryz.ntmps18
  have k0 := HA.out.cell (i := 0) rfl
  generalize hW0 : w.alloc (.cells (opc 12 s u a b l).toArray 36) = W0 at *
  generalize hg : w.heap.size = g at *
  go_wp2_with (with_reducible show wpList _ _ _ ({ dst := _, op := Op.load 36 _, type := _, pos := _, after := _, guard := _ } :: _) _ _; refine Shut.out ?_)
  show wpList _ _ _ _ _ _
  refine wpList_load_mid rfl _ _ rfl g 0 rfl (opc 12 s u a b l) _ HA.out.range Tryz.underlying36 rfl HI.out ?_
  simp only [Act.put, List.setIfInBounds_toArray, List.set_cons_zero, List.set_cons_succ]
  go_wp2_with fail
  refine (HC _ HU.out).out.mono ?_
  rintro e w1 ⟨rfl, u1⟩
  have H1 := Hid.of (HU.out.trans u1)
  clear u1
  dsimp only
  go_wp2
  go_ret
  exact ⟨rfl, H1.out⟩
set_option maxRecDepth 100000 in
set_option maxHeartbeats 2000000 in
theorem plays_k14 (s u : ByteArray) (a b : List UInt8) (l : Value) (ha : a.length = 32) (hb : b.length = 32) (hs : s.size ≤ 1048576) (w : World) (hG : GR w) (hL : TabL w) (hT : TK w) : Calls Tryz.prog 18 #[.agg (opc 14 s u a b l).toArray] w fun e w' => e = .returned (.bool true) ∧ Up w w' := by
  have HA := Hid.of (at_new w 36 (opc 14 s u a b l))
  have HU := Hid.of ((Up.refl w).alloc (.cells (opc 14 s u a b l).toArray 36))
  have HC := fun w' => fun (k : Up w w') => Hid.of (rec_k14 s u a b l ha hb hs w' (hG.up k) (hL.below hL.lt k) (hT.up k))
  have HI := Hid.of (show (Tryz.prog.info? 36).map (·.size) = some (opc 14 s u a b l).length by rw [opc_len 14 s u l ha hb]; exact info68)
  have hxx := And.intro hs (And.intro hL (And.intro hT hG))
  clear hG hT hL ha hb hxx hs
  go_enter Tryz.func18, Tryz.ntmps18
  have k0 := HA.out.cell (i := 0) rfl
  generalize hW0 : w.alloc (.cells (opc 14 s u a b l).toArray 36) = W0 at *
  generalize hg : w.heap.size = g at *
  go_wp2_with (with_reducible show wpList _ _ _ ({ dst := _, op := Op.load 36 _, type := _, pos := _, after := _, guard := _ } :: _) _ _; refine Shut.out ?_)
  show wpList _ _ _ _ _ _
  refine wpList_load_mid rfl _ _ rfl g 0 rfl (opc 14 s u a b l) _ HA.out.range Tryz.underlying36 rfl HI.out ?_
  simp only [Act.put, List.setIfInBounds_toArray, List.set_cons_zero, List.set_cons_succ]
  go_wp2_with fail
  refine (HC _ HU.out).out.mono ?_
  rintro e w1 ⟨rfl, u1⟩
  have H1 := Hid.of (HU.out.trans u1)
  clear u1
  dsimp only
  go_wp2
  go_ret
  exact ⟨rfl, H1.out⟩
end Go.Proofs.YtnciglpdjpckiaaGreatDoor
namespace Go.Proofs.YtnciglpdjpckiaaGreatDoor
open Go.RowKit Go.Shelf TextNum ModNum
set_option maxRecDepth 100000 in
theorem numbers_walk' (w : World) : Calls Tryz.prog 19 #[] w fun e w' => e = .returned (.bool true) ∧ w' = w := by
  go_enter Tryz.func19, Tryz.ntmps19
  go_wp2
  go_ret
  exact ⟨rfl, rfl⟩
set_option maxRecDepth 100000 in
set_option maxHeartbeats 2000000 in
theorem rec_k11 (s u : ByteArray) (a b : List UInt8) (l : Value) (ha : a.length = 32) (hb : b.length = 32) (w : World) (hL : TabL w) : Calls Tryz.prog 13 #[.agg (opc 11 s u a b l).toArray] w fun e w' => e = .returned (.bool true) ∧ Up w w' := by
  have HO := Hid.of (opA_new w 11 s u a b l ha hb)
  have HU := Hid.of ((Up.refl w).alloc (.cells (opc 11 s u a b l).toArray 36))
  obtain ⟨q, hq1, hq2⟩ := ba_of (sumT a)
  have HP := fun w' => fun (k : Up w w') => Hid.of (Sum_walk a ha w' (hL.below hL.lt k))
  have HR := fun w' => Hid.of (RSum_walk a ha w')
  rw [show vs (sumT a) = .string q from congrArg Value.string hq2] at HR HP
  have hqq := tl_eq q
  have HI := Hid.of (show (Tryz.prog.info? 32).map (·.size) = some (cb a).length by rw [cb_length, ha]; exact info32)
  clear hL hq1 hq2 hb ha
  go_enter Tryz.func13, Tryz.ntmps13
  generalize hW0 : w.alloc (.cells (opc 11 s u a b l).toArray 36) = W0 at *
  have k0 := HO.out.c0
  generalize hg : w.heap.size = g at *
  go_wp2
  refine wp_region_held_drew (S := fun w2 => Up W0 w2) (by kernel_rfl) ((Up.refl W0).drew) (fun hS => ?_)
  refine wpAnyH_take (i := 0) (oi := { dst := some 90, op := Go.Op.fieldAddr 36 (Go.Operand.tmp 1) 3, type := 0, pos := "law.go:101", after := #[], guard := none }) (v := .pointer (some ⟨g, 3, none⟩)) rfl (by kernel_rfl) (by kernel_rfl) (by kernel_rfl) (fun _ _ _ h => h) (Or.inl ⟨by kernel_rfl, ?_⟩) hS ?_
  · intro w5 hSw
    go_simp
  simp only [Act.put, List.setIfInBounds_toArray, List.set_cons_zero, List.set_cons_succ]
  refine wpAnyH_take (i := 1) (oi := { dst := some 91, op := Go.Op.load 32 (Go.Operand.tmp 90), type := 32, pos := "law.go:101", after := #[{ on := 0, ground := Go.Ground.data }], guard := none }) (v := .agg (cb a).toArray) rfl (by kernel_rfl) (by kernel_rfl) (by kernel_rfl) (fun _ _ _ h => h) (yieldsIf_load_mid (by kernel_rfl) _ _ rfl g 3 rfl (cb a) _ (fun w5 hSw => range_up HO.out.ra hSw) Tryz.underlying32 rfl HI.out) hS ?_
  simp only [Act.put, List.setIfInBounds_toArray, List.set_cons_zero, List.set_cons_succ]
  refine wpAnyH_take (i := 3) (oi := { dst := some 93, op := Go.Op.fieldAddr 36 (Go.Operand.tmp 1) 3, type := 0, pos := "law.go:101", after := #[], guard := none }) (v := .pointer (some ⟨g, 3, none⟩)) rfl (by kernel_rfl) (by kernel_rfl) (by kernel_rfl) (fun _ _ _ h => h) (Or.inl ⟨by kernel_rfl, ?_⟩) hS ?_
  · intro w5 hSw
    go_simp
  simp only [Act.put, List.setIfInBounds_toArray, List.set_cons_zero, List.set_cons_succ]
  refine wpAnyH_take (i := 4) (oi := { dst := some 94, op := Go.Op.load 32 (Go.Operand.tmp 93), type := 32, pos := "law.go:101", after := #[{ on := 3, ground := Go.Ground.data }], guard := none }) (v := .agg (cb a).toArray) rfl (by kernel_rfl) (by kernel_rfl) (by kernel_rfl) (fun _ _ _ h => h) (yieldsIf_load_mid (by kernel_rfl) _ _ rfl g 3 rfl (cb a) _ (fun w5 hSw => range_up HO.out.ra hSw) Tryz.underlying32 rfl HI.out) hS ?_
  simp only [Act.put, List.setIfInBounds_toArray, List.set_cons_zero, List.set_cons_succ]
  refine wpAnyH_ready (rs := [2]) (by kernel_rfl) (by simp) ?_
  refine AllReadyH.cons (o := { dst := some 92, op := Go.Op.call { callee := Go.Callee.value (Go.Operand.func 27), args := #[Go.Operand.tmp 91], argTypes := #[32] }, type := 9, pos := "law.go:101", after := #[{ on := 1, ground := Go.Ground.data }], guard := none }) rfl (fun K hK => ?_) AllReadyH.nil
  rw [if_pos (by kernel_rfl)]
  go_simp
  refine (HP _ (HU.out.trans hS)).out.mono ?_
  rintro e v1 ⟨rfl, u1⟩
  dsimp only
  refine hK.out _ _ (hS.trans u1) (fun hS1 => ?_)
  clear hK hS
  refine wpAnyH_ready (rs := [5]) (by kernel_rfl) (by simp) ?_
  refine AllReadyH.cons (o := { dst := some 95, op := Go.Op.call { callee := Go.Callee.value (Go.Operand.func 28), args := #[Go.Operand.tmp 94], argTypes := #[32] }, type := 9, pos := "law.go:101", after := #[{ on := 4, ground := Go.Ground.data }, { on := 2, ground := Go.Ground.chain }], guard := none }) rfl (fun K hK => ?_) AllReadyH.nil
  rw [if_pos (by kernel_rfl)]
  go_simp
  refine (HR _).out.mono ?_
  rintro e v2 ⟨rfl, u2⟩
  dsimp only
  refine hK.out _ _ (hS1.trans u2) (fun hS2 => ?_)
  clear hK hS1
  refine wpAnyH_take (i := 6) (oi := { dst := some 96, op := Go.Op.binOp Go.BinOp.eql 9 (Go.Operand.tmp 92) (Go.Operand.tmp 95) 9, type := 4, pos := "law.go:101", after := #[{ on := 2, ground := Go.Ground.data }, { on := 5, ground := Go.Ground.data }], guard := none }) (v := .bool true) rfl (by kernel_rfl) (by kernel_rfl) (by kernel_rfl) (fun _ _ _ h => h) (Or.inl ⟨by kernel_rfl, ?_⟩) hS2 ?_
  · intro w5 hSw
    go_simp
  simp only [Act.put, List.setIfInBounds_toArray, List.set_cons_zero, List.set_cons_succ]
  refine wpAnyH_ready (rs := [7]) (by kernel_rfl) (by simp) ?_
  refine AllReadyH.cons (o := { dst := some 2, op := Go.Op.assign (Go.Operand.tmp 96), type := 4, pos := "law.go:101", after := #[{ on := 6, ground := Go.Ground.data }, { on := 5, ground := Go.Ground.chain }, { on := 0, ground := Go.Ground.phase }, { on := 1, ground := Go.Ground.phase }, { on := 2, ground := Go.Ground.phase }, { on := 3, ground := Go.Ground.phase }, { on := 4, ground := Go.Ground.phase }, { on := 5, ground := Go.Ground.phase }, { on := 6, ground := Go.Ground.phase }], guard := none }) rfl (fun K hK => ?_) AllReadyH.nil
  rw [if_pos (by kernel_rfl)]
  go_simp
  refine hK.out _ _ hS2 (fun hS3 => ?_)
  clear hK hS2
  refine wpAnyH_done (by kernel_rfl) ?_ _
  have HY := Hid.of hS3
  clear hS3
  go_wp2
  go_ret
  exact ⟨rfl, HU.out.trans HY.out⟩
set_option maxRecDepth 100000 in
set_option maxHeartbeats 2000000 in
theorem plays_k7 (s u : ByteArray) (a b : List UInt8) (l : Value) (ha : a.length = 32) (hb : b.length = 32) (hs : s.size ≤ 1048576) (w : World) (hG : GR w) (hL : TabL w) (hT : TK w) : Calls Tryz.prog 18 #[.agg (opc 7 s u a b l).toArray] w fun e w' => e = .returned (.bool true) ∧ Up w w' := by
  have HA := Hid.of (at_new w 36 (opc 7 s u a b l))
  have HU := Hid.of ((Up.refl w).alloc (.cells (opc 7 s u a b l).toArray 36))
  have HC := fun w' => fun (k : Up w w') => Hid.of (rec_k7 s u a b l ha hb w' (hG.up k) (hT.up k))
  have HI := Hid.of (show (Tryz.prog.info? 36).map (·.size) = some (opc 7 s u a b l).length by rw [opc_len 7 s u l ha hb]; exact info68)
  have hxx := And.intro hs (And.intro hL (And.intro hT hG))
  clear hG hT hL ha hb hxx hs
  go_enter Tryz.func18, Tryz.ntmps18
  have k0 := HA.out.cell (i := 0) rfl
  generalize hW0 : w.alloc (.cells (opc 7 s u a b l).toArray 36) = W0 at *
  generalize hg : w.heap.size = g at *
  go_wp2_with (with_reducible show wpList _ _ _ ({ dst := _, op := Op.load 36 _, type := _, pos := _, after := _, guard := _ } :: _) _ _; refine Shut.out ?_)
  show wpList _ _ _ _ _ _
  refine wpList_load_mid rfl _ _ rfl g 0 rfl (opc 7 s u a b l) _ HA.out.range Tryz.underlying36 rfl HI.out ?_
  simp only [Act.put, List.setIfInBounds_toArray, List.set_cons_zero, List.set_cons_succ]
  go_wp2_with fail
  refine (HC _ HU.out).out.mono ?_
  rintro e w1 ⟨rfl, u1⟩
  have H1 := Hid.of (HU.out.trans u1)
  clear u1
  dsimp only
  go_wp2
  go_ret
  exact ⟨rfl, H1.out⟩
set_option maxRecDepth 100000 in
set_option maxHeartbeats 2000000 in
theorem plays_k11 (s u : ByteArray) (a b : List UInt8) (l : Value) (ha : a.length = 32) (hb : b.length = 32) (hs : s.size ≤ 1048576) (w : World) (hG : GR w) (hL : TabL w) (hT : TK w) : Calls Tryz.prog 18 #[.agg (opc 11 s u a b l).toArray] w fun e w' => e = .returned (.bool true) ∧ Up w w' := by
  have HA := Hid.of (at_new w 36 (opc 11 s u a b l))
  have HU := Hid.of ((Up.refl w).alloc (.cells (opc 11 s u a b l).toArray 36))
  have HC := fun w' => fun (k : Up w w') => Hid.of (rec_k11 s u a b l ha hb w' (hL.below hL.lt k))
  have HI := Hid.of (show (Tryz.prog.info? 36).map (·.size) = some (opc 11 s u a b l).length by rw [opc_len 11 s u l ha hb]; exact info68)
  have hxx := And.intro hs (And.intro hL (And.intro hT hG))
  clear hG hT hL ha hb hxx hs
  go_enter Tryz.func18, Tryz.ntmps18
  have k0 := HA.out.cell (i := 0) rfl
  generalize hW0 : w.alloc (.cells (opc 11 s u a b l).toArray 36) = W0 at *
  generalize hg : w.heap.size = g at *
  go_wp2_with (with_reducible show wpList _ _ _ ({ dst := _, op := Op.load 36 _, type := _, pos := _, after := _, guard := _ } :: _) _ _; refine Shut.out ?_)
  show wpList _ _ _ _ _ _
  refine wpList_load_mid rfl _ _ rfl g 0 rfl (opc 11 s u a b l) _ HA.out.range Tryz.underlying36 rfl HI.out ?_
  simp only [Act.put, List.setIfInBounds_toArray, List.set_cons_zero, List.set_cons_succ]
  go_wp2_with fail
  refine (HC _ HU.out).out.mono ?_
  rintro e w1 ⟨rfl, u1⟩
  have H1 := Hid.of (HU.out.trans u1)
  clear u1
  dsimp only
  go_wp2
  go_ret
  exact ⟨rfl, H1.out⟩
set_option maxRecDepth 100000 in
set_option maxHeartbeats 2000000 in
theorem plays_k13 (s u : ByteArray) (a b : List UInt8) (l : Value) (ha : a.length = 32) (hb : b.length = 32) (hs : s.size ≤ 1048576) (w : World) (hG : GR w) (hL : TabL w) (hT : TK w) : Calls Tryz.prog 18 #[.agg (opc 13 s u a b l).toArray] w fun e w' => e = .returned (.bool true) ∧ Up w w' := by
  have HA := Hid.of (at_new w 36 (opc 13 s u a b l))
  have HU := Hid.of ((Up.refl w).alloc (.cells (opc 13 s u a b l).toArray 36))
  have HC := fun w' => fun (k : Up w w') => Hid.of (rec_k13 s u a b l ha hb w' (hG.up k) (hL.below hL.lt k) (hT.up k))
  have HI := Hid.of (show (Tryz.prog.info? 36).map (·.size) = some (opc 13 s u a b l).length by rw [opc_len 13 s u l ha hb]; exact info68)
  have hxx := And.intro hs (And.intro hL (And.intro hT hG))
  clear hG hT hL ha hb hxx hs
  go_enter Tryz.func18, Tryz.ntmps18
  have k0 := HA.out.cell (i := 0) rfl
  generalize hW0 : w.alloc (.cells (opc 13 s u a b l).toArray 36) = W0 at *
  generalize hg : w.heap.size = g at *
  go_wp2_with (with_reducible show wpList _ _ _ ({ dst := _, op := Op.load 36 _, type := _, pos := _, after := _, guard := _ } :: _) _ _; refine Shut.out ?_)
  show wpList _ _ _ _ _ _
  refine wpList_load_mid rfl _ _ rfl g 0 rfl (opc 13 s u a b l) _ HA.out.range Tryz.underlying36 rfl HI.out ?_
  simp only [Act.put, List.setIfInBounds_toArray, List.set_cons_zero, List.set_cons_succ]
  go_wp2_with fail
  refine (HC _ HU.out).out.mono ?_
  rintro e w1 ⟨rfl, u1⟩
  have H1 := Hid.of (HU.out.trans u1)
  clear u1
  dsimp only
  go_wp2
  go_ret
  exact ⟨rfl, H1.out⟩
set_option maxRecDepth 100000 in
set_option maxHeartbeats 2000000 in
theorem plays_k9 (s u : ByteArray) (a b : List UInt8) (l : Value) (ha : a.length = 32) (hb : b.length = 32) (hs : s.size ≤ 1048576) (w : World) (hG : GR w) (hL : TabL w) (hT : TK w) : Calls Tryz.prog 18 #[.agg (opc 9 s u a b l).toArray] w fun e w' => e = .returned (.bool true) ∧ Up w w' := by
  have HO := Hid.of (opA_new w 9 s u a b l ha hb)
  have HU := Hid.of ((Up.refl w).alloc (.cells (opc 9 s u a b l).toArray 36))
  have HP := fun w' => fun (k : Up w w') => Hid.of (Compare_walk s u w' (hG.up k).toGM)
  have HR := fun w' => Hid.of (CompareR_walk s u w')
  have hxx := And.intro hs (And.intro hL (And.intro hT (And.intro ha hb)))
  generalize cmpV s.data.toList u.data.toList = cv at *
  clear hG hT hL ha hb hxx hs
  go_enter Tryz.func18, Tryz.ntmps18
  generalize hW0 : w.alloc (.cells (opc 9 s u a b l).toArray 36) = W0 at *
  have k0 := HO.out.c0
  have k1 := HO.out.c1
  have k2 := HO.out.c2
  generalize hg : w.heap.size = g at *
  go_wp2
  refine wp_region_held_drew (S := fun w2 => Up W0 w2) (by kernel_rfl) ((Up.refl W0).drew) (fun hS => ?_)
  refine wpAnyH_take (i := 0) (oi := { dst := some 45, op := Go.Op.fieldAddr 36 (Go.Operand.tmp 1) 1, type := 0, pos := "law.go:128", after := #[], guard := none }) (v := .pointer (some ⟨g, 1, none⟩)) rfl (by kernel_rfl) (by kernel_rfl) (by kernel_rfl) (fun _ _ _ h => h) (Or.inl ⟨by kernel_rfl, ?_⟩) hS ?_
  · intro w5 hSw
    go_simp
  simp only [Act.put, List.setIfInBounds_toArray, List.set_cons_zero, List.set_cons_succ]
  refine wpAnyH_take (i := 1) (oi := { dst := some 46, op := Go.Op.load 9 (Go.Operand.tmp 45), type := 9, pos := "law.go:128", after := #[{ on := 0, ground := Go.Ground.data }], guard := none }) (v := .string s) rfl (by kernel_rfl) (by kernel_rfl) (by kernel_rfl) (fun _ _ _ h => h) (Or.inl ⟨by kernel_rfl, ?_⟩) hS ?_
  · intro w5 hSw
    have hq := hSw.cell k1
    go_simp
  simp only [Act.put, List.setIfInBounds_toArray, List.set_cons_zero, List.set_cons_succ]
  refine wpAnyH_take (i := 2) (oi := { dst := some 47, op := Go.Op.fieldAddr 36 (Go.Operand.tmp 1) 2, type := 0, pos := "law.go:128", after := #[], guard := none }) (v := .pointer (some ⟨g, 2, none⟩)) rfl (by kernel_rfl) (by kernel_rfl) (by kernel_rfl) (fun _ _ _ h => h) (Or.inl ⟨by kernel_rfl, ?_⟩) hS ?_
  · intro w5 hSw
    go_simp
  simp only [Act.put, List.setIfInBounds_toArray, List.set_cons_zero, List.set_cons_succ]
  refine wpAnyH_take (i := 3) (oi := { dst := some 48, op := Go.Op.load 9 (Go.Operand.tmp 47), type := 9, pos := "law.go:128", after := #[{ on := 2, ground := Go.Ground.data }], guard := none }) (v := .string u) rfl (by kernel_rfl) (by kernel_rfl) (by kernel_rfl) (fun _ _ _ h => h) (Or.inl ⟨by kernel_rfl, ?_⟩) hS ?_
  · intro w5 hSw
    have hq := hSw.cell k2
    go_simp
  simp only [Act.put, List.setIfInBounds_toArray, List.set_cons_zero, List.set_cons_succ]
  refine wpAnyH_take (i := 5) (oi := { dst := some 50, op := Go.Op.fieldAddr 36 (Go.Operand.tmp 1) 1, type := 0, pos := "law.go:128", after := #[], guard := none }) (v := .pointer (some ⟨g, 1, none⟩)) rfl (by kernel_rfl) (by kernel_rfl) (by kernel_rfl) (fun _ _ _ h => h) (Or.inl ⟨by kernel_rfl, ?_⟩) hS ?_
  · intro w5 hSw
    go_simp
  simp only [Act.put, List.setIfInBounds_toArray, List.set_cons_zero, List.set_cons_succ]
  refine wpAnyH_take (i := 6) (oi := { dst := some 51, op := Go.Op.load 9 (Go.Operand.tmp 50), type := 9, pos := "law.go:128", after := #[{ on := 5, ground := Go.Ground.data }], guard := none }) (v := .string s) rfl (by kernel_rfl) (by kernel_rfl) (by kernel_rfl) (fun _ _ _ h => h) (Or.inl ⟨by kernel_rfl, ?_⟩) hS ?_
  · intro w5 hSw
    have hq := hSw.cell k1
    go_simp
  simp only [Act.put, List.setIfInBounds_toArray, List.set_cons_zero, List.set_cons_succ]
  refine wpAnyH_take (i := 7) (oi := { dst := some 52, op := Go.Op.fieldAddr 36 (Go.Operand.tmp 1) 2, type := 0, pos := "law.go:128", after := #[], guard := none }) (v := .pointer (some ⟨g, 2, none⟩)) rfl (by kernel_rfl) (by kernel_rfl) (by kernel_rfl) (fun _ _ _ h => h) (Or.inl ⟨by kernel_rfl, ?_⟩) hS ?_
  · intro w5 hSw
    go_simp
  simp only [Act.put, List.setIfInBounds_toArray, List.set_cons_zero, List.set_cons_succ]
  refine wpAnyH_take (i := 8) (oi := { dst := some 53, op := Go.Op.load 9 (Go.Operand.tmp 52), type := 9, pos := "law.go:128", after := #[{ on := 7, ground := Go.Ground.data }], guard := none }) (v := .string u) rfl (by kernel_rfl) (by kernel_rfl) (by kernel_rfl) (fun _ _ _ h => h) (Or.inl ⟨by kernel_rfl, ?_⟩) hS ?_
  · intro w5 hSw
    have hq := hSw.cell k2
    go_simp
  simp only [Act.put, List.setIfInBounds_toArray, List.set_cons_zero, List.set_cons_succ]
  refine wpAnyH_ready (rs := [4]) (by kernel_rfl) (by simp) ?_
  refine AllReadyH.cons (o := { dst := some 49, op := Go.Op.call { callee := Go.Callee.value (Go.Operand.func 24), args := #[Go.Operand.tmp 46, Go.Operand.tmp 48], argTypes := #[9, 9] }, type := 3, pos := "law.go:128", after := #[{ on := 1, ground := Go.Ground.data }, { on := 3, ground := Go.Ground.data }], guard := none }) rfl (fun K hK => ?_) AllReadyH.nil
  rw [if_pos (by kernel_rfl)]
  go_simp
  refine (HP _ (HU.out.trans hS)).out.mono ?_
  rintro e v1 ⟨rfl, u1⟩
  dsimp only
  refine hK.out _ _ (hS.trans u1) (fun hS1 => ?_)
  clear hK hS
  refine wpAnyH_ready (rs := [9]) (by kernel_rfl) (by simp) ?_
  refine AllReadyH.cons (o := { dst := some 54, op := Go.Op.call { callee := Go.Callee.value (Go.Operand.func 41), args := #[Go.Operand.tmp 51, Go.Operand.tmp 53], argTypes := #[9, 9] }, type := 3, pos := "law.go:128", after := #[{ on := 6, ground := Go.Ground.data }, { on := 8, ground := Go.Ground.data }, { on := 4, ground := Go.Ground.chain }], guard := none }) rfl (fun K hK => ?_) AllReadyH.nil
  rw [if_pos (by kernel_rfl)]
  go_simp
  refine (HR _).out.mono ?_
  rintro e v2 ⟨rfl, u2⟩
  dsimp only
  refine hK.out _ _ (hS1.trans u2) (fun hS2 => ?_)
  clear hK hS1
  refine wpAnyH_take (i := 10) (oi := { dst := some 55, op := Go.Op.binOp Go.BinOp.eql 3 (Go.Operand.tmp 49) (Go.Operand.tmp 54) 3, type := 4, pos := "law.go:128", after := #[{ on := 4, ground := Go.Ground.data }, { on := 9, ground := Go.Ground.data }], guard := none }) (v := .bool true) rfl (by kernel_rfl) (by kernel_rfl) (by kernel_rfl) (fun _ _ _ h => h) (Or.inl ⟨by kernel_rfl, ?_⟩) hS2 ?_
  · intro w5 hSw
    go_simp
  simp only [Act.put, List.setIfInBounds_toArray, List.set_cons_zero, List.set_cons_succ]
  refine wpAnyH_ready (rs := [11]) (by kernel_rfl) (by simp) ?_
  refine AllReadyH.cons (o := { dst := some 2, op := Go.Op.assign (Go.Operand.tmp 55), type := 4, pos := "law.go:128", after := #[{ on := 10, ground := Go.Ground.data }, { on := 9, ground := Go.Ground.chain }, { on := 0, ground := Go.Ground.phase }, { on := 1, ground := Go.Ground.phase }, { on := 2, ground := Go.Ground.phase }, { on := 3, ground := Go.Ground.phase }, { on := 4, ground := Go.Ground.phase }, { on := 5, ground := Go.Ground.phase }, { on := 6, ground := Go.Ground.phase }, { on := 7, ground := Go.Ground.phase }, { on := 8, ground := Go.Ground.phase }, { on := 9, ground := Go.Ground.phase }, { on := 10, ground := Go.Ground.phase }], guard := none }) rfl (fun K hK => ?_) AllReadyH.nil
  rw [if_pos (by kernel_rfl)]
  go_simp
  refine hK.out _ _ hS2 (fun hS3 => ?_)
  clear hK hS2
  refine wpAnyH_done (by kernel_rfl) ?_ _
  have HY := Hid.of hS3
  clear hS3
  go_wp2
  go_ret
  exact ⟨rfl, HU.out.trans HY.out⟩
set_option maxRecDepth 100000 in
set_option maxHeartbeats 2000000 in
theorem plays_k10 (s u : ByteArray) (a b : List UInt8) (l : Value) (ha : a.length = 32) (hb : b.length = 32) (ks : List (List UInt8)) (hkl : ks.length ≤ 1048576) (hsz : ∀ t ∈ ks, t.length ≤ 1048576) (w : World) (hG : GR w) (hT : TK w) (hS : SlS w l ks) : Calls Tryz.prog 18 #[.agg (opc 10 s u a b l).toArray] w fun e w' => e = .returned (.bool true) ∧ Up w w' := by
  have HO := Hid.of (opA_new w 10 s u a b l ha hb)
  have HU := Hid.of ((Up.refl w).alloc (.cells (opc 10 s u a b l).toArray 36))
  have HP := fun w' => fun (k : Up w w') => Hid.of (Sort_walk l ks hsz w' (hG.up k) (hS.up k))
  have HR := fun w' => fun (k : Up w w') => Hid.of (RSort_walk l ks hsz w' (hT.up k) (hS.up k))
  obtain ⟨la, ln, lc, rfl⟩ : ∃ la ln lc, l = .slice la ln lc := by
    obtain ⟨a1, c1, h⟩ := hS.len
    exact ⟨_, _, _, h⟩
  have HKL := Hid.of hkl
  clear hG hT hsz hS hkl ha hb
  go_enter Tryz.func18, Tryz.ntmps18
  generalize hW0 : w.alloc (.cells (opc 10 s u a b (.slice la ln lc)).toArray 36) = W0 at *
  have k0 := HO.out.c0
  have k1 := HO.out.cl
  generalize hg : w.heap.size = g at *
  go_wp2_with fail
  refine (HR _ HU.out).out.mono ?_
  rintro e w1 ⟨v1, e1, l1, rfl, he1, hn1, hy1, hO1, u1⟩
  have H1 := Hid.of (HU.out.trans u1)
  have j1 := u1.cell k1
  have HO1 := Hid.of hO1
  have HH1 := Hid.of (And.intro he1 (And.intro hn1 hy1))
  clear u1 k0 k1 hO1 he1 hn1 hy1
  dsimp only
  go_wp2_with fail
  refine (HP _ H1.out).out.mono ?_
  rintro e w2 ⟨v2, e2, l2, rfl, he2, hn2, hy2, hO2, u2⟩
  have H2 := Hid.of (H1.out.trans u2)
  obtain ⟨he1, hn1, hy1⟩ := HH1.out
  obtain rfl : e1 = e2 := he1.trans he2.symm
  have hll : l1 = l2 := by
    by_cases h0 : e1 = 0
    · have h3 := hy1 h0
      have h4 := hy2 h0
      have hk0 : kE ks = 0 := by
        by_cases h5 : 4096 < ks.length
        · rw [if_pos h5] at he1; omega
        · rw [if_neg h5] at he1; omega
      exact SRT.one hk0 h3 ⟨h4.1, h4.2.1⟩
    · rw [hn1 h0, (hn2 h0).1]
  subst hll
  have hl1 : l1.length ≤ 1099511627776 := by
    by_cases h0 : e1 = 0
    · rw [(hy1 h0).1.length_eq]; have := HKL.out; omega
    · rw [hn1 h0]; simp
  have HSM := Hid.of (same_yes v2 v1 l1 hl1 w2 hO2.sl (HO1.out.up u2).sl)
  clear he1 hn1 hy1 he2 hn2 hy2 hO2 u2 hl1 HH1
  dsimp only
  go_wp2_with fail
  refine HSM.out.mono ?_
  rintro e w3 ⟨rfl, u3⟩
  have H3 := Hid.of (H2.out.trans u3)
  clear u3
  dsimp only
  go_wp2
  go_ret
  exact ⟨rfl, H3.out⟩
set_option maxRecDepth 100000 in
set_option maxHeartbeats 2000000 in
theorem plays_no (k : Int) (hk : ¬ (1 ≤ k ∧ k ≤ 14)) (s u : ByteArray) (a b : List UInt8) (l : Value) (ha : a.length = 32) (hb : b.length = 32) (w : World) : Calls Tryz.prog 18 #[.agg (opc k s u a b l).toArray] w fun e w' => e = .returned (.bool true) ∧ Up w w' := by
  have HO := Hid.of (opA_new w k s u a b l ha hb)
  have HU := Hid.of ((Up.refl w).alloc (.cells (opc k s u a b l).toArray 36))
  have z1 : (k == 1) = false := by rw [beq_eq_false_iff_ne]; omega
  have z2 : (k == 2) = false := by rw [beq_eq_false_iff_ne]; omega
  have z3 : (k == 3) = false := by rw [beq_eq_false_iff_ne]; omega
  have z4 : (k == 4) = false := by rw [beq_eq_false_iff_ne]; omega
  have z5 : (k == 5) = false := by rw [beq_eq_false_iff_ne]; omega
  have z6 : (k == 6) = false := by rw [beq_eq_false_iff_ne]; omega
  have z7 : (k == 7) = false := by rw [beq_eq_false_iff_ne]; omega
  have z8 : (k == 8) = false := by rw [beq_eq_false_iff_ne]; omega
  have z9 : (k == 9) = false := by rw [beq_eq_false_iff_ne]; omega
  have z10 : (k == 10) = false := by rw [beq_eq_false_iff_ne]; omega
  have z11 : (k == 11) = false := by rw [beq_eq_false_iff_ne]; omega
  have z12 : (k == 12) = false := by rw [beq_eq_false_iff_ne]; omega
  have z13 : (k == 13) = false := by rw [beq_eq_false_iff_ne]; omega
  have z14 : (k == 14) = false := by rw [beq_eq_false_iff_ne]; omega
  clear ha hb hk
  go_enter Tryz.func18, Tryz.ntmps18
  generalize hW0 : w.alloc (.cells (opc k s u a b l).toArray 36) = W0 at *
  have k0 := HO.out.c0
  generalize hg : w.heap.size = g at *
  go_wp2
  go_ret
  exact ⟨rfl, HU.out⟩
end Go.Proofs.YtnciglpdjpckiaaGreatDoor
namespace Go.Proofs.YtnciglpdjpckiaaGreatDoor
open Go.RowKit Go.Shelf TextNum ModNum
/-- an Op that is given, as it lies -/
def OpI (w : World) (g o : Nat) : Prop := ∃ (k : Int) (s u : ByteArray) (a b : List UInt8) (l : Value) (ks : List (List UInt8)), w.rangeAt g o (opc k s u a b l) ∧ a.length = 32 ∧ b.length = 32 ∧ s.size ≤ 1048576 ∧ SlS w l ks ∧ ks.length ≤ 1048576 ∧ ∀ t ∈ ks, t.length ≤ 1048576
theorem OpI.up {w w' : World} {g o : Nat} (h : OpI w g o) (q : Up w w') : OpI w' g o := by
  obtain ⟨k, s, u, a, b, l, ks, h1, h2, h3, h4, h5, h6, h7⟩ := h
  exact ⟨k, s, u, a, b, l, ks, range_up h1 q, h2, h3, h4, h5.up q, h6, h7⟩
theorem plays_any (k : Int) (s u : ByteArray) (a b : List UInt8) (l : Value) (ha : a.length = 32) (hb : b.length = 32) (ks : List (List UInt8)) (hs : s.size ≤ 1048576) (hkl : ks.length ≤ 1048576) (hksz : ∀ t ∈ ks, t.length ≤ 1048576) (w : World) (hG : GR w) (hL : TabL w) (hT : TK w) (hS : SlS w l ks) :
    Calls Tryz.prog 18 #[.agg (opc k s u a b l).toArray] w fun e w' => e = .returned (.bool true) ∧ Up w w' := by
  by_cases hk : 1 ≤ k ∧ k ≤ 14
  · obtain rfl | rfl | rfl | rfl | rfl | rfl | rfl | rfl | rfl | rfl | rfl | rfl | rfl | rfl : k = 1 ∨ k = 2 ∨ k = 3 ∨ k = 4 ∨ k = 5 ∨ k = 6 ∨ k = 7 ∨ k = 8 ∨ k = 9 ∨ k = 10 ∨ k = 11 ∨ k = 12 ∨ k = 13 ∨ k = 14 := by omega
    · exact plays_k1 s u a b l ha hb hs w hG hL hT
    · exact plays_k2 s u a b l ha hb hs w hG hL hT
    · exact plays_k3 s u a b l ha hb hs w hG hL hT
    · exact plays_k4 s u a b l ha hb hs w hG hL hT
    · exact plays_k5 s u a b l ha hb hs w hG hL hT
    · exact plays_k6 s u a b l ha hb hs w hG hL hT
    · exact plays_k7 s u a b l ha hb hs w hG hL hT
    · exact plays_k8 s u a b l ha hb hs w hG hL hT
    · exact plays_k9 s u a b l ha hb hs w hG hL hT
    · exact plays_k10 s u a b l ha hb ks hkl hksz w hG hT hS
    · exact plays_k11 s u a b l ha hb hs w hG hL hT
    · exact plays_k12 s u a b l ha hb hs w hG hL hT
    · exact plays_k13 s u a b l ha hb hs w hG hL hT
    · exact plays_k14 s u a b l ha hb hs w hG hL hT
  · exact plays_no k hk s u a b l ha hb w
theorem exec_idx68 {o : Oper} {ρ : Operand → Value} {x y : Operand} {w : World} {b off n c : Nat} (i : Nat) (hi : i < n) (ho : o.op = .indexAddr 49 x y) (hx : ρ x = .slice (some ⟨b, off, none⟩) n c) (hy : ρ y = .int .i64 (i : Int)) : (execOp ρ o).run Tryz.prog w = .ok (.value (.pointer (some ⟨b, off + i * 68, none⟩))) w := by
  have hi' : (i : Int) < (n : Int) := by omega
  unfold execOp
  simp only [ho, hx, hy]
  go_simp
set_option maxRecDepth 100000 in
set_option maxHeartbeats 2000000 in
theorem all_law (a : Option Addr) (n c : Nat) (hn : n ≤ 1048576) (hc : n ≤ c) (w : World) (hG : GR w) (hL : TabL w) (hT : TK w) (hO : ∀ i, i < n → ∃ b off, a = some ⟨b, off, none⟩ ∧ OpI w b (off + i * 68)) :
    Calls Tryz.prog 7 #[.slice a n c] w fun e w' => e = .returned (.bool true) ∧ Up w w' := by
  have HG := Hid.of hG
  have HL := Hid.of hL
  have HT := Hid.of hT
  have HO := Hid.of hO
  have HK := Hid.of (known_walk w hG)
  have hcz : (n : Int) ≤ (c : Int) := by omega
  clear hG hL hT hO
  go_enter Tryz.func7, Tryz.ntmps7
  go_wp2_with fail
  refine (numbers_walk' _).mono ?_
  rintro e w9 ⟨rfl, h9⟩
  obtain rfl := h9.symm
  clear h9
  dsimp only
  go_wp2_with fail
  refine (HK.out).mono ?_
  rintro e w1 ⟨rfl, u1⟩
  have H1 := Hid.of (u1)
  have Hu1 := Hid.of u1
  clear u1
  dsimp only
  go_wp2
  go_loopw [3, 4] (fun v3 _ wr => ∃ i : Nat, v3 = .int .i64 (i : Int) ∧ i ≤ n ∧ Hid (Up w wr)) (fun v3 _ _ => n - (intOf v3).toNat)
  case atStart => exact ⟨0, rfl, by omega, H1.out⟩
  case round =>
    obtain ⟨i, rfl, hi, hI⟩ := hrel
    obtain ⟨wb, hwb⟩ : ∃ wb, wb = wr := ⟨_, rfl⟩
    subst hwb
    by_cases hlt : i < n
    · have hltz : (i : Int) < (n : Int) := by omega
      obtain ⟨b, off, rfl, hop⟩ := HO.out i hlt
      obtain ⟨k, s, u, a1, b1, l, ks, h1, h2, h3, h4, h5, h6, h7⟩ := hop.up hI.out
      have HR := Hid.of h1
      have HC := Hid.of (plays_any k s u a1 b1 l h2 h3 ks h4 h6 h7 wb (HG.out.up hI.out) (HL.out.below HL.out.lt hI.out) (HT.out.up hI.out) h5)
      have HI := Hid.of (show (Tryz.prog.info? 36).map (·.size) = some (opc k s u a1 b1 l).length by rw [opc_len k s u l h2 h3]; exact info68)
      clear h1 h2 h3 h4 h5 h6 h7 hop
      generalize opc k s u a1 b1 l = cs at *
      go_wp2_with (with_reducible show wpList _ _ _ ({ dst := _, op := Op.indexAddr 49 _ _, type := _, pos := _, after := _, guard := _ } :: _) _ _; refine Shut.out ?_)
      show wpList _ _ _ _ _ _
      refine wpList_val7 (.pointer (some ⟨b, off + i * 68, none⟩)) rfl (exec_idx68 i hlt rfl rfl rfl) ?_
      simp only [Act.put, List.setIfInBounds_toArray, List.set_cons_zero, List.set_cons_succ]
      go_wp2_with (with_reducible show wpList _ _ _ ({ dst := _, op := Op.load 36 _, type := _, pos := _, after := _, guard := _ } :: _) _ _; refine Shut.out ?_)
      show wpList _ _ _ _ _ _
      refine wpList_load_mid rfl _ _ rfl b (off + i * 68) rfl cs _ HR.out Tryz.underlying36 rfl HI.out ?_
      simp only [Act.put, List.setIfInBounds_toArray, List.set_cons_zero, List.set_cons_succ]
      go_wp2_with fail
      refine (HC.out).mono ?_
      rintro e w2 ⟨rfl, u2⟩
      have H2 := Hid.of (hI.out.trans u2)
      have Hu2 := Hid.of u2
      clear u2
      dsimp only
      go_wp2
      go_roundw
      case rel => exact ⟨i + 1, by go_num, by omega, H2.out⟩
      case measure => simp [intOf]; omega
    · have hltz : ¬ (i : Int) < (n : Int) := by omega
      go_wp2
      go_ret
      exact ⟨rfl, hI.out⟩
end Go.Proofs.YtnciglpdjpckiaaGreatDoor
namespace Go.Proofs.YtnciglpdjpckiaaGreatDoor
open Go.ChangeShapes Go.WideShapes Go.ChangeAt Go.WideMaps Go.WideElems Go.RowKit TextNum
set_option maxRecDepth 100000 in
theorem cellsSst : Tryz.prog.cellsOf 22 = 1 := by kernel_rfl
theorem bulk_in {H : Type} {l : List (DataW H)} {x : DataW H} (h : x ∈ l) : Rows.uptoBulk x ≤ Rows.uptoBulkAll l := by
  obtain ⟨j, hj, rfl⟩ := List.mem_iff_getElem.1 h
  exact bulk_mem (List.getElem?_eq_getElem hj)
theorem sst_open {H : Type} {enc : TypeId × Value → H} {W : World} {fuel : Nat} {cs : List Value} {z : DataW H × List MemPlace}
    (hf : DataW.trod enc Tryz.prog W 0 (fun _ => true) true fuel 22 cs = some z) : ∃ v ks, cs = [v] ∧ SlS W v ks ∧ ks.length ≤ Rows.uptoBulk z.1 ∧ ∀ s ∈ ks, s.length ≤ Rows.uptoBulk z.1 := by
  obtain ⟨d, ps⟩ := z
  have key : ∀ a len cap, cs = [.slice a len cap] → ∃ v ks, cs = [v] ∧ SlS W v ks ∧ ks.length ≤ Rows.uptoBulk d ∧ ∀ s ∈ ks, s.length ≤ Rows.uptoBulk d := fun a len cap h => by
    subst h
    obtain ⟨ks, h1, h2, h3⟩ := st_openC (v := .slice a len cap) (d := d) (ps := ps) ⟨fuel, hf⟩ a len cap rfl
    exact ⟨_, ks, rfl, h1, h2, h3⟩
  rcases DataW.trod_slice Tryz.underlying22 hf with ⟨e1, _⟩ | ⟨ad, l2, c2, _, _, _, _, e1, _⟩
  · exact key _ _ _ e1
  · exact key _ _ _ e1
end Go.Proofs.YtnciglpdjpckiaaGreatDoor
namespace Go.Proofs.YtnciglpdjpckiaaGreatDoor
open Go.RowKit TextNum Go.Lib Go.ChangeShapes Go.WideShapes Go.ChangeAt
/-- nothing but zeros -/
def zA2 : Array Value := (List.replicate 64 (Value.int .u8 0)).toArray
theorem cell_byte {v : Value} {z : Int} (h : v = .int .u8 z) (h0 : 0 ≤ z) (h1 : z ≤ 255) : ∃ c : UInt8, v = .int .u8 (c.toNat : Int) := by
  subst h
  refine ⟨UInt8.ofNat z.toNat, ?_⟩
  rw [UInt8.toNat_ofNat', Nat.mod_eq_of_lt (by omega)]
  congr 1
  omega
theorem bytes_of : ∀ (l : List Value), (∀ v, v ∈ l → ∃ c : UInt8, v = .int .u8 (c.toNat : Int)) → ∃ r : List UInt8, l = cb r
  | [], _ => ⟨[], rfl⟩
  | v :: l, h => by
    obtain ⟨c, hc⟩ := h v (by simp)
    obtain ⟨r, hr⟩ := bytes_of l (fun u hu => h u (by simp [hu]))
    exact ⟨c :: r, by rw [hc, hr]; rfl⟩
set_option maxRecDepth 100000 in
theorem open32l {H : Type} {enc : TypeId × Value → H} {W : World} {l : List Value} {sp : Nat → Bool} {hd : Bool} {fuel : Nat} {x : DataW H × List MemPlace}
    (h : DataW.trod enc Tryz.prog W 0 sp hd fuel 32 l = some x) : ∃ r : List UInt8, r.length = 32 ∧ l = cb r := by
  obtain ⟨ys, m2, _, _, hlen, hyl, hel⟩ := DataW.trod_array Tryz.underlying32 h
  rw [show Tryz.prog.cellsOf 5 = 1 by kernel_rfl] at hel
  rw [show Tryz.prog.cellsOf 32 = 32 by kernel_rfl] at hlen
  obtain ⟨r, hr⟩ := bytes_of l (fun v hv => by
    obtain ⟨i, hi, e⟩ := List.getElem_of_mem hv
    have h1 := hel i (by omega)
    rw [Nat.mul_one, List.drop_eq_getElem_cons hi, List.take_succ_cons, List.take_zero, List.getElem?_eq_getElem (by omega)] at h1
    obtain ⟨z, ez, _, wz⟩ := DataW.trod_int Tryz.underlying5 h1
    have hb : 0 ≤ z ∧ z ≤ 255 := by simpa [Lit.wf, IntKind.min, IntKind.max, IntKind.signed, IntKind.bits] using wz
    rw [e] at ez
    exact cell_byte (by simpa using ez) hb.1 hb.2)
  exact ⟨r, by rw [hr, cb_length] at hlen; exact hlen, hr⟩
set_option maxRecDepth 100000 in
/-- two rows of 32 bytes as an argument -/
theorem openA2 {H : Type} {enc : TypeId × Value → H} {W : World} {base : Nat} {v : Value} {d : DataW H} {q : List MemPlace}
    (hval : Value.okWide Tryz.prog W .any base 33 v) (h : DataW.Trod enc Tryz.prog W 0 (fun _ => true) true 33 v d q) :
    ∃ x y : List UInt8, x.length = 32 ∧ y.length = 32 ∧ v = .agg (cb x ++ cb y).toArray := by
  obtain ⟨cs, rfl, hsz⟩ : ∃ cs : Array Value, v = .agg cs ∧ cs.size = Tryz.prog.cellsOf 33 := by
    simp only [Value.okWide, Tryz.underlying33] at hval
    obtain ⟨cs, h1, h2, _⟩ := hval
    exact ⟨cs, h1, h2⟩
  rw [show Tryz.prog.cellsOf 33 = 64 by kernel_rfl] at hsz
  obtain ⟨l⟩ := cs
  have hl : l.length = 64 := by simpa using hsz
  obtain ⟨fuel, hf⟩ := h
  have hf' : DataW.trod enc Tryz.prog W 0 (fun _ => true) true fuel 33 l = some (d, q) := hf
  obtain ⟨xs, m, rfl, hx, _, hxl, hall⟩ := DataW.trod_array Tryz.underlying33 hf'
  rw [show Tryz.prog.cellsOf 32 = 32 by kernel_rfl] at hall
  have h0 := hall 0 (by omega)
  have h1 := hall 1 (by omega)
  rw [List.getElem?_eq_getElem (by omega)] at h0 h1
  obtain ⟨x, hx1, ex⟩ := open32l h0
  obtain ⟨y, hy1, ey⟩ := open32l h1
  refine ⟨x, y, hx1, hy1, ?_⟩
  have e1 : (l.drop (1 * 32)).take 32 = l.drop 32 := List.take_of_length_le (by simp; omega)
  rw [e1] at ey
  rw [Nat.zero_mul, List.drop_zero] at ex
  rw [← ex, ← ey, List.take_append_drop]
end Go.Proofs.YtnciglpdjpckiaaGreatDoor
namespace Go.Proofs.YtnciglpdjpckiaaGreatDoor
open Go.ChangeShapes Go.WideShapes Go.ChangeAt Go.WideMaps Go.WideElems Go.RowKit TextNum
set_option maxRecDepth 100000 in
theorem cells68 : Tryz.prog.cellsOf 36 = 68 := by kernel_rfl
set_option maxRecDepth 100000 in
theorem cells32 : Tryz.prog.cellsOf 32 = 32 := by kernel_rfl
set_option maxRecDepth 100000 in
theorem cellsInt : Tryz.prog.cellsOf 3 = 1 := by kernel_rfl
theorem list68 {cs : List Value} {k : Int} {s u : ByteArray} {a b : List UInt8} {d : Value} (hl : cs.length = 68) (h0 : (cs.drop 0).take 1 = [.int .i64 k]) (h1 : (cs.drop 1).take 1 = [.string s]) (h2 : (cs.drop 2).take 1 = [.string u]) (h3 : (cs.drop 3).take 32 = cb a) (h4 : (cs.drop 35).take 32 = cb b)
    (h5 : (cs.drop 67).take 1 = [d]) : cs = opc k s u a b d := by
  have e5 : cs.drop 67 = [d] := by rw [← h5, List.take_of_length_le (by simp [hl])]
  have e4 : cs.drop 35 = cb b ++ [d] := by rw [← List.take_append_drop 32 (cs.drop 35), h4, List.drop_drop, e5]
  have e3 : cs.drop 3 = cb a ++ (cb b ++ [d]) := by rw [← List.take_append_drop 32 (cs.drop 3), h3, List.drop_drop, e4]
  have e2 : cs.drop 2 = .string u :: (cb a ++ (cb b ++ [d])) := by rw [← List.take_append_drop 1 (cs.drop 2), h2, List.drop_drop, e3]; rfl
  have e1 : cs.drop 1 = .string s :: .string u :: (cb a ++ (cb b ++ [d])) := by rw [← List.take_append_drop 1 (cs.drop 1), h1, List.drop_drop, e2]; rfl
  rw [← List.take_append_drop 1 cs, e1]
  rw [List.drop_zero] at h0
  rw [h0]
  rfl
set_option maxRecDepth 100000 in
/-- one call is opened -/
theorem op_open {H : Type} {enc : TypeId × Value → H} {W : World} {fuel : Nat} {cs : List Value} {z : DataW H × List MemPlace}
    (hf : DataW.trod enc Tryz.prog W 0 (fun _ => true) true fuel 36 cs = some z) : ∃ (k : Int) (s u : ByteArray) (a b : List UInt8) (d : Value) (ks : List (List UInt8)), a.length = 32 ∧ b.length = 32 ∧ SlS W d ks ∧ cs = opc k s u a b d ∧ s.size ≤ Rows.uptoBulk z.1 ∧ ks.length ≤ Rows.uptoBulk z.1 ∧ ∀ t ∈ ks, t.length ≤ Rows.uptoBulk z.1 := by
  obtain ⟨ys, m, _, hz, hl, hn, hel⟩ := DataW.trod_struct Tryz.underlying36 hf
  rw [cells68] at hl
  have hn6 : ys.length = 6 := hn
  have e0 : DataW.trod enc Tryz.prog W 0 (fun _ => true) true m 3 ((cs.drop 0).take (Tryz.prog.cellsOf 3)) = ys[0]? := hel 0 _ rfl
  have e1 : DataW.trod enc Tryz.prog W 0 (fun _ => true) true m 9 ((cs.drop 1).take (Tryz.prog.cellsOf 9)) = ys[1]? := hel 1 _ rfl
  have e2 : DataW.trod enc Tryz.prog W 0 (fun _ => true) true m 9 ((cs.drop 2).take (Tryz.prog.cellsOf 9)) = ys[2]? := hel 2 _ rfl
  have e3 : DataW.trod enc Tryz.prog W 0 (fun _ => true) true m 32 ((cs.drop 3).take (Tryz.prog.cellsOf 32)) = ys[3]? := hel 3 _ rfl
  have e4 : DataW.trod enc Tryz.prog W 0 (fun _ => true) true m 32 ((cs.drop 35).take (Tryz.prog.cellsOf 32)) = ys[4]? := hel 4 _ rfl
  have e5 : DataW.trod enc Tryz.prog W 0 (fun _ => true) true m 22 ((cs.drop 67).take (Tryz.prog.cellsOf 22)) = ys[5]? := hel 5 _ rfl
  rw [cellsInt, List.getElem?_eq_getElem (by omega)] at e0
  rw [cellsStr, List.getElem?_eq_getElem (by omega)] at e1 e2
  rw [cells32, List.getElem?_eq_getElem (by omega)] at e3 e4
  rw [cellsSst, List.getElem?_eq_getElem (by omega)] at e5
  obtain ⟨k, hk, _⟩ := DataW.trod_int Tryz.underlying3 e0
  obtain ⟨s, hs, xs, _⟩ := DataW.trod_string Tryz.underlying9 e1
  obtain ⟨u, hu, _⟩ := DataW.trod_string Tryz.underlying9 e2
  obtain ⟨a, ha, hal⟩ := open32l e3
  obtain ⟨b, hb, hbl⟩ := open32l e4
  obtain ⟨d, ks, hd, hS, hln, hsz⟩ := sst_open e5
  have b5 := bulk_in (l := ys.map (·.1)) (x := ys[5].1) (List.mem_map.2 ⟨ys[5], List.getElem_mem _, rfl⟩)
  have b1 := bulk_in (l := ys.map (·.1)) (x := ys[1].1) (List.mem_map.2 ⟨ys[1], List.getElem_mem _, rfl⟩)
  have hz1 : Rows.uptoBulkAll (ys.map (·.1)) ≤ Rows.uptoBulk z.1 := by
    subst hz
    simp only [Rows.uptoBulk]
    omega
  have hs1 : s.size ≤ Rows.uptoBulk ys[1].1 := by
    rw [congrArg Prod.fst xs, Go.Lib.size_eq]
    simp only [Rows.uptoBulk]
    omega
  exact ⟨k, s, u, a, b, d, ks, ha, hb, hS, list68 hl hk hs hu hal hbl hd, by omega, by omega, fun t ht => by have := hsz t ht; omega⟩
set_option maxRecDepth 100000 in
/-- a script is opened -/
theorem ops_open {H : Type} {enc : TypeId × Value → H} {W : World} {v : Value} {d : DataW H} {ps : List MemPlace} {base : Nat}
    (hval : Value.okWide Tryz.prog W .any base 49 v) (h : DataW.Trod enc Tryz.prog W 0 (fun _ => true) true 49 v d ps) (hk : Rows.uptoBulk d ≤ 1048576) :
    ∃ a n c, v = .slice a n c ∧ n ≤ 1048576 ∧ n ≤ c ∧ ∀ i, i < n → ∃ b off, a = some ⟨b, off, none⟩ ∧ OpI W b (off + i * 68) := by
  obtain ⟨a, len, cap, rfl⟩ := okWide_slice Tryz.underlying49 hval
  obtain ⟨fuel, hf⟩ := h
  have hf' : DataW.trod enc Tryz.prog W 0 (fun _ => true) true fuel 49 [.slice a len cap] = some (d, ps) := hf
  rcases DataW.trod_slice Tryz.underlying49 hf' with ⟨e1, _⟩ | ⟨ad, l2, c2, elems, rest, n, _, e1, hx, _, hlc, _, hel0, hel, _, _⟩
  · simp only [List.cons.injEq, Value.slice.injEq, and_true] at e1
    obtain ⟨rfl, rfl, rfl⟩ := e1
    exact ⟨none, 0, 0, rfl, Nat.zero_le _, Nat.le_refl _, fun i hi => absurd hi (Nat.not_lt_zero _)⟩
  · simp only [List.cons.injEq, Value.slice.injEq, and_true] at e1
    obtain ⟨rfl, rfl, rfl⟩ := e1
    injection hx with hd _
    rw [cells68] at hel
    have hbulk : Rows.uptoBulkAll (elems.map (·.1)) ≤ Rows.uptoBulk d := by
      rw [hd]
      simp only [Rows.uptoBulk]
      omega
    have hlen : len ≤ 1048576 := by
      have := len_leB (elems.map (·.1))
      rw [List.length_map] at this
      omega
    have key : ∀ i, i < len → ∃ (k : Int) (s u : ByteArray) (a b : List UInt8) (d : Value) (ks : List (List UInt8)), a.length = 32 ∧ b.length = 32 ∧ SlS W d ks ∧ W.cells? 0 (ad.add (i * 68)) 68 = some (opc k s u a b d) ∧ s.size ≤ 1048576 ∧ ks.length ≤ 1048576 ∧ ∀ t ∈ ks, t.length ≤ 1048576 := by
      intro i hi
      have h1 := hel i hi
      rw [List.getElem?_eq_getElem (by omega), Option.bind_eq_some_iff] at h1
      obtain ⟨cs, hcs, hy⟩ := h1
      obtain ⟨k, s, u, a, b, d', ks, ha, hb, hS, rfl, q1, q2, q3⟩ := op_open hy
      have hb1 := bulk_in (l := elems.map (·.1)) (x := (elems[i]'(by omega)).1) (List.mem_map.2 ⟨_, List.getElem_mem _, rfl⟩)
      exact ⟨k, s, u, a, b, d', ks, ha, hb, hS, hcs, by omega, by omega, fun t ht => by have := q3 t ht; omega⟩
    refine ⟨some ad, len, cap, rfl, hlen, hlc, fun i hi => ?_⟩
    obtain ⟨b0, off, rfl⟩ : ∃ b off, ad = ⟨b, off, none⟩ := by
      obtain ⟨k, s, u, a, b, d', ks, _, _, _, hcs, _⟩ := key 0 (by omega)
      have h00 := (World.cells?_some hcs).2.2 0 (by decide)
      have h01 : W.cell? ((ad.add (0 * 68)).add 0) = some (.int .i64 k) := h00.trans rfl
      rw [Nat.zero_mul, show ad.add 0 = ad by unfold Addr.add; rw [if_pos rfl]] at h01
      have hsp := plain_of h01
      obtain ⟨b, off, sp⟩ := ad
      obtain rfl : sp = none := hsp
      exact ⟨b, off, rfl⟩
    refine ⟨b0, off, rfl, ?_⟩
    obtain ⟨k, s, u, a, b, d', ks, ha, hb, hS, hcs, q1, q2, q3⟩ := key i hi
    refine ⟨k, s, u, a, b, d', ks, fun j v hv => ?_, ha, hb, q1, hS, q2, q3⟩
    have hj : j < 68 := by have := (List.getElem?_eq_some_iff.1 hv).1; rwa [opc_len k s u d' ha hb] at this
    have := (World.cells?_some hcs).2.2 j hj
    rw [hv] at this
    rw [add_plain, add_plain] at this
    first | exact this | (rw [add_plain]; exact this)
theorem glAll {W : World} (h : laidMetH Tryz.prog Rows.modverAllUptoRow.laid W) (hs : W.ShapedOpen Tryz.prog) : GR W ∧ TabL W ∧ TK W := by
  rw [MakeChecks.laidMetH_plain _ _ _ (by kernel_rfl)] at h
  exact ⟨⟨⟨chars_of (Go.Lib.laidMet.reads h (by simp [Rows.modverAllUptoRow])), max_of hs⟩, res_of (Go.Lib.laidMet.reads h (by simp [Rows.modverAllUptoRow]))⟩, let_of (Go.Lib.laidMet.reads h (by simp [Rows.modverAllUptoRow])), taken_of (Go.Lib.laidMet.reads h (by simp [Rows.modverAllUptoRow]))⟩
end Go.Proofs.YtnciglpdjpckiaaGreatDoor
