import Derived.Test.YtbdbpmeaiiodgaaDoorFg
import Derived.Deep.MidRow
import Derived.Deep.RegionHeld3
namespace Go.Proofs.YtbdbpmeaiiodgaaDoor
open Go.RowKit TextNum
theorem own_nil7 (w : World) (B : Nat) : Own w B (.slice none 0 0) [] := World.ownsRow_nil w B 5 1
theorem ownG_nil7 (w : World) (B : Nat) (e : TypeId) : OwnG w B e (.slice none 0 0) [] := ⟨World.ownsRow_nil w B e 3, by simp⟩
set_option maxRecDepth 100000 in
set_option maxHeartbeats 2000000 in
theorem theirs_walk (v : Value) (ss : List Sg) (w : World) (hS : SigL w v ss) (h16 : ss.length ≤ 16) (hb : ∀ s, s ∈ ss → s.bytes.length ≤ 65536) :
    Calls Tryd.prog 27 #[v] w fun e w' => ∃ v', e = .returned v' ∧ SigL w' v' ss ∧ Up w w' := by
  obtain ⟨a, c, rfl, hc, hg⟩ := hS.get
  have HG := Hid.of hg
  have HBd := Hid.of hb
  clear hS hg hb
  obtain ⟨n, hn⟩ : ∃ n, ss.length = n := ⟨_, rfl⟩
  rw [hn] at hc h16 ⊢
  go_enter Tryd.func27, Tryd.ntmps27
  go_wp2
  go_loopw [3, 4] (fun v3 v4 wr => ∃ i : Nat, v4 = .int .i64 (i : Int) ∧ i ≤ n ∧ Hid (∃ qs, OwnG wr w.heap.size 101 v3 qs ∧ qs.map (·.1) = ss.take i ∧ Up w wr)) (fun _ v4 _ => n - (intOf v4).toNat)
  case atStart => exact ⟨0, rfl, by omega, [], ownG_nil7 _ _ _, by simp, Up.refl _⟩
  case round =>
    obtain ⟨i, rfl, hi, hI⟩ := hrel
    obtain ⟨qs, hI1, hI2, hI3⟩ := hI.out
    have HI := Hid.of (And.intro hI1 (And.intro hI2 hI3))
    clear hI hI1 hI2 hI3
    by_cases hlt : i < n
    rotate_left
    · have hlt' : ¬ (i : Int) < (n : Int) := by omega
      have hin : i = ss.length := by omega
      go_wp2
      go_ret
      refine ⟨_, rfl, ?_, HI.out.2.2⟩
      have := HI.out.1.sigL
      rw [HI.out.2.1, hin, List.take_length] at this
      exact this
    have hlt' : (i : Int) < (n : Int) := by omega
    have hltS : i < ss.length := by omega
    obtain ⟨b1, o1, rfl, p1, m1, d1, k1, k2, k3, rfl, k5⟩ := HG.out i hltS
    have k1' := HI.out.2.2.cell k1
    have k2' := HI.out.2.2.cell k2
    have k3' := HI.out.2.2.cell k3
    have HSl := Hid.of (k5.up HI.out.2.2)
    have HX := Hid.of (List.take_succ_eq_append_getElem hltS)
    have HBl := Hid.of (HBd.out _ (List.getElem_mem hltS))
    have HK0 := Hid.of (And.intro k1 k2)
    clear k1 k2 k3 k5
    generalize ss[i] = s at *
    obtain ⟨m, HM⟩ : ∃ m, Hid (s.bytes.length = m) := ⟨_, Hid.of rfl⟩
    rw [HM.out] at k3' HSl
    go_wp2_with (with_reducible show wpList _ _ _ ({ dst := _, op := Op.call { callee := Callee.builtin Builtin.append, args := _, argTypes := _ }, type := _, pos := _, after := _, guard := _ } :: _) _ _; refine Shut.out ?_)
    show wpList _ _ _ _ _ _
    refine wpList_appSl rfl _ _ rfl wr.heap.size _ _ [] s.bytes rfl (own_nil7 _ _) rfl HSl.out (by have := HBl.out; simp; omega) (Nat.le_refl _) ?_
    intro vb w5 hO5 b5
    rw [List.nil_append] at hO5
    simp only [Act.put, List.setIfInBounds_toArray, List.set_cons_zero, List.set_cons_succ]
    have u5 : Up wr w5 := b5
    obtain ⟨ab, cb5, rfl⟩ := hO5.len
    have HO5 := Hid.of hO5
    have H5 := Hid.of (show OwnG w5 w.heap.size 101 _ qs ∧ Up w w5 ∧ wr.heap.size ≤ w5.heap.size from ⟨HI.out.1.up u5, HI.out.2.2.trans u5, u5.size⟩)
    have c1 := u5.cell k1'
    have c2 := u5.cell k2'
    clear k1' k2' k3' hO5 b5 u5 HSl
    rw [HM.out]
    go_wp2_with fail
    refine wp_region_held_drew (S := fun w2 => w2.cell? ⟨b1, o1 + i * 3, none⟩ = some (.string s.name) ∧ w2.cell? ⟨b1, o1 + i * 3 + 1, none⟩ = some (.int .u32 (s.hash : Int)) ∧ Up w w2) (by kernel_rfl) ⟨c1, c2, H5.out.2.1.drew⟩ (fun hS => ?_)
    clear c1 c2
    refine wpAnyH_take (i := 0) (oi := { dst := some 19, op := Go.Op.move (Go.Operand.tmp 3), type := 48, pos := "law.go:19", after := #[], guard := none }) (v := u3) rfl (by kernel_rfl) (by kernel_rfl) (by kernel_rfl) (fun _ _ _ h => h) (Or.inl ⟨by kernel_rfl, ?_⟩) hS ?_
    · intro w5 hSw
      clear hSw hS
      go_simp
    simp only [Act.put, List.setIfInBounds_toArray, List.set_cons_zero, List.set_cons_succ]
    refine wpAnyH_take (i := 1) (oi := { dst := some 20, op := Go.Op.move (Go.Operand.tmp 0), type := 39, pos := "law.go:19", after := #[], guard := none }) (v := .slice (some ⟨b1, o1, none⟩) n c) rfl (by kernel_rfl) (by kernel_rfl) (by kernel_rfl) (fun _ _ _ h => h) (Or.inl ⟨by kernel_rfl, ?_⟩) hS ?_
    · intro w5 hSw
      clear hSw hS
      go_simp
    simp only [Act.put, List.setIfInBounds_toArray, List.set_cons_zero, List.set_cons_succ]
    refine wpAnyH_take (i := 2) (oi := { dst := some 21, op := Go.Op.move (Go.Operand.tmp 4), type := 3, pos := "law.go:19", after := #[], guard := none }) (v := .int .i64 (i : Int)) rfl (by kernel_rfl) (by kernel_rfl) (by kernel_rfl) (fun _ _ _ h => h) (Or.inl ⟨by kernel_rfl, ?_⟩) hS ?_
    · intro w5 hSw
      clear hSw hS
      go_simp
    simp only [Act.put, List.setIfInBounds_toArray, List.set_cons_zero, List.set_cons_succ]
    refine wpAnyH_take (i := 3) (oi := { dst := some 22, op := Go.Op.indexAddr 39 (Go.Operand.tmp 20) (Go.Operand.tmp 21), type := 0, pos := "law.go:19", after := #[{ on := 1, ground := Go.Ground.data }, { on := 2, ground := Go.Ground.data }], guard := none }) (v := .pointer (some ⟨b1, o1 + i * 3, none⟩)) rfl (by kernel_rfl) (by kernel_rfl) (by kernel_rfl) (fun _ _ _ h => h) (Or.inl ⟨by kernel_rfl, ?_⟩) hS ?_
    · intro w5 hSw
      clear hSw hS
      go_simp
    simp only [Act.put, List.setIfInBounds_toArray, List.set_cons_zero, List.set_cons_succ]
    refine wpAnyH_take (i := 4) (oi := { dst := some 23, op := Go.Op.fieldAddr 42 (Go.Operand.tmp 22) 0, type := 0, pos := "law.go:19", after := #[{ on := 3, ground := Go.Ground.data }], guard := none }) (v := .pointer (some ⟨b1, o1 + i * 3, none⟩)) rfl (by kernel_rfl) (by kernel_rfl) (by kernel_rfl) (fun _ _ _ h => h) (Or.inl ⟨by kernel_rfl, ?_⟩) hS ?_
    · intro w5 hSw
      clear hSw hS
      go_simp
    simp only [Act.put, List.setIfInBounds_toArray, List.set_cons_zero, List.set_cons_succ]
    refine wpAnyH_take (i := 5) (oi := { dst := some 24, op := Go.Op.load 9 (Go.Operand.tmp 23), type := 9, pos := "law.go:19", after := #[{ on := 4, ground := Go.Ground.data }], guard := none }) (v := .string s.name) rfl (by kernel_rfl) (by kernel_rfl) (by kernel_rfl) (fun _ _ _ h => h) (Or.inl ⟨by kernel_rfl, ?_⟩) hS ?_
    · intro w5 hSw
      have h1 := hSw.1
      have h2 := hSw.2.1
      clear hSw
      go_simp
    simp only [Act.put, List.setIfInBounds_toArray, List.set_cons_zero, List.set_cons_succ]
    refine wpAnyH_take (i := 6) (oi := { dst := some 25, op := Go.Op.move (Go.Operand.tmp 0), type := 39, pos := "law.go:19", after := #[], guard := none }) (v := .slice (some ⟨b1, o1, none⟩) n c) rfl (by kernel_rfl) (by kernel_rfl) (by kernel_rfl) (fun _ _ _ h => h) (Or.inl ⟨by kernel_rfl, ?_⟩) hS ?_
    · intro w5 hSw
      clear hSw hS
      go_simp
    simp only [Act.put, List.setIfInBounds_toArray, List.set_cons_zero, List.set_cons_succ]
    refine wpAnyH_take (i := 7) (oi := { dst := some 26, op := Go.Op.move (Go.Operand.tmp 4), type := 3, pos := "law.go:19", after := #[], guard := none }) (v := .int .i64 (i : Int)) rfl (by kernel_rfl) (by kernel_rfl) (by kernel_rfl) (fun _ _ _ h => h) (Or.inl ⟨by kernel_rfl, ?_⟩) hS ?_
    · intro w5 hSw
      clear hSw hS
      go_simp
    simp only [Act.put, List.setIfInBounds_toArray, List.set_cons_zero, List.set_cons_succ]
    refine wpAnyH_take (i := 8) (oi := { dst := some 27, op := Go.Op.indexAddr 39 (Go.Operand.tmp 25) (Go.Operand.tmp 26), type := 0, pos := "law.go:19", after := #[{ on := 6, ground := Go.Ground.data }, { on := 7, ground := Go.Ground.data }], guard := none }) (v := .pointer (some ⟨b1, o1 + i * 3, none⟩)) rfl (by kernel_rfl) (by kernel_rfl) (by kernel_rfl) (fun _ _ _ h => h) (Or.inl ⟨by kernel_rfl, ?_⟩) hS ?_
    · intro w5 hSw
      clear hSw hS
      go_simp
    simp only [Act.put, List.setIfInBounds_toArray, List.set_cons_zero, List.set_cons_succ]
    refine wpAnyH_take (i := 9) (oi := { dst := some 28, op := Go.Op.fieldAddr 42 (Go.Operand.tmp 27) 1, type := 0, pos := "law.go:19", after := #[{ on := 8, ground := Go.Ground.data }], guard := none }) (v := .pointer (some ⟨b1, o1 + i * 3 + 1, none⟩)) rfl (by kernel_rfl) (by kernel_rfl) (by kernel_rfl) (fun _ _ _ h => h) (Or.inl ⟨by kernel_rfl, ?_⟩) hS ?_
    · intro w5 hSw
      clear hSw hS
      go_simp
    simp only [Act.put, List.setIfInBounds_toArray, List.set_cons_zero, List.set_cons_succ]
    refine wpAnyH_take (i := 10) (oi := { dst := some 29, op := Go.Op.load 40 (Go.Operand.tmp 28), type := 40, pos := "law.go:19", after := #[{ on := 9, ground := Go.Ground.data }], guard := none }) (v := .int .u32 (s.hash : Int)) rfl (by kernel_rfl) (by kernel_rfl) (by kernel_rfl) (fun _ _ _ h => h) (Or.inl ⟨by kernel_rfl, ?_⟩) hS ?_
    · intro w5 hSw
      have h1 := hSw.1
      have h2 := hSw.2.1
      clear hSw
      go_simp
    simp only [Act.put, List.setIfInBounds_toArray, List.set_cons_zero, List.set_cons_succ]
    refine wpAnyH_take (i := 11) (oi := { dst := some 30, op := Go.Op.move (Go.Operand.tmp 5), type := 22, pos := "law.go:19", after := #[], guard := none }) (v := .slice ab m cb5) rfl (by kernel_rfl) (by kernel_rfl) (by kernel_rfl) (fun _ _ _ h => h) (Or.inl ⟨by kernel_rfl, ?_⟩) hS ?_
    · intro w5 hSw
      clear hSw hS
      go_simp
    simp only [Act.put, List.setIfInBounds_toArray, List.set_cons_zero, List.set_cons_succ]
    refine wpAnyH_take (i := 12) (oi := { dst := some 31, op := Go.Op.build 101 #[(0, Go.Operand.tmp 24), (1, Go.Operand.tmp 29), (2, Go.Operand.tmp 30)], type := 101, pos := "law.go:19", after := #[{ on := 5, ground := Go.Ground.data }, { on := 10, ground := Go.Ground.data }, { on := 11, ground := Go.Ground.data }], guard := none }) (v := .agg #[.string s.name, .int .u32 (s.hash : Int), .slice ab m cb5]) rfl (by kernel_rfl) (by kernel_rfl) (by kernel_rfl) (fun _ _ _ h => h) (Or.inl ⟨by kernel_rfl, ?_⟩) hS ?_
    · intro w5 hSw
      clear hSw hS
      go_simp
    simp only [Act.put, List.setIfInBounds_toArray, List.set_cons_zero, List.set_cons_succ]
    refine wpAnyH_ready (rs := [13]) (by kernel_rfl) (by simp) ?_
    refine AllReadyH.cons (o := { dst := some 32, op := Go.Op.buildSlice 48 1 #[(0, Go.Operand.tmp 31)], type := 48, pos := "law.go:19", after := #[{ on := 12, ground := Go.Ground.data }], guard := none }) rfl (fun K hK => ?_) AllReadyH.nil
    rw [if_pos (by kernel_rfl)]
    go_simp
    have u6 : Up w (w5.alloc (.cells #[.string s.name, .int .u32 (s.hash : Int), .slice ab m cb5] 101)).drew := (H5.out.2.1.alloc _).drew
    have hS2 := And.intro (u6.cell HK0.out.1) (And.intro (u6.cell HK0.out.2) u6)
    clear hS u6
    refine hK.out _ _ hS2 (fun hS => ?_)
    clear hK hS2 K
    refine wpAnyH_ready (rs := [14]) (by kernel_rfl) (by simp) ?_
    refine AllReadyH.cons (o := { dst := some 33, op := Go.Op.call { callee := Go.Callee.builtin Go.Builtin.append, args := #[Go.Operand.tmp 19, Go.Operand.tmp 32], argTypes := #[48, 48] }, type := 48, pos := "law.go:19", after := #[{ on := 0, ground := Go.Ground.data }, { on := 13, ground := Go.Ground.data }], guard := none }) rfl (fun K hK => ?_) AllReadyH.nil
    rw [if_pos (by kernel_rfl)]
    have hm := HM.out
    subst hm
    have u7 : Up w5 (w5.alloc (.cells #[.string s.name, .int .u32 (s.hash : Int), .slice ab s.bytes.length cb5] 101)).drew := ((Up.refl w5).alloc _).drew
    refine wp_appG sgT2 (Operand.tmp 19) (Operand.tmp 32) rfl w.heap.size u3 qs (s, ab, cb5) rfl (by exact H5.out.1.up u7) ⟨w5.heap.size, 0, none⟩ 1 rfl ?_ (by exact HO5.out.sl.up u7) ?_ (by have := congrArg List.length HI.out.2.1; rw [List.length_map, List.length_take] at this; omega) hS.2.2.size ?_
    · intro j u hj
      exact (World.cell?_drew _ _).trans (cells_new w5 101 (qc (s, ab, cb5)) j u hj)
    · intro b hb
      have h1 := World.ownsRow.lt HO5.out b hb
      refine ⟨Nat.lt_of_lt_of_le h1.2 u7.size, fun h2 => ?_⟩
      have := (World.ownsRow.lt HI.out.1.1 b h2).2
      omega
    intro v7 w7 hO7 b7
    simp only [Act.put, List.setIfInBounds_toArray, List.set_cons_zero, List.set_cons_succ]
    have u8 : Up w w7 := hS.2.2.step (Nat.le_refl _) b7
    have HN := Hid.of (show ∃ qs, OwnG w7 w.heap.size 101 v7 qs ∧ qs.map (·.1) = ss.take (i + 1) ∧ Up w w7 from ⟨qs ++ [(s, ab, cb5)], hO7, by rw [HX.out, List.map_append, HI.out.2.1]; rfl, u8⟩)
    have hS2 := And.intro (u8.cell HK0.out.1) (And.intro (u8.cell HK0.out.2) u8)
    clear hS hO7 b7 u7 u8
    refine hK.out _ _ hS2 (fun hS => ?_)
    clear hK hS2 K
    generalize s.bytes.length = m at *
    refine wpAnyH_ready (rs := [15]) (by kernel_rfl) (by simp) ?_
    refine AllReadyH.cons (o := { dst := some 3, op := Go.Op.assign (Go.Operand.tmp 33), type := 48, pos := "law.go:19", after := #[{ on := 14, ground := Go.Ground.data }, { on := 14, ground := Go.Ground.chain }, { on := 0, ground := Go.Ground.phase }, { on := 1, ground := Go.Ground.phase }, { on := 2, ground := Go.Ground.phase }, { on := 3, ground := Go.Ground.phase }, { on := 4, ground := Go.Ground.phase }, { on := 5, ground := Go.Ground.phase }, { on := 6, ground := Go.Ground.phase }, { on := 7, ground := Go.Ground.phase }, { on := 8, ground := Go.Ground.phase }, { on := 9, ground := Go.Ground.phase }, { on := 10, ground := Go.Ground.phase }, { on := 11, ground := Go.Ground.phase }, { on := 12, ground := Go.Ground.phase }, { on := 13, ground := Go.Ground.phase }, { on := 14, ground := Go.Ground.phase }], guard := none }) rfl (fun K hK => ?_) AllReadyH.nil
    rw [if_pos (by kernel_rfl)]
    go_simp
    refine hK.out _ _ hS (fun hS2 => ?_)
    clear hS hS2 hK K
    refine wpAnyH_done (by kernel_rfl) ?_ _
    go_wp2
    go_roundw
    case rel => exact ⟨i + 1, by go_num, by omega, HN⟩
    case measure => simp [intOf]; omega
end Go.Proofs.YtbdbpmeaiiodgaaDoor
