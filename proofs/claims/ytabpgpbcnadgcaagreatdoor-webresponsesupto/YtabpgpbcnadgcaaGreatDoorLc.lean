import Derived.Test.YtabpgpbcnadgcaaGreatDoorLb
import Derived.Test.YtabpgpbcnadgcaaGreatDoorLa
import Derived.Test.YtabpgpbcnadgcaaGreatDoorYu
import Derived.Test.YtabpgpbcnadgcaaGreatDoorGf
namespace Go.Proofs.YtabpgpbcnadgcaaGreatDoor
open Go.RowKit TextNum
/-- texts that are given -/
structure StL (w : World) (a : Option Addr) (ss : List ByteArray) (c : Nat) : Prop where
  cap : ss.length ≤ c
  cells : ∀ i (h : i < ss.length), ∃ b off, a = some ⟨b, off, none⟩ ∧ w.cell? ⟨b, off + i, none⟩ = some (.string ss[i])
theorem StL.up {w w' : World} {a : Option Addr} {ss : List ByteArray} {c : Nat} (h : StL w a ss c) (u : Up w w') : StL w' a ss c :=
  ⟨h.cap, fun i hi => by obtain ⟨b, off, e, k⟩ := h.cells i hi; exact ⟨b, off, e, u.cell k⟩⟩
def vat (ss : List ByteArray) (i : Nat) : ByteArray := ss.getD i ⟨#[]⟩
set_option maxRecDepth 100000 in
theorem value_walk (a : Option Addr) (ss : List ByteArray) (c i : Nat) (w : World) (h : StL w a ss c) : Calls Tryz.prog 42 #[.slice a ss.length c, .int .i64 (i : Int)] w fun e w' => e = .returned (.string (vat ss i)) ∧ w' = w := by
  have hcap := h.cap
  by_cases hi : i < ss.length
  · obtain ⟨b, off, rfl, k⟩ := h.cells i hi
    have hz : (i : Int) < (ss.length : Int) := by omega
    have HV := Hid.of (show vat ss i = ss[i] by unfold vat; rw [List.getD_eq_getElem?_getD, List.getElem?_eq_getElem hi]; rfl)
    rw [HV.out]
    generalize ss[i] = x at *
    clear h
    go_enter Tryz.func42, Tryz.ntmps42
    go_wp2
    go_ret
    exact ⟨rfl, rfl⟩
  · have hz : ¬ (i : Int) < (ss.length : Int) := by omega
    have HV := Hid.of (show vat ss i = ⟨#[]⟩ by unfold vat; rw [List.getD_eq_getElem?_getD, List.getElem?_eq_none (by omega)]; rfl)
    rw [HV.out]
    clear h
    go_enter Tryz.func42, Tryz.ntmps42
    go_wp2
    go_ret
    exact ⟨rfl, rfl⟩
/-- one byte is appended -/
theorem wpList_app1 {w : World} {N q : Nat} {ops : Array Oper} {rest : List Oper} {o : Oper} {a : Act} {Q : Exit → Act → World → Prop} (hgd : o.guard = none) (x y : Operand)
    (ho : o.op = .call { callee := .builtin .append, args := #[x, y], argTypes := #[22, 22] }) (ax : Option Addr) (cx : Nat) (xs : List UInt8) (b : UInt8) (hx : a.eval x = .slice ax q cx) (hy : a.eval y = .slice (some ⟨w.heap.size, 0, none⟩) 1 1)
    (hR : w.ownsRow N 5 1 (.slice ax q cx) q (cb xs)) (hNw : N ≤ w.heap.size) (hql : q ≤ 1099511627776)
    (K : ∀ ax2 cx2 w', w'.ownsRow N 5 1 (.slice ax2 (q + 1) cx2) (q + 1) (cb (xs ++ [b])) → (∀ W, Up W w → W.heap.size ≤ N → Up W w') → w.grownBy w' (Value.slice ax q cx).ownBlock → wpList Tryz.prog ops Q rest (a.put o.dst (.slice ax2 (q + 1) cx2)) w') :
    wpList Tryz.prog ops Q (o :: rest) a (w.alloc (.cells #[.int .u8 (b.toNat : Int)] 5)) := by
  obtain ⟨i0, hi0, hz0, hz1, hz2⟩ := info_parts Tryz.infoU8
  have HUx := (Up.refl w).alloc (.cells #[.int .u8 (b.toNat : Int)] 5)
  refine wpList_append_frs hgd x y 22 ho N 5 i0 (.int .u8 0) 1 Tryz.underlying22 hi0 hz0 hz1 hz2 rfl _ q _ hx (ow_up hR HUx) ⟨w.heap.size, 0, none⟩ 1 1 [.int .u8 (b.toNat : Int)] hy rfl ?_ ?_ (by simp only [maxLen]; omega) (by omega) (Nat.le_trans hNw HUx.size) ?_
  · intro j u hu
    rw [Addr.add_lit]
    exact At.cell (at_new w 5 [.int .u8 (b.toNat : Int)]) (i := 0 + j) (by rw [Nat.zero_add]; exact hu)
  · intro u hu
    obtain rfl := List.mem_singleton.1 hu
    rfl
  · intro v8 w8 o8 g8 _
    obtain ⟨a4, c4, rfl⟩ := row_len o8
    refine K a4 c4 w8 (by rw [cb_snoc]; exact o8) (fun W hU hW => up_grownBy (hU.trans HUx) g8 (fun g hg => Nat.le_trans hW (World.ownsRow.lt hR g hg).1)) (up_grown HUx g8)
set_option maxRecDepth 100000 in
set_option maxHeartbeats 1000000 in
/-- the law's own lower -/
theorem lowerL_walk (s : ByteArray) (w : World) (hs : s.size ≤ 1099511627776) : Calls Tryz.prog 90 #[.string s] w fun e w' => e = .returned (.string ⟨(lws s.data.toList).toArray⟩) ∧ Up w w' := by
  have HS := Hid.of (show s.size = s.data.toList.length from Go.Lib.size_eq s)
  go_enter Tryz.func90, Tryz.ntmps90
  go_wp2
  go_loopw [3, 4] (fun v3 v4 wr => ∃ i : Nat, v4 = .int .i64 (i : Int) ∧ i ≤ s.size ∧ ∃ a3 c3, v3 = .slice a3 i c3 ∧ Hid (wr.ownsRow w.heap.size 5 1 (.slice a3 i c3) i (cb (lws (s.data.toList.take i))) ∧ Up w wr)) (fun _ v4 _ => s.size - (intOf v4).toNat)
  case atStart => exact ⟨0, rfl, Nat.zero_le _, none, 0, rfl, Hid.of ⟨World.ownsRow_nil _ _ _ _, Up.refl _⟩⟩
  case round =>
    obtain ⟨i, rfl, hi, a3, c3, rfl, hQ⟩ := hrel
    have HQ := Hid.of hQ.out
    clear hQ
    by_cases hil : i < s.size
    · have hilz : (i : Int) < (s.size : Int) := by omega
      have hg := sget' s i hil
      have HT := Hid.of (lws_take (l := s.data.toList) (i := i) (by rw [← HS.out]; exact hil))
      generalize s.data.toList[i]'(by rw [← HS.out]; exact hil) = x at *
      have hx := x.toNat_lt
      by_cases h1 : 65 ≤ x.toNat
      · have z1 : (65 : Int) ≤ (x.toNat : Int) := by omega
        by_cases h2 : x.toNat ≤ 90
        · have z2 : (x.toNat : Int) ≤ 90 := by omega
          have HL := Hid.of (lw_yes h1 h2)
          go_wp2_with (with_reducible show wpList _ _ _ ({ dst := _, op := Op.call { callee := Callee.builtin Builtin.append, args := _, argTypes := _ }, type := _, pos := _, after := _, guard := _ } :: _) _ _; refine Shut.out ?_)
          show wpList _ _ _ _ _ _
          rw [show (x.toNat : Int) + 32 = ((lw x).toNat : Int) by rw [HL.out]; omega]
          refine wpList_app1 (N := w.heap.size) rfl _ _ rfl a3 c3 (lws (s.data.toList.take i)) (lw x) rfl rfl HQ.out.1 HQ.out.2.size (by omega) ?_
          intro a4 c4 w4 o4 u4 _
          have HO4 := Hid.of (And.intro (show w4.ownsRow w.heap.size 5 1 (.slice a4 (i + 1) c4) (i + 1) (cb (lws (s.data.toList.take (i + 1)))) by rw [HT.out]; exact o4) (u4 w HQ.out.2 (Nat.le_refl _)))
          clear o4 u4
          simp only [Act.put, List.setIfInBounds_toArray, List.set_cons_zero, List.set_cons_succ]
          go_wp2
          go_roundw
          all_goals first
            | exact ⟨i + 1, by go_num, by omega, a4, c4, rfl, HO4⟩
            | (simp [intOf]; omega)
        · have z2 : ¬ (x.toNat : Int) ≤ 90 := by omega
          have HL := Hid.of (show lw x = x from lw_no (by omega))
          go_wp2_with (with_reducible show wpList _ _ _ ({ dst := _, op := Op.call { callee := Callee.builtin Builtin.append, args := _, argTypes := _ }, type := _, pos := _, after := _, guard := _ } :: _) _ _; refine Shut.out ?_)
          show wpList _ _ _ _ _ _
          refine wpList_app1 (N := w.heap.size) rfl _ _ rfl a3 c3 (lws (s.data.toList.take i)) x rfl rfl HQ.out.1 HQ.out.2.size (by omega) ?_
          intro a4 c4 w4 o4 u4 _
          have HO4 := Hid.of (And.intro (show w4.ownsRow w.heap.size 5 1 (.slice a4 (i + 1) c4) (i + 1) (cb (lws (s.data.toList.take (i + 1)))) by rw [HT.out]; rw [HL.out]; exact o4) (u4 w HQ.out.2 (Nat.le_refl _)))
          clear o4 u4
          simp only [Act.put, List.setIfInBounds_toArray, List.set_cons_zero, List.set_cons_succ]
          go_wp2
          go_roundw
          all_goals first
            | exact ⟨i + 1, by go_num, by omega, a4, c4, rfl, HO4⟩
            | (simp [intOf]; omega)
      · have z1 : ¬ (65 : Int) ≤ (x.toNat : Int) := by omega
        have HL := Hid.of (show lw x = x from lw_no (by omega))
        go_wp2_with (with_reducible show wpList _ _ _ ({ dst := _, op := Op.call { callee := Callee.builtin Builtin.append, args := _, argTypes := _ }, type := _, pos := _, after := _, guard := _ } :: _) _ _; refine Shut.out ?_)
        show wpList _ _ _ _ _ _
        refine wpList_app1 (N := w.heap.size) rfl _ _ rfl a3 c3 (lws (s.data.toList.take i)) x rfl rfl HQ.out.1 HQ.out.2.size (by omega) ?_
        intro a4 c4 w4 o4 u4 _
        have HO4 := Hid.of (And.intro (show w4.ownsRow w.heap.size 5 1 (.slice a4 (i + 1) c4) (i + 1) (cb (lws (s.data.toList.take (i + 1)))) by rw [HT.out]; rw [HL.out]; exact o4) (u4 w HQ.out.2 (Nat.le_refl _)))
        clear o4 u4
        simp only [Act.put, List.setIfInBounds_toArray, List.set_cons_zero, List.set_cons_succ]
        go_wp2
        go_roundw
        all_goals first
          | exact ⟨i + 1, by go_num, by omega, a4, c4, rfl, HO4⟩
          | (simp [intOf]; omega)
    · have hilz : ¬ (i : Int) < (s.size : Int) := by omega
      have HT := Hid.of (show s.data.toList.take i = s.data.toList from List.take_of_length_le (by rw [← HS.out]; omega))
      have hil2 : (lws (s.data.toList.take i)).length = i := by rw [lws_len, HT.out, ← HS.out]; omega
      have hSb : Sb wr (.slice a3 i c3) (lws (s.data.toList.take i)) := Ow.sb (B := w.heap.size) (by unfold Ow; rw [hil2]; exact HQ.out.1)
      have hcv := conv_sb2 hSb
      rw [HT.out] at hcv
      clear hSb hil2
      go_wp2
      go_ret
      exact ⟨rfl, HQ.out.2⟩
/-- the law's fields -/
def mkF (ns vs : List ByteArray) : List FD := ns.zipIdx.map fun p => ⟨p.1, vat vs p.2⟩
theorem mkF_len (ns vs : List ByteArray) : (mkF ns vs).length = ns.length := by simp [mkF]
theorem mkF_get {ns vs : List ByteArray} {i : Nat} (h : i < ns.length) (h' : i < (mkF ns vs).length) : (mkF ns vs)[i] = ⟨ns[i], vat vs i⟩ := by
  simp [mkF]
end Go.Proofs.YtabpgpbcnadgcaaGreatDoor
namespace Go.Proofs.YtabpgpbcnadgcaaGreatDoor
open Go.RowKit Go.Shelf TextNum
set_option maxRecDepth 100000 in
set_option maxHeartbeats 1000000 in
theorem RheadBytes_walk (a : Option Addr) (fs : List FD) (c : Nat) (w : World) (h : FdL w a fs c) (hl : szs fs ≤ 1099511627776) :
    Calls Tryz.prog 45 #[.slice a fs.length c] w fun e w' => e = .returned (.int .i64 ((szs fs : Nat) : Int)) ∧ Up w w' := by
  have HF := Hid.of h
  have hcap := h.cap
  have hsl := szs_len fs
  have HT := Hid.of (fun i => szs_take fs i)
  clear h
  obtain ⟨z, hz⟩ : ∃ z, szs fs = z := ⟨_, rfl⟩
  have HZ := Hid.of hz
  rw [hz] at hl hsl HT ⊢
  clear hz
  go_enter Tryz.func45, Tryz.ntmps45
  go_wp2
  go_loopw [3, 4] (fun v3 v4 wr => ∃ i k : Nat, v4 = .int .i64 (i : Int) ∧ v3 = .int .i64 (k : Int) ∧ i ≤ fs.length ∧ k ≤ z ∧ Hid (Up w wr ∧ szs (fs.take i) = k)) (fun _ v4 _ => fs.length - (intOf v4).toNat)
  case atStart => exact ⟨0, 2, rfl, rfl, Nat.zero_le _, by omega, Hid.of ⟨Up.refl _, rfl⟩⟩
  case round =>
    obtain ⟨i, k, rfl, rfl, hi, hkz, hU⟩ := hrel
    have HU := Hid.of hU.out
    clear hU
    by_cases hil : i < fs.length
    · have hilz : (i : Int) < (fs.length : Int) := by omega
      obtain ⟨b, off, rfl, k1, k2⟩ := HF.out.cells i hil
      have hT := List.take_succ_eq_append_getElem hil
      obtain ⟨f, hf⟩ : ∃ f, fs[i] = f := ⟨_, rfl⟩
      rw [hf] at k1 k2 hT
      have HK1 := Hid.of k1
      have HK2 := Hid.of k2
      have h5 := HT.out (i + 1)
      rw [hT, szs_snoc, HU.out.2] at h5
      have HS2 := Hid.of (show szs (fs.take (i + 1)) = k + szf f by rw [hT, szs_snoc, HU.out.2])
      have HZf := Hid.of (show szf f = f.n.size + f.v.size + 4 from rfl)
      have h6 : k + f.n.size + f.v.size + 4 ≤ z := by have := HZf.out; omega
      clear hf k1 k2 hT
      go_wp2
      refine wp_region_held_drew (S := fun w2 => Up w w2) (by kernel_rfl) HU.out.1.drew (fun hS => ?_)
      refine wpAnyH_take (i := 0) (oi := { dst := some 11, op := Go.Op.move (Go.Operand.tmp 3), type := 3, pos := "print.go:141", after := #[], guard := none }) (v := .int .i64 (k : Int)) rfl (by kernel_rfl) (by kernel_rfl) (by kernel_rfl) (fun _ _ _ h => h) (Or.inl ⟨by kernel_rfl, ?_⟩) hS ?_
      · intro w5 hSw
        clear hSw hS
        go_simp
      simp only [Act.put, List.setIfInBounds_toArray, List.set_cons_zero, List.set_cons_succ]
      refine wpAnyH_take (i := 1) (oi := { dst := some 12, op := Go.Op.move (Go.Operand.tmp 0), type := 54, pos := "print.go:141", after := #[], guard := none }) (v := .slice (some ⟨b, off, none⟩) fs.length c) rfl (by kernel_rfl) (by kernel_rfl) (by kernel_rfl) (fun _ _ _ h => h) (Or.inl ⟨by kernel_rfl, ?_⟩) hS ?_
      · intro w5 hSw
        clear hSw hS
        go_simp
      simp only [Act.put, List.setIfInBounds_toArray, List.set_cons_zero, List.set_cons_succ]
      refine wpAnyH_take (i := 2) (oi := { dst := some 13, op := Go.Op.move (Go.Operand.tmp 4), type := 3, pos := "print.go:141", after := #[], guard := none }) (v := .int .i64 (i : Int)) rfl (by kernel_rfl) (by kernel_rfl) (by kernel_rfl) (fun _ _ _ h => h) (Or.inl ⟨by kernel_rfl, ?_⟩) hS ?_
      · intro w5 hSw
        clear hSw hS
        go_simp
      simp only [Act.put, List.setIfInBounds_toArray, List.set_cons_zero, List.set_cons_succ]
      refine wpAnyH_take (i := 3) (oi := { dst := some 14, op := Go.Op.indexAddr 54 (Go.Operand.tmp 12) (Go.Operand.tmp 13), type := 0, pos := "print.go:141", after := #[{ on := 1, ground := Go.Ground.data }, { on := 2, ground := Go.Ground.data }], guard := none }) (v := .pointer (some ⟨b, off + i * 2, none⟩)) rfl (by kernel_rfl) (by kernel_rfl) (by kernel_rfl) (fun _ _ _ h => h) (Or.inl ⟨by kernel_rfl, ?_⟩) hS ?_
      · intro w5 hSw
        clear hSw hS
        exact exec_idxRf i hil rfl rfl rfl
      simp only [Act.put, List.setIfInBounds_toArray, List.set_cons_zero, List.set_cons_succ]
      refine wpAnyH_take (i := 4) (oi := { dst := some 15, op := Go.Op.fieldAddr 102 (Go.Operand.tmp 14) 0, type := 0, pos := "print.go:141", after := #[{ on := 3, ground := Go.Ground.data }], guard := none }) (v := .pointer (some ⟨b, off + i * 2, none⟩)) rfl (by kernel_rfl) (by kernel_rfl) (by kernel_rfl) (fun _ _ _ h => h) (Or.inl ⟨by kernel_rfl, ?_⟩) hS ?_
      · intro w5 hSw
        clear hSw hS
        go_simp
      simp only [Act.put, List.setIfInBounds_toArray, List.set_cons_zero, List.set_cons_succ]
      refine wpAnyH_take (i := 5) (oi := { dst := some 16, op := Go.Op.load 9 (Go.Operand.tmp 15), type := 9, pos := "print.go:141", after := #[{ on := 4, ground := Go.Ground.data }], guard := none }) (v := .string f.n) rfl (by kernel_rfl) (by kernel_rfl) (by kernel_rfl) (fun _ _ _ h => h) (Or.inl ⟨by kernel_rfl, ?_⟩) hS ?_
      · intro w5 hSw
        have h0 := hSw.cell HK1.out
        clear hSw hS
        go_simp
      simp only [Act.put, List.setIfInBounds_toArray, List.set_cons_zero, List.set_cons_succ]
      refine wpAnyH_take (i := 6) (oi := { dst := some 17, op := Go.Op.call { callee := Go.Callee.builtin Go.Builtin.len, args := #[Go.Operand.tmp 16], argTypes := #[9] }, type := 3, pos := "print.go:141", after := #[{ on := 5, ground := Go.Ground.data }], guard := none }) (v := .int .i64 (f.n.size : Int)) rfl (by kernel_rfl) (by kernel_rfl) (by kernel_rfl) (fun _ _ _ h => h) (Or.inl ⟨by kernel_rfl, ?_⟩) hS ?_
      · intro w5 hSw
        clear hSw hS
        go_simp
      simp only [Act.put, List.setIfInBounds_toArray, List.set_cons_zero, List.set_cons_succ]
      refine wpAnyH_take (i := 7) (oi := { dst := some 18, op := Go.Op.binOp Go.BinOp.add 3 (Go.Operand.tmp 11) (Go.Operand.tmp 17) 3, type := 3, pos := "print.go:141", after := #[{ on := 0, ground := Go.Ground.data }, { on := 6, ground := Go.Ground.data }], guard := none }) (v := .int .i64 ((k : Int) + (f.n.size : Int))) rfl (by kernel_rfl) (by kernel_rfl) (by kernel_rfl) (fun _ _ _ h => h) (Or.inl ⟨by kernel_rfl, ?_⟩) hS ?_
      · intro w5 hSw
        clear hSw hS
        go_simp
        rw [IntKind.wrap_i64]
        omega
      simp only [Act.put, List.setIfInBounds_toArray, List.set_cons_zero, List.set_cons_succ]
      refine wpAnyH_take (i := 8) (oi := { dst := some 19, op := Go.Op.move (Go.Operand.tmp 0), type := 54, pos := "print.go:141", after := #[], guard := none }) (v := .slice (some ⟨b, off, none⟩) fs.length c) rfl (by kernel_rfl) (by kernel_rfl) (by kernel_rfl) (fun _ _ _ h => h) (Or.inl ⟨by kernel_rfl, ?_⟩) hS ?_
      · intro w5 hSw
        clear hSw hS
        go_simp
      simp only [Act.put, List.setIfInBounds_toArray, List.set_cons_zero, List.set_cons_succ]
      refine wpAnyH_take (i := 9) (oi := { dst := some 20, op := Go.Op.move (Go.Operand.tmp 4), type := 3, pos := "print.go:141", after := #[], guard := none }) (v := .int .i64 (i : Int)) rfl (by kernel_rfl) (by kernel_rfl) (by kernel_rfl) (fun _ _ _ h => h) (Or.inl ⟨by kernel_rfl, ?_⟩) hS ?_
      · intro w5 hSw
        clear hSw hS
        go_simp
      simp only [Act.put, List.setIfInBounds_toArray, List.set_cons_zero, List.set_cons_succ]
      refine wpAnyH_take (i := 10) (oi := { dst := some 21, op := Go.Op.indexAddr 54 (Go.Operand.tmp 19) (Go.Operand.tmp 20), type := 0, pos := "print.go:141", after := #[{ on := 8, ground := Go.Ground.data }, { on := 9, ground := Go.Ground.data }], guard := none }) (v := .pointer (some ⟨b, off + i * 2, none⟩)) rfl (by kernel_rfl) (by kernel_rfl) (by kernel_rfl) (fun _ _ _ h => h) (Or.inl ⟨by kernel_rfl, ?_⟩) hS ?_
      · intro w5 hSw
        clear hSw hS
        exact exec_idxRf i hil rfl rfl rfl
      simp only [Act.put, List.setIfInBounds_toArray, List.set_cons_zero, List.set_cons_succ]
      refine wpAnyH_take (i := 11) (oi := { dst := some 22, op := Go.Op.fieldAddr 102 (Go.Operand.tmp 21) 1, type := 0, pos := "print.go:141", after := #[{ on := 10, ground := Go.Ground.data }], guard := none }) (v := .pointer (some ⟨b, off + i * 2 + 1, none⟩)) rfl (by kernel_rfl) (by kernel_rfl) (by kernel_rfl) (fun _ _ _ h => h) (Or.inl ⟨by kernel_rfl, ?_⟩) hS ?_
      · intro w5 hSw
        clear hSw hS
        go_simp
      simp only [Act.put, List.setIfInBounds_toArray, List.set_cons_zero, List.set_cons_succ]
      refine wpAnyH_take (i := 12) (oi := { dst := some 23, op := Go.Op.load 9 (Go.Operand.tmp 22), type := 9, pos := "print.go:141", after := #[{ on := 11, ground := Go.Ground.data }], guard := none }) (v := .string f.v) rfl (by kernel_rfl) (by kernel_rfl) (by kernel_rfl) (fun _ _ _ h => h) (Or.inl ⟨by kernel_rfl, ?_⟩) hS ?_
      · intro w5 hSw
        have h0 := hSw.cell HK2.out
        clear hSw hS
        go_simp
      simp only [Act.put, List.setIfInBounds_toArray, List.set_cons_zero, List.set_cons_succ]
      refine wpAnyH_take (i := 13) (oi := { dst := some 24, op := Go.Op.call { callee := Go.Callee.builtin Go.Builtin.len, args := #[Go.Operand.tmp 23], argTypes := #[9] }, type := 3, pos := "print.go:141", after := #[{ on := 12, ground := Go.Ground.data }], guard := none }) (v := .int .i64 (f.v.size : Int)) rfl (by kernel_rfl) (by kernel_rfl) (by kernel_rfl) (fun _ _ _ h => h) (Or.inl ⟨by kernel_rfl, ?_⟩) hS ?_
      · intro w5 hSw
        clear hSw hS
        go_simp
      simp only [Act.put, List.setIfInBounds_toArray, List.set_cons_zero, List.set_cons_succ]
      refine wpAnyH_take (i := 14) (oi := { dst := some 25, op := Go.Op.binOp Go.BinOp.add 3 (Go.Operand.tmp 18) (Go.Operand.tmp 24) 3, type := 3, pos := "print.go:141", after := #[{ on := 7, ground := Go.Ground.data }, { on := 13, ground := Go.Ground.data }], guard := none }) (v := .int .i64 ((k : Int) + (f.n.size : Int) + (f.v.size : Int))) rfl (by kernel_rfl) (by kernel_rfl) (by kernel_rfl) (fun _ _ _ h => h) (Or.inl ⟨by kernel_rfl, ?_⟩) hS ?_
      · intro w5 hSw
        clear hSw hS
        go_simp
        rw [IntKind.wrap_i64]
        omega
      simp only [Act.put, List.setIfInBounds_toArray, List.set_cons_zero, List.set_cons_succ]
      refine wpAnyH_take (i := 15) (oi := { dst := some 26, op := Go.Op.binOp Go.BinOp.add 3 (Go.Operand.tmp 25) (Go.Operand.const (Go.Value.int Go.IntKind.i64 4)) 3, type := 3, pos := "print.go:141", after := #[{ on := 14, ground := Go.Ground.data }], guard := none }) (v := .int .i64 ((k + szf f : Nat) : Int)) rfl (by kernel_rfl) (by kernel_rfl) (by kernel_rfl) (fun _ _ _ h => h) (Or.inl ⟨by kernel_rfl, ?_⟩) hS ?_
      · intro w5 hSw
        clear hSw hS
        have hzf := HZf.out
        go_simp
        rw [IntKind.wrap_i64]
        all_goals omega
      simp only [Act.put, List.setIfInBounds_toArray, List.set_cons_zero, List.set_cons_succ]
      refine wpAnyH_take (i := 16) (oi := { dst := some 3, op := Go.Op.assign (Go.Operand.tmp 26), type := 3, pos := "print.go:141", after := #[{ on := 15, ground := Go.Ground.data }, { on := 0, ground := Go.Ground.phase }, { on := 1, ground := Go.Ground.phase }, { on := 2, ground := Go.Ground.phase }, { on := 3, ground := Go.Ground.phase }, { on := 4, ground := Go.Ground.phase }, { on := 5, ground := Go.Ground.phase }, { on := 6, ground := Go.Ground.phase }, { on := 7, ground := Go.Ground.phase }, { on := 8, ground := Go.Ground.phase }, { on := 9, ground := Go.Ground.phase }, { on := 10, ground := Go.Ground.phase }, { on := 11, ground := Go.Ground.phase }, { on := 12, ground := Go.Ground.phase }, { on := 13, ground := Go.Ground.phase }, { on := 14, ground := Go.Ground.phase }, { on := 15, ground := Go.Ground.phase }], guard := none }) (v := .int .i64 ((k + szf f : Nat) : Int)) rfl (by kernel_rfl) (by kernel_rfl) (by kernel_rfl) (fun _ _ _ h => h) (Or.inl ⟨by kernel_rfl, ?_⟩) hS ?_
      · intro w5 hSw
        clear hSw hS
        go_simp
      simp only [Act.put, List.setIfInBounds_toArray, List.set_cons_zero, List.set_cons_succ]
      clear hS
      refine wpAnyH_done (by kernel_rfl) ?_ _
      go_wp2
      go_roundw
      all_goals first
        | exact ⟨i + 1, k + szf f, by go_num, rfl, by omega, h5, Hid.of ⟨HU.out.1.drew, HS2.out⟩⟩
        | (simp [intOf]; omega)
    · have hilz : ¬ (i : Int) < (fs.length : Int) := by omega
      have HE := Hid.of (show k = z by rw [← HU.out.2, List.take_of_length_le (by omega)]; exact HZ.out)
      go_wp2
      go_ret
      rw [HE.out]
      exact ⟨rfl, HU.out.1⟩
def ckN : Option Nat → Int
  | none => 0
  | some k => nums k
set_option maxRecDepth 100000 in
set_option maxHeartbeats 1000000 in
theorem Rchecked_walk (a : Option Addr) (fs : List FD) (c : Nat) (w : World) (h : FdL w a fs c) (hl : szs fs ≤ 1099511627776) :
    Calls Tryz.prog 49 #[.slice a fs.length c] w fun e w' => e = .returned (.int .i64 (ckN (ckf fs))) ∧ Up w w' := by
  have HF := Hid.of h
  have hcap := h.cap
  have hsl := szs_len fs
  have HM := Hid.of (fun (f : FD) (hf : f ∈ fs) => show f.n.size ≤ 1099511627776 ∧ f.v.size ≤ 1099511627776 from by have := szs_mem fs hf; omega)
  clear h
  obtain ⟨rv, hrv⟩ : ∃ rv, ckN (ckf fs) = rv := ⟨_, rfl⟩
  have HR := Hid.of hrv
  rw [hrv]
  clear hrv
  go_enter Tryz.func49, Tryz.ntmps49
  by_cases h64 : 64 < fs.length
  · have h64z : (64 : Int) < (fs.length : Int) := by omega
    have HE := Hid.of (show rv = 2 by rw [← HR.out]; unfold ckf; rw [if_pos h64]; rfl)
    go_wp2
    go_ret
    rw [HE.out]
    exact ⟨rfl, Up.refl _⟩
  · have h64z : ¬ (64 : Int) < (fs.length : Int) := by omega
    go_wp2
    go_loopw [3] (fun v3 wr => ∃ i : Nat, v3 = .int .i64 (i : Int) ∧ i ≤ fs.length ∧ Hid (Up w wr ∧ (fs.take i).all mbf = true)) (fun v3 _ => fs.length - (intOf v3).toNat)
    case atStart => exact ⟨0, rfl, Nat.zero_le _, Hid.of ⟨Up.refl _, rfl⟩⟩
    case round =>
      obtain ⟨i, rfl, hi, hU⟩ := hrel
      have HU := Hid.of hU.out
      clear hU
      by_cases hil : i < fs.length
      · have hilz : (i : Int) < (fs.length : Int) := by omega
        obtain ⟨b, off, rfl, k1, k2⟩ := HF.out.cells i hil
        have HT := Hid.of (show (fs.take (i + 1)).all mbf = ((fs.take i).all mbf && mbf fs[i]) by rw [List.take_succ_eq_append_getElem hil, List.all_append]; simp)
        have hmm := HM.out _ (List.getElem_mem hil)
        have HFl := Hid.of (show mbf fs[i] = false → rv = 143 from fun hb => by
          rw [← HR.out]
          unfold ckf
          have : fs.all mbf = false := List.all_eq_false.2 ⟨_, List.getElem_mem hil, by rw [hb]; simp⟩
          rw [if_neg h64, this]
          rfl)
        generalize fs[i] = f at *
        obtain ⟨hfn, hfv⟩ := hmm
        have HMb := Hid.of (show mbf f = (tok f.n.data.toList && vlu f.v.data.toList) from rfl)
        have HK1 := Hid.of k1
        have HK2 := Hid.of k2
        clear k1 k2
        have c1 := HU.out.1.cell HK1.out
        go_wp2_with (with_reducible show wpList _ _ _ ({ dst := _, op := Op.indexAddr 54 _ _, type := _, pos := _, after := _, guard := _ } :: _) _ _; refine Shut.out ?_)
        show wpList _ _ _ _ _ _
        refine wpList_val7 (.pointer (some ⟨b, off + i * 2, none⟩)) rfl (exec_idxRf i hil rfl rfl rfl) ?_
        simp only [Act.put, List.setIfInBounds_toArray, List.set_cons_zero, List.set_cons_succ]
        go_wp2_with fail
        refine (Rtoken_walk f.n hfn wr).mono ?_
        rintro e w2 ⟨rfl, h9⟩
        have HU2 := Hid.of (HU.out.1.trans h9)
        clear h9 c1
        dsimp only
        cases ht : tok f.n.data.toList with
        | false =>
          have HE := Hid.of (HFl.out (by rw [HMb.out, ht]; rfl))
          go_wp2
          go_ret
          rw [HE.out]
          exact ⟨rfl, HU2.out⟩
        | true =>
          have c2 := HU2.out.cell HK2.out
          go_wp2_with (with_reducible show wpList _ _ _ ({ dst := _, op := Op.indexAddr 54 _ _, type := _, pos := _, after := _, guard := _ } :: _) _ _; refine Shut.out ?_)
          show wpList _ _ _ _ _ _
          refine wpList_valG (.pointer (some ⟨b, off + i * 2, none⟩)) (by kernel_rfl) (exec_idxRf i hil rfl rfl rfl) ?_
          simp only [Act.put, List.setIfInBounds_toArray, List.set_cons_zero, List.set_cons_succ]
          go_wp2_with fail
          refine (Rvalued_walk f.v hfv w2).mono ?_
          rintro e w3 ⟨rfl, h9⟩
          have HU3 := Hid.of (HU2.out.trans h9)
          clear h9 c2
          dsimp only
          cases hv : vlu f.v.data.toList with
          | false =>
            have HE := Hid.of (HFl.out (by rw [HMb.out, ht, hv]; rfl))
            go_wp2
            go_ret
            rw [HE.out]
            exact ⟨rfl, HU3.out⟩
          | true =>
            have HY := Hid.of (show (fs.take (i + 1)).all mbf = true by rw [HT.out, HU.out.2, HMb.out, ht, hv]; rfl)
            go_wp2
            go_roundw
            all_goals first
              | exact ⟨i + 1, by go_num, by omega, Hid.of ⟨HU3.out, HY.out⟩⟩
              | (simp [intOf]; omega)
      · have hilz : ¬ (i : Int) < (fs.length : Int) := by omega
        have HE := Hid.of (show rv = 0 by
          have h1 := HU.out.2
          rw [List.take_of_length_le (by omega)] at h1
          rw [← HR.out]
          unfold ckf
          rw [if_neg h64, h1]
          rfl)
        go_wp2
        go_ret
        rw [HE.out]
        exact ⟨rfl, HU.out.1⟩
end Go.Proofs.YtabpgpbcnadgcaaGreatDoor
namespace Go.Proofs.YtabpgpbcnadgcaaGreatDoor
open Go.RowKit TextNum
/-- what the first loop keeps -/
def JF (M m : Nat) (back : List UInt8) : Prop := (back ≠ [] ∧ m = 0 ∧ Go.Lib.decDigits M = back.reverse) ∨ ((back = [] ∨ m ≠ 0) ∧ Go.Lib.decDigits M = Go.Lib.decDigits m ++ back.reverse)
theorem JF.step {M m : Nat} {back : List UInt8} (h : JF M m back) (hb : back = [] ∨ m ≠ 0) : JF M (m / 10) (back ++ [UInt8.ofNat (48 + m % 10)]) := by
  rcases h with ⟨h1, h2, _⟩ | ⟨_, h⟩
  · rcases hb with hb | hb
    · exact absurd hb h1
    · exact absurd h2 hb
  · by_cases hm : m < 10
    · refine .inl ⟨by simp, by omega, ?_⟩
      rw [h, Go.Lib.decDigits_one hm, Nat.mod_eq_of_lt hm]; simp
    · refine .inr ⟨.inr (by omega), ?_⟩
      rw [h, Go.Lib.decDigits, dif_neg hm]; simp
theorem JF.len {M m : Nat} {back : List UInt8} (h : JF M m back) : back.length ≤ (Go.Lib.decDigits M).length := by
  rcases h with ⟨_, _, h⟩ | ⟨_, h⟩ <;> rw [h] <;> simp
theorem JF.end' {M : Nat} {back : List UInt8} (h : JF M 0 back) (hb : back ≠ []) : Go.Lib.decDigits M = back.reverse := by
  rcases h with ⟨_, _, h⟩ | ⟨h1, _⟩
  · exact h
  · rcases h1 with h1 | h1
    · exact absurd h1 hb
    · exact absurd rfl h1
theorem dig_len {M : Nat} (h : M ≤ 9223372036854775808) : (Go.Lib.decDigits M).length ≤ 20 := by
  rcases Nat.lt_or_ge M 9223372036854775808 with h1 | h1
  · have := (itoa_len (M : Int) (by omega) (by omega)).1
    rw [itoa_nat] at this; exact this
  · obtain rfl : M = 9223372036854775808 := by omega
    have := (itoa_len (-9223372036854775808) (by omega) (by omega)).1
    simp [Go.Lib.itoa] at this; omega
theorem rev_take {l : List UInt8} {i : Nat} (h : i < l.length) : (l.drop (i + 1)).reverse ++ [l[i]] = (l.drop i).reverse := by
  rw [List.drop_eq_getElem_cons h, List.reverse_cons]

theorem dig_toNat' {d : Nat} (h : d < 10) : (UInt8.ofNat (48 + d)).toNat = 48 + d := by
  rw [UInt8.toNat_ofNat', Nat.mod_eq_of_lt (by omega)]
def lnV : Value → Nat
  | .slice _ n _ => n
  | _ => 0
set_option maxRecDepth 100000 in
set_option maxHeartbeats 2000000 in
theorem RFormatNumber_walk (n : Int) (h0 : -9223372036854775808 ≤ n) (h1 : n ≤ 9223372036854775807) (w : World) :
    Calls Tryz.prog 44 #[.int .i64 n] w fun e w' => e = .returned (vs (Go.Lib.itoa n)) ∧ Up w w' := by
  obtain ⟨M, hM⟩ : ∃ M : Nat, n.natAbs = M := ⟨_, rfl⟩
  have HE := Hid.of (show Go.Lib.itoa n = (if n < 0 then [45] else []) ++ Go.Lib.decDigits M by
    rcases Int.lt_or_le n 0 with h | h
    · rw [if_pos h]
      unfold Go.Lib.itoa
      rw [if_pos h, ← hM]
      rfl
    · rw [if_neg (by omega)]
      have e : n = (M : Int) := by omega
      rw [e, itoa_nat]
      rfl)
  have hMb : M ≤ 9223372036854775808 := by omega
  have HM := Hid.of hM
  clear hM
  go_enter Tryz.func44, Tryz.ntmps44
  obtain ⟨z0, hz0⟩ : ∃ z0 : Int, z0 = -(M : Int) := ⟨_, rfl⟩
  have hzb : -9223372036854775808 ≤ z0 ∧ z0 ≤ 0 := by omega
  have HZ0 := Hid.of hz0
  by_cases hn : 0 < n
  · have hng : -n = z0 := by have := HM.out; omega
    clear hz0
    go_wp2
    clear hng
    go_loopw [3, 4] (fun v3 v4 wr => ∃ (z : Int) (m q : Nat) (a4 : Option Addr) (c4 : Nat), v3 = .int .i64 z ∧ -9223372036854775808 ≤ z ∧ z ≤ 0 ∧ v4 = .slice a4 q c4 ∧ q ≤ 20 ∧ Hid (z = -(m : Int)) ∧ Hid (∃ back : List UInt8, back.length = q ∧ JF M m back ∧ wr.ownsRow w.heap.size 5 1 (.slice a4 q c4) q (cb back) ∧ Up w wr)) (fun v3 v4 _ => 2 * (intOf v3).natAbs + (1 - lnV v4))
    case atStart => exact ⟨z0, M, 0, none, 0, rfl, hzb.1, hzb.2, rfl, by omega, HZ0, Hid.of ⟨[], rfl, .inr ⟨.inl rfl, by simp⟩, World.ownsRow_nil _ _ _ _, Up.refl _⟩⟩
    case round =>
      obtain ⟨z, m, q, a4, c4, rfl, hz0, hz1, rfl, hq20, hzm, hI⟩ := hrel
      obtain ⟨back, hbl, hJ, hO, hU⟩ := hI.out
      have HBl := Hid.of hbl
      have HJ := Hid.of hJ
      have HO := Hid.of hO
      have HU := Hid.of hU
      clear hI hbl hJ hO hU
      by_cases hx : q = 0 ∨ m ≠ 0
      · have hd : m % 10 < 10 := Nat.mod_lt _ (by decide)
        have hr : z.tmod 10 = -((m % 10 : Nat) : Int) := by rw [hzm.out, Int.neg_tmod, Int.tmod_eq_emod_of_nonneg (by omega)]; rfl
        have hq : z.tdiv 10 = -((m / 10 : Nat) : Int) := by rw [hzm.out, Int.neg_tdiv, Int.tdiv_eq_ediv_of_nonneg (by omega)]; rfl
        have HS := Hid.of (HJ.out.step (by
          rcases hx with h | h
          · exact .inl (List.eq_nil_of_length_eq_zero (by rw [HBl.out]; exact h))
          · exact .inr h))
        have HS20 := Hid.of (show (back ++ [UInt8.ofNat (48 + m % 10)]).length ≤ 20 from Nat.le_trans HS.out.len (dig_len hMb))
        have HW := Hid.of (show (q = 0 → 2 * (m / 10) < 2 * m + 1) ∧ (q ≠ 0 → 2 * (m / 10) < 2 * m) from ⟨fun _ => by omega, fun hb => by
          rcases hx with h | h
          · exact absurd h hb
          · omega⟩)
        have HMZ := Hid.of (show z.natAbs = m by have := hzm.out; omega)
        have hzb2 : (m / 10 : Nat) ≤ 922337203685477580 := by have := hzm.out; omega
        obtain ⟨x, hxx⟩ : ∃ x : UInt8, x = UInt8.ofNat (48 + m % 10) := ⟨_, rfl⟩
        have hxn : 48 + ((m % 10 : Nat) : Int) = (x.toNat : Int) := by rw [hxx, dig_toNat' hd]; omega
        rw [← hxx] at HS HS20
        clear hxx
        have hxl : x.toNat < 256 := x.toNat_lt
        have hcond : ((q : Int) == 0) = true ∨ (((q : Int) == 0) = false ∧ (z != 0) = true) := by
          by_cases hb : q = 0
          · left; rw [hb]; rfl
          · right
            have hm := hx.resolve_left hb
            have := hzm.out
            refine ⟨?_, ?_⟩
            · simp; omega
            · simp; omega
        clear hx hzm HJ
        generalize m % 10 = d at *
        generalize m / 10 = m' at *
        have hq19 : q + 1 ≤ 20 := by have h := HS20.out; rw [List.length_append, HBl.out] at h; exact h
        rcases hcond with hc1 | ⟨hc1, hc2⟩
        ·
          go_wp2_with (with_reducible show wpList _ _ _ ({ dst := _, op := Op.call { callee := Callee.builtin Builtin.append, args := _, argTypes := _ }, type := _, pos := _, after := _, guard := _ } :: _) _ _; refine Shut.out ?_)
          show wpList _ _ _ _ _ _
          refine wpList_app1 (N := w.heap.size) rfl _ _ rfl a4 c4 back x rfl rfl HO.out HU.out.size (by omega) ?_
          intro a5 c5 w5 o5 u5 _
          have HO5 := Hid.of o5
          have HU5 := Hid.of (u5 w HU.out (Nat.le_refl _))
          have HL5 := Hid.of (show (back ++ [x]).length = q + 1 by rw [List.length_append, HBl.out]; rfl)
          clear o5 u5
          simp only [Act.put, List.setIfInBounds_toArray, List.set_cons_zero, List.set_cons_succ]
          go_wp2
          go_roundw
          case rel => exact ⟨-(m' : Int), m', q + 1, a5, c5, rfl, by omega, by omega, rfl, hq19, Hid.of rfl, Hid.of ⟨back ++ [x], HL5.out, HS.out, HO5.out, HU5.out⟩⟩
          case measure =>
            simp only [intOf, lnV, HMZ.out]
            by_cases hb : q = 0
            · have := HW.out.1 hb; omega
            · have := HW.out.2 hb; omega
        ·
          go_wp2_with (with_reducible show wpList _ _ _ ({ dst := _, op := Op.call { callee := Callee.builtin Builtin.append, args := _, argTypes := _ }, type := _, pos := _, after := _, guard := _ } :: _) _ _; refine Shut.out ?_)
          show wpList _ _ _ _ _ _
          refine wpList_app1 (N := w.heap.size) rfl _ _ rfl a4 c4 back x rfl rfl HO.out HU.out.size (by omega) ?_
          intro a5 c5 w5 o5 u5 _
          have HO5 := Hid.of o5
          have HU5 := Hid.of (u5 w HU.out (Nat.le_refl _))
          have HL5 := Hid.of (show (back ++ [x]).length = q + 1 by rw [List.length_append, HBl.out]; rfl)
          clear o5 u5
          simp only [Act.put, List.setIfInBounds_toArray, List.set_cons_zero, List.set_cons_succ]
          go_wp2
          go_roundw
          case rel => exact ⟨-(m' : Int), m', q + 1, a5, c5, rfl, by omega, by omega, rfl, hq19, Hid.of rfl, Hid.of ⟨back ++ [x], HL5.out, HS.out, HO5.out, HU5.out⟩⟩
          case measure =>
            simp only [intOf, lnV, HMZ.out]
            by_cases hb : q = 0
            · have := HW.out.1 hb; omega
            · have := HW.out.2 hb; omega
      · have hx1 : q ≠ 0 := fun h => hx (.inl h)
        have hx2 : m = 0 := by
          rcases Nat.eq_zero_or_pos m with h | h
          · exact h
          · exact absurd (Or.inr (by omega)) hx
        subst hx2
        obtain rfl : z = 0 := by have := hzm.out; omega
        have HD := Hid.of (HJ.out.end' (fun e => hx1 (by rw [← HBl.out, e]; rfl)))
        have hc1 : ((q : Int) == 0) = false := by simp; omega
        have HSb := Hid.of (Ow.sb (show Ow wr w.heap.size (.slice a4 q c4) back by unfold Ow; rw [HBl.out]; exact HO.out))
        clear hx hzm HJ HO
        obtain ⟨wb, hwb⟩ : ∃ wb, wb = wr := ⟨_, rfl⟩
        subst hwb
        obtain ⟨N2, hN2⟩ : ∃ N2, wb.heap.size = N2 := ⟨_, rfl⟩
        have HN2 := Hid.of hN2
        clear hN2
        have HPre := Hid.of (show Go.Lib.itoa n = [] ++ back.reverse by rw [HE.out, if_neg (by omega), HD.out])
        go_wp2
        go_loopw [5, 6] (fun v5 v6 wr => ∃ (j k : Nat) (a5 : Option Addr) (c5 : Nat), v6 = .int .i64 ((j : Int) - 1) ∧ j ≤ q ∧ v5 = .slice a5 k c5 ∧ k ≤ 1 + (q - j) ∧ Hid (wr.ownsRow N2 5 1 (.slice a5 k c5) k (cb (([] : List UInt8) ++ (back.drop j).reverse)) ∧ Up wb wr)) (fun _ v6 _ => (intOf v6 + 1).toNat)
        case atStart => exact ⟨q, 0, none, 0, rfl, Nat.le_refl _, rfl, by omega, Hid.of ⟨by rw [List.drop_of_length_le (by rw [HBl.out]; exact Nat.le_refl _)]; exact World.ownsRow_nil _ _ _ _, Up.refl _⟩⟩
        case round =>
          obtain ⟨j, k, a5, c5, rfl, hj, rfl, hk, hI⟩ := hrel
          have HO := Hid.of hI.out.1
          have HU2 := Hid.of hI.out.2
          clear hI
          by_cases hj0 : 0 < j
          · obtain ⟨i, rfl⟩ : ∃ i, j = i + 1 := ⟨j - 1, by omega⟩
            have hii : i < back.length := by rw [HBl.out]; omega
            have hjz : (0 : Int) ≤ ((i + 1 : Nat) : Int) - 1 := by omega
            have hjn : ((i + 1 : Nat) : Int) - 1 = (i : Int) := by omega
            obtain ⟨b7, o7, rfl, hc7⟩ := (HSb.out.up HU2.out).get hii
            have HRv := Hid.of (rev_take hii)
            generalize back[i]'hii = x at hc7 HRv
            rw [hjn]
            clear hjn hjz hii
            have hiz : (0 : Int) ≤ (i : Int) := by omega
            have hiq : (i : Int) < (q : Int) := by omega
            go_wp2_with (with_reducible show wpList _ _ _ ({ dst := _, op := Op.call { callee := Callee.builtin Builtin.append, args := _, argTypes := _ }, type := _, pos := _, after := _, guard := _ } :: _) _ _; refine Shut.out ?_)
            show wpList _ _ _ _ _ _
            refine wpList_app1 (N := N2) rfl _ _ rfl a5 c5 _ x rfl rfl HO.out (by rw [← HN2.out]; exact HU2.out.size) (by omega) ?_
            intro a6 c6 w6 o6 u6 _
            have HO6 := Hid.of (show w6.ownsRow N2 5 1 (.slice a6 (k + 1) c6) (k + 1) (cb (([] : List UInt8) ++ (back.drop i).reverse)) by rw [← HRv.out, ← List.append_assoc]; exact o6)
            have HU6 := Hid.of (u6 wb HU2.out (by rw [HN2.out]; exact Nat.le_refl _))
            clear o6 u6 hc7
            simp only [Act.put, List.setIfInBounds_toArray, List.set_cons_zero, List.set_cons_succ]
            go_wp2
            go_roundw
            all_goals first
              | exact ⟨i, k + 1, a6, c6, by go_num, by omega, rfl, by omega, Hid.of ⟨HO6.out, HU6.out⟩⟩
              | (simp [intOf]; omega)
              | (simp [intOf]; done)
          · have hj1 : j = 0 := by omega
            subst hj1
            have hjz : ¬ (0 : Int) ≤ ((0 : Nat) : Int) - 1 := by omega
            have HSe := Hid.of (show Sb wr (.slice a5 k c5) (Go.Lib.itoa n) from Ow.sb (B := N2) (by
              have h1 := HO.out
              rw [List.drop_zero, ← HPre.out] at h1
              unfold Ow
              have h2 := h1.1
              rw [cb_length, Nat.mul_one] at h2
              rw [h2]
              exact h1))
            have hcv := conv_sb2 HSe.out
            go_wp2
            go_ret
            exact ⟨rfl, HU.out.trans HU2.out⟩
  · obtain rfl : n = z0 := by have := HM.out; omega
    clear hz0
    go_wp2
    go_loopw [3, 4] (fun v3 v4 wr => ∃ (z : Int) (m q : Nat) (a4 : Option Addr) (c4 : Nat), v3 = .int .i64 z ∧ -9223372036854775808 ≤ z ∧ z ≤ 0 ∧ v4 = .slice a4 q c4 ∧ q ≤ 20 ∧ Hid (z = -(m : Int)) ∧ Hid (∃ back : List UInt8, back.length = q ∧ JF M m back ∧ wr.ownsRow w.heap.size 5 1 (.slice a4 q c4) q (cb back) ∧ Up w wr)) (fun v3 v4 _ => 2 * (intOf v3).natAbs + (1 - lnV v4))
    case atStart => exact ⟨n, M, 0, none, 0, rfl, hzb.1, hzb.2, rfl, by omega, HZ0, Hid.of ⟨[], rfl, .inr ⟨.inl rfl, by simp⟩, World.ownsRow_nil _ _ _ _, Up.refl _⟩⟩
    case round =>
      obtain ⟨z, m, q, a4, c4, rfl, hz0, hz1, rfl, hq20, hzm, hI⟩ := hrel
      obtain ⟨back, hbl, hJ, hO, hU⟩ := hI.out
      have HBl := Hid.of hbl
      have HJ := Hid.of hJ
      have HO := Hid.of hO
      have HU := Hid.of hU
      clear hI hbl hJ hO hU
      by_cases hx : q = 0 ∨ m ≠ 0
      · have hd : m % 10 < 10 := Nat.mod_lt _ (by decide)
        have hr : z.tmod 10 = -((m % 10 : Nat) : Int) := by rw [hzm.out, Int.neg_tmod, Int.tmod_eq_emod_of_nonneg (by omega)]; rfl
        have hq : z.tdiv 10 = -((m / 10 : Nat) : Int) := by rw [hzm.out, Int.neg_tdiv, Int.tdiv_eq_ediv_of_nonneg (by omega)]; rfl
        have HS := Hid.of (HJ.out.step (by
          rcases hx with h | h
          · exact .inl (List.eq_nil_of_length_eq_zero (by rw [HBl.out]; exact h))
          · exact .inr h))
        have HS20 := Hid.of (show (back ++ [UInt8.ofNat (48 + m % 10)]).length ≤ 20 from Nat.le_trans HS.out.len (dig_len hMb))
        have HW := Hid.of (show (q = 0 → 2 * (m / 10) < 2 * m + 1) ∧ (q ≠ 0 → 2 * (m / 10) < 2 * m) from ⟨fun _ => by omega, fun hb => by
          rcases hx with h | h
          · exact absurd h hb
          · omega⟩)
        have HMZ := Hid.of (show z.natAbs = m by have := hzm.out; omega)
        have hzb2 : (m / 10 : Nat) ≤ 922337203685477580 := by have := hzm.out; omega
        obtain ⟨x, hxx⟩ : ∃ x : UInt8, x = UInt8.ofNat (48 + m % 10) := ⟨_, rfl⟩
        have hxn : 48 + ((m % 10 : Nat) : Int) = (x.toNat : Int) := by rw [hxx, dig_toNat' hd]; omega
        rw [← hxx] at HS HS20
        clear hxx
        have hxl : x.toNat < 256 := x.toNat_lt
        have hcond : ((q : Int) == 0) = true ∨ (((q : Int) == 0) = false ∧ (z != 0) = true) := by
          by_cases hb : q = 0
          · left; rw [hb]; rfl
          · right
            have hm := hx.resolve_left hb
            have := hzm.out
            refine ⟨?_, ?_⟩
            · simp; omega
            · simp; omega
        clear hx hzm HJ
        generalize m % 10 = d at *
        generalize m / 10 = m' at *
        have hq19 : q + 1 ≤ 20 := by have h := HS20.out; rw [List.length_append, HBl.out] at h; exact h
        rcases hcond with hc1 | ⟨hc1, hc2⟩
        ·
          go_wp2_with (with_reducible show wpList _ _ _ ({ dst := _, op := Op.call { callee := Callee.builtin Builtin.append, args := _, argTypes := _ }, type := _, pos := _, after := _, guard := _ } :: _) _ _; refine Shut.out ?_)
          show wpList _ _ _ _ _ _
          refine wpList_app1 (N := w.heap.size) rfl _ _ rfl a4 c4 back x rfl rfl HO.out HU.out.size (by omega) ?_
          intro a5 c5 w5 o5 u5 _
          have HO5 := Hid.of o5
          have HU5 := Hid.of (u5 w HU.out (Nat.le_refl _))
          have HL5 := Hid.of (show (back ++ [x]).length = q + 1 by rw [List.length_append, HBl.out]; rfl)
          clear o5 u5
          simp only [Act.put, List.setIfInBounds_toArray, List.set_cons_zero, List.set_cons_succ]
          go_wp2
          go_roundw
          case rel => exact ⟨-(m' : Int), m', q + 1, a5, c5, rfl, by omega, by omega, rfl, hq19, Hid.of rfl, Hid.of ⟨back ++ [x], HL5.out, HS.out, HO5.out, HU5.out⟩⟩
          case measure =>
            simp only [intOf, lnV, HMZ.out]
            by_cases hb : q = 0
            · have := HW.out.1 hb; omega
            · have := HW.out.2 hb; omega
        ·
          go_wp2_with (with_reducible show wpList _ _ _ ({ dst := _, op := Op.call { callee := Callee.builtin Builtin.append, args := _, argTypes := _ }, type := _, pos := _, after := _, guard := _ } :: _) _ _; refine Shut.out ?_)
          show wpList _ _ _ _ _ _
          refine wpList_app1 (N := w.heap.size) rfl _ _ rfl a4 c4 back x rfl rfl HO.out HU.out.size (by omega) ?_
          intro a5 c5 w5 o5 u5 _
          have HO5 := Hid.of o5
          have HU5 := Hid.of (u5 w HU.out (Nat.le_refl _))
          have HL5 := Hid.of (show (back ++ [x]).length = q + 1 by rw [List.length_append, HBl.out]; rfl)
          clear o5 u5
          simp only [Act.put, List.setIfInBounds_toArray, List.set_cons_zero, List.set_cons_succ]
          go_wp2
          go_roundw
          case rel => exact ⟨-(m' : Int), m', q + 1, a5, c5, rfl, by omega, by omega, rfl, hq19, Hid.of rfl, Hid.of ⟨back ++ [x], HL5.out, HS.out, HO5.out, HU5.out⟩⟩
          case measure =>
            simp only [intOf, lnV, HMZ.out]
            by_cases hb : q = 0
            · have := HW.out.1 hb; omega
            · have := HW.out.2 hb; omega
      · have hx1 : q ≠ 0 := fun h => hx (.inl h)
        have hx2 : m = 0 := by
          rcases Nat.eq_zero_or_pos m with h | h
          · exact h
          · exact absurd (Or.inr (by omega)) hx
        subst hx2
        obtain rfl : z = 0 := by have := hzm.out; omega
        have HD := Hid.of (HJ.out.end' (fun e => hx1 (by rw [← HBl.out, e]; rfl)))
        have hc1 : ((q : Int) == 0) = false := by simp; omega
        have HSb := Hid.of (Ow.sb (show Ow wr w.heap.size (.slice a4 q c4) back by unfold Ow; rw [HBl.out]; exact HO.out))
        clear hx hzm HJ HO
        obtain ⟨wb, hwb⟩ : ∃ wb, wb = wr := ⟨_, rfl⟩
        subst hwb
        obtain ⟨N2, hN2⟩ : ∃ N2, wb.heap.size = N2 := ⟨_, rfl⟩
        have HN2 := Hid.of hN2
        clear hN2
        by_cases hneg : n < 0
        · have HPre := Hid.of (show Go.Lib.itoa n = [45] ++ back.reverse by rw [HE.out, if_pos hneg, HD.out])
          go_wp2_with (with_reducible show wpList _ _ _ ({ dst := _, op := Op.call { callee := Callee.builtin Builtin.append, args := _, argTypes := _ }, type := _, pos := _, after := _, guard := _ } :: _) _ _; refine Shut.out ?_)
          show wpList _ _ _ _ _ _
          refine wpList_app1 (w := wb) (N := N2) rfl _ _ rfl none 0 [] 45 rfl rfl (World.ownsRow_nil _ _ _ _) (by rw [HN2.out]; exact Nat.le_refl _) (by omega) ?_
          intro a9 c9 w9 o9 u9 _
          have HO9 := Hid.of (show w9.ownsRow N2 5 1 (.slice a9 1 c9) 1 (cb ([45] ++ ([] : List UInt8).reverse)) from o9)
          have HU9 := Hid.of (u9 wb (Up.refl _) (by rw [HN2.out]; exact Nat.le_refl _))
          clear o9 u9
          simp only [Act.put, List.setIfInBounds_toArray, List.set_cons_zero, List.set_cons_succ]
          go_wp2
          go_loopw [5, 6] (fun v5 v6 wr => ∃ (j k : Nat) (a5 : Option Addr) (c5 : Nat), v6 = .int .i64 ((j : Int) - 1) ∧ j ≤ q ∧ v5 = .slice a5 k c5 ∧ k ≤ 1 + (q - j) ∧ Hid (wr.ownsRow N2 5 1 (.slice a5 k c5) k (cb ([45] ++ (back.drop j).reverse)) ∧ Up wb wr)) (fun _ v6 _ => (intOf v6 + 1).toNat)
          case atStart => exact ⟨q, 1, a9, c9, rfl, Nat.le_refl _, rfl, by omega, Hid.of ⟨by rw [List.drop_of_length_le (by rw [HBl.out]; exact Nat.le_refl _)]; exact HO9.out, HU9.out⟩⟩
          case round =>
            obtain ⟨j, k, a5, c5, rfl, hj, rfl, hk, hI⟩ := hrel
            have HO := Hid.of hI.out.1
            have HU2 := Hid.of hI.out.2
            clear hI
            by_cases hj0 : 0 < j
            · obtain ⟨i, rfl⟩ : ∃ i, j = i + 1 := ⟨j - 1, by omega⟩
              have hii : i < back.length := by rw [HBl.out]; omega
              have hjz : (0 : Int) ≤ ((i + 1 : Nat) : Int) - 1 := by omega
              have hjn : ((i + 1 : Nat) : Int) - 1 = (i : Int) := by omega
              obtain ⟨b7, o7, rfl, hc7⟩ := (HSb.out.up HU2.out).get hii
              have HRv := Hid.of (rev_take hii)
              generalize back[i]'hii = x at hc7 HRv
              rw [hjn]
              clear hjn hjz hii
              have hiz : (0 : Int) ≤ (i : Int) := by omega
              have hiq : (i : Int) < (q : Int) := by omega
              go_wp2_with (with_reducible show wpList _ _ _ ({ dst := _, op := Op.call { callee := Callee.builtin Builtin.append, args := _, argTypes := _ }, type := _, pos := _, after := _, guard := _ } :: _) _ _; refine Shut.out ?_)
              show wpList _ _ _ _ _ _
              refine wpList_app1 (N := N2) rfl _ _ rfl a5 c5 _ x rfl rfl HO.out (by rw [← HN2.out]; exact HU2.out.size) (by omega) ?_
              intro a6 c6 w6 o6 u6 _
              have HO6 := Hid.of (show w6.ownsRow N2 5 1 (.slice a6 (k + 1) c6) (k + 1) (cb ([45] ++ (back.drop i).reverse)) by rw [← HRv.out, ← List.append_assoc]; exact o6)
              have HU6 := Hid.of (u6 wb HU2.out (by rw [HN2.out]; exact Nat.le_refl _))
              clear o6 u6 hc7
              simp only [Act.put, List.setIfInBounds_toArray, List.set_cons_zero, List.set_cons_succ]
              go_wp2
              go_roundw
              all_goals first
                | exact ⟨i, k + 1, a6, c6, by go_num, by omega, rfl, by omega, Hid.of ⟨HO6.out, HU6.out⟩⟩
                | (simp [intOf]; omega)
                | (simp [intOf]; done)
            · have hj1 : j = 0 := by omega
              subst hj1
              have hjz : ¬ (0 : Int) ≤ ((0 : Nat) : Int) - 1 := by omega
              have HSe := Hid.of (show Sb wr (.slice a5 k c5) (Go.Lib.itoa n) from Ow.sb (B := N2) (by
                have h1 := HO.out
                rw [List.drop_zero, ← HPre.out] at h1
                unfold Ow
                have h2 := h1.1
                rw [cb_length, Nat.mul_one] at h2
                rw [h2]
                exact h1))
              have hcv := conv_sb2 HSe.out
              go_wp2
              go_ret
              exact ⟨rfl, HU.out.trans HU2.out⟩
        · have HPre := Hid.of (show Go.Lib.itoa n = [] ++ back.reverse by rw [HE.out, if_neg hneg, HD.out])
          go_wp2
          go_loopw [5, 6] (fun v5 v6 wr => ∃ (j k : Nat) (a5 : Option Addr) (c5 : Nat), v6 = .int .i64 ((j : Int) - 1) ∧ j ≤ q ∧ v5 = .slice a5 k c5 ∧ k ≤ 1 + (q - j) ∧ Hid (wr.ownsRow N2 5 1 (.slice a5 k c5) k (cb (([] : List UInt8) ++ (back.drop j).reverse)) ∧ Up wb wr)) (fun _ v6 _ => (intOf v6 + 1).toNat)
          case atStart => exact ⟨q, 0, none, 0, rfl, Nat.le_refl _, rfl, by omega, Hid.of ⟨by rw [List.drop_of_length_le (by rw [HBl.out]; exact Nat.le_refl _)]; exact World.ownsRow_nil _ _ _ _, Up.refl _⟩⟩
          case round =>
            obtain ⟨j, k, a5, c5, rfl, hj, rfl, hk, hI⟩ := hrel
            have HO := Hid.of hI.out.1
            have HU2 := Hid.of hI.out.2
            clear hI
            by_cases hj0 : 0 < j
            · obtain ⟨i, rfl⟩ : ∃ i, j = i + 1 := ⟨j - 1, by omega⟩
              have hii : i < back.length := by rw [HBl.out]; omega
              have hjz : (0 : Int) ≤ ((i + 1 : Nat) : Int) - 1 := by omega
              have hjn : ((i + 1 : Nat) : Int) - 1 = (i : Int) := by omega
              obtain ⟨b7, o7, rfl, hc7⟩ := (HSb.out.up HU2.out).get hii
              have HRv := Hid.of (rev_take hii)
              generalize back[i]'hii = x at hc7 HRv
              rw [hjn]
              clear hjn hjz hii
              have hiz : (0 : Int) ≤ (i : Int) := by omega
              have hiq : (i : Int) < (q : Int) := by omega
              go_wp2_with (with_reducible show wpList _ _ _ ({ dst := _, op := Op.call { callee := Callee.builtin Builtin.append, args := _, argTypes := _ }, type := _, pos := _, after := _, guard := _ } :: _) _ _; refine Shut.out ?_)
              show wpList _ _ _ _ _ _
              refine wpList_app1 (N := N2) rfl _ _ rfl a5 c5 _ x rfl rfl HO.out (by rw [← HN2.out]; exact HU2.out.size) (by omega) ?_
              intro a6 c6 w6 o6 u6 _
              have HO6 := Hid.of (show w6.ownsRow N2 5 1 (.slice a6 (k + 1) c6) (k + 1) (cb (([] : List UInt8) ++ (back.drop i).reverse)) by rw [← HRv.out, ← List.append_assoc]; exact o6)
              have HU6 := Hid.of (u6 wb HU2.out (by rw [HN2.out]; exact Nat.le_refl _))
              clear o6 u6 hc7
              simp only [Act.put, List.setIfInBounds_toArray, List.set_cons_zero, List.set_cons_succ]
              go_wp2
              go_roundw
              all_goals first
                | exact ⟨i, k + 1, a6, c6, by go_num, by omega, rfl, by omega, Hid.of ⟨HO6.out, HU6.out⟩⟩
                | (simp [intOf]; omega)
                | (simp [intOf]; done)
            · have hj1 : j = 0 := by omega
              subst hj1
              have hjz : ¬ (0 : Int) ≤ ((0 : Nat) : Int) - 1 := by omega
              have HSe := Hid.of (show Sb wr (.slice a5 k c5) (Go.Lib.itoa n) from Ow.sb (B := N2) (by
                have h1 := HO.out
                rw [List.drop_zero, ← HPre.out] at h1
                unfold Ow
                have h2 := h1.1
                rw [cb_length, Nat.mul_one] at h2
                rw [h2]
                exact h1))
              have hcv := conv_sb2 HSe.out
              go_wp2
              go_ret
              exact ⟨rfl, HU.out.trans HU2.out⟩
end Go.Proofs.YtabpgpbcnadgcaaGreatDoor
namespace Go.Proofs.YtabpgpbcnadgcaaGreatDoor
open Go.RowKit Go.Shelf TextNum
theorem mtC_get {k : Nat} (h : k < 9) : mtC[k]? = some (.string (mtT.getD k ⟨#[]⟩)) := by
  unfold mtC
  rw [List.getElem?_map, List.getElem?_range h]
  rfl
set_option maxRecDepth 100000 in
set_option maxHeartbeats 1000000 in
theorem Rknown_walk (s : ByteArray) (w : World) (hG : w.rangeAt 0 0 mtC) : Calls Tryz.prog 48 #[.string s] w fun e w' => e = .returned (.bool (mtk s)) ∧ w' = w := by
  have HRn := Hid.of hG
  clear hG
  obtain ⟨rn, hrn⟩ : ∃ rn, mtk s = rn := ⟨_, rfl⟩
  have HN := Hid.of hrn
  rw [hrn]
  clear hrn
  go_enter Tryz.func48, Tryz.ntmps48
  go_wp2
  go_loopw [3] (fun v3 wr => ∃ i : Nat, v3 = .int .i64 (i : Int) ∧ i ≤ 9 ∧ Hid (wr = w ∧ ((mtT.take i).any fun m => s.toList == m.toList) = false)) (fun v3 _ => 9 - (intOf v3).toNat)
  case atStart => exact ⟨0, rfl, Nat.zero_le _, Hid.of ⟨rfl, rfl⟩⟩
  case round =>
    obtain ⟨i, rfl, hi, hU⟩ := hrel
    have HU := Hid.of hU.out
    clear hU
    by_cases hil : i < 9
    · have hiz : (i : Int) < 9 := by omega
      have hc : wr.cell? ⟨0, i, none⟩ = some (.string (mtT.getD i ⟨#[]⟩)) := by
        have h := HRn.out i _ (mtC_get hil)
        rw [Nat.zero_add] at h
        rw [HU.out.1]
        exact h
      have HX := Hid.of (show ((mtT.take (i + 1)).any fun m => s.toList == m.toList) = (s.toList == (mtT.getD i ⟨#[]⟩).toList) by
        rw [mtT_take hil, List.any_append, HU.out.2]
        simp)
      have HMm := Hid.of (mtT_mem hil)
      generalize mtT.getD i ⟨#[]⟩ = m at *
      cases hm : (m.toList == s.toList) with
      | true =>
        have HE := Hid.of (show rn = true by
          rw [← HN.out]
          unfold mtk
          rw [List.any_eq_true]
          exact ⟨m, HMm.out, by rw [beq_iff_eq] at hm ⊢; exact hm.symm⟩)
        go_wp2
        go_ret
        rw [HE.out]
        exact ⟨rfl, HU.out.1⟩
      | false =>
        have HY := Hid.of (show ((mtT.take (i + 1)).any fun m => s.toList == m.toList) = false by
          rw [HX.out, beq_eq_false_iff_ne]
          rw [beq_eq_false_iff_ne] at hm
          exact fun e => hm e.symm)
        go_wp2
        go_roundw
        all_goals first
          | exact ⟨i + 1, by go_num, by omega, Hid.of ⟨HU.out.1, HY.out⟩⟩
          | (simp [intOf]; omega)
    · have hiz : ¬ (i : Int) < 9 := by omega
      have HE := Hid.of (show rn = false by
        have h1 := HU.out.2
        rw [List.take_of_length_le (by show 9 ≤ i; omega)] at h1
        rw [← HN.out]
        exact h1)
      go_wp2
      go_ret
      rw [HE.out]
      exact ⟨rfl, HU.out.1⟩
/-- the reference's tables of statuses and words -/
def rsI : List Value := (List.range 24).map fun k => .int .i64 ((rsT.getD k (0, ⟨#[]⟩)).1)
def rsS : List Value := (List.range 24).map fun k => .string ((rsT.getD k (0, ⟨#[]⟩)).2)
theorem rsI_get {k : Nat} (h : k < 24) : rsI[k]? = some (.int .i64 ((rsT.getD k (0, ⟨#[]⟩)).1)) := by
  unfold rsI
  rw [List.getElem?_map, List.getElem?_range h]
  rfl
theorem rsS_get {k : Nat} (h : k < 24) : rsS[k]? = some (.string ((rsT.getD k (0, ⟨#[]⟩)).2)) := by
  unfold rsS
  rw [List.getElem?_map, List.getElem?_range h]
  rfl
set_option maxRecDepth 100000 in
set_option maxHeartbeats 1000000 in
theorem RReason_walk (st : Int) (h0 : -9223372036854775808 ≤ st) (h1 : st ≤ 9223372036854775807) (w : World) (hI : w.rangeAt 9 0 rsI) (hS : w.rangeAt 10 0 rsS) :
    Calls Tryz.prog 65 #[.int .i64 st] w fun e w' => e = .returned (vs (rsn st)) ∧ Up w w' := by
  have HI := Hid.of hI
  have HS := Hid.of hS
  clear hI hS
  obtain ⟨rn, hrn⟩ : ∃ rn, rsn st = rn := ⟨_, rfl⟩
  have HN := Hid.of hrn
  rw [hrn]
  clear hrn
  have hil20 := itoa_len st h0 h1
  go_enter Tryz.func65, Tryz.ntmps65
  go_wp2
  go_loopw [3] (fun v3 wr => ∃ i : Nat, v3 = .int .i64 (i : Int) ∧ i ≤ 24 ∧ Hid (wr = w ∧ (rsT.take i).find? (fun p => p.1 == st) = none)) (fun v3 _ => 24 - (intOf v3).toNat)
  case atStart => exact ⟨0, rfl, Nat.zero_le _, Hid.of ⟨rfl, rfl⟩⟩
  case round =>
    obtain ⟨i, rfl, hi, hU⟩ := hrel
    have HU := Hid.of hU.out
    clear hU
    by_cases hil : i < 24
    · have hiz : (i : Int) < 24 := by omega
      have hc : wr.cell? ⟨9, i, none⟩ = some (.int .i64 ((rsT.getD i (0, ⟨#[]⟩)).1)) := by
        have h := HI.out i _ (rsI_get hil)
        rw [Nat.zero_add] at h
        rw [HU.out.1]
        exact h
      have hd : wr.cell? ⟨10, i, none⟩ = some (.string ((rsT.getD i (0, ⟨#[]⟩)).2)) := by
        have h := HS.out i _ (rsS_get hil)
        rw [Nat.zero_add] at h
        rw [HU.out.1]
        exact h
      have HT := Hid.of (rsT_take hil)
      have HSp := Hid.of (rsT_split hil)
      generalize rsT.getD i (0, ⟨#[]⟩) = p at *
      cases hp : (p.1 == st) with
      | true =>
        have HE := Hid.of (show rn = p.2.data.toList by
          rw [← HN.out]
          unfold rsn
          rw [HSp.out, List.find?_append, HU.out.2, List.find?_cons, hp]
          rfl)
        go_wp2
        go_ret
        rw [HE.out, vs_data']
        exact ⟨rfl, by rw [HU.out.1]; exact Up.refl _⟩
      | false =>
        have HY := Hid.of (show (rsT.take (i + 1)).find? (fun p => p.1 == st) = none by
          rw [HT.out, List.find?_append, HU.out.2, List.find?_cons, hp]
          rfl)
        go_wp2
        go_roundw
        all_goals first
          | exact ⟨i + 1, by go_num, by omega, Hid.of ⟨HU.out.1, HY.out⟩⟩
          | (simp [intOf]; omega)
    · have hiz : ¬ (i : Int) < 24 := by omega
      have HE := Hid.of (show rn = [83, 116, 97, 116, 117, 115, 32] ++ Go.Lib.itoa st by
        have h1 := HU.out.2
        rw [List.take_of_length_le (by show 24 ≤ i; omega)] at h1
        rw [← HN.out]
        unfold rsn
        rw [h1])
      go_wp2_with fail
      refine (RFormatNumber_walk st h0 h1 wr).mono ?_
      rintro e w2 ⟨rfl, h9⟩
      have HU2 := Hid.of (show Up w w2 by rw [← HU.out.1]; exact h9)
      clear h9
      rw [show vs (Go.Lib.itoa st) = .string ⟨(Go.Lib.itoa st).toArray⟩ from rfl]
      have hsz : (⟨(Go.Lib.itoa st).toArray⟩ : ByteArray).size = (Go.Lib.itoa st).length := by simp [ByteArray.size]
      have hl1 : ¬ 9223372036854775807 < 7 + (Go.Lib.itoa st).length := by omega
      dsimp only
      go_wp2
      go_ret
      refine ⟨?_, HU2.out⟩
      rw [HE.out]
      congr 1
end Go.Proofs.YtabpgpbcnadgcaaGreatDoor
namespace Go.Proofs.YtabpgpbcnadgcaaGreatDoor
open Go.RowKit Go.Shelf TextNum
/-- texts in memory of one's own -/
abbrev StO (w : World) (N : Nat) (a : Option Addr) (ss : List ByteArray) (c : Nat) : Prop := w.ownsRow N 9 1 (.slice a ss.length c) ss.length (ss.map Value.string)
theorem StO.stl {w : World} {N : Nat} {a : Option Addr} {ss : List ByteArray} {c : Nat} (h : StO w N a ss c) : StL w a ss c := by
  refine ⟨?_, fun i hi => ?_⟩
  · rcases h.2 with ⟨_, h0⟩ | ⟨g, cap, cur, e, _, _, hc, _⟩
    · omega
    · injection e with _ _ e3
      omega
  · rcases h.2 with ⟨_, h0⟩ | ⟨g, cap, cur, e, _, _, hc, _⟩
    · omega
    · injection e with e1 _ e3
      subst e1 e3
      have hc := World.ownsRow.cells h rfl
      have h1 := hc i (.string ss[i]) (by rw [List.getElem?_map, List.getElem?_eq_getElem hi]; rfl)
      rw [Addr.add_lit] at h1
      exact ⟨g, 0, rfl, h1⟩
theorem Tryz.infoSt : (Tryz.prog.info? 9).map (fun i => (i.zero, i.size, i.bytes)) = some (some (.string ⟨#[]⟩), 1, 16) := by kernel_rfl
theorem wpList_appSt {w : World} {N q : Nat} {ops : Array Oper} {rest : List Oper} {o : Oper} {a : Act} {Q : Exit → Act → World → Prop} (hgd : o.guard = none) (x y : Operand)
    (ho : o.op = .call { callee := .builtin .append, args := #[x, y], argTypes := #[25, 25] }) (ax : Option Addr) (cx : Nat) (fs : List ByteArray) (f : ByteArray) (hq : fs.length = q) (hx : a.eval x = .slice ax q cx) (hy : a.eval y = .slice (some ⟨w.heap.size, 0, none⟩) 1 1)
    (hR : StO w N ax fs cx) (hNw : N ≤ w.heap.size) (hql : q ≤ 1099511627776)
    (K : ∀ ax2 cx2 w', StO w' N ax2 (fs ++ [f]) cx2 → (∀ W, Up W w → W.heap.size ≤ N → Up W w') → wpList Tryz.prog ops Q rest (a.put o.dst (.slice ax2 (q + 1) cx2)) w') :
    wpList Tryz.prog ops Q (o :: rest) a (w.alloc (.cells #[.string f] 9)) := by
  subst hq
  obtain ⟨i1, hi1, hz0, hz1, hz2⟩ := info_parts Tryz.infoSt
  have HUx := (Up.refl w).alloc (.cells #[.string f] 9)
  have hnu := ow_up hR HUx
  refine wpList_append_own _ hgd x y 25 ho N 9 i1 (.string ⟨#[]⟩) 1 16 Tryz.underlying25 hi1 hz0 hz1 hz2 rfl (by omega) (.slice ax fs.length cx) fs.length _ hx hnu ⟨w.heap.size, 0, none⟩ 1 1 [.string f] hy rfl ?_ ?_ (by simp only [maxLen]; omega) (by omega) (Nat.le_trans hNw HUx.size) ?_
  · intro j u hu
    rw [Addr.add_lit]
    exact At.cell (at_new w 9 [.string f]) (i := 0 + j) (by rw [Nat.zero_add]; exact hu)
  · intro u hu
    obtain rfl := List.mem_singleton.1 hu
    rfl
  intro v8 w8 o8 g8 _
  obtain ⟨ax2, cx2, rfl⟩ : ∃ ax2 cx2, v8 = .slice ax2 (fs.length + 1) cx2 := by
    rcases o8.2 with ⟨_, h0⟩ | ⟨g, cap, cur, e1, _⟩
    · omega
    · exact ⟨_, cap, e1⟩
  refine K ax2 cx2 w8 ?_ (fun W hU hW => up_grownBy (hU.trans HUx) g8 (fun k hk => Nat.le_trans hW (World.ownsRow.lt hR k hk).1))
  show w8.ownsRow N 9 1 (.slice ax2 (fs ++ [f]).length cx2) (fs ++ [f]).length ((fs ++ [f]).map Value.string)
  rw [List.length_append, List.map_append]
  exact o8
/-- the values of the fields of a name -/
def alv (fs : List FD) (nm : ByteArray) : List ByteArray := (fs.filter fun f => lws f.n.data.toList == nm.data.toList).map (·.v)
theorem alv_yes {fs : List FD} {f : FD} {nm : ByteArray} (h : (lws f.n.data.toList == nm.data.toList) = true) : alv (fs ++ [f]) nm = alv fs nm ++ [f.v] := by simp [alv, List.filter_append, h]
theorem alv_no {fs : List FD} {f : FD} {nm : ByteArray} (h : (lws f.n.data.toList == nm.data.toList) = false) : alv (fs ++ [f]) nm = alv fs nm := by simp [alv, List.filter_append, h]
set_option maxRecDepth 100000 in
set_option maxHeartbeats 2000000 in
theorem Rall_walk (a : Option Addr) (fs : List FD) (c : Nat) (nm : ByteArray) (w : World) (h : FdL w a fs c) (hl : szs fs ≤ 1099511627776) :
    Calls Tryz.prog 96 #[.slice a fs.length c, .string nm] w fun e w' => (∃ a2 c2, e = .returned (.slice a2 (alv fs nm).length c2) ∧ Hid (StO w' w.heap.size a2 (alv fs nm) c2)) ∧ Up w w' := by
  have HF := Hid.of h
  have hcap := h.cap
  have hsl := szs_len fs
  have HM := Hid.of (fun (f : FD) (hf : f ∈ fs) => show f.n.size ≤ 1099511627776 from by have := szs_mem fs hf; omega)
  clear h
  go_enter Tryz.func96, Tryz.ntmps96
  go_wp2
  go_loopw [5, 6] (fun v5 v6 wr => ∃ i : Nat, v6 = .int .i64 (i : Int) ∧ i ≤ fs.length ∧ ∃ q a7 c7, v5 = .slice a7 q c7 ∧ q ≤ i ∧ Hid (StO wr w.heap.size a7 (alv (fs.take i) nm) c7 ∧ Up w wr ∧ (alv (fs.take i) nm).length = q)) (fun _ v6 _ => fs.length - (intOf v6).toNat)
  case atStart => exact ⟨0, rfl, Nat.zero_le _, 0, none, 0, rfl, Nat.le_refl _, Hid.of ⟨World.ownsRow_nil _ _ _ _, Up.refl _, rfl⟩⟩
  case round =>
    obtain ⟨i, rfl, hi, q, a7, c7, rfl, hqi, hU⟩ := hrel
    have HQ := Hid.of hU.out
    clear hU
    by_cases hil : i < fs.length
    · have hilz : (i : Int) < (fs.length : Int) := by omega
      obtain ⟨b, off, rfl, k1, k2⟩ := HF.out.cells i hil
      have HT := Hid.of (List.take_succ_eq_append_getElem hil)
      have hfn := HM.out _ (List.getElem_mem hil)
      obtain ⟨f, hf⟩ : ∃ f, fs[i] = f := ⟨_, rfl⟩
      rw [hf] at k1 k2 HT hfn
      have HK2 := Hid.of k2
      have HLn := Hid.of HQ.out.2.2
      have k3 := HQ.out.2.1.cell k1
      clear hf k1 k2
      go_wp2_with (with_reducible show wpList _ _ _ ({ dst := _, op := Op.indexAddr 54 _ _, type := _, pos := _, after := _, guard := _ } :: _) _ _; refine Shut.out ?_)
      show wpList _ _ _ _ _ _
      refine wpList_val7 (.pointer (some ⟨b, off + i * 2, none⟩)) rfl (exec_idxRf i hil rfl rfl rfl) ?_
      simp only [Act.put, List.setIfInBounds_toArray, List.set_cons_zero, List.set_cons_succ]
      go_wp2_with fail
      refine (lowerL_walk f.n wr hfn).mono ?_
      rintro e w4 ⟨rfl, u5⟩
      have HU4 := Hid.of (HQ.out.2.1.trans u5)
      have HO4 := Hid.of (ow_up HQ.out.1 u5)
      clear u5 HQ k3
      have HNm0 : (⟨(lws f.n.data.toList).toArray⟩ : ByteArray).data.toList = lws f.n.data.toList := rfl
      generalize (⟨(lws f.n.data.toList).toArray⟩ : ByteArray) = nw at HNm0 ⊢
      have HNm := Hid.of HNm0
      clear HNm0
      dsimp only
      cases h3 : (nw.toList == nm.toList) with
      | true =>
        have HB := Hid.of (show (lws f.n.data.toList == nm.data.toList) = true by rw [← HNm.out, ← Go.Lib.toList_data, ← Go.Lib.toList_data]; exact h3)
        have HA := Hid.of (show alv (fs.take (i + 1)) nm = alv (fs.take i) nm ++ [f.v] by rw [HT.out, alv_yes HB.out])
        have c2 := HU4.out.cell HK2.out
        go_wp2_with (with_reducible show wpList _ _ _ ({ dst := _, op := Op.indexAddr 54 _ _, type := _, pos := _, after := _, guard := _ } :: _) _ _; refine Shut.out ?_)
        show wpList _ _ _ _ _ _
        refine wpList_val7 (.pointer (some ⟨b, off + i * 2, none⟩)) rfl (exec_idxRf i hil rfl rfl rfl) ?_
        simp only [Act.put, List.setIfInBounds_toArray, List.set_cons_zero, List.set_cons_succ]
        go_wp2_with (with_reducible show wpList _ _ _ ({ dst := _, op := Op.call { callee := Callee.builtin Builtin.append, args := _, argTypes := _ }, type := _, pos := _, after := _, guard := _ } :: _) _ _; refine Shut.out ?_)
        show wpList _ _ _ _ _ _
        refine wpList_appSt (w := w4) (N := w.heap.size) rfl _ _ rfl a7 c7 _ f.v HLn.out rfl rfl HO4.out HU4.out.size (by omega) ?_
        intro ax2 cx2 w7 o7 u7
        have HO7 := Hid.of (show StO w7 w.heap.size ax2 (alv (fs.take (i + 1)) nm) cx2 by rw [HA.out]; exact o7)
        have HU7 := Hid.of (u7 w HU4.out (Nat.le_refl _))
        have HL7 := Hid.of (show (alv (fs.take (i + 1)) nm).length = q + 1 by rw [HA.out, List.length_append, HLn.out]; rfl)
        clear o7 u7 c2
        simp only [Act.put, List.setIfInBounds_toArray, List.set_cons_zero, List.set_cons_succ]
        go_wp2
        go_roundw
        all_goals first
          | exact ⟨i + 1, by go_num, by omega, q + 1, ax2, cx2, rfl, by omega, Hid.of ⟨HO7.out, HU7.out, HL7.out⟩⟩
          | (simp [intOf]; omega)
      | false =>
        have HB := Hid.of (show (lws f.n.data.toList == nm.data.toList) = false by rw [← HNm.out, ← Go.Lib.toList_data, ← Go.Lib.toList_data]; exact h3)
        have HA := Hid.of (show alv (fs.take (i + 1)) nm = alv (fs.take i) nm by rw [HT.out, alv_no HB.out])
        have HO7 := Hid.of (show StO w4 w.heap.size a7 (alv (fs.take (i + 1)) nm) c7 by rw [HA.out]; exact HO4.out)
        have HL7 := Hid.of (show (alv (fs.take (i + 1)) nm).length = q by rw [HA.out]; exact HLn.out)
        go_wp2
        go_roundw
        all_goals first
          | exact ⟨i + 1, by go_num, by omega, q, a7, c7, rfl, by omega, Hid.of ⟨HO7.out, HU4.out, HL7.out⟩⟩
          | (simp [intOf]; omega)
    · have hilz : ¬ (i : Int) < (fs.length : Int) := by omega
      have HO8 := Hid.of (show StO wr w.heap.size a7 (alv fs nm) c7 by
        have h1 := HQ.out.1
        rw [List.take_of_length_le (by omega)] at h1
        exact h1)
      have HL8 := Hid.of (show (alv fs nm).length = q by
        have h1 := HQ.out.2.2
        rw [List.take_of_length_le (by omega)] at h1
        exact h1)
      have HU8 := Hid.of HQ.out.2.1
      clear HQ
      go_wp2
      go_ret
      exact ⟨⟨a7, c7, by rw [HL8.out]; rfl, HO8⟩, HU8.out⟩
end Go.Proofs.YtabpgpbcnadgcaaGreatDoor
namespace Go.Proofs.YtabpgpbcnadgcaaGreatDoor
open Go.RowKit Go.Shelf TextNum
def bts (ls : List (List UInt8)) : List ByteArray := ls.map fun x => ⟨x.toArray⟩
theorem bts_snoc (ls : List (List UInt8)) (x : List UInt8) : bts (ls ++ [x]) = bts ls ++ [⟨x.toArray⟩] := by simp [bts]
theorem bts_len (ls : List (List UInt8)) : (bts ls).length = ls.length := by simp [bts]
theorem mk_data (s : ByteArray) : (⟨s.data.toList.toArray⟩ : ByteArray) = s := by cases s; rfl
theorem extr_mk (s : ByteArray) (a b : Nat) : s.extract a b = ⟨((s.data.toList.drop a).take (b - a)).toArray⟩ := by rw [← extr_mid, mk_data]
theorem pcs_at {c : UInt8} {l : List UInt8} {k i : Nat} (hk : k ≤ i) (hi : i < l.length) (h : c ∉ (l.drop k).take (i - k)) (hc : l[i] = c) : pcs c (l.drop k) = (l.drop k).take (i - k) :: pcs c (l.drop (i + 1)) := by
  have e : l.drop k = (l.drop k).take (i - k) ++ c :: (l.drop (i + 1)) := by
    conv => lhs; rw [← List.take_append_drop (i - k) (l.drop k), List.drop_drop, show k + (i - k) = i by omega, List.drop_eq_getElem_cons hi, hc]
  conv => lhs; rw [e]
  rw [pcs_cut _ h]
set_option maxRecDepth 100000 in
set_option maxHeartbeats 2000000 in
theorem Rpieces_walk (s : ByteArray) (c : UInt8) (hs : s.size ≤ 1099511627000) (w : World) : Calls Tryz.prog 74 #[.string s, vb c] w fun e w' => (∃ a2 c2, e = .returned (.slice a2 (pcs c s.data.toList).length c2) ∧ Hid (StO w' w.heap.size a2 (bts (pcs c s.data.toList)) c2)) ∧ Up w w' := by
  obtain ⟨L, hL⟩ : ∃ L, s.data.toList = L := ⟨_, rfl⟩
  have HLL := Hid.of hL
  have HS := Hid.of (show s.size = L.length by rw [← hL]; exact Go.Lib.size_eq s)
  rw [hL]
  clear hL
  go_enter Tryz.func74, Tryz.ntmps74
  go_wp2
  go_loopw [5, 6, 7] (fun v5 v6 v7 wr => ∃ i k q : Nat, v7 = .int .i64 (i : Int) ∧ v6 = .int .i64 (k : Int) ∧ k ≤ i ∧ i ≤ s.size ∧ ∃ a7 c7, v5 = .slice a7 q c7 ∧ q ≤ i ∧ Hid (∃ d, StO wr w.heap.size a7 (bts d) c7 ∧ Up w wr ∧ d.length = q ∧ c ∉ (L.drop k).take (i - k) ∧ pcs c L = d ++ pcs c (L.drop k))) (fun _ _ v7 _ => s.size - (intOf v7).toNat)
  case atStart => exact ⟨0, 0, 0, rfl, rfl, Nat.le_refl _, Nat.zero_le _, none, 0, rfl, Nat.le_refl _, Hid.of ⟨[], World.ownsRow_nil _ _ _ _, Up.refl _, rfl, by simp, rfl⟩⟩
  case round =>
    obtain ⟨i, k, q, rfl, rfl, hki, his, a7, c7, rfl, hqi, hU⟩ := hrel
    obtain ⟨d, hO, hUp, hdl, hno, hpc⟩ := hU.out
    have HO := Hid.of hO
    have HU := Hid.of hUp
    have HD := Hid.of (show (bts d).length = q by rw [bts_len]; exact hdl)
    have HN := Hid.of hno
    have HP := Hid.of hpc
    clear hU hO hUp hdl hno hpc
    by_cases hil : i < s.size
    · have hilz : (i : Int) < (s.size : Int) := by omega
      have hg := sget' s i hil
      have hiL : i < L.length := by rw [← HS.out]; exact hil
      have hgx : s.data.toList[i]'(by rw [HLL.out]; exact hiL) = L[i] := by
        have h1 := HLL.out
        subst h1
        rfl
      rw [hgx] at hg
      clear hgx
      have HT := Hid.of (show (L.drop k).take (i + 1 - k) = (L.drop k).take (i - k) ++ [L[i]] by
        rw [show i + 1 - k = (i - k) + 1 by omega, List.take_succ_eq_append_getElem (by rw [List.length_drop]; omega), List.getElem_drop]
        simp only [show k + (i - k) = i by omega])
      by_cases hx : L[i] = c
      · have HC := Hid.of (pcs_at hki hiL HN.out hx)
        rw [hx] at hg
        clear HT hx
        have hb : (k : Int) ≤ (i : Int) := by omega
        go_wp2_with (with_reducible show wpList _ _ _ ({ dst := _, op := Op.call { callee := Callee.builtin Builtin.append, args := _, argTypes := _ }, type := _, pos := _, after := _, guard := _ } :: _) _ _; refine Shut.out ?_)
        show wpList _ _ _ _ _ _
        refine wpList_appSt (w := wr) (N := w.heap.size) rfl _ _ rfl a7 c7 _ (s.extract k i) HD.out rfl rfl HO.out HU.out.size (by omega) ?_
        intro ax2 cx2 w7 o7 u7
        have HO7 := Hid.of (show StO w7 w.heap.size ax2 (bts (d ++ [(L.drop k).take (i - k)])) cx2 by rw [bts_snoc, ← HLL.out, ← extr_mk]; exact o7)
        have HU7 := Hid.of (u7 w HU.out (Nat.le_refl _))
        have HL7 := Hid.of (show (d ++ [(L.drop k).take (i - k)]).length = q + 1 by rw [List.length_append, ← bts_len, HD.out]; rfl)
        have HP7 := Hid.of (show pcs c L = (d ++ [(L.drop k).take (i - k)]) ++ pcs c (L.drop (i + 1)) by rw [HP.out, HC.out, List.append_assoc]; rfl)
        clear o7 u7
        simp only [Act.put, List.setIfInBounds_toArray, List.set_cons_zero, List.set_cons_succ]
        go_wp2
        go_roundw
        all_goals first
          | exact ⟨i + 1, i + 1, q + 1, by go_num, by go_num, Nat.le_refl _, by omega, ax2, cx2, rfl, by omega, Hid.of ⟨_, HO7.out, HU7.out, HL7.out, by rw [Nat.sub_self]; simp, HP7.out⟩⟩
          | (simp [intOf]; omega)
      · have hxz : ((L[i].toNat : Int) == (c.toNat : Int)) = false := by
          rw [beq_eq_false_iff_ne]
          intro e
          exact hx (UInt8.toNat_inj.1 (by omega))
        have HN7 := Hid.of (show c ∉ (L.drop k).take (i + 1 - k) by
          rw [HT.out]
          intro hm
          rcases List.mem_append.1 hm with h | h
          · exact HN.out h
          · exact hx (List.mem_singleton.1 h).symm)
        clear HT
        generalize L[i] = x at *
        clear hx
        go_wp2
        go_roundw
        all_goals first
          | exact ⟨i + 1, k, q, by go_num, rfl, by omega, by omega, a7, c7, rfl, by omega, Hid.of ⟨d, HO.out, HU.out, by rw [← bts_len]; exact HD.out, HN7.out, HP.out⟩⟩
          | (simp [intOf]; omega)
    · have hilz : ¬ (i : Int) < (s.size : Int) := by omega
      have hb : (k : Int) ≤ (s.size : Int) := by omega
      have HC := Hid.of (show pcs c L = d ++ [L.drop k] by
        rw [HP.out]
        have h1 := HN.out
        rw [List.take_of_length_le (by rw [List.length_drop, ← HS.out]; omega)] at h1
        rw [pcs_no h1])
      go_wp2_with (with_reducible show wpList _ _ _ ({ dst := _, op := Op.call { callee := Callee.builtin Builtin.append, args := _, argTypes := _ }, type := _, pos := _, after := _, guard := _ } :: _) _ _; refine Shut.out ?_)
      show wpList _ _ _ _ _ _
      refine wpList_appSt (w := wr) (N := w.heap.size) rfl _ _ rfl a7 c7 _ (s.extract k s.size) HD.out rfl rfl HO.out HU.out.size (by omega) ?_
      intro ax2 cx2 w7 o7 u7
      have HO7 := Hid.of (show StO w7 w.heap.size ax2 (bts (pcs c L)) cx2 by
        rw [HC.out, bts_snoc]
        rw [extr_mk, HLL.out, List.take_of_length_le (by rw [List.length_drop, HS.out]; omega)] at o7
        exact o7)
      have HU7 := Hid.of (u7 w HU.out (Nat.le_refl _))
      have HL7 := Hid.of (show (pcs c L).length = q + 1 by rw [HC.out, List.length_append, ← bts_len, HD.out]; rfl)
      clear o7 u7
      simp only [Act.put, List.setIfInBounds_toArray, List.set_cons_zero, List.set_cons_succ]
      go_wp2
      go_ret
      exact ⟨⟨ax2, cx2, by rw [HL7.out]; rfl, HO7⟩, HU7.out⟩
end Go.Proofs.YtabpgpbcnadgcaaGreatDoor
namespace Go.Proofs.YtabpgpbcnadgcaaGreatDoor
open Go.RowKit Go.Shelf TextNum
/-- blanks and tabs may stand in a value -/
theorem all_dropWhile {p q : UInt8 → Bool} (h : ∀ x, q x = true → p x = true) : ∀ l : List UInt8, (l.dropWhile q).all p = l.all p
  | [] => rfl
  | x :: l => by
    rw [List.dropWhile_cons]
    split
    · rename_i hq
      rw [all_dropWhile h l, List.all_cons, h x hq, Bool.true_and]
    · rfl
theorem vlu_trm (l : List UInt8) : vlu (trm l) = vlu l := by
  have h : ∀ x : UInt8, bks.data.toList.contains x = true → vlc x = true := by
    intro x hx
    have : x = 32 ∨ x = 9 := by simpa [bks] using hx
    rcases this with rfl | rfl <;> decide
  unfold vlu trm Go.Lib.trimS Go.Lib.trimLeftS Go.Lib.trimRightS
  rw [all_dropWhile h, List.all_reverse, all_dropWhile h, List.all_reverse]
/-- one field line without its end -/
def okl (s : List UInt8) : Bool := (Go.Lib.cut s [58]).2.2 && (tok (c1 58 s) && vlu (c2 58 s))
def fll (s : List UInt8) : FD := ⟨⟨(c1 58 s).toArray⟩, ⟨(trm (c2 58 s)).toArray⟩⟩
theorem fok_okl (ln : List UInt8) : fok ln = okl (tcr ln) := by
  unfold fok okl
  rw [vlu_trm]
/-- the fields of field lines, by the definition -/
def rfd (ls : List (List UInt8)) : Er (List FD) := if 64 < ls.length then .error 1 else if ls.all okl = true then .ok (ls.map fll) else .error 5
theorem rdf_rfd {l : List UInt8} {ls : List (List UInt8)} (h1 : (linesOf l).map tcr = ls) (h2 : l.count 10 = ls.length) : rdf l = rfd ls := by
  unfold rdf rfd Go.Lib.countByte
  rw [h2]
  have e1 : (linesOf l).all fok = ls.all okl := by
    rw [← h1, List.all_map]
    congr 1
    funext x
    exact fok_okl x
  have e2 : (linesOf l).map fln = ls.map fll := by
    rw [← h1, List.map_map]
    rfl
  rw [e1, e2]
/-- rules 1 and 2: the first line, the field lines, where the body begins -/
def rHd (pl : Nat) (l : List UInt8) : Er (List UInt8 × List (List UInt8) × Nat) := match fnl l with
  | none => if l.length < 8002 then .error 2 else .error (12 + pl)
  | some i => if 8000 < (tcr (l.take i)).length then .error (12 + pl) else match rF (l.drop (i + 1)) with
    | none => if 16384 < (l.drop (i + 1)).length then .error 1 else .error 2
    | some (ls, _, a) => if 16384 < a then .error 1 else .ok (tcr (l.take i), ls, i + 1 + a)
theorem cHd_ref {α : Type} (pl : Nat) (l : List UInt8) (F : Nat → α) (G : List UInt8 → Er (List FD) → Nat → α) :
    (match cHd pl l with | .error k => F k | .ok (st, fl, k) => G st (rdf fl) k) = (match rHd pl l with | .error k => F k | .ok (st, ls, k) => G st (rfd ls) k) := by
  unfold cHd rHd
  rw [cutL_ref]
  cases hf : fnl l with
  | none =>
    dsimp only
    by_cases h : l.length < 8002
    · rw [if_pos h, if_pos (by omega)]; rfl
    · rw [if_neg h, if_neg (by omega)]; rfl
  | some i =>
    dsimp only
    by_cases h : 8000 < (tcr (l.take i)).length
    · rw [if_pos h, if_pos h]; rfl
    · rw [if_neg h, if_neg h]
      dsimp only
      rw [mF_ref]
      cases hr : rF (l.drop (i + 1)) with
      | none =>
        dsimp only
        by_cases h2 : 16384 < (l.drop (i + 1)).length
        · rw [if_pos h2, if_pos h2]
        · rw [if_neg h2, if_neg h2]
      | some q =>
        obtain ⟨ls, p, a⟩ := q
        dsimp only
        by_cases h2 : 16384 < a
        · rw [if_pos h2, if_pos h2]
        · rw [if_neg h2, if_neg h2]
          dsimp only
          have h3 := rfl'_lines _ _ _ _ _ hr
          rw [rdf_rfd h3.1 h3.2]
theorem vok_form {d : List UInt8} (h : vok d = true) : ∃ x y, isD x = true ∧ isD y = true ∧ d = [72, 84, 84, 80, 47, x, 46, y] := by
  unfold vok at h
  rw [Bool.and_eq_true] at h
  obtain ⟨h1, h2⟩ := h
  obtain ⟨t, rfl⟩ := List.isPrefixOf_iff_prefix.1 h1
  have e : (htp.data.toList ++ t).drop 5 = t := rfl
  rw [e] at h2
  unfold v3 at h2
  split at h2
  · rename_i a b c
    rw [Bool.and_eq_true, Bool.and_eq_true, beq_iff_eq] at h2
    obtain ⟨⟨h3, h4⟩, h5⟩ := h2
    subst h4
    exact ⟨a, c, h3, h5, rfl⟩
  · cases h2
theorem isD_nat {x : UInt8} (h : isD x = true) : 48 ≤ x.toNat ∧ x.toNat ≤ 57 := by simpa [isD] using h
theorem vok_32 {d : List UInt8} (h : vok d = true) : (32 : UInt8) ∉ d := by
  obtain ⟨x, y, hx, hy, rfl⟩ := vok_form h
  have h1 := isD_nat hx
  have h2 := isD_nat hy
  intro hm
  simp only [List.mem_cons, List.not_mem_nil, or_false] at hm
  rcases hm with e | e | e | e | e | e | e | e
  · cases e
  · cases e
  · cases e
  · cases e
  · cases e
  · subst e; revert h1; decide
  · cases e
  · subst e; revert h2; decide
/-- a version's two digits -/
def vrs (l : List UInt8) : Int × Int := if vok l = true then (((l.getD 5 0).toNat : Int) - 48, ((l.getD 7 0).toNat : Int) - 48) else (-1, -1)
theorem mno_vrs {d : List UInt8} (h : vok d = true) : mno ⟨d.toArray⟩ = if (vrs d).1 = 1 ∧ (vrs d).2 ≤ 1 then .ok (vrs d).2 else .error 4 := by
  unfold vrs
  rw [if_pos h]
  obtain ⟨x, y, hx, hy, rfl⟩ := vok_form h
  have h1 := isD_nat hx
  have h2 := isD_nat hy
  rw [show ([72, 84, 84, 80, 47, x, 46, y] : List UInt8).getD 5 0 = x from rfl, show ([72, 84, 84, 80, 47, x, 46, y] : List UInt8).getD 7 0 = y from rfl]
  dsimp only
  unfold mno
  rw [Go.Lib.toList_data, Go.Lib.toList_data, Go.Lib.toList_data]
  have e0 : (([72, 84, 84, 80, 47, x, 46, y] : List UInt8) == vt0.data.toList) = (x == 49 && y == 48) := by
    show (([72, 84, 84, 80, 47, x, 46, y] : List UInt8) == [72, 84, 84, 80, 47, 49, 46, 48]) = _
    simp
  have e1 : (([72, 84, 84, 80, 47, x, 46, y] : List UInt8) == vt1.data.toList) = (x == 49 && y == 49) := by
    show (([72, 84, 84, 80, 47, x, 46, y] : List UInt8) == [72, 84, 84, 80, 47, 49, 46, 49]) = _
    simp
  rw [show (⟨([72, 84, 84, 80, 47, x, 46, y] : List UInt8).toArray⟩ : ByteArray).data.toList = [72, 84, 84, 80, 47, x, 46, y] from rfl, e0, e1]
  have k49 : (49 : UInt8).toNat = 49 := rfl
  have k48 : (48 : UInt8).toNat = 48 := rfl
  by_cases hx1 : x = 49
  · subst hx1
    by_cases hy0 : y = 48
    · subst hy0
      rfl
    · by_cases hy1 : y = 49
      · subst hy1
        rfl
      · have n0 : y.toNat ≠ 48 := fun e => hy0 (UInt8.toNat_inj.1 (by omega))
        have n1 : y.toNat ≠ 49 := fun e => hy1 (UInt8.toNat_inj.1 (by omega))
        rw [if_neg (by simp [hy0]), if_neg (by simp [hy1]), if_neg (by omega)]
  · have n0 : x.toNat ≠ 49 := fun e => hx1 (UInt8.toNat_inj.1 (by omega))
    rw [if_neg (by simp [hx1]), if_neg (by simp [hx1]), if_neg (by omega)]
/-- a request's first line by its pieces -/
theorem rql_three {l a b d : List UInt8} (h : pcs 32 l = [a, b, d]) : rql l = if (tok a && (tgt b && vok d)) = false then .error 3 else if mtk ⟨a.toArray⟩ = false then .error 10 else if (vrs d).1 = 1 ∧ (vrs d).2 ≤ 1 then .ok (a, b, (vrs d).2) else .error 4 := by
  rcases cut_cases 32 l with ⟨hn, _⟩ | ⟨a', l', hn, rfl, hc⟩
  · rw [pcs_no hn] at h; cases h
  · rw [pcs_cut _ hn] at h
    injection h with h0 h
    subst h0
    rcases cut_cases 32 l' with ⟨hn', _⟩ | ⟨b', d', hn', rfl, hc'⟩
    · rw [pcs_no hn'] at h; cases h
    · rw [pcs_cut _ hn'] at h
      injection h with h0 h
      subst h0
      have hd : d' = d := by
        rcases cut_cases 32 d' with ⟨hn2, _⟩ | ⟨x, y, hn2, rfl, _⟩
        · rw [pcs_no hn2] at h
          injection h
        · rw [pcs_cut _ hn2] at h
          injection h with _ h
          exact absurd h (pcs_ne 32 y)
      subst hd
      have e1 : c1 32 (a' ++ 32 :: (b' ++ 32 :: d')) = a' := by unfold c1; rw [hc]
      have e2 : c2 32 (a' ++ 32 :: (b' ++ 32 :: d')) = b' ++ 32 :: d' := by unfold c2; rw [hc]
      have e3 : c1 32 (b' ++ 32 :: d') = b' := by unfold c1; rw [hc']
      have e4 : c2 32 (b' ++ 32 :: d') = d' := by unfold c2; rw [hc']
      unfold rql
      rw [e1, e2, e3, e4]
      by_cases hb : (tok a' && (tgt b' && vok d')) = false
      · rw [if_pos hb, if_pos hb]
      · rw [if_neg hb, if_neg hb]
        by_cases hm : mtk ⟨a'.toArray⟩ = false
        · rw [if_pos hm, if_pos hm]
        · rw [if_neg hm, if_neg hm, mno_vrs (by
            rw [Bool.not_eq_false, Bool.and_eq_true, Bool.and_eq_true] at hb
            exact hb.2.2)]
          by_cases hv : (vrs d').1 = 1 ∧ (vrs d').2 ≤ 1
          · rw [if_pos hv, if_pos hv]
          · rw [if_neg hv, if_neg hv]
theorem rql_other {l : List UInt8} (h : (pcs 32 l).length ≠ 3) : rql l = .error 3 := by
  unfold rql
  rw [if_pos]
  have hcn : Go.Lib.cut [] [(32 : UInt8)] = ([], [], false) := by
    rcases cut_cases 32 [] with ⟨_, h⟩ | ⟨a, b, _, h, _⟩
    · exact h
    · simp at h
  rcases cut_cases 32 l with ⟨hn, hc⟩ | ⟨a', l', hn, rfl, hc⟩
  · have e2 : c2 32 l = [] := by unfold c2; rw [hc]
    have e3 : c1 32 ([] : List UInt8) = [] := by unfold c1; rw [hcn]
    rw [e2, e3]
    simp [tgt]
  · rw [pcs_cut _ hn] at h
    have e2 : c2 32 (a' ++ 32 :: l') = l' := by unfold c2; rw [hc]
    rw [e2]
    rcases cut_cases 32 l' with ⟨hn', hc'⟩ | ⟨b', d', hn', rfl, hc'⟩
    · have e4 : c2 32 l' = [] := by unfold c2; rw [hc']
      rw [e4, show vok [] = false by decide]
      simp
    · rw [pcs_cut _ hn'] at h
      have e4 : c2 32 (b' ++ 32 :: d') = d' := by unfold c2; rw [hc']
      rw [e4]
      have hv : vok d' = false := by
        cases hv : vok d' with
        | false => rfl
        | true =>
          rw [pcs_no (vok_32 hv)] at h
          exact absurd rfl h
      rw [hv]
      simp
end Go.Proofs.YtabpgpbcnadgcaaGreatDoor
namespace Go.Proofs.YtabpgpbcnadgcaaGreatDoor
open Go.RowKit Go.Shelf TextNum
def hoN : ByteArray := ⟨#[104, 111, 115, 116]⟩
theorem ish_lws (f : FD) : ish f = (lws f.n.data.toList == hoN.data.toList) := by
  unfold ish kdf kdp
  generalize lws f.n.data.toList = x
  by_cases h1 : x = lws (kdT.getD 0 (⟨#[]⟩, 0)).1.data.toList
  · subst h1; decide +kernel
  · by_cases h2 : x = lws (kdT.getD 1 (⟨#[]⟩, 0)).1.data.toList
    · subst h2; decide +kernel
    · by_cases h3 : x = lws (kdT.getD 2 (⟨#[]⟩, 0)).1.data.toList
      · subst h3; decide +kernel
      · by_cases h4 : x = lws (kdT.getD 3 (⟨#[]⟩, 0)).1.data.toList
        · subst h4; decide +kernel
        · have e1 : lws (kdT.getD 0 (⟨#[]⟩, 0)).1.data.toList = hoN.data.toList := by decide +kernel
          have hf : kdT.find? (fun p => lws p.1.data.toList == x) = none := by
            rw [List.find?_eq_none]
            intro p hp
            rw [beq_iff_eq]
            intro e
            have hk : kdT = [kdT.getD 0 (⟨#[]⟩, 0), kdT.getD 1 (⟨#[]⟩, 0), kdT.getD 2 (⟨#[]⟩, 0), kdT.getD 3 (⟨#[]⟩, 0)] := rfl
            rw [hk] at hp
            simp only [List.mem_cons, List.not_mem_nil, or_false] at hp
            rcases hp with rfl | rfl | rfl | rfl
            · exact h1 e.symm
            · exact h2 e.symm
            · exact h3 e.symm
            · exact h4 e.symm
          rw [e1] at h1
          rw [hf]
          simp [h1]
theorem alv_ho (fs : List FD) : (alv fs hoN).length = fs.countP ish ∧ (alv fs hoN).all (fun v => hst v.data.toList) = fs.all okh := by
  induction fs with
  | nil => exact ⟨rfl, rfl⟩
  | cons f r ih =>
    have e : alv (f :: r) hoN = (if ish f = true then [f.v] else []) ++ alv r hoN := by
      unfold alv
      rw [List.filter_cons, ish_lws]
      split <;> simp_all
    rw [e, List.countP_cons, List.length_append, ih.1, List.all_append, ih.2, List.all_cons]
    unfold okh
    cases hf : ish f with
    | true => simp; omega
    | false => simp
theorem ckN_ho (fs : List FD) (mi : Int) : ckN (ckh fs mi) = if 1 < (alv fs hoN).length ∨ ((alv fs hoN).length = 0 ∧ mi = 1) then 144 else if (alv fs hoN).all (fun v => hst v.data.toList) = true then 0 else 144 := by
  obtain ⟨h1, h2⟩ := alv_ho fs
  rw [h1, h2]
  unfold ckh
  cases ha : fs.all okh with
  | false =>
    rw [if_pos rfl]
    split
    · rfl
    · rfl
  | true =>
    rw [if_neg (by simp)]
    split
    · rfl
    · rfl
theorem ca_any (ch : List UInt8) : ∀ l : List UInt8, Go.Lib.containsAny l ch = l.any ch.contains
  | [] => rfl
  | b :: l => by
    have ih := ca_any ch l
    unfold Go.Lib.containsAny at ih ⊢
    have hg := Go.Lib.indexAny_ge ch l
    rw [List.any_cons, ← ih, Go.Lib.indexAny]
    cases hb : ch.contains b with
    | true => simp
    | false =>
      rw [if_neg (by simp)]
      by_cases h : Go.Lib.indexAny l ch = -1
      · rw [h]; rfl
      · rw [if_neg (by simpa using h), decide_eq_true (show 0 ≤ Go.Lib.indexAny l ch + 1 by omega), decide_eq_true (show 0 ≤ Go.Lib.indexAny l ch by omega)]
        rfl
set_option maxRecDepth 100000 in
set_option maxHeartbeats 4000000 in
theorem Rhost_walk (a : Option Addr) (fs : List FD) (c : Nat) (mi : Int) (w : World) (h : FdL w a fs c) (hl : szs fs ≤ 1048576) :
    Calls Tryz.prog 50 #[.slice a fs.length c, .int .i64 mi] w fun e w' => e = .returned (.int .i64 (ckN (ckh fs mi))) ∧ Up w w' := by
  have HA := Hid.of (Rall_walk a fs c hoN w h (by omega))
  have HM := Hid.of (show ∀ v ∈ alv fs hoN, v.size ≤ 1048576 from fun v hv => by
    obtain ⟨f, hf, rfl⟩ := List.mem_map.1 hv
    have := szs_mem fs (List.mem_filter.1 hf).1
    omega)
  have hll : (alv fs hoN).length ≤ 1048576 := by
    have h1 := szs_len fs
    have h2 := List.countP_le_length (p := ish) (l := fs)
    rw [(alv_ho fs).1]
    omega
  obtain ⟨rv, hrv⟩ : ∃ rv, ckN (ckh fs mi) = rv := ⟨_, rfl⟩
  have HR := Hid.of (ckN_ho fs mi)
  rw [hrv] at HR ⊢
  clear hrv h
  obtain ⟨vs', hvs⟩ : ∃ vs', alv fs hoN = vs' := ⟨_, rfl⟩
  rw [hvs] at HA HM HR hll
  clear hvs
  obtain ⟨n, hn⟩ : ∃ n, vs'.length = n := ⟨_, rfl⟩
  have HN := Hid.of hn
  rw [hn] at HA HR hll
  clear hn
  go_enter Tryz.func50, Tryz.ntmps50
  go_wp2_with fail
  refine HA.out.mono ?_
  rintro e w2 ⟨⟨a2, c2, rfl, hO⟩, h9⟩
  have HU2 := Hid.of h9
  have HS := Hid.of hO.out.stl
  have hcap := hO.out.stl.cap
  rw [HN.out] at hcap
  clear hO h9 HA
  dsimp only
  by_cases h1 : 1 < n
  · have h1z : (1 : Int) < (n : Int) := by omega
    have HE := Hid.of (show rv = 144 by rw [HR.out, if_pos (.inl h1)])
    go_wp2
    go_ret
    rw [HE.out]
    exact ⟨rfl, HU2.out⟩
  · have h1z : ¬ (1 : Int) < (n : Int) := by omega
    by_cases h0 : n = 0 ∧ mi = 1
    · have z1 : ((n : Int) == 0) = true := by rw [h0.1]; rfl
      have z2 : (mi == 1) = true := by rw [h0.2]; rfl
      have HE := Hid.of (show rv = 144 by rw [HR.out, if_pos (.inr h0)])
      clear h0
      go_wp2
      go_ret
      rw [HE.out]
      exact ⟨rfl, HU2.out⟩
    · have HR2 := Hid.of (show rv = if vs'.all (fun v => hst v.data.toList) = true then 0 else 144 by rw [HR.out, if_neg (fun h => h.elim h1 h0)])
      have hcond : ((n : Int) == 0) = false ∨ (((n : Int) == 0) = true ∧ (mi == 1) = false) := by
        by_cases hz : n = 0
        · right
          refine ⟨by rw [hz]; rfl, ?_⟩
          rw [beq_eq_false_iff_ne]
          exact fun e => h0 ⟨hz, e⟩
        · left
          rw [beq_eq_false_iff_ne]
          omega
      clear h0 HR
      rcases hcond with z1 | ⟨z1, z2⟩
      all_goals
        go_wp2
        go_loopw [6] (fun v6 wr => ∃ i : Nat, v6 = .int .i64 (i : Int) ∧ i ≤ n ∧ Hid (Up w2 wr ∧ (vs'.take i).all (fun v => hst v.data.toList) = true)) (fun v6 _ => n - (intOf v6).toNat)
        case atStart => exact ⟨0, rfl, Nat.zero_le _, Hid.of ⟨Up.refl _, rfl⟩⟩
        case round =>
          obtain ⟨i, rfl, hi, hU⟩ := hrel
          have HU := Hid.of hU.out
          clear hU
          by_cases hil : i < n
          · have hilz : (i : Int) < (n : Int) := by omega
            have hil2 : i < vs'.length := by rw [HN.out]; exact hil
            obtain ⟨b, off, rfl, k1⟩ := HS.out.cells i hil2
            have HT := Hid.of (show (vs'.take (i + 1)).all (fun v => hst v.data.toList) = ((vs'.take i).all (fun v => hst v.data.toList) && hst vs'[i].data.toList) by rw [List.take_succ_eq_append_getElem hil2, List.all_append]; simp)
            have hvz := HM.out _ (List.getElem_mem hil2)
            have HFl := Hid.of (show hst vs'[i].data.toList = false → rv = 144 from fun hb => by
              rw [HR2.out]
              have : vs'.all (fun v => hst v.data.toList) = false := List.all_eq_false.2 ⟨_, List.getElem_mem hil2, by rw [hb]; simp⟩
              rw [this]
              rfl)
            generalize vs'[i] = v at *
            have HK := Hid.of k1
            clear k1
            have c1 := HU.out.1.cell HK.out
            cases hem : v.toList.isEmpty with
            | true =>
              have hv0 : v.size = 0 := by
                rw [Go.Lib.toList_data] at hem
                rw [Go.Lib.size_eq, List.isEmpty_iff.1 hem]
                rfl
              have HY := Hid.of (show (vs'.take (i + 1)).all (fun v => hst v.data.toList) = true by
                rw [HT.out, HU.out.2]
                unfold hst
                rw [Go.Lib.toList_data] at hem
                rw [hem]
                rfl)
              have hv0z : ¬ (0 : Int) < (v.size : Int) := by omega
              go_wp2
              go_loopw [7] (fun v7 wr2 => ∃ j : Nat, v7 = .int .i64 (j : Int) ∧ j = 0 ∧ Hid (Up w2 wr2)) (fun _ _ => 0)
              case atStart => exact ⟨0, rfl, rfl, Hid.of HU.out.1⟩
              case round =>
                obtain ⟨j, rfl, rfl, hU3⟩ := hrel
                have HU3 := Hid.of hU3.out
                clear hU3 c1
                have c1 := HU3.out.cell HK.out
                go_wp2
                go_roundw
                all_goals first
                  | exact ⟨i + 1, by go_num, by omega, Hid.of ⟨HU3.out, HY.out⟩⟩
                  | (simp [intOf]; omega)
            | false =>
              have HV := Hid.of (show ∀ w, Calls Tryz.prog 47 #[.string v] w fun e w' => e = .returned (.bool (tgt v.data.toList)) ∧ Up w w' from fun w => Rvisible_walk v (by omega) w)
              have HH := Hid.of (show hst v.data.toList = (tgt v.data.toList && !v.data.toList.any nih.data.toList.contains) by
                unfold hst
                rw [← ca_any, ← Go.Lib.toList_data, hem]
                rfl)
              generalize hgt : tgt v.data.toList = bt at *
              clear hgt
              go_wp2_with fail
              refine (HV.out _).mono ?_
              rintro e w3 ⟨rfl, h9⟩
              have HU3 := Hid.of (show Up w2 w3 ∧ ((List.take i vs').all fun v => hst v.data.toList) = true from ⟨HU.out.1.trans h9, HU.out.2⟩)
              clear h9 HV HU c1
              dsimp only
              cases bt with
              | false =>
                have HE := Hid.of (show rv = 144 from HFl.out (by rw [HH.out]; rfl))
                go_wp2
                go_ret
                rw [HE.out]
                exact ⟨rfl, HU2.out.trans HU3.out.1⟩
              | true =>
                have HC := Hid.of (show v.size = v.data.toList.length from Go.Lib.size_eq v)
                have HG := Hid.of (show ∀ w c, Calls Tryz.prog 94 #[.string nih, vb c] w fun e w' => e = .returned (.bool (nih.data.toList.contains c)) ∧ w' = w from fun w c => Ramong_walk nih c (by decide) w)
                go_wp2
                go_loopw [7] (fun v7 wr => ∃ j : Nat, v7 = .int .i64 (j : Int) ∧ j ≤ v.size ∧ Hid (Up w2 wr ∧ ∀ x ∈ v.data.toList.take j, nih.data.toList.contains x = false)) (fun v7 _ => v.size - (intOf v7).toNat)
                case atStart => exact ⟨0, rfl, Nat.zero_le _, Hid.of ⟨HU3.out.1, by simp⟩⟩
                case round =>
                  obtain ⟨j, rfl, hj, hU4⟩ := hrel
                  have HU4 := Hid.of hU4.out
                  clear hU4
                  have c1 := HU4.out.1.cell HK.out
                  by_cases hjl : j < v.size
                  · have hjlz : (j : Int) < (v.size : Int) := by omega
                    have hg := sget' v j hjl
                    have hjj : j < v.data.toList.length := by rw [← HC.out]; exact hjl
                    have HQ := Hid.of (List.take_succ_eq_append_getElem hjj)
                    have HMm := Hid.of (List.getElem_mem hjj)
                    generalize v.data.toList[j]'hjj = x at *
                    clear hjj
                    go_wp2_with fail
                    refine (HG.out _ x).mono ?_
                    rintro e w4 ⟨rfl, rfl⟩
                    dsimp only
                    cases hx : nih.data.toList.contains x with
                    | true =>
                      have HE := Hid.of (show rv = 144 from HFl.out (by
                        rw [HH.out]
                        have : v.data.toList.any nih.data.toList.contains = true := List.any_eq_true.2 ⟨x, HMm.out, hx⟩
                        rw [this]
                        rfl))
                      go_wp2
                      go_ret
                      rw [HE.out]
                      exact ⟨rfl, HU2.out.trans HU4.out.1⟩
                    | false =>
                      have HN2 := Hid.of (show ∀ y ∈ v.data.toList.take (j + 1), nih.data.toList.contains y = false by
                        rw [HQ.out]
                        intro y hy
                        rw [List.mem_append, List.mem_singleton] at hy
                        rcases hy with h | h
                        · exact HU4.out.2 y h
                        · rw [h]; exact hx)
                      go_wp2
                      go_roundw
                      all_goals first
                        | exact ⟨j + 1, by go_num, by omega, Hid.of ⟨HU4.out.1, HN2.out⟩⟩
                        | (simp [intOf]; omega)
                  · have hjlz : ¬ (j : Int) < (v.size : Int) := by omega
                    have HY := Hid.of (show (vs'.take (i + 1)).all (fun v => hst v.data.toList) = true by
                      rw [HT.out, HU3.out.2, HH.out]
                      have h1 := HU4.out.2
                      rw [List.take_of_length_le (by rw [← HC.out]; omega)] at h1
                      have : v.data.toList.any nih.data.toList.contains = false := by
                        rw [List.any_eq_false]
                        intro x hx
                        rw [h1 x hx]
                        simp
                      rw [this]
                      rfl)
                    go_wp2
                    go_roundw
                    all_goals first
                      | exact ⟨i + 1, by go_num, by omega, Hid.of ⟨HU4.out.1, HY.out⟩⟩
                      | (simp [intOf]; omega)
          · have hilz : ¬ (i : Int) < (n : Int) := by omega
            have HE := Hid.of (show rv = 0 by
              have h1 := HU.out.2
              rw [List.take_of_length_le (by rw [HN.out]; omega)] at h1
              rw [HR2.out, if_pos h1])
            go_wp2
            go_ret
            rw [HE.out]
            exact ⟨rfl, HU2.out.trans HU.out.1⟩
end Go.Proofs.YtabpgpbcnadgcaaGreatDoor
