import Derived.Test.YtabpgpbcnadgcaaGreatDoorLa
import Derived.Deep.AppendSrc
namespace Go.Proofs.YtabpgpbcnadgcaaGreatDoor
open Go.RowKit Go.Shelf TextNum
/-- the fields that are printed -/
def kep (f : FD) : Bool := !(kdf f.n == 3 || kdf f.n == 4)
def tfd (f : FD) : FD := ⟨f.n, ⟨(trm f.v.data.toList).toArray⟩⟩
def pfs (fs : List FD) : List FD := (fs.filter kep).map tfd
theorem pfs_yes {fs : List FD} {f : FD} (h : kep f = true) : pfs (fs ++ [f]) = pfs fs ++ [tfd f] := by simp [pfs, h]
theorem pfs_no {fs : List FD} {f : FD} (h : kep f = false) : pfs (fs ++ [f]) = pfs fs := by simp [pfs, h]
theorem szs_pfs : ∀ fs : List FD, szs (pfs fs) ≤ szs fs
  | [] => Nat.le_refl _
  | f :: r => by
    have h := szs_pfs r
    have e : szs (f :: r) = szf f + szs r := by simp [szs]; omega
    cases hk : kep f with
    | true =>
      have e2 : pfs (f :: r) = tfd f :: pfs r := by simp [pfs, hk]
      have e3 : szs (tfd f :: pfs r) = szf (tfd f) + szs (pfs r) := by simp [szs]; omega
      have h4 : szf (tfd f) ≤ szf f := by
        unfold szf tfd
        have h5 := trm_len f.v.data.toList
        have h6 : (⟨(trm f.v.data.toList).toArray⟩ : ByteArray).size = (trm f.v.data.toList).length := by simp [ByteArray.size]
        have h7 := Go.Lib.size_eq f.v
        show f.n.size + (⟨(trm f.v.data.toList).toArray⟩ : ByteArray).size + 4 ≤ _
        omega
      rw [e, e2, e3]
      omega
    | false =>
      have e2 : pfs (f :: r) = pfs r := by simp [pfs, hk]
      rw [e, e2]
      omega
theorem pfs_len (fs : List FD) : (pfs fs).length ≤ fs.length := by
  unfold pfs
  rw [List.length_map]
  exact List.length_filter_le _ _
set_option maxRecDepth 100000 in
set_option maxHeartbeats 2000000 in
theorem printedFields_walk (a : Option Addr) (fs : List FD) (c : Nat) (w : World) (h : FdL w a fs c) (hl : szs fs ≤ 1099511627776) (hK : w.rangeAt 13 0 kdC) :
    Calls Tryz.prog 52 #[.slice a fs.length c] w fun e w' => (∃ a2 c2, e = .returned (.slice a2 (pfs fs).length c2) ∧ Hid (FdO w' w.heap.size a2 (pfs fs) c2)) ∧ Up w w' := by
  have HF := Hid.of h
  have HKd := Hid.of hK
  have hcap := h.cap
  have hsl := szs_len fs
  have HZ := Hid.of (fun i => Nat.le_trans (szs_take fs i) hl)
  clear h hK hl
  have hfl : fs.length ≤ 1099511627776 := by have := HZ.out fs.length; rw [List.take_length] at this; omega
  clear hsl
  go_enter Tryz.func52, Tryz.ntmps52
  go_wp2
  go_loopw [3, 8] (fun v3 v8 wr => ∃ i : Nat, v8 = .int .i64 (i : Int) ∧ i ≤ fs.length ∧ ∃ q a7 c7, v3 = .slice a7 q c7 ∧ q ≤ i ∧ Hid (FdO wr w.heap.size a7 (pfs (fs.take i)) c7 ∧ Up w wr ∧ (pfs (fs.take i)).length = q)) (fun _ v8 _ => fs.length - (intOf v8).toNat)
  case atStart => exact ⟨0, rfl, Nat.zero_le _, 0, none, 0, rfl, Nat.le_refl _, Hid.of ⟨World.ownsRow_nil _ _ _ _, Up.refl _, rfl⟩⟩
  case round =>
    obtain ⟨i, rfl, hi, q, a7, c7, rfl, hqi, hU⟩ := hrel
    have HQ := Hid.of hU.out
    clear hU
    by_cases hil : i < fs.length
    · have hilz : (i : Int) < (fs.length : Int) := by omega
      obtain ⟨b, off, rfl, k1, k2⟩ := HF.out.cells i hil
      have HRg := Hid.of (range2 (HQ.out.2.1.cell k1) (HQ.out.2.1.cell k2))
      have HT := Hid.of (List.take_succ_eq_append_getElem hil)
      obtain ⟨f, hf⟩ : ∃ f, fs[i] = f := ⟨_, rfl⟩
      rw [hf] at HRg HT
      have h5 := HZ.out (i + 1)
      rw [HT.out, szs_snoc] at h5
      unfold szf at h5
      have hfv : f.v.size ≤ 4611686018427387904 := by omega
      have HLn := Hid.of HQ.out.2.2
      clear hf k1 k2 h5
      go_wp2_with (with_reducible show wpList _ _ _ ({ dst := _, op := Op.indexAddr 36 _ _, type := _, pos := _, after := _, guard := _ } :: _) _ _; refine Shut.out ?_)
      show wpList _ _ _ _ _ _
      refine wpList_val7 (.pointer (some ⟨b, off + i * 2, none⟩)) rfl (exec_idxFd i hil rfl rfl rfl) ?_
      simp only [Act.put, List.setIfInBounds_toArray, List.set_cons_zero, List.set_cons_succ]
      refine wpList_load_mid rfl _ _ rfl b (off + i * 2) rfl [.string f.n, .string f.v] _ HRg.out Tryz.underlying89 rfl infoFd2 ?_
      simp only [Act.put, List.setIfInBounds_toArray, List.set_cons_zero, List.set_cons_succ]
      have HAt := Hid.of (at_new wr 89 [.string f.n, .string f.v])
      have HUr := Hid.of ((Up.refl wr).alloc (.cells [.string f.n, .string f.v].toArray 89))
      have HNb := Hid.of (show (Value.slice a7 q c7).ownBlock ≠ some wr.heap.size from fun e => by
        have h1 := HQ.out.1
        unfold FdO at h1
        rw [HLn.out] at h1
        have h2 := World.ownsRow.lt h1 wr.heap.size e
        omega)
      go_wp2_with (with_reducible show wpList _ _ _ ({ dst := _, op := Op.load 89 _, type := _, pos := _, after := _, guard := _ } :: _) _ _; refine Shut.out ?_)
      show wpList _ _ _ _ _ _
      refine wpList_load_mid rfl _ _ rfl wr.heap.size 0 rfl [.string f.n, .string f.v] _ HAt.out.range Tryz.underlying89 rfl infoFd2 ?_
      simp only [Act.put, List.setIfInBounds_toArray, List.set_cons_zero, List.set_cons_succ]
      go_wp2_with fail
      refine (kindOf_walk f.n f.v _ (range_up HKd.out (HQ.out.2.1.trans HUr.out))).mono ?_
      rintro e w4 ⟨rfl, u5⟩
      have HU4 := Hid.of ((HQ.out.2.1.trans HUr.out).trans u5)
      have HAt4 := Hid.of (HAt.out.up u5)
      have HO4 := Hid.of (ow_up (ow_up HQ.out.1 HUr.out) u5)
      clear u5 HAt HRg HUr HQ
      dsimp only
      cases h3 : (kdf f.n == 3) with
      | true =>
        have HS7 := Hid.of (show pfs (fs.take (i + 1)) = pfs (fs.take i) by rw [HT.out, pfs_no (by simp [kep, h3])])
        have HO8 := Hid.of (show FdO w4 w.heap.size a7 (pfs (fs.take (i + 1))) c7 by rw [HS7.out]; exact HO4.out)
        have HL8 := Hid.of (show (pfs (fs.take (i + 1))).length = q by rw [HS7.out]; exact HLn.out)
        go_wp2
        go_roundw
        all_goals first
          | exact ⟨i + 1, by go_num, by omega, q, a7, c7, rfl, by omega, Hid.of ⟨HO8.out, HU4.out, HL8.out⟩⟩
          | (simp [intOf]; omega)
      | false =>
        cases h4 : (kdf f.n == 4) with
        | true =>
          have HS7 := Hid.of (show pfs (fs.take (i + 1)) = pfs (fs.take i) by rw [HT.out, pfs_no (by simp [kep, h3, h4])])
          have HO8 := Hid.of (show FdO w4 w.heap.size a7 (pfs (fs.take (i + 1))) c7 by rw [HS7.out]; exact HO4.out)
          have HL8 := Hid.of (show (pfs (fs.take (i + 1))).length = q by rw [HS7.out]; exact HLn.out)
          go_wp2
          go_roundw
          all_goals first
            | exact ⟨i + 1, by go_num, by omega, q, a7, c7, rfl, by omega, Hid.of ⟨HO8.out, HU4.out, HL8.out⟩⟩
            | (simp [intOf]; omega)
        | false =>
          have HT2 := Hid.of (show pfs (fs.take (i + 1)) = pfs (fs.take i) ++ [tfd f] by rw [HT.out, pfs_yes (by simp [kep, h3, h4])])
          have HL7 := Hid.of (show (pfs (fs.take (i + 1))).length = q + 1 by rw [HT2.out, List.length_append, HLn.out]; rfl)
          go_wp2
          refine wp_region_held_drew (S := fun w2 => At w2 wr.heap.size 89 [.string f.n, .string f.v] ∧ Up w w2) (by kernel_rfl) ⟨HAt4.out.up (Up.refl _).drew, HU4.out.drew⟩ (fun hS => ?_)
          refine wpAnyH_take (i := 0) (oi := { dst := some 14, op := Go.Op.move (Go.Operand.tmp 3), type := 36, pos := "print.go:14", after := #[], guard := none }) (v := .slice a7 q c7) rfl (by kernel_rfl) (by kernel_rfl) (by kernel_rfl) (fun _ _ _ h => h) (Or.inl ⟨by kernel_rfl, ?_⟩) hS ?_
          · intro w5 hSw
            clear hSw hS
            go_simp
          simp only [Act.put, List.setIfInBounds_toArray, List.set_cons_zero, List.set_cons_succ]
          refine wpAnyH_take (i := 1) (oi := { dst := some 15, op := Go.Op.fieldAddr 89 (Go.Operand.tmp 5) 0, type := 0, pos := "print.go:14", after := #[], guard := none }) (v := .pointer (some ⟨wr.heap.size, 0, none⟩)) rfl (by kernel_rfl) (by kernel_rfl) (by kernel_rfl) (fun _ _ _ h => h) (Or.inl ⟨by kernel_rfl, ?_⟩) hS ?_
          · intro w5 hSw
            clear hSw hS
            go_simp
          simp only [Act.put, List.setIfInBounds_toArray, List.set_cons_zero, List.set_cons_succ]
          refine wpAnyH_take (i := 2) (oi := { dst := some 16, op := Go.Op.load 9 (Go.Operand.tmp 15), type := 9, pos := "print.go:14", after := #[{ on := 1, ground := Go.Ground.data }], guard := none }) (v := .string f.n) rfl (by kernel_rfl) (by kernel_rfl) (by kernel_rfl) (fun _ _ _ h => h) (Or.inl ⟨by kernel_rfl, ?_⟩) hS ?_
          · intro w5 hSw
            have h0 := hSw.1.cell (i := 0) rfl
            clear hSw hS
            go_simp
          simp only [Act.put, List.setIfInBounds_toArray, List.set_cons_zero, List.set_cons_succ]
          refine wpAnyH_take (i := 3) (oi := { dst := some 17, op := Go.Op.fieldAddr 89 (Go.Operand.tmp 5) 1, type := 0, pos := "print.go:14", after := #[], guard := none }) (v := .pointer (some ⟨wr.heap.size, 1, none⟩)) rfl (by kernel_rfl) (by kernel_rfl) (by kernel_rfl) (fun _ _ _ h => h) (Or.inl ⟨by kernel_rfl, ?_⟩) hS ?_
          · intro w5 hSw
            clear hSw hS
            go_simp
          simp only [Act.put, List.setIfInBounds_toArray, List.set_cons_zero, List.set_cons_succ]
          refine wpAnyH_take (i := 4) (oi := { dst := some 18, op := Go.Op.load 9 (Go.Operand.tmp 17), type := 9, pos := "print.go:14", after := #[{ on := 3, ground := Go.Ground.data }], guard := none }) (v := .string f.v) rfl (by kernel_rfl) (by kernel_rfl) (by kernel_rfl) (fun _ _ _ h => h) (Or.inl ⟨by kernel_rfl, ?_⟩) hS ?_
          · intro w5 hSw
            have h0 := hSw.1.cell (i := 1) rfl
            clear hSw hS
            go_simp
          simp only [Act.put, List.setIfInBounds_toArray, List.set_cons_zero, List.set_cons_succ]
          refine wpAnyH_ready (rs := [5]) (by kernel_rfl) (by simp) ?_
          refine AllReadyH.cons (o := { dst := some 19, op := Go.Op.call { callee := Go.Callee.value (Go.Operand.func 98), args := #[Go.Operand.tmp 18], argTypes := #[9] }, type := 9, pos := "print.go:14", after := #[{ on := 4, ground := Go.Ground.data }], guard := none }) rfl (fun K hK => ?_) AllReadyH.nil
          rw [if_pos (by kernel_rfl)]
          go_simp
          refine (trim_walk f.v hfv w4.drew).mono ?_
          rintro e w6 ⟨rfl, h9⟩
          have HU6 := Hid.of (HU4.out.drew.trans h9)
          have HAt6 := Hid.of ((HAt4.out.up (Up.refl _).drew).up h9)
          have HO6 := Hid.of (ow_up (ow_up HO4.out (Up.refl _).drew) h9)
          have HVt := Hid.of (show vs (trm f.v.data.toList) = .string (tfd f).v from rfl)
          clear h9 hS
          rw [HVt.out]
          dsimp only
          refine hK.out _ _ ⟨HAt6.out, HU6.out⟩ (fun hS => ?_)
          clear hK K
          refine wpAnyH_take (i := 6) (oi := { dst := some 20, op := Go.Op.build 89 #[(0, Go.Operand.tmp 16), (1, Go.Operand.tmp 19)], type := 89, pos := "print.go:14", after := #[{ on := 2, ground := Go.Ground.data }, { on := 5, ground := Go.Ground.data }], guard := none }) (v := .agg #[.string f.n, .string (tfd f).v]) rfl (by kernel_rfl) (by kernel_rfl) (by kernel_rfl) (fun _ _ _ h => h) (Or.inl ⟨by kernel_rfl, ?_⟩) hS ?_
          · intro w5 hSw
            clear hSw hS
            go_simp
          simp only [Act.put, List.setIfInBounds_toArray, List.set_cons_zero, List.set_cons_succ]
          refine wpAnyH_ready (rs := [7]) (by kernel_rfl) (by simp) ?_
          refine AllReadyH.cons (o := { dst := some 21, op := Go.Op.buildSlice 36 1 #[(0, Go.Operand.tmp 20)], type := 36, pos := "print.go:14", after := #[{ on := 6, ground := Go.Ground.data }], guard := none }) rfl (fun K hK => ?_) AllReadyH.nil
          rw [if_pos (by kernel_rfl)]
          go_simp
          refine hK.out _ _ ⟨hS.1.up ((Up.refl _).alloc _), hS.2.alloc _⟩ (fun hS => ?_)
          clear hK K
          refine wpAnyH_ready (rs := [8]) (by kernel_rfl) (by simp) ?_
          refine AllReadyH.cons (o := { dst := some 22, op := Go.Op.call { callee := Go.Callee.builtin Go.Builtin.append, args := #[Go.Operand.tmp 14, Go.Operand.tmp 21], argTypes := #[36, 36] }, type := 36, pos := "print.go:14", after := #[{ on := 0, ground := Go.Ground.data }, { on := 7, ground := Go.Ground.data }, { on := 5, ground := Go.Ground.chain }], guard := none }) rfl (fun K hK => oper_of_list ?_) AllReadyH.nil
          refine wpList_appFd (w := w6) (N := w.heap.size) rfl _ _ rfl a7 c7 (pfs (fs.take i)) (tfd f) HLn.out rfl rfl HO6.out HU6.out.size (by omega) ?_
          intro ax2 cx2 w7 o7 u7 g7
          have HO7 := Hid.of (show FdO w7 w.heap.size ax2 (pfs (fs.take (i + 1))) cx2 by rw [HT2.out]; exact o7)
          have HU7 := Hid.of (u7 w HU6.out (Nat.le_refl _))
          have HAt7 := Hid.of (HAt6.out.by g7 (HNb.out))
          clear o7 u7 g7
          refine hK.out _ _ ⟨HAt7.out, HU7.out⟩ (fun hS => ?_)
          clear hK K
          simp only [Act.put, List.setIfInBounds_toArray, List.set_cons_zero, List.set_cons_succ]
          refine wpAnyH_take (i := 9) (oi := { dst := some 3, op := Go.Op.assign (Go.Operand.tmp 22), type := 36, pos := "print.go:14", after := #[{ on := 8, ground := Go.Ground.data }, { on := 8, ground := Go.Ground.chain }, { on := 0, ground := Go.Ground.phase }, { on := 1, ground := Go.Ground.phase }, { on := 2, ground := Go.Ground.phase }, { on := 3, ground := Go.Ground.phase }, { on := 4, ground := Go.Ground.phase }, { on := 5, ground := Go.Ground.phase }, { on := 6, ground := Go.Ground.phase }, { on := 7, ground := Go.Ground.phase }, { on := 8, ground := Go.Ground.phase }], guard := none }) (v := .slice ax2 (q + 1) cx2) rfl (by kernel_rfl) (by kernel_rfl) (by kernel_rfl) (fun _ _ _ h => h) (Or.inl ⟨by kernel_rfl, ?_⟩) hS ?_
          · intro w5 hSw
            clear hSw hS
            go_simp
          simp only [Act.put, List.setIfInBounds_toArray, List.set_cons_zero, List.set_cons_succ]
          clear hS
          refine wpAnyH_done (by kernel_rfl) ?_ _
          go_wp2
          go_roundw
          all_goals first
            | exact ⟨i + 1, by go_num, by omega, q + 1, ax2, cx2, rfl, by omega, Hid.of ⟨HO7.out, HU7.out, HL7.out⟩⟩
            | (simp [intOf]; omega)
    · have hilz : ¬ (i : Int) < (fs.length : Int) := by omega
      have HTk := Hid.of (show fs.take i = fs from List.take_of_length_le (by omega))
      rw [HTk.out] at HQ
      go_wp2
      go_ret
      exact ⟨⟨a7, c7, by rw [HQ.out.2.2]; rfl, Hid.of HQ.out.1⟩, HQ.out.2.1⟩
end Go.Proofs.YtabpgpbcnadgcaaGreatDoor
namespace Go.Proofs.YtabpgpbcnadgcaaGreatDoor
open Go.RowKit Go.Shelf TextNum
theorem byteCells_cb (m : List UInt8) : byteCells ⟨m.toArray⟩ = cb m := by simp [byteCells, cb]
theorem str_szm (m : List UInt8) : (⟨m.toArray⟩ : ByteArray).size = m.length := by simp [ByteArray.size]
/-- a text's bytes are appended to a list of one's own -/
theorem run_app_str {w : World} {B : Nat} {v : Value} {l : List UInt8} (m : List UInt8) (ty : TypeId) (hown : Ow w B v l) (hn : l.length + m.length ≤ 140737488355328) (hB : B ≤ w.heap.size) :
    ∃ v' w', (Builtin.append_ #[22, 9] ty #[v, .string ⟨m.toArray⟩]).run Tryz.prog w = .ok v' w' ∧ Ow w' B v' (l ++ m) ∧ Below B w w' := by
  obtain ⟨i, hi, hz, hsize, hby⟩ := info_parts Tryz.infoU8
  have ht : Tryz.prog.underlying 22 = some (.slice 5) := Tryz.underlying22
  have hs0 : Src Tryz.prog 1 9 (.string ⟨m.toArray⟩) (⟨m.toArray⟩ : ByteArray).size (byteCells ⟨m.toArray⟩) w := Src.ofString w Tryz.underlying9 ⟨m.toArray⟩
  rw [byteCells_cb, str_szm] at hs0
  have hs : Src Tryz.prog i.size 9 (.string ⟨m.toArray⟩) m.length (cb m) w := by rw [hsize]; exact hs0
  have hlen : (cb l ++ cb m).length = l.length + m.length := by simp [cb]
  have grown : ∀ (old : Nat), old < l.length + m.length →
      (w.drew.alloc (.cells ((cb l ++ cb m).toArray ++ Builtin.zeroCells (Value.int .u8 0).cells (grownCap w (l.length + m.length) old 5 - (l.length + m.length))) 5)).ownsRow B 5 1
        (.slice (some ⟨w.heap.size, 0, none⟩) (l.length + m.length) (grownCap w (l.length + m.length) old 5)) (l.length + m.length) (cb l ++ cb m) := by
    intro old ho
    have hge := grownCap_ge w (l.length + m.length) old 5
    have hcm : grownCap w (l.length + m.length) old 5 ≤ maxLen := grownCap_le_maxLen w _ old _ (by unfold maxLen; omega)
    refine ⟨by rw [hlen, Nat.mul_one], .inr ⟨w.heap.size, _, _, rfl, hB, heap_alloc_new w.drew _, hge, hcm, ?_, ?_⟩⟩
    · simp only [Array.size_append, List.size_toArray, size_zeroCells, hlen]
      simp [Value.cells]
      omega
    · simp only [Array.toList_append]
      rw [Nat.mul_one, ← hlen]
      exact List.take_left
  have fin : ∀ {v' : Value} {w' : World}, w'.ownsRow B 5 1 v' (l.length + m.length) (cb l ++ cb m) → Ow w' B v' (l ++ m) := by
    intro v' w' h
    unfold Ow
    rw [List.length_append, cb_append]; exact h
  have up : ∀ o, Below B w (w.drew.alloc o) := fun o => Below.alloc (Below.drew (Below.refl B w)) hB o
  rcases hown.2 with ⟨rfl, e0⟩ | ⟨g, cap, cur, rfl, hbg, hg, hnc, hcm, hcs, htake⟩
  · have hl : l = [] := List.eq_nil_of_length_eq_zero e0
    subst hl
    by_cases hm : m = []
    · subst hm
      refine ⟨.slice none 0 0, w, ?_, hown, Below.refl _ _⟩
      have hk : Tryz.prog.underlying 9 = some .string := Tryz.underlying9
      simp [Builtin.append_, run_underlying ht, run_underlying hk, sizeOf, typeInfo, hi, Builtin.lenOf, Builtin.firstCells]
      rw [if_pos (show (⟨#[]⟩ : ByteArray) = ByteArray.empty from rfl)]
      rfl
    · have hp : 0 < m.length := List.length_pos_iff.2 hm
      have hr := run_append_grow_src (P := Tryz.prog) w 22 9 ty 5 i _ ht hi hz none 0 0 [] (run_firstCells_none w.drew i.size 0 0 0) _ m.length (cb m) hs (by omega) (by simp at hn; omega) (growslice_fits (by omega) (by rw [hby]; simp at hn; omega))
      have hgr := grown 0 (by simpa using hp)
      simp only [List.length_nil] at hgr fin
      exact ⟨_, _, hr, fin hgr, up _⟩
  · by_cases hroom : l.length + m.length ≤ cap
    · have hfit : l.length * 1 + (cb m).length ≤ cur.size := by rw [hcs, cb_length]; omega
      have hst := run_storeCells_at Tryz.prog g (l.length * i.size) 5 (cb m) 0 cur w hg (by rw [hsize]; simpa using hfit) (cb_one m)
      have hk : Tryz.prog.underlying 9 = some .string := Tryz.underlying9
      simp only [Nat.add_zero] at hst
      have hr : (Builtin.append_ #[22, 9] ty #[.slice (some ⟨g, 0, none⟩) l.length cap, .string ⟨m.toArray⟩]).run Tryz.prog w =
          .ok (.slice (some ⟨g, 0, none⟩) (l.length + m.length) cap) (w.setRow g (cur.toList.take (l.length * i.size) ++ cb m ++ cur.toList.drop (l.length * i.size + (cb m).length)).toArray) := by
        simp [Builtin.append_, run_underlying ht, run_underlying hk, sizeOf, typeInfo, hi, hs.len, hroom, hs.cells, Addr.add_lit, hst]
      refine ⟨_, _, hr, fin ⟨by rw [hlen, Nat.mul_one], .inr ⟨g, cap, _, rfl, hbg, setRow_heap w g cur _ 5 _ hg, hroom, hcm, ?_, ?_⟩⟩, ⟨rfl, rfl, rfl, by simp, fun k hk => setRow_other w g k _ (by omega)⟩⟩
      · simp only [List.size_toArray, List.length_append, List.length_take, List.length_drop, Array.length_toList, cb_length, hsize]
        omega
      · rw [hsize, htake, ← Nat.mul_one (l.length + m.length), Nat.mul_one, ← hlen]
        simp only [Nat.mul_one]
        exact List.take_left
    · have holds : ∀ j u, (cb l)[j]? = some u → w.cell? ((⟨g, 0, none⟩ : Addr).add j) = some u := World.ownsRow.cells hown (g := g) rfl
      have hold := run_firstCells_some (P := Tryz.prog) w.drew i.size l.length ⟨g, 0, none⟩ l.length cap (cb l) (by rw [hsize, cb_length, Nat.mul_one]) (by simpa using holds)
      have hr := run_append_grow_src (P := Tryz.prog) w 22 9 ty 5 i _ ht hi hz (some ⟨g, 0, none⟩) l.length cap (cb l) hold _ m.length (cb m) hs (by omega) (by omega) (growslice_fits (by omega) (by rw [hby]; omega))
      exact ⟨_, _, hr, fin (grown cap (by omega)), up _⟩

/-- make([]byte, 0, n) -/
theorem wpList_mk {ops : Array Oper} {rest : List Oper} {o : Oper} {a : Act} {w : World} {Q : Exit → Act → World → Prop} (hg : o.guard = none) (l c : Operand) (hop : o.op = Op.makeSlice 22 l c)
    (kl kc : IntKind) (C : Int) (n : Nat) (hl : a.eval l = .int kl 0) (hc : a.eval c = .int kc C) (hC : C = (n : Int)) (hn : n ≤ 140737488355328)
    (hK : ∀ w', Ow w' w.heap.size (.slice (some ⟨w.heap.size, 0, none⟩) 0 n) [] → Up w w' → wpList Tryz.prog ops Q rest (a.put o.dst (.slice (some ⟨w.heap.size, 0, none⟩) 0 n)) w') : wpList Tryz.prog ops Q (o :: rest) a w := by
  obtain ⟨i0, hi, hz0, hz1, hz2⟩ := info_parts Tryz.infoU8
  refine wpList_make_own w hg l c 22 hop w.heap.size 5 i0 (.int .u8 0) 1 Tryz.underlying22 hi hz0 hz1 kl kc C n hl hc hC (by rw [hz2]; omega) (by unfold maxLen; omega) (Nat.le_refl _) ?_
  intro w' h1 h2
  exact hK w' h1 ((Below.refl _ w).grown h2 (Nat.le_refl _) (fun k hk => by cases hk))
/-- a text is appended -/
theorem wpList_appStr {w : World} {N q : Nat} {ops : Array Oper} {rest : List Oper} {o : Oper} {a : Act} {Q : Exit → Act → World → Prop} (hgd : o.guard = none) (x y : Operand)
    (ho : o.op = .call { callee := .builtin .append, args := #[x, y], argTypes := #[22, 9] }) (ax : Option Addr) (cx : Nat) (xs : List UInt8) (s : ByteArray) (m : List UInt8) (hx : a.eval x = .slice ax q cx) (hy : a.eval y = .string s) (hm : s.data.toList = m)
    (hq : xs.length = q) (hR : Ow w N (.slice ax q cx) xs) (hNw : N ≤ w.heap.size) (hql : q + m.length ≤ 1099511627776)
    (K : ∀ ax2 cx2 w', Ow w' N (.slice ax2 (q + m.length) cx2) (xs ++ m) → (∀ W, Up W w → W.heap.size ≤ N → Up W w') → wpList Tryz.prog ops Q rest (a.put o.dst (.slice ax2 (q + m.length) cx2)) w') :
    wpList Tryz.prog ops Q (o :: rest) a w := by
  refine wpList_plain hgd fun K2 hK => ?_
  obtain ⟨v', w', hr, h2, h3⟩ := run_app_str m o.type hR (by omega) hNw
  have hy2 : a.eval y = .string ⟨m.toArray⟩ := by rw [hy, ← hm]
  obtain ⟨a2, c2, rfl⟩ : ∃ a2 c2, v' = .slice a2 (q + m.length) c2 := by
    have hl : (xs ++ m).length = q + m.length := by rw [List.length_append, hq]
    unfold Ow at h2
    rw [hl] at h2
    obtain ⟨a4, c4, e4⟩ := row_len h2
    exact ⟨a4, c4, e4⟩
  unfold Oper.wp execOp
  simp only [ho, resolve, invoke, builtin, Sem.run_bind, Sem.run_pure, Result.andThen_ok, List.map_toArray, List.map_cons, List.map_nil, hx, hy2, hr]
  exact hK _ _ (K a2 c2 w' h2 (fun W hU hW => Below.trans (B := W.heap.size) hU (h3.mono hW)))
/-- a field's line, and the message -/
def lnb (f : FD) : List UInt8 := f.n.data.toList ++ [58, 32] ++ f.v.data.toList ++ [13, 10]
def lbs (fs : List FD) : List UInt8 := fs.flatMap lnb
def prt (st : List UInt8) (fs : List FD) (bd : List UInt8) : List UInt8 := (((st ++ [13, 10]) ++ lbs fs) ++ [13, 10]) ++ bd
theorem lnb_len (f : FD) : (lnb f).length = szf f := by
  have h1 := Go.Lib.size_eq f.n
  have h2 := Go.Lib.size_eq f.v
  simp only [lnb, List.length_append, List.length_cons, List.length_nil]
  unfold szf
  omega
theorem lbs_len : ∀ fs : List FD, (lbs fs).length + 2 = szs fs
  | [] => rfl
  | f :: r => by
    have h := lbs_len r
    have e : szs (f :: r) = szf f + szs r := by simp [szs]; omega
    have e2 : lbs (f :: r) = lnb f ++ lbs r := by simp [lbs]
    rw [e, e2, List.length_append, lnb_len]
    omega
theorem lbs_snoc (fs : List FD) (f : FD) : lbs (fs ++ [f]) = lbs fs ++ lnb f := by simp [lbs]
theorem bat_app (a b : ByteArray) : (a ++ b).data.toList = a.data.toList ++ b.data.toList := by rw [ByteArray.data_append, Array.toList_append]
set_option maxRecDepth 100000 in
set_option maxHeartbeats 2000000 in
theorem printMessage_walk (s : ByteArray) (a : Option Addr) (fs : List FD) (c : Nat) (ab : Option Addr) (nb cb' : Nat) (bd : List UInt8) (w : World) (h : FdL w a fs c) (hb : Sb w (.slice ab nb cb') bd) (hs : s.size ≤ 1048576) (hl : szs fs ≤ 1048576) (hbl : bd.length ≤ 1048576) :
    Calls Tryz.prog 56 #[.string s, .slice a fs.length c, .slice ab nb cb'] w fun e w' => (∃ a2 c2, e = .returned (.slice a2 (prt s.data.toList fs bd).length c2) ∧ Hid (Ow w' w.heap.size (.slice a2 (prt s.data.toList fs bd).length c2) (prt s.data.toList fs bd))) ∧ Up w w' := by
  have HF := Hid.of h
  have HB := Hid.of hb
  obtain ⟨hbn, hbc, hbm⟩ := hb.len
  unfold maxLen at hbm
  have HBn := Hid.of hbn
  have hnb : nb ≤ 1048576 := by omega
  have hcap := h.cap
  have hsl := szs_len fs
  have HZ := Hid.of (fun i => szs_take fs i)
  have HSz := Hid.of (sizeOf_walk a fs c w h (by omega))
  have HLl := Hid.of (lbs_len fs)
  have HSs := Hid.of (Go.Lib.size_eq s)
  clear h hb hbn
  obtain ⟨z, hz⟩ : ∃ z, szs fs = z := ⟨_, rfl⟩
  rw [hz] at hl hsl HZ HSz HLl
  clear hz
  have hlen2 : ¬ 9223372036854775807 < s.size + 2 := by omega
  go_enter Tryz.func56, Tryz.ntmps56
  go_wp2_with fail
  refine HSz.out.mono ?_
  rintro e w2 ⟨rfl, h9⟩
  have HU2 := Hid.of h9
  clear h9
  dsimp only
  go_wp2_with (with_reducible show wpList _ _ _ ({ dst := _, op := Op.makeSlice 22 _ _, type := _, pos := _, after := _, guard := _ } :: _) _ _; refine Shut.out ?_)
  show wpList _ _ _ _ _ _
  refine wpList_mk rfl _ _ rfl .i64 .i64 _ (s.size + 2 + z + nb) rfl rfl (by push_cast; rfl) (by omega) ?_
  intro w3 o3 u3
  have HO3 := Hid.of (show Ow w3 w.heap.size _ [] from ow_base o3 HU2.out.size)
  have HU3 := Hid.of (HU2.out.trans u3)
  clear o3 u3
  simp only [Act.put, List.setIfInBounds_toArray, List.set_cons_zero, List.set_cons_succ]
  go_wp2_with (with_reducible show wpList _ _ _ ({ dst := _, op := Op.call { callee := Callee.builtin Builtin.append, args := _, argTypes := _ }, type := _, pos := _, after := _, guard := _ } :: _) _ _; refine Shut.out ?_)
  show wpList _ _ _ _ _ _
  refine wpList_appStr (N := w.heap.size) rfl _ _ rfl _ _ [] (s ++ ⟨#[13, 10]⟩) (s.data.toList ++ [13, 10]) rfl rfl (bat_app s ⟨#[13, 10]⟩) rfl HO3.out HU3.out.size (by rw [List.length_append, ← HSs.out]; simp only [List.length_cons, List.length_nil]; omega) ?_
  intro a4 c4 w4 o4 u4
  have HP := Hid.of (show prt s.data.toList fs bd = (((s.data.toList ++ [13, 10]) ++ lbs fs) ++ [13, 10]) ++ bd from rfl)
  have hn4' : (s.data.toList ++ [13, 10]).length = s.size + 2 := by rw [List.length_append, ← HSs.out]; rfl
  generalize s.data.toList ++ [13, 10] = st2 at o4 HP hn4' ⊢
  obtain ⟨n4, hn4⟩ : ∃ n4, 0 + st2.length = n4 := ⟨_, rfl⟩
  rw [hn4] at o4 ⊢
  have hn4z : n4 = s.size + 2 := by omega
  have HN4 := Hid.of (show st2.length = n4 by omega)
  have HO4 := Hid.of (show Ow w4 w.heap.size (.slice a4 n4 c4) st2 from o4)
  have HU4 := Hid.of (u4 w HU3.out (Nat.le_refl _))
  have hn4l : n4 ≤ 1048578 := by omega
  clear o4 u4 hn4 hn4' hn4z
  simp only [Act.put, List.setIfInBounds_toArray, List.set_cons_zero, List.set_cons_succ]
  go_wp2
  go_loopw [7, 26] (fun v7 v26 wr => ∃ i : Nat, v26 = .int .i64 (i : Int) ∧ i ≤ fs.length ∧ ∃ q a7 c7, v7 = .slice a7 q c7 ∧ q ≤ 3145728 ∧ Hid (Ow wr w.heap.size (.slice a7 q c7) (st2 ++ lbs (fs.take i)) ∧ Up w wr ∧ (st2 ++ lbs (fs.take i)).length = q)) (fun _ v26 _ => fs.length - (intOf v26).toNat)
  case atStart => exact ⟨0, rfl, Nat.zero_le _, n4, a4, c4, rfl, by omega, Hid.of ⟨by rw [List.take_zero, show lbs [] = [] from rfl, List.append_nil]; exact HO4.out, HU4.out, by rw [List.take_zero, show lbs [] = [] from rfl, List.append_nil]; exact HN4.out⟩⟩
  case round =>
    obtain ⟨i, rfl, hi, q, a7, c7, rfl, hqi, hU⟩ := hrel
    have HQ := Hid.of hU.out
    clear hU
    by_cases hil : i < fs.length
    · have hilz : (i : Int) < (fs.length : Int) := by omega
      obtain ⟨b, off, rfl, k1, k2⟩ := HF.out.cells i hil
      have HRg := Hid.of (range2 (HQ.out.2.1.cell k1) (HQ.out.2.1.cell k2))
      have HT := Hid.of (List.take_succ_eq_append_getElem hil)
      obtain ⟨f, hf⟩ : ∃ f, fs[i] = f := ⟨_, rfl⟩
      rw [hf] at HRg HT
      have h5 := HZ.out (i + 1)
      have h6 := lbs_len (fs.take (i + 1))
      have h7 := HQ.out.2.2
      have h8 := HN4.out
      rw [List.length_append] at h7
      rw [HT.out, szs_snoc] at h5 h6
      rw [lbs_snoc, List.length_append, lnb_len] at h6
      have h9 := lnb_len f
      unfold szf at h5 h6 h9
      have hl1 : ¬ 9223372036854775807 < f.n.size + 2 := by omega
      have hl2 : ¬ 9223372036854775807 < f.n.size + 2 + f.v.size := by omega
      have hl3 : ¬ 9223372036854775807 < f.n.size + 2 + f.v.size + 2 := by omega
      have hq7 : q + (lnb f).length ≤ 3145728 := by omega
      have HLb := Hid.of (show (f.n ++ ⟨#[58, 32]⟩ ++ f.v ++ ⟨#[13, 10]⟩ : ByteArray).data.toList = lnb f by rw [bat_app, bat_app, bat_app]; rfl)
      have HS2 := Hid.of (show st2 ++ lbs (fs.take (i + 1)) = (st2 ++ lbs (fs.take i)) ++ lnb f by rw [HT.out, lbs_snoc, List.append_assoc])
      have HL2 := Hid.of (show (st2 ++ lbs (fs.take (i + 1))).length = q + (lnb f).length by rw [HS2.out, List.length_append, HQ.out.2.2])
      clear hf k1 k2 h5 h6 h7 h8 h9
      go_wp2_with (with_reducible show wpList _ _ _ ({ dst := _, op := Op.indexAddr 36 _ _, type := _, pos := _, after := _, guard := _ } :: _) _ _; refine Shut.out ?_)
      show wpList _ _ _ _ _ _
      refine wpList_val7 (.pointer (some ⟨b, off + i * 2, none⟩)) rfl (exec_idxFd i hil rfl rfl rfl) ?_
      simp only [Act.put, List.setIfInBounds_toArray, List.set_cons_zero, List.set_cons_succ]
      refine wpList_load_mid rfl _ _ rfl b (off + i * 2) rfl [.string f.n, .string f.v] _ HRg.out Tryz.underlying89 rfl infoFd2 ?_
      simp only [Act.put, List.setIfInBounds_toArray, List.set_cons_zero, List.set_cons_succ]
      have HUr := Hid.of ((Up.refl wr).alloc (.cells [.string f.n, .string f.v].toArray 89))
      have HUx := Hid.of (HQ.out.2.1.trans HUr.out)
      have HOx := Hid.of (ow_up HQ.out.1 HUr.out)
      go_wp2_with (with_reducible show wpList _ _ _ ({ dst := _, op := Op.call { callee := Callee.builtin Builtin.append, args := _, argTypes := _ }, type := _, pos := _, after := _, guard := _ } :: _) _ _; refine Shut.out ?_)
      show wpList _ _ _ _ _ _
      refine wpList_appStr (N := w.heap.size) rfl _ _ rfl a7 c7 (st2 ++ lbs (fs.take i)) _ (lnb f) rfl rfl HLb.out HQ.out.2.2 HOx.out HUx.out.size (by omega) ?_
      intro a5 c5 w5 o5 u5
      have HO5 := Hid.of (show Ow w5 w.heap.size (.slice a5 (q + (lnb f).length) c5) (st2 ++ lbs (fs.take (i + 1))) by rw [HS2.out]; exact o5)
      have HU5 := Hid.of (u5 w HUx.out (Nat.le_refl _))
      clear o5 u5
      simp only [Act.put, List.setIfInBounds_toArray, List.set_cons_zero, List.set_cons_succ]
      go_wp2
      go_roundw
      all_goals first
        | exact ⟨i + 1, by go_num, by omega, q + (lnb f).length, a5, c5, rfl, by omega, Hid.of ⟨HO5.out, HU5.out, HL2.out⟩⟩
        | (simp [intOf]; omega)
    · have hilz : ¬ (i : Int) < (fs.length : Int) := by omega
      have HTk := Hid.of (show fs.take i = fs from List.take_of_length_le (by omega))
      rw [HTk.out] at HQ
      go_wp2_with (with_reducible show wpList _ _ _ ({ dst := _, op := Op.call { callee := Callee.builtin Builtin.append, args := _, argTypes := _ }, type := _, pos := _, after := _, guard := _ } :: _) _ _; refine Shut.out ?_)
      show wpList _ _ _ _ _ _
      refine wpList_appStr (N := w.heap.size) rfl _ _ rfl a7 c7 (st2 ++ lbs fs) ⟨#[13, 10]⟩ [13, 10] rfl rfl rfl HQ.out.2.2 HQ.out.1 HQ.out.2.1.size (by simp only [List.length_cons, List.length_nil]; omega) ?_
      intro a5 c5 w5 o5 u5
      have HO5 := Hid.of o5
      have HU5 := Hid.of (u5 w HQ.out.2.1 (Nat.le_refl _))
      have HN5 := Hid.of (show ((st2 ++ lbs fs) ++ [13, 10]).length = q + 2 by rw [List.length_append, HQ.out.2.2]; rfl)
      clear o5 u5
      have e2 : q + [13, (10 : UInt8)].length = q + 2 := rfl
      rw [e2] at HO5 ⊢
      clear e2
      simp only [Act.put, List.setIfInBounds_toArray, List.set_cons_zero, List.set_cons_succ]
      go_wp2_with (with_reducible show wpList _ _ _ ({ dst := _, op := Op.call { callee := Callee.builtin Builtin.append, args := _, argTypes := _ }, type := _, pos := _, after := _, guard := _ } :: _) _ _; refine Shut.out ?_)
      show wpList _ _ _ _ _ _
      refine wpList_appSb (N := w.heap.size) rfl _ _ rfl a5 c5 ((st2 ++ lbs fs) ++ [13, 10]) _ bd rfl rfl (HB.out.up HU5.out) (by have := HO5.out; unfold Ow at this; rw [HN5.out] at this; exact this) HU5.out.size (by omega) ?_
      intro a6 c6 w6 o6 u6
      have HU6 := Hid.of (u6 w HU5.out (Nat.le_refl _))
      have HN6 := Hid.of (show (prt s.data.toList fs bd).length = q + 2 + bd.length by rw [HP.out, List.length_append, HN5.out])
      have HO6 := Hid.of (show Ow w6 w.heap.size (.slice a6 (prt s.data.toList fs bd).length c6) (prt s.data.toList fs bd) by unfold Ow; rw [HN6.out, HP.out]; exact o6)
      clear o6 u6
      simp only [Act.put, List.setIfInBounds_toArray, List.set_cons_zero, List.set_cons_succ]
      go_wp2
      go_ret
      exact ⟨⟨a6, c6, by rw [HN6.out]; rfl, Hid.of HO6.out⟩, HU6.out⟩
end Go.Proofs.YtabpgpbcnadgcaaGreatDoor
namespace Go.Proofs.YtabpgpbcnadgcaaGreatDoor
open Go.RowKit Go.Shelf TextNum
/-- why a request can't be printed -/
def ckq (m t : ByteArray) (mi : Int) (fs : List FD) (nb : Nat) : Option Nat :=
  if 8000 < m.size + 1 + t.size + 1 + (vtx mi).length then some 9 else if 16384 < szs fs then some 1 else if tok m.data.toList = false then some 3 else if tgt t.data.toList = false then some 3 else if mtk m = false then some 10 else if mnr mi = false then some 4 else
    match ckf fs with
    | some k => some k
    | none => match ckh fs mi with
      | some k => some k
      | none => if 1048576 < nb then some 7 else none
theorem vtx_len (mi : Int) (h0 : -9223372036854775808 ≤ mi) (h1 : mi ≤ 9223372036854775807) : (vtx mi).length ≤ 64 := by
  have := itoa_len mi h0 h1
  unfold vtx
  rw [List.length_append]
  simp only [List.length_cons, List.length_nil]
  omega
theorem ev_neq (ad : Nat → Addr) (k : Nat) : ∀ w, (binOp .neq 106 (ev (ad k)) .nilIface).run Tryz.prog w = .ok (.bool true) w := by
  intro w
  kernel_rfl
theorem szs_mem : ∀ (fs : List FD) {f : FD}, f ∈ fs → f.n.size + f.v.size ≤ szs fs
  | g :: r, f, h => by
    have e : szs (g :: r) = szf g + szs r := by simp [szs]; omega
    rw [e]
    rcases List.mem_cons.1 h with rfl | h
    · unfold szf
      omega
    · have := szs_mem r h
      omega
set_option maxRecDepth 100000 in
set_option maxHeartbeats 4000000 in
theorem checkRequest_walk (ad : Nat → Addr) (m t : ByteArray) (mi : Int) (af : Option Addr) (nf cf : Nat) (ab : Option Addr) (nb cb' : Nat) (cl : Bool) (a : Option Addr) (fs : List FD) (c : Nat) (w : World) (h : FdL w a fs c) (hG : GW w ad) (hm : m.size ≤ 1099511627776) (ht : t.size ≤ 1099511627776)
    (hm0 : -9223372036854775808 ≤ mi) (hm1 : mi ≤ 9223372036854775807) (hl : szs fs ≤ 1099511627776) (hnb : nb ≤ 1099511627776) :
    Calls Tryz.prog 54 #[.agg #[.string m, .string t, .int .i64 mi, .slice af nf cf, .slice ab nb cb', .bool cl], .slice a fs.length c] w fun e w' => e = .returned (eoV ad (ckq m t mi fs nb)) ∧ Up w w' := by
  have HF := Hid.of h
  have HW := Hid.of hG
  have hcap := h.cap
  have hsl := szs_len fs
  have hvl := vtx_len mi hm0 hm1
  have HVz := Hid.of (show (⟨(vtx mi).toArray⟩ : ByteArray).size = (vtx mi).length from by simp [ByteArray.size])
  clear h hG
  obtain ⟨q6, hq6⟩ : ∃ q6 : List Value, [.string m, .string t, .int .i64 mi, .slice af nf cf, .slice ab nb cb', .bool cl] = q6 := ⟨_, rfl⟩
  have HA0 := Hid.of (at_new w 48 [.string m, .string t, .int .i64 mi, .slice af nf cf, .slice ab nb cb', .bool cl])
  have HU0 := Hid.of ((Up.refl w).alloc (.cells [.string m, .string t, .int .i64 mi, .slice af nf cf, .slice ab nb cb', .bool cl].toArray 48))
  obtain ⟨rv, hrv⟩ : ∃ rv, eoV ad (ckq m t mi fs nb) = rv := ⟨_, rfl⟩
  rw [hrv]
  unfold ckq at hrv
  have HR := Hid.of hrv
  clear hrv
  obtain ⟨z, hz⟩ : ∃ z, szs fs = z := ⟨_, rfl⟩
  have HSz := Hid.of (fun w (hF : FdL w a fs c) => sizeOf_walk a fs c w hF hl)
  have HCf := Hid.of (fun w (hF : FdL w a fs c) (hE : GE w ad) => checkFields_walk ad a fs c w hF hl hE)
  have HMe := Hid.of (fun (f : FD) => szs_mem fs (f := f))
  rw [hz] at HR hl hsl HSz HMe
  clear hz
  have HVx := Hid.of (show vs (vtx mi) = .string ⟨(vtx mi).toArray⟩ from rfl)
  generalize hvt : (⟨(vtx mi).toArray⟩ : ByteArray) = vt at HVx HVz
  generalize (vtx mi).length = vl at *
  clear hvt
  clear hq6 q6
  go_enter Tryz.func54, Tryz.ntmps54
  go_wp2
  obtain ⟨w1, hw1⟩ : ∃ w1, w.alloc (.cells [.string m, .string t, .int .i64 mi, .slice af nf cf, .slice ab nb cb', .bool cl].toArray 48) = w1 := ⟨_, rfl⟩
  rw [hw1] at HA0 HU0
  change Code.wp _ _ _ _ (w.alloc (.cells [.string m, .string t, .int .i64 mi, .slice af nf cf, .slice ab nb cb', .bool cl].toArray 48))
  rw [hw1]
  clear hw1
  by_cases h1 : 8000 < m.size + 1 + t.size + 1 + vl
  · have h1z : 8000 < (m.size : Int) + 1 + (t.size : Int) + 1 + (vl : Int) := by omega
    refine wp_region_held_drew (S := fun w2 => At w2 w.heap.size 48 [.string m, .string t, .int .i64 mi, .slice af nf cf, .slice ab nb cb', .bool cl] ∧ GW w2 ad ∧ Up w w2) (by kernel_rfl) ⟨HA0.out.up (Up.refl _).drew, (HW.out.up HU0.out).up (Up.refl _).drew, HU0.out.drew⟩ (fun hS => ?_)
    refine wpAnyH_take (i := 0) (oi := { dst := some 8, op := Go.Op.fieldAddr 48 (Go.Operand.tmp 2) 0, type := 0, pos := "print.go:36", after := #[], guard := none }) (v := .pointer (some ⟨w.heap.size, 0, none⟩)) rfl (by kernel_rfl) (by kernel_rfl) (by kernel_rfl) (fun _ _ _ h => h) (Or.inl ⟨by kernel_rfl, ?_⟩) hS ?_
    · intro w5 hSw
      clear hSw hS
      go_simp
    simp only [Act.put, List.setIfInBounds_toArray, List.set_cons_zero, List.set_cons_succ]
    refine wpAnyH_take (i := 1) (oi := { dst := some 9, op := Go.Op.load 9 (Go.Operand.tmp 8), type := 9, pos := "print.go:36", after := #[{ on := 0, ground := Go.Ground.data }], guard := none }) (v := .string m) rfl (by kernel_rfl) (by kernel_rfl) (by kernel_rfl) (fun _ _ _ h => h) (Or.inl ⟨by kernel_rfl, ?_⟩) hS ?_
    · intro w5 hSw
      have h0 := hSw.1.cell (i := 0) rfl
      clear hSw hS
      go_simp
    simp only [Act.put, List.setIfInBounds_toArray, List.set_cons_zero, List.set_cons_succ]
    refine wpAnyH_take (i := 2) (oi := { dst := some 10, op := Go.Op.call { callee := Go.Callee.builtin Go.Builtin.len, args := #[Go.Operand.tmp 9], argTypes := #[9] }, type := 3, pos := "print.go:36", after := #[{ on := 1, ground := Go.Ground.data }], guard := none }) (v := .int .i64 (m.size : Int)) rfl (by kernel_rfl) (by kernel_rfl) (by kernel_rfl) (fun _ _ _ h => h) (Or.inl ⟨by kernel_rfl, ?_⟩) hS ?_
    · intro w5 hSw
      clear hSw hS
      go_simp
    simp only [Act.put, List.setIfInBounds_toArray, List.set_cons_zero, List.set_cons_succ]
    refine wpAnyH_take (i := 3) (oi := { dst := some 11, op := Go.Op.binOp Go.BinOp.add 3 (Go.Operand.tmp 10) (Go.Operand.const (Go.Value.int Go.IntKind.i64 1)) 3, type := 3, pos := "print.go:36", after := #[{ on := 2, ground := Go.Ground.data }], guard := none }) (v := .int .i64 ((m.size : Int) + 1)) rfl (by kernel_rfl) (by kernel_rfl) (by kernel_rfl) (fun _ _ _ h => h) (Or.inl ⟨by kernel_rfl, ?_⟩) hS ?_
    · intro w5 hSw
      clear hSw hS
      go_simp
      rw [IntKind.wrap_i64]
      omega
    simp only [Act.put, List.setIfInBounds_toArray, List.set_cons_zero, List.set_cons_succ]
    refine wpAnyH_take (i := 4) (oi := { dst := some 12, op := Go.Op.fieldAddr 48 (Go.Operand.tmp 2) 1, type := 0, pos := "print.go:36", after := #[], guard := none }) (v := .pointer (some ⟨w.heap.size, 1, none⟩)) rfl (by kernel_rfl) (by kernel_rfl) (by kernel_rfl) (fun _ _ _ h => h) (Or.inl ⟨by kernel_rfl, ?_⟩) hS ?_
    · intro w5 hSw
      clear hSw hS
      go_simp
    simp only [Act.put, List.setIfInBounds_toArray, List.set_cons_zero, List.set_cons_succ]
    refine wpAnyH_take (i := 5) (oi := { dst := some 13, op := Go.Op.load 9 (Go.Operand.tmp 12), type := 9, pos := "print.go:36", after := #[{ on := 4, ground := Go.Ground.data }], guard := none }) (v := .string t) rfl (by kernel_rfl) (by kernel_rfl) (by kernel_rfl) (fun _ _ _ h => h) (Or.inl ⟨by kernel_rfl, ?_⟩) hS ?_
    · intro w5 hSw
      have h0 := hSw.1.cell (i := 1) rfl
      clear hSw hS
      go_simp
    simp only [Act.put, List.setIfInBounds_toArray, List.set_cons_zero, List.set_cons_succ]
    refine wpAnyH_take (i := 6) (oi := { dst := some 14, op := Go.Op.call { callee := Go.Callee.builtin Go.Builtin.len, args := #[Go.Operand.tmp 13], argTypes := #[9] }, type := 3, pos := "print.go:36", after := #[{ on := 5, ground := Go.Ground.data }], guard := none }) (v := .int .i64 (t.size : Int)) rfl (by kernel_rfl) (by kernel_rfl) (by kernel_rfl) (fun _ _ _ h => h) (Or.inl ⟨by kernel_rfl, ?_⟩) hS ?_
    · intro w5 hSw
      clear hSw hS
      go_simp
    simp only [Act.put, List.setIfInBounds_toArray, List.set_cons_zero, List.set_cons_succ]
    refine wpAnyH_take (i := 7) (oi := { dst := some 15, op := Go.Op.binOp Go.BinOp.add 3 (Go.Operand.tmp 11) (Go.Operand.tmp 14) 3, type := 3, pos := "print.go:36", after := #[{ on := 3, ground := Go.Ground.data }, { on := 6, ground := Go.Ground.data }], guard := none }) (v := .int .i64 ((m.size : Int) + 1 + (t.size : Int))) rfl (by kernel_rfl) (by kernel_rfl) (by kernel_rfl) (fun _ _ _ h => h) (Or.inl ⟨by kernel_rfl, ?_⟩) hS ?_
    · intro w5 hSw
      clear hSw hS
      go_simp
      rw [IntKind.wrap_i64]
      omega
    simp only [Act.put, List.setIfInBounds_toArray, List.set_cons_zero, List.set_cons_succ]
    refine wpAnyH_take (i := 8) (oi := { dst := some 16, op := Go.Op.binOp Go.BinOp.add 3 (Go.Operand.tmp 15) (Go.Operand.const (Go.Value.int Go.IntKind.i64 1)) 3, type := 3, pos := "print.go:36", after := #[{ on := 7, ground := Go.Ground.data }], guard := none }) (v := .int .i64 ((m.size : Int) + 1 + (t.size : Int) + 1)) rfl (by kernel_rfl) (by kernel_rfl) (by kernel_rfl) (fun _ _ _ h => h) (Or.inl ⟨by kernel_rfl, ?_⟩) hS ?_
    · intro w5 hSw
      clear hSw hS
      go_simp
      rw [IntKind.wrap_i64]
      omega
    simp only [Act.put, List.setIfInBounds_toArray, List.set_cons_zero, List.set_cons_succ]
    refine wpAnyH_take (i := 9) (oi := { dst := some 17, op := Go.Op.fieldAddr 48 (Go.Operand.tmp 2) 2, type := 0, pos := "print.go:36", after := #[], guard := none }) (v := .pointer (some ⟨w.heap.size, 2, none⟩)) rfl (by kernel_rfl) (by kernel_rfl) (by kernel_rfl) (fun _ _ _ h => h) (Or.inl ⟨by kernel_rfl, ?_⟩) hS ?_
    · intro w5 hSw
      clear hSw hS
      go_simp
    simp only [Act.put, List.setIfInBounds_toArray, List.set_cons_zero, List.set_cons_succ]
    refine wpAnyH_take (i := 10) (oi := { dst := some 18, op := Go.Op.load 3 (Go.Operand.tmp 17), type := 3, pos := "print.go:36", after := #[{ on := 9, ground := Go.Ground.data }], guard := none }) (v := .int .i64 mi) rfl (by kernel_rfl) (by kernel_rfl) (by kernel_rfl) (fun _ _ _ h => h) (Or.inl ⟨by kernel_rfl, ?_⟩) hS ?_
    · intro w5 hSw
      have h0 := hSw.1.cell (i := 2) rfl
      clear hSw hS
      go_simp
    simp only [Act.put, List.setIfInBounds_toArray, List.set_cons_zero, List.set_cons_succ]
    refine wpAnyH_ready (rs := [11]) (by kernel_rfl) (by simp) ?_
    refine AllReadyH.cons (o := { dst := some 19, op := Go.Op.call { callee := Go.Callee.value (Go.Operand.func 57), args := #[Go.Operand.tmp 18], argTypes := #[3] }, type := 9, pos := "print.go:36", after := #[{ on := 10, ground := Go.Ground.data }], guard := none }) rfl (fun K hK => ?_) AllReadyH.nil
    rw [if_pos (by kernel_rfl)]
    go_simp
    refine (versionText_walk mi hm0 hm1 w1.drew ((HW.out.up HU0.out).up (Up.refl _).drew).gn).mono ?_
    rintro e w2 ⟨rfl, h9⟩
    have HU2 := Hid.of (HU0.out.drew.trans h9)
    have HA2 := Hid.of ((HA0.out.up (Up.refl _).drew).up h9)
    clear h9 hS
    rw [HVx.out]
    dsimp only
    refine hK.out _ _ ⟨HA2.out, HW.out.up HU2.out, HU2.out⟩ (fun hS => ?_)
    clear hK K
    refine wpAnyH_take (i := 12) (oi := { dst := some 20, op := Go.Op.call { callee := Go.Callee.builtin Go.Builtin.len, args := #[Go.Operand.tmp 19], argTypes := #[9] }, type := 3, pos := "print.go:36", after := #[{ on := 11, ground := Go.Ground.data }], guard := none }) (v := .int .i64 (vl : Int)) rfl (by kernel_rfl) (by kernel_rfl) (by kernel_rfl) (fun _ _ _ h => h) (Or.inl ⟨by kernel_rfl, ?_⟩) hS ?_
    · intro w5 hSw
      clear hSw hS
      have hvs := HVz.out
      go_simp
    simp only [Act.put, List.setIfInBounds_toArray, List.set_cons_zero, List.set_cons_succ]
    refine wpAnyH_take (i := 13) (oi := { dst := some 21, op := Go.Op.binOp Go.BinOp.add 3 (Go.Operand.tmp 16) (Go.Operand.tmp 20) 3, type := 3, pos := "print.go:36", after := #[{ on := 8, ground := Go.Ground.data }, { on := 12, ground := Go.Ground.data }], guard := none }) (v := .int .i64 ((m.size : Int) + 1 + (t.size : Int) + 1 + (vl : Int))) rfl (by kernel_rfl) (by kernel_rfl) (by kernel_rfl) (fun _ _ _ h => h) (Or.inl ⟨by kernel_rfl, ?_⟩) hS ?_
    · intro w5 hSw
      clear hSw hS
      go_simp
      rw [IntKind.wrap_i64]
      omega
    simp only [Act.put, List.setIfInBounds_toArray, List.set_cons_zero, List.set_cons_succ]
    refine wpAnyH_take (i := 14) (oi := { dst := some 22, op := Go.Op.binOp Go.BinOp.gtr 3 (Go.Operand.tmp 21) (Go.Operand.const (Go.Value.int Go.IntKind.i64 8000)) 3, type := 4, pos := "print.go:36", after := #[{ on := 13, ground := Go.Ground.data }], guard := none }) (v := .bool true) rfl (by kernel_rfl) (by kernel_rfl) (by kernel_rfl) (fun _ _ _ h => h) (Or.inl ⟨by kernel_rfl, ?_⟩) hS ?_
    · intro w5 hSw
      clear hSw hS
      go_simp
    simp only [Act.put, List.setIfInBounds_toArray, List.set_cons_zero, List.set_cons_succ]
    refine wpAnyH_take (i := 15) (oi := { dst := some 7, op := Go.Op.assign (Go.Operand.tmp 22), type := 4, pos := "print.go:36", after := #[{ on := 14, ground := Go.Ground.data }, { on := 11, ground := Go.Ground.chain }], guard := none }) (v := .bool true) rfl (by kernel_rfl) (by kernel_rfl) (by kernel_rfl) (fun _ _ _ h => h) (Or.inl ⟨by kernel_rfl, ?_⟩) hS ?_
    · intro w5 hSw
      clear hSw hS
      go_simp
    simp only [Act.put, List.setIfInBounds_toArray, List.set_cons_zero, List.set_cons_succ]
    clear hS
    refine wpAnyH_done (by kernel_rfl) ?_ _
    have HE := Hid.of (show rv = ev (ad 9) by rw [← HR.out, if_pos h1]; rfl)
    have hgl : w2.cell? ⟨1, 0, none⟩ = _ := (HW.out.up HU2.out).ge.gl 9 (by decide)
    go_wp2
    go_ret
    rw [HE.out]
    exact ⟨rfl, HU2.out⟩
  · have h1z : ¬ 8000 < (m.size : Int) + 1 + (t.size : Int) + 1 + (vl : Int) := by omega
    rw [if_neg h1] at HR
    refine wp_region_held_drew (S := fun w2 => At w2 w.heap.size 48 [.string m, .string t, .int .i64 mi, .slice af nf cf, .slice ab nb cb', .bool cl] ∧ GW w2 ad ∧ Up w w2) (by kernel_rfl) ⟨HA0.out.up (Up.refl _).drew, (HW.out.up HU0.out).up (Up.refl _).drew, HU0.out.drew⟩ (fun hS => ?_)
    refine wpAnyH_take (i := 0) (oi := { dst := some 8, op := Go.Op.fieldAddr 48 (Go.Operand.tmp 2) 0, type := 0, pos := "print.go:36", after := #[], guard := none }) (v := .pointer (some ⟨w.heap.size, 0, none⟩)) rfl (by kernel_rfl) (by kernel_rfl) (by kernel_rfl) (fun _ _ _ h => h) (Or.inl ⟨by kernel_rfl, ?_⟩) hS ?_
    · intro w5 hSw
      clear hSw hS
      go_simp
    simp only [Act.put, List.setIfInBounds_toArray, List.set_cons_zero, List.set_cons_succ]
    refine wpAnyH_take (i := 1) (oi := { dst := some 9, op := Go.Op.load 9 (Go.Operand.tmp 8), type := 9, pos := "print.go:36", after := #[{ on := 0, ground := Go.Ground.data }], guard := none }) (v := .string m) rfl (by kernel_rfl) (by kernel_rfl) (by kernel_rfl) (fun _ _ _ h => h) (Or.inl ⟨by kernel_rfl, ?_⟩) hS ?_
    · intro w5 hSw
      have h0 := hSw.1.cell (i := 0) rfl
      clear hSw hS
      go_simp
    simp only [Act.put, List.setIfInBounds_toArray, List.set_cons_zero, List.set_cons_succ]
    refine wpAnyH_take (i := 2) (oi := { dst := some 10, op := Go.Op.call { callee := Go.Callee.builtin Go.Builtin.len, args := #[Go.Operand.tmp 9], argTypes := #[9] }, type := 3, pos := "print.go:36", after := #[{ on := 1, ground := Go.Ground.data }], guard := none }) (v := .int .i64 (m.size : Int)) rfl (by kernel_rfl) (by kernel_rfl) (by kernel_rfl) (fun _ _ _ h => h) (Or.inl ⟨by kernel_rfl, ?_⟩) hS ?_
    · intro w5 hSw
      clear hSw hS
      go_simp
    simp only [Act.put, List.setIfInBounds_toArray, List.set_cons_zero, List.set_cons_succ]
    refine wpAnyH_take (i := 3) (oi := { dst := some 11, op := Go.Op.binOp Go.BinOp.add 3 (Go.Operand.tmp 10) (Go.Operand.const (Go.Value.int Go.IntKind.i64 1)) 3, type := 3, pos := "print.go:36", after := #[{ on := 2, ground := Go.Ground.data }], guard := none }) (v := .int .i64 ((m.size : Int) + 1)) rfl (by kernel_rfl) (by kernel_rfl) (by kernel_rfl) (fun _ _ _ h => h) (Or.inl ⟨by kernel_rfl, ?_⟩) hS ?_
    · intro w5 hSw
      clear hSw hS
      go_simp
      rw [IntKind.wrap_i64]
      omega
    simp only [Act.put, List.setIfInBounds_toArray, List.set_cons_zero, List.set_cons_succ]
    refine wpAnyH_take (i := 4) (oi := { dst := some 12, op := Go.Op.fieldAddr 48 (Go.Operand.tmp 2) 1, type := 0, pos := "print.go:36", after := #[], guard := none }) (v := .pointer (some ⟨w.heap.size, 1, none⟩)) rfl (by kernel_rfl) (by kernel_rfl) (by kernel_rfl) (fun _ _ _ h => h) (Or.inl ⟨by kernel_rfl, ?_⟩) hS ?_
    · intro w5 hSw
      clear hSw hS
      go_simp
    simp only [Act.put, List.setIfInBounds_toArray, List.set_cons_zero, List.set_cons_succ]
    refine wpAnyH_take (i := 5) (oi := { dst := some 13, op := Go.Op.load 9 (Go.Operand.tmp 12), type := 9, pos := "print.go:36", after := #[{ on := 4, ground := Go.Ground.data }], guard := none }) (v := .string t) rfl (by kernel_rfl) (by kernel_rfl) (by kernel_rfl) (fun _ _ _ h => h) (Or.inl ⟨by kernel_rfl, ?_⟩) hS ?_
    · intro w5 hSw
      have h0 := hSw.1.cell (i := 1) rfl
      clear hSw hS
      go_simp
    simp only [Act.put, List.setIfInBounds_toArray, List.set_cons_zero, List.set_cons_succ]
    refine wpAnyH_take (i := 6) (oi := { dst := some 14, op := Go.Op.call { callee := Go.Callee.builtin Go.Builtin.len, args := #[Go.Operand.tmp 13], argTypes := #[9] }, type := 3, pos := "print.go:36", after := #[{ on := 5, ground := Go.Ground.data }], guard := none }) (v := .int .i64 (t.size : Int)) rfl (by kernel_rfl) (by kernel_rfl) (by kernel_rfl) (fun _ _ _ h => h) (Or.inl ⟨by kernel_rfl, ?_⟩) hS ?_
    · intro w5 hSw
      clear hSw hS
      go_simp
    simp only [Act.put, List.setIfInBounds_toArray, List.set_cons_zero, List.set_cons_succ]
    refine wpAnyH_take (i := 7) (oi := { dst := some 15, op := Go.Op.binOp Go.BinOp.add 3 (Go.Operand.tmp 11) (Go.Operand.tmp 14) 3, type := 3, pos := "print.go:36", after := #[{ on := 3, ground := Go.Ground.data }, { on := 6, ground := Go.Ground.data }], guard := none }) (v := .int .i64 ((m.size : Int) + 1 + (t.size : Int))) rfl (by kernel_rfl) (by kernel_rfl) (by kernel_rfl) (fun _ _ _ h => h) (Or.inl ⟨by kernel_rfl, ?_⟩) hS ?_
    · intro w5 hSw
      clear hSw hS
      go_simp
      rw [IntKind.wrap_i64]
      omega
    simp only [Act.put, List.setIfInBounds_toArray, List.set_cons_zero, List.set_cons_succ]
    refine wpAnyH_take (i := 8) (oi := { dst := some 16, op := Go.Op.binOp Go.BinOp.add 3 (Go.Operand.tmp 15) (Go.Operand.const (Go.Value.int Go.IntKind.i64 1)) 3, type := 3, pos := "print.go:36", after := #[{ on := 7, ground := Go.Ground.data }], guard := none }) (v := .int .i64 ((m.size : Int) + 1 + (t.size : Int) + 1)) rfl (by kernel_rfl) (by kernel_rfl) (by kernel_rfl) (fun _ _ _ h => h) (Or.inl ⟨by kernel_rfl, ?_⟩) hS ?_
    · intro w5 hSw
      clear hSw hS
      go_simp
      rw [IntKind.wrap_i64]
      omega
    simp only [Act.put, List.setIfInBounds_toArray, List.set_cons_zero, List.set_cons_succ]
    refine wpAnyH_take (i := 9) (oi := { dst := some 17, op := Go.Op.fieldAddr 48 (Go.Operand.tmp 2) 2, type := 0, pos := "print.go:36", after := #[], guard := none }) (v := .pointer (some ⟨w.heap.size, 2, none⟩)) rfl (by kernel_rfl) (by kernel_rfl) (by kernel_rfl) (fun _ _ _ h => h) (Or.inl ⟨by kernel_rfl, ?_⟩) hS ?_
    · intro w5 hSw
      clear hSw hS
      go_simp
    simp only [Act.put, List.setIfInBounds_toArray, List.set_cons_zero, List.set_cons_succ]
    refine wpAnyH_take (i := 10) (oi := { dst := some 18, op := Go.Op.load 3 (Go.Operand.tmp 17), type := 3, pos := "print.go:36", after := #[{ on := 9, ground := Go.Ground.data }], guard := none }) (v := .int .i64 mi) rfl (by kernel_rfl) (by kernel_rfl) (by kernel_rfl) (fun _ _ _ h => h) (Or.inl ⟨by kernel_rfl, ?_⟩) hS ?_
    · intro w5 hSw
      have h0 := hSw.1.cell (i := 2) rfl
      clear hSw hS
      go_simp
    simp only [Act.put, List.setIfInBounds_toArray, List.set_cons_zero, List.set_cons_succ]
    refine wpAnyH_ready (rs := [11]) (by kernel_rfl) (by simp) ?_
    refine AllReadyH.cons (o := { dst := some 19, op := Go.Op.call { callee := Go.Callee.value (Go.Operand.func 57), args := #[Go.Operand.tmp 18], argTypes := #[3] }, type := 9, pos := "print.go:36", after := #[{ on := 10, ground := Go.Ground.data }], guard := none }) rfl (fun K hK => ?_) AllReadyH.nil
    rw [if_pos (by kernel_rfl)]
    go_simp
    refine (versionText_walk mi hm0 hm1 w1.drew ((HW.out.up HU0.out).up (Up.refl _).drew).gn).mono ?_
    rintro e w2 ⟨rfl, h9⟩
    have HU2 := Hid.of (HU0.out.drew.trans h9)
    have HA2 := Hid.of ((HA0.out.up (Up.refl _).drew).up h9)
    clear h9 hS
    rw [HVx.out]
    dsimp only
    refine hK.out _ _ ⟨HA2.out, HW.out.up HU2.out, HU2.out⟩ (fun hS => ?_)
    clear hK K
    refine wpAnyH_take (i := 12) (oi := { dst := some 20, op := Go.Op.call { callee := Go.Callee.builtin Go.Builtin.len, args := #[Go.Operand.tmp 19], argTypes := #[9] }, type := 3, pos := "print.go:36", after := #[{ on := 11, ground := Go.Ground.data }], guard := none }) (v := .int .i64 (vl : Int)) rfl (by kernel_rfl) (by kernel_rfl) (by kernel_rfl) (fun _ _ _ h => h) (Or.inl ⟨by kernel_rfl, ?_⟩) hS ?_
    · intro w5 hSw
      clear hSw hS
      have hvs := HVz.out
      go_simp
    simp only [Act.put, List.setIfInBounds_toArray, List.set_cons_zero, List.set_cons_succ]
    refine wpAnyH_take (i := 13) (oi := { dst := some 21, op := Go.Op.binOp Go.BinOp.add 3 (Go.Operand.tmp 16) (Go.Operand.tmp 20) 3, type := 3, pos := "print.go:36", after := #[{ on := 8, ground := Go.Ground.data }, { on := 12, ground := Go.Ground.data }], guard := none }) (v := .int .i64 ((m.size : Int) + 1 + (t.size : Int) + 1 + (vl : Int))) rfl (by kernel_rfl) (by kernel_rfl) (by kernel_rfl) (fun _ _ _ h => h) (Or.inl ⟨by kernel_rfl, ?_⟩) hS ?_
    · intro w5 hSw
      clear hSw hS
      go_simp
      rw [IntKind.wrap_i64]
      omega
    simp only [Act.put, List.setIfInBounds_toArray, List.set_cons_zero, List.set_cons_succ]
    refine wpAnyH_take (i := 14) (oi := { dst := some 22, op := Go.Op.binOp Go.BinOp.gtr 3 (Go.Operand.tmp 21) (Go.Operand.const (Go.Value.int Go.IntKind.i64 8000)) 3, type := 4, pos := "print.go:36", after := #[{ on := 13, ground := Go.Ground.data }], guard := none }) (v := .bool false) rfl (by kernel_rfl) (by kernel_rfl) (by kernel_rfl) (fun _ _ _ h => h) (Or.inl ⟨by kernel_rfl, ?_⟩) hS ?_
    · intro w5 hSw
      clear hSw hS
      go_simp
    simp only [Act.put, List.setIfInBounds_toArray, List.set_cons_zero, List.set_cons_succ]
    refine wpAnyH_take (i := 15) (oi := { dst := some 7, op := Go.Op.assign (Go.Operand.tmp 22), type := 4, pos := "print.go:36", after := #[{ on := 14, ground := Go.Ground.data }, { on := 11, ground := Go.Ground.chain }], guard := none }) (v := .bool false) rfl (by kernel_rfl) (by kernel_rfl) (by kernel_rfl) (fun _ _ _ h => h) (Or.inl ⟨by kernel_rfl, ?_⟩) hS ?_
    · intro w5 hSw
      clear hSw hS
      go_simp
    simp only [Act.put, List.setIfInBounds_toArray, List.set_cons_zero, List.set_cons_succ]
    clear hS
    refine wpAnyH_done (by kernel_rfl) ?_ _
    go_wp2_with fail
    refine (HSz.out w2 (HF.out.up HU2.out)).mono ?_
    rintro e w3 ⟨rfl, h9⟩
    have HU3 := Hid.of (HU2.out.trans h9)
    have HA3 := Hid.of (HA2.out.up h9)
    clear h9
    dsimp only
    by_cases h2 : 16384 < z
    · have h2z : (16384 : Int) < (z : Int) := by omega
      have HE := Hid.of (show rv = ev (ad 1) by rw [← HR.out, if_pos h2]; rfl)
      have hgl : w3.cell? ⟨2, 0, none⟩ = _ := (HW.out.up HU3.out).ge.gl 1 (by decide)
      go_wp2
      go_ret
      rw [HE.out]
      exact ⟨rfl, HU3.out⟩
    · have h2z : ¬ (16384 : Int) < (z : Int) := by omega
      rw [if_neg h2] at HR
      have c0 := HA3.out.cell (i := 0) rfl
      go_wp2_with fail
      refine (isToken_walk m hm w3).mono ?_
      rintro e w5 ⟨rfl, h9⟩
      have HU5 := Hid.of (HU3.out.trans h9)
      have HA5 := Hid.of (HA3.out.up h9)
      clear h9
      dsimp only
      cases htk : tok m.data.toList with
      | false =>
        have HE := Hid.of (show rv = ev (ad 3) by rw [← HR.out, if_pos htk]; rfl)
        have hgl : w5.cell? ⟨3, 0, none⟩ = _ := (HW.out.up HU5.out).ge.gl 3 (by decide)
        go_wp2
        go_ret
        rw [HE.out]
        exact ⟨rfl, HU5.out⟩
      | true =>
        rw [if_neg (by rw [htk]; simp)] at HR
        clear htk c0
        have c1 := HA5.out.cell (i := 1) rfl
        go_wp2_with fail
        refine (isTarget_walk t ht w5).mono ?_
        rintro e w6 ⟨rfl, h9⟩
        have HU6 := Hid.of (HU5.out.trans h9)
        have HA6 := Hid.of (HA5.out.up h9)
        clear h9
        dsimp only
        cases htg : tgt t.data.toList with
        | false =>
          have HE := Hid.of (show rv = ev (ad 3) by rw [← HR.out, if_pos htg]; rfl)
          have hgl : w6.cell? ⟨3, 0, none⟩ = _ := (HW.out.up HU6.out).ge.gl 3 (by decide)
          go_wp2
          go_ret
          rw [HE.out]
          exact ⟨rfl, HU6.out⟩
        | true =>
          rw [if_neg (by rw [htg]; simp)] at HR
          clear htg c1
          have c0 := HA6.out.cell (i := 0) rfl
          go_wp2_with fail
          refine (isKnownMethod_walk m w6 (HW.out.up HU6.out).mt).mono ?_
          rintro e w7 ⟨rfl, h9⟩
          have HU7 := Hid.of (HU6.out.trans h9)
          have HA7 := Hid.of (HA6.out.up h9)
          clear h9
          dsimp only
          cases hmt : mtk m with
          | false =>
            have HE := Hid.of (show rv = ev (ad 10) by rw [← HR.out, if_pos hmt]; rfl)
            have hgl : w7.cell? ⟨4, 0, none⟩ = _ := (HW.out.up HU7.out).ge.gl 10 (by decide)
            go_wp2
            go_ret
            rw [HE.out]
            exact ⟨rfl, HU7.out⟩
          | true =>
            rw [if_neg (by rw [hmt]; simp)] at HR
            clear hmt c0
            have c2 := HA7.out.cell (i := 2) rfl
            go_wp2_with fail
            refine (isMinor_walk mi w7).mono ?_
            rintro e w8 ⟨rfl, h9⟩
            obtain rfl := h9.symm
            clear h9
            dsimp only
            cases hmn : mnr mi with
            | false =>
              have HE := Hid.of (show rv = ev (ad 4) by rw [← HR.out, if_pos hmn]; rfl)
              have hgl : w7.cell? ⟨5, 0, none⟩ = _ := (HW.out.up HU7.out).ge.gl 4 (by decide)
              go_wp2
              go_ret
              rw [HE.out]
              exact ⟨rfl, HU7.out⟩
            | true =>
              rw [if_neg (by rw [hmn]; simp)] at HR
              clear hmn c2
              go_wp2_with fail
              refine (HCf.out w7 (HF.out.up HU7.out) (HW.out.up HU7.out).ge).mono ?_
              rintro e w9 ⟨rfl, h9⟩
              have HU9 := Hid.of (HU7.out.trans h9)
              have HA9 := Hid.of (HA7.out.up h9)
              clear h9
              dsimp only
              cases hcf : ckf fs with
              | some k =>
                have HE := Hid.of (show rv = ev (ad k) by rw [← HR.out, hcf]; rfl)
                rw [show eoV ad (some k) = ev (ad k) from rfl]
                have hne := ev_neq ad k
                go_wp2
                go_ret
                rw [HE.out]
                exact ⟨rfl, HU9.out⟩
              | none =>
                rw [hcf] at HR
                rw [show eoV ad none = Value.nilIface from rfl]
                clear hcf
                have c2 := HA9.out.cell (i := 2) rfl
                go_wp2_with fail
                refine (checkHost_walk ad a fs c mi w9 (HF.out.up HU9.out) (by omega) (fun f hf => by have := HMe.out f hf; omega) (HW.out.up HU9.out).ge (HW.out.up HU9.out).kd).mono ?_
                rintro e w10 ⟨rfl, h9⟩
                have HU10 := Hid.of (HU9.out.trans h9)
                have HA10 := Hid.of (HA9.out.up h9)
                clear h9
                dsimp only
                cases hch : ckh fs mi with
                | some k =>
                  have HE := Hid.of (show rv = ev (ad k) by rw [← HR.out, hch]; rfl)
                  rw [show eoV ad (some k) = ev (ad k) from rfl]
                  have hne := ev_neq ad k
                  go_wp2
                  go_ret
                  rw [HE.out]
                  exact ⟨rfl, HU10.out⟩
                | none =>
                  rw [hch] at HR
                  rw [show eoV ad none = Value.nilIface from rfl]
                  clear hch c2
                  have c4 := HA10.out.cell (i := 4) rfl
                  by_cases hbl : 1048576 < nb
                  · have hblz : (1048576 : Int) < (nb : Int) := by omega
                    have HE := Hid.of (show rv = ev (ad 7) by rw [← HR.out, if_pos hbl]; rfl)
                    have hgl : w10.cell? ⟨6, 0, none⟩ = _ := (HW.out.up HU10.out).ge.gl 7 (by decide)
                    go_wp2
                    go_ret
                    rw [HE.out]
                    exact ⟨rfl, HU10.out⟩
                  · have hblz : ¬ (1048576 : Int) < (nb : Int) := by omega
                    have HE := Hid.of (show rv = .nilIface by rw [← HR.out, if_neg hbl]; rfl)
                    go_wp2
                    go_ret
                    rw [HE.out]
                    exact ⟨rfl, HU10.out⟩
end Go.Proofs.YtabpgpbcnadgcaaGreatDoor
namespace Go.Proofs.YtabpgpbcnadgcaaGreatDoor
open Go.RowKit Go.Shelf TextNum
/-- the fields of a message with a body of n bytes, the first line, the message -/
def frF (fs : List FD) (n : Nat) : List FD := if 0 < n then pfs fs ++ [lnf n] else pfs fs
def frS (m t : ByteArray) (mi : Int) : List UInt8 := m.data.toList ++ [32] ++ t.data.toList ++ [32] ++ vtx mi
def frQ (m t : ByteArray) (mi : Int) (fs : List FD) (bd : List UInt8) : Er (List UInt8) := match ckq m t mi (frF fs bd.length) bd.length with
  | some k => .error k
  | none => .ok (prt (frS m t mi) (frF fs bd.length) bd)
def FrR (w w' : World) (e : Ending) : Er (List UInt8) → Prop
  | .error k => e = .returned (.tuple #[.slice none 0 0, .int .i64 (nums k)])
  | .ok l => ∃ a c, e = .returned (.tuple #[.slice a l.length c, .int .i64 0]) ∧ Hid (Ow w' w.heap.size (.slice a l.length c) l)
theorem ckf_lt {fs : List FD} {k : Nat} (h : ckf fs = some k) : k < 12 := by
  unfold ckf at h
  split at h
  · cases h; decide
  · split at h
    · cases h; decide
    · cases h
theorem ckh_lt {fs : List FD} {mi : Int} {k : Nat} (h : ckh fs mi = some k) : k < 12 := by
  unfold ckh at h
  split at h
  · cases h; decide
  · split at h
    · cases h; decide
    · cases h
theorem ckq_lt {m t : ByteArray} {mi : Int} {fs : List FD} {nb k : Nat} (h : ckq m t mi fs nb = some k) : k < 12 := by
  unfold ckq at h
  repeat' split at h
  all_goals first
    | (cases h; done)
    | (injection h with h; subst h; decide)
    | (injection h with h; subst h; first | exact ckf_lt (by assumption) | exact ckh_lt (by assumption))
theorem ckq_ok {m t : ByteArray} {mi : Int} {fs : List FD} {nb : Nat} (h : ckq m t mi fs nb = none) : m.size + 1 + t.size + 1 + (vtx mi).length ≤ 8000 ∧ szs fs ≤ 16384 ∧ nb ≤ 1048576 := by
  unfold ckq at h
  repeat' split at h
  all_goals first
    | (cases h; done)
    | (refine ⟨?_, ?_, ?_⟩ <;> omega)
theorem szs_frF (fs : List FD) (n : Nat) (h : n ≤ 1099511627776) : szs (frF fs n) ≤ szs fs + 128 := by
  have h1 := szs_pfs fs
  unfold frF
  split
  · rw [szs_snoc]
    have h2 : szf (lnf n) ≤ 128 := by
      have h3 := itoa_len (n : Int) (by omega) (by omega)
      have h4 : (⟨(Go.Lib.itoa (n : Int)).toArray⟩ : ByteArray).size = (Go.Lib.itoa (n : Int)).length := by simp [ByteArray.size]
      have h5 : ctlN.size = 14 := rfl
      unfold szf lnf
      dsimp only
      omega
    omega
  · omega
set_option maxRecDepth 100000 in
set_option maxHeartbeats 4000000 in
theorem FormatRequest_walk (ad : Nat → Addr) (m t : ByteArray) (mi : Int) (a : Option Addr) (fs : List FD) (c : Nat) (ab : Option Addr) (nb cb' : Nat) (bd : List UInt8) (cl : Bool) (w : World) (h : FdL w a fs c) (hb : Sb w (.slice ab nb cb') bd) (hG : GW w ad) (hm : m.size ≤ 1099511627776) (ht : t.size ≤ 1099511627776)
    (hm0 : -9223372036854775808 ≤ mi) (hm1 : mi ≤ 9223372036854775807) (hl : szs fs ≤ 1099511627000) (hnb : nb ≤ 1099511627776) :
    Calls Tryz.prog 20 #[.agg #[.string m, .string t, .int .i64 mi, .slice a fs.length c, .slice ab nb cb', .bool cl]] w fun e w' => FrR w w' e (frQ m t mi fs bd) ∧ Up w w' := by
  have HF := Hid.of h
  have HW := Hid.of hG
  have HB := Hid.of hb
  have hcap := h.cap
  obtain ⟨hbn, hbc, hbm⟩ := hb.len
  unfold maxLen at hbm
  have HBn := Hid.of hbn
  clear h hG hb hbn
  have HVl := Hid.of (vtx_len mi hm0 hm1)
  have HVz0 : (⟨(vtx mi).toArray⟩ : ByteArray).size = (vtx mi).length := by simp [ByteArray.size]
  have HVx := Hid.of (show vs (vtx mi) = .string ⟨(vtx mi).toArray⟩ from rfl)
  have HVd0 : (⟨(vtx mi).toArray⟩ : ByteArray).data.toList = vtx mi := rfl
  generalize (⟨(vtx mi).toArray⟩ : ByteArray) = vt at HVx HVz0 HVd0
  have HVd := Hid.of HVd0
  obtain ⟨vl, hvln⟩ : ∃ vl, (vtx mi).length = vl := ⟨_, rfl⟩
  rw [hvln] at HVz0 HVl
  have HVz := Hid.of HVz0
  have HVn := Hid.of hvln
  clear HVz0 HVd0 hvln
  have hsl := szs_len fs
  have hpl := pfs_len fs
  have HZf := Hid.of (szs_frF fs nb hnb)
  have HA0 := Hid.of (at_new w 48 [.string m, .string t, .int .i64 mi, .slice a fs.length c, .slice ab nb cb', .bool cl])
  have HS1 := Hid.of (show w.heap.size < w.heap.size + 1 by omega)
  have HU0 := Hid.of ((Up.refl w).alloc (.cells [.string m, .string t, .int .i64 mi, .slice a fs.length c, .slice ab nb cb', .bool cl].toArray 48))
  obtain ⟨rv, hrv⟩ : ∃ rv, frQ m t mi fs bd = rv := ⟨_, rfl⟩
  have HR := Hid.of hrv
  rw [hrv]
  clear hrv
  go_enter Tryz.func20, Tryz.ntmps20
  go_wp2_with (with_reducible show wpList _ _ _ ({ dst := _, op := Op.load 36 _, type := _, pos := _, after := _, guard := _ } :: _) _ _; refine Shut.out ?_)
  show wpList _ _ _ _ _ _
  obtain ⟨w1, hw1⟩ : ∃ w1, w.alloc (.cells [.string m, .string t, .int .i64 mi, .slice a fs.length c, .slice ab nb cb', .bool cl].toArray 48) = w1 := ⟨_, rfl⟩
  have HS1 := Hid.of (show w.heap.size < w1.heap.size by rw [← hw1, alloc_size]; omega)
  rw [hw1] at HA0 HU0
  change wpList _ _ _ _ _ (w.alloc (.cells [.string m, .string t, .int .i64 mi, .slice a fs.length c, .slice ab nb cb', .bool cl].toArray 48))
  rw [hw1]
  clear hw1
  have c3 := HA0.out.cell (i := 3) rfl
  go_wp2_with fail
  refine (printedFields_walk a fs c w1 (HF.out.up HU0.out) (by omega) (HW.out.up HU0.out).kd).mono ?_
  rintro e w2 ⟨⟨a2, c2, rfl, hO2⟩, h9⟩
  have HU2 := Hid.of (HU0.out.trans h9)
  have HA2 := Hid.of (HA0.out.up h9)
  have HO2 := Hid.of hO2.out
  have HW1 := Hid.of h9
  clear h9 hO2 c3
  dsimp only
  have c4 := HA2.out.cell (i := 4) rfl
  by_cases hb0 : 0 < nb
  · have hb0z : (0 : Int) < (nb : Int) := by omega
    have HFr0 : frF fs nb = pfs fs ++ [lnf nb] := by unfold frF; rw [if_pos hb0]
    obtain ⟨np, hnp⟩ : ∃ np, (pfs fs).length = np := ⟨_, rfl⟩
    have HNp := Hid.of hnp
    rw [hnp] at hpl ⊢
    clear hnp
    go_wp2_with fail
    refine (lengthOf_walk ab nb cb' hnb w2 (HW.out.up HU2.out).gn).mono ?_
    rintro e w3 ⟨rfl, h9⟩
    have HU3 := Hid.of (HU2.out.trans h9)
    have HA3 := Hid.of (HA2.out.up h9)
    have Hu3 := Hid.of h9
    clear h9
    dsimp only
    go_wp2_with (with_reducible show wpList _ _ _ ({ dst := _, op := Op.call { callee := Callee.builtin Builtin.append, args := _, argTypes := _ }, type := _, pos := _, after := _, guard := _ } :: _) _ _; refine Shut.out ?_)
    show wpList _ _ _ _ _ _
    refine wpList_appFd (w := w3) (N := w1.heap.size) rfl _ _ rfl a2 c2 (pfs fs) (lnf nb) HNp.out rfl rfl (ow_up HO2.out Hu3.out) (Nat.le_trans HW1.out.size Hu3.out.size) (by omega) ?_
    intro a4 c4' w4 o4 u4 g4
    have HA4 := Hid.of (HA3.out.by g4 (fun e => by
      have h1 := ow_up HO2.out Hu3.out
      unfold FdO at h1
      rw [HNp.out] at h1
      have h2 := (World.ownsRow.lt h1 w.heap.size e).1
      have h3 := HS1.out
      omega))
    have hu4 := u4 w1 (HW1.out.trans Hu3.out) (Nat.le_refl _)
    have HU4 := Hid.of (HU0.out.trans hu4)
    have hZ := HZf.out
    rw [HFr0] at hZ
    have HFr := Hid.of HFr0
    have HNF0 : (pfs fs ++ [lnf nb]).length = np + 1 := by rw [List.length_append, HNp.out]; rfl
    have HF4 := Hid.of o4.fdl
    clear o4 u4 g4 hu4 HFr0 c4
    generalize pfs fs ++ [lnf nb] = F at HF4 HFr HNF0 hZ
    rw [← HNF0]
    clear HNF0
    have hFz : szs F ≤ 1099511627776 := by omega
    clear hZ
    simp only [Act.put, List.setIfInBounds_toArray, List.set_cons_zero, List.set_cons_succ]
    obtain ⟨nF, hnF⟩ : ∃ nF, F.length = nF := ⟨_, rfl⟩
    have HNF := Hid.of hnF
    have hnFc := HF4.out.cap
    have HCk := Hid.of (checkRequest_walk ad m t mi a fs.length c ab nb cb' cl a4 F c4' w4 HF4.out (HW.out.up HU4.out) hm ht hm0 hm1 hFz hnb)
    have HPm := Hid.of (fun (st : ByteArray) (w7 : World) (h1 : FdL w7 a4 F c4') (h2 : Sb w7 (.slice ab nb cb') bd) h3 h4 h5 => printMessage_walk st a4 F c4' ab nb cb' bd w7 h1 h2 h3 h4 h5)
    rw [hnF] at HCk HPm hnFc ⊢
    clear hnF
    go_wp2_with (with_reducible show wpList _ _ _ ({ dst := _, op := Op.load 48 _, type := _, pos := _, after := _, guard := _ } :: _) _ _; refine Shut.out ?_)
    show wpList _ _ _ _ _ _
    refine wpList_load_mid rfl _ _ rfl w.heap.size 0 rfl [.string m, .string t, .int .i64 mi, .slice a fs.length c, .slice ab nb cb', .bool cl] _ HA4.out.range Tryz.underlying48 rfl (by kernel_rfl) ?_
    simp only [Act.put, List.setIfInBounds_toArray, List.set_cons_zero, List.set_cons_succ]
    go_wp2_with fail
    refine HCk.out.mono ?_
    rintro e w6 ⟨rfl, h9⟩
    have HU6 := Hid.of (HU4.out.trans h9)
    have HA6 := Hid.of (HA4.out.up h9)
    have HF6 := Hid.of (HF4.out.up h9)
    clear h9
    dsimp only
    cases hck : ckq m t mi F nb with
    | some k =>
      have HE := Hid.of (show rv = .error k by rw [← HR.out]; unfold frQ; rw [← HBn.out, HFr.out, hck])
      have hk := ckq_lt hck
      rw [show eoV ad (some k) = ev (ad k) from rfl]
      have hne := ev_neq ad k
      clear hck
      go_wp2_with fail
      refine (numberOf_err ad k hk w6 (HW.out.up HU6.out).ge).mono ?_
      rintro e w7 ⟨rfl, h9⟩
      have HU7 := Hid.of (HU6.out.trans h9)
      clear h9
      dsimp only
      go_wp2
      go_ret2
      rw [HE.out]
      exact ⟨rfl, HU7.out⟩
    | none =>
      have HE := Hid.of (show rv = .ok (prt (frS m t mi) F bd) by rw [← HR.out]; unfold frQ; rw [← HBn.out, HFr.out, hck])
      obtain ⟨hq1, hq2, hq3⟩ := ckq_ok hck
      rw [show eoV ad none = Value.nilIface from rfl]
      have hvl := HVl.out
      have HSt := Hid.of (show (m ++ (⟨#[32]⟩ : ByteArray) ++ t ++ (⟨#[32]⟩ : ByteArray) ++ vt).data.toList = frS m t mi by rw [bat_app, bat_app, bat_app, bat_app]; unfold frS; rw [HVd.out])
      have hsz : (m ++ (⟨#[32]⟩ : ByteArray) ++ t ++ (⟨#[32]⟩ : ByteArray) ++ vt).size ≤ 1048576 := by
        rw [Go.Lib.size_eq, HSt.out]
        unfold frS
        simp only [List.length_append, List.length_cons, List.length_nil]
        rw [← Go.Lib.size_eq, ← Go.Lib.size_eq]
        omega
      have HPm := Hid.of (fun w7 h1 h2 => HPm.out (m ++ (⟨#[32]⟩ : ByteArray) ++ t ++ (⟨#[32]⟩ : ByteArray) ++ vt) w7 h1 h2 hsz (by omega) (by rw [← HBn.out]; exact hq3))
      rw [HSt.out] at HPm
      clear hsz HSt
      obtain ⟨L, hL⟩ : ∃ L, (prt (frS m t mi) F bd).length = L := ⟨_, rfl⟩
      have HL := Hid.of hL
      rw [hL] at HPm
      clear hL hck
      have hvl2 : (vtx mi).length = vl := HVn.out
      rw [hvl2] at hq1
      have hl1 : ¬ 9223372036854775807 < m.size + 1 := by omega
      have hl2 : ¬ 9223372036854775807 < m.size + 1 + t.size := by omega
      have hl3 : ¬ 9223372036854775807 < m.size + 1 + t.size + 1 := by omega
      have hl4 : ¬ 9223372036854775807 < m.size + 1 + t.size + 1 + vl := by omega
      go_wp2
      refine wp_region_held_drew (S := fun w2 => At w2 w.heap.size 48 [.string m, .string t, .int .i64 mi, .slice a fs.length c, .slice ab nb cb', .bool cl] ∧ GW w2 ad ∧ Up w w2) (by kernel_rfl) ⟨HA6.out.up (Up.refl _).drew, (HW.out.up HU6.out).up (Up.refl _).drew, HU6.out.drew⟩ (fun hS => ?_)
      refine wpAnyH_take (i := 0) (oi := { dst := some 26, op := Go.Op.fieldAddr 48 (Go.Operand.tmp 1) 0, type := 0, pos := "web.go:54", after := #[], guard := none }) (v := .pointer (some ⟨w.heap.size, 0, none⟩)) rfl (by kernel_rfl) (by kernel_rfl) (by kernel_rfl) (fun _ _ _ h => h) (Or.inl ⟨by kernel_rfl, ?_⟩) hS ?_
      · intro w5 hSw
        clear hSw hS
        go_simp
      simp only [Act.put, List.setIfInBounds_toArray, List.set_cons_zero, List.set_cons_succ]
      refine wpAnyH_take (i := 1) (oi := { dst := some 27, op := Go.Op.load 9 (Go.Operand.tmp 26), type := 9, pos := "web.go:54", after := #[{ on := 0, ground := Go.Ground.data }], guard := none }) (v := .string m) rfl (by kernel_rfl) (by kernel_rfl) (by kernel_rfl) (fun _ _ _ h => h) (Or.inl ⟨by kernel_rfl, ?_⟩) hS ?_
      · intro w5 hSw
        have h0 := hSw.1.cell (i := 0) rfl
        clear hSw hS
        go_simp
      simp only [Act.put, List.setIfInBounds_toArray, List.set_cons_zero, List.set_cons_succ]
      refine wpAnyH_take (i := 2) (oi := { dst := some 28, op := Go.Op.binOp Go.BinOp.add 9 (Go.Operand.tmp 27) (Go.Operand.const (Go.Value.string { data := #[32] })) 9, type := 9, pos := "web.go:54", after := #[{ on := 1, ground := Go.Ground.data }], guard := none }) (v := .string (m ++ (⟨#[32]⟩ : ByteArray))) rfl (by kernel_rfl) (by kernel_rfl) (by kernel_rfl) (fun _ _ _ h => h) (Or.inl ⟨by kernel_rfl, ?_⟩) hS ?_
      · intro w5 hSw
        clear hSw hS
        go_simp
      simp only [Act.put, List.setIfInBounds_toArray, List.set_cons_zero, List.set_cons_succ]
      refine wpAnyH_take (i := 3) (oi := { dst := some 29, op := Go.Op.fieldAddr 48 (Go.Operand.tmp 1) 1, type := 0, pos := "web.go:54", after := #[], guard := none }) (v := .pointer (some ⟨w.heap.size, 1, none⟩)) rfl (by kernel_rfl) (by kernel_rfl) (by kernel_rfl) (fun _ _ _ h => h) (Or.inl ⟨by kernel_rfl, ?_⟩) hS ?_
      · intro w5 hSw
        clear hSw hS
        go_simp
      simp only [Act.put, List.setIfInBounds_toArray, List.set_cons_zero, List.set_cons_succ]
      refine wpAnyH_take (i := 4) (oi := { dst := some 30, op := Go.Op.load 9 (Go.Operand.tmp 29), type := 9, pos := "web.go:54", after := #[{ on := 3, ground := Go.Ground.data }], guard := none }) (v := .string t) rfl (by kernel_rfl) (by kernel_rfl) (by kernel_rfl) (fun _ _ _ h => h) (Or.inl ⟨by kernel_rfl, ?_⟩) hS ?_
      · intro w5 hSw
        have h0 := hSw.1.cell (i := 1) rfl
        clear hSw hS
        go_simp
      simp only [Act.put, List.setIfInBounds_toArray, List.set_cons_zero, List.set_cons_succ]
      refine wpAnyH_take (i := 5) (oi := { dst := some 31, op := Go.Op.binOp Go.BinOp.add 9 (Go.Operand.tmp 28) (Go.Operand.tmp 30) 9, type := 9, pos := "web.go:54", after := #[{ on := 2, ground := Go.Ground.data }, { on := 4, ground := Go.Ground.data }], guard := none }) (v := .string (m ++ (⟨#[32]⟩ : ByteArray) ++ t)) rfl (by kernel_rfl) (by kernel_rfl) (by kernel_rfl) (fun _ _ _ h => h) (Or.inl ⟨by kernel_rfl, ?_⟩) hS ?_
      · intro w5 hSw
        clear hSw hS
        go_simp
      simp only [Act.put, List.setIfInBounds_toArray, List.set_cons_zero, List.set_cons_succ]
      refine wpAnyH_take (i := 6) (oi := { dst := some 32, op := Go.Op.binOp Go.BinOp.add 9 (Go.Operand.tmp 31) (Go.Operand.const (Go.Value.string { data := #[32] })) 9, type := 9, pos := "web.go:54", after := #[{ on := 5, ground := Go.Ground.data }], guard := none }) (v := .string (m ++ (⟨#[32]⟩ : ByteArray) ++ t ++ (⟨#[32]⟩ : ByteArray))) rfl (by kernel_rfl) (by kernel_rfl) (by kernel_rfl) (fun _ _ _ h => h) (Or.inl ⟨by kernel_rfl, ?_⟩) hS ?_
      · intro w5 hSw
        clear hSw hS
        go_simp
      simp only [Act.put, List.setIfInBounds_toArray, List.set_cons_zero, List.set_cons_succ]
      refine wpAnyH_take (i := 7) (oi := { dst := some 33, op := Go.Op.fieldAddr 48 (Go.Operand.tmp 1) 2, type := 0, pos := "web.go:54", after := #[], guard := none }) (v := .pointer (some ⟨w.heap.size, 2, none⟩)) rfl (by kernel_rfl) (by kernel_rfl) (by kernel_rfl) (fun _ _ _ h => h) (Or.inl ⟨by kernel_rfl, ?_⟩) hS ?_
      · intro w5 hSw
        clear hSw hS
        go_simp
      simp only [Act.put, List.setIfInBounds_toArray, List.set_cons_zero, List.set_cons_succ]
      refine wpAnyH_take (i := 8) (oi := { dst := some 34, op := Go.Op.load 3 (Go.Operand.tmp 33), type := 3, pos := "web.go:54", after := #[{ on := 7, ground := Go.Ground.data }], guard := none }) (v := .int .i64 mi) rfl (by kernel_rfl) (by kernel_rfl) (by kernel_rfl) (fun _ _ _ h => h) (Or.inl ⟨by kernel_rfl, ?_⟩) hS ?_
      · intro w5 hSw
        have h0 := hSw.1.cell (i := 2) rfl
        clear hSw hS
        go_simp
      simp only [Act.put, List.setIfInBounds_toArray, List.set_cons_zero, List.set_cons_succ]
      refine wpAnyH_take (i := 11) (oi := { dst := some 37, op := Go.Op.move (Go.Operand.tmp 4), type := 36, pos := "web.go:54", after := #[], guard := none }) (v := .slice a4 nF c4') rfl (by kernel_rfl) (by kernel_rfl) (by kernel_rfl) (fun _ _ _ h => h) (Or.inl ⟨by kernel_rfl, ?_⟩) hS ?_
      · intro w5 hSw
        clear hSw hS
        go_simp
      simp only [Act.put, List.setIfInBounds_toArray, List.set_cons_zero, List.set_cons_succ]
      refine wpAnyH_take (i := 12) (oi := { dst := some 38, op := Go.Op.fieldAddr 48 (Go.Operand.tmp 1) 4, type := 0, pos := "web.go:54", after := #[], guard := none }) (v := .pointer (some ⟨w.heap.size, 4, none⟩)) rfl (by kernel_rfl) (by kernel_rfl) (by kernel_rfl) (fun _ _ _ h => h) (Or.inl ⟨by kernel_rfl, ?_⟩) hS ?_
      · intro w5 hSw
        clear hSw hS
        go_simp
      simp only [Act.put, List.setIfInBounds_toArray, List.set_cons_zero, List.set_cons_succ]
      refine wpAnyH_take (i := 13) (oi := { dst := some 39, op := Go.Op.load 22 (Go.Operand.tmp 38), type := 22, pos := "web.go:54", after := #[{ on := 12, ground := Go.Ground.data }], guard := none }) (v := .slice ab nb cb') rfl (by kernel_rfl) (by kernel_rfl) (by kernel_rfl) (fun _ _ _ h => h) (Or.inl ⟨by kernel_rfl, ?_⟩) hS ?_
      · intro w5 hSw
        have h0 := hSw.1.cell (i := 4) rfl
        clear hSw hS
        go_simp
      simp only [Act.put, List.setIfInBounds_toArray, List.set_cons_zero, List.set_cons_succ]
      refine wpAnyH_ready (rs := [9]) (by kernel_rfl) (by simp) ?_
      refine AllReadyH.cons (o := { dst := some 35, op := Go.Op.call { callee := Go.Callee.value (Go.Operand.func 57), args := #[Go.Operand.tmp 34], argTypes := #[3] }, type := 9, pos := "web.go:54", after := #[{ on := 8, ground := Go.Ground.data }], guard := none }) rfl (fun K hK => ?_) AllReadyH.nil
      rw [if_pos (by kernel_rfl)]
      go_simp
      refine (versionText_walk mi hm0 hm1 w6.drew ((HW.out.up HU6.out).up (Up.refl _).drew).gn).mono ?_
      rintro e w7 ⟨rfl, h9⟩
      have HU7 := Hid.of (HU6.out.drew.trans h9)
      have HA7 := Hid.of ((HA6.out.up (Up.refl _).drew).up h9)
      have HF7 := Hid.of ((HF6.out.up (Up.refl _).drew).up h9)
      clear h9 hS
      rw [HVx.out]
      dsimp only
      refine hK.out _ _ ⟨HA7.out, HW.out.up HU7.out, HU7.out⟩ (fun hS => ?_)
      clear hK K
      refine wpAnyH_take (i := 10) (oi := { dst := some 36, op := Go.Op.binOp Go.BinOp.add 9 (Go.Operand.tmp 32) (Go.Operand.tmp 35) 9, type := 9, pos := "web.go:54", after := #[{ on := 6, ground := Go.Ground.data }, { on := 9, ground := Go.Ground.data }], guard := none }) (v := .string (m ++ (⟨#[32]⟩ : ByteArray) ++ t ++ (⟨#[32]⟩ : ByteArray) ++ vt)) rfl (by kernel_rfl) (by kernel_rfl) (by kernel_rfl) (fun _ _ _ h => h) (Or.inl ⟨by kernel_rfl, ?_⟩) hS ?_
      · intro w5 hSw
        clear hSw hS
        have hvz := HVz.out
        go_simp
      simp only [Act.put, List.setIfInBounds_toArray, List.set_cons_zero, List.set_cons_succ]
      refine wpAnyH_ready (rs := [14]) (by kernel_rfl) (by simp) ?_
      refine AllReadyH.cons (o := { dst := some 40, op := Go.Op.call { callee := Go.Callee.value (Go.Operand.func 56), args := #[Go.Operand.tmp 36, Go.Operand.tmp 37, Go.Operand.tmp 39], argTypes := #[9, 36, 22] }, type := 22, pos := "web.go:54", after := #[{ on := 10, ground := Go.Ground.data }, { on := 11, ground := Go.Ground.data }, { on := 13, ground := Go.Ground.data }, { on := 9, ground := Go.Ground.chain }], guard := none }) rfl (fun K hK => ?_) AllReadyH.nil
      rw [if_pos (by kernel_rfl)]
      go_simp
      refine (HPm.out w7 HF7.out (HB.out.up HU7.out)).mono ?_
      rintro e w8 ⟨⟨a8, c8, rfl, hO8⟩, h9⟩
      have HU8 := Hid.of (HU7.out.trans h9)
      have HA8 := Hid.of (HA7.out.up h9)
      have HO8 := Hid.of (show Ow w8 w.heap.size _ _ from ow_base hO8.out HU7.out.size)
      clear h9 hS hO8
      dsimp only
      refine hK.out _ _ ⟨HA8.out, HW.out.up HU8.out, HU8.out⟩ (fun hS => ?_)
      clear hK K
      refine wpAnyH_take (i := 15) (oi := { dst := some 2, op := Go.Op.assign (Go.Operand.tmp 40), type := 22, pos := "web.go:54", after := #[{ on := 14, ground := Go.Ground.data }, { on := 14, ground := Go.Ground.chain }, { on := 0, ground := Go.Ground.phase }, { on := 1, ground := Go.Ground.phase }, { on := 2, ground := Go.Ground.phase }, { on := 3, ground := Go.Ground.phase }, { on := 4, ground := Go.Ground.phase }, { on := 5, ground := Go.Ground.phase }, { on := 6, ground := Go.Ground.phase }, { on := 7, ground := Go.Ground.phase }, { on := 8, ground := Go.Ground.phase }, { on := 9, ground := Go.Ground.phase }, { on := 10, ground := Go.Ground.phase }, { on := 11, ground := Go.Ground.phase }, { on := 12, ground := Go.Ground.phase }, { on := 13, ground := Go.Ground.phase }, { on := 14, ground := Go.Ground.phase }], guard := none }) (v := .slice a8 L c8) rfl (by kernel_rfl) (by kernel_rfl) (by kernel_rfl) (fun _ _ _ h => h) (Or.inl ⟨by kernel_rfl, ?_⟩) hS ?_
      · intro w5 hSw
        clear hSw hS
        go_simp
      simp only [Act.put, List.setIfInBounds_toArray, List.set_cons_zero, List.set_cons_succ]
      refine wpAnyH_take (i := 16) (oi := { dst := some 3, op := Go.Op.assign (Go.Operand.const (Go.Value.int Go.IntKind.i64 0)), type := 58, pos := "web.go:54", after := #[{ on := 15, ground := Go.Ground.chain }, { on := 0, ground := Go.Ground.phase }, { on := 1, ground := Go.Ground.phase }, { on := 2, ground := Go.Ground.phase }, { on := 3, ground := Go.Ground.phase }, { on := 4, ground := Go.Ground.phase }, { on := 5, ground := Go.Ground.phase }, { on := 6, ground := Go.Ground.phase }, { on := 7, ground := Go.Ground.phase }, { on := 8, ground := Go.Ground.phase }, { on := 9, ground := Go.Ground.phase }, { on := 10, ground := Go.Ground.phase }, { on := 11, ground := Go.Ground.phase }, { on := 12, ground := Go.Ground.phase }, { on := 13, ground := Go.Ground.phase }, { on := 14, ground := Go.Ground.phase }, { on := 15, ground := Go.Ground.phase }], guard := none }) (v := .int .i64 0) rfl (by kernel_rfl) (by kernel_rfl) (by kernel_rfl) (fun _ _ _ h => h) (Or.inl ⟨by kernel_rfl, ?_⟩) hS ?_
      · intro w5 hSw
        clear hSw hS
        go_simp
      simp only [Act.put, List.setIfInBounds_toArray, List.set_cons_zero, List.set_cons_succ]
      clear hS
      refine wpAnyH_done (by kernel_rfl) ?_ _
      go_wp2
      go_ret2
      rw [HE.out]
      exact ⟨⟨a8, c8, by rw [HL.out]; rfl, Hid.of (by rw [HL.out]; exact HO8.out)⟩, HU8.out⟩
  · have hb0z : ¬ (0 : Int) < (nb : Int) := by omega
    have HFr := Hid.of (show frF fs nb = pfs fs by unfold frF; rw [if_neg hb0])
    have HF4 := Hid.of HO2.out.fdl
    have hZ := HZf.out
    rw [HFr.out] at hZ
    generalize pfs fs = F at HF4 HFr hZ ⊢
    have hFz : szs F ≤ 1099511627776 := by omega
    clear hZ
    obtain ⟨nF, hnF⟩ : ∃ nF, F.length = nF := ⟨_, rfl⟩
    have HNF := Hid.of hnF
    have hnFc := HF4.out.cap
    have HCk := Hid.of (checkRequest_walk ad m t mi a fs.length c ab nb cb' cl a2 F c2 w2 HF4.out (HW.out.up HU2.out) hm ht hm0 hm1 hFz hnb)
    have HPm := Hid.of (fun (st : ByteArray) (w7 : World) (h1 : FdL w7 a2 F c2) (h2 : Sb w7 (.slice ab nb cb') bd) h3 h4 h5 => printMessage_walk st a2 F c2 ab nb cb' bd w7 h1 h2 h3 h4 h5)
    rw [hnF] at HCk HPm hnFc ⊢
    clear hnF
    go_wp2_with (with_reducible show wpList _ _ _ ({ dst := _, op := Op.load 48 _, type := _, pos := _, after := _, guard := _ } :: _) _ _; refine Shut.out ?_)
    show wpList _ _ _ _ _ _
    refine wpList_load_mid rfl _ _ rfl w.heap.size 0 rfl [.string m, .string t, .int .i64 mi, .slice a fs.length c, .slice ab nb cb', .bool cl] _ HA2.out.range Tryz.underlying48 rfl (by kernel_rfl) ?_
    simp only [Act.put, List.setIfInBounds_toArray, List.set_cons_zero, List.set_cons_succ]
    go_wp2_with fail
    refine HCk.out.mono ?_
    rintro e w6 ⟨rfl, h9⟩
    have HU6 := Hid.of (HU2.out.trans h9)
    have HA6 := Hid.of (HA2.out.up h9)
    have HF6 := Hid.of (HF4.out.up h9)
    clear h9
    dsimp only
    cases hck : ckq m t mi F nb with
    | some k =>
      have HE := Hid.of (show rv = .error k by rw [← HR.out]; unfold frQ; rw [← HBn.out, HFr.out, hck])
      have hk := ckq_lt hck
      rw [show eoV ad (some k) = ev (ad k) from rfl]
      have hne := ev_neq ad k
      clear hck
      go_wp2_with fail
      refine (numberOf_err ad k hk w6 (HW.out.up HU6.out).ge).mono ?_
      rintro e w7 ⟨rfl, h9⟩
      have HU7 := Hid.of (HU6.out.trans h9)
      clear h9
      dsimp only
      go_wp2
      go_ret2
      rw [HE.out]
      exact ⟨rfl, HU7.out⟩
    | none =>
      have HE := Hid.of (show rv = .ok (prt (frS m t mi) F bd) by rw [← HR.out]; unfold frQ; rw [← HBn.out, HFr.out, hck])
      obtain ⟨hq1, hq2, hq3⟩ := ckq_ok hck
      rw [show eoV ad none = Value.nilIface from rfl]
      have hvl := HVl.out
      have HSt := Hid.of (show (m ++ (⟨#[32]⟩ : ByteArray) ++ t ++ (⟨#[32]⟩ : ByteArray) ++ vt).data.toList = frS m t mi by rw [bat_app, bat_app, bat_app, bat_app]; unfold frS; rw [HVd.out])
      have hsz : (m ++ (⟨#[32]⟩ : ByteArray) ++ t ++ (⟨#[32]⟩ : ByteArray) ++ vt).size ≤ 1048576 := by
        rw [Go.Lib.size_eq, HSt.out]
        unfold frS
        simp only [List.length_append, List.length_cons, List.length_nil]
        rw [← Go.Lib.size_eq, ← Go.Lib.size_eq]
        omega
      have HPm := Hid.of (fun w7 h1 h2 => HPm.out (m ++ (⟨#[32]⟩ : ByteArray) ++ t ++ (⟨#[32]⟩ : ByteArray) ++ vt) w7 h1 h2 hsz (by omega) (by rw [← HBn.out]; exact hq3))
      rw [HSt.out] at HPm
      clear hsz HSt
      obtain ⟨L, hL⟩ : ∃ L, (prt (frS m t mi) F bd).length = L := ⟨_, rfl⟩
      have HL := Hid.of hL
      rw [hL] at HPm
      clear hL hck
      have hvl2 : (vtx mi).length = vl := HVn.out
      rw [hvl2] at hq1
      have hl1 : ¬ 9223372036854775807 < m.size + 1 := by omega
      have hl2 : ¬ 9223372036854775807 < m.size + 1 + t.size := by omega
      have hl3 : ¬ 9223372036854775807 < m.size + 1 + t.size + 1 := by omega
      have hl4 : ¬ 9223372036854775807 < m.size + 1 + t.size + 1 + vl := by omega
      go_wp2
      refine wp_region_held_drew (S := fun w2 => At w2 w.heap.size 48 [.string m, .string t, .int .i64 mi, .slice a fs.length c, .slice ab nb cb', .bool cl] ∧ GW w2 ad ∧ Up w w2) (by kernel_rfl) ⟨HA6.out.up (Up.refl _).drew, (HW.out.up HU6.out).up (Up.refl _).drew, HU6.out.drew⟩ (fun hS => ?_)
      refine wpAnyH_take (i := 0) (oi := { dst := some 26, op := Go.Op.fieldAddr 48 (Go.Operand.tmp 1) 0, type := 0, pos := "web.go:54", after := #[], guard := none }) (v := .pointer (some ⟨w.heap.size, 0, none⟩)) rfl (by kernel_rfl) (by kernel_rfl) (by kernel_rfl) (fun _ _ _ h => h) (Or.inl ⟨by kernel_rfl, ?_⟩) hS ?_
      · intro w5 hSw
        clear hSw hS
        go_simp
      simp only [Act.put, List.setIfInBounds_toArray, List.set_cons_zero, List.set_cons_succ]
      refine wpAnyH_take (i := 1) (oi := { dst := some 27, op := Go.Op.load 9 (Go.Operand.tmp 26), type := 9, pos := "web.go:54", after := #[{ on := 0, ground := Go.Ground.data }], guard := none }) (v := .string m) rfl (by kernel_rfl) (by kernel_rfl) (by kernel_rfl) (fun _ _ _ h => h) (Or.inl ⟨by kernel_rfl, ?_⟩) hS ?_
      · intro w5 hSw
        have h0 := hSw.1.cell (i := 0) rfl
        clear hSw hS
        go_simp
      simp only [Act.put, List.setIfInBounds_toArray, List.set_cons_zero, List.set_cons_succ]
      refine wpAnyH_take (i := 2) (oi := { dst := some 28, op := Go.Op.binOp Go.BinOp.add 9 (Go.Operand.tmp 27) (Go.Operand.const (Go.Value.string { data := #[32] })) 9, type := 9, pos := "web.go:54", after := #[{ on := 1, ground := Go.Ground.data }], guard := none }) (v := .string (m ++ (⟨#[32]⟩ : ByteArray))) rfl (by kernel_rfl) (by kernel_rfl) (by kernel_rfl) (fun _ _ _ h => h) (Or.inl ⟨by kernel_rfl, ?_⟩) hS ?_
      · intro w5 hSw
        clear hSw hS
        go_simp
      simp only [Act.put, List.setIfInBounds_toArray, List.set_cons_zero, List.set_cons_succ]
      refine wpAnyH_take (i := 3) (oi := { dst := some 29, op := Go.Op.fieldAddr 48 (Go.Operand.tmp 1) 1, type := 0, pos := "web.go:54", after := #[], guard := none }) (v := .pointer (some ⟨w.heap.size, 1, none⟩)) rfl (by kernel_rfl) (by kernel_rfl) (by kernel_rfl) (fun _ _ _ h => h) (Or.inl ⟨by kernel_rfl, ?_⟩) hS ?_
      · intro w5 hSw
        clear hSw hS
        go_simp
      simp only [Act.put, List.setIfInBounds_toArray, List.set_cons_zero, List.set_cons_succ]
      refine wpAnyH_take (i := 4) (oi := { dst := some 30, op := Go.Op.load 9 (Go.Operand.tmp 29), type := 9, pos := "web.go:54", after := #[{ on := 3, ground := Go.Ground.data }], guard := none }) (v := .string t) rfl (by kernel_rfl) (by kernel_rfl) (by kernel_rfl) (fun _ _ _ h => h) (Or.inl ⟨by kernel_rfl, ?_⟩) hS ?_
      · intro w5 hSw
        have h0 := hSw.1.cell (i := 1) rfl
        clear hSw hS
        go_simp
      simp only [Act.put, List.setIfInBounds_toArray, List.set_cons_zero, List.set_cons_succ]
      refine wpAnyH_take (i := 5) (oi := { dst := some 31, op := Go.Op.binOp Go.BinOp.add 9 (Go.Operand.tmp 28) (Go.Operand.tmp 30) 9, type := 9, pos := "web.go:54", after := #[{ on := 2, ground := Go.Ground.data }, { on := 4, ground := Go.Ground.data }], guard := none }) (v := .string (m ++ (⟨#[32]⟩ : ByteArray) ++ t)) rfl (by kernel_rfl) (by kernel_rfl) (by kernel_rfl) (fun _ _ _ h => h) (Or.inl ⟨by kernel_rfl, ?_⟩) hS ?_
      · intro w5 hSw
        clear hSw hS
        go_simp
      simp only [Act.put, List.setIfInBounds_toArray, List.set_cons_zero, List.set_cons_succ]
      refine wpAnyH_take (i := 6) (oi := { dst := some 32, op := Go.Op.binOp Go.BinOp.add 9 (Go.Operand.tmp 31) (Go.Operand.const (Go.Value.string { data := #[32] })) 9, type := 9, pos := "web.go:54", after := #[{ on := 5, ground := Go.Ground.data }], guard := none }) (v := .string (m ++ (⟨#[32]⟩ : ByteArray) ++ t ++ (⟨#[32]⟩ : ByteArray))) rfl (by kernel_rfl) (by kernel_rfl) (by kernel_rfl) (fun _ _ _ h => h) (Or.inl ⟨by kernel_rfl, ?_⟩) hS ?_
      · intro w5 hSw
        clear hSw hS
        go_simp
      simp only [Act.put, List.setIfInBounds_toArray, List.set_cons_zero, List.set_cons_succ]
      refine wpAnyH_take (i := 7) (oi := { dst := some 33, op := Go.Op.fieldAddr 48 (Go.Operand.tmp 1) 2, type := 0, pos := "web.go:54", after := #[], guard := none }) (v := .pointer (some ⟨w.heap.size, 2, none⟩)) rfl (by kernel_rfl) (by kernel_rfl) (by kernel_rfl) (fun _ _ _ h => h) (Or.inl ⟨by kernel_rfl, ?_⟩) hS ?_
      · intro w5 hSw
        clear hSw hS
        go_simp
      simp only [Act.put, List.setIfInBounds_toArray, List.set_cons_zero, List.set_cons_succ]
      refine wpAnyH_take (i := 8) (oi := { dst := some 34, op := Go.Op.load 3 (Go.Operand.tmp 33), type := 3, pos := "web.go:54", after := #[{ on := 7, ground := Go.Ground.data }], guard := none }) (v := .int .i64 mi) rfl (by kernel_rfl) (by kernel_rfl) (by kernel_rfl) (fun _ _ _ h => h) (Or.inl ⟨by kernel_rfl, ?_⟩) hS ?_
      · intro w5 hSw
        have h0 := hSw.1.cell (i := 2) rfl
        clear hSw hS
        go_simp
      simp only [Act.put, List.setIfInBounds_toArray, List.set_cons_zero, List.set_cons_succ]
      refine wpAnyH_take (i := 11) (oi := { dst := some 37, op := Go.Op.move (Go.Operand.tmp 4), type := 36, pos := "web.go:54", after := #[], guard := none }) (v := .slice a2 nF c2) rfl (by kernel_rfl) (by kernel_rfl) (by kernel_rfl) (fun _ _ _ h => h) (Or.inl ⟨by kernel_rfl, ?_⟩) hS ?_
      · intro w5 hSw
        clear hSw hS
        go_simp
      simp only [Act.put, List.setIfInBounds_toArray, List.set_cons_zero, List.set_cons_succ]
      refine wpAnyH_take (i := 12) (oi := { dst := some 38, op := Go.Op.fieldAddr 48 (Go.Operand.tmp 1) 4, type := 0, pos := "web.go:54", after := #[], guard := none }) (v := .pointer (some ⟨w.heap.size, 4, none⟩)) rfl (by kernel_rfl) (by kernel_rfl) (by kernel_rfl) (fun _ _ _ h => h) (Or.inl ⟨by kernel_rfl, ?_⟩) hS ?_
      · intro w5 hSw
        clear hSw hS
        go_simp
      simp only [Act.put, List.setIfInBounds_toArray, List.set_cons_zero, List.set_cons_succ]
      refine wpAnyH_take (i := 13) (oi := { dst := some 39, op := Go.Op.load 22 (Go.Operand.tmp 38), type := 22, pos := "web.go:54", after := #[{ on := 12, ground := Go.Ground.data }], guard := none }) (v := .slice ab nb cb') rfl (by kernel_rfl) (by kernel_rfl) (by kernel_rfl) (fun _ _ _ h => h) (Or.inl ⟨by kernel_rfl, ?_⟩) hS ?_
      · intro w5 hSw
        have h0 := hSw.1.cell (i := 4) rfl
        clear hSw hS
        go_simp
      simp only [Act.put, List.setIfInBounds_toArray, List.set_cons_zero, List.set_cons_succ]
      refine wpAnyH_ready (rs := [9]) (by kernel_rfl) (by simp) ?_
      refine AllReadyH.cons (o := { dst := some 35, op := Go.Op.call { callee := Go.Callee.value (Go.Operand.func 57), args := #[Go.Operand.tmp 34], argTypes := #[3] }, type := 9, pos := "web.go:54", after := #[{ on := 8, ground := Go.Ground.data }], guard := none }) rfl (fun K hK => ?_) AllReadyH.nil
      rw [if_pos (by kernel_rfl)]
      go_simp
      refine (versionText_walk mi hm0 hm1 w6.drew ((HW.out.up HU6.out).up (Up.refl _).drew).gn).mono ?_
      rintro e w7 ⟨rfl, h9⟩
      have HU7 := Hid.of (HU6.out.drew.trans h9)
      have HA7 := Hid.of ((HA6.out.up (Up.refl _).drew).up h9)
      have HF7 := Hid.of ((HF6.out.up (Up.refl _).drew).up h9)
      clear h9 hS
      rw [HVx.out]
      dsimp only
      refine hK.out _ _ ⟨HA7.out, HW.out.up HU7.out, HU7.out⟩ (fun hS => ?_)
      clear hK K
      refine wpAnyH_take (i := 10) (oi := { dst := some 36, op := Go.Op.binOp Go.BinOp.add 9 (Go.Operand.tmp 32) (Go.Operand.tmp 35) 9, type := 9, pos := "web.go:54", after := #[{ on := 6, ground := Go.Ground.data }, { on := 9, ground := Go.Ground.data }], guard := none }) (v := .string (m ++ (⟨#[32]⟩ : ByteArray) ++ t ++ (⟨#[32]⟩ : ByteArray) ++ vt)) rfl (by kernel_rfl) (by kernel_rfl) (by kernel_rfl) (fun _ _ _ h => h) (Or.inl ⟨by kernel_rfl, ?_⟩) hS ?_
      · intro w5 hSw
        clear hSw hS
        have hvz := HVz.out
        go_simp
      simp only [Act.put, List.setIfInBounds_toArray, List.set_cons_zero, List.set_cons_succ]
      refine wpAnyH_ready (rs := [14]) (by kernel_rfl) (by simp) ?_
      refine AllReadyH.cons (o := { dst := some 40, op := Go.Op.call { callee := Go.Callee.value (Go.Operand.func 56), args := #[Go.Operand.tmp 36, Go.Operand.tmp 37, Go.Operand.tmp 39], argTypes := #[9, 36, 22] }, type := 22, pos := "web.go:54", after := #[{ on := 10, ground := Go.Ground.data }, { on := 11, ground := Go.Ground.data }, { on := 13, ground := Go.Ground.data }, { on := 9, ground := Go.Ground.chain }], guard := none }) rfl (fun K hK => ?_) AllReadyH.nil
      rw [if_pos (by kernel_rfl)]
      go_simp
      refine (HPm.out w7 HF7.out (HB.out.up HU7.out)).mono ?_
      rintro e w8 ⟨⟨a8, c8, rfl, hO8⟩, h9⟩
      have HU8 := Hid.of (HU7.out.trans h9)
      have HA8 := Hid.of (HA7.out.up h9)
      have HO8 := Hid.of (show Ow w8 w.heap.size _ _ from ow_base hO8.out HU7.out.size)
      clear h9 hS hO8
      dsimp only
      refine hK.out _ _ ⟨HA8.out, HW.out.up HU8.out, HU8.out⟩ (fun hS => ?_)
      clear hK K
      refine wpAnyH_take (i := 15) (oi := { dst := some 2, op := Go.Op.assign (Go.Operand.tmp 40), type := 22, pos := "web.go:54", after := #[{ on := 14, ground := Go.Ground.data }, { on := 14, ground := Go.Ground.chain }, { on := 0, ground := Go.Ground.phase }, { on := 1, ground := Go.Ground.phase }, { on := 2, ground := Go.Ground.phase }, { on := 3, ground := Go.Ground.phase }, { on := 4, ground := Go.Ground.phase }, { on := 5, ground := Go.Ground.phase }, { on := 6, ground := Go.Ground.phase }, { on := 7, ground := Go.Ground.phase }, { on := 8, ground := Go.Ground.phase }, { on := 9, ground := Go.Ground.phase }, { on := 10, ground := Go.Ground.phase }, { on := 11, ground := Go.Ground.phase }, { on := 12, ground := Go.Ground.phase }, { on := 13, ground := Go.Ground.phase }, { on := 14, ground := Go.Ground.phase }], guard := none }) (v := .slice a8 L c8) rfl (by kernel_rfl) (by kernel_rfl) (by kernel_rfl) (fun _ _ _ h => h) (Or.inl ⟨by kernel_rfl, ?_⟩) hS ?_
      · intro w5 hSw
        clear hSw hS
        go_simp
      simp only [Act.put, List.setIfInBounds_toArray, List.set_cons_zero, List.set_cons_succ]
      refine wpAnyH_take (i := 16) (oi := { dst := some 3, op := Go.Op.assign (Go.Operand.const (Go.Value.int Go.IntKind.i64 0)), type := 58, pos := "web.go:54", after := #[{ on := 15, ground := Go.Ground.chain }, { on := 0, ground := Go.Ground.phase }, { on := 1, ground := Go.Ground.phase }, { on := 2, ground := Go.Ground.phase }, { on := 3, ground := Go.Ground.phase }, { on := 4, ground := Go.Ground.phase }, { on := 5, ground := Go.Ground.phase }, { on := 6, ground := Go.Ground.phase }, { on := 7, ground := Go.Ground.phase }, { on := 8, ground := Go.Ground.phase }, { on := 9, ground := Go.Ground.phase }, { on := 10, ground := Go.Ground.phase }, { on := 11, ground := Go.Ground.phase }, { on := 12, ground := Go.Ground.phase }, { on := 13, ground := Go.Ground.phase }, { on := 14, ground := Go.Ground.phase }, { on := 15, ground := Go.Ground.phase }], guard := none }) (v := .int .i64 0) rfl (by kernel_rfl) (by kernel_rfl) (by kernel_rfl) (fun _ _ _ h => h) (Or.inl ⟨by kernel_rfl, ?_⟩) hS ?_
      · intro w5 hSw
        clear hSw hS
        go_simp
      simp only [Act.put, List.setIfInBounds_toArray, List.set_cons_zero, List.set_cons_succ]
      clear hS
      refine wpAnyH_done (by kernel_rfl) ?_ _
      go_wp2
      go_ret2
      rw [HE.out]
      exact ⟨⟨a8, c8, by rw [HL.out]; rfl, Hid.of (by rw [HL.out]; exact HO8.out)⟩, HU8.out⟩
end Go.Proofs.YtabpgpbcnadgcaaGreatDoor
namespace Go.Proofs.YtabpgpbcnadgcaaGreatDoor
open Go.RowKit Go.Shelf TextNum
/-! what is printed is read back, in plain lists -/
theorem indexByte_at (a b : List UInt8) (k : UInt8) (h : k ∉ a) : Go.Lib.indexByte (a ++ k :: b) k = (a.length : Int) := by
  have hat : (a ++ k :: b)[a.length]? = some k := by simp
  have hge := Go.Lib.indexByte_ge (a ++ k :: b) k
  by_cases h0 : 0 ≤ Go.Lib.indexByte (a ++ k :: b) k
  · obtain ⟨o, ho⟩ := Int.eq_ofNat_of_zero_le h0
    obtain ⟨h1, h2⟩ := Go.Lib.indexByte_some ho
    rw [ho]
    rcases Nat.lt_trichotomy o a.length with hlt | heq | hgt
    · rw [List.getElem?_append_left hlt] at h1
      exact absurd (List.mem_of_getElem? h1) h
    · rw [heq]
    · exact absurd hat (h2 _ hgt)
  · exact absurd hat (Go.Lib.indexByte_none (by omega) a.length)
theorem cut_at (a b : List UInt8) (k : UInt8) (h : k ∉ a) : Go.Lib.cut (a ++ k :: b) [k] = (a, b, true) := by
  unfold Go.Lib.cut
  rw [Go.Lib.index_one, indexByte_at a b k h, if_pos (by omega)]
  simp only [Int.toNat_natCast, List.length_cons, List.length_nil]
  rw [List.take_left' rfl]
  have e : (a ++ k :: b).drop (a.length + (0 + 1)) = b := by
    rw [← List.drop_drop, List.drop_left' rfl]
    rfl
  rw [e]
theorem fnl_at (a r : List UInt8) (h : (10 : UInt8) ∉ a) : fnl (a ++ 10 :: r) = some a.length := by
  unfold fnl
  rw [List.findIdx?_append, List.findIdx?_eq_none_iff.2 (fun x hx => by
    rw [beq_eq_false_iff_ne]
    intro e
    exact h (e ▸ hx))]
  simp [List.findIdx?_cons]
theorem tcr_at (a : List UInt8) : tcr (a ++ [13]) = a := by
  unfold tcr
  rw [if_pos (by simp), List.dropLast_concat]
theorem cutL_line {most : Nat} {s R : List UInt8} (h10 : (10 : UInt8) ∉ s) (hl : s.length ≤ most) : cutL most (s ++ 13 :: 10 :: R) = .ok (s, s.length + 2) := by
  have e : s ++ 13 :: 10 :: R = (s ++ [13]) ++ 10 :: R := by simp
  have hno : (10 : UInt8) ∉ s ++ [13] := by
    rw [List.mem_append]
    rintro (h | h)
    · exact h10 h
    · simp at h
  have hlen : (s ++ [13]).length = s.length + 1 := by simp
  have ht : ((s ++ [13]) ++ 10 :: R).take (most + 2) = (s ++ [13]) ++ 10 :: R.take (most - s.length) := by
    rw [List.take_append, List.take_of_length_le (by rw [hlen]; omega), hlen]
    rw [show most + 2 - (s.length + 1) = (most - s.length) + 1 by omega, List.take_succ_cons]
  unfold cutL
  rw [e, ht, fnl_at _ _ hno]
  dsimp only
  rw [List.take_left' rfl, tcr_at, if_neg (by omega), hlen]
/-- a field's line without its end -/
def bod (f : FD) : List UInt8 := f.n.data.toList ++ 58 :: 32 :: f.v.data.toList
theorem lnb_bod (f : FD) (R : List UInt8) : lnb f ++ R = bod f ++ 13 :: 10 :: R := by simp [lnb, bod]
theorem bod_len (f : FD) : (bod f).length + 2 = (lnb f).length := by
  simp only [lnb, bod, List.length_append, List.length_cons, List.length_nil]
  omega
theorem tkc_not {c : UInt8} (h : tkc c = true) : c ≠ 10 ∧ c ≠ 13 ∧ c ≠ 32 ∧ c ≠ 58 := by
  refine ⟨?_, ?_, ?_, ?_⟩ <;> (rintro rfl; revert h; decide)
theorem vlc_not {c : UInt8} (h : vlc c = true) : c ≠ 10 ∧ c ≠ 13 := by
  refine ⟨?_, ?_⟩ <;> (rintro rfl; revert h; decide)
theorem vis_not {c : UInt8} (h : vis c = true) : c ≠ 10 ∧ c ≠ 32 := by
  refine ⟨?_, ?_⟩ <;> (rintro rfl; revert h; decide)
theorem tok_all {l : List UInt8} (h : tok l = true) : ∀ c ∈ l, tkc c = true := by
  unfold tok at h
  rw [Bool.and_eq_true] at h
  exact List.all_eq_true.1 h.2
theorem tgt_all {l : List UInt8} (h : tgt l = true) : ∀ c ∈ l, vis c = true := by
  unfold tgt at h
  rw [Bool.and_eq_true] at h
  exact List.all_eq_true.1 h.2
theorem bod_no {f : FD} (h : mbf f = true) : (10 : UInt8) ∉ bod f := by
  unfold mbf at h
  rw [Bool.and_eq_true] at h
  intro hm
  unfold bod at hm
  rw [List.mem_append, List.mem_cons, List.mem_cons] at hm
  rcases hm with hm | hm | hm | hm
  · exact (tkc_not (tok_all h.1 _ hm)).1 rfl
  · revert hm; decide
  · revert hm; decide
  · exact (vlc_not (List.all_eq_true.1 h.2 _ hm)).1 rfl
theorem mfl_lines : ∀ (F : List FD) (fu : Nat) (R : List UInt8), F.length < fu → (∀ f ∈ F, mbf f = true) → (lbs F).length ≤ 16384 → mfl fu (lbs F ++ 13 :: 10 :: R) = some ((lbs F).length, (lbs F).length + 2)
  | [], fu + 1, R, _, _, _ => by
    unfold mfl
    have h := cutL_line (most := 16384) (s := []) (R := R) (by simp) (by simp)
    rw [List.nil_append] at h
    show (match cutL 16384 (13 :: 10 :: R) with | .error _ => none | .ok (ln, k) => if ln = [] then some (0, k) else _) = _
    rw [h]
    rfl
  | f :: r, fu + 1, R, hf, hg, hl => by
    have e2 : lbs (f :: r) = lnb f ++ lbs r := by simp [lbs]
    have hb := bod_len f
    rw [e2, List.length_append] at hl
    have ih := mfl_lines r fu R (by simp at hf; omega) (fun g hg' => hg g (List.mem_cons_of_mem _ hg')) (by omega)
    have hc := cutL_line (most := 16384) (s := bod f) (R := lbs r ++ 13 :: 10 :: R) (bod_no (hg f (List.mem_cons_self ..))) (by omega)
    unfold mfl
    rw [e2, List.append_assoc, lnb_bod, hc]
    dsimp only
    have hne : bod f ≠ [] := by simp [bod]
    rw [if_neg hne]
    have hd : (bod f ++ 13 :: 10 :: (lbs r ++ 13 :: 10 :: R)).drop ((bod f).length + 2) = lbs r ++ 13 :: 10 :: R := by
      rw [← List.drop_drop, List.drop_left' rfl]
      rfl
    rw [hd, ih]
    rw [List.length_append, ← hb]
    show some ((bod f).length + 2 + (lbs r).length, (bod f).length + 2 + ((lbs r).length + 2)) = _
    rw [Nat.add_assoc ((bod f).length + 2)]
theorem mF_lines {F : List FD} {R : List UInt8} (hg : ∀ f ∈ F, mbf f = true) (hl : szs F ≤ 16384) : mF (lbs F ++ 13 :: 10 :: R) = .ok ((lbs F).length, (lbs F).length + 2) := by
  have h1 := lbs_len F
  have h2 := szs_len F
  have ht : (lbs F ++ 13 :: 10 :: R).take 16384 = lbs F ++ 13 :: 10 :: R.take (16384 - ((lbs F).length + 2)) := by
    rw [List.take_append, List.take_of_length_le (by omega)]
    rw [show 16384 - (lbs F).length = (16384 - ((lbs F).length + 2)) + 1 + 1 by omega, List.take_succ_cons, List.take_succ_cons]
  unfold mF
  rw [ht, mfl_lines F _ _ (by simp only [List.length_append, List.length_cons]; omega) hg (by omega)]
theorem cHd_prt {st : List UInt8} {F : List FD} {R : List UInt8} (h10 : (10 : UInt8) ∉ st) (hs : st.length ≤ 8000) (hg : ∀ f ∈ F, mbf f = true) (hl : szs F ≤ 16384) : cHd 9 (st ++ 13 :: 10 :: (lbs F ++ 13 :: 10 :: R)) = .ok (st, lbs F, st.length + 2 + ((lbs F).length + 2)) := by
  unfold cHd
  rw [cutL_line h10 hs]
  dsimp only
  have hd : (st ++ 13 :: 10 :: (lbs F ++ 13 :: 10 :: R)).drop (st.length + 2) = lbs F ++ 13 :: 10 :: R := by
    rw [← List.drop_drop, List.drop_left' rfl]
    rfl
  rw [hd, mF_lines hg hl]
  dsimp only
  rw [List.take_left' rfl]
/-- no blank stands at its ends -/
def blk (c : UInt8) : Bool := bks.data.toList.contains c
def tidy (v : List UInt8) : Prop := (∀ x, v.head? = some x → blk x = false) ∧ (∀ x, v.getLast? = some x → blk x = false)
theorem trm_def (v : List UInt8) : trm v = ((v.reverse.dropWhile blk).reverse).dropWhile blk := rfl
theorem dw_tidy {v : List UInt8} (h : ∀ x, v.head? = some x → blk x = false) : v.dropWhile blk = v := by
  cases v with
  | nil => rfl
  | cons x r =>
    rw [List.dropWhile_cons, h x rfl]
    rfl
theorem dw_head (v : List UInt8) : ∀ x, (v.dropWhile blk).head? = some x → blk x = false := by
  induction v with
  | nil => intro x h; cases h
  | cons y r ih =>
    intro x h
    rw [List.dropWhile_cons] at h
    cases hy : blk y with
    | true =>
      rw [hy] at h
      exact ih x h
    | false =>
      rw [hy] at h
      injection h with h
      rw [← h]
      exact hy
theorem trm_id {v : List UInt8} (h : tidy v) : trm v = v := by
  rw [trm_def, dw_tidy (v := v.reverse) (by intro x hx; rw [List.head?_reverse] at hx; exact h.2 x hx), List.reverse_reverse, dw_tidy h.1]
theorem trm_sp {v : List UInt8} (h : tidy v) : trm (32 :: v) = v := by
  by_cases hv : v = []
  · subst hv
    decide
  · have e : (32 :: v).reverse.dropWhile blk = (32 :: v).reverse := dw_tidy (by
      intro x hx
      rw [List.head?_reverse] at hx
      refine h.2 x ?_
      rw [List.getLast?_cons] at hx
      rw [List.getLast?_eq_some_getLast hv] at hx ⊢
      simpa using hx)
    rw [trm_def, e, List.reverse_reverse, List.dropWhile_cons, if_pos (by decide), dw_tidy h.1]
theorem trm_tidy (v : List UInt8) : tidy (trm v) := by
  refine ⟨fun x hx => ?_, fun x hx => ?_⟩
  · rw [trm_def] at hx
    exact dw_head _ x hx
  · rw [trm_def] at hx
    refine dw_head v.reverse x ?_
    have h1 := List.takeWhile_append_dropWhile (p := blk) (l := (v.reverse.dropWhile blk).reverse)
    have h2 : ((v.reverse.dropWhile blk).reverse).getLast? = some x := by
      rw [← h1, List.getLast?_append, hx]
      rfl
    rw [List.getLast?_reverse] at h2
    exact h2
/-- a field that is read back as it is -/
def gud (f : FD) : Prop := mbf f = true ∧ tidy f.v.data.toList
theorem cut_bod {f : FD} (h : mbf f = true) : Go.Lib.cut (bod f) [58] = (f.n.data.toList, 32 :: f.v.data.toList, true) := by
  unfold mbf at h
  rw [Bool.and_eq_true] at h
  exact cut_at _ _ 58 (fun hm => (tkc_not (tok_all h.1 _ hm)).2.2.2 rfl)
theorem fln_bod {f : FD} (h : gud f) : fln (bod f ++ [13]) = f := by
  unfold fln c1 c2
  rw [tcr_at, cut_bod h.1]
  dsimp only
  rw [trm_sp h.2]
theorem fok_bod {f : FD} (h : gud f) : fok (bod f ++ [13]) = true := by
  have h1 := h.1
  unfold mbf at h1
  unfold fok c1 c2
  rw [tcr_at, cut_bod h.1]
  dsimp only
  rw [trm_sp h.2, h1]
  rfl
theorem lbs_join (F : List FD) : lbs F = joinL (F.map fun f => bod f ++ [13]) := by
  induction F with
  | nil => rfl
  | cons f r ih =>
    rw [List.map_cons, joinL_cons, ← ih]
    have := lnb_bod f (lbs r)
    simp only [lbs, List.flatMap_cons] at this ⊢
    rw [this]
    simp
theorem lbs_lines {F : List FD} (h : ∀ f ∈ F, mbf f = true) : linesOf (lbs F) = F.map fun f => bod f ++ [13] := by
  rw [lbs_join]
  refine lines_join _ fun x hx => ?_
  obtain ⟨f, hf, rfl⟩ := List.mem_map.1 hx
  rw [List.mem_append]
  rintro (h1 | h1)
  · exact bod_no (h f hf) h1
  · simp at h1
theorem lbs_count {F : List FD} (h : ∀ f ∈ F, mbf f = true) : Go.Lib.countByte (lbs F) 10 = F.length := by
  unfold Go.Lib.countByte
  induction F with
  | nil => rfl
  | cons f r ih =>
    have e2 : lbs (f :: r) = bod f ++ 13 :: 10 :: lbs r := by
      have : lbs (f :: r) = lnb f ++ lbs r := by simp [lbs]
      rw [this, lnb_bod]
    rw [e2, List.count_append, List.count_eq_zero_of_not_mem (bod_no (h f (List.mem_cons_self ..)))]
    have ih' := ih (fun g hg => h g (List.mem_cons_of_mem _ hg))
    rw [List.count_cons, List.count_cons, ih', List.length_cons]
    simp
theorem rdf_lbs {F : List FD} (h : ∀ f ∈ F, gud f) (hl : F.length ≤ 64) : rdf (lbs F) = .ok F := by
  have hm : ∀ f ∈ F, mbf f = true := fun f hf => (h f hf).1
  unfold rdf
  rw [lbs_count hm, if_neg (by omega), lbs_lines hm, if_pos ?_]
  · rw [List.map_map]
    congr 1
    have : ∀ f ∈ F, (fln ∘ fun f => bod f ++ [13]) f = f := fun f hf => fln_bod (h f hf)
    rw [List.map_congr_left this, List.map_id']
  · rw [List.all_map, List.all_eq_true]
    intro f hf
    exact fok_bod (h f hf)
end Go.Proofs.YtabpgpbcnadgcaaGreatDoor
namespace Go.Proofs.YtabpgpbcnadgcaaGreatDoor
open Go.RowKit Go.Shelf TextNum
theorem mnr_or {mi : Int} (h : mnr mi = true) : mi = 0 ∨ mi = 1 := by
  unfold mnr at h
  rw [Bool.or_eq_true] at h
  rcases h with h | h
  · exact .inl (by simpa using h)
  · exact .inr (by simpa using h)
theorem vtx_facts {mi : Int} (h : mnr mi = true) : vok (vtx mi) = true ∧ mno ⟨(vtx mi).toArray⟩ = .ok mi ∧ (10 : UInt8) ∉ vtx mi := by
  rcases mnr_or h with rfl | rfl
  · rw [show vtx 0 = [72, 84, 84, 80, 47, 49, 46, 48] by decide +kernel]
    exact ⟨by decide +kernel, by unfold mno; rw [if_pos (by decide +kernel)], by decide +kernel⟩
  · rw [show vtx 1 = [72, 84, 84, 80, 47, 49, 46, 49] by decide +kernel]
    exact ⟨by decide +kernel, by unfold mno; rw [if_neg (by decide +kernel), if_pos (by decide +kernel)], by decide +kernel⟩
theorem rql_frS {m t : ByteArray} {mi : Int} (hm : tok m.data.toList = true) (ht : tgt t.data.toList = true) (hk : mtk m = true) (hi : mnr mi = true) : rql (frS m t mi) = .ok (m.data.toList, t.data.toList, mi) := by
  obtain ⟨h1, h2, _⟩ := vtx_facts hi
  have e : frS m t mi = m.data.toList ++ 32 :: (t.data.toList ++ 32 :: vtx mi) := by simp [frS]
  have k1 := cut_at m.data.toList (t.data.toList ++ 32 :: vtx mi) 32 (fun h => (tkc_not (tok_all hm _ h)).2.2.1 rfl)
  have k2 := cut_at t.data.toList (vtx mi) 32 (fun h => (vis_not (tgt_all ht _ h)).2 rfl)
  have e1 : c1 32 (frS m t mi) = m.data.toList := by unfold c1; rw [e, k1]
  have e2 : c2 32 (frS m t mi) = t.data.toList ++ 32 :: vtx mi := by unfold c2; rw [e, k1]
  have e3 : c1 32 (t.data.toList ++ 32 :: vtx mi) = t.data.toList := by unfold c1; rw [k2]
  have e4 : c2 32 (t.data.toList ++ 32 :: vtx mi) = vtx mi := by unfold c2; rw [k2]
  unfold rql
  rw [e1, e2, e3, e4, hm, ht, h1, h2, if_neg (by simp), if_neg (by rw [hk]; simp)]
theorem frS_no {m t : ByteArray} {mi : Int} (hm : tok m.data.toList = true) (ht : tgt t.data.toList = true) (hi : mnr mi = true) : (10 : UInt8) ∉ frS m t mi := by
  obtain ⟨_, _, h3⟩ := vtx_facts hi
  unfold frS
  simp only [List.mem_append, List.mem_cons, List.not_mem_nil, or_false]
  rintro ((((h | h) | h) | h) | h)
  · exact (tkc_not (tok_all hm _ h)).1 rfl
  · revert h; decide
  · exact (vis_not (tgt_all ht _ h)).1 rfl
  · revert h; decide
  · exact h3 h
theorem frS_len (m t : ByteArray) (mi : Int) : (frS m t mi).length = m.size + 1 + t.size + 1 + (vtx mi).length := by
  have h1 := Go.Lib.size_eq m
  have h2 := Go.Lib.size_eq t
  simp only [frS, List.length_append, List.length_cons, List.length_nil]
  omega
theorem dig_facts {c : UInt8} (h : TextNum.isD c = true) : vlc c = true ∧ blk c = false := by
  have hh := TextNum.isD_iff.1 h
  constructor
  · unfold vlc ctl
    have h1 : ¬ c.toNat < 32 := by omega
    have h2 : ¬ c.toNat = 127 := by omega
    simp [h1, h2]
  · unfold blk bks
    have h1 : c ≠ 32 := by rintro rfl; revert h; decide
    have h2 : c ≠ 9 := by rintro rfl; revert h; decide
    simp [h1, h2]
theorem lnf_gud (n : Nat) : gud (lnf n) := by
  have hv : (lnf n).v.data.toList = Go.Lib.decDigits n := by
    show Go.Lib.itoa (n : Int) = _
    exact itoa_nat n
  have hall := dec_all n
  rw [List.all_eq_true] at hall
  refine ⟨?_, ?_⟩
  · unfold mbf
    rw [hv]
    have h1 : tok (lnf n).n.data.toList = true := by show tok ctlN.data.toList = true; decide +kernel
    rw [h1, Bool.true_and]
    unfold vlu
    rw [List.all_eq_true]
    intro c hc
    exact (dig_facts (hall c hc)).1
  · rw [hv]
    refine ⟨fun x hx => ?_, fun x hx => ?_⟩
    · exact (dig_facts (hall x (List.mem_of_head? hx))).2
    · exact (dig_facts (hall x (List.mem_of_getLast? hx))).2
theorem tfd_n (f : FD) : (tfd f).n = f.n := rfl
theorem pfs_tidy {fs : List FD} {f : FD} (h : f ∈ pfs fs) : tidy f.v.data.toList ∧ tls f = false := by
  unfold pfs at h
  obtain ⟨g, hg, rfl⟩ := List.mem_map.1 h
  have hk := (List.mem_filter.1 hg).2
  refine ⟨trm_tidy _, ?_⟩
  unfold kep at hk
  unfold tls
  rw [tfd_n]
  simpa using hk
theorem ckf_none {fs : List FD} (h : ckf fs = none) : fs.length ≤ 64 ∧ ∀ f ∈ fs, mbf f = true := by
  unfold ckf at h
  split at h
  · cases h
  · split at h
    · cases h
    · rename_i h1 h2
      refine ⟨by omega, ?_⟩
      rw [Bool.not_eq_false] at h2
      exact List.all_eq_true.1 h2
theorem ckq_none {m t : ByteArray} {mi : Int} {fs : List FD} {nb : Nat} (h : ckq m t mi fs nb = none) : tok m.data.toList = true ∧ tgt t.data.toList = true ∧ mtk m = true ∧ mnr mi = true ∧ ckf fs = none ∧ ckh fs mi = none := by
  unfold ckq at h
  repeat' split at h
  all_goals first
    | (cases h; done)
    | (refine ⟨?_, ?_, ?_, ?_, ?_, ?_⟩ <;> simp_all)
theorem frl_itoa {n : Nat} (h : n ≤ 1048576) : frl (Go.Lib.itoa (n : Int)) = .ok (2, n) := by
  have hlen := itoa_len (n : Int) (by omega) (by omega)
  have hp : prs (Go.Lib.itoa (n : Int)) 1048576 = ((n : Int), 0) := by
    have hn := nv_dec n
    have e := itoa_nat n
    rw [prs_ok (by omega) (by rw [e]; exact isN_dec n) (by rw [e, hn]; omega) (by rw [e, hn]; omega), e, hn]
  unfold frl
  rw [hp, if_pos rfl]
  simp
theorem lnf_tls (n : Nat) : tls (lnf n) = true ∧ isc (lnf n) = false := by
  have h : kdf (lnf n).n = 4 := by show kdf ctlN = 4; decide +kernel
  unfold tls isc
  rw [h]
  decide
theorem tls_isc {f : FD} (h : tls f = false) : isc f = false := by
  unfold tls at h
  unfold isc
  rw [Bool.or_eq_false_iff] at h
  exact h.1
theorem pfs_count (fs : List FD) : (pfs fs).countP tls = 0 := by
  rw [List.countP_eq_zero]
  intro f hf
  rw [(pfs_tidy hf).2]
  simp
theorem frm_frF {fs : List FD} {mi : Int} {n : Nat} (h : n ≤ 1048576) : frm (frF fs n) mi 0 = if 0 < n then .ok (2, n) else .ok (0, 0) := by
  have hc := pfs_count fs
  have hi : (pfs fs).any isc = false := by
    rw [List.any_eq_false]
    intro f hf
    rw [tls_isc (pfs_tidy hf).2]
    simp
  have hb : ∀ F : List FD, F.any isc = false → F.any (bdc mi) = false := by
    intro F hF
    rw [List.any_eq_false] at hF ⊢
    intro f hf
    unfold bdc
    have := hF f hf
    simp only [Bool.not_eq_true] at this
    rw [this]
    simp
  unfold frm frF
  by_cases h0 : 0 < n
  · obtain ⟨k1, k2⟩ := lnf_tls n
    have ha : (pfs fs ++ [lnf n]).any isc = false := by rw [List.any_append, hi]; simp [k2]
    have hcn : (pfs fs ++ [lnf n]).countP tls = 1 := by rw [List.countP_append, hc]; simp [k1]
    rw [if_pos h0, if_pos h0, hb _ ha, ha, hcn, if_neg (by simp), if_neg (by omega), if_neg (by omega), if_neg (by simp), lst_yes k1]
    exact frl_itoa h
  · rw [if_neg h0, if_neg h0, hb _ hi, hc, if_neg (by simp), if_neg (by omega), if_pos rfl]
/-- what is printed is read back whole -/
theorem rqP_prt {m t : ByteArray} {mi : Int} {fs : List FD} {bd : List UInt8} (h : ckq m t mi (frF fs bd.length) bd.length = none) (tl : List UInt8) :
    rqP (prt (frS m t mi) (frF fs bd.length) bd ++ tl) = .ok ((⟨m.data.toList, t.data.toList, mi, frF fs bd.length⟩, bd), (prt (frS m t mi) (frF fs bd.length) bd).length) := by
  obtain ⟨h1, h2, h3⟩ := ckq_ok h
  obtain ⟨k1, k2, k3, k4, k5, k6⟩ := ckq_none h
  obtain ⟨f1, f2⟩ := ckf_none k5
  have hg : ∀ f ∈ frF fs bd.length, gud f := by
    intro f hf
    refine ⟨f2 f hf, ?_⟩
    unfold frF at hf
    split at hf
    · rcases List.mem_append.1 hf with hf | hf
      · exact (pfs_tidy hf).1
      · rw [List.mem_singleton.1 hf]
        exact (lnf_gud _).2
    · exact (pfs_tidy hf).1
  have hfr := frm_frF (fs := fs) (mi := mi) h3
  generalize frF fs bd.length = F at *
  have hsl := frS_len m t mi
  have hno := frS_no (m := m) (t := t) (mi := mi) k1 k2 k4
  have hrl := rql_frS k1 k2 k3 k4
  have e : prt (frS m t mi) F bd ++ tl = frS m t mi ++ 13 :: 10 :: (lbs F ++ 13 :: 10 :: (bd ++ tl)) := by simp [prt]
  have el : (prt (frS m t mi) F bd).length = (frS m t mi).length + 2 + ((lbs F).length + 2) + bd.length := by
    simp only [prt, List.length_append, List.length_cons, List.length_nil]
    omega
  rw [el]
  generalize frS m t mi = st at *
  have hd : (st ++ 13 :: 10 :: (lbs F ++ 13 :: 10 :: (bd ++ tl))).drop (st.length + 2 + ((lbs F).length + 2)) = bd ++ tl := by
    have e2 : st ++ 13 :: 10 :: (lbs F ++ 13 :: 10 :: (bd ++ tl)) = (st ++ 13 :: 10 :: (lbs F ++ [13, 10])) ++ (bd ++ tl) := by simp
    rw [e2]
    refine List.drop_left' ?_
    simp only [List.length_append, List.length_cons, List.length_nil]
    omega
  unfold rqP msg
  rw [e, cHd_prt hno (by omega) f2 h2]
  dsimp only
  have hrg : rqg st (lbs F) = .ok (⟨m.data.toList, t.data.toList, mi, F⟩, if 0 < bd.length then 2 else 0, bd.length) := by
    unfold rqg
    rw [hrl]
    dsimp only
    rw [rdf_lbs hg f1]
    dsimp only
    rw [k6]
    dsimp only
    rw [hfr]
    by_cases hb0 : 0 < bd.length
    · rw [if_pos hb0, if_pos hb0]
    · rw [if_neg hb0, if_neg hb0]
      have hbz : bd.length = 0 := by omega
      rw [hbz]
  rw [hrg]
  dsimp only
  rw [hd]
  have hfc : fcu (if 0 < bd.length then 2 else 0) bd.length (bd ++ tl) = .ok (bd, bd.length) := by
    split
    · unfold fcu
      rw [if_neg (by decide), if_neg (by decide), if_pos rfl, if_neg (by simp), List.take_left' rfl]
    · have h0 : bd = [] := List.eq_nil_of_length_eq_zero (by omega)
      subst h0
      unfold fcu
      rw [if_neg (by decide), if_neg (by decide), if_neg (by decide)]
      rfl
  rw [hfc]
end Go.Proofs.YtabpgpbcnadgcaaGreatDoor
namespace Go.Proofs.YtabpgpbcnadgcaaGreatDoor
open Go.RowKit Go.Shelf TextNum
def pdd (b : List UInt8) (pad : Int) : List UInt8 := b ++ List.replicate (min pad.toNat 1100000) 120
set_option maxRecDepth 100000 in
set_option maxHeartbeats 1000000 in
theorem padded_walk (v : Value) (b : List UInt8) (pad : Int) (hb : b.length ≤ 1099511627) (w : World) (hS : Sb w v b) : Calls Tryz.prog 23 #[v, .int .i64 pad] w fun e w' => ∃ v', e = .returned v' ∧ Ow w' w.heap.size v' (pdd b pad) ∧ Up w w' := by
  have HS := Hid.of hS
  have HPd := Hid.of (show pdd b pad = b ++ List.replicate (min pad.toNat 1100000) 120 from rfl)
  clear hS
  obtain ⟨nb, hnb⟩ : ∃ nb, b.length = nb := ⟨_, rfl⟩
  have HNb := Hid.of hnb
  rw [hnb] at hb
  clear hnb
  obtain ⟨aV, nV, cV, rfl⟩ := Sb.shape HS.out
  go_enter Tryz.func23, Tryz.ntmps23
  go_wp2_with (with_reducible show wpList _ _ _ ({ dst := _, op := Op.call { callee := Callee.builtin Builtin.append, args := _, argTypes := _ }, type := _, pos := _, after := _, guard := _ } :: _) _ _; refine Shut.out ?_)
  show wpList _ _ _ _ _ _
  refine wpList_appSb (N := w.heap.size) rfl _ _ rfl none 0 [] _ b rfl rfl HS.out (World.ownsRow_nil _ _ _ _) (Nat.le_refl _) (by rw [HNb.out]; omega) ?_
  intro a1 c1' w1 o1 hu1
  have HU1 := Hid.of (hu1 w (Up.refl w) (Nat.le_refl _))
  rw [HNb.out, Nat.zero_add, List.nil_append] at o1
  rw [HNb.out, Nat.zero_add]
  have HO1 := Hid.of o1
  clear o1 hu1
  simp only [Act.put, List.setIfInBounds_toArray, List.set_cons_zero, List.set_cons_succ]
  go_wp2
  go_loopw [5, 6] (fun v5 v6 wr => ∃ (i : Nat) (a5 : Option Addr) (c5 : Nat), v6 = .int .i64 (i : Int) ∧ v5 = .slice a5 (nb + i) c5 ∧ i ≤ 1100000 ∧ Hid (Up w wr ∧ wr.ownsRow w.heap.size 5 1 (.slice a5 (nb + i) c5) (nb + i) (cb (b ++ List.replicate i 120)) ∧ i ≤ min pad.toNat 1100000)) (fun _ v6 _ => 1100000 - (intOf v6).toNat)
  case atStart => exact ⟨0, a1, c1', rfl, rfl, by omega, Hid.of ⟨HU1.out, by simpa using HO1.out, Nat.zero_le _⟩⟩
  case round =>
    obtain ⟨i, a5, c5, rfl, rfl, hi, hQ⟩ := hrel
    have HQ := Hid.of hQ.out
    clear hQ
    by_cases hp : (i : Int) < pad
    · by_cases hm : i < 1100000
      · have hmz : (i : Int) < 1100000 := by omega
        have HX := Hid.of (show Sb (wr.alloc (.cells #[.int .u8 120] 5)) (.slice (some ⟨wr.heap.size, 0, none⟩) 1 1) [120] from by
          refine ⟨_, 1, rfl, by simp, by simp [maxLen], (fun e => by cases e), fun ad e => ?_⟩
          obtain rfl := Option.some.inj e
          exact ⟨fun _ => rfl, fun j u hj => by rw [Addr.add_lit]; exact At.cell (at_new wr 5 [.int .u8 120]) (i := 0 + j) (by rw [Nat.zero_add]; exact hj)⟩)
        go_wp2_with (with_reducible show wpList _ _ _ ({ dst := _, op := Op.call { callee := Callee.builtin Builtin.append, args := _, argTypes := _ }, type := _, pos := _, after := _, guard := _ } :: _) _ _; refine Shut.out ?_)
        show wpList _ _ _ _ _ _
        refine wpList_appSb (N := w.heap.size) rfl _ _ rfl a5 c5 (b ++ List.replicate i 120) _ [120] rfl rfl HX.out (ow_up HQ.out.2.1 ((Up.refl wr).alloc _)) (Nat.le_trans HQ.out.1.size (by rw [alloc_size]; omega)) (by simp; omega) ?_
        intro a2 c2' w2 o2 hu2
        have HU2 := Hid.of (hu2 w (HQ.out.1.alloc _) (Nat.le_refl _))
        have HO2 := Hid.of (show w2.ownsRow w.heap.size 5 1 (.slice a2 (nb + (i + 1)) c2') (nb + (i + 1)) (cb (b ++ List.replicate (i + 1) 120)) by
          rw [List.replicate_succ', ← List.append_assoc, ← Nat.add_assoc]
          exact o2)
        clear o2 hu2
        simp only [Act.put, List.setIfInBounds_toArray, List.set_cons_zero, List.set_cons_succ]
        simp only [List.length_cons, List.length_nil, Nat.zero_add]
        rw [show nb + i + 1 = nb + (i + 1) from Nat.add_assoc _ _ _]
        go_wp2
        go_roundw
        all_goals first
          | exact ⟨i + 1, a2, c2', by go_num, rfl, by omega, Hid.of ⟨HU2.out, HO2.out, by have := HQ.out.2.2; omega⟩⟩
          | (simp [intOf]; omega)
      · have hmz : ¬ (i : Int) < 1100000 := by omega
        have HE := Hid.of (show pdd b pad = b ++ List.replicate i 120 by rw [HPd.out, show min pad.toNat 1100000 = i by omega])
        have HL := Hid.of (show (b ++ List.replicate i 120).length = nb + i by simp [HNb.out])
        go_wp2
        go_ret
        refine ⟨_, rfl, ?_, HQ.out.1⟩
        rw [HE.out]
        unfold Ow
        rw [HL.out]
        exact HQ.out.2.1
    · have HE := Hid.of (show pdd b pad = b ++ List.replicate i 120 by rw [HPd.out, show min pad.toNat 1100000 = i by have := HQ.out.2.2; omega])
      have HL := Hid.of (show (b ++ List.replicate i 120).length = nb + i by simp [HNb.out])
      go_wp2
      go_ret
      refine ⟨_, rfl, ?_, HQ.out.1⟩
      rw [HE.out]
      unfold Ow
      rw [HL.out]
      exact HQ.out.2.1
end Go.Proofs.YtabpgpbcnadgcaaGreatDoor
namespace Go.Proofs.YtabpgpbcnadgcaaGreatDoor
open Go.RowKit Go.Shelf TextNum
/-- the request that known asks -/
def kn : List UInt8 := [80, 85, 84, 32, 47, 97, 32, 72, 84, 84, 80, 47, 49, 46, 49, 13, 10, 72, 111, 115, 116, 58, 32, 98, 13, 10, 67, 111, 110, 116, 101, 110, 116, 45, 76, 101, 110, 103, 116, 104, 58, 32, 50, 13, 10, 13, 10, 104, 105, 33]
def knX : Rq := ⟨[80, 85, 84], [47, 97], 1, [⟨⟨#[72, 111, 115, 116]⟩, ⟨#[98]⟩⟩, ⟨⟨#[67, 111, 110, 116, 101, 110, 116, 45, 76, 101, 110, 103, 116, 104]⟩, ⟨#[50]⟩⟩]⟩
theorem kn_hd : cHd 9 kn = .ok (kn.take 15, (kn.drop 17).take 28, 47) := by kernel_rfl
theorem kn_rql : rql (kn.take 15) = .ok ([80, 85, 84], [47, 97], 1) := by kernel_rfl
theorem kn_rdf : rdf ((kn.drop 17).take 28) = .ok knX.fs := by kernel_rfl
theorem kn_ckh : ckh knX.fs 1 = none := by kernel_rfl
theorem kn_frm : frm knX.fs 1 0 = .ok (2, 2) := by kernel_rfl
theorem kn_fcu : fcu 2 2 (kn.drop 47) = .ok ([104, 105], 2) := by kernel_rfl
theorem kn_cls : cls (knX.mi == 0) knX.fs = false := by kernel_rfl
theorem rq_kn : rqP kn = .ok ((knX, [104, 105]), 49) := by
  unfold rqP msg
  rw [kn_hd]
  dsimp only
  unfold rqg
  rw [kn_rql]
  dsimp only
  rw [kn_rdf]
  dsimp only
  rw [kn_ckh]
  dsimp only
  rw [kn_frm]
  dsimp only
  rw [kn_fcu]
  rfl
theorem kn_cells : (cb kn).toArray = #[.int .u8 80, .int .u8 85, .int .u8 84, .int .u8 32, .int .u8 47, .int .u8 97, .int .u8 32, .int .u8 72, .int .u8 84, .int .u8 84, .int .u8 80, .int .u8 47, .int .u8 49, .int .u8 46, .int .u8 49, .int .u8 13, .int .u8 10, .int .u8 72, .int .u8 111, .int .u8 115, .int .u8 116, .int .u8 58, .int .u8 32, .int .u8 98, .int .u8 13, .int .u8 10, .int .u8 67, .int .u8 111, .int .u8 110, .int .u8 116, .int .u8 101, .int .u8 110, .int .u8 116, .int .u8 45, .int .u8 76, .int .u8 101, .int .u8 110, .int .u8 103, .int .u8 116, .int .u8 104, .int .u8 58, .int .u8 32, .int .u8 50, .int .u8 13, .int .u8 10, .int .u8 13, .int .u8 10, .int .u8 104, .int .u8 105, .int .u8 33] := by kernel_rfl
/-- bytes of a constant -/
theorem sb_mkl (w : World) (l : List UInt8) (m : Nat × Nat) (hl : l.length ≤ 1048576) : Sb (w.alloc (.cells (cb l).toArray 5 m)) (.slice (some ⟨w.heap.size, 0, none⟩) l.length l.length) l := by
  refine ⟨_, l.length, rfl, Nat.le_refl _, by unfold maxLen; omega, (fun e => by cases e), fun ad e => ?_⟩
  obtain rfl := Option.some.inj e
  refine ⟨fun _ => rfl, fun j u hj => ?_⟩
  rw [Addr.add_lit]
  unfold World.cell?
  dsimp only
  rw [heap_alloc_new w _, Nat.zero_add]
  simpa using hj
theorem knV (a : Option Addr) (c : Nat) (v : Value) : rqV knX a c v = .agg #[.string ⟨#[80, 85, 84]⟩, .string ⟨#[47, 97]⟩, .int .i64 1, .slice a 2 c, v, .bool false] := by
  unfold rqV
  rw [kn_cls]
  rfl
set_option maxRecDepth 100000 in
set_option maxHeartbeats 2000000 in
theorem known_walk (ad : Nat → Addr) (w : World) (hW : GW w ad) : Calls Tryz.prog 7 #[] w fun e w' => e = .returned (.bool true) ∧ Up w w' := by
  have hcv := Go.Lib.run_convert_bytes_const (P := Tryz.prog) w 22 5 #[.int .u8 80, .int .u8 85, .int .u8 84, .int .u8 32, .int .u8 47, .int .u8 97, .int .u8 32, .int .u8 72, .int .u8 84, .int .u8 84, .int .u8 80, .int .u8 47, .int .u8 49, .int .u8 46, .int .u8 49, .int .u8 13, .int .u8 10, .int .u8 72, .int .u8 111, .int .u8 115, .int .u8 116, .int .u8 58, .int .u8 32, .int .u8 98, .int .u8 13, .int .u8 10, .int .u8 67, .int .u8 111, .int .u8 110, .int .u8 116, .int .u8 101, .int .u8 110, .int .u8 116, .int .u8 45, .int .u8 76, .int .u8 101, .int .u8 110, .int .u8 103, .int .u8 116, .int .u8 104, .int .u8 58, .int .u8 32, .int .u8 50, .int .u8 13, .int .u8 10, .int .u8 13, .int .u8 10, .int .u8 104, .int .u8 105, .int .u8 33] 50 50 Tryz.underlying22 Tryz.underlying5
  have HSk := Hid.of (sb_mkl w kn (50, 51) (by decide))
  rw [kn_cells] at HSk
  have HU1 := Hid.of ((Up.refl w).alloc (.cells #[.int .u8 80, .int .u8 85, .int .u8 84, .int .u8 32, .int .u8 47, .int .u8 97, .int .u8 32, .int .u8 72, .int .u8 84, .int .u8 84, .int .u8 80, .int .u8 47, .int .u8 49, .int .u8 46, .int .u8 49, .int .u8 13, .int .u8 10, .int .u8 72, .int .u8 111, .int .u8 115, .int .u8 116, .int .u8 58, .int .u8 32, .int .u8 98, .int .u8 13, .int .u8 10, .int .u8 67, .int .u8 111, .int .u8 110, .int .u8 116, .int .u8 101, .int .u8 110, .int .u8 116, .int .u8 45, .int .u8 76, .int .u8 101, .int .u8 110, .int .u8 103, .int .u8 116, .int .u8 104, .int .u8 58, .int .u8 32, .int .u8 50, .int .u8 13, .int .u8 10, .int .u8 13, .int .u8 10, .int .u8 104, .int .u8 105, .int .u8 33] 5 (50, 51)))
  have HPq := Hid.of (ParseRequest_walk ad (n := 50) (c := 50) (by decide) _ HSk.out (hW.up HU1.out))
  rw [rq_kn] at HPq
  clear hW HSk
  go_enter Tryz.func7, Tryz.ntmps7
  go_wp2_with fail
  refine HPq.out.mono ?_
  rintro e w2 ⟨⟨a, c, v, rfl, hO⟩, h9⟩
  have HU2 := Hid.of (HU1.out.trans h9)
  have HSb := Hid.of (Ow.sb hO.out.2)
  clear h9 hO hcv HPq HU1
  obtain ⟨aB, nB, cB, rfl⟩ := Sb.shape HSb.out
  rw [knV]
  dsimp only
  have HU3 := Hid.of ((Up.refl w2).alloc (.cells #[.string ⟨#[80, 85, 84]⟩, .string ⟨#[47, 97]⟩, .int .i64 1, .slice a 2 c, .slice aB nB cB, .bool false] 48))
  have cv := conv_sb2 (HSb.out.up HU3.out)
  go_wp2
  go_ret
  exact ⟨rfl, HU2.out.alloc _⟩
end Go.Proofs.YtabpgpbcnadgcaaGreatDoor
