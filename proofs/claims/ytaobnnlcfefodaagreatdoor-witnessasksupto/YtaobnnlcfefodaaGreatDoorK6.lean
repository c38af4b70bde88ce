import Derived.Test.YtaobnnlcfefodaaGreatDoorK1
import Derived.Stop.BytesEq
import Derived.Laws.StructEq
import Derived.Test.YtaobnnlcfefodaaGreatDoorK5
import Derived.Test.YtaobnnlcfefodaaGreatDoorGv
import Derived.OwnWalk
import Derived.Deep.MidRow
import Derived.Deep.RegionHeld3
namespace Go.Proofs.YtaobnnlcfefodaaGreatDoor
open Go.RowKit Go.Shelf TextNum
theorem equalH (d : Nat) (r q : List UInt8) (hr : r.length = 32) (hq : q.length = 32) (w : World) : (Op.equalIn (d + 2) 49 (.agg (cb r).toArray) (.agg (cb q).toArray)).run Tryz.prog w = .ok (r == q) w :=
  run_equalIn_bytes w d 49 5 32 Tryz.underlying49 Tryz.underlying5 (fun w => Tryz.sizeOf5 w) r q hr hq
theorem exec_neqH {op : Oper} {ρ : Operand → Value} {x y : Operand} {t : TypeId} (ho : op.op = .binOp .neq 49 x y t) (r : List UInt8) (hx : ρ x = .agg (cb r).toArray) (hy : ρ y = .agg (cb r).toArray) (hr : r.length = 32) (w : World) : (execOp ρ op).run Tryz.prog w = .ok (.value (.bool false)) w := by
  have hq := equalH 9998 r r hr hr w
  rw [show (r == r) = true from beq_self_eq_true r] at hq
  unfold execOp
  simp only [ho, hx, hy, Sem.run_bind, run_eqGuard_agg (P := Tryz.prog) (w := w) .neq 49 x y _ _ Tryz.eqGuardType49, run_neq_struct, hq, Result.andThen_ok, Sem.run_pure]
  rfl
set_option maxRecDepth 100000 in
set_option maxHeartbeats 4000000 in
theorem proofs_walk (v1 v2 : Value) (hs : List (List UInt8)) (w : World) (h1 : HL w v1 hs) (h2 : HL w v2 hs) (hl : hs.length ≤ 1048576) : Calls Tryz.prog 9 #[v1, v2] w fun e w' => e = .returned (.bool true) ∧ Up w w' := by
  obtain ⟨a1, c1, rfl, k1, x1⟩ := h1
  obtain ⟨a2, c2, rfl, k2, x2⟩ := h2
  have HX1 := Hid.of x1
  have HX2 := Hid.of x2
  obtain ⟨n, hn⟩ : ∃ n, hs.length = n := ⟨_, rfl⟩
  have HN := Hid.of (And.intro hn trivial)
  rw [hn] at k1 k2 hl ⊢
  clear x1 x2 hn
  go_enter Tryz.func9, Tryz.ntmps9
  go_wp2
  go_loopw [5] (fun v5 wr => ∃ i : Nat, v5 = .int .i64 (i : Int) ∧ i ≤ n ∧ Hid (Up w wr)) (fun v5 _ => n - (intOf v5).toNat)
  case atStart => exact ⟨0, rfl, by omega, Hid.of (Up.refl _)⟩
  case round =>
    obtain ⟨i, rfl, hi, HU⟩ := hrel
    by_cases hlt : i < n
    · have hltz : (i : Int) < (n : Int) := by omega
      have k1z : (n : Int) ≤ (c1 : Int) := by omega
      have k2z : (n : Int) ≤ (c2 : Int) := by omega
      have hiw : IntKind.i64.wrap ((i : Int) + 1) = (i : Int) + 1 := by rw [IntKind.wrap_i64]; omega
      have hil : i < hs.length := by rw [HN.out.1]; exact hlt
      obtain ⟨hx32, b1, o1, rfl, _, r1⟩ := HX1.out i hil
      obtain ⟨_, b2, o2, rfl, _, r2⟩ := HX2.out i hil
      obtain ⟨x, hx⟩ : ∃ x, hs[i] = x := ⟨_, rfl⟩
      rw [hx] at hx32 r1 r2
      have hcl : (cb x).length = 32 := by rw [cb_length]; exact hx32
      have HR1 := Hid.of (range_upW r1 HU.out)
      have HR2 := Hid.of (range_upW r2 HU.out)
      clear hx r1 r2
      go_wp2_with fail
      refine wp_region_held_drew (S := fun w2 => Up wr w2) (by kernel_rfl) (Up.refl wr).drew (fun hS => ?_)
      refine wpAnyH_take (i := 0) (oi := { dst := some 17, op := Go.Op.move (Go.Operand.tmp 0), type := 26, pos := "law.go:107", after := #[], guard := none }) (v := .slice (some ⟨b1, o1, none⟩) n c1) rfl (by kernel_rfl) (by kernel_rfl) (by kernel_rfl) (fun _ _ _ h => h) (Or.inl ⟨by kernel_rfl, ?_⟩) hS ?_
      · intro w5 hSw
        clear hSw hS
        go_simp
      simp only [Act.put, List.setIfInBounds_toArray, List.set_cons_zero, List.set_cons_succ]
      refine wpAnyH_take (i := 1) (oi := { dst := some 18, op := Go.Op.move (Go.Operand.tmp 5), type := 3, pos := "law.go:107", after := #[], guard := none }) (v := .int .i64 (i : Int)) rfl (by kernel_rfl) (by kernel_rfl) (by kernel_rfl) (fun _ _ _ h => h) (Or.inl ⟨by kernel_rfl, ?_⟩) hS ?_
      · intro w5 hSw
        clear hSw hS
        go_simp
      simp only [Act.put, List.setIfInBounds_toArray, List.set_cons_zero, List.set_cons_succ]
      refine wpAnyH_take (i := 2) (oi := { dst := some 19, op := Go.Op.indexAddr 26 (Go.Operand.tmp 17) (Go.Operand.tmp 18), type := 0, pos := "law.go:107", after := #[{ on := 0, ground := Go.Ground.data }, { on := 1, ground := Go.Ground.data }], guard := none }) (v := .pointer (some ⟨b1, o1 + i * 32, none⟩)) rfl (by kernel_rfl) (by kernel_rfl) (by kernel_rfl) (fun _ _ _ h => h) (Or.inl ⟨by kernel_rfl, ?_⟩) hS ?_
      · intro w5 hSw
        clear hSw hS
        go_simp
      simp only [Act.put, List.setIfInBounds_toArray, List.set_cons_zero, List.set_cons_succ]
      refine wpAnyH_take (i := 3) (oi := { dst := some 20, op := Go.Op.load 49 (Go.Operand.tmp 19), type := 49, pos := "law.go:107", after := #[{ on := 2, ground := Go.Ground.data }], guard := none }) (v := .agg (cb x).toArray) rfl (by kernel_rfl) (by kernel_rfl) (by kernel_rfl) (fun _ _ _ h => h) (yieldsIf_load_mid (by kernel_rfl) _ _ rfl (b1) (o1 + i * 32) rfl (cb x) _ (fun w5 hSw => range_upW HR1.out hSw) Tryz.underlying49 rfl (by rw [hcl]; exact infoHs)) hS ?_
      simp only [Act.put, List.setIfInBounds_toArray, List.set_cons_zero, List.set_cons_succ]
      refine wpAnyH_take (i := 4) (oi := { dst := some 21, op := Go.Op.move (Go.Operand.tmp 1), type := 22, pos := "law.go:107", after := #[], guard := none }) (v := .slice (some ⟨b2, o2, none⟩) n c2) rfl (by kernel_rfl) (by kernel_rfl) (by kernel_rfl) (fun _ _ _ h => h) (Or.inl ⟨by kernel_rfl, ?_⟩) hS ?_
      · intro w5 hSw
        clear hSw hS
        go_simp
      simp only [Act.put, List.setIfInBounds_toArray, List.set_cons_zero, List.set_cons_succ]
      refine wpAnyH_take (i := 5) (oi := { dst := some 22, op := Go.Op.move (Go.Operand.tmp 5), type := 3, pos := "law.go:107", after := #[], guard := none }) (v := .int .i64 (i : Int)) rfl (by kernel_rfl) (by kernel_rfl) (by kernel_rfl) (fun _ _ _ h => h) (Or.inl ⟨by kernel_rfl, ?_⟩) hS ?_
      · intro w5 hSw
        clear hSw hS
        go_simp
      simp only [Act.put, List.setIfInBounds_toArray, List.set_cons_zero, List.set_cons_succ]
      refine wpAnyH_take (i := 6) (oi := { dst := some 23, op := Go.Op.indexAddr 22 (Go.Operand.tmp 21) (Go.Operand.tmp 22), type := 0, pos := "law.go:107", after := #[{ on := 4, ground := Go.Ground.data }, { on := 5, ground := Go.Ground.data }], guard := none }) (v := .pointer (some ⟨b2, o2 + i * 32, none⟩)) rfl (by kernel_rfl) (by kernel_rfl) (by kernel_rfl) (fun _ _ _ h => h) (Or.inl ⟨by kernel_rfl, ?_⟩) hS ?_
      · intro w5 hSw
        clear hSw hS
        go_simp
      simp only [Act.put, List.setIfInBounds_toArray, List.set_cons_zero, List.set_cons_succ]
      refine wpAnyH_take (i := 7) (oi := { dst := some 24, op := Go.Op.load 48 (Go.Operand.tmp 23), type := 48, pos := "law.go:107", after := #[{ on := 6, ground := Go.Ground.data }], guard := none }) (v := .agg (cb x).toArray) rfl (by kernel_rfl) (by kernel_rfl) (by kernel_rfl) (fun _ _ _ h => h) (yieldsIf_load_mid (by kernel_rfl) _ _ rfl (b2) (o2 + i * 32) rfl (cb x) _ (fun w5 hSw => range_upW HR2.out hSw) Tryz.underlying48 rfl (by rw [hcl]; exact infoA32)) hS ?_
      simp only [Act.put, List.setIfInBounds_toArray, List.set_cons_zero, List.set_cons_succ]
      refine wpAnyH_take (i := 8) (oi := { dst := some 25, op := Go.Op.binOp Go.BinOp.neq 49 (Go.Operand.tmp 20) (Go.Operand.tmp 24) 49, type := 4, pos := "law.go:107", after := #[{ on := 3, ground := Go.Ground.data }, { on := 7, ground := Go.Ground.data }], guard := none }) (v := .bool false) rfl (by kernel_rfl) (by kernel_rfl) (by kernel_rfl) (fun _ _ _ h => h) (Or.inl ⟨by kernel_rfl, ?_⟩) hS ?_
      · intro w5 hSw
        exact exec_neqH rfl x rfl rfl hx32 w5
      simp only [Act.put, List.setIfInBounds_toArray, List.set_cons_zero, List.set_cons_succ]
      refine wpAnyH_done (by kernel_rfl) ?_ _
      clear hS
      have HU7 := Hid.of (HU.out.trans (Up.refl wr).drew)
      generalize wr.drew = w7 at *
      go_wp2
      go_roundw
      case rel => exact ⟨i + 1, by go_num, by omega, HU7⟩
      case measure => simp [intOf]; omega
    · have hltz : ¬ (i : Int) < (n : Int) := by omega
      go_wp2
      go_ret
      exact ⟨rfl, HU.out⟩
end Go.Proofs.YtaobnnlcfefodaaGreatDoor
namespace Go.Proofs.YtaobnnlcfefodaaGreatDoor
open Go.RowKit Go.Shelf TextNum
theorem wpList_val8 {ops : Array Oper} {Q : Exit → Act → World → Prop} {rest : List Oper} {o : Oper} {a : Act} {w : World} (v : Value) (hgd : o.guard = none) (hy : (execOp a.eval o).run Tryz.prog w = .ok (.value v) w)
    (h : wpList Tryz.prog ops Q rest (a.put o.dst v) w) : wpList Tryz.prog ops Q (o :: rest) a w :=
  wpList_plain hgd fun K hK => by
    unfold Oper.wp
    rw [hy]
    exact hK _ _ h
theorem exec_bld {o : Oper} {ρ : Operand → Value} {T : TypeId} {ps : Array (Nat × Operand)} {vs : Array (Nat × Value)} {v : Value} {w : World} (ho : o.op = .build T ps) (hv : (ps.map fun (i, x) => (i, ρ x)) = vs)
    (hb : (Instr.build T vs).run Tryz.prog w = .ok v w) : (execOp ρ o).run Tryz.prog w = .ok (.value v) w := by
  unfold execOp
  simp only [ho, hv, Sem.run_bind, hb, Result.andThen_ok, Sem.run_pure]
/-- the marks behind a list of hashes -/
def mkA (j : Nat) : List UInt8 := 192 :: UInt8.ofNat j :: List.replicate 30 0
theorem mkA_len (j : Nat) : (mkA j).length = 32 := rfl
def mkH (n : Nat) : List (List UInt8) := (List.range n).map mkA
theorem mkH_len (n : Nat) : (mkH n).length = n := by simp [mkH]
theorem mkH_succ (n : Nat) : mkH (n + 1) = mkH n ++ [mkA n] := by simp [mkH, List.range_succ]
theorem mkH_32 (n : Nat) : ∀ h ∈ mkH n, h.length = 32 := fun h hh => by
  simp only [mkH, List.mem_map] at hh
  obtain ⟨j, _, rfl⟩ := hh
  rfl
theorem mkH_get {n j : Nat} (h : j < n) : (mkH n)[j]'(by rw [mkH_len]; exact h) = mkA j := by simp [mkH]
set_option maxRecDepth 100000 in
theorem build_mkZ (z : Int) (w : World) : (Instr.build 49 #[(0, .int .u8 192), (1, .int .u8 z)]).run Tryz.prog w = .ok (.agg (Value.int .u8 192 :: Value.int .u8 z :: cb (List.replicate 30 0)).toArray) w := by kernel_rfl
theorem build_mkA (j : Nat) (w : World) : (Instr.build 49 #[(0, .int .u8 192), (1, .int .u8 ((UInt8.ofNat j).toNat : Int))]).run Tryz.prog w = .ok (.agg (cb (mkA j)).toArray) w := build_mkZ _ w
theorem wrap_u8A (j : Nat) : IntKind.u8.wrap (j : Int) = ((UInt8.ofNat j).toNat : Int) := by
  rw [UInt8.toNat_ofNat']
  simp only [IntKind.wrap, IntKind.bits, IntKind.signed]
  simp
set_option maxRecDepth 100000 in
set_option maxHeartbeats 4000000 in
theorem desked_walk (v : Value) (hs : List (List UInt8)) (w : World) (hP : HL w v hs) (hl : hs.length ≤ 1048576) : Calls Tryz.prog 4 #[v] w fun e w' => ∃ u, e = .returned u ∧ HO w' w.heap.size u (hs ++ mkH 70) ∧ Up w w' := by
  obtain ⟨ih, iha, ihb, ihc, ihd⟩ := info_parts infoHash
  have hH := hashes_walk v hs w hP (by omega)
  obtain ⟨n, hn⟩ : ∃ n, hs.length = n := ⟨_, rfl⟩
  have HN := Hid.of (And.intro hn trivial)
  rw [hn] at hl
  clear hP hn
  go_enter Tryz.func4, Tryz.ntmps4
  go_wp2_with fail
  refine hH.mono ?_
  rintro e w1 ⟨u, rfl, hO, u1⟩
  have H1 := Hid.of (show HO w1 w.heap.size u (hs ++ mkH 0) ∧ Up w w1 from ⟨by simpa [mkH] using hO, u1⟩)
  clear hH hO u1
  dsimp only
  go_wp2
  go_loopw [3, 4] (fun v3 v4 wr => ∃ i : Nat, v4 = .int .i64 (i : Int) ∧ i ≤ 70 ∧ Hid (HO wr w.heap.size v3 (hs ++ mkH i) ∧ Up w wr)) (fun _ v4 _ => 70 - (intOf v4).toNat)
  case atStart => exact ⟨0, rfl, by omega, H1⟩
  case round =>
    obtain ⟨i, rfl, hi, HK⟩ := hrel
    by_cases hlt : i < 70
    · have hltz : (i : Int) < 70 := by omega
      have hiw : IntKind.i64.wrap ((i : Int) + 1) = (i : Int) + 1 := by rw [IntKind.wrap_i64]; omega
      have hx32 := mkA_len i
      have hbm := build_mkA i wr
      have hwz := wrap_u8A i
      have HX := Hid.of (And.intro (show hs ++ mkH (i + 1) = (hs ++ mkH i) ++ [mkA i] by rw [mkH_succ, List.append_assoc]) (show (hs ++ mkH i).length = n + i by rw [List.length_append, mkH_len, HN.out.1]))
      generalize ((UInt8.ofNat i).toNat : Int) = z at *
      generalize mkA i = x at *
      have hcl : (cb x).length = 32 := by rw [cb_length]; exact hx32
      go_wp2_with (with_reducible show wpList _ _ _ ({ dst := _, op := Op.build 49 _, type := _, pos := _, after := _, guard := _ } :: _) _ _; refine Shut.out ?_)
      show wpList _ _ _ _ _ _
      refine wpList_val8 (.agg (cb x).toArray) rfl (exec_bld rfl (by simp only [List.map_toArray, List.map_cons, List.map_nil]; rfl) hbm) ?_
      clear hbm
      simp only [Act.put, List.setIfInBounds_toArray, List.set_cons_zero, List.set_cons_succ]
      refine wpList_buildHs rfl _ rfl hx32 (by simp only [List.map_toArray, List.map_cons, List.map_nil]; rfl) ?_
      simp only [Act.put, List.setIfInBounds_toArray, List.set_cons_zero, List.set_cons_succ]
      have HU6 := Hid.of ((Up.refl wr).alloc (.cells (cb x).toArray 49))
      have HA6 := Hid.of (fun (j : Nat) (u : Value) (hu : (cb x)[j]? = some u) => show (wr.alloc (.cells (cb x).toArray 49)).cell? ((⟨wr.heap.size, 0, none⟩ : Addr).add j) = some u by
        rw [add_plain, World.cell?_alloc_at _ _ _ _ rfl, Nat.zero_add]
        simpa using hu)
      have hO := HK.out.1.up HU6.out
      unfold HO at hO
      rw [HX.out.2] at hO
      refine wpList_append_own _ rfl _ _ 26 rfl w.heap.size 49 ih (.agg (cb zH).toArray) 32 32 Tryz.underlying26 iha ihb ihc ihd rfl (by decide) u3 (n + i) ((hs ++ mkH i).flatMap cb) rfl hO ⟨wr.heap.size, 0, none⟩ 1 1 (cb x) rfl (by rw [hcl]) (fun j u hu => HA6.out j u hu) (fun u hu => cb_one x u hu) (by simp only [maxLen]; omega) (by omega) (HK.out.2.trans HU6.out).size ?_
      intro v7 w7 o7 g7 _
      simp only [Act.put, List.setIfInBounds_toArray, List.set_cons_zero, List.set_cons_succ]
      have HNX := Hid.of (show HO w7 w.heap.size v7 (hs ++ mkH (i + 1)) ∧ Up w w7 from ⟨by
        unfold HO
        rw [HX.out.1, flatB_snoc, List.length_append, HX.out.2]
        exact o7, (HK.out.2.trans HU6.out).by' g7 (fun g hg => (World.ownsRow.lt hO g hg).1)⟩)
      clear o7 g7 hO HU6 HA6 HX HK
      go_wp2
      go_roundw
      case rel => exact ⟨i + 1, by go_num, by omega, HNX⟩
      case measure => simp [intOf]; omega
    · have hltz : ¬ (i : Int) < 70 := by omega
      obtain rfl : i = 70 := by omega
      go_wp2
      go_ret
      exact ⟨_, rfl, HK.out.1, HK.out.2⟩
theorem HL.get {w : World} {v : Value} {hs : List (List UInt8)} (h : HL w v hs) {j : Nat} (hj : j < hs.length) {a : Option Addr} {c : Nat} {n : Nat} (hv : v = .slice a n c) : ∃ b o, a = some ⟨b, o, none⟩ ∧ w.rangeAt b (o + j * 32) (cb hs[j]) := by
  obtain ⟨a', c', e, _, hx⟩ := h
  rw [hv] at e
  injection e with e1 e2 e3
  subst e1
  obtain ⟨_, b, o, h1, _, h2⟩ := hx j hj
  exact ⟨b, o, h1, h2⟩
set_option maxRecDepth 100000 in
set_option maxHeartbeats 4000000 in
theorem spared_walk (v : Value) (hs : List (List UInt8)) (n : Nat) (hn : hs.length = n) (w : World) (hP : HL w v (hs ++ mkH 70)) (hl : n ≤ 1048576) : Calls Tryz.prog 13 #[v, .int .i64 (n : Int)] w fun e w' => e = .returned (.bool true) ∧ Up w w' := by
  have HP := Hid.of hP
  obtain ⟨pa, pc, rfl, hpc, _⟩ := hP
  have HL2 := Hid.of (show (hs ++ mkH 70).length = n + 70 by rw [List.length_append, mkH_len, hn])
  have HN := Hid.of hn
  rw [HL2.out] at hpc HP ⊢
  clear hn
  go_enter Tryz.func13, Tryz.ntmps13
  go_wp2
  go_loopw [5] (fun v5 wr => ∃ i : Nat, v5 = .int .i64 ((n + i : Nat) : Int) ∧ i ≤ 70 ∧ Hid (Up w wr)) (fun v5 _ => n + 70 - (intOf v5).toNat)
  case atStart => exact ⟨0, rfl, by omega, Hid.of (Up.refl _)⟩
  case round =>
    obtain ⟨i, rfl, hi, HU⟩ := hrel
    by_cases hlt : i < 70
    · obtain ⟨t, ht⟩ : ∃ t, n + i = t := ⟨_, rfl⟩
      have htl : t < (hs ++ mkH 70).length := by rw [HL2.out]; omega
      have hget : (hs ++ mkH 70)[t] = mkA i := by
        rw [List.getElem_append_right (by rw [HN.out]; omega)]
        have e : t - hs.length = i := by rw [HN.out]; omega
        simp only [e]
        exact mkH_get hlt
      obtain ⟨b, off, rfl, hr⟩ := HL.get HP.out htl rfl
      rw [hget] at hr
      have HR := Hid.of (range_upW hr HU.out)
      have htz : (t : Int) < ((n + 70 : Nat) : Int) := by omega
      have hpcz : ((n + 70 : Nat) : Int) ≤ (pc : Int) := by omega
      have hiw : IntKind.i64.wrap ((t : Int) + 1) = (t : Int) + 1 := by rw [IntKind.wrap_i64]; omega
      have hsw : IntKind.i64.wrap ((t : Int) - (n : Int)) = (i : Int) := by rw [IntKind.wrap_i64]; omega
      have hx32 := mkA_len i
      have hbm := build_mkA i wr
      have hwz := wrap_u8A i
      generalize ((UInt8.ofNat i).toNat : Int) = z at *
      generalize mkA i = x at *
      have hcl : (cb x).length = 32 := by rw [cb_length]; exact hx32
      have HT := Hid.of ht
      rw [ht]
      clear hr hget htl ht
      go_wp2_with (with_reducible show wpList _ _ _ ({ dst := _, op := Op.load 49 _, type := _, pos := _, after := _, guard := _ } :: _) _ _; refine Shut.out ?_)
      show wpList _ _ _ _ _ _
      refine wpList_load_mid rfl _ _ rfl b (off + t * 32) rfl (cb x) _ HR.out Tryz.underlying49 rfl (by rw [hcl]; exact infoHs) ?_
      simp only [Act.put, List.setIfInBounds_toArray, List.set_cons_zero, List.set_cons_succ]
      go_wp2_with (with_reducible show wpList _ _ _ ({ dst := _, op := Op.build 49 _, type := _, pos := _, after := _, guard := _ } :: _) _ _; refine Shut.out ?_)
      show wpList _ _ _ _ _ _
      refine wpList_val8 (.agg (cb x).toArray) rfl (exec_bld rfl (by simp only [List.map_toArray, List.map_cons, List.map_nil]; rfl) hbm) ?_
      clear hbm
      simp only [Act.put, List.setIfInBounds_toArray, List.set_cons_zero, List.set_cons_succ]
      refine wpList_val8 (.bool false) rfl (exec_neqH rfl x rfl rfl hx32 _) ?_
      simp only [Act.put, List.setIfInBounds_toArray, List.set_cons_zero, List.set_cons_succ]
      go_wp2
      go_roundw
      case rel => exact ⟨i + 1, by rw [← HT.out]; go_num, by omega, HU⟩
      case measure => have := HT.out; simp [intOf]; omega
    · have hltz : ¬ (((n + i : Nat) : Int) < ((n + 70 : Nat) : Int)) := by omega
      go_wp2
      go_ret
      exact ⟨rfl, HU.out⟩
end Go.Proofs.YtaobnnlcfefodaaGreatDoor
namespace Go.Proofs.YtaobnnlcfefodaaGreatDoor
open Go.RowKit TextNum
/-- nothing, or a list of one's own -/
def OwnO (w : World) (B : Nat) (v : Value) (l : List UInt8) : Prop := (v = .slice none 0 0 ∧ l = []) ∨ OwnN w B v l
def wr7 (x : UInt8) (l : List UInt8) (i : Nat) : List UInt8 := List.replicate i x ++ l.drop i
theorem wr7_len {x : UInt8} {l : List UInt8} {i : Nat} (h : i ≤ l.length) : (wr7 x l i).length = l.length := by simp [wr7]; omega
theorem wr7_set {x : UInt8} {l : List UInt8} {i : Nat} (h : i < l.length) : (wr7 x l i).set i x = wr7 x l (i + 1) := by
  unfold wr7
  rw [List.drop_eq_getElem_cons h, List.set_append, if_neg (by simp), List.length_replicate, Nat.sub_self, List.set_cons_zero, List.replicate_succ', List.append_assoc]
  rfl
theorem grown_trans {a b c : World} {row : Option Nat} (h : a.grownBy b row) (k : b.grownBy c row) : a.grownBy c row := ⟨k.os.trans h.os, k.tape.trans h.tape, k.output.trans h.output, Nat.le_trans h.size k.size, fun i hi hr => (k.block i (Nat.lt_of_lt_of_le hi h.size) hr).trans (h.block i hi hr)⟩
theorem grown_up {a b c : World} {row : Option Nat} (h : a.grownBy b row) (k : Up b c) : a.grownBy c row := ⟨k.os.trans h.os, k.tape.trans h.tape, k.output.trans h.output, Nat.le_trans h.size k.size, fun i hi hr => (k.block i (Nat.lt_of_lt_of_le hi h.size)).trans (h.block i hi hr)⟩
theorem grown_refl (a : World) (row : Option Nat) : a.grownBy a row := ⟨rfl, rfl, rfl, Nat.le_refl _, fun _ _ _ => rfl⟩
/-- what is lent: the bytes and two hundred marked ones -/
def tl7 : List UInt8 := (List.range 200).map fun k => UInt8.ofNat (192 + k)
def lt7 (l : List UInt8) : List UInt8 := l ++ tl7
def st7 (T : List UInt8) (i : Nat) : List UInt8 := T.take i ++ List.replicate (T.length - i) 0
theorem tl7_len : tl7.length = 200 := by simp [tl7]
theorem lt7_len (l : List UInt8) : (lt7 l).length = l.length + 200 := by rw [lt7, List.length_append, tl7_len]
theorem st7_len {T : List UInt8} {i : Nat} (h : i ≤ T.length) : (st7 T i).length = T.length := by simp [st7]; omega
theorem st7_set {T : List UInt8} {i : Nat} (h : i < T.length) : (st7 T i).set i T[i] = st7 T (i + 1) := by
  unfold st7
  have hl : (T.take i).length = i := by rw [List.length_take]; omega
  rw [show T.length - i = (T.length - (i + 1)) + 1 by omega, List.replicate_succ, List.set_append, if_neg (by omega), hl, Nat.sub_self, List.set_cons_zero, List.take_succ_eq_append_getElem h, List.append_assoc]
  rfl
theorem lt7_lo {l : List UInt8} {i : Nat} (h : i < l.length) (h' : i < (lt7 l).length) : (lt7 l)[i] = l[i] := @List.getElem_append_left _ i l tl7 h h'
theorem lt7_hi {l : List UInt8} {i : Nat} (h : l.length ≤ i) (h' : i < (lt7 l).length) : (((lt7 l)[i]).toNat : Int) = (192 + ((i - l.length : Nat) : Int)) % 256 := by
  have h2 : i - l.length < 200 := by rw [lt7_len] at h'; omega
  have e : (lt7 l)[i] = UInt8.ofNat (192 + (i - l.length)) := (@List.getElem_append_right _ l tl7 i h h').trans (by simp [tl7])
  rw [e, UInt8.toNat_ofNat']
  omega
/-- make([]byte, n) -/
theorem wpList_mkF {ops : Array Oper} {rest : List Oper} {o : Oper} {a : Act} {w : World} {Q : Exit → Act → World → Prop} (hg : o.guard = none) (l c : Operand) (hop : o.op = Op.makeSlice 23 l c)
    (kl kc : IntKind) (C : Int) (n : Nat) (hl : a.eval l = .int kl C) (hc : a.eval c = .int kc C) (hC : C = (n : Int)) (hn : n ≤ 140737488355328)
    (hK : ∀ w', Own w' w.heap.size (.slice (some ⟨w.heap.size, 0, none⟩) n n) (List.replicate n 0) → Up w w' → wpList Tryz.prog ops Q rest (a.put o.dst (.slice (some ⟨w.heap.size, 0, none⟩) n n)) w') : wpList Tryz.prog ops Q (o :: rest) a w := by
  obtain ⟨i0, hi, hz0, hz1, hz2⟩ := info_parts Tryz.info8
  refine wpList_make_full w hg l c 23 hop w.heap.size 5 i0 (.int .u8 0) 1 Tryz.underlying23 hi hz0 hz1 kl kc C C n hl hc hC hC (by rw [hz2]; omega) (by unfold maxLen; omega) (Nat.le_refl _) ?_
  intro w' h1 h2
  refine hK w' ?_ ((Below.refl _ w).grown h2 (Nat.le_refl _) (fun k hk => by cases hk))
  rw [show (Value.int .u8 0).cells = #[Value.int .u8 0] from rfl, Nat.mul_one, toList_madeCells_one] at h1
  simpa [Own, cb] using h1
set_option maxRecDepth 100000 in
set_option maxHeartbeats 2000000 in
theorem lent_walk7 (v : Value) (l : List UInt8) (w : World) (hS : Sl w v l) (hl : l.length ≤ 1048576) :
    Calls Tryz.prog 5 #[v] w fun e w' => ∃ b, e = .returned (.slice (some ⟨b, 0, none⟩) (l.length + 200) (l.length + 200)) ∧ OwnN w' w.heap.size (.slice (some ⟨b, 0, none⟩) (l.length + 200) (l.length + 200)) (lt7 l) ∧ Up w w' := by
  obtain ⟨a, c, rfl, hc, hd⟩ := hS
  have HC := Hid.of (show ∀ i (h : i < l.length), ∃ b off, a = some ⟨b, off, none⟩ ∧ w.cell? ⟨b, off + i, none⟩ = some (.int .u8 (l[i].toNat : Int)) from fun i h => by
    rcases hd with rfl | ⟨b, off, e, _, hd⟩
    · cases h
    · exact ⟨b, off, e, hd i h⟩)
  clear hd
  have HLO := Hid.of (fun i h h' => lt7_lo (l := l) (i := i) h h')
  have HHI := Hid.of (fun i h h' => lt7_hi (l := l) (i := i) h h')
  have HTL := Hid.of (lt7_len l)
  have HST := Hid.of (show st7 (lt7 l) (l.length + 200) = lt7 l by unfold st7; rw [← lt7_len]; simp)
  obtain ⟨n, hn⟩ : ∃ n, l.length = n := ⟨_, rfl⟩
  rw [hn] at hc hl HTL HST ⊢
  have hw1 : IntKind.i64.wrap ((n : Int) + 200) = ((n + 200 : Nat) : Int) := by simp only [IntKind.wrap, IntKind.signed, IntKind.bits]; simp; omega
  go_enter Tryz.func5, Tryz.ntmps5
  go_wp2_with (with_reducible show wpList _ _ _ ({ dst := _, op := Op.makeSlice 23 _ _, type := _, pos := _, after := _, guard := _ } :: _) _ _; refine Shut.out ?_)
  show wpList _ _ _ _ _ _
  refine wpList_mkF rfl _ _ rfl _ _ _ (n + 200) rfl rfl (by omega) (by omega) ?_
  intro w1 hO1 u1
  simp only [Act.put, List.setIfInBounds_toArray, List.set_cons_zero, List.set_cons_succ]
  have H1 := Hid.of (show OwnN w1 w.heap.size (.slice (some ⟨w.heap.size, 0, none⟩) (n + 200) (n + 200)) (st7 (lt7 l) 0) ∧ Up w w1 from ⟨by
    have := hO1.n (by simp)
    unfold st7
    rw [List.take_zero, List.nil_append, Nat.sub_zero, HTL.out]
    exact this, u1⟩)
  clear hO1 u1
  generalize hb0 : w.heap.size = b0 at *
  go_wp2
  go_loopw [4] (fun v4 wr => ∃ i : Nat, v4 = .int .i64 (i : Int) ∧ i ≤ n ∧ Hid (OwnN wr b0 (.slice (some ⟨b0, 0, none⟩) (n + 200) (n + 200)) (st7 (lt7 l) i) ∧ Up w wr)) (fun v4 _ => n - (intOf v4).toNat)
  case atStart => exact ⟨0, rfl, by omega, H1⟩
  case round =>
    obtain ⟨i, rfl, hi, hI⟩ := hrel
    by_cases hlt : i < n
    · have hlt' : (i : Int) < (n : Int) := by omega
      have hlt2 : (i : Int) < ((n + 200 : Nat) : Int) := by omega
      have hT : i < (lt7 l).length := by rw [HTL.out]; omega
      obtain ⟨k1, k2, k3⟩ := hI.out.1.store i (by rw [st7_len (by omega)]; exact hT) (lt7 l)[i]
      rw [st7_set hT, HLO.out i (by omega) hT] at k3
      obtain ⟨b, off, rfl, kc⟩ := HC.out i (by omega)
      have kc' := hI.out.2.cell kc
      have HN := Hid.of (And.intro k3 (Below.setCell (p := ⟨b0, 0 + i, none⟩) hI.out.2 (by rw [hb0]; exact Nat.le_refl _) (.int .u8 ((l[i]'(by omega)).toNat : Int))))
      rw [Nat.zero_add] at k1 k2 HN
      generalize (l[i]'(by omega)) = y at *
      clear k3 kc
      go_wp2
      go_roundw
      case rel => exact ⟨i + 1, by go_num, by omega, by exact HN⟩
      case measure => simp [intOf]; omega
    · have hlt' : ¬ (i : Int) < (n : Int) := by omega
      obtain rfl : i = n := by omega
      go_wp2
      go_loopw [5] (fun v5 wr => ∃ j : Nat, v5 = .int .i64 (j : Int) ∧ i ≤ j ∧ j ≤ i + 200 ∧ Hid (OwnN wr b0 (.slice (some ⟨b0, 0, none⟩) (i + 200) (i + 200)) (st7 (lt7 l) j) ∧ Up w wr)) (fun v5 _ => i + 200 - (intOf v5).toNat)
      case atStart => exact ⟨i, rfl, by omega, by omega, hI⟩
      case round =>
        clear hI
        obtain ⟨j, rfl, hij, hj, hI⟩ := hrel
        by_cases hjl : j < i + 200
        · have hjl' : (j : Int) < ((i + 200 : Nat) : Int) := by omega
          have hjl2 : (j : Int) < (i : Int) + 200 := by omega
          have hT : j < (lt7 l).length := by rw [HTL.out]; omega
          obtain ⟨k1, k2, k3⟩ := hI.out.1.store j (by rw [st7_len (by omega)]; exact hT) (lt7 l)[j]
          rw [st7_set hT] at k3
          have hv := HHI.out j (by omega) hT
          have HN := Hid.of (And.intro k3 (Below.setCell (p := ⟨b0, 0 + j, none⟩) hI.out.2 (by rw [hb0]; exact Nat.le_refl _) (.int .u8 (((lt7 l)[j]).toNat : Int))))
          rw [Nat.zero_add] at k1 k2 HN
          clear k3
          have hw2 : IntKind.i64.wrap (192 + (j : Int)) = 192 + (j : Int) := by simp only [IntKind.wrap, IntKind.signed, IntKind.bits]; simp; omega
          have hw3 : IntKind.i64.wrap (192 + (j : Int) - (i : Int)) = 192 + (j : Int) - (i : Int) := by simp only [IntKind.wrap, IntKind.signed, IntKind.bits]; simp; omega
          have hw4 : IntKind.u8.wrap (192 + (j : Int) - (i : Int)) = (((lt7 l)[j]).toNat : Int) := by rw [hv]; simp only [IntKind.wrap, IntKind.signed, IntKind.bits]; simp; omega
          clear hv
          generalize (lt7 l)[j] = y at *
          go_wp2
          go_roundw
          case rel => exact ⟨j + 1, by go_num, by omega, by omega, by exact HN⟩
          case measure => simp [intOf]; omega
        · have hjl' : ¬ (j : Int) < ((i + 200 : Nat) : Int) := by omega
          have hjl2 : ¬ (j : Int) < (i : Int) + 200 := by omega
          have HJ := Hid.of (show OwnN wr b0 (.slice (some ⟨b0, 0, none⟩) (i + 200) (i + 200)) (lt7 l) from by
            have := hI.out.1
            rwa [show j = i + 200 by omega, HST.out] at this)
          go_wp2
          go_ret
          exact ⟨b0, rfl, HJ.out, hI.out.2⟩
set_option maxRecDepth 100000 in
set_option maxHeartbeats 2000000 in
theorem whole_walk (v1 v2 : Value) (l : List UInt8) (w : World) (h1 : Sl w v1 (lt7 l)) (h2 : Sl w v2 l) (hl : l.length ≤ 1048576) :
    Calls Tryz.prog 10 #[v1, v2] w fun e w' => e = .returned (.bool true) ∧ Up w w' := by
  have HS0 := Hid.of (And.intro h1 h2)
  clear h1 h2
  obtain ⟨q, HQ⟩ : ∃ q : ByteArray, Hid (vs (lt7 l) = .string q) := ⟨_, Hid.of rfl⟩
  go_enter Tryz.func10, Tryz.ntmps10
  go_wp2_with fail
  refine wp_region_held_drew (S := fun wx => Sl wx v1 (lt7 l) ∧ Sl wx v2 l ∧ Up w wx) (by kernel_rfl) ⟨HS0.out.1.up (Up.refl w).drew, HS0.out.2.up (Up.refl w).drew, (Up.refl w).drew⟩ (fun hS => ?_)
  refine wpAnyH_take (i := 0) (oi := { dst := some 5, op := Go.Op.move (Go.Operand.tmp 0), type := 23, pos := "law.go:327", after := #[], guard := none }) (v := v1) rfl (by kernel_rfl) (by kernel_rfl) (by kernel_rfl) (fun _ _ _ h => h) (Or.inl ⟨by kernel_rfl, ?_⟩) hS ?_
  · intro w5 hSw
    clear hSw hS
    go_simp
  simp only [Act.put, List.setIfInBounds_toArray, List.set_cons_zero, List.set_cons_succ]
  refine wpAnyH_take (i := 1) (oi := { dst := some 6, op := Go.Op.convert 23 9 (Go.Operand.tmp 5), type := 9, pos := "law.go:327", after := #[{ on := 0, ground := Go.Ground.data }], guard := none }) (v := .string q) rfl (by kernel_rfl) (by kernel_rfl) (by kernel_rfl) (fun _ _ _ h => h) (Or.inl ⟨by kernel_rfl, ?_⟩) hS ?_
  · intro w5 hSw
    have h := conv_sl hSw.1
    rw [HQ.out] at h
    clear hSw hS
    go_simp
  simp only [Act.put, List.setIfInBounds_toArray, List.set_cons_zero, List.set_cons_succ]
  refine wpAnyH_take (i := 2) (oi := { dst := some 7, op := Go.Op.move (Go.Operand.tmp 1), type := 23, pos := "law.go:327", after := #[], guard := none }) (v := v2) rfl (by kernel_rfl) (by kernel_rfl) (by kernel_rfl) (fun _ _ _ h => h) (Or.inl ⟨by kernel_rfl, ?_⟩) hS ?_
  · intro w5 hSw
    clear hSw hS
    go_simp
  simp only [Act.put, List.setIfInBounds_toArray, List.set_cons_zero, List.set_cons_succ]
  refine wpAnyH_ready (rs := [3]) (by kernel_rfl) (by simp) ?_
  refine AllReadyH.cons (o := { dst := some 8, op := Go.Op.call { callee := Go.Callee.value (Go.Operand.func 5), args := #[Go.Operand.tmp 7], argTypes := #[23] }, type := 23, pos := "law.go:327", after := #[{ on := 2, ground := Go.Ground.data }], guard := none }) rfl (fun K hK => ?_) AllReadyH.nil
  rw [if_pos (by kernel_rfl)]
  go_simp
  refine (lent_walk7 v2 l _ hS.2.1 hl).mono ?_
  rintro e w5 ⟨b, rfl, hO, u5⟩
  obtain ⟨n5, hn5⟩ : ∃ n5, l.length + 200 = n5 := ⟨_, rfl⟩
  rw [hn5] at hO ⊢
  have HO := Hid.of hO.sl
  dsimp only
  have hS2 := And.intro (hS.1.up u5) (And.intro (hS.2.1.up u5) (hS.2.2.trans u5))
  clear hS u5 hO
  refine hK.out _ _ hS2 (fun hS => ?_)
  clear hK hS2 K
  refine wpAnyH_ready (rs := [4]) (by kernel_rfl) (by simp) ?_
  refine AllReadyH.cons (o := { dst := some 9, op := Go.Op.convert 23 9 (Go.Operand.tmp 8), type := 9, pos := "law.go:327", after := #[{ on := 3, ground := Go.Ground.data }], guard := none }) rfl (fun K hK => ?_) AllReadyH.nil
  rw [if_pos (by kernel_rfl)]
  have hcv := conv_sl HO.out
  rw [HQ.out] at hcv
  go_simp
  clear hcv
  refine hK.out _ _ hS (fun hS2 => ?_)
  clear hK hS2 K
  refine wpAnyH_take (i := 5) (oi := { dst := some 10, op := Go.Op.binOp Go.BinOp.eql 9 (Go.Operand.tmp 6) (Go.Operand.tmp 9) 9, type := 4, pos := "law.go:327", after := #[{ on := 1, ground := Go.Ground.data }, { on := 4, ground := Go.Ground.data }], guard := none }) (v := .bool true) rfl (by kernel_rfl) (by kernel_rfl) (by kernel_rfl) (fun _ _ _ h => h) (Or.inl ⟨by kernel_rfl, ?_⟩) hS ?_
  · intro w5 hSw
    clear hSw hS
    go_simp
  simp only [Act.put, List.setIfInBounds_toArray, List.set_cons_zero, List.set_cons_succ]
  refine wpAnyH_take (i := 6) (oi := { dst := some 4, op := Go.Op.assign (Go.Operand.tmp 10), type := 4, pos := "law.go:327", after := #[{ on := 5, ground := Go.Ground.data }, { on := 3, ground := Go.Ground.chain }, { on := 0, ground := Go.Ground.phase }, { on := 1, ground := Go.Ground.phase }, { on := 2, ground := Go.Ground.phase }, { on := 3, ground := Go.Ground.phase }, { on := 4, ground := Go.Ground.phase }, { on := 5, ground := Go.Ground.phase }], guard := none }) (v := .bool true) rfl (by kernel_rfl) (by kernel_rfl) (by kernel_rfl) (fun _ _ _ h => h) (Or.inl ⟨by kernel_rfl, ?_⟩) hS ?_
  · intro w5 hSw
    clear hSw hS
    go_simp
  simp only [Act.put, List.setIfInBounds_toArray, List.set_cons_zero, List.set_cons_succ]
  have HU := Hid.of hS.2.2
  clear hS
  refine wpAnyH_done (by kernel_rfl) ?_ _
  go_wp2
  go_ret
  exact ⟨rfl, HU.out⟩
end Go.Proofs.YtaobnnlcfefodaaGreatDoor
namespace Go.Proofs.YtaobnnlcfefodaaGreatDoor
open Go.RowKit Go.Shelf TextNum
/-! ### frames: only the blocks of X may have changed -/
structure Fr (X : Nat → Prop) (w w' : World) : Prop where
  os : w'.os = w.os
  tape : w'.tape = w.tape
  output : w'.output = w.output
  size : w.heap.size ≤ w'.heap.size
  block : ∀ j, j < w.heap.size → ¬ X j → w'.heap[j]? = w.heap[j]?
theorem Fr.refl (X : Nat → Prop) (w : World) : Fr X w w := ⟨rfl, rfl, rfl, Nat.le_refl _, fun _ _ _ => rfl⟩
theorem Fr.of_up {X : Nat → Prop} {w w' : World} (h : Up w w') : Fr X w w' := ⟨h.os, h.tape, h.output, h.size, fun j hj _ => h.block j hj⟩
theorem Fr.trans {X : Nat → Prop} {a b c : World} (h : Fr X a b) (k : Fr X b c) : Fr X a c := ⟨k.os.trans h.os, k.tape.trans h.tape, k.output.trans h.output, Nat.le_trans h.size k.size, fun j hj hx => (k.block j (Nat.lt_of_lt_of_le hj h.size) hx).trans (h.block j hj hx)⟩
theorem Fr.mono {X Y : Nat → Prop} {a b : World} (h : Fr X a b) (k : ∀ j, j < a.heap.size → X j → Y j) : Fr Y a b := ⟨h.os, h.tape, h.output, h.size, fun j hj hx => h.block j hj (fun e => hx (k j hj e))⟩
theorem Fr.up {X : Nat → Prop} {w0 w w' : World} (h : Fr X w w') (u : Up w0 w) (k : ∀ j, j < w0.heap.size → ¬ X j) : Up w0 w' := ⟨h.os.trans u.os, h.tape.trans u.tape, h.output.trans u.output, Nat.le_trans u.size h.size, fun j hj => (h.block j (Nat.lt_of_lt_of_le hj u.size) (k j hj)).trans (u.block j hj)⟩
theorem Fr.of_grown {w w' : World} {r : Option Nat} (h : w.grownBy w' r) : Fr (fun j => r = some j) w w' := ⟨h.os, h.tape, h.output, h.size, fun j hj hx => h.block j hj (fun e => hx e.symm)⟩
theorem Fr.set (w : World) (p : Addr) (v : Value) : Fr (fun j => j = p.block) w (w.setCell p v) := (Fr.of_grown (grown_set w p v)).mono fun _ _ e => (Option.some.inj e).symm
theorem Sl.fr {X : Nat → Prop} {w w' : World} {v : Value} {l : List UInt8} (h : Sl w v l) (f : Fr X w w') (hx : ∀ g, v.ownBlock = some g → ¬ X g) : Sl w' v l := by
  obtain ⟨a, c, rfl, hc, hd⟩ := h
  refine ⟨a, c, rfl, hc, ?_⟩
  rcases hd with h1 | ⟨b, off, rfl, hb, hcell⟩
  · exact .inl h1
  · exact .inr ⟨b, off, rfl, Nat.lt_of_lt_of_le hb f.size, fun i hi => by rw [World.cell?_of_block (f.block b hb (hx b rfl))]; exact hcell i hi⟩
theorem HL.fr {X : Nat → Prop} {w w' : World} {v : Value} {hs : List (List UInt8)} (h : HL w v hs) (f : Fr X w w') (hx : ∀ g, v.ownBlock = some g → ¬ X g) : HL w' v hs := by
  obtain ⟨a, c, rfl, hc, hd⟩ := h
  refine ⟨a, c, rfl, hc, fun j hj => ?_⟩
  obtain ⟨h1, b, o, rfl, hb, hr⟩ := hd j hj
  exact ⟨h1, b, o, rfl, Nat.lt_of_lt_of_le hb f.size, fun i u hu => by rw [World.cell?_of_block (f.block b hb (hx b rfl))]; exact hr i u hu⟩
theorem row_fr {X : Nat → Prop} {w w' : World} {B : Nat} {e : TypeId} {size n : Nat} {v : Value} {xs : List Value} (h : w.ownsRow B e size v n xs) (f : Fr X w w') (hx : ∀ g, v.ownBlock = some g → ¬ X g) : w'.ownsRow B e size v n xs := by
  refine ⟨h.1, ?_⟩
  rcases h.2 with h1 | ⟨g, cap, cur, rfl, hb, hg, r⟩
  · exact .inl h1
  · exact .inr ⟨g, cap, cur, rfl, hb, (f.block g (Array.getElem?_eq_some_iff.1 hg).1 (hx g rfl)).trans hg, r⟩
theorem OwnN.fr {X : Nat → Prop} {w w' : World} {B : Nat} {v : Value} {l : List UInt8} (h : OwnN w B v l) (f : Fr X w w') (hx : ∀ g, v.ownBlock = some g → ¬ X g) : OwnN w' B v l := by
  obtain ⟨g, off, cap, cur, fr, rfl, hB, hgg, r⟩ := h
  exact ⟨g, off, cap, cur, fr, rfl, hB, (f.block g (Array.getElem?_eq_some_iff.1 hgg).1 (hx g rfl)).trans hgg, r⟩
theorem there_fr {X : Nat → Prop} {w w' : World} {b o n : Nat} (h : w.there b o n) (hb : b < w.heap.size) (f : Fr X w w') (hx : ¬ X b) : w'.there b o n := fun j hj => by
  rw [World.cell?_of_block (w := w) (f.block b hb hx), World.frozen?_of_block (w := w) (f.block b hb hx)]
  exact h j hj
/-! ### the book: the two lists of lists -/
structure RK (P : Nat → Prop) (W : World) (bb : Nat) (vL vM : Value) (ls ms : List Value) : Prop where
  c0 : W.cell? ⟨bb, 0, none⟩ = some vL
  c1 : W.cell? ⟨bb, 1, none⟩ = some vM
  th : W.there bb 0 2
  bl : bb < W.heap.size
  bp : P bb
  rl : W.ownsRow 0 23 1 vL ls.length ls
  rm : W.ownsRow 0 23 1 vM ms.length ms
  nl : ∀ g, vL.ownBlock = some g → P g ∧ g ≠ bb ∧ vM.ownBlock ≠ some g
  nm : ∀ g, vM.ownBlock = some g → P g ∧ g ≠ bb
theorem RK.fr {X P : Nat → Prop} {W W' : World} {bb : Nat} {vL vM : Value} {ls ms : List Value} (h : RK P W bb vL vM ls ms) (f : Fr X W W') (hx : ∀ j, P j → ¬ X j) : RK P W' bb vL vM ls ms :=
  ⟨by rw [World.cell?_of_block (w := W) (f.block bb h.bl (hx _ h.bp))]; exact h.c0, by rw [World.cell?_of_block (w := W) (f.block bb h.bl (hx _ h.bp))]; exact h.c1, there_fr h.th h.bl f (hx _ h.bp), Nat.lt_of_lt_of_le h.bl f.size, h.bp,
    row_fr h.rl f (fun g hg => hx _ (h.nl g hg).1), row_fr h.rm f (fun g hg => hx _ (h.nm g hg).1), h.nl, h.nm⟩
theorem RK.mono {P Q : Nat → Prop} {W : World} {bb : Nat} {vL vM : Value} {ls ms : List Value} (h : RK P W bb vL vM ls ms) (k : ∀ j, P j → Q j) : RK Q W bb vL vM ls ms :=
  ⟨h.c0, h.c1, h.th, h.bl, k _ h.bp, h.rl, h.rm, fun g hg => ⟨k _ (h.nl g hg).1, (h.nl g hg).2⟩, fun g hg => ⟨k _ (h.nm g hg).1, (h.nm g hg).2⟩⟩
/-- a list more among the first -/
theorem RK.put0 {P : Nat → Prop} {W w' : World} {bb : Nat} {vL vM v : Value} {ls ms xs : List Value} (h : RK P W bb vL vM ls ms) (ho : w'.ownsRow 0 23 1 v xs.length xs) (hg : W.grownBy w' vL.ownBlock)
    (hv : v.ownBlock = vL.ownBlock ∨ ∀ g, v.ownBlock = some g → W.heap.size ≤ g) : RK (fun j => P j ∨ W.heap.size ≤ j) (w'.setCell ⟨bb, 0, none⟩ v) bb v vM xs ms ∧ Fr (fun j => j = bb ∨ vL.ownBlock = some j) W (w'.setCell ⟨bb, 0, none⟩ v) := by
  have f1 := Fr.of_grown hg
  have f2 := Fr.set w' ⟨bb, 0, none⟩ v
  have hnb : ¬ vL.ownBlock = some bb := fun e => (h.nl bb e).2.1 rfl
  have hcc : w'.cell? ⟨bb, 0, none⟩ = some vL := by rw [World.cell?_of_block (w := W) (f1.block bb h.bl hnb)]; exact h.c0
  have hmb : ∀ g, vM.ownBlock = some g → ¬ vL.ownBlock = some g := fun g hg e => (h.nl g e).2.2 hg
  have hvb : ∀ g, v.ownBlock = some g → g ≠ bb := fun g hg => by
    rcases hv with e | e
    · rw [e] at hg; exact (h.nl g hg).2.1
    · have := e g hg; have := h.bl; omega
  refine ⟨⟨World.cell?_setCell_same w' _ _ hcc, ?_, World.there_setCells (there_fr h.th h.bl f1 hnb) bb 0 [v], Nat.lt_of_lt_of_le (Nat.lt_of_lt_of_le h.bl f1.size) f2.size, .inl h.bp, row_fr ho f2 (fun g hg e => hvb g hg e), row_fr (row_fr h.rm f1 hmb) f2 (fun g hg e => (h.nm g hg).2 e), fun g hg => ⟨?_, hvb g hg, fun e => ?_⟩, fun g hg => ⟨.inl (h.nm g hg).1, (h.nm g hg).2⟩⟩, (f1.mono fun j _ e => .inr e).trans (f2.mono fun j _ e => .inl e)⟩
  · have hne : (⟨bb, 0, none⟩ : Addr) ≠ ⟨bb, 1, none⟩ := by intro e; injection e with _ e _; cases e
    have h5 : (w'.setCell ⟨bb, 0, none⟩ v).cell? ⟨bb, 1, none⟩ = w'.cell? ⟨bb, 1, none⟩ := by
      first
        | exact World.cell?_setCell_other w' _ _ _ hne
        | exact World.cell?_setCell_other w' _ _ hne
    rw [h5, World.cell?_of_block (w := W) (f1.block bb h.bl hnb)]
    exact h.c1
  · rcases hv with e | e
    · rw [e] at hg; exact .inl (h.nl g hg).1
    · exact .inr (e g hg)
  · rcases hv with e2 | e2
    · rw [e2] at hg; exact (h.nl g hg).2.2 e
    · have := e2 g hg
      have := (World.ownsRow.lt h.rm g e).2
      omega
theorem RK.put1 {P : Nat → Prop} {W w' : World} {bb : Nat} {vL vM v : Value} {ls ms xs : List Value} (h : RK P W bb vL vM ls ms) (ho : w'.ownsRow 0 23 1 v xs.length xs) (hg : W.grownBy w' vM.ownBlock)
    (hv : v.ownBlock = vM.ownBlock ∨ ∀ g, v.ownBlock = some g → W.heap.size ≤ g) : RK (fun j => P j ∨ W.heap.size ≤ j) (w'.setCell ⟨bb, 1, none⟩ v) bb vL v ls xs ∧ Fr (fun j => j = bb ∨ vM.ownBlock = some j) W (w'.setCell ⟨bb, 1, none⟩ v) := by
  have f1 := Fr.of_grown hg
  have f2 := Fr.set w' ⟨bb, 1, none⟩ v
  have hnb : ¬ vM.ownBlock = some bb := fun e => (h.nm bb e).2 rfl
  have hcc : w'.cell? ⟨bb, 1, none⟩ = some vM := by rw [World.cell?_of_block (w := W) (f1.block bb h.bl hnb)]; exact h.c1
  have hmb : ∀ g, vL.ownBlock = some g → ¬ vM.ownBlock = some g := fun g hg e => (h.nl g hg).2.2 e
  have hvb : ∀ g, v.ownBlock = some g → g ≠ bb := fun g hg => by
    rcases hv with e | e
    · rw [e] at hg; exact (h.nm g hg).2
    · have := e g hg; have := h.bl; omega
  refine ⟨⟨?_, World.cell?_setCell_same w' _ _ hcc, World.there_setCells (there_fr h.th h.bl f1 hnb) bb 1 [v], Nat.lt_of_lt_of_le (Nat.lt_of_lt_of_le h.bl f1.size) f2.size, .inl h.bp, row_fr (row_fr h.rl f1 hmb) f2 (fun g hg e => (h.nl g hg).2.1 e), row_fr ho f2 (fun g hg e => hvb g hg e), fun g hg => ⟨.inl (h.nl g hg).1, (h.nl g hg).2.1, fun e => ?_⟩, fun g hg => ⟨?_, hvb g hg⟩⟩, (f1.mono fun j _ e => .inr e).trans (f2.mono fun j _ e => .inl e)⟩
  · have hne : (⟨bb, 1, none⟩ : Addr) ≠ ⟨bb, 0, none⟩ := by intro e; injection e with _ e _; cases e
    have h5 : (w'.setCell ⟨bb, 1, none⟩ v).cell? ⟨bb, 0, none⟩ = w'.cell? ⟨bb, 0, none⟩ := by
      first
        | exact World.cell?_setCell_other w' _ _ _ hne
        | exact World.cell?_setCell_other w' _ _ hne
    rw [h5, World.cell?_of_block (w := W) (f1.block bb h.bl hnb)]
    exact h.c0
  · rcases hv with e2 | e2
    · rw [e2] at e; exact (h.nl g hg).2.2 e
    · have := e2 g e
      have := (World.ownsRow.lt h.rl g hg).2
      omega
  · rcases hv with e | e
    · rw [e] at hg; exact .inl (h.nm g hg).1
    · exact .inr (e g hg)
/-! ### what the lists bear -/
def mk8 (k : Nat) : UInt8 := UInt8.ofNat (k * 7 + 1)
theorem wrap_mk8 (k : Nat) : IntKind.u8.wrap ((k : Int) * 7 + 1) = ((mk8 k).toNat : Int) := by
  have := wrap_u8A (k * 7 + 1)
  rw [Int.natCast_add, Int.natCast_mul] at this
  exact this
structure BE where
  vl : Value
  vm : Value
  n : Nat
/-- a value's block is the book's care, and no list of lists -/
def FreeOf (P : Nat → Prop) (W : World) (bb : Nat) (vL vM v : Value) : Prop := ∀ g, v.ownBlock = some g → P g ∧ g < W.heap.size ∧ g ≠ bb ∧ vL.ownBlock ≠ some g ∧ vM.ownBlock ≠ some g
structure EN (P : Nat → Prop) (W : World) (bb : Nat) (vL vM : Value) (k : Nat) (x : BE) : Prop where
  l : Sl W x.vl (List.replicate x.n (mk8 k))
  m : Sl W x.vm (List.replicate (x.n + 1) (mk8 k))
  n : x.n ≤ 1048576
  fl : FreeOf P W bb vL vM x.vl
  fm : FreeOf P W bb vL vM x.vm
structure BK (P : Nat → Prop) (W : World) (bb : Nat) (es : List BE) (vL vM : Value) : Prop where
  rk : RK P W bb vL vM (es.map BE.vl) (es.map BE.vm)
  en : ∀ k (h : k < es.length), EN P W bb vL vM k es[k]
theorem EN.fr {X P : Nat → Prop} {W W' : World} {bb k : Nat} {vL vM : Value} {x : BE} (h : EN P W bb vL vM k x) (f : Fr X W W') (hx : ∀ j, P j → ¬ X j) : EN P W' bb vL vM k x :=
  ⟨h.l.fr f (fun g hg => hx _ (h.fl g hg).1), h.m.fr f (fun g hg => hx _ (h.fm g hg).1), h.n, fun g hg => ⟨(h.fl g hg).1, Nat.lt_of_lt_of_le (h.fl g hg).2.1 f.size, (h.fl g hg).2.2⟩, fun g hg => ⟨(h.fm g hg).1, Nat.lt_of_lt_of_le (h.fm g hg).2.1 f.size, (h.fm g hg).2.2⟩⟩
theorem BK.fr {X P : Nat → Prop} {W W' : World} {bb : Nat} {vL vM : Value} {es : List BE} (h : BK P W bb es vL vM) (f : Fr X W W') (hx : ∀ j, P j → ¬ X j) : BK P W' bb es vL vM := ⟨h.rk.fr f hx, fun k hk => (h.en k hk).fr f hx⟩
end Go.Proofs.YtaobnnlcfefodaaGreatDoor
namespace Go.Proofs.YtaobnnlcfefodaaGreatDoor
open Go.RowKit Go.Shelf TextNum
set_option maxRecDepth 100000 in
set_option maxHeartbeats 2000000 in
theorem bears_walk (v : Value) (n : Nat) (x : UInt8) (w : World) (hS : Sl w v (List.replicate n x)) (hn : n ≤ 1048577) : Calls Tryz.prog 23 #[v, .int .u8 (x.toNat : Int)] w fun e w' => e = .returned (.bool true) ∧ w' = w := by
  obtain ⟨a, c, rfl, hc, hd⟩ := hS
  rw [List.length_replicate] at hc ⊢
  have HC := Hid.of (show ∀ j, j < n → ∃ b off, a = some ⟨b, off, none⟩ ∧ w.cell? ⟨b, off + j, none⟩ = some (.int .u8 (x.toNat : Int)) from fun j hj => by
    rcases hd with h | ⟨b, off, e, _, h⟩
    · have := congrArg List.length h; simp at this; omega
    · refine ⟨b, off, e, ?_⟩
      have := h j (by simpa using hj)
      simpa using this)
  clear hd
  go_enter Tryz.func23, Tryz.ntmps23
  go_wp2
  go_loopw [5] (fun v5 wr => ∃ j : Nat, v5 = .int .i64 (j : Int) ∧ j ≤ n ∧ wr = w) (fun v5 _ => n - (intOf v5).toNat)
  case atStart => exact ⟨0, rfl, by omega, rfl⟩
  case round =>
    obtain ⟨j, rfl, hj, hwr⟩ := hrel
    obtain rfl := hwr.symm
    clear hwr
    by_cases hlt : j < n
    · have hltz : (j : Int) < (n : Int) := by omega
      have hcz : (n : Int) ≤ (c : Int) := by omega
      obtain ⟨b, off, rfl, hcell⟩ := HC.out j hlt
      go_wp2
      go_roundw
      case rel => exact ⟨j + 1, by go_num, by omega, by simp⟩
      case measure => simp [intOf]; omega
    · have hltz : ¬ (j : Int) < (n : Int) := by omega
      go_wp2
      go_ret
      exact ⟨rfl, rfl⟩
theorem own_cellL {w : World} {B n : Nat} {e : TypeId} {a : Option Addr} {c : Nat} {xs : List Value} (h : w.ownsRow B e 1 (.slice a n c) n xs) {j : Nat} (hj : j < n) : ∃ g, a = some ⟨g, 0, none⟩ ∧ n ≤ c ∧ ∃ hx : j < xs.length, w.cell? ⟨g, j, none⟩ = some xs[j] := by
  have hl : xs.length = n := by have := h.1; omega
  rcases h.2 with ⟨_, h0⟩ | ⟨g, cap, cur, e1, _, hg, hc, _⟩
  · omega
  · injection e1 with e1 _ e3
    subst e1 e3
    refine ⟨g, rfl, hc, by omega, ?_⟩
    have := World.ownsRow.cells h rfl j (xs[j]'(by omega)) (List.getElem?_eq_getElem _)
    rw [add_plain, Nat.zero_add] at this
    exact this
theorem row_sh {w : World} {B n size : Nat} {e : TypeId} {v : Value} {xs : List Value} (h : w.ownsRow B e size v n xs) : ∃ a c, v = .slice a n c ∧ n ≤ c := by
  rcases h.2 with ⟨rfl, rfl⟩ | ⟨g, cap, cur, rfl, _, _, hc, _⟩
  · exact ⟨_, _, rfl, Nat.le_refl _⟩
  · exact ⟨_, _, rfl, hc⟩
set_option maxRecDepth 100000 in
set_option maxHeartbeats 4000000 in
theorem kept_walk (P : Nat → Prop) (w : World) (bb : Nat) (es : List BE) (vL vM : Value) (hes : es.length ≤ 1000) (h : BK P w bb es vL vM) : Calls Tryz.prog 12 #[.pointer (some ⟨bb, 0, none⟩)] w fun e w' => e = .returned (.bool true) ∧ w' = w := by
  obtain ⟨n, hn⟩ : ∃ n, es.length = n := ⟨_, rfl⟩
  have HN := Hid.of hn
  have HE := Hid.of h.en
  have hrl := h.rk.rl
  have hrm := h.rk.rm
  rw [List.length_map, hn] at hrl hrm
  obtain ⟨aL, cL, rfl, hcL⟩ := row_sh hrl
  obtain ⟨aM, cM, rfl, hcM⟩ := row_sh hrm
  have HRL := Hid.of hrl
  have HRM := Hid.of hrm
  have c0 := h.rk.c0
  have c1 := h.rk.c1
  rw [hn] at hes
  have hcLz : (n : Int) ≤ (cL : Int) := by omega
  have hcMz : (n : Int) ≤ (cM : Int) := by omega
  clear h hrl hrm hn
  go_enter Tryz.func12, Tryz.ntmps12
  go_wp2
  go_loopw [3] (fun v3 wr => ∃ i : Nat, v3 = .int .i64 (i : Int) ∧ i ≤ n ∧ wr = w) (fun v3 _ => n - (intOf v3).toNat)
  case atStart => exact ⟨0, rfl, by omega, rfl⟩
  case round =>
    obtain ⟨i, rfl, hi, hwr⟩ := hrel
    obtain rfl := hwr.symm
    clear hwr
    by_cases hlt : i < n
    · have hltz : (i : Int) < (n : Int) := by omega
      have hil : i < es.length := by rw [HN.out]; exact hlt
      have hx := HE.out i hil
      obtain ⟨gL, rfl, _, hiL, cl⟩ := own_cellL HRL.out hlt
      obtain ⟨gM, rfl, _, hiM, cm⟩ := own_cellL HRM.out hlt
      rw [List.getElem_map] at cl cm
      generalize es[i] = x at *
      obtain ⟨xl, xm, xn⟩ := x
      have hsl := hx.l
      have hsm := hx.m
      have hxn : xn ≤ 1048576 := hx.n
      dsimp only at cl cm hsl hsm
      obtain ⟨al, cl2, e1, _⟩ := id hsl
      obtain ⟨am, cm2, e2, _⟩ := id hsm
      rw [List.length_replicate] at e1 e2
      subst e1 e2
      have hb1 := bears_walk _ xn (mk8 i) w hsl (by omega)
      have hb2 := bears_walk _ (xn + 1) (mk8 i) w hsm (by omega)
      have hw7 : IntKind.i64.wrap ((i : Int) * 7) = (i : Int) * 7 := by rw [IntKind.wrap_i64]; omega
      have hw8 : IntKind.i64.wrap ((i : Int) * 7 + 1) = (i : Int) * 7 + 1 := by rw [IntKind.wrap_i64]; omega
      have hwm := wrap_mk8 i
      clear hx hsl hsm hiL hiM
      go_wp2_with fail
      refine hb1.mono ?_
      rintro e w2 ⟨rfl, rfl⟩
      dsimp only
      go_wp2_with fail
      refine hb2.mono ?_
      rintro e w2 ⟨rfl, rfl⟩
      dsimp only
      go_wp2
      go_roundw
      case rel => exact ⟨i + 1, by go_num, by omega, by simp⟩
      case measure => simp [intOf]; omega
    · have hltz : ¬ (i : Int) < (n : Int) := by omega
      go_wp2
      go_ret
      exact ⟨rfl, rfl⟩
end Go.Proofs.YtaobnnlcfefodaaGreatDoor
namespace Go.Proofs.YtaobnnlcfefodaaGreatDoor
open Go.RowKit Go.Shelf TextNum
/-- a byte is appended to nothing, or to a list of one's own -/
theorem wpList_appO {ops : Array Oper} {rest : List Oper} {o : Oper} {a : Act} {w : World} {t : TypeId} {Q : Exit → Act → World → Prop} (hgd : o.guard = none) (s x : Operand)
    (ho : o.op = .call { callee := .builtin .append, args := #[s, x], argTypes := #[23, 23] }) (B : Nat) (v : Value) (l : List UInt8) (y : UInt8) (hs : a.eval s = v) (hown : OwnO w B v l)
    (c : Nat) (hx : a.eval x = .slice (some ⟨w.heap.size, 0, none⟩) 1 c) (hn : l.length < 1099511627776)
    (h : ∀ v' w', Sl w' v' (l ++ [y]) → Sl w' v l → w.grownBy w' v.ownBlock → (∀ b, v'.ownBlock = some b → (v.ownBlock = some b ∨ w.heap.size ≤ b) ∧ b < w'.heap.size) → wpList Tryz.prog ops Q rest (a.put o.dst v') w') : wpList Tryz.prog ops Q (o :: rest) a (w.alloc (.cells (cb [y]).toArray t)) := by
  have hu := (Up.refl w).alloc (.cells (cb [y]).toArray t)
  rcases hown with ⟨rfl, rfl⟩ | hown
  · refine wpList_app1 hgd s x ho w.heap.size (.slice none 0 0) [] [y] hs (World.ownsRow_nil _ _ 5 1) c hx (by simp) (Nat.le_refl _) ?_
    intro v' w' h1 h2
    have h3 : Up w w' := h2
    refine h v' w' h1.sl ⟨none, 0, rfl, Nat.le_refl _, .inl rfl⟩ ⟨h3.os, h3.tape, h3.output, h3.size, fun k hk _ => h3.block k hk⟩ (fun b hb => ?_)
    have := World.ownsRow.lt h1 b hb
    exact ⟨.inr this.1, this.2⟩
  · refine wpList_appN hgd s x ho B v l y hs (hown.up hu) ⟨w.heap.size, 0, none⟩ c hx (by rw [World.cell?_alloc_at _ _ _ _ rfl]; rfl) hn ?_
    intro v' w' h1 h2 h3 h4
    refine h v' w' h1 h2 (grown_trans ⟨hu.os, hu.tape, hu.output, hu.size, fun k hk _ => hu.block k hk⟩ h3) (fun b hb => ?_)
    obtain ⟨k1, k2⟩ := h4 b hb
    exact ⟨k1.imp id (fun h => Nat.le_trans hu.size h), k2⟩
/-- what is appended to may be read as it was, too: and where the new list lies -/
theorem app_row {w : World} (base : Nat) (t ty e : TypeId) (i : TypeInfo) (z : Value) (size bytes : Nat) (ht : Tryz.prog.underlying t = some (.slice e)) (hi : Tryz.prog.info? e = some i) (hz : i.zero = some z)
    (hsize : i.size = size) (hby : i.bytes = bytes) (hzs : z.cells.size = size) (hsz : 0 < size)
    (v : Value) (n : Nat) (xs : List Value) (hown : w.ownsRow base e size v n xs)
    (a : Addr) (m c : Nat) (news : List Value) (hl : news.length = m * size) (hnews : ∀ j u, news[j]? = some u → w.cell? (a.add j) = some u) (h1 : ∀ u ∈ news, u.oneCell' = true)
    (h63 : n + m ≤ maxLen) (hbytes : (n + m) * bytes ≤ 140737488355328) (hbase : base ≤ w.heap.size) :
    ∃ v' w', (Builtin.append_ #[t, t] ty #[v, .slice (some a) m c]).run Tryz.prog w = .ok v' w' ∧ w'.ownsRow base e size v' (n + m) (xs ++ news) ∧ w.grownBy w' v.ownBlock ∧ w'.ownsRow base e size v n xs ∧ (v'.ownBlock = v.ownBlock ∨ ∀ g, v'.ownBlock = some g → w.heap.size ≤ g) := by
  obtain ⟨v', w', hr, ho, hg, hnn⟩ := run_append_own (P := Tryz.prog) w base t ty e i z size bytes ht hi hz hsize hby hzs hsz v n xs hown a m c news hl hnews h1 h63 hbytes hbase
  refine ⟨v', w', hr, ho, hg, ?_⟩
  subst hsize
  subst hby
  have hsmall : n + m ≤ 9223372036854775807 := by simp only [maxLen] at h63; omega
  rcases hown.2 with ⟨rfl, rfl⟩ | ⟨g, cap, cur, rfl, hbg, hgx, hnc, hcm, hcs, htake⟩
  · have hx : xs = [] := List.eq_nil_of_length_eq_zero (by simpa using hown.1)
    subst hx
    refine ⟨World.ownsRow_nil w' base e i.size, ?_⟩
    by_cases hm : m = 0
    · exact .inl (by rw [hnn.2 ⟨rfl, hm⟩])
    · have hr2 := run_append_nil (P := Tryz.prog) w t ty e i z ht hi hz a m c news hl hnews (by omega) (by omega) (by have hb := hbytes; simp only [Nat.zero_add] at hb; omega)
      rw [hr2] at hr
      injection hr with hr3 hr4
      subst hr3
      refine .inr fun g hg' => ?_
      obtain rfl : w.heap.size = g := Option.some.inj hg'
      exact Nat.le_refl _
  · by_cases hroom : n + m ≤ cap
    · have hfit : n * i.size + news.length ≤ cur.size := by rw [hl, hcs, ← Nat.add_mul]; exact Nat.mul_le_mul_right _ hroom
      have hr2 := run_append_room (P := Tryz.prog) w t ty e i ht hi g n cap cur hgx a m c news hl hnews h1 hroom hfit
      rw [hr2] at hr
      injection hr with hr3 hr4
      subst hr3
      subst hr4
      refine ⟨⟨hown.1, .inr ⟨g, cap, _, rfl, hbg, setRow_heap w g cur _ e _ hgx, hnc, hcm, ?_, ?_⟩⟩, .inl rfl⟩
      · simp only [List.size_toArray, List.length_append, List.length_take, List.length_drop, Array.length_toList]
        omega
      · rw [htake, List.append_assoc, ← hown.1]
        exact List.take_left
    · have holds : ∀ j u, xs[j]? = some u → w.cell? ((⟨g, 0, none⟩ : Addr).add j) = some u := hown.cells (g := g) rfl
      have hr2 := run_append_grow (P := Tryz.prog) w t ty e i z ht hi hz ⟨g, 0, none⟩ n cap xs hown.1 holds a m c news hl hnews (by omega) (by omega) (growslice_fits (by omega) hbytes)
      rw [hr2] at hr
      injection hr with hr3 hr4
      subst hr3
      subst hr4
      refine ⟨World.ownsRow.kept hown (row := none) ⟨rfl, rfl, rfl, by simp, fun k hk _ => heap_alloc_old w.drew _ hk⟩ (.inr (by simp [Value.ownBlock])), .inr fun g' hg' => ?_⟩
      obtain rfl : w.heap.size = g' := Option.some.inj hg'
      exact Nat.le_refl _
theorem infoSlL : (Tryz.prog.info? 23).map (fun i => (i.zero, i.size, i.bytes)) = some (some (.slice none 0 0), 1, 24) := by kernel_rfl
/-- a list is appended to a list of lists -/
theorem wpList_appL {ops : Array Oper} {rest : List Oper} {o : Oper} {a : Act} {W : World} {t : TypeId} {Q : Exit → Act → World → Prop} (hgd : o.guard = none) (s x : Operand)
    (ho : o.op = .call { callee := .builtin .append, args := #[s, x], argTypes := #[38, 38] }) (v y : Value) (xs : List Value) (n : Nat) (hs : a.eval s = v) (hown : W.ownsRow 0 23 1 v n xs)
    (c : Nat) (hx : a.eval x = .slice (some ⟨W.heap.size, 0, none⟩) 1 c) (hn : n ≤ 1048576) (hy : y.oneCell' = true)
    (h : ∀ v' w', w'.ownsRow 0 23 1 v' (xs ++ [y]).length (xs ++ [y]) → W.grownBy w' v.ownBlock → (v'.ownBlock = v.ownBlock ∨ ∀ g, v'.ownBlock = some g → W.heap.size ≤ g) → wpList Tryz.prog ops Q rest (a.put o.dst v') w') : wpList Tryz.prog ops Q (o :: rest) a (W.alloc (.cells #[y] t)) := by
  obtain ⟨i0, hi, hz0, hz1, hz2⟩ := info_parts infoSlL
  have hu := (Up.refl W).alloc (.cells #[y] t)
  have hlen : xs.length = n := by have := hown.1; omega
  obtain ⟨v', w', hr, ho', hg, _, hv⟩ := app_row (w := W.alloc (.cells #[y] t)) 0 38 o.type 23 i0 (.slice none 0 0) 1 24 Tryz.underlying38 hi hz0 hz1 hz2 rfl (by decide) v n xs (row_fr hown (Fr.of_up hu : Fr (fun _ => False) _ _) (fun _ _ e => e)) ⟨W.heap.size, 0, none⟩ 1 c [y] rfl (fun j u hj => by
    rw [add_plain, World.cell?_alloc_at _ _ _ _ rfl, Nat.zero_add]
    simpa using hj) (fun u hu2 => by rw [List.mem_singleton.1 hu2]; exact hy) (by unfold maxLen; omega) (by omega) (Nat.zero_le _)
  refine wpList_plain hgd fun K2 hK2 => ?_
  unfold Oper.wp execOp
  simp only [ho, resolve, invoke, builtin, Sem.run_bind, Sem.run_pure, Result.andThen_ok, List.map_toArray, List.map_cons, List.map_nil, hs, hx, hr]
  refine hK2 _ _ (h v' w' ?_ (grown_trans ⟨hu.os, hu.tape, hu.output, hu.size, fun k hk _ => hu.block k hk⟩ hg) (hv.imp id (fun h g hg => Nat.le_trans hu.size (h g hg))))
  rw [List.length_append, hlen]
  exact ho'
/-! ### an entry's blocks beside what is written -/
theorem FreeOf.row0 {P Q : Nat → Prop} {W W' : World} {bb : Nat} {vL vM v u : Value} (h : FreeOf P W bb vL vM u) (hs : W.heap.size ≤ W'.heap.size) (hq : ∀ j, P j → Q j) (hv : v.ownBlock = vL.ownBlock ∨ ∀ g, v.ownBlock = some g → W.heap.size ≤ g) : FreeOf Q W' bb v vM u := fun g hg => by
  obtain ⟨h1, h2, h3, h4, h5⟩ := h g hg
  refine ⟨hq g h1, Nat.lt_of_lt_of_le h2 hs, h3, ?_, h5⟩
  rcases hv with e | e
  · rw [e]; exact h4
  · intro e2; have := e g e2; omega
theorem FreeOf.row1 {P Q : Nat → Prop} {W W' : World} {bb : Nat} {vL vM v u : Value} (h : FreeOf P W bb vL vM u) (hs : W.heap.size ≤ W'.heap.size) (hq : ∀ j, P j → Q j) (hv : v.ownBlock = vM.ownBlock ∨ ∀ g, v.ownBlock = some g → W.heap.size ≤ g) : FreeOf Q W' bb vL v u := fun g hg => by
  obtain ⟨h1, h2, h3, h4, h5⟩ := h g hg
  refine ⟨hq g h1, Nat.lt_of_lt_of_le h2 hs, h3, h4, ?_⟩
  rcases hv with e | e
  · rw [e]; exact h5
  · intro e2; have := e g e2; omega
theorem EN.put0 {P Q : Nat → Prop} {W W' : World} {bb k : Nat} {vL vM v : Value} {x : BE} (h : EN P W bb vL vM k x) (f : Fr (fun j => j = bb ∨ vL.ownBlock = some j) W W') (hq : ∀ j, P j → Q j) (hv : v.ownBlock = vL.ownBlock ∨ ∀ g, v.ownBlock = some g → W.heap.size ≤ g) : EN Q W' bb v vM k x :=
  ⟨h.l.fr f (fun g hg e => e.elim (h.fl g hg).2.2.1 (h.fl g hg).2.2.2.1), h.m.fr f (fun g hg e => e.elim (h.fm g hg).2.2.1 (h.fm g hg).2.2.2.1), h.n, h.fl.row0 f.size hq hv, h.fm.row0 f.size hq hv⟩
theorem EN.put1 {P Q : Nat → Prop} {W W' : World} {bb k : Nat} {vL vM v : Value} {x : BE} (h : EN P W bb vL vM k x) (f : Fr (fun j => j = bb ∨ vM.ownBlock = some j) W W') (hq : ∀ j, P j → Q j) (hv : v.ownBlock = vM.ownBlock ∨ ∀ g, v.ownBlock = some g → W.heap.size ≤ g) : EN Q W' bb vL v k x :=
  ⟨h.l.fr f (fun g hg e => e.elim (h.fl g hg).2.2.1 (h.fl g hg).2.2.2.2), h.m.fr f (fun g hg e => e.elim (h.fm g hg).2.2.1 (h.fm g hg).2.2.2.2), h.n, h.fl.row1 f.size hq hv, h.fm.row1 f.size hq hv⟩
theorem EN.mono {P Q : Nat → Prop} {W : World} {bb k : Nat} {vL vM : Value} {x : BE} (h : EN P W bb vL vM k x) (hq : ∀ j, P j → Q j) : EN Q W bb vL vM k x :=
  ⟨h.l, h.m, h.n, fun g hg => ⟨hq _ (h.fl g hg).1, (h.fl g hg).2⟩, fun g hg => ⟨hq _ (h.fm g hg).1, (h.fm g hg).2⟩⟩
end Go.Proofs.YtaobnnlcfefodaaGreatDoor
namespace Go.Proofs.YtaobnnlcfefodaaGreatDoor
open Go.RowKit Go.Shelf TextNum
/-- what hold leaves -/
def HOLD (P : Nat → Prop) (w : World) (bb : Nat) (es : List BE) (v : Value) (n : Nat) (w' : World) : Prop := (∃ v2 vL vM, BK (fun j => P j ∨ v.ownBlock = some j ∨ w.heap.size ≤ j) w' bb (es ++ [⟨v, v2, n⟩]) vL vM) ∧ Fr (fun j => P j ∨ v.ownBlock = some j) w w'
theorem own_shape {w : World} {B : Nat} {v : Value} {l : List UInt8} (h : OwnO w B v l) : ∃ a c, v = .slice a l.length c ∧ l.length ≤ c := by
  rcases h with ⟨rfl, rfl⟩ | ⟨g, off, cap, cur, fr, rfl, _, _, _, hc, _⟩
  · exact ⟨_, _, rfl, Nat.le_refl _⟩
  · exact ⟨_, _, rfl, hc⟩
theorem own_get8 {w : World} {B : Nat} {a : Option Addr} {n c : Nat} {l : List UInt8} (h : OwnO w B (.slice a n c) l) {i : Nat} (hi : i < l.length) (x : UInt8) : ∃ g off old, a = some ⟨g, off, none⟩ ∧ w.cell? ⟨g, off + i, none⟩ = some old ∧ w.frozen? ⟨g, off + i, none⟩ = false ∧ OwnO (w.setCell ⟨g, off + i, none⟩ (.int .u8 (x.toNat : Int))) B (.slice a n c) (l.set i x) := by
  rcases h with ⟨_, rfl⟩ | h
  · cases hi
  · obtain ⟨g, off, c', e⟩ := h.len
    injection e with e1 e2 e3
    subst e1 e2 e3
    obtain ⟨k1, k2, k3⟩ := h.store i hi x
    exact ⟨g, off, _, rfl, k1, k2, .inr k3⟩
theorem own_lt {w : World} {B : Nat} {v : Value} {l : List UInt8} (h : OwnO w B v l) {g : Nat} (hg : v.ownBlock = some g) : g < w.heap.size := by
  rcases h with ⟨rfl, _⟩ | h
  · cases hg
  · exact (h.lt g hg).2
theorem wr7_all {l : List UInt8} {x : UInt8} {n : Nat} (h : l.length = n) : wr7 x l n = List.replicate n x := by
  unfold wr7
  rw [← h, List.drop_length, List.append_nil]
set_option maxRecDepth 100000 in
set_option maxHeartbeats 8000000 in
theorem hold_walk (P : Nat → Prop) (w : World) (bb : Nat) (es : List BE) (vL vM v : Value) (l : List UInt8) (hB : BK P w bb es vL vM) (hO : OwnO w 0 v l) (hv : ∀ g, v.ownBlock = some g → ¬ P g) (hl : l.length ≤ 1048576) (hes : es.length ≤ 1000) :
    Calls Tryz.prog 11 #[.pointer (some ⟨bb, 0, none⟩), v] w fun e w' => e = .returned (.tuple #[]) ∧ HOLD P w bb es v l.length w' := by
  obtain ⟨n, hn⟩ : ∃ n, l.length = n := ⟨_, rfl⟩
  obtain ⟨ne, hne⟩ : ∃ n, es.length = n := ⟨_, rfl⟩
  have HN := Hid.of (And.intro hn hne)
  obtain ⟨a, c, rfl, hc⟩ := own_shape hO
  have HB := Hid.of hB
  have HO := Hid.of hO
  have HV := Hid.of hv
  obtain ⟨aL, cL, hLe, hcL⟩ := row_sh hB.rk.rl
  rw [List.length_map] at hLe hcL
  rw [hne] at hes hLe hcL
  rw [hn] at hl hc HO HV ⊢
  subst hLe
  obtain ⟨aM, cM, hMe, _⟩ := row_sh hB.rk.rm
  rw [List.length_map, hne] at hMe
  subst hMe
  have c0 := hB.rk.c0
  have hw7 : IntKind.i64.wrap ((ne : Int) * 7) = (ne : Int) * 7 := by rw [IntKind.wrap_i64]; omega
  have hw8 : IntKind.i64.wrap ((ne : Int) * 7 + 1) = (ne : Int) * 7 + 1 := by rw [IntKind.wrap_i64]; omega
  have hwm := wrap_mk8 ne
  have HM := Hid.of (show mk8 ne = mk8 es.length by rw [hne])
  generalize mk8 ne = x at *
  have hcz : (n : Int) ≤ (c : Int) := by omega
  clear hB hO hv hn hne
  go_enter Tryz.func11, Tryz.ntmps11
  go_wp2
  clear c0
  go_loopw [5] (fun v5 wr => ∃ i : Nat, v5 = .int .i64 (i : Int) ∧ i ≤ n ∧ Hid (OwnO wr 0 (.slice a n c) (wr7 x l i) ∧ Fr (fun j => (Value.slice a n c).ownBlock = some j) w wr)) (fun v5 _ => n - (intOf v5).toNat)
  case atStart => exact ⟨0, rfl, by omega, by simpa [wr7] using HO.out, Fr.refl _ w⟩
  case round =>
    obtain ⟨i, rfl, hi, hI⟩ := hrel
    by_cases hlt : i < n
    · have hlt' : (i : Int) < (n : Int) := by omega
      obtain ⟨g, off, old, rfl, k1, k2, k3⟩ := own_get8 hI.out.1 (i := i) (by rw [wr7_len (by rw [HN.out.1]; omega), HN.out.1]; exact hlt) x
      rw [wr7_set (by rw [HN.out.1]; exact hlt)] at k3
      have HNX := Hid.of (And.intro k3 (hI.out.2.trans ((Fr.set wr ⟨g, off + i, none⟩ (.int .u8 (x.toNat : Int))).mono (fun j _ e => by rw [e]; rfl))))
      clear k3 hI
      go_wp2
      go_roundw
      case rel => exact ⟨i + 1, by go_num, by omega, by exact HNX⟩
      case measure => simp [intOf]; omega
    · have hlt' : ¬ (i : Int) < (n : Int) := by omega
      obtain rfl : i = n := by omega
      have HI := Hid.of (show OwnO wr 0 (.slice a i c) (List.replicate i x) ∧ Fr (fun j => (Value.slice a i c).ownBlock = some j) w wr by
        rw [← wr7_all HN.out.1]
        exact hI.out)
      clear hI
      go_wp2_with (with_reducible show wpList _ _ _ ({ dst := _, op := Op.call { callee := Callee.builtin Builtin.append, args := _, argTypes := _ }, type := _, pos := _, after := _, guard := _ } :: _) _ _; refine Shut.out ?_)
      show wpList _ _ _ _ _ _
      refine wpList_appO rfl _ _ rfl 0 (.slice a i c) (List.replicate i x) x rfl HI.out.1 1 rfl (by simp; omega) ?_
      intro v7 w7 h1 h2 h3 h4
      simp only [Act.put, List.setIfInBounds_toArray, List.set_cons_zero, List.set_cons_succ]
      obtain ⟨a7, n7, c7, rfl⟩ : ∃ a7 n7 c7, v7 = .slice a7 n7 c7 := by
        obtain ⟨a7, c7, e, _⟩ := h1
        exact ⟨_, _, _, e⟩
      have HF7 := Hid.of (HI.out.2.trans (Fr.of_grown h3))
      have HS7 := Hid.of (show w.heap.size ≤ wr.heap.size ∧ wr.heap.size ≤ w7.heap.size from ⟨HI.out.2.size, h3.size⟩)
      have HBK := Hid.of (HB.out.fr HF7.out (fun j hp e => HV.out j e hp))
      obtain ⟨Q, HQ⟩ : ∃ Q : Nat → Prop, Hid (Q = fun j => P j ∨ (Value.slice a i c).ownBlock = some j ∨ w.heap.size ≤ j) := ⟨_, Hid.of rfl⟩
      have HPQ := Hid.of (fun j (hp : P j) => show Q j by rw [HQ.out]; exact .inl hp)
      have HWQ := Hid.of (fun j (hp : w.heap.size ≤ j) => show Q j by rw [HQ.out]; exact .inr (.inr hp))
      have HFV := Hid.of (show FreeOf Q w7 bb (.slice aL ne cL) (.slice aM ne cM) (.slice a i c) from fun g hg => ⟨by rw [HQ.out]; exact .inr (.inl hg), Nat.lt_of_lt_of_le (own_lt HI.out.1 hg) HS7.out.2, fun e => HV.out g hg (by rw [e]; exact HB.out.rk.bp), fun e => HV.out g hg (HB.out.rk.nl g e).1, fun e => HV.out g hg (HB.out.rk.nm g e).1⟩)
      have HEN := Hid.of (show EN Q w7 bb (.slice aL ne cL) (.slice aM ne cM) es.length ⟨.slice a i c, .slice a7 n7 c7, i⟩ from ⟨by rw [← HM.out]; exact h2, by rw [← HM.out, List.replicate_succ']; exact h1, hl, HFV.out, fun g hg => by
        obtain ⟨k1, k2⟩ := h4 g hg
        rcases k1 with k1 | k1
        · exact HFV.out g k1
        · have hsz := HS7.out.1
          exact ⟨HWQ.out g (by omega), k2, fun e => by have := HB.out.rk.bl; omega, fun e => by have := (World.ownsRow.lt HB.out.rk.rl g e).2; omega, fun e => by have := (World.ownsRow.lt HB.out.rk.rm g e).2; omega⟩⟩)
      have HRK := Hid.of (HBK.out.rk.mono HPQ.out)
      have HES := Hid.of (fun k (hk : k < es.length) => (HBK.out.en k hk).mono HPQ.out)
      have c0 := HRK.out.c0
      clear h1 h2 h3 h4 HBK HFV HI
      go_wp2_with (with_reducible show wpList _ _ _ ({ dst := _, op := Op.call { callee := Callee.builtin Builtin.append, args := _, argTypes := _ }, type := _, pos := _, after := _, guard := _ } :: _) _ _; refine Shut.out ?_)
      show wpList _ _ _ _ _ _
      refine wpList_appL rfl _ _ rfl (.slice aL ne cL) (.slice a i c) (es.map BE.vl) ne rfl (by have h := HRK.out.rl; rw [List.length_map, HN.out.2] at h; exact h) 1 rfl (by omega) rfl ?_
      intro v8 w8 h1 h2 h3
      simp only [Act.put, List.setIfInBounds_toArray, List.set_cons_zero, List.set_cons_succ]
      obtain ⟨a8, c8, rfl, _⟩ := row_sh h1
      obtain ⟨n8, hn8⟩ : ∃ n, (es.map BE.vl ++ [Value.slice a i c]).length = n := ⟨_, rfl⟩
      have HP0 := Hid.of (RK.put0 HRK.out h1 h2 h3)
      have HE0 := Hid.of (fun k (hk : k < es.length) => EN.put0 (HES.out k hk) HP0.out.2 (fun _ h => h) h3)
      have HN0 := Hid.of (EN.put0 HEN.out HP0.out.2 (fun _ h => h) h3)
      have hb8 : ¬ (Value.slice aL ne cL).ownBlock = some bb := fun e => (HRK.out.nl bb e).2.1 rfl
      have d0 : w8.cell? ⟨bb, 0, none⟩ = some (.slice aL ne cL) := by rw [World.cell?_of_block (w := w7) ((Fr.of_grown h2).block bb HRK.out.bl hb8)]; exact c0
      have d1 : w8.frozen? ⟨bb, 0, none⟩ = false := by rw [World.frozen?_of_block (w := w7) ((Fr.of_grown h2).block bb HRK.out.bl hb8)]; exact (HRK.out.th 0 (by decide)).2
      have HQ8 := Hid.of (fun j (h : Q j ∨ w7.heap.size ≤ j) => show Q j from h.elim id (fun h => HWQ.out j (Nat.le_trans (Nat.le_trans HS7.out.1 HS7.out.2) h)))
      rw [hn8] at HP0 HE0 HN0 ⊢
      have m1 := HP0.out.1.c1
      clear h1 h2 h3 hb8 c0 hn8
      go_wp2_with (with_reducible show wpList _ _ _ ({ dst := _, op := Op.call { callee := Callee.builtin Builtin.append, args := _, argTypes := _ }, type := _, pos := _, after := _, guard := _ } :: _) _ _; refine Shut.out ?_)
      show wpList _ _ _ _ _ _
      clear d0 d1 m1
      have hz9 : (w8.setCell ⟨bb, 0, none⟩ (.slice a8 n8 c8)).heap.size = w8.heap.size := by simp
      generalize w8.setCell ⟨bb, 0, none⟩ (.slice a8 n8 c8) = w9 at *
      rw [← hz9]
      clear hz9
      have HR9 := Hid.of (HP0.out.1.mono HQ8.out)
      have HS9 := Hid.of HP0.out.2.size
      have HE9 := Hid.of (fun k (hk : k < es.length) => (HE0.out k hk).mono (fun j h => h))
      refine wpList_appL rfl _ _ rfl (.slice aM ne cM) (.slice a7 n7 c7) (es.map BE.vm) ne rfl (by have h := HR9.out.rm; rw [List.length_map, HN.out.2] at h; exact h) 1 rfl (by omega) rfl ?_
      intro v10 w10 h1 h2 h3
      simp only [Act.put, List.setIfInBounds_toArray, List.set_cons_zero, List.set_cons_succ]
      obtain ⟨a10, c10, rfl, _⟩ := row_sh h1
      obtain ⟨n10, hn10⟩ : ∃ n, (es.map BE.vm ++ [Value.slice a7 n7 c7]).length = n := ⟨_, rfl⟩
      have HP1 := Hid.of (RK.put1 HR9.out h1 h2 h3)
      have HE1 := Hid.of (fun k (hk : k < es.length) => EN.put1 (HE9.out k hk) HP1.out.2 (fun _ h => h) h3)
      have HN1 := Hid.of (EN.put1 HN0.out HP1.out.2 (fun _ h => h) h3)
      have hb10 : ¬ (Value.slice aM ne cM).ownBlock = some bb := fun e => (HR9.out.nm bb e).2 rfl
      have d0 : w10.cell? ⟨bb, 1, none⟩ = some (.slice aM ne cM) := by rw [World.cell?_of_block (w := w9) ((Fr.of_grown h2).block bb HR9.out.bl hb10)]; exact HR9.out.c1
      have d1 : w10.frozen? ⟨bb, 1, none⟩ = false := by rw [World.frozen?_of_block (w := w9) ((Fr.of_grown h2).block bb HR9.out.bl hb10)]; exact (HR9.out.th 1 (by decide)).2
      have HQ10 := Hid.of (fun j (h : Q j ∨ w9.heap.size ≤ j) => show Q j from h.elim id (fun h => HWQ.out j (Nat.le_trans (Nat.le_trans (Nat.le_trans HS7.out.1 HS7.out.2) HS9.out) h)))
      rw [hn10] at HP1 HE1 HN1 ⊢
      clear h1 h2 h3 hb10 hn10
      go_wp2
      clear d0 d1
      generalize w10.setCell ⟨bb, 1, none⟩ (.slice a10 n10 c10) = w11 at *
      try simp only [Exit.inBlock, Exit.then]
      have HBE := Hid.of (show BK Q w11 bb (es ++ [⟨.slice a i c, .slice a7 n7 c7, i⟩]) (.slice a8 n8 c8) (.slice a10 n10 c10) from ⟨by
        rw [List.map_append, List.map_append]
        exact HP1.out.1.mono HQ10.out, fun k hk => by
        rw [List.length_append] at hk
        rcases Nat.lt_or_ge k es.length with h | h
        · rw [List.getElem_append_left h]
          exact HE1.out k h
        · have hk2 : k = es.length := by simp at hk; omega
          subst hk2
          rw [List.getElem_append_right (Nat.le_refl _)]
          simpa using HN1.out⟩)
      have HFE := Hid.of (show Fr (fun j => P j ∨ (Value.slice a i c).ownBlock = some j) w w11 from ((HF7.out.mono (fun j _ e => .inr e)).trans (HP0.out.2.mono (fun j _ e => e.elim (fun e => .inl (by rw [e]; exact HB.out.rk.bp)) (fun e => .inl (HB.out.rk.nl j e).1)))).trans (HP1.out.2.mono (fun j _ e => e.elim (fun e => .inl (by rw [e]; exact HB.out.rk.bp)) (fun e => .inl (HB.out.rk.nm j e).1))))
      have HQE := Hid.of (show BK (fun j => P j ∨ (Value.slice a i c).ownBlock = some j ∨ w.heap.size ≤ j) w11 bb (es ++ [⟨.slice a i c, .slice a7 n7 c7, i⟩]) (.slice a8 n8 c8) (.slice a10 n10 c10) by rw [← HQ.out]; exact HBE.out)
      clear HBE HP1 HE1 HN1 HP0 HE0 HN0
      clear HF7 HS7 HEN HRK HES HR9 HE9
      refine bodyPost_end (results_none rfl _ _ _) rfl ?_
      exact ⟨rfl, ⟨_, _, _, HQE.out⟩, HFE.out⟩
end Go.Proofs.YtaobnnlcfefodaaGreatDoor
