import Derived.Test.YtaobnnlcfefodaaDoorWf
import Derived.Stop.BytesEq
import Derived.Laws.StructEq
namespace Go.Proofs.YtaobnnlcfefodaaDoor
open Go.RowKit Go.Shelf TextNum
theorem equalH (d : Nat) (r q : List UInt8) (hr : r.length = 32) (hq : q.length = 32) (w : World) : (Op.equalIn (d + 2) 30 (.agg (cb r).toArray) (.agg (cb q).toArray)).run Tryd.prog w = .ok (r == q) w :=
  run_equalIn_bytes w d 30 5 32 Tryd.underlying30 Tryd.underlying5 (fun w => Tryd.sizeOf5 w) r q hr hq
theorem exec_neqH {op : Oper} {ρ : Operand → Value} {x y : Operand} {t : TypeId} (ho : op.op = .binOp .neq 30 x y t) (r : List UInt8) (hx : ρ x = .agg (cb r).toArray) (hy : ρ y = .agg (cb r).toArray) (hr : r.length = 32) (w : World) : (execOp ρ op).run Tryd.prog w = .ok (.value (.bool false)) w := by
  have hq := equalH 9998 r r hr hr w
  rw [show (r == r) = true from beq_self_eq_true r] at hq
  unfold execOp
  simp only [ho, hx, hy, Sem.run_bind, run_eqGuard_agg (P := Tryd.prog) (w := w) .neq 30 x y _ _ Tryd.eqGuardType30, run_neq_struct, hq, Result.andThen_ok, Sem.run_pure]
  rfl
set_option maxRecDepth 100000 in
set_option maxHeartbeats 4000000 in
theorem proofs_walk (v1 v2 : Value) (hs : List (List UInt8)) (w : World) (h1 : HL w v1 hs) (h2 : HL w v2 hs) (hl : hs.length ≤ 64) : Calls Tryd.prog 8 #[v1, v2] w fun e w' => e = .returned (.bool true) ∧ Up w w' := by
  obtain ⟨a1, c1, rfl, k1, x1⟩ := h1
  obtain ⟨a2, c2, rfl, k2, x2⟩ := h2
  have HX1 := Hid.of x1
  have HX2 := Hid.of x2
  obtain ⟨n, hn⟩ : ∃ n, hs.length = n := ⟨_, rfl⟩
  have HN := Hid.of (And.intro hn trivial)
  rw [hn] at k1 k2 hl ⊢
  clear x1 x2 hn
  go_enter Tryd.func8, Tryd.ntmps8
  go_wp2
  go_loopw [5] (fun v5 wr => ∃ i : Nat, v5 = .int .i64 (i : Int) ∧ i ≤ n ∧ Hid (Up w wr)) (fun v5 _ => n - (intOf v5).toNat)
  case atStart => exact ⟨0, rfl, by omega, Hid.of (Up.refl _)⟩
  case round =>
    obtain ⟨i, rfl, hi, HU⟩ := hrel
    by_cases hlt : i < n
    · have hltz : (i : Int) < (n : Int) := by omega
      have k1z : (n : Int) ≤ (c1 : Int) := by omega
      have k2z : (n : Int) ≤ (c2 : Int) := by omega
      have hiw : IntKind.i64.wrap ((i : Int) + 1) = (i : Int) + 1 := by rw [IntKind.wrap_i64]; omega
      have hil : i < hs.length := by rw [HN.out.1]; exact hlt
      obtain ⟨hx32, b1, o1, rfl, _, r1⟩ := HX1.out i hil
      obtain ⟨_, b2, o2, rfl, _, r2⟩ := HX2.out i hil
      obtain ⟨x, hx⟩ : ∃ x, hs[i] = x := ⟨_, rfl⟩
      rw [hx] at hx32 r1 r2
      have hcl : (cb x).length = 32 := by rw [cb_length]; exact hx32
      have HR1 := Hid.of (range_upW r1 HU.out)
      have HR2 := Hid.of (range_upW r2 HU.out)
      clear hx r1 r2
      go_wp2_with fail
      refine wp_region_held_drew (S := fun w2 => Up wr w2) (by kernel_rfl) (Up.refl wr).drew (fun hS => ?_)
      refine wpAnyH_take (i := 0) (oi := { dst := some 17, op := Go.Op.move (Go.Operand.tmp 0), type := 31, pos := "law.go:107", after := #[], guard := none }) (v := .slice (some ⟨b1, o1, none⟩) n c1) rfl (by kernel_rfl) (by kernel_rfl) (by kernel_rfl) (fun _ _ _ h => h) (Or.inl ⟨by kernel_rfl, ?_⟩) hS ?_
      · intro w5 hSw
        clear hSw hS
        go_simp
      simp only [Act.put, List.setIfInBounds_toArray, List.set_cons_zero, List.set_cons_succ]
      refine wpAnyH_take (i := 1) (oi := { dst := some 18, op := Go.Op.move (Go.Operand.tmp 5), type := 3, pos := "law.go:107", after := #[], guard := none }) (v := .int .i64 (i : Int)) rfl (by kernel_rfl) (by kernel_rfl) (by kernel_rfl) (fun _ _ _ h => h) (Or.inl ⟨by kernel_rfl, ?_⟩) hS ?_
      · intro w5 hSw
        clear hSw hS
        go_simp
      simp only [Act.put, List.setIfInBounds_toArray, List.set_cons_zero, List.set_cons_succ]
      refine wpAnyH_take (i := 2) (oi := { dst := some 19, op := Go.Op.indexAddr 31 (Go.Operand.tmp 17) (Go.Operand.tmp 18), type := 0, pos := "law.go:107", after := #[{ on := 0, ground := Go.Ground.data }, { on := 1, ground := Go.Ground.data }], guard := none }) (v := .pointer (some ⟨b1, o1 + i * 32, none⟩)) rfl (by kernel_rfl) (by kernel_rfl) (by kernel_rfl) (fun _ _ _ h => h) (Or.inl ⟨by kernel_rfl, ?_⟩) hS ?_
      · intro w5 hSw
        clear hSw hS
        go_simp
      simp only [Act.put, List.setIfInBounds_toArray, List.set_cons_zero, List.set_cons_succ]
      refine wpAnyH_take (i := 3) (oi := { dst := some 20, op := Go.Op.load 30 (Go.Operand.tmp 19), type := 30, pos := "law.go:107", after := #[{ on := 2, ground := Go.Ground.data }], guard := none }) (v := .agg (cb x).toArray) rfl (by kernel_rfl) (by kernel_rfl) (by kernel_rfl) (fun _ _ _ h => h) (yieldsIf_load_mid (by kernel_rfl) _ _ rfl (b1) (o1 + i * 32) rfl (cb x) _ (fun w5 hSw => range_upW HR1.out hSw) Tryd.underlying30 rfl (by rw [hcl]; exact infoHs)) hS ?_
      simp only [Act.put, List.setIfInBounds_toArray, List.set_cons_zero, List.set_cons_succ]
      refine wpAnyH_take (i := 4) (oi := { dst := some 21, op := Go.Op.move (Go.Operand.tmp 1), type := 22, pos := "law.go:107", after := #[], guard := none }) (v := .slice (some ⟨b2, o2, none⟩) n c2) rfl (by kernel_rfl) (by kernel_rfl) (by kernel_rfl) (fun _ _ _ h => h) (Or.inl ⟨by kernel_rfl, ?_⟩) hS ?_
      · intro w5 hSw
        clear hSw hS
        go_simp
      simp only [Act.put, List.setIfInBounds_toArray, List.set_cons_zero, List.set_cons_succ]
      refine wpAnyH_take (i := 5) (oi := { dst := some 22, op := Go.Op.move (Go.Operand.tmp 5), type := 3, pos := "law.go:107", after := #[], guard := none }) (v := .int .i64 (i : Int)) rfl (by kernel_rfl) (by kernel_rfl) (by kernel_rfl) (fun _ _ _ h => h) (Or.inl ⟨by kernel_rfl, ?_⟩) hS ?_
      · intro w5 hSw
        clear hSw hS
        go_simp
      simp only [Act.put, List.setIfInBounds_toArray, List.set_cons_zero, List.set_cons_succ]
      refine wpAnyH_take (i := 6) (oi := { dst := some 23, op := Go.Op.indexAddr 22 (Go.Operand.tmp 21) (Go.Operand.tmp 22), type := 0, pos := "law.go:107", after := #[{ on := 4, ground := Go.Ground.data }, { on := 5, ground := Go.Ground.data }], guard := none }) (v := .pointer (some ⟨b2, o2 + i * 32, none⟩)) rfl (by kernel_rfl) (by kernel_rfl) (by kernel_rfl) (fun _ _ _ h => h) (Or.inl ⟨by kernel_rfl, ?_⟩) hS ?_
      · intro w5 hSw
        clear hSw hS
        go_simp
      simp only [Act.put, List.setIfInBounds_toArray, List.set_cons_zero, List.set_cons_succ]
      refine wpAnyH_take (i := 7) (oi := { dst := some 24, op := Go.Op.load 29 (Go.Operand.tmp 23), type := 29, pos := "law.go:107", after := #[{ on := 6, ground := Go.Ground.data }], guard := none }) (v := .agg (cb x).toArray) rfl (by kernel_rfl) (by kernel_rfl) (by kernel_rfl) (fun _ _ _ h => h) (yieldsIf_load_mid (by kernel_rfl) _ _ rfl (b2) (o2 + i * 32) rfl (cb x) _ (fun w5 hSw => range_upW HR2.out hSw) Tryd.underlying29 rfl (by rw [hcl]; exact infoA32)) hS ?_
      simp only [Act.put, List.setIfInBounds_toArray, List.set_cons_zero, List.set_cons_succ]
      refine wpAnyH_take (i := 8) (oi := { dst := some 25, op := Go.Op.binOp Go.BinOp.neq 30 (Go.Operand.tmp 20) (Go.Operand.tmp 24) 30, type := 4, pos := "law.go:107", after := #[{ on := 3, ground := Go.Ground.data }, { on := 7, ground := Go.Ground.data }], guard := none }) (v := .bool false) rfl (by kernel_rfl) (by kernel_rfl) (by kernel_rfl) (fun _ _ _ h => h) (Or.inl ⟨by kernel_rfl, ?_⟩) hS ?_
      · intro w5 hSw
        exact exec_neqH rfl x rfl rfl hx32 w5
      simp only [Act.put, List.setIfInBounds_toArray, List.set_cons_zero, List.set_cons_succ]
      refine wpAnyH_done (by kernel_rfl) ?_ _
      clear hS
      have HU7 := Hid.of (HU.out.trans (Up.refl wr).drew)
      generalize wr.drew = w7 at *
      go_wp2
      go_roundw
      case rel => exact ⟨i + 1, by go_num, by omega, HU7⟩
      case measure => simp [intOf]; omega
    · have hltz : ¬ (i : Int) < (n : Int) := by omega
      go_wp2
      go_ret
      exact ⟨rfl, HU.out⟩
end Go.Proofs.YtaobnnlcfefodaaDoor
