import Derived.Test.YtfhdddhapjdocaaDoorKb
namespace Go.Proofs.YtfhdddhapjdocaaDoor
open Go.RowKit Go.Shelf TextNum ModNum
def lin (p v s : List UInt8) : List UInt8 := p ++ 32 :: v ++ 32 :: s ++ [10]
/-- a record's text -/
def recT (p v a b : List UInt8) : List UInt8 := if fte p v = 0 then lin p v (sumT a) ++ lin p (v ++ GOM) (sumT b) else []
theorem rng_up {w w' : World} {b o : Nat} {cs : List Value} (h : w.rangeAt b o cs) (u : Up w w') : w'.rangeAt b o cs := fun j v hj => u.cell (h j v hj)
set_option maxRecDepth 100000 in
set_option maxHeartbeats 600000 in
theorem Record_walk (p v : ByteArray) (x y : List UInt8) (hx : x.length = 32) (hy : y.length = 32) (w : World) (hG : GR w) (hT : TabL w) :
    Calls Tryd.prog 29 #[.string p, .string v, .agg (cb x).toArray, .agg (cb y).toArray] w fun e w' => e = .returned (.tuple #[vs (recT p.data.toList v.data.toList x y), .int .i64 (fte p.data.toList v.data.toList)]) ∧ Up w w' := by
  have HF := fun w' => fun (u : Up w w') => Hid.of (partsFor_walk p v w' (hG.up u))
  have HSx := fun w' => fun (u : Up w w') => Hid.of (Sum_walk x hx w' (hT.below hT.lt u))
  have HSy := fun w' => fun (u : Up w w') => Hid.of (Sum_walk y hy w' (hT.below hT.lt u))
  have HA1 : Hid (At ((w.alloc (.cells (cb x).toArray 43)).alloc (.cells (cb y).toArray 43)) w.heap.size 43 (cb x)) := At.up (at_new w 43 (cb x)) ((Up.refl _).alloc _)
  have HA2 : Hid (At ((w.alloc (.cells (cb x).toArray 43)).alloc (.cells (cb y).toArray 43)) (w.heap.size + 1) 43 (cb y)) := by
    have := at_new (w.alloc (.cells (cb x).toArray 43)) 43 (cb y)
    rw [alloc_size] at this
    exact this
  have HU : Hid (Up w ((w.alloc (.cells (cb x).toArray 43)).alloc (.cells (cb y).toArray 43))) := ((Up.refl w).alloc _).alloc _
  have HR : Hid (recT p.data.toList v.data.toList x y = if fte p.data.toList v.data.toList = 0 then lin p.data.toList v.data.toList (sumT x) ++ lin p.data.toList (v.data.toList ++ GOM) (sumT y) else []) := rfl
  have HlX := Hid.of (And.intro hx hy)
  clear hG hT hx hy
  have mixed : Tryd.prog.follows .mixedOrders = true := by kernel_rfl
  go_enter Tryd.func29, Tryd.ntmps29
  go_wp2_with fail
  generalize (w.alloc (.cells (cb x).toArray 43)).alloc (.cells (cb y).toArray 43) = W0 at *
  refine (HF _ HU.out).out.mono ?_
  rintro e w1 ⟨n0, n1, n2, va, ws, inc, rfl, hS1, _, _, u1⟩
  have HB1 := Hid.of ((HA1.out.up u1).up ((Up.refl w1).alloc (.cells (pc5 n0 n1 n2 va inc) 56)))
  have HB2 := Hid.of ((HA2.out.up u1).up ((Up.refl w1).alloc (.cells (pc5 n0 n1 n2 va inc) 56)))
  have HU2 := Hid.of ((HU.out.trans u1).alloc (.cells (pc5 n0 n1 n2 va inc) 56))
  obtain ⟨a0, c0, rfl⟩ := hS1.len
  generalize ws.length = wn at *
  clear hS1 u1 HF HA1 HA2 HU
  dsimp only
  by_cases h0 : fte p.data.toList v.data.toList = 0
  · have HR2 := Hid.of (HR.out.trans (if_pos h0))
    have H0 := Hid.of (And.intro h0 trivial)
    obtain ⟨mm, qq, hm1, hv1, _⟩ := fte_ok h0
    have hp1 := (maj_len hm1).1
    have hv2 := (ver_len hv1).1
    rw [len_of] at hp1 hv2
    rw [h0]
    clear h0 HR hm1 hv1
    have ix := i32 HlX.out.1
    have iy := i32 HlX.out.2
    have hk7 : ¬ 9223372036854775807 < v.size + 7 := by omega
    have hlx := sumT_len HlX.out.1
    have hly := sumT_len HlX.out.2
    obtain ⟨vg, hvg⟩ : ∃ vg : ByteArray, vg = v ++ ⟨#[47, 103, 111, 46, 109, 111, 100]⟩ := ⟨_, rfl⟩
    have hvd : vg.data.toList = v.data.toList ++ GOM := by rw [hvg, ba_app]
    have hvs : vg.size = v.size + 7 := by rw [hvg]; simp; rfl
    have HL1 := fun w' => Hid.of (line_walk p v ⟨(sumT x).toArray⟩ (by omega) (by omega) (by rw [str_len]; omega) w')
    have HL2 := fun w' => Hid.of (line_walk p vg ⟨(sumT y).toArray⟩ (by omega) (by omega) (by rw [str_len]; omega) w')
    rw [ba_data'] at HL1 HL2
    rw [hvd] at HL2
    obtain ⟨r1, hr1⟩ : ∃ r1 : ByteArray, r1 = ⟨(lin p.data.toList v.data.toList (sumT x)).toArray⟩ := ⟨_, rfl⟩
    obtain ⟨r2, hr2⟩ : ∃ r2 : ByteArray, r2 = ⟨(lin p.data.toList (v.data.toList ++ GOM) (sumT y)).toArray⟩ := ⟨_, rfl⟩
    have hz1 : r1.size ≤ 1024 := by rw [hr1, str_len]; simp [lin, hlx]; omega
    have hz2 : r2.size ≤ 1024 := by rw [hr2, str_len]; simp [lin, hly]; omega
    have HL1' : ∀ w', Hid (Calls Tryd.prog 44 #[.string p, .string v, vs (sumT x)] w' fun e w'' => e = .returned (.string r1) ∧ w'' = w') := by rw [hr1]; exact HL1
    have HL2' : ∀ w', Hid (Calls Tryd.prog 44 #[.string p, .string (v ++ ⟨#[47, 103, 111, 46, 109, 111, 100]⟩), vs (sumT y)] w' fun e w'' => e = .returned (.string r2) ∧ w'' = w') := by rw [← hvg, hr2]; exact HL2
    have HRR := Hid.of (And.intro hr1 hr2)
    clear HL1 HL2 hr1 hr2 hvd hvs hlx hly hvg
    have hk8 : ¬ 9223372036854775807 < r1.size + r2.size := by omega
    unfold vs at HSx HSy HL1' HL2'
    generalize (⟨(sumT x).toArray⟩ : ByteArray) = sx at *
    generalize (⟨(sumT y).toArray⟩ : ByteArray) = sy at *
    go_wp2
    refine wp_region_held_drew (S := fun w2 => w2.rangeAt (w.heap.size) 0 (cb x) ∧ w2.rangeAt (w.heap.size + 1) 0 (cb y) ∧ Up w w2) (by kernel_rfl) ⟨by simpa using HB1.out.range, by simpa using HB2.out.range, HU2.out.drew⟩ (fun hS => ?_)
    refine wpAnyH_take (i := 0) (oi := { dst := some 21, op := Go.Op.move (Go.Operand.tmp 0), type := 9, pos := "record.go:38", after := #[], guard := none }) (v := .string p) rfl (by kernel_rfl) (by kernel_rfl) (by kernel_rfl) (fun _ _ _ h => h) (Or.inl ⟨by kernel_rfl, ?_⟩) hS ?_
    · intro w5 hSw
      go_simp
    simp only [Act.put, List.setIfInBounds_toArray, List.set_cons_zero, List.set_cons_succ]
    refine wpAnyH_take (i := 1) (oi := { dst := some 22, op := Go.Op.move (Go.Operand.tmp 1), type := 9, pos := "record.go:38", after := #[], guard := none }) (v := .string v) rfl (by kernel_rfl) (by kernel_rfl) (by kernel_rfl) (fun _ _ _ h => h) (Or.inl ⟨by kernel_rfl, ?_⟩) hS ?_
    · intro w5 hSw
      go_simp
    simp only [Act.put, List.setIfInBounds_toArray, List.set_cons_zero, List.set_cons_succ]
    refine wpAnyH_take (i := 2) (oi := { dst := some 23, op := Go.Op.load 43 (Go.Operand.tmp 6), type := 43, pos := "record.go:38", after := #[], guard := none }) (v := .agg (cb x).toArray) rfl (by kernel_rfl) (by kernel_rfl) (by kernel_rfl) (fun _ _ _ h => h) (yieldsIf_load_mid (by kernel_rfl) _ _ rfl (w.heap.size) 0 rfl (cb x) _ (fun w5 hSw => hSw.1) Tryd.underlying43 rfl ix) hS ?_
    simp only [Act.put, List.setIfInBounds_toArray, List.set_cons_zero, List.set_cons_succ]
    refine wpAnyH_take (i := 5) (oi := { dst := some 26, op := Go.Op.move (Go.Operand.tmp 0), type := 9, pos := "record.go:38", after := #[], guard := none }) (v := .string p) rfl (by kernel_rfl) (by kernel_rfl) (by kernel_rfl) (fun _ _ _ h => h) (Or.inl ⟨by kernel_rfl, ?_⟩) hS ?_
    · intro w5 hSw
      go_simp
    simp only [Act.put, List.setIfInBounds_toArray, List.set_cons_zero, List.set_cons_succ]
    refine wpAnyH_take (i := 6) (oi := { dst := some 27, op := Go.Op.move (Go.Operand.tmp 1), type := 9, pos := "record.go:38", after := #[], guard := none }) (v := .string v) rfl (by kernel_rfl) (by kernel_rfl) (by kernel_rfl) (fun _ _ _ h => h) (Or.inl ⟨by kernel_rfl, ?_⟩) hS ?_
    · intro w5 hSw
      go_simp
    simp only [Act.put, List.setIfInBounds_toArray, List.set_cons_zero, List.set_cons_succ]
    refine wpAnyH_take (i := 7) (oi := { dst := some 28, op := Go.Op.binOp Go.BinOp.add 9 (Go.Operand.tmp 27) (Go.Operand.const (Go.Value.string { data := #[47, 103, 111, 46, 109, 111, 100] })) 9, type := 9, pos := "record.go:38", after := #[{ on := 6, ground := Go.Ground.data }], guard := none }) (v := .string (v ++ ⟨#[47, 103, 111, 46, 109, 111, 100]⟩)) rfl (by kernel_rfl) (by kernel_rfl) (by kernel_rfl) (fun _ _ _ h => h) (Or.inl ⟨by kernel_rfl, ?_⟩) hS ?_
    · intro w5 hSw
      go_simp
    simp only [Act.put, List.setIfInBounds_toArray, List.set_cons_zero, List.set_cons_succ]
    refine wpAnyH_take (i := 8) (oi := { dst := some 29, op := Go.Op.load 43 (Go.Operand.tmp 7), type := 43, pos := "record.go:38", after := #[], guard := none }) (v := .agg (cb y).toArray) rfl (by kernel_rfl) (by kernel_rfl) (by kernel_rfl) (fun _ _ _ h => h) (yieldsIf_load_mid (by kernel_rfl) _ _ rfl (w.heap.size + 1) 0 rfl (cb y) _ (fun w5 hSw => hSw.2.1) Tryd.underlying43 rfl iy) hS ?_
    simp only [Act.put, List.setIfInBounds_toArray, List.set_cons_zero, List.set_cons_succ]
    refine wpAnyH_ready (rs := [3]) (by kernel_rfl) (by simp) ?_
    refine AllReadyH.cons (o := { dst := some 24, op := Go.Op.call { callee := Go.Callee.value (Go.Operand.func 27), args := #[Go.Operand.tmp 23], argTypes := #[43] }, type := 9, pos := "record.go:38", after := #[{ on := 2, ground := Go.Ground.data }], guard := none }) rfl (fun K hK => ?_) AllReadyH.nil
    rw [if_pos (by kernel_rfl)]
    go_simp
    refine ((HSx _ hS.2.2).out).mono ?_
    rintro e v1 ⟨rfl, u1⟩
    dsimp only
    refine hK.out _ _ ⟨rng_up hS.1 u1, rng_up hS.2.1 u1, hS.2.2.trans u1⟩ (fun hS1 => ?_)
    clear hK hS u1
    refine wpAnyH_ready (rs := [4]) (by kernel_rfl) (by simp) ?_
    refine AllReadyH.cons (o := { dst := some 25, op := Go.Op.call { callee := Go.Callee.value (Go.Operand.func 44), args := #[Go.Operand.tmp 21, Go.Operand.tmp 22, Go.Operand.tmp 24], argTypes := #[9, 9, 9] }, type := 9, pos := "record.go:38", after := #[{ on := 0, ground := Go.Ground.data }, { on := 1, ground := Go.Ground.data }, { on := 3, ground := Go.Ground.data }, { on := 3, ground := Go.Ground.chain }], guard := none }) rfl (fun K hK => ?_) AllReadyH.nil
    rw [if_pos (by kernel_rfl)]
    go_simp
    refine ((HL1' _).out).mono ?_
    rintro e v2 ⟨rfl, u2⟩
    obtain rfl := u2.symm
    dsimp only
    refine hK.out _ _ hS1 (fun hS2 => ?_)
    clear hK hS1
    refine wpAnyH_ready (rs := [9]) (by kernel_rfl) (by simp) ?_
    refine AllReadyH.cons (o := { dst := some 30, op := Go.Op.call { callee := Go.Callee.value (Go.Operand.func 27), args := #[Go.Operand.tmp 29], argTypes := #[43] }, type := 9, pos := "record.go:38", after := #[{ on := 8, ground := Go.Ground.data }, { on := 4, ground := Go.Ground.chain }], guard := none }) rfl (fun K hK => ?_) AllReadyH.nil
    rw [if_pos (by kernel_rfl)]
    go_simp
    refine ((HSy _ hS2.2.2).out).mono ?_
    rintro e v3 ⟨rfl, u3⟩
    dsimp only
    refine hK.out _ _ ⟨rng_up hS2.1 u3, rng_up hS2.2.1 u3, hS2.2.2.trans u3⟩ (fun hS3 => ?_)
    clear hK hS2 u3
    refine wpAnyH_ready (rs := [10]) (by kernel_rfl) (by simp) ?_
    refine AllReadyH.cons (o := { dst := some 31, op := Go.Op.call { callee := Go.Callee.value (Go.Operand.func 44), args := #[Go.Operand.tmp 26, Go.Operand.tmp 28, Go.Operand.tmp 30], argTypes := #[9, 9, 9] }, type := 9, pos := "record.go:38", after := #[{ on := 5, ground := Go.Ground.data }, { on := 7, ground := Go.Ground.data }, { on := 9, ground := Go.Ground.data }, { on := 9, ground := Go.Ground.chain }], guard := none }) rfl (fun K hK => ?_) AllReadyH.nil
    rw [if_pos (by kernel_rfl)]
    go_simp
    refine ((HL2' _).out).mono ?_
    rintro e v4 ⟨rfl, u4⟩
    obtain rfl := u4.symm
    dsimp only
    refine hK.out _ _ hS3 (fun hS4 => ?_)
    clear hK hS3
    refine wpAnyH_take (i := 11) (oi := { dst := some 32, op := Go.Op.binOp Go.BinOp.add 9 (Go.Operand.tmp 25) (Go.Operand.tmp 31) 9, type := 9, pos := "record.go:38", after := #[{ on := 4, ground := Go.Ground.data }, { on := 10, ground := Go.Ground.data }], guard := none }) (v := .string (r1 ++ r2)) rfl (by kernel_rfl) (by kernel_rfl) (by kernel_rfl) (fun _ _ _ h => h) (Or.inl ⟨by kernel_rfl, ?_⟩) hS4 ?_
    · intro w5 hSw
      go_simp
    simp only [Act.put, List.setIfInBounds_toArray, List.set_cons_zero, List.set_cons_succ]
    refine wpAnyH_ready (rs := [12]) (by kernel_rfl) (by simp) ?_
    refine AllReadyH.cons (o := { dst := some 8, op := Go.Op.assign (Go.Operand.tmp 32), type := 9, pos := "record.go:38", after := #[{ on := 11, ground := Go.Ground.data }, { on := 10, ground := Go.Ground.chain }, { on := 0, ground := Go.Ground.phase }, { on := 1, ground := Go.Ground.phase }, { on := 2, ground := Go.Ground.phase }, { on := 3, ground := Go.Ground.phase }, { on := 4, ground := Go.Ground.phase }, { on := 5, ground := Go.Ground.phase }, { on := 6, ground := Go.Ground.phase }, { on := 7, ground := Go.Ground.phase }, { on := 8, ground := Go.Ground.phase }, { on := 9, ground := Go.Ground.phase }, { on := 10, ground := Go.Ground.phase }, { on := 11, ground := Go.Ground.phase }], guard := none }) rfl (fun K hK => ?_) AllReadyH.nil
    rw [if_pos (by kernel_rfl)]
    go_simp
    refine hK.out _ _ hS4 (fun hS5 => ?_)
    clear hK hS4
    refine wpAnyH_ready (rs := [13]) (by kernel_rfl) (by simp) ?_
    refine AllReadyH.cons (o := { dst := some 9, op := Go.Op.assign (Go.Operand.const (Go.Value.int Go.IntKind.i64 0)), type := 26, pos := "record.go:38", after := #[{ on := 12, ground := Go.Ground.chain }, { on := 0, ground := Go.Ground.phase }, { on := 1, ground := Go.Ground.phase }, { on := 2, ground := Go.Ground.phase }, { on := 3, ground := Go.Ground.phase }, { on := 4, ground := Go.Ground.phase }, { on := 5, ground := Go.Ground.phase }, { on := 6, ground := Go.Ground.phase }, { on := 7, ground := Go.Ground.phase }, { on := 8, ground := Go.Ground.phase }, { on := 9, ground := Go.Ground.phase }, { on := 10, ground := Go.Ground.phase }, { on := 11, ground := Go.Ground.phase }, { on := 12, ground := Go.Ground.phase }], guard := none }) rfl (fun K hK => ?_) AllReadyH.nil
    rw [if_pos (by kernel_rfl)]
    go_simp
    refine hK.out _ _ hS5 (fun hS6 => ?_)
    clear hK hS5
    refine wpAnyH_done (by kernel_rfl) ?_ _
    have HSZ := Hid.of hS6
    clear hS6
    go_wp2_with fail
    go_ret2
    rw [HR2.out, H0.out.1]
    refine ⟨?_, HSZ.out.2.2⟩
    rw [HRR.out.1, HRR.out.2, ba_app]
    rfl
  · have HR2 := Hid.of (HR.out.trans (if_neg h0))
    have h0z : (fte p.data.toList v.data.toList != 0) = true := by rw [bne_iff_ne]; exact h0
    generalize hfe : fte p.data.toList v.data.toList = fe at *
    have HFE := Hid.of (And.intro hfe trivial)
    clear h0 HR hfe
    go_wp2
    go_ret2
    rw [HR2.out, HFE.out.1]
    exact ⟨rfl, HU2.out⟩
end Go.Proofs.YtfhdddhapjdocaaDoor
