import Derived.Test.YtfhdddhapjdocaaDoorKa
import Derived.Test.YtfhdddhapjdocaaDoorBf
import Derived.Test.YtfhdddhapjdocaaDoorFo
import Derived.Test.YtfhdddhapjdocaaDoorRb
import Derived.OpenShut
import Derived.ChangeSame
import Derived.WideKeyArgs
namespace Go.Proofs.YtfhdddhapjdocaaDoor
open Go.RowKit Go.Shelf TextNum ModNum
def sumT (x : List UInt8) : List UInt8 := 104 :: 49 :: 58 :: b64E x
theorem sumT_len {x : List UInt8} (h : x.length = 32) : (sumT x).length = 47 := by
  unfold sumT
  simp only [List.length_cons]
  rw [b64E_length, h]
set_option maxRecDepth 100000 in
theorem Sum_walk (x : List UInt8) (hx : x.length = 32) (w : World) (hT : TabL w) : Calls Tryd.prog 27 #[.agg (cb x).toArray] w fun e w' => e = .returned (vs (sumT x)) ∧ Up w w' := by
  have HA := Hid.of (at_new w 43 (cb x))
  have HU := Hid.of ((Up.refl w).alloc (.cells (cb x).toArray 43))
  have HE := fun v => fun (hS : Sl (w.alloc (.cells (cb x).toArray 43)) v x) => Hid.of (EncodeBase64_walk v x (w.alloc (.cells (cb x).toArray 43)) (hT.below hT.lt HU.out) hS (by rw [hx]; decide))
  have HX := Hid.of hx
  clear hT hx
  go_enter Tryd.func27, Tryd.ntmps27
  have hsl : Sl (w.alloc (.cells (cb x).toArray 43)) (.slice (some ⟨w.heap.size, 0, none⟩) 32 32) x := by
    refine ⟨some ⟨w.heap.size, 0, none⟩, 32, by rw [HX.out], by rw [HX.out]; exact Nat.le_refl _, .inr ⟨w.heap.size, 0, rfl, lt_of_at HA.out, fun i hi => ?_⟩⟩
    rw [Nat.zero_add]
    exact HA.out.cell (cb_get hi)
  have HE2 := Hid.of (HE _ hsl).out
  clear hsl HE
  have hes : (b64E x).length = 44 := by rw [b64E_length, HX.out]
  have HS : Hid (vs (sumT x) = .string ⟨(104 :: 49 :: 58 :: b64E x).toArray⟩) := rfl
  go_wp2_with fail
  refine HE2.out.mono ?_
  rintro e w1 ⟨rfl, u1⟩
  have H1 := Hid.of (HU.out.trans u1)
  clear u1 HE2 HA HU
  dsimp only
  have hsz : (⟨(b64E x).toArray⟩ : ByteArray).size = 44 := by rw [str_len, hes]
  unfold vs
  obtain ⟨sb, hsb⟩ : ∃ sb : ByteArray, sb = ⟨(b64E x).toArray⟩ := ⟨_, rfl⟩
  rw [← hsb] at hsz ⊢
  have HSB := Hid.of (And.intro hsb trivial)
  clear hsb hes
  have hk : ¬ 9223372036854775807 < 3 + sb.size := by omega
  go_wp2
  go_ret
  rw [HS.out]
  refine ⟨?_, H1.out⟩
  rw [HSB.out.1, ba_app]
  rfl
set_option maxRecDepth 100000 in
theorem line_walk (p v s : ByteArray) (hp : p.size ≤ 1048576) (hv : v.size ≤ 1048576) (hs : s.size ≤ 1048576) (w : World) : Calls Tryd.prog 44 #[.string p, .string v, .string s] w fun e w' => e = .returned (.string ⟨(p.data.toList ++ 32 :: v.data.toList ++ 32 :: s.data.toList ++ [10]).toArray⟩) ∧ w' = w := by
  have k1 : ¬ 9223372036854775807 < p.size + 1 := by omega
  have k2 : ¬ 9223372036854775807 < p.size + 1 + v.size := by omega
  have k3 : ¬ 9223372036854775807 < p.size + 1 + v.size + 1 := by omega
  have k4 : ¬ 9223372036854775807 < p.size + 1 + v.size + 1 + s.size := by omega
  have k5 : ¬ 9223372036854775807 < p.size + 1 + v.size + 1 + s.size + 1 := by omega
  go_enter Tryd.func44, Tryd.ntmps44
  go_wp2
  go_ret
  refine ⟨?_, rfl⟩
  simp only [ba_app]
  simp
end Go.Proofs.YtfhdddhapjdocaaDoor
namespace Go.Proofs.YtfhdddhapjdocaaDoor
open Go.RowKit Go.Shelf TextNum ModNum
def lin (p v s : List UInt8) : List UInt8 := p ++ 32 :: v ++ 32 :: s ++ [10]
/-- a record's text -/
def recT (p v a b : List UInt8) : List UInt8 := if fte p v = 0 then lin p v (sumT a) ++ lin p (v ++ GOM) (sumT b) else []
theorem rng_up {w w' : World} {b o : Nat} {cs : List Value} (h : w.rangeAt b o cs) (u : Up w w') : w'.rangeAt b o cs := fun j v hj => u.cell (h j v hj)
set_option maxRecDepth 100000 in
set_option maxHeartbeats 600000 in
theorem Record_walk (p v : ByteArray) (x y : List UInt8) (hx : x.length = 32) (hy : y.length = 32) (w : World) (hG : GR w) (hT : TabL w) :
    Calls Tryd.prog 29 #[.string p, .string v, .agg (cb x).toArray, .agg (cb y).toArray] w fun e w' => e = .returned (.tuple #[vs (recT p.data.toList v.data.toList x y), .int .i64 (fte p.data.toList v.data.toList)]) ∧ Up w w' := by
  have HF := fun w' => fun (u : Up w w') => Hid.of (partsFor_walk p v w' (hG.up u))
  have HSx := fun w' => fun (u : Up w w') => Hid.of (Sum_walk x hx w' (hT.below hT.lt u))
  have HSy := fun w' => fun (u : Up w w') => Hid.of (Sum_walk y hy w' (hT.below hT.lt u))
  have HA1 : Hid (At ((w.alloc (.cells (cb x).toArray 43)).alloc (.cells (cb y).toArray 43)) w.heap.size 43 (cb x)) := At.up (at_new w 43 (cb x)) ((Up.refl _).alloc _)
  have HA2 : Hid (At ((w.alloc (.cells (cb x).toArray 43)).alloc (.cells (cb y).toArray 43)) (w.heap.size + 1) 43 (cb y)) := by
    have := at_new (w.alloc (.cells (cb x).toArray 43)) 43 (cb y)
    rw [alloc_size] at this
    exact this
  have HU : Hid (Up w ((w.alloc (.cells (cb x).toArray 43)).alloc (.cells (cb y).toArray 43))) := ((Up.refl w).alloc _).alloc _
  have HR : Hid (recT p.data.toList v.data.toList x y = if fte p.data.toList v.data.toList = 0 then lin p.data.toList v.data.toList (sumT x) ++ lin p.data.toList (v.data.toList ++ GOM) (sumT y) else []) := rfl
  have HlX := Hid.of (And.intro hx hy)
  clear hG hT hx hy
  have mixed : Tryd.prog.follows .mixedOrders = true := by kernel_rfl
  go_enter Tryd.func29, Tryd.ntmps29
  go_wp2_with fail
  generalize (w.alloc (.cells (cb x).toArray 43)).alloc (.cells (cb y).toArray 43) = W0 at *
  refine (HF _ HU.out).out.mono ?_
  rintro e w1 ⟨n0, n1, n2, va, ws, inc, rfl, hS1, _, _, u1⟩
  have HB1 := Hid.of ((HA1.out.up u1).up ((Up.refl w1).alloc (.cells (pc5 n0 n1 n2 va inc) 56)))
  have HB2 := Hid.of ((HA2.out.up u1).up ((Up.refl w1).alloc (.cells (pc5 n0 n1 n2 va inc) 56)))
  have HU2 := Hid.of ((HU.out.trans u1).alloc (.cells (pc5 n0 n1 n2 va inc) 56))
  obtain ⟨a0, c0, rfl⟩ := hS1.len
  generalize ws.length = wn at *
  clear hS1 u1 HF HA1 HA2 HU
  dsimp only
  by_cases h0 : fte p.data.toList v.data.toList = 0
  · have HR2 := Hid.of (HR.out.trans (if_pos h0))
    have H0 := Hid.of (And.intro h0 trivial)
    obtain ⟨mm, qq, hm1, hv1, _⟩ := fte_ok h0
    have hp1 := (maj_len hm1).1
    have hv2 := (ver_len hv1).1
    rw [len_of] at hp1 hv2
    rw [h0]
    clear h0 HR hm1 hv1
    have ix := i32 HlX.out.1
    have iy := i32 HlX.out.2
    have hk7 : ¬ 9223372036854775807 < v.size + 7 := by omega
    have hlx := sumT_len HlX.out.1
    have hly := sumT_len HlX.out.2
    obtain ⟨vg, hvg⟩ : ∃ vg : ByteArray, vg = v ++ ⟨#[47, 103, 111, 46, 109, 111, 100]⟩ := ⟨_, rfl⟩
    have hvd : vg.data.toList = v.data.toList ++ GOM := by rw [hvg, ba_app]
    have hvs : vg.size = v.size + 7 := by rw [hvg]; simp; rfl
    have HL1 := fun w' => Hid.of (line_walk p v ⟨(sumT x).toArray⟩ (by omega) (by omega) (by rw [str_len]; omega) w')
    have HL2 := fun w' => Hid.of (line_walk p vg ⟨(sumT y).toArray⟩ (by omega) (by omega) (by rw [str_len]; omega) w')
    rw [ba_data'] at HL1 HL2
    rw [hvd] at HL2
    obtain ⟨r1, hr1⟩ : ∃ r1 : ByteArray, r1 = ⟨(lin p.data.toList v.data.toList (sumT x)).toArray⟩ := ⟨_, rfl⟩
    obtain ⟨r2, hr2⟩ : ∃ r2 : ByteArray, r2 = ⟨(lin p.data.toList (v.data.toList ++ GOM) (sumT y)).toArray⟩ := ⟨_, rfl⟩
    have hz1 : r1.size ≤ 1024 := by rw [hr1, str_len]; simp [lin, hlx]; omega
    have hz2 : r2.size ≤ 1024 := by rw [hr2, str_len]; simp [lin, hly]; omega
    have HL1' : ∀ w', Hid (Calls Tryd.prog 44 #[.string p, .string v, vs (sumT x)] w' fun e w'' => e = .returned (.string r1) ∧ w'' = w') := by rw [hr1]; exact HL1
    have HL2' : ∀ w', Hid (Calls Tryd.prog 44 #[.string p, .string (v ++ ⟨#[47, 103, 111, 46, 109, 111, 100]⟩), vs (sumT y)] w' fun e w'' => e = .returned (.string r2) ∧ w'' = w') := by rw [← hvg, hr2]; exact HL2
    have HRR := Hid.of (And.intro hr1 hr2)
    clear HL1 HL2 hr1 hr2 hvd hvs hlx hly hvg
    have hk8 : ¬ 9223372036854775807 < r1.size + r2.size := by omega
    unfold vs at HSx HSy HL1' HL2'
    generalize (⟨(sumT x).toArray⟩ : ByteArray) = sx at *
    generalize (⟨(sumT y).toArray⟩ : ByteArray) = sy at *
    go_wp2
    refine wp_region_held_drew (S := fun w2 => w2.rangeAt (w.heap.size) 0 (cb x) ∧ w2.rangeAt (w.heap.size + 1) 0 (cb y) ∧ Up w w2) (by kernel_rfl) ⟨by simpa using HB1.out.range, by simpa using HB2.out.range, HU2.out.drew⟩ (fun hS => ?_)
    refine wpAnyH_take (i := 0) (oi := { dst := some 21, op := Go.Op.move (Go.Operand.tmp 0), type := 9, pos := "record.go:38", after := #[], guard := none }) (v := .string p) rfl (by kernel_rfl) (by kernel_rfl) (by kernel_rfl) (fun _ _ _ h => h) (Or.inl ⟨by kernel_rfl, ?_⟩) hS ?_
    · intro w5 hSw
      go_simp
    simp only [Act.put, List.setIfInBounds_toArray, List.set_cons_zero, List.set_cons_succ]
    refine wpAnyH_take (i := 1) (oi := { dst := some 22, op := Go.Op.move (Go.Operand.tmp 1), type := 9, pos := "record.go:38", after := #[], guard := none }) (v := .string v) rfl (by kernel_rfl) (by kernel_rfl) (by kernel_rfl) (fun _ _ _ h => h) (Or.inl ⟨by kernel_rfl, ?_⟩) hS ?_
    · intro w5 hSw
      go_simp
    simp only [Act.put, List.setIfInBounds_toArray, List.set_cons_zero, List.set_cons_succ]
    refine wpAnyH_take (i := 2) (oi := { dst := some 23, op := Go.Op.load 43 (Go.Operand.tmp 6), type := 43, pos := "record.go:38", after := #[], guard := none }) (v := .agg (cb x).toArray) rfl (by kernel_rfl) (by kernel_rfl) (by kernel_rfl) (fun _ _ _ h => h) (yieldsIf_load_mid (by kernel_rfl) _ _ rfl (w.heap.size) 0 rfl (cb x) _ (fun w5 hSw => hSw.1) Tryd.underlying43 rfl ix) hS ?_
    simp only [Act.put, List.setIfInBounds_toArray, List.set_cons_zero, List.set_cons_succ]
    refine wpAnyH_take (i := 5) (oi := { dst := some 26, op := Go.Op.move (Go.Operand.tmp 0), type := 9, pos := "record.go:38", after := #[], guard := none }) (v := .string p) rfl (by kernel_rfl) (by kernel_rfl) (by kernel_rfl) (fun _ _ _ h => h) (Or.inl ⟨by kernel_rfl, ?_⟩) hS ?_
    · intro w5 hSw
      go_simp
    simp only [Act.put, List.setIfInBounds_toArray, List.set_cons_zero, List.set_cons_succ]
    refine wpAnyH_take (i := 6) (oi := { dst := some 27, op := Go.Op.move (Go.Operand.tmp 1), type := 9, pos := "record.go:38", after := #[], guard := none }) (v := .string v) rfl (by kernel_rfl) (by kernel_rfl) (by kernel_rfl) (fun _ _ _ h => h) (Or.inl ⟨by kernel_rfl, ?_⟩) hS ?_
    · intro w5 hSw
      go_simp
    simp only [Act.put, List.setIfInBounds_toArray, List.set_cons_zero, List.set_cons_succ]
    refine wpAnyH_take (i := 7) (oi := { dst := some 28, op := Go.Op.binOp Go.BinOp.add 9 (Go.Operand.tmp 27) (Go.Operand.const (Go.Value.string { data := #[47, 103, 111, 46, 109, 111, 100] })) 9, type := 9, pos := "record.go:38", after := #[{ on := 6, ground := Go.Ground.data }], guard := none }) (v := .string (v ++ ⟨#[47, 103, 111, 46, 109, 111, 100]⟩)) rfl (by kernel_rfl) (by kernel_rfl) (by kernel_rfl) (fun _ _ _ h => h) (Or.inl ⟨by kernel_rfl, ?_⟩) hS ?_
    · intro w5 hSw
      go_simp
    simp only [Act.put, List.setIfInBounds_toArray, List.set_cons_zero, List.set_cons_succ]
    refine wpAnyH_take (i := 8) (oi := { dst := some 29, op := Go.Op.load 43 (Go.Operand.tmp 7), type := 43, pos := "record.go:38", after := #[], guard := none }) (v := .agg (cb y).toArray) rfl (by kernel_rfl) (by kernel_rfl) (by kernel_rfl) (fun _ _ _ h => h) (yieldsIf_load_mid (by kernel_rfl) _ _ rfl (w.heap.size + 1) 0 rfl (cb y) _ (fun w5 hSw => hSw.2.1) Tryd.underlying43 rfl iy) hS ?_
    simp only [Act.put, List.setIfInBounds_toArray, List.set_cons_zero, List.set_cons_succ]
    refine wpAnyH_ready (rs := [3]) (by kernel_rfl) (by simp) ?_
    refine AllReadyH.cons (o := { dst := some 24, op := Go.Op.call { callee := Go.Callee.value (Go.Operand.func 27), args := #[Go.Operand.tmp 23], argTypes := #[43] }, type := 9, pos := "record.go:38", after := #[{ on := 2, ground := Go.Ground.data }], guard := none }) rfl (fun K hK => ?_) AllReadyH.nil
    rw [if_pos (by kernel_rfl)]
    go_simp
    refine ((HSx _ hS.2.2).out).mono ?_
    rintro e v1 ⟨rfl, u1⟩
    dsimp only
    refine hK.out _ _ ⟨rng_up hS.1 u1, rng_up hS.2.1 u1, hS.2.2.trans u1⟩ (fun hS1 => ?_)
    clear hK hS u1
    refine wpAnyH_ready (rs := [4]) (by kernel_rfl) (by simp) ?_
    refine AllReadyH.cons (o := { dst := some 25, op := Go.Op.call { callee := Go.Callee.value (Go.Operand.func 44), args := #[Go.Operand.tmp 21, Go.Operand.tmp 22, Go.Operand.tmp 24], argTypes := #[9, 9, 9] }, type := 9, pos := "record.go:38", after := #[{ on := 0, ground := Go.Ground.data }, { on := 1, ground := Go.Ground.data }, { on := 3, ground := Go.Ground.data }, { on := 3, ground := Go.Ground.chain }], guard := none }) rfl (fun K hK => ?_) AllReadyH.nil
    rw [if_pos (by kernel_rfl)]
    go_simp
    refine ((HL1' _).out).mono ?_
    rintro e v2 ⟨rfl, u2⟩
    obtain rfl := u2.symm
    dsimp only
    refine hK.out _ _ hS1 (fun hS2 => ?_)
    clear hK hS1
    refine wpAnyH_ready (rs := [9]) (by kernel_rfl) (by simp) ?_
    refine AllReadyH.cons (o := { dst := some 30, op := Go.Op.call { callee := Go.Callee.value (Go.Operand.func 27), args := #[Go.Operand.tmp 29], argTypes := #[43] }, type := 9, pos := "record.go:38", after := #[{ on := 8, ground := Go.Ground.data }, { on := 4, ground := Go.Ground.chain }], guard := none }) rfl (fun K hK => ?_) AllReadyH.nil
    rw [if_pos (by kernel_rfl)]
    go_simp
    refine ((HSy _ hS2.2.2).out).mono ?_
    rintro e v3 ⟨rfl, u3⟩
    dsimp only
    refine hK.out _ _ ⟨rng_up hS2.1 u3, rng_up hS2.2.1 u3, hS2.2.2.trans u3⟩ (fun hS3 => ?_)
    clear hK hS2 u3
    refine wpAnyH_ready (rs := [10]) (by kernel_rfl) (by simp) ?_
    refine AllReadyH.cons (o := { dst := some 31, op := Go.Op.call { callee := Go.Callee.value (Go.Operand.func 44), args := #[Go.Operand.tmp 26, Go.Operand.tmp 28, Go.Operand.tmp 30], argTypes := #[9, 9, 9] }, type := 9, pos := "record.go:38", after := #[{ on := 5, ground := Go.Ground.data }, { on := 7, ground := Go.Ground.data }, { on := 9, ground := Go.Ground.data }, { on := 9, ground := Go.Ground.chain }], guard := none }) rfl (fun K hK => ?_) AllReadyH.nil
    rw [if_pos (by kernel_rfl)]
    go_simp
    refine ((HL2' _).out).mono ?_
    rintro e v4 ⟨rfl, u4⟩
    obtain rfl := u4.symm
    dsimp only
    refine hK.out _ _ hS3 (fun hS4 => ?_)
    clear hK hS3
    refine wpAnyH_take (i := 11) (oi := { dst := some 32, op := Go.Op.binOp Go.BinOp.add 9 (Go.Operand.tmp 25) (Go.Operand.tmp 31) 9, type := 9, pos := "record.go:38", after := #[{ on := 4, ground := Go.Ground.data }, { on := 10, ground := Go.Ground.data }], guard := none }) (v := .string (r1 ++ r2)) rfl (by kernel_rfl) (by kernel_rfl) (by kernel_rfl) (fun _ _ _ h => h) (Or.inl ⟨by kernel_rfl, ?_⟩) hS4 ?_
    · intro w5 hSw
      go_simp
    simp only [Act.put, List.setIfInBounds_toArray, List.set_cons_zero, List.set_cons_succ]
    refine wpAnyH_ready (rs := [12]) (by kernel_rfl) (by simp) ?_
    refine AllReadyH.cons (o := { dst := some 8, op := Go.Op.assign (Go.Operand.tmp 32), type := 9, pos := "record.go:38", after := #[{ on := 11, ground := Go.Ground.data }, { on := 10, ground := Go.Ground.chain }, { on := 0, ground := Go.Ground.phase }, { on := 1, ground := Go.Ground.phase }, { on := 2, ground := Go.Ground.phase }, { on := 3, ground := Go.Ground.phase }, { on := 4, ground := Go.Ground.phase }, { on := 5, ground := Go.Ground.phase }, { on := 6, ground := Go.Ground.phase }, { on := 7, ground := Go.Ground.phase }, { on := 8, ground := Go.Ground.phase }, { on := 9, ground := Go.Ground.phase }, { on := 10, ground := Go.Ground.phase }, { on := 11, ground := Go.Ground.phase }], guard := none }) rfl (fun K hK => ?_) AllReadyH.nil
    rw [if_pos (by kernel_rfl)]
    go_simp
    refine hK.out _ _ hS4 (fun hS5 => ?_)
    clear hK hS4
    refine wpAnyH_ready (rs := [13]) (by kernel_rfl) (by simp) ?_
    refine AllReadyH.cons (o := { dst := some 9, op := Go.Op.assign (Go.Operand.const (Go.Value.int Go.IntKind.i64 0)), type := 26, pos := "record.go:38", after := #[{ on := 12, ground := Go.Ground.chain }, { on := 0, ground := Go.Ground.phase }, { on := 1, ground := Go.Ground.phase }, { on := 2, ground := Go.Ground.phase }, { on := 3, ground := Go.Ground.phase }, { on := 4, ground := Go.Ground.phase }, { on := 5, ground := Go.Ground.phase }, { on := 6, ground := Go.Ground.phase }, { on := 7, ground := Go.Ground.phase }, { on := 8, ground := Go.Ground.phase }, { on := 9, ground := Go.Ground.phase }, { on := 10, ground := Go.Ground.phase }, { on := 11, ground := Go.Ground.phase }, { on := 12, ground := Go.Ground.phase }], guard := none }) rfl (fun K hK => ?_) AllReadyH.nil
    rw [if_pos (by kernel_rfl)]
    go_simp
    refine hK.out _ _ hS5 (fun hS6 => ?_)
    clear hK hS5
    refine wpAnyH_done (by kernel_rfl) ?_ _
    have HSZ := Hid.of hS6
    clear hS6
    go_wp2_with fail
    go_ret2
    rw [HR2.out, H0.out.1]
    refine ⟨?_, HSZ.out.2.2⟩
    rw [HRR.out.1, HRR.out.2, ba_app]
    rfl
  · have HR2 := Hid.of (HR.out.trans (if_neg h0))
    have h0z : (fte p.data.toList v.data.toList != 0) = true := by rw [bne_iff_ne]; exact h0
    generalize hfe : fte p.data.toList v.data.toList = fe at *
    have HFE := Hid.of (And.intro hfe trivial)
    clear h0 HR hfe
    go_wp2
    go_ret2
    rw [HR2.out, HFE.out.1]
    exact ⟨rfl, HU2.out⟩
end Go.Proofs.YtfhdddhapjdocaaDoor
/-! what is written reads back: no model in it -/
namespace Go.Proofs.YtfhdddhapjdocaaDoor
open Go.RowKit Go.Shelf TextNum ModNum
theorem lt_no (i : Nat) : lt i ≠ 32 ∧ lt i ≠ 10 := by
  rcases Nat.lt_or_ge i 64 with h | h
  · have : ∀ j : Fin 64, lt j.1 ≠ 32 ∧ lt j.1 ≠ 10 := by decide +kernel
    exact this ⟨i, h⟩
  · have : lt i = 0 := by unfold lt; rw [List.getD_eq_getElem?_getD, List.getElem?_eq_none (by show 64 ≤ i; exact h)]; rfl
    rw [this]; decide
theorem b64E_no : ∀ x : List UInt8, ∀ c ∈ b64E x, c ≠ 32 ∧ c ≠ 10
  | [], c, h => by cases h
  | [x], c, h => by
    simp only [b64E, g1, List.mem_cons, List.not_mem_nil, or_false] at h
    rcases h with rfl | rfl | rfl | rfl
    · exact lt_no _
    · exact lt_no _
    · decide
    · decide
  | [x, y], c, h => by
    simp only [b64E, g2, List.mem_cons, List.not_mem_nil, or_false] at h
    rcases h with rfl | rfl | rfl | rfl
    · exact lt_no _
    · exact lt_no _
    · exact lt_no _
    · decide
  | x :: y :: z :: r, c, h => by
    simp only [b64E, g3, List.cons_append, List.nil_append, List.mem_cons] at h
    rcases h with rfl | rfl | rfl | rfl | h
    · exact lt_no _
    · exact lt_no _
    · exact lt_no _
    · exact lt_no _
    · exact b64E_no r c h
theorem sumT_no (x : List UInt8) : ∀ c ∈ sumT x, c ≠ 32 ∧ c ≠ 10 := by
  intro c h
  simp only [sumT, List.mem_cons] at h
  rcases h with rfl | rfl | rfl | h
  · decide
  · decide
  · decide
  · exact b64E_no x c h
theorem psm_back {x : List UInt8} (hx : x.length = 32) : psm (sumT x) = (x, 0) := by
  have hb : b64R (b64E x) = (x, 0) := b64R_some (by rw [b64E_length, hx]; decide) (b64_back x)
  unfold psm
  have hd : (sumT x).drop 3 = b64E x := rfl
  rw [hd, hb]
  exact if_pos ⟨by simp [pfx, sumT], rfl, hx⟩
theorem maj_no {p m : List UInt8} (h : maj p = some m) : ∀ c ∈ p, c ≠ 32 ∧ c ≠ 10 ∧ c ≠ 64 := by
  intro c hc
  have := al_mem (maj_len h).2 hc
  refine ⟨?_, ?_, ?_⟩ <;> (rintro rfl; exact this (by decide))
theorem ver_no {p : List UInt8} {q : Prt} (h : ver p = some q) : ∀ c ∈ p, c ≠ 32 ∧ c ≠ 10 ∧ c ≠ 64 := by
  intro c hc
  have := ver_ch h c hc
  refine ⟨?_, ?_, ?_⟩ <;> (rintro rfl; rcases this with h | h; exact h (by decide); cases h)
theorem gom_no : ∀ c ∈ GOM, c ≠ 32 ∧ c ≠ 10 := by decide
theorem back_key {p v : List UInt8} (h : fte p v = 0) : pkE (keyT p v) = 0 ∧ pkP (keyT p v) = p ∧ pkV (keyT p v) = v := by
  obtain ⟨m, q, hm, hq, _⟩ := fte_ok h
  have hp : (64 : UInt8) ∉ p := fun hc => (maj_no hm _ hc).2.2 rfl
  have hv : (64 : UInt8) ∉ v := fun hc => (ver_no hq _ hc).2.2 rfl
  have hk : keyT p v = p ++ 64 :: v := if_pos h
  have h0 : pkE (keyT p v) = 0 := by
    unfold pkE
    rw [hk, ahd_app hp, bhd_app hp, if_neg]
    · exact h
    · rintro (h | h)
      · exact h (by simp)
      · exact hv h
  refine ⟨h0, ?_, ?_⟩
  · exact (if_pos h0).trans (by rw [hk, ahd_app hp])
  · exact (if_pos h0).trans (by rw [hk, bhd_app hp])
theorem tw_back {a b c : List UInt8} (ha : 32 ∉ a) (hb : 32 ∉ b) (hc : 32 ∉ c) (na : a ≠ []) (nb : b ≠ []) (nc : c ≠ []) : tw (a ++ 32 :: b ++ 32 :: c) = some (a, b, c) := by
  unfold tw
  have : pcs 32 (a ++ 32 :: b ++ 32 :: c) = [a, b, c] := by
    rw [List.append_assoc, List.cons_append, pcs_hit ha, pcs_hit hb, pcs_miss hc]
  rw [this]
  simp [na, nb, nc]
theorem maj_ne' {p m : List UInt8} (h : maj p = some m) : p ≠ [] := by
  rintro rfl
  have h1 := majE_some h
  rw [show majE [] = 110 by decide +kernel] at h1
  cases h1
theorem ver_ne' {p : List UInt8} {q : Prt} (h : ver p = some q) : p ≠ [] := by
  rintro rfl
  have h1 := verE_some h
  rw [show verE [] = 111 by decide +kernel] at h1
  cases h1
theorem sumT_ne (x : List UInt8) : sumT x ≠ [] := by simp [sumT]
theorem recT_len {p v x y : List UInt8} (hx : x.length = 32) (hy : y.length = 32) (h : fte p v = 0) : (recT p v x y).length ≤ 873 := by
  obtain ⟨m, q, hm, hq, _⟩ := fte_ok h
  have h1 := (maj_len hm).1
  have h2 := (ver_len hq).1
  have h3 := sumT_len hx
  have h4 := sumT_len hy
  unfold recT
  rw [if_pos h]
  simp only [lin, GOM, List.length_append, List.length_cons, List.length_nil]
  omega
theorem back_rec {p v x y : List UInt8} (hx : x.length = 32) (hy : y.length = 32) (h : fte p v = 0) : prc (recT p v x y) = ⟨p, v, x, y, 0⟩ := by
  have hlen := recT_len hx hy h
  obtain ⟨m, q, hm, hq, _⟩ := fte_ok h
  have hr : recT p v x y = joinL [p ++ 32 :: v ++ 32 :: sumT x, p ++ 32 :: (v ++ GOM) ++ 32 :: sumT y] := by
    unfold recT
    rw [if_pos h]
    simp [lin, joinL]
  have hl : linesOf (recT p v x y) = [p ++ 32 :: v ++ 32 :: sumT x, p ++ 32 :: (v ++ GOM) ++ 32 :: sumT y] := by
    rw [hr]
    refine lines_join _ fun l hl => ?_
    simp only [List.mem_cons, List.not_mem_nil, or_false] at hl
    rcases hl with rfl | rfl
    · intro hc
      simp only [List.mem_append, List.mem_cons] at hc
      rcases hc with (hc | hc | hc) | hc | hc
      · exact (maj_no hm _ hc).2.1 rfl
      · cases hc
      · exact (ver_no hq _ hc).2.1 rfl
      · cases hc
      · exact (sumT_no _ _ hc).2 rfl
    · intro hc
      rw [List.mem_append, List.mem_append, List.mem_cons, List.mem_cons, List.mem_append] at hc
      rcases hc with (hc | hc | hc | hc) | hc | hc
      · exact (maj_no hm _ hc).2.1 rfl
      · cases hc
      · exact (ver_no hq _ hc).2.1 rfl
      · exact (gom_no _ hc).2 rfl
      · cases hc
      · exact (sumT_no _ _ hc).2 rfl
  have p32 : (32 : UInt8) ∉ p := fun hc => (maj_no hm _ hc).1 rfl
  have v32 : (32 : UInt8) ∉ v := fun hc => (ver_no hq _ hc).1 rfl
  have g32 : (32 : UInt8) ∉ v ++ GOM := fun hc => by
    rcases List.mem_append.1 hc with hc | hc
    · exact v32 hc
    · exact (gom_no _ hc).1 rfl
  have s32 : ∀ z, (32 : UInt8) ∉ sumT z := fun z hc => (sumT_no _ _ hc).1 rfl
  have h0 : lnE (recT p v x y) = 0 := by
    unfold lnE
    rw [if_neg (by omega), if_pos]
    right
    unfold recT
    rw [if_pos h]
    unfold lin
    rw [← List.append_assoc, List.getLast?_append]
    rfl
  have ht : two (recT p v x y) = some ((p, v, sumT x), (p, v ++ GOM, sumT y)) := by
    unfold two
    rw [if_neg (by rintro (h | h); omega; exact h h0), hl]
    simp only
    rw [tw_back p32 v32 (s32 x) (maj_ne' hm) (ver_ne' hq) (sumT_ne x), tw_back p32 g32 (s32 y) (maj_ne' hm) (by simp [GOM]) (sumT_ne y)]
  unfold prc
  rw [ht]
  simp only
  have hrd : rdw p v (sumT x) (sumT y) = (x, y, 0) := by
    unfold rdw
    rw [psm_back hx, psm_back hy]
    simp [h]
  rw [hrd]
  simp
theorem back_path {p m : List UInt8} (h : maj p = some m) : upE (epT p) = 0 ∧ upT (epT p) = p := by
  have he : epT p = esc' p := by unfold epT; rw [h]; rfl
  have hu := esc_une p (maj_33 h)
  rw [he]
  unfold upE upT
  rw [hu]
  simp only
  rw [h]
  exact ⟨majE_some h, rfl⟩
theorem back_ver {p : List UInt8} {q : Prt} (h : ver p = some q) : uvE (evT p) = 0 ∧ uvT (evT p) = p := by
  have he : evT p = esc' p := by unfold evT; rw [h]; rfl
  have hu := esc_une p (ver_33 h)
  rw [he]
  unfold uvE uvT
  rw [hu]
  simp only
  rw [h]
  exact ⟨verE_some h, rfl⟩
theorem fte_bad (p v : List UInt8) : fte p v = 110 ↔ majE p ≠ 0 := by
  unfold fte
  cases hm : maj p with
  | none => rw [majE_none hm]; simp
  | some m =>
    rw [majE_some hm]
    simp only
    cases ver v with
    | none => simp
    | some q =>
      simp only
      split <;> simp
end Go.Proofs.YtfhdddhapjdocaaDoor
namespace Go.Proofs.YtfhdddhapjdocaaDoor
open Go.RowKit Go.Shelf TextNum ModNum
theorem rng_left {w : World} {b o : Nat} {a c : List Value} (h : w.rangeAt b o (a ++ c)) : w.rangeAt b o a := fun j v hj => h j v (by
  rw [List.getElem?_append_left (List.getElem?_eq_some_iff.1 hj).1]; exact hj)
theorem rng_right {w : World} {b : Nat} {a c : List Value} (h : w.rangeAt b 0 (a ++ c)) : w.rangeAt b a.length c := fun j v hj => by
  have := h (a.length + j) v (by rw [List.getElem?_append_right (by omega), Nat.add_sub_cancel_left]; exact hj)
  rw [Nat.zero_add] at this
  exact this
theorem exec_neq32 {op : Oper} {ρ : Operand → Value} {x y : Operand} {t : TypeId} (ho : op.op = .binOp .neq 43 x y t) (r : List UInt8) (hx : ρ x = .agg (cb r).toArray) (hy : ρ y = .agg (cb r).toArray) (hr : r.length = 32) (w : World) : (execOp ρ op).run Tryd.prog w = .ok (.value (.bool false)) w := by
  have hq := equal32 9998 r r hr hr w
  unfold execOp
  simp only [ho, hx, hy, Sem.run_bind, run_eqGuard_agg (P := Tryd.prog) (w := w) .neq 43 x y _ _ Tryd.eqGuardType43, run_neq_struct, hq, Result.andThen_ok, Sem.run_pure, beq_self_eq_true, Bool.not_true]
/-- what the law asks where there is a key -/
structure BackOk (W : World) (p v k s : ByteArray) (x y : List UInt8) : Prop where
  PK : ∀ w', Up W w' → Hid (Calls Tryd.prog 24 #[.string k] w' fun r w'' => r = .returned (.tuple #[.string p, .string v, .int .i64 0]) ∧ Up w' w'')
  PR : ∀ w', Up W w' → Hid (Calls Tryd.prog 28 #[.string s] w' fun r w'' => r = .returned (.tuple #[.string p, .string v, .agg (cb x).toArray, .agg (cb y).toArray, .int .i64 0]) ∧ Up w' w'')
  EP : ∃ c, (∀ w', Up W w' → Hid (Calls Tryd.prog 18 #[.string p] w' fun r w'' => r = .returned (.tuple #[.string c, .int .i64 0]) ∧ Up w' w'')) ∧ (∀ w', Up W w' → Hid (Calls Tryd.prog 22 #[.string c] w' fun r w'' => r = .returned (.tuple #[.string p, .int .i64 0]) ∧ Up w' w''))
  EV : ∃ c, (∀ w', Up W w' → Hid (Calls Tryd.prog 20 #[.string v] w' fun r w'' => r = .returned (.tuple #[.string c, .int .i64 0]) ∧ Up w' w'')) ∧ (∀ w', Up W w' → Hid (Calls Tryd.prog 23 #[.string c] w' fun r w'' => r = .returned (.tuple #[.string v, .int .i64 0]) ∧ Up w' w''))
  len : s.data.toList.length ≤ 873
theorem backOk {W : World} {p v : ByteArray} {x y : List UInt8} (hx : x.length = 32) (hy : y.length = 32) (hG : GR W) (hT : TabL W) (h : fte p.data.toList v.data.toList = 0) :
    BackOk W p v ⟨(keyT p.data.toList v.data.toList).toArray⟩ ⟨(recT p.data.toList v.data.toList x y).toArray⟩ x y := by
  obtain ⟨m, q, hm, hq, _⟩ := fte_ok h
  obtain ⟨k0, k1, k2⟩ := back_key h
  have hr := back_rec hx hy h
  obtain ⟨a0, a1⟩ := back_path hm
  obtain ⟨b0, b1⟩ := back_ver hq
  have l1 := (maj_len hm).1
  have l2 := (ver_len hq).1
  have hkl : (keyT p.data.toList v.data.toList).length ≤ 400 := by
    unfold keyT
    rw [if_pos h]
    simp only [List.length_append, List.length_cons]
    omega
  have hel : (epT p.data.toList).length ≤ 600 := by
    unfold epT
    rw [hm]
    have := esc_len p.data.toList
    show (esc' p.data.toList).length ≤ 600
    omega
  have hvl : (evT v.data.toList).length ≤ 600 := by
    unfold evT
    rw [hq]
    have := esc_len v.data.toList
    show (esc' v.data.toList).length ≤ 600
    omega
  refine ⟨fun w' u => ?_, fun w' u => ?_, ⟨⟨(epT p.data.toList).toArray⟩, fun w' u => ?_, fun w' u => ?_⟩, ⟨⟨(evT v.data.toList).toArray⟩, fun w' u => ?_, fun w' u => ?_⟩, recT_len hx hy h⟩
  · have := ParseKey_walk ⟨(keyT p.data.toList v.data.toList).toArray⟩ (by rw [Go.Lib.size_eq]; show (keyT p.data.toList v.data.toList).length ≤ _; omega) w' (hG.up u)
    rw [ba_data', k0, k1, k2] at this
    exact this
  · have := ParseRecord_walk ⟨(recT p.data.toList v.data.toList x y).toArray⟩ w' (hG.up u) (hT.below hT.lt u)
    rw [ba_data', hr] at this
    exact this
  · have := EscapePath_walk p w' (hG.up u)
    rw [majE_some hm] at this
    exact this
  · have := UnescapePath_walk ⟨(epT p.data.toList).toArray⟩ (by rw [Go.Lib.size_eq]; show (epT p.data.toList).length ≤ _; omega) w' (hG.up u)
    rw [ba_data', a0, a1] at this
    exact this
  · have := EscapeVersion_walk v w' (hG.up u).toGM
    rw [verE_some hq] at this
    exact this
  · have := UnescapeVersion_walk ⟨(evT v.data.toList).toArray⟩ (by rw [Go.Lib.size_eq]; show (evT v.data.toList).length ≤ _; omega) w' (hG.up u).toGM
    rw [ba_data', b0, b1] at this
    exact this
set_option maxRecDepth 100000 in
set_option maxHeartbeats 40000000 in
theorem back_walk (p v : ByteArray) (x y : List UInt8) (hx : x.length = 32) (hy : y.length = 32) (w : World) (hG : GR w) (hT : TabL w) :
    Calls Tryd.prog 9 #[.string p, .string v, .agg (cb x ++ cb y).toArray] w fun e w' => e = .returned (.bool true) ∧ Up w w' := by
  obtain ⟨cs, hcs⟩ : ∃ cs, cb x ++ cb y = cs := ⟨_, rfl⟩
  rw [hcs]
  obtain ⟨W0, hW0⟩ : ∃ W0, w.alloc (.cells cs.toArray 50) = W0 := ⟨_, rfl⟩
  have HU0 : Hid (Up w W0) := by rw [← hW0]; exact (Up.refl w).alloc _
  have HRg : ∀ w', Up W0 w' → Hid (w'.rangeAt w.heap.size 0 (cb x) ∧ w'.rangeAt w.heap.size 32 (cb y)) := fun w' u => by
    have h1 : At W0 w.heap.size 50 cs := by rw [← hW0]; exact at_new _ _ _
    have h2 := (h1.up u).range
    rw [← hcs] at h2
    refine ⟨rng_left h2, ?_⟩
    have h3 := rng_right h2
    rw [cb_length, hx] at h3
    exact h3
  have hG0 : GR W0 := hG.up HU0.out
  have hT0 : TabL W0 := hT.below hT.lt HU0.out
  have HS := Hid.of (sample_walk W0 hG0 hT0)
  have HSum : ∀ w', Up W0 w' → Hid (Calls Tryd.prog 27 #[.agg (cb x).toArray] w' fun r w'' => r = .returned (.string ⟨(sumT x).toArray⟩) ∧ Up w' w'') := fun w' u => Sum_walk x hx w' (hT0.below hT0.lt u)
  have HPs : ∀ w', Up W0 w' → Hid (Calls Tryd.prog 26 #[.string ⟨(sumT x).toArray⟩] w' fun r w'' => r = .returned (.tuple #[.agg (cb x).toArray, .int .i64 0]) ∧ Up w' w'') := fun w' u => by
    have := ParseSum_walk ⟨(sumT x).toArray⟩ w' (hT0.below hT0.lt u)
    rw [ba_data', psm_back hx] at this
    exact this
  obtain ⟨k, s, e, m, HK, HR, HM, hc⟩ : ∃ (k s : ByteArray) (e m : Int), (∀ w', Up W0 w' → Hid (Calls Tryd.prog 25 #[.string p, .string v] w' fun r w'' => r = .returned (.tuple #[.string k, .int .i64 e]) ∧ Up w' w'')) ∧ (∀ w', Up W0 w' → Hid (Calls Tryd.prog 29 #[.string p, .string v, .agg (cb x).toArray, .agg (cb y).toArray] w' fun r w'' => r = .returned (.tuple #[.string s, .int .i64 e]) ∧ Up w' w'')) ∧ (∀ w', Up W0 w' → Hid (Calls Tryd.prog 17 #[.string p] w' fun r w'' => r = .returned (.int .i64 m) ∧ Up w' w'')) ∧ ((e = 0 ∧ Hid (BackOk W0 p v k s x y)) ∨ ((e != 0) = true ∧ k = ⟨#[]⟩ ∧ s = ⟨#[]⟩ ∧ (e == 110) = (m != 0))) := by
    refine ⟨⟨(keyT p.data.toList v.data.toList).toArray⟩, ⟨(recT p.data.toList v.data.toList x y).toArray⟩, fte p.data.toList v.data.toList, majE p.data.toList, fun w' u => Key_walk p v w' (hG0.up u), fun w' u => Record_walk p v x y hx hy w' (hG0.up u) (hT0.below hT0.lt u), fun w' u => CheckPath_walk p w' (hG0.up u), ?_⟩
    by_cases h : fte p.data.toList v.data.toList = 0
    · exact .inl ⟨h, backOk hx hy hG0 hT0 h⟩
    · refine .inr ⟨by rw [bne_iff_ne]; exact h, ?_, ?_, ?_⟩
      · unfold keyT; rw [if_neg h]
      · unfold recT; rw [if_neg h]
      · have := fte_bad p.data.toList v.data.toList
        rw [Bool.eq_iff_iff, beq_iff_eq, bne_iff_ne]
        exact this
  have HX := Hid.of (And.intro hx hy)
  generalize (⟨(sumT x).toArray⟩ : ByteArray) = sx at *
  clear hG hT hG0 hT0 hx hy hcs
  go_enter Tryd.func9, Tryd.ntmps9
  go_wp2_with fail
  refine HS.out.mono ?_
  rintro e0 w1 ⟨rfl, u1⟩
  have H1 := Hid.of u1
  clear u1 HS hW0
  dsimp only
  go_wp2_with (with_reducible show wpList _ _ _ ({ dst := _, op := Op.load 43 _, type := _, pos := _, after := _, guard := _ } :: _) _ _; refine Shut.out ?_)
  show wpList _ _ _ _ _ _
  refine wpList_load_mid rfl _ _ rfl w.heap.size 0 rfl (cb x) _ (HRg _ H1.out).out.1 Tryd.underlying43 rfl (by rw [cb_length, HX.out.1]; kernel_rfl) ?_
  simp only [Act.put, List.setIfInBounds_toArray, List.set_cons_zero, List.set_cons_succ]
  go_wp2_with fail
  refine ((HSum _ H1.out).out).mono ?_
  rintro e w2 ⟨rfl, u2⟩
  have H2 := Hid.of (H1.out.trans u2)
  have Hu2 := Hid.of u2
  clear u2
  dsimp only
  go_wp2_with fail
  refine ((HPs _ H2.out).out).mono ?_
  rintro e w3 ⟨rfl, u3⟩
  have H3 := Hid.of (H2.out.trans u3)
  have Hu3 := Hid.of u3
  clear u3
  dsimp only
  clear HSum HPs
  have HLt3 := Hid.of (Nat.le_trans HU0.out.size H3.out.size)
  have HA3 := Hid.of (at_new w3 43 (cb Z32))
  have HW3 := Hid.of (H3.out.alloc (.cells (cb Z32).toArray 43))
  have HS3 := Hid.of H3.out.size
  go_wp2_with (with_reducible show wpList _ _ _ ({ dst := _, op := Op.store 43 _ _, type := _, pos := _, after := _, guard := _ } :: _) _ _; refine Shut.out ?_)
  show wpList _ _ _ _ _ _
  rw [zlit]
  generalize w3.alloc (.cells (cb Z32).toArray 43) = W4 at *
  refine wpList_store_at rfl _ _ _ rfl w3.heap.size HA3.out (cb x) rfl rfl (by rw [cb_length, cb_length, HX.out.1]; rfl) (by rw [List.size_toArray, cb_length, HX.out.1]; kernel_rfl) (cb_all _) fun z1 hz1 hg1 => ?_
  have HZ1 := Hid.of hz1
  have HZU := Hid.of (HW3.out.by hg1 (fun g hg => by have := HS3.out; injection hg with hg; omega))
  clear hz1 hg1 HA3 HW3
  simp only [Act.put]
  go_wp2_with (with_reducible show wpList _ _ _ ({ dst := _, op := Op.load 43 _, type := _, pos := _, after := _, guard := _ } :: _) _ _; refine Shut.out ?_)
  show wpList _ _ _ _ _ _
  refine wpList_load_want (by kernel_rfl) _ _ rfl w3.heap.size 0 rfl (cb x) _ HZ1.out.range Tryd.underlying43 rfl (by rw [cb_length, HX.out.1]; kernel_rfl) ?_
  simp only [Act.put, List.setIfInBounds_toArray, List.set_cons_zero, List.set_cons_succ]
  go_wp2_with (with_reducible show wpList _ _ _ ({ dst := _, op := Op.load 43 _, type := _, pos := _, after := _, guard := _ } :: _) _ _; refine Shut.out ?_)
  show wpList _ _ _ _ _ _
  refine wpList_load_want (by kernel_rfl) _ _ rfl w.heap.size 0 rfl (cb x) _ (HRg _ HZU.out).out.1 Tryd.underlying43 rfl (by rw [cb_length, HX.out.1]; kernel_rfl) ?_
  simp only [Act.put, List.setIfInBounds_toArray, List.set_cons_zero, List.set_cons_succ]
  refine wpList_yield_want (by kernel_rfl) (v := .bool false) (exec_neq32 rfl x rfl rfl HX.out.1 _) ?_
  simp only [Act.put, List.setIfInBounds_toArray, List.set_cons_zero, List.set_cons_succ]
  clear HZ1 HLt3 HS3
  go_wp2_with fail
  refine ((HK _ HZU.out).out).mono ?_
  rintro e w5 ⟨rfl, u5⟩
  have H5 := Hid.of (HZU.out.trans u5)
  have Hu5 := Hid.of u5
  clear u5
  dsimp only
  go_wp2_with (with_reducible show wpList _ _ _ ({ dst := _, op := Op.load 43 _, type := _, pos := _, after := _, guard := _ } :: _) _ _; refine Shut.out ?_)
  show wpList _ _ _ _ _ _
  refine wpList_load_mid rfl _ _ rfl w.heap.size 0 rfl (cb x) _ (HRg _ H5.out).out.1 Tryd.underlying43 rfl (by rw [cb_length, HX.out.1]; kernel_rfl) ?_
  simp only [Act.put, List.setIfInBounds_toArray, List.set_cons_zero, List.set_cons_succ]
  go_wp2_with (with_reducible show wpList _ _ _ ({ dst := _, op := Op.load 43 _, type := _, pos := _, after := _, guard := _ } :: _) _ _; refine Shut.out ?_)
  show wpList _ _ _ _ _ _
  refine wpList_load_mid rfl _ _ rfl w.heap.size 32 rfl (cb y) _ (HRg _ H5.out).out.2 Tryd.underlying43 rfl (by rw [cb_length, HX.out.2]; kernel_rfl) ?_
  simp only [Act.put, List.setIfInBounds_toArray, List.set_cons_zero, List.set_cons_succ]
  go_wp2_with fail
  refine ((HR _ H5.out).out).mono ?_
  rintro e w6 ⟨rfl, u6⟩
  have H6 := Hid.of (H5.out.trans u6)
  have Hu6 := Hid.of u6
  clear u6
  dsimp only
  clear HK HR
  rcases hc with ⟨rfl, HO⟩ | ⟨he, rfl, rfl, hm⟩
  · clear HM
    go_wp2_with fail
    refine ((HO.out.PK _ H6.out).out).mono ?_
    rintro e w7 ⟨rfl, u7⟩
    have H7 := Hid.of (H6.out.trans u7)
    have Hu7 := Hid.of u7
    clear u7
    dsimp only
    go_wp2_with fail
    refine ((HO.out.PR _ H7.out).out).mono ?_
    rintro e w8 ⟨rfl, u8⟩
    have H8 := Hid.of (H7.out.trans u8)
    have Hu8 := Hid.of u8
    clear u8
    dsimp only
    have HLt8 := Hid.of H8.out.size
    have HB2 : Hid (At ((w8.alloc (.cells (cb Z32).toArray 43)).alloc (.cells (cb Z32).toArray 43)) (w8.heap.size + 1) 43 (cb Z32)) := by
      have := at_new (w8.alloc (.cells (cb Z32).toArray 43)) 43 (cb Z32)
      rw [alloc_size] at this
      exact this
    have HB1 : Hid (At ((w8.alloc (.cells (cb Z32).toArray 43)).alloc (.cells (cb Z32).toArray 43)) w8.heap.size 43 (cb Z32)) := At.up (at_new w8 43 (cb Z32)) ((Up.refl _).alloc _)
    have HU8 := Hid.of ((H8.out.alloc (.cells (cb Z32).toArray 43)).alloc (.cells (cb Z32).toArray 43))
    go_wp2_with (with_reducible show wpList _ _ _ ({ dst := _, op := Op.store 43 _ _, type := _, pos := _, after := _, guard := _ } :: _) _ _; refine Shut.out ?_)
    show wpList _ _ _ _ _ _
    rw [zlit]
    generalize (w8.alloc (.cells (cb Z32).toArray 43)).alloc (.cells (cb Z32).toArray 43) = W9 at *
    refine wpList_store_at rfl _ _ _ rfl w8.heap.size HB1.out (cb x) rfl rfl (by rw [cb_length, cb_length, HX.out.1]; rfl) (by rw [List.size_toArray, cb_length, HX.out.1]; kernel_rfl) (cb_all _) fun x1 hx1 hg1 => ?_
    have HX1 := Hid.of hx1
    have HX2 := Hid.of (HB2.out.by hg1 (by intro h; injection h with h; omega))
    have HXU := Hid.of (HU8.out.by hg1 (fun g hg => by have := HLt8.out; injection hg with hg; omega))
    clear hx1 hg1 HB1 HB2 HU8
    simp only [Act.put]
    go_wp2_with (with_reducible show wpList _ _ _ ({ dst := _, op := Op.store 43 _ _, type := _, pos := _, after := _, guard := _ } :: _) _ _; refine Shut.out ?_)
    show wpList _ _ _ _ _ _
    refine wpList_store_at rfl _ _ _ rfl (w8.heap.size + 1) HX2.out (cb y) rfl rfl (by rw [cb_length, cb_length, HX.out.2]; rfl) (by rw [List.size_toArray, cb_length, HX.out.2]; kernel_rfl) (cb_all _) fun x2 hx2 hg2 => ?_
    have HY2 := Hid.of hx2
    have HY1 := Hid.of (HX1.out.by hg2 (by intro h; injection h with h; omega))
    have HYU := Hid.of (HXU.out.by hg2 (fun g hg => by have := HLt8.out; injection hg with hg; omega))
    clear hx2 hg2 HX1 HX2 HXU
    simp only [Act.put]
    go_wp2_with (with_reducible show wpList _ _ _ ({ dst := _, op := Op.load 43 _, type := _, pos := _, after := _, guard := _ } :: _) _ _; refine Shut.out ?_)
    show wpList _ _ _ _ _ _
    refine wpList_load_want (by kernel_rfl) _ _ rfl w8.heap.size 0 rfl (cb x) _ HY1.out.range Tryd.underlying43 rfl (by rw [cb_length, HX.out.1]; kernel_rfl) ?_
    simp only [Act.put, List.setIfInBounds_toArray, List.set_cons_zero, List.set_cons_succ]
    go_wp2_with (with_reducible show wpList _ _ _ ({ dst := _, op := Op.load 43 _, type := _, pos := _, after := _, guard := _ } :: _) _ _; refine Shut.out ?_)
    show wpList _ _ _ _ _ _
    refine wpList_load_want (by kernel_rfl) _ _ rfl w.heap.size 0 rfl (cb x) _ (HRg _ HYU.out).out.1 Tryd.underlying43 rfl (by rw [cb_length, HX.out.1]; kernel_rfl) ?_
    simp only [Act.put, List.setIfInBounds_toArray, List.set_cons_zero, List.set_cons_succ]
    refine wpList_yield_want (by kernel_rfl) (v := .bool false) (exec_neq32 rfl x rfl rfl HX.out.1 _) ?_
    simp only [Act.put, List.setIfInBounds_toArray, List.set_cons_zero, List.set_cons_succ]
    go_wp2_with (with_reducible show wpList _ _ _ ({ dst := _, op := Op.load 43 _, type := _, pos := _, after := _, guard := _ } :: _) _ _; refine Shut.out ?_)
    show wpList _ _ _ _ _ _
    refine wpList_load_want (by kernel_rfl) _ _ rfl (w8.heap.size + 1) 0 rfl (cb y) _ HY2.out.range Tryd.underlying43 rfl (by rw [cb_length, HX.out.2]; kernel_rfl) ?_
    simp only [Act.put, List.setIfInBounds_toArray, List.set_cons_zero, List.set_cons_succ]
    go_wp2_with (with_reducible show wpList _ _ _ ({ dst := _, op := Op.load 43 _, type := _, pos := _, after := _, guard := _ } :: _) _ _; refine Shut.out ?_)
    show wpList _ _ _ _ _ _
    refine wpList_load_want (by kernel_rfl) _ _ rfl w.heap.size 32 rfl (cb y) _ (HRg _ HYU.out).out.2 Tryd.underlying43 rfl (by rw [cb_length, HX.out.2]; kernel_rfl) ?_
    simp only [Act.put, List.setIfInBounds_toArray, List.set_cons_zero, List.set_cons_succ]
    refine wpList_yield_want (by kernel_rfl) (v := .bool false) (exec_neq32 rfl y rfl rfl HX.out.2 _) ?_
    simp only [Act.put, List.setIfInBounds_toArray, List.set_cons_zero, List.set_cons_succ]
    have hln : decide ((873 : Int) < (s.size : Int)) = false := by
      have h1 := HO.out.len
      have h2 := Go.Lib.size_eq s
      rw [decide_eq_false_iff_not]
      omega
    clear HY1 HY2 HLt8
    obtain ⟨c, HEc, HUc⟩ := HO.out.EP
    obtain ⟨d, HEd, HUd⟩ := HO.out.EV
    clear HO
    go_wp2_with fail
    refine ((HEc _ HYU.out).out).mono ?_
    rintro e w10 ⟨rfl, u10⟩
    have H10 := Hid.of (HYU.out.trans u10)
    have Hu10 := Hid.of u10
    clear u10
    dsimp only
    go_wp2_with fail
    refine ((HEd _ H10.out).out).mono ?_
    rintro e w11 ⟨rfl, u11⟩
    have H11 := Hid.of (H10.out.trans u11)
    have Hu11 := Hid.of u11
    clear u11
    dsimp only
    go_wp2_with fail
    refine ((HUc _ H11.out).out).mono ?_
    rintro e w12 ⟨rfl, u12⟩
    have H12 := Hid.of (H11.out.trans u12)
    have Hu12 := Hid.of u12
    clear u12
    dsimp only
    go_wp2_with fail
    refine ((HUd _ H12.out).out).mono ?_
    rintro e w13 ⟨rfl, u13⟩
    have H13 := Hid.of (H12.out.trans u13)
    have Hu13 := Hid.of u13
    clear u13
    dsimp only
    go_wp2
    go_ret
    exact ⟨by first | rfl | simp, HU0.out.trans H13.out⟩
  · skip
    go_wp2_with fail
    refine ((HM _ H6.out).out).mono ?_
    rintro e w7 ⟨rfl, u7⟩
    have H7 := Hid.of (H6.out.trans u7)
    have Hu7 := Hid.of u7
    clear u7
    dsimp only
    go_wp2
    go_ret
    exact ⟨by simp, HU0.out.trans H7.out⟩
end Go.Proofs.YtfhdddhapjdocaaDoor
namespace Go.Proofs.YtfhdddhapjdocaaDoor
open Go.RowKit TextNum Go.Lib Go.ChangeShapes Go.WideShapes Go.ChangeAt
/-- nothing but zeros -/
def zA2 : Array Value := (List.replicate 64 (Value.int .u8 0)).toArray
theorem cell_byte {v : Value} {z : Int} (h : v = .int .u8 z) (h0 : 0 ≤ z) (h1 : z ≤ 255) : ∃ c : UInt8, v = .int .u8 (c.toNat : Int) := by
  subst h
  refine ⟨UInt8.ofNat z.toNat, ?_⟩
  rw [UInt8.toNat_ofNat', Nat.mod_eq_of_lt (by omega)]
  congr 1
  omega
theorem bytes_of : ∀ (l : List Value), (∀ v, v ∈ l → ∃ c : UInt8, v = .int .u8 (c.toNat : Int)) → ∃ r : List UInt8, l = cb r
  | [], _ => ⟨[], rfl⟩
  | v :: l, h => by
    obtain ⟨c, hc⟩ := h v (by simp)
    obtain ⟨r, hr⟩ := bytes_of l (fun u hu => h u (by simp [hu]))
    exact ⟨c :: r, by rw [hc, hr]; rfl⟩
set_option maxRecDepth 100000 in
theorem open32l {H : Type} {enc : TypeId × Value → H} {W : World} {l : List Value} {sp : Nat → Bool} {hd : Bool} {fuel : Nat} {x : DataW H × List MemPlace}
    (h : DataW.trod enc Tryd.prog W 0 sp hd fuel 43 l = some x) : ∃ r : List UInt8, r.length = 32 ∧ l = cb r := by
  obtain ⟨ys, m2, _, _, hlen, hyl, hel⟩ := DataW.trod_array Tryd.underlying43 h
  rw [show Tryd.prog.cellsOf 5 = 1 by kernel_rfl] at hel
  rw [show Tryd.prog.cellsOf 43 = 32 by kernel_rfl] at hlen
  obtain ⟨r, hr⟩ := bytes_of l (fun v hv => by
    obtain ⟨i, hi, e⟩ := List.getElem_of_mem hv
    have h1 := hel i (by omega)
    rw [Nat.mul_one, List.drop_eq_getElem_cons hi, List.take_succ_cons, List.take_zero, List.getElem?_eq_getElem (by omega)] at h1
    obtain ⟨z, ez, _, wz⟩ := DataW.trod_int Tryd.underlying5 h1
    have hb : 0 ≤ z ∧ z ≤ 255 := by simpa [Lit.wf, IntKind.min, IntKind.max, IntKind.signed, IntKind.bits] using wz
    rw [e] at ez
    exact cell_byte (by simpa using ez) hb.1 hb.2)
  exact ⟨r, by rw [hr, cb_length] at hlen; exact hlen, hr⟩
set_option maxRecDepth 100000 in
/-- two rows of 32 bytes as an argument -/
theorem openA2 {H : Type} {enc : TypeId × Value → H} {W : World} {base : Nat} {v : Value} {d : DataW H} {q : List MemPlace}
    (hval : Value.okWide Tryd.prog W .any base 50 v) (h : DataW.Trod enc Tryd.prog W 0 (fun _ => true) true 50 v d q) :
    ∃ x y : List UInt8, x.length = 32 ∧ y.length = 32 ∧ v = .agg (cb x ++ cb y).toArray := by
  obtain ⟨cs, rfl, hsz⟩ : ∃ cs : Array Value, v = .agg cs ∧ cs.size = Tryd.prog.cellsOf 50 := by
    simp only [Value.okWide, Tryd.underlying50] at hval
    obtain ⟨cs, h1, h2, _⟩ := hval
    exact ⟨cs, h1, h2⟩
  rw [show Tryd.prog.cellsOf 50 = 64 by kernel_rfl] at hsz
  obtain ⟨l⟩ := cs
  have hl : l.length = 64 := by simpa using hsz
  obtain ⟨fuel, hf⟩ := h
  have hf' : DataW.trod enc Tryd.prog W 0 (fun _ => true) true fuel 50 l = some (d, q) := hf
  obtain ⟨xs, m, rfl, hx, _, hxl, hall⟩ := DataW.trod_array Tryd.underlying50 hf'
  rw [show Tryd.prog.cellsOf 43 = 32 by kernel_rfl] at hall
  have h0 := hall 0 (by omega)
  have h1 := hall 1 (by omega)
  rw [List.getElem?_eq_getElem (by omega)] at h0 h1
  obtain ⟨x, hx1, ex⟩ := open32l h0
  obtain ⟨y, hy1, ey⟩ := open32l h1
  refine ⟨x, y, hx1, hy1, ?_⟩
  have e1 : (l.drop (1 * 32)).take 32 = l.drop 32 := List.take_of_length_le (by simp; omega)
  rw [e1] at ey
  rw [Nat.zero_mul, List.drop_zero] at ex
  rw [← ex, ← ey, List.take_append_drop]
end Go.Proofs.YtfhdddhapjdocaaDoor
