import Derived.Test.YtabpgpbcnadgcaaGreatDoorYi
import Derived.Test.YtabpgpbcnadgcaaGreatDoorYd
import Derived.WalkMore
import Derived.Laws.BitsLemmas
namespace Go.Proofs.YtabpgpbcnadgcaaGreatDoor
open Go.RowKit TextNum
theorem ext_drop' (s : ByteArray) (k : Nat) : (s.extract k s.size).data.toList = s.data.toList.drop k := by
  have hz : s.size = s.data.toList.length := Go.Lib.size_eq s
  rw [ByteArray.data_extract, Array.toList_extract, List.extract_eq_drop_take', List.take_of_length_le (by rw [← hz]; exact Nat.le_refl _)]
theorem wraps_i62 (n : Int) (h₀ : 0 ≤ n) (h₁ : n < 2 ^ 62) : IntKind.i64.wrap n = n := wrapk n h₀ (by omega)
theorem or16i (z v : Nat) (hz : z < 4294967296) (hv : v ≤ 15) : bits .or .i64 ((z : Int) * 16) (v : Int) = ((z * 16 + v : Nat) : Int) := by
  have := bits_join .i64 62 (by decide) wraps_i62 4 ((z : Int) * 16) (v : Int) (by omega) (by omega) (by omega) (by omega) (by omega) (by omega)
  rw [this]
  omega
theorem hxv_le' {c d : UInt8} (h : hxv c = some d) : d.toNat ≤ 15 := by
  unfold hxv at h
  split at h
  · rename_i hd
    have hdd : 48 ≤ c.toNat ∧ c.toNat ≤ 57 := by simpa [isD] using hd
    injection h with h
    rw [← h, UInt8.toNat_sub_of_le _ _ (by rw [UInt8.le_iff_toNat_le]; simpa using hdd.1)]
    have : (48 : UInt8).toNat = 48 := rfl
    omega
  · split at h
    · rename_i h2
      injection h with h
      have := (lw c).toNat_lt
      rw [← h, UInt8.toNat_add, UInt8.toNat_sub_of_le _ _ (by rw [UInt8.le_iff_toNat_le]; simpa using h2.1)]
      have : (97 : UInt8).toNat = 97 := rfl
      have : (10 : UInt8).toNat = 10 := rfl
      omega
    · cases h
/-- the digits of a chunk's size -/
def csl (d z : Nat) : List UInt8 → Er (Nat × Nat)
  | [] => .ok (d, z)
  | x :: r => if x = 59 then .ok (d, z) else match hxv x with
    | none => .error 8
    | some v => if d = 8 then .error 8 else csl (d + 1) (z * 16 + v.toNat) r
def cSz (l : List UInt8) : Er Nat := match csl 0 0 l with
  | .error e => .error e
  | .ok (d, z) => if d = 0 ∨ vlu (l.drop d) = false then .error 8 else .ok z
def csR (ad : Nat → Addr) : Er Nat → Value
  | .error k => .tuple #[.int .i64 0, ev (ad k)]
  | .ok z => .tuple #[.int .i64 (z : Int), .nilIface]
theorem pow16_le : ∀ d : Nat, d ≤ 7 → 16 ^ d ≤ 268435456 := by decide
set_option maxRecDepth 100000 in
set_option maxHeartbeats 1000000 in
theorem chunkSize_walk (ad : Nat → Addr) (s : ByteArray) (hs : s.size ≤ 1048576) (w : World) (h : GE w ad) : Calls Tryz.prog 126 #[.string s] w fun e w' => e = .returned (csR ad (cSz s.data.toList)) ∧ Up w w' := by
  have HG := Hid.of h
  clear h
  obtain ⟨L, hL⟩ : ∃ L, s.data.toList = L := ⟨_, rfl⟩
  have HLL := Hid.of hL
  have HS := Hid.of (show s.size = L.length by rw [← hL]; exact Go.Lib.size_eq s)
  rw [hL]
  clear hL
  go_enter Tryz.func126, Tryz.ntmps126
  go_wp2
  go_step3
  go_wp2
  go_step3
  go_wp2
  go_loopw [4, 5] (fun v4 v5 wr => ∃ d z : Nat, v4 = .int .i64 (z : Int) ∧ v5 = .int .i64 (d : Int) ∧ d ≤ s.size ∧ d ≤ 8 ∧ z < 4294967296 ∧ Hid (Up w wr ∧ z < 16 ^ d ∧ csl 0 0 L = csl d z (L.drop d))) (fun _ v5 _ => s.size - (intOf v5).toNat)
  case atStart => exact ⟨0, 0, rfl, rfl, Nat.zero_le _, by omega, by omega, Hid.of ⟨Up.refl _, by decide, rfl⟩⟩
  case round =>
    obtain ⟨d, z, rfl, rfl, hd, hd8, hz32, hQ⟩ := hrel
    have HQ := Hid.of hQ.out
    clear hQ
    by_cases hil : d < s.size
    · have hilz : (d : Int) < (s.size : Int) := by omega
      have hiL : d < L.length := by rw [← HS.out]; exact hil
      obtain ⟨x, hx⟩ : ∃ x, L[d] = x := ⟨_, rfl⟩
      have hg : s[d] = x := by
        rw [sget' s d hil, ← hx]
        simp only [HLL.out]
      have HD := Hid.of (show L.drop d = x :: L.drop (d + 1) by rw [← hx]; exact List.drop_eq_getElem_cons hiL)
      clear hx hiL
      have HX := Hid.of (hexDigit_walk x wr)
      have h59 : ((x.toNat : Int) == 59) = (x == 59) := u8_eq (a := x) (b := 59)
      by_cases hx59 : x = 59
      · have z59 : ((x.toNat : Int) == 59) = true := by rw [h59, beq_iff_eq]; exact hx59
        clear h59
        have HC := Hid.of (show csl 0 0 L = .ok (d, z) by rw [HQ.out.2.2, HD.out, csl, if_pos hx59])
        clear hx59
        go_wp2_with fail
        refine HX.out.mono ?_
        rintro e w9 ⟨rfl, h9⟩
        obtain rfl := h9.symm
        clear h9
        dsimp only
        by_cases hd0 : d = 0
        · have hdz : ((d : Int) == 0) = true := by rw [hd0]; rfl
          have HE := Hid.of (show csR ad (cSz L) = csR ad (.error 8) by unfold cSz; rw [HC.out]; dsimp only; rw [if_pos (.inl hd0)])
          clear hd0
          go_wp2
          refine wp_region_held_drew (S := fun w2 => GE w2 ad ∧ Up w w2) (by kernel_rfl) ⟨HG.out.up HQ.out.1.drew, HQ.out.1.drew⟩ (fun hS => ?_)
          refine wpAnyH_take (i := 0) (oi := { dst := some 48, op := Go.Op.load 106 (Go.Operand.global 11), type := 106, pos := "body.go:78", after := #[{ on := 1, ground := Go.Ground.gcOnly Go.Departure.lateStores }], guard := none }) (v := ev (ad 8)) rfl (by kernel_rfl) (by kernel_rfl) (by kernel_rfl) (fun _ _ _ h => h) (Or.inl ⟨by kernel_rfl, ?_⟩) hS ?_
          · intro w5 hSw
            have hgl : w5.cell? ⟨11, 0, none⟩ = _ := hSw.1.gl 8 (by decide)
            clear hSw hS
            go_simp
          simp only [Act.put, List.setIfInBounds_toArray, List.set_cons_zero, List.set_cons_succ]
          refine wpAnyH_take (i := 1) (oi := { dst := some 2, op := Go.Op.assign (Go.Operand.const (Go.Value.int Go.IntKind.i64 0)), type := 2, pos := "body.go:78", after := #[{ on := 0, ground := Go.Ground.textOnly Go.Departure.lateStores }], guard := none }) (v := .int .i64 0) rfl (by kernel_rfl) (by kernel_rfl) (by kernel_rfl) (fun _ _ _ h => h) (Or.inl ⟨by kernel_rfl, ?_⟩) hS ?_
          · intro w5 hSw
            clear hSw hS
            go_simp
          simp only [Act.put, List.setIfInBounds_toArray, List.set_cons_zero, List.set_cons_succ]
          refine wpAnyH_take (i := 2) (oi := { dst := some 3, op := Go.Op.assign (Go.Operand.tmp 48), type := 106, pos := "body.go:78", after := #[{ on := 0, ground := Go.Ground.data }, { on := 1, ground := Go.Ground.chain }, { on := 0, ground := Go.Ground.phase }, { on := 1, ground := Go.Ground.phase }], guard := none }) (v := ev (ad 8)) rfl (by kernel_rfl) (by kernel_rfl) (by kernel_rfl) (fun _ _ _ h => h) (Or.inl ⟨by kernel_rfl, ?_⟩) hS ?_
          · intro w5 hSw
            clear hSw hS
            go_simp
          simp only [Act.put, List.setIfInBounds_toArray, List.set_cons_zero, List.set_cons_succ]
          refine wpAnyH_done (by kernel_rfl) ?_ _
          have HS2 := Hid.of hS.2
          clear hS
          go_wp2
          try rw [Exit.noGoto_ret]
          go_ret2
          rw [HE.out]
          exact ⟨rfl, HS2.out⟩
        · have hdz : ((d : Int) == 0) = false := by rw [beq_eq_false_iff_ne]; omega
          have HM := Hid.of (mayBeValue_walk (s.extract d s.size) (by rw [ByteArray.size_extract]; omega) wr)
          rw [ext_drop', HLL.out] at HM
          have hdl : (d : Int) ≤ (s.size : Int) := by omega
          cases hv : vlu (L.drop d) with
          | false =>
            have HE := Hid.of (show csR ad (cSz L) = csR ad (.error 8) by unfold cSz; rw [HC.out]; dsimp only; rw [if_pos (.inr hv)])
            rw [hv] at HM
            go_wp2_with fail
            refine HM.out.mono ?_
            rintro e w9 ⟨rfl, h9⟩
            have HU9 := Hid.of (HQ.out.1.trans h9)
            clear h9
            dsimp only
            go_wp2
            refine wp_region_held_drew (S := fun w2 => GE w2 ad ∧ Up w w2) (by kernel_rfl) ⟨HG.out.up HU9.out.drew, HU9.out.drew⟩ (fun hS => ?_)
            refine wpAnyH_take (i := 0) (oi := { dst := some 48, op := Go.Op.load 106 (Go.Operand.global 11), type := 106, pos := "body.go:78", after := #[{ on := 1, ground := Go.Ground.gcOnly Go.Departure.lateStores }], guard := none }) (v := ev (ad 8)) rfl (by kernel_rfl) (by kernel_rfl) (by kernel_rfl) (fun _ _ _ h => h) (Or.inl ⟨by kernel_rfl, ?_⟩) hS ?_
            · intro w5 hSw
              have hgl : w5.cell? ⟨11, 0, none⟩ = _ := hSw.1.gl 8 (by decide)
              clear hSw hS
              go_simp
            simp only [Act.put, List.setIfInBounds_toArray, List.set_cons_zero, List.set_cons_succ]
            refine wpAnyH_take (i := 1) (oi := { dst := some 2, op := Go.Op.assign (Go.Operand.const (Go.Value.int Go.IntKind.i64 0)), type := 2, pos := "body.go:78", after := #[{ on := 0, ground := Go.Ground.textOnly Go.Departure.lateStores }], guard := none }) (v := .int .i64 0) rfl (by kernel_rfl) (by kernel_rfl) (by kernel_rfl) (fun _ _ _ h => h) (Or.inl ⟨by kernel_rfl, ?_⟩) hS ?_
            · intro w5 hSw
              clear hSw hS
              go_simp
            simp only [Act.put, List.setIfInBounds_toArray, List.set_cons_zero, List.set_cons_succ]
            refine wpAnyH_take (i := 2) (oi := { dst := some 3, op := Go.Op.assign (Go.Operand.tmp 48), type := 106, pos := "body.go:78", after := #[{ on := 0, ground := Go.Ground.data }, { on := 1, ground := Go.Ground.chain }, { on := 0, ground := Go.Ground.phase }, { on := 1, ground := Go.Ground.phase }], guard := none }) (v := ev (ad 8)) rfl (by kernel_rfl) (by kernel_rfl) (by kernel_rfl) (fun _ _ _ h => h) (Or.inl ⟨by kernel_rfl, ?_⟩) hS ?_
            · intro w5 hSw
              clear hSw hS
              go_simp
            simp only [Act.put, List.setIfInBounds_toArray, List.set_cons_zero, List.set_cons_succ]
            refine wpAnyH_done (by kernel_rfl) ?_ _
            have HS2 := Hid.of hS.2
            clear hS
            go_wp2
            try rw [Exit.noGoto_ret]
            go_ret2
            rw [HE.out]
            exact ⟨rfl, HS2.out⟩
          | true =>
            have HE := Hid.of (show csR ad (cSz L) = .tuple #[.int .i64 (z : Int), .nilIface] by unfold cSz; rw [HC.out]; dsimp only; rw [if_neg (by rw [hv]; simp [hd0])]; rfl)
            rw [hv] at HM
            go_wp2_with fail
            refine HM.out.mono ?_
            rintro e w9 ⟨rfl, h9⟩
            have HU9 := Hid.of (HQ.out.1.trans h9)
            clear h9
            dsimp only
            go_wp2
            try rw [Exit.noGoto_ret]
            go_ret2
            rw [HE.out]
            exact ⟨rfl, HU9.out⟩
      · have z59 : ((x.toNat : Int) == 59) = false := by rw [h59, beq_eq_false_iff_ne]; exact hx59
        clear h59
        cases hv : hxv x with
        | none =>
          have HE := Hid.of (show csR ad (cSz L) = csR ad (.error 8) by unfold cSz; rw [HQ.out.2.2, HD.out, csl, if_neg hx59, hv])
          rw [hv] at HX
          go_wp2_with fail
          refine HX.out.mono ?_
          rintro e w9 ⟨rfl, h9⟩
          obtain rfl := h9.symm
          clear h9
          dsimp only
          go_wp2
          refine wp_region_held_drew (S := fun w2 => GE w2 ad ∧ Up w w2) (by kernel_rfl) ⟨HG.out.up HQ.out.1.drew, HQ.out.1.drew⟩ (fun hS => ?_)
          refine wpAnyH_take (i := 0) (oi := { dst := some 31, op := Go.Op.load 106 (Go.Operand.global 11), type := 106, pos := "body.go:72", after := #[{ on := 1, ground := Go.Ground.gcOnly Go.Departure.lateStores }], guard := none }) (v := ev (ad 8)) rfl (by kernel_rfl) (by kernel_rfl) (by kernel_rfl) (fun _ _ _ h => h) (Or.inl ⟨by kernel_rfl, ?_⟩) hS ?_
          · intro w5 hSw
            have hgl : w5.cell? ⟨11, 0, none⟩ = _ := hSw.1.gl 8 (by decide)
            clear hSw hS
            go_simp
          simp only [Act.put, List.setIfInBounds_toArray, List.set_cons_zero, List.set_cons_succ]
          refine wpAnyH_take (i := 1) (oi := { dst := some 2, op := Go.Op.assign (Go.Operand.const (Go.Value.int Go.IntKind.i64 0)), type := 2, pos := "body.go:72", after := #[{ on := 0, ground := Go.Ground.textOnly Go.Departure.lateStores }], guard := none }) (v := .int .i64 0) rfl (by kernel_rfl) (by kernel_rfl) (by kernel_rfl) (fun _ _ _ h => h) (Or.inl ⟨by kernel_rfl, ?_⟩) hS ?_
          · intro w5 hSw
            clear hSw hS
            go_simp
          simp only [Act.put, List.setIfInBounds_toArray, List.set_cons_zero, List.set_cons_succ]
          refine wpAnyH_take (i := 2) (oi := { dst := some 3, op := Go.Op.assign (Go.Operand.tmp 31), type := 106, pos := "body.go:72", after := #[{ on := 0, ground := Go.Ground.data }, { on := 1, ground := Go.Ground.chain }, { on := 0, ground := Go.Ground.phase }, { on := 1, ground := Go.Ground.phase }], guard := none }) (v := ev (ad 8)) rfl (by kernel_rfl) (by kernel_rfl) (by kernel_rfl) (fun _ _ _ h => h) (Or.inl ⟨by kernel_rfl, ?_⟩) hS ?_
          · intro w5 hSw
            clear hSw hS
            go_simp
          simp only [Act.put, List.setIfInBounds_toArray, List.set_cons_zero, List.set_cons_succ]
          refine wpAnyH_done (by kernel_rfl) ?_ _
          have HS2 := Hid.of hS.2
          clear hS
          go_wp2
          try rw [Exit.noGoto_ret]
          go_ret2
          rw [HE.out]
          exact ⟨rfl, HS2.out⟩
        | some v =>
          rw [hv] at HX
          by_cases h8 : d = 8
          · have z8 : ((d : Int) == 8) = true := by rw [h8]; rfl
            have HE := Hid.of (show csR ad (cSz L) = csR ad (.error 8) by unfold cSz; rw [HQ.out.2.2, HD.out, csl, if_neg hx59, hv]; dsimp only; rw [if_pos h8])
            clear h8
            go_wp2_with fail
            refine HX.out.mono ?_
            rintro e w9 ⟨rfl, h9⟩
            obtain rfl := h9.symm
            clear h9
            dsimp only
            go_wp2
            refine wp_region_held_drew (S := fun w2 => GE w2 ad ∧ Up w w2) (by kernel_rfl) ⟨HG.out.up HQ.out.1.drew, HQ.out.1.drew⟩ (fun hS => ?_)
            refine wpAnyH_take (i := 0) (oi := { dst := some 31, op := Go.Op.load 106 (Go.Operand.global 11), type := 106, pos := "body.go:72", after := #[{ on := 1, ground := Go.Ground.gcOnly Go.Departure.lateStores }], guard := none }) (v := ev (ad 8)) rfl (by kernel_rfl) (by kernel_rfl) (by kernel_rfl) (fun _ _ _ h => h) (Or.inl ⟨by kernel_rfl, ?_⟩) hS ?_
            · intro w5 hSw
              have hgl : w5.cell? ⟨11, 0, none⟩ = _ := hSw.1.gl 8 (by decide)
              clear hSw hS
              go_simp
            simp only [Act.put, List.setIfInBounds_toArray, List.set_cons_zero, List.set_cons_succ]
            refine wpAnyH_take (i := 1) (oi := { dst := some 2, op := Go.Op.assign (Go.Operand.const (Go.Value.int Go.IntKind.i64 0)), type := 2, pos := "body.go:72", after := #[{ on := 0, ground := Go.Ground.textOnly Go.Departure.lateStores }], guard := none }) (v := .int .i64 0) rfl (by kernel_rfl) (by kernel_rfl) (by kernel_rfl) (fun _ _ _ h => h) (Or.inl ⟨by kernel_rfl, ?_⟩) hS ?_
            · intro w5 hSw
              clear hSw hS
              go_simp
            simp only [Act.put, List.setIfInBounds_toArray, List.set_cons_zero, List.set_cons_succ]
            refine wpAnyH_take (i := 2) (oi := { dst := some 3, op := Go.Op.assign (Go.Operand.tmp 31), type := 106, pos := "body.go:72", after := #[{ on := 0, ground := Go.Ground.data }, { on := 1, ground := Go.Ground.chain }, { on := 0, ground := Go.Ground.phase }, { on := 1, ground := Go.Ground.phase }], guard := none }) (v := ev (ad 8)) rfl (by kernel_rfl) (by kernel_rfl) (by kernel_rfl) (fun _ _ _ h => h) (Or.inl ⟨by kernel_rfl, ?_⟩) hS ?_
            · intro w5 hSw
              clear hSw hS
              go_simp
            simp only [Act.put, List.setIfInBounds_toArray, List.set_cons_zero, List.set_cons_succ]
            refine wpAnyH_done (by kernel_rfl) ?_ _
            have HS2 := Hid.of hS.2
            clear hS
            go_wp2
            try rw [Exit.noGoto_ret]
            go_ret2
            rw [HE.out]
            exact ⟨rfl, HS2.out⟩
          · have z8 : ((d : Int) == 8) = false := by rw [beq_eq_false_iff_ne]; omega
            have hv15 := hxv_le' hv
            have HN := Hid.of (show csl 0 0 L = csl (d + 1) (z * 16 + v.toNat) (L.drop (d + 1)) by rw [HQ.out.2.2, HD.out, csl, if_neg hx59, hv]; dsimp only; rw [if_neg h8])
            have HP := Hid.of (show z * 16 + v.toNat < 16 ^ (d + 1) by have := HQ.out.2.1; rw [Nat.pow_succ]; omega)
            have hz28 : z < 268435456 := Nat.lt_of_lt_of_le HQ.out.2.1 (pow16_le d (by omega))
            have hor := or16i z v.toNat hz32 hv15
            have HZ := Hid.of (show z * 16 + v.toNat < 4294967296 by omega)
            dsimp only [Option.getD, Option.isSome] at HX
            go_wp2_with fail
            refine HX.out.mono ?_
            rintro e w9 ⟨rfl, h9⟩
            obtain rfl := h9.symm
            clear h9
            dsimp only
            go_wp2
            go_roundw
            all_goals first
              | exact ⟨d + 1, z * 16 + v.toNat, by first | rfl | simp, by go_num, by omega, by omega, HZ.out, Hid.of ⟨HQ.out.1, HP.out, HN.out⟩⟩
              | (simp [intOf]; omega)
    · have hilz : ¬ (d : Int) < (s.size : Int) := by omega
      have HC := Hid.of (show csl 0 0 L = .ok (d, z) by rw [HQ.out.2.2, List.drop_eq_nil_of_le (by rw [← HS.out]; omega), csl])
      by_cases hd0 : d = 0
      · have hdz : ((d : Int) == 0) = true := by rw [hd0]; rfl
        have HE := Hid.of (show csR ad (cSz L) = csR ad (.error 8) by unfold cSz; rw [HC.out]; dsimp only; rw [if_pos (.inl hd0)])
        clear hd0
        go_wp2
        refine wp_region_held_drew (S := fun w2 => GE w2 ad ∧ Up w w2) (by kernel_rfl) ⟨HG.out.up HQ.out.1.drew, HQ.out.1.drew⟩ (fun hS => ?_)
        refine wpAnyH_take (i := 0) (oi := { dst := some 48, op := Go.Op.load 106 (Go.Operand.global 11), type := 106, pos := "body.go:78", after := #[{ on := 1, ground := Go.Ground.gcOnly Go.Departure.lateStores }], guard := none }) (v := ev (ad 8)) rfl (by kernel_rfl) (by kernel_rfl) (by kernel_rfl) (fun _ _ _ h => h) (Or.inl ⟨by kernel_rfl, ?_⟩) hS ?_
        · intro w5 hSw
          have hgl : w5.cell? ⟨11, 0, none⟩ = _ := hSw.1.gl 8 (by decide)
          clear hSw hS
          go_simp
        simp only [Act.put, List.setIfInBounds_toArray, List.set_cons_zero, List.set_cons_succ]
        refine wpAnyH_take (i := 1) (oi := { dst := some 2, op := Go.Op.assign (Go.Operand.const (Go.Value.int Go.IntKind.i64 0)), type := 2, pos := "body.go:78", after := #[{ on := 0, ground := Go.Ground.textOnly Go.Departure.lateStores }], guard := none }) (v := .int .i64 0) rfl (by kernel_rfl) (by kernel_rfl) (by kernel_rfl) (fun _ _ _ h => h) (Or.inl ⟨by kernel_rfl, ?_⟩) hS ?_
        · intro w5 hSw
          clear hSw hS
          go_simp
        simp only [Act.put, List.setIfInBounds_toArray, List.set_cons_zero, List.set_cons_succ]
        refine wpAnyH_take (i := 2) (oi := { dst := some 3, op := Go.Op.assign (Go.Operand.tmp 48), type := 106, pos := "body.go:78", after := #[{ on := 0, ground := Go.Ground.data }, { on := 1, ground := Go.Ground.chain }, { on := 0, ground := Go.Ground.phase }, { on := 1, ground := Go.Ground.phase }], guard := none }) (v := ev (ad 8)) rfl (by kernel_rfl) (by kernel_rfl) (by kernel_rfl) (fun _ _ _ h => h) (Or.inl ⟨by kernel_rfl, ?_⟩) hS ?_
        · intro w5 hSw
          clear hSw hS
          go_simp
        simp only [Act.put, List.setIfInBounds_toArray, List.set_cons_zero, List.set_cons_succ]
        refine wpAnyH_done (by kernel_rfl) ?_ _
        have HS2 := Hid.of hS.2
        clear hS
        go_wp2
        try rw [Exit.noGoto_ret]
        go_ret2
        rw [HE.out]
        exact ⟨rfl, HS2.out⟩
      · have hdz : ((d : Int) == 0) = false := by rw [beq_eq_false_iff_ne]; omega
        have HM := Hid.of (mayBeValue_walk (s.extract d s.size) (by rw [ByteArray.size_extract]; omega) wr)
        rw [ext_drop', HLL.out] at HM
        have hdl : (d : Int) ≤ (s.size : Int) := by omega
        cases hv : vlu (L.drop d) with
        | false =>
          have HE := Hid.of (show csR ad (cSz L) = csR ad (.error 8) by unfold cSz; rw [HC.out]; dsimp only; rw [if_pos (.inr hv)])
          rw [hv] at HM
          go_wp2_with fail
          refine HM.out.mono ?_
          rintro e w9 ⟨rfl, h9⟩
          have HU9 := Hid.of (HQ.out.1.trans h9)
          clear h9
          dsimp only
          go_wp2
          refine wp_region_held_drew (S := fun w2 => GE w2 ad ∧ Up w w2) (by kernel_rfl) ⟨HG.out.up HU9.out.drew, HU9.out.drew⟩ (fun hS => ?_)
          refine wpAnyH_take (i := 0) (oi := { dst := some 48, op := Go.Op.load 106 (Go.Operand.global 11), type := 106, pos := "body.go:78", after := #[{ on := 1, ground := Go.Ground.gcOnly Go.Departure.lateStores }], guard := none }) (v := ev (ad 8)) rfl (by kernel_rfl) (by kernel_rfl) (by kernel_rfl) (fun _ _ _ h => h) (Or.inl ⟨by kernel_rfl, ?_⟩) hS ?_
          · intro w5 hSw
            have hgl : w5.cell? ⟨11, 0, none⟩ = _ := hSw.1.gl 8 (by decide)
            clear hSw hS
            go_simp
          simp only [Act.put, List.setIfInBounds_toArray, List.set_cons_zero, List.set_cons_succ]
          refine wpAnyH_take (i := 1) (oi := { dst := some 2, op := Go.Op.assign (Go.Operand.const (Go.Value.int Go.IntKind.i64 0)), type := 2, pos := "body.go:78", after := #[{ on := 0, ground := Go.Ground.textOnly Go.Departure.lateStores }], guard := none }) (v := .int .i64 0) rfl (by kernel_rfl) (by kernel_rfl) (by kernel_rfl) (fun _ _ _ h => h) (Or.inl ⟨by kernel_rfl, ?_⟩) hS ?_
          · intro w5 hSw
            clear hSw hS
            go_simp
          simp only [Act.put, List.setIfInBounds_toArray, List.set_cons_zero, List.set_cons_succ]
          refine wpAnyH_take (i := 2) (oi := { dst := some 3, op := Go.Op.assign (Go.Operand.tmp 48), type := 106, pos := "body.go:78", after := #[{ on := 0, ground := Go.Ground.data }, { on := 1, ground := Go.Ground.chain }, { on := 0, ground := Go.Ground.phase }, { on := 1, ground := Go.Ground.phase }], guard := none }) (v := ev (ad 8)) rfl (by kernel_rfl) (by kernel_rfl) (by kernel_rfl) (fun _ _ _ h => h) (Or.inl ⟨by kernel_rfl, ?_⟩) hS ?_
          · intro w5 hSw
            clear hSw hS
            go_simp
          simp only [Act.put, List.setIfInBounds_toArray, List.set_cons_zero, List.set_cons_succ]
          refine wpAnyH_done (by kernel_rfl) ?_ _
          have HS2 := Hid.of hS.2
          clear hS
          go_wp2
          try rw [Exit.noGoto_ret]
          go_ret2
          rw [HE.out]
          exact ⟨rfl, HS2.out⟩
        | true =>
          have HE := Hid.of (show csR ad (cSz L) = .tuple #[.int .i64 (z : Int), .nilIface] by unfold cSz; rw [HC.out]; dsimp only; rw [if_neg (by rw [hv]; simp [hd0])]; rfl)
          rw [hv] at HM
          go_wp2_with fail
          refine HM.out.mono ?_
          rintro e w9 ⟨rfl, h9⟩
          have HU9 := Hid.of (HQ.out.1.trans h9)
          clear h9
          dsimp only
          go_wp2
          try rw [Exit.noGoto_ret]
          go_ret2
          rw [HE.out]
          exact ⟨rfl, HU9.out⟩
end Go.Proofs.YtabpgpbcnadgcaaGreatDoor
