import Derived.Test.YtabpgpbcnadgcaaGreatDoorYc
import Derived.Test.YtabpgpbcnadgcaaGreatDoorWg
import Derived.Lib.SlBytesConst
namespace Go.Proofs.YtabpgpbcnadgcaaGreatDoor
open Go.RowKit TextNum
def clR (ad : Nat → Addr) (a : Option Addr) (c : Nat) : Er (List UInt8 × Nat) → Value
  | .error k => .tuple #[.slice none 0 0, .int .i64 0, ev (ad k)]
  | .ok (ln, k) => .tuple #[.slice a ln.length c, .int .i64 (k : Int), .nilIface]
theorem sb_mk (w : World) (k : UInt8) : Sb (w.alloc (.cells #[.int .u8 (k.toNat : Int)] 5 (1, 2))) (.slice (some ⟨w.heap.size, 0, none⟩) 1 1) [k] := by
  refine ⟨_, 1, rfl, by simp, by simp [maxLen], (fun e => by cases e), fun ad e => ?_⟩
  obtain rfl := Option.some.inj e
  refine ⟨fun _ => rfl, fun j u hj => ?_⟩
  match j, hj with
  | 0, hj =>
    obtain rfl := Option.some.inj hj
    rw [Addr.add_lit]
    unfold World.cell?
    dsimp only
    rw [heap_alloc_new w _]
    rfl
  | j + 1, hj => simp [cb] at hj
set_option maxRecDepth 100000 in
set_option maxHeartbeats 2000000 in
theorem cutLine_walk (ad : Nat → Addr) {a : Option Addr} {n c : Nat} {ds : List UInt8} (most : Nat) (hmo : most ≤ 1048576) (w : World) (hS : Sb w (.slice a n c) ds) (h : GE w ad) : Calls Tryz.prog 124 #[.slice a n c, .int .i64 (most : Int)] w fun e w' => e = .returned (clR ad a c (cutL most ds)) ∧ Up w w' := by
  have HG := Hid.of h
  clear h
  obtain ⟨hn, hnc, hcm⟩ := hS.len
  unfold maxLen at hcm
  have HN := Hid.of hn
  have HSb := Hid.of (show Sb w (.slice a ds.length c) ds by rw [← hn]; exact hS)
  clear hn hS
  go_enter Tryz.func124, Tryz.ntmps124
  by_cases hlt : n < most + 2
  · have hltz : (n : Int) < (most : Int) + 2 := by omega
    have hlez : (n : Int) ≤ (most : Int) + 2 := by omega
    have hnz : (n : Int) ≤ (c : Int) := by omega
    have hm : Sb w (.slice a n c) (ds.take (most + 2)) := by
      rw [List.take_of_length_le (by rw [← HN.out]; omega), HN.out]
      exact HSb.out
    have HI := Hid.of (bIndex_walk 10 w hm)
    cases hf : fnl (ds.take (most + 2)) with
    | none =>
      have HX := Hid.of (show Go.Lib.indexByte (ds.take (most + 2)) 10 = -1 by rw [ixb_fnl, hf])
      rw [HX.out] at HI
      have HE := Hid.of (show clR ad a c (cutL most ds) = clR ad a c (.error 2) by unfold cutL; rw [hf]; dsimp only; rw [if_pos (by rw [← HN.out]; omega)])
      go_wp2_with fail
      refine HI.out.mono ?_
      rintro e w9 ⟨rfl, h9⟩
      obtain rfl := h9.symm
      clear h9
      dsimp only
      go_wp2
      refine wp_region_held_drew (S := fun w2 => GE w2 ad ∧ Up w w2) (by kernel_rfl) ⟨HG.out.up (Up.refl w).drew, (Up.refl w).drew⟩ (fun hS => ?_)
      refine wpAnyH_take (i := 0) (oi := { dst := some 25, op := Go.Op.load 106 (Go.Operand.global 17), type := 106, pos := "head.go:17", after := #[{ on := 2, ground := Go.Ground.gcOnly Go.Departure.lateStores }], guard := none }) (v := ev (ad 2)) rfl (by kernel_rfl) (by kernel_rfl) (by kernel_rfl) (fun _ _ _ h => h) (Or.inl ⟨by kernel_rfl, ?_⟩) hS ?_
      · intro w5 hSw
        have hgl : w5.cell? ⟨17, 0, none⟩ = _ := hSw.1.gl 2 (by decide)
        clear hSw hS
        go_simp
      simp only [Act.put, List.setIfInBounds_toArray, List.set_cons_zero, List.set_cons_succ]
      refine wpAnyH_take (i := 1) (oi := { dst := some 4, op := Go.Op.assign (Go.Operand.const (Go.Value.slice none 0 0)), type := 22, pos := "head.go:17", after := #[{ on := 0, ground := Go.Ground.textOnly Go.Departure.lateStores }], guard := none }) (v := .slice none 0 0) rfl (by kernel_rfl) (by kernel_rfl) (by kernel_rfl) (fun _ _ _ h => h) (Or.inl ⟨by kernel_rfl, ?_⟩) hS ?_
      · intro w5 hSw
        clear hSw hS
        go_simp
      simp only [Act.put, List.setIfInBounds_toArray, List.set_cons_zero, List.set_cons_succ]
      refine wpAnyH_take (i := 2) (oi := { dst := some 5, op := Go.Op.assign (Go.Operand.const (Go.Value.int Go.IntKind.i64 0)), type := 3, pos := "head.go:17", after := #[{ on := 1, ground := Go.Ground.chain }, { on := 0, ground := Go.Ground.textOnly Go.Departure.lateStores }, { on := 1, ground := Go.Ground.phase }], guard := none }) (v := .int .i64 0) rfl (by kernel_rfl) (by kernel_rfl) (by kernel_rfl) (fun _ _ _ h => h) (Or.inl ⟨by kernel_rfl, ?_⟩) hS ?_
      · intro w5 hSw
        clear hSw hS
        go_simp
      simp only [Act.put, List.setIfInBounds_toArray, List.set_cons_zero, List.set_cons_succ]
      refine wpAnyH_take (i := 3) (oi := { dst := some 6, op := Go.Op.assign (Go.Operand.tmp 25), type := 106, pos := "head.go:17", after := #[{ on := 0, ground := Go.Ground.data }, { on := 2, ground := Go.Ground.chain }, { on := 0, ground := Go.Ground.phase }, { on := 1, ground := Go.Ground.phase }, { on := 2, ground := Go.Ground.phase }], guard := none }) (v := ev (ad 2)) rfl (by kernel_rfl) (by kernel_rfl) (by kernel_rfl) (fun _ _ _ h => h) (Or.inl ⟨by kernel_rfl, ?_⟩) hS ?_
      · intro w5 hSw
        clear hSw hS
        go_simp
      simp only [Act.put, List.setIfInBounds_toArray, List.set_cons_zero, List.set_cons_succ]
      refine wpAnyH_done (by kernel_rfl) ?_ _
      have HS2 := Hid.of hS.2
      clear hS
      go_wp2
      go_ret3
      rw [HE.out]
      exact ⟨rfl, HS2.out⟩
    | some i =>
      have HX := Hid.of (show Go.Lib.indexByte (ds.take (most + 2)) 10 = (i : Int) by rw [ixb_fnl, hf])
      rw [HX.out] at HI
      have hil := fnl_lt hf
      rw [List.length_take, ← HN.out] at hil
      have hin : i < n := by omega
      have him : i < most + 2 := by omega
      clear hil
      have hic : (i : Int) ≤ (c : Int) := by omega
      have hS2 := HSb.out.take i (by rw [← HN.out]; omega)
      have HTS := Hid.of (fun (w2 : World) (hu : Up w w2) (x : Nat) (hx : Sb w2 (.slice (some ⟨x, 0, none⟩) 1 1) [13]) => bTrimSuffix_walk x w2 (hS2.up hu) hx)
      clear hS2
      have kc := fun (w : World) (C : Array Value) (n c : Nat) => Go.Lib.run_convert_bytes_const (P := Tryz.prog) w 22 5 C n c Tryz.underlying22 Tryz.underlying5
      go_wp2_with fail
      refine HI.out.mono ?_
      rintro e w9 ⟨rfl, h9⟩
      obtain rfl := h9.symm
      clear h9
      dsimp only
      go_wp2_with fail
      refine (HTS.out _ ((Up.refl w).alloc _) w.heap.size (sb_mk w 13)).mono ?_
      rintro e w9 ⟨rfl, h9⟩
      have HU9 := Hid.of (show Up w w9 by rw [h9]; exact (Up.refl w).alloc _)
      clear h9
      dsimp only
      obtain ⟨k, hk⟩ : ∃ k, (tcr (ds.take i)).length = k := ⟨_, rfl⟩
      rw [hk]
      by_cases hkm : most < k
      · have zkm : (most : Int) < (k : Int) := by omega
        have HE := Hid.of (show clR ad a c (cutL most ds) = clR ad a c (.error 1) by unfold cutL; rw [hf]; dsimp only; rw [if_pos (by rw [hk]; exact hkm)])
        clear hk
        go_wp2
        refine wp_region_held_drew (S := fun w2 => GE w2 ad ∧ Up w w2) (by kernel_rfl) ⟨HG.out.up HU9.out.drew, HU9.out.drew⟩ (fun hS => ?_)
        refine wpAnyH_take (i := 0) (oi := { dst := some 39, op := Go.Op.load 106 (Go.Operand.global 2), type := 106, pos := "head.go:24", after := #[{ on := 2, ground := Go.Ground.gcOnly Go.Departure.lateStores }], guard := none }) (v := ev (ad 1)) rfl (by kernel_rfl) (by kernel_rfl) (by kernel_rfl) (fun _ _ _ h => h) (Or.inl ⟨by kernel_rfl, ?_⟩) hS ?_
        · intro w5 hSw
          have hgl : w5.cell? ⟨2, 0, none⟩ = _ := hSw.1.gl 1 (by decide)
          clear hSw hS
          go_simp
        simp only [Act.put, List.setIfInBounds_toArray, List.set_cons_zero, List.set_cons_succ]
        refine wpAnyH_take (i := 1) (oi := { dst := some 4, op := Go.Op.assign (Go.Operand.const (Go.Value.slice none 0 0)), type := 22, pos := "head.go:24", after := #[{ on := 0, ground := Go.Ground.textOnly Go.Departure.lateStores }], guard := none }) (v := .slice none 0 0) rfl (by kernel_rfl) (by kernel_rfl) (by kernel_rfl) (fun _ _ _ h => h) (Or.inl ⟨by kernel_rfl, ?_⟩) hS ?_
        · intro w5 hSw
          clear hSw hS
          go_simp
        simp only [Act.put, List.setIfInBounds_toArray, List.set_cons_zero, List.set_cons_succ]
        refine wpAnyH_take (i := 2) (oi := { dst := some 5, op := Go.Op.assign (Go.Operand.const (Go.Value.int Go.IntKind.i64 0)), type := 3, pos := "head.go:24", after := #[{ on := 1, ground := Go.Ground.chain }, { on := 0, ground := Go.Ground.textOnly Go.Departure.lateStores }, { on := 1, ground := Go.Ground.phase }], guard := none }) (v := .int .i64 0) rfl (by kernel_rfl) (by kernel_rfl) (by kernel_rfl) (fun _ _ _ h => h) (Or.inl ⟨by kernel_rfl, ?_⟩) hS ?_
        · intro w5 hSw
          clear hSw hS
          go_simp
        simp only [Act.put, List.setIfInBounds_toArray, List.set_cons_zero, List.set_cons_succ]
        refine wpAnyH_take (i := 3) (oi := { dst := some 6, op := Go.Op.assign (Go.Operand.tmp 39), type := 106, pos := "head.go:24", after := #[{ on := 0, ground := Go.Ground.data }, { on := 2, ground := Go.Ground.chain }, { on := 0, ground := Go.Ground.phase }, { on := 1, ground := Go.Ground.phase }, { on := 2, ground := Go.Ground.phase }], guard := none }) (v := ev (ad 1)) rfl (by kernel_rfl) (by kernel_rfl) (by kernel_rfl) (fun _ _ _ h => h) (Or.inl ⟨by kernel_rfl, ?_⟩) hS ?_
        · intro w5 hSw
          clear hSw hS
          go_simp
        simp only [Act.put, List.setIfInBounds_toArray, List.set_cons_zero, List.set_cons_succ]
        refine wpAnyH_done (by kernel_rfl) ?_ _
        have HS2 := Hid.of hS.2
        clear hS
        go_wp2
        go_ret3
        rw [HE.out]
        exact ⟨rfl, HS2.out⟩
      · have zkm : ¬ (most : Int) < (k : Int) := by omega
        have HE := Hid.of (show clR ad a c (cutL most ds) = .tuple #[.slice a k c, .int .i64 ((i + 1 : Nat) : Int), .nilIface] by unfold cutL; rw [hf]; dsimp only; rw [if_neg (by rw [hk]; exact hkm), ← hk]; rfl)
        clear hk
        go_wp2
        go_ret3
        rw [HE.out]
        exact ⟨by first | rfl | simp, HU9.out⟩
  · have hltz : ¬ (n : Int) < (most : Int) + 2 := by omega
    by_cases hle : n ≤ most + 2
    · have hlez : (n : Int) ≤ (most : Int) + 2 := by omega
      have hnz : (n : Int) ≤ (c : Int) := by omega
      have hm : Sb w (.slice a n c) (ds.take (most + 2)) := by
        rw [List.take_of_length_le (by rw [← HN.out]; omega), HN.out]
        exact HSb.out
      have HI := Hid.of (bIndex_walk 10 w hm)
      cases hf : fnl (ds.take (most + 2)) with
      | none =>
        have HX := Hid.of (show Go.Lib.indexByte (ds.take (most + 2)) 10 = -1 by rw [ixb_fnl, hf])
        rw [HX.out] at HI
        have HE := Hid.of (show clR ad a c (cutL most ds) = clR ad a c (.error 1) by unfold cutL; rw [hf]; dsimp only; rw [if_neg (by rw [← HN.out]; omega)])
        go_wp2_with fail
        refine HI.out.mono ?_
        rintro e w9 ⟨rfl, h9⟩
        obtain rfl := h9.symm
        clear h9
        dsimp only
        go_wp2
        refine wp_region_held_drew (S := fun w2 => GE w2 ad ∧ Up w w2) (by kernel_rfl) ⟨HG.out.up (Up.refl w).drew, (Up.refl w).drew⟩ (fun hS => ?_)
        refine wpAnyH_take (i := 0) (oi := { dst := some 28, op := Go.Op.load 106 (Go.Operand.global 2), type := 106, pos := "head.go:20", after := #[{ on := 2, ground := Go.Ground.gcOnly Go.Departure.lateStores }], guard := none }) (v := ev (ad 1)) rfl (by kernel_rfl) (by kernel_rfl) (by kernel_rfl) (fun _ _ _ h => h) (Or.inl ⟨by kernel_rfl, ?_⟩) hS ?_
        · intro w5 hSw
          have hgl : w5.cell? ⟨2, 0, none⟩ = _ := hSw.1.gl 1 (by decide)
          clear hSw hS
          go_simp
        simp only [Act.put, List.setIfInBounds_toArray, List.set_cons_zero, List.set_cons_succ]
        refine wpAnyH_take (i := 1) (oi := { dst := some 4, op := Go.Op.assign (Go.Operand.const (Go.Value.slice none 0 0)), type := 22, pos := "head.go:20", after := #[{ on := 0, ground := Go.Ground.textOnly Go.Departure.lateStores }], guard := none }) (v := .slice none 0 0) rfl (by kernel_rfl) (by kernel_rfl) (by kernel_rfl) (fun _ _ _ h => h) (Or.inl ⟨by kernel_rfl, ?_⟩) hS ?_
        · intro w5 hSw
          clear hSw hS
          go_simp
        simp only [Act.put, List.setIfInBounds_toArray, List.set_cons_zero, List.set_cons_succ]
        refine wpAnyH_take (i := 2) (oi := { dst := some 5, op := Go.Op.assign (Go.Operand.const (Go.Value.int Go.IntKind.i64 0)), type := 3, pos := "head.go:20", after := #[{ on := 1, ground := Go.Ground.chain }, { on := 0, ground := Go.Ground.textOnly Go.Departure.lateStores }, { on := 1, ground := Go.Ground.phase }], guard := none }) (v := .int .i64 0) rfl (by kernel_rfl) (by kernel_rfl) (by kernel_rfl) (fun _ _ _ h => h) (Or.inl ⟨by kernel_rfl, ?_⟩) hS ?_
        · intro w5 hSw
          clear hSw hS
          go_simp
        simp only [Act.put, List.setIfInBounds_toArray, List.set_cons_zero, List.set_cons_succ]
        refine wpAnyH_take (i := 3) (oi := { dst := some 6, op := Go.Op.assign (Go.Operand.tmp 28), type := 106, pos := "head.go:20", after := #[{ on := 0, ground := Go.Ground.data }, { on := 2, ground := Go.Ground.chain }, { on := 0, ground := Go.Ground.phase }, { on := 1, ground := Go.Ground.phase }, { on := 2, ground := Go.Ground.phase }], guard := none }) (v := ev (ad 1)) rfl (by kernel_rfl) (by kernel_rfl) (by kernel_rfl) (fun _ _ _ h => h) (Or.inl ⟨by kernel_rfl, ?_⟩) hS ?_
        · intro w5 hSw
          clear hSw hS
          go_simp
        simp only [Act.put, List.setIfInBounds_toArray, List.set_cons_zero, List.set_cons_succ]
        refine wpAnyH_done (by kernel_rfl) ?_ _
        have HS2 := Hid.of hS.2
        clear hS
        go_wp2
        go_ret3
        rw [HE.out]
        exact ⟨rfl, HS2.out⟩
      | some i =>
        have HX := Hid.of (show Go.Lib.indexByte (ds.take (most + 2)) 10 = (i : Int) by rw [ixb_fnl, hf])
        rw [HX.out] at HI
        have hil := fnl_lt hf
        rw [List.length_take, ← HN.out] at hil
        have hin : i < n := by omega
        have him : i < most + 2 := by omega
        clear hil
        have hic : (i : Int) ≤ (c : Int) := by omega
        have hS2 := HSb.out.take i (by rw [← HN.out]; omega)
        have HTS := Hid.of (fun (w2 : World) (hu : Up w w2) (x : Nat) (hx : Sb w2 (.slice (some ⟨x, 0, none⟩) 1 1) [13]) => bTrimSuffix_walk x w2 (hS2.up hu) hx)
        clear hS2
        have kc := fun (w : World) (C : Array Value) (n c : Nat) => Go.Lib.run_convert_bytes_const (P := Tryz.prog) w 22 5 C n c Tryz.underlying22 Tryz.underlying5
        go_wp2_with fail
        refine HI.out.mono ?_
        rintro e w9 ⟨rfl, h9⟩
        obtain rfl := h9.symm
        clear h9
        dsimp only
        go_wp2_with fail
        refine (HTS.out _ ((Up.refl w).alloc _) w.heap.size (sb_mk w 13)).mono ?_
        rintro e w9 ⟨rfl, h9⟩
        have HU9 := Hid.of (show Up w w9 by rw [h9]; exact (Up.refl w).alloc _)
        clear h9
        dsimp only
        obtain ⟨k, hk⟩ : ∃ k, (tcr (ds.take i)).length = k := ⟨_, rfl⟩
        rw [hk]
        by_cases hkm : most < k
        · have zkm : (most : Int) < (k : Int) := by omega
          have HE := Hid.of (show clR ad a c (cutL most ds) = clR ad a c (.error 1) by unfold cutL; rw [hf]; dsimp only; rw [if_pos (by rw [hk]; exact hkm)])
          clear hk
          go_wp2
          refine wp_region_held_drew (S := fun w2 => GE w2 ad ∧ Up w w2) (by kernel_rfl) ⟨HG.out.up HU9.out.drew, HU9.out.drew⟩ (fun hS => ?_)
          refine wpAnyH_take (i := 0) (oi := { dst := some 39, op := Go.Op.load 106 (Go.Operand.global 2), type := 106, pos := "head.go:24", after := #[{ on := 2, ground := Go.Ground.gcOnly Go.Departure.lateStores }], guard := none }) (v := ev (ad 1)) rfl (by kernel_rfl) (by kernel_rfl) (by kernel_rfl) (fun _ _ _ h => h) (Or.inl ⟨by kernel_rfl, ?_⟩) hS ?_
          · intro w5 hSw
            have hgl : w5.cell? ⟨2, 0, none⟩ = _ := hSw.1.gl 1 (by decide)
            clear hSw hS
            go_simp
          simp only [Act.put, List.setIfInBounds_toArray, List.set_cons_zero, List.set_cons_succ]
          refine wpAnyH_take (i := 1) (oi := { dst := some 4, op := Go.Op.assign (Go.Operand.const (Go.Value.slice none 0 0)), type := 22, pos := "head.go:24", after := #[{ on := 0, ground := Go.Ground.textOnly Go.Departure.lateStores }], guard := none }) (v := .slice none 0 0) rfl (by kernel_rfl) (by kernel_rfl) (by kernel_rfl) (fun _ _ _ h => h) (Or.inl ⟨by kernel_rfl, ?_⟩) hS ?_
          · intro w5 hSw
            clear hSw hS
            go_simp
          simp only [Act.put, List.setIfInBounds_toArray, List.set_cons_zero, List.set_cons_succ]
          refine wpAnyH_take (i := 2) (oi := { dst := some 5, op := Go.Op.assign (Go.Operand.const (Go.Value.int Go.IntKind.i64 0)), type := 3, pos := "head.go:24", after := #[{ on := 1, ground := Go.Ground.chain }, { on := 0, ground := Go.Ground.textOnly Go.Departure.lateStores }, { on := 1, ground := Go.Ground.phase }], guard := none }) (v := .int .i64 0) rfl (by kernel_rfl) (by kernel_rfl) (by kernel_rfl) (fun _ _ _ h => h) (Or.inl ⟨by kernel_rfl, ?_⟩) hS ?_
          · intro w5 hSw
            clear hSw hS
            go_simp
          simp only [Act.put, List.setIfInBounds_toArray, List.set_cons_zero, List.set_cons_succ]
          refine wpAnyH_take (i := 3) (oi := { dst := some 6, op := Go.Op.assign (Go.Operand.tmp 39), type := 106, pos := "head.go:24", after := #[{ on := 0, ground := Go.Ground.data }, { on := 2, ground := Go.Ground.chain }, { on := 0, ground := Go.Ground.phase }, { on := 1, ground := Go.Ground.phase }, { on := 2, ground := Go.Ground.phase }], guard := none }) (v := ev (ad 1)) rfl (by kernel_rfl) (by kernel_rfl) (by kernel_rfl) (fun _ _ _ h => h) (Or.inl ⟨by kernel_rfl, ?_⟩) hS ?_
          · intro w5 hSw
            clear hSw hS
            go_simp
          simp only [Act.put, List.setIfInBounds_toArray, List.set_cons_zero, List.set_cons_succ]
          refine wpAnyH_done (by kernel_rfl) ?_ _
          have HS2 := Hid.of hS.2
          clear hS
          go_wp2
          go_ret3
          rw [HE.out]
          exact ⟨rfl, HS2.out⟩
        · have zkm : ¬ (most : Int) < (k : Int) := by omega
          have HE := Hid.of (show clR ad a c (cutL most ds) = .tuple #[.slice a k c, .int .i64 ((i + 1 : Nat) : Int), .nilIface] by unfold cutL; rw [hf]; dsimp only; rw [if_neg (by rw [hk]; exact hkm), ← hk]; rfl)
          clear hk
          go_wp2
          go_ret3
          rw [HE.out]
          exact ⟨by first | rfl | simp, HU9.out⟩
    · have hlez : ¬ (n : Int) ≤ (most : Int) + 2 := by omega
      have hnz : (most : Int) + 2 ≤ (c : Int) := by omega
      have hm : Sb w (.slice a (most + 2) c) (ds.take (most + 2)) := HSb.out.take (most + 2) (by rw [← HN.out]; omega)
      have HI := Hid.of (bIndex_walk 10 w hm)
      cases hf : fnl (ds.take (most + 2)) with
      | none =>
        have HX := Hid.of (show Go.Lib.indexByte (ds.take (most + 2)) 10 = -1 by rw [ixb_fnl, hf])
        rw [HX.out] at HI
        have HE := Hid.of (show clR ad a c (cutL most ds) = clR ad a c (.error 1) by unfold cutL; rw [hf]; dsimp only; rw [if_neg (by rw [← HN.out]; omega)])
        go_wp2_with fail
        refine HI.out.mono ?_
        rintro e w9 ⟨rfl, h9⟩
        obtain rfl := h9.symm
        clear h9
        dsimp only
        go_wp2
        refine wp_region_held_drew (S := fun w2 => GE w2 ad ∧ Up w w2) (by kernel_rfl) ⟨HG.out.up (Up.refl w).drew, (Up.refl w).drew⟩ (fun hS => ?_)
        refine wpAnyH_take (i := 0) (oi := { dst := some 28, op := Go.Op.load 106 (Go.Operand.global 2), type := 106, pos := "head.go:20", after := #[{ on := 2, ground := Go.Ground.gcOnly Go.Departure.lateStores }], guard := none }) (v := ev (ad 1)) rfl (by kernel_rfl) (by kernel_rfl) (by kernel_rfl) (fun _ _ _ h => h) (Or.inl ⟨by kernel_rfl, ?_⟩) hS ?_
        · intro w5 hSw
          have hgl : w5.cell? ⟨2, 0, none⟩ = _ := hSw.1.gl 1 (by decide)
          clear hSw hS
          go_simp
        simp only [Act.put, List.setIfInBounds_toArray, List.set_cons_zero, List.set_cons_succ]
        refine wpAnyH_take (i := 1) (oi := { dst := some 4, op := Go.Op.assign (Go.Operand.const (Go.Value.slice none 0 0)), type := 22, pos := "head.go:20", after := #[{ on := 0, ground := Go.Ground.textOnly Go.Departure.lateStores }], guard := none }) (v := .slice none 0 0) rfl (by kernel_rfl) (by kernel_rfl) (by kernel_rfl) (fun _ _ _ h => h) (Or.inl ⟨by kernel_rfl, ?_⟩) hS ?_
        · intro w5 hSw
          clear hSw hS
          go_simp
        simp only [Act.put, List.setIfInBounds_toArray, List.set_cons_zero, List.set_cons_succ]
        refine wpAnyH_take (i := 2) (oi := { dst := some 5, op := Go.Op.assign (Go.Operand.const (Go.Value.int Go.IntKind.i64 0)), type := 3, pos := "head.go:20", after := #[{ on := 1, ground := Go.Ground.chain }, { on := 0, ground := Go.Ground.textOnly Go.Departure.lateStores }, { on := 1, ground := Go.Ground.phase }], guard := none }) (v := .int .i64 0) rfl (by kernel_rfl) (by kernel_rfl) (by kernel_rfl) (fun _ _ _ h => h) (Or.inl ⟨by kernel_rfl, ?_⟩) hS ?_
        · intro w5 hSw
          clear hSw hS
          go_simp
        simp only [Act.put, List.setIfInBounds_toArray, List.set_cons_zero, List.set_cons_succ]
        refine wpAnyH_take (i := 3) (oi := { dst := some 6, op := Go.Op.assign (Go.Operand.tmp 28), type := 106, pos := "head.go:20", after := #[{ on := 0, ground := Go.Ground.data }, { on := 2, ground := Go.Ground.chain }, { on := 0, ground := Go.Ground.phase }, { on := 1, ground := Go.Ground.phase }, { on := 2, ground := Go.Ground.phase }], guard := none }) (v := ev (ad 1)) rfl (by kernel_rfl) (by kernel_rfl) (by kernel_rfl) (fun _ _ _ h => h) (Or.inl ⟨by kernel_rfl, ?_⟩) hS ?_
        · intro w5 hSw
          clear hSw hS
          go_simp
        simp only [Act.put, List.setIfInBounds_toArray, List.set_cons_zero, List.set_cons_succ]
        refine wpAnyH_done (by kernel_rfl) ?_ _
        have HS2 := Hid.of hS.2
        clear hS
        go_wp2
        go_ret3
        rw [HE.out]
        exact ⟨rfl, HS2.out⟩
      | some i =>
        have HX := Hid.of (show Go.Lib.indexByte (ds.take (most + 2)) 10 = (i : Int) by rw [ixb_fnl, hf])
        rw [HX.out] at HI
        have hil := fnl_lt hf
        rw [List.length_take, ← HN.out] at hil
        have hin : i < n := by omega
        have him : i < most + 2 := by omega
        clear hil
        have hic : (i : Int) ≤ (c : Int) := by omega
        have hS2 := HSb.out.take i (by rw [← HN.out]; omega)
        have HTS := Hid.of (fun (w2 : World) (hu : Up w w2) (x : Nat) (hx : Sb w2 (.slice (some ⟨x, 0, none⟩) 1 1) [13]) => bTrimSuffix_walk x w2 (hS2.up hu) hx)
        clear hS2
        have kc := fun (w : World) (C : Array Value) (n c : Nat) => Go.Lib.run_convert_bytes_const (P := Tryz.prog) w 22 5 C n c Tryz.underlying22 Tryz.underlying5
        go_wp2_with fail
        refine HI.out.mono ?_
        rintro e w9 ⟨rfl, h9⟩
        obtain rfl := h9.symm
        clear h9
        dsimp only
        go_wp2_with fail
        refine (HTS.out _ ((Up.refl w).alloc _) w.heap.size (sb_mk w 13)).mono ?_
        rintro e w9 ⟨rfl, h9⟩
        have HU9 := Hid.of (show Up w w9 by rw [h9]; exact (Up.refl w).alloc _)
        clear h9
        dsimp only
        obtain ⟨k, hk⟩ : ∃ k, (tcr (ds.take i)).length = k := ⟨_, rfl⟩
        rw [hk]
        by_cases hkm : most < k
        · have zkm : (most : Int) < (k : Int) := by omega
          have HE := Hid.of (show clR ad a c (cutL most ds) = clR ad a c (.error 1) by unfold cutL; rw [hf]; dsimp only; rw [if_pos (by rw [hk]; exact hkm)])
          clear hk
          go_wp2
          refine wp_region_held_drew (S := fun w2 => GE w2 ad ∧ Up w w2) (by kernel_rfl) ⟨HG.out.up HU9.out.drew, HU9.out.drew⟩ (fun hS => ?_)
          refine wpAnyH_take (i := 0) (oi := { dst := some 39, op := Go.Op.load 106 (Go.Operand.global 2), type := 106, pos := "head.go:24", after := #[{ on := 2, ground := Go.Ground.gcOnly Go.Departure.lateStores }], guard := none }) (v := ev (ad 1)) rfl (by kernel_rfl) (by kernel_rfl) (by kernel_rfl) (fun _ _ _ h => h) (Or.inl ⟨by kernel_rfl, ?_⟩) hS ?_
          · intro w5 hSw
            have hgl : w5.cell? ⟨2, 0, none⟩ = _ := hSw.1.gl 1 (by decide)
            clear hSw hS
            go_simp
          simp only [Act.put, List.setIfInBounds_toArray, List.set_cons_zero, List.set_cons_succ]
          refine wpAnyH_take (i := 1) (oi := { dst := some 4, op := Go.Op.assign (Go.Operand.const (Go.Value.slice none 0 0)), type := 22, pos := "head.go:24", after := #[{ on := 0, ground := Go.Ground.textOnly Go.Departure.lateStores }], guard := none }) (v := .slice none 0 0) rfl (by kernel_rfl) (by kernel_rfl) (by kernel_rfl) (fun _ _ _ h => h) (Or.inl ⟨by kernel_rfl, ?_⟩) hS ?_
          · intro w5 hSw
            clear hSw hS
            go_simp
          simp only [Act.put, List.setIfInBounds_toArray, List.set_cons_zero, List.set_cons_succ]
          refine wpAnyH_take (i := 2) (oi := { dst := some 5, op := Go.Op.assign (Go.Operand.const (Go.Value.int Go.IntKind.i64 0)), type := 3, pos := "head.go:24", after := #[{ on := 1, ground := Go.Ground.chain }, { on := 0, ground := Go.Ground.textOnly Go.Departure.lateStores }, { on := 1, ground := Go.Ground.phase }], guard := none }) (v := .int .i64 0) rfl (by kernel_rfl) (by kernel_rfl) (by kernel_rfl) (fun _ _ _ h => h) (Or.inl ⟨by kernel_rfl, ?_⟩) hS ?_
          · intro w5 hSw
            clear hSw hS
            go_simp
          simp only [Act.put, List.setIfInBounds_toArray, List.set_cons_zero, List.set_cons_succ]
          refine wpAnyH_take (i := 3) (oi := { dst := some 6, op := Go.Op.assign (Go.Operand.tmp 39), type := 106, pos := "head.go:24", after := #[{ on := 0, ground := Go.Ground.data }, { on := 2, ground := Go.Ground.chain }, { on := 0, ground := Go.Ground.phase }, { on := 1, ground := Go.Ground.phase }, { on := 2, ground := Go.Ground.phase }], guard := none }) (v := ev (ad 1)) rfl (by kernel_rfl) (by kernel_rfl) (by kernel_rfl) (fun _ _ _ h => h) (Or.inl ⟨by kernel_rfl, ?_⟩) hS ?_
          · intro w5 hSw
            clear hSw hS
            go_simp
          simp only [Act.put, List.setIfInBounds_toArray, List.set_cons_zero, List.set_cons_succ]
          refine wpAnyH_done (by kernel_rfl) ?_ _
          have HS2 := Hid.of hS.2
          clear hS
          go_wp2
          go_ret3
          rw [HE.out]
          exact ⟨rfl, HS2.out⟩
        · have zkm : ¬ (most : Int) < (k : Int) := by omega
          have HE := Hid.of (show clR ad a c (cutL most ds) = .tuple #[.slice a k c, .int .i64 ((i + 1 : Nat) : Int), .nilIface] by unfold cutL; rw [hf]; dsimp only; rw [if_neg (by rw [hk]; exact hkm), ← hk]; rfl)
          clear hk
          go_wp2
          go_ret3
          rw [HE.out]
          exact ⟨by first | rfl | simp, HU9.out⟩
end Go.Proofs.YtabpgpbcnadgcaaGreatDoor
