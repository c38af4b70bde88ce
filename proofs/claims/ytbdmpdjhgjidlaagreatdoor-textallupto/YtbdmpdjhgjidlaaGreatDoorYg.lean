import Derived.Test.YtbdmpdjhgjidlaaGreatDoorYf
import Derived.Test.YtbdmpdjhgjidlaaGreatDoorZa
import Derived.Test.YtbdmpdjhgjidlaaGreatDoorHe
import Derived.Test.YtbdmpdjhgjidlaaGreatDoorRd6
import Derived.Test.YtbdmpdjhgjidlaaGreatDoorNu
import Derived.Test.YtbdmpdjhgjidlaaGreatDoorNp
import Derived.Test.YtbdmpdjhgjidlaaGreatDoorRn
import Derived.Test.YtbdmpdjhgjidlaaGreatDoorRm
import Derived.Test.YtbdmpdjhgjidlaaGreatDoorPl
import Derived.Test.YtbdmpdjhgjidlaaGreatDoorRp
import Derived.Test.YtbdmpdjhgjidlaaGreatDoorQq
import Derived.Test.YtbdmpdjhgjidlaaGreatDoorRq
import Derived.Deep.MidRow
import Derived.Deep.RegionHeld3
namespace Go.Proofs.YtbdmpdjhgjidlaaGreatDoor
open Go.RowKit Go.Shelf TextNum
theorem OB.drew {w : World} {p : Nat} {k : Int} {s : ByteArray} {b : Value} {n m : Int} (h : OB w p k s b n m) : OB w.drew p k s b n m := ⟨h.rk, h.rs, h.rb, h.rn, h.rm⟩
/-- what the calls ask of the variables -/
structure GZ (w : World) : Prop where
  dt : TabD w
  lt : TabL w
  gn : GN w
theorem GZ.up {w w' : World} (h : GZ w) (g : Up w w') : GZ w' := ⟨h.dt.up g, h.lt.up g, h.gn.up g⟩

set_option maxRecDepth 100000 in
set_option maxHeartbeats 1000000 in
theorem plays_b64 (s : ByteArray) (b : Value) (l : List UInt8) (n m : Int) (w : World) (hG : GZ w) (hb : Sl w b l) (hl : l.length ≤ 1099511627776) (hn0 : -9223372036854775808 ≤ n) (hn1 : n ≤ 9223372036854775807) :
    Calls Tryz.prog 6 #[.agg (opc 1 s b n m).toArray] w fun e w' => e = .returned (.bool true) ∧ Up w w' := by
  have HO := Hid.of (And.intro (ob_new w 1 s b n m 30) ((Up.refl w).alloc (.cells #[.int .i64 1, .string s, b, .int .i64 n, .int .i64 m] 30)))
  have HG := Hid.of (And.intro hG (And.intro hb (And.intro hl (And.intro hn0 hn1))))
  clear hG hb hl hn0 hn1
  obtain ⟨z, hz⟩ : ∃ z : ByteArray, vs (b64E l) = .string z := ⟨_, rfl⟩
  unfold opc
  go_enter Tryz.func6, Tryz.ntmps6
  go_wp2_with fail
  refine wp_region_held_drew (S := fun w2 => OB w2 w.heap.size 1 s b n m ∧ Up w w2) (by kernel_rfl) ⟨HO.out.1.drew, HO.out.2.drew⟩ (fun hS => ?_)
  clear HO
  refine wpAnyH_take (i := 0) (oi := { dst := some 11, op := Go.Op.fieldAddr 30 (Go.Operand.tmp 1) 2, type := 0, pos := "law.go:126", after := #[], guard := none }) (v := .pointer (some ⟨w.heap.size, 2, none⟩)) rfl (by kernel_rfl) (by kernel_rfl) (by kernel_rfl) (fun _ _ _ h => h) (Or.inl ⟨by kernel_rfl, ?_⟩) hS ?_
  · intro w5 hSw
    clear hSw hS
    go_simp
  simp only [Act.put, List.setIfInBounds_toArray, List.set_cons_zero, List.set_cons_succ]
  refine wpAnyH_take (i := 1) (oi := { dst := some 12, op := Go.Op.load 23 (Go.Operand.tmp 11), type := 23, pos := "law.go:126", after := #[{ on := 0, ground := Go.Ground.data }], guard := none }) (v := b) rfl (by kernel_rfl) (by kernel_rfl) (by kernel_rfl) (fun _ _ _ h => h) (Or.inl ⟨by kernel_rfl, ?_⟩) hS ?_
  · intro w5 hSw
    have h1 := hSw.1.rb
    clear hSw
    go_simp
  simp only [Act.put, List.setIfInBounds_toArray, List.set_cons_zero, List.set_cons_succ]
  refine wpAnyH_take (i := 3) (oi := { dst := some 14, op := Go.Op.fieldAddr 30 (Go.Operand.tmp 1) 2, type := 0, pos := "law.go:126", after := #[], guard := none }) (v := .pointer (some ⟨w.heap.size, 2, none⟩)) rfl (by kernel_rfl) (by kernel_rfl) (by kernel_rfl) (fun _ _ _ h => h) (Or.inl ⟨by kernel_rfl, ?_⟩) hS ?_
  · intro w5 hSw
    clear hSw hS
    go_simp
  simp only [Act.put, List.setIfInBounds_toArray, List.set_cons_zero, List.set_cons_succ]
  refine wpAnyH_take (i := 4) (oi := { dst := some 15, op := Go.Op.load 23 (Go.Operand.tmp 14), type := 23, pos := "law.go:126", after := #[{ on := 3, ground := Go.Ground.data }], guard := none }) (v := b) rfl (by kernel_rfl) (by kernel_rfl) (by kernel_rfl) (fun _ _ _ h => h) (Or.inl ⟨by kernel_rfl, ?_⟩) hS ?_
  · intro w5 hSw
    have h1 := hSw.1.rb
    clear hSw
    go_simp
  simp only [Act.put, List.setIfInBounds_toArray, List.set_cons_zero, List.set_cons_succ]
  refine wpAnyH_ready (rs := [2]) (by kernel_rfl) (by simp) ?_
  refine AllReadyH.cons (o := { dst := some 13, op := Go.Op.call { callee := Go.Callee.value (Go.Operand.func 10), args := #[Go.Operand.tmp 12], argTypes := #[23] }, type := 9, pos := "law.go:126", after := #[{ on := 1, ground := Go.Ground.data }], guard := none }) rfl (fun K hK => ?_) AllReadyH.nil
  rw [if_pos (by kernel_rfl)]
  go_simp
  refine (REncode64_walk b l _ (HG.out.2.1.up hS.2) (by have := HG.out.2.2.1; omega)).mono ?_
  rintro e w2 ⟨rfl, u⟩
  rw [hz]
  dsimp only
  have hS2 := (show OB w2 w.heap.size 1 s b n m ∧ Up w w2 from ⟨hS.1.up u, hS.2.trans u⟩)
  clear hS u
  refine hK.out _ _ hS2 (fun hS => ?_)
  clear hK hS2 K
  refine wpAnyH_ready (rs := [5]) (by kernel_rfl) (by simp) ?_
  refine AllReadyH.cons (o := { dst := some 16, op := Go.Op.call { callee := Go.Callee.value (Go.Operand.func 11), args := #[Go.Operand.tmp 15], argTypes := #[23] }, type := 9, pos := "law.go:126", after := #[{ on := 4, ground := Go.Ground.data }, { on := 2, ground := Go.Ground.chain }], guard := none }) rfl (fun K hK => ?_) AllReadyH.nil
  rw [if_pos (by kernel_rfl)]
  go_simp
  refine (EncodeBase64_walk b l _ (HG.out.1.lt.up hS.2) (HG.out.2.1.up hS.2) (by have := HG.out.2.2.1; omega)).mono ?_
  rintro e w2 ⟨rfl, u⟩
  rw [hz]
  dsimp only
  have hS2 := (show OB w2 w.heap.size 1 s b n m ∧ Up w w2 from ⟨hS.1.up u, hS.2.trans u⟩)
  clear hS u
  refine hK.out _ _ hS2 (fun hS => ?_)
  clear hK hS2 K
  refine wpAnyH_take (i := 6) (oi := { dst := some 17, op := Go.Op.binOp Go.BinOp.eql 9 (Go.Operand.tmp 13) (Go.Operand.tmp 16) 9, type := 4, pos := "law.go:126", after := #[{ on := 2, ground := Go.Ground.data }, { on := 5, ground := Go.Ground.data }], guard := none }) (v := .bool true) rfl (by kernel_rfl) (by kernel_rfl) (by kernel_rfl) (fun _ _ _ h => h) (Or.inl ⟨by kernel_rfl, ?_⟩) hS ?_
  · intro w5 hSw
    clear hSw hS
    go_simp
  simp only [Act.put, List.setIfInBounds_toArray, List.set_cons_zero, List.set_cons_succ]
  refine wpAnyH_take (i := 7) (oi := { dst := some 2, op := Go.Op.assign (Go.Operand.tmp 17), type := 4, pos := "law.go:126", after := #[{ on := 6, ground := Go.Ground.data }, { on := 5, ground := Go.Ground.chain }, { on := 0, ground := Go.Ground.phase }, { on := 1, ground := Go.Ground.phase }, { on := 2, ground := Go.Ground.phase }, { on := 3, ground := Go.Ground.phase }, { on := 4, ground := Go.Ground.phase }, { on := 5, ground := Go.Ground.phase }, { on := 6, ground := Go.Ground.phase }], guard := none }) (v := .bool true) rfl (by kernel_rfl) (by kernel_rfl) (by kernel_rfl) (fun _ _ _ h => h) (Or.inl ⟨by kernel_rfl, ?_⟩) hS ?_
  · intro w5 hSw
    clear hSw hS
    go_simp
  simp only [Act.put, List.setIfInBounds_toArray, List.set_cons_zero, List.set_cons_succ]
  have HU := Hid.of hS.2
  clear hS
  refine wpAnyH_done (by kernel_rfl) ?_ _
  go_wp2
  go_ret
  exact ⟨by simp, HU.out⟩

set_option maxRecDepth 100000 in
set_option maxHeartbeats 1000000 in
theorem plays_hex (s : ByteArray) (b : Value) (l : List UInt8) (n m : Int) (w : World) (hG : GZ w) (hb : Sl w b l) (hl : l.length ≤ 1099511627776) (hn0 : -9223372036854775808 ≤ n) (hn1 : n ≤ 9223372036854775807) :
    Calls Tryz.prog 6 #[.agg (opc 3 s b n m).toArray] w fun e w' => e = .returned (.bool true) ∧ Up w w' := by
  have HO := Hid.of (And.intro (ob_new w 3 s b n m 30) ((Up.refl w).alloc (.cells #[.int .i64 3, .string s, b, .int .i64 n, .int .i64 m] 30)))
  have HG := Hid.of (And.intro hG (And.intro hb (And.intro hl (And.intro hn0 hn1))))
  clear hG hb hl hn0 hn1
  obtain ⟨z, hz⟩ : ∃ z : ByteArray, vs (hexE l) = .string z := ⟨_, rfl⟩
  unfold opc
  go_enter Tryz.func6, Tryz.ntmps6
  go_wp2_with fail
  refine wp_region_held_drew (S := fun w2 => OB w2 w.heap.size 3 s b n m ∧ Up w w2) (by kernel_rfl) ⟨HO.out.1.drew, HO.out.2.drew⟩ (fun hS => ?_)
  clear HO
  refine wpAnyH_take (i := 0) (oi := { dst := some 20, op := Go.Op.fieldAddr 30 (Go.Operand.tmp 1) 2, type := 0, pos := "law.go:128", after := #[], guard := none }) (v := .pointer (some ⟨w.heap.size, 2, none⟩)) rfl (by kernel_rfl) (by kernel_rfl) (by kernel_rfl) (fun _ _ _ h => h) (Or.inl ⟨by kernel_rfl, ?_⟩) hS ?_
  · intro w5 hSw
    clear hSw hS
    go_simp
  simp only [Act.put, List.setIfInBounds_toArray, List.set_cons_zero, List.set_cons_succ]
  refine wpAnyH_take (i := 1) (oi := { dst := some 21, op := Go.Op.load 23 (Go.Operand.tmp 20), type := 23, pos := "law.go:128", after := #[{ on := 0, ground := Go.Ground.data }], guard := none }) (v := b) rfl (by kernel_rfl) (by kernel_rfl) (by kernel_rfl) (fun _ _ _ h => h) (Or.inl ⟨by kernel_rfl, ?_⟩) hS ?_
  · intro w5 hSw
    have h1 := hSw.1.rb
    clear hSw
    go_simp
  simp only [Act.put, List.setIfInBounds_toArray, List.set_cons_zero, List.set_cons_succ]
  refine wpAnyH_take (i := 3) (oi := { dst := some 23, op := Go.Op.fieldAddr 30 (Go.Operand.tmp 1) 2, type := 0, pos := "law.go:128", after := #[], guard := none }) (v := .pointer (some ⟨w.heap.size, 2, none⟩)) rfl (by kernel_rfl) (by kernel_rfl) (by kernel_rfl) (fun _ _ _ h => h) (Or.inl ⟨by kernel_rfl, ?_⟩) hS ?_
  · intro w5 hSw
    clear hSw hS
    go_simp
  simp only [Act.put, List.setIfInBounds_toArray, List.set_cons_zero, List.set_cons_succ]
  refine wpAnyH_take (i := 4) (oi := { dst := some 24, op := Go.Op.load 23 (Go.Operand.tmp 23), type := 23, pos := "law.go:128", after := #[{ on := 3, ground := Go.Ground.data }], guard := none }) (v := b) rfl (by kernel_rfl) (by kernel_rfl) (by kernel_rfl) (fun _ _ _ h => h) (Or.inl ⟨by kernel_rfl, ?_⟩) hS ?_
  · intro w5 hSw
    have h1 := hSw.1.rb
    clear hSw
    go_simp
  simp only [Act.put, List.setIfInBounds_toArray, List.set_cons_zero, List.set_cons_succ]
  refine wpAnyH_ready (rs := [2]) (by kernel_rfl) (by simp) ?_
  refine AllReadyH.cons (o := { dst := some 22, op := Go.Op.call { callee := Go.Callee.value (Go.Operand.func 12), args := #[Go.Operand.tmp 21], argTypes := #[23] }, type := 9, pos := "law.go:128", after := #[{ on := 1, ground := Go.Ground.data }], guard := none }) rfl (fun K hK => ?_) AllReadyH.nil
  rw [if_pos (by kernel_rfl)]
  go_simp
  refine (REncodeHex_walk b l _ (HG.out.2.1.up hS.2) (by have := HG.out.2.2.1; omega)).mono ?_
  rintro e w2 ⟨rfl, u⟩
  rw [hz]
  dsimp only
  have hS2 := (show OB w2 w.heap.size 3 s b n m ∧ Up w w2 from ⟨hS.1.up u, hS.2.trans u⟩)
  clear hS u
  refine hK.out _ _ hS2 (fun hS => ?_)
  clear hK hS2 K
  refine wpAnyH_ready (rs := [5]) (by kernel_rfl) (by simp) ?_
  refine AllReadyH.cons (o := { dst := some 25, op := Go.Op.call { callee := Go.Callee.value (Go.Operand.func 13), args := #[Go.Operand.tmp 24], argTypes := #[23] }, type := 9, pos := "law.go:128", after := #[{ on := 4, ground := Go.Ground.data }, { on := 2, ground := Go.Ground.chain }], guard := none }) rfl (fun K hK => ?_) AllReadyH.nil
  rw [if_pos (by kernel_rfl)]
  go_simp
  refine (EncodeHex_walk b l _ (HG.out.1.dt.up hS.2) (HG.out.2.1.up hS.2) (by have := HG.out.2.2.1; omega)).mono ?_
  rintro e w2 ⟨rfl, u⟩
  rw [hz]
  dsimp only
  have hS2 := (show OB w2 w.heap.size 3 s b n m ∧ Up w w2 from ⟨hS.1.up u, hS.2.trans u⟩)
  clear hS u
  refine hK.out _ _ hS2 (fun hS => ?_)
  clear hK hS2 K
  refine wpAnyH_take (i := 6) (oi := { dst := some 26, op := Go.Op.binOp Go.BinOp.eql 9 (Go.Operand.tmp 22) (Go.Operand.tmp 25) 9, type := 4, pos := "law.go:128", after := #[{ on := 2, ground := Go.Ground.data }, { on := 5, ground := Go.Ground.data }], guard := none }) (v := .bool true) rfl (by kernel_rfl) (by kernel_rfl) (by kernel_rfl) (fun _ _ _ h => h) (Or.inl ⟨by kernel_rfl, ?_⟩) hS ?_
  · intro w5 hSw
    clear hSw hS
    go_simp
  simp only [Act.put, List.setIfInBounds_toArray, List.set_cons_zero, List.set_cons_succ]
  refine wpAnyH_take (i := 7) (oi := { dst := some 2, op := Go.Op.assign (Go.Operand.tmp 26), type := 4, pos := "law.go:128", after := #[{ on := 6, ground := Go.Ground.data }, { on := 5, ground := Go.Ground.chain }, { on := 0, ground := Go.Ground.phase }, { on := 1, ground := Go.Ground.phase }, { on := 2, ground := Go.Ground.phase }, { on := 3, ground := Go.Ground.phase }, { on := 4, ground := Go.Ground.phase }, { on := 5, ground := Go.Ground.phase }, { on := 6, ground := Go.Ground.phase }], guard := none }) (v := .bool true) rfl (by kernel_rfl) (by kernel_rfl) (by kernel_rfl) (fun _ _ _ h => h) (Or.inl ⟨by kernel_rfl, ?_⟩) hS ?_
  · intro w5 hSw
    clear hSw hS
    go_simp
  simp only [Act.put, List.setIfInBounds_toArray, List.set_cons_zero, List.set_cons_succ]
  have HU := Hid.of hS.2
  clear hS
  refine wpAnyH_done (by kernel_rfl) ?_ _
  go_wp2
  go_ret
  exact ⟨by simp, HU.out⟩

set_option maxRecDepth 100000 in
set_option maxHeartbeats 1000000 in
theorem plays_fmt (s : ByteArray) (b : Value) (l : List UInt8) (n m : Int) (w : World) (hG : GZ w) (hb : Sl w b l) (hl : l.length ≤ 1099511627776) (hn0 : -9223372036854775808 ≤ n) (hn1 : n ≤ 9223372036854775807) :
    Calls Tryz.prog 6 #[.agg (opc 5 s b n m).toArray] w fun e w' => e = .returned (.bool true) ∧ Up w w' := by
  have HO := Hid.of (And.intro (ob_new w 5 s b n m 30) ((Up.refl w).alloc (.cells #[.int .i64 5, .string s, b, .int .i64 n, .int .i64 m] 30)))
  have HG := Hid.of (And.intro hG (And.intro hb (And.intro hl (And.intro hn0 hn1))))
  clear hG hb hl hn0 hn1
  obtain ⟨z, hz⟩ : ∃ z : ByteArray, vs (Go.Lib.itoa n) = .string z := ⟨_, rfl⟩
  unfold opc
  go_enter Tryz.func6, Tryz.ntmps6
  go_wp2_with fail
  refine wp_region_held_drew (S := fun w2 => OB w2 w.heap.size 5 s b n m ∧ Up w w2) (by kernel_rfl) ⟨HO.out.1.drew, HO.out.2.drew⟩ (fun hS => ?_)
  clear HO
  refine wpAnyH_take (i := 0) (oi := { dst := some 35, op := Go.Op.fieldAddr 30 (Go.Operand.tmp 1) 3, type := 0, pos := "law.go:132", after := #[], guard := none }) (v := .pointer (some ⟨w.heap.size, 3, none⟩)) rfl (by kernel_rfl) (by kernel_rfl) (by kernel_rfl) (fun _ _ _ h => h) (Or.inl ⟨by kernel_rfl, ?_⟩) hS ?_
  · intro w5 hSw
    clear hSw hS
    go_simp
  simp only [Act.put, List.setIfInBounds_toArray, List.set_cons_zero, List.set_cons_succ]
  refine wpAnyH_take (i := 1) (oi := { dst := some 36, op := Go.Op.load 2 (Go.Operand.tmp 35), type := 2, pos := "law.go:132", after := #[{ on := 0, ground := Go.Ground.data }], guard := none }) (v := .int .i64 n) rfl (by kernel_rfl) (by kernel_rfl) (by kernel_rfl) (fun _ _ _ h => h) (Or.inl ⟨by kernel_rfl, ?_⟩) hS ?_
  · intro w5 hSw
    have h1 := hSw.1.rn
    clear hSw
    go_simp
  simp only [Act.put, List.setIfInBounds_toArray, List.set_cons_zero, List.set_cons_succ]
  refine wpAnyH_take (i := 3) (oi := { dst := some 38, op := Go.Op.fieldAddr 30 (Go.Operand.tmp 1) 3, type := 0, pos := "law.go:132", after := #[], guard := none }) (v := .pointer (some ⟨w.heap.size, 3, none⟩)) rfl (by kernel_rfl) (by kernel_rfl) (by kernel_rfl) (fun _ _ _ h => h) (Or.inl ⟨by kernel_rfl, ?_⟩) hS ?_
  · intro w5 hSw
    clear hSw hS
    go_simp
  simp only [Act.put, List.setIfInBounds_toArray, List.set_cons_zero, List.set_cons_succ]
  refine wpAnyH_take (i := 4) (oi := { dst := some 39, op := Go.Op.load 2 (Go.Operand.tmp 38), type := 2, pos := "law.go:132", after := #[{ on := 3, ground := Go.Ground.data }], guard := none }) (v := .int .i64 n) rfl (by kernel_rfl) (by kernel_rfl) (by kernel_rfl) (fun _ _ _ h => h) (Or.inl ⟨by kernel_rfl, ?_⟩) hS ?_
  · intro w5 hSw
    have h1 := hSw.1.rn
    clear hSw
    go_simp
  simp only [Act.put, List.setIfInBounds_toArray, List.set_cons_zero, List.set_cons_succ]
  refine wpAnyH_ready (rs := [2]) (by kernel_rfl) (by simp) ?_
  refine AllReadyH.cons (o := { dst := some 37, op := Go.Op.call { callee := Go.Callee.value (Go.Operand.func 15), args := #[Go.Operand.tmp 36], argTypes := #[2] }, type := 9, pos := "law.go:132", after := #[{ on := 1, ground := Go.Ground.data }], guard := none }) rfl (fun K hK => ?_) AllReadyH.nil
  rw [if_pos (by kernel_rfl)]
  go_simp
  refine (FormatNumber_walk n HG.out.2.2.2.1 HG.out.2.2.2.2 _ (HG.out.1.gn.up hS.2)).mono ?_
  rintro e w2 ⟨rfl, u⟩
  rw [hz]
  dsimp only
  have hS2 := (show OB w2 w.heap.size 5 s b n m ∧ Up w w2 from ⟨hS.1.up u, hS.2.trans u⟩)
  clear hS u
  refine hK.out _ _ hS2 (fun hS => ?_)
  clear hK hS2 K
  refine wpAnyH_ready (rs := [5]) (by kernel_rfl) (by simp) ?_
  refine AllReadyH.cons (o := { dst := some 40, op := Go.Op.call { callee := Go.Callee.value (Go.Operand.func 16), args := #[Go.Operand.tmp 39], argTypes := #[2] }, type := 9, pos := "law.go:132", after := #[{ on := 4, ground := Go.Ground.data }, { on := 2, ground := Go.Ground.chain }], guard := none }) rfl (fun K hK => ?_) AllReadyH.nil
  rw [if_pos (by kernel_rfl)]
  go_simp
  refine (RFormat_walk n HG.out.2.2.2.1 HG.out.2.2.2.2 _).mono ?_
  rintro e w2 ⟨rfl, u⟩
  rw [hz]
  dsimp only
  have hS2 := (show OB w2 w.heap.size 5 s b n m ∧ Up w w2 from ⟨hS.1.up u, hS.2.trans u⟩)
  clear hS u
  refine hK.out _ _ hS2 (fun hS => ?_)
  clear hK hS2 K
  refine wpAnyH_take (i := 6) (oi := { dst := some 41, op := Go.Op.binOp Go.BinOp.eql 9 (Go.Operand.tmp 37) (Go.Operand.tmp 40) 9, type := 4, pos := "law.go:132", after := #[{ on := 2, ground := Go.Ground.data }, { on := 5, ground := Go.Ground.data }], guard := none }) (v := .bool true) rfl (by kernel_rfl) (by kernel_rfl) (by kernel_rfl) (fun _ _ _ h => h) (Or.inl ⟨by kernel_rfl, ?_⟩) hS ?_
  · intro w5 hSw
    clear hSw hS
    go_simp
  simp only [Act.put, List.setIfInBounds_toArray, List.set_cons_zero, List.set_cons_succ]
  refine wpAnyH_take (i := 7) (oi := { dst := some 2, op := Go.Op.assign (Go.Operand.tmp 41), type := 4, pos := "law.go:132", after := #[{ on := 6, ground := Go.Ground.data }, { on := 5, ground := Go.Ground.chain }, { on := 0, ground := Go.Ground.phase }, { on := 1, ground := Go.Ground.phase }, { on := 2, ground := Go.Ground.phase }, { on := 3, ground := Go.Ground.phase }, { on := 4, ground := Go.Ground.phase }, { on := 5, ground := Go.Ground.phase }, { on := 6, ground := Go.Ground.phase }], guard := none }) (v := .bool true) rfl (by kernel_rfl) (by kernel_rfl) (by kernel_rfl) (fun _ _ _ h => h) (Or.inl ⟨by kernel_rfl, ?_⟩) hS ?_
  · intro w5 hSw
    clear hSw hS
    go_simp
  simp only [Act.put, List.setIfInBounds_toArray, List.set_cons_zero, List.set_cons_succ]
  have HU := Hid.of hS.2
  clear hS
  refine wpAnyH_done (by kernel_rfl) ?_ _
  go_wp2
  go_ret
  exact ⟨by simp, HU.out⟩

set_option maxRecDepth 100000 in
set_option maxHeartbeats 1000000 in
theorem plays_pla (s : ByteArray) (b : Value) (l : List UInt8) (n m : Int) (w : World) (hG : GZ w) (hb : Sl w b l) (hl : l.length ≤ 1099511627776) (hn0 : -9223372036854775808 ≤ n) (hn1 : n ≤ 9223372036854775807) :
    Calls Tryz.prog 6 #[.agg (opc 7 s b n m).toArray] w fun e w' => e = .returned (.bool true) ∧ Up w w' := by
  have HO := Hid.of (And.intro (ob_new w 7 s b n m 30) ((Up.refl w).alloc (.cells #[.int .i64 7, .string s, b, .int .i64 n, .int .i64 m] 30)))
  have HG := Hid.of (And.intro hG (And.intro hb (And.intro hl (And.intro hn0 hn1))))
  clear hG hb hl hn0 hn1
  
  unfold opc
  go_enter Tryz.func6, Tryz.ntmps6
  go_wp2_with fail
  refine wp_region_held_drew (S := fun w2 => OB w2 w.heap.size 7 s b n m ∧ Up w w2) (by kernel_rfl) ⟨HO.out.1.drew, HO.out.2.drew⟩ (fun hS => ?_)
  clear HO
  refine wpAnyH_take (i := 0) (oi := { dst := some 70, op := Go.Op.fieldAddr 30 (Go.Operand.tmp 1) 1, type := 0, pos := "law.go:138", after := #[], guard := none }) (v := .pointer (some ⟨w.heap.size, 1, none⟩)) rfl (by kernel_rfl) (by kernel_rfl) (by kernel_rfl) (fun _ _ _ h => h) (Or.inl ⟨by kernel_rfl, ?_⟩) hS ?_
  · intro w5 hSw
    clear hSw hS
    go_simp
  simp only [Act.put, List.setIfInBounds_toArray, List.set_cons_zero, List.set_cons_succ]
  refine wpAnyH_take (i := 1) (oi := { dst := some 71, op := Go.Op.load 9 (Go.Operand.tmp 70), type := 9, pos := "law.go:138", after := #[{ on := 0, ground := Go.Ground.data }], guard := none }) (v := .string s) rfl (by kernel_rfl) (by kernel_rfl) (by kernel_rfl) (fun _ _ _ h => h) (Or.inl ⟨by kernel_rfl, ?_⟩) hS ?_
  · intro w5 hSw
    have h1 := hSw.1.rs
    clear hSw
    go_simp
  simp only [Act.put, List.setIfInBounds_toArray, List.set_cons_zero, List.set_cons_succ]
  refine wpAnyH_take (i := 3) (oi := { dst := some 73, op := Go.Op.fieldAddr 30 (Go.Operand.tmp 1) 1, type := 0, pos := "law.go:138", after := #[], guard := none }) (v := .pointer (some ⟨w.heap.size, 1, none⟩)) rfl (by kernel_rfl) (by kernel_rfl) (by kernel_rfl) (fun _ _ _ h => h) (Or.inl ⟨by kernel_rfl, ?_⟩) hS ?_
  · intro w5 hSw
    clear hSw hS
    go_simp
  simp only [Act.put, List.setIfInBounds_toArray, List.set_cons_zero, List.set_cons_succ]
  refine wpAnyH_take (i := 4) (oi := { dst := some 74, op := Go.Op.load 9 (Go.Operand.tmp 73), type := 9, pos := "law.go:138", after := #[{ on := 3, ground := Go.Ground.data }], guard := none }) (v := .string s) rfl (by kernel_rfl) (by kernel_rfl) (by kernel_rfl) (fun _ _ _ h => h) (Or.inl ⟨by kernel_rfl, ?_⟩) hS ?_
  · intro w5 hSw
    have h1 := hSw.1.rs
    clear hSw
    go_simp
  simp only [Act.put, List.setIfInBounds_toArray, List.set_cons_zero, List.set_cons_succ]
  refine wpAnyH_ready (rs := [2]) (by kernel_rfl) (by simp) ?_
  refine AllReadyH.cons (o := { dst := some 72, op := Go.Op.call { callee := Go.Callee.value (Go.Operand.func 19), args := #[Go.Operand.tmp 71], argTypes := #[9] }, type := 24, pos := "law.go:138", after := #[{ on := 1, ground := Go.Ground.data }], guard := none }) rfl (fun K hK => ?_) AllReadyH.nil
  rw [if_pos (by kernel_rfl)]
  go_simp
  refine (Plain_walk s _).mono ?_
  rintro e w2 ⟨rfl, u⟩
  skip
  dsimp only
  have hS2 := (show OB w2 w.heap.size 7 s b n m ∧ Up w w2 from ⟨hS.1.up u, hS.2.trans u⟩)
  clear hS u
  refine hK.out _ _ hS2 (fun hS => ?_)
  clear hK hS2 K
  refine wpAnyH_ready (rs := [5]) (by kernel_rfl) (by simp) ?_
  refine AllReadyH.cons (o := { dst := some 75, op := Go.Op.call { callee := Go.Callee.value (Go.Operand.func 20), args := #[Go.Operand.tmp 74], argTypes := #[9] }, type := 3, pos := "law.go:138", after := #[{ on := 4, ground := Go.Ground.data }, { on := 2, ground := Go.Ground.chain }], guard := none }) rfl (fun K hK => ?_) AllReadyH.nil
  rw [if_pos (by kernel_rfl)]
  go_simp
  refine (RPlain_walk s _).mono ?_
  rintro e w2 ⟨rfl, u⟩
  skip
  dsimp only
  have hS2 := (show OB w2 w.heap.size 7 s b n m ∧ Up w w2 from (by subst u; exact hS))
  clear hS u
  refine hK.out _ _ hS2 (fun hS => ?_)
  clear hK hS2 K
  refine wpAnyH_take (i := 6) (oi := { dst := some 76, op := Go.Op.binOp Go.BinOp.eql 3 (Go.Operand.tmp 72) (Go.Operand.tmp 75) 3, type := 4, pos := "law.go:138", after := #[{ on := 2, ground := Go.Ground.data }, { on := 5, ground := Go.Ground.data }], guard := none }) (v := .bool true) rfl (by kernel_rfl) (by kernel_rfl) (by kernel_rfl) (fun _ _ _ h => h) (Or.inl ⟨by kernel_rfl, ?_⟩) hS ?_
  · intro w5 hSw
    clear hSw hS
    go_simp
  simp only [Act.put, List.setIfInBounds_toArray, List.set_cons_zero, List.set_cons_succ]
  refine wpAnyH_take (i := 7) (oi := { dst := some 2, op := Go.Op.assign (Go.Operand.tmp 76), type := 4, pos := "law.go:138", after := #[{ on := 6, ground := Go.Ground.data }, { on := 5, ground := Go.Ground.chain }, { on := 0, ground := Go.Ground.phase }, { on := 1, ground := Go.Ground.phase }, { on := 2, ground := Go.Ground.phase }, { on := 3, ground := Go.Ground.phase }, { on := 4, ground := Go.Ground.phase }, { on := 5, ground := Go.Ground.phase }, { on := 6, ground := Go.Ground.phase }], guard := none }) (v := .bool true) rfl (by kernel_rfl) (by kernel_rfl) (by kernel_rfl) (fun _ _ _ h => h) (Or.inl ⟨by kernel_rfl, ?_⟩) hS ?_
  · intro w5 hSw
    clear hSw hS
    go_simp
  simp only [Act.put, List.setIfInBounds_toArray, List.set_cons_zero, List.set_cons_succ]
  have HU := Hid.of hS.2
  clear hS
  refine wpAnyH_done (by kernel_rfl) ?_ _
  go_wp2
  go_ret
  exact ⟨by simp, HU.out⟩

set_option maxRecDepth 100000 in
set_option maxHeartbeats 1000000 in
theorem plays_quo (s : ByteArray) (b : Value) (l : List UInt8) (n m : Int) (w : World) (hG : GZ w) (hb : Sl w b l) (hl : l.length ≤ 1099511627776) (hn0 : -9223372036854775808 ≤ n) (hn1 : n ≤ 9223372036854775807) :
    Calls Tryz.prog 6 #[.agg (opc 11 s b n m).toArray] w fun e w' => e = .returned (.bool true) ∧ Up w w' := by
  have HO := Hid.of (And.intro (ob_new w 11 s b n m 30) ((Up.refl w).alloc (.cells #[.int .i64 11, .string s, b, .int .i64 n, .int .i64 m] 30)))
  have HG := Hid.of (And.intro hG (And.intro hb (And.intro hl (And.intro hn0 hn1))))
  clear hG hb hl hn0 hn1
  obtain ⟨z, hz⟩ : ∃ z : ByteArray, vs (quo l) = .string z := ⟨_, rfl⟩
  unfold opc
  go_enter Tryz.func6, Tryz.ntmps6
  go_wp2_with fail
  refine wp_region_held_drew (S := fun w2 => OB w2 w.heap.size 11 s b n m ∧ Up w w2) (by kernel_rfl) ⟨HO.out.1.drew, HO.out.2.drew⟩ (fun hS => ?_)
  clear HO
  refine wpAnyH_take (i := 0) (oi := { dst := some 85, op := Go.Op.fieldAddr 30 (Go.Operand.tmp 1) 2, type := 0, pos := "law.go:142", after := #[], guard := none }) (v := .pointer (some ⟨w.heap.size, 2, none⟩)) rfl (by kernel_rfl) (by kernel_rfl) (by kernel_rfl) (fun _ _ _ h => h) (Or.inl ⟨by kernel_rfl, ?_⟩) hS ?_
  · intro w5 hSw
    clear hSw hS
    go_simp
  simp only [Act.put, List.setIfInBounds_toArray, List.set_cons_zero, List.set_cons_succ]
  refine wpAnyH_take (i := 1) (oi := { dst := some 86, op := Go.Op.load 23 (Go.Operand.tmp 85), type := 23, pos := "law.go:142", after := #[{ on := 0, ground := Go.Ground.data }], guard := none }) (v := b) rfl (by kernel_rfl) (by kernel_rfl) (by kernel_rfl) (fun _ _ _ h => h) (Or.inl ⟨by kernel_rfl, ?_⟩) hS ?_
  · intro w5 hSw
    have h1 := hSw.1.rb
    clear hSw
    go_simp
  simp only [Act.put, List.setIfInBounds_toArray, List.set_cons_zero, List.set_cons_succ]
  refine wpAnyH_take (i := 3) (oi := { dst := some 88, op := Go.Op.fieldAddr 30 (Go.Operand.tmp 1) 2, type := 0, pos := "law.go:142", after := #[], guard := none }) (v := .pointer (some ⟨w.heap.size, 2, none⟩)) rfl (by kernel_rfl) (by kernel_rfl) (by kernel_rfl) (fun _ _ _ h => h) (Or.inl ⟨by kernel_rfl, ?_⟩) hS ?_
  · intro w5 hSw
    clear hSw hS
    go_simp
  simp only [Act.put, List.setIfInBounds_toArray, List.set_cons_zero, List.set_cons_succ]
  refine wpAnyH_take (i := 4) (oi := { dst := some 89, op := Go.Op.load 23 (Go.Operand.tmp 88), type := 23, pos := "law.go:142", after := #[{ on := 3, ground := Go.Ground.data }], guard := none }) (v := b) rfl (by kernel_rfl) (by kernel_rfl) (by kernel_rfl) (fun _ _ _ h => h) (Or.inl ⟨by kernel_rfl, ?_⟩) hS ?_
  · intro w5 hSw
    have h1 := hSw.1.rb
    clear hSw
    go_simp
  simp only [Act.put, List.setIfInBounds_toArray, List.set_cons_zero, List.set_cons_succ]
  refine wpAnyH_ready (rs := [2]) (by kernel_rfl) (by simp) ?_
  refine AllReadyH.cons (o := { dst := some 87, op := Go.Op.call { callee := Go.Callee.value (Go.Operand.func 22), args := #[Go.Operand.tmp 86], argTypes := #[23] }, type := 9, pos := "law.go:142", after := #[{ on := 1, ground := Go.Ground.data }], guard := none }) rfl (fun K hK => ?_) AllReadyH.nil
  rw [if_pos (by kernel_rfl)]
  go_simp
  refine (RQuote_walk b l _ (HG.out.2.1.up hS.2) (by have := HG.out.2.2.1; omega)).mono ?_
  rintro e w2 ⟨rfl, u⟩
  rw [hz]
  dsimp only
  have hS2 := (show OB w2 w.heap.size 11 s b n m ∧ Up w w2 from ⟨hS.1.up u, hS.2.trans u⟩)
  clear hS u
  refine hK.out _ _ hS2 (fun hS => ?_)
  clear hK hS2 K
  refine wpAnyH_ready (rs := [5]) (by kernel_rfl) (by simp) ?_
  refine AllReadyH.cons (o := { dst := some 90, op := Go.Op.call { callee := Go.Callee.value (Go.Operand.func 23), args := #[Go.Operand.tmp 89], argTypes := #[23] }, type := 9, pos := "law.go:142", after := #[{ on := 4, ground := Go.Ground.data }, { on := 2, ground := Go.Ground.chain }], guard := none }) rfl (fun K hK => ?_) AllReadyH.nil
  rw [if_pos (by kernel_rfl)]
  go_simp
  refine (Quote_walk b l _ (HG.out.1.dt.up hS.2) (HG.out.2.1.up hS.2) (by have := HG.out.2.2.1; omega)).mono ?_
  rintro e w2 ⟨rfl, u⟩
  rw [hz]
  dsimp only
  have hS2 := (show OB w2 w.heap.size 11 s b n m ∧ Up w w2 from ⟨hS.1.up u, hS.2.trans u⟩)
  clear hS u
  refine hK.out _ _ hS2 (fun hS => ?_)
  clear hK hS2 K
  refine wpAnyH_take (i := 6) (oi := { dst := some 91, op := Go.Op.binOp Go.BinOp.eql 9 (Go.Operand.tmp 87) (Go.Operand.tmp 90) 9, type := 4, pos := "law.go:142", after := #[{ on := 2, ground := Go.Ground.data }, { on := 5, ground := Go.Ground.data }], guard := none }) (v := .bool true) rfl (by kernel_rfl) (by kernel_rfl) (by kernel_rfl) (fun _ _ _ h => h) (Or.inl ⟨by kernel_rfl, ?_⟩) hS ?_
  · intro w5 hSw
    clear hSw hS
    go_simp
  simp only [Act.put, List.setIfInBounds_toArray, List.set_cons_zero, List.set_cons_succ]
  refine wpAnyH_take (i := 7) (oi := { dst := some 2, op := Go.Op.assign (Go.Operand.tmp 91), type := 4, pos := "law.go:142", after := #[{ on := 6, ground := Go.Ground.data }, { on := 5, ground := Go.Ground.chain }, { on := 0, ground := Go.Ground.phase }, { on := 1, ground := Go.Ground.phase }, { on := 2, ground := Go.Ground.phase }, { on := 3, ground := Go.Ground.phase }, { on := 4, ground := Go.Ground.phase }, { on := 5, ground := Go.Ground.phase }, { on := 6, ground := Go.Ground.phase }], guard := none }) (v := .bool true) rfl (by kernel_rfl) (by kernel_rfl) (by kernel_rfl) (fun _ _ _ h => h) (Or.inl ⟨by kernel_rfl, ?_⟩) hS ?_
  · intro w5 hSw
    clear hSw hS
    go_simp
  simp only [Act.put, List.setIfInBounds_toArray, List.set_cons_zero, List.set_cons_succ]
  have HU := Hid.of hS.2
  clear hS
  refine wpAnyH_done (by kernel_rfl) ?_ _
  go_wp2
  go_ret
  exact ⟨by simp, HU.out⟩
end Go.Proofs.YtbdmpdjhgjidlaaGreatDoor
