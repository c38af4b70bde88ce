import Derived.Test.YtkaoalcffgnfeaaGreatDoorJc
import Derived.Test.YtkaoalcffgnfeaaGreatDoorJd
namespace Go.Proofs.YtkaoalcffgnfeaaGreatDoor
open Go.RowKit Go.Shelf TextNum
theorem grown_set1 (W : World) (b o : Nat) (v : Value) : W.grownBy (W.setCell ⟨b, o, none⟩ v) (some b) :=
  ⟨rfl, rfl, rfl, (KeepsWalks.setCell W _ v).size, fun k _ hk => Below.heap_setCell _ _ _ k (fun e => hk (by rw [e]))⟩
set_option maxRecDepth 100000 in
set_option maxHeartbeats 8000000 in
theorem request_walk (m t : ByteArray) (mi : Int) (an : Option Addr) (ns : List ByteArray) (cn : Nat) (av : Option Addr) (us : List ByteArray) (cv : Nat) (ab : Option Addr) (nb cb' : Nat) (bd : List UInt8) (pad : Int) (w : World) (hN : StL w an ns cn) (hV : StL w av us cv) (hB : Sb w (.slice ab nb cb') bd) (hnl : ns.length ≤ 1048576) (hbl : bd.length ≤ 1048576) :
    Calls Tryz.prog 13 #[.agg #[.string m, .string t, .int .i64 mi, .slice an ns.length cn, .slice av us.length cv, .slice ab nb cb', .int .i64 pad]] w fun e w' => (∃ a c v, e = .returned (.agg #[.string m, .string t, .int .i64 mi, .slice a ns.length c, v, .bool false]) ∧ Hid (FdO w' w.heap.size a (mkF ns us) c ∧ Ow w' w.heap.size v (pdd bd pad))) ∧ Up w w' := by
  have HN := Hid.of hN
  have HV := Hid.of hV
  have HB := Hid.of hB
  have hcap := hN.cap
  have hcapv := hV.cap
  obtain ⟨hbn, hbc, hbm⟩ := hB.len
  unfold maxLen at hbm
  clear hN hV hB hbn
  obtain ⟨F, hF⟩ : ∃ F, mkF ns us = F := ⟨_, rfl⟩
  have HFl := Hid.of (show F.length = ns.length by rw [← hF, mkF_len])
  have HFg := Hid.of (show ∀ i (h : i < ns.length) (h' : i < F.length), F[i] = ⟨ns[i], vat us i⟩ by subst hF; exact fun i h h' => mkF_get h h')
  rw [hF]
  clear hF
  have HA0 := Hid.of ((at_new w 25 [.string m, .string t, .int .i64 mi, .slice an ns.length cn, .slice av us.length cv, .slice ab nb cb', .int .i64 pad]).up ((Up.refl _).alloc (.cells z6.toArray 36)))
  have HZ0 := Hid.of (at_new (w.alloc (.cells [.string m, .string t, .int .i64 mi, .slice an ns.length cn, .slice av us.length cv, .slice ab nb cb', .int .i64 pad].toArray 25)) 36 z6)
  have HU0 := Hid.of (((Up.refl w).alloc (.cells [.string m, .string t, .int .i64 mi, .slice an ns.length cn, .slice av us.length cv, .slice ab nb cb', .int .i64 pad].toArray 25)).alloc (.cells z6.toArray 36))
  rw [alloc_size] at HZ0
  go_enter Tryz.func13, Tryz.ntmps13
  go_wp2
  obtain ⟨w1, hw1⟩ : ∃ w1, (w.alloc (.cells [.string m, .string t, .int .i64 mi, .slice an ns.length cn, .slice av us.length cv, .slice ab nb cb', .int .i64 pad].toArray 25)).alloc (.cells z6.toArray 36) = w1 := ⟨_, rfl⟩
  have HS1 := Hid.of (show w.heap.size + 1 < w1.heap.size by rw [← hw1, alloc_size, alloc_size]; omega)
  rw [hw1] at HA0 HU0 HZ0
  change Code.wp _ _ _ _ ((w.alloc (.cells [.string m, .string t, .int .i64 mi, .slice an ns.length cn, .slice av us.length cv, .slice ab nb cb', .int .i64 pad].toArray 25)).alloc (.cells z6.toArray 36))
  rw [hw1]
  clear hw1
  refine wp_region_held_drew (S := fun w2 => At w2 w.heap.size 25 [.string m, .string t, .int .i64 mi, .slice an ns.length cn, .slice av us.length cv, .slice ab nb cb', .int .i64 pad] ∧ At w2 (w.heap.size + 1) 36 z6 ∧ Up w w2) (by kernel_rfl) ⟨HA0.out.up (Up.refl _).drew, HZ0.out.up (Up.refl _).drew, HU0.out.drew⟩ (fun hS => ?_)
  refine wpAnyH_take (i := 0) (oi := { dst := some 5, op := Go.Op.fieldAddr 25 (Go.Operand.tmp 1) 0, type := 0, pos := "law.go:106", after := #[], guard := none }) (v := .pointer (some ⟨w.heap.size, 0, none⟩)) rfl (by kernel_rfl) (by kernel_rfl) (by kernel_rfl) (fun _ _ _ h => h) (Or.inl ⟨by kernel_rfl, ?_⟩) hS ?_
  · intro w5 hSw
    clear hSw hS
    go_simp
  simp only [Act.put, List.setIfInBounds_toArray, List.set_cons_zero, List.set_cons_succ]
  refine wpAnyH_take (i := 1) (oi := { dst := some 6, op := Go.Op.load 9 (Go.Operand.tmp 5), type := 9, pos := "law.go:106", after := #[{ on := 0, ground := Go.Ground.data }], guard := none }) (v := .string m) rfl (by kernel_rfl) (by kernel_rfl) (by kernel_rfl) (fun _ _ _ h => h) (Or.inl ⟨by kernel_rfl, ?_⟩) hS ?_
  · intro w5 hSw
    have h0 := hSw.1.cell (i := 0) rfl
    clear hSw hS
    go_simp
  simp only [Act.put, List.setIfInBounds_toArray, List.set_cons_zero, List.set_cons_succ]
  refine wpAnyH_take (i := 2) (oi := { dst := some 7, op := Go.Op.fieldAddr 25 (Go.Operand.tmp 1) 1, type := 0, pos := "law.go:106", after := #[], guard := none }) (v := .pointer (some ⟨w.heap.size, 1, none⟩)) rfl (by kernel_rfl) (by kernel_rfl) (by kernel_rfl) (fun _ _ _ h => h) (Or.inl ⟨by kernel_rfl, ?_⟩) hS ?_
  · intro w5 hSw
    clear hSw hS
    go_simp
  simp only [Act.put, List.setIfInBounds_toArray, List.set_cons_zero, List.set_cons_succ]
  refine wpAnyH_take (i := 3) (oi := { dst := some 8, op := Go.Op.load 9 (Go.Operand.tmp 7), type := 9, pos := "law.go:106", after := #[{ on := 2, ground := Go.Ground.data }], guard := none }) (v := .string t) rfl (by kernel_rfl) (by kernel_rfl) (by kernel_rfl) (fun _ _ _ h => h) (Or.inl ⟨by kernel_rfl, ?_⟩) hS ?_
  · intro w5 hSw
    have h0 := hSw.1.cell (i := 1) rfl
    clear hSw hS
    go_simp
  simp only [Act.put, List.setIfInBounds_toArray, List.set_cons_zero, List.set_cons_succ]
  refine wpAnyH_take (i := 4) (oi := { dst := some 9, op := Go.Op.fieldAddr 25 (Go.Operand.tmp 1) 2, type := 0, pos := "law.go:106", after := #[], guard := none }) (v := .pointer (some ⟨w.heap.size, 2, none⟩)) rfl (by kernel_rfl) (by kernel_rfl) (by kernel_rfl) (fun _ _ _ h => h) (Or.inl ⟨by kernel_rfl, ?_⟩) hS ?_
  · intro w5 hSw
    clear hSw hS
    go_simp
  simp only [Act.put, List.setIfInBounds_toArray, List.set_cons_zero, List.set_cons_succ]
  refine wpAnyH_take (i := 5) (oi := { dst := some 10, op := Go.Op.load 3 (Go.Operand.tmp 9), type := 3, pos := "law.go:106", after := #[{ on := 4, ground := Go.Ground.data }], guard := none }) (v := .int .i64 mi) rfl (by kernel_rfl) (by kernel_rfl) (by kernel_rfl) (fun _ _ _ h => h) (Or.inl ⟨by kernel_rfl, ?_⟩) hS ?_
  · intro w5 hSw
    have h0 := hSw.1.cell (i := 2) rfl
    clear hSw hS
    go_simp
  simp only [Act.put, List.setIfInBounds_toArray, List.set_cons_zero, List.set_cons_succ]
  refine wpAnyH_take (i := 6) (oi := { dst := some 11, op := Go.Op.fieldAddr 25 (Go.Operand.tmp 1) 5, type := 0, pos := "law.go:106", after := #[], guard := none }) (v := .pointer (some ⟨w.heap.size, 5, none⟩)) rfl (by kernel_rfl) (by kernel_rfl) (by kernel_rfl) (fun _ _ _ h => h) (Or.inl ⟨by kernel_rfl, ?_⟩) hS ?_
  · intro w5 hSw
    clear hSw hS
    go_simp
  simp only [Act.put, List.setIfInBounds_toArray, List.set_cons_zero, List.set_cons_succ]
  refine wpAnyH_take (i := 7) (oi := { dst := some 12, op := Go.Op.load 23 (Go.Operand.tmp 11), type := 23, pos := "law.go:106", after := #[{ on := 6, ground := Go.Ground.data }], guard := none }) (v := .slice ab nb cb') rfl (by kernel_rfl) (by kernel_rfl) (by kernel_rfl) (fun _ _ _ h => h) (Or.inl ⟨by kernel_rfl, ?_⟩) hS ?_
  · intro w5 hSw
    have h0 := hSw.1.cell (i := 5) rfl
    clear hSw hS
    go_simp
  simp only [Act.put, List.setIfInBounds_toArray, List.set_cons_zero, List.set_cons_succ]
  refine wpAnyH_take (i := 8) (oi := { dst := some 13, op := Go.Op.fieldAddr 25 (Go.Operand.tmp 1) 6, type := 0, pos := "law.go:106", after := #[], guard := none }) (v := .pointer (some ⟨w.heap.size, 6, none⟩)) rfl (by kernel_rfl) (by kernel_rfl) (by kernel_rfl) (fun _ _ _ h => h) (Or.inl ⟨by kernel_rfl, ?_⟩) hS ?_
  · intro w5 hSw
    clear hSw hS
    go_simp
  simp only [Act.put, List.setIfInBounds_toArray, List.set_cons_zero, List.set_cons_succ]
  refine wpAnyH_take (i := 9) (oi := { dst := some 14, op := Go.Op.load 3 (Go.Operand.tmp 13), type := 3, pos := "law.go:106", after := #[{ on := 8, ground := Go.Ground.data }], guard := none }) (v := .int .i64 pad) rfl (by kernel_rfl) (by kernel_rfl) (by kernel_rfl) (fun _ _ _ h => h) (Or.inl ⟨by kernel_rfl, ?_⟩) hS ?_
  · intro w5 hSw
    have h0 := hSw.1.cell (i := 6) rfl
    clear hSw hS
    go_simp
  simp only [Act.put, List.setIfInBounds_toArray, List.set_cons_zero, List.set_cons_succ]
  refine wpAnyH_ready (rs := [10, 12]) (by kernel_rfl) (by simp) ?_
  refine AllReadyH.cons (o := { dst := some 15, op := Go.Op.call { callee := Go.Callee.value (Go.Operand.func 18), args := #[Go.Operand.tmp 12, Go.Operand.tmp 14], argTypes := #[23, 3] }, type := 23, pos := "law.go:106", after := #[{ on := 7, ground := Go.Ground.data }, { on := 9, ground := Go.Ground.data }], guard := none }) rfl (fun K hK => ?_) (AllReadyH.cons (o := { dst := some 3, op := Go.Op.alloc 36, type := 0, pos := "law.go:106", after := #[], guard := none }) rfl (fun K hK => ?_) AllReadyH.nil)
  · rw [if_pos (by kernel_rfl)]
    go_simp
    refine (padded_walk (.slice ab nb cb') bd pad (by omega) w1.drew (HB.out.up (HU0.out.drew))).mono ?_
    rintro e w2 ⟨v5, rfl, hO, h9⟩
    obtain ⟨a5, c5, rfl⟩ := row_len hO
    have HO2 := Hid.of (show Ow w2 w.heap.size _ (pdd bd pad) from ow_base hO (HU0.out.drew).size)
    have HU2 := Hid.of ((HU0.out.drew).trans h9)
    have HA2 := Hid.of ((HA0.out.up (Up.refl _).drew).up h9)
    have HZ2 := Hid.of ((HZ0.out.up (Up.refl _).drew).up h9)
    have Hs2 := Hid.of (show w1.drew.heap.size ≤ w2.heap.size from h9.size)
    clear h9 hO hS
    obtain ⟨L5, hL5⟩ : ∃ L5, (pdd bd pad).length = L5 := ⟨_, rfl⟩
    have HL5 := Hid.of hL5
    rw [hL5] at HO2 ⊢
    clear hL5
    dsimp only
    refine hK.out _ _ ⟨HA2.out, HZ2.out, HU2.out⟩ (fun hS => ?_)
    clear hK K
    refine wpAnyH_take (i := 11) (oi := { dst := some 16, op := Go.Op.build 36 #[(0, Go.Operand.tmp 6), (1, Go.Operand.tmp 8), (2, Go.Operand.tmp 10), (4, Go.Operand.tmp 15)], type := 36, pos := "law.go:106", after := #[{ on := 1, ground := Go.Ground.data }, { on := 3, ground := Go.Ground.data }, { on := 5, ground := Go.Ground.data }, { on := 10, ground := Go.Ground.data }], guard := none }) (v := .agg #[.string m, .string t, .int .i64 mi, .slice none 0 0, .slice a5 L5 c5, .bool false]) rfl (by kernel_rfl) (by kernel_rfl) (by kernel_rfl) (fun _ _ _ h => h) (Or.inl ⟨by kernel_rfl, ?_⟩) hS ?_
    · intro w5 hSw
      clear hSw hS
      go_simp
    simp only [Act.put, List.setIfInBounds_toArray, List.set_cons_zero, List.set_cons_succ]
    refine wpAnyH_ready (rs := [12]) (by kernel_rfl) (by simp) ?_
    refine AllReadyH.cons (o := { dst := some 3, op := Go.Op.alloc 36, type := 0, pos := "law.go:106", after := #[], guard := none }) rfl (fun K hK => ?_) AllReadyH.nil
    rw [if_pos (by kernel_rfl)]
    go_simp
    have HR3 := Hid.of (at_new w2 36 z6)
    have HBr := Hid.of (show w.heap.size + 1 < w2.heap.size from Nat.lt_of_lt_of_le HS1.out (Nat.le_trans (Up.refl w1).drew.size Hs2.out))
    have HO3 := Hid.of (ow_up HO2.out ((Up.refl w2).alloc (.cells z6.toArray 36)))
    clear HO2
    refine hK.out _ _ ⟨hS.1.up ((Up.refl _).alloc _), hS.2.1.up ((Up.refl _).alloc _), hS.2.2.alloc _⟩ (fun hS => ?_)
    clear hK K
    refine wpAnyH_ready (rs := [13]) (by kernel_rfl) (by simp) ?_
    refine AllReadyH.cons (o := { dst := none, op := Go.Op.store 36 (Go.Operand.tmp 3) (Go.Operand.tmp 16), type := 0, pos := "law.go:106", after := #[{ on := 12, ground := Go.Ground.data }, { on := 11, ground := Go.Ground.data }, { on := 10, ground := Go.Ground.chain }, { on := 0, ground := Go.Ground.phase }, { on := 1, ground := Go.Ground.phase }, { on := 2, ground := Go.Ground.phase }, { on := 3, ground := Go.Ground.phase }, { on := 4, ground := Go.Ground.phase }, { on := 5, ground := Go.Ground.phase }, { on := 6, ground := Go.Ground.phase }, { on := 7, ground := Go.Ground.phase }, { on := 8, ground := Go.Ground.phase }, { on := 9, ground := Go.Ground.phase }, { on := 10, ground := Go.Ground.phase }, { on := 11, ground := Go.Ground.phase }, { on := 12, ground := Go.Ground.phase }], guard := none }) rfl (fun K hK => oper_of_list ?_) AllReadyH.nil
    refine wpList_store_at rfl 36 _ _ rfl (w2.heap.size) HR3.out ([.string m, .string t, .int .i64 mi, .slice none 0 0, .slice a5 L5 c5, .bool false]) rfl rfl rfl (by kernel_rfl) (by kernel_rfl) ?_
    intro w4 hA4 hg4
    have HR4 := Hid.of hA4
    have HU4 := Hid.of (hS.2.2.by hg4 (fun g hg => by have := Option.some.inj hg; have := HBr.out; omega))
    have HA4 := Hid.of (hS.1.by hg4 (fun e => by have := Option.some.inj e; have := HBr.out; omega))
    have HZ4 := Hid.of (hS.2.1.by hg4 (fun e => by have := Option.some.inj e; have := HBr.out; omega))
    have HO4 := Hid.of (HO3.out.kept hg4 (.inr (own_ne HO3.out HR3.out (by decide))))
    clear hA4 hg4 HR3 HO3
    refine hK.out _ _ ⟨HA4.out, HZ4.out, HU4.out⟩ (fun hS => ?_)
    clear hK K hS
    refine wpAnyH_done (by kernel_rfl) ?_ _
    obtain ⟨Br, hBr⟩ : ∃ Br, w2.heap.size = Br := ⟨_, rfl⟩
    rw [hBr] at HR4 HBr ⊢
    clear hBr
    go_wp2
    go_loopw [4] (fun v4 wr => ∃ i : Nat, v4 = .int .i64 (i : Int) ∧ i ≤ ns.length ∧ Hid (∃ a7 c7, At wr Br 36 [.string m, .string t, .int .i64 mi, .slice a7 i c7, .slice a5 L5 c5, .bool false] ∧ FdO wr w.heap.size a7 (F.take i) c7 ∧ wr.ownsRow w.heap.size 5 1 (.slice a5 L5 c5) L5 (cb (pdd bd pad)) ∧ At wr w.heap.size 25 [.string m, .string t, .int .i64 mi, .slice an ns.length cn, .slice av us.length cv, .slice ab nb cb', .int .i64 pad] ∧ At wr (w.heap.size + 1) 36 z6 ∧ Up w wr)) (fun v4 _ => ns.length - (intOf v4).toNat)
    case atStart => exact ⟨0, rfl, Nat.zero_le _, Hid.of ⟨none, 0, HR4.out, World.ownsRow_nil _ _ _ _, (by have h := HO4.out; rw [HL5.out] at h; exact h), HA4.out, HZ4.out, HU4.out⟩⟩
    case round =>
      obtain ⟨i, rfl, hi, hQ⟩ := hrel
      obtain ⟨a7, c7, q1, q2, q3, q4, q5, q6⟩ := hQ.out
      have HR7 := Hid.of q1
      have HF7 := Hid.of q2
      have HO7 := Hid.of q3
      have HA7 := Hid.of q4
      have HZ7 := Hid.of q5
      have HU7 := Hid.of q6
      have h3 := q4.cell (i := 3) rfl
      clear hQ q1 q2 q3 q4 q5 q6
      by_cases hil : i < ns.length
      · have hilz : (i : Int) < (ns.length : Int) := by omega
        have hif : i < F.length := by rw [HFl.out]; exact hil
        obtain ⟨b, off, han, k1⟩ := HN.out.cells i hil
        have HAn := Hid.of han
        clear han
        have HT := Hid.of (List.take_succ_eq_append_getElem hif)
        have HLn := Hid.of (show (F.take i).length = i by rw [List.length_take]; omega)
        have hfg := HFg.out i hil hif
        obtain ⟨f, hf⟩ : ∃ f, F[i] = f := ⟨_, rfl⟩
        rw [hf] at HT hfg
        have HFv := Hid.of (show vat us i = f.v by rw [hfg])
        have HK1 := Hid.of (show w.cell? ⟨b, off + i, none⟩ = some (.string f.n) by rw [k1, hfg])
        clear hf hfg k1
        have HRd := Hid.of (HR7.out.up (Up.refl wr).drew)
        have HFd := Hid.of (ow_up HF7.out (Up.refl wr).drew)
        have HFd' := Hid.of (show wr.drew.ownsRow w.heap.size 87 2 (.slice a7 i c7) i (fdc (F.take i)) by have := HFd.out; rw [HLn.out] at this; exact this)
        have HOd := Hid.of (ow_up HO7.out (Up.refl wr).drew)
        have HAd := Hid.of (HA7.out.up (Up.refl wr).drew)
        have HZd := Hid.of (HZ7.out.up (Up.refl wr).drew)
        go_wp2
        refine wp_region_held_drew (S := fun w2 => At w2 w.heap.size 25 [.string m, .string t, .int .i64 mi, .slice an ns.length cn, .slice av us.length cv, .slice ab nb cb', .int .i64 pad] ∧ At w2 (w.heap.size + 1) 36 z6 ∧ Up w w2) (by kernel_rfl) ⟨HA7.out.up (Up.refl _).drew, HZ7.out.up (Up.refl _).drew, HU7.out.drew⟩ (fun hS => ?_)
        refine wpAnyH_take (i := 0) (oi := { dst := some 24, op := Go.Op.fieldAddr 36 (Go.Operand.tmp 3) 3, type := 0, pos := "law.go:108", after := #[], guard := none }) (v := .pointer (some ⟨Br, 3, none⟩)) rfl (by kernel_rfl) (by kernel_rfl) (by kernel_rfl) (fun _ _ _ h => h) (Or.inl ⟨by kernel_rfl, ?_⟩) hS ?_
        · intro w5 hSw
          clear hSw hS
          go_simp
        simp only [Act.put, List.setIfInBounds_toArray, List.set_cons_zero, List.set_cons_succ]
        refine wpAnyH_take (i := 2) (oi := { dst := some 26, op := Go.Op.fieldAddr 25 (Go.Operand.tmp 1) 3, type := 0, pos := "law.go:108", after := #[], guard := none }) (v := .pointer (some ⟨w.heap.size, 3, none⟩)) rfl (by kernel_rfl) (by kernel_rfl) (by kernel_rfl) (fun _ _ _ h => h) (Or.inl ⟨by kernel_rfl, ?_⟩) hS ?_
        · intro w5 hSw
          clear hSw hS
          go_simp
        simp only [Act.put, List.setIfInBounds_toArray, List.set_cons_zero, List.set_cons_succ]
        refine wpAnyH_take (i := 3) (oi := { dst := some 27, op := Go.Op.load 22 (Go.Operand.tmp 26), type := 22, pos := "law.go:108", after := #[{ on := 2, ground := Go.Ground.data }], guard := none }) (v := .slice (some ⟨b, off, none⟩) ns.length cn) rfl (by kernel_rfl) (by kernel_rfl) (by kernel_rfl) (fun _ _ _ h => h) (Or.inl ⟨by kernel_rfl, ?_⟩) hS ?_
        · intro w5 hSw
          have h0 := hSw.1.cell (i := 3) rfl
          rw [HAn.out] at h0
          clear hSw hS
          go_simp
        simp only [Act.put, List.setIfInBounds_toArray, List.set_cons_zero, List.set_cons_succ]
        refine wpAnyH_take (i := 4) (oi := { dst := some 28, op := Go.Op.move (Go.Operand.tmp 4), type := 3, pos := "law.go:108", after := #[], guard := none }) (v := .int .i64 (i : Int)) rfl (by kernel_rfl) (by kernel_rfl) (by kernel_rfl) (fun _ _ _ h => h) (Or.inl ⟨by kernel_rfl, ?_⟩) hS ?_
        · intro w5 hSw
          clear hSw hS
          go_simp
        simp only [Act.put, List.setIfInBounds_toArray, List.set_cons_zero, List.set_cons_succ]
        refine wpAnyH_take (i := 5) (oi := { dst := some 29, op := Go.Op.indexAddr 22 (Go.Operand.tmp 27) (Go.Operand.tmp 28), type := 0, pos := "law.go:108", after := #[{ on := 3, ground := Go.Ground.data }, { on := 4, ground := Go.Ground.data }], guard := none }) (v := .pointer (some ⟨b, off + i, none⟩)) rfl (by kernel_rfl) (by kernel_rfl) (by kernel_rfl) (fun _ _ _ h => h) (Or.inl ⟨by kernel_rfl, ?_⟩) hS ?_
        · intro w5 hSw
          clear hSw hS
          go_simp
        simp only [Act.put, List.setIfInBounds_toArray, List.set_cons_zero, List.set_cons_succ]
        refine wpAnyH_take (i := 6) (oi := { dst := some 30, op := Go.Op.load 9 (Go.Operand.tmp 29), type := 9, pos := "law.go:108", after := #[{ on := 5, ground := Go.Ground.data }], guard := none }) (v := .string f.n) rfl (by kernel_rfl) (by kernel_rfl) (by kernel_rfl) (fun _ _ _ h => h) (Or.inl ⟨by kernel_rfl, ?_⟩) hS ?_
        · intro w5 hSw
          have h0 := hSw.2.2.cell HK1.out
          clear hSw hS
          go_simp
        simp only [Act.put, List.setIfInBounds_toArray, List.set_cons_zero, List.set_cons_succ]
        refine wpAnyH_take (i := 7) (oi := { dst := some 31, op := Go.Op.fieldAddr 25 (Go.Operand.tmp 1) 4, type := 0, pos := "law.go:108", after := #[], guard := none }) (v := .pointer (some ⟨w.heap.size, 4, none⟩)) rfl (by kernel_rfl) (by kernel_rfl) (by kernel_rfl) (fun _ _ _ h => h) (Or.inl ⟨by kernel_rfl, ?_⟩) hS ?_
        · intro w5 hSw
          clear hSw hS
          go_simp
        simp only [Act.put, List.setIfInBounds_toArray, List.set_cons_zero, List.set_cons_succ]
        refine wpAnyH_take (i := 8) (oi := { dst := some 32, op := Go.Op.load 22 (Go.Operand.tmp 31), type := 22, pos := "law.go:108", after := #[{ on := 7, ground := Go.Ground.data }], guard := none }) (v := .slice av us.length cv) rfl (by kernel_rfl) (by kernel_rfl) (by kernel_rfl) (fun _ _ _ h => h) (Or.inl ⟨by kernel_rfl, ?_⟩) hS ?_
        · intro w5 hSw
          have h0 := hSw.1.cell (i := 4) rfl
          clear hSw hS
          go_simp
        simp only [Act.put, List.setIfInBounds_toArray, List.set_cons_zero, List.set_cons_succ]
        refine wpAnyH_take (i := 9) (oi := { dst := some 33, op := Go.Op.move (Go.Operand.tmp 4), type := 3, pos := "law.go:108", after := #[], guard := none }) (v := .int .i64 (i : Int)) rfl (by kernel_rfl) (by kernel_rfl) (by kernel_rfl) (fun _ _ _ h => h) (Or.inl ⟨by kernel_rfl, ?_⟩) hS ?_
        · intro w5 hSw
          clear hSw hS
          go_simp
        simp only [Act.put, List.setIfInBounds_toArray, List.set_cons_zero, List.set_cons_succ]
        refine wpAnyH_ready (rs := [1, 10]) (by kernel_rfl) (by simp) ?_
        refine AllReadyH.cons (o := { dst := some 25, op := Go.Op.load 34 (Go.Operand.tmp 24), type := 34, pos := "law.go:108", after := #[{ on := 0, ground := Go.Ground.data }], guard := none }) rfl (fun K hK => ?_) (AllReadyH.cons (o := { dst := some 34, op := Go.Op.call { callee := Go.Callee.value (Go.Operand.func 39), args := #[Go.Operand.tmp 32, Go.Operand.tmp 33], argTypes := #[22, 3] }, type := 9, pos := "law.go:108", after := #[{ on := 8, ground := Go.Ground.data }, { on := 9, ground := Go.Ground.data }], guard := none }) rfl (fun K hK => ?_) AllReadyH.nil)
        · rw [if_pos (by kernel_rfl)]
          have k3 := HRd.out.cell (i := 3) rfl
          go_simp
          refine hK.out _ _ hS (fun hS => ?_)
          clear hK K k3
          refine wpAnyH_ready (rs := [10]) (by kernel_rfl) (by simp) ?_
          refine AllReadyH.cons (o := { dst := some 34, op := Go.Op.call { callee := Go.Callee.value (Go.Operand.func 39), args := #[Go.Operand.tmp 32, Go.Operand.tmp 33], argTypes := #[22, 3] }, type := 9, pos := "law.go:108", after := #[{ on := 8, ground := Go.Ground.data }, { on := 9, ground := Go.Ground.data }], guard := none }) rfl (fun K hK => ?_) AllReadyH.nil
          rw [if_pos (by kernel_rfl)]
          go_simp
          refine (value_walk av us cv i wr.drew (HV.out.up HU7.out.drew)).mono ?_
          rintro e w5 ⟨rfl, h9⟩
          obtain rfl := h9.symm
          clear h9
          rw [HFv.out]
          dsimp only
          refine hK.out _ _ hS (fun hS => ?_)
          clear hK K
          refine wpAnyH_take (i := 11) (oi := { dst := some 35, op := Go.Op.build 87 #[(0, Go.Operand.tmp 30), (1, Go.Operand.tmp 34)], type := 87, pos := "law.go:108", after := #[{ on := 6, ground := Go.Ground.data }, { on := 10, ground := Go.Ground.data }], guard := none }) (v := .agg #[.string f.n, .string f.v]) rfl (by kernel_rfl) (by kernel_rfl) (by kernel_rfl) (fun _ _ _ h => h) (Or.inl ⟨by kernel_rfl, ?_⟩) hS ?_
          · intro w5 hSw
            clear hSw hS
            go_simp
          simp only [Act.put, List.setIfInBounds_toArray, List.set_cons_zero, List.set_cons_succ]
          refine wpAnyH_ready (rs := [12]) (by kernel_rfl) (by simp) ?_
          refine AllReadyH.cons (o := { dst := some 36, op := Go.Op.buildSlice 34 1 #[(0, Go.Operand.tmp 35)], type := 34, pos := "law.go:108", after := #[{ on := 11, ground := Go.Ground.data }], guard := none }) rfl (fun K hK => ?_) AllReadyH.nil
          rw [if_pos (by kernel_rfl)]
          go_simp
          refine hK.out _ _ ⟨hS.1.up ((Up.refl _).alloc _), hS.2.1.up ((Up.refl _).alloc _), hS.2.2.alloc _⟩ (fun hS => ?_)
          clear hK K
          refine wpAnyH_ready (rs := [13]) (by kernel_rfl) (by simp) ?_
          refine AllReadyH.cons (o := { dst := some 37, op := Go.Op.call { callee := Go.Callee.builtin Go.Builtin.append, args := #[Go.Operand.tmp 25, Go.Operand.tmp 36], argTypes := #[34, 34] }, type := 34, pos := "law.go:108", after := #[{ on := 1, ground := Go.Ground.data }, { on := 12, ground := Go.Ground.data }, { on := 10, ground := Go.Ground.chain }], guard := none }) rfl (fun K hK => oper_of_list ?_) AllReadyH.nil
          refine wpList_appFd (w := wr.drew) (N := w.heap.size) rfl _ _ rfl a7 c7 (F.take i) f HLn.out rfl rfl HFd.out HU7.out.drew.size (by omega) ?_
          intro ax2 cx2 w7 o7 u7 g7
          have HU8 := Hid.of (u7 w HU7.out.drew (Nat.le_refl _))
          have HR8 := Hid.of (HRd.out.by g7 (own_ne HFd'.out HRd.out (by decide)))
          have HA8 := Hid.of (HAd.out.by g7 (own_ne HFd'.out HAd.out (by decide)))
          have HZ8 := Hid.of (HZd.out.by g7 (own_ne HFd'.out HZd.out (by decide)))
          have HB8 := Hid.of (HOd.out.kept g7 (own_off HOd.out HFd'.out (by decide)))
          have HF8 := Hid.of (show FdO w7 w.heap.size ax2 (F.take (i + 1)) cx2 by rw [HT.out]; exact o7)
          clear o7 u7 g7
          refine hK.out _ _ ⟨HA8.out, HZ8.out, HU8.out⟩ (fun hS => ?_)
          clear hK K
          simp only [Act.put, List.setIfInBounds_toArray, List.set_cons_zero, List.set_cons_succ]
          refine wpAnyH_take (i := 14) (oi := { dst := some 38, op := Go.Op.fieldAddr 36 (Go.Operand.tmp 3) 3, type := 0, pos := "law.go:108", after := #[{ on := 0, ground := Go.Ground.phase }, { on := 1, ground := Go.Ground.phase }, { on := 2, ground := Go.Ground.phase }, { on := 3, ground := Go.Ground.phase }, { on := 4, ground := Go.Ground.phase }, { on := 5, ground := Go.Ground.phase }, { on := 6, ground := Go.Ground.phase }, { on := 7, ground := Go.Ground.phase }, { on := 8, ground := Go.Ground.phase }, { on := 9, ground := Go.Ground.phase }, { on := 10, ground := Go.Ground.phase }, { on := 11, ground := Go.Ground.phase }, { on := 12, ground := Go.Ground.phase }, { on := 13, ground := Go.Ground.phase }], guard := none }) (v := .pointer (some ⟨Br, 3, none⟩)) rfl (by kernel_rfl) (by kernel_rfl) (by kernel_rfl) (fun _ _ _ h => h) (Or.inl ⟨by kernel_rfl, ?_⟩) hS ?_
          · intro w5 hSw
            clear hSw hS
            go_simp
          simp only [Act.put, List.setIfInBounds_toArray, List.set_cons_zero, List.set_cons_succ]
          refine wpAnyH_ready (rs := [15]) (by kernel_rfl) (by simp) ?_
          refine AllReadyH.cons (o := { dst := none, op := Go.Op.store 34 (Go.Operand.tmp 38) (Go.Operand.tmp 37), type := 0, pos := "law.go:108", after := #[{ on := 14, ground := Go.Ground.data }, { on := 13, ground := Go.Ground.data }, { on := 13, ground := Go.Ground.chain }, { on := 0, ground := Go.Ground.phase }, { on := 1, ground := Go.Ground.phase }, { on := 2, ground := Go.Ground.phase }, { on := 3, ground := Go.Ground.phase }, { on := 4, ground := Go.Ground.phase }, { on := 5, ground := Go.Ground.phase }, { on := 6, ground := Go.Ground.phase }, { on := 7, ground := Go.Ground.phase }, { on := 8, ground := Go.Ground.phase }, { on := 9, ground := Go.Ground.phase }, { on := 10, ground := Go.Ground.phase }, { on := 11, ground := Go.Ground.phase }, { on := 12, ground := Go.Ground.phase }, { on := 13, ground := Go.Ground.phase }], guard := none }) rfl (fun K hK => ?_) AllReadyH.nil
          have k3 := HR8.out.cell (i := 3) rfl
          have f3 := HR8.out.thaw 3
          have G8 := grown_set1 w7 Br 3 (.slice ax2 (i + 1) cx2)
          have HR9 := Hid.of (HR8.out.set 3 (.slice ax2 (i + 1) cx2))
          have HU9 := Hid.of (HU8.out.by G8 (fun g hg => by have := Option.some.inj hg; have := HBr.out; omega))
          have HA9 := Hid.of (HA8.out.by G8 (fun e => by have := Option.some.inj e; have := HBr.out; omega))
          have HZ9 := Hid.of (HZ8.out.by G8 (fun e => by have := Option.some.inj e; have := HBr.out; omega))
          have HB9 := Hid.of (HB8.out.kept G8 (.inr (own_ne HB8.out HR8.out (by decide))))
          have HF9 := Hid.of (show FdO (w7.setCell ⟨Br, 3, none⟩ (.slice ax2 (i + 1) cx2)) w.heap.size ax2 (F.take (i + 1)) cx2 from HF8.out.kept G8 (.inr (own_ne HF8.out HR8.out (by decide))))
          clear G8
          rw [if_pos (by kernel_rfl)]
          go_simp
          refine hK.out _ _ ⟨HA9.out, HZ9.out, HU9.out⟩ (fun hS => ?_)
          clear hK K hS
          refine wpAnyH_done (by kernel_rfl) ?_ _
          go_wp2
          go_roundw
          all_goals first
            | exact ⟨i + 1, by go_num, by omega, Hid.of ⟨ax2, cx2, HR9.out, HF9.out, HB9.out, HA9.out, HZ9.out, HU9.out⟩⟩
            | (simp [intOf]; omega)
        · rw [if_pos (by kernel_rfl)]
          go_simp
          refine (value_walk av us cv i wr.drew (HV.out.up HU7.out.drew)).mono ?_
          rintro e w5 ⟨rfl, h9⟩
          obtain rfl := h9.symm
          clear h9
          rw [HFv.out]
          dsimp only
          refine hK.out _ _ hS (fun hS => ?_)
          clear hK K
          refine wpAnyH_take (i := 11) (oi := { dst := some 35, op := Go.Op.build 87 #[(0, Go.Operand.tmp 30), (1, Go.Operand.tmp 34)], type := 87, pos := "law.go:108", after := #[{ on := 6, ground := Go.Ground.data }, { on := 10, ground := Go.Ground.data }], guard := none }) (v := .agg #[.string f.n, .string f.v]) rfl (by kernel_rfl) (by kernel_rfl) (by kernel_rfl) (fun _ _ _ h => h) (Or.inl ⟨by kernel_rfl, ?_⟩) hS ?_
          · intro w5 hSw
            clear hSw hS
            go_simp
          simp only [Act.put, List.setIfInBounds_toArray, List.set_cons_zero, List.set_cons_succ]
          refine wpAnyH_ready (rs := [1, 12]) (by kernel_rfl) (by simp) ?_
          refine AllReadyH.cons (o := { dst := some 25, op := Go.Op.load 34 (Go.Operand.tmp 24), type := 34, pos := "law.go:108", after := #[{ on := 0, ground := Go.Ground.data }], guard := none }) rfl (fun K hK => ?_) (AllReadyH.cons (o := { dst := some 36, op := Go.Op.buildSlice 34 1 #[(0, Go.Operand.tmp 35)], type := 34, pos := "law.go:108", after := #[{ on := 11, ground := Go.Ground.data }], guard := none }) rfl (fun K hK => ?_) AllReadyH.nil)
          · rw [if_pos (by kernel_rfl)]
            have k3 := HRd.out.cell (i := 3) rfl
            go_simp
            refine hK.out _ _ hS (fun hS => ?_)
            clear hK K k3
            refine wpAnyH_ready (rs := [12]) (by kernel_rfl) (by simp) ?_
            refine AllReadyH.cons (o := { dst := some 36, op := Go.Op.buildSlice 34 1 #[(0, Go.Operand.tmp 35)], type := 34, pos := "law.go:108", after := #[{ on := 11, ground := Go.Ground.data }], guard := none }) rfl (fun K hK => ?_) AllReadyH.nil
            rw [if_pos (by kernel_rfl)]
            go_simp
            refine hK.out _ _ ⟨hS.1.up ((Up.refl _).alloc _), hS.2.1.up ((Up.refl _).alloc _), hS.2.2.alloc _⟩ (fun hS => ?_)
            clear hK K
            refine wpAnyH_ready (rs := [13]) (by kernel_rfl) (by simp) ?_
            refine AllReadyH.cons (o := { dst := some 37, op := Go.Op.call { callee := Go.Callee.builtin Go.Builtin.append, args := #[Go.Operand.tmp 25, Go.Operand.tmp 36], argTypes := #[34, 34] }, type := 34, pos := "law.go:108", after := #[{ on := 1, ground := Go.Ground.data }, { on := 12, ground := Go.Ground.data }, { on := 10, ground := Go.Ground.chain }], guard := none }) rfl (fun K hK => oper_of_list ?_) AllReadyH.nil
            refine wpList_appFd (w := wr.drew) (N := w.heap.size) rfl _ _ rfl a7 c7 (F.take i) f HLn.out rfl rfl HFd.out HU7.out.drew.size (by omega) ?_
            intro ax2 cx2 w7 o7 u7 g7
            have HU8 := Hid.of (u7 w HU7.out.drew (Nat.le_refl _))
            have HR8 := Hid.of (HRd.out.by g7 (own_ne HFd'.out HRd.out (by decide)))
            have HA8 := Hid.of (HAd.out.by g7 (own_ne HFd'.out HAd.out (by decide)))
            have HZ8 := Hid.of (HZd.out.by g7 (own_ne HFd'.out HZd.out (by decide)))
            have HB8 := Hid.of (HOd.out.kept g7 (own_off HOd.out HFd'.out (by decide)))
            have HF8 := Hid.of (show FdO w7 w.heap.size ax2 (F.take (i + 1)) cx2 by rw [HT.out]; exact o7)
            clear o7 u7 g7
            refine hK.out _ _ ⟨HA8.out, HZ8.out, HU8.out⟩ (fun hS => ?_)
            clear hK K
            simp only [Act.put, List.setIfInBounds_toArray, List.set_cons_zero, List.set_cons_succ]
            refine wpAnyH_take (i := 14) (oi := { dst := some 38, op := Go.Op.fieldAddr 36 (Go.Operand.tmp 3) 3, type := 0, pos := "law.go:108", after := #[{ on := 0, ground := Go.Ground.phase }, { on := 1, ground := Go.Ground.phase }, { on := 2, ground := Go.Ground.phase }, { on := 3, ground := Go.Ground.phase }, { on := 4, ground := Go.Ground.phase }, { on := 5, ground := Go.Ground.phase }, { on := 6, ground := Go.Ground.phase }, { on := 7, ground := Go.Ground.phase }, { on := 8, ground := Go.Ground.phase }, { on := 9, ground := Go.Ground.phase }, { on := 10, ground := Go.Ground.phase }, { on := 11, ground := Go.Ground.phase }, { on := 12, ground := Go.Ground.phase }, { on := 13, ground := Go.Ground.phase }], guard := none }) (v := .pointer (some ⟨Br, 3, none⟩)) rfl (by kernel_rfl) (by kernel_rfl) (by kernel_rfl) (fun _ _ _ h => h) (Or.inl ⟨by kernel_rfl, ?_⟩) hS ?_
            · intro w5 hSw
              clear hSw hS
              go_simp
            simp only [Act.put, List.setIfInBounds_toArray, List.set_cons_zero, List.set_cons_succ]
            refine wpAnyH_ready (rs := [15]) (by kernel_rfl) (by simp) ?_
            refine AllReadyH.cons (o := { dst := none, op := Go.Op.store 34 (Go.Operand.tmp 38) (Go.Operand.tmp 37), type := 0, pos := "law.go:108", after := #[{ on := 14, ground := Go.Ground.data }, { on := 13, ground := Go.Ground.data }, { on := 13, ground := Go.Ground.chain }, { on := 0, ground := Go.Ground.phase }, { on := 1, ground := Go.Ground.phase }, { on := 2, ground := Go.Ground.phase }, { on := 3, ground := Go.Ground.phase }, { on := 4, ground := Go.Ground.phase }, { on := 5, ground := Go.Ground.phase }, { on := 6, ground := Go.Ground.phase }, { on := 7, ground := Go.Ground.phase }, { on := 8, ground := Go.Ground.phase }, { on := 9, ground := Go.Ground.phase }, { on := 10, ground := Go.Ground.phase }, { on := 11, ground := Go.Ground.phase }, { on := 12, ground := Go.Ground.phase }, { on := 13, ground := Go.Ground.phase }], guard := none }) rfl (fun K hK => ?_) AllReadyH.nil
            have k3 := HR8.out.cell (i := 3) rfl
            have f3 := HR8.out.thaw 3
            have G8 := grown_set1 w7 Br 3 (.slice ax2 (i + 1) cx2)
            have HR9 := Hid.of (HR8.out.set 3 (.slice ax2 (i + 1) cx2))
            have HU9 := Hid.of (HU8.out.by G8 (fun g hg => by have := Option.some.inj hg; have := HBr.out; omega))
            have HA9 := Hid.of (HA8.out.by G8 (fun e => by have := Option.some.inj e; have := HBr.out; omega))
            have HZ9 := Hid.of (HZ8.out.by G8 (fun e => by have := Option.some.inj e; have := HBr.out; omega))
            have HB9 := Hid.of (HB8.out.kept G8 (.inr (own_ne HB8.out HR8.out (by decide))))
            have HF9 := Hid.of (show FdO (w7.setCell ⟨Br, 3, none⟩ (.slice ax2 (i + 1) cx2)) w.heap.size ax2 (F.take (i + 1)) cx2 from HF8.out.kept G8 (.inr (own_ne HF8.out HR8.out (by decide))))
            clear G8
            rw [if_pos (by kernel_rfl)]
            go_simp
            refine hK.out _ _ ⟨HA9.out, HZ9.out, HU9.out⟩ (fun hS => ?_)
            clear hK K hS
            refine wpAnyH_done (by kernel_rfl) ?_ _
            go_wp2
            go_roundw
            all_goals first
              | exact ⟨i + 1, by go_num, by omega, Hid.of ⟨ax2, cx2, HR9.out, HF9.out, HB9.out, HA9.out, HZ9.out, HU9.out⟩⟩
              | (simp [intOf]; omega)
          · rw [if_pos (by kernel_rfl)]
            go_simp
            refine hK.out _ _ ⟨hS.1.up ((Up.refl _).alloc _), hS.2.1.up ((Up.refl _).alloc _), hS.2.2.alloc _⟩ (fun hS => ?_)
            clear hK K
            refine wpAnyH_ready (rs := [1]) (by kernel_rfl) (by simp) ?_
            refine AllReadyH.cons (o := { dst := some 25, op := Go.Op.load 34 (Go.Operand.tmp 24), type := 34, pos := "law.go:108", after := #[{ on := 0, ground := Go.Ground.data }], guard := none }) rfl (fun K hK => ?_) AllReadyH.nil
            rw [if_pos (by kernel_rfl)]
            have k3 := ((HR7.out.up ((Up.refl wr).alloc (.cells #[.string f.n, .string f.v] 87))).up (Up.refl _).drew).cell (i := 3) rfl
            go_simp
            refine hK.out _ _ hS (fun hS => ?_)
            clear hK K k3
            refine wpAnyH_ready (rs := [13]) (by kernel_rfl) (by simp) ?_
            refine AllReadyH.cons (o := { dst := some 37, op := Go.Op.call { callee := Go.Callee.builtin Go.Builtin.append, args := #[Go.Operand.tmp 25, Go.Operand.tmp 36], argTypes := #[34, 34] }, type := 34, pos := "law.go:108", after := #[{ on := 1, ground := Go.Ground.data }, { on := 12, ground := Go.Ground.data }, { on := 10, ground := Go.Ground.chain }], guard := none }) rfl (fun K hK => oper_of_list ?_) AllReadyH.nil
            refine wpList_appFd (w := wr.drew) (N := w.heap.size) rfl _ _ rfl a7 c7 (F.take i) f HLn.out rfl rfl HFd.out HU7.out.drew.size (by omega) ?_
            intro ax2 cx2 w7 o7 u7 g7
            have HU8 := Hid.of (u7 w HU7.out.drew (Nat.le_refl _))
            have HR8 := Hid.of (HRd.out.by g7 (own_ne HFd'.out HRd.out (by decide)))
            have HA8 := Hid.of (HAd.out.by g7 (own_ne HFd'.out HAd.out (by decide)))
            have HZ8 := Hid.of (HZd.out.by g7 (own_ne HFd'.out HZd.out (by decide)))
            have HB8 := Hid.of (HOd.out.kept g7 (own_off HOd.out HFd'.out (by decide)))
            have HF8 := Hid.of (show FdO w7 w.heap.size ax2 (F.take (i + 1)) cx2 by rw [HT.out]; exact o7)
            clear o7 u7 g7
            refine hK.out _ _ ⟨HA8.out, HZ8.out, HU8.out⟩ (fun hS => ?_)
            clear hK K
            simp only [Act.put, List.setIfInBounds_toArray, List.set_cons_zero, List.set_cons_succ]
            refine wpAnyH_take (i := 14) (oi := { dst := some 38, op := Go.Op.fieldAddr 36 (Go.Operand.tmp 3) 3, type := 0, pos := "law.go:108", after := #[{ on := 0, ground := Go.Ground.phase }, { on := 1, ground := Go.Ground.phase }, { on := 2, ground := Go.Ground.phase }, { on := 3, ground := Go.Ground.phase }, { on := 4, ground := Go.Ground.phase }, { on := 5, ground := Go.Ground.phase }, { on := 6, ground := Go.Ground.phase }, { on := 7, ground := Go.Ground.phase }, { on := 8, ground := Go.Ground.phase }, { on := 9, ground := Go.Ground.phase }, { on := 10, ground := Go.Ground.phase }, { on := 11, ground := Go.Ground.phase }, { on := 12, ground := Go.Ground.phase }, { on := 13, ground := Go.Ground.phase }], guard := none }) (v := .pointer (some ⟨Br, 3, none⟩)) rfl (by kernel_rfl) (by kernel_rfl) (by kernel_rfl) (fun _ _ _ h => h) (Or.inl ⟨by kernel_rfl, ?_⟩) hS ?_
            · intro w5 hSw
              clear hSw hS
              go_simp
            simp only [Act.put, List.setIfInBounds_toArray, List.set_cons_zero, List.set_cons_succ]
            refine wpAnyH_ready (rs := [15]) (by kernel_rfl) (by simp) ?_
            refine AllReadyH.cons (o := { dst := none, op := Go.Op.store 34 (Go.Operand.tmp 38) (Go.Operand.tmp 37), type := 0, pos := "law.go:108", after := #[{ on := 14, ground := Go.Ground.data }, { on := 13, ground := Go.Ground.data }, { on := 13, ground := Go.Ground.chain }, { on := 0, ground := Go.Ground.phase }, { on := 1, ground := Go.Ground.phase }, { on := 2, ground := Go.Ground.phase }, { on := 3, ground := Go.Ground.phase }, { on := 4, ground := Go.Ground.phase }, { on := 5, ground := Go.Ground.phase }, { on := 6, ground := Go.Ground.phase }, { on := 7, ground := Go.Ground.phase }, { on := 8, ground := Go.Ground.phase }, { on := 9, ground := Go.Ground.phase }, { on := 10, ground := Go.Ground.phase }, { on := 11, ground := Go.Ground.phase }, { on := 12, ground := Go.Ground.phase }, { on := 13, ground := Go.Ground.phase }], guard := none }) rfl (fun K hK => ?_) AllReadyH.nil
            have k3 := HR8.out.cell (i := 3) rfl
            have f3 := HR8.out.thaw 3
            have G8 := grown_set1 w7 Br 3 (.slice ax2 (i + 1) cx2)
            have HR9 := Hid.of (HR8.out.set 3 (.slice ax2 (i + 1) cx2))
            have HU9 := Hid.of (HU8.out.by G8 (fun g hg => by have := Option.some.inj hg; have := HBr.out; omega))
            have HA9 := Hid.of (HA8.out.by G8 (fun e => by have := Option.some.inj e; have := HBr.out; omega))
            have HZ9 := Hid.of (HZ8.out.by G8 (fun e => by have := Option.some.inj e; have := HBr.out; omega))
            have HB9 := Hid.of (HB8.out.kept G8 (.inr (own_ne HB8.out HR8.out (by decide))))
            have HF9 := Hid.of (show FdO (w7.setCell ⟨Br, 3, none⟩ (.slice ax2 (i + 1) cx2)) w.heap.size ax2 (F.take (i + 1)) cx2 from HF8.out.kept G8 (.inr (own_ne HF8.out HR8.out (by decide))))
            clear G8
            rw [if_pos (by kernel_rfl)]
            go_simp
            refine hK.out _ _ ⟨HA9.out, HZ9.out, HU9.out⟩ (fun hS => ?_)
            clear hK K hS
            refine wpAnyH_done (by kernel_rfl) ?_ _
            go_wp2
            go_roundw
            all_goals first
              | exact ⟨i + 1, by go_num, by omega, Hid.of ⟨ax2, cx2, HR9.out, HF9.out, HB9.out, HA9.out, HZ9.out, HU9.out⟩⟩
              | (simp [intOf]; omega)
      · have hilz : ¬ (i : Int) < (ns.length : Int) := by omega
        have hin : i = ns.length := by omega
        subst hin
        have HF8 := Hid.of (show FdO wr w.heap.size a7 F c7 by
          have h1 := HF7.out
          rw [List.take_of_length_le (by rw [HFl.out]; exact Nat.le_refl _)] at h1
          exact h1)
        go_wp2_with (with_reducible show wpList _ _ _ ({ dst := _, op := Op.load 36 _, type := _, pos := _, after := _, guard := _ } :: _) _ _; refine Shut.out ?_)
        show wpList _ _ _ _ _ _
        refine wpList_load_mid rfl _ _ rfl Br 0 rfl [.string m, .string t, .int .i64 mi, .slice a7 ns.length c7, .slice a5 L5 c5, .bool false] _ HR7.out.range Tryz.underlying36 rfl (by kernel_rfl) ?_
        simp only [Act.put, List.setIfInBounds_toArray, List.set_cons_zero, List.set_cons_succ]
        refine wpList_store_at rfl 36 _ _ rfl (w.heap.size + 1) HZ7.out [.string m, .string t, .int .i64 mi, .slice a7 ns.length c7, .slice a5 L5 c5, .bool false] rfl rfl rfl (by kernel_rfl) (by kernel_rfl) ?_
        intro w8 hA8 hg8
        have HA8 := Hid.of hA8
        have HU8 := Hid.of (HU7.out.by hg8 (fun g hg => by have := Option.some.inj hg; omega))
        have HF9 := Hid.of (show FdO w8 w.heap.size a7 F c7 from HF8.out.kept hg8 (.inr (own_ne HF8.out HZ7.out (by decide))))
        have HO9 := Hid.of (HO7.out.kept hg8 (.inr (own_ne HO7.out HZ7.out (by decide))))
        clear hA8 hg8
        simp only [Act.put]
        repeat go_step
        refine bodyPost_ret (results_agg1 Tryz.results13 _ _ (w.heap.size + 1) [.string m, .string t, .int .i64 mi, .slice a7 ns.length c7, .slice a5 L5 c5, .bool false] rfl HA8.out.range Tryz.underlying36 rfl (by kernel_rfl)) rfl ?_
        exact ⟨⟨a7, c7, _, rfl, Hid.of ⟨HF9.out, by unfold Ow; rw [HL5.out]; exact HO9.out⟩⟩, HU8.out⟩
  · rw [if_pos (by kernel_rfl)]
    go_simp
    have HR1 := Hid.of (show At _ w1.heap.size 36 z6 from at_new w1.drew 36 z6)
    have HUa := Hid.of ((Up.refl w1.drew).alloc (.cells z6.toArray 36))
    have HBr := Hid.of (show w.heap.size + 1 < w1.heap.size from HS1.out)
    refine hK.out _ _ ⟨hS.1.up HUa.out, hS.2.1.up HUa.out, hS.2.2.trans HUa.out⟩ (fun hS => ?_)
    clear hK K
    refine wpAnyH_ready (rs := [10]) (by kernel_rfl) (by simp) ?_
    refine AllReadyH.cons (o := { dst := some 15, op := Go.Op.call { callee := Go.Callee.value (Go.Operand.func 18), args := #[Go.Operand.tmp 12, Go.Operand.tmp 14], argTypes := #[23, 3] }, type := 23, pos := "law.go:106", after := #[{ on := 7, ground := Go.Ground.data }, { on := 9, ground := Go.Ground.data }], guard := none }) rfl (fun K hK => ?_) AllReadyH.nil
    rw [if_pos (by kernel_rfl)]
    go_simp
    refine (padded_walk (.slice ab nb cb') bd pad (by omega) _ (HB.out.up (HU0.out.drew.trans HUa.out))).mono ?_
    rintro e w2 ⟨v5, rfl, hO, h9⟩
    obtain ⟨a5, c5, rfl⟩ := row_len hO
    have HO2 := Hid.of (show Ow w2 w.heap.size _ (pdd bd pad) from ow_base hO (HU0.out.drew.trans HUa.out).size)
    have HU2 := Hid.of ((HU0.out.drew.trans HUa.out).trans h9)
    have HA2 := Hid.of (((HA0.out.up (Up.refl _).drew).up HUa.out).up h9)
    have HZ2 := Hid.of (((HZ0.out.up (Up.refl _).drew).up HUa.out).up h9)
    have HR3 := Hid.of (HR1.out.up h9)
    clear h9 hO hS
    obtain ⟨L5, hL5⟩ : ∃ L5, (pdd bd pad).length = L5 := ⟨_, rfl⟩
    have HL5 := Hid.of hL5
    rw [hL5] at HO2 ⊢
    clear hL5
    dsimp only
    refine hK.out _ _ ⟨HA2.out, HZ2.out, HU2.out⟩ (fun hS => ?_)
    clear hK K
    have HO3 := Hid.of HO2.out
    clear HO2
    refine wpAnyH_take (i := 11) (oi := { dst := some 16, op := Go.Op.build 36 #[(0, Go.Operand.tmp 6), (1, Go.Operand.tmp 8), (2, Go.Operand.tmp 10), (4, Go.Operand.tmp 15)], type := 36, pos := "law.go:106", after := #[{ on := 1, ground := Go.Ground.data }, { on := 3, ground := Go.Ground.data }, { on := 5, ground := Go.Ground.data }, { on := 10, ground := Go.Ground.data }], guard := none }) (v := .agg #[.string m, .string t, .int .i64 mi, .slice none 0 0, .slice a5 L5 c5, .bool false]) rfl (by kernel_rfl) (by kernel_rfl) (by kernel_rfl) (fun _ _ _ h => h) (Or.inl ⟨by kernel_rfl, ?_⟩) hS ?_
    · intro w5 hSw
      clear hSw hS
      go_simp
    simp only [Act.put, List.setIfInBounds_toArray, List.set_cons_zero, List.set_cons_succ]
    refine wpAnyH_ready (rs := [13]) (by kernel_rfl) (by simp) ?_
    refine AllReadyH.cons (o := { dst := none, op := Go.Op.store 36 (Go.Operand.tmp 3) (Go.Operand.tmp 16), type := 0, pos := "law.go:106", after := #[{ on := 12, ground := Go.Ground.data }, { on := 11, ground := Go.Ground.data }, { on := 10, ground := Go.Ground.chain }, { on := 0, ground := Go.Ground.phase }, { on := 1, ground := Go.Ground.phase }, { on := 2, ground := Go.Ground.phase }, { on := 3, ground := Go.Ground.phase }, { on := 4, ground := Go.Ground.phase }, { on := 5, ground := Go.Ground.phase }, { on := 6, ground := Go.Ground.phase }, { on := 7, ground := Go.Ground.phase }, { on := 8, ground := Go.Ground.phase }, { on := 9, ground := Go.Ground.phase }, { on := 10, ground := Go.Ground.phase }, { on := 11, ground := Go.Ground.phase }, { on := 12, ground := Go.Ground.phase }], guard := none }) rfl (fun K hK => oper_of_list ?_) AllReadyH.nil
    refine wpList_store_at rfl 36 _ _ rfl (w1.heap.size) HR3.out ([.string m, .string t, .int .i64 mi, .slice none 0 0, .slice a5 L5 c5, .bool false]) rfl rfl rfl (by kernel_rfl) (by kernel_rfl) ?_
    intro w4 hA4 hg4
    have HR4 := Hid.of hA4
    have HU4 := Hid.of (hS.2.2.by hg4 (fun g hg => by have := Option.some.inj hg; have := HBr.out; omega))
    have HA4 := Hid.of (hS.1.by hg4 (fun e => by have := Option.some.inj e; have := HBr.out; omega))
    have HZ4 := Hid.of (hS.2.1.by hg4 (fun e => by have := Option.some.inj e; have := HBr.out; omega))
    have HO4 := Hid.of (HO3.out.kept hg4 (.inr (own_ne HO3.out HR3.out (by decide))))
    clear hA4 hg4 HR3 HO3
    refine hK.out _ _ ⟨HA4.out, HZ4.out, HU4.out⟩ (fun hS => ?_)
    clear hK K hS
    refine wpAnyH_done (by kernel_rfl) ?_ _
    obtain ⟨Br, hBr⟩ : ∃ Br, w1.heap.size = Br := ⟨_, rfl⟩
    rw [hBr] at HR4 HBr ⊢
    clear hBr
    go_wp2
    go_loopw [4] (fun v4 wr => ∃ i : Nat, v4 = .int .i64 (i : Int) ∧ i ≤ ns.length ∧ Hid (∃ a7 c7, At wr Br 36 [.string m, .string t, .int .i64 mi, .slice a7 i c7, .slice a5 L5 c5, .bool false] ∧ FdO wr w.heap.size a7 (F.take i) c7 ∧ wr.ownsRow w.heap.size 5 1 (.slice a5 L5 c5) L5 (cb (pdd bd pad)) ∧ At wr w.heap.size 25 [.string m, .string t, .int .i64 mi, .slice an ns.length cn, .slice av us.length cv, .slice ab nb cb', .int .i64 pad] ∧ At wr (w.heap.size + 1) 36 z6 ∧ Up w wr)) (fun v4 _ => ns.length - (intOf v4).toNat)
    case atStart => exact ⟨0, rfl, Nat.zero_le _, Hid.of ⟨none, 0, HR4.out, World.ownsRow_nil _ _ _ _, (by have h := HO4.out; rw [HL5.out] at h; exact h), HA4.out, HZ4.out, HU4.out⟩⟩
    case round =>
      obtain ⟨i, rfl, hi, hQ⟩ := hrel
      obtain ⟨a7, c7, q1, q2, q3, q4, q5, q6⟩ := hQ.out
      have HR7 := Hid.of q1
      have HF7 := Hid.of q2
      have HO7 := Hid.of q3
      have HA7 := Hid.of q4
      have HZ7 := Hid.of q5
      have HU7 := Hid.of q6
      have h3 := q4.cell (i := 3) rfl
      clear hQ q1 q2 q3 q4 q5 q6
      by_cases hil : i < ns.length
      · have hilz : (i : Int) < (ns.length : Int) := by omega
        have hif : i < F.length := by rw [HFl.out]; exact hil
        obtain ⟨b, off, han, k1⟩ := HN.out.cells i hil
        have HAn := Hid.of han
        clear han
        have HT := Hid.of (List.take_succ_eq_append_getElem hif)
        have HLn := Hid.of (show (F.take i).length = i by rw [List.length_take]; omega)
        have hfg := HFg.out i hil hif
        obtain ⟨f, hf⟩ : ∃ f, F[i] = f := ⟨_, rfl⟩
        rw [hf] at HT hfg
        have HFv := Hid.of (show vat us i = f.v by rw [hfg])
        have HK1 := Hid.of (show w.cell? ⟨b, off + i, none⟩ = some (.string f.n) by rw [k1, hfg])
        clear hf hfg k1
        have HRd := Hid.of (HR7.out.up (Up.refl wr).drew)
        have HFd := Hid.of (ow_up HF7.out (Up.refl wr).drew)
        have HFd' := Hid.of (show wr.drew.ownsRow w.heap.size 87 2 (.slice a7 i c7) i (fdc (F.take i)) by have := HFd.out; rw [HLn.out] at this; exact this)
        have HOd := Hid.of (ow_up HO7.out (Up.refl wr).drew)
        have HAd := Hid.of (HA7.out.up (Up.refl wr).drew)
        have HZd := Hid.of (HZ7.out.up (Up.refl wr).drew)
        go_wp2
        refine wp_region_held_drew (S := fun w2 => At w2 w.heap.size 25 [.string m, .string t, .int .i64 mi, .slice an ns.length cn, .slice av us.length cv, .slice ab nb cb', .int .i64 pad] ∧ At w2 (w.heap.size + 1) 36 z6 ∧ Up w w2) (by kernel_rfl) ⟨HA7.out.up (Up.refl _).drew, HZ7.out.up (Up.refl _).drew, HU7.out.drew⟩ (fun hS => ?_)
        refine wpAnyH_take (i := 0) (oi := { dst := some 24, op := Go.Op.fieldAddr 36 (Go.Operand.tmp 3) 3, type := 0, pos := "law.go:108", after := #[], guard := none }) (v := .pointer (some ⟨Br, 3, none⟩)) rfl (by kernel_rfl) (by kernel_rfl) (by kernel_rfl) (fun _ _ _ h => h) (Or.inl ⟨by kernel_rfl, ?_⟩) hS ?_
        · intro w5 hSw
          clear hSw hS
          go_simp
        simp only [Act.put, List.setIfInBounds_toArray, List.set_cons_zero, List.set_cons_succ]
        refine wpAnyH_take (i := 2) (oi := { dst := some 26, op := Go.Op.fieldAddr 25 (Go.Operand.tmp 1) 3, type := 0, pos := "law.go:108", after := #[], guard := none }) (v := .pointer (some ⟨w.heap.size, 3, none⟩)) rfl (by kernel_rfl) (by kernel_rfl) (by kernel_rfl) (fun _ _ _ h => h) (Or.inl ⟨by kernel_rfl, ?_⟩) hS ?_
        · intro w5 hSw
          clear hSw hS
          go_simp
        simp only [Act.put, List.setIfInBounds_toArray, List.set_cons_zero, List.set_cons_succ]
        refine wpAnyH_take (i := 3) (oi := { dst := some 27, op := Go.Op.load 22 (Go.Operand.tmp 26), type := 22, pos := "law.go:108", after := #[{ on := 2, ground := Go.Ground.data }], guard := none }) (v := .slice (some ⟨b, off, none⟩) ns.length cn) rfl (by kernel_rfl) (by kernel_rfl) (by kernel_rfl) (fun _ _ _ h => h) (Or.inl ⟨by kernel_rfl, ?_⟩) hS ?_
        · intro w5 hSw
          have h0 := hSw.1.cell (i := 3) rfl
          rw [HAn.out] at h0
          clear hSw hS
          go_simp
        simp only [Act.put, List.setIfInBounds_toArray, List.set_cons_zero, List.set_cons_succ]
        refine wpAnyH_take (i := 4) (oi := { dst := some 28, op := Go.Op.move (Go.Operand.tmp 4), type := 3, pos := "law.go:108", after := #[], guard := none }) (v := .int .i64 (i : Int)) rfl (by kernel_rfl) (by kernel_rfl) (by kernel_rfl) (fun _ _ _ h => h) (Or.inl ⟨by kernel_rfl, ?_⟩) hS ?_
        · intro w5 hSw
          clear hSw hS
          go_simp
        simp only [Act.put, List.setIfInBounds_toArray, List.set_cons_zero, List.set_cons_succ]
        refine wpAnyH_take (i := 5) (oi := { dst := some 29, op := Go.Op.indexAddr 22 (Go.Operand.tmp 27) (Go.Operand.tmp 28), type := 0, pos := "law.go:108", after := #[{ on := 3, ground := Go.Ground.data }, { on := 4, ground := Go.Ground.data }], guard := none }) (v := .pointer (some ⟨b, off + i, none⟩)) rfl (by kernel_rfl) (by kernel_rfl) (by kernel_rfl) (fun _ _ _ h => h) (Or.inl ⟨by kernel_rfl, ?_⟩) hS ?_
        · intro w5 hSw
          clear hSw hS
          go_simp
        simp only [Act.put, List.setIfInBounds_toArray, List.set_cons_zero, List.set_cons_succ]
        refine wpAnyH_take (i := 6) (oi := { dst := some 30, op := Go.Op.load 9 (Go.Operand.tmp 29), type := 9, pos := "law.go:108", after := #[{ on := 5, ground := Go.Ground.data }], guard := none }) (v := .string f.n) rfl (by kernel_rfl) (by kernel_rfl) (by kernel_rfl) (fun _ _ _ h => h) (Or.inl ⟨by kernel_rfl, ?_⟩) hS ?_
        · intro w5 hSw
          have h0 := hSw.2.2.cell HK1.out
          clear hSw hS
          go_simp
        simp only [Act.put, List.setIfInBounds_toArray, List.set_cons_zero, List.set_cons_succ]
        refine wpAnyH_take (i := 7) (oi := { dst := some 31, op := Go.Op.fieldAddr 25 (Go.Operand.tmp 1) 4, type := 0, pos := "law.go:108", after := #[], guard := none }) (v := .pointer (some ⟨w.heap.size, 4, none⟩)) rfl (by kernel_rfl) (by kernel_rfl) (by kernel_rfl) (fun _ _ _ h => h) (Or.inl ⟨by kernel_rfl, ?_⟩) hS ?_
        · intro w5 hSw
          clear hSw hS
          go_simp
        simp only [Act.put, List.setIfInBounds_toArray, List.set_cons_zero, List.set_cons_succ]
        refine wpAnyH_take (i := 8) (oi := { dst := some 32, op := Go.Op.load 22 (Go.Operand.tmp 31), type := 22, pos := "law.go:108", after := #[{ on := 7, ground := Go.Ground.data }], guard := none }) (v := .slice av us.length cv) rfl (by kernel_rfl) (by kernel_rfl) (by kernel_rfl) (fun _ _ _ h => h) (Or.inl ⟨by kernel_rfl, ?_⟩) hS ?_
        · intro w5 hSw
          have h0 := hSw.1.cell (i := 4) rfl
          clear hSw hS
          go_simp
        simp only [Act.put, List.setIfInBounds_toArray, List.set_cons_zero, List.set_cons_succ]
        refine wpAnyH_take (i := 9) (oi := { dst := some 33, op := Go.Op.move (Go.Operand.tmp 4), type := 3, pos := "law.go:108", after := #[], guard := none }) (v := .int .i64 (i : Int)) rfl (by kernel_rfl) (by kernel_rfl) (by kernel_rfl) (fun _ _ _ h => h) (Or.inl ⟨by kernel_rfl, ?_⟩) hS ?_
        · intro w5 hSw
          clear hSw hS
          go_simp
        simp only [Act.put, List.setIfInBounds_toArray, List.set_cons_zero, List.set_cons_succ]
        refine wpAnyH_ready (rs := [1, 10]) (by kernel_rfl) (by simp) ?_
        refine AllReadyH.cons (o := { dst := some 25, op := Go.Op.load 34 (Go.Operand.tmp 24), type := 34, pos := "law.go:108", after := #[{ on := 0, ground := Go.Ground.data }], guard := none }) rfl (fun K hK => ?_) (AllReadyH.cons (o := { dst := some 34, op := Go.Op.call { callee := Go.Callee.value (Go.Operand.func 39), args := #[Go.Operand.tmp 32, Go.Operand.tmp 33], argTypes := #[22, 3] }, type := 9, pos := "law.go:108", after := #[{ on := 8, ground := Go.Ground.data }, { on := 9, ground := Go.Ground.data }], guard := none }) rfl (fun K hK => ?_) AllReadyH.nil)
        · rw [if_pos (by kernel_rfl)]
          have k3 := HRd.out.cell (i := 3) rfl
          go_simp
          refine hK.out _ _ hS (fun hS => ?_)
          clear hK K k3
          refine wpAnyH_ready (rs := [10]) (by kernel_rfl) (by simp) ?_
          refine AllReadyH.cons (o := { dst := some 34, op := Go.Op.call { callee := Go.Callee.value (Go.Operand.func 39), args := #[Go.Operand.tmp 32, Go.Operand.tmp 33], argTypes := #[22, 3] }, type := 9, pos := "law.go:108", after := #[{ on := 8, ground := Go.Ground.data }, { on := 9, ground := Go.Ground.data }], guard := none }) rfl (fun K hK => ?_) AllReadyH.nil
          rw [if_pos (by kernel_rfl)]
          go_simp
          refine (value_walk av us cv i wr.drew (HV.out.up HU7.out.drew)).mono ?_
          rintro e w5 ⟨rfl, h9⟩
          obtain rfl := h9.symm
          clear h9
          rw [HFv.out]
          dsimp only
          refine hK.out _ _ hS (fun hS => ?_)
          clear hK K
          refine wpAnyH_take (i := 11) (oi := { dst := some 35, op := Go.Op.build 87 #[(0, Go.Operand.tmp 30), (1, Go.Operand.tmp 34)], type := 87, pos := "law.go:108", after := #[{ on := 6, ground := Go.Ground.data }, { on := 10, ground := Go.Ground.data }], guard := none }) (v := .agg #[.string f.n, .string f.v]) rfl (by kernel_rfl) (by kernel_rfl) (by kernel_rfl) (fun _ _ _ h => h) (Or.inl ⟨by kernel_rfl, ?_⟩) hS ?_
          · intro w5 hSw
            clear hSw hS
            go_simp
          simp only [Act.put, List.setIfInBounds_toArray, List.set_cons_zero, List.set_cons_succ]
          refine wpAnyH_ready (rs := [12]) (by kernel_rfl) (by simp) ?_
          refine AllReadyH.cons (o := { dst := some 36, op := Go.Op.buildSlice 34 1 #[(0, Go.Operand.tmp 35)], type := 34, pos := "law.go:108", after := #[{ on := 11, ground := Go.Ground.data }], guard := none }) rfl (fun K hK => ?_) AllReadyH.nil
          rw [if_pos (by kernel_rfl)]
          go_simp
          refine hK.out _ _ ⟨hS.1.up ((Up.refl _).alloc _), hS.2.1.up ((Up.refl _).alloc _), hS.2.2.alloc _⟩ (fun hS => ?_)
          clear hK K
          refine wpAnyH_ready (rs := [13]) (by kernel_rfl) (by simp) ?_
          refine AllReadyH.cons (o := { dst := some 37, op := Go.Op.call { callee := Go.Callee.builtin Go.Builtin.append, args := #[Go.Operand.tmp 25, Go.Operand.tmp 36], argTypes := #[34, 34] }, type := 34, pos := "law.go:108", after := #[{ on := 1, ground := Go.Ground.data }, { on := 12, ground := Go.Ground.data }, { on := 10, ground := Go.Ground.chain }], guard := none }) rfl (fun K hK => oper_of_list ?_) AllReadyH.nil
          refine wpList_appFd (w := wr.drew) (N := w.heap.size) rfl _ _ rfl a7 c7 (F.take i) f HLn.out rfl rfl HFd.out HU7.out.drew.size (by omega) ?_
          intro ax2 cx2 w7 o7 u7 g7
          have HU8 := Hid.of (u7 w HU7.out.drew (Nat.le_refl _))
          have HR8 := Hid.of (HRd.out.by g7 (own_ne HFd'.out HRd.out (by decide)))
          have HA8 := Hid.of (HAd.out.by g7 (own_ne HFd'.out HAd.out (by decide)))
          have HZ8 := Hid.of (HZd.out.by g7 (own_ne HFd'.out HZd.out (by decide)))
          have HB8 := Hid.of (HOd.out.kept g7 (own_off HOd.out HFd'.out (by decide)))
          have HF8 := Hid.of (show FdO w7 w.heap.size ax2 (F.take (i + 1)) cx2 by rw [HT.out]; exact o7)
          clear o7 u7 g7
          refine hK.out _ _ ⟨HA8.out, HZ8.out, HU8.out⟩ (fun hS => ?_)
          clear hK K
          simp only [Act.put, List.setIfInBounds_toArray, List.set_cons_zero, List.set_cons_succ]
          refine wpAnyH_take (i := 14) (oi := { dst := some 38, op := Go.Op.fieldAddr 36 (Go.Operand.tmp 3) 3, type := 0, pos := "law.go:108", after := #[{ on := 0, ground := Go.Ground.phase }, { on := 1, ground := Go.Ground.phase }, { on := 2, ground := Go.Ground.phase }, { on := 3, ground := Go.Ground.phase }, { on := 4, ground := Go.Ground.phase }, { on := 5, ground := Go.Ground.phase }, { on := 6, ground := Go.Ground.phase }, { on := 7, ground := Go.Ground.phase }, { on := 8, ground := Go.Ground.phase }, { on := 9, ground := Go.Ground.phase }, { on := 10, ground := Go.Ground.phase }, { on := 11, ground := Go.Ground.phase }, { on := 12, ground := Go.Ground.phase }, { on := 13, ground := Go.Ground.phase }], guard := none }) (v := .pointer (some ⟨Br, 3, none⟩)) rfl (by kernel_rfl) (by kernel_rfl) (by kernel_rfl) (fun _ _ _ h => h) (Or.inl ⟨by kernel_rfl, ?_⟩) hS ?_
          · intro w5 hSw
            clear hSw hS
            go_simp
          simp only [Act.put, List.setIfInBounds_toArray, List.set_cons_zero, List.set_cons_succ]
          refine wpAnyH_ready (rs := [15]) (by kernel_rfl) (by simp) ?_
          refine AllReadyH.cons (o := { dst := none, op := Go.Op.store 34 (Go.Operand.tmp 38) (Go.Operand.tmp 37), type := 0, pos := "law.go:108", after := #[{ on := 14, ground := Go.Ground.data }, { on := 13, ground := Go.Ground.data }, { on := 13, ground := Go.Ground.chain }, { on := 0, ground := Go.Ground.phase }, { on := 1, ground := Go.Ground.phase }, { on := 2, ground := Go.Ground.phase }, { on := 3, ground := Go.Ground.phase }, { on := 4, ground := Go.Ground.phase }, { on := 5, ground := Go.Ground.phase }, { on := 6, ground := Go.Ground.phase }, { on := 7, ground := Go.Ground.phase }, { on := 8, ground := Go.Ground.phase }, { on := 9, ground := Go.Ground.phase }, { on := 10, ground := Go.Ground.phase }, { on := 11, ground := Go.Ground.phase }, { on := 12, ground := Go.Ground.phase }, { on := 13, ground := Go.Ground.phase }], guard := none }) rfl (fun K hK => ?_) AllReadyH.nil
          have k3 := HR8.out.cell (i := 3) rfl
          have f3 := HR8.out.thaw 3
          have G8 := grown_set1 w7 Br 3 (.slice ax2 (i + 1) cx2)
          have HR9 := Hid.of (HR8.out.set 3 (.slice ax2 (i + 1) cx2))
          have HU9 := Hid.of (HU8.out.by G8 (fun g hg => by have := Option.some.inj hg; have := HBr.out; omega))
          have HA9 := Hid.of (HA8.out.by G8 (fun e => by have := Option.some.inj e; have := HBr.out; omega))
          have HZ9 := Hid.of (HZ8.out.by G8 (fun e => by have := Option.some.inj e; have := HBr.out; omega))
          have HB9 := Hid.of (HB8.out.kept G8 (.inr (own_ne HB8.out HR8.out (by decide))))
          have HF9 := Hid.of (show FdO (w7.setCell ⟨Br, 3, none⟩ (.slice ax2 (i + 1) cx2)) w.heap.size ax2 (F.take (i + 1)) cx2 from HF8.out.kept G8 (.inr (own_ne HF8.out HR8.out (by decide))))
          clear G8
          rw [if_pos (by kernel_rfl)]
          go_simp
          refine hK.out _ _ ⟨HA9.out, HZ9.out, HU9.out⟩ (fun hS => ?_)
          clear hK K hS
          refine wpAnyH_done (by kernel_rfl) ?_ _
          go_wp2
          go_roundw
          all_goals first
            | exact ⟨i + 1, by go_num, by omega, Hid.of ⟨ax2, cx2, HR9.out, HF9.out, HB9.out, HA9.out, HZ9.out, HU9.out⟩⟩
            | (simp [intOf]; omega)
        · rw [if_pos (by kernel_rfl)]
          go_simp
          refine (value_walk av us cv i wr.drew (HV.out.up HU7.out.drew)).mono ?_
          rintro e w5 ⟨rfl, h9⟩
          obtain rfl := h9.symm
          clear h9
          rw [HFv.out]
          dsimp only
          refine hK.out _ _ hS (fun hS => ?_)
          clear hK K
          refine wpAnyH_take (i := 11) (oi := { dst := some 35, op := Go.Op.build 87 #[(0, Go.Operand.tmp 30), (1, Go.Operand.tmp 34)], type := 87, pos := "law.go:108", after := #[{ on := 6, ground := Go.Ground.data }, { on := 10, ground := Go.Ground.data }], guard := none }) (v := .agg #[.string f.n, .string f.v]) rfl (by kernel_rfl) (by kernel_rfl) (by kernel_rfl) (fun _ _ _ h => h) (Or.inl ⟨by kernel_rfl, ?_⟩) hS ?_
          · intro w5 hSw
            clear hSw hS
            go_simp
          simp only [Act.put, List.setIfInBounds_toArray, List.set_cons_zero, List.set_cons_succ]
          refine wpAnyH_ready (rs := [1, 12]) (by kernel_rfl) (by simp) ?_
          refine AllReadyH.cons (o := { dst := some 25, op := Go.Op.load 34 (Go.Operand.tmp 24), type := 34, pos := "law.go:108", after := #[{ on := 0, ground := Go.Ground.data }], guard := none }) rfl (fun K hK => ?_) (AllReadyH.cons (o := { dst := some 36, op := Go.Op.buildSlice 34 1 #[(0, Go.Operand.tmp 35)], type := 34, pos := "law.go:108", after := #[{ on := 11, ground := Go.Ground.data }], guard := none }) rfl (fun K hK => ?_) AllReadyH.nil)
          · rw [if_pos (by kernel_rfl)]
            have k3 := HRd.out.cell (i := 3) rfl
            go_simp
            refine hK.out _ _ hS (fun hS => ?_)
            clear hK K k3
            refine wpAnyH_ready (rs := [12]) (by kernel_rfl) (by simp) ?_
            refine AllReadyH.cons (o := { dst := some 36, op := Go.Op.buildSlice 34 1 #[(0, Go.Operand.tmp 35)], type := 34, pos := "law.go:108", after := #[{ on := 11, ground := Go.Ground.data }], guard := none }) rfl (fun K hK => ?_) AllReadyH.nil
            rw [if_pos (by kernel_rfl)]
            go_simp
            refine hK.out _ _ ⟨hS.1.up ((Up.refl _).alloc _), hS.2.1.up ((Up.refl _).alloc _), hS.2.2.alloc _⟩ (fun hS => ?_)
            clear hK K
            refine wpAnyH_ready (rs := [13]) (by kernel_rfl) (by simp) ?_
            refine AllReadyH.cons (o := { dst := some 37, op := Go.Op.call { callee := Go.Callee.builtin Go.Builtin.append, args := #[Go.Operand.tmp 25, Go.Operand.tmp 36], argTypes := #[34, 34] }, type := 34, pos := "law.go:108", after := #[{ on := 1, ground := Go.Ground.data }, { on := 12, ground := Go.Ground.data }, { on := 10, ground := Go.Ground.chain }], guard := none }) rfl (fun K hK => oper_of_list ?_) AllReadyH.nil
            refine wpList_appFd (w := wr.drew) (N := w.heap.size) rfl _ _ rfl a7 c7 (F.take i) f HLn.out rfl rfl HFd.out HU7.out.drew.size (by omega) ?_
            intro ax2 cx2 w7 o7 u7 g7
            have HU8 := Hid.of (u7 w HU7.out.drew (Nat.le_refl _))
            have HR8 := Hid.of (HRd.out.by g7 (own_ne HFd'.out HRd.out (by decide)))
            have HA8 := Hid.of (HAd.out.by g7 (own_ne HFd'.out HAd.out (by decide)))
            have HZ8 := Hid.of (HZd.out.by g7 (own_ne HFd'.out HZd.out (by decide)))
            have HB8 := Hid.of (HOd.out.kept g7 (own_off HOd.out HFd'.out (by decide)))
            have HF8 := Hid.of (show FdO w7 w.heap.size ax2 (F.take (i + 1)) cx2 by rw [HT.out]; exact o7)
            clear o7 u7 g7
            refine hK.out _ _ ⟨HA8.out, HZ8.out, HU8.out⟩ (fun hS => ?_)
            clear hK K
            simp only [Act.put, List.setIfInBounds_toArray, List.set_cons_zero, List.set_cons_succ]
            refine wpAnyH_take (i := 14) (oi := { dst := some 38, op := Go.Op.fieldAddr 36 (Go.Operand.tmp 3) 3, type := 0, pos := "law.go:108", after := #[{ on := 0, ground := Go.Ground.phase }, { on := 1, ground := Go.Ground.phase }, { on := 2, ground := Go.Ground.phase }, { on := 3, ground := Go.Ground.phase }, { on := 4, ground := Go.Ground.phase }, { on := 5, ground := Go.Ground.phase }, { on := 6, ground := Go.Ground.phase }, { on := 7, ground := Go.Ground.phase }, { on := 8, ground := Go.Ground.phase }, { on := 9, ground := Go.Ground.phase }, { on := 10, ground := Go.Ground.phase }, { on := 11, ground := Go.Ground.phase }, { on := 12, ground := Go.Ground.phase }, { on := 13, ground := Go.Ground.phase }], guard := none }) (v := .pointer (some ⟨Br, 3, none⟩)) rfl (by kernel_rfl) (by kernel_rfl) (by kernel_rfl) (fun _ _ _ h => h) (Or.inl ⟨by kernel_rfl, ?_⟩) hS ?_
            · intro w5 hSw
              clear hSw hS
              go_simp
            simp only [Act.put, List.setIfInBounds_toArray, List.set_cons_zero, List.set_cons_succ]
            refine wpAnyH_ready (rs := [15]) (by kernel_rfl) (by simp) ?_
            refine AllReadyH.cons (o := { dst := none, op := Go.Op.store 34 (Go.Operand.tmp 38) (Go.Operand.tmp 37), type := 0, pos := "law.go:108", after := #[{ on := 14, ground := Go.Ground.data }, { on := 13, ground := Go.Ground.data }, { on := 13, ground := Go.Ground.chain }, { on := 0, ground := Go.Ground.phase }, { on := 1, ground := Go.Ground.phase }, { on := 2, ground := Go.Ground.phase }, { on := 3, ground := Go.Ground.phase }, { on := 4, ground := Go.Ground.phase }, { on := 5, ground := Go.Ground.phase }, { on := 6, ground := Go.Ground.phase }, { on := 7, ground := Go.Ground.phase }, { on := 8, ground := Go.Ground.phase }, { on := 9, ground := Go.Ground.phase }, { on := 10, ground := Go.Ground.phase }, { on := 11, ground := Go.Ground.phase }, { on := 12, ground := Go.Ground.phase }, { on := 13, ground := Go.Ground.phase }], guard := none }) rfl (fun K hK => ?_) AllReadyH.nil
            have k3 := HR8.out.cell (i := 3) rfl
            have f3 := HR8.out.thaw 3
            have G8 := grown_set1 w7 Br 3 (.slice ax2 (i + 1) cx2)
            have HR9 := Hid.of (HR8.out.set 3 (.slice ax2 (i + 1) cx2))
            have HU9 := Hid.of (HU8.out.by G8 (fun g hg => by have := Option.some.inj hg; have := HBr.out; omega))
            have HA9 := Hid.of (HA8.out.by G8 (fun e => by have := Option.some.inj e; have := HBr.out; omega))
            have HZ9 := Hid.of (HZ8.out.by G8 (fun e => by have := Option.some.inj e; have := HBr.out; omega))
            have HB9 := Hid.of (HB8.out.kept G8 (.inr (own_ne HB8.out HR8.out (by decide))))
            have HF9 := Hid.of (show FdO (w7.setCell ⟨Br, 3, none⟩ (.slice ax2 (i + 1) cx2)) w.heap.size ax2 (F.take (i + 1)) cx2 from HF8.out.kept G8 (.inr (own_ne HF8.out HR8.out (by decide))))
            clear G8
            rw [if_pos (by kernel_rfl)]
            go_simp
            refine hK.out _ _ ⟨HA9.out, HZ9.out, HU9.out⟩ (fun hS => ?_)
            clear hK K hS
            refine wpAnyH_done (by kernel_rfl) ?_ _
            go_wp2
            go_roundw
            all_goals first
              | exact ⟨i + 1, by go_num, by omega, Hid.of ⟨ax2, cx2, HR9.out, HF9.out, HB9.out, HA9.out, HZ9.out, HU9.out⟩⟩
              | (simp [intOf]; omega)
          · rw [if_pos (by kernel_rfl)]
            go_simp
            refine hK.out _ _ ⟨hS.1.up ((Up.refl _).alloc _), hS.2.1.up ((Up.refl _).alloc _), hS.2.2.alloc _⟩ (fun hS => ?_)
            clear hK K
            refine wpAnyH_ready (rs := [1]) (by kernel_rfl) (by simp) ?_
            refine AllReadyH.cons (o := { dst := some 25, op := Go.Op.load 34 (Go.Operand.tmp 24), type := 34, pos := "law.go:108", after := #[{ on := 0, ground := Go.Ground.data }], guard := none }) rfl (fun K hK => ?_) AllReadyH.nil
            rw [if_pos (by kernel_rfl)]
            have k3 := ((HR7.out.up ((Up.refl wr).alloc (.cells #[.string f.n, .string f.v] 87))).up (Up.refl _).drew).cell (i := 3) rfl
            go_simp
            refine hK.out _ _ hS (fun hS => ?_)
            clear hK K k3
            refine wpAnyH_ready (rs := [13]) (by kernel_rfl) (by simp) ?_
            refine AllReadyH.cons (o := { dst := some 37, op := Go.Op.call { callee := Go.Callee.builtin Go.Builtin.append, args := #[Go.Operand.tmp 25, Go.Operand.tmp 36], argTypes := #[34, 34] }, type := 34, pos := "law.go:108", after := #[{ on := 1, ground := Go.Ground.data }, { on := 12, ground := Go.Ground.data }, { on := 10, ground := Go.Ground.chain }], guard := none }) rfl (fun K hK => oper_of_list ?_) AllReadyH.nil
            refine wpList_appFd (w := wr.drew) (N := w.heap.size) rfl _ _ rfl a7 c7 (F.take i) f HLn.out rfl rfl HFd.out HU7.out.drew.size (by omega) ?_
            intro ax2 cx2 w7 o7 u7 g7
            have HU8 := Hid.of (u7 w HU7.out.drew (Nat.le_refl _))
            have HR8 := Hid.of (HRd.out.by g7 (own_ne HFd'.out HRd.out (by decide)))
            have HA8 := Hid.of (HAd.out.by g7 (own_ne HFd'.out HAd.out (by decide)))
            have HZ8 := Hid.of (HZd.out.by g7 (own_ne HFd'.out HZd.out (by decide)))
            have HB8 := Hid.of (HOd.out.kept g7 (own_off HOd.out HFd'.out (by decide)))
            have HF8 := Hid.of (show FdO w7 w.heap.size ax2 (F.take (i + 1)) cx2 by rw [HT.out]; exact o7)
            clear o7 u7 g7
            refine hK.out _ _ ⟨HA8.out, HZ8.out, HU8.out⟩ (fun hS => ?_)
            clear hK K
            simp only [Act.put, List.setIfInBounds_toArray, List.set_cons_zero, List.set_cons_succ]
            refine wpAnyH_take (i := 14) (oi := { dst := some 38, op := Go.Op.fieldAddr 36 (Go.Operand.tmp 3) 3, type := 0, pos := "law.go:108", after := #[{ on := 0, ground := Go.Ground.phase }, { on := 1, ground := Go.Ground.phase }, { on := 2, ground := Go.Ground.phase }, { on := 3, ground := Go.Ground.phase }, { on := 4, ground := Go.Ground.phase }, { on := 5, ground := Go.Ground.phase }, { on := 6, ground := Go.Ground.phase }, { on := 7, ground := Go.Ground.phase }, { on := 8, ground := Go.Ground.phase }, { on := 9, ground := Go.Ground.phase }, { on := 10, ground := Go.Ground.phase }, { on := 11, ground := Go.Ground.phase }, { on := 12, ground := Go.Ground.phase }, { on := 13, ground := Go.Ground.phase }], guard := none }) (v := .pointer (some ⟨Br, 3, none⟩)) rfl (by kernel_rfl) (by kernel_rfl) (by kernel_rfl) (fun _ _ _ h => h) (Or.inl ⟨by kernel_rfl, ?_⟩) hS ?_
            · intro w5 hSw
              clear hSw hS
              go_simp
            simp only [Act.put, List.setIfInBounds_toArray, List.set_cons_zero, List.set_cons_succ]
            refine wpAnyH_ready (rs := [15]) (by kernel_rfl) (by simp) ?_
            refine AllReadyH.cons (o := { dst := none, op := Go.Op.store 34 (Go.Operand.tmp 38) (Go.Operand.tmp 37), type := 0, pos := "law.go:108", after := #[{ on := 14, ground := Go.Ground.data }, { on := 13, ground := Go.Ground.data }, { on := 13, ground := Go.Ground.chain }, { on := 0, ground := Go.Ground.phase }, { on := 1, ground := Go.Ground.phase }, { on := 2, ground := Go.Ground.phase }, { on := 3, ground := Go.Ground.phase }, { on := 4, ground := Go.Ground.phase }, { on := 5, ground := Go.Ground.phase }, { on := 6, ground := Go.Ground.phase }, { on := 7, ground := Go.Ground.phase }, { on := 8, ground := Go.Ground.phase }, { on := 9, ground := Go.Ground.phase }, { on := 10, ground := Go.Ground.phase }, { on := 11, ground := Go.Ground.phase }, { on := 12, ground := Go.Ground.phase }, { on := 13, ground := Go.Ground.phase }], guard := none }) rfl (fun K hK => ?_) AllReadyH.nil
            have k3 := HR8.out.cell (i := 3) rfl
            have f3 := HR8.out.thaw 3
            have G8 := grown_set1 w7 Br 3 (.slice ax2 (i + 1) cx2)
            have HR9 := Hid.of (HR8.out.set 3 (.slice ax2 (i + 1) cx2))
            have HU9 := Hid.of (HU8.out.by G8 (fun g hg => by have := Option.some.inj hg; have := HBr.out; omega))
            have HA9 := Hid.of (HA8.out.by G8 (fun e => by have := Option.some.inj e; have := HBr.out; omega))
            have HZ9 := Hid.of (HZ8.out.by G8 (fun e => by have := Option.some.inj e; have := HBr.out; omega))
            have HB9 := Hid.of (HB8.out.kept G8 (.inr (own_ne HB8.out HR8.out (by decide))))
            have HF9 := Hid.of (show FdO (w7.setCell ⟨Br, 3, none⟩ (.slice ax2 (i + 1) cx2)) w.heap.size ax2 (F.take (i + 1)) cx2 from HF8.out.kept G8 (.inr (own_ne HF8.out HR8.out (by decide))))
            clear G8
            rw [if_pos (by kernel_rfl)]
            go_simp
            refine hK.out _ _ ⟨HA9.out, HZ9.out, HU9.out⟩ (fun hS => ?_)
            clear hK K hS
            refine wpAnyH_done (by kernel_rfl) ?_ _
            go_wp2
            go_roundw
            all_goals first
              | exact ⟨i + 1, by go_num, by omega, Hid.of ⟨ax2, cx2, HR9.out, HF9.out, HB9.out, HA9.out, HZ9.out, HU9.out⟩⟩
              | (simp [intOf]; omega)
      · have hilz : ¬ (i : Int) < (ns.length : Int) := by omega
        have hin : i = ns.length := by omega
        subst hin
        have HF8 := Hid.of (show FdO wr w.heap.size a7 F c7 by
          have h1 := HF7.out
          rw [List.take_of_length_le (by rw [HFl.out]; exact Nat.le_refl _)] at h1
          exact h1)
        go_wp2_with (with_reducible show wpList _ _ _ ({ dst := _, op := Op.load 36 _, type := _, pos := _, after := _, guard := _ } :: _) _ _; refine Shut.out ?_)
        show wpList _ _ _ _ _ _
        refine wpList_load_mid rfl _ _ rfl Br 0 rfl [.string m, .string t, .int .i64 mi, .slice a7 ns.length c7, .slice a5 L5 c5, .bool false] _ HR7.out.range Tryz.underlying36 rfl (by kernel_rfl) ?_
        simp only [Act.put, List.setIfInBounds_toArray, List.set_cons_zero, List.set_cons_succ]
        refine wpList_store_at rfl 36 _ _ rfl (w.heap.size + 1) HZ7.out [.string m, .string t, .int .i64 mi, .slice a7 ns.length c7, .slice a5 L5 c5, .bool false] rfl rfl rfl (by kernel_rfl) (by kernel_rfl) ?_
        intro w8 hA8 hg8
        have HA8 := Hid.of hA8
        have HU8 := Hid.of (HU7.out.by hg8 (fun g hg => by have := Option.some.inj hg; omega))
        have HF9 := Hid.of (show FdO w8 w.heap.size a7 F c7 from HF8.out.kept hg8 (.inr (own_ne HF8.out HZ7.out (by decide))))
        have HO9 := Hid.of (HO7.out.kept hg8 (.inr (own_ne HO7.out HZ7.out (by decide))))
        clear hA8 hg8
        simp only [Act.put]
        repeat go_step
        refine bodyPost_ret (results_agg1 Tryz.results13 _ _ (w.heap.size + 1) [.string m, .string t, .int .i64 mi, .slice a7 ns.length c7, .slice a5 L5 c5, .bool false] rfl HA8.out.range Tryz.underlying36 rfl (by kernel_rfl)) rfl ?_
        exact ⟨⟨a7, c7, _, rfl, Hid.of ⟨HF9.out, by unfold Ow; rw [HL5.out]; exact HO9.out⟩⟩, HU8.out⟩
end Go.Proofs.YtkaoalcffgnfeaaGreatDoor
namespace Go.Proofs.YtkaoalcffgnfeaaGreatDoor
open Go.RowKit Go.Shelf TextNum
set_option maxRecDepth 100000 in
set_option maxHeartbeats 8000000 in
theorem asked_walk (m t : ByteArray) (mi : Int) (an : Option Addr) (ns : List ByteArray) (cn : Nat) (av : Option Addr) (us : List ByteArray) (cv : Nat) (ab : Option Addr) (nb cb' : Nat) (bd : List UInt8) (pad : Int) (w : World) (hN : StL w an ns cn) (hV : StL w av us cv) (hB : Sb w (.slice ab nb cb') bd) (hnl : ns.length ≤ 1048576) (hbl : bd.length ≤ 1048576) :
    Calls Tryz.prog 11 #[.agg #[.string m, .string t, .int .i64 mi, .slice an ns.length cn, .slice av us.length cv, .slice ab nb cb', .int .i64 pad]] w fun e w' => (∃ a c v, e = .returned (.agg #[.string m, .string t, .int .i64 mi, .slice a ns.length c, v, .bool false]) ∧ Hid (RfO w' w.heap.size a (mkF ns us) c ∧ Ow w' w.heap.size v (pdd bd pad))) ∧ Up w w' := by
  have HN := Hid.of hN
  have HV := Hid.of hV
  have HB := Hid.of hB
  have hcap := hN.cap
  have hcapv := hV.cap
  obtain ⟨hbn, hbc, hbm⟩ := hB.len
  unfold maxLen at hbm
  clear hN hV hB hbn
  obtain ⟨F, hF⟩ : ∃ F, mkF ns us = F := ⟨_, rfl⟩
  have HFl := Hid.of (show F.length = ns.length by rw [← hF, mkF_len])
  have HFg := Hid.of (show ∀ i (h : i < ns.length) (h' : i < F.length), F[i] = ⟨ns[i], vat us i⟩ by subst hF; exact fun i h h' => mkF_get h h')
  rw [hF]
  clear hF
  have HA0 := Hid.of ((at_new w 25 [.string m, .string t, .int .i64 mi, .slice an ns.length cn, .slice av us.length cv, .slice ab nb cb', .int .i64 pad]).up ((Up.refl _).alloc (.cells z6.toArray 44)))
  have HZ0 := Hid.of (at_new (w.alloc (.cells [.string m, .string t, .int .i64 mi, .slice an ns.length cn, .slice av us.length cv, .slice ab nb cb', .int .i64 pad].toArray 25)) 44 z6)
  have HU0 := Hid.of (((Up.refl w).alloc (.cells [.string m, .string t, .int .i64 mi, .slice an ns.length cn, .slice av us.length cv, .slice ab nb cb', .int .i64 pad].toArray 25)).alloc (.cells z6.toArray 44))
  rw [alloc_size] at HZ0
  go_enter Tryz.func11, Tryz.ntmps11
  go_wp2
  obtain ⟨w1, hw1⟩ : ∃ w1, (w.alloc (.cells [.string m, .string t, .int .i64 mi, .slice an ns.length cn, .slice av us.length cv, .slice ab nb cb', .int .i64 pad].toArray 25)).alloc (.cells z6.toArray 44) = w1 := ⟨_, rfl⟩
  have HS1 := Hid.of (show w.heap.size + 1 < w1.heap.size by rw [← hw1, alloc_size, alloc_size]; omega)
  rw [hw1] at HA0 HU0 HZ0
  change Code.wp _ _ _ _ ((w.alloc (.cells [.string m, .string t, .int .i64 mi, .slice an ns.length cn, .slice av us.length cv, .slice ab nb cb', .int .i64 pad].toArray 25)).alloc (.cells z6.toArray 44))
  rw [hw1]
  clear hw1
  refine wp_region_held_drew (S := fun w2 => At w2 w.heap.size 25 [.string m, .string t, .int .i64 mi, .slice an ns.length cn, .slice av us.length cv, .slice ab nb cb', .int .i64 pad] ∧ At w2 (w.heap.size + 1) 44 z6 ∧ Up w w2) (by kernel_rfl) ⟨HA0.out.up (Up.refl _).drew, HZ0.out.up (Up.refl _).drew, HU0.out.drew⟩ (fun hS => ?_)
  refine wpAnyH_take (i := 0) (oi := { dst := some 5, op := Go.Op.fieldAddr 25 (Go.Operand.tmp 1) 0, type := 0, pos := "law.go:115", after := #[], guard := none }) (v := .pointer (some ⟨w.heap.size, 0, none⟩)) rfl (by kernel_rfl) (by kernel_rfl) (by kernel_rfl) (fun _ _ _ h => h) (Or.inl ⟨by kernel_rfl, ?_⟩) hS ?_
  · intro w5 hSw
    clear hSw hS
    go_simp
  simp only [Act.put, List.setIfInBounds_toArray, List.set_cons_zero, List.set_cons_succ]
  refine wpAnyH_take (i := 1) (oi := { dst := some 6, op := Go.Op.load 9 (Go.Operand.tmp 5), type := 9, pos := "law.go:115", after := #[{ on := 0, ground := Go.Ground.data }], guard := none }) (v := .string m) rfl (by kernel_rfl) (by kernel_rfl) (by kernel_rfl) (fun _ _ _ h => h) (Or.inl ⟨by kernel_rfl, ?_⟩) hS ?_
  · intro w5 hSw
    have h0 := hSw.1.cell (i := 0) rfl
    clear hSw hS
    go_simp
  simp only [Act.put, List.setIfInBounds_toArray, List.set_cons_zero, List.set_cons_succ]
  refine wpAnyH_take (i := 2) (oi := { dst := some 7, op := Go.Op.fieldAddr 25 (Go.Operand.tmp 1) 1, type := 0, pos := "law.go:115", after := #[], guard := none }) (v := .pointer (some ⟨w.heap.size, 1, none⟩)) rfl (by kernel_rfl) (by kernel_rfl) (by kernel_rfl) (fun _ _ _ h => h) (Or.inl ⟨by kernel_rfl, ?_⟩) hS ?_
  · intro w5 hSw
    clear hSw hS
    go_simp
  simp only [Act.put, List.setIfInBounds_toArray, List.set_cons_zero, List.set_cons_succ]
  refine wpAnyH_take (i := 3) (oi := { dst := some 8, op := Go.Op.load 9 (Go.Operand.tmp 7), type := 9, pos := "law.go:115", after := #[{ on := 2, ground := Go.Ground.data }], guard := none }) (v := .string t) rfl (by kernel_rfl) (by kernel_rfl) (by kernel_rfl) (fun _ _ _ h => h) (Or.inl ⟨by kernel_rfl, ?_⟩) hS ?_
  · intro w5 hSw
    have h0 := hSw.1.cell (i := 1) rfl
    clear hSw hS
    go_simp
  simp only [Act.put, List.setIfInBounds_toArray, List.set_cons_zero, List.set_cons_succ]
  refine wpAnyH_take (i := 4) (oi := { dst := some 9, op := Go.Op.fieldAddr 25 (Go.Operand.tmp 1) 2, type := 0, pos := "law.go:115", after := #[], guard := none }) (v := .pointer (some ⟨w.heap.size, 2, none⟩)) rfl (by kernel_rfl) (by kernel_rfl) (by kernel_rfl) (fun _ _ _ h => h) (Or.inl ⟨by kernel_rfl, ?_⟩) hS ?_
  · intro w5 hSw
    clear hSw hS
    go_simp
  simp only [Act.put, List.setIfInBounds_toArray, List.set_cons_zero, List.set_cons_succ]
  refine wpAnyH_take (i := 5) (oi := { dst := some 10, op := Go.Op.load 3 (Go.Operand.tmp 9), type := 3, pos := "law.go:115", after := #[{ on := 4, ground := Go.Ground.data }], guard := none }) (v := .int .i64 mi) rfl (by kernel_rfl) (by kernel_rfl) (by kernel_rfl) (fun _ _ _ h => h) (Or.inl ⟨by kernel_rfl, ?_⟩) hS ?_
  · intro w5 hSw
    have h0 := hSw.1.cell (i := 2) rfl
    clear hSw hS
    go_simp
  simp only [Act.put, List.setIfInBounds_toArray, List.set_cons_zero, List.set_cons_succ]
  refine wpAnyH_take (i := 6) (oi := { dst := some 11, op := Go.Op.fieldAddr 25 (Go.Operand.tmp 1) 5, type := 0, pos := "law.go:115", after := #[], guard := none }) (v := .pointer (some ⟨w.heap.size, 5, none⟩)) rfl (by kernel_rfl) (by kernel_rfl) (by kernel_rfl) (fun _ _ _ h => h) (Or.inl ⟨by kernel_rfl, ?_⟩) hS ?_
  · intro w5 hSw
    clear hSw hS
    go_simp
  simp only [Act.put, List.setIfInBounds_toArray, List.set_cons_zero, List.set_cons_succ]
  refine wpAnyH_take (i := 7) (oi := { dst := some 12, op := Go.Op.load 23 (Go.Operand.tmp 11), type := 23, pos := "law.go:115", after := #[{ on := 6, ground := Go.Ground.data }], guard := none }) (v := .slice ab nb cb') rfl (by kernel_rfl) (by kernel_rfl) (by kernel_rfl) (fun _ _ _ h => h) (Or.inl ⟨by kernel_rfl, ?_⟩) hS ?_
  · intro w5 hSw
    have h0 := hSw.1.cell (i := 5) rfl
    clear hSw hS
    go_simp
  simp only [Act.put, List.setIfInBounds_toArray, List.set_cons_zero, List.set_cons_succ]
  refine wpAnyH_take (i := 8) (oi := { dst := some 13, op := Go.Op.fieldAddr 25 (Go.Operand.tmp 1) 6, type := 0, pos := "law.go:115", after := #[], guard := none }) (v := .pointer (some ⟨w.heap.size, 6, none⟩)) rfl (by kernel_rfl) (by kernel_rfl) (by kernel_rfl) (fun _ _ _ h => h) (Or.inl ⟨by kernel_rfl, ?_⟩) hS ?_
  · intro w5 hSw
    clear hSw hS
    go_simp
  simp only [Act.put, List.setIfInBounds_toArray, List.set_cons_zero, List.set_cons_succ]
  refine wpAnyH_take (i := 9) (oi := { dst := some 14, op := Go.Op.load 3 (Go.Operand.tmp 13), type := 3, pos := "law.go:115", after := #[{ on := 8, ground := Go.Ground.data }], guard := none }) (v := .int .i64 pad) rfl (by kernel_rfl) (by kernel_rfl) (by kernel_rfl) (fun _ _ _ h => h) (Or.inl ⟨by kernel_rfl, ?_⟩) hS ?_
  · intro w5 hSw
    have h0 := hSw.1.cell (i := 6) rfl
    clear hSw hS
    go_simp
  simp only [Act.put, List.setIfInBounds_toArray, List.set_cons_zero, List.set_cons_succ]
  refine wpAnyH_ready (rs := [10, 12]) (by kernel_rfl) (by simp) ?_
  refine AllReadyH.cons (o := { dst := some 15, op := Go.Op.call { callee := Go.Callee.value (Go.Operand.func 18), args := #[Go.Operand.tmp 12, Go.Operand.tmp 14], argTypes := #[23, 3] }, type := 23, pos := "law.go:115", after := #[{ on := 7, ground := Go.Ground.data }, { on := 9, ground := Go.Ground.data }], guard := none }) rfl (fun K hK => ?_) (AllReadyH.cons (o := { dst := some 3, op := Go.Op.alloc 44, type := 0, pos := "law.go:115", after := #[], guard := none }) rfl (fun K hK => ?_) AllReadyH.nil)
  · rw [if_pos (by kernel_rfl)]
    go_simp
    refine (padded_walk (.slice ab nb cb') bd pad (by omega) w1.drew (HB.out.up (HU0.out.drew))).mono ?_
    rintro e w2 ⟨v5, rfl, hO, h9⟩
    obtain ⟨a5, c5, rfl⟩ := row_len hO
    have HO2 := Hid.of (show Ow w2 w.heap.size _ (pdd bd pad) from ow_base hO (HU0.out.drew).size)
    have HU2 := Hid.of ((HU0.out.drew).trans h9)
    have HA2 := Hid.of ((HA0.out.up (Up.refl _).drew).up h9)
    have HZ2 := Hid.of ((HZ0.out.up (Up.refl _).drew).up h9)
    have Hs2 := Hid.of (show w1.drew.heap.size ≤ w2.heap.size from h9.size)
    clear h9 hO hS
    obtain ⟨L5, hL5⟩ : ∃ L5, (pdd bd pad).length = L5 := ⟨_, rfl⟩
    have HL5 := Hid.of hL5
    rw [hL5] at HO2 ⊢
    clear hL5
    dsimp only
    refine hK.out _ _ ⟨HA2.out, HZ2.out, HU2.out⟩ (fun hS => ?_)
    clear hK K
    refine wpAnyH_take (i := 11) (oi := { dst := some 16, op := Go.Op.build 44 #[(0, Go.Operand.tmp 6), (1, Go.Operand.tmp 8), (2, Go.Operand.tmp 10), (4, Go.Operand.tmp 15)], type := 44, pos := "law.go:115", after := #[{ on := 1, ground := Go.Ground.data }, { on := 3, ground := Go.Ground.data }, { on := 5, ground := Go.Ground.data }, { on := 10, ground := Go.Ground.data }], guard := none }) (v := .agg #[.string m, .string t, .int .i64 mi, .slice none 0 0, .slice a5 L5 c5, .bool false]) rfl (by kernel_rfl) (by kernel_rfl) (by kernel_rfl) (fun _ _ _ h => h) (Or.inl ⟨by kernel_rfl, ?_⟩) hS ?_
    · intro w5 hSw
      clear hSw hS
      go_simp
    simp only [Act.put, List.setIfInBounds_toArray, List.set_cons_zero, List.set_cons_succ]
    refine wpAnyH_ready (rs := [12]) (by kernel_rfl) (by simp) ?_
    refine AllReadyH.cons (o := { dst := some 3, op := Go.Op.alloc 44, type := 0, pos := "law.go:115", after := #[], guard := none }) rfl (fun K hK => ?_) AllReadyH.nil
    rw [if_pos (by kernel_rfl)]
    go_simp
    have HR3 := Hid.of (at_new w2 44 z6)
    have HBr := Hid.of (show w.heap.size + 1 < w2.heap.size from Nat.lt_of_lt_of_le HS1.out (Nat.le_trans (Up.refl w1).drew.size Hs2.out))
    have HO3 := Hid.of (ow_up HO2.out ((Up.refl w2).alloc (.cells z6.toArray 44)))
    clear HO2
    refine hK.out _ _ ⟨hS.1.up ((Up.refl _).alloc _), hS.2.1.up ((Up.refl _).alloc _), hS.2.2.alloc _⟩ (fun hS => ?_)
    clear hK K
    refine wpAnyH_ready (rs := [13]) (by kernel_rfl) (by simp) ?_
    refine AllReadyH.cons (o := { dst := none, op := Go.Op.store 44 (Go.Operand.tmp 3) (Go.Operand.tmp 16), type := 0, pos := "law.go:115", after := #[{ on := 12, ground := Go.Ground.data }, { on := 11, ground := Go.Ground.data }, { on := 10, ground := Go.Ground.chain }, { on := 0, ground := Go.Ground.phase }, { on := 1, ground := Go.Ground.phase }, { on := 2, ground := Go.Ground.phase }, { on := 3, ground := Go.Ground.phase }, { on := 4, ground := Go.Ground.phase }, { on := 5, ground := Go.Ground.phase }, { on := 6, ground := Go.Ground.phase }, { on := 7, ground := Go.Ground.phase }, { on := 8, ground := Go.Ground.phase }, { on := 9, ground := Go.Ground.phase }, { on := 10, ground := Go.Ground.phase }, { on := 11, ground := Go.Ground.phase }, { on := 12, ground := Go.Ground.phase }], guard := none }) rfl (fun K hK => oper_of_list ?_) AllReadyH.nil
    refine wpList_store_at rfl 44 _ _ rfl (w2.heap.size) HR3.out ([.string m, .string t, .int .i64 mi, .slice none 0 0, .slice a5 L5 c5, .bool false]) rfl rfl rfl (by kernel_rfl) (by kernel_rfl) ?_
    intro w4 hA4 hg4
    have HR4 := Hid.of hA4
    have HU4 := Hid.of (hS.2.2.by hg4 (fun g hg => by have := Option.some.inj hg; have := HBr.out; omega))
    have HA4 := Hid.of (hS.1.by hg4 (fun e => by have := Option.some.inj e; have := HBr.out; omega))
    have HZ4 := Hid.of (hS.2.1.by hg4 (fun e => by have := Option.some.inj e; have := HBr.out; omega))
    have HO4 := Hid.of (HO3.out.kept hg4 (.inr (own_ne HO3.out HR3.out (by decide))))
    clear hA4 hg4 HR3 HO3
    refine hK.out _ _ ⟨HA4.out, HZ4.out, HU4.out⟩ (fun hS => ?_)
    clear hK K hS
    refine wpAnyH_done (by kernel_rfl) ?_ _
    obtain ⟨Br, hBr⟩ : ∃ Br, w2.heap.size = Br := ⟨_, rfl⟩
    rw [hBr] at HR4 HBr ⊢
    clear hBr
    go_wp2
    go_loopw [4] (fun v4 wr => ∃ i : Nat, v4 = .int .i64 (i : Int) ∧ i ≤ ns.length ∧ Hid (∃ a7 c7, At wr Br 44 [.string m, .string t, .int .i64 mi, .slice a7 i c7, .slice a5 L5 c5, .bool false] ∧ RfO wr w.heap.size a7 (F.take i) c7 ∧ wr.ownsRow w.heap.size 5 1 (.slice a5 L5 c5) L5 (cb (pdd bd pad)) ∧ At wr w.heap.size 25 [.string m, .string t, .int .i64 mi, .slice an ns.length cn, .slice av us.length cv, .slice ab nb cb', .int .i64 pad] ∧ At wr (w.heap.size + 1) 44 z6 ∧ Up w wr)) (fun v4 _ => ns.length - (intOf v4).toNat)
    case atStart => exact ⟨0, rfl, Nat.zero_le _, Hid.of ⟨none, 0, HR4.out, World.ownsRow_nil _ _ _ _, (by have h := HO4.out; rw [HL5.out] at h; exact h), HA4.out, HZ4.out, HU4.out⟩⟩
    case round =>
      obtain ⟨i, rfl, hi, hQ⟩ := hrel
      obtain ⟨a7, c7, q1, q2, q3, q4, q5, q6⟩ := hQ.out
      have HR7 := Hid.of q1
      have HF7 := Hid.of q2
      have HO7 := Hid.of q3
      have HA7 := Hid.of q4
      have HZ7 := Hid.of q5
      have HU7 := Hid.of q6
      have h3 := q4.cell (i := 3) rfl
      clear hQ q1 q2 q3 q4 q5 q6
      by_cases hil : i < ns.length
      · have hilz : (i : Int) < (ns.length : Int) := by omega
        have hif : i < F.length := by rw [HFl.out]; exact hil
        obtain ⟨b, off, han, k1⟩ := HN.out.cells i hil
        have HAn := Hid.of han
        clear han
        have HT := Hid.of (List.take_succ_eq_append_getElem hif)
        have HLn := Hid.of (show (F.take i).length = i by rw [List.length_take]; omega)
        have hfg := HFg.out i hil hif
        obtain ⟨f, hf⟩ : ∃ f, F[i] = f := ⟨_, rfl⟩
        rw [hf] at HT hfg
        have HFv := Hid.of (show vat us i = f.v by rw [hfg])
        have HK1 := Hid.of (show w.cell? ⟨b, off + i, none⟩ = some (.string f.n) by rw [k1, hfg])
        clear hf hfg k1
        have HRd := Hid.of (HR7.out.up (Up.refl wr).drew)
        have HFd := Hid.of (ow_up HF7.out (Up.refl wr).drew)
        have HFd' := Hid.of (show wr.drew.ownsRow w.heap.size 85 2 (.slice a7 i c7) i (fdc (F.take i)) by have := HFd.out; rw [HLn.out] at this; exact this)
        have HOd := Hid.of (ow_up HO7.out (Up.refl wr).drew)
        have HAd := Hid.of (HA7.out.up (Up.refl wr).drew)
        have HZd := Hid.of (HZ7.out.up (Up.refl wr).drew)
        go_wp2
        refine wp_region_held_drew (S := fun w2 => At w2 w.heap.size 25 [.string m, .string t, .int .i64 mi, .slice an ns.length cn, .slice av us.length cv, .slice ab nb cb', .int .i64 pad] ∧ At w2 (w.heap.size + 1) 44 z6 ∧ Up w w2) (by kernel_rfl) ⟨HA7.out.up (Up.refl _).drew, HZ7.out.up (Up.refl _).drew, HU7.out.drew⟩ (fun hS => ?_)
        refine wpAnyH_take (i := 0) (oi := { dst := some 24, op := Go.Op.fieldAddr 44 (Go.Operand.tmp 3) 3, type := 0, pos := "law.go:117", after := #[], guard := none }) (v := .pointer (some ⟨Br, 3, none⟩)) rfl (by kernel_rfl) (by kernel_rfl) (by kernel_rfl) (fun _ _ _ h => h) (Or.inl ⟨by kernel_rfl, ?_⟩) hS ?_
        · intro w5 hSw
          clear hSw hS
          go_simp
        simp only [Act.put, List.setIfInBounds_toArray, List.set_cons_zero, List.set_cons_succ]
        refine wpAnyH_take (i := 2) (oi := { dst := some 26, op := Go.Op.fieldAddr 25 (Go.Operand.tmp 1) 3, type := 0, pos := "law.go:117", after := #[], guard := none }) (v := .pointer (some ⟨w.heap.size, 3, none⟩)) rfl (by kernel_rfl) (by kernel_rfl) (by kernel_rfl) (fun _ _ _ h => h) (Or.inl ⟨by kernel_rfl, ?_⟩) hS ?_
        · intro w5 hSw
          clear hSw hS
          go_simp
        simp only [Act.put, List.setIfInBounds_toArray, List.set_cons_zero, List.set_cons_succ]
        refine wpAnyH_take (i := 3) (oi := { dst := some 27, op := Go.Op.load 22 (Go.Operand.tmp 26), type := 22, pos := "law.go:117", after := #[{ on := 2, ground := Go.Ground.data }], guard := none }) (v := .slice (some ⟨b, off, none⟩) ns.length cn) rfl (by kernel_rfl) (by kernel_rfl) (by kernel_rfl) (fun _ _ _ h => h) (Or.inl ⟨by kernel_rfl, ?_⟩) hS ?_
        · intro w5 hSw
          have h0 := hSw.1.cell (i := 3) rfl
          rw [HAn.out] at h0
          clear hSw hS
          go_simp
        simp only [Act.put, List.setIfInBounds_toArray, List.set_cons_zero, List.set_cons_succ]
        refine wpAnyH_take (i := 4) (oi := { dst := some 28, op := Go.Op.move (Go.Operand.tmp 4), type := 3, pos := "law.go:117", after := #[], guard := none }) (v := .int .i64 (i : Int)) rfl (by kernel_rfl) (by kernel_rfl) (by kernel_rfl) (fun _ _ _ h => h) (Or.inl ⟨by kernel_rfl, ?_⟩) hS ?_
        · intro w5 hSw
          clear hSw hS
          go_simp
        simp only [Act.put, List.setIfInBounds_toArray, List.set_cons_zero, List.set_cons_succ]
        refine wpAnyH_take (i := 5) (oi := { dst := some 29, op := Go.Op.indexAddr 22 (Go.Operand.tmp 27) (Go.Operand.tmp 28), type := 0, pos := "law.go:117", after := #[{ on := 3, ground := Go.Ground.data }, { on := 4, ground := Go.Ground.data }], guard := none }) (v := .pointer (some ⟨b, off + i, none⟩)) rfl (by kernel_rfl) (by kernel_rfl) (by kernel_rfl) (fun _ _ _ h => h) (Or.inl ⟨by kernel_rfl, ?_⟩) hS ?_
        · intro w5 hSw
          clear hSw hS
          go_simp
        simp only [Act.put, List.setIfInBounds_toArray, List.set_cons_zero, List.set_cons_succ]
        refine wpAnyH_take (i := 6) (oi := { dst := some 30, op := Go.Op.load 9 (Go.Operand.tmp 29), type := 9, pos := "law.go:117", after := #[{ on := 5, ground := Go.Ground.data }], guard := none }) (v := .string f.n) rfl (by kernel_rfl) (by kernel_rfl) (by kernel_rfl) (fun _ _ _ h => h) (Or.inl ⟨by kernel_rfl, ?_⟩) hS ?_
        · intro w5 hSw
          have h0 := hSw.2.2.cell HK1.out
          clear hSw hS
          go_simp
        simp only [Act.put, List.setIfInBounds_toArray, List.set_cons_zero, List.set_cons_succ]
        refine wpAnyH_take (i := 7) (oi := { dst := some 31, op := Go.Op.fieldAddr 25 (Go.Operand.tmp 1) 4, type := 0, pos := "law.go:117", after := #[], guard := none }) (v := .pointer (some ⟨w.heap.size, 4, none⟩)) rfl (by kernel_rfl) (by kernel_rfl) (by kernel_rfl) (fun _ _ _ h => h) (Or.inl ⟨by kernel_rfl, ?_⟩) hS ?_
        · intro w5 hSw
          clear hSw hS
          go_simp
        simp only [Act.put, List.setIfInBounds_toArray, List.set_cons_zero, List.set_cons_succ]
        refine wpAnyH_take (i := 8) (oi := { dst := some 32, op := Go.Op.load 22 (Go.Operand.tmp 31), type := 22, pos := "law.go:117", after := #[{ on := 7, ground := Go.Ground.data }], guard := none }) (v := .slice av us.length cv) rfl (by kernel_rfl) (by kernel_rfl) (by kernel_rfl) (fun _ _ _ h => h) (Or.inl ⟨by kernel_rfl, ?_⟩) hS ?_
        · intro w5 hSw
          have h0 := hSw.1.cell (i := 4) rfl
          clear hSw hS
          go_simp
        simp only [Act.put, List.setIfInBounds_toArray, List.set_cons_zero, List.set_cons_succ]
        refine wpAnyH_take (i := 9) (oi := { dst := some 33, op := Go.Op.move (Go.Operand.tmp 4), type := 3, pos := "law.go:117", after := #[], guard := none }) (v := .int .i64 (i : Int)) rfl (by kernel_rfl) (by kernel_rfl) (by kernel_rfl) (fun _ _ _ h => h) (Or.inl ⟨by kernel_rfl, ?_⟩) hS ?_
        · intro w5 hSw
          clear hSw hS
          go_simp
        simp only [Act.put, List.setIfInBounds_toArray, List.set_cons_zero, List.set_cons_succ]
        refine wpAnyH_ready (rs := [1, 10]) (by kernel_rfl) (by simp) ?_
        refine AllReadyH.cons (o := { dst := some 25, op := Go.Op.load 42 (Go.Operand.tmp 24), type := 42, pos := "law.go:117", after := #[{ on := 0, ground := Go.Ground.data }], guard := none }) rfl (fun K hK => ?_) (AllReadyH.cons (o := { dst := some 34, op := Go.Op.call { callee := Go.Callee.value (Go.Operand.func 39), args := #[Go.Operand.tmp 32, Go.Operand.tmp 33], argTypes := #[22, 3] }, type := 9, pos := "law.go:117", after := #[{ on := 8, ground := Go.Ground.data }, { on := 9, ground := Go.Ground.data }], guard := none }) rfl (fun K hK => ?_) AllReadyH.nil)
        · rw [if_pos (by kernel_rfl)]
          have k3 := HRd.out.cell (i := 3) rfl
          go_simp
          refine hK.out _ _ hS (fun hS => ?_)
          clear hK K k3
          refine wpAnyH_ready (rs := [10]) (by kernel_rfl) (by simp) ?_
          refine AllReadyH.cons (o := { dst := some 34, op := Go.Op.call { callee := Go.Callee.value (Go.Operand.func 39), args := #[Go.Operand.tmp 32, Go.Operand.tmp 33], argTypes := #[22, 3] }, type := 9, pos := "law.go:117", after := #[{ on := 8, ground := Go.Ground.data }, { on := 9, ground := Go.Ground.data }], guard := none }) rfl (fun K hK => ?_) AllReadyH.nil
          rw [if_pos (by kernel_rfl)]
          go_simp
          refine (value_walk av us cv i wr.drew (HV.out.up HU7.out.drew)).mono ?_
          rintro e w5 ⟨rfl, h9⟩
          obtain rfl := h9.symm
          clear h9
          rw [HFv.out]
          dsimp only
          refine hK.out _ _ hS (fun hS => ?_)
          clear hK K
          refine wpAnyH_take (i := 11) (oi := { dst := some 35, op := Go.Op.build 85 #[(0, Go.Operand.tmp 30), (1, Go.Operand.tmp 34)], type := 85, pos := "law.go:117", after := #[{ on := 6, ground := Go.Ground.data }, { on := 10, ground := Go.Ground.data }], guard := none }) (v := .agg #[.string f.n, .string f.v]) rfl (by kernel_rfl) (by kernel_rfl) (by kernel_rfl) (fun _ _ _ h => h) (Or.inl ⟨by kernel_rfl, ?_⟩) hS ?_
          · intro w5 hSw
            clear hSw hS
            go_simp
          simp only [Act.put, List.setIfInBounds_toArray, List.set_cons_zero, List.set_cons_succ]
          refine wpAnyH_ready (rs := [12]) (by kernel_rfl) (by simp) ?_
          refine AllReadyH.cons (o := { dst := some 36, op := Go.Op.buildSlice 42 1 #[(0, Go.Operand.tmp 35)], type := 42, pos := "law.go:117", after := #[{ on := 11, ground := Go.Ground.data }], guard := none }) rfl (fun K hK => ?_) AllReadyH.nil
          rw [if_pos (by kernel_rfl)]
          go_simp
          refine hK.out _ _ ⟨hS.1.up ((Up.refl _).alloc _), hS.2.1.up ((Up.refl _).alloc _), hS.2.2.alloc _⟩ (fun hS => ?_)
          clear hK K
          refine wpAnyH_ready (rs := [13]) (by kernel_rfl) (by simp) ?_
          refine AllReadyH.cons (o := { dst := some 37, op := Go.Op.call { callee := Go.Callee.builtin Go.Builtin.append, args := #[Go.Operand.tmp 25, Go.Operand.tmp 36], argTypes := #[42, 42] }, type := 42, pos := "law.go:117", after := #[{ on := 1, ground := Go.Ground.data }, { on := 12, ground := Go.Ground.data }, { on := 10, ground := Go.Ground.chain }], guard := none }) rfl (fun K hK => oper_of_list ?_) AllReadyH.nil
          refine wpList_appRf (w := wr.drew) (N := w.heap.size) rfl _ _ rfl a7 c7 (F.take i) f HLn.out rfl rfl HFd.out HU7.out.drew.size (by omega) ?_
          intro ax2 cx2 w7 o7 u7 g7
          have HU8 := Hid.of (u7 w HU7.out.drew (Nat.le_refl _))
          have HR8 := Hid.of (HRd.out.by g7 (own_ne HFd'.out HRd.out (by decide)))
          have HA8 := Hid.of (HAd.out.by g7 (own_ne HFd'.out HAd.out (by decide)))
          have HZ8 := Hid.of (HZd.out.by g7 (own_ne HFd'.out HZd.out (by decide)))
          have HB8 := Hid.of (HOd.out.kept g7 (own_off HOd.out HFd'.out (by decide)))
          have HF8 := Hid.of (show RfO w7 w.heap.size ax2 (F.take (i + 1)) cx2 by rw [HT.out]; exact o7)
          clear o7 u7 g7
          refine hK.out _ _ ⟨HA8.out, HZ8.out, HU8.out⟩ (fun hS => ?_)
          clear hK K
          simp only [Act.put, List.setIfInBounds_toArray, List.set_cons_zero, List.set_cons_succ]
          refine wpAnyH_take (i := 14) (oi := { dst := some 38, op := Go.Op.fieldAddr 44 (Go.Operand.tmp 3) 3, type := 0, pos := "law.go:117", after := #[{ on := 0, ground := Go.Ground.phase }, { on := 1, ground := Go.Ground.phase }, { on := 2, ground := Go.Ground.phase }, { on := 3, ground := Go.Ground.phase }, { on := 4, ground := Go.Ground.phase }, { on := 5, ground := Go.Ground.phase }, { on := 6, ground := Go.Ground.phase }, { on := 7, ground := Go.Ground.phase }, { on := 8, ground := Go.Ground.phase }, { on := 9, ground := Go.Ground.phase }, { on := 10, ground := Go.Ground.phase }, { on := 11, ground := Go.Ground.phase }, { on := 12, ground := Go.Ground.phase }, { on := 13, ground := Go.Ground.phase }], guard := none }) (v := .pointer (some ⟨Br, 3, none⟩)) rfl (by kernel_rfl) (by kernel_rfl) (by kernel_rfl) (fun _ _ _ h => h) (Or.inl ⟨by kernel_rfl, ?_⟩) hS ?_
          · intro w5 hSw
            clear hSw hS
            go_simp
          simp only [Act.put, List.setIfInBounds_toArray, List.set_cons_zero, List.set_cons_succ]
          refine wpAnyH_ready (rs := [15]) (by kernel_rfl) (by simp) ?_
          refine AllReadyH.cons (o := { dst := none, op := Go.Op.store 42 (Go.Operand.tmp 38) (Go.Operand.tmp 37), type := 0, pos := "law.go:117", after := #[{ on := 14, ground := Go.Ground.data }, { on := 13, ground := Go.Ground.data }, { on := 13, ground := Go.Ground.chain }, { on := 0, ground := Go.Ground.phase }, { on := 1, ground := Go.Ground.phase }, { on := 2, ground := Go.Ground.phase }, { on := 3, ground := Go.Ground.phase }, { on := 4, ground := Go.Ground.phase }, { on := 5, ground := Go.Ground.phase }, { on := 6, ground := Go.Ground.phase }, { on := 7, ground := Go.Ground.phase }, { on := 8, ground := Go.Ground.phase }, { on := 9, ground := Go.Ground.phase }, { on := 10, ground := Go.Ground.phase }, { on := 11, ground := Go.Ground.phase }, { on := 12, ground := Go.Ground.phase }, { on := 13, ground := Go.Ground.phase }], guard := none }) rfl (fun K hK => ?_) AllReadyH.nil
          have k3 := HR8.out.cell (i := 3) rfl
          have f3 := HR8.out.thaw 3
          have G8 := grown_set1 w7 Br 3 (.slice ax2 (i + 1) cx2)
          have HR9 := Hid.of (HR8.out.set 3 (.slice ax2 (i + 1) cx2))
          have HU9 := Hid.of (HU8.out.by G8 (fun g hg => by have := Option.some.inj hg; have := HBr.out; omega))
          have HA9 := Hid.of (HA8.out.by G8 (fun e => by have := Option.some.inj e; have := HBr.out; omega))
          have HZ9 := Hid.of (HZ8.out.by G8 (fun e => by have := Option.some.inj e; have := HBr.out; omega))
          have HB9 := Hid.of (HB8.out.kept G8 (.inr (own_ne HB8.out HR8.out (by decide))))
          have HF9 := Hid.of (show RfO (w7.setCell ⟨Br, 3, none⟩ (.slice ax2 (i + 1) cx2)) w.heap.size ax2 (F.take (i + 1)) cx2 from HF8.out.kept G8 (.inr (own_ne HF8.out HR8.out (by decide))))
          clear G8
          rw [if_pos (by kernel_rfl)]
          go_simp
          refine hK.out _ _ ⟨HA9.out, HZ9.out, HU9.out⟩ (fun hS => ?_)
          clear hK K hS
          refine wpAnyH_done (by kernel_rfl) ?_ _
          go_wp2
          go_roundw
          all_goals first
            | exact ⟨i + 1, by go_num, by omega, Hid.of ⟨ax2, cx2, HR9.out, HF9.out, HB9.out, HA9.out, HZ9.out, HU9.out⟩⟩
            | (simp [intOf]; omega)
        · rw [if_pos (by kernel_rfl)]
          go_simp
          refine (value_walk av us cv i wr.drew (HV.out.up HU7.out.drew)).mono ?_
          rintro e w5 ⟨rfl, h9⟩
          obtain rfl := h9.symm
          clear h9
          rw [HFv.out]
          dsimp only
          refine hK.out _ _ hS (fun hS => ?_)
          clear hK K
          refine wpAnyH_take (i := 11) (oi := { dst := some 35, op := Go.Op.build 85 #[(0, Go.Operand.tmp 30), (1, Go.Operand.tmp 34)], type := 85, pos := "law.go:117", after := #[{ on := 6, ground := Go.Ground.data }, { on := 10, ground := Go.Ground.data }], guard := none }) (v := .agg #[.string f.n, .string f.v]) rfl (by kernel_rfl) (by kernel_rfl) (by kernel_rfl) (fun _ _ _ h => h) (Or.inl ⟨by kernel_rfl, ?_⟩) hS ?_
          · intro w5 hSw
            clear hSw hS
            go_simp
          simp only [Act.put, List.setIfInBounds_toArray, List.set_cons_zero, List.set_cons_succ]
          refine wpAnyH_ready (rs := [1, 12]) (by kernel_rfl) (by simp) ?_
          refine AllReadyH.cons (o := { dst := some 25, op := Go.Op.load 42 (Go.Operand.tmp 24), type := 42, pos := "law.go:117", after := #[{ on := 0, ground := Go.Ground.data }], guard := none }) rfl (fun K hK => ?_) (AllReadyH.cons (o := { dst := some 36, op := Go.Op.buildSlice 42 1 #[(0, Go.Operand.tmp 35)], type := 42, pos := "law.go:117", after := #[{ on := 11, ground := Go.Ground.data }], guard := none }) rfl (fun K hK => ?_) AllReadyH.nil)
          · rw [if_pos (by kernel_rfl)]
            have k3 := HRd.out.cell (i := 3) rfl
            go_simp
            refine hK.out _ _ hS (fun hS => ?_)
            clear hK K k3
            refine wpAnyH_ready (rs := [12]) (by kernel_rfl) (by simp) ?_
            refine AllReadyH.cons (o := { dst := some 36, op := Go.Op.buildSlice 42 1 #[(0, Go.Operand.tmp 35)], type := 42, pos := "law.go:117", after := #[{ on := 11, ground := Go.Ground.data }], guard := none }) rfl (fun K hK => ?_) AllReadyH.nil
            rw [if_pos (by kernel_rfl)]
            go_simp
            refine hK.out _ _ ⟨hS.1.up ((Up.refl _).alloc _), hS.2.1.up ((Up.refl _).alloc _), hS.2.2.alloc _⟩ (fun hS => ?_)
            clear hK K
            refine wpAnyH_ready (rs := [13]) (by kernel_rfl) (by simp) ?_
            refine AllReadyH.cons (o := { dst := some 37, op := Go.Op.call { callee := Go.Callee.builtin Go.Builtin.append, args := #[Go.Operand.tmp 25, Go.Operand.tmp 36], argTypes := #[42, 42] }, type := 42, pos := "law.go:117", after := #[{ on := 1, ground := Go.Ground.data }, { on := 12, ground := Go.Ground.data }, { on := 10, ground := Go.Ground.chain }], guard := none }) rfl (fun K hK => oper_of_list ?_) AllReadyH.nil
            refine wpList_appRf (w := wr.drew) (N := w.heap.size) rfl _ _ rfl a7 c7 (F.take i) f HLn.out rfl rfl HFd.out HU7.out.drew.size (by omega) ?_
            intro ax2 cx2 w7 o7 u7 g7
            have HU8 := Hid.of (u7 w HU7.out.drew (Nat.le_refl _))
            have HR8 := Hid.of (HRd.out.by g7 (own_ne HFd'.out HRd.out (by decide)))
            have HA8 := Hid.of (HAd.out.by g7 (own_ne HFd'.out HAd.out (by decide)))
            have HZ8 := Hid.of (HZd.out.by g7 (own_ne HFd'.out HZd.out (by decide)))
            have HB8 := Hid.of (HOd.out.kept g7 (own_off HOd.out HFd'.out (by decide)))
            have HF8 := Hid.of (show RfO w7 w.heap.size ax2 (F.take (i + 1)) cx2 by rw [HT.out]; exact o7)
            clear o7 u7 g7
            refine hK.out _ _ ⟨HA8.out, HZ8.out, HU8.out⟩ (fun hS => ?_)
            clear hK K
            simp only [Act.put, List.setIfInBounds_toArray, List.set_cons_zero, List.set_cons_succ]
            refine wpAnyH_take (i := 14) (oi := { dst := some 38, op := Go.Op.fieldAddr 44 (Go.Operand.tmp 3) 3, type := 0, pos := "law.go:117", after := #[{ on := 0, ground := Go.Ground.phase }, { on := 1, ground := Go.Ground.phase }, { on := 2, ground := Go.Ground.phase }, { on := 3, ground := Go.Ground.phase }, { on := 4, ground := Go.Ground.phase }, { on := 5, ground := Go.Ground.phase }, { on := 6, ground := Go.Ground.phase }, { on := 7, ground := Go.Ground.phase }, { on := 8, ground := Go.Ground.phase }, { on := 9, ground := Go.Ground.phase }, { on := 10, ground := Go.Ground.phase }, { on := 11, ground := Go.Ground.phase }, { on := 12, ground := Go.Ground.phase }, { on := 13, ground := Go.Ground.phase }], guard := none }) (v := .pointer (some ⟨Br, 3, none⟩)) rfl (by kernel_rfl) (by kernel_rfl) (by kernel_rfl) (fun _ _ _ h => h) (Or.inl ⟨by kernel_rfl, ?_⟩) hS ?_
            · intro w5 hSw
              clear hSw hS
              go_simp
            simp only [Act.put, List.setIfInBounds_toArray, List.set_cons_zero, List.set_cons_succ]
            refine wpAnyH_ready (rs := [15]) (by kernel_rfl) (by simp) ?_
            refine AllReadyH.cons (o := { dst := none, op := Go.Op.store 42 (Go.Operand.tmp 38) (Go.Operand.tmp 37), type := 0, pos := "law.go:117", after := #[{ on := 14, ground := Go.Ground.data }, { on := 13, ground := Go.Ground.data }, { on := 13, ground := Go.Ground.chain }, { on := 0, ground := Go.Ground.phase }, { on := 1, ground := Go.Ground.phase }, { on := 2, ground := Go.Ground.phase }, { on := 3, ground := Go.Ground.phase }, { on := 4, ground := Go.Ground.phase }, { on := 5, ground := Go.Ground.phase }, { on := 6, ground := Go.Ground.phase }, { on := 7, ground := Go.Ground.phase }, { on := 8, ground := Go.Ground.phase }, { on := 9, ground := Go.Ground.phase }, { on := 10, ground := Go.Ground.phase }, { on := 11, ground := Go.Ground.phase }, { on := 12, ground := Go.Ground.phase }, { on := 13, ground := Go.Ground.phase }], guard := none }) rfl (fun K hK => ?_) AllReadyH.nil
            have k3 := HR8.out.cell (i := 3) rfl
            have f3 := HR8.out.thaw 3
            have G8 := grown_set1 w7 Br 3 (.slice ax2 (i + 1) cx2)
            have HR9 := Hid.of (HR8.out.set 3 (.slice ax2 (i + 1) cx2))
            have HU9 := Hid.of (HU8.out.by G8 (fun g hg => by have := Option.some.inj hg; have := HBr.out; omega))
            have HA9 := Hid.of (HA8.out.by G8 (fun e => by have := Option.some.inj e; have := HBr.out; omega))
            have HZ9 := Hid.of (HZ8.out.by G8 (fun e => by have := Option.some.inj e; have := HBr.out; omega))
            have HB9 := Hid.of (HB8.out.kept G8 (.inr (own_ne HB8.out HR8.out (by decide))))
            have HF9 := Hid.of (show RfO (w7.setCell ⟨Br, 3, none⟩ (.slice ax2 (i + 1) cx2)) w.heap.size ax2 (F.take (i + 1)) cx2 from HF8.out.kept G8 (.inr (own_ne HF8.out HR8.out (by decide))))
            clear G8
            rw [if_pos (by kernel_rfl)]
            go_simp
            refine hK.out _ _ ⟨HA9.out, HZ9.out, HU9.out⟩ (fun hS => ?_)
            clear hK K hS
            refine wpAnyH_done (by kernel_rfl) ?_ _
            go_wp2
            go_roundw
            all_goals first
              | exact ⟨i + 1, by go_num, by omega, Hid.of ⟨ax2, cx2, HR9.out, HF9.out, HB9.out, HA9.out, HZ9.out, HU9.out⟩⟩
              | (simp [intOf]; omega)
          · rw [if_pos (by kernel_rfl)]
            go_simp
            refine hK.out _ _ ⟨hS.1.up ((Up.refl _).alloc _), hS.2.1.up ((Up.refl _).alloc _), hS.2.2.alloc _⟩ (fun hS => ?_)
            clear hK K
            refine wpAnyH_ready (rs := [1]) (by kernel_rfl) (by simp) ?_
            refine AllReadyH.cons (o := { dst := some 25, op := Go.Op.load 42 (Go.Operand.tmp 24), type := 42, pos := "law.go:117", after := #[{ on := 0, ground := Go.Ground.data }], guard := none }) rfl (fun K hK => ?_) AllReadyH.nil
            rw [if_pos (by kernel_rfl)]
            have k3 := ((HR7.out.up ((Up.refl wr).alloc (.cells #[.string f.n, .string f.v] 85))).up (Up.refl _).drew).cell (i := 3) rfl
            go_simp
            refine hK.out _ _ hS (fun hS => ?_)
            clear hK K k3
            refine wpAnyH_ready (rs := [13]) (by kernel_rfl) (by simp) ?_
            refine AllReadyH.cons (o := { dst := some 37, op := Go.Op.call { callee := Go.Callee.builtin Go.Builtin.append, args := #[Go.Operand.tmp 25, Go.Operand.tmp 36], argTypes := #[42, 42] }, type := 42, pos := "law.go:117", after := #[{ on := 1, ground := Go.Ground.data }, { on := 12, ground := Go.Ground.data }, { on := 10, ground := Go.Ground.chain }], guard := none }) rfl (fun K hK => oper_of_list ?_) AllReadyH.nil
            refine wpList_appRf (w := wr.drew) (N := w.heap.size) rfl _ _ rfl a7 c7 (F.take i) f HLn.out rfl rfl HFd.out HU7.out.drew.size (by omega) ?_
            intro ax2 cx2 w7 o7 u7 g7
            have HU8 := Hid.of (u7 w HU7.out.drew (Nat.le_refl _))
            have HR8 := Hid.of (HRd.out.by g7 (own_ne HFd'.out HRd.out (by decide)))
            have HA8 := Hid.of (HAd.out.by g7 (own_ne HFd'.out HAd.out (by decide)))
            have HZ8 := Hid.of (HZd.out.by g7 (own_ne HFd'.out HZd.out (by decide)))
            have HB8 := Hid.of (HOd.out.kept g7 (own_off HOd.out HFd'.out (by decide)))
            have HF8 := Hid.of (show RfO w7 w.heap.size ax2 (F.take (i + 1)) cx2 by rw [HT.out]; exact o7)
            clear o7 u7 g7
            refine hK.out _ _ ⟨HA8.out, HZ8.out, HU8.out⟩ (fun hS => ?_)
            clear hK K
            simp only [Act.put, List.setIfInBounds_toArray, List.set_cons_zero, List.set_cons_succ]
            refine wpAnyH_take (i := 14) (oi := { dst := some 38, op := Go.Op.fieldAddr 44 (Go.Operand.tmp 3) 3, type := 0, pos := "law.go:117", after := #[{ on := 0, ground := Go.Ground.phase }, { on := 1, ground := Go.Ground.phase }, { on := 2, ground := Go.Ground.phase }, { on := 3, ground := Go.Ground.phase }, { on := 4, ground := Go.Ground.phase }, { on := 5, ground := Go.Ground.phase }, { on := 6, ground := Go.Ground.phase }, { on := 7, ground := Go.Ground.phase }, { on := 8, ground := Go.Ground.phase }, { on := 9, ground := Go.Ground.phase }, { on := 10, ground := Go.Ground.phase }, { on := 11, ground := Go.Ground.phase }, { on := 12, ground := Go.Ground.phase }, { on := 13, ground := Go.Ground.phase }], guard := none }) (v := .pointer (some ⟨Br, 3, none⟩)) rfl (by kernel_rfl) (by kernel_rfl) (by kernel_rfl) (fun _ _ _ h => h) (Or.inl ⟨by kernel_rfl, ?_⟩) hS ?_
            · intro w5 hSw
              clear hSw hS
              go_simp
            simp only [Act.put, List.setIfInBounds_toArray, List.set_cons_zero, List.set_cons_succ]
            refine wpAnyH_ready (rs := [15]) (by kernel_rfl) (by simp) ?_
            refine AllReadyH.cons (o := { dst := none, op := Go.Op.store 42 (Go.Operand.tmp 38) (Go.Operand.tmp 37), type := 0, pos := "law.go:117", after := #[{ on := 14, ground := Go.Ground.data }, { on := 13, ground := Go.Ground.data }, { on := 13, ground := Go.Ground.chain }, { on := 0, ground := Go.Ground.phase }, { on := 1, ground := Go.Ground.phase }, { on := 2, ground := Go.Ground.phase }, { on := 3, ground := Go.Ground.phase }, { on := 4, ground := Go.Ground.phase }, { on := 5, ground := Go.Ground.phase }, { on := 6, ground := Go.Ground.phase }, { on := 7, ground := Go.Ground.phase }, { on := 8, ground := Go.Ground.phase }, { on := 9, ground := Go.Ground.phase }, { on := 10, ground := Go.Ground.phase }, { on := 11, ground := Go.Ground.phase }, { on := 12, ground := Go.Ground.phase }, { on := 13, ground := Go.Ground.phase }], guard := none }) rfl (fun K hK => ?_) AllReadyH.nil
            have k3 := HR8.out.cell (i := 3) rfl
            have f3 := HR8.out.thaw 3
            have G8 := grown_set1 w7 Br 3 (.slice ax2 (i + 1) cx2)
            have HR9 := Hid.of (HR8.out.set 3 (.slice ax2 (i + 1) cx2))
            have HU9 := Hid.of (HU8.out.by G8 (fun g hg => by have := Option.some.inj hg; have := HBr.out; omega))
            have HA9 := Hid.of (HA8.out.by G8 (fun e => by have := Option.some.inj e; have := HBr.out; omega))
            have HZ9 := Hid.of (HZ8.out.by G8 (fun e => by have := Option.some.inj e; have := HBr.out; omega))
            have HB9 := Hid.of (HB8.out.kept G8 (.inr (own_ne HB8.out HR8.out (by decide))))
            have HF9 := Hid.of (show RfO (w7.setCell ⟨Br, 3, none⟩ (.slice ax2 (i + 1) cx2)) w.heap.size ax2 (F.take (i + 1)) cx2 from HF8.out.kept G8 (.inr (own_ne HF8.out HR8.out (by decide))))
            clear G8
            rw [if_pos (by kernel_rfl)]
            go_simp
            refine hK.out _ _ ⟨HA9.out, HZ9.out, HU9.out⟩ (fun hS => ?_)
            clear hK K hS
            refine wpAnyH_done (by kernel_rfl) ?_ _
            go_wp2
            go_roundw
            all_goals first
              | exact ⟨i + 1, by go_num, by omega, Hid.of ⟨ax2, cx2, HR9.out, HF9.out, HB9.out, HA9.out, HZ9.out, HU9.out⟩⟩
              | (simp [intOf]; omega)
      · have hilz : ¬ (i : Int) < (ns.length : Int) := by omega
        have hin : i = ns.length := by omega
        subst hin
        have HF8 := Hid.of (show RfO wr w.heap.size a7 F c7 by
          have h1 := HF7.out
          rw [List.take_of_length_le (by rw [HFl.out]; exact Nat.le_refl _)] at h1
          exact h1)
        go_wp2_with (with_reducible show wpList _ _ _ ({ dst := _, op := Op.load 44 _, type := _, pos := _, after := _, guard := _ } :: _) _ _; refine Shut.out ?_)
        show wpList _ _ _ _ _ _
        refine wpList_load_mid rfl _ _ rfl Br 0 rfl [.string m, .string t, .int .i64 mi, .slice a7 ns.length c7, .slice a5 L5 c5, .bool false] _ HR7.out.range Tryz.underlying44 rfl (by kernel_rfl) ?_
        simp only [Act.put, List.setIfInBounds_toArray, List.set_cons_zero, List.set_cons_succ]
        refine wpList_store_at rfl 44 _ _ rfl (w.heap.size + 1) HZ7.out [.string m, .string t, .int .i64 mi, .slice a7 ns.length c7, .slice a5 L5 c5, .bool false] rfl rfl rfl (by kernel_rfl) (by kernel_rfl) ?_
        intro w8 hA8 hg8
        have HA8 := Hid.of hA8
        have HU8 := Hid.of (HU7.out.by hg8 (fun g hg => by have := Option.some.inj hg; omega))
        have HF9 := Hid.of (show RfO w8 w.heap.size a7 F c7 from HF8.out.kept hg8 (.inr (own_ne HF8.out HZ7.out (by decide))))
        have HO9 := Hid.of (HO7.out.kept hg8 (.inr (own_ne HO7.out HZ7.out (by decide))))
        clear hA8 hg8
        simp only [Act.put]
        repeat go_step
        refine bodyPost_ret (results_agg1 Tryz.results11 _ _ (w.heap.size + 1) [.string m, .string t, .int .i64 mi, .slice a7 ns.length c7, .slice a5 L5 c5, .bool false] rfl HA8.out.range Tryz.underlying44 rfl (by kernel_rfl)) rfl ?_
        exact ⟨⟨a7, c7, _, rfl, Hid.of ⟨HF9.out, by unfold Ow; rw [HL5.out]; exact HO9.out⟩⟩, HU8.out⟩
  · rw [if_pos (by kernel_rfl)]
    go_simp
    have HR1 := Hid.of (show At _ w1.heap.size 44 z6 from at_new w1.drew 44 z6)
    have HUa := Hid.of ((Up.refl w1.drew).alloc (.cells z6.toArray 44))
    have HBr := Hid.of (show w.heap.size + 1 < w1.heap.size from HS1.out)
    refine hK.out _ _ ⟨hS.1.up HUa.out, hS.2.1.up HUa.out, hS.2.2.trans HUa.out⟩ (fun hS => ?_)
    clear hK K
    refine wpAnyH_ready (rs := [10]) (by kernel_rfl) (by simp) ?_
    refine AllReadyH.cons (o := { dst := some 15, op := Go.Op.call { callee := Go.Callee.value (Go.Operand.func 18), args := #[Go.Operand.tmp 12, Go.Operand.tmp 14], argTypes := #[23, 3] }, type := 23, pos := "law.go:115", after := #[{ on := 7, ground := Go.Ground.data }, { on := 9, ground := Go.Ground.data }], guard := none }) rfl (fun K hK => ?_) AllReadyH.nil
    rw [if_pos (by kernel_rfl)]
    go_simp
    refine (padded_walk (.slice ab nb cb') bd pad (by omega) _ (HB.out.up (HU0.out.drew.trans HUa.out))).mono ?_
    rintro e w2 ⟨v5, rfl, hO, h9⟩
    obtain ⟨a5, c5, rfl⟩ := row_len hO
    have HO2 := Hid.of (show Ow w2 w.heap.size _ (pdd bd pad) from ow_base hO (HU0.out.drew.trans HUa.out).size)
    have HU2 := Hid.of ((HU0.out.drew.trans HUa.out).trans h9)
    have HA2 := Hid.of (((HA0.out.up (Up.refl _).drew).up HUa.out).up h9)
    have HZ2 := Hid.of (((HZ0.out.up (Up.refl _).drew).up HUa.out).up h9)
    have HR3 := Hid.of (HR1.out.up h9)
    clear h9 hO hS
    obtain ⟨L5, hL5⟩ : ∃ L5, (pdd bd pad).length = L5 := ⟨_, rfl⟩
    have HL5 := Hid.of hL5
    rw [hL5] at HO2 ⊢
    clear hL5
    dsimp only
    refine hK.out _ _ ⟨HA2.out, HZ2.out, HU2.out⟩ (fun hS => ?_)
    clear hK K
    have HO3 := Hid.of HO2.out
    clear HO2
    refine wpAnyH_take (i := 11) (oi := { dst := some 16, op := Go.Op.build 44 #[(0, Go.Operand.tmp 6), (1, Go.Operand.tmp 8), (2, Go.Operand.tmp 10), (4, Go.Operand.tmp 15)], type := 44, pos := "law.go:115", after := #[{ on := 1, ground := Go.Ground.data }, { on := 3, ground := Go.Ground.data }, { on := 5, ground := Go.Ground.data }, { on := 10, ground := Go.Ground.data }], guard := none }) (v := .agg #[.string m, .string t, .int .i64 mi, .slice none 0 0, .slice a5 L5 c5, .bool false]) rfl (by kernel_rfl) (by kernel_rfl) (by kernel_rfl) (fun _ _ _ h => h) (Or.inl ⟨by kernel_rfl, ?_⟩) hS ?_
    · intro w5 hSw
      clear hSw hS
      go_simp
    simp only [Act.put, List.setIfInBounds_toArray, List.set_cons_zero, List.set_cons_succ]
    refine wpAnyH_ready (rs := [13]) (by kernel_rfl) (by simp) ?_
    refine AllReadyH.cons (o := { dst := none, op := Go.Op.store 44 (Go.Operand.tmp 3) (Go.Operand.tmp 16), type := 0, pos := "law.go:115", after := #[{ on := 12, ground := Go.Ground.data }, { on := 11, ground := Go.Ground.data }, { on := 10, ground := Go.Ground.chain }, { on := 0, ground := Go.Ground.phase }, { on := 1, ground := Go.Ground.phase }, { on := 2, ground := Go.Ground.phase }, { on := 3, ground := Go.Ground.phase }, { on := 4, ground := Go.Ground.phase }, { on := 5, ground := Go.Ground.phase }, { on := 6, ground := Go.Ground.phase }, { on := 7, ground := Go.Ground.phase }, { on := 8, ground := Go.Ground.phase }, { on := 9, ground := Go.Ground.phase }, { on := 10, ground := Go.Ground.phase }, { on := 11, ground := Go.Ground.phase }, { on := 12, ground := Go.Ground.phase }], guard := none }) rfl (fun K hK => oper_of_list ?_) AllReadyH.nil
    refine wpList_store_at rfl 44 _ _ rfl (w1.heap.size) HR3.out ([.string m, .string t, .int .i64 mi, .slice none 0 0, .slice a5 L5 c5, .bool false]) rfl rfl rfl (by kernel_rfl) (by kernel_rfl) ?_
    intro w4 hA4 hg4
    have HR4 := Hid.of hA4
    have HU4 := Hid.of (hS.2.2.by hg4 (fun g hg => by have := Option.some.inj hg; have := HBr.out; omega))
    have HA4 := Hid.of (hS.1.by hg4 (fun e => by have := Option.some.inj e; have := HBr.out; omega))
    have HZ4 := Hid.of (hS.2.1.by hg4 (fun e => by have := Option.some.inj e; have := HBr.out; omega))
    have HO4 := Hid.of (HO3.out.kept hg4 (.inr (own_ne HO3.out HR3.out (by decide))))
    clear hA4 hg4 HR3 HO3
    refine hK.out _ _ ⟨HA4.out, HZ4.out, HU4.out⟩ (fun hS => ?_)
    clear hK K hS
    refine wpAnyH_done (by kernel_rfl) ?_ _
    obtain ⟨Br, hBr⟩ : ∃ Br, w1.heap.size = Br := ⟨_, rfl⟩
    rw [hBr] at HR4 HBr ⊢
    clear hBr
    go_wp2
    go_loopw [4] (fun v4 wr => ∃ i : Nat, v4 = .int .i64 (i : Int) ∧ i ≤ ns.length ∧ Hid (∃ a7 c7, At wr Br 44 [.string m, .string t, .int .i64 mi, .slice a7 i c7, .slice a5 L5 c5, .bool false] ∧ RfO wr w.heap.size a7 (F.take i) c7 ∧ wr.ownsRow w.heap.size 5 1 (.slice a5 L5 c5) L5 (cb (pdd bd pad)) ∧ At wr w.heap.size 25 [.string m, .string t, .int .i64 mi, .slice an ns.length cn, .slice av us.length cv, .slice ab nb cb', .int .i64 pad] ∧ At wr (w.heap.size + 1) 44 z6 ∧ Up w wr)) (fun v4 _ => ns.length - (intOf v4).toNat)
    case atStart => exact ⟨0, rfl, Nat.zero_le _, Hid.of ⟨none, 0, HR4.out, World.ownsRow_nil _ _ _ _, (by have h := HO4.out; rw [HL5.out] at h; exact h), HA4.out, HZ4.out, HU4.out⟩⟩
    case round =>
      obtain ⟨i, rfl, hi, hQ⟩ := hrel
      obtain ⟨a7, c7, q1, q2, q3, q4, q5, q6⟩ := hQ.out
      have HR7 := Hid.of q1
      have HF7 := Hid.of q2
      have HO7 := Hid.of q3
      have HA7 := Hid.of q4
      have HZ7 := Hid.of q5
      have HU7 := Hid.of q6
      have h3 := q4.cell (i := 3) rfl
      clear hQ q1 q2 q3 q4 q5 q6
      by_cases hil : i < ns.length
      · have hilz : (i : Int) < (ns.length : Int) := by omega
        have hif : i < F.length := by rw [HFl.out]; exact hil
        obtain ⟨b, off, han, k1⟩ := HN.out.cells i hil
        have HAn := Hid.of han
        clear han
        have HT := Hid.of (List.take_succ_eq_append_getElem hif)
        have HLn := Hid.of (show (F.take i).length = i by rw [List.length_take]; omega)
        have hfg := HFg.out i hil hif
        obtain ⟨f, hf⟩ : ∃ f, F[i] = f := ⟨_, rfl⟩
        rw [hf] at HT hfg
        have HFv := Hid.of (show vat us i = f.v by rw [hfg])
        have HK1 := Hid.of (show w.cell? ⟨b, off + i, none⟩ = some (.string f.n) by rw [k1, hfg])
        clear hf hfg k1
        have HRd := Hid.of (HR7.out.up (Up.refl wr).drew)
        have HFd := Hid.of (ow_up HF7.out (Up.refl wr).drew)
        have HFd' := Hid.of (show wr.drew.ownsRow w.heap.size 85 2 (.slice a7 i c7) i (fdc (F.take i)) by have := HFd.out; rw [HLn.out] at this; exact this)
        have HOd := Hid.of (ow_up HO7.out (Up.refl wr).drew)
        have HAd := Hid.of (HA7.out.up (Up.refl wr).drew)
        have HZd := Hid.of (HZ7.out.up (Up.refl wr).drew)
        go_wp2
        refine wp_region_held_drew (S := fun w2 => At w2 w.heap.size 25 [.string m, .string t, .int .i64 mi, .slice an ns.length cn, .slice av us.length cv, .slice ab nb cb', .int .i64 pad] ∧ At w2 (w.heap.size + 1) 44 z6 ∧ Up w w2) (by kernel_rfl) ⟨HA7.out.up (Up.refl _).drew, HZ7.out.up (Up.refl _).drew, HU7.out.drew⟩ (fun hS => ?_)
        refine wpAnyH_take (i := 0) (oi := { dst := some 24, op := Go.Op.fieldAddr 44 (Go.Operand.tmp 3) 3, type := 0, pos := "law.go:117", after := #[], guard := none }) (v := .pointer (some ⟨Br, 3, none⟩)) rfl (by kernel_rfl) (by kernel_rfl) (by kernel_rfl) (fun _ _ _ h => h) (Or.inl ⟨by kernel_rfl, ?_⟩) hS ?_
        · intro w5 hSw
          clear hSw hS
          go_simp
        simp only [Act.put, List.setIfInBounds_toArray, List.set_cons_zero, List.set_cons_succ]
        refine wpAnyH_take (i := 2) (oi := { dst := some 26, op := Go.Op.fieldAddr 25 (Go.Operand.tmp 1) 3, type := 0, pos := "law.go:117", after := #[], guard := none }) (v := .pointer (some ⟨w.heap.size, 3, none⟩)) rfl (by kernel_rfl) (by kernel_rfl) (by kernel_rfl) (fun _ _ _ h => h) (Or.inl ⟨by kernel_rfl, ?_⟩) hS ?_
        · intro w5 hSw
          clear hSw hS
          go_simp
        simp only [Act.put, List.setIfInBounds_toArray, List.set_cons_zero, List.set_cons_succ]
        refine wpAnyH_take (i := 3) (oi := { dst := some 27, op := Go.Op.load 22 (Go.Operand.tmp 26), type := 22, pos := "law.go:117", after := #[{ on := 2, ground := Go.Ground.data }], guard := none }) (v := .slice (some ⟨b, off, none⟩) ns.length cn) rfl (by kernel_rfl) (by kernel_rfl) (by kernel_rfl) (fun _ _ _ h => h) (Or.inl ⟨by kernel_rfl, ?_⟩) hS ?_
        · intro w5 hSw
          have h0 := hSw.1.cell (i := 3) rfl
          rw [HAn.out] at h0
          clear hSw hS
          go_simp
        simp only [Act.put, List.setIfInBounds_toArray, List.set_cons_zero, List.set_cons_succ]
        refine wpAnyH_take (i := 4) (oi := { dst := some 28, op := Go.Op.move (Go.Operand.tmp 4), type := 3, pos := "law.go:117", after := #[], guard := none }) (v := .int .i64 (i : Int)) rfl (by kernel_rfl) (by kernel_rfl) (by kernel_rfl) (fun _ _ _ h => h) (Or.inl ⟨by kernel_rfl, ?_⟩) hS ?_
        · intro w5 hSw
          clear hSw hS
          go_simp
        simp only [Act.put, List.setIfInBounds_toArray, List.set_cons_zero, List.set_cons_succ]
        refine wpAnyH_take (i := 5) (oi := { dst := some 29, op := Go.Op.indexAddr 22 (Go.Operand.tmp 27) (Go.Operand.tmp 28), type := 0, pos := "law.go:117", after := #[{ on := 3, ground := Go.Ground.data }, { on := 4, ground := Go.Ground.data }], guard := none }) (v := .pointer (some ⟨b, off + i, none⟩)) rfl (by kernel_rfl) (by kernel_rfl) (by kernel_rfl) (fun _ _ _ h => h) (Or.inl ⟨by kernel_rfl, ?_⟩) hS ?_
        · intro w5 hSw
          clear hSw hS
          go_simp
        simp only [Act.put, List.setIfInBounds_toArray, List.set_cons_zero, List.set_cons_succ]
        refine wpAnyH_take (i := 6) (oi := { dst := some 30, op := Go.Op.load 9 (Go.Operand.tmp 29), type := 9, pos := "law.go:117", after := #[{ on := 5, ground := Go.Ground.data }], guard := none }) (v := .string f.n) rfl (by kernel_rfl) (by kernel_rfl) (by kernel_rfl) (fun _ _ _ h => h) (Or.inl ⟨by kernel_rfl, ?_⟩) hS ?_
        · intro w5 hSw
          have h0 := hSw.2.2.cell HK1.out
          clear hSw hS
          go_simp
        simp only [Act.put, List.setIfInBounds_toArray, List.set_cons_zero, List.set_cons_succ]
        refine wpAnyH_take (i := 7) (oi := { dst := some 31, op := Go.Op.fieldAddr 25 (Go.Operand.tmp 1) 4, type := 0, pos := "law.go:117", after := #[], guard := none }) (v := .pointer (some ⟨w.heap.size, 4, none⟩)) rfl (by kernel_rfl) (by kernel_rfl) (by kernel_rfl) (fun _ _ _ h => h) (Or.inl ⟨by kernel_rfl, ?_⟩) hS ?_
        · intro w5 hSw
          clear hSw hS
          go_simp
        simp only [Act.put, List.setIfInBounds_toArray, List.set_cons_zero, List.set_cons_succ]
        refine wpAnyH_take (i := 8) (oi := { dst := some 32, op := Go.Op.load 22 (Go.Operand.tmp 31), type := 22, pos := "law.go:117", after := #[{ on := 7, ground := Go.Ground.data }], guard := none }) (v := .slice av us.length cv) rfl (by kernel_rfl) (by kernel_rfl) (by kernel_rfl) (fun _ _ _ h => h) (Or.inl ⟨by kernel_rfl, ?_⟩) hS ?_
        · intro w5 hSw
          have h0 := hSw.1.cell (i := 4) rfl
          clear hSw hS
          go_simp
        simp only [Act.put, List.setIfInBounds_toArray, List.set_cons_zero, List.set_cons_succ]
        refine wpAnyH_take (i := 9) (oi := { dst := some 33, op := Go.Op.move (Go.Operand.tmp 4), type := 3, pos := "law.go:117", after := #[], guard := none }) (v := .int .i64 (i : Int)) rfl (by kernel_rfl) (by kernel_rfl) (by kernel_rfl) (fun _ _ _ h => h) (Or.inl ⟨by kernel_rfl, ?_⟩) hS ?_
        · intro w5 hSw
          clear hSw hS
          go_simp
        simp only [Act.put, List.setIfInBounds_toArray, List.set_cons_zero, List.set_cons_succ]
        refine wpAnyH_ready (rs := [1, 10]) (by kernel_rfl) (by simp) ?_
        refine AllReadyH.cons (o := { dst := some 25, op := Go.Op.load 42 (Go.Operand.tmp 24), type := 42, pos := "law.go:117", after := #[{ on := 0, ground := Go.Ground.data }], guard := none }) rfl (fun K hK => ?_) (AllReadyH.cons (o := { dst := some 34, op := Go.Op.call { callee := Go.Callee.value (Go.Operand.func 39), args := #[Go.Operand.tmp 32, Go.Operand.tmp 33], argTypes := #[22, 3] }, type := 9, pos := "law.go:117", after := #[{ on := 8, ground := Go.Ground.data }, { on := 9, ground := Go.Ground.data }], guard := none }) rfl (fun K hK => ?_) AllReadyH.nil)
        · rw [if_pos (by kernel_rfl)]
          have k3 := HRd.out.cell (i := 3) rfl
          go_simp
          refine hK.out _ _ hS (fun hS => ?_)
          clear hK K k3
          refine wpAnyH_ready (rs := [10]) (by kernel_rfl) (by simp) ?_
          refine AllReadyH.cons (o := { dst := some 34, op := Go.Op.call { callee := Go.Callee.value (Go.Operand.func 39), args := #[Go.Operand.tmp 32, Go.Operand.tmp 33], argTypes := #[22, 3] }, type := 9, pos := "law.go:117", after := #[{ on := 8, ground := Go.Ground.data }, { on := 9, ground := Go.Ground.data }], guard := none }) rfl (fun K hK => ?_) AllReadyH.nil
          rw [if_pos (by kernel_rfl)]
          go_simp
          refine (value_walk av us cv i wr.drew (HV.out.up HU7.out.drew)).mono ?_
          rintro e w5 ⟨rfl, h9⟩
          obtain rfl := h9.symm
          clear h9
          rw [HFv.out]
          dsimp only
          refine hK.out _ _ hS (fun hS => ?_)
          clear hK K
          refine wpAnyH_take (i := 11) (oi := { dst := some 35, op := Go.Op.build 85 #[(0, Go.Operand.tmp 30), (1, Go.Operand.tmp 34)], type := 85, pos := "law.go:117", after := #[{ on := 6, ground := Go.Ground.data }, { on := 10, ground := Go.Ground.data }], guard := none }) (v := .agg #[.string f.n, .string f.v]) rfl (by kernel_rfl) (by kernel_rfl) (by kernel_rfl) (fun _ _ _ h => h) (Or.inl ⟨by kernel_rfl, ?_⟩) hS ?_
          · intro w5 hSw
            clear hSw hS
            go_simp
          simp only [Act.put, List.setIfInBounds_toArray, List.set_cons_zero, List.set_cons_succ]
          refine wpAnyH_ready (rs := [12]) (by kernel_rfl) (by simp) ?_
          refine AllReadyH.cons (o := { dst := some 36, op := Go.Op.buildSlice 42 1 #[(0, Go.Operand.tmp 35)], type := 42, pos := "law.go:117", after := #[{ on := 11, ground := Go.Ground.data }], guard := none }) rfl (fun K hK => ?_) AllReadyH.nil
          rw [if_pos (by kernel_rfl)]
          go_simp
          refine hK.out _ _ ⟨hS.1.up ((Up.refl _).alloc _), hS.2.1.up ((Up.refl _).alloc _), hS.2.2.alloc _⟩ (fun hS => ?_)
          clear hK K
          refine wpAnyH_ready (rs := [13]) (by kernel_rfl) (by simp) ?_
          refine AllReadyH.cons (o := { dst := some 37, op := Go.Op.call { callee := Go.Callee.builtin Go.Builtin.append, args := #[Go.Operand.tmp 25, Go.Operand.tmp 36], argTypes := #[42, 42] }, type := 42, pos := "law.go:117", after := #[{ on := 1, ground := Go.Ground.data }, { on := 12, ground := Go.Ground.data }, { on := 10, ground := Go.Ground.chain }], guard := none }) rfl (fun K hK => oper_of_list ?_) AllReadyH.nil
          refine wpList_appRf (w := wr.drew) (N := w.heap.size) rfl _ _ rfl a7 c7 (F.take i) f HLn.out rfl rfl HFd.out HU7.out.drew.size (by omega) ?_
          intro ax2 cx2 w7 o7 u7 g7
          have HU8 := Hid.of (u7 w HU7.out.drew (Nat.le_refl _))
          have HR8 := Hid.of (HRd.out.by g7 (own_ne HFd'.out HRd.out (by decide)))
          have HA8 := Hid.of (HAd.out.by g7 (own_ne HFd'.out HAd.out (by decide)))
          have HZ8 := Hid.of (HZd.out.by g7 (own_ne HFd'.out HZd.out (by decide)))
          have HB8 := Hid.of (HOd.out.kept g7 (own_off HOd.out HFd'.out (by decide)))
          have HF8 := Hid.of (show RfO w7 w.heap.size ax2 (F.take (i + 1)) cx2 by rw [HT.out]; exact o7)
          clear o7 u7 g7
          refine hK.out _ _ ⟨HA8.out, HZ8.out, HU8.out⟩ (fun hS => ?_)
          clear hK K
          simp only [Act.put, List.setIfInBounds_toArray, List.set_cons_zero, List.set_cons_succ]
          refine wpAnyH_take (i := 14) (oi := { dst := some 38, op := Go.Op.fieldAddr 44 (Go.Operand.tmp 3) 3, type := 0, pos := "law.go:117", after := #[{ on := 0, ground := Go.Ground.phase }, { on := 1, ground := Go.Ground.phase }, { on := 2, ground := Go.Ground.phase }, { on := 3, ground := Go.Ground.phase }, { on := 4, ground := Go.Ground.phase }, { on := 5, ground := Go.Ground.phase }, { on := 6, ground := Go.Ground.phase }, { on := 7, ground := Go.Ground.phase }, { on := 8, ground := Go.Ground.phase }, { on := 9, ground := Go.Ground.phase }, { on := 10, ground := Go.Ground.phase }, { on := 11, ground := Go.Ground.phase }, { on := 12, ground := Go.Ground.phase }, { on := 13, ground := Go.Ground.phase }], guard := none }) (v := .pointer (some ⟨Br, 3, none⟩)) rfl (by kernel_rfl) (by kernel_rfl) (by kernel_rfl) (fun _ _ _ h => h) (Or.inl ⟨by kernel_rfl, ?_⟩) hS ?_
          · intro w5 hSw
            clear hSw hS
            go_simp
          simp only [Act.put, List.setIfInBounds_toArray, List.set_cons_zero, List.set_cons_succ]
          refine wpAnyH_ready (rs := [15]) (by kernel_rfl) (by simp) ?_
          refine AllReadyH.cons (o := { dst := none, op := Go.Op.store 42 (Go.Operand.tmp 38) (Go.Operand.tmp 37), type := 0, pos := "law.go:117", after := #[{ on := 14, ground := Go.Ground.data }, { on := 13, ground := Go.Ground.data }, { on := 13, ground := Go.Ground.chain }, { on := 0, ground := Go.Ground.phase }, { on := 1, ground := Go.Ground.phase }, { on := 2, ground := Go.Ground.phase }, { on := 3, ground := Go.Ground.phase }, { on := 4, ground := Go.Ground.phase }, { on := 5, ground := Go.Ground.phase }, { on := 6, ground := Go.Ground.phase }, { on := 7, ground := Go.Ground.phase }, { on := 8, ground := Go.Ground.phase }, { on := 9, ground := Go.Ground.phase }, { on := 10, ground := Go.Ground.phase }, { on := 11, ground := Go.Ground.phase }, { on := 12, ground := Go.Ground.phase }, { on := 13, ground := Go.Ground.phase }], guard := none }) rfl (fun K hK => ?_) AllReadyH.nil
          have k3 := HR8.out.cell (i := 3) rfl
          have f3 := HR8.out.thaw 3
          have G8 := grown_set1 w7 Br 3 (.slice ax2 (i + 1) cx2)
          have HR9 := Hid.of (HR8.out.set 3 (.slice ax2 (i + 1) cx2))
          have HU9 := Hid.of (HU8.out.by G8 (fun g hg => by have := Option.some.inj hg; have := HBr.out; omega))
          have HA9 := Hid.of (HA8.out.by G8 (fun e => by have := Option.some.inj e; have := HBr.out; omega))
          have HZ9 := Hid.of (HZ8.out.by G8 (fun e => by have := Option.some.inj e; have := HBr.out; omega))
          have HB9 := Hid.of (HB8.out.kept G8 (.inr (own_ne HB8.out HR8.out (by decide))))
          have HF9 := Hid.of (show RfO (w7.setCell ⟨Br, 3, none⟩ (.slice ax2 (i + 1) cx2)) w.heap.size ax2 (F.take (i + 1)) cx2 from HF8.out.kept G8 (.inr (own_ne HF8.out HR8.out (by decide))))
          clear G8
          rw [if_pos (by kernel_rfl)]
          go_simp
          refine hK.out _ _ ⟨HA9.out, HZ9.out, HU9.out⟩ (fun hS => ?_)
          clear hK K hS
          refine wpAnyH_done (by kernel_rfl) ?_ _
          go_wp2
          go_roundw
          all_goals first
            | exact ⟨i + 1, by go_num, by omega, Hid.of ⟨ax2, cx2, HR9.out, HF9.out, HB9.out, HA9.out, HZ9.out, HU9.out⟩⟩
            | (simp [intOf]; omega)
        · rw [if_pos (by kernel_rfl)]
          go_simp
          refine (value_walk av us cv i wr.drew (HV.out.up HU7.out.drew)).mono ?_
          rintro e w5 ⟨rfl, h9⟩
          obtain rfl := h9.symm
          clear h9
          rw [HFv.out]
          dsimp only
          refine hK.out _ _ hS (fun hS => ?_)
          clear hK K
          refine wpAnyH_take (i := 11) (oi := { dst := some 35, op := Go.Op.build 85 #[(0, Go.Operand.tmp 30), (1, Go.Operand.tmp 34)], type := 85, pos := "law.go:117", after := #[{ on := 6, ground := Go.Ground.data }, { on := 10, ground := Go.Ground.data }], guard := none }) (v := .agg #[.string f.n, .string f.v]) rfl (by kernel_rfl) (by kernel_rfl) (by kernel_rfl) (fun _ _ _ h => h) (Or.inl ⟨by kernel_rfl, ?_⟩) hS ?_
          · intro w5 hSw
            clear hSw hS
            go_simp
          simp only [Act.put, List.setIfInBounds_toArray, List.set_cons_zero, List.set_cons_succ]
          refine wpAnyH_ready (rs := [1, 12]) (by kernel_rfl) (by simp) ?_
          refine AllReadyH.cons (o := { dst := some 25, op := Go.Op.load 42 (Go.Operand.tmp 24), type := 42, pos := "law.go:117", after := #[{ on := 0, ground := Go.Ground.data }], guard := none }) rfl (fun K hK => ?_) (AllReadyH.cons (o := { dst := some 36, op := Go.Op.buildSlice 42 1 #[(0, Go.Operand.tmp 35)], type := 42, pos := "law.go:117", after := #[{ on := 11, ground := Go.Ground.data }], guard := none }) rfl (fun K hK => ?_) AllReadyH.nil)
          · rw [if_pos (by kernel_rfl)]
            have k3 := HRd.out.cell (i := 3) rfl
            go_simp
            refine hK.out _ _ hS (fun hS => ?_)
            clear hK K k3
            refine wpAnyH_ready (rs := [12]) (by kernel_rfl) (by simp) ?_
            refine AllReadyH.cons (o := { dst := some 36, op := Go.Op.buildSlice 42 1 #[(0, Go.Operand.tmp 35)], type := 42, pos := "law.go:117", after := #[{ on := 11, ground := Go.Ground.data }], guard := none }) rfl (fun K hK => ?_) AllReadyH.nil
            rw [if_pos (by kernel_rfl)]
            go_simp
            refine hK.out _ _ ⟨hS.1.up ((Up.refl _).alloc _), hS.2.1.up ((Up.refl _).alloc _), hS.2.2.alloc _⟩ (fun hS => ?_)
            clear hK K
            refine wpAnyH_ready (rs := [13]) (by kernel_rfl) (by simp) ?_
            refine AllReadyH.cons (o := { dst := some 37, op := Go.Op.call { callee := Go.Callee.builtin Go.Builtin.append, args := #[Go.Operand.tmp 25, Go.Operand.tmp 36], argTypes := #[42, 42] }, type := 42, pos := "law.go:117", after := #[{ on := 1, ground := Go.Ground.data }, { on := 12, ground := Go.Ground.data }, { on := 10, ground := Go.Ground.chain }], guard := none }) rfl (fun K hK => oper_of_list ?_) AllReadyH.nil
            refine wpList_appRf (w := wr.drew) (N := w.heap.size) rfl _ _ rfl a7 c7 (F.take i) f HLn.out rfl rfl HFd.out HU7.out.drew.size (by omega) ?_
            intro ax2 cx2 w7 o7 u7 g7
            have HU8 := Hid.of (u7 w HU7.out.drew (Nat.le_refl _))
            have HR8 := Hid.of (HRd.out.by g7 (own_ne HFd'.out HRd.out (by decide)))
            have HA8 := Hid.of (HAd.out.by g7 (own_ne HFd'.out HAd.out (by decide)))
            have HZ8 := Hid.of (HZd.out.by g7 (own_ne HFd'.out HZd.out (by decide)))
            have HB8 := Hid.of (HOd.out.kept g7 (own_off HOd.out HFd'.out (by decide)))
            have HF8 := Hid.of (show RfO w7 w.heap.size ax2 (F.take (i + 1)) cx2 by rw [HT.out]; exact o7)
            clear o7 u7 g7
            refine hK.out _ _ ⟨HA8.out, HZ8.out, HU8.out⟩ (fun hS => ?_)
            clear hK K
            simp only [Act.put, List.setIfInBounds_toArray, List.set_cons_zero, List.set_cons_succ]
            refine wpAnyH_take (i := 14) (oi := { dst := some 38, op := Go.Op.fieldAddr 44 (Go.Operand.tmp 3) 3, type := 0, pos := "law.go:117", after := #[{ on := 0, ground := Go.Ground.phase }, { on := 1, ground := Go.Ground.phase }, { on := 2, ground := Go.Ground.phase }, { on := 3, ground := Go.Ground.phase }, { on := 4, ground := Go.Ground.phase }, { on := 5, ground := Go.Ground.phase }, { on := 6, ground := Go.Ground.phase }, { on := 7, ground := Go.Ground.phase }, { on := 8, ground := Go.Ground.phase }, { on := 9, ground := Go.Ground.phase }, { on := 10, ground := Go.Ground.phase }, { on := 11, ground := Go.Ground.phase }, { on := 12, ground := Go.Ground.phase }, { on := 13, ground := Go.Ground.phase }], guard := none }) (v := .pointer (some ⟨Br, 3, none⟩)) rfl (by kernel_rfl) (by kernel_rfl) (by kernel_rfl) (fun _ _ _ h => h) (Or.inl ⟨by kernel_rfl, ?_⟩) hS ?_
            · intro w5 hSw
              clear hSw hS
              go_simp
            simp only [Act.put, List.setIfInBounds_toArray, List.set_cons_zero, List.set_cons_succ]
            refine wpAnyH_ready (rs := [15]) (by kernel_rfl) (by simp) ?_
            refine AllReadyH.cons (o := { dst := none, op := Go.Op.store 42 (Go.Operand.tmp 38) (Go.Operand.tmp 37), type := 0, pos := "law.go:117", after := #[{ on := 14, ground := Go.Ground.data }, { on := 13, ground := Go.Ground.data }, { on := 13, ground := Go.Ground.chain }, { on := 0, ground := Go.Ground.phase }, { on := 1, ground := Go.Ground.phase }, { on := 2, ground := Go.Ground.phase }, { on := 3, ground := Go.Ground.phase }, { on := 4, ground := Go.Ground.phase }, { on := 5, ground := Go.Ground.phase }, { on := 6, ground := Go.Ground.phase }, { on := 7, ground := Go.Ground.phase }, { on := 8, ground := Go.Ground.phase }, { on := 9, ground := Go.Ground.phase }, { on := 10, ground := Go.Ground.phase }, { on := 11, ground := Go.Ground.phase }, { on := 12, ground := Go.Ground.phase }, { on := 13, ground := Go.Ground.phase }], guard := none }) rfl (fun K hK => ?_) AllReadyH.nil
            have k3 := HR8.out.cell (i := 3) rfl
            have f3 := HR8.out.thaw 3
            have G8 := grown_set1 w7 Br 3 (.slice ax2 (i + 1) cx2)
            have HR9 := Hid.of (HR8.out.set 3 (.slice ax2 (i + 1) cx2))
            have HU9 := Hid.of (HU8.out.by G8 (fun g hg => by have := Option.some.inj hg; have := HBr.out; omega))
            have HA9 := Hid.of (HA8.out.by G8 (fun e => by have := Option.some.inj e; have := HBr.out; omega))
            have HZ9 := Hid.of (HZ8.out.by G8 (fun e => by have := Option.some.inj e; have := HBr.out; omega))
            have HB9 := Hid.of (HB8.out.kept G8 (.inr (own_ne HB8.out HR8.out (by decide))))
            have HF9 := Hid.of (show RfO (w7.setCell ⟨Br, 3, none⟩ (.slice ax2 (i + 1) cx2)) w.heap.size ax2 (F.take (i + 1)) cx2 from HF8.out.kept G8 (.inr (own_ne HF8.out HR8.out (by decide))))
            clear G8
            rw [if_pos (by kernel_rfl)]
            go_simp
            refine hK.out _ _ ⟨HA9.out, HZ9.out, HU9.out⟩ (fun hS => ?_)
            clear hK K hS
            refine wpAnyH_done (by kernel_rfl) ?_ _
            go_wp2
            go_roundw
            all_goals first
              | exact ⟨i + 1, by go_num, by omega, Hid.of ⟨ax2, cx2, HR9.out, HF9.out, HB9.out, HA9.out, HZ9.out, HU9.out⟩⟩
              | (simp [intOf]; omega)
          · rw [if_pos (by kernel_rfl)]
            go_simp
            refine hK.out _ _ ⟨hS.1.up ((Up.refl _).alloc _), hS.2.1.up ((Up.refl _).alloc _), hS.2.2.alloc _⟩ (fun hS => ?_)
            clear hK K
            refine wpAnyH_ready (rs := [1]) (by kernel_rfl) (by simp) ?_
            refine AllReadyH.cons (o := { dst := some 25, op := Go.Op.load 42 (Go.Operand.tmp 24), type := 42, pos := "law.go:117", after := #[{ on := 0, ground := Go.Ground.data }], guard := none }) rfl (fun K hK => ?_) AllReadyH.nil
            rw [if_pos (by kernel_rfl)]
            have k3 := ((HR7.out.up ((Up.refl wr).alloc (.cells #[.string f.n, .string f.v] 85))).up (Up.refl _).drew).cell (i := 3) rfl
            go_simp
            refine hK.out _ _ hS (fun hS => ?_)
            clear hK K k3
            refine wpAnyH_ready (rs := [13]) (by kernel_rfl) (by simp) ?_
            refine AllReadyH.cons (o := { dst := some 37, op := Go.Op.call { callee := Go.Callee.builtin Go.Builtin.append, args := #[Go.Operand.tmp 25, Go.Operand.tmp 36], argTypes := #[42, 42] }, type := 42, pos := "law.go:117", after := #[{ on := 1, ground := Go.Ground.data }, { on := 12, ground := Go.Ground.data }, { on := 10, ground := Go.Ground.chain }], guard := none }) rfl (fun K hK => oper_of_list ?_) AllReadyH.nil
            refine wpList_appRf (w := wr.drew) (N := w.heap.size) rfl _ _ rfl a7 c7 (F.take i) f HLn.out rfl rfl HFd.out HU7.out.drew.size (by omega) ?_
            intro ax2 cx2 w7 o7 u7 g7
            have HU8 := Hid.of (u7 w HU7.out.drew (Nat.le_refl _))
            have HR8 := Hid.of (HRd.out.by g7 (own_ne HFd'.out HRd.out (by decide)))
            have HA8 := Hid.of (HAd.out.by g7 (own_ne HFd'.out HAd.out (by decide)))
            have HZ8 := Hid.of (HZd.out.by g7 (own_ne HFd'.out HZd.out (by decide)))
            have HB8 := Hid.of (HOd.out.kept g7 (own_off HOd.out HFd'.out (by decide)))
            have HF8 := Hid.of (show RfO w7 w.heap.size ax2 (F.take (i + 1)) cx2 by rw [HT.out]; exact o7)
            clear o7 u7 g7
            refine hK.out _ _ ⟨HA8.out, HZ8.out, HU8.out⟩ (fun hS => ?_)
            clear hK K
            simp only [Act.put, List.setIfInBounds_toArray, List.set_cons_zero, List.set_cons_succ]
            refine wpAnyH_take (i := 14) (oi := { dst := some 38, op := Go.Op.fieldAddr 44 (Go.Operand.tmp 3) 3, type := 0, pos := "law.go:117", after := #[{ on := 0, ground := Go.Ground.phase }, { on := 1, ground := Go.Ground.phase }, { on := 2, ground := Go.Ground.phase }, { on := 3, ground := Go.Ground.phase }, { on := 4, ground := Go.Ground.phase }, { on := 5, ground := Go.Ground.phase }, { on := 6, ground := Go.Ground.phase }, { on := 7, ground := Go.Ground.phase }, { on := 8, ground := Go.Ground.phase }, { on := 9, ground := Go.Ground.phase }, { on := 10, ground := Go.Ground.phase }, { on := 11, ground := Go.Ground.phase }, { on := 12, ground := Go.Ground.phase }, { on := 13, ground := Go.Ground.phase }], guard := none }) (v := .pointer (some ⟨Br, 3, none⟩)) rfl (by kernel_rfl) (by kernel_rfl) (by kernel_rfl) (fun _ _ _ h => h) (Or.inl ⟨by kernel_rfl, ?_⟩) hS ?_
            · intro w5 hSw
              clear hSw hS
              go_simp
            simp only [Act.put, List.setIfInBounds_toArray, List.set_cons_zero, List.set_cons_succ]
            refine wpAnyH_ready (rs := [15]) (by kernel_rfl) (by simp) ?_
            refine AllReadyH.cons (o := { dst := none, op := Go.Op.store 42 (Go.Operand.tmp 38) (Go.Operand.tmp 37), type := 0, pos := "law.go:117", after := #[{ on := 14, ground := Go.Ground.data }, { on := 13, ground := Go.Ground.data }, { on := 13, ground := Go.Ground.chain }, { on := 0, ground := Go.Ground.phase }, { on := 1, ground := Go.Ground.phase }, { on := 2, ground := Go.Ground.phase }, { on := 3, ground := Go.Ground.phase }, { on := 4, ground := Go.Ground.phase }, { on := 5, ground := Go.Ground.phase }, { on := 6, ground := Go.Ground.phase }, { on := 7, ground := Go.Ground.phase }, { on := 8, ground := Go.Ground.phase }, { on := 9, ground := Go.Ground.phase }, { on := 10, ground := Go.Ground.phase }, { on := 11, ground := Go.Ground.phase }, { on := 12, ground := Go.Ground.phase }, { on := 13, ground := Go.Ground.phase }], guard := none }) rfl (fun K hK => ?_) AllReadyH.nil
            have k3 := HR8.out.cell (i := 3) rfl
            have f3 := HR8.out.thaw 3
            have G8 := grown_set1 w7 Br 3 (.slice ax2 (i + 1) cx2)
            have HR9 := Hid.of (HR8.out.set 3 (.slice ax2 (i + 1) cx2))
            have HU9 := Hid.of (HU8.out.by G8 (fun g hg => by have := Option.some.inj hg; have := HBr.out; omega))
            have HA9 := Hid.of (HA8.out.by G8 (fun e => by have := Option.some.inj e; have := HBr.out; omega))
            have HZ9 := Hid.of (HZ8.out.by G8 (fun e => by have := Option.some.inj e; have := HBr.out; omega))
            have HB9 := Hid.of (HB8.out.kept G8 (.inr (own_ne HB8.out HR8.out (by decide))))
            have HF9 := Hid.of (show RfO (w7.setCell ⟨Br, 3, none⟩ (.slice ax2 (i + 1) cx2)) w.heap.size ax2 (F.take (i + 1)) cx2 from HF8.out.kept G8 (.inr (own_ne HF8.out HR8.out (by decide))))
            clear G8
            rw [if_pos (by kernel_rfl)]
            go_simp
            refine hK.out _ _ ⟨HA9.out, HZ9.out, HU9.out⟩ (fun hS => ?_)
            clear hK K hS
            refine wpAnyH_done (by kernel_rfl) ?_ _
            go_wp2
            go_roundw
            all_goals first
              | exact ⟨i + 1, by go_num, by omega, Hid.of ⟨ax2, cx2, HR9.out, HF9.out, HB9.out, HA9.out, HZ9.out, HU9.out⟩⟩
              | (simp [intOf]; omega)
      · have hilz : ¬ (i : Int) < (ns.length : Int) := by omega
        have hin : i = ns.length := by omega
        subst hin
        have HF8 := Hid.of (show RfO wr w.heap.size a7 F c7 by
          have h1 := HF7.out
          rw [List.take_of_length_le (by rw [HFl.out]; exact Nat.le_refl _)] at h1
          exact h1)
        go_wp2_with (with_reducible show wpList _ _ _ ({ dst := _, op := Op.load 44 _, type := _, pos := _, after := _, guard := _ } :: _) _ _; refine Shut.out ?_)
        show wpList _ _ _ _ _ _
        refine wpList_load_mid rfl _ _ rfl Br 0 rfl [.string m, .string t, .int .i64 mi, .slice a7 ns.length c7, .slice a5 L5 c5, .bool false] _ HR7.out.range Tryz.underlying44 rfl (by kernel_rfl) ?_
        simp only [Act.put, List.setIfInBounds_toArray, List.set_cons_zero, List.set_cons_succ]
        refine wpList_store_at rfl 44 _ _ rfl (w.heap.size + 1) HZ7.out [.string m, .string t, .int .i64 mi, .slice a7 ns.length c7, .slice a5 L5 c5, .bool false] rfl rfl rfl (by kernel_rfl) (by kernel_rfl) ?_
        intro w8 hA8 hg8
        have HA8 := Hid.of hA8
        have HU8 := Hid.of (HU7.out.by hg8 (fun g hg => by have := Option.some.inj hg; omega))
        have HF9 := Hid.of (show RfO w8 w.heap.size a7 F c7 from HF8.out.kept hg8 (.inr (own_ne HF8.out HZ7.out (by decide))))
        have HO9 := Hid.of (HO7.out.kept hg8 (.inr (own_ne HO7.out HZ7.out (by decide))))
        clear hA8 hg8
        simp only [Act.put]
        repeat go_step
        refine bodyPost_ret (results_agg1 Tryz.results11 _ _ (w.heap.size + 1) [.string m, .string t, .int .i64 mi, .slice a7 ns.length c7, .slice a5 L5 c5, .bool false] rfl HA8.out.range Tryz.underlying44 rfl (by kernel_rfl)) rfl ?_
        exact ⟨⟨a7, c7, _, rfl, Hid.of ⟨HF9.out, by unfold Ow; rw [HL5.out]; exact HO9.out⟩⟩, HU8.out⟩
end Go.Proofs.YtkaoalcffgnfeaaGreatDoor
