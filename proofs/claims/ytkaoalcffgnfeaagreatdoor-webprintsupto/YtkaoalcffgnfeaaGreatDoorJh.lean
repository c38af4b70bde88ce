import Derived.Test.YtkaoalcffgnfeaaGreatDoorJg
import Derived.Test.YtkaoalcffgnfeaaGreatDoorJf
import Derived.Test.YtkaoalcffgnfeaaGreatDoorJd
import Derived.Test.YtkaoalcffgnfeaaGreatDoorJc
import Derived.Test.YtkaoalcffgnfeaaGreatDoorJa
import Derived.SizedLaws
import Derived.ProofKit
import Derived.OpenShut
import Derived.ChangeSame
import Derived.WideKeyArgs
import Derived.DataReads
namespace Go.Proofs.YtkaoalcffgnfeaaGreatDoor
open Go.RowKit Go.Shelf TextNum
set_option maxRecDepth 100000 in
set_option maxHeartbeats 8000000 in
theorem response_walk (st mi : Int) (an : Option Addr) (ns : List ByteArray) (cn : Nat) (av : Option Addr) (us : List ByteArray) (cv : Nat) (ab : Option Addr) (nb cb' : Nat) (bd : List UInt8) (pad : Int) (w : World) (hN : StL w an ns cn) (hV : StL w av us cv) (hB : Sb w (.slice ab nb cb') bd) (hnl : ns.length ≤ 1048576) (hbl : bd.length ≤ 1048576) :
    Calls Tryz.prog 17 #[.agg #[.int .i64 st, .int .i64 mi, .slice an ns.length cn, .slice av us.length cv, .slice ab nb cb', .int .i64 pad]] w fun e w' => (∃ a c v, e = .returned (.agg #[.int .i64 st, .int .i64 mi, .slice a ns.length c, v, .bool false]) ∧ Hid (FdO w' w.heap.size a (mkF ns us) c ∧ Ow w' w.heap.size v (pdd bd pad))) ∧ Up w w' := by
  have HN := Hid.of hN
  have HV := Hid.of hV
  have HB := Hid.of hB
  have hcap := hN.cap
  have hcapv := hV.cap
  obtain ⟨hbn, hbc, hbm⟩ := hB.len
  unfold maxLen at hbm
  clear hN hV hB hbn
  obtain ⟨F, hF⟩ : ∃ F, mkF ns us = F := ⟨_, rfl⟩
  have HFl := Hid.of (show F.length = ns.length by rw [← hF, mkF_len])
  have HFg := Hid.of (show ∀ i (h : i < ns.length) (h' : i < F.length), F[i] = ⟨ns[i], vat us i⟩ by subst hF; exact fun i h h' => mkF_get h h')
  rw [hF]
  clear hF
  have HA0 := Hid.of ((at_new w 27 [.int .i64 st, .int .i64 mi, .slice an ns.length cn, .slice av us.length cv, .slice ab nb cb', .int .i64 pad]).up ((Up.refl _).alloc (.cells z5.toArray 55)))
  have HZ0 := Hid.of (at_new (w.alloc (.cells [.int .i64 st, .int .i64 mi, .slice an ns.length cn, .slice av us.length cv, .slice ab nb cb', .int .i64 pad].toArray 27)) 55 z5)
  have HU0 := Hid.of (((Up.refl w).alloc (.cells [.int .i64 st, .int .i64 mi, .slice an ns.length cn, .slice av us.length cv, .slice ab nb cb', .int .i64 pad].toArray 27)).alloc (.cells z5.toArray 55))
  rw [alloc_size] at HZ0
  go_enter Tryz.func17, Tryz.ntmps17
  go_wp2
  obtain ⟨w1, hw1⟩ : ∃ w1, (w.alloc (.cells [.int .i64 st, .int .i64 mi, .slice an ns.length cn, .slice av us.length cv, .slice ab nb cb', .int .i64 pad].toArray 27)).alloc (.cells z5.toArray 55) = w1 := ⟨_, rfl⟩
  have HS1 := Hid.of (show w.heap.size + 1 < w1.heap.size by rw [← hw1, alloc_size, alloc_size]; omega)
  rw [hw1] at HA0 HU0 HZ0
  change Code.wp _ _ _ _ ((w.alloc (.cells [.int .i64 st, .int .i64 mi, .slice an ns.length cn, .slice av us.length cv, .slice ab nb cb', .int .i64 pad].toArray 27)).alloc (.cells z5.toArray 55))
  rw [hw1]
  clear hw1
  refine wp_region_held_drew (S := fun w2 => At w2 w.heap.size 27 [.int .i64 st, .int .i64 mi, .slice an ns.length cn, .slice av us.length cv, .slice ab nb cb', .int .i64 pad] ∧ At w2 (w.heap.size + 1) 55 z5 ∧ Up w w2) (by kernel_rfl) ⟨HA0.out.up (Up.refl _).drew, HZ0.out.up (Up.refl _).drew, HU0.out.drew⟩ (fun hS => ?_)
  refine wpAnyH_take (i := 0) (oi := { dst := some 5, op := Go.Op.fieldAddr 27 (Go.Operand.tmp 1) 0, type := 0, pos := "law.go:124", after := #[], guard := none }) (v := .pointer (some ⟨w.heap.size, 0, none⟩)) rfl (by kernel_rfl) (by kernel_rfl) (by kernel_rfl) (fun _ _ _ h => h) (Or.inl ⟨by kernel_rfl, ?_⟩) hS ?_
  · intro w5 hSw
    clear hSw hS
    go_simp
  simp only [Act.put, List.setIfInBounds_toArray, List.set_cons_zero, List.set_cons_succ]
  refine wpAnyH_take (i := 1) (oi := { dst := some 6, op := Go.Op.load 3 (Go.Operand.tmp 5), type := 3, pos := "law.go:124", after := #[{ on := 0, ground := Go.Ground.data }], guard := none }) (v := .int .i64 st) rfl (by kernel_rfl) (by kernel_rfl) (by kernel_rfl) (fun _ _ _ h => h) (Or.inl ⟨by kernel_rfl, ?_⟩) hS ?_
  · intro w5 hSw
    have h0 := hSw.1.cell (i := 0) rfl
    clear hSw hS
    go_simp
  simp only [Act.put, List.setIfInBounds_toArray, List.set_cons_zero, List.set_cons_succ]
  refine wpAnyH_take (i := 2) (oi := { dst := some 7, op := Go.Op.fieldAddr 27 (Go.Operand.tmp 1) 1, type := 0, pos := "law.go:124", after := #[], guard := none }) (v := .pointer (some ⟨w.heap.size, 1, none⟩)) rfl (by kernel_rfl) (by kernel_rfl) (by kernel_rfl) (fun _ _ _ h => h) (Or.inl ⟨by kernel_rfl, ?_⟩) hS ?_
  · intro w5 hSw
    clear hSw hS
    go_simp
  simp only [Act.put, List.setIfInBounds_toArray, List.set_cons_zero, List.set_cons_succ]
  refine wpAnyH_take (i := 3) (oi := { dst := some 8, op := Go.Op.load 3 (Go.Operand.tmp 7), type := 3, pos := "law.go:124", after := #[{ on := 2, ground := Go.Ground.data }], guard := none }) (v := .int .i64 mi) rfl (by kernel_rfl) (by kernel_rfl) (by kernel_rfl) (fun _ _ _ h => h) (Or.inl ⟨by kernel_rfl, ?_⟩) hS ?_
  · intro w5 hSw
    have h0 := hSw.1.cell (i := 1) rfl
    clear hSw hS
    go_simp
  simp only [Act.put, List.setIfInBounds_toArray, List.set_cons_zero, List.set_cons_succ]
  refine wpAnyH_take (i := 4) (oi := { dst := some 9, op := Go.Op.fieldAddr 27 (Go.Operand.tmp 1) 4, type := 0, pos := "law.go:124", after := #[], guard := none }) (v := .pointer (some ⟨w.heap.size, 4, none⟩)) rfl (by kernel_rfl) (by kernel_rfl) (by kernel_rfl) (fun _ _ _ h => h) (Or.inl ⟨by kernel_rfl, ?_⟩) hS ?_
  · intro w5 hSw
    clear hSw hS
    go_simp
  simp only [Act.put, List.setIfInBounds_toArray, List.set_cons_zero, List.set_cons_succ]
  refine wpAnyH_take (i := 5) (oi := { dst := some 10, op := Go.Op.load 23 (Go.Operand.tmp 9), type := 23, pos := "law.go:124", after := #[{ on := 4, ground := Go.Ground.data }], guard := none }) (v := .slice ab nb cb') rfl (by kernel_rfl) (by kernel_rfl) (by kernel_rfl) (fun _ _ _ h => h) (Or.inl ⟨by kernel_rfl, ?_⟩) hS ?_
  · intro w5 hSw
    have h0 := hSw.1.cell (i := 4) rfl
    clear hSw hS
    go_simp
  simp only [Act.put, List.setIfInBounds_toArray, List.set_cons_zero, List.set_cons_succ]
  refine wpAnyH_take (i := 6) (oi := { dst := some 11, op := Go.Op.fieldAddr 27 (Go.Operand.tmp 1) 5, type := 0, pos := "law.go:124", after := #[], guard := none }) (v := .pointer (some ⟨w.heap.size, 5, none⟩)) rfl (by kernel_rfl) (by kernel_rfl) (by kernel_rfl) (fun _ _ _ h => h) (Or.inl ⟨by kernel_rfl, ?_⟩) hS ?_
  · intro w5 hSw
    clear hSw hS
    go_simp
  simp only [Act.put, List.setIfInBounds_toArray, List.set_cons_zero, List.set_cons_succ]
  refine wpAnyH_take (i := 7) (oi := { dst := some 12, op := Go.Op.load 3 (Go.Operand.tmp 11), type := 3, pos := "law.go:124", after := #[{ on := 6, ground := Go.Ground.data }], guard := none }) (v := .int .i64 pad) rfl (by kernel_rfl) (by kernel_rfl) (by kernel_rfl) (fun _ _ _ h => h) (Or.inl ⟨by kernel_rfl, ?_⟩) hS ?_
  · intro w5 hSw
    have h0 := hSw.1.cell (i := 5) rfl
    clear hSw hS
    go_simp
  simp only [Act.put, List.setIfInBounds_toArray, List.set_cons_zero, List.set_cons_succ]
  refine wpAnyH_ready (rs := [8, 10]) (by kernel_rfl) (by simp) ?_
  refine AllReadyH.cons (o := { dst := some 13, op := Go.Op.call { callee := Go.Callee.value (Go.Operand.func 18), args := #[Go.Operand.tmp 10, Go.Operand.tmp 12], argTypes := #[23, 3] }, type := 23, pos := "law.go:124", after := #[{ on := 5, ground := Go.Ground.data }, { on := 7, ground := Go.Ground.data }], guard := none }) rfl (fun K hK => ?_) (AllReadyH.cons (o := { dst := some 3, op := Go.Op.alloc 55, type := 0, pos := "law.go:124", after := #[], guard := none }) rfl (fun K hK => ?_) AllReadyH.nil)
  · rw [if_pos (by kernel_rfl)]
    go_simp
    refine (padded_walk (.slice ab nb cb') bd pad (by omega) w1.drew (HB.out.up (HU0.out.drew))).mono ?_
    rintro e w2 ⟨v5, rfl, hO, h9⟩
    obtain ⟨a5, c5, rfl⟩ := row_len hO
    have HO2 := Hid.of (show Ow w2 w.heap.size _ (pdd bd pad) from ow_base hO (HU0.out.drew).size)
    have HU2 := Hid.of ((HU0.out.drew).trans h9)
    have HA2 := Hid.of ((HA0.out.up (Up.refl _).drew).up h9)
    have HZ2 := Hid.of ((HZ0.out.up (Up.refl _).drew).up h9)
    have Hs2 := Hid.of (show w1.drew.heap.size ≤ w2.heap.size from h9.size)
    clear h9 hO hS
    obtain ⟨L5, hL5⟩ : ∃ L5, (pdd bd pad).length = L5 := ⟨_, rfl⟩
    have HL5 := Hid.of hL5
    rw [hL5] at HO2 ⊢
    clear hL5
    dsimp only
    refine hK.out _ _ ⟨HA2.out, HZ2.out, HU2.out⟩ (fun hS => ?_)
    clear hK K
    refine wpAnyH_take (i := 9) (oi := { dst := some 14, op := Go.Op.build 55 #[(0, Go.Operand.tmp 6), (1, Go.Operand.tmp 8), (3, Go.Operand.tmp 13)], type := 55, pos := "law.go:124", after := #[{ on := 1, ground := Go.Ground.data }, { on := 3, ground := Go.Ground.data }, { on := 8, ground := Go.Ground.data }], guard := none }) (v := .agg #[.int .i64 st, .int .i64 mi, .slice none 0 0, .slice a5 L5 c5, .bool false]) rfl (by kernel_rfl) (by kernel_rfl) (by kernel_rfl) (fun _ _ _ h => h) (Or.inl ⟨by kernel_rfl, ?_⟩) hS ?_
    · intro w5 hSw
      clear hSw hS
      go_simp
    simp only [Act.put, List.setIfInBounds_toArray, List.set_cons_zero, List.set_cons_succ]
    refine wpAnyH_ready (rs := [10]) (by kernel_rfl) (by simp) ?_
    refine AllReadyH.cons (o := { dst := some 3, op := Go.Op.alloc 55, type := 0, pos := "law.go:124", after := #[], guard := none }) rfl (fun K hK => ?_) AllReadyH.nil
    rw [if_pos (by kernel_rfl)]
    go_simp
    have HR3 := Hid.of (at_new w2 55 z5)
    have HBr := Hid.of (show w.heap.size + 1 < w2.heap.size from Nat.lt_of_lt_of_le HS1.out (Nat.le_trans (Up.refl w1).drew.size Hs2.out))
    have HO3 := Hid.of (ow_up HO2.out ((Up.refl w2).alloc (.cells z5.toArray 55)))
    clear HO2
    refine hK.out _ _ ⟨hS.1.up ((Up.refl _).alloc _), hS.2.1.up ((Up.refl _).alloc _), hS.2.2.alloc _⟩ (fun hS => ?_)
    clear hK K
    refine wpAnyH_ready (rs := [11]) (by kernel_rfl) (by simp) ?_
    refine AllReadyH.cons (o := { dst := none, op := Go.Op.store 55 (Go.Operand.tmp 3) (Go.Operand.tmp 14), type := 0, pos := "law.go:124", after := #[{ on := 10, ground := Go.Ground.data }, { on := 9, ground := Go.Ground.data }, { on := 8, ground := Go.Ground.chain }, { on := 0, ground := Go.Ground.phase }, { on := 1, ground := Go.Ground.phase }, { on := 2, ground := Go.Ground.phase }, { on := 3, ground := Go.Ground.phase }, { on := 4, ground := Go.Ground.phase }, { on := 5, ground := Go.Ground.phase }, { on := 6, ground := Go.Ground.phase }, { on := 7, ground := Go.Ground.phase }, { on := 8, ground := Go.Ground.phase }, { on := 9, ground := Go.Ground.phase }, { on := 10, ground := Go.Ground.phase }], guard := none }) rfl (fun K hK => oper_of_list ?_) AllReadyH.nil
    refine wpList_store_at rfl 55 _ _ rfl (w2.heap.size) HR3.out ([.int .i64 st, .int .i64 mi, .slice none 0 0, .slice a5 L5 c5, .bool false]) rfl rfl rfl (by kernel_rfl) (by kernel_rfl) ?_
    intro w4 hA4 hg4
    have HR4 := Hid.of hA4
    have HU4 := Hid.of (hS.2.2.by hg4 (fun g hg => by have := Option.some.inj hg; have := HBr.out; omega))
    have HA4 := Hid.of (hS.1.by hg4 (fun e => by have := Option.some.inj e; have := HBr.out; omega))
    have HZ4 := Hid.of (hS.2.1.by hg4 (fun e => by have := Option.some.inj e; have := HBr.out; omega))
    have HO4 := Hid.of (HO3.out.kept hg4 (.inr (own_ne HO3.out HR3.out (by decide))))
    clear hA4 hg4 HR3 HO3
    refine hK.out _ _ ⟨HA4.out, HZ4.out, HU4.out⟩ (fun hS => ?_)
    clear hK K hS
    refine wpAnyH_done (by kernel_rfl) ?_ _
    obtain ⟨Br, hBr⟩ : ∃ Br, w2.heap.size = Br := ⟨_, rfl⟩
    rw [hBr] at HR4 HBr ⊢
    clear hBr
    go_wp2
    go_loopw [4] (fun v4 wr => ∃ i : Nat, v4 = .int .i64 (i : Int) ∧ i ≤ ns.length ∧ Hid (∃ a7 c7, At wr Br 55 [.int .i64 st, .int .i64 mi, .slice a7 i c7, .slice a5 L5 c5, .bool false] ∧ FdO wr w.heap.size a7 (F.take i) c7 ∧ wr.ownsRow w.heap.size 5 1 (.slice a5 L5 c5) L5 (cb (pdd bd pad)) ∧ At wr w.heap.size 27 [.int .i64 st, .int .i64 mi, .slice an ns.length cn, .slice av us.length cv, .slice ab nb cb', .int .i64 pad] ∧ At wr (w.heap.size + 1) 55 z5 ∧ Up w wr)) (fun v4 _ => ns.length - (intOf v4).toNat)
    case atStart => exact ⟨0, rfl, Nat.zero_le _, Hid.of ⟨none, 0, HR4.out, World.ownsRow_nil _ _ _ _, (by have h := HO4.out; rw [HL5.out] at h; exact h), HA4.out, HZ4.out, HU4.out⟩⟩
    case round =>
      obtain ⟨i, rfl, hi, hQ⟩ := hrel
      obtain ⟨a7, c7, q1, q2, q3, q4, q5, q6⟩ := hQ.out
      have HR7 := Hid.of q1
      have HF7 := Hid.of q2
      have HO7 := Hid.of q3
      have HA7 := Hid.of q4
      have HZ7 := Hid.of q5
      have HU7 := Hid.of q6
      have h3 := q4.cell (i := 2) rfl
      clear hQ q1 q2 q3 q4 q5 q6
      by_cases hil : i < ns.length
      · have hilz : (i : Int) < (ns.length : Int) := by omega
        have hif : i < F.length := by rw [HFl.out]; exact hil
        obtain ⟨b, off, han, k1⟩ := HN.out.cells i hil
        have HAn := Hid.of han
        clear han
        have HT := Hid.of (List.take_succ_eq_append_getElem hif)
        have HLn := Hid.of (show (F.take i).length = i by rw [List.length_take]; omega)
        have hfg := HFg.out i hil hif
        obtain ⟨f, hf⟩ : ∃ f, F[i] = f := ⟨_, rfl⟩
        rw [hf] at HT hfg
        have HFv := Hid.of (show vat us i = f.v by rw [hfg])
        have HK1 := Hid.of (show w.cell? ⟨b, off + i, none⟩ = some (.string f.n) by rw [k1, hfg])
        clear hf hfg k1
        have HRd := Hid.of (HR7.out.up (Up.refl wr).drew)
        have HFd := Hid.of (ow_up HF7.out (Up.refl wr).drew)
        have HFd' := Hid.of (show wr.drew.ownsRow w.heap.size 87 2 (.slice a7 i c7) i (fdc (F.take i)) by have := HFd.out; rw [HLn.out] at this; exact this)
        have HOd := Hid.of (ow_up HO7.out (Up.refl wr).drew)
        have HAd := Hid.of (HA7.out.up (Up.refl wr).drew)
        have HZd := Hid.of (HZ7.out.up (Up.refl wr).drew)
        go_wp2
        refine wp_region_held_drew (S := fun w2 => At w2 w.heap.size 27 [.int .i64 st, .int .i64 mi, .slice an ns.length cn, .slice av us.length cv, .slice ab nb cb', .int .i64 pad] ∧ At w2 (w.heap.size + 1) 55 z5 ∧ Up w w2) (by kernel_rfl) ⟨HA7.out.up (Up.refl _).drew, HZ7.out.up (Up.refl _).drew, HU7.out.drew⟩ (fun hS => ?_)
        refine wpAnyH_take (i := 0) (oi := { dst := some 22, op := Go.Op.fieldAddr 55 (Go.Operand.tmp 3) 2, type := 0, pos := "law.go:126", after := #[], guard := none }) (v := .pointer (some ⟨Br, 2, none⟩)) rfl (by kernel_rfl) (by kernel_rfl) (by kernel_rfl) (fun _ _ _ h => h) (Or.inl ⟨by kernel_rfl, ?_⟩) hS ?_
        · intro w5 hSw
          clear hSw hS
          go_simp
        simp only [Act.put, List.setIfInBounds_toArray, List.set_cons_zero, List.set_cons_succ]
        refine wpAnyH_take (i := 2) (oi := { dst := some 24, op := Go.Op.fieldAddr 27 (Go.Operand.tmp 1) 2, type := 0, pos := "law.go:126", after := #[], guard := none }) (v := .pointer (some ⟨w.heap.size, 2, none⟩)) rfl (by kernel_rfl) (by kernel_rfl) (by kernel_rfl) (fun _ _ _ h => h) (Or.inl ⟨by kernel_rfl, ?_⟩) hS ?_
        · intro w5 hSw
          clear hSw hS
          go_simp
        simp only [Act.put, List.setIfInBounds_toArray, List.set_cons_zero, List.set_cons_succ]
        refine wpAnyH_take (i := 3) (oi := { dst := some 25, op := Go.Op.load 22 (Go.Operand.tmp 24), type := 22, pos := "law.go:126", after := #[{ on := 2, ground := Go.Ground.data }], guard := none }) (v := .slice (some ⟨b, off, none⟩) ns.length cn) rfl (by kernel_rfl) (by kernel_rfl) (by kernel_rfl) (fun _ _ _ h => h) (Or.inl ⟨by kernel_rfl, ?_⟩) hS ?_
        · intro w5 hSw
          have h0 := hSw.1.cell (i := 2) rfl
          rw [HAn.out] at h0
          clear hSw hS
          go_simp
        simp only [Act.put, List.setIfInBounds_toArray, List.set_cons_zero, List.set_cons_succ]
        refine wpAnyH_take (i := 4) (oi := { dst := some 26, op := Go.Op.move (Go.Operand.tmp 4), type := 3, pos := "law.go:126", after := #[], guard := none }) (v := .int .i64 (i : Int)) rfl (by kernel_rfl) (by kernel_rfl) (by kernel_rfl) (fun _ _ _ h => h) (Or.inl ⟨by kernel_rfl, ?_⟩) hS ?_
        · intro w5 hSw
          clear hSw hS
          go_simp
        simp only [Act.put, List.setIfInBounds_toArray, List.set_cons_zero, List.set_cons_succ]
        refine wpAnyH_take (i := 5) (oi := { dst := some 27, op := Go.Op.indexAddr 22 (Go.Operand.tmp 25) (Go.Operand.tmp 26), type := 0, pos := "law.go:126", after := #[{ on := 3, ground := Go.Ground.data }, { on := 4, ground := Go.Ground.data }], guard := none }) (v := .pointer (some ⟨b, off + i, none⟩)) rfl (by kernel_rfl) (by kernel_rfl) (by kernel_rfl) (fun _ _ _ h => h) (Or.inl ⟨by kernel_rfl, ?_⟩) hS ?_
        · intro w5 hSw
          clear hSw hS
          go_simp
        simp only [Act.put, List.setIfInBounds_toArray, List.set_cons_zero, List.set_cons_succ]
        refine wpAnyH_take (i := 6) (oi := { dst := some 28, op := Go.Op.load 9 (Go.Operand.tmp 27), type := 9, pos := "law.go:126", after := #[{ on := 5, ground := Go.Ground.data }], guard := none }) (v := .string f.n) rfl (by kernel_rfl) (by kernel_rfl) (by kernel_rfl) (fun _ _ _ h => h) (Or.inl ⟨by kernel_rfl, ?_⟩) hS ?_
        · intro w5 hSw
          have h0 := hSw.2.2.cell HK1.out
          clear hSw hS
          go_simp
        simp only [Act.put, List.setIfInBounds_toArray, List.set_cons_zero, List.set_cons_succ]
        refine wpAnyH_take (i := 7) (oi := { dst := some 29, op := Go.Op.fieldAddr 27 (Go.Operand.tmp 1) 3, type := 0, pos := "law.go:126", after := #[], guard := none }) (v := .pointer (some ⟨w.heap.size, 3, none⟩)) rfl (by kernel_rfl) (by kernel_rfl) (by kernel_rfl) (fun _ _ _ h => h) (Or.inl ⟨by kernel_rfl, ?_⟩) hS ?_
        · intro w5 hSw
          clear hSw hS
          go_simp
        simp only [Act.put, List.setIfInBounds_toArray, List.set_cons_zero, List.set_cons_succ]
        refine wpAnyH_take (i := 8) (oi := { dst := some 30, op := Go.Op.load 22 (Go.Operand.tmp 29), type := 22, pos := "law.go:126", after := #[{ on := 7, ground := Go.Ground.data }], guard := none }) (v := .slice av us.length cv) rfl (by kernel_rfl) (by kernel_rfl) (by kernel_rfl) (fun _ _ _ h => h) (Or.inl ⟨by kernel_rfl, ?_⟩) hS ?_
        · intro w5 hSw
          have h0 := hSw.1.cell (i := 3) rfl
          clear hSw hS
          go_simp
        simp only [Act.put, List.setIfInBounds_toArray, List.set_cons_zero, List.set_cons_succ]
        refine wpAnyH_take (i := 9) (oi := { dst := some 31, op := Go.Op.move (Go.Operand.tmp 4), type := 3, pos := "law.go:126", after := #[], guard := none }) (v := .int .i64 (i : Int)) rfl (by kernel_rfl) (by kernel_rfl) (by kernel_rfl) (fun _ _ _ h => h) (Or.inl ⟨by kernel_rfl, ?_⟩) hS ?_
        · intro w5 hSw
          clear hSw hS
          go_simp
        simp only [Act.put, List.setIfInBounds_toArray, List.set_cons_zero, List.set_cons_succ]
        refine wpAnyH_ready (rs := [1, 10]) (by kernel_rfl) (by simp) ?_
        refine AllReadyH.cons (o := { dst := some 23, op := Go.Op.load 34 (Go.Operand.tmp 22), type := 34, pos := "law.go:126", after := #[{ on := 0, ground := Go.Ground.data }], guard := none }) rfl (fun K hK => ?_) (AllReadyH.cons (o := { dst := some 32, op := Go.Op.call { callee := Go.Callee.value (Go.Operand.func 39), args := #[Go.Operand.tmp 30, Go.Operand.tmp 31], argTypes := #[22, 3] }, type := 9, pos := "law.go:126", after := #[{ on := 8, ground := Go.Ground.data }, { on := 9, ground := Go.Ground.data }], guard := none }) rfl (fun K hK => ?_) AllReadyH.nil)
        · rw [if_pos (by kernel_rfl)]
          have k3 := HRd.out.cell (i := 2) rfl
          go_simp
          refine hK.out _ _ hS (fun hS => ?_)
          clear hK K k3
          refine wpAnyH_ready (rs := [10]) (by kernel_rfl) (by simp) ?_
          refine AllReadyH.cons (o := { dst := some 32, op := Go.Op.call { callee := Go.Callee.value (Go.Operand.func 39), args := #[Go.Operand.tmp 30, Go.Operand.tmp 31], argTypes := #[22, 3] }, type := 9, pos := "law.go:126", after := #[{ on := 8, ground := Go.Ground.data }, { on := 9, ground := Go.Ground.data }], guard := none }) rfl (fun K hK => ?_) AllReadyH.nil
          rw [if_pos (by kernel_rfl)]
          go_simp
          refine (value_walk av us cv i wr.drew (HV.out.up HU7.out.drew)).mono ?_
          rintro e w5 ⟨rfl, h9⟩
          obtain rfl := h9.symm
          clear h9
          rw [HFv.out]
          dsimp only
          refine hK.out _ _ hS (fun hS => ?_)
          clear hK K
          refine wpAnyH_take (i := 11) (oi := { dst := some 33, op := Go.Op.build 87 #[(0, Go.Operand.tmp 28), (1, Go.Operand.tmp 32)], type := 87, pos := "law.go:126", after := #[{ on := 6, ground := Go.Ground.data }, { on := 10, ground := Go.Ground.data }], guard := none }) (v := .agg #[.string f.n, .string f.v]) rfl (by kernel_rfl) (by kernel_rfl) (by kernel_rfl) (fun _ _ _ h => h) (Or.inl ⟨by kernel_rfl, ?_⟩) hS ?_
          · intro w5 hSw
            clear hSw hS
            go_simp
          simp only [Act.put, List.setIfInBounds_toArray, List.set_cons_zero, List.set_cons_succ]
          refine wpAnyH_ready (rs := [12]) (by kernel_rfl) (by simp) ?_
          refine AllReadyH.cons (o := { dst := some 34, op := Go.Op.buildSlice 34 1 #[(0, Go.Operand.tmp 33)], type := 34, pos := "law.go:126", after := #[{ on := 11, ground := Go.Ground.data }], guard := none }) rfl (fun K hK => ?_) AllReadyH.nil
          rw [if_pos (by kernel_rfl)]
          go_simp
          refine hK.out _ _ ⟨hS.1.up ((Up.refl _).alloc _), hS.2.1.up ((Up.refl _).alloc _), hS.2.2.alloc _⟩ (fun hS => ?_)
          clear hK K
          refine wpAnyH_ready (rs := [13]) (by kernel_rfl) (by simp) ?_
          refine AllReadyH.cons (o := { dst := some 35, op := Go.Op.call { callee := Go.Callee.builtin Go.Builtin.append, args := #[Go.Operand.tmp 23, Go.Operand.tmp 34], argTypes := #[34, 34] }, type := 34, pos := "law.go:126", after := #[{ on := 1, ground := Go.Ground.data }, { on := 12, ground := Go.Ground.data }, { on := 10, ground := Go.Ground.chain }], guard := none }) rfl (fun K hK => oper_of_list ?_) AllReadyH.nil
          refine wpList_appFd (w := wr.drew) (N := w.heap.size) rfl _ _ rfl a7 c7 (F.take i) f HLn.out rfl rfl HFd.out HU7.out.drew.size (by omega) ?_
          intro ax2 cx2 w7 o7 u7 g7
          have HU8 := Hid.of (u7 w HU7.out.drew (Nat.le_refl _))
          have HR8 := Hid.of (HRd.out.by g7 (own_ne HFd'.out HRd.out (by decide)))
          have HA8 := Hid.of (HAd.out.by g7 (own_ne HFd'.out HAd.out (by decide)))
          have HZ8 := Hid.of (HZd.out.by g7 (own_ne HFd'.out HZd.out (by decide)))
          have HB8 := Hid.of (HOd.out.kept g7 (own_off HOd.out HFd'.out (by decide)))
          have HF8 := Hid.of (show FdO w7 w.heap.size ax2 (F.take (i + 1)) cx2 by rw [HT.out]; exact o7)
          clear o7 u7 g7
          refine hK.out _ _ ⟨HA8.out, HZ8.out, HU8.out⟩ (fun hS => ?_)
          clear hK K
          simp only [Act.put, List.setIfInBounds_toArray, List.set_cons_zero, List.set_cons_succ]
          refine wpAnyH_take (i := 14) (oi := { dst := some 36, op := Go.Op.fieldAddr 55 (Go.Operand.tmp 3) 2, type := 0, pos := "law.go:126", after := #[{ on := 0, ground := Go.Ground.phase }, { on := 1, ground := Go.Ground.phase }, { on := 2, ground := Go.Ground.phase }, { on := 3, ground := Go.Ground.phase }, { on := 4, ground := Go.Ground.phase }, { on := 5, ground := Go.Ground.phase }, { on := 6, ground := Go.Ground.phase }, { on := 7, ground := Go.Ground.phase }, { on := 8, ground := Go.Ground.phase }, { on := 9, ground := Go.Ground.phase }, { on := 10, ground := Go.Ground.phase }, { on := 11, ground := Go.Ground.phase }, { on := 12, ground := Go.Ground.phase }, { on := 13, ground := Go.Ground.phase }], guard := none }) (v := .pointer (some ⟨Br, 2, none⟩)) rfl (by kernel_rfl) (by kernel_rfl) (by kernel_rfl) (fun _ _ _ h => h) (Or.inl ⟨by kernel_rfl, ?_⟩) hS ?_
          · intro w5 hSw
            clear hSw hS
            go_simp
          simp only [Act.put, List.setIfInBounds_toArray, List.set_cons_zero, List.set_cons_succ]
          refine wpAnyH_ready (rs := [15]) (by kernel_rfl) (by simp) ?_
          refine AllReadyH.cons (o := { dst := none, op := Go.Op.store 34 (Go.Operand.tmp 36) (Go.Operand.tmp 35), type := 0, pos := "law.go:126", after := #[{ on := 14, ground := Go.Ground.data }, { on := 13, ground := Go.Ground.data }, { on := 13, ground := Go.Ground.chain }, { on := 0, ground := Go.Ground.phase }, { on := 1, ground := Go.Ground.phase }, { on := 2, ground := Go.Ground.phase }, { on := 3, ground := Go.Ground.phase }, { on := 4, ground := Go.Ground.phase }, { on := 5, ground := Go.Ground.phase }, { on := 6, ground := Go.Ground.phase }, { on := 7, ground := Go.Ground.phase }, { on := 8, ground := Go.Ground.phase }, { on := 9, ground := Go.Ground.phase }, { on := 10, ground := Go.Ground.phase }, { on := 11, ground := Go.Ground.phase }, { on := 12, ground := Go.Ground.phase }, { on := 13, ground := Go.Ground.phase }], guard := none }) rfl (fun K hK => ?_) AllReadyH.nil
          have k3 := HR8.out.cell (i := 2) rfl
          have f3 := HR8.out.thaw 2
          have G8 := grown_set1 w7 Br 2 (.slice ax2 (i + 1) cx2)
          have HR9 := Hid.of (HR8.out.set 2 (.slice ax2 (i + 1) cx2))
          have HU9 := Hid.of (HU8.out.by G8 (fun g hg => by have := Option.some.inj hg; have := HBr.out; omega))
          have HA9 := Hid.of (HA8.out.by G8 (fun e => by have := Option.some.inj e; have := HBr.out; omega))
          have HZ9 := Hid.of (HZ8.out.by G8 (fun e => by have := Option.some.inj e; have := HBr.out; omega))
          have HB9 := Hid.of (HB8.out.kept G8 (.inr (own_ne HB8.out HR8.out (by decide))))
          have HF9 := Hid.of (show FdO (w7.setCell ⟨Br, 2, none⟩ (.slice ax2 (i + 1) cx2)) w.heap.size ax2 (F.take (i + 1)) cx2 from HF8.out.kept G8 (.inr (own_ne HF8.out HR8.out (by decide))))
          clear G8
          rw [if_pos (by kernel_rfl)]
          go_simp
          refine hK.out _ _ ⟨HA9.out, HZ9.out, HU9.out⟩ (fun hS => ?_)
          clear hK K hS
          refine wpAnyH_done (by kernel_rfl) ?_ _
          go_wp2
          go_roundw
          all_goals first
            | exact ⟨i + 1, by go_num, by omega, Hid.of ⟨ax2, cx2, HR9.out, HF9.out, HB9.out, HA9.out, HZ9.out, HU9.out⟩⟩
            | (simp [intOf]; omega)
        · rw [if_pos (by kernel_rfl)]
          go_simp
          refine (value_walk av us cv i wr.drew (HV.out.up HU7.out.drew)).mono ?_
          rintro e w5 ⟨rfl, h9⟩
          obtain rfl := h9.symm
          clear h9
          rw [HFv.out]
          dsimp only
          refine hK.out _ _ hS (fun hS => ?_)
          clear hK K
          refine wpAnyH_take (i := 11) (oi := { dst := some 33, op := Go.Op.build 87 #[(0, Go.Operand.tmp 28), (1, Go.Operand.tmp 32)], type := 87, pos := "law.go:126", after := #[{ on := 6, ground := Go.Ground.data }, { on := 10, ground := Go.Ground.data }], guard := none }) (v := .agg #[.string f.n, .string f.v]) rfl (by kernel_rfl) (by kernel_rfl) (by kernel_rfl) (fun _ _ _ h => h) (Or.inl ⟨by kernel_rfl, ?_⟩) hS ?_
          · intro w5 hSw
            clear hSw hS
            go_simp
          simp only [Act.put, List.setIfInBounds_toArray, List.set_cons_zero, List.set_cons_succ]
          refine wpAnyH_ready (rs := [1, 12]) (by kernel_rfl) (by simp) ?_
          refine AllReadyH.cons (o := { dst := some 23, op := Go.Op.load 34 (Go.Operand.tmp 22), type := 34, pos := "law.go:126", after := #[{ on := 0, ground := Go.Ground.data }], guard := none }) rfl (fun K hK => ?_) (AllReadyH.cons (o := { dst := some 34, op := Go.Op.buildSlice 34 1 #[(0, Go.Operand.tmp 33)], type := 34, pos := "law.go:126", after := #[{ on := 11, ground := Go.Ground.data }], guard := none }) rfl (fun K hK => ?_) AllReadyH.nil)
          · rw [if_pos (by kernel_rfl)]
            have k3 := HRd.out.cell (i := 2) rfl
            go_simp
            refine hK.out _ _ hS (fun hS => ?_)
            clear hK K k3
            refine wpAnyH_ready (rs := [12]) (by kernel_rfl) (by simp) ?_
            refine AllReadyH.cons (o := { dst := some 34, op := Go.Op.buildSlice 34 1 #[(0, Go.Operand.tmp 33)], type := 34, pos := "law.go:126", after := #[{ on := 11, ground := Go.Ground.data }], guard := none }) rfl (fun K hK => ?_) AllReadyH.nil
            rw [if_pos (by kernel_rfl)]
            go_simp
            refine hK.out _ _ ⟨hS.1.up ((Up.refl _).alloc _), hS.2.1.up ((Up.refl _).alloc _), hS.2.2.alloc _⟩ (fun hS => ?_)
            clear hK K
            refine wpAnyH_ready (rs := [13]) (by kernel_rfl) (by simp) ?_
            refine AllReadyH.cons (o := { dst := some 35, op := Go.Op.call { callee := Go.Callee.builtin Go.Builtin.append, args := #[Go.Operand.tmp 23, Go.Operand.tmp 34], argTypes := #[34, 34] }, type := 34, pos := "law.go:126", after := #[{ on := 1, ground := Go.Ground.data }, { on := 12, ground := Go.Ground.data }, { on := 10, ground := Go.Ground.chain }], guard := none }) rfl (fun K hK => oper_of_list ?_) AllReadyH.nil
            refine wpList_appFd (w := wr.drew) (N := w.heap.size) rfl _ _ rfl a7 c7 (F.take i) f HLn.out rfl rfl HFd.out HU7.out.drew.size (by omega) ?_
            intro ax2 cx2 w7 o7 u7 g7
            have HU8 := Hid.of (u7 w HU7.out.drew (Nat.le_refl _))
            have HR8 := Hid.of (HRd.out.by g7 (own_ne HFd'.out HRd.out (by decide)))
            have HA8 := Hid.of (HAd.out.by g7 (own_ne HFd'.out HAd.out (by decide)))
            have HZ8 := Hid.of (HZd.out.by g7 (own_ne HFd'.out HZd.out (by decide)))
            have HB8 := Hid.of (HOd.out.kept g7 (own_off HOd.out HFd'.out (by decide)))
            have HF8 := Hid.of (show FdO w7 w.heap.size ax2 (F.take (i + 1)) cx2 by rw [HT.out]; exact o7)
            clear o7 u7 g7
            refine hK.out _ _ ⟨HA8.out, HZ8.out, HU8.out⟩ (fun hS => ?_)
            clear hK K
            simp only [Act.put, List.setIfInBounds_toArray, List.set_cons_zero, List.set_cons_succ]
            refine wpAnyH_take (i := 14) (oi := { dst := some 36, op := Go.Op.fieldAddr 55 (Go.Operand.tmp 3) 2, type := 0, pos := "law.go:126", after := #[{ on := 0, ground := Go.Ground.phase }, { on := 1, ground := Go.Ground.phase }, { on := 2, ground := Go.Ground.phase }, { on := 3, ground := Go.Ground.phase }, { on := 4, ground := Go.Ground.phase }, { on := 5, ground := Go.Ground.phase }, { on := 6, ground := Go.Ground.phase }, { on := 7, ground := Go.Ground.phase }, { on := 8, ground := Go.Ground.phase }, { on := 9, ground := Go.Ground.phase }, { on := 10, ground := Go.Ground.phase }, { on := 11, ground := Go.Ground.phase }, { on := 12, ground := Go.Ground.phase }, { on := 13, ground := Go.Ground.phase }], guard := none }) (v := .pointer (some ⟨Br, 2, none⟩)) rfl (by kernel_rfl) (by kernel_rfl) (by kernel_rfl) (fun _ _ _ h => h) (Or.inl ⟨by kernel_rfl, ?_⟩) hS ?_
            · intro w5 hSw
              clear hSw hS
              go_simp
            simp only [Act.put, List.setIfInBounds_toArray, List.set_cons_zero, List.set_cons_succ]
            refine wpAnyH_ready (rs := [15]) (by kernel_rfl) (by simp) ?_
            refine AllReadyH.cons (o := { dst := none, op := Go.Op.store 34 (Go.Operand.tmp 36) (Go.Operand.tmp 35), type := 0, pos := "law.go:126", after := #[{ on := 14, ground := Go.Ground.data }, { on := 13, ground := Go.Ground.data }, { on := 13, ground := Go.Ground.chain }, { on := 0, ground := Go.Ground.phase }, { on := 1, ground := Go.Ground.phase }, { on := 2, ground := Go.Ground.phase }, { on := 3, ground := Go.Ground.phase }, { on := 4, ground := Go.Ground.phase }, { on := 5, ground := Go.Ground.phase }, { on := 6, ground := Go.Ground.phase }, { on := 7, ground := Go.Ground.phase }, { on := 8, ground := Go.Ground.phase }, { on := 9, ground := Go.Ground.phase }, { on := 10, ground := Go.Ground.phase }, { on := 11, ground := Go.Ground.phase }, { on := 12, ground := Go.Ground.phase }, { on := 13, ground := Go.Ground.phase }], guard := none }) rfl (fun K hK => ?_) AllReadyH.nil
            have k3 := HR8.out.cell (i := 2) rfl
            have f3 := HR8.out.thaw 2
            have G8 := grown_set1 w7 Br 2 (.slice ax2 (i + 1) cx2)
            have HR9 := Hid.of (HR8.out.set 2 (.slice ax2 (i + 1) cx2))
            have HU9 := Hid.of (HU8.out.by G8 (fun g hg => by have := Option.some.inj hg; have := HBr.out; omega))
            have HA9 := Hid.of (HA8.out.by G8 (fun e => by have := Option.some.inj e; have := HBr.out; omega))
            have HZ9 := Hid.of (HZ8.out.by G8 (fun e => by have := Option.some.inj e; have := HBr.out; omega))
            have HB9 := Hid.of (HB8.out.kept G8 (.inr (own_ne HB8.out HR8.out (by decide))))
            have HF9 := Hid.of (show FdO (w7.setCell ⟨Br, 2, none⟩ (.slice ax2 (i + 1) cx2)) w.heap.size ax2 (F.take (i + 1)) cx2 from HF8.out.kept G8 (.inr (own_ne HF8.out HR8.out (by decide))))
            clear G8
            rw [if_pos (by kernel_rfl)]
            go_simp
            refine hK.out _ _ ⟨HA9.out, HZ9.out, HU9.out⟩ (fun hS => ?_)
            clear hK K hS
            refine wpAnyH_done (by kernel_rfl) ?_ _
            go_wp2
            go_roundw
            all_goals first
              | exact ⟨i + 1, by go_num, by omega, Hid.of ⟨ax2, cx2, HR9.out, HF9.out, HB9.out, HA9.out, HZ9.out, HU9.out⟩⟩
              | (simp [intOf]; omega)
          · rw [if_pos (by kernel_rfl)]
            go_simp
            refine hK.out _ _ ⟨hS.1.up ((Up.refl _).alloc _), hS.2.1.up ((Up.refl _).alloc _), hS.2.2.alloc _⟩ (fun hS => ?_)
            clear hK K
            refine wpAnyH_ready (rs := [1]) (by kernel_rfl) (by simp) ?_
            refine AllReadyH.cons (o := { dst := some 23, op := Go.Op.load 34 (Go.Operand.tmp 22), type := 34, pos := "law.go:126", after := #[{ on := 0, ground := Go.Ground.data }], guard := none }) rfl (fun K hK => ?_) AllReadyH.nil
            rw [if_pos (by kernel_rfl)]
            have k3 := ((HR7.out.up ((Up.refl wr).alloc (.cells #[.string f.n, .string f.v] 87))).up (Up.refl _).drew).cell (i := 2) rfl
            go_simp
            refine hK.out _ _ hS (fun hS => ?_)
            clear hK K k3
            refine wpAnyH_ready (rs := [13]) (by kernel_rfl) (by simp) ?_
            refine AllReadyH.cons (o := { dst := some 35, op := Go.Op.call { callee := Go.Callee.builtin Go.Builtin.append, args := #[Go.Operand.tmp 23, Go.Operand.tmp 34], argTypes := #[34, 34] }, type := 34, pos := "law.go:126", after := #[{ on := 1, ground := Go.Ground.data }, { on := 12, ground := Go.Ground.data }, { on := 10, ground := Go.Ground.chain }], guard := none }) rfl (fun K hK => oper_of_list ?_) AllReadyH.nil
            refine wpList_appFd (w := wr.drew) (N := w.heap.size) rfl _ _ rfl a7 c7 (F.take i) f HLn.out rfl rfl HFd.out HU7.out.drew.size (by omega) ?_
            intro ax2 cx2 w7 o7 u7 g7
            have HU8 := Hid.of (u7 w HU7.out.drew (Nat.le_refl _))
            have HR8 := Hid.of (HRd.out.by g7 (own_ne HFd'.out HRd.out (by decide)))
            have HA8 := Hid.of (HAd.out.by g7 (own_ne HFd'.out HAd.out (by decide)))
            have HZ8 := Hid.of (HZd.out.by g7 (own_ne HFd'.out HZd.out (by decide)))
            have HB8 := Hid.of (HOd.out.kept g7 (own_off HOd.out HFd'.out (by decide)))
            have HF8 := Hid.of (show FdO w7 w.heap.size ax2 (F.take (i + 1)) cx2 by rw [HT.out]; exact o7)
            clear o7 u7 g7
            refine hK.out _ _ ⟨HA8.out, HZ8.out, HU8.out⟩ (fun hS => ?_)
            clear hK K
            simp only [Act.put, List.setIfInBounds_toArray, List.set_cons_zero, List.set_cons_succ]
            refine wpAnyH_take (i := 14) (oi := { dst := some 36, op := Go.Op.fieldAddr 55 (Go.Operand.tmp 3) 2, type := 0, pos := "law.go:126", after := #[{ on := 0, ground := Go.Ground.phase }, { on := 1, ground := Go.Ground.phase }, { on := 2, ground := Go.Ground.phase }, { on := 3, ground := Go.Ground.phase }, { on := 4, ground := Go.Ground.phase }, { on := 5, ground := Go.Ground.phase }, { on := 6, ground := Go.Ground.phase }, { on := 7, ground := Go.Ground.phase }, { on := 8, ground := Go.Ground.phase }, { on := 9, ground := Go.Ground.phase }, { on := 10, ground := Go.Ground.phase }, { on := 11, ground := Go.Ground.phase }, { on := 12, ground := Go.Ground.phase }, { on := 13, ground := Go.Ground.phase }], guard := none }) (v := .pointer (some ⟨Br, 2, none⟩)) rfl (by kernel_rfl) (by kernel_rfl) (by kernel_rfl) (fun _ _ _ h => h) (Or.inl ⟨by kernel_rfl, ?_⟩) hS ?_
            · intro w5 hSw
              clear hSw hS
              go_simp
            simp only [Act.put, List.setIfInBounds_toArray, List.set_cons_zero, List.set_cons_succ]
            refine wpAnyH_ready (rs := [15]) (by kernel_rfl) (by simp) ?_
            refine AllReadyH.cons (o := { dst := none, op := Go.Op.store 34 (Go.Operand.tmp 36) (Go.Operand.tmp 35), type := 0, pos := "law.go:126", after := #[{ on := 14, ground := Go.Ground.data }, { on := 13, ground := Go.Ground.data }, { on := 13, ground := Go.Ground.chain }, { on := 0, ground := Go.Ground.phase }, { on := 1, ground := Go.Ground.phase }, { on := 2, ground := Go.Ground.phase }, { on := 3, ground := Go.Ground.phase }, { on := 4, ground := Go.Ground.phase }, { on := 5, ground := Go.Ground.phase }, { on := 6, ground := Go.Ground.phase }, { on := 7, ground := Go.Ground.phase }, { on := 8, ground := Go.Ground.phase }, { on := 9, ground := Go.Ground.phase }, { on := 10, ground := Go.Ground.phase }, { on := 11, ground := Go.Ground.phase }, { on := 12, ground := Go.Ground.phase }, { on := 13, ground := Go.Ground.phase }], guard := none }) rfl (fun K hK => ?_) AllReadyH.nil
            have k3 := HR8.out.cell (i := 2) rfl
            have f3 := HR8.out.thaw 2
            have G8 := grown_set1 w7 Br 2 (.slice ax2 (i + 1) cx2)
            have HR9 := Hid.of (HR8.out.set 2 (.slice ax2 (i + 1) cx2))
            have HU9 := Hid.of (HU8.out.by G8 (fun g hg => by have := Option.some.inj hg; have := HBr.out; omega))
            have HA9 := Hid.of (HA8.out.by G8 (fun e => by have := Option.some.inj e; have := HBr.out; omega))
            have HZ9 := Hid.of (HZ8.out.by G8 (fun e => by have := Option.some.inj e; have := HBr.out; omega))
            have HB9 := Hid.of (HB8.out.kept G8 (.inr (own_ne HB8.out HR8.out (by decide))))
            have HF9 := Hid.of (show FdO (w7.setCell ⟨Br, 2, none⟩ (.slice ax2 (i + 1) cx2)) w.heap.size ax2 (F.take (i + 1)) cx2 from HF8.out.kept G8 (.inr (own_ne HF8.out HR8.out (by decide))))
            clear G8
            rw [if_pos (by kernel_rfl)]
            go_simp
            refine hK.out _ _ ⟨HA9.out, HZ9.out, HU9.out⟩ (fun hS => ?_)
            clear hK K hS
            refine wpAnyH_done (by kernel_rfl) ?_ _
            go_wp2
            go_roundw
            all_goals first
              | exact ⟨i + 1, by go_num, by omega, Hid.of ⟨ax2, cx2, HR9.out, HF9.out, HB9.out, HA9.out, HZ9.out, HU9.out⟩⟩
              | (simp [intOf]; omega)
      · have hilz : ¬ (i : Int) < (ns.length : Int) := by omega
        have hin : i = ns.length := by omega
        subst hin
        have HF8 := Hid.of (show FdO wr w.heap.size a7 F c7 by
          have h1 := HF7.out
          rw [List.take_of_length_le (by rw [HFl.out]; exact Nat.le_refl _)] at h1
          exact h1)
        go_wp2_with (with_reducible show wpList _ _ _ ({ dst := _, op := Op.load 55 _, type := _, pos := _, after := _, guard := _ } :: _) _ _; refine Shut.out ?_)
        show wpList _ _ _ _ _ _
        refine wpList_load_mid rfl _ _ rfl Br 0 rfl [.int .i64 st, .int .i64 mi, .slice a7 ns.length c7, .slice a5 L5 c5, .bool false] _ HR7.out.range Tryz.underlying55 rfl (by kernel_rfl) ?_
        simp only [Act.put, List.setIfInBounds_toArray, List.set_cons_zero, List.set_cons_succ]
        refine wpList_store_at rfl 55 _ _ rfl (w.heap.size + 1) HZ7.out [.int .i64 st, .int .i64 mi, .slice a7 ns.length c7, .slice a5 L5 c5, .bool false] rfl rfl rfl (by kernel_rfl) (by kernel_rfl) ?_
        intro w8 hA8 hg8
        have HA8 := Hid.of hA8
        have HU8 := Hid.of (HU7.out.by hg8 (fun g hg => by have := Option.some.inj hg; omega))
        have HF9 := Hid.of (show FdO w8 w.heap.size a7 F c7 from HF8.out.kept hg8 (.inr (own_ne HF8.out HZ7.out (by decide))))
        have HO9 := Hid.of (HO7.out.kept hg8 (.inr (own_ne HO7.out HZ7.out (by decide))))
        clear hA8 hg8
        simp only [Act.put]
        repeat go_step
        refine bodyPost_ret (results_agg1 Tryz.results17 _ _ (w.heap.size + 1) [.int .i64 st, .int .i64 mi, .slice a7 ns.length c7, .slice a5 L5 c5, .bool false] rfl HA8.out.range Tryz.underlying55 rfl (by kernel_rfl)) rfl ?_
        exact ⟨⟨a7, c7, _, rfl, Hid.of ⟨HF9.out, by unfold Ow; rw [HL5.out]; exact HO9.out⟩⟩, HU8.out⟩
  · rw [if_pos (by kernel_rfl)]
    go_simp
    have HR1 := Hid.of (show At _ w1.heap.size 55 z5 from at_new w1.drew 55 z5)
    have HUa := Hid.of ((Up.refl w1.drew).alloc (.cells z5.toArray 55))
    have HBr := Hid.of (show w.heap.size + 1 < w1.heap.size from HS1.out)
    refine hK.out _ _ ⟨hS.1.up HUa.out, hS.2.1.up HUa.out, hS.2.2.trans HUa.out⟩ (fun hS => ?_)
    clear hK K
    refine wpAnyH_ready (rs := [8]) (by kernel_rfl) (by simp) ?_
    refine AllReadyH.cons (o := { dst := some 13, op := Go.Op.call { callee := Go.Callee.value (Go.Operand.func 18), args := #[Go.Operand.tmp 10, Go.Operand.tmp 12], argTypes := #[23, 3] }, type := 23, pos := "law.go:124", after := #[{ on := 5, ground := Go.Ground.data }, { on := 7, ground := Go.Ground.data }], guard := none }) rfl (fun K hK => ?_) AllReadyH.nil
    rw [if_pos (by kernel_rfl)]
    go_simp
    refine (padded_walk (.slice ab nb cb') bd pad (by omega) _ (HB.out.up (HU0.out.drew.trans HUa.out))).mono ?_
    rintro e w2 ⟨v5, rfl, hO, h9⟩
    obtain ⟨a5, c5, rfl⟩ := row_len hO
    have HO2 := Hid.of (show Ow w2 w.heap.size _ (pdd bd pad) from ow_base hO (HU0.out.drew.trans HUa.out).size)
    have HU2 := Hid.of ((HU0.out.drew.trans HUa.out).trans h9)
    have HA2 := Hid.of (((HA0.out.up (Up.refl _).drew).up HUa.out).up h9)
    have HZ2 := Hid.of (((HZ0.out.up (Up.refl _).drew).up HUa.out).up h9)
    have HR3 := Hid.of (HR1.out.up h9)
    clear h9 hO hS
    obtain ⟨L5, hL5⟩ : ∃ L5, (pdd bd pad).length = L5 := ⟨_, rfl⟩
    have HL5 := Hid.of hL5
    rw [hL5] at HO2 ⊢
    clear hL5
    dsimp only
    refine hK.out _ _ ⟨HA2.out, HZ2.out, HU2.out⟩ (fun hS => ?_)
    clear hK K
    have HO3 := Hid.of HO2.out
    clear HO2
    refine wpAnyH_take (i := 9) (oi := { dst := some 14, op := Go.Op.build 55 #[(0, Go.Operand.tmp 6), (1, Go.Operand.tmp 8), (3, Go.Operand.tmp 13)], type := 55, pos := "law.go:124", after := #[{ on := 1, ground := Go.Ground.data }, { on := 3, ground := Go.Ground.data }, { on := 8, ground := Go.Ground.data }], guard := none }) (v := .agg #[.int .i64 st, .int .i64 mi, .slice none 0 0, .slice a5 L5 c5, .bool false]) rfl (by kernel_rfl) (by kernel_rfl) (by kernel_rfl) (fun _ _ _ h => h) (Or.inl ⟨by kernel_rfl, ?_⟩) hS ?_
    · intro w5 hSw
      clear hSw hS
      go_simp
    simp only [Act.put, List.setIfInBounds_toArray, List.set_cons_zero, List.set_cons_succ]
    refine wpAnyH_ready (rs := [11]) (by kernel_rfl) (by simp) ?_
    refine AllReadyH.cons (o := { dst := none, op := Go.Op.store 55 (Go.Operand.tmp 3) (Go.Operand.tmp 14), type := 0, pos := "law.go:124", after := #[{ on := 10, ground := Go.Ground.data }, { on := 9, ground := Go.Ground.data }, { on := 8, ground := Go.Ground.chain }, { on := 0, ground := Go.Ground.phase }, { on := 1, ground := Go.Ground.phase }, { on := 2, ground := Go.Ground.phase }, { on := 3, ground := Go.Ground.phase }, { on := 4, ground := Go.Ground.phase }, { on := 5, ground := Go.Ground.phase }, { on := 6, ground := Go.Ground.phase }, { on := 7, ground := Go.Ground.phase }, { on := 8, ground := Go.Ground.phase }, { on := 9, ground := Go.Ground.phase }, { on := 10, ground := Go.Ground.phase }], guard := none }) rfl (fun K hK => oper_of_list ?_) AllReadyH.nil
    refine wpList_store_at rfl 55 _ _ rfl (w1.heap.size) HR3.out ([.int .i64 st, .int .i64 mi, .slice none 0 0, .slice a5 L5 c5, .bool false]) rfl rfl rfl (by kernel_rfl) (by kernel_rfl) ?_
    intro w4 hA4 hg4
    have HR4 := Hid.of hA4
    have HU4 := Hid.of (hS.2.2.by hg4 (fun g hg => by have := Option.some.inj hg; have := HBr.out; omega))
    have HA4 := Hid.of (hS.1.by hg4 (fun e => by have := Option.some.inj e; have := HBr.out; omega))
    have HZ4 := Hid.of (hS.2.1.by hg4 (fun e => by have := Option.some.inj e; have := HBr.out; omega))
    have HO4 := Hid.of (HO3.out.kept hg4 (.inr (own_ne HO3.out HR3.out (by decide))))
    clear hA4 hg4 HR3 HO3
    refine hK.out _ _ ⟨HA4.out, HZ4.out, HU4.out⟩ (fun hS => ?_)
    clear hK K hS
    refine wpAnyH_done (by kernel_rfl) ?_ _
    obtain ⟨Br, hBr⟩ : ∃ Br, w1.heap.size = Br := ⟨_, rfl⟩
    rw [hBr] at HR4 HBr ⊢
    clear hBr
    go_wp2
    go_loopw [4] (fun v4 wr => ∃ i : Nat, v4 = .int .i64 (i : Int) ∧ i ≤ ns.length ∧ Hid (∃ a7 c7, At wr Br 55 [.int .i64 st, .int .i64 mi, .slice a7 i c7, .slice a5 L5 c5, .bool false] ∧ FdO wr w.heap.size a7 (F.take i) c7 ∧ wr.ownsRow w.heap.size 5 1 (.slice a5 L5 c5) L5 (cb (pdd bd pad)) ∧ At wr w.heap.size 27 [.int .i64 st, .int .i64 mi, .slice an ns.length cn, .slice av us.length cv, .slice ab nb cb', .int .i64 pad] ∧ At wr (w.heap.size + 1) 55 z5 ∧ Up w wr)) (fun v4 _ => ns.length - (intOf v4).toNat)
    case atStart => exact ⟨0, rfl, Nat.zero_le _, Hid.of ⟨none, 0, HR4.out, World.ownsRow_nil _ _ _ _, (by have h := HO4.out; rw [HL5.out] at h; exact h), HA4.out, HZ4.out, HU4.out⟩⟩
    case round =>
      obtain ⟨i, rfl, hi, hQ⟩ := hrel
      obtain ⟨a7, c7, q1, q2, q3, q4, q5, q6⟩ := hQ.out
      have HR7 := Hid.of q1
      have HF7 := Hid.of q2
      have HO7 := Hid.of q3
      have HA7 := Hid.of q4
      have HZ7 := Hid.of q5
      have HU7 := Hid.of q6
      have h3 := q4.cell (i := 2) rfl
      clear hQ q1 q2 q3 q4 q5 q6
      by_cases hil : i < ns.length
      · have hilz : (i : Int) < (ns.length : Int) := by omega
        have hif : i < F.length := by rw [HFl.out]; exact hil
        obtain ⟨b, off, han, k1⟩ := HN.out.cells i hil
        have HAn := Hid.of han
        clear han
        have HT := Hid.of (List.take_succ_eq_append_getElem hif)
        have HLn := Hid.of (show (F.take i).length = i by rw [List.length_take]; omega)
        have hfg := HFg.out i hil hif
        obtain ⟨f, hf⟩ : ∃ f, F[i] = f := ⟨_, rfl⟩
        rw [hf] at HT hfg
        have HFv := Hid.of (show vat us i = f.v by rw [hfg])
        have HK1 := Hid.of (show w.cell? ⟨b, off + i, none⟩ = some (.string f.n) by rw [k1, hfg])
        clear hf hfg k1
        have HRd := Hid.of (HR7.out.up (Up.refl wr).drew)
        have HFd := Hid.of (ow_up HF7.out (Up.refl wr).drew)
        have HFd' := Hid.of (show wr.drew.ownsRow w.heap.size 87 2 (.slice a7 i c7) i (fdc (F.take i)) by have := HFd.out; rw [HLn.out] at this; exact this)
        have HOd := Hid.of (ow_up HO7.out (Up.refl wr).drew)
        have HAd := Hid.of (HA7.out.up (Up.refl wr).drew)
        have HZd := Hid.of (HZ7.out.up (Up.refl wr).drew)
        go_wp2
        refine wp_region_held_drew (S := fun w2 => At w2 w.heap.size 27 [.int .i64 st, .int .i64 mi, .slice an ns.length cn, .slice av us.length cv, .slice ab nb cb', .int .i64 pad] ∧ At w2 (w.heap.size + 1) 55 z5 ∧ Up w w2) (by kernel_rfl) ⟨HA7.out.up (Up.refl _).drew, HZ7.out.up (Up.refl _).drew, HU7.out.drew⟩ (fun hS => ?_)
        refine wpAnyH_take (i := 0) (oi := { dst := some 22, op := Go.Op.fieldAddr 55 (Go.Operand.tmp 3) 2, type := 0, pos := "law.go:126", after := #[], guard := none }) (v := .pointer (some ⟨Br, 2, none⟩)) rfl (by kernel_rfl) (by kernel_rfl) (by kernel_rfl) (fun _ _ _ h => h) (Or.inl ⟨by kernel_rfl, ?_⟩) hS ?_
        · intro w5 hSw
          clear hSw hS
          go_simp
        simp only [Act.put, List.setIfInBounds_toArray, List.set_cons_zero, List.set_cons_succ]
        refine wpAnyH_take (i := 2) (oi := { dst := some 24, op := Go.Op.fieldAddr 27 (Go.Operand.tmp 1) 2, type := 0, pos := "law.go:126", after := #[], guard := none }) (v := .pointer (some ⟨w.heap.size, 2, none⟩)) rfl (by kernel_rfl) (by kernel_rfl) (by kernel_rfl) (fun _ _ _ h => h) (Or.inl ⟨by kernel_rfl, ?_⟩) hS ?_
        · intro w5 hSw
          clear hSw hS
          go_simp
        simp only [Act.put, List.setIfInBounds_toArray, List.set_cons_zero, List.set_cons_succ]
        refine wpAnyH_take (i := 3) (oi := { dst := some 25, op := Go.Op.load 22 (Go.Operand.tmp 24), type := 22, pos := "law.go:126", after := #[{ on := 2, ground := Go.Ground.data }], guard := none }) (v := .slice (some ⟨b, off, none⟩) ns.length cn) rfl (by kernel_rfl) (by kernel_rfl) (by kernel_rfl) (fun _ _ _ h => h) (Or.inl ⟨by kernel_rfl, ?_⟩) hS ?_
        · intro w5 hSw
          have h0 := hSw.1.cell (i := 2) rfl
          rw [HAn.out] at h0
          clear hSw hS
          go_simp
        simp only [Act.put, List.setIfInBounds_toArray, List.set_cons_zero, List.set_cons_succ]
        refine wpAnyH_take (i := 4) (oi := { dst := some 26, op := Go.Op.move (Go.Operand.tmp 4), type := 3, pos := "law.go:126", after := #[], guard := none }) (v := .int .i64 (i : Int)) rfl (by kernel_rfl) (by kernel_rfl) (by kernel_rfl) (fun _ _ _ h => h) (Or.inl ⟨by kernel_rfl, ?_⟩) hS ?_
        · intro w5 hSw
          clear hSw hS
          go_simp
        simp only [Act.put, List.setIfInBounds_toArray, List.set_cons_zero, List.set_cons_succ]
        refine wpAnyH_take (i := 5) (oi := { dst := some 27, op := Go.Op.indexAddr 22 (Go.Operand.tmp 25) (Go.Operand.tmp 26), type := 0, pos := "law.go:126", after := #[{ on := 3, ground := Go.Ground.data }, { on := 4, ground := Go.Ground.data }], guard := none }) (v := .pointer (some ⟨b, off + i, none⟩)) rfl (by kernel_rfl) (by kernel_rfl) (by kernel_rfl) (fun _ _ _ h => h) (Or.inl ⟨by kernel_rfl, ?_⟩) hS ?_
        · intro w5 hSw
          clear hSw hS
          go_simp
        simp only [Act.put, List.setIfInBounds_toArray, List.set_cons_zero, List.set_cons_succ]
        refine wpAnyH_take (i := 6) (oi := { dst := some 28, op := Go.Op.load 9 (Go.Operand.tmp 27), type := 9, pos := "law.go:126", after := #[{ on := 5, ground := Go.Ground.data }], guard := none }) (v := .string f.n) rfl (by kernel_rfl) (by kernel_rfl) (by kernel_rfl) (fun _ _ _ h => h) (Or.inl ⟨by kernel_rfl, ?_⟩) hS ?_
        · intro w5 hSw
          have h0 := hSw.2.2.cell HK1.out
          clear hSw hS
          go_simp
        simp only [Act.put, List.setIfInBounds_toArray, List.set_cons_zero, List.set_cons_succ]
        refine wpAnyH_take (i := 7) (oi := { dst := some 29, op := Go.Op.fieldAddr 27 (Go.Operand.tmp 1) 3, type := 0, pos := "law.go:126", after := #[], guard := none }) (v := .pointer (some ⟨w.heap.size, 3, none⟩)) rfl (by kernel_rfl) (by kernel_rfl) (by kernel_rfl) (fun _ _ _ h => h) (Or.inl ⟨by kernel_rfl, ?_⟩) hS ?_
        · intro w5 hSw
          clear hSw hS
          go_simp
        simp only [Act.put, List.setIfInBounds_toArray, List.set_cons_zero, List.set_cons_succ]
        refine wpAnyH_take (i := 8) (oi := { dst := some 30, op := Go.Op.load 22 (Go.Operand.tmp 29), type := 22, pos := "law.go:126", after := #[{ on := 7, ground := Go.Ground.data }], guard := none }) (v := .slice av us.length cv) rfl (by kernel_rfl) (by kernel_rfl) (by kernel_rfl) (fun _ _ _ h => h) (Or.inl ⟨by kernel_rfl, ?_⟩) hS ?_
        · intro w5 hSw
          have h0 := hSw.1.cell (i := 3) rfl
          clear hSw hS
          go_simp
        simp only [Act.put, List.setIfInBounds_toArray, List.set_cons_zero, List.set_cons_succ]
        refine wpAnyH_take (i := 9) (oi := { dst := some 31, op := Go.Op.move (Go.Operand.tmp 4), type := 3, pos := "law.go:126", after := #[], guard := none }) (v := .int .i64 (i : Int)) rfl (by kernel_rfl) (by kernel_rfl) (by kernel_rfl) (fun _ _ _ h => h) (Or.inl ⟨by kernel_rfl, ?_⟩) hS ?_
        · intro w5 hSw
          clear hSw hS
          go_simp
        simp only [Act.put, List.setIfInBounds_toArray, List.set_cons_zero, List.set_cons_succ]
        refine wpAnyH_ready (rs := [1, 10]) (by kernel_rfl) (by simp) ?_
        refine AllReadyH.cons (o := { dst := some 23, op := Go.Op.load 34 (Go.Operand.tmp 22), type := 34, pos := "law.go:126", after := #[{ on := 0, ground := Go.Ground.data }], guard := none }) rfl (fun K hK => ?_) (AllReadyH.cons (o := { dst := some 32, op := Go.Op.call { callee := Go.Callee.value (Go.Operand.func 39), args := #[Go.Operand.tmp 30, Go.Operand.tmp 31], argTypes := #[22, 3] }, type := 9, pos := "law.go:126", after := #[{ on := 8, ground := Go.Ground.data }, { on := 9, ground := Go.Ground.data }], guard := none }) rfl (fun K hK => ?_) AllReadyH.nil)
        · rw [if_pos (by kernel_rfl)]
          have k3 := HRd.out.cell (i := 2) rfl
          go_simp
          refine hK.out _ _ hS (fun hS => ?_)
          clear hK K k3
          refine wpAnyH_ready (rs := [10]) (by kernel_rfl) (by simp) ?_
          refine AllReadyH.cons (o := { dst := some 32, op := Go.Op.call { callee := Go.Callee.value (Go.Operand.func 39), args := #[Go.Operand.tmp 30, Go.Operand.tmp 31], argTypes := #[22, 3] }, type := 9, pos := "law.go:126", after := #[{ on := 8, ground := Go.Ground.data }, { on := 9, ground := Go.Ground.data }], guard := none }) rfl (fun K hK => ?_) AllReadyH.nil
          rw [if_pos (by kernel_rfl)]
          go_simp
          refine (value_walk av us cv i wr.drew (HV.out.up HU7.out.drew)).mono ?_
          rintro e w5 ⟨rfl, h9⟩
          obtain rfl := h9.symm
          clear h9
          rw [HFv.out]
          dsimp only
          refine hK.out _ _ hS (fun hS => ?_)
          clear hK K
          refine wpAnyH_take (i := 11) (oi := { dst := some 33, op := Go.Op.build 87 #[(0, Go.Operand.tmp 28), (1, Go.Operand.tmp 32)], type := 87, pos := "law.go:126", after := #[{ on := 6, ground := Go.Ground.data }, { on := 10, ground := Go.Ground.data }], guard := none }) (v := .agg #[.string f.n, .string f.v]) rfl (by kernel_rfl) (by kernel_rfl) (by kernel_rfl) (fun _ _ _ h => h) (Or.inl ⟨by kernel_rfl, ?_⟩) hS ?_
          · intro w5 hSw
            clear hSw hS
            go_simp
          simp only [Act.put, List.setIfInBounds_toArray, List.set_cons_zero, List.set_cons_succ]
          refine wpAnyH_ready (rs := [12]) (by kernel_rfl) (by simp) ?_
          refine AllReadyH.cons (o := { dst := some 34, op := Go.Op.buildSlice 34 1 #[(0, Go.Operand.tmp 33)], type := 34, pos := "law.go:126", after := #[{ on := 11, ground := Go.Ground.data }], guard := none }) rfl (fun K hK => ?_) AllReadyH.nil
          rw [if_pos (by kernel_rfl)]
          go_simp
          refine hK.out _ _ ⟨hS.1.up ((Up.refl _).alloc _), hS.2.1.up ((Up.refl _).alloc _), hS.2.2.alloc _⟩ (fun hS => ?_)
          clear hK K
          refine wpAnyH_ready (rs := [13]) (by kernel_rfl) (by simp) ?_
          refine AllReadyH.cons (o := { dst := some 35, op := Go.Op.call { callee := Go.Callee.builtin Go.Builtin.append, args := #[Go.Operand.tmp 23, Go.Operand.tmp 34], argTypes := #[34, 34] }, type := 34, pos := "law.go:126", after := #[{ on := 1, ground := Go.Ground.data }, { on := 12, ground := Go.Ground.data }, { on := 10, ground := Go.Ground.chain }], guard := none }) rfl (fun K hK => oper_of_list ?_) AllReadyH.nil
          refine wpList_appFd (w := wr.drew) (N := w.heap.size) rfl _ _ rfl a7 c7 (F.take i) f HLn.out rfl rfl HFd.out HU7.out.drew.size (by omega) ?_
          intro ax2 cx2 w7 o7 u7 g7
          have HU8 := Hid.of (u7 w HU7.out.drew (Nat.le_refl _))
          have HR8 := Hid.of (HRd.out.by g7 (own_ne HFd'.out HRd.out (by decide)))
          have HA8 := Hid.of (HAd.out.by g7 (own_ne HFd'.out HAd.out (by decide)))
          have HZ8 := Hid.of (HZd.out.by g7 (own_ne HFd'.out HZd.out (by decide)))
          have HB8 := Hid.of (HOd.out.kept g7 (own_off HOd.out HFd'.out (by decide)))
          have HF8 := Hid.of (show FdO w7 w.heap.size ax2 (F.take (i + 1)) cx2 by rw [HT.out]; exact o7)
          clear o7 u7 g7
          refine hK.out _ _ ⟨HA8.out, HZ8.out, HU8.out⟩ (fun hS => ?_)
          clear hK K
          simp only [Act.put, List.setIfInBounds_toArray, List.set_cons_zero, List.set_cons_succ]
          refine wpAnyH_take (i := 14) (oi := { dst := some 36, op := Go.Op.fieldAddr 55 (Go.Operand.tmp 3) 2, type := 0, pos := "law.go:126", after := #[{ on := 0, ground := Go.Ground.phase }, { on := 1, ground := Go.Ground.phase }, { on := 2, ground := Go.Ground.phase }, { on := 3, ground := Go.Ground.phase }, { on := 4, ground := Go.Ground.phase }, { on := 5, ground := Go.Ground.phase }, { on := 6, ground := Go.Ground.phase }, { on := 7, ground := Go.Ground.phase }, { on := 8, ground := Go.Ground.phase }, { on := 9, ground := Go.Ground.phase }, { on := 10, ground := Go.Ground.phase }, { on := 11, ground := Go.Ground.phase }, { on := 12, ground := Go.Ground.phase }, { on := 13, ground := Go.Ground.phase }], guard := none }) (v := .pointer (some ⟨Br, 2, none⟩)) rfl (by kernel_rfl) (by kernel_rfl) (by kernel_rfl) (fun _ _ _ h => h) (Or.inl ⟨by kernel_rfl, ?_⟩) hS ?_
          · intro w5 hSw
            clear hSw hS
            go_simp
          simp only [Act.put, List.setIfInBounds_toArray, List.set_cons_zero, List.set_cons_succ]
          refine wpAnyH_ready (rs := [15]) (by kernel_rfl) (by simp) ?_
          refine AllReadyH.cons (o := { dst := none, op := Go.Op.store 34 (Go.Operand.tmp 36) (Go.Operand.tmp 35), type := 0, pos := "law.go:126", after := #[{ on := 14, ground := Go.Ground.data }, { on := 13, ground := Go.Ground.data }, { on := 13, ground := Go.Ground.chain }, { on := 0, ground := Go.Ground.phase }, { on := 1, ground := Go.Ground.phase }, { on := 2, ground := Go.Ground.phase }, { on := 3, ground := Go.Ground.phase }, { on := 4, ground := Go.Ground.phase }, { on := 5, ground := Go.Ground.phase }, { on := 6, ground := Go.Ground.phase }, { on := 7, ground := Go.Ground.phase }, { on := 8, ground := Go.Ground.phase }, { on := 9, ground := Go.Ground.phase }, { on := 10, ground := Go.Ground.phase }, { on := 11, ground := Go.Ground.phase }, { on := 12, ground := Go.Ground.phase }, { on := 13, ground := Go.Ground.phase }], guard := none }) rfl (fun K hK => ?_) AllReadyH.nil
          have k3 := HR8.out.cell (i := 2) rfl
          have f3 := HR8.out.thaw 2
          have G8 := grown_set1 w7 Br 2 (.slice ax2 (i + 1) cx2)
          have HR9 := Hid.of (HR8.out.set 2 (.slice ax2 (i + 1) cx2))
          have HU9 := Hid.of (HU8.out.by G8 (fun g hg => by have := Option.some.inj hg; have := HBr.out; omega))
          have HA9 := Hid.of (HA8.out.by G8 (fun e => by have := Option.some.inj e; have := HBr.out; omega))
          have HZ9 := Hid.of (HZ8.out.by G8 (fun e => by have := Option.some.inj e; have := HBr.out; omega))
          have HB9 := Hid.of (HB8.out.kept G8 (.inr (own_ne HB8.out HR8.out (by decide))))
          have HF9 := Hid.of (show FdO (w7.setCell ⟨Br, 2, none⟩ (.slice ax2 (i + 1) cx2)) w.heap.size ax2 (F.take (i + 1)) cx2 from HF8.out.kept G8 (.inr (own_ne HF8.out HR8.out (by decide))))
          clear G8
          rw [if_pos (by kernel_rfl)]
          go_simp
          refine hK.out _ _ ⟨HA9.out, HZ9.out, HU9.out⟩ (fun hS => ?_)
          clear hK K hS
          refine wpAnyH_done (by kernel_rfl) ?_ _
          go_wp2
          go_roundw
          all_goals first
            | exact ⟨i + 1, by go_num, by omega, Hid.of ⟨ax2, cx2, HR9.out, HF9.out, HB9.out, HA9.out, HZ9.out, HU9.out⟩⟩
            | (simp [intOf]; omega)
        · rw [if_pos (by kernel_rfl)]
          go_simp
          refine (value_walk av us cv i wr.drew (HV.out.up HU7.out.drew)).mono ?_
          rintro e w5 ⟨rfl, h9⟩
          obtain rfl := h9.symm
          clear h9
          rw [HFv.out]
          dsimp only
          refine hK.out _ _ hS (fun hS => ?_)
          clear hK K
          refine wpAnyH_take (i := 11) (oi := { dst := some 33, op := Go.Op.build 87 #[(0, Go.Operand.tmp 28), (1, Go.Operand.tmp 32)], type := 87, pos := "law.go:126", after := #[{ on := 6, ground := Go.Ground.data }, { on := 10, ground := Go.Ground.data }], guard := none }) (v := .agg #[.string f.n, .string f.v]) rfl (by kernel_rfl) (by kernel_rfl) (by kernel_rfl) (fun _ _ _ h => h) (Or.inl ⟨by kernel_rfl, ?_⟩) hS ?_
          · intro w5 hSw
            clear hSw hS
            go_simp
          simp only [Act.put, List.setIfInBounds_toArray, List.set_cons_zero, List.set_cons_succ]
          refine wpAnyH_ready (rs := [1, 12]) (by kernel_rfl) (by simp) ?_
          refine AllReadyH.cons (o := { dst := some 23, op := Go.Op.load 34 (Go.Operand.tmp 22), type := 34, pos := "law.go:126", after := #[{ on := 0, ground := Go.Ground.data }], guard := none }) rfl (fun K hK => ?_) (AllReadyH.cons (o := { dst := some 34, op := Go.Op.buildSlice 34 1 #[(0, Go.Operand.tmp 33)], type := 34, pos := "law.go:126", after := #[{ on := 11, ground := Go.Ground.data }], guard := none }) rfl (fun K hK => ?_) AllReadyH.nil)
          · rw [if_pos (by kernel_rfl)]
            have k3 := HRd.out.cell (i := 2) rfl
            go_simp
            refine hK.out _ _ hS (fun hS => ?_)
            clear hK K k3
            refine wpAnyH_ready (rs := [12]) (by kernel_rfl) (by simp) ?_
            refine AllReadyH.cons (o := { dst := some 34, op := Go.Op.buildSlice 34 1 #[(0, Go.Operand.tmp 33)], type := 34, pos := "law.go:126", after := #[{ on := 11, ground := Go.Ground.data }], guard := none }) rfl (fun K hK => ?_) AllReadyH.nil
            rw [if_pos (by kernel_rfl)]
            go_simp
            refine hK.out _ _ ⟨hS.1.up ((Up.refl _).alloc _), hS.2.1.up ((Up.refl _).alloc _), hS.2.2.alloc _⟩ (fun hS => ?_)
            clear hK K
            refine wpAnyH_ready (rs := [13]) (by kernel_rfl) (by simp) ?_
            refine AllReadyH.cons (o := { dst := some 35, op := Go.Op.call { callee := Go.Callee.builtin Go.Builtin.append, args := #[Go.Operand.tmp 23, Go.Operand.tmp 34], argTypes := #[34, 34] }, type := 34, pos := "law.go:126", after := #[{ on := 1, ground := Go.Ground.data }, { on := 12, ground := Go.Ground.data }, { on := 10, ground := Go.Ground.chain }], guard := none }) rfl (fun K hK => oper_of_list ?_) AllReadyH.nil
            refine wpList_appFd (w := wr.drew) (N := w.heap.size) rfl _ _ rfl a7 c7 (F.take i) f HLn.out rfl rfl HFd.out HU7.out.drew.size (by omega) ?_
            intro ax2 cx2 w7 o7 u7 g7
            have HU8 := Hid.of (u7 w HU7.out.drew (Nat.le_refl _))
            have HR8 := Hid.of (HRd.out.by g7 (own_ne HFd'.out HRd.out (by decide)))
            have HA8 := Hid.of (HAd.out.by g7 (own_ne HFd'.out HAd.out (by decide)))
            have HZ8 := Hid.of (HZd.out.by g7 (own_ne HFd'.out HZd.out (by decide)))
            have HB8 := Hid.of (HOd.out.kept g7 (own_off HOd.out HFd'.out (by decide)))
            have HF8 := Hid.of (show FdO w7 w.heap.size ax2 (F.take (i + 1)) cx2 by rw [HT.out]; exact o7)
            clear o7 u7 g7
            refine hK.out _ _ ⟨HA8.out, HZ8.out, HU8.out⟩ (fun hS => ?_)
            clear hK K
            simp only [Act.put, List.setIfInBounds_toArray, List.set_cons_zero, List.set_cons_succ]
            refine wpAnyH_take (i := 14) (oi := { dst := some 36, op := Go.Op.fieldAddr 55 (Go.Operand.tmp 3) 2, type := 0, pos := "law.go:126", after := #[{ on := 0, ground := Go.Ground.phase }, { on := 1, ground := Go.Ground.phase }, { on := 2, ground := Go.Ground.phase }, { on := 3, ground := Go.Ground.phase }, { on := 4, ground := Go.Ground.phase }, { on := 5, ground := Go.Ground.phase }, { on := 6, ground := Go.Ground.phase }, { on := 7, ground := Go.Ground.phase }, { on := 8, ground := Go.Ground.phase }, { on := 9, ground := Go.Ground.phase }, { on := 10, ground := Go.Ground.phase }, { on := 11, ground := Go.Ground.phase }, { on := 12, ground := Go.Ground.phase }, { on := 13, ground := Go.Ground.phase }], guard := none }) (v := .pointer (some ⟨Br, 2, none⟩)) rfl (by kernel_rfl) (by kernel_rfl) (by kernel_rfl) (fun _ _ _ h => h) (Or.inl ⟨by kernel_rfl, ?_⟩) hS ?_
            · intro w5 hSw
              clear hSw hS
              go_simp
            simp only [Act.put, List.setIfInBounds_toArray, List.set_cons_zero, List.set_cons_succ]
            refine wpAnyH_ready (rs := [15]) (by kernel_rfl) (by simp) ?_
            refine AllReadyH.cons (o := { dst := none, op := Go.Op.store 34 (Go.Operand.tmp 36) (Go.Operand.tmp 35), type := 0, pos := "law.go:126", after := #[{ on := 14, ground := Go.Ground.data }, { on := 13, ground := Go.Ground.data }, { on := 13, ground := Go.Ground.chain }, { on := 0, ground := Go.Ground.phase }, { on := 1, ground := Go.Ground.phase }, { on := 2, ground := Go.Ground.phase }, { on := 3, ground := Go.Ground.phase }, { on := 4, ground := Go.Ground.phase }, { on := 5, ground := Go.Ground.phase }, { on := 6, ground := Go.Ground.phase }, { on := 7, ground := Go.Ground.phase }, { on := 8, ground := Go.Ground.phase }, { on := 9, ground := Go.Ground.phase }, { on := 10, ground := Go.Ground.phase }, { on := 11, ground := Go.Ground.phase }, { on := 12, ground := Go.Ground.phase }, { on := 13, ground := Go.Ground.phase }], guard := none }) rfl (fun K hK => ?_) AllReadyH.nil
            have k3 := HR8.out.cell (i := 2) rfl
            have f3 := HR8.out.thaw 2
            have G8 := grown_set1 w7 Br 2 (.slice ax2 (i + 1) cx2)
            have HR9 := Hid.of (HR8.out.set 2 (.slice ax2 (i + 1) cx2))
            have HU9 := Hid.of (HU8.out.by G8 (fun g hg => by have := Option.some.inj hg; have := HBr.out; omega))
            have HA9 := Hid.of (HA8.out.by G8 (fun e => by have := Option.some.inj e; have := HBr.out; omega))
            have HZ9 := Hid.of (HZ8.out.by G8 (fun e => by have := Option.some.inj e; have := HBr.out; omega))
            have HB9 := Hid.of (HB8.out.kept G8 (.inr (own_ne HB8.out HR8.out (by decide))))
            have HF9 := Hid.of (show FdO (w7.setCell ⟨Br, 2, none⟩ (.slice ax2 (i + 1) cx2)) w.heap.size ax2 (F.take (i + 1)) cx2 from HF8.out.kept G8 (.inr (own_ne HF8.out HR8.out (by decide))))
            clear G8
            rw [if_pos (by kernel_rfl)]
            go_simp
            refine hK.out _ _ ⟨HA9.out, HZ9.out, HU9.out⟩ (fun hS => ?_)
            clear hK K hS
            refine wpAnyH_done (by kernel_rfl) ?_ _
            go_wp2
            go_roundw
            all_goals first
              | exact ⟨i + 1, by go_num, by omega, Hid.of ⟨ax2, cx2, HR9.out, HF9.out, HB9.out, HA9.out, HZ9.out, HU9.out⟩⟩
              | (simp [intOf]; omega)
          · rw [if_pos (by kernel_rfl)]
            go_simp
            refine hK.out _ _ ⟨hS.1.up ((Up.refl _).alloc _), hS.2.1.up ((Up.refl _).alloc _), hS.2.2.alloc _⟩ (fun hS => ?_)
            clear hK K
            refine wpAnyH_ready (rs := [1]) (by kernel_rfl) (by simp) ?_
            refine AllReadyH.cons (o := { dst := some 23, op := Go.Op.load 34 (Go.Operand.tmp 22), type := 34, pos := "law.go:126", after := #[{ on := 0, ground := Go.Ground.data }], guard := none }) rfl (fun K hK => ?_) AllReadyH.nil
            rw [if_pos (by kernel_rfl)]
            have k3 := ((HR7.out.up ((Up.refl wr).alloc (.cells #[.string f.n, .string f.v] 87))).up (Up.refl _).drew).cell (i := 2) rfl
            go_simp
            refine hK.out _ _ hS (fun hS => ?_)
            clear hK K k3
            refine wpAnyH_ready (rs := [13]) (by kernel_rfl) (by simp) ?_
            refine AllReadyH.cons (o := { dst := some 35, op := Go.Op.call { callee := Go.Callee.builtin Go.Builtin.append, args := #[Go.Operand.tmp 23, Go.Operand.tmp 34], argTypes := #[34, 34] }, type := 34, pos := "law.go:126", after := #[{ on := 1, ground := Go.Ground.data }, { on := 12, ground := Go.Ground.data }, { on := 10, ground := Go.Ground.chain }], guard := none }) rfl (fun K hK => oper_of_list ?_) AllReadyH.nil
            refine wpList_appFd (w := wr.drew) (N := w.heap.size) rfl _ _ rfl a7 c7 (F.take i) f HLn.out rfl rfl HFd.out HU7.out.drew.size (by omega) ?_
            intro ax2 cx2 w7 o7 u7 g7
            have HU8 := Hid.of (u7 w HU7.out.drew (Nat.le_refl _))
            have HR8 := Hid.of (HRd.out.by g7 (own_ne HFd'.out HRd.out (by decide)))
            have HA8 := Hid.of (HAd.out.by g7 (own_ne HFd'.out HAd.out (by decide)))
            have HZ8 := Hid.of (HZd.out.by g7 (own_ne HFd'.out HZd.out (by decide)))
            have HB8 := Hid.of (HOd.out.kept g7 (own_off HOd.out HFd'.out (by decide)))
            have HF8 := Hid.of (show FdO w7 w.heap.size ax2 (F.take (i + 1)) cx2 by rw [HT.out]; exact o7)
            clear o7 u7 g7
            refine hK.out _ _ ⟨HA8.out, HZ8.out, HU8.out⟩ (fun hS => ?_)
            clear hK K
            simp only [Act.put, List.setIfInBounds_toArray, List.set_cons_zero, List.set_cons_succ]
            refine wpAnyH_take (i := 14) (oi := { dst := some 36, op := Go.Op.fieldAddr 55 (Go.Operand.tmp 3) 2, type := 0, pos := "law.go:126", after := #[{ on := 0, ground := Go.Ground.phase }, { on := 1, ground := Go.Ground.phase }, { on := 2, ground := Go.Ground.phase }, { on := 3, ground := Go.Ground.phase }, { on := 4, ground := Go.Ground.phase }, { on := 5, ground := Go.Ground.phase }, { on := 6, ground := Go.Ground.phase }, { on := 7, ground := Go.Ground.phase }, { on := 8, ground := Go.Ground.phase }, { on := 9, ground := Go.Ground.phase }, { on := 10, ground := Go.Ground.phase }, { on := 11, ground := Go.Ground.phase }, { on := 12, ground := Go.Ground.phase }, { on := 13, ground := Go.Ground.phase }], guard := none }) (v := .pointer (some ⟨Br, 2, none⟩)) rfl (by kernel_rfl) (by kernel_rfl) (by kernel_rfl) (fun _ _ _ h => h) (Or.inl ⟨by kernel_rfl, ?_⟩) hS ?_
            · intro w5 hSw
              clear hSw hS
              go_simp
            simp only [Act.put, List.setIfInBounds_toArray, List.set_cons_zero, List.set_cons_succ]
            refine wpAnyH_ready (rs := [15]) (by kernel_rfl) (by simp) ?_
            refine AllReadyH.cons (o := { dst := none, op := Go.Op.store 34 (Go.Operand.tmp 36) (Go.Operand.tmp 35), type := 0, pos := "law.go:126", after := #[{ on := 14, ground := Go.Ground.data }, { on := 13, ground := Go.Ground.data }, { on := 13, ground := Go.Ground.chain }, { on := 0, ground := Go.Ground.phase }, { on := 1, ground := Go.Ground.phase }, { on := 2, ground := Go.Ground.phase }, { on := 3, ground := Go.Ground.phase }, { on := 4, ground := Go.Ground.phase }, { on := 5, ground := Go.Ground.phase }, { on := 6, ground := Go.Ground.phase }, { on := 7, ground := Go.Ground.phase }, { on := 8, ground := Go.Ground.phase }, { on := 9, ground := Go.Ground.phase }, { on := 10, ground := Go.Ground.phase }, { on := 11, ground := Go.Ground.phase }, { on := 12, ground := Go.Ground.phase }, { on := 13, ground := Go.Ground.phase }], guard := none }) rfl (fun K hK => ?_) AllReadyH.nil
            have k3 := HR8.out.cell (i := 2) rfl
            have f3 := HR8.out.thaw 2
            have G8 := grown_set1 w7 Br 2 (.slice ax2 (i + 1) cx2)
            have HR9 := Hid.of (HR8.out.set 2 (.slice ax2 (i + 1) cx2))
            have HU9 := Hid.of (HU8.out.by G8 (fun g hg => by have := Option.some.inj hg; have := HBr.out; omega))
            have HA9 := Hid.of (HA8.out.by G8 (fun e => by have := Option.some.inj e; have := HBr.out; omega))
            have HZ9 := Hid.of (HZ8.out.by G8 (fun e => by have := Option.some.inj e; have := HBr.out; omega))
            have HB9 := Hid.of (HB8.out.kept G8 (.inr (own_ne HB8.out HR8.out (by decide))))
            have HF9 := Hid.of (show FdO (w7.setCell ⟨Br, 2, none⟩ (.slice ax2 (i + 1) cx2)) w.heap.size ax2 (F.take (i + 1)) cx2 from HF8.out.kept G8 (.inr (own_ne HF8.out HR8.out (by decide))))
            clear G8
            rw [if_pos (by kernel_rfl)]
            go_simp
            refine hK.out _ _ ⟨HA9.out, HZ9.out, HU9.out⟩ (fun hS => ?_)
            clear hK K hS
            refine wpAnyH_done (by kernel_rfl) ?_ _
            go_wp2
            go_roundw
            all_goals first
              | exact ⟨i + 1, by go_num, by omega, Hid.of ⟨ax2, cx2, HR9.out, HF9.out, HB9.out, HA9.out, HZ9.out, HU9.out⟩⟩
              | (simp [intOf]; omega)
      · have hilz : ¬ (i : Int) < (ns.length : Int) := by omega
        have hin : i = ns.length := by omega
        subst hin
        have HF8 := Hid.of (show FdO wr w.heap.size a7 F c7 by
          have h1 := HF7.out
          rw [List.take_of_length_le (by rw [HFl.out]; exact Nat.le_refl _)] at h1
          exact h1)
        go_wp2_with (with_reducible show wpList _ _ _ ({ dst := _, op := Op.load 55 _, type := _, pos := _, after := _, guard := _ } :: _) _ _; refine Shut.out ?_)
        show wpList _ _ _ _ _ _
        refine wpList_load_mid rfl _ _ rfl Br 0 rfl [.int .i64 st, .int .i64 mi, .slice a7 ns.length c7, .slice a5 L5 c5, .bool false] _ HR7.out.range Tryz.underlying55 rfl (by kernel_rfl) ?_
        simp only [Act.put, List.setIfInBounds_toArray, List.set_cons_zero, List.set_cons_succ]
        refine wpList_store_at rfl 55 _ _ rfl (w.heap.size + 1) HZ7.out [.int .i64 st, .int .i64 mi, .slice a7 ns.length c7, .slice a5 L5 c5, .bool false] rfl rfl rfl (by kernel_rfl) (by kernel_rfl) ?_
        intro w8 hA8 hg8
        have HA8 := Hid.of hA8
        have HU8 := Hid.of (HU7.out.by hg8 (fun g hg => by have := Option.some.inj hg; omega))
        have HF9 := Hid.of (show FdO w8 w.heap.size a7 F c7 from HF8.out.kept hg8 (.inr (own_ne HF8.out HZ7.out (by decide))))
        have HO9 := Hid.of (HO7.out.kept hg8 (.inr (own_ne HO7.out HZ7.out (by decide))))
        clear hA8 hg8
        simp only [Act.put]
        repeat go_step
        refine bodyPost_ret (results_agg1 Tryz.results17 _ _ (w.heap.size + 1) [.int .i64 st, .int .i64 mi, .slice a7 ns.length c7, .slice a5 L5 c5, .bool false] rfl HA8.out.range Tryz.underlying55 rfl (by kernel_rfl)) rfl ?_
        exact ⟨⟨a7, c7, _, rfl, Hid.of ⟨HF9.out, by unfold Ow; rw [HL5.out]; exact HO9.out⟩⟩, HU8.out⟩
end Go.Proofs.YtkaoalcffgnfeaaGreatDoor
namespace Go.Proofs.YtkaoalcffgnfeaaGreatDoor
open Go.RowKit Go.Shelf TextNum
set_option maxRecDepth 100000 in
set_option maxHeartbeats 8000000 in
theorem answered_walk (st mi : Int) (an : Option Addr) (ns : List ByteArray) (cn : Nat) (av : Option Addr) (us : List ByteArray) (cv : Nat) (ab : Option Addr) (nb cb' : Nat) (bd : List UInt8) (pad : Int) (w : World) (hN : StL w an ns cn) (hV : StL w av us cv) (hB : Sb w (.slice ab nb cb') bd) (hnl : ns.length ≤ 1048576) (hbl : bd.length ≤ 1048576) :
    Calls Tryz.prog 15 #[.agg #[.int .i64 st, .int .i64 mi, .slice an ns.length cn, .slice av us.length cv, .slice ab nb cb', .int .i64 pad]] w fun e w' => (∃ a c v, e = .returned (.agg #[.int .i64 st, .int .i64 mi, .slice a ns.length c, v, .bool false]) ∧ Hid (RfO w' w.heap.size a (mkF ns us) c ∧ Ow w' w.heap.size v (pdd bd pad))) ∧ Up w w' := by
  have HN := Hid.of hN
  have HV := Hid.of hV
  have HB := Hid.of hB
  have hcap := hN.cap
  have hcapv := hV.cap
  obtain ⟨hbn, hbc, hbm⟩ := hB.len
  unfold maxLen at hbm
  clear hN hV hB hbn
  obtain ⟨F, hF⟩ : ∃ F, mkF ns us = F := ⟨_, rfl⟩
  have HFl := Hid.of (show F.length = ns.length by rw [← hF, mkF_len])
  have HFg := Hid.of (show ∀ i (h : i < ns.length) (h' : i < F.length), F[i] = ⟨ns[i], vat us i⟩ by subst hF; exact fun i h h' => mkF_get h h')
  rw [hF]
  clear hF
  have HA0 := Hid.of ((at_new w 27 [.int .i64 st, .int .i64 mi, .slice an ns.length cn, .slice av us.length cv, .slice ab nb cb', .int .i64 pad]).up ((Up.refl _).alloc (.cells z5.toArray 51)))
  have HZ0 := Hid.of (at_new (w.alloc (.cells [.int .i64 st, .int .i64 mi, .slice an ns.length cn, .slice av us.length cv, .slice ab nb cb', .int .i64 pad].toArray 27)) 51 z5)
  have HU0 := Hid.of (((Up.refl w).alloc (.cells [.int .i64 st, .int .i64 mi, .slice an ns.length cn, .slice av us.length cv, .slice ab nb cb', .int .i64 pad].toArray 27)).alloc (.cells z5.toArray 51))
  rw [alloc_size] at HZ0
  go_enter Tryz.func15, Tryz.ntmps15
  go_wp2
  obtain ⟨w1, hw1⟩ : ∃ w1, (w.alloc (.cells [.int .i64 st, .int .i64 mi, .slice an ns.length cn, .slice av us.length cv, .slice ab nb cb', .int .i64 pad].toArray 27)).alloc (.cells z5.toArray 51) = w1 := ⟨_, rfl⟩
  have HS1 := Hid.of (show w.heap.size + 1 < w1.heap.size by rw [← hw1, alloc_size, alloc_size]; omega)
  rw [hw1] at HA0 HU0 HZ0
  change Code.wp _ _ _ _ ((w.alloc (.cells [.int .i64 st, .int .i64 mi, .slice an ns.length cn, .slice av us.length cv, .slice ab nb cb', .int .i64 pad].toArray 27)).alloc (.cells z5.toArray 51))
  rw [hw1]
  clear hw1
  refine wp_region_held_drew (S := fun w2 => At w2 w.heap.size 27 [.int .i64 st, .int .i64 mi, .slice an ns.length cn, .slice av us.length cv, .slice ab nb cb', .int .i64 pad] ∧ At w2 (w.heap.size + 1) 51 z5 ∧ Up w w2) (by kernel_rfl) ⟨HA0.out.up (Up.refl _).drew, HZ0.out.up (Up.refl _).drew, HU0.out.drew⟩ (fun hS => ?_)
  refine wpAnyH_take (i := 0) (oi := { dst := some 5, op := Go.Op.fieldAddr 27 (Go.Operand.tmp 1) 0, type := 0, pos := "law.go:133", after := #[], guard := none }) (v := .pointer (some ⟨w.heap.size, 0, none⟩)) rfl (by kernel_rfl) (by kernel_rfl) (by kernel_rfl) (fun _ _ _ h => h) (Or.inl ⟨by kernel_rfl, ?_⟩) hS ?_
  · intro w5 hSw
    clear hSw hS
    go_simp
  simp only [Act.put, List.setIfInBounds_toArray, List.set_cons_zero, List.set_cons_succ]
  refine wpAnyH_take (i := 1) (oi := { dst := some 6, op := Go.Op.load 3 (Go.Operand.tmp 5), type := 3, pos := "law.go:133", after := #[{ on := 0, ground := Go.Ground.data }], guard := none }) (v := .int .i64 st) rfl (by kernel_rfl) (by kernel_rfl) (by kernel_rfl) (fun _ _ _ h => h) (Or.inl ⟨by kernel_rfl, ?_⟩) hS ?_
  · intro w5 hSw
    have h0 := hSw.1.cell (i := 0) rfl
    clear hSw hS
    go_simp
  simp only [Act.put, List.setIfInBounds_toArray, List.set_cons_zero, List.set_cons_succ]
  refine wpAnyH_take (i := 2) (oi := { dst := some 7, op := Go.Op.fieldAddr 27 (Go.Operand.tmp 1) 1, type := 0, pos := "law.go:133", after := #[], guard := none }) (v := .pointer (some ⟨w.heap.size, 1, none⟩)) rfl (by kernel_rfl) (by kernel_rfl) (by kernel_rfl) (fun _ _ _ h => h) (Or.inl ⟨by kernel_rfl, ?_⟩) hS ?_
  · intro w5 hSw
    clear hSw hS
    go_simp
  simp only [Act.put, List.setIfInBounds_toArray, List.set_cons_zero, List.set_cons_succ]
  refine wpAnyH_take (i := 3) (oi := { dst := some 8, op := Go.Op.load 3 (Go.Operand.tmp 7), type := 3, pos := "law.go:133", after := #[{ on := 2, ground := Go.Ground.data }], guard := none }) (v := .int .i64 mi) rfl (by kernel_rfl) (by kernel_rfl) (by kernel_rfl) (fun _ _ _ h => h) (Or.inl ⟨by kernel_rfl, ?_⟩) hS ?_
  · intro w5 hSw
    have h0 := hSw.1.cell (i := 1) rfl
    clear hSw hS
    go_simp
  simp only [Act.put, List.setIfInBounds_toArray, List.set_cons_zero, List.set_cons_succ]
  refine wpAnyH_take (i := 4) (oi := { dst := some 9, op := Go.Op.fieldAddr 27 (Go.Operand.tmp 1) 4, type := 0, pos := "law.go:133", after := #[], guard := none }) (v := .pointer (some ⟨w.heap.size, 4, none⟩)) rfl (by kernel_rfl) (by kernel_rfl) (by kernel_rfl) (fun _ _ _ h => h) (Or.inl ⟨by kernel_rfl, ?_⟩) hS ?_
  · intro w5 hSw
    clear hSw hS
    go_simp
  simp only [Act.put, List.setIfInBounds_toArray, List.set_cons_zero, List.set_cons_succ]
  refine wpAnyH_take (i := 5) (oi := { dst := some 10, op := Go.Op.load 23 (Go.Operand.tmp 9), type := 23, pos := "law.go:133", after := #[{ on := 4, ground := Go.Ground.data }], guard := none }) (v := .slice ab nb cb') rfl (by kernel_rfl) (by kernel_rfl) (by kernel_rfl) (fun _ _ _ h => h) (Or.inl ⟨by kernel_rfl, ?_⟩) hS ?_
  · intro w5 hSw
    have h0 := hSw.1.cell (i := 4) rfl
    clear hSw hS
    go_simp
  simp only [Act.put, List.setIfInBounds_toArray, List.set_cons_zero, List.set_cons_succ]
  refine wpAnyH_take (i := 6) (oi := { dst := some 11, op := Go.Op.fieldAddr 27 (Go.Operand.tmp 1) 5, type := 0, pos := "law.go:133", after := #[], guard := none }) (v := .pointer (some ⟨w.heap.size, 5, none⟩)) rfl (by kernel_rfl) (by kernel_rfl) (by kernel_rfl) (fun _ _ _ h => h) (Or.inl ⟨by kernel_rfl, ?_⟩) hS ?_
  · intro w5 hSw
    clear hSw hS
    go_simp
  simp only [Act.put, List.setIfInBounds_toArray, List.set_cons_zero, List.set_cons_succ]
  refine wpAnyH_take (i := 7) (oi := { dst := some 12, op := Go.Op.load 3 (Go.Operand.tmp 11), type := 3, pos := "law.go:133", after := #[{ on := 6, ground := Go.Ground.data }], guard := none }) (v := .int .i64 pad) rfl (by kernel_rfl) (by kernel_rfl) (by kernel_rfl) (fun _ _ _ h => h) (Or.inl ⟨by kernel_rfl, ?_⟩) hS ?_
  · intro w5 hSw
    have h0 := hSw.1.cell (i := 5) rfl
    clear hSw hS
    go_simp
  simp only [Act.put, List.setIfInBounds_toArray, List.set_cons_zero, List.set_cons_succ]
  refine wpAnyH_ready (rs := [8, 10]) (by kernel_rfl) (by simp) ?_
  refine AllReadyH.cons (o := { dst := some 13, op := Go.Op.call { callee := Go.Callee.value (Go.Operand.func 18), args := #[Go.Operand.tmp 10, Go.Operand.tmp 12], argTypes := #[23, 3] }, type := 23, pos := "law.go:133", after := #[{ on := 5, ground := Go.Ground.data }, { on := 7, ground := Go.Ground.data }], guard := none }) rfl (fun K hK => ?_) (AllReadyH.cons (o := { dst := some 3, op := Go.Op.alloc 51, type := 0, pos := "law.go:133", after := #[], guard := none }) rfl (fun K hK => ?_) AllReadyH.nil)
  · rw [if_pos (by kernel_rfl)]
    go_simp
    refine (padded_walk (.slice ab nb cb') bd pad (by omega) w1.drew (HB.out.up (HU0.out.drew))).mono ?_
    rintro e w2 ⟨v5, rfl, hO, h9⟩
    obtain ⟨a5, c5, rfl⟩ := row_len hO
    have HO2 := Hid.of (show Ow w2 w.heap.size _ (pdd bd pad) from ow_base hO (HU0.out.drew).size)
    have HU2 := Hid.of ((HU0.out.drew).trans h9)
    have HA2 := Hid.of ((HA0.out.up (Up.refl _).drew).up h9)
    have HZ2 := Hid.of ((HZ0.out.up (Up.refl _).drew).up h9)
    have Hs2 := Hid.of (show w1.drew.heap.size ≤ w2.heap.size from h9.size)
    clear h9 hO hS
    obtain ⟨L5, hL5⟩ : ∃ L5, (pdd bd pad).length = L5 := ⟨_, rfl⟩
    have HL5 := Hid.of hL5
    rw [hL5] at HO2 ⊢
    clear hL5
    dsimp only
    refine hK.out _ _ ⟨HA2.out, HZ2.out, HU2.out⟩ (fun hS => ?_)
    clear hK K
    refine wpAnyH_take (i := 9) (oi := { dst := some 14, op := Go.Op.build 51 #[(0, Go.Operand.tmp 6), (1, Go.Operand.tmp 8), (3, Go.Operand.tmp 13)], type := 51, pos := "law.go:133", after := #[{ on := 1, ground := Go.Ground.data }, { on := 3, ground := Go.Ground.data }, { on := 8, ground := Go.Ground.data }], guard := none }) (v := .agg #[.int .i64 st, .int .i64 mi, .slice none 0 0, .slice a5 L5 c5, .bool false]) rfl (by kernel_rfl) (by kernel_rfl) (by kernel_rfl) (fun _ _ _ h => h) (Or.inl ⟨by kernel_rfl, ?_⟩) hS ?_
    · intro w5 hSw
      clear hSw hS
      go_simp
    simp only [Act.put, List.setIfInBounds_toArray, List.set_cons_zero, List.set_cons_succ]
    refine wpAnyH_ready (rs := [10]) (by kernel_rfl) (by simp) ?_
    refine AllReadyH.cons (o := { dst := some 3, op := Go.Op.alloc 51, type := 0, pos := "law.go:133", after := #[], guard := none }) rfl (fun K hK => ?_) AllReadyH.nil
    rw [if_pos (by kernel_rfl)]
    go_simp
    have HR3 := Hid.of (at_new w2 51 z5)
    have HBr := Hid.of (show w.heap.size + 1 < w2.heap.size from Nat.lt_of_lt_of_le HS1.out (Nat.le_trans (Up.refl w1).drew.size Hs2.out))
    have HO3 := Hid.of (ow_up HO2.out ((Up.refl w2).alloc (.cells z5.toArray 51)))
    clear HO2
    refine hK.out _ _ ⟨hS.1.up ((Up.refl _).alloc _), hS.2.1.up ((Up.refl _).alloc _), hS.2.2.alloc _⟩ (fun hS => ?_)
    clear hK K
    refine wpAnyH_ready (rs := [11]) (by kernel_rfl) (by simp) ?_
    refine AllReadyH.cons (o := { dst := none, op := Go.Op.store 51 (Go.Operand.tmp 3) (Go.Operand.tmp 14), type := 0, pos := "law.go:133", after := #[{ on := 10, ground := Go.Ground.data }, { on := 9, ground := Go.Ground.data }, { on := 8, ground := Go.Ground.chain }, { on := 0, ground := Go.Ground.phase }, { on := 1, ground := Go.Ground.phase }, { on := 2, ground := Go.Ground.phase }, { on := 3, ground := Go.Ground.phase }, { on := 4, ground := Go.Ground.phase }, { on := 5, ground := Go.Ground.phase }, { on := 6, ground := Go.Ground.phase }, { on := 7, ground := Go.Ground.phase }, { on := 8, ground := Go.Ground.phase }, { on := 9, ground := Go.Ground.phase }, { on := 10, ground := Go.Ground.phase }], guard := none }) rfl (fun K hK => oper_of_list ?_) AllReadyH.nil
    refine wpList_store_at rfl 51 _ _ rfl (w2.heap.size) HR3.out ([.int .i64 st, .int .i64 mi, .slice none 0 0, .slice a5 L5 c5, .bool false]) rfl rfl rfl (by kernel_rfl) (by kernel_rfl) ?_
    intro w4 hA4 hg4
    have HR4 := Hid.of hA4
    have HU4 := Hid.of (hS.2.2.by hg4 (fun g hg => by have := Option.some.inj hg; have := HBr.out; omega))
    have HA4 := Hid.of (hS.1.by hg4 (fun e => by have := Option.some.inj e; have := HBr.out; omega))
    have HZ4 := Hid.of (hS.2.1.by hg4 (fun e => by have := Option.some.inj e; have := HBr.out; omega))
    have HO4 := Hid.of (HO3.out.kept hg4 (.inr (own_ne HO3.out HR3.out (by decide))))
    clear hA4 hg4 HR3 HO3
    refine hK.out _ _ ⟨HA4.out, HZ4.out, HU4.out⟩ (fun hS => ?_)
    clear hK K hS
    refine wpAnyH_done (by kernel_rfl) ?_ _
    obtain ⟨Br, hBr⟩ : ∃ Br, w2.heap.size = Br := ⟨_, rfl⟩
    rw [hBr] at HR4 HBr ⊢
    clear hBr
    go_wp2
    go_loopw [4] (fun v4 wr => ∃ i : Nat, v4 = .int .i64 (i : Int) ∧ i ≤ ns.length ∧ Hid (∃ a7 c7, At wr Br 51 [.int .i64 st, .int .i64 mi, .slice a7 i c7, .slice a5 L5 c5, .bool false] ∧ RfO wr w.heap.size a7 (F.take i) c7 ∧ wr.ownsRow w.heap.size 5 1 (.slice a5 L5 c5) L5 (cb (pdd bd pad)) ∧ At wr w.heap.size 27 [.int .i64 st, .int .i64 mi, .slice an ns.length cn, .slice av us.length cv, .slice ab nb cb', .int .i64 pad] ∧ At wr (w.heap.size + 1) 51 z5 ∧ Up w wr)) (fun v4 _ => ns.length - (intOf v4).toNat)
    case atStart => exact ⟨0, rfl, Nat.zero_le _, Hid.of ⟨none, 0, HR4.out, World.ownsRow_nil _ _ _ _, (by have h := HO4.out; rw [HL5.out] at h; exact h), HA4.out, HZ4.out, HU4.out⟩⟩
    case round =>
      obtain ⟨i, rfl, hi, hQ⟩ := hrel
      obtain ⟨a7, c7, q1, q2, q3, q4, q5, q6⟩ := hQ.out
      have HR7 := Hid.of q1
      have HF7 := Hid.of q2
      have HO7 := Hid.of q3
      have HA7 := Hid.of q4
      have HZ7 := Hid.of q5
      have HU7 := Hid.of q6
      have h3 := q4.cell (i := 2) rfl
      clear hQ q1 q2 q3 q4 q5 q6
      by_cases hil : i < ns.length
      · have hilz : (i : Int) < (ns.length : Int) := by omega
        have hif : i < F.length := by rw [HFl.out]; exact hil
        obtain ⟨b, off, han, k1⟩ := HN.out.cells i hil
        have HAn := Hid.of han
        clear han
        have HT := Hid.of (List.take_succ_eq_append_getElem hif)
        have HLn := Hid.of (show (F.take i).length = i by rw [List.length_take]; omega)
        have hfg := HFg.out i hil hif
        obtain ⟨f, hf⟩ : ∃ f, F[i] = f := ⟨_, rfl⟩
        rw [hf] at HT hfg
        have HFv := Hid.of (show vat us i = f.v by rw [hfg])
        have HK1 := Hid.of (show w.cell? ⟨b, off + i, none⟩ = some (.string f.n) by rw [k1, hfg])
        clear hf hfg k1
        have HRd := Hid.of (HR7.out.up (Up.refl wr).drew)
        have HFd := Hid.of (ow_up HF7.out (Up.refl wr).drew)
        have HFd' := Hid.of (show wr.drew.ownsRow w.heap.size 85 2 (.slice a7 i c7) i (fdc (F.take i)) by have := HFd.out; rw [HLn.out] at this; exact this)
        have HOd := Hid.of (ow_up HO7.out (Up.refl wr).drew)
        have HAd := Hid.of (HA7.out.up (Up.refl wr).drew)
        have HZd := Hid.of (HZ7.out.up (Up.refl wr).drew)
        go_wp2
        refine wp_region_held_drew (S := fun w2 => At w2 w.heap.size 27 [.int .i64 st, .int .i64 mi, .slice an ns.length cn, .slice av us.length cv, .slice ab nb cb', .int .i64 pad] ∧ At w2 (w.heap.size + 1) 51 z5 ∧ Up w w2) (by kernel_rfl) ⟨HA7.out.up (Up.refl _).drew, HZ7.out.up (Up.refl _).drew, HU7.out.drew⟩ (fun hS => ?_)
        refine wpAnyH_take (i := 0) (oi := { dst := some 22, op := Go.Op.fieldAddr 51 (Go.Operand.tmp 3) 2, type := 0, pos := "law.go:135", after := #[], guard := none }) (v := .pointer (some ⟨Br, 2, none⟩)) rfl (by kernel_rfl) (by kernel_rfl) (by kernel_rfl) (fun _ _ _ h => h) (Or.inl ⟨by kernel_rfl, ?_⟩) hS ?_
        · intro w5 hSw
          clear hSw hS
          go_simp
        simp only [Act.put, List.setIfInBounds_toArray, List.set_cons_zero, List.set_cons_succ]
        refine wpAnyH_take (i := 2) (oi := { dst := some 24, op := Go.Op.fieldAddr 27 (Go.Operand.tmp 1) 2, type := 0, pos := "law.go:135", after := #[], guard := none }) (v := .pointer (some ⟨w.heap.size, 2, none⟩)) rfl (by kernel_rfl) (by kernel_rfl) (by kernel_rfl) (fun _ _ _ h => h) (Or.inl ⟨by kernel_rfl, ?_⟩) hS ?_
        · intro w5 hSw
          clear hSw hS
          go_simp
        simp only [Act.put, List.setIfInBounds_toArray, List.set_cons_zero, List.set_cons_succ]
        refine wpAnyH_take (i := 3) (oi := { dst := some 25, op := Go.Op.load 22 (Go.Operand.tmp 24), type := 22, pos := "law.go:135", after := #[{ on := 2, ground := Go.Ground.data }], guard := none }) (v := .slice (some ⟨b, off, none⟩) ns.length cn) rfl (by kernel_rfl) (by kernel_rfl) (by kernel_rfl) (fun _ _ _ h => h) (Or.inl ⟨by kernel_rfl, ?_⟩) hS ?_
        · intro w5 hSw
          have h0 := hSw.1.cell (i := 2) rfl
          rw [HAn.out] at h0
          clear hSw hS
          go_simp
        simp only [Act.put, List.setIfInBounds_toArray, List.set_cons_zero, List.set_cons_succ]
        refine wpAnyH_take (i := 4) (oi := { dst := some 26, op := Go.Op.move (Go.Operand.tmp 4), type := 3, pos := "law.go:135", after := #[], guard := none }) (v := .int .i64 (i : Int)) rfl (by kernel_rfl) (by kernel_rfl) (by kernel_rfl) (fun _ _ _ h => h) (Or.inl ⟨by kernel_rfl, ?_⟩) hS ?_
        · intro w5 hSw
          clear hSw hS
          go_simp
        simp only [Act.put, List.setIfInBounds_toArray, List.set_cons_zero, List.set_cons_succ]
        refine wpAnyH_take (i := 5) (oi := { dst := some 27, op := Go.Op.indexAddr 22 (Go.Operand.tmp 25) (Go.Operand.tmp 26), type := 0, pos := "law.go:135", after := #[{ on := 3, ground := Go.Ground.data }, { on := 4, ground := Go.Ground.data }], guard := none }) (v := .pointer (some ⟨b, off + i, none⟩)) rfl (by kernel_rfl) (by kernel_rfl) (by kernel_rfl) (fun _ _ _ h => h) (Or.inl ⟨by kernel_rfl, ?_⟩) hS ?_
        · intro w5 hSw
          clear hSw hS
          go_simp
        simp only [Act.put, List.setIfInBounds_toArray, List.set_cons_zero, List.set_cons_succ]
        refine wpAnyH_take (i := 6) (oi := { dst := some 28, op := Go.Op.load 9 (Go.Operand.tmp 27), type := 9, pos := "law.go:135", after := #[{ on := 5, ground := Go.Ground.data }], guard := none }) (v := .string f.n) rfl (by kernel_rfl) (by kernel_rfl) (by kernel_rfl) (fun _ _ _ h => h) (Or.inl ⟨by kernel_rfl, ?_⟩) hS ?_
        · intro w5 hSw
          have h0 := hSw.2.2.cell HK1.out
          clear hSw hS
          go_simp
        simp only [Act.put, List.setIfInBounds_toArray, List.set_cons_zero, List.set_cons_succ]
        refine wpAnyH_take (i := 7) (oi := { dst := some 29, op := Go.Op.fieldAddr 27 (Go.Operand.tmp 1) 3, type := 0, pos := "law.go:135", after := #[], guard := none }) (v := .pointer (some ⟨w.heap.size, 3, none⟩)) rfl (by kernel_rfl) (by kernel_rfl) (by kernel_rfl) (fun _ _ _ h => h) (Or.inl ⟨by kernel_rfl, ?_⟩) hS ?_
        · intro w5 hSw
          clear hSw hS
          go_simp
        simp only [Act.put, List.setIfInBounds_toArray, List.set_cons_zero, List.set_cons_succ]
        refine wpAnyH_take (i := 8) (oi := { dst := some 30, op := Go.Op.load 22 (Go.Operand.tmp 29), type := 22, pos := "law.go:135", after := #[{ on := 7, ground := Go.Ground.data }], guard := none }) (v := .slice av us.length cv) rfl (by kernel_rfl) (by kernel_rfl) (by kernel_rfl) (fun _ _ _ h => h) (Or.inl ⟨by kernel_rfl, ?_⟩) hS ?_
        · intro w5 hSw
          have h0 := hSw.1.cell (i := 3) rfl
          clear hSw hS
          go_simp
        simp only [Act.put, List.setIfInBounds_toArray, List.set_cons_zero, List.set_cons_succ]
        refine wpAnyH_take (i := 9) (oi := { dst := some 31, op := Go.Op.move (Go.Operand.tmp 4), type := 3, pos := "law.go:135", after := #[], guard := none }) (v := .int .i64 (i : Int)) rfl (by kernel_rfl) (by kernel_rfl) (by kernel_rfl) (fun _ _ _ h => h) (Or.inl ⟨by kernel_rfl, ?_⟩) hS ?_
        · intro w5 hSw
          clear hSw hS
          go_simp
        simp only [Act.put, List.setIfInBounds_toArray, List.set_cons_zero, List.set_cons_succ]
        refine wpAnyH_ready (rs := [1, 10]) (by kernel_rfl) (by simp) ?_
        refine AllReadyH.cons (o := { dst := some 23, op := Go.Op.load 42 (Go.Operand.tmp 22), type := 42, pos := "law.go:135", after := #[{ on := 0, ground := Go.Ground.data }], guard := none }) rfl (fun K hK => ?_) (AllReadyH.cons (o := { dst := some 32, op := Go.Op.call { callee := Go.Callee.value (Go.Operand.func 39), args := #[Go.Operand.tmp 30, Go.Operand.tmp 31], argTypes := #[22, 3] }, type := 9, pos := "law.go:135", after := #[{ on := 8, ground := Go.Ground.data }, { on := 9, ground := Go.Ground.data }], guard := none }) rfl (fun K hK => ?_) AllReadyH.nil)
        · rw [if_pos (by kernel_rfl)]
          have k3 := HRd.out.cell (i := 2) rfl
          go_simp
          refine hK.out _ _ hS (fun hS => ?_)
          clear hK K k3
          refine wpAnyH_ready (rs := [10]) (by kernel_rfl) (by simp) ?_
          refine AllReadyH.cons (o := { dst := some 32, op := Go.Op.call { callee := Go.Callee.value (Go.Operand.func 39), args := #[Go.Operand.tmp 30, Go.Operand.tmp 31], argTypes := #[22, 3] }, type := 9, pos := "law.go:135", after := #[{ on := 8, ground := Go.Ground.data }, { on := 9, ground := Go.Ground.data }], guard := none }) rfl (fun K hK => ?_) AllReadyH.nil
          rw [if_pos (by kernel_rfl)]
          go_simp
          refine (value_walk av us cv i wr.drew (HV.out.up HU7.out.drew)).mono ?_
          rintro e w5 ⟨rfl, h9⟩
          obtain rfl := h9.symm
          clear h9
          rw [HFv.out]
          dsimp only
          refine hK.out _ _ hS (fun hS => ?_)
          clear hK K
          refine wpAnyH_take (i := 11) (oi := { dst := some 33, op := Go.Op.build 85 #[(0, Go.Operand.tmp 28), (1, Go.Operand.tmp 32)], type := 85, pos := "law.go:135", after := #[{ on := 6, ground := Go.Ground.data }, { on := 10, ground := Go.Ground.data }], guard := none }) (v := .agg #[.string f.n, .string f.v]) rfl (by kernel_rfl) (by kernel_rfl) (by kernel_rfl) (fun _ _ _ h => h) (Or.inl ⟨by kernel_rfl, ?_⟩) hS ?_
          · intro w5 hSw
            clear hSw hS
            go_simp
          simp only [Act.put, List.setIfInBounds_toArray, List.set_cons_zero, List.set_cons_succ]
          refine wpAnyH_ready (rs := [12]) (by kernel_rfl) (by simp) ?_
          refine AllReadyH.cons (o := { dst := some 34, op := Go.Op.buildSlice 42 1 #[(0, Go.Operand.tmp 33)], type := 42, pos := "law.go:135", after := #[{ on := 11, ground := Go.Ground.data }], guard := none }) rfl (fun K hK => ?_) AllReadyH.nil
          rw [if_pos (by kernel_rfl)]
          go_simp
          refine hK.out _ _ ⟨hS.1.up ((Up.refl _).alloc _), hS.2.1.up ((Up.refl _).alloc _), hS.2.2.alloc _⟩ (fun hS => ?_)
          clear hK K
          refine wpAnyH_ready (rs := [13]) (by kernel_rfl) (by simp) ?_
          refine AllReadyH.cons (o := { dst := some 35, op := Go.Op.call { callee := Go.Callee.builtin Go.Builtin.append, args := #[Go.Operand.tmp 23, Go.Operand.tmp 34], argTypes := #[42, 42] }, type := 42, pos := "law.go:135", after := #[{ on := 1, ground := Go.Ground.data }, { on := 12, ground := Go.Ground.data }, { on := 10, ground := Go.Ground.chain }], guard := none }) rfl (fun K hK => oper_of_list ?_) AllReadyH.nil
          refine wpList_appRf (w := wr.drew) (N := w.heap.size) rfl _ _ rfl a7 c7 (F.take i) f HLn.out rfl rfl HFd.out HU7.out.drew.size (by omega) ?_
          intro ax2 cx2 w7 o7 u7 g7
          have HU8 := Hid.of (u7 w HU7.out.drew (Nat.le_refl _))
          have HR8 := Hid.of (HRd.out.by g7 (own_ne HFd'.out HRd.out (by decide)))
          have HA8 := Hid.of (HAd.out.by g7 (own_ne HFd'.out HAd.out (by decide)))
          have HZ8 := Hid.of (HZd.out.by g7 (own_ne HFd'.out HZd.out (by decide)))
          have HB8 := Hid.of (HOd.out.kept g7 (own_off HOd.out HFd'.out (by decide)))
          have HF8 := Hid.of (show RfO w7 w.heap.size ax2 (F.take (i + 1)) cx2 by rw [HT.out]; exact o7)
          clear o7 u7 g7
          refine hK.out _ _ ⟨HA8.out, HZ8.out, HU8.out⟩ (fun hS => ?_)
          clear hK K
          simp only [Act.put, List.setIfInBounds_toArray, List.set_cons_zero, List.set_cons_succ]
          refine wpAnyH_take (i := 14) (oi := { dst := some 36, op := Go.Op.fieldAddr 51 (Go.Operand.tmp 3) 2, type := 0, pos := "law.go:135", after := #[{ on := 0, ground := Go.Ground.phase }, { on := 1, ground := Go.Ground.phase }, { on := 2, ground := Go.Ground.phase }, { on := 3, ground := Go.Ground.phase }, { on := 4, ground := Go.Ground.phase }, { on := 5, ground := Go.Ground.phase }, { on := 6, ground := Go.Ground.phase }, { on := 7, ground := Go.Ground.phase }, { on := 8, ground := Go.Ground.phase }, { on := 9, ground := Go.Ground.phase }, { on := 10, ground := Go.Ground.phase }, { on := 11, ground := Go.Ground.phase }, { on := 12, ground := Go.Ground.phase }, { on := 13, ground := Go.Ground.phase }], guard := none }) (v := .pointer (some ⟨Br, 2, none⟩)) rfl (by kernel_rfl) (by kernel_rfl) (by kernel_rfl) (fun _ _ _ h => h) (Or.inl ⟨by kernel_rfl, ?_⟩) hS ?_
          · intro w5 hSw
            clear hSw hS
            go_simp
          simp only [Act.put, List.setIfInBounds_toArray, List.set_cons_zero, List.set_cons_succ]
          refine wpAnyH_ready (rs := [15]) (by kernel_rfl) (by simp) ?_
          refine AllReadyH.cons (o := { dst := none, op := Go.Op.store 42 (Go.Operand.tmp 36) (Go.Operand.tmp 35), type := 0, pos := "law.go:135", after := #[{ on := 14, ground := Go.Ground.data }, { on := 13, ground := Go.Ground.data }, { on := 13, ground := Go.Ground.chain }, { on := 0, ground := Go.Ground.phase }, { on := 1, ground := Go.Ground.phase }, { on := 2, ground := Go.Ground.phase }, { on := 3, ground := Go.Ground.phase }, { on := 4, ground := Go.Ground.phase }, { on := 5, ground := Go.Ground.phase }, { on := 6, ground := Go.Ground.phase }, { on := 7, ground := Go.Ground.phase }, { on := 8, ground := Go.Ground.phase }, { on := 9, ground := Go.Ground.phase }, { on := 10, ground := Go.Ground.phase }, { on := 11, ground := Go.Ground.phase }, { on := 12, ground := Go.Ground.phase }, { on := 13, ground := Go.Ground.phase }], guard := none }) rfl (fun K hK => ?_) AllReadyH.nil
          have k3 := HR8.out.cell (i := 2) rfl
          have f3 := HR8.out.thaw 2
          have G8 := grown_set1 w7 Br 2 (.slice ax2 (i + 1) cx2)
          have HR9 := Hid.of (HR8.out.set 2 (.slice ax2 (i + 1) cx2))
          have HU9 := Hid.of (HU8.out.by G8 (fun g hg => by have := Option.some.inj hg; have := HBr.out; omega))
          have HA9 := Hid.of (HA8.out.by G8 (fun e => by have := Option.some.inj e; have := HBr.out; omega))
          have HZ9 := Hid.of (HZ8.out.by G8 (fun e => by have := Option.some.inj e; have := HBr.out; omega))
          have HB9 := Hid.of (HB8.out.kept G8 (.inr (own_ne HB8.out HR8.out (by decide))))
          have HF9 := Hid.of (show RfO (w7.setCell ⟨Br, 2, none⟩ (.slice ax2 (i + 1) cx2)) w.heap.size ax2 (F.take (i + 1)) cx2 from HF8.out.kept G8 (.inr (own_ne HF8.out HR8.out (by decide))))
          clear G8
          rw [if_pos (by kernel_rfl)]
          go_simp
          refine hK.out _ _ ⟨HA9.out, HZ9.out, HU9.out⟩ (fun hS => ?_)
          clear hK K hS
          refine wpAnyH_done (by kernel_rfl) ?_ _
          go_wp2
          go_roundw
          all_goals first
            | exact ⟨i + 1, by go_num, by omega, Hid.of ⟨ax2, cx2, HR9.out, HF9.out, HB9.out, HA9.out, HZ9.out, HU9.out⟩⟩
            | (simp [intOf]; omega)
        · rw [if_pos (by kernel_rfl)]
          go_simp
          refine (value_walk av us cv i wr.drew (HV.out.up HU7.out.drew)).mono ?_
          rintro e w5 ⟨rfl, h9⟩
          obtain rfl := h9.symm
          clear h9
          rw [HFv.out]
          dsimp only
          refine hK.out _ _ hS (fun hS => ?_)
          clear hK K
          refine wpAnyH_take (i := 11) (oi := { dst := some 33, op := Go.Op.build 85 #[(0, Go.Operand.tmp 28), (1, Go.Operand.tmp 32)], type := 85, pos := "law.go:135", after := #[{ on := 6, ground := Go.Ground.data }, { on := 10, ground := Go.Ground.data }], guard := none }) (v := .agg #[.string f.n, .string f.v]) rfl (by kernel_rfl) (by kernel_rfl) (by kernel_rfl) (fun _ _ _ h => h) (Or.inl ⟨by kernel_rfl, ?_⟩) hS ?_
          · intro w5 hSw
            clear hSw hS
            go_simp
          simp only [Act.put, List.setIfInBounds_toArray, List.set_cons_zero, List.set_cons_succ]
          refine wpAnyH_ready (rs := [1, 12]) (by kernel_rfl) (by simp) ?_
          refine AllReadyH.cons (o := { dst := some 23, op := Go.Op.load 42 (Go.Operand.tmp 22), type := 42, pos := "law.go:135", after := #[{ on := 0, ground := Go.Ground.data }], guard := none }) rfl (fun K hK => ?_) (AllReadyH.cons (o := { dst := some 34, op := Go.Op.buildSlice 42 1 #[(0, Go.Operand.tmp 33)], type := 42, pos := "law.go:135", after := #[{ on := 11, ground := Go.Ground.data }], guard := none }) rfl (fun K hK => ?_) AllReadyH.nil)
          · rw [if_pos (by kernel_rfl)]
            have k3 := HRd.out.cell (i := 2) rfl
            go_simp
            refine hK.out _ _ hS (fun hS => ?_)
            clear hK K k3
            refine wpAnyH_ready (rs := [12]) (by kernel_rfl) (by simp) ?_
            refine AllReadyH.cons (o := { dst := some 34, op := Go.Op.buildSlice 42 1 #[(0, Go.Operand.tmp 33)], type := 42, pos := "law.go:135", after := #[{ on := 11, ground := Go.Ground.data }], guard := none }) rfl (fun K hK => ?_) AllReadyH.nil
            rw [if_pos (by kernel_rfl)]
            go_simp
            refine hK.out _ _ ⟨hS.1.up ((Up.refl _).alloc _), hS.2.1.up ((Up.refl _).alloc _), hS.2.2.alloc _⟩ (fun hS => ?_)
            clear hK K
            refine wpAnyH_ready (rs := [13]) (by kernel_rfl) (by simp) ?_
            refine AllReadyH.cons (o := { dst := some 35, op := Go.Op.call { callee := Go.Callee.builtin Go.Builtin.append, args := #[Go.Operand.tmp 23, Go.Operand.tmp 34], argTypes := #[42, 42] }, type := 42, pos := "law.go:135", after := #[{ on := 1, ground := Go.Ground.data }, { on := 12, ground := Go.Ground.data }, { on := 10, ground := Go.Ground.chain }], guard := none }) rfl (fun K hK => oper_of_list ?_) AllReadyH.nil
            refine wpList_appRf (w := wr.drew) (N := w.heap.size) rfl _ _ rfl a7 c7 (F.take i) f HLn.out rfl rfl HFd.out HU7.out.drew.size (by omega) ?_
            intro ax2 cx2 w7 o7 u7 g7
            have HU8 := Hid.of (u7 w HU7.out.drew (Nat.le_refl _))
            have HR8 := Hid.of (HRd.out.by g7 (own_ne HFd'.out HRd.out (by decide)))
            have HA8 := Hid.of (HAd.out.by g7 (own_ne HFd'.out HAd.out (by decide)))
            have HZ8 := Hid.of (HZd.out.by g7 (own_ne HFd'.out HZd.out (by decide)))
            have HB8 := Hid.of (HOd.out.kept g7 (own_off HOd.out HFd'.out (by decide)))
            have HF8 := Hid.of (show RfO w7 w.heap.size ax2 (F.take (i + 1)) cx2 by rw [HT.out]; exact o7)
            clear o7 u7 g7
            refine hK.out _ _ ⟨HA8.out, HZ8.out, HU8.out⟩ (fun hS => ?_)
            clear hK K
            simp only [Act.put, List.setIfInBounds_toArray, List.set_cons_zero, List.set_cons_succ]
            refine wpAnyH_take (i := 14) (oi := { dst := some 36, op := Go.Op.fieldAddr 51 (Go.Operand.tmp 3) 2, type := 0, pos := "law.go:135", after := #[{ on := 0, ground := Go.Ground.phase }, { on := 1, ground := Go.Ground.phase }, { on := 2, ground := Go.Ground.phase }, { on := 3, ground := Go.Ground.phase }, { on := 4, ground := Go.Ground.phase }, { on := 5, ground := Go.Ground.phase }, { on := 6, ground := Go.Ground.phase }, { on := 7, ground := Go.Ground.phase }, { on := 8, ground := Go.Ground.phase }, { on := 9, ground := Go.Ground.phase }, { on := 10, ground := Go.Ground.phase }, { on := 11, ground := Go.Ground.phase }, { on := 12, ground := Go.Ground.phase }, { on := 13, ground := Go.Ground.phase }], guard := none }) (v := .pointer (some ⟨Br, 2, none⟩)) rfl (by kernel_rfl) (by kernel_rfl) (by kernel_rfl) (fun _ _ _ h => h) (Or.inl ⟨by kernel_rfl, ?_⟩) hS ?_
            · intro w5 hSw
              clear hSw hS
              go_simp
            simp only [Act.put, List.setIfInBounds_toArray, List.set_cons_zero, List.set_cons_succ]
            refine wpAnyH_ready (rs := [15]) (by kernel_rfl) (by simp) ?_
            refine AllReadyH.cons (o := { dst := none, op := Go.Op.store 42 (Go.Operand.tmp 36) (Go.Operand.tmp 35), type := 0, pos := "law.go:135", after := #[{ on := 14, ground := Go.Ground.data }, { on := 13, ground := Go.Ground.data }, { on := 13, ground := Go.Ground.chain }, { on := 0, ground := Go.Ground.phase }, { on := 1, ground := Go.Ground.phase }, { on := 2, ground := Go.Ground.phase }, { on := 3, ground := Go.Ground.phase }, { on := 4, ground := Go.Ground.phase }, { on := 5, ground := Go.Ground.phase }, { on := 6, ground := Go.Ground.phase }, { on := 7, ground := Go.Ground.phase }, { on := 8, ground := Go.Ground.phase }, { on := 9, ground := Go.Ground.phase }, { on := 10, ground := Go.Ground.phase }, { on := 11, ground := Go.Ground.phase }, { on := 12, ground := Go.Ground.phase }, { on := 13, ground := Go.Ground.phase }], guard := none }) rfl (fun K hK => ?_) AllReadyH.nil
            have k3 := HR8.out.cell (i := 2) rfl
            have f3 := HR8.out.thaw 2
            have G8 := grown_set1 w7 Br 2 (.slice ax2 (i + 1) cx2)
            have HR9 := Hid.of (HR8.out.set 2 (.slice ax2 (i + 1) cx2))
            have HU9 := Hid.of (HU8.out.by G8 (fun g hg => by have := Option.some.inj hg; have := HBr.out; omega))
            have HA9 := Hid.of (HA8.out.by G8 (fun e => by have := Option.some.inj e; have := HBr.out; omega))
            have HZ9 := Hid.of (HZ8.out.by G8 (fun e => by have := Option.some.inj e; have := HBr.out; omega))
            have HB9 := Hid.of (HB8.out.kept G8 (.inr (own_ne HB8.out HR8.out (by decide))))
            have HF9 := Hid.of (show RfO (w7.setCell ⟨Br, 2, none⟩ (.slice ax2 (i + 1) cx2)) w.heap.size ax2 (F.take (i + 1)) cx2 from HF8.out.kept G8 (.inr (own_ne HF8.out HR8.out (by decide))))
            clear G8
            rw [if_pos (by kernel_rfl)]
            go_simp
            refine hK.out _ _ ⟨HA9.out, HZ9.out, HU9.out⟩ (fun hS => ?_)
            clear hK K hS
            refine wpAnyH_done (by kernel_rfl) ?_ _
            go_wp2
            go_roundw
            all_goals first
              | exact ⟨i + 1, by go_num, by omega, Hid.of ⟨ax2, cx2, HR9.out, HF9.out, HB9.out, HA9.out, HZ9.out, HU9.out⟩⟩
              | (simp [intOf]; omega)
          · rw [if_pos (by kernel_rfl)]
            go_simp
            refine hK.out _ _ ⟨hS.1.up ((Up.refl _).alloc _), hS.2.1.up ((Up.refl _).alloc _), hS.2.2.alloc _⟩ (fun hS => ?_)
            clear hK K
            refine wpAnyH_ready (rs := [1]) (by kernel_rfl) (by simp) ?_
            refine AllReadyH.cons (o := { dst := some 23, op := Go.Op.load 42 (Go.Operand.tmp 22), type := 42, pos := "law.go:135", after := #[{ on := 0, ground := Go.Ground.data }], guard := none }) rfl (fun K hK => ?_) AllReadyH.nil
            rw [if_pos (by kernel_rfl)]
            have k3 := ((HR7.out.up ((Up.refl wr).alloc (.cells #[.string f.n, .string f.v] 85))).up (Up.refl _).drew).cell (i := 2) rfl
            go_simp
            refine hK.out _ _ hS (fun hS => ?_)
            clear hK K k3
            refine wpAnyH_ready (rs := [13]) (by kernel_rfl) (by simp) ?_
            refine AllReadyH.cons (o := { dst := some 35, op := Go.Op.call { callee := Go.Callee.builtin Go.Builtin.append, args := #[Go.Operand.tmp 23, Go.Operand.tmp 34], argTypes := #[42, 42] }, type := 42, pos := "law.go:135", after := #[{ on := 1, ground := Go.Ground.data }, { on := 12, ground := Go.Ground.data }, { on := 10, ground := Go.Ground.chain }], guard := none }) rfl (fun K hK => oper_of_list ?_) AllReadyH.nil
            refine wpList_appRf (w := wr.drew) (N := w.heap.size) rfl _ _ rfl a7 c7 (F.take i) f HLn.out rfl rfl HFd.out HU7.out.drew.size (by omega) ?_
            intro ax2 cx2 w7 o7 u7 g7
            have HU8 := Hid.of (u7 w HU7.out.drew (Nat.le_refl _))
            have HR8 := Hid.of (HRd.out.by g7 (own_ne HFd'.out HRd.out (by decide)))
            have HA8 := Hid.of (HAd.out.by g7 (own_ne HFd'.out HAd.out (by decide)))
            have HZ8 := Hid.of (HZd.out.by g7 (own_ne HFd'.out HZd.out (by decide)))
            have HB8 := Hid.of (HOd.out.kept g7 (own_off HOd.out HFd'.out (by decide)))
            have HF8 := Hid.of (show RfO w7 w.heap.size ax2 (F.take (i + 1)) cx2 by rw [HT.out]; exact o7)
            clear o7 u7 g7
            refine hK.out _ _ ⟨HA8.out, HZ8.out, HU8.out⟩ (fun hS => ?_)
            clear hK K
            simp only [Act.put, List.setIfInBounds_toArray, List.set_cons_zero, List.set_cons_succ]
            refine wpAnyH_take (i := 14) (oi := { dst := some 36, op := Go.Op.fieldAddr 51 (Go.Operand.tmp 3) 2, type := 0, pos := "law.go:135", after := #[{ on := 0, ground := Go.Ground.phase }, { on := 1, ground := Go.Ground.phase }, { on := 2, ground := Go.Ground.phase }, { on := 3, ground := Go.Ground.phase }, { on := 4, ground := Go.Ground.phase }, { on := 5, ground := Go.Ground.phase }, { on := 6, ground := Go.Ground.phase }, { on := 7, ground := Go.Ground.phase }, { on := 8, ground := Go.Ground.phase }, { on := 9, ground := Go.Ground.phase }, { on := 10, ground := Go.Ground.phase }, { on := 11, ground := Go.Ground.phase }, { on := 12, ground := Go.Ground.phase }, { on := 13, ground := Go.Ground.phase }], guard := none }) (v := .pointer (some ⟨Br, 2, none⟩)) rfl (by kernel_rfl) (by kernel_rfl) (by kernel_rfl) (fun _ _ _ h => h) (Or.inl ⟨by kernel_rfl, ?_⟩) hS ?_
            · intro w5 hSw
              clear hSw hS
              go_simp
            simp only [Act.put, List.setIfInBounds_toArray, List.set_cons_zero, List.set_cons_succ]
            refine wpAnyH_ready (rs := [15]) (by kernel_rfl) (by simp) ?_
            refine AllReadyH.cons (o := { dst := none, op := Go.Op.store 42 (Go.Operand.tmp 36) (Go.Operand.tmp 35), type := 0, pos := "law.go:135", after := #[{ on := 14, ground := Go.Ground.data }, { on := 13, ground := Go.Ground.data }, { on := 13, ground := Go.Ground.chain }, { on := 0, ground := Go.Ground.phase }, { on := 1, ground := Go.Ground.phase }, { on := 2, ground := Go.Ground.phase }, { on := 3, ground := Go.Ground.phase }, { on := 4, ground := Go.Ground.phase }, { on := 5, ground := Go.Ground.phase }, { on := 6, ground := Go.Ground.phase }, { on := 7, ground := Go.Ground.phase }, { on := 8, ground := Go.Ground.phase }, { on := 9, ground := Go.Ground.phase }, { on := 10, ground := Go.Ground.phase }, { on := 11, ground := Go.Ground.phase }, { on := 12, ground := Go.Ground.phase }, { on := 13, ground := Go.Ground.phase }], guard := none }) rfl (fun K hK => ?_) AllReadyH.nil
            have k3 := HR8.out.cell (i := 2) rfl
            have f3 := HR8.out.thaw 2
            have G8 := grown_set1 w7 Br 2 (.slice ax2 (i + 1) cx2)
            have HR9 := Hid.of (HR8.out.set 2 (.slice ax2 (i + 1) cx2))
            have HU9 := Hid.of (HU8.out.by G8 (fun g hg => by have := Option.some.inj hg; have := HBr.out; omega))
            have HA9 := Hid.of (HA8.out.by G8 (fun e => by have := Option.some.inj e; have := HBr.out; omega))
            have HZ9 := Hid.of (HZ8.out.by G8 (fun e => by have := Option.some.inj e; have := HBr.out; omega))
            have HB9 := Hid.of (HB8.out.kept G8 (.inr (own_ne HB8.out HR8.out (by decide))))
            have HF9 := Hid.of (show RfO (w7.setCell ⟨Br, 2, none⟩ (.slice ax2 (i + 1) cx2)) w.heap.size ax2 (F.take (i + 1)) cx2 from HF8.out.kept G8 (.inr (own_ne HF8.out HR8.out (by decide))))
            clear G8
            rw [if_pos (by kernel_rfl)]
            go_simp
            refine hK.out _ _ ⟨HA9.out, HZ9.out, HU9.out⟩ (fun hS => ?_)
            clear hK K hS
            refine wpAnyH_done (by kernel_rfl) ?_ _
            go_wp2
            go_roundw
            all_goals first
              | exact ⟨i + 1, by go_num, by omega, Hid.of ⟨ax2, cx2, HR9.out, HF9.out, HB9.out, HA9.out, HZ9.out, HU9.out⟩⟩
              | (simp [intOf]; omega)
      · have hilz : ¬ (i : Int) < (ns.length : Int) := by omega
        have hin : i = ns.length := by omega
        subst hin
        have HF8 := Hid.of (show RfO wr w.heap.size a7 F c7 by
          have h1 := HF7.out
          rw [List.take_of_length_le (by rw [HFl.out]; exact Nat.le_refl _)] at h1
          exact h1)
        go_wp2_with (with_reducible show wpList _ _ _ ({ dst := _, op := Op.load 51 _, type := _, pos := _, after := _, guard := _ } :: _) _ _; refine Shut.out ?_)
        show wpList _ _ _ _ _ _
        refine wpList_load_mid rfl _ _ rfl Br 0 rfl [.int .i64 st, .int .i64 mi, .slice a7 ns.length c7, .slice a5 L5 c5, .bool false] _ HR7.out.range Tryz.underlying51 rfl (by kernel_rfl) ?_
        simp only [Act.put, List.setIfInBounds_toArray, List.set_cons_zero, List.set_cons_succ]
        refine wpList_store_at rfl 51 _ _ rfl (w.heap.size + 1) HZ7.out [.int .i64 st, .int .i64 mi, .slice a7 ns.length c7, .slice a5 L5 c5, .bool false] rfl rfl rfl (by kernel_rfl) (by kernel_rfl) ?_
        intro w8 hA8 hg8
        have HA8 := Hid.of hA8
        have HU8 := Hid.of (HU7.out.by hg8 (fun g hg => by have := Option.some.inj hg; omega))
        have HF9 := Hid.of (show RfO w8 w.heap.size a7 F c7 from HF8.out.kept hg8 (.inr (own_ne HF8.out HZ7.out (by decide))))
        have HO9 := Hid.of (HO7.out.kept hg8 (.inr (own_ne HO7.out HZ7.out (by decide))))
        clear hA8 hg8
        simp only [Act.put]
        repeat go_step
        refine bodyPost_ret (results_agg1 Tryz.results15 _ _ (w.heap.size + 1) [.int .i64 st, .int .i64 mi, .slice a7 ns.length c7, .slice a5 L5 c5, .bool false] rfl HA8.out.range Tryz.underlying51 rfl (by kernel_rfl)) rfl ?_
        exact ⟨⟨a7, c7, _, rfl, Hid.of ⟨HF9.out, by unfold Ow; rw [HL5.out]; exact HO9.out⟩⟩, HU8.out⟩
  · rw [if_pos (by kernel_rfl)]
    go_simp
    have HR1 := Hid.of (show At _ w1.heap.size 51 z5 from at_new w1.drew 51 z5)
    have HUa := Hid.of ((Up.refl w1.drew).alloc (.cells z5.toArray 51))
    have HBr := Hid.of (show w.heap.size + 1 < w1.heap.size from HS1.out)
    refine hK.out _ _ ⟨hS.1.up HUa.out, hS.2.1.up HUa.out, hS.2.2.trans HUa.out⟩ (fun hS => ?_)
    clear hK K
    refine wpAnyH_ready (rs := [8]) (by kernel_rfl) (by simp) ?_
    refine AllReadyH.cons (o := { dst := some 13, op := Go.Op.call { callee := Go.Callee.value (Go.Operand.func 18), args := #[Go.Operand.tmp 10, Go.Operand.tmp 12], argTypes := #[23, 3] }, type := 23, pos := "law.go:133", after := #[{ on := 5, ground := Go.Ground.data }, { on := 7, ground := Go.Ground.data }], guard := none }) rfl (fun K hK => ?_) AllReadyH.nil
    rw [if_pos (by kernel_rfl)]
    go_simp
    refine (padded_walk (.slice ab nb cb') bd pad (by omega) _ (HB.out.up (HU0.out.drew.trans HUa.out))).mono ?_
    rintro e w2 ⟨v5, rfl, hO, h9⟩
    obtain ⟨a5, c5, rfl⟩ := row_len hO
    have HO2 := Hid.of (show Ow w2 w.heap.size _ (pdd bd pad) from ow_base hO (HU0.out.drew.trans HUa.out).size)
    have HU2 := Hid.of ((HU0.out.drew.trans HUa.out).trans h9)
    have HA2 := Hid.of (((HA0.out.up (Up.refl _).drew).up HUa.out).up h9)
    have HZ2 := Hid.of (((HZ0.out.up (Up.refl _).drew).up HUa.out).up h9)
    have HR3 := Hid.of (HR1.out.up h9)
    clear h9 hO hS
    obtain ⟨L5, hL5⟩ : ∃ L5, (pdd bd pad).length = L5 := ⟨_, rfl⟩
    have HL5 := Hid.of hL5
    rw [hL5] at HO2 ⊢
    clear hL5
    dsimp only
    refine hK.out _ _ ⟨HA2.out, HZ2.out, HU2.out⟩ (fun hS => ?_)
    clear hK K
    have HO3 := Hid.of HO2.out
    clear HO2
    refine wpAnyH_take (i := 9) (oi := { dst := some 14, op := Go.Op.build 51 #[(0, Go.Operand.tmp 6), (1, Go.Operand.tmp 8), (3, Go.Operand.tmp 13)], type := 51, pos := "law.go:133", after := #[{ on := 1, ground := Go.Ground.data }, { on := 3, ground := Go.Ground.data }, { on := 8, ground := Go.Ground.data }], guard := none }) (v := .agg #[.int .i64 st, .int .i64 mi, .slice none 0 0, .slice a5 L5 c5, .bool false]) rfl (by kernel_rfl) (by kernel_rfl) (by kernel_rfl) (fun _ _ _ h => h) (Or.inl ⟨by kernel_rfl, ?_⟩) hS ?_
    · intro w5 hSw
      clear hSw hS
      go_simp
    simp only [Act.put, List.setIfInBounds_toArray, List.set_cons_zero, List.set_cons_succ]
    refine wpAnyH_ready (rs := [11]) (by kernel_rfl) (by simp) ?_
    refine AllReadyH.cons (o := { dst := none, op := Go.Op.store 51 (Go.Operand.tmp 3) (Go.Operand.tmp 14), type := 0, pos := "law.go:133", after := #[{ on := 10, ground := Go.Ground.data }, { on := 9, ground := Go.Ground.data }, { on := 8, ground := Go.Ground.chain }, { on := 0, ground := Go.Ground.phase }, { on := 1, ground := Go.Ground.phase }, { on := 2, ground := Go.Ground.phase }, { on := 3, ground := Go.Ground.phase }, { on := 4, ground := Go.Ground.phase }, { on := 5, ground := Go.Ground.phase }, { on := 6, ground := Go.Ground.phase }, { on := 7, ground := Go.Ground.phase }, { on := 8, ground := Go.Ground.phase }, { on := 9, ground := Go.Ground.phase }, { on := 10, ground := Go.Ground.phase }], guard := none }) rfl (fun K hK => oper_of_list ?_) AllReadyH.nil
    refine wpList_store_at rfl 51 _ _ rfl (w1.heap.size) HR3.out ([.int .i64 st, .int .i64 mi, .slice none 0 0, .slice a5 L5 c5, .bool false]) rfl rfl rfl (by kernel_rfl) (by kernel_rfl) ?_
    intro w4 hA4 hg4
    have HR4 := Hid.of hA4
    have HU4 := Hid.of (hS.2.2.by hg4 (fun g hg => by have := Option.some.inj hg; have := HBr.out; omega))
    have HA4 := Hid.of (hS.1.by hg4 (fun e => by have := Option.some.inj e; have := HBr.out; omega))
    have HZ4 := Hid.of (hS.2.1.by hg4 (fun e => by have := Option.some.inj e; have := HBr.out; omega))
    have HO4 := Hid.of (HO3.out.kept hg4 (.inr (own_ne HO3.out HR3.out (by decide))))
    clear hA4 hg4 HR3 HO3
    refine hK.out _ _ ⟨HA4.out, HZ4.out, HU4.out⟩ (fun hS => ?_)
    clear hK K hS
    refine wpAnyH_done (by kernel_rfl) ?_ _
    obtain ⟨Br, hBr⟩ : ∃ Br, w1.heap.size = Br := ⟨_, rfl⟩
    rw [hBr] at HR4 HBr ⊢
    clear hBr
    go_wp2
    go_loopw [4] (fun v4 wr => ∃ i : Nat, v4 = .int .i64 (i : Int) ∧ i ≤ ns.length ∧ Hid (∃ a7 c7, At wr Br 51 [.int .i64 st, .int .i64 mi, .slice a7 i c7, .slice a5 L5 c5, .bool false] ∧ RfO wr w.heap.size a7 (F.take i) c7 ∧ wr.ownsRow w.heap.size 5 1 (.slice a5 L5 c5) L5 (cb (pdd bd pad)) ∧ At wr w.heap.size 27 [.int .i64 st, .int .i64 mi, .slice an ns.length cn, .slice av us.length cv, .slice ab nb cb', .int .i64 pad] ∧ At wr (w.heap.size + 1) 51 z5 ∧ Up w wr)) (fun v4 _ => ns.length - (intOf v4).toNat)
    case atStart => exact ⟨0, rfl, Nat.zero_le _, Hid.of ⟨none, 0, HR4.out, World.ownsRow_nil _ _ _ _, (by have h := HO4.out; rw [HL5.out] at h; exact h), HA4.out, HZ4.out, HU4.out⟩⟩
    case round =>
      obtain ⟨i, rfl, hi, hQ⟩ := hrel
      obtain ⟨a7, c7, q1, q2, q3, q4, q5, q6⟩ := hQ.out
      have HR7 := Hid.of q1
      have HF7 := Hid.of q2
      have HO7 := Hid.of q3
      have HA7 := Hid.of q4
      have HZ7 := Hid.of q5
      have HU7 := Hid.of q6
      have h3 := q4.cell (i := 2) rfl
      clear hQ q1 q2 q3 q4 q5 q6
      by_cases hil : i < ns.length
      · have hilz : (i : Int) < (ns.length : Int) := by omega
        have hif : i < F.length := by rw [HFl.out]; exact hil
        obtain ⟨b, off, han, k1⟩ := HN.out.cells i hil
        have HAn := Hid.of han
        clear han
        have HT := Hid.of (List.take_succ_eq_append_getElem hif)
        have HLn := Hid.of (show (F.take i).length = i by rw [List.length_take]; omega)
        have hfg := HFg.out i hil hif
        obtain ⟨f, hf⟩ : ∃ f, F[i] = f := ⟨_, rfl⟩
        rw [hf] at HT hfg
        have HFv := Hid.of (show vat us i = f.v by rw [hfg])
        have HK1 := Hid.of (show w.cell? ⟨b, off + i, none⟩ = some (.string f.n) by rw [k1, hfg])
        clear hf hfg k1
        have HRd := Hid.of (HR7.out.up (Up.refl wr).drew)
        have HFd := Hid.of (ow_up HF7.out (Up.refl wr).drew)
        have HFd' := Hid.of (show wr.drew.ownsRow w.heap.size 85 2 (.slice a7 i c7) i (fdc (F.take i)) by have := HFd.out; rw [HLn.out] at this; exact this)
        have HOd := Hid.of (ow_up HO7.out (Up.refl wr).drew)
        have HAd := Hid.of (HA7.out.up (Up.refl wr).drew)
        have HZd := Hid.of (HZ7.out.up (Up.refl wr).drew)
        go_wp2
        refine wp_region_held_drew (S := fun w2 => At w2 w.heap.size 27 [.int .i64 st, .int .i64 mi, .slice an ns.length cn, .slice av us.length cv, .slice ab nb cb', .int .i64 pad] ∧ At w2 (w.heap.size + 1) 51 z5 ∧ Up w w2) (by kernel_rfl) ⟨HA7.out.up (Up.refl _).drew, HZ7.out.up (Up.refl _).drew, HU7.out.drew⟩ (fun hS => ?_)
        refine wpAnyH_take (i := 0) (oi := { dst := some 22, op := Go.Op.fieldAddr 51 (Go.Operand.tmp 3) 2, type := 0, pos := "law.go:135", after := #[], guard := none }) (v := .pointer (some ⟨Br, 2, none⟩)) rfl (by kernel_rfl) (by kernel_rfl) (by kernel_rfl) (fun _ _ _ h => h) (Or.inl ⟨by kernel_rfl, ?_⟩) hS ?_
        · intro w5 hSw
          clear hSw hS
          go_simp
        simp only [Act.put, List.setIfInBounds_toArray, List.set_cons_zero, List.set_cons_succ]
        refine wpAnyH_take (i := 2) (oi := { dst := some 24, op := Go.Op.fieldAddr 27 (Go.Operand.tmp 1) 2, type := 0, pos := "law.go:135", after := #[], guard := none }) (v := .pointer (some ⟨w.heap.size, 2, none⟩)) rfl (by kernel_rfl) (by kernel_rfl) (by kernel_rfl) (fun _ _ _ h => h) (Or.inl ⟨by kernel_rfl, ?_⟩) hS ?_
        · intro w5 hSw
          clear hSw hS
          go_simp
        simp only [Act.put, List.setIfInBounds_toArray, List.set_cons_zero, List.set_cons_succ]
        refine wpAnyH_take (i := 3) (oi := { dst := some 25, op := Go.Op.load 22 (Go.Operand.tmp 24), type := 22, pos := "law.go:135", after := #[{ on := 2, ground := Go.Ground.data }], guard := none }) (v := .slice (some ⟨b, off, none⟩) ns.length cn) rfl (by kernel_rfl) (by kernel_rfl) (by kernel_rfl) (fun _ _ _ h => h) (Or.inl ⟨by kernel_rfl, ?_⟩) hS ?_
        · intro w5 hSw
          have h0 := hSw.1.cell (i := 2) rfl
          rw [HAn.out] at h0
          clear hSw hS
          go_simp
        simp only [Act.put, List.setIfInBounds_toArray, List.set_cons_zero, List.set_cons_succ]
        refine wpAnyH_take (i := 4) (oi := { dst := some 26, op := Go.Op.move (Go.Operand.tmp 4), type := 3, pos := "law.go:135", after := #[], guard := none }) (v := .int .i64 (i : Int)) rfl (by kernel_rfl) (by kernel_rfl) (by kernel_rfl) (fun _ _ _ h => h) (Or.inl ⟨by kernel_rfl, ?_⟩) hS ?_
        · intro w5 hSw
          clear hSw hS
          go_simp
        simp only [Act.put, List.setIfInBounds_toArray, List.set_cons_zero, List.set_cons_succ]
        refine wpAnyH_take (i := 5) (oi := { dst := some 27, op := Go.Op.indexAddr 22 (Go.Operand.tmp 25) (Go.Operand.tmp 26), type := 0, pos := "law.go:135", after := #[{ on := 3, ground := Go.Ground.data }, { on := 4, ground := Go.Ground.data }], guard := none }) (v := .pointer (some ⟨b, off + i, none⟩)) rfl (by kernel_rfl) (by kernel_rfl) (by kernel_rfl) (fun _ _ _ h => h) (Or.inl ⟨by kernel_rfl, ?_⟩) hS ?_
        · intro w5 hSw
          clear hSw hS
          go_simp
        simp only [Act.put, List.setIfInBounds_toArray, List.set_cons_zero, List.set_cons_succ]
        refine wpAnyH_take (i := 6) (oi := { dst := some 28, op := Go.Op.load 9 (Go.Operand.tmp 27), type := 9, pos := "law.go:135", after := #[{ on := 5, ground := Go.Ground.data }], guard := none }) (v := .string f.n) rfl (by kernel_rfl) (by kernel_rfl) (by kernel_rfl) (fun _ _ _ h => h) (Or.inl ⟨by kernel_rfl, ?_⟩) hS ?_
        · intro w5 hSw
          have h0 := hSw.2.2.cell HK1.out
          clear hSw hS
          go_simp
        simp only [Act.put, List.setIfInBounds_toArray, List.set_cons_zero, List.set_cons_succ]
        refine wpAnyH_take (i := 7) (oi := { dst := some 29, op := Go.Op.fieldAddr 27 (Go.Operand.tmp 1) 3, type := 0, pos := "law.go:135", after := #[], guard := none }) (v := .pointer (some ⟨w.heap.size, 3, none⟩)) rfl (by kernel_rfl) (by kernel_rfl) (by kernel_rfl) (fun _ _ _ h => h) (Or.inl ⟨by kernel_rfl, ?_⟩) hS ?_
        · intro w5 hSw
          clear hSw hS
          go_simp
        simp only [Act.put, List.setIfInBounds_toArray, List.set_cons_zero, List.set_cons_succ]
        refine wpAnyH_take (i := 8) (oi := { dst := some 30, op := Go.Op.load 22 (Go.Operand.tmp 29), type := 22, pos := "law.go:135", after := #[{ on := 7, ground := Go.Ground.data }], guard := none }) (v := .slice av us.length cv) rfl (by kernel_rfl) (by kernel_rfl) (by kernel_rfl) (fun _ _ _ h => h) (Or.inl ⟨by kernel_rfl, ?_⟩) hS ?_
        · intro w5 hSw
          have h0 := hSw.1.cell (i := 3) rfl
          clear hSw hS
          go_simp
        simp only [Act.put, List.setIfInBounds_toArray, List.set_cons_zero, List.set_cons_succ]
        refine wpAnyH_take (i := 9) (oi := { dst := some 31, op := Go.Op.move (Go.Operand.tmp 4), type := 3, pos := "law.go:135", after := #[], guard := none }) (v := .int .i64 (i : Int)) rfl (by kernel_rfl) (by kernel_rfl) (by kernel_rfl) (fun _ _ _ h => h) (Or.inl ⟨by kernel_rfl, ?_⟩) hS ?_
        · intro w5 hSw
          clear hSw hS
          go_simp
        simp only [Act.put, List.setIfInBounds_toArray, List.set_cons_zero, List.set_cons_succ]
        refine wpAnyH_ready (rs := [1, 10]) (by kernel_rfl) (by simp) ?_
        refine AllReadyH.cons (o := { dst := some 23, op := Go.Op.load 42 (Go.Operand.tmp 22), type := 42, pos := "law.go:135", after := #[{ on := 0, ground := Go.Ground.data }], guard := none }) rfl (fun K hK => ?_) (AllReadyH.cons (o := { dst := some 32, op := Go.Op.call { callee := Go.Callee.value (Go.Operand.func 39), args := #[Go.Operand.tmp 30, Go.Operand.tmp 31], argTypes := #[22, 3] }, type := 9, pos := "law.go:135", after := #[{ on := 8, ground := Go.Ground.data }, { on := 9, ground := Go.Ground.data }], guard := none }) rfl (fun K hK => ?_) AllReadyH.nil)
        · rw [if_pos (by kernel_rfl)]
          have k3 := HRd.out.cell (i := 2) rfl
          go_simp
          refine hK.out _ _ hS (fun hS => ?_)
          clear hK K k3
          refine wpAnyH_ready (rs := [10]) (by kernel_rfl) (by simp) ?_
          refine AllReadyH.cons (o := { dst := some 32, op := Go.Op.call { callee := Go.Callee.value (Go.Operand.func 39), args := #[Go.Operand.tmp 30, Go.Operand.tmp 31], argTypes := #[22, 3] }, type := 9, pos := "law.go:135", after := #[{ on := 8, ground := Go.Ground.data }, { on := 9, ground := Go.Ground.data }], guard := none }) rfl (fun K hK => ?_) AllReadyH.nil
          rw [if_pos (by kernel_rfl)]
          go_simp
          refine (value_walk av us cv i wr.drew (HV.out.up HU7.out.drew)).mono ?_
          rintro e w5 ⟨rfl, h9⟩
          obtain rfl := h9.symm
          clear h9
          rw [HFv.out]
          dsimp only
          refine hK.out _ _ hS (fun hS => ?_)
          clear hK K
          refine wpAnyH_take (i := 11) (oi := { dst := some 33, op := Go.Op.build 85 #[(0, Go.Operand.tmp 28), (1, Go.Operand.tmp 32)], type := 85, pos := "law.go:135", after := #[{ on := 6, ground := Go.Ground.data }, { on := 10, ground := Go.Ground.data }], guard := none }) (v := .agg #[.string f.n, .string f.v]) rfl (by kernel_rfl) (by kernel_rfl) (by kernel_rfl) (fun _ _ _ h => h) (Or.inl ⟨by kernel_rfl, ?_⟩) hS ?_
          · intro w5 hSw
            clear hSw hS
            go_simp
          simp only [Act.put, List.setIfInBounds_toArray, List.set_cons_zero, List.set_cons_succ]
          refine wpAnyH_ready (rs := [12]) (by kernel_rfl) (by simp) ?_
          refine AllReadyH.cons (o := { dst := some 34, op := Go.Op.buildSlice 42 1 #[(0, Go.Operand.tmp 33)], type := 42, pos := "law.go:135", after := #[{ on := 11, ground := Go.Ground.data }], guard := none }) rfl (fun K hK => ?_) AllReadyH.nil
          rw [if_pos (by kernel_rfl)]
          go_simp
          refine hK.out _ _ ⟨hS.1.up ((Up.refl _).alloc _), hS.2.1.up ((Up.refl _).alloc _), hS.2.2.alloc _⟩ (fun hS => ?_)
          clear hK K
          refine wpAnyH_ready (rs := [13]) (by kernel_rfl) (by simp) ?_
          refine AllReadyH.cons (o := { dst := some 35, op := Go.Op.call { callee := Go.Callee.builtin Go.Builtin.append, args := #[Go.Operand.tmp 23, Go.Operand.tmp 34], argTypes := #[42, 42] }, type := 42, pos := "law.go:135", after := #[{ on := 1, ground := Go.Ground.data }, { on := 12, ground := Go.Ground.data }, { on := 10, ground := Go.Ground.chain }], guard := none }) rfl (fun K hK => oper_of_list ?_) AllReadyH.nil
          refine wpList_appRf (w := wr.drew) (N := w.heap.size) rfl _ _ rfl a7 c7 (F.take i) f HLn.out rfl rfl HFd.out HU7.out.drew.size (by omega) ?_
          intro ax2 cx2 w7 o7 u7 g7
          have HU8 := Hid.of (u7 w HU7.out.drew (Nat.le_refl _))
          have HR8 := Hid.of (HRd.out.by g7 (own_ne HFd'.out HRd.out (by decide)))
          have HA8 := Hid.of (HAd.out.by g7 (own_ne HFd'.out HAd.out (by decide)))
          have HZ8 := Hid.of (HZd.out.by g7 (own_ne HFd'.out HZd.out (by decide)))
          have HB8 := Hid.of (HOd.out.kept g7 (own_off HOd.out HFd'.out (by decide)))
          have HF8 := Hid.of (show RfO w7 w.heap.size ax2 (F.take (i + 1)) cx2 by rw [HT.out]; exact o7)
          clear o7 u7 g7
          refine hK.out _ _ ⟨HA8.out, HZ8.out, HU8.out⟩ (fun hS => ?_)
          clear hK K
          simp only [Act.put, List.setIfInBounds_toArray, List.set_cons_zero, List.set_cons_succ]
          refine wpAnyH_take (i := 14) (oi := { dst := some 36, op := Go.Op.fieldAddr 51 (Go.Operand.tmp 3) 2, type := 0, pos := "law.go:135", after := #[{ on := 0, ground := Go.Ground.phase }, { on := 1, ground := Go.Ground.phase }, { on := 2, ground := Go.Ground.phase }, { on := 3, ground := Go.Ground.phase }, { on := 4, ground := Go.Ground.phase }, { on := 5, ground := Go.Ground.phase }, { on := 6, ground := Go.Ground.phase }, { on := 7, ground := Go.Ground.phase }, { on := 8, ground := Go.Ground.phase }, { on := 9, ground := Go.Ground.phase }, { on := 10, ground := Go.Ground.phase }, { on := 11, ground := Go.Ground.phase }, { on := 12, ground := Go.Ground.phase }, { on := 13, ground := Go.Ground.phase }], guard := none }) (v := .pointer (some ⟨Br, 2, none⟩)) rfl (by kernel_rfl) (by kernel_rfl) (by kernel_rfl) (fun _ _ _ h => h) (Or.inl ⟨by kernel_rfl, ?_⟩) hS ?_
          · intro w5 hSw
            clear hSw hS
            go_simp
          simp only [Act.put, List.setIfInBounds_toArray, List.set_cons_zero, List.set_cons_succ]
          refine wpAnyH_ready (rs := [15]) (by kernel_rfl) (by simp) ?_
          refine AllReadyH.cons (o := { dst := none, op := Go.Op.store 42 (Go.Operand.tmp 36) (Go.Operand.tmp 35), type := 0, pos := "law.go:135", after := #[{ on := 14, ground := Go.Ground.data }, { on := 13, ground := Go.Ground.data }, { on := 13, ground := Go.Ground.chain }, { on := 0, ground := Go.Ground.phase }, { on := 1, ground := Go.Ground.phase }, { on := 2, ground := Go.Ground.phase }, { on := 3, ground := Go.Ground.phase }, { on := 4, ground := Go.Ground.phase }, { on := 5, ground := Go.Ground.phase }, { on := 6, ground := Go.Ground.phase }, { on := 7, ground := Go.Ground.phase }, { on := 8, ground := Go.Ground.phase }, { on := 9, ground := Go.Ground.phase }, { on := 10, ground := Go.Ground.phase }, { on := 11, ground := Go.Ground.phase }, { on := 12, ground := Go.Ground.phase }, { on := 13, ground := Go.Ground.phase }], guard := none }) rfl (fun K hK => ?_) AllReadyH.nil
          have k3 := HR8.out.cell (i := 2) rfl
          have f3 := HR8.out.thaw 2
          have G8 := grown_set1 w7 Br 2 (.slice ax2 (i + 1) cx2)
          have HR9 := Hid.of (HR8.out.set 2 (.slice ax2 (i + 1) cx2))
          have HU9 := Hid.of (HU8.out.by G8 (fun g hg => by have := Option.some.inj hg; have := HBr.out; omega))
          have HA9 := Hid.of (HA8.out.by G8 (fun e => by have := Option.some.inj e; have := HBr.out; omega))
          have HZ9 := Hid.of (HZ8.out.by G8 (fun e => by have := Option.some.inj e; have := HBr.out; omega))
          have HB9 := Hid.of (HB8.out.kept G8 (.inr (own_ne HB8.out HR8.out (by decide))))
          have HF9 := Hid.of (show RfO (w7.setCell ⟨Br, 2, none⟩ (.slice ax2 (i + 1) cx2)) w.heap.size ax2 (F.take (i + 1)) cx2 from HF8.out.kept G8 (.inr (own_ne HF8.out HR8.out (by decide))))
          clear G8
          rw [if_pos (by kernel_rfl)]
          go_simp
          refine hK.out _ _ ⟨HA9.out, HZ9.out, HU9.out⟩ (fun hS => ?_)
          clear hK K hS
          refine wpAnyH_done (by kernel_rfl) ?_ _
          go_wp2
          go_roundw
          all_goals first
            | exact ⟨i + 1, by go_num, by omega, Hid.of ⟨ax2, cx2, HR9.out, HF9.out, HB9.out, HA9.out, HZ9.out, HU9.out⟩⟩
            | (simp [intOf]; omega)
        · rw [if_pos (by kernel_rfl)]
          go_simp
          refine (value_walk av us cv i wr.drew (HV.out.up HU7.out.drew)).mono ?_
          rintro e w5 ⟨rfl, h9⟩
          obtain rfl := h9.symm
          clear h9
          rw [HFv.out]
          dsimp only
          refine hK.out _ _ hS (fun hS => ?_)
          clear hK K
          refine wpAnyH_take (i := 11) (oi := { dst := some 33, op := Go.Op.build 85 #[(0, Go.Operand.tmp 28), (1, Go.Operand.tmp 32)], type := 85, pos := "law.go:135", after := #[{ on := 6, ground := Go.Ground.data }, { on := 10, ground := Go.Ground.data }], guard := none }) (v := .agg #[.string f.n, .string f.v]) rfl (by kernel_rfl) (by kernel_rfl) (by kernel_rfl) (fun _ _ _ h => h) (Or.inl ⟨by kernel_rfl, ?_⟩) hS ?_
          · intro w5 hSw
            clear hSw hS
            go_simp
          simp only [Act.put, List.setIfInBounds_toArray, List.set_cons_zero, List.set_cons_succ]
          refine wpAnyH_ready (rs := [1, 12]) (by kernel_rfl) (by simp) ?_
          refine AllReadyH.cons (o := { dst := some 23, op := Go.Op.load 42 (Go.Operand.tmp 22), type := 42, pos := "law.go:135", after := #[{ on := 0, ground := Go.Ground.data }], guard := none }) rfl (fun K hK => ?_) (AllReadyH.cons (o := { dst := some 34, op := Go.Op.buildSlice 42 1 #[(0, Go.Operand.tmp 33)], type := 42, pos := "law.go:135", after := #[{ on := 11, ground := Go.Ground.data }], guard := none }) rfl (fun K hK => ?_) AllReadyH.nil)
          · rw [if_pos (by kernel_rfl)]
            have k3 := HRd.out.cell (i := 2) rfl
            go_simp
            refine hK.out _ _ hS (fun hS => ?_)
            clear hK K k3
            refine wpAnyH_ready (rs := [12]) (by kernel_rfl) (by simp) ?_
            refine AllReadyH.cons (o := { dst := some 34, op := Go.Op.buildSlice 42 1 #[(0, Go.Operand.tmp 33)], type := 42, pos := "law.go:135", after := #[{ on := 11, ground := Go.Ground.data }], guard := none }) rfl (fun K hK => ?_) AllReadyH.nil
            rw [if_pos (by kernel_rfl)]
            go_simp
            refine hK.out _ _ ⟨hS.1.up ((Up.refl _).alloc _), hS.2.1.up ((Up.refl _).alloc _), hS.2.2.alloc _⟩ (fun hS => ?_)
            clear hK K
            refine wpAnyH_ready (rs := [13]) (by kernel_rfl) (by simp) ?_
            refine AllReadyH.cons (o := { dst := some 35, op := Go.Op.call { callee := Go.Callee.builtin Go.Builtin.append, args := #[Go.Operand.tmp 23, Go.Operand.tmp 34], argTypes := #[42, 42] }, type := 42, pos := "law.go:135", after := #[{ on := 1, ground := Go.Ground.data }, { on := 12, ground := Go.Ground.data }, { on := 10, ground := Go.Ground.chain }], guard := none }) rfl (fun K hK => oper_of_list ?_) AllReadyH.nil
            refine wpList_appRf (w := wr.drew) (N := w.heap.size) rfl _ _ rfl a7 c7 (F.take i) f HLn.out rfl rfl HFd.out HU7.out.drew.size (by omega) ?_
            intro ax2 cx2 w7 o7 u7 g7
            have HU8 := Hid.of (u7 w HU7.out.drew (Nat.le_refl _))
            have HR8 := Hid.of (HRd.out.by g7 (own_ne HFd'.out HRd.out (by decide)))
            have HA8 := Hid.of (HAd.out.by g7 (own_ne HFd'.out HAd.out (by decide)))
            have HZ8 := Hid.of (HZd.out.by g7 (own_ne HFd'.out HZd.out (by decide)))
            have HB8 := Hid.of (HOd.out.kept g7 (own_off HOd.out HFd'.out (by decide)))
            have HF8 := Hid.of (show RfO w7 w.heap.size ax2 (F.take (i + 1)) cx2 by rw [HT.out]; exact o7)
            clear o7 u7 g7
            refine hK.out _ _ ⟨HA8.out, HZ8.out, HU8.out⟩ (fun hS => ?_)
            clear hK K
            simp only [Act.put, List.setIfInBounds_toArray, List.set_cons_zero, List.set_cons_succ]
            refine wpAnyH_take (i := 14) (oi := { dst := some 36, op := Go.Op.fieldAddr 51 (Go.Operand.tmp 3) 2, type := 0, pos := "law.go:135", after := #[{ on := 0, ground := Go.Ground.phase }, { on := 1, ground := Go.Ground.phase }, { on := 2, ground := Go.Ground.phase }, { on := 3, ground := Go.Ground.phase }, { on := 4, ground := Go.Ground.phase }, { on := 5, ground := Go.Ground.phase }, { on := 6, ground := Go.Ground.phase }, { on := 7, ground := Go.Ground.phase }, { on := 8, ground := Go.Ground.phase }, { on := 9, ground := Go.Ground.phase }, { on := 10, ground := Go.Ground.phase }, { on := 11, ground := Go.Ground.phase }, { on := 12, ground := Go.Ground.phase }, { on := 13, ground := Go.Ground.phase }], guard := none }) (v := .pointer (some ⟨Br, 2, none⟩)) rfl (by kernel_rfl) (by kernel_rfl) (by kernel_rfl) (fun _ _ _ h => h) (Or.inl ⟨by kernel_rfl, ?_⟩) hS ?_
            · intro w5 hSw
              clear hSw hS
              go_simp
            simp only [Act.put, List.setIfInBounds_toArray, List.set_cons_zero, List.set_cons_succ]
            refine wpAnyH_ready (rs := [15]) (by kernel_rfl) (by simp) ?_
            refine AllReadyH.cons (o := { dst := none, op := Go.Op.store 42 (Go.Operand.tmp 36) (Go.Operand.tmp 35), type := 0, pos := "law.go:135", after := #[{ on := 14, ground := Go.Ground.data }, { on := 13, ground := Go.Ground.data }, { on := 13, ground := Go.Ground.chain }, { on := 0, ground := Go.Ground.phase }, { on := 1, ground := Go.Ground.phase }, { on := 2, ground := Go.Ground.phase }, { on := 3, ground := Go.Ground.phase }, { on := 4, ground := Go.Ground.phase }, { on := 5, ground := Go.Ground.phase }, { on := 6, ground := Go.Ground.phase }, { on := 7, ground := Go.Ground.phase }, { on := 8, ground := Go.Ground.phase }, { on := 9, ground := Go.Ground.phase }, { on := 10, ground := Go.Ground.phase }, { on := 11, ground := Go.Ground.phase }, { on := 12, ground := Go.Ground.phase }, { on := 13, ground := Go.Ground.phase }], guard := none }) rfl (fun K hK => ?_) AllReadyH.nil
            have k3 := HR8.out.cell (i := 2) rfl
            have f3 := HR8.out.thaw 2
            have G8 := grown_set1 w7 Br 2 (.slice ax2 (i + 1) cx2)
            have HR9 := Hid.of (HR8.out.set 2 (.slice ax2 (i + 1) cx2))
            have HU9 := Hid.of (HU8.out.by G8 (fun g hg => by have := Option.some.inj hg; have := HBr.out; omega))
            have HA9 := Hid.of (HA8.out.by G8 (fun e => by have := Option.some.inj e; have := HBr.out; omega))
            have HZ9 := Hid.of (HZ8.out.by G8 (fun e => by have := Option.some.inj e; have := HBr.out; omega))
            have HB9 := Hid.of (HB8.out.kept G8 (.inr (own_ne HB8.out HR8.out (by decide))))
            have HF9 := Hid.of (show RfO (w7.setCell ⟨Br, 2, none⟩ (.slice ax2 (i + 1) cx2)) w.heap.size ax2 (F.take (i + 1)) cx2 from HF8.out.kept G8 (.inr (own_ne HF8.out HR8.out (by decide))))
            clear G8
            rw [if_pos (by kernel_rfl)]
            go_simp
            refine hK.out _ _ ⟨HA9.out, HZ9.out, HU9.out⟩ (fun hS => ?_)
            clear hK K hS
            refine wpAnyH_done (by kernel_rfl) ?_ _
            go_wp2
            go_roundw
            all_goals first
              | exact ⟨i + 1, by go_num, by omega, Hid.of ⟨ax2, cx2, HR9.out, HF9.out, HB9.out, HA9.out, HZ9.out, HU9.out⟩⟩
              | (simp [intOf]; omega)
          · rw [if_pos (by kernel_rfl)]
            go_simp
            refine hK.out _ _ ⟨hS.1.up ((Up.refl _).alloc _), hS.2.1.up ((Up.refl _).alloc _), hS.2.2.alloc _⟩ (fun hS => ?_)
            clear hK K
            refine wpAnyH_ready (rs := [1]) (by kernel_rfl) (by simp) ?_
            refine AllReadyH.cons (o := { dst := some 23, op := Go.Op.load 42 (Go.Operand.tmp 22), type := 42, pos := "law.go:135", after := #[{ on := 0, ground := Go.Ground.data }], guard := none }) rfl (fun K hK => ?_) AllReadyH.nil
            rw [if_pos (by kernel_rfl)]
            have k3 := ((HR7.out.up ((Up.refl wr).alloc (.cells #[.string f.n, .string f.v] 85))).up (Up.refl _).drew).cell (i := 2) rfl
            go_simp
            refine hK.out _ _ hS (fun hS => ?_)
            clear hK K k3
            refine wpAnyH_ready (rs := [13]) (by kernel_rfl) (by simp) ?_
            refine AllReadyH.cons (o := { dst := some 35, op := Go.Op.call { callee := Go.Callee.builtin Go.Builtin.append, args := #[Go.Operand.tmp 23, Go.Operand.tmp 34], argTypes := #[42, 42] }, type := 42, pos := "law.go:135", after := #[{ on := 1, ground := Go.Ground.data }, { on := 12, ground := Go.Ground.data }, { on := 10, ground := Go.Ground.chain }], guard := none }) rfl (fun K hK => oper_of_list ?_) AllReadyH.nil
            refine wpList_appRf (w := wr.drew) (N := w.heap.size) rfl _ _ rfl a7 c7 (F.take i) f HLn.out rfl rfl HFd.out HU7.out.drew.size (by omega) ?_
            intro ax2 cx2 w7 o7 u7 g7
            have HU8 := Hid.of (u7 w HU7.out.drew (Nat.le_refl _))
            have HR8 := Hid.of (HRd.out.by g7 (own_ne HFd'.out HRd.out (by decide)))
            have HA8 := Hid.of (HAd.out.by g7 (own_ne HFd'.out HAd.out (by decide)))
            have HZ8 := Hid.of (HZd.out.by g7 (own_ne HFd'.out HZd.out (by decide)))
            have HB8 := Hid.of (HOd.out.kept g7 (own_off HOd.out HFd'.out (by decide)))
            have HF8 := Hid.of (show RfO w7 w.heap.size ax2 (F.take (i + 1)) cx2 by rw [HT.out]; exact o7)
            clear o7 u7 g7
            refine hK.out _ _ ⟨HA8.out, HZ8.out, HU8.out⟩ (fun hS => ?_)
            clear hK K
            simp only [Act.put, List.setIfInBounds_toArray, List.set_cons_zero, List.set_cons_succ]
            refine wpAnyH_take (i := 14) (oi := { dst := some 36, op := Go.Op.fieldAddr 51 (Go.Operand.tmp 3) 2, type := 0, pos := "law.go:135", after := #[{ on := 0, ground := Go.Ground.phase }, { on := 1, ground := Go.Ground.phase }, { on := 2, ground := Go.Ground.phase }, { on := 3, ground := Go.Ground.phase }, { on := 4, ground := Go.Ground.phase }, { on := 5, ground := Go.Ground.phase }, { on := 6, ground := Go.Ground.phase }, { on := 7, ground := Go.Ground.phase }, { on := 8, ground := Go.Ground.phase }, { on := 9, ground := Go.Ground.phase }, { on := 10, ground := Go.Ground.phase }, { on := 11, ground := Go.Ground.phase }, { on := 12, ground := Go.Ground.phase }, { on := 13, ground := Go.Ground.phase }], guard := none }) (v := .pointer (some ⟨Br, 2, none⟩)) rfl (by kernel_rfl) (by kernel_rfl) (by kernel_rfl) (fun _ _ _ h => h) (Or.inl ⟨by kernel_rfl, ?_⟩) hS ?_
            · intro w5 hSw
              clear hSw hS
              go_simp
            simp only [Act.put, List.setIfInBounds_toArray, List.set_cons_zero, List.set_cons_succ]
            refine wpAnyH_ready (rs := [15]) (by kernel_rfl) (by simp) ?_
            refine AllReadyH.cons (o := { dst := none, op := Go.Op.store 42 (Go.Operand.tmp 36) (Go.Operand.tmp 35), type := 0, pos := "law.go:135", after := #[{ on := 14, ground := Go.Ground.data }, { on := 13, ground := Go.Ground.data }, { on := 13, ground := Go.Ground.chain }, { on := 0, ground := Go.Ground.phase }, { on := 1, ground := Go.Ground.phase }, { on := 2, ground := Go.Ground.phase }, { on := 3, ground := Go.Ground.phase }, { on := 4, ground := Go.Ground.phase }, { on := 5, ground := Go.Ground.phase }, { on := 6, ground := Go.Ground.phase }, { on := 7, ground := Go.Ground.phase }, { on := 8, ground := Go.Ground.phase }, { on := 9, ground := Go.Ground.phase }, { on := 10, ground := Go.Ground.phase }, { on := 11, ground := Go.Ground.phase }, { on := 12, ground := Go.Ground.phase }, { on := 13, ground := Go.Ground.phase }], guard := none }) rfl (fun K hK => ?_) AllReadyH.nil
            have k3 := HR8.out.cell (i := 2) rfl
            have f3 := HR8.out.thaw 2
            have G8 := grown_set1 w7 Br 2 (.slice ax2 (i + 1) cx2)
            have HR9 := Hid.of (HR8.out.set 2 (.slice ax2 (i + 1) cx2))
            have HU9 := Hid.of (HU8.out.by G8 (fun g hg => by have := Option.some.inj hg; have := HBr.out; omega))
            have HA9 := Hid.of (HA8.out.by G8 (fun e => by have := Option.some.inj e; have := HBr.out; omega))
            have HZ9 := Hid.of (HZ8.out.by G8 (fun e => by have := Option.some.inj e; have := HBr.out; omega))
            have HB9 := Hid.of (HB8.out.kept G8 (.inr (own_ne HB8.out HR8.out (by decide))))
            have HF9 := Hid.of (show RfO (w7.setCell ⟨Br, 2, none⟩ (.slice ax2 (i + 1) cx2)) w.heap.size ax2 (F.take (i + 1)) cx2 from HF8.out.kept G8 (.inr (own_ne HF8.out HR8.out (by decide))))
            clear G8
            rw [if_pos (by kernel_rfl)]
            go_simp
            refine hK.out _ _ ⟨HA9.out, HZ9.out, HU9.out⟩ (fun hS => ?_)
            clear hK K hS
            refine wpAnyH_done (by kernel_rfl) ?_ _
            go_wp2
            go_roundw
            all_goals first
              | exact ⟨i + 1, by go_num, by omega, Hid.of ⟨ax2, cx2, HR9.out, HF9.out, HB9.out, HA9.out, HZ9.out, HU9.out⟩⟩
              | (simp [intOf]; omega)
      · have hilz : ¬ (i : Int) < (ns.length : Int) := by omega
        have hin : i = ns.length := by omega
        subst hin
        have HF8 := Hid.of (show RfO wr w.heap.size a7 F c7 by
          have h1 := HF7.out
          rw [List.take_of_length_le (by rw [HFl.out]; exact Nat.le_refl _)] at h1
          exact h1)
        go_wp2_with (with_reducible show wpList _ _ _ ({ dst := _, op := Op.load 51 _, type := _, pos := _, after := _, guard := _ } :: _) _ _; refine Shut.out ?_)
        show wpList _ _ _ _ _ _
        refine wpList_load_mid rfl _ _ rfl Br 0 rfl [.int .i64 st, .int .i64 mi, .slice a7 ns.length c7, .slice a5 L5 c5, .bool false] _ HR7.out.range Tryz.underlying51 rfl (by kernel_rfl) ?_
        simp only [Act.put, List.setIfInBounds_toArray, List.set_cons_zero, List.set_cons_succ]
        refine wpList_store_at rfl 51 _ _ rfl (w.heap.size + 1) HZ7.out [.int .i64 st, .int .i64 mi, .slice a7 ns.length c7, .slice a5 L5 c5, .bool false] rfl rfl rfl (by kernel_rfl) (by kernel_rfl) ?_
        intro w8 hA8 hg8
        have HA8 := Hid.of hA8
        have HU8 := Hid.of (HU7.out.by hg8 (fun g hg => by have := Option.some.inj hg; omega))
        have HF9 := Hid.of (show RfO w8 w.heap.size a7 F c7 from HF8.out.kept hg8 (.inr (own_ne HF8.out HZ7.out (by decide))))
        have HO9 := Hid.of (HO7.out.kept hg8 (.inr (own_ne HO7.out HZ7.out (by decide))))
        clear hA8 hg8
        simp only [Act.put]
        repeat go_step
        refine bodyPost_ret (results_agg1 Tryz.results15 _ _ (w.heap.size + 1) [.int .i64 st, .int .i64 mi, .slice a7 ns.length c7, .slice a5 L5 c5, .bool false] rfl HA8.out.range Tryz.underlying51 rfl (by kernel_rfl)) rfl ?_
        exact ⟨⟨a7, c7, _, rfl, Hid.of ⟨HF9.out, by unfold Ow; rw [HL5.out]; exact HO9.out⟩⟩, HU8.out⟩
end Go.Proofs.YtkaoalcffgnfeaaGreatDoor
namespace Go.Proofs.YtkaoalcffgnfeaaGreatDoor
open Go.RowKit Go.Shelf TextNum
theorem rng_mid {w : World} {b : Nat} {p m s : List Value} (h : w.rangeAt b 0 (p ++ (m ++ s))) : w.rangeAt b p.length m := fun j v hv => by
  have hj : j < m.length := by
    rcases List.getElem?_eq_some_iff.1 hv with ⟨h1, _⟩
    exact h1
  have := h (p.length + j) v (by rw [List.getElem?_append_right (by omega), Nat.add_sub_cancel_left, List.getElem?_append_left hj]; exact hv)
  rwa [Nat.zero_add] at this
theorem sb_nil0 (w : World) : Sb w (.slice none 0 0) [] := ⟨none, 0, rfl, by simp, by unfold maxLen; omega, fun _ => ⟨rfl, rfl⟩, fun _ h => by cases h⟩
set_option maxRecDepth 100000 in
set_option maxHeartbeats 8000000 in
theorem prints_req (ad : Nat → Addr) (m t : ByteArray) (mi : Int) (an : Option Addr) (ns : List ByteArray) (cn : Nat) (av : Option Addr) (us : List ByteArray) (cv : Nat) (ab : Option Addr) (nb cb' : Nat) (bd : List UInt8) (pad : Int) (w : World) (hN : StL w an ns cn) (hV : StL w av us cv) (hB : Sb w (.slice ab nb cb') bd) (hW : GW w ad) (hMt : w.rangeAt 1 0 mtC) (hm : m.size ≤ 1099511627776) (ht : t.size ≤ 1099511627776)
    (hm0 : -9223372036854775808 ≤ mi) (hm1 : mi ≤ 9223372036854775807) (hz : szs (mkF ns us) ≤ 1099511627000) (hnl : ns.length ≤ 1048576) (hbl : bd.length ≤ 1048576) :
    Calls Tryz.prog 7 #[.agg #[.int .i64 3, .slice none 0 0, .int .i64 0, .int .i64 0, .string ⟨#[]⟩, .string m, .string t, .int .i64 mi, .slice an ns.length cn, .slice av us.length cv, .slice ab nb cb', .int .i64 pad, .int .i64 0, .int .i64 0, .slice none 0 0, .slice none 0 0, .slice none 0 0, .int .i64 0]] w fun e w' => e = .returned (.bool true) ∧ Up w w' := by
  have HN := Hid.of hN
  have HV := Hid.of hV
  have HB := Hid.of hB
  have HW := Hid.of hW
  have hcn := hN.cap
  have hcv := hV.cap
  obtain ⟨hbn, hbc, hbm⟩ := hB.len
  unfold maxLen at hbm
  clear hN hV hB hbn
  obtain ⟨F, hF⟩ : ∃ F, mkF ns us = F := ⟨_, rfl⟩
  have HFl0 : F.length = ns.length := by rw [← hF, mkF_len]
  rw [hF] at hz
  have HFe := Hid.of hF
  clear hF
  obtain ⟨BB, hBB⟩ : ∃ BB, pdd bd pad = BB := ⟨_, rfl⟩
  have hBl : BB.length ≤ 2200000 := by
    rw [← hBB]
    unfold pdd
    rw [List.length_append, List.length_replicate]
    omega
  have HBe := Hid.of hBB
  clear hBB
  obtain ⟨nB, hnB⟩ : ∃ nB, BB.length = nB := ⟨_, rfl⟩
  have HBn := Hid.of hnB
  obtain ⟨nF, hnF⟩ : ∃ nF, ns.length = nF := ⟨_, rfl⟩
  have HNF := Hid.of (show F.length = nF by rw [HFl0]; exact hnF)
  have HNs := Hid.of hnF
  rw [hnB] at hBl
  obtain ⟨rq, hrq⟩ : ∃ rq, frQ m t mi F BB = rq := ⟨_, rfl⟩
  have HRf := Hid.of (fun aF cF aR cR w2 (h : FdL w2 aF F cF) (hb : Sb w2 (.slice aR nB cR) BB) (hU : Up w w2) => RFormatRequest_walk m t mi aF F cF aR nB cR BB false w2 h hb (range_up hMt hU) hm ht hm0 hm1 hz (by omega))
  have HWf := Hid.of (fun aF cF aR cR w2 (h : FdL w2 aF F cF) (hb : Sb w2 (.slice aR nB cR) BB) (hU : Up w w2) => FormatRequest_walk ad m t mi aF F cF aR nB cR BB false w2 h hb (HW.out.up hU) hm ht hm0 hm1 hz (by omega))
  rw [hrq, HNF.out] at HRf HWf
  clear hrq HFl0 hnB hnF hW hMt
  have HX := Hid.of (fun W (h : At W w.heap.size 31 [.int .i64 3, .slice none 0 0, .int .i64 0, .int .i64 0, .string ⟨#[]⟩, .string m, .string t, .int .i64 mi, .slice an ns.length cn, .slice av us.length cv, .slice ab nb cb', .int .i64 pad, .int .i64 0, .int .i64 0, .slice none 0 0, .slice none 0 0, .slice none 0 0, .int .i64 0]) => (show W.rangeAt w.heap.size 5 [.string m, .string t, .int .i64 mi, .slice an ns.length cn, .slice av us.length cv, .slice ab nb cb', .int .i64 pad] from (rng_mid (p := [.int .i64 3, .slice none 0 0, .int .i64 0, .int .i64 0, .string ⟨#[]⟩]) (m := [.string m, .string t, .int .i64 mi, .slice an ns.length cn, .slice av us.length cv, .slice ab nb cb', .int .i64 pad]) (s := [.int .i64 0, .int .i64 0, .slice none 0 0, .slice none 0 0, .slice none 0 0, .int .i64 0]) h.range)))
  have HA1 := Hid.of (at_new w 31 [.int .i64 3, .slice none 0 0, .int .i64 0, .int .i64 0, .string ⟨#[]⟩, .string m, .string t, .int .i64 mi, .slice an ns.length cn, .slice av us.length cv, .slice ab nb cb', .int .i64 pad, .int .i64 0, .int .i64 0, .slice none 0 0, .slice none 0 0, .slice none 0 0, .int .i64 0])
  have HU1 := Hid.of ((Up.refl w).alloc (.cells [.int .i64 3, .slice none 0 0, .int .i64 0, .int .i64 0, .string ⟨#[]⟩, .string m, .string t, .int .i64 mi, .slice an ns.length cn, .slice av us.length cv, .slice ab nb cb', .int .i64 pad, .int .i64 0, .int .i64 0, .slice none 0 0, .slice none 0 0, .slice none 0 0, .int .i64 0].toArray 31))
  go_enter Tryz.func7, Tryz.ntmps7
  go_wp2_with (with_reducible show wpList _ _ _ ({ dst := _, op := Op.load 3 _, type := _, pos := _, after := _, guard := _ } :: _) _ _; refine Shut.out ?_)
  show wpList _ _ _ _ _ _
  obtain ⟨w1, hw1⟩ : ∃ w1, w.alloc (.cells [.int .i64 3, .slice none 0 0, .int .i64 0, .int .i64 0, .string ⟨#[]⟩, .string m, .string t, .int .i64 mi, .slice an ns.length cn, .slice av us.length cv, .slice ab nb cb', .int .i64 pad, .int .i64 0, .int .i64 0, .slice none 0 0, .slice none 0 0, .slice none 0 0, .int .i64 0].toArray 31) = w1 := ⟨_, rfl⟩
  rw [hw1] at HA1 HU1
  change wpList _ _ _ _ _ (w.alloc (.cells [.int .i64 3, .slice none 0 0, .int .i64 0, .int .i64 0, .string ⟨#[]⟩, .string m, .string t, .int .i64 mi, .slice an ns.length cn, .slice av us.length cv, .slice ab nb cb', .int .i64 pad, .int .i64 0, .int .i64 0, .slice none 0 0, .slice none 0 0, .slice none 0 0, .int .i64 0].toArray 31))
  rw [hw1]
  clear hw1
  have c0 := HA1.out.cell (i := 0) rfl
  go_wp2_with (with_reducible show wpList _ _ _ ({ dst := _, op := Op.load 25 _, type := _, pos := _, after := _, guard := _ } :: _) _ _; refine Shut.out ?_)
  show wpList _ _ _ _ _ _
  refine wpList_load_mid rfl _ _ rfl w.heap.size 5 rfl [.string m, .string t, .int .i64 mi, .slice an ns.length cn, .slice av us.length cv, .slice ab nb cb', .int .i64 pad] _ (HX.out _ HA1.out) Tryz.underlying25 rfl (by kernel_rfl) ?_
  simp only [Act.put, List.setIfInBounds_toArray, List.set_cons_zero, List.set_cons_succ]
  go_wp2_with fail
  refine (asked_walk m t mi an ns cn av us cv ab nb cb' bd pad w1 (HN.out.up HU1.out) (HV.out.up HU1.out) (HB.out.up HU1.out) hnl hbl).mono ?_
  rintro e w2 ⟨⟨aF, cF, vF, rfl, hO⟩, h9⟩
  rw [HBe.out, HFe.out] at hO
  obtain ⟨aR, cR, rfl⟩ := row_len hO.out.2
  have HU2 := Hid.of (HU1.out.trans h9)
  have HA2 := Hid.of (HA1.out.up h9)
  have HF2 := Hid.of (RfO.fdl hO.out.1)
  have HB2 := Hid.of (Ow.sb hO.out.2)
  clear hO h9
  have hcF := HF2.out.cap
  have hcB := HB2.out.len
  unfold maxLen at hcB
  obtain ⟨_, hcB1, hcB2⟩ := hcB
  rw [HBn.out] at HB2 hcB1 ⊢
  rw [HNF.out] at hcF
  dsimp only
  rw [HNs.out]
  go_wp2_with fail
  refine (HRf.out aF cF aR cR w2 HF2.out HB2.out HU2.out).mono ?_
  rintro e w3 ⟨hR, h9⟩
  have HU3 := Hid.of (HU2.out.trans h9)
  have HA3 := Hid.of (HA2.out.up h9)
  clear h9 hcF hcB1 hcB2 HF2 HB2
  cases rq with
  | error k =>
    change e = _ at hR
    subst hR
    dsimp only
    go_wp2_with (with_reducible show wpList _ _ _ ({ dst := _, op := Op.load 25 _, type := _, pos := _, after := _, guard := _ } :: _) _ _; refine Shut.out ?_)
    show wpList _ _ _ _ _ _
    refine wpList_load_mid rfl _ _ rfl w.heap.size 5 rfl [.string m, .string t, .int .i64 mi, .slice an ns.length cn, .slice av us.length cv, .slice ab nb cb', .int .i64 pad] _ (HX.out _ HA3.out) Tryz.underlying25 rfl (by kernel_rfl) ?_
    simp only [Act.put, List.setIfInBounds_toArray, List.set_cons_zero, List.set_cons_succ]
    go_wp2_with fail
    refine (request_walk m t mi an ns cn av us cv ab nb cb' bd pad w3 (HN.out.up HU3.out) (HV.out.up HU3.out) (HB.out.up HU3.out) hnl hbl).mono ?_
    rintro e w4 ⟨⟨aF, cF, vF, rfl, hO⟩, h9⟩
    rw [HBe.out, HFe.out] at hO
    obtain ⟨aR, cR, rfl⟩ := row_len hO.out.2
    have HU4 := Hid.of (HU3.out.trans h9)
    have HA4 := Hid.of (HA3.out.up h9)
    have HF4 := Hid.of (FdO.fdl hO.out.1)
    have HB4 := Hid.of (Ow.sb hO.out.2)
    clear hO h9
    have hcF := HF4.out.cap
    have hcB := HB4.out.len
    unfold maxLen at hcB
    obtain ⟨_, hcB1, hcB2⟩ := hcB
    rw [HBn.out] at HB4 hcB1 ⊢
    rw [HNF.out] at hcF
    dsimp only
    rw [HNs.out]
    go_wp2_with fail
    refine (HWf.out aF cF aR cR w4 HF4.out HB4.out HU4.out).mono ?_
    rintro e w5 ⟨hR, h9⟩
    have HU5 := Hid.of (HU4.out.trans h9)
    clear h9
    change e = _ at hR
    subst hR
    dsimp only
    have hcv1 := conv_sb2 (sb_nil0 w5)
    go_wp2
    go_ret
    exact ⟨rfl, HU5.out⟩
  | ok l =>
    obtain ⟨a8, c8, rfl, hO8⟩ := hR
    have HO8 := Hid.of hO8.out
    have hO9 := hO8.out.len
    unfold maxLen at hO9
    obtain ⟨_, hO91, hO92⟩ := hO9
    clear hO8
    have HL := Hid.of (rfl : l.length = l.length)
    obtain ⟨L, hL⟩ : ∃ L, l.length = L := ⟨_, rfl⟩
    rw [hL] at HO8 hO91 ⊢
    dsimp only
    go_wp2_with (with_reducible show wpList _ _ _ ({ dst := _, op := Op.load 25 _, type := _, pos := _, after := _, guard := _ } :: _) _ _; refine Shut.out ?_)
    show wpList _ _ _ _ _ _
    refine wpList_load_mid rfl _ _ rfl w.heap.size 5 rfl [.string m, .string t, .int .i64 mi, .slice an ns.length cn, .slice av us.length cv, .slice ab nb cb', .int .i64 pad] _ (HX.out _ HA3.out) Tryz.underlying25 rfl (by kernel_rfl) ?_
    simp only [Act.put, List.setIfInBounds_toArray, List.set_cons_zero, List.set_cons_succ]
    go_wp2_with fail
    refine (request_walk m t mi an ns cn av us cv ab nb cb' bd pad w3 (HN.out.up HU3.out) (HV.out.up HU3.out) (HB.out.up HU3.out) hnl hbl).mono ?_
    rintro e w4 ⟨⟨aF, cF, vF, rfl, hO⟩, h9⟩
    rw [HBe.out, HFe.out] at hO
    obtain ⟨aR, cR, rfl⟩ := row_len hO.out.2
    have HU4 := Hid.of (HU3.out.trans h9)
    have Hu34 := Hid.of h9
    have HA4 := Hid.of (HA3.out.up h9)
    have HF4 := Hid.of (FdO.fdl hO.out.1)
    have HB4 := Hid.of (Ow.sb hO.out.2)
    clear hO h9
    have hcF := HF4.out.cap
    have hcB := HB4.out.len
    unfold maxLen at hcB
    obtain ⟨_, hcB1, hcB2⟩ := hcB
    rw [HBn.out] at HB4 hcB1 ⊢
    rw [HNF.out] at hcF
    dsimp only
    rw [HNs.out]
    go_wp2_with fail
    refine (HWf.out aF cF aR cR w4 HF4.out HB4.out HU4.out).mono ?_
    rintro e w5 ⟨hR, h9⟩
    have HU5 := Hid.of (HU4.out.trans h9)
    have HOr := Hid.of (HO8.out.up (Hu34.out.trans h9))
    clear h9
    obtain ⟨a9, c9, rfl, hO10⟩ := hR
    have HOw := Hid.of (Ow.sb hO10.out)
    clear hO10
    have hOw := HOw.out.len
    unfold maxLen at hOw
    obtain ⟨_, hOw1, hOw2⟩ := hOw
    rw [hL] at HOw hOw1 ⊢
    dsimp only
    have hcv1 := conv_sb2 HOr.out
    have hcv2 := conv_sb2 HOw.out
    clear hL HL
    go_wp2
    go_ret
    exact ⟨rfl, HU5.out⟩
set_option maxRecDepth 100000 in
set_option maxHeartbeats 8000000 in
theorem prints_res (ad : Nat → Addr) (st mi : Int) (an : Option Addr) (ns : List ByteArray) (cn : Nat) (av : Option Addr) (us : List ByteArray) (cv : Nat) (ab : Option Addr) (nb cb' : Nat) (bd : List UInt8) (pad : Int) (w : World) (hN : StL w an ns cn) (hV : StL w av us cv) (hB : Sb w (.slice ab nb cb') bd) (hW : GW w ad) (hRs : w.rangeAt 10 0 rsC) (hRi : w.rangeAt 7 0 rsI) (hRr : w.rangeAt 8 0 rsS) (hs0 : -9223372036854775808 ≤ st) (hs1 : st ≤ 9223372036854775807)
    (hm0 : -9223372036854775808 ≤ mi) (hm1 : mi ≤ 9223372036854775807) (hz : szs (mkF ns us) ≤ 1099511627000) (hnl : ns.length ≤ 1048576) (hbl : bd.length ≤ 1048576) :
    Calls Tryz.prog 7 #[.agg #[.int .i64 4, .slice none 0 0, .int .i64 0, .int .i64 0, .string ⟨#[]⟩, .string ⟨#[]⟩, .string ⟨#[]⟩, .int .i64 0, .slice none 0 0, .slice none 0 0, .slice none 0 0, .int .i64 0, .int .i64 st, .int .i64 mi, .slice an ns.length cn, .slice av us.length cv, .slice ab nb cb', .int .i64 pad]] w fun e w' => e = .returned (.bool true) ∧ Up w w' := by
  have HN := Hid.of hN
  have HV := Hid.of hV
  have HB := Hid.of hB
  have HW := Hid.of hW
  have hcn := hN.cap
  have hcv := hV.cap
  obtain ⟨hbn, hbc, hbm⟩ := hB.len
  unfold maxLen at hbm
  clear hN hV hB hbn
  obtain ⟨F, hF⟩ : ∃ F, mkF ns us = F := ⟨_, rfl⟩
  have HFl0 : F.length = ns.length := by rw [← hF, mkF_len]
  rw [hF] at hz
  have HFe := Hid.of hF
  clear hF
  obtain ⟨BB, hBB⟩ : ∃ BB, pdd bd pad = BB := ⟨_, rfl⟩
  have hBl : BB.length ≤ 2200000 := by
    rw [← hBB]
    unfold pdd
    rw [List.length_append, List.length_replicate]
    omega
  have HBe := Hid.of hBB
  clear hBB
  obtain ⟨nB, hnB⟩ : ∃ nB, BB.length = nB := ⟨_, rfl⟩
  have HBn := Hid.of hnB
  obtain ⟨nF, hnF⟩ : ∃ nF, ns.length = nF := ⟨_, rfl⟩
  have HNF := Hid.of (show F.length = nF by rw [HFl0]; exact hnF)
  have HNs := Hid.of hnF
  rw [hnB] at hBl
  obtain ⟨rq, hrq⟩ : ∃ rq, raQ st mi F BB = rq := ⟨_, rfl⟩
  have HRf := Hid.of (fun aF cF aR cR w2 (h : FdL w2 aF F cF) (hb : Sb w2 (.slice aR nB cR) BB) (hU : Up w w2) => RFormatResponse_walk st mi aF F cF aR nB cR BB false w2 h hb (range_up hRi hU) (range_up hRr hU) hs0 hs1 hm0 hm1 hz (by omega))
  have HWf := Hid.of (fun aF cF aR cR w2 (h : FdL w2 aF F cF) (hb : Sb w2 (.slice aR nB cR) BB) (hU : Up w w2) => FormatResponse_walk ad st mi aF F cF aR nB cR BB false w2 h hb (HW.out.up hU) (range_up hRs hU) hs0 hs1 hm0 hm1 hz (by omega))
  rw [hrq, HNF.out] at HRf HWf
  clear hrq HFl0 hnB hnF hW hRs hRi hRr
  have HX := Hid.of (fun W (h : At W w.heap.size 31 [.int .i64 4, .slice none 0 0, .int .i64 0, .int .i64 0, .string ⟨#[]⟩, .string ⟨#[]⟩, .string ⟨#[]⟩, .int .i64 0, .slice none 0 0, .slice none 0 0, .slice none 0 0, .int .i64 0, .int .i64 st, .int .i64 mi, .slice an ns.length cn, .slice av us.length cv, .slice ab nb cb', .int .i64 pad]) => (show W.rangeAt w.heap.size 12 [.int .i64 st, .int .i64 mi, .slice an ns.length cn, .slice av us.length cv, .slice ab nb cb', .int .i64 pad] from (rng_mid (p := [.int .i64 4, .slice none 0 0, .int .i64 0, .int .i64 0, .string ⟨#[]⟩, .string ⟨#[]⟩, .string ⟨#[]⟩, .int .i64 0, .slice none 0 0, .slice none 0 0, .slice none 0 0, .int .i64 0]) (m := [.int .i64 st, .int .i64 mi, .slice an ns.length cn, .slice av us.length cv, .slice ab nb cb', .int .i64 pad]) (s := []) h.range)))
  have HA1 := Hid.of (at_new w 31 [.int .i64 4, .slice none 0 0, .int .i64 0, .int .i64 0, .string ⟨#[]⟩, .string ⟨#[]⟩, .string ⟨#[]⟩, .int .i64 0, .slice none 0 0, .slice none 0 0, .slice none 0 0, .int .i64 0, .int .i64 st, .int .i64 mi, .slice an ns.length cn, .slice av us.length cv, .slice ab nb cb', .int .i64 pad])
  have HU1 := Hid.of ((Up.refl w).alloc (.cells [.int .i64 4, .slice none 0 0, .int .i64 0, .int .i64 0, .string ⟨#[]⟩, .string ⟨#[]⟩, .string ⟨#[]⟩, .int .i64 0, .slice none 0 0, .slice none 0 0, .slice none 0 0, .int .i64 0, .int .i64 st, .int .i64 mi, .slice an ns.length cn, .slice av us.length cv, .slice ab nb cb', .int .i64 pad].toArray 31))
  go_enter Tryz.func7, Tryz.ntmps7
  go_wp2_with (with_reducible show wpList _ _ _ ({ dst := _, op := Op.load 3 _, type := _, pos := _, after := _, guard := _ } :: _) _ _; refine Shut.out ?_)
  show wpList _ _ _ _ _ _
  obtain ⟨w1, hw1⟩ : ∃ w1, w.alloc (.cells [.int .i64 4, .slice none 0 0, .int .i64 0, .int .i64 0, .string ⟨#[]⟩, .string ⟨#[]⟩, .string ⟨#[]⟩, .int .i64 0, .slice none 0 0, .slice none 0 0, .slice none 0 0, .int .i64 0, .int .i64 st, .int .i64 mi, .slice an ns.length cn, .slice av us.length cv, .slice ab nb cb', .int .i64 pad].toArray 31) = w1 := ⟨_, rfl⟩
  rw [hw1] at HA1 HU1
  change wpList _ _ _ _ _ (w.alloc (.cells [.int .i64 4, .slice none 0 0, .int .i64 0, .int .i64 0, .string ⟨#[]⟩, .string ⟨#[]⟩, .string ⟨#[]⟩, .int .i64 0, .slice none 0 0, .slice none 0 0, .slice none 0 0, .int .i64 0, .int .i64 st, .int .i64 mi, .slice an ns.length cn, .slice av us.length cv, .slice ab nb cb', .int .i64 pad].toArray 31))
  rw [hw1]
  clear hw1
  have c0 := HA1.out.cell (i := 0) rfl
  go_wp2_with (with_reducible show wpList _ _ _ ({ dst := _, op := Op.load 27 _, type := _, pos := _, after := _, guard := _ } :: _) _ _; refine Shut.out ?_)
  show wpList _ _ _ _ _ _
  refine wpList_load_mid rfl _ _ rfl w.heap.size 12 rfl [.int .i64 st, .int .i64 mi, .slice an ns.length cn, .slice av us.length cv, .slice ab nb cb', .int .i64 pad] _ (HX.out _ HA1.out) Tryz.underlying27 rfl (by kernel_rfl) ?_
  simp only [Act.put, List.setIfInBounds_toArray, List.set_cons_zero, List.set_cons_succ]
  go_wp2_with fail
  refine (answered_walk st mi an ns cn av us cv ab nb cb' bd pad w1 (HN.out.up HU1.out) (HV.out.up HU1.out) (HB.out.up HU1.out) hnl hbl).mono ?_
  rintro e w2 ⟨⟨aF, cF, vF, rfl, hO⟩, h9⟩
  rw [HBe.out, HFe.out] at hO
  obtain ⟨aR, cR, rfl⟩ := row_len hO.out.2
  have HU2 := Hid.of (HU1.out.trans h9)
  have HA2 := Hid.of (HA1.out.up h9)
  have HF2 := Hid.of (RfO.fdl hO.out.1)
  have HB2 := Hid.of (Ow.sb hO.out.2)
  clear hO h9
  have hcF := HF2.out.cap
  have hcB := HB2.out.len
  unfold maxLen at hcB
  obtain ⟨_, hcB1, hcB2⟩ := hcB
  rw [HBn.out] at HB2 hcB1 ⊢
  rw [HNF.out] at hcF
  dsimp only
  rw [HNs.out]
  go_wp2_with fail
  refine (HRf.out aF cF aR cR w2 HF2.out HB2.out HU2.out).mono ?_
  rintro e w3 ⟨hR, h9⟩
  have HU3 := Hid.of (HU2.out.trans h9)
  have HA3 := Hid.of (HA2.out.up h9)
  clear h9 hcF hcB1 hcB2 HF2 HB2
  cases rq with
  | error k =>
    change e = _ at hR
    subst hR
    dsimp only
    go_wp2_with (with_reducible show wpList _ _ _ ({ dst := _, op := Op.load 27 _, type := _, pos := _, after := _, guard := _ } :: _) _ _; refine Shut.out ?_)
    show wpList _ _ _ _ _ _
    refine wpList_load_mid rfl _ _ rfl w.heap.size 12 rfl [.int .i64 st, .int .i64 mi, .slice an ns.length cn, .slice av us.length cv, .slice ab nb cb', .int .i64 pad] _ (HX.out _ HA3.out) Tryz.underlying27 rfl (by kernel_rfl) ?_
    simp only [Act.put, List.setIfInBounds_toArray, List.set_cons_zero, List.set_cons_succ]
    go_wp2_with fail
    refine (response_walk st mi an ns cn av us cv ab nb cb' bd pad w3 (HN.out.up HU3.out) (HV.out.up HU3.out) (HB.out.up HU3.out) hnl hbl).mono ?_
    rintro e w4 ⟨⟨aF, cF, vF, rfl, hO⟩, h9⟩
    rw [HBe.out, HFe.out] at hO
    obtain ⟨aR, cR, rfl⟩ := row_len hO.out.2
    have HU4 := Hid.of (HU3.out.trans h9)
    have HA4 := Hid.of (HA3.out.up h9)
    have HF4 := Hid.of (FdO.fdl hO.out.1)
    have HB4 := Hid.of (Ow.sb hO.out.2)
    clear hO h9
    have hcF := HF4.out.cap
    have hcB := HB4.out.len
    unfold maxLen at hcB
    obtain ⟨_, hcB1, hcB2⟩ := hcB
    rw [HBn.out] at HB4 hcB1 ⊢
    rw [HNF.out] at hcF
    dsimp only
    rw [HNs.out]
    go_wp2_with fail
    refine (HWf.out aF cF aR cR w4 HF4.out HB4.out HU4.out).mono ?_
    rintro e w5 ⟨hR, h9⟩
    have HU5 := Hid.of (HU4.out.trans h9)
    clear h9
    change e = _ at hR
    subst hR
    dsimp only
    have hcv1 := conv_sb2 (sb_nil0 w5)
    go_wp2
    go_ret
    exact ⟨rfl, HU5.out⟩
  | ok l =>
    obtain ⟨a8, c8, rfl, hO8⟩ := hR
    have HO8 := Hid.of hO8.out
    have hO9 := hO8.out.len
    unfold maxLen at hO9
    obtain ⟨_, hO91, hO92⟩ := hO9
    clear hO8
    have HL := Hid.of (rfl : l.length = l.length)
    obtain ⟨L, hL⟩ : ∃ L, l.length = L := ⟨_, rfl⟩
    rw [hL] at HO8 hO91 ⊢
    dsimp only
    go_wp2_with (with_reducible show wpList _ _ _ ({ dst := _, op := Op.load 27 _, type := _, pos := _, after := _, guard := _ } :: _) _ _; refine Shut.out ?_)
    show wpList _ _ _ _ _ _
    refine wpList_load_mid rfl _ _ rfl w.heap.size 12 rfl [.int .i64 st, .int .i64 mi, .slice an ns.length cn, .slice av us.length cv, .slice ab nb cb', .int .i64 pad] _ (HX.out _ HA3.out) Tryz.underlying27 rfl (by kernel_rfl) ?_
    simp only [Act.put, List.setIfInBounds_toArray, List.set_cons_zero, List.set_cons_succ]
    go_wp2_with fail
    refine (response_walk st mi an ns cn av us cv ab nb cb' bd pad w3 (HN.out.up HU3.out) (HV.out.up HU3.out) (HB.out.up HU3.out) hnl hbl).mono ?_
    rintro e w4 ⟨⟨aF, cF, vF, rfl, hO⟩, h9⟩
    rw [HBe.out, HFe.out] at hO
    obtain ⟨aR, cR, rfl⟩ := row_len hO.out.2
    have HU4 := Hid.of (HU3.out.trans h9)
    have Hu34 := Hid.of h9
    have HA4 := Hid.of (HA3.out.up h9)
    have HF4 := Hid.of (FdO.fdl hO.out.1)
    have HB4 := Hid.of (Ow.sb hO.out.2)
    clear hO h9
    have hcF := HF4.out.cap
    have hcB := HB4.out.len
    unfold maxLen at hcB
    obtain ⟨_, hcB1, hcB2⟩ := hcB
    rw [HBn.out] at HB4 hcB1 ⊢
    rw [HNF.out] at hcF
    dsimp only
    rw [HNs.out]
    go_wp2_with fail
    refine (HWf.out aF cF aR cR w4 HF4.out HB4.out HU4.out).mono ?_
    rintro e w5 ⟨hR, h9⟩
    have HU5 := Hid.of (HU4.out.trans h9)
    have HOr := Hid.of (HO8.out.up (Hu34.out.trans h9))
    clear h9
    obtain ⟨a9, c9, rfl, hO10⟩ := hR
    have HOw := Hid.of (Ow.sb hO10.out)
    clear hO10
    have hOw := HOw.out.len
    unfold maxLen at hOw
    obtain ⟨_, hOw1, hOw2⟩ := hOw
    rw [hL] at HOw hOw1 ⊢
    dsimp only
    have hcv1 := conv_sb2 HOr.out
    have hcv2 := conv_sb2 HOw.out
    clear hL HL
    go_wp2
    go_ret
    exact ⟨rfl, HU5.out⟩
end Go.Proofs.YtkaoalcffgnfeaaGreatDoor
namespace Go.Proofs.YtkaoalcffgnfeaaGreatDoor
open Go.RowKit Go.Shelf TextNum
theorem wpList_load_midG {ops : Array Oper} {rest : List Oper} {op : Oper} {a : Act} {w : World} {Q : Exit → Act → World → Prop} (hw : Region.wanted op (yielded ops a.tmps) = true) (ty : TypeId) (x : Operand) (ho : op.op = .load ty x)
    (b o : Nat) (hx : a.eval x = .pointer (some ⟨b, o, none⟩)) (cs : List Value) (d : TypeDesc) (hc : w.rangeAt b o cs)
    (hu : Tryz.prog.underlying ty = some d) (hd : d.isRow = true) (hi : (Tryz.prog.info? ty).map (·.size) = some cs.length)
    (h : wpList Tryz.prog ops Q rest (a.put op.dst (.agg cs.toArray)) w) : wpList Tryz.prog ops Q (op :: rest) a w :=
  wpList_step fun K hK => by
    simp only [hw, if_true]
    exact wp_load_mid ty x ho b o hx cs d hc hu hd hi (hK _ _ h)
set_option maxRecDepth 100000 in
set_option maxHeartbeats 8000000 in
theorem Prints_walk (ad : Nat → Addr) (m t : ByteArray) (mi : Int) (an : Option Addr) (ns : List ByteArray) (cn : Nat) (av : Option Addr) (us : List ByteArray) (cv : Nat) (ab : Option Addr) (nb cb' : Nat) (bd : List UInt8) (pad : Int)
    (st mj : Int) (am : Option Addr) (ms : List ByteArray) (cm : Nat) (au : Option Addr) (vs' : List ByteArray) (cu : Nat) (ac : Option Addr) (nc cc : Nat) (bc : List UInt8) (pae : Int) (w : World)
    (hN : StL w an ns cn) (hV : StL w av us cv) (hB : Sb w (.slice ab nb cb') bd) (hN2 : StL w am ms cm) (hV2 : StL w au vs' cu) (hB2 : Sb w (.slice ac nc cc) bc)
    (hW : GW w ad) (hRs : w.rangeAt 10 0 rsC) (hMt : w.rangeAt 1 0 mtC) (hRi : w.rangeAt 7 0 rsI) (hRr : w.rangeAt 8 0 rsS)
    (hm : m.size ≤ 1099511627776) (ht : t.size ≤ 1099511627776) (hm0 : -9223372036854775808 ≤ mi) (hm1 : mi ≤ 9223372036854775807) (hz : szs (mkF ns us) ≤ 1099511627000) (hnl : ns.length ≤ 1048576) (hbl : bd.length ≤ 1048576)
    (hs0 : -9223372036854775808 ≤ st) (hs1 : st ≤ 9223372036854775807) (hj0 : -9223372036854775808 ≤ mj) (hj1 : mj ≤ 9223372036854775807) (hz2 : szs (mkF ms vs') ≤ 1099511627000) (hml : ms.length ≤ 1048576) (hcl : bc.length ≤ 1048576) :
    Calls Tryz.prog 3 #[.agg #[.string m, .string t, .int .i64 mi, .slice an ns.length cn, .slice av us.length cv, .slice ab nb cb', .int .i64 pad], .agg #[.int .i64 st, .int .i64 mj, .slice am ms.length cm, .slice au vs'.length cu, .slice ac nc cc, .int .i64 pae]] w fun e w' => e = .returned (.bool true) ∧ Up w w' := by
  have HW := Hid.of hW
  have HP1 := Hid.of (fun w2 (h : Up w w2) => prints_req ad m t mi an ns cn av us cv ab nb cb' bd pad w2 (hN.up h) (hV.up h) (hB.up h) (hW.up h) (range_up hMt h) hm ht hm0 hm1 hz hnl hbl)
  have HP2 := Hid.of (fun w2 (h : Up w w2) => prints_res ad st mj am ms cm au vs' cu ac nc cc bc pae w2 (hN2.up h) (hV2.up h) (hB2.up h) (hW.up h) (range_up hRs h) (range_up hRi h) (range_up hRr h) hs0 hs1 hj0 hj1 hz2 hml hcl)
  clear hN hV hB hN2 hV2 hB2 hW hRs hMt hRi hRr
  have HA0 := Hid.of ((at_new w 25 [.string m, .string t, .int .i64 mi, .slice an ns.length cn, .slice av us.length cv, .slice ab nb cb', .int .i64 pad]).up ((Up.refl _).alloc (.cells [.int .i64 st, .int .i64 mj, .slice am ms.length cm, .slice au vs'.length cu, .slice ac nc cc, .int .i64 pae].toArray 27)))
  have HZ0 := Hid.of (at_new (w.alloc (.cells [.string m, .string t, .int .i64 mi, .slice an ns.length cn, .slice av us.length cv, .slice ab nb cb', .int .i64 pad].toArray 25)) 27 [.int .i64 st, .int .i64 mj, .slice am ms.length cm, .slice au vs'.length cu, .slice ac nc cc, .int .i64 pae])
  have HU0 := Hid.of (((Up.refl w).alloc (.cells [.string m, .string t, .int .i64 mi, .slice an ns.length cn, .slice av us.length cv, .slice ab nb cb', .int .i64 pad].toArray 25)).alloc (.cells [.int .i64 st, .int .i64 mj, .slice am ms.length cm, .slice au vs'.length cu, .slice ac nc cc, .int .i64 pae].toArray 27))
  rw [alloc_size] at HZ0
  go_enter Tryz.func3, Tryz.ntmps3
  go_wp2_with fail
  obtain ⟨w1, hw1⟩ : ∃ w1, (w.alloc (.cells [.string m, .string t, .int .i64 mi, .slice an ns.length cn, .slice av us.length cv, .slice ab nb cb', .int .i64 pad].toArray 25)).alloc (.cells [.int .i64 st, .int .i64 mj, .slice am ms.length cm, .slice au vs'.length cu, .slice ac nc cc, .int .i64 pae].toArray 27) = w1 := ⟨_, rfl⟩
  rw [hw1] at HA0 HU0 HZ0
  change Calls _ _ _ ((w.alloc (.cells [.string m, .string t, .int .i64 mi, .slice an ns.length cn, .slice av us.length cv, .slice ab nb cb', .int .i64 pad].toArray 25)).alloc (.cells [.int .i64 st, .int .i64 mj, .slice am ms.length cm, .slice au vs'.length cu, .slice ac nc cc, .int .i64 pae].toArray 27)) _
  rw [hw1]
  clear hw1
  refine (known_walk ad w1 (HW.out.up HU0.out)).mono ?_
  rintro e w2 ⟨rfl, h9⟩
  have HU2 := Hid.of (HU0.out.trans h9)
  have HA2 := Hid.of (HA0.out.up h9)
  have HZ2 := Hid.of (HZ0.out.up h9)
  clear h9
  dsimp only
  go_wp2_with (with_reducible show wpList _ _ _ ({ dst := _, op := Op.load 25 _, type := _, pos := _, after := _, guard := _ } :: _) _ _; refine Shut.out ?_)
  show wpList _ _ _ _ _ _
  refine wpList_load_midG (by kernel_rfl) _ _ rfl w.heap.size 0 rfl [.string m, .string t, .int .i64 mi, .slice an ns.length cn, .slice av us.length cv, .slice ab nb cb', .int .i64 pad] _ HA2.out.range Tryz.underlying25 rfl (by kernel_rfl) ?_
  simp only [Act.put, List.setIfInBounds_toArray, List.set_cons_zero, List.set_cons_succ]
  go_wp2_with fail
  refine (HP1.out w2 HU2.out).mono ?_
  rintro e w3 ⟨rfl, h9⟩
  have HU3 := Hid.of (HU2.out.trans h9)
  have HZ3 := Hid.of (HZ2.out.up h9)
  clear h9
  dsimp only
  go_wp2_with (with_reducible show wpList _ _ _ ({ dst := _, op := Op.load 27 _, type := _, pos := _, after := _, guard := _ } :: _) _ _; refine Shut.out ?_)
  show wpList _ _ _ _ _ _
  refine wpList_load_midG (by kernel_rfl) _ _ rfl (w.heap.size + 1) 0 rfl [.int .i64 st, .int .i64 mj, .slice am ms.length cm, .slice au vs'.length cu, .slice ac nc cc, .int .i64 pae] _ HZ3.out.range Tryz.underlying27 rfl (by kernel_rfl) ?_
  simp only [Act.put, List.setIfInBounds_toArray, List.set_cons_zero, List.set_cons_succ]
  go_wp2_with fail
  refine (HP2.out w3 HU3.out).mono ?_
  rintro e w4 ⟨rfl, h9⟩
  have HU4 := Hid.of (HU3.out.trans h9)
  clear h9
  dsimp only
  go_wp2
  go_ret
  exact ⟨rfl, HU4.out⟩
end Go.Proofs.YtkaoalcffgnfeaaGreatDoor
namespace Go.Proofs.YtkaoalcffgnfeaaGreatDoor
open Go.ChangeShapes Go.WideShapes Go.ChangeAt Go.WideMaps Go.WideElems Go.RowKit TextNum
set_option maxRecDepth 100000 in
theorem cells8 : Tryz.prog.cellsOf 5 = 1 := by kernel_rfl
set_option maxRecDepth 100000 in
theorem bytes8 : Tryz.prog.bytesOf 5 = 1 := by kernel_rfl
theorem plain_of {W : World} {ad : Addr} {v : Value} (h : W.cell? (ad.add 0) = some v) : ad.spot = none := by
  have e : ad.add 0 = ad := by unfold Addr.add; rw [if_pos rfl]
  rw [e] at h
  obtain ⟨b, off, sp⟩ := ad
  cases sp with
  | none => rfl
  | some s => exfalso; simp only [World.cell?] at h; split at h <;> simp at h
theorem one_leB {H : Type} (d : DataW H) : 1 ≤ Rows.uptoBulk d := by
  cases d with
  | lit l => cases l <;> simp [Rows.uptoBulk]
  | nil => simp [Rows.uptoBulk]
  | ptr d => simp [Rows.uptoBulk]
  | slice elems spare => simp [Rows.uptoBulk]
  | agg parts => simp [Rows.uptoBulk]
  | iface t d => simp [Rows.uptoBulk]
  | map entries => simp [Rows.uptoBulk]
  | held h => simp [Rows.uptoBulk]
theorem len_leB {H : Type} : ∀ (l : List (DataW H)), l.length ≤ Rows.uptoBulkAll l
  | [] => Nat.zero_le _
  | x :: r => by have := one_leB x; have := len_leB r; simp only [Rows.uptoBulkAll, List.length_cons]; omega
theorem bulk_mem {H : Type} : ∀ {ds : List (DataW H)} {j : Nat} {d : DataW H}, ds[j]? = some d → Rows.uptoBulk d ≤ Rows.uptoBulkAll ds
  | d0 :: ds, 0, d, hd => by
    simp only [List.getElem?_cons_zero, Option.some.injEq] at hd
    subst hd
    simp only [Rows.uptoBulkAll]
    omega
  | d0 :: ds, j + 1, d, hd => by
    simp only [List.getElem?_cons_succ] at hd
    have := bulk_mem hd
    simp only [Rows.uptoBulkAll]
    omega
  | [], _, _, hd => by simp at hd
theorem sb_open {H : Type} {enc : TypeId × Value → H} {W : World} {fuel : Nat} {l : List Value} {d : DataW H} {ps : List MemPlace}
    (hf' : DataW.trod enc Tryz.prog W 0 (fun _ => true) true fuel 23 l = some (d, ps)) :
    ∃ v bs, l = [v] ∧ Sb W v bs ∧ bs.length ≤ Rows.uptoBulk d := by
  rcases open_ints Tryz.underlying23 Tryz.underlying5 cells8 hf' with ⟨e1, _⟩ | ⟨ad, len, cap, zs, e1, _, hlc, hcm, hzl, hx, hcell, hwf⟩
  · exact ⟨_, [], e1, ⟨none, 0, rfl, Nat.le_refl _, by simp [maxLen], fun _ => ⟨rfl, rfl⟩, (fun _ e => by cases e)⟩, Nat.zero_le _⟩
  · simp only [if_true] at hzl
    injection hx with hd _
    have hlen : ((zs.take len).map fun z => UInt8.ofNat z.toNat).length = len := by
      rw [List.length_map, List.length_take, Nat.min_eq_left (by omega)]
    refine ⟨_, (zs.take len).map fun z => UInt8.ofNat z.toNat, e1, ⟨some ad, cap, by rw [hlen], by rw [hlen]; omega, hcm, (fun e => by cases e), fun ad' e => ?_⟩, ?_⟩
    · obtain rfl := Option.some.inj e
      refine ⟨fun h0 => ?_, fun j u hj => ?_⟩
      · have h1 : 0 < len := by
          rcases Nat.eq_zero_or_pos len with h | h
          · exfalso; apply h0; subst h; simp
          · exact h
        exact plain_of (hcell 0 (by omega))
      · have hj1 : j < len := by
          have := (List.getElem?_eq_some_iff.1 hj).1
          rw [cb_length, hlen] at this
          exact this
        have hj2 : j < zs.length := by omega
        have hz := hwf zs[j] (List.getElem_mem hj2)
        have hb : 0 ≤ zs[j] ∧ zs[j] ≤ 255 := by
          simpa [Lit.wf, IntKind.min, IntKind.max, IntKind.signed, IntKind.bits] using hz
        have h1 := hcell j hj2
        rw [cb_get (by rw [hlen]; exact hj1)] at hj
        rw [h1, ← hj]
        simp only [List.getElem_map, List.getElem_take, List.getD_eq_getElem?_getD, List.getElem?_eq_getElem hj2, Option.getD_some]
        congr 2
        rw [UInt8.toNat_ofNat', Nat.mod_eq_of_lt (by omega)]
        omega
    · rw [hlen, hd]
      simp only [Rows.uptoBulk]
      have := len_leB (lits (H := H) .u8 (zs.take len))
      have e : (lits (H := H) .u8 (zs.take len)).length = (zs.take len).length := by simp [lits]
      rw [List.length_take, Nat.min_eq_left (by omega)] at e
      omega
set_option maxRecDepth 100000 in
/-- a list of bytes as an argument, with the bulk -/
theorem sl_openB {H : Type} {enc : TypeId × Value → H} {W : World} {v : Value} {d : DataW H} {ps : List MemPlace} {base : Nat} (hval : Value.okWide Tryz.prog W .any base 23 v) (h : DataW.Trod enc Tryz.prog W 0 (fun _ => true) true 23 v d ps) :
    ∃ a n c bs, v = .slice a n c ∧ Sb W (.slice a n c) bs ∧ n ≤ Rows.uptoBulk d := by
  obtain ⟨a, n, c, rfl⟩ := okWide_slice Tryz.underlying23 hval
  obtain ⟨fuel, hf⟩ := h
  have hf' : DataW.trod enc Tryz.prog W 0 (fun _ => true) true fuel 23 [.slice a n c] = some (d, ps) := hf
  obtain ⟨v, bs, e, hS, hb⟩ := sb_open hf'
  simp only [List.cons.injEq, and_true] at e
  subst e
  exact ⟨a, n, c, bs, rfl, hS, by have := hS.len.1; omega⟩
end Go.Proofs.YtkaoalcffgnfeaaGreatDoor
