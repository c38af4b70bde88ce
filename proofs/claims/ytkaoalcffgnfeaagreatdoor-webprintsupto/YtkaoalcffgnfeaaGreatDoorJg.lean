import Derived.Test.YtkaoalcffgnfeaaGreatDoorJc
import Derived.Test.YtkaoalcffgnfeaaGreatDoorJd
namespace Go.Proofs.YtkaoalcffgnfeaaGreatDoor
open Go.RowKit Go.Shelf TextNum
theorem grown_set1 (W : World) (b o : Nat) (v : Value) : W.grownBy (W.setCell ⟨b, o, none⟩ v) (some b) :=
 ⟨rfl, rfl, rfl, (KeepsWalks.setCell W _ v).size, fun k _ hk => Below.heap_setCell _ _ _ k (fun e => hk (by rw [e]))⟩
set_option maxRecDepth 100000 in
set_option maxHeartbeats 8000000 in
theorem request_walk (m t : ByteArray) (mi : Int) (an : Option Addr) (ns : List ByteArray) (cn : Nat) (av : Option Addr) (us : List ByteArray) (cv : Nat) (ab : Option Addr) (nb cb' : Nat) (bd : List UInt8) (pad : Int) (w : World) (hN : StL w an ns cn) (hV : StL w av us cv) (hB : Sb w (.slice ab nb cb') bd) (hnl : ns.length ≤ 1048576) (hbl : bd.length ≤ 1048576) :
 Calls Tryz.prog 13 #[.agg #[.string m, .string t, .int .i64 mi, .slice an ns.length cn, .slice av us.length cv, .slice ab nb cb', .int .i64 pad]] w fun e w' => (∃ a c v, e = .returned (.agg #[.string m, .string t, .int .i64 mi, .slice a ns.length c, v, .bool false]) ∧ Hd (FdO w' w.heap.size a (mkF ns us) c ∧ Ow w' w.heap.size v (pdd bd pad))) ∧ Up w w' := by
 have HN := Ho hN
 have HV := Ho hV
 have HB := Ho hB
 have hcap := hN.cap
 have hcapv := hV.cap
 obtain ⟨hbn, hbc, hbm⟩ := hB.len
 unfold maxLen at hbm
 clear hN hV hB hbn
 obtain ⟨F, hF⟩ := ny (mkF ns us)
 have HFl := Ho (show F.length = ns.length by rw [← hF, mkF_len])
 have HFg := Ho (show ∀ i (h : i < ns.length) (h' : i < F.length), F[i] = ⟨ns[i], vat us i⟩ by subst hF; exact fun i h h' => mkF_get h h')
 rw [hF]
 clear hF
 have HA0 := Ho ((at_new w 25 [.string m, .string t, .int .i64 mi, .slice an ns.length cn, .slice av us.length cv, .slice ab nb cb', .int .i64 pad]).up ((Up.refl _).alloc (.cells z6.toArray 36)))
 have HZ0 := Ho (at_new (w.alloc (.cells [.string m, .string t, .int .i64 mi, .slice an ns.length cn, .slice av us.length cv, .slice ab nb cb', .int .i64 pad].toArray 25)) 36 z6)
 have HU0 := Ho (((Up.refl w).alloc (.cells [.string m, .string t, .int .i64 mi, .slice an ns.length cn, .slice av us.length cv, .slice ab nb cb', .int .i64 pad].toArray 25)).alloc (.cells z6.toArray 36))
 rw [alloc_size] at HZ0
 go_enter Tryz.func13, Tryz.ntmps13
 go_wp2
 obtain ⟨w1, hw1⟩ := ny ((w.alloc (.cells [.string m, .string t, .int .i64 mi, .slice an ns.length cn, .slice av us.length cv, .slice ab nb cb', .int .i64 pad].toArray 25)).alloc (.cells z6.toArray 36))
 have HS1 := Ho (show w.heap.size + 1 < w1.heap.size by rw [← hw1, alloc_size, alloc_size]; omega)
 rw [hw1] at HA0 HU0 HZ0
 change Code.wp _ _ _ _ ((w.alloc (.cells [.string m, .string t, .int .i64 mi, .slice an ns.length cn, .slice av us.length cv, .slice ab nb cb', .int .i64 pad].toArray 25)).alloc (.cells z6.toArray 36))
 rw [hw1]
 clear hw1
 refine wp_region_held_drew (S := fun w2 => At w2 w.heap.size 25 [.string m, .string t, .int .i64 mi, .slice an ns.length cn, .slice av us.length cv, .slice ab nb cb', .int .i64 pad] ∧ At w2 (w.heap.size + 1) 36 z6 ∧ Up w w2) (by kernel_rfl) ⟨HA0.o.up (Up.refl _).drew, HZ0.o.up (Up.refl _).drew, HU0.o.drew⟩ (fun hS => ?_)
 refine tN 0 (some 5) (.fieldAddr 25 (.tmp 1) 0) 0 (.pointer (some ⟨w.heap.size, 0, none⟩)) hS ?_
 simp only [Act.put, pB, pC, pD]
 refine tK 1 (some 6) (.load 9 (.tmp 5)) 9 (.string m) hS ?_ ?_
 · intro _ _ w5 hSw
   have h0 := hSw.1.cell (i := 0) rfl
   clear hSw hS
   go_simp
 simp only [pA, pB, pC, pD]
 refine tN 2 (some 7) (.fieldAddr 25 (.tmp 1) 1) 0 (.pointer (some ⟨w.heap.size, 1, none⟩)) hS ?_
 simp only [pA, pB, pC, pD]
 refine tK 3 (some 8) (.load 9 (.tmp 7)) 9 (.string t) hS ?_ ?_
 · intro _ _ w5 hSw
   have h0 := hSw.1.cell (i := 1) rfl
   clear hSw hS
   go_simp
 simp only [pA, pB, pC, pD]
 refine tN 4 (some 9) (.fieldAddr 25 (.tmp 1) 2) 0 (.pointer (some ⟨w.heap.size, 2, none⟩)) hS ?_
 simp only [pA, pB, pC, pD]
 refine tK 5 (some 10) (.load 3 (.tmp 9)) 3 (.int .i64 mi) hS ?_ ?_
 · intro _ _ w5 hSw
   have h0 := hSw.1.cell (i := 2) rfl
   clear hSw hS
   go_simp
 simp only [pA, pB, pC, pD]
 refine tN 6 (some 11) (.fieldAddr 25 (.tmp 1) 5) 0 (.pointer (some ⟨w.heap.size, 5, none⟩)) hS ?_
 simp only [pA, pB, pC, pD]
 refine tK 7 (some 12) (.load 23 (.tmp 11)) 23 (.slice ab nb cb') hS ?_ ?_
 · intro _ _ w5 hSw
   have h0 := hSw.1.cell (i := 5) rfl
   clear hSw hS
   go_simp
 simp only [pA, pB, pC, pD]
 refine tN 8 (some 13) (.fieldAddr 25 (.tmp 1) 6) 0 (.pointer (some ⟨w.heap.size, 6, none⟩)) hS ?_
 simp only [pA, pB, pC, pD]
 refine tK 9 (some 14) (.load 3 (.tmp 13)) 3 (.int .i64 pad) hS ?_ ?_
 · intro _ _ w5 hSw
   have h0 := hSw.1.cell (i := 6) rfl
   clear hSw hS
   go_simp
 simp only [pA, pB, pC, pD]
 refine wpAnyH_ready (rs := [10, 12]) (by kernel_rfl) (by simp) ?_
 refine AllReadyH.cons (o := ⟨some 15, .call ⟨.value (.func 18), #[.tmp 12, .tmp 14], #[23, 3]⟩, 23, "law.go:106", #[eD 7, eD 9], none⟩) rfl (fun K hK => ?_) (AllReadyH.cons (o := ⟨some 3, .alloc 36, 0, "law.go:106", #[], none⟩) rfl (fun K hK => ?_) AllReadyH.nil)
 case' _ =>
  rw [if_pos (by kernel_rfl)]
  go_simp
  refine (padded_walk (.slice ab nb cb') bd pad (by omega) w1.drew (HB.o.up (HU0.o.drew))).mono ?_
  rintro e w2 ⟨v5, rfl, hO, h9⟩
  obtain ⟨a5, c5, rfl⟩ := row_len hO
  have HO2 := Ho (show Ow w2 w.heap.size _ (pdd bd pad) from ow_base hO (HU0.o.drew).size)
  have HU2 := Ho ((HU0.o.drew).trans h9)
  have HA2 := Ho ((HA0.o.up (Up.refl _).drew).up h9)
  have HZ2 := Ho ((HZ0.o.up (Up.refl _).drew).up h9)
  have Hs2 := Ho (show w1.drew.heap.size ≤ w2.heap.size from h9.size)
  clear h9 hO hS
  obtain ⟨L5, hL5⟩ := ny ((pdd bd pad).length)
  have HL5 := Ho hL5
  rw [hL5] at HO2 ⊢
  clear hL5
  dsimp only
  refine hK.out _ _ ⟨HA2.o, HZ2.o, HU2.o⟩ (fun hS => ?_)
  clear hK K
  refine tN 11 (some 16) (.build 36 #[(0, .tmp 6), (1, .tmp 8), (2, .tmp 10), (4, .tmp 15)]) 36 (.agg #[.string m, .string t, .int .i64 mi, .slice none 0 0, .slice a5 L5 c5, .bool false]) hS ?_
  simp only [Act.put, pB, pC, pD]
  refine rD 12 (some 3) (.alloc 36) 0 fun _ _ K hK => ?_
  rw [if_pos (by kernel_rfl)]
  go_simp
  have HR3 := Ho (at_new w2 36 z6)
  have HBr := Ho (show w.heap.size + 1 < w2.heap.size from Nat.lt_of_lt_of_le HS1.o (Nat.le_trans (Up.refl w1).drew.size Hs2.o))
  have HO3 := Ho (ow_up HO2.o ((Up.refl w2).alloc (.cells z6.toArray 36)))
  clear HO2
  refine hK.out _ _ ⟨hS.1.up ((Up.refl _).alloc _), hS.2.1.up ((Up.refl _).alloc _), hS.2.2.alloc _⟩ (fun hS => ?_)
  clear hK K
  refine rD 13 none (.store 36 (.tmp 3) (.tmp 16)) 0 fun _ _ K hK => oper_of_list ?_
  refine wpList_store_at rfl 36 _ _ rfl (w2.heap.size) HR3.o ([.string m, .string t, .int .i64 mi, .slice none 0 0, .slice a5 L5 c5, .bool false]) rfl rfl rfl (by kernel_rfl) (by kernel_rfl) ?_
  intro w4 hA4 hg4
  have HR4 := Ho hA4
  have HU4 := Ho (hS.2.2.by hg4 (fun g hg => by have := Option.some.inj hg; have := HBr.o; omega))
  have HA4 := Ho (hS.1.by hg4 (fun e => by have := Option.some.inj e; have := HBr.o; omega))
  have HZ4 := Ho (hS.2.1.by hg4 (fun e => by have := Option.some.inj e; have := HBr.o; omega))
  have HO4 := Ho (HO3.o.kept hg4 (.inr (own_ne HO3.o HR3.o (by decide))))
  clear hA4 hg4 HR3 HO3
  refine hK.out _ _ ⟨HA4.o, HZ4.o, HU4.o⟩ (fun hS => ?_)
  clear hK K hS
  refine wpAnyH_done (by kernel_rfl) ?_ _
  obtain ⟨Br, hBr⟩ := ny w2.heap.size
 rotate_left
 case' _ =>
  rw [if_pos (by kernel_rfl)]
  go_simp
  have HR1 := Ho (show At _ w1.heap.size 36 z6 from at_new w1.drew 36 z6)
  have HUa := Ho ((Up.refl w1.drew).alloc (.cells z6.toArray 36))
  have HBr := Ho (show w.heap.size + 1 < w1.heap.size from HS1.o)
  refine hK.out _ _ ⟨hS.1.up HUa.o, hS.2.1.up HUa.o, hS.2.2.trans HUa.o⟩ (fun hS => ?_)
  clear hK K
  refine rD 10 (some 15) (.call ⟨.value (.func 18), #[.tmp 12, .tmp 14], #[23, 3]⟩) 23 fun _ _ K hK => ?_
  rw [if_pos (by kernel_rfl)]
  go_simp
  refine (padded_walk (.slice ab nb cb') bd pad (by omega) _ (HB.o.up (HU0.o.drew.trans HUa.o))).mono ?_
  rintro e w2 ⟨v5, rfl, hO, h9⟩
  obtain ⟨a5, c5, rfl⟩ := row_len hO
  have HO2 := Ho (show Ow w2 w.heap.size _ (pdd bd pad) from ow_base hO (HU0.o.drew.trans HUa.o).size)
  have HU2 := Ho ((HU0.o.drew.trans HUa.o).trans h9)
  have HA2 := Ho (((HA0.o.up (Up.refl _).drew).up HUa.o).up h9)
  have HZ2 := Ho (((HZ0.o.up (Up.refl _).drew).up HUa.o).up h9)
  have HR3 := Ho (HR1.o.up h9)
  clear h9 hO hS
  obtain ⟨L5, hL5⟩ := ny ((pdd bd pad).length)
  have HL5 := Ho hL5
  rw [hL5] at HO2 ⊢
  clear hL5
  dsimp only
  refine hK.out _ _ ⟨HA2.o, HZ2.o, HU2.o⟩ (fun hS => ?_)
  clear hK K
  have HO3 := Ho HO2.o
  clear HO2
  refine tN 11 (some 16) (.build 36 #[(0, .tmp 6), (1, .tmp 8), (2, .tmp 10), (4, .tmp 15)]) 36 (.agg #[.string m, .string t, .int .i64 mi, .slice none 0 0, .slice a5 L5 c5, .bool false]) hS ?_
  simp only [Act.put, pB, pC, pD]
  refine rD 13 none (.store 36 (.tmp 3) (.tmp 16)) 0 fun _ _ K hK => oper_of_list ?_
  refine wpList_store_at rfl 36 _ _ rfl (w1.heap.size) HR3.o ([.string m, .string t, .int .i64 mi, .slice none 0 0, .slice a5 L5 c5, .bool false]) rfl rfl rfl (by kernel_rfl) (by kernel_rfl) ?_
  intro w4 hA4 hg4
  have HR4 := Ho hA4
  have HU4 := Ho (hS.2.2.by hg4 (fun g hg => by have := Option.some.inj hg; have := HBr.o; omega))
  have HA4 := Ho (hS.1.by hg4 (fun e => by have := Option.some.inj e; have := HBr.o; omega))
  have HZ4 := Ho (hS.2.1.by hg4 (fun e => by have := Option.some.inj e; have := HBr.o; omega))
  have HO4 := Ho (HO3.o.kept hg4 (.inr (own_ne HO3.o HR3.o (by decide))))
  clear hA4 hg4 HR3 HO3
  refine hK.out _ _ ⟨HA4.o, HZ4.o, HU4.o⟩ (fun hS => ?_)
  clear hK K hS
  refine wpAnyH_done (by kernel_rfl) ?_ _
  obtain ⟨Br, hBr⟩ := ny w1.heap.size
 all_goals
  rw [hBr] at HR4 HBr ⊢
  clear hBr
  go_wp2
  go_loopw [4] (fun v4 wr => ∃ i : Nat, v4 = .int .i64 (i : Int) ∧ i ≤ ns.length ∧ Hd (∃ a7 c7, At wr Br 36 [.string m, .string t, .int .i64 mi, .slice a7 i c7, .slice a5 L5 c5, .bool false] ∧ FdO wr w.heap.size a7 (F.take i) c7 ∧ wr.ownsRow w.heap.size 5 1 (.slice a5 L5 c5) L5 (cb (pdd bd pad)) ∧ At wr w.heap.size 25 [.string m, .string t, .int .i64 mi, .slice an ns.length cn, .slice av us.length cv, .slice ab nb cb', .int .i64 pad] ∧ At wr (w.heap.size + 1) 36 z6 ∧ Up w wr)) (fun v4 _ => ns.length - (intOf v4).toNat)
  case atStart => exact ⟨0, rfl, Nat.zero_le _, Ho ⟨none, 0, HR4.o, World.ownsRow_nil _ _ _ _, (by have h := HO4.o; rw [HL5.o] at h; exact h), HA4.o, HZ4.o, HU4.o⟩⟩
  case round =>
   obtain ⟨i, rfl, hi, hQ⟩ := hrel
   obtain ⟨a7, c7, q1, q2, q3, q4, q5, q6⟩ := hQ.o
   have HR7 := Ho q1
   have HF7 := Ho q2
   have HO7 := Ho q3
   have HA7 := Ho q4
   have HZ7 := Ho q5
   have HU7 := Ho q6
   have h3 := q4.cell (i := 3) rfl
   clear hQ q1 q2 q3 q4 q5 q6
   by_cases hil : i < ns.length
   · have hilz : (i : Int) < (ns.length : Int) := by omega
     have hif : i < F.length := by rw [HFl.o]; exact hil
     obtain ⟨b, off, han, k1⟩ := HN.o.cells i hil
     have HAn := Ho han
     clear han
     have HT := Ho (List.take_succ_eq_append_getElem hif)
     have HLn := Ho (show (F.take i).length = i by rw [List.length_take]; omega)
     have hfg := HFg.o i hil hif
     obtain ⟨f, hf⟩ := ny (F[i])
     rw [hf] at HT hfg
     have HFv := Ho (show vat us i = f.v by rw [hfg])
     have HK1 := Ho (show w.cell? ⟨b, off + i, none⟩ = some (.string f.n) by rw [k1, hfg])
     clear hf hfg k1
     have HRd := Ho (HR7.o.up (Up.refl wr).drew)
     have HFd := Ho (ow_up HF7.o (Up.refl wr).drew)
     have HFd' := Ho (show wr.drew.ownsRow w.heap.size 87 2 (.slice a7 i c7) i (fdc (F.take i)) by have := HFd.o; rw [HLn.o] at this; exact this)
     have HOd := Ho (ow_up HO7.o (Up.refl wr).drew)
     have HAd := Ho (HA7.o.up (Up.refl wr).drew)
     have HZd := Ho (HZ7.o.up (Up.refl wr).drew)
     go_wp2
     refine wp_region_held_drew (S := fun w2 => At w2 w.heap.size 25 [.string m, .string t, .int .i64 mi, .slice an ns.length cn, .slice av us.length cv, .slice ab nb cb', .int .i64 pad] ∧ At w2 (w.heap.size + 1) 36 z6 ∧ Up w w2) (by kernel_rfl) ⟨HA7.o.up (Up.refl _).drew, HZ7.o.up (Up.refl _).drew, HU7.o.drew⟩ (fun hS => ?_)
     refine tN 0 (some 24) (.fieldAddr 36 (.tmp 3) 3) 0 (.pointer (some ⟨Br, 3, none⟩)) hS ?_
     simp only [Act.put, pB, pC, pD]
     refine tN 2 (some 26) (.fieldAddr 25 (.tmp 1) 3) 0 (.pointer (some ⟨w.heap.size, 3, none⟩)) hS ?_
     simp only [pA, pB, pC, pD]
     refine tK 3 (some 27) (.load 22 (.tmp 26)) 22 (.slice (some ⟨b, off, none⟩) ns.length cn) hS ?_ ?_
     · intro _ _ w5 hSw
       have h0 := hSw.1.cell (i := 3) rfl
       rw [HAn.o] at h0
       clear hSw hS
       go_simp
     simp only [pA, pB, pC, pD]
     refine tN 4 (some 28) (.move (.tmp 4)) 3 (.int .i64 (i : Int)) hS ?_
     simp only [pA, pB, pC, pD]
     refine tN 5 (some 29) (.indexAddr 22 (.tmp 27) (.tmp 28)) 0 (.pointer (some ⟨b, off + i, none⟩)) hS ?_
     simp only [pA, pB, pC, pD]
     refine tK 6 (some 30) (.load 9 (.tmp 29)) 9 (.string f.n) hS ?_ ?_
     · intro _ _ w5 hSw
       have h0 := hSw.2.2.cell HK1.o
       clear hSw hS
       go_simp
     simp only [pA, pB, pC, pD]
     refine tN 7 (some 31) (.fieldAddr 25 (.tmp 1) 4) 0 (.pointer (some ⟨w.heap.size, 4, none⟩)) hS ?_
     simp only [pA, pB, pC, pD]
     refine tK 8 (some 32) (.load 22 (.tmp 31)) 22 (.slice av us.length cv) hS ?_ ?_
     · intro _ _ w5 hSw
       have h0 := hSw.1.cell (i := 4) rfl
       clear hSw hS
       go_simp
     simp only [pA, pB, pC, pD]
     refine tN 9 (some 33) (.move (.tmp 4)) 3 (.int .i64 (i : Int)) hS ?_
     simp only [pA, pB, pC, pD]
     refine wpAnyH_ready (rs := [1, 10]) (by kernel_rfl) (by simp) ?_
     refine AllReadyH.cons (o := ⟨some 25, .load 34 (.tmp 24), 34, "law.go:108", #[eD 0], none⟩) rfl (fun K hK => ?_) (AllReadyH.cons (o := ⟨some 34, .call ⟨.value (.func 39), #[.tmp 32, .tmp 33], #[22, 3]⟩, 9, "law.go:108", #[eD 8, eD 9], none⟩) rfl (fun K hK => ?_) AllReadyH.nil)
     · rw [if_pos (by kernel_rfl)]
       have k3 := HRd.o.cell (i := 3) rfl
       go_simp
       refine hK.out _ _ hS (fun hS => ?_)
       clear hK K k3
       refine rD 10 (some 34) (.call ⟨.value (.func 39), #[.tmp 32, .tmp 33], #[22, 3]⟩) 9 fun _ _ K hK => ?_
       rw [if_pos (by kernel_rfl)]
       go_simp
       refine (value_walk av us cv i wr.drew (HV.o.up HU7.o.drew)).mono ?_
       rintro e w5 ⟨rfl, h9⟩
       obtain rfl := h9.symm
       clear h9
       rw [HFv.o]
       dsimp only
       refine hK.out _ _ hS (fun hS => ?_)
       clear hK K
       refine tN 11 (some 35) (.build 87 #[(0, .tmp 30), (1, .tmp 34)]) 87 (.agg #[.string f.n, .string f.v]) hS ?_
       simp only [Act.put, pB, pC, pD]
       refine rD 12 (some 36) (.buildSlice 34 1 #[(0, .tmp 35)]) 34 fun _ _ K hK => ?_
       rw [if_pos (by kernel_rfl)]
       go_simp
       refine hK.out _ _ ⟨hS.1.up ((Up.refl _).alloc _), hS.2.1.up ((Up.refl _).alloc _), hS.2.2.alloc _⟩ (fun hS => ?_)
       clear hK K
       refine rD 13 (some 37) (.call ⟨.builtin .append, #[.tmp 25, .tmp 36], #[34, 34]⟩) 34 fun _ _ K hK => oper_of_list ?_
       refine wpList_appFd (w := wr.drew) (N := w.heap.size) rfl _ _ rfl a7 c7 (F.take i) f HLn.o rfl rfl HFd.o HU7.o.drew.size (by omega) ?_
       intro ax2 cx2 w7 o7 u7 g7
       have HU8 := Ho (u7 w HU7.o.drew (Nat.le_refl _))
       have HR8 := Ho (HRd.o.by g7 (own_ne HFd'.o HRd.o (by decide)))
       have HA8 := Ho (HAd.o.by g7 (own_ne HFd'.o HAd.o (by decide)))
       have HZ8 := Ho (HZd.o.by g7 (own_ne HFd'.o HZd.o (by decide)))
       have HB8 := Ho (HOd.o.kept g7 (own_off HOd.o HFd'.o (by decide)))
       have HF8 := Ho (show FdO w7 w.heap.size ax2 (F.take (i + 1)) cx2 by rw [HT.o]; exact o7)
       clear o7 u7 g7
       refine hK.out _ _ ⟨HA8.o, HZ8.o, HU8.o⟩ (fun hS => ?_)
       clear hK K
       simp only [Act.put, pB, pC, pD]
       refine tN 14 (some 38) (.fieldAddr 36 (.tmp 3) 3) 0 (.pointer (some ⟨Br, 3, none⟩)) hS ?_
       simp only [pA, pB, pC, pD]
       refine rD 15 none (.store 34 (.tmp 38) (.tmp 37)) 0 fun _ _ K hK => ?_
       have k3 := HR8.o.cell (i := 3) rfl
       have f3 := HR8.o.thaw 3
       have G8 := grown_set1 w7 Br 3 (.slice ax2 (i + 1) cx2)
       have HR9 := Ho (HR8.o.set 3 (.slice ax2 (i + 1) cx2))
       have HU9 := Ho (HU8.o.by G8 (fun g hg => by have := Option.some.inj hg; have := HBr.o; omega))
       have HA9 := Ho (HA8.o.by G8 (fun e => by have := Option.some.inj e; have := HBr.o; omega))
       have HZ9 := Ho (HZ8.o.by G8 (fun e => by have := Option.some.inj e; have := HBr.o; omega))
       have HB9 := Ho (HB8.o.kept G8 (.inr (own_ne HB8.o HR8.o (by decide))))
       have HF9 := Ho (show FdO (w7.setCell ⟨Br, 3, none⟩ (.slice ax2 (i + 1) cx2)) w.heap.size ax2 (F.take (i + 1)) cx2 from HF8.o.kept G8 (.inr (own_ne HF8.o HR8.o (by decide))))
       clear G8
       rw [if_pos (by kernel_rfl)]
       go_simp
       refine hK.out _ _ ⟨HA9.o, HZ9.o, HU9.o⟩ (fun hS => ?_)
       clear hK K hS
       refine wpAnyH_done (by kernel_rfl) ?_ _
       go_wp2
       go_roundw
       all_goals first
        | exact ⟨i + 1, by go_num, by omega, Ho ⟨ax2, cx2, HR9.o, HF9.o, HB9.o, HA9.o, HZ9.o, HU9.o⟩⟩
        | (simp [intOf]; omega)
     · rw [if_pos (by kernel_rfl)]
       go_simp
       refine (value_walk av us cv i wr.drew (HV.o.up HU7.o.drew)).mono ?_
       rintro e w5 ⟨rfl, h9⟩
       obtain rfl := h9.symm
       clear h9
       rw [HFv.o]
       dsimp only
       refine hK.out _ _ hS (fun hS => ?_)
       clear hK K
       refine tN 11 (some 35) (.build 87 #[(0, .tmp 30), (1, .tmp 34)]) 87 (.agg #[.string f.n, .string f.v]) hS ?_
       simp only [Act.put, pB, pC, pD]
       refine wpAnyH_ready (rs := [1, 12]) (by kernel_rfl) (by simp) ?_
       refine AllReadyH.cons (o := ⟨some 25, .load 34 (.tmp 24), 34, "law.go:108", #[eD 0], none⟩) rfl (fun K hK => ?_) (AllReadyH.cons (o := ⟨some 36, .buildSlice 34 1 #[(0, .tmp 35)], 34, "law.go:108", #[eD 11], none⟩) rfl (fun K hK => ?_) AllReadyH.nil)
       case' _ =>
        rw [if_pos (by kernel_rfl)]
        have k3 := HRd.o.cell (i := 3) rfl
        go_simp
        refine hK.out _ _ hS (fun hS => ?_)
        clear hK K k3
        refine rD 12 (some 36) (.buildSlice 34 1 #[(0, .tmp 35)]) 34 fun _ _ K hK => ?_
        rw [if_pos (by kernel_rfl)]
        go_simp
        refine hK.out _ _ ⟨hS.1.up ((Up.refl _).alloc _), hS.2.1.up ((Up.refl _).alloc _), hS.2.2.alloc _⟩ (fun hS => ?_)
        clear hK K
       rotate_left
       case' _ =>
        rw [if_pos (by kernel_rfl)]
        go_simp
        refine hK.out _ _ ⟨hS.1.up ((Up.refl _).alloc _), hS.2.1.up ((Up.refl _).alloc _), hS.2.2.alloc _⟩ (fun hS => ?_)
        clear hK K
        refine rD 1 (some 25) (.load 34 (.tmp 24)) 34 fun _ _ K hK => ?_
        rw [if_pos (by kernel_rfl)]
        have k3 := ((HR7.o.up ((Up.refl wr).alloc (.cells #[.string f.n, .string f.v] 87))).up (Up.refl _).drew).cell (i := 3) rfl
        go_simp
        refine hK.out _ _ hS (fun hS => ?_)
        clear hK K k3
       all_goals
        refine rD 13 (some 37) (.call ⟨.builtin .append, #[.tmp 25, .tmp 36], #[34, 34]⟩) 34 fun _ _ K hK => oper_of_list ?_
        refine wpList_appFd (w := wr.drew) (N := w.heap.size) rfl _ _ rfl a7 c7 (F.take i) f HLn.o rfl rfl HFd.o HU7.o.drew.size (by omega) ?_
        intro ax2 cx2 w7 o7 u7 g7
        have HU8 := Ho (u7 w HU7.o.drew (Nat.le_refl _))
        have HR8 := Ho (HRd.o.by g7 (own_ne HFd'.o HRd.o (by decide)))
        have HA8 := Ho (HAd.o.by g7 (own_ne HFd'.o HAd.o (by decide)))
        have HZ8 := Ho (HZd.o.by g7 (own_ne HFd'.o HZd.o (by decide)))
        have HB8 := Ho (HOd.o.kept g7 (own_off HOd.o HFd'.o (by decide)))
        have HF8 := Ho (show FdO w7 w.heap.size ax2 (F.take (i + 1)) cx2 by rw [HT.o]; exact o7)
        clear o7 u7 g7
        refine hK.out _ _ ⟨HA8.o, HZ8.o, HU8.o⟩ (fun hS => ?_)
        clear hK K
        simp only [Act.put, pB, pC, pD]
        refine tN 14 (some 38) (.fieldAddr 36 (.tmp 3) 3) 0 (.pointer (some ⟨Br, 3, none⟩)) hS ?_
        simp only [pA, pB, pC, pD]
        refine rD 15 none (.store 34 (.tmp 38) (.tmp 37)) 0 fun _ _ K hK => ?_
        have k3 := HR8.o.cell (i := 3) rfl
        have f3 := HR8.o.thaw 3
        have G8 := grown_set1 w7 Br 3 (.slice ax2 (i + 1) cx2)
        have HR9 := Ho (HR8.o.set 3 (.slice ax2 (i + 1) cx2))
        have HU9 := Ho (HU8.o.by G8 (fun g hg => by have := Option.some.inj hg; have := HBr.o; omega))
        have HA9 := Ho (HA8.o.by G8 (fun e => by have := Option.some.inj e; have := HBr.o; omega))
        have HZ9 := Ho (HZ8.o.by G8 (fun e => by have := Option.some.inj e; have := HBr.o; omega))
        have HB9 := Ho (HB8.o.kept G8 (.inr (own_ne HB8.o HR8.o (by decide))))
        have HF9 := Ho (show FdO (w7.setCell ⟨Br, 3, none⟩ (.slice ax2 (i + 1) cx2)) w.heap.size ax2 (F.take (i + 1)) cx2 from HF8.o.kept G8 (.inr (own_ne HF8.o HR8.o (by decide))))
        clear G8
        rw [if_pos (by kernel_rfl)]
        go_simp
        refine hK.out _ _ ⟨HA9.o, HZ9.o, HU9.o⟩ (fun hS => ?_)
        clear hK K hS
        refine wpAnyH_done (by kernel_rfl) ?_ _
        go_wp2
        go_roundw
        all_goals first
         | exact ⟨i + 1, by go_num, by omega, Ho ⟨ax2, cx2, HR9.o, HF9.o, HB9.o, HA9.o, HZ9.o, HU9.o⟩⟩
         | (simp [intOf]; omega)
   · have hilz : ¬ (i : Int) < (ns.length : Int) := by omega
     have hin : i = ns.length := by omega
     subst hin
     have HF8 := Ho (show FdO wr w.heap.size a7 F c7 by
      have h1 := HF7.o
      rw [List.take_of_length_le (by rw [HFl.o]; exact Nat.le_refl _)] at h1
      exact h1)
     go_wp2_with (with_reducible refine sL 36 ?_)
     show wpList _ _ _ _ _ _
     refine wpList_load_mid rfl _ _ rfl Br 0 rfl [.string m, .string t, .int .i64 mi, .slice a7 ns.length c7, .slice a5 L5 c5, .bool false] _ HR7.o.range Tryz.underlying36 rfl (by kernel_rfl) ?_
     simp only [Act.put, pB, pC, pD]
     refine wpList_store_at rfl 36 _ _ rfl (w.heap.size + 1) HZ7.o [.string m, .string t, .int .i64 mi, .slice a7 ns.length c7, .slice a5 L5 c5, .bool false] rfl rfl rfl (by kernel_rfl) (by kernel_rfl) ?_
     intro w8 hA8 hg8
     have HA8 := Ho hA8
     have HU8 := Ho (HU7.o.bz hg8)
     have HF9 := Ho (show FdO w8 w.heap.size a7 F c7 from HF8.o.kept hg8 (.inr (own_ne HF8.o HZ7.o (by decide))))
     have HO9 := Ho (HO7.o.kept hg8 (.inr (own_ne HO7.o HZ7.o (by decide))))
     clear hA8 hg8
     simp only [Act.put]
     repeat go_step
     refine bodyPost_ret (results_agg1 Tryz.results13 _ _ (w.heap.size + 1) [.string m, .string t, .int .i64 mi, .slice a7 ns.length c7, .slice a5 L5 c5, .bool false] rfl HA8.o.range Tryz.underlying36 rfl (by kernel_rfl)) rfl ?_
     exact ⟨⟨a7, c7, _, rfl, Ho ⟨HF9.o, by unfold Ow; rw [HL5.o]; exact HO9.o⟩⟩, HU8.o⟩
end Go.Proofs.YtkaoalcffgnfeaaGreatDoor
namespace Go.Proofs.YtkaoalcffgnfeaaGreatDoor
open Go.RowKit Go.Shelf TextNum
set_option maxRecDepth 100000 in
set_option maxHeartbeats 8000000 in
theorem asked_walk (m t : ByteArray) (mi : Int) (an : Option Addr) (ns : List ByteArray) (cn : Nat) (av : Option Addr) (us : List ByteArray) (cv : Nat) (ab : Option Addr) (nb cb' : Nat) (bd : List UInt8) (pad : Int) (w : World) (hN : StL w an ns cn) (hV : StL w av us cv) (hB : Sb w (.slice ab nb cb') bd) (hnl : ns.length ≤ 1048576) (hbl : bd.length ≤ 1048576) :
 Calls Tryz.prog 11 #[.agg #[.string m, .string t, .int .i64 mi, .slice an ns.length cn, .slice av us.length cv, .slice ab nb cb', .int .i64 pad]] w fun e w' => (∃ a c v, e = .returned (.agg #[.string m, .string t, .int .i64 mi, .slice a ns.length c, v, .bool false]) ∧ Hd (RfO w' w.heap.size a (mkF ns us) c ∧ Ow w' w.heap.size v (pdd bd pad))) ∧ Up w w' := by
 have HN := Ho hN
 have HV := Ho hV
 have HB := Ho hB
 have hcap := hN.cap
 have hcapv := hV.cap
 obtain ⟨hbn, hbc, hbm⟩ := hB.len
 unfold maxLen at hbm
 clear hN hV hB hbn
 obtain ⟨F, hF⟩ := ny (mkF ns us)
 have HFl := Ho (show F.length = ns.length by rw [← hF, mkF_len])
 have HFg := Ho (show ∀ i (h : i < ns.length) (h' : i < F.length), F[i] = ⟨ns[i], vat us i⟩ by subst hF; exact fun i h h' => mkF_get h h')
 rw [hF]
 clear hF
 have HA0 := Ho ((at_new w 25 [.string m, .string t, .int .i64 mi, .slice an ns.length cn, .slice av us.length cv, .slice ab nb cb', .int .i64 pad]).up ((Up.refl _).alloc (.cells z6.toArray 44)))
 have HZ0 := Ho (at_new (w.alloc (.cells [.string m, .string t, .int .i64 mi, .slice an ns.length cn, .slice av us.length cv, .slice ab nb cb', .int .i64 pad].toArray 25)) 44 z6)
 have HU0 := Ho (((Up.refl w).alloc (.cells [.string m, .string t, .int .i64 mi, .slice an ns.length cn, .slice av us.length cv, .slice ab nb cb', .int .i64 pad].toArray 25)).alloc (.cells z6.toArray 44))
 rw [alloc_size] at HZ0
 go_enter Tryz.func11, Tryz.ntmps11
 go_wp2
 obtain ⟨w1, hw1⟩ := ny ((w.alloc (.cells [.string m, .string t, .int .i64 mi, .slice an ns.length cn, .slice av us.length cv, .slice ab nb cb', .int .i64 pad].toArray 25)).alloc (.cells z6.toArray 44))
 have HS1 := Ho (show w.heap.size + 1 < w1.heap.size by rw [← hw1, alloc_size, alloc_size]; omega)
 rw [hw1] at HA0 HU0 HZ0
 change Code.wp _ _ _ _ ((w.alloc (.cells [.string m, .string t, .int .i64 mi, .slice an ns.length cn, .slice av us.length cv, .slice ab nb cb', .int .i64 pad].toArray 25)).alloc (.cells z6.toArray 44))
 rw [hw1]
 clear hw1
 refine wp_region_held_drew (S := fun w2 => At w2 w.heap.size 25 [.string m, .string t, .int .i64 mi, .slice an ns.length cn, .slice av us.length cv, .slice ab nb cb', .int .i64 pad] ∧ At w2 (w.heap.size + 1) 44 z6 ∧ Up w w2) (by kernel_rfl) ⟨HA0.o.up (Up.refl _).drew, HZ0.o.up (Up.refl _).drew, HU0.o.drew⟩ (fun hS => ?_)
 refine tN 0 (some 5) (.fieldAddr 25 (.tmp 1) 0) 0 (.pointer (some ⟨w.heap.size, 0, none⟩)) hS ?_
 simp only [Act.put, pB, pC, pD]
 refine tK 1 (some 6) (.load 9 (.tmp 5)) 9 (.string m) hS ?_ ?_
 · intro _ _ w5 hSw
   have h0 := hSw.1.cell (i := 0) rfl
   clear hSw hS
   go_simp
 simp only [pA, pB, pC, pD]
 refine tN 2 (some 7) (.fieldAddr 25 (.tmp 1) 1) 0 (.pointer (some ⟨w.heap.size, 1, none⟩)) hS ?_
 simp only [pA, pB, pC, pD]
 refine tK 3 (some 8) (.load 9 (.tmp 7)) 9 (.string t) hS ?_ ?_
 · intro _ _ w5 hSw
   have h0 := hSw.1.cell (i := 1) rfl
   clear hSw hS
   go_simp
 simp only [pA, pB, pC, pD]
 refine tN 4 (some 9) (.fieldAddr 25 (.tmp 1) 2) 0 (.pointer (some ⟨w.heap.size, 2, none⟩)) hS ?_
 simp only [pA, pB, pC, pD]
 refine tK 5 (some 10) (.load 3 (.tmp 9)) 3 (.int .i64 mi) hS ?_ ?_
 · intro _ _ w5 hSw
   have h0 := hSw.1.cell (i := 2) rfl
   clear hSw hS
   go_simp
 simp only [pA, pB, pC, pD]
 refine tN 6 (some 11) (.fieldAddr 25 (.tmp 1) 5) 0 (.pointer (some ⟨w.heap.size, 5, none⟩)) hS ?_
 simp only [pA, pB, pC, pD]
 refine tK 7 (some 12) (.load 23 (.tmp 11)) 23 (.slice ab nb cb') hS ?_ ?_
 · intro _ _ w5 hSw
   have h0 := hSw.1.cell (i := 5) rfl
   clear hSw hS
   go_simp
 simp only [pA, pB, pC, pD]
 refine tN 8 (some 13) (.fieldAddr 25 (.tmp 1) 6) 0 (.pointer (some ⟨w.heap.size, 6, none⟩)) hS ?_
 simp only [pA, pB, pC, pD]
 refine tK 9 (some 14) (.load 3 (.tmp 13)) 3 (.int .i64 pad) hS ?_ ?_
 · intro _ _ w5 hSw
   have h0 := hSw.1.cell (i := 6) rfl
   clear hSw hS
   go_simp
 simp only [pA, pB, pC, pD]
 refine wpAnyH_ready (rs := [10, 12]) (by kernel_rfl) (by simp) ?_
 refine AllReadyH.cons (o := ⟨some 15, .call ⟨.value (.func 18), #[.tmp 12, .tmp 14], #[23, 3]⟩, 23, "law.go:115", #[eD 7, eD 9], none⟩) rfl (fun K hK => ?_) (AllReadyH.cons (o := ⟨some 3, .alloc 44, 0, "law.go:115", #[], none⟩) rfl (fun K hK => ?_) AllReadyH.nil)
 case' _ =>
  rw [if_pos (by kernel_rfl)]
  go_simp
  refine (padded_walk (.slice ab nb cb') bd pad (by omega) w1.drew (HB.o.up (HU0.o.drew))).mono ?_
  rintro e w2 ⟨v5, rfl, hO, h9⟩
  obtain ⟨a5, c5, rfl⟩ := row_len hO
  have HO2 := Ho (show Ow w2 w.heap.size _ (pdd bd pad) from ow_base hO (HU0.o.drew).size)
  have HU2 := Ho ((HU0.o.drew).trans h9)
  have HA2 := Ho ((HA0.o.up (Up.refl _).drew).up h9)
  have HZ2 := Ho ((HZ0.o.up (Up.refl _).drew).up h9)
  have Hs2 := Ho (show w1.drew.heap.size ≤ w2.heap.size from h9.size)
  clear h9 hO hS
  obtain ⟨L5, hL5⟩ := ny ((pdd bd pad).length)
  have HL5 := Ho hL5
  rw [hL5] at HO2 ⊢
  clear hL5
  dsimp only
  refine hK.out _ _ ⟨HA2.o, HZ2.o, HU2.o⟩ (fun hS => ?_)
  clear hK K
  refine tN 11 (some 16) (.build 44 #[(0, .tmp 6), (1, .tmp 8), (2, .tmp 10), (4, .tmp 15)]) 44 (.agg #[.string m, .string t, .int .i64 mi, .slice none 0 0, .slice a5 L5 c5, .bool false]) hS ?_
  simp only [Act.put, pB, pC, pD]
  refine rD 12 (some 3) (.alloc 44) 0 fun _ _ K hK => ?_
  rw [if_pos (by kernel_rfl)]
  go_simp
  have HR3 := Ho (at_new w2 44 z6)
  have HBr := Ho (show w.heap.size + 1 < w2.heap.size from Nat.lt_of_lt_of_le HS1.o (Nat.le_trans (Up.refl w1).drew.size Hs2.o))
  have HO3 := Ho (ow_up HO2.o ((Up.refl w2).alloc (.cells z6.toArray 44)))
  clear HO2
  refine hK.out _ _ ⟨hS.1.up ((Up.refl _).alloc _), hS.2.1.up ((Up.refl _).alloc _), hS.2.2.alloc _⟩ (fun hS => ?_)
  clear hK K
  refine rD 13 none (.store 44 (.tmp 3) (.tmp 16)) 0 fun _ _ K hK => oper_of_list ?_
  refine wpList_store_at rfl 44 _ _ rfl (w2.heap.size) HR3.o ([.string m, .string t, .int .i64 mi, .slice none 0 0, .slice a5 L5 c5, .bool false]) rfl rfl rfl (by kernel_rfl) (by kernel_rfl) ?_
  intro w4 hA4 hg4
  have HR4 := Ho hA4
  have HU4 := Ho (hS.2.2.by hg4 (fun g hg => by have := Option.some.inj hg; have := HBr.o; omega))
  have HA4 := Ho (hS.1.by hg4 (fun e => by have := Option.some.inj e; have := HBr.o; omega))
  have HZ4 := Ho (hS.2.1.by hg4 (fun e => by have := Option.some.inj e; have := HBr.o; omega))
  have HO4 := Ho (HO3.o.kept hg4 (.inr (own_ne HO3.o HR3.o (by decide))))
  clear hA4 hg4 HR3 HO3
  refine hK.out _ _ ⟨HA4.o, HZ4.o, HU4.o⟩ (fun hS => ?_)
  clear hK K hS
  refine wpAnyH_done (by kernel_rfl) ?_ _
  obtain ⟨Br, hBr⟩ := ny w2.heap.size
 rotate_left
 case' _ =>
  rw [if_pos (by kernel_rfl)]
  go_simp
  have HR1 := Ho (show At _ w1.heap.size 44 z6 from at_new w1.drew 44 z6)
  have HUa := Ho ((Up.refl w1.drew).alloc (.cells z6.toArray 44))
  have HBr := Ho (show w.heap.size + 1 < w1.heap.size from HS1.o)
  refine hK.out _ _ ⟨hS.1.up HUa.o, hS.2.1.up HUa.o, hS.2.2.trans HUa.o⟩ (fun hS => ?_)
  clear hK K
  refine rD 10 (some 15) (.call ⟨.value (.func 18), #[.tmp 12, .tmp 14], #[23, 3]⟩) 23 fun _ _ K hK => ?_
  rw [if_pos (by kernel_rfl)]
  go_simp
  refine (padded_walk (.slice ab nb cb') bd pad (by omega) _ (HB.o.up (HU0.o.drew.trans HUa.o))).mono ?_
  rintro e w2 ⟨v5, rfl, hO, h9⟩
  obtain ⟨a5, c5, rfl⟩ := row_len hO
  have HO2 := Ho (show Ow w2 w.heap.size _ (pdd bd pad) from ow_base hO (HU0.o.drew.trans HUa.o).size)
  have HU2 := Ho ((HU0.o.drew.trans HUa.o).trans h9)
  have HA2 := Ho (((HA0.o.up (Up.refl _).drew).up HUa.o).up h9)
  have HZ2 := Ho (((HZ0.o.up (Up.refl _).drew).up HUa.o).up h9)
  have HR3 := Ho (HR1.o.up h9)
  clear h9 hO hS
  obtain ⟨L5, hL5⟩ := ny ((pdd bd pad).length)
  have HL5 := Ho hL5
  rw [hL5] at HO2 ⊢
  clear hL5
  dsimp only
  refine hK.out _ _ ⟨HA2.o, HZ2.o, HU2.o⟩ (fun hS => ?_)
  clear hK K
  have HO3 := Ho HO2.o
  clear HO2
  refine tN 11 (some 16) (.build 44 #[(0, .tmp 6), (1, .tmp 8), (2, .tmp 10), (4, .tmp 15)]) 44 (.agg #[.string m, .string t, .int .i64 mi, .slice none 0 0, .slice a5 L5 c5, .bool false]) hS ?_
  simp only [Act.put, pB, pC, pD]
  refine rD 13 none (.store 44 (.tmp 3) (.tmp 16)) 0 fun _ _ K hK => oper_of_list ?_
  refine wpList_store_at rfl 44 _ _ rfl (w1.heap.size) HR3.o ([.string m, .string t, .int .i64 mi, .slice none 0 0, .slice a5 L5 c5, .bool false]) rfl rfl rfl (by kernel_rfl) (by kernel_rfl) ?_
  intro w4 hA4 hg4
  have HR4 := Ho hA4
  have HU4 := Ho (hS.2.2.by hg4 (fun g hg => by have := Option.some.inj hg; have := HBr.o; omega))
  have HA4 := Ho (hS.1.by hg4 (fun e => by have := Option.some.inj e; have := HBr.o; omega))
  have HZ4 := Ho (hS.2.1.by hg4 (fun e => by have := Option.some.inj e; have := HBr.o; omega))
  have HO4 := Ho (HO3.o.kept hg4 (.inr (own_ne HO3.o HR3.o (by decide))))
  clear hA4 hg4 HR3 HO3
  refine hK.out _ _ ⟨HA4.o, HZ4.o, HU4.o⟩ (fun hS => ?_)
  clear hK K hS
  refine wpAnyH_done (by kernel_rfl) ?_ _
  obtain ⟨Br, hBr⟩ := ny w1.heap.size
 all_goals
  rw [hBr] at HR4 HBr ⊢
  clear hBr
  go_wp2
  go_loopw [4] (fun v4 wr => ∃ i : Nat, v4 = .int .i64 (i : Int) ∧ i ≤ ns.length ∧ Hd (∃ a7 c7, At wr Br 44 [.string m, .string t, .int .i64 mi, .slice a7 i c7, .slice a5 L5 c5, .bool false] ∧ RfO wr w.heap.size a7 (F.take i) c7 ∧ wr.ownsRow w.heap.size 5 1 (.slice a5 L5 c5) L5 (cb (pdd bd pad)) ∧ At wr w.heap.size 25 [.string m, .string t, .int .i64 mi, .slice an ns.length cn, .slice av us.length cv, .slice ab nb cb', .int .i64 pad] ∧ At wr (w.heap.size + 1) 44 z6 ∧ Up w wr)) (fun v4 _ => ns.length - (intOf v4).toNat)
  case atStart => exact ⟨0, rfl, Nat.zero_le _, Ho ⟨none, 0, HR4.o, World.ownsRow_nil _ _ _ _, (by have h := HO4.o; rw [HL5.o] at h; exact h), HA4.o, HZ4.o, HU4.o⟩⟩
  case round =>
   obtain ⟨i, rfl, hi, hQ⟩ := hrel
   obtain ⟨a7, c7, q1, q2, q3, q4, q5, q6⟩ := hQ.o
   have HR7 := Ho q1
   have HF7 := Ho q2
   have HO7 := Ho q3
   have HA7 := Ho q4
   have HZ7 := Ho q5
   have HU7 := Ho q6
   have h3 := q4.cell (i := 3) rfl
   clear hQ q1 q2 q3 q4 q5 q6
   by_cases hil : i < ns.length
   · have hilz : (i : Int) < (ns.length : Int) := by omega
     have hif : i < F.length := by rw [HFl.o]; exact hil
     obtain ⟨b, off, han, k1⟩ := HN.o.cells i hil
     have HAn := Ho han
     clear han
     have HT := Ho (List.take_succ_eq_append_getElem hif)
     have HLn := Ho (show (F.take i).length = i by rw [List.length_take]; omega)
     have hfg := HFg.o i hil hif
     obtain ⟨f, hf⟩ := ny (F[i])
     rw [hf] at HT hfg
     have HFv := Ho (show vat us i = f.v by rw [hfg])
     have HK1 := Ho (show w.cell? ⟨b, off + i, none⟩ = some (.string f.n) by rw [k1, hfg])
     clear hf hfg k1
     have HRd := Ho (HR7.o.up (Up.refl wr).drew)
     have HFd := Ho (ow_up HF7.o (Up.refl wr).drew)
     have HFd' := Ho (show wr.drew.ownsRow w.heap.size 85 2 (.slice a7 i c7) i (fdc (F.take i)) by have := HFd.o; rw [HLn.o] at this; exact this)
     have HOd := Ho (ow_up HO7.o (Up.refl wr).drew)
     have HAd := Ho (HA7.o.up (Up.refl wr).drew)
     have HZd := Ho (HZ7.o.up (Up.refl wr).drew)
     go_wp2
     refine wp_region_held_drew (S := fun w2 => At w2 w.heap.size 25 [.string m, .string t, .int .i64 mi, .slice an ns.length cn, .slice av us.length cv, .slice ab nb cb', .int .i64 pad] ∧ At w2 (w.heap.size + 1) 44 z6 ∧ Up w w2) (by kernel_rfl) ⟨HA7.o.up (Up.refl _).drew, HZ7.o.up (Up.refl _).drew, HU7.o.drew⟩ (fun hS => ?_)
     refine tN 0 (some 24) (.fieldAddr 44 (.tmp 3) 3) 0 (.pointer (some ⟨Br, 3, none⟩)) hS ?_
     simp only [Act.put, pB, pC, pD]
     refine tN 2 (some 26) (.fieldAddr 25 (.tmp 1) 3) 0 (.pointer (some ⟨w.heap.size, 3, none⟩)) hS ?_
     simp only [pA, pB, pC, pD]
     refine tK 3 (some 27) (.load 22 (.tmp 26)) 22 (.slice (some ⟨b, off, none⟩) ns.length cn) hS ?_ ?_
     · intro _ _ w5 hSw
       have h0 := hSw.1.cell (i := 3) rfl
       rw [HAn.o] at h0
       clear hSw hS
       go_simp
     simp only [pA, pB, pC, pD]
     refine tN 4 (some 28) (.move (.tmp 4)) 3 (.int .i64 (i : Int)) hS ?_
     simp only [pA, pB, pC, pD]
     refine tN 5 (some 29) (.indexAddr 22 (.tmp 27) (.tmp 28)) 0 (.pointer (some ⟨b, off + i, none⟩)) hS ?_
     simp only [pA, pB, pC, pD]
     refine tK 6 (some 30) (.load 9 (.tmp 29)) 9 (.string f.n) hS ?_ ?_
     · intro _ _ w5 hSw
       have h0 := hSw.2.2.cell HK1.o
       clear hSw hS
       go_simp
     simp only [pA, pB, pC, pD]
     refine tN 7 (some 31) (.fieldAddr 25 (.tmp 1) 4) 0 (.pointer (some ⟨w.heap.size, 4, none⟩)) hS ?_
     simp only [pA, pB, pC, pD]
     refine tK 8 (some 32) (.load 22 (.tmp 31)) 22 (.slice av us.length cv) hS ?_ ?_
     · intro _ _ w5 hSw
       have h0 := hSw.1.cell (i := 4) rfl
       clear hSw hS
       go_simp
     simp only [pA, pB, pC, pD]
     refine tN 9 (some 33) (.move (.tmp 4)) 3 (.int .i64 (i : Int)) hS ?_
     simp only [pA, pB, pC, pD]
     refine wpAnyH_ready (rs := [1, 10]) (by kernel_rfl) (by simp) ?_
     refine AllReadyH.cons (o := ⟨some 25, .load 42 (.tmp 24), 42, "law.go:117", #[eD 0], none⟩) rfl (fun K hK => ?_) (AllReadyH.cons (o := ⟨some 34, .call ⟨.value (.func 39), #[.tmp 32, .tmp 33], #[22, 3]⟩, 9, "law.go:117", #[eD 8, eD 9], none⟩) rfl (fun K hK => ?_) AllReadyH.nil)
     · rw [if_pos (by kernel_rfl)]
       have k3 := HRd.o.cell (i := 3) rfl
       go_simp
       refine hK.out _ _ hS (fun hS => ?_)
       clear hK K k3
       refine rD 10 (some 34) (.call ⟨.value (.func 39), #[.tmp 32, .tmp 33], #[22, 3]⟩) 9 fun _ _ K hK => ?_
       rw [if_pos (by kernel_rfl)]
       go_simp
       refine (value_walk av us cv i wr.drew (HV.o.up HU7.o.drew)).mono ?_
       rintro e w5 ⟨rfl, h9⟩
       obtain rfl := h9.symm
       clear h9
       rw [HFv.o]
       dsimp only
       refine hK.out _ _ hS (fun hS => ?_)
       clear hK K
       refine tN 11 (some 35) (.build 85 #[(0, .tmp 30), (1, .tmp 34)]) 85 (.agg #[.string f.n, .string f.v]) hS ?_
       simp only [Act.put, pB, pC, pD]
       refine rD 12 (some 36) (.buildSlice 42 1 #[(0, .tmp 35)]) 42 fun _ _ K hK => ?_
       rw [if_pos (by kernel_rfl)]
       go_simp
       refine hK.out _ _ ⟨hS.1.up ((Up.refl _).alloc _), hS.2.1.up ((Up.refl _).alloc _), hS.2.2.alloc _⟩ (fun hS => ?_)
       clear hK K
       refine rD 13 (some 37) (.call ⟨.builtin .append, #[.tmp 25, .tmp 36], #[42, 42]⟩) 42 fun _ _ K hK => oper_of_list ?_
       refine wpList_appRf (w := wr.drew) (N := w.heap.size) rfl _ _ rfl a7 c7 (F.take i) f HLn.o rfl rfl HFd.o HU7.o.drew.size (by omega) ?_
       intro ax2 cx2 w7 o7 u7 g7
       have HU8 := Ho (u7 w HU7.o.drew (Nat.le_refl _))
       have HR8 := Ho (HRd.o.by g7 (own_ne HFd'.o HRd.o (by decide)))
       have HA8 := Ho (HAd.o.by g7 (own_ne HFd'.o HAd.o (by decide)))
       have HZ8 := Ho (HZd.o.by g7 (own_ne HFd'.o HZd.o (by decide)))
       have HB8 := Ho (HOd.o.kept g7 (own_off HOd.o HFd'.o (by decide)))
       have HF8 := Ho (show RfO w7 w.heap.size ax2 (F.take (i + 1)) cx2 by rw [HT.o]; exact o7)
       clear o7 u7 g7
       refine hK.out _ _ ⟨HA8.o, HZ8.o, HU8.o⟩ (fun hS => ?_)
       clear hK K
       simp only [Act.put, pB, pC, pD]
       refine tN 14 (some 38) (.fieldAddr 44 (.tmp 3) 3) 0 (.pointer (some ⟨Br, 3, none⟩)) hS ?_
       simp only [pA, pB, pC, pD]
       refine rD 15 none (.store 42 (.tmp 38) (.tmp 37)) 0 fun _ _ K hK => ?_
       have k3 := HR8.o.cell (i := 3) rfl
       have f3 := HR8.o.thaw 3
       have G8 := grown_set1 w7 Br 3 (.slice ax2 (i + 1) cx2)
       have HR9 := Ho (HR8.o.set 3 (.slice ax2 (i + 1) cx2))
       have HU9 := Ho (HU8.o.by G8 (fun g hg => by have := Option.some.inj hg; have := HBr.o; omega))
       have HA9 := Ho (HA8.o.by G8 (fun e => by have := Option.some.inj e; have := HBr.o; omega))
       have HZ9 := Ho (HZ8.o.by G8 (fun e => by have := Option.some.inj e; have := HBr.o; omega))
       have HB9 := Ho (HB8.o.kept G8 (.inr (own_ne HB8.o HR8.o (by decide))))
       have HF9 := Ho (show RfO (w7.setCell ⟨Br, 3, none⟩ (.slice ax2 (i + 1) cx2)) w.heap.size ax2 (F.take (i + 1)) cx2 from HF8.o.kept G8 (.inr (own_ne HF8.o HR8.o (by decide))))
       clear G8
       rw [if_pos (by kernel_rfl)]
       go_simp
       refine hK.out _ _ ⟨HA9.o, HZ9.o, HU9.o⟩ (fun hS => ?_)
       clear hK K hS
       refine wpAnyH_done (by kernel_rfl) ?_ _
       go_wp2
       go_roundw
       all_goals first
        | exact ⟨i + 1, by go_num, by omega, Ho ⟨ax2, cx2, HR9.o, HF9.o, HB9.o, HA9.o, HZ9.o, HU9.o⟩⟩
        | (simp [intOf]; omega)
     · rw [if_pos (by kernel_rfl)]
       go_simp
       refine (value_walk av us cv i wr.drew (HV.o.up HU7.o.drew)).mono ?_
       rintro e w5 ⟨rfl, h9⟩
       obtain rfl := h9.symm
       clear h9
       rw [HFv.o]
       dsimp only
       refine hK.out _ _ hS (fun hS => ?_)
       clear hK K
       refine tN 11 (some 35) (.build 85 #[(0, .tmp 30), (1, .tmp 34)]) 85 (.agg #[.string f.n, .string f.v]) hS ?_
       simp only [Act.put, pB, pC, pD]
       refine wpAnyH_ready (rs := [1, 12]) (by kernel_rfl) (by simp) ?_
       refine AllReadyH.cons (o := ⟨some 25, .load 42 (.tmp 24), 42, "law.go:117", #[eD 0], none⟩) rfl (fun K hK => ?_) (AllReadyH.cons (o := ⟨some 36, .buildSlice 42 1 #[(0, .tmp 35)], 42, "law.go:117", #[eD 11], none⟩) rfl (fun K hK => ?_) AllReadyH.nil)
       case' _ =>
        rw [if_pos (by kernel_rfl)]
        have k3 := HRd.o.cell (i := 3) rfl
        go_simp
        refine hK.out _ _ hS (fun hS => ?_)
        clear hK K k3
        refine rD 12 (some 36) (.buildSlice 42 1 #[(0, .tmp 35)]) 42 fun _ _ K hK => ?_
        rw [if_pos (by kernel_rfl)]
        go_simp
        refine hK.out _ _ ⟨hS.1.up ((Up.refl _).alloc _), hS.2.1.up ((Up.refl _).alloc _), hS.2.2.alloc _⟩ (fun hS => ?_)
        clear hK K
       rotate_left
       case' _ =>
        rw [if_pos (by kernel_rfl)]
        go_simp
        refine hK.out _ _ ⟨hS.1.up ((Up.refl _).alloc _), hS.2.1.up ((Up.refl _).alloc _), hS.2.2.alloc _⟩ (fun hS => ?_)
        clear hK K
        refine rD 1 (some 25) (.load 42 (.tmp 24)) 42 fun _ _ K hK => ?_
        rw [if_pos (by kernel_rfl)]
        have k3 := ((HR7.o.up ((Up.refl wr).alloc (.cells #[.string f.n, .string f.v] 85))).up (Up.refl _).drew).cell (i := 3) rfl
        go_simp
        refine hK.out _ _ hS (fun hS => ?_)
        clear hK K k3
       all_goals
        refine rD 13 (some 37) (.call ⟨.builtin .append, #[.tmp 25, .tmp 36], #[42, 42]⟩) 42 fun _ _ K hK => oper_of_list ?_
        refine wpList_appRf (w := wr.drew) (N := w.heap.size) rfl _ _ rfl a7 c7 (F.take i) f HLn.o rfl rfl HFd.o HU7.o.drew.size (by omega) ?_
        intro ax2 cx2 w7 o7 u7 g7
        have HU8 := Ho (u7 w HU7.o.drew (Nat.le_refl _))
        have HR8 := Ho (HRd.o.by g7 (own_ne HFd'.o HRd.o (by decide)))
        have HA8 := Ho (HAd.o.by g7 (own_ne HFd'.o HAd.o (by decide)))
        have HZ8 := Ho (HZd.o.by g7 (own_ne HFd'.o HZd.o (by decide)))
        have HB8 := Ho (HOd.o.kept g7 (own_off HOd.o HFd'.o (by decide)))
        have HF8 := Ho (show RfO w7 w.heap.size ax2 (F.take (i + 1)) cx2 by rw [HT.o]; exact o7)
        clear o7 u7 g7
        refine hK.out _ _ ⟨HA8.o, HZ8.o, HU8.o⟩ (fun hS => ?_)
        clear hK K
        simp only [Act.put, pB, pC, pD]
        refine tN 14 (some 38) (.fieldAddr 44 (.tmp 3) 3) 0 (.pointer (some ⟨Br, 3, none⟩)) hS ?_
        simp only [pA, pB, pC, pD]
        refine rD 15 none (.store 42 (.tmp 38) (.tmp 37)) 0 fun _ _ K hK => ?_
        have k3 := HR8.o.cell (i := 3) rfl
        have f3 := HR8.o.thaw 3
        have G8 := grown_set1 w7 Br 3 (.slice ax2 (i + 1) cx2)
        have HR9 := Ho (HR8.o.set 3 (.slice ax2 (i + 1) cx2))
        have HU9 := Ho (HU8.o.by G8 (fun g hg => by have := Option.some.inj hg; have := HBr.o; omega))
        have HA9 := Ho (HA8.o.by G8 (fun e => by have := Option.some.inj e; have := HBr.o; omega))
        have HZ9 := Ho (HZ8.o.by G8 (fun e => by have := Option.some.inj e; have := HBr.o; omega))
        have HB9 := Ho (HB8.o.kept G8 (.inr (own_ne HB8.o HR8.o (by decide))))
        have HF9 := Ho (show RfO (w7.setCell ⟨Br, 3, none⟩ (.slice ax2 (i + 1) cx2)) w.heap.size ax2 (F.take (i + 1)) cx2 from HF8.o.kept G8 (.inr (own_ne HF8.o HR8.o (by decide))))
        clear G8
        rw [if_pos (by kernel_rfl)]
        go_simp
        refine hK.out _ _ ⟨HA9.o, HZ9.o, HU9.o⟩ (fun hS => ?_)
        clear hK K hS
        refine wpAnyH_done (by kernel_rfl) ?_ _
        go_wp2
        go_roundw
        all_goals first
         | exact ⟨i + 1, by go_num, by omega, Ho ⟨ax2, cx2, HR9.o, HF9.o, HB9.o, HA9.o, HZ9.o, HU9.o⟩⟩
         | (simp [intOf]; omega)
   · have hilz : ¬ (i : Int) < (ns.length : Int) := by omega
     have hin : i = ns.length := by omega
     subst hin
     have HF8 := Ho (show RfO wr w.heap.size a7 F c7 by
      have h1 := HF7.o
      rw [List.take_of_length_le (by rw [HFl.o]; exact Nat.le_refl _)] at h1
      exact h1)
     go_wp2_with (with_reducible refine sL 44 ?_)
     show wpList _ _ _ _ _ _
     refine wpList_load_mid rfl _ _ rfl Br 0 rfl [.string m, .string t, .int .i64 mi, .slice a7 ns.length c7, .slice a5 L5 c5, .bool false] _ HR7.o.range Tryz.underlying44 rfl (by kernel_rfl) ?_
     simp only [Act.put, pB, pC, pD]
     refine wpList_store_at rfl 44 _ _ rfl (w.heap.size + 1) HZ7.o [.string m, .string t, .int .i64 mi, .slice a7 ns.length c7, .slice a5 L5 c5, .bool false] rfl rfl rfl (by kernel_rfl) (by kernel_rfl) ?_
     intro w8 hA8 hg8
     have HA8 := Ho hA8
     have HU8 := Ho (HU7.o.bz hg8)
     have HF9 := Ho (show RfO w8 w.heap.size a7 F c7 from HF8.o.kept hg8 (.inr (own_ne HF8.o HZ7.o (by decide))))
     have HO9 := Ho (HO7.o.kept hg8 (.inr (own_ne HO7.o HZ7.o (by decide))))
     clear hA8 hg8
     simp only [Act.put]
     repeat go_step
     refine bodyPost_ret (results_agg1 Tryz.results11 _ _ (w.heap.size + 1) [.string m, .string t, .int .i64 mi, .slice a7 ns.length c7, .slice a5 L5 c5, .bool false] rfl HA8.o.range Tryz.underlying44 rfl (by kernel_rfl)) rfl ?_
     exact ⟨⟨a7, c7, _, rfl, Ho ⟨HF9.o, by unfold Ow; rw [HL5.o]; exact HO9.o⟩⟩, HU8.o⟩
end Go.Proofs.YtkaoalcffgnfeaaGreatDoor
