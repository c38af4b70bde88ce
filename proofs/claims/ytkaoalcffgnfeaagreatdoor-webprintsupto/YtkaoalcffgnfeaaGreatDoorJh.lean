import Derived.Test.YtkaoalcffgnfeaaGreatDoorJg
import Derived.Test.YtkaoalcffgnfeaaGreatDoorJf
import Derived.Test.YtkaoalcffgnfeaaGreatDoorJd
import Derived.Test.YtkaoalcffgnfeaaGreatDoorJc
import Derived.Test.YtkaoalcffgnfeaaGreatDoorJa
import Derived.SizedLaws
import Derived.ProofKit
import Derived.OpenShut
import Derived.ChangeSame
import Derived.WideKeyArgs
import Derived.DataReads
namespace Go.Proofs.YtkaoalcffgnfeaaGreatDoor
open Go.RowKit Go.Shelf TextNum
set_option maxRecDepth 100000 in
set_option maxHeartbeats 8000000 in
theorem response_walk (st mi : Int) (an : Option Addr) (ns : List ByteArray) (cn : Nat) (av : Option Addr) (us : List ByteArray) (cv : Nat) (ab : Option Addr) (nb cb' : Nat) (bd : List UInt8) (pad : Int) (w : World) (hN : StL w an ns cn) (hV : StL w av us cv) (hB : Sb w (.slice ab nb cb') bd) (hnl : ns.length ≤ 1048576) (hbl : bd.length ≤ 1048576) :
 Calls Tryz.prog 17 #[.agg #[.int .i64 st, .int .i64 mi, .slice an ns.length cn, .slice av us.length cv, .slice ab nb cb', .int .i64 pad]] w fun e w' => (∃ a c v, e = .returned (.agg #[.int .i64 st, .int .i64 mi, .slice a ns.length c, v, .bool false]) ∧ Hd (FdO w' w.heap.size a (mkF ns us) c ∧ Ow w' w.heap.size v (pdd bd pad))) ∧ Up w w' := by
 have HN := Ho hN
 have HV := Ho hV
 have HB := Ho hB
 have hcap := hN.cap
 have hcapv := hV.cap
 obtain ⟨hbn, hbc, hbm⟩ := hB.len
 unfold maxLen at hbm
 clear hN hV hB hbn
 obtain ⟨F, hF⟩ := ny (mkF ns us)
 have HFl := Ho (show F.length = ns.length by rw [← hF, mkF_len])
 have HFg := Ho (show ∀ i (h : i < ns.length) (h' : i < F.length), F[i] = ⟨ns[i], vat us i⟩ by subst hF; exact fun i h h' => mkF_get h h')
 rw [hF]
 clear hF
 have HA0 := Ho ((at_new w 27 [.int .i64 st, .int .i64 mi, .slice an ns.length cn, .slice av us.length cv, .slice ab nb cb', .int .i64 pad]).up ((Up.refl _).alloc (.cells z5.toArray 55)))
 have HZ0 := Ho (at_new (w.alloc (.cells [.int .i64 st, .int .i64 mi, .slice an ns.length cn, .slice av us.length cv, .slice ab nb cb', .int .i64 pad].toArray 27)) 55 z5)
 have HU0 := Ho (((Up.refl w).alloc (.cells [.int .i64 st, .int .i64 mi, .slice an ns.length cn, .slice av us.length cv, .slice ab nb cb', .int .i64 pad].toArray 27)).alloc (.cells z5.toArray 55))
 rw [alloc_size] at HZ0
 go_enter Tryz.func17, Tryz.ntmps17
 go_wp2
 obtain ⟨w1, hw1⟩ := ny ((w.alloc (.cells [.int .i64 st, .int .i64 mi, .slice an ns.length cn, .slice av us.length cv, .slice ab nb cb', .int .i64 pad].toArray 27)).alloc (.cells z5.toArray 55))
 have HS1 := Ho (show w.heap.size + 1 < w1.heap.size by rw [← hw1, alloc_size, alloc_size]; omega)
 rw [hw1] at HA0 HU0 HZ0
 change Code.wp _ _ _ _ ((w.alloc (.cells [.int .i64 st, .int .i64 mi, .slice an ns.length cn, .slice av us.length cv, .slice ab nb cb', .int .i64 pad].toArray 27)).alloc (.cells z5.toArray 55))
 rw [hw1]
 clear hw1
 refine wp_region_held_drew (S := fun w2 => At w2 w.heap.size 27 [.int .i64 st, .int .i64 mi, .slice an ns.length cn, .slice av us.length cv, .slice ab nb cb', .int .i64 pad] ∧ At w2 (w.heap.size + 1) 55 z5 ∧ Up w w2) (by kernel_rfl) ⟨HA0.o.up (Up.refl _).drew, HZ0.o.up (Up.refl _).drew, HU0.o.drew⟩ (fun hS => ?_)
 refine tN 0 (some 5) (.fieldAddr 27 (.tmp 1) 0) 0 (.pointer (some ⟨w.heap.size, 0, none⟩)) hS ?_
 simp only [Act.put, pB, pC, pD]
 refine tK 1 (some 6) (.load 3 (.tmp 5)) 3 (.int .i64 st) hS ?_ ?_
 · intro _ _ w5 hSw
   have h0 := hSw.1.cell (i := 0) rfl
   clear hSw hS
   go_simp
 simp only [pA, pB, pC, pD]
 refine tN 2 (some 7) (.fieldAddr 27 (.tmp 1) 1) 0 (.pointer (some ⟨w.heap.size, 1, none⟩)) hS ?_
 simp only [pA, pB, pC, pD]
 refine tK 3 (some 8) (.load 3 (.tmp 7)) 3 (.int .i64 mi) hS ?_ ?_
 · intro _ _ w5 hSw
   have h0 := hSw.1.cell (i := 1) rfl
   clear hSw hS
   go_simp
 simp only [pA, pB, pC, pD]
 refine tN 4 (some 9) (.fieldAddr 27 (.tmp 1) 4) 0 (.pointer (some ⟨w.heap.size, 4, none⟩)) hS ?_
 simp only [pA, pB, pC, pD]
 refine tK 5 (some 10) (.load 23 (.tmp 9)) 23 (.slice ab nb cb') hS ?_ ?_
 · intro _ _ w5 hSw
   have h0 := hSw.1.cell (i := 4) rfl
   clear hSw hS
   go_simp
 simp only [pA, pB, pC, pD]
 refine tN 6 (some 11) (.fieldAddr 27 (.tmp 1) 5) 0 (.pointer (some ⟨w.heap.size, 5, none⟩)) hS ?_
 simp only [pA, pB, pC, pD]
 refine tK 7 (some 12) (.load 3 (.tmp 11)) 3 (.int .i64 pad) hS ?_ ?_
 · intro _ _ w5 hSw
   have h0 := hSw.1.cell (i := 5) rfl
   clear hSw hS
   go_simp
 simp only [pA, pB, pC, pD]
 refine wpAnyH_ready (rs := [8, 10]) (by kernel_rfl) (by simp) ?_
 refine AllReadyH.cons (o := ⟨some 13, .call ⟨.value (.func 18), #[.tmp 10, .tmp 12], #[23, 3]⟩, 23, "law.go:124", #[eD 5, eD 7], none⟩) rfl (fun K hK => ?_) (AllReadyH.cons (o := ⟨some 3, .alloc 55, 0, "law.go:124", #[], none⟩) rfl (fun K hK => ?_) AllReadyH.nil)
 case' _ =>
  rw [if_pos (by kernel_rfl)]
  go_simp
  refine (padded_walk (.slice ab nb cb') bd pad (by omega) w1.drew (HB.o.up (HU0.o.drew))).mono ?_
  rintro e w2 ⟨v5, rfl, hO, h9⟩
  obtain ⟨a5, c5, rfl⟩ := row_len hO
  have HO2 := Ho (show Ow w2 w.heap.size _ (pdd bd pad) from ow_base hO (HU0.o.drew).size)
  have HU2 := Ho ((HU0.o.drew).trans h9)
  have HA2 := Ho ((HA0.o.up (Up.refl _).drew).up h9)
  have HZ2 := Ho ((HZ0.o.up (Up.refl _).drew).up h9)
  have Hs2 := Ho (show w1.drew.heap.size ≤ w2.heap.size from h9.size)
  clear h9 hO hS
  obtain ⟨L5, hL5⟩ := ny ((pdd bd pad).length)
  have HL5 := Ho hL5
  rw [hL5] at HO2 ⊢
  clear hL5
  dsimp only
  refine hK.out _ _ ⟨HA2.o, HZ2.o, HU2.o⟩ (fun hS => ?_)
  clear hK K
  refine tN 9 (some 14) (.build 55 #[(0, .tmp 6), (1, .tmp 8), (3, .tmp 13)]) 55 (.agg #[.int .i64 st, .int .i64 mi, .slice none 0 0, .slice a5 L5 c5, .bool false]) hS ?_
  simp only [Act.put, pB, pC, pD]
  refine rD 10 (some 3) (.alloc 55) 0 fun _ _ K hK => ?_
  rw [if_pos (by kernel_rfl)]
  go_simp
  have HR3 := Ho (at_new w2 55 z5)
  have HBr := Ho (show w.heap.size + 1 < w2.heap.size from Nat.lt_of_lt_of_le HS1.o (Nat.le_trans (Up.refl w1).drew.size Hs2.o))
  have HO3 := Ho (ow_up HO2.o ((Up.refl w2).alloc (.cells z5.toArray 55)))
  clear HO2
  refine hK.out _ _ ⟨hS.1.up ((Up.refl _).alloc _), hS.2.1.up ((Up.refl _).alloc _), hS.2.2.alloc _⟩ (fun hS => ?_)
  clear hK K
  refine rD 11 none (.store 55 (.tmp 3) (.tmp 14)) 0 fun _ _ K hK => oper_of_list ?_
  refine wpList_store_at rfl 55 _ _ rfl (w2.heap.size) HR3.o ([.int .i64 st, .int .i64 mi, .slice none 0 0, .slice a5 L5 c5, .bool false]) rfl rfl rfl (by kernel_rfl) (by kernel_rfl) ?_
  intro w4 hA4 hg4
  have HR4 := Ho hA4
  have HU4 := Ho (hS.2.2.by hg4 (fun g hg => by have := Option.some.inj hg; have := HBr.o; omega))
  have HA4 := Ho (hS.1.by hg4 (fun e => by have := Option.some.inj e; have := HBr.o; omega))
  have HZ4 := Ho (hS.2.1.by hg4 (fun e => by have := Option.some.inj e; have := HBr.o; omega))
  have HO4 := Ho (HO3.o.kept hg4 (.inr (own_ne HO3.o HR3.o (by decide))))
  clear hA4 hg4 HR3 HO3
  refine hK.out _ _ ⟨HA4.o, HZ4.o, HU4.o⟩ (fun hS => ?_)
  clear hK K hS
  refine wpAnyH_done (by kernel_rfl) ?_ _
  obtain ⟨Br, hBr⟩ := ny w2.heap.size
 rotate_left
 case' _ =>
  rw [if_pos (by kernel_rfl)]
  go_simp
  have HR1 := Ho (show At _ w1.heap.size 55 z5 from at_new w1.drew 55 z5)
  have HUa := Ho ((Up.refl w1.drew).alloc (.cells z5.toArray 55))
  have HBr := Ho (show w.heap.size + 1 < w1.heap.size from HS1.o)
  refine hK.out _ _ ⟨hS.1.up HUa.o, hS.2.1.up HUa.o, hS.2.2.trans HUa.o⟩ (fun hS => ?_)
  clear hK K
  refine rD 8 (some 13) (.call ⟨.value (.func 18), #[.tmp 10, .tmp 12], #[23, 3]⟩) 23 fun _ _ K hK => ?_
  rw [if_pos (by kernel_rfl)]
  go_simp
  refine (padded_walk (.slice ab nb cb') bd pad (by omega) _ (HB.o.up (HU0.o.drew.trans HUa.o))).mono ?_
  rintro e w2 ⟨v5, rfl, hO, h9⟩
  obtain ⟨a5, c5, rfl⟩ := row_len hO
  have HO2 := Ho (show Ow w2 w.heap.size _ (pdd bd pad) from ow_base hO (HU0.o.drew.trans HUa.o).size)
  have HU2 := Ho ((HU0.o.drew.trans HUa.o).trans h9)
  have HA2 := Ho (((HA0.o.up (Up.refl _).drew).up HUa.o).up h9)
  have HZ2 := Ho (((HZ0.o.up (Up.refl _).drew).up HUa.o).up h9)
  have HR3 := Ho (HR1.o.up h9)
  clear h9 hO hS
  obtain ⟨L5, hL5⟩ := ny ((pdd bd pad).length)
  have HL5 := Ho hL5
  rw [hL5] at HO2 ⊢
  clear hL5
  dsimp only
  refine hK.out _ _ ⟨HA2.o, HZ2.o, HU2.o⟩ (fun hS => ?_)
  clear hK K
  have HO3 := Ho HO2.o
  clear HO2
  refine tN 9 (some 14) (.build 55 #[(0, .tmp 6), (1, .tmp 8), (3, .tmp 13)]) 55 (.agg #[.int .i64 st, .int .i64 mi, .slice none 0 0, .slice a5 L5 c5, .bool false]) hS ?_
  simp only [Act.put, pB, pC, pD]
  refine rD 11 none (.store 55 (.tmp 3) (.tmp 14)) 0 fun _ _ K hK => oper_of_list ?_
  refine wpList_store_at rfl 55 _ _ rfl (w1.heap.size) HR3.o ([.int .i64 st, .int .i64 mi, .slice none 0 0, .slice a5 L5 c5, .bool false]) rfl rfl rfl (by kernel_rfl) (by kernel_rfl) ?_
  intro w4 hA4 hg4
  have HR4 := Ho hA4
  have HU4 := Ho (hS.2.2.by hg4 (fun g hg => by have := Option.some.inj hg; have := HBr.o; omega))
  have HA4 := Ho (hS.1.by hg4 (fun e => by have := Option.some.inj e; have := HBr.o; omega))
  have HZ4 := Ho (hS.2.1.by hg4 (fun e => by have := Option.some.inj e; have := HBr.o; omega))
  have HO4 := Ho (HO3.o.kept hg4 (.inr (own_ne HO3.o HR3.o (by decide))))
  clear hA4 hg4 HR3 HO3
  refine hK.out _ _ ⟨HA4.o, HZ4.o, HU4.o⟩ (fun hS => ?_)
  clear hK K hS
  refine wpAnyH_done (by kernel_rfl) ?_ _
  obtain ⟨Br, hBr⟩ := ny w1.heap.size
 all_goals
  rw [hBr] at HR4 HBr ⊢
  clear hBr
  go_wp2
  go_loopw [4] (fun v4 wr => ∃ i : Nat, v4 = .int .i64 (i : Int) ∧ i ≤ ns.length ∧ Hd (∃ a7 c7, At wr Br 55 [.int .i64 st, .int .i64 mi, .slice a7 i c7, .slice a5 L5 c5, .bool false] ∧ FdO wr w.heap.size a7 (F.take i) c7 ∧ wr.ownsRow w.heap.size 5 1 (.slice a5 L5 c5) L5 (cb (pdd bd pad)) ∧ At wr w.heap.size 27 [.int .i64 st, .int .i64 mi, .slice an ns.length cn, .slice av us.length cv, .slice ab nb cb', .int .i64 pad] ∧ At wr (w.heap.size + 1) 55 z5 ∧ Up w wr)) (fun v4 _ => ns.length - (intOf v4).toNat)
  case atStart => exact ⟨0, rfl, Nat.zero_le _, Ho ⟨none, 0, HR4.o, World.ownsRow_nil _ _ _ _, (by have h := HO4.o; rw [HL5.o] at h; exact h), HA4.o, HZ4.o, HU4.o⟩⟩
  case round =>
   obtain ⟨i, rfl, hi, hQ⟩ := hrel
   obtain ⟨a7, c7, q1, q2, q3, q4, q5, q6⟩ := hQ.o
   have HR7 := Ho q1
   have HF7 := Ho q2
   have HO7 := Ho q3
   have HA7 := Ho q4
   have HZ7 := Ho q5
   have HU7 := Ho q6
   have h3 := q4.cell (i := 2) rfl
   clear hQ q1 q2 q3 q4 q5 q6
   by_cases hil : i < ns.length
   · have hilz : (i : Int) < (ns.length : Int) := by omega
     have hif : i < F.length := by rw [HFl.o]; exact hil
     obtain ⟨b, off, han, k1⟩ := HN.o.cells i hil
     have HAn := Ho han
     clear han
     have HT := Ho (List.take_succ_eq_append_getElem hif)
     have HLn := Ho (show (F.take i).length = i by rw [List.length_take]; omega)
     have hfg := HFg.o i hil hif
     obtain ⟨f, hf⟩ := ny (F[i])
     rw [hf] at HT hfg
     have HFv := Ho (show vat us i = f.v by rw [hfg])
     have HK1 := Ho (show w.cell? ⟨b, off + i, none⟩ = some (.string f.n) by rw [k1, hfg])
     clear hf hfg k1
     have HRd := Ho (HR7.o.up (Up.refl wr).drew)
     have HFd := Ho (ow_up HF7.o (Up.refl wr).drew)
     have HFd' := Ho (show wr.drew.ownsRow w.heap.size 87 2 (.slice a7 i c7) i (fdc (F.take i)) by have := HFd.o; rw [HLn.o] at this; exact this)
     have HOd := Ho (ow_up HO7.o (Up.refl wr).drew)
     have HAd := Ho (HA7.o.up (Up.refl wr).drew)
     have HZd := Ho (HZ7.o.up (Up.refl wr).drew)
     go_wp2
     refine wp_region_held_drew (S := fun w2 => At w2 w.heap.size 27 [.int .i64 st, .int .i64 mi, .slice an ns.length cn, .slice av us.length cv, .slice ab nb cb', .int .i64 pad] ∧ At w2 (w.heap.size + 1) 55 z5 ∧ Up w w2) (by kernel_rfl) ⟨HA7.o.up (Up.refl _).drew, HZ7.o.up (Up.refl _).drew, HU7.o.drew⟩ (fun hS => ?_)
     refine tN 0 (some 22) (.fieldAddr 55 (.tmp 3) 2) 0 (.pointer (some ⟨Br, 2, none⟩)) hS ?_
     simp only [Act.put, pB, pC, pD]
     refine tN 2 (some 24) (.fieldAddr 27 (.tmp 1) 2) 0 (.pointer (some ⟨w.heap.size, 2, none⟩)) hS ?_
     simp only [pA, pB, pC, pD]
     refine tK 3 (some 25) (.load 22 (.tmp 24)) 22 (.slice (some ⟨b, off, none⟩) ns.length cn) hS ?_ ?_
     · intro _ _ w5 hSw
       have h0 := hSw.1.cell (i := 2) rfl
       rw [HAn.o] at h0
       clear hSw hS
       go_simp
     simp only [pA, pB, pC, pD]
     refine tN 4 (some 26) (.move (.tmp 4)) 3 (.int .i64 (i : Int)) hS ?_
     simp only [pA, pB, pC, pD]
     refine tN 5 (some 27) (.indexAddr 22 (.tmp 25) (.tmp 26)) 0 (.pointer (some ⟨b, off + i, none⟩)) hS ?_
     simp only [pA, pB, pC, pD]
     refine tK 6 (some 28) (.load 9 (.tmp 27)) 9 (.string f.n) hS ?_ ?_
     · intro _ _ w5 hSw
       have h0 := hSw.2.2.cell HK1.o
       clear hSw hS
       go_simp
     simp only [pA, pB, pC, pD]
     refine tN 7 (some 29) (.fieldAddr 27 (.tmp 1) 3) 0 (.pointer (some ⟨w.heap.size, 3, none⟩)) hS ?_
     simp only [pA, pB, pC, pD]
     refine tK 8 (some 30) (.load 22 (.tmp 29)) 22 (.slice av us.length cv) hS ?_ ?_
     · intro _ _ w5 hSw
       have h0 := hSw.1.cell (i := 3) rfl
       clear hSw hS
       go_simp
     simp only [pA, pB, pC, pD]
     refine tN 9 (some 31) (.move (.tmp 4)) 3 (.int .i64 (i : Int)) hS ?_
     simp only [pA, pB, pC, pD]
     refine wpAnyH_ready (rs := [1, 10]) (by kernel_rfl) (by simp) ?_
     refine AllReadyH.cons (o := ⟨some 23, .load 34 (.tmp 22), 34, "law.go:126", #[eD 0], none⟩) rfl (fun K hK => ?_) (AllReadyH.cons (o := ⟨some 32, .call ⟨.value (.func 39), #[.tmp 30, .tmp 31], #[22, 3]⟩, 9, "law.go:126", #[eD 8, eD 9], none⟩) rfl (fun K hK => ?_) AllReadyH.nil)
     · rw [if_pos (by kernel_rfl)]
       have k3 := HRd.o.cell (i := 2) rfl
       go_simp
       refine hK.out _ _ hS (fun hS => ?_)
       clear hK K k3
       refine rD 10 (some 32) (.call ⟨.value (.func 39), #[.tmp 30, .tmp 31], #[22, 3]⟩) 9 fun _ _ K hK => ?_
       rw [if_pos (by kernel_rfl)]
       go_simp
       refine (value_walk av us cv i wr.drew (HV.o.up HU7.o.drew)).mono ?_
       rintro e w5 ⟨rfl, h9⟩
       obtain rfl := h9.symm
       clear h9
       rw [HFv.o]
       dsimp only
       refine hK.out _ _ hS (fun hS => ?_)
       clear hK K
       refine tN 11 (some 33) (.build 87 #[(0, .tmp 28), (1, .tmp 32)]) 87 (.agg #[.string f.n, .string f.v]) hS ?_
       simp only [Act.put, pB, pC, pD]
       refine rD 12 (some 34) (.buildSlice 34 1 #[(0, .tmp 33)]) 34 fun _ _ K hK => ?_
       rw [if_pos (by kernel_rfl)]
       go_simp
       refine hK.out _ _ ⟨hS.1.up ((Up.refl _).alloc _), hS.2.1.up ((Up.refl _).alloc _), hS.2.2.alloc _⟩ (fun hS => ?_)
       clear hK K
       refine rD 13 (some 35) (.call ⟨.builtin .append, #[.tmp 23, .tmp 34], #[34, 34]⟩) 34 fun _ _ K hK => oper_of_list ?_
       refine wpList_appFd (w := wr.drew) (N := w.heap.size) rfl _ _ rfl a7 c7 (F.take i) f HLn.o rfl rfl HFd.o HU7.o.drew.size (by omega) ?_
       intro ax2 cx2 w7 o7 u7 g7
       have HU8 := Ho (u7 w HU7.o.drew (Nat.le_refl _))
       have HR8 := Ho (HRd.o.by g7 (own_ne HFd'.o HRd.o (by decide)))
       have HA8 := Ho (HAd.o.by g7 (own_ne HFd'.o HAd.o (by decide)))
       have HZ8 := Ho (HZd.o.by g7 (own_ne HFd'.o HZd.o (by decide)))
       have HB8 := Ho (HOd.o.kept g7 (own_off HOd.o HFd'.o (by decide)))
       have HF8 := Ho (show FdO w7 w.heap.size ax2 (F.take (i + 1)) cx2 by rw [HT.o]; exact o7)
       clear o7 u7 g7
       refine hK.out _ _ ⟨HA8.o, HZ8.o, HU8.o⟩ (fun hS => ?_)
       clear hK K
       simp only [Act.put, pB, pC, pD]
       refine tN 14 (some 36) (.fieldAddr 55 (.tmp 3) 2) 0 (.pointer (some ⟨Br, 2, none⟩)) hS ?_
       simp only [pA, pB, pC, pD]
       refine rD 15 none (.store 34 (.tmp 36) (.tmp 35)) 0 fun _ _ K hK => ?_
       have k3 := HR8.o.cell (i := 2) rfl
       have f3 := HR8.o.thaw 2
       have G8 := grown_set1 w7 Br 2 (.slice ax2 (i + 1) cx2)
       have HR9 := Ho (HR8.o.set 2 (.slice ax2 (i + 1) cx2))
       have HU9 := Ho (HU8.o.by G8 (fun g hg => by have := Option.some.inj hg; have := HBr.o; omega))
       have HA9 := Ho (HA8.o.by G8 (fun e => by have := Option.some.inj e; have := HBr.o; omega))
       have HZ9 := Ho (HZ8.o.by G8 (fun e => by have := Option.some.inj e; have := HBr.o; omega))
       have HB9 := Ho (HB8.o.kept G8 (.inr (own_ne HB8.o HR8.o (by decide))))
       have HF9 := Ho (show FdO (w7.setCell ⟨Br, 2, none⟩ (.slice ax2 (i + 1) cx2)) w.heap.size ax2 (F.take (i + 1)) cx2 from HF8.o.kept G8 (.inr (own_ne HF8.o HR8.o (by decide))))
       clear G8
       rw [if_pos (by kernel_rfl)]
       go_simp
       refine hK.out _ _ ⟨HA9.o, HZ9.o, HU9.o⟩ (fun hS => ?_)
       clear hK K hS
       refine wpAnyH_done (by kernel_rfl) ?_ _
       go_wp2
       go_roundw
       all_goals first
        | exact ⟨i + 1, by go_num, by omega, Ho ⟨ax2, cx2, HR9.o, HF9.o, HB9.o, HA9.o, HZ9.o, HU9.o⟩⟩
        | (simp [intOf]; omega)
     · rw [if_pos (by kernel_rfl)]
       go_simp
       refine (value_walk av us cv i wr.drew (HV.o.up HU7.o.drew)).mono ?_
       rintro e w5 ⟨rfl, h9⟩
       obtain rfl := h9.symm
       clear h9
       rw [HFv.o]
       dsimp only
       refine hK.out _ _ hS (fun hS => ?_)
       clear hK K
       refine tN 11 (some 33) (.build 87 #[(0, .tmp 28), (1, .tmp 32)]) 87 (.agg #[.string f.n, .string f.v]) hS ?_
       simp only [Act.put, pB, pC, pD]
       refine wpAnyH_ready (rs := [1, 12]) (by kernel_rfl) (by simp) ?_
       refine AllReadyH.cons (o := ⟨some 23, .load 34 (.tmp 22), 34, "law.go:126", #[eD 0], none⟩) rfl (fun K hK => ?_) (AllReadyH.cons (o := ⟨some 34, .buildSlice 34 1 #[(0, .tmp 33)], 34, "law.go:126", #[eD 11], none⟩) rfl (fun K hK => ?_) AllReadyH.nil)
       case' _ =>
        rw [if_pos (by kernel_rfl)]
        have k3 := HRd.o.cell (i := 2) rfl
        go_simp
        refine hK.out _ _ hS (fun hS => ?_)
        clear hK K k3
        refine rD 12 (some 34) (.buildSlice 34 1 #[(0, .tmp 33)]) 34 fun _ _ K hK => ?_
        rw [if_pos (by kernel_rfl)]
        go_simp
        refine hK.out _ _ ⟨hS.1.up ((Up.refl _).alloc _), hS.2.1.up ((Up.refl _).alloc _), hS.2.2.alloc _⟩ (fun hS => ?_)
        clear hK K
       rotate_left
       case' _ =>
        rw [if_pos (by kernel_rfl)]
        go_simp
        refine hK.out _ _ ⟨hS.1.up ((Up.refl _).alloc _), hS.2.1.up ((Up.refl _).alloc _), hS.2.2.alloc _⟩ (fun hS => ?_)
        clear hK K
        refine rD 1 (some 23) (.load 34 (.tmp 22)) 34 fun _ _ K hK => ?_
        rw [if_pos (by kernel_rfl)]
        have k3 := ((HR7.o.up ((Up.refl wr).alloc (.cells #[.string f.n, .string f.v] 87))).up (Up.refl _).drew).cell (i := 2) rfl
        go_simp
        refine hK.out _ _ hS (fun hS => ?_)
        clear hK K k3
       all_goals
        refine rD 13 (some 35) (.call ⟨.builtin .append, #[.tmp 23, .tmp 34], #[34, 34]⟩) 34 fun _ _ K hK => oper_of_list ?_
        refine wpList_appFd (w := wr.drew) (N := w.heap.size) rfl _ _ rfl a7 c7 (F.take i) f HLn.o rfl rfl HFd.o HU7.o.drew.size (by omega) ?_
        intro ax2 cx2 w7 o7 u7 g7
        have HU8 := Ho (u7 w HU7.o.drew (Nat.le_refl _))
        have HR8 := Ho (HRd.o.by g7 (own_ne HFd'.o HRd.o (by decide)))
        have HA8 := Ho (HAd.o.by g7 (own_ne HFd'.o HAd.o (by decide)))
        have HZ8 := Ho (HZd.o.by g7 (own_ne HFd'.o HZd.o (by decide)))
        have HB8 := Ho (HOd.o.kept g7 (own_off HOd.o HFd'.o (by decide)))
        have HF8 := Ho (show FdO w7 w.heap.size ax2 (F.take (i + 1)) cx2 by rw [HT.o]; exact o7)
        clear o7 u7 g7
        refine hK.out _ _ ⟨HA8.o, HZ8.o, HU8.o⟩ (fun hS => ?_)
        clear hK K
        simp only [Act.put, pB, pC, pD]
        refine tN 14 (some 36) (.fieldAddr 55 (.tmp 3) 2) 0 (.pointer (some ⟨Br, 2, none⟩)) hS ?_
        simp only [pA, pB, pC, pD]
        refine rD 15 none (.store 34 (.tmp 36) (.tmp 35)) 0 fun _ _ K hK => ?_
        have k3 := HR8.o.cell (i := 2) rfl
        have f3 := HR8.o.thaw 2
        have G8 := grown_set1 w7 Br 2 (.slice ax2 (i + 1) cx2)
        have HR9 := Ho (HR8.o.set 2 (.slice ax2 (i + 1) cx2))
        have HU9 := Ho (HU8.o.by G8 (fun g hg => by have := Option.some.inj hg; have := HBr.o; omega))
        have HA9 := Ho (HA8.o.by G8 (fun e => by have := Option.some.inj e; have := HBr.o; omega))
        have HZ9 := Ho (HZ8.o.by G8 (fun e => by have := Option.some.inj e; have := HBr.o; omega))
        have HB9 := Ho (HB8.o.kept G8 (.inr (own_ne HB8.o HR8.o (by decide))))
        have HF9 := Ho (show FdO (w7.setCell ⟨Br, 2, none⟩ (.slice ax2 (i + 1) cx2)) w.heap.size ax2 (F.take (i + 1)) cx2 from HF8.o.kept G8 (.inr (own_ne HF8.o HR8.o (by decide))))
        clear G8
        rw [if_pos (by kernel_rfl)]
        go_simp
        refine hK.out _ _ ⟨HA9.o, HZ9.o, HU9.o⟩ (fun hS => ?_)
        clear hK K hS
        refine wpAnyH_done (by kernel_rfl) ?_ _
        go_wp2
        go_roundw
        all_goals first
         | exact ⟨i + 1, by go_num, by omega, Ho ⟨ax2, cx2, HR9.o, HF9.o, HB9.o, HA9.o, HZ9.o, HU9.o⟩⟩
         | (simp [intOf]; omega)
   · have hilz : ¬ (i : Int) < (ns.length : Int) := by omega
     have hin : i = ns.length := by omega
     subst hin
     have HF8 := Ho (show FdO wr w.heap.size a7 F c7 by
      have h1 := HF7.o
      rw [List.take_of_length_le (by rw [HFl.o]; exact Nat.le_refl _)] at h1
      exact h1)
     go_wp2_with (with_reducible refine sL 55 ?_)
     show wpList _ _ _ _ _ _
     refine wpList_load_mid rfl _ _ rfl Br 0 rfl [.int .i64 st, .int .i64 mi, .slice a7 ns.length c7, .slice a5 L5 c5, .bool false] _ HR7.o.range Tryz.underlying55 rfl (by kernel_rfl) ?_
     simp only [Act.put, pB, pC, pD]
     refine wpList_store_at rfl 55 _ _ rfl (w.heap.size + 1) HZ7.o [.int .i64 st, .int .i64 mi, .slice a7 ns.length c7, .slice a5 L5 c5, .bool false] rfl rfl rfl (by kernel_rfl) (by kernel_rfl) ?_
     intro w8 hA8 hg8
     have HA8 := Ho hA8
     have HU8 := Ho (HU7.o.bz hg8)
     have HF9 := Ho (show FdO w8 w.heap.size a7 F c7 from HF8.o.kept hg8 (.inr (own_ne HF8.o HZ7.o (by decide))))
     have HO9 := Ho (HO7.o.kept hg8 (.inr (own_ne HO7.o HZ7.o (by decide))))
     clear hA8 hg8
     simp only [Act.put]
     repeat go_step
     refine bodyPost_ret (results_agg1 Tryz.results17 _ _ (w.heap.size + 1) [.int .i64 st, .int .i64 mi, .slice a7 ns.length c7, .slice a5 L5 c5, .bool false] rfl HA8.o.range Tryz.underlying55 rfl (by kernel_rfl)) rfl ?_
     exact ⟨⟨a7, c7, _, rfl, Ho ⟨HF9.o, by unfold Ow; rw [HL5.o]; exact HO9.o⟩⟩, HU8.o⟩
end Go.Proofs.YtkaoalcffgnfeaaGreatDoor
namespace Go.Proofs.YtkaoalcffgnfeaaGreatDoor
open Go.RowKit Go.Shelf TextNum
set_option maxRecDepth 100000 in
set_option maxHeartbeats 8000000 in
theorem answered_walk (st mi : Int) (an : Option Addr) (ns : List ByteArray) (cn : Nat) (av : Option Addr) (us : List ByteArray) (cv : Nat) (ab : Option Addr) (nb cb' : Nat) (bd : List UInt8) (pad : Int) (w : World) (hN : StL w an ns cn) (hV : StL w av us cv) (hB : Sb w (.slice ab nb cb') bd) (hnl : ns.length ≤ 1048576) (hbl : bd.length ≤ 1048576) :
 Calls Tryz.prog 15 #[.agg #[.int .i64 st, .int .i64 mi, .slice an ns.length cn, .slice av us.length cv, .slice ab nb cb', .int .i64 pad]] w fun e w' => (∃ a c v, e = .returned (.agg #[.int .i64 st, .int .i64 mi, .slice a ns.length c, v, .bool false]) ∧ Hd (RfO w' w.heap.size a (mkF ns us) c ∧ Ow w' w.heap.size v (pdd bd pad))) ∧ Up w w' := by
 have HN := Ho hN
 have HV := Ho hV
 have HB := Ho hB
 have hcap := hN.cap
 have hcapv := hV.cap
 obtain ⟨hbn, hbc, hbm⟩ := hB.len
 unfold maxLen at hbm
 clear hN hV hB hbn
 obtain ⟨F, hF⟩ := ny (mkF ns us)
 have HFl := Ho (show F.length = ns.length by rw [← hF, mkF_len])
 have HFg := Ho (show ∀ i (h : i < ns.length) (h' : i < F.length), F[i] = ⟨ns[i], vat us i⟩ by subst hF; exact fun i h h' => mkF_get h h')
 rw [hF]
 clear hF
 have HA0 := Ho ((at_new w 27 [.int .i64 st, .int .i64 mi, .slice an ns.length cn, .slice av us.length cv, .slice ab nb cb', .int .i64 pad]).up ((Up.refl _).alloc (.cells z5.toArray 51)))
 have HZ0 := Ho (at_new (w.alloc (.cells [.int .i64 st, .int .i64 mi, .slice an ns.length cn, .slice av us.length cv, .slice ab nb cb', .int .i64 pad].toArray 27)) 51 z5)
 have HU0 := Ho (((Up.refl w).alloc (.cells [.int .i64 st, .int .i64 mi, .slice an ns.length cn, .slice av us.length cv, .slice ab nb cb', .int .i64 pad].toArray 27)).alloc (.cells z5.toArray 51))
 rw [alloc_size] at HZ0
 go_enter Tryz.func15, Tryz.ntmps15
 go_wp2
 obtain ⟨w1, hw1⟩ := ny ((w.alloc (.cells [.int .i64 st, .int .i64 mi, .slice an ns.length cn, .slice av us.length cv, .slice ab nb cb', .int .i64 pad].toArray 27)).alloc (.cells z5.toArray 51))
 have HS1 := Ho (show w.heap.size + 1 < w1.heap.size by rw [← hw1, alloc_size, alloc_size]; omega)
 rw [hw1] at HA0 HU0 HZ0
 change Code.wp _ _ _ _ ((w.alloc (.cells [.int .i64 st, .int .i64 mi, .slice an ns.length cn, .slice av us.length cv, .slice ab nb cb', .int .i64 pad].toArray 27)).alloc (.cells z5.toArray 51))
 rw [hw1]
 clear hw1
 refine wp_region_held_drew (S := fun w2 => At w2 w.heap.size 27 [.int .i64 st, .int .i64 mi, .slice an ns.length cn, .slice av us.length cv, .slice ab nb cb', .int .i64 pad] ∧ At w2 (w.heap.size + 1) 51 z5 ∧ Up w w2) (by kernel_rfl) ⟨HA0.o.up (Up.refl _).drew, HZ0.o.up (Up.refl _).drew, HU0.o.drew⟩ (fun hS => ?_)
 refine tN 0 (some 5) (.fieldAddr 27 (.tmp 1) 0) 0 (.pointer (some ⟨w.heap.size, 0, none⟩)) hS ?_
 simp only [Act.put, pB, pC, pD]
 refine tK 1 (some 6) (.load 3 (.tmp 5)) 3 (.int .i64 st) hS ?_ ?_
 · intro _ _ w5 hSw
   have h0 := hSw.1.cell (i := 0) rfl
   clear hSw hS
   go_simp
 simp only [pA, pB, pC, pD]
 refine tN 2 (some 7) (.fieldAddr 27 (.tmp 1) 1) 0 (.pointer (some ⟨w.heap.size, 1, none⟩)) hS ?_
 simp only [pA, pB, pC, pD]
 refine tK 3 (some 8) (.load 3 (.tmp 7)) 3 (.int .i64 mi) hS ?_ ?_
 · intro _ _ w5 hSw
   have h0 := hSw.1.cell (i := 1) rfl
   clear hSw hS
   go_simp
 simp only [pA, pB, pC, pD]
 refine tN 4 (some 9) (.fieldAddr 27 (.tmp 1) 4) 0 (.pointer (some ⟨w.heap.size, 4, none⟩)) hS ?_
 simp only [pA, pB, pC, pD]
 refine tK 5 (some 10) (.load 23 (.tmp 9)) 23 (.slice ab nb cb') hS ?_ ?_
 · intro _ _ w5 hSw
   have h0 := hSw.1.cell (i := 4) rfl
   clear hSw hS
   go_simp
 simp only [pA, pB, pC, pD]
 refine tN 6 (some 11) (.fieldAddr 27 (.tmp 1) 5) 0 (.pointer (some ⟨w.heap.size, 5, none⟩)) hS ?_
 simp only [pA, pB, pC, pD]
 refine tK 7 (some 12) (.load 3 (.tmp 11)) 3 (.int .i64 pad) hS ?_ ?_
 · intro _ _ w5 hSw
   have h0 := hSw.1.cell (i := 5) rfl
   clear hSw hS
   go_simp
 simp only [pA, pB, pC, pD]
 refine wpAnyH_ready (rs := [8, 10]) (by kernel_rfl) (by simp) ?_
 refine AllReadyH.cons (o := ⟨some 13, .call ⟨.value (.func 18), #[.tmp 10, .tmp 12], #[23, 3]⟩, 23, "law.go:133", #[eD 5, eD 7], none⟩) rfl (fun K hK => ?_) (AllReadyH.cons (o := ⟨some 3, .alloc 51, 0, "law.go:133", #[], none⟩) rfl (fun K hK => ?_) AllReadyH.nil)
 case' _ =>
  rw [if_pos (by kernel_rfl)]
  go_simp
  refine (padded_walk (.slice ab nb cb') bd pad (by omega) w1.drew (HB.o.up (HU0.o.drew))).mono ?_
  rintro e w2 ⟨v5, rfl, hO, h9⟩
  obtain ⟨a5, c5, rfl⟩ := row_len hO
  have HO2 := Ho (show Ow w2 w.heap.size _ (pdd bd pad) from ow_base hO (HU0.o.drew).size)
  have HU2 := Ho ((HU0.o.drew).trans h9)
  have HA2 := Ho ((HA0.o.up (Up.refl _).drew).up h9)
  have HZ2 := Ho ((HZ0.o.up (Up.refl _).drew).up h9)
  have Hs2 := Ho (show w1.drew.heap.size ≤ w2.heap.size from h9.size)
  clear h9 hO hS
  obtain ⟨L5, hL5⟩ := ny ((pdd bd pad).length)
  have HL5 := Ho hL5
  rw [hL5] at HO2 ⊢
  clear hL5
  dsimp only
  refine hK.out _ _ ⟨HA2.o, HZ2.o, HU2.o⟩ (fun hS => ?_)
  clear hK K
  refine tN 9 (some 14) (.build 51 #[(0, .tmp 6), (1, .tmp 8), (3, .tmp 13)]) 51 (.agg #[.int .i64 st, .int .i64 mi, .slice none 0 0, .slice a5 L5 c5, .bool false]) hS ?_
  simp only [Act.put, pB, pC, pD]
  refine rD 10 (some 3) (.alloc 51) 0 fun _ _ K hK => ?_
  rw [if_pos (by kernel_rfl)]
  go_simp
  have HR3 := Ho (at_new w2 51 z5)
  have HBr := Ho (show w.heap.size + 1 < w2.heap.size from Nat.lt_of_lt_of_le HS1.o (Nat.le_trans (Up.refl w1).drew.size Hs2.o))
  have HO3 := Ho (ow_up HO2.o ((Up.refl w2).alloc (.cells z5.toArray 51)))
  clear HO2
  refine hK.out _ _ ⟨hS.1.up ((Up.refl _).alloc _), hS.2.1.up ((Up.refl _).alloc _), hS.2.2.alloc _⟩ (fun hS => ?_)
  clear hK K
  refine rD 11 none (.store 51 (.tmp 3) (.tmp 14)) 0 fun _ _ K hK => oper_of_list ?_
  refine wpList_store_at rfl 51 _ _ rfl (w2.heap.size) HR3.o ([.int .i64 st, .int .i64 mi, .slice none 0 0, .slice a5 L5 c5, .bool false]) rfl rfl rfl (by kernel_rfl) (by kernel_rfl) ?_
  intro w4 hA4 hg4
  have HR4 := Ho hA4
  have HU4 := Ho (hS.2.2.by hg4 (fun g hg => by have := Option.some.inj hg; have := HBr.o; omega))
  have HA4 := Ho (hS.1.by hg4 (fun e => by have := Option.some.inj e; have := HBr.o; omega))
  have HZ4 := Ho (hS.2.1.by hg4 (fun e => by have := Option.some.inj e; have := HBr.o; omega))
  have HO4 := Ho (HO3.o.kept hg4 (.inr (own_ne HO3.o HR3.o (by decide))))
  clear hA4 hg4 HR3 HO3
  refine hK.out _ _ ⟨HA4.o, HZ4.o, HU4.o⟩ (fun hS => ?_)
  clear hK K hS
  refine wpAnyH_done (by kernel_rfl) ?_ _
  obtain ⟨Br, hBr⟩ := ny w2.heap.size
 rotate_left
 case' _ =>
  rw [if_pos (by kernel_rfl)]
  go_simp
  have HR1 := Ho (show At _ w1.heap.size 51 z5 from at_new w1.drew 51 z5)
  have HUa := Ho ((Up.refl w1.drew).alloc (.cells z5.toArray 51))
  have HBr := Ho (show w.heap.size + 1 < w1.heap.size from HS1.o)
  refine hK.out _ _ ⟨hS.1.up HUa.o, hS.2.1.up HUa.o, hS.2.2.trans HUa.o⟩ (fun hS => ?_)
  clear hK K
  refine rD 8 (some 13) (.call ⟨.value (.func 18), #[.tmp 10, .tmp 12], #[23, 3]⟩) 23 fun _ _ K hK => ?_
  rw [if_pos (by kernel_rfl)]
  go_simp
  refine (padded_walk (.slice ab nb cb') bd pad (by omega) _ (HB.o.up (HU0.o.drew.trans HUa.o))).mono ?_
  rintro e w2 ⟨v5, rfl, hO, h9⟩
  obtain ⟨a5, c5, rfl⟩ := row_len hO
  have HO2 := Ho (show Ow w2 w.heap.size _ (pdd bd pad) from ow_base hO (HU0.o.drew.trans HUa.o).size)
  have HU2 := Ho ((HU0.o.drew.trans HUa.o).trans h9)
  have HA2 := Ho (((HA0.o.up (Up.refl _).drew).up HUa.o).up h9)
  have HZ2 := Ho (((HZ0.o.up (Up.refl _).drew).up HUa.o).up h9)
  have HR3 := Ho (HR1.o.up h9)
  clear h9 hO hS
  obtain ⟨L5, hL5⟩ := ny ((pdd bd pad).length)
  have HL5 := Ho hL5
  rw [hL5] at HO2 ⊢
  clear hL5
  dsimp only
  refine hK.out _ _ ⟨HA2.o, HZ2.o, HU2.o⟩ (fun hS => ?_)
  clear hK K
  have HO3 := Ho HO2.o
  clear HO2
  refine tN 9 (some 14) (.build 51 #[(0, .tmp 6), (1, .tmp 8), (3, .tmp 13)]) 51 (.agg #[.int .i64 st, .int .i64 mi, .slice none 0 0, .slice a5 L5 c5, .bool false]) hS ?_
  simp only [Act.put, pB, pC, pD]
  refine rD 11 none (.store 51 (.tmp 3) (.tmp 14)) 0 fun _ _ K hK => oper_of_list ?_
  refine wpList_store_at rfl 51 _ _ rfl (w1.heap.size) HR3.o ([.int .i64 st, .int .i64 mi, .slice none 0 0, .slice a5 L5 c5, .bool false]) rfl rfl rfl (by kernel_rfl) (by kernel_rfl) ?_
  intro w4 hA4 hg4
  have HR4 := Ho hA4
  have HU4 := Ho (hS.2.2.by hg4 (fun g hg => by have := Option.some.inj hg; have := HBr.o; omega))
  have HA4 := Ho (hS.1.by hg4 (fun e => by have := Option.some.inj e; have := HBr.o; omega))
  have HZ4 := Ho (hS.2.1.by hg4 (fun e => by have := Option.some.inj e; have := HBr.o; omega))
  have HO4 := Ho (HO3.o.kept hg4 (.inr (own_ne HO3.o HR3.o (by decide))))
  clear hA4 hg4 HR3 HO3
  refine hK.out _ _ ⟨HA4.o, HZ4.o, HU4.o⟩ (fun hS => ?_)
  clear hK K hS
  refine wpAnyH_done (by kernel_rfl) ?_ _
  obtain ⟨Br, hBr⟩ := ny w1.heap.size
 all_goals
  rw [hBr] at HR4 HBr ⊢
  clear hBr
  go_wp2
  go_loopw [4] (fun v4 wr => ∃ i : Nat, v4 = .int .i64 (i : Int) ∧ i ≤ ns.length ∧ Hd (∃ a7 c7, At wr Br 51 [.int .i64 st, .int .i64 mi, .slice a7 i c7, .slice a5 L5 c5, .bool false] ∧ RfO wr w.heap.size a7 (F.take i) c7 ∧ wr.ownsRow w.heap.size 5 1 (.slice a5 L5 c5) L5 (cb (pdd bd pad)) ∧ At wr w.heap.size 27 [.int .i64 st, .int .i64 mi, .slice an ns.length cn, .slice av us.length cv, .slice ab nb cb', .int .i64 pad] ∧ At wr (w.heap.size + 1) 51 z5 ∧ Up w wr)) (fun v4 _ => ns.length - (intOf v4).toNat)
  case atStart => exact ⟨0, rfl, Nat.zero_le _, Ho ⟨none, 0, HR4.o, World.ownsRow_nil _ _ _ _, (by have h := HO4.o; rw [HL5.o] at h; exact h), HA4.o, HZ4.o, HU4.o⟩⟩
  case round =>
   obtain ⟨i, rfl, hi, hQ⟩ := hrel
   obtain ⟨a7, c7, q1, q2, q3, q4, q5, q6⟩ := hQ.o
   have HR7 := Ho q1
   have HF7 := Ho q2
   have HO7 := Ho q3
   have HA7 := Ho q4
   have HZ7 := Ho q5
   have HU7 := Ho q6
   have h3 := q4.cell (i := 2) rfl
   clear hQ q1 q2 q3 q4 q5 q6
   by_cases hil : i < ns.length
   · have hilz : (i : Int) < (ns.length : Int) := by omega
     have hif : i < F.length := by rw [HFl.o]; exact hil
     obtain ⟨b, off, han, k1⟩ := HN.o.cells i hil
     have HAn := Ho han
     clear han
     have HT := Ho (List.take_succ_eq_append_getElem hif)
     have HLn := Ho (show (F.take i).length = i by rw [List.length_take]; omega)
     have hfg := HFg.o i hil hif
     obtain ⟨f, hf⟩ := ny (F[i])
     rw [hf] at HT hfg
     have HFv := Ho (show vat us i = f.v by rw [hfg])
     have HK1 := Ho (show w.cell? ⟨b, off + i, none⟩ = some (.string f.n) by rw [k1, hfg])
     clear hf hfg k1
     have HRd := Ho (HR7.o.up (Up.refl wr).drew)
     have HFd := Ho (ow_up HF7.o (Up.refl wr).drew)
     have HFd' := Ho (show wr.drew.ownsRow w.heap.size 85 2 (.slice a7 i c7) i (fdc (F.take i)) by have := HFd.o; rw [HLn.o] at this; exact this)
     have HOd := Ho (ow_up HO7.o (Up.refl wr).drew)
     have HAd := Ho (HA7.o.up (Up.refl wr).drew)
     have HZd := Ho (HZ7.o.up (Up.refl wr).drew)
     go_wp2
     refine wp_region_held_drew (S := fun w2 => At w2 w.heap.size 27 [.int .i64 st, .int .i64 mi, .slice an ns.length cn, .slice av us.length cv, .slice ab nb cb', .int .i64 pad] ∧ At w2 (w.heap.size + 1) 51 z5 ∧ Up w w2) (by kernel_rfl) ⟨HA7.o.up (Up.refl _).drew, HZ7.o.up (Up.refl _).drew, HU7.o.drew⟩ (fun hS => ?_)
     refine tN 0 (some 22) (.fieldAddr 51 (.tmp 3) 2) 0 (.pointer (some ⟨Br, 2, none⟩)) hS ?_
     simp only [Act.put, pB, pC, pD]
     refine tN 2 (some 24) (.fieldAddr 27 (.tmp 1) 2) 0 (.pointer (some ⟨w.heap.size, 2, none⟩)) hS ?_
     simp only [pA, pB, pC, pD]
     refine tK 3 (some 25) (.load 22 (.tmp 24)) 22 (.slice (some ⟨b, off, none⟩) ns.length cn) hS ?_ ?_
     · intro _ _ w5 hSw
       have h0 := hSw.1.cell (i := 2) rfl
       rw [HAn.o] at h0
       clear hSw hS
       go_simp
     simp only [pA, pB, pC, pD]
     refine tN 4 (some 26) (.move (.tmp 4)) 3 (.int .i64 (i : Int)) hS ?_
     simp only [pA, pB, pC, pD]
     refine tN 5 (some 27) (.indexAddr 22 (.tmp 25) (.tmp 26)) 0 (.pointer (some ⟨b, off + i, none⟩)) hS ?_
     simp only [pA, pB, pC, pD]
     refine tK 6 (some 28) (.load 9 (.tmp 27)) 9 (.string f.n) hS ?_ ?_
     · intro _ _ w5 hSw
       have h0 := hSw.2.2.cell HK1.o
       clear hSw hS
       go_simp
     simp only [pA, pB, pC, pD]
     refine tN 7 (some 29) (.fieldAddr 27 (.tmp 1) 3) 0 (.pointer (some ⟨w.heap.size, 3, none⟩)) hS ?_
     simp only [pA, pB, pC, pD]
     refine tK 8 (some 30) (.load 22 (.tmp 29)) 22 (.slice av us.length cv) hS ?_ ?_
     · intro _ _ w5 hSw
       have h0 := hSw.1.cell (i := 3) rfl
       clear hSw hS
       go_simp
     simp only [pA, pB, pC, pD]
     refine tN 9 (some 31) (.move (.tmp 4)) 3 (.int .i64 (i : Int)) hS ?_
     simp only [pA, pB, pC, pD]
     refine wpAnyH_ready (rs := [1, 10]) (by kernel_rfl) (by simp) ?_
     refine AllReadyH.cons (o := ⟨some 23, .load 42 (.tmp 22), 42, "law.go:135", #[eD 0], none⟩) rfl (fun K hK => ?_) (AllReadyH.cons (o := ⟨some 32, .call ⟨.value (.func 39), #[.tmp 30, .tmp 31], #[22, 3]⟩, 9, "law.go:135", #[eD 8, eD 9], none⟩) rfl (fun K hK => ?_) AllReadyH.nil)
     · rw [if_pos (by kernel_rfl)]
       have k3 := HRd.o.cell (i := 2) rfl
       go_simp
       refine hK.out _ _ hS (fun hS => ?_)
       clear hK K k3
       refine rD 10 (some 32) (.call ⟨.value (.func 39), #[.tmp 30, .tmp 31], #[22, 3]⟩) 9 fun _ _ K hK => ?_
       rw [if_pos (by kernel_rfl)]
       go_simp
       refine (value_walk av us cv i wr.drew (HV.o.up HU7.o.drew)).mono ?_
       rintro e w5 ⟨rfl, h9⟩
       obtain rfl := h9.symm
       clear h9
       rw [HFv.o]
       dsimp only
       refine hK.out _ _ hS (fun hS => ?_)
       clear hK K
       refine tN 11 (some 33) (.build 85 #[(0, .tmp 28), (1, .tmp 32)]) 85 (.agg #[.string f.n, .string f.v]) hS ?_
       simp only [Act.put, pB, pC, pD]
       refine rD 12 (some 34) (.buildSlice 42 1 #[(0, .tmp 33)]) 42 fun _ _ K hK => ?_
       rw [if_pos (by kernel_rfl)]
       go_simp
       refine hK.out _ _ ⟨hS.1.up ((Up.refl _).alloc _), hS.2.1.up ((Up.refl _).alloc _), hS.2.2.alloc _⟩ (fun hS => ?_)
       clear hK K
       refine rD 13 (some 35) (.call ⟨.builtin .append, #[.tmp 23, .tmp 34], #[42, 42]⟩) 42 fun _ _ K hK => oper_of_list ?_
       refine wpList_appRf (w := wr.drew) (N := w.heap.size) rfl _ _ rfl a7 c7 (F.take i) f HLn.o rfl rfl HFd.o HU7.o.drew.size (by omega) ?_
       intro ax2 cx2 w7 o7 u7 g7
       have HU8 := Ho (u7 w HU7.o.drew (Nat.le_refl _))
       have HR8 := Ho (HRd.o.by g7 (own_ne HFd'.o HRd.o (by decide)))
       have HA8 := Ho (HAd.o.by g7 (own_ne HFd'.o HAd.o (by decide)))
       have HZ8 := Ho (HZd.o.by g7 (own_ne HFd'.o HZd.o (by decide)))
       have HB8 := Ho (HOd.o.kept g7 (own_off HOd.o HFd'.o (by decide)))
       have HF8 := Ho (show RfO w7 w.heap.size ax2 (F.take (i + 1)) cx2 by rw [HT.o]; exact o7)
       clear o7 u7 g7
       refine hK.out _ _ ⟨HA8.o, HZ8.o, HU8.o⟩ (fun hS => ?_)
       clear hK K
       simp only [Act.put, pB, pC, pD]
       refine tN 14 (some 36) (.fieldAddr 51 (.tmp 3) 2) 0 (.pointer (some ⟨Br, 2, none⟩)) hS ?_
       simp only [pA, pB, pC, pD]
       refine rD 15 none (.store 42 (.tmp 36) (.tmp 35)) 0 fun _ _ K hK => ?_
       have k3 := HR8.o.cell (i := 2) rfl
       have f3 := HR8.o.thaw 2
       have G8 := grown_set1 w7 Br 2 (.slice ax2 (i + 1) cx2)
       have HR9 := Ho (HR8.o.set 2 (.slice ax2 (i + 1) cx2))
       have HU9 := Ho (HU8.o.by G8 (fun g hg => by have := Option.some.inj hg; have := HBr.o; omega))
       have HA9 := Ho (HA8.o.by G8 (fun e => by have := Option.some.inj e; have := HBr.o; omega))
       have HZ9 := Ho (HZ8.o.by G8 (fun e => by have := Option.some.inj e; have := HBr.o; omega))
       have HB9 := Ho (HB8.o.kept G8 (.inr (own_ne HB8.o HR8.o (by decide))))
       have HF9 := Ho (show RfO (w7.setCell ⟨Br, 2, none⟩ (.slice ax2 (i + 1) cx2)) w.heap.size ax2 (F.take (i + 1)) cx2 from HF8.o.kept G8 (.inr (own_ne HF8.o HR8.o (by decide))))
       clear G8
       rw [if_pos (by kernel_rfl)]
       go_simp
       refine hK.out _ _ ⟨HA9.o, HZ9.o, HU9.o⟩ (fun hS => ?_)
       clear hK K hS
       refine wpAnyH_done (by kernel_rfl) ?_ _
       go_wp2
       go_roundw
       all_goals first
        | exact ⟨i + 1, by go_num, by omega, Ho ⟨ax2, cx2, HR9.o, HF9.o, HB9.o, HA9.o, HZ9.o, HU9.o⟩⟩
        | (simp [intOf]; omega)
     · rw [if_pos (by kernel_rfl)]
       go_simp
       refine (value_walk av us cv i wr.drew (HV.o.up HU7.o.drew)).mono ?_
       rintro e w5 ⟨rfl, h9⟩
       obtain rfl := h9.symm
       clear h9
       rw [HFv.o]
       dsimp only
       refine hK.out _ _ hS (fun hS => ?_)
       clear hK K
       refine tN 11 (some 33) (.build 85 #[(0, .tmp 28), (1, .tmp 32)]) 85 (.agg #[.string f.n, .string f.v]) hS ?_
       simp only [Act.put, pB, pC, pD]
       refine wpAnyH_ready (rs := [1, 12]) (by kernel_rfl) (by simp) ?_
       refine AllReadyH.cons (o := ⟨some 23, .load 42 (.tmp 22), 42, "law.go:135", #[eD 0], none⟩) rfl (fun K hK => ?_) (AllReadyH.cons (o := ⟨some 34, .buildSlice 42 1 #[(0, .tmp 33)], 42, "law.go:135", #[eD 11], none⟩) rfl (fun K hK => ?_) AllReadyH.nil)
       case' _ =>
        rw [if_pos (by kernel_rfl)]
        have k3 := HRd.o.cell (i := 2) rfl
        go_simp
        refine hK.out _ _ hS (fun hS => ?_)
        clear hK K k3
        refine rD 12 (some 34) (.buildSlice 42 1 #[(0, .tmp 33)]) 42 fun _ _ K hK => ?_
        rw [if_pos (by kernel_rfl)]
        go_simp
        refine hK.out _ _ ⟨hS.1.up ((Up.refl _).alloc _), hS.2.1.up ((Up.refl _).alloc _), hS.2.2.alloc _⟩ (fun hS => ?_)
        clear hK K
       rotate_left
       case' _ =>
        rw [if_pos (by kernel_rfl)]
        go_simp
        refine hK.out _ _ ⟨hS.1.up ((Up.refl _).alloc _), hS.2.1.up ((Up.refl _).alloc _), hS.2.2.alloc _⟩ (fun hS => ?_)
        clear hK K
        refine rD 1 (some 23) (.load 42 (.tmp 22)) 42 fun _ _ K hK => ?_
        rw [if_pos (by kernel_rfl)]
        have k3 := ((HR7.o.up ((Up.refl wr).alloc (.cells #[.string f.n, .string f.v] 85))).up (Up.refl _).drew).cell (i := 2) rfl
        go_simp
        refine hK.out _ _ hS (fun hS => ?_)
        clear hK K k3
       all_goals
        refine rD 13 (some 35) (.call ⟨.builtin .append, #[.tmp 23, .tmp 34], #[42, 42]⟩) 42 fun _ _ K hK => oper_of_list ?_
        refine wpList_appRf (w := wr.drew) (N := w.heap.size) rfl _ _ rfl a7 c7 (F.take i) f HLn.o rfl rfl HFd.o HU7.o.drew.size (by omega) ?_
        intro ax2 cx2 w7 o7 u7 g7
        have HU8 := Ho (u7 w HU7.o.drew (Nat.le_refl _))
        have HR8 := Ho (HRd.o.by g7 (own_ne HFd'.o HRd.o (by decide)))
        have HA8 := Ho (HAd.o.by g7 (own_ne HFd'.o HAd.o (by decide)))
        have HZ8 := Ho (HZd.o.by g7 (own_ne HFd'.o HZd.o (by decide)))
        have HB8 := Ho (HOd.o.kept g7 (own_off HOd.o HFd'.o (by decide)))
        have HF8 := Ho (show RfO w7 w.heap.size ax2 (F.take (i + 1)) cx2 by rw [HT.o]; exact o7)
        clear o7 u7 g7
        refine hK.out _ _ ⟨HA8.o, HZ8.o, HU8.o⟩ (fun hS => ?_)
        clear hK K
        simp only [Act.put, pB, pC, pD]
        refine tN 14 (some 36) (.fieldAddr 51 (.tmp 3) 2) 0 (.pointer (some ⟨Br, 2, none⟩)) hS ?_
        simp only [pA, pB, pC, pD]
        refine rD 15 none (.store 42 (.tmp 36) (.tmp 35)) 0 fun _ _ K hK => ?_
        have k3 := HR8.o.cell (i := 2) rfl
        have f3 := HR8.o.thaw 2
        have G8 := grown_set1 w7 Br 2 (.slice ax2 (i + 1) cx2)
        have HR9 := Ho (HR8.o.set 2 (.slice ax2 (i + 1) cx2))
        have HU9 := Ho (HU8.o.by G8 (fun g hg => by have := Option.some.inj hg; have := HBr.o; omega))
        have HA9 := Ho (HA8.o.by G8 (fun e => by have := Option.some.inj e; have := HBr.o; omega))
        have HZ9 := Ho (HZ8.o.by G8 (fun e => by have := Option.some.inj e; have := HBr.o; omega))
        have HB9 := Ho (HB8.o.kept G8 (.inr (own_ne HB8.o HR8.o (by decide))))
        have HF9 := Ho (show RfO (w7.setCell ⟨Br, 2, none⟩ (.slice ax2 (i + 1) cx2)) w.heap.size ax2 (F.take (i + 1)) cx2 from HF8.o.kept G8 (.inr (own_ne HF8.o HR8.o (by decide))))
        clear G8
        rw [if_pos (by kernel_rfl)]
        go_simp
        refine hK.out _ _ ⟨HA9.o, HZ9.o, HU9.o⟩ (fun hS => ?_)
        clear hK K hS
        refine wpAnyH_done (by kernel_rfl) ?_ _
        go_wp2
        go_roundw
        all_goals first
         | exact ⟨i + 1, by go_num, by omega, Ho ⟨ax2, cx2, HR9.o, HF9.o, HB9.o, HA9.o, HZ9.o, HU9.o⟩⟩
         | (simp [intOf]; omega)
   · have hilz : ¬ (i : Int) < (ns.length : Int) := by omega
     have hin : i = ns.length := by omega
     subst hin
     have HF8 := Ho (show RfO wr w.heap.size a7 F c7 by
      have h1 := HF7.o
      rw [List.take_of_length_le (by rw [HFl.o]; exact Nat.le_refl _)] at h1
      exact h1)
     go_wp2_with (with_reducible refine sL 51 ?_)
     show wpList _ _ _ _ _ _
     refine wpList_load_mid rfl _ _ rfl Br 0 rfl [.int .i64 st, .int .i64 mi, .slice a7 ns.length c7, .slice a5 L5 c5, .bool false] _ HR7.o.range Tryz.underlying51 rfl (by kernel_rfl) ?_
     simp only [Act.put, pB, pC, pD]
     refine wpList_store_at rfl 51 _ _ rfl (w.heap.size + 1) HZ7.o [.int .i64 st, .int .i64 mi, .slice a7 ns.length c7, .slice a5 L5 c5, .bool false] rfl rfl rfl (by kernel_rfl) (by kernel_rfl) ?_
     intro w8 hA8 hg8
     have HA8 := Ho hA8
     have HU8 := Ho (HU7.o.bz hg8)
     have HF9 := Ho (show RfO w8 w.heap.size a7 F c7 from HF8.o.kept hg8 (.inr (own_ne HF8.o HZ7.o (by decide))))
     have HO9 := Ho (HO7.o.kept hg8 (.inr (own_ne HO7.o HZ7.o (by decide))))
     clear hA8 hg8
     simp only [Act.put]
     repeat go_step
     refine bodyPost_ret (results_agg1 Tryz.results15 _ _ (w.heap.size + 1) [.int .i64 st, .int .i64 mi, .slice a7 ns.length c7, .slice a5 L5 c5, .bool false] rfl HA8.o.range Tryz.underlying51 rfl (by kernel_rfl)) rfl ?_
     exact ⟨⟨a7, c7, _, rfl, Ho ⟨HF9.o, by unfold Ow; rw [HL5.o]; exact HO9.o⟩⟩, HU8.o⟩
end Go.Proofs.YtkaoalcffgnfeaaGreatDoor
namespace Go.Proofs.YtkaoalcffgnfeaaGreatDoor
open Go.RowKit Go.Shelf TextNum
theorem rng_mid {w : World} {b : Nat} {p m s : List Value} (h : w.rangeAt b 0 (p ++ (m ++ s))) : w.rangeAt b p.length m := fun j v hv => by
 have hj : j < m.length := by
  rcases List.getElem?_eq_some_iff.1 hv with ⟨h1, _⟩
  exact h1
 have := h (p.length + j) v (by rw [List.getElem?_append_right (by omega), Nat.add_sub_cancel_left, List.getElem?_append_left hj]; exact hv)
 rwa [Nat.zero_add] at this
theorem sb_nil0 (w : World) : Sb w (.slice none 0 0) [] := ⟨none, 0, rfl, by simp, by unfold maxLen; omega, fun _ => ⟨rfl, rfl⟩, fun _ h => by cases h⟩
set_option maxRecDepth 100000 in
set_option maxHeartbeats 8000000 in
theorem prints_req (ad : Nat → Addr) (m t : ByteArray) (mi : Int) (an : Option Addr) (ns : List ByteArray) (cn : Nat) (av : Option Addr) (us : List ByteArray) (cv : Nat) (ab : Option Addr) (nb cb' : Nat) (bd : List UInt8) (pad : Int) (w : World) (hN : StL w an ns cn) (hV : StL w av us cv) (hB : Sb w (.slice ab nb cb') bd) (hW : GW w ad) (hMt : w.rangeAt 1 0 mtC) (hm : m.size ≤ 1099511627776) (ht : t.size ≤ 1099511627776)
 (hm0 : -9223372036854775808 ≤ mi) (hm1 : mi ≤ 9223372036854775807) (hz : szs (mkF ns us) ≤ 1099511627000) (hnl : ns.length ≤ 1048576) (hbl : bd.length ≤ 1048576) :
 Calls Tryz.prog 7 #[.agg #[.int .i64 3, .slice none 0 0, .int .i64 0, .int .i64 0, .string ⟨#[]⟩, .string m, .string t, .int .i64 mi, .slice an ns.length cn, .slice av us.length cv, .slice ab nb cb', .int .i64 pad, .int .i64 0, .int .i64 0, .slice none 0 0, .slice none 0 0, .slice none 0 0, .int .i64 0]] w fun e w' => e = .returned (.bool true) ∧ Up w w' := by
 have HN := Ho hN
 have HV := Ho hV
 have HB := Ho hB
 have HW := Ho hW
 have hcn := hN.cap
 have hcv := hV.cap
 obtain ⟨hbn, hbc, hbm⟩ := hB.len
 unfold maxLen at hbm
 clear hN hV hB hbn
 obtain ⟨F, hF⟩ := ny (mkF ns us)
 have HFl0 : F.length = ns.length := by rw [← hF, mkF_len]
 rw [hF] at hz
 have HFe := Ho hF
 clear hF
 obtain ⟨BB, hBB⟩ := ny (pdd bd pad)
 have hBl : BB.length ≤ 2200000 := by
  rw [← hBB]
  unfold pdd
  rw [List.length_append, List.length_replicate]
  omega
 have HBe := Ho hBB
 clear hBB
 obtain ⟨nB, hnB⟩ := ny BB.length
 have HBn := Ho hnB
 obtain ⟨nF, hnF⟩ := ny ns.length
 have HNF := Ho (show F.length = nF by rw [HFl0]; exact hnF)
 have HNs := Ho hnF
 rw [hnB] at hBl
 obtain ⟨rq, hrq⟩ := ny (frQ m t mi F BB)
 have HRf := Ho (fun aF cF aR cR w2 (h : FdL w2 aF F cF) (hb : Sb w2 (.slice aR nB cR) BB) (hU : Up w w2) => RFormatRequest_walk m t mi aF F cF aR nB cR BB false w2 h hb (range_up hMt hU) hm ht hm0 hm1 hz (by omega))
 have HWf := Ho (fun aF cF aR cR w2 (h : FdL w2 aF F cF) (hb : Sb w2 (.slice aR nB cR) BB) (hU : Up w w2) => FormatRequest_walk ad m t mi aF F cF aR nB cR BB false w2 h hb (HW.o.up hU) hm ht hm0 hm1 hz (by omega))
 rw [hrq, HNF.o] at HRf HWf
 clear hrq HFl0 hnB hnF hW hMt
 have HX := Ho (fun W (h : At W w.heap.size 31 [.int .i64 3, .slice none 0 0, .int .i64 0, .int .i64 0, .string ⟨#[]⟩, .string m, .string t, .int .i64 mi, .slice an ns.length cn, .slice av us.length cv, .slice ab nb cb', .int .i64 pad, .int .i64 0, .int .i64 0, .slice none 0 0, .slice none 0 0, .slice none 0 0, .int .i64 0]) => (show W.rangeAt w.heap.size 5 [.string m, .string t, .int .i64 mi, .slice an ns.length cn, .slice av us.length cv, .slice ab nb cb', .int .i64 pad] from (rng_mid (p := [.int .i64 3, .slice none 0 0, .int .i64 0, .int .i64 0, .string ⟨#[]⟩]) (m := [.string m, .string t, .int .i64 mi, .slice an ns.length cn, .slice av us.length cv, .slice ab nb cb', .int .i64 pad]) (s := [.int .i64 0, .int .i64 0, .slice none 0 0, .slice none 0 0, .slice none 0 0, .int .i64 0]) h.range)))
 have HA1 := Ho (at_new w 31 [.int .i64 3, .slice none 0 0, .int .i64 0, .int .i64 0, .string ⟨#[]⟩, .string m, .string t, .int .i64 mi, .slice an ns.length cn, .slice av us.length cv, .slice ab nb cb', .int .i64 pad, .int .i64 0, .int .i64 0, .slice none 0 0, .slice none 0 0, .slice none 0 0, .int .i64 0])
 have HU1 := Ho ((Up.refl w).alloc (.cells [.int .i64 3, .slice none 0 0, .int .i64 0, .int .i64 0, .string ⟨#[]⟩, .string m, .string t, .int .i64 mi, .slice an ns.length cn, .slice av us.length cv, .slice ab nb cb', .int .i64 pad, .int .i64 0, .int .i64 0, .slice none 0 0, .slice none 0 0, .slice none 0 0, .int .i64 0].toArray 31))
 go_enter Tryz.func7, Tryz.ntmps7
 go_wp2_with (with_reducible refine sL 3 ?_)
 show wpList _ _ _ _ _ _
 obtain ⟨w1, hw1⟩ := ny (w.alloc (.cells [.int .i64 3, .slice none 0 0, .int .i64 0, .int .i64 0, .string ⟨#[]⟩, .string m, .string t, .int .i64 mi, .slice an ns.length cn, .slice av us.length cv, .slice ab nb cb', .int .i64 pad, .int .i64 0, .int .i64 0, .slice none 0 0, .slice none 0 0, .slice none 0 0, .int .i64 0].toArray 31))
 rw [hw1] at HA1 HU1
 change wpList _ _ _ _ _ (w.alloc (.cells [.int .i64 3, .slice none 0 0, .int .i64 0, .int .i64 0, .string ⟨#[]⟩, .string m, .string t, .int .i64 mi, .slice an ns.length cn, .slice av us.length cv, .slice ab nb cb', .int .i64 pad, .int .i64 0, .int .i64 0, .slice none 0 0, .slice none 0 0, .slice none 0 0, .int .i64 0].toArray 31))
 rw [hw1]
 clear hw1
 have c0 := HA1.o.cell (i := 0) rfl
 go_wp2_with (with_reducible refine sL 25 ?_)
 show wpList _ _ _ _ _ _
 refine wpList_load_mid rfl _ _ rfl w.heap.size 5 rfl [.string m, .string t, .int .i64 mi, .slice an ns.length cn, .slice av us.length cv, .slice ab nb cb', .int .i64 pad] _ (HX.o _ HA1.o) Tryz.underlying25 rfl (by kernel_rfl) ?_
 simp only [Act.put, pB, pC, pD]
 go_wp2_with fail
 refine (asked_walk m t mi an ns cn av us cv ab nb cb' bd pad w1 (HN.o.up HU1.o) (HV.o.up HU1.o) (HB.o.up HU1.o) hnl hbl).mono ?_
 rintro e w2 ⟨⟨aF, cF, vF, rfl, hO⟩, h9⟩
 rw [HBe.o, HFe.o] at hO
 obtain ⟨aR, cR, rfl⟩ := row_len hO.o.2
 have HU2 := Ho (HU1.o.trans h9)
 have HA2 := Ho (HA1.o.up h9)
 have HF2 := Ho (RfO.fdl hO.o.1)
 have HB2 := Ho (Ow.sb hO.o.2)
 clear hO h9
 have hcF := HF2.o.cap
 have hcB := HB2.o.len
 unfold maxLen at hcB
 obtain ⟨_, hcB1, hcB2⟩ := hcB
 rw [HBn.o] at HB2 hcB1 ⊢
 rw [HNF.o] at hcF
 dsimp only
 rw [HNs.o]
 go_wp2_with fail
 refine (HRf.o aF cF aR cR w2 HF2.o HB2.o HU2.o).mono ?_
 rintro e w3 ⟨hR, h9⟩
 have HU3 := Ho (HU2.o.trans h9)
 have HA3 := Ho (HA2.o.up h9)
 clear h9 hcF hcB1 hcB2 HF2 HB2
 cases rq with
 | error k =>
  change e = _ at hR
  subst hR
  dsimp only
  go_wp2_with (with_reducible refine sL 25 ?_)
  show wpList _ _ _ _ _ _
  refine wpList_load_mid rfl _ _ rfl w.heap.size 5 rfl [.string m, .string t, .int .i64 mi, .slice an ns.length cn, .slice av us.length cv, .slice ab nb cb', .int .i64 pad] _ (HX.o _ HA3.o) Tryz.underlying25 rfl (by kernel_rfl) ?_
  simp only [Act.put, pB, pC, pD]
  go_wp2_with fail
  refine (request_walk m t mi an ns cn av us cv ab nb cb' bd pad w3 (HN.o.up HU3.o) (HV.o.up HU3.o) (HB.o.up HU3.o) hnl hbl).mono ?_
  rintro e w4 ⟨⟨aF, cF, vF, rfl, hO⟩, h9⟩
  rw [HBe.o, HFe.o] at hO
  obtain ⟨aR, cR, rfl⟩ := row_len hO.o.2
  have HU4 := Ho (HU3.o.trans h9)
  have HA4 := Ho (HA3.o.up h9)
  have HF4 := Ho (FdO.fdl hO.o.1)
  have HB4 := Ho (Ow.sb hO.o.2)
  clear hO h9
  have hcF := HF4.o.cap
  have hcB := HB4.o.len
  unfold maxLen at hcB
  obtain ⟨_, hcB1, hcB2⟩ := hcB
  rw [HBn.o] at HB4 hcB1 ⊢
  rw [HNF.o] at hcF
  dsimp only
  rw [HNs.o]
  go_wp2_with fail
  refine (HWf.o aF cF aR cR w4 HF4.o HB4.o HU4.o).mono ?_
  rintro e w5 ⟨hR, h9⟩
  have HU5 := Ho (HU4.o.trans h9)
  clear h9
  change e = _ at hR
  subst hR
  dsimp only
  have hcv1 := conv_sb2 (sb_nil0 w5)
  go_wp2
  go_ret
  exact ⟨rfl, HU5.o⟩
 | ok l =>
  obtain ⟨a8, c8, rfl, hO8⟩ := hR
  have HO8 := Ho hO8.o
  have hO9 := hO8.o.len
  unfold maxLen at hO9
  obtain ⟨_, hO91, hO92⟩ := hO9
  clear hO8
  have HL := Ho (rfl : l.length = l.length)
  obtain ⟨L, hL⟩ := ny l.length
  rw [hL] at HO8 hO91 ⊢
  dsimp only
  go_wp2_with (with_reducible refine sL 25 ?_)
  show wpList _ _ _ _ _ _
  refine wpList_load_mid rfl _ _ rfl w.heap.size 5 rfl [.string m, .string t, .int .i64 mi, .slice an ns.length cn, .slice av us.length cv, .slice ab nb cb', .int .i64 pad] _ (HX.o _ HA3.o) Tryz.underlying25 rfl (by kernel_rfl) ?_
  simp only [Act.put, pB, pC, pD]
  go_wp2_with fail
  refine (request_walk m t mi an ns cn av us cv ab nb cb' bd pad w3 (HN.o.up HU3.o) (HV.o.up HU3.o) (HB.o.up HU3.o) hnl hbl).mono ?_
  rintro e w4 ⟨⟨aF, cF, vF, rfl, hO⟩, h9⟩
  rw [HBe.o, HFe.o] at hO
  obtain ⟨aR, cR, rfl⟩ := row_len hO.o.2
  have HU4 := Ho (HU3.o.trans h9)
  have Hu34 := Ho h9
  have HA4 := Ho (HA3.o.up h9)
  have HF4 := Ho (FdO.fdl hO.o.1)
  have HB4 := Ho (Ow.sb hO.o.2)
  clear hO h9
  have hcF := HF4.o.cap
  have hcB := HB4.o.len
  unfold maxLen at hcB
  obtain ⟨_, hcB1, hcB2⟩ := hcB
  rw [HBn.o] at HB4 hcB1 ⊢
  rw [HNF.o] at hcF
  dsimp only
  rw [HNs.o]
  go_wp2_with fail
  refine (HWf.o aF cF aR cR w4 HF4.o HB4.o HU4.o).mono ?_
  rintro e w5 ⟨hR, h9⟩
  have HU5 := Ho (HU4.o.trans h9)
  have HOr := Ho (HO8.o.up (Hu34.o.trans h9))
  clear h9
  obtain ⟨a9, c9, rfl, hO10⟩ := hR
  have HOw := Ho (Ow.sb hO10.o)
  clear hO10
  have hOw := HOw.o.len
  unfold maxLen at hOw
  obtain ⟨_, hOw1, hOw2⟩ := hOw
  rw [hL] at HOw hOw1 ⊢
  dsimp only
  have hcv1 := conv_sb2 HOr.o
  have hcv2 := conv_sb2 HOw.o
  clear hL HL
  go_wp2
  go_ret
  exact ⟨rfl, HU5.o⟩
set_option maxRecDepth 100000 in
set_option maxHeartbeats 8000000 in
theorem prints_res (ad : Nat → Addr) (st mi : Int) (an : Option Addr) (ns : List ByteArray) (cn : Nat) (av : Option Addr) (us : List ByteArray) (cv : Nat) (ab : Option Addr) (nb cb' : Nat) (bd : List UInt8) (pad : Int) (w : World) (hN : StL w an ns cn) (hV : StL w av us cv) (hB : Sb w (.slice ab nb cb') bd) (hW : GW w ad) (hRs : w.rangeAt 10 0 rsC) (hRi : w.rangeAt 7 0 rsI) (hRr : w.rangeAt 8 0 rsS) (hs0 : -9223372036854775808 ≤ st) (hs1 : st ≤ 9223372036854775807)
 (hm0 : -9223372036854775808 ≤ mi) (hm1 : mi ≤ 9223372036854775807) (hz : szs (mkF ns us) ≤ 1099511627000) (hnl : ns.length ≤ 1048576) (hbl : bd.length ≤ 1048576) :
 Calls Tryz.prog 7 #[.agg #[.int .i64 4, .slice none 0 0, .int .i64 0, .int .i64 0, .string ⟨#[]⟩, .string ⟨#[]⟩, .string ⟨#[]⟩, .int .i64 0, .slice none 0 0, .slice none 0 0, .slice none 0 0, .int .i64 0, .int .i64 st, .int .i64 mi, .slice an ns.length cn, .slice av us.length cv, .slice ab nb cb', .int .i64 pad]] w fun e w' => e = .returned (.bool true) ∧ Up w w' := by
 have HN := Ho hN
 have HV := Ho hV
 have HB := Ho hB
 have HW := Ho hW
 have hcn := hN.cap
 have hcv := hV.cap
 obtain ⟨hbn, hbc, hbm⟩ := hB.len
 unfold maxLen at hbm
 clear hN hV hB hbn
 obtain ⟨F, hF⟩ := ny (mkF ns us)
 have HFl0 : F.length = ns.length := by rw [← hF, mkF_len]
 rw [hF] at hz
 have HFe := Ho hF
 clear hF
 obtain ⟨BB, hBB⟩ := ny (pdd bd pad)
 have hBl : BB.length ≤ 2200000 := by
  rw [← hBB]
  unfold pdd
  rw [List.length_append, List.length_replicate]
  omega
 have HBe := Ho hBB
 clear hBB
 obtain ⟨nB, hnB⟩ := ny BB.length
 have HBn := Ho hnB
 obtain ⟨nF, hnF⟩ := ny ns.length
 have HNF := Ho (show F.length = nF by rw [HFl0]; exact hnF)
 have HNs := Ho hnF
 rw [hnB] at hBl
 obtain ⟨rq, hrq⟩ := ny (raQ st mi F BB)
 have HRf := Ho (fun aF cF aR cR w2 (h : FdL w2 aF F cF) (hb : Sb w2 (.slice aR nB cR) BB) (hU : Up w w2) => RFormatResponse_walk st mi aF F cF aR nB cR BB false w2 h hb (range_up hRi hU) (range_up hRr hU) hs0 hs1 hm0 hm1 hz (by omega))
 have HWf := Ho (fun aF cF aR cR w2 (h : FdL w2 aF F cF) (hb : Sb w2 (.slice aR nB cR) BB) (hU : Up w w2) => FormatResponse_walk ad st mi aF F cF aR nB cR BB false w2 h hb (HW.o.up hU) (range_up hRs hU) hs0 hs1 hm0 hm1 hz (by omega))
 rw [hrq, HNF.o] at HRf HWf
 clear hrq HFl0 hnB hnF hW hRs hRi hRr
 have HX := Ho (fun W (h : At W w.heap.size 31 [.int .i64 4, .slice none 0 0, .int .i64 0, .int .i64 0, .string ⟨#[]⟩, .string ⟨#[]⟩, .string ⟨#[]⟩, .int .i64 0, .slice none 0 0, .slice none 0 0, .slice none 0 0, .int .i64 0, .int .i64 st, .int .i64 mi, .slice an ns.length cn, .slice av us.length cv, .slice ab nb cb', .int .i64 pad]) => (show W.rangeAt w.heap.size 12 [.int .i64 st, .int .i64 mi, .slice an ns.length cn, .slice av us.length cv, .slice ab nb cb', .int .i64 pad] from (rng_mid (p := [.int .i64 4, .slice none 0 0, .int .i64 0, .int .i64 0, .string ⟨#[]⟩, .string ⟨#[]⟩, .string ⟨#[]⟩, .int .i64 0, .slice none 0 0, .slice none 0 0, .slice none 0 0, .int .i64 0]) (m := [.int .i64 st, .int .i64 mi, .slice an ns.length cn, .slice av us.length cv, .slice ab nb cb', .int .i64 pad]) (s := []) h.range)))
 have HA1 := Ho (at_new w 31 [.int .i64 4, .slice none 0 0, .int .i64 0, .int .i64 0, .string ⟨#[]⟩, .string ⟨#[]⟩, .string ⟨#[]⟩, .int .i64 0, .slice none 0 0, .slice none 0 0, .slice none 0 0, .int .i64 0, .int .i64 st, .int .i64 mi, .slice an ns.length cn, .slice av us.length cv, .slice ab nb cb', .int .i64 pad])
 have HU1 := Ho ((Up.refl w).alloc (.cells [.int .i64 4, .slice none 0 0, .int .i64 0, .int .i64 0, .string ⟨#[]⟩, .string ⟨#[]⟩, .string ⟨#[]⟩, .int .i64 0, .slice none 0 0, .slice none 0 0, .slice none 0 0, .int .i64 0, .int .i64 st, .int .i64 mi, .slice an ns.length cn, .slice av us.length cv, .slice ab nb cb', .int .i64 pad].toArray 31))
 go_enter Tryz.func7, Tryz.ntmps7
 go_wp2_with (with_reducible refine sL 3 ?_)
 show wpList _ _ _ _ _ _
 obtain ⟨w1, hw1⟩ := ny (w.alloc (.cells [.int .i64 4, .slice none 0 0, .int .i64 0, .int .i64 0, .string ⟨#[]⟩, .string ⟨#[]⟩, .string ⟨#[]⟩, .int .i64 0, .slice none 0 0, .slice none 0 0, .slice none 0 0, .int .i64 0, .int .i64 st, .int .i64 mi, .slice an ns.length cn, .slice av us.length cv, .slice ab nb cb', .int .i64 pad].toArray 31))
 rw [hw1] at HA1 HU1
 change wpList _ _ _ _ _ (w.alloc (.cells [.int .i64 4, .slice none 0 0, .int .i64 0, .int .i64 0, .string ⟨#[]⟩, .string ⟨#[]⟩, .string ⟨#[]⟩, .int .i64 0, .slice none 0 0, .slice none 0 0, .slice none 0 0, .int .i64 0, .int .i64 st, .int .i64 mi, .slice an ns.length cn, .slice av us.length cv, .slice ab nb cb', .int .i64 pad].toArray 31))
 rw [hw1]
 clear hw1
 have c0 := HA1.o.cell (i := 0) rfl
 go_wp2_with (with_reducible refine sL 27 ?_)
 show wpList _ _ _ _ _ _
 refine wpList_load_mid rfl _ _ rfl w.heap.size 12 rfl [.int .i64 st, .int .i64 mi, .slice an ns.length cn, .slice av us.length cv, .slice ab nb cb', .int .i64 pad] _ (HX.o _ HA1.o) Tryz.underlying27 rfl (by kernel_rfl) ?_
 simp only [Act.put, pB, pC, pD]
 go_wp2_with fail
 refine (answered_walk st mi an ns cn av us cv ab nb cb' bd pad w1 (HN.o.up HU1.o) (HV.o.up HU1.o) (HB.o.up HU1.o) hnl hbl).mono ?_
 rintro e w2 ⟨⟨aF, cF, vF, rfl, hO⟩, h9⟩
 rw [HBe.o, HFe.o] at hO
 obtain ⟨aR, cR, rfl⟩ := row_len hO.o.2
 have HU2 := Ho (HU1.o.trans h9)
 have HA2 := Ho (HA1.o.up h9)
 have HF2 := Ho (RfO.fdl hO.o.1)
 have HB2 := Ho (Ow.sb hO.o.2)
 clear hO h9
 have hcF := HF2.o.cap
 have hcB := HB2.o.len
 unfold maxLen at hcB
 obtain ⟨_, hcB1, hcB2⟩ := hcB
 rw [HBn.o] at HB2 hcB1 ⊢
 rw [HNF.o] at hcF
 dsimp only
 rw [HNs.o]
 go_wp2_with fail
 refine (HRf.o aF cF aR cR w2 HF2.o HB2.o HU2.o).mono ?_
 rintro e w3 ⟨hR, h9⟩
 have HU3 := Ho (HU2.o.trans h9)
 have HA3 := Ho (HA2.o.up h9)
 clear h9 hcF hcB1 hcB2 HF2 HB2
 cases rq with
 | error k =>
  change e = _ at hR
  subst hR
  dsimp only
  go_wp2_with (with_reducible refine sL 27 ?_)
  show wpList _ _ _ _ _ _
  refine wpList_load_mid rfl _ _ rfl w.heap.size 12 rfl [.int .i64 st, .int .i64 mi, .slice an ns.length cn, .slice av us.length cv, .slice ab nb cb', .int .i64 pad] _ (HX.o _ HA3.o) Tryz.underlying27 rfl (by kernel_rfl) ?_
  simp only [Act.put, pB, pC, pD]
  go_wp2_with fail
  refine (response_walk st mi an ns cn av us cv ab nb cb' bd pad w3 (HN.o.up HU3.o) (HV.o.up HU3.o) (HB.o.up HU3.o) hnl hbl).mono ?_
  rintro e w4 ⟨⟨aF, cF, vF, rfl, hO⟩, h9⟩
  rw [HBe.o, HFe.o] at hO
  obtain ⟨aR, cR, rfl⟩ := row_len hO.o.2
  have HU4 := Ho (HU3.o.trans h9)
  have HA4 := Ho (HA3.o.up h9)
  have HF4 := Ho (FdO.fdl hO.o.1)
  have HB4 := Ho (Ow.sb hO.o.2)
  clear hO h9
  have hcF := HF4.o.cap
  have hcB := HB4.o.len
  unfold maxLen at hcB
  obtain ⟨_, hcB1, hcB2⟩ := hcB
  rw [HBn.o] at HB4 hcB1 ⊢
  rw [HNF.o] at hcF
  dsimp only
  rw [HNs.o]
  go_wp2_with fail
  refine (HWf.o aF cF aR cR w4 HF4.o HB4.o HU4.o).mono ?_
  rintro e w5 ⟨hR, h9⟩
  have HU5 := Ho (HU4.o.trans h9)
  clear h9
  change e = _ at hR
  subst hR
  dsimp only
  have hcv1 := conv_sb2 (sb_nil0 w5)
  go_wp2
  go_ret
  exact ⟨rfl, HU5.o⟩
 | ok l =>
  obtain ⟨a8, c8, rfl, hO8⟩ := hR
  have HO8 := Ho hO8.o
  have hO9 := hO8.o.len
  unfold maxLen at hO9
  obtain ⟨_, hO91, hO92⟩ := hO9
  clear hO8
  have HL := Ho (rfl : l.length = l.length)
  obtain ⟨L, hL⟩ := ny l.length
  rw [hL] at HO8 hO91 ⊢
  dsimp only
  go_wp2_with (with_reducible refine sL 27 ?_)
  show wpList _ _ _ _ _ _
  refine wpList_load_mid rfl _ _ rfl w.heap.size 12 rfl [.int .i64 st, .int .i64 mi, .slice an ns.length cn, .slice av us.length cv, .slice ab nb cb', .int .i64 pad] _ (HX.o _ HA3.o) Tryz.underlying27 rfl (by kernel_rfl) ?_
  simp only [Act.put, pB, pC, pD]
  go_wp2_with fail
  refine (response_walk st mi an ns cn av us cv ab nb cb' bd pad w3 (HN.o.up HU3.o) (HV.o.up HU3.o) (HB.o.up HU3.o) hnl hbl).mono ?_
  rintro e w4 ⟨⟨aF, cF, vF, rfl, hO⟩, h9⟩
  rw [HBe.o, HFe.o] at hO
  obtain ⟨aR, cR, rfl⟩ := row_len hO.o.2
  have HU4 := Ho (HU3.o.trans h9)
  have Hu34 := Ho h9
  have HA4 := Ho (HA3.o.up h9)
  have HF4 := Ho (FdO.fdl hO.o.1)
  have HB4 := Ho (Ow.sb hO.o.2)
  clear hO h9
  have hcF := HF4.o.cap
  have hcB := HB4.o.len
  unfold maxLen at hcB
  obtain ⟨_, hcB1, hcB2⟩ := hcB
  rw [HBn.o] at HB4 hcB1 ⊢
  rw [HNF.o] at hcF
  dsimp only
  rw [HNs.o]
  go_wp2_with fail
  refine (HWf.o aF cF aR cR w4 HF4.o HB4.o HU4.o).mono ?_
  rintro e w5 ⟨hR, h9⟩
  have HU5 := Ho (HU4.o.trans h9)
  have HOr := Ho (HO8.o.up (Hu34.o.trans h9))
  clear h9
  obtain ⟨a9, c9, rfl, hO10⟩ := hR
  have HOw := Ho (Ow.sb hO10.o)
  clear hO10
  have hOw := HOw.o.len
  unfold maxLen at hOw
  obtain ⟨_, hOw1, hOw2⟩ := hOw
  rw [hL] at HOw hOw1 ⊢
  dsimp only
  have hcv1 := conv_sb2 HOr.o
  have hcv2 := conv_sb2 HOw.o
  clear hL HL
  go_wp2
  go_ret
  exact ⟨rfl, HU5.o⟩
end Go.Proofs.YtkaoalcffgnfeaaGreatDoor
namespace Go.Proofs.YtkaoalcffgnfeaaGreatDoor
open Go.RowKit Go.Shelf TextNum
theorem wpList_load_midG {ops : Array Oper} {rest : List Oper} {op : Oper} {a : Act} {w : World} {Q : Exit → Act → World → Prop} (hw : Region.wanted op (yielded ops a.tmps) = true) (ty : TypeId) (x : Operand) (ho : op.op = .load ty x)
 (b o : Nat) (hx : a.eval x = .pointer (some ⟨b, o, none⟩)) (cs : List Value) (d : TypeDesc) (hc : w.rangeAt b o cs)
 (hu : Tryz.prog.underlying ty = some d) (hd : d.isRow = true) (hi : (Tryz.prog.info? ty).map (·.size) = some cs.length)
 (h : wpList Tryz.prog ops Q rest (a.put op.dst (.agg cs.toArray)) w) : wpList Tryz.prog ops Q (op :: rest) a w :=
 wpList_step fun K hK => by
  simp only [hw, if_true]
  exact wp_load_mid ty x ho b o hx cs d hc hu hd hi (hK _ _ h)
set_option maxRecDepth 100000 in
set_option maxHeartbeats 8000000 in
theorem Prints_walk (ad : Nat → Addr) (m t : ByteArray) (mi : Int) (an : Option Addr) (ns : List ByteArray) (cn : Nat) (av : Option Addr) (us : List ByteArray) (cv : Nat) (ab : Option Addr) (nb cb' : Nat) (bd : List UInt8) (pad : Int)
 (st mj : Int) (am : Option Addr) (ms : List ByteArray) (cm : Nat) (au : Option Addr) (vs' : List ByteArray) (cu : Nat) (ac : Option Addr) (nc cc : Nat) (bc : List UInt8) (pae : Int) (w : World)
 (hN : StL w an ns cn) (hV : StL w av us cv) (hB : Sb w (.slice ab nb cb') bd) (hN2 : StL w am ms cm) (hV2 : StL w au vs' cu) (hB2 : Sb w (.slice ac nc cc) bc)
 (hW : GW w ad) (hRs : w.rangeAt 10 0 rsC) (hMt : w.rangeAt 1 0 mtC) (hRi : w.rangeAt 7 0 rsI) (hRr : w.rangeAt 8 0 rsS)
 (hm : m.size ≤ 1099511627776) (ht : t.size ≤ 1099511627776) (hm0 : -9223372036854775808 ≤ mi) (hm1 : mi ≤ 9223372036854775807) (hz : szs (mkF ns us) ≤ 1099511627000) (hnl : ns.length ≤ 1048576) (hbl : bd.length ≤ 1048576)
 (hs0 : -9223372036854775808 ≤ st) (hs1 : st ≤ 9223372036854775807) (hj0 : -9223372036854775808 ≤ mj) (hj1 : mj ≤ 9223372036854775807) (hz2 : szs (mkF ms vs') ≤ 1099511627000) (hml : ms.length ≤ 1048576) (hcl : bc.length ≤ 1048576) :
 Calls Tryz.prog 3 #[.agg #[.string m, .string t, .int .i64 mi, .slice an ns.length cn, .slice av us.length cv, .slice ab nb cb', .int .i64 pad], .agg #[.int .i64 st, .int .i64 mj, .slice am ms.length cm, .slice au vs'.length cu, .slice ac nc cc, .int .i64 pae]] w fun e w' => e = .returned (.bool true) ∧ Up w w' := by
 have HW := Ho hW
 have HP1 := Ho (fun w2 (h : Up w w2) => prints_req ad m t mi an ns cn av us cv ab nb cb' bd pad w2 (hN.up h) (hV.up h) (hB.up h) (hW.up h) (range_up hMt h) hm ht hm0 hm1 hz hnl hbl)
 have HP2 := Ho (fun w2 (h : Up w w2) => prints_res ad st mj am ms cm au vs' cu ac nc cc bc pae w2 (hN2.up h) (hV2.up h) (hB2.up h) (hW.up h) (range_up hRs h) (range_up hRi h) (range_up hRr h) hs0 hs1 hj0 hj1 hz2 hml hcl)
 clear hN hV hB hN2 hV2 hB2 hW hRs hMt hRi hRr
 have HA0 := Ho ((at_new w 25 [.string m, .string t, .int .i64 mi, .slice an ns.length cn, .slice av us.length cv, .slice ab nb cb', .int .i64 pad]).up ((Up.refl _).alloc (.cells [.int .i64 st, .int .i64 mj, .slice am ms.length cm, .slice au vs'.length cu, .slice ac nc cc, .int .i64 pae].toArray 27)))
 have HZ0 := Ho (at_new (w.alloc (.cells [.string m, .string t, .int .i64 mi, .slice an ns.length cn, .slice av us.length cv, .slice ab nb cb', .int .i64 pad].toArray 25)) 27 [.int .i64 st, .int .i64 mj, .slice am ms.length cm, .slice au vs'.length cu, .slice ac nc cc, .int .i64 pae])
 have HU0 := Ho (((Up.refl w).alloc (.cells [.string m, .string t, .int .i64 mi, .slice an ns.length cn, .slice av us.length cv, .slice ab nb cb', .int .i64 pad].toArray 25)).alloc (.cells [.int .i64 st, .int .i64 mj, .slice am ms.length cm, .slice au vs'.length cu, .slice ac nc cc, .int .i64 pae].toArray 27))
 rw [alloc_size] at HZ0
 go_enter Tryz.func3, Tryz.ntmps3
 go_wp2_with fail
 obtain ⟨w1, hw1⟩ := ny ((w.alloc (.cells [.string m, .string t, .int .i64 mi, .slice an ns.length cn, .slice av us.length cv, .slice ab nb cb', .int .i64 pad].toArray 25)).alloc (.cells [.int .i64 st, .int .i64 mj, .slice am ms.length cm, .slice au vs'.length cu, .slice ac nc cc, .int .i64 pae].toArray 27))
 rw [hw1] at HA0 HU0 HZ0
 change Calls _ _ _ ((w.alloc (.cells [.string m, .string t, .int .i64 mi, .slice an ns.length cn, .slice av us.length cv, .slice ab nb cb', .int .i64 pad].toArray 25)).alloc (.cells [.int .i64 st, .int .i64 mj, .slice am ms.length cm, .slice au vs'.length cu, .slice ac nc cc, .int .i64 pae].toArray 27)) _
 rw [hw1]
 clear hw1
 refine (known_walk ad w1 (HW.o.up HU0.o)).mono ?_
 rintro e w2 ⟨rfl, h9⟩
 have HU2 := Ho (HU0.o.trans h9)
 have HA2 := Ho (HA0.o.up h9)
 have HZ2 := Ho (HZ0.o.up h9)
 clear h9
 dsimp only
 go_wp2_with (with_reducible refine sL 25 ?_)
 show wpList _ _ _ _ _ _
 refine wpList_load_midG (by kernel_rfl) _ _ rfl w.heap.size 0 rfl [.string m, .string t, .int .i64 mi, .slice an ns.length cn, .slice av us.length cv, .slice ab nb cb', .int .i64 pad] _ HA2.o.range Tryz.underlying25 rfl (by kernel_rfl) ?_
 simp only [Act.put, pB, pC, pD]
 go_wp2_with fail
 refine (HP1.o w2 HU2.o).mono ?_
 rintro e w3 ⟨rfl, h9⟩
 have HU3 := Ho (HU2.o.trans h9)
 have HZ3 := Ho (HZ2.o.up h9)
 clear h9
 dsimp only
 go_wp2_with (with_reducible refine sL 27 ?_)
 show wpList _ _ _ _ _ _
 refine wpList_load_midG (by kernel_rfl) _ _ rfl (w.heap.size + 1) 0 rfl [.int .i64 st, .int .i64 mj, .slice am ms.length cm, .slice au vs'.length cu, .slice ac nc cc, .int .i64 pae] _ HZ3.o.range Tryz.underlying27 rfl (by kernel_rfl) ?_
 simp only [Act.put, pB, pC, pD]
 go_wp2_with fail
 refine (HP2.o w3 HU3.o).mono ?_
 rintro e w4 ⟨rfl, h9⟩
 have HU4 := Ho (HU3.o.trans h9)
 clear h9
 dsimp only
 go_wp2
 go_ret
 exact ⟨rfl, HU4.o⟩
end Go.Proofs.YtkaoalcffgnfeaaGreatDoor
namespace Go.Proofs.YtkaoalcffgnfeaaGreatDoor
open Go.ChangeShapes Go.WideShapes Go.ChangeAt Go.WideMaps Go.WideElems Go.RowKit TextNum
set_option maxRecDepth 100000 in
theorem cells8 : Tryz.prog.cellsOf 5 = 1 := by kernel_rfl
theorem plain_of {W : World} {ad : Addr} {v : Value} (h : W.cell? (ad.add 0) = some v) : ad.spot = none := by
 have e : ad.add 0 = ad := by unfold Addr.add; rw [if_pos rfl]
 rw [e] at h
 obtain ⟨b, off, sp⟩ := ad
 cases sp with
 | none => rfl
 | some s => exfalso; simp only [World.cell?] at h; split at h <;> simp at h
theorem one_leB {H : Type} (d : DataW H) : 1 ≤ Rows.uptoBulk d := by
 cases d with
 | lit l => cases l <;> simp [Rows.uptoBulk]
 | nil => simp [Rows.uptoBulk]
 | ptr d => simp [Rows.uptoBulk]
 | slice elems spare => simp [Rows.uptoBulk]
 | agg parts => simp [Rows.uptoBulk]
 | iface t d => simp [Rows.uptoBulk]
 | map entries => simp [Rows.uptoBulk]
 | held h => simp [Rows.uptoBulk]
theorem len_leB {H : Type} : ∀ (l : List (DataW H)), l.length ≤ Rows.uptoBulkAll l
 | [] => Nat.zero_le _
 | x :: r => by have := one_leB x; have := len_leB r; simp only [Rows.uptoBulkAll, List.length_cons]; omega
theorem bulk_mem {H : Type} : ∀ {ds : List (DataW H)} {j : Nat} {d : DataW H}, ds[j]? = some d → Rows.uptoBulk d ≤ Rows.uptoBulkAll ds
 | d0 :: ds, 0, d, hd => by
  simp only [List.getElem?_cons_zero, Option.some.injEq] at hd
  subst hd
  simp only [Rows.uptoBulkAll]
  omega
 | d0 :: ds, j + 1, d, hd => by
  simp only [List.getElem?_cons_succ] at hd
  have := bulk_mem hd
  simp only [Rows.uptoBulkAll]
  omega
 | [], _, _, hd => by simp at hd
theorem sb_open {H : Type} {enc : TypeId × Value → H} {W : World} {fuel : Nat} {l : List Value} {d : DataW H} {ps : List MemPlace}
 (hf' : DataW.trod enc Tryz.prog W 0 (fun _ => true) true fuel 23 l = some (d, ps)) :
 ∃ v bs, l = [v] ∧ Sb W v bs ∧ bs.length ≤ Rows.uptoBulk d := by
 rcases open_ints Tryz.underlying23 Tryz.underlying5 cells8 hf' with ⟨e1, _⟩ | ⟨ad, len, cap, zs, e1, _, hlc, hcm, hzl, hx, hcell, hwf⟩
 · exact ⟨_, [], e1, ⟨none, 0, rfl, Nat.le_refl _, by simp [maxLen], fun _ => ⟨rfl, rfl⟩, (fun _ e => by cases e)⟩, Nat.zero_le _⟩
 · simp only [if_true] at hzl
   injection hx with hd _
   have hlen : ((zs.take len).map fun z => UInt8.ofNat z.toNat).length = len := by
    rw [List.length_map, List.length_take, Nat.min_eq_left (by omega)]
   refine ⟨_, (zs.take len).map fun z => UInt8.ofNat z.toNat, e1, ⟨some ad, cap, by rw [hlen], by rw [hlen]; omega, hcm, (fun e => by cases e), fun ad' e => ?_⟩, ?_⟩
   · obtain rfl := Option.some.inj e
     refine ⟨fun h0 => ?_, fun j u hj => ?_⟩
     · have h1 : 0 < len := by
        rcases Nat.eq_zero_or_pos len with h | h
        · exfalso; apply h0; subst h; simp
        · exact h
       exact plain_of (hcell 0 (by omega))
     · have hj1 : j < len := by
        have := (List.getElem?_eq_some_iff.1 hj).1
        rw [cb_length, hlen] at this
        exact this
       have hj2 : j < zs.length := by omega
       have hz := hwf zs[j] (List.getElem_mem hj2)
       have hb : 0 ≤ zs[j] ∧ zs[j] ≤ 255 := by
        simpa [Lit.wf, IntKind.min, IntKind.max, IntKind.signed, IntKind.bits] using hz
       have h1 := hcell j hj2
       rw [cb_get (by rw [hlen]; exact hj1)] at hj
       rw [h1, ← hj]
       simp only [List.getElem_map, List.getElem_take, List.getD_eq_getElem?_getD, List.getElem?_eq_getElem hj2, Option.getD_some]
       congr 2
       rw [UInt8.toNat_ofNat', Nat.mod_eq_of_lt (by omega)]
       omega
   · rw [hlen, hd]
     simp only [Rows.uptoBulk]
     have := len_leB (lits (H := H) .u8 (zs.take len))
     have e : (lits (H := H) .u8 (zs.take len)).length = (zs.take len).length := by simp [lits]
     rw [List.length_take, Nat.min_eq_left (by omega)] at e
     omega
end Go.Proofs.YtkaoalcffgnfeaaGreatDoor
