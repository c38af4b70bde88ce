import Derived.Test.YtehnnlhoajdcaaaGreatDoorYc
import Derived.Test.YtehnnlhoajdcaaaGreatDoorWg
import Derived.Lib.SlBytesConst
namespace Go.Proofs.YtehnnlhoajdcaaaGreatDoor
open Go.RowKit TextNum
def clR (ad : Nat → Addr) (a : Option Addr) (c : Nat) : Er (List UInt8 × Nat) → Value
 | .error k => .tuple #[.slice none 0 0, .int .i64 0, ev (ad k)]
 | .ok (ln, k) => .tuple #[.slice a ln.length c, .int .i64 (k : Int), .nilIface]
theorem sb_mk (w : World) (k : UInt8) : Sb (w.alloc (.cells #[.int .u8 (k.toNat : Int)] 5 (1, 2))) (.slice (some ⟨w.heap.size, 0, none⟩) 1 1) [k] := by
 refine ⟨_, 1, rfl, by simp, by simp [maxLen], (fun e => by cases e), fun ad e => ?_⟩
 obtain rfl := Option.some.inj e
 refine ⟨fun _ => rfl, fun j u hj => ?_⟩
 match j, hj with
 | 0, hj =>
  obtain rfl := Option.some.inj hj
  rw [Addr.add_lit]
  unfold World.cell?
  dsimp only
  rw [heap_alloc_new w _]
  rfl
 | j + 1, hj => simp [cb] at hj
set_option maxRecDepth 100000 in
set_option maxHeartbeats 2000000 in
theorem cutLine_walk (ad : Nat → Addr) {a : Option Addr} {n c : Nat} {ds : List UInt8} (most : Nat) (hmo : most ≤ 1048576) (w : World) (hS : Sb w (.slice a n c) ds) (h : GE w ad) : Calls Tryz.prog 124 #[.slice a n c, .int .i64 (most : Int)] w fun e w' => e = .returned (clR ad a c (cutL most ds)) ∧ Up w w' := by
 have HG := Ho h
 clear h
 obtain ⟨hn, hnc, hcm⟩ := hS.len
 unfold maxLen at hcm
 have HN := Ho hn
 have HSb := Ho (show Sb w (.slice a ds.length c) ds by rw [← hn]; exact hS)
 clear hn hS
 go_enter Tryz.func124, Tryz.ntmps124
 by_cases hlt : n < most + 2
 · have hltz : (n : Int) < (most : Int) + 2 := by omega
   have hlez : (n : Int) ≤ (most : Int) + 2 := by omega
   have hnz : (n : Int) ≤ (c : Int) := by omega
   have hm : Sb w (.slice a n c) (ds.take (most + 2)) := by
    rw [List.take_of_length_le (by rw [← HN.o]; omega), HN.o]
    exact HSb.o
   have HI := Ho (bIndex_walk 10 w hm)
   cases hf : fnl (ds.take (most + 2)) with
   | none =>
    have HX := Ho (show Go.Lib.indexByte (ds.take (most + 2)) 10 = -1 by rw [ixb_fnl, hf])
    rw [HX.o] at HI
    have HE := Ho (show clR ad a c (cutL most ds) = clR ad a c (.error 2) by unfold cutL; rw [hf]; dsimp only; rw [if_pos (by rw [← HN.o]; omega)])
    go_wp2_with fail
    refine HI.o.mono ?_
    rintro e w9 ⟨rfl, h9⟩
    obtain rfl := h9.symm
    clear h9
    dsimp only
    go_wp2
    refine wp_region_held_drew (S := fun w2 => GE w2 ad ∧ Up w w2) (by kernel_rfl) ⟨HG.o.up (Up.refl w).drew, (Up.refl w).drew⟩ (fun hS => ?_)
    refine tK 0 (some 25) (.load 106 (.global 17)) 106 (ev (ad 2)) hS ?_ ?_
    · intro _ _ w5 hSw
      have hgl : w5.cell? ⟨17, 0, none⟩ = _ := hSw.1.gl 2 (by decide)
      clear hSw hS
      go_simp
    simp only [Act.put, pB, pC, pD]
    refine tN 1 (some 4) (.assign (.const (.slice none 0 0))) 22 (.slice none 0 0) hS ?_
    simp only [pA, pB, pC, pD]
    refine tN 2 (some 5) (.assign (.const (.int .i64 0))) 3 (.int .i64 0) hS ?_
    simp only [pA, pB, pC, pD]
    refine tN 3 (some 6) (.assign (.tmp 25)) 106 (ev (ad 2)) hS ?_
    simp only [pA, pB, pC, pD]
    refine wpAnyH_done (by kernel_rfl) ?_ _
    have HS2 := Ho hS.2
    clear hS
    go_wp2
    go_ret3
    rw [HE.o]
    exact ⟨rfl, HS2.o⟩
   | some i =>
    have HX := Ho (show Go.Lib.indexByte (ds.take (most + 2)) 10 = (i : Int) by rw [ixb_fnl, hf])
    rw [HX.o] at HI
    have hil := fnl_lt hf
    rw [List.length_take, ← HN.o] at hil
    have hin : i < n := by omega
    have him : i < most + 2 := by omega
    clear hil
    have hic : (i : Int) ≤ (c : Int) := by omega
    have hS2 := HSb.o.take i (by rw [← HN.o]; omega)
    have HTS := Ho (fun (w2 : World) (hu : Up w w2) (x : Nat) (hx : Sb w2 (.slice (some ⟨x, 0, none⟩) 1 1) [13]) => bTrimSuffix_walk x w2 (hS2.up hu) hx)
    clear hS2
    have kc := fun (w : World) (C : Array Value) (n c : Nat) => Go.Lib.run_convert_bytes_const (P := Tryz.prog) w 22 5 C n c Tryz.underlying22 Tryz.underlying5
    go_wp2_with fail
    refine HI.o.mono ?_
    rintro e w9 ⟨rfl, h9⟩
    obtain rfl := h9.symm
    clear h9
    dsimp only
    go_wp2_with fail
    refine (HTS.o _ ((Up.refl w).alloc _) w.heap.size (sb_mk w 13)).mono ?_
    rintro e w9 ⟨rfl, h9⟩
    have HU9 := Ho (show Up w w9 by rw [h9]; exact (Up.refl w).alloc _)
    clear h9
    dsimp only
    obtain ⟨k, hk⟩ := ny ((tcr (ds.take i)).length)
    rw [hk]
    by_cases hkm : most < k
    · have zkm : (most : Int) < (k : Int) := by omega
      have HE := Ho (show clR ad a c (cutL most ds) = clR ad a c (.error 1) by unfold cutL; rw [hf]; dsimp only; rw [if_pos (by rw [hk]; exact hkm)])
      clear hk
      go_wp2
      refine wp_region_held_drew (S := fun w2 => GE w2 ad ∧ Up w w2) (by kernel_rfl) ⟨HG.o.up HU9.o.drew, HU9.o.drew⟩ (fun hS => ?_)
      refine tK 0 (some 39) (.load 106 (.global 2)) 106 (ev (ad 1)) hS ?_ ?_
      · intro _ _ w5 hSw
        have hgl : w5.cell? ⟨2, 0, none⟩ = _ := hSw.1.gl 1 (by decide)
        clear hSw hS
        go_simp
      simp only [pA, pB, pC, pD]
      refine tN 1 (some 4) (.assign (.const (.slice none 0 0))) 22 (.slice none 0 0) hS ?_
      simp only [pA, pB, pC, pD]
      refine tN 2 (some 5) (.assign (.const (.int .i64 0))) 3 (.int .i64 0) hS ?_
      simp only [pA, pB, pC, pD]
      refine tN 3 (some 6) (.assign (.tmp 39)) 106 (ev (ad 1)) hS ?_
      simp only [pA, pB, pC, pD]
      refine wpAnyH_done (by kernel_rfl) ?_ _
      have HS2 := Ho hS.2
      clear hS
      go_wp2
      go_ret3
      rw [HE.o]
      exact ⟨rfl, HS2.o⟩
    have zkm : ¬ (most : Int) < (k : Int) := by omega
    have HE := Ho (show clR ad a c (cutL most ds) = .tuple #[.slice a k c, .int .i64 ((i + 1 : Nat) : Int), .nilIface] by unfold cutL; rw [hf]; dsimp only; rw [if_neg (by rw [hk]; exact hkm), ← hk]; rfl)
    clear hk
    go_wp2
    go_ret3
    rw [HE.o]
    exact ⟨by first | rfl | simp, HU9.o⟩
 have hltz : ¬ (n : Int) < (most : Int) + 2 := by omega
 by_cases hle : n ≤ most + 2
 case' _ =>
  have hlez : (n : Int) ≤ (most : Int) + 2 := by omega
  have hnz : (n : Int) ≤ (c : Int) := by omega
  have hm : Sb w (.slice a n c) (ds.take (most + 2)) := by
   rw [List.take_of_length_le (by rw [← HN.o]; omega), HN.o]
   exact HSb.o
 rotate_left
 case' _ =>
  have hlez : ¬ (n : Int) ≤ (most : Int) + 2 := by omega
  have hnz : (most : Int) + 2 ≤ (c : Int) := by omega
  have hm : Sb w (.slice a (most + 2) c) (ds.take (most + 2)) := HSb.o.take (most + 2) (by rw [← HN.o]; omega)
 all_goals
  have HI := Ho (bIndex_walk 10 w hm)
  cases hf : fnl (ds.take (most + 2)) with
  | none =>
   have HX := Ho (show Go.Lib.indexByte (ds.take (most + 2)) 10 = -1 by rw [ixb_fnl, hf])
   rw [HX.o] at HI
   have HE := Ho (show clR ad a c (cutL most ds) = clR ad a c (.error 1) by unfold cutL; rw [hf]; dsimp only; rw [if_neg (by rw [← HN.o]; omega)])
   go_wp2_with fail
   refine HI.o.mono ?_
   rintro e w9 ⟨rfl, h9⟩
   obtain rfl := h9.symm
   clear h9
   dsimp only
   go_wp2
   refine wp_region_held_drew (S := fun w2 => GE w2 ad ∧ Up w w2) (by kernel_rfl) ⟨HG.o.up (Up.refl w).drew, (Up.refl w).drew⟩ (fun hS => ?_)
   refine tK 0 (some 28) (.load 106 (.global 2)) 106 (ev (ad 1)) hS ?_ ?_
   · intro _ _ w5 hSw
     have hgl : w5.cell? ⟨2, 0, none⟩ = _ := hSw.1.gl 1 (by decide)
     clear hSw hS
     go_simp
   simp only [pA, pB, pC, pD]
   refine tN 1 (some 4) (.assign (.const (.slice none 0 0))) 22 (.slice none 0 0) hS ?_
   simp only [pA, pB, pC, pD]
   refine tN 2 (some 5) (.assign (.const (.int .i64 0))) 3 (.int .i64 0) hS ?_
   simp only [pA, pB, pC, pD]
   refine tN 3 (some 6) (.assign (.tmp 28)) 106 (ev (ad 1)) hS ?_
   simp only [pA, pB, pC, pD]
   refine wpAnyH_done (by kernel_rfl) ?_ _
   have HS2 := Ho hS.2
   clear hS
   go_wp2
   go_ret3
   rw [HE.o]
   exact ⟨rfl, HS2.o⟩
  | some i =>
   have HX := Ho (show Go.Lib.indexByte (ds.take (most + 2)) 10 = (i : Int) by rw [ixb_fnl, hf])
   rw [HX.o] at HI
   have hil := fnl_lt hf
   rw [List.length_take, ← HN.o] at hil
   have hin : i < n := by omega
   have him : i < most + 2 := by omega
   clear hil
   have hic : (i : Int) ≤ (c : Int) := by omega
   have hS2 := HSb.o.take i (by rw [← HN.o]; omega)
   have HTS := Ho (fun (w2 : World) (hu : Up w w2) (x : Nat) (hx : Sb w2 (.slice (some ⟨x, 0, none⟩) 1 1) [13]) => bTrimSuffix_walk x w2 (hS2.up hu) hx)
   clear hS2
   have kc := fun (w : World) (C : Array Value) (n c : Nat) => Go.Lib.run_convert_bytes_const (P := Tryz.prog) w 22 5 C n c Tryz.underlying22 Tryz.underlying5
   go_wp2_with fail
   refine HI.o.mono ?_
   rintro e w9 ⟨rfl, h9⟩
   obtain rfl := h9.symm
   clear h9
   dsimp only
   go_wp2_with fail
   refine (HTS.o _ ((Up.refl w).alloc _) w.heap.size (sb_mk w 13)).mono ?_
   rintro e w9 ⟨rfl, h9⟩
   have HU9 := Ho (show Up w w9 by rw [h9]; exact (Up.refl w).alloc _)
   clear h9
   dsimp only
   obtain ⟨k, hk⟩ := ny ((tcr (ds.take i)).length)
   rw [hk]
   by_cases hkm : most < k
   · have zkm : (most : Int) < (k : Int) := by omega
     have HE := Ho (show clR ad a c (cutL most ds) = clR ad a c (.error 1) by unfold cutL; rw [hf]; dsimp only; rw [if_pos (by rw [hk]; exact hkm)])
     clear hk
     go_wp2
     refine wp_region_held_drew (S := fun w2 => GE w2 ad ∧ Up w w2) (by kernel_rfl) ⟨HG.o.up HU9.o.drew, HU9.o.drew⟩ (fun hS => ?_)
     refine tK 0 (some 39) (.load 106 (.global 2)) 106 (ev (ad 1)) hS ?_ ?_
     · intro _ _ w5 hSw
       have hgl : w5.cell? ⟨2, 0, none⟩ = _ := hSw.1.gl 1 (by decide)
       clear hSw hS
       go_simp
     simp only [pA, pB, pC, pD]
     refine tN 1 (some 4) (.assign (.const (.slice none 0 0))) 22 (.slice none 0 0) hS ?_
     simp only [pA, pB, pC, pD]
     refine tN 2 (some 5) (.assign (.const (.int .i64 0))) 3 (.int .i64 0) hS ?_
     simp only [pA, pB, pC, pD]
     refine tN 3 (some 6) (.assign (.tmp 39)) 106 (ev (ad 1)) hS ?_
     simp only [pA, pB, pC, pD]
     refine wpAnyH_done (by kernel_rfl) ?_ _
     have HS2 := Ho hS.2
     clear hS
     go_wp2
     go_ret3
     rw [HE.o]
     exact ⟨rfl, HS2.o⟩
   have zkm : ¬ (most : Int) < (k : Int) := by omega
   have HE := Ho (show clR ad a c (cutL most ds) = .tuple #[.slice a k c, .int .i64 ((i + 1 : Nat) : Int), .nilIface] by unfold cutL; rw [hf]; dsimp only; rw [if_neg (by rw [hk]; exact hkm), ← hk]; rfl)
   clear hk
   go_wp2
   go_ret3
   rw [HE.o]
   exact ⟨by first | rfl | simp, HU9.o⟩
end Go.Proofs.YtehnnlhoajdcaaaGreatDoor
