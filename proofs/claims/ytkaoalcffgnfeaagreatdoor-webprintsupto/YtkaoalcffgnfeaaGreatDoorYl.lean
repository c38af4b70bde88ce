import Derived.Test.YtkaoalcffgnfeaaGreatDoorYk
import Derived.Lib.SliceRun
namespace Go.Proofs.YtkaoalcffgnfeaaGreatDoor
open Go.RowKit TextNum
set_option maxRecDepth 100000 in
set_option maxHeartbeats 1000000 in
theorem Clone_walk (v : Value) (ds : List UInt8) (w : World) (hd : Sb w v ds) (hl : ds.length ≤ 140737488355328) :
 Calls Tryz.prog 113 #[v] w fun e w' => ∃ v', e = .returned v' ∧ Ow w' w.heap.size v' ds ∧ Up w w' := by
 obtain ⟨i0, hi, hz0, hz1, hz2⟩ := info_parts Tryz.infoU8
 obtain ⟨a, c, rfl, h1, h2, h3, h4⟩ := hd
 cases a with
 | none =>
  obtain ⟨rfl, rfl⟩ := h3 rfl
  clear h4 h3 h2 h1
  have heq : ∀ w', (binOp .eql 23 (.slice none 0 0) (.slice none 0 0)).run Tryz.prog w' = .ok (.bool true) w' := fun w' => Go.Lib.run_eql_slice_nil w' 23 5 none 0 0 0 0 Tryz.underlying23
  go_enter Tryz.func113, Tryz.ntmps113
  go_wp2
  go_ret
  exact ⟨_, rfl, World.ownsRow_nil _ _ _ _, Up.refl _⟩
 | some ad =>
  have HS := Ho (h4 ad rfl).2
  have HO := Ho (own_empty w)
  have HU := Ho ((Up.refl w).alloc (.cells #[] 5))
  clear h4 h3
  have heq : ∀ w', (binOp .eql 23 (.slice (some ad) ds.length c) (.slice none 0 0)).run Tryz.prog w' = .ok (.bool false) w' := fun w' => Go.Lib.run_eql_slice_nil w' 23 5 (some ad) ds.length c 0 0 Tryz.underlying23
  go_enter Tryz.func113, Tryz.ntmps113
  go_wp2_with (with_reducible refine sA ?_)
  show wpList _ _ _ _ _ _
  refine wpList_append_frs rfl _ _ 23 rfl w.heap.size 5 i0 (.int .u8 0) 1 Tryz.underlying23 hi hz0 hz1 hz2 rfl _ 0 [] rfl HO.o ad ds.length c (cb ds) rfl (by rw [cb_length]; omega) (fun j u hj => HU.o.cell (HS.o j u hj)) (cb_one ds) (by simp only [maxLen]; omega) (by omega) (by have := HU.o.size; exact this) ?_
  intro v1 w1 o1 g1 f1
  have HO1 := Ho (show Ow w1 w.heap.size v1 ds by unfold Ow; simpa using o1)
  have HU1 := Ho (up_grownBy HU.o g1 (fun g hg => by have e : w.heap.size = g := Option.some.inj hg; omega))
  clear o1 g1 f1
  simp only [Act.put, pB, pC, pD]
  go_wp2
  go_ret
  exact ⟨_, rfl, HO1.o, HU1.o⟩
def fcu (way : Int) (len : Nat) (l : List UInt8) : Er (List UInt8 × Nat) :=
 if way = 3 then (match unk l with
  | .error k => .error (if k = 1 then 19 else k)
  | .ok p => .ok p)
 else if way = 1 then (if 1048576 < l.length then .error 7 else .ok (l, l.length))
 else if way = 2 then (if l.length < len then .error 2 else .ok (l.take len, len))
 else .ok ([], 0)
theorem unc_er : ∀ (f : Nat) (b l : List UInt8) (k : Nat), unc f b l = .error k → k = 1 ∨ k = 2 ∨ k = 8 ∨ k = 20
 | 0, _, _, k, h => by injection h with h; exact .inr (.inl h.symm)
 | f + 1, b, l, k, h => by
  rw [unc] at h
  cases hc : cutL 256 l with
  | error e =>
   rw [hc] at h
   dsimp only at h
   injection h with h
   rcases cutL_er hc with rfl | rfl
   · exact .inr (.inr (.inr h.symm))
   · exact .inr (.inl h.symm)
  | ok p =>
   obtain ⟨ln, q⟩ := p
   rw [hc] at h
   dsimp only at h
   cases hz : cSz ln with
   | error e => rw [hz] at h; injection h with h; have := cSz_er hz; omega
   | ok z =>
    rw [hz] at h
    dsimp only at h
    split at h
    · injection h with h; exact .inl h.symm
    · cases hd : cCk z (l.drop q) with
      | error e => rw [hd] at h; injection h with h; have := cCk_er hd; omega
      | ok r =>
       obtain ⟨d, r⟩ := r
       rw [hd] at h
       dsimp only at h
       split at h
       · cases h
       · exact unc_er f _ _ _ h
theorem unk_er {l : List UInt8} {k : Nat} (h : unk l = .error k) : k = 1 ∨ k = 2 ∨ k = 8 ∨ k = 20 := by
 unfold unk at h
 split at h
 · rename_i hh
   injection h with h
   subst h
   exact unc_er _ _ _ _ hh
 · cases h
set_option maxRecDepth 100000 in
set_option maxHeartbeats 1000000 in
theorem cut_walk (ad : Nat → Addr) (way : Int) (len : Nat) (hlen : len ≤ 1099511627776) {a : Option Addr} {n c : Nat} {ds : List UInt8} (hn40 : n ≤ 1099511627776) (w : World) (hS : Sb w (.slice a n c) ds) (h : GE w ad) : Calls Tryz.prog 72 #[.agg #[.int .i64 way, .int .i64 (len : Int)], .slice a n c] w fun e w' => UnR ad w w' e (fcu way len ds) ∧ Up w w' := by
 have HG := Ho h
 clear h
 obtain ⟨hn, hnc, hcm⟩ := hS.len
 unfold maxLen at hcm
 have HN := Ho hn
 have HSb := Ho hS
 clear hn hS
 have HA := Ho (at_new w 127 [.int .i64 way, .int .i64 (len : Int)])
 have HU := Ho ((Up.refl w).alloc (.cells #[.int .i64 way, .int .i64 (len : Int)] 127))
 go_enter Tryz.func72, Tryz.ntmps72
 go_wp2_with (with_reducible refine sF 127 ?_)
 show wpList _ _ _ _ _ _
 obtain ⟨w1, hw1⟩ := ny (w.alloc (.cells #[.int .i64 way, .int .i64 (len : Int)] 127))
 have HA1 := Ho (show At w1 w.heap.size 127 [.int .i64 way, .int .i64 (len : Int)] by rw [← hw1]; exact HA.o)
 have HU1 := Ho (show Up w w1 by rw [← hw1]; exact HU.o)
 rw [hw1]
 clear hw1 HA HU
 have c0 : w1.cell? ⟨w.heap.size, 0, none⟩ = some (.int .i64 way) := HA1.o.cell (i := 0) rfl
 have c1 : w1.cell? ⟨w.heap.size, 1, none⟩ = some (.int .i64 (len : Int)) := HA1.o.cell (i := 1) rfl
 by_cases h3 : way = 3
 · have z3' : (way == 3) = true := by rw [h3]; rfl
   have HUk := Ho (unchunk_walk ad hn40 w1 (HSb.o.up HU1.o) (HG.o.up HU1.o))
   have HF := Ho (show fcu way len ds = match unk ds with | .error k => .error (if k = 1 then 19 else k) | .ok p => .ok p by unfold fcu; rw [if_pos h3])
   clear h3 c1
   cases hu : unk ds with
   | error k =>
    rw [hu] at HUk HF
    dsimp only at HF
    unfold UnR at HUk
    dsimp only at HUk
    go_wp2_with fail
    refine HUk.o.mono ?_
    rintro e w2 ⟨rfl, h9⟩
    have HU2 := Ho (HU1.o.trans h9)
    clear h9 c0
    dsimp only
    have hg7 : w2.cell? ⟨6, 0, none⟩ = some (ev (ad 7)) := (HG.o.up HU2.o).gl 7 (by decide)
    rcases unk_er hu with rfl | rfl | rfl | rfl
    case' _ =>
     go_wp2_with fail
     refine (tooLongAs_yes ad 7 w2 (HG.o.up HU2.o)).mono ?_
    rotate_left
    case' _ =>
     go_wp2_with fail
     refine (tooLongAs_no ad 7 2 (by decide) (by decide) w2 (HG.o.up HU2.o)).mono ?_
    rotate_left
    case' _ =>
     go_wp2_with fail
     refine (tooLongAs_no ad 7 8 (by decide) (by decide) w2 (HG.o.up HU2.o)).mono ?_
    rotate_left
    case' _ =>
     go_wp2_with fail
     refine (tooLongAs_pl ad 7 8 (ad 1) (by decide) (by decide) w2 (HG.o.up HU2.o)).mono ?_
    all_goals
     rintro e w3 ⟨rfl, h9⟩
     have HU3 := Ho (HU2.o.trans h9)
     clear h9
     dsimp only
     go_wp2
     go_ret3
     refine ⟨?_, HU3.o⟩
     rw [HF.o]
     rfl
   | ok p =>
    obtain ⟨b, k⟩ := p
    rw [hu] at HUk HF
    dsimp only at HF
    unfold UnR at HUk
    dsimp only at HUk
    go_wp2_with fail
    refine HUk.o.mono ?_
    rintro e w2 ⟨⟨v, rfl, hv⟩, h9⟩
    have HU2 := Ho (HU1.o.trans h9)
    have HV := Ho hv.o
    clear h9 c0 hv
    dsimp only
    have hg7 : w2.cell? ⟨6, 0, none⟩ = some (ev (ad 7)) := (HG.o.up HU2.o).gl 7 (by decide)
    go_wp2_with fail
    refine (tooLongAs_nil ad 7 w2 (HG.o.up HU2.o)).mono ?_
    rintro e w3 ⟨rfl, h9⟩
    have HU3 := Ho (HU2.o.trans h9)
    have HV3 := Ho (ow_up HV.o h9)
    clear h9
    dsimp only
    go_wp2
    go_ret3
    refine ⟨?_, HU3.o⟩
    rw [HF.o]
    exact ⟨_, rfl, Ho (ow_base HV3.o HU1.o.size)⟩
 · have z3' : (way == 3) = false := by rw [beq_eq_false_iff_ne]; exact h3
   by_cases h1 : way = 1
   · have z1 : (way == 1) = true := by rw [h1]; rfl
     have HF := Ho (show fcu way len ds = if 1048576 < ds.length then .error 7 else .ok (ds, ds.length) by unfold fcu; rw [if_neg h3, if_pos h1])
     clear h3 h1 c1
     by_cases hbig : 1048576 < n
     · have hbz : (1048576 : Int) < (n : Int) := by omega
       have HE := Ho (show fcu way len ds = .error 7 by rw [HF.o, if_pos (by rw [← HN.o]; exact hbig)])
       go_wp2
       refine wp_region_held_drew (S := fun w2 => GE w2 ad ∧ Up w w2) (by kernel_rfl) ⟨HG.o.up HU1.o.drew, HU1.o.drew⟩ (fun hS => ?_)
       refine tK 0 (some 27) (.load 73 (.global 6)) 73 (ev (ad 7)) hS ?_ ?_
       · intro _ _ w5 hSw
         have hgl : w5.cell? ⟨6, 0, none⟩ = _ := hSw.1.gl 7 (by decide)
         clear hSw hS
         go_simp
       simp only [Act.put, pB, pC, pD]
       refine tN 1 (some 4) (.assign (.const (.slice none 0 0))) 23 (.slice none 0 0) hS ?_
       simp only [pA, pB, pC, pD]
       refine tN 2 (some 5) (.assign (.const (.int .i64 0))) 3 (.int .i64 0) hS ?_
       simp only [pA, pB, pC, pD]
       refine tN 3 (some 6) (.assign (.tmp 27)) 73 (ev (ad 7)) hS ?_
       simp only [pA, pB, pC, pD]
       refine wpAnyH_done (by kernel_rfl) ?_ _
       have HS2 := Ho hS.2
       clear hS
       go_wp2
       go_ret3
       refine ⟨?_, HS2.o⟩
       rw [HE.o]
       rfl
     · have hbz : ¬ (1048576 : Int) < (n : Int) := by omega
       have HE := Ho (show fcu way len ds = .ok (ds, n) by rw [HF.o, if_neg (by rw [← HN.o]; exact hbig), ← HN.o])
       have HCl := Ho (Clone_walk (.slice a n c) ds w1 (HSb.o.up HU1.o) (by rw [← HN.o]; omega))
       go_wp2_with fail
       refine HCl.o.mono ?_
       rintro e w2 ⟨v, rfl, hv, h9⟩
       have HU2 := Ho (HU1.o.trans h9)
       have HV := Ho hv
       clear h9 c0 hv
       dsimp only
       go_wp2
       go_ret3
       refine ⟨?_, HU2.o⟩
       rw [HE.o]
       exact ⟨_, rfl, Ho (ow_base HV.o HU1.o.size)⟩
   · have z1 : (way == 1) = false := by rw [beq_eq_false_iff_ne]; exact h1
     by_cases h2 : way = 2
     · have z2 : (way == 2) = true := by rw [h2]; rfl
       have HF := Ho (show fcu way len ds = if ds.length < len then .error 2 else .ok (ds.take len, len) by unfold fcu; rw [if_neg h3, if_neg h1, if_pos h2])
       clear h3 h1 h2
       by_cases hlt : n < len
       · have hltz : (n : Int) < (len : Int) := by omega
         have HE := Ho (show fcu way len ds = .error 2 by rw [HF.o, if_pos (by rw [← HN.o]; exact hlt)])
         go_wp2
         refine wp_region_held_drew (S := fun w2 => GE w2 ad ∧ Up w w2) (by kernel_rfl) ⟨HG.o.up HU1.o.drew, HU1.o.drew⟩ (fun hS => ?_)
         refine tK 0 (some 39) (.load 73 (.global 15)) 73 (ev (ad 2)) hS ?_ ?_
         · intro _ _ w5 hSw
           have hgl : w5.cell? ⟨15, 0, none⟩ = _ := hSw.1.gl 2 (by decide)
           clear hSw hS
           go_simp
         simp only [pA, pB, pC, pD]
         refine tN 1 (some 4) (.assign (.const (.slice none 0 0))) 23 (.slice none 0 0) hS ?_
         simp only [pA, pB, pC, pD]
         refine tN 2 (some 5) (.assign (.const (.int .i64 0))) 3 (.int .i64 0) hS ?_
         simp only [pA, pB, pC, pD]
         refine tN 3 (some 6) (.assign (.tmp 39)) 73 (ev (ad 2)) hS ?_
         simp only [pA, pB, pC, pD]
         refine wpAnyH_done (by kernel_rfl) ?_ _
         have HS2 := Ho hS.2
         clear hS
         go_wp2
         go_ret3
         refine ⟨?_, HS2.o⟩
         rw [HE.o]
         rfl
       · have hltz : ¬ (n : Int) < (len : Int) := by omega
         have HE := Ho (show fcu way len ds = .ok (ds.take len, len) by rw [HF.o, if_neg (by rw [← HN.o]; exact hlt)])
         have HCl := Ho (fun (w2 : World) (hu : Up w w2) => Clone_walk (.slice a len c) (ds.take len) w2 (((show Sb w (.slice a ds.length c) ds by rw [← HN.o]; exact HSb.o).take len (by rw [← HN.o]; omega)).up hu) (by rw [List.length_take, ← HN.o]; omega))
         go_wp2
         clear c0 c1
         refine wp_region_held_drew (S := fun w2 => At w2 w.heap.size 127 [.int .i64 way, .int .i64 (len : Int)] ∧ Up w w2) (by kernel_rfl) ⟨HA1.o.up (Up.refl _).drew, HU1.o.drew⟩ (fun hS => ?_)
         refine tN 0 (some 40) (.move (.tmp 1)) 23 (.slice a n c) hS ?_
         simp only [pA, pB, pC, pD]
         refine tN 1 (some 41) (.fieldAddr 127 (.tmp 2) 1) 0 (.pointer (some ⟨w.heap.size, 1, none⟩)) hS ?_
         simp only [pA, pB, pC, pD]
         refine tK 2 (some 42) (.load 3 (.tmp 41)) 3 (.int .i64 (len : Int)) hS ?_ ?_
         · intro _ _ w5 hSw
           have hl1 : w5.cell? ⟨w.heap.size, 1, none⟩ = some (.int .i64 (len : Int)) := hSw.1.cell (i := 1) rfl
           clear hSw hS
           go_simp
         simp only [pA, pB, pC, pD]
         refine tK 3 (some 43) (.slice 23 (.tmp 40) none (some (.tmp 42)) none) 23 (.slice a len c) hS ?_ ?_
         · intro _ _ w5 hSw
           clear hSw hS
           exact exec_subhi (by omega) rfl rfl rfl
         simp only [pA, pB, pC, pD]
         refine tN 5 (some 45) (.fieldAddr 127 (.tmp 2) 1) 0 (.pointer (some ⟨w.heap.size, 1, none⟩)) hS ?_
         simp only [pA, pB, pC, pD]
         refine tK 6 (some 46) (.load 3 (.tmp 45)) 3 (.int .i64 (len : Int)) hS ?_ ?_
         · intro _ _ w5 hSw
           have hl1 : w5.cell? ⟨w.heap.size, 1, none⟩ = some (.int .i64 (len : Int)) := hSw.1.cell (i := 1) rfl
           clear hSw hS
           go_simp
         simp only [pA, pB, pC, pD]
         refine rD 4 (some 44) (.call ⟨.value (.func 113), #[.tmp 43], #[23]⟩) 23 fun _ _ K hK => ?_
         rw [if_pos (by kernel_rfl)]
         go_simp
         refine (HCl.o _ hS.2).mono ?_
         rintro e w5 ⟨v5, rfl, o5, u5⟩
         have HO5 := Ho o5
         have HU5 := Ho (hS.2.trans u5)
         have HA5 := Ho (hS.1.up u5)
         clear o5 u5
         dsimp only
         refine hK.out _ _ ⟨HA5.o, HU5.o⟩ (fun hS => ?_)
         clear hK K
         refine tN 7 (some 4) (.assign (.tmp 44)) 23 v5 hS ?_
         simp only [Act.put, pB, pC, pD]
         refine tN 8 (some 5) (.assign (.tmp 46)) 3 (.int .i64 (len : Int)) hS ?_
         simp only [pA, pB, pC, pD]
         refine tN 9 (some 6) (.assign (.const .nilIface)) 73 .nilIface hS ?_
         simp only [pA, pB, pC, pD]
         clear hS
         refine wpAnyH_done (by kernel_rfl) ?_ _
         go_wp2
         go_ret3
         refine ⟨?_, HU5.o⟩
         rw [HE.o]
         exact ⟨_, rfl, Ho (ow_base HO5.o (by first | exact HU1.o.size | exact (HU1.o.drew).size))⟩
     · have z2 : (way == 2) = false := by rw [beq_eq_false_iff_ne]; exact h2
       have HE := Ho (show fcu way len ds = .ok ([], 0) by unfold fcu; rw [if_neg h3, if_neg h1, if_neg h2])
       clear h3 h1 h2 c1
       go_wp2
       go_ret3
       refine ⟨?_, HU1.o⟩
       rw [HE.o]
       exact ⟨_, rfl, Ho (World.ownsRow_nil _ _ _ _)⟩
end Go.Proofs.YtkaoalcffgnfeaaGreatDoor
