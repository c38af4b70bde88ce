import Derived.Test.YtkaoalcffgnfeaaGreatDoorYh
namespace Go.Proofs.YtkaoalcffgnfeaaGreatDoor
open Go.RowKit TextNum
def tpr (l : List UInt8) : List UInt8 := if l.head? = some 13 then l.drop 1 else l
set_option maxRecDepth 100000 in
theorem bHasPrefix_walk {a : Option Addr} {n c : Nat} {ds : List UInt8} (k : UInt8) (x : Nat) (w : World) (h : Sb w (.slice a n c) ds) (hx : Sb w (.slice (some ⟨x, 0, none⟩) 1 1) [k]) : Calls Tryz.prog 155 #[.slice a n c, .slice (some ⟨x, 0, none⟩) 1 1] w fun e w' => e = .returned (.bool (decide (ds.head? = some k))) ∧ w' = w := by
 obtain ⟨hn, hnc, hcm⟩ := h.len
 have HN := Ho hn
 clear hn
 unfold maxLen at hcm
 by_cases h1 : 1 ≤ n
 · have z1 : (1 : Int) ≤ (n : Int) := by omega
   have z2 : (1 : Int) ≤ (c : Int) := by omega
   have h' : Sb w (.slice a ds.length c) ds := by rw [← HN.o]; exact h
   obtain ⟨y, ys, rfl⟩ : ∃ y ys, ds = y :: ys := by
    cases ds with
    | nil => rw [HN.o] at h1; simp at h1
    | cons y ys => exact ⟨y, ys, rfl⟩
   have hs := h'.take 1 (by simp)
   rw [show (y :: ys).take 1 = [y] by simp] at hs
   have HE := Ho (bEqual_walk w hs hx)
   have HA := Ho (show decide ((y :: ys).head? = some k) = ([y] == [k]) by
    rw [List.head?_cons, Bool.eq_iff_iff]
    simp)
   rw [HA.o]
   generalize ([y] == [k]) = r at *
   clear HA hs h hx h'
   go_enter Tryz.func155, Tryz.ntmps155
   go_wp2_with fail
   refine HE.o.mono ?_
   rintro e w9 ⟨rfl, h9⟩
   obtain rfl := h9.symm
   clear h9
   dsimp only
   go_wp2
   go_ret
   exact ⟨rfl, rfl⟩
 · have z1 : ¬ (1 : Int) ≤ (n : Int) := by omega
   have hd : ds = [] := List.eq_nil_of_length_eq_zero (by rw [← HN.o]; omega)
   subst hd
   clear h hx
   go_enter Tryz.func155, Tryz.ntmps155
   go_wp2
   go_ret
   exact ⟨rfl, rfl⟩
set_option maxRecDepth 100000 in
theorem bTrimPrefix_walk {a : Option Addr} {n c : Nat} {ds : List UInt8} (x : Nat) (w : World) (h : Sb w (.slice a n c) ds) (hx : Sb w (.slice (some ⟨x, 0, none⟩) 1 1) [13]) : Calls Tryz.prog 128 #[.slice a n c, .slice (some ⟨x, 0, none⟩) 1 1] w fun e w' => (∃ a' c', e = .returned (.slice a' (tpr ds).length c') ∧ ∀ w0, Sb w0 (.slice a n c) ds → Sb w0 (.slice a' (tpr ds).length c') (tpr ds)) ∧ w' = w := by
 obtain ⟨hn, hnc, hcm⟩ := h.len
 have HN := Ho hn
 have HH := Ho (bHasPrefix_walk 13 x w h hx)
 unfold maxLen at hcm
 by_cases hl : ds.head? = some 13
 · have h1 : 1 ≤ n := by
    rw [HN.o]
    cases ds with
    | nil => cases hl
    | cons d r => simp
   have ht : tpr ds = ds.drop 1 := by unfold tpr; rw [if_pos hl]
   have hs : ∀ w0, Sb w0 (.slice a n c) ds → Sb w0 (.slice (sv a c 1) (tpr ds).length (c - 1)) (tpr ds) := fun w0 h0 => by
    have hs := h0.sub 1 n h1 (by rw [← HN.o]; exact Nat.le_refl _)
    rw [show (ds.take n).drop 1 = tpr ds by rw [HN.o, List.take_length, ht], show n - 1 = (tpr ds).length by rw [ht, List.length_drop, ← HN.o]] at hs
    exact hs
   have HT := Ho (show n - 1 = (tpr ds).length by rw [ht, List.length_drop, ← HN.o])
   have HSs := Ho hs
   rw [decide_eq_true hl] at HH
   clear hl h hx hs ht hn
   go_enter Tryz.func128, Tryz.ntmps128
   go_wp2_with fail
   refine HH.o.mono ?_
   rintro e w9 ⟨rfl, h9⟩
   obtain rfl := h9.symm
   clear h9
   dsimp only
   go_wp2_with (with_reducible show wpList _ _ _ (⟨_, .slice 23 _ _ _ _, _, _, _, _⟩ :: _) _ _; refine Shut.out ?_)
   show wpList _ _ _ _ _ _
   refine wpList_val7 (.slice (sv a c 1) (n - 1) (c - 1)) rfl (exec_sublo (lo := 1) h1 rfl rfl rfl) ?_
   simp only [Act.put, pB, pC, pD]
   go_wp2
   go_ret
   refine ⟨⟨sv a c 1, c - 1, ?_, HSs.o⟩, rfl⟩
   rw [← HT.o]
   rfl
 · have ht : tpr ds = ds := by unfold tpr; rw [if_neg hl]
   rw [decide_eq_false hl] at HH
   have HSs := Ho (show ∀ w0, Sb w0 (.slice a n c) ds → Sb w0 (.slice a (tpr ds).length c) (tpr ds) from fun w0 h0 => by rw [ht, ← HN.o]; exact h0)
   have HT := Ho (show n = (tpr ds).length by rw [ht, ← HN.o])
   clear hl h hx ht hn
   go_enter Tryz.func128, Tryz.ntmps128
   go_wp2_with fail
   refine HH.o.mono ?_
   rintro e w9 ⟨rfl, h9⟩
   obtain rfl := h9.symm
   clear h9
   dsimp only
   go_wp2
   go_ret
   refine ⟨⟨a, c, ?_, HSs.o⟩, rfl⟩
   rw [← HT.o]
   rfl
def cCk (size : Nat) (l : List UInt8) : Er (List UInt8 × List UInt8) := if l.length < size then .error 2 else
 match tpr (l.drop size) with
 | [] => .error 2
 | x :: r => if x = 10 then .ok (l.take size, r) else .error 8
def CcR (ad : Nat → Addr) (F : Value → List UInt8 → Prop) (a : Option Addr) (c : Nat) (e : Ending) : Er (List UInt8 × List UInt8) → Prop
 | .error k => e = .returned (.tuple #[.slice none 0 0, .slice none 0 0, ev (ad k)])
 | .ok (d, r) => ∃ a' c', e = .returned (.tuple #[.slice a d.length c, .slice a' r.length c', .nilIface]) ∧ Hd (F (.slice a' r.length c') r)
theorem CcR_er {ad : Nat → Addr} {F : Value → List UInt8 → Prop} {a : Option Addr} {c k : Nat} {e : Ending} {x : Er (List UInt8 × List UInt8)} (h : x = .error k) : CcR ad F a c e x = (e = .returned (.tuple #[.slice none 0 0, .slice none 0 0, ev (ad k)])) := by subst h; rfl
theorem CcR_ok {ad : Nat → Addr} {F : Value → List UInt8 → Prop} {a : Option Addr} {c n : Nat} {e : Ending} {x : Er (List UInt8 × List UInt8)} {d r : List UInt8} (h : x = .ok (d, r)) (hn : d.length = n) : CcR ad F a c e x = (∃ a' c', e = .returned (.tuple #[.slice a n c, .slice a' r.length c', .nilIface]) ∧ Hd (F (.slice a' r.length c') r)) := by subst h hn; rfl
set_option maxRecDepth 100000 in
set_option maxHeartbeats 1000000 in
theorem cutChunk_walk (ad : Nat → Addr) (size : Nat) {a : Option Addr} {n c : Nat} {ds : List UInt8} (w : World) (hS : Sb w (.slice a n c) ds) (h : GE w ad) : Calls Tryz.prog 101 #[.slice a n c, .int .i64 (size : Int)] w fun e w' => CcR ad (fun v r => ∀ w0, Sb w0 (.slice a n c) ds → Sb w0 v r) a c e (cCk size ds) ∧ Up w w' := by
 have HG := Ho h
 clear h
 obtain ⟨hn, hnc, hcm⟩ := hS.len
 unfold maxLen at hcm
 have HN := Ho hn
 have HSb := Ho hS
 clear hn hS
 have kc := fun (w : World) (C : Array Value) (n c : Nat) => Go.Lib.run_convert_bytes_const (P := Tryz.prog) w 23 5 C n c Tryz.underlying23 Tryz.underlying5
 go_enter Tryz.func101, Tryz.ntmps101
 by_cases hlt : n < size
 · have hltz : (n : Int) < (size : Int) := by omega
   have HE := Ho (fun e => CcR_er (ad := ad) (F := fun v r => ∀ w0, Sb w0 (.slice a n c) ds → Sb w0 v r) (a := a) (c := c) (e := e) (show cCk size ds = .error 2 by unfold cCk; rw [if_pos (by rw [← HN.o]; exact hlt)]))
   go_wp2
   refine wp_region_held_drew (S := fun w2 => GE w2 ad ∧ Up w w2) (by kernel_rfl) ⟨HG.o.up (Up.refl w).drew, (Up.refl w).drew⟩ (fun hS => ?_)
   refine tK 0 (some 11) (.load 73 (.global 15)) 73 (ev (ad 2)) hS ?_ ?_
   · intro _ _ w5 hSw
     have hgl : w5.cell? ⟨15, 0, none⟩ = _ := hSw.1.gl 2 (by decide)
     clear hSw hS
     go_simp
   simp only [pA, pB, pC, pD]
   refine tN 1 (some 4) (.assign (.const (.slice none 0 0))) 23 (.slice none 0 0) hS ?_
   simp only [pA, pB, pC, pD]
   refine tN 2 (some 5) (.assign (.const (.slice none 0 0))) 23 (.slice none 0 0) hS ?_
   simp only [pA, pB, pC, pD]
   refine tN 3 (some 6) (.assign (.tmp 11)) 73 (ev (ad 2)) hS ?_
   simp only [pA, pB, pC, pD]
   refine wpAnyH_done (by kernel_rfl) ?_ _
   have HS2 := Ho hS.2
   clear hS
   go_wp2
   go_ret3
   rw [HE.o]
   exact ⟨rfl, HS2.o⟩
 · have hltz : ¬ (n : Int) < (size : Int) := by omega
   have hsn : size ≤ n := by omega
   have hSk := HSb.o.sub size n hsn (by rw [← HN.o]; exact Nat.le_refl _)
   rw [show (ds.take n).drop size = ds.drop size by rw [HN.o, List.take_length]] at hSk
   have HTP := Ho (fun (w2 : World) (hu : Up w w2) (x : Nat) (hx : Sb w2 (.slice (some ⟨x, 0, none⟩) 1 1) [13]) => bTrimPrefix_walk x w2 (hSk.up hu) hx)
   have HLn := Ho (show ¬ ds.length < size by rw [← HN.o]; exact hlt)
   clear hSk
   go_wp2_with (with_reducible show wpList _ _ _ (⟨_, .slice 23 _ _ _ _, _, _, _, _⟩ :: _) _ _; refine Shut.out ?_)
   show wpList _ _ _ _ _ _
   refine wpList_val7 (.slice (sv a c size) (n - size) (c - size)) rfl (exec_sublo hsn rfl rfl rfl) ?_
   simp only [Act.put, pB, pC, pD]
   go_wp2_with fail
   refine (HTP.o _ ((Up.refl w).alloc _) w.heap.size (sb_mk w 13)).mono ?_
   rintro e w9 ⟨⟨a7, c7, rfl, hs7⟩, h9⟩
   have HU9 := Ho (show Up w w9 by rw [h9]; exact (Up.refl w).alloc _)
   have HF7 := Ho (show ∀ w0, Sb w0 (.slice a n c) ds → Sb w0 (.slice a7 (tpr (ds.drop size)).length c7) (tpr (ds.drop size)) from fun w0 h0 => hs7 w0 (by
    have hSk := h0.sub size n hsn (by rw [← HN.o]; exact Nat.le_refl _)
    rw [show (ds.take n).drop size = ds.drop size by rw [HN.o, List.take_length]] at hSk
    exact hSk))
   have HS7 := Ho (HF7.o w9 (HSb.o.up HU9.o))
   clear h9 hs7 HTP
   dsimp only
   obtain ⟨_, hnc7, hcm7⟩ := HS7.o.len
   unfold maxLen at hcm7
   cases ht : tpr (ds.drop size) with
   | nil =>
    have HE := Ho (fun e => CcR_er (ad := ad) (F := fun v r => ∀ w0, Sb w0 (.slice a n c) ds → Sb w0 v r) (a := a) (c := c) (e := e) (show cCk size ds = .error 2 by unfold cCk; rw [if_neg HLn.o, ht]))
    clear hnc7
    go_wp2
    refine wp_region_held_drew (S := fun w2 => GE w2 ad ∧ Up w w2) (by kernel_rfl) ⟨HG.o.up HU9.o.drew, HU9.o.drew⟩ (fun hS => ?_)
    refine tK 0 (some 22) (.load 73 (.global 15)) 73 (ev (ad 2)) hS ?_ ?_
    · intro _ _ w5 hSw
      have hgl : w5.cell? ⟨15, 0, none⟩ = _ := hSw.1.gl 2 (by decide)
      clear hSw hS
      go_simp
    simp only [pA, pB, pC, pD]
    refine tN 1 (some 4) (.assign (.const (.slice none 0 0))) 23 (.slice none 0 0) hS ?_
    simp only [pA, pB, pC, pD]
    refine tN 2 (some 5) (.assign (.const (.slice none 0 0))) 23 (.slice none 0 0) hS ?_
    simp only [pA, pB, pC, pD]
    refine tN 3 (some 6) (.assign (.tmp 22)) 73 (ev (ad 2)) hS ?_
    simp only [pA, pB, pC, pD]
    refine wpAnyH_done (by kernel_rfl) ?_ _
    have HS2 := Ho hS.2
    clear hS
    go_wp2
    go_ret3
    rw [HE.o]
    exact ⟨rfl, HS2.o⟩
   | cons x r =>
    rw [ht] at HS7 hnc7 HF7
    have hl7 : (x :: r).length = r.length + 1 := List.length_cons
    rw [hl7] at HS7 hnc7 HF7 ⊢
    clear hl7
    obtain ⟨b7, o7, ha7, hc7⟩ := HS7.o.get (j := 0) (by simp)
    subst ha7
    have hcell : w9.cell? ⟨b7, o7, none⟩ = some (vb x) := hc7
    clear hc7
    have hr0 : ((r.length : Int) + 1 == 0) = false := by rw [beq_eq_false_iff_ne]; omega
    have hr1 : (0 : Int) < (r.length : Int) + 1 := by omega
    have h10 : ((x.toNat : Int) == 10) = (x == 10) := u8_eq (a := x) (b := 10)
    by_cases hx : x = 10
    · have HE := Ho (fun e => CcR_ok (ad := ad) (F := fun v r => ∀ w0, Sb w0 (.slice a n c) ds → Sb w0 v r) (a := a) (c := c) (e := e) (n := size) (show cCk size ds = .ok (ds.take size, r) by unfold cCk; rw [if_neg HLn.o, ht]; dsimp only; rw [if_pos hx]) (by rw [List.length_take, ← HN.o]; omega))
      have b10 : ((x.toNat : Int) != 10) = false := by rw [bne, h10, hx]; rfl
      clear h10
      have HSr9 := Ho (show ∀ w0, Sb w0 (.slice a n c) ds → Sb w0 (.slice (sv (some ⟨b7, o7, none⟩) c7 1) r.length (c7 - 1)) r from fun w0 h0 => by
       have h1 := (HF7.o w0 h0).sub 1 (r.length + 1) (by omega) (by simp)
       simpa using h1)
      go_wp2
      refine wp_region_held_drew (S := fun w2 => Up w9 w2) (by kernel_rfl) (Up.refl w9).drew (fun hS => ?_)
      refine tN 0 (some 29) (.move (.tmp 0)) 23 (.slice a n c) hS ?_
      simp only [pA, pB, pC, pD]
      refine tN 1 (some 30) (.move (.tmp 1)) 3 (.int .i64 (size : Int)) hS ?_
      simp only [pA, pB, pC, pD]
      refine tK 2 (some 31) (.slice 23 (.tmp 29) none (some (.tmp 30)) none) 23 (.slice a size c) hS ?_ ?_
      · intro _ _ w5 hSw
        clear hSw hS
        exact exec_subhi (by omega) rfl rfl rfl
      simp only [pA, pB, pC, pD]
      refine tN 3 (some 32) (.move (.tmp 5)) 23 (.slice (some ⟨b7, o7, none⟩) (r.length + 1) c7) hS ?_
      simp only [pA, pB, pC, pD]
      refine tK 4 (some 33) (.slice 23 (.tmp 32) (some (.const (.int .i64 1))) none none) 23 (.slice (sv (some ⟨b7, o7, none⟩) c7 1) r.length (c7 - 1)) hS ?_ ?_
      · intro _ _ w5 hSw
        clear hSw hS
        exact (exec_sublo (lo := 1) (by omega) rfl rfl rfl).trans (by rw [Nat.add_sub_cancel])
      simp only [pA, pB, pC, pD]
      refine tN 5 (some 4) (.assign (.tmp 31)) 23 (.slice a size c) hS ?_
      simp only [pA, pB, pC, pD]
      refine tN 6 (some 5) (.assign (.tmp 33)) 23 (.slice (sv (some ⟨b7, o7, none⟩) c7 1) r.length (c7 - 1)) hS ?_
      simp only [pA, pB, pC, pD]
      refine tN 7 (some 6) (.assign (.const .nilIface)) 73 .nilIface hS ?_
      simp only [pA, pB, pC, pD]
      refine wpAnyH_done (by kernel_rfl) ?_ _
      have HS2 := Ho hS
      clear hS
      go_wp2
      go_ret3
      refine ⟨?_, HU9.o.trans HS2.o⟩
      rw [HE.o]
      exact ⟨_, _, rfl, HSr9⟩
    · have HE := Ho (fun e => CcR_er (ad := ad) (F := fun v r => ∀ w0, Sb w0 (.slice a n c) ds → Sb w0 v r) (a := a) (c := c) (e := e) (show cCk size ds = .error 8 by unfold cCk; rw [if_neg HLn.o, ht]; dsimp only; rw [if_neg hx]))
      have b10 : ((x.toNat : Int) != 10) = true := by rw [bne, h10]; simpa using hx
      clear h10
      go_wp2
      refine wp_region_held_drew (S := fun w2 => GE w2 ad ∧ Up w w2) (by kernel_rfl) ⟨HG.o.up HU9.o.drew, HU9.o.drew⟩ (fun hS => ?_)
      refine tK 0 (some 28) (.load 73 (.global 12)) 73 (ev (ad 8)) hS ?_ ?_
      · intro _ _ w5 hSw
        have hgl : w5.cell? ⟨12, 0, none⟩ = _ := hSw.1.gl 8 (by decide)
        clear hSw hS
        go_simp
      simp only [pA, pB, pC, pD]
      refine tN 1 (some 4) (.assign (.const (.slice none 0 0))) 23 (.slice none 0 0) hS ?_
      simp only [pA, pB, pC, pD]
      refine tN 2 (some 5) (.assign (.const (.slice none 0 0))) 23 (.slice none 0 0) hS ?_
      simp only [pA, pB, pC, pD]
      refine tN 3 (some 6) (.assign (.tmp 28)) 73 (ev (ad 8)) hS ?_
      simp only [pA, pB, pC, pD]
      refine wpAnyH_done (by kernel_rfl) ?_ _
      have HS2 := Ho hS.2
      clear hS
      go_wp2
      go_ret3
      rw [HE.o]
      exact ⟨rfl, HS2.o⟩
end Go.Proofs.YtkaoalcffgnfeaaGreatDoor
