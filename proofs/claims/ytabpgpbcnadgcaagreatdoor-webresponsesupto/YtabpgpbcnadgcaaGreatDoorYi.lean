import Derived.Test.YtabpgpbcnadgcaaGreatDoorYh
namespace Go.Proofs.YtabpgpbcnadgcaaGreatDoor
open Go.RowKit TextNum
/-- without the carriage return at the front -/
def tpr (l : List UInt8) : List UInt8 := if l.head? = some 13 then l.drop 1 else l
set_option maxRecDepth 100000 in
theorem bHasPrefix_walk {a : Option Addr} {n c : Nat} {ds : List UInt8} (k : UInt8) (x : Nat) (w : World) (h : Sb w (.slice a n c) ds) (hx : Sb w (.slice (some ⟨x, 0, none⟩) 1 1) [k]) : Calls Tryz.prog 187 #[.slice a n c, .slice (some ⟨x, 0, none⟩) 1 1] w fun e w' => e = .returned (.bool (decide (ds.head? = some k))) ∧ w' = w := by
  obtain ⟨hn, hnc, hcm⟩ := h.len
  have HN := Hid.of hn
  clear hn
  unfold maxLen at hcm
  by_cases h1 : 1 ≤ n
  · have z1 : (1 : Int) ≤ (n : Int) := by omega
    have z2 : (1 : Int) ≤ (c : Int) := by omega
    have h' : Sb w (.slice a ds.length c) ds := by rw [← HN.out]; exact h
    obtain ⟨y, ys, rfl⟩ : ∃ y ys, ds = y :: ys := by
      cases ds with
      | nil => rw [HN.out] at h1; simp at h1
      | cons y ys => exact ⟨y, ys, rfl⟩
    have hs := h'.take 1 (by simp)
    rw [show (y :: ys).take 1 = [y] by simp] at hs
    have HE := Hid.of (bEqual_walk w hs hx)
    have HA := Hid.of (show decide ((y :: ys).head? = some k) = ([y] == [k]) by
      rw [List.head?_cons, Bool.eq_iff_iff]
      simp)
    rw [HA.out]
    generalize ([y] == [k]) = r at *
    clear HA hs h hx h'
    go_enter Tryz.func187, Tryz.ntmps187
    go_wp2_with fail
    refine HE.out.mono ?_
    rintro e w9 ⟨rfl, h9⟩
    obtain rfl := h9.symm
    clear h9
    dsimp only
    go_wp2
    go_ret
    exact ⟨rfl, rfl⟩
  · have z1 : ¬ (1 : Int) ≤ (n : Int) := by omega
    have hd : ds = [] := List.eq_nil_of_length_eq_zero (by rw [← HN.out]; omega)
    subst hd
    clear h hx
    go_enter Tryz.func187, Tryz.ntmps187
    go_wp2
    go_ret
    exact ⟨rfl, rfl⟩
set_option maxRecDepth 100000 in
theorem bTrimPrefix_walk {a : Option Addr} {n c : Nat} {ds : List UInt8} (x : Nat) (w : World) (h : Sb w (.slice a n c) ds) (hx : Sb w (.slice (some ⟨x, 0, none⟩) 1 1) [13]) : Calls Tryz.prog 160 #[.slice a n c, .slice (some ⟨x, 0, none⟩) 1 1] w fun e w' => (∃ a' c', e = .returned (.slice a' (tpr ds).length c') ∧ ∀ w0, Sb w0 (.slice a n c) ds → Sb w0 (.slice a' (tpr ds).length c') (tpr ds)) ∧ w' = w := by
  obtain ⟨hn, hnc, hcm⟩ := h.len
  have HN := Hid.of hn
  have HH := Hid.of (bHasPrefix_walk 13 x w h hx)
  unfold maxLen at hcm
  by_cases hl : ds.head? = some 13
  · have h1 : 1 ≤ n := by
      rw [HN.out]
      cases ds with
      | nil => cases hl
      | cons d r => simp
    have ht : tpr ds = ds.drop 1 := by unfold tpr; rw [if_pos hl]
    have hs : ∀ w0, Sb w0 (.slice a n c) ds → Sb w0 (.slice (sv a c 1) (tpr ds).length (c - 1)) (tpr ds) := fun w0 h0 => by
      have hs := h0.sub 1 n h1 (by rw [← HN.out]; exact Nat.le_refl _)
      rw [show (ds.take n).drop 1 = tpr ds by rw [HN.out, List.take_length, ht], show n - 1 = (tpr ds).length by rw [ht, List.length_drop, ← HN.out]] at hs
      exact hs
    have HT := Hid.of (show n - 1 = (tpr ds).length by rw [ht, List.length_drop, ← HN.out])
    have HSs := Hid.of hs
    rw [decide_eq_true hl] at HH
    clear hl h hx hs ht hn
    go_enter Tryz.func160, Tryz.ntmps160
    go_wp2_with fail
    refine HH.out.mono ?_
    rintro e w9 ⟨rfl, h9⟩
    obtain rfl := h9.symm
    clear h9
    dsimp only
    go_wp2_with (with_reducible show wpList _ _ _ ({ dst := _, op := Op.slice 22 _ _ _ _, type := _, pos := _, after := _, guard := _ } :: _) _ _; refine Shut.out ?_)
    show wpList _ _ _ _ _ _
    refine wpList_val7 (.slice (sv a c 1) (n - 1) (c - 1)) rfl (exec_sublo (lo := 1) h1 rfl rfl rfl) ?_
    simp only [Act.put, List.setIfInBounds_toArray, List.set_cons_zero, List.set_cons_succ]
    go_wp2
    go_ret
    refine ⟨⟨sv a c 1, c - 1, ?_, HSs.out⟩, rfl⟩
    rw [← HT.out]
    rfl
  · have ht : tpr ds = ds := by unfold tpr; rw [if_neg hl]
    rw [decide_eq_false hl] at HH
    have HSs := Hid.of (show ∀ w0, Sb w0 (.slice a n c) ds → Sb w0 (.slice a (tpr ds).length c) (tpr ds) from fun w0 h0 => by rw [ht, ← HN.out]; exact h0)
    have HT := Hid.of (show n = (tpr ds).length by rw [ht, ← HN.out])
    clear hl h hx ht hn
    go_enter Tryz.func160, Tryz.ntmps160
    go_wp2_with fail
    refine HH.out.mono ?_
    rintro e w9 ⟨rfl, h9⟩
    obtain rfl := h9.symm
    clear h9
    dsimp only
    go_wp2
    go_ret
    refine ⟨⟨a, c, ?_, HSs.out⟩, rfl⟩
    rw [← HT.out]
    rfl
/-- so many bytes, and what stands behind the line's end behind them -/
def cCk (size : Nat) (l : List UInt8) : Er (List UInt8 × List UInt8) := if l.length < size then .error 2 else
  match tpr (l.drop size) with
  | [] => .error 2
  | x :: r => if x = 10 then .ok (l.take size, r) else .error 8
theorem tpr_app {l t : List UInt8} (h : l ≠ []) : tpr (l ++ t) = tpr l ++ t := by
  cases l with
  | nil => exact absurd rfl h
  | cons x r =>
    unfold tpr
    by_cases hx : x = 13
    · subst hx; simp
    · simp [hx]
theorem cCk_more {s : Nat} {l t : List UInt8} (h : cCk s l ≠ .error 2) : cCk s (l ++ t) = match cCk s l with | .ok (d, r) => .ok (d, r ++ t) | .error e => .error e := by
  unfold cCk at *
  by_cases hl : l.length < s
  · rw [if_pos hl] at h; exact absurd rfl h
  · rw [if_neg hl] at h ⊢
    have hl2 : ¬ (l ++ t).length < s := by rw [List.length_append]; omega
    rw [if_neg hl2, List.drop_append_of_le_length (by omega), List.take_append_of_le_length (by omega)]
    by_cases he : l.drop s = []
    · rw [he] at h; exact absurd rfl h
    · rw [tpr_app he]
      cases hx : tpr (l.drop s) with
      | nil => rw [hx] at h; exact absurd rfl h
      | cons x r =>
        dsimp only [List.cons_append]
        by_cases h10 : x = 10
        · rw [if_pos h10, if_pos h10]
        · rw [if_neg h10, if_neg h10]
def CcR (ad : Nat → Addr) (F : Value → List UInt8 → Prop) (a : Option Addr) (c : Nat) (e : Ending) : Er (List UInt8 × List UInt8) → Prop
  | .error k => e = .returned (.tuple #[.slice none 0 0, .slice none 0 0, ev (ad k)])
  | .ok (d, r) => ∃ a' c', e = .returned (.tuple #[.slice a d.length c, .slice a' r.length c', .nilIface]) ∧ Hid (F (.slice a' r.length c') r)
theorem CcR_er {ad : Nat → Addr} {F : Value → List UInt8 → Prop} {a : Option Addr} {c k : Nat} {e : Ending} {x : Er (List UInt8 × List UInt8)} (h : x = .error k) : CcR ad F a c e x = (e = .returned (.tuple #[.slice none 0 0, .slice none 0 0, ev (ad k)])) := by subst h; rfl
theorem CcR_ok {ad : Nat → Addr} {F : Value → List UInt8 → Prop} {a : Option Addr} {c n : Nat} {e : Ending} {x : Er (List UInt8 × List UInt8)} {d r : List UInt8} (h : x = .ok (d, r)) (hn : d.length = n) : CcR ad F a c e x = (∃ a' c', e = .returned (.tuple #[.slice a n c, .slice a' r.length c', .nilIface]) ∧ Hid (F (.slice a' r.length c') r)) := by subst h hn; rfl
set_option maxRecDepth 100000 in
set_option maxHeartbeats 1000000 in
theorem cutChunk_walk (ad : Nat → Addr) (size : Nat) {a : Option Addr} {n c : Nat} {ds : List UInt8} (w : World) (hS : Sb w (.slice a n c) ds) (h : GE w ad) : Calls Tryz.prog 127 #[.slice a n c, .int .i64 (size : Int)] w fun e w' => CcR ad (fun v r => ∀ w0, Sb w0 (.slice a n c) ds → Sb w0 v r) a c e (cCk size ds) ∧ Up w w' := by
  have HG := Hid.of h
  clear h
  obtain ⟨hn, hnc, hcm⟩ := hS.len
  unfold maxLen at hcm
  have HN := Hid.of hn
  have HSb := Hid.of hS
  clear hn hS
  have kc := fun (w : World) (C : Array Value) (n c : Nat) => Go.Lib.run_convert_bytes_const (P := Tryz.prog) w 22 5 C n c Tryz.underlying22 Tryz.underlying5
  go_enter Tryz.func127, Tryz.ntmps127
  by_cases hlt : n < size
  · have hltz : (n : Int) < (size : Int) := by omega
    have HE := Hid.of (fun e => CcR_er (ad := ad) (F := fun v r => ∀ w0, Sb w0 (.slice a n c) ds → Sb w0 v r) (a := a) (c := c) (e := e) (show cCk size ds = .error 2 by unfold cCk; rw [if_pos (by rw [← HN.out]; exact hlt)]))
    go_wp2
    refine wp_region_held_drew (S := fun w2 => GE w2 ad ∧ Up w w2) (by kernel_rfl) ⟨HG.out.up (Up.refl w).drew, (Up.refl w).drew⟩ (fun hS => ?_)
    refine wpAnyH_take (i := 0) (oi := { dst := some 11, op := Go.Op.load 106 (Go.Operand.global 17), type := 106, pos := "body.go:86", after := #[{ on := 2, ground := Go.Ground.gcOnly Go.Departure.lateStores }], guard := none }) (v := ev (ad 2)) rfl (by kernel_rfl) (by kernel_rfl) (by kernel_rfl) (fun _ _ _ h => h) (Or.inl ⟨by kernel_rfl, ?_⟩) hS ?_
    · intro w5 hSw
      have hgl : w5.cell? ⟨17, 0, none⟩ = _ := hSw.1.gl 2 (by decide)
      clear hSw hS
      go_simp
    simp only [Act.put, List.setIfInBounds_toArray, List.set_cons_zero, List.set_cons_succ]
    refine wpAnyH_take (i := 1) (oi := { dst := some 4, op := Go.Op.assign (Go.Operand.const (Go.Value.slice none 0 0)), type := 22, pos := "body.go:86", after := #[{ on := 0, ground := Go.Ground.textOnly Go.Departure.lateStores }], guard := none }) (v := .slice none 0 0) rfl (by kernel_rfl) (by kernel_rfl) (by kernel_rfl) (fun _ _ _ h => h) (Or.inl ⟨by kernel_rfl, ?_⟩) hS ?_
    · intro w5 hSw
      clear hSw hS
      go_simp
    simp only [Act.put, List.setIfInBounds_toArray, List.set_cons_zero, List.set_cons_succ]
    refine wpAnyH_take (i := 2) (oi := { dst := some 5, op := Go.Op.assign (Go.Operand.const (Go.Value.slice none 0 0)), type := 22, pos := "body.go:86", after := #[{ on := 1, ground := Go.Ground.chain }, { on := 0, ground := Go.Ground.textOnly Go.Departure.lateStores }, { on := 1, ground := Go.Ground.phase }], guard := none }) (v := .slice none 0 0) rfl (by kernel_rfl) (by kernel_rfl) (by kernel_rfl) (fun _ _ _ h => h) (Or.inl ⟨by kernel_rfl, ?_⟩) hS ?_
    · intro w5 hSw
      clear hSw hS
      go_simp
    simp only [Act.put, List.setIfInBounds_toArray, List.set_cons_zero, List.set_cons_succ]
    refine wpAnyH_take (i := 3) (oi := { dst := some 6, op := Go.Op.assign (Go.Operand.tmp 11), type := 106, pos := "body.go:86", after := #[{ on := 0, ground := Go.Ground.data }, { on := 2, ground := Go.Ground.chain }, { on := 0, ground := Go.Ground.phase }, { on := 1, ground := Go.Ground.phase }, { on := 2, ground := Go.Ground.phase }], guard := none }) (v := ev (ad 2)) rfl (by kernel_rfl) (by kernel_rfl) (by kernel_rfl) (fun _ _ _ h => h) (Or.inl ⟨by kernel_rfl, ?_⟩) hS ?_
    · intro w5 hSw
      clear hSw hS
      go_simp
    simp only [Act.put, List.setIfInBounds_toArray, List.set_cons_zero, List.set_cons_succ]
    refine wpAnyH_done (by kernel_rfl) ?_ _
    have HS2 := Hid.of hS.2
    clear hS
    go_wp2
    go_ret3
    rw [HE.out]
    exact ⟨rfl, HS2.out⟩
  · have hltz : ¬ (n : Int) < (size : Int) := by omega
    have hsn : size ≤ n := by omega
    have hSk := HSb.out.sub size n hsn (by rw [← HN.out]; exact Nat.le_refl _)
    rw [show (ds.take n).drop size = ds.drop size by rw [HN.out, List.take_length]] at hSk
    have HTP := Hid.of (fun (w2 : World) (hu : Up w w2) (x : Nat) (hx : Sb w2 (.slice (some ⟨x, 0, none⟩) 1 1) [13]) => bTrimPrefix_walk x w2 (hSk.up hu) hx)
    have HLn := Hid.of (show ¬ ds.length < size by rw [← HN.out]; exact hlt)
    clear hSk
    go_wp2_with (with_reducible show wpList _ _ _ ({ dst := _, op := Op.slice 22 _ _ _ _, type := _, pos := _, after := _, guard := _ } :: _) _ _; refine Shut.out ?_)
    show wpList _ _ _ _ _ _
    refine wpList_val7 (.slice (sv a c size) (n - size) (c - size)) rfl (exec_sublo hsn rfl rfl rfl) ?_
    simp only [Act.put, List.setIfInBounds_toArray, List.set_cons_zero, List.set_cons_succ]
    go_wp2_with fail
    refine (HTP.out _ ((Up.refl w).alloc _) w.heap.size (sb_mk w 13)).mono ?_
    rintro e w9 ⟨⟨a7, c7, rfl, hs7⟩, h9⟩
    have HU9 := Hid.of (show Up w w9 by rw [h9]; exact (Up.refl w).alloc _)
    have HF7 := Hid.of (show ∀ w0, Sb w0 (.slice a n c) ds → Sb w0 (.slice a7 (tpr (ds.drop size)).length c7) (tpr (ds.drop size)) from fun w0 h0 => hs7 w0 (by
      have hSk := h0.sub size n hsn (by rw [← HN.out]; exact Nat.le_refl _)
      rw [show (ds.take n).drop size = ds.drop size by rw [HN.out, List.take_length]] at hSk
      exact hSk))
    have HS7 := Hid.of (HF7.out w9 (HSb.out.up HU9.out))
    clear h9 hs7 HTP
    dsimp only
    obtain ⟨_, hnc7, hcm7⟩ := HS7.out.len
    unfold maxLen at hcm7
    cases ht : tpr (ds.drop size) with
    | nil =>
      have HE := Hid.of (fun e => CcR_er (ad := ad) (F := fun v r => ∀ w0, Sb w0 (.slice a n c) ds → Sb w0 v r) (a := a) (c := c) (e := e) (show cCk size ds = .error 2 by unfold cCk; rw [if_neg HLn.out, ht]))
      clear hnc7
      go_wp2
      refine wp_region_held_drew (S := fun w2 => GE w2 ad ∧ Up w w2) (by kernel_rfl) ⟨HG.out.up HU9.out.drew, HU9.out.drew⟩ (fun hS => ?_)
      refine wpAnyH_take (i := 0) (oi := { dst := some 22, op := Go.Op.load 106 (Go.Operand.global 17), type := 106, pos := "body.go:91", after := #[{ on := 2, ground := Go.Ground.gcOnly Go.Departure.lateStores }], guard := none }) (v := ev (ad 2)) rfl (by kernel_rfl) (by kernel_rfl) (by kernel_rfl) (fun _ _ _ h => h) (Or.inl ⟨by kernel_rfl, ?_⟩) hS ?_
      · intro w5 hSw
        have hgl : w5.cell? ⟨17, 0, none⟩ = _ := hSw.1.gl 2 (by decide)
        clear hSw hS
        go_simp
      simp only [Act.put, List.setIfInBounds_toArray, List.set_cons_zero, List.set_cons_succ]
      refine wpAnyH_take (i := 1) (oi := { dst := some 4, op := Go.Op.assign (Go.Operand.const (Go.Value.slice none 0 0)), type := 22, pos := "body.go:91", after := #[{ on := 0, ground := Go.Ground.textOnly Go.Departure.lateStores }], guard := none }) (v := .slice none 0 0) rfl (by kernel_rfl) (by kernel_rfl) (by kernel_rfl) (fun _ _ _ h => h) (Or.inl ⟨by kernel_rfl, ?_⟩) hS ?_
      · intro w5 hSw
        clear hSw hS
        go_simp
      simp only [Act.put, List.setIfInBounds_toArray, List.set_cons_zero, List.set_cons_succ]
      refine wpAnyH_take (i := 2) (oi := { dst := some 5, op := Go.Op.assign (Go.Operand.const (Go.Value.slice none 0 0)), type := 22, pos := "body.go:91", after := #[{ on := 1, ground := Go.Ground.chain }, { on := 0, ground := Go.Ground.textOnly Go.Departure.lateStores }, { on := 1, ground := Go.Ground.phase }], guard := none }) (v := .slice none 0 0) rfl (by kernel_rfl) (by kernel_rfl) (by kernel_rfl) (fun _ _ _ h => h) (Or.inl ⟨by kernel_rfl, ?_⟩) hS ?_
      · intro w5 hSw
        clear hSw hS
        go_simp
      simp only [Act.put, List.setIfInBounds_toArray, List.set_cons_zero, List.set_cons_succ]
      refine wpAnyH_take (i := 3) (oi := { dst := some 6, op := Go.Op.assign (Go.Operand.tmp 22), type := 106, pos := "body.go:91", after := #[{ on := 0, ground := Go.Ground.data }, { on := 2, ground := Go.Ground.chain }, { on := 0, ground := Go.Ground.phase }, { on := 1, ground := Go.Ground.phase }, { on := 2, ground := Go.Ground.phase }], guard := none }) (v := ev (ad 2)) rfl (by kernel_rfl) (by kernel_rfl) (by kernel_rfl) (fun _ _ _ h => h) (Or.inl ⟨by kernel_rfl, ?_⟩) hS ?_
      · intro w5 hSw
        clear hSw hS
        go_simp
      simp only [Act.put, List.setIfInBounds_toArray, List.set_cons_zero, List.set_cons_succ]
      refine wpAnyH_done (by kernel_rfl) ?_ _
      have HS2 := Hid.of hS.2
      clear hS
      go_wp2
      go_ret3
      rw [HE.out]
      exact ⟨rfl, HS2.out⟩
    | cons x r =>
      rw [ht] at HS7 hnc7 HF7
      have hl7 : (x :: r).length = r.length + 1 := List.length_cons
      rw [hl7] at HS7 hnc7 HF7 ⊢
      clear hl7
      obtain ⟨b7, o7, ha7, hc7⟩ := HS7.out.get (j := 0) (by simp)
      subst ha7
      have hcell : w9.cell? ⟨b7, o7, none⟩ = some (vb x) := hc7
      clear hc7
      have hr0 : ((r.length : Int) + 1 == 0) = false := by rw [beq_eq_false_iff_ne]; omega
      have hr1 : (0 : Int) < (r.length : Int) + 1 := by omega
      have h10 : ((x.toNat : Int) == 10) = (x == 10) := u8_eq (a := x) (b := 10)
      by_cases hx : x = 10
      · have HE := Hid.of (fun e => CcR_ok (ad := ad) (F := fun v r => ∀ w0, Sb w0 (.slice a n c) ds → Sb w0 v r) (a := a) (c := c) (e := e) (n := size) (show cCk size ds = .ok (ds.take size, r) by unfold cCk; rw [if_neg HLn.out, ht]; dsimp only; rw [if_pos hx]) (by rw [List.length_take, ← HN.out]; omega))
        have b10 : ((x.toNat : Int) != 10) = false := by rw [bne, h10, hx]; rfl
        clear h10
        have HSr9 := Hid.of (show ∀ w0, Sb w0 (.slice a n c) ds → Sb w0 (.slice (sv (some ⟨b7, o7, none⟩) c7 1) r.length (c7 - 1)) r from fun w0 h0 => by
          have h1 := (HF7.out w0 h0).sub 1 (r.length + 1) (by omega) (by simp)
          simpa using h1)
        go_wp2
        refine wp_region_held_drew (S := fun w2 => Up w9 w2) (by kernel_rfl) (Up.refl w9).drew (fun hS => ?_)
        refine wpAnyH_take (i := 0) (oi := { dst := some 29, op := Go.Op.move (Go.Operand.tmp 0), type := 22, pos := "body.go:95", after := #[], guard := none }) (v := .slice a n c) rfl (by kernel_rfl) (by kernel_rfl) (by kernel_rfl) (fun _ _ _ h => h) (Or.inl ⟨by kernel_rfl, ?_⟩) hS ?_
        · intro w5 hSw
          clear hSw hS
          go_simp
        simp only [Act.put, List.setIfInBounds_toArray, List.set_cons_zero, List.set_cons_succ]
        refine wpAnyH_take (i := 1) (oi := { dst := some 30, op := Go.Op.move (Go.Operand.tmp 1), type := 3, pos := "body.go:95", after := #[], guard := none }) (v := .int .i64 (size : Int)) rfl (by kernel_rfl) (by kernel_rfl) (by kernel_rfl) (fun _ _ _ h => h) (Or.inl ⟨by kernel_rfl, ?_⟩) hS ?_
        · intro w5 hSw
          clear hSw hS
          go_simp
        simp only [Act.put, List.setIfInBounds_toArray, List.set_cons_zero, List.set_cons_succ]
        refine wpAnyH_take (i := 2) (oi := { dst := some 31, op := Go.Op.slice 22 (Go.Operand.tmp 29) none (some (Go.Operand.tmp 30)) none, type := 22, pos := "body.go:95", after := #[{ on := 0, ground := Go.Ground.data }, { on := 1, ground := Go.Ground.data }], guard := none }) (v := .slice a size c) rfl (by kernel_rfl) (by kernel_rfl) (by kernel_rfl) (fun _ _ _ h => h) (Or.inl ⟨by kernel_rfl, ?_⟩) hS ?_
        · intro w5 hSw
          clear hSw hS
          exact exec_subhi (by omega) rfl rfl rfl
        simp only [Act.put, List.setIfInBounds_toArray, List.set_cons_zero, List.set_cons_succ]
        refine wpAnyH_take (i := 3) (oi := { dst := some 32, op := Go.Op.move (Go.Operand.tmp 5), type := 22, pos := "body.go:95", after := #[], guard := none }) (v := .slice (some ⟨b7, o7, none⟩) (r.length + 1) c7) rfl (by kernel_rfl) (by kernel_rfl) (by kernel_rfl) (fun _ _ _ h => h) (Or.inl ⟨by kernel_rfl, ?_⟩) hS ?_
        · intro w5 hSw
          clear hSw hS
          go_simp
        simp only [Act.put, List.setIfInBounds_toArray, List.set_cons_zero, List.set_cons_succ]
        refine wpAnyH_take (i := 4) (oi := { dst := some 33, op := Go.Op.slice 22 (Go.Operand.tmp 32) (some (Go.Operand.const (Go.Value.int Go.IntKind.i64 1))) none none, type := 22, pos := "body.go:95", after := #[{ on := 3, ground := Go.Ground.data }], guard := none }) (v := .slice (sv (some ⟨b7, o7, none⟩) c7 1) r.length (c7 - 1)) rfl (by kernel_rfl) (by kernel_rfl) (by kernel_rfl) (fun _ _ _ h => h) (Or.inl ⟨by kernel_rfl, ?_⟩) hS ?_
        · intro w5 hSw
          clear hSw hS
          exact (exec_sublo (lo := 1) (by omega) rfl rfl rfl).trans (by rw [Nat.add_sub_cancel])
        simp only [Act.put, List.setIfInBounds_toArray, List.set_cons_zero, List.set_cons_succ]
        refine wpAnyH_take (i := 5) (oi := { dst := some 4, op := Go.Op.assign (Go.Operand.tmp 31), type := 22, pos := "body.go:95", after := #[{ on := 2, ground := Go.Ground.data }, { on := 0, ground := Go.Ground.phase }, { on := 1, ground := Go.Ground.phase }, { on := 2, ground := Go.Ground.phase }, { on := 3, ground := Go.Ground.textOnly Go.Departure.lateStores }, { on := 4, ground := Go.Ground.textOnly Go.Departure.lateStoresUnsure }], guard := none }) (v := .slice a size c) rfl (by kernel_rfl) (by kernel_rfl) (by kernel_rfl) (fun _ _ _ h => h) (Or.inl ⟨by kernel_rfl, ?_⟩) hS ?_
        · intro w5 hSw
          clear hSw hS
          go_simp
        simp only [Act.put, List.setIfInBounds_toArray, List.set_cons_zero, List.set_cons_succ]
        refine wpAnyH_take (i := 6) (oi := { dst := some 5, op := Go.Op.assign (Go.Operand.tmp 33), type := 22, pos := "body.go:95", after := #[{ on := 4, ground := Go.Ground.data }, { on := 5, ground := Go.Ground.chain }, { on := 0, ground := Go.Ground.phase }, { on := 1, ground := Go.Ground.phase }, { on := 2, ground := Go.Ground.phase }, { on := 3, ground := Go.Ground.phase }, { on := 4, ground := Go.Ground.phase }, { on := 5, ground := Go.Ground.phase }], guard := none }) (v := .slice (sv (some ⟨b7, o7, none⟩) c7 1) r.length (c7 - 1)) rfl (by kernel_rfl) (by kernel_rfl) (by kernel_rfl) (fun _ _ _ h => h) (Or.inl ⟨by kernel_rfl, ?_⟩) hS ?_
        · intro w5 hSw
          clear hSw hS
          go_simp
        simp only [Act.put, List.setIfInBounds_toArray, List.set_cons_zero, List.set_cons_succ]
        refine wpAnyH_take (i := 7) (oi := { dst := some 6, op := Go.Op.assign (Go.Operand.const Go.Value.nilIface), type := 106, pos := "body.go:95", after := #[{ on := 6, ground := Go.Ground.chain }, { on := 0, ground := Go.Ground.phase }, { on := 1, ground := Go.Ground.phase }, { on := 2, ground := Go.Ground.phase }, { on := 3, ground := Go.Ground.phase }, { on := 4, ground := Go.Ground.phase }, { on := 5, ground := Go.Ground.phase }, { on := 6, ground := Go.Ground.phase }], guard := none }) (v := .nilIface) rfl (by kernel_rfl) (by kernel_rfl) (by kernel_rfl) (fun _ _ _ h => h) (Or.inl ⟨by kernel_rfl, ?_⟩) hS ?_
        · intro w5 hSw
          clear hSw hS
          go_simp
        simp only [Act.put, List.setIfInBounds_toArray, List.set_cons_zero, List.set_cons_succ]
        refine wpAnyH_done (by kernel_rfl) ?_ _
        have HS2 := Hid.of hS
        clear hS
        go_wp2
        go_ret3
        refine ⟨?_, HU9.out.trans HS2.out⟩
        rw [HE.out]
        exact ⟨_, _, rfl, HSr9⟩
      · have HE := Hid.of (fun e => CcR_er (ad := ad) (F := fun v r => ∀ w0, Sb w0 (.slice a n c) ds → Sb w0 v r) (a := a) (c := c) (e := e) (show cCk size ds = .error 8 by unfold cCk; rw [if_neg HLn.out, ht]; dsimp only; rw [if_neg hx]))
        have b10 : ((x.toNat : Int) != 10) = true := by rw [bne, h10]; simpa using hx
        clear h10
        go_wp2
        refine wp_region_held_drew (S := fun w2 => GE w2 ad ∧ Up w w2) (by kernel_rfl) ⟨HG.out.up HU9.out.drew, HU9.out.drew⟩ (fun hS => ?_)
        refine wpAnyH_take (i := 0) (oi := { dst := some 28, op := Go.Op.load 106 (Go.Operand.global 11), type := 106, pos := "body.go:93", after := #[{ on := 2, ground := Go.Ground.gcOnly Go.Departure.lateStores }], guard := none }) (v := ev (ad 8)) rfl (by kernel_rfl) (by kernel_rfl) (by kernel_rfl) (fun _ _ _ h => h) (Or.inl ⟨by kernel_rfl, ?_⟩) hS ?_
        · intro w5 hSw
          have hgl : w5.cell? ⟨11, 0, none⟩ = _ := hSw.1.gl 8 (by decide)
          clear hSw hS
          go_simp
        simp only [Act.put, List.setIfInBounds_toArray, List.set_cons_zero, List.set_cons_succ]
        refine wpAnyH_take (i := 1) (oi := { dst := some 4, op := Go.Op.assign (Go.Operand.const (Go.Value.slice none 0 0)), type := 22, pos := "body.go:93", after := #[{ on := 0, ground := Go.Ground.textOnly Go.Departure.lateStores }], guard := none }) (v := .slice none 0 0) rfl (by kernel_rfl) (by kernel_rfl) (by kernel_rfl) (fun _ _ _ h => h) (Or.inl ⟨by kernel_rfl, ?_⟩) hS ?_
        · intro w5 hSw
          clear hSw hS
          go_simp
        simp only [Act.put, List.setIfInBounds_toArray, List.set_cons_zero, List.set_cons_succ]
        refine wpAnyH_take (i := 2) (oi := { dst := some 5, op := Go.Op.assign (Go.Operand.const (Go.Value.slice none 0 0)), type := 22, pos := "body.go:93", after := #[{ on := 1, ground := Go.Ground.chain }, { on := 0, ground := Go.Ground.textOnly Go.Departure.lateStores }, { on := 1, ground := Go.Ground.phase }], guard := none }) (v := .slice none 0 0) rfl (by kernel_rfl) (by kernel_rfl) (by kernel_rfl) (fun _ _ _ h => h) (Or.inl ⟨by kernel_rfl, ?_⟩) hS ?_
        · intro w5 hSw
          clear hSw hS
          go_simp
        simp only [Act.put, List.setIfInBounds_toArray, List.set_cons_zero, List.set_cons_succ]
        refine wpAnyH_take (i := 3) (oi := { dst := some 6, op := Go.Op.assign (Go.Operand.tmp 28), type := 106, pos := "body.go:93", after := #[{ on := 0, ground := Go.Ground.data }, { on := 2, ground := Go.Ground.chain }, { on := 0, ground := Go.Ground.phase }, { on := 1, ground := Go.Ground.phase }, { on := 2, ground := Go.Ground.phase }], guard := none }) (v := ev (ad 8)) rfl (by kernel_rfl) (by kernel_rfl) (by kernel_rfl) (fun _ _ _ h => h) (Or.inl ⟨by kernel_rfl, ?_⟩) hS ?_
        · intro w5 hSw
          clear hSw hS
          go_simp
        simp only [Act.put, List.setIfInBounds_toArray, List.set_cons_zero, List.set_cons_succ]
        refine wpAnyH_done (by kernel_rfl) ?_ _
        have HS2 := Hid.of hS.2
        clear hS
        go_wp2
        go_ret3
        rw [HE.out]
        exact ⟨rfl, HS2.out⟩
end Go.Proofs.YtabpgpbcnadgcaaGreatDoor
