import Derived.Test.YtabpgpbcnadgcaaGreatDoorYk
import Derived.Lib.SliceRun
namespace Go.Proofs.YtabpgpbcnadgcaaGreatDoor
open Go.RowKit TextNum
set_option maxRecDepth 100000 in
set_option maxHeartbeats 1000000 in
theorem Clone_walk (v : Value) (ds : List UInt8) (w : World) (hd : Sb w v ds) (hl : ds.length ≤ 140737488355328) :
    Calls Tryz.prog 153 #[v] w fun e w' => ∃ v', e = .returned v' ∧ Ow w' w.heap.size v' ds ∧ Up w w' := by
  obtain ⟨i0, hi, hz0, hz1, hz2⟩ := info_parts Tryz.infoU8
  obtain ⟨a, c, rfl, h1, h2, h3, h4⟩ := hd
  cases a with
  | none =>
    obtain ⟨rfl, rfl⟩ := h3 rfl
    clear h4 h3 h2 h1
    have heq : ∀ w', (binOp .eql 22 (.slice none 0 0) (.slice none 0 0)).run Tryz.prog w' = .ok (.bool true) w' := fun w' => Go.Lib.run_eql_slice_nil w' 22 5 none 0 0 0 0 Tryz.underlying22
    go_enter Tryz.func153, Tryz.ntmps153
    go_wp2
    go_ret
    exact ⟨_, rfl, World.ownsRow_nil _ _ _ _, Up.refl _⟩
  | some ad =>
    have HS := Hid.of (h4 ad rfl).2
    have HO := Hid.of (own_empty w)
    have HU := Hid.of ((Up.refl w).alloc (.cells #[] 5))
    clear h4 h3
    have heq : ∀ w', (binOp .eql 22 (.slice (some ad) ds.length c) (.slice none 0 0)).run Tryz.prog w' = .ok (.bool false) w' := fun w' => Go.Lib.run_eql_slice_nil w' 22 5 (some ad) ds.length c 0 0 Tryz.underlying22
    go_enter Tryz.func153, Tryz.ntmps153
    go_wp2_with (with_reducible show wpList _ _ _ ({ dst := _, op := Op.call { callee := Callee.builtin Builtin.append, args := _, argTypes := _ }, type := _, pos := _, after := _, guard := _ } :: _) _ _; refine Shut.out ?_)
    show wpList _ _ _ _ _ _
    refine wpList_append_frs rfl _ _ 22 rfl w.heap.size 5 i0 (.int .u8 0) 1 Tryz.underlying22 hi hz0 hz1 hz2 rfl _ 0 [] rfl HO.out ad ds.length c (cb ds) rfl (by rw [cb_length]; omega) (fun j u hj => HU.out.cell (HS.out j u hj)) (cb_one ds) (by simp only [maxLen]; omega) (by omega) (by have := HU.out.size; exact this) ?_
    intro v1 w1 o1 g1 f1
    have HO1 := Hid.of (show Ow w1 w.heap.size v1 ds by unfold Ow; simpa using o1)
    have HU1 := Hid.of (up_grownBy HU.out g1 (fun g hg => by have e : w.heap.size = g := Option.some.inj hg; omega))
    clear o1 g1 f1
    simp only [Act.put, List.setIfInBounds_toArray, List.set_cons_zero, List.set_cons_succ]
    go_wp2
    go_ret
    exact ⟨_, rfl, HO1.out, HU1.out⟩
/-- the body by a way of telling its length, and how many bytes it takes -/
def fcu (way : Int) (len : Nat) (l : List UInt8) : Er (List UInt8 × Nat) :=
  if way = 3 then (match unk l with
    | .error k => .error (if k = 1 then 19 else k)
    | .ok p => .ok p)
  else if way = 1 then (if 1048576 < l.length then .error 7 else .ok (l, l.length))
  else if way = 2 then (if l.length < len then .error 2 else .ok (l.take len, len))
  else .ok ([], 0)
theorem unc_er : ∀ (f : Nat) (b l : List UInt8) (k : Nat), unc f b l = .error k → k = 1 ∨ k = 2 ∨ k = 8 ∨ k = 20
  | 0, _, _, k, h => by injection h with h; exact .inr (.inl h.symm)
  | f + 1, b, l, k, h => by
    rw [unc] at h
    cases hc : cutL 256 l with
    | error e =>
      rw [hc] at h
      dsimp only at h
      injection h with h
      rcases cutL_er hc with rfl | rfl
      · exact .inr (.inr (.inr h.symm))
      · exact .inr (.inl h.symm)
    | ok p =>
      obtain ⟨ln, q⟩ := p
      rw [hc] at h
      dsimp only at h
      cases hz : cSz ln with
      | error e => rw [hz] at h; injection h with h; have := cSz_er hz; omega
      | ok z =>
        rw [hz] at h
        dsimp only at h
        split at h
        · injection h with h; exact .inl h.symm
        · cases hd : cCk z (l.drop q) with
          | error e => rw [hd] at h; injection h with h; have := cCk_er hd; omega
          | ok r =>
            obtain ⟨d, r⟩ := r
            rw [hd] at h
            dsimp only at h
            split at h
            · cases h
            · exact unc_er f _ _ _ h
theorem unk_er {l : List UInt8} {k : Nat} (h : unk l = .error k) : k = 1 ∨ k = 2 ∨ k = 8 ∨ k = 20 := by
  unfold unk at h
  split at h
  · rename_i hh
    injection h with h
    subst h
    exact unc_er _ _ _ _ hh
  · cases h
set_option maxRecDepth 100000 in
set_option maxHeartbeats 1000000 in
theorem cut_walk (ad : Nat → Addr) (way : Int) (len : Nat) (hlen : len ≤ 1099511627776) {a : Option Addr} {n c : Nat} {ds : List UInt8} (hn40 : n ≤ 1099511627776) (w : World) (hS : Sb w (.slice a n c) ds) (h : GE w ad) : Calls Tryz.prog 119 #[.agg #[.int .i64 way, .int .i64 (len : Int)], .slice a n c] w fun e w' => UnR ad w w' e (fcu way len ds) ∧ Up w w' := by
  have HG := Hid.of h
  clear h
  obtain ⟨hn, hnc, hcm⟩ := hS.len
  unfold maxLen at hcm
  have HN := Hid.of hn
  have HSb := Hid.of hS
  clear hn hS
  have HA := Hid.of (at_new w 185 [.int .i64 way, .int .i64 (len : Int)])
  have HU := Hid.of ((Up.refl w).alloc (.cells #[.int .i64 way, .int .i64 (len : Int)] 185))
  go_enter Tryz.func119, Tryz.ntmps119
  go_wp2_with (with_reducible show wpList _ _ _ ({ dst := _, op := Op.fieldAddr 185 _ _, type := _, pos := _, after := _, guard := _ } :: _) _ _; refine Shut.out ?_)
  show wpList _ _ _ _ _ _
  obtain ⟨w1, hw1⟩ : ∃ w1, w.alloc (.cells #[.int .i64 way, .int .i64 (len : Int)] 185) = w1 := ⟨_, rfl⟩
  have HA1 := Hid.of (show At w1 w.heap.size 185 [.int .i64 way, .int .i64 (len : Int)] by rw [← hw1]; exact HA.out)
  have HU1 := Hid.of (show Up w w1 by rw [← hw1]; exact HU.out)
  rw [hw1]
  clear hw1 HA HU
  have c0 : w1.cell? ⟨w.heap.size, 0, none⟩ = some (.int .i64 way) := HA1.out.cell (i := 0) rfl
  have c1 : w1.cell? ⟨w.heap.size, 1, none⟩ = some (.int .i64 (len : Int)) := HA1.out.cell (i := 1) rfl
  by_cases h3 : way = 3
  · have z3' : (way == 3) = true := by rw [h3]; rfl
    have HUk := Hid.of (unchunk_walk ad hn40 w1 (HSb.out.up HU1.out) (HG.out.up HU1.out))
    have HF := Hid.of (show fcu way len ds = match unk ds with | .error k => .error (if k = 1 then 19 else k) | .ok p => .ok p by unfold fcu; rw [if_pos h3])
    clear h3 c1
    cases hu : unk ds with
    | error k =>
      rw [hu] at HUk HF
      dsimp only at HF
      unfold UnR at HUk
      dsimp only at HUk
      go_wp2_with fail
      refine HUk.out.mono ?_
      rintro e w2 ⟨rfl, h9⟩
      have HU2 := Hid.of (HU1.out.trans h9)
      clear h9 c0
      dsimp only
      have hg7 : w2.cell? ⟨6, 0, none⟩ = some (ev (ad 7)) := (HG.out.up HU2.out).gl 7 (by decide)
      rcases unk_er hu with rfl | rfl | rfl | rfl
      · go_wp2_with fail
        refine (tooLongAs_yes ad 7 w2 (HG.out.up HU2.out)).mono ?_
        rintro e w3 ⟨rfl, h9⟩
        have HU3 := Hid.of (HU2.out.trans h9)
        clear h9
        dsimp only
        go_wp2
        go_ret3
        refine ⟨?_, HU3.out⟩
        rw [HF.out]
        rfl
      · go_wp2_with fail
        refine (tooLongAs_no ad 7 2 (by decide) (by decide) w2 (HG.out.up HU2.out)).mono ?_
        rintro e w3 ⟨rfl, h9⟩
        have HU3 := Hid.of (HU2.out.trans h9)
        clear h9
        dsimp only
        go_wp2
        go_ret3
        refine ⟨?_, HU3.out⟩
        rw [HF.out]
        rfl
      · go_wp2_with fail
        refine (tooLongAs_no ad 7 8 (by decide) (by decide) w2 (HG.out.up HU2.out)).mono ?_
        rintro e w3 ⟨rfl, h9⟩
        have HU3 := Hid.of (HU2.out.trans h9)
        clear h9
        dsimp only
        go_wp2
        go_ret3
        refine ⟨?_, HU3.out⟩
        rw [HF.out]
        rfl
      · go_wp2_with fail
        refine (tooLongAs_pl ad 7 8 (ad 1) (by decide) (by decide) w2 (HG.out.up HU2.out)).mono ?_
        rintro e w3 ⟨rfl, h9⟩
        have HU3 := Hid.of (HU2.out.trans h9)
        clear h9
        dsimp only
        go_wp2
        go_ret3
        refine ⟨?_, HU3.out⟩
        rw [HF.out]
        rfl
    | ok p =>
      obtain ⟨b, k⟩ := p
      rw [hu] at HUk HF
      dsimp only at HF
      unfold UnR at HUk
      dsimp only at HUk
      go_wp2_with fail
      refine HUk.out.mono ?_
      rintro e w2 ⟨⟨v, rfl, hv⟩, h9⟩
      have HU2 := Hid.of (HU1.out.trans h9)
      have HV := Hid.of hv.out
      clear h9 c0 hv
      dsimp only
      have hg7 : w2.cell? ⟨6, 0, none⟩ = some (ev (ad 7)) := (HG.out.up HU2.out).gl 7 (by decide)
      go_wp2_with fail
      refine (tooLongAs_nil ad 7 w2 (HG.out.up HU2.out)).mono ?_
      rintro e w3 ⟨rfl, h9⟩
      have HU3 := Hid.of (HU2.out.trans h9)
      have HV3 := Hid.of (ow_up HV.out h9)
      clear h9
      dsimp only
      go_wp2
      go_ret3
      refine ⟨?_, HU3.out⟩
      rw [HF.out]
      exact ⟨_, rfl, Hid.of (ow_base HV3.out HU1.out.size)⟩
  · have z3' : (way == 3) = false := by rw [beq_eq_false_iff_ne]; exact h3
    by_cases h1 : way = 1
    · have z1 : (way == 1) = true := by rw [h1]; rfl
      have HF := Hid.of (show fcu way len ds = if 1048576 < ds.length then .error 7 else .ok (ds, ds.length) by unfold fcu; rw [if_neg h3, if_pos h1])
      clear h3 h1 c1
      by_cases hbig : 1048576 < n
      · have hbz : (1048576 : Int) < (n : Int) := by omega
        have HE := Hid.of (show fcu way len ds = .error 7 by rw [HF.out, if_pos (by rw [← HN.out]; exact hbig)])
        go_wp2
        refine wp_region_held_drew (S := fun w2 => GE w2 ad ∧ Up w w2) (by kernel_rfl) ⟨HG.out.up HU1.out.drew, HU1.out.drew⟩ (fun hS => ?_)
        refine wpAnyH_take (i := 0) (oi := { dst := some 27, op := Go.Op.load 106 (Go.Operand.global 6), type := 106, pos := "body.go:23", after := #[{ on := 2, ground := Go.Ground.gcOnly Go.Departure.lateStores }], guard := none }) (v := ev (ad 7)) rfl (by kernel_rfl) (by kernel_rfl) (by kernel_rfl) (fun _ _ _ h => h) (Or.inl ⟨by kernel_rfl, ?_⟩) hS ?_
        · intro w5 hSw
          have hgl : w5.cell? ⟨6, 0, none⟩ = _ := hSw.1.gl 7 (by decide)
          clear hSw hS
          go_simp
        simp only [Act.put, List.setIfInBounds_toArray, List.set_cons_zero, List.set_cons_succ]
        refine wpAnyH_take (i := 1) (oi := { dst := some 4, op := Go.Op.assign (Go.Operand.const (Go.Value.slice none 0 0)), type := 22, pos := "body.go:23", after := #[{ on := 0, ground := Go.Ground.textOnly Go.Departure.lateStores }], guard := none }) (v := .slice none 0 0) rfl (by kernel_rfl) (by kernel_rfl) (by kernel_rfl) (fun _ _ _ h => h) (Or.inl ⟨by kernel_rfl, ?_⟩) hS ?_
        · intro w5 hSw
          clear hSw hS
          go_simp
        simp only [Act.put, List.setIfInBounds_toArray, List.set_cons_zero, List.set_cons_succ]
        refine wpAnyH_take (i := 2) (oi := { dst := some 5, op := Go.Op.assign (Go.Operand.const (Go.Value.int Go.IntKind.i64 0)), type := 3, pos := "body.go:23", after := #[{ on := 1, ground := Go.Ground.chain }, { on := 0, ground := Go.Ground.textOnly Go.Departure.lateStores }, { on := 1, ground := Go.Ground.phase }], guard := none }) (v := .int .i64 0) rfl (by kernel_rfl) (by kernel_rfl) (by kernel_rfl) (fun _ _ _ h => h) (Or.inl ⟨by kernel_rfl, ?_⟩) hS ?_
        · intro w5 hSw
          clear hSw hS
          go_simp
        simp only [Act.put, List.setIfInBounds_toArray, List.set_cons_zero, List.set_cons_succ]
        refine wpAnyH_take (i := 3) (oi := { dst := some 6, op := Go.Op.assign (Go.Operand.tmp 27), type := 106, pos := "body.go:23", after := #[{ on := 0, ground := Go.Ground.data }, { on := 2, ground := Go.Ground.chain }, { on := 0, ground := Go.Ground.phase }, { on := 1, ground := Go.Ground.phase }, { on := 2, ground := Go.Ground.phase }], guard := none }) (v := ev (ad 7)) rfl (by kernel_rfl) (by kernel_rfl) (by kernel_rfl) (fun _ _ _ h => h) (Or.inl ⟨by kernel_rfl, ?_⟩) hS ?_
        · intro w5 hSw
          clear hSw hS
          go_simp
        simp only [Act.put, List.setIfInBounds_toArray, List.set_cons_zero, List.set_cons_succ]
        refine wpAnyH_done (by kernel_rfl) ?_ _
        have HS2 := Hid.of hS.2
        clear hS
        go_wp2
        go_ret3
        refine ⟨?_, HS2.out⟩
        rw [HE.out]
        rfl
      · have hbz : ¬ (1048576 : Int) < (n : Int) := by omega
        have HE := Hid.of (show fcu way len ds = .ok (ds, n) by rw [HF.out, if_neg (by rw [← HN.out]; exact hbig), ← HN.out])
        have HCl := Hid.of (Clone_walk (.slice a n c) ds w1 (HSb.out.up HU1.out) (by rw [← HN.out]; omega))
        go_wp2_with fail
        refine HCl.out.mono ?_
        rintro e w2 ⟨v, rfl, hv, h9⟩
        have HU2 := Hid.of (HU1.out.trans h9)
        have HV := Hid.of hv
        clear h9 c0 hv
        dsimp only
        go_wp2
        go_ret3
        refine ⟨?_, HU2.out⟩
        rw [HE.out]
        exact ⟨_, rfl, Hid.of (ow_base HV.out HU1.out.size)⟩
    · have z1 : (way == 1) = false := by rw [beq_eq_false_iff_ne]; exact h1
      by_cases h2 : way = 2
      · have z2 : (way == 2) = true := by rw [h2]; rfl
        have HF := Hid.of (show fcu way len ds = if ds.length < len then .error 2 else .ok (ds.take len, len) by unfold fcu; rw [if_neg h3, if_neg h1, if_pos h2])
        clear h3 h1 h2
        by_cases hlt : n < len
        · have hltz : (n : Int) < (len : Int) := by omega
          have HE := Hid.of (show fcu way len ds = .error 2 by rw [HF.out, if_pos (by rw [← HN.out]; exact hlt)])
          go_wp2
          refine wp_region_held_drew (S := fun w2 => GE w2 ad ∧ Up w w2) (by kernel_rfl) ⟨HG.out.up HU1.out.drew, HU1.out.drew⟩ (fun hS => ?_)
          refine wpAnyH_take (i := 0) (oi := { dst := some 39, op := Go.Op.load 106 (Go.Operand.global 17), type := 106, pos := "body.go:28", after := #[{ on := 2, ground := Go.Ground.gcOnly Go.Departure.lateStores }], guard := none }) (v := ev (ad 2)) rfl (by kernel_rfl) (by kernel_rfl) (by kernel_rfl) (fun _ _ _ h => h) (Or.inl ⟨by kernel_rfl, ?_⟩) hS ?_
          · intro w5 hSw
            have hgl : w5.cell? ⟨17, 0, none⟩ = _ := hSw.1.gl 2 (by decide)
            clear hSw hS
            go_simp
          simp only [Act.put, List.setIfInBounds_toArray, List.set_cons_zero, List.set_cons_succ]
          refine wpAnyH_take (i := 1) (oi := { dst := some 4, op := Go.Op.assign (Go.Operand.const (Go.Value.slice none 0 0)), type := 22, pos := "body.go:28", after := #[{ on := 0, ground := Go.Ground.textOnly Go.Departure.lateStores }], guard := none }) (v := .slice none 0 0) rfl (by kernel_rfl) (by kernel_rfl) (by kernel_rfl) (fun _ _ _ h => h) (Or.inl ⟨by kernel_rfl, ?_⟩) hS ?_
          · intro w5 hSw
            clear hSw hS
            go_simp
          simp only [Act.put, List.setIfInBounds_toArray, List.set_cons_zero, List.set_cons_succ]
          refine wpAnyH_take (i := 2) (oi := { dst := some 5, op := Go.Op.assign (Go.Operand.const (Go.Value.int Go.IntKind.i64 0)), type := 3, pos := "body.go:28", after := #[{ on := 1, ground := Go.Ground.chain }, { on := 0, ground := Go.Ground.textOnly Go.Departure.lateStores }, { on := 1, ground := Go.Ground.phase }], guard := none }) (v := .int .i64 0) rfl (by kernel_rfl) (by kernel_rfl) (by kernel_rfl) (fun _ _ _ h => h) (Or.inl ⟨by kernel_rfl, ?_⟩) hS ?_
          · intro w5 hSw
            clear hSw hS
            go_simp
          simp only [Act.put, List.setIfInBounds_toArray, List.set_cons_zero, List.set_cons_succ]
          refine wpAnyH_take (i := 3) (oi := { dst := some 6, op := Go.Op.assign (Go.Operand.tmp 39), type := 106, pos := "body.go:28", after := #[{ on := 0, ground := Go.Ground.data }, { on := 2, ground := Go.Ground.chain }, { on := 0, ground := Go.Ground.phase }, { on := 1, ground := Go.Ground.phase }, { on := 2, ground := Go.Ground.phase }], guard := none }) (v := ev (ad 2)) rfl (by kernel_rfl) (by kernel_rfl) (by kernel_rfl) (fun _ _ _ h => h) (Or.inl ⟨by kernel_rfl, ?_⟩) hS ?_
          · intro w5 hSw
            clear hSw hS
            go_simp
          simp only [Act.put, List.setIfInBounds_toArray, List.set_cons_zero, List.set_cons_succ]
          refine wpAnyH_done (by kernel_rfl) ?_ _
          have HS2 := Hid.of hS.2
          clear hS
          go_wp2
          go_ret3
          refine ⟨?_, HS2.out⟩
          rw [HE.out]
          rfl
        · have hltz : ¬ (n : Int) < (len : Int) := by omega
          have HE := Hid.of (show fcu way len ds = .ok (ds.take len, len) by rw [HF.out, if_neg (by rw [← HN.out]; exact hlt)])
          have HCl := Hid.of (fun (w2 : World) (hu : Up w w2) => Clone_walk (.slice a len c) (ds.take len) w2 (((show Sb w (.slice a ds.length c) ds by rw [← HN.out]; exact HSb.out).take len (by rw [← HN.out]; omega)).up hu) (by rw [List.length_take, ← HN.out]; omega))
          go_wp2
          clear c0 c1
          refine wp_region_held_drew (S := fun w2 => At w2 w.heap.size 185 [.int .i64 way, .int .i64 (len : Int)] ∧ Up w w2) (by kernel_rfl) ⟨HA1.out.up (Up.refl _).drew, HU1.out.drew⟩ (fun hS => ?_)
          refine wpAnyH_take (i := 0) (oi := { dst := some 40, op := Go.Op.move (Go.Operand.tmp 1), type := 22, pos := "body.go:30", after := #[], guard := none }) (v := .slice a n c) rfl (by kernel_rfl) (by kernel_rfl) (by kernel_rfl) (fun _ _ _ h => h) (Or.inl ⟨by kernel_rfl, ?_⟩) hS ?_
          · intro w5 hSw
            clear hSw hS
            go_simp
          simp only [Act.put, List.setIfInBounds_toArray, List.set_cons_zero, List.set_cons_succ]
          refine wpAnyH_take (i := 1) (oi := { dst := some 41, op := Go.Op.fieldAddr 185 (Go.Operand.tmp 2) 1, type := 0, pos := "body.go:30", after := #[], guard := none }) (v := .pointer (some ⟨w.heap.size, 1, none⟩)) rfl (by kernel_rfl) (by kernel_rfl) (by kernel_rfl) (fun _ _ _ h => h) (Or.inl ⟨by kernel_rfl, ?_⟩) hS ?_
          · intro w5 hSw
            clear hSw hS
            go_simp
          simp only [Act.put, List.setIfInBounds_toArray, List.set_cons_zero, List.set_cons_succ]
          refine wpAnyH_take (i := 2) (oi := { dst := some 42, op := Go.Op.load 3 (Go.Operand.tmp 41), type := 3, pos := "body.go:30", after := #[{ on := 1, ground := Go.Ground.data }], guard := none }) (v := .int .i64 (len : Int)) rfl (by kernel_rfl) (by kernel_rfl) (by kernel_rfl) (fun _ _ _ h => h) (Or.inl ⟨by kernel_rfl, ?_⟩) hS ?_
          · intro w5 hSw
            have hl1 : w5.cell? ⟨w.heap.size, 1, none⟩ = some (.int .i64 (len : Int)) := hSw.1.cell (i := 1) rfl
            clear hSw hS
            go_simp
          simp only [Act.put, List.setIfInBounds_toArray, List.set_cons_zero, List.set_cons_succ]
          refine wpAnyH_take (i := 3) (oi := { dst := some 43, op := Go.Op.slice 22 (Go.Operand.tmp 40) none (some (Go.Operand.tmp 42)) none, type := 22, pos := "body.go:30", after := #[{ on := 0, ground := Go.Ground.data }, { on := 2, ground := Go.Ground.data }], guard := none }) (v := .slice a len c) rfl (by kernel_rfl) (by kernel_rfl) (by kernel_rfl) (fun _ _ _ h => h) (Or.inl ⟨by kernel_rfl, ?_⟩) hS ?_
          · intro w5 hSw
            clear hSw hS
            exact exec_subhi (by omega) rfl rfl rfl
          simp only [Act.put, List.setIfInBounds_toArray, List.set_cons_zero, List.set_cons_succ]
          refine wpAnyH_take (i := 5) (oi := { dst := some 45, op := Go.Op.fieldAddr 185 (Go.Operand.tmp 2) 1, type := 0, pos := "body.go:30", after := #[{ on := 7, ground := Go.Ground.gcOnly Go.Departure.lateStores }], guard := none }) (v := .pointer (some ⟨w.heap.size, 1, none⟩)) rfl (by kernel_rfl) (by kernel_rfl) (by kernel_rfl) (fun _ _ _ h => h) (Or.inl ⟨by kernel_rfl, ?_⟩) hS ?_
          · intro w5 hSw
            clear hSw hS
            go_simp
          simp only [Act.put, List.setIfInBounds_toArray, List.set_cons_zero, List.set_cons_succ]
          refine wpAnyH_take (i := 6) (oi := { dst := some 46, op := Go.Op.load 3 (Go.Operand.tmp 45), type := 3, pos := "body.go:30", after := #[{ on := 5, ground := Go.Ground.data }, { on := 7, ground := Go.Ground.gcOnly Go.Departure.lateStores }], guard := none }) (v := .int .i64 (len : Int)) rfl (by kernel_rfl) (by kernel_rfl) (by kernel_rfl) (fun _ _ _ h => h) (Or.inl ⟨by kernel_rfl, ?_⟩) hS ?_
          · intro w5 hSw
            have hl1 : w5.cell? ⟨w.heap.size, 1, none⟩ = some (.int .i64 (len : Int)) := hSw.1.cell (i := 1) rfl
            clear hSw hS
            go_simp
          simp only [Act.put, List.setIfInBounds_toArray, List.set_cons_zero, List.set_cons_succ]
          refine wpAnyH_ready (rs := [4]) (by kernel_rfl) (by simp) ?_
          refine AllReadyH.cons (o := { dst := some 44, op := Go.Op.call { callee := Go.Callee.value (Go.Operand.func 153), args := #[Go.Operand.tmp 43], argTypes := #[22] }, type := 22, pos := "body.go:30", after := #[{ on := 3, ground := Go.Ground.data }], guard := none }) rfl (fun K hK => ?_) AllReadyH.nil
          rw [if_pos (by kernel_rfl)]
          go_simp
          refine (HCl.out _ hS.2).mono ?_
          rintro e w5 ⟨v5, rfl, o5, u5⟩
          have HO5 := Hid.of o5
          have HU5 := Hid.of (hS.2.trans u5)
          have HA5 := Hid.of (hS.1.up u5)
          clear o5 u5
          dsimp only
          refine hK.out _ _ ⟨HA5.out, HU5.out⟩ (fun hS => ?_)
          clear hK K
          refine wpAnyH_take (i := 7) (oi := { dst := some 4, op := Go.Op.assign (Go.Operand.tmp 44), type := 22, pos := "body.go:30", after := #[{ on := 4, ground := Go.Ground.data }, { on := 4, ground := Go.Ground.chain }, { on := 0, ground := Go.Ground.phase }, { on := 1, ground := Go.Ground.phase }, { on := 2, ground := Go.Ground.phase }, { on := 3, ground := Go.Ground.phase }, { on := 4, ground := Go.Ground.phase }, { on := 5, ground := Go.Ground.textOnly Go.Departure.lateStores }, { on := 6, ground := Go.Ground.textOnly Go.Departure.lateStores }], guard := none }) (v := v5) rfl (by kernel_rfl) (by kernel_rfl) (by kernel_rfl) (fun _ _ _ h => h) (Or.inl ⟨by kernel_rfl, ?_⟩) hS ?_
          · intro w5 hSw
            clear hSw hS
            go_simp
          simp only [Act.put, List.setIfInBounds_toArray, List.set_cons_zero, List.set_cons_succ]
          refine wpAnyH_take (i := 8) (oi := { dst := some 5, op := Go.Op.assign (Go.Operand.tmp 46), type := 3, pos := "body.go:30", after := #[{ on := 6, ground := Go.Ground.data }, { on := 7, ground := Go.Ground.chain }, { on := 0, ground := Go.Ground.phase }, { on := 1, ground := Go.Ground.phase }, { on := 2, ground := Go.Ground.phase }, { on := 3, ground := Go.Ground.phase }, { on := 4, ground := Go.Ground.phase }, { on := 5, ground := Go.Ground.phase }, { on := 6, ground := Go.Ground.phase }, { on := 7, ground := Go.Ground.phase }], guard := none }) (v := .int .i64 (len : Int)) rfl (by kernel_rfl) (by kernel_rfl) (by kernel_rfl) (fun _ _ _ h => h) (Or.inl ⟨by kernel_rfl, ?_⟩) hS ?_
          · intro w5 hSw
            clear hSw hS
            go_simp
          simp only [Act.put, List.setIfInBounds_toArray, List.set_cons_zero, List.set_cons_succ]
          refine wpAnyH_take (i := 9) (oi := { dst := some 6, op := Go.Op.assign (Go.Operand.const Go.Value.nilIface), type := 106, pos := "body.go:30", after := #[{ on := 8, ground := Go.Ground.chain }, { on := 0, ground := Go.Ground.phase }, { on := 1, ground := Go.Ground.phase }, { on := 2, ground := Go.Ground.phase }, { on := 3, ground := Go.Ground.phase }, { on := 4, ground := Go.Ground.phase }, { on := 5, ground := Go.Ground.phase }, { on := 6, ground := Go.Ground.phase }, { on := 7, ground := Go.Ground.phase }, { on := 8, ground := Go.Ground.phase }], guard := none }) (v := .nilIface) rfl (by kernel_rfl) (by kernel_rfl) (by kernel_rfl) (fun _ _ _ h => h) (Or.inl ⟨by kernel_rfl, ?_⟩) hS ?_
          · intro w5 hSw
            clear hSw hS
            go_simp
          simp only [Act.put, List.setIfInBounds_toArray, List.set_cons_zero, List.set_cons_succ]
          clear hS
          refine wpAnyH_done (by kernel_rfl) ?_ _
          go_wp2
          go_ret3
          refine ⟨?_, HU5.out⟩
          rw [HE.out]
          exact ⟨_, rfl, Hid.of (ow_base HO5.out (by first | exact HU1.out.size | exact (HU1.out.drew).size))⟩
      · have z2 : (way == 2) = false := by rw [beq_eq_false_iff_ne]; exact h2
        have HE := Hid.of (show fcu way len ds = .ok ([], 0) by unfold fcu; rw [if_neg h3, if_neg h1, if_neg h2])
        clear h3 h1 h2 c1
        go_wp2
        go_ret3
        refine ⟨?_, HU1.out⟩
        rw [HE.out]
        exact ⟨_, rfl, Hid.of (World.ownsRow_nil _ _ _ _)⟩
end Go.Proofs.YtabpgpbcnadgcaaGreatDoor
