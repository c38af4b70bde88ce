import Derived.Test.YtaibjeehjhlicaaGreatDoorQbn
namespace Go.Proofs.YtaibjeehjhlicaaGreatDoor
open Go.RowKit Go.Shelf TextNum ModNum
theorem dat_leX {cs : List Int} {k0 i X : Nat} {lb : List UInt8} {ws : List WL} (h : lb.length ≤ X) (hw : ∀ x ∈ ws, x.l.p + x.l.ds.length ≤ X) : (dat cs k0 i lb ws).length ≤ X := by
  unfold dat
  have : ∀ (l : List (WL × Nat)) (acc : List UInt8), (∀ x ∈ l, x.1.l.p + x.1.l.ds.length ≤ X) → acc.length ≤ X → (l.foldl (fun acc x => if x.1.i = i then wr acc x.1.l.p (x.1.l.ds.take (cz cs x.2 x.1.l.ds.length)) else acc) acc).length ≤ X := by
    intro l
    induction l with
    | nil => exact fun acc _ h => h
    | cons x r ih =>
      intro acc hx ha
      rw [List.foldl_cons]
      refine ih _ (fun y hy => hx y (List.mem_cons_of_mem _ hy)) ?_
      split
      · refine wr_le ha ?_
        have := hx x List.mem_cons_self
        rw [List.length_take]
        omega
      · exact ha
  exact this _ _ (fun x hx => hw x.1 (List.fst_mem_of_mem_zipIdx hx)) h
theorem lfs_fst (cs : List Int) (k0 : Nat) (gs : LG) (ws : List WL) : (lfs cs k0 gs ws).map Prod.fst = gs.map Prod.fst := by
  refine List.ext_getElem? (fun i => ?_)
  rw [List.getElem?_map, List.getElem?_map]
  rcases Nat.lt_or_ge i gs.length with h | h
  · rw [lfs_get h, List.getElem?_eq_getElem h]
    rfl
  · rw [List.getElem?_eq_none (by rw [lfs_len]; exact h), List.getElem?_eq_none h]
    rfl
theorem sum_leX {X : Nat} : ∀ (l : List Nat), (∀ x ∈ l, x ≤ X) → l.sum ≤ l.length * X
  | [], _ => by simp
  | a :: r, h => by
    have h1 := sum_leX r (fun x hx => h x (List.mem_cons_of_mem _ hx))
    have h2 := h a List.mem_cons_self
    rw [List.sum_cons, List.length_cons, Nat.add_mul]
    omega
theorem lfs_mem {cs : List Int} {k0 X : Nat} {gs : LG} {ws : List WL} (h1 : ∀ p ∈ gs, p.2.lb.length ≤ X) (h2 : ∀ x ∈ ws, x.l.p + x.l.ds.length ≤ X) : ∀ q ∈ lfs cs k0 gs ws, q.2.length ≤ X := fun q hq => by
  obtain ⟨i, hi, e⟩ := List.getElem_of_mem hq
  rw [lfs_len] at hi
  have h3 := lfs_get (cs := cs) (k0 := k0) (ws := ws) hi
  rw [List.getElem?_eq_getElem (by rw [lfs_len]; exact hi), e] at h3
  injection h3 with h3
  rw [h3]
  exact dat_leX (h1 _ (List.getElem_mem hi)) h2
theorem len_sub : ∀ {xs ys : List Nat}, xs.Nodup → (∀ x ∈ xs, x ∈ ys) → xs.length ≤ ys.length
  | [], _, _, _ => Nat.zero_le _
  | a :: r, ys, nd, h => by
    obtain ⟨us, vs, rfl⟩ := List.append_of_mem (h a List.mem_cons_self)
    rw [List.nodup_cons] at nd
    have := len_sub (ys := us ++ vs) nd.2 (fun x hx => by
      rcases List.mem_append.1 (h x (List.mem_cons_of_mem _ hx)) with h1 | h1
      · exact List.mem_append_left _ h1
      · rcases List.mem_cons.1 h1 with rfl | h1
        · exact absurd hx nd.1
        · exact List.mem_append_right _ h1)
    rw [List.length_append] at this
    rw [List.length_append, List.length_cons, List.length_cons]
    omega
/-- what the names' acts are that a crash may do again -/
structure CF (s : DD) (X : Nat) : Prop where
  fit : NFit s.chs s.las
  mem : ∀ k l b, nrun (s.chs.take k) s.las l = some b → (∃ f ∈ fls s, f.b = b) ∧ isNm l = true
  inj : ∀ k l l' b, nrun (s.chs.take k) s.las l = some b → nrun (s.chs.take k) s.las l' = some b → l = l'
  sz : ∀ f ∈ fls s, f.lb.length ≤ X ∧ ∀ l ∈ f.lo, l.p + l.ds.length ≤ X
  all : (fls s).length * X ≤ 1099511627776
  len : (fls s).length ≤ 1000000
/-- what the loop of Crash keeps -/
structure CL (s : DD) (W w : World) (D L bn bc : Nat) (cs : List Int) (nL j : Nat) (m : NM) : Prop where
  fr : Fr (fun k => k = D) W w
  ch : CH w bn bc cs 1
  dk : At w D 85 ((dcl s).set 2 (.bool true))
  mp : ∃ n dm, n ≤ nL + j ∧ OM w L n dm ∧ MIs dm m
set_option maxRecDepth 100000 in
set_option maxHeartbeats 4000000 in
theorem Crash_gen (B D T X : Nat) (s : DD) (v : Value) (cs : List Int) (w : World) (hD : DOk w B D T s) (hS : Sint w v cs) (hv : ∀ g, v.ownBlock = some g → g < w.heap.size ∧ g ≠ D) (hF : CF s X) (hn0 : s.n0 + T + T ≤ 1000000) (hcl : cs.length ≤ 1152921504606846976) :
    Calls Tryz.prog 32 #[pv D, v] w fun e w' => ∃ D' s' fs gs ws w3, e = .returned (pv D') ∧ Fr (fun k => k = D) w w3 ∧ At w3 D 85 ((dcl s).set 2 (.bool true)) ∧ Laid w3 w' D' s.room fs s' ∧ (List.map Prod.fst gs).Nodup ∧ (∀ l, l ∈ List.map Prod.fst gs ↔ (nrun (s.chs.take (cz cs 0 s.chs.length)) s.las l).isSome = true) ∧ (∀ p ∈ gs, p.2 ∈ fls s ∧ nrun (s.chs.take (cz cs 0 s.chs.length)) s.las p.1 = some p.2.b) ∧ List.Perm ws (wls gs) ∧ List.Pairwise (fun x y : WL => x.l.tn ≤ y.l.tn) ws ∧ (fs.map fun g => (g.nm.data.toList, g.ds)) = lfs cs 1 gs ws := by
  have HD := Hid.of hD
  have HCF := Hid.of hF
  obtain ⟨aC, cC, hvC, haC, hcC⟩ : ∃ a c, s.vC = .slice a s.chs.length c ∧ (a = none → c = 0) ∧ s.chs.length ≤ c := by
    rcases hD.rowC.2 with ⟨e1, h0⟩ | ⟨g, cap, cur, e1, _, _, hc, _⟩
    · exact ⟨none, 0, by rw [e1, h0], fun _ => rfl, by omega⟩
    · exact ⟨_, cap, e1, (fun e => by cases e), hc⟩
  have HVC := Hid.of hvC
  have t2 := hD.disk.thaw 2
  have c2 := hD.disk.cell (i := 2) rfl
  have f1 : Fr (fun k => k = D) w (w.setCell ⟨D, 2, none⟩ (.bool true)) := (Fr.refl _ w).by (grown_at w D 2 (.bool true)) (fun k hk => .inl (Option.some.inj hk).symm)
  have a1 : At (w.setCell ⟨D, 2, none⟩ (.bool true)) D 85 ((dcl s).set 2 (.bool true)) := hD.disk.set 2 (.bool true)
  have s1 : Sint (w.setCell ⟨D, 2, none⟩ (.bool true)) v cs := hS.by (grown_at w D 2 (.bool true)) (fun k hk e => (hv k hk).2 (Option.some.inj e).symm)
  have HF1 := Hid.of f1
  have HA1 := Hid.of a1
  have HC1 := Hid.of (chooser_walk v cs _ s1 (fun g hg => by have := (hv g hg).1; have := f1.size; omega))
  have hch : s.chs.length ≤ 100000 := by have := hD.num; omega
  clear hD hF hS f1 a1 s1 hvC
  obtain ⟨w1, hw1⟩ : ∃ w1, w1 = w.setCell ⟨D, 2, none⟩ (.bool true) := ⟨_, rfl⟩
  rw [← hw1] at HF1 HA1 HC1
  go_enter Tryz.func32, Tryz.ntmps32
  go_wp2_with fail
  rw [← hw1]
  refine HC1.out.mono ?_
  rintro e w2 ⟨bn, bc, rfl, ch2, hbn, hbc, u2⟩
  dsimp only
  have HC2 := Hid.of ch2
  have HF2 := Hid.of (HF1.out.up u2)
  have HA2 := Hid.of (HA1.out.up u2)
  have HB2 := Hid.of (show w.heap.size ≤ bn ∧ w.heap.size ≤ bc from ⟨Nat.le_trans HF1.out.size hbn, Nat.le_trans HF1.out.size hbc⟩)
  have hDL : ¬ s.L = D := fun e => by
    have h1 := HD.out.disk.tg
    rw [← e, map_tg HD.out.mlas] at h1
    cases h1
  have HM2 := Hid.of (HF2.out.map HD.out.mlas hDL)
  have c4 := HA2.out.cell (i := 4) rfl
  have HCl := Hid.of (mapsClone_walk s.L s.nL s.dl w2 HM2.out)
  clear ch2 u2 hbn hbc HC1 HF1 HA1 hw1 hDL t2 c2
  go_wp2_with fail
  refine HCl.out.mono ?_
  rintro e w3 ⟨L, rfl, hL, o3, u3⟩
  dsimp only
  have HC3 := Hid.of (HC2.out.up u3)
  have HF3 := Hid.of (HF2.out.up u3)
  have HA3 := Hid.of (HA2.out.up u3)
  have HM3 := Hid.of o3
  have HL := Hid.of (show w.heap.size ≤ L ∧ bn < L ∧ bc < L from ⟨Nat.le_trans HF2.out.size hL, by have := lt_of_at HC2.out.nx; omega, by obtain ⟨_, h, _⟩ := HC2.out.cv; have := lt_of_at h; omega⟩)
  have hDbn : ¬ D = bn := fun e => by have := lt_of_at HD.out.disk; have := HB2.out.1; omega
  have hv5 := HVC.out
  clear hL o3 u3 HCl c4 HM2 HC2 HF2 HA2
  go_wp2
  refine wp_region_held_drew (S := fun w2 => Fr (fun k => k = bn) w3 w2) (by kernel_rfl) ((Fr.refl _ _).up (Up.refl _).drew) (fun hS => ?_)
  refine wpAnyH_take (i := 0) (oi := { dst := some 19, op := Go.Op.move (Go.Operand.tmp 0), type := 24, pos := "crash.go:15", after := #[], guard := none }) (v := pv D) rfl (by kernel_rfl) (by kernel_rfl) (by kernel_rfl) (fun _ _ _ h => h) (Or.inl ⟨by kernel_rfl, ?_⟩) hS ?_
  · intro w5 hSw
    clear hSw hS
    go_simp
  simp only [Act.put, List.setIfInBounds_toArray, List.set_cons_zero, List.set_cons_succ]
  refine wpAnyH_take (i := 1) (oi := { dst := some 20, op := Go.Op.nilCheck (Go.Operand.tmp 19), type := 0, pos := "crash.go:15", after := #[{ on := 0, ground := Go.Ground.data }], guard := none }) (v := pv D) rfl (by kernel_rfl) (by kernel_rfl) (by kernel_rfl) (fun _ _ _ h => h) (Or.inl ⟨by kernel_rfl, ?_⟩) hS ?_
  · intro w5 hSw
    clear hSw hS
    go_simp
  simp only [Act.put, List.setIfInBounds_toArray, List.set_cons_zero, List.set_cons_succ]
  refine wpAnyH_take (i := 2) (oi := { dst := some 21, op := Go.Op.fieldAddr 85 (Go.Operand.tmp 20) 5, type := 0, pos := "crash.go:15", after := #[{ on := 1, ground := Go.Ground.data }], guard := none }) (v := .pointer (some ⟨D, 5, none⟩)) rfl (by kernel_rfl) (by kernel_rfl) (by kernel_rfl) (fun _ _ _ h => h) (Or.inl ⟨by kernel_rfl, ?_⟩) hS ?_
  · intro w5 hSw
    clear hSw hS
    go_simp
  simp only [Act.put, List.setIfInBounds_toArray, List.set_cons_zero, List.set_cons_succ]
  refine wpAnyH_take (i := 3) (oi := { dst := some 22, op := Go.Op.load 82 (Go.Operand.tmp 21), type := 82, pos := "crash.go:15", after := #[{ on := 2, ground := Go.Ground.data }], guard := none }) (v := .slice aC s.chs.length cC) rfl (by kernel_rfl) (by kernel_rfl) (by kernel_rfl) (fun _ _ _ h => h) (Or.inl ⟨by kernel_rfl, ?_⟩) hS ?_
  · intro w5 hSw
    have h0 : w5.cell? ⟨D, 5, none⟩ = some (.slice aC s.chs.length cC) := ((hSw.at HA3.out hDbn).cell (i := 5) rfl).trans (congrArg some HVC.out)
    clear hSw hS
    go_simp
  simp only [Act.put, List.setIfInBounds_toArray, List.set_cons_zero, List.set_cons_succ]
  refine wpAnyH_take (i := 4) (oi := { dst := some 23, op := Go.Op.move (Go.Operand.tmp 5), type := 102, pos := "crash.go:15", after := #[], guard := none }) (v := chv bn bc) rfl (by kernel_rfl) (by kernel_rfl) (by kernel_rfl) (fun _ _ _ h => h) (Or.inl ⟨by kernel_rfl, ?_⟩) hS ?_
  · intro w5 hSw
    clear hSw hS
    go_simp
  simp only [Act.put, List.setIfInBounds_toArray, List.set_cons_zero, List.set_cons_succ]
  refine wpAnyH_take (i := 5) (oi := { dst := some 24, op := Go.Op.move (Go.Operand.tmp 0), type := 24, pos := "crash.go:15", after := #[], guard := none }) (v := pv D) rfl (by kernel_rfl) (by kernel_rfl) (by kernel_rfl) (fun _ _ _ h => h) (Or.inl ⟨by kernel_rfl, ?_⟩) hS ?_
  · intro w5 hSw
    clear hSw hS
    go_simp
  simp only [Act.put, List.setIfInBounds_toArray, List.set_cons_zero, List.set_cons_succ]
  refine wpAnyH_take (i := 6) (oi := { dst := some 25, op := Go.Op.nilCheck (Go.Operand.tmp 24), type := 0, pos := "crash.go:15", after := #[{ on := 5, ground := Go.Ground.data }], guard := none }) (v := pv D) rfl (by kernel_rfl) (by kernel_rfl) (by kernel_rfl) (fun _ _ _ h => h) (Or.inl ⟨by kernel_rfl, ?_⟩) hS ?_
  · intro w5 hSw
    clear hSw hS
    go_simp
  simp only [Act.put, List.setIfInBounds_toArray, List.set_cons_zero, List.set_cons_succ]
  refine wpAnyH_take (i := 7) (oi := { dst := some 26, op := Go.Op.fieldAddr 85 (Go.Operand.tmp 25) 5, type := 0, pos := "crash.go:15", after := #[{ on := 6, ground := Go.Ground.data }], guard := none }) (v := .pointer (some ⟨D, 5, none⟩)) rfl (by kernel_rfl) (by kernel_rfl) (by kernel_rfl) (fun _ _ _ h => h) (Or.inl ⟨by kernel_rfl, ?_⟩) hS ?_
  · intro w5 hSw
    clear hSw hS
    go_simp
  simp only [Act.put, List.setIfInBounds_toArray, List.set_cons_zero, List.set_cons_succ]
  refine wpAnyH_take (i := 8) (oi := { dst := some 27, op := Go.Op.load 82 (Go.Operand.tmp 26), type := 82, pos := "crash.go:15", after := #[{ on := 7, ground := Go.Ground.data }], guard := none }) (v := .slice aC s.chs.length cC) rfl (by kernel_rfl) (by kernel_rfl) (by kernel_rfl) (fun _ _ _ h => h) (Or.inl ⟨by kernel_rfl, ?_⟩) hS ?_
  · intro w5 hSw
    have h0 : w5.cell? ⟨D, 5, none⟩ = some (.slice aC s.chs.length cC) := ((hSw.at HA3.out hDbn).cell (i := 5) rfl).trans (congrArg some HVC.out)
    clear hSw hS
    go_simp
  simp only [Act.put, List.setIfInBounds_toArray, List.set_cons_zero, List.set_cons_succ]
  refine wpAnyH_take (i := 9) (oi := { dst := some 28, op := Go.Op.call { callee := Go.Callee.builtin Go.Builtin.len, args := #[Go.Operand.tmp 27], argTypes := #[82] }, type := 3, pos := "crash.go:15", after := #[{ on := 8, ground := Go.Ground.data }], guard := none }) (v := .int .i64 (s.chs.length : Int)) rfl (by kernel_rfl) (by kernel_rfl) (by kernel_rfl) (fun _ _ _ h => h) (Or.inl ⟨by kernel_rfl, ?_⟩) hS ?_
  · intro w5 hSw
    clear hSw hS
    go_simp
  simp only [Act.put, List.setIfInBounds_toArray, List.set_cons_zero, List.set_cons_succ]
  refine wpAnyH_take (i := 13) (oi := { dst := some 32, op := Go.Op.move (Go.Operand.const (Go.Value.int Go.IntKind.i64 0)), type := 3, pos := "crash.go:15", after := #[], guard := none }) (v := .int .i64 0) rfl (by kernel_rfl) (by kernel_rfl) (by kernel_rfl) (fun _ _ _ h => h) (Or.inl ⟨by kernel_rfl, ?_⟩) hS ?_
  · intro w5 hSw
    clear hSw hS
    go_simp
  simp only [Act.put, List.setIfInBounds_toArray, List.set_cons_zero, List.set_cons_succ]
  refine wpAnyH_ready (rs := [10]) (by kernel_rfl) (by simp) ?_
  refine AllReadyH.cons (o := { dst := some 29, op := Go.Op.call { callee := Go.Callee.value (Go.Operand.tmp 23), args := #[Go.Operand.tmp 28], argTypes := #[3] }, type := 3, pos := "crash.go:15", after := #[{ on := 4, ground := Go.Ground.data }, { on := 9, ground := Go.Ground.data }], guard := none }) rfl (fun K hK => ?_) AllReadyH.nil
  rw [if_pos (by kernel_rfl)]
  go_simp
  refine (chooser1_walk bn bc 0 s.chs.length cs w3.drew (HC3.out.up (Up.refl _).drew) (by omega) hcl).mono ?_
  rintro e w4 ⟨rfl, ch4, g4⟩
  dsimp only
  have HC4 := Hid.of ch4
  have HG4 := Hid.of g4
  clear ch4 g4
  refine hK.out _ _ (hS.by HG4.out (fun k hk => .inl (Option.some.inj hk).symm)) (fun hS => ?_)
  clear hK K
  have hkc := cz_le cs 0 s.chs.length
  obtain ⟨kz, hkz⟩ : ∃ kz, cz cs 0 s.chs.length = kz := ⟨_, rfl⟩
  rw [hkz] at hkc
  rw [hkz]
  refine wpAnyH_take (i := 11) (oi := { dst := some 30, op := Go.Op.slice 82 (Go.Operand.tmp 22) none (some (Go.Operand.tmp 29)) none, type := 82, pos := "crash.go:15", after := #[{ on := 3, ground := Go.Ground.data }, { on := 10, ground := Go.Ground.data }], guard := none }) (v := .slice aC kz cC) rfl (by kernel_rfl) (by kernel_rfl) (by kernel_rfl) (fun _ _ _ h => h) (Or.inl ⟨by kernel_rfl, ?_⟩) hS ?_
  · intro w5 hSw
    clear hSw hS
    exact exec_cut hkc hcC rfl rfl rfl haC
  simp only [Act.put, List.setIfInBounds_toArray, List.set_cons_zero, List.set_cons_succ]
  refine wpAnyH_take (i := 12) (oi := { dst := some 31, op := Go.Op.call { callee := Go.Callee.builtin Go.Builtin.len, args := #[Go.Operand.tmp 30], argTypes := #[82] }, type := 3, pos := "crash.go:15", after := #[{ on := 11, ground := Go.Ground.data }], guard := none }) (v := .int .i64 (kz : Int)) rfl (by kernel_rfl) (by kernel_rfl) (by kernel_rfl) (fun _ _ _ h => h) (Or.inl ⟨by kernel_rfl, ?_⟩) hS ?_
  · intro w5 hSw
    clear hSw hS
    go_simp
  simp only [Act.put, List.setIfInBounds_toArray, List.set_cons_zero, List.set_cons_succ]
  clear hS
  refine wpAnyH_done (by kernel_rfl) ?_ _
  have HL4 := Hid.of (show CL s w w4 D L bn bc cs s.nL 0 (nrun (s.chs.take 0) s.las) from
    ⟨(HF3.out.up (Up.refl _).drew).by HG4.out (fun k hk => .inr (by have := Option.some.inj hk; have := HB2.out.1; omega)), HC4.out, (HA3.out.up (Up.refl _).drew).by HG4.out (fun e => hDbn (Option.some.inj e).symm), s.nL, s.dl, Nat.le_refl _, (((Fr.refl (fun k => k = bn) w3).up (Up.refl _).drew).by HG4.out (fun k hk => .inl (Option.some.inj hk).symm)).map HM3.out (fun e => by have h1 := HL.out.2.1; have h2 : L = bn := e; omega), HD.out.isl⟩)
  clear HM3 HC3 HF3 HA3 HC4 HG4
  have hkl : kz ≤ 100000 := by omega
  go_wp2
  go_loopw [32] (fun v32 wq => ∃ j : Nat, v32 = .int .i64 (j : Int) ∧ j ≤ kz ∧ Hid (CL s w wq D L bn bc cs s.nL j (nrun (s.chs.take j) s.las))) (fun v32 _ => kz - (intOf v32).toNat)
  case atStart => exact ⟨0, rfl, by omega, HL4⟩
  case round =>
    obtain ⟨j, rfl, hj, hQj⟩ := hrel
    have HQ := Hid.of hQj.out
    clear hQj
    by_cases hjl : j < kz
    · have hjz : (j : Int) < (kz : Int) := by omega
      have hjc : j < s.chs.length := by omega
      have hrow := HQ.out.fr.own HD.out.rowC (fun g hg e => by
        have h1 := own_tg HD.out.rowC hg
        rw [show g = D from e, HD.out.disk.tg] at h1
        exact absurd h1 (by decide))
      obtain ⟨gC, rfl⟩ : ∃ gC, aC = some ⟨gC, 0, none⟩ := by
        rcases hrow.2 with ⟨_, h0⟩ | ⟨g, cap, cur, e1, _⟩
        · omega
        · rw [HVC.out] at e1
          injection e1 with e1
          exact ⟨g, e1⟩
      rw [HVC.out] at hrow
      have k5 := World.ownsRow.cells hrow rfl j (nav s.chs[j]) (by rw [List.getElem?_map, List.getElem?_eq_getElem hjc]; rfl)
      rw [Addr.add_lit, Nat.zero_add] at k5
      obtain ⟨n, dm, hnj, hMj, hIj⟩ := HQ.out.mp
      have hok := (HD.out.chk _ (List.getElem_mem hjc)).fr HQ.out.fr (fun b hb e => by
        have h1 := HD.out.chk _ (List.getElem_mem hjc)
        have h2 := HD.out.disk.tg
        rw [← show b = D from e] at h2
        unfold nbs at hb
        by_cases hk : (s.chs[j]).kd = 1
        · rw [if_pos hk] at hb
          rw [List.mem_singleton.1 hb, h1.b2.tg] at h2
          exact absurd h2 (by decide)
        · rw [if_neg hk] at hb
          rcases List.mem_cons.1 hb with hb | hb
          · rw [hb, (h1.b1 hk).tg] at h2
            split at h2 <;> exact absurd h2 (by decide)
          · rw [List.mem_singleton.1 hb, h1.b2.tg] at h2
            exact absurd h2 (by decide))
      have HAg := Hid.of (fun (w' : World) (u : Up wr w') => again_gen (hok.up u) (HCF.out.fit j hjc) (hMj.up u) hIj (by simp only [maxLen]; have := HD.out.num; omega))
      obtain ⟨fc, caps, hnav, hfc, _⟩ := HAg.out wr (Up.refl _)
      have HCall := Hid.of (fun (w' : World) (u : Up wr w') => show Calls Tryz.prog fc (#[.map (some L)] ++ caps) w' (fun e w'' => e = .returned (.tuple #[]) ∧ CL s w w'' D L bn bc cs s.nL (j + 1) (nrun (s.chs.take (j + 1)) s.las)) from by
        obtain ⟨f', caps', h', _, hc⟩ := HAg.out w' u
        rw [hnav] at h'
        injection h' with e1 _ e2
        injection e1 with e1
        subst e1 e2
        refine hc.mono ?_
        rintro e w'' ⟨rfl, n', dm', hn', o6, hI6, g6⟩
        refine ⟨rfl, (HQ.out.fr.up u).by g6 (fun k hk => .inr (by have := Option.some.inj hk; have := HL.out.1; omega)), (HQ.out.ch.up u).by g6 (N := L) (fun k hk => by have := Option.some.inj hk; omega) HL.out.2.1 HL.out.2.2, (HQ.out.dk.up u).by g6 (fun e => by have := Option.some.inj e; have := lt_of_at HD.out.disk; have := HL.out.1; omega), n', dm', by omega, o6, ?_⟩
        rw [List.take_succ_eq_append_getElem hjc, nrun_snoc]
        exact hI6)
      rw [hnav] at k5
      clear hrow hok hMj hIj HAg hnav hnj
      rcases hfc with ⟨rfl, rfl⟩ | ⟨rfl, rfl⟩ | ⟨rfl, rfl⟩
      all_goals
        go_wp2_with fail
        refine (HCall.out _ ((Up.refl wr).alloc _)).mono ?_
        rintro e w6 ⟨rfl, h6⟩
        dsimp only
        have HQ6 := Hid.of h6
        clear h6 HCall
        go_wp2
        go_roundw
        all_goals first
          | exact ⟨j + 1, by go_num, by omega, HQ6⟩
          | (simp [intOf]; omega)
    · have hjz : ¬ (j : Int) < (kz : Int) := by omega
      have hjk : j = kz := by omega
      subst hjk
      obtain ⟨n, dm, hnj, hMj, hIj⟩ := HQ.out.mp
      have HLf := Hid.of (leftFiles_walk B L n bn bc 1 dm (nrun (s.chs.take j) s.las) (fls s) cs wr.drew (hMj.up (Up.refl _).drew) hIj (fun f hf => ((HD.out.fok f hf).fr HQ.out.fr (fun b hb e => HD.out.fout (HD.out.fok f hf) hb (.inl e))).up (Up.refl _).drew) (fun l b hb => (HCF.out.mem j l b hb).1) (fun f hf => (HD.out.sz f hf).2.1) (by have := HD.out.num; omega) (by have := HD.out.num; omega) (fun l l' b => HCF.out.inj j l l' b) (HQ.out.ch.up (Up.refl _).drew) (lt_of_at (HQ.out.ch.up (Up.refl _).drew).nx) (by obtain ⟨_, h, _⟩ := (HQ.out.ch.up (Up.refl _).drew).cv; exact lt_of_at h) (fun f hf hb => by have := (HD.out.fok f hf).lt _ hb; have := HB2.out.1; omega) hcl)
      clear hMj hIj hnj
      go_wp2
      refine wp_region_held_drew (S := fun w2 => Fr (fun k => k = bn) wr w2) (by kernel_rfl) ((Fr.refl _ _).up (Up.refl _).drew) (fun hS => ?_)
      refine wpAnyH_take (i := 0) (oi := { dst := some 41, op := Go.Op.move (Go.Operand.tmp 0), type := 24, pos := "crash.go:18", after := #[], guard := none }) (v := pv D) rfl (by kernel_rfl) (by kernel_rfl) (by kernel_rfl) (fun _ _ _ h => h) (Or.inl ⟨by kernel_rfl, ?_⟩) hS ?_
      · intro w5 hSw
        clear hSw hS
        go_simp
      simp only [Act.put, List.setIfInBounds_toArray, List.set_cons_zero, List.set_cons_succ]
      refine wpAnyH_take (i := 1) (oi := { dst := some 42, op := Go.Op.nilCheck (Go.Operand.tmp 41), type := 0, pos := "crash.go:18", after := #[{ on := 0, ground := Go.Ground.data }], guard := none }) (v := pv D) rfl (by kernel_rfl) (by kernel_rfl) (by kernel_rfl) (fun _ _ _ h => h) (Or.inl ⟨by kernel_rfl, ?_⟩) hS ?_
      · intro w5 hSw
        clear hSw hS
        go_simp
      simp only [Act.put, List.setIfInBounds_toArray, List.set_cons_zero, List.set_cons_succ]
      refine wpAnyH_take (i := 2) (oi := { dst := some 43, op := Go.Op.fieldAddr 85 (Go.Operand.tmp 42) 0, type := 0, pos := "crash.go:18", after := #[{ on := 1, ground := Go.Ground.data }], guard := none }) (v := .pointer (some ⟨D, 0, none⟩)) rfl (by kernel_rfl) (by kernel_rfl) (by kernel_rfl) (fun _ _ _ h => h) (Or.inl ⟨by kernel_rfl, ?_⟩) hS ?_
      · intro w5 hSw
        clear hSw hS
        go_simp
      simp only [Act.put, List.setIfInBounds_toArray, List.set_cons_zero, List.set_cons_succ]
      refine wpAnyH_take (i := 3) (oi := { dst := some 44, op := Go.Op.load 2 (Go.Operand.tmp 43), type := 2, pos := "crash.go:18", after := #[{ on := 2, ground := Go.Ground.data }], guard := none }) (v := .int .i64 (s.room : Int)) rfl (by kernel_rfl) (by kernel_rfl) (by kernel_rfl) (fun _ _ _ h => h) (Or.inl ⟨by kernel_rfl, ?_⟩) hS ?_
      · intro w5 hSw
        have h0 := (hSw.at HQ.out.dk hDbn).cell (i := 0) rfl
        clear hSw hS
        go_simp
      simp only [Act.put, List.setIfInBounds_toArray, List.set_cons_zero, List.set_cons_succ]
      refine wpAnyH_take (i := 4) (oi := { dst := some 45, op := Go.Op.move (Go.Operand.tmp 6), type := 81, pos := "crash.go:18", after := #[], guard := none }) (v := .map (some L)) rfl (by kernel_rfl) (by kernel_rfl) (by kernel_rfl) (fun _ _ _ h => h) (Or.inl ⟨by kernel_rfl, ?_⟩) hS ?_
      · intro w5 hSw
        clear hSw hS
        go_simp
      simp only [Act.put, List.setIfInBounds_toArray, List.set_cons_zero, List.set_cons_succ]
      refine wpAnyH_take (i := 5) (oi := { dst := some 46, op := Go.Op.move (Go.Operand.tmp 5), type := 102, pos := "crash.go:18", after := #[], guard := none }) (v := chv bn bc) rfl (by kernel_rfl) (by kernel_rfl) (by kernel_rfl) (fun _ _ _ h => h) (Or.inl ⟨by kernel_rfl, ?_⟩) hS ?_
      · intro w5 hSw
        clear hSw hS
        go_simp
      simp only [Act.put, List.setIfInBounds_toArray, List.set_cons_zero, List.set_cons_succ]
      refine wpAnyH_ready (rs := [6]) (by kernel_rfl) (by simp) ?_
      refine AllReadyH.cons (o := { dst := some 47, op := Go.Op.call { callee := Go.Callee.value (Go.Operand.func 65), args := #[Go.Operand.tmp 45, Go.Operand.tmp 46], argTypes := #[81, 102] }, type := 32, pos := "crash.go:18", after := #[{ on := 4, ground := Go.Ground.data }, { on := 5, ground := Go.Ground.data }], guard := none }) rfl (fun K hK => ?_) AllReadyH.nil
      rw [if_pos (by kernel_rfl)]
      go_simp
      refine HLf.out.mono ?_
      rintro e w5 ⟨a, fs, c, gs, ws, rfl, o5, f5, q1, q2, q3, q4, q5, q6⟩
      dsimp only
      have hgl : gs.length ≤ (fls s).length := by
        have h1 := len_sub (ys := (fls s).map (·.b)) (nodup_b q3 q1 (HCF.out.inj j)) (fun x hx => by
          obtain ⟨p, hp, rfl⟩ := List.mem_map.1 hx
          exact List.mem_map.2 ⟨p.2, (q3 p hp).1, rfl⟩)
        rwa [List.length_map, List.length_map] at h1
      have hfl : fs.length = gs.length := by have := congrArg List.length q6; rwa [List.length_map, lfs_len] at this
      have hnm : (fs.map fun g => g.nm.data.toList) = gs.map Prod.fst := by
        rw [← lfs_fst cs 1 gs ws, ← q6, List.map_map]
        rfl
      have hw : ∀ x ∈ ws, x.l.p + x.l.ds.length ≤ X := fun x hx => by
        obtain ⟨hi, hl⟩ := wls_mem (q4.mem_iff.1 hx)
        exact (HCF.out.sz _ (q3 _ (List.getElem_mem hi)).1).2 _ hl
      have hsum : (fs.map fun g => g.ds.length).sum ≤ 1099511627776 := by
        have h1 := sum_leX (X := X) (fs.map fun g => g.ds.length) (fun x hx => by
          obtain ⟨g, hg, rfl⟩ := List.mem_map.1 hx
          exact lfs_mem (cs := cs) (k0 := 1) (fun p hp => (HCF.out.sz _ (q3 p hp).1).1) hw (g.nm.data.toList, g.ds) (by rw [← q6]; exact List.mem_map.2 ⟨g, hg, rfl⟩))
        rw [List.length_map] at h1
        have h2 := Nat.mul_le_mul_right X (show fs.length ≤ (fls s).length by omega)
        have := HCF.out.all
        omega
      have hf5 : Fr (fun k => k = D) w w5 := (HQ.out.fr.up (Up.refl _).drew).trans f5 (fun g hg => .inr (by have h1 : g = bn := hg; have := HB2.out.1; omega))
      have HLa := Hid.of (laid_gen s.room a fs c w5 o5.fsl (fun g hg => by
          have h1 : g.nm.data.toList ∈ gs.map Prod.fst := by rw [← hnm]; exact List.mem_map.2 ⟨g, hg, rfl⟩
          obtain ⟨b, hb⟩ := Option.isSome_iff_exists.1 ((q2 _).1 h1)
          exact (HCF.out.mem j _ b hb).2) (by rw [hnm]; exact q1) hsum (by have := HCF.out.len; omega) (by have := HD.out.num; omega) (ml_fr HD.out.ml hf5 HD.out.hB HD.out.low.1 (fun e => by have := HD.out.low; have e : 0 = D := e; omega)) (by have := HD.out.low.1; have := HD.out.hB; have := hf5.size; omega))
      have HQs := Hid.of (And.intro hf5 (And.intro q1 (And.intro q2 (And.intro q3 (And.intro q4 (And.intro q5 q6))))))
      have HF5 := Hid.of f5
      clear o5 f5 q1 q2 q3 q4 q5 q6 hgl hfl hnm hw hsum hf5 HLf
      refine hK.out _ _ (((Fr.refl _ _).up (Up.refl _).drew).trans HF5.out (fun g hg => .inl hg)) (fun hS => ?_)
      clear hK K
      refine wpAnyH_ready (rs := [7]) (by kernel_rfl) (by simp) ?_
      refine AllReadyH.cons (o := { dst := some 48, op := Go.Op.call { callee := Go.Callee.value (Go.Operand.func 64), args := #[Go.Operand.tmp 44, Go.Operand.tmp 47], argTypes := #[2, 32] }, type := 24, pos := "crash.go:18", after := #[{ on := 3, ground := Go.Ground.data }, { on := 6, ground := Go.Ground.data }, { on := 6, ground := Go.Ground.chain }], guard := none }) rfl (fun K hK => ?_) AllReadyH.nil
      rw [if_pos (by kernel_rfl)]
      go_simp
      refine HLa.out.mono ?_
      rintro e w6 ⟨D', s', rfl, hLd⟩
      dsimp only
      have HLd := Hid.of hLd
      clear hLd HLa
      refine hK.out _ _ (hS.up HLd.out.up) (fun hS => ?_)
      clear hK K
      refine wpAnyH_take (i := 8) (oi := { dst := some 4, op := Go.Op.assign (Go.Operand.tmp 48), type := 24, pos := "crash.go:18", after := #[{ on := 7, ground := Go.Ground.data }, { on := 7, ground := Go.Ground.chain }, { on := 0, ground := Go.Ground.phase }, { on := 1, ground := Go.Ground.phase }, { on := 2, ground := Go.Ground.phase }, { on := 3, ground := Go.Ground.phase }, { on := 4, ground := Go.Ground.phase }, { on := 5, ground := Go.Ground.phase }, { on := 6, ground := Go.Ground.phase }, { on := 7, ground := Go.Ground.phase }], guard := none }) (v := pv D') rfl (by kernel_rfl) (by kernel_rfl) (by kernel_rfl) (fun _ _ _ h => h) (Or.inl ⟨by kernel_rfl, ?_⟩) hS ?_
      · intro w5 hSw
        clear hSw hS
        go_simp
      simp only [Act.put, List.setIfInBounds_toArray, List.set_cons_zero, List.set_cons_succ]
      clear hS
      refine wpAnyH_done (by kernel_rfl) ?_ _
      go_wp2
      go_ret
      rw [hkz]
      obtain ⟨h1, h2, h3, h4, h5, h6, h7⟩ := HQs.out
      exact ⟨D', s', fs, gs, ws, w5, rfl, h1, HF5.out.at (HQ.out.dk.up (Up.refl _).drew) hDbn, HLd.out, h2, h3, h4, h5, h6, h7⟩
end Go.Proofs.YtaibjeehjhlicaaGreatDoor
