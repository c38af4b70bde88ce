import Derived.Test.YtepakbghhnkcfaaDoorJb
import Derived.Test.YtepakbghhnkcfaaDoorGn
namespace Go.Proofs.YtepakbghhnkcfaaDoor
open Go.RowKit Go.Shelf TextNum ModNum
theorem dat_leX {cs : List Int} {k0 i X : Nat} {lb : List UInt8} {ws : List WL} (h : lb.length ≤ X) (hw : ∀ x ∈ ws, x.l.p + x.l.ds.length ≤ X) : (dat cs k0 i lb ws).length ≤ X := by
  unfold dat
  have : ∀ (l : List (WL × Nat)) (acc : List UInt8), (∀ x ∈ l, x.1.l.p + x.1.l.ds.length ≤ X) → acc.length ≤ X → (l.foldl (fun acc x => if x.1.i = i then wr acc x.1.l.p (x.1.l.ds.take (cz cs x.2 x.1.l.ds.length)) else acc) acc).length ≤ X := by
    intro l
    induction l with
    | nil => exact fun acc _ h => h
    | cons x r ih =>
      intro acc hx ha
      rw [List.foldl_cons]
      refine ih _ (fun y hy => hx y (List.mem_cons_of_mem _ hy)) ?_
      split
      · refine wr_le ha ?_
        have := hx x List.mem_cons_self
        rw [List.length_take]
        omega
      · exact ha
  exact this _ _ (fun x hx => hw x.1 (List.fst_mem_of_mem_zipIdx hx)) h
theorem lfs_fst (cs : List Int) (k0 : Nat) (gs : LG) (ws : List WL) : (lfs cs k0 gs ws).map Prod.fst = gs.map Prod.fst := by
  refine List.ext_getElem? (fun i => ?_)
  rw [List.getElem?_map, List.getElem?_map]
  rcases Nat.lt_or_ge i gs.length with h | h
  · rw [lfs_get h, List.getElem?_eq_getElem h]
    rfl
  · rw [List.getElem?_eq_none (by rw [lfs_len]; exact h), List.getElem?_eq_none h]
    rfl
theorem sum_leX {X : Nat} : ∀ (l : List Nat), (∀ x ∈ l, x ≤ X) → l.sum ≤ l.length * X
  | [], _ => by simp
  | a :: r, h => by
    have h1 := sum_leX r (fun x hx => h x (List.mem_cons_of_mem _ hx))
    have h2 := h a List.mem_cons_self
    rw [List.sum_cons, List.length_cons, Nat.add_mul]
    omega
theorem lfs_mem {cs : List Int} {k0 X : Nat} {gs : LG} {ws : List WL} (h1 : ∀ p ∈ gs, p.2.lb.length ≤ X) (h2 : ∀ x ∈ ws, x.l.p + x.l.ds.length ≤ X) : ∀ q ∈ lfs cs k0 gs ws, q.2.length ≤ X := fun q hq => by
  obtain ⟨i, hi, e⟩ := List.getElem_of_mem hq
  rw [lfs_len] at hi
  have h3 := lfs_get (cs := cs) (k0 := k0) (ws := ws) hi
  rw [List.getElem?_eq_getElem (by rw [lfs_len]; exact hi), e] at h3
  injection h3 with h3
  rw [h3]
  exact dat_leX (h1 _ (List.getElem_mem hi)) h2
theorem len_sub : ∀ {xs ys : List Nat}, xs.Nodup → (∀ x ∈ xs, x ∈ ys) → xs.length ≤ ys.length
  | [], _, _, _ => Nat.zero_le _
  | a :: r, ys, nd, h => by
    obtain ⟨us, vs, rfl⟩ := List.append_of_mem (h a List.mem_cons_self)
    rw [List.nodup_cons] at nd
    have := len_sub (ys := us ++ vs) nd.2 (fun x hx => by
      rcases List.mem_append.1 (h x (List.mem_cons_of_mem _ hx)) with h1 | h1
      · exact List.mem_append_left _ h1
      · rcases List.mem_cons.1 h1 with rfl | h1
        · exact absurd hx nd.1
        · exact List.mem_append_right _ h1)
    rw [List.length_append] at this
    rw [List.length_append, List.length_cons, List.length_cons]
    omega
/-- what the names' acts are that a crash may do again -/
structure CF (s : DD) (X : Nat) : Prop where
  fit : NFit s.chs s.las
  mem : ∀ k l b, nrun (s.chs.take k) s.las l = some b → (∃ f ∈ fls s, f.b = b) ∧ isNm l = true
  inj : ∀ k l l' b, nrun (s.chs.take k) s.las l = some b → nrun (s.chs.take k) s.las l' = some b → l = l'
  sz : ∀ f ∈ fls s, f.lb.length ≤ X ∧ ∀ l ∈ f.lo, l.p + l.ds.length ≤ X
  all : (fls s).length * X ≤ 1099511627776
  len : (fls s).length ≤ 1000000
/-- what the loop of Crash keeps -/
structure CL (s : DD) (W w : World) (D L bn bc : Nat) (cs : List Int) (nL j : Nat) (m : NM) : Prop where
  fr : Fr (fun k => k = D) W w
  ch : CH w bn bc cs 1
  dk : At w D 82 ((dcl s).set 2 (.bool true))
  mp : ∃ n dm, n ≤ nL + j ∧ OM w L n dm ∧ MIs dm m
set_option maxRecDepth 100000 in
set_option maxHeartbeats 4000000 in
theorem Crash_gen (B D T X : Nat) (s : DD) (v : Value) (cs : List Int) (w : World) (hD : DOk w B D T s) (hS : Sint w v cs) (hv : ∀ g, v.ownBlock = some g → g < w.heap.size ∧ g ≠ D) (hF : CF s X) (hn0 : s.n0 + T + T ≤ 1000000) (hcl : cs.length ≤ 1152921504606846976) :
    Calls Tryd.prog 52 #[pv D, v] w fun e w' => ∃ D' s' fs gs ws w3, e = .returned (pv D') ∧ Fr (fun k => k = D) w w3 ∧ At w3 D 82 ((dcl s).set 2 (.bool true)) ∧ Laid w3 w' D' s.room fs s' ∧ (List.map Prod.fst gs).Nodup ∧ (∀ l, l ∈ List.map Prod.fst gs ↔ (nrun (s.chs.take (cz cs 0 s.chs.length)) s.las l).isSome = true) ∧ (∀ p ∈ gs, p.2 ∈ fls s ∧ nrun (s.chs.take (cz cs 0 s.chs.length)) s.las p.1 = some p.2.b) ∧ List.Perm ws (wls gs) ∧ List.Pairwise (fun x y : WL => x.l.tn ≤ y.l.tn) ws ∧ (fs.map fun g => (g.nm.data.toList, g.ds)) = lfs cs 1 gs ws := by
  have HD := Hid.of hD
  have HCF := Hid.of hF
  obtain ⟨aC, cC, hvC, haC, hcC⟩ : ∃ a c, s.vC = .slice a s.chs.length c ∧ (a = none → c = 0) ∧ s.chs.length ≤ c := by
    rcases hD.rowC.2 with ⟨e1, h0⟩ | ⟨g, cap, cur, e1, _, _, hc, _⟩
    · exact ⟨none, 0, by rw [e1, h0], fun _ => rfl, by omega⟩
    · exact ⟨_, cap, e1, (fun e => by cases e), hc⟩
  have HVC := Hid.of hvC
  have t2 := hD.disk.thaw 2
  have c2 := hD.disk.cell (i := 2) rfl
  have f1 : Fr (fun k => k = D) w (w.setCell ⟨D, 2, none⟩ (.bool true)) := (Fr.refl _ w).by (grown_at w D 2 (.bool true)) (fun k hk => .inl (Option.some.inj hk).symm)
  have a1 : At (w.setCell ⟨D, 2, none⟩ (.bool true)) D 82 ((dcl s).set 2 (.bool true)) := hD.disk.set 2 (.bool true)
  have s1 : Sint (w.setCell ⟨D, 2, none⟩ (.bool true)) v cs := hS.by (grown_at w D 2 (.bool true)) (fun k hk e => (hv k hk).2 (Option.some.inj e).symm)
  have HF1 := Hid.of f1
  have HA1 := Hid.of a1
  have HC1 := Hid.of (chooser_walk v cs _ s1 (fun g hg => by have := (hv g hg).1; have := f1.size; omega))
  have hch : s.chs.length ≤ 100000 := by have := hD.num; omega
  clear hD hF hS f1 a1 s1 hvC
  obtain ⟨w1, hw1⟩ : ∃ w1, w1 = w.setCell ⟨D, 2, none⟩ (.bool true) := ⟨_, rfl⟩
  rw [← hw1] at HF1 HA1 HC1
  go_enter Tryd.func52, Tryd.ntmps52
  go_wp2_with fail
  rw [← hw1]
  refine HC1.out.mono ?_
  rintro e w2 ⟨bn, bc, rfl, ch2, hbn, hbc, u2⟩
  dsimp only
  have HC2 := Hid.of ch2
  have HF2 := Hid.of (HF1.out.up u2)
  have HA2 := Hid.of (HA1.out.up u2)
  have HB2 := Hid.of (show w.heap.size ≤ bn ∧ w.heap.size ≤ bc from ⟨Nat.le_trans HF1.out.size hbn, Nat.le_trans HF1.out.size hbc⟩)
  have hDL : ¬ s.L = D := fun e => by
    have h1 := HD.out.disk.tg
    rw [← e, map_tg HD.out.mlas] at h1
    cases h1
  have HM2 := Hid.of (HF2.out.map HD.out.mlas hDL)
  have c4 := HA2.out.cell (i := 4) rfl
  have HCl := Hid.of (mapsClone_walk s.L s.nL s.dl w2 HM2.out)
  clear ch2 u2 hbn hbc HC1 HF1 HA1 hw1 hDL t2 c2
  go_wp2_with fail
  refine HCl.out.mono ?_
  rintro e w3 ⟨L, rfl, hL, o3, u3⟩
  dsimp only
  have HC3 := Hid.of (HC2.out.up u3)
  have HF3 := Hid.of (HF2.out.up u3)
  have HA3 := Hid.of (HA2.out.up u3)
  have HM3 := Hid.of o3
  have HL := Hid.of (show w.heap.size ≤ L ∧ bn < L ∧ bc < L from ⟨Nat.le_trans HF2.out.size hL, by have := lt_of_at HC2.out.nx; omega, by obtain ⟨_, h, _⟩ := HC2.out.cv; have := lt_of_at h; omega⟩)
  have hDbn : ¬ D = bn := fun e => by have := lt_of_at HD.out.disk; have := HB2.out.1; omega
  have hv5 := HVC.out
  clear hL o3 u3 HCl c4 HM2 HC2 HF2 HA2
  go_wp2
  refine wp_region_held_drew (S := fun w2 => Fr (fun k => k = bn) w3 w2) (by kernel_rfl) ((Fr.refl _ _).up (Up.refl _).drew) (fun hS => ?_)
  refine wpAnyH_take (i := 0) (oi := { dst := some 19, op := Go.Op.move (Go.Operand.tmp 0), type := 24, pos := "crash.go:15", after := #[], guard := none }) (v := pv D) rfl (by kernel_rfl) (by kernel_rfl) (by kernel_rfl) (fun _ _ _ h => h) (Or.inl ⟨by kernel_rfl, ?_⟩) hS ?_
  · intro w5 hSw
    clear hSw hS
    go_simp
  simp only [Act.put, List.setIfInBounds_toArray, List.set_cons_zero, List.set_cons_succ]
  refine wpAnyH_take (i := 1) (oi := { dst := some 20, op := Go.Op.nilCheck (Go.Operand.tmp 19), type := 0, pos := "crash.go:15", after := #[{ on := 0, ground := Go.Ground.data }], guard := none }) (v := pv D) rfl (by kernel_rfl) (by kernel_rfl) (by kernel_rfl) (fun _ _ _ h => h) (Or.inl ⟨by kernel_rfl, ?_⟩) hS ?_
  · intro w5 hSw
    clear hSw hS
    go_simp
  simp only [Act.put, List.setIfInBounds_toArray, List.set_cons_zero, List.set_cons_succ]
  refine wpAnyH_take (i := 2) (oi := { dst := some 21, op := Go.Op.fieldAddr 82 (Go.Operand.tmp 20) 5, type := 0, pos := "crash.go:15", after := #[{ on := 1, ground := Go.Ground.data }], guard := none }) (v := .pointer (some ⟨D, 5, none⟩)) rfl (by kernel_rfl) (by kernel_rfl) (by kernel_rfl) (fun _ _ _ h => h) (Or.inl ⟨by kernel_rfl, ?_⟩) hS ?_
  · intro w5 hSw
    clear hSw hS
    go_simp
  simp only [Act.put, List.setIfInBounds_toArray, List.set_cons_zero, List.set_cons_succ]
  refine wpAnyH_take (i := 3) (oi := { dst := some 22, op := Go.Op.load 79 (Go.Operand.tmp 21), type := 79, pos := "crash.go:15", after := #[{ on := 2, ground := Go.Ground.data }], guard := none }) (v := .slice aC s.chs.length cC) rfl (by kernel_rfl) (by kernel_rfl) (by kernel_rfl) (fun _ _ _ h => h) (Or.inl ⟨by kernel_rfl, ?_⟩) hS ?_
  · intro w5 hSw
    have h0 : w5.cell? ⟨D, 5, none⟩ = some (.slice aC s.chs.length cC) := ((hSw.at HA3.out hDbn).cell (i := 5) rfl).trans (congrArg some HVC.out)
    clear hSw hS
    go_simp
  simp only [Act.put, List.setIfInBounds_toArray, List.set_cons_zero, List.set_cons_succ]
  refine wpAnyH_take (i := 4) (oi := { dst := some 23, op := Go.Op.move (Go.Operand.tmp 5), type := 106, pos := "crash.go:15", after := #[], guard := none }) (v := chv bn bc) rfl (by kernel_rfl) (by kernel_rfl) (by kernel_rfl) (fun _ _ _ h => h) (Or.inl ⟨by kernel_rfl, ?_⟩) hS ?_
  · intro w5 hSw
    clear hSw hS
    go_simp
  simp only [Act.put, List.setIfInBounds_toArray, List.set_cons_zero, List.set_cons_succ]
  refine wpAnyH_take (i := 5) (oi := { dst := some 24, op := Go.Op.move (Go.Operand.tmp 0), type := 24, pos := "crash.go:15", after := #[], guard := none }) (v := pv D) rfl (by kernel_rfl) (by kernel_rfl) (by kernel_rfl) (fun _ _ _ h => h) (Or.inl ⟨by kernel_rfl, ?_⟩) hS ?_
  · intro w5 hSw
    clear hSw hS
    go_simp
  simp only [Act.put, List.setIfInBounds_toArray, List.set_cons_zero, List.set_cons_succ]
  refine wpAnyH_take (i := 6) (oi := { dst := some 25, op := Go.Op.nilCheck (Go.Operand.tmp 24), type := 0, pos := "crash.go:15", after := #[{ on := 5, ground := Go.Ground.data }], guard := none }) (v := pv D) rfl (by kernel_rfl) (by kernel_rfl) (by kernel_rfl) (fun _ _ _ h => h) (Or.inl ⟨by kernel_rfl, ?_⟩) hS ?_
  · intro w5 hSw
    clear hSw hS
    go_simp
  simp only [Act.put, List.setIfInBounds_toArray, List.set_cons_zero, List.set_cons_succ]
  refine wpAnyH_take (i := 7) (oi := { dst := some 26, op := Go.Op.fieldAddr 82 (Go.Operand.tmp 25) 5, type := 0, pos := "crash.go:15", after := #[{ on := 6, ground := Go.Ground.data }], guard := none }) (v := .pointer (some ⟨D, 5, none⟩)) rfl (by kernel_rfl) (by kernel_rfl) (by kernel_rfl) (fun _ _ _ h => h) (Or.inl ⟨by kernel_rfl, ?_⟩) hS ?_
  · intro w5 hSw
    clear hSw hS
    go_simp
  simp only [Act.put, List.setIfInBounds_toArray, List.set_cons_zero, List.set_cons_succ]
  refine wpAnyH_take (i := 8) (oi := { dst := some 27, op := Go.Op.load 79 (Go.Operand.tmp 26), type := 79, pos := "crash.go:15", after := #[{ on := 7, ground := Go.Ground.data }], guard := none }) (v := .slice aC s.chs.length cC) rfl (by kernel_rfl) (by kernel_rfl) (by kernel_rfl) (fun _ _ _ h => h) (Or.inl ⟨by kernel_rfl, ?_⟩) hS ?_
  · intro w5 hSw
    have h0 : w5.cell? ⟨D, 5, none⟩ = some (.slice aC s.chs.length cC) := ((hSw.at HA3.out hDbn).cell (i := 5) rfl).trans (congrArg some HVC.out)
    clear hSw hS
    go_simp
  simp only [Act.put, List.setIfInBounds_toArray, List.set_cons_zero, List.set_cons_succ]
  refine wpAnyH_take (i := 9) (oi := { dst := some 28, op := Go.Op.call { callee := Go.Callee.builtin Go.Builtin.len, args := #[Go.Operand.tmp 27], argTypes := #[79] }, type := 3, pos := "crash.go:15", after := #[{ on := 8, ground := Go.Ground.data }], guard := none }) (v := .int .i64 (s.chs.length : Int)) rfl (by kernel_rfl) (by kernel_rfl) (by kernel_rfl) (fun _ _ _ h => h) (Or.inl ⟨by kernel_rfl, ?_⟩) hS ?_
  · intro w5 hSw
    clear hSw hS
    go_simp
  simp only [Act.put, List.setIfInBounds_toArray, List.set_cons_zero, List.set_cons_succ]
  refine wpAnyH_take (i := 13) (oi := { dst := some 32, op := Go.Op.move (Go.Operand.const (Go.Value.int Go.IntKind.i64 0)), type := 3, pos := "crash.go:15", after := #[], guard := none }) (v := .int .i64 0) rfl (by kernel_rfl) (by kernel_rfl) (by kernel_rfl) (fun _ _ _ h => h) (Or.inl ⟨by kernel_rfl, ?_⟩) hS ?_
  · intro w5 hSw
    clear hSw hS
    go_simp
  simp only [Act.put, List.setIfInBounds_toArray, List.set_cons_zero, List.set_cons_succ]
  refine wpAnyH_ready (rs := [10]) (by kernel_rfl) (by simp) ?_
  refine AllReadyH.cons (o := { dst := some 29, op := Go.Op.call { callee := Go.Callee.value (Go.Operand.tmp 23), args := #[Go.Operand.tmp 28], argTypes := #[3] }, type := 3, pos := "crash.go:15", after := #[{ on := 4, ground := Go.Ground.data }, { on := 9, ground := Go.Ground.data }], guard := none }) rfl (fun K hK => ?_) AllReadyH.nil
  rw [if_pos (by kernel_rfl)]
  go_simp
  refine (chooser1_walk bn bc 0 s.chs.length cs w3.drew (HC3.out.up (Up.refl _).drew) (by omega) hcl).mono ?_
  rintro e w4 ⟨rfl, ch4, g4⟩
  dsimp only
  have HC4 := Hid.of ch4
  have HG4 := Hid.of g4
  clear ch4 g4
  refine hK.out _ _ (hS.by HG4.out (fun k hk => .inl (Option.some.inj hk).symm)) (fun hS => ?_)
  clear hK K
  have hkc := cz_le cs 0 s.chs.length
  obtain ⟨kz, hkz⟩ : ∃ kz, cz cs 0 s.chs.length = kz := ⟨_, rfl⟩
  rw [hkz] at hkc
  rw [hkz]
  refine wpAnyH_take (i := 11) (oi := { dst := some 30, op := Go.Op.slice 79 (Go.Operand.tmp 22) none (some (Go.Operand.tmp 29)) none, type := 79, pos := "crash.go:15", after := #[{ on := 3, ground := Go.Ground.data }, { on := 10, ground := Go.Ground.data }], guard := none }) (v := .slice aC kz cC) rfl (by kernel_rfl) (by kernel_rfl) (by kernel_rfl) (fun _ _ _ h => h) (Or.inl ⟨by kernel_rfl, ?_⟩) hS ?_
  · intro w5 hSw
    clear hSw hS
    exact exec_cut hkc hcC rfl rfl rfl haC
  simp only [Act.put, List.setIfInBounds_toArray, List.set_cons_zero, List.set_cons_succ]
  refine wpAnyH_take (i := 12) (oi := { dst := some 31, op := Go.Op.call { callee := Go.Callee.builtin Go.Builtin.len, args := #[Go.Operand.tmp 30], argTypes := #[79] }, type := 3, pos := "crash.go:15", after := #[{ on := 11, ground := Go.Ground.data }], guard := none }) (v := .int .i64 (kz : Int)) rfl (by kernel_rfl) (by kernel_rfl) (by kernel_rfl) (fun _ _ _ h => h) (Or.inl ⟨by kernel_rfl, ?_⟩) hS ?_
  · intro w5 hSw
    clear hSw hS
    go_simp
  simp only [Act.put, List.setIfInBounds_toArray, List.set_cons_zero, List.set_cons_succ]
  clear hS
  refine wpAnyH_done (by kernel_rfl) ?_ _
  have HL4 := Hid.of (show CL s w w4 D L bn bc cs s.nL 0 (nrun (s.chs.take 0) s.las) from
    ⟨(HF3.out.up (Up.refl _).drew).by HG4.out (fun k hk => .inr (by have := Option.some.inj hk; have := HB2.out.1; omega)), HC4.out, (HA3.out.up (Up.refl _).drew).by HG4.out (fun e => hDbn (Option.some.inj e).symm), s.nL, s.dl, Nat.le_refl _, (((Fr.refl (fun k => k = bn) w3).up (Up.refl _).drew).by HG4.out (fun k hk => .inl (Option.some.inj hk).symm)).map HM3.out (fun e => by have h1 := HL.out.2.1; have h2 : L = bn := e; omega), HD.out.isl⟩)
  clear HM3 HC3 HF3 HA3 HC4 HG4
  have hkl : kz ≤ 100000 := by omega
  go_wp2
  go_loopw [32] (fun v32 wq => ∃ j : Nat, v32 = .int .i64 (j : Int) ∧ j ≤ kz ∧ Hid (CL s w wq D L bn bc cs s.nL j (nrun (s.chs.take j) s.las))) (fun v32 _ => kz - (intOf v32).toNat)
  case atStart => exact ⟨0, rfl, by omega, HL4⟩
  case round =>
    obtain ⟨j, rfl, hj, hQj⟩ := hrel
    have HQ := Hid.of hQj.out
    clear hQj
    by_cases hjl : j < kz
    · have hjz : (j : Int) < (kz : Int) := by omega
      have hjc : j < s.chs.length := by omega
      have hrow := HQ.out.fr.own HD.out.rowC (fun g hg e => by
        have h1 := own_tg HD.out.rowC hg
        rw [show g = D from e, HD.out.disk.tg] at h1
        exact absurd h1 (by decide))
      obtain ⟨gC, rfl⟩ : ∃ gC, aC = some ⟨gC, 0, none⟩ := by
        rcases hrow.2 with ⟨_, h0⟩ | ⟨g, cap, cur, e1, _⟩
        · omega
        · rw [HVC.out] at e1
          injection e1 with e1
          exact ⟨g, e1⟩
      rw [HVC.out] at hrow
      have k5 := World.ownsRow.cells hrow rfl j (nav s.chs[j]) (by rw [List.getElem?_map, List.getElem?_eq_getElem hjc]; rfl)
      rw [Addr.add_lit, Nat.zero_add] at k5
      obtain ⟨n, dm, hnj, hMj, hIj⟩ := HQ.out.mp
      have hok := (HD.out.chk _ (List.getElem_mem hjc)).fr HQ.out.fr (fun b hb e => by
        have h1 := HD.out.chk _ (List.getElem_mem hjc)
        have h2 := HD.out.disk.tg
        rw [← show b = D from e] at h2
        unfold nbs at hb
        by_cases hk : (s.chs[j]).kd = 1
        · rw [if_pos hk] at hb
          rw [List.mem_singleton.1 hb, h1.b2.tg] at h2
          exact absurd h2 (by decide)
        · rw [if_neg hk] at hb
          rcases List.mem_cons.1 hb with hb | hb
          · rw [hb, (h1.b1 hk).tg] at h2
            split at h2 <;> exact absurd h2 (by decide)
          · rw [List.mem_singleton.1 hb, h1.b2.tg] at h2
            exact absurd h2 (by decide))
      have HAg := Hid.of (fun (w' : World) (u : Up wr w') => again_gen (hok.up u) (HCF.out.fit j hjc) (hMj.up u) hIj (by simp only [maxLen]; have := HD.out.num; omega))
      obtain ⟨fc, caps, hnav, hfc, _⟩ := HAg.out wr (Up.refl _)
      have HCall := Hid.of (fun (w' : World) (u : Up wr w') => show Calls Tryd.prog fc (#[.map (some L)] ++ caps) w' (fun e w'' => e = .returned (.tuple #[]) ∧ CL s w w'' D L bn bc cs s.nL (j + 1) (nrun (s.chs.take (j + 1)) s.las)) from by
        obtain ⟨f', caps', h', _, hc⟩ := HAg.out w' u
        rw [hnav] at h'
        injection h' with e1 _ e2
        injection e1 with e1
        subst e1 e2
        refine hc.mono ?_
        rintro e w'' ⟨rfl, n', dm', hn', o6, hI6, g6⟩
        refine ⟨rfl, (HQ.out.fr.up u).by g6 (fun k hk => .inr (by have := Option.some.inj hk; have := HL.out.1; omega)), (HQ.out.ch.up u).by g6 (N := L) (fun k hk => by have := Option.some.inj hk; omega) HL.out.2.1 HL.out.2.2, (HQ.out.dk.up u).by g6 (fun e => by have := Option.some.inj e; have := lt_of_at HD.out.disk; have := HL.out.1; omega), n', dm', by omega, o6, ?_⟩
        rw [List.take_succ_eq_append_getElem hjc, nrun_snoc]
        exact hI6)
      rw [hnav] at k5
      clear hrow hok hMj hIj HAg hnav hnj
      rcases hfc with ⟨rfl, rfl⟩ | ⟨rfl, rfl⟩ | ⟨rfl, rfl⟩
      all_goals
        go_wp2_with fail
        refine (HCall.out _ ((Up.refl wr).alloc _)).mono ?_
        rintro e w6 ⟨rfl, h6⟩
        dsimp only
        have HQ6 := Hid.of h6
        clear h6 HCall
        go_wp2
        go_roundw
        all_goals first
          | exact ⟨j + 1, by go_num, by omega, HQ6⟩
          | (simp [intOf]; omega)
    · have hjz : ¬ (j : Int) < (kz : Int) := by omega
      have hjk : j = kz := by omega
      subst hjk
      obtain ⟨n, dm, hnj, hMj, hIj⟩ := HQ.out.mp
      have HLf := Hid.of (leftFiles_walk B L n bn bc 1 dm (nrun (s.chs.take j) s.las) (fls s) cs wr.drew (hMj.up (Up.refl _).drew) hIj (fun f hf => ((HD.out.fok f hf).fr HQ.out.fr (fun b hb e => HD.out.fout (HD.out.fok f hf) hb (.inl e))).up (Up.refl _).drew) (fun l b hb => (HCF.out.mem j l b hb).1) (fun f hf => (HD.out.sz f hf).2.1) (by have := HD.out.num; omega) (by have := HD.out.num; omega) (fun l l' b => HCF.out.inj j l l' b) (HQ.out.ch.up (Up.refl _).drew) (lt_of_at (HQ.out.ch.up (Up.refl _).drew).nx) (by obtain ⟨_, h, _⟩ := (HQ.out.ch.up (Up.refl _).drew).cv; exact lt_of_at h) (fun f hf hb => by have := (HD.out.fok f hf).lt _ hb; have := HB2.out.1; omega) hcl)
      clear hMj hIj hnj
      go_wp2
      refine wp_region_held_drew (S := fun w2 => Fr (fun k => k = bn) wr w2) (by kernel_rfl) ((Fr.refl _ _).up (Up.refl _).drew) (fun hS => ?_)
      refine wpAnyH_take (i := 0) (oi := { dst := some 41, op := Go.Op.move (Go.Operand.tmp 0), type := 24, pos := "crash.go:18", after := #[], guard := none }) (v := pv D) rfl (by kernel_rfl) (by kernel_rfl) (by kernel_rfl) (fun _ _ _ h => h) (Or.inl ⟨by kernel_rfl, ?_⟩) hS ?_
      · intro w5 hSw
        clear hSw hS
        go_simp
      simp only [Act.put, List.setIfInBounds_toArray, List.set_cons_zero, List.set_cons_succ]
      refine wpAnyH_take (i := 1) (oi := { dst := some 42, op := Go.Op.nilCheck (Go.Operand.tmp 41), type := 0, pos := "crash.go:18", after := #[{ on := 0, ground := Go.Ground.data }], guard := none }) (v := pv D) rfl (by kernel_rfl) (by kernel_rfl) (by kernel_rfl) (fun _ _ _ h => h) (Or.inl ⟨by kernel_rfl, ?_⟩) hS ?_
      · intro w5 hSw
        clear hSw hS
        go_simp
      simp only [Act.put, List.setIfInBounds_toArray, List.set_cons_zero, List.set_cons_succ]
      refine wpAnyH_take (i := 2) (oi := { dst := some 43, op := Go.Op.fieldAddr 82 (Go.Operand.tmp 42) 0, type := 0, pos := "crash.go:18", after := #[{ on := 1, ground := Go.Ground.data }], guard := none }) (v := .pointer (some ⟨D, 0, none⟩)) rfl (by kernel_rfl) (by kernel_rfl) (by kernel_rfl) (fun _ _ _ h => h) (Or.inl ⟨by kernel_rfl, ?_⟩) hS ?_
      · intro w5 hSw
        clear hSw hS
        go_simp
      simp only [Act.put, List.setIfInBounds_toArray, List.set_cons_zero, List.set_cons_succ]
      refine wpAnyH_take (i := 3) (oi := { dst := some 44, op := Go.Op.load 2 (Go.Operand.tmp 43), type := 2, pos := "crash.go:18", after := #[{ on := 2, ground := Go.Ground.data }], guard := none }) (v := .int .i64 (s.room : Int)) rfl (by kernel_rfl) (by kernel_rfl) (by kernel_rfl) (fun _ _ _ h => h) (Or.inl ⟨by kernel_rfl, ?_⟩) hS ?_
      · intro w5 hSw
        have h0 := (hSw.at HQ.out.dk hDbn).cell (i := 0) rfl
        clear hSw hS
        go_simp
      simp only [Act.put, List.setIfInBounds_toArray, List.set_cons_zero, List.set_cons_succ]
      refine wpAnyH_take (i := 4) (oi := { dst := some 45, op := Go.Op.move (Go.Operand.tmp 6), type := 72, pos := "crash.go:18", after := #[], guard := none }) (v := .map (some L)) rfl (by kernel_rfl) (by kernel_rfl) (by kernel_rfl) (fun _ _ _ h => h) (Or.inl ⟨by kernel_rfl, ?_⟩) hS ?_
      · intro w5 hSw
        clear hSw hS
        go_simp
      simp only [Act.put, List.setIfInBounds_toArray, List.set_cons_zero, List.set_cons_succ]
      refine wpAnyH_take (i := 5) (oi := { dst := some 46, op := Go.Op.move (Go.Operand.tmp 5), type := 106, pos := "crash.go:18", after := #[], guard := none }) (v := chv bn bc) rfl (by kernel_rfl) (by kernel_rfl) (by kernel_rfl) (fun _ _ _ h => h) (Or.inl ⟨by kernel_rfl, ?_⟩) hS ?_
      · intro w5 hSw
        clear hSw hS
        go_simp
      simp only [Act.put, List.setIfInBounds_toArray, List.set_cons_zero, List.set_cons_succ]
      refine wpAnyH_ready (rs := [6]) (by kernel_rfl) (by simp) ?_
      refine AllReadyH.cons (o := { dst := some 47, op := Go.Op.call { callee := Go.Callee.value (Go.Operand.func 64), args := #[Go.Operand.tmp 45, Go.Operand.tmp 46], argTypes := #[72, 106] }, type := 52, pos := "crash.go:18", after := #[{ on := 4, ground := Go.Ground.data }, { on := 5, ground := Go.Ground.data }], guard := none }) rfl (fun K hK => ?_) AllReadyH.nil
      rw [if_pos (by kernel_rfl)]
      go_simp
      refine HLf.out.mono ?_
      rintro e w5 ⟨a, fs, c, gs, ws, rfl, o5, f5, q1, q2, q3, q4, q5, q6⟩
      dsimp only
      have hgl : gs.length ≤ (fls s).length := by
        have h1 := len_sub (ys := (fls s).map (·.b)) (nodup_b q3 q1 (HCF.out.inj j)) (fun x hx => by
          obtain ⟨p, hp, rfl⟩ := List.mem_map.1 hx
          exact List.mem_map.2 ⟨p.2, (q3 p hp).1, rfl⟩)
        rwa [List.length_map, List.length_map] at h1
      have hfl : fs.length = gs.length := by have := congrArg List.length q6; rwa [List.length_map, lfs_len] at this
      have hnm : (fs.map fun g => g.nm.data.toList) = gs.map Prod.fst := by
        rw [← lfs_fst cs 1 gs ws, ← q6, List.map_map]
        rfl
      have hw : ∀ x ∈ ws, x.l.p + x.l.ds.length ≤ X := fun x hx => by
        obtain ⟨hi, hl⟩ := wls_mem (q4.mem_iff.1 hx)
        exact (HCF.out.sz _ (q3 _ (List.getElem_mem hi)).1).2 _ hl
      have hsum : (fs.map fun g => g.ds.length).sum ≤ 1099511627776 := by
        have h1 := sum_leX (X := X) (fs.map fun g => g.ds.length) (fun x hx => by
          obtain ⟨g, hg, rfl⟩ := List.mem_map.1 hx
          exact lfs_mem (cs := cs) (k0 := 1) (fun p hp => (HCF.out.sz _ (q3 p hp).1).1) hw (g.nm.data.toList, g.ds) (by rw [← q6]; exact List.mem_map.2 ⟨g, hg, rfl⟩))
        rw [List.length_map] at h1
        have h2 := Nat.mul_le_mul_right X (show fs.length ≤ (fls s).length by omega)
        have := HCF.out.all
        omega
      have hf5 : Fr (fun k => k = D) w w5 := (HQ.out.fr.up (Up.refl _).drew).trans f5 (fun g hg => .inr (by have h1 : g = bn := hg; have := HB2.out.1; omega))
      have HLa := Hid.of (laid_gen s.room a fs c w5 o5.fsl (fun g hg => by
          have h1 : g.nm.data.toList ∈ gs.map Prod.fst := by rw [← hnm]; exact List.mem_map.2 ⟨g, hg, rfl⟩
          obtain ⟨b, hb⟩ := Option.isSome_iff_exists.1 ((q2 _).1 h1)
          exact (HCF.out.mem j _ b hb).2) (by rw [hnm]; exact q1) hsum (by have := HCF.out.len; omega) (by have := HD.out.num; omega) (ml_fr HD.out.ml hf5 HD.out.hB HD.out.low.1 (fun e => by have := HD.out.low; have e : 0 = D := e; omega)) (by have := HD.out.low.1; have := HD.out.hB; have := hf5.size; omega))
      have HQs := Hid.of (And.intro hf5 (And.intro q1 (And.intro q2 (And.intro q3 (And.intro q4 (And.intro q5 q6))))))
      have HF5 := Hid.of f5
      clear o5 f5 q1 q2 q3 q4 q5 q6 hgl hfl hnm hw hsum hf5 HLf
      refine hK.out _ _ (((Fr.refl _ _).up (Up.refl _).drew).trans HF5.out (fun g hg => .inl hg)) (fun hS => ?_)
      clear hK K
      refine wpAnyH_ready (rs := [7]) (by kernel_rfl) (by simp) ?_
      refine AllReadyH.cons (o := { dst := some 48, op := Go.Op.call { callee := Go.Callee.value (Go.Operand.func 49), args := #[Go.Operand.tmp 44, Go.Operand.tmp 47], argTypes := #[2, 52] }, type := 24, pos := "crash.go:18", after := #[{ on := 3, ground := Go.Ground.data }, { on := 6, ground := Go.Ground.data }, { on := 6, ground := Go.Ground.chain }], guard := none }) rfl (fun K hK => ?_) AllReadyH.nil
      rw [if_pos (by kernel_rfl)]
      go_simp
      refine HLa.out.mono ?_
      rintro e w6 ⟨D', s', rfl, hLd⟩
      dsimp only
      have HLd := Hid.of hLd
      clear hLd HLa
      refine hK.out _ _ (hS.up HLd.out.up) (fun hS => ?_)
      clear hK K
      refine wpAnyH_take (i := 8) (oi := { dst := some 4, op := Go.Op.assign (Go.Operand.tmp 48), type := 24, pos := "crash.go:18", after := #[{ on := 7, ground := Go.Ground.data }, { on := 7, ground := Go.Ground.chain }, { on := 0, ground := Go.Ground.phase }, { on := 1, ground := Go.Ground.phase }, { on := 2, ground := Go.Ground.phase }, { on := 3, ground := Go.Ground.phase }, { on := 4, ground := Go.Ground.phase }, { on := 5, ground := Go.Ground.phase }, { on := 6, ground := Go.Ground.phase }, { on := 7, ground := Go.Ground.phase }], guard := none }) (v := pv D') rfl (by kernel_rfl) (by kernel_rfl) (by kernel_rfl) (fun _ _ _ h => h) (Or.inl ⟨by kernel_rfl, ?_⟩) hS ?_
      · intro w5 hSw
        clear hSw hS
        go_simp
      simp only [Act.put, List.setIfInBounds_toArray, List.set_cons_zero, List.set_cons_succ]
      clear hS
      refine wpAnyH_done (by kernel_rfl) ?_ _
      go_wp2
      go_ret
      rw [hkz]
      obtain ⟨h1, h2, h3, h4, h5, h6, h7⟩ := HQs.out
      exact ⟨D', s', fs, gs, ws, w5, rfl, h1, HF5.out.at (HQ.out.dk.up (Up.refl _).drew) hDbn, HLd.out, h2, h3, h4, h5, h6, h7⟩
end Go.Proofs.YtepakbghhnkcfaaDoor
namespace Go.Proofs.YtepakbghhnkcfaaDoor
open Go.RowKit Go.Shelf TextNum ModNum
/-- all that the names' acts may leave names these files, each once -/
structure CN (chs : List NA) (las : NM) (P : Nat → Prop) : Prop where
  fit : NFit chs las
  mem : ∀ k l b, nrun (chs.take k) las l = some b → P b ∧ isNm l = true
  inj : ∀ k l l' b, nrun (chs.take k) las l = some b → nrun (chs.take k) las l' = some b → l = l'
theorem CN.mono {chs : List NA} {las : NM} {P Q : Nat → Prop} (h : CN chs las P) (hq : ∀ b, P b → Q b) : CN chs las Q :=
  ⟨h.fit, fun k l b e => ⟨hq b (h.mem k l b e).1, (h.mem k l b e).2⟩, h.inj⟩
theorem CN.memAll {chs : List NA} {las : NM} {P : Nat → Prop} (h : CN chs las P) {l : List UInt8} {b : Nat} (e : nrun chs las l = some b) : P b ∧ isNm l = true := h.mem chs.length l b (by rw [List.take_length]; exact e)
theorem CN.injAll {chs : List NA} {las : NM} {P : Nat → Prop} (h : CN chs las P) {l l' : List UInt8} {b : Nat} (e : nrun chs las l = some b) (e' : nrun chs las l' = some b) : l = l' := h.inj chs.length l l' b (by rw [List.take_length]; exact e) (by rw [List.take_length]; exact e')
theorem CN.snoc {chs : List NA} {las : NM} {P : Nat → Prop} (h : CN chs las P) {c : NA} (hf : nfit c (nrun chs las)) (h1 : ∀ l b, nac c (nrun chs las) l = some b → P b ∧ isNm l = true)
    (h2 : ∀ l l' b, nac c (nrun chs las) l = some b → nac c (nrun chs las) l' = some b → l = l') : CN (chs ++ [c]) las P := by
  have ht : ∀ k, nrun ((chs ++ [c]).take k) las = nrun (chs.take k) las ∨ nrun ((chs ++ [c]).take k) las = nac c (nrun chs las) := fun k => by
    rcases Nat.lt_or_ge chs.length k with hk | hk
    · right
      rw [List.take_of_length_le (by rw [List.length_append, List.length_singleton]; omega), nrun_snoc]
    · left
      rw [List.take_append_of_le_length hk]
  refine ⟨h.fit.snoc hf, fun k l b e => ?_, fun k l l' b e e' => ?_⟩
  · rcases ht k with hk | hk
    · rw [hk] at e; exact h.mem k l b e
    · rw [hk] at e; exact h1 l b e
  · rcases ht k with hk | hk
    · rw [hk] at e e'; exact h.inj k l l' b e e'
    · rw [hk] at e e'; exact h2 l l' b e e'
theorem nput_some {m : NM} {l x : List UInt8} {b c : Nat} (h : nput m l b x = some c) : (x = l ∧ c = b) ∨ (x ≠ l ∧ m x = some c) := by
  unfold nput at h
  split at h
  · rename_i e
    exact .inl ⟨e, (Option.some.inj h).symm⟩
  · rename_i e
    exact .inr ⟨e, h⟩
theorem ndel_some {m : NM} {l x : List UInt8} {c : Nat} (h : ndel m l x = some c) : x ≠ l ∧ m x = some c := by
  unfold ndel at h
  split at h
  · cases h
  · rename_i e
    exact ⟨e, h⟩
theorem CN.create {chs : List NA} {las : NM} {P : Nat → Prop} (h : CN chs las P) {nm : ByteArray} {F b1 b2 : Nat} (hn : isNm nm.data.toList = true) (hF : ¬ P F) : CN (chs ++ [⟨0, nm, nm, F, b1, b2⟩]) las (fun b => b = F ∨ P b) := by
  refine (h.mono (fun b hb => .inr hb)).snoc (.inl rfl) (fun l b e => ?_) (fun l l' b e e' => ?_)
  · rcases nput_some (show nput (nrun chs las) nm.data.toList F l = some b from e) with ⟨rfl, rfl⟩ | ⟨_, e⟩
    · exact ⟨.inl rfl, hn⟩
    · exact ⟨.inr (h.memAll e).1, (h.memAll e).2⟩
  · rcases nput_some (show nput (nrun chs las) nm.data.toList F l = some b from e) with ⟨rfl, rfl⟩ | ⟨_, e⟩
    · rcases nput_some (show nput (nrun chs las) nm.data.toList b l' = some b from e') with ⟨h1, _⟩ | ⟨_, e'⟩
      · exact h1.symm
      · exact absurd (h.memAll e').1 hF
    · rcases nput_some (show nput (nrun chs las) nm.data.toList F l' = some b from e') with ⟨_, h2⟩ | ⟨_, e'⟩
      · exact absurd (h.memAll e).1 (by rw [h2]; exact hF)
      · exact h.injAll e e'
theorem CN.remove {chs : List NA} {las : NM} {P : Nat → Prop} (h : CN chs las P) {nm : ByteArray} {b1 b2 : Nat} : CN (chs ++ [⟨1, nm, nm, 0, b1, b2⟩]) las P := by
  refine h.snoc (.inr (.inl rfl)) (fun l b e => ?_) (fun l l' b e e' => ?_)
  · exact h.memAll (ndel_some (show ndel (nrun chs las) nm.data.toList l = some b from e)).2
  · exact h.injAll (ndel_some (show ndel (nrun chs las) nm.data.toList l = some b from e)).2 (ndel_some (show ndel (nrun chs las) nm.data.toList l' = some b from e')).2
theorem nac_rename {m : NM} {nm tm : ByteArray} {f b b1 b2 : Nat} (h : m nm.data.toList = some b) : nac ⟨2, nm, tm, f, b1, b2⟩ m = nput (ndel m nm.data.toList) tm.data.toList b := by
  unfold nac
  rw [if_neg (by simp), if_neg (by simp)]
  simp only [h]
theorem CN.rename {chs : List NA} {las : NM} {P : Nat → Prop} (h : CN chs las P) {nm tm : ByteArray} {b b1 b2 : Nat} (hb : nrun chs las nm.data.toList = some b) (ht : isNm tm.data.toList = true) : CN (chs ++ [⟨2, nm, tm, 0, b1, b2⟩]) las P := by
  refine h.snoc (.inr (.inr ⟨rfl, by rw [hb]; rfl⟩)) (fun l c e => ?_) (fun l l' c e e' => ?_)
  · rw [nac_rename hb] at e
    rcases nput_some e with ⟨rfl, rfl⟩ | ⟨_, e⟩
    · exact ⟨(h.memAll hb).1, ht⟩
    · exact h.memAll (ndel_some e).2
  · rw [nac_rename hb] at e e'
    rcases nput_some e with ⟨rfl, rfl⟩ | ⟨_, e⟩
    · rcases nput_some e' with ⟨h1, _⟩ | ⟨_, e'⟩
      · exact h1.symm
      · exact absurd (h.injAll (ndel_some e').2 hb) (ndel_some e').1
    · rcases nput_some e' with ⟨_, h2⟩ | ⟨_, e'⟩
      · rw [h2] at e
        exact absurd (h.injAll (ndel_some e).2 hb) (ndel_some e).1
      · exact h.injAll (ndel_some e).2 (ndel_some e').2
theorem nmOf_snoc {nf : List (List UInt8 × FL)} {l : List UInt8} {f : FL} (h : l ∉ nf.map (·.1)) : nmOf (nf ++ [(l, f)]) = nput (nmOf nf) l f.b := by
  funext x
  unfold nput
  by_cases hx : x = l
  · subst hx
    rw [if_pos rfl]
    unfold nmOf
    rw [List.find?_append, List.find?_eq_none.2 (fun p hp e => h (List.mem_map.2 ⟨p, hp, by simpa using e⟩))]
    simp
  · rw [if_neg hx]
    unfold nmOf
    rw [List.find?_append]
    have : ([(l, f)].find? fun p => p.1 == x) = none := by simp [Ne.symm hx]
    rw [this, Option.or_none]
theorem nmOf_drp (nf : List (List UInt8 × FL)) (l : List UInt8) : nmOf (drp nf l) = ndel (nmOf nf) l := by
  funext x
  unfold ndel
  by_cases hx : x = l
  · subst hx
    rw [if_pos rfl]
    refine nmOf_no (fun h => ?_)
    obtain ⟨p, hp, e⟩ := List.mem_map.1 h
    exact (mem_drp.1 hp).2 e
  · rw [if_neg hx]
    unfold nmOf drp
    rw [List.find?_filter]
    congr 2
    funext p
    by_cases hp : p.1 = x
    · simp [hp, hx]
    · simp [hp]
theorem nput_ndel (m : NM) (l : List UInt8) (b : Nat) : nput (ndel m l) l b = nput m l b := by
  funext x
  unfold nput ndel
  split <;> simp_all
theorem nmOf_put (nf : List (List UInt8 × FL)) (l : List UInt8) (f : FL) : nmOf (drp nf l ++ [(l, f)]) = nput (nmOf nf) l f.b := by
  rw [nmOf_snoc (fun h => by obtain ⟨p, hp, e⟩ := List.mem_map.1 h; exact (mem_drp.1 hp).2 e), nmOf_drp, nput_ndel]
/-- the names of now are what the names' acts leave -/
structure CW (s : DD) : Prop where
  cn : CN s.chs s.las (fun b => ∃ f ∈ fls s, f.b = b)
  now : nrun s.chs s.las = nmOf s.nf
theorem CW.cr {s : DD} (h : CW s) (nd : (s.nf.map (·.1)).Nodup) {nm : ByteArray} {F bp b2 : Nat} {vC vLo : Value} (hn : isNm nm.data.toList = true) (hF : ∀ f ∈ fls s, f.b ≠ F) : CW (crS s nm F bp b2 vC vLo) := by
  have P := crS_perm (s := s) (nm := nm) (F := F) (bp := bp) (b2 := b2) (vC := vC) (vLo := vLo) nd
  refine ⟨(h.cn.create hn (fun ⟨f, hf, e⟩ => hF f hf e)).mono (fun b hb => ?_), ?_⟩
  · rcases hb with rfl | ⟨f, hf, e⟩
    · exact ⟨fnew b, P.mem_iff.2 List.mem_cons_self, rfl⟩
    · exact ⟨f, P.mem_iff.2 (List.mem_cons_of_mem _ hf), e⟩
  · show nrun (s.chs ++ [⟨0, nm, nm, F, bp, b2⟩]) s.las = nmOf (drp s.nf nm.data.toList ++ [(nm.data.toList, fnew F)])
    rw [nrun_snoc, nmOf_put, h.now]
    rfl
theorem CW.rm {s : DD} (h : CW s) (nd : (s.nf.map (·.1)).Nodup) {nm : ByteArray} {b2 : Nat} {vC vLo : Value} : CW (rmS s nm b2 vC vLo) := by
  have P := rmS_perm (s := s) (nm := nm) (b2 := b2) (vC := vC) (vLo := vLo) nd
  refine ⟨(h.cn.remove).mono (fun b ⟨f, hf, e⟩ => ⟨f, P.mem_iff.2 hf, e⟩), ?_⟩
  show nrun (s.chs ++ [⟨1, nm, nm, 0, b2, b2⟩]) s.las = nmOf (drp s.nf nm.data.toList)
  rw [nrun_snoc, nmOf_drp, h.now]
  rfl
theorem CW.rn {s : DD} (h : CW s) (nd : (s.nf.map (·.1)).Nodup) {nm tm : ByteArray} {f : FL} {b1 b2 : Nat} {vC vLo : Value} (hg : gone s.nf nm.data.toList = [f]) (hf : (nm.data.toList, f) ∈ s.nf) (ht : isNm tm.data.toList = true) : CW (rnS s nm tm f b1 b2 vC vLo) := by
  have P := rnS_perm (s := s) (nm := nm) (tm := tm) (f := f) (b1 := b1) (b2 := b2) (vC := vC) (vLo := vLo) nd hg
  have hb : nrun s.chs s.las nm.data.toList = some f.b := by rw [h.now]; exact nmOf_mem nd hf
  refine ⟨(h.cn.rename hb ht).mono (fun b ⟨f, hf, e⟩ => ⟨f, P.mem_iff.2 hf, e⟩), ?_⟩
  show nrun (s.chs ++ [⟨2, nm, tm, 0, b1, b2⟩]) s.las = nmOf (drp (drp s.nf nm.data.toList) tm.data.toList ++ [(tm.data.toList, f)])
  rw [nrun_snoc, nac_rename hb, nmOf_put, nmOf_drp, h.now]
theorem nmOf_rpl (nf : List (List UInt8 × FL)) (b : Nat) (f' : FL) (hb : f'.b = b) : nmOf (rpl nf b f') = nmOf nf := by
  funext x
  unfold nmOf rpl
  rw [List.find?_map]
  have e : ((fun p : List UInt8 × FL => p.1 == x) ∘ fun p => if p.2.b = b then (p.1, f') else p) = fun p => p.1 == x := by
    funext p
    simp only [Function.comp]
    split <;> rfl
  rw [e]
  cases nf.find? fun p => p.1 == x with
  | none => rfl
  | some p =>
    simp only [Option.map_some]
    split
    · rename_i h1
      rw [h1]
      exact congrArg some hb
    · rfl
theorem CW.fl {s : DD} (h : CW s) {b : Nat} {f' : FL} {t : Nat} (hb : f'.b = b) : CW (flS s b f' t) := by
  refine ⟨h.cn.mono (fun c ⟨f, hf, e⟩ => ?_), h.now.trans (nmOf_rpl s.nf b f' hb).symm⟩
  rcases List.mem_append.1 hf with hf | hf
  · obtain ⟨p, hp, rfl⟩ := List.mem_map.1 hf
    by_cases h1 : p.2.b = b
    · exact ⟨f', List.mem_append_left _ (List.mem_map.2 ⟨(p.1, f'), List.mem_map.2 ⟨p, hp, by rw [if_pos h1]⟩, rfl⟩), by rw [hb, ← h1]; exact e⟩
    · exact ⟨p.2, List.mem_append_left _ (List.mem_map.2 ⟨p, List.mem_map.2 ⟨p, hp, by rw [if_neg h1]⟩, rfl⟩), e⟩
  · exact ⟨f, List.mem_append_right _ hf, e⟩
end Go.Proofs.YtepakbghhnkcfaaDoor
namespace Go.Proofs.YtepakbghhnkcfaaDoor
open Go.RowKit Go.Shelf TextNum ModNum
/-- where a walk goes on behind one operation, and nowhere else -/
def onto (K : Act → World → Prop) : Exit → Act → World → Prop
  | .normal, a, w => K a w
  | _, _, _ => False
/-- an operation of a region that draws is run by a law about lists -/
theorem oper_of_list {P : Program} {ops : Array Oper} {Q : Exit → Act → World → Prop} {K : Act → World → Prop} {o : Oper} {a : Act} {w : World} (h : wpList P ops (onto K) [o] a w) : if Region.wanted o (yielded ops a.tmps) = true then Oper.wp P o a w K Q else K (a.put o.dst undef) w := by
  unfold wpList at h
  split
  · rename_i hw
    rw [if_pos hw] at h
    rcases h with h | ⟨_, ⟨_, _, h⟩⟩
    · have e : wpList P ops (onto K) [] = K := rfl
      rw [e] at h
      unfold Oper.wp at *
      generalize (execOp a.eval o).run P w = r at *
      cases r with
      | ok n w' =>
        cases n <;> simp only [Oper.upon] at h ⊢
        case value u => exact h
        case skip => exact h
        case defer d => exact h
        case enter f args =>
          refine Calls.mono h fun e w'' he => ?_
          cases e with
          | returned u => exact he
          | panicked c => exact he.elim
          | outgrown =>
            obtain ⟨_, _, h⟩ := he
            exact h.elim
        case row row args => exact h
      | halt x w' =>
        cases x <;> simp only [Oper.upon] at h ⊢
        case panic u => exact h.elim
    · exact h.elim
  · rename_i hw
    rw [if_neg hw] at h
    exact h
end Go.Proofs.YtepakbghhnkcfaaDoor
namespace Go.Proofs.YtepakbghhnkcfaaDoor
open Go.RowKit Go.Shelf TextNum ModNum
theorem Fr.cell {S : Nat → Prop} {w w' : World} (h : Fr S w w') {p : Addr} {v : Value} (hp : w.cell? p = some v) (hS : ¬ S p.block) : w'.cell? p = some v := by
  have hb := h.block _ (World.block_lt_of_cell? w p hp) hS
  unfold World.cell? at hp ⊢
  rw [hb]
  exact hp
set_option maxRecDepth 100000 in
set_option maxHeartbeats 4000000 in
theorem copies_walk (a : Option Addr) (c : Nat) (fs : List GF) (w : World) (hF : FsL w a fs c) (hl : fs.length ≤ 1000000) (hs : ∀ g ∈ fs, g.ds.length ≤ 1099511627776) :
    Calls Tryd.prog 53 #[.slice a fs.length c] w fun e w' => ∃ a' fs' c', e = .returned (.slice a' (List.length fs') c') ∧ FsO w' w.heap.size a' fs' c' ∧ Up w w' ∧ (fs'.map fun g => (g.nm.data.toList, g.ds)) = fs.map fun g => (g.nm.data.toList, g.ds) := by
  have HF := Hid.of hF
  have HS := Hid.of hs
  clear hF hs
  go_enter Tryd.func53, Tryd.ntmps53
  go_wp2
  go_loopw [3, 4] (fun v3 v4 wq => ∃ j : Nat, v4 = .int .i64 (j : Int) ∧ j ≤ fs.length ∧ ∃ a3 fs3 c3, v3 = .slice a3 j c3 ∧ List.length fs3 = j ∧ Hid (FsO wq w.heap.size a3 fs3 c3 ∧ Up w wq ∧ (fs3.map fun g => (g.nm.data.toList, g.ds)) = (fs.take j).map fun g => (g.nm.data.toList, g.ds))) (fun _ v4 _ => fs.length - (intOf v4).toNat)
  case atStart => exact ⟨0, rfl, by omega, none, [], 0, rfl, rfl, Hid.of ⟨⟨World.ownsRow_nil _ _ _ _, (fun g hg => by cases hg)⟩, Up.refl w, rfl⟩⟩
  case round =>
    obtain ⟨j, rfl, hj, a3, fs3, c3, rfl, hj3, hQ⟩ := hrel
    have HQ := Hid.of hQ.out
    clear hQ
    by_cases hjl : j < fs.length
    · have hjz : (j : Int) < (fs.length : Int) := by omega
      obtain ⟨b, off, rfl, k1, k2⟩ := HF.out.cells j hjl
      have HK1 := Hid.of (HQ.out.2.1.cell k1)
      have HK2 := Hid.of (HQ.out.2.1.cell k2)
      have HSb := Hid.of (HF.out.sb _ (List.getElem_mem hjl))
      have hgl := HS.out _ (List.getElem_mem hjl)
      have HT := Hid.of (List.take_succ_eq_append_getElem hjl)
      have hb3 : ¬ (Value.slice a3 j c3).ownBlock = some b := fun e => by
        have h1 := (World.ownsRow.lt HQ.out.1.row b (by rw [hj3]; exact e)).1
        have h2 := World.block_lt_of_cell? w _ k1
        have h3 : b < w.heap.size := h2
        omega
      obtain ⟨g, hg⟩ : ∃ g, fs[j] = g := ⟨_, rfl⟩
      rw [hg] at HK1 HK2 HSb hgl HT
      clear k1 k2 hg
      go_wp2
      refine wp_region_held_drew (S := fun w2 => Fr (fun k => (Value.slice a3 j c3).ownBlock = some k) wr w2) (by kernel_rfl) ((Fr.refl _ _).up (Up.refl _).drew) (fun hS => ?_)
      refine wpAnyH_take (i := 0) (oi := { dst := some 11, op := Go.Op.move (Go.Operand.tmp 3), type := 52, pos := "outright.go:29", after := #[], guard := none }) (v := .slice a3 j c3) rfl (by kernel_rfl) (by kernel_rfl) (by kernel_rfl) (fun _ _ _ h => h) (Or.inl ⟨by kernel_rfl, ?_⟩) hS ?_
      · intro w5 hSw
        clear hSw hS
        go_simp
      simp only [Act.put, List.setIfInBounds_toArray, List.set_cons_zero, List.set_cons_succ]
      refine wpAnyH_take (i := 1) (oi := { dst := some 12, op := Go.Op.move (Go.Operand.tmp 0), type := 52, pos := "outright.go:29", after := #[], guard := none }) (v := .slice (some ⟨b, off, none⟩) fs.length c) rfl (by kernel_rfl) (by kernel_rfl) (by kernel_rfl) (fun _ _ _ h => h) (Or.inl ⟨by kernel_rfl, ?_⟩) hS ?_
      · intro w5 hSw
        clear hSw hS
        go_simp
      simp only [Act.put, List.setIfInBounds_toArray, List.set_cons_zero, List.set_cons_succ]
      refine wpAnyH_take (i := 2) (oi := { dst := some 13, op := Go.Op.move (Go.Operand.tmp 4), type := 3, pos := "outright.go:29", after := #[], guard := none }) (v := .int .i64 (j : Int)) rfl (by kernel_rfl) (by kernel_rfl) (by kernel_rfl) (fun _ _ _ h => h) (Or.inl ⟨by kernel_rfl, ?_⟩) hS ?_
      · intro w5 hSw
        clear hSw hS
        go_simp
      simp only [Act.put, List.setIfInBounds_toArray, List.set_cons_zero, List.set_cons_succ]
      refine wpAnyH_take (i := 3) (oi := { dst := some 14, op := Go.Op.indexAddr 52 (Go.Operand.tmp 12) (Go.Operand.tmp 13), type := 0, pos := "outright.go:29", after := #[{ on := 1, ground := Go.Ground.data }, { on := 2, ground := Go.Ground.data }], guard := none }) (v := .pointer (some ⟨b, off + j * 2, none⟩)) rfl (by kernel_rfl) (by kernel_rfl) (by kernel_rfl) (fun _ _ _ h => h) (Or.inl ⟨by kernel_rfl, ?_⟩) hS ?_
      · intro w5 hSw
        clear hSw hS
        exact exec_idxFile j hjl rfl rfl rfl
      simp only [Act.put, List.setIfInBounds_toArray, List.set_cons_zero, List.set_cons_succ]
      refine wpAnyH_take (i := 4) (oi := { dst := some 15, op := Go.Op.fieldAddr 51 (Go.Operand.tmp 14) 0, type := 0, pos := "outright.go:29", after := #[{ on := 3, ground := Go.Ground.data }], guard := none }) (v := .pointer (some ⟨b, off + j * 2, none⟩)) rfl (by kernel_rfl) (by kernel_rfl) (by kernel_rfl) (fun _ _ _ h => h) (Or.inl ⟨by kernel_rfl, ?_⟩) hS ?_
      · intro w5 hSw
        clear hSw hS
        go_simp
      simp only [Act.put, List.setIfInBounds_toArray, List.set_cons_zero, List.set_cons_succ]
      refine wpAnyH_take (i := 5) (oi := { dst := some 16, op := Go.Op.load 9 (Go.Operand.tmp 15), type := 9, pos := "outright.go:29", after := #[{ on := 4, ground := Go.Ground.data }], guard := none }) (v := .string g.nm) rfl (by kernel_rfl) (by kernel_rfl) (by kernel_rfl) (fun _ _ _ h => h) (Or.inl ⟨by kernel_rfl, ?_⟩) hS ?_
      · intro w5 hSw
        have h0 := hSw.cell HK1.out hb3
        clear hSw hS
        go_simp
      simp only [Act.put, List.setIfInBounds_toArray, List.set_cons_zero, List.set_cons_succ]
      refine wpAnyH_take (i := 6) (oi := { dst := some 17, op := Go.Op.move (Go.Operand.tmp 0), type := 52, pos := "outright.go:29", after := #[], guard := none }) (v := .slice (some ⟨b, off, none⟩) fs.length c) rfl (by kernel_rfl) (by kernel_rfl) (by kernel_rfl) (fun _ _ _ h => h) (Or.inl ⟨by kernel_rfl, ?_⟩) hS ?_
      · intro w5 hSw
        clear hSw hS
        go_simp
      simp only [Act.put, List.setIfInBounds_toArray, List.set_cons_zero, List.set_cons_succ]
      refine wpAnyH_take (i := 7) (oi := { dst := some 18, op := Go.Op.move (Go.Operand.tmp 4), type := 3, pos := "outright.go:29", after := #[], guard := none }) (v := .int .i64 (j : Int)) rfl (by kernel_rfl) (by kernel_rfl) (by kernel_rfl) (fun _ _ _ h => h) (Or.inl ⟨by kernel_rfl, ?_⟩) hS ?_
      · intro w5 hSw
        clear hSw hS
        go_simp
      simp only [Act.put, List.setIfInBounds_toArray, List.set_cons_zero, List.set_cons_succ]
      refine wpAnyH_take (i := 8) (oi := { dst := some 19, op := Go.Op.indexAddr 52 (Go.Operand.tmp 17) (Go.Operand.tmp 18), type := 0, pos := "outright.go:29", after := #[{ on := 6, ground := Go.Ground.data }, { on := 7, ground := Go.Ground.data }], guard := none }) (v := .pointer (some ⟨b, off + j * 2, none⟩)) rfl (by kernel_rfl) (by kernel_rfl) (by kernel_rfl) (fun _ _ _ h => h) (Or.inl ⟨by kernel_rfl, ?_⟩) hS ?_
      · intro w5 hSw
        clear hSw hS
        exact exec_idxFile j hjl rfl rfl rfl
      simp only [Act.put, List.setIfInBounds_toArray, List.set_cons_zero, List.set_cons_succ]
      refine wpAnyH_take (i := 9) (oi := { dst := some 20, op := Go.Op.fieldAddr 51 (Go.Operand.tmp 19) 1, type := 0, pos := "outright.go:29", after := #[{ on := 8, ground := Go.Ground.data }], guard := none }) (v := .pointer (some ⟨b, off + j * 2 + 1, none⟩)) rfl (by kernel_rfl) (by kernel_rfl) (by kernel_rfl) (fun _ _ _ h => h) (Or.inl ⟨by kernel_rfl, ?_⟩) hS ?_
      · intro w5 hSw
        clear hSw hS
        go_simp
      simp only [Act.put, List.setIfInBounds_toArray, List.set_cons_zero, List.set_cons_succ]
      refine wpAnyH_take (i := 10) (oi := { dst := some 21, op := Go.Op.load 29 (Go.Operand.tmp 20), type := 29, pos := "outright.go:29", after := #[{ on := 9, ground := Go.Ground.data }], guard := none }) (v := g.v) rfl (by kernel_rfl) (by kernel_rfl) (by kernel_rfl) (fun _ _ _ h => h) (Or.inl ⟨by kernel_rfl, ?_⟩) hS ?_
      · intro w5 hSw
        have h0 := hSw.cell HK2.out hb3
        clear hSw hS
        go_simp
      simp only [Act.put, List.setIfInBounds_toArray, List.set_cons_zero, List.set_cons_succ]
      refine wpAnyH_ready (rs := [11]) (by kernel_rfl) (by simp) ?_
      refine AllReadyH.cons (o := { dst := some 22, op := Go.Op.call { callee := Go.Callee.value (Go.Operand.func 11), args := #[Go.Operand.tmp 21], argTypes := #[29] }, type := 29, pos := "outright.go:29", after := #[{ on := 10, ground := Go.Ground.data }], guard := none }) rfl (fun K hK => ?_) AllReadyH.nil
      rw [if_pos (by kernel_rfl)]
      go_simp
      refine (copied_walk g.v g.ds wr.drew ((HSb.out.up HQ.out.2.1).up (Up.refl _).drew) (by omega)).mono ?_
      rintro e w5 ⟨v5, rfl, o5, u5⟩
      obtain ⟨a5, l5, c5, rfl⟩ : ∃ a l c, v5 = .slice a l c := by
        obtain ⟨a, c, h, _⟩ := id (Ow.sb o5)
        exact ⟨a, _, c, h⟩
      dsimp only
      have HU5 := Hid.of ((Up.refl wr).drew.trans u5)
      have HO5 := Hid.of (show Ow w5 w.heap.size (.slice a5 l5 c5) g.ds from ow_base o5 HQ.out.2.1.size)
      clear o5 u5
      refine hK.out _ _ ((Fr.refl _ _).up HU5.out) (fun hS => ?_)
      clear hK K
      refine wpAnyH_take (i := 12) (oi := { dst := some 23, op := Go.Op.build 51 #[(0, Go.Operand.tmp 16), (1, Go.Operand.tmp 22)], type := 51, pos := "outright.go:29", after := #[{ on := 5, ground := Go.Ground.data }, { on := 11, ground := Go.Ground.data }], guard := none }) (v := .agg #[.string g.nm, .slice a5 l5 c5]) rfl (by kernel_rfl) (by kernel_rfl) (by kernel_rfl) (fun _ _ _ h => h) (Or.inl ⟨by kernel_rfl, ?_⟩) hS ?_
      · intro w5 hSw
        clear hSw hS
        go_simp
      simp only [Act.put, List.setIfInBounds_toArray, List.set_cons_zero, List.set_cons_succ]
      refine wpAnyH_ready (rs := [13]) (by kernel_rfl) (by simp) ?_
      refine AllReadyH.cons (o := { dst := some 24, op := Go.Op.buildSlice 52 1 #[(0, Go.Operand.tmp 23)], type := 52, pos := "outright.go:29", after := #[{ on := 12, ground := Go.Ground.data }], guard := none }) rfl (fun K hK => ?_) AllReadyH.nil
      rw [if_pos (by kernel_rfl)]
      go_simp
      refine hK.out _ _ (hS.up ((Up.refl w5).alloc _)) (fun hS => ?_)
      clear hK K
      refine wpAnyH_ready (rs := [14]) (by kernel_rfl) (by simp) ?_
      refine AllReadyH.cons (o := { dst := some 25, op := Go.Op.call { callee := Go.Callee.builtin Go.Builtin.append, args := #[Go.Operand.tmp 11, Go.Operand.tmp 24], argTypes := #[52, 52] }, type := 52, pos := "outright.go:29", after := #[{ on := 0, ground := Go.Ground.data }, { on := 13, ground := Go.Ground.data }, { on := 11, ground := Go.Ground.chain }], guard := none }) rfl (fun K hK => oper_of_list ?_) AllReadyH.nil
      refine wpList_appFile (w := w5) (N := w.heap.size) rfl _ _ rfl a3 c3 fs3 ⟨g.nm, .slice a5 l5 c5, g.ds⟩ hj3 rfl rfl (HQ.out.1.up HU5.out) HO5.out (Nat.le_trans HQ.out.2.1.size HU5.out.size) (by omega) ?_
      intro ax2 cx2 w7 o7 u7 g7
      have HO7 := Hid.of o7
      have HU7 := Hid.of (u7 w (HQ.out.2.1.trans HU5.out) (Nat.le_refl _))
      have HG7 := Hid.of g7
      clear o7 u7 g7
      refine hK.out _ _ (((Fr.refl _ _).up HU5.out).by HG7.out (fun k hk => .inl hk)) (fun hS => ?_)
      clear hK K
      simp only [Act.put, List.setIfInBounds_toArray, List.set_cons_zero, List.set_cons_succ]
      refine wpAnyH_take (i := 15) (oi := { dst := some 3, op := Go.Op.assign (Go.Operand.tmp 25), type := 52, pos := "outright.go:29", after := #[{ on := 14, ground := Go.Ground.data }, { on := 14, ground := Go.Ground.chain }, { on := 0, ground := Go.Ground.phase }, { on := 1, ground := Go.Ground.phase }, { on := 2, ground := Go.Ground.phase }, { on := 3, ground := Go.Ground.phase }, { on := 4, ground := Go.Ground.phase }, { on := 5, ground := Go.Ground.phase }, { on := 6, ground := Go.Ground.phase }, { on := 7, ground := Go.Ground.phase }, { on := 8, ground := Go.Ground.phase }, { on := 9, ground := Go.Ground.phase }, { on := 10, ground := Go.Ground.phase }, { on := 11, ground := Go.Ground.phase }, { on := 12, ground := Go.Ground.phase }, { on := 13, ground := Go.Ground.phase }, { on := 14, ground := Go.Ground.phase }], guard := none }) (v := .slice ax2 (j + 1) cx2) rfl (by kernel_rfl) (by kernel_rfl) (by kernel_rfl) (fun _ _ _ h => h) (Or.inl ⟨by kernel_rfl, ?_⟩) hS ?_
      · intro w5 hSw
        clear hSw hS
        go_simp
      simp only [Act.put, List.setIfInBounds_toArray, List.set_cons_zero, List.set_cons_succ]
      clear hS
      refine wpAnyH_done (by kernel_rfl) ?_ _
      go_wp2
      go_roundw
      all_goals first
        | exact ⟨j + 1, by go_num, by omega, ax2, _, cx2, rfl, by rw [List.length_append, hj3]; rfl, Hid.of ⟨HO7.out, HU7.out, by rw [HT.out, List.map_append, List.map_append, HQ.out.2.2]; rfl⟩⟩
        | (simp [intOf]; omega)
    · have hjz : ¬ (j : Int) < (fs.length : Int) := by omega
      have HX := Hid.of (show (fs3.map fun g => (g.nm.data.toList, g.ds)) = fs.map fun g => (g.nm.data.toList, g.ds) by rw [HQ.out.2.2, List.take_of_length_le (by omega)])
      subst hj3
      go_wp2
      go_ret
      exact ⟨a3, fs3, c3, rfl, HQ.out.1, HQ.out.2.1, HX.out⟩
end Go.Proofs.YtepakbghhnkcfaaDoor
namespace Go.Proofs.YtepakbghhnkcfaaDoor
open Go.RowKit Go.Shelf TextNum ModNum
/-- the bytes of a name in a list of files -/
def bOf (L : List (List UInt8 × List UInt8)) (l : List UInt8) : List UInt8 := ((L.find? fun p => p.1 == l).map (·.2)).getD []
/-- a list of files, sorted by name -/
def srF (L : List (List UInt8 × List UInt8)) : List (List UInt8 × List UInt8) := (srt (L.map Prod.fst)).map fun l => (l, bOf L l)
theorem bOf_mem {L : List (List UInt8 × List UInt8)} (nd : (L.map Prod.fst).Nodup) {p : List UInt8 × List UInt8} (hp : p ∈ L) : bOf L p.1 = p.2 := by
  unfold bOf
  obtain ⟨xs, ys, e⟩ := List.append_of_mem hp
  subst e
  rw [List.map_append, List.map_cons, List.nodup_append] at nd
  have h1 : xs.find? (fun q => q.1 == p.1) = none := List.find?_eq_none.2 (fun q hq e => nd.2.2 q.1 (List.mem_map_of_mem hq) p.1 List.mem_cons_self (beq_iff_eq.1 e))
  rw [List.find?_append, h1, List.find?_cons]
  simp
theorem fsOf_srF (nf : List (List UInt8 × FL)) : fsOf nf = srF (nf.map fun p => (p.1, p.2.nb)) := by
  unfold fsOf srF
  rw [List.map_map]
  congr 1
  funext l
  unfold nbOf bOf
  rw [List.find?_map]
  have e : ((fun p : List UInt8 × List UInt8 => p.1 == l) ∘ fun p : List UInt8 × FL => (p.1, p.2.nb)) = fun p => p.1 == l := rfl
  rw [e]
  cases nf.find? fun p => p.1 == l <;> rfl
/-- names that rise, of the same files -/
theorem srF_eq {L L' : List (List UInt8 × List UInt8)} (nd : (L.map Prod.fst).Nodup) (hp : L'.Perm L) (hs : (L'.map Prod.fst).Pairwise (fun x y => x ≤ y)) : srF L = L' := by
  unfold srF
  have h1 : srt (L.map Prod.fst) = L'.map Prod.fst := List.Perm.eq_of_pairwise (le := fun x y => x ≤ y) (fun _ _ _ _ h k => List.le_antisymm h k) (srt_pw _) hs ((srt_perm _).trans (hp.map Prod.fst).symm)
  rw [h1, List.map_map]
  conv => rhs; rw [← List.map_id L']
  refine List.map_congr_left (fun p hq => ?_)
  show (p.1, bOf L p.1) = p
  rw [bOf_mem nd (hp.mem_iff.1 hq)]
theorem srF_fst (L : List (List UInt8 × List UInt8)) : (srF L).map Prod.fst = srt (L.map Prod.fst) := by
  unfold srF
  rw [List.map_map]
  conv => rhs; rw [← List.map_id (srt _)]
  rfl
theorem nodup_of_fst {L : List (List UInt8 × List UInt8)} (nd : (L.map Prod.fst).Nodup) : L.Nodup := by
  induction L with
  | nil => exact List.nodup_nil
  | cons p r ih =>
    rw [List.map_cons, List.nodup_cons] at nd
    exact List.nodup_cons.2 ⟨fun h => nd.1 (List.mem_map_of_mem h), ih nd.2⟩
theorem srF_mem {L : List (List UInt8 × List UInt8)} (nd : (L.map Prod.fst).Nodup) {p : List UInt8 × List UInt8} : p ∈ srF L ↔ p ∈ L := by
  unfold srF
  rw [List.mem_map]
  constructor
  · rintro ⟨l, hl, rfl⟩
    obtain ⟨q, hq, rfl⟩ := List.mem_map.1 (srt_mem.1 hl)
    rw [bOf_mem nd hq]
    exact hq
  · intro hp
    exact ⟨p.1, srt_mem.2 (List.mem_map_of_mem hp), by rw [bOf_mem nd hp]⟩
theorem srF_nd {L : List (List UInt8 × List UInt8)} (nd : (L.map Prod.fst).Nodup) : ((srF L).map Prod.fst).Nodup := by
  rw [srF_fst]
  exact (srt_perm _).nodup_iff.2 nd
theorem srF_perm {L : List (List UInt8 × List UInt8)} (nd : (L.map Prod.fst).Nodup) : (srF L).Perm L :=
  (List.perm_ext_iff_of_nodup (nodup_of_fst (srF_nd nd)) (nodup_of_fst nd)).2 (fun _ => srF_mem nd)
theorem srF_srF {L : List (List UInt8 × List UInt8)} (nd : (L.map Prod.fst).Nodup) : srF (srF L) = srF L :=
  srF_eq (srF_nd nd) (List.Perm.refl _) (by rw [srF_fst]; exact srt_pw _)
/-- which writes are left of a file: none, one -/
theorem dat_app (cs : List Int) (k0 i : Nat) (lb : List UInt8) (A B : List WL) : dat cs k0 i lb (A ++ B) = dat cs (k0 + A.length) i (dat cs k0 i lb A) B := by
  unfold dat
  rw [List.zipIdx_append, List.foldl_append]
theorem dat_none {cs : List Int} {i : Nat} {ws : List WL} : ∀ {k0 : Nat} {lb : List UInt8}, (∀ x ∈ ws, x.i ≠ i) → dat cs k0 i lb ws = lb := by
  induction ws with
  | nil => intro k0 lb _; rfl
  | cons x r ih =>
    intro k0 lb h
    rw [show x :: r = [x] ++ r from rfl, dat_app, ih (fun y hy => h y (List.mem_cons_of_mem _ hy))]
    show (if x.i = i then _ else lb) = lb
    rw [if_neg (h x List.mem_cons_self)]
theorem dat_one {cs : List Int} {k0 i j : Nat} {lb : List UInt8} {ws : List WL} (hj : j < ws.length) (h1 : ws[j].i = i) (h2 : ∀ m (hm : m < ws.length), m ≠ j → ws[m].i ≠ i) : dat cs k0 i lb ws = wr lb ws[j].l.p (ws[j].l.ds.take (cz cs (k0 + j) ws[j].l.ds.length)) := by
  have e : ws = ws.take j ++ (ws[j] :: ws.drop (j + 1)) := by
    rw [List.getElem_cons_drop, List.take_append_drop]
  have hl : (ws.take j).length = j := by rw [List.length_take]; omega
  conv => lhs; rw [e]
  rw [dat_app, dat_none (ws := ws.take j) (fun x hx => ?_), hl, show ws[j] :: ws.drop (j + 1) = [ws[j]] ++ ws.drop (j + 1) from rfl, dat_app, dat_none (ws := ws.drop (j + 1)) (fun x hx => ?_)]
  · show (if ws[j].i = i then _ else lb) = _
    rw [if_pos h1]
  · obtain ⟨m, hm, rfl⟩ := List.getElem_of_mem hx
    rw [List.length_drop] at hm
    rw [List.getElem_drop]
    exact h2 _ (by omega) (by omega)
  · obtain ⟨m, hm, rfl⟩ := List.getElem_of_mem hx
    rw [List.length_take] at hm
    rw [List.getElem_take]
    exact h2 _ (by omega) (by omega)
theorem wr_nil (ds : List UInt8) : wr [] 0 ds = ds := by
  unfold wr splice
  split
  · rename_i h; exact h.symm
  · simp
theorem wls_tn (gs : LG) : (wls gs).map (·.l.tn) = gs.flatMap fun p => p.2.lo.map (·.tn) := by
  unfold wls
  rw [List.map_flatMap]
  simp only [List.map_map]
  have : ∀ (l : List ((List UInt8 × FL) × Nat)), (l.flatMap fun p => p.1.2.lo.map ((fun x : WL => x.l.tn) ∘ fun x => (⟨p.2, x⟩ : WL))) = (l.map Prod.fst).flatMap fun p => p.2.lo.map (·.tn) := fun l => by
    rw [List.flatMap_map]
    rfl
  rw [this, List.zipIdx_map_fst]
theorem wls_has {gs : LG} {i : Nat} (hi : i < gs.length) {l : LW} (hl : l ∈ gs[i].2.lo) : (⟨i, l⟩ : WL) ∈ wls gs := by
  unfold wls
  rw [List.mem_flatMap]
  refine ⟨(gs[i], i), ?_, List.mem_map.2 ⟨l, hl, rfl⟩⟩
  rw [List.mem_zipIdx_iff_getElem?]
  exact List.getElem?_eq_getElem hi
theorem fm_single {α β : Type} (f : α → List β) (g : α → β) : ∀ l : List α, (∀ x ∈ l, f x = [g x]) → l.flatMap f = l.map g
  | [], _ => rfl
  | a :: r, h => by
    rw [List.flatMap_cons, List.map_cons, h a List.mem_cons_self, fm_single f g r (fun x hx => h x (List.mem_cons_of_mem _ hx))]
    rfl
theorem nd_of_map {α β : Type} (f : α → β) : ∀ l : List α, (l.map f).Nodup → l.Nodup
  | [], _ => List.nodup_nil
  | a :: r, h => by
    rw [List.map_cons, List.nodup_cons] at h
    exact List.nodup_cons.2 ⟨fun k => h.1 (List.mem_map_of_mem k), nd_of_map f r h.2⟩
/-- files that are made one behind the other, each with one loose write -/
structure PF (chs : List NA) (nf : LG) (K : List (List UInt8)) : Prop where
  nl : nf.length = K.length
  cl : chs.length = K.length
  fl : ∀ i (h : i < K.length), nf[i].1 = ltr i ∧ nf[i].2.lb = [] ∧ nf[i].2.nb = K[i] ∧ (∃ l, nf[i].2.lo = [l] ∧ l.p = 0 ∧ l.ds = K[i] ∧ l.tn = (i : Int)) ∧ chs[i].kd = 0 ∧ chs[i].s.data.toList = ltr i ∧ chs[i].f = nf[i].2.b
theorem PF.run {chs : List NA} {nf : LG} {K : List (List UInt8)} (h : PF chs nf K) (hK : K.length ≤ 100) : ∀ k, k ≤ K.length → ∀ l b, nrun (chs.take k) (fun _ => none) l = some b ↔ ∃ i, ∃ hi : i < nf.length, i < k ∧ l = ltr i ∧ b = nf[i].2.b := by
  intro k
  induction k with
  | zero =>
    intro _ l b
    constructor
    · intro e; cases e
    · rintro ⟨i, _, h0, _⟩; omega
  | succ k ih =>
    intro hk l b
    have hc : k < chs.length := by rw [h.cl]; omega
    have hn : k < nf.length := by rw [h.nl]; omega
    obtain ⟨h1, _, _, _, h5, h6, h7⟩ := h.fl k (by omega)
    rw [List.take_succ_eq_append_getElem hc, nrun_snoc]
    unfold nac
    rw [if_pos h5, h6, h7]
    unfold nput
    by_cases hl : l = ltr k
    · rw [if_pos hl]
      constructor
      · intro e
        exact ⟨k, hn, by omega, hl, (Option.some.inj e).symm⟩
      · rintro ⟨i, hi, hik, e1, e2⟩
        have hin := h.nl
        have : k = i := ltr_inj k (by omega) i (by omega) (hl.symm.trans e1)
        subst this
        rw [e2]
    · rw [if_neg hl, ih (by omega)]
      constructor
      · rintro ⟨i, hi, hik, e1, e2⟩
        exact ⟨i, hi, by omega, e1, e2⟩
      · rintro ⟨i, hi, hik, e1, e2⟩
        refine ⟨i, hi, ?_, e1, e2⟩
        rcases Nat.lt_or_ge i k with h0 | h0
        · exact h0
        · have : i = k := by omega
          subst this
          exact absurd e1 hl
theorem ltr_up : ∀ k, k ≤ 100 → ∀ m, m ≤ 100 → k < m → ltr k ≤ ltr m := by decide +kernel
/-- what a crash leaves of them -/
theorem PF.left {chs : List NA} {nf : LG} {K : List (List UInt8)} (h : PF chs nf K) (hK : K.length ≤ 100) (nb : (nf.map (·.2.b)).Nodup) {cs : List Int} {gs : LG} {ws : List WL} (n : Nat) (hn : n ≤ K.length)
    (g1 : (gs.map Prod.fst).Nodup) (g2 : ∀ l, l ∈ gs.map Prod.fst ↔ (nrun (chs.take n) (fun _ => none) l).isSome = true) (g3 : ∀ p ∈ gs, p.2 ∈ nf.map (·.2) ∧ nrun (chs.take n) (fun _ => none) p.1 = some p.2.b)
    (g4 : ws.Perm (wls gs)) (g5 : ws.Pairwise fun x y => x.l.tn ≤ y.l.tn) : srF (lfs cs 1 gs ws) = (List.range n).map fun i => (ltr i, (K.getD i []).take (cz cs (i + 1) (K.getD i []).length)) := by
  have hR := h.run hK n hn
  have hnl := h.nl
  -- each of them is a file
  have q1 : ∀ p ∈ gs, ∃ i, ∃ hi : i < nf.length, i < n ∧ p = nf[i] := fun p hp => by
    obtain ⟨h1, h2⟩ := g3 p hp
    obtain ⟨i, hi, hin, e1, e2⟩ := (hR _ _).1 h2
    refine ⟨i, hi, hin, ?_⟩
    obtain ⟨q, hq, e3⟩ := List.mem_map.1 h1
    obtain ⟨j, hj, rfl⟩ := List.getElem_of_mem hq
    have : i = j := by
      have h4 : (nf.map (·.2.b))[i]'(by simpa using hi) = (nf.map (·.2.b))[j]'(by simpa using hj) := by
        rw [List.getElem_map, List.getElem_map, e3]
        exact e2.symm
      exact (List.getElem_inj nb).1 h4
    subst this
    have h5 := (h.fl i (by omega)).1
    rw [Prod.ext_iff]
    exact ⟨e1.trans h5.symm, e3.symm⟩
  have q2 : ∀ i, i < n → ∃ j, ∃ hj : j < gs.length, ∃ hi : i < nf.length, gs[j] = nf[i] := fun i hi => by
    have hin : i < nf.length := by omega
    have h1 : ltr i ∈ gs.map Prod.fst := (g2 _).2 (by rw [(hR _ _).2 ⟨i, hin, hi, rfl, rfl⟩]; rfl)
    obtain ⟨p, hp, e⟩ := List.mem_map.1 h1
    obtain ⟨i', hi', hin', e'⟩ := q1 p hp
    have : i = i' := ltr_inj i (by omega) i' (by omega) (by rw [← e, e']; exact (h.fl i' (by omega)).1)
    subst this
    obtain ⟨j, hj, rfl⟩ := List.getElem_of_mem hp
    exact ⟨j, hj, hin, e'⟩
  -- the writes' turns are 0, 1, ..
  have q3 : ws.map (·.l.tn) = (List.range n).map fun i : Nat => (i : Int) := by
    refine List.Perm.eq_of_pairwise (le := fun x y : Int => x ≤ y) (fun _ _ _ _ h k => Int.le_antisymm h k) (List.pairwise_map.2 g5) ?_ ?_
    · rw [List.pairwise_map]
      refine List.Pairwise.imp (fun hlt => ?_) List.pairwise_lt_range
      omega
    · refine (g4.map _).trans ?_
      rw [wls_tn]
      have e : (gs.flatMap fun p => p.2.lo.map (·.tn)) = gs.map fun p => (p.2.lo.map (·.tn)).headD 0 := by
        refine fm_single _ _ gs (fun p hp => ?_)
        obtain ⟨i, hi, hin, rfl⟩ := q1 p hp
        obtain ⟨_, _, _, ⟨l, hl, _⟩, _⟩ := h.fl i (by omega)
        rw [hl]
        rfl
      rw [e]
      refine (List.perm_ext_iff_of_nodup ?_ ?_).2 (fun x => ?_)
      · have e2 : (gs.map fun p => (p.2.lo.map (·.tn)).headD 0).map (fun t : Int => ltr t.toNat) = gs.map Prod.fst := by
          rw [List.map_map]
          refine List.map_congr_left (fun p hp => ?_)
          obtain ⟨i, hi, hin, rfl⟩ := q1 p hp
          obtain ⟨h1, _, _, ⟨l, hl, _, _, ht⟩, _⟩ := h.fl i (by omega)
          show ltr ((nf[i].2.lo.map LW.tn).headD 0).toNat = nf[i].1
          rw [hl, h1]
          show ltr l.tn.toNat = ltr i
          rw [ht]
          rfl
        rw [← e2] at g1
        exact nd_of_map _ _ g1
      · exact List.Pairwise.map _ (fun a b hab e => hab (by exact_mod_cast e)) List.nodup_range
      · rw [List.mem_map, List.mem_map]
        constructor
        · rintro ⟨p, hp, rfl⟩
          obtain ⟨i, hi, hin, rfl⟩ := q1 p hp
          obtain ⟨_, _, _, ⟨l, hl, _, _, ht⟩, _⟩ := h.fl i (by omega)
          exact ⟨i, List.mem_range.2 hin, by rw [hl]; exact ht.symm⟩
        · rintro ⟨i, hi, rfl⟩
          have hi := List.mem_range.1 hi
          obtain ⟨j, hj, hin, e⟩ := q2 i hi
          obtain ⟨_, _, _, ⟨l, hl, _, _, ht⟩, _⟩ := h.fl i (by omega)
          exact ⟨gs[j], List.getElem_mem hj, by rw [e, hl]; exact ht⟩
  have q4 : ws.length = n := by have := congrArg List.length q3; simpa using this
  have q5 : ∀ j (hj : j < ws.length), ws[j].l.tn = (j : Int) := fun j hj => by
    have := congrArg (fun l => l[j]?) q3
    simp only [List.getElem?_map, List.getElem?_eq_getElem hj, Option.map_some] at this
    rw [List.getElem?_range (by omega)] at this
    exact Option.some.inj this
  -- a file's bytes
  have q6 : ∀ i, i < n → ∀ j (hj : j < gs.length) (hi : i < nf.length), gs[j] = nf[i] → dat cs 1 j gs[j].2.lb ws = (K.getD i []).take (cz cs (i + 1) (K.getD i []).length) := fun i hin j hj hi e => by
    obtain ⟨_, h2, _, ⟨l, hl, hp, hd, ht⟩, _⟩ := h.fl i (by omega)
    have hw : ∀ m (hm : m < ws.length), ws[m].i = j → m = i := fun m hm e1 => by
      obtain ⟨hi1, hl1⟩ := wls_mem (g4.mem_iff.1 (List.getElem_mem hm))
      have e2 : gs[ws[m].i] = gs[j] := by congr 1
      rw [e2, e, hl, List.mem_singleton] at hl1
      have := q5 m hm
      rw [hl1, ht] at this
      omega
    obtain ⟨m, hm, e1⟩ := List.getElem_of_mem (g4.mem_iff.2 (wls_has hj (l := l) (by rw [e, hl]; exact List.mem_singleton.2 rfl)))
    have e3 := hw m hm (by rw [e1])
    subst e3
    rw [dat_one hm (by rw [e1]) (fun k hk hne e4 => hne (hw k hk e4)), e1, e, h2]
    show wr [] l.p (l.ds.take (cz cs (1 + m) l.ds.length)) = _
    have hKi : K.getD m [] = K[m]'(by omega) := by
      rw [List.getD_eq_getElem?_getD, List.getElem?_eq_getElem (by omega)]
      rfl
    rw [hp, wr_nil, hd, hKi, Nat.add_comm 1 m]
  have nd : ((lfs cs 1 gs ws).map Prod.fst).Nodup := by rw [lfs_fst]; exact g1
  refine srF_eq nd ((List.perm_ext_iff_of_nodup (nodup_of_fst ?_) (nodup_of_fst nd)).2 (fun x => ?_)) ?_
  · rw [List.map_map]
    exact List.Pairwise.map _ (fun a b hab => hab) (List.Pairwise.imp_of_mem (fun {a b} ha hb hab e => hab (ltr_inj a (by have := List.mem_range.1 ha; omega) b (by have := List.mem_range.1 hb; omega) e)) List.nodup_range)
  · rw [List.mem_map]
    constructor
    · rintro ⟨i, hi, rfl⟩
      have hi := List.mem_range.1 hi
      obtain ⟨j, hj, hin, e⟩ := q2 i hi
      refine List.mem_of_getElem? (i := j) ?_
      rw [lfs_get hj, q6 i hi j hj hin e, e, (h.fl i (by omega)).1]
    · intro hx
      obtain ⟨j, hj, e1⟩ := List.getElem_of_mem hx
      rw [lfs_len] at hj
      have e2 := lfs_get (cs := cs) (k0 := 1) (ws := ws) hj
      rw [List.getElem?_eq_getElem (by rw [lfs_len]; exact hj), e1] at e2
      obtain ⟨i, hi, hin, e3⟩ := q1 gs[j] (List.getElem_mem hj)
      refine ⟨i, List.mem_range.2 hin, ?_⟩
      rw [Option.some.inj e2, q6 i hin j hj hi e3, e3, (h.fl i (by omega)).1]
  · rw [List.map_map, List.pairwise_map]
    refine List.Pairwise.imp_of_mem (fun {a b} ha hb hab => ?_) List.pairwise_lt_range
    exact ltr_up a (by have := List.mem_range.1 ha; omega) b (by have := List.mem_range.1 hb; omega) hab
end Go.Proofs.YtepakbghhnkcfaaDoor
