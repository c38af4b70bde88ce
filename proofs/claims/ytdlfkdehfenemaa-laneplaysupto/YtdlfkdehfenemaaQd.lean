import Derived.Test.YtdlfkdehfenemaaQc
namespace Go.Proofs.Ytdlfkdehfenemaa
open Go.RowKit Go.Conc TextNum
/-- what is answered becomes the book's -/
def mvl (ℓ : Nat → Nat) (v : Value) : Nat → Nat := fun x => if v.ownBlock = some x then 4 else ℓ x
theorem mvl_is {ℓ : Nat → Nat} {v : Value} {x : Nat} (h : v.ownBlock = some x) : mvl ℓ v x = 4 := by unfold mvl; rw [if_pos h]
theorem mvl_no {ℓ : Nat → Nat} {v : Value} {x : Nat} (h : v.ownBlock ≠ some x) : mvl ℓ v x = ℓ x := by unfold mvl; rw [if_neg h]
theorem BS.held {w0 w w' : World} {ℓ : Nat → Nat} {pb bb M k : Nat} {L : List HE} {ap rp : Nat → Option Addr} {on : Nat → Bool} {S : NS} {R : RS} (h : BS w0 w ℓ pb bb M k L ap rp on S R) (hk : k < 2) {mv v2 : Value} {d : List UInt8} {mk : UInt8} {ba ba' : Option Addr} {bc bc' : Nat}
    (hb : BI w ℓ bb L ba bc) (hmv : ∀ x, mv.ownBlock = some x → ℓ x = 2 * k ∧ ¬ own S x ∧ ¬ rds S x) (hd : d.length ≤ 1099511627775)
    (q1 : At w' bb 90 [.slice ba' (L.length + 1) bc']) (q2 : w'.ownsRow 0 132 3 (.slice ba' (L.length + 1) bc') (L.length + 1) (hcl (L ++ [(mv, v2, mk)]))) (q3 : Ow w' 0 mv (List.replicate d.length mk)) (q4 : Ow w' 0 v2 (List.replicate (d.length + 1) mk))
    (q5 : Frs w mv v2) (q6 : Frs w (.slice ba L.length bc) (.slice ba' (L.length + 1) bc')) (q7 : Fr (fun x => x = bb ∨ mv.ownBlock = some x ∨ (Value.slice ba L.length bc).ownBlock = some x) w w') :
    ∃ ℓ', BS w0 w' ℓ' pb bb M k (L ++ [(mv, v2, mk)]) ap rp on S R := by
  have e1 : ∀ x, ℓ x ≠ 2 * k → mvl ℓ mv x = ℓ x := fun x hx => mvl_no (fun e => hx (hmv x e).1)
  have lt4 : ∀ x, (x = bb ∨ mv.ownBlock = some x ∨ (Value.slice ba L.length bc).ownBlock = some x) → mvl ℓ mv x = 4 := fun x hx => by
    rcases hx with rfl | hx | hx
    · rw [e1 _ (by rw [hb.lb]; omega)]; exact hb.lb
    · exact mvl_is hx
    · rw [e1 _ (by rw [hb.lr x hx]; omega)]; exact hb.lr x hx
  have hT4 : ∀ x, (x = bb ∨ mv.ownBlock = some x ∨ (Value.slice ba L.length bc).ownBlock = some x) → x < w.heap.size → rl (mvl ℓ mv) w.heap.size 4 x = 4 := fun x hx hl => by rw [rl_lo hl]; exact lt4 x hx
  have eL : ∀ x, x < w.heap.size → ℓ x ≠ 2 * k → rl (mvl ℓ mv) w.heap.size 4 x = ℓ x := fun x hl hx => by rw [rl_lo hl]; exact e1 x hx
  refine ⟨rl (mvl ℓ mv) w.heap.size 4, ⟨?_, ?_, ?_⟩⟩
  · have hla : ∀ x, x < w0.heap.size → rl (mvl ℓ mv) w.heap.size 4 x = 9 := fun x hx => by
      have := h.x.la x hx
      rw [eL x (Nat.lt_of_lt_of_le hx h.x.up.size) (by omega)]
      exact this
    have hlp : rl (mvl ℓ mv) w.heap.size 4 pb = 7 := by
      have := h.x.lp
      rw [eL pb (lt_of_at h.x.p) (by omega)]
      exact this
    refine ⟨fr_up9 h.x.up hla q7 (fun x hx hl => by rw [hT4 x hx hl]; decide), hla, q7.at h.x.p (fun hx => by have := hT4 pb hx (lt_of_at h.x.p); omega), hlp, fun j hj hne => ?_, ba', bc', ?_⟩
    · exact ((h.x.n j hj hne).to (fun x hx e => eL x hx (by omega))).fr q7 (fun x hx hl => by rw [hT4 x hx hl]; omega)
    · refine ⟨by rw [List.length_append]; exact q1, by rw [List.length_append]; exact q2, fun e he => ?_, ?_, fun x hx => ?_, fun e he x hx => ?_⟩
      · rcases List.mem_append.1 he with he | he
        · obtain ⟨p, hp, h1, h2⟩ := hb.en e he
          have no : ∀ {v : Value} {ds : List UInt8}, Ow w 0 v ds → (∀ x, v.ownBlock = some x → ℓ x = 4) → ∀ g, v.ownBlock = some g → ¬ (g = bb ∨ mv.ownBlock = some g ∨ (Value.slice ba L.length bc).ownBlock = some g) := fun ho hl g hg hx => by
            have t := row_tag ho hg
            rcases hx with rfl | hx | hx
            · rw [hb.bx.tag] at t; cases t
            · have := (hmv g hx).1
              have := hl g hg
              omega
            · rw [row_tag hb.ro hx] at t; cases t
          exact ⟨p, hp, q7.own h1 (no h1 (fun x hx => hb.le e he x (.inl hx))), q7.own h2 (no h2 (fun x hx => hb.le e he x (.inr hx)))⟩
        · obtain rfl := List.mem_singleton.1 he
          exact ⟨d.length, by omega, q3, q4⟩
      · exact hT4 bb (.inl rfl) (lt_of_at hb.bx)
      · have hx' : (Value.slice ba' (L.length + 1) bc').ownBlock = some x := by rw [List.length_append] at hx; exact hx
        rcases q6 x hx' with h1 | h1
        · exact hT4 x (.inr (.inr h1)) (World.ownsRow.lt hb.ro x h1).2
        · exact rl_hi h1
      · rcases List.mem_append.1 he with he | he
        · have h4 := hb.le e he x hx
          have hl : x < w.heap.size := by
            obtain ⟨p, hp, h1, h2⟩ := hb.en e he
            rcases hx with hx | hx
            · exact (World.ownsRow.lt h1 x hx).2
            · exact (World.ownsRow.lt h2 x hx).2
          rw [eL x hl (by omega)]
          exact h4
        · obtain rfl := List.mem_singleton.1 he
          have key : ∀ x, mv.ownBlock = some x → rl (mvl ℓ mv) w.heap.size 4 x = 4 := fun x hx => by
            rcases Nat.lt_or_ge x w.heap.size with h1 | h1
            · exact hT4 x (.inr (.inl hx)) h1
            · exact rl_hi h1
          rcases hx with hx | hx
          · exact key x hx
          · rcases q5 x hx with h1 | h1
            · exact key x h1
            · exact rl_hi h1
  · refine (h.s.to (fun x hx e ho => ?_)).fr q7 (fun x hx hl => by rw [hT4 x hx hl]; omega)
    rw [rl_lo hx, mvl_no (fun hm => (hmv x hm).2.1 (ho.resolve_right (hmv x hm).2.2))]
    exact e
  · exact (h.q.to (fun x hx e => by rw [eL x hx (by omega)]; exact e)).fr q7 (fun x hx hl => by rw [hT4 x hx hl]; omega)
theorem free_lab {w w' : World} {ℓ : Nat → Nat} {k j : Nat} {S S' : NS} {A : AN} {mv : Value} {d : List UInt8} (h : SI w ℓ k S) (s : Stp w.heap.size j w w' S S' A) (f : Free w S S' mv) (o : Ow w' 0 mv d) : ∀ x, mv.ownBlock = some x → rl ℓ w.heap.size (2 * k) x = 2 * k ∧ ¬ own S' x ∧ ¬ rds S' x := fun x hx => by
  obtain ⟨h1, h2⟩ := f x hx
  have t := row_tag o hx
  refine ⟨?_, fun e => ?_, fun e => ?_⟩
  · rcases h1 with h1 | h1
    · rw [rl_lo (h.ok.ltr h1)]
      exact h.lb x (.inr h1)
    · exact rl_hi h1
  · rcases s.ok.tag e with q | q | q | q | q <;> rw [t] at q <;> cases q
  · rcases e with e | ⟨m, hm, e⟩
    · rw [s.ok.fts.tag e] at t; cases t
    · exact cm_not (h2 h.md) m hm e
/-- both sides, behind their calls -/
structure EQ (S S1 : NS) (R R1 : RS) (M : Nat) : Prop where
  e : abs S1 = absR R1
  m : ML (abs S1)
  n : S1.mn ≤ M + 1
  t : S1.now ≤ 65536 * (M + 1)
  s : R1.st ≤ M + 1
  a : S1.nb = S.nb
  b : R1.nb = R.nb
set_option maxRecDepth 100000 in
set_option maxHeartbeats 4000000 in
theorem waits_wait (w0 w : World) (ℓ : Nat → Nat) (pb bb M k : Nat) (L : List HE) (ap rp : Nat → Option Addr) (on : Nat → Bool) (hP : PI w0 w ℓ pb bb M L ap rp on) (hk : k < 2) (hon : on k = true) (hM : M ≤ 1073741824) (hLn : L.length ≤ M) (nz lz tz : Int) (lv dv : Value) :
    Calls Try.prog 59 #[.pointer (some ⟨pb, 0, none⟩), .int .i64 (k : Int), .agg (opc 2 nz lz tz lv dv).toArray] w fun e w' => e = .returned (.bool true) ∧ ∃ ℓ' x, PI w0 w' ℓ' pb bb (M + 1) (L ++ [x]) ap rp on := by
  obtain ⟨S, R, ha, hr, hS, hQ, habs, hml, hmn, hnow, hst⟩ : ∃ S R, ap k = some ⟨S.nb, 0, none⟩ ∧ rp k = some ⟨R.nb, 0, none⟩ ∧ SI w ℓ k S ∧ QI w ℓ k R ∧ abs S = absR R ∧ ML (abs S) ∧ S.mn ≤ M ∧ S.now ≤ 65536 * M ∧ R.st ≤ M := by
    rcases hP.n k hk with h | ⟨_, h⟩
    · rw [hon] at h; cases h
    · exact h
  have HBS := Hid.of (show BS w0 w ℓ pb bb M k L ap rp on S R from ⟨hP.x k hk, hS, hQ⟩)
  have hkz : (k : Int) < 2 := by omega
  have HABS := Hid.of habs
  have HAP := Hid.of (And.intro ha hr)
  have HBD := Hid.of (And.intro hmn (And.intro hnow hst))
  have HML := Hid.of hml
  have HU0 := Hid.of ((Up.refl w).alloc (.cells #[.int .i64 2, .int .i64 nz, .int .i64 lz, .int .i64 tz, lv, dv] 108))
  have HB0 := Hid.of (at_new w 108 (opc 2 nz lz tz lv dv))
  clear hP hS hQ habs ha hr hmn hnow hst hml
  go_enter Try.func59, Try.ntmps59
  go_wp2_with (with_reducible show wpList _ _ _ ({ dst := _, op := Op.fieldAddr _ _ _, type := _, pos := _, after := _, guard := _ } :: _) _ _; refine Shut.out ?_)
  show wpList _ _ _ _ _ _
  have HBS2 := Hid.of (HBS.out.up hk HU0.out)
  clear HBS
  generalize w.alloc (.cells #[.int .i64 2, .int .i64 nz, .int .i64 lz, .int .i64 tz, lv, dv] 108) = w2 at *
  generalize hbx : w.heap.size = bx at HB0 ⊢
  clear hbx
  have HB2 := Hid.of HB0.out
  have HPN := Hid.of (And.intro (play_not_own HBS2.out.s.ok HBS2.out.x.p) (op_not_own HBS2.out.s.ok HB2.out))
  have b0 := HB2.out.cell (i := 0) rfl
  clear HB0 HU0
  go_wp2
  clear b0
  refine wp_region_held_drew (S := fun wz => Fr (own S) w2 wz) (by kernel_rfl) ((Fr.refl _ _).up (Up.refl _).drew) (fun hS => ?_)
  refine wpAnyH_take (i := 0) (oi := { dst := some 27, op := Go.Op.move (Go.Operand.tmp 0), type := 31, pos := "law.go:184", after := #[], guard := none }) (v := .pointer (some ⟨pb, 0, none⟩)) rfl (by kernel_rfl) (by kernel_rfl) (by kernel_rfl) (fun _ _ _ h => h) (Or.inl ⟨by kernel_rfl, ?_⟩) hS ?_
  · intro w5 hSw
    clear hSw hS
    go_simp
  simp only [Act.put, List.setIfInBounds_toArray, List.set_cons_zero, List.set_cons_succ]
  refine wpAnyH_take (i := 1) (oi := { dst := some 28, op := Go.Op.move (Go.Operand.tmp 1), type := 3, pos := "law.go:184", after := #[], guard := none }) (v := .int .i64 (k : Int)) rfl (by kernel_rfl) (by kernel_rfl) (by kernel_rfl) (fun _ _ _ h => h) (Or.inl ⟨by kernel_rfl, ?_⟩) hS ?_
  · intro w5 hSw
    clear hSw hS
    go_simp
  simp only [Act.put, List.setIfInBounds_toArray, List.set_cons_zero, List.set_cons_succ]
  refine wpAnyH_take (i := 2) (oi := { dst := some 29, op := Go.Op.nilCheck (Go.Operand.tmp 27), type := 0, pos := "law.go:184", after := #[{ on := 0, ground := Go.Ground.data }], guard := none }) (v := .pointer (some ⟨pb, 0, none⟩)) rfl (by kernel_rfl) (by kernel_rfl) (by kernel_rfl) (fun _ _ _ h => h) (Or.inl ⟨by kernel_rfl, ?_⟩) hS ?_
  · intro w5 hSw
    clear hSw hS
    go_simp
  simp only [Act.put, List.setIfInBounds_toArray, List.set_cons_zero, List.set_cons_succ]
  refine wpAnyH_take (i := 3) (oi := { dst := some 30, op := Go.Op.fieldAddr 40 (Go.Operand.tmp 29) 0, type := 0, pos := "law.go:184", after := #[{ on := 2, ground := Go.Ground.data }], guard := none }) (v := .pointer (some ⟨pb, 0, none⟩)) rfl (by kernel_rfl) (by kernel_rfl) (by kernel_rfl) (fun _ _ _ h => h) (Or.inl ⟨by kernel_rfl, ?_⟩) hS ?_
  · intro w5 hSw
    clear hSw hS
    go_simp
  simp only [Act.put, List.setIfInBounds_toArray, List.set_cons_zero, List.set_cons_succ]
  refine wpAnyH_take (i := 4) (oi := { dst := some 31, op := Go.Op.indexAddr 34 (Go.Operand.tmp 30) (Go.Operand.tmp 28), type := 0, pos := "law.go:184", after := #[{ on := 3, ground := Go.Ground.data }, { on := 1, ground := Go.Ground.data }], guard := none }) (v := .pointer (some ⟨pb, k, none⟩)) rfl (by kernel_rfl) (by kernel_rfl) (by kernel_rfl) (fun _ _ _ h => h) (Or.inl ⟨by kernel_rfl, ?_⟩) hS ?_
  · intro w5 hSw
    clear hSw hS
    go_simp
  simp only [Act.put, List.setIfInBounds_toArray, List.set_cons_zero, List.set_cons_succ]
  refine wpAnyH_take (i := 5) (oi := { dst := some 32, op := Go.Op.load 22 (Go.Operand.tmp 31), type := 22, pos := "law.go:184", after := #[{ on := 4, ground := Go.Ground.data }], guard := none }) (v := .pointer (some ⟨S.nb, 0, none⟩)) rfl (by kernel_rfl) (by kernel_rfl) (by kernel_rfl) (fun _ _ _ h => h) (Or.inl ⟨by kernel_rfl, ?_⟩) hS ?_
  · intro w5 hSw
    have h0 := (hSw.at HBS2.out.x.p HPN.out.1).cell (PSf_a hk)
    rw [HAP.out.1] at h0
    clear hSw hS
    go_simp
  simp only [Act.put, List.setIfInBounds_toArray, List.set_cons_zero, List.set_cons_succ]
  refine wpAnyH_take (i := 6) (oi := { dst := some 33, op := Go.Op.fieldAddr 108 (Go.Operand.tmp 5) 2, type := 0, pos := "law.go:184", after := #[], guard := none }) (v := .pointer (some ⟨bx, 2, none⟩)) rfl (by kernel_rfl) (by kernel_rfl) (by kernel_rfl) (fun _ _ _ h => h) (Or.inl ⟨by kernel_rfl, ?_⟩) hS ?_
  · intro w5 hSw
    clear hSw hS
    go_simp
  simp only [Act.put, List.setIfInBounds_toArray, List.set_cons_zero, List.set_cons_succ]
  refine wpAnyH_take (i := 7) (oi := { dst := some 34, op := Go.Op.load 3 (Go.Operand.tmp 33), type := 3, pos := "law.go:184", after := #[{ on := 6, ground := Go.Ground.data }], guard := none }) (v := .int .i64 lz) rfl (by kernel_rfl) (by kernel_rfl) (by kernel_rfl) (fun _ _ _ h => h) (Or.inl ⟨by kernel_rfl, ?_⟩) hS ?_
  · intro w5 hSw
    have h0 := (hSw.at HB2.out HPN.out.2).cell (i := 2) rfl
    clear hSw hS
    go_simp
  simp only [Act.put, List.setIfInBounds_toArray, List.set_cons_zero, List.set_cons_succ]
  refine wpAnyH_take (i := 8) (oi := { dst := some 35, op := Go.Op.fieldAddr 108 (Go.Operand.tmp 5) 3, type := 0, pos := "law.go:184", after := #[], guard := none }) (v := .pointer (some ⟨bx, 3, none⟩)) rfl (by kernel_rfl) (by kernel_rfl) (by kernel_rfl) (fun _ _ _ h => h) (Or.inl ⟨by kernel_rfl, ?_⟩) hS ?_
  · intro w5 hSw
    clear hSw hS
    go_simp
  simp only [Act.put, List.setIfInBounds_toArray, List.set_cons_zero, List.set_cons_succ]
  refine wpAnyH_take (i := 9) (oi := { dst := some 36, op := Go.Op.load 3 (Go.Operand.tmp 35), type := 3, pos := "law.go:184", after := #[{ on := 8, ground := Go.Ground.data }], guard := none }) (v := .int .i64 tz) rfl (by kernel_rfl) (by kernel_rfl) (by kernel_rfl) (fun _ _ _ h => h) (Or.inl ⟨by kernel_rfl, ?_⟩) hS ?_
  · intro w5 hSw
    have h0 := (hSw.at HB2.out HPN.out.2).cell (i := 3) rfl
    clear hSw hS
    go_simp
  simp only [Act.put, List.setIfInBounds_toArray, List.set_cons_zero, List.set_cons_succ]
  refine wpAnyH_ready (rs := [10]) (by kernel_rfl) (by simp) ?_
  refine AllReadyH.cons (o := { dst := some 37, op := Go.Op.call { callee := Go.Callee.value (Go.Operand.func 19), args := #[Go.Operand.tmp 32, Go.Operand.tmp 34, Go.Operand.tmp 36], argTypes := #[22, 3, 3] }, type := 48, pos := "law.go:184", after := #[{ on := 5, ground := Go.Ground.data }, { on := 7, ground := Go.Ground.data }, { on := 9, ground := Go.Ground.data }], guard := none }) rfl (fun K hK => ?_) AllReadyH.nil
  rw [if_pos (by kernel_rfl)]
  have hC := PWait w2.drew S lz tz (HBS2.out.s.ok.up (Up.refl _).drew) HBS2.out.s.so (by have := HBD.out.2.1; omega) (by have := HBD.out.1; omega)
  go_simp
  refine hC.mono ?_
  rintro e w3 ⟨mv, S1, rfl, ho3, h3, hfree⟩
  have HBS3 := Hid.of ((HBS2.out.up hk (Up.refl _).drew).prog hk h3)
  have HMV3 := Hid.of (free_lab (HBS2.out.s.up (Up.refl _).drew) h3 hfree ho3)
  have HS1 := Hid.of (And.intro h3.ab (And.intro h3.mn h3.nb))
  have HF3 := Hid.of ((fr_of_up (own S) (Up.refl w2).drew).trans h3.fr (fun x hx => .inl hx))
  generalize rl ℓ w2.drew.heap.size (2 * k) = ℓ2 at HBS3 HMV3
  have HDL := Hid.of (show ((wtE (abs S) lz tz).1).length ≤ 1048576 from (HML.out.wt lz tz).2)
  generalize hD : (wtE (abs S) lz tz).1 = D at ho3 HDL
  have HD9 := Hid.of hD
  have HO3 := Hid.of (show Ow w3 0 mv D from ho3)
  have HB3 := Hid.of (HF3.out.at HB2.out HPN.out.2)
  clear h3 hC ho3 hfree hD
  dsimp only
  refine hK.out _ _ HF3.out (fun hS2 => ?_)
  clear hK K hS
  have hS := hS2
  clear hS2
  refine wpAnyH_take (i := 11) (oi := { dst := some 26, op := Go.Op.move (Go.Operand.tmp 37), type := 48, pos := "law.go:184", after := #[{ on := 10, ground := Go.Ground.data }], guard := none }) (v := .tuple #[mv, .int .i64 (wtE (abs S) lz tz).2]) rfl (by kernel_rfl) (by kernel_rfl) (by kernel_rfl) (fun _ _ _ h => h) (Or.inl ⟨by kernel_rfl, ?_⟩) hS ?_
  · intro w5 hSw
    clear hSw hS
    go_simp
  simp only [Act.put, List.setIfInBounds_toArray, List.set_cons_zero, List.set_cons_succ]
  refine wpAnyH_take (i := 12) (oi := { dst := some 38, op := Go.Op.extract (Go.Operand.tmp 26) 0, type := 47, pos := "law.go:184", after := #[{ on := 11, ground := Go.Ground.data }], guard := none }) (v := mv) rfl (by kernel_rfl) (by kernel_rfl) (by kernel_rfl) (fun _ _ _ h => h) (Or.inl ⟨by kernel_rfl, ?_⟩) hS ?_
  · intro w5 hSw
    clear hSw hS
    go_simp
  simp only [Act.put, List.setIfInBounds_toArray, List.set_cons_zero, List.set_cons_succ]
  refine wpAnyH_take (i := 13) (oi := { dst := some 39, op := Go.Op.extract (Go.Operand.tmp 26) 1, type := 23, pos := "law.go:184", after := #[{ on := 11, ground := Go.Ground.data }, { on := 14, ground := Go.Ground.gcOnly Go.Departure.lateStores }], guard := none }) (v := .int .i64 (wtE (abs S) lz tz).2) rfl (by kernel_rfl) (by kernel_rfl) (by kernel_rfl) (fun _ _ _ h => h) (Or.inl ⟨by kernel_rfl, ?_⟩) hS ?_
  · intro w5 hSw
    clear hSw hS
    go_simp
  simp only [Act.put, List.setIfInBounds_toArray, List.set_cons_zero, List.set_cons_succ]
  refine wpAnyH_ready (rs := [14]) (by kernel_rfl) (by simp) ?_
  refine AllReadyH.cons (o := { dst := some 7, op := Go.Op.assign (Go.Operand.tmp 38), type := 47, pos := "law.go:184", after := #[{ on := 12, ground := Go.Ground.data }, { on := 10, ground := Go.Ground.chain }, { on := 0, ground := Go.Ground.phase }, { on := 1, ground := Go.Ground.phase }, { on := 2, ground := Go.Ground.phase }, { on := 3, ground := Go.Ground.phase }, { on := 4, ground := Go.Ground.phase }, { on := 5, ground := Go.Ground.phase }, { on := 6, ground := Go.Ground.phase }, { on := 7, ground := Go.Ground.phase }, { on := 8, ground := Go.Ground.phase }, { on := 9, ground := Go.Ground.phase }, { on := 10, ground := Go.Ground.phase }, { on := 11, ground := Go.Ground.phase }, { on := 12, ground := Go.Ground.phase }, { on := 13, ground := Go.Ground.textOnly Go.Departure.lateStores }], guard := none }) rfl (fun K hK => ?_) AllReadyH.nil
  rw [if_pos (by kernel_rfl)]
  go_simp
  refine hK.out _ _ hS (fun hS2 => ?_)
  clear hK K hS
  have hS := hS2
  clear hS2
  refine wpAnyH_ready (rs := [15]) (by kernel_rfl) (by simp) ?_
  refine AllReadyH.cons (o := { dst := some 8, op := Go.Op.assign (Go.Operand.tmp 39), type := 23, pos := "law.go:184", after := #[{ on := 13, ground := Go.Ground.data }, { on := 14, ground := Go.Ground.chain }, { on := 0, ground := Go.Ground.phase }, { on := 1, ground := Go.Ground.phase }, { on := 2, ground := Go.Ground.phase }, { on := 3, ground := Go.Ground.phase }, { on := 4, ground := Go.Ground.phase }, { on := 5, ground := Go.Ground.phase }, { on := 6, ground := Go.Ground.phase }, { on := 7, ground := Go.Ground.phase }, { on := 8, ground := Go.Ground.phase }, { on := 9, ground := Go.Ground.phase }, { on := 10, ground := Go.Ground.phase }, { on := 11, ground := Go.Ground.phase }, { on := 12, ground := Go.Ground.phase }, { on := 13, ground := Go.Ground.phase }, { on := 14, ground := Go.Ground.phase }], guard := none }) rfl (fun K hK => ?_) AllReadyH.nil
  rw [if_pos (by kernel_rfl)]
  go_simp
  refine hK.out _ _ hS (fun hS2 => ?_)
  clear hK K hS hS2
  refine wpAnyH_done (by kernel_rfl) ?_ _
  have HPN3 := Hid.of (And.intro (play_not_rown HBS3.out.q.ok HBS3.out.x.p) (op_not_rown HBS3.out.q.ok HB3.out))
  go_wp2
  refine wp_region_held_drew (S := fun wz => Fr (rown R) w3 wz) (by kernel_rfl) ((Fr.refl _ _).up (Up.refl _).drew) (fun hS => ?_)
  refine wpAnyH_take (i := 0) (oi := { dst := some 41, op := Go.Op.move (Go.Operand.tmp 0), type := 31, pos := "law.go:185", after := #[], guard := none }) (v := .pointer (some ⟨pb, 0, none⟩)) rfl (by kernel_rfl) (by kernel_rfl) (by kernel_rfl) (fun _ _ _ h => h) (Or.inl ⟨by kernel_rfl, ?_⟩) hS ?_
  · intro w5 hSw
    clear hSw hS
    go_simp
  simp only [Act.put, List.setIfInBounds_toArray, List.set_cons_zero, List.set_cons_succ]
  refine wpAnyH_take (i := 1) (oi := { dst := some 42, op := Go.Op.move (Go.Operand.tmp 1), type := 3, pos := "law.go:185", after := #[], guard := none }) (v := .int .i64 (k : Int)) rfl (by kernel_rfl) (by kernel_rfl) (by kernel_rfl) (fun _ _ _ h => h) (Or.inl ⟨by kernel_rfl, ?_⟩) hS ?_
  · intro w5 hSw
    clear hSw hS
    go_simp
  simp only [Act.put, List.setIfInBounds_toArray, List.set_cons_zero, List.set_cons_succ]
  refine wpAnyH_take (i := 2) (oi := { dst := some 43, op := Go.Op.nilCheck (Go.Operand.tmp 41), type := 0, pos := "law.go:185", after := #[{ on := 0, ground := Go.Ground.data }], guard := none }) (v := .pointer (some ⟨pb, 0, none⟩)) rfl (by kernel_rfl) (by kernel_rfl) (by kernel_rfl) (fun _ _ _ h => h) (Or.inl ⟨by kernel_rfl, ?_⟩) hS ?_
  · intro w5 hSw
    clear hSw hS
    go_simp
  simp only [Act.put, List.setIfInBounds_toArray, List.set_cons_zero, List.set_cons_succ]
  refine wpAnyH_take (i := 3) (oi := { dst := some 44, op := Go.Op.fieldAddr 40 (Go.Operand.tmp 43) 1, type := 0, pos := "law.go:185", after := #[{ on := 2, ground := Go.Ground.data }], guard := none }) (v := .pointer (some ⟨pb, 2, none⟩)) rfl (by kernel_rfl) (by kernel_rfl) (by kernel_rfl) (fun _ _ _ h => h) (Or.inl ⟨by kernel_rfl, ?_⟩) hS ?_
  · intro w5 hSw
    clear hSw hS
    go_simp
  simp only [Act.put, List.setIfInBounds_toArray, List.set_cons_zero, List.set_cons_succ]
  refine wpAnyH_take (i := 4) (oi := { dst := some 45, op := Go.Op.indexAddr 36 (Go.Operand.tmp 44) (Go.Operand.tmp 42), type := 0, pos := "law.go:185", after := #[{ on := 3, ground := Go.Ground.data }, { on := 1, ground := Go.Ground.data }], guard := none }) (v := .pointer (some ⟨pb, 2 + k, none⟩)) rfl (by kernel_rfl) (by kernel_rfl) (by kernel_rfl) (fun _ _ _ h => h) (Or.inl ⟨by kernel_rfl, ?_⟩) hS ?_
  · intro w5 hSw
    clear hSw hS
    go_simp
  simp only [Act.put, List.setIfInBounds_toArray, List.set_cons_zero, List.set_cons_succ]
  refine wpAnyH_take (i := 5) (oi := { dst := some 46, op := Go.Op.load 35 (Go.Operand.tmp 45), type := 35, pos := "law.go:185", after := #[{ on := 4, ground := Go.Ground.data }], guard := none }) (v := .pointer (some ⟨R.nb, 0, none⟩)) rfl (by kernel_rfl) (by kernel_rfl) (by kernel_rfl) (fun _ _ _ h => h) (Or.inl ⟨by kernel_rfl, ?_⟩) hS ?_
  · intro w5 hSw
    have h0 := (hSw.at HBS3.out.x.p HPN3.out.1).cell (PSf_r hk)
    rw [HAP.out.2] at h0
    clear hSw hS
    go_simp
  simp only [Act.put, List.setIfInBounds_toArray, List.set_cons_zero, List.set_cons_succ]
  refine wpAnyH_take (i := 6) (oi := { dst := some 47, op := Go.Op.fieldAddr 108 (Go.Operand.tmp 5) 2, type := 0, pos := "law.go:185", after := #[], guard := none }) (v := .pointer (some ⟨bx, 2, none⟩)) rfl (by kernel_rfl) (by kernel_rfl) (by kernel_rfl) (fun _ _ _ h => h) (Or.inl ⟨by kernel_rfl, ?_⟩) hS ?_
  · intro w5 hSw
    clear hSw hS
    go_simp
  simp only [Act.put, List.setIfInBounds_toArray, List.set_cons_zero, List.set_cons_succ]
  refine wpAnyH_take (i := 7) (oi := { dst := some 48, op := Go.Op.load 3 (Go.Operand.tmp 47), type := 3, pos := "law.go:185", after := #[{ on := 6, ground := Go.Ground.data }], guard := none }) (v := .int .i64 lz) rfl (by kernel_rfl) (by kernel_rfl) (by kernel_rfl) (fun _ _ _ h => h) (Or.inl ⟨by kernel_rfl, ?_⟩) hS ?_
  · intro w5 hSw
    have h0 := (hSw.at HB3.out HPN3.out.2).cell (i := 2) rfl
    clear hSw hS
    go_simp
  simp only [Act.put, List.setIfInBounds_toArray, List.set_cons_zero, List.set_cons_succ]
  refine wpAnyH_take (i := 8) (oi := { dst := some 49, op := Go.Op.fieldAddr 108 (Go.Operand.tmp 5) 3, type := 0, pos := "law.go:185", after := #[], guard := none }) (v := .pointer (some ⟨bx, 3, none⟩)) rfl (by kernel_rfl) (by kernel_rfl) (by kernel_rfl) (fun _ _ _ h => h) (Or.inl ⟨by kernel_rfl, ?_⟩) hS ?_
  · intro w5 hSw
    clear hSw hS
    go_simp
  simp only [Act.put, List.setIfInBounds_toArray, List.set_cons_zero, List.set_cons_succ]
  refine wpAnyH_take (i := 9) (oi := { dst := some 50, op := Go.Op.load 3 (Go.Operand.tmp 49), type := 3, pos := "law.go:185", after := #[{ on := 8, ground := Go.Ground.data }], guard := none }) (v := .int .i64 tz) rfl (by kernel_rfl) (by kernel_rfl) (by kernel_rfl) (fun _ _ _ h => h) (Or.inl ⟨by kernel_rfl, ?_⟩) hS ?_
  · intro w5 hSw
    have h0 := (hSw.at HB3.out HPN3.out.2).cell (i := 3) rfl
    clear hSw hS
    go_simp
  simp only [Act.put, List.setIfInBounds_toArray, List.set_cons_zero, List.set_cons_succ]
  refine wpAnyH_ready (rs := [10]) (by kernel_rfl) (by simp) ?_
  refine AllReadyH.cons (o := { dst := some 51, op := Go.Op.call { callee := Go.Callee.value (Go.Operand.func 70), args := #[Go.Operand.tmp 46, Go.Operand.tmp 48, Go.Operand.tmp 50], argTypes := #[35, 3, 3] }, type := 140, pos := "law.go:185", after := #[{ on := 5, ground := Go.Ground.data }, { on := 7, ground := Go.Ground.data }, { on := 9, ground := Go.Ground.data }], guard := none }) rfl (fun K hK => ?_) AllReadyH.nil
  rw [if_pos (by kernel_rfl)]
  have hC := QWait w3.drew R lz tz (HBS3.out.q.ok.up (Up.refl _).drew) (by rw [← HABS.out]; exact ASo.of HBS2.out.s.so) (by rw [now_eq HABS.out]; have := HBD.out.2.1; omega) (by have := pd_bound HBS2.out.s.so HABS.out; have := HBD.out.1; omega)
  rw [← HABS.out] at hC
  go_simp
  refine hC.mono ?_
  rintro e w4 ⟨mr, R1, rfl, ho4, h4, hst4⟩
  have HBS4 := Hid.of ((HBS3.out.up hk (Up.refl _).drew).doc hk h4)
  have HF4 := Hid.of ((fr_of_up (rown R) (Up.refl w3).drew).trans h4.fr (fun x hx => .inl hx))
  have HMV := Hid.of (show ∀ x, mv.ownBlock = some x → rl ℓ2 w3.drew.heap.size (2 * k + 1) x = 2 * k ∧ ¬ own S1 x ∧ ¬ rds S1 x from fun x hx => by
    rw [rl_lo (n := w3.drew.heap.size) (World.ownsRow.lt HO3.out x hx).2]
    exact HMV3.out x hx)
  generalize rl ℓ2 w3.drew.heap.size (2 * k + 1) = ℓ3 at HBS4 HMV
  have HO4 := Hid.of (show Ow w4 0 mv D from HF4.out.own HO3.out (u8_not_rown HBS3.out.q.ok HO3.out))
  have HQ4 := Hid.of (show Ow w4 0 mr D by rw [← HD9.out]; exact ho4)
  have HB4 := Hid.of (HF4.out.at HB3.out HPN3.out.2)
  have HEQ := Hid.of (show EQ S S1 R R1 M from ⟨by rw [HS1.out.1, h4.ab], by rw [HS1.out.1]; exact (HML.out.wt lz tz).1, by have := HS1.out.2.1; have := HBD.out.1; omega, by
    have h1 := congrArg AN.now HS1.out.1
    have h2 := wtR_now (abs S) lz tz
    rw [← h1] at h2
    have h3 : (abs S).now = S.now := rfl
    have h5 : (abs S1).now = S1.now := rfl
    have := HBD.out.2.1
    omega, by have := HBD.out.2.2; omega, HS1.out.2.2, h4.nb⟩)
  clear h4 hC hst4 ho4
  dsimp only
  refine hK.out _ _ HF4.out (fun hS2 => ?_)
  clear hK K hS
  have hS := hS2
  clear hS2
  refine wpAnyH_take (i := 11) (oi := { dst := some 40, op := Go.Op.move (Go.Operand.tmp 51), type := 140, pos := "law.go:185", after := #[{ on := 10, ground := Go.Ground.data }], guard := none }) (v := .tuple #[mr, .int .i64 (wtE (abs S) lz tz).2]) rfl (by kernel_rfl) (by kernel_rfl) (by kernel_rfl) (fun _ _ _ h => h) (Or.inl ⟨by kernel_rfl, ?_⟩) hS ?_
  · intro w5 hSw
    clear hSw hS
    go_simp
  simp only [Act.put, List.setIfInBounds_toArray, List.set_cons_zero, List.set_cons_succ]
  refine wpAnyH_take (i := 12) (oi := { dst := some 52, op := Go.Op.extract (Go.Operand.tmp 40) 0, type := 47, pos := "law.go:185", after := #[{ on := 11, ground := Go.Ground.data }], guard := none }) (v := mr) rfl (by kernel_rfl) (by kernel_rfl) (by kernel_rfl) (fun _ _ _ h => h) (Or.inl ⟨by kernel_rfl, ?_⟩) hS ?_
  · intro w5 hSw
    clear hSw hS
    go_simp
  simp only [Act.put, List.setIfInBounds_toArray, List.set_cons_zero, List.set_cons_succ]
  refine wpAnyH_take (i := 13) (oi := { dst := some 53, op := Go.Op.extract (Go.Operand.tmp 40) 1, type := 3, pos := "law.go:185", after := #[{ on := 11, ground := Go.Ground.data }, { on := 14, ground := Go.Ground.gcOnly Go.Departure.lateStores }], guard := none }) (v := .int .i64 (wtE (abs S) lz tz).2) rfl (by kernel_rfl) (by kernel_rfl) (by kernel_rfl) (fun _ _ _ h => h) (Or.inl ⟨by kernel_rfl, ?_⟩) hS ?_
  · intro w5 hSw
    clear hSw hS
    go_simp
  simp only [Act.put, List.setIfInBounds_toArray, List.set_cons_zero, List.set_cons_succ]
  refine wpAnyH_ready (rs := [14]) (by kernel_rfl) (by simp) ?_
  refine AllReadyH.cons (o := { dst := some 9, op := Go.Op.assign (Go.Operand.tmp 52), type := 47, pos := "law.go:185", after := #[{ on := 12, ground := Go.Ground.data }, { on := 10, ground := Go.Ground.chain }, { on := 0, ground := Go.Ground.phase }, { on := 1, ground := Go.Ground.phase }, { on := 2, ground := Go.Ground.phase }, { on := 3, ground := Go.Ground.phase }, { on := 4, ground := Go.Ground.phase }, { on := 5, ground := Go.Ground.phase }, { on := 6, ground := Go.Ground.phase }, { on := 7, ground := Go.Ground.phase }, { on := 8, ground := Go.Ground.phase }, { on := 9, ground := Go.Ground.phase }, { on := 10, ground := Go.Ground.phase }, { on := 11, ground := Go.Ground.phase }, { on := 12, ground := Go.Ground.phase }, { on := 13, ground := Go.Ground.textOnly Go.Departure.lateStores }], guard := none }) rfl (fun K hK => ?_) AllReadyH.nil
  rw [if_pos (by kernel_rfl)]
  go_simp
  refine hK.out _ _ hS (fun hS2 => ?_)
  clear hK K hS
  have hS := hS2
  clear hS2
  refine wpAnyH_ready (rs := [15]) (by kernel_rfl) (by simp) ?_
  refine AllReadyH.cons (o := { dst := some 10, op := Go.Op.assign (Go.Operand.tmp 53), type := 3, pos := "law.go:185", after := #[{ on := 13, ground := Go.Ground.data }, { on := 14, ground := Go.Ground.chain }, { on := 0, ground := Go.Ground.phase }, { on := 1, ground := Go.Ground.phase }, { on := 2, ground := Go.Ground.phase }, { on := 3, ground := Go.Ground.phase }, { on := 4, ground := Go.Ground.phase }, { on := 5, ground := Go.Ground.phase }, { on := 6, ground := Go.Ground.phase }, { on := 7, ground := Go.Ground.phase }, { on := 8, ground := Go.Ground.phase }, { on := 9, ground := Go.Ground.phase }, { on := 10, ground := Go.Ground.phase }, { on := 11, ground := Go.Ground.phase }, { on := 12, ground := Go.Ground.phase }, { on := 13, ground := Go.Ground.phase }, { on := 14, ground := Go.Ground.phase }], guard := none }) rfl (fun K hK => ?_) AllReadyH.nil
  rw [if_pos (by kernel_rfl)]
  go_simp
  refine hK.out _ _ hS (fun hS2 => ?_)
  clear hK K hS hS2
  refine wpAnyH_done (by kernel_rfl) ?_ _
  have hSame := same_any w4 mv mr D D (Ow.sb HO4.out) (Ow.sb HQ4.out) (by have := HDL.out; omega)
  rw [show (D == D) = true by simp] at hSame
  go_wp2_with (go_at_call 13; refine (num_walk _ _).mono ?_; rintro _ w9 ⟨rfl, h9⟩; obtain rfl := h9.symm; clear h9; dsimp only)
  refine hSame.mono ?_
  rintro e w5 ⟨rfl, u5⟩
  have HBS5 := Hid.of (HBS4.out.up hk u5)
  have HO5 := Hid.of (show Ow w5 0 mv D from ow_up HO4.out u5)
  clear hSame u5 HBS4 HO4 HQ4
  obtain ⟨ba, bc, hb⟩ := HBS5.out.x.b
  have HBI := Hid.of hb
  clear hb
  have hH := hold_walk w5 bb mv D ba L bc HBI.out.bx HBI.out.ro HO5.out (by have := HDL.out; omega) (by omega)
  have c6 := HBS5.out.x.p.cell (i := 6) rfl
  dsimp only
  go_wp2_with fail
  refine hH.mono ?_
  rintro e w6 ⟨rfl, ba', bc', v2, mk, q1, q2, q3, q4, q5, q6, q7⟩
  obtain ⟨ℓ6, h6⟩ := HBS5.out.held hk HBI.out HMV.out (by have := HDL.out; omega) q1 q2 q3 q4 q5 q6 q7
  have HBS6 := Hid.of h6
  clear q1 q2 q3 q4 q5 q6 q7 h6 hH c6
  dsimp only
  go_wp2
  go_ret
  exact ⟨by simp, ℓ6, _, HBS6.out.pi hk hon (by rw [HAP.out.1, HEQ.out.a]) (by rw [HAP.out.2, HEQ.out.b]) HEQ.out.e HEQ.out.m HEQ.out.n HEQ.out.t HEQ.out.s⟩
end Go.Proofs.Ytdlfkdehfenemaa
namespace Go.Proofs.Ytdlfkdehfenemaa
open Go.RowKit Go.Conc TextNum
theorem infoInt : (Try.prog.info? 3).map (fun i => (i.zero, i.size, i.bytes)) = some (some (.int .i64 0), 1, 8) := by kernel_rfl
def ivz (zs : List Int) : List Value := zs.map fun z => .int .i64 z
theorem ivz_len (zs : List Int) : (ivz zs).length = zs.length := by simp [ivz]
theorem ivz_get {zs : List Int} {j : Nat} (h : j < zs.length) : (ivz zs)[j]? = some (.int .i64 zs[j]) := by simp [ivz, h]
theorem ivz_set (zs : List Int) (j : Nat) (z : Int) : (ivz zs).set j (.int .i64 z) = ivz (zs.set j z) := by simp [ivz, List.map_set]
theorem mkInts (n : Nat) (hn : n ≤ 17592186044416) (w : World) : (Instr.makeSlice 51 (.int .i64 (n : Int)) (.int .i64 (n : Int))).run Try.prog w = .ok (.slice (some ⟨w.heap.size, 0, none⟩) n n) (w.alloc (.cells (ivz (List.replicate n 0)).toArray 3)) := by
  obtain ⟨i0, hi, hz0, hz1, hz2⟩ := info_parts infoInt
  have := run_make (P := Try.prog) w 51 3 i0 _ Try.underlying51 hi hz0 .i64 .i64 (n : Int) (n : Int) (by omega) (by omega) (by rw [hz2]; omega) (by omega)
  rw [hz1] at this
  simp only [Int.toNat_natCast, Nat.mul_one] at this
  have e : madeCells (Value.int .i64 0).cells n = (ivz (List.replicate n 0)).toArray := by
    apply Array.ext'
    rw [show (Value.int .i64 0).cells = #[Value.int .i64 0] from rfl, toList_madeCells_one]
    simp [ivz]
  rw [e] at this
  exact this
/-- the first i are z -/
def flz (z : Int) (l : List Int) (i : Nat) : List Int := List.replicate i z ++ l.drop i
theorem flz_len {z : Int} {l : List Int} {i : Nat} (h : i ≤ l.length) : (flz z l i).length = l.length := by simp [flz]; omega
theorem flz_set {z : Int} {l : List Int} {i : Nat} (h : i < l.length) : (flz z l i).set i z = flz z l (i + 1) := by
  unfold flz
  rw [List.set_append_right _ _ (by simp)]
  simp only [List.length_replicate, Nat.sub_self]
  rw [List.drop_eq_getElem_cons h, List.set_cons_zero, List.replicate_succ', List.append_assoc]
  rfl
theorem flz_zero (z : Int) (l : List Int) : flz z l 0 = l := by simp [flz]
theorem flz_all (z : Int) (l : List Int) : flz z l l.length = List.replicate l.length z := by simp [flz]
/-- the first i are those of zs, behind them N - i marks -/
def cpz (zs : List Int) (N i : Nat) : List Int := zs.take i ++ List.replicate (N - i) (-77)
theorem cpz_len {zs : List Int} {N i : Nat} (h : i ≤ zs.length) (hN : zs.length ≤ N) : (cpz zs N i).length = N := by simp [cpz]; omega
theorem cpz_set {zs : List Int} {N i : Nat} (h : i < zs.length) (hN : zs.length ≤ N) {z : Int} (hz : zs[i] = z) : (cpz zs N i).set i z = cpz zs N (i + 1) := by
  unfold cpz
  have hl : (zs.take i).length = i := by rw [List.length_take]; omega
  rw [List.set_append_right _ _ (by omega), hl, Nat.sub_self, show N - i = (N - (i + 1)) + 1 by omega, List.replicate_succ, List.set_cons_zero, List.take_succ_eq_append_getElem h, hz, List.append_assoc]
  rfl
theorem cpz_lo {zs : List Int} {N j : Nat} (h : j < zs.length) : (cpz zs N zs.length)[j]? = some zs[j] := by
  unfold cpz
  rw [List.take_length, List.getElem?_append_left h, List.getElem?_eq_getElem h]
theorem cpz_hi {zs : List Int} {N j : Nat} (h : zs.length ≤ j) (hj : j < N) : (cpz zs N zs.length)[j]? = some (-77) := by
  unfold cpz
  rw [List.take_length, List.getElem?_append_right h, List.getElem?_replicate, if_pos (by omega)]
theorem intz_not_own {w : World} {S : NS} (h : NOk w S) {b : Nat} {cs : List Value} (hA : At w b 3 cs) : ¬ own S b := fun e => by
  rcases h.tag e with t | t | t | t | t <;> rw [hA.tag] at t <;> cases t
theorem intz_not_rown {w : World} {R : RS} (h : ROk w R) {b : Nat} {cs : List Value} (hA : At w b 3 cs) : ¬ rown R b := fun e => by
  rcases h.tag e with t | t | t | t | t <;> rw [hA.tag] at t <;> cases t
set_option maxRecDepth 100000 in
set_option maxHeartbeats 8000000 in
theorem waits_any (w0 w : World) (ℓ : Nat → Nat) (pb bb M k : Nat) (L : List HE) (ap rp : Nat → Option Addr) (on : Nat → Bool) (hP : PI w0 w ℓ pb bb M L ap rp on) (hk : k < 2) (hon : on k = true) (hM : M ≤ 1073741824) (hLn : L.length ≤ M) (kz nz lz tz : Int) (lv dv : Value) (zs : List Int) (hkz2 : kz ≠ 2) (hI : IL w0 lv zs) (hzl : zs.length ≤ 1099511627000) :
    Calls Try.prog 59 #[.pointer (some ⟨pb, 0, none⟩), .int .i64 (k : Int), .agg (opc kz nz lz tz lv dv).toArray] w fun e w' => e = .returned (.bool true) ∧ ∃ ℓ' x, PI w0 w' ℓ' pb bb (M + 1) (L ++ [x]) ap rp on := by
  obtain ⟨S, R, ha, hr, hS, hQ, habs, hml, hmn, hnow, hst⟩ : ∃ S R, ap k = some ⟨S.nb, 0, none⟩ ∧ rp k = some ⟨R.nb, 0, none⟩ ∧ SI w ℓ k S ∧ QI w ℓ k R ∧ abs S = absR R ∧ ML (abs S) ∧ S.mn ≤ M ∧ S.now ≤ 65536 * M ∧ R.st ≤ M := by
    rcases hP.n k hk with h | ⟨_, h⟩
    · rw [hon] at h; cases h
    · exact h
  have HBS := Hid.of (show BS w0 w ℓ pb bb M k L ap rp on S R from ⟨hP.x k hk, hS, hQ⟩)
  have hkz : (k : Int) < 2 := by omega
  have hkz3 : (kz == 2) = false := by simpa using hkz2
  have HABS := Hid.of habs
  have HAP := Hid.of (And.intro ha hr)
  have HBD := Hid.of (And.intro hmn (And.intro hnow hst))
  have HML := Hid.of hml
  obtain ⟨la, lc, rfl, hlc, _⟩ := id hI
  have HIL := Hid.of hI
  have HIB := Hid.of hI.blk
  obtain ⟨n, hn⟩ : ∃ n, zs.length = n := ⟨_, rfl⟩
  have HNN := Hid.of (And.intro hn trivial)
  rw [hn] at hzl hlc HIB HIL ⊢
  have hn70 : IntKind.i64.wrap ((n : Int) + 70) = (n : Int) + 70 := by rw [IntKind.wrap_i64]; omega
  have hn71 : ¬ (n : Int) + 70 < (n : Int) := by omega
  have HU0 := Hid.of ((Up.refl w).alloc (.cells #[.int .i64 kz, .int .i64 nz, .int .i64 lz, .int .i64 tz, .slice la n lc, dv] 108))
  have HB0 := Hid.of (at_new w 108 (opc kz nz lz tz (.slice la n lc) dv))
  clear hP hS hQ habs ha hr hmn hnow hst hml hI hn
  go_enter Try.func59, Try.ntmps59
  go_wp2_with (with_reducible show wpList _ _ _ ({ dst := _, op := Op.fieldAddr _ _ _, type := _, pos := _, after := _, guard := _ } :: _) _ _; refine Shut.out ?_)
  show wpList _ _ _ _ _ _
  have HBS0 := Hid.of (HBS.out.up hk HU0.out)
  clear HBS
  generalize w.alloc (.cells #[.int .i64 kz, .int .i64 nz, .int .i64 lz, .int .i64 tz, .slice la n lc, dv] 108) = W0 at *
  generalize hbx : w.heap.size = bx at HB0 ⊢
  clear hbx
  have b0 := HB0.out.cell (i := 0) rfl
  have b4 := HB0.out.cell (i := 4) rfl
  have hmk := mkInts (n + 70) (by omega) W0
  rw [show ((n + 70 : Nat) : Int) = (n : Int) + 70 by omega] at hmk
  have HU1 := Hid.of ((Up.refl W0).alloc (.cells (ivz (List.replicate (n + 70) 0)).toArray 3))
  have HA1 := Hid.of (at_new W0 3 (ivz (List.replicate (n + 70) 0)))
  clear HU0
  go_wp2
  generalize hW1 : W0.alloc (.cells (ivz (List.replicate (n + 70) 0)).toArray 3) = W1 at *
  have HLB := Hid.of (Nat.le_refl W0.heap.size)
  generalize hlb : W0.heap.size = lb at HA1 HLB ⊢
  have HLE := Hid.of hlb
  clear hmk hW1 b0 b4 hlb
  have HBS0' := HBS0.out.lent hk
  rw [HLE.out] at HBS0'
  have LB5 := Hid.of (show rl ℓ lb 5 lb = 5 from rl_hi (Nat.le_refl _))
  have LBX := Hid.of (show bx ≠ lb from fun e => by have := lt_of_at HB0.out; have := HLE.out; omega)
  generalize rl ℓ lb 5 = ℓ1 at HBS0' LB5
  have LB9 := Hid.of (show ℓ1 lb ≠ 9 by rw [LB5.out]; decide)
  have HBS1 := Hid.of (HBS0'.up hk HU1.out)
  have HB1 := Hid.of (HB0.out.up HU1.out)
  clear HBS0'
  clear HBS0 HB0 HU1
  have HI0 := Hid.of (show At W1 lb 3 (ivz (flz (-77) (List.replicate (n + 70) 0) 0)) ∧ Fr (fun x => x = lb) W1 W1 from ⟨by rw [flz_zero]; exact HA1.out, Fr.refl _ _⟩)
  clear HA1
  go_loopw [13] (fun v13 wr => ∃ i : Nat, v13 = .int .i64 (i : Int) ∧ i ≤ n + 70 ∧ Hid (At wr lb 3 (ivz (flz (-77) (List.replicate (n + 70) 0) i)) ∧ Fr (fun x => x = lb) W1 wr)) (fun v13 _ => n + 70 - (intOf v13).toNat)
  case atStart => exact ⟨0, rfl, by omega, HI0⟩
  case round =>
    clear HI0
    obtain ⟨i, rfl, hi, hR⟩ := hrel
    have HR := Hid.of hR.out
    clear hR
    by_cases hlt : i < n + 70
    · have hltz : (i : Int) < (n : Int) + 70 := by omega
      have hiw : IntKind.i64.wrap ((i : Int) + 1) = (i : Int) + 1 := by rw [IntKind.wrap_i64]; omega
      have hln : (flz (-77) (List.replicate (n + 70) 0) i).length = n + 70 := by rw [flz_len (by rw [List.length_replicate]; omega), List.length_replicate]
      obtain ⟨u, k0⟩ : ∃ u, wr.cell? ⟨lb, i, none⟩ = some u := ⟨_, HR.out.1.cell (ivz_get (by rw [hln]; exact hlt))⟩
      have k1 := HR.out.1.thaw i
      have HX := Hid.of (show At (wr.setCell ⟨lb, i, none⟩ (.int .i64 (-77))) lb 3 (ivz (flz (-77) (List.replicate (n + 70) 0) (i + 1))) ∧ Fr (fun x => x = lb) W1 (wr.setCell ⟨lb, i, none⟩ (.int .i64 (-77))) from ⟨by
        have := HR.out.1.set i (.int .i64 (-77))
        rw [ivz_set, flz_set (by rw [List.length_replicate]; exact hlt)] at this
        exact this, HR.out.2.by (grown_set wr ⟨lb, i, none⟩ _) (fun q hq => .inl (Option.some.inj hq).symm)⟩)
      clear hln
      go_wp2
      go_roundw
      case rel => exact ⟨i + 1, by simp, by omega, HX⟩
      case measure => simp [intOf]; omega
    · have hltz : ¬ (i : Int) < (n : Int) + 70 := by omega
      obtain rfl : i = n + 70 := by omega
      have HI2 := Hid.of (show At wr lb 3 (ivz (cpz zs (n + 70) 0)) ∧ Fr (fun x => x = lb) W1 wr from ⟨by
        have := HR.out.1
        rw [show flz (-77) (List.replicate (n + 70) 0) (n + 70) = cpz zs (n + 70) 0 by
          have h := flz_all (-77) (List.replicate (n + 70) (0 : Int))
          rw [List.length_replicate] at h
          rw [h]
          simp [cpz]] at this
        exact this, HR.out.2⟩)
      clear HR hltz
      go_wp2
      go_loopw [14] (fun v14 wr => ∃ i : Nat, v14 = .int .i64 (i : Int) ∧ i ≤ n ∧ Hid (At wr lb 3 (ivz (cpz zs (n + 70) i)) ∧ Fr (fun x => x = lb) W1 wr)) (fun v14 _ => n - (intOf v14).toNat)
      case atStart => exact ⟨0, rfl, by omega, HI2⟩
      case round =>
        clear HI2
        obtain ⟨i, rfl, hi, hR⟩ := hrel
        have HR := Hid.of hR.out
        clear hR
        have HB2 := Hid.of (HR.out.2.at HB1.out LBX.out)
        have b4 := HB2.out.cell (i := 4) rfl
        by_cases hlt : i < n
        · have hltz : (i : Int) < (n : Int) := by omega
          have hltz2 : (i : Int) < (n : Int) + 70 := by omega
          have hiw : IntKind.i64.wrap ((i : Int) + 1) = (i : Int) + 1 := by rw [IntKind.wrap_i64]; omega
          have hil : i < zs.length := by rw [HNN.out.1]; exact hlt
          have hln : (cpz zs (n + 70) i).length = n + 70 := cpz_len (by omega) (by rw [HNN.out.1]; omega)
          have hupr : Up w0 wr := fr_up9 HBS1.out.x.up HBS1.out.x.la HR.out.2 (fun x hx hl => by rw [hx]; exact LB9.out)
          obtain ⟨a1, c1, e1, hc1, hx⟩ := HIL.out.up hupr
          obtain ⟨z, hz⟩ : ∃ z, zs[i] = z := ⟨_, rfl⟩
          obtain ⟨b, of, ea, hcl⟩ := hx i z (by rw [List.getElem?_eq_getElem hil, hz])
          rw [HNN.out.1] at e1
          injection e1 with e1 e2 e3
          clear e2
          subst e1
          subst e3
          subst ea
          have hcz : (n : Int) ≤ (lc : Int) := by omega
          obtain ⟨u, k0⟩ : ∃ u, wr.cell? ⟨lb, i, none⟩ = some u := ⟨_, HR.out.1.cell (ivz_get (by rw [hln]; omega))⟩
          have k1 := HR.out.1.thaw i
          have HX := Hid.of (show At (wr.setCell ⟨lb, i, none⟩ (.int .i64 z)) lb 3 (ivz (cpz zs (n + 70) (i + 1))) ∧ Fr (fun x => x = lb) W1 (wr.setCell ⟨lb, i, none⟩ (.int .i64 z)) from ⟨by
            have := HR.out.1.set i (.int .i64 z)
            rw [ivz_set, cpz_set hil (by rw [HNN.out.1]; omega) hz] at this
            exact this, HR.out.2.by (grown_set wr ⟨lb, i, none⟩ _) (fun q hq => .inl (Option.some.inj hq).symm)⟩)
          clear hln hx hz hil hupr hc1
          go_wp2
          go_roundw
          case rel => exact ⟨i + 1, by simp, by omega, HX⟩
          case measure => simp [intOf]; omega
        · have hltz : ¬ (i : Int) < (n : Int) := by omega
          obtain rfl : i = n := by omega
          have HBS2 := Hid.of (HBS1.out.over hk HR.out.2 (fun x hx _ => by rw [hx]; exact LB5.out))
          have HLA := Hid.of HR.out.1
          clear HR HBS1 HB1 hltz
          go_wp2
          clear b4
          have hwr : wr = wr := rfl
          clear hwr
          obtain ⟨w2, hw2⟩ : ∃ w2, wr = w2 := ⟨_, rfl⟩
          subst hw2
          have HPN := Hid.of (And.intro (play_not_own HBS2.out.s.ok HBS2.out.x.p) (op_not_own HBS2.out.s.ok HB2.out))
          have HLI := Hid.of (show IL wr (.slice (some ⟨lb, 0, none⟩) i (i + 70)) zs from ⟨_, _, by rw [HNN.out.1], by rw [HNN.out.1]; omega, fun j z hz => by
            obtain ⟨hj, hz⟩ := List.getElem?_eq_some_iff.1 hz
            have h1 := cpz_lo (zs := zs) (N := i + 70) hj
            rw [HNN.out.1, hz] at h1
            refine ⟨lb, 0, rfl, ?_⟩
            rw [Nat.zero_add]
            refine HLA.out.cell ?_
            unfold ivz
            rw [List.getElem?_map, h1]
            rfl⟩)
          refine wp_region_held_drew (S := fun wz => Fr (own S) wr wz) (by kernel_rfl) ((Fr.refl _ _).up (Up.refl _).drew) (fun hS => ?_)
          refine wpAnyH_take (i := 0) (oi := { dst := some 100, op := Go.Op.move (Go.Operand.tmp 0), type := 31, pos := "law.go:197", after := #[], guard := none }) (v := .pointer (some ⟨pb, 0, none⟩)) rfl (by kernel_rfl) (by kernel_rfl) (by kernel_rfl) (fun _ _ _ h => h) (Or.inl ⟨by kernel_rfl, ?_⟩) hS ?_
          · intro w5 hSw
            clear hSw hS
            go_simp
          simp only [Act.put, List.setIfInBounds_toArray, List.set_cons_zero, List.set_cons_succ]
          refine wpAnyH_take (i := 1) (oi := { dst := some 101, op := Go.Op.move (Go.Operand.tmp 1), type := 3, pos := "law.go:197", after := #[], guard := none }) (v := .int .i64 (k : Int)) rfl (by kernel_rfl) (by kernel_rfl) (by kernel_rfl) (fun _ _ _ h => h) (Or.inl ⟨by kernel_rfl, ?_⟩) hS ?_
          · intro w5 hSw
            clear hSw hS
            go_simp
          simp only [Act.put, List.setIfInBounds_toArray, List.set_cons_zero, List.set_cons_succ]
          refine wpAnyH_take (i := 2) (oi := { dst := some 102, op := Go.Op.nilCheck (Go.Operand.tmp 100), type := 0, pos := "law.go:197", after := #[{ on := 0, ground := Go.Ground.data }], guard := none }) (v := .pointer (some ⟨pb, 0, none⟩)) rfl (by kernel_rfl) (by kernel_rfl) (by kernel_rfl) (fun _ _ _ h => h) (Or.inl ⟨by kernel_rfl, ?_⟩) hS ?_
          · intro w5 hSw
            clear hSw hS
            go_simp
          simp only [Act.put, List.setIfInBounds_toArray, List.set_cons_zero, List.set_cons_succ]
          refine wpAnyH_take (i := 3) (oi := { dst := some 103, op := Go.Op.fieldAddr 40 (Go.Operand.tmp 102) 0, type := 0, pos := "law.go:197", after := #[{ on := 2, ground := Go.Ground.data }], guard := none }) (v := .pointer (some ⟨pb, 0, none⟩)) rfl (by kernel_rfl) (by kernel_rfl) (by kernel_rfl) (fun _ _ _ h => h) (Or.inl ⟨by kernel_rfl, ?_⟩) hS ?_
          · intro w5 hSw
            clear hSw hS
            go_simp
          simp only [Act.put, List.setIfInBounds_toArray, List.set_cons_zero, List.set_cons_succ]
          refine wpAnyH_take (i := 4) (oi := { dst := some 104, op := Go.Op.indexAddr 34 (Go.Operand.tmp 103) (Go.Operand.tmp 101), type := 0, pos := "law.go:197", after := #[{ on := 3, ground := Go.Ground.data }, { on := 1, ground := Go.Ground.data }], guard := none }) (v := .pointer (some ⟨pb, k, none⟩)) rfl (by kernel_rfl) (by kernel_rfl) (by kernel_rfl) (fun _ _ _ h => h) (Or.inl ⟨by kernel_rfl, ?_⟩) hS ?_
          · intro w5 hSw
            clear hSw hS
            go_simp
          simp only [Act.put, List.setIfInBounds_toArray, List.set_cons_zero, List.set_cons_succ]
          refine wpAnyH_take (i := 5) (oi := { dst := some 105, op := Go.Op.load 22 (Go.Operand.tmp 104), type := 22, pos := "law.go:197", after := #[{ on := 4, ground := Go.Ground.data }], guard := none }) (v := .pointer (some ⟨S.nb, 0, none⟩)) rfl (by kernel_rfl) (by kernel_rfl) (by kernel_rfl) (fun _ _ _ h => h) (Or.inl ⟨by kernel_rfl, ?_⟩) hS ?_
          · intro w5 hSw
            have h0 := (hSw.at HBS2.out.x.p HPN.out.1).cell (PSf_a hk)
            rw [HAP.out.1] at h0
            clear hSw hS
            go_simp
          simp only [Act.put, List.setIfInBounds_toArray, List.set_cons_zero, List.set_cons_succ]
          refine wpAnyH_take (i := 6) (oi := { dst := some 106, op := Go.Op.move (Go.Operand.tmp 12), type := 51, pos := "law.go:197", after := #[], guard := none }) (v := .slice (some ⟨lb, 0, none⟩) (i + 70) (i + 70)) rfl (by kernel_rfl) (by kernel_rfl) (by kernel_rfl) (fun _ _ _ h => h) (Or.inl ⟨by kernel_rfl, ?_⟩) hS ?_
          · intro w5 hSw
            clear hSw hS
            go_simp
          simp only [Act.put, List.setIfInBounds_toArray, List.set_cons_zero, List.set_cons_succ]
          refine wpAnyH_take (i := 7) (oi := { dst := some 107, op := Go.Op.fieldAddr 108 (Go.Operand.tmp 5) 4, type := 0, pos := "law.go:197", after := #[], guard := none }) (v := .pointer (some ⟨bx, 4, none⟩)) rfl (by kernel_rfl) (by kernel_rfl) (by kernel_rfl) (fun _ _ _ h => h) (Or.inl ⟨by kernel_rfl, ?_⟩) hS ?_
          · intro w5 hSw
            clear hSw hS
            go_simp
          simp only [Act.put, List.setIfInBounds_toArray, List.set_cons_zero, List.set_cons_succ]
          refine wpAnyH_take (i := 8) (oi := { dst := some 108, op := Go.Op.load 51 (Go.Operand.tmp 107), type := 51, pos := "law.go:197", after := #[{ on := 7, ground := Go.Ground.data }], guard := none }) (v := .slice la i lc) rfl (by kernel_rfl) (by kernel_rfl) (by kernel_rfl) (fun _ _ _ h => h) (Or.inl ⟨by kernel_rfl, ?_⟩) hS ?_
          · intro w5 hSw
            have h0 := (hSw.at HB2.out HPN.out.2).cell (i := 4) rfl
            clear hSw hS
            go_simp
          simp only [Act.put, List.setIfInBounds_toArray, List.set_cons_zero, List.set_cons_succ]
          refine wpAnyH_take (i := 9) (oi := { dst := some 109, op := Go.Op.call { callee := Go.Callee.builtin Go.Builtin.len, args := #[Go.Operand.tmp 108], argTypes := #[51] }, type := 3, pos := "law.go:197", after := #[{ on := 8, ground := Go.Ground.data }], guard := none }) (v := .int .i64 (i : Int)) rfl (by kernel_rfl) (by kernel_rfl) (by kernel_rfl) (fun _ _ _ h => h) (Or.inl ⟨by kernel_rfl, ?_⟩) hS ?_
          · intro w5 hSw
            clear hSw hS
            go_simp
          simp only [Act.put, List.setIfInBounds_toArray, List.set_cons_zero, List.set_cons_succ]
          refine wpAnyH_take (i := 10) (oi := { dst := some 110, op := Go.Op.slice 51 (Go.Operand.tmp 106) none (some (Go.Operand.tmp 109)) none, type := 51, pos := "law.go:197", after := #[{ on := 6, ground := Go.Ground.data }, { on := 9, ground := Go.Ground.data }], guard := none }) (v := .slice (some ⟨lb, 0, none⟩) i (i + 70)) rfl (by kernel_rfl) (by kernel_rfl) (by kernel_rfl) (fun _ _ _ h => h) (Or.inl ⟨by kernel_rfl, ?_⟩) hS ?_
          · intro w5 hSw
            clear hSw hS
            go_simp
          simp only [Act.put, List.setIfInBounds_toArray, List.set_cons_zero, List.set_cons_succ]
          refine wpAnyH_take (i := 11) (oi := { dst := some 111, op := Go.Op.fieldAddr 108 (Go.Operand.tmp 5) 3, type := 0, pos := "law.go:197", after := #[], guard := none }) (v := .pointer (some ⟨bx, 3, none⟩)) rfl (by kernel_rfl) (by kernel_rfl) (by kernel_rfl) (fun _ _ _ h => h) (Or.inl ⟨by kernel_rfl, ?_⟩) hS ?_
          · intro w5 hSw
            clear hSw hS
            go_simp
          simp only [Act.put, List.setIfInBounds_toArray, List.set_cons_zero, List.set_cons_succ]
          refine wpAnyH_take (i := 12) (oi := { dst := some 112, op := Go.Op.load 3 (Go.Operand.tmp 111), type := 3, pos := "law.go:197", after := #[{ on := 11, ground := Go.Ground.data }], guard := none }) (v := .int .i64 tz) rfl (by kernel_rfl) (by kernel_rfl) (by kernel_rfl) (fun _ _ _ h => h) (Or.inl ⟨by kernel_rfl, ?_⟩) hS ?_
          · intro w5 hSw
            have h0 := (hSw.at HB2.out HPN.out.2).cell (i := 3) rfl
            clear hSw hS
            go_simp
          simp only [Act.put, List.setIfInBounds_toArray, List.set_cons_zero, List.set_cons_succ]
          refine wpAnyH_ready (rs := [13]) (by kernel_rfl) (by simp) ?_
          refine AllReadyH.cons (o := { dst := some 113, op := Go.Op.call { callee := Go.Callee.value (Go.Operand.func 20), args := #[Go.Operand.tmp 105, Go.Operand.tmp 110, Go.Operand.tmp 112], argTypes := #[22, 51, 3] }, type := 53, pos := "law.go:197", after := #[{ on := 5, ground := Go.Ground.data }, { on := 10, ground := Go.Ground.data }, { on := 12, ground := Go.Ground.data }], guard := none }) rfl (fun K hK => ?_) AllReadyH.nil
          rw [if_pos (by kernel_rfl)]
          have hC := PAny wr.drew S (.slice (some ⟨lb, 0, none⟩) i (i + 70)) zs tz (HBS2.out.s.ok.up (Up.refl _).drew) HBS2.out.s.so (HLI.out.up (Up.refl _).drew) (fun g hg => by obtain rfl : lb = g := Option.some.inj hg; exact ⟨intz_not_own HBS2.out.s.ok HLA.out, lt_of_at HLA.out⟩) (by have := HBD.out.2.1; omega) (by have := HBD.out.1; omega)
          go_simp
          refine hC.mono ?_
          rintro e w3 ⟨mv, S1, rfl, ho3, h3, hfree⟩
          have HBS3 := Hid.of ((HBS2.out.up hk (Up.refl _).drew).prog hk h3)
          have HMV3 := Hid.of (free_lab (HBS2.out.s.up (Up.refl _).drew) h3 hfree ho3)
          have HS1 := Hid.of (And.intro h3.ab (And.intro h3.mn h3.nb))
          have HF3 := Hid.of ((fr_of_up (own S) (Up.refl wr).drew).trans h3.fr (fun x hx => .inl hx))
          generalize rl ℓ1 wr.drew.heap.size (2 * k) = ℓ2 at HBS3 HMV3
          have HDL := Hid.of (show ((anV (abs S) zs tz).2.1).length ≤ 1048576 from (HML.out.an zs tz).2)
          generalize hD : (anV (abs S) zs tz).2.1 = D at ho3 HDL
          have HD9 := Hid.of hD
          have HO3 := Hid.of (show Ow w3 0 mv D from ho3)
          have HLA3 := Hid.of (HF3.out.at HLA.out (intz_not_own HBS2.out.s.ok HLA.out))
          have HB3 := Hid.of (HF3.out.at HB2.out HPN.out.2)
          clear h3 hC ho3 hfree hD
          dsimp only
          refine hK.out _ _ HF3.out (fun hS2 => ?_)
          clear hK K hS
          have hS := hS2
          clear hS2
          refine wpAnyH_take (i := 14) (oi := { dst := some 99, op := Go.Op.move (Go.Operand.tmp 113), type := 53, pos := "law.go:197", after := #[{ on := 13, ground := Go.Ground.data }], guard := none }) (v := .tuple #[.int .i64 ((anV (abs S) zs tz).1 : Int), mv, .int .i64 (anV (abs S) zs tz).2.2]) rfl (by kernel_rfl) (by kernel_rfl) (by kernel_rfl) (fun _ _ _ h => h) (Or.inl ⟨by kernel_rfl, ?_⟩) hS ?_
          · intro w5 hSw
            clear hSw hS
            go_simp
          simp only [Act.put, List.setIfInBounds_toArray, List.set_cons_zero, List.set_cons_succ]
          refine wpAnyH_take (i := 15) (oi := { dst := some 114, op := Go.Op.extract (Go.Operand.tmp 99) 0, type := 3, pos := "law.go:197", after := #[{ on := 14, ground := Go.Ground.data }], guard := none }) (v := .int .i64 ((anV (abs S) zs tz).1 : Int)) rfl (by kernel_rfl) (by kernel_rfl) (by kernel_rfl) (fun _ _ _ h => h) (Or.inl ⟨by kernel_rfl, ?_⟩) hS ?_
          · intro w5 hSw
            clear hSw hS
            go_simp
          simp only [Act.put, List.setIfInBounds_toArray, List.set_cons_zero, List.set_cons_succ]
          refine wpAnyH_take (i := 16) (oi := { dst := some 115, op := Go.Op.extract (Go.Operand.tmp 99) 1, type := 47, pos := "law.go:197", after := #[{ on := 14, ground := Go.Ground.data }, { on := 18, ground := Go.Ground.gcOnly Go.Departure.lateStores }], guard := none }) (v := mv) rfl (by kernel_rfl) (by kernel_rfl) (by kernel_rfl) (fun _ _ _ h => h) (Or.inl ⟨by kernel_rfl, ?_⟩) hS ?_
          · intro w5 hSw
            clear hSw hS
            go_simp
          simp only [Act.put, List.setIfInBounds_toArray, List.set_cons_zero, List.set_cons_succ]
          refine wpAnyH_take (i := 17) (oi := { dst := some 116, op := Go.Op.extract (Go.Operand.tmp 99) 2, type := 23, pos := "law.go:197", after := #[{ on := 14, ground := Go.Ground.data }, { on := 19, ground := Go.Ground.gcOnly Go.Departure.lateStores }], guard := none }) (v := .int .i64 (anV (abs S) zs tz).2.2) rfl (by kernel_rfl) (by kernel_rfl) (by kernel_rfl) (fun _ _ _ h => h) (Or.inl ⟨by kernel_rfl, ?_⟩) hS ?_
          · intro w5 hSw
            clear hSw hS
            go_simp
          simp only [Act.put, List.setIfInBounds_toArray, List.set_cons_zero, List.set_cons_succ]
          refine wpAnyH_ready (rs := [18]) (by kernel_rfl) (by simp) ?_
          refine AllReadyH.cons (o := { dst := some 15, op := Go.Op.assign (Go.Operand.tmp 114), type := 3, pos := "law.go:197", after := #[{ on := 15, ground := Go.Ground.data }, { on := 13, ground := Go.Ground.chain }, { on := 0, ground := Go.Ground.phase }, { on := 1, ground := Go.Ground.phase }, { on := 2, ground := Go.Ground.phase }, { on := 3, ground := Go.Ground.phase }, { on := 4, ground := Go.Ground.phase }, { on := 5, ground := Go.Ground.phase }, { on := 6, ground := Go.Ground.phase }, { on := 7, ground := Go.Ground.phase }, { on := 8, ground := Go.Ground.phase }, { on := 9, ground := Go.Ground.phase }, { on := 10, ground := Go.Ground.phase }, { on := 11, ground := Go.Ground.phase }, { on := 12, ground := Go.Ground.phase }, { on := 13, ground := Go.Ground.phase }, { on := 14, ground := Go.Ground.phase }, { on := 15, ground := Go.Ground.phase }, { on := 16, ground := Go.Ground.textOnly Go.Departure.lateStores }, { on := 17, ground := Go.Ground.textOnly Go.Departure.lateStores }], guard := none }) rfl (fun K hK => ?_) AllReadyH.nil
          rw [if_pos (by kernel_rfl)]
          go_simp
          refine hK.out _ _ hS (fun hS2 => ?_)
          clear hK K hS
          have hS := hS2
          clear hS2
          refine wpAnyH_ready (rs := [19]) (by kernel_rfl) (by simp) ?_
          refine AllReadyH.cons (o := { dst := some 16, op := Go.Op.assign (Go.Operand.tmp 115), type := 47, pos := "law.go:197", after := #[{ on := 16, ground := Go.Ground.data }, { on := 18, ground := Go.Ground.chain }, { on := 0, ground := Go.Ground.phase }, { on := 1, ground := Go.Ground.phase }, { on := 2, ground := Go.Ground.phase }, { on := 3, ground := Go.Ground.phase }, { on := 4, ground := Go.Ground.phase }, { on := 5, ground := Go.Ground.phase }, { on := 6, ground := Go.Ground.phase }, { on := 7, ground := Go.Ground.phase }, { on := 8, ground := Go.Ground.phase }, { on := 9, ground := Go.Ground.phase }, { on := 10, ground := Go.Ground.phase }, { on := 11, ground := Go.Ground.phase }, { on := 12, ground := Go.Ground.phase }, { on := 13, ground := Go.Ground.phase }, { on := 14, ground := Go.Ground.phase }, { on := 15, ground := Go.Ground.phase }, { on := 16, ground := Go.Ground.phase }, { on := 17, ground := Go.Ground.textOnly Go.Departure.lateStores }, { on := 18, ground := Go.Ground.phase }], guard := none }) rfl (fun K hK => ?_) AllReadyH.nil
          rw [if_pos (by kernel_rfl)]
          go_simp
          refine hK.out _ _ hS (fun hS2 => ?_)
          clear hK K hS
          have hS := hS2
          clear hS2
          refine wpAnyH_ready (rs := [20]) (by kernel_rfl) (by simp) ?_
          refine AllReadyH.cons (o := { dst := some 17, op := Go.Op.assign (Go.Operand.tmp 116), type := 23, pos := "law.go:197", after := #[{ on := 17, ground := Go.Ground.data }, { on := 19, ground := Go.Ground.chain }, { on := 0, ground := Go.Ground.phase }, { on := 1, ground := Go.Ground.phase }, { on := 2, ground := Go.Ground.phase }, { on := 3, ground := Go.Ground.phase }, { on := 4, ground := Go.Ground.phase }, { on := 5, ground := Go.Ground.phase }, { on := 6, ground := Go.Ground.phase }, { on := 7, ground := Go.Ground.phase }, { on := 8, ground := Go.Ground.phase }, { on := 9, ground := Go.Ground.phase }, { on := 10, ground := Go.Ground.phase }, { on := 11, ground := Go.Ground.phase }, { on := 12, ground := Go.Ground.phase }, { on := 13, ground := Go.Ground.phase }, { on := 14, ground := Go.Ground.phase }, { on := 15, ground := Go.Ground.phase }, { on := 16, ground := Go.Ground.phase }, { on := 17, ground := Go.Ground.phase }, { on := 18, ground := Go.Ground.phase }, { on := 19, ground := Go.Ground.phase }], guard := none }) rfl (fun K hK => ?_) AllReadyH.nil
          rw [if_pos (by kernel_rfl)]
          go_simp
          refine hK.out _ _ hS (fun hS2 => ?_)
          clear hK K hS hS2
          refine wpAnyH_done (by kernel_rfl) ?_ _
          have HPN3 := Hid.of (And.intro (play_not_rown HBS3.out.q.ok HBS3.out.x.p) (op_not_rown HBS3.out.q.ok HB3.out))
          clear HLI
          go_wp2
          refine wp_region_held_drew (S := fun wz => Fr (rown R) w3 wz) (by kernel_rfl) ((Fr.refl _ _).up (Up.refl _).drew) (fun hS => ?_)
          refine wpAnyH_take (i := 0) (oi := { dst := some 118, op := Go.Op.move (Go.Operand.tmp 0), type := 31, pos := "law.go:198", after := #[], guard := none }) (v := .pointer (some ⟨pb, 0, none⟩)) rfl (by kernel_rfl) (by kernel_rfl) (by kernel_rfl) (fun _ _ _ h => h) (Or.inl ⟨by kernel_rfl, ?_⟩) hS ?_
          · intro w5 hSw
            clear hSw hS
            go_simp
          simp only [Act.put, List.setIfInBounds_toArray, List.set_cons_zero, List.set_cons_succ]
          refine wpAnyH_take (i := 1) (oi := { dst := some 119, op := Go.Op.move (Go.Operand.tmp 1), type := 3, pos := "law.go:198", after := #[], guard := none }) (v := .int .i64 (k : Int)) rfl (by kernel_rfl) (by kernel_rfl) (by kernel_rfl) (fun _ _ _ h => h) (Or.inl ⟨by kernel_rfl, ?_⟩) hS ?_
          · intro w5 hSw
            clear hSw hS
            go_simp
          simp only [Act.put, List.setIfInBounds_toArray, List.set_cons_zero, List.set_cons_succ]
          refine wpAnyH_take (i := 2) (oi := { dst := some 120, op := Go.Op.nilCheck (Go.Operand.tmp 118), type := 0, pos := "law.go:198", after := #[{ on := 0, ground := Go.Ground.data }], guard := none }) (v := .pointer (some ⟨pb, 0, none⟩)) rfl (by kernel_rfl) (by kernel_rfl) (by kernel_rfl) (fun _ _ _ h => h) (Or.inl ⟨by kernel_rfl, ?_⟩) hS ?_
          · intro w5 hSw
            clear hSw hS
            go_simp
          simp only [Act.put, List.setIfInBounds_toArray, List.set_cons_zero, List.set_cons_succ]
          refine wpAnyH_take (i := 3) (oi := { dst := some 121, op := Go.Op.fieldAddr 40 (Go.Operand.tmp 120) 1, type := 0, pos := "law.go:198", after := #[{ on := 2, ground := Go.Ground.data }], guard := none }) (v := .pointer (some ⟨pb, 2, none⟩)) rfl (by kernel_rfl) (by kernel_rfl) (by kernel_rfl) (fun _ _ _ h => h) (Or.inl ⟨by kernel_rfl, ?_⟩) hS ?_
          · intro w5 hSw
            clear hSw hS
            go_simp
          simp only [Act.put, List.setIfInBounds_toArray, List.set_cons_zero, List.set_cons_succ]
          refine wpAnyH_take (i := 4) (oi := { dst := some 122, op := Go.Op.indexAddr 36 (Go.Operand.tmp 121) (Go.Operand.tmp 119), type := 0, pos := "law.go:198", after := #[{ on := 3, ground := Go.Ground.data }, { on := 1, ground := Go.Ground.data }], guard := none }) (v := .pointer (some ⟨pb, 2 + k, none⟩)) rfl (by kernel_rfl) (by kernel_rfl) (by kernel_rfl) (fun _ _ _ h => h) (Or.inl ⟨by kernel_rfl, ?_⟩) hS ?_
          · intro w5 hSw
            clear hSw hS
            go_simp
          simp only [Act.put, List.setIfInBounds_toArray, List.set_cons_zero, List.set_cons_succ]
          refine wpAnyH_take (i := 5) (oi := { dst := some 123, op := Go.Op.load 35 (Go.Operand.tmp 122), type := 35, pos := "law.go:198", after := #[{ on := 4, ground := Go.Ground.data }], guard := none }) (v := .pointer (some ⟨R.nb, 0, none⟩)) rfl (by kernel_rfl) (by kernel_rfl) (by kernel_rfl) (fun _ _ _ h => h) (Or.inl ⟨by kernel_rfl, ?_⟩) hS ?_
          · intro w5 hSw
            have h0 := (hSw.at HBS3.out.x.p HPN3.out.1).cell (PSf_r hk)
            rw [HAP.out.2] at h0
            clear hSw hS
            go_simp
          simp only [Act.put, List.setIfInBounds_toArray, List.set_cons_zero, List.set_cons_succ]
          refine wpAnyH_take (i := 6) (oi := { dst := some 124, op := Go.Op.fieldAddr 108 (Go.Operand.tmp 5) 4, type := 0, pos := "law.go:198", after := #[], guard := none }) (v := .pointer (some ⟨bx, 4, none⟩)) rfl (by kernel_rfl) (by kernel_rfl) (by kernel_rfl) (fun _ _ _ h => h) (Or.inl ⟨by kernel_rfl, ?_⟩) hS ?_
          · intro w5 hSw
            clear hSw hS
            go_simp
          simp only [Act.put, List.setIfInBounds_toArray, List.set_cons_zero, List.set_cons_succ]
          refine wpAnyH_take (i := 7) (oi := { dst := some 125, op := Go.Op.load 51 (Go.Operand.tmp 124), type := 51, pos := "law.go:198", after := #[{ on := 6, ground := Go.Ground.data }], guard := none }) (v := .slice la i lc) rfl (by kernel_rfl) (by kernel_rfl) (by kernel_rfl) (fun _ _ _ h => h) (Or.inl ⟨by kernel_rfl, ?_⟩) hS ?_
          · intro w5 hSw
            have h0 := (hSw.at HB3.out HPN3.out.2).cell (i := 4) rfl
            clear hSw hS
            go_simp
          simp only [Act.put, List.setIfInBounds_toArray, List.set_cons_zero, List.set_cons_succ]
          refine wpAnyH_take (i := 8) (oi := { dst := some 126, op := Go.Op.fieldAddr 108 (Go.Operand.tmp 5) 3, type := 0, pos := "law.go:198", after := #[], guard := none }) (v := .pointer (some ⟨bx, 3, none⟩)) rfl (by kernel_rfl) (by kernel_rfl) (by kernel_rfl) (fun _ _ _ h => h) (Or.inl ⟨by kernel_rfl, ?_⟩) hS ?_
          · intro w5 hSw
            clear hSw hS
            go_simp
          simp only [Act.put, List.setIfInBounds_toArray, List.set_cons_zero, List.set_cons_succ]
          refine wpAnyH_take (i := 9) (oi := { dst := some 127, op := Go.Op.load 3 (Go.Operand.tmp 126), type := 3, pos := "law.go:198", after := #[{ on := 8, ground := Go.Ground.data }], guard := none }) (v := .int .i64 tz) rfl (by kernel_rfl) (by kernel_rfl) (by kernel_rfl) (fun _ _ _ h => h) (Or.inl ⟨by kernel_rfl, ?_⟩) hS ?_
          · intro w5 hSw
            have h0 := (hSw.at HB3.out HPN3.out.2).cell (i := 3) rfl
            clear hSw hS
            go_simp
          simp only [Act.put, List.setIfInBounds_toArray, List.set_cons_zero, List.set_cons_succ]
          refine wpAnyH_ready (rs := [10]) (by kernel_rfl) (by simp) ?_
          refine AllReadyH.cons (o := { dst := some 128, op := Go.Op.call { callee := Go.Callee.value (Go.Operand.func 72), args := #[Go.Operand.tmp 123, Go.Operand.tmp 125, Go.Operand.tmp 127], argTypes := #[35, 51, 3] }, type := 142, pos := "law.go:198", after := #[{ on := 5, ground := Go.Ground.data }, { on := 7, ground := Go.Ground.data }, { on := 9, ground := Go.Ground.data }], guard := none }) rfl (fun K hK => ?_) AllReadyH.nil
          rw [if_pos (by kernel_rfl)]
          have hC := QAny w3.drew R (.slice la i lc) zs tz (HBS3.out.q.ok.up (Up.refl _).drew) (by rw [← HABS.out]; exact ASo.of HBS2.out.s.so) (HIL.out.up HBS3.out.x.up.drew) (fun hne g hg => (old_not_own HBS3.out hk (HIB.out hne g hg)).2) (by rw [now_eq HABS.out]; have := HBD.out.2.1; omega) (by have := pd_bound HBS2.out.s.so HABS.out; have := HBD.out.1; omega)
          rw [← HABS.out] at hC
          go_simp
          refine hC.mono ?_
          rintro e w4 ⟨mr, R1, rfl, ho4, h4, hst4⟩
          have HBS4 := Hid.of ((HBS3.out.up hk (Up.refl _).drew).doc hk h4)
          have HF4 := Hid.of ((fr_of_up (rown R) (Up.refl w3).drew).trans h4.fr (fun x hx => .inl hx))
          have HMV := Hid.of (show ∀ x, mv.ownBlock = some x → rl ℓ2 w3.drew.heap.size (2 * k + 1) x = 2 * k ∧ ¬ own S1 x ∧ ¬ rds S1 x from fun x hx => by
            rw [rl_lo (n := w3.drew.heap.size) (World.ownsRow.lt HO3.out x hx).2]
            exact HMV3.out x hx)
          generalize rl ℓ2 w3.drew.heap.size (2 * k + 1) = ℓ3 at HBS4 HMV
          have HO4 := Hid.of (show Ow w4 0 mv D from HF4.out.own HO3.out (u8_not_rown HBS3.out.q.ok HO3.out))
          have HQ4 := Hid.of (show Ow w4 0 mr D by rw [← HD9.out]; exact ho4)
          have HLA4 := Hid.of (HF4.out.at HLA3.out (intz_not_rown HBS3.out.q.ok HLA3.out))
          have HB4 := Hid.of (HF4.out.at HB3.out HPN3.out.2)
          have HEQ := Hid.of (show EQ S S1 R R1 M from ⟨by rw [HS1.out.1, h4.ab], by rw [HS1.out.1]; exact (HML.out.an zs tz).1, by have := HS1.out.2.1; have := HBD.out.1; omega, by
            have h1 := congrArg AN.now HS1.out.1
            have h2 := anR_now (abs S) zs tz
            rw [← h1] at h2
            have h3 : (abs S).now = S.now := rfl
            have h5 : (abs S1).now = S1.now := rfl
            have := HBD.out.2.1
            omega, by have := HBD.out.2.2; omega, HS1.out.2.2, h4.nb⟩)
          clear h4 hC hst4 ho4
          dsimp only
          refine hK.out _ _ HF4.out (fun hS2 => ?_)
          clear hK K hS
          have hS := hS2
          clear hS2
          refine wpAnyH_take (i := 11) (oi := { dst := some 117, op := Go.Op.move (Go.Operand.tmp 128), type := 142, pos := "law.go:198", after := #[{ on := 10, ground := Go.Ground.data }], guard := none }) (v := .tuple #[.int .i64 ((anV (abs S) zs tz).1 : Int), mr, .int .i64 (anV (abs S) zs tz).2.2]) rfl (by kernel_rfl) (by kernel_rfl) (by kernel_rfl) (fun _ _ _ h => h) (Or.inl ⟨by kernel_rfl, ?_⟩) hS ?_
          · intro w5 hSw
            clear hSw hS
            go_simp
          simp only [Act.put, List.setIfInBounds_toArray, List.set_cons_zero, List.set_cons_succ]
          refine wpAnyH_take (i := 12) (oi := { dst := some 129, op := Go.Op.extract (Go.Operand.tmp 117) 0, type := 3, pos := "law.go:198", after := #[{ on := 11, ground := Go.Ground.data }], guard := none }) (v := .int .i64 ((anV (abs S) zs tz).1 : Int)) rfl (by kernel_rfl) (by kernel_rfl) (by kernel_rfl) (fun _ _ _ h => h) (Or.inl ⟨by kernel_rfl, ?_⟩) hS ?_
          · intro w5 hSw
            clear hSw hS
            go_simp
          simp only [Act.put, List.setIfInBounds_toArray, List.set_cons_zero, List.set_cons_succ]
          refine wpAnyH_take (i := 13) (oi := { dst := some 130, op := Go.Op.extract (Go.Operand.tmp 117) 1, type := 47, pos := "law.go:198", after := #[{ on := 11, ground := Go.Ground.data }, { on := 15, ground := Go.Ground.gcOnly Go.Departure.lateStores }], guard := none }) (v := mr) rfl (by kernel_rfl) (by kernel_rfl) (by kernel_rfl) (fun _ _ _ h => h) (Or.inl ⟨by kernel_rfl, ?_⟩) hS ?_
          · intro w5 hSw
            clear hSw hS
            go_simp
          simp only [Act.put, List.setIfInBounds_toArray, List.set_cons_zero, List.set_cons_succ]
          refine wpAnyH_take (i := 14) (oi := { dst := some 131, op := Go.Op.extract (Go.Operand.tmp 117) 2, type := 3, pos := "law.go:198", after := #[{ on := 11, ground := Go.Ground.data }, { on := 16, ground := Go.Ground.gcOnly Go.Departure.lateStores }], guard := none }) (v := .int .i64 (anV (abs S) zs tz).2.2) rfl (by kernel_rfl) (by kernel_rfl) (by kernel_rfl) (fun _ _ _ h => h) (Or.inl ⟨by kernel_rfl, ?_⟩) hS ?_
          · intro w5 hSw
            clear hSw hS
            go_simp
          simp only [Act.put, List.setIfInBounds_toArray, List.set_cons_zero, List.set_cons_succ]
          refine wpAnyH_ready (rs := [15]) (by kernel_rfl) (by simp) ?_
          refine AllReadyH.cons (o := { dst := some 18, op := Go.Op.assign (Go.Operand.tmp 129), type := 3, pos := "law.go:198", after := #[{ on := 12, ground := Go.Ground.data }, { on := 10, ground := Go.Ground.chain }, { on := 0, ground := Go.Ground.phase }, { on := 1, ground := Go.Ground.phase }, { on := 2, ground := Go.Ground.phase }, { on := 3, ground := Go.Ground.phase }, { on := 4, ground := Go.Ground.phase }, { on := 5, ground := Go.Ground.phase }, { on := 6, ground := Go.Ground.phase }, { on := 7, ground := Go.Ground.phase }, { on := 8, ground := Go.Ground.phase }, { on := 9, ground := Go.Ground.phase }, { on := 10, ground := Go.Ground.phase }, { on := 11, ground := Go.Ground.phase }, { on := 12, ground := Go.Ground.phase }, { on := 13, ground := Go.Ground.textOnly Go.Departure.lateStores }, { on := 14, ground := Go.Ground.textOnly Go.Departure.lateStores }], guard := none }) rfl (fun K hK => ?_) AllReadyH.nil
          rw [if_pos (by kernel_rfl)]
          go_simp
          refine hK.out _ _ hS (fun hS2 => ?_)
          clear hK K hS
          have hS := hS2
          clear hS2
          refine wpAnyH_ready (rs := [16]) (by kernel_rfl) (by simp) ?_
          refine AllReadyH.cons (o := { dst := some 19, op := Go.Op.assign (Go.Operand.tmp 130), type := 47, pos := "law.go:198", after := #[{ on := 13, ground := Go.Ground.data }, { on := 15, ground := Go.Ground.chain }, { on := 0, ground := Go.Ground.phase }, { on := 1, ground := Go.Ground.phase }, { on := 2, ground := Go.Ground.phase }, { on := 3, ground := Go.Ground.phase }, { on := 4, ground := Go.Ground.phase }, { on := 5, ground := Go.Ground.phase }, { on := 6, ground := Go.Ground.phase }, { on := 7, ground := Go.Ground.phase }, { on := 8, ground := Go.Ground.phase }, { on := 9, ground := Go.Ground.phase }, { on := 10, ground := Go.Ground.phase }, { on := 11, ground := Go.Ground.phase }, { on := 12, ground := Go.Ground.phase }, { on := 13, ground := Go.Ground.phase }, { on := 14, ground := Go.Ground.textOnly Go.Departure.lateStores }, { on := 15, ground := Go.Ground.phase }], guard := none }) rfl (fun K hK => ?_) AllReadyH.nil
          rw [if_pos (by kernel_rfl)]
          go_simp
          refine hK.out _ _ hS (fun hS2 => ?_)
          clear hK K hS
          have hS := hS2
          clear hS2
          refine wpAnyH_ready (rs := [17]) (by kernel_rfl) (by simp) ?_
          refine AllReadyH.cons (o := { dst := some 20, op := Go.Op.assign (Go.Operand.tmp 131), type := 3, pos := "law.go:198", after := #[{ on := 14, ground := Go.Ground.data }, { on := 16, ground := Go.Ground.chain }, { on := 0, ground := Go.Ground.phase }, { on := 1, ground := Go.Ground.phase }, { on := 2, ground := Go.Ground.phase }, { on := 3, ground := Go.Ground.phase }, { on := 4, ground := Go.Ground.phase }, { on := 5, ground := Go.Ground.phase }, { on := 6, ground := Go.Ground.phase }, { on := 7, ground := Go.Ground.phase }, { on := 8, ground := Go.Ground.phase }, { on := 9, ground := Go.Ground.phase }, { on := 10, ground := Go.Ground.phase }, { on := 11, ground := Go.Ground.phase }, { on := 12, ground := Go.Ground.phase }, { on := 13, ground := Go.Ground.phase }, { on := 14, ground := Go.Ground.phase }, { on := 15, ground := Go.Ground.phase }, { on := 16, ground := Go.Ground.phase }], guard := none }) rfl (fun K hK => ?_) AllReadyH.nil
          rw [if_pos (by kernel_rfl)]
          go_simp
          refine hK.out _ _ hS (fun hS2 => ?_)
          clear hK K hS hS2
          refine wpAnyH_done (by kernel_rfl) ?_ _
          have hSame := same_any w4 mv mr D D (Ow.sb HO4.out) (Ow.sb HQ4.out) (by have := HDL.out; omega)
          rw [show (D == D) = true by simp] at hSame
          go_wp2_with (go_at_call 13; refine (num_walk _ _).mono ?_; rintro _ w9 ⟨rfl, h9⟩; obtain rfl := h9.symm; clear h9; dsimp only)
          refine hSame.mono ?_
          rintro e w5 ⟨rfl, u5⟩
          have HBS5 := Hid.of (HBS4.out.up hk u5)
          have HO5 := Hid.of (show Ow w5 0 mv D from ow_up HO4.out u5)
          have HLA5 := Hid.of (HLA4.out.up u5)
          have HB5 := Hid.of (HB4.out.up u5)
          clear hSame u5 HBS4 HO4 HQ4 HLA4 HLA3 HB4 HB3 HBS3 HO3 HLA
          dsimp only
          go_wp2
          go_loopw [21, 22] (fun v21 v22 wr => ∃ q : Nat, v22 = .int .i64 (q : Int) ∧ q ≤ i + 70 ∧ v21 = .bool true ∧ Hid (Up w5 wr)) (fun _ v22 _ => i + 70 - (intOf v22).toNat)
          case atStart => exact ⟨0, rfl, by omega, rfl, Hid.of (Up.refl _)⟩
          case round =>
            obtain ⟨q, rfl, hq, rfl, hU⟩ := hrel
            have HU := Hid.of hU.out
            clear hU
            have HBq := Hid.of (HB5.out.up HU.out)
            have HLq := Hid.of (HLA5.out.up HU.out)
            have HIq := Hid.of (HIL.out.up (HBS5.out.x.up.trans HU.out))
            by_cases hlt : q < i + 70
            · have hltz : (q : Int) < (i : Int) + 70 := by omega
              have hqw : IntKind.i64.wrap ((q : Int) + 1) = (q : Int) + 1 := by rw [IntKind.wrap_i64]; omega
              by_cases hqi : q < i
              · have hqz : (q : Int) < (i : Int) := by omega
                have hqy : ¬ (i : Int) ≤ (q : Int) := by omega
                have hql : q < zs.length := by rw [HNN.out.1]; exact hqi
                obtain ⟨z, hz⟩ : ∃ z, zs[q] = z := ⟨_, rfl⟩
                have HC1 := Hid.of (show ∀ w5, Up wr w5 → w5.cell? ⟨lb, q, none⟩ = some (.int .i64 z) from fun w5 hu => (HLq.out.up hu).cell (by
                  have h1 := cpz_lo (zs := zs) (N := i + 70) hql
                  rw [HNN.out.1, hz] at h1
                  unfold ivz
                  rw [List.getElem?_map, h1]
                  rfl))
                obtain ⟨a1, c1, e1, hc1, hx⟩ := HIq.out
                obtain ⟨b, of, ea, hcl⟩ := hx q z (by rw [List.getElem?_eq_getElem hql, hz])
                rw [HNN.out.1] at e1
                injection e1 with e1 e2 e3
                clear e2
                subst e1
                subst e3
                subst ea
                have HC2 := Hid.of (show ∀ w5, Up wr w5 → w5.cell? ⟨b, of + q, none⟩ = some (.int .i64 z) from fun w5 hu => hu.cell hcl)
                have hcz : (i : Int) ≤ (lc : Int) := by omega
                clear hx hz hql hcl hc1
                go_wp2
                refine wp_region_held_drew (S := fun w2 => Up wr w2) (by kernel_rfl) ((Up.refl wr).drew) (fun hS => ?_)
                refine wpAnyH_take (i := 0) (oi := { dst := some 152, op := Go.Op.move (Go.Operand.tmp 21), type := 4, pos := "law.go:201", after := #[], guard := none }) (v := .bool true) rfl (by kernel_rfl) (by kernel_rfl) (by kernel_rfl) (fun _ _ _ h => h) (Or.inl ⟨by kernel_rfl, ?_⟩) hS ?_
                · intro w5 hSw
                  clear hSw hS
                  go_simp
                simp only [Act.put, List.setIfInBounds_toArray, List.set_cons_zero, List.set_cons_succ]
                refine wpAnyH_take (i := 1) (oi := { dst := some 153, op := Go.Op.move (Go.Operand.tmp 152), type := 4, pos := "law.go:201", after := #[{ on := 0, ground := Go.Ground.data }], guard := none }) (v := .bool true) rfl (by kernel_rfl) (by kernel_rfl) (by kernel_rfl) (fun _ _ _ h => h) (Or.inl ⟨by kernel_rfl, ?_⟩) hS ?_
                · intro w5 hSw
                  clear hSw hS
                  go_simp
                simp only [Act.put, List.setIfInBounds_toArray, List.set_cons_zero, List.set_cons_succ]
                refine wpAnyH_take (i := 2) (oi := { dst := some 154, op := Go.Op.move (Go.Operand.tmp 22), type := 3, pos := "law.go:201", after := #[{ on := 1, ground := Go.Ground.guard }], guard := some (1, true) }) (v := .int .i64 (q : Int)) rfl (by kernel_rfl) (by kernel_rfl) (by kernel_rfl) (fun _ _ _ h => h) (Or.inl ⟨by kernel_rfl, ?_⟩) hS ?_
                · intro w5 hSw
                  clear hSw hS
                  go_simp
                simp only [Act.put, List.setIfInBounds_toArray, List.set_cons_zero, List.set_cons_succ]
                refine wpAnyH_take (i := 3) (oi := { dst := some 155, op := Go.Op.fieldAddr 108 (Go.Operand.tmp 5) 4, type := 0, pos := "law.go:201", after := #[{ on := 1, ground := Go.Ground.guard }], guard := some (1, true) }) (v := .pointer (some ⟨bx, 4, none⟩)) rfl (by kernel_rfl) (by kernel_rfl) (by kernel_rfl) (fun _ _ _ h => h) (Or.inl ⟨by kernel_rfl, ?_⟩) hS ?_
                · intro w5 hSw
                  clear hSw hS
                  go_simp
                simp only [Act.put, List.setIfInBounds_toArray, List.set_cons_zero, List.set_cons_succ]
                refine wpAnyH_take (i := 4) (oi := { dst := some 156, op := Go.Op.load 51 (Go.Operand.tmp 155), type := 51, pos := "law.go:201", after := #[{ on := 3, ground := Go.Ground.data }, { on := 1, ground := Go.Ground.guard }], guard := some (1, true) }) (v := .slice (some ⟨b, of, none⟩) i lc) rfl (by kernel_rfl) (by kernel_rfl) (by kernel_rfl) (fun _ _ _ h => h) (Or.inl ⟨by kernel_rfl, ?_⟩) hS ?_
                · intro w5 hSw
                  have h0 := (HBq.out.up hSw).cell (i := 4) rfl
                  clear hSw hS
                  go_simp
                simp only [Act.put, List.setIfInBounds_toArray, List.set_cons_zero, List.set_cons_succ]
                refine wpAnyH_take (i := 5) (oi := { dst := some 157, op := Go.Op.call { callee := Go.Callee.builtin Go.Builtin.len, args := #[Go.Operand.tmp 156], argTypes := #[51] }, type := 3, pos := "law.go:201", after := #[{ on := 4, ground := Go.Ground.data }, { on := 1, ground := Go.Ground.guard }], guard := some (1, true) }) (v := .int .i64 (i : Int)) rfl (by kernel_rfl) (by kernel_rfl) (by kernel_rfl) (fun _ _ _ h => h) (Or.inl ⟨by kernel_rfl, ?_⟩) hS ?_
                · intro w5 hSw
                  clear hSw hS
                  go_simp
                simp only [Act.put, List.setIfInBounds_toArray, List.set_cons_zero, List.set_cons_succ]
                refine wpAnyH_take (i := 6) (oi := { dst := some 158, op := Go.Op.binOp Go.BinOp.lss 3 (Go.Operand.tmp 154) (Go.Operand.tmp 157) 3, type := 4, pos := "law.go:201", after := #[{ on := 2, ground := Go.Ground.data }, { on := 5, ground := Go.Ground.data }, { on := 1, ground := Go.Ground.guard }], guard := some (1, true) }) (v := .bool true) rfl (by kernel_rfl) (by kernel_rfl) (by kernel_rfl) (fun _ _ _ h => h) (Or.inl ⟨by kernel_rfl, ?_⟩) hS ?_
                · intro w5 hSw
                  clear hSw hS
                  go_simp
                simp only [Act.put, List.setIfInBounds_toArray, List.set_cons_zero, List.set_cons_succ]
                refine wpAnyH_take (i := 7) (oi := { dst := some 159, op := Go.Op.move (Go.Operand.tmp 158), type := 4, pos := "law.go:201", after := #[{ on := 6, ground := Go.Ground.data }, { on := 1, ground := Go.Ground.chain }, { on := 1, ground := Go.Ground.guard }], guard := some (1, true) }) (v := .bool true) rfl (by kernel_rfl) (by kernel_rfl) (by kernel_rfl) (fun _ _ _ h => h) (Or.inl ⟨by kernel_rfl, ?_⟩) hS ?_
                · intro w5 hSw
                  clear hSw hS
                  go_simp
                simp only [Act.put, List.setIfInBounds_toArray, List.set_cons_zero, List.set_cons_succ]
                refine wpAnyH_take (i := 8) (oi := { dst := some 160, op := Go.Op.move (Go.Operand.tmp 12), type := 51, pos := "law.go:201", after := #[{ on := 7, ground := Go.Ground.guard }], guard := some (7, true) }) (v := .slice (some ⟨lb, 0, none⟩) (i + 70) (i + 70)) rfl (by kernel_rfl) (by kernel_rfl) (by kernel_rfl) (fun _ _ _ h => h) (Or.inl ⟨by kernel_rfl, ?_⟩) hS ?_
                · intro w5 hSw
                  clear hSw hS
                  go_simp
                simp only [Act.put, List.setIfInBounds_toArray, List.set_cons_zero, List.set_cons_succ]
                refine wpAnyH_take (i := 9) (oi := { dst := some 161, op := Go.Op.move (Go.Operand.tmp 22), type := 3, pos := "law.go:201", after := #[{ on := 7, ground := Go.Ground.guard }], guard := some (7, true) }) (v := .int .i64 (q : Int)) rfl (by kernel_rfl) (by kernel_rfl) (by kernel_rfl) (fun _ _ _ h => h) (Or.inl ⟨by kernel_rfl, ?_⟩) hS ?_
                · intro w5 hSw
                  clear hSw hS
                  go_simp
                simp only [Act.put, List.setIfInBounds_toArray, List.set_cons_zero, List.set_cons_succ]
                refine wpAnyH_take (i := 10) (oi := { dst := some 162, op := Go.Op.indexAddr 51 (Go.Operand.tmp 160) (Go.Operand.tmp 161), type := 0, pos := "law.go:201", after := #[{ on := 8, ground := Go.Ground.data }, { on := 9, ground := Go.Ground.data }, { on := 7, ground := Go.Ground.guard }], guard := some (7, true) }) (v := .pointer (some ⟨lb, q, none⟩)) rfl (by kernel_rfl) (by kernel_rfl) (by kernel_rfl) (fun _ _ _ h => h) (Or.inl ⟨by kernel_rfl, ?_⟩) hS ?_
                · intro w5 hSw
                  clear hSw hS
                  go_simp
                simp only [Act.put, List.setIfInBounds_toArray, List.set_cons_zero, List.set_cons_succ]
                refine wpAnyH_take (i := 11) (oi := { dst := some 163, op := Go.Op.load 3 (Go.Operand.tmp 162), type := 3, pos := "law.go:201", after := #[{ on := 10, ground := Go.Ground.data }, { on := 7, ground := Go.Ground.guard }], guard := some (7, true) }) (v := .int .i64 z) rfl (by kernel_rfl) (by kernel_rfl) (by kernel_rfl) (fun _ _ _ h => h) (Or.inl ⟨by kernel_rfl, ?_⟩) hS ?_
                · intro w5 hSw
                  have h0 := HC1.out w5 hSw
                  clear hSw hS
                  go_simp
                simp only [Act.put, List.setIfInBounds_toArray, List.set_cons_zero, List.set_cons_succ]
                refine wpAnyH_take (i := 12) (oi := { dst := some 164, op := Go.Op.fieldAddr 108 (Go.Operand.tmp 5) 4, type := 0, pos := "law.go:201", after := #[{ on := 7, ground := Go.Ground.guard }], guard := some (7, true) }) (v := .pointer (some ⟨bx, 4, none⟩)) rfl (by kernel_rfl) (by kernel_rfl) (by kernel_rfl) (fun _ _ _ h => h) (Or.inl ⟨by kernel_rfl, ?_⟩) hS ?_
                · intro w5 hSw
                  clear hSw hS
                  go_simp
                simp only [Act.put, List.setIfInBounds_toArray, List.set_cons_zero, List.set_cons_succ]
                refine wpAnyH_take (i := 13) (oi := { dst := some 165, op := Go.Op.load 51 (Go.Operand.tmp 164), type := 51, pos := "law.go:201", after := #[{ on := 12, ground := Go.Ground.data }, { on := 7, ground := Go.Ground.guard }], guard := some (7, true) }) (v := .slice (some ⟨b, of, none⟩) i lc) rfl (by kernel_rfl) (by kernel_rfl) (by kernel_rfl) (fun _ _ _ h => h) (Or.inl ⟨by kernel_rfl, ?_⟩) hS ?_
                · intro w5 hSw
                  have h0 := (HBq.out.up hSw).cell (i := 4) rfl
                  clear hSw hS
                  go_simp
                simp only [Act.put, List.setIfInBounds_toArray, List.set_cons_zero, List.set_cons_succ]
                refine wpAnyH_take (i := 14) (oi := { dst := some 166, op := Go.Op.move (Go.Operand.tmp 22), type := 3, pos := "law.go:201", after := #[{ on := 7, ground := Go.Ground.guard }], guard := some (7, true) }) (v := .int .i64 (q : Int)) rfl (by kernel_rfl) (by kernel_rfl) (by kernel_rfl) (fun _ _ _ h => h) (Or.inl ⟨by kernel_rfl, ?_⟩) hS ?_
                · intro w5 hSw
                  clear hSw hS
                  go_simp
                simp only [Act.put, List.setIfInBounds_toArray, List.set_cons_zero, List.set_cons_succ]
                refine wpAnyH_take (i := 15) (oi := { dst := some 167, op := Go.Op.indexAddr 51 (Go.Operand.tmp 165) (Go.Operand.tmp 166), type := 0, pos := "law.go:201", after := #[{ on := 13, ground := Go.Ground.data }, { on := 14, ground := Go.Ground.data }, { on := 7, ground := Go.Ground.guard }], guard := some (7, true) }) (v := .pointer (some ⟨b, of + q, none⟩)) rfl (by kernel_rfl) (by kernel_rfl) (by kernel_rfl) (fun _ _ _ h => h) (Or.inl ⟨by kernel_rfl, ?_⟩) hS ?_
                · intro w5 hSw
                  clear hSw hS
                  go_simp
                simp only [Act.put, List.setIfInBounds_toArray, List.set_cons_zero, List.set_cons_succ]
                refine wpAnyH_take (i := 16) (oi := { dst := some 168, op := Go.Op.load 3 (Go.Operand.tmp 167), type := 3, pos := "law.go:201", after := #[{ on := 15, ground := Go.Ground.data }, { on := 7, ground := Go.Ground.guard }], guard := some (7, true) }) (v := .int .i64 z) rfl (by kernel_rfl) (by kernel_rfl) (by kernel_rfl) (fun _ _ _ h => h) (Or.inl ⟨by kernel_rfl, ?_⟩) hS ?_
                · intro w5 hSw
                  have h0 := HC2.out w5 hSw
                  clear hSw hS
                  go_simp
                simp only [Act.put, List.setIfInBounds_toArray, List.set_cons_zero, List.set_cons_succ]
                refine wpAnyH_take (i := 17) (oi := { dst := some 169, op := Go.Op.binOp Go.BinOp.eql 3 (Go.Operand.tmp 163) (Go.Operand.tmp 168) 3, type := 4, pos := "law.go:201", after := #[{ on := 11, ground := Go.Ground.data }, { on := 16, ground := Go.Ground.data }, { on := 7, ground := Go.Ground.guard }], guard := some (7, true) }) (v := .bool true) rfl (by kernel_rfl) (by kernel_rfl) (by kernel_rfl) (fun _ _ _ h => h) (Or.inl ⟨by kernel_rfl, ?_⟩) hS ?_
                · intro w5 hSw
                  clear hSw hS
                  go_simp
                simp only [Act.put, List.setIfInBounds_toArray, List.set_cons_zero, List.set_cons_succ]
                refine wpAnyH_take (i := 18) (oi := { dst := some 170, op := Go.Op.pick (Go.Operand.tmp 159) (Go.Operand.tmp 169) (Go.Operand.const (Go.Value.bool false)), type := 4, pos := "law.go:201", after := #[{ on := 7, ground := Go.Ground.data }, { on := 17, ground := Go.Ground.data }, { on := 1, ground := Go.Ground.guard }], guard := some (1, true) }) (v := .bool true) rfl (by kernel_rfl) (by kernel_rfl) (by kernel_rfl) (fun _ _ _ h => h) (Or.inl ⟨by kernel_rfl, ?_⟩) hS ?_
                · intro w5 hSw
                  clear hSw hS
                  go_simp
                simp only [Act.put, List.setIfInBounds_toArray, List.set_cons_zero, List.set_cons_succ]
                refine wpAnyH_take (i := 19) (oi := { dst := some 171, op := Go.Op.move (Go.Operand.tmp 170), type := 4, pos := "law.go:201", after := #[{ on := 18, ground := Go.Ground.data }, { on := 7, ground := Go.Ground.chain }, { on := 1, ground := Go.Ground.guard }], guard := some (1, true) }) (v := .bool true) rfl (by kernel_rfl) (by kernel_rfl) (by kernel_rfl) (fun _ _ _ h => h) (Or.inl ⟨by kernel_rfl, ?_⟩) hS ?_
                · intro w5 hSw
                  clear hSw hS
                  go_simp
                simp only [Act.put, List.setIfInBounds_toArray, List.set_cons_zero, List.set_cons_succ]
                refine wpAnyH_take (i := 20) (oi := { dst := some 172, op := Go.Op.move (Go.Operand.tmp 22), type := 3, pos := "law.go:201", after := #[{ on := 19, ground := Go.Ground.guard }], guard := some (19, false) }) (v := undef) rfl (by kernel_rfl) (by kernel_rfl) (by kernel_rfl) (fun _ _ _ h => h) (Or.inr ⟨by kernel_rfl, rfl⟩) hS ?_
                simp only [Act.put, List.setIfInBounds_toArray, List.set_cons_zero, List.set_cons_succ]
                refine wpAnyH_take (i := 21) (oi := { dst := some 173, op := Go.Op.fieldAddr 108 (Go.Operand.tmp 5) 4, type := 0, pos := "law.go:201", after := #[{ on := 19, ground := Go.Ground.guard }], guard := some (19, false) }) (v := undef) rfl (by kernel_rfl) (by kernel_rfl) (by kernel_rfl) (fun _ _ _ h => h) (Or.inr ⟨by kernel_rfl, rfl⟩) hS ?_
                simp only [Act.put, List.setIfInBounds_toArray, List.set_cons_zero, List.set_cons_succ]
                refine wpAnyH_take (i := 22) (oi := { dst := some 174, op := Go.Op.load 51 (Go.Operand.tmp 173), type := 51, pos := "law.go:201", after := #[{ on := 21, ground := Go.Ground.data }, { on := 19, ground := Go.Ground.guard }], guard := some (19, false) }) (v := undef) rfl (by kernel_rfl) (by kernel_rfl) (by kernel_rfl) (fun _ _ _ h => h) (Or.inr ⟨by kernel_rfl, rfl⟩) hS ?_
                simp only [Act.put, List.setIfInBounds_toArray, List.set_cons_zero, List.set_cons_succ]
                refine wpAnyH_take (i := 23) (oi := { dst := some 175, op := Go.Op.call { callee := Go.Callee.builtin Go.Builtin.len, args := #[Go.Operand.tmp 174], argTypes := #[51] }, type := 3, pos := "law.go:201", after := #[{ on := 22, ground := Go.Ground.data }, { on := 19, ground := Go.Ground.guard }], guard := some (19, false) }) (v := undef) rfl (by kernel_rfl) (by kernel_rfl) (by kernel_rfl) (fun _ _ _ h => h) (Or.inr ⟨by kernel_rfl, rfl⟩) hS ?_
                simp only [Act.put, List.setIfInBounds_toArray, List.set_cons_zero, List.set_cons_succ]
                refine wpAnyH_take (i := 24) (oi := { dst := some 176, op := Go.Op.binOp Go.BinOp.geq 3 (Go.Operand.tmp 172) (Go.Operand.tmp 175) 3, type := 4, pos := "law.go:201", after := #[{ on := 20, ground := Go.Ground.data }, { on := 23, ground := Go.Ground.data }, { on := 19, ground := Go.Ground.guard }], guard := some (19, false) }) (v := undef) rfl (by kernel_rfl) (by kernel_rfl) (by kernel_rfl) (fun _ _ _ h => h) (Or.inr ⟨by kernel_rfl, rfl⟩) hS ?_
                simp only [Act.put, List.setIfInBounds_toArray, List.set_cons_zero, List.set_cons_succ]
                refine wpAnyH_take (i := 25) (oi := { dst := some 177, op := Go.Op.move (Go.Operand.tmp 176), type := 4, pos := "law.go:201", after := #[{ on := 24, ground := Go.Ground.data }, { on := 19, ground := Go.Ground.chain }, { on := 19, ground := Go.Ground.guard }], guard := some (19, false) }) (v := undef) rfl (by kernel_rfl) (by kernel_rfl) (by kernel_rfl) (fun _ _ _ h => h) (Or.inr ⟨by kernel_rfl, rfl⟩) hS ?_
                simp only [Act.put, List.setIfInBounds_toArray, List.set_cons_zero, List.set_cons_succ]
                refine wpAnyH_take (i := 26) (oi := { dst := some 178, op := Go.Op.move (Go.Operand.tmp 12), type := 51, pos := "law.go:201", after := #[{ on := 25, ground := Go.Ground.guard }], guard := some (25, true) }) (v := undef) rfl (by kernel_rfl) (by kernel_rfl) (by kernel_rfl) (fun _ _ _ h => h) (Or.inr ⟨by kernel_rfl, rfl⟩) hS ?_
                simp only [Act.put, List.setIfInBounds_toArray, List.set_cons_zero, List.set_cons_succ]
                refine wpAnyH_take (i := 27) (oi := { dst := some 179, op := Go.Op.move (Go.Operand.tmp 22), type := 3, pos := "law.go:201", after := #[{ on := 25, ground := Go.Ground.guard }], guard := some (25, true) }) (v := undef) rfl (by kernel_rfl) (by kernel_rfl) (by kernel_rfl) (fun _ _ _ h => h) (Or.inr ⟨by kernel_rfl, rfl⟩) hS ?_
                simp only [Act.put, List.setIfInBounds_toArray, List.set_cons_zero, List.set_cons_succ]
                refine wpAnyH_take (i := 28) (oi := { dst := some 180, op := Go.Op.indexAddr 51 (Go.Operand.tmp 178) (Go.Operand.tmp 179), type := 0, pos := "law.go:201", after := #[{ on := 26, ground := Go.Ground.data }, { on := 27, ground := Go.Ground.data }, { on := 25, ground := Go.Ground.guard }], guard := some (25, true) }) (v := undef) rfl (by kernel_rfl) (by kernel_rfl) (by kernel_rfl) (fun _ _ _ h => h) (Or.inr ⟨by kernel_rfl, rfl⟩) hS ?_
                simp only [Act.put, List.setIfInBounds_toArray, List.set_cons_zero, List.set_cons_succ]
                refine wpAnyH_take (i := 29) (oi := { dst := some 181, op := Go.Op.load 3 (Go.Operand.tmp 180), type := 3, pos := "law.go:201", after := #[{ on := 28, ground := Go.Ground.data }, { on := 25, ground := Go.Ground.guard }], guard := some (25, true) }) (v := undef) rfl (by kernel_rfl) (by kernel_rfl) (by kernel_rfl) (fun _ _ _ h => h) (Or.inr ⟨by kernel_rfl, rfl⟩) hS ?_
                simp only [Act.put, List.setIfInBounds_toArray, List.set_cons_zero, List.set_cons_succ]
                refine wpAnyH_take (i := 30) (oi := { dst := some 182, op := Go.Op.binOp Go.BinOp.eql 3 (Go.Operand.tmp 181) (Go.Operand.const (Go.Value.int Go.IntKind.i64 (-77))) 3, type := 4, pos := "law.go:201", after := #[{ on := 29, ground := Go.Ground.data }, { on := 25, ground := Go.Ground.guard }], guard := some (25, true) }) (v := undef) rfl (by kernel_rfl) (by kernel_rfl) (by kernel_rfl) (fun _ _ _ h => h) (Or.inr ⟨by kernel_rfl, rfl⟩) hS ?_
                simp only [Act.put, List.setIfInBounds_toArray, List.set_cons_zero, List.set_cons_succ]
                refine wpAnyH_take (i := 31) (oi := { dst := some 183, op := Go.Op.pick (Go.Operand.tmp 177) (Go.Operand.tmp 182) (Go.Operand.const (Go.Value.bool false)), type := 4, pos := "law.go:201", after := #[{ on := 25, ground := Go.Ground.data }, { on := 30, ground := Go.Ground.data }, { on := 19, ground := Go.Ground.guard }], guard := some (19, false) }) (v := undef) rfl (by kernel_rfl) (by kernel_rfl) (by kernel_rfl) (fun _ _ _ h => h) (Or.inr ⟨by kernel_rfl, rfl⟩) hS ?_
                simp only [Act.put, List.setIfInBounds_toArray, List.set_cons_zero, List.set_cons_succ]
                refine wpAnyH_take (i := 32) (oi := { dst := some 184, op := Go.Op.pick (Go.Operand.tmp 171) (Go.Operand.const (Go.Value.bool true)) (Go.Operand.tmp 183), type := 4, pos := "law.go:201", after := #[{ on := 19, ground := Go.Ground.data }, { on := 31, ground := Go.Ground.data }, { on := 1, ground := Go.Ground.guard }], guard := some (1, true) }) (v := .bool true) rfl (by kernel_rfl) (by kernel_rfl) (by kernel_rfl) (fun _ _ _ h => h) (Or.inl ⟨by kernel_rfl, ?_⟩) hS ?_
                · intro w5 hSw
                  clear hSw hS
                  go_simp
                simp only [Act.put, List.setIfInBounds_toArray, List.set_cons_zero, List.set_cons_succ]
                refine wpAnyH_take (i := 33) (oi := { dst := some 185, op := Go.Op.pick (Go.Operand.tmp 153) (Go.Operand.tmp 184) (Go.Operand.const (Go.Value.bool false)), type := 4, pos := "law.go:201", after := #[{ on := 1, ground := Go.Ground.data }, { on := 32, ground := Go.Ground.data }], guard := none }) (v := .bool true) rfl (by kernel_rfl) (by kernel_rfl) (by kernel_rfl) (fun _ _ _ h => h) (Or.inl ⟨by kernel_rfl, ?_⟩) hS ?_
                · intro w5 hSw
                  clear hSw hS
                  go_simp
                simp only [Act.put, List.setIfInBounds_toArray, List.set_cons_zero, List.set_cons_succ]
                refine wpAnyH_ready (rs := [34]) (by kernel_rfl) (by simp) ?_
                refine AllReadyH.cons (o := { dst := some 21, op := Go.Op.assign (Go.Operand.tmp 185), type := 4, pos := "law.go:201", after := #[{ on := 33, ground := Go.Ground.data }, { on := 25, ground := Go.Ground.chain }, { on := 0, ground := Go.Ground.phase }, { on := 1, ground := Go.Ground.phase }, { on := 2, ground := Go.Ground.phase }, { on := 3, ground := Go.Ground.phase }, { on := 4, ground := Go.Ground.phase }, { on := 5, ground := Go.Ground.phase }, { on := 6, ground := Go.Ground.phase }, { on := 7, ground := Go.Ground.phase }, { on := 8, ground := Go.Ground.phase }, { on := 9, ground := Go.Ground.phase }, { on := 10, ground := Go.Ground.phase }, { on := 11, ground := Go.Ground.phase }, { on := 12, ground := Go.Ground.phase }, { on := 13, ground := Go.Ground.phase }, { on := 14, ground := Go.Ground.phase }, { on := 15, ground := Go.Ground.phase }, { on := 16, ground := Go.Ground.phase }, { on := 17, ground := Go.Ground.phase }, { on := 18, ground := Go.Ground.phase }, { on := 19, ground := Go.Ground.phase }, { on := 20, ground := Go.Ground.phase }, { on := 21, ground := Go.Ground.phase }, { on := 22, ground := Go.Ground.phase }, { on := 23, ground := Go.Ground.phase }, { on := 24, ground := Go.Ground.phase }, { on := 25, ground := Go.Ground.phase }, { on := 26, ground := Go.Ground.phase }, { on := 27, ground := Go.Ground.phase }, { on := 28, ground := Go.Ground.phase }, { on := 29, ground := Go.Ground.phase }, { on := 30, ground := Go.Ground.phase }, { on := 31, ground := Go.Ground.phase }, { on := 32, ground := Go.Ground.phase }, { on := 33, ground := Go.Ground.phase }], guard := none }) rfl (fun K hK => ?_) AllReadyH.nil
                rw [if_pos (by kernel_rfl)]
                go_simp
                refine hK.out _ _ hS (fun hS2 => ?_)
                clear hK K hS hS2
                refine wpAnyH_done (by kernel_rfl) ?_ _
                go_wp2
                go_roundw
                case rel => exact ⟨q + 1, by simp, by omega, rfl, Hid.of HU.out.drew⟩
                case measure => simp [intOf]; omega
              · have hqz : ¬ (q : Int) < (i : Int) := by omega
                have hqy : (i : Int) ≤ (q : Int) := by omega
                have HC1 := Hid.of (show ∀ w5, Up wr w5 → w5.cell? ⟨lb, q, none⟩ = some (.int .i64 (-77)) from fun w5 hu => (HLq.out.up hu).cell (by
                  have h1 := cpz_hi (zs := zs) (N := i + 70) (j := q) (by rw [HNN.out.1]; omega) hlt
                  rw [HNN.out.1] at h1
                  unfold ivz
                  rw [List.getElem?_map, h1]
                  rfl))
                go_wp2
                refine wp_region_held_drew (S := fun w2 => Up wr w2) (by kernel_rfl) ((Up.refl wr).drew) (fun hS => ?_)
                refine wpAnyH_take (i := 0) (oi := { dst := some 152, op := Go.Op.move (Go.Operand.tmp 21), type := 4, pos := "law.go:201", after := #[], guard := none }) (v := .bool true) rfl (by kernel_rfl) (by kernel_rfl) (by kernel_rfl) (fun _ _ _ h => h) (Or.inl ⟨by kernel_rfl, ?_⟩) hS ?_
                · intro w5 hSw
                  clear hSw hS
                  go_simp
                simp only [Act.put, List.setIfInBounds_toArray, List.set_cons_zero, List.set_cons_succ]
                refine wpAnyH_take (i := 1) (oi := { dst := some 153, op := Go.Op.move (Go.Operand.tmp 152), type := 4, pos := "law.go:201", after := #[{ on := 0, ground := Go.Ground.data }], guard := none }) (v := .bool true) rfl (by kernel_rfl) (by kernel_rfl) (by kernel_rfl) (fun _ _ _ h => h) (Or.inl ⟨by kernel_rfl, ?_⟩) hS ?_
                · intro w5 hSw
                  clear hSw hS
                  go_simp
                simp only [Act.put, List.setIfInBounds_toArray, List.set_cons_zero, List.set_cons_succ]
                refine wpAnyH_take (i := 2) (oi := { dst := some 154, op := Go.Op.move (Go.Operand.tmp 22), type := 3, pos := "law.go:201", after := #[{ on := 1, ground := Go.Ground.guard }], guard := some (1, true) }) (v := .int .i64 (q : Int)) rfl (by kernel_rfl) (by kernel_rfl) (by kernel_rfl) (fun _ _ _ h => h) (Or.inl ⟨by kernel_rfl, ?_⟩) hS ?_
                · intro w5 hSw
                  clear hSw hS
                  go_simp
                simp only [Act.put, List.setIfInBounds_toArray, List.set_cons_zero, List.set_cons_succ]
                refine wpAnyH_take (i := 3) (oi := { dst := some 155, op := Go.Op.fieldAddr 108 (Go.Operand.tmp 5) 4, type := 0, pos := "law.go:201", after := #[{ on := 1, ground := Go.Ground.guard }], guard := some (1, true) }) (v := .pointer (some ⟨bx, 4, none⟩)) rfl (by kernel_rfl) (by kernel_rfl) (by kernel_rfl) (fun _ _ _ h => h) (Or.inl ⟨by kernel_rfl, ?_⟩) hS ?_
                · intro w5 hSw
                  clear hSw hS
                  go_simp
                simp only [Act.put, List.setIfInBounds_toArray, List.set_cons_zero, List.set_cons_succ]
                refine wpAnyH_take (i := 4) (oi := { dst := some 156, op := Go.Op.load 51 (Go.Operand.tmp 155), type := 51, pos := "law.go:201", after := #[{ on := 3, ground := Go.Ground.data }, { on := 1, ground := Go.Ground.guard }], guard := some (1, true) }) (v := .slice la i lc) rfl (by kernel_rfl) (by kernel_rfl) (by kernel_rfl) (fun _ _ _ h => h) (Or.inl ⟨by kernel_rfl, ?_⟩) hS ?_
                · intro w5 hSw
                  have h0 := (HBq.out.up hSw).cell (i := 4) rfl
                  clear hSw hS
                  go_simp
                simp only [Act.put, List.setIfInBounds_toArray, List.set_cons_zero, List.set_cons_succ]
                refine wpAnyH_take (i := 5) (oi := { dst := some 157, op := Go.Op.call { callee := Go.Callee.builtin Go.Builtin.len, args := #[Go.Operand.tmp 156], argTypes := #[51] }, type := 3, pos := "law.go:201", after := #[{ on := 4, ground := Go.Ground.data }, { on := 1, ground := Go.Ground.guard }], guard := some (1, true) }) (v := .int .i64 (i : Int)) rfl (by kernel_rfl) (by kernel_rfl) (by kernel_rfl) (fun _ _ _ h => h) (Or.inl ⟨by kernel_rfl, ?_⟩) hS ?_
                · intro w5 hSw
                  clear hSw hS
                  go_simp
                simp only [Act.put, List.setIfInBounds_toArray, List.set_cons_zero, List.set_cons_succ]
                refine wpAnyH_take (i := 6) (oi := { dst := some 158, op := Go.Op.binOp Go.BinOp.lss 3 (Go.Operand.tmp 154) (Go.Operand.tmp 157) 3, type := 4, pos := "law.go:201", after := #[{ on := 2, ground := Go.Ground.data }, { on := 5, ground := Go.Ground.data }, { on := 1, ground := Go.Ground.guard }], guard := some (1, true) }) (v := .bool false) rfl (by kernel_rfl) (by kernel_rfl) (by kernel_rfl) (fun _ _ _ h => h) (Or.inl ⟨by kernel_rfl, ?_⟩) hS ?_
                · intro w5 hSw
                  clear hSw hS
                  go_simp
                simp only [Act.put, List.setIfInBounds_toArray, List.set_cons_zero, List.set_cons_succ]
                refine wpAnyH_take (i := 7) (oi := { dst := some 159, op := Go.Op.move (Go.Operand.tmp 158), type := 4, pos := "law.go:201", after := #[{ on := 6, ground := Go.Ground.data }, { on := 1, ground := Go.Ground.chain }, { on := 1, ground := Go.Ground.guard }], guard := some (1, true) }) (v := .bool false) rfl (by kernel_rfl) (by kernel_rfl) (by kernel_rfl) (fun _ _ _ h => h) (Or.inl ⟨by kernel_rfl, ?_⟩) hS ?_
                · intro w5 hSw
                  clear hSw hS
                  go_simp
                simp only [Act.put, List.setIfInBounds_toArray, List.set_cons_zero, List.set_cons_succ]
                refine wpAnyH_take (i := 8) (oi := { dst := some 160, op := Go.Op.move (Go.Operand.tmp 12), type := 51, pos := "law.go:201", after := #[{ on := 7, ground := Go.Ground.guard }], guard := some (7, true) }) (v := undef) rfl (by kernel_rfl) (by kernel_rfl) (by kernel_rfl) (fun _ _ _ h => h) (Or.inr ⟨by kernel_rfl, rfl⟩) hS ?_
                simp only [Act.put, List.setIfInBounds_toArray, List.set_cons_zero, List.set_cons_succ]
                refine wpAnyH_take (i := 9) (oi := { dst := some 161, op := Go.Op.move (Go.Operand.tmp 22), type := 3, pos := "law.go:201", after := #[{ on := 7, ground := Go.Ground.guard }], guard := some (7, true) }) (v := undef) rfl (by kernel_rfl) (by kernel_rfl) (by kernel_rfl) (fun _ _ _ h => h) (Or.inr ⟨by kernel_rfl, rfl⟩) hS ?_
                simp only [Act.put, List.setIfInBounds_toArray, List.set_cons_zero, List.set_cons_succ]
                refine wpAnyH_take (i := 10) (oi := { dst := some 162, op := Go.Op.indexAddr 51 (Go.Operand.tmp 160) (Go.Operand.tmp 161), type := 0, pos := "law.go:201", after := #[{ on := 8, ground := Go.Ground.data }, { on := 9, ground := Go.Ground.data }, { on := 7, ground := Go.Ground.guard }], guard := some (7, true) }) (v := undef) rfl (by kernel_rfl) (by kernel_rfl) (by kernel_rfl) (fun _ _ _ h => h) (Or.inr ⟨by kernel_rfl, rfl⟩) hS ?_
                simp only [Act.put, List.setIfInBounds_toArray, List.set_cons_zero, List.set_cons_succ]
                refine wpAnyH_take (i := 11) (oi := { dst := some 163, op := Go.Op.load 3 (Go.Operand.tmp 162), type := 3, pos := "law.go:201", after := #[{ on := 10, ground := Go.Ground.data }, { on := 7, ground := Go.Ground.guard }], guard := some (7, true) }) (v := undef) rfl (by kernel_rfl) (by kernel_rfl) (by kernel_rfl) (fun _ _ _ h => h) (Or.inr ⟨by kernel_rfl, rfl⟩) hS ?_
                simp only [Act.put, List.setIfInBounds_toArray, List.set_cons_zero, List.set_cons_succ]
                refine wpAnyH_take (i := 12) (oi := { dst := some 164, op := Go.Op.fieldAddr 108 (Go.Operand.tmp 5) 4, type := 0, pos := "law.go:201", after := #[{ on := 7, ground := Go.Ground.guard }], guard := some (7, true) }) (v := undef) rfl (by kernel_rfl) (by kernel_rfl) (by kernel_rfl) (fun _ _ _ h => h) (Or.inr ⟨by kernel_rfl, rfl⟩) hS ?_
                simp only [Act.put, List.setIfInBounds_toArray, List.set_cons_zero, List.set_cons_succ]
                refine wpAnyH_take (i := 13) (oi := { dst := some 165, op := Go.Op.load 51 (Go.Operand.tmp 164), type := 51, pos := "law.go:201", after := #[{ on := 12, ground := Go.Ground.data }, { on := 7, ground := Go.Ground.guard }], guard := some (7, true) }) (v := undef) rfl (by kernel_rfl) (by kernel_rfl) (by kernel_rfl) (fun _ _ _ h => h) (Or.inr ⟨by kernel_rfl, rfl⟩) hS ?_
                simp only [Act.put, List.setIfInBounds_toArray, List.set_cons_zero, List.set_cons_succ]
                refine wpAnyH_take (i := 14) (oi := { dst := some 166, op := Go.Op.move (Go.Operand.tmp 22), type := 3, pos := "law.go:201", after := #[{ on := 7, ground := Go.Ground.guard }], guard := some (7, true) }) (v := undef) rfl (by kernel_rfl) (by kernel_rfl) (by kernel_rfl) (fun _ _ _ h => h) (Or.inr ⟨by kernel_rfl, rfl⟩) hS ?_
                simp only [Act.put, List.setIfInBounds_toArray, List.set_cons_zero, List.set_cons_succ]
                refine wpAnyH_take (i := 15) (oi := { dst := some 167, op := Go.Op.indexAddr 51 (Go.Operand.tmp 165) (Go.Operand.tmp 166), type := 0, pos := "law.go:201", after := #[{ on := 13, ground := Go.Ground.data }, { on := 14, ground := Go.Ground.data }, { on := 7, ground := Go.Ground.guard }], guard := some (7, true) }) (v := undef) rfl (by kernel_rfl) (by kernel_rfl) (by kernel_rfl) (fun _ _ _ h => h) (Or.inr ⟨by kernel_rfl, rfl⟩) hS ?_
                simp only [Act.put, List.setIfInBounds_toArray, List.set_cons_zero, List.set_cons_succ]
                refine wpAnyH_take (i := 16) (oi := { dst := some 168, op := Go.Op.load 3 (Go.Operand.tmp 167), type := 3, pos := "law.go:201", after := #[{ on := 15, ground := Go.Ground.data }, { on := 7, ground := Go.Ground.guard }], guard := some (7, true) }) (v := undef) rfl (by kernel_rfl) (by kernel_rfl) (by kernel_rfl) (fun _ _ _ h => h) (Or.inr ⟨by kernel_rfl, rfl⟩) hS ?_
                simp only [Act.put, List.setIfInBounds_toArray, List.set_cons_zero, List.set_cons_succ]
                refine wpAnyH_take (i := 17) (oi := { dst := some 169, op := Go.Op.binOp Go.BinOp.eql 3 (Go.Operand.tmp 163) (Go.Operand.tmp 168) 3, type := 4, pos := "law.go:201", after := #[{ on := 11, ground := Go.Ground.data }, { on := 16, ground := Go.Ground.data }, { on := 7, ground := Go.Ground.guard }], guard := some (7, true) }) (v := undef) rfl (by kernel_rfl) (by kernel_rfl) (by kernel_rfl) (fun _ _ _ h => h) (Or.inr ⟨by kernel_rfl, rfl⟩) hS ?_
                simp only [Act.put, List.setIfInBounds_toArray, List.set_cons_zero, List.set_cons_succ]
                refine wpAnyH_take (i := 18) (oi := { dst := some 170, op := Go.Op.pick (Go.Operand.tmp 159) (Go.Operand.tmp 169) (Go.Operand.const (Go.Value.bool false)), type := 4, pos := "law.go:201", after := #[{ on := 7, ground := Go.Ground.data }, { on := 17, ground := Go.Ground.data }, { on := 1, ground := Go.Ground.guard }], guard := some (1, true) }) (v := .bool false) rfl (by kernel_rfl) (by kernel_rfl) (by kernel_rfl) (fun _ _ _ h => h) (Or.inl ⟨by kernel_rfl, ?_⟩) hS ?_
                · intro w5 hSw
                  clear hSw hS
                  go_simp
                simp only [Act.put, List.setIfInBounds_toArray, List.set_cons_zero, List.set_cons_succ]
                refine wpAnyH_take (i := 19) (oi := { dst := some 171, op := Go.Op.move (Go.Operand.tmp 170), type := 4, pos := "law.go:201", after := #[{ on := 18, ground := Go.Ground.data }, { on := 7, ground := Go.Ground.chain }, { on := 1, ground := Go.Ground.guard }], guard := some (1, true) }) (v := .bool false) rfl (by kernel_rfl) (by kernel_rfl) (by kernel_rfl) (fun _ _ _ h => h) (Or.inl ⟨by kernel_rfl, ?_⟩) hS ?_
                · intro w5 hSw
                  clear hSw hS
                  go_simp
                simp only [Act.put, List.setIfInBounds_toArray, List.set_cons_zero, List.set_cons_succ]
                refine wpAnyH_take (i := 20) (oi := { dst := some 172, op := Go.Op.move (Go.Operand.tmp 22), type := 3, pos := "law.go:201", after := #[{ on := 19, ground := Go.Ground.guard }], guard := some (19, false) }) (v := .int .i64 (q : Int)) rfl (by kernel_rfl) (by kernel_rfl) (by kernel_rfl) (fun _ _ _ h => h) (Or.inl ⟨by kernel_rfl, ?_⟩) hS ?_
                · intro w5 hSw
                  clear hSw hS
                  go_simp
                simp only [Act.put, List.setIfInBounds_toArray, List.set_cons_zero, List.set_cons_succ]
                refine wpAnyH_take (i := 21) (oi := { dst := some 173, op := Go.Op.fieldAddr 108 (Go.Operand.tmp 5) 4, type := 0, pos := "law.go:201", after := #[{ on := 19, ground := Go.Ground.guard }], guard := some (19, false) }) (v := .pointer (some ⟨bx, 4, none⟩)) rfl (by kernel_rfl) (by kernel_rfl) (by kernel_rfl) (fun _ _ _ h => h) (Or.inl ⟨by kernel_rfl, ?_⟩) hS ?_
                · intro w5 hSw
                  clear hSw hS
                  go_simp
                simp only [Act.put, List.setIfInBounds_toArray, List.set_cons_zero, List.set_cons_succ]
                refine wpAnyH_take (i := 22) (oi := { dst := some 174, op := Go.Op.load 51 (Go.Operand.tmp 173), type := 51, pos := "law.go:201", after := #[{ on := 21, ground := Go.Ground.data }, { on := 19, ground := Go.Ground.guard }], guard := some (19, false) }) (v := .slice la i lc) rfl (by kernel_rfl) (by kernel_rfl) (by kernel_rfl) (fun _ _ _ h => h) (Or.inl ⟨by kernel_rfl, ?_⟩) hS ?_
                · intro w5 hSw
                  have h0 := (HBq.out.up hSw).cell (i := 4) rfl
                  clear hSw hS
                  go_simp
                simp only [Act.put, List.setIfInBounds_toArray, List.set_cons_zero, List.set_cons_succ]
                refine wpAnyH_take (i := 23) (oi := { dst := some 175, op := Go.Op.call { callee := Go.Callee.builtin Go.Builtin.len, args := #[Go.Operand.tmp 174], argTypes := #[51] }, type := 3, pos := "law.go:201", after := #[{ on := 22, ground := Go.Ground.data }, { on := 19, ground := Go.Ground.guard }], guard := some (19, false) }) (v := .int .i64 (i : Int)) rfl (by kernel_rfl) (by kernel_rfl) (by kernel_rfl) (fun _ _ _ h => h) (Or.inl ⟨by kernel_rfl, ?_⟩) hS ?_
                · intro w5 hSw
                  clear hSw hS
                  go_simp
                simp only [Act.put, List.setIfInBounds_toArray, List.set_cons_zero, List.set_cons_succ]
                refine wpAnyH_take (i := 24) (oi := { dst := some 176, op := Go.Op.binOp Go.BinOp.geq 3 (Go.Operand.tmp 172) (Go.Operand.tmp 175) 3, type := 4, pos := "law.go:201", after := #[{ on := 20, ground := Go.Ground.data }, { on := 23, ground := Go.Ground.data }, { on := 19, ground := Go.Ground.guard }], guard := some (19, false) }) (v := .bool true) rfl (by kernel_rfl) (by kernel_rfl) (by kernel_rfl) (fun _ _ _ h => h) (Or.inl ⟨by kernel_rfl, ?_⟩) hS ?_
                · intro w5 hSw
                  clear hSw hS
                  go_simp
                simp only [Act.put, List.setIfInBounds_toArray, List.set_cons_zero, List.set_cons_succ]
                refine wpAnyH_take (i := 25) (oi := { dst := some 177, op := Go.Op.move (Go.Operand.tmp 176), type := 4, pos := "law.go:201", after := #[{ on := 24, ground := Go.Ground.data }, { on := 19, ground := Go.Ground.chain }, { on := 19, ground := Go.Ground.guard }], guard := some (19, false) }) (v := .bool true) rfl (by kernel_rfl) (by kernel_rfl) (by kernel_rfl) (fun _ _ _ h => h) (Or.inl ⟨by kernel_rfl, ?_⟩) hS ?_
                · intro w5 hSw
                  clear hSw hS
                  go_simp
                simp only [Act.put, List.setIfInBounds_toArray, List.set_cons_zero, List.set_cons_succ]
                refine wpAnyH_take (i := 26) (oi := { dst := some 178, op := Go.Op.move (Go.Operand.tmp 12), type := 51, pos := "law.go:201", after := #[{ on := 25, ground := Go.Ground.guard }], guard := some (25, true) }) (v := .slice (some ⟨lb, 0, none⟩) (i + 70) (i + 70)) rfl (by kernel_rfl) (by kernel_rfl) (by kernel_rfl) (fun _ _ _ h => h) (Or.inl ⟨by kernel_rfl, ?_⟩) hS ?_
                · intro w5 hSw
                  clear hSw hS
                  go_simp
                simp only [Act.put, List.setIfInBounds_toArray, List.set_cons_zero, List.set_cons_succ]
                refine wpAnyH_take (i := 27) (oi := { dst := some 179, op := Go.Op.move (Go.Operand.tmp 22), type := 3, pos := "law.go:201", after := #[{ on := 25, ground := Go.Ground.guard }], guard := some (25, true) }) (v := .int .i64 (q : Int)) rfl (by kernel_rfl) (by kernel_rfl) (by kernel_rfl) (fun _ _ _ h => h) (Or.inl ⟨by kernel_rfl, ?_⟩) hS ?_
                · intro w5 hSw
                  clear hSw hS
                  go_simp
                simp only [Act.put, List.setIfInBounds_toArray, List.set_cons_zero, List.set_cons_succ]
                refine wpAnyH_take (i := 28) (oi := { dst := some 180, op := Go.Op.indexAddr 51 (Go.Operand.tmp 178) (Go.Operand.tmp 179), type := 0, pos := "law.go:201", after := #[{ on := 26, ground := Go.Ground.data }, { on := 27, ground := Go.Ground.data }, { on := 25, ground := Go.Ground.guard }], guard := some (25, true) }) (v := .pointer (some ⟨lb, q, none⟩)) rfl (by kernel_rfl) (by kernel_rfl) (by kernel_rfl) (fun _ _ _ h => h) (Or.inl ⟨by kernel_rfl, ?_⟩) hS ?_
                · intro w5 hSw
                  clear hSw hS
                  go_simp
                simp only [Act.put, List.setIfInBounds_toArray, List.set_cons_zero, List.set_cons_succ]
                refine wpAnyH_take (i := 29) (oi := { dst := some 181, op := Go.Op.load 3 (Go.Operand.tmp 180), type := 3, pos := "law.go:201", after := #[{ on := 28, ground := Go.Ground.data }, { on := 25, ground := Go.Ground.guard }], guard := some (25, true) }) (v := .int .i64 (-77)) rfl (by kernel_rfl) (by kernel_rfl) (by kernel_rfl) (fun _ _ _ h => h) (Or.inl ⟨by kernel_rfl, ?_⟩) hS ?_
                · intro w5 hSw
                  have h0 := HC1.out w5 hSw
                  clear hSw hS
                  go_simp
                simp only [Act.put, List.setIfInBounds_toArray, List.set_cons_zero, List.set_cons_succ]
                refine wpAnyH_take (i := 30) (oi := { dst := some 182, op := Go.Op.binOp Go.BinOp.eql 3 (Go.Operand.tmp 181) (Go.Operand.const (Go.Value.int Go.IntKind.i64 (-77))) 3, type := 4, pos := "law.go:201", after := #[{ on := 29, ground := Go.Ground.data }, { on := 25, ground := Go.Ground.guard }], guard := some (25, true) }) (v := .bool true) rfl (by kernel_rfl) (by kernel_rfl) (by kernel_rfl) (fun _ _ _ h => h) (Or.inl ⟨by kernel_rfl, ?_⟩) hS ?_
                · intro w5 hSw
                  clear hSw hS
                  go_simp
                simp only [Act.put, List.setIfInBounds_toArray, List.set_cons_zero, List.set_cons_succ]
                refine wpAnyH_take (i := 31) (oi := { dst := some 183, op := Go.Op.pick (Go.Operand.tmp 177) (Go.Operand.tmp 182) (Go.Operand.const (Go.Value.bool false)), type := 4, pos := "law.go:201", after := #[{ on := 25, ground := Go.Ground.data }, { on := 30, ground := Go.Ground.data }, { on := 19, ground := Go.Ground.guard }], guard := some (19, false) }) (v := .bool true) rfl (by kernel_rfl) (by kernel_rfl) (by kernel_rfl) (fun _ _ _ h => h) (Or.inl ⟨by kernel_rfl, ?_⟩) hS ?_
                · intro w5 hSw
                  clear hSw hS
                  go_simp
                simp only [Act.put, List.setIfInBounds_toArray, List.set_cons_zero, List.set_cons_succ]
                refine wpAnyH_take (i := 32) (oi := { dst := some 184, op := Go.Op.pick (Go.Operand.tmp 171) (Go.Operand.const (Go.Value.bool true)) (Go.Operand.tmp 183), type := 4, pos := "law.go:201", after := #[{ on := 19, ground := Go.Ground.data }, { on := 31, ground := Go.Ground.data }, { on := 1, ground := Go.Ground.guard }], guard := some (1, true) }) (v := .bool true) rfl (by kernel_rfl) (by kernel_rfl) (by kernel_rfl) (fun _ _ _ h => h) (Or.inl ⟨by kernel_rfl, ?_⟩) hS ?_
                · intro w5 hSw
                  clear hSw hS
                  go_simp
                simp only [Act.put, List.setIfInBounds_toArray, List.set_cons_zero, List.set_cons_succ]
                refine wpAnyH_take (i := 33) (oi := { dst := some 185, op := Go.Op.pick (Go.Operand.tmp 153) (Go.Operand.tmp 184) (Go.Operand.const (Go.Value.bool false)), type := 4, pos := "law.go:201", after := #[{ on := 1, ground := Go.Ground.data }, { on := 32, ground := Go.Ground.data }], guard := none }) (v := .bool true) rfl (by kernel_rfl) (by kernel_rfl) (by kernel_rfl) (fun _ _ _ h => h) (Or.inl ⟨by kernel_rfl, ?_⟩) hS ?_
                · intro w5 hSw
                  clear hSw hS
                  go_simp
                simp only [Act.put, List.setIfInBounds_toArray, List.set_cons_zero, List.set_cons_succ]
                refine wpAnyH_ready (rs := [34]) (by kernel_rfl) (by simp) ?_
                refine AllReadyH.cons (o := { dst := some 21, op := Go.Op.assign (Go.Operand.tmp 185), type := 4, pos := "law.go:201", after := #[{ on := 33, ground := Go.Ground.data }, { on := 25, ground := Go.Ground.chain }, { on := 0, ground := Go.Ground.phase }, { on := 1, ground := Go.Ground.phase }, { on := 2, ground := Go.Ground.phase }, { on := 3, ground := Go.Ground.phase }, { on := 4, ground := Go.Ground.phase }, { on := 5, ground := Go.Ground.phase }, { on := 6, ground := Go.Ground.phase }, { on := 7, ground := Go.Ground.phase }, { on := 8, ground := Go.Ground.phase }, { on := 9, ground := Go.Ground.phase }, { on := 10, ground := Go.Ground.phase }, { on := 11, ground := Go.Ground.phase }, { on := 12, ground := Go.Ground.phase }, { on := 13, ground := Go.Ground.phase }, { on := 14, ground := Go.Ground.phase }, { on := 15, ground := Go.Ground.phase }, { on := 16, ground := Go.Ground.phase }, { on := 17, ground := Go.Ground.phase }, { on := 18, ground := Go.Ground.phase }, { on := 19, ground := Go.Ground.phase }, { on := 20, ground := Go.Ground.phase }, { on := 21, ground := Go.Ground.phase }, { on := 22, ground := Go.Ground.phase }, { on := 23, ground := Go.Ground.phase }, { on := 24, ground := Go.Ground.phase }, { on := 25, ground := Go.Ground.phase }, { on := 26, ground := Go.Ground.phase }, { on := 27, ground := Go.Ground.phase }, { on := 28, ground := Go.Ground.phase }, { on := 29, ground := Go.Ground.phase }, { on := 30, ground := Go.Ground.phase }, { on := 31, ground := Go.Ground.phase }, { on := 32, ground := Go.Ground.phase }, { on := 33, ground := Go.Ground.phase }], guard := none }) rfl (fun K hK => ?_) AllReadyH.nil
                rw [if_pos (by kernel_rfl)]
                go_simp
                refine hK.out _ _ hS (fun hS2 => ?_)
                clear hK K hS hS2
                refine wpAnyH_done (by kernel_rfl) ?_ _
                go_wp2
                go_roundw
                case rel => exact ⟨q + 1, by simp, by omega, rfl, Hid.of HU.out.drew⟩
                case measure => simp [intOf]; omega
            · have hltz : ¬ (q : Int) < (i : Int) + 70 := by omega
              have HBS6 := Hid.of (HBS5.out.up hk HU.out)
              have HO6 := Hid.of (show Ow wr 0 mv D from ow_up HO5.out HU.out)
              clear HBS5 HO5 HLA5 HB5 HLq HBq
              obtain ⟨ba, bc, hb⟩ := HBS6.out.x.b
              have HBI := Hid.of hb
              clear hb
              have hH := hold_walk wr bb mv D ba L bc HBI.out.bx HBI.out.ro HO6.out (by have := HDL.out; omega) (by omega)
              have c6 := HBS6.out.x.p.cell (i := 6) rfl
              go_wp2_with fail
              refine hH.mono ?_
              rintro e w7 ⟨rfl, ba', bc', v2, mk, q1, q2, q3, q4, q5, q6, q7⟩
              obtain ⟨ℓ6, h6⟩ := HBS6.out.held hk HBI.out HMV.out (by have := HDL.out; omega) q1 q2 q3 q4 q5 q6 q7
              have HBS7 := Hid.of h6
              clear q1 q2 q3 q4 q5 q6 q7 h6 hH c6
              dsimp only
              go_wp2
              go_ret
              exact ⟨rfl, ℓ6, _, HBS7.out.pi hk hon (by rw [HAP.out.1, HEQ.out.a]) (by rw [HAP.out.2, HEQ.out.b]) HEQ.out.e HEQ.out.m HEQ.out.n HEQ.out.t HEQ.out.s⟩
end Go.Proofs.Ytdlfkdehfenemaa
