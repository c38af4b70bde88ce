import Derived.Test.YtdlfkdehfenemaaQd
import Derived.Test.YtdlfkdehfenemaaOz
import Derived.Test.YtdlfkdehfenemaaRows
namespace Go.Proofs.Ytdlfkdehfenemaa
open Go.RowKit Go.Conc TextNum
theorem and_one (nz : Int) : ∃ k : Nat, k < 2 ∧ bits .and .i64 nz 1 = (k : Int) := by
  have e : bits .and .i64 nz 1 = IntKind.i64.wrap ((BitVec.ofInt 64 nz &&& BitVec.ofInt 64 1).toNat : Int) := rfl
  rw [e, BitVec.toNat_and, show (BitVec.ofInt 64 1).toNat = 1 by decide, Nat.and_one_is_mod]
  refine ⟨(BitVec.ofInt 64 nz).toNat % 2, Nat.mod_lt _ (by decide), ?_⟩
  rw [IntKind.wrap_i64]
  omega
/-- one step of the law -/
def STEP (w0 w : World) (pb bb M : Nat) (L : List HE) (ap rp : Nat → Option Addr) (on : Nat → Bool) (o : List Value) : Prop :=
  Calls Try.prog 45 #[.pointer (some ⟨pb, 0, none⟩), .agg o.toArray] w fun e w' => e = .returned (.bool true) ∧ ∃ ℓ' L', L'.length ≤ L.length + 1 ∧ PI w0 w' ℓ' pb bb (M + 1) L' ap rp on
theorem PI.two {w0 w : World} {ℓ : Nat → Nat} {pb bb M k : Nat} {L : List HE} {ap rp : Nat → Option Addr} {on : Nat → Bool} (hP : PI w0 w ℓ pb bb M L ap rp on) (hk : k < 2) (hon : on k = true) : ∃ S R, ap k = some ⟨S.nb, 0, none⟩ ∧ rp k = some ⟨R.nb, 0, none⟩ ∧ BS w0 w ℓ pb bb M k L ap rp on S R ∧ abs S = absR R ∧ ML (abs S) ∧ S.mn ≤ M ∧ S.now ≤ 65536 * M ∧ R.st ≤ M := by
  rcases hP.n k hk with h | ⟨_, S, R, h1, h2, h3, h4, h5⟩
  · rw [hon] at h; cases h
  · exact ⟨S, R, h1, h2, ⟨hP.x k hk, h3, h4⟩, h5⟩
set_option maxRecDepth 100000 in
set_option maxHeartbeats 4000000 in
theorem does_off (w0 w : World) (ℓ : Nat → Nat) (pb bb M k : Nat) (L : List HE) (ap rp : Nat → Option Addr) (on : Nat → Bool) (hP : PI w0 w ℓ pb bb M L ap rp on) (hk : k < 2) (hon : on k = false) (kz nz lz tz : Int) (lv dv : Value) (hnz : bits .and .i64 nz 1 = (k : Int)) :
    STEP w0 w pb bb M L ap rp on (opc kz nz lz tz lv dv) := by
  unfold STEP
  have HP := Hid.of hP
  have HU0 := Hid.of ((Up.refl w).alloc (.cells #[.int .i64 kz, .int .i64 nz, .int .i64 lz, .int .i64 tz, lv, dv] 108))
  have HB0 := Hid.of (at_new w 108 (opc kz nz lz tz lv dv))
  have hk2 : (k : Int) < 2 := by omega
  clear hP
  go_enter Try.func45, Try.ntmps45
  go_wp2_with (with_reducible show wpList _ _ _ ({ dst := _, op := Op.fieldAddr _ _ _, type := _, pos := _, after := _, guard := _ } :: _) _ _; refine Shut.out ?_)
  show wpList _ _ _ _ _ _
  have HP0 := Hid.of (HP.out.up HU0.out)
  clear HP
  generalize w.alloc (.cells #[.int .i64 kz, .int .i64 nz, .int .i64 lz, .int .i64 tz, lv, dv] 108) = w2 at *
  generalize hbx : w.heap.size = bx at HB0 ⊢
  clear hbx
  have b0 := HB0.out.cell (i := 0) rfl
  have b1 := HB0.out.cell (i := 1) rfl
  have p4 := (HP0.out.x 0 (by decide)).p.cell (i := 4 + k) (PSf_o hk)
  rw [hon] at p4
  go_wp2
  go_ret
  exact ⟨rfl, ℓ, L, Nat.le_succ _, HP0.out.more⟩
set_option maxRecDepth 100000 in
set_option maxHeartbeats 4000000 in
theorem does_else (w0 w : World) (ℓ : Nat → Nat) (pb bb M k : Nat) (L : List HE) (ap rp : Nat → Option Addr) (on : Nat → Bool) (hP : PI w0 w ℓ pb bb M L ap rp on) (hk : k < 2) (hon : on k = true) (kz nz lz tz : Int) (lv dv : Value) (h1 : (kz == 1) = false) (h2 : (kz == 2) = false) (h3 : (kz == 3) = false) (h4 : (kz == 4) = false) (h5 : (kz == 5) = false) (h6 : (kz == 6) = false) (h7 : (kz == 7) = false) (hnz : bits .and .i64 nz 1 = (k : Int)) :
    STEP w0 w pb bb M L ap rp on (opc kz nz lz tz lv dv) := by
  unfold STEP
  have HP := Hid.of hP
  have HU0 := Hid.of ((Up.refl w).alloc (.cells #[.int .i64 kz, .int .i64 nz, .int .i64 lz, .int .i64 tz, lv, dv] 108))
  have HB0 := Hid.of (at_new w 108 (opc kz nz lz tz lv dv))
  have hk2 : (k : Int) < 2 := by omega
  clear hP
  go_enter Try.func45, Try.ntmps45
  go_wp2_with (with_reducible show wpList _ _ _ ({ dst := _, op := Op.fieldAddr _ _ _, type := _, pos := _, after := _, guard := _ } :: _) _ _; refine Shut.out ?_)
  show wpList _ _ _ _ _ _
  have HP0 := Hid.of (HP.out.up HU0.out)
  clear HP
  generalize w.alloc (.cells #[.int .i64 kz, .int .i64 nz, .int .i64 lz, .int .i64 tz, lv, dv] 108) = w2 at *
  generalize hbx : w.heap.size = bx at HB0 ⊢
  clear hbx
  have b0 := HB0.out.cell (i := 0) rfl
  have b1 := HB0.out.cell (i := 1) rfl
  have p4 := (HP0.out.x 0 (by decide)).p.cell (i := 4 + k) (PSf_o hk)
  rw [hon] at p4
  go_wp2
  go_ret
  exact ⟨rfl, ℓ, L, Nat.le_succ _, HP0.out.more⟩
set_option maxRecDepth 100000 in
set_option maxHeartbeats 4000000 in
theorem does_send (w0 w : World) (ℓ : Nat → Nat) (pb bb M k : Nat) (L : List HE) (ap rp : Nat → Option Addr) (on : Nat → Bool) (hP : PI w0 w ℓ pb bb M L ap rp on) (hk : k < 2) (hon : on k = true) (nz lz tz : Int) (lv dv : Value) (hM : M ≤ 1073741824) (d : List UInt8) (hd : Sb w0 dv d) (hdl : d.length ≤ 1099511627000) (hnz : bits .and .i64 nz 1 = (k : Int)) :
    STEP w0 w pb bb M L ap rp on (opc 1 nz lz tz lv dv) := by
  unfold STEP
  have HP := Hid.of hP
  have HU0 := Hid.of ((Up.refl w).alloc (.cells #[.int .i64 1, .int .i64 nz, .int .i64 lz, .int .i64 tz, lv, dv] 108))
  have HB0 := Hid.of (at_new w 108 (opc 1 nz lz tz lv dv))
  have hk2 : (k : Int) < 2 := by omega
  clear hP
  go_enter Try.func45, Try.ntmps45
  go_wp2_with (with_reducible show wpList _ _ _ ({ dst := _, op := Op.fieldAddr _ _ _, type := _, pos := _, after := _, guard := _ } :: _) _ _; refine Shut.out ?_)
  show wpList _ _ _ _ _ _
  have HP0 := Hid.of (HP.out.up HU0.out)
  clear HP
  generalize w.alloc (.cells #[.int .i64 1, .int .i64 nz, .int .i64 lz, .int .i64 tz, lv, dv] 108) = w2 at *
  generalize hbx : w.heap.size = bx at HB0 ⊢
  clear hbx
  have b0 := HB0.out.cell (i := 0) rfl
  have b1 := HB0.out.cell (i := 1) rfl
  have p4 := (HP0.out.x 0 (by decide)).p.cell (i := 4 + k) (PSf_o hk)
  rw [hon] at p4
  have hC := sends_walk w0 w2 ℓ pb bb M k L ap rp on HP0.out hk hon hM 1 nz lz tz lv dv d hd hdl
  go_wp2_with (with_reducible show wpList _ _ _ ({ dst := _, op := Op.load 108 _, type := _, pos := _, after := _, guard := _ } :: _) _ _; refine Shut.out ?_)
  show wpList _ _ _ _ _ _
  refine wpList_load_mid rfl 108 _ rfl bx 0 rfl (opc 1 nz lz tz lv dv) _ HB0.out.range Try.underlying108 rfl (by kernel_rfl) ?_
  go_wp2_with fail
  refine hC.mono ?_
  rintro e w3 ⟨rfl, ℓ2, h2⟩
  have H2 := Hid.of h2
  clear h2 hC
  dsimp only
  go_wp2
  go_ret
  exact ⟨rfl, ℓ2, L, Nat.le_succ _, H2.out⟩
set_option maxRecDepth 100000 in
set_option maxHeartbeats 4000000 in
theorem does_wait (w0 w : World) (ℓ : Nat → Nat) (pb bb M k : Nat) (L : List HE) (ap rp : Nat → Option Addr) (on : Nat → Bool) (hP : PI w0 w ℓ pb bb M L ap rp on) (hk : k < 2) (hon : on k = true) (nz lz tz : Int) (lv dv : Value) (hM : M ≤ 1073741824) (hLn : L.length ≤ M) (hnz : bits .and .i64 nz 1 = (k : Int)) :
    STEP w0 w pb bb M L ap rp on (opc 2 nz lz tz lv dv) := by
  unfold STEP
  have HP := Hid.of hP
  have HU0 := Hid.of ((Up.refl w).alloc (.cells #[.int .i64 2, .int .i64 nz, .int .i64 lz, .int .i64 tz, lv, dv] 108))
  have HB0 := Hid.of (at_new w 108 (opc 2 nz lz tz lv dv))
  have hk2 : (k : Int) < 2 := by omega
  clear hP
  go_enter Try.func45, Try.ntmps45
  go_wp2_with (with_reducible show wpList _ _ _ ({ dst := _, op := Op.fieldAddr _ _ _, type := _, pos := _, after := _, guard := _ } :: _) _ _; refine Shut.out ?_)
  show wpList _ _ _ _ _ _
  have HP0 := Hid.of (HP.out.up HU0.out)
  clear HP
  generalize w.alloc (.cells #[.int .i64 2, .int .i64 nz, .int .i64 lz, .int .i64 tz, lv, dv] 108) = w2 at *
  generalize hbx : w.heap.size = bx at HB0 ⊢
  clear hbx
  have b0 := HB0.out.cell (i := 0) rfl
  have b1 := HB0.out.cell (i := 1) rfl
  have p4 := (HP0.out.x 0 (by decide)).p.cell (i := 4 + k) (PSf_o hk)
  rw [hon] at p4
  have hC := waits_wait w0 w2 ℓ pb bb M k L ap rp on HP0.out hk hon hM hLn nz lz tz lv dv
  go_wp2_with (with_reducible show wpList _ _ _ ({ dst := _, op := Op.load 108 _, type := _, pos := _, after := _, guard := _ } :: _) _ _; refine Shut.out ?_)
  show wpList _ _ _ _ _ _
  refine wpList_load_mid rfl 108 _ rfl bx 0 rfl (opc 2 nz lz tz lv dv) _ HB0.out.range Try.underlying108 rfl (by kernel_rfl) ?_
  go_wp2_with fail
  refine hC.mono ?_
  rintro e w3 ⟨rfl, ℓ2, x, h2⟩
  have H2 := Hid.of h2
  clear h2 hC
  dsimp only
  go_wp2
  go_ret
  exact ⟨rfl, ℓ2, L ++ [x], by simp, H2.out⟩
set_option maxRecDepth 100000 in
set_option maxHeartbeats 4000000 in
theorem does_any (w0 w : World) (ℓ : Nat → Nat) (pb bb M k : Nat) (L : List HE) (ap rp : Nat → Option Addr) (on : Nat → Bool) (hP : PI w0 w ℓ pb bb M L ap rp on) (hk : k < 2) (hon : on k = true) (nz lz tz : Int) (lv dv : Value) (hM : M ≤ 1073741824) (hLn : L.length ≤ M) (zs : List Int) (hI : IL w0 lv zs) (hzl : zs.length ≤ 1099511627000) (hnz : bits .and .i64 nz 1 = (k : Int)) :
    STEP w0 w pb bb M L ap rp on (opc 3 nz lz tz lv dv) := by
  unfold STEP
  have HP := Hid.of hP
  have HU0 := Hid.of ((Up.refl w).alloc (.cells #[.int .i64 3, .int .i64 nz, .int .i64 lz, .int .i64 tz, lv, dv] 108))
  have HB0 := Hid.of (at_new w 108 (opc 3 nz lz tz lv dv))
  have hk2 : (k : Int) < 2 := by omega
  clear hP
  go_enter Try.func45, Try.ntmps45
  go_wp2_with (with_reducible show wpList _ _ _ ({ dst := _, op := Op.fieldAddr _ _ _, type := _, pos := _, after := _, guard := _ } :: _) _ _; refine Shut.out ?_)
  show wpList _ _ _ _ _ _
  have HP0 := Hid.of (HP.out.up HU0.out)
  clear HP
  generalize w.alloc (.cells #[.int .i64 3, .int .i64 nz, .int .i64 lz, .int .i64 tz, lv, dv] 108) = w2 at *
  generalize hbx : w.heap.size = bx at HB0 ⊢
  clear hbx
  have b0 := HB0.out.cell (i := 0) rfl
  have b1 := HB0.out.cell (i := 1) rfl
  have p4 := (HP0.out.x 0 (by decide)).p.cell (i := 4 + k) (PSf_o hk)
  rw [hon] at p4
  have hC := waits_any w0 w2 ℓ pb bb M k L ap rp on HP0.out hk hon hM hLn 3 nz lz tz lv dv zs (by decide) hI hzl
  go_wp2_with (with_reducible show wpList _ _ _ ({ dst := _, op := Op.load 108 _, type := _, pos := _, after := _, guard := _ } :: _) _ _; refine Shut.out ?_)
  show wpList _ _ _ _ _ _
  refine wpList_load_mid rfl 108 _ rfl bx 0 rfl (opc 3 nz lz tz lv dv) _ HB0.out.range Try.underlying108 rfl (by kernel_rfl) ?_
  go_wp2_with fail
  refine hC.mono ?_
  rintro e w3 ⟨rfl, ℓ2, x, h2⟩
  have H2 := Hid.of h2
  clear h2 hC
  dsimp only
  go_wp2
  go_ret
  exact ⟨rfl, ℓ2, L ++ [x], by simp, H2.out⟩
set_option maxRecDepth 100000 in
set_option maxHeartbeats 4000000 in
theorem does_pass (w0 w : World) (ℓ : Nat → Nat) (pb bb M k : Nat) (L : List HE) (ap rp : Nat → Option Addr) (on : Nat → Bool) (hP : PI w0 w ℓ pb bb M L ap rp on) (hk : k < 2) (hon : on k = true) (nz lz tz : Int) (lv dv : Value) (hM : M ≤ 1073741824) (hnz : bits .and .i64 nz 1 = (k : Int)) :
    STEP w0 w pb bb M L ap rp on (opc 4 nz lz tz lv dv) := by
  unfold STEP
  have HP := Hid.of hP
  have HU0 := Hid.of ((Up.refl w).alloc (.cells #[.int .i64 4, .int .i64 nz, .int .i64 lz, .int .i64 tz, lv, dv] 108))
  have HB0 := Hid.of (at_new w 108 (opc 4 nz lz tz lv dv))
  have hk2 : (k : Int) < 2 := by omega
  clear hP
  go_enter Try.func45, Try.ntmps45
  go_wp2_with (with_reducible show wpList _ _ _ ({ dst := _, op := Op.fieldAddr _ _ _, type := _, pos := _, after := _, guard := _ } :: _) _ _; refine Shut.out ?_)
  show wpList _ _ _ _ _ _
  have HP0 := Hid.of (HP.out.up HU0.out)
  clear HP
  generalize w.alloc (.cells #[.int .i64 4, .int .i64 nz, .int .i64 lz, .int .i64 tz, lv, dv] 108) = w2 at *
  generalize hbx : w.heap.size = bx at HB0 ⊢
  clear hbx
  have b0 := HB0.out.cell (i := 0) rfl
  have b1 := HB0.out.cell (i := 1) rfl
  have p4 := (HP0.out.x 0 (by decide)).p.cell (i := 4 + k) (PSf_o hk)
  rw [hon] at p4
  obtain ⟨S, R, ha, hr, hBS, habs, hml, hmn, hnow, hst⟩ := HP0.out.two hk hon
  have HBS2 := Hid.of hBS
  have HABS := Hid.of habs
  have HAP := Hid.of (And.intro ha hr)
  have HBD := Hid.of (And.intro hmn (And.intro hnow hst))
  have HML := Hid.of hml
  have HB2 := Hid.of HB0.out
  have HPN := Hid.of (And.intro (play_not_own HBS2.out.s.ok HBS2.out.x.p) (op_not_own HBS2.out.s.ok HB2.out))
  clear hBS habs ha hr hmn hnow hst hml
  go_wp2
  clear b0 b1 p4
  refine wp_region_held_drew (S := fun wz => Fr (own S) w2 wz) (by kernel_rfl) ((Fr.refl _ _).up (Up.refl _).drew) (fun hS => ?_)
  refine wpAnyH_take (i := 0) (oi := { dst := some 41, op := Go.Op.move (Go.Operand.tmp 0), type := 31, pos := "law.go:219", after := #[], guard := none }) (v := .pointer (some ⟨pb, 0, none⟩)) rfl (by kernel_rfl) (by kernel_rfl) (by kernel_rfl) (fun _ _ _ h => h) (Or.inl ⟨by kernel_rfl, ?_⟩) hS ?_
  · intro w5 hSw
    clear hSw hS
    go_simp
  simp only [Act.put, List.setIfInBounds_toArray, List.set_cons_zero, List.set_cons_succ]
  refine wpAnyH_take (i := 1) (oi := { dst := some 42, op := Go.Op.move (Go.Operand.tmp 5), type := 3, pos := "law.go:219", after := #[], guard := none }) (v := .int .i64 (k : Int)) rfl (by kernel_rfl) (by kernel_rfl) (by kernel_rfl) (fun _ _ _ h => h) (Or.inl ⟨by kernel_rfl, ?_⟩) hS ?_
  · intro w5 hSw
    clear hSw hS
    go_simp
  simp only [Act.put, List.setIfInBounds_toArray, List.set_cons_zero, List.set_cons_succ]
  refine wpAnyH_take (i := 2) (oi := { dst := some 43, op := Go.Op.nilCheck (Go.Operand.tmp 41), type := 0, pos := "law.go:219", after := #[{ on := 0, ground := Go.Ground.data }], guard := none }) (v := .pointer (some ⟨pb, 0, none⟩)) rfl (by kernel_rfl) (by kernel_rfl) (by kernel_rfl) (fun _ _ _ h => h) (Or.inl ⟨by kernel_rfl, ?_⟩) hS ?_
  · intro w5 hSw
    clear hSw hS
    go_simp
  simp only [Act.put, List.setIfInBounds_toArray, List.set_cons_zero, List.set_cons_succ]
  refine wpAnyH_take (i := 3) (oi := { dst := some 44, op := Go.Op.fieldAddr 40 (Go.Operand.tmp 43) 0, type := 0, pos := "law.go:219", after := #[{ on := 2, ground := Go.Ground.data }], guard := none }) (v := .pointer (some ⟨pb, 0, none⟩)) rfl (by kernel_rfl) (by kernel_rfl) (by kernel_rfl) (fun _ _ _ h => h) (Or.inl ⟨by kernel_rfl, ?_⟩) hS ?_
  · intro w5 hSw
    clear hSw hS
    go_simp
  simp only [Act.put, List.setIfInBounds_toArray, List.set_cons_zero, List.set_cons_succ]
  refine wpAnyH_take (i := 4) (oi := { dst := some 45, op := Go.Op.indexAddr 34 (Go.Operand.tmp 44) (Go.Operand.tmp 42), type := 0, pos := "law.go:219", after := #[{ on := 3, ground := Go.Ground.data }, { on := 1, ground := Go.Ground.data }], guard := none }) (v := .pointer (some ⟨pb, k, none⟩)) rfl (by kernel_rfl) (by kernel_rfl) (by kernel_rfl) (fun _ _ _ h => h) (Or.inl ⟨by kernel_rfl, ?_⟩) hS ?_
  · intro w5 hSw
    clear hSw hS
    go_simp
  simp only [Act.put, List.setIfInBounds_toArray, List.set_cons_zero, List.set_cons_succ]
  refine wpAnyH_take (i := 5) (oi := { dst := some 46, op := Go.Op.load 22 (Go.Operand.tmp 45), type := 22, pos := "law.go:219", after := #[{ on := 4, ground := Go.Ground.data }], guard := none }) (v := .pointer (some ⟨S.nb, 0, none⟩)) rfl (by kernel_rfl) (by kernel_rfl) (by kernel_rfl) (fun _ _ _ h => h) (Or.inl ⟨by kernel_rfl, ?_⟩) hS ?_
  · intro w5 hSw
    have h0 := (hSw.at HBS2.out.x.p HPN.out.1).cell (PSf_a hk)
    rw [HAP.out.1] at h0
    clear hSw hS
    go_simp
  simp only [Act.put, List.setIfInBounds_toArray, List.set_cons_zero, List.set_cons_succ]
  refine wpAnyH_take (i := 6) (oi := { dst := some 47, op := Go.Op.fieldAddr 108 (Go.Operand.tmp 3) 3, type := 0, pos := "law.go:219", after := #[], guard := none }) (v := .pointer (some ⟨bx, 3, none⟩)) rfl (by kernel_rfl) (by kernel_rfl) (by kernel_rfl) (fun _ _ _ h => h) (Or.inl ⟨by kernel_rfl, ?_⟩) hS ?_
  · intro w5 hSw
    clear hSw hS
    go_simp
  simp only [Act.put, List.setIfInBounds_toArray, List.set_cons_zero, List.set_cons_succ]
  refine wpAnyH_take (i := 7) (oi := { dst := some 48, op := Go.Op.load 3 (Go.Operand.tmp 47), type := 3, pos := "law.go:219", after := #[{ on := 6, ground := Go.Ground.data }], guard := none }) (v := .int .i64 tz) rfl (by kernel_rfl) (by kernel_rfl) (by kernel_rfl) (fun _ _ _ h => h) (Or.inl ⟨by kernel_rfl, ?_⟩) hS ?_
  · intro w5 hSw
    have h0 := (hSw.at HB2.out HPN.out.2).cell (i := 3) rfl
    clear hSw hS
    go_simp
  simp only [Act.put, List.setIfInBounds_toArray, List.set_cons_zero, List.set_cons_succ]
  refine wpAnyH_ready (rs := [8]) (by kernel_rfl) (by simp) ?_
  refine AllReadyH.cons (o := { dst := some 49, op := Go.Op.call { callee := Go.Callee.value (Go.Operand.func 41), args := #[Go.Operand.tmp 46, Go.Operand.tmp 48], argTypes := #[22, 3] }, type := 23, pos := "law.go:219", after := #[{ on := 5, ground := Go.Ground.data }, { on := 7, ground := Go.Ground.data }], guard := none }) rfl (fun K hK => ?_) AllReadyH.nil
  rw [if_pos (by kernel_rfl)]
  have hC := PPass w2.drew S tz (HBS2.out.s.ok.up (Up.refl _).drew) HBS2.out.s.so (by have := HBD.out.2.1; omega) (by have := HBD.out.1; omega)
  go_simp
  refine hC.mono ?_
  rintro e w3 ⟨rfl, S1, h3⟩
  have HBS3 := Hid.of ((HBS2.out.up hk (Up.refl _).drew).prog hk h3)
  have HS1 := Hid.of (And.intro h3.ab (And.intro h3.mn h3.nb))
  have HF3 := Hid.of ((fr_of_up (own S) (Up.refl w2).drew).trans h3.fr (fun x hx => .inl hx))
  generalize rl ℓ w2.drew.heap.size (2 * k) = ℓ2 at HBS3
  have HB3 := Hid.of (HF3.out.at HB2.out HPN.out.2)
  clear h3 hC
  dsimp only
  refine hK.out _ _ HF3.out (fun hS2 => ?_)
  clear hK K hS
  have hS := hS2
  clear hS2
  refine wpAnyH_ready (rs := [9]) (by kernel_rfl) (by simp) ?_
  refine AllReadyH.cons (o := { dst := some 6, op := Go.Op.assign (Go.Operand.tmp 49), type := 23, pos := "law.go:219", after := #[{ on := 8, ground := Go.Ground.data }, { on := 8, ground := Go.Ground.chain }, { on := 0, ground := Go.Ground.phase }, { on := 1, ground := Go.Ground.phase }, { on := 2, ground := Go.Ground.phase }, { on := 3, ground := Go.Ground.phase }, { on := 4, ground := Go.Ground.phase }, { on := 5, ground := Go.Ground.phase }, { on := 6, ground := Go.Ground.phase }, { on := 7, ground := Go.Ground.phase }, { on := 8, ground := Go.Ground.phase }], guard := none }) rfl (fun K hK => ?_) AllReadyH.nil
  rw [if_pos (by kernel_rfl)]
  go_simp
  refine hK.out _ _ hS (fun hS2 => ?_)
  clear hK K hS hS2
  refine wpAnyH_done (by kernel_rfl) ?_ _
  have HPN3 := Hid.of (And.intro (play_not_rown HBS3.out.q.ok HBS3.out.x.p) (op_not_rown HBS3.out.q.ok HB3.out))
  go_wp2
  refine wp_region_held_drew (S := fun wz => Fr (rown R) w3 wz) (by kernel_rfl) ((Fr.refl _ _).up (Up.refl _).drew) (fun hS => ?_)
  refine wpAnyH_take (i := 0) (oi := { dst := some 50, op := Go.Op.move (Go.Operand.tmp 0), type := 31, pos := "law.go:220", after := #[], guard := none }) (v := .pointer (some ⟨pb, 0, none⟩)) rfl (by kernel_rfl) (by kernel_rfl) (by kernel_rfl) (fun _ _ _ h => h) (Or.inl ⟨by kernel_rfl, ?_⟩) hS ?_
  · intro w5 hSw
    clear hSw hS
    go_simp
  simp only [Act.put, List.setIfInBounds_toArray, List.set_cons_zero, List.set_cons_succ]
  refine wpAnyH_take (i := 1) (oi := { dst := some 51, op := Go.Op.move (Go.Operand.tmp 5), type := 3, pos := "law.go:220", after := #[], guard := none }) (v := .int .i64 (k : Int)) rfl (by kernel_rfl) (by kernel_rfl) (by kernel_rfl) (fun _ _ _ h => h) (Or.inl ⟨by kernel_rfl, ?_⟩) hS ?_
  · intro w5 hSw
    clear hSw hS
    go_simp
  simp only [Act.put, List.setIfInBounds_toArray, List.set_cons_zero, List.set_cons_succ]
  refine wpAnyH_take (i := 2) (oi := { dst := some 52, op := Go.Op.nilCheck (Go.Operand.tmp 50), type := 0, pos := "law.go:220", after := #[{ on := 0, ground := Go.Ground.data }], guard := none }) (v := .pointer (some ⟨pb, 0, none⟩)) rfl (by kernel_rfl) (by kernel_rfl) (by kernel_rfl) (fun _ _ _ h => h) (Or.inl ⟨by kernel_rfl, ?_⟩) hS ?_
  · intro w5 hSw
    clear hSw hS
    go_simp
  simp only [Act.put, List.setIfInBounds_toArray, List.set_cons_zero, List.set_cons_succ]
  refine wpAnyH_take (i := 3) (oi := { dst := some 53, op := Go.Op.fieldAddr 40 (Go.Operand.tmp 52) 1, type := 0, pos := "law.go:220", after := #[{ on := 2, ground := Go.Ground.data }], guard := none }) (v := .pointer (some ⟨pb, 2, none⟩)) rfl (by kernel_rfl) (by kernel_rfl) (by kernel_rfl) (fun _ _ _ h => h) (Or.inl ⟨by kernel_rfl, ?_⟩) hS ?_
  · intro w5 hSw
    clear hSw hS
    go_simp
  simp only [Act.put, List.setIfInBounds_toArray, List.set_cons_zero, List.set_cons_succ]
  refine wpAnyH_take (i := 4) (oi := { dst := some 54, op := Go.Op.indexAddr 36 (Go.Operand.tmp 53) (Go.Operand.tmp 51), type := 0, pos := "law.go:220", after := #[{ on := 3, ground := Go.Ground.data }, { on := 1, ground := Go.Ground.data }], guard := none }) (v := .pointer (some ⟨pb, 2 + k, none⟩)) rfl (by kernel_rfl) (by kernel_rfl) (by kernel_rfl) (fun _ _ _ h => h) (Or.inl ⟨by kernel_rfl, ?_⟩) hS ?_
  · intro w5 hSw
    clear hSw hS
    go_simp
  simp only [Act.put, List.setIfInBounds_toArray, List.set_cons_zero, List.set_cons_succ]
  refine wpAnyH_take (i := 5) (oi := { dst := some 55, op := Go.Op.load 35 (Go.Operand.tmp 54), type := 35, pos := "law.go:220", after := #[{ on := 4, ground := Go.Ground.data }], guard := none }) (v := .pointer (some ⟨R.nb, 0, none⟩)) rfl (by kernel_rfl) (by kernel_rfl) (by kernel_rfl) (fun _ _ _ h => h) (Or.inl ⟨by kernel_rfl, ?_⟩) hS ?_
  · intro w5 hSw
    have h0 := (hSw.at HBS3.out.x.p HPN3.out.1).cell (PSf_r hk)
    rw [HAP.out.2] at h0
    clear hSw hS
    go_simp
  simp only [Act.put, List.setIfInBounds_toArray, List.set_cons_zero, List.set_cons_succ]
  refine wpAnyH_take (i := 6) (oi := { dst := some 56, op := Go.Op.fieldAddr 108 (Go.Operand.tmp 3) 3, type := 0, pos := "law.go:220", after := #[], guard := none }) (v := .pointer (some ⟨bx, 3, none⟩)) rfl (by kernel_rfl) (by kernel_rfl) (by kernel_rfl) (fun _ _ _ h => h) (Or.inl ⟨by kernel_rfl, ?_⟩) hS ?_
  · intro w5 hSw
    clear hSw hS
    go_simp
  simp only [Act.put, List.setIfInBounds_toArray, List.set_cons_zero, List.set_cons_succ]
  refine wpAnyH_take (i := 7) (oi := { dst := some 57, op := Go.Op.load 3 (Go.Operand.tmp 56), type := 3, pos := "law.go:220", after := #[{ on := 6, ground := Go.Ground.data }], guard := none }) (v := .int .i64 tz) rfl (by kernel_rfl) (by kernel_rfl) (by kernel_rfl) (fun _ _ _ h => h) (Or.inl ⟨by kernel_rfl, ?_⟩) hS ?_
  · intro w5 hSw
    have h0 := (hSw.at HB3.out HPN3.out.2).cell (i := 3) rfl
    clear hSw hS
    go_simp
  simp only [Act.put, List.setIfInBounds_toArray, List.set_cons_zero, List.set_cons_succ]
  refine wpAnyH_ready (rs := [8]) (by kernel_rfl) (by simp) ?_
  refine AllReadyH.cons (o := { dst := some 58, op := Go.Op.call { callee := Go.Callee.value (Go.Operand.func 60), args := #[Go.Operand.tmp 55, Go.Operand.tmp 57], argTypes := #[35, 3] }, type := 3, pos := "law.go:220", after := #[{ on := 5, ground := Go.Ground.data }, { on := 7, ground := Go.Ground.data }], guard := none }) rfl (fun K hK => ?_) AllReadyH.nil
  rw [if_pos (by kernel_rfl)]
  have hC := QPass w3.drew R tz (HBS3.out.q.ok.up (Up.refl _).drew) (by rw [← HABS.out]; exact ASo.of HBS2.out.s.so) (by rw [now_eq HABS.out]; have := HBD.out.2.1; omega) (by have := pd_bound HBS2.out.s.so HABS.out; have := HBD.out.1; omega)
  rw [← HABS.out] at hC
  go_simp
  refine hC.mono ?_
  rintro e w4 ⟨rfl, R1, h4, hst4⟩
  have HBS4 := Hid.of ((HBS3.out.up hk (Up.refl _).drew).doc hk h4)
  have HF4 := Hid.of ((fr_of_up (rown R) (Up.refl w3).drew).trans h4.fr (fun x hx => .inl hx))
  generalize rl ℓ2 w3.drew.heap.size (2 * k + 1) = ℓ3 at HBS4
  have HEQ := Hid.of (show EQ S S1 R R1 M from ⟨by rw [HS1.out.1, h4.ab], by rw [HS1.out.1]; exact HML.out.pa tz, by have := HS1.out.2.1; have := HBD.out.1; omega, by
    have h1 := congrArg AN.now HS1.out.1
    have h2 := paR_now (abs S) tz
    rw [← h1] at h2
    have h3 : (abs S).now = S.now := rfl
    have h5 : (abs S1).now = S1.now := rfl
    have := HBD.out.2.1
    omega, by have := HBD.out.2.2; omega, HS1.out.2.2, h4.nb⟩)
  clear h4 hC hst4
  dsimp only
  refine hK.out _ _ HF4.out (fun hS2 => ?_)
  clear hK K hS
  have hS := hS2
  clear hS2
  refine wpAnyH_ready (rs := [9]) (by kernel_rfl) (by simp) ?_
  refine AllReadyH.cons (o := { dst := some 7, op := Go.Op.assign (Go.Operand.tmp 58), type := 3, pos := "law.go:220", after := #[{ on := 8, ground := Go.Ground.data }, { on := 8, ground := Go.Ground.chain }, { on := 0, ground := Go.Ground.phase }, { on := 1, ground := Go.Ground.phase }, { on := 2, ground := Go.Ground.phase }, { on := 3, ground := Go.Ground.phase }, { on := 4, ground := Go.Ground.phase }, { on := 5, ground := Go.Ground.phase }, { on := 6, ground := Go.Ground.phase }, { on := 7, ground := Go.Ground.phase }, { on := 8, ground := Go.Ground.phase }], guard := none }) rfl (fun K hK => ?_) AllReadyH.nil
  rw [if_pos (by kernel_rfl)]
  go_simp
  refine hK.out _ _ hS (fun hS2 => ?_)
  clear hK K hS hS2
  refine wpAnyH_done (by kernel_rfl) ?_ _
  go_wp2_with (go_at_call 13; refine (num_walk _ _).mono ?_; rintro _ w9 ⟨rfl, h9⟩; obtain rfl := h9.symm; clear h9; dsimp only)
  go_ret
  exact ⟨by simp, _, L, Nat.le_succ _, HBS4.out.pi hk hon (by rw [HAP.out.1, HEQ.out.a]) (by rw [HAP.out.2, HEQ.out.b]) HEQ.out.e HEQ.out.m HEQ.out.n HEQ.out.t HEQ.out.s⟩
set_option maxRecDepth 100000 in
set_option maxHeartbeats 4000000 in
theorem does_close (w0 w : World) (ℓ : Nat → Nat) (pb bb M k : Nat) (L : List HE) (ap rp : Nat → Option Addr) (on : Nat → Bool) (hP : PI w0 w ℓ pb bb M L ap rp on) (hk : k < 2) (hon : on k = true) (nz lz tz : Int) (lv dv : Value) (hnz : bits .and .i64 nz 1 = (k : Int)) :
    STEP w0 w pb bb M L ap rp on (opc 6 nz lz tz lv dv) := by
  unfold STEP
  have HP := Hid.of hP
  have HU0 := Hid.of ((Up.refl w).alloc (.cells #[.int .i64 6, .int .i64 nz, .int .i64 lz, .int .i64 tz, lv, dv] 108))
  have HB0 := Hid.of (at_new w 108 (opc 6 nz lz tz lv dv))
  have hk2 : (k : Int) < 2 := by omega
  clear hP
  go_enter Try.func45, Try.ntmps45
  go_wp2_with (with_reducible show wpList _ _ _ ({ dst := _, op := Op.fieldAddr _ _ _, type := _, pos := _, after := _, guard := _ } :: _) _ _; refine Shut.out ?_)
  show wpList _ _ _ _ _ _
  have HP0 := Hid.of (HP.out.up HU0.out)
  clear HP
  generalize w.alloc (.cells #[.int .i64 6, .int .i64 nz, .int .i64 lz, .int .i64 tz, lv, dv] 108) = w2 at *
  generalize hbx : w.heap.size = bx at HB0 ⊢
  clear hbx
  have b0 := HB0.out.cell (i := 0) rfl
  have b1 := HB0.out.cell (i := 1) rfl
  have p4 := (HP0.out.x 0 (by decide)).p.cell (i := 4 + k) (PSf_o hk)
  rw [hon] at p4
  obtain ⟨S, R, ha, hr, hBS, habs, hml, hmn, hnow, hst⟩ := HP0.out.two hk hon
  have HBS2 := Hid.of hBS
  have HABS := Hid.of habs
  have HAP := Hid.of (And.intro ha hr)
  have HBD := Hid.of (And.intro hmn (And.intro hnow hst))
  have HML := Hid.of hml
  have HB2 := Hid.of HB0.out
  have HPN := Hid.of (And.intro (play_not_own HBS2.out.s.ok HBS2.out.x.p) (op_not_own HBS2.out.s.ok HB2.out))
  clear hBS habs ha hr hmn hnow hst hml
  go_wp2
  clear b0 b1 p4
  refine wp_region_held_drew (S := fun wz => Fr (own S) w2 wz) (by kernel_rfl) ((Fr.refl _ _).up (Up.refl _).drew) (fun hS => ?_)
  refine wpAnyH_take (i := 0) (oi := { dst := some 82, op := Go.Op.move (Go.Operand.tmp 0), type := 31, pos := "law.go:225", after := #[], guard := none }) (v := .pointer (some ⟨pb, 0, none⟩)) rfl (by kernel_rfl) (by kernel_rfl) (by kernel_rfl) (fun _ _ _ h => h) (Or.inl ⟨by kernel_rfl, ?_⟩) hS ?_
  · intro w5 hSw
    clear hSw hS
    go_simp
  simp only [Act.put, List.setIfInBounds_toArray, List.set_cons_zero, List.set_cons_succ]
  refine wpAnyH_take (i := 1) (oi := { dst := some 83, op := Go.Op.move (Go.Operand.tmp 5), type := 3, pos := "law.go:225", after := #[], guard := none }) (v := .int .i64 (k : Int)) rfl (by kernel_rfl) (by kernel_rfl) (by kernel_rfl) (fun _ _ _ h => h) (Or.inl ⟨by kernel_rfl, ?_⟩) hS ?_
  · intro w5 hSw
    clear hSw hS
    go_simp
  simp only [Act.put, List.setIfInBounds_toArray, List.set_cons_zero, List.set_cons_succ]
  refine wpAnyH_take (i := 2) (oi := { dst := some 84, op := Go.Op.nilCheck (Go.Operand.tmp 82), type := 0, pos := "law.go:225", after := #[{ on := 0, ground := Go.Ground.data }], guard := none }) (v := .pointer (some ⟨pb, 0, none⟩)) rfl (by kernel_rfl) (by kernel_rfl) (by kernel_rfl) (fun _ _ _ h => h) (Or.inl ⟨by kernel_rfl, ?_⟩) hS ?_
  · intro w5 hSw
    clear hSw hS
    go_simp
  simp only [Act.put, List.setIfInBounds_toArray, List.set_cons_zero, List.set_cons_succ]
  refine wpAnyH_take (i := 3) (oi := { dst := some 85, op := Go.Op.fieldAddr 40 (Go.Operand.tmp 84) 0, type := 0, pos := "law.go:225", after := #[{ on := 2, ground := Go.Ground.data }], guard := none }) (v := .pointer (some ⟨pb, 0, none⟩)) rfl (by kernel_rfl) (by kernel_rfl) (by kernel_rfl) (fun _ _ _ h => h) (Or.inl ⟨by kernel_rfl, ?_⟩) hS ?_
  · intro w5 hSw
    clear hSw hS
    go_simp
  simp only [Act.put, List.setIfInBounds_toArray, List.set_cons_zero, List.set_cons_succ]
  refine wpAnyH_take (i := 4) (oi := { dst := some 86, op := Go.Op.indexAddr 34 (Go.Operand.tmp 85) (Go.Operand.tmp 83), type := 0, pos := "law.go:225", after := #[{ on := 3, ground := Go.Ground.data }, { on := 1, ground := Go.Ground.data }], guard := none }) (v := .pointer (some ⟨pb, k, none⟩)) rfl (by kernel_rfl) (by kernel_rfl) (by kernel_rfl) (fun _ _ _ h => h) (Or.inl ⟨by kernel_rfl, ?_⟩) hS ?_
  · intro w5 hSw
    clear hSw hS
    go_simp
  simp only [Act.put, List.setIfInBounds_toArray, List.set_cons_zero, List.set_cons_succ]
  refine wpAnyH_take (i := 5) (oi := { dst := some 87, op := Go.Op.load 22 (Go.Operand.tmp 86), type := 22, pos := "law.go:225", after := #[{ on := 4, ground := Go.Ground.data }], guard := none }) (v := .pointer (some ⟨S.nb, 0, none⟩)) rfl (by kernel_rfl) (by kernel_rfl) (by kernel_rfl) (fun _ _ _ h => h) (Or.inl ⟨by kernel_rfl, ?_⟩) hS ?_
  · intro w5 hSw
    have h0 := (hSw.at HBS2.out.x.p HPN.out.1).cell (PSf_a hk)
    rw [HAP.out.1] at h0
    clear hSw hS
    go_simp
  simp only [Act.put, List.setIfInBounds_toArray, List.set_cons_zero, List.set_cons_succ]
  refine wpAnyH_take (i := 6) (oi := { dst := some 88, op := Go.Op.fieldAddr 108 (Go.Operand.tmp 3) 2, type := 0, pos := "law.go:225", after := #[], guard := none }) (v := .pointer (some ⟨bx, 2, none⟩)) rfl (by kernel_rfl) (by kernel_rfl) (by kernel_rfl) (fun _ _ _ h => h) (Or.inl ⟨by kernel_rfl, ?_⟩) hS ?_
  · intro w5 hSw
    clear hSw hS
    go_simp
  simp only [Act.put, List.setIfInBounds_toArray, List.set_cons_zero, List.set_cons_succ]
  refine wpAnyH_take (i := 7) (oi := { dst := some 89, op := Go.Op.load 3 (Go.Operand.tmp 88), type := 3, pos := "law.go:225", after := #[{ on := 6, ground := Go.Ground.data }], guard := none }) (v := .int .i64 lz) rfl (by kernel_rfl) (by kernel_rfl) (by kernel_rfl) (fun _ _ _ h => h) (Or.inl ⟨by kernel_rfl, ?_⟩) hS ?_
  · intro w5 hSw
    have h0 := (hSw.at HB2.out HPN.out.2).cell (i := 2) rfl
    clear hSw hS
    go_simp
  simp only [Act.put, List.setIfInBounds_toArray, List.set_cons_zero, List.set_cons_succ]
  refine wpAnyH_ready (rs := [8]) (by kernel_rfl) (by simp) ?_
  refine AllReadyH.cons (o := { dst := some 90, op := Go.Op.call { callee := Go.Callee.value (Go.Operand.func 23), args := #[Go.Operand.tmp 87, Go.Operand.tmp 89], argTypes := #[22, 3] }, type := 23, pos := "law.go:225", after := #[{ on := 5, ground := Go.Ground.data }, { on := 7, ground := Go.Ground.data }], guard := none }) rfl (fun K hK => ?_) AllReadyH.nil
  rw [if_pos (by kernel_rfl)]
  have hC := PClose w2.drew S lz (HBS2.out.s.ok.up (Up.refl _).drew) HBS2.out.s.so
  go_simp
  refine hC.mono ?_
  rintro e w3 ⟨rfl, S1, h3⟩
  have HBS3 := Hid.of ((HBS2.out.up hk (Up.refl _).drew).prog hk h3)
  have HS1 := Hid.of (And.intro h3.ab (And.intro h3.mn h3.nb))
  have HF3 := Hid.of ((fr_of_up (own S) (Up.refl w2).drew).trans h3.fr (fun x hx => .inl hx))
  generalize rl ℓ w2.drew.heap.size (2 * k) = ℓ2 at HBS3
  have HB3 := Hid.of (HF3.out.at HB2.out HPN.out.2)
  clear h3 hC
  dsimp only
  refine hK.out _ _ HF3.out (fun hS2 => ?_)
  clear hK K hS
  have hS := hS2
  clear hS2
  refine wpAnyH_ready (rs := [9]) (by kernel_rfl) (by simp) ?_
  refine AllReadyH.cons (o := { dst := some 8, op := Go.Op.assign (Go.Operand.tmp 90), type := 23, pos := "law.go:225", after := #[{ on := 8, ground := Go.Ground.data }, { on := 8, ground := Go.Ground.chain }, { on := 0, ground := Go.Ground.phase }, { on := 1, ground := Go.Ground.phase }, { on := 2, ground := Go.Ground.phase }, { on := 3, ground := Go.Ground.phase }, { on := 4, ground := Go.Ground.phase }, { on := 5, ground := Go.Ground.phase }, { on := 6, ground := Go.Ground.phase }, { on := 7, ground := Go.Ground.phase }, { on := 8, ground := Go.Ground.phase }], guard := none }) rfl (fun K hK => ?_) AllReadyH.nil
  rw [if_pos (by kernel_rfl)]
  go_simp
  refine hK.out _ _ hS (fun hS2 => ?_)
  clear hK K hS hS2
  refine wpAnyH_done (by kernel_rfl) ?_ _
  have HPN3 := Hid.of (And.intro (play_not_rown HBS3.out.q.ok HBS3.out.x.p) (op_not_rown HBS3.out.q.ok HB3.out))
  go_wp2
  refine wp_region_held_drew (S := fun wz => Fr (rown R) w3 wz) (by kernel_rfl) ((Fr.refl _ _).up (Up.refl _).drew) (fun hS => ?_)
  refine wpAnyH_take (i := 0) (oi := { dst := some 91, op := Go.Op.move (Go.Operand.tmp 0), type := 31, pos := "law.go:226", after := #[], guard := none }) (v := .pointer (some ⟨pb, 0, none⟩)) rfl (by kernel_rfl) (by kernel_rfl) (by kernel_rfl) (fun _ _ _ h => h) (Or.inl ⟨by kernel_rfl, ?_⟩) hS ?_
  · intro w5 hSw
    clear hSw hS
    go_simp
  simp only [Act.put, List.setIfInBounds_toArray, List.set_cons_zero, List.set_cons_succ]
  refine wpAnyH_take (i := 1) (oi := { dst := some 92, op := Go.Op.move (Go.Operand.tmp 5), type := 3, pos := "law.go:226", after := #[], guard := none }) (v := .int .i64 (k : Int)) rfl (by kernel_rfl) (by kernel_rfl) (by kernel_rfl) (fun _ _ _ h => h) (Or.inl ⟨by kernel_rfl, ?_⟩) hS ?_
  · intro w5 hSw
    clear hSw hS
    go_simp
  simp only [Act.put, List.setIfInBounds_toArray, List.set_cons_zero, List.set_cons_succ]
  refine wpAnyH_take (i := 2) (oi := { dst := some 93, op := Go.Op.nilCheck (Go.Operand.tmp 91), type := 0, pos := "law.go:226", after := #[{ on := 0, ground := Go.Ground.data }], guard := none }) (v := .pointer (some ⟨pb, 0, none⟩)) rfl (by kernel_rfl) (by kernel_rfl) (by kernel_rfl) (fun _ _ _ h => h) (Or.inl ⟨by kernel_rfl, ?_⟩) hS ?_
  · intro w5 hSw
    clear hSw hS
    go_simp
  simp only [Act.put, List.setIfInBounds_toArray, List.set_cons_zero, List.set_cons_succ]
  refine wpAnyH_take (i := 3) (oi := { dst := some 94, op := Go.Op.fieldAddr 40 (Go.Operand.tmp 93) 1, type := 0, pos := "law.go:226", after := #[{ on := 2, ground := Go.Ground.data }], guard := none }) (v := .pointer (some ⟨pb, 2, none⟩)) rfl (by kernel_rfl) (by kernel_rfl) (by kernel_rfl) (fun _ _ _ h => h) (Or.inl ⟨by kernel_rfl, ?_⟩) hS ?_
  · intro w5 hSw
    clear hSw hS
    go_simp
  simp only [Act.put, List.setIfInBounds_toArray, List.set_cons_zero, List.set_cons_succ]
  refine wpAnyH_take (i := 4) (oi := { dst := some 95, op := Go.Op.indexAddr 36 (Go.Operand.tmp 94) (Go.Operand.tmp 92), type := 0, pos := "law.go:226", after := #[{ on := 3, ground := Go.Ground.data }, { on := 1, ground := Go.Ground.data }], guard := none }) (v := .pointer (some ⟨pb, 2 + k, none⟩)) rfl (by kernel_rfl) (by kernel_rfl) (by kernel_rfl) (fun _ _ _ h => h) (Or.inl ⟨by kernel_rfl, ?_⟩) hS ?_
  · intro w5 hSw
    clear hSw hS
    go_simp
  simp only [Act.put, List.setIfInBounds_toArray, List.set_cons_zero, List.set_cons_succ]
  refine wpAnyH_take (i := 5) (oi := { dst := some 96, op := Go.Op.load 35 (Go.Operand.tmp 95), type := 35, pos := "law.go:226", after := #[{ on := 4, ground := Go.Ground.data }], guard := none }) (v := .pointer (some ⟨R.nb, 0, none⟩)) rfl (by kernel_rfl) (by kernel_rfl) (by kernel_rfl) (fun _ _ _ h => h) (Or.inl ⟨by kernel_rfl, ?_⟩) hS ?_
  · intro w5 hSw
    have h0 := (hSw.at HBS3.out.x.p HPN3.out.1).cell (PSf_r hk)
    rw [HAP.out.2] at h0
    clear hSw hS
    go_simp
  simp only [Act.put, List.setIfInBounds_toArray, List.set_cons_zero, List.set_cons_succ]
  refine wpAnyH_take (i := 6) (oi := { dst := some 97, op := Go.Op.fieldAddr 108 (Go.Operand.tmp 3) 2, type := 0, pos := "law.go:226", after := #[], guard := none }) (v := .pointer (some ⟨bx, 2, none⟩)) rfl (by kernel_rfl) (by kernel_rfl) (by kernel_rfl) (fun _ _ _ h => h) (Or.inl ⟨by kernel_rfl, ?_⟩) hS ?_
  · intro w5 hSw
    clear hSw hS
    go_simp
  simp only [Act.put, List.setIfInBounds_toArray, List.set_cons_zero, List.set_cons_succ]
  refine wpAnyH_take (i := 7) (oi := { dst := some 98, op := Go.Op.load 3 (Go.Operand.tmp 97), type := 3, pos := "law.go:226", after := #[{ on := 6, ground := Go.Ground.data }], guard := none }) (v := .int .i64 lz) rfl (by kernel_rfl) (by kernel_rfl) (by kernel_rfl) (fun _ _ _ h => h) (Or.inl ⟨by kernel_rfl, ?_⟩) hS ?_
  · intro w5 hSw
    have h0 := (hSw.at HB3.out HPN3.out.2).cell (i := 2) rfl
    clear hSw hS
    go_simp
  simp only [Act.put, List.setIfInBounds_toArray, List.set_cons_zero, List.set_cons_succ]
  refine wpAnyH_ready (rs := [8]) (by kernel_rfl) (by simp) ?_
  refine AllReadyH.cons (o := { dst := some 99, op := Go.Op.call { callee := Go.Callee.value (Go.Operand.func 62), args := #[Go.Operand.tmp 96, Go.Operand.tmp 98], argTypes := #[35, 3] }, type := 3, pos := "law.go:226", after := #[{ on := 5, ground := Go.Ground.data }, { on := 7, ground := Go.Ground.data }], guard := none }) rfl (fun K hK => ?_) AllReadyH.nil
  rw [if_pos (by kernel_rfl)]
  have hC := QClose w3.drew R lz (HBS3.out.q.ok.up (Up.refl _).drew)
  rw [← HABS.out] at hC
  go_simp
  refine hC.mono ?_
  rintro e w4 ⟨rfl, R1, h4, hst4⟩
  have HBS4 := Hid.of ((HBS3.out.up hk (Up.refl _).drew).doc hk h4)
  have HF4 := Hid.of ((fr_of_up (rown R) (Up.refl w3).drew).trans h4.fr (fun x hx => .inl hx))
  generalize rl ℓ2 w3.drew.heap.size (2 * k + 1) = ℓ3 at HBS4
  have HEQ := Hid.of (show EQ S S1 R R1 M from ⟨by rw [HS1.out.1, h4.ab], by rw [HS1.out.1]; exact HML.out.cl lz, by have := HS1.out.2.1; have := HBD.out.1; omega, by
    have h1 := congrArg AN.now HS1.out.1
    have h2 := Nat.le_of_eq (clR_now (abs S) lz)
    rw [← h1] at h2
    have h3 : (abs S).now = S.now := rfl
    have h5 : (abs S1).now = S1.now := rfl
    have := HBD.out.2.1
    omega, by have := HBD.out.2.2; omega, HS1.out.2.2, h4.nb⟩)
  clear h4 hC hst4
  dsimp only
  refine hK.out _ _ HF4.out (fun hS2 => ?_)
  clear hK K hS
  have hS := hS2
  clear hS2
  refine wpAnyH_ready (rs := [9]) (by kernel_rfl) (by simp) ?_
  refine AllReadyH.cons (o := { dst := some 9, op := Go.Op.assign (Go.Operand.tmp 99), type := 3, pos := "law.go:226", after := #[{ on := 8, ground := Go.Ground.data }, { on := 8, ground := Go.Ground.chain }, { on := 0, ground := Go.Ground.phase }, { on := 1, ground := Go.Ground.phase }, { on := 2, ground := Go.Ground.phase }, { on := 3, ground := Go.Ground.phase }, { on := 4, ground := Go.Ground.phase }, { on := 5, ground := Go.Ground.phase }, { on := 6, ground := Go.Ground.phase }, { on := 7, ground := Go.Ground.phase }, { on := 8, ground := Go.Ground.phase }], guard := none }) rfl (fun K hK => ?_) AllReadyH.nil
  rw [if_pos (by kernel_rfl)]
  go_simp
  refine hK.out _ _ hS (fun hS2 => ?_)
  clear hK K hS hS2
  refine wpAnyH_done (by kernel_rfl) ?_ _
  go_wp2_with (go_at_call 13; refine (num_walk _ _).mono ?_; rintro _ w9 ⟨rfl, h9⟩; obtain rfl := h9.symm; clear h9; dsimp only)
  go_ret
  exact ⟨by simp, _, L, Nat.le_succ _, HBS4.out.pi hk hon (by rw [HAP.out.1, HEQ.out.a]) (by rw [HAP.out.2, HEQ.out.b]) HEQ.out.e HEQ.out.m HEQ.out.n HEQ.out.t HEQ.out.s⟩
set_option maxRecDepth 100000 in
set_option maxHeartbeats 4000000 in
theorem does_now (w0 w : World) (ℓ : Nat → Nat) (pb bb M k : Nat) (L : List HE) (ap rp : Nat → Option Addr) (on : Nat → Bool) (hP : PI w0 w ℓ pb bb M L ap rp on) (hk : k < 2) (hon : on k = true) (nz lz tz : Int) (lv dv : Value) (hnz : bits .and .i64 nz 1 = (k : Int)) :
    STEP w0 w pb bb M L ap rp on (opc 5 nz lz tz lv dv) := by
  unfold STEP
  have HP := Hid.of hP
  have HU0 := Hid.of ((Up.refl w).alloc (.cells #[.int .i64 5, .int .i64 nz, .int .i64 lz, .int .i64 tz, lv, dv] 108))
  have HB0 := Hid.of (at_new w 108 (opc 5 nz lz tz lv dv))
  have hk2 : (k : Int) < 2 := by omega
  clear hP
  go_enter Try.func45, Try.ntmps45
  go_wp2_with (with_reducible show wpList _ _ _ ({ dst := _, op := Op.fieldAddr _ _ _, type := _, pos := _, after := _, guard := _ } :: _) _ _; refine Shut.out ?_)
  show wpList _ _ _ _ _ _
  have HP0 := Hid.of (HP.out.up HU0.out)
  clear HP
  generalize w.alloc (.cells #[.int .i64 5, .int .i64 nz, .int .i64 lz, .int .i64 tz, lv, dv] 108) = w2 at *
  generalize hbx : w.heap.size = bx at HB0 ⊢
  clear hbx
  have b0 := HB0.out.cell (i := 0) rfl
  have b1 := HB0.out.cell (i := 1) rfl
  have p4 := (HP0.out.x 0 (by decide)).p.cell (i := 4 + k) (PSf_o hk)
  rw [hon] at p4
  obtain ⟨S, R, ha, hr, hBS, habs, hml, hmn, hnow, hst⟩ := HP0.out.two hk hon
  have HBS2 := Hid.of hBS
  have HABS := Hid.of habs
  have HAP := Hid.of (And.intro ha hr)
  have HBD := Hid.of (And.intro hmn (And.intro hnow hst))
  have HML := Hid.of hml
  have HB2 := Hid.of HB0.out
  have HPN := Hid.of (And.intro (play_not_own HBS2.out.s.ok HBS2.out.x.p) (op_not_own HBS2.out.s.ok HB2.out))
  clear hBS habs ha hr hmn hnow hst hml
  go_wp2
  clear b0 b1 p4
  have HUU := Hid.of (Up.refl w2).drew
  refine wp_region_held_drew (S := fun wz => Up w2 wz) (by kernel_rfl) HUU.out (fun hS => ?_)
  refine wpAnyH_take (i := 0) (oi := { dst := some 65, op := Go.Op.move (Go.Operand.tmp 0), type := 31, pos := "law.go:223", after := #[], guard := none }) (v := .pointer (some ⟨pb, 0, none⟩)) rfl (by kernel_rfl) (by kernel_rfl) (by kernel_rfl) (fun _ _ _ h => h) (Or.inl ⟨by kernel_rfl, ?_⟩) hS ?_
  · intro w5 hSw
    clear hSw hS
    go_simp
  simp only [Act.put, List.setIfInBounds_toArray, List.set_cons_zero, List.set_cons_succ]
  refine wpAnyH_take (i := 1) (oi := { dst := some 66, op := Go.Op.move (Go.Operand.tmp 5), type := 3, pos := "law.go:223", after := #[], guard := none }) (v := .int .i64 (k : Int)) rfl (by kernel_rfl) (by kernel_rfl) (by kernel_rfl) (fun _ _ _ h => h) (Or.inl ⟨by kernel_rfl, ?_⟩) hS ?_
  · intro w5 hSw
    clear hSw hS
    go_simp
  simp only [Act.put, List.setIfInBounds_toArray, List.set_cons_zero, List.set_cons_succ]
  refine wpAnyH_take (i := 2) (oi := { dst := some 67, op := Go.Op.nilCheck (Go.Operand.tmp 65), type := 0, pos := "law.go:223", after := #[{ on := 0, ground := Go.Ground.data }], guard := none }) (v := .pointer (some ⟨pb, 0, none⟩)) rfl (by kernel_rfl) (by kernel_rfl) (by kernel_rfl) (fun _ _ _ h => h) (Or.inl ⟨by kernel_rfl, ?_⟩) hS ?_
  · intro w5 hSw
    clear hSw hS
    go_simp
  simp only [Act.put, List.setIfInBounds_toArray, List.set_cons_zero, List.set_cons_succ]
  refine wpAnyH_take (i := 3) (oi := { dst := some 68, op := Go.Op.fieldAddr 40 (Go.Operand.tmp 67) 0, type := 0, pos := "law.go:223", after := #[{ on := 2, ground := Go.Ground.data }], guard := none }) (v := .pointer (some ⟨pb, 0, none⟩)) rfl (by kernel_rfl) (by kernel_rfl) (by kernel_rfl) (fun _ _ _ h => h) (Or.inl ⟨by kernel_rfl, ?_⟩) hS ?_
  · intro w5 hSw
    clear hSw hS
    go_simp
  simp only [Act.put, List.setIfInBounds_toArray, List.set_cons_zero, List.set_cons_succ]
  refine wpAnyH_take (i := 4) (oi := { dst := some 69, op := Go.Op.indexAddr 34 (Go.Operand.tmp 68) (Go.Operand.tmp 66), type := 0, pos := "law.go:223", after := #[{ on := 3, ground := Go.Ground.data }, { on := 1, ground := Go.Ground.data }], guard := none }) (v := .pointer (some ⟨pb, k, none⟩)) rfl (by kernel_rfl) (by kernel_rfl) (by kernel_rfl) (fun _ _ _ h => h) (Or.inl ⟨by kernel_rfl, ?_⟩) hS ?_
  · intro w5 hSw
    clear hSw hS
    go_simp
  simp only [Act.put, List.setIfInBounds_toArray, List.set_cons_zero, List.set_cons_succ]
  refine wpAnyH_take (i := 5) (oi := { dst := some 70, op := Go.Op.load 22 (Go.Operand.tmp 69), type := 22, pos := "law.go:223", after := #[{ on := 4, ground := Go.Ground.data }], guard := none }) (v := .pointer (some ⟨S.nb, 0, none⟩)) rfl (by kernel_rfl) (by kernel_rfl) (by kernel_rfl) (fun _ _ _ h => h) (Or.inl ⟨by kernel_rfl, ?_⟩) hS ?_
  · intro w5 hSw
    have h0 := (HBS2.out.x.p.up hSw).cell (PSf_a hk)
    rw [HAP.out.1] at h0
    clear hSw hS
    go_simp
  simp only [Act.put, List.setIfInBounds_toArray, List.set_cons_zero, List.set_cons_succ]
  refine wpAnyH_take (i := 7) (oi := { dst := some 72, op := Go.Op.move (Go.Operand.tmp 0), type := 31, pos := "law.go:223", after := #[], guard := none }) (v := .pointer (some ⟨pb, 0, none⟩)) rfl (by kernel_rfl) (by kernel_rfl) (by kernel_rfl) (fun _ _ _ h => h) (Or.inl ⟨by kernel_rfl, ?_⟩) hS ?_
  · intro w5 hSw
    clear hSw hS
    go_simp
  simp only [Act.put, List.setIfInBounds_toArray, List.set_cons_zero, List.set_cons_succ]
  refine wpAnyH_take (i := 8) (oi := { dst := some 73, op := Go.Op.move (Go.Operand.tmp 5), type := 3, pos := "law.go:223", after := #[], guard := none }) (v := .int .i64 (k : Int)) rfl (by kernel_rfl) (by kernel_rfl) (by kernel_rfl) (fun _ _ _ h => h) (Or.inl ⟨by kernel_rfl, ?_⟩) hS ?_
  · intro w5 hSw
    clear hSw hS
    go_simp
  simp only [Act.put, List.setIfInBounds_toArray, List.set_cons_zero, List.set_cons_succ]
  refine wpAnyH_take (i := 9) (oi := { dst := some 74, op := Go.Op.nilCheck (Go.Operand.tmp 72), type := 0, pos := "law.go:223", after := #[{ on := 7, ground := Go.Ground.data }], guard := none }) (v := .pointer (some ⟨pb, 0, none⟩)) rfl (by kernel_rfl) (by kernel_rfl) (by kernel_rfl) (fun _ _ _ h => h) (Or.inl ⟨by kernel_rfl, ?_⟩) hS ?_
  · intro w5 hSw
    clear hSw hS
    go_simp
  simp only [Act.put, List.setIfInBounds_toArray, List.set_cons_zero, List.set_cons_succ]
  refine wpAnyH_take (i := 10) (oi := { dst := some 75, op := Go.Op.fieldAddr 40 (Go.Operand.tmp 74) 1, type := 0, pos := "law.go:223", after := #[{ on := 9, ground := Go.Ground.data }], guard := none }) (v := .pointer (some ⟨pb, 2, none⟩)) rfl (by kernel_rfl) (by kernel_rfl) (by kernel_rfl) (fun _ _ _ h => h) (Or.inl ⟨by kernel_rfl, ?_⟩) hS ?_
  · intro w5 hSw
    clear hSw hS
    go_simp
  simp only [Act.put, List.setIfInBounds_toArray, List.set_cons_zero, List.set_cons_succ]
  refine wpAnyH_take (i := 11) (oi := { dst := some 76, op := Go.Op.indexAddr 36 (Go.Operand.tmp 75) (Go.Operand.tmp 73), type := 0, pos := "law.go:223", after := #[{ on := 10, ground := Go.Ground.data }, { on := 8, ground := Go.Ground.data }], guard := none }) (v := .pointer (some ⟨pb, 2 + k, none⟩)) rfl (by kernel_rfl) (by kernel_rfl) (by kernel_rfl) (fun _ _ _ h => h) (Or.inl ⟨by kernel_rfl, ?_⟩) hS ?_
  · intro w5 hSw
    clear hSw hS
    go_simp
  simp only [Act.put, List.setIfInBounds_toArray, List.set_cons_zero, List.set_cons_succ]
  refine wpAnyH_take (i := 12) (oi := { dst := some 77, op := Go.Op.load 35 (Go.Operand.tmp 76), type := 35, pos := "law.go:223", after := #[{ on := 11, ground := Go.Ground.data }], guard := none }) (v := .pointer (some ⟨R.nb, 0, none⟩)) rfl (by kernel_rfl) (by kernel_rfl) (by kernel_rfl) (fun _ _ _ h => h) (Or.inl ⟨by kernel_rfl, ?_⟩) hS ?_
  · intro w5 hSw
    have h0 := (HBS2.out.x.p.up hSw).cell (PSf_r hk)
    rw [HAP.out.2] at h0
    clear hSw hS
    go_simp
  simp only [Act.put, List.setIfInBounds_toArray, List.set_cons_zero, List.set_cons_succ]
  refine wpAnyH_ready (rs := [6]) (by kernel_rfl) (by simp) ?_
  refine AllReadyH.cons (o := { dst := some 71, op := Go.Op.call { callee := Go.Callee.value (Go.Operand.func 16), args := #[Go.Operand.tmp 70], argTypes := #[22] }, type := 3, pos := "law.go:223", after := #[{ on := 5, ground := Go.Ground.data }], guard := none }) rfl (fun K hK => ?_) AllReadyH.nil
  rw [if_pos (by kernel_rfl)]
  have hC := Now_walk w2.drew S (HBS2.out.s.ok.up (Up.refl _).drew)
  go_simp
  refine hC.mono ?_
  rintro e w3 ⟨rfl, h9⟩
  obtain rfl := h9.symm
  clear h9 hC
  dsimp only
  refine hK.out _ _ HUU.out (fun hS2 => ?_)
  clear hK K hS
  have hS := hS2
  clear hS2
  refine wpAnyH_ready (rs := [13]) (by kernel_rfl) (by simp) ?_
  refine AllReadyH.cons (o := { dst := some 78, op := Go.Op.call { callee := Go.Callee.value (Go.Operand.func 61), args := #[Go.Operand.tmp 77], argTypes := #[35] }, type := 3, pos := "law.go:223", after := #[{ on := 12, ground := Go.Ground.data }, { on := 6, ground := Go.Ground.chain }], guard := none }) rfl (fun K hK => ?_) AllReadyH.nil
  rw [if_pos (by kernel_rfl)]
  have hC := RNow_walk w2.drew R (HBS2.out.q.ok.up (Up.refl _).drew)
  rw [now_eq HABS.out] at hC
  go_simp
  refine hC.mono ?_
  rintro e w3 ⟨rfl, h9⟩
  obtain rfl := h9.symm
  clear h9 hC
  dsimp only
  refine hK.out _ _ HUU.out (fun hS2 => ?_)
  clear hK K hS
  have hS := hS2
  clear hS2
  refine wpAnyH_take (i := 14) (oi := { dst := some 79, op := Go.Op.binOp Go.BinOp.eql 3 (Go.Operand.tmp 71) (Go.Operand.tmp 78) 3, type := 4, pos := "law.go:223", after := #[{ on := 6, ground := Go.Ground.data }, { on := 13, ground := Go.Ground.data }], guard := none }) (v := .bool true) rfl (by kernel_rfl) (by kernel_rfl) (by kernel_rfl) (fun _ _ _ h => h) (Or.inl ⟨by kernel_rfl, ?_⟩) hS ?_
  · intro w5 hSw
    clear hSw hS
    go_simp
  simp only [Act.put, List.setIfInBounds_toArray, List.set_cons_zero, List.set_cons_succ]
  refine wpAnyH_ready (rs := [15]) (by kernel_rfl) (by simp) ?_
  refine AllReadyH.cons (o := { dst := some 4, op := Go.Op.assign (Go.Operand.tmp 79), type := 4, pos := "law.go:223", after := #[{ on := 14, ground := Go.Ground.data }, { on := 13, ground := Go.Ground.chain }, { on := 0, ground := Go.Ground.phase }, { on := 1, ground := Go.Ground.phase }, { on := 2, ground := Go.Ground.phase }, { on := 3, ground := Go.Ground.phase }, { on := 4, ground := Go.Ground.phase }, { on := 5, ground := Go.Ground.phase }, { on := 6, ground := Go.Ground.phase }, { on := 7, ground := Go.Ground.phase }, { on := 8, ground := Go.Ground.phase }, { on := 9, ground := Go.Ground.phase }, { on := 10, ground := Go.Ground.phase }, { on := 11, ground := Go.Ground.phase }, { on := 12, ground := Go.Ground.phase }, { on := 13, ground := Go.Ground.phase }, { on := 14, ground := Go.Ground.phase }], guard := none }) rfl (fun K hK => ?_) AllReadyH.nil
  rw [if_pos (by kernel_rfl)]
  go_simp
  refine hK.out _ _ hS (fun hS2 => ?_)
  clear hK K hS hS2
  refine wpAnyH_done (by kernel_rfl) ?_ _
  have HP3 := Hid.of (HP0.out.up (Up.refl w2).drew)
  go_wp2
  go_ret
  exact ⟨rfl, ℓ, L, Nat.le_succ _, HP3.out.more⟩
set_option maxRecDepth 100000 in
set_option maxHeartbeats 4000000 in
theorem does_waiting (w0 w : World) (ℓ : Nat → Nat) (pb bb M k : Nat) (L : List HE) (ap rp : Nat → Option Addr) (on : Nat → Bool) (hP : PI w0 w ℓ pb bb M L ap rp on) (hk : k < 2) (hon : on k = true) (nz lz tz : Int) (lv dv : Value) (hnz : bits .and .i64 nz 1 = (k : Int)) :
    STEP w0 w pb bb M L ap rp on (opc 7 nz lz tz lv dv) := by
  unfold STEP
  have HP := Hid.of hP
  have HU0 := Hid.of ((Up.refl w).alloc (.cells #[.int .i64 7, .int .i64 nz, .int .i64 lz, .int .i64 tz, lv, dv] 108))
  have HB0 := Hid.of (at_new w 108 (opc 7 nz lz tz lv dv))
  have hk2 : (k : Int) < 2 := by omega
  clear hP
  go_enter Try.func45, Try.ntmps45
  go_wp2_with (with_reducible show wpList _ _ _ ({ dst := _, op := Op.fieldAddr _ _ _, type := _, pos := _, after := _, guard := _ } :: _) _ _; refine Shut.out ?_)
  show wpList _ _ _ _ _ _
  have HP0 := Hid.of (HP.out.up HU0.out)
  clear HP
  generalize w.alloc (.cells #[.int .i64 7, .int .i64 nz, .int .i64 lz, .int .i64 tz, lv, dv] 108) = w2 at *
  generalize hbx : w.heap.size = bx at HB0 ⊢
  clear hbx
  have b0 := HB0.out.cell (i := 0) rfl
  have b1 := HB0.out.cell (i := 1) rfl
  have p4 := (HP0.out.x 0 (by decide)).p.cell (i := 4 + k) (PSf_o hk)
  rw [hon] at p4
  obtain ⟨S, R, ha, hr, hBS, habs, hml, hmn, hnow, hst⟩ := HP0.out.two hk hon
  have HBS2 := Hid.of hBS
  have HABS := Hid.of habs
  have HAP := Hid.of (And.intro ha hr)
  have HBD := Hid.of (And.intro hmn (And.intro hnow hst))
  have HML := Hid.of hml
  have HB2 := Hid.of HB0.out
  have HPN := Hid.of (And.intro (play_not_own HBS2.out.s.ok HBS2.out.x.p) (op_not_own HBS2.out.s.ok HB2.out))
  clear hBS habs ha hr hmn hnow hst hml
  go_wp2
  clear b0 b1 p4
  obtain ⟨V, hV⟩ : ∃ V, (if isA (abs S) lz then wgV (abs S) lz else 0 : Nat) = V := ⟨_, rfl⟩
  have HVV := Hid.of hV
  clear hV
  have HUU := Hid.of (Up.refl w2).drew
  refine wp_region_held_drew (S := fun wz => Up w2 wz) (by kernel_rfl) HUU.out (fun hS => ?_)
  refine wpAnyH_take (i := 0) (oi := { dst := some 107, op := Go.Op.move (Go.Operand.tmp 0), type := 31, pos := "law.go:229", after := #[], guard := none }) (v := .pointer (some ⟨pb, 0, none⟩)) rfl (by kernel_rfl) (by kernel_rfl) (by kernel_rfl) (fun _ _ _ h => h) (Or.inl ⟨by kernel_rfl, ?_⟩) hS ?_
  · intro w5 hSw
    clear hSw hS
    go_simp
  simp only [Act.put, List.setIfInBounds_toArray, List.set_cons_zero, List.set_cons_succ]
  refine wpAnyH_take (i := 1) (oi := { dst := some 108, op := Go.Op.move (Go.Operand.tmp 5), type := 3, pos := "law.go:229", after := #[], guard := none }) (v := .int .i64 (k : Int)) rfl (by kernel_rfl) (by kernel_rfl) (by kernel_rfl) (fun _ _ _ h => h) (Or.inl ⟨by kernel_rfl, ?_⟩) hS ?_
  · intro w5 hSw
    clear hSw hS
    go_simp
  simp only [Act.put, List.setIfInBounds_toArray, List.set_cons_zero, List.set_cons_succ]
  refine wpAnyH_take (i := 2) (oi := { dst := some 109, op := Go.Op.nilCheck (Go.Operand.tmp 107), type := 0, pos := "law.go:229", after := #[{ on := 0, ground := Go.Ground.data }], guard := none }) (v := .pointer (some ⟨pb, 0, none⟩)) rfl (by kernel_rfl) (by kernel_rfl) (by kernel_rfl) (fun _ _ _ h => h) (Or.inl ⟨by kernel_rfl, ?_⟩) hS ?_
  · intro w5 hSw
    clear hSw hS
    go_simp
  simp only [Act.put, List.setIfInBounds_toArray, List.set_cons_zero, List.set_cons_succ]
  refine wpAnyH_take (i := 3) (oi := { dst := some 110, op := Go.Op.fieldAddr 40 (Go.Operand.tmp 109) 0, type := 0, pos := "law.go:229", after := #[{ on := 2, ground := Go.Ground.data }], guard := none }) (v := .pointer (some ⟨pb, 0, none⟩)) rfl (by kernel_rfl) (by kernel_rfl) (by kernel_rfl) (fun _ _ _ h => h) (Or.inl ⟨by kernel_rfl, ?_⟩) hS ?_
  · intro w5 hSw
    clear hSw hS
    go_simp
  simp only [Act.put, List.setIfInBounds_toArray, List.set_cons_zero, List.set_cons_succ]
  refine wpAnyH_take (i := 4) (oi := { dst := some 111, op := Go.Op.indexAddr 34 (Go.Operand.tmp 110) (Go.Operand.tmp 108), type := 0, pos := "law.go:229", after := #[{ on := 3, ground := Go.Ground.data }, { on := 1, ground := Go.Ground.data }], guard := none }) (v := .pointer (some ⟨pb, k, none⟩)) rfl (by kernel_rfl) (by kernel_rfl) (by kernel_rfl) (fun _ _ _ h => h) (Or.inl ⟨by kernel_rfl, ?_⟩) hS ?_
  · intro w5 hSw
    clear hSw hS
    go_simp
  simp only [Act.put, List.setIfInBounds_toArray, List.set_cons_zero, List.set_cons_succ]
  refine wpAnyH_take (i := 5) (oi := { dst := some 112, op := Go.Op.load 22 (Go.Operand.tmp 111), type := 22, pos := "law.go:229", after := #[{ on := 4, ground := Go.Ground.data }], guard := none }) (v := .pointer (some ⟨S.nb, 0, none⟩)) rfl (by kernel_rfl) (by kernel_rfl) (by kernel_rfl) (fun _ _ _ h => h) (Or.inl ⟨by kernel_rfl, ?_⟩) hS ?_
  · intro w5 hSw
    have h0 := (HBS2.out.x.p.up hSw).cell (PSf_a hk)
    rw [HAP.out.1] at h0
    clear hSw hS
    go_simp
  simp only [Act.put, List.setIfInBounds_toArray, List.set_cons_zero, List.set_cons_succ]
  refine wpAnyH_take (i := 6) (oi := { dst := some 113, op := Go.Op.fieldAddr 108 (Go.Operand.tmp 3) 2, type := 0, pos := "law.go:229", after := #[], guard := none }) (v := .pointer (some ⟨bx, 2, none⟩)) rfl (by kernel_rfl) (by kernel_rfl) (by kernel_rfl) (fun _ _ _ h => h) (Or.inl ⟨by kernel_rfl, ?_⟩) hS ?_
  · intro w5 hSw
    clear hSw hS
    go_simp
  simp only [Act.put, List.setIfInBounds_toArray, List.set_cons_zero, List.set_cons_succ]
  refine wpAnyH_take (i := 7) (oi := { dst := some 114, op := Go.Op.load 3 (Go.Operand.tmp 113), type := 3, pos := "law.go:229", after := #[{ on := 6, ground := Go.Ground.data }], guard := none }) (v := .int .i64 lz) rfl (by kernel_rfl) (by kernel_rfl) (by kernel_rfl) (fun _ _ _ h => h) (Or.inl ⟨by kernel_rfl, ?_⟩) hS ?_
  · intro w5 hSw
    have h0 := (HB2.out.up hSw).cell (i := 2) rfl
    clear hSw hS
    go_simp
  simp only [Act.put, List.setIfInBounds_toArray, List.set_cons_zero, List.set_cons_succ]
  refine wpAnyH_ready (rs := [8]) (by kernel_rfl) (by simp) ?_
  refine AllReadyH.cons (o := { dst := some 115, op := Go.Op.call { callee := Go.Callee.value (Go.Operand.func 15), args := #[Go.Operand.tmp 112, Go.Operand.tmp 114], argTypes := #[22, 3] }, type := 41, pos := "law.go:229", after := #[{ on := 5, ground := Go.Ground.data }, { on := 7, ground := Go.Ground.data }], guard := none }) rfl (fun K hK => ?_) AllReadyH.nil
  rw [if_pos (by kernel_rfl)]
  have hC := PWaiting w2.drew S lz (HBS2.out.s.ok.up (Up.refl _).drew)
  rw [HVV.out] at hC
  go_simp
  refine hC.mono ?_
  rintro e w3 ⟨rfl, h9⟩
  obtain rfl := h9.symm
  clear h9 hC
  dsimp only
  refine hK.out _ _ HUU.out (fun hS2 => ?_)
  clear hK K hS
  have hS := hS2
  clear hS2
  refine wpAnyH_take (i := 9) (oi := { dst := some 106, op := Go.Op.move (Go.Operand.tmp 115), type := 41, pos := "law.go:229", after := #[{ on := 8, ground := Go.Ground.data }], guard := none }) (v := .tuple #[.int .i64 (V : Int), .int .i64 (wgE (abs S) lz)]) rfl (by kernel_rfl) (by kernel_rfl) (by kernel_rfl) (fun _ _ _ h => h) (Or.inl ⟨by kernel_rfl, ?_⟩) hS ?_
  · intro w5 hSw
    clear hSw hS
    go_simp
  simp only [Act.put, List.setIfInBounds_toArray, List.set_cons_zero, List.set_cons_succ]
  refine wpAnyH_take (i := 10) (oi := { dst := some 116, op := Go.Op.extract (Go.Operand.tmp 106) 0, type := 3, pos := "law.go:229", after := #[{ on := 9, ground := Go.Ground.data }], guard := none }) (v := .int .i64 (V : Int)) rfl (by kernel_rfl) (by kernel_rfl) (by kernel_rfl) (fun _ _ _ h => h) (Or.inl ⟨by kernel_rfl, ?_⟩) hS ?_
  · intro w5 hSw
    clear hSw hS
    go_simp
  simp only [Act.put, List.setIfInBounds_toArray, List.set_cons_zero, List.set_cons_succ]
  refine wpAnyH_take (i := 11) (oi := { dst := some 117, op := Go.Op.extract (Go.Operand.tmp 106) 1, type := 23, pos := "law.go:229", after := #[{ on := 9, ground := Go.Ground.data }, { on := 12, ground := Go.Ground.gcOnly Go.Departure.lateStores }], guard := none }) (v := .int .i64 (wgE (abs S) lz)) rfl (by kernel_rfl) (by kernel_rfl) (by kernel_rfl) (fun _ _ _ h => h) (Or.inl ⟨by kernel_rfl, ?_⟩) hS ?_
  · intro w5 hSw
    clear hSw hS
    go_simp
  simp only [Act.put, List.setIfInBounds_toArray, List.set_cons_zero, List.set_cons_succ]
  refine wpAnyH_ready (rs := [12]) (by kernel_rfl) (by simp) ?_
  refine AllReadyH.cons (o := { dst := some 10, op := Go.Op.assign (Go.Operand.tmp 116), type := 3, pos := "law.go:229", after := #[{ on := 10, ground := Go.Ground.data }, { on := 8, ground := Go.Ground.chain }, { on := 0, ground := Go.Ground.phase }, { on := 1, ground := Go.Ground.phase }, { on := 2, ground := Go.Ground.phase }, { on := 3, ground := Go.Ground.phase }, { on := 4, ground := Go.Ground.phase }, { on := 5, ground := Go.Ground.phase }, { on := 6, ground := Go.Ground.phase }, { on := 7, ground := Go.Ground.phase }, { on := 8, ground := Go.Ground.phase }, { on := 9, ground := Go.Ground.phase }, { on := 10, ground := Go.Ground.phase }, { on := 11, ground := Go.Ground.textOnly Go.Departure.lateStores }], guard := none }) rfl (fun K hK => ?_) AllReadyH.nil
  rw [if_pos (by kernel_rfl)]
  go_simp
  refine hK.out _ _ hS (fun hS2 => ?_)
  clear hK K hS
  have hS := hS2
  clear hS2
  refine wpAnyH_ready (rs := [13]) (by kernel_rfl) (by simp) ?_
  refine AllReadyH.cons (o := { dst := some 11, op := Go.Op.assign (Go.Operand.tmp 117), type := 23, pos := "law.go:229", after := #[{ on := 11, ground := Go.Ground.data }, { on := 12, ground := Go.Ground.chain }, { on := 0, ground := Go.Ground.phase }, { on := 1, ground := Go.Ground.phase }, { on := 2, ground := Go.Ground.phase }, { on := 3, ground := Go.Ground.phase }, { on := 4, ground := Go.Ground.phase }, { on := 5, ground := Go.Ground.phase }, { on := 6, ground := Go.Ground.phase }, { on := 7, ground := Go.Ground.phase }, { on := 8, ground := Go.Ground.phase }, { on := 9, ground := Go.Ground.phase }, { on := 10, ground := Go.Ground.phase }, { on := 11, ground := Go.Ground.phase }, { on := 12, ground := Go.Ground.phase }], guard := none }) rfl (fun K hK => ?_) AllReadyH.nil
  rw [if_pos (by kernel_rfl)]
  go_simp
  refine hK.out _ _ hS (fun hS2 => ?_)
  clear hK K hS hS2
  refine wpAnyH_done (by kernel_rfl) ?_ _
  have HB3 := Hid.of (HB2.out.up HUU.out)
  have HP3 := Hid.of (HBS2.out.x.p.up HUU.out)
  have HQ3 := Hid.of (HBS2.out.q.ok.up HUU.out)
  have HP4 := Hid.of (HP0.out.up HUU.out)
  clear HUU
  go_wp2
  generalize w2.drew = w3 at *
  have HUU := Hid.of (Up.refl w3).drew
  refine wp_region_held_drew (S := fun wz => Up w3 wz) (by kernel_rfl) HUU.out (fun hS => ?_)
  refine wpAnyH_take (i := 0) (oi := { dst := some 119, op := Go.Op.move (Go.Operand.tmp 0), type := 31, pos := "law.go:230", after := #[], guard := none }) (v := .pointer (some ⟨pb, 0, none⟩)) rfl (by kernel_rfl) (by kernel_rfl) (by kernel_rfl) (fun _ _ _ h => h) (Or.inl ⟨by kernel_rfl, ?_⟩) hS ?_
  · intro w5 hSw
    clear hSw hS
    go_simp
  simp only [Act.put, List.setIfInBounds_toArray, List.set_cons_zero, List.set_cons_succ]
  refine wpAnyH_take (i := 1) (oi := { dst := some 120, op := Go.Op.move (Go.Operand.tmp 5), type := 3, pos := "law.go:230", after := #[], guard := none }) (v := .int .i64 (k : Int)) rfl (by kernel_rfl) (by kernel_rfl) (by kernel_rfl) (fun _ _ _ h => h) (Or.inl ⟨by kernel_rfl, ?_⟩) hS ?_
  · intro w5 hSw
    clear hSw hS
    go_simp
  simp only [Act.put, List.setIfInBounds_toArray, List.set_cons_zero, List.set_cons_succ]
  refine wpAnyH_take (i := 2) (oi := { dst := some 121, op := Go.Op.nilCheck (Go.Operand.tmp 119), type := 0, pos := "law.go:230", after := #[{ on := 0, ground := Go.Ground.data }], guard := none }) (v := .pointer (some ⟨pb, 0, none⟩)) rfl (by kernel_rfl) (by kernel_rfl) (by kernel_rfl) (fun _ _ _ h => h) (Or.inl ⟨by kernel_rfl, ?_⟩) hS ?_
  · intro w5 hSw
    clear hSw hS
    go_simp
  simp only [Act.put, List.setIfInBounds_toArray, List.set_cons_zero, List.set_cons_succ]
  refine wpAnyH_take (i := 3) (oi := { dst := some 122, op := Go.Op.fieldAddr 40 (Go.Operand.tmp 121) 1, type := 0, pos := "law.go:230", after := #[{ on := 2, ground := Go.Ground.data }], guard := none }) (v := .pointer (some ⟨pb, 2, none⟩)) rfl (by kernel_rfl) (by kernel_rfl) (by kernel_rfl) (fun _ _ _ h => h) (Or.inl ⟨by kernel_rfl, ?_⟩) hS ?_
  · intro w5 hSw
    clear hSw hS
    go_simp
  simp only [Act.put, List.setIfInBounds_toArray, List.set_cons_zero, List.set_cons_succ]
  refine wpAnyH_take (i := 4) (oi := { dst := some 123, op := Go.Op.indexAddr 36 (Go.Operand.tmp 122) (Go.Operand.tmp 120), type := 0, pos := "law.go:230", after := #[{ on := 3, ground := Go.Ground.data }, { on := 1, ground := Go.Ground.data }], guard := none }) (v := .pointer (some ⟨pb, 2 + k, none⟩)) rfl (by kernel_rfl) (by kernel_rfl) (by kernel_rfl) (fun _ _ _ h => h) (Or.inl ⟨by kernel_rfl, ?_⟩) hS ?_
  · intro w5 hSw
    clear hSw hS
    go_simp
  simp only [Act.put, List.setIfInBounds_toArray, List.set_cons_zero, List.set_cons_succ]
  refine wpAnyH_take (i := 5) (oi := { dst := some 124, op := Go.Op.load 35 (Go.Operand.tmp 123), type := 35, pos := "law.go:230", after := #[{ on := 4, ground := Go.Ground.data }], guard := none }) (v := .pointer (some ⟨R.nb, 0, none⟩)) rfl (by kernel_rfl) (by kernel_rfl) (by kernel_rfl) (fun _ _ _ h => h) (Or.inl ⟨by kernel_rfl, ?_⟩) hS ?_
  · intro w5 hSw
    have h0 := (HP3.out.up hSw).cell (PSf_r hk)
    rw [HAP.out.2] at h0
    clear hSw hS
    go_simp
  simp only [Act.put, List.setIfInBounds_toArray, List.set_cons_zero, List.set_cons_succ]
  refine wpAnyH_take (i := 6) (oi := { dst := some 125, op := Go.Op.fieldAddr 108 (Go.Operand.tmp 3) 2, type := 0, pos := "law.go:230", after := #[], guard := none }) (v := .pointer (some ⟨bx, 2, none⟩)) rfl (by kernel_rfl) (by kernel_rfl) (by kernel_rfl) (fun _ _ _ h => h) (Or.inl ⟨by kernel_rfl, ?_⟩) hS ?_
  · intro w5 hSw
    clear hSw hS
    go_simp
  simp only [Act.put, List.setIfInBounds_toArray, List.set_cons_zero, List.set_cons_succ]
  refine wpAnyH_take (i := 7) (oi := { dst := some 126, op := Go.Op.load 3 (Go.Operand.tmp 125), type := 3, pos := "law.go:230", after := #[{ on := 6, ground := Go.Ground.data }], guard := none }) (v := .int .i64 lz) rfl (by kernel_rfl) (by kernel_rfl) (by kernel_rfl) (fun _ _ _ h => h) (Or.inl ⟨by kernel_rfl, ?_⟩) hS ?_
  · intro w5 hSw
    have h0 := (HB3.out.up hSw).cell (i := 2) rfl
    clear hSw hS
    go_simp
  simp only [Act.put, List.setIfInBounds_toArray, List.set_cons_zero, List.set_cons_succ]
  refine wpAnyH_ready (rs := [8]) (by kernel_rfl) (by simp) ?_
  refine AllReadyH.cons (o := { dst := some 127, op := Go.Op.call { callee := Go.Callee.value (Go.Operand.func 63), args := #[Go.Operand.tmp 124, Go.Operand.tmp 126], argTypes := #[35, 3] }, type := 129, pos := "law.go:230", after := #[{ on := 5, ground := Go.Ground.data }, { on := 7, ground := Go.Ground.data }], guard := none }) rfl (fun K hK => ?_) AllReadyH.nil
  rw [if_pos (by kernel_rfl)]
  have hC := QWaiting w3.drew R lz (HQ3.out.up (Up.refl _).drew)
  rw [← HABS.out, HVV.out] at hC
  go_simp
  refine hC.mono ?_
  rintro e w3 ⟨rfl, h9⟩
  obtain rfl := h9.symm
  clear h9 hC
  dsimp only
  refine hK.out _ _ HUU.out (fun hS2 => ?_)
  clear hK K hS
  have hS := hS2
  clear hS2
  refine wpAnyH_take (i := 9) (oi := { dst := some 118, op := Go.Op.move (Go.Operand.tmp 127), type := 129, pos := "law.go:230", after := #[{ on := 8, ground := Go.Ground.data }], guard := none }) (v := .tuple #[.int .i64 (V : Int), .int .i64 (wgE (abs S) lz)]) rfl (by kernel_rfl) (by kernel_rfl) (by kernel_rfl) (fun _ _ _ h => h) (Or.inl ⟨by kernel_rfl, ?_⟩) hS ?_
  · intro w5 hSw
    clear hSw hS
    go_simp
  simp only [Act.put, List.setIfInBounds_toArray, List.set_cons_zero, List.set_cons_succ]
  refine wpAnyH_take (i := 10) (oi := { dst := some 128, op := Go.Op.extract (Go.Operand.tmp 118) 0, type := 3, pos := "law.go:230", after := #[{ on := 9, ground := Go.Ground.data }], guard := none }) (v := .int .i64 (V : Int)) rfl (by kernel_rfl) (by kernel_rfl) (by kernel_rfl) (fun _ _ _ h => h) (Or.inl ⟨by kernel_rfl, ?_⟩) hS ?_
  · intro w5 hSw
    clear hSw hS
    go_simp
  simp only [Act.put, List.setIfInBounds_toArray, List.set_cons_zero, List.set_cons_succ]
  refine wpAnyH_take (i := 11) (oi := { dst := some 129, op := Go.Op.extract (Go.Operand.tmp 118) 1, type := 3, pos := "law.go:230", after := #[{ on := 9, ground := Go.Ground.data }, { on := 12, ground := Go.Ground.gcOnly Go.Departure.lateStores }], guard := none }) (v := .int .i64 (wgE (abs S) lz)) rfl (by kernel_rfl) (by kernel_rfl) (by kernel_rfl) (fun _ _ _ h => h) (Or.inl ⟨by kernel_rfl, ?_⟩) hS ?_
  · intro w5 hSw
    clear hSw hS
    go_simp
  simp only [Act.put, List.setIfInBounds_toArray, List.set_cons_zero, List.set_cons_succ]
  refine wpAnyH_ready (rs := [12]) (by kernel_rfl) (by simp) ?_
  refine AllReadyH.cons (o := { dst := some 12, op := Go.Op.assign (Go.Operand.tmp 128), type := 3, pos := "law.go:230", after := #[{ on := 10, ground := Go.Ground.data }, { on := 8, ground := Go.Ground.chain }, { on := 0, ground := Go.Ground.phase }, { on := 1, ground := Go.Ground.phase }, { on := 2, ground := Go.Ground.phase }, { on := 3, ground := Go.Ground.phase }, { on := 4, ground := Go.Ground.phase }, { on := 5, ground := Go.Ground.phase }, { on := 6, ground := Go.Ground.phase }, { on := 7, ground := Go.Ground.phase }, { on := 8, ground := Go.Ground.phase }, { on := 9, ground := Go.Ground.phase }, { on := 10, ground := Go.Ground.phase }, { on := 11, ground := Go.Ground.textOnly Go.Departure.lateStores }], guard := none }) rfl (fun K hK => ?_) AllReadyH.nil
  rw [if_pos (by kernel_rfl)]
  go_simp
  refine hK.out _ _ hS (fun hS2 => ?_)
  clear hK K hS
  have hS := hS2
  clear hS2
  refine wpAnyH_ready (rs := [13]) (by kernel_rfl) (by simp) ?_
  refine AllReadyH.cons (o := { dst := some 13, op := Go.Op.assign (Go.Operand.tmp 129), type := 3, pos := "law.go:230", after := #[{ on := 11, ground := Go.Ground.data }, { on := 12, ground := Go.Ground.chain }, { on := 0, ground := Go.Ground.phase }, { on := 1, ground := Go.Ground.phase }, { on := 2, ground := Go.Ground.phase }, { on := 3, ground := Go.Ground.phase }, { on := 4, ground := Go.Ground.phase }, { on := 5, ground := Go.Ground.phase }, { on := 6, ground := Go.Ground.phase }, { on := 7, ground := Go.Ground.phase }, { on := 8, ground := Go.Ground.phase }, { on := 9, ground := Go.Ground.phase }, { on := 10, ground := Go.Ground.phase }, { on := 11, ground := Go.Ground.phase }, { on := 12, ground := Go.Ground.phase }], guard := none }) rfl (fun K hK => ?_) AllReadyH.nil
  rw [if_pos (by kernel_rfl)]
  go_simp
  refine hK.out _ _ hS (fun hS2 => ?_)
  clear hK K hS hS2
  refine wpAnyH_done (by kernel_rfl) ?_ _
  have HP5 := Hid.of (HP4.out.up HUU.out)
  go_wp2_with (go_at_call 13; refine (num_walk _ _).mono ?_; rintro _ w9 ⟨rfl, h9⟩; obtain rfl := h9.symm; clear h9; dsimp only)
  go_ret
  exact ⟨by simp, ℓ, L, Nat.le_succ _, HP5.out.more⟩
theorem does_walk (w0 w : World) (ℓ : Nat → Nat) (pb bb M : Nat) (L : List HE) (ap rp : Nat → Option Addr) (on : Nat → Bool) (hP : PI w0 w ℓ pb bb M L ap rp on) (hM : M ≤ 1073741824) (hLn : L.length ≤ M) (kz nz lz tz : Int) (lv dv : Value) (d : List UInt8) (hd : Sb w0 dv d) (hdl : d.length ≤ 1099511627000) (zs : List Int) (hI : IL w0 lv zs) (hzl : zs.length ≤ 1099511627000) :
    STEP w0 w pb bb M L ap rp on (opc kz nz lz tz lv dv) := by
  obtain ⟨k, hk, hnz⟩ := and_one nz
  cases hon : on k with
  | false => exact does_off w0 w ℓ pb bb M k L ap rp on hP hk hon kz nz lz tz lv dv hnz
  | true =>
    by_cases e1 : kz = 1
    · subst e1; exact does_send w0 w ℓ pb bb M k L ap rp on hP hk hon nz lz tz lv dv hM d hd hdl hnz
    by_cases e2 : kz = 2
    · subst e2; exact does_wait w0 w ℓ pb bb M k L ap rp on hP hk hon nz lz tz lv dv hM hLn hnz
    by_cases e3 : kz = 3
    · subst e3; exact does_any w0 w ℓ pb bb M k L ap rp on hP hk hon nz lz tz lv dv hM hLn zs hI hzl hnz
    by_cases e4 : kz = 4
    · subst e4; exact does_pass w0 w ℓ pb bb M k L ap rp on hP hk hon nz lz tz lv dv hM hnz
    by_cases e5 : kz = 5
    · subst e5; exact does_now w0 w ℓ pb bb M k L ap rp on hP hk hon nz lz tz lv dv hnz
    by_cases e6 : kz = 6
    · subst e6; exact does_close w0 w ℓ pb bb M k L ap rp on hP hk hon nz lz tz lv dv hnz
    by_cases e7 : kz = 7
    · subst e7; exact does_waiting w0 w ℓ pb bb M k L ap rp on hP hk hon nz lz tz lv dv hnz
    exact does_else w0 w ℓ pb bb M k L ap rp on hP hk hon kz nz lz tz lv dv (by simpa using e1) (by simpa using e2) (by simpa using e3) (by simpa using e4) (by simpa using e5) (by simpa using e6) (by simpa using e7) hnz
end Go.Proofs.Ytdlfkdehfenemaa
namespace Go.Proofs.Ytdlfkdehfenemaa
open Go.RowKit Go.Conc TextNum
/-! ### the law's beginning -/
theorem NF.none {w : World} {lo hi n : Nat} {S : NS} {fs : List (Int × Int)} (h : NF w lo hi S n fs) : msgs S = [] := by
  have e := h.ab
  have e1 : S.ls.map absL = List.replicate n ([], false) := congrArg AN.ls e
  have e2 : S.pd.map absP = [] := congrArg AN.pd e
  have e3 : S.pd = [] := List.map_eq_nil_iff.1 e2
  unfold msgs
  rw [e3, List.map_nil, List.append_nil, List.flatMap_eq_nil_iff]
  intro l hl
  have h1 : absL l ∈ S.ls.map absL := List.mem_map_of_mem hl
  rw [e1] at h1
  have h2 := (List.mem_replicate.1 h1).2
  have h3 : l.ms.map (·.d) = [] := congrArg Prod.fst h2
  exact List.map_eq_nil_iff.1 h3
theorem NF.md {w : World} {lo hi n : Nat} {S : NS} {fs : List (Int × Int)} (h : NF w lo hi S n fs) : MD S := fun x => by
  unfold cm
  rw [h.none]
  exact Nat.zero_le _
theorem NF.ml {w : World} {lo hi n : Nat} {S : NS} {fs : List (Int × Int)} (h : NF w lo hi S n fs) : ML (abs S) := by
  rw [h.ab]
  refine ⟨fun i x hx d hd => ?_, fun p hp => by cases hp⟩
  have h1 : x ∈ List.replicate n (([] : List (List UInt8)), false) := List.mem_of_getElem? hx
  rw [(List.mem_replicate.1 h1).2] at hd
  cases hd
theorem NF.now {w : World} {lo hi n : Nat} {S : NS} {fs : List (Int × Int)} (h : NF w lo hi S n fs) : S.now = 0 := congrArg AN.now h.ab
theorem NF.fate {w : World} {lo hi n : Nat} {S : NS} {fs : List (Int × Int)} (h : NF w lo hi S n fs) {x : Nat} (hx : rds S x) : S.fv.ownBlock = some x := by
  rcases hx with hx | ⟨m, hm, _⟩
  · exact hx
  · rw [h.none] at hm; cases hm
/-- the document's new net -/
abbrev rnew (nb : Nat) (fv wv sv : Value) (fs : List (Int × Int)) (n : Nat) : RS := ⟨nb, fv, fs, 0, 0, wv, sv, List.replicate n ⟨.slice none 0 0, [], false⟩, .slice none 0 0, []⟩
theorem rnew_msgs (nb : Nat) (fv wv sv : Value) (fs : List (Int × Int)) (n : Nat) : rmsgs (rnew nb fv wv sv fs n) = [] := by
  unfold rmsgs
  simp
theorem RN.rok {w : World} {lo hi nb n : Nat} {fv wv sv : Value} {fs : List (Int × Int)} (h : RN w lo hi nb fv wv sv fs n) : ROk w (rnew nb fv wv sv fs n) := by
  refine ⟨h.bx, ow_base h.fr (Nat.zero_le _), ?_, ?_, World.ownsRow_nil _ _ _ _, fun l hl => ?_, fun i j a b g hij ha hb hg => ?_, fun m hm => ?_⟩
  · have := ow_base h.wo (Nat.zero_le _)
    simpa [wvs] using this
  · have := ow_base h.so (Nat.zero_le _)
    simpa [svs] using this
  · rw [(List.mem_replicate.1 hl).2]
    exact OwnZ.nil w
  · have h1 : a ∈ List.replicate n (⟨.slice none 0 0, [], false⟩ : RC) := List.mem_of_getElem? ha
    rw [(List.mem_replicate.1 h1).2] at hg
    cases hg
  · rw [rnew_msgs] at hm
    cases hm
theorem RN.own {w : World} {lo hi nb n : Nat} {fv wv sv : Value} {fs : List (Int × Int)} (h : RN w lo hi nb fv wv sv fs n) {x : Nat} (hx : rown (rnew nb fv wv sv fs n) x ∨ rrd (rnew nb fv wv sv fs n) x) : (lo ≤ x ∧ x < hi) ∧ (otag w x = some 114 ∨ otag w x = some 145 ∨ otag w x = some 4 ∨ otag w x = some 97) := by
  rcases hx with (rfl | hx | hx | hx | ⟨l, hl, hx⟩) | (hx | ⟨m, hm, hx⟩)
  · exact ⟨⟨h.lo, h.hb⟩, .inl h.bx.tag⟩
  · exact ⟨⟨(World.ownsRow.lt h.wo x hx).1, h.hw x hx⟩, .inr (.inl (row_tag h.wo hx))⟩
  · exact ⟨⟨(World.ownsRow.lt h.so x hx).1, h.hs x hx⟩, .inr (.inr (.inl (row_tag h.so hx)))⟩
  · cases hx
  · rw [(List.mem_replicate.1 hl).2] at hx
    cases hx
  · exact ⟨⟨(World.ownsRow.lt h.fr x hx).1, h.hf x hx⟩, .inr (.inr (.inr (row_tag h.fr hx)))⟩
  · rw [rnew_msgs] at hm
    cases hm
theorem NF.own {w : World} {lo hi n : Nat} {S : NS} {fs : List (Int × Int)} (h : NF w lo hi S n fs) {x : Nat} (hx : Go.Proofs.Ytdlfkdehfenemaa.own S x ∨ rds S x) : (lo ≤ x ∧ x < hi) ∧ otag w x ≠ some 114 ∧ otag w x ≠ some 145 ∧ otag w x ≠ some 4 ∧ otag w x ≠ some 97 := by
  rcases hx with hx | hx
  · refine ⟨h.ow x hx, ?_⟩
    rcases h.ok.tag hx with e | e | e | e | e <;> rw [e] <;> decide
  · refine ⟨h.rd x hx, ?_⟩
    rw [h.ok.fts.tag (h.fate hx)]
    decide
/-- whose block: of the net k's -/
def sid (w : World) (k x : Nat) : Nat := if otag w x = some 114 ∨ otag w x = some 145 ∨ otag w x = some 4 ∨ otag w x = some 97 then 2 * k + 1 else 2 * k
theorem OC.nt {w : World} {ℓ : Nat → Nat} {lo hi k : Nat} {z : Int} {fs : List (Int × Int)} {a r : Option Addr} {on : Bool} (h : OC w lo hi z fs a r on) (hℓ : ∀ x, lo ≤ x → x < hi → ℓ x = sid w k x) : NT w ℓ k 0 a r on := by
  rcases h with ⟨h, _⟩ | ⟨ho, S, n, nb, fv, wv, sv, _, _, _, ha, hr, hN, hR⟩
  · exact .inl h
  · refine .inr ⟨ho, S, rnew nb fv wv sv fs n, ha, hr, ⟨hN.ok, hN.so, hN.md, fun x hx => ?_⟩, ⟨hR.rok, fun x hx => ?_⟩, ?_, hN.ml, Nat.le_of_eq hN.mn, Nat.le_of_eq (by rw [hN.now]), Nat.le_refl _⟩
    · obtain ⟨⟨h1, h2⟩, h3, h4, h5, h6⟩ := hN.own hx
      rw [hℓ x h1 h2]
      unfold sid
      rw [if_neg (by rintro (e | e | e | e) <;> contradiction)]
    · obtain ⟨⟨h1, h2⟩, h3⟩ := hR.own hx
      rw [hℓ x h1 h2]
      unfold sid
      rw [if_pos h3]
    · rw [hN.ab]
      unfold absR
      simp
theorem BE.pi {w w2 w' : World} {pb : Nat} {z0 z1 : Int} {f0 f1 : List (Int × Int)} (h : BE w2 w' pb z0 f0 z1 f1) (u : Up w w2) : ∃ ℓ bb ap rp on, PI w w' ℓ pb bb 0 [] ap rp on := by
  obtain ⟨bb, tb, ts, a, r, on, lo, hi, a', r', on', lo', hi', hB, h0, h1, hp, hb, hlh, hhi, hp', hb'⟩ := h
  have hpw := Nat.le_trans u.size hB.pw
  have hbw := Nat.le_trans u.size hB.bw
  have hne : pb ≠ bb := hB.p.ne hB.b (by decide)
  obtain ⟨ℓ, hℓ⟩ : ∃ ℓ : Nat → Nat, ℓ = fun x => if x < w.heap.size then 9 else if x = pb then 7 else if x = bb then 4 else if x < lo' then sid w' 0 x else sid w' 1 x := ⟨_, rfl⟩
  have n0 : NT w' ℓ 0 0 a r on := h0.nt fun x h1 h2 => by
    subst hℓ
    dsimp only
    rw [if_neg (by omega), if_neg (by omega), if_neg (by omega), if_pos (by omega)]
  have n1 : NT w' ℓ 1 0 a' r' on' := h1.nt fun x h1 h2 => by
    subst hℓ
    dsimp only
    rw [if_neg (by omega), if_neg (by omega), if_neg (by omega), if_neg (by omega)]
  have hn : ∀ k, k < 2 → NT w' ℓ k 0 ((fun k => if k = 0 then a else a') k) ((fun k => if k = 0 then r else r') k) ((fun k => if k = 0 then on else on') k) := fun k hk => by
    match k, hk with
    | 0, _ => exact n0
    | 1, _ => exact n1
  refine ⟨ℓ, bb, fun k => if k = 0 then a else a', fun k => if k = 0 then r else r', fun k => if k = 0 then on else on', fun k hk => ⟨u.trans hB.up, fun x hx => ?_, hB.p, ?_, fun j hj _ => hn j hj, none, 0, hB.b, World.ownsRow_nil _ _ _ _, (fun e he => by cases he), ?_, (fun x hx => by cases hx), (fun e he => by cases he)⟩, hn⟩
  · subst hℓ
    dsimp only
    rw [if_pos hx]
  · subst hℓ
    dsimp only
    rw [if_neg (by omega), if_pos rfl]
  · subst hℓ
    dsimp only
    rw [if_neg (by omega), if_neg (fun e => hne e.symm), if_pos rfl]
end Go.Proofs.Ytdlfkdehfenemaa
namespace Go.Proofs.Ytdlfkdehfenemaa
open Go.RowKit Go.Conc TextNum
/-! ### the whole law -/
structure OpL where
  k : Int
  n : Int
  l : Int
  t : Int
  lv : Value
  dv : Value
  zs : List Int
  d : List UInt8
abbrev oc (o : OpL) : List Value := opc o.k o.n o.l o.t o.lv o.dv
/-- what a step speaks of can be read -/
structure OG (w : World) (o : OpL) : Prop where
  d : Sb w o.dv o.d
  dl : o.d.length ≤ 1048576
  i : IL w o.lv o.zs
  il : o.zs.length ≤ 1048576
def OL (w : World) (v : Value) (os : List OpL) : Prop := ∃ a c, v = .slice a os.length c ∧ os.length ≤ c ∧ ∀ j (h : j < os.length), (∃ b of, a = some ⟨b, of, none⟩ ∧ w.rangeAt b (of + j * 6) (oc os[j])) ∧ OG w os[j]
set_option maxRecDepth 100000 in
set_option maxHeartbeats 4000000 in
theorem plays_walk (w w2 : World) (z0 z1 : Int) (v0 v1 v : Value) (f0 f1 : List (Int × Int)) (os : List OpL) (h0 : FR w v0 f0) (h1 : FR w v1 f1) (l0 : f0.length * 16 ≤ 140737488351232) (l1 : f1.length * 16 ≤ 140737488351232) (hO : OL w v os) (hn : os.length ≤ 1048576) (hu : Up w w2) :
    Calls Try.prog 29 #[.agg #[.int .i64 z0, v0], .agg #[.int .i64 z1, v1], v, .int .i64 1, .int .i64 7] w2 fun e w' => e = .returned (.bool true) ∧ Up w w' := by
  obtain ⟨a, c, rfl, hc, hos⟩ := hO
  have HO := Hid.of hos
  obtain ⟨s0, c0, rfl, _, _⟩ := id h0
  obtain ⟨s1, c1, rfl, _, _⟩ := id h1
  obtain ⟨n0, hn0⟩ : ∃ n, f0.length = n := ⟨_, rfl⟩
  obtain ⟨n1, hn1⟩ : ∃ n, f1.length = n := ⟨_, rfl⟩
  obtain ⟨n, hnn⟩ : ∃ n, os.length = n := ⟨_, rfl⟩
  have HF0 := Hid.of h0
  have HF1 := Hid.of h1
  have HL0 := Hid.of l0
  have HL1 := Hid.of l1
  have HNN := Hid.of hnn
  rw [hn0] at HF0 ⊢
  rw [hn1] at HF1 ⊢
  rw [hnn] at hc hn ⊢
  clear h0 h1 l0 l1 hos hn0 hn1 hnn
  have HU1 := Hid.of ((hu.alloc (.cells #[.int .i64 z0, .slice s0 n0 c0] 30)).alloc (.cells #[.int .i64 z1, .slice s1 n1 c1] 30))
  have HA1 := Hid.of ((at_new w2 30 [.int .i64 z0, .slice s0 n0 c0]).up ((Up.refl _).alloc (.cells #[.int .i64 z1, .slice s1 n1 c1] 30)))
  have HA2 := Hid.of (at_new' (w := w2.alloc (.cells #[.int .i64 z0, .slice s0 n0 c0] 30)) (N := w2.heap.size + 1) (by simp) 30 [.int .i64 z1, .slice s1 n1 c1])
  clear hu
  go_enter Try.func29, Try.ntmps29
  go_wp2_with (with_reducible show wpList _ _ _ ({ dst := _, op := Op.load 30 _, type := _, pos := _, after := _, guard := _ } :: _) _ _; refine Shut.out ?_)
  show wpList _ _ _ _ _ _
  generalize (w2.alloc (.cells #[.int .i64 z0, .slice s0 n0 c0] 30)).alloc (.cells #[.int .i64 z1, .slice s1 n1 c1] 30) = W1 at *
  generalize w2.heap.size + 1 = yb at *
  generalize w2.heap.size = xb at *
  refine wpList_load_mid rfl 30 _ rfl xb 0 rfl [.int .i64 z0, .slice s0 n0 c0] _ HA1.out.range Try.underlying30 rfl (by kernel_rfl) ?_
  simp only [Act.put, List.setIfInBounds_toArray, List.set_cons_zero, List.set_cons_succ]
  refine wpList_load_mid rfl 30 _ rfl yb 0 rfl [.int .i64 z1, .slice s1 n1 c1] _ HA2.out.range Try.underlying30 rfl (by kernel_rfl) ?_
  simp only [Act.put, List.setIfInBounds_toArray, List.set_cons_zero, List.set_cons_succ]
  have hBg := begin_walk W1 z0 z1 (.slice s0 n0 c0) (.slice s1 n1 c1) f0 f1 (HF0.out.up HU1.out) (HF1.out.up HU1.out) HL0.out HL1.out
  go_wp2_with fail
  refine hBg.mono ?_
  rintro e w3 ⟨pb, rfl, hBE⟩
  obtain ⟨ℓ, bb, ap, rp, on, hP⟩ := hBE.pi HU1.out
  have HP0 := Hid.of (show ∃ ℓ L, L.length ≤ 0 ∧ PI w w3 ℓ pb bb 0 L ap rp on from ⟨ℓ, [], Nat.le_refl _, hP⟩)
  clear hBg hBE hP HU1 HA1 HA2 HF0 HF1 HL0 HL1
  dsimp only
  go_wp2
  go_loopw [13, 14, 15] (fun v13 _ _ wr => ∃ i : Nat, v13 = .int .i64 (i : Int) ∧ i ≤ n ∧ Hid (∃ ℓ L, L.length ≤ i ∧ PI w wr ℓ pb bb i L ap rp on)) (fun v13 _ _ _ => n - (intOf v13).toNat)
  case atStart => exact ⟨0, rfl, by omega, HP0⟩
  case round =>
    clear HP0
    obtain ⟨i, rfl, hi, hR⟩ := hrel
    obtain ⟨ℓ, L, hL, hP⟩ := hR.out
    have HP := Hid.of hP
    clear hR hP
    by_cases hlt : i < n
    · have hltz : (i : Int) < (n : Int) := by omega
      have hcz : (n : Int) ≤ (c : Int) := by omega
      have hiw : IntKind.i64.wrap ((i : Int) + 1) = (i : Int) + 1 := by rw [IntKind.wrap_i64]; omega
      have hio : i < os.length := by rw [HNN.out]; exact hlt
      obtain ⟨⟨b, of, ea, hr⟩, hg⟩ := HO.out i hio
      have HU := Hid.of (HP.out.x 0 (by decide)).up
      have hC := does_walk w wr ℓ pb bb i L ap rp on HP.out (by omega) hL os[i].k os[i].n os[i].l os[i].t os[i].lv os[i].dv os[i].d hg.d (by have := hg.dl; omega) os[i].zs hg.i (by have := hg.il; omega)
      have hr2 : wr.rangeAt b (of + i * 6) (oc os[i]) := fun j u hj => HU.out.cell (hr j u hj)
      generalize os[i] = o at *
      subst ea
      unfold STEP at hC
      clear hr hg HP
      go_wp2_with (with_reducible show wpList _ _ _ ({ dst := _, op := Op.load 108 _, type := _, pos := _, after := _, guard := _ } :: _) _ _; refine Shut.out ?_)
      show wpList _ _ _ _ _ _
      refine wpList_load_mid rfl 108 _ rfl b (of + i * 6) rfl (oc o) _ hr2 Try.underlying108 rfl (by kernel_rfl) ?_
      go_wp2_with fail
      refine hC.mono ?_
      rintro e w4 ⟨rfl, ℓ2, L2, hL2, hP2⟩
      have HP2 := Hid.of hP2
      clear hP2 hC hr2 HU
      dsimp only
      obtain ⟨ba, bc, hb⟩ := (HP2.out.x 0 (by decide)).b
      have HBI := Hid.of hb
      clear hb
      have p6 := (HP2.out.x 0 (by decide)).p.cell (i := 6) rfl
      have hK := kept_walk w4 bb ba L2 bc HBI.out.bx HBI.out.ro (fun e he => by
        obtain ⟨p, hp, k1, k2⟩ := HBI.out.en e he
        exact ⟨p, hp, Ow.sb k1, Ow.sb k2⟩) (by omega)
      go_wp2_with fail
      refine hK.mono ?_
      rintro e w5 ⟨rfl, u5⟩
      have HX := Hid.of (show ∃ ℓ L, L.length ≤ i + 1 ∧ PI w w5 ℓ pb bb (i + 1) L ap rp on from ⟨ℓ2, L2, by omega, HP2.out.up u5⟩)
      clear hK u5 p6 HBI HP2
      dsimp only
      go_wp2
      go_roundw
      case rel => exact ⟨i + 1, by simp, by omega, HX⟩
      case measure => simp [intOf]; omega
    · have hltz : ¬ (i : Int) < (n : Int) := by omega
      have HU := Hid.of (HP.out.x 0 (by decide)).up
      clear HP
      go_wp2
      go_ret
      exact ⟨rfl, HU.out⟩
set_option maxRecDepth 100000 in
set_option maxHeartbeats 4000000 in
theorem LanePlays_walk (w : World) (z0 z1 : Int) (v0 v1 v : Value) (f0 f1 : List (Int × Int)) (os : List OpL) (h0 : FR w v0 f0) (h1 : FR w v1 f1) (l0 : f0.length * 16 ≤ 140737488351232) (l1 : f1.length * 16 ≤ 140737488351232) (hO : OL w v os) (hn : os.length ≤ 1048576) :
    Calls Try.prog 11 #[.agg #[.int .i64 z0, v0], .agg #[.int .i64 z1, v1], v] w fun e w' => e = .returned (.bool true) ∧ Up w w' := by
  have HU1 := Hid.of (((Up.refl w).alloc (.cells #[.int .i64 z0, v0] 30)).alloc (.cells #[.int .i64 z1, v1] 30))
  have HA1 := Hid.of ((at_new w 30 [.int .i64 z0, v0]).up ((Up.refl _).alloc (.cells #[.int .i64 z1, v1] 30)))
  have HA2 := Hid.of (at_new' (w := w.alloc (.cells #[.int .i64 z0, v0] 30)) (N := w.heap.size + 1) (by simp) 30 [.int .i64 z1, v1])
  have hC := plays_walk w ((w.alloc (.cells #[.int .i64 z0, v0] 30)).alloc (.cells #[.int .i64 z1, v1] 30)) z0 z1 v0 v1 v f0 f1 os h0 h1 l0 l1 hO hn HU1.out
  clear h0 h1 hO
  go_enter Try.func11, Try.ntmps11
  go_wp2_with (with_reducible show wpList _ _ _ ({ dst := _, op := Op.load 30 _, type := _, pos := _, after := _, guard := _ } :: _) _ _; refine Shut.out ?_)
  show wpList _ _ _ _ _ _
  generalize (w.alloc (.cells #[.int .i64 z0, v0] 30)).alloc (.cells #[.int .i64 z1, v1] 30) = W1 at *
  generalize w.heap.size + 1 = yb at *
  generalize w.heap.size = xb at *
  refine wpList_load_mid rfl 30 _ rfl xb 0 rfl [.int .i64 z0, v0] _ HA1.out.range Try.underlying30 rfl (by kernel_rfl) ?_
  simp only [Act.put, List.setIfInBounds_toArray, List.set_cons_zero, List.set_cons_succ]
  refine wpList_load_mid rfl 30 _ rfl yb 0 rfl [.int .i64 z1, v1] _ HA2.out.range Try.underlying30 rfl (by kernel_rfl) ?_
  go_wp2_with fail
  refine hC.mono ?_
  rintro e w4 ⟨rfl, u4⟩
  dsimp only
  clear hC
  go_wp2
  go_ret
  exact ⟨rfl, u4⟩
end Go.Proofs.Ytdlfkdehfenemaa
namespace Go.Proofs.Ytdlfkdehfenemaa
open Go.ChangeShapes Go.WideShapes Go.ChangeAt Go.WideMaps Go.WideElems Go.RowKit TextNum
/-! ### the arguments, and how much they hold -/
theorem one_leB {H : Type} (d : DataW H) : 1 ≤ Rows.uptoBulk d := by
  cases d with
  | lit l => cases l <;> simp [Rows.uptoBulk]
  | nil => simp [Rows.uptoBulk]
  | ptr d => simp [Rows.uptoBulk]
  | slice elems spare => simp [Rows.uptoBulk]
  | agg parts => simp [Rows.uptoBulk]
  | iface t d => simp [Rows.uptoBulk]
  | map entries => simp [Rows.uptoBulk]
  | held h => simp [Rows.uptoBulk]
theorem len_leB {H : Type} : ∀ (l : List (DataW H)), l.length ≤ Rows.uptoBulkAll l
  | [] => Nat.zero_le _
  | x :: r => by have := one_leB x; have := len_leB r; simp only [Rows.uptoBulkAll, List.length_cons]; omega
theorem bulk_mem {H : Type} : ∀ {ds : List (DataW H)} {j : Nat} {d : DataW H}, ds[j]? = some d → Rows.uptoBulk d ≤ Rows.uptoBulkAll ds
  | d0 :: ds, 0, d, hd => by
    simp only [List.getElem?_cons_zero, Option.some.injEq] at hd
    subst hd
    simp only [Rows.uptoBulkAll]
    omega
  | d0 :: ds, j + 1, d, hd => by
    simp only [List.getElem?_cons_succ] at hd
    have := bulk_mem hd
    simp only [Rows.uptoBulkAll]
    omega
  | [], _, _, hd => by simp at hd
theorem bulk_in {H : Type} {l : List (DataW H)} {x : DataW H} (h : x ∈ l) : Rows.uptoBulk x ≤ Rows.uptoBulkAll l := by
  obtain ⟨j, hj, rfl⟩ := List.mem_iff_getElem.1 h
  exact bulk_mem (List.getElem?_eq_getElem hj)
set_option maxRecDepth 100000 in
theorem cellsFate : Try.prog.cellsOf 63 = 2 := by kernel_rfl
set_option maxRecDepth 100000 in
theorem fate_open {H : Type} {enc : TypeId × Value → H} {W : World} {fuel : Nat} {cs : List Value} {d : DataW H} {ps : List MemPlace} (hf : DataW.trod enc Try.prog W 0 (fun _ => true) true fuel 63 cs = some (d, ps)) :
    ∃ k n, cs = [.int .i64 k, .int .i64 n] := by
  obtain ⟨xs, n, _, hx, hl7, hlen, hg⟩ := DataW.trod_struct Try.underlying63 hf
  rw [cellsFate] at hl7
  match cs, hl7, xs, hlen with
  | [c0, c1], _, [y0, y1], _ =>
    have h0 := hg 0 _ rfl
    have h1 := hg 1 _ rfl
    have g0 : DataW.trod enc Try.prog W 0 (fun _ => true) true n 3 [c0] = some y0 := h0
    have g1 : DataW.trod enc Try.prog W 0 (fun _ => true) true n 3 [c1] = some y1 := h1
    obtain ⟨d0, q0⟩ := y0
    obtain ⟨d1, q1⟩ := y1
    obtain ⟨a, e0, _, _⟩ := DataW.trod_int Try.underlying3 g0
    obtain ⟨b, e1, _, _⟩ := DataW.trod_int Try.underlying3 g1
    simp only [List.cons.injEq, and_true] at e0 e1
    subst e0 e1
    exact ⟨a, b, rfl⟩
set_option maxRecDepth 100000 in
theorem bytesFate : Try.prog.bytesOf 63 = 16 := by kernel_rfl
set_option maxRecDepth 100000 in
theorem cellsLnet : Try.prog.cellsOf 30 = 2 := by kernel_rfl
set_option maxRecDepth 100000 in
/-- a list of fates that is given -/
theorem fates_open {H : Type} {enc : TypeId × Value → H} {W : World} {fuel : Nat} {cs : List Value} {d : DataW H} {ps : List MemPlace} (hf' : DataW.trod enc Try.prog W 0 (fun _ => true) true fuel 28 cs = some (d, ps)) :
    ∃ v fs, cs = [v] ∧ FR W v fs ∧ ∀ R, (∀ n, n ∈ d.weights Try.prog 28 → n ≤ R) → fs.length * 16 ≤ R := by
  rcases DataW.trod_slice Try.underlying28 hf' with ⟨e1, _⟩ | ⟨ad, len, cap, elems, rest, n, _, e1, hx, _, hlc, _, hel0, hel, _, _⟩
  · exact ⟨_, [], e1, ⟨none, 0, rfl, Nat.le_refl _, fun j hj => by cases hj⟩, fun R _ => by simp⟩
  · rw [cellsFate] at hel
    have key : ∀ i (hi : i < len), ∃ q : Int × Int, ∀ j v, (fc q)[j]? = some v → W.cell? ((ad.add (i * 2)).add j) = some v := by
      intro i hi
      have h1 := hel i hi
      rw [List.getElem?_eq_getElem (by omega), Option.bind_eq_some_iff] at h1
      obtain ⟨cs, hcs, hy⟩ := h1
      obtain ⟨k, m, hq⟩ := fate_open hy
      subst hq
      refine ⟨(k, m), fun j v hv => ?_⟩
      have hj : j < 2 := (List.getElem?_eq_some_iff.1 hv).1
      have := (World.cells?_some hcs).2.2 j hj
      rw [this]
      exact hv
    have mk : ∀ k, k ≤ len → ∃ ss : List (Int × Int), ss.length = k ∧ ∀ i (hi : i < ss.length), ∀ j v, (fc ss[i])[j]? = some v → W.cell? ((ad.add (i * 2)).add j) = some v := by
      intro k
      induction k with
      | zero => exact fun _ => ⟨[], rfl, fun i hi => by cases hi⟩
      | succ k ih =>
        intro hk
        obtain ⟨ts, hl, ht⟩ := ih (by omega)
        obtain ⟨s, hk1⟩ := key k (by omega)
        refine ⟨ts ++ [s], by rw [List.length_append, hl]; rfl, fun i hi => ?_⟩
        by_cases hik : i < ts.length
        · rw [List.getElem_append_left hik]
          exact ht i hik
        · have e : i = k := by rw [List.length_append] at hi; simp at hi; omega
          subst e
          rw [List.getElem_append_right (by omega)]
          simp only [hl, Nat.sub_self, List.getElem_cons_zero]
          exact hk1
    obtain ⟨ss, hl, ht⟩ := mk len (Nat.le_refl _)
    refine ⟨_, ss, e1, ⟨some ad, cap, by rw [hl], by rw [hl]; exact hlc, fun i hi => ?_⟩, fun R hR => ?_⟩
    · have h0 := ht 0 (by omega) 0 _ rfl
      have h1 := ht i hi
      obtain ⟨b, off, sp⟩ := ad
      cases sp with
      | some s => exfalso; simp only [World.cell?, Addr.add] at h0; split at h0 <;> simp at h0
      | none =>
        refine ⟨b, off, rfl, fun j v hv => ?_⟩
        have h2 := h1 j v hv
        rw [Addr.add_lit, Addr.add_lit] at h2
        exact h2
    · injection hx with hd _
      have := hR _ (by rw [hd]; unfold DataW.weights; rw [Try.underlying28]; exact List.mem_cons_self)
      rw [bytesFate] at this
      rw [List.length_map, List.length_map] at this
      omega
set_option maxRecDepth 100000 in
theorem cellsI : Try.prog.cellsOf 3 = 1 := by kernel_rfl
/-- a slice's length is within its bulk -/
theorem len_bulk {H : Type} {enc : TypeId × Value → H} {W : World} {fuel : Nat} {t e : TypeId} {a : Option Addr} {n c : Nat} {d : DataW H} {ps : List MemPlace} (ht : Try.prog.underlying t = some (.slice e))
    (hf' : DataW.trod enc Try.prog W 0 (fun _ => true) true fuel t [.slice a n c] = some (d, ps)) : n ≤ Rows.uptoBulk d := by
  rcases DataW.trod_slice ht hf' with ⟨e1, _⟩ | ⟨ad, l2, c2, elems, rest, m, _, e1, hx, _, _, _, hel0, _⟩
  · simp only [List.cons.injEq, Value.slice.injEq, and_true] at e1
    obtain ⟨rfl, rfl, rfl⟩ := e1
    exact Nat.zero_le _
  · simp only [List.cons.injEq, Value.slice.injEq, and_true] at e1
    obtain ⟨rfl, rfl, rfl⟩ := e1
    injection hx with hd _
    have h1 := len_leB (elems.map (·.1))
    rw [List.length_map] at h1
    rw [hd]
    simp only [Rows.uptoBulk]
    omega
theorem fates_openU {H : Type} {enc : TypeId × Value → H} {W : World} {fuel : Nat} {cs : List Value} {d : DataW H} {ps : List MemPlace} (hf' : DataW.trod enc Try.prog W 0 (fun _ => true) true fuel 28 cs = some (d, ps)) :
    ∃ v fs, cs = [v] ∧ FR W v fs ∧ fs.length ≤ Rows.uptoBulk d := by
  obtain ⟨v, fs, e, h, _⟩ := fates_open hf'
  subst e
  obtain ⟨a, c, rfl, _⟩ := id h
  exact ⟨_, fs, rfl, h, len_bulk Try.underlying28 hf'⟩
set_option maxRecDepth 100000 in
theorem open_lnetU {H : Type} {enc : TypeId × Value → H} {W : World} {v : Value} {d : DataW H} {ps : List MemPlace} {base : Nat} (hval : Value.okWide Try.prog W .any base 30 v) (h : DataW.Trod enc Try.prog W 0 (fun _ => true) true 30 v d ps) :
    ∃ z v1 fs, v = .agg #[.int .i64 z, v1] ∧ FR W v1 fs ∧ fs.length ≤ Rows.uptoBulk d := by
  obtain ⟨cs, rfl, hsz⟩ := okWide_struct Try.underlying30 hval
  rw [cellsLnet] at hsz
  obtain ⟨c0, c1, rfl⟩ : ∃ a b, cs = #[a, b] := by
    obtain ⟨l⟩ := cs
    match l, hsz with
    | [a, b], _ => exact ⟨a, b, rfl⟩
  obtain ⟨fuel, hf⟩ := h
  obtain ⟨xs, n, _, hx, _, hlen, hg⟩ := DataW.trod_struct Try.underlying30 hf
  match xs, hlen with
  | [y0, y1], _ =>
    have h0 := hg 0 _ rfl
    have h1 := hg 1 _ rfl
    have g0 : DataW.trod enc Try.prog W 0 (fun _ => true) true n 3 [c0] = some y0 := h0
    have g1 : DataW.trod enc Try.prog W 0 (fun _ => true) true n 28 [c1] = some y1 := h1
    clear h0 h1 hg
    obtain ⟨d0, q0⟩ := y0
    obtain ⟨d1, q1⟩ := y1
    obtain ⟨z, e0, _, _⟩ := DataW.trod_int Try.underlying3 g0
    obtain ⟨v1, fs, e1, k1, k2⟩ := fates_openU g1
    simp only [List.cons.injEq, and_true] at e0 e1
    subst e0 e1
    injection hx with hd _
    refine ⟨z, _, fs, rfl, k1, ?_⟩
    rw [hd]
    simp only [Rows.uptoBulk, List.map_cons, List.map_nil, Rows.uptoBulkAll]
    omega
set_option maxRecDepth 100000 in
theorem cellsOp : Try.prog.cellsOf 108 = 6 := by kernel_rfl
set_option maxRecDepth 100000 in
theorem ints_open {H : Type} {enc : TypeId × Value → H} {W : World} {fuel : Nat} {cs : List Value} {d : DataW H} {ps : List MemPlace} (hf' : DataW.trod enc Try.prog W 0 (fun _ => true) true fuel 51 cs = some (d, ps)) :
    ∃ v zs, cs = [v] ∧ IL W v zs ∧ zs.length ≤ Rows.uptoBulk d := by
  rcases open_ints Try.underlying51 Try.underlying3 cellsI hf' with ⟨e1, _⟩ | ⟨ad, len, cap, zs, e1, _, hlc, hcm, hzl, hx, hcell, hwf⟩
  · exact ⟨_, [], e1, ⟨none, 0, rfl, Nat.le_refl _, fun j z hz => (by cases hz)⟩, Nat.zero_le _⟩
  · simp only [if_true] at hzl
    have hlen : (zs.take len).length = len := by rw [List.length_take, Nat.min_eq_left (by omega)]
    subst e1
    refine ⟨_, zs.take len, rfl, ⟨some ad, cap, by rw [hlen], by rw [hlen]; omega, fun j z hz => ?_⟩, by rw [hlen]; exact len_bulk Try.underlying51 hf'⟩
    obtain ⟨hj, e⟩ := List.getElem?_eq_some_iff.1 hz
    have hj1 : j < len := by rw [hlen] at hj; exact hj
    have hj2 : j < zs.length := by omega
    have hs := plain_of (hcell 0 (by omega))
    obtain ⟨b, o, s⟩ := ad
    obtain rfl : s = none := hs
    refine ⟨b, o, rfl, ?_⟩
    have h1 := hcell j hj2
    rw [Addr.add_lit] at h1
    rw [h1]
    rw [List.getElem_take] at e
    simp only [List.getD_eq_getElem?_getD, List.getElem?_eq_getElem hj2, Option.getD_some, e]
set_option maxRecDepth 100000 in
/-- one step is opened -/
theorem op_open {H : Type} {enc : TypeId × Value → H} {W : World} {fuel : Nat} {cs : List Value} {z : DataW H × List MemPlace} (hf : DataW.trod enc Try.prog W 0 (fun _ => true) true fuel 108 cs = some z) (hb : Rows.uptoBulk z.1 ≤ 1048576) :
    ∃ o : OpL, cs = oc o ∧ OG W o := by
  obtain ⟨xs, n, _, hx, hl6, hlen, hg⟩ := DataW.trod_struct Try.underlying108 hf
  rw [cellsOp] at hl6
  match cs, hl6, xs, hlen with
  | [c0, c1, c2, c3, c4, c5], _, [y0, y1, y2, y3, y4, y5], _ =>
    have h0 := hg 0 _ rfl
    have h1 := hg 1 _ rfl
    have h2 := hg 2 _ rfl
    have h3 := hg 3 _ rfl
    have h4 := hg 4 _ rfl
    have h5 := hg 5 _ rfl
    have g0 : DataW.trod enc Try.prog W 0 (fun _ => true) true n 3 [c0] = some y0 := h0
    have g1 : DataW.trod enc Try.prog W 0 (fun _ => true) true n 3 [c1] = some y1 := h1
    have g2 : DataW.trod enc Try.prog W 0 (fun _ => true) true n 3 [c2] = some y2 := h2
    have g3 : DataW.trod enc Try.prog W 0 (fun _ => true) true n 3 [c3] = some y3 := h3
    have g4 : DataW.trod enc Try.prog W 0 (fun _ => true) true n 51 [c4] = some y4 := h4
    have g5 : DataW.trod enc Try.prog W 0 (fun _ => true) true n 47 [c5] = some y5 := h5
    clear h0 h1 h2 h3 h4 h5 hg
    obtain ⟨d0, q0⟩ := y0
    obtain ⟨d1, q1⟩ := y1
    obtain ⟨d2, q2⟩ := y2
    obtain ⟨d3, q3⟩ := y3
    obtain ⟨d4, q4⟩ := y4
    obtain ⟨d5, q5⟩ := y5
    obtain ⟨k, e0, _, _⟩ := DataW.trod_int Try.underlying3 g0
    obtain ⟨nn, e1, _, _⟩ := DataW.trod_int Try.underlying3 g1
    obtain ⟨l, e2, _, _⟩ := DataW.trod_int Try.underlying3 g2
    obtain ⟨t, e3, _, _⟩ := DataW.trod_int Try.underlying3 g3
    obtain ⟨lv, zs, e4, kI, kIl⟩ := ints_open g4
    obtain ⟨dv, bs, e5, kS⟩ := sb_open g5
    simp only [List.cons.injEq, and_true] at e0 e1 e2 e3 e4 e5
    subst e0 e1 e2 e3 e4 e5
    obtain ⟨da, dc, rfl, _⟩ := id kS
    have kSl := len_bulk Try.underlying47 g5
    have hz : z.1 = .agg [d0, d1, d2, d3, d4, d5] := by rw [hx]; rfl
    rw [hz] at hb
    simp only [Rows.uptoBulk, Rows.uptoBulkAll] at hb
    exact ⟨⟨k, nn, l, t, _, _, zs, bs⟩, rfl, ⟨kS, by dsimp only; omega, kI, by dsimp only; omega⟩⟩
set_option maxRecDepth 100000 in
/-- a script as an argument -/
theorem open_sop {H : Type} {enc : TypeId × Value → H} {W : World} {v : Value} {d : DataW H} {ps : List MemPlace} {base : Nat} (hval : Value.okWide Try.prog W .any base 76 v) (h : DataW.Trod enc Try.prog W 0 (fun _ => true) true 76 v d ps) (hk : Rows.uptoBulk d ≤ 1048576) :
    ∃ os, OL W v os ∧ os.length ≤ 1048576 := by
  obtain ⟨a, len, cap, rfl⟩ := okWide_slice Try.underlying76 hval
  obtain ⟨fuel, hf⟩ := h
  have hf' : DataW.trod enc Try.prog W 0 (fun _ => true) true fuel 76 [.slice a len cap] = some (d, ps) := hf
  have hlb := len_bulk Try.underlying76 hf'
  rcases DataW.trod_slice Try.underlying76 hf' with ⟨e1, _⟩ | ⟨ad, l2, c2, elems, rest, n, _, e1, hx, _, hlc, _, hel0, hel, _, _⟩
  · simp only [List.cons.injEq, Value.slice.injEq, and_true] at e1
    obtain ⟨rfl, rfl, rfl⟩ := e1
    exact ⟨[], ⟨none, 0, rfl, Nat.zero_le _, fun j hj => absurd hj (Nat.not_lt_zero _)⟩, Nat.zero_le _⟩
  · simp only [List.cons.injEq, Value.slice.injEq, and_true] at e1
    obtain ⟨rfl, rfl, rfl⟩ := e1
    injection hx with hd _
    rw [cellsOp] at hel
    have hbulk : Rows.uptoBulkAll (elems.map (·.1)) ≤ Rows.uptoBulk d := by
      rw [hd]
      simp only [Rows.uptoBulk]
      omega
    have key : ∀ i, i < len → ∃ o : OpL, OG W o ∧ ∀ j u, (oc o)[j]? = some u → W.cell? ((ad.add (i * 6)).add j) = some u := by
      intro i hi
      have h1 := hel i hi
      rw [List.getElem?_eq_getElem (by omega), Option.bind_eq_some_iff] at h1
      obtain ⟨cs, hcs, hy⟩ := h1
      have hb1 := bulk_in (l := elems.map (·.1)) (x := (elems[i]'(by omega)).1) (List.mem_map.2 ⟨_, List.getElem_mem _, rfl⟩)
      obtain ⟨o, rfl, hG⟩ := op_open hy (by omega)
      refine ⟨o, hG, fun j u hu => ?_⟩
      have hj : j < 6 := (List.getElem?_eq_some_iff.1 hu).1
      have := (World.cells?_some hcs).2.2 j hj
      rw [this]
      exact hu
    have mk : ∀ k, k ≤ len → ∃ ss : List OpL, ss.length = k ∧ ∀ i (hi : i < ss.length), OG W ss[i] ∧ ∀ j u, (oc ss[i])[j]? = some u → W.cell? ((ad.add (i * 6)).add j) = some u := by
      intro k
      induction k with
      | zero => exact fun _ => ⟨[], rfl, fun i hi => by cases hi⟩
      | succ k ih =>
        intro hk
        obtain ⟨ts, hl, ht⟩ := ih (by omega)
        obtain ⟨s, hk1⟩ := key k (by omega)
        refine ⟨ts ++ [s], by rw [List.length_append, hl]; rfl, fun i hi => ?_⟩
        by_cases hik : i < ts.length
        · rw [List.getElem_append_left hik]
          exact ht i hik
        · have e : i = k := by rw [List.length_append] at hi; simp at hi; omega
          subst e
          rw [List.getElem_append_right (by omega)]
          simp only [hl, Nat.sub_self, List.getElem_cons_zero]
          exact hk1
    obtain ⟨ss, hl, ht⟩ := mk len (Nat.le_refl _)
    refine ⟨ss, ⟨some ad, cap, by rw [hl], by rw [hl]; exact hlc, fun i hi => ⟨?_, (ht i hi).1⟩⟩, by omega⟩
    have h0 := (ht 0 (by omega)).2 0 _ rfl
    have h1 := (ht i hi).2
    obtain ⟨b, off, sp⟩ := ad
    cases sp with
    | some s => exfalso; simp only [World.cell?, Addr.add] at h0; split at h0 <;> simp at h0
    | none =>
      refine ⟨b, off, rfl, fun j u hu => ?_⟩
      have h2 := h1 j u hu
      rw [Addr.add_lit, Addr.add_lit] at h2
      exact h2
end Go.Proofs.Ytdlfkdehfenemaa
