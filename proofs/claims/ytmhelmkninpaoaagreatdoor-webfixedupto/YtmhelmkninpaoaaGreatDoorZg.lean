import Derived.Test.YtmhelmkninpaoaaGreatDoorZf
namespace Go.Proofs.YtmhelmkninpaoaaGreatDoor
open Go.RowKit Go.Shelf TextNum
theorem exec_loadFd {o : Oper} {ρ : Operand → Value} {x : Operand} {w : World} {b off : Nat} {n v : ByteArray} (ho : o.op = .load 73 x) (hx : ρ x = .pointer (some ⟨b, off, none⟩)) (h : w.rangeAt b off [.string n, .string v]) : (execOp ρ o).run Tryz.prog w = .ok (.value (.agg #[.string n, .string v])) w := by
  unfold execOp
  simp only [ho, hx]
  have := run_loadAt_mid (P := Tryz.prog) w b off 73 [.string n, .string v] _ h Tryz.underlying73 rfl infoFd2
  simp [this]
theorem exec_neqFd {o : Oper} {ρ : Operand → Value} {x y : Operand} {w : World} {n v : ByteArray} {t : TypeId} (ho : o.op = .binOp .neq 73 x y t) (hx : ρ x = .agg #[.string n, .string v]) (hy : ρ y = .agg #[.string n, .string v]) : (execOp ρ o).run Tryz.prog w = .ok (.value (.bool false)) w := by
  unfold execOp
  simp only [ho, hx, hy]
  go_simp
set_option maxRecDepth 100000 in
set_option maxHeartbeats 1000000 in
theorem alike_same (a1 a2 : Option Addr) (fs : List FD) (c1' c2' n : Nat) (hn : fs.length = n) (hl : n ≤ 1048576) (w : World) (h1 : FdL w a1 fs c1') (h2 : FdL w a2 fs c2') :
    Calls Tryz.prog 15 #[.slice a1 n c1', .slice a2 n c2'] w fun e w' => e = .returned (.bool true) ∧ Up w w' := by
  have HF1 := Hid.of h1
  have HF2 := Hid.of h2
  have HNn := Hid.of hn
  have hcap1 := h1.cap
  have hcap2 := h2.cap
  rw [hn] at hcap1 hcap2
  clear h1 h2 hn
  go_enter Tryz.func15, Tryz.ntmps15
  go_wp2
  go_loopw [5] (fun v5 wr => ∃ i : Nat, v5 = .int .i64 (i : Int) ∧ i ≤ n ∧ Hid (Up w wr)) (fun v5 _ => n - (intOf v5).toNat)
  case atStart => exact ⟨0, rfl, Nat.zero_le _, Hid.of (Up.refl _)⟩
  case round =>
    obtain ⟨i, rfl, hi, hU⟩ := hrel
    have HU := Hid.of hU.out
    clear hU
    by_cases hil : i < n
    · have hilz : (i : Int) < (n : Int) := by omega
      have hil2 : i < fs.length := by rw [HNn.out]; exact hil
      obtain ⟨b1, o1, rfl, k1, k2⟩ := HF1.out.cells i hil2
      obtain ⟨b2, o2, rfl, k3, k4⟩ := HF2.out.cells i hil2
      have HC := Hid.of (And.intro (HU.out.cell k1) (And.intro (HU.out.cell k2) (And.intro (HU.out.cell k3) (HU.out.cell k4))))
      obtain ⟨f, hf⟩ : ∃ f, fs[i] = f := ⟨_, rfl⟩
      rw [hf] at HC
      clear hf k1 k2 k3 k4 hil2
      go_wp2
      refine wp_region_held_drew (S := fun w2 => Up wr w2) (by kernel_rfl) (Up.refl wr).drew (fun hS => ?_)
      refine wpAnyH_take (i := 0) (oi := { dst := some 17, op := Go.Op.move (Go.Operand.tmp 0), type := 25, pos := "outright.go:18", after := #[], guard := none }) (v := .slice (some ⟨b1, o1, none⟩) n c1') rfl (by kernel_rfl) (by kernel_rfl) (by kernel_rfl) (fun _ _ _ h => h) (Or.inl ⟨by kernel_rfl, ?_⟩) hS ?_
      · intro w5 hSw
        clear hSw hS
        go_simp
      simp only [Act.put, List.setIfInBounds_toArray, List.set_cons_zero, List.set_cons_succ]
      refine wpAnyH_take (i := 1) (oi := { dst := some 18, op := Go.Op.move (Go.Operand.tmp 5), type := 3, pos := "outright.go:18", after := #[], guard := none }) (v := .int .i64 (i : Int)) rfl (by kernel_rfl) (by kernel_rfl) (by kernel_rfl) (fun _ _ _ h => h) (Or.inl ⟨by kernel_rfl, ?_⟩) hS ?_
      · intro w5 hSw
        clear hSw hS
        go_simp
      simp only [Act.put, List.setIfInBounds_toArray, List.set_cons_zero, List.set_cons_succ]
      refine wpAnyH_take (i := 2) (oi := { dst := some 19, op := Go.Op.indexAddr 25 (Go.Operand.tmp 17) (Go.Operand.tmp 18), type := 0, pos := "outright.go:18", after := #[{ on := 0, ground := Go.Ground.data }, { on := 1, ground := Go.Ground.data }], guard := none }) (v := .pointer (some ⟨b1, o1 + i * 2, none⟩)) rfl (by kernel_rfl) (by kernel_rfl) (by kernel_rfl) (fun _ _ _ h => h) (Or.inl ⟨by kernel_rfl, ?_⟩) hS ?_
      · intro w5 hSw
        clear hSw hS
        exact exec_idxFd i hil rfl rfl rfl
      simp only [Act.put, List.setIfInBounds_toArray, List.set_cons_zero, List.set_cons_succ]
      refine wpAnyH_take (i := 3) (oi := { dst := some 20, op := Go.Op.load 73 (Go.Operand.tmp 19), type := 73, pos := "outright.go:18", after := #[{ on := 2, ground := Go.Ground.data }], guard := none }) (v := .agg #[.string f.n, .string f.v]) rfl (by kernel_rfl) (by kernel_rfl) (by kernel_rfl) (fun _ _ _ h => h) (Or.inl ⟨by kernel_rfl, ?_⟩) hS ?_
      · intro w5 hSw
        have hk1 : w5.cell? ⟨b1, o1 + i * 2, none⟩ = some (.string f.n) := hSw.cell HC.out.1
        have hk2 : w5.cell? ⟨b1, o1 + i * 2 + 1, none⟩ = some (.string f.v) := hSw.cell HC.out.2.1
        clear hSw hS
        exact exec_loadFd rfl rfl (range2 hk1 hk2)
      simp only [Act.put, List.setIfInBounds_toArray, List.set_cons_zero, List.set_cons_succ]
      refine wpAnyH_take (i := 4) (oi := { dst := some 21, op := Go.Op.move (Go.Operand.tmp 1), type := 25, pos := "outright.go:18", after := #[], guard := none }) (v := .slice (some ⟨b2, o2, none⟩) n c2') rfl (by kernel_rfl) (by kernel_rfl) (by kernel_rfl) (fun _ _ _ h => h) (Or.inl ⟨by kernel_rfl, ?_⟩) hS ?_
      · intro w5 hSw
        clear hSw hS
        go_simp
      simp only [Act.put, List.setIfInBounds_toArray, List.set_cons_zero, List.set_cons_succ]
      refine wpAnyH_take (i := 5) (oi := { dst := some 22, op := Go.Op.move (Go.Operand.tmp 5), type := 3, pos := "outright.go:18", after := #[], guard := none }) (v := .int .i64 (i : Int)) rfl (by kernel_rfl) (by kernel_rfl) (by kernel_rfl) (fun _ _ _ h => h) (Or.inl ⟨by kernel_rfl, ?_⟩) hS ?_
      · intro w5 hSw
        clear hSw hS
        go_simp
      simp only [Act.put, List.setIfInBounds_toArray, List.set_cons_zero, List.set_cons_succ]
      refine wpAnyH_take (i := 6) (oi := { dst := some 23, op := Go.Op.indexAddr 25 (Go.Operand.tmp 21) (Go.Operand.tmp 22), type := 0, pos := "outright.go:18", after := #[{ on := 4, ground := Go.Ground.data }, { on := 5, ground := Go.Ground.data }], guard := none }) (v := .pointer (some ⟨b2, o2 + i * 2, none⟩)) rfl (by kernel_rfl) (by kernel_rfl) (by kernel_rfl) (fun _ _ _ h => h) (Or.inl ⟨by kernel_rfl, ?_⟩) hS ?_
      · intro w5 hSw
        clear hSw hS
        exact exec_idxFd i hil rfl rfl rfl
      simp only [Act.put, List.setIfInBounds_toArray, List.set_cons_zero, List.set_cons_succ]
      refine wpAnyH_take (i := 7) (oi := { dst := some 24, op := Go.Op.load 73 (Go.Operand.tmp 23), type := 73, pos := "outright.go:18", after := #[{ on := 6, ground := Go.Ground.data }], guard := none }) (v := .agg #[.string f.n, .string f.v]) rfl (by kernel_rfl) (by kernel_rfl) (by kernel_rfl) (fun _ _ _ h => h) (Or.inl ⟨by kernel_rfl, ?_⟩) hS ?_
      · intro w5 hSw
        have hk1 : w5.cell? ⟨b2, o2 + i * 2, none⟩ = some (.string f.n) := hSw.cell HC.out.2.2.1
        have hk2 : w5.cell? ⟨b2, o2 + i * 2 + 1, none⟩ = some (.string f.v) := hSw.cell HC.out.2.2.2
        clear hSw hS
        exact exec_loadFd rfl rfl (range2 hk1 hk2)
      simp only [Act.put, List.setIfInBounds_toArray, List.set_cons_zero, List.set_cons_succ]
      refine wpAnyH_take (i := 8) (oi := { dst := some 25, op := Go.Op.binOp Go.BinOp.neq 73 (Go.Operand.tmp 20) (Go.Operand.tmp 24) 73, type := 4, pos := "outright.go:18", after := #[{ on := 3, ground := Go.Ground.data }, { on := 7, ground := Go.Ground.data }], guard := none }) (v := .bool false) rfl (by kernel_rfl) (by kernel_rfl) (by kernel_rfl) (fun _ _ _ h => h) (Or.inl ⟨by kernel_rfl, ?_⟩) hS ?_
      · intro w5 hSw
        clear hSw hS
        exact exec_neqFd rfl rfl rfl
      simp only [Act.put, List.setIfInBounds_toArray, List.set_cons_zero, List.set_cons_succ]
      refine wpAnyH_done (by kernel_rfl) ?_ _
      have HS := Hid.of hS
      clear hS
      go_wp2
      go_roundw
      all_goals first
        | exact ⟨i + 1, by go_num, by omega, Hid.of (HU.out.trans HS.out)⟩
        | (simp [intOf]; omega)
    · have hilz : ¬ (i : Int) < (n : Int) := by omega
      go_wp2
      go_ret
      exact ⟨rfl, HU.out⟩
set_option maxRecDepth 100000 in
set_option maxHeartbeats 2000000 in
theorem twins_same (M T : ByteArray) (mi : Int) (fs : List FD) (nf : Nat) (cl : Bool) (a1 a2 : Option Addr) (c1' c2' : Nat) (v1 v2 : Value) (b : List UInt8) (hnf : fs.length = nf) (hl : nf ≤ 1048576) (w : World) (h1 : FdL w a1 fs c1') (h2 : FdL w a2 fs c2') (s1 : Sb w v1 b) (s2 : Sb w v2 b) :
    Calls Tryz.prog 12 #[.agg #[.string M, .string T, .int .i64 mi, .slice a1 nf c1', v1, .bool cl], .agg #[.string M, .string T, .int .i64 mi, .slice a2 nf c2', v2, .bool cl]] w fun e w' => e = .returned (.bool true) ∧ Up w w' := by
  obtain ⟨aB, nB, cB, rfl⟩ := Sb.shape s1
  obtain ⟨aC, nC, cC, rfl⟩ := Sb.shape s2
  have HNf := Hid.of hnf
  clear hnf
  obtain ⟨w1, hw1⟩ : ∃ w1, (w.alloc (.cells [.string M, .string T, .int .i64 mi, .slice a1 nf c1', .slice aB nB cB, .bool cl].toArray 27)).alloc (.cells [.string M, .string T, .int .i64 mi, .slice a2 nf c2', .slice aC nC cC, .bool cl].toArray 27) = w1 := ⟨_, rfl⟩
  have HU := Hid.of (show Up w w1 by rw [← hw1]; exact ((Up.refl w).alloc _).alloc _)
  have A1 : At w1 w.heap.size 27 [.string M, .string T, .int .i64 mi, .slice a1 nf c1', .slice aB nB cB, .bool cl] := by
    rw [← hw1]
    exact (at_new w 27 [.string M, .string T, .int .i64 mi, .slice a1 nf c1', .slice aB nB cB, .bool cl]).up ((Up.refl _).alloc _)
  have A2 : At w1 (w.heap.size + 1) 27 [.string M, .string T, .int .i64 mi, .slice a2 nf c2', .slice aC nC cC, .bool cl] := by
    rw [← hw1]
    have := at_new (w.alloc (.cells [.string M, .string T, .int .i64 mi, .slice a1 nf c1', .slice aB nB cB, .bool cl].toArray 27)) 27 [.string M, .string T, .int .i64 mi, .slice a2 nf c2', .slice aC nC cC, .bool cl]
    rw [alloc_size] at this
    exact this
  have HA1 := Hid.of A1
  have HA2 := Hid.of A2
  have HAl := Hid.of (alike_same a1 a2 fs c1' c2' nf HNf.out hl w1 (h1.up HU.out) (h2.up HU.out))
  have HS1 := Hid.of s1
  have HS2 := Hid.of s2
  go_enter Tryz.func12, Tryz.ntmps12
  go_wp2_with (with_reducible show wpList _ _ _ ({ dst := _, op := Op.fieldAddr 27 _ _, type := _, pos := _, after := _, guard := _ } :: _) _ _; refine Shut.out ?_)
  show wpList _ _ _ _ _ _
  clear hw1 s1 s2 h1 h2
  have p0 : w1.cell? ⟨w.heap.size, 0, none⟩ = _ := A1.cell (i := 0) rfl
  have p1 : w1.cell? ⟨w.heap.size, 1, none⟩ = _ := A1.cell (i := 1) rfl
  have p2 : w1.cell? ⟨w.heap.size, 2, none⟩ = _ := A1.cell (i := 2) rfl
  have p3 : w1.cell? ⟨w.heap.size, 3, none⟩ = _ := A1.cell (i := 3) rfl
  have p5 : w1.cell? ⟨w.heap.size, 5, none⟩ = _ := A1.cell (i := 5) rfl
  have q0 : w1.cell? ⟨w.heap.size + 1, 0, none⟩ = _ := A2.cell (i := 0) rfl
  have q1 : w1.cell? ⟨w.heap.size + 1, 1, none⟩ = _ := A2.cell (i := 1) rfl
  have q2 : w1.cell? ⟨w.heap.size + 1, 2, none⟩ = _ := A2.cell (i := 2) rfl
  have q3 : w1.cell? ⟨w.heap.size + 1, 3, none⟩ = _ := A2.cell (i := 3) rfl
  have q5 : w1.cell? ⟨w.heap.size + 1, 5, none⟩ = _ := A2.cell (i := 5) rfl
  clear A1 A2
  have e1 : (M.toList == M.toList) = true := beq_self_eq_true _
  have e2 : (T.toList == T.toList) = true := beq_self_eq_true _
  have e3 : (mi == mi) = true := beq_self_eq_true _
  have e4 : (cl == cl) = true := beq_self_eq_true _
  go_wp2_with fail
  refine HAl.out.mono ?_
  rintro e w2 ⟨rfl, u2⟩
  have HU2 := Hid.of (HU.out.trans u2)
  have p4 : w2.cell? ⟨w.heap.size, 4, none⟩ = some (.slice aB nB cB) := (HA1.out.up u2).cell (i := 4) rfl
  have q4 : w2.cell? ⟨w.heap.size + 1, 4, none⟩ = some (.slice aC nC cC) := (HA2.out.up u2).cell (i := 4) rfl
  have cv1 := conv_sb2 (HS1.out.up HU2.out)
  have cv2 := conv_sb2 (HS2.out.up HU2.out)
  clear u2 p0 p1 p2 p3 p5 q0 q1 q2 q3 q5
  dsimp only
  obtain ⟨B, hB⟩ : ∃ B : ByteArray, (⟨b.toArray⟩ : ByteArray) = B := ⟨_, rfl⟩
  rw [hB] at cv1 cv2
  have e5 : (B.toList == B.toList) = true := beq_self_eq_true _
  go_wp2
  go_ret
  exact ⟨rfl, HU2.out⟩
set_option maxRecDepth 100000 in
set_option maxHeartbeats 2000000 in
theorem pairs_same (st mi : Int) (fs : List FD) (nf : Nat) (cl : Bool) (a1 a2 : Option Addr) (c1' c2' : Nat) (v1 v2 : Value) (b : List UInt8) (hnf : fs.length = nf) (hl : nf ≤ 1048576) (w : World) (h1 : FdL w a1 fs c1') (h2 : FdL w a2 fs c2') (s1 : Sb w v1 b) (s2 : Sb w v2 b) :
    Calls Tryz.prog 16 #[.agg #[.int .i64 st, .int .i64 mi, .slice a1 nf c1', v1, .bool cl], .agg #[.int .i64 st, .int .i64 mi, .slice a2 nf c2', v2, .bool cl]] w fun e w' => e = .returned (.bool true) ∧ Up w w' := by
  obtain ⟨aB, nB, cB, rfl⟩ := Sb.shape s1
  obtain ⟨aC, nC, cC, rfl⟩ := Sb.shape s2
  have HNf := Hid.of hnf
  clear hnf
  obtain ⟨w1, hw1⟩ : ∃ w1, (w.alloc (.cells [.int .i64 st, .int .i64 mi, .slice a1 nf c1', .slice aB nB cB, .bool cl].toArray 33)).alloc (.cells [.int .i64 st, .int .i64 mi, .slice a2 nf c2', .slice aC nC cC, .bool cl].toArray 33) = w1 := ⟨_, rfl⟩
  have HU := Hid.of (show Up w w1 by rw [← hw1]; exact ((Up.refl w).alloc _).alloc _)
  have A1 : At w1 w.heap.size 33 [.int .i64 st, .int .i64 mi, .slice a1 nf c1', .slice aB nB cB, .bool cl] := by
    rw [← hw1]
    exact (at_new w 33 [.int .i64 st, .int .i64 mi, .slice a1 nf c1', .slice aB nB cB, .bool cl]).up ((Up.refl _).alloc _)
  have A2 : At w1 (w.heap.size + 1) 33 [.int .i64 st, .int .i64 mi, .slice a2 nf c2', .slice aC nC cC, .bool cl] := by
    rw [← hw1]
    have := at_new (w.alloc (.cells [.int .i64 st, .int .i64 mi, .slice a1 nf c1', .slice aB nB cB, .bool cl].toArray 33)) 33 [.int .i64 st, .int .i64 mi, .slice a2 nf c2', .slice aC nC cC, .bool cl]
    rw [alloc_size] at this
    exact this
  have HA1 := Hid.of A1
  have HA2 := Hid.of A2
  have HAl := Hid.of (alike_same a1 a2 fs c1' c2' nf HNf.out hl w1 (h1.up HU.out) (h2.up HU.out))
  have HS1 := Hid.of s1
  have HS2 := Hid.of s2
  go_enter Tryz.func16, Tryz.ntmps16
  go_wp2_with (with_reducible show wpList _ _ _ ({ dst := _, op := Op.fieldAddr 33 _ _, type := _, pos := _, after := _, guard := _ } :: _) _ _; refine Shut.out ?_)
  show wpList _ _ _ _ _ _
  clear hw1 s1 s2 h1 h2
  have p0 : w1.cell? ⟨w.heap.size, 0, none⟩ = _ := A1.cell (i := 0) rfl
  have p1 : w1.cell? ⟨w.heap.size, 1, none⟩ = _ := A1.cell (i := 1) rfl
  have p2 : w1.cell? ⟨w.heap.size, 2, none⟩ = _ := A1.cell (i := 2) rfl
  have p5 : w1.cell? ⟨w.heap.size, 4, none⟩ = _ := A1.cell (i := 4) rfl
  have q0 : w1.cell? ⟨w.heap.size + 1, 0, none⟩ = _ := A2.cell (i := 0) rfl
  have q1 : w1.cell? ⟨w.heap.size + 1, 1, none⟩ = _ := A2.cell (i := 1) rfl
  have q2 : w1.cell? ⟨w.heap.size + 1, 2, none⟩ = _ := A2.cell (i := 2) rfl
  have q5 : w1.cell? ⟨w.heap.size + 1, 4, none⟩ = _ := A2.cell (i := 4) rfl
  clear A1 A2
  have e1 : (st == st) = true := beq_self_eq_true _
  have e3 : (mi == mi) = true := beq_self_eq_true _
  have e4 : (cl == cl) = true := beq_self_eq_true _
  go_wp2_with fail
  refine HAl.out.mono ?_
  rintro e w2 ⟨rfl, u2⟩
  have HU2 := Hid.of (HU.out.trans u2)
  have p4 : w2.cell? ⟨w.heap.size, 3, none⟩ = some (.slice aB nB cB) := (HA1.out.up u2).cell (i := 3) rfl
  have q4 : w2.cell? ⟨w.heap.size + 1, 3, none⟩ = some (.slice aC nC cC) := (HA2.out.up u2).cell (i := 3) rfl
  have cv1 := conv_sb2 (HS1.out.up HU2.out)
  have cv2 := conv_sb2 (HS2.out.up HU2.out)
  clear u2 p0 p1 p2 p5 q0 q1 q2 q5
  dsimp only
  obtain ⟨B, hB⟩ : ∃ B : ByteArray, (⟨b.toArray⟩ : ByteArray) = B := ⟨_, rfl⟩
  rw [hB] at cv1 cv2
  have e5 : (B.toList == B.toList) = true := beq_self_eq_true _
  go_wp2
  go_ret
  exact ⟨rfl, HU2.out⟩
/-- what padded answers -/
def pdd (b : List UInt8) (pad : Int) : List UInt8 := b ++ List.replicate (min pad.toNat 1100000) 120
set_option maxRecDepth 100000 in
set_option maxHeartbeats 1000000 in
theorem padded_walk (v : Value) (b : List UInt8) (pad : Int) (hb : b.length ≤ 1099511627) (w : World) (hS : Sb w v b) : Calls Tryz.prog 10 #[v, .int .i64 pad] w fun e w' => ∃ v', e = .returned v' ∧ Ow w' w.heap.size v' (pdd b pad) ∧ Up w w' := by
  have HS := Hid.of hS
  have HPd := Hid.of (show pdd b pad = b ++ List.replicate (min pad.toNat 1100000) 120 from rfl)
  clear hS
  obtain ⟨nb, hnb⟩ : ∃ nb, b.length = nb := ⟨_, rfl⟩
  have HNb := Hid.of hnb
  rw [hnb] at hb
  clear hnb
  obtain ⟨aV, nV, cV, rfl⟩ := Sb.shape HS.out
  go_enter Tryz.func10, Tryz.ntmps10
  go_wp2_with (with_reducible show wpList _ _ _ ({ dst := _, op := Op.call { callee := Callee.builtin Builtin.append, args := _, argTypes := _ }, type := _, pos := _, after := _, guard := _ } :: _) _ _; refine Shut.out ?_)
  show wpList _ _ _ _ _ _
  refine wpList_appSb (N := w.heap.size) rfl _ _ rfl none 0 [] _ b rfl rfl HS.out (World.ownsRow_nil _ _ _ _) (Nat.le_refl _) (by rw [HNb.out]; omega) ?_
  intro a1 c1' w1 o1 hu1
  have HU1 := Hid.of (hu1 w (Up.refl w) (Nat.le_refl _))
  rw [HNb.out, Nat.zero_add, List.nil_append] at o1
  rw [HNb.out, Nat.zero_add]
  have HO1 := Hid.of o1
  clear o1 hu1
  simp only [Act.put, List.setIfInBounds_toArray, List.set_cons_zero, List.set_cons_succ]
  go_wp2
  go_loopw [5, 6] (fun v5 v6 wr => ∃ (i : Nat) (a5 : Option Addr) (c5 : Nat), v6 = .int .i64 (i : Int) ∧ v5 = .slice a5 (nb + i) c5 ∧ i ≤ 1100000 ∧ Hid (Up w wr ∧ wr.ownsRow w.heap.size 5 1 (.slice a5 (nb + i) c5) (nb + i) (cb (b ++ List.replicate i 120)) ∧ i ≤ min pad.toNat 1100000)) (fun _ v6 _ => 1100000 - (intOf v6).toNat)
  case atStart => exact ⟨0, a1, c1', rfl, rfl, by omega, Hid.of ⟨HU1.out, by simpa using HO1.out, Nat.zero_le _⟩⟩
  case round =>
    obtain ⟨i, a5, c5, rfl, rfl, hi, hQ⟩ := hrel
    have HQ := Hid.of hQ.out
    clear hQ
    by_cases hp : (i : Int) < pad
    · by_cases hm : i < 1100000
      · have hmz : (i : Int) < 1100000 := by omega
        have HX := Hid.of (show Sb (wr.alloc (.cells #[.int .u8 120] 5)) (.slice (some ⟨wr.heap.size, 0, none⟩) 1 1) [120] from by
          refine ⟨_, 1, rfl, by simp, by simp [maxLen], (fun e => by cases e), fun ad e => ?_⟩
          obtain rfl := Option.some.inj e
          exact ⟨fun _ => rfl, fun j u hj => by rw [Addr.add_lit]; exact At.cell (at_new wr 5 [.int .u8 120]) (i := 0 + j) (by rw [Nat.zero_add]; exact hj)⟩)
        go_wp2_with (with_reducible show wpList _ _ _ ({ dst := _, op := Op.call { callee := Callee.builtin Builtin.append, args := _, argTypes := _ }, type := _, pos := _, after := _, guard := _ } :: _) _ _; refine Shut.out ?_)
        show wpList _ _ _ _ _ _
        refine wpList_appSb (N := w.heap.size) rfl _ _ rfl a5 c5 (b ++ List.replicate i 120) _ [120] rfl rfl HX.out (ow_up HQ.out.2.1 ((Up.refl wr).alloc _)) (Nat.le_trans HQ.out.1.size (by rw [alloc_size]; omega)) (by simp; omega) ?_
        intro a2 c2' w2 o2 hu2
        have HU2 := Hid.of (hu2 w (HQ.out.1.alloc _) (Nat.le_refl _))
        have HO2 := Hid.of (show w2.ownsRow w.heap.size 5 1 (.slice a2 (nb + (i + 1)) c2') (nb + (i + 1)) (cb (b ++ List.replicate (i + 1) 120)) by
          rw [List.replicate_succ', ← List.append_assoc, ← Nat.add_assoc]
          exact o2)
        clear o2 hu2
        simp only [Act.put, List.setIfInBounds_toArray, List.set_cons_zero, List.set_cons_succ]
        simp only [List.length_cons, List.length_nil, Nat.zero_add]
        rw [show nb + i + 1 = nb + (i + 1) from Nat.add_assoc _ _ _]
        go_wp2
        go_roundw
        all_goals first
          | exact ⟨i + 1, a2, c2', by go_num, rfl, by omega, Hid.of ⟨HU2.out, HO2.out, by have := HQ.out.2.2; omega⟩⟩
          | (simp [intOf]; omega)
      · have hmz : ¬ (i : Int) < 1100000 := by omega
        have HE := Hid.of (show pdd b pad = b ++ List.replicate i 120 by rw [HPd.out, show min pad.toNat 1100000 = i by omega])
        have HL := Hid.of (show (b ++ List.replicate i 120).length = nb + i by simp [HNb.out])
        go_wp2
        go_ret
        refine ⟨_, rfl, ?_, HQ.out.1⟩
        rw [HE.out]
        unfold Ow
        rw [HL.out]
        exact HQ.out.2.1
    · have HE := Hid.of (show pdd b pad = b ++ List.replicate i 120 by rw [HPd.out, show min pad.toNat 1100000 = i by have := HQ.out.2.2; omega])
      have HL := Hid.of (show (b ++ List.replicate i 120).length = nb + i by simp [HNb.out])
      go_wp2
      go_ret
      refine ⟨_, rfl, ?_, HQ.out.1⟩
      rw [HE.out]
      unfold Ow
      rw [HL.out]
      exact HQ.out.2.1
end Go.Proofs.YtmhelmkninpaoaaGreatDoor
