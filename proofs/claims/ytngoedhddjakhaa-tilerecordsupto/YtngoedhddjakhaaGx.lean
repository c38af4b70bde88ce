import Derived.Test.YtngoedhddjakhaaGw
import Derived.OwnWalk
import Derived.Deep.MidRow
import Derived.Deep.RegionHeld3
namespace Go.Proofs.Ytngoedhddjakhaa
open Go.RowKit TextNum
/-- what is lent: the bytes and two hundred marked ones -/
def tl7 : List UInt8 := (List.range 200).map fun k => UInt8.ofNat (192 + k)
def lt7 (l : List UInt8) : List UInt8 := l ++ tl7
def st7 (T : List UInt8) (i : Nat) : List UInt8 := T.take i ++ List.replicate (T.length - i) 0
theorem tl7_len : tl7.length = 200 := by simp [tl7]
theorem lt7_len (l : List UInt8) : (lt7 l).length = l.length + 200 := by rw [lt7, List.length_append, tl7_len]
theorem st7_len {T : List UInt8} {i : Nat} (h : i ≤ T.length) : (st7 T i).length = T.length := by simp [st7]; omega
theorem st7_set {T : List UInt8} {i : Nat} (h : i < T.length) : (st7 T i).set i T[i] = st7 T (i + 1) := by
  unfold st7
  have hl : (T.take i).length = i := by rw [List.length_take]; omega
  rw [show T.length - i = (T.length - (i + 1)) + 1 by omega, List.replicate_succ, List.set_append, if_neg (by omega), hl, Nat.sub_self, List.set_cons_zero, List.take_succ_eq_append_getElem h, List.append_assoc]
  rfl
theorem lt7_lo {l : List UInt8} {i : Nat} (h : i < l.length) (h' : i < (lt7 l).length) : (lt7 l)[i] = l[i] := @List.getElem_append_left _ i l tl7 h h'
theorem lt7_hi {l : List UInt8} {i : Nat} (h : l.length ≤ i) (h' : i < (lt7 l).length) : (((lt7 l)[i]).toNat : Int) = (192 + ((i - l.length : Nat) : Int)) % 256 := by
  have h2 : i - l.length < 200 := by rw [lt7_len] at h'; omega
  have e : (lt7 l)[i] = UInt8.ofNat (192 + (i - l.length)) := (@List.getElem_append_right _ l tl7 i h h').trans (by simp [tl7])
  rw [e, UInt8.toNat_ofNat']
  omega
/-- make([]byte, n) -/
theorem wpList_mkF {ops : Array Oper} {rest : List Oper} {o : Oper} {a : Act} {w : World} {Q : Exit → Act → World → Prop} (hg : o.guard = none) (l c : Operand) (hop : o.op = Op.makeSlice 23 l c)
    (kl kc : IntKind) (C : Int) (n : Nat) (hl : a.eval l = .int kl C) (hc : a.eval c = .int kc C) (hC : C = (n : Int)) (hn : n ≤ 140737488355328)
    (hK : ∀ w', Own w' w.heap.size (.slice (some ⟨w.heap.size, 0, none⟩) n n) (List.replicate n 0) → Up w w' → wpList Try.prog ops Q rest (a.put o.dst (.slice (some ⟨w.heap.size, 0, none⟩) n n)) w') : wpList Try.prog ops Q (o :: rest) a w := by
  obtain ⟨i0, hi, hz0, hz1, hz2⟩ := info_parts Try.info8
  refine wpList_make_full w hg l c 23 hop w.heap.size 5 i0 (.int .u8 0) 1 Try.underlying23 hi hz0 hz1 kl kc C C n hl hc hC hC (by rw [hz2]; omega) (by unfold maxLen; omega) (Nat.le_refl _) ?_
  intro w' h1 h2
  refine hK w' ?_ ((Below.refl _ w).grown h2 (Nat.le_refl _) (fun k hk => by cases hk))
  rw [show (Value.int .u8 0).cells = #[Value.int .u8 0] from rfl, Nat.mul_one, toList_madeCells_one] at h1
  simpa [Own, cb] using h1
set_option maxRecDepth 100000 in
set_option maxHeartbeats 2000000 in
theorem lent_walk7 (v : Value) (l : List UInt8) (w : World) (hS : Sl w v l) (hl : l.length ≤ 1048576) :
    Calls Try.prog 14 #[v] w fun e w' => ∃ b, e = .returned (.slice (some ⟨b, 0, none⟩) (l.length + 200) (l.length + 200)) ∧ OwnN w' w.heap.size (.slice (some ⟨b, 0, none⟩) (l.length + 200) (l.length + 200)) (lt7 l) ∧ Up w w' := by
  obtain ⟨a, c, rfl, hc, hd⟩ := hS
  have HC := Hid.of (show ∀ i (h : i < l.length), ∃ b off, a = some ⟨b, off, none⟩ ∧ w.cell? ⟨b, off + i, none⟩ = some (.int .u8 (l[i].toNat : Int)) from fun i h => by
    rcases hd with rfl | ⟨b, off, e, _, hd⟩
    · cases h
    · exact ⟨b, off, e, hd i h⟩)
  clear hd
  have HLO := Hid.of (fun i h h' => lt7_lo (l := l) (i := i) h h')
  have HHI := Hid.of (fun i h h' => lt7_hi (l := l) (i := i) h h')
  have HTL := Hid.of (lt7_len l)
  have HST := Hid.of (show st7 (lt7 l) (l.length + 200) = lt7 l by unfold st7; rw [← lt7_len]; simp)
  obtain ⟨n, hn⟩ : ∃ n, l.length = n := ⟨_, rfl⟩
  rw [hn] at hc hl HTL HST ⊢
  have hw1 : IntKind.i64.wrap ((n : Int) + 200) = ((n + 200 : Nat) : Int) := by simp only [IntKind.wrap, IntKind.signed, IntKind.bits]; simp; omega
  go_enter Try.func14, Try.ntmps14
  go_wp2_with (with_reducible show wpList _ _ _ ({ dst := _, op := Op.makeSlice 23 _ _, type := _, pos := _, after := _, guard := _ } :: _) _ _; refine Shut.out ?_)
  show wpList _ _ _ _ _ _
  refine wpList_mkF rfl _ _ rfl _ _ _ (n + 200) rfl rfl (by omega) (by omega) ?_
  intro w1 hO1 u1
  simp only [Act.put, List.setIfInBounds_toArray, List.set_cons_zero, List.set_cons_succ]
  have H1 := Hid.of (show OwnN w1 w.heap.size (.slice (some ⟨w.heap.size, 0, none⟩) (n + 200) (n + 200)) (st7 (lt7 l) 0) ∧ Up w w1 from ⟨by
    have := hO1.n (by simp)
    unfold st7
    rw [List.take_zero, List.nil_append, Nat.sub_zero, HTL.out]
    exact this, u1⟩)
  clear hO1 u1
  generalize hb0 : w.heap.size = b0 at *
  go_wp2
  go_loopw [4] (fun v4 wr => ∃ i : Nat, v4 = .int .i64 (i : Int) ∧ i ≤ n ∧ Hid (OwnN wr b0 (.slice (some ⟨b0, 0, none⟩) (n + 200) (n + 200)) (st7 (lt7 l) i) ∧ Up w wr)) (fun v4 _ => n - (intOf v4).toNat)
  case atStart => exact ⟨0, rfl, by omega, H1⟩
  case round =>
    obtain ⟨i, rfl, hi, hI⟩ := hrel
    by_cases hlt : i < n
    · have hlt' : (i : Int) < (n : Int) := by omega
      have hlt2 : (i : Int) < ((n + 200 : Nat) : Int) := by omega
      have hT : i < (lt7 l).length := by rw [HTL.out]; omega
      obtain ⟨k1, k2, k3⟩ := hI.out.1.store i (by rw [st7_len (by omega)]; exact hT) (lt7 l)[i]
      rw [st7_set hT, HLO.out i (by omega) hT] at k3
      obtain ⟨b, off, rfl, kc⟩ := HC.out i (by omega)
      have kc' := hI.out.2.cell kc
      have HN := Hid.of (And.intro k3 (Below.setCell (p := ⟨b0, 0 + i, none⟩) hI.out.2 (by rw [hb0]; exact Nat.le_refl _) (.int .u8 ((l[i]'(by omega)).toNat : Int))))
      rw [Nat.zero_add] at k1 k2 HN
      generalize (l[i]'(by omega)) = y at *
      clear k3 kc
      go_wp2
      go_roundw
      case rel => exact ⟨i + 1, by go_num, by omega, by exact HN⟩
      case measure => simp [intOf]; omega
    · have hlt' : ¬ (i : Int) < (n : Int) := by omega
      obtain rfl : i = n := by omega
      go_wp2
      go_loopw [5] (fun v5 wr => ∃ j : Nat, v5 = .int .i64 (j : Int) ∧ i ≤ j ∧ j ≤ i + 200 ∧ Hid (OwnN wr b0 (.slice (some ⟨b0, 0, none⟩) (i + 200) (i + 200)) (st7 (lt7 l) j) ∧ Up w wr)) (fun v5 _ => i + 200 - (intOf v5).toNat)
      case atStart => exact ⟨i, rfl, by omega, by omega, hI⟩
      case round =>
        clear hI
        obtain ⟨j, rfl, hij, hj, hI⟩ := hrel
        by_cases hjl : j < i + 200
        · have hjl' : (j : Int) < ((i + 200 : Nat) : Int) := by omega
          have hjl2 : (j : Int) < (i : Int) + 200 := by omega
          have hT : j < (lt7 l).length := by rw [HTL.out]; omega
          obtain ⟨k1, k2, k3⟩ := hI.out.1.store j (by rw [st7_len (by omega)]; exact hT) (lt7 l)[j]
          rw [st7_set hT] at k3
          have hv := HHI.out j (by omega) hT
          have HN := Hid.of (And.intro k3 (Below.setCell (p := ⟨b0, 0 + j, none⟩) hI.out.2 (by rw [hb0]; exact Nat.le_refl _) (.int .u8 (((lt7 l)[j]).toNat : Int))))
          rw [Nat.zero_add] at k1 k2 HN
          clear k3
          have hw2 : IntKind.i64.wrap (192 + (j : Int)) = 192 + (j : Int) := by simp only [IntKind.wrap, IntKind.signed, IntKind.bits]; simp; omega
          have hw3 : IntKind.i64.wrap (192 + (j : Int) - (i : Int)) = 192 + (j : Int) - (i : Int) := by simp only [IntKind.wrap, IntKind.signed, IntKind.bits]; simp; omega
          have hw4 : IntKind.u8.wrap (192 + (j : Int) - (i : Int)) = (((lt7 l)[j]).toNat : Int) := by rw [hv]; simp only [IntKind.wrap, IntKind.signed, IntKind.bits]; simp; omega
          clear hv
          generalize (lt7 l)[j] = y at *
          go_wp2
          go_roundw
          case rel => exact ⟨j + 1, by go_num, by omega, by omega, by exact HN⟩
          case measure => simp [intOf]; omega
        · have hjl' : ¬ (j : Int) < ((i + 200 : Nat) : Int) := by omega
          have hjl2 : ¬ (j : Int) < (i : Int) + 200 := by omega
          have HJ := Hid.of (show OwnN wr b0 (.slice (some ⟨b0, 0, none⟩) (i + 200) (i + 200)) (lt7 l) from by
            have := hI.out.1
            rwa [show j = i + 200 by omega, HST.out] at this)
          go_wp2
          go_ret
          exact ⟨b0, rfl, HJ.out, hI.out.2⟩
set_option maxRecDepth 100000 in
set_option maxHeartbeats 2000000 in
theorem whole_walk (v1 v2 : Value) (l : List UInt8) (w : World) (h1 : Sl w v1 (lt7 l)) (h2 : Sl w v2 l) (hl : l.length ≤ 1048576) :
    Calls Try.prog 21 #[v1, v2] w fun e w' => e = .returned (.bool true) ∧ Up w w' := by
  have HS0 := Hid.of (And.intro h1 h2)
  clear h1 h2
  obtain ⟨q, HQ⟩ : ∃ q : ByteArray, Hid (vs (lt7 l) = .string q) := ⟨_, Hid.of rfl⟩
  go_enter Try.func21, Try.ntmps21
  go_wp2_with fail
  refine wp_region_held_drew (S := fun wx => Sl wx v1 (lt7 l) ∧ Sl wx v2 l ∧ Up w wx) (by kernel_rfl) ⟨HS0.out.1.up (Up.refl w).drew, HS0.out.2.up (Up.refl w).drew, (Up.refl w).drew⟩ (fun hS => ?_)
  refine wpAnyH_take (i := 0) (oi := { dst := some 5, op := Go.Op.move (Go.Operand.tmp 0), type := 23, pos := "law.go:80", after := #[], guard := none }) (v := v1) rfl (by kernel_rfl) (by kernel_rfl) (by kernel_rfl) (fun _ _ _ h => h) (Or.inl ⟨by kernel_rfl, ?_⟩) hS ?_
  · intro w5 hSw
    clear hSw hS
    go_simp
  simp only [Act.put, List.setIfInBounds_toArray, List.set_cons_zero, List.set_cons_succ]
  refine wpAnyH_take (i := 1) (oi := { dst := some 6, op := Go.Op.convert 23 9 (Go.Operand.tmp 5), type := 9, pos := "law.go:80", after := #[{ on := 0, ground := Go.Ground.data }], guard := none }) (v := .string q) rfl (by kernel_rfl) (by kernel_rfl) (by kernel_rfl) (fun _ _ _ h => h) (Or.inl ⟨by kernel_rfl, ?_⟩) hS ?_
  · intro w5 hSw
    have h := conv_sl hSw.1
    rw [HQ.out] at h
    clear hSw hS
    go_simp
  simp only [Act.put, List.setIfInBounds_toArray, List.set_cons_zero, List.set_cons_succ]
  refine wpAnyH_take (i := 2) (oi := { dst := some 7, op := Go.Op.move (Go.Operand.tmp 1), type := 23, pos := "law.go:80", after := #[], guard := none }) (v := v2) rfl (by kernel_rfl) (by kernel_rfl) (by kernel_rfl) (fun _ _ _ h => h) (Or.inl ⟨by kernel_rfl, ?_⟩) hS ?_
  · intro w5 hSw
    clear hSw hS
    go_simp
  simp only [Act.put, List.setIfInBounds_toArray, List.set_cons_zero, List.set_cons_succ]
  refine wpAnyH_ready (rs := [3]) (by kernel_rfl) (by simp) ?_
  refine AllReadyH.cons (o := { dst := some 8, op := Go.Op.call { callee := Go.Callee.value (Go.Operand.func 14), args := #[Go.Operand.tmp 7], argTypes := #[23] }, type := 23, pos := "law.go:80", after := #[{ on := 2, ground := Go.Ground.data }], guard := none }) rfl (fun K hK => ?_) AllReadyH.nil
  rw [if_pos (by kernel_rfl)]
  go_simp
  refine (lent_walk7 v2 l _ hS.2.1 hl).mono ?_
  rintro e w5 ⟨b, rfl, hO, u5⟩
  obtain ⟨n5, hn5⟩ : ∃ n5, l.length + 200 = n5 := ⟨_, rfl⟩
  rw [hn5] at hO ⊢
  have HO := Hid.of hO.sl
  dsimp only
  have hS2 := And.intro (hS.1.up u5) (And.intro (hS.2.1.up u5) (hS.2.2.trans u5))
  clear hS u5 hO
  refine hK.out _ _ hS2 (fun hS => ?_)
  clear hK hS2 K
  refine wpAnyH_ready (rs := [4]) (by kernel_rfl) (by simp) ?_
  refine AllReadyH.cons (o := { dst := some 9, op := Go.Op.convert 23 9 (Go.Operand.tmp 8), type := 9, pos := "law.go:80", after := #[{ on := 3, ground := Go.Ground.data }], guard := none }) rfl (fun K hK => ?_) AllReadyH.nil
  rw [if_pos (by kernel_rfl)]
  have hcv := conv_sl HO.out
  rw [HQ.out] at hcv
  go_simp
  clear hcv
  refine hK.out _ _ hS (fun hS2 => ?_)
  clear hK hS2 K
  refine wpAnyH_take (i := 5) (oi := { dst := some 10, op := Go.Op.binOp Go.BinOp.eql 9 (Go.Operand.tmp 6) (Go.Operand.tmp 9) 9, type := 4, pos := "law.go:80", after := #[{ on := 1, ground := Go.Ground.data }, { on := 4, ground := Go.Ground.data }], guard := none }) (v := .bool true) rfl (by kernel_rfl) (by kernel_rfl) (by kernel_rfl) (fun _ _ _ h => h) (Or.inl ⟨by kernel_rfl, ?_⟩) hS ?_
  · intro w5 hSw
    clear hSw hS
    go_simp
  simp only [Act.put, List.setIfInBounds_toArray, List.set_cons_zero, List.set_cons_succ]
  refine wpAnyH_take (i := 6) (oi := { dst := some 4, op := Go.Op.assign (Go.Operand.tmp 10), type := 4, pos := "law.go:80", after := #[{ on := 5, ground := Go.Ground.data }, { on := 3, ground := Go.Ground.chain }, { on := 0, ground := Go.Ground.phase }, { on := 1, ground := Go.Ground.phase }, { on := 2, ground := Go.Ground.phase }, { on := 3, ground := Go.Ground.phase }, { on := 4, ground := Go.Ground.phase }, { on := 5, ground := Go.Ground.phase }], guard := none }) (v := .bool true) rfl (by kernel_rfl) (by kernel_rfl) (by kernel_rfl) (fun _ _ _ h => h) (Or.inl ⟨by kernel_rfl, ?_⟩) hS ?_
  · intro w5 hSw
    clear hSw hS
    go_simp
  simp only [Act.put, List.setIfInBounds_toArray, List.set_cons_zero, List.set_cons_succ]
  have HU := Hid.of hS.2.2
  clear hS
  refine wpAnyH_done (by kernel_rfl) ?_ _
  go_wp2
  go_ret
  exact ⟨rfl, HU.out⟩
end Go.Proofs.Ytngoedhddjakhaa
