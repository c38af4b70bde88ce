import Derived.Test.YtdgpnppnjkpfoaaDoorXp
import Derived.Test.YtdgpnppnjkpfoaaDoorWh
namespace Go.Proofs.YtdgpnppnjkpfoaaDoor
open Go.RowKit TextNum
/-- three bytes are appended -/
theorem wpList_app3 {w : World} {N q : Nat} {ops : Array Oper} {rest : List Oper} {o : Oper} {a : Act} {Q : Exit → Act → World → Prop} (hgd : o.guard = none) (x y : Operand)
    (ho : o.op = .call { callee := .builtin .append, args := #[x, y], argTypes := #[53, 53] }) (ax : Option Addr) (cx : Nat) (xs : List UInt8) (b b2 b3 : UInt8) (hx : a.eval x = .slice ax q cx) (hy : a.eval y = .slice (some ⟨w.heap.size, 0, none⟩) 3 3)
    (hR : w.ownsRow N 5 1 (.slice ax q cx) q (cb xs)) (hNw : N ≤ w.heap.size) (hql : q ≤ 1099511627776)
    (K : ∀ ax2 cx2 w', w'.ownsRow N 5 1 (.slice ax2 (q + 3) cx2) (q + 3) (cb (xs ++ [b, b2, b3])) → (∀ W, Up W w → W.heap.size ≤ N → Up W w') → wpList Tryd.prog ops Q rest (a.put o.dst (.slice ax2 (q + 3) cx2)) w') :
    wpList Tryd.prog ops Q (o :: rest) a (w.alloc (.cells #[.int .u8 (b.toNat : Int), .int .u8 (b2.toNat : Int), .int .u8 (b3.toNat : Int)] 5)) := by
  obtain ⟨i0, hi0, hz0, hz1, hz2⟩ := info_parts Tryd.infoU8
  have HUx := (Up.refl w).alloc (.cells #[.int .u8 (b.toNat : Int), .int .u8 (b2.toNat : Int), .int .u8 (b3.toNat : Int)] 5)
  refine wpList_append_frs hgd x y 53 ho N 5 i0 (.int .u8 0) 1 Tryd.underlying53 hi0 hz0 hz1 hz2 rfl _ q _ hx (ow_up hR HUx) ⟨w.heap.size, 0, none⟩ 3 3 [.int .u8 (b.toNat : Int), .int .u8 (b2.toNat : Int), .int .u8 (b3.toNat : Int)] hy rfl ?_ ?_ (by simp only [maxLen]; omega) (by omega) (Nat.le_trans hNw HUx.size) ?_
  · intro j u hu
    rw [Addr.add_lit]
    exact At.cell (at_new w 5 [.int .u8 (b.toNat : Int), .int .u8 (b2.toNat : Int), .int .u8 (b3.toNat : Int)]) (i := 0 + j) (by rw [Nat.zero_add]; exact hu)
  · intro u hu
    simp only [List.mem_cons, List.not_mem_nil, or_false] at hu
    rcases hu with rfl | rfl | rfl <;> rfl
  · intro v8 w8 o8 g8 _
    obtain ⟨a4, c4, rfl⟩ := row_len o8
    refine K a4 c4 w8 (by rw [cb_append]; exact o8) (fun W hU hW => up_grownBy (hU.trans HUx) g8 (fun g hg => Nat.le_trans hW (World.ownsRow.lt hR g hg).1))
def hexs : ByteArray := ⟨#[48, 49, 50, 51, 52, 53, 54, 55, 56, 57, 65, 66, 67, 68, 69, 70]⟩
theorem idx_hex (w : World) : ∀ k : Nat, k < 16 → (Instr.index 9 (.string hexs) (.int .u8 (k : Int))).run Tryd.prog w = .ok (vb (hxd k)) w
  | 0, _ => by kernel_rfl
  | 1, _ => by kernel_rfl
  | 2, _ => by kernel_rfl
  | 3, _ => by kernel_rfl
  | 4, _ => by kernel_rfl
  | 5, _ => by kernel_rfl
  | 6, _ => by kernel_rfl
  | 7, _ => by kernel_rfl
  | 8, _ => by kernel_rfl
  | 9, _ => by kernel_rfl
  | 10, _ => by kernel_rfl
  | 11, _ => by kernel_rfl
  | 12, _ => by kernel_rfl
  | 13, _ => by kernel_rfl
  | 14, _ => by kernel_rfl
  | 15, _ => by kernel_rfl
  | k + 16, h => absurd h (by omega)
theorem exec_hex {o : Oper} {ρ : Operand → Value} {x y : Operand} {w : World} (k : Nat) (hk : k < 16) (ho : o.op = .index 9 x y) (hx : ρ x = .string hexs) (hy : ρ y = .int .u8 (k : Int)) : (execOp ρ o).run Tryd.prog w = .ok (.value (vb (hxd k))) w := by
  have h := idx_hex w k hk
  unfold execOp
  simp only [ho, hx, hy]
  go_simp
theorem and15 : ∀ n : Nat, n < 256 → bits BinOp.and IntKind.u8 (n : Int) 15 = ((n % 16 : Nat) : Int) := by decide +kernel
theorem exec_and {o : Oper} {ρ : Operand → Value} {x y : Operand} {w : World} (c : UInt8) (ho : o.op = .binOp .and 5 x y 5) (hx : ρ x = vb c) (hy : ρ y = .int .u8 15) : (execOp ρ o).run Tryd.prog w = .ok (.value (.int .u8 ((c.toNat % 16 : Nat) : Int))) w := by
  have h := and15 c.toNat c.toNat_lt
  have hl := c.toNat_lt
  unfold execOp
  simp only [ho, hx, hy]
  go_simp
theorem exec_shr {o : Oper} {ρ : Operand → Value} {x y : Operand} {w : World} (c : UInt8) (ho : o.op = .binOp .shr 5 x y 55) (hx : ρ x = vb c) (hy : ρ y = .int .u64 4) : (execOp ρ o).run Tryd.prog w = .ok (.value (.int .u8 ((c.toNat / 16 : Nat) : Int))) w := by
  have hl := c.toNat_lt
  unfold execOp
  simp only [ho, hx, hy]
  go_simp
def hd47 : List UInt8 → Bool
  | [] => false
  | c :: _ => c == 47
theorem Pre47_walk (s : ByteArray) (w : World) : Calls Tryd.prog 17 #[.string s, .string ⟨#[47]⟩] w fun e w' => e = .returned (.bool (hd47 s.data.toList)) ∧ w' = w := by
  refine (Any.strings_HasPrefix Tryd.lays99 s ⟨#[47]⟩ w).mono ?_
  rintro e w' ⟨rfl, rfl⟩
  refine ⟨?_, rfl⟩
  have : Go.Lib.hasPrefix s.data.toList [47] = hd47 s.data.toList := by
    cases s.data.toList with
    | nil => rfl
    | cons c r => simp [Go.Lib.hasPrefix, hd47, List.isPrefixOf, Bool.beq_comm (a := (47 : UInt8))]
  rw [← this]
/-- what escape answers -/
def eok (l : List UInt8) : Bool := hd47 l && l.all fun c => !ctl c
def esR (ad : Nat → Addr) (l : List UInt8) : Value := if eok l = true then .tuple #[vs (esc l), .nilIface] else .tuple #[.string ⟨#[]⟩, ev (ad 9)]
theorem esR_no {ad : Nat → Addr} {l : List UInt8} (h : eok l = false) : esR ad l = .tuple #[.string ⟨#[]⟩, ev (ad 9)] := by unfold esR; rw [if_neg (by rw [h]; simp)]
theorem esR_ok {ad : Nat → Addr} {l : List UInt8} (h : eok l = true) : esR ad l = .tuple #[vs (esc l), .nilIface] := by unfold esR; rw [if_pos h]
theorem all_take {l : List UInt8} {i : Nat} (h : i < l.length) : ((l.take (i + 1)).all fun c => !ctl c) = (((l.take i).all fun c => !ctl c) && !ctl l[i]) := by
  rw [List.take_succ_eq_append_getElem h, List.all_append]
  simp
set_option maxRecDepth 100000 in
set_option maxHeartbeats 2000000 in
theorem escape_walk (ad : Nat → Addr) (s : ByteArray) (hs : s.size ≤ 68719476736) (w : World) (h : GE w ad) : Calls Tryd.prog 13 #[.string s] w fun e w' => e = .returned (esR ad s.data.toList) ∧ Up w w' := by
  have HG := Hid.of h
  clear h
  obtain ⟨L, hL⟩ : ∃ L, s.data.toList = L := ⟨_, rfl⟩
  have HLL := Hid.of hL
  have HS := Hid.of (show s.size = L.length by rw [← hL]; exact Go.Lib.size_eq s)
  have HP := Hid.of (Pre47_walk s w)
  rw [hL] at HP ⊢
  clear hL
  cases hh : hd47 L with
  | false =>
    have HE := Hid.of (show esR ad L = _ from esR_no (by unfold eok; rw [hh]; rfl))
    rw [hh] at HP
    go_enter Tryd.func13, Tryd.ntmps13
    go_wp2_with fail
    refine HP.out.mono ?_
    rintro e w9 ⟨rfl, h9⟩
    obtain rfl := h9.symm
    clear h9
    dsimp only
    go_wp2
    refine wp_region_held_drew (S := fun w2 => GE w2 ad ∧ Up w w2) (by kernel_rfl) ⟨HG.out.up (Up.refl w).drew, (Up.refl w).drew⟩ (fun hS => ?_)
    refine wpAnyH_take (i := 0) (oi := { dst := some 10, op := Go.Op.load 33 (Go.Operand.global 10), type := 33, pos := "target.go:61", after := #[{ on := 1, ground := Go.Ground.gcOnly Go.Departure.lateStores }], guard := none }) (v := ev (ad 9)) rfl (by kernel_rfl) (by kernel_rfl) (by kernel_rfl) (fun _ _ _ h => h) (Or.inl ⟨by kernel_rfl, ?_⟩) hS ?_
    · intro w5 hSw
      have hgl : w5.cell? ⟨10, 0, none⟩ = _ := hSw.1.gl 9 (by decide)
      clear hSw hS
      go_simp
    simp only [Act.put, List.setIfInBounds_toArray, List.set_cons_zero, List.set_cons_succ]
    refine wpAnyH_take (i := 1) (oi := { dst := some 2, op := Go.Op.assign (Go.Operand.const (Go.Value.string { data := #[] })), type := 9, pos := "target.go:61", after := #[{ on := 0, ground := Go.Ground.textOnly Go.Departure.lateStores }], guard := none }) (v := .string ⟨#[]⟩) rfl (by kernel_rfl) (by kernel_rfl) (by kernel_rfl) (fun _ _ _ h => h) (Or.inl ⟨by kernel_rfl, ?_⟩) hS ?_
    · intro w5 hSw
      clear hSw hS
      go_simp
    simp only [Act.put, List.setIfInBounds_toArray, List.set_cons_zero, List.set_cons_succ]
    refine wpAnyH_take (i := 2) (oi := { dst := some 3, op := Go.Op.assign (Go.Operand.tmp 10), type := 33, pos := "target.go:61", after := #[{ on := 0, ground := Go.Ground.data }, { on := 1, ground := Go.Ground.chain }, { on := 0, ground := Go.Ground.phase }, { on := 1, ground := Go.Ground.phase }], guard := none }) (v := ev (ad 9)) rfl (by kernel_rfl) (by kernel_rfl) (by kernel_rfl) (fun _ _ _ h => h) (Or.inl ⟨by kernel_rfl, ?_⟩) hS ?_
    · intro w5 hSw
      clear hSw hS
      go_simp
    simp only [Act.put, List.setIfInBounds_toArray, List.set_cons_zero, List.set_cons_succ]
    refine wpAnyH_done (by kernel_rfl) ?_ _
    have HS2 := Hid.of hS.2
    clear hS
    go_wp2
    go_ret2
    rw [HE.out]
    exact ⟨rfl, HS2.out⟩
  | true =>
    rw [hh] at HP
    go_enter Tryd.func13, Tryd.ntmps13
    go_wp2_with fail
    refine HP.out.mono ?_
    rintro e w9 ⟨rfl, h9⟩
    obtain rfl := h9.symm
    clear h9
    dsimp only
    go_wp2_with (with_reducible show wpList _ _ _ ({ dst := _, op := Op.makeSlice 53 _ _, type := _, pos := _, after := _, guard := _ } :: _) _ _; refine Shut.out ?_)
    show wpList _ _ _ _ _ _
    refine wpList_mk rfl _ _ rfl .i64 .i64 (s.size : Int) s.size rfl rfl rfl (by omega) ?_
    intro w1 o1 u1
    have HO1 := Hid.of o1
    have HU1 := Hid.of u1
    clear o1 u1
    simp only [Act.put, List.setIfInBounds_toArray]
    simp only [List.set_cons_zero, List.set_cons_succ]
    go_wp2
    go_loopw [4, 16] (fun v4 v16 wr => ∃ (i n : Nat) (a4 : Option Addr) (c4 : Nat), v16 = .int .i64 (i : Int) ∧ i ≤ s.size ∧ v4 = .slice a4 n c4 ∧ n = (esc (L.take i)).length ∧ Hid (wr.ownsRow w.heap.size 5 1 (.slice a4 n c4) n (cb (esc (L.take i))) ∧ Up w wr ∧ ((L.take i).all fun c => !ctl c) = true)) (fun _ v16 _ => s.size - (intOf v16).toNat)
    case atStart => exact ⟨0, 0, some ⟨w.heap.size, 0, none⟩, s.size, rfl, Nat.zero_le _, rfl, rfl, Hid.of ⟨HO1.out, HU1.out, rfl⟩⟩
    case round =>
      obtain ⟨i, n, a4, c4, rfl, hi, rfl, hpn, hQ⟩ := hrel
      have HQ := Hid.of hQ.out
      have hn3 : n ≤ 3 * i := by
        have h1 := esc_len (L.take i)
        rw [List.length_take] at h1
        omega
      have HPN := Hid.of hpn
      clear hQ hpn
      by_cases hil : i < s.size
      · have hilz : (i : Int) < (s.size : Int) := by omega
        have hiL : i < L.length := by rw [← HS.out]; exact hil
        obtain ⟨x, hx⟩ : ∃ x, L[i] = x := ⟨_, rfl⟩
        have hg : s[i] = x := by
          rw [sget' s i hil, ← hx]
          simp only [HLL.out]
        have HT := Hid.of (esc_take hiL)
        have HAl := Hid.of (all_take hiL)
        have HMem := Hid.of (show x ∈ L by rw [← hx]; exact List.getElem_mem hiL)
        rw [hx] at HT HAl
        clear hx hiL
        have HC := Hid.of (isControl_walk x wr)
        have HPl := Hid.of (isPlain_walk x wr)
        have hxl := x.toNat_lt
        have hd16 : x.toNat / 16 < 16 := by omega
        have hm16 : x.toNat % 16 < 16 := by omega
        cases hct : ctl x with
        | true =>
          have HE := Hid.of (show esR ad L = _ from esR_no (by
            unfold eok
            rw [hh, Bool.true_and]
            cases ha : L.all fun c => !ctl c with
            | false => rfl
            | true => have := List.all_eq_true.1 ha x HMem.out; rw [hct] at this; cases this))
          rw [hct] at HC
          clear hd16 hm16
          go_wp2_with fail
          refine HC.out.mono ?_
          rintro e w9 ⟨rfl, h9⟩
          obtain rfl := h9.symm
          clear h9
          dsimp only
          go_wp2
          refine wp_region_held_drew (S := fun w2 => GE w2 ad ∧ Up w w2) (by kernel_rfl) ⟨HG.out.up HQ.out.2.1.drew, HQ.out.2.1.drew⟩ (fun hS => ?_)
          refine wpAnyH_take (i := 0) (oi := { dst := some 34, op := Go.Op.load 33 (Go.Operand.global 10), type := 33, pos := "target.go:68", after := #[{ on := 1, ground := Go.Ground.gcOnly Go.Departure.lateStores }], guard := none }) (v := ev (ad 9)) rfl (by kernel_rfl) (by kernel_rfl) (by kernel_rfl) (fun _ _ _ h => h) (Or.inl ⟨by kernel_rfl, ?_⟩) hS ?_
          · intro w5 hSw
            have hgl : w5.cell? ⟨10, 0, none⟩ = _ := hSw.1.gl 9 (by decide)
            clear hSw hS
            go_simp
          simp only [Act.put, List.setIfInBounds_toArray, List.set_cons_zero, List.set_cons_succ]
          refine wpAnyH_take (i := 1) (oi := { dst := some 2, op := Go.Op.assign (Go.Operand.const (Go.Value.string { data := #[] })), type := 9, pos := "target.go:68", after := #[{ on := 0, ground := Go.Ground.textOnly Go.Departure.lateStores }], guard := none }) (v := .string ⟨#[]⟩) rfl (by kernel_rfl) (by kernel_rfl) (by kernel_rfl) (fun _ _ _ h => h) (Or.inl ⟨by kernel_rfl, ?_⟩) hS ?_
          · intro w5 hSw
            clear hSw hS
            go_simp
          simp only [Act.put, List.setIfInBounds_toArray, List.set_cons_zero, List.set_cons_succ]
          refine wpAnyH_take (i := 2) (oi := { dst := some 3, op := Go.Op.assign (Go.Operand.tmp 34), type := 33, pos := "target.go:68", after := #[{ on := 0, ground := Go.Ground.data }, { on := 1, ground := Go.Ground.chain }, { on := 0, ground := Go.Ground.phase }, { on := 1, ground := Go.Ground.phase }], guard := none }) (v := ev (ad 9)) rfl (by kernel_rfl) (by kernel_rfl) (by kernel_rfl) (fun _ _ _ h => h) (Or.inl ⟨by kernel_rfl, ?_⟩) hS ?_
          · intro w5 hSw
            clear hSw hS
            go_simp
          simp only [Act.put, List.setIfInBounds_toArray, List.set_cons_zero, List.set_cons_succ]
          refine wpAnyH_done (by kernel_rfl) ?_ _
          have HS2 := Hid.of hS.2
          clear hS
          go_wp2
          go_ret2
          rw [HE.out]
          exact ⟨rfl, HS2.out⟩
        | false =>
          rw [hct] at HC
          cases hpl : pl x with
          | true =>
            have HEC := Hid.of (show ec x = [x] by unfold ec; rw [if_pos hpl])
            rw [hpl] at HPl
            clear hd16 hm16
            go_wp2_with fail
            refine HC.out.mono ?_
            rintro e w9 ⟨rfl, h9⟩
            obtain rfl := h9.symm
            clear h9
            dsimp only
            go_wp2_with fail
            refine HPl.out.mono ?_
            rintro e w9 ⟨rfl, h9⟩
            obtain rfl := h9.symm
            clear h9
            dsimp only
            go_wp2_with (with_reducible show wpList _ _ _ ({ dst := _, op := Op.call { callee := Callee.builtin Builtin.append, args := _, argTypes := _ }, type := _, pos := _, after := _, guard := _ } :: _) _ _; refine Shut.out ?_)
            show wpList _ _ _ _ _ _
            refine wpList_app1 (N := w.heap.size) rfl _ _ rfl a4 c4 (esc (L.take i)) x rfl rfl HQ.out.1 HQ.out.2.1.size (by omega) ?_
            intro a5 c5 w5 o5 u5 _
            have HO5 := Hid.of o5
            have HU5 := Hid.of (u5 w HQ.out.2.1 (Nat.le_refl _))
            clear o5 u5
            simp only [Act.put, List.setIfInBounds_toArray, List.set_cons_zero, List.set_cons_succ]
            go_wp2
            go_roundw
            all_goals first
              | exact ⟨i + 1, n + 1, a5, c5, by go_num, by omega, rfl, by rw [HT.out, HEC.out, List.length_append, ← HPN.out]; rfl, Hid.of ⟨by rw [HT.out, HEC.out]; exact HO5.out, HU5.out, by rw [HAl.out, hct]; simp [HQ.out.2.2]⟩⟩
              | (simp [intOf]; omega)
          | false =>
            have HEC := Hid.of (show ec x = [37, hxd (x.toNat / 16), hxd (x.toNat % 16)] by unfold ec; rw [if_neg (by rw [hpl]; simp)])
            rw [hpl] at HPl
            go_wp2_with fail
            refine HC.out.mono ?_
            rintro e w9 ⟨rfl, h9⟩
            obtain rfl := h9.symm
            clear h9
            dsimp only
            go_wp2_with fail
            refine HPl.out.mono ?_
            rintro e w9 ⟨rfl, h9⟩
            obtain rfl := h9.symm
            clear h9
            dsimp only
            go_wp2
            refine wp_region_held_drew (S := fun w2 => Up w w2) (by kernel_rfl) HQ.out.2.1.drew (fun hS => ?_)
            refine wpAnyH_take (i := 0) (oi := { dst := some 22, op := Go.Op.move (Go.Operand.tmp 4), type := 53, pos := "target.go:72", after := #[], guard := none }) (v := .slice a4 n c4) rfl (by kernel_rfl) (by kernel_rfl) (by kernel_rfl) (fun _ _ _ h => h) (Or.inl ⟨by kernel_rfl, ?_⟩) hS ?_
            · intro w5 hSw
              clear hSw hS
              go_simp
            simp only [Act.put, List.setIfInBounds_toArray, List.set_cons_zero, List.set_cons_succ]
            refine wpAnyH_take (i := 1) (oi := { dst := some 23, op := Go.Op.move (Go.Operand.tmp 6), type := 5, pos := "target.go:72", after := #[], guard := none }) (v := vb x) rfl (by kernel_rfl) (by kernel_rfl) (by kernel_rfl) (fun _ _ _ h => h) (Or.inl ⟨by kernel_rfl, ?_⟩) hS ?_
            · intro w5 hSw
              clear hSw hS
              go_simp
            simp only [Act.put, List.setIfInBounds_toArray, List.set_cons_zero, List.set_cons_succ]
            refine wpAnyH_take (i := 2) (oi := { dst := some 24, op := Go.Op.binOp Go.BinOp.shr 5 (Go.Operand.tmp 23) (Go.Operand.const (Go.Value.int Go.IntKind.u64 4)) 55, type := 5, pos := "target.go:72", after := #[{ on := 1, ground := Go.Ground.data }], guard := none }) (v := .int .u8 ((x.toNat / 16 : Nat) : Int)) rfl (by kernel_rfl) (by kernel_rfl) (by kernel_rfl) (fun _ _ _ h => h) (Or.inl ⟨by kernel_rfl, ?_⟩) hS ?_
            · intro w5 hSw
              clear hSw hS
              exact exec_shr x rfl rfl rfl
            simp only [Act.put, List.setIfInBounds_toArray, List.set_cons_zero, List.set_cons_succ]
            refine wpAnyH_take (i := 3) (oi := { dst := some 25, op := Go.Op.index 9 (Go.Operand.const (Go.Value.string { data := #[48, 49, 50, 51, 52, 53, 54, 55, 56, 57, 65, 66, 67, 68, 69, 70] })) (Go.Operand.tmp 24), type := 5, pos := "target.go:72", after := #[{ on := 2, ground := Go.Ground.data }], guard := none }) (v := vb (hxd (x.toNat / 16))) rfl (by kernel_rfl) (by kernel_rfl) (by kernel_rfl) (fun _ _ _ h => h) (Or.inl ⟨by kernel_rfl, ?_⟩) hS ?_
            · intro w5 hSw
              clear hSw hS
              exact exec_hex _ hd16 rfl rfl rfl
            simp only [Act.put, List.setIfInBounds_toArray, List.set_cons_zero, List.set_cons_succ]
            refine wpAnyH_take (i := 4) (oi := { dst := some 26, op := Go.Op.move (Go.Operand.tmp 6), type := 5, pos := "target.go:72", after := #[], guard := none }) (v := vb x) rfl (by kernel_rfl) (by kernel_rfl) (by kernel_rfl) (fun _ _ _ h => h) (Or.inl ⟨by kernel_rfl, ?_⟩) hS ?_
            · intro w5 hSw
              clear hSw hS
              go_simp
            simp only [Act.put, List.setIfInBounds_toArray, List.set_cons_zero, List.set_cons_succ]
            refine wpAnyH_take (i := 5) (oi := { dst := some 27, op := Go.Op.binOp Go.BinOp.and 5 (Go.Operand.tmp 26) (Go.Operand.const (Go.Value.int Go.IntKind.u8 15)) 5, type := 5, pos := "target.go:72", after := #[{ on := 4, ground := Go.Ground.data }], guard := none }) (v := .int .u8 ((x.toNat % 16 : Nat) : Int)) rfl (by kernel_rfl) (by kernel_rfl) (by kernel_rfl) (fun _ _ _ h => h) (Or.inl ⟨by kernel_rfl, ?_⟩) hS ?_
            · intro w5 hSw
              clear hSw hS
              exact exec_and x rfl rfl rfl
            simp only [Act.put, List.setIfInBounds_toArray, List.set_cons_zero, List.set_cons_succ]
            refine wpAnyH_take (i := 6) (oi := { dst := some 28, op := Go.Op.index 9 (Go.Operand.const (Go.Value.string { data := #[48, 49, 50, 51, 52, 53, 54, 55, 56, 57, 65, 66, 67, 68, 69, 70] })) (Go.Operand.tmp 27), type := 5, pos := "target.go:72", after := #[{ on := 5, ground := Go.Ground.data }], guard := none }) (v := vb (hxd (x.toNat % 16))) rfl (by kernel_rfl) (by kernel_rfl) (by kernel_rfl) (fun _ _ _ h => h) (Or.inl ⟨by kernel_rfl, ?_⟩) hS ?_
            · intro w5 hSw
              clear hSw hS
              exact exec_hex _ hm16 rfl rfl rfl
            simp only [Act.put, List.setIfInBounds_toArray, List.set_cons_zero, List.set_cons_succ]
            refine wpAnyH_ready (rs := [7]) (by kernel_rfl) (by simp) ?_
            refine AllReadyH.cons (o := { dst := some 29, op := Go.Op.buildSlice 53 3 #[(0, Go.Operand.const (Go.Value.int Go.IntKind.u8 37)), (1, Go.Operand.tmp 25), (2, Go.Operand.tmp 28)], type := 53, pos := "target.go:72", after := #[{ on := 3, ground := Go.Ground.data }, { on := 6, ground := Go.Ground.data }], guard := none }) rfl (fun K hK => ?_) AllReadyH.nil
            rw [if_pos (by kernel_rfl)]
            go_simp
            refine hK.out _ _ (hS.alloc _) (fun hS => ?_)
            clear hK K
            refine wpAnyH_ready (rs := [8]) (by kernel_rfl) (by simp) ?_
            refine AllReadyH.cons (o := { dst := some 30, op := Go.Op.call { callee := Go.Callee.builtin Go.Builtin.append, args := #[Go.Operand.tmp 22, Go.Operand.tmp 29], argTypes := #[53, 53] }, type := 53, pos := "target.go:72", after := #[{ on := 0, ground := Go.Ground.data }, { on := 7, ground := Go.Ground.data }], guard := none }) rfl (fun K hK => oper_of_list ?_) AllReadyH.nil
            refine wpList_app3 (w := wr.drew) (N := w.heap.size) rfl _ _ rfl a4 c4 (esc (L.take i)) 37 (hxd (x.toNat / 16)) (hxd (x.toNat % 16)) rfl rfl (ow_up HQ.out.1 (Up.refl _).drew) HQ.out.2.1.size (by omega) ?_
            intro a5 c5 w5 o5 u5
            have HO5 := Hid.of o5
            have HU5 := Hid.of (u5 w HQ.out.2.1.drew (Nat.le_refl _))
            clear o5 u5
            refine hK.out _ _ HU5.out (fun hS => ?_)
            clear hK K
            simp only [Act.put, List.setIfInBounds_toArray, List.set_cons_zero, List.set_cons_succ]
            refine wpAnyH_take (i := 9) (oi := { dst := some 4, op := Go.Op.assign (Go.Operand.tmp 30), type := 53, pos := "target.go:72", after := #[{ on := 8, ground := Go.Ground.data }, { on := 8, ground := Go.Ground.chain }, { on := 0, ground := Go.Ground.phase }, { on := 1, ground := Go.Ground.phase }, { on := 2, ground := Go.Ground.phase }, { on := 3, ground := Go.Ground.phase }, { on := 4, ground := Go.Ground.phase }, { on := 5, ground := Go.Ground.phase }, { on := 6, ground := Go.Ground.phase }, { on := 7, ground := Go.Ground.phase }, { on := 8, ground := Go.Ground.phase }], guard := none }) (v := .slice a5 (n + 3) c5) rfl (by kernel_rfl) (by kernel_rfl) (by kernel_rfl) (fun _ _ _ h => h) (Or.inl ⟨by kernel_rfl, ?_⟩) hS ?_
            · intro w5 hSw
              clear hSw hS
              go_simp
            simp only [Act.put, List.setIfInBounds_toArray, List.set_cons_zero, List.set_cons_succ]
            clear hS
            refine wpAnyH_done (by kernel_rfl) ?_ _
            go_wp2
            go_roundw
            all_goals first
              | exact ⟨i + 1, n + 3, a5, c5, by go_num, by omega, rfl, by rw [HT.out, HEC.out, List.length_append, ← HPN.out]; rfl, Hid.of ⟨by rw [HT.out, HEC.out]; exact HO5.out, HU5.out, by rw [HAl.out, hct]; simp [HQ.out.2.2]⟩⟩
              | (simp [intOf]; omega)
      · have hilz : ¬ (i : Int) < (s.size : Int) := by omega
        have HTk := Hid.of (show L.take i = L from List.take_of_length_le (by rw [← HS.out]; omega))
        have hSb : Sb wr (.slice a4 n c4) (esc (L.take i)) := by
          have h1 := HQ.out.1
          rw [HPN.out] at h1 ⊢
          exact Ow.sb (B := w.heap.size) h1
        have hcv := conv_sb2 hSb
        rw [HTk.out] at hcv
        have HE := Hid.of (show esR ad L = _ from esR_ok (by
          have h1 := HQ.out.2.2
          rw [HTk.out] at h1
          unfold eok
          rw [hh, h1]; rfl))
        clear hSb
        go_wp2
        go_ret2
        rw [HE.out]
        exact ⟨rfl, HQ.out.2.1⟩
end Go.Proofs.YtdgpnppnjkpfoaaDoor
