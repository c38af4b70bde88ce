import Derived.Test.YtdgpnppnjkpfoaaDoorXo
namespace Go.Proofs.YtdgpnppnjkpfoaaDoor
open Go.RowKit TextNum
/-- one byte is appended -/
theorem wpList_app1 {w : World} {N q : Nat} {ops : Array Oper} {rest : List Oper} {o : Oper} {a : Act} {Q : Exit → Act → World → Prop} (hgd : o.guard = none) (x y : Operand)
    (ho : o.op = .call { callee := .builtin .append, args := #[x, y], argTypes := #[53, 53] }) (ax : Option Addr) (cx : Nat) (xs : List UInt8) (b : UInt8) (hx : a.eval x = .slice ax q cx) (hy : a.eval y = .slice (some ⟨w.heap.size, 0, none⟩) 1 1)
    (hR : w.ownsRow N 5 1 (.slice ax q cx) q (cb xs)) (hNw : N ≤ w.heap.size) (hql : q ≤ 1099511627776)
    (K : ∀ ax2 cx2 w', w'.ownsRow N 5 1 (.slice ax2 (q + 1) cx2) (q + 1) (cb (xs ++ [b])) → (∀ W, Up W w → W.heap.size ≤ N → Up W w') → w.grownBy w' (Value.slice ax q cx).ownBlock → wpList Tryd.prog ops Q rest (a.put o.dst (.slice ax2 (q + 1) cx2)) w') :
    wpList Tryd.prog ops Q (o :: rest) a (w.alloc (.cells #[.int .u8 (b.toNat : Int)] 5)) := by
  obtain ⟨i0, hi0, hz0, hz1, hz2⟩ := info_parts Tryd.infoU8
  have HUx := (Up.refl w).alloc (.cells #[.int .u8 (b.toNat : Int)] 5)
  refine wpList_append_frs hgd x y 53 ho N 5 i0 (.int .u8 0) 1 Tryd.underlying53 hi0 hz0 hz1 hz2 rfl _ q _ hx (ow_up hR HUx) ⟨w.heap.size, 0, none⟩ 1 1 [.int .u8 (b.toNat : Int)] hy rfl ?_ ?_ (by simp only [maxLen]; omega) (by omega) (Nat.le_trans hNw HUx.size) ?_
  · intro j u hu
    rw [Addr.add_lit]
    exact At.cell (at_new w 5 [.int .u8 (b.toNat : Int)]) (i := 0 + j) (by rw [Nat.zero_add]; exact hu)
  · intro u hu
    obtain rfl := List.mem_singleton.1 hu
    rfl
  · intro v8 w8 o8 g8 _
    obtain ⟨a4, c4, rfl⟩ := row_len o8
    refine K a4 c4 w8 (by rw [cb_snoc]; exact o8) (fun W hU hW => up_grownBy (hU.trans HUx) g8 (fun g hg => Nat.le_trans hW (World.ownsRow.lt hR g hg).1)) (up_grown HUx g8)
/-- make([]byte, 0, n) -/
theorem wpList_mk {ops : Array Oper} {rest : List Oper} {o : Oper} {a : Act} {w : World} {Q : Exit → Act → World → Prop} (hg : o.guard = none) (l c : Operand) (hop : o.op = Op.makeSlice 53 l c)
    (kl kc : IntKind) (C : Int) (n : Nat) (hl : a.eval l = .int kl 0) (hc : a.eval c = .int kc C) (hC : C = (n : Int)) (hn : n ≤ 140737488355328)
    (hK : ∀ w', Ow w' w.heap.size (.slice (some ⟨w.heap.size, 0, none⟩) 0 n) [] → Up w w' → wpList Tryd.prog ops Q rest (a.put o.dst (.slice (some ⟨w.heap.size, 0, none⟩) 0 n)) w') : wpList Tryd.prog ops Q (o :: rest) a w := by
  obtain ⟨i0, hi, hz0, hz1, hz2⟩ := info_parts Tryd.infoU8
  refine wpList_make_own w hg l c 53 hop w.heap.size 5 i0 (.int .u8 0) 1 Tryd.underlying53 hi hz0 hz1 kl kc C n hl hc hC (by rw [hz2]; omega) (by unfold maxLen; omega) (Nat.le_refl _) ?_
  intro w' h1 h2
  exact hK w' h1 ((Below.refl _ w).grown h2 (Nat.le_refl _) (fun k hk => by cases hk))
theorem ext_drop (s : ByteArray) (k : Nat) : (s.extract k s.size).data.toList = s.data.toList.drop k := by
  have hz : s.size = s.data.toList.length := Go.Lib.size_eq s
  rw [ByteArray.data_extract, Array.toList_extract, List.extract_eq_drop_take', List.take_of_length_le (by rw [← hz]; exact Nat.le_refl _)]
/-- what unescape answers -/
def unR (l : List UInt8) : Value := match une l with
  | some p => .tuple #[vs p, .bool true]
  | none => .tuple #[.string ⟨#[]⟩, .bool false]
theorem unR_none {l : List UInt8} (h : une l = none) : unR l = .tuple #[.string ⟨#[]⟩, .bool false] := by unfold unR; rw [h]
theorem unR_some {l p : List UInt8} (h : une l = some p) : unR l = .tuple #[vs p, .bool true] := by unfold unR; rw [h]
set_option maxRecDepth 100000 in
set_option maxHeartbeats 2000000 in
theorem unescape_walk (s0 : ByteArray) (hs : s0.size ≤ 1099511627776) (w : World) : Calls Tryd.prog 16 #[.string s0] w fun e w' => e = .returned (unR s0.data.toList) ∧ Up w w' := by
  obtain ⟨L0, hL0⟩ : ∃ L0, s0.data.toList = L0 := ⟨_, rfl⟩
  have HL0 := Hid.of hL0
  have HSz := Hid.of (show s0.size = L0.length by rw [← hL0]; exact Go.Lib.size_eq s0)
  rw [hL0]
  clear hL0
  go_enter Tryd.func16, Tryd.ntmps16
  go_wp2_with (with_reducible show wpList _ _ _ ({ dst := _, op := Op.makeSlice 53 _ _, type := _, pos := _, after := _, guard := _ } :: _) _ _; refine Shut.out ?_)
  show wpList _ _ _ _ _ _
  refine wpList_mk rfl _ _ rfl .i64 .i64 (s0.size : Int) s0.size rfl rfl rfl (by omega) ?_
  intro w1 o1 u1
  have HO1 := Hid.of o1
  have HU1 := Hid.of u1
  clear o1 u1
  generalize hb0 : w.heap.size = bb at *
  have HBB := Hid.of hb0
  clear hb0
  simp only [Act.put, List.setIfInBounds_toArray]
  go_wp2
  go_loopw [0, 4] (fun v0 v4 wr => ∃ (s : ByteArray) (n : Nat) (a4 : Option Addr) (c4 : Nat) (p : List UInt8), v0 = .string s ∧ v4 = .slice a4 n c4 ∧ List.length p = n ∧ s.size + n ≤ s0.size ∧ Hid (wr.ownsRow bb 5 1 (.slice a4 n c4) n (cb p) ∧ Up w wr ∧ une L0 = (une s.data.toList).map (p ++ ·))) (fun v0 _ _ => match v0 with | .string s => s.size | _ => 0)
  case atStart => exact ⟨s0, 0, some ⟨bb, 0, none⟩, s0.size, [], rfl, rfl, rfl, by omega, Hid.of ⟨HO1.out, HU1.out, by rw [HL0.out]; cases une L0 <;> rfl⟩⟩
  case round =>
    obtain ⟨s, n, a4, c4, p, rfl, rfl, hpn, hsn, hQ⟩ := hrel
    have HQ := Hid.of hQ.out
    have HPN := Hid.of hpn
    clear hQ hpn
    have hbw : bb ≤ wr.heap.size := by have := HQ.out.2.1.size; have := HBB.out; omega
    by_cases h0 : s.size = 0
    · have hse : s.data.toList = [] := List.eq_nil_of_length_eq_zero (by rw [← Go.Lib.size_eq]; exact h0)
      have hnz : (s.toList.isEmpty) = true := by rw [Go.Lib.toList_data, hse]; rfl
      have HE := Hid.of (show unR L0 = .tuple #[vs p, .bool true] from unR_some (by rw [HQ.out.2.2, hse, une]; simp))
      have hSb : Sb wr (.slice a4 n c4) p := by
        have h1 := HQ.out.1
        rw [← HPN.out] at h1 ⊢
        exact Ow.sb (B := bb) h1
      have hcv := conv_sb2 hSb
      clear hSb
      go_wp2
      go_ret2
      rw [HE.out]
      exact ⟨rfl, HQ.out.2.1⟩
    have hnz : (s.toList.isEmpty) = false := by rw [Go.Lib.toList_data]; cases h : s.data.toList with | nil => exact absurd (by rw [Go.Lib.size_eq, h]; rfl) h0 | cons a b => rfl
    have h0z : (0 : Int) < (s.size : Int) := by omega
    obtain ⟨r, hr⟩ := head_of' (s := s) (by omega)
    have hrl : r.length + 1 = s.size := by have := congrArg List.length hr; rw [← Go.Lib.size_eq] at this; simpa using this.symm
    have HR := Hid.of hr
    clear hr
    obtain ⟨c, hc⟩ : ∃ c, s[0] = c := ⟨_, rfl⟩
    rw [hc] at HR
    have h37 : ((c.toNat : Int) == 37) = (c == 37) := u8_eq (a := c) (b := 37)
    by_cases hpc : c = 37
    · have h37t : ((c.toNat : Int) == 37) = true := by rw [h37, beq_iff_eq]; exact hpc
      clear h37
      by_cases h3 : 3 ≤ s.size
      · obtain ⟨x, y, q, hq⟩ : ∃ x y q, r = x :: y :: q := by
          match r, hrl with
          | [], h => simp at h; omega
          | [a], h => simp at h; omega
          | a :: b :: q, _ => exact ⟨a, b, q, rfl⟩
        have hlst : s.data.toList = c :: x :: y :: q := by rw [HR.out, hq]
        have hs1 : s[1] = x := by rw [sget' s 1 (by omega)]; simp [hlst]
        have hs2 : s[2] = y := by rw [sget' s 2 (by omega)]; simp [hlst]
        have HRT := Hid.of (readTriple_walk s h3 wr)
        rw [hs1, hs2] at HRT
        have HLs := Hid.of hlst
        have HDr := Hid.of (show (s.extract 3 s.size).data.toList = q by rw [ext_drop, hlst]; rfl)
        clear hlst hs1 hs2 hq
        cases ht : trk x y with
        | false =>
          have HE := Hid.of (show unR L0 = .tuple #[.string ⟨#[]⟩, .bool false] from unR_none (by rw [HQ.out.2.2, HLs.out, hpc, une_tri_no ht]; rfl))
          rw [ht] at HRT
          go_wp2_with fail
          refine HRT.out.mono ?_
          rintro e w9 ⟨rfl, h9⟩
          obtain rfl := h9.symm
          clear h9
          dsimp only
          go_wp2
          go_ret2
          rw [HE.out]
          exact ⟨rfl, HQ.out.2.1⟩
        | true =>
          have HN := Hid.of (show une s.data.toList = (une (s.extract 3 s.size).data.toList).map (trb x y :: ·) by rw [HDr.out, HLs.out, hpc, une_tri ht])
          rw [ht] at HRT
          generalize trb x y = t at *
          have hz3 : (3 : Int) ≤ (s.size : Int) := by omega
          go_wp2_with fail
          refine HRT.out.mono ?_
          rintro e w9 ⟨rfl, h9⟩
          obtain rfl := h9.symm
          clear h9
          dsimp only
          go_wp2
          refine wp_region_held_drew (S := fun w2 => Up w w2) (by kernel_rfl) HQ.out.2.1.drew (fun hS => ?_)
          refine wpAnyH_take (i := 0) (oi := { dst := some 29, op := Go.Op.move (Go.Operand.tmp 4), type := 53, pos := "target.go:34", after := #[], guard := none }) (v := .slice a4 n c4) rfl (by kernel_rfl) (by kernel_rfl) (by kernel_rfl) (fun _ _ _ h => h) (Or.inl ⟨by kernel_rfl, ?_⟩) hS ?_
          · intro w5 hSw
            clear hSw hS
            go_simp
          simp only [Act.put, List.setIfInBounds_toArray, List.set_cons_zero, List.set_cons_succ]
          refine wpAnyH_take (i := 1) (oi := { dst := some 30, op := Go.Op.move (Go.Operand.tmp 5), type := 5, pos := "target.go:34", after := #[], guard := none }) (v := vb t) rfl (by kernel_rfl) (by kernel_rfl) (by kernel_rfl) (fun _ _ _ h => h) (Or.inl ⟨by kernel_rfl, ?_⟩) hS ?_
          · intro w5 hSw
            clear hSw hS
            go_simp
          simp only [Act.put, List.setIfInBounds_toArray, List.set_cons_zero, List.set_cons_succ]
          refine wpAnyH_take (i := 4) (oi := { dst := some 33, op := Go.Op.move (Go.Operand.tmp 0), type := 9, pos := "target.go:34", after := #[], guard := none }) (v := .string s) rfl (by kernel_rfl) (by kernel_rfl) (by kernel_rfl) (fun _ _ _ h => h) (Or.inl ⟨by kernel_rfl, ?_⟩) hS ?_
          · intro w5 hSw
            clear hSw hS
            go_simp
          simp only [Act.put, List.setIfInBounds_toArray, List.set_cons_zero, List.set_cons_succ]
          refine wpAnyH_take (i := 5) (oi := { dst := some 34, op := Go.Op.move (Go.Operand.tmp 6), type := 3, pos := "target.go:34", after := #[], guard := none }) (v := .int .i64 3) rfl (by kernel_rfl) (by kernel_rfl) (by kernel_rfl) (fun _ _ _ h => h) (Or.inl ⟨by kernel_rfl, ?_⟩) hS ?_
          · intro w5 hSw
            clear hSw hS
            go_simp
          simp only [Act.put, List.setIfInBounds_toArray, List.set_cons_zero, List.set_cons_succ]
          refine wpAnyH_take (i := 6) (oi := { dst := some 35, op := Go.Op.slice 9 (Go.Operand.tmp 33) (some (Go.Operand.tmp 34)) none none, type := 9, pos := "target.go:34", after := #[{ on := 4, ground := Go.Ground.data }, { on := 5, ground := Go.Ground.data }], guard := none }) (v := .string (s.extract 3 s.size)) rfl (by kernel_rfl) (by kernel_rfl) (by kernel_rfl) (fun _ _ _ h => h) (Or.inl ⟨by kernel_rfl, ?_⟩) hS ?_
          · intro w5 hSw
            clear hSw hS
            go_simp
          simp only [Act.put, List.setIfInBounds_toArray, List.set_cons_zero, List.set_cons_succ]
          refine wpAnyH_ready (rs := [2]) (by kernel_rfl) (by simp) ?_
          refine AllReadyH.cons (o := { dst := some 31, op := Go.Op.buildSlice 53 1 #[(0, Go.Operand.tmp 30)], type := 53, pos := "target.go:34", after := #[{ on := 1, ground := Go.Ground.data }], guard := none }) rfl (fun K hK => ?_) AllReadyH.nil
          rw [if_pos (by kernel_rfl)]
          go_simp
          refine hK.out _ _ (hS.alloc _) (fun hS => ?_)
          clear hK K
          refine wpAnyH_ready (rs := [3]) (by kernel_rfl) (by simp) ?_
          refine AllReadyH.cons (o := { dst := some 32, op := Go.Op.call { callee := Go.Callee.builtin Go.Builtin.append, args := #[Go.Operand.tmp 29, Go.Operand.tmp 31], argTypes := #[53, 53] }, type := 53, pos := "target.go:34", after := #[{ on := 0, ground := Go.Ground.data }, { on := 2, ground := Go.Ground.data }], guard := none }) rfl (fun K hK => oper_of_list ?_) AllReadyH.nil
          refine wpList_app1 (w := wr.drew) (N := bb) rfl _ _ rfl a4 c4 p t rfl rfl (ow_up HQ.out.1 (Up.refl _).drew) (by exact hbw) (by omega) ?_
          intro a5 c5 w5 o5 u5 _
          have HO5 := Hid.of o5
          have HU5 := Hid.of (u5 w HQ.out.2.1.drew (by rw [HBB.out]; exact Nat.le_refl _))
          clear o5 u5
          refine hK.out _ _ HU5.out (fun hS => ?_)
          clear hK K
          simp only [Act.put, List.setIfInBounds_toArray, List.set_cons_zero, List.set_cons_succ]
          refine wpAnyH_take (i := 7) (oi := { dst := some 4, op := Go.Op.assign (Go.Operand.tmp 32), type := 53, pos := "target.go:34", after := #[{ on := 3, ground := Go.Ground.data }, { on := 3, ground := Go.Ground.chain }, { on := 0, ground := Go.Ground.phase }, { on := 1, ground := Go.Ground.phase }, { on := 2, ground := Go.Ground.phase }, { on := 3, ground := Go.Ground.phase }, { on := 4, ground := Go.Ground.textOnly Go.Departure.lateStores }, { on := 5, ground := Go.Ground.textOnly Go.Departure.lateStores }, { on := 6, ground := Go.Ground.textOnly Go.Departure.lateStoresUnsure }], guard := none }) (v := .slice a5 (n + 1) c5) rfl (by kernel_rfl) (by kernel_rfl) (by kernel_rfl) (fun _ _ _ h => h) (Or.inl ⟨by kernel_rfl, ?_⟩) hS ?_
          · intro w5 hSw
            clear hSw hS
            go_simp
          simp only [Act.put, List.setIfInBounds_toArray, List.set_cons_zero, List.set_cons_succ]
          refine wpAnyH_take (i := 8) (oi := { dst := some 0, op := Go.Op.assign (Go.Operand.tmp 35), type := 9, pos := "target.go:34", after := #[{ on := 6, ground := Go.Ground.data }, { on := 7, ground := Go.Ground.chain }, { on := 0, ground := Go.Ground.phase }, { on := 1, ground := Go.Ground.phase }, { on := 2, ground := Go.Ground.phase }, { on := 3, ground := Go.Ground.phase }, { on := 4, ground := Go.Ground.phase }, { on := 5, ground := Go.Ground.phase }, { on := 6, ground := Go.Ground.phase }, { on := 7, ground := Go.Ground.phase }], guard := none }) (v := .string (s.extract 3 s.size)) rfl (by kernel_rfl) (by kernel_rfl) (by kernel_rfl) (fun _ _ _ h => h) (Or.inl ⟨by kernel_rfl, ?_⟩) hS ?_
          · intro w5 hSw
            clear hSw hS
            go_simp
          simp only [Act.put, List.setIfInBounds_toArray, List.set_cons_zero]
          clear hS
          refine wpAnyH_done (by kernel_rfl) ?_ _
          go_wp2
          go_roundw
          all_goals first
            | exact ⟨s.extract 3 s.size, n + 1, a5, c5, p ++ [t], rfl, rfl, by rw [List.length_append, HPN.out]; rfl, by rw [ByteArray.size_extract]; omega, Hid.of ⟨HO5.out, HU5.out, by rw [HQ.out.2.2, HN.out]; cases une _ <;> simp⟩⟩
            | (simp only [ByteArray.size_extract]; omega)
      · have HE := Hid.of (show unR L0 = .tuple #[.string ⟨#[]⟩, .bool false] from unR_none (by rw [HQ.out.2.2, HR.out, hpc, une_end (by omega)]; rfl))
        have HRT := Hid.of (readTriple_short s (by omega) wr)
        go_wp2_with fail
        refine HRT.out.mono ?_
        rintro e w9 ⟨rfl, h9⟩
        obtain rfl := h9.symm
        clear h9
        dsimp only
        go_wp2
        go_ret2
        rw [HE.out]
        exact ⟨rfl, HQ.out.2.1⟩
    · have h37t : ((c.toNat : Int) == 37) = false := by rw [h37, beq_eq_false_iff_ne]; exact hpc
      clear h37
      have HP := Hid.of (isPlain_walk c wr)
      cases hpl : pl c with
      | false =>
        have HE := Hid.of (show unR L0 = .tuple #[.string ⟨#[]⟩, .bool false] from unR_none (by rw [HQ.out.2.2, HR.out, une_no hpc hpl]; rfl))
        rw [hpl] at HP
        go_wp2_with fail
        refine HP.out.mono ?_
        rintro e w9 ⟨rfl, h9⟩
        obtain rfl := h9.symm
        clear h9
        dsimp only
        go_wp2
        go_ret2
        rw [HE.out]
        exact ⟨rfl, HQ.out.2.1⟩
      | true =>
        have HN := Hid.of (show une s.data.toList = (une (s.extract 1 s.size).data.toList).map (c :: ·) by rw [ext_drop, HR.out, une_pl hpc hpl]; rfl)
        rw [hpl] at HP
        have hz1 : (1 : Int) ≤ (s.size : Int) := by omega
        go_wp2_with fail
        refine HP.out.mono ?_
        rintro e w9 ⟨rfl, h9⟩
        obtain rfl := h9.symm
        clear h9
        dsimp only
        go_wp2
        refine wp_region_held_drew (S := fun w2 => Up w w2) (by kernel_rfl) HQ.out.2.1.drew (fun hS => ?_)
        refine wpAnyH_take (i := 0) (oi := { dst := some 29, op := Go.Op.move (Go.Operand.tmp 4), type := 53, pos := "target.go:34", after := #[], guard := none }) (v := .slice a4 n c4) rfl (by kernel_rfl) (by kernel_rfl) (by kernel_rfl) (fun _ _ _ h => h) (Or.inl ⟨by kernel_rfl, ?_⟩) hS ?_
        · intro w5 hSw
          clear hSw hS
          go_simp
        simp only [Act.put, List.setIfInBounds_toArray, List.set_cons_zero, List.set_cons_succ]
        refine wpAnyH_take (i := 1) (oi := { dst := some 30, op := Go.Op.move (Go.Operand.tmp 5), type := 5, pos := "target.go:34", after := #[], guard := none }) (v := vb c) rfl (by kernel_rfl) (by kernel_rfl) (by kernel_rfl) (fun _ _ _ h => h) (Or.inl ⟨by kernel_rfl, ?_⟩) hS ?_
        · intro w5 hSw
          clear hSw hS
          go_simp
        simp only [Act.put, List.setIfInBounds_toArray, List.set_cons_zero, List.set_cons_succ]
        refine wpAnyH_take (i := 4) (oi := { dst := some 33, op := Go.Op.move (Go.Operand.tmp 0), type := 9, pos := "target.go:34", after := #[], guard := none }) (v := .string s) rfl (by kernel_rfl) (by kernel_rfl) (by kernel_rfl) (fun _ _ _ h => h) (Or.inl ⟨by kernel_rfl, ?_⟩) hS ?_
        · intro w5 hSw
          clear hSw hS
          go_simp
        simp only [Act.put, List.setIfInBounds_toArray, List.set_cons_zero, List.set_cons_succ]
        refine wpAnyH_take (i := 5) (oi := { dst := some 34, op := Go.Op.move (Go.Operand.tmp 6), type := 3, pos := "target.go:34", after := #[], guard := none }) (v := .int .i64 1) rfl (by kernel_rfl) (by kernel_rfl) (by kernel_rfl) (fun _ _ _ h => h) (Or.inl ⟨by kernel_rfl, ?_⟩) hS ?_
        · intro w5 hSw
          clear hSw hS
          go_simp
        simp only [Act.put, List.setIfInBounds_toArray, List.set_cons_zero, List.set_cons_succ]
        refine wpAnyH_take (i := 6) (oi := { dst := some 35, op := Go.Op.slice 9 (Go.Operand.tmp 33) (some (Go.Operand.tmp 34)) none none, type := 9, pos := "target.go:34", after := #[{ on := 4, ground := Go.Ground.data }, { on := 5, ground := Go.Ground.data }], guard := none }) (v := .string (s.extract 1 s.size)) rfl (by kernel_rfl) (by kernel_rfl) (by kernel_rfl) (fun _ _ _ h => h) (Or.inl ⟨by kernel_rfl, ?_⟩) hS ?_
        · intro w5 hSw
          clear hSw hS
          go_simp
        simp only [Act.put, List.setIfInBounds_toArray, List.set_cons_zero, List.set_cons_succ]
        refine wpAnyH_ready (rs := [2]) (by kernel_rfl) (by simp) ?_
        refine AllReadyH.cons (o := { dst := some 31, op := Go.Op.buildSlice 53 1 #[(0, Go.Operand.tmp 30)], type := 53, pos := "target.go:34", after := #[{ on := 1, ground := Go.Ground.data }], guard := none }) rfl (fun K hK => ?_) AllReadyH.nil
        rw [if_pos (by kernel_rfl)]
        go_simp
        refine hK.out _ _ (hS.alloc _) (fun hS => ?_)
        clear hK K
        refine wpAnyH_ready (rs := [3]) (by kernel_rfl) (by simp) ?_
        refine AllReadyH.cons (o := { dst := some 32, op := Go.Op.call { callee := Go.Callee.builtin Go.Builtin.append, args := #[Go.Operand.tmp 29, Go.Operand.tmp 31], argTypes := #[53, 53] }, type := 53, pos := "target.go:34", after := #[{ on := 0, ground := Go.Ground.data }, { on := 2, ground := Go.Ground.data }], guard := none }) rfl (fun K hK => oper_of_list ?_) AllReadyH.nil
        refine wpList_app1 (w := wr.drew) (N := bb) rfl _ _ rfl a4 c4 p c rfl rfl (ow_up HQ.out.1 (Up.refl _).drew) (by exact hbw) (by omega) ?_
        intro a5 c5 w5 o5 u5 _
        have HO5 := Hid.of o5
        have HU5 := Hid.of (u5 w HQ.out.2.1.drew (by rw [HBB.out]; exact Nat.le_refl _))
        clear o5 u5
        refine hK.out _ _ HU5.out (fun hS => ?_)
        clear hK K
        simp only [Act.put, List.setIfInBounds_toArray, List.set_cons_zero, List.set_cons_succ]
        refine wpAnyH_take (i := 7) (oi := { dst := some 4, op := Go.Op.assign (Go.Operand.tmp 32), type := 53, pos := "target.go:34", after := #[{ on := 3, ground := Go.Ground.data }, { on := 3, ground := Go.Ground.chain }, { on := 0, ground := Go.Ground.phase }, { on := 1, ground := Go.Ground.phase }, { on := 2, ground := Go.Ground.phase }, { on := 3, ground := Go.Ground.phase }, { on := 4, ground := Go.Ground.textOnly Go.Departure.lateStores }, { on := 5, ground := Go.Ground.textOnly Go.Departure.lateStores }, { on := 6, ground := Go.Ground.textOnly Go.Departure.lateStoresUnsure }], guard := none }) (v := .slice a5 (n + 1) c5) rfl (by kernel_rfl) (by kernel_rfl) (by kernel_rfl) (fun _ _ _ h => h) (Or.inl ⟨by kernel_rfl, ?_⟩) hS ?_
        · intro w5 hSw
          clear hSw hS
          go_simp
        simp only [Act.put, List.setIfInBounds_toArray, List.set_cons_zero, List.set_cons_succ]
        refine wpAnyH_take (i := 8) (oi := { dst := some 0, op := Go.Op.assign (Go.Operand.tmp 35), type := 9, pos := "target.go:34", after := #[{ on := 6, ground := Go.Ground.data }, { on := 7, ground := Go.Ground.chain }, { on := 0, ground := Go.Ground.phase }, { on := 1, ground := Go.Ground.phase }, { on := 2, ground := Go.Ground.phase }, { on := 3, ground := Go.Ground.phase }, { on := 4, ground := Go.Ground.phase }, { on := 5, ground := Go.Ground.phase }, { on := 6, ground := Go.Ground.phase }, { on := 7, ground := Go.Ground.phase }], guard := none }) (v := .string (s.extract 1 s.size)) rfl (by kernel_rfl) (by kernel_rfl) (by kernel_rfl) (fun _ _ _ h => h) (Or.inl ⟨by kernel_rfl, ?_⟩) hS ?_
        · intro w5 hSw
          clear hSw hS
          go_simp
        simp only [Act.put, List.setIfInBounds_toArray, List.set_cons_zero]
        clear hS
        refine wpAnyH_done (by kernel_rfl) ?_ _
        go_wp2
        go_roundw
        all_goals first
          | exact ⟨s.extract 1 s.size, n + 1, a5, c5, p ++ [c], rfl, rfl, by rw [List.length_append, HPN.out]; rfl, by rw [ByteArray.size_extract]; omega, Hid.of ⟨HO5.out, HU5.out, by rw [HQ.out.2.2, HN.out]; cases une _ <;> simp⟩⟩
          | (simp only [ByteArray.size_extract]; omega)
end Go.Proofs.YtdgpnppnjkpfoaaDoor
