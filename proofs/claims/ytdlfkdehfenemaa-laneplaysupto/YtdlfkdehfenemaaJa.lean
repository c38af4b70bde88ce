import Derived.Test.YtdlfkdehfenemaaGa
namespace Go.Proofs.Ytdlfkdehfenemaa
open Go.RowKit Go.Conc TextNum
/-- a list of fates as the law is given it -/
def FR (w : World) (v : Value) (fs : List (Int × Int)) : Prop := ∃ a c, v = .slice a fs.length c ∧ fs.length ≤ c ∧ ∀ j (h : j < fs.length), ∃ b o, a = some ⟨b, o, none⟩ ∧ w.rangeAt b (o + j * 2) (fc fs[j])
theorem infoRFate : (Try.prog.info? 97).map (fun i => (i.zero, i.size, i.bytes)) = some (some (.agg #[.int .i64 0, .int .i64 0]), 2, 16) := by kernel_rfl
/-- the fates of both sides, as lists of one's own -/
structure FB (w wr : World) (B : Nat) (v u : Value) (fs : List (Int × Int)) : Prop where
  a : wr.ownsRow B 58 2 v fs.length (fs.flatMap fc)
  b : wr.ownsRow B 97 2 u fs.length (fs.flatMap fc)
  up : Up w wr
/-- with one more on the first side -/
structure FH (w wr : World) (B : Nat) (v u : Value) (fs : List (Int × Int)) (f : Int × Int) : Prop where
  a : wr.ownsRow B 58 2 v (fs.length + 1) (fs.flatMap fc ++ fc f)
  b : wr.ownsRow B 97 2 u fs.length (fs.flatMap fc)
  up : Up w wr
theorem flat_snoc (fs : List (Int × Int)) (f : Int × Int) : (fs ++ [f]).flatMap fc = fs.flatMap fc ++ fc f := by simp
set_option maxRecDepth 100000 in
set_option maxHeartbeats 4000000 in
theorem fates_walk (w : World) (v : Value) (fs : List (Int × Int)) (h : FR w v fs) (hl : fs.length * 16 ≤ 140737488351232) :
    Calls Try.prog 32 #[v] w fun e w' => ∃ va vb, e = .returned (.tuple #[va, vb]) ∧ FB w w' w.heap.size va vb fs := by
  obtain ⟨ia, iaa, iab, iac, iad⟩ := info_parts infoFate
  obtain ⟨ib, iba, ibb, ibc, ibd⟩ := info_parts infoRFate
  obtain ⟨a, c, rfl, hc, hcell⟩ := h
  have HC := Hid.of hcell
  obtain ⟨n, hn⟩ : ∃ n, fs.length = n := ⟨_, rfl⟩
  have HNN := Hid.of (And.intro hn trivial)
  rw [hn] at hc hl ⊢
  clear hcell hn
  go_enter Try.func32, Try.ntmps32
  go_wp2
  go_loopw [4, 5, 6] (fun v4 v5 v6 wr => ∃ j : Nat, v6 = .int .i64 (j : Int) ∧ j ≤ n ∧ Hid (FB w wr w.heap.size v4 v5 (fs.take j))) (fun _ _ v6 _ => n - (intOf v6).toNat)
  case atStart => exact ⟨0, rfl, by omega, Hid.of ⟨World.ownsRow_nil _ _ _ _, World.ownsRow_nil _ _ _ _, Up.refl _⟩⟩
  case round =>
    obtain ⟨j, rfl, hjn, HK⟩ := hrel
    by_cases hlt : j < n
    · have hltz : (j : Int) < (n : Int) := by omega
      have hcz : (n : Int) ≤ (c : Int) := by omega
      have hjw : IntKind.i64.wrap ((j : Int) + 1) = (j : Int) + 1 := by rw [IntKind.wrap_i64]; omega
      have hj : j < fs.length := by rw [HNN.out.1]; exact hlt
      obtain ⟨q, hq⟩ : ∃ q, fs[j] = q := ⟨_, rfl⟩
      obtain ⟨b, o, rfl, hrg⟩ := HC.out j hj
      rw [hq] at hrg
      have HTS := Hid.of (And.intro (show fs.take (j + 1) = fs.take j ++ [q] by rw [List.take_succ_eq_append_getElem hj, hq]) trivial)
      have HTL := Hid.of (show (fs.take j).length = j by rw [List.length_take]; omega)
      obtain ⟨qk, qn⟩ := q
      have HRG := Hid.of (show w.rangeAt b (o + j * 2) [.int .i64 qk, .int .i64 qn] from hrg)
      clear hq hrg
      go_wp2_with fail
      refine wp_region_held_drew (S := fun w2 => Up w w2) (by kernel_rfl) HK.out.up.drew (fun hS => ?_)
      refine wpAnyH_take (i := 0) (oi := { dst := some 13, op := Go.Op.move (Go.Operand.tmp 4), type := 59, pos := "law.go:63", after := #[], guard := none }) (v := u4) rfl (by kernel_rfl) (by kernel_rfl) (by kernel_rfl) (fun _ _ _ h => h) (Or.inl ⟨by kernel_rfl, ?_⟩) hS ?_
      · intro w5 hSw
        clear hSw hS
        go_simp
      simp only [Act.put, List.setIfInBounds_toArray, List.set_cons_zero, List.set_cons_succ]
      refine wpAnyH_take (i := 1) (oi := { dst := some 14, op := Go.Op.move (Go.Operand.tmp 0), type := 28, pos := "law.go:63", after := #[], guard := none }) (v := .slice (some ⟨b, o, none⟩) n c) rfl (by kernel_rfl) (by kernel_rfl) (by kernel_rfl) (fun _ _ _ h => h) (Or.inl ⟨by kernel_rfl, ?_⟩) hS ?_
      · intro w5 hSw
        clear hSw hS
        go_simp
      simp only [Act.put, List.setIfInBounds_toArray, List.set_cons_zero, List.set_cons_succ]
      refine wpAnyH_take (i := 2) (oi := { dst := some 15, op := Go.Op.move (Go.Operand.tmp 6), type := 3, pos := "law.go:63", after := #[], guard := none }) (v := .int .i64 (j : Int)) rfl (by kernel_rfl) (by kernel_rfl) (by kernel_rfl) (fun _ _ _ h => h) (Or.inl ⟨by kernel_rfl, ?_⟩) hS ?_
      · intro w5 hSw
        clear hSw hS
        go_simp
      simp only [Act.put, List.setIfInBounds_toArray, List.set_cons_zero, List.set_cons_succ]
      refine wpAnyH_take (i := 3) (oi := { dst := some 16, op := Go.Op.indexAddr 28 (Go.Operand.tmp 14) (Go.Operand.tmp 15), type := 0, pos := "law.go:63", after := #[{ on := 1, ground := Go.Ground.data }, { on := 2, ground := Go.Ground.data }], guard := none }) (v := .pointer (some ⟨b, o + j * 2, none⟩)) rfl (by kernel_rfl) (by kernel_rfl) (by kernel_rfl) (fun _ _ _ h => h) (Or.inl ⟨by kernel_rfl, ?_⟩) hS ?_
      · intro w5 hSw
        clear hSw hS
        go_simp
      simp only [Act.put, List.setIfInBounds_toArray, List.set_cons_zero, List.set_cons_succ]
      refine wpAnyH_take (i := 4) (oi := { dst := some 17, op := Go.Op.fieldAddr 63 (Go.Operand.tmp 16) 0, type := 0, pos := "law.go:63", after := #[{ on := 3, ground := Go.Ground.data }], guard := none }) (v := .pointer (some ⟨b, o + j * 2, none⟩)) rfl (by kernel_rfl) (by kernel_rfl) (by kernel_rfl) (fun _ _ _ h => h) (Or.inl ⟨by kernel_rfl, ?_⟩) hS ?_
      · intro w5 hSw
        clear hSw hS
        go_simp
      simp only [Act.put, List.setIfInBounds_toArray, List.set_cons_zero, List.set_cons_succ]
      refine wpAnyH_take (i := 5) (oi := { dst := some 18, op := Go.Op.load 3 (Go.Operand.tmp 17), type := 3, pos := "law.go:63", after := #[{ on := 4, ground := Go.Ground.data }], guard := none }) (v := .int .i64 qk) rfl (by kernel_rfl) (by kernel_rfl) (by kernel_rfl) (fun _ _ _ h => h) (Or.inl ⟨by kernel_rfl, ?_⟩) hS ?_
      · intro w5 hSw
        have hc : w5.cell? ⟨b, o + j * 2, none⟩ = some (.int .i64 qk) := (range_up' HRG.out hSw) 0 _ rfl
        clear hSw hS
        go_simp
      simp only [Act.put, List.setIfInBounds_toArray, List.set_cons_zero, List.set_cons_succ]
      refine wpAnyH_take (i := 6) (oi := { dst := some 19, op := Go.Op.move (Go.Operand.tmp 0), type := 28, pos := "law.go:63", after := #[], guard := none }) (v := .slice (some ⟨b, o, none⟩) n c) rfl (by kernel_rfl) (by kernel_rfl) (by kernel_rfl) (fun _ _ _ h => h) (Or.inl ⟨by kernel_rfl, ?_⟩) hS ?_
      · intro w5 hSw
        clear hSw hS
        go_simp
      simp only [Act.put, List.setIfInBounds_toArray, List.set_cons_zero, List.set_cons_succ]
      refine wpAnyH_take (i := 7) (oi := { dst := some 20, op := Go.Op.move (Go.Operand.tmp 6), type := 3, pos := "law.go:63", after := #[], guard := none }) (v := .int .i64 (j : Int)) rfl (by kernel_rfl) (by kernel_rfl) (by kernel_rfl) (fun _ _ _ h => h) (Or.inl ⟨by kernel_rfl, ?_⟩) hS ?_
      · intro w5 hSw
        clear hSw hS
        go_simp
      simp only [Act.put, List.setIfInBounds_toArray, List.set_cons_zero, List.set_cons_succ]
      refine wpAnyH_take (i := 8) (oi := { dst := some 21, op := Go.Op.indexAddr 28 (Go.Operand.tmp 19) (Go.Operand.tmp 20), type := 0, pos := "law.go:63", after := #[{ on := 6, ground := Go.Ground.data }, { on := 7, ground := Go.Ground.data }], guard := none }) (v := .pointer (some ⟨b, o + j * 2, none⟩)) rfl (by kernel_rfl) (by kernel_rfl) (by kernel_rfl) (fun _ _ _ h => h) (Or.inl ⟨by kernel_rfl, ?_⟩) hS ?_
      · intro w5 hSw
        clear hSw hS
        go_simp
      simp only [Act.put, List.setIfInBounds_toArray, List.set_cons_zero, List.set_cons_succ]
      refine wpAnyH_take (i := 9) (oi := { dst := some 22, op := Go.Op.fieldAddr 63 (Go.Operand.tmp 21) 1, type := 0, pos := "law.go:63", after := #[{ on := 8, ground := Go.Ground.data }], guard := none }) (v := .pointer (some ⟨b, o + j * 2 + 1, none⟩)) rfl (by kernel_rfl) (by kernel_rfl) (by kernel_rfl) (fun _ _ _ h => h) (Or.inl ⟨by kernel_rfl, ?_⟩) hS ?_
      · intro w5 hSw
        clear hSw hS
        go_simp
      simp only [Act.put, List.setIfInBounds_toArray, List.set_cons_zero, List.set_cons_succ]
      refine wpAnyH_take (i := 10) (oi := { dst := some 23, op := Go.Op.load 3 (Go.Operand.tmp 22), type := 3, pos := "law.go:63", after := #[{ on := 9, ground := Go.Ground.data }], guard := none }) (v := .int .i64 qn) rfl (by kernel_rfl) (by kernel_rfl) (by kernel_rfl) (fun _ _ _ h => h) (Or.inl ⟨by kernel_rfl, ?_⟩) hS ?_
      · intro w5 hSw
        have hc : w5.cell? ⟨b, o + j * 2 + 1, none⟩ = some (.int .i64 qn) := (range_up' HRG.out hSw) 1 _ rfl
        clear hSw hS
        go_simp
      simp only [Act.put, List.setIfInBounds_toArray, List.set_cons_zero, List.set_cons_succ]
      refine wpAnyH_take (i := 11) (oi := { dst := some 24, op := Go.Op.build 58 #[(0, Go.Operand.tmp 18), (1, Go.Operand.tmp 23)], type := 58, pos := "law.go:63", after := #[{ on := 5, ground := Go.Ground.data }, { on := 10, ground := Go.Ground.data }], guard := none }) (v := .agg #[.int .i64 qk, .int .i64 qn]) rfl (by kernel_rfl) (by kernel_rfl) (by kernel_rfl) (fun _ _ _ h => h) (Or.inl ⟨by kernel_rfl, ?_⟩) hS ?_
      · intro w5 hSw
        clear hSw hS
        go_simp
      simp only [Act.put, List.setIfInBounds_toArray, List.set_cons_zero, List.set_cons_succ]
      refine wpAnyH_ready (rs := [12]) (by kernel_rfl) (by simp) ?_
      refine AllReadyH.cons (o := { dst := some 25, op := Go.Op.buildSlice 59 1 #[(0, Go.Operand.tmp 24)], type := 59, pos := "law.go:63", after := #[{ on := 11, ground := Go.Ground.data }], guard := none }) rfl (fun K hK => ?_) AllReadyH.nil
      rw [if_pos (by kernel_rfl)]
      go_simp
      have HU4 := Hid.of (((Up.refl wr).alloc (.cells #[.int .i64 qk, .int .i64 qn] 58)).drew)
      generalize hW4 : (wr.alloc (.cells #[.int .i64 qk, .int .i64 qn] 58)).drew = W4 at *
      have HA4' : Hid (At W4 wr.heap.size 58 [.int .i64 qk, .int .i64 qn]) := by
        rw [← hW4]
        exact Hid.of ((at_new wr 58 [.int .i64 qk, .int .i64 qn]).up (Up.refl _).drew)
      clear hW4
      refine hK.out _ _ (HK.out.up.trans HU4.out) (fun hS2 => ?_)
      clear hK K hS
      have hS := hS2
      clear hS2
      refine wpAnyH_ready (rs := [13]) (by kernel_rfl) (by simp) ?_
      refine AllReadyH.cons (o := { dst := some 26, op := Go.Op.call { callee := Go.Callee.builtin Go.Builtin.append, args := #[Go.Operand.tmp 13, Go.Operand.tmp 25], argTypes := #[59, 59] }, type := 59, pos := "law.go:63", after := #[{ on := 0, ground := Go.Ground.data }, { on := 12, ground := Go.Ground.data }], guard := none }) rfl (fun K hK => ?_) AllReadyH.nil
      rw [if_pos (by kernel_rfl)]
      obtain ⟨v5, w5, hap, ho5, hg5, hfr5⟩ := run_append_frsN (P := Try.prog) W4 w.heap.size 59 59 58 ia (.agg #[.int .i64 0, .int .i64 0]) 2 16 Try.underlying59 iaa iab iac iad rfl (by decide) u4 _ _ (ow_up HK.out.a HU4.out) ⟨wr.heap.size, 0, none⟩ 1 1 [.int .i64 qk, .int .i64 qn] rfl (fun j u hu => by rw [Addr.add_lit, Nat.zero_add]; exact HA4'.out.cell hu) (fun u hu => by
        simp only [List.mem_cons, List.not_mem_nil, or_false] at hu
        rcases hu with rfl | rfl <;> rfl) (by have h1 := HTL.out; simp only [maxLen]; omega) (by have h1 := HTL.out; omega) (HK.out.up.trans HU4.out).size
      have HOO := Hid.of (World.ownsRow.kept (ow_up HK.out.b HU4.out) hg5 (own_off (ow_up HK.out.b HU4.out) (ow_up HK.out.a HU4.out) (by decide)))
      have HUU := Hid.of ((HK.out.up.trans HU4.out).by hg5 (fun g hg => (HK.out.a.lt g hg).1))
      have HMM := Hid.of ho5
      clear ho5 hg5 hfr5
      refine wp_app (v := u4) (y := .slice (some ⟨wr.heap.size, 0, none⟩) 1 1) rfl rfl rfl hap ?_
      simp only [Act.put, List.setIfInBounds_toArray, List.set_cons_zero, List.set_cons_succ]
      refine hK.out _ _ HUU.out (fun hS2 => ?_)
      clear hK K hS hap HA4' HU4
      have hS := hS2
      clear hS2
      refine wpAnyH_ready (rs := [14]) (by kernel_rfl) (by simp) ?_
      refine AllReadyH.cons (o := { dst := some 4, op := Go.Op.assign (Go.Operand.tmp 26), type := 59, pos := "law.go:63", after := #[{ on := 13, ground := Go.Ground.data }, { on := 13, ground := Go.Ground.chain }, { on := 0, ground := Go.Ground.phase }, { on := 1, ground := Go.Ground.phase }, { on := 2, ground := Go.Ground.phase }, { on := 3, ground := Go.Ground.phase }, { on := 4, ground := Go.Ground.phase }, { on := 5, ground := Go.Ground.phase }, { on := 6, ground := Go.Ground.phase }, { on := 7, ground := Go.Ground.phase }, { on := 8, ground := Go.Ground.phase }, { on := 9, ground := Go.Ground.phase }, { on := 10, ground := Go.Ground.phase }, { on := 11, ground := Go.Ground.phase }, { on := 12, ground := Go.Ground.phase }, { on := 13, ground := Go.Ground.phase }], guard := none }) rfl (fun K hK => ?_) AllReadyH.nil
      rw [if_pos (by kernel_rfl)]
      go_simp
      refine hK.out _ _ hS (fun hS2 => ?_)
      clear hK K hS hS2
      refine wpAnyH_done (by kernel_rfl) ?_ _
      have HH := Hid.of (show FH w w5 w.heap.size v5 u5 (fs.take j) (qk, qn) from ⟨HMM.out, HOO.out, HUU.out⟩)
      clear HK HMM HOO HUU
      go_wp2_with fail
      refine wp_region_held_drew (S := fun w2 => Up w w2) (by kernel_rfl) HH.out.up.drew (fun hS => ?_)
      refine wpAnyH_take (i := 0) (oi := { dst := some 27, op := Go.Op.move (Go.Operand.tmp 5), type := 92, pos := "law.go:64", after := #[], guard := none }) (v := u5) rfl (by kernel_rfl) (by kernel_rfl) (by kernel_rfl) (fun _ _ _ h => h) (Or.inl ⟨by kernel_rfl, ?_⟩) hS ?_
      · intro w5 hSw
        clear hSw hS
        go_simp
      simp only [Act.put, List.setIfInBounds_toArray, List.set_cons_zero, List.set_cons_succ]
      refine wpAnyH_take (i := 1) (oi := { dst := some 28, op := Go.Op.move (Go.Operand.tmp 0), type := 28, pos := "law.go:64", after := #[], guard := none }) (v := .slice (some ⟨b, o, none⟩) n c) rfl (by kernel_rfl) (by kernel_rfl) (by kernel_rfl) (fun _ _ _ h => h) (Or.inl ⟨by kernel_rfl, ?_⟩) hS ?_
      · intro w5 hSw
        clear hSw hS
        go_simp
      simp only [Act.put, List.setIfInBounds_toArray, List.set_cons_zero, List.set_cons_succ]
      refine wpAnyH_take (i := 2) (oi := { dst := some 29, op := Go.Op.move (Go.Operand.tmp 6), type := 3, pos := "law.go:64", after := #[], guard := none }) (v := .int .i64 (j : Int)) rfl (by kernel_rfl) (by kernel_rfl) (by kernel_rfl) (fun _ _ _ h => h) (Or.inl ⟨by kernel_rfl, ?_⟩) hS ?_
      · intro w5 hSw
        clear hSw hS
        go_simp
      simp only [Act.put, List.setIfInBounds_toArray, List.set_cons_zero, List.set_cons_succ]
      refine wpAnyH_take (i := 3) (oi := { dst := some 30, op := Go.Op.indexAddr 28 (Go.Operand.tmp 28) (Go.Operand.tmp 29), type := 0, pos := "law.go:64", after := #[{ on := 1, ground := Go.Ground.data }, { on := 2, ground := Go.Ground.data }], guard := none }) (v := .pointer (some ⟨b, o + j * 2, none⟩)) rfl (by kernel_rfl) (by kernel_rfl) (by kernel_rfl) (fun _ _ _ h => h) (Or.inl ⟨by kernel_rfl, ?_⟩) hS ?_
      · intro w5 hSw
        clear hSw hS
        go_simp
      simp only [Act.put, List.setIfInBounds_toArray, List.set_cons_zero, List.set_cons_succ]
      refine wpAnyH_take (i := 4) (oi := { dst := some 31, op := Go.Op.fieldAddr 63 (Go.Operand.tmp 30) 0, type := 0, pos := "law.go:64", after := #[{ on := 3, ground := Go.Ground.data }], guard := none }) (v := .pointer (some ⟨b, o + j * 2, none⟩)) rfl (by kernel_rfl) (by kernel_rfl) (by kernel_rfl) (fun _ _ _ h => h) (Or.inl ⟨by kernel_rfl, ?_⟩) hS ?_
      · intro w5 hSw
        clear hSw hS
        go_simp
      simp only [Act.put, List.setIfInBounds_toArray, List.set_cons_zero, List.set_cons_succ]
      refine wpAnyH_take (i := 5) (oi := { dst := some 32, op := Go.Op.load 3 (Go.Operand.tmp 31), type := 3, pos := "law.go:64", after := #[{ on := 4, ground := Go.Ground.data }], guard := none }) (v := .int .i64 qk) rfl (by kernel_rfl) (by kernel_rfl) (by kernel_rfl) (fun _ _ _ h => h) (Or.inl ⟨by kernel_rfl, ?_⟩) hS ?_
      · intro w5 hSw
        have hc : w5.cell? ⟨b, o + j * 2, none⟩ = some (.int .i64 qk) := (range_up' HRG.out hSw) 0 _ rfl
        clear hSw hS
        go_simp
      simp only [Act.put, List.setIfInBounds_toArray, List.set_cons_zero, List.set_cons_succ]
      refine wpAnyH_take (i := 6) (oi := { dst := some 33, op := Go.Op.move (Go.Operand.tmp 0), type := 28, pos := "law.go:64", after := #[], guard := none }) (v := .slice (some ⟨b, o, none⟩) n c) rfl (by kernel_rfl) (by kernel_rfl) (by kernel_rfl) (fun _ _ _ h => h) (Or.inl ⟨by kernel_rfl, ?_⟩) hS ?_
      · intro w5 hSw
        clear hSw hS
        go_simp
      simp only [Act.put, List.setIfInBounds_toArray, List.set_cons_zero, List.set_cons_succ]
      refine wpAnyH_take (i := 7) (oi := { dst := some 34, op := Go.Op.move (Go.Operand.tmp 6), type := 3, pos := "law.go:64", after := #[], guard := none }) (v := .int .i64 (j : Int)) rfl (by kernel_rfl) (by kernel_rfl) (by kernel_rfl) (fun _ _ _ h => h) (Or.inl ⟨by kernel_rfl, ?_⟩) hS ?_
      · intro w5 hSw
        clear hSw hS
        go_simp
      simp only [Act.put, List.setIfInBounds_toArray, List.set_cons_zero, List.set_cons_succ]
      refine wpAnyH_take (i := 8) (oi := { dst := some 35, op := Go.Op.indexAddr 28 (Go.Operand.tmp 33) (Go.Operand.tmp 34), type := 0, pos := "law.go:64", after := #[{ on := 6, ground := Go.Ground.data }, { on := 7, ground := Go.Ground.data }], guard := none }) (v := .pointer (some ⟨b, o + j * 2, none⟩)) rfl (by kernel_rfl) (by kernel_rfl) (by kernel_rfl) (fun _ _ _ h => h) (Or.inl ⟨by kernel_rfl, ?_⟩) hS ?_
      · intro w5 hSw
        clear hSw hS
        go_simp
      simp only [Act.put, List.setIfInBounds_toArray, List.set_cons_zero, List.set_cons_succ]
      refine wpAnyH_take (i := 9) (oi := { dst := some 36, op := Go.Op.fieldAddr 63 (Go.Operand.tmp 35) 1, type := 0, pos := "law.go:64", after := #[{ on := 8, ground := Go.Ground.data }], guard := none }) (v := .pointer (some ⟨b, o + j * 2 + 1, none⟩)) rfl (by kernel_rfl) (by kernel_rfl) (by kernel_rfl) (fun _ _ _ h => h) (Or.inl ⟨by kernel_rfl, ?_⟩) hS ?_
      · intro w5 hSw
        clear hSw hS
        go_simp
      simp only [Act.put, List.setIfInBounds_toArray, List.set_cons_zero, List.set_cons_succ]
      refine wpAnyH_take (i := 10) (oi := { dst := some 37, op := Go.Op.load 3 (Go.Operand.tmp 36), type := 3, pos := "law.go:64", after := #[{ on := 9, ground := Go.Ground.data }], guard := none }) (v := .int .i64 qn) rfl (by kernel_rfl) (by kernel_rfl) (by kernel_rfl) (fun _ _ _ h => h) (Or.inl ⟨by kernel_rfl, ?_⟩) hS ?_
      · intro w5 hSw
        have hc : w5.cell? ⟨b, o + j * 2 + 1, none⟩ = some (.int .i64 qn) := (range_up' HRG.out hSw) 1 _ rfl
        clear hSw hS
        go_simp
      simp only [Act.put, List.setIfInBounds_toArray, List.set_cons_zero, List.set_cons_succ]
      refine wpAnyH_take (i := 11) (oi := { dst := some 38, op := Go.Op.build 97 #[(0, Go.Operand.tmp 32), (1, Go.Operand.tmp 37)], type := 97, pos := "law.go:64", after := #[{ on := 5, ground := Go.Ground.data }, { on := 10, ground := Go.Ground.data }], guard := none }) (v := .agg #[.int .i64 qk, .int .i64 qn]) rfl (by kernel_rfl) (by kernel_rfl) (by kernel_rfl) (fun _ _ _ h => h) (Or.inl ⟨by kernel_rfl, ?_⟩) hS ?_
      · intro w5 hSw
        clear hSw hS
        go_simp
      simp only [Act.put, List.setIfInBounds_toArray, List.set_cons_zero, List.set_cons_succ]
      refine wpAnyH_ready (rs := [12]) (by kernel_rfl) (by simp) ?_
      refine AllReadyH.cons (o := { dst := some 39, op := Go.Op.buildSlice 92 1 #[(0, Go.Operand.tmp 38)], type := 92, pos := "law.go:64", after := #[{ on := 11, ground := Go.Ground.data }], guard := none }) rfl (fun K hK => ?_) AllReadyH.nil
      rw [if_pos (by kernel_rfl)]
      go_simp
      have HU4 := Hid.of (((Up.refl w5).alloc (.cells #[.int .i64 qk, .int .i64 qn] 97)).drew)
      generalize hW4 : (w5.alloc (.cells #[.int .i64 qk, .int .i64 qn] 97)).drew = W4 at *
      have HA4' : Hid (At W4 w5.heap.size 97 [.int .i64 qk, .int .i64 qn]) := by
        rw [← hW4]
        exact Hid.of ((at_new w5 97 [.int .i64 qk, .int .i64 qn]).up (Up.refl _).drew)
      clear hW4
      refine hK.out _ _ (HH.out.up.trans HU4.out) (fun hS2 => ?_)
      clear hK K hS
      have hS := hS2
      clear hS2
      refine wpAnyH_ready (rs := [13]) (by kernel_rfl) (by simp) ?_
      refine AllReadyH.cons (o := { dst := some 40, op := Go.Op.call { callee := Go.Callee.builtin Go.Builtin.append, args := #[Go.Operand.tmp 27, Go.Operand.tmp 39], argTypes := #[92, 92] }, type := 92, pos := "law.go:64", after := #[{ on := 0, ground := Go.Ground.data }, { on := 12, ground := Go.Ground.data }], guard := none }) rfl (fun K hK => ?_) AllReadyH.nil
      rw [if_pos (by kernel_rfl)]
      obtain ⟨v6, w6, hap, ho5, hg5, hfr5⟩ := run_append_frsN (P := Try.prog) W4 w.heap.size 92 92 97 ib (.agg #[.int .i64 0, .int .i64 0]) 2 16 Try.underlying92 iba ibb ibc ibd rfl (by decide) u5 _ _ (ow_up HH.out.b HU4.out) ⟨w5.heap.size, 0, none⟩ 1 1 [.int .i64 qk, .int .i64 qn] rfl (fun j u hu => by rw [Addr.add_lit, Nat.zero_add]; exact HA4'.out.cell hu) (fun u hu => by
        simp only [List.mem_cons, List.not_mem_nil, or_false] at hu
        rcases hu with rfl | rfl <;> rfl) (by have h1 := HTL.out; simp only [maxLen]; omega) (by have h1 := HTL.out; omega) (HH.out.up.trans HU4.out).size
      have HOO := Hid.of (World.ownsRow.kept (ow_up HH.out.a HU4.out) hg5 (own_off (ow_up HH.out.a HU4.out) (ow_up HH.out.b HU4.out) (by decide)))
      have HUU := Hid.of ((HH.out.up.trans HU4.out).by hg5 (fun g hg => (HH.out.b.lt g hg).1))
      have HMM := Hid.of ho5
      clear ho5 hg5 hfr5
      refine wp_app (v := u5) (y := .slice (some ⟨w5.heap.size, 0, none⟩) 1 1) rfl rfl rfl hap ?_
      simp only [Act.put, List.setIfInBounds_toArray, List.set_cons_zero, List.set_cons_succ]
      refine hK.out _ _ HUU.out (fun hS2 => ?_)
      clear hK K hS hap HA4' HU4
      have hS := hS2
      clear hS2
      refine wpAnyH_ready (rs := [14]) (by kernel_rfl) (by simp) ?_
      refine AllReadyH.cons (o := { dst := some 5, op := Go.Op.assign (Go.Operand.tmp 40), type := 92, pos := "law.go:64", after := #[{ on := 13, ground := Go.Ground.data }, { on := 13, ground := Go.Ground.chain }, { on := 0, ground := Go.Ground.phase }, { on := 1, ground := Go.Ground.phase }, { on := 2, ground := Go.Ground.phase }, { on := 3, ground := Go.Ground.phase }, { on := 4, ground := Go.Ground.phase }, { on := 5, ground := Go.Ground.phase }, { on := 6, ground := Go.Ground.phase }, { on := 7, ground := Go.Ground.phase }, { on := 8, ground := Go.Ground.phase }, { on := 9, ground := Go.Ground.phase }, { on := 10, ground := Go.Ground.phase }, { on := 11, ground := Go.Ground.phase }, { on := 12, ground := Go.Ground.phase }, { on := 13, ground := Go.Ground.phase }], guard := none }) rfl (fun K hK => ?_) AllReadyH.nil
      rw [if_pos (by kernel_rfl)]
      go_simp
      refine hK.out _ _ hS (fun hS2 => ?_)
      clear hK K hS hS2
      refine wpAnyH_done (by kernel_rfl) ?_ _
      have HN := Hid.of (show FB w w6 w.heap.size v5 v6 (fs.take (j + 1)) from by
        rw [HTS.out.1]
        refine ⟨?_, ?_, HUU.out⟩
        · rw [flat_snoc, List.length_append]
          exact HOO.out
        · rw [flat_snoc, List.length_append]
          exact HMM.out)
      clear HH HMM HOO HUU
      go_wp2
      go_roundw
      case rel => exact ⟨j + 1, by simp, by omega, HN⟩
      case measure => simp [intOf]; omega
    · have hltz : ¬ (j : Int) < (n : Int) := by omega
      obtain rfl : j = n := by omega
      have hT : fs.take j = fs := by rw [← HNN.out.1, List.take_length]
      rw [hT] at HK
      clear hT
      go_wp2
      go_ret2
      exact ⟨_, _, rfl, HK.out⟩
end Go.Proofs.Ytdlfkdehfenemaa
