import Derived.Test.YtkaoalcffgnfeaaGreatDoorYo
import Derived.Test.YtkaoalcffgnfeaaGreatDoorJc
import Derived.Test.YtkaoalcffgnfeaaGreatDoorYd
import Derived.Test.YtkaoalcffgnfeaaGreatDoorYu
namespace Go.Proofs.YtkaoalcffgnfeaaGreatDoor
open Go.RowKit TextNum
/-- fields in memory of one's own -/
abbrev RfO (w : World) (N : Nat) (a : Option Addr) (fs : List FD) (c : Nat) : Prop := w.ownsRow N 85 2 (.slice a fs.length c) fs.length (fdc fs)
theorem RfO.fdl {w : World} {N : Nat} {a : Option Addr} {fs : List FD} {c : Nat} (h : RfO w N a fs c) : FdL w a fs c := by
  refine ⟨?_, fun i hi => ?_⟩
  · rcases h.2 with ⟨_, h0⟩ | ⟨g, cap, cur, e, _, _, hc, _⟩
    · omega
    · injection e with _ _ e3
      omega
  · rcases h.2 with ⟨_, h0⟩ | ⟨g, cap, cur, e, _, _, hc, _⟩
    · omega
    · injection e with e1 _ e3
      subst e1 e3
      have hc := World.ownsRow.cells h rfl
      have h1 := hc (i * 2) _ (fdc_get fs hi).1
      have h2 := hc (i * 2 + 1) _ (fdc_get fs hi).2
      rw [Addr.add_lit] at h1 h2
      exact ⟨g, 0, rfl, h1, h2⟩
theorem infoRf2 : (Tryz.prog.info? 85).map (·.size) = some 2 := by kernel_rfl
theorem Tryz.infoRf : (Tryz.prog.info? 85).map (fun i => (i.zero, i.size, i.bytes)) = some (some (.agg #[.string ⟨#[]⟩, .string ⟨#[]⟩]), 2, 32) := by kernel_rfl
theorem exec_idxRf {o : Oper} {ρ : Operand → Value} {x y : Operand} {w : World} {b off n c : Nat} (i : Nat) (hi : i < n) (ho : o.op = .indexAddr 42 x y) (hx : ρ x = .slice (some ⟨b, off, none⟩) n c) (hy : ρ y = .int .i64 (i : Int)) : (execOp ρ o).run Tryz.prog w = .ok (.value (.pointer (some ⟨b, off + i * 2, none⟩))) w := by
  have hi' : (i : Int) < (n : Int) := by omega
  unfold execOp
  simp only [ho, hx, hy]
  go_simp
/-- one field is appended -/
theorem wpList_appRf {w : World} {N q : Nat} {ops : Array Oper} {rest : List Oper} {o : Oper} {a : Act} {Q : Exit → Act → World → Prop} (hgd : o.guard = none) (x y : Operand)
    (ho : o.op = .call { callee := .builtin .append, args := #[x, y], argTypes := #[42, 42] }) (ax : Option Addr) (cx : Nat) (fs : List FD) (f : FD) (hq : fs.length = q) (hx : a.eval x = .slice ax q cx) (hy : a.eval y = .slice (some ⟨w.heap.size, 0, none⟩) 1 1)
    (hR : RfO w N ax fs cx) (hNw : N ≤ w.heap.size) (hql : q ≤ 1099511627776)
    (K : ∀ ax2 cx2 w', RfO w' N ax2 (fs ++ [f]) cx2 → (∀ W, Up W w → W.heap.size ≤ N → Up W w') → w.grownBy w' (Value.slice ax q cx).ownBlock → wpList Tryz.prog ops Q rest (a.put o.dst (.slice ax2 (q + 1) cx2)) w') :
    wpList Tryz.prog ops Q (o :: rest) a (w.alloc (.cells #[.string f.n, .string f.v] 85)) := by
  subst hq
  obtain ⟨i1, hi1, hz0, hz1, hz2⟩ := info_parts Tryz.infoRf
  have HUx := (Up.refl w).alloc (.cells #[.string f.n, .string f.v] 85)
  have hnu := ow_up hR HUx
  refine wpList_append_own _ hgd x y 42 ho N 85 i1 (.agg #[.string ⟨#[]⟩, .string ⟨#[]⟩]) 2 32 Tryz.underlying42 hi1 hz0 hz1 hz2 rfl (by omega) (.slice ax fs.length cx) fs.length _ hx hnu ⟨w.heap.size, 0, none⟩ 1 1 [.string f.n, .string f.v] hy rfl ?_ ?_ (by simp only [maxLen]; omega) (by omega) (Nat.le_trans hNw HUx.size) ?_
  · intro j u hu
    rw [Addr.add_lit]
    exact At.cell (at_new w 85 [.string f.n, .string f.v]) (i := 0 + j) (by rw [Nat.zero_add]; exact hu)
  · intro u hu
    simp only [List.mem_cons, List.not_mem_nil, or_false] at hu
    rcases hu with rfl | rfl <;> rfl
  intro v8 w8 o8 g8 _
  obtain ⟨ax2, cx2, rfl⟩ : ∃ ax2 cx2, v8 = .slice ax2 (fs.length + 1) cx2 := by
    rcases o8.2 with ⟨_, h0⟩ | ⟨g, cap, cur, e1, _⟩
    · omega
    · exact ⟨_, cap, e1⟩
  refine K ax2 cx2 w8 ?_ (fun W hU hW => up_grownBy (hU.trans HUx) g8 (fun k hk => Nat.le_trans hW (World.ownsRow.lt hR k hk).1)) (up_grown HUx g8)
  show w8.ownsRow N 85 2 (.slice ax2 (fs ++ [f]).length cx2) (fs ++ [f]).length (fdc (fs ++ [f]))
  rw [List.length_append, fdc_snoc]
  exact o8
end Go.Proofs.YtkaoalcffgnfeaaGreatDoor
namespace Go.Proofs.YtkaoalcffgnfeaaGreatDoor
open Go.RowKit Go.Shelf TextNum
def clw : ByteArray := ⟨#[99, 111, 110, 116, 101, 110, 116, 45, 108, 101, 110, 103, 116, 104]⟩
def tew : ByteArray := ⟨#[116, 114, 97, 110, 115, 102, 101, 114, 45, 101, 110, 99, 111, 100, 105, 110, 103]⟩
theorem kep_lws (f : FD) : kep f = !(lws f.n.data.toList == clw.data.toList || lws f.n.data.toList == tew.data.toList) := by
  unfold kep kdf kdp
  generalize lws f.n.data.toList = x
  by_cases h1 : x = lws (kdT.getD 0 (⟨#[]⟩, 0)).1.data.toList
  · subst h1; decide +kernel
  · by_cases h2 : x = lws (kdT.getD 1 (⟨#[]⟩, 0)).1.data.toList
    · subst h2; decide +kernel
    · by_cases h3 : x = lws (kdT.getD 2 (⟨#[]⟩, 0)).1.data.toList
      · subst h3; decide +kernel
      · by_cases h4 : x = lws (kdT.getD 3 (⟨#[]⟩, 0)).1.data.toList
        · subst h4; decide +kernel
        · have e3 : lws (kdT.getD 2 (⟨#[]⟩, 0)).1.data.toList = tew.data.toList := by decide +kernel
          have e4 : lws (kdT.getD 3 (⟨#[]⟩, 0)).1.data.toList = clw.data.toList := by decide +kernel
          have hf : kdT.find? (fun p => lws p.1.data.toList == x) = none := by
            rw [List.find?_eq_none]
            intro p hp
            rw [beq_iff_eq]
            intro e
            have hk : kdT = [kdT.getD 0 (⟨#[]⟩, 0), kdT.getD 1 (⟨#[]⟩, 0), kdT.getD 2 (⟨#[]⟩, 0), kdT.getD 3 (⟨#[]⟩, 0)] := rfl
            rw [hk] at hp
            simp only [List.mem_cons, List.not_mem_nil, or_false] at hp
            rcases hp with rfl | rfl | rfl | rfl
            · exact h1 e.symm
            · exact h2 e.symm
            · exact h3 e.symm
            · exact h4 e.symm
          rw [e3] at h3
          rw [e4] at h4
          rw [hf]
          simp [h3, h4]
/-- the fields that must come back -/
def tld (fs : List FD) (len : Int) : List FD := if 0 ≤ len then pfs fs ++ [lnf len.toNat] else pfs fs
set_option maxRecDepth 100000 in
set_option maxHeartbeats 2000000 in
theorem Rprinted_walk (a : Option Addr) (fs : List FD) (c : Nat) (len : Int) (w : World) (h : FdL w a fs c) (hl : szs fs ≤ 1099511627776) (hlen : len ≤ 1099511627776) (hlen0 : -1 ≤ len) :
    Calls Tryz.prog 30 #[.slice a fs.length c, .int .i64 len] w fun e w' => (∃ a2 c2, e = .returned (.slice a2 (tld fs len).length c2) ∧ Hid (RfO w' w.heap.size a2 (tld fs len) c2)) ∧ Up w w' := by
  have HF := Hid.of h
  have hcap := h.cap
  have hsl := szs_len fs
  have HZ := Hid.of (fun i => Nat.le_trans (szs_take fs i) hl)
  clear h hl
  have hfl : fs.length ≤ 1099511627776 := by have := HZ.out fs.length; rw [List.take_length] at this; omega
  clear hsl
  go_enter Tryz.func30, Tryz.ntmps30
  go_wp2
  go_loopw [5, 6] (fun v5 v6 wr => ∃ i : Nat, v6 = .int .i64 (i : Int) ∧ i ≤ fs.length ∧ ∃ q a7 c7, v5 = .slice a7 q c7 ∧ q ≤ i ∧ Hid (RfO wr w.heap.size a7 (pfs (fs.take i)) c7 ∧ Up w wr ∧ (pfs (fs.take i)).length = q)) (fun _ v6 _ => fs.length - (intOf v6).toNat)
  case atStart => exact ⟨0, rfl, Nat.zero_le _, 0, none, 0, rfl, Nat.le_refl _, Hid.of ⟨World.ownsRow_nil _ _ _ _, Up.refl _, rfl⟩⟩
  case round =>
    obtain ⟨i, rfl, hi, q, a7, c7, rfl, hqi, hU⟩ := hrel
    have HQ := Hid.of hU.out
    clear hU
    by_cases hil : i < fs.length
    · have hilz : (i : Int) < (fs.length : Int) := by omega
      obtain ⟨b, off, rfl, k1, k2⟩ := HF.out.cells i hil
      have HT := Hid.of (List.take_succ_eq_append_getElem hil)
      obtain ⟨f, hf⟩ : ∃ f, fs[i] = f := ⟨_, rfl⟩
      rw [hf] at k1 k2 HT
      have HK1 := Hid.of k1
      have HK2 := Hid.of k2
      have h5 := HZ.out (i + 1)
      rw [HT.out, szs_snoc] at h5
      unfold szf at h5
      have hfv : f.v.size ≤ 1099511627776 := by omega
      have hfn : f.n.size ≤ 1099511627776 := by omega
      have HLn := Hid.of HQ.out.2.2
      have k3 := HQ.out.2.1.cell k1
      clear hf k1 k2 h5
      go_wp2_with (with_reducible show wpList _ _ _ ({ dst := _, op := Op.indexAddr 42 _ _, type := _, pos := _, after := _, guard := _ } :: _) _ _; refine Shut.out ?_)
      show wpList _ _ _ _ _ _
      refine wpList_val7 (.pointer (some ⟨b, off + i * 2, none⟩)) rfl (exec_idxRf i hil rfl rfl rfl) ?_
      simp only [Act.put, List.setIfInBounds_toArray, List.set_cons_zero, List.set_cons_succ]
      go_wp2_with fail
      refine (lowerL_walk f.n wr hfn).mono ?_
      rintro e w4 ⟨rfl, u5⟩
      have HU4 := Hid.of (HQ.out.2.1.trans u5)
      have HO4 := Hid.of (ow_up HQ.out.1 u5)
      clear u5 HQ k3
      have HNm0 : (⟨(lws f.n.data.toList).toArray⟩ : ByteArray).data.toList = lws f.n.data.toList := rfl
      generalize (⟨(lws f.n.data.toList).toArray⟩ : ByteArray) = nm at HNm0 ⊢
      have HNm := Hid.of HNm0
      clear HNm0
      dsimp only
      have e1 : (nm.toList == [99, 111, 110, 116, 101, 110, 116, 45, 108, 101, 110, 103, 116, 104]) = (nm.data.toList == clw.data.toList) := by rw [Go.Lib.toList_data]; rfl
      have e2 : (nm.toList == [116, 114, 97, 110, 115, 102, 101, 114, 45, 101, 110, 99, 111, 100, 105, 110, 103]) = (nm.data.toList == tew.data.toList) := by rw [Go.Lib.toList_data]; rfl
      cases h3 : (nm.data.toList == clw.data.toList) with
      | true =>
        rw [h3] at e1
        clear e2
        have HS7 := Hid.of (show pfs (fs.take (i + 1)) = pfs (fs.take i) by rw [HT.out, pfs_no (by rw [kep_lws, ← HNm.out]; simp [h3])])
        have HO8 := Hid.of (show RfO w4 w.heap.size a7 (pfs (fs.take (i + 1))) c7 by rw [HS7.out]; exact HO4.out)
        have HL8 := Hid.of (show (pfs (fs.take (i + 1))).length = q by rw [HS7.out]; exact HLn.out)
        go_wp2
        go_roundw
        all_goals first
          | exact ⟨i + 1, by go_num, by omega, q, a7, c7, rfl, by omega, Hid.of ⟨HO8.out, HU4.out, HL8.out⟩⟩
          | (simp [intOf]; omega)
      | false =>
        rw [h3] at e1
        cases h4 : (nm.data.toList == tew.data.toList) with
        | true =>
          rw [h4] at e2
          have HS7 := Hid.of (show pfs (fs.take (i + 1)) = pfs (fs.take i) by rw [HT.out, pfs_no (by rw [kep_lws, ← HNm.out]; simp [h3, h4])])
          have HO8 := Hid.of (show RfO w4 w.heap.size a7 (pfs (fs.take (i + 1))) c7 by rw [HS7.out]; exact HO4.out)
          have HL8 := Hid.of (show (pfs (fs.take (i + 1))).length = q by rw [HS7.out]; exact HLn.out)
          go_wp2
          go_roundw
          all_goals first
            | exact ⟨i + 1, by go_num, by omega, q, a7, c7, rfl, by omega, Hid.of ⟨HO8.out, HU4.out, HL8.out⟩⟩
            | (simp [intOf]; omega)
        | false =>
          rw [h4] at e2
          have HT2 := Hid.of (show pfs (fs.take (i + 1)) = pfs (fs.take i) ++ [tfd f] by rw [HT.out, pfs_yes (by rw [kep_lws, ← HNm.out]; simp [h3, h4])])
          have HL7 := Hid.of (show (pfs (fs.take (i + 1))).length = q + 1 by rw [HT2.out, List.length_append, HLn.out]; rfl)
          go_wp2
          refine wp_region_held_drew (S := fun w2 => Up w w2) (by kernel_rfl) HU4.out.drew (fun hS => ?_)
          refine wpAnyH_take (i := 0) (oi := { dst := some 26, op := Go.Op.move (Go.Operand.tmp 5), type := 42, pos := "print.go:128", after := #[], guard := none }) (v := .slice a7 q c7) rfl (by kernel_rfl) (by kernel_rfl) (by kernel_rfl) (fun _ _ _ h => h) (Or.inl ⟨by kernel_rfl, ?_⟩) hS ?_
          · intro w5 hSw
            clear hSw hS
            go_simp
          simp only [Act.put, List.setIfInBounds_toArray, List.set_cons_zero, List.set_cons_succ]
          refine wpAnyH_take (i := 1) (oi := { dst := some 27, op := Go.Op.move (Go.Operand.tmp 0), type := 42, pos := "print.go:128", after := #[], guard := none }) (v := .slice (some ⟨b, off, none⟩) fs.length c) rfl (by kernel_rfl) (by kernel_rfl) (by kernel_rfl) (fun _ _ _ h => h) (Or.inl ⟨by kernel_rfl, ?_⟩) hS ?_
          · intro w5 hSw
            clear hSw hS
            go_simp
          simp only [Act.put, List.setIfInBounds_toArray, List.set_cons_zero, List.set_cons_succ]
          refine wpAnyH_take (i := 2) (oi := { dst := some 28, op := Go.Op.move (Go.Operand.tmp 6), type := 3, pos := "print.go:128", after := #[], guard := none }) (v := .int .i64 (i : Int)) rfl (by kernel_rfl) (by kernel_rfl) (by kernel_rfl) (fun _ _ _ h => h) (Or.inl ⟨by kernel_rfl, ?_⟩) hS ?_
          · intro w5 hSw
            clear hSw hS
            go_simp
          simp only [Act.put, List.setIfInBounds_toArray, List.set_cons_zero, List.set_cons_succ]
          refine wpAnyH_take (i := 3) (oi := { dst := some 29, op := Go.Op.indexAddr 42 (Go.Operand.tmp 27) (Go.Operand.tmp 28), type := 0, pos := "print.go:128", after := #[{ on := 1, ground := Go.Ground.data }, { on := 2, ground := Go.Ground.data }], guard := none }) (v := .pointer (some ⟨b, off + i * 2, none⟩)) rfl (by kernel_rfl) (by kernel_rfl) (by kernel_rfl) (fun _ _ _ h => h) (Or.inl ⟨by kernel_rfl, ?_⟩) hS ?_
          · intro w5 hSw
            clear hSw hS
            exact exec_idxRf i hil rfl rfl rfl
          simp only [Act.put, List.setIfInBounds_toArray, List.set_cons_zero, List.set_cons_succ]
          refine wpAnyH_take (i := 4) (oi := { dst := some 30, op := Go.Op.fieldAddr 85 (Go.Operand.tmp 29) 0, type := 0, pos := "print.go:128", after := #[{ on := 3, ground := Go.Ground.data }], guard := none }) (v := .pointer (some ⟨b, off + i * 2, none⟩)) rfl (by kernel_rfl) (by kernel_rfl) (by kernel_rfl) (fun _ _ _ h => h) (Or.inl ⟨by kernel_rfl, ?_⟩) hS ?_
          · intro w5 hSw
            clear hSw hS
            go_simp
          simp only [Act.put, List.setIfInBounds_toArray, List.set_cons_zero, List.set_cons_succ]
          refine wpAnyH_take (i := 5) (oi := { dst := some 31, op := Go.Op.load 9 (Go.Operand.tmp 30), type := 9, pos := "print.go:128", after := #[{ on := 4, ground := Go.Ground.data }], guard := none }) (v := .string f.n) rfl (by kernel_rfl) (by kernel_rfl) (by kernel_rfl) (fun _ _ _ h => h) (Or.inl ⟨by kernel_rfl, ?_⟩) hS ?_
          · intro w5 hSw
            have h0 := hSw.cell HK1.out
            clear hSw hS
            go_simp
          simp only [Act.put, List.setIfInBounds_toArray, List.set_cons_zero, List.set_cons_succ]
          refine wpAnyH_take (i := 6) (oi := { dst := some 32, op := Go.Op.move (Go.Operand.tmp 0), type := 42, pos := "print.go:128", after := #[], guard := none }) (v := .slice (some ⟨b, off, none⟩) fs.length c) rfl (by kernel_rfl) (by kernel_rfl) (by kernel_rfl) (fun _ _ _ h => h) (Or.inl ⟨by kernel_rfl, ?_⟩) hS ?_
          · intro w5 hSw
            clear hSw hS
            go_simp
          simp only [Act.put, List.setIfInBounds_toArray, List.set_cons_zero, List.set_cons_succ]
          refine wpAnyH_take (i := 7) (oi := { dst := some 33, op := Go.Op.move (Go.Operand.tmp 6), type := 3, pos := "print.go:128", after := #[], guard := none }) (v := .int .i64 (i : Int)) rfl (by kernel_rfl) (by kernel_rfl) (by kernel_rfl) (fun _ _ _ h => h) (Or.inl ⟨by kernel_rfl, ?_⟩) hS ?_
          · intro w5 hSw
            clear hSw hS
            go_simp
          simp only [Act.put, List.setIfInBounds_toArray, List.set_cons_zero, List.set_cons_succ]
          refine wpAnyH_take (i := 8) (oi := { dst := some 34, op := Go.Op.indexAddr 42 (Go.Operand.tmp 32) (Go.Operand.tmp 33), type := 0, pos := "print.go:128", after := #[{ on := 6, ground := Go.Ground.data }, { on := 7, ground := Go.Ground.data }], guard := none }) (v := .pointer (some ⟨b, off + i * 2, none⟩)) rfl (by kernel_rfl) (by kernel_rfl) (by kernel_rfl) (fun _ _ _ h => h) (Or.inl ⟨by kernel_rfl, ?_⟩) hS ?_
          · intro w5 hSw
            clear hSw hS
            exact exec_idxRf i hil rfl rfl rfl
          simp only [Act.put, List.setIfInBounds_toArray, List.set_cons_zero, List.set_cons_succ]
          refine wpAnyH_take (i := 9) (oi := { dst := some 35, op := Go.Op.fieldAddr 85 (Go.Operand.tmp 34) 1, type := 0, pos := "print.go:128", after := #[{ on := 8, ground := Go.Ground.data }], guard := none }) (v := .pointer (some ⟨b, off + i * 2 + 1, none⟩)) rfl (by kernel_rfl) (by kernel_rfl) (by kernel_rfl) (fun _ _ _ h => h) (Or.inl ⟨by kernel_rfl, ?_⟩) hS ?_
          · intro w5 hSw
            clear hSw hS
            go_simp
          simp only [Act.put, List.setIfInBounds_toArray, List.set_cons_zero, List.set_cons_succ]
          refine wpAnyH_take (i := 10) (oi := { dst := some 36, op := Go.Op.load 9 (Go.Operand.tmp 35), type := 9, pos := "print.go:128", after := #[{ on := 9, ground := Go.Ground.data }], guard := none }) (v := .string f.v) rfl (by kernel_rfl) (by kernel_rfl) (by kernel_rfl) (fun _ _ _ h => h) (Or.inl ⟨by kernel_rfl, ?_⟩) hS ?_
          · intro w5 hSw
            have h0 := hSw.cell HK2.out
            clear hSw hS
            go_simp
          simp only [Act.put, List.setIfInBounds_toArray, List.set_cons_zero, List.set_cons_succ]
          refine wpAnyH_ready (rs := [11]) (by kernel_rfl) (by simp) ?_
          refine AllReadyH.cons (o := { dst := some 37, op := Go.Op.call { callee := Go.Callee.value (Go.Operand.func 77), args := #[Go.Operand.tmp 36], argTypes := #[9] }, type := 9, pos := "print.go:128", after := #[{ on := 10, ground := Go.Ground.data }], guard := none }) rfl (fun K hK => ?_) AllReadyH.nil
          rw [if_pos (by kernel_rfl)]
          go_simp
          refine (Rtrim_walk f.v hfv w4.drew).mono ?_
          rintro e w6 ⟨rfl, h9⟩
          obtain rfl := h9.symm
          have HVt := Hid.of (show vs (trm f.v.data.toList) = .string (tfd f).v from rfl)
          clear h9
          rw [HVt.out]
          dsimp only
          refine hK.out _ _ hS (fun hS => ?_)
          clear hK K
          refine wpAnyH_take (i := 12) (oi := { dst := some 38, op := Go.Op.build 85 #[(0, Go.Operand.tmp 31), (1, Go.Operand.tmp 37)], type := 85, pos := "print.go:128", after := #[{ on := 5, ground := Go.Ground.data }, { on := 11, ground := Go.Ground.data }], guard := none }) (v := .agg #[.string f.n, .string (tfd f).v]) rfl (by kernel_rfl) (by kernel_rfl) (by kernel_rfl) (fun _ _ _ h => h) (Or.inl ⟨by kernel_rfl, ?_⟩) hS ?_
          · intro w5 hSw
            clear hSw hS
            go_simp
          simp only [Act.put, List.setIfInBounds_toArray, List.set_cons_zero, List.set_cons_succ]
          refine wpAnyH_ready (rs := [13]) (by kernel_rfl) (by simp) ?_
          refine AllReadyH.cons (o := { dst := some 39, op := Go.Op.buildSlice 42 1 #[(0, Go.Operand.tmp 38)], type := 42, pos := "print.go:128", after := #[{ on := 12, ground := Go.Ground.data }], guard := none }) rfl (fun K hK => ?_) AllReadyH.nil
          rw [if_pos (by kernel_rfl)]
          go_simp
          refine hK.out _ _ (hS.alloc _) (fun hS => ?_)
          clear hK K
          refine wpAnyH_ready (rs := [14]) (by kernel_rfl) (by simp) ?_
          refine AllReadyH.cons (o := { dst := some 40, op := Go.Op.call { callee := Go.Callee.builtin Go.Builtin.append, args := #[Go.Operand.tmp 26, Go.Operand.tmp 39], argTypes := #[42, 42] }, type := 42, pos := "print.go:128", after := #[{ on := 0, ground := Go.Ground.data }, { on := 13, ground := Go.Ground.data }, { on := 11, ground := Go.Ground.chain }], guard := none }) rfl (fun K hK => oper_of_list ?_) AllReadyH.nil
          refine wpList_appRf (w := w4.drew) (N := w.heap.size) rfl _ _ rfl a7 c7 (pfs (fs.take i)) (tfd f) HLn.out rfl rfl (ow_up HO4.out (Up.refl _).drew) HU4.out.drew.size (by omega) ?_
          intro ax2 cx2 w7 o7 u7 g7
          have HO7 := Hid.of (show RfO w7 w.heap.size ax2 (pfs (fs.take (i + 1))) cx2 by rw [HT2.out]; exact o7)
          have HU7 := Hid.of (u7 w HU4.out.drew (Nat.le_refl _))
          clear o7 u7 g7
          refine hK.out _ _ HU7.out (fun hS => ?_)
          clear hK K
          simp only [Act.put, List.setIfInBounds_toArray, List.set_cons_zero, List.set_cons_succ]
          refine wpAnyH_take (i := 15) (oi := { dst := some 5, op := Go.Op.assign (Go.Operand.tmp 40), type := 42, pos := "print.go:128", after := #[{ on := 14, ground := Go.Ground.data }, { on := 14, ground := Go.Ground.chain }, { on := 0, ground := Go.Ground.phase }, { on := 1, ground := Go.Ground.phase }, { on := 2, ground := Go.Ground.phase }, { on := 3, ground := Go.Ground.phase }, { on := 4, ground := Go.Ground.phase }, { on := 5, ground := Go.Ground.phase }, { on := 6, ground := Go.Ground.phase }, { on := 7, ground := Go.Ground.phase }, { on := 8, ground := Go.Ground.phase }, { on := 9, ground := Go.Ground.phase }, { on := 10, ground := Go.Ground.phase }, { on := 11, ground := Go.Ground.phase }, { on := 12, ground := Go.Ground.phase }, { on := 13, ground := Go.Ground.phase }, { on := 14, ground := Go.Ground.phase }], guard := none }) (v := .slice ax2 (q + 1) cx2) rfl (by kernel_rfl) (by kernel_rfl) (by kernel_rfl) (fun _ _ _ h => h) (Or.inl ⟨by kernel_rfl, ?_⟩) hS ?_
          · intro w5 hSw
            clear hSw hS
            go_simp
          simp only [Act.put, List.setIfInBounds_toArray, List.set_cons_zero, List.set_cons_succ]
          clear hS
          refine wpAnyH_done (by kernel_rfl) ?_ _
          go_wp2
          go_roundw
          all_goals first
            | exact ⟨i + 1, by go_num, by omega, q + 1, ax2, cx2, rfl, by omega, Hid.of ⟨HO7.out, HU7.out, HL7.out⟩⟩
            | (simp [intOf]; omega)
    · have hilz : ¬ (i : Int) < (fs.length : Int) := by omega
      have HTk := Hid.of (show fs.take i = fs from List.take_of_length_le (by omega))
      rw [HTk.out] at HQ
      by_cases hl0 : 0 ≤ len
      · have HTl := Hid.of (show tld fs len = pfs fs ++ [lnf len.toNat] by unfold tld; rw [if_pos hl0])
        have HLf := Hid.of (show vs (Go.Lib.itoa len) = .string (lnf len.toNat).v by unfold lnf; rw [Int.toNat_of_nonneg hl0])
        go_wp2_with fail
        refine (RFormatNumber_walk len (by omega) (by omega) wr).mono ?_
        rintro e w3 ⟨rfl, h9⟩
        have HU3 := Hid.of (HQ.out.2.1.trans h9)
        have HO3 := Hid.of (ow_up HQ.out.1 h9)
        clear h9
        rw [HLf.out]
        dsimp only
        go_wp2_with (with_reducible show wpList _ _ _ ({ dst := _, op := Op.call { callee := Callee.builtin Builtin.append, args := _, argTypes := _ }, type := _, pos := _, after := _, guard := _ } :: _) _ _; refine Shut.out ?_)
        show wpList _ _ _ _ _ _
        refine wpList_appRf (w := w3) (N := w.heap.size) rfl _ _ rfl a7 c7 (pfs fs) (lnf len.toNat) HQ.out.2.2 rfl rfl HO3.out HU3.out.size (by omega) ?_
        intro a4 c4 w4 o4 u4 _
        have HU4 := Hid.of (u4 w HU3.out (Nat.le_refl _))
        have HO4 := Hid.of o4
        clear o4 u4
        simp only [Act.put, List.setIfInBounds_toArray, List.set_cons_zero, List.set_cons_succ]
        go_wp2
        go_ret
        rw [HTl.out]
        exact ⟨⟨a4, c4, by rw [List.length_append, HQ.out.2.2]; rfl, Hid.of HO4.out⟩, HU4.out⟩
      · have HTl := Hid.of (show tld fs len = pfs fs by unfold tld; rw [if_neg hl0])
        go_wp2
        go_ret
        rw [HTl.out]
        exact ⟨⟨a7, c7, by rw [HQ.out.2.2]; rfl, Hid.of HQ.out.1⟩, HQ.out.2.1⟩
end Go.Proofs.YtkaoalcffgnfeaaGreatDoor
namespace Go.Proofs.YtkaoalcffgnfeaaGreatDoor
open Go.RowKit TextNum
def rlt (c : UInt8) : Bool := (decide (97 ≤ c.toNat) && decide (c.toNat ≤ 122)) || (decide (65 ≤ c.toNat) && decide (c.toNat ≤ 90))
def rtk : ByteArray := ⟨#[33, 35, 36, 37, 38, 39, 42, 43, 45, 46, 94, 95, 124, 126]⟩
theorem tkc_ref (x : UInt8) : tkc x = (rlt x || isD x || rtk.data.toList.contains x || x == 96) := by
  have h : ∀ n : Nat, n < 256 → tkc (UInt8.ofNat n) = (rlt (UInt8.ofNat n) || isD (UInt8.ofNat n) || rtk.data.toList.contains (UInt8.ofNat n) || UInt8.ofNat n == 96) := by decide +kernel
  have h1 := h x.toNat x.toNat_lt
  rw [UInt8.ofNat_toNat] at h1
  exact h1
set_option maxRecDepth 100000 in
theorem Rdigit_walk (c : UInt8) (w : World) : Calls Tryz.prog 79 #[vb c] w fun e w' => e = .returned (.bool (isD c)) ∧ w' = w := by
  have hc := c.toNat_lt
  by_cases hge48 : 48 ≤ c.toNat
  · have zhge48 : (48 : Int) ≤ (c.toNat : Int) := by omega
    by_cases hle57 : c.toNat ≤ 57
    · have zhle57 : (c.toNat : Int) ≤ 57 := by omega
      have e : isD c = true := by unfold isD; simp [*]
      rw [e]
      clear e
      go_enter Tryz.func79, Tryz.ntmps79
      go_wp2
      go_ret
      exact ⟨rfl, rfl⟩
    · have zhle57 : ¬ (c.toNat : Int) ≤ 57 := by omega
      have e : isD c = false := by unfold isD; simp [*]
      rw [e]
      clear e
      go_enter Tryz.func79, Tryz.ntmps79
      go_wp2
      go_ret
      exact ⟨rfl, rfl⟩
  · have zhge48 : ¬ (48 : Int) ≤ (c.toNat : Int) := by omega
    have e : isD c = false := by unfold isD; simp [*]
    rw [e]
    clear e
    go_enter Tryz.func79, Tryz.ntmps79
    go_wp2
    go_ret
    exact ⟨rfl, rfl⟩
set_option maxRecDepth 100000 in
theorem Rletter_walk (c : UInt8) (w : World) : Calls Tryz.prog 78 #[vb c] w fun e w' => e = .returned (.bool (rlt c)) ∧ w' = w := by
  have hc := c.toNat_lt
  by_cases hge97 : 97 ≤ c.toNat
  · have zhge97 : (97 : Int) ≤ (c.toNat : Int) := by omega
    by_cases hle122 : c.toNat ≤ 122
    · have zhle122 : (c.toNat : Int) ≤ 122 := by omega
      have e : rlt c = true := by unfold rlt; simp [*]
      rw [e]
      clear e
      go_enter Tryz.func78, Tryz.ntmps78
      go_wp2
      go_ret
      exact ⟨rfl, rfl⟩
    · have zhle122 : ¬ (c.toNat : Int) ≤ 122 := by omega
      by_cases hge65 : 65 ≤ c.toNat
      · have zhge65 : (65 : Int) ≤ (c.toNat : Int) := by omega
        by_cases hle90 : c.toNat ≤ 90
        · have zhle90 : (c.toNat : Int) ≤ 90 := by omega
          have e : rlt c = true := by unfold rlt; simp [*]
          rw [e]
          clear e
          go_enter Tryz.func78, Tryz.ntmps78
          go_wp2
          go_ret
          exact ⟨rfl, rfl⟩
        · have zhle90 : ¬ (c.toNat : Int) ≤ 90 := by omega
          have e : rlt c = false := by unfold rlt; simp [*]
          rw [e]
          clear e
          go_enter Tryz.func78, Tryz.ntmps78
          go_wp2
          go_ret
          exact ⟨rfl, rfl⟩
      · have zhge65 : ¬ (65 : Int) ≤ (c.toNat : Int) := by omega
        have e : rlt c = false := by unfold rlt; simp [*]
        rw [e]
        clear e
        go_enter Tryz.func78, Tryz.ntmps78
        go_wp2
        go_ret
        exact ⟨rfl, rfl⟩
  · have zhge97 : ¬ (97 : Int) ≤ (c.toNat : Int) := by omega
    by_cases hge65 : 65 ≤ c.toNat
    · have zhge65 : (65 : Int) ≤ (c.toNat : Int) := by omega
      by_cases hle90 : c.toNat ≤ 90
      · have zhle90 : (c.toNat : Int) ≤ 90 := by omega
        have e : rlt c = true := by unfold rlt; simp [*]
        rw [e]
        clear e
        go_enter Tryz.func78, Tryz.ntmps78
        go_wp2
        go_ret
        exact ⟨rfl, rfl⟩
      · have zhle90 : ¬ (c.toNat : Int) ≤ 90 := by omega
        have e : rlt c = false := by unfold rlt; simp [*]
        rw [e]
        clear e
        go_enter Tryz.func78, Tryz.ntmps78
        go_wp2
        go_ret
        exact ⟨rfl, rfl⟩
    · have zhge65 : ¬ (65 : Int) ≤ (c.toNat : Int) := by omega
      have e : rlt c = false := by unfold rlt; simp [*]
      rw [e]
      clear e
      go_enter Tryz.func78, Tryz.ntmps78
      go_wp2
      go_ret
      exact ⟨rfl, rfl⟩
set_option maxRecDepth 100000 in
set_option maxHeartbeats 1000000 in
theorem Ramong_walk (s : ByteArray) (c : UInt8) (hs : s.size ≤ 1048576) (w : World) : Calls Tryz.prog 80 #[.string s, vb c] w fun e w' => e = .returned (.bool (s.data.toList.contains c)) ∧ w' = w := by
  have HS := Hid.of (show s.size = s.data.toList.length from Go.Lib.size_eq s)
  obtain ⟨r, hr⟩ : ∃ r, s.data.toList.contains c = r := ⟨_, rfl⟩
  have HR := Hid.of hr
  rw [hr]
  clear hr
  go_enter Tryz.func80, Tryz.ntmps80
  go_wp2
  go_loopw [5] (fun v5 wr => ∃ i : Nat, v5 = .int .i64 (i : Int) ∧ i ≤ s.size ∧ Hid (wr = w ∧ c ∉ s.data.toList.take i)) (fun v5 _ => s.size - (intOf v5).toNat)
  case atStart => exact ⟨0, rfl, Nat.zero_le _, Hid.of ⟨rfl, by simp⟩⟩
  case round =>
    obtain ⟨i, rfl, hi, hU⟩ := hrel
    have HU := Hid.of hU.out
    clear hU
    by_cases hil : i < s.size
    · have hilz : (i : Int) < (s.size : Int) := by omega
      have hg := sget' s i hil
      have hii : i < s.data.toList.length := by rw [← HS.out]; exact hil
      have HQ := Hid.of (List.take_succ_eq_append_getElem hii)
      have HM := Hid.of (List.getElem_mem hii)
      generalize s.data.toList[i]'hii = x at *
      clear hii
      cases hx : ((x.toNat : Int) == (c.toNat : Int)) with
      | true =>
        have HE := Hid.of (show r = true by
          have h1 : x.toNat = c.toNat := by have := eq_of_beq hx; omega
          rw [← HR.out, ← UInt8.toNat_inj.1 h1]
          exact List.contains_iff_mem.2 HM.out)
        go_wp2
        go_ret
        rw [HE.out]
        exact ⟨rfl, HU.out.1⟩
      | false =>
        have HN := Hid.of (show c ∉ s.data.toList.take (i + 1) by
          rw [HQ.out, List.mem_append, List.mem_singleton]
          rintro (h | h)
          · exact HU.out.2 h
          · rw [h] at hx; simp at hx)
        go_wp2
        go_roundw
        all_goals first
          | exact ⟨i + 1, by go_num, by omega, Hid.of ⟨HU.out.1, HN.out⟩⟩
          | (simp [intOf]; omega)
    · have hilz : ¬ (i : Int) < (s.size : Int) := by omega
      have HE := Hid.of (show r = false by
        have h1 := HU.out.2
        rw [List.take_of_length_le (by rw [← HS.out]; omega)] at h1
        rw [← HR.out, Bool.eq_false_iff]
        intro h
        exact h1 (List.contains_iff_mem.1 h))
      go_wp2
      go_ret
      rw [HE.out]
      exact ⟨rfl, HU.out.1⟩
set_option maxRecDepth 100000 in
set_option maxHeartbeats 1000000 in
theorem Rvisible_walk (s : ByteArray) (hs : s.size ≤ 1099511627776) (w : World) : Calls Tryz.prog 34 #[.string s] w fun e w' => e = .returned (.bool (tgt s.data.toList)) ∧ Up w w' := by
  have HS := Hid.of (show s.size = s.data.toList.length from Go.Lib.size_eq s)
  obtain ⟨r, hr⟩ : ∃ r, tgt s.data.toList = r := ⟨_, rfl⟩
  have HR := Hid.of hr
  rw [hr]
  clear hr
  go_enter Tryz.func34, Tryz.ntmps34
  go_wp2
  go_loopw [3] (fun v3 wr => ∃ i : Nat, v3 = .int .i64 (i : Int) ∧ i ≤ s.size ∧ Hid (Up w wr ∧ (s.data.toList.take i).all vis = true)) (fun v3 _ => s.size - (intOf v3).toNat)
  case atStart => exact ⟨0, rfl, Nat.zero_le _, Hid.of ⟨Up.refl _, rfl⟩⟩
  case round =>
    obtain ⟨i, rfl, hi, hU⟩ := hrel
    have HU := Hid.of hU.out
    clear hU
    by_cases hil : i < s.size
    · have hilz : (i : Int) < (s.size : Int) := by omega
      have hg := sget' s i hil
      have HQ := Hid.of (vis_take (l := s.data.toList) (i := i) (by rw [← HS.out]; exact hil))
      have HF := Hid.of (show ∀ x, s.data.toList[i]'(by rw [← HS.out]; exact hil) = x → vis x = false → r = false from fun x hx hb => by
        rw [← HR.out]
        unfold tgt
        have : s.data.toList.all vis = false := List.all_eq_false.2 ⟨_, List.getElem_mem (by rw [← HS.out]; exact hil), by rw [hx, hb]; simp⟩
        rw [this]; simp)
      generalize s.data.toList[i]'(by rw [← HS.out]; exact hil) = x at *
      replace HF := Hid.of (HF.out x rfl)
      have hx := x.toNat_lt
      by_cases h1 : x.toNat < 33
      · have z1 : (x.toNat : Int) < 33 := by omega
        have HE := Hid.of (HF.out (show vis x = false by unfold vis; rw [decide_eq_false (show ¬ 32 < x.toNat by omega)]; rfl))
        go_wp2
        go_ret
        rw [HE.out]
        exact ⟨rfl, HU.out.1⟩
      · have z1 : ¬ (x.toNat : Int) < 33 := by omega
        by_cases h2 : 126 < x.toNat
        · have z2 : (126 : Int) < (x.toNat : Int) := by omega
          have HE := Hid.of (HF.out (show vis x = false by unfold vis; rw [decide_eq_false (show ¬ x.toNat < 127 by omega), Bool.and_false]))
          go_wp2
          go_ret
          rw [HE.out]
          exact ⟨rfl, HU.out.1⟩
        · have z2 : ¬ (126 : Int) < (x.toNat : Int) := by omega
          have HY := Hid.of (show vis x = true by unfold vis; rw [decide_eq_true (show 32 < x.toNat by omega), decide_eq_true (show x.toNat < 127 by omega)]; rfl)
          go_wp2
          go_roundw
          all_goals first
            | exact ⟨i + 1, by go_num, by omega, Hid.of ⟨HU.out.1, by rw [HQ.out, HU.out.2, HY.out]; rfl⟩⟩
            | (simp [intOf]; omega)
    · have hilz : ¬ (i : Int) < (s.size : Int) := by omega
      have hal : s.data.toList.all vis = true := by
        have h1 := HU.out.2
        rw [List.take_of_length_le (by rw [← HS.out]; omega)] at h1
        exact h1
      have HT := Hid.of (show r = !(s.toList.isEmpty) by
        rw [← HR.out, Go.Lib.toList_data]
        unfold tgt
        rw [hal]
        simp)
      clear hal
      cases hb : s.toList.isEmpty with
      | true =>
        rw [hb] at HT
        go_wp2
        go_ret
        rw [HT.out]
        exact ⟨rfl, HU.out.1⟩
      | false =>
        rw [hb] at HT
        go_wp2
        go_ret
        rw [HT.out]
        exact ⟨rfl, HU.out.1⟩
set_option maxRecDepth 100000 in
set_option maxHeartbeats 1000000 in
theorem Rvalued_walk (s : ByteArray) (hs : s.size ≤ 1099511627776) (w : World) : Calls Tryz.prog 81 #[.string s] w fun e w' => e = .returned (.bool (vlu s.data.toList)) ∧ Up w w' := by
  have HS := Hid.of (show s.size = s.data.toList.length from Go.Lib.size_eq s)
  obtain ⟨r, hr⟩ : ∃ r, vlu s.data.toList = r := ⟨_, rfl⟩
  have HR := Hid.of hr
  rw [hr]
  clear hr
  go_enter Tryz.func81, Tryz.ntmps81
  go_wp2
  go_loopw [3] (fun v3 wr => ∃ i : Nat, v3 = .int .i64 (i : Int) ∧ i ≤ s.size ∧ Hid (Up w wr ∧ (s.data.toList.take i).all vlc = true)) (fun v3 _ => s.size - (intOf v3).toNat)
  case atStart => exact ⟨0, rfl, Nat.zero_le _, Hid.of ⟨Up.refl _, rfl⟩⟩
  case round =>
    obtain ⟨i, rfl, hi, hU⟩ := hrel
    have HU := Hid.of hU.out
    clear hU
    by_cases hil : i < s.size
    · have hilz : (i : Int) < (s.size : Int) := by omega
      have hg := sget' s i hil
      have HQ := Hid.of (vlc_take (l := s.data.toList) (i := i) (by rw [← HS.out]; exact hil))
      have HF := Hid.of (show ∀ x, s.data.toList[i]'(by rw [← HS.out]; exact hil) = x → vlc x = false → r = false from fun x hx hb => by
        rw [← HR.out]
        unfold vlu
        have : s.data.toList.all vlc = false := List.all_eq_false.2 ⟨_, List.getElem_mem (by rw [← HS.out]; exact hil), by rw [hx, hb]; simp⟩
        rw [this])
      generalize s.data.toList[i]'(by rw [← HS.out]; exact hil) = x at *
      replace HF := Hid.of (HF.out x rfl)
      have hx := x.toNat_lt
      by_cases h1 : x.toNat = 9
      · have z1 : ((x.toNat : Int) != 9) = false := by rw [h1]; rfl
        have h1b : x = 9 := UInt8.toNat_inj.1 h1
        have HY := Hid.of (show vlc x = true by rw [h1b]; decide)
        clear h1b h1
        go_wp2
        go_roundw
        all_goals first
          | exact ⟨i + 1, by go_num, by omega, Hid.of ⟨HU.out.1, by rw [HQ.out, HU.out.2, HY.out]; rfl⟩⟩
          | (simp [intOf]; omega)
      · have z1 : ((x.toNat : Int) != 9) = true := by rw [bne_iff_ne]; omega
        have h1b : (x == 9) = false := by rw [beq_eq_false_iff_ne]; intro e; apply h1; rw [e]; rfl
        by_cases h2 : x.toNat < 32
        · have z2 : (x.toNat : Int) < 32 := by omega
          have HE := Hid.of (HF.out (show vlc x = false by unfold vlc ctl; rw [h1b, decide_eq_true h2]; rfl))
          go_wp2
          go_ret
          rw [HE.out]
          exact ⟨rfl, HU.out.1⟩
        · have z2 : ¬ (x.toNat : Int) < 32 := by omega
          by_cases h3 : x.toNat = 127
          · have z3 : ((x.toNat : Int) == 127) = true := by rw [h3]; rfl
            have HE := Hid.of (HF.out (show vlc x = false by unfold vlc ctl; rw [h1b, decide_eq_true h3, Bool.or_true]; rfl))
            go_wp2
            go_ret
            rw [HE.out]
            exact ⟨rfl, HU.out.1⟩
          · have z3 : ((x.toNat : Int) == 127) = false := by rw [beq_eq_false_iff_ne]; omega
            have HY := Hid.of (show vlc x = true by unfold vlc ctl; rw [decide_eq_false h2, decide_eq_false h3]; rfl)
            go_wp2
            go_roundw
            all_goals first
              | exact ⟨i + 1, by go_num, by omega, Hid.of ⟨HU.out.1, by rw [HQ.out, HU.out.2, HY.out]; rfl⟩⟩
              | (simp [intOf]; omega)
    · have hilz : ¬ (i : Int) < (s.size : Int) := by omega
      have hal : s.data.toList.all vlc = true := by
        have h1 := HU.out.2
        rw [List.take_of_length_le (by rw [← HS.out]; omega)] at h1
        exact h1
      have HT := Hid.of (show r = true by
        rw [← HR.out]
        unfold vlu
        exact hal)
      clear hal
      go_wp2
      go_ret
      rw [HT.out]
      exact ⟨rfl, HU.out.1⟩
set_option maxRecDepth 100000 in
set_option maxHeartbeats 1000000 in
theorem Rtoken_walk (s : ByteArray) (hs : s.size ≤ 1099511627776) (w : World) : Calls Tryz.prog 33 #[.string s] w fun e w' => e = .returned (.bool (tok s.data.toList)) ∧ Up w w' := by
  have HS := Hid.of (show s.size = s.data.toList.length from Go.Lib.size_eq s)
  obtain ⟨r, hr⟩ : ∃ r, tok s.data.toList = r := ⟨_, rfl⟩
  have HR := Hid.of hr
  rw [hr]
  clear hr
  go_enter Tryz.func33, Tryz.ntmps33
  go_wp2
  go_loopw [3] (fun v3 wr => ∃ i : Nat, v3 = .int .i64 (i : Int) ∧ i ≤ s.size ∧ Hid (Up w wr ∧ (s.data.toList.take i).all tkc = true)) (fun v3 _ => s.size - (intOf v3).toNat)
  case atStart => exact ⟨0, rfl, Nat.zero_le _, Hid.of ⟨Up.refl _, rfl⟩⟩
  case round =>
    obtain ⟨i, rfl, hi, hU⟩ := hrel
    have HU := Hid.of hU.out
    clear hU
    by_cases hil : i < s.size
    · have hilz : (i : Int) < (s.size : Int) := by omega
      have hg := sget' s i hil
      have HQ := Hid.of (tkc_take (l := s.data.toList) (i := i) (by rw [← HS.out]; exact hil))
      have HF := Hid.of (show ∀ x, s.data.toList[i]'(by rw [← HS.out]; exact hil) = x → tkc x = false → r = false from fun x hx hb => by
        rw [← HR.out]
        unfold tok
        have : s.data.toList.all tkc = false := List.all_eq_false.2 ⟨_, List.getElem_mem (by rw [← HS.out]; exact hil), by rw [hx, hb]; simp⟩
        rw [this]; simp)
      generalize s.data.toList[i]'(by rw [← HS.out]; exact hil) = x at *
      replace HF := Hid.of (HF.out x rfl)
      go_wp2_with fail
      refine (Rletter_walk x wr).mono ?_
      rintro e w9 ⟨rfl, h9⟩
      obtain rfl := h9.symm
      clear h9
      dsimp only
      cases h1 : rlt x with
      | true =>
        have HY := Hid.of (show tkc x = true by rw [tkc_ref, h1]; rfl)
        go_wp2
        go_roundw
        all_goals first
          | exact ⟨i + 1, by go_num, by omega, Hid.of ⟨HU.out.1, by rw [HQ.out, HU.out.2, HY.out]; rfl⟩⟩
          | (simp [intOf]; omega)
      | false =>
        go_wp2_with fail
        refine (Rdigit_walk x wr).mono ?_
        rintro e w9 ⟨rfl, h9⟩
        obtain rfl := h9.symm
        clear h9
        dsimp only
        cases h2 : isD x with
        | true =>
          have HY := Hid.of (show tkc x = true by rw [tkc_ref, h1, h2]; rfl)
          go_wp2
          go_roundw
          all_goals first
            | exact ⟨i + 1, by go_num, by omega, Hid.of ⟨HU.out.1, by rw [HQ.out, HU.out.2, HY.out]; rfl⟩⟩
            | (simp [intOf]; omega)
        | false =>
          go_wp2_with fail
          refine (Ramong_walk rtk x (by decide) wr).mono ?_
          rintro e w9 ⟨rfl, h9⟩
          obtain rfl := h9.symm
          clear h9
          dsimp only
          cases h3 : rtk.data.toList.contains x with
          | true =>
            have HY := Hid.of (show tkc x = true by rw [tkc_ref, h1, h2, h3]; rfl)
            go_wp2
            go_roundw
            all_goals first
              | exact ⟨i + 1, by go_num, by omega, Hid.of ⟨HU.out.1, by rw [HQ.out, HU.out.2, HY.out]; rfl⟩⟩
              | (simp [intOf]; omega)
          | false =>
            cases h4 : ((x.toNat : Int) == 96) with
            | true =>
              have z4 : ((x.toNat : Int) != 96) = false := by rw [bne, h4]; rfl
              have h5 : (x == 96) = true := by
                have h6 : x.toNat = 96 := by have := eq_of_beq h4; omega
                rw [beq_iff_eq]
                exact UInt8.toNat_inj.1 h6
              clear h4
              have HY := Hid.of (show tkc x = true by rw [tkc_ref, h1, h2, h3, h5]; rfl)
              go_wp2
              go_roundw
              all_goals first
                | exact ⟨i + 1, by go_num, by omega, Hid.of ⟨HU.out.1, by rw [HQ.out, HU.out.2, HY.out]; rfl⟩⟩
                | (simp [intOf]; omega)
            | false =>
              have z4 : ((x.toNat : Int) != 96) = true := by rw [bne, h4]; rfl
              have h5 : (x == 96) = false := by
                rw [beq_eq_false_iff_ne]
                intro e
                rw [e] at h4
                exact absurd h4 (by decide)
              clear h4
              have HE := Hid.of (HF.out (show tkc x = false by rw [tkc_ref, h1, h2, h3, h5]; rfl))
              go_wp2
              go_ret
              rw [HE.out]
              exact ⟨rfl, HU.out.1⟩
    · have hilz : ¬ (i : Int) < (s.size : Int) := by omega
      have hal : s.data.toList.all tkc = true := by
        have h1 := HU.out.2
        rw [List.take_of_length_le (by rw [← HS.out]; omega)] at h1
        exact h1
      have HT := Hid.of (show r = !(s.toList.isEmpty) by
        rw [← HR.out, Go.Lib.toList_data]
        unfold tok
        rw [hal]
        simp)
      clear hal
      cases hb : s.toList.isEmpty with
      | true =>
        rw [hb] at HT
        go_wp2
        go_ret
        rw [HT.out]
        exact ⟨rfl, HU.out.1⟩
      | false =>
        rw [hb] at HT
        go_wp2
        go_ret
        rw [HT.out]
        exact ⟨rfl, HU.out.1⟩
end Go.Proofs.YtkaoalcffgnfeaaGreatDoor
namespace Go.Proofs.YtkaoalcffgnfeaaGreatDoor
open Go.RowKit Go.Shelf TextNum
set_option maxRecDepth 100000 in
set_option maxHeartbeats 1000000 in
theorem RheadBytes_walk (a : Option Addr) (fs : List FD) (c : Nat) (w : World) (h : FdL w a fs c) (hl : szs fs ≤ 1099511627776) :
    Calls Tryz.prog 32 #[.slice a fs.length c] w fun e w' => e = .returned (.int .i64 ((szs fs : Nat) : Int)) ∧ Up w w' := by
  have HF := Hid.of h
  have hcap := h.cap
  have hsl := szs_len fs
  have HT := Hid.of (fun i => szs_take fs i)
  clear h
  obtain ⟨z, hz⟩ : ∃ z, szs fs = z := ⟨_, rfl⟩
  have HZ := Hid.of hz
  rw [hz] at hl hsl HT ⊢
  clear hz
  go_enter Tryz.func32, Tryz.ntmps32
  go_wp2
  go_loopw [3, 4] (fun v3 v4 wr => ∃ i k : Nat, v4 = .int .i64 (i : Int) ∧ v3 = .int .i64 (k : Int) ∧ i ≤ fs.length ∧ k ≤ z ∧ Hid (Up w wr ∧ szs (fs.take i) = k)) (fun _ v4 _ => fs.length - (intOf v4).toNat)
  case atStart => exact ⟨0, 2, rfl, rfl, Nat.zero_le _, by omega, Hid.of ⟨Up.refl _, rfl⟩⟩
  case round =>
    obtain ⟨i, k, rfl, rfl, hi, hkz, hU⟩ := hrel
    have HU := Hid.of hU.out
    clear hU
    by_cases hil : i < fs.length
    · have hilz : (i : Int) < (fs.length : Int) := by omega
      obtain ⟨b, off, rfl, k1, k2⟩ := HF.out.cells i hil
      have hT := List.take_succ_eq_append_getElem hil
      obtain ⟨f, hf⟩ : ∃ f, fs[i] = f := ⟨_, rfl⟩
      rw [hf] at k1 k2 hT
      have HK1 := Hid.of k1
      have HK2 := Hid.of k2
      have h5 := HT.out (i + 1)
      rw [hT, szs_snoc, HU.out.2] at h5
      have HS2 := Hid.of (show szs (fs.take (i + 1)) = k + szf f by rw [hT, szs_snoc, HU.out.2])
      have HZf := Hid.of (show szf f = f.n.size + f.v.size + 4 from rfl)
      have h6 : k + f.n.size + f.v.size + 4 ≤ z := by have := HZf.out; omega
      clear hf k1 k2 hT
      go_wp2
      refine wp_region_held_drew (S := fun w2 => Up w w2) (by kernel_rfl) HU.out.1.drew (fun hS => ?_)
      refine wpAnyH_take (i := 0) (oi := { dst := some 11, op := Go.Op.move (Go.Operand.tmp 3), type := 3, pos := "print.go:141", after := #[], guard := none }) (v := .int .i64 (k : Int)) rfl (by kernel_rfl) (by kernel_rfl) (by kernel_rfl) (fun _ _ _ h => h) (Or.inl ⟨by kernel_rfl, ?_⟩) hS ?_
      · intro w5 hSw
        clear hSw hS
        go_simp
      simp only [Act.put, List.setIfInBounds_toArray, List.set_cons_zero, List.set_cons_succ]
      refine wpAnyH_take (i := 1) (oi := { dst := some 12, op := Go.Op.move (Go.Operand.tmp 0), type := 42, pos := "print.go:141", after := #[], guard := none }) (v := .slice (some ⟨b, off, none⟩) fs.length c) rfl (by kernel_rfl) (by kernel_rfl) (by kernel_rfl) (fun _ _ _ h => h) (Or.inl ⟨by kernel_rfl, ?_⟩) hS ?_
      · intro w5 hSw
        clear hSw hS
        go_simp
      simp only [Act.put, List.setIfInBounds_toArray, List.set_cons_zero, List.set_cons_succ]
      refine wpAnyH_take (i := 2) (oi := { dst := some 13, op := Go.Op.move (Go.Operand.tmp 4), type := 3, pos := "print.go:141", after := #[], guard := none }) (v := .int .i64 (i : Int)) rfl (by kernel_rfl) (by kernel_rfl) (by kernel_rfl) (fun _ _ _ h => h) (Or.inl ⟨by kernel_rfl, ?_⟩) hS ?_
      · intro w5 hSw
        clear hSw hS
        go_simp
      simp only [Act.put, List.setIfInBounds_toArray, List.set_cons_zero, List.set_cons_succ]
      refine wpAnyH_take (i := 3) (oi := { dst := some 14, op := Go.Op.indexAddr 42 (Go.Operand.tmp 12) (Go.Operand.tmp 13), type := 0, pos := "print.go:141", after := #[{ on := 1, ground := Go.Ground.data }, { on := 2, ground := Go.Ground.data }], guard := none }) (v := .pointer (some ⟨b, off + i * 2, none⟩)) rfl (by kernel_rfl) (by kernel_rfl) (by kernel_rfl) (fun _ _ _ h => h) (Or.inl ⟨by kernel_rfl, ?_⟩) hS ?_
      · intro w5 hSw
        clear hSw hS
        exact exec_idxRf i hil rfl rfl rfl
      simp only [Act.put, List.setIfInBounds_toArray, List.set_cons_zero, List.set_cons_succ]
      refine wpAnyH_take (i := 4) (oi := { dst := some 15, op := Go.Op.fieldAddr 85 (Go.Operand.tmp 14) 0, type := 0, pos := "print.go:141", after := #[{ on := 3, ground := Go.Ground.data }], guard := none }) (v := .pointer (some ⟨b, off + i * 2, none⟩)) rfl (by kernel_rfl) (by kernel_rfl) (by kernel_rfl) (fun _ _ _ h => h) (Or.inl ⟨by kernel_rfl, ?_⟩) hS ?_
      · intro w5 hSw
        clear hSw hS
        go_simp
      simp only [Act.put, List.setIfInBounds_toArray, List.set_cons_zero, List.set_cons_succ]
      refine wpAnyH_take (i := 5) (oi := { dst := some 16, op := Go.Op.load 9 (Go.Operand.tmp 15), type := 9, pos := "print.go:141", after := #[{ on := 4, ground := Go.Ground.data }], guard := none }) (v := .string f.n) rfl (by kernel_rfl) (by kernel_rfl) (by kernel_rfl) (fun _ _ _ h => h) (Or.inl ⟨by kernel_rfl, ?_⟩) hS ?_
      · intro w5 hSw
        have h0 := hSw.cell HK1.out
        clear hSw hS
        go_simp
      simp only [Act.put, List.setIfInBounds_toArray, List.set_cons_zero, List.set_cons_succ]
      refine wpAnyH_take (i := 6) (oi := { dst := some 17, op := Go.Op.call { callee := Go.Callee.builtin Go.Builtin.len, args := #[Go.Operand.tmp 16], argTypes := #[9] }, type := 3, pos := "print.go:141", after := #[{ on := 5, ground := Go.Ground.data }], guard := none }) (v := .int .i64 (f.n.size : Int)) rfl (by kernel_rfl) (by kernel_rfl) (by kernel_rfl) (fun _ _ _ h => h) (Or.inl ⟨by kernel_rfl, ?_⟩) hS ?_
      · intro w5 hSw
        clear hSw hS
        go_simp
      simp only [Act.put, List.setIfInBounds_toArray, List.set_cons_zero, List.set_cons_succ]
      refine wpAnyH_take (i := 7) (oi := { dst := some 18, op := Go.Op.binOp Go.BinOp.add 3 (Go.Operand.tmp 11) (Go.Operand.tmp 17) 3, type := 3, pos := "print.go:141", after := #[{ on := 0, ground := Go.Ground.data }, { on := 6, ground := Go.Ground.data }], guard := none }) (v := .int .i64 ((k : Int) + (f.n.size : Int))) rfl (by kernel_rfl) (by kernel_rfl) (by kernel_rfl) (fun _ _ _ h => h) (Or.inl ⟨by kernel_rfl, ?_⟩) hS ?_
      · intro w5 hSw
        clear hSw hS
        go_simp
        rw [IntKind.wrap_i64]
        omega
      simp only [Act.put, List.setIfInBounds_toArray, List.set_cons_zero, List.set_cons_succ]
      refine wpAnyH_take (i := 8) (oi := { dst := some 19, op := Go.Op.move (Go.Operand.tmp 0), type := 42, pos := "print.go:141", after := #[], guard := none }) (v := .slice (some ⟨b, off, none⟩) fs.length c) rfl (by kernel_rfl) (by kernel_rfl) (by kernel_rfl) (fun _ _ _ h => h) (Or.inl ⟨by kernel_rfl, ?_⟩) hS ?_
      · intro w5 hSw
        clear hSw hS
        go_simp
      simp only [Act.put, List.setIfInBounds_toArray, List.set_cons_zero, List.set_cons_succ]
      refine wpAnyH_take (i := 9) (oi := { dst := some 20, op := Go.Op.move (Go.Operand.tmp 4), type := 3, pos := "print.go:141", after := #[], guard := none }) (v := .int .i64 (i : Int)) rfl (by kernel_rfl) (by kernel_rfl) (by kernel_rfl) (fun _ _ _ h => h) (Or.inl ⟨by kernel_rfl, ?_⟩) hS ?_
      · intro w5 hSw
        clear hSw hS
        go_simp
      simp only [Act.put, List.setIfInBounds_toArray, List.set_cons_zero, List.set_cons_succ]
      refine wpAnyH_take (i := 10) (oi := { dst := some 21, op := Go.Op.indexAddr 42 (Go.Operand.tmp 19) (Go.Operand.tmp 20), type := 0, pos := "print.go:141", after := #[{ on := 8, ground := Go.Ground.data }, { on := 9, ground := Go.Ground.data }], guard := none }) (v := .pointer (some ⟨b, off + i * 2, none⟩)) rfl (by kernel_rfl) (by kernel_rfl) (by kernel_rfl) (fun _ _ _ h => h) (Or.inl ⟨by kernel_rfl, ?_⟩) hS ?_
      · intro w5 hSw
        clear hSw hS
        exact exec_idxRf i hil rfl rfl rfl
      simp only [Act.put, List.setIfInBounds_toArray, List.set_cons_zero, List.set_cons_succ]
      refine wpAnyH_take (i := 11) (oi := { dst := some 22, op := Go.Op.fieldAddr 85 (Go.Operand.tmp 21) 1, type := 0, pos := "print.go:141", after := #[{ on := 10, ground := Go.Ground.data }], guard := none }) (v := .pointer (some ⟨b, off + i * 2 + 1, none⟩)) rfl (by kernel_rfl) (by kernel_rfl) (by kernel_rfl) (fun _ _ _ h => h) (Or.inl ⟨by kernel_rfl, ?_⟩) hS ?_
      · intro w5 hSw
        clear hSw hS
        go_simp
      simp only [Act.put, List.setIfInBounds_toArray, List.set_cons_zero, List.set_cons_succ]
      refine wpAnyH_take (i := 12) (oi := { dst := some 23, op := Go.Op.load 9 (Go.Operand.tmp 22), type := 9, pos := "print.go:141", after := #[{ on := 11, ground := Go.Ground.data }], guard := none }) (v := .string f.v) rfl (by kernel_rfl) (by kernel_rfl) (by kernel_rfl) (fun _ _ _ h => h) (Or.inl ⟨by kernel_rfl, ?_⟩) hS ?_
      · intro w5 hSw
        have h0 := hSw.cell HK2.out
        clear hSw hS
        go_simp
      simp only [Act.put, List.setIfInBounds_toArray, List.set_cons_zero, List.set_cons_succ]
      refine wpAnyH_take (i := 13) (oi := { dst := some 24, op := Go.Op.call { callee := Go.Callee.builtin Go.Builtin.len, args := #[Go.Operand.tmp 23], argTypes := #[9] }, type := 3, pos := "print.go:141", after := #[{ on := 12, ground := Go.Ground.data }], guard := none }) (v := .int .i64 (f.v.size : Int)) rfl (by kernel_rfl) (by kernel_rfl) (by kernel_rfl) (fun _ _ _ h => h) (Or.inl ⟨by kernel_rfl, ?_⟩) hS ?_
      · intro w5 hSw
        clear hSw hS
        go_simp
      simp only [Act.put, List.setIfInBounds_toArray, List.set_cons_zero, List.set_cons_succ]
      refine wpAnyH_take (i := 14) (oi := { dst := some 25, op := Go.Op.binOp Go.BinOp.add 3 (Go.Operand.tmp 18) (Go.Operand.tmp 24) 3, type := 3, pos := "print.go:141", after := #[{ on := 7, ground := Go.Ground.data }, { on := 13, ground := Go.Ground.data }], guard := none }) (v := .int .i64 ((k : Int) + (f.n.size : Int) + (f.v.size : Int))) rfl (by kernel_rfl) (by kernel_rfl) (by kernel_rfl) (fun _ _ _ h => h) (Or.inl ⟨by kernel_rfl, ?_⟩) hS ?_
      · intro w5 hSw
        clear hSw hS
        go_simp
        rw [IntKind.wrap_i64]
        omega
      simp only [Act.put, List.setIfInBounds_toArray, List.set_cons_zero, List.set_cons_succ]
      refine wpAnyH_take (i := 15) (oi := { dst := some 26, op := Go.Op.binOp Go.BinOp.add 3 (Go.Operand.tmp 25) (Go.Operand.const (Go.Value.int Go.IntKind.i64 4)) 3, type := 3, pos := "print.go:141", after := #[{ on := 14, ground := Go.Ground.data }], guard := none }) (v := .int .i64 ((k + szf f : Nat) : Int)) rfl (by kernel_rfl) (by kernel_rfl) (by kernel_rfl) (fun _ _ _ h => h) (Or.inl ⟨by kernel_rfl, ?_⟩) hS ?_
      · intro w5 hSw
        clear hSw hS
        have hzf := HZf.out
        go_simp
        rw [IntKind.wrap_i64]
        all_goals omega
      simp only [Act.put, List.setIfInBounds_toArray, List.set_cons_zero, List.set_cons_succ]
      refine wpAnyH_take (i := 16) (oi := { dst := some 3, op := Go.Op.assign (Go.Operand.tmp 26), type := 3, pos := "print.go:141", after := #[{ on := 15, ground := Go.Ground.data }, { on := 0, ground := Go.Ground.phase }, { on := 1, ground := Go.Ground.phase }, { on := 2, ground := Go.Ground.phase }, { on := 3, ground := Go.Ground.phase }, { on := 4, ground := Go.Ground.phase }, { on := 5, ground := Go.Ground.phase }, { on := 6, ground := Go.Ground.phase }, { on := 7, ground := Go.Ground.phase }, { on := 8, ground := Go.Ground.phase }, { on := 9, ground := Go.Ground.phase }, { on := 10, ground := Go.Ground.phase }, { on := 11, ground := Go.Ground.phase }, { on := 12, ground := Go.Ground.phase }, { on := 13, ground := Go.Ground.phase }, { on := 14, ground := Go.Ground.phase }, { on := 15, ground := Go.Ground.phase }], guard := none }) (v := .int .i64 ((k + szf f : Nat) : Int)) rfl (by kernel_rfl) (by kernel_rfl) (by kernel_rfl) (fun _ _ _ h => h) (Or.inl ⟨by kernel_rfl, ?_⟩) hS ?_
      · intro w5 hSw
        clear hSw hS
        go_simp
      simp only [Act.put, List.setIfInBounds_toArray, List.set_cons_zero, List.set_cons_succ]
      clear hS
      refine wpAnyH_done (by kernel_rfl) ?_ _
      go_wp2
      go_roundw
      all_goals first
        | exact ⟨i + 1, k + szf f, by go_num, rfl, by omega, h5, Hid.of ⟨HU.out.1.drew, HS2.out⟩⟩
        | (simp [intOf]; omega)
    · have hilz : ¬ (i : Int) < (fs.length : Int) := by omega
      have HE := Hid.of (show k = z by rw [← HU.out.2, List.take_of_length_le (by omega)]; exact HZ.out)
      go_wp2
      go_ret
      rw [HE.out]
      exact ⟨rfl, HU.out.1⟩
def ckN : Option Nat → Int
  | none => 0
  | some k => nums k
set_option maxRecDepth 100000 in
set_option maxHeartbeats 1000000 in
theorem Rchecked_walk (a : Option Addr) (fs : List FD) (c : Nat) (w : World) (h : FdL w a fs c) (hl : szs fs ≤ 1099511627776) :
    Calls Tryz.prog 36 #[.slice a fs.length c] w fun e w' => e = .returned (.int .i64 (ckN (ckf fs))) ∧ Up w w' := by
  have HF := Hid.of h
  have hcap := h.cap
  have hsl := szs_len fs
  have HM := Hid.of (fun (f : FD) (hf : f ∈ fs) => show f.n.size ≤ 1099511627776 ∧ f.v.size ≤ 1099511627776 from by have := szs_mem fs hf; omega)
  clear h
  obtain ⟨rv, hrv⟩ : ∃ rv, ckN (ckf fs) = rv := ⟨_, rfl⟩
  have HR := Hid.of hrv
  rw [hrv]
  clear hrv
  go_enter Tryz.func36, Tryz.ntmps36
  by_cases h64 : 64 < fs.length
  · have h64z : (64 : Int) < (fs.length : Int) := by omega
    have HE := Hid.of (show rv = 2 by rw [← HR.out]; unfold ckf; rw [if_pos h64]; rfl)
    go_wp2
    go_ret
    rw [HE.out]
    exact ⟨rfl, Up.refl _⟩
  · have h64z : ¬ (64 : Int) < (fs.length : Int) := by omega
    go_wp2
    go_loopw [3] (fun v3 wr => ∃ i : Nat, v3 = .int .i64 (i : Int) ∧ i ≤ fs.length ∧ Hid (Up w wr ∧ (fs.take i).all mbf = true)) (fun v3 _ => fs.length - (intOf v3).toNat)
    case atStart => exact ⟨0, rfl, Nat.zero_le _, Hid.of ⟨Up.refl _, rfl⟩⟩
    case round =>
      obtain ⟨i, rfl, hi, hU⟩ := hrel
      have HU := Hid.of hU.out
      clear hU
      by_cases hil : i < fs.length
      · have hilz : (i : Int) < (fs.length : Int) := by omega
        obtain ⟨b, off, rfl, k1, k2⟩ := HF.out.cells i hil
        have HT := Hid.of (show (fs.take (i + 1)).all mbf = ((fs.take i).all mbf && mbf fs[i]) by rw [List.take_succ_eq_append_getElem hil, List.all_append]; simp)
        have hmm := HM.out _ (List.getElem_mem hil)
        have HFl := Hid.of (show mbf fs[i] = false → rv = 143 from fun hb => by
          rw [← HR.out]
          unfold ckf
          have : fs.all mbf = false := List.all_eq_false.2 ⟨_, List.getElem_mem hil, by rw [hb]; simp⟩
          rw [if_neg h64, this]
          rfl)
        generalize fs[i] = f at *
        obtain ⟨hfn, hfv⟩ := hmm
        have HMb := Hid.of (show mbf f = (tok f.n.data.toList && vlu f.v.data.toList) from rfl)
        have HK1 := Hid.of k1
        have HK2 := Hid.of k2
        clear k1 k2
        have c1 := HU.out.1.cell HK1.out
        go_wp2_with (with_reducible show wpList _ _ _ ({ dst := _, op := Op.indexAddr 42 _ _, type := _, pos := _, after := _, guard := _ } :: _) _ _; refine Shut.out ?_)
        show wpList _ _ _ _ _ _
        refine wpList_val7 (.pointer (some ⟨b, off + i * 2, none⟩)) rfl (exec_idxRf i hil rfl rfl rfl) ?_
        simp only [Act.put, List.setIfInBounds_toArray, List.set_cons_zero, List.set_cons_succ]
        go_wp2_with fail
        refine (Rtoken_walk f.n hfn wr).mono ?_
        rintro e w2 ⟨rfl, h9⟩
        have HU2 := Hid.of (HU.out.1.trans h9)
        clear h9 c1
        dsimp only
        cases ht : tok f.n.data.toList with
        | false =>
          have HE := Hid.of (HFl.out (by rw [HMb.out, ht]; rfl))
          go_wp2
          go_ret
          rw [HE.out]
          exact ⟨rfl, HU2.out⟩
        | true =>
          have c2 := HU2.out.cell HK2.out
          go_wp2_with (with_reducible show wpList _ _ _ ({ dst := _, op := Op.indexAddr 42 _ _, type := _, pos := _, after := _, guard := _ } :: _) _ _; refine Shut.out ?_)
          show wpList _ _ _ _ _ _
          refine wpList_valG (.pointer (some ⟨b, off + i * 2, none⟩)) (by kernel_rfl) (exec_idxRf i hil rfl rfl rfl) ?_
          simp only [Act.put, List.setIfInBounds_toArray, List.set_cons_zero, List.set_cons_succ]
          go_wp2_with fail
          refine (Rvalued_walk f.v hfv w2).mono ?_
          rintro e w3 ⟨rfl, h9⟩
          have HU3 := Hid.of (HU2.out.trans h9)
          clear h9 c2
          dsimp only
          cases hv : vlu f.v.data.toList with
          | false =>
            have HE := Hid.of (HFl.out (by rw [HMb.out, ht, hv]; rfl))
            go_wp2
            go_ret
            rw [HE.out]
            exact ⟨rfl, HU3.out⟩
          | true =>
            have HY := Hid.of (show (fs.take (i + 1)).all mbf = true by rw [HT.out, HU.out.2, HMb.out, ht, hv]; rfl)
            go_wp2
            go_roundw
            all_goals first
              | exact ⟨i + 1, by go_num, by omega, Hid.of ⟨HU3.out, HY.out⟩⟩
              | (simp [intOf]; omega)
      · have hilz : ¬ (i : Int) < (fs.length : Int) := by omega
        have HE := Hid.of (show rv = 0 by
          have h1 := HU.out.2
          rw [List.take_of_length_le (by omega)] at h1
          rw [← HR.out]
          unfold ckf
          rw [if_neg h64, h1]
          rfl)
        go_wp2
        go_ret
        rw [HE.out]
        exact ⟨rfl, HU.out.1⟩
end Go.Proofs.YtkaoalcffgnfeaaGreatDoor
namespace Go.Proofs.YtkaoalcffgnfeaaGreatDoor
open Go.RowKit Go.Shelf TextNum
theorem mtC_get {k : Nat} (h : k < 9) : mtC[k]? = some (.string (mtT.getD k ⟨#[]⟩)) := by
  unfold mtC
  rw [List.getElem?_map, List.getElem?_range h]
  rfl
set_option maxRecDepth 100000 in
set_option maxHeartbeats 1000000 in
theorem Rknown_walk (s : ByteArray) (w : World) (hG : w.rangeAt 1 0 mtC) : Calls Tryz.prog 35 #[.string s] w fun e w' => e = .returned (.bool (mtk s)) ∧ w' = w := by
  have HRn := Hid.of hG
  clear hG
  obtain ⟨rn, hrn⟩ : ∃ rn, mtk s = rn := ⟨_, rfl⟩
  have HN := Hid.of hrn
  rw [hrn]
  clear hrn
  go_enter Tryz.func35, Tryz.ntmps35
  go_wp2
  go_loopw [3] (fun v3 wr => ∃ i : Nat, v3 = .int .i64 (i : Int) ∧ i ≤ 9 ∧ Hid (wr = w ∧ ((mtT.take i).any fun m => s.toList == m.toList) = false)) (fun v3 _ => 9 - (intOf v3).toNat)
  case atStart => exact ⟨0, rfl, Nat.zero_le _, Hid.of ⟨rfl, rfl⟩⟩
  case round =>
    obtain ⟨i, rfl, hi, hU⟩ := hrel
    have HU := Hid.of hU.out
    clear hU
    by_cases hil : i < 9
    · have hiz : (i : Int) < 9 := by omega
      have hc : wr.cell? ⟨1, i, none⟩ = some (.string (mtT.getD i ⟨#[]⟩)) := by
        have h := HRn.out i _ (mtC_get hil)
        rw [Nat.zero_add] at h
        rw [HU.out.1]
        exact h
      have HX := Hid.of (show ((mtT.take (i + 1)).any fun m => s.toList == m.toList) = (s.toList == (mtT.getD i ⟨#[]⟩).toList) by
        rw [mtT_take hil, List.any_append, HU.out.2]
        simp)
      have HMm := Hid.of (mtT_mem hil)
      generalize mtT.getD i ⟨#[]⟩ = m at *
      cases hm : (m.toList == s.toList) with
      | true =>
        have HE := Hid.of (show rn = true by
          rw [← HN.out]
          unfold mtk
          rw [List.any_eq_true]
          exact ⟨m, HMm.out, by rw [beq_iff_eq] at hm ⊢; exact hm.symm⟩)
        go_wp2
        go_ret
        rw [HE.out]
        exact ⟨rfl, HU.out.1⟩
      | false =>
        have HY := Hid.of (show ((mtT.take (i + 1)).any fun m => s.toList == m.toList) = false by
          rw [HX.out, beq_eq_false_iff_ne]
          rw [beq_eq_false_iff_ne] at hm
          exact fun e => hm e.symm)
        go_wp2
        go_roundw
        all_goals first
          | exact ⟨i + 1, by go_num, by omega, Hid.of ⟨HU.out.1, HY.out⟩⟩
          | (simp [intOf]; omega)
    · have hiz : ¬ (i : Int) < 9 := by omega
      have HE := Hid.of (show rn = false by
        have h1 := HU.out.2
        rw [List.take_of_length_le (by show 9 ≤ i; omega)] at h1
        rw [← HN.out]
        exact h1)
      go_wp2
      go_ret
      rw [HE.out]
      exact ⟨rfl, HU.out.1⟩
/-- the reference's tables of statuses and words -/
def rsI : List Value := (List.range 24).map fun k => .int .i64 ((rsT.getD k (0, ⟨#[]⟩)).1)
def rsS : List Value := (List.range 24).map fun k => .string ((rsT.getD k (0, ⟨#[]⟩)).2)
theorem rsI_get {k : Nat} (h : k < 24) : rsI[k]? = some (.int .i64 ((rsT.getD k (0, ⟨#[]⟩)).1)) := by
  unfold rsI
  rw [List.getElem?_map, List.getElem?_range h]
  rfl
theorem rsS_get {k : Nat} (h : k < 24) : rsS[k]? = some (.string ((rsT.getD k (0, ⟨#[]⟩)).2)) := by
  unfold rsS
  rw [List.getElem?_map, List.getElem?_range h]
  rfl
set_option maxRecDepth 100000 in
set_option maxHeartbeats 1000000 in
theorem RReason_walk (st : Int) (h0 : -9223372036854775808 ≤ st) (h1 : st ≤ 9223372036854775807) (w : World) (hI : w.rangeAt 7 0 rsI) (hS : w.rangeAt 8 0 rsS) :
    Calls Tryz.prog 46 #[.int .i64 st] w fun e w' => e = .returned (vs (rsn st)) ∧ Up w w' := by
  have HI := Hid.of hI
  have HS := Hid.of hS
  clear hI hS
  obtain ⟨rn, hrn⟩ : ∃ rn, rsn st = rn := ⟨_, rfl⟩
  have HN := Hid.of hrn
  rw [hrn]
  clear hrn
  have hil20 := itoa_len st h0 h1
  go_enter Tryz.func46, Tryz.ntmps46
  go_wp2
  go_loopw [3] (fun v3 wr => ∃ i : Nat, v3 = .int .i64 (i : Int) ∧ i ≤ 24 ∧ Hid (wr = w ∧ (rsT.take i).find? (fun p => p.1 == st) = none)) (fun v3 _ => 24 - (intOf v3).toNat)
  case atStart => exact ⟨0, rfl, Nat.zero_le _, Hid.of ⟨rfl, rfl⟩⟩
  case round =>
    obtain ⟨i, rfl, hi, hU⟩ := hrel
    have HU := Hid.of hU.out
    clear hU
    by_cases hil : i < 24
    · have hiz : (i : Int) < 24 := by omega
      have hc : wr.cell? ⟨7, i, none⟩ = some (.int .i64 ((rsT.getD i (0, ⟨#[]⟩)).1)) := by
        have h := HI.out i _ (rsI_get hil)
        rw [Nat.zero_add] at h
        rw [HU.out.1]
        exact h
      have hd : wr.cell? ⟨8, i, none⟩ = some (.string ((rsT.getD i (0, ⟨#[]⟩)).2)) := by
        have h := HS.out i _ (rsS_get hil)
        rw [Nat.zero_add] at h
        rw [HU.out.1]
        exact h
      have HT := Hid.of (rsT_take hil)
      have HSp := Hid.of (rsT_split hil)
      generalize rsT.getD i (0, ⟨#[]⟩) = p at *
      cases hp : (p.1 == st) with
      | true =>
        have HE := Hid.of (show rn = p.2.data.toList by
          rw [← HN.out]
          unfold rsn
          rw [HSp.out, List.find?_append, HU.out.2, List.find?_cons, hp]
          rfl)
        go_wp2
        go_ret
        rw [HE.out, vs_data']
        exact ⟨rfl, by rw [HU.out.1]; exact Up.refl _⟩
      | false =>
        have HY := Hid.of (show (rsT.take (i + 1)).find? (fun p => p.1 == st) = none by
          rw [HT.out, List.find?_append, HU.out.2, List.find?_cons, hp]
          rfl)
        go_wp2
        go_roundw
        all_goals first
          | exact ⟨i + 1, by go_num, by omega, Hid.of ⟨HU.out.1, HY.out⟩⟩
          | (simp [intOf]; omega)
    · have hiz : ¬ (i : Int) < 24 := by omega
      have HE := Hid.of (show rn = [83, 116, 97, 116, 117, 115, 32] ++ Go.Lib.itoa st by
        have h1 := HU.out.2
        rw [List.take_of_length_le (by show 24 ≤ i; omega)] at h1
        rw [← HN.out]
        unfold rsn
        rw [h1])
      go_wp2_with fail
      refine (RFormatNumber_walk st h0 h1 wr).mono ?_
      rintro e w2 ⟨rfl, h9⟩
      have HU2 := Hid.of (show Up w w2 by rw [← HU.out.1]; exact h9)
      clear h9
      rw [show vs (Go.Lib.itoa st) = .string ⟨(Go.Lib.itoa st).toArray⟩ from rfl]
      have hsz : (⟨(Go.Lib.itoa st).toArray⟩ : ByteArray).size = (Go.Lib.itoa st).length := by simp [ByteArray.size]
      have hl1 : ¬ 9223372036854775807 < 7 + (Go.Lib.itoa st).length := by omega
      dsimp only
      go_wp2
      go_ret
      refine ⟨?_, HU2.out⟩
      rw [HE.out]
      congr 1
end Go.Proofs.YtkaoalcffgnfeaaGreatDoor
