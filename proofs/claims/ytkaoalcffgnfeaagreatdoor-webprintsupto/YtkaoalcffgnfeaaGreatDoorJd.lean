import Derived.Test.YtkaoalcffgnfeaaGreatDoorYo
import Derived.Test.YtkaoalcffgnfeaaGreatDoorJc
import Derived.Test.YtkaoalcffgnfeaaGreatDoorYd
import Derived.Test.YtkaoalcffgnfeaaGreatDoorYu
namespace Go.Proofs.YtkaoalcffgnfeaaGreatDoor
open Go.RowKit TextNum
abbrev RfO (w : World) (N : Nat) (a : Option Addr) (fs : List FD) (c : Nat) : Prop := w.ownsRow N 85 2 (.slice a fs.length c) fs.length (fdc fs)
theorem RfO.fdl {w : World} {N : Nat} {a : Option Addr} {fs : List FD} {c : Nat} (h : RfO w N a fs c) : FdL w a fs c := by
 refine ⟨?_, fun i hi => ?_⟩
 · rcases h.2 with ⟨_, h0⟩ | ⟨g, cap, cur, e, _, _, hc, _⟩
   · omega
   · injection e with _ _ e3
     omega
 · rcases h.2 with ⟨_, h0⟩ | ⟨g, cap, cur, e, _, _, hc, _⟩
   · omega
   · injection e with e1 _ e3
     subst e1 e3
     have hc := World.ownsRow.cells h rfl
     have h1 := hc (i * 2) _ (fdc_get fs hi).1
     have h2 := hc (i * 2 + 1) _ (fdc_get fs hi).2
     rw [Addr.add_lit] at h1 h2
     exact ⟨g, 0, rfl, h1, h2⟩
theorem Tryz.infoRf : (Tryz.prog.info? 85).map (fun i => (i.zero, i.size, i.bytes)) = some (some (.agg #[.string ⟨#[]⟩, .string ⟨#[]⟩]), 2, 32) := by kernel_rfl
theorem exec_idxRf {o : Oper} {ρ : Operand → Value} {x y : Operand} {w : World} {b off n c : Nat} (i : Nat) (hi : i < n) (ho : o.op = .indexAddr 42 x y) (hx : ρ x = .slice (some ⟨b, off, none⟩) n c) (hy : ρ y = .int .i64 (i : Int)) : (execOp ρ o).run Tryz.prog w = .ok (.value (.pointer (some ⟨b, off + i * 2, none⟩))) w := by
 have hi' : (i : Int) < (n : Int) := by omega
 unfold execOp
 simp only [ho, hx, hy]
 go_simp
theorem wpList_appRf {w : World} {N q : Nat} {ops : Array Oper} {rest : List Oper} {o : Oper} {a : Act} {Q : Exit → Act → World → Prop} (hgd : o.guard = none) (x y : Operand)
 (ho : o.op = .call { callee := .builtin .append, args := #[x, y], argTypes := #[42, 42] }) (ax : Option Addr) (cx : Nat) (fs : List FD) (f : FD) (hq : fs.length = q) (hx : a.eval x = .slice ax q cx) (hy : a.eval y = .slice (some ⟨w.heap.size, 0, none⟩) 1 1)
 (hR : RfO w N ax fs cx) (hNw : N ≤ w.heap.size) (hql : q ≤ 1099511627776)
 (K : ∀ ax2 cx2 w', RfO w' N ax2 (fs ++ [f]) cx2 → (∀ W, Up W w → W.heap.size ≤ N → Up W w') → w.grownBy w' (Value.slice ax q cx).ownBlock → wpList Tryz.prog ops Q rest (a.put o.dst (.slice ax2 (q + 1) cx2)) w') :
 wpList Tryz.prog ops Q (o :: rest) a (w.alloc (.cells #[.string f.n, .string f.v] 85)) := by
 subst hq
 obtain ⟨i1, hi1, hz0, hz1, hz2⟩ := info_parts Tryz.infoRf
 have HUx := (Up.refl w).alloc (.cells #[.string f.n, .string f.v] 85)
 have hnu := ow_up hR HUx
 refine wpList_append_own _ hgd x y 42 ho N 85 i1 (.agg #[.string ⟨#[]⟩, .string ⟨#[]⟩]) 2 32 Tryz.underlying42 hi1 hz0 hz1 hz2 rfl (by omega) (.slice ax fs.length cx) fs.length _ hx hnu ⟨w.heap.size, 0, none⟩ 1 1 [.string f.n, .string f.v] hy rfl ?_ ?_ (by simp only [maxLen]; omega) (by omega) (Nat.le_trans hNw HUx.size) ?_
 · intro j u hu
   rw [Addr.add_lit]
   exact At.cell (at_new w 85 [.string f.n, .string f.v]) (i := 0 + j) (by rw [Nat.zero_add]; exact hu)
 · intro u hu
   simp only [List.mem_cons, List.not_mem_nil, or_false] at hu
   rcases hu with rfl | rfl <;> rfl
 intro v8 w8 o8 g8 _
 obtain ⟨ax2, cx2, rfl⟩ : ∃ ax2 cx2, v8 = .slice ax2 (fs.length + 1) cx2 := by
  rcases o8.2 with ⟨_, h0⟩ | ⟨g, cap, cur, e1, _⟩
  · omega
  · exact ⟨_, cap, e1⟩
 refine K ax2 cx2 w8 ?_ (fun W hU hW => up_grownBy (hU.trans HUx) g8 (fun k hk => Nat.le_trans hW (World.ownsRow.lt hR k hk).1)) (up_grown HUx g8)
 show w8.ownsRow N 85 2 (.slice ax2 (fs ++ [f]).length cx2) (fs ++ [f]).length (fdc (fs ++ [f]))
 rw [List.length_append, fdc_snoc]
 exact o8
end Go.Proofs.YtkaoalcffgnfeaaGreatDoor
namespace Go.Proofs.YtkaoalcffgnfeaaGreatDoor
open Go.RowKit Go.Shelf TextNum
def clw : ByteArray := ⟨#[99, 111, 110, 116, 101, 110, 116, 45, 108, 101, 110, 103, 116, 104]⟩
def tew : ByteArray := ⟨#[116, 114, 97, 110, 115, 102, 101, 114, 45, 101, 110, 99, 111, 100, 105, 110, 103]⟩
theorem kep_lws (f : FD) : kep f = !(lws f.n.data.toList == clw.data.toList || lws f.n.data.toList == tew.data.toList) := by
 unfold kep kdf kdp
 generalize lws f.n.data.toList = x
 by_cases h1 : x = lws (kdT.getD 0 (⟨#[]⟩, 0)).1.data.toList
 · subst h1; decide +kernel
 · by_cases h2 : x = lws (kdT.getD 1 (⟨#[]⟩, 0)).1.data.toList
   · subst h2; decide +kernel
   · by_cases h3 : x = lws (kdT.getD 2 (⟨#[]⟩, 0)).1.data.toList
     · subst h3; decide +kernel
     · by_cases h4 : x = lws (kdT.getD 3 (⟨#[]⟩, 0)).1.data.toList
       · subst h4; decide +kernel
       · have e3 : lws (kdT.getD 2 (⟨#[]⟩, 0)).1.data.toList = tew.data.toList := by decide +kernel
         have e4 : lws (kdT.getD 3 (⟨#[]⟩, 0)).1.data.toList = clw.data.toList := by decide +kernel
         have hf : kdT.find? (fun p => lws p.1.data.toList == x) = none := by
          rw [List.find?_eq_none]
          intro p hp
          rw [beq_iff_eq]
          intro e
          have hk : kdT = [kdT.getD 0 (⟨#[]⟩, 0), kdT.getD 1 (⟨#[]⟩, 0), kdT.getD 2 (⟨#[]⟩, 0), kdT.getD 3 (⟨#[]⟩, 0)] := rfl
          rw [hk] at hp
          simp only [List.mem_cons, List.not_mem_nil, or_false] at hp
          rcases hp with rfl | rfl | rfl | rfl
          · exact h1 e.symm
          · exact h2 e.symm
          · exact h3 e.symm
          · exact h4 e.symm
         rw [e3] at h3
         rw [e4] at h4
         rw [hf]
         simp [h3, h4]
def tld (fs : List FD) (len : Int) : List FD := if 0 ≤ len then pfs fs ++ [lnf len.toNat] else pfs fs
set_option maxRecDepth 100000 in
set_option maxHeartbeats 2000000 in
theorem Rprinted_walk (a : Option Addr) (fs : List FD) (c : Nat) (len : Int) (w : World) (h : FdL w a fs c) (hl : szs fs ≤ 1099511627776) (hlen : len ≤ 1099511627776) (hlen0 : -1 ≤ len) :
 Calls Tryz.prog 30 #[.slice a fs.length c, .int .i64 len] w fun e w' => (∃ a2 c2, e = .returned (.slice a2 (tld fs len).length c2) ∧ Hd (RfO w' w.heap.size a2 (tld fs len) c2)) ∧ Up w w' := by
 have HF := Ho h
 have hcap := h.cap
 have hsl := szs_len fs
 have HZ := Ho (fun i => Nat.le_trans (szs_take fs i) hl)
 clear h hl
 have hfl : fs.length ≤ 1099511627776 := by have := HZ.o fs.length; rw [List.take_length] at this; omega
 clear hsl
 go_enter Tryz.func30, Tryz.ntmps30
 go_wp2
 go_loopw [5, 6] (fun v5 v6 wr => ∃ i : Nat, v6 = .int .i64 (i : Int) ∧ i ≤ fs.length ∧ ∃ q a7 c7, v5 = .slice a7 q c7 ∧ q ≤ i ∧ Hd (RfO wr w.heap.size a7 (pfs (fs.take i)) c7 ∧ Up w wr ∧ (pfs (fs.take i)).length = q)) (fun _ v6 _ => fs.length - (intOf v6).toNat)
 case atStart => exact ⟨0, rfl, Nat.zero_le _, 0, none, 0, rfl, Nat.le_refl _, Ho ⟨World.ownsRow_nil _ _ _ _, Up.refl _, rfl⟩⟩
 case round =>
  obtain ⟨i, rfl, hi, q, a7, c7, rfl, hqi, hU⟩ := hrel
  have HQ := Ho hU.o
  clear hU
  by_cases hil : i < fs.length
  · have hilz : (i : Int) < (fs.length : Int) := by omega
    obtain ⟨b, off, rfl, k1, k2⟩ := HF.o.cells i hil
    have HT := Ho (List.take_succ_eq_append_getElem hil)
    obtain ⟨f, hf⟩ := ny (fs[i])
    rw [hf] at k1 k2 HT
    have HK1 := Ho k1
    have HK2 := Ho k2
    have h5 := HZ.o (i + 1)
    rw [HT.o, szs_snoc] at h5
    unfold szf at h5
    have hfv : f.v.size ≤ 1099511627776 := by omega
    have hfn : f.n.size ≤ 1099511627776 := by omega
    have HLn := Ho HQ.o.2.2
    have k3 := HQ.o.2.1.cell k1
    clear hf k1 k2 h5
    go_wp2_with (with_reducible refine sI 42 ?_)
    show wpList _ _ _ _ _ _
    refine wpList_val7 (.pointer (some ⟨b, off + i * 2, none⟩)) rfl (exec_idxRf i hil rfl rfl rfl) ?_
    simp only [Act.put, pB, pC, pD]
    go_wp2_with fail
    refine (lowerL_walk f.n wr hfn).mono ?_
    rintro e w4 ⟨rfl, u5⟩
    have HU4 := Ho (HQ.o.2.1.trans u5)
    have HO4 := Ho (ow_up HQ.o.1 u5)
    clear u5 HQ k3
    have HNm0 : (⟨(lws f.n.data.toList).toArray⟩ : ByteArray).data.toList = lws f.n.data.toList := rfl
    generalize (⟨(lws f.n.data.toList).toArray⟩ : ByteArray) = nm at HNm0 ⊢
    have HNm := Ho HNm0
    clear HNm0
    dsimp only
    have e1 : (nm.toList == [99, 111, 110, 116, 101, 110, 116, 45, 108, 101, 110, 103, 116, 104]) = (nm.data.toList == clw.data.toList) := by rw [Go.Lib.toList_data]; rfl
    have e2 : (nm.toList == [116, 114, 97, 110, 115, 102, 101, 114, 45, 101, 110, 99, 111, 100, 105, 110, 103]) = (nm.data.toList == tew.data.toList) := by rw [Go.Lib.toList_data]; rfl
    cases h3 : (nm.data.toList == clw.data.toList) with
    | true =>
     rw [h3] at e1
     clear e2
     have HS7 := Ho (show pfs (fs.take (i + 1)) = pfs (fs.take i) by rw [HT.o, pfs_no (by rw [kep_lws, ← HNm.o]; simp [h3])])
     have HO8 := Ho (show RfO w4 w.heap.size a7 (pfs (fs.take (i + 1))) c7 by rw [HS7.o]; exact HO4.o)
     have HL8 := Ho (show (pfs (fs.take (i + 1))).length = q by rw [HS7.o]; exact HLn.o)
     go_wp2
     go_roundw
     all_goals first
      | exact ⟨i + 1, by go_num, by omega, q, a7, c7, rfl, by omega, Ho ⟨HO8.o, HU4.o, HL8.o⟩⟩
      | (simp [intOf]; omega)
    | false =>
     rw [h3] at e1
     cases h4 : (nm.data.toList == tew.data.toList) with
     | true =>
      rw [h4] at e2
      have HS7 := Ho (show pfs (fs.take (i + 1)) = pfs (fs.take i) by rw [HT.o, pfs_no (by rw [kep_lws, ← HNm.o]; simp [h3, h4])])
      have HO8 := Ho (show RfO w4 w.heap.size a7 (pfs (fs.take (i + 1))) c7 by rw [HS7.o]; exact HO4.o)
      have HL8 := Ho (show (pfs (fs.take (i + 1))).length = q by rw [HS7.o]; exact HLn.o)
      go_wp2
      go_roundw
      all_goals first
       | exact ⟨i + 1, by go_num, by omega, q, a7, c7, rfl, by omega, Ho ⟨HO8.o, HU4.o, HL8.o⟩⟩
       | (simp [intOf]; omega)
     | false =>
      rw [h4] at e2
      have HT2 := Ho (show pfs (fs.take (i + 1)) = pfs (fs.take i) ++ [tfd f] by rw [HT.o, pfs_yes (by rw [kep_lws, ← HNm.o]; simp [h3, h4])])
      have HL7 := Ho (show (pfs (fs.take (i + 1))).length = q + 1 by rw [HT2.o, List.length_append, HLn.o]; rfl)
      go_wp2
      refine wp_region_held_drew (S := fun w2 => Up w w2) (by kernel_rfl) HU4.o.drew (fun hS => ?_)
      refine tN 0 (some 26) (.move (.tmp 5)) 42 (.slice a7 q c7) hS ?_
      simp only [pA, pB, pC, pD]
      refine tN 1 (some 27) (.move (.tmp 0)) 42 (.slice (some ⟨b, off, none⟩) fs.length c) hS ?_
      simp only [pA, pB, pC, pD]
      refine tN 2 (some 28) (.move (.tmp 6)) 3 (.int .i64 (i : Int)) hS ?_
      simp only [pA, pB, pC, pD]
      refine tK 3 (some 29) (.indexAddr 42 (.tmp 27) (.tmp 28)) 0 (.pointer (some ⟨b, off + i * 2, none⟩)) hS ?_ ?_
      · intro _ _ w5 hSw
        clear hSw hS
        exact exec_idxRf i hil rfl rfl rfl
      simp only [pA, pB, pC, pD]
      refine tN 4 (some 30) (.fieldAddr 85 (.tmp 29) 0) 0 (.pointer (some ⟨b, off + i * 2, none⟩)) hS ?_
      simp only [pA, pB, pC, pD]
      refine tK 5 (some 31) (.load 9 (.tmp 30)) 9 (.string f.n) hS ?_ ?_
      · intro _ _ w5 hSw
        have h0 := hSw.cell HK1.o
        clear hSw hS
        go_simp
      simp only [pA, pB, pC, pD]
      refine tN 6 (some 32) (.move (.tmp 0)) 42 (.slice (some ⟨b, off, none⟩) fs.length c) hS ?_
      simp only [pA, pB, pC, pD]
      refine tN 7 (some 33) (.move (.tmp 6)) 3 (.int .i64 (i : Int)) hS ?_
      simp only [pA, pB, pC, pD]
      refine tK 8 (some 34) (.indexAddr 42 (.tmp 32) (.tmp 33)) 0 (.pointer (some ⟨b, off + i * 2, none⟩)) hS ?_ ?_
      · intro _ _ w5 hSw
        clear hSw hS
        exact exec_idxRf i hil rfl rfl rfl
      simp only [pA, pB, pC, pD]
      refine tN 9 (some 35) (.fieldAddr 85 (.tmp 34) 1) 0 (.pointer (some ⟨b, off + i * 2 + 1, none⟩)) hS ?_
      simp only [pA, pB, pC, pD]
      refine tK 10 (some 36) (.load 9 (.tmp 35)) 9 (.string f.v) hS ?_ ?_
      · intro _ _ w5 hSw
        have h0 := hSw.cell HK2.o
        clear hSw hS
        go_simp
      simp only [pA, pB, pC, pD]
      refine rD 11 (some 37) (.call ⟨.value (.func 77), #[.tmp 36], #[9]⟩) 9 fun _ _ K hK => ?_
      rw [if_pos (by kernel_rfl)]
      go_simp
      refine (Rtrim_walk f.v hfv w4.drew).mono ?_
      rintro e w6 ⟨rfl, h9⟩
      obtain rfl := h9.symm
      have HVt := Ho (show vs (trm f.v.data.toList) = .string (tfd f).v from rfl)
      clear h9
      rw [HVt.o]
      dsimp only
      refine hK.out _ _ hS (fun hS => ?_)
      clear hK K
      refine tN 12 (some 38) (.build 85 #[(0, .tmp 31), (1, .tmp 37)]) 85 (.agg #[.string f.n, .string (tfd f).v]) hS ?_
      simp only [Act.put, pB, pC, pD]
      refine rD 13 (some 39) (.buildSlice 42 1 #[(0, .tmp 38)]) 42 fun _ _ K hK => ?_
      rw [if_pos (by kernel_rfl)]
      go_simp
      refine hK.out _ _ (hS.alloc _) (fun hS => ?_)
      clear hK K
      refine rD 14 (some 40) (.call ⟨.builtin .append, #[.tmp 26, .tmp 39], #[42, 42]⟩) 42 fun _ _ K hK => oper_of_list ?_
      refine wpList_appRf (w := w4.drew) (N := w.heap.size) rfl _ _ rfl a7 c7 (pfs (fs.take i)) (tfd f) HLn.o rfl rfl (ow_up HO4.o (Up.refl _).drew) HU4.o.drew.size (by omega) ?_
      intro ax2 cx2 w7 o7 u7 g7
      have HO7 := Ho (show RfO w7 w.heap.size ax2 (pfs (fs.take (i + 1))) cx2 by rw [HT2.o]; exact o7)
      have HU7 := Ho (u7 w HU4.o.drew (Nat.le_refl _))
      clear o7 u7 g7
      refine hK.out _ _ HU7.o (fun hS => ?_)
      clear hK K
      simp only [Act.put, pB, pC, pD]
      refine tN 15 (some 5) (.assign (.tmp 40)) 42 (.slice ax2 (q + 1) cx2) hS ?_
      simp only [pA, pB, pC, pD]
      clear hS
      refine wpAnyH_done (by kernel_rfl) ?_ _
      go_wp2
      go_roundw
      all_goals first
       | exact ⟨i + 1, by go_num, by omega, q + 1, ax2, cx2, rfl, by omega, Ho ⟨HO7.o, HU7.o, HL7.o⟩⟩
       | (simp [intOf]; omega)
  · have hilz : ¬ (i : Int) < (fs.length : Int) := by omega
    have HTk := Ho (show fs.take i = fs from List.take_of_length_le (by omega))
    rw [HTk.o] at HQ
    by_cases hl0 : 0 ≤ len
    · have HTl := Ho (show tld fs len = pfs fs ++ [lnf len.toNat] by unfold tld; rw [if_pos hl0])
      have HLf := Ho (show vs (Go.Lib.itoa len) = .string (lnf len.toNat).v by unfold lnf; rw [Int.toNat_of_nonneg hl0])
      go_wp2_with fail
      refine (RFormatNumber_walk len (by omega) (by omega) wr).mono ?_
      rintro e w3 ⟨rfl, h9⟩
      have HU3 := Ho (HQ.o.2.1.trans h9)
      have HO3 := Ho (ow_up HQ.o.1 h9)
      clear h9
      rw [HLf.o]
      dsimp only
      go_wp2_with (with_reducible refine sA ?_)
      show wpList _ _ _ _ _ _
      refine wpList_appRf (w := w3) (N := w.heap.size) rfl _ _ rfl a7 c7 (pfs fs) (lnf len.toNat) HQ.o.2.2 rfl rfl HO3.o HU3.o.size (by omega) ?_
      intro a4 c4 w4 o4 u4 _
      have HU4 := Ho (u4 w HU3.o (Nat.le_refl _))
      have HO4 := Ho o4
      clear o4 u4
      simp only [Act.put, pB, pC, pD]
      go_wp2
      go_ret
      rw [HTl.o]
      exact ⟨⟨a4, c4, by rw [List.length_append, HQ.o.2.2]; rfl, Ho HO4.o⟩, HU4.o⟩
    · have HTl := Ho (show tld fs len = pfs fs by unfold tld; rw [if_neg hl0])
      go_wp2
      go_ret
      rw [HTl.o]
      exact ⟨⟨a7, c7, by rw [HQ.o.2.2]; rfl, Ho HQ.o.1⟩, HQ.o.2.1⟩
end Go.Proofs.YtkaoalcffgnfeaaGreatDoor
namespace Go.Proofs.YtkaoalcffgnfeaaGreatDoor
open Go.RowKit TextNum
def rlt (c : UInt8) : Bool := (decide (97 ≤ c.toNat) && decide (c.toNat ≤ 122)) || (decide (65 ≤ c.toNat) && decide (c.toNat ≤ 90))
def rtk : ByteArray := ⟨#[33, 35, 36, 37, 38, 39, 42, 43, 45, 46, 94, 95, 124, 126]⟩
theorem tkc_ref (x : UInt8) : tkc x = (rlt x || isD x || rtk.data.toList.contains x || x == 96) := by
 have h : ∀ n : Nat, n < 256 → tkc (UInt8.ofNat n) = (rlt (UInt8.ofNat n) || isD (UInt8.ofNat n) || rtk.data.toList.contains (UInt8.ofNat n) || UInt8.ofNat n == 96) := by decide +kernel
 have h1 := h x.toNat x.toNat_lt
 rw [UInt8.ofNat_toNat] at h1
 exact h1
set_option maxRecDepth 100000 in
theorem Rdigit_walk (c : UInt8) (w : World) : Calls Tryz.prog 79 #[vb c] w fun e w' => e = .returned (.bool (isD c)) ∧ w' = w := by
 have hc := c.toNat_lt
 by_cases hge48 : 48 ≤ c.toNat
 · have zhge48 : (48 : Int) ≤ (c.toNat : Int) := by omega
   by_cases hle57 : c.toNat ≤ 57
   · have zhle57 : (c.toNat : Int) ≤ 57 := by omega
     have e : isD c = true := by unfold isD; simp [*]
     rw [e]
     clear e
     go_enter Tryz.func79, Tryz.ntmps79
     go_wp2
     go_ret
     exact ⟨rfl, rfl⟩
   · have zhle57 : ¬ (c.toNat : Int) ≤ 57 := by omega
     have e : isD c = false := by unfold isD; simp [*]
     rw [e]
     clear e
     go_enter Tryz.func79, Tryz.ntmps79
     go_wp2
     go_ret
     exact ⟨rfl, rfl⟩
 · have zhge48 : ¬ (48 : Int) ≤ (c.toNat : Int) := by omega
   have e : isD c = false := by unfold isD; simp [*]
   rw [e]
   clear e
   go_enter Tryz.func79, Tryz.ntmps79
   go_wp2
   go_ret
   exact ⟨rfl, rfl⟩
set_option maxRecDepth 100000 in
theorem Rletter_walk (c : UInt8) (w : World) : Calls Tryz.prog 78 #[vb c] w fun e w' => e = .returned (.bool (rlt c)) ∧ w' = w := by
 have hc := c.toNat_lt
 by_cases hge97 : 97 ≤ c.toNat
 · have zhge97 : (97 : Int) ≤ (c.toNat : Int) := by omega
   by_cases hle122 : c.toNat ≤ 122
   · have zhle122 : (c.toNat : Int) ≤ 122 := by omega
     have e : rlt c = true := by unfold rlt; simp [*]
     rw [e]
     clear e
     go_enter Tryz.func78, Tryz.ntmps78
     go_wp2
     go_ret
     exact ⟨rfl, rfl⟩
   · have zhle122 : ¬ (c.toNat : Int) ≤ 122 := by omega
     by_cases hge65 : 65 ≤ c.toNat
     · have zhge65 : (65 : Int) ≤ (c.toNat : Int) := by omega
       by_cases hle90 : c.toNat ≤ 90
       · have zhle90 : (c.toNat : Int) ≤ 90 := by omega
         have e : rlt c = true := by unfold rlt; simp [*]
         rw [e]
         clear e
         go_enter Tryz.func78, Tryz.ntmps78
         go_wp2
         go_ret
         exact ⟨rfl, rfl⟩
       · have zhle90 : ¬ (c.toNat : Int) ≤ 90 := by omega
         have e : rlt c = false := by unfold rlt; simp [*]
         rw [e]
         clear e
         go_enter Tryz.func78, Tryz.ntmps78
         go_wp2
         go_ret
         exact ⟨rfl, rfl⟩
     · have zhge65 : ¬ (65 : Int) ≤ (c.toNat : Int) := by omega
       have e : rlt c = false := by unfold rlt; simp [*]
       rw [e]
       clear e
       go_enter Tryz.func78, Tryz.ntmps78
       go_wp2
       go_ret
       exact ⟨rfl, rfl⟩
 · have zhge97 : ¬ (97 : Int) ≤ (c.toNat : Int) := by omega
   by_cases hge65 : 65 ≤ c.toNat
   · have zhge65 : (65 : Int) ≤ (c.toNat : Int) := by omega
     by_cases hle90 : c.toNat ≤ 90
     · have zhle90 : (c.toNat : Int) ≤ 90 := by omega
       have e : rlt c = true := by unfold rlt; simp [*]
       rw [e]
       clear e
       go_enter Tryz.func78, Tryz.ntmps78
       go_wp2
       go_ret
       exact ⟨rfl, rfl⟩
     · have zhle90 : ¬ (c.toNat : Int) ≤ 90 := by omega
       have e : rlt c = false := by unfold rlt; simp [*]
       rw [e]
       clear e
       go_enter Tryz.func78, Tryz.ntmps78
       go_wp2
       go_ret
       exact ⟨rfl, rfl⟩
   · have zhge65 : ¬ (65 : Int) ≤ (c.toNat : Int) := by omega
     have e : rlt c = false := by unfold rlt; simp [*]
     rw [e]
     clear e
     go_enter Tryz.func78, Tryz.ntmps78
     go_wp2
     go_ret
     exact ⟨rfl, rfl⟩
set_option maxRecDepth 100000 in
set_option maxHeartbeats 1000000 in
theorem Ramong_walk (s : ByteArray) (c : UInt8) (hs : s.size ≤ 1048576) (w : World) : Calls Tryz.prog 80 #[.string s, vb c] w fun e w' => e = .returned (.bool (s.data.toList.contains c)) ∧ w' = w := by
 have HS := Ho (show s.size = s.data.toList.length from Go.Lib.size_eq s)
 obtain ⟨r, hr⟩ := ny (s.data.toList.contains c)
 have HR := Ho hr
 rw [hr]
 clear hr
 go_enter Tryz.func80, Tryz.ntmps80
 go_wp2
 go_loopw [5] (fun v5 wr => ∃ i : Nat, v5 = .int .i64 (i : Int) ∧ i ≤ s.size ∧ Hd (wr = w ∧ c ∉ s.data.toList.take i)) (fun v5 _ => s.size - (intOf v5).toNat)
 case atStart => exact ⟨0, rfl, Nat.zero_le _, Ho ⟨rfl, by simp⟩⟩
 case round =>
  obtain ⟨i, rfl, hi, hU⟩ := hrel
  have HU := Ho hU.o
  clear hU
  by_cases hil : i < s.size
  · have hilz : (i : Int) < (s.size : Int) := by omega
    have hg := sget' s i hil
    have hii : i < s.data.toList.length := by rw [← HS.o]; exact hil
    have HQ := Ho (List.take_succ_eq_append_getElem hii)
    have HM := Ho (List.getElem_mem hii)
    generalize s.data.toList[i]'hii = x at *
    clear hii
    cases hx : ((x.toNat : Int) == (c.toNat : Int)) with
    | true =>
     have HE := Ho (show r = true by
      have h1 : x.toNat = c.toNat := by have := eq_of_beq hx; omega
      rw [← HR.o, ← UInt8.toNat_inj.1 h1]
      exact List.contains_iff_mem.2 HM.o)
     go_wp2
     go_ret
     rw [HE.o]
     exact ⟨rfl, HU.o.1⟩
    | false =>
     have HN := Ho (show c ∉ s.data.toList.take (i + 1) by
      rw [HQ.o, List.mem_append, List.mem_singleton]
      rintro (h | h)
      · exact HU.o.2 h
      · rw [h] at hx; simp at hx)
     go_wp2
     go_roundw
     all_goals first
      | exact ⟨i + 1, by go_num, by omega, Ho ⟨HU.o.1, HN.o⟩⟩
      | (simp [intOf]; omega)
  · have hilz : ¬ (i : Int) < (s.size : Int) := by omega
    have HE := Ho (show r = false by
     have h1 := HU.o.2
     rw [List.take_of_length_le (by rw [← HS.o]; omega)] at h1
     rw [← HR.o, Bool.eq_false_iff]
     intro h
     exact h1 (List.contains_iff_mem.1 h))
    go_wp2
    go_ret
    rw [HE.o]
    exact ⟨rfl, HU.o.1⟩
set_option maxRecDepth 100000 in
set_option maxHeartbeats 1000000 in
theorem Rvisible_walk (s : ByteArray) (hs : s.size ≤ 1099511627776) (w : World) : Calls Tryz.prog 34 #[.string s] w fun e w' => e = .returned (.bool (tgt s.data.toList)) ∧ Up w w' := by
 have HS := Ho (show s.size = s.data.toList.length from Go.Lib.size_eq s)
 obtain ⟨r, hr⟩ := ny (tgt s.data.toList)
 have HR := Ho hr
 rw [hr]
 clear hr
 go_enter Tryz.func34, Tryz.ntmps34
 go_wp2
 go_loopw [3] (fun v3 wr => ∃ i : Nat, v3 = .int .i64 (i : Int) ∧ i ≤ s.size ∧ Hd (Up w wr ∧ (s.data.toList.take i).all vis = true)) (fun v3 _ => s.size - (intOf v3).toNat)
 case atStart => exact ⟨0, rfl, Nat.zero_le _, Ho ⟨Up.refl _, rfl⟩⟩
 case round =>
  obtain ⟨i, rfl, hi, hU⟩ := hrel
  have HU := Ho hU.o
  clear hU
  by_cases hil : i < s.size
  · have hilz : (i : Int) < (s.size : Int) := by omega
    have hg := sget' s i hil
    have HQ := Ho (vis_take (l := s.data.toList) (i := i) (by rw [← HS.o]; exact hil))
    have HF := Ho (show ∀ x, s.data.toList[i]'(by rw [← HS.o]; exact hil) = x → vis x = false → r = false from fun x hx hb => by
     rw [← HR.o]
     unfold tgt
     have : s.data.toList.all vis = false := List.all_eq_false.2 ⟨_, List.getElem_mem (by rw [← HS.o]; exact hil), by rw [hx, hb]; simp⟩
     rw [this]; simp)
    generalize s.data.toList[i]'(by rw [← HS.o]; exact hil) = x at *
    replace HF := Ho (HF.o x rfl)
    have hx := x.toNat_lt
    by_cases h1 : x.toNat < 33
    · have z1 : (x.toNat : Int) < 33 := by omega
      have HE := Ho (HF.o (show vis x = false by unfold vis; rw [decide_eq_false (show ¬ 32 < x.toNat by omega)]; rfl))
      go_wp2
      go_ret
      rw [HE.o]
      exact ⟨rfl, HU.o.1⟩
    · have z1 : ¬ (x.toNat : Int) < 33 := by omega
      by_cases h2 : 126 < x.toNat
      · have z2 : (126 : Int) < (x.toNat : Int) := by omega
        have HE := Ho (HF.o (show vis x = false by unfold vis; rw [decide_eq_false (show ¬ x.toNat < 127 by omega), Bool.and_false]))
        go_wp2
        go_ret
        rw [HE.o]
        exact ⟨rfl, HU.o.1⟩
      · have z2 : ¬ (126 : Int) < (x.toNat : Int) := by omega
        have HY := Ho (show vis x = true by unfold vis; rw [decide_eq_true (show 32 < x.toNat by omega), decide_eq_true (show x.toNat < 127 by omega)]; rfl)
        go_wp2
        go_roundw
        all_goals first
         | exact ⟨i + 1, by go_num, by omega, Ho ⟨HU.o.1, by rw [HQ.o, HU.o.2, HY.o]; rfl⟩⟩
         | (simp [intOf]; omega)
  · have hilz : ¬ (i : Int) < (s.size : Int) := by omega
    have hal : s.data.toList.all vis = true := by
     have h1 := HU.o.2
     rw [List.take_of_length_le (by rw [← HS.o]; omega)] at h1
     exact h1
    have HT := Ho (show r = !(s.toList.isEmpty) by
     rw [← HR.o, Go.Lib.toList_data]
     unfold tgt
     rw [hal]
     simp)
    clear hal
    cases hb : s.toList.isEmpty with
    | true =>
     rw [hb] at HT
     go_wp2
     go_ret
     rw [HT.o]
     exact ⟨rfl, HU.o.1⟩
    | false =>
     rw [hb] at HT
     go_wp2
     go_ret
     rw [HT.o]
     exact ⟨rfl, HU.o.1⟩
set_option maxRecDepth 100000 in
set_option maxHeartbeats 1000000 in
theorem Rvalued_walk (s : ByteArray) (hs : s.size ≤ 1099511627776) (w : World) : Calls Tryz.prog 81 #[.string s] w fun e w' => e = .returned (.bool (vlu s.data.toList)) ∧ Up w w' := by
 have HS := Ho (show s.size = s.data.toList.length from Go.Lib.size_eq s)
 obtain ⟨r, hr⟩ := ny (vlu s.data.toList)
 have HR := Ho hr
 rw [hr]
 clear hr
 go_enter Tryz.func81, Tryz.ntmps81
 go_wp2
 go_loopw [3] (fun v3 wr => ∃ i : Nat, v3 = .int .i64 (i : Int) ∧ i ≤ s.size ∧ Hd (Up w wr ∧ (s.data.toList.take i).all vlc = true)) (fun v3 _ => s.size - (intOf v3).toNat)
 case atStart => exact ⟨0, rfl, Nat.zero_le _, Ho ⟨Up.refl _, rfl⟩⟩
 case round =>
  obtain ⟨i, rfl, hi, hU⟩ := hrel
  have HU := Ho hU.o
  clear hU
  by_cases hil : i < s.size
  · have hilz : (i : Int) < (s.size : Int) := by omega
    have hg := sget' s i hil
    have HQ := Ho (vlc_take (l := s.data.toList) (i := i) (by rw [← HS.o]; exact hil))
    have HF := Ho (show ∀ x, s.data.toList[i]'(by rw [← HS.o]; exact hil) = x → vlc x = false → r = false from fun x hx hb => by
     rw [← HR.o]
     unfold vlu
     have : s.data.toList.all vlc = false := List.all_eq_false.2 ⟨_, List.getElem_mem (by rw [← HS.o]; exact hil), by rw [hx, hb]; simp⟩
     rw [this])
    generalize s.data.toList[i]'(by rw [← HS.o]; exact hil) = x at *
    replace HF := Ho (HF.o x rfl)
    have hx := x.toNat_lt
    by_cases h1 : x.toNat = 9
    · have z1 : ((x.toNat : Int) != 9) = false := by rw [h1]; rfl
      have h1b : x = 9 := UInt8.toNat_inj.1 h1
      have HY := Ho (show vlc x = true by rw [h1b]; decide)
      clear h1b h1
      go_wp2
      go_roundw
      all_goals first
       | exact ⟨i + 1, by go_num, by omega, Ho ⟨HU.o.1, by rw [HQ.o, HU.o.2, HY.o]; rfl⟩⟩
       | (simp [intOf]; omega)
    · have z1 : ((x.toNat : Int) != 9) = true := by rw [bne_iff_ne]; omega
      have h1b : (x == 9) = false := by rw [beq_eq_false_iff_ne]; intro e; apply h1; rw [e]; rfl
      by_cases h2 : x.toNat < 32
      · have z2 : (x.toNat : Int) < 32 := by omega
        have HE := Ho (HF.o (show vlc x = false by unfold vlc ctl; rw [h1b, decide_eq_true h2]; rfl))
        go_wp2
        go_ret
        rw [HE.o]
        exact ⟨rfl, HU.o.1⟩
      · have z2 : ¬ (x.toNat : Int) < 32 := by omega
        by_cases h3 : x.toNat = 127
        · have z3 : ((x.toNat : Int) == 127) = true := by rw [h3]; rfl
          have HE := Ho (HF.o (show vlc x = false by unfold vlc ctl; rw [h1b, decide_eq_true h3, Bool.or_true]; rfl))
          go_wp2
          go_ret
          rw [HE.o]
          exact ⟨rfl, HU.o.1⟩
        · have z3 : ((x.toNat : Int) == 127) = false := by rw [beq_eq_false_iff_ne]; omega
          have HY := Ho (show vlc x = true by unfold vlc ctl; rw [decide_eq_false h2, decide_eq_false h3]; rfl)
          go_wp2
          go_roundw
          all_goals first
           | exact ⟨i + 1, by go_num, by omega, Ho ⟨HU.o.1, by rw [HQ.o, HU.o.2, HY.o]; rfl⟩⟩
           | (simp [intOf]; omega)
  · have hilz : ¬ (i : Int) < (s.size : Int) := by omega
    have hal : s.data.toList.all vlc = true := by
     have h1 := HU.o.2
     rw [List.take_of_length_le (by rw [← HS.o]; omega)] at h1
     exact h1
    have HT := Ho (show r = true by
     rw [← HR.o]
     unfold vlu
     exact hal)
    clear hal
    go_wp2
    go_ret
    rw [HT.o]
    exact ⟨rfl, HU.o.1⟩
set_option maxRecDepth 100000 in
set_option maxHeartbeats 1000000 in
theorem Rtoken_walk (s : ByteArray) (hs : s.size ≤ 1099511627776) (w : World) : Calls Tryz.prog 33 #[.string s] w fun e w' => e = .returned (.bool (tok s.data.toList)) ∧ Up w w' := by
 have HS := Ho (show s.size = s.data.toList.length from Go.Lib.size_eq s)
 obtain ⟨r, hr⟩ := ny (tok s.data.toList)
 have HR := Ho hr
 rw [hr]
 clear hr
 go_enter Tryz.func33, Tryz.ntmps33
 go_wp2
 go_loopw [3] (fun v3 wr => ∃ i : Nat, v3 = .int .i64 (i : Int) ∧ i ≤ s.size ∧ Hd (Up w wr ∧ (s.data.toList.take i).all tkc = true)) (fun v3 _ => s.size - (intOf v3).toNat)
 case atStart => exact ⟨0, rfl, Nat.zero_le _, Ho ⟨Up.refl _, rfl⟩⟩
 case round =>
  obtain ⟨i, rfl, hi, hU⟩ := hrel
  have HU := Ho hU.o
  clear hU
  by_cases hil : i < s.size
  · have hilz : (i : Int) < (s.size : Int) := by omega
    have hg := sget' s i hil
    have HQ := Ho (tkc_take (l := s.data.toList) (i := i) (by rw [← HS.o]; exact hil))
    have HF := Ho (show ∀ x, s.data.toList[i]'(by rw [← HS.o]; exact hil) = x → tkc x = false → r = false from fun x hx hb => by
     rw [← HR.o]
     unfold tok
     have : s.data.toList.all tkc = false := List.all_eq_false.2 ⟨_, List.getElem_mem (by rw [← HS.o]; exact hil), by rw [hx, hb]; simp⟩
     rw [this]; simp)
    generalize s.data.toList[i]'(by rw [← HS.o]; exact hil) = x at *
    replace HF := Ho (HF.o x rfl)
    go_wp2_with fail
    refine (Rletter_walk x wr).mono ?_
    rintro e w9 ⟨rfl, h9⟩
    obtain rfl := h9.symm
    clear h9
    dsimp only
    cases h1 : rlt x with
    | true =>
     have HY := Ho (show tkc x = true by rw [tkc_ref, h1]; rfl)
     go_wp2
     go_roundw
     all_goals first
      | exact ⟨i + 1, by go_num, by omega, Ho ⟨HU.o.1, by rw [HQ.o, HU.o.2, HY.o]; rfl⟩⟩
      | (simp [intOf]; omega)
    | false =>
     go_wp2_with fail
     refine (Rdigit_walk x wr).mono ?_
     rintro e w9 ⟨rfl, h9⟩
     obtain rfl := h9.symm
     clear h9
     dsimp only
     cases h2 : isD x with
     | true =>
      have HY := Ho (show tkc x = true by rw [tkc_ref, h1, h2]; rfl)
      go_wp2
      go_roundw
      all_goals first
       | exact ⟨i + 1, by go_num, by omega, Ho ⟨HU.o.1, by rw [HQ.o, HU.o.2, HY.o]; rfl⟩⟩
       | (simp [intOf]; omega)
     | false =>
      go_wp2_with fail
      refine (Ramong_walk rtk x (by decide) wr).mono ?_
      rintro e w9 ⟨rfl, h9⟩
      obtain rfl := h9.symm
      clear h9
      dsimp only
      cases h3 : rtk.data.toList.contains x with
      | true =>
       have HY := Ho (show tkc x = true by rw [tkc_ref, h1, h2, h3]; rfl)
       go_wp2
       go_roundw
       all_goals first
        | exact ⟨i + 1, by go_num, by omega, Ho ⟨HU.o.1, by rw [HQ.o, HU.o.2, HY.o]; rfl⟩⟩
        | (simp [intOf]; omega)
      | false =>
       cases h4 : ((x.toNat : Int) == 96) with
       | true =>
        have z4 : ((x.toNat : Int) != 96) = false := by rw [bne, h4]; rfl
        have h5 : (x == 96) = true := by
         have h6 : x.toNat = 96 := by have := eq_of_beq h4; omega
         rw [beq_iff_eq]
         exact UInt8.toNat_inj.1 h6
        clear h4
        have HY := Ho (show tkc x = true by rw [tkc_ref, h1, h2, h3, h5]; rfl)
        go_wp2
        go_roundw
        all_goals first
         | exact ⟨i + 1, by go_num, by omega, Ho ⟨HU.o.1, by rw [HQ.o, HU.o.2, HY.o]; rfl⟩⟩
         | (simp [intOf]; omega)
       | false =>
        have z4 : ((x.toNat : Int) != 96) = true := by rw [bne, h4]; rfl
        have h5 : (x == 96) = false := by
         rw [beq_eq_false_iff_ne]
         intro e
         rw [e] at h4
         exact absurd h4 (by decide)
        clear h4
        have HE := Ho (HF.o (show tkc x = false by rw [tkc_ref, h1, h2, h3, h5]; rfl))
        go_wp2
        go_ret
        rw [HE.o]
        exact ⟨rfl, HU.o.1⟩
  · have hilz : ¬ (i : Int) < (s.size : Int) := by omega
    have hal : s.data.toList.all tkc = true := by
     have h1 := HU.o.2
     rw [List.take_of_length_le (by rw [← HS.o]; omega)] at h1
     exact h1
    have HT := Ho (show r = !(s.toList.isEmpty) by
     rw [← HR.o, Go.Lib.toList_data]
     unfold tok
     rw [hal]
     simp)
    clear hal
    cases hb : s.toList.isEmpty with
    | true =>
     rw [hb] at HT
     go_wp2
     go_ret
     rw [HT.o]
     exact ⟨rfl, HU.o.1⟩
    | false =>
     rw [hb] at HT
     go_wp2
     go_ret
     rw [HT.o]
     exact ⟨rfl, HU.o.1⟩
end Go.Proofs.YtkaoalcffgnfeaaGreatDoor
namespace Go.Proofs.YtkaoalcffgnfeaaGreatDoor
open Go.RowKit Go.Shelf TextNum
set_option maxRecDepth 100000 in
set_option maxHeartbeats 1000000 in
theorem RheadBytes_walk (a : Option Addr) (fs : List FD) (c : Nat) (w : World) (h : FdL w a fs c) (hl : szs fs ≤ 1099511627776) :
 Calls Tryz.prog 32 #[.slice a fs.length c] w fun e w' => e = .returned (.int .i64 ((szs fs : Nat) : Int)) ∧ Up w w' := by
 have HF := Ho h
 have hcap := h.cap
 have hsl := szs_len fs
 have HT := Ho (fun i => szs_take fs i)
 clear h
 obtain ⟨z, hz⟩ := ny (szs fs)
 have HZ := Ho hz
 rw [hz] at hl hsl HT ⊢
 clear hz
 go_enter Tryz.func32, Tryz.ntmps32
 go_wp2
 go_loopw [3, 4] (fun v3 v4 wr => ∃ i k : Nat, v4 = .int .i64 (i : Int) ∧ v3 = .int .i64 (k : Int) ∧ i ≤ fs.length ∧ k ≤ z ∧ Hd (Up w wr ∧ szs (fs.take i) = k)) (fun _ v4 _ => fs.length - (intOf v4).toNat)
 case atStart => exact ⟨0, 2, rfl, rfl, Nat.zero_le _, by omega, Ho ⟨Up.refl _, rfl⟩⟩
 case round =>
  obtain ⟨i, k, rfl, rfl, hi, hkz, hU⟩ := hrel
  have HU := Ho hU.o
  clear hU
  by_cases hil : i < fs.length
  · have hilz : (i : Int) < (fs.length : Int) := by omega
    obtain ⟨b, off, rfl, k1, k2⟩ := HF.o.cells i hil
    have hT := List.take_succ_eq_append_getElem hil
    obtain ⟨f, hf⟩ := ny (fs[i])
    rw [hf] at k1 k2 hT
    have HK1 := Ho k1
    have HK2 := Ho k2
    have h5 := HT.o (i + 1)
    rw [hT, szs_snoc, HU.o.2] at h5
    have HS2 := Ho (show szs (fs.take (i + 1)) = k + szf f by rw [hT, szs_snoc, HU.o.2])
    have HZf := Ho (show szf f = f.n.size + f.v.size + 4 from rfl)
    have h6 : k + f.n.size + f.v.size + 4 ≤ z := by have := HZf.o; omega
    clear hf k1 k2 hT
    go_wp2
    refine wp_region_held_drew (S := fun w2 => Up w w2) (by kernel_rfl) HU.o.1.drew (fun hS => ?_)
    refine tN 0 (some 11) (.move (.tmp 3)) 3 (.int .i64 (k : Int)) hS ?_
    simp only [pA, pB, pC, pD]
    refine tN 1 (some 12) (.move (.tmp 0)) 42 (.slice (some ⟨b, off, none⟩) fs.length c) hS ?_
    simp only [pA, pB, pC, pD]
    refine tN 2 (some 13) (.move (.tmp 4)) 3 (.int .i64 (i : Int)) hS ?_
    simp only [pA, pB, pC, pD]
    refine tK 3 (some 14) (.indexAddr 42 (.tmp 12) (.tmp 13)) 0 (.pointer (some ⟨b, off + i * 2, none⟩)) hS ?_ ?_
    · intro _ _ w5 hSw
      clear hSw hS
      exact exec_idxRf i hil rfl rfl rfl
    simp only [pA, pB, pC, pD]
    refine tN 4 (some 15) (.fieldAddr 85 (.tmp 14) 0) 0 (.pointer (some ⟨b, off + i * 2, none⟩)) hS ?_
    simp only [pA, pB, pC, pD]
    refine tK 5 (some 16) (.load 9 (.tmp 15)) 9 (.string f.n) hS ?_ ?_
    · intro _ _ w5 hSw
      have h0 := hSw.cell HK1.o
      clear hSw hS
      go_simp
    simp only [pA, pB, pC, pD]
    refine tN 6 (some 17) (.call ⟨.builtin .len, #[.tmp 16], #[9]⟩) 3 (.int .i64 (f.n.size : Int)) hS ?_
    simp only [pA, pB, pC, pD]
    refine tK 7 (some 18) (.binOp .add 3 (.tmp 11) (.tmp 17) 3) 3 (.int .i64 ((k : Int) + (f.n.size : Int))) hS ?_ ?_
    · intro _ _ w5 hSw
      clear hSw hS
      go_simp
      rw [IntKind.wrap_i64]
      omega
    simp only [pA, pB, pC, pD]
    refine tN 8 (some 19) (.move (.tmp 0)) 42 (.slice (some ⟨b, off, none⟩) fs.length c) hS ?_
    simp only [pA, pB, pC, pD]
    refine tN 9 (some 20) (.move (.tmp 4)) 3 (.int .i64 (i : Int)) hS ?_
    simp only [pA, pB, pC, pD]
    refine tK 10 (some 21) (.indexAddr 42 (.tmp 19) (.tmp 20)) 0 (.pointer (some ⟨b, off + i * 2, none⟩)) hS ?_ ?_
    · intro _ _ w5 hSw
      clear hSw hS
      exact exec_idxRf i hil rfl rfl rfl
    simp only [pA, pB, pC, pD]
    refine tN 11 (some 22) (.fieldAddr 85 (.tmp 21) 1) 0 (.pointer (some ⟨b, off + i * 2 + 1, none⟩)) hS ?_
    simp only [pA, pB, pC, pD]
    refine tK 12 (some 23) (.load 9 (.tmp 22)) 9 (.string f.v) hS ?_ ?_
    · intro _ _ w5 hSw
      have h0 := hSw.cell HK2.o
      clear hSw hS
      go_simp
    simp only [pA, pB, pC, pD]
    refine tN 13 (some 24) (.call ⟨.builtin .len, #[.tmp 23], #[9]⟩) 3 (.int .i64 (f.v.size : Int)) hS ?_
    simp only [pA, pB, pC, pD]
    refine tK 14 (some 25) (.binOp .add 3 (.tmp 18) (.tmp 24) 3) 3 (.int .i64 ((k : Int) + (f.n.size : Int) + (f.v.size : Int))) hS ?_ ?_
    · intro _ _ w5 hSw
      clear hSw hS
      go_simp
      rw [IntKind.wrap_i64]
      omega
    simp only [pA, pB, pC, pD]
    refine tK 15 (some 26) (.binOp .add 3 (.tmp 25) (.const (.int .i64 4)) 3) 3 (.int .i64 ((k + szf f : Nat) : Int)) hS ?_ ?_
    · intro _ _ w5 hSw
      clear hSw hS
      have hzf := HZf.o
      go_simp
      rw [IntKind.wrap_i64]
      all_goals omega
    simp only [pA, pB, pC, pD]
    refine tN 16 (some 3) (.assign (.tmp 26)) 3 (.int .i64 ((k + szf f : Nat) : Int)) hS ?_
    simp only [pA, pB, pC, pD]
    clear hS
    refine wpAnyH_done (by kernel_rfl) ?_ _
    go_wp2
    go_roundw
    all_goals first
     | exact ⟨i + 1, k + szf f, by go_num, rfl, by omega, h5, Ho ⟨HU.o.1.drew, HS2.o⟩⟩
     | (simp [intOf]; omega)
  · have hilz : ¬ (i : Int) < (fs.length : Int) := by omega
    have HE := Ho (show k = z by rw [← HU.o.2, List.take_of_length_le (by omega)]; exact HZ.o)
    go_wp2
    go_ret
    rw [HE.o]
    exact ⟨rfl, HU.o.1⟩
def ckN : Option Nat → Int
 | none => 0
 | some k => nums k
set_option maxRecDepth 100000 in
set_option maxHeartbeats 1000000 in
theorem Rchecked_walk (a : Option Addr) (fs : List FD) (c : Nat) (w : World) (h : FdL w a fs c) (hl : szs fs ≤ 1099511627776) :
 Calls Tryz.prog 36 #[.slice a fs.length c] w fun e w' => e = .returned (.int .i64 (ckN (ckf fs))) ∧ Up w w' := by
 have HF := Ho h
 have hcap := h.cap
 have hsl := szs_len fs
 have HM := Ho (fun (f : FD) (hf : f ∈ fs) => show f.n.size ≤ 1099511627776 ∧ f.v.size ≤ 1099511627776 from by have := szs_mem fs hf; omega)
 clear h
 obtain ⟨rv, hrv⟩ := ny (ckN (ckf fs))
 have HR := Ho hrv
 rw [hrv]
 clear hrv
 go_enter Tryz.func36, Tryz.ntmps36
 by_cases h64 : 64 < fs.length
 · have h64z : (64 : Int) < (fs.length : Int) := by omega
   have HE := Ho (show rv = 2 by rw [← HR.o]; unfold ckf; rw [if_pos h64]; rfl)
   go_wp2
   go_ret
   rw [HE.o]
   exact ⟨rfl, Up.refl _⟩
 · have h64z : ¬ (64 : Int) < (fs.length : Int) := by omega
   go_wp2
   go_loopw [3] (fun v3 wr => ∃ i : Nat, v3 = .int .i64 (i : Int) ∧ i ≤ fs.length ∧ Hd (Up w wr ∧ (fs.take i).all mbf = true)) (fun v3 _ => fs.length - (intOf v3).toNat)
   case atStart => exact ⟨0, rfl, Nat.zero_le _, Ho ⟨Up.refl _, rfl⟩⟩
   case round =>
    obtain ⟨i, rfl, hi, hU⟩ := hrel
    have HU := Ho hU.o
    clear hU
    by_cases hil : i < fs.length
    · have hilz : (i : Int) < (fs.length : Int) := by omega
      obtain ⟨b, off, rfl, k1, k2⟩ := HF.o.cells i hil
      have HT := Ho (show (fs.take (i + 1)).all mbf = ((fs.take i).all mbf && mbf fs[i]) by rw [List.take_succ_eq_append_getElem hil, List.all_append]; simp)
      have hmm := HM.o _ (List.getElem_mem hil)
      have HFl := Ho (show mbf fs[i] = false → rv = 143 from fun hb => by
       rw [← HR.o]
       unfold ckf
       have : fs.all mbf = false := List.all_eq_false.2 ⟨_, List.getElem_mem hil, by rw [hb]; simp⟩
       rw [if_neg h64, this]
       rfl)
      generalize fs[i] = f at *
      obtain ⟨hfn, hfv⟩ := hmm
      have HMb := Ho (show mbf f = (tok f.n.data.toList && vlu f.v.data.toList) from rfl)
      have HK1 := Ho k1
      have HK2 := Ho k2
      clear k1 k2
      have c1 := HU.o.1.cell HK1.o
      go_wp2_with (with_reducible refine sI 42 ?_)
      show wpList _ _ _ _ _ _
      refine wpList_val7 (.pointer (some ⟨b, off + i * 2, none⟩)) rfl (exec_idxRf i hil rfl rfl rfl) ?_
      simp only [Act.put, pB, pC, pD]
      go_wp2_with fail
      refine (Rtoken_walk f.n hfn wr).mono ?_
      rintro e w2 ⟨rfl, h9⟩
      have HU2 := Ho (HU.o.1.trans h9)
      clear h9 c1
      dsimp only
      cases ht : tok f.n.data.toList with
      | false =>
       have HE := Ho (HFl.o (by rw [HMb.o, ht]; rfl))
       go_wp2
       go_ret
       rw [HE.o]
       exact ⟨rfl, HU2.o⟩
      | true =>
       have c2 := HU2.o.cell HK2.o
       go_wp2_with (with_reducible refine sI 42 ?_)
       show wpList _ _ _ _ _ _
       refine wpList_valG (.pointer (some ⟨b, off + i * 2, none⟩)) (by kernel_rfl) (exec_idxRf i hil rfl rfl rfl) ?_
       simp only [Act.put, pB, pC, pD]
       go_wp2_with fail
       refine (Rvalued_walk f.v hfv w2).mono ?_
       rintro e w3 ⟨rfl, h9⟩
       have HU3 := Ho (HU2.o.trans h9)
       clear h9 c2
       dsimp only
       cases hv : vlu f.v.data.toList with
       | false =>
        have HE := Ho (HFl.o (by rw [HMb.o, ht, hv]; rfl))
        go_wp2
        go_ret
        rw [HE.o]
        exact ⟨rfl, HU3.o⟩
       | true =>
        have HY := Ho (show (fs.take (i + 1)).all mbf = true by rw [HT.o, HU.o.2, HMb.o, ht, hv]; rfl)
        go_wp2
        go_roundw
        all_goals first
         | exact ⟨i + 1, by go_num, by omega, Ho ⟨HU3.o, HY.o⟩⟩
         | (simp [intOf]; omega)
    · have hilz : ¬ (i : Int) < (fs.length : Int) := by omega
      have HE := Ho (show rv = 0 by
       have h1 := HU.o.2
       rw [List.take_of_length_le (by omega)] at h1
       rw [← HR.o]
       unfold ckf
       rw [if_neg h64, h1]
       rfl)
      go_wp2
      go_ret
      rw [HE.o]
      exact ⟨rfl, HU.o.1⟩
end Go.Proofs.YtkaoalcffgnfeaaGreatDoor
namespace Go.Proofs.YtkaoalcffgnfeaaGreatDoor
open Go.RowKit Go.Shelf TextNum
theorem mtC_get {k : Nat} (h : k < 9) : mtC[k]? = some (.string (mtT.getD k ⟨#[]⟩)) := by
 unfold mtC
 rw [List.getElem?_map, List.getElem?_range h]
 rfl
set_option maxRecDepth 100000 in
set_option maxHeartbeats 1000000 in
theorem Rknown_walk (s : ByteArray) (w : World) (hG : w.rangeAt 1 0 mtC) : Calls Tryz.prog 35 #[.string s] w fun e w' => e = .returned (.bool (mtk s)) ∧ w' = w := by
 have HRn := Ho hG
 clear hG
 obtain ⟨rn, hrn⟩ := ny (mtk s)
 have HN := Ho hrn
 rw [hrn]
 clear hrn
 go_enter Tryz.func35, Tryz.ntmps35
 go_wp2
 go_loopw [3] (fun v3 wr => ∃ i : Nat, v3 = .int .i64 (i : Int) ∧ i ≤ 9 ∧ Hd (wr = w ∧ ((mtT.take i).any fun m => s.toList == m.toList) = false)) (fun v3 _ => 9 - (intOf v3).toNat)
 case atStart => exact ⟨0, rfl, Nat.zero_le _, Ho ⟨rfl, rfl⟩⟩
 case round =>
  obtain ⟨i, rfl, hi, hU⟩ := hrel
  have HU := Ho hU.o
  clear hU
  by_cases hil : i < 9
  · have hiz : (i : Int) < 9 := by omega
    have hc : wr.cell? ⟨1, i, none⟩ = some (.string (mtT.getD i ⟨#[]⟩)) := by
     have h := HRn.o i _ (mtC_get hil)
     rw [Nat.zero_add] at h
     rw [HU.o.1]
     exact h
    have HX := Ho (show ((mtT.take (i + 1)).any fun m => s.toList == m.toList) = (s.toList == (mtT.getD i ⟨#[]⟩).toList) by
     rw [mtT_take hil, List.any_append, HU.o.2]
     simp)
    have HMm := Ho (mtT_mem hil)
    generalize mtT.getD i ⟨#[]⟩ = m at *
    cases hm : (m.toList == s.toList) with
    | true =>
     have HE := Ho (show rn = true by
      rw [← HN.o]
      unfold mtk
      rw [List.any_eq_true]
      exact ⟨m, HMm.o, by rw [beq_iff_eq] at hm ⊢; exact hm.symm⟩)
     go_wp2
     go_ret
     rw [HE.o]
     exact ⟨rfl, HU.o.1⟩
    | false =>
     have HY := Ho (show ((mtT.take (i + 1)).any fun m => s.toList == m.toList) = false by
      rw [HX.o, beq_eq_false_iff_ne]
      rw [beq_eq_false_iff_ne] at hm
      exact fun e => hm e.symm)
     go_wp2
     go_roundw
     all_goals first
      | exact ⟨i + 1, by go_num, by omega, Ho ⟨HU.o.1, HY.o⟩⟩
      | (simp [intOf]; omega)
  · have hiz : ¬ (i : Int) < 9 := by omega
    have HE := Ho (show rn = false by
     have h1 := HU.o.2
     rw [List.take_of_length_le (by show 9 ≤ i; omega)] at h1
     rw [← HN.o]
     exact h1)
    go_wp2
    go_ret
    rw [HE.o]
    exact ⟨rfl, HU.o.1⟩
def rsI : List Value := (List.range 24).map fun k => .int .i64 ((rsT.getD k (0, ⟨#[]⟩)).1)
def rsS : List Value := (List.range 24).map fun k => .string ((rsT.getD k (0, ⟨#[]⟩)).2)
theorem rsI_get {k : Nat} (h : k < 24) : rsI[k]? = some (.int .i64 ((rsT.getD k (0, ⟨#[]⟩)).1)) := by
 unfold rsI
 rw [List.getElem?_map, List.getElem?_range h]
 rfl
theorem rsS_get {k : Nat} (h : k < 24) : rsS[k]? = some (.string ((rsT.getD k (0, ⟨#[]⟩)).2)) := by
 unfold rsS
 rw [List.getElem?_map, List.getElem?_range h]
 rfl
set_option maxRecDepth 100000 in
set_option maxHeartbeats 1000000 in
theorem RReason_walk (st : Int) (h0 : -9223372036854775808 ≤ st) (h1 : st ≤ 9223372036854775807) (w : World) (hI : w.rangeAt 7 0 rsI) (hS : w.rangeAt 8 0 rsS) :
 Calls Tryz.prog 46 #[.int .i64 st] w fun e w' => e = .returned (vs (rsn st)) ∧ Up w w' := by
 have HI := Ho hI
 have HS := Ho hS
 clear hI hS
 obtain ⟨rn, hrn⟩ := ny (rsn st)
 have HN := Ho hrn
 rw [hrn]
 clear hrn
 have hil20 := itoa_len st h0 h1
 go_enter Tryz.func46, Tryz.ntmps46
 go_wp2
 go_loopw [3] (fun v3 wr => ∃ i : Nat, v3 = .int .i64 (i : Int) ∧ i ≤ 24 ∧ Hd (wr = w ∧ (rsT.take i).find? (fun p => p.1 == st) = none)) (fun v3 _ => 24 - (intOf v3).toNat)
 case atStart => exact ⟨0, rfl, Nat.zero_le _, Ho ⟨rfl, rfl⟩⟩
 case round =>
  obtain ⟨i, rfl, hi, hU⟩ := hrel
  have HU := Ho hU.o
  clear hU
  by_cases hil : i < 24
  · have hiz : (i : Int) < 24 := by omega
    have hc : wr.cell? ⟨7, i, none⟩ = some (.int .i64 ((rsT.getD i (0, ⟨#[]⟩)).1)) := by
     have h := HI.o i _ (rsI_get hil)
     rw [Nat.zero_add] at h
     rw [HU.o.1]
     exact h
    have hd : wr.cell? ⟨8, i, none⟩ = some (.string ((rsT.getD i (0, ⟨#[]⟩)).2)) := by
     have h := HS.o i _ (rsS_get hil)
     rw [Nat.zero_add] at h
     rw [HU.o.1]
     exact h
    have HT := Ho (rsT_take hil)
    have HSp := Ho (rsT_split hil)
    generalize rsT.getD i (0, ⟨#[]⟩) = p at *
    cases hp : (p.1 == st) with
    | true =>
     have HE := Ho (show rn = p.2.data.toList by
      rw [← HN.o]
      unfold rsn
      rw [HSp.o, List.find?_append, HU.o.2, List.find?_cons, hp]
      rfl)
     go_wp2
     go_ret
     rw [HE.o, vs_data']
     exact ⟨rfl, by rw [HU.o.1]; exact Up.refl _⟩
    | false =>
     have HY := Ho (show (rsT.take (i + 1)).find? (fun p => p.1 == st) = none by
      rw [HT.o, List.find?_append, HU.o.2, List.find?_cons, hp]
      rfl)
     go_wp2
     go_roundw
     all_goals first
      | exact ⟨i + 1, by go_num, by omega, Ho ⟨HU.o.1, HY.o⟩⟩
      | (simp [intOf]; omega)
  · have hiz : ¬ (i : Int) < 24 := by omega
    have HE := Ho (show rn = [83, 116, 97, 116, 117, 115, 32] ++ Go.Lib.itoa st by
     have h1 := HU.o.2
     rw [List.take_of_length_le (by show 24 ≤ i; omega)] at h1
     rw [← HN.o]
     unfold rsn
     rw [h1])
    go_wp2_with fail
    refine (RFormatNumber_walk st h0 h1 wr).mono ?_
    rintro e w2 ⟨rfl, h9⟩
    have HU2 := Ho (show Up w w2 by rw [← HU.o.1]; exact h9)
    clear h9
    rw [show vs (Go.Lib.itoa st) = .string ⟨(Go.Lib.itoa st).toArray⟩ from rfl]
    have hsz : (⟨(Go.Lib.itoa st).toArray⟩ : ByteArray).size = (Go.Lib.itoa st).length := by simp [ByteArray.size]
    have hl1 : ¬ 9223372036854775807 < 7 + (Go.Lib.itoa st).length := by omega
    dsimp only
    go_wp2
    go_ret
    refine ⟨?_, HU2.o⟩
    rw [HE.o]
    congr 1
end Go.Proofs.YtkaoalcffgnfeaaGreatDoor
