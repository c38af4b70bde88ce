import Derived.Test.YtaphjbcnnkoffaaGreatDoorRc
import Derived.Test.YtaphjbcnnkoffaaGreatDoorLy
namespace Go.Proofs.YtaphjbcnnkoffaaGreatDoor
open Go.RowKit Go.Shelf TextNum ModNum
/-- the words of a record's two lines -/
def two (s : List UInt8) : Option ((List UInt8 × List UInt8 × List UInt8) × (List UInt8 × List UInt8 × List UInt8)) := if 1024 < s.length ∨ lnE s ≠ 0 then none else match linesOf s with
  | [a, b] => match tw a, tw b with
    | some x, some y => some (x, y)
    | _, _ => none
  | _ => none
theorem OwnS.sl {w : World} {B : Nat} {v : Value} {xs : List (List UInt8)} (h : OwnS w B v xs) : SlS w v xs := by
  have h2 := h.2
  rcases h2 with ⟨rfl, e⟩ | ⟨g, cap, cur, rfl, hbg, hg, hnc, _⟩
  · have hl : xs = [] := List.eq_nil_of_length_eq_zero e
    subst hl
    exact ⟨none, 0, rfl, Nat.le_refl _, .inl rfl⟩
  · refine ⟨_, _, rfl, hnc, .inr ⟨g, 0, rfl, ?_, fun i hi => ?_⟩⟩
    · have := (World.ownsRow.lt h g rfl).2; exact this
    · have := World.ownsRow.cells h (g := g) rfl i _ (cst_get hi)
      rwa [add_plain] at this
theorem lines_sub (l : List UInt8) : ∀ x ∈ linesOf l, x.length ≤ l.length := by
  induction hn : l.length using Nat.strongRecOn generalizing l with
  | _ n ih =>
    intro x hx
    by_cases h : l = []
    · subst h; simp [linesOf_nil] at hx
    · rw [linesOf_cons h] at hx
      have ht := tail_lt h
      rcases List.mem_cons.1 hx with rfl | hx
      · have := (List.takeWhile_sublist (l := l) (· != 10)).length_le
        omega
      · have := ih _ (by omega) _ rfl x hx
        omega
theorem one3 (a b c : ByteArray) : ([Value.string a, .string b, .string c] : List Value).toArray.all (·.oneCell') = true := by
  rw [Array.all_eq_true_iff_forall_mem]
  intro v hv
  simp at hv
  rcases hv with rfl | rfl | rfl <;> rfl
/-- the three texts of a line, in their cells -/
abbrev cw (x : List UInt8 × List UInt8 × List UInt8) : List Value := [.string ⟨x.1.toArray⟩, .string ⟨x.2.1.toArray⟩, .string ⟨x.2.2.toArray⟩]
/-- what twoLines answers -/
def TR (s : List UInt8) (w : World) (e : Ending) (w' : World) : Prop := ∃ a b, e = .returned (.tuple #[vw a, vw b, .bool (two s).isSome]) ∧ (∀ x, two s = some x → x = (a, b)) ∧ Up w w'
theorem TR.no {s : List UInt8} {w w' : World} {v1 v2 : Value} (a b : List UInt8 × List UInt8 × List UInt8) (h1 : v1 = vw a) (h2 : v2 = vw b) (h : two s = none) (u : Up w w') : TR s w (.returned (.tuple #[v1, v2, .bool false])) w' :=
  ⟨a, b, by rw [h, h1, h2]; rfl, (fun x hx => by rw [h] at hx; cases hx), u⟩
set_option maxRecDepth 100000 in
set_option maxHeartbeats 2000000 in
theorem twoLines_walk (s : ByteArray) (w : World) (hG : GM w) : Calls Tryz.prog 29 #[.string s] w (TR s.data.toList w) := by
  have HT : Hid (two s.data.toList = if 1024 < s.data.toList.length ∨ lnE s.data.toList ≠ 0 then none else match linesOf s.data.toList with
  | [a, b] => match tw a, tw b with
    | some x, some y => some (x, y)
    | _, _ => none
  | _ => none) := rfl
  by_cases h1 : 1024 < s.size
  · have h1z : (1024 : Int) < (s.size : Int) := by omega
    have HN := Hid.of (HT.out.trans (if_pos (.inl (by rw [len_of]; exact h1))))
    clear h1 HT hG
    go_enter Tryz.func29, Tryz.ntmps29
    go_wp2
    have h2 : At ((w.alloc (.cells z3.toArray 77)).alloc (.cells z3.toArray 77)) (w.heap.size + 1) 77 z3 := by
      have := at_new (w.alloc (.cells z3.toArray 77)) 77 z3
      rwa [alloc_size] at this
    refine bodyPost_ret (result_cell2_tmp Tryz.results29 _ _ _ _ _ _ _ rfl rfl rfl (At.up (at_new w 77 z3) ((Up.refl _).alloc _)).range Tryz.underlying77 rfl infoWords h2.range Tryz.underlying77 rfl infoWords) rfl ?_
    exact TR.no ([], [], []) ([], [], []) rfl rfl HN.out (((Up.refl w).alloc _).alloc _)
  · have h1z : ¬ (1024 : Int) < (s.size : Int) := by omega
    have HL := fun w' => Hid.of (Lines_walk s w')
    have H3 := fun (l : List UInt8) (hl : l.length ≤ 1024) w' => fun (u : Up w w') => Hid.of (threeWords_walk ⟨l.toArray⟩ (by rw [str_len]; omega) w' (hG.up u))
    have hlen : ∀ l ∈ linesOf s.data.toList, l.length ≤ 1024 := fun l hl => by
      have := lines_sub s.data.toList l hl
      rw [len_of] at this
      omega
    have HLe := Hid.of hlen
    have HT2 := Hid.of (show lnE s.data.toList = 0 → two s.data.toList = match linesOf s.data.toList with
      | [a, b] => match tw a, tw b with
        | some x, some y => some (x, y)
        | _, _ => none
      | _ => none from fun h0 => HT.out.trans (if_neg (by rintro (h | h); rw [len_of] at h; omega; exact h h0)))
    have HT3 := Hid.of (show lnE s.data.toList ≠ 0 → two s.data.toList = none from fun h0 => HT.out.trans (if_pos (.inr h0)))
    clear h1 HT hG hlen
    have HA2 : Hid (At ((w.alloc (.cells z3.toArray 77)).alloc (.cells z3.toArray 77)) (w.heap.size + 1) 77 z3) := by
      have := at_new (w.alloc (.cells z3.toArray 77)) 77 z3
      rw [alloc_size] at this
      exact this
    have HA1 : Hid (At ((w.alloc (.cells z3.toArray 77)).alloc (.cells z3.toArray 77)) w.heap.size 77 z3) := At.up (at_new w 77 z3) ((Up.refl _).alloc _)
    have HU : Hid (Up w ((w.alloc (.cells z3.toArray 77)).alloc (.cells z3.toArray 77))) := ((Up.refl w).alloc _).alloc _
    go_enter Tryz.func29, Tryz.ntmps29
    go_wp2_with fail
    generalize (w.alloc (.cells z3.toArray 77)).alloc (.cells z3.toArray 77) = W0 at *
    refine (HL _).out.mono ?_
    rintro e w1 ⟨v, rfl, hv1, hv2, u1⟩
    have HV1 := Hid.of hv1
    have HV2 := Hid.of hv2
    have HB1 := Hid.of (HA1.out.up u1)
    have HB2 := Hid.of (HA2.out.up u1)
    have HU1 := Hid.of (HU.out.trans u1)
    have HLt0 := Hid.of (lt_of_at HA1.out)
    clear hv1 hv2 u1 HA1 HA2 HU HL
    dsimp only
    by_cases h0 : lnE s.data.toList = 0
    · have hS := (HV2.out h0).sl
      have HO := Hid.of (HV2.out h0)
      have HN := Hid.of (HT2.out h0)
      rw [h0]
      clear h0 HV1 HV2 HT2 HT3
      have HS := Hid.of hS
      obtain ⟨a, c, rfl⟩ := hS.len
      clear hS
      generalize linesOf s.data.toList = es at *
      by_cases h2 : es.length = 2
      · obtain ⟨l0, l1, rfl⟩ : ∃ l0 l1, es = [l0, l1] := by
          match es, h2 with
          | [a, b], _ => exact ⟨a, b, rfl⟩
        obtain ⟨b0, o0, e0, d0⟩ := HS.out.get (i := 0) (by simp)
        subst e0
        obtain ⟨b1, o1, e0, d1⟩ := HS.out.get (i := 1) (by simp)
        injection e0 with e0
        injection e0 with e1 e2
        subst e1 e2
        simp only [Nat.add_zero, List.getElem_cons_zero, List.getElem_cons_succ] at d0 d1
        have HLt := Hid.of (show w.heap.size < b0 from Nat.lt_of_lt_of_le HLt0.out (World.ownsRow.lt HO.out b0 rfl).1)
        have HN2 := Hid.of (show two s.data.toList = match tw l0, tw l1 with
          | some x, some y => some (x, y)
          | _, _ => none from HN.out)
        have HD1 := Hid.of (And.intro d1 (lt_of_cell d1))
        have HW0 : ∀ w', Up w w' → Hid (Calls Tryz.prog 51 #[.string ⟨l0.toArray⟩] w' fun e w'' => e = .returned (.tuple #[vw (tw0 l0), .bool (tw l0).isSome]) ∧ Up w' w'') := fun w' u => (H3 l0 (HLe.out l0 (by simp)) w' u)
        have HW1 : ∀ w', Up w w' → Hid (Calls Tryz.prog 51 #[.string ⟨l1.toArray⟩] w' fun e w'' => e = .returned (.tuple #[vw (tw0 l1), .bool (tw l1).isSome]) ∧ Up w' w'') := fun w' u => (H3 l1 (HLe.out l1 (by simp)) w' u)
        clear h2 HS HLe H3 HN d1
        go_wp2_with fail
        refine ((HW0 _ HU1.out).out).mono ?_
        rintro e w2 ⟨rfl, u2⟩
        have H2 := Hid.of (HU1.out.trans u2)
        have Hu2 := Hid.of u2
        clear u2
        dsimp only
        have HC1 := Hid.of (HB1.out.up Hu2.out)
        have HC2 := Hid.of (HB2.out.up Hu2.out)
        have HD2 := Hid.of (And.intro (Hu2.out.cell HD1.out.1) HD1.out.2)
        clear HB1 HB2 HD1 Hu2 d0 HW0
        go_wp2_with (with_reducible show wpList _ _ _ ({ dst := _, op := Op.store 77 _ _, type := _, pos := _, after := _, guard := _ } :: _) _ _; refine Shut.out ?_)
        show wpList _ _ _ _ _ _
        refine wpList_store_at rfl _ _ _ rfl w.heap.size HC1.out (cw (tw0 l0)) rfl rfl rfl (by kernel_rfl) (one3 _ _ _) fun w3 h3 hg3 => ?_
        have HE1 := Hid.of h3
        have HE2 := Hid.of (HC2.out.by hg3 (by intro h; injection h with h; omega))
        have HE3 := Hid.of (H2.out.by hg3 (fun g hg => by injection hg with hg; omega))
        have HD3 := Hid.of (show w3.cell? ⟨b0, o0 + 1, none⟩ = some (.string ⟨l1.toArray⟩) by
          rw [← HD2.out.1]
          simp only [World.cell?]
          rw [hg3.block b0 (lt_of_cell HD2.out.1) (fun e => by have := HLt.out; have := Option.some.inj e; omega)])
        clear h3 hg3 HC1 HC2 HD2 H2
        simp only [Act.put]
        cases ht0 : tw l0 with
        | none =>
          rw [show (none : Option (List UInt8 × List UInt8 × List UInt8)).isSome = false from rfl]
          have HN3 := Hid.of (show two s.data.toList = none from HN2.out.trans (by rw [ht0]))
          clear ht0 HN2 HW1 HD3
          go_wp2_with (with_reducible show wpList _ _ _ ({ dst := _, op := Op.store 77 _ _, type := _, pos := _, after := _, guard := _ } :: _) _ _; refine Shut.out ?_)
          show wpList _ _ _ _ _ _
          refine wpList_store_at rfl _ _ _ rfl w.heap.size HE1.out z3 rfl rfl rfl (by kernel_rfl) (one3 _ _ _) fun x1 hx1 hg1 => ?_
          have HX1 := Hid.of hx1
          have HX2 := Hid.of (HE2.out.by hg1 (by intro h; injection h with h; omega))
          have HXU := Hid.of (HE3.out.by hg1 (fun g hg => by injection hg with hg; omega))
          clear hx1 hg1
          simp only [Act.put]
          go_wp2_with (with_reducible show wpList _ _ _ ({ dst := _, op := Op.store 77 _ _, type := _, pos := _, after := _, guard := _ } :: _) _ _; refine Shut.out ?_)
          show wpList _ _ _ _ _ _
          refine wpList_store_at rfl _ _ _ rfl (w.heap.size + 1) HX2.out z3 rfl rfl rfl (by kernel_rfl) (one3 _ _ _) fun x2 hx2 hg2 => ?_
          have HY2 := Hid.of hx2
          have HY1 := Hid.of (HX1.out.by hg2 (by intro h; injection h with h; omega))
          have HYU := Hid.of (HXU.out.by hg2 (fun g hg => by injection hg with hg; omega))
          clear hx2 hg2 HX1 HX2 HXU
          simp only [Act.put]
          go_wp2
          refine bodyPost_ret (result_cell2_tmp Tryz.results29 _ _ _ _ _ _ _ rfl rfl rfl HY1.out.range Tryz.underlying77 rfl infoWords HY2.out.range Tryz.underlying77 rfl infoWords) rfl ?_
          exact TR.no ([], [], []) ([], [], []) rfl rfl HN3.out HYU.out
        | some x =>
          have hx0 : tw0 l0 = x := by unfold tw0; rw [ht0]; rfl
          rw [hx0] at HE1
          rw [hx0, show (some x : Option (List UInt8 × List UInt8 × List UInt8)).isSome = true from rfl]
          have HN3 := Hid.of (show two s.data.toList = match tw l1 with
            | some y => some (x, y)
            | none => none from HN2.out.trans (by rw [ht0]; cases tw l1 <;> rfl))
          clear ht0 HN2 hx0
          have d1 := HD3.out
          go_wp2_with fail
          refine ((HW1 _ HE3.out).out).mono ?_
          rintro e w4 ⟨rfl, u4⟩
          have H4 := Hid.of (HE3.out.trans u4)
          have Hu4 := Hid.of u4
          clear u4
          dsimp only
          have HF1 := Hid.of (HE1.out.up Hu4.out)
          have HF2 := Hid.of (HE2.out.up Hu4.out)
          clear HE1 HE2 HD3 Hu4 d1 HW1
          go_wp2_with (with_reducible show wpList _ _ _ ({ dst := _, op := Op.store 77 _ _, type := _, pos := _, after := _, guard := _ } :: _) _ _; refine Shut.out ?_)
          show wpList _ _ _ _ _ _
          refine wpList_store_at rfl _ _ _ rfl (w.heap.size + 1) HF2.out (cw (tw0 l1)) rfl rfl rfl (by kernel_rfl) (one3 _ _ _) fun w5 h5 hg5 => ?_
          have HK2 := Hid.of h5
          have HK1 := Hid.of (HF1.out.by hg5 (by intro h; injection h with h; omega))
          have HKU := Hid.of (H4.out.by hg5 (fun g hg => by injection hg with hg; omega))
          clear h5 hg5 HF1 HF2 H4
          simp only [Act.put]
          have HR := Hid.of (show two s.data.toList = none → (tw l1).isSome = false from fun h => by
            have := HN3.out.symm.trans h
            cases hh : tw l1 with
            | none => rfl
            | some y => rw [hh] at this; cases this)
          generalize hy : tw0 l1 = y at *
          have HY := Hid.of (And.intro hy trivial)
          generalize hb : (tw l1).isSome = bb at *
          have HBB := Hid.of (And.intro hb trivial)
          clear hy hb
          have c0 := HK1.out.cell (i := 0) rfl
          have c1 := HK1.out.cell (i := 1) rfl
          have c2 := HK1.out.cell (i := 2) rfl
          have t0 := HK1.out.thaw 0
          have t1 := HK1.out.thaw 1
          have t2 := HK1.out.thaw 2
          have c3 := HK2.out.cell (i := 0) rfl
          have c4 := HK2.out.cell (i := 1) rfl
          have c5 := HK2.out.cell (i := 2) rfl
          have t3 := HK2.out.thaw 0
          have t4 := HK2.out.thaw 1
          have t5 := HK2.out.thaw 2
          have mixed : Tryz.prog.follows .mixedOrders = true := by kernel_rfl
          go_wp2
          go_region
          go_wp2
          have z1 := At.by (((HK1.out.set 0 (.string ⟨x.1.toArray⟩)).set 1 (.string ⟨x.2.1.toArray⟩)).set 2 (.string ⟨x.2.2.toArray⟩)) (set3 _ (w.heap.size + 1) (.string ⟨y.1.toArray⟩) (.string ⟨y.2.1.toArray⟩) (.string ⟨y.2.2.toArray⟩)) (by intro h; injection h with h; omega)
          have z2 := (((HK2.out.by (set3 w5 w.heap.size (.string ⟨x.1.toArray⟩) (.string ⟨x.2.1.toArray⟩) (.string ⟨x.2.2.toArray⟩)) (by intro h; injection h with h; omega)).set 0 (.string ⟨y.1.toArray⟩)).set 1 (.string ⟨y.2.1.toArray⟩)).set 2 (.string ⟨y.2.2.toArray⟩)
          refine bodyPost_ret (result_cell2_tmp Tryz.results29 _ _ _ _ (cw x) (cw y) _ rfl rfl rfl (z1.up ((Up.refl _).drew)).range Tryz.underlying77 rfl infoWords (z2.up ((Up.refl _).drew)).range Tryz.underlying77 rfl infoWords) rfl ?_
          refine ⟨x, y, ?_, fun q hq => ?_, ((HKU.out.by (set3 w5 w.heap.size _ _ _) (fun g hg => by injection hg with hg; omega)).by (set3 _ (w.heap.size + 1) _ _ _) (fun g hg => by injection hg with hg; omega)).drew⟩
          · rw [HN3.out, ← HBB.out.1]
            cases tw l1 <;> rfl
          · rw [HN3.out] at hq
            have hy := HY.out.1
            unfold tw0 at hy
            cases hh : tw l1 with
            | none => rw [hh] at hq; cases hq
            | some y' =>
              rw [hh] at hq hy
              rw [← Option.some.inj hq, ← hy]
              rfl
      · have h2z : ((es.length : Int) != 2) = true := by rw [bne_iff_ne]; omega
        have HN2 := Hid.of (show two s.data.toList = none from HN.out.trans (by
          split
          · exact absurd rfl h2
          · rfl))
        clear HN h2 HS
        generalize es.length = el at *
        go_wp2_with (with_reducible show wpList _ _ _ ({ dst := _, op := Op.store 77 _ _, type := _, pos := _, after := _, guard := _ } :: _) _ _; refine Shut.out ?_)
        show wpList _ _ _ _ _ _
        refine wpList_store_at rfl _ _ _ rfl w.heap.size HB1.out z3 rfl rfl rfl (by kernel_rfl) (one3 _ _ _) fun x1 hx1 hg1 => ?_
        have HX1 := Hid.of hx1
        have HX2 := Hid.of (HB2.out.by hg1 (by intro h; injection h with h; omega))
        have HXU := Hid.of (HU1.out.by hg1 (fun g hg => by injection hg with hg; omega))
        clear hx1 hg1
        simp only [Act.put]
        go_wp2_with (with_reducible show wpList _ _ _ ({ dst := _, op := Op.store 77 _ _, type := _, pos := _, after := _, guard := _ } :: _) _ _; refine Shut.out ?_)
        show wpList _ _ _ _ _ _
        refine wpList_store_at rfl _ _ _ rfl (w.heap.size + 1) HX2.out z3 rfl rfl rfl (by kernel_rfl) (one3 _ _ _) fun x2 hx2 hg2 => ?_
        have HY2 := Hid.of hx2
        have HY1 := Hid.of (HX1.out.by hg2 (by intro h; injection h with h; omega))
        have HYU := Hid.of (HXU.out.by hg2 (fun g hg => by injection hg with hg; omega))
        clear hx2 hg2 HX1 HX2 HXU
        simp only [Act.put]
        go_wp2
        refine bodyPost_ret (result_cell2_tmp Tryz.results29 _ _ _ _ _ _ _ rfl rfl rfl HY1.out.range Tryz.underlying77 rfl infoWords HY2.out.range Tryz.underlying77 rfl infoWords) rfl ?_
        exact TR.no ([], [], []) ([], [], []) rfl rfl HN2.out HYU.out
    · have HN := Hid.of (HT3.out h0)
      obtain rfl := HV1.out h0
      have h0z : (lnE s.data.toList != 0) = true := by rw [bne_iff_ne]; exact h0
      generalize lnE s.data.toList = le at *
      clear h0 HV1 HV2 HT2 HT3 H3 HLe
      go_wp2_with (with_reducible show wpList _ _ _ ({ dst := _, op := Op.store 77 _ _, type := _, pos := _, after := _, guard := _ } :: _) _ _; refine Shut.out ?_)
      show wpList _ _ _ _ _ _
      refine wpList_store_at rfl _ _ _ rfl w.heap.size HB1.out z3 rfl rfl rfl (by kernel_rfl) (one3 _ _ _) fun x1 hx1 hg1 => ?_
      have HX1 := Hid.of hx1
      have HX2 := Hid.of (HB2.out.by hg1 (by intro h; injection h with h; omega))
      have HXU := Hid.of (HU1.out.by hg1 (fun g hg => by injection hg with hg; omega))
      clear hx1 hg1
      simp only [Act.put]
      go_wp2_with (with_reducible show wpList _ _ _ ({ dst := _, op := Op.store 77 _ _, type := _, pos := _, after := _, guard := _ } :: _) _ _; refine Shut.out ?_)
      show wpList _ _ _ _ _ _
      refine wpList_store_at rfl _ _ _ rfl (w.heap.size + 1) HX2.out z3 rfl rfl rfl (by kernel_rfl) (one3 _ _ _) fun x2 hx2 hg2 => ?_
      have HY2 := Hid.of hx2
      have HY1 := Hid.of (HX1.out.by hg2 (by intro h; injection h with h; omega))
      have HYU := Hid.of (HXU.out.by hg2 (fun g hg => by injection hg with hg; omega))
      clear hx2 hg2 HX1 HX2 HXU
      simp only [Act.put]
      go_wp2
      refine bodyPost_ret (result_cell2_tmp Tryz.results29 _ _ _ _ _ _ _ rfl rfl rfl HY1.out.range Tryz.underlying77 rfl infoWords HY2.out.range Tryz.underlying77 rfl infoWords) rfl ?_
      exact TR.no ([], [], []) ([], [], []) rfl rfl HN.out HYU.out
end Go.Proofs.YtaphjbcnnkoffaaGreatDoor
