import Derived.Test.YtaphjbcnnkoffaaGreatDoorMt
namespace Go.Proofs.YtaphjbcnnkoffaaGreatDoor
open Go.RowKit Go.Shelf TextNum ModNum
/-- the three words of a line -/
def tw (l : List UInt8) : Option (List UInt8 × List UInt8 × List UInt8) := match pcs 32 l with
  | [a, b, c] => if a = [] ∨ b = [] ∨ c = [] then none else some (a, b, c)
  | _ => none
abbrev z3 : List Value := [.string ⟨#[]⟩, .string ⟨#[]⟩, .string ⟨#[]⟩]
abbrev vw (x : List UInt8 × List UInt8 × List UInt8) : Value := .agg #[.string ⟨x.1.toArray⟩, .string ⟨x.2.1.toArray⟩, .string ⟨x.2.2.toArray⟩]
abbrev tw0 (l : List UInt8) : List UInt8 × List UInt8 × List UInt8 := (tw l).getD ([], [], [])
theorem set3 (w : World) (b : Nat) (v0 v1 v2 : Value) : w.grownBy (((w.setCell ⟨b, 0, none⟩ v0).setCell ⟨b, 1, none⟩ v1).setCell ⟨b, 2, none⟩ v2) (some b) :=
  grown_trans (grown_trans (grown_set w ⟨b, 0, none⟩ _) (grown_set _ ⟨b, 1, none⟩ _)) (grown_set _ ⟨b, 2, none⟩ _)
theorem infoWords : (Tryz.prog.info? 77).map (·.size) = some 3 := by kernel_rfl
theorem emp_eq (l : List UInt8) : ((⟨l.toArray⟩ : ByteArray).toList.isEmpty) = l.isEmpty := by rw [Go.Lib.toList_data]
set_option maxRecDepth 100000 in
set_option maxHeartbeats 2000000 in
theorem threeWords_walk (s : ByteArray) (hs : s.size ≤ 1048576) (w : World) (hG : GM w) : Calls Tryz.prog 51 #[.string s] w fun e w' => e = .returned (.tuple #[vw (tw0 s.data.toList), .bool (tw s.data.toList).isSome]) ∧ Up w w' := by
  have HS := fun w' => fun (u : Up w w') => Hid.of (Split_walk s 32 hs w' (hG.up u))
  clear hG
  have HT : Hid (tw s.data.toList = match pcs 32 s.data.toList with
  | [a, b, c] => if a = [] ∨ b = [] ∨ c = [] then none else some (a, b, c)
  | _ => none) := rfl
  generalize pcs 32 s.data.toList = es at *
  by_cases h3 : es.length = 3
  · obtain ⟨n0, n1, n2, rfl⟩ : ∃ n0 n1 n2, es = [n0, n1, n2] := by
      match es, h3 with
      | [a, b, c], _ => exact ⟨a, b, c, rfl⟩
    clear h3
    have HT2 := Hid.of (show tw s.data.toList = if n0 = [] ∨ n1 = [] ∨ n2 = [] then none else some (n0, n1, n2) from HT.out)
    clear HT
    go_enter Tryz.func51, Tryz.ntmps51
    go_wp2_with fail
    refine (HS _ ((Up.refl w).alloc _)).out.mono ?_
    rintro e w1 ⟨rfl, hS, u1⟩
    rw [alloc_size] at hS ⊢
    have HA := Hid.of ((at_new w 77 z3).up u1)
    have c0 := HA.out.cell (i := 0) rfl
    have c1 := HA.out.cell (i := 1) rfl
    have c2 := HA.out.cell (i := 2) rfl
    have t0 := HA.out.thaw 0
    have t1 := HA.out.thaw 1
    have t2 := HA.out.thaw 2
    obtain ⟨b0, o0, e0, d0⟩ := hS.get (i := 0) (by simp)
    injection e0 with e0
    injection e0 with e1 e2
    subst e1 e2
    obtain ⟨b1, o1, e0, d1⟩ := hS.get (i := 1) (by simp)
    injection e0 with e0
    injection e0 with e1 e2
    subst e1 e2
    obtain ⟨b2, o2, e0, d2⟩ := hS.get (i := 2) (by simp)
    injection e0 with e0
    injection e0 with e1 e2
    subst e1 e2
    have H1 := Hid.of (((Up.refl w).alloc (.cells z3.toArray 77)).trans u1)
    clear hS u1 HS
    simp only [Nat.zero_add, List.getElem_cons_zero, List.getElem_cons_succ] at d0 d1 d2
    dsimp only
    by_cases k0 : n0 = [] ∨ n1 = [] ∨ n2 = []
    · have HN := Hid.of (HT2.out.trans (if_pos k0))
      clear HT2
      have hsl : ∀ w' : World, (w.heap.size ≤ w.heap.size) := fun _ => Nat.le_refl _
      rcases n0 with _ | ⟨x0, r0⟩
      · clear k0
        go_wp2
        refine bodyPost_ret (result_cell_tmp Tryz.results51 _ _ w.heap.size z3 _ rfl rfl (((HA.out.set 0 _).set 1 _).set 2 _).range Tryz.underlying77 rfl infoWords) rfl ?_
        unfold tw0
        rw [HN.out]
        exact ⟨rfl, H1.out.by (set3 w1 w.heap.size _ _ _) (fun g hg => by injection hg with hg; omega)⟩
      · rcases n1 with _ | ⟨x1, r1⟩
        · clear k0
          have g0 : ((⟨(x0 :: r0).toArray⟩ : ByteArray).toList.isEmpty) = false := by rw [emp_eq]; rfl
          generalize (⟨(x0 :: r0).toArray⟩ : ByteArray) = s0 at *
          go_wp2
          refine bodyPost_ret (result_cell_tmp Tryz.results51 _ _ w.heap.size z3 _ rfl rfl (((HA.out.set 0 _).set 1 _).set 2 _).range Tryz.underlying77 rfl infoWords) rfl ?_
          unfold tw0
          rw [HN.out]
          exact ⟨rfl, H1.out.by (set3 w1 w.heap.size _ _ _) (fun g hg => by injection hg with hg; omega)⟩
        · obtain rfl : n2 = [] := by
            rcases k0 with h | h | h
            · cases h
            · cases h
            · exact h
          clear k0
          have g0 : ((⟨(x0 :: r0).toArray⟩ : ByteArray).toList.isEmpty) = false := by rw [emp_eq]; rfl
          have g1 : ((⟨(x1 :: r1).toArray⟩ : ByteArray).toList.isEmpty) = false := by rw [emp_eq]; rfl
          generalize (⟨(x0 :: r0).toArray⟩ : ByteArray) = s0 at *
          generalize (⟨(x1 :: r1).toArray⟩ : ByteArray) = s1 at *
          go_wp2
          refine bodyPost_ret (result_cell_tmp Tryz.results51 _ _ w.heap.size z3 _ rfl rfl (((HA.out.set 0 _).set 1 _).set 2 _).range Tryz.underlying77 rfl infoWords) rfl ?_
          unfold tw0
          rw [HN.out]
          exact ⟨rfl, H1.out.by (set3 w1 w.heap.size _ _ _) (fun g hg => by injection hg with hg; omega)⟩
    · have HN := Hid.of (HT2.out.trans (if_neg k0))
      clear HT2
      obtain ⟨s0, hs0⟩ : ∃ s0 : ByteArray, s0 = ⟨n0.toArray⟩ := ⟨_, rfl⟩
      obtain ⟨s1, hs1⟩ : ∃ s0 : ByteArray, s0 = ⟨n1.toArray⟩ := ⟨_, rfl⟩
      obtain ⟨s2, hs2⟩ : ∃ s0 : ByteArray, s0 = ⟨n2.toArray⟩ := ⟨_, rfl⟩
      have g0 : s0.toList.isEmpty = false := by rw [hs0, emp_eq]; cases n0 with | nil => exact absurd (.inl rfl) k0 | cons _ _ => rfl
      have g1 : s1.toList.isEmpty = false := by rw [hs1, emp_eq]; cases n1 with | nil => exact absurd (.inr (.inl rfl)) k0 | cons _ _ => rfl
      have g2 : s2.toList.isEmpty = false := by rw [hs2, emp_eq]; cases n2 with | nil => exact absurd (.inr (.inr rfl)) k0 | cons _ _ => rfl
      rw [← hs0] at d0
      rw [← hs1] at d1
      rw [← hs2] at d2
      have HV := Hid.of (And.intro hs0 (And.intro hs1 hs2))
      clear hs0 hs1 hs2 k0
      have mixed : Tryz.prog.follows .mixedOrders = true := by kernel_rfl
      go_wp2
      go_region
      go_wp2
      refine bodyPost_ret (result_cell_tmp Tryz.results51 _ _ w.heap.size [.string s0, .string s1, .string s2] _ rfl rfl (At.up (((HA.out.set 0 _).set 1 _).set 2 _) ((Up.refl _).drew)).range Tryz.underlying77 rfl infoWords) rfl ?_
      unfold tw0
      rw [HN.out, HV.out.1, HV.out.2.1, HV.out.2.2]
      exact ⟨rfl, (H1.out.by (set3 w1 w.heap.size _ _ _) (fun g hg => by injection hg with hg; omega)).drew⟩
  · have h3z : ((es.length : Int) != 3) = true := by rw [bne_iff_ne]; omega
    have HN := Hid.of (show tw s.data.toList = none from HT.out.trans (by
      split
      · exact absurd rfl h3
      · rfl))
    generalize es.length = n at *
    clear h3 HT
    go_enter Tryz.func51, Tryz.ntmps51
    go_wp2_with fail
    refine (HS _ ((Up.refl w).alloc _)).out.mono ?_
    rintro e w1 ⟨rfl, hS, u1⟩
    rw [alloc_size]
    have HA := Hid.of ((at_new w 77 z3).up u1)
    have c0 := HA.out.cell (i := 0) rfl
    have c1 := HA.out.cell (i := 1) rfl
    have c2 := HA.out.cell (i := 2) rfl
    have t0 := HA.out.thaw 0
    have t1 := HA.out.thaw 1
    have t2 := HA.out.thaw 2
    have H1 := Hid.of (((Up.refl w).alloc (.cells z3.toArray 77)).trans u1)
    clear hS u1 HS
    dsimp only
    go_wp2
    refine bodyPost_ret (result_cell_tmp Tryz.results51 _ _ w.heap.size z3 _ rfl rfl (((HA.out.set 0 _).set 1 _).set 2 _).range Tryz.underlying77 rfl infoWords) rfl ?_
    unfold tw0
    rw [HN.out]
    exact ⟨rfl, H1.out.by (set3 w1 w.heap.size _ _ _) (fun g hg => by injection hg with hg; omega)⟩
end Go.Proofs.YtaphjbcnnkoffaaGreatDoor
