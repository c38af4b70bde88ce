import Derived.Test.YtaphjbcnnkoffaaGreatDoorCe
namespace Go.Proofs.YtaphjbcnnkoffaaGreatDoor
open Go.RowKit Go.Shelf TextNum ModNum
/-- what the reference's Split answers -/
def SR (l : List UInt8) (w : World) (e : Ending) (w' : World) : Prop := ∃ n0 n1 n2 v inc, e = .returned (.tuple #[.agg (pc5 n0 n1 n2 v inc), .bool (ver l).isSome]) ∧ (∀ q, ver l = some q → q.n = [n0, n1, n2] ∧ SlS w' v q.ws ∧ q.inc = inc) ∧ (∃ a n c, v = .slice a n c) ∧ Up w w'
theorem SR.no {l : List UInt8} {w w' : World} (h : ver l = none) (n0 n1 n2 : List UInt8) (a : Option Addr) (n c : Nat) (inc : Bool) (u : Up w w') : SR l w (.returned (.tuple #[.agg (pc5 n0 n1 n2 (.slice a n c) inc), .bool false])) w' :=
  ⟨n0, n1, n2, _, inc, by rw [h]; rfl, fun q hq => (by rw [h] at hq; cases hq), ⟨a, n, c, rfl⟩, u⟩
theorem z5lit : (#[Value.string ⟨#[]⟩, Value.string ⟨#[]⟩, Value.string ⟨#[]⟩, Value.slice none 0 0, Value.bool false] : Array Value) = z5.toArray := rfl
theorem one5 (a b c : ByteArray) (d : Option Addr) (n m : Nat) (o : Bool) : ([.string a, .string b, .string c, .slice d n m, .bool o] : List Value).toArray.all (·.oneCell') = true := by
  rw [Array.all_eq_true_iff_forall_mem]
  intro v hv
  simp at hv
  rcases hv with rfl | rfl | rfl | rfl | rfl <;> rfl
theorem grown_at (w : World) (b i : Nat) (v : Value) : w.grownBy (w.setCell ⟨b, i, none⟩ v) (some b) := grown_set w ⟨b, i, none⟩ v
theorem set5q (w : World) (b : Nat) (v0 v1 v2 v3 v4 : Value) : w.grownBy (((((w.setCell ⟨b, 0, none⟩ v0).setCell ⟨b, 1, none⟩ v1).setCell ⟨b, 2, none⟩ v2).setCell ⟨b, 3, none⟩ v3).setCell ⟨b, 4, none⟩ v4) (some b) :=
  grown_trans (grown_trans (grown_trans (grown_trans (grown_at w b 0 _) (grown_at _ b 1 _)) (grown_at _ b 2 _)) (grown_at _ b 3 _)) (grown_at _ b 4 _)
/-- three texts in their cells -/
def HDs (w : World) (g o : Nat) (m0 m1 m2 : ByteArray) : Prop := w.cell? ⟨g, o, none⟩ = some (.string m0) ∧ w.cell? ⟨g, o + 1, none⟩ = some (.string m1) ∧ w.cell? ⟨g, o + 2, none⟩ = some (.string m2)
theorem HDs.up {w w' : World} {g o : Nat} {m0 m1 m2 : ByteArray} (h : HDs w g o m0 m1 m2) (u : Up w w') : HDs w' g o m0 m1 m2 := ⟨u.cell h.1, u.cell h.2.1, u.cell h.2.2⟩
theorem HDs.set {w : World} {g o b i : Nat} {v : Value} {m0 m1 m2 : ByteArray} (h : HDs w g o m0 m1 m2) (hne : g ≠ b) : HDs (w.setCell ⟨b, i, none⟩ v) g o m0 m1 m2 := by
  have hg := grown_at w b i v
  have hk : ∀ j u, w.cell? ⟨g, j, none⟩ = some u → (w.setCell ⟨b, i, none⟩ v).cell? ⟨g, j, none⟩ = some u := fun j u hu => (hg.cell hu (by intro h; injection h with h; exact hne h))
  exact ⟨hk _ _ h.1, hk _ _ h.2.1, hk _ _ h.2.2⟩
theorem isLow_eq (s : ByteArray) : isLow s.data.toList = ((s.toList == [48]) || (s.toList == [49])) := by
  rw [Go.Lib.toList_data]; rfl
theorem ahd_le (c : UInt8) (l : List UInt8) : (ahd c l).length ≤ l.length := (List.takeWhile_sublist _).length_le
theorem dash_le {q k : ByteArray} {vc : List UInt8} (hq : q.data.toList = vc) (hk : k.data.toList = ahd 45 vc) : k.size ≤ q.size := by
  have := ahd_le 45 vc
  rw [← hk, ← hq, len_of, len_of] at this
  exact this
theorem pcs_cnt (c : UInt8) : ∀ l : List UInt8, (pcs c l).length ≤ l.length + 1
  | [] => by simp [pcs]
  | x :: r => by
    have ih := pcs_cnt c r
    unfold pcs
    split
    · simp; omega
    · split
      · simp
      · rename_i p ps h
        rw [h] at ih
        simp at ih ⊢
        omega
theorem dash_facts {q k : ByteArray} {vc : List UInt8} (hq : q.data.toList = vc) (hk : k.data.toList = ahd 45 vc) (hqs : q.size ≤ 128) :
    ((45 : UInt8) ∈ vc → k.size < q.size) ∧ ((45 : UInt8) ∈ vc → q.data.toList.drop (k.size + 1) = bhd 45 vc) ∧ (¬ (45 : UInt8) ∈ vc → q.size = k.size) ∧ ((45 : UInt8) ∈ vc → (pcs 46 (bhd 45 vc)).length ≤ 1048576 ∧ ∀ x ∈ pcs 46 (bhd 45 vc), x.length ≤ 1048576) := by
  have lk : k.size = (ahd 45 vc).length := by rw [← hk, len_of]
  have lq : q.size = vc.length := by rw [← hq, len_of]
  refine ⟨fun h => ?_, fun h => ?_, fun h => ?_, fun h => ?_⟩
  · have := congrArg List.length (cut_eq h)
    simp only [List.length_append, List.length_cons] at this
    omega
  · rw [hq, lk, congrArg (List.drop ((ahd 45 vc).length + 1)) (cut_eq h)]
    rw [List.drop_append, List.drop_of_length_le (by omega), show (ahd 45 vc).length + 1 - (ahd 45 vc).length = 1 by omega]
    rfl
  · rw [lk, lq, ahd_miss h]
  · have h1 : (bhd 45 vc).length ≤ 128 := by
      have := congrArg List.length (cut_eq h)
      simp only [List.length_append, List.length_cons] at this
      omega
    refine ⟨by have := pcs_cnt 46 (bhd 45 vc); omega, fun x hx => ?_⟩
    have := pcs_sub (c := 46) hx
    omega
set_option maxRecDepth 100000 in
set_option maxHeartbeats 8000000 in
theorem Split_bad (s : ByteArray) (w : World) (hbad : 128 < s.size ∨ s.data.toList.head? ≠ some 118) : Calls Tryz.prog 37 #[.string s] w (SR s.data.toList w) := by
  have HA0 : Hid (At ((w.alloc (.cells z5.toArray 92)).alloc (.cells z5.toArray 92)) w.heap.size 92 z5) := At.up (at_new w 92 z5) ((Up.refl _).alloc _)
  have HP0 : Hid (At ((w.alloc (.cells z5.toArray 92)).alloc (.cells z5.toArray 92)) (w.heap.size + 1) 92 z5) := by
    have := at_new (w.alloc (.cells z5.toArray 92)) 92 z5
    rw [alloc_size] at this
    exact this
  have HU0 := Hid.of (((Up.refl w).alloc (.cells z5.toArray 92)).alloc (.cells z5.toArray 92))
  have HV := Hid.of (show ver s.data.toList = none by
    unfold ver
    rw [if_pos (by rcases hbad with h | h; exact .inr (by rw [len_of]; exact h); exact .inl h)])
  have hb2 : (128 < s.size) ∨ (¬ 128 < s.size ∧ s.toList.isEmpty = true) ∨ (¬ 128 < s.size ∧ s.toList.isEmpty = false ∧ ∃ h : 0 < s.size, s[0].toNat ≠ 118) := by
    by_cases h1 : 128 < s.size
    · exact .inl h1
    · cases h2 : s.toList.isEmpty with
      | true => exact .inr (.inl ⟨h1, rfl⟩)
      | false =>
        have h0 : 0 < s.size := by
          rcases Nat.eq_zero_or_pos s.size with h | h
          · rw [szero h, show (⟨#[]⟩ : ByteArray) = ⟨([] : List UInt8).toArray⟩ from rfl, emp_eq] at h2; cases h2
          · exact h
        refine .inr (.inr ⟨h1, rfl, h0, fun h => ?_⟩)
        rcases hbad with h3 | h3
        · exact h1 h3
        · rw [head_of h0] at h3
          exact h3 (congrArg some (UInt8.toNat_inj.1 h))
  clear hbad
  rcases hb2 with h | ⟨h, he⟩ | ⟨h, he, h0, h1⟩
  · have hlz : (128 : Int) < (s.size : Int) := by omega
    clear h
    go_enter Tryz.func37, Tryz.ntmps37
    go_wp2_with (with_reducible show wpList _ _ _ ({ dst := _, op := Op.load 92 _, type := _, pos := _, after := _, guard := _ } :: _) _ _; refine Shut.out ?_)
    show wpList _ _ _ _ _ _
    rw [z5lit]
    generalize (w.alloc (.cells z5.toArray 92)).alloc (.cells z5.toArray 92) = W0 at *
    refine wpList_load_mid rfl _ _ rfl (w.heap.size + 1) 0 rfl z5 _ HP0.out.range Tryz.underlying92 rfl (by kernel_rfl) ?_
    simp only [Act.put, List.setIfInBounds_toArray, List.set_cons_zero, List.set_cons_succ]
    go_wp2_with (with_reducible show wpList _ _ _ ({ dst := _, op := Op.store 92 _ _, type := _, pos := _, after := _, guard := _ } :: _) _ _; refine Shut.out ?_)
    show wpList _ _ _ _ _ _
    refine wpList_store_at rfl _ _ _ rfl w.heap.size HA0.out z5 rfl rfl rfl (by kernel_rfl) (one5 _ _ _ _ _ _ _) fun wz hAz hgz => ?_
    have HAz := Hid.of hAz
    have HUz := Hid.of (HU0.out.by hgz (fun g hg => by injection hg with hg; omega))
    clear hAz hgz
    simp only [Act.put]
    go_wp2
    refine bodyPost_ret (result_cell_tmp Tryz.results37 _ _ w.heap.size z5 _ rfl rfl HAz.out.range Tryz.underlying92 rfl (by kernel_rfl)) rfl ?_
    exact SR.no HV.out [] [] [] none 0 0 false HUz.out
  · have hlz : ¬ (128 : Int) < (s.size : Int) := by omega
    clear h
    go_enter Tryz.func37, Tryz.ntmps37
    go_wp2_with (with_reducible show wpList _ _ _ ({ dst := _, op := Op.load 92 _, type := _, pos := _, after := _, guard := _ } :: _) _ _; refine Shut.out ?_)
    show wpList _ _ _ _ _ _
    rw [z5lit]
    generalize (w.alloc (.cells z5.toArray 92)).alloc (.cells z5.toArray 92) = W0 at *
    refine wpList_load_mid rfl _ _ rfl (w.heap.size + 1) 0 rfl z5 _ HP0.out.range Tryz.underlying92 rfl (by kernel_rfl) ?_
    simp only [Act.put, List.setIfInBounds_toArray, List.set_cons_zero, List.set_cons_succ]
    go_wp2_with (with_reducible show wpList _ _ _ ({ dst := _, op := Op.store 92 _ _, type := _, pos := _, after := _, guard := _ } :: _) _ _; refine Shut.out ?_)
    show wpList _ _ _ _ _ _
    refine wpList_store_at rfl _ _ _ rfl w.heap.size HA0.out z5 rfl rfl rfl (by kernel_rfl) (one5 _ _ _ _ _ _ _) fun wz hAz hgz => ?_
    have HAz := Hid.of hAz
    have HUz := Hid.of (HU0.out.by hgz (fun g hg => by injection hg with hg; omega))
    clear hAz hgz
    simp only [Act.put]
    go_wp2
    refine bodyPost_ret (result_cell_tmp Tryz.results37 _ _ w.heap.size z5 _ rfl rfl HAz.out.range Tryz.underlying92 rfl (by kernel_rfl)) rfl ?_
    exact SR.no HV.out [] [] [] none 0 0 false HUz.out
  · have hlz : ¬ (128 : Int) < (s.size : Int) := by omega
    have h0z : (0 : Int) < (s.size : Int) := by omega
    have h1z : ((s[0].toNat : Int) != 118) = true := by rw [bne_iff_ne]; omega
    clear h h1
    go_enter Tryz.func37, Tryz.ntmps37
    go_wp2_with (with_reducible show wpList _ _ _ ({ dst := _, op := Op.load 92 _, type := _, pos := _, after := _, guard := _ } :: _) _ _; refine Shut.out ?_)
    show wpList _ _ _ _ _ _
    rw [z5lit]
    generalize (w.alloc (.cells z5.toArray 92)).alloc (.cells z5.toArray 92) = W0 at *
    refine wpList_load_mid rfl _ _ rfl (w.heap.size + 1) 0 rfl z5 _ HP0.out.range Tryz.underlying92 rfl (by kernel_rfl) ?_
    simp only [Act.put, List.setIfInBounds_toArray, List.set_cons_zero, List.set_cons_succ]
    go_wp2_with (with_reducible show wpList _ _ _ ({ dst := _, op := Op.store 92 _ _, type := _, pos := _, after := _, guard := _ } :: _) _ _; refine Shut.out ?_)
    show wpList _ _ _ _ _ _
    refine wpList_store_at rfl _ _ _ rfl w.heap.size HA0.out z5 rfl rfl rfl (by kernel_rfl) (one5 _ _ _ _ _ _ _) fun wz hAz hgz => ?_
    have HAz := Hid.of hAz
    have HUz := Hid.of (HU0.out.by hgz (fun g hg => by injection hg with hg; omega))
    clear hAz hgz
    simp only [Act.put]
    go_wp2
    refine bodyPost_ret (result_cell_tmp Tryz.results37 _ _ w.heap.size z5 _ rfl rfl HAz.out.range Tryz.underlying92 rfl (by kernel_rfl)) rfl ?_
    exact SR.no HV.out [] [] [] none 0 0 false HUz.out
end Go.Proofs.YtaphjbcnnkoffaaGreatDoor
