import Derived.Test.YtaibjeehjhlicaaGreatDoorQbd
import Derived.OwnWalk
import Derived.Deep.RegionWith
import Derived.Lib.SliceRun
namespace Go.Proofs.YtaibjeehjhlicaaGreatDoor
open Go.RowKit TextNum
theorem Tryz.infoU8 : (Tryz.prog.info? 5).map (fun i => (i.zero, i.size, i.bytes)) = some (some (.int .u8 0), 1, 1) := by kernel_rfl
/-- a slice that reads as these bytes -/
def Sb (w : World) (v : Value) (ds : List UInt8) : Prop :=
  ∃ a c, v = .slice a ds.length c ∧ ds.length ≤ c ∧ c ≤ maxLen ∧ (a = none → ds = [] ∧ c = 0) ∧ ∀ ad, a = some ad → (ds ≠ [] → ad.spot = none) ∧ ∀ j u, (cb ds)[j]? = some u → w.cell? (ad.add j) = some u
theorem Sb.kept {w w' : World} {v : Value} {ds : List UInt8} {row : Option Nat} (h : Sb w v ds) (hg : w.grownBy w' row) (hne : v.ownBlock = none ∨ v.ownBlock ≠ row) : Sb w' v ds := by
  obtain ⟨a, c, rfl, h1, h2, h3, h4⟩ := h
  refine ⟨a, c, rfl, h1, h2, h3, fun ad e => ⟨(h4 ad e).1, fun j u hj => ?_⟩⟩
  subst e
  rcases hne with h | h
  · cases h
  · obtain ⟨b, o, sp⟩ := ad
    obtain rfl : sp = none := (h4 _ rfl).1 (fun e => by rw [e] at hj; cases hj)
    refine hg.cell ((h4 _ rfl).2 j u hj) ?_
    rw [Addr.add_lit]
    exact h
theorem Sb.up {w w' : World} {v : Value} {ds : List UInt8} (h : Sb w v ds) (k : Up w w') : Sb w' v ds := by
  obtain ⟨a, c, rfl, h1, h2, h3, h4⟩ := h
  exact ⟨a, c, rfl, h1, h2, h3, fun ad e => ⟨(h4 ad e).1, fun j u hj => k.cell ((h4 ad e).2 j u hj)⟩⟩
abbrev Ow (w : World) (B : Nat) (v : Value) (xs : List UInt8) : Prop := w.ownsRow B 5 1 v xs.length (cb xs)
theorem Ow.sb {w : World} {B : Nat} {v : Value} {xs : List UInt8} (h : Ow w B v xs) : Sb w v xs := by
  rcases h.2 with ⟨rfl, h0⟩ | ⟨g, cap, cur, rfl, _, hg, hnc, hcm, _, _⟩
  · have : xs = [] := List.eq_nil_of_length_eq_zero h0
    subst this
    exact ⟨none, 0, rfl, by simp, by simp, fun _ => ⟨rfl, rfl⟩, fun _ e => by cases e⟩
  · refine ⟨_, cap, rfl, hnc, hcm, fun e => ?_, fun ad e => ?_⟩
    · cases e
    · obtain rfl := Option.some.inj e
      exact ⟨fun _ => rfl, World.ownsRow.cells h rfl⟩
/-- the bytes ds laid over xs from p on -/
def wr (xs : List UInt8) (p : Nat) (ds : List UInt8) : List UInt8 := if ds = [] then xs else splice (xs ++ List.replicate (p + ds.length - xs.length) 0) p ds
theorem cb_splice (L ds : List UInt8) (p : Nat) : cb (splice L p ds) = splice (cb L) p (cb ds) := by
  unfold splice cb
  simp
theorem cb_zeros (m : Nat) : cb (List.replicate m 0) = List.replicate m (Value.int .u8 0) := by
  unfold cb
  rw [List.map_replicate]
  rfl
theorem cb_one (l : List UInt8) : ∀ u ∈ cb l, u.oneCell' = true := fun u hu => by
  obtain ⟨c, _, rfl⟩ := List.mem_map.1 hu
  rfl
theorem splice_take {α : Type} (L cs : List α) (p n : Nat) (h : p + cs.length ≤ n) (hn : n ≤ L.length) : (splice L p cs).take n = splice (L.take n) p cs := by
  unfold splice
  have e1 : (L.take p).length = p := by rw [List.length_take]; omega
  rw [List.take_append, List.take_append, e1, List.take_take, List.take_take, Nat.min_eq_left (show p ≤ n by omega), Nat.min_eq_right (show p ≤ n by omega), List.take_of_length_le (l := cs) (by omega), List.drop_take, Nat.sub_sub]
theorem splice_len {α : Type} (L : List α) (off : Nat) (cs : List α) (h : off + cs.length ≤ L.length) : (splice L off cs).length = L.length := length_splice L off cs h
theorem wr_len (xs : List UInt8) (p : Nat) (ds : List UInt8) (h : ds ≠ []) : (wr xs p ds).length = max xs.length (p + ds.length) := by
  unfold wr
  rw [if_neg h, splice_len _ _ _ (by rw [List.length_append, List.length_replicate]; omega), List.length_append, List.length_replicate]
  omega
/-- the copy's end -/
theorem own_splice {w : World} {B : Nat} {v : Value} {ys ds : List UInt8} {g cap p : Nat} {cur : Array Value} (hv : v = .slice (some ⟨g, 0, none⟩) ys.length cap) (hB : B ≤ g) (hg : w.heap[g]? = some (.cells cur 5 (0, 0))) (hnc : ys.length ≤ cap) (hcm : cap ≤ maxLen)
    (hcs : cur.size = cap * 1) (ht : cur.toList.take (ys.length * 1) = cb ys) (hp : p + ds.length ≤ ys.length) :
    Ow (w.setRow g (cur.toList.take p ++ (cb ds ++ cur.toList.drop (p + (cb ds).length))).toArray) B v (splice ys p ds) := by
  have hl := splice_len ys p ds hp
  have hc : cur.toList.length = cur.size := Array.length_toList
  subst hv
  refine ⟨by rw [cb_length, Nat.mul_one], .inr ⟨g, cap, _, by rw [hl], hB, setRow_heap w g cur _ _ _ hg, by rw [hl]; exact hnc, hcm, ?_, ?_⟩⟩
  · have h0 : p + (cb ds).length ≤ cur.toList.length := by rw [cb_length, hc]; omega
    have h1 : (splice cur.toList p (cb ds)).length = cur.toList.length := splice_len _ _ _ h0
    unfold splice at h1
    rw [List.size_toArray, h1, hc]
    exact hcs
  · have h1 := splice_take cur.toList (cb ds) p ys.length (by rw [cb_length]; exact hp) (by rw [hc]; omega)
    rw [Nat.mul_one] at ht ⊢
    rw [hl, cb_splice, ← ht]
    exact h1
set_option maxRecDepth 100000 in
set_option maxHeartbeats 4000000 in
theorem written_walk (B : Nat) (vo vd : Value) (xs ds : List UInt8) (p : Nat) (w : World) (ho : Ow w B vo xs) (hd : Sb w vd ds) (hne : vd.ownBlock = none ∨ vd.ownBlock ≠ vo.ownBlock)
    (hp : p ≤ 1099511627776) (hxs : xs.length ≤ 35184372088832) (hds : ds.length ≤ 35184372088832) (hB : B ≤ w.heap.size) :
    Calls Tryz.prog 98 #[vo, .int .i64 (p : Int), vd] w fun e w' => ∃ v', e = .returned v' ∧ Ow w' B v' (wr xs p ds) ∧ w.grownBy w' vo.ownBlock ∧ Frs w vo v' := by
  by_cases h0 : ds = []
  · subst h0
    obtain ⟨a, c, rfl, h1, h2, h3, h4⟩ := hd
    have HO := Hid.of ho
    clear ho h4 h3 h2 h1 hne
    go_enter Tryz.func98, Tryz.ntmps98
    go_wp2
    go_ret
    exact ⟨vo, rfl, HO.out, ⟨rfl, rfl, rfl, Nat.le_refl _, fun _ _ _ => rfl⟩, Frs.same rfl⟩
  · obtain ⟨i0, hi, hz0, hz1, hz2⟩ := info_parts Tryz.infoU8
    have hm : 0 < ds.length := List.length_pos_iff.2 h0
    have HO := Hid.of ho
    have HD := Hid.of hd
    obtain ⟨a, c, rfl, h1, h2, h3, h4⟩ := hd
    cases a with
    | none => exact absurd (h3 rfl).1 h0
    | some ad =>
    obtain ⟨ao, co, rfl, k1, k2, k3, k4⟩ := ho.sb
    have hmz : ((ds.length : Int) == 0) = false := by rw [beq_eq_false_iff_ne]; omega
    by_cases hk : xs.length < p + ds.length
    · obtain ⟨k, hk2⟩ : ∃ k, p + ds.length = xs.length + k := ⟨p + ds.length - xs.length, by omega⟩
      have hkz : (p : Int) + (ds.length : Int) - (xs.length : Int) = (k : Int) := by omega
      have hkp : (0 : Int) < (k : Int) := by omega
      have HK := Hid.of hk2
      have HN := Hid.of hne
      clear k4 k3 h4 h3 ho hk2 hne
      go_enter Tryz.func98, Tryz.ntmps98
      go_wp2_with (with_reducible show wpList _ _ _ ({ dst := _, op := Op.call { callee := Callee.builtin Builtin.append, args := _, argTypes := _ }, type := _, pos := _, after := _, guard := _ } :: _) _ _; refine Shut.out ?_)
      show wpList _ _ _ _ _ _
      refine wpList_append_zeros rfl _ _ 41 3 rfl B 5 i0 Tryz.underlying41 Tryz.underlying3 hi hz0 hz1 hz2 _ xs.length (cb xs) rfl HO.out k rfl (by omega) (by omega) hB ?_
      intro v1 w1 o1 g1 f1
      simp only [Act.put, List.setIfInBounds_toArray, List.set_cons_zero, List.set_cons_succ]
      have hN : (xs ++ List.replicate k (0 : UInt8)).length = xs.length + k := by rw [List.length_append, List.length_replicate]
      have o2 : Ow w1 B v1 (xs ++ List.replicate k 0) := by
        unfold Ow
        rw [hN, cb_append, cb_zeros]
        exact o1
      have d1 := HD.out.kept g1 HN.out
      rcases o2.2 with ⟨_, e0⟩ | ⟨g, cap, cur, rfl, hbg, hg, hnc, hcm, hcs, ht⟩
      · exact absurd e0 (by omega)
      rw [hN] at *
      clear hN
      have HG := Hid.of (And.intro hbg (And.intro hg (And.intro hnc (And.intro hcm (And.intro hcs ht)))))
      have HG1 := Hid.of g1
      have HF1 := Hid.of f1
      have hsrc : ∀ j u, (cb ds)[j]? = some u → w1.cell? (ad.add j) = some u := by
        obtain ⟨a2, c2, e2, _, _, _, h5⟩ := d1
        injection e2 with e2
        exact (h5 ad e2.symm).2
      have HSR := Hid.of hsrc
      have q1 : (p : Int) ≤ ((xs.length + k : Nat) : Int) := by omega
      have q2 : ((xs.length + k : Nat) : Int) ≤ (cap : Int) := by omega
      clear o1 g1 f1 o2 d1 hbg hg hnc hcm hcs ht hsrc
      go_wp2_with (with_reducible show wpList _ _ _ ({ dst := _, op := Op.call { callee := Callee.builtin Builtin.copy, args := _, argTypes := _ }, type := _, pos := _, after := _, guard := _ } :: _) _ _; refine Shut.out ?_)
      show wpList _ _ _ _ _ _
      refine wpList_copy_own rfl _ _ 41 41 rfl 5 Tryz.underlying41 (by kernel_rfl) g p _ _ ad ds.length c rfl rfl cur 5 HG.out.2.1 (cb ds) ?_ HSR.out ?_ (cb_one ds) ?_
      · have := HK.out
        rw [cb_length, show xs.length + k - p = ds.length by omega]
        exact (Nat.min_self _).symm
      · have := HK.out
        have := HG.out.2.2.2.2.1
        have := HG.out.2.2.1
        rw [cb_length]; omega
      have hN : (xs ++ List.replicate k (0 : UInt8)).length = xs.length + k := by rw [List.length_append, List.length_replicate]
      have HE := Hid.of (own_splice (w := w1) (v := .slice (some ⟨g, 0, none⟩) (xs.length + k) cap) (ys := xs ++ List.replicate k 0) (p := p) (ds := ds) (by rw [hN]) HG.out.1 HG.out.2.1 (by rw [hN]; exact HG.out.2.2.1) HG.out.2.2.2.1 HG.out.2.2.2.2.1 (by rw [hN]; exact HG.out.2.2.2.2.2) (by rw [hN]; have := HK.out; omega))
      have HW := Hid.of (show w.grownBy (w1.setRow g (cur.toList.take p ++ (cb ds ++ cur.toList.drop (p + (cb ds).length))).toArray) (Value.slice ao xs.length co).ownBlock from
        ⟨HG1.out.os, HG1.out.tape, HG1.out.output, by have := HG1.out.size; simpa [World.setRow] using this, fun j hj hne => by
          rw [setRow_other w1 g j _ (fun e => by
            subst e
            rcases HF1.out _ rfl with h | h
            · exact hne h.symm
            · have h2 : w.heap.size ≤ j := h
              omega)]
          exact HG1.out.block j hj hne⟩)
      have hfin : splice (xs ++ List.replicate k 0) p ds = wr xs p ds := by
        unfold wr
        rw [if_neg h0, show p + ds.length - xs.length = k by have := HK.out; omega]
      rw [hfin] at HE
      simp only [Act.put, List.setIfInBounds_toArray, List.set_cons_zero, List.set_cons_succ]
      generalize w1.setRow g _ = w2 at *
      clear HG HG1 HSR q1 q2
      go_wp2
      go_ret
      exact ⟨_, rfl, HE.out, HW.out, HF1.out⟩
    · rcases ho.2 with ⟨_, e0⟩ | ⟨g, cap, cur, e1, hbg, hg, hnc, hcm, hcs, ht⟩
      · exact absurd e0 (by omega)
      injection e1 with e1 e2 e3
      subst e1 e3
      have hkz : ¬ (0 : Int) < (p : Int) + (ds.length : Int) - (xs.length : Int) := by omega
      have HG := Hid.of (And.intro hbg (And.intro hg (And.intro hnc (And.intro hcm (And.intro hcs ht)))))
      have HSR := Hid.of (h4 ad rfl).2
      have q1 : (p : Int) ≤ (xs.length : Int) := by omega
      have q2 : (xs.length : Int) ≤ (co : Int) := by omega
      clear k4 k3 h4 h3 ho hne hbg hg hnc hcm hcs ht k1
      go_enter Tryz.func98, Tryz.ntmps98
      go_wp2_with (with_reducible show wpList _ _ _ ({ dst := _, op := Op.call { callee := Callee.builtin Builtin.copy, args := _, argTypes := _ }, type := _, pos := _, after := _, guard := _ } :: _) _ _; refine Shut.out ?_)
      show wpList _ _ _ _ _ _
      refine wpList_copy_own rfl _ _ 41 41 rfl 5 Tryz.underlying41 (by kernel_rfl) g p _ _ ad ds.length c rfl rfl cur 5 HG.out.2.1 (cb ds) ?_ HSR.out ?_ (cb_one ds) ?_
      · rw [cb_length]
        exact (Nat.min_eq_left (by omega)).symm
      · have := HG.out.2.2.2.2.1
        have := HG.out.2.2.1
        rw [cb_length]; omega
      have HE := Hid.of (own_splice (w := w) (v := .slice (some ⟨g, 0, none⟩) xs.length co) (ys := xs) (p := p) (ds := ds) rfl HG.out.1 HG.out.2.1 HG.out.2.2.1 HG.out.2.2.2.1 HG.out.2.2.2.2.1 HG.out.2.2.2.2.2 (by omega))
      have HW := Hid.of (show w.grownBy (w.setRow g (cur.toList.take p ++ (cb ds ++ cur.toList.drop (p + (cb ds).length))).toArray) (some g) from
        ⟨rfl, rfl, rfl, by simp [World.setRow], fun j hj hne => setRow_other w g j _ (fun e => hne (by rw [e]))⟩)
      have hfin : splice xs p ds = wr xs p ds := by
        unfold wr
        rw [if_neg h0, show p + ds.length - xs.length = 0 by omega, List.replicate_zero, List.append_nil]
      rw [hfin] at HE
      simp only [Act.put, List.setIfInBounds_toArray, List.set_cons_zero, List.set_cons_succ]
      generalize w.setRow g _ = w2 at *
      clear HG HSR q1 q2
      go_wp2
      go_ret
      exact ⟨_, rfl, HE.out, HW.out, Frs.same rfl⟩
end Go.Proofs.YtaibjeehjhlicaaGreatDoor
namespace Go.Proofs.YtaibjeehjhlicaaGreatDoor
open Go.RowKit TextNum
theorem own_empty (w : World) : Ow (w.alloc (.cells #[] 5)) w.heap.size (.slice (some ⟨w.heap.size, 0, none⟩) 0 0) [] :=
  ⟨rfl, .inr ⟨w.heap.size, 0, #[], rfl, Nat.le_refl _, heap_alloc_new w _, Nat.le_refl _, by simp [maxLen], rfl, rfl⟩⟩
theorem up_grownBy {a b c : World} {row : Option Nat} (h : Up a b) (k : b.grownBy c row) (hr : ∀ g, row = some g → a.heap.size ≤ g) : Up a c :=
  ⟨k.os.trans h.os, k.tape.trans h.tape, k.output.trans h.output, Nat.le_trans h.size k.size, fun j hj => (k.block j (Nat.lt_of_lt_of_le hj h.size) (fun e => by have := hr j e.symm; omega)).trans (h.block j hj)⟩
theorem grownBy_undrew {w w' : World} {r : Option Nat} (h : w.drew.grownBy w' r) : w.grownBy w' r := ⟨h.os, h.tape, h.output, h.size, h.block⟩
set_option maxRecDepth 100000 in
set_option maxHeartbeats 1000000 in
theorem Clone_walk (v : Value) (ds : List UInt8) (w : World) (hd : Sb w v ds) (hl : ds.length ≤ 140737488355328) :
    Calls Tryz.prog 48 #[v] w fun e w' => ∃ v', e = .returned v' ∧ Ow w' w.heap.size v' ds ∧ Up w w' := by
  obtain ⟨i0, hi, hz0, hz1, hz2⟩ := info_parts Tryz.infoU8
  obtain ⟨a, c, rfl, h1, h2, h3, h4⟩ := hd
  cases a with
  | none =>
    obtain ⟨rfl, rfl⟩ := h3 rfl
    clear h4 h3 h2 h1
    have heq : ∀ w', (binOp .eql 41 (.slice none 0 0) (.slice none 0 0)).run Tryz.prog w' = .ok (.bool true) w' := fun w' => Go.Lib.run_eql_slice_nil w' 41 5 none 0 0 0 0 Tryz.underlying41
    go_enter Tryz.func48, Tryz.ntmps48
    go_wp2
    go_ret
    exact ⟨_, rfl, World.ownsRow_nil _ _ _ _, Up.refl _⟩
  | some ad =>
    have HS := Hid.of (h4 ad rfl).2
    have HO := Hid.of (own_empty w)
    have HU := Hid.of ((Up.refl w).alloc (.cells #[] 5))
    clear h4 h3
    have heq : ∀ w', (binOp .eql 41 (.slice (some ad) ds.length c) (.slice none 0 0)).run Tryz.prog w' = .ok (.bool false) w' := fun w' => Go.Lib.run_eql_slice_nil w' 41 5 (some ad) ds.length c 0 0 Tryz.underlying41
    go_enter Tryz.func48, Tryz.ntmps48
    go_wp2_with (with_reducible show wpList _ _ _ ({ dst := _, op := Op.call { callee := Callee.builtin Builtin.append, args := _, argTypes := _ }, type := _, pos := _, after := _, guard := _ } :: _) _ _; refine Shut.out ?_)
    show wpList _ _ _ _ _ _
    refine wpList_append_frs rfl _ _ 41 rfl w.heap.size 5 i0 (.int .u8 0) 1 Tryz.underlying41 hi hz0 hz1 hz2 rfl _ 0 [] rfl HO.out ad ds.length c (cb ds) rfl (by rw [cb_length]; omega) (fun j u hj => HU.out.cell (HS.out j u hj)) (cb_one ds) (by simp only [maxLen]; omega) (by omega) (by have := HU.out.size; exact this) ?_
    intro v1 w1 o1 g1 f1
    have HO1 := Hid.of (show Ow w1 w.heap.size v1 ds by unfold Ow; simpa using o1)
    have HU1 := Hid.of (up_grownBy HU.out g1 (fun g hg => by have e : w.heap.size = g := Option.some.inj hg; omega))
    clear o1 g1 f1
    simp only [Act.put, List.setIfInBounds_toArray, List.set_cons_zero, List.set_cons_succ]
    go_wp2
    go_ret
    exact ⟨_, rfl, HO1.out, HU1.out⟩
set_option maxRecDepth 100000 in
set_option maxHeartbeats 1000000 in
theorem copied_walk (v : Value) (ds : List UInt8) (w : World) (hd : Sb w v ds) (hl : ds.length ≤ 140737488355328) :
    Calls Tryz.prog 23 #[v] w fun e w' => ∃ v', e = .returned v' ∧ Ow w' w.heap.size v' ds ∧ Up w w' := by
  obtain ⟨i0, hi, hz0, hz1, hz2⟩ := info_parts Tryz.infoU8
  obtain ⟨a, c, rfl, h1, h2, h3, h4⟩ := hd
  cases a with
  | none =>
    obtain ⟨rfl, rfl⟩ := h3 rfl
    clear h4 h3 h2 h1
    go_enter Tryz.func23, Tryz.ntmps23
    go_wp2
    go_ret
    exact ⟨_, rfl, World.ownsRow_nil _ _ _ _, Up.refl _⟩
  | some ad =>
    have HS := Hid.of (h4 ad rfl).2
    clear h4 h3
    go_enter Tryz.func23, Tryz.ntmps23
    go_wp2_with (with_reducible show wpList _ _ _ ({ dst := _, op := Op.call { callee := Callee.builtin Builtin.append, args := _, argTypes := _ }, type := _, pos := _, after := _, guard := _ } :: _) _ _; refine Shut.out ?_)
    show wpList _ _ _ _ _ _
    refine wpList_append_frs rfl _ _ 41 rfl w.heap.size 5 i0 (.int .u8 0) 1 Tryz.underlying41 hi hz0 hz1 hz2 rfl _ 0 [] rfl (World.ownsRow_nil _ _ _ _) ad ds.length c (cb ds) rfl (by rw [cb_length]; omega) HS.out (cb_one ds) (by simp only [maxLen]; omega) (by omega) (Nat.le_refl _) ?_
    intro v1 w1 o1 g1 f1
    have HO1 := Hid.of (show Ow w1 w.heap.size v1 ds by unfold Ow; simpa using o1)
    have HU1 := Hid.of (up_grownBy (Up.refl w) g1 (fun g hg => by cases hg))
    clear o1 g1 f1
    simp only [Act.put, List.setIfInBounds_toArray, List.set_cons_zero, List.set_cons_succ]
    go_wp2
    go_ret
    exact ⟨_, rfl, HO1.out, HU1.out⟩
set_option maxRecDepth 100000 in
set_option maxHeartbeats 1000000 in
theorem write1_walk (B : Nat) (vo vk : Value) (xs ds : List UInt8) (p ba bk : Nat) (w : World) (ho : Ow w B vo xs) (hd : Sb w vk ds) (hne : vk.ownBlock = none ∨ vk.ownBlock ≠ vo.ownBlock)
    (hca : w.cell? ⟨ba, 0, none⟩ = some (.int .i64 (p : Int))) (hck : w.cell? ⟨bk, 0, none⟩ = some vk)
    (hp : p ≤ 1099511627776) (hxs : xs.length ≤ 35184372088832) (hds : ds.length ≤ 35184372088832) (hB : B ≤ w.heap.size) :
    Calls Tryz.prog 97 #[vo, .int .i64 (ds.length : Int), .pointer (some ⟨ba, 0, none⟩), .pointer (some ⟨bk, 0, none⟩)] w fun e w' => ∃ v', e = .returned v' ∧ Ow w' B v' (wr xs p ds) ∧ w.grownBy w' vo.ownBlock ∧ Frs w vo v' := by
  obtain ⟨a, c, rfl, h1, h2, h3, h4⟩ := hd
  have HC := Hid.of (written_walk B vo (.slice a ds.length c) xs ds p w.drew ho ⟨a, c, rfl, h1, h2, h3, h4⟩ hne hp hxs hds hB)
  have q1 : (ds.length : Int) ≤ (c : Int) := by omega
  clear ho h4 hne hxs
  go_enter Tryz.func97, Tryz.ntmps97
  go_wp2
  go_region_with (go_at_call 98; refine HC.out.mono ?_; rintro e w1 ⟨v1, rfl, o1, g1, f1⟩; have HO1 := Hid.of o1; have HG1 := Hid.of (grownBy_undrew g1); have HF1 := Hid.of (show Frs w vo v1 from f1); clear o1 g1 f1)
  all_goals go_wp2
  all_goals go_ret
  all_goals exact ⟨_, rfl, HO1.out, HG1.out, HF1.out⟩
end Go.Proofs.YtaibjeehjhlicaaGreatDoor
