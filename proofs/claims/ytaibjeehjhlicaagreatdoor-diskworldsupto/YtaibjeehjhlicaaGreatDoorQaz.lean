import Derived.Test.YtaibjeehjhlicaaGreatDoorQbi
import Derived.Test.YtaibjeehjhlicaaGreatDoorQbp
import Derived.Test.YtaibjeehjhlicaaGreatDoorQaq
namespace Go.Proofs.YtaibjeehjhlicaaGreatDoor
open Go.RowKit Go.Shelf TextNum ModNum Go.Sort
/-- slices.Sort of a list of one's own leaves it one's own -/
theorem Sort_own (B : Nat) (v : Value) (xs : List (List UInt8)) (w : World) (h : OwS w B v xs) (hl : xs.length ≤ 1099511627776) :
    Calls Tryz.prog 43 #[v] w fun e w' => e = .returned (.tuple #[]) ∧ OwS w' B v (xs.mergeSort fun x y => decide (x ≤ y)) ∧ w.grownBy w' v.ownBlock := by
  rcases h.2 with ⟨rfl, h0⟩ | ⟨g, cap, cur, rfl, hb, hg, hnc, hcm, hcs, ht⟩
  · have : xs = [] := List.eq_nil_of_length_eq_zero h0
    subst this
    refine (Any.slices_Sort_string_none Tryz.lays190 none 0 w).mono ?_
    rintro e w' ⟨rfl, rfl⟩
    exact ⟨rfl, by rw [List.mergeSort_nil]; exact World.ownsRow_nil _ _ _ _, grown_refl _ _⟩
  · have hH : Go.Sort.Holds encStr w g 0 xs.toArray := fun j hj => by
      have hj1 : j < xs.length := by simpa using hj
      have h1 := World.ownsRow.cells h rfl j _ (cst_get hj1)
      rw [Addr.add_lit] at h1
      refine ⟨?_, by simp [World.frozen?, hg]⟩
      rw [h1]
      simp [hj1]
    have hlt : g < w.heap.size := (Array.getElem?_eq_some_iff.1 hg).1
    refine (Any.slices_Sort_string Tryz.lays190 g 0 cap xs w hH hlt (by omega)).mono ?_
    rintro e w' ⟨rfl, n, os, rfl⟩
    have hlen : (xs.mergeSort fun x y => decide (x ≤ y)).length = xs.length := List.length_mergeSort _
    have hup : Up (putRow encStr (Sort.ahead w n) g 0 (xs.mergeSort fun x y => decide (x ≤ y)).toArray) (Go.Sort.grow (putRow encStr (Sort.ahead w n) g 0 (xs.mergeSort fun x y => decide (x ≤ y)).toArray) os) :=
      ⟨rfl, rfl, rfl, by simp [Go.Sort.grow], fun k hk => heap_grow_old _ os hk⟩
    have hgb : w.grownBy (putRow encStr (Sort.ahead w n) g 0 (xs.mergeSort fun x y => decide (x ≤ y)).toArray) (some g) := ⟨rfl, rfl, rfl, by rw [size_putRow]; exact Nat.le_refl _, fun k hk hne => by
      have hne2 : ¬ g = k := fun e => hne (by rw [← e])
      simp [putRow, mapBlock, Array.getElem?_modify, hne2, Sort.ahead]⟩
    refine ⟨rfl, ow_up (w := putRow encStr (Sort.ahead w n) g 0 (xs.mergeSort fun x y => decide (x ≤ y)).toArray) ⟨by simp [cst], .inr ⟨g, cap, putCells encStr 0 (xs.mergeSort fun x y => decide (x ≤ y)).toArray cur, by rw [hlen], hb, ?_, by rw [hlen]; exact hnc, hcm, ?_, ?_⟩⟩ hup, grown_up hgb hup⟩
    · simp [putRow, mapBlock, Array.getElem?_modify, Sort.ahead, hg, onCells]
    · simp [putCells, hcs]
    · refine List.ext_getElem? (fun i => ?_)
      rw [List.getElem?_take]
      by_cases hi : i < (xs.mergeSort fun x y => decide (x ≤ y)).length
      · rw [if_pos (by omega)]
        have h5 := cell?_putRow encStr (Sort.ahead w n) g 0 xs.toArray (xs.mergeSort fun x y => decide (x ≤ y)).toArray hH (by simp) i (by simpa using hi)
        have hh : (putRow encStr (Sort.ahead w n) g 0 (xs.mergeSort fun x y => decide (x ≤ y)).toArray).heap[g]? = some (.cells (putCells encStr 0 (xs.mergeSort fun x y => decide (x ≤ y)).toArray cur) 9 (0, 0)) := by
          simp [putRow, mapBlock, Array.getElem?_modify, Sort.ahead, hg, onCells]
        simp only [World.cell?, hh, Nat.zero_add, Option.isSome_none, Bool.false_eq_true, if_false] at h5
        rw [Array.getElem?_toList, h5, cst_get hi]
        have hi2 : i < (xs.mergeSort fun x y => decide (x ≤ y)).toArray.size := by simpa using hi
        rw [getElem!_pos _ i hi2]
        simp
      · rw [if_neg (by omega), List.getElem?_eq_none]
        simp [cst] at hi ⊢
        omega
set_option maxRecDepth 100000 in
set_option maxHeartbeats 4000000 in
theorem List_own (D M n : Nat) (dm : DataW Unit) (p : ByteArray) (x0 x1 x4 x5 x6 x7 x8 x9 x10 x11 : Value) (w : World) (hn : n ≤ 1099511627776) (hA : At w D 85 [x0, x1, .bool false, .map (some M), x4, x5, x6, x7, x8, x9, x10, x11]) (hM : OM w M n dm) :
    Calls Tryz.prog 12 #[.pointer (some ⟨D, 0, none⟩), .string p] w fun e w' => ∃ v xs, e = .returned v ∧ OwS w' w.heap.size v (xs.mergeSort fun x y => decide (x ≤ y)) ∧ LsOk dm p.data.toList (fun _ => false) xs ∧ Up w w' := by
  have c2 := hA.cell (i := 2) rfl
  have c3 := hA.cell (i := 3) rfl
  have HM := Hid.of hM
  have HPre := fun s w' => Hid.of (Pre_walk s p w')
  clear hA hM
  go_enter Tryz.func12, Tryz.ntmps12
  go_wp2_with (with_reducible show wpList _ _ _ ({ dst := _, op := Op.range 81 _, type := _, pos := _, after := _, guard := _ } :: _) _ _; refine Shut.out ?_)
  show wpList _ _ _ _ _ _
  refine wpList_range_own _ rfl _ 81 rfl 9 88 (Maps.string_keyed Tryz.underlying9) Tryz.underlying81 rp M n dm rfl HM.out ?_
  intro w1 hrg hg1 hs1
  have HRg := Hid.of hrg
  have HU1 := Hid.of (show Up w w1 from up_grownBy (Up.refl w) hg1 (fun g hg => by cases hg))
  clear hrg hg1 hs1 c2 c3 HM
  simp only [Act.put, List.setIfInBounds_toArray, List.set_cons_zero, List.set_cons_succ]
  go_wp2
  obtain ⟨i0, hi, hz0, hz1, hz2⟩ := info_parts Tryz.infoStr
  go_loopw [5, 6] (fun v5 _ wr => ∃ a c xs left cnt, v5 = .slice a (List.length xs) c ∧ Hid (OwS wr w.heap.size (.slice a (List.length xs) c) xs ∧ wr.ranges Tryz.prog 9 rp M w.heap.size n dm left cnt ∧ Up w wr ∧ LsOk dm p.data.toList left xs ∧ xs.length + cnt ≤ n)) (fun _ _ wr => wr.rangeLeft M w.heap.size)
  case atStart =>
    refine ⟨none, 0, [], Maps.has dm, Maps.size dm, rfl, Hid.of ⟨World.ownsRow_nil _ _ _ _, HRg.out, HU1.out, ⟨fun l => ⟨(fun h => by cases h), (fun h => by have h1 := h.1; have h2 := h.2.1; rw [h1] at h2; cases h2)⟩, List.nodup_nil⟩, ?_⟩⟩
    have := World.ownsMap.size_le HRg.out.owns
    simpa using this
  case round =>
    obtain ⟨a, c, xs, left, cnt, rfl, hR⟩ := hrel
    have HR := Hid.of hR.out
    clear hR
    go_wp2_with (with_reducible show wpList _ _ _ ({ dst := _, op := Op.next _ _, type := _, pos := _, after := _, guard := _ } :: _) _ _; refine Shut.out ?_)
    show wpList _ _ _ _ _ _
    refine wpList_next_ranges _ rfl _ rfl 9 (Maps.string_keyed Tryz.underlying9) rp (fun s : ByteArray => .string s) (fun a : Option Addr => .pointer a) (fun _ _ h => keyS_str h) (fun _ _ h => rp_ptr h) M w.heap.size n dm left cnt rfl HR.out.2.1 ?_ ?_
    · intro _ hl
      have HL := Hid.of hl
      clear hl
      simp only [Act.put, List.setIfInBounds_toArray, List.set_cons_zero, List.set_cons_succ]
      have HS := Hid.of (Sort_own w.heap.size (.slice a xs.length c) xs wr HR.out.1 (by have := HR.out.2.2.2.2; omega))
      go_wp2_with fail
      refine HS.out.mono ?_
      rintro e w4 ⟨rfl, s4, g4⟩
      have HS4 := Hid.of s4
      have HU4 := Hid.of (up_grownBy HR.out.2.2.1 g4 (fun g hg => (World.ownsRow.lt HR.out.1 g hg).1))
      clear s4 g4 HS
      dsimp only
      go_wp2
      go_ret
      refine ⟨_, xs, rfl, HS4.out, ⟨fun l => ?_, HR.out.2.2.2.1.nd⟩, HU4.out⟩
      rw [HR.out.2.2.2.1.mem l, HL.out]
    · intro x cv kl y w4 cnt4 hkey hlk hv hat hrg4 hlt hgr hsz hen
      obtain rfl := keyS_inv hkey
      have HO4 := Hid.of (World.ownsRow.kept HR.out.1 hgr (.inr (fun e => (own_iter HR.out.2.1 HR.out.1).2 e.symm)))
      have HRg4 := Hid.of hrg4
      have HU4 := Hid.of (up_grownBy HR.out.2.2.1 hgr (fun g hg => by have := Option.some.inj hg; omega))
      have HK := Hid.of (And.intro hlk (And.intro hlt HR.out.2.2.2.2))
      have HLs := Hid.of HR.out.2.2.2.1
      have HRl := Hid.of HR.out.2.1
      have HHas := Hid.of (rng_has HRl.out hlk)
      clear hkey hlk hv hat hrg4 hlt hgr hsz HR
      simp only [Act.put, List.setIfInBounds_toArray, List.set_cons_zero, List.set_cons_succ]
      go_wp2_with fail
      refine (HPre x w4).out.mono ?_
      rintro e w5 ⟨rfl, rfl⟩
      dsimp only
      have HSt := Hid.of (HLs.out.step x.data.toList HK.out.1 HHas.out)
      cases hp : pfx p.data.toList x.data.toList with
      | false =>
        rw [hp, if_neg (by decide)] at HSt
        clear hp hen
        go_wp2
        go_roundw
        case rel => exact ⟨a, c, xs, _, cnt4, rfl, Hid.of ⟨HO4.out, HRg4.out, HU4.out, HSt.out, by have := HK.out; omega⟩⟩
        case measure => rw [HRg4.out.left_eq, HRl.out.left_eq]; exact HK.out.2.1
      | true =>
        rw [hp, if_pos rfl] at HSt
        clear hp hen
        have HUx := Hid.of ((Up.refl w5).alloc (.cells [.string x].toArray 9))
        have hxl : xs.length ≤ 1099511627776 := by have := HK.out; omega
        go_wp2_with (with_reducible show wpList _ _ _ ({ dst := _, op := Op.call { callee := Callee.builtin Builtin.append, args := _, argTypes := _ }, type := _, pos := _, after := _, guard := _ } :: _) _ _; refine Shut.out ?_)
        show wpList _ _ _ _ _ _
        refine wpList_append_frs rfl _ _ 29 rfl w.heap.size 9 i0 (.string ⟨#[]⟩) 16 Tryz.underlying29 hi hz0 hz1 hz2 rfl (.slice a xs.length c) xs.length (cst xs) rfl (ow_up HO4.out HUx.out) ⟨w5.heap.size, 0, none⟩ 1 1 [.string x] rfl rfl ?_ ?_ (by simp only [maxLen]; omega) (by omega) (by have := HU4.out.size; simp; omega) ?_
        · intro j u hu
          rw [Addr.add_lit]
          exact At.cell (at_new w5 9 [.string x]) (i := 0 + j) (by rw [Nat.zero_add]; exact hu)
        · intro u hu
          obtain rfl := List.mem_singleton.1 hu
          rfl
        intro v8 w8 o8 g8 f8
        have o9 : OwS w8 w.heap.size v8 (xs ++ [x.data.toList]) := by
          unfold OwS
          rw [List.length_append]
          have e5 : cst (xs ++ [x.data.toList]) = cst xs ++ [.string x] := by unfold cst; rw [List.map_append]; rfl
          rw [e5]
          exact o8
        have hown5 := ow_up HO4.out HUx.out
        have hrg5 : World.ranges _ Tryz.prog 9 rp M w.heap.size n dm _ cnt4 := World.ranges.alloc HRg4.out (.cells [.string x].toArray 9)
        have hit := own_iter hrg5 hown5
        have HRg8 := Hid.of (World.ranges.kept hrg5 g8 hit.1 hit.2)
        have HU8 := Hid.of (up_grownBy (HU4.out.trans HUx.out) g8 (fun g hg => (World.ownsRow.lt HO4.out g hg).1))
        obtain ⟨a8, c8, hv8⟩ : ∃ a8 c8, v8 = .slice a8 (xs ++ [x.data.toList]).length c8 := by
          rcases o9.2 with ⟨h, h0⟩ | ⟨g, cap, cur, h, _⟩
          · exact ⟨none, 0, by rw [h, h0]⟩
          · exact ⟨_, cap, h⟩
        subst hv8
        have HO9 := Hid.of o9
        clear o8 g8 f8 o9 hown5 hrg5 hit
        simp only [Act.put, List.setIfInBounds_toArray, List.set_cons_zero, List.set_cons_succ]
        go_wp2
        go_roundw
        case rel => exact ⟨a8, c8, xs ++ [x.data.toList], _, cnt4, by simp, Hid.of ⟨HO9.out, HRg8.out, HU8.out, HSt.out, by have := HK.out; simp; omega⟩⟩
        case measure => rw [HRg8.out.left_eq, HRl.out.left_eq]; exact HK.out.2.1
theorem List_dd {B D T : Nat} {s : DD} (p : ByteArray) (w : World) (h : DOk w B D T s) (hd : s.dead = false) :
    Calls Tryz.prog 12 #[pv D, .string p] w fun e w' => ∃ v, e = .returned v ∧ OwS w' w.heap.size v (lsN s.nf p.data.toList) ∧ Up w w' := by
  have hn := h.num
  refine (List_own D s.M s.nM s.dm p _ _ _ _ _ _ _ _ _ _ w (by omega) (h.disk0 hd) h.mnow).mono ?_
  rintro e w' ⟨v, xs, rfl, q1, q2, q3⟩
  refine ⟨v, rfl, ?_, q3⟩
  have hp : xs.Perm ((s.nf.map (·.1)).filter fun l => pfx p.data.toList l) := (List.perm_ext_iff_of_nodup q2.nd (List.Nodup.sublist List.filter_sublist h.nd)).2 (fun l => by
    rw [q2.mem l, List.mem_filter, h.isn.has l]
    simp)
  have e : xs.mergeSort (fun x y => decide (x ≤ y)) = lsN s.nf p.data.toList := srt_eq hp
  rw [← e]
  exact q1
end Go.Proofs.YtaibjeehjhlicaaGreatDoor
namespace Go.Proofs.YtaibjeehjhlicaaGreatDoor
open Go.RowKit Go.Shelf TextNum ModNum
set_option maxRecDepth 100000 in
set_option maxHeartbeats 1000000 in
theorem within_gen (n : Int) (hi : Nat) (hb : hi ≤ 1099511627776) (w : World) : Calls Tryz.prog 24 #[.int .i64 n, .int .i64 0, .int .i64 (hi : Int)] w fun e w' => e = .returned (.int .i64 (((n % ((hi : Int) + 1)).toNat : Nat) : Int)) ∧ w' = w := by
  have HR := Hid.of (show (((n % ((hi : Int) + 1)).toNat : Nat) : Int) = (if n.tmod ((hi : Int) + 1) < 0 then n.tmod ((hi : Int) + 1) + ((hi : Int) + 1) else n.tmod ((hi : Int) + 1)) by
    rw [tmod_emod _ _ (by omega)]
    have := Int.emod_nonneg n (show (hi : Int) + 1 ≠ 0 by omega)
    omega)
  generalize (n % ((hi : Int) + 1)).toNat = m at HR ⊢
  have hb1 := Int.tmod_lt_of_pos n (show (0 : Int) < (hi : Int) + 1 by omega)
  have hb2 : -((hi : Int) + 1) < n.tmod ((hi : Int) + 1) := by
    have h3 := Int.tmod_lt_of_pos (-n) (show (0 : Int) < (hi : Int) + 1 by omega)
    rw [Int.neg_tmod] at h3
    omega
  have hm0 : (((hi : Int) + 1) == 0) = false := by rw [beq_eq_false_iff_ne]; omega
  generalize hr : n.tmod ((hi : Int) + 1) = r at *
  by_cases hneg : r < 0
  · rw [if_pos hneg] at HR
    go_enter Tryz.func24, Tryz.ntmps24
    go_wp2
    go_ret
    rw [HR.out, show r + ((hi : Int) + 1) = r + hi + 1 by omega]
    exact ⟨rfl, rfl⟩
  · rw [if_neg hneg] at HR
    go_enter Tryz.func24, Tryz.ntmps24
    go_wp2
    go_ret
    rw [HR.out]
    exact ⟨rfl, rfl⟩
set_option maxRecDepth 100000 in
set_option maxHeartbeats 1000000 in
theorem short_walk (v : Value) (ds : List UInt8) (w : World) (hd : Sb w v ds) (hl : ds.length ≤ 140737488355328) :
    Calls Tryz.prog 20 #[v] w fun e w' => ∃ v', e = .returned v' ∧ Ow w' w.heap.size v' (ds.take 1048576) ∧ Up w w' := by
  obtain ⟨a, c, rfl, h1, _⟩ := id hd
  have HD := Hid.of hd
  clear hd
  by_cases hlong : 1048576 < ds.length
  · have hz : (1048576 : Int) < (ds.length : Int) := by omega
    have hz2 : (1048576 : Int) ≤ (c : Int) := by omega
    have HT := Hid.of (HD.out.take 1048576 (by omega))
    have HC := Hid.of (copied_walk (.slice a 1048576 c) (ds.take 1048576) w HT.out (by rw [List.length_take]; omega))
    obtain ⟨ad, rfl⟩ : ∃ ad, a = some ad := by
      obtain ⟨a', c', e, _, _, h3, _⟩ := HD.out
      injection e with e1 e2 e3
      subst e1
      cases a with
      | none => have := (h3 rfl).1; rw [this] at hlong; simp at hlong
      | some ad => exact ⟨ad, rfl⟩
    go_enter Tryz.func20, Tryz.ntmps20
    go_wp2_with fail
    refine HC.out.mono ?_
    rintro e w2 ⟨v2, rfl, o2, u2⟩
    dsimp only
    go_wp2
    go_ret
    exact ⟨_, rfl, o2, u2⟩
  · have hz : ¬ (1048576 : Int) < (ds.length : Int) := by omega
    have HC := Hid.of (copied_walk (.slice a ds.length c) ds w HD.out hl)
    have HT := Hid.of (show ds.take 1048576 = ds from List.take_of_length_le (by omega))
    go_enter Tryz.func20, Tryz.ntmps20
    go_wp2_with fail
    refine HC.out.mono ?_
    rintro e w2 ⟨v2, rfl, o2, u2⟩
    dsimp only
    go_wp2
    go_ret
    rw [HT.out]
    exact ⟨_, rfl, o2, u2⟩
set_option maxRecDepth 100000 in
theorem Acts_gen {B D T : Nat} {s : DD} (w : World) (h : DOk w B D T s) : Calls Tryz.prog 28 #[pv D] w fun e w' => e = .returned (.int .i64 (s.acts : Int)) ∧ w' = w := by
  have c9 := h.disk.cell (i := 9) rfl
  clear h
  go_enter Tryz.func28, Tryz.ntmps28
  go_wp2
  go_ret
  exact ⟨rfl, rfl⟩
set_option maxRecDepth 100000 in
set_option maxHeartbeats 1000000 in
theorem Pending_gen {B D T : Nat} {s : DD} (w : World) (h : DOk w B D T s) : Calls Tryz.prog 17 #[pv D] w fun e w' => e = .returned (.int .i64 ((s.chs.length + lsd (fls s) : Nat) : Int)) ∧ Up w w' := by
  have hn := h.num
  obtain ⟨aC, cC, hvC⟩ := row_len h.rowC
  have c5 := h.disk.cell (i := 5) rfl
  have c7 := h.disk.cell (i := 7) rfl
  rw [hvC] at c5
  have c5' : w.drew.cell? ⟨D, 5, none⟩ = some (.slice aC s.chs.length cC) := c5
  have c7' : w.drew.cell? ⟨D, 7, none⟩ = some (.int .i64 (lsd (fls s) : Int)) := c7
  have h1 : s.chs.length ≤ 100000 := by omega
  have h2 : lsd (fls s) ≤ 100000 := by omega
  generalize s.chs.length = n1 at *
  generalize lsd (fls s) = n2 at *
  clear h hn hvC
  go_enter Tryz.func17, Tryz.ntmps17
  have mixed : Tryz.prog.follows .mixedOrders = true := by kernel_rfl
  go_wp2
  go_quiet (fail)
  go_wp2
  go_ret
  exact ⟨by go_num, (Up.refl w).drewN _⟩
/-- lists of bytes of one's own beside the disk -/
structure KR (w : World) (N D : Nat) (s : DD) (a : Option Addr) (c : Nat) (xs : List Value) (K : List (List UInt8)) : Prop where
  len : xs.length = K.length
  row : w.ownsRow N 41 1 (.slice a K.length c) K.length xs
  el : ∀ i (h : i < K.length) (h' : i < xs.length), Ow w N xs[i] K[i]
  nr : ∀ k, (Value.slice a K.length c).ownBlock = some k → ¬ own D s k
  ne : ∀ v ∈ xs, ∀ k, v.ownBlock = some k → ¬ own D s k
theorem KR.nil (w : World) (N D : Nat) (s : DD) : KR w N D s none 0 [] [] := ⟨rfl, World.ownsRow_nil _ _ _ _, (fun i h => by cases h), (fun k hk => by cases hk), fun v hv => by cases hv⟩
theorem KR.up {w w' : World} {N D : Nat} {s : DD} {a : Option Addr} {c : Nat} {xs : List Value} {K : List (List UInt8)} (h : KR w N D s a c xs K) (u : Up w w') : KR w' N D s a c xs K :=
  ⟨h.len, ow_up h.row u, fun i hi hx => ow_up (h.el i hi hx) u, h.nr, h.ne⟩
theorem KR.elv {w : World} {N D : Nat} {s : DD} {a : Option Addr} {c : Nat} {xs : List Value} {K : List (List UInt8)} (h : KR w N D s a c xs K) {v : Value} (hv : v ∈ xs) : ∃ ds, Ow w N v ds := by
  obtain ⟨i, hi, rfl⟩ := List.getElem_of_mem hv
  exact ⟨_, h.el i (by rw [← h.len]; exact hi) hi⟩
/-- behind an act of the disk -/
theorem KR.disk {w w' : World} {N D : Nat} {s s' : DD} {a : Option Addr} {c : Nat} {xs : List Value} {K : List (List UInt8)} (h : KR w N D s a c xs K) (f : Fr (own D s) w w') (n : Nw w.heap.size D s s') : KR w' N D s' a c xs K :=
  ⟨h.len, f.own h.row (fun g hg => h.nr g hg), fun i hi hx => f.own (h.el i hi hx) (fun g hg => h.ne _ (List.getElem_mem hx) g hg),
    fun k hk ho => (n k ho).elim (h.nr k hk) (fun h1 => by have := (World.ownsRow.lt h.row k hk).2; omega),
    fun v hv k hk ho => (n k ho).elim (h.ne v hv k hk) (fun h1 => by obtain ⟨ds, hd⟩ := h.elv hv; have := (World.ownsRow.lt hd k hk).2; omega)⟩
/-- behind an act that only touches the disk's own cell -/
theorem KR.same {w : World} {N D : Nat} {s s' : DD} {a : Option Addr} {c : Nat} {xs : List Value} {K : List (List UInt8)} (h : KR w N D s a c xs K) (n : ∀ k, own D s' k → own D s k) : KR w N D s' a c xs K :=
  ⟨h.len, h.row, h.el, fun k hk ho => h.nr k hk (n k ho), fun v hv k hk ho => h.ne v hv k hk (n k ho)⟩
theorem Tryz.infoSl1 : (Tryz.prog.info? 41).map (fun i => (i.zero, i.size, i.bytes)) = some (some (.slice none 0 0), 1, 24) := by kernel_rfl
theorem wpList_appK {W w : World} {B D T N q : Nat} {s : DD} {ops : Array Oper} {rest : List Oper} {o : Oper} {a : Act} {Q : Exit → Act → World → Prop} (hgd : o.guard = none) (x y : Operand)
    (ho : o.op = .call { callee := .builtin .append, args := #[x, y], argTypes := #[64, 64] }) (ax : Option Addr) (cx : Nat) (v : Value) (ds : List UInt8) (xs : List Value) (K : List (List UInt8)) (hx : a.eval x = .slice ax q cx) (hy : a.eval y = .slice (some ⟨w.heap.size, 0, none⟩) 1 1)
    (hR : KR w N D s ax cx xs K) (hq : K.length = q) (hv : Ow w N v ds) (hnv : ∀ k, v.ownBlock = some k → ¬ own D s k) (hD : DOk w B D T s) (hU : Up W w) (hN : 0 < N) (hW : W.heap.size ≤ N) (hNw : N ≤ w.heap.size) (hql : q ≤ 1048576)
    (Kk : ∀ ax2 cx2 w', KR w' N D s ax2 cx2 (xs ++ [v]) (K ++ [ds]) → DOk w' B D T s → Up W w' → wpList Tryz.prog ops Q rest (a.put o.dst (.slice ax2 (q + 1) cx2)) w') :
    wpList Tryz.prog ops Q (o :: rest) a (w.alloc (.cells #[v] 41)) := by
  obtain ⟨i1, hi1, hz0, hz1, hz2⟩ := info_parts Tryz.infoSl1
  have HUx := (Up.refl w).alloc (.cells #[v] 41)
  have hns : w.ownsRow N 41 1 (.slice ax q cx) q xs := by have := hR.row; rw [hq] at this; exact this
  have hnu := ow_up hns HUx
  have hone : v.oneCell' = true := by
    obtain ⟨a', c', rfl⟩ := row_len hv
    rfl
  refine wpList_append_frs hgd x y 64 ho N 41 i1 (.slice none 0 0) 24 Tryz.underlying64 hi1 hz0 hz1 hz2 rfl (.slice ax q cx) q _ hx hnu ⟨w.heap.size, 0, none⟩ 1 1 [v] hy rfl ?_ ?_ (by simp only [maxLen]; omega) (by omega) (Nat.le_trans hNw HUx.size) ?_
  · intro j u hu
    rw [Addr.add_lit]
    exact At.cell (at_new w 41 [v]) (i := 0 + j) (by rw [Nat.zero_add]; exact hu)
  · intro u hu
    obtain rfl := List.mem_singleton.1 hu
    exact hone
  intro v8 w8 o8 g8 f8
  obtain ⟨ax2, cx2, rfl⟩ := row_len o8
  have hDu := hD.up HUx
  have kp : ∀ u es, Ow w N u es → Ow w8 N u es := fun u es hu => World.ownsRow.kept (ow_up hu HUx) g8 (own_off (ow_up hu HUx) hnu (by decide))
  refine Kk ax2 cx2 w8 ⟨by simp [hR.len], by rw [List.length_append, hq]; exact o8, fun i hi hx => ?_, fun k hk ho => ?_, fun u hu k hk ho => ?_⟩ (hDu.beside hnu hN g8 (by have := hR.nr; rw [hq] at this; exact this)) (up_grownBy (hU.trans HUx) g8 (fun g hg => Nat.le_trans hW (World.ownsRow.lt hns g hg).1))
  · rcases Nat.lt_or_ge i xs.length with h1 | h1
    · rw [List.getElem_append_left h1, List.getElem_append_left (by rw [← hR.len]; exact h1)]
      exact kp _ _ (hR.el i _ h1)
    · have e : i = xs.length := by rw [List.length_append] at hx; simp at hx; omega
      subst e
      rw [List.getElem_append_right (Nat.le_refl _), List.getElem_append_right (by rw [hR.len]; exact Nat.le_refl _)]
      simp only [hR.len, Nat.sub_self, List.getElem_cons_zero]
      exact kp _ _ hv
  · rw [List.length_append, hq] at hk
    rcases f8 k hk with h1 | h1
    · exact hR.nr k (by rw [hq]; exact h1) ho
    · have := hD.lt ho
      have := HUx.size
      omega
  · rcases List.mem_append.1 hu with h1 | h1
    · exact hR.ne u h1 k hk ho
    · obtain rfl := List.mem_singleton.1 h1
      exact hnv k hk ho
/-- lists of bytes that are given -/
structure STs (w : World) (a : Option Addr) (ls : List (List UInt8)) (c : Nat) : Prop where
  cap : ls.length ≤ c
  cells : ∀ i (h : i < ls.length), ∃ b off u, a = some ⟨b, off, none⟩ ∧ w.cell? ⟨b, off + i, none⟩ = some u ∧ Sb w u ls[i]
  len : ∀ l ∈ ls, l.length ≤ 140737488355328
end Go.Proofs.YtaibjeehjhlicaaGreatDoor
