import Derived.Shelf.Sort.Plain
import Derived.Shelf.Slices.In.SortNone
import Derived.Shelf.Strings.Prefix
import Derived.Shelf.Small.Wraps
import Derived.Test.YtaibjeehjhlicaaGreatDoorRows
import Derived.Test.YtaibjeehjhlicaaGreatDoorQae
import Derived.Maps.RangeWalk
import Derived.Lib.ItoaMem
namespace Go.Proofs
open Go.Shelf
def Tryz.lays190_ren : Go.Shelf.Ren := ⟨fun | 190 => 43 | 125 => 91 | 258 => 90 | 128 => 122 | 129 => 123 | 302 => 113 | 303 => 114 | 304 => 115 | 305 => 116 | 306 => 117 | 307 => 118 | 308 => 119 | 309 => 120 | 310 => 121 | 333 => 127 | 329 => 128 | 330 => 129 | 334 => 130 | 335 => 131 | 336 => 132 | 344 => 142 | n => n, fun | 31 => 29 | 9 => 9 | 3 => 3 | 46 => 139 | 0 => 0 | 51 => 172 | 53 => 174 | 4 => 4 | 183 => 165 | 182 => 164 | 131 => 169 | 5 => 5 | 218 => 179 | 222 => 183 | 228 => 191 | 229 => 192 | n => n, fun | n => n⟩
theorem Tryz.lays190 : Go.Proofs.Lays.n190 Tryz.prog Tryz.lays190_ren := {
  mixed := by kernel_rfl
  f125 := Tryz.func91.trans (congrArg some (by kernel_rfl))
  f128 := Tryz.func122.trans (congrArg some (by kernel_rfl))
  f129 := Tryz.func123.trans (congrArg some (by kernel_rfl))
  f190 := Tryz.func43.trans (congrArg some (by kernel_rfl))
  f258 := Tryz.func90.trans (congrArg some (by kernel_rfl))
  f302 := Tryz.func113.trans (congrArg some (by kernel_rfl))
  f303 := Tryz.func114.trans (congrArg some (by kernel_rfl))
  f304 := Tryz.func115.trans (congrArg some (by kernel_rfl))
  f305 := Tryz.func116.trans (congrArg some (by kernel_rfl))
  f306 := Tryz.func117.trans (congrArg some (by kernel_rfl))
  f307 := Tryz.func118.trans (congrArg some (by kernel_rfl))
  f308 := Tryz.func119.trans (congrArg some (by kernel_rfl))
  f309 := Tryz.func120.trans (congrArg some (by kernel_rfl))
  f310 := Tryz.func121.trans (congrArg some (by kernel_rfl))
  f329 := Tryz.func128.trans (congrArg some (by kernel_rfl))
  f330 := Tryz.func129.trans (congrArg some (by kernel_rfl))
  f333 := Tryz.func127.trans (congrArg some (by kernel_rfl))
  f334 := Tryz.func130.trans (congrArg some (by kernel_rfl))
  f335 := Tryz.func131.trans (congrArg some (by kernel_rfl))
  f336 := Tryz.func132.trans (congrArg some (by kernel_rfl))
  f344 := Tryz.func142.trans (congrArg some (by kernel_rfl))
  t0 := Tryz.underlying0
  a0 := Tryz.isAgg0
  z0 := Tryz.sizeOf0
  v0 := Tryz.zeroValue0
  t3 := Tryz.underlying3
  a3 := Tryz.isAgg3
  z3 := Tryz.sizeOf3
  v3 := Tryz.zeroValue3
  t4 := Tryz.underlying4
  a4 := Tryz.isAgg4
  z4 := Tryz.sizeOf4
  v4 := Tryz.zeroValue4
  t5 := Tryz.underlying5
  a5 := Tryz.isAgg5
  z5 := Tryz.sizeOf5
  v5 := Tryz.zeroValue5
  t9 := Tryz.underlying9
  a9 := Tryz.isAgg9
  z9 := Tryz.sizeOf9
  v9 := Tryz.zeroValue9
  t31 := Tryz.underlying29
  a31 := Tryz.isAgg29
  z31 := Tryz.sizeOf29
  v31 := Tryz.zeroValue29
  t46 := Tryz.underlying139
  a46 := Tryz.isAgg139
  z46 := Tryz.sizeOf139
  v46 := Tryz.zeroValue139
  t51 := Tryz.underlying172
  a51 := Tryz.isAgg172
  z51 := Tryz.sizeOf172
  v51 := Tryz.zeroValue172
  t53 := Tryz.underlying174
  a53 := Tryz.isAgg174
  z53 := Tryz.sizeOf174
  v53 := Tryz.zeroValue174
  t131 := Tryz.underlying169
  a131 := Tryz.isAgg169
  z131 := Tryz.sizeOf169
  v131 := Tryz.zeroValue169
  t182 := Tryz.underlying164
  a182 := Tryz.isAgg164
  z182 := Tryz.sizeOf164
  v182 := Tryz.zeroValue164
  t183 := Tryz.underlying165
  a183 := Tryz.isAgg165
  z183 := Tryz.sizeOf165
  v183 := Tryz.zeroValue165
  t218 := Tryz.underlying179
  a218 := Tryz.isAgg179
  z218 := Tryz.sizeOf179
  v218 := Tryz.zeroValue179
  t222 := Tryz.underlying183
  a222 := Tryz.isAgg183
  z222 := Tryz.sizeOf183
  v222 := Tryz.zeroValue183
  t228 := Tryz.underlying191
  a228 := Tryz.isAgg191
  z228 := Tryz.sizeOf191
  v228 := Tryz.zeroValue191
  t229 := Tryz.underlying192
  a229 := Tryz.isAgg192
  z229 := Tryz.sizeOf192
  v229 := Tryz.zeroValue192 }
def Tryz.lays99_ren : Go.Shelf.Ren := ⟨fun | 99 => 42 | 206 => 89 | n => n, fun | 9 => 9 | 4 => 4 | 3 => 3 | n => n, fun | n => n⟩
theorem Tryz.lays99 : Go.Proofs.Lays.n99 Tryz.prog Tryz.lays99_ren := {
  mixed := by kernel_rfl
  f99 := Tryz.func42.trans (congrArg some (by kernel_rfl))
  f206 := Tryz.func89.trans (congrArg some (by kernel_rfl))
  t3 := Tryz.underlying3
  a3 := Tryz.isAgg3
  z3 := Tryz.sizeOf3
  v3 := Tryz.zeroValue3
  t4 := Tryz.underlying4
  a4 := Tryz.isAgg4
  z4 := Tryz.sizeOf4
  v4 := Tryz.zeroValue4
  t9 := Tryz.underlying9
  a9 := Tryz.isAgg9
  z9 := Tryz.sizeOf9
  v9 := Tryz.zeroValue9 }
end Go.Proofs
namespace Go.Proofs.YtaibjeehjhlicaaGreatDoor
open Go.RowKit Go.Shelf TextNum ModNum Go.Sort
theorem Tryz.infoStr : (Tryz.prog.info? 9).map (fun i => (i.zero, i.size, i.bytes)) = some (some (.string ⟨#[]⟩), 1, 16) := by kernel_rfl
abbrev OwS (w : World) (B : Nat) (v : Value) (xs : List (List UInt8)) : Prop := w.ownsRow B 9 1 v xs.length (cst xs)
theorem Pre_walk (s p : ByteArray) (w : World) : Calls Tryz.prog 42 #[.string s, .string p] w fun e w' => e = .returned (.bool (pfx p.data.toList s.data.toList)) ∧ w' = w := Any.strings_HasPrefix Tryz.lays99 s p w
theorem OwS.sl {w : World} {B : Nat} {v : Value} {xs : List (List UInt8)} (h : OwS w B v xs) : SlS w v xs := by
  have hc := fun g hg => World.ownsRow.cells h (g := g) hg
  rcases h.2 with ⟨rfl, h0⟩ | ⟨g, cap, cur, rfl, _, hg, hnc, _, _, _⟩
  · have : xs = [] := List.eq_nil_of_length_eq_zero h0
    subst this
    exact slS_nil w
  · refine ⟨_, cap, rfl, hnc, .inr ⟨g, 0, rfl, (Array.getElem?_eq_some_iff.1 hg).1, fun i hi => ?_⟩⟩
    have := hc g rfl i _ (cst_get hi)
    rw [Addr.add_lit] at this
    exact this
/-- slices.Sort of an owned list of texts: what is read then -/
theorem Sort_walk (B : Nat) (v : Value) (xs : List (List UInt8)) (w : World) (h : OwS w B v xs) (hl : xs.length ≤ 1099511627776) :
    Calls Tryz.prog 43 #[v] w fun e w' => e = .returned (.tuple #[]) ∧ SlS w' v (xs.mergeSort fun x y => decide (x ≤ y)) ∧ w.grownBy w' v.ownBlock := by
  rcases h.2 with ⟨rfl, h0⟩ | ⟨g, cap, cur, rfl, hb, hg, hnc, hcm, hcs, ht⟩
  · have : xs = [] := List.eq_nil_of_length_eq_zero h0
    subst this
    refine (Any.slices_Sort_string_none Tryz.lays190 none 0 w).mono ?_
    rintro e w' ⟨rfl, rfl⟩
    exact ⟨rfl, by rw [List.mergeSort_nil]; exact slS_nil _, grown_refl _ _⟩
  · have hH : Go.Sort.Holds encStr w g 0 xs.toArray := fun j hj => by
      have hj1 : j < xs.length := by simpa using hj
      have h1 := World.ownsRow.cells h rfl j _ (cst_get hj1)
      rw [Addr.add_lit] at h1
      refine ⟨?_, by simp [World.frozen?, hg]⟩
      rw [h1]
      simp [hj1]
    have hlt : g < w.heap.size := (Array.getElem?_eq_some_iff.1 hg).1
    refine (Any.slices_Sort_string Tryz.lays190 g 0 cap xs w hH hlt (by omega)).mono ?_
    rintro e w' ⟨rfl, n, os, rfl⟩
    have hlen : (xs.mergeSort fun x y => decide (x ≤ y)).length = xs.length := List.length_mergeSort _
    have hup : Up (putRow encStr (Sort.ahead w n) g 0 (xs.mergeSort fun x y => decide (x ≤ y)).toArray) (Go.Sort.grow (putRow encStr (Sort.ahead w n) g 0 (xs.mergeSort fun x y => decide (x ≤ y)).toArray) os) :=
      ⟨rfl, rfl, rfl, by simp [Go.Sort.grow], fun k hk => heap_grow_old _ os hk⟩
    have hgb : w.grownBy (putRow encStr (Sort.ahead w n) g 0 (xs.mergeSort fun x y => decide (x ≤ y)).toArray) (some g) := ⟨rfl, rfl, rfl, by rw [size_putRow]; exact Nat.le_refl _, fun k hk hne => by
      have hne2 : ¬ g = k := fun e => hne (by rw [← e])
      simp [putRow, mapBlock, Array.getElem?_modify, hne2, Sort.ahead]⟩
    refine ⟨rfl, SlS.up (w := putRow encStr (Sort.ahead w n) g 0 (xs.mergeSort fun x y => decide (x ≤ y)).toArray) ⟨_, cap, by rw [hlen], by rw [hlen]; exact hnc, .inr ⟨g, 0, rfl, by rw [size_putRow]; exact hlt, fun i hi => ?_⟩⟩ hup, grown_up hgb hup⟩
    · have := cell?_putRow encStr (Sort.ahead w n) g 0 xs.toArray (xs.mergeSort fun x y => decide (x ≤ y)).toArray hH (by simp) i (by simpa using hi)
      rw [this]
      have hi2 : i < (xs.mergeSort fun x y => decide (x ≤ y)).toArray.size := by simpa using hi
      rw [getElem!_pos _ i hi2]
      simp
end Go.Proofs.YtaibjeehjhlicaaGreatDoor
namespace Go.Proofs.YtaibjeehjhlicaaGreatDoor
open Go.RowKit Go.Shelf TextNum ModNum
theorem keyS_inv {s : ByteArray} {kl : Lit} (h : keyOf Tryz.prog 9 (.string s) = some kl) : kl = kS s := by
  simp [keyOf, mapKey, Tryz.underlying9] at h
  exact h.2.symm
theorem keyS_str {v : Value} {kl : Lit} (h : keyOf Tryz.prog 9 v = some kl) : ∃ s, v = .string s := by
  cases v <;> simp [keyOf, mapKey, Tryz.underlying9] at h
  exact ⟨_, rfl⟩
theorem rp_ptr {v : Value} {y : DataW Unit × List MemPlace} (h : rp v = some y) : ∃ a, v = .pointer a := by
  unfold rp at h
  split at h
  · exact ⟨_, rfl⟩
  · exact ⟨_, rfl⟩
  · cases h
theorem own_iter {w : World} {B m q r M n cnt : Nat} {D : DataW Unit} {left : Lit → Bool} {e : TypeId} {v : Value} {xs : List Value} (h : w.ranges Tryz.prog 9 rp M r n D left cnt) (k : w.ownsRow B e m v q xs) : some M ≠ v.ownBlock ∧ some r ≠ v.ownBlock := by
  obtain ⟨es, clock, since, seen, c0, hb, _, _, _, hr, _⟩ := h
  refine ⟨fun e => ?_, fun e => ?_⟩
  · rcases k.2 with ⟨rfl, _⟩ | ⟨g, cap, cur, rfl, _, hg, _⟩
    · cases e
    · obtain rfl : M = g := Option.some.inj e
      rw [hb] at hg
      injection hg with hg
      cases hg
  · rcases k.2 with ⟨rfl, _⟩ | ⟨g, cap, cur, rfl, _, hg, _⟩
    · cases e
    · obtain rfl : r = g := Option.some.inj e
      rw [hr] at hg
      injection hg with hg
      cases hg
theorem rng_has {w : World} {r M n cnt : Nat} {D : DataW Unit} {left : Lit → Bool} (h : w.ranges Tryz.prog 9 rp M r n D left cnt) {l : List UInt8} (hl : left (.string l) = true) : Maps.has D (.string l) = true := by
  obtain ⟨es, clock, since, seen, c0, _, _, _, rfl, _, _, _, _, hk, _⟩ := h
  obtain ⟨x, hx, he⟩ := hk _ hl
  rw [Maps.has_eq, List.any_eq_true]
  exact ⟨WideElems.rg Tryz.prog 9 rp x, mem_sorted.2 (List.mem_map_of_mem hx), by rw [he]; simp [Lit.sameKey]⟩
/-- what stands in the list when some of the names have come -/
structure LsOk (dm : DataW Unit) (p : List UInt8) (left : Lit → Bool) (xs : List (List UInt8)) : Prop where
  mem : ∀ l, l ∈ xs ↔ (Maps.has dm (.string l) = true ∧ left (.string l) = false ∧ pfx p l = true)
  nd : xs.Nodup
theorem LsOk.step {dm : DataW Unit} {p : List UInt8} {left : Lit → Bool} {xs : List (List UInt8)} (h : LsOk dm p left xs) (x : List UInt8) (hl : left (.string x) = true) (hh : Maps.has dm (.string x) = true) :
    LsOk dm p (fun z => left z && !z.sameKey (.string x)) (if pfx p x = true then xs ++ [x] else xs) := by
  have hxn : x ∉ xs := fun hx => by
    have := ((h.mem x).1 hx).2.1
    rw [hl] at this
    cases this
  have key : ∀ l : List UInt8, (left (.string l) && !(Lit.string l).sameKey (.string x)) = false ↔ (left (.string l) = false ∨ l = x) := fun l => by
    show (left (.string l) && !(l == x)) = false ↔ _
    cases left (.string l) <;> simp
  by_cases hp : pfx p x = true
  · rw [if_pos hp]
    refine ⟨fun l => ?_, ?_⟩
    · rw [List.mem_append, List.mem_singleton, h.mem l, key l]
      constructor
      · rintro (⟨h1, h2, h3⟩ | rfl)
        · exact ⟨h1, .inl h2, h3⟩
        · exact ⟨hh, .inr rfl, hp⟩
      · rintro ⟨h1, h2 | rfl, h3⟩
        · exact .inl ⟨h1, h2, h3⟩
        · exact .inr rfl
    · rw [List.nodup_append]
      refine ⟨h.nd, by simp, fun a ha b hb e => ?_⟩
      obtain rfl := List.mem_singleton.1 hb
      exact hxn (e ▸ ha)
  · rw [if_neg hp]
    refine ⟨fun l => ?_, h.nd⟩
    rw [h.mem l, key l]
    constructor
    · rintro ⟨h1, h2, h3⟩
      exact ⟨h1, .inl h2, h3⟩
    · rintro ⟨h1, h2 | rfl, h3⟩
      · exact ⟨h1, h2, h3⟩
      · exact absurd h3 hp
set_option maxRecDepth 100000 in
set_option maxHeartbeats 4000000 in
theorem List_walk (D M n : Nat) (dm : DataW Unit) (p : ByteArray) (x0 x1 x4 x5 x6 x7 x8 x9 x10 x11 : Value) (w : World) (hn : n ≤ 1099511627776) (hA : At w D 85 [x0, x1, .bool false, .map (some M), x4, x5, x6, x7, x8, x9, x10, x11]) (hM : OM w M n dm) :
    Calls Tryz.prog 12 #[.pointer (some ⟨D, 0, none⟩), .string p] w fun e w' => ∃ v xs, e = .returned v ∧ SlS w' v (xs.mergeSort fun x y => decide (x ≤ y)) ∧ LsOk dm p.data.toList (fun _ => false) xs ∧ Up w w' := by
  have c2 := hA.cell (i := 2) rfl
  have c3 := hA.cell (i := 3) rfl
  have HM := Hid.of hM
  have HPre := fun s w' => Hid.of (Pre_walk s p w')
  clear hA hM
  go_enter Tryz.func12, Tryz.ntmps12
  go_wp2_with (with_reducible show wpList _ _ _ ({ dst := _, op := Op.range 81 _, type := _, pos := _, after := _, guard := _ } :: _) _ _; refine Shut.out ?_)
  show wpList _ _ _ _ _ _
  refine wpList_range_own _ rfl _ 81 rfl 9 88 (Maps.string_keyed Tryz.underlying9) Tryz.underlying81 rp M n dm rfl HM.out ?_
  intro w1 hrg hg1 hs1
  have HRg := Hid.of hrg
  have HU1 := Hid.of (show Up w w1 from up_grownBy (Up.refl w) hg1 (fun g hg => by cases hg))
  clear hrg hg1 hs1 c2 c3 HM
  simp only [Act.put, List.setIfInBounds_toArray, List.set_cons_zero, List.set_cons_succ]
  go_wp2
  obtain ⟨i0, hi, hz0, hz1, hz2⟩ := info_parts Tryz.infoStr
  go_loopw [5, 6] (fun v5 _ wr => ∃ a c xs left cnt, v5 = .slice a (List.length xs) c ∧ Hid (OwS wr w.heap.size (.slice a (List.length xs) c) xs ∧ wr.ranges Tryz.prog 9 rp M w.heap.size n dm left cnt ∧ Up w wr ∧ LsOk dm p.data.toList left xs ∧ xs.length + cnt ≤ n)) (fun _ _ wr => wr.rangeLeft M w.heap.size)
  case atStart =>
    refine ⟨none, 0, [], Maps.has dm, Maps.size dm, rfl, Hid.of ⟨World.ownsRow_nil _ _ _ _, HRg.out, HU1.out, ⟨fun l => ⟨(fun h => by cases h), (fun h => by have h1 := h.1; have h2 := h.2.1; rw [h1] at h2; cases h2)⟩, List.nodup_nil⟩, ?_⟩⟩
    have := World.ownsMap.size_le HRg.out.owns
    simpa using this
  case round =>
    obtain ⟨a, c, xs, left, cnt, rfl, hR⟩ := hrel
    have HR := Hid.of hR.out
    clear hR
    go_wp2_with (with_reducible show wpList _ _ _ ({ dst := _, op := Op.next _ _, type := _, pos := _, after := _, guard := _ } :: _) _ _; refine Shut.out ?_)
    show wpList _ _ _ _ _ _
    refine wpList_next_ranges _ rfl _ rfl 9 (Maps.string_keyed Tryz.underlying9) rp (fun s : ByteArray => .string s) (fun a : Option Addr => .pointer a) (fun _ _ h => keyS_str h) (fun _ _ h => rp_ptr h) M w.heap.size n dm left cnt rfl HR.out.2.1 ?_ ?_
    · intro _ hl
      have HL := Hid.of hl
      clear hl
      simp only [Act.put, List.setIfInBounds_toArray, List.set_cons_zero, List.set_cons_succ]
      have HS := Hid.of (Sort_walk w.heap.size (.slice a xs.length c) xs wr HR.out.1 (by have := HR.out.2.2.2.2; omega))
      go_wp2_with fail
      refine HS.out.mono ?_
      rintro e w4 ⟨rfl, s4, g4⟩
      have HS4 := Hid.of s4
      have HU4 := Hid.of (up_grownBy HR.out.2.2.1 g4 (fun g hg => (World.ownsRow.lt HR.out.1 g hg).1))
      clear s4 g4 HS
      dsimp only
      go_wp2
      go_ret
      refine ⟨_, xs, rfl, HS4.out, ⟨fun l => ?_, HR.out.2.2.2.1.nd⟩, HU4.out⟩
      rw [HR.out.2.2.2.1.mem l, HL.out]
    · intro x cv kl y w4 cnt4 hkey hlk hv hat hrg4 hlt hgr hsz hen
      obtain rfl := keyS_inv hkey
      have HO4 := Hid.of (World.ownsRow.kept HR.out.1 hgr (.inr (fun e => (own_iter HR.out.2.1 HR.out.1).2 e.symm)))
      have HRg4 := Hid.of hrg4
      have HU4 := Hid.of (up_grownBy HR.out.2.2.1 hgr (fun g hg => by have := Option.some.inj hg; omega))
      have HK := Hid.of (And.intro hlk (And.intro hlt HR.out.2.2.2.2))
      have HLs := Hid.of HR.out.2.2.2.1
      have HRl := Hid.of HR.out.2.1
      have HHas := Hid.of (rng_has HRl.out hlk)
      clear hkey hlk hv hat hrg4 hlt hgr hsz HR
      simp only [Act.put, List.setIfInBounds_toArray, List.set_cons_zero, List.set_cons_succ]
      go_wp2_with fail
      refine (HPre x w4).out.mono ?_
      rintro e w5 ⟨rfl, rfl⟩
      dsimp only
      have HSt := Hid.of (HLs.out.step x.data.toList HK.out.1 HHas.out)
      cases hp : pfx p.data.toList x.data.toList with
      | false =>
        rw [hp, if_neg (by decide)] at HSt
        clear hp hen
        go_wp2
        go_roundw
        case rel => exact ⟨a, c, xs, _, cnt4, rfl, Hid.of ⟨HO4.out, HRg4.out, HU4.out, HSt.out, by have := HK.out; omega⟩⟩
        case measure => rw [HRg4.out.left_eq, HRl.out.left_eq]; exact HK.out.2.1
      | true =>
        rw [hp, if_pos rfl] at HSt
        clear hp hen
        have HUx := Hid.of ((Up.refl w5).alloc (.cells [.string x].toArray 9))
        have hxl : xs.length ≤ 1099511627776 := by have := HK.out; omega
        go_wp2_with (with_reducible show wpList _ _ _ ({ dst := _, op := Op.call { callee := Callee.builtin Builtin.append, args := _, argTypes := _ }, type := _, pos := _, after := _, guard := _ } :: _) _ _; refine Shut.out ?_)
        show wpList _ _ _ _ _ _
        refine wpList_append_frs rfl _ _ 29 rfl w.heap.size 9 i0 (.string ⟨#[]⟩) 16 Tryz.underlying29 hi hz0 hz1 hz2 rfl (.slice a xs.length c) xs.length (cst xs) rfl (ow_up HO4.out HUx.out) ⟨w5.heap.size, 0, none⟩ 1 1 [.string x] rfl rfl ?_ ?_ (by simp only [maxLen]; omega) (by omega) (by have := HU4.out.size; simp; omega) ?_
        · intro j u hu
          rw [Addr.add_lit]
          exact At.cell (at_new w5 9 [.string x]) (i := 0 + j) (by rw [Nat.zero_add]; exact hu)
        · intro u hu
          obtain rfl := List.mem_singleton.1 hu
          rfl
        intro v8 w8 o8 g8 f8
        have o9 : OwS w8 w.heap.size v8 (xs ++ [x.data.toList]) := by
          unfold OwS
          rw [List.length_append]
          have e5 : cst (xs ++ [x.data.toList]) = cst xs ++ [.string x] := by unfold cst; rw [List.map_append]; rfl
          rw [e5]
          exact o8
        have hown5 := ow_up HO4.out HUx.out
        have hrg5 : World.ranges _ Tryz.prog 9 rp M w.heap.size n dm _ cnt4 := World.ranges.alloc HRg4.out (.cells [.string x].toArray 9)
        have hit := own_iter hrg5 hown5
        have HRg8 := Hid.of (World.ranges.kept hrg5 g8 hit.1 hit.2)
        have HU8 := Hid.of (up_grownBy (HU4.out.trans HUx.out) g8 (fun g hg => (World.ownsRow.lt HO4.out g hg).1))
        obtain ⟨a8, c8, hv8⟩ : ∃ a8 c8, v8 = .slice a8 (xs ++ [x.data.toList]).length c8 := by
          rcases o9.2 with ⟨h, h0⟩ | ⟨g, cap, cur, h, _⟩
          · exact ⟨none, 0, by rw [h, h0]⟩
          · exact ⟨_, cap, h⟩
        subst hv8
        have HO9 := Hid.of o9
        clear o8 g8 f8 o9 hown5 hrg5 hit
        simp only [Act.put, List.setIfInBounds_toArray, List.set_cons_zero, List.set_cons_succ]
        go_wp2
        go_roundw
        case rel => exact ⟨a8, c8, xs ++ [x.data.toList], _, cnt4, by simp, Hid.of ⟨HO9.out, HRg8.out, HU8.out, HSt.out, by have := HK.out; simp; omega⟩⟩
        case measure => rw [HRg8.out.left_eq, HRl.out.left_eq]; exact HK.out.2.1
end Go.Proofs.YtaibjeehjhlicaaGreatDoor
