import Derived.Test.YtaibjeehjhlicaaDoorYat
namespace Go.Proofs.YtaibjeehjhlicaaDoor
open Go.RowKit Go.Shelf TextNum ModNum
theorem keyS_inv {s : ByteArray} {kl : Lit} (h : keyOf Tryd.prog 9 (.string s) = some kl) : kl = kS s := by
  simp [keyOf, mapKey, Tryd.underlying9] at h
  exact h.2.symm
theorem keyS_str {v : Value} {kl : Lit} (h : keyOf Tryd.prog 9 v = some kl) : ∃ s, v = .string s := by
  cases v <;> simp [keyOf, mapKey, Tryd.underlying9] at h
  exact ⟨_, rfl⟩
theorem rp_ptr {v : Value} {y : DataW Unit × List MemPlace} (h : rp v = some y) : ∃ a, v = .pointer a := by
  unfold rp at h
  split at h
  · exact ⟨_, rfl⟩
  · exact ⟨_, rfl⟩
  · cases h
theorem own_iter {w : World} {B m q r M n cnt : Nat} {D : DataW Unit} {left : Lit → Bool} {e : TypeId} {v : Value} {xs : List Value} (h : w.ranges Tryd.prog 9 rp M r n D left cnt) (k : w.ownsRow B e m v q xs) : some M ≠ v.ownBlock ∧ some r ≠ v.ownBlock := by
  obtain ⟨es, clock, since, seen, c0, hb, _, _, _, hr, _⟩ := h
  refine ⟨fun e => ?_, fun e => ?_⟩
  · rcases k.2 with ⟨rfl, _⟩ | ⟨g, cap, cur, rfl, _, hg, _⟩
    · cases e
    · obtain rfl : M = g := Option.some.inj e
      rw [hb] at hg
      injection hg with hg
      cases hg
  · rcases k.2 with ⟨rfl, _⟩ | ⟨g, cap, cur, rfl, _, hg, _⟩
    · cases e
    · obtain rfl : r = g := Option.some.inj e
      rw [hr] at hg
      injection hg with hg
      cases hg
theorem rng_has {w : World} {r M n cnt : Nat} {D : DataW Unit} {left : Lit → Bool} (h : w.ranges Tryd.prog 9 rp M r n D left cnt) {l : List UInt8} (hl : left (.string l) = true) : Maps.has D (.string l) = true := by
  obtain ⟨es, clock, since, seen, c0, _, _, _, rfl, _, _, _, _, hk, _⟩ := h
  obtain ⟨x, hx, he⟩ := hk _ hl
  rw [Maps.has_eq, List.any_eq_true]
  exact ⟨WideElems.rg Tryd.prog 9 rp x, mem_sorted.2 (List.mem_map_of_mem hx), by rw [he]; simp [Lit.sameKey]⟩
/-- what stands in the list when some of the names have come -/
structure LsOk (dm : DataW Unit) (p : List UInt8) (left : Lit → Bool) (xs : List (List UInt8)) : Prop where
  mem : ∀ l, l ∈ xs ↔ (Maps.has dm (.string l) = true ∧ left (.string l) = false ∧ pfx p l = true)
  nd : xs.Nodup
theorem LsOk.step {dm : DataW Unit} {p : List UInt8} {left : Lit → Bool} {xs : List (List UInt8)} (h : LsOk dm p left xs) (x : List UInt8) (hl : left (.string x) = true) (hh : Maps.has dm (.string x) = true) :
    LsOk dm p (fun z => left z && !z.sameKey (.string x)) (if pfx p x = true then xs ++ [x] else xs) := by
  have hxn : x ∉ xs := fun hx => by
    have := ((h.mem x).1 hx).2.1
    rw [hl] at this
    cases this
  have key : ∀ l : List UInt8, (left (.string l) && !(Lit.string l).sameKey (.string x)) = false ↔ (left (.string l) = false ∨ l = x) := fun l => by
    show (left (.string l) && !(l == x)) = false ↔ _
    cases left (.string l) <;> simp
  by_cases hp : pfx p x = true
  · rw [if_pos hp]
    refine ⟨fun l => ?_, ?_⟩
    · rw [List.mem_append, List.mem_singleton, h.mem l, key l]
      constructor
      · rintro (⟨h1, h2, h3⟩ | rfl)
        · exact ⟨h1, .inl h2, h3⟩
        · exact ⟨hh, .inr rfl, hp⟩
      · rintro ⟨h1, h2 | rfl, h3⟩
        · exact .inl ⟨h1, h2, h3⟩
        · exact .inr rfl
    · rw [List.nodup_append]
      refine ⟨h.nd, by simp, fun a ha b hb e => ?_⟩
      obtain rfl := List.mem_singleton.1 hb
      exact hxn (e ▸ ha)
  · rw [if_neg hp]
    refine ⟨fun l => ?_, h.nd⟩
    rw [h.mem l, key l]
    constructor
    · rintro ⟨h1, h2, h3⟩
      exact ⟨h1, .inl h2, h3⟩
    · rintro ⟨h1, h2 | rfl, h3⟩
      · exact ⟨h1, h2, h3⟩
      · exact absurd h3 hp
set_option maxRecDepth 100000 in
set_option maxHeartbeats 4000000 in
theorem List_walk (D M n : Nat) (dm : DataW Unit) (p : ByteArray) (x0 x1 x4 x5 x6 x7 x8 x9 x10 x11 : Value) (w : World) (hn : n ≤ 1099511627776) (hA : At w D 58 [x0, x1, .bool false, .map (some M), x4, x5, x6, x7, x8, x9, x10, x11]) (hM : OM w M n dm) :
    Calls Tryd.prog 16 #[.pointer (some ⟨D, 0, none⟩), .string p] w fun e w' => ∃ v xs, e = .returned v ∧ SlS w' v (xs.mergeSort fun x y => decide (x ≤ y)) ∧ LsOk dm p.data.toList (fun _ => false) xs ∧ Up w w' := by
  have c2 := hA.cell (i := 2) rfl
  have c3 := hA.cell (i := 3) rfl
  have HM := Hid.of hM
  have HPre := fun s w' => Hid.of (Pre_walk s p w')
  clear hA hM
  go_enter Tryd.func16, Tryd.ntmps16
  go_wp2_with (with_reducible show wpList _ _ _ ({ dst := _, op := Op.range 54 _, type := _, pos := _, after := _, guard := _ } :: _) _ _; refine Shut.out ?_)
  show wpList _ _ _ _ _ _
  refine wpList_range_own _ rfl _ 54 rfl 9 52 (Maps.string_keyed Tryd.underlying9) Tryd.underlying54 rp M n dm rfl HM.out ?_
  intro w1 hrg hg1 hs1
  have HRg := Hid.of hrg
  have HU1 := Hid.of (show Up w w1 from up_grownBy (Up.refl w) hg1 (fun g hg => by cases hg))
  clear hrg hg1 hs1 c2 c3 HM
  simp only [Act.put, List.setIfInBounds_toArray, List.set_cons_zero, List.set_cons_succ]
  go_wp2
  obtain ⟨i0, hi, hz0, hz1, hz2⟩ := info_parts Tryd.infoStr
  go_loopw [5, 6] (fun v5 _ wr => ∃ a c xs left cnt, v5 = .slice a (List.length xs) c ∧ Hid (OwS wr w.heap.size (.slice a (List.length xs) c) xs ∧ wr.ranges Tryd.prog 9 rp M w.heap.size n dm left cnt ∧ Up w wr ∧ LsOk dm p.data.toList left xs ∧ xs.length + cnt ≤ n)) (fun _ _ wr => wr.rangeLeft M w.heap.size)
  case atStart =>
    refine ⟨none, 0, [], Maps.has dm, Maps.size dm, rfl, Hid.of ⟨World.ownsRow_nil _ _ _ _, HRg.out, HU1.out, ⟨fun l => ⟨(fun h => by cases h), (fun h => by have h1 := h.1; have h2 := h.2.1; rw [h1] at h2; cases h2)⟩, List.nodup_nil⟩, ?_⟩⟩
    have := World.ownsMap.size_le HRg.out.owns
    simpa using this
  case round =>
    obtain ⟨a, c, xs, left, cnt, rfl, hR⟩ := hrel
    have HR := Hid.of hR.out
    clear hR
    go_wp2_with (with_reducible show wpList _ _ _ ({ dst := _, op := Op.next _ _, type := _, pos := _, after := _, guard := _ } :: _) _ _; refine Shut.out ?_)
    show wpList _ _ _ _ _ _
    refine wpList_next_ranges _ rfl _ rfl 9 (Maps.string_keyed Tryd.underlying9) rp (fun s : ByteArray => .string s) (fun a : Option Addr => .pointer a) (fun _ _ h => keyS_str h) (fun _ _ h => rp_ptr h) M w.heap.size n dm left cnt rfl HR.out.2.1 ?_ ?_
    · intro _ hl
      have HL := Hid.of hl
      clear hl
      simp only [Act.put, List.setIfInBounds_toArray, List.set_cons_zero, List.set_cons_succ]
      have HS := Hid.of (Sort_walk w.heap.size (.slice a xs.length c) xs wr HR.out.1 (by have := HR.out.2.2.2.2; omega))
      go_wp2_with fail
      refine HS.out.mono ?_
      rintro e w4 ⟨rfl, s4, g4⟩
      have HS4 := Hid.of s4
      have HU4 := Hid.of (up_grownBy HR.out.2.2.1 g4 (fun g hg => (World.ownsRow.lt HR.out.1 g hg).1))
      clear s4 g4 HS
      dsimp only
      go_wp2
      go_ret
      refine ⟨_, xs, rfl, HS4.out, ⟨fun l => ?_, HR.out.2.2.2.1.nd⟩, HU4.out⟩
      rw [HR.out.2.2.2.1.mem l, HL.out]
    · intro x cv kl y w4 cnt4 hkey hlk hv hat hrg4 hlt hgr hsz hen
      obtain rfl := keyS_inv hkey
      have HO4 := Hid.of (World.ownsRow.kept HR.out.1 hgr (.inr (fun e => (own_iter HR.out.2.1 HR.out.1).2 e.symm)))
      have HRg4 := Hid.of hrg4
      have HU4 := Hid.of (up_grownBy HR.out.2.2.1 hgr (fun g hg => by have := Option.some.inj hg; omega))
      have HK := Hid.of (And.intro hlk (And.intro hlt HR.out.2.2.2.2))
      have HLs := Hid.of HR.out.2.2.2.1
      have HRl := Hid.of HR.out.2.1
      have HHas := Hid.of (rng_has HRl.out hlk)
      clear hkey hlk hv hat hrg4 hlt hgr hsz HR
      simp only [Act.put, List.setIfInBounds_toArray, List.set_cons_zero, List.set_cons_succ]
      go_wp2_with fail
      refine (HPre x w4).out.mono ?_
      rintro e w5 ⟨rfl, rfl⟩
      dsimp only
      have HSt := Hid.of (HLs.out.step x.data.toList HK.out.1 HHas.out)
      cases hp : pfx p.data.toList x.data.toList with
      | false =>
        rw [hp, if_neg (by decide)] at HSt
        clear hp hen
        go_wp2
        go_roundw
        case rel => exact ⟨a, c, xs, _, cnt4, rfl, Hid.of ⟨HO4.out, HRg4.out, HU4.out, HSt.out, by have := HK.out; omega⟩⟩
        case measure => rw [HRg4.out.left_eq, HRl.out.left_eq]; exact HK.out.2.1
      | true =>
        rw [hp, if_pos rfl] at HSt
        clear hp hen
        have HUx := Hid.of ((Up.refl w5).alloc (.cells [.string x].toArray 9))
        have hxl : xs.length ≤ 1099511627776 := by have := HK.out; omega
        go_wp2_with (with_reducible show wpList _ _ _ ({ dst := _, op := Op.call { callee := Callee.builtin Builtin.append, args := _, argTypes := _ }, type := _, pos := _, after := _, guard := _ } :: _) _ _; refine Shut.out ?_)
        show wpList _ _ _ _ _ _
        refine wpList_append_frs rfl _ _ 46 rfl w.heap.size 9 i0 (.string ⟨#[]⟩) 16 Tryd.underlying46 hi hz0 hz1 hz2 rfl (.slice a xs.length c) xs.length (cst xs) rfl (ow_up HO4.out HUx.out) ⟨w5.heap.size, 0, none⟩ 1 1 [.string x] rfl rfl ?_ ?_ (by simp only [maxLen]; omega) (by omega) (by have := HU4.out.size; simp; omega) ?_
        · intro j u hu
          rw [Addr.add_lit]
          exact At.cell (at_new w5 9 [.string x]) (i := 0 + j) (by rw [Nat.zero_add]; exact hu)
        · intro u hu
          obtain rfl := List.mem_singleton.1 hu
          rfl
        intro v8 w8 o8 g8 f8
        have o9 : OwS w8 w.heap.size v8 (xs ++ [x.data.toList]) := by
          unfold OwS
          rw [List.length_append]
          have e5 : cst (xs ++ [x.data.toList]) = cst xs ++ [.string x] := by unfold cst; rw [List.map_append]; rfl
          rw [e5]
          exact o8
        have hown5 := ow_up HO4.out HUx.out
        have hrg5 : World.ranges _ Tryd.prog 9 rp M w.heap.size n dm _ cnt4 := World.ranges.alloc HRg4.out (.cells [.string x].toArray 9)
        have hit := own_iter hrg5 hown5
        have HRg8 := Hid.of (World.ranges.kept hrg5 g8 hit.1 hit.2)
        have HU8 := Hid.of (up_grownBy (HU4.out.trans HUx.out) g8 (fun g hg => (World.ownsRow.lt HO4.out g hg).1))
        obtain ⟨a8, c8, hv8⟩ : ∃ a8 c8, v8 = .slice a8 (xs ++ [x.data.toList]).length c8 := by
          rcases o9.2 with ⟨h, h0⟩ | ⟨g, cap, cur, h, _⟩
          · exact ⟨none, 0, by rw [h, h0]⟩
          · exact ⟨_, cap, h⟩
        subst hv8
        have HO9 := Hid.of o9
        clear o8 g8 f8 o9 hown5 hrg5 hit
        simp only [Act.put, List.setIfInBounds_toArray, List.set_cons_zero, List.set_cons_succ]
        go_wp2
        go_roundw
        case rel => exact ⟨a8, c8, xs ++ [x.data.toList], _, cnt4, by simp, Hid.of ⟨HO9.out, HRg8.out, HU8.out, HSt.out, by have := HK.out; simp; omega⟩⟩
        case measure => rw [HRg8.out.left_eq, HRl.out.left_eq]; exact HK.out.2.1
end Go.Proofs.YtaibjeehjhlicaaDoor
