import Derived.Test.YtaphjbcnnkoffaaGreatDoorLn
import Derived.Test.YtaphjbcnnkoffaaGreatDoorHg
namespace Go.Proofs.YtaphjbcnnkoffaaGreatDoor
open Go.RowKit TextNum

theorem wraps_u32 (n : Int) (h₀ : 0 ≤ n) (h₁ : n < 2 ^ 32) : IntKind.u32.wrap n = n := by rw [IntKind.wrap_u32]; omega
theorem or32 (x y : Nat) (k : Nat) (hx : x % 2 ^ k = 0) (hx1 : x < 2 ^ 32) (hy : y < 2 ^ k) (hy1 : y < 2 ^ 32) : Go.bits .or .u32 (x : Int) (y : Int) = ((x + y : Nat) : Int) := by
  have := bits_join .u32 32 (by decide) wraps_u32 k (x : Int) (y : Int) (by omega) (by exact_mod_cast hx) (by exact_mod_cast hx1) (by omega) (by exact_mod_cast hy) (by exact_mod_cast hy1)
  rw [this]; simp
theorem and32 (x : Nat) (k : Nat) (hk : k ≤ 32) (hx : x < 2 ^ 32) : Go.bits .and .u32 (x : Int) (2 ^ k - 1 : Int) = ((x % 2 ^ k : Nat) : Int) := by
  have := bits_mask .u32 32 (by decide) wraps_u32 k hk (x : Int) (by omega) (by exact_mod_cast hx)
  rw [this]; simp
theorem ln_some {c q : Nat} (h : ln c = q) (h64 : q ≠ 64) : pl LT (UInt8.ofNat c) = some q := by
  unfold ln at h
  cases e : pl LT (UInt8.ofNat c) with
  | none => rw [e] at h; exact absurd h.symm h64
  | some i => rw [e] at h; simp at h; rw [h]
theorem ln_none {c : Nat} (h : ln c = 64) : pl LT (UInt8.ofNat c) = none := by
  unfold ln at h
  cases e : pl LT (UInt8.ofNat c) with
  | none => rfl
  | some i => rw [e] at h; have := (pl_lt' e).2; simp at h; omega
theorem drop_one {l : List UInt8} {i : Nat} (h : i < l.length) : l.drop i = l[i] :: l.drop (i + 1) := List.drop_eq_getElem_cons h
/-- what the loop over the letters keeps -/
structure BL (w0 : World) (g B1 : Nat) (L : List UInt8) (i cnt bits : Nat) (v5 : Value) (wr : World) : Prop where
  nb : wr.rangeAt g 0 (nl ln)
  gb : g < B1
  wb : w0.heap.size ≤ g
  up : Up w0 wr
  sz : B1 ≤ wr.heap.size
  ow : ∃ out, Own wr B1 v5 out ∧ out.length ≤ i ∧ dl 0 0 L = (dl cnt bits (L.drop i)).map (out ++ ·)

theorem BL.app {w0 : World} {g B1 : Nat} {L : List UInt8} {i cnt bits i' cnt' bits' : Nat} {v v' : Value} {wr w' : World} (h : BL w0 g B1 L i cnt bits v wr) (hb : Below B1 wr w')
    (ho : ∃ out, Own w' B1 v' out ∧ out.length ≤ i' ∧ dl 0 0 L = (dl cnt' bits' (L.drop i')).map (out ++ ·)) : BL w0 g B1 L i' cnt' bits' v' w' :=
  ⟨fun j u hu => by rw [Below.cell hb (p := ⟨g, 0 + j, none⟩) h.gb]; exact h.nb j u hu, h.gb, h.wb, h.up.step (Nat.le_trans h.wb (Nat.le_of_lt h.gb)) hb, Nat.le_trans h.sz hb.size, ho⟩

set_option maxRecDepth 100000 in
set_option maxHeartbeats 1000000 in
theorem bytesOfLetters_walk (s : ByteArray) (hs : s.size ≤ 1048576) (w : World) (hT : TabL w) :
    Calls Tryz.prog 119 #[.string s] w fun e w' => ∃ v, e = .returned (.tuple #[v, .bool (dl 0 0 s.data.toList).isSome]) ∧ (∀ x, dl 0 0 s.data.toList = some x → Own w' w.heap.size v x) ∧ Up w w' := by
  have HT := Hid.of hT
  clear hT
  have HS := Hid.of (Go.Lib.size_eq s)
  go_enter Tryz.func119, Tryz.ntmps119
  go_wp2_with fail
  refine (letterNumbers_walk w HT.out).mono ?_
  rintro e w1 ⟨rfl, u1⟩
  dsimp only
  have HU1 := Hid.of u1
  clear u1
  rw [nV]
  go_wp2_with (with_reducible show wpList _ _ _ ({ dst := _, op := Op.store 172 _ _, type := _, pos := _, after := _, guard := _ } :: _) _ _; refine Shut.out ?_)
  show wpList _ _ _ _ _ _
  refine wpList_store_mid rfl 172 _ _ rfl w1.heap.size 0 (nl ln).toArray rfl rfl (by rw [show (nl ln).toArray.size = 256 from by rw [List.size_toArray, nl_length]]; have := there_alloc_new w1 (nl fun _ => 0) 172; rw [← zeroA, nl_length] at this; exact this) (by rw [List.size_toArray, nl_length]; exact infoA) (all_oneCell_toArray (nl_one ln)) ?_
  simp only [Act.put]
  have r2 : ((w1.alloc (.cells Tryz.zeroCells172 172)).setCells w1.heap.size 0 (nl ln)).rangeAt w1.heap.size 0 (nl ln) :=
    World.rangeAt_setCells_same _ _ _ _ (by have := there_alloc_new w1 (nl fun _ => 0) 172; rw [← zeroA, nl_length] at this; rw [nl_length]; exact this)
  have u2 : Up w ((w1.alloc (.cells Tryz.zeroCells172 172)).setCells w1.heap.size 0 (nl ln)) := below_setCells HU1.out.size _ _ (HU1.out.alloc _)
  have s2 : w1.heap.size < ((w1.alloc (.cells Tryz.zeroCells172 172)).setCells w1.heap.size 0 (nl ln)).heap.size := by
    have := r2 0 _ (nl_get ln (by decide)); exact lt_of_cell this
  generalize ((w1.alloc (.cells Tryz.zeroCells172 172)).setCells w1.heap.size 0 (nl ln)) = w2 at *
  have H2 := Hid.of (And.intro r2 (And.intro u2 (And.intro s2 HU1.out.size)))
  clear r2 u2 s2
  generalize (nl ln).toArray = bigV
  go_wp2_with (with_reducible show wpList _ _ _ ({ dst := _, op := Op.makeSlice 22 _ _, type := _, pos := _, after := _, guard := _ } :: _) _ _; refine Shut.out ?_)
  show wpList _ _ _ _ _ _
  refine wpList_mk rfl _ _ rfl _ _ _ (s.size * 6 / 8) rfl rfl (by omega) (by omega) ?_
  intro w3 h3 u3
  simp only [Act.put, List.setIfInBounds_toArray, List.set_cons_zero, List.set_cons_succ]
  have H3 : Hid (BL w w1.heap.size w2.heap.size s.data.toList 0 0 0 (.slice (some ⟨w2.heap.size, 0, none⟩) 0 (s.size * 6 / 8)) w3) :=
    ⟨fun j v hv => u3.cell (H2.out.1 j v hv), H2.out.2.2.1, H2.out.2.2.2, H2.out.2.1.trans u3, u3.size, [], h3, by simp, by simp⟩
  clear h3 u3
  go_wp2
  go_loopw [5, 6, 7, 18] (fun v5 v6 v7 v18 wr => ∃ i cnt bits : Nat, v18 = .int .i64 (i : Int) ∧ v6 = .int .u32 (bits : Int) ∧ v7 = .int .i64 (cnt : Int) ∧ i ≤ s.size ∧ (cnt = 0 ∨ cnt = 2 ∨ cnt = 4 ∨ cnt = 6) ∧ Hid (bits < 2 ^ cnt) ∧ Hid (BL w w1.heap.size w2.heap.size s.data.toList i cnt bits v5 wr)) (fun _ _ _ v18 _ => s.size - (intOf v18).toNat)
  case atStart => exact ⟨0, 0, 0, rfl, rfl, rfl, by omega, .inl rfl, Hid.of (by decide), H3⟩
  case round =>
    obtain ⟨i, cnt, bits, rfl, rfl, rfl, hi, hcnt, hbits, hI⟩ := hrel
    by_cases hlt : i < s.size
    · have hlt' : (i : Int) < (s.size : Int) := by omega
      have hcb : s[i].toNat < 256 := s[i].toNat_lt
      have hcb' : (s[i].toNat : Int) < 256 := by omega
      have c1 : wr.cell? ⟨w1.heap.size, s[i].toNat, none⟩ = some (.int .u32 (ln s[i].toNat : Int)) := by
        have := hI.out.nb s[i].toNat _ (nl_get ln hcb); rwa [Nat.zero_add] at this
      have hln := ln_lt s[i].toNat
      generalize hq : ln s[i].toNat = q at *
      have HQ := Hid.of hq
      clear hq
      have hdr := drop_one (l := s.data.toList) (i := i) (by rw [← HS.out]; exact hlt)
      rw [← sget s i hlt] at hdr
      have HD := Hid.of hdr
      clear hdr
      by_cases hq64 : q = 64
      · subst hq64
        have hpn := ln_none HQ.out
        rw [UInt8.ofNat_toNat] at hpn
        have hn : dl 0 0 s.data.toList = none := by
          obtain ⟨out, _, _, h3⟩ := hI.out.ow
          rw [h3, HD.out]; simp only [dl]; rw [hpn]; rfl
        have HN := Hid.of hn
        clear hn hpn
        go_wp2
        go_ret2
        rw [HN.out]
        exact ⟨_, rfl, (by intro x h; cases h), hI.out.up⟩
      · have b64 : ((q : Int) == 64) = false := by simp; omega
        have hps := ln_some HQ.out hq64
        rw [UInt8.ofNat_toNat] at hps
        obtain ⟨out, o1, o2, o3⟩ := hI.out.ow
        rw [HD.out] at o3
        simp only [dl] at o3
        rw [hps] at o3
        simp only at o3
        obtain ⟨m, hm⟩ : ∃ m, m = bits * 64 + q := ⟨_, rfl⟩
        rw [← hm] at o3
        have hq63 : q < 64 := by omega
        rcases hcnt with rfl | rfl | rfl | rfl
        · have hb : bits < 1 := hbits.out
          have e1 : Go.bits .or .u32 ((bits : Int) * 64) (q : Int) = (m : Int) := by
            have := or32 (bits * 64) q 6 (by omega) (by omega) (by omega) (by omega)
            rw [← hm] at this
            simpa using this
          have hmM : m < 64 := by omega
          have HO := Hid.of (And.intro o1 (And.intro o2 (show dl 0 0 s.data.toList = (dl 6 m (s.data.toList.drop (i + 1))).map (out ++ ·) by rw [o3]; simp)))
          have HM := Hid.of (show m < 2 ^ 6 from hmM)
          clear o1 o2 o3 hm hps
          go_wp2
          go_roundw
          case rel => exact ⟨i + 1, 6, m, by go_num, rfl, rfl, by omega, .inr (.inr (.inr rfl)), HM, hI.out.nb, hI.out.gb, hI.out.wb, hI.out.up, hI.out.sz, out, HO.out.1, by have := HO.out.2.1; omega, HO.out.2.2⟩
          case measure => simp [intOf]; omega
        · have hb : bits < 4 := hbits.out
          have e1 : Go.bits .or .u32 ((bits : Int) * 64) (q : Int) = (m : Int) := by
            have := or32 (bits * 64) q 6 (by omega) (by omega) (by omega) (by omega)
            rw [← hm] at this
            simpa using this
          have hmM : m < 256 := by omega
          obtain ⟨y, hy⟩ : ∃ y, y = m / 1 := ⟨_, rfl⟩
          obtain ⟨z, hz⟩ : ∃ z, z = m % 1 := ⟨_, rfl⟩
          have hy256 : y < 256 := by omega
          have e3 : Go.bits .and .u32 (m : Int) 0 = (z : Int) := by
            have := and32 m 0 (by decide) (by omega)
            rw [hz]
            simpa using this
          have HO := Hid.of (And.intro o1 (And.intro o2 (show dl 0 0 s.data.toList = (dl 0 z (s.data.toList.drop (i + 1))).map ((out ++ [UInt8.ofNat y]) ++ ·) by rw [o3, hy, hz]; simp [Option.map_map, Function.comp_def])))
          have HM := Hid.of (show z < 2 ^ 0 by rw [hz]; exact Nat.mod_lt _ (by decide))
          have ey : (y : Int) = ((UInt8.ofNat y).toNat : Int) := by rw [ofNat_toNat hy256]
          have EY := Hid.of ey
          have E0 := Hid.of hy
          clear o1 o2 o3 hm hps hz hy ey
          go_wp2_with (with_reducible show wpList _ _ _ ({ dst := _, op := Op.call { callee := Callee.builtin Builtin.append, args := _, argTypes := _ }, type := _, pos := _, after := _, guard := _ } :: _) _ _; refine Shut.out ?_)
          show wpList _ _ _ _ _ _
          rw [show (#[Value.int .u8 (m : Int)] : Array Value) = (cb [UInt8.ofNat y]).toArray from by simp only [cb, List.map_cons, List.map_nil]; rw [ofNat_toNat hy256]; rw [E0.out, Nat.div_one]]
          refine wpList_app1 rfl _ _ rfl w2.heap.size _ out [UInt8.ofNat y] rfl (by exact HO.out.1) 1 rfl (by have := HO.out.2.1; simp; omega) hI.out.sz ?_
          intro v4 w4 h4 b4
          simp only [Act.put, List.setIfInBounds_toArray, List.set_cons_zero, List.set_cons_succ]
          have H4 := Hid.of (And.intro h4 b4)
          clear h4 b4
          go_wp2
          go_roundw
          case rel => exact ⟨i + 1, 0, z, by go_num, rfl, rfl, by omega, .inl rfl, HM, hI.out.app H4.out.2 ⟨_, H4.out.1, by have := HO.out.2.1; simp; omega, HO.out.2.2⟩⟩
          case measure => simp [intOf]; omega
        · have hb : bits < 16 := hbits.out
          have e1 : Go.bits .or .u32 ((bits : Int) * 64) (q : Int) = (m : Int) := by
            have := or32 (bits * 64) q 6 (by omega) (by omega) (by omega) (by omega)
            rw [← hm] at this
            simpa using this
          have hmM : m < 1024 := by omega
          obtain ⟨y, hy⟩ : ∃ y, y = m / 4 := ⟨_, rfl⟩
          obtain ⟨z, hz⟩ : ∃ z, z = m % 4 := ⟨_, rfl⟩
          have hy256 : y < 256 := by omega
          have e3 : Go.bits .and .u32 (m : Int) 3 = (z : Int) := by
            have := and32 m 2 (by decide) (by omega)
            rw [hz]
            simpa using this
          have e2 : (m : Int) / 4 = (y : Int) := by omega
          have HY := Hid.of e2
          have HO := Hid.of (And.intro o1 (And.intro o2 (show dl 0 0 s.data.toList = (dl 2 z (s.data.toList.drop (i + 1))).map ((out ++ [UInt8.ofNat y]) ++ ·) by rw [o3, hy, hz]; simp [Option.map_map, Function.comp_def])))
          have HM := Hid.of (show z < 2 ^ 2 by rw [hz]; exact Nat.mod_lt _ (by decide))
          have ey : (y : Int) = ((UInt8.ofNat y).toNat : Int) := by rw [ofNat_toNat hy256]
          have EY := Hid.of ey
          have E0 := Hid.of hy
          clear o1 o2 o3 hm hps hz hy ey
          go_wp2_with (with_reducible show wpList _ _ _ ({ dst := _, op := Op.call { callee := Callee.builtin Builtin.append, args := _, argTypes := _ }, type := _, pos := _, after := _, guard := _ } :: _) _ _; refine Shut.out ?_)
          show wpList _ _ _ _ _ _
          rw [show (#[Value.int .u8 (y : Int)] : Array Value) = (cb [UInt8.ofNat y]).toArray from by simp only [cb, List.map_cons, List.map_nil]; rw [ofNat_toNat hy256]]
          refine wpList_app1 rfl _ _ rfl w2.heap.size _ out [UInt8.ofNat y] rfl (by exact HO.out.1) 1 rfl (by have := HO.out.2.1; simp; omega) hI.out.sz ?_
          intro v4 w4 h4 b4
          simp only [Act.put, List.setIfInBounds_toArray, List.set_cons_zero, List.set_cons_succ]
          have H4 := Hid.of (And.intro h4 b4)
          clear h4 b4
          go_wp2
          go_roundw
          case rel => exact ⟨i + 1, 2, z, by go_num, rfl, rfl, by omega, .inr (.inl rfl), HM, hI.out.app H4.out.2 ⟨_, H4.out.1, by have := HO.out.2.1; simp; omega, HO.out.2.2⟩⟩
          case measure => simp [intOf]; omega
        · have hb : bits < 64 := hbits.out
          have e1 : Go.bits .or .u32 ((bits : Int) * 64) (q : Int) = (m : Int) := by
            have := or32 (bits * 64) q 6 (by omega) (by omega) (by omega) (by omega)
            rw [← hm] at this
            simpa using this
          have hmM : m < 4096 := by omega
          obtain ⟨y, hy⟩ : ∃ y, y = m / 16 := ⟨_, rfl⟩
          obtain ⟨z, hz⟩ : ∃ z, z = m % 16 := ⟨_, rfl⟩
          have hy256 : y < 256 := by omega
          have e3 : Go.bits .and .u32 (m : Int) 15 = (z : Int) := by
            have := and32 m 4 (by decide) (by omega)
            rw [hz]
            simpa using this
          have e2 : (m : Int) / 16 = (y : Int) := by omega
          have HY := Hid.of e2
          have HO := Hid.of (And.intro o1 (And.intro o2 (show dl 0 0 s.data.toList = (dl 4 z (s.data.toList.drop (i + 1))).map ((out ++ [UInt8.ofNat y]) ++ ·) by rw [o3, hy, hz]; simp [Option.map_map, Function.comp_def])))
          have HM := Hid.of (show z < 2 ^ 4 by rw [hz]; exact Nat.mod_lt _ (by decide))
          have ey : (y : Int) = ((UInt8.ofNat y).toNat : Int) := by rw [ofNat_toNat hy256]
          have EY := Hid.of ey
          have E0 := Hid.of hy
          clear o1 o2 o3 hm hps hz hy ey
          go_wp2_with (with_reducible show wpList _ _ _ ({ dst := _, op := Op.call { callee := Callee.builtin Builtin.append, args := _, argTypes := _ }, type := _, pos := _, after := _, guard := _ } :: _) _ _; refine Shut.out ?_)
          show wpList _ _ _ _ _ _
          rw [show (#[Value.int .u8 (y : Int)] : Array Value) = (cb [UInt8.ofNat y]).toArray from by simp only [cb, List.map_cons, List.map_nil]; rw [ofNat_toNat hy256]]
          refine wpList_app1 rfl _ _ rfl w2.heap.size _ out [UInt8.ofNat y] rfl (by exact HO.out.1) 1 rfl (by have := HO.out.2.1; simp; omega) hI.out.sz ?_
          intro v4 w4 h4 b4
          simp only [Act.put, List.setIfInBounds_toArray, List.set_cons_zero, List.set_cons_succ]
          have H4 := Hid.of (And.intro h4 b4)
          clear h4 b4
          go_wp2
          go_roundw
          case rel => exact ⟨i + 1, 4, z, by go_num, rfl, rfl, by omega, .inr (.inr (.inl rfl)), HM, hI.out.app H4.out.2 ⟨_, H4.out.1, by have := HO.out.2.1; simp; omega, HO.out.2.2⟩⟩
          case measure => simp [intOf]; omega
    · have hie : i = s.size := by omega
      obtain ⟨out, o1, o2, o3⟩ := hI.out.ow
      rw [hie, HS.out, List.drop_length] at o3
      simp only [dl] at o3
      have HO := Hid.of (And.intro (Own.base o1 (Nat.le_trans hI.out.wb (Nat.le_of_lt hI.out.gb))) (And.intro o3 hI.out.up))
      clear o1 o2 o3 hI
      by_cases hz : bits = 0
      · subst hz
        go_wp2
        go_ret2
        rw [HO.out.2.1]
        exact ⟨_, rfl, (by intro x h; simp at h; rw [← h]; exact HO.out.1), HO.out.2.2⟩
      · have b0 : ((bits : Int) == 0) = false := by simp; omega
        go_wp2
        go_ret2
        rw [HO.out.2.1, if_neg hz]
        exact ⟨_, rfl, (by intro x h; cases h), HO.out.2.2⟩
end Go.Proofs.YtaphjbcnnkoffaaGreatDoor
