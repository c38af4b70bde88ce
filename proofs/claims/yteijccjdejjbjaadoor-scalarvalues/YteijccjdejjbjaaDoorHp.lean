import Derived.Test.YteijccjdejjbjaaDoorHp0
import Derived.Test.YteijccjdejjbjaaDoorSm
namespace Go.Proofs.YteijccjdejjbjaaDoor
open Go.RowKit Go.Shelf ScalarNum

def sl (S : Nat → Nat) : List Value := (List.range 40).map fun k => .int .i64 (S k : Int)
theorem sl_length (S : Nat → Nat) : (sl S).length = 40 := by simp [sl]
theorem sl_get (S : Nat → Nat) (k : Nat) (h : k < 40) : (sl S)[k]? = some (.int .i64 (S k : Int)) := by simp [sl, h]
theorem sl_set (S T : Nat → Nat) (q : Nat) (hq : q < 40) (hT : ∀ k, k ≠ q → T k = S k) : (sl S).set q (.int .i64 (T q : Int)) = sl T := by
  apply List.ext_getElem?
  intro j
  by_cases e : q = j
  · subst e
    rw [List.getElem?_set_self (by rw [sl_length]; exact hq), sl_get T q hq]
  · rw [List.getElem?_set_ne e]
    by_cases hj : j < 40
    · rw [sl_get S j hj, sl_get T j hj, hT j (fun h => e h.symm)]
    · rw [List.getElem?_eq_none (by rw [sl_length]; omega), List.getElem?_eq_none (by rw [sl_length]; omega)]
theorem sl_zero (p : Nat → Nat) : (sl (SS p 0)).toArray = Array.replicate 40 (.int .i64 0) := by rfl
theorem i8_64 (d : I8) : wrap64 d.1 = d.1 ∧ IntKind.i64.wrap d.1 = d.1 := by
  have := d.2
  rw [IntKind.wrap_i64]; unfold wrap64; omega
theorem tmod8 (i : Nat) : (i : Int).tmod 8 = ((i % 8 : Nat) : Int) := by rw [Int.tmod_eq_emod_of_nonneg (by omega)]; omega
theorem tdiv8 (i : Nat) : (i : Int).tdiv 8 = ((i / 8 : Nat) : Int) := by rw [Int.tdiv_eq_ediv_of_nonneg (by omega)]; omega
theorem w64n (q : Nat) (h : q < 1073741824) : IntKind.i64.wrap (q : Int) = (q : Int) ∧ wrap64 (q : Int) = (q : Int) := by rw [IntKind.wrap_i64]; unfold wrap64; omega

theorem carry_lay {S : Nat → Nat} {D c k : Nat} (hD : D < 256 ^ k) (h : D + c * 256 ^ k = tot S k) : D + (S k + c) % 256 * 256 ^ k < 256 ^ (k + 1) ∧ D + (S k + c) % 256 * 256 ^ k + (S k + c) / 256 * 256 ^ (k + 1) = tot S (k + 1) :=
  ⟨(lay_step (v := S k + c) hD rfl).1, carry_step h⟩
theorem carry_none {D c k : Nat} (h : D + c * 256 ^ k < 256 ^ k) : c = 0 := by
  rcases Nat.eq_zero_or_pos c with e | e
  · exact e
  · have := Nat.mul_le_mul_right (256 ^ k) e
    omega

structure HX (W0 : World) (sb : Nat) (p : Nat → Nat) (i : Nat) (wr : World) : Prop where
  rg : wr.rangeAt sb 0 (sl (SS p i))
  th : wr.there sb 0 40
  gb : GB sb W0 wr

set_option maxRecDepth 100000 in
set_option maxHeartbeats 600000 in
theorem heap_num (b off len cap : Nat) (f : Nat → I8) (sg : Int) (hsg : sg = 1 ∨ sg = -1) (hlen : len ≤ 300) (w : World) (hd : ∀ j, j < len → w.cell? ⟨b, off + j, none⟩ = some (.int .i8 (f j).1)) (hb : b < w.heap.size) :
    Calls Tryd.prog 47 #[.slice (some ⟨b, off, none⟩) len cap, .int .i64 sg] w fun e w' => (∃ v, e = .returned v ∧ SL 40 (dsum (pp f sg) len) v w') ∧ Grown w w' := by
  have hp : ∀ i, pp f sg i ≤ 128 := pp_le hsg
  have h0 : (w.alloc (.cells (sl (SS (pp f sg) 0)).toArray 91)).rangeAt w.heap.size 0 (sl (SS (pp f sg) 0)) ∧ (w.alloc (.cells (sl (SS (pp f sg) 0)).toArray 91)).there w.heap.size 0 40 ∧ Grown w (w.alloc (.cells (sl (SS (pp f sg) 0)).toArray 91)) :=
    ⟨rangeAt_alloc_new w 91 _, there_alloc_new w 91 _ 40 (by rw [List.size_toArray, sl_length]; exact Nat.le_refl _), Grown.alloc (Grown.refl _) _ _⟩
  have HD := Hid.of (And.intro hd hb)
  have HP := Hid.of (And.intro hp hsg)
  clear hd hb hp hsg
  go_enter Tryd.func47, Tryd.ntmps47
  go_wp2
  go_loopw [6] (fun v6 wr => ∃ i : Nat, v6 = .int .i64 (i : Int) ∧ i ≤ len ∧ HX (w.alloc (.cells (sl (SS (pp f sg) 0)).toArray 91)) w.heap.size (pp f sg) i wr) (fun v6 _ => len - (intOf v6).toNat)
  case atStart =>
    refine ⟨0, rfl, Nat.zero_le _, ?_⟩
    have e : ∀ W, W = (w.alloc (.cells (sl (SS (pp f sg) 0)).toArray 91)) → HX (w.alloc (.cells (sl (SS (pp f sg) 0)).toArray 91)) w.heap.size (pp f sg) 0 W := fun W e => by rw [e]; exact ⟨h0.1, h0.2.1, GB.refl _ _⟩
    exact e _ rfl
  case round =>
    obtain ⟨i, rfl, hi, hX⟩ := hrel
    generalize (w.alloc (.cells (sl (SS (pp f sg) 0)).toArray 91)) = W0 at *
    have HXX := Hid.of (And.intro hX h0)
    clear hX h0
    by_cases hlt : i < len
    · have c1 : (i : Int) < (len : Int) := Int.ofNat_lt.2 hlt
      have c2 : (i : Int) < 300 := by omega
      have d1 : wr.cell? ⟨b, off + i, none⟩ = some (.int .i8 (f i).1) := by
        rw [HXX.out.1.gb.cell _ _ (Nat.lt_of_lt_of_le HD.out.2 HXX.out.2.2.2.2.2) (by have := HD.out.2; omega), grown_cell HXX.out.2.2.2 _ _ HD.out.2]
        exact HD.out.1 i hlt
      obtain ⟨e1, e2⟩ := i8_64 (f i)
      have hpi : pp f sg i = (sg * (f i).1).toNat := rfl
      have hp8 := HP.out.1 i
      have e3 : IntKind.i64.wrap (sg * (f i).1) = sg * (f i).1 := by
        have := (f i).2
        rw [IntKind.wrap_i64]
        rcases HP.out.2 with rfl | rfl <;> omega
      have e4 : wrap64 (sg * (f i).1) = sg * (f i).1 := by
        have := (f i).2
        unfold wrap64
        rcases HP.out.2 with rfl | rfl <;> omega
      generalize (f i).1 = d at *
      by_cases hpos : 0 < sg * d
      · obtain ⟨q, hq⟩ : ∃ q : Nat, sg * d = (q : Int) := ⟨(sg * d).toNat, by omega⟩
        have hpq : pp f sg i = q := by omega
        have hq8 : q ≤ 128 := by omega
        rw [hq] at e3 e4 hpos
        have e6 := tmod8 i
        have e7 := tdiv8 i
        have hk40 : i / 8 < 40 := by omega
        have hr7 : i % 8 ≤ 7 := by omega
        have hSS := SS_le HP.out.1 i (i / 8)
        have hS1 : SS (pp f sg) (i + 1) (i / 8) = SS (pp f sg) i (i / 8) + q * 2 ^ (i % 8) := by
          show (if i / 8 = i / 8 then SS (pp f sg) i (i / 8) + pp f sg i * 2 ^ (i % 8) else SS (pp f sg) i (i / 8)) = _
          rw [if_pos rfl, hpq]
        have hsl : (sl (SS (pp f sg) i)).set (i / 8) (.int .i64 ((SS (pp f sg) i (i / 8) + q * 2 ^ (i % 8) : Nat) : Int)) = sl (SS (pp f sg) (i + 1)) := by
          rw [← hS1]
          exact sl_set _ _ _ hk40 (fun k hk => by
            show (if k = i / 8 then SS (pp f sg) i k + pp f sg i * 2 ^ (i % 8) else SS (pp f sg) i k) = _
            rw [if_neg hk])
        have d2 : wr.cell? ⟨w.heap.size, i / 8, none⟩ = some (.int .i64 (SS (pp f sg) i (i / 8) : Nat)) := by
          have := HXX.out.1.rg (i / 8) _ (sl_get _ _ hk40); rwa [Nat.zero_add] at this
        have d3 : wr.frozen? ⟨w.heap.size, i / 8, none⟩ = false := by
          have := (HXX.out.1.th (i / 8) hk40).2; rwa [Nat.zero_add] at this
        generalize SS (pp f sg) i (i / 8) = S at *
        generalize i / 8 = k at *
        generalize i % 8 = r at *
        have hk40' : (k : Int) < 40 := Int.ofNat_lt.2 hk40
        have HQ := Hid.of (And.intro hsl (And.intro hr7 (And.intro hq8 (And.intro hSS (And.intro hk40 hlt)))))
        clear hsl hr7 hq8 hSS hS1 hpq hpi hp8 hk40
        go_wp2
        go_loopw [8, 9] (fun v8 v9 wr' => ∃ j : Nat, v9 = .int .i64 (j : Int) ∧ v8 = .int .i64 ((q * 2 ^ j : Nat) : Int) ∧ j ≤ r ∧ wr' = wr) (fun _ v9 _ => r - (intOf v9).toNat)
        case atStart => exact ⟨0, rfl, by rw [Nat.pow_zero, Nat.mul_one], Nat.zero_le _, rfl⟩
        case round =>
          obtain ⟨j, rfl, rfl, hj, rfl⟩ := hrel
          have hP : q * 2 ^ j ≤ 128 * 128 := Nat.mul_le_mul HQ.out.2.2.1 (Nat.le_trans (Nat.pow_le_pow_right (by decide) (show j ≤ 7 from Nat.le_trans hj HQ.out.2.1)) (by decide))
          have hP2 : q * 2 ^ (j + 1) = 2 * (q * 2 ^ j) := by rw [Nat.pow_succ, ← Nat.mul_assoc, Nat.mul_comm]
          by_cases hjl : j < r
          · have c3 : (j : Int) < (r : Int) := Int.ofNat_lt.2 hjl
            have HE := Hid.of (show wrap64 ((j : Int) + 1) = (j : Int) + 1 by have := HQ.out.2.1; unfold wrap64; omega)
            have HP2 := Hid.of hP2
            generalize q * 2 ^ j = P at *
            have e8 : IntKind.i64.wrap (2 * (P : Int)) = ((2 * P : Nat) : Int) := by rw [IntKind.wrap_i64]; omega
            have e9 : wrap64 (2 * (P : Int)) = ((2 * P : Nat) : Int) := by unfold wrap64; omega
            clear hP2
            go_wp2
            go_roundw
            case rel => exact ⟨j + 1, by rw [HE.out]; simp, by rw [HP2.out]; simp, hjl, trivial⟩
            case measure => rw [HE.out]; simp [intOf]; omega
          · obtain rfl : j = r := by omega
            have c3 : ¬ (j : Int) < (j : Int) := by omega
            generalize q * 2 ^ j = P at *
            have hSP : S + P < 1073741824 := by have := HQ.out.2.2.2.1; omega
            have e8 : IntKind.i64.wrap ((S : Int) + (P : Int)) = (S : Int) + (P : Int) := by rw [IntKind.wrap_i64]; omega
            have e9 : wrap64 ((S : Int) + (P : Int)) = (S : Int) + (P : Int) := by unfold wrap64; omega
            clear hSP hP hP2
            go_wp2
            go_roundw
            case rel =>
              refine ⟨i + 1, by go_num, HQ.out.2.2.2.2.2, ⟨?_, there_setCell HXX.out.1.th _ _, GB.setCell HXX.out.1.gb _⟩⟩
              have := range_set HXX.out.1.rg k (by rw [sl_length]; exact HQ.out.2.2.2.2.1) (.int .i64 ((S + P : Nat) : Int))
              rw [HQ.out.1] at this
              exact this
            case measure => simp [intOf]; omega
      · have hz : pp f sg i = 0 := by omega
        have hsl : sl (SS (pp f sg) (i + 1)) = sl (SS (pp f sg) i) := by
          have e : ∀ k, SS (pp f sg) (i + 1) k = SS (pp f sg) i k := fun k => by
            show (if k = i / 8 then SS (pp f sg) i k + pp f sg i * 2 ^ (i % 8) else SS (pp f sg) i k) = _
            rw [hz]; split <;> omega
          unfold sl
          apply List.map_congr_left
          intro k _
          rw [e k]
        have HZ := Hid.of hsl
        have npos : ¬ 0 < sg * d := hpos
        clear hsl hz hpi hp8 hpos
        go_wp2
        go_roundw
        case rel => exact ⟨i + 1, by go_num, hlt, ⟨by rw [HZ.out]; exact HXX.out.1.rg, HXX.out.1.th, HXX.out.1.gb⟩⟩
        case measure => simp [intOf]; omega
    · have hie : i = len := by omega
      subst hie
      have c1 : ¬ (i : Int) < (i : Int) := by omega
      have hb300 : i ≤ 300 := hlen
      have gwr : Grown w wr := GB.own HXX.out.2.2.2 (Nat.le_refl _) HXX.out.1.gb
      have HR := Hid.of (And.intro HXX.out.1.rg gwr)
      have HS := Hid.of (show ∀ k, SS (pp f sg) i k ≤ 4915200 from fun k => Nat.le_trans (SS_le HP.out.1 i k) (by omega))
      have HTt := Hid.of (And.intro (tot_SS (pp f sg) i (by omega)) (dsum_256 HP.out.1 hb300))
      generalize SS (pp f sg) i = S at *
      obtain ⟨ii, hi1, hi2, hi3, hi4⟩ := hI8
      clear HXX gwr hb300 hlen hlt hi HD HP
      obtain ⟨wr2, eW⟩ : ∃ W1, W1 = wr := ⟨_, rfl⟩
      subst eW
      go_wp2
      go_loopw [10, 11, 12] (fun v10 v11 v12 wr' => ∃ k D c : Nat, v12 = .int .i64 (k : Int) ∧ v11 = .int .i64 (c : Int) ∧ k ≤ 40 ∧ c ≤ 4915200 ∧ D + c * 256 ^ k = tot S k ∧ OX wr2 v10 k D wr') (fun _ _ v12 _ => 40 - (intOf v12).toNat)
      case atStart => exact ⟨0, 0, 0, rfl, rfl, by decide, by decide, by simp [tot], World.ownsRow_nil _ _ _ _, .inl rfl, by decide, Grown.refl _⟩
      case round =>
        obtain ⟨k, D, c, rfl, rfl, hk, hc, he, hO⟩ := hrel
        have HO := Hid.of hO
        clear hO
        by_cases hlt : k < 40
        · have b1 : (k : Int) < 40 := Int.ofNat_lt.2 hlt
          have d1 : wr.cell? ⟨w.heap.size, k, none⟩ = some (.int .i64 (S k : Nat)) := by
            have := rangeAt_grown HR.out.1 HO.out.gw k _ (sl_get S k hlt); rwa [Nat.zero_add] at this
          have hSk := HS.out k
          have hst := Hid.of (carry_lay HO.out.lt he)
          generalize S k = x at *
          have es : (x : Int) + (c : Int) = ((x + c : Nat) : Int) := by omega
          have hs2 : x + c < 10000000 := by omega
          have hs3 : (x + c) / 256 ≤ 4915200 := by omega
          generalize x + c = s at *
          have q1 := tmods s
          have q2 := tdivs s
          have q3 := u8_of s
          have HL := Hid.of hs3
          clear he hs3 hSk
          go_wp2_with (with_reducible show wpList _ _ _ ({ dst := _, op := Op.call { callee := Callee.builtin Builtin.append, args := _, argTypes := _ }, type := _, pos := _, after := _, guard := _ } :: _) _ _; refine Shut.out ?_)
          show wpList _ _ _ _ _ _
          rw [show ((s : Int) % 256) = ((s % 256 : Nat) : Int) from by simp]
          refine wpList_append_one (W0 := wr2) rfl _ _ rfl Tryd.underlying64 hi1 hi2 hi3 hi4 rfl _ k (yl k D) rfl (HO.out.own.alloc _) ⟨wr.heap.size, 0, none⟩ 1 (.int .u8 ((s % 256 : Nat) : Int)) rfl (by simp [Addr.add]) rfl (Nat.lt_trans hlt (by decide)) (Grown.alloc HO.out.gw _ _) ?_
          intro v' w' ho' hgr hv' hg'
          rw [yl_lay HO.out.lt (Nat.mod_lt _ (by decide))] at ho'
          have HO' := Hid.of (show OX wr2 v' (k + 1) (D + s % 256 * 256 ^ k) w' from ⟨ho', .inr hv', hst.out.1, hg'⟩)
          clear ho' hgr hv' hg' HO d1
          simp only [Act.put, List.setIfInBounds_toArray, List.set_cons_zero, List.set_cons_succ]
          go_wp2
          go_roundw
          case rel => exact ⟨k + 1, D + s % 256 * 256 ^ k, s / 256, by go_num, by simp, hlt, HL.out, hst.out.2, HO'.out⟩
          case measure => simp [intOf]; omega
        · obtain rfl : k = 40 := by omega
          have hc0 : c = 0 := by
            have h1 := HTt.out.2
            rw [← HTt.out.1, ← he] at h1
            exact carry_none h1
          subst hc0
          rw [Nat.zero_mul, Nat.add_zero, HTt.out.1] at he
          subst he
          obtain ⟨g, cp, rfl⟩ := HO.out.sl.resolve_left (by decide)
          have HF := Hid.of (And.intro (owns_range HO.out.own) (grown_trans HR.out.2 HO.out.gw))
          clear HO HR HTt HS
          go_wp2
          go_loopw [10, 11] (fun v10 v11 wr' => v10 = .slice (some ⟨g, 0, none⟩) 40 cp ∧ v11 = .int .i64 0 ∧ wr' = wr) (fun _ _ _ => 0)
          case atStart => exact ⟨rfl, rfl, rfl⟩
          case round =>
            obtain ⟨rfl, rfl, rfl⟩ := hrel
            go_wp2
            go_ret
            exact ⟨⟨_, rfl, g, cp, rfl, HF.out.1⟩, HF.out.2⟩
end Go.Proofs.YteijccjdejjbjaaDoor
