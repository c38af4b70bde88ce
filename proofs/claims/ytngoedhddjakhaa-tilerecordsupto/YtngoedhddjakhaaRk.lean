import Derived.Test.YtngoedhddjakhaaRa
namespace Go.Proofs.Ytngoedhddjakhaa
open Go.RowKit Go.Shelf TextNum TileNum
theorem drop_two {d : List UInt8} {k : Nat} (h : k + 2 ≤ d.length) : d.drop k = d[k] :: d[k + 1] :: d.drop (k + 2) := by
  rw [List.drop_eq_getElem_cons (by omega), List.drop_eq_getElem_cons (i := k + 1) (by omega)]
theorem fst_short {d : List UInt8} (h : d.length < 2) : fst d = none := by
  rcases d with _ | ⟨x, _ | ⟨y, t⟩⟩
  · rfl
  · rfl
  · simp at h; omega
set_option maxRecDepth 100000 in
set_option maxHeartbeats 2000000 in
theorem refCut_walk (a : Option Addr) (c : Nat) (d : List UInt8) (k : Int) (w : World) (h : Sl w (.slice a d.length c) d) (hd : d.length ≤ 1099511627776) : Calls Try.prog 19 #[.slice a d.length c, .int .i64 k] w (CR d k w) := by
  have HS := Hid.of h
  clear h
  by_cases h1 : k < 0
  · have hg : k < 0 ∨ 256 < k := .inl h1
    go_enter Try.func19, Try.ntmps19
    go_wp2
    go_ret2
    exact ⟨Up.refl _, by rw [if_pos hg]; rfl⟩
  · by_cases h2 : 256 < k
    · have hg : k < 0 ∨ 256 < k := .inr h2
      go_enter Try.func19, Try.ntmps19
      go_wp2
      go_ret2
      exact ⟨Up.refl _, by rw [if_pos hg]; rfl⟩
    · obtain ⟨n, rfl⟩ : ∃ n : Nat, k = (n : Int) := ⟨k.toNat, by omega⟩
      have HN : Hid (¬ ((n : Int) < 0 ∨ 256 < (n : Int))) := by intro h; omega
      have hn : n ≤ 256 := by omega
      go_enter Try.func19, Try.ntmps19
      go_wp2
      go_loopg [4, 5, 6, 7, 8, 9, 10] n (fun g s4 s5 s6 s7 s8 _ _ wr => ∃ (i p : Nat) (rs : List (List UInt8)), i ≤ n ∧ n - i ≤ g ∧ s8 = .int .i64 (i : Int) ∧ s7 = .int .i64 (p : Int) ∧ p ≤ d.length ∧ Hid (LT wr w.heap.size s6 rs) ∧ rs.length = i ∧ Hid (ct n d = (ct (n - i) (d.drop p)).map (rs ++ ·)) ∧ Hid (Up w wr))
      case atStart => exact ⟨0, 0, [], by omega, by omega, rfl, rfl, by omega, lT_nil _ _, rfl, (show ct n d = (ct (n - 0) (d.drop 0)).map ([] ++ ·) by simp), Up.refl _⟩
      case round =>
        obtain ⟨i, p, rs, hi, hk, rfl, rfl, hp, HL, hrl, HE, HU⟩ := hrel
        obtain ⟨wb, hwb⟩ : ∃ wb, wb = wr := ⟨_, rfl⟩
        subst hwb
        by_cases hlt : i < n
        · have hltz : (i : Int) < (n : Int) := by omega
          have HX : Hid (ct (n - i) (d.drop p) = match fst (d.drop p) with | none => none | some (r, q) => (ct (n - (i + 1)) q).map (r :: ·)) := by
            show ct (n - i) (d.drop p) = _
            rw [show n - i = (n - (i + 1)) + 1 by omega]
            rfl
          by_cases h2 : d.length < p + 2
          · have h2z : (d.length : Int) < (p : Int) + 2 := by omega
            have HZ : Hid (ct n d = none) := by
              have := HE.out
              rw [HX.out, fst_short (by rw [List.length_drop]; omega)] at this
              exact this
            go_wp2
            go_ret2
            refine ⟨HU.out, ?_⟩
            rw [if_neg HN.out, Int.toNat_natCast, HZ.out]
            rfl
          · have h2z : ¬ (d.length : Int) < (p : Int) + 2 := by omega
            obtain ⟨a', c', ea, hcap, hs⟩ := HS.out
            injection ea with ea1 _ ea3
            subst ea1 ea3
            rcases hs with hs | ⟨b, off, rfl, hb, hcell⟩
            · exfalso; rw [hs] at h2; simp at h2
            have e0 := HU.out.cell (hcell p (by omega))
            have e1 := HU.out.cell (hcell (p + 1) (by omega))
            have HC := Hid.of hcell
            have HD := Hid.of (drop_two (d := d) (k := p) (by omega))
            clear hcell
            generalize d[p] = x at *
            generalize d[p + 1] = y at *
            obtain ⟨m, hm⟩ : ∃ m, m = x.toNat * 256 + y.toNat := ⟨_, rfl⟩
            have hx : (x.toNat : Int) < 256 := by have := x.toNat_lt; omega
            have hy : (y.toNat : Int) < 256 := by have := y.toNat_lt; omega
            have hmz : (x.toNat : Int) * 256 + (y.toNat : Int) = (m : Int) := by omega
            have hm9 : (m : Int) < 65536 := by omega
            have HM := Hid.of hm
            obtain ⟨p1, hp1⟩ : ∃ p1, p1 = p + 1 := ⟨_, rfl⟩
            rw [← hp1] at e1
            have hp1z : (p : Int) + 1 = (p1 : Int) := by omega
            have hp2 : p1 < d.length := by omega
            have hp3 : p < d.length := by omega
            clear hm hp1
            go_wp2_with fail
            go_quiet (fail)
            clear e0 e1 hmz hp1z hp2
            obtain ⟨q, hq⟩ : ∃ q, q = p + 2 := ⟨_, rfl⟩
            have hqz : (p : Int) + 2 = (q : Int) := by omega
            have hq2 : q ≤ d.length := by omega
            have HQ := Hid.of hq
            rw [← hq] at HD
            by_cases hbad : 1024 < m ∨ d.length < q + m
            · have HZ : Hid (ct n d = none) := by
                have := HE.out
                rw [HX.out, HD.out] at this
                simp only [fst] at this
                rw [if_pos (by rw [← HM.out, List.length_drop]; omega)] at this
                exact this
              clear hq
              by_cases hb1 : 1024 < m
              · have hb1z : (1024 : Int) < (m : Int) := by omega
                clear hbad
                go_wp2
                go_ret2
                refine ⟨HU.out.drewN _, ?_⟩
                rw [if_neg HN.out, Int.toNat_natCast, HZ.out]
                rfl
              · have hb1z : ¬ (1024 : Int) < (m : Int) := by omega
                have hb2z : (d.length : Int) < (q : Int) + (m : Int) := by omega
                clear hbad
                go_wp2
                go_ret2
                refine ⟨HU.out.drewN _, ?_⟩
                rw [if_neg HN.out, Int.toNat_natCast, HZ.out]
                rfl
            · have hb1z : ¬ (1024 : Int) < (m : Int) := by omega
              obtain ⟨z, hz⟩ : ∃ z, z = q + m := ⟨_, rfl⟩
              have hzz : (q : Int) + (m : Int) = (z : Int) := by omega
              have hz2 : z ≤ d.length := by omega
              have hz3 : ¬ (d.length : Int) < (z : Int) := by omega
              have hz4 : q ≤ z := by omega
              have hz5 : z - q = m := by omega
              have hz6 : z ≤ c := by omega
              have HF : Hid (fst (d.drop p) = some ((d.drop q).take m, d.drop z)) := by
                show fst (d.drop p) = _
                rw [HD.out]
                simp only [fst]
                rw [if_neg (by rw [← HM.out, List.length_drop]; omega), ← HM.out, List.drop_drop, hz]
              have HZ5 := Hid.of (And.intro hz5 hz)
              have hmn : m ≤ 1024 := by omega
              have HPB := Hid.of (And.intro hp (And.intro hq2 hz2))
              clear hq hz hbad hz5 HM HD h2 h2z hp3 hx hy hm9 hp hq2
              by_cases hcq : c = q
              · have hm0 : m = 0 := by have := HZ5.out.2; omega
                have hzq : z = q := by have := HZ5.out.2; omega
                subst hcq
                subst hzq
                subst hm0
                go_wp2_with (with_reducible show wpList _ _ _ ({ dst := _, op := Op.call { callee := Callee.builtin Builtin.append, args := _, argTypes := _ }, type := _, pos := _, after := _, guard := _ } :: _) _ _; refine Shut.out ?_)
                show wpList _ _ _ _ _ _
                obtain ⟨r, hr⟩ : ∃ r : List UInt8, r = [] := ⟨_, rfl⟩
                have hrl2 : r.length = 0 := by rw [hr]; rfl
                have hsl : Sl (wb.drewN nq) (.slice (some ⟨b, off, none⟩) 0 0) r := by rw [hr]; exact ⟨_, _, rfl, by simp, .inl rfl⟩
                have HSl := Hid.of hsl
                have HR := Hid.of hr
                rw [List.take_zero, ← hr] at HF
                clear hsl hr
                refine wpList_appSl rfl _ _ rfl wb.heap.size _ _ [] r rfl (World.ownsRow_nil _ _ 5 1) rfl (by exact HSl.out) (by simp; omega) (Nat.le_refl _) ?_
                have HRL2 := Hid.of hrl2
                clear hrl2
                intro v3 w3 h3 k3
                rw [List.nil_append] at h3
                obtain ⟨a3, c3, rfl⟩ := h3.len
                have u3 : Up wb w3 := ((Up.refl wb).drewN nq).trans k3
                have H3 := Hid.of (And.intro h3 u3)
                have hsz := HU.out.size
                clear h3 k3 u3 HSl
                simp only [Act.put, List.setIfInBounds_toArray, List.set_cons_zero, List.set_cons_succ]
                go_wp2_with (with_reducible show wpList _ _ _ ({ dst := _, op := Op.call { callee := Callee.builtin Builtin.append, args := _, argTypes := _ }, type := _, pos := _, after := _, guard := _ } :: _) _ _; refine Shut.out ?_)
                show wpList _ _ _ _ _ _
                refine wpList_appLT (w1 := wb) (w2 := w3) rfl _ _ rfl w.heap.size _ rs (.slice a3 r.length c3) r rfl (by exact HL.out) H3.out.2 H3.out.1 1 rfl (by omega) hsz ?_
                intro v4 w4 h4 k4 _
                have H4 := Hid.of (And.intro h4 (Up.step (HU.out.trans H3.out.2) (Nat.le_refl _) k4))
                clear h4 k4
                simp only [Act.put, List.setIfInBounds_toArray, List.set_cons_zero, List.set_cons_succ]
                have HE1 : Hid (ct n d = (ct (n - (i + 1)) (d.drop z)).map ((rs ++ [r]) ++ ·)) := by
                  have := HE.out
                  rw [HX.out, HF.out] at this
                  refine this.trans ?_
                  simp only [Option.map_map]
                  congr 1
                  funext y
                  simp
                go_wp2
                go_roundg (n - (i + 1))
                case measure => omega
                case rel => exact ⟨i + 1, z, rs ++ [r], by omega, by omega, by go_num, rfl, hz2, H4.out.1, by simp [hrl], HE1.out, H4.out.2⟩
              · skip
                go_wp2_with (with_reducible show wpList _ _ _ ({ dst := _, op := Op.call { callee := Callee.builtin Builtin.append, args := _, argTypes := _ }, type := _, pos := _, after := _, guard := _ } :: _) _ _; refine Shut.out ?_)
                show wpList _ _ _ _ _ _
                obtain ⟨r, hr⟩ : ∃ r, r = (d.drop q).take m := ⟨_, rfl⟩
                have hrl2 : r.length = m := by rw [hr, List.length_take, List.length_drop]; have := HPB.out.2.2; have := HZ5.out.2; omega
                have hsl : Sl (wb.drewN nq) (.slice (some ⟨b, off + q, none⟩) (z - q) (c - q)) r := by
                  refine ⟨_, _, by rw [hrl2, HZ5.out.1], by rw [hrl2]; have := HZ5.out.2; omega, ?_⟩
                  rcases Nat.eq_zero_or_pos m with hm0 | hm0
                  · left; exact List.eq_nil_of_length_eq_zero (by omega)
                  · right
                    refine ⟨b, off + q, rfl, Nat.lt_of_lt_of_le hb HU.out.size, fun j hj => ?_⟩
                    rw [hrl2] at hj
                    have hjd : q + j < d.length := by have := HPB.out.2.2; have := HZ5.out.2; omega
                    have := (HU.out.drewN nq).cell (HC.out (q + j) hjd)
                    rw [show off + q + j = off + (q + j) by omega, this]
                    congr 3
                    subst hr
                    simp
                have HSl := Hid.of hsl
                have HR := Hid.of hr
                rw [← hr] at HF
                clear hsl hr
                refine wpList_appSl rfl _ _ rfl wb.heap.size _ _ [] r rfl (World.ownsRow_nil _ _ 5 1) rfl (by exact HSl.out) (by simp; omega) (Nat.le_refl _) ?_
                have HRL2 := Hid.of hrl2
                clear hrl2
                intro v3 w3 h3 k3
                rw [List.nil_append] at h3
                obtain ⟨a3, c3, rfl⟩ := h3.len
                have u3 : Up wb w3 := ((Up.refl wb).drewN nq).trans k3
                have H3 := Hid.of (And.intro h3 u3)
                have hsz := HU.out.size
                clear h3 k3 u3 HSl
                simp only [Act.put, List.setIfInBounds_toArray, List.set_cons_zero, List.set_cons_succ]
                go_wp2_with (with_reducible show wpList _ _ _ ({ dst := _, op := Op.call { callee := Callee.builtin Builtin.append, args := _, argTypes := _ }, type := _, pos := _, after := _, guard := _ } :: _) _ _; refine Shut.out ?_)
                show wpList _ _ _ _ _ _
                refine wpList_appLT (w1 := wb) (w2 := w3) rfl _ _ rfl w.heap.size _ rs (.slice a3 r.length c3) r rfl (by exact HL.out) H3.out.2 H3.out.1 1 rfl (by omega) hsz ?_
                intro v4 w4 h4 k4 _
                have H4 := Hid.of (And.intro h4 (Up.step (HU.out.trans H3.out.2) (Nat.le_refl _) k4))
                clear h4 k4
                simp only [Act.put, List.setIfInBounds_toArray, List.set_cons_zero, List.set_cons_succ]
                have HE1 : Hid (ct n d = (ct (n - (i + 1)) (d.drop z)).map ((rs ++ [r]) ++ ·)) := by
                  have := HE.out
                  rw [HX.out, HF.out] at this
                  refine this.trans ?_
                  simp only [Option.map_map]
                  congr 1
                  funext y
                  simp
                go_wp2
                go_roundg (n - (i + 1))
                case measure => omega
                case rel => exact ⟨i + 1, z, rs ++ [r], by omega, by omega, by go_num, rfl, hz2, H4.out.1, by simp [hrl], HE1.out, H4.out.2⟩
        · have hltz : ¬ (i : Int) < (n : Int) := by omega
          have hi2 : i = n := by omega
          subst hi2
          have HE2 : Hid (ct i d = if d.drop p = [] then some rs else none) := by
            have := HE.out
            rw [Nat.sub_self] at this
            refine this.trans ?_
            unfold ct
            split <;> simp
          by_cases ht0 : p = d.length
          · have hpz : ((p : Int) == (d.length : Int)) = true := by simp [ht0]
            rw [if_pos (by rw [ht0]; exact List.drop_eq_nil_of_le (Nat.le_refl _))] at HE2
            clear ht0
            go_wp2
            go_ret2
            refine ⟨HU.out, ?_⟩
            rw [if_neg HN.out, Int.toNat_natCast, HE2.out]
            exact ⟨_, rfl, HL.out⟩
          · have hpz : ((p : Int) == (d.length : Int)) = false := by simp; omega
            rw [if_neg (by rw [List.drop_eq_nil_iff]; omega)] at HE2
            go_wp2
            go_ret2
            refine ⟨HU.out, ?_⟩
            rw [if_neg HN.out, Int.toNat_natCast, HE2.out]
            rfl
end Go.Proofs.Ytngoedhddjakhaa
