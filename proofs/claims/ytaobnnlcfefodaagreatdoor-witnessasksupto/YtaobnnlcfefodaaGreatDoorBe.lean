import Derived.Test.YtaobnnlcfefodaaGreatDoorBl
namespace Go.Proofs.YtaobnnlcfefodaaGreatDoor
open Go.RowKit TextNum

def bn : List UInt8 → Nat
  | [] => 0
  | [x] => x.toNat * 65536
  | [x, y] => x.toNat * 65536 + y.toNat * 256
  | x :: y :: z :: _ => x.toNat * 65536 + y.toNat * 256 + z.toNat
theorem bn_lt (g : List UInt8) : bn g < 16777216 := by
  match g with
  | [] => decide
  | [x] => have := x.toNat_lt; simp only [bn]; omega
  | [x, y] => have := x.toNat_lt; have := y.toNat_lt; simp only [bn]; omega
  | x :: y :: z :: _ => have := x.toNat_lt; have := y.toNat_lt; have := z.toNat_lt; simp only [bn]; omega
def gl (g : List UInt8) (i : Nat) : UInt8 := if i ≤ g.length then lt (bn g / 2 ^ (18 - 6 * i) % 64) else 61
theorem gl_all (g : List UInt8) (h1 : 1 ≤ g.length) (h3 : g.length ≤ 3) : b64E g = [gl g 0, gl g 1, gl g 2, gl g 3] := by
  match g, h1, h3 with
  | [x], _, _ =>
    have hx := x.toNat_lt
    simp only [b64E, g1, gl, bn, List.length_cons, List.length_nil]
    simp only [show (0 : Nat) ≤ 0 + 1 from by decide, show (1 : Nat) ≤ 0 + 1 from by decide, show ¬ (2 : Nat) ≤ 0 + 1 from by decide, show ¬ (3 : Nat) ≤ 0 + 1 from by decide, if_true, if_false]
    rw [show x.toNat * 65536 / 2 ^ (18 - 6 * 0) % 64 = x.toNat / 4 from by simp; omega, show x.toNat * 65536 / 2 ^ (18 - 6 * 1) % 64 = x.toNat % 4 * 16 from by simp; omega]
  | [x, y], _, _ =>
    have hx := x.toNat_lt
    have hy := y.toNat_lt
    simp only [b64E, g2, gl, bn, List.length_cons, List.length_nil]
    simp only [show (0 : Nat) ≤ 0 + 1 + 1 from by decide, show (1 : Nat) ≤ 0 + 1 + 1 from by decide, show (2 : Nat) ≤ 0 + 1 + 1 from by decide, show ¬ (3 : Nat) ≤ 0 + 1 + 1 from by decide, if_true, if_false]
    rw [show (x.toNat * 65536 + y.toNat * 256) / 2 ^ (18 - 6 * 0) % 64 = x.toNat / 4 from by simp; omega, show (x.toNat * 65536 + y.toNat * 256) / 2 ^ (18 - 6 * 1) % 64 = x.toNat % 4 * 16 + y.toNat / 16 from by simp; omega,
      show (x.toNat * 65536 + y.toNat * 256) / 2 ^ (18 - 6 * 2) % 64 = y.toNat % 16 * 4 from by simp; omega]
  | [x, y, z], _, _ =>
    have hx := x.toNat_lt
    have hy := y.toNat_lt
    have hz := z.toNat_lt
    simp only [b64E, g3, gl, bn, List.length_cons, List.length_nil, List.append_nil]
    simp only [show (0 : Nat) ≤ 0 + 1 + 1 + 1 from by decide, show (1 : Nat) ≤ 0 + 1 + 1 + 1 from by decide, show (2 : Nat) ≤ 0 + 1 + 1 + 1 from by decide, show (3 : Nat) ≤ 0 + 1 + 1 + 1 from by decide, if_true]
    rw [show (x.toNat * 65536 + y.toNat * 256 + z.toNat) / 2 ^ (18 - 6 * 0) % 64 = x.toNat / 4 from by simp; omega, show (x.toNat * 65536 + y.toNat * 256 + z.toNat) / 2 ^ (18 - 6 * 1) % 64 = x.toNat % 4 * 16 + y.toNat / 16 from by simp; omega,
      show (x.toNat * 65536 + y.toNat * 256 + z.toNat) / 2 ^ (18 - 6 * 2) % 64 = y.toNat % 16 * 4 + z.toNat / 64 from by simp; omega, show (x.toNat * 65536 + y.toNat * 256 + z.toNat) / 2 ^ (18 - 6 * 3) % 64 = z.toNat % 64 from by simp; omega]
/-- one more byte of the group -/
theorem bn_step (g : List UInt8) (i : Nat) (hi : i < g.length) (h3 : g.length ≤ 3) :
    bn (g.take (i + 1)) = bn (g.take i) + g[i].toNat * 2 ^ (16 - 8 * i) ∧ bn (g.take i) % 2 ^ (24 - 8 * i) = 0 := by
  match g, i, hi, h3 with
  | x :: r, 0, _, _ => exact ⟨by cases r <;> simp [bn], by simp [bn]⟩
  | x :: y :: r, 1, _, _ => exact ⟨by cases r <;> simp [bn], by simp [bn]⟩
  | x :: y :: z :: r, 2, _, _ => exact ⟨by cases r <;> simp [bn], by simp [bn]; omega⟩
  | _, (n + 3), h, h3 => exact absurd h (by omega)

set_option maxRecDepth 100000 in
set_option maxHeartbeats 1000000 in
theorem appendGroup_walk (B : Nat) (v gv : Value) (l g : List UInt8) (h1 : 1 ≤ g.length) (h3 : g.length ≤ 3) (w : World) (hT : TabL w) (hLB : 0 < B) (hown : Own w B v l) (hG : Sl w gv g) (hn : l.length + 4 ≤ 140737488355328) (hB : B ≤ w.heap.size) :
    Calls Tryz.prog 35 #[v, gv] w fun e w' => ∃ v', e = .returned v' ∧ Own w' B v' (l ++ b64E g) ∧ Below B w w' := by
  obtain ⟨ga, gc, rfl, _, hG⟩ := hG
  rcases hG with hG | ⟨b, off, rfl, hb, hc⟩
  · subst hG; simp at h1
  have HO := Hid.of (And.intro hown (And.intro hn (And.intro hB (And.intro hT hLB))))
  have HC := Hid.of hc
  have HE := Hid.of (gl_all g h1 h3)
  clear hown hn hB hT hc hLB
  go_enter Tryz.func35, Tryz.ntmps35
  go_wp2
  go_loop [5, 11] (fun v5 v11 => ∃ i : Nat, v11 = .int .i64 (i : Int) ∧ i ≤ g.length ∧ v5 = .int .u32 (bn (g.take i) : Int)) (fun _ v11 => g.length - (intOf v11).toNat)
  case atStart => exact ⟨0, rfl, by omega, rfl⟩
  case round =>
    obtain ⟨i, rfl, hi, rfl⟩ := hrel
    by_cases hlt : i < g.length
    · have hlt' : (i : Int) < (g.length : Int) := by omega
      have c1 := HC.out i hlt
      obtain ⟨e1, e2⟩ := bn_step g i hlt h3
      have hx : g[i].toNat < 256 := g[i].toNat_lt
      have ha := bn_lt (g.take i)
      generalize g[i].toNat = x at *
      generalize bn (g.take i) = a at *
      generalize hbn : bn (g.take (i + 1)) = a' at *
      have HBN := Hid.of hbn
      clear hbn
      have hc3 : i = 0 ∨ i = 1 ∨ i = 2 := by omega
      rcases hc3 with rfl | rfl | rfl
      · rw [Nat.add_zero] at c1
        have ho := or32 a (x * 65536) 24 (by simpa using e2) (by omega) (by omega) (by omega)
        have e3 : Go.bits .or .u32 (a : Int) ((x : Int) * 65536) = (a' : Int) := by rw [e1]; simpa using ho
        clear e1 e2 ho
        go_wp2
        go_round
        case rel => exact ⟨1, by go_num, by omega, by rw [HBN.out]⟩
        case measure => simp [intOf]; omega
      · have ho := or32 a (x * 256) 16 (by simpa using e2) (by omega) (by omega) (by omega)
        have e3 : Go.bits .or .u32 (a : Int) ((x : Int) * 256) = (a' : Int) := by rw [e1]; simpa using ho
        clear e1 e2 ho
        go_wp2
        go_round
        case rel => exact ⟨2, by go_num, by omega, by rw [HBN.out]⟩
        case measure => simp [intOf]; omega
      · have ho := or32 a x 8 (by simpa using e2) (by omega) (by omega) (by omega)
        have e3 : Go.bits .or .u32 (a : Int) (x : Int) = (a' : Int) := by rw [e1]; simpa using ho
        clear e1 e2 ho
        go_wp2
        go_round
        case rel => exact ⟨3, by go_num, by omega, by rw [HBN.out]⟩
        case measure => simp [intOf]; omega
    · obtain rfl : i = g.length := by omega
      rw [List.take_length]
      go_wp2
      go_loopw [0, 25] (fun v0 v25 wr => ∃ i : Nat, v25 = .int .i64 (i : Int) ∧ i ≤ 4 ∧ Hid (Own wr B v0 (l ++ (List.range i).map (gl g)) ∧ Below B w wr)) (fun _ v25 _ => 4 - (intOf v25).toNat)
      case atStart => exact ⟨0, rfl, by decide, by simpa using HO.out.1, Below.refl _ _⟩
      case round =>
        obtain ⟨i, rfl, hi4, hI⟩ := hrel
        by_cases hlt4 : i < 4
        · have hlt4' : (i : Int) < 4 := by omega
          have HN := Hid.of (show (l ++ (List.range i).map (gl g)).length + 1 ≤ 140737488355328 by have := HO.out.2.1; simp; omega)
          have hS : l ++ (List.range (i + 1)).map (gl g) = (l ++ (List.range i).map (gl g)) ++ [gl g i] := by rw [List.range_succ]; simp
          have HSs := Hid.of hS
          clear hS
          by_cases hgt : g.length < i
          · have hgt' : (g.length : Int) < (i : Int) := by omega
            have HG := Hid.of (show gl g i = 61 from if_neg (by omega))
            go_wp2_with (with_reducible show wpList _ _ _ ({ dst := _, op := Op.call { callee := Callee.builtin Builtin.append, args := _, argTypes := _ }, type := _, pos := _, after := _, guard := _ } :: _) _ _; refine Shut.out ?_)
            show wpList _ _ _ _ _ _
            refine wpList_app1 rfl _ _ rfl B _ (l ++ (List.range i).map (gl g)) [61] rfl (by exact hI.out.1) 1 rfl HN.out (Nat.le_trans HO.out.2.2.1 hI.out.2.size) ?_
            intro v4 w4 h4 b4
            simp only [Act.put, List.setIfInBounds_toArray, List.set_cons_zero, List.set_cons_succ]
            have H4 := Hid.of (And.intro h4 (hI.out.2.trans b4))
            clear h4 b4
            go_wp2
            go_roundw
            case rel => exact ⟨i + 1, by go_num, by omega, by rw [HSs.out, HG.out]; exact H4.out.1, H4.out.2⟩
            case measure => simp [intOf]; omega
          · have hgt' : (i : Int) ≤ (g.length : Int) := by omega
            have HG := Hid.of (show gl g i = lt (bn g / 2 ^ (18 - 6 * i) % 64) from if_pos (by omega))
            have ha := bn_lt g
            obtain ⟨q, hq⟩ : ∃ q, q = bn g / 2 ^ (18 - 6 * i) % 64 := ⟨_, rfl⟩
            have hq64 : q < 64 := by rw [hq]; exact Nat.mod_lt _ (by decide)
            have c2 : wr.cell? ⟨0, q, none⟩ = some (.int .u8 ((lt q).toNat : Int)) := by
              rw [Below.cell hI.out.2 (p := ⟨0, q, none⟩) HO.out.2.2.2.2]; exact HO.out.2.2.2.1 q hq64
            have hm := and32 (bn g / 2 ^ (18 - 6 * i)) 6 (by decide) (Nat.lt_of_le_of_lt (Nat.div_le_self _ _) (by omega))
            have HQ := Hid.of hq
            rw [← hq] at HG
            have hq' : (q : Int) < 64 := by omega
            generalize bn g = a at *
            have hc4 : i = 0 ∨ i = 1 ∨ i = 2 ∨ i = 3 := by omega
            rcases hc4 with rfl | rfl | rfl | rfl
            · have e4 : Go.bits .and .u32 ((a : Int) / 262144) 63 = (q : Int) := by rw [hq]; simpa using hm
              clear hm hq
              go_wp2_with (with_reducible show wpList _ _ _ ({ dst := _, op := Op.call { callee := Callee.builtin Builtin.append, args := _, argTypes := _ }, type := _, pos := _, after := _, guard := _ } :: _) _ _; refine Shut.out ?_)
              show wpList _ _ _ _ _ _
              refine wpList_app1 rfl _ _ rfl B _ (l ++ (List.range 0).map (gl g)) [lt q] rfl (by exact hI.out.1) 1 rfl HN.out (Nat.le_trans HO.out.2.2.1 hI.out.2.size) ?_
              intro v4 w4 h4 b4
              simp only [Act.put, List.setIfInBounds_toArray, List.set_cons_zero, List.set_cons_succ]
              have H4 := Hid.of (And.intro h4 (hI.out.2.trans b4))
              clear h4 b4
              go_wp2
              go_roundw
              case rel => exact ⟨1, by go_num, by omega, by rw [HSs.out, HG.out]; exact H4.out.1, H4.out.2⟩
              case measure => simp [intOf]
            · have e4 : Go.bits .and .u32 ((a : Int) / 4096) 63 = (q : Int) := by rw [hq]; simpa using hm
              clear hm hq
              go_wp2_with (with_reducible show wpList _ _ _ ({ dst := _, op := Op.call { callee := Callee.builtin Builtin.append, args := _, argTypes := _ }, type := _, pos := _, after := _, guard := _ } :: _) _ _; refine Shut.out ?_)
              show wpList _ _ _ _ _ _
              refine wpList_app1 rfl _ _ rfl B _ (l ++ (List.range 1).map (gl g)) [lt q] rfl (by exact hI.out.1) 1 rfl HN.out (Nat.le_trans HO.out.2.2.1 hI.out.2.size) ?_
              intro v4 w4 h4 b4
              simp only [Act.put, List.setIfInBounds_toArray, List.set_cons_zero, List.set_cons_succ]
              have H4 := Hid.of (And.intro h4 (hI.out.2.trans b4))
              clear h4 b4
              go_wp2
              go_roundw
              case rel => exact ⟨2, by go_num, by omega, by rw [HSs.out, HG.out]; exact H4.out.1, H4.out.2⟩
              case measure => simp [intOf]
            · have e4 : Go.bits .and .u32 ((a : Int) / 64) 63 = (q : Int) := by rw [hq]; simpa using hm
              clear hm hq
              go_wp2_with (with_reducible show wpList _ _ _ ({ dst := _, op := Op.call { callee := Callee.builtin Builtin.append, args := _, argTypes := _ }, type := _, pos := _, after := _, guard := _ } :: _) _ _; refine Shut.out ?_)
              show wpList _ _ _ _ _ _
              refine wpList_app1 rfl _ _ rfl B _ (l ++ (List.range 2).map (gl g)) [lt q] rfl (by exact hI.out.1) 1 rfl HN.out (Nat.le_trans HO.out.2.2.1 hI.out.2.size) ?_
              intro v4 w4 h4 b4
              simp only [Act.put, List.setIfInBounds_toArray, List.set_cons_zero, List.set_cons_succ]
              have H4 := Hid.of (And.intro h4 (hI.out.2.trans b4))
              clear h4 b4
              go_wp2
              go_roundw
              case rel => exact ⟨3, by go_num, by omega, by rw [HSs.out, HG.out]; exact H4.out.1, H4.out.2⟩
              case measure => simp [intOf]
            · have e4 : Go.bits .and .u32 (a : Int) 63 = (q : Int) := by rw [hq]; simpa using hm
              clear hm hq
              go_wp2_with (with_reducible show wpList _ _ _ ({ dst := _, op := Op.call { callee := Callee.builtin Builtin.append, args := _, argTypes := _ }, type := _, pos := _, after := _, guard := _ } :: _) _ _; refine Shut.out ?_)
              show wpList _ _ _ _ _ _
              refine wpList_app1 rfl _ _ rfl B _ (l ++ (List.range 3).map (gl g)) [lt q] rfl (by exact hI.out.1) 1 rfl HN.out (Nat.le_trans HO.out.2.2.1 hI.out.2.size) ?_
              intro v4 w4 h4 b4
              simp only [Act.put, List.setIfInBounds_toArray, List.set_cons_zero, List.set_cons_succ]
              have H4 := Hid.of (And.intro h4 (hI.out.2.trans b4))
              clear h4 b4
              go_wp2
              go_roundw
              case rel => exact ⟨4, by go_num, by omega, by rw [HSs.out, HG.out]; exact H4.out.1, H4.out.2⟩
              case measure => simp [intOf]
        · obtain rfl : i = 4 := by omega
          have HF := Hid.of (show l ++ (List.range 4).map (gl g) = l ++ b64E g by rw [HE.out]; rfl)
          rw [HF.out] at hI
          go_wp2
          go_ret
          exact ⟨_, rfl, hI.out.1, hI.out.2⟩
end Go.Proofs.YtaobnnlcfefodaaGreatDoor
