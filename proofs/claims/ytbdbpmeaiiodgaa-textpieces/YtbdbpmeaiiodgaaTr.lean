import Derived.Test.YtbdbpmeaiiodgaaTq
import Derived.ProofKit
namespace Go.Proofs.Ytbdbpmeaiiodgaa
open Go.RowKit Go.Shelf TextNum
theorem joinL_take_succ {xs : List (List UInt8)} {i : Nat} (h : i < xs.length) : joinL (xs.take (i + 1)) = joinL (xs.take i) ++ xs[i] ++ [10] := by
  rw [List.take_succ_eq_append_getElem h, joinL, List.flatMap_append]
  simp only [joinL, List.flatMap_cons, List.flatMap_nil, List.append_nil, List.append_assoc]
theorem joinL_len_take (xs : List (List UInt8)) (i : Nat) : (joinL (xs.take i)).length ≤ (joinL xs).length := by
  conv => rhs; rw [← List.take_append_drop i xs, joinL, List.flatMap_append, List.length_append]
  exact Nat.le_add_right _ _
theorem mem_len {xs : List (List UInt8)} {x : List UInt8} (h : x ∈ xs) : x.length ≤ (joinL xs).length := by
  induction xs with
  | nil => cases h
  | cons y ys ih =>
    rw [joinL_cons, List.length_append, List.length_cons]
    rcases List.mem_cons.1 h with rfl | h
    · omega
    · have := ih h; omega
theorem join_count (xs : List (List UInt8)) : xs.length ≤ (joinL xs).length := by
  induction xs with
  | nil => simp [joinL]
  | cons y ys ih => rw [joinL_cons, List.length_append, List.length_cons, List.length_cons]; omega
set_option maxRecDepth 100000 in
set_option maxHeartbeats 2000000 in
theorem pieces_main (s : ByteArray) (hs : s.size ≤ 1048576) (he : s.data.toList = [] ∨ s.data.toList.getLast? = some 10) (w : World) : Calls Try.prog 3 #[.string s] w fun e w' => e = .returned (.bool true) ∧ Up w w' := by
  have hE : lnE s.data.toList = 0 := by
    unfold lnE
    rw [if_neg (by rw [← Go.Lib.size_eq]; omega), if_pos he]
  have HJ := Hid.of (And.intro (join_lines s.data.toList he) (lines_no s.data.toList))
  have hlast : s.size = 0 ∨ ∃ h : s.size - 1 < s.size, s[s.size - 1].toNat = 10 := by
    rcases he with h | h
    · left; rw [Go.Lib.size_eq, h]; rfl
    · right
      have hp : 0 < s.data.toList.length := List.length_pos_iff.2 (by intro h2; rw [h2] at h; simp at h)
      have hsz := Go.Lib.size_eq s
      refine ⟨by omega, ?_⟩
      rw [sget' s (s.size - 1) (by omega)]
      rw [List.getLast?_eq_getElem?] at h
      obtain ⟨h3, h4⟩ := List.getElem?_eq_some_iff.1 h
      have e5 : s.data.toList[s.size - 1]'(by omega) = 10 := by
        rw [← h4]
        congr 1
      rw [e5]; rfl
  have HSZ := Hid.of (Go.Lib.size_eq s)
  clear he
  go_enter Try.func3, Try.ntmps3
  go_wp2_with fail
  refine (Lines_walk s w).mono ?_
  rintro e W1 ⟨v, rfl, -, hv2, u1⟩
  have ho := hv2 hE
  rw [hE]
  dsimp only
  generalize hxs : linesOf s.data.toList = xs at *
  have HO := Hid.of (And.intro ho u1)
  have HXS := Hid.of hxs
  have HE0 := Hid.of hE
  clear ho u1 hv2 hxs hE
  obtain ⟨va, vc, rfl⟩ := HO.out.1.len
  have hnl : ¬ (1048576 : Int) < (s.size : Int) := by omega
  have hxn : xs = [] ↔ s.size = 0 := by
    have h1 := HJ.out.1
    have h2 := HSZ.out
    constructor
    · intro h; rw [h] at h1; rw [h2, ← h1]; rfl
    · intro h
      rw [h2, ← h1] at h
      have := join_count xs
      exact List.length_eq_zero_iff.1 (by omega)
  have hfit : (joinL xs).length ≤ 1048576 := by rw [HJ.out.1, ← HSZ.out]; exact hs
  have hxl : xs.length ≤ 1048576 := Nat.le_trans (join_count xs) hfit
  rcases hlast with h | ⟨hbl, h2⟩
  · obtain rfl := hxn.2 h
    obtain rfl := szero h
    clear hxn
    have hz : (⟨#[]⟩ : ByteArray).size = 0 := rfl
    simp only [List.length_nil] at HO ⊢
    have hcv : ∀ W, (convert 26 9 (.slice none 0 0)).run Try.prog W = .ok (.string ⟨#[]⟩) W := fun W => conv_sl (l := []) ⟨none, 0, rfl, Nat.le_refl _, .inl rfl⟩
    go_wp2_with fail
    go_loopw [5, 6] (fun v5 v6 wr => v5 = .slice none 0 0 ∧ v6 = .int .i64 0 ∧ wr = W1) (fun _ _ _ => 0)
    case atStart => exact ⟨rfl, rfl, rfl⟩
    case round =>
      obtain ⟨rfl, rfl, rfl⟩ := hrel
      go_wp2_with fail
      go_loopw [7] (fun v7 wq => v7 = .int .i64 0 ∧ wq = wr) (fun _ _ => 0)
      case atStart => exact ⟨rfl, rfl⟩
      case round =>
        obtain ⟨rfl, rfl⟩ := hrel
        go_wp2_with (with_reducible show wpList _ _ _ ({ dst := _, op := Op.call { callee := Callee.builtin Builtin.append, args := _, argTypes := _ }, type := _, pos := _, after := _, guard := _ } :: _) _ _; refine Shut.out ?_)
        show wpList _ _ _ _ _ _
        refine wpList_appS rfl _ _ rfl w.heap.size (.slice va 0 vc) [] [35, 35] rfl HO.out.1 rfl (by simp) HO.out.2.size ?_
        intro v3 W4 ho4 hg4 hold
        have u4' : Up w (wr.alloc (.cells #[.string ⟨#[35, 35]⟩] 9)) := HO.out.2.alloc _
        have HB4 := Hid.of (And.intro ho4 (show Up w W4 from Below.grown u4' hg4 u4'.size (fun k hk => (World.ownsRow.lt HO.out.1 k hk).1)))
        clear ho4 hg4 hold u4'
        simp only [Act.put, List.setIfInBounds_toArray, List.set_cons_zero, List.set_cons_succ]
        go_wp2_with fail
        refine (Lines_walk ⟨#[]⟩ W4).mono ?_
        rintro e W5 ⟨v9, rfl, -, hv9, u5⟩
        have ho5 := hv9 HE0.out
        rw [HE0.out]
        dsimp only
        rw [HXS.out] at ho5
        obtain ⟨a9, c9, rfl⟩ := ho5.len
        obtain ⟨g3, c3, rfl, -, hc3, -⟩ := (HB4.out.1.up u5).cell (by simp)
        have cl : W5.cell? ⟨g3, 0, none⟩ = some (.string ⟨#[35, 35]⟩) := by
          have := hc3 0 (by simp)
          simpa using this
        have HU5 := Hid.of (HB4.out.2.trans u5)
        clear hc3 u5 ho5 hv9 HB4
        simp only [List.nil_append, List.length_cons, List.length_nil, Nat.zero_add]
        go_wp2_with fail
        go_loopw [5, 11] (fun v5 v11 wq => v5 = .slice none 0 0 ∧ v11 = .int .i64 0 ∧ wq = W5) (fun _ _ _ => 0)
        case atStart => exact ⟨rfl, rfl, rfl⟩
        case round =>
          obtain ⟨rfl, rfl, rfl⟩ := hrel
          go_wp2
          go_ret
          exact ⟨rfl, HU5.out⟩
  · have hb : s.toList.isEmpty = false := eno (by omega)
    have hb2 : (s[s.size - 1].toNat : Int) = 10 := by rw [h2]; rfl
    have hb3 : (0 : Int) < (s.size : Int) := by omega
    have hne : xs ≠ [] := fun h => by have := hxn.1 h; omega
    obtain ⟨g, c, ev, hBg, -, -⟩ := HO.out.1.cell hne
    injection ev with ea _ ec
    subst ea ec
    have hgl : g < W1.heap.size := (World.ownsRow.lt HO.out.1 g rfl).2
    clear hxn h2
    go_wp2_with fail
    go_loopw [5, 6] (fun v5 v6 wr => ∃ (i : Nat) (vv : Value), v5 = vv ∧ v6 = .int .i64 (i : Int) ∧ Hid (i ≤ xs.length ∧ Own wr W1.heap.size vv (joinL (xs.take i)) ∧ Up W1 wr)) (fun _ v6 _ => xs.length - (intOf v6).toNat)
    case atStart => exact ⟨0, _, rfl, rfl, by omega, by rw [List.take_zero]; exact World.ownsRow_nil _ _ _ _, Up.refl _⟩
    case round =>
      obtain ⟨i, vv, rfl, rfl, hI⟩ := hrel
      obtain ⟨hi, hOw, hU⟩ := hI.out
      by_cases hlt : i < xs.length
      · have hlt' : (i : Int) < (xs.length : Int) := by omega
        obtain ⟨g', c', ev', -, hcell, -⟩ := (HO.out.1.up hU).cell hne
        injection ev' with ea e7 ec
        clear e7
        injection ea with ea
        injection ea with ea
        subst ea ec
        have cc := hcell i hlt
        have HN := Hid.of (And.intro (HJ.out.2 xs[i] (List.getElem_mem hlt)) (And.intro (mem_len (List.getElem_mem hlt)) (And.intro (joinL_take_succ hlt) (joinL_len_take xs (i + 1)))))
        have HA := Hid.of (And.intro hOw hU)
        clear hcell hOw hU hI
        generalize hxi : xs[i] = x at *
        generalize hji : joinL (xs.take i) = ji at *
        clear hxi hji
        go_wp2_with fail
        refine (holds_no ⟨x.toArray⟩ HN.out.1 (by rw [str_len]; have := HN.out.2.1; omega) wr).mono ?_
        rintro e w2 ⟨rfl, hw2⟩
        obtain rfl := hw2.symm
        dsimp only
        go_wp2_with (with_reducible show wpList _ _ _ ({ dst := _, op := Op.call { callee := Callee.builtin Builtin.append, args := _, argTypes := _ }, type := _, pos := _, after := _, guard := _ } :: _) _ _; refine Shut.out ?_)
        show wpList _ _ _ _ _ _
        refine wpList_apps rfl _ _ rfl W1.heap.size _ ji x rfl HA.out.1 rfl (by have h1 := HN.out.2.2.1; have h2 := HN.out.2.2.2; rw [h1] at h2; simp at h2; omega) HA.out.2.size ?_
        intro v' w3 ho3 hb3'
        have HA3 := Hid.of (And.intro ho3 (HA.out.2.step (Nat.le_refl _) hb3'))
        clear ho3 hb3' HA cc
        simp only [Act.put, List.setIfInBounds_toArray, List.set_cons_zero, List.set_cons_succ]
        obtain ⟨a3, c3, rfl⟩ := HA3.out.1.len
        go_wp2_with (with_reducible show wpList _ _ _ ({ dst := _, op := Op.call { callee := Callee.builtin Builtin.append, args := _, argTypes := _ }, type := _, pos := _, after := _, guard := _ } :: _) _ _; refine Shut.out ?_)
        show wpList _ _ _ _ _ _
        refine wpList_app1 rfl _ _ rfl W1.heap.size (.slice a3 (ji ++ x).length c3) (ji ++ x) [10] rfl HA3.out.1 1 rfl (by have h1 := HN.out.2.2.1; have h2 := HN.out.2.2.2; rw [h1] at h2; simp at h2 ⊢; omega) HA3.out.2.size ?_
        intro v4 w4 ho4 hb4
        have HA4 := Hid.of (And.intro ho4 (HA3.out.2.step (Nat.le_refl _) hb4))
        clear ho4 hb4 HA3
        simp only [Act.put, List.setIfInBounds_toArray, List.set_cons_zero, List.set_cons_succ]
        go_wp2
        go_roundw
        case rel => exact ⟨i + 1, _, rfl, by go_num, by omega, by rw [HN.out.2.2.1]; exact HA4.out.1, HA4.out.2⟩
        case measure => simp [intOf]; omega
      · have hlt' : ¬ (i : Int) < (xs.length : Int) := by omega
        rw [List.take_of_length_le (by omega)] at hOw
        have hOw' := hOw
        have hcv := conv_sl hOw'.sl
        rw [HJ.out.1] at hcv
        have HA := Hid.of (And.intro hOw' hU)
        clear hOw hOw' hU hI
        rw [show vs s.data.toList = Value.string s from rfl] at hcv
        obtain ⟨a5, c5, rfl⟩ := HA.out.1.len
        have q1 : (s.toList == s.toList) = true := by simp
        go_wp2_with fail
        clear hcv q1 hb hb2 hb3 hbl hlt
        go_loopw [7] (fun v7 wq => ∃ j : Nat, v7 = .int .i64 (j : Int) ∧ Hid (j ≤ xs.length ∧ OwnS wq w.heap.size (.slice (some ⟨g, 0, none⟩) xs.length vc) (List.replicate j [35] ++ xs.drop j) ∧ Own wq W1.heap.size (.slice a5 (joinL xs).length c5) (joinL xs) ∧ Up w wq ∧ W1.heap.size ≤ wq.heap.size)) (fun v7 _ => xs.length - (intOf v7).toNat)
        case atStart => exact ⟨0, rfl, by omega, by simpa using HO.out.1.up HA.out.2, HA.out.1, HO.out.2.trans HA.out.2, HA.out.2.size⟩
        case round =>
          obtain ⟨j, rfl, hK⟩ := hrel
          have hyl : (List.replicate j [35] ++ xs.drop j).length = xs.length := by have := hK.out.1; simp; omega
          by_cases hj : j < xs.length
          · have hj' : (j : Int) < (xs.length : Int) := by omega
            obtain ⟨g', c', ev', -, hcell, hfr⟩ := hK.out.2.1.cell (by intro h; rw [h] at hyl; simp at hyl; exact hne (List.length_eq_zero_iff.1 hyl.symm))
            injection ev' with ea e7 e8
            clear e7 e8
            injection ea with ea
            injection ea with ea
            subst ea
            obtain ⟨old, cc⟩ : ∃ old, wr.cell? ⟨g, j, none⟩ = some (.string old) := ⟨_, hcell j (by omega)⟩
            have cf := hfr j
            have HN := Hid.of (And.intro (hK.out.2.1.put2 hyl.symm j [35]) (And.intro (hK.out.2.2.1.kept' (grownBy_setCell2 wr ⟨g, j, none⟩ (.string ⟨[35].toArray⟩)) (fun r e => by injection e with e; have : g = r := e; omega)) (And.intro (Below.setCell (p := ⟨g, j, none⟩) hK.out.2.2.2.1 hBg (.string ⟨[35].toArray⟩)) (Nat.le_trans hK.out.2.2.2.2 (KeepsWalks.setCell wr ⟨g, j, none⟩ (.string ⟨[35].toArray⟩)).size))))
            rw [hash_set hj] at HN
            clear hK hcell hfr hyl
            go_wp2
            go_roundw
            case rel => exact ⟨j + 1, by go_num, by omega, HN.out.1, HN.out.2.1, HN.out.2.2.1, HN.out.2.2.2⟩
            case measure => simp [intOf]; omega
          · have hj' : ¬ (j : Int) < (xs.length : Int) := by omega
            have HB := Hid.of (show OwnS wr w.heap.size (.slice (some ⟨g, 0, none⟩) xs.length vc) (List.replicate xs.length [35]) ∧ Own wr W1.heap.size (.slice a5 (joinL xs).length c5) (joinL xs) ∧ Up w wr ∧ W1.heap.size ≤ wr.heap.size from by
              have h1 := hK.out.1
              obtain rfl : j = xs.length := by omega
              have h2 := hK.out.2
              rw [List.drop_length, List.append_nil] at h2
              exact h2)
            clear hK hyl HA
            go_wp2_with (with_reducible show wpList _ _ _ ({ dst := _, op := Op.call { callee := Callee.builtin Builtin.append, args := _, argTypes := _ }, type := _, pos := _, after := _, guard := _ } :: _) _ _; refine Shut.out ?_)
            show wpList _ _ _ _ _ _
            refine wpList_appS rfl _ _ rfl w.heap.size (.slice (some ⟨g, 0, none⟩) xs.length vc) (List.replicate xs.length [35]) [35, 35] rfl HB.out.1 rfl (by simp; omega) HB.out.2.2.1.size ?_
            intro v3 W4 ho4 hg4 hold
            have u4' : Up w (wr.alloc (.cells #[.string ⟨#[35, 35]⟩] 9)) := HB.out.2.2.1.alloc _
            have HB4 := Hid.of (show OwnS W4 w.heap.size v3 (List.replicate xs.length [35] ++ [[35, 35]]) ∧ (∀ i, i < xs.length → W4.cell? ⟨g, i, none⟩ = some (.string ⟨[35].toArray⟩)) ∧ Own W4 W1.heap.size (.slice a5 (joinL xs).length c5) (joinL xs) ∧ Up w W4 from by
              refine ⟨ho4, fun i hi => ?_, ?_, ?_⟩
              · have := hold g rfl i (by simpa using hi)
                simpa using this
              · exact (HB.out.2.1.below ((Up.refl _).alloc _)).kept' hg4 (fun r e => by
                  have h9 : g = r := by simpa [Value.ownBlock] using e
                  omega)
              · exact Below.grown u4' hg4 u4'.size (fun k hk => by
                  have : g = k := by simpa [Value.ownBlock] using hk
                  omega))
            clear ho4 hg4 hold u4' HB
            simp only [Act.put, List.setIfInBounds_toArray, List.set_cons_zero, List.set_cons_succ]
            go_wp2_with fail
            refine (Lines_walk s W4).mono ?_
            rintro e W5 ⟨v9, rfl, -, hv9, u5⟩
            have hE5 : lnE s.data.toList = 0 := HE0.out
            have ho5 := hv9 hE5
            rw [hE5]
            dsimp only
            rw [HXS.out] at ho5
            have HB5 := Hid.of (And.intro (HB4.out.1.up u5) (And.intro (fun i hi => u5.cell (HB4.out.2.1 i hi)) (And.intro (HB4.out.2.2.1.below u5) (And.intro (HB4.out.2.2.2.trans u5) ho5))))
            clear hv9 ho5 u5 HB4
            obtain ⟨g3, c3, rfl, -, hc3, -⟩ := HB5.out.1.cell (by simp)
            obtain ⟨g9, c9, rfl, -, hc9, -⟩ := HB5.out.2.2.2.2.cell hne
            have hlen3 : (List.replicate xs.length ([35] : List UInt8) ++ [[35, 35]]).length = xs.length + 1 := by simp
            rw [hlen3]
            have cl : W5.cell? ⟨g3, xs.length, none⟩ = some (.string ⟨#[35, 35]⟩) := by
              have := hc3 xs.length (by simp)
              simpa using this
            have HC := Hid.of (show (∀ i, i < xs.length → W5.cell? ⟨g3, i, none⟩ = some (.string ⟨#[35]⟩)) ∧ (∀ i (hi : i < xs.length), W5.cell? ⟨g9, i, none⟩ = some (.string ⟨xs[i].toArray⟩)) from ⟨fun i hi => by
              have := hc3 i (by simp; omega)
              rw [List.getElem_append_left (by simpa using hi)] at this
              simpa using this, hc9⟩)
            clear hc3 hc9 hlen3
            go_wp2_with fail
            clear cl
            go_loopw [5, 11] (fun v5 v11 wq => ∃ (k : Nat) (vv : Value), v5 = vv ∧ v11 = .int .i64 (k : Int) ∧ Hid (k ≤ xs.length ∧ Sl wq vv (joinL (xs.drop k)) ∧ Up W5 wq)) (fun _ v11 _ => xs.length - (intOf v11).toNat)
            case atStart => exact ⟨0, _, rfl, rfl, by omega, by rw [List.drop_zero]; exact HB5.out.2.2.1.sl, Up.refl _⟩
            case round =>
              obtain ⟨k, vv, rfl, rfl, hL⟩ := hrel
              obtain ⟨hk0, hS, hU⟩ := hL.out
              clear hL
              by_cases hk : k < xs.length
              · have hk' : (k : Int) < (xs.length : Int) := by omega
                have hk1 : (k : Int) < (xs.length : Int) + 1 := by omega
                have c1 := hU.cell (HC.out.1 k hk)
                have c2 := hU.cell (HB5.out.2.1 k hk)
                have c3' := hU.cell (HC.out.2 k hk)
                have hjd := joinL_drop hk
                have HN := Hid.of (And.intro (HJ.out.2 xs[k] (List.getElem_mem hk)) (mem_len (List.getElem_mem hk)))
                generalize xs[k] = x at *
                obtain ⟨al, ac, rfl, hle, hor⟩ := id hS
                obtain ⟨b0, off0, rfl, -, -⟩ := hor.resolve_left (by rw [hjd]; simp)
                clear hor
                rw [hjd] at hS hle ⊢
                have hxl1 : x.length ≤ 1048576 := Nat.le_trans HN.out.2 hfit
                have hlen : (x ++ [10] ++ joinL (xs.drop (k + 1))).length = x.length + 1 + (joinL (xs.drop (k + 1))).length := by simp; omega
                have st := sl_take hS (k := x.length + 1) (by omega)
                have sd := sliced_drop hS (k := x.length + 1) (by omega)
                have et : (x ++ [10] ++ joinL (xs.drop (k + 1))).take (x.length + 1) = x ++ [10] := by
                  rw [List.take_append_of_le_length (by simp), List.take_of_length_le (by simp)]
                have ed : (x ++ [10] ++ joinL (xs.drop (k + 1))).drop (x.length + 1) = joinL (xs.drop (k + 1)) := by
                  rw [List.drop_append_of_le_length (by simp), List.drop_of_length_le (by simp), List.nil_append]
                rw [et] at st
                rw [ed] at sd
                clear et ed
                rw [hlen] at hle sd ⊢
                have HS := Hid.of (And.intro st (And.intro sd hU))
                clear hS st sd hU hjd
                generalize (joinL (xs.drop (k + 1))).length = m at *
                have f1 : ¬ (((x.length + 1 + m : Nat) : Int) < (x.length : Int) + 1) := by omega
                have f2 : ((x.length : Int) + 1) ≤ (ac : Int) := by omega
                have f3 : ¬ 9223372036854775807 < x.length + 1 := by omega
                have f4 : IntKind.i64.wrap ((x.length : Int) + 1) = (x.length : Int) + 1 := by
                  simp only [IntKind.wrap, IntKind.signed, IntKind.bits]
                  simp
                  omega
                have f5 : (x.length : Int) + 1 ≤ (x.length : Int) + 1 + (m : Int) := by omega
                have f6 : ¬ ((x.length : Int) + 1 < 0) := by omega
                go_wp2_with fail
                refine (holds_no ⟨x.toArray⟩ HN.out.1 (by rw [str_len]; exact hxl1) wr).mono ?_
                rintro e w8 ⟨rfl, hw8⟩
                obtain rfl := hw8.symm
                dsimp only
                go_wp2_with fail
                refine wp_region_held_drew (S := fun w2 => w2.cell? ⟨g9, k, none⟩ = some (.string ⟨x.toArray⟩) ∧ Sl w2 (  .slice (some ⟨b0, off0, none⟩) (x.length + 1) ac) (x ++ [10])) (by kernel_rfl) ⟨c3', (HS.out.1.up ((Up.refl _).drew))⟩ (fun hS => ?_)
                refine wpAnyH_take (i := 0) (oi := { dst := some 134, op := Op.move (Operand.tmp 9), type := 22, pos := "outright.go:200", after := #[], guard := none }) (v := .slice (some ⟨g9, 0, none⟩) xs.length c9) rfl (by kernel_rfl) (by kernel_rfl) (by kernel_rfl) (fun _ _ _ h => h) (Or.inl ⟨by kernel_rfl, ?_⟩) hS ?_
                · intro w5 hSw
                  go_simp
                simp only [Act.put, List.setIfInBounds_toArray, List.set_cons_zero, List.set_cons_succ]
                refine wpAnyH_take (i := 1) (oi := { dst := some 135, op := Op.move (Operand.tmp 11), type := 3, pos := "outright.go:200", after := #[], guard := none }) (v := .int .i64 (k : Int)) rfl (by kernel_rfl) (by kernel_rfl) (by kernel_rfl) (fun _ _ _ h => h) (Or.inl ⟨by kernel_rfl, ?_⟩) hS ?_
                · intro w5 hSw
                  go_simp
                simp only [Act.put, List.setIfInBounds_toArray, List.set_cons_zero, List.set_cons_succ]
                refine wpAnyH_take (i := 2) (oi := { dst := some 136, op := Op.indexAddr 22 (Operand.tmp 134) (Operand.tmp 135), type := 0, pos := "outright.go:200", after := #[{ on := 0, ground := Ground.data }, { on := 1, ground := Ground.data }], guard := none }) (v := .pointer (some ⟨g9, k, none⟩)) rfl (by kernel_rfl) (by kernel_rfl) (by kernel_rfl) (fun _ _ _ h => h) (Or.inl ⟨by kernel_rfl, ?_⟩) hS ?_
                · intro w5 hSw
                  go_simp
                simp only [Act.put, List.setIfInBounds_toArray, List.set_cons_zero, List.set_cons_succ]
                refine wpAnyH_take (i := 3) (oi := { dst := some 137, op := Op.load 9 (Operand.tmp 136), type := 9, pos := "outright.go:200", after := #[{ on := 2, ground := Ground.data }], guard := none }) (v := .string ⟨x.toArray⟩) rfl (by kernel_rfl) (by kernel_rfl) (by kernel_rfl) (fun _ _ _ h => h) (Or.inl ⟨by kernel_rfl, ?_⟩) hS ?_
                · intro w5 hSw
                  have h5 := hSw.1
                  go_simp
                simp only [Act.put, List.setIfInBounds_toArray, List.set_cons_zero, List.set_cons_succ]
                refine wpAnyH_take (i := 4) (oi := { dst := some 138, op := Op.call { callee := Callee.builtin Builtin.len, args := #[Operand.tmp 137], argTypes := #[9] }, type := 3, pos := "outright.go:200", after := #[{ on := 3, ground := Ground.data }], guard := none }) (v := .int .i64 (x.length : Int)) rfl (by kernel_rfl) (by kernel_rfl) (by kernel_rfl) (fun _ _ _ h => h) (Or.inl ⟨by kernel_rfl, ?_⟩) hS ?_
                · intro w5 hSw
                  go_simp
                simp only [Act.put, List.setIfInBounds_toArray, List.set_cons_zero, List.set_cons_succ]
                refine wpAnyH_take (i := 5) (oi := { dst := some 139, op := Op.binOp BinOp.add 3 (Operand.tmp 138) (Operand.const (Value.int IntKind.i64 1)) 3, type := 3, pos := "outright.go:200", after := #[{ on := 4, ground := Ground.data }], guard := none }) (v := .int .i64 ((x.length : Int) + 1)) rfl (by kernel_rfl) (by kernel_rfl) (by kernel_rfl) (fun _ _ _ h => h) (Or.inl ⟨by kernel_rfl, ?_⟩) hS ?_
                · intro w5 hSw
                  go_simp
                simp only [Act.put, List.setIfInBounds_toArray, List.set_cons_zero, List.set_cons_succ]
                refine wpAnyH_take (i := 6) (oi := { dst := some 140, op := Op.move (Operand.tmp 5), type := 26, pos := "outright.go:200", after := #[], guard := none }) (v := .slice (some ⟨b0, off0, none⟩) (x.length + 1 + m) ac) rfl (by kernel_rfl) (by kernel_rfl) (by kernel_rfl) (fun _ _ _ h => h) (Or.inl ⟨by kernel_rfl, ?_⟩) hS ?_
                · intro w5 hSw
                  go_simp
                simp only [Act.put, List.setIfInBounds_toArray, List.set_cons_zero, List.set_cons_succ]
                refine wpAnyH_take (i := 7) (oi := { dst := some 141, op := Op.call { callee := Callee.builtin Builtin.len, args := #[Operand.tmp 140], argTypes := #[26] }, type := 3, pos := "outright.go:200", after := #[{ on := 6, ground := Ground.data }], guard := none }) (v := .int .i64 ((x.length + 1 + m : Nat) : Int)) rfl (by kernel_rfl) (by kernel_rfl) (by kernel_rfl) (fun _ _ _ h => h) (Or.inl ⟨by kernel_rfl, ?_⟩) hS ?_
                · intro w5 hSw
                  go_simp
                simp only [Act.put, List.setIfInBounds_toArray, List.set_cons_zero, List.set_cons_succ]
                refine wpAnyH_take (i := 8) (oi := { dst := some 142, op := Op.binOp BinOp.gtr 3 (Operand.tmp 139) (Operand.tmp 141) 3, type := 4, pos := "outright.go:200", after := #[{ on := 5, ground := Ground.data }, { on := 7, ground := Ground.data }], guard := none }) (v := .bool false) rfl (by kernel_rfl) (by kernel_rfl) (by kernel_rfl) (fun _ _ _ h => h) (Or.inl ⟨by kernel_rfl, ?_⟩) hS ?_
                · intro w5 hSw
                  go_simp
                simp only [Act.put, List.setIfInBounds_toArray, List.set_cons_zero, List.set_cons_succ]
                refine wpAnyH_take (i := 9) (oi := { dst := some 143, op := Op.move (Operand.tmp 142), type := 4, pos := "outright.go:200", after := #[{ on := 8, ground := Ground.data }], guard := none }) (v := .bool false) rfl (by kernel_rfl) (by kernel_rfl) (by kernel_rfl) (fun _ _ _ h => h) (Or.inl ⟨by kernel_rfl, ?_⟩) hS ?_
                · intro w5 hSw
                  go_simp
                simp only [Act.put, List.setIfInBounds_toArray, List.set_cons_zero, List.set_cons_succ]
                refine wpAnyH_take (i := 10) (oi := { dst := some 144, op := Op.move (Operand.tmp 5), type := 26, pos := "outright.go:200", after := #[{ on := 9, ground := Ground.guard }], guard := some (9, false) }) (v := .slice (some ⟨b0, off0, none⟩) (x.length + 1 + m) ac) rfl (by kernel_rfl) (by kernel_rfl) (by kernel_rfl) (fun _ _ _ h => h) (Or.inl ⟨by kernel_rfl, ?_⟩) hS ?_
                · intro w5 hSw
                  go_simp
                simp only [Act.put, List.setIfInBounds_toArray, List.set_cons_zero, List.set_cons_succ]
                refine wpAnyH_take (i := 11) (oi := { dst := some 145, op := Op.move (Operand.tmp 9), type := 22, pos := "outright.go:200", after := #[{ on := 9, ground := Ground.guard }], guard := some (9, false) }) (v := .slice (some ⟨g9, 0, none⟩) xs.length c9) rfl (by kernel_rfl) (by kernel_rfl) (by kernel_rfl) (fun _ _ _ h => h) (Or.inl ⟨by kernel_rfl, ?_⟩) hS ?_
                · intro w5 hSw
                  go_simp
                simp only [Act.put, List.setIfInBounds_toArray, List.set_cons_zero, List.set_cons_succ]
                refine wpAnyH_take (i := 12) (oi := { dst := some 146, op := Op.move (Operand.tmp 11), type := 3, pos := "outright.go:200", after := #[{ on := 9, ground := Ground.guard }], guard := some (9, false) }) (v := .int .i64 (k : Int)) rfl (by kernel_rfl) (by kernel_rfl) (by kernel_rfl) (fun _ _ _ h => h) (Or.inl ⟨by kernel_rfl, ?_⟩) hS ?_
                · intro w5 hSw
                  go_simp
                simp only [Act.put, List.setIfInBounds_toArray, List.set_cons_zero, List.set_cons_succ]
                refine wpAnyH_take (i := 13) (oi := { dst := some 147, op := Op.indexAddr 22 (Operand.tmp 145) (Operand.tmp 146), type := 0, pos := "outright.go:200", after := #[{ on := 11, ground := Ground.data }, { on := 12, ground := Ground.data }, { on := 9, ground := Ground.guard }], guard := some (9, false) }) (v := .pointer (some ⟨g9, k, none⟩)) rfl (by kernel_rfl) (by kernel_rfl) (by kernel_rfl) (fun _ _ _ h => h) (Or.inl ⟨by kernel_rfl, ?_⟩) hS ?_
                · intro w5 hSw
                  go_simp
                simp only [Act.put, List.setIfInBounds_toArray, List.set_cons_zero, List.set_cons_succ]
                refine wpAnyH_take (i := 14) (oi := { dst := some 148, op := Op.load 9 (Operand.tmp 147), type := 9, pos := "outright.go:200", after := #[{ on := 13, ground := Ground.data }, { on := 9, ground := Ground.guard }], guard := some (9, false) }) (v := .string ⟨x.toArray⟩) rfl (by kernel_rfl) (by kernel_rfl) (by kernel_rfl) (fun _ _ _ h => h) (Or.inl ⟨by kernel_rfl, ?_⟩) hS ?_
                · intro w5 hSw
                  have h5 := hSw.1
                  go_simp
                simp only [Act.put, List.setIfInBounds_toArray, List.set_cons_zero, List.set_cons_succ]
                refine wpAnyH_take (i := 15) (oi := { dst := some 149, op := Op.call { callee := Callee.builtin Builtin.len, args := #[Operand.tmp 148], argTypes := #[9] }, type := 3, pos := "outright.go:200", after := #[{ on := 14, ground := Ground.data }, { on := 9, ground := Ground.guard }], guard := some (9, false) }) (v := .int .i64 (x.length : Int)) rfl (by kernel_rfl) (by kernel_rfl) (by kernel_rfl) (fun _ _ _ h => h) (Or.inl ⟨by kernel_rfl, ?_⟩) hS ?_
                · intro w5 hSw
                  go_simp
                simp only [Act.put, List.setIfInBounds_toArray, List.set_cons_zero, List.set_cons_succ]
                refine wpAnyH_take (i := 16) (oi := { dst := some 150, op := Op.binOp BinOp.add 3 (Operand.tmp 149) (Operand.const (Value.int IntKind.i64 1)) 3, type := 3, pos := "outright.go:200", after := #[{ on := 15, ground := Ground.data }, { on := 9, ground := Ground.guard }], guard := some (9, false) }) (v := .int .i64 ((x.length : Int) + 1)) rfl (by kernel_rfl) (by kernel_rfl) (by kernel_rfl) (fun _ _ _ h => h) (Or.inl ⟨by kernel_rfl, ?_⟩) hS ?_
                · intro w5 hSw
                  go_simp
                simp only [Act.put, List.setIfInBounds_toArray, List.set_cons_zero, List.set_cons_succ]
                refine wpAnyH_take (i := 17) (oi := { dst := some 151, op := Op.slice 26 (Operand.tmp 144) none (some (Operand.tmp 150)) none, type := 26, pos := "outright.go:200", after := #[{ on := 10, ground := Ground.data }, { on := 16, ground := Ground.data }, { on := 9, ground := Ground.guard }], guard := some (9, false) }) (v := .slice (some ⟨b0, off0, none⟩) (x.length + 1) ac) rfl (by kernel_rfl) (by kernel_rfl) (by kernel_rfl) (fun _ _ _ h => h) (Or.inl ⟨by kernel_rfl, ?_⟩) hS ?_
                · intro w5 hSw
                  go_simp
                simp only [Act.put, List.setIfInBounds_toArray, List.set_cons_zero, List.set_cons_succ]
                refine wpAnyH_take (i := 18) (oi := { dst := some 152, op := Op.convert 26 9 (Operand.tmp 151), type := 9, pos := "outright.go:200", after := #[{ on := 17, ground := Ground.data }, { on := 9, ground := Ground.guard }], guard := some (9, false) }) (v := vs (x ++ [10])) rfl (by kernel_rfl) (by kernel_rfl) (by kernel_rfl) (fun _ _ _ h => h) (Or.inl ⟨by kernel_rfl, ?_⟩) hS ?_
                · intro w5 hSw
                  have h5 := conv_sl hSw.2
                  go_simp
                simp only [Act.put, List.setIfInBounds_toArray, List.set_cons_zero, List.set_cons_succ]
                refine wpAnyH_take (i := 19) (oi := { dst := some 153, op := Op.move (Operand.tmp 9), type := 22, pos := "outright.go:200", after := #[{ on := 9, ground := Ground.guard }], guard := some (9, false) }) (v := .slice (some ⟨g9, 0, none⟩) xs.length c9) rfl (by kernel_rfl) (by kernel_rfl) (by kernel_rfl) (fun _ _ _ h => h) (Or.inl ⟨by kernel_rfl, ?_⟩) hS ?_
                · intro w5 hSw
                  go_simp
                simp only [Act.put, List.setIfInBounds_toArray, List.set_cons_zero, List.set_cons_succ]
                refine wpAnyH_take (i := 20) (oi := { dst := some 154, op := Op.move (Operand.tmp 11), type := 3, pos := "outright.go:200", after := #[{ on := 9, ground := Ground.guard }], guard := some (9, false) }) (v := .int .i64 (k : Int)) rfl (by kernel_rfl) (by kernel_rfl) (by kernel_rfl) (fun _ _ _ h => h) (Or.inl ⟨by kernel_rfl, ?_⟩) hS ?_
                · intro w5 hSw
                  go_simp
                simp only [Act.put, List.setIfInBounds_toArray, List.set_cons_zero, List.set_cons_succ]
                refine wpAnyH_take (i := 21) (oi := { dst := some 155, op := Op.indexAddr 22 (Operand.tmp 153) (Operand.tmp 154), type := 0, pos := "outright.go:200", after := #[{ on := 19, ground := Ground.data }, { on := 20, ground := Ground.data }, { on := 9, ground := Ground.guard }], guard := some (9, false) }) (v := .pointer (some ⟨g9, k, none⟩)) rfl (by kernel_rfl) (by kernel_rfl) (by kernel_rfl) (fun _ _ _ h => h) (Or.inl ⟨by kernel_rfl, ?_⟩) hS ?_
                · intro w5 hSw
                  go_simp
                simp only [Act.put, List.setIfInBounds_toArray, List.set_cons_zero, List.set_cons_succ]
                refine wpAnyH_take (i := 22) (oi := { dst := some 156, op := Op.load 9 (Operand.tmp 155), type := 9, pos := "outright.go:200", after := #[{ on := 21, ground := Ground.data }, { on := 9, ground := Ground.guard }], guard := some (9, false) }) (v := .string ⟨x.toArray⟩) rfl (by kernel_rfl) (by kernel_rfl) (by kernel_rfl) (fun _ _ _ h => h) (Or.inl ⟨by kernel_rfl, ?_⟩) hS ?_
                · intro w5 hSw
                  have h5 := hSw.1
                  go_simp
                simp only [Act.put, List.setIfInBounds_toArray, List.set_cons_zero, List.set_cons_succ]
                refine wpAnyH_take (i := 23) (oi := { dst := some 157, op := Op.binOp BinOp.add 9 (Operand.tmp 156) (Operand.const (Value.string { data := #[10] })) 9, type := 9, pos := "outright.go:200", after := #[{ on := 22, ground := Ground.data }, { on := 9, ground := Ground.guard }], guard := some (9, false) }) (v := .string (⟨x.toArray⟩ ++ ⟨#[10]⟩)) rfl (by kernel_rfl) (by kernel_rfl) (by kernel_rfl) (fun _ _ _ h => h) (Or.inl ⟨by kernel_rfl, ?_⟩) hS ?_
                · intro w5 hSw
                  go_simp
                simp only [Act.put, List.setIfInBounds_toArray, List.set_cons_zero, List.set_cons_succ]
                refine wpAnyH_take (i := 24) (oi := { dst := some 158, op := Op.binOp BinOp.neq 9 (Operand.tmp 152) (Operand.tmp 157) 9, type := 4, pos := "outright.go:200", after := #[{ on := 18, ground := Ground.data }, { on := 23, ground := Ground.data }, { on := 9, ground := Ground.guard }], guard := some (9, false) }) (v := .bool false) rfl (by kernel_rfl) (by kernel_rfl) (by kernel_rfl) (fun _ _ _ h => h) (Or.inl ⟨by kernel_rfl, ?_⟩) hS ?_
                · intro w5 hSw
                  go_simp
                  rw [Go.Lib.toList_data]
                  simp [ByteArray.data_append]
                simp only [Act.put, List.setIfInBounds_toArray, List.set_cons_zero, List.set_cons_succ]
                refine wpAnyH_take (i := 25) (oi := { dst := some 159, op := Op.pick (Operand.tmp 143) (Operand.const (Value.bool true)) (Operand.tmp 158), type := 4, pos := "outright.go:200", after := #[{ on := 9, ground := Ground.data }, { on := 24, ground := Ground.data }], guard := none }) (v := .bool false) rfl (by kernel_rfl) (by kernel_rfl) (by kernel_rfl) (fun _ _ _ h => h) (Or.inl ⟨by kernel_rfl, ?_⟩) hS ?_
                · intro w5 hSw
                  go_simp
                simp only [Act.put, List.setIfInBounds_toArray, List.set_cons_zero, List.set_cons_succ]
                refine wpAnyH_done (by kernel_rfl) ?_ _
                clear hS
                go_wp2
                go_roundw
                case rel => exact ⟨k + 1, _, rfl, by go_num, by omega, by have h := HS.out.2.1.up ((Up.refl _).drew); simpa [sliced, add_plain] using h, HS.out.2.2.drew⟩
                case measure => simp [intOf]; omega
              · have hk' : ¬ (k : Int) < (xs.length : Int) := by omega
                obtain ⟨al, ac, rfl, hle, _⟩ := id hS
                have h0 : (joinL (xs.drop k)).length = 0 := by rw [List.drop_of_length_le (by omega)]; rfl
                rw [h0] at hle ⊢
                have HU := Hid.of (HB5.out.2.2.2.1.trans hU)
                clear hS hU
                go_wp2
                go_ret
                exact ⟨rfl, HU.out⟩
end Go.Proofs.Ytbdbpmeaiiodgaa
