import Derived.Test.YtdlfkdehfenemaaJb
namespace Go.Proofs.Ytdlfkdehfenemaa
open Go.RowKit Go.Conc TextNum
theorem infoSsb : (Try.prog.info? 145).map (fun i => (i.zero, i.size, i.bytes)) = some (some (.slice none 0 0), 1, 24) := by kernel_rfl
theorem infoBool : (Try.prog.info? 4).map (fun i => (i.zero, i.size, i.bytes)) = some (some (.bool false), 1, 1) := by kernel_rfl
/-- the document's net with its first lanes -/
structure RK (w wr : World) (nb : Nat) (fv wv sv : Value) (fs : List (Int × Int)) (i : Nat) : Prop where
  bx : At wr nb 114 [.int .i64 0, fv, .int .i64 0, wv, sv, .slice none 0 0]
  fr : wr.ownsRow w.heap.size 97 2 fv fs.length (fs.flatMap fc)
  wo : wr.ownsRow w.heap.size 145 1 wv i (List.replicate i (.slice none 0 0))
  so : wr.ownsRow w.heap.size 4 1 sv i (List.replicate i (.bool false))
  up : Up w wr
theorem row_any {w : World} {B n m : Nat} {e : TypeId} {v : Value} {xs : List Value} (h : w.ownsRow B e m v n xs) : ∃ a k c, v = .slice a k c := by
  rcases h.2 with ⟨rfl, _⟩ | ⟨g, cap, cur, rfl, _⟩
  · exact ⟨_, _, _, rfl⟩
  · exact ⟨_, _, _, rfl⟩
theorem off_block {w : World} {B n m b : Nat} {e t : TypeId} {v : Value} {xs cs : List Value} (h : w.ownsRow B e m v n xs) (k : At w b t cs) (ht : e ≠ t) : v.ownBlock = none ∨ v.ownBlock ≠ some b := .inr (own_ne h k ht)
set_option maxRecDepth 100000 in
set_option maxHeartbeats 4000000 in
theorem RNew_walk (w : World) (z : Nat) (v : Value) (fs : List (Int × Int)) (hz1 : 1 ≤ z) (hz2 : z ≤ 64) (h : FR w v fs) :
    Calls Try.prog 33 #[.int .i64 (z : Int), v] w fun e w' => Up w w' ∧ ((fateE fs ≠ 0 ∧ e = .returned (.tuple #[.pointer none, .int .i64 (fateE fs)])) ∨ (fateE fs = 0 ∧ ∃ nb fv wv sv, e = .returned (.tuple #[.pointer (some ⟨nb, 0, none⟩), .int .i64 0]) ∧ w.heap.size ≤ nb ∧ RK w w' nb fv wv sv fs z)) := by
  obtain ⟨ib, iba, ibb, ibc, ibd⟩ := info_parts infoRFate
  obtain ⟨is, isa, isb, isc, isd⟩ := info_parts infoSsb
  obtain ⟨io, ioa, iob, ioc, iod⟩ := info_parts infoBool
  obtain ⟨a, c, rfl, hc, hcell⟩ := h
  have HC := Hid.of hcell
  have hz1z : ¬ (z : Int) < 1 := by omega
  have hz2z : ¬ (64 : Int) < (z : Int) := by omega
  obtain ⟨n, hn⟩ : ∃ n, fs.length = n := ⟨_, rfl⟩
  have HNN := Hid.of (And.intro hn trivial)
  rw [hn] at hc ⊢
  clear hcell hn
  by_cases h65 : 65536 < n
  · have h65z : (65536 : Int) < (n : Int) := by omega
    have HE := Hid.of (show fateE fs = 2 by unfold fateE; rw [if_pos (by rw [HNN.out.1]; exact h65)])
    clear h65
    go_enter Try.func33, Try.ntmps33
    go_wp2
    go_ret2
    refine ⟨Up.refl _, .inl ?_⟩
    rw [HE.out]
    exact ⟨by decide, rfl⟩
  · have h65z : ¬ (65536 : Int) < (n : Int) := by omega
    have HB0 := Hid.of (at_new w 114 [.int .i64 0, .slice none 0 0, .int .i64 0, .slice none 0 0, .slice none 0 0, .slice none 0 0])
    have HU0 := Hid.of ((Up.refl w).alloc (.cells #[.int .i64 0, .slice none 0 0, .int .i64 0, .slice none 0 0, .slice none 0 0, .slice none 0 0] 114))
    go_enter Try.func33, Try.ntmps33
    go_wp2
    generalize w.alloc (.cells #[.int .i64 0, .slice none 0 0, .int .i64 0, .slice none 0 0, .slice none 0 0, .slice none 0 0] 114) = W0 at *
    generalize hb0 : w.heap.size = nb at *
    go_loopw [7, 8] (fun v7 _ wr => ∃ j : Nat, v7 = .int .i64 (j : Int) ∧ j ≤ n ∧ Hid (∃ fv, RJ w wr nb fv (fs.take j) ∧ (fs.take j).all fok = true)) (fun v7 _ _ => n - (intOf v7).toNat)
    case atStart => exact ⟨0, rfl, by omega, Hid.of ⟨_, ⟨HB0.out, World.ownsRow_nil _ _ _ _, HU0.out⟩, rfl⟩⟩
    case round =>
      clear HB0 HU0
      obtain ⟨j, rfl, hjn, hR⟩ := hrel
      obtain ⟨fv, hK0, hall⟩ := hR.out
      have HK := Hid.of hK0
      have HALL := Hid.of hall
      clear hR hK0 hall
      by_cases hlt : j < n
      · have hltz : (j : Int) < (n : Int) := by omega
        have hcz : (n : Int) ≤ (c : Int) := by omega
        have hjw : IntKind.i64.wrap ((j : Int) + 1) = (j : Int) + 1 := by rw [IntKind.wrap_i64]; omega
        have hj : j < fs.length := by rw [HNN.out.1]; exact hlt
        obtain ⟨q, hq⟩ : ∃ q, fs[j] = q := ⟨_, rfl⟩
        obtain ⟨b, o, rfl, hrg⟩ := HC.out j hj
        rw [hq] at hrg
        have HTS := Hid.of (show fs.take (j + 1) = fs.take j ++ [q] ∧ q ∈ fs from ⟨by rw [List.take_succ_eq_append_getElem hj, hq], hq ▸ List.getElem_mem hj⟩)
        have HTL := Hid.of (show (fs.take j).length = j by rw [List.length_take]; omega)
        obtain ⟨qk, qn⟩ := q
        have HRG := Hid.of (show w.rangeAt b (o + j * 2) [.int .i64 qk, .int .i64 qn] from hrg)
        clear hq hrg
        have hF := fits_walk wr qk qn
        go_wp2_with (with_reducible show wpList _ _ _ ({ dst := _, op := Op.load 97 _, type := _, pos := _, after := _, guard := _ } :: _) _ _; refine Shut.out ?_)
        show wpList _ _ _ _ _ _
        refine wpList_load_mid rfl 97 _ rfl b (o + j * 2) rfl [.int .i64 qk, .int .i64 qn] _ (range_up' HRG.out HK.out.up) Try.underlying97 rfl (by kernel_rfl) ?_
        simp only [Act.put, List.setIfInBounds_toArray, List.set_cons_zero, List.set_cons_succ]
        cases hfo : fok (qk, qn) with
        | false =>
          rw [hfo] at hF
          have HE := Hid.of (show fateE fs = 1 by
            unfold fateE
            rw [if_neg (by rw [HNN.out.1]; exact h65), if_pos (List.any_eq_true.2 ⟨(qk, qn), HTS.out.2, by rw [hfo]; rfl⟩)])
          clear hfo
          go_wp2_with fail
          refine hF.mono ?_
          rintro e w9 ⟨rfl, u9⟩
          have HU9 := Hid.of (HK.out.up.trans u9)
          clear hF u9
          dsimp only
          go_wp2
          go_ret2
          refine ⟨HU9.out, .inl ?_⟩
          rw [HE.out]
          exact ⟨by decide, rfl⟩
        | true =>
          rw [hfo] at hF
          have HFO := Hid.of hfo
          clear hfo
          go_wp2_with fail
          refine hF.mono ?_
          rintro e w9 ⟨rfl, u9⟩
          have HK9 := Hid.of (show RJ w w9 nb fv (fs.take j) from ⟨HK.out.bx.up u9, ow_up HK.out.fr u9, HK.out.up.trans u9⟩)
          clear hF u9 HK
          have HK := HK9
          clear HK9
          dsimp only
          go_wp2_with fail
          refine wp_region_held_drew (S := fun w2 => Up w w2) (by kernel_rfl) HK.out.up.drew (fun hS => ?_)
          refine wpAnyH_take (i := 0) (oi := { dst := some 34, op := Go.Op.move (Go.Operand.tmp 6), type := 35, pos := "ref.go:77", after := #[], guard := none }) (v := .pointer (some ⟨nb, 0, none⟩)) rfl (by kernel_rfl) (by kernel_rfl) (by kernel_rfl) (fun _ _ _ h => h) (Or.inl ⟨by kernel_rfl, ?_⟩) hS ?_
          · intro w5 hSw
            clear hSw hS
            go_simp
          simp only [Act.put, List.setIfInBounds_toArray, List.set_cons_zero, List.set_cons_succ]
          refine wpAnyH_take (i := 1) (oi := { dst := some 35, op := Go.Op.move (Go.Operand.tmp 6), type := 35, pos := "ref.go:77", after := #[], guard := none }) (v := .pointer (some ⟨nb, 0, none⟩)) rfl (by kernel_rfl) (by kernel_rfl) (by kernel_rfl) (fun _ _ _ h => h) (Or.inl ⟨by kernel_rfl, ?_⟩) hS ?_
          · intro w5 hSw
            clear hSw hS
            go_simp
          simp only [Act.put, List.setIfInBounds_toArray, List.set_cons_zero, List.set_cons_succ]
          refine wpAnyH_take (i := 2) (oi := { dst := some 36, op := Go.Op.nilCheck (Go.Operand.tmp 35), type := 0, pos := "ref.go:77", after := #[{ on := 1, ground := Go.Ground.data }], guard := none }) (v := .pointer (some ⟨nb, 0, none⟩)) rfl (by kernel_rfl) (by kernel_rfl) (by kernel_rfl) (fun _ _ _ h => h) (Or.inl ⟨by kernel_rfl, ?_⟩) hS ?_
          · intro w5 hSw
            clear hSw hS
            go_simp
          simp only [Act.put, List.setIfInBounds_toArray, List.set_cons_zero, List.set_cons_succ]
          refine wpAnyH_take (i := 3) (oi := { dst := some 37, op := Go.Op.fieldAddr 114 (Go.Operand.tmp 36) 1, type := 0, pos := "ref.go:77", after := #[{ on := 2, ground := Go.Ground.data }], guard := none }) (v := .pointer (some ⟨nb, 1, none⟩)) rfl (by kernel_rfl) (by kernel_rfl) (by kernel_rfl) (fun _ _ _ h => h) (Or.inl ⟨by kernel_rfl, ?_⟩) hS ?_
          · intro w5 hSw
            clear hSw hS
            go_simp
          simp only [Act.put, List.setIfInBounds_toArray, List.set_cons_zero, List.set_cons_succ]
          refine wpAnyH_take (i := 5) (oi := { dst := some 39, op := Go.Op.move (Go.Operand.tmp 1), type := 92, pos := "ref.go:77", after := #[], guard := none }) (v := .slice (some ⟨b, o, none⟩) n c) rfl (by kernel_rfl) (by kernel_rfl) (by kernel_rfl) (fun _ _ _ h => h) (Or.inl ⟨by kernel_rfl, ?_⟩) hS ?_
          · intro w5 hSw
            clear hSw hS
            go_simp
          simp only [Act.put, List.setIfInBounds_toArray, List.set_cons_zero, List.set_cons_succ]
          refine wpAnyH_take (i := 6) (oi := { dst := some 40, op := Go.Op.move (Go.Operand.tmp 7), type := 3, pos := "ref.go:77", after := #[], guard := none }) (v := .int .i64 (j : Int)) rfl (by kernel_rfl) (by kernel_rfl) (by kernel_rfl) (fun _ _ _ h => h) (Or.inl ⟨by kernel_rfl, ?_⟩) hS ?_
          · intro w5 hSw
            clear hSw hS
            go_simp
          simp only [Act.put, List.setIfInBounds_toArray, List.set_cons_zero, List.set_cons_succ]
          refine wpAnyH_take (i := 7) (oi := { dst := some 41, op := Go.Op.indexAddr 92 (Go.Operand.tmp 39) (Go.Operand.tmp 40), type := 0, pos := "ref.go:77", after := #[{ on := 5, ground := Go.Ground.data }, { on := 6, ground := Go.Ground.data }], guard := none }) (v := .pointer (some ⟨b, o + j * 2, none⟩)) rfl (by kernel_rfl) (by kernel_rfl) (by kernel_rfl) (fun _ _ _ h => h) (Or.inl ⟨by kernel_rfl, ?_⟩) hS ?_
          · intro w5 hSw
            clear hSw hS
            go_simp
          simp only [Act.put, List.setIfInBounds_toArray, List.set_cons_zero, List.set_cons_succ]
          refine wpAnyH_take (i := 8) (oi := { dst := some 42, op := Go.Op.load 97 (Go.Operand.tmp 41), type := 97, pos := "ref.go:77", after := #[{ on := 7, ground := Go.Ground.data }], guard := none }) (v := .agg ([.int .i64 qk, .int .i64 qn]).toArray) rfl (by kernel_rfl) (by kernel_rfl) (by kernel_rfl) (fun _ _ _ h => h) (yieldsIf_load_mid (by kernel_rfl) _ _ rfl b (o + j * 2) rfl ([.int .i64 qk, .int .i64 qn]) _ (fun w5 hSw => range_up' HRG.out hSw) Try.underlying97 rfl (by kernel_rfl)) hS ?_
          simp only [Act.put, List.setIfInBounds_toArray, List.set_cons_zero, List.set_cons_succ]
          refine wpAnyH_ready (rs := [4, 9]) (by kernel_rfl) (by simp) ?_
          refine AllReadyH.cons (o := { dst := some 38, op := Go.Op.load 92 (Go.Operand.tmp 37), type := 92, pos := "ref.go:77", after := #[{ on := 3, ground := Go.Ground.data }], guard := none }) rfl (fun K hK => ?_) (AllReadyH.cons (o := { dst := some 43, op := Go.Op.buildSlice 92 1 #[(0, Go.Operand.tmp 42)], type := 92, pos := "ref.go:77", after := #[{ on := 8, ground := Go.Ground.data }], guard := none }) rfl (fun K hK => ?_) AllReadyH.nil)
          · rw [if_pos (by kernel_rfl)]
            have c1 := (HK.out.bx.up (Up.refl w9).drew).cell (i := 1) rfl
            go_simp
            refine hK.out _ _ hS (fun hS2 => ?_)
            clear hK K hS c1
            have hS := hS2
            clear hS2
            refine wpAnyH_ready (rs := [9]) (by kernel_rfl) (by simp) ?_
            refine AllReadyH.cons (o := { dst := some 43, op := Go.Op.buildSlice 92 1 #[(0, Go.Operand.tmp 42)], type := 92, pos := "ref.go:77", after := #[{ on := 8, ground := Go.Ground.data }], guard := none }) rfl (fun K hK => ?_) AllReadyH.nil
            rw [if_pos (by kernel_rfl)]
            go_simp
            have HU4 := Hid.of (((Up.refl w9).alloc (.cells #[.int .i64 qk, .int .i64 qn] 97)).drew)
            generalize hW4 : (w9.alloc (.cells #[.int .i64 qk, .int .i64 qn] 97)).drew = W4 at *
            have HA4' : Hid (At W4 w9.heap.size 97 [.int .i64 qk, .int .i64 qn]) := by
              rw [← hW4]
              exact Hid.of ((at_new w9 97 [.int .i64 qk, .int .i64 qn]).up (Up.refl _).drew)
            clear hW4
            refine hK.out _ _ (HK.out.up.trans HU4.out) (fun hS2 => ?_)
            clear hK K hS
            have hS := hS2
            clear hS2
            refine wpAnyH_ready (rs := [10]) (by kernel_rfl) (by simp) ?_
            refine AllReadyH.cons (o := { dst := some 44, op := Go.Op.call { callee := Go.Callee.builtin Go.Builtin.append, args := #[Go.Operand.tmp 38, Go.Operand.tmp 43], argTypes := #[92, 92] }, type := 92, pos := "ref.go:77", after := #[{ on := 4, ground := Go.Ground.data }, { on := 9, ground := Go.Ground.data }], guard := none }) rfl (fun K hK => ?_) AllReadyH.nil
            rw [if_pos (by kernel_rfl)]
            obtain ⟨v5, w5, hap, ho5, hg5, hfr5⟩ := run_append_frsN (P := Try.prog) W4 w.heap.size 92 92 97 ib (.agg #[.int .i64 0, .int .i64 0]) 2 16 Try.underlying92 iba ibb ibc ibd rfl (by decide) fv _ _ (ow_up HK.out.fr HU4.out) ⟨w9.heap.size, 0, none⟩ 1 1 [.int .i64 qk, .int .i64 qn] rfl (fun j u hu => by rw [Addr.add_lit, Nat.zero_add]; exact HA4'.out.cell hu) (fun u hu => by
              simp only [List.mem_cons, List.not_mem_nil, or_false] at hu
              rcases hu with rfl | rfl <;> rfl) (by have h1 := HTL.out; simp only [maxLen]; omega) (by have h1 := HTL.out; omega) (HK.out.up.trans HU4.out).size
            have HBX := Hid.of ((HK.out.bx.up HU4.out).by hg5 (own_ne (ow_up HK.out.fr HU4.out) (HK.out.bx.up HU4.out) (by decide)))
            have HUU := Hid.of ((HK.out.up.trans HU4.out).by hg5 (fun g hg => (HK.out.fr.lt g hg).1))
            obtain ⟨va, vn, vc, rfl⟩ := row_any ho5
            have HMM := Hid.of ho5
            clear ho5 hg5 hfr5
            refine wp_app (v := fv) (y := .slice (some ⟨w9.heap.size, 0, none⟩) 1 1) rfl rfl rfl hap ?_
            simp only [Act.put, List.setIfInBounds_toArray, List.set_cons_zero, List.set_cons_succ]
            refine hK.out _ _ HUU.out (fun hS2 => ?_)
            clear hK K hS hap HA4' HU4
            have hS := hS2
            clear hS2
            refine wpAnyH_take (i := 11) (oi := { dst := some 45, op := Go.Op.nilCheck (Go.Operand.tmp 34), type := 0, pos := "ref.go:77", after := #[{ on := 0, ground := Go.Ground.data }, { on := 0, ground := Go.Ground.phase }, { on := 1, ground := Go.Ground.phase }, { on := 2, ground := Go.Ground.phase }, { on := 3, ground := Go.Ground.phase }, { on := 4, ground := Go.Ground.phase }, { on := 5, ground := Go.Ground.phase }, { on := 6, ground := Go.Ground.phase }, { on := 7, ground := Go.Ground.phase }, { on := 8, ground := Go.Ground.phase }, { on := 9, ground := Go.Ground.phase }, { on := 10, ground := Go.Ground.phase }], guard := none }) (v := .pointer (some ⟨nb, 0, none⟩)) rfl (by kernel_rfl) (by kernel_rfl) (by kernel_rfl) (fun _ _ _ h => h) (Or.inl ⟨by kernel_rfl, ?_⟩) hS ?_
            · intro w5 hSw
              clear hSw hS
              go_simp
            simp only [Act.put, List.setIfInBounds_toArray, List.set_cons_zero, List.set_cons_succ]
            refine wpAnyH_take (i := 12) (oi := { dst := some 46, op := Go.Op.fieldAddr 114 (Go.Operand.tmp 45) 1, type := 0, pos := "ref.go:77", after := #[{ on := 11, ground := Go.Ground.data }, { on := 0, ground := Go.Ground.phase }, { on := 1, ground := Go.Ground.phase }, { on := 2, ground := Go.Ground.phase }, { on := 3, ground := Go.Ground.phase }, { on := 4, ground := Go.Ground.phase }, { on := 5, ground := Go.Ground.phase }, { on := 6, ground := Go.Ground.phase }, { on := 7, ground := Go.Ground.phase }, { on := 8, ground := Go.Ground.phase }, { on := 9, ground := Go.Ground.phase }, { on := 10, ground := Go.Ground.phase }], guard := none }) (v := .pointer (some ⟨nb, 1, none⟩)) rfl (by kernel_rfl) (by kernel_rfl) (by kernel_rfl) (fun _ _ _ h => h) (Or.inl ⟨by kernel_rfl, ?_⟩) hS ?_
            · intro w5 hSw
              clear hSw hS
              go_simp
            simp only [Act.put, List.setIfInBounds_toArray, List.set_cons_zero, List.set_cons_succ]
            refine wpAnyH_ready (rs := [13]) (by kernel_rfl) (by simp) ?_
            refine AllReadyH.cons (o := { dst := none, op := Go.Op.store 92 (Go.Operand.tmp 46) (Go.Operand.tmp 44), type := 0, pos := "ref.go:77", after := #[{ on := 12, ground := Go.Ground.data }, { on := 10, ground := Go.Ground.data }, { on := 10, ground := Go.Ground.chain }, { on := 0, ground := Go.Ground.phase }, { on := 1, ground := Go.Ground.phase }, { on := 2, ground := Go.Ground.phase }, { on := 3, ground := Go.Ground.phase }, { on := 4, ground := Go.Ground.phase }, { on := 5, ground := Go.Ground.phase }, { on := 6, ground := Go.Ground.phase }, { on := 7, ground := Go.Ground.phase }, { on := 8, ground := Go.Ground.phase }, { on := 9, ground := Go.Ground.phase }, { on := 10, ground := Go.Ground.phase }], guard := none }) rfl (fun K hK => ?_) AllReadyH.nil
            rw [if_pos (by kernel_rfl)]
            have t1 := HBX.out.thaw 1
            have c1 := HBX.out.cell (i := 1) rfl
            have HB2 := Hid.of (HBX.out.set 1 (.slice va vn vc))
            simp only [List.set_cons_zero, List.set_cons_succ] at HB2
            have gw := grown_at w5 nb 1 (.slice va vn vc)
            have HM2 := Hid.of (World.ownsRow.kept HMM.out gw (.inr (own_ne HMM.out HBX.out (by decide))))
            have HU2 := Hid.of (HUU.out.by gw (fun g hg => by have := Option.some.inj hg; omega))
            go_simp
            generalize w5.setCell ⟨nb, 1, none⟩ (.slice va vn vc) = w6 at *
            refine hK.out _ _ HU2.out (fun hS2 => ?_)
            clear hK K hS hS2 t1 c1 gw HBX HMM HUU
            refine wpAnyH_done (by kernel_rfl) ?_ _
            have HN := Hid.of (show ∃ fv, RJ w w6 nb fv (fs.take (j + 1)) ∧ (fs.take (j + 1)).all fok = true from ⟨_, ⟨HB2.out, by
              rw [HTS.out.1, flat_snoc, List.length_append]
              exact HM2.out, HU2.out⟩, by
              rw [HTS.out.1, List.all_append, HALL.out]
              simp [HFO.out]⟩)
            clear HK HB2 HM2 HU2
            go_wp2
            go_roundw
            case rel => exact ⟨j + 1, by simp, by omega, HN⟩
            case measure => simp [intOf]; omega
          · rw [if_pos (by kernel_rfl)]
            go_simp
            have HU4 := Hid.of (((Up.refl w9).alloc (.cells #[.int .i64 qk, .int .i64 qn] 97)).drew)
            generalize hW4 : (w9.alloc (.cells #[.int .i64 qk, .int .i64 qn] 97)).drew = W4 at *
            have HA4' : Hid (At W4 w9.heap.size 97 [.int .i64 qk, .int .i64 qn]) := by
              rw [← hW4]
              exact Hid.of ((at_new w9 97 [.int .i64 qk, .int .i64 qn]).up (Up.refl _).drew)
            clear hW4
            refine hK.out _ _ (HK.out.up.trans HU4.out) (fun hS2 => ?_)
            clear hK K hS
            have hS := hS2
            clear hS2
            refine wpAnyH_ready (rs := [4]) (by kernel_rfl) (by simp) ?_
            refine AllReadyH.cons (o := { dst := some 38, op := Go.Op.load 92 (Go.Operand.tmp 37), type := 92, pos := "ref.go:77", after := #[{ on := 3, ground := Go.Ground.data }], guard := none }) rfl (fun K hK => ?_) AllReadyH.nil
            rw [if_pos (by kernel_rfl)]
            have c1 := (HK.out.bx.up HU4.out).cell (i := 1) rfl
            go_simp
            refine hK.out _ _ hS (fun hS2 => ?_)
            clear hK K hS c1
            have hS := hS2
            clear hS2
            refine wpAnyH_ready (rs := [10]) (by kernel_rfl) (by simp) ?_
            refine AllReadyH.cons (o := { dst := some 44, op := Go.Op.call { callee := Go.Callee.builtin Go.Builtin.append, args := #[Go.Operand.tmp 38, Go.Operand.tmp 43], argTypes := #[92, 92] }, type := 92, pos := "ref.go:77", after := #[{ on := 4, ground := Go.Ground.data }, { on := 9, ground := Go.Ground.data }], guard := none }) rfl (fun K hK => ?_) AllReadyH.nil
            rw [if_pos (by kernel_rfl)]
            obtain ⟨v5, w5, hap, ho5, hg5, hfr5⟩ := run_append_frsN (P := Try.prog) W4 w.heap.size 92 92 97 ib (.agg #[.int .i64 0, .int .i64 0]) 2 16 Try.underlying92 iba ibb ibc ibd rfl (by decide) fv _ _ (ow_up HK.out.fr HU4.out) ⟨w9.heap.size, 0, none⟩ 1 1 [.int .i64 qk, .int .i64 qn] rfl (fun j u hu => by rw [Addr.add_lit, Nat.zero_add]; exact HA4'.out.cell hu) (fun u hu => by
              simp only [List.mem_cons, List.not_mem_nil, or_false] at hu
              rcases hu with rfl | rfl <;> rfl) (by have h1 := HTL.out; simp only [maxLen]; omega) (by have h1 := HTL.out; omega) (HK.out.up.trans HU4.out).size
            have HBX := Hid.of ((HK.out.bx.up HU4.out).by hg5 (own_ne (ow_up HK.out.fr HU4.out) (HK.out.bx.up HU4.out) (by decide)))
            have HUU := Hid.of ((HK.out.up.trans HU4.out).by hg5 (fun g hg => (HK.out.fr.lt g hg).1))
            obtain ⟨va, vn, vc, rfl⟩ := row_any ho5
            have HMM := Hid.of ho5
            clear ho5 hg5 hfr5
            refine wp_app (v := fv) (y := .slice (some ⟨w9.heap.size, 0, none⟩) 1 1) rfl rfl rfl hap ?_
            simp only [Act.put, List.setIfInBounds_toArray, List.set_cons_zero, List.set_cons_succ]
            refine hK.out _ _ HUU.out (fun hS2 => ?_)
            clear hK K hS hap HA4' HU4
            have hS := hS2
            clear hS2
            refine wpAnyH_take (i := 11) (oi := { dst := some 45, op := Go.Op.nilCheck (Go.Operand.tmp 34), type := 0, pos := "ref.go:77", after := #[{ on := 0, ground := Go.Ground.data }, { on := 0, ground := Go.Ground.phase }, { on := 1, ground := Go.Ground.phase }, { on := 2, ground := Go.Ground.phase }, { on := 3, ground := Go.Ground.phase }, { on := 4, ground := Go.Ground.phase }, { on := 5, ground := Go.Ground.phase }, { on := 6, ground := Go.Ground.phase }, { on := 7, ground := Go.Ground.phase }, { on := 8, ground := Go.Ground.phase }, { on := 9, ground := Go.Ground.phase }, { on := 10, ground := Go.Ground.phase }], guard := none }) (v := .pointer (some ⟨nb, 0, none⟩)) rfl (by kernel_rfl) (by kernel_rfl) (by kernel_rfl) (fun _ _ _ h => h) (Or.inl ⟨by kernel_rfl, ?_⟩) hS ?_
            · intro w5 hSw
              clear hSw hS
              go_simp
            simp only [Act.put, List.setIfInBounds_toArray, List.set_cons_zero, List.set_cons_succ]
            refine wpAnyH_take (i := 12) (oi := { dst := some 46, op := Go.Op.fieldAddr 114 (Go.Operand.tmp 45) 1, type := 0, pos := "ref.go:77", after := #[{ on := 11, ground := Go.Ground.data }, { on := 0, ground := Go.Ground.phase }, { on := 1, ground := Go.Ground.phase }, { on := 2, ground := Go.Ground.phase }, { on := 3, ground := Go.Ground.phase }, { on := 4, ground := Go.Ground.phase }, { on := 5, ground := Go.Ground.phase }, { on := 6, ground := Go.Ground.phase }, { on := 7, ground := Go.Ground.phase }, { on := 8, ground := Go.Ground.phase }, { on := 9, ground := Go.Ground.phase }, { on := 10, ground := Go.Ground.phase }], guard := none }) (v := .pointer (some ⟨nb, 1, none⟩)) rfl (by kernel_rfl) (by kernel_rfl) (by kernel_rfl) (fun _ _ _ h => h) (Or.inl ⟨by kernel_rfl, ?_⟩) hS ?_
            · intro w5 hSw
              clear hSw hS
              go_simp
            simp only [Act.put, List.setIfInBounds_toArray, List.set_cons_zero, List.set_cons_succ]
            refine wpAnyH_ready (rs := [13]) (by kernel_rfl) (by simp) ?_
            refine AllReadyH.cons (o := { dst := none, op := Go.Op.store 92 (Go.Operand.tmp 46) (Go.Operand.tmp 44), type := 0, pos := "ref.go:77", after := #[{ on := 12, ground := Go.Ground.data }, { on := 10, ground := Go.Ground.data }, { on := 10, ground := Go.Ground.chain }, { on := 0, ground := Go.Ground.phase }, { on := 1, ground := Go.Ground.phase }, { on := 2, ground := Go.Ground.phase }, { on := 3, ground := Go.Ground.phase }, { on := 4, ground := Go.Ground.phase }, { on := 5, ground := Go.Ground.phase }, { on := 6, ground := Go.Ground.phase }, { on := 7, ground := Go.Ground.phase }, { on := 8, ground := Go.Ground.phase }, { on := 9, ground := Go.Ground.phase }, { on := 10, ground := Go.Ground.phase }], guard := none }) rfl (fun K hK => ?_) AllReadyH.nil
            rw [if_pos (by kernel_rfl)]
            have t1 := HBX.out.thaw 1
            have c1 := HBX.out.cell (i := 1) rfl
            have HB2 := Hid.of (HBX.out.set 1 (.slice va vn vc))
            simp only [List.set_cons_zero, List.set_cons_succ] at HB2
            have gw := grown_at w5 nb 1 (.slice va vn vc)
            have HM2 := Hid.of (World.ownsRow.kept HMM.out gw (.inr (own_ne HMM.out HBX.out (by decide))))
            have HU2 := Hid.of (HUU.out.by gw (fun g hg => by have := Option.some.inj hg; omega))
            go_simp
            generalize w5.setCell ⟨nb, 1, none⟩ (.slice va vn vc) = w6 at *
            refine hK.out _ _ HU2.out (fun hS2 => ?_)
            clear hK K hS hS2 t1 c1 gw HBX HMM HUU
            refine wpAnyH_done (by kernel_rfl) ?_ _
            have HN := Hid.of (show ∃ fv, RJ w w6 nb fv (fs.take (j + 1)) ∧ (fs.take (j + 1)).all fok = true from ⟨_, ⟨HB2.out, by
              rw [HTS.out.1, flat_snoc, List.length_append]
              exact HM2.out, HU2.out⟩, by
              rw [HTS.out.1, List.all_append, HALL.out]
              simp [HFO.out]⟩)
            clear HK HB2 HM2 HU2
            go_wp2
            go_roundw
            case rel => exact ⟨j + 1, by simp, by omega, HN⟩
            case measure => simp [intOf]; omega
      · have hltz : ¬ (j : Int) < (n : Int) := by omega
        obtain rfl : j = n := by omega
        have hT : fs.take j = fs := by rw [← HNN.out.1, List.take_length]
        rw [hT] at HK HALL
        have HE := Hid.of (show fateE fs = 0 by
          unfold fateE
          rw [if_neg (by rw [HNN.out.1]; exact h65), if_neg]
          intro h
          obtain ⟨f, hf, h3⟩ := List.any_eq_true.1 h
          rw [List.all_eq_true.1 HALL.out f hf] at h3
          cases h3)
        clear hT HALL
        go_wp2
        have HK0 := Hid.of (show ∃ wv sv, RK w wr nb fv wv sv fs 0 from ⟨_, _, HK.out.bx, HK.out.fr, World.ownsRow_nil _ _ _ _, World.ownsRow_nil _ _ _ _, HK.out.up⟩)
        clear HK
        go_loopw [9] (fun v9 w2 => ∃ i : Nat, v9 = .int .i64 (i : Int) ∧ i ≤ z ∧ Hid (∃ wv sv, RK w w2 nb fv wv sv fs i)) (fun v9 _ => z - (intOf v9).toNat)
        case atStart => exact ⟨0, rfl, by omega, HK0⟩
        case round =>
          clear HK0
          obtain ⟨i, rfl, hiz, hR⟩ := hrel
          obtain ⟨wv, sv, hK0⟩ := hR.out
          have HK := Hid.of hK0
          clear hR hK0
          by_cases hlz : i < z
          · have hlzz : (i : Int) < (z : Int) := by omega
            have hiw : IntKind.i64.wrap ((i : Int) + 1) = (i : Int) + 1 := by rw [IntKind.wrap_i64]; omega
            have c3 := HK.out.bx.cell (i := 3) rfl
            have HU2 := Hid.of ((Up.refl wr).alloc (.cells #[.slice none 0 0] 145))
            have HA2 := Hid.of (at_new wr 145 [.slice none 0 0])
            go_wp2_with (with_reducible show wpList _ _ _ ({ dst := _, op := Op.call { callee := Callee.builtin Builtin.append, args := _, argTypes := _ }, type := _, pos := _, after := _, guard := _ } :: _) _ _; refine Shut.out ?_)
            show wpList _ _ _ _ _ _
            refine wpList_append_own _ rfl _ _ 111 rfl w.heap.size 145 is (.slice none 0 0) 1 24 Try.underlying111 isa isb isc isd rfl (by decide) wv i (List.replicate i (.slice none 0 0)) rfl (ow_up HK.out.wo HU2.out) ⟨wr.heap.size, 0, none⟩ 1 1 [.slice none 0 0] rfl rfl (fun j u hu => by rw [Addr.add_lit, Nat.zero_add]; exact HA2.out.cell hu) (fun u hu => by obtain rfl := List.mem_singleton.1 hu; rfl) (by simp only [maxLen]; omega) (by omega) (HK.out.up.trans HU2.out).size ?_
            intro r4 w4 o5 g5 _
            obtain ⟨va, vn, vc, rfl⟩ := row_any o5
            have HB4 := Hid.of ((HK.out.bx.up HU2.out).by g5 (own_ne (ow_up HK.out.wo HU2.out) (HK.out.bx.up HU2.out) (by decide)))
            have HF4 := Hid.of (World.ownsRow.kept (ow_up HK.out.fr HU2.out) g5 (own_off (ow_up HK.out.fr HU2.out) (ow_up HK.out.wo HU2.out) (by decide)))
            have HS4 := Hid.of (World.ownsRow.kept (ow_up HK.out.so HU2.out) g5 (own_off (ow_up HK.out.so HU2.out) (ow_up HK.out.wo HU2.out) (by decide)))
            have HW4 := Hid.of o5
            have HV4 := Hid.of ((HK.out.up.trans HU2.out).by g5 (fun g hg => (HK.out.wo.lt g hg).1))
            clear o5 g5 HU2 HA2 HK c3
            simp only [Act.put, List.setIfInBounds_toArray, List.set_cons_zero, List.set_cons_succ]
            have t3 := HB4.out.thaw 3
            have c3 := HB4.out.cell (i := 3) rfl
            have c4 := HB4.out.cell (i := 4) rfl
            have gw := grown_at w4 nb 3 (.slice va vn vc)
            have HB5 := Hid.of (HB4.out.set 3 (.slice va vn vc))
            simp only [List.set_cons_zero, List.set_cons_succ] at HB5
            have HF5 := Hid.of (World.ownsRow.kept HF4.out gw (.inr (own_ne HF4.out HB4.out (by decide))))
            have HS5 := Hid.of (World.ownsRow.kept HS4.out gw (.inr (own_ne HS4.out HB4.out (by decide))))
            have HW5 := Hid.of (World.ownsRow.kept HW4.out gw (.inr (own_ne HW4.out HB4.out (by decide))))
            have HV5 := Hid.of (HV4.out.by gw (fun g hg => by have := Option.some.inj hg; omega))
            clear gw HB4 HF4 HS4 HW4 HV4
            have HU2 := Hid.of ((Up.refl (w4.setCell ⟨nb, 3, none⟩ (.slice va vn vc))).alloc (.cells #[.bool false] 4))
            have HA2 := Hid.of (at_new (w4.setCell ⟨nb, 3, none⟩ (.slice va vn vc)) 4 [.bool false])
            go_wp2_with (with_reducible show wpList _ _ _ ({ dst := _, op := Op.call { callee := Callee.builtin Builtin.append, args := _, argTypes := _ }, type := _, pos := _, after := _, guard := _ } :: _) _ _; refine Shut.out ?_)
            show wpList _ _ _ _ _ _
            clear t3 c3 c4
            generalize hw5 : w4.setCell ⟨nb, 3, none⟩ (.slice va vn vc) = w5 at *
            have hsz : w5.heap.size = w4.heap.size := by rw [← hw5]; simp
            clear hw5
            refine wpList_append_own _ rfl _ _ 52 rfl w.heap.size 4 io (.bool false) 1 1 Try.underlying52 ioa iob ioc iod rfl (by decide) sv i (List.replicate i (.bool false)) rfl (ow_up HS5.out HU2.out) ⟨w4.heap.size, 0, none⟩ 1 1 [.bool false] rfl rfl (fun j u hu => by rw [Addr.add_lit, Nat.zero_add, ← hsz]; exact HA2.out.cell hu) (fun u hu => by obtain rfl := List.mem_singleton.1 hu; rfl) (by simp only [maxLen]; omega) (by omega) (HV5.out.trans HU2.out).size ?_
            intro r6 w6 o5 g5 _
            obtain ⟨ua, un, uc, rfl⟩ := row_any o5
            have HB6 := Hid.of ((HB5.out.up HU2.out).by g5 (own_ne (ow_up HS5.out HU2.out) (HB5.out.up HU2.out) (by decide)))
            have HF6 := Hid.of (World.ownsRow.kept (ow_up HF5.out HU2.out) g5 (own_off (ow_up HF5.out HU2.out) (ow_up HS5.out HU2.out) (by decide)))
            have HW6 := Hid.of (World.ownsRow.kept (ow_up HW5.out HU2.out) g5 (own_off (ow_up HW5.out HU2.out) (ow_up HS5.out HU2.out) (by decide)))
            have HS6 := Hid.of o5
            have HV6 := Hid.of ((HV5.out.trans HU2.out).by g5 (fun g hg => (HS5.out.lt g hg).1))
            clear o5 g5 HU2 HA2 HB5 HF5 HS5 HW5 HV5
            simp only [Act.put, List.setIfInBounds_toArray, List.set_cons_zero, List.set_cons_succ]
            have t4 := HB6.out.thaw 4
            have c4 := HB6.out.cell (i := 4) rfl
            have gw := grown_at w6 nb 4 (.slice ua un uc)
            have HB7 := Hid.of (HB6.out.set 4 (.slice ua un uc))
            simp only [List.set_cons_zero, List.set_cons_succ] at HB7
            have HN := Hid.of (show ∃ wv sv, RK w (w6.setCell ⟨nb, 4, none⟩ (.slice ua un uc)) nb fv wv sv fs (i + 1) from ⟨(.slice va vn vc), (.slice ua un uc), HB7.out, World.ownsRow.kept HF6.out gw (.inr (own_ne HF6.out HB6.out (by decide))), by
              rw [List.replicate_succ']
              exact World.ownsRow.kept HW6.out gw (.inr (own_ne HW6.out HB6.out (by decide))), by
              rw [List.replicate_succ']
              exact World.ownsRow.kept HS6.out gw (.inr (own_ne HS6.out HB6.out (by decide))), HV6.out.by gw (fun g hg => by have := Option.some.inj hg; omega)⟩)
            clear gw HB6 HF6 HW6 HS6 HV6 HB7
            go_wp2
            clear t4 c4
            generalize w6.setCell ⟨nb, 4, none⟩ (.slice ua un uc) = w7 at *
            go_roundw
            case rel => exact ⟨i + 1, by simp, by omega, HN⟩
            case measure => simp [intOf]; omega
          · have hlzz : ¬ (i : Int) < (z : Int) := by omega
            obtain rfl : i = z := by omega
            go_wp2
            go_ret2
            exact ⟨HK.out.up, .inr ⟨HE.out, nb, rfl, by omega, fv, wv, sv, HK.out⟩⟩
end Go.Proofs.Ytdlfkdehfenemaa
