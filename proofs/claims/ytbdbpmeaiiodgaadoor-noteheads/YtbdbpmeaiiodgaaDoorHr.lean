import Derived.Test.YtbdbpmeaiiodgaaDoorHq
import Derived.Laws.Cover3
namespace Go.Proofs.YtbdbpmeaiiodgaaDoor
open Go.RowKit Go.Shelf TextNum
theorem rdH_some {l : List UInt8} {x : List UInt8 × Int × List UInt8} (h : rdH l = some x) : lnE l = 0 ∧ ∃ a b c, linesOf l = [a, b, c] ∧ nameR ⟨a.toArray⟩ = 0 ∧ (prs b 281474976710656).2 = 0 ∧ (b64R c).2 = 0 ∧ (b64R c).1.length = 32 ∧ x = (a, (prs b 281474976710656).1, (b64R c).1) := by
  unfold rdH at h
  split at h
  · cases h
  · rename_i h1
    split at h
    · rename_i a b c habc
      split at h
      · cases h
      · rename_i h2
        split at h
        · cases h
        · rename_i h3
          simp only [not_or, Decidable.not_not] at h1 h2 h3
          exact ⟨h1, a, b, c, habc, h2, h3.1, h3.2.1, h3.2.2, (Option.some.inj h).symm⟩
    · cases h
theorem fold_set : ∀ (l : List Value) (A : Array Value) (k m : Nat), k + m + l.length ≤ A.size → (List.foldl (fun (cs : Array Value) (x : Value × Nat) => cs.setIfInBounds (k + x.2) x.1) A (l.zipIdx m)).toList = A.toList.take (k + m) ++ l ++ A.toList.drop (k + m + l.length)
  | [], A, k, m, _ => by simp
  | v :: l, A, k, m, h => by
    have hs : k + m < A.toList.length := by simp at h ⊢; omega
    rw [List.zipIdx_cons, List.foldl_cons, fold_set l _ k (m + 1) (by simp at h ⊢; omega)]
    simp only [Array.toList_setIfInBounds, List.length_cons]
    have e1 : (A.toList.set (k + m) v).take (k + (m + 1)) = A.toList.take (k + m) ++ [v] := by
      rw [← Nat.add_assoc, List.take_set, List.take_succ_eq_append_getElem hs]
      rw [List.set_append_right _ _ (by simp; omega)]
      simp
      rw [Nat.min_eq_left (by simp at hs; omega)]
      simp
    have e2 : (A.toList.set (k + m) v).drop (k + (m + 1) + l.length) = A.toList.drop (k + m + (l.length + 1)) := by
      rw [List.drop_set_of_lt (by omega)]
      congr 1
      omega
    rw [e1, e2]
    simp
theorem fold_head (A : Array Value) (o : ByteArray) (n : Int) (r : List UInt8) (hr : r.length = 32) (hA : A.size = 34) (h2 : A.toList.take 2 = [.string o, .int .i64 n]) : List.foldl (fun (cs : Array Value) (x : Value × Nat) => cs.setIfInBounds (2 + x.2) x.1) A (cb r).zipIdx = (headC o n r).toArray := by
  apply Array.toList_inj.1
  rw [fold_set (cb r) A 2 0 (by rw [cb_length]; omega), h2, List.drop_of_length_le (by rw [cb_length]; simp; omega)]
  simp [headC]
set_option maxRecDepth 100000 in
set_option maxHeartbeats 1000000 in
theorem readHead_ok (s : ByteArray) (w : World) (hG : GH w) (a b c : List UInt8) (h1 : lnE s.data.toList = 0) (habc : linesOf s.data.toList = [a, b, c]) (hn : nameR ⟨a.toArray⟩ = 0) (k1 : (prs b 281474976710656).2 = 0) (k2 : (b64R c).2 = 0) (k3 : (b64R c).1.length = 32) :
    Calls Tryd.prog 63 #[.string s] w fun e w' => e = .returned (.tuple #[.agg (headC ⟨a.toArray⟩ (prs b 281474976710656).1 (b64R c).1).toArray, .bool true]) ∧ Up w w' := by
  go_enter Tryd.func63, Tryd.ntmps63
  go_wp2_with fail
  change Calls _ _ _ (w.alloc (Obj.cells zeroC.toArray 54)) _
  have ht := there_new w zeroC 54
  have hu0 := (Up.refl w).alloc (Obj.cells zeroC.toArray 54)
  have hsz0 : w.heap.size < (w.alloc (Obj.cells zeroC.toArray 54)).heap.size := by rw [World.alloc]; simp
  generalize w.alloc (Obj.cells zeroC.toArray 54) = W0 at *
  refine (Lines_walk s W0).mono ?_
  rintro e W1 ⟨v, rfl, hv1, hv2, u1⟩
  dsimp only
  have HT := Hid.of (show W1.there w.heap.size 0 34 from there_up ht hsz0 u1)
  have HU := Hid.of (hu0.trans u1)
  have hsz00 := hsz0
  have hsz : w.heap.size < W1.heap.size := Nat.lt_of_lt_of_le hsz0 u1.size
  have ho := hv2 h1
  rw [habc] at ho
  rw [h1]
  clear ht hu0 hsz0 u1 hv1 hv2 h1 habc
  obtain ⟨g, cp, rfl, hgl, hcs⟩ := ho.cell (by simp)
  have hgne : g ≠ w.heap.size := by omega
  have c0 : W1.cell? ⟨g, 0, none⟩ = some (.string ⟨a.toArray⟩) := hcs 0 (by simp)
  have c1 : W1.cell? ⟨g, 1, none⟩ = some (.string ⟨b.toArray⟩) := hcs 1 (by simp)
  have c2 : W1.cell? ⟨g, 2, none⟩ = some (.string ⟨c.toArray⟩) := hcs 2 (by simp)
  have HC := Hid.of (And.intro c1 (And.intro c2 c0))
  clear ho hcs c1 c2
  simp only [List.length_cons, List.length_nil, Nat.zero_add, Nat.reduceAdd] at *
  go_wp2_with fail
  refine (CheckName_walk ⟨a.toArray⟩ W1 (WhiteTab_up hG.s HU.out)).mono ?_
  rintro e W2 ⟨rfl, u2⟩
  dsimp only
  clear c0
  have HT2 := Hid.of (there_up HT.out hsz u2)
  have HU2 := Hid.of (HU.out.trans u2)
  have hsz2 : w.heap.size < W2.heap.size := Nat.lt_of_lt_of_le hsz u2.size
  have HC2 := Hid.of (And.intro (u2.cell HC.out.1) (And.intro (u2.cell HC.out.2.1) (u2.cell HC.out.2.2)))
  clear HC HT HU u2
  rw [hn]
  clear hn
  have c1 := HC2.out.1
  go_wp2_with fail
  refine (ParseNumber_walk ⟨b.toArray⟩ 281474976710656 W2 (hG.n.up HU2.out)).mono ?_
  rintro e W3 ⟨rfl, u3⟩
  dsimp only
  clear c1
  have HT3 := Hid.of (there_up HT2.out hsz2 u3)
  have HU3 := Hid.of (HU2.out.trans u3)
  have hsz3 : w.heap.size < W3.heap.size := Nat.lt_of_lt_of_le hsz2 u3.size
  have c2 := u3.cell HC2.out.2.1
  have HC3 := Hid.of (u3.cell HC2.out.2.2)
  clear HC2 HT2 HU2 u3
  rw [k1]
  clear k1
  generalize hpn : (prs b 281474976710656).1 = n at *
  have HPN := Hid.of hpn
  clear hpn
  go_wp2_with fail
  refine (DecodeBase64_walk ⟨c.toArray⟩ W3 (hG.l.up HU3.out)).mono ?_
  rintro e W4 ⟨v, rfl, ov, u4⟩
  dsimp only
  clear c2
  have HT4 := Hid.of (there_up HT3.out hsz3 u4)
  have HU4 := Hid.of (HU3.out.trans u4)
  have c0 := u4.cell HC3.out
  clear HC3 HT3 HU3 u4
  rw [k2]
  clear k2
  generalize hbr : (b64R c).1 = r at *
  have HBR := Hid.of hbr
  clear hbr
  obtain ⟨va, vc, rfl, hvc, hvs⟩ := ov.sl
  rw [k3] at hvc ⊢
  obtain ⟨gb4, off4, rfl, hg4, hc4⟩ := hvs.resolve_left (by rintro rfl; simp at k3)
  have hgne4 : gb4 ≠ w.heap.size := by
    have := (World.ownsRow.lt ov gb4 rfl).1
    omega
  have hrg : W4.rangeAt gb4 off4 (cb r) := by
    intro j v hv
    have hj : j < r.length := by
      have := (List.getElem?_eq_some_iff.1 hv).1
      rwa [cb_length] at this
    rw [cb_get hj] at hv
    rw [← Option.some.inj hv]
    exact hc4 j hj
  have hcl : (cb r).length = 32 := by rw [cb_length]; exact k3
  have HO := Hid.of (And.intro hrg (And.intro hc4 hvs))
  clear hvs ov hc4 hrg
  have u52 := Tryd.underlying52
  have i52 : (Tryd.prog.info? 52).map (·.size) = some (cb r).length := by rw [hcl]; kernel_rfl
  have har : ∀ w0, (Instr.arrayAt 52 (.slice (some ⟨gb4, off4, none⟩) 32 vc)).run Tryd.prog w0 = .ok (.pointer (some ⟨gb4, off4, none⟩)) w0 := fun w0 => run_arrayAt w0 52 _ 32 _ 32 vc Tryd.underlying52 (Nat.le_refl _)
  go_wp2_with fail
  refine wp_region_held_drew (S := fun w2 => w2.cell? ⟨g, 0, none⟩ = some (.string ⟨a.toArray⟩) ∧ w2.rangeAt gb4 off4 (cb r) ∧ w2.there w.heap.size 0 34 ∧ Up w w2) (by kernel_rfl) ⟨c0, HO.out.1, HT4.out, HU4.out.drew⟩ (fun hS => ?_)
  refine wpAnyH_take (i := 0) (oi := { dst := some 56, op := Op.move (Operand.tmp 4), type := 123, pos := "head.go:45", after := #[], guard := none }) (v := .slice (some ⟨g, 0, none⟩) 3 cp) rfl (by kernel_rfl) (by kernel_rfl) (by kernel_rfl) (fun _ _ _ h => h) (Or.inl ⟨by kernel_rfl, ?_⟩) hS ?_
  · intro w5 hSw
    go_simp
  simp only [Act.put, List.setIfInBounds_toArray, List.set_cons_zero, List.set_cons_succ]
  refine wpAnyH_take (i := 1) (oi := { dst := some 57, op := Op.indexAddr 123 (Operand.tmp 56) (Operand.const (Value.int IntKind.i64 0)), type := 0, pos := "head.go:45", after := #[{ on := 0, ground := Ground.data }], guard := none }) (v := .pointer (some ⟨g, 0, none⟩)) rfl (by kernel_rfl) (by kernel_rfl) (by kernel_rfl) (fun _ _ _ h => h) (Or.inl ⟨by kernel_rfl, ?_⟩) hS ?_
  · intro w5 hSw
    go_simp
  simp only [Act.put, List.setIfInBounds_toArray, List.set_cons_zero, List.set_cons_succ]
  refine wpAnyH_take (i := 2) (oi := { dst := some 58, op := Op.load 9 (Operand.tmp 57), type := 9, pos := "head.go:45", after := #[{ on := 1, ground := Ground.data }], guard := none }) (v := .string ⟨a.toArray⟩) rfl (by kernel_rfl) (by kernel_rfl) (by kernel_rfl) (fun _ _ _ h => h) (Or.inl ⟨by kernel_rfl, ?_⟩) hS ?_
  · intro w5 hSw
    have h5 := hSw.1
    go_simp
  simp only [Act.put, List.setIfInBounds_toArray, List.set_cons_zero, List.set_cons_succ]
  refine wpAnyH_take (i := 3) (oi := { dst := some 59, op := Op.move (Operand.tmp 6), type := 2, pos := "head.go:45", after := #[], guard := none }) (v := .int .i64 n) rfl (by kernel_rfl) (by kernel_rfl) (by kernel_rfl) (fun _ _ _ h => h) (Or.inl ⟨by kernel_rfl, ?_⟩) hS ?_
  · intro w5 hSw
    go_simp
  simp only [Act.put, List.setIfInBounds_toArray, List.set_cons_zero, List.set_cons_succ]
  refine wpAnyH_take (i := 4) (oi := { dst := some 60, op := Op.move (Operand.tmp 8), type := 22, pos := "head.go:45", after := #[], guard := none }) (v := .slice (some ⟨gb4, off4, none⟩) 32 vc) rfl (by kernel_rfl) (by kernel_rfl) (by kernel_rfl) (fun _ _ _ h => h) (Or.inl ⟨by kernel_rfl, ?_⟩) hS ?_
  · intro w5 hSw
    go_simp
  simp only [Act.put, List.setIfInBounds_toArray, List.set_cons_zero, List.set_cons_succ]
  refine wpAnyH_take (i := 5) (oi := { dst := some 61, op := Op.sliceToArrayPointer 52 (Operand.tmp 60), type := 0, pos := "head.go:45", after := #[{ on := 4, ground := Ground.data }], guard := none }) (v := .pointer (some ⟨gb4, off4, none⟩)) rfl (by kernel_rfl) (by kernel_rfl) (by kernel_rfl) (fun _ _ _ h => h) (Or.inl ⟨by kernel_rfl, ?_⟩) hS ?_
  · intro w5 hSw
    go_simp
  simp only [Act.put, List.setIfInBounds_toArray, List.set_cons_zero, List.set_cons_succ]
  refine wpAnyH_take (i := 6) (oi := { dst := some 62, op := Op.load 52 (Operand.tmp 61), type := 52, pos := "head.go:45", after := #[{ on := 5, ground := Ground.data }], guard := none }) (v := .agg (cb r).toArray) rfl (by kernel_rfl) (by kernel_rfl) (by kernel_rfl) (fun _ _ _ h => h) (yieldsIf_load_mid (by kernel_rfl) _ _ rfl gb4 off4 rfl (cb r) _ (fun w5 hSw => hSw.2.1) u52 rfl i52) hS ?_
  simp only [Act.put, List.setIfInBounds_toArray, List.set_cons_zero, List.set_cons_succ]
  refine wpAnyH_take (i := 7) (oi := { dst := some 63, op := Op.build 54 #[(0, Operand.tmp 58), (1, Operand.tmp 59), (2, Operand.tmp 62)], type := 54, pos := "head.go:45", after := #[{ on := 2, ground := Ground.data }, { on := 3, ground := Ground.data }, { on := 6, ground := Ground.data }], guard := none }) (v := .agg (headC ⟨a.toArray⟩ n r).toArray) rfl (by kernel_rfl) (by kernel_rfl) (by kernel_rfl) (fun _ _ _ h => h) (Or.inl ⟨by kernel_rfl, ?_⟩) hS ?_
  · intro w5 hSw
    go_simp
    exact fold_head _ _ _ _ k3 rfl rfl
  simp only [Act.put, List.setIfInBounds_toArray, List.set_cons_zero, List.set_cons_succ]
  refine wpAnyH_ready (rs := [8]) (by kernel_rfl) (by simp) ?_
  refine AllReadyH.cons (o := { dst := none, op := Op.store 54 (Operand.tmp 2) (Operand.tmp 63), type := 0, pos := "head.go:45", after := #[{ on := 7, ground := Ground.data }, { on := 0, ground := Ground.phase }, { on := 1, ground := Ground.phase }, { on := 2, ground := Ground.phase }, { on := 3, ground := Ground.phase }, { on := 4, ground := Ground.phase }, { on := 5, ground := Ground.phase }, { on := 6, ground := Ground.phase }, { on := 7, ground := Ground.phase }], guard := none }) rfl (fun K hK => ?_) AllReadyH.nil
  rw [if_pos (by kernel_rfl)]
  refine wp_store_mid _ _ _ rfl w.heap.size 0 (headC ⟨a.toArray⟩ n r).toArray rfl rfl (by rw [show (headC ⟨a.toArray⟩ n r).toArray.size = 34 by rw [List.size_toArray, headC_len k3]]; exact hS.2.2.1) (by rw [show (headC ⟨a.toArray⟩ n r).toArray.size = 34 by rw [List.size_toArray, headC_len k3]]; exact infoH) (all_oneCell_toArray (headC_one _ _ _)) ?_
  simp only [Act.put]
  have hS2 : (W4.drew.setCells w.heap.size 0 (headC ⟨a.toArray⟩ n r)).cell? ⟨g, 0, none⟩ = some (.string ⟨a.toArray⟩) ∧ (W4.drew.setCells w.heap.size 0 (headC ⟨a.toArray⟩ n r)).rangeAt gb4 off4 (cb r) ∧ (W4.drew.setCells w.heap.size 0 (headC ⟨a.toArray⟩ n r)).there w.heap.size 0 34 ∧ Up w (W4.drew.setCells w.heap.size 0 (headC ⟨a.toArray⟩ n r)) :=
    ⟨(World.cell?_setCells_out _ _ _ _ _ (fun e => absurd e hgne)).trans hS.1, World.rangeAt_setCells_apart hS.2.1 _ _ _ (.inl hgne4), World.there_setCells hS.2.2.1 _ _ _, up_setCells (Nat.le_refl _) _ 0 hS.2.2.2⟩
  have HRG := Hid.of (World.rangeAt_setCells_same W4.drew w.heap.size 0 (headC ⟨a.toArray⟩ n r) (by rw [headC_len k3]; exact hS.2.2.1))
  refine hK.out _ _ hS2 (fun hS3 => ?_)
  have HUZ := Hid.of hS3.2.2.2
  clear hS2 hK
  refine wpAnyH_ready (rs := [9]) (by kernel_rfl) (by simp) ?_
  refine AllReadyH.cons (o := { dst := some 3, op := Op.assign (Operand.const (Value.bool true)), type := 4, pos := "head.go:45", after := #[{ on := 8, ground := Ground.chain }, { on := 0, ground := Ground.phase }, { on := 1, ground := Ground.phase }, { on := 2, ground := Ground.phase }, { on := 3, ground := Ground.phase }, { on := 4, ground := Ground.phase }, { on := 5, ground := Ground.phase }, { on := 6, ground := Ground.phase }, { on := 7, ground := Ground.phase }, { on := 8, ground := Ground.phase }], guard := none }) rfl (fun K hK => ?_) AllReadyH.nil
  rw [if_pos (by kernel_rfl)]
  go_simp
  refine hK.out _ _ hS3 (fun hS4 => ?_)
  clear hS3 hS4 hK hS
  refine wpAnyH_done (by kernel_rfl) ?_ _
  generalize W4.drew.setCells w.heap.size 0 (headC ⟨a.toArray⟩ n r) = WZ at *
  go_wp2_with fail
  refine bodyPost_ret (result_cell_tmp Tryd.results63 _ _ w.heap.size (headC ⟨a.toArray⟩ n r) _ rfl rfl HRG.out Tryd.underlying54 rfl (by rw [headC_len k3]; exact infoH)) rfl ?_
  rw [HPN.out, HBR.out]
  exact ⟨rfl, HUZ.out⟩
theorem readHead_walk (s : ByteArray) (w : World) (hG : GH w) :
    Calls Tryd.prog 63 #[.string s] w fun e w' => e = .returned (.tuple #[.agg (hdC (rdH s.data.toList)).toArray, .bool (rdH s.data.toList).isSome]) ∧ Up w w' := by
  cases h : rdH s.data.toList with
  | none =>
    have := readHead_bad s w hG h
    rwa [h] at this
  | some x =>
    obtain ⟨h1, a, b, c, h2, h3, h4, h5, h6, rfl⟩ := rdH_some h
    exact readHead_ok s w hG a b c h1 h2 h3 h4 h5 h6
end Go.Proofs.YtbdbpmeaiiodgaaDoor
