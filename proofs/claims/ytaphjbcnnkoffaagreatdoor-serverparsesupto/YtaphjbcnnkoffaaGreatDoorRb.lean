import Derived.Test.YtaphjbcnnkoffaaGreatDoorRa
import Derived.Test.YtaphjbcnnkoffaaGreatDoorBd
import Derived.Test.YtaphjbcnnkoffaaGreatDoorLn
namespace Go.Proofs.YtaphjbcnnkoffaaGreatDoor
open Go.RowKit Go.Shelf TextNum ModNum
theorem At.there {w : World} {b : Nat} {t : TypeId} {cs : List Value} (h : At w b t cs) : w.there b 0 cs.length := fun j hj => by
  rw [Nat.zero_add]
  exact ⟨by rw [h.cell (List.getElem?_eq_getElem hj)]; rfl, h.thaw j⟩
theorem at_sets {b : Nat} {t : TypeId} : ∀ (vs : List Value) (o : Nat) {w : World} {cs : List Value}, At w b t cs → o + vs.length ≤ cs.length → At (w.setCells b o vs) b t (cs.take o ++ vs ++ cs.drop (o + vs.length))
  | [], o, w, cs, h, _ => by simpa [World.setCells] using h
  | v :: r, o, w, cs, h, hl => by
    have := at_sets r (o + 1) (h.set o v) (by simp at hl ⊢; omega)
    show At ((w.setCell ⟨b, o, none⟩ v).setCells b (o + 1) r) b t _
    have e : (cs.set o v).take (o + 1) ++ r ++ (cs.set o v).drop (o + 1 + r.length) = cs.take o ++ (v :: r) ++ cs.drop (o + (v :: r).length) := by
      simp only [List.length_cons] at hl ⊢
      rw [List.take_set, List.drop_set, if_pos (by omega), List.take_succ_eq_append_getElem (by omega)]
      rw [List.set_append, if_neg (by simp; omega)]
      simp [Nat.min_eq_left (by omega : o ≤ cs.length)]
      rw [show o + 1 + r.length = o + (r.length + 1) by omega]
    rw [e] at this
    exact this
theorem At.sets {w : World} {b : Nat} {t : TypeId} {cs vs : List Value} (h : At w b t cs) (hl : vs.length = cs.length) : At (w.setCells b 0 vs) b t vs := by
  have := at_sets vs 0 h (by omega)
  simpa [hl] using this
theorem grown_sets (b : Nat) : ∀ (vs : List Value) (o : Nat) (w : World), w.grownBy (w.setCells b o vs) (some b)
  | [], _, w => grown_refl w _
  | v :: r, o, w => grown_trans (grown_set w ⟨b, o, none⟩ v) (grown_sets b r (o + 1) _)
theorem wpList_store_at {P : Program} {ops : Array Oper} {rest : List Oper} {op : Oper} {a : Act} {w : World} {Q : Exit → Act → World → Prop} (hgd : op.guard = none) (ty : TypeId) (x y : Operand) (ho : op.op = .store ty x y)
    (b : Nat) {t : TypeId} {cs : List Value} (hA : At w b t cs) (vs : List Value) (hx : a.eval x = .pointer (some ⟨b, 0, none⟩)) (hy : a.eval y = .agg vs.toArray) (hl : vs.length = cs.length)
    (hi : (P.info? ty).map (·.size) = some vs.toArray.size) (h1 : vs.toArray.all (·.oneCell') = true)
    (h : ∀ w2, At w2 b t vs → w.grownBy w2 (some b) → wpList P ops Q rest (a.put op.dst undef) w2) : wpList P ops Q (op :: rest) a w :=
  wpList_store_mid hgd ty x y ho b 0 vs.toArray hx hy (by have := hA.there; rw [← hl] at this; simpa using this) hi h1 (h _ (hA.sets hl) (grown_sets b _ _ _))
abbrev Z32 : List UInt8 := List.replicate 32 0
theorem zlit : (#[Value.int IntKind.u8 0, Value.int IntKind.u8 0, Value.int IntKind.u8 0, Value.int IntKind.u8 0, Value.int IntKind.u8 0, Value.int IntKind.u8 0, Value.int IntKind.u8 0, Value.int IntKind.u8 0, Value.int IntKind.u8 0, Value.int IntKind.u8 0, Value.int IntKind.u8 0, Value.int IntKind.u8 0, Value.int IntKind.u8 0, Value.int IntKind.u8 0, Value.int IntKind.u8 0, Value.int IntKind.u8 0, Value.int IntKind.u8 0, Value.int IntKind.u8 0, Value.int IntKind.u8 0, Value.int IntKind.u8 0, Value.int IntKind.u8 0, Value.int IntKind.u8 0, Value.int IntKind.u8 0, Value.int IntKind.u8 0, Value.int IntKind.u8 0, Value.int IntKind.u8 0, Value.int IntKind.u8 0, Value.int IntKind.u8 0, Value.int IntKind.u8 0, Value.int IntKind.u8 0, Value.int IntKind.u8 0, Value.int IntKind.u8 0] : Array Value) = (cb Z32).toArray := rfl
/-- what ParseSum says -/
def psm (l : List UInt8) : List UInt8 × Int := if pfx [104, 49, 58] l = true ∧ (b64R (l.drop 3)).2 = 0 ∧ (b64R (l.drop 3)).1.length = 32 then ((b64R (l.drop 3)).1, 0) else (Z32, 114)
theorem psm_len (l : List UInt8) : (psm l).1.length = 32 := by
  unfold psm
  split
  · rename_i h; exact h.2.2
  · rfl
theorem ba_data' (l : List UInt8) : (⟨l.toArray⟩ : ByteArray).data.toList = l := rfl
theorem info32 : (Tryz.prog.info? 36).map (·.size) = some 32 := by kernel_rfl
theorem cb_all (l : List UInt8) : (cb l).toArray.all (·.oneCell') = true := by
  rw [Array.all_eq_true_iff_forall_mem]
  intro v hv
  exact cb_one l v (by simpa using hv)
theorem Cph_walk (s : ByteArray) (w : World) : Calls Tryz.prog 83 #[.string s, .string ⟨#[104, 49, 58]⟩] w fun e w' => e = .returned (.tuple #[.string ⟨(if pfx [104, 49, 58] s.data.toList = true then s.data.toList.drop 3 else s.data.toList).toArray⟩, .bool (pfx [104, 49, 58] s.data.toList)]) ∧ w' = w := by
  refine (Any.strings_CutPrefix Tryz.lays103 s ⟨#[104, 49, 58]⟩ w).mono ?_
  rintro e w' ⟨rfl, h⟩
  exact ⟨rfl, h⟩
set_option maxRecDepth 100000 in
set_option maxHeartbeats 2000000 in
theorem ParseSum_walk (s : ByteArray) (w : World) (hT : TabL w) : Calls Tryz.prog 53 #[.string s] w fun e w' => e = .returned (.tuple #[.agg (cb (psm s.data.toList).1).toArray, .int .i64 (psm s.data.toList).2]) ∧ Up w w' := by
  have HP := fun w' => Hid.of (Cph_walk s w')
  have HR : Hid (psm s.data.toList = if pfx [104, 49, 58] s.data.toList = true ∧ (b64R (s.data.toList.drop 3)).2 = 0 ∧ (b64R (s.data.toList.drop 3)).1.length = 32 then ((b64R (s.data.toList.drop 3)).1, 0) else (Z32, 114)) := rfl
  cases hp : pfx [104, 49, 58] s.data.toList with
  | false =>
    have HN := Hid.of (HR.out.trans (if_neg (by rw [hp]; rintro ⟨h, _⟩; cases h)))
    rw [hp] at HP
    clear hp HR hT
    go_enter Tryz.func53, Tryz.ntmps53
    go_wp2_with fail
    refine ((HP _).out).mono ?_
    rintro e w9 ⟨rfl, h9⟩
    obtain rfl := h9.symm
    clear h9
    dsimp only
    have HA := Hid.of (at_new w 36 (cb Z32))
    have HU := Hid.of ((Up.refl w).alloc (.cells (cb Z32).toArray 36))
    rw [zlit]
    generalize w.alloc (.cells (cb Z32).toArray 36) = W0 at *
    go_wp2_with (with_reducible show wpList _ _ _ ({ dst := _, op := Op.store 36 _ _, type := _, pos := _, after := _, guard := _ } :: _) _ _; refine Shut.out ?_)
    show wpList _ _ _ _ _ _
    refine wpList_store_at rfl _ _ _ rfl w.heap.size HA.out (cb Z32) rfl rfl rfl (by kernel_rfl) (cb_all _) fun w2 hA2 hg2 => ?_
    have HA2 := Hid.of hA2
    have HU2 := Hid.of (HU.out.by hg2 (fun g hg => by injection hg with hg; omega))
    clear hA2 hg2 HA HU
    simp only [Act.put]
    go_wp2
    refine bodyPost_ret (result_cell_tmp Tryz.results53 _ _ w.heap.size (cb Z32) _ rfl rfl HA2.out.range Tryz.underlying36 rfl (by kernel_rfl)) rfl ?_
    rw [HN.out]
    exact ⟨rfl, HU2.out⟩
  | true =>
    have HD := fun w' => fun (u : Up w w') => Hid.of (DecodeBase64_walk ⟨(s.data.toList.drop 3).toArray⟩ w' (hT.below hT.lt u))
    rw [hp, if_pos rfl] at HP
    have HR2 := Hid.of (show psm s.data.toList = if (b64R (s.data.toList.drop 3)).2 = 0 ∧ (b64R (s.data.toList.drop 3)).1.length = 32 then ((b64R (s.data.toList.drop 3)).1, 0) else (Z32, 114) from HR.out.trans (by simp [hp]))
    clear hp HR hT
    rw [ba_data'] at HD
    generalize b64R (s.data.toList.drop 3) = r at *
    obtain ⟨x, k⟩ := r
    dsimp only at HR2 HD
    go_enter Tryz.func53, Tryz.ntmps53
    go_wp2_with fail
    refine ((HP _).out).mono ?_
    rintro e w9 ⟨rfl, h9⟩
    obtain rfl := h9.symm
    clear h9
    dsimp only
    have HA := Hid.of (at_new w 36 (cb Z32))
    have HU := Hid.of ((Up.refl w).alloc (.cells (cb Z32).toArray 36))
    rw [zlit]
    generalize w.alloc (.cells (cb Z32).toArray 36) = W0 at *
    go_wp2_with fail
    refine (HD _ HU.out).out.mono ?_
    rintro e w1 ⟨v, rfl, hO, u1⟩
    obtain ⟨va, vc, rfl⟩ := hO.len
    have HS1 := Hid.of hO.sl
    have HA1 := Hid.of (HA.out.up u1)
    have HU1 := Hid.of (HU.out.trans u1)
    clear hO u1 HA HU HD
    dsimp only
    by_cases h0 : k = 0 ∧ x.length = 32
    · have HN := Hid.of (HR2.out.trans (if_pos h0))
      obtain ⟨rfl, hx⟩ := h0
      obtain ⟨a', c', e', hcc, hcl⟩ := HS1.out
      injection e' with e1 e2 e3
      subst e1 e3
      rcases hcl with h | ⟨gb, off, rfl, hgb, hcl⟩
      · rw [h] at hx; cases hx
      · have HX := Hid.of hx
        have hrg : w1.rangeAt gb off (cb x) := fun j v hj => by
          have hj2 : j < x.length := by rw [← cb_length]; exact (List.getElem?_eq_some_iff.1 hj).1
          rw [cb_get hj2] at hj
          injection hj with hj
          rw [← hj]
          exact hcl j hj2
        have HRG := Hid.of hrg
        have har : ∀ w0, (Instr.arrayAt 36 (.slice (some ⟨gb, off, none⟩) 32 vc)).run Tryz.prog w0 = .ok (.pointer (some ⟨gb, off, none⟩)) w0 := fun w0 => run_arrayAt w0 36 _ 32 _ 32 vc Tryz.underlying36 (Nat.le_refl _)
        rw [hx]
        clear hx hrg hcl hgb hcc HS1 HR2 HP
        go_wp2_with (with_reducible show wpList _ _ _ ({ dst := _, op := Op.load 36 _, type := _, pos := _, after := _, guard := _ } :: _) _ _; refine Shut.out ?_)
        show wpList _ _ _ _ _ _
        refine wpList_load_mid rfl _ _ rfl gb off rfl (cb x) _ HRG.out Tryz.underlying36 rfl (by rw [cb_length, HX.out]; kernel_rfl) ?_
        simp only [Act.put, List.setIfInBounds_toArray, List.set_cons_zero, List.set_cons_succ]
        go_wp2_with (with_reducible show wpList _ _ _ ({ dst := _, op := Op.store 36 _ _, type := _, pos := _, after := _, guard := _ } :: _) _ _; refine Shut.out ?_)
        show wpList _ _ _ _ _ _
        refine wpList_store_at rfl _ _ _ rfl w.heap.size HA1.out (cb x) rfl rfl (by rw [cb_length, cb_length, HX.out]; rfl) (by rw [List.size_toArray, cb_length, HX.out]; kernel_rfl) (cb_all _) fun w2 hA2 hg2 => ?_
        have HA2 := Hid.of hA2
        have HU2 := Hid.of (HU1.out.by hg2 (fun g hg => by injection hg with hg; omega))
        clear hA2 hg2 HA1 HU1
        simp only [Act.put]
        go_wp2
        refine bodyPost_ret (result_cell_tmp Tryz.results53 _ _ w.heap.size (cb x) _ rfl rfl HA2.out.range Tryz.underlying36 rfl (by rw [cb_length, HX.out]; kernel_rfl)) rfl ?_
        rw [HN.out]
        exact ⟨rfl, HU2.out⟩
    · have HN := Hid.of (HR2.out.trans (if_neg h0))
      clear HR2 HS1
      generalize x.length = xl at *
      by_cases hk : k = 0
      · subst hk
        have hxz : ((xl : Int) != 32) = true := by rw [bne_iff_ne]; intro h; exact h0 ⟨rfl, by omega⟩
        clear h0
        go_wp2_with (with_reducible show wpList _ _ _ ({ dst := _, op := Op.store 36 _ _, type := _, pos := _, after := _, guard := _ } :: _) _ _; refine Shut.out ?_)
        show wpList _ _ _ _ _ _
        refine wpList_store_at rfl _ _ _ rfl w.heap.size HA1.out (cb Z32) rfl rfl rfl (by kernel_rfl) (cb_all _) fun w2 hA2 hg2 => ?_
        have HA2 := Hid.of hA2
        have HU2 := Hid.of (HU1.out.by hg2 (fun g hg => by injection hg with hg; omega))
        clear hA2 hg2 HA1 HU1
        simp only [Act.put]
        go_wp2
        refine bodyPost_ret (result_cell_tmp Tryz.results53 _ _ w.heap.size (cb Z32) _ rfl rfl HA2.out.range Tryz.underlying36 rfl (by kernel_rfl)) rfl ?_
        rw [HN.out]
        exact ⟨rfl, HU2.out⟩
      · have hkz : (k != 0) = true := by rw [bne_iff_ne]; exact hk
        clear h0 hk
        go_wp2_with (with_reducible show wpList _ _ _ ({ dst := _, op := Op.store 36 _ _, type := _, pos := _, after := _, guard := _ } :: _) _ _; refine Shut.out ?_)
        show wpList _ _ _ _ _ _
        refine wpList_store_at rfl _ _ _ rfl w.heap.size HA1.out (cb Z32) rfl rfl rfl (by kernel_rfl) (cb_all _) fun w2 hA2 hg2 => ?_
        have HA2 := Hid.of hA2
        have HU2 := Hid.of (HU1.out.by hg2 (fun g hg => by injection hg with hg; omega))
        clear hA2 hg2 HA1 HU1
        simp only [Act.put]
        go_wp2
        refine bodyPost_ret (result_cell_tmp Tryz.results53 _ _ w.heap.size (cb Z32) _ rfl rfl HA2.out.range Tryz.underlying36 rfl (by kernel_rfl)) rfl ?_
        rw [HN.out]
        exact ⟨rfl, HU2.out⟩
end Go.Proofs.YtaphjbcnnkoffaaGreatDoor
