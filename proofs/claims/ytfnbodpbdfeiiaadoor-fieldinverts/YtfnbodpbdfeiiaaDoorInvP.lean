import Derived.Test.YtfnbodpbdfeiiaaDoorInverts
import Derived.Test.YtfnbodpbdfeiiaaDoorRow
import Derived.Test.YtfnbodpbdfeiiaaDoorTie
import Derived.Test.YtfnbodpbdfeiiaaDoorCards
import Derived.ProofKit
import Derived.LaidMore
import Derived.OpenShut
import Derived.Stop.Joined
import Derived.SevenTiedAt
namespace Go.Proofs.YtfnbodpbdfeiiaaDoor
open Go.ChangeShapes Go.WideShapes Go.ChangeAt Go.WideMaps Go.WideElems Go.RowKit Go.Shelf FieldNum

theorem gPow : Tryd.prog.globalNamed "ledger/field.powers" = some 2 := by kernel_rfl
theorem tPow : (Tryd.prog.globals[2]?).map (·.type) = some 60 := by kernel_rfl
theorem cellsRow : Tryd.prog.cellsOf 59 = 2 := by kernel_rfl
theorem cellsInt : Tryd.prog.cellsOf 3 = 1 := by kernel_rfl

theorem row2 {W : World} {sp : Nat → Bool} {m : Nat} {cs : List Value} {s q : Int} {pl : List MemPlace}
    (h : DataW.trod (fun _ => ()) Tryd.prog W 0 sp false m 59 cs = some (.agg [.lit (.int .i64 s), .lit (.int .i64 q)], pl)) : cs = [.int .i64 s, .int .i64 q] := by
  obtain ⟨ys, n, rfl, hx, hl, hn, hel⟩ := DataW.trod_struct Tryd.underlying59 h
  rw [cellsRow] at hl
  have e0 : DataW.trod (fun _ => ()) Tryd.prog W 0 sp false n 3 ((cs.drop 0).take (Tryd.prog.cellsOf 3)) = ys[0]? := hel 0 _ rfl
  have e1 : DataW.trod (fun _ => ()) Tryd.prog W 0 sp false n 3 ((cs.drop 1).take (Tryd.prog.cellsOf 3)) = ys[1]? := hel 1 _ rfl
  rw [cellsInt] at e0 e1
  match cs, hl with
  | [c0, c1], _ =>
    match ys, hn with
    | [y0, y1], _ =>
      simp only [Prod.mk.injEq, DataW.agg.injEq, List.map_cons, List.map_nil, List.cons.injEq, and_true] at hx
      obtain ⟨z0, a0, b0, _⟩ := DataW.trod_int Tryd.underlying3 (show DataW.trod _ Tryd.prog W 0 _ false n 3 _ = some y0 from e0)
      obtain ⟨z1, a1, b1, _⟩ := DataW.trod_int Tryd.underlying3 (show DataW.trod _ Tryd.prog W 0 _ false n 3 _ = some y1 from e1)
      simp at a0 a1
      subst a0 a1
      rw [b0, b1] at hx
      simp at hx
      obtain ⟨⟨rfl, rfl⟩, _⟩ := hx
      rfl

theorem take2 {l : List Value} {k : Nat} {x y : Value} (h : (l.drop k).take 2 = [x, y]) : l[k]? = some x ∧ l[k + 1]? = some y := by
  have h0 := congrArg (·[0]?) h
  have h1 := congrArg (·[1]?) h
  simpa [List.getElem?_take, List.getElem?_drop] using And.intro h0 h1

theorem pow_of_laid {W : World} (h : laidMetH Tryd.prog Rows.fieldInvertsRow.laid W) : W.rangeAt 2 0 PW := by
  rw [MakeChecks.laidMetH_plain _ _ _ (by kernel_rfl)] at h
  obtain ⟨ps, ⟨g0, t0, cs0, f0, p0, q0, hg0, ht0, hv0, hd0, _, _⟩, _, _⟩ := h
  obtain rfl := Option.some.inj (gPow.symm.trans hg0)
  obtain rfl := Option.some.inj (tPow.symm.trans ht0)
  have hc := World.var?_cell hg0 hv0
  obtain ⟨xs, m1, rfl, hx1, hlen, hn, hel⟩ := DataW.trod_array Tryd.underlying60 hd0
  rw [cellsRow] at hel
  simp only [Prod.mk.injEq] at hx1
  have hD := hx1.1
  unfold Rows.laid_ledger_field_powers at hD
  simp only [DataW.agg.injEq] at hD
  match xs, hn, hD, hel with
  | [y0, y1, y2, y3, y4, y5, y6, y7, y8, y9], _, hD, hel =>
    simp only [List.map_cons, List.map_nil, List.cons.injEq, and_true] at hD
    obtain ⟨d0, d1, d2, d3, d4, d5, d6, d7, d8, d9⟩ := hD
    have r0 := take2 (row2 (pl := y0.2) ((hel 0 (by decide)).trans (by rw [d0]; rfl)))
    have r1 := take2 (row2 (pl := y1.2) ((hel 1 (by decide)).trans (by rw [d1]; rfl)))
    have r2 := take2 (row2 (pl := y2.2) ((hel 2 (by decide)).trans (by rw [d2]; rfl)))
    have r3 := take2 (row2 (pl := y3.2) ((hel 3 (by decide)).trans (by rw [d3]; rfl)))
    have r4 := take2 (row2 (pl := y4.2) ((hel 4 (by decide)).trans (by rw [d4]; rfl)))
    have r5 := take2 (row2 (pl := y5.2) ((hel 5 (by decide)).trans (by rw [d5]; rfl)))
    have r6 := take2 (row2 (pl := y6.2) ((hel 6 (by decide)).trans (by rw [d6]; rfl)))
    have r7 := take2 (row2 (pl := y7.2) ((hel 7 (by decide)).trans (by rw [d7]; rfl)))
    have r8 := take2 (row2 (pl := y8.2) ((hel 8 (by decide)).trans (by rw [d8]; rfl)))
    have r9 := take2 (row2 (pl := y9.2) ((hel 9 (by decide)).trans (by rw [d9]; rfl)))
    intro j v hv
    rw [Nat.zero_add, hc j, ← Array.getElem?_toList]
    have hj : j < 20 := by
      have := (List.getElem?_eq_some_iff.1 hv).1
      simpa [PW] using this
    have hcases : j = 0 ∨ j = 1 ∨ j = 2 ∨ j = 3 ∨ j = 4 ∨ j = 5 ∨ j = 6 ∨ j = 7 ∨ j = 8 ∨ j = 9 ∨ j = 10 ∨ j = 11 ∨ j = 12 ∨ j = 13 ∨ j = 14 ∨ j = 15 ∨ j = 16 ∨ j = 17 ∨ j = 18 ∨ j = 19 := by omega
    rcases hcases with rfl | rfl | rfl | rfl | rfl | rfl | rfl | rfl | rfl | rfl | rfl | rfl | rfl | rfl | rfl | rfl | rfl | rfl | rfl | rfl
    · exact r0.1.trans hv
    · exact r0.2.trans hv
    · exact r1.1.trans hv
    · exact r1.2.trans hv
    · exact r2.1.trans hv
    · exact r2.2.trans hv
    · exact r3.1.trans hv
    · exact r3.2.trans hv
    · exact r4.1.trans hv
    · exact r4.2.trans hv
    · exact r5.1.trans hv
    · exact r5.2.trans hv
    · exact r6.1.trans hv
    · exact r6.2.trans hv
    · exact r7.1.trans hv
    · exact r7.2.trans hv
    · exact r8.1.trans hv
    · exact r8.2.trans hv
    · exact r9.1.trans hv
    · exact r9.2.trans hv

theorem invDoor_met (os : Os) (args : Array Value) : laidMetH Tryd.prog Rows.fieldInvertsRow.laid ((World.doorLaid Tryd.prog 400 os).forCall (fun _ _ => 0) ⟨#[], args, []⟩).memory :=
  laidMetH_of_parts3 (fuel := 8) (laidMet_of_run' 8 (by kernel_rfl) (by kernel_rfl)) (by kernel_rfl) (by kernel_rfl)

set_option maxHeartbeats 400000 in
set_option maxRecDepth 100000 in
theorem inverts_lifted (os : Os) (started : os.Started) (H : Type) (enc : TypeId × Value → H) :
    ReturnsInHanded {} Tryd.checked os 6 .any (fun w args => (Rows.fieldInvertsSpec.pre enc Tryd.prog Tryd.f6 [] false w args ∧ laidMetH Tryd.prog Rows.fieldInvertsRow.laid w) ∧ sizedMet enc Tryd.prog Tryd.f6 (OpenSpec.ofChange Rows.fieldInvertsSpec) false w args)
      (Rows.fieldInvertsSpec.post enc Tryd.prog Tryd.f6 false true false false) := by
  refine returnsInHanded_of_change_and (C := Tryd.checked) (X := fun w _ => laidMetH Tryd.prog Rows.fieldInvertsRow.laid w) (fun _ _ _ hh h => h.of_heap hh) Tryd.own started (by kernel_rfl) Tryd.func6
    (ChangeSpec.witness_shaped (enc := enc) (C := Tryd.checked) (os := os) (X := fun w _ => laidMetH Tryd.prog Rows.fieldInvertsRow.laid w) false (World.doorLaid Tryd.prog 400 os) #[bv 0, bv 0] 8 rfl (World.shaped_of_RefB (by kernel_rfl) (by kernel_rfl)) (by kernel_rfl) (by kernel_rfl) (by kernel_rfl) (invDoor_met os _)) ?_
  intro W base args ds gs before hval0 hW _ _ hL _
  have hval : ∀ (j : Nat) t v, Tryd.f6.params[j]? = some t → args[j]? = some v → Value.okWide Tryd.prog W .any base t v := hval0
  have hW' := hW
  obtain ⟨p, q, hA0, hV, rfl, _, _⟩ := hW
  have hA : DataW.TrodAll enc Tryd.prog W 0 (fun _ => true) true Tryd.f6.params.toList args.toList ds p := hA0
  rw [Tryd.params6] at hA hval
  obtain ⟨v0, v1, d0, d1, p0, p1, rfl, rfl, rfl, h0, h1⟩ := trodAll_two hA
  obtain ⟨rfl, rfl⟩ := trodVars_none hV
  obtain ⟨a, ha, rfl, rfl, rfl⟩ := open32 (hval 0 22 v0 rfl rfl) h0
  obtain ⟨b, hb, rfl, rfl, rfl⟩ := open32 (hval 1 22 v1 rfl rfl) h1
  clear hA0 hval0
  simp only [List.append_nil] at hW'
  have hG := pow_of_laid hL
  obtain ⟨t, ht⟩ : ∃ t : Nat, t = 2 := ⟨2, rfl⟩
  have htM : t < M := by rw [ht]; decide
  have hh := half_gen t ht
  have hwalk : Calls Tryd.prog 6 #[bv a, bv b] W fun e w' => e = .returned (.bool true) ∧ Grown W w' := by
    by_cases hz : fred a = 0
    · exact inverts_walk0 a b t ha hb ht htM hh hz W hG
    · exact inverts_walk1 a b t ha hb ht htM hh hz W hG
  refine hwalk.mono fun e W' ⟨he, hg⟩ => ?_
  subst he
  exact ⟨_, rfl, post_of_same (pa := []) (pv := []) hW' (fun _ _ _ => trodAll_mk1 (shut_bool Tryd.underlying4 true)) (fun sp _ => trodAll_mk2 (shut32 enc W' sp a) (shut32 enc W' sp b)) (fun _ _ => rfl) rfl
    (hg.frame _) hg.2.1 (ok_one (by kernel_rfl) rfl (okWide_bool_mk Tryd.underlying4 true))⟩

theorem fieldInverts_holds : Rows.FieldInvertsSaid :=
  OpenClaim.holds_of_wide 6 Tryd.f6 rfl rfl rfl rfl rfl rfl rfl ⟨rfl, rfl, rfl, rfl, rfl⟩ rfl rfl rfl rfl rfl (by kernel_rfl) Tryd.func6 (by kernel_rfl)
    (of_decide_eq_true (by kernel_rfl)) (by unfold Func.isWrapper; first | (rw [if_pos (by decide +kernel)]; kernel_rfl) | (rw [if_neg (by decide +kernel)]; exact ⟨rfl, rfl⟩))
    (fun os started H enc _ => inverts_lifted os started H enc)

theorem fieldInverts_card : Rows.FieldInvertsCardSaid :=
  Claim7.holds_tied_plain_at .later [] [.data] true (true, "0a7566258907d2db312372fbc386c3bdf3e2e3b88ae3330614acfe3180f14fcb") false
    fieldInverts_holds (fun _ h => by cases h) (by kernel_rfl) (fun _ h => by cases h) fieldInverts_row_tie rfl ⟨rfl, rfl⟩ (by kernel_rfl) rfl
    (fun f fn hf hfn => by
      obtain rfl : f = 6 := Option.some.inj ((show Tryd.prog.funcNamed "ledger/ledgerlaw02.FieldInverts" = some 6 by kernel_rfl).symm.trans hf) |>.symm
      obtain rfl : fn = Tryd.f6 := (Option.some.inj (Tryd.func6.symm.trans hfn)).symm
      exact ⟨by kernel_rfl, fun j t ht => by
        rw [Tryd.params6] at ht
        have hm : t ∈ [22, 22] := by simpa using Array.mem_of_getElem? ht
        have hall : ([22, 22].all fun u => !Tryd.prog.wantsStandIn u) = true := by kernel_rfl
        exact (show Tryd.prog.wantsStandIn t = false by simpa using List.all_eq_true.1 hall t hm)⟩)
    (by kernel_rfl)

#print axioms fieldInverts_card
end Go.Proofs.YtfnbodpbdfeiiaaDoor
