import Derived.Test.YtfnbodpbdfeiiaaDoorSymb
import Derived.Test.YtfnbodpbdfeiiaaDoorLaid
import Derived.Test.YtfnbodpbdfeiiaaDoorRow
import Derived.Test.YtfnbodpbdfeiiaaDoorTie
import Derived.Test.YtfnbodpbdfeiiaaDoorCards
import Derived.ProofKit
import Derived.LaidMore
import Derived.OpenShut
import Derived.Stop.Joined
import Derived.SevenTiedAt
namespace Go.Proofs.YtfnbodpbdfeiiaaDoor
open Go.ChangeShapes Go.WideShapes Go.ChangeAt Go.WideMaps Go.WideElems Go.RowKit Go.Shelf FieldNum

theorem leg_bounds (a : Nat) : -1 ≤ leg a ∧ leg a ≤ 1 := by
  unfold leg
  split
  · decide
  · split <;> decide
theorem leg_wrap {x y : Int} (hx : -1 ≤ x ∧ x ≤ 1) (hy : -1 ≤ y ∧ y ≤ 1) : IntKind.i64.wrap (x * y) = x * y := by
  have h1 : x = -1 ∨ x = 0 ∨ x = 1 := by omega
  have h2 : y = -1 ∨ y = 0 ∨ y = 1 := by omega
  rcases h1 with rfl | rfl | rfl <;> rcases h2 with rfl | rfl | rfl <;> decide
theorem ng_one : ng 1 = p - 1 := by decide +kernel
theorem legu (u : Nat) (hu : u = 1) : leg (ng u) = 1 := by rw [hu, ng_one]; exact leg_neg_one
theorem legt (t : Nat) (ht : t = 2) : leg t = -1 := by rw [ht]; exact leg_two

theorem symDoor_met (os : Os) (args : Array Value) : laidMetH Tryd.prog Rows.fieldSymbolsRow.laid ((World.doorLaid Tryd.prog 400 os).forCall (fun _ _ => 0) ⟨#[], args, []⟩).memory :=
  laidMetH_of_parts3 (fuel := 8) (laidMet_of_run' 8 (by kernel_rfl) (by kernel_rfl)) (by kernel_rfl) (by kernel_rfl)

set_option maxHeartbeats 400000 in
set_option maxRecDepth 100000 in
theorem symbols_lifted (os : Os) (started : os.Started) (H : Type) (enc : TypeId × Value → H) :
    ReturnsInHanded {} Tryd.checked os 4 .any (fun w args => (Rows.fieldSymbolsSpec.pre enc Tryd.prog Tryd.f4 [] false w args ∧ laidMetH Tryd.prog Rows.fieldSymbolsRow.laid w) ∧ sizedMet enc Tryd.prog Tryd.f4 (OpenSpec.ofChange Rows.fieldSymbolsSpec) false w args)
      (Rows.fieldSymbolsSpec.post enc Tryd.prog Tryd.f4 false true false false) := by
  refine returnsInHanded_of_change_and (C := Tryd.checked) (X := fun w _ => laidMetH Tryd.prog Rows.fieldSymbolsRow.laid w) (fun _ _ _ hh h => h.of_heap hh) Tryd.own started (by kernel_rfl) Tryd.func4
    (ChangeSpec.witness_shaped (enc := enc) (C := Tryd.checked) (os := os) (X := fun w _ => laidMetH Tryd.prog Rows.fieldSymbolsRow.laid w) false (World.doorLaid Tryd.prog 400 os) #[bv 0, bv 0] 8 rfl (World.shaped_of_RefB (by kernel_rfl) (by kernel_rfl)) (by kernel_rfl) (by kernel_rfl) (by kernel_rfl) (symDoor_met os _)) ?_
  intro W base args ds gs before hval0 hW _ _ hL _
  have hval : ∀ (j : Nat) t v, Tryd.f4.params[j]? = some t → args[j]? = some v → Value.okWide Tryd.prog W .any base t v := hval0
  have hW' := hW
  obtain ⟨p, q, hA0, hV, rfl, _, _⟩ := hW
  have hA : DataW.TrodAll enc Tryd.prog W 0 (fun _ => true) true Tryd.f4.params.toList args.toList ds p := hA0
  rw [Tryd.params4] at hA hval
  obtain ⟨v0, v1, d0, d1, p0, p1, rfl, rfl, rfl, h0, h1⟩ := trodAll_two hA
  obtain ⟨rfl, rfl⟩ := trodVars_none hV
  obtain ⟨a, ha, rfl, rfl, rfl⟩ := open32 (hval 0 22 v0 rfl rfl) h0
  obtain ⟨b, hb, rfl, rfl, rfl⟩ := open32 (hval 1 22 v1 rfl rfl) h1
  clear hA0 hval0
  simp only [List.append_nil] at hW'
  obtain ⟨hO, hG⟩ := onePow_of_laid hL
  obtain ⟨u, hu⟩ : ∃ u : Nat, u = 1 := ⟨1, rfl⟩
  obtain ⟨t, ht⟩ : ∃ t : Nat, t = 2 := ⟨2, rfl⟩
  have huM : u < M := by rw [hu]; decide
  have htM : t < M := by rw [ht]; decide
  have l1 := legu u hu
  have l2 := legt t ht
  have la := leg_bounds a
  have lb := leg_bounds b
  have hm1 := leg_wrap la lb
  have hm2 := leg_wrap la la
  have hwalk : Calls Tryd.prog 4 #[bv a, bv b] W fun e w' => e = .returned (.bool true) ∧ Grown W w' := by
    by_cases hz : leg a = 0
    · exact symbols_walk0 a b u t ha hb hu huM ht htM l1 l2 la.1 la.2 hm1 hm2 hz ((leg_zero_iff a).1 hz) W hG hO
    · exact symbols_walk1 a b u t ha hb hu huM ht htM l1 l2 la.1 la.2 hm1 hm2 hz (fun h => hz ((leg_zero_iff a).2 h)) W hG hO
  refine hwalk.mono fun e W' ⟨he, hg⟩ => ?_
  subst he
  exact ⟨_, rfl, post_of_same (pa := []) (pv := []) hW' (fun _ _ _ => trodAll_mk1 (shut_bool Tryd.underlying4 true)) (fun sp _ => trodAll_mk2 (shut32 enc W' sp a) (shut32 enc W' sp b)) (fun _ _ => rfl) rfl
    (hg.frame _) hg.2.1 (ok_one (by kernel_rfl) rfl (okWide_bool_mk Tryd.underlying4 true))⟩

theorem fieldSymbols_holds : Rows.FieldSymbolsSaid :=
  OpenClaim.holds_of_wide 4 Tryd.f4 rfl rfl rfl rfl rfl rfl rfl ⟨rfl, rfl, rfl, rfl, rfl⟩ rfl rfl rfl rfl rfl (by kernel_rfl) Tryd.func4 (by kernel_rfl)
    (of_decide_eq_true (by kernel_rfl)) (by unfold Func.isWrapper; first | (rw [if_pos (by decide +kernel)]; kernel_rfl) | (rw [if_neg (by decide +kernel)]; exact ⟨rfl, rfl⟩))
    (fun os started H enc _ => symbols_lifted os started H enc)

theorem fieldSymbols_card : Rows.FieldSymbolsCardSaid :=
  Claim7.holds_tied_plain_at .later [] [.data, .data] true (true, "0a7566258907d2db312372fbc386c3bdf3e2e3b88ae3330614acfe3180f14fcb") false
    fieldSymbols_holds (fun _ h => by cases h) (by kernel_rfl) (fun _ h => by cases h) fieldSymbols_row_tie rfl ⟨rfl, rfl⟩ (by kernel_rfl) rfl
    (fun f fn hf hfn => by
      obtain rfl : f = 4 := Option.some.inj ((show Tryd.prog.funcNamed "ledger/ledgerlaw02.FieldSymbols" = some 4 by kernel_rfl).symm.trans hf) |>.symm
      obtain rfl : fn = Tryd.f4 := (Option.some.inj (Tryd.func4.symm.trans hfn)).symm
      exact ⟨by kernel_rfl, fun j t ht => by
        rw [Tryd.params4] at ht
        have hm : t ∈ [22, 22] := by simpa using Array.mem_of_getElem? ht
        have hall : ([22, 22].all fun u => !Tryd.prog.wantsStandIn u) = true := by kernel_rfl
        exact (show Tryd.prog.wantsStandIn t = false by simpa using List.all_eq_true.1 hall t hm)⟩)
    (by kernel_rfl)

#print axioms fieldSymbols_card
end Go.Proofs.YtfnbodpbdfeiiaaDoor
