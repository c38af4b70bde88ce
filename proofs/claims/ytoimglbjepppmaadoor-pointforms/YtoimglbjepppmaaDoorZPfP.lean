import Derived.Test.YtoimglbjepppmaaDoorZPfhigh0
import Derived.Test.YtoimglbjepppmaaDoorZPfnone0
import Derived.Test.YtoimglbjepppmaaDoorZPfhigh1
import Derived.Test.YtoimglbjepppmaaDoorZPfnone1
import Derived.Test.YtoimglbjepppmaaDoorZPfsign
import Derived.Test.YtoimglbjepppmaaDoorZPfeven0
import Derived.Test.YtoimglbjepppmaaDoorZPfeven1
import Derived.Test.YtoimglbjepppmaaDoorZPfodd
import Derived.Test.YtoimglbjepppmaaDoorZLaid4
import Derived.Test.YtoimglbjepppmaaDoorMe
import Derived.Test.YtoimglbjepppmaaDoorTie
import Derived.Test.YtoimglbjepppmaaDoorCards
import Derived.ProofKit
import Derived.LaidMore
import Derived.OpenShut
import Derived.Stop.Joined
import Derived.SevenTiedAt
namespace Go.Proofs.YtoimglbjepppmaaDoor
open Go.ChangeShapes Go.WideShapes Go.ChangeAt Go.WideMaps Go.WideElems Go.RowKit Go.Shelf FieldNum

theorem forms_all (b : Nat) (hb : b < M) (w : World) (hGl0 : Gl w) : Calls Tryd.prog 6 #[bv b] w fun e w' => e = .returned (.bool true) ∧ Grown w w' := by
  obtain ⟨e, he⟩ : ∃ e : Nat, Hid (e = 121666) := ⟨_, Hid.of rfl⟩
  obtain ⟨e1, he1⟩ : ∃ e : Nat, Hid (e = 121665) := ⟨_, Hid.of rfl⟩
  have heM : e < M := by rw [he.out]; decide
  have he1M : e1 < M := by rw [he1.out]; decide
  by_cases hy : b % H < p
  · by_cases hl : fleg e e1 (b % H) < 0
    · by_cases hs : b < H
      · exact Pf_none0 b hb hs e e1 he he1 heM he1M hy hl w hGl0
      · exact Pf_none1 b hb hs e e1 he he1 heM he1M hy hl w hGl0
    · have hr : rok (uu (b % H)) (vv (b % H)) := Classical.not_not.1 fun h => hl ((fleg_neg he he1 _).2 h)
      by_cases hz : fleg e e1 (b % H) = 0
      · by_cases hs : b < H
        · exact Pf_even0 b hb hs e e1 he he1 heM he1M hy hl hr hz w hGl0
        · exact Pf_sign b hb hs e e1 he he1 heM he1M hy hl hr hz w hGl0
      · by_cases hs : b < H
        · exact Pf_even1 b hb hs e e1 he he1 heM he1M hy hl hr hz w hGl0
        · exact Pf_odd b hb hs e e1 he he1 heM he1M hy hl hr hz (fun h => hz ((fleg_zero he he1 _).2 ((rt_zero hr).1 h))) w hGl0
  · by_cases hs : b < H
    · exact Pf_high0 b hb hs e e1 he he1 heM he1M hy w hGl0
    · exact Pf_high1 b hb hs e e1 he he1 heM he1M hy w hGl0

theorem pointForms_met (os : Os) (args : Array Value) : laidMetH Tryd.prog Rows.pointFormsRow.laid ((World.doorLaid Tryd.prog 400 os).forCall (fun _ _ => 0) ⟨#[], args, []⟩).memory :=
  laidMetH_of_parts3 (fuel := 8) (laidMet_of_run' 8 (by kernel_rfl) (by kernel_rfl)) (by kernel_rfl) (by kernel_rfl)

set_option maxHeartbeats 400000 in
set_option maxRecDepth 100000 in
theorem pointForms_lifted (os : Os) (started : os.Started) (H : Type) (enc : TypeId × Value → H) :
    ReturnsInHanded {} Tryd.checked os 6 .any (fun w args => (Rows.pointFormsSpec.pre enc Tryd.prog Tryd.f6 [] false w args ∧ laidMetH Tryd.prog Rows.pointFormsRow.laid w) ∧ sizedMet enc Tryd.prog Tryd.f6 (OpenSpec.ofChange Rows.pointFormsSpec) false w args)
      (Rows.pointFormsSpec.post enc Tryd.prog Tryd.f6 false true false false) := by
  refine returnsInHanded_of_change_and (C := Tryd.checked) (X := fun w _ => laidMetH Tryd.prog Rows.pointFormsRow.laid w) (fun _ _ _ hh h => h.of_heap hh) Tryd.own started (by kernel_rfl) Tryd.func6
    (ChangeSpec.witness_shaped (enc := enc) (C := Tryd.checked) (os := os) (X := fun w _ => laidMetH Tryd.prog Rows.pointFormsRow.laid w) false (World.doorLaid Tryd.prog 400 os) #[bv 0] 8 rfl (World.shaped_of_RefB (by kernel_rfl) (by kernel_rfl)) (by kernel_rfl) (by kernel_rfl) (by kernel_rfl) (pointForms_met os _)) ?_
  intro W base args ds gs before hval0 hW _ _ hL _
  have hval : ∀ (j : Nat) t v, Tryd.f6.params[j]? = some t → args[j]? = some v → Value.okWide Tryd.prog W .any base t v := hval0
  have hW' := hW
  obtain ⟨p, q, hA0, hV, rfl, _, _⟩ := hW
  have hA : DataW.TrodAll enc Tryd.prog W 0 (fun _ => true) true Tryd.f6.params.toList args.toList ds p := hA0
  rw [Tryd.params6] at hA hval
  obtain ⟨v0, d0, rfl, rfl, h0⟩ := trodAll_one hA
  obtain ⟨rfl, rfl⟩ := trodVars_none hV
  obtain ⟨b, hb, rfl, rfl, rfl⟩ := open32 (hval 0 23 v0 rfl rfl) h0
  clear hA0 hval0
  simp only [List.append_nil] at hW'
  refine (forms_all b hb W (glForms hL)).mono fun e W' ⟨he, hg⟩ => ?_
  subst he
  exact ⟨_, rfl, post_of_same (pa := []) (pv := []) hW' (fun _ _ _ => trodAll_mk1 (shut_bool Tryd.underlying4 true)) (fun sp _ => trodAll_mk1 (shut32 enc W' sp b)) (fun _ _ => rfl) rfl
    (hg.frame _) hg.2.1 (ok_one (by kernel_rfl) rfl (okWide_bool_mk Tryd.underlying4 true))⟩

theorem pointForms_holds : Rows.PointFormsSaid :=
  OpenClaim.holds_of_wide 6 Tryd.f6 rfl rfl rfl rfl rfl rfl rfl ⟨rfl, rfl, rfl, rfl, rfl⟩ rfl rfl rfl rfl rfl (by kernel_rfl) Tryd.func6 (by kernel_rfl)
    (of_decide_eq_true (by kernel_rfl)) (by unfold Func.isWrapper; first | (rw [if_pos (by decide +kernel)]; kernel_rfl) | (rw [if_neg (by decide +kernel)]; exact ⟨rfl, rfl⟩))
    (fun os started H enc _ => pointForms_lifted os started H enc)

theorem pointForms_card : Rows.PointFormsCardSaid :=
  Claim7.holds_tied_plain_at .later [] [.data, .data, .data, .data, .data] true (true, "2a2c9e0efe427c4498f17cc9c41a80d6b0f6855c591c4f7617e45844a4233cc9") false
    pointForms_holds (fun _ h => by cases h) (by kernel_rfl) (fun _ h => by cases h) pointForms_row_tie rfl ⟨rfl, rfl⟩ (by kernel_rfl) rfl
    (fun f fn hf hfn => by
      obtain rfl : f = 6 := Option.some.inj ((show Tryd.prog.funcNamed "ledger/ledgerlaw04.PointForms" = some 6 by kernel_rfl).symm.trans hf) |>.symm
      obtain rfl : fn = Tryd.f6 := (Option.some.inj (Tryd.func6.symm.trans hfn)).symm
      exact ⟨by kernel_rfl, fun j t ht => by
        rw [Tryd.params6] at ht
        have hm : t ∈ [23] := by simpa using Array.mem_of_getElem? ht
        have hall : ([23].all fun u => !Tryd.prog.wantsStandIn u) = true := by kernel_rfl
        exact (show Tryd.prog.wantsStandIn t = false by simpa using List.all_eq_true.1 hall t hm)⟩)
    (by kernel_rfl)

#print axioms pointForms_card
end Go.Proofs.YtoimglbjepppmaaDoor
