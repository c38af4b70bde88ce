import Derived.Test.YteijccjdejjbjaaDoorVs
import Derived.Test.YteijccjdejjbjaaDoorVm
import Derived.Test.YteijccjdejjbjaaDoorLaid2
import Derived.Test.YteijccjdejjbjaaDoorLaid
import Derived.Test.YteijccjdejjbjaaDoorRow
import Derived.Test.YteijccjdejjbjaaDoorTie
import Derived.Test.YteijccjdejjbjaaDoorCards
import Derived.ProofKit
import Derived.LaidMore
import Derived.OpenShut
import Derived.Stop.Joined
import Derived.SevenTiedAt
namespace Go.Proofs.YteijccjdejjbjaaDoor
open Go.ChangeShapes Go.WideShapes Go.ChangeAt Go.WideMaps Go.WideElems Go.RowKit Go.Shelf ScalarNum

variable {H : Type} {enc : TypeId × Value → H} {P : Program}
/-- as post_of_same, with 'not frozen' asked of what lay ahead of the call alone -/
theorem post_of_old {f : Func} {s : ChangeSpec} {apart fresh handsOn again : Bool} {W W' : World} {args : Array Value} {v : Value} {ds gs : List (DataW H)} {before pa pv : List MemPlace}
    (hW : DataW.Whole enc P f.params.toList s.vars apart W args.toList ds gs before)
    (hres : ∀ (b : Nat) (sp : Nat → Bool) (hd : Bool), DataW.TrodAll enc P W' b sp hd f.resultTypes.toList (v.resultList f.resultTypes.size) (s.fn H (ds ++ gs)).results [])
    (hargs : ∀ sp : Nat → Bool, (∀ p ∈ before, sp p.block = true) → DataW.TrodAll enc P W' 0 sp true f.params.toList args.toList (s.fn H (ds ++ gs)).args pa)
    (hvars : ∀ sp : Nat → Bool, (∀ p ∈ before, sp p.block = true) → DataW.TrodVars enc P W' sp s.vars (s.fn H (ds ++ gs)).vars pv)
    (hps : before = pa ++ pv) (hk : W.keptBut W' (· ∈ before)) (hfz : ∀ a : Addr, a.block < W.heap.size → W'.frozen? a = W.frozen? a)
    (hok : ∀ (j : Nat) (t : TypeId) (r : Value), f.resultTypes[j]? = some t → (v.resultList f.resultTypes.size)[j]? = some r → Value.okWide P W' .any 0 t r) :
    s.post enc P f apart fresh handsOn again W args v W' := by
  have hlt := fun p hp => hW.lt p hp
  have hin : ∀ p ∈ before, (fun b => decide (b < W.heap.size)) p.block = true := fun p hp => by simpa using hlt p hp
  have hW2 := hW
  obtain ⟨_, _, _, _, _, hz, hn⟩ := hW2
  refine ⟨ds, gs, before, [], pa, pv, hW, hres _ _ _, hargs _ hin, hvars _ hin, World.keptBut_mono (fun p hp => ⟨hp, Or.inr (by rw [hps, List.mem_append] at hp; exact hp)⟩) hk, fun _ => ?_⟩
  refine ⟨hok, _, _, ([] ++ pa) ++ pv, ⟨[] ++ pa, pv, trodAll_append (hargs _ (fun _ _ => rfl)) (hres _ _ _), hvars _ (fun _ _ => rfl), rfl, fun b off hp => ?_, fun ha => ?_⟩, fun p hp _ => ?_⟩
  · have hb : MemPlace.cell b off ∈ before := by rw [hps]; simpa using hp
    rw [hfz ⟨b, off, none⟩ (hlt _ hb)]
    exact hz b off hb
  · have := hn ha
    rw [hps] at this
    simpa using this
  · rw [hps]; simpa using hp


theorem lain_same {W w' : World} (h : Lain W w') {p : MemPlace} (hp : p.block < W.heap.size) : W.sameAt w' p := by
  cases p with
  | cell b o => exact World.cell?_of_block (w := W) (h.2.2.2 b hp)
  | map b => exact h.2.2.2 b hp
def fd (zs : List Int) (hw : ∀ n ∈ zs, (Lit.int .i8 n).wf = true) (j : Nat) : I8 := if h : j < zs.length then ⟨zs[j], by have := hw _ (List.getElem_mem h); simpa [Lit.wf, IntKind.min, IntKind.max, IntKind.signed, IntKind.bits] using this⟩ else ⟨0, by decide⟩
theorem cellsI8 : Tryd.prog.cellsOf 40 = 1 := by kernel_rfl

theorem values_all {enc : TypeId × Value → H} {W : World} {d : DataW H} {p : List MemPlace} (v : Value) (a : Option Addr) (len cap : Nat) (hv : v = .slice a len cap)
    (h : DataW.Trod enc Tryd.prog W 0 (fun _ => true) true 30 v d p) (hT : Tab W) (hO : W.rangeAt 1 0 (yl 32 L)) :
    Calls Tryd.prog 7 #[v] W fun e w' => e = .returned (.bool true) ∧ Lain W w' := by
  subst hv
  by_cases hl : 300 < len
  · exact values_walk a len cap 0 2 (by decide) W hT (refValue_long a len cap hl W) (fun w' _ => Value_long a len cap hl w')
  · have hlen : len ≤ 300 := by omega
    obtain ⟨fuel, hf⟩ := h
    have hf' : DataW.trod enc Tryd.prog W 0 (fun _ => true) true fuel 30 [.slice a len cap] = some (d, p) := hf
    have key : ∃ f : Nat → I8, DigS W.heap.size W (.slice a len cap) len f ∧ (∀ sg : Int, (sg = 1 ∨ sg = -1) → ∀ w', Grown W w' → Calls Tryd.prog 47 #[.slice a len cap, .int .i64 sg] w' fun e w'' => (∃ v, e = .returned v ∧ SL 40 (dsum (pp f sg) len) v w'') ∧ Grown w' w'') := by
      by_cases h0 : len = 0
      · subst h0
        exact ⟨fun _ => ⟨0, by decide⟩, .inl ⟨rfl, a, cap, rfl⟩, fun sg hsg w' _ => heap_nil a cap _ sg hsg w'⟩
      · rcases open_ints Tryd.underlying30 Tryd.underlying40 cellsI8 hf' with ⟨e1, _⟩ | ⟨ad, l2, c2, zs, e1, _, hle, _, hzl, _, hcell, hwf⟩
        · simp at e1; omega
        · simp only [List.cons.injEq, Value.slice.injEq, and_true] at e1
          obtain ⟨rfl, rfl, rfl⟩ := e1
          simp only [if_true] at hzl
          obtain ⟨b, off, sp⟩ := ad
          have hsp : sp = none := by
            have := hcell 0 (by omega)
            cases sp with
            | none => rfl
            | some s => exfalso; simp only [World.cell?, Addr.add] at this; split at this <;> simp at this
          subst hsp
          have hc0 : ∀ j, j < len → W.cell? ⟨b, off + j, none⟩ = some (.int .i8 (fd zs hwf j).1) := fun j hj => by
            have hj' : j < zs.length := by omega
            have := hcell j hj'
            rw [show (⟨b, off, none⟩ : Addr).add j = ⟨b, off + j, none⟩ from by
              unfold Addr.add
              split
              · rename_i e; rw [e]; rfl
              · rfl] at this
            rw [show (fd zs hwf j).1 = zs.getD j 0 from by unfold fd; rw [dif_pos hj']; simp [List.getD, hj']]
            exact this
          have hb : b < W.heap.size := block_lt_of_cell (hc0 0 (by omega))
          exact ⟨fd zs hwf, .inr ⟨b, off, cap, rfl, hb, hc0⟩, fun sg hsg w' hg => heap_num b off len cap _ sg hsg hlen w' (fun j hj => (grown_cell hg _ _ hb).trans (hc0 j hj)) (Nat.lt_of_lt_of_le hb hg.2.2)⟩
    obtain ⟨f, hD, hH⟩ := key
    exact values_walk a len cap _ 0 (Nat.lt_trans (vf_lt _) L_lt_M) W hT (refValue_num a len cap f hlen W hO hH) (fun w' hl' => Value_num a len cap f hlen w' (hT.lain hl') (hD.lain hl' (Nat.le_refl _) hl'.2.2.1))


theorem scalarValues_met (os : Os) (args : Array Value) : laidMetH Tryd.prog Rows.scalarValuesRow.laid ((World.doorLaid Tryd.prog 400 os).forCall (fun _ _ => 0) ⟨#[], args, []⟩).memory :=
  laidMetH_of_parts3 (fuel := 8) (laidMet_of_run' 8 (by kernel_rfl) (by kernel_rfl)) (by kernel_rfl) (by kernel_rfl)

set_option maxHeartbeats 400000 in
set_option maxRecDepth 100000 in
theorem scalarValues_lifted (os : Os) (started : os.Started) (H : Type) (enc : TypeId × Value → H) :
    ReturnsInHanded {} Tryd.checked os 7 .any (fun w args => (Rows.scalarValuesSpec.pre enc Tryd.prog Tryd.f7 [] false w args ∧ laidMetH Tryd.prog Rows.scalarValuesRow.laid w) ∧ sizedMet enc Tryd.prog Tryd.f7 (OpenSpec.ofChange Rows.scalarValuesSpec) false w args)
      (Rows.scalarValuesSpec.post enc Tryd.prog Tryd.f7 false true false false) := by
  refine returnsInHanded_of_change_and (C := Tryd.checked) (X := fun w _ => laidMetH Tryd.prog Rows.scalarValuesRow.laid w) (fun _ _ _ hh h => h.of_heap hh) Tryd.own started (by kernel_rfl) Tryd.func7
    (ChangeSpec.witness_shaped (enc := enc) (C := Tryd.checked) (os := os) (X := fun w _ => laidMetH Tryd.prog Rows.scalarValuesRow.laid w) false (World.doorLaid Tryd.prog 400 os) #[.slice none 0 0] 8 rfl (World.shaped_of_RefB (by kernel_rfl) (by kernel_rfl)) (by kernel_rfl) (by kernel_rfl) (by kernel_rfl) (scalarValues_met os _)) ?_
  intro W base args ds gs before hval0 hW _ _ hL _
  have hval : ∀ (j : Nat) t v, Tryd.f7.params[j]? = some t → args[j]? = some v → Value.okWide Tryd.prog W .any base t v := hval0
  have hW' := hW
  obtain ⟨p, q, hA0, hV, rfl, _, _⟩ := hW
  have hA : DataW.TrodAll enc Tryd.prog W 0 (fun _ => true) true Tryd.f7.params.toList args.toList ds p := hA0
  rw [Tryd.params7] at hA hval
  obtain ⟨v0, d0, rfl, rfl, h0⟩ := trodAll_one hA
  obtain ⟨rfl, rfl⟩ := trodVars_none hV
  obtain ⟨a, len, cap, hv0⟩ := okWide_slice Tryd.underlying30 (hval 0 30 v0 rfl rfl)
  clear hA0 hval0
  simp only [List.append_nil] at hW'
  have hT : Tab W := (both_of_laid hL).1
  refine (values_all v0 a len cap hv0 h0 hT (both_of_laid hL).2).mono fun e W' ⟨he, hg⟩ => ?_
  subst he
  exact ⟨_, rfl, post_of_old (pa := p) (pv := []) hW' (fun _ _ _ => trodAll_mk1 (shut_bool Tryd.underlying4 true))
    (fun sp hsp => trodAll_mk1 (Trod_stays (by kernel_rfl) (by kernel_rfl) (of_decide_eq_true (by kernel_rfl)) h0 (fun x hx => lain_same hg (hW'.lt x hx)) (fun x hx => hsp x hx))) (fun _ _ => rfl) (List.append_nil _).symm
    (hg.frame _) (fun _ h => hg.frozen h) (ok_one (by kernel_rfl) rfl (okWide_bool_mk Tryd.underlying4 true))⟩

theorem scalarValues_holds : Rows.ScalarValuesSaid :=
  OpenClaim.holds_of_wide 7 Tryd.f7 rfl rfl rfl rfl rfl rfl rfl ⟨rfl, rfl, rfl, rfl, rfl⟩ rfl rfl rfl rfl rfl (by kernel_rfl) Tryd.func7 (by kernel_rfl)
    (of_decide_eq_true (by kernel_rfl)) (by unfold Func.isWrapper; first | (rw [if_pos (by decide +kernel)]; kernel_rfl) | (rw [if_neg (by decide +kernel)]; exact ⟨rfl, rfl⟩))
    (fun os started H enc _ => scalarValues_lifted os started H enc)

theorem scalarValues_card : Rows.ScalarValuesCardSaid :=
  Claim7.holds_tied_plain_at .later [] [.data, .wider] true (true, "52c0b892c5ccf8c2a582ad9e2b035b599a1e131ac566436e424d93e35a6ff9ff") false
    scalarValues_holds (fun _ h => by cases h) (by kernel_rfl) (fun _ h => by cases h) scalarValues_row_tie rfl ⟨rfl, rfl⟩ (by kernel_rfl) rfl
    (fun f fn hf hfn => by
      obtain rfl : f = 7 := Option.some.inj ((show Tryd.prog.funcNamed "ledger/ledgerlaw03.ScalarValues" = some 7 by kernel_rfl).symm.trans hf) |>.symm
      obtain rfl : fn = Tryd.f7 := (Option.some.inj (Tryd.func7.symm.trans hfn)).symm
      exact ⟨by kernel_rfl, fun j t ht => by
        rw [Tryd.params7] at ht
        have hm : t ∈ [30] := by simpa using Array.mem_of_getElem? ht
        have hall : ([30].all fun u => !Tryd.prog.wantsStandIn u) = true := by kernel_rfl
        exact (show Tryd.prog.wantsStandIn t = false by simpa using List.all_eq_true.1 hall t hm)⟩)
    (by kernel_rfl)

#print axioms scalarValues_card
end Go.Proofs.YteijccjdejjbjaaDoor
