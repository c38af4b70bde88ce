import Derived.Test.YtoimglbjepppmaaDoorZFb4
import Derived.Test.YtoimglbjepppmaaDoorZOpn
import Derived.Test.YtoimglbjepppmaaDoorZLaid4
import Derived.Test.YtoimglbjepppmaaDoorMe
import Derived.Test.YtoimglbjepppmaaDoorTie
import Derived.Test.YtoimglbjepppmaaDoorCards
import Derived.ProofKit
import Derived.LaidMore
import Derived.OpenShut
import Derived.Stop.Joined
import Derived.SevenTiedAt
import Derived.WideKeyArgs
import Derived.DataReads
namespace Go.Proofs.YtoimglbjepppmaaDoor
open Go.ChangeShapes Go.WideShapes Go.ChangeAt Go.WideMaps Go.WideElems Go.RowKit Go.Shelf FieldNum

theorem cell_top0 {w : World} {b o n : Nat} (h : w.rangeAt b o (bl n)) : w.cell? ⟨b, o + 0, none⟩ = some (.int .u8 ((n / 256 ^ 0 % 256 : Nat) : Int)) := h 0 _ (bl_get n 0 (by decide))

theorem glBatches {W : World} (h : laidMetH Tryd.prog Rows.fieldBatchesRow.laid W) : Gb W := by
  rw [MakeChecks.laidMetH_plain _ _ _ (by kernel_rfl)] at h
  obtain ⟨ps, ⟨g0, t0, cs0, f0, p0, q0, hg0, ht0, hv0, hd0, ⟨g1, t1, cs1, f1, p1, q1, hg1, ht1, hv1, hd1, _, _⟩, _⟩, _, _⟩ := h
  obtain rfl := Option.some.inj (gOne.symm.trans hg0)
  obtain rfl := Option.some.inj (tOne.symm.trans ht0)
  obtain rfl := Option.some.inj (gPow.symm.trans hg1)
  obtain rfl := Option.some.inj (tPow.symm.trans ht1)
  exact ⟨num_of_read (World.var?_cell hg0 hv0) hd0 nl_1, pow_of_read (World.var?_cell hg1 hv1) hd1⟩
theorem grown_same {W w' : World} (h : Grown W w') {q : MemPlace} (hp : q.block < W.heap.size) : W.sameAt w' q := by
  cases q with
  | cell b o => exact grown_cell h b o hp
  | map b =>
    have hb : b < W.heap.size := hp
    have h2 := h.1.2.2 b hb
    show w'.heap[b]? = W.heap[b]?
    cases e1 : W.heap[b]? with
    | none => rw [Array.getElem?_eq_getElem hb] at e1; cases e1
    | some o1 =>
      rw [e1] at h2
      cases e2 : w'.heap[b]? with
      | none => rw [e2] at h2; cases o1 <;> exact h2
      | some o2 =>
        rw [e2] at h2
        cases o1 <;> cases o2 <;> first
          | (obtain ⟨a1, a2, _, a4⟩ := h2
             have := Array.ext_getElem? (fun j => a4 j (fun x => x))
             subst a1 a2 this; rfl)
          | (rcases h2 with h2 | ⟨a1, a2⟩
             · cases h2
             · subst a1 a2; rfl)
          | exact h2
theorem batches_all {H : Type} {enc : TypeId × Value → H} {W : World} {d : DataW H} {ps : List MemPlace} (v : Value) (a : Option Addr) (len cap : Nat) (hv : v = .slice a len cap)
    (h : DataW.Trod enc Tryd.prog W 0 (fun _ => true) true 22 v d ps) (hG : Gb W) :
    Calls Tryd.prog 3 #[v] W fun e w' => e = .returned (.bool true) ∧ Grown W w' := by
  subst hv
  by_cases hl : 256 < len
  · exact Fb_long a len cap hl W hG
  · have hlen : len ≤ 256 := by omega
    obtain ⟨fuel, hf⟩ := h
    have hf' : DataW.trod enc Tryd.prog W 0 (fun _ => true) true fuel 22 [.slice a len cap] = some (d, ps) := hf
    by_cases h0 : len = 0
    · subst h0
      exact Fb_num a 0 0 0 cap (fun _ => 0) hlen (fun h => absurd h (Nat.lt_irrefl _)) (fun i hi => absurd hi (Nat.not_lt_zero _)) p (Hid.of rfl) W (fun h => absurd h (Nat.lt_irrefl _)) (fun i hi => absurd hi (Nat.not_lt_zero _)) hG
    · rcases DataW.trod_slice Tryd.underlying22 hf' with ⟨e1, _⟩ | ⟨ad, l2, c2, elems, rest, n, _, e1, _, _, _, _, hel0, hel, _, _⟩
      · simp at e1; omega
      · simp only [List.cons.injEq, Value.slice.injEq, and_true] at e1
        obtain ⟨rfl, rfl, rfl⟩ := e1
        rw [cells32] at hel
        have key : ∀ i, i < len → ∃ x, x < M ∧ W.cells? 0 (ad.add (i * 32)) 32 = some (bl x) := by
          intro i hi
          have h1 := hel i hi
          rw [List.getElem?_eq_getElem (by omega), Option.bind_eq_some_iff] at h1
          obtain ⟨cs, hcs, hy⟩ := h1
          obtain ⟨x, hx, rfl, _, _⟩ := open32l hy
          exact ⟨x, hx, hcs⟩
        obtain ⟨f, hfM, hcell⟩ : ∃ f : Nat → Nat, (∀ i, i < len → f i < M) ∧ ∀ i, i < len → ∀ j, j < 32 → W.cell? ((ad.add (i * 32)).add j) = some (.int .u8 ((f i / 256 ^ j % 256 : Nat) : Int)) := by
          refine ⟨fun i => if h : i < len then (key i h).choose else 0, fun i hi => by simp only [dif_pos hi]; exact (key i hi).choose_spec.1, fun i hi j hj => ?_⟩
          simp only [dif_pos hi]
          have h2 := (World.cells?_some (key i hi).choose_spec.2).2.2 j hj
          rw [h2, bl_get _ j hj]
        clear key
        obtain ⟨b, off, sp⟩ := ad
        have hsp : sp = none := by
          have := hcell 0 (by omega) 0 (by decide)
          cases sp with
          | none => rfl
          | some s => exfalso; simp only [World.cell?, Addr.add] at this; split at this <;> simp at this
        subst hsp
        have hcell' : ∀ i, i < len → W.rangeAt b (off + 32 * i) (bl (f i)) := by
          intro i hi j v hv
          have hj : j < 32 := by have := lt_of_get hv; rwa [bl_length] at this
          rw [bl_get _ j hj] at hv
          injection hv with hv
          subst hv
          have := hcell i hi j hj
          rwa [Addr.add_mid, Addr.add_mid, Nat.mul_comm i 32] at this
        have hb : b < W.heap.size := block_lt_of_cell (cell_top0 (hcell' 0 (by omega)))
        exact Fb_num (some ⟨b, off, none⟩) b off len cap f hlen (fun _ => rfl) hfM p (Hid.of rfl) W (fun _ => hb) hcell' hG

theorem fieldBatches_met (os : Os) (args : Array Value) : laidMetH Tryd.prog Rows.fieldBatchesRow.laid ((World.doorLaid Tryd.prog 400 os).forCall (fun _ _ => 0) ⟨#[], args, []⟩).memory :=
  laidMetH_of_parts3 (fuel := 8) (laidMet_of_run' 8 (by kernel_rfl) (by kernel_rfl)) (by kernel_rfl) (by kernel_rfl)

set_option maxHeartbeats 400000 in
set_option maxRecDepth 100000 in
theorem fieldBatches_lifted (os : Os) (started : os.Started) (H : Type) (enc : TypeId × Value → H) :
    ReturnsInHanded {} Tryd.checked os 3 .any (fun w args => (Rows.fieldBatchesSpec.pre enc Tryd.prog Tryd.f3 [] false w args ∧ laidMetH Tryd.prog Rows.fieldBatchesRow.laid w) ∧ sizedMet enc Tryd.prog Tryd.f3 (OpenSpec.ofChange Rows.fieldBatchesSpec) false w args)
      (Rows.fieldBatchesSpec.post enc Tryd.prog Tryd.f3 false true false false) := by
  refine returnsInHanded_of_change_and (C := Tryd.checked) (X := fun w _ => laidMetH Tryd.prog Rows.fieldBatchesRow.laid w) (fun _ _ _ hh h => h.of_heap hh) Tryd.own started (by kernel_rfl) Tryd.func3
    (ChangeSpec.witness_shaped (enc := enc) (C := Tryd.checked) (os := os) (X := fun w _ => laidMetH Tryd.prog Rows.fieldBatchesRow.laid w) false (World.doorLaid Tryd.prog 400 os) #[.slice none 0 0] 8 rfl (World.shaped_of_RefB (by kernel_rfl) (by kernel_rfl)) (by kernel_rfl) (by kernel_rfl) (by kernel_rfl) (fieldBatches_met os _)) ?_
  intro W base args ds gs before hval0 hW _ _ hL _
  have hval : ∀ (j : Nat) t v, Tryd.f3.params[j]? = some t → args[j]? = some v → Value.okWide Tryd.prog W .any base t v := hval0
  have hW' := hW
  obtain ⟨p, q, hA0, hV, rfl, _, _⟩ := hW
  have hA : DataW.TrodAll enc Tryd.prog W 0 (fun _ => true) true Tryd.f3.params.toList args.toList ds p := hA0
  rw [Tryd.params3] at hA hval
  obtain ⟨v0, d0, rfl, rfl, h0⟩ := trodAll_one hA
  obtain ⟨rfl, rfl⟩ := trodVars_none hV
  obtain ⟨a, len, cap, hv0⟩ := okWide_slice Tryd.underlying22 (hval 0 22 v0 rfl rfl)
  clear hA0 hval0
  simp only [List.append_nil] at hW'
  refine (batches_all v0 a len cap hv0 h0 (glBatches hL)).mono fun e W' ⟨he, hg⟩ => ?_
  subst he
  exact ⟨_, rfl, post_of_same (pa := p) (pv := []) hW' (fun _ _ _ => trodAll_mk1 (shut_bool Tryd.underlying4 true)) (fun sp hsp => trodAll_mk1 (Trod_stays (by kernel_rfl) (by kernel_rfl) (of_decide_eq_true (by kernel_rfl)) h0 (fun x hx => grown_same hg (hW'.lt x hx)) (fun x hx => hsp x hx))) (fun _ _ => rfl) (List.append_nil _).symm
    (hg.frame _) hg.2.1 (ok_one (by kernel_rfl) rfl (okWide_bool_mk Tryd.underlying4 true))⟩

theorem fieldBatches_holds : Rows.FieldBatchesSaid :=
  OpenClaim.holds_of_wide 3 Tryd.f3 rfl rfl rfl rfl rfl rfl rfl ⟨rfl, rfl, rfl, rfl, rfl⟩ rfl rfl rfl rfl rfl (by kernel_rfl) Tryd.func3 (by kernel_rfl)
    (of_decide_eq_true (by kernel_rfl)) (by unfold Func.isWrapper; first | (rw [if_pos (by decide +kernel)]; kernel_rfl) | (rw [if_neg (by decide +kernel)]; exact ⟨rfl, rfl⟩))
    (fun os started H enc _ => fieldBatches_lifted os started H enc)

theorem fieldBatches_card : Rows.FieldBatchesCardSaid :=
  Claim7.holds_tied_plain_at .later [] [.data, .data] true (true, "2a2c9e0efe427c4498f17cc9c41a80d6b0f6855c591c4f7617e45844a4233cc9") false
    fieldBatches_holds (fun _ h => by cases h) (by kernel_rfl) (fun _ h => by cases h) fieldBatches_row_tie rfl ⟨rfl, rfl⟩ (by kernel_rfl) rfl
    (fun f fn hf hfn => by
      obtain rfl : f = 3 := Option.some.inj ((show Tryd.prog.funcNamed "ledger/ledgerlaw02.FieldBatches" = some 3 by kernel_rfl).symm.trans hf) |>.symm
      obtain rfl : fn = Tryd.f3 := (Option.some.inj (Tryd.func3.symm.trans hfn)).symm
      exact ⟨by kernel_rfl, fun j t ht => by
        rw [Tryd.params3] at ht
        have hm : t ∈ [22] := by simpa using Array.mem_of_getElem? ht
        have hall : ([22].all fun u => !Tryd.prog.wantsStandIn u) = true := by kernel_rfl
        exact (show Tryd.prog.wantsStandIn t = false by simpa using List.all_eq_true.1 hall t hm)⟩)
    (by kernel_rfl)

#print axioms fieldBatches_card
end Go.Proofs.YtoimglbjepppmaaDoor
