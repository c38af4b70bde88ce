import Derived.Test.YteijccjdejjbjaaDoorVo
import Derived.Test.YteijccjdejjbjaaDoorBy
import Derived.Test.YteijccjdejjbjaaDoorAp
namespace Go.Proofs.YteijccjdejjbjaaDoor
open Go.RowKit Go.Shelf ScalarNum

theorem DigS.lain {n m : Nat} {W W' : World} {sv : Value} {len : Nat} {f : Nat → I8} (h : DigS n W sv len f) (hg : Lain W W') (hn : n ≤ W.heap.size) (hm : n ≤ m) : DigS m W' sv len f := by
  rcases h with h | ⟨b, off, cp, h1, h2, h3⟩
  · exact .inl h
  · exact .inr ⟨b, off, cp, h1, by omega, fun j hj => (hg.cell _ (by omega)).trans (h3 j hj)⟩
theorem result32t {fn : Func} {q r : Tmp} (h : fn.results = #[.cell q 23, .tmp r]) (tmps : Array Value) (w : World) (b n : Nat) (v : Value)
    (hp : tmps.getD q undef = .pointer (some ⟨b, 0, none⟩)) (hv : tmps.getD r undef = v) (hc : w.rangeAt b 0 (yl 32 n)) : (results fn tmps).run Tryd.prog w = .ok (.tuple #[yv 32 n, v]) w := by
  have hp' : tmps[q]?.getD undef = .pointer (some ⟨b, 0, none⟩) := by simpa using hp
  have hv' : tmps[r]?.getD undef = v := by simpa using hv
  simp [results, h, hp', hv', asAddr, run_loadVar_mid w b 0 23 (yl 32 n) _ hc Tryd.underlying23 rfl (by rw [yl_length]; exact info32), yv]
theorem resValue : Tryd.f21.results = #[.cell 2 23, .tmp 3] := by kernel_rfl

set_option maxRecDepth 100000 in
set_option maxHeartbeats 200000 in
theorem Value_num (a : Option Addr) (len cap : Nat) (f : Nat → I8) (hlen : len ≤ 300) (w : World) (hT : Tab w) (hD : DigS w.heap.size w (.slice a len cap) len f) :
    Calls Tryd.prog 21 #[.slice a len cap] w fun e w' => e = .returned (.tuple #[yv 32 (vf (down len f len)), .int .i64 0]) ∧ Lain w w' := by
  have h0 := alloc1 w 23 (yl 32 0).toArray
  rw [show (yl 32 0).toArray.size = 32 from rfl] at h0
  have hs0 : (w.alloc (.cells (yl 32 0).toArray 23)).heap.size = w.heap.size + 1 := by simp
  have HT := Hid.of hT
  have HD := Hid.of (And.intro hD hs0)
  have b1 : ¬ (300 : Int) < (len : Int) := by omega
  clear hT hD hs0
  go_enter Tryd.func21, Tryd.ntmps21
  go_wp2_with fail
  rw [← yl32_zero]
  generalize (w.alloc (.cells (yl 32 0).toArray 23)) = W0 at *
  have H0 := Hid.of (And.intro h0 (Lain.of h0.2))
  clear h0
  refine Calls.mono (valueOf_num a len cap f hlen W0 (HT.out.lain H0.out.2) (HD.out.1.lain H0.out.2 (Nat.le_refl _) H0.out.2.2.2.1)) ?_
  rintro e w1 ⟨rfl, g1⟩
  dsimp only
  have hv := vf_lt (down len f len)
  obtain ⟨v, hvE⟩ : ∃ v, vf (down len f len) = v := ⟨_, rfl⟩
  rw [hvE] at hv
  rw [hvE]
  have HV := Hid.of (And.intro hvE (Nat.lt_trans hv L_lt_M))
  clear hvE hv
  have H1 := Hid.of (And.intro (g1.there H0.out.1.1) (H0.out.2.trans g1))
  clear H0 g1 b1
  go_wp2_with fail
  refine Calls.mono (bytes_num v HV.out.2 _) ?_
  rintro e w2 ⟨rfl, g2⟩
  dsimp only
  have H2 := Hid.of (And.intro (there_grown H1.out.1 g2) (H1.out.2.trans (Lain.of g2)))
  clear H1 g2
  go_wp2_with (with_reducible show wpList _ _ _ ({ dst := _, op := Op.store 23 _ _, type := _, pos := _, after := _, guard := _ } :: _) _ _; refine Shut.out ?_)
  show wpList _ _ _ _ _ _
  refine wpList_store32 rfl _ _ rfl (w.heap.size) v rfl rfl H2.out.1 ?_
  simp only [Act.put]
  refine wpList_val (.int .i64 0) rfl (by kernel_rfl) ?_
  simp only [Act.put, List.setIfInBounds_toArray, List.set_cons_zero, List.set_cons_succ]
  apply wpList_nil
  repeat go_step
  refine bodyPost_ret (v := .tuple #[yv 32 v, .int .i64 0]) (result32t resValue _ _ (w.heap.size) _ _ ?hp ?hv (World.rangeAt_setCells_same _ _ _ _ (by rw [yl_length]; exact H2.out.1))) ?hd ?_
  case hp => rfl
  case hv => rfl
  case hd => rfl
  exact ⟨by rw [HV.out.1], H2.out.2.set (Nat.le_refl _) _⟩
end Go.Proofs.YteijccjdejjbjaaDoor
