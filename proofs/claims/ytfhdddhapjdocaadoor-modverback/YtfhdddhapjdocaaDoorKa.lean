import Derived.Test.YtfhdddhapjdocaaDoorRe
import Derived.Test.YtfhdddhapjdocaaDoorLx
namespace Go.Proofs.YtfhdddhapjdocaaDoor
open Go.RowKit Go.Shelf TextNum ModNum
abbrev z7 : List Value := [.string ⟨#[]⟩, .string ⟨#[]⟩, .string ⟨#[]⟩, .string ⟨#[]⟩, .string ⟨#[]⟩, .slice none 0 0, .bool false]
abbrev c7 (x0 x1 y0 y1 y2 : ByteArray) (a : Option Addr) (l c : Nat) (b : Bool) : List Value := [.string x0, .string x1, .string y0, .string y1, .string y2, .slice a l c, .bool b]
/-- the error of a key's text -/
def pkE (s : List UInt8) : Int := if 64 ∉ s ∨ 64 ∈ bhd 64 s then 113 else fte (ahd 64 s) (bhd 64 s)
/-- what readKey answers -/
def RK (s : List UInt8) (w : World) (e : Ending) (w' : World) : Prop := ∃ (x0 x1 : List UInt8) (y0 y1 y2 : ByteArray) (a : Option Addr) (l c : Nat) (b : Bool), e = .returned (.tuple #[.agg (c7 ⟨x0.toArray⟩ ⟨x1.toArray⟩ y0 y1 y2 a l c b).toArray, .int .i64 (pkE s)]) ∧ (pkE s = 0 → x0 = ahd 64 s ∧ x1 = bhd 64 s) ∧ (pkE s ≠ 0 → x0 = [] ∧ x1 = []) ∧ Up w w'
theorem RK.no {s : List UInt8} {k : Int} {w w' : World} (h : pkE s = k) (hk : k ≠ 0) (u : Up w w') : RK s w (.returned (.tuple #[.agg z7.toArray, .int .i64 k])) w' :=
  ⟨[], [], ⟨#[]⟩, ⟨#[]⟩, ⟨#[]⟩, none, 0, 0, false, by rw [h], fun h0 => absurd (h.symm.trans h0) hk, fun _ => ⟨rfl, rfl⟩, u⟩
theorem one7 (x0 x1 y0 y1 y2 : ByteArray) (a : Option Addr) (l c : Nat) (b : Bool) : (c7 x0 x1 y0 y1 y2 a l c b).toArray.all (·.oneCell') = true := by
  rw [Array.all_eq_true_iff_forall_mem]
  intro v hv
  simp at hv
  rcases hv with rfl | rfl | rfl | rfl | rfl | rfl | rfl <;> rfl
theorem infoEntry : (Tryd.prog.info? 63).map (·.size) = some 7 := by kernel_rfl
set_option maxRecDepth 100000 in
set_option maxHeartbeats 2000000 in
theorem readKey_walk (s : ByteArray) (hs : s.size ≤ 4611686018427387904) (w : World) (hG : GR w) : Calls Tryd.prog 37 #[.string s] w (RK s.data.toList w) := by
  have HC := fun w' => Hid.of (CutA_walk s hs 64 w')
  have HH := fun w' => Hid.of (Has_walk ⟨(bhd 64 s.data.toList).toArray⟩ 64 w')
  rw [ba_data'] at HH
  have HF := fun w' => fun (u : Up w w') => Hid.of (partsFor_walk ⟨(ahd 64 s.data.toList).toArray⟩ ⟨(bhd 64 s.data.toList).toArray⟩ w' (hG.up u))
  have HE : Hid (pkE s.data.toList = if 64 ∉ s.data.toList ∨ 64 ∈ bhd 64 s.data.toList then 113 else fte (ahd 64 s.data.toList) (bhd 64 s.data.toList)) := rfl
  clear hG hs
  have HA := Hid.of (at_new w 63 z7)
  have HU := Hid.of ((Up.refl w).alloc (.cells z7.toArray 63))
  by_cases h1 : 64 ∈ s.data.toList
  · rw [decide_eq_true h1] at HC
    by_cases h2 : 64 ∈ bhd 64 s.data.toList
    · rw [decide_eq_true h2] at HH
      have HN := Hid.of (HE.out.trans (if_pos (.inr h2)))
      clear h1 h2 HE HF
      generalize (⟨(bhd 64 s.data.toList).toArray⟩ : ByteArray) = sb at *
      generalize (⟨(ahd 64 s.data.toList).toArray⟩ : ByteArray) = sa at *
      go_enter Tryd.func37, Tryd.ntmps37
      go_wp2_with fail
      generalize w.alloc (.cells z7.toArray 63) = W0 at *
      refine (HC _).out.mono ?_
      rintro e w1 ⟨rfl, u1⟩
      have HA1 := Hid.of (HA.out.up u1)
      have HU1 := Hid.of (HU.out.trans u1)
      clear u1 HA HU HC
      dsimp only
      go_wp2_with fail
      refine ((HH _).out).mono ?_
      rintro e w9 ⟨rfl, h9⟩
      obtain rfl := h9.symm
      clear h9
      dsimp only
      go_wp2_with (with_reducible show wpList _ _ _ ({ dst := _, op := Op.store 63 _ _, type := _, pos := _, after := _, guard := _ } :: _) _ _; refine Shut.out ?_)
      show wpList _ _ _ _ _ _
      refine wpList_store_at rfl _ _ _ rfl w.heap.size HA1.out z7 rfl rfl rfl (by kernel_rfl) (one7 _ _ _ _ _ _ _ _ _) fun x1 hx1 hg1 => ?_
      have HX := Hid.of hx1
      have HXU := Hid.of (HU1.out.by hg1 (fun g hg => by injection hg with hg; omega))
      clear hx1 hg1 HA1 HU1
      simp only [Act.put]
      go_wp2
      refine bodyPost_ret (result_cell_tmp Tryd.results37 _ _ w.heap.size z7 _ rfl rfl HX.out.range Tryd.underlying63 rfl infoEntry) rfl ?_
      exact RK.no HN.out (by decide) HXU.out
    · rw [decide_eq_false h2] at HH
      have HE2 := Hid.of (HE.out.trans (if_neg (by rintro (h | h); exact h h1; exact h2 h)))
      clear h1 h2 HE
      obtain ⟨sa, hsa⟩ : ∃ sa : ByteArray, sa = ⟨(ahd 64 s.data.toList).toArray⟩ := ⟨_, rfl⟩
      obtain ⟨sb, hsb⟩ : ∃ sb : ByteArray, sb = ⟨(bhd 64 s.data.toList).toArray⟩ := ⟨_, rfl⟩
      have HF2 : ∀ w', Up w w' → Hid (Calls Tryd.prog 38 #[.string sa, .string sb] w' (FR (ahd 64 s.data.toList) (bhd 64 s.data.toList) w')) := by rw [hsa, hsb]; exact HF
      clear HF
      rw [← hsb] at HH
      rw [← hsa, ← hsb] at HC
      have HSA := Hid.of (And.intro hsa hsb)
      clear hsa hsb
      go_enter Tryd.func37, Tryd.ntmps37
      go_wp2_with fail
      generalize w.alloc (.cells z7.toArray 63) = W0 at *
      refine (HC _).out.mono ?_
      rintro e w1 ⟨rfl, u1⟩
      have HA1 := Hid.of (HA.out.up u1)
      have HU1 := Hid.of (HU.out.trans u1)
      clear u1 HA HU HC
      dsimp only
      go_wp2_with fail
      refine ((HH _).out).mono ?_
      rintro e w9 ⟨rfl, h9⟩
      obtain rfl := h9.symm
      clear h9
      dsimp only
      go_wp2_with fail
      refine (HF2 _ HU1.out).out.mono ?_
      rintro e w2 ⟨n0, n1, n2, v, ws, inc, rfl, hS, _, _, u2⟩
      have HA2 := Hid.of ((HA1.out.up u2).up ((Up.refl w2).alloc (.cells (pc5 n0 n1 n2 v inc) 56)))
      have HU2 := Hid.of ((HU1.out.trans u2).alloc (.cells (pc5 n0 n1 n2 v inc) 56))
      obtain ⟨va, vc, rfl⟩ := hS.len
      generalize ws.length = wn at *
      clear u2 HA1 HU1 HF2 hS HH
      dsimp only
      by_cases h0 : fte (ahd 64 s.data.toList) (bhd 64 s.data.toList) = 0
      · have HE3 := Hid.of (HE2.out.trans h0)
        rw [h0]
        clear h0 HE2
        go_wp2_with (with_reducible show wpList _ _ _ ({ dst := _, op := Op.store 63 _ _, type := _, pos := _, after := _, guard := _ } :: _) _ _; refine Shut.out ?_)
        show wpList _ _ _ _ _ _
        generalize w2.alloc (.cells (pc5 n0 n1 n2 (.slice va wn vc) inc) 56) = W3 at *
        refine wpList_store_at rfl _ _ _ rfl w.heap.size HA2.out (c7 sa sb ⟨n0.toArray⟩ ⟨n1.toArray⟩ ⟨n2.toArray⟩ va wn vc inc) rfl rfl rfl (by kernel_rfl) (one7 _ _ _ _ _ _ _ _ _) fun x1 hx1 hg1 => ?_
        have HX := Hid.of hx1
        have HXU := Hid.of (HU2.out.by hg1 (fun g hg => by injection hg with hg; omega))
        clear hx1 hg1 HA2 HU2
        simp only [Act.put]
        go_wp2
        refine bodyPost_ret (result_cell_tmp Tryd.results37 _ _ w.heap.size _ _ rfl rfl HX.out.range Tryd.underlying63 rfl infoEntry) rfl ?_
        refine ⟨ahd 64 s.data.toList, bhd 64 s.data.toList, ⟨n0.toArray⟩, ⟨n1.toArray⟩, ⟨n2.toArray⟩, va, wn, vc, inc, ?_, fun _ => ⟨rfl, rfl⟩, fun h => absurd HE3.out h, HXU.out⟩
        rw [HE3.out, ← HSA.out.1, ← HSA.out.2]
        rfl
      · have HE3 := Hid.of (And.intro HE2.out h0)
        have h0z : (fte (ahd 64 s.data.toList) (bhd 64 s.data.toList) != 0) = true := by rw [bne_iff_ne]; exact h0
        generalize fte (ahd 64 s.data.toList) (bhd 64 s.data.toList) = fe at *
        clear h0 HE2
        go_wp2_with (with_reducible show wpList _ _ _ ({ dst := _, op := Op.store 63 _ _, type := _, pos := _, after := _, guard := _ } :: _) _ _; refine Shut.out ?_)
        show wpList _ _ _ _ _ _
        generalize w2.alloc (.cells (pc5 n0 n1 n2 (.slice va wn vc) inc) 56) = W3 at *
        refine wpList_store_at rfl _ _ _ rfl w.heap.size HA2.out z7 rfl rfl rfl (by kernel_rfl) (one7 _ _ _ _ _ _ _ _ _) fun x1 hx1 hg1 => ?_
        have HX := Hid.of hx1
        have HXU := Hid.of (HU2.out.by hg1 (fun g hg => by injection hg with hg; omega))
        clear hx1 hg1 HA2 HU2
        simp only [Act.put]
        go_wp2
        refine bodyPost_ret (result_cell_tmp Tryd.results37 _ _ w.heap.size z7 _ rfl rfl HX.out.range Tryd.underlying63 rfl infoEntry) rfl ?_
        exact RK.no HE3.out.1 HE3.out.2 HXU.out
  · rw [decide_eq_false h1] at HC
    have HN := Hid.of (HE.out.trans (if_pos (.inl h1)))
    clear h1 HE HF HH
    generalize (⟨(bhd 64 s.data.toList).toArray⟩ : ByteArray) = sb at *
    generalize (⟨(ahd 64 s.data.toList).toArray⟩ : ByteArray) = sa at *
    go_enter Tryd.func37, Tryd.ntmps37
    go_wp2_with fail
    generalize w.alloc (.cells z7.toArray 63) = W0 at *
    refine (HC _).out.mono ?_
    rintro e w1 ⟨rfl, u1⟩
    have HA1 := Hid.of (HA.out.up u1)
    have HU1 := Hid.of (HU.out.trans u1)
    clear u1 HA HU HC
    dsimp only
    go_wp2_with (with_reducible show wpList _ _ _ ({ dst := _, op := Op.store 63 _ _, type := _, pos := _, after := _, guard := _ } :: _) _ _; refine Shut.out ?_)
    show wpList _ _ _ _ _ _
    refine wpList_store_at rfl _ _ _ rfl w.heap.size HA1.out z7 rfl rfl rfl (by kernel_rfl) (one7 _ _ _ _ _ _ _ _ _) fun x1 hx1 hg1 => ?_
    have HX := Hid.of hx1
    have HXU := Hid.of (HU1.out.by hg1 (fun g hg => by injection hg with hg; omega))
    clear hx1 hg1 HA1 HU1
    simp only [Act.put]
    go_wp2
    refine bodyPost_ret (result_cell_tmp Tryd.results37 _ _ w.heap.size z7 _ rfl rfl HX.out.range Tryd.underlying63 rfl infoEntry) rfl ?_
    exact RK.no HN.out (by decide) HXU.out
def pkP (s : List UInt8) : List UInt8 := if pkE s = 0 then ahd 64 s else []
def pkV (s : List UInt8) : List UInt8 := if pkE s = 0 then bhd 64 s else []
set_option maxRecDepth 100000 in
theorem ParseKey_walk (s : ByteArray) (hs : s.size ≤ 4611686018427387904) (w : World) (hG : GR w) : Calls Tryd.prog 24 #[.string s] w fun e w' => e = .returned (.tuple #[vs (pkP s.data.toList), vs (pkV s.data.toList), .int .i64 (pkE s.data.toList)]) ∧ Up w w' := by
  have HR := Hid.of (readKey_walk s hs w hG)
  clear hG hs
  have mixed : Tryd.prog.follows .mixedOrders = true := by kernel_rfl
  go_enter Tryd.func24, Tryd.ntmps24
  go_wp2_with fail
  refine HR.out.mono ?_
  rintro e w1 ⟨x0, x1, y0, y1, y2, a, l, c, b, rfl, h1, h2, u1⟩
  have H1 := Hid.of u1
  have HX : Hid (pkP s.data.toList = x0 ∧ pkV s.data.toList = x1) := by
    unfold pkP pkV
    by_cases h0 : pkE s.data.toList = 0
    · rw [if_pos h0, if_pos h0]; exact ⟨(h1 h0).1.symm, (h1 h0).2.symm⟩
    · rw [if_neg h0, if_neg h0]; exact ⟨(h2 h0).1.symm, (h2 h0).2.symm⟩
  clear u1 h1 h2 HR
  generalize hpe : pkE s.data.toList = pe at *
  have HPE := Hid.of (And.intro hpe trivial)
  clear hpe
  dsimp only
  go_wp2
  go_region
  go_wp2
  go_ret3
  rw [HX.out.1, HX.out.2, HPE.out.1]
  exact ⟨rfl, (H1.out.alloc _).drew⟩
end Go.Proofs.YtfhdddhapjdocaaDoor
