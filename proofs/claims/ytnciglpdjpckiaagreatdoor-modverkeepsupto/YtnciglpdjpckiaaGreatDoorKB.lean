import Derived.Test.YtnciglpdjpckiaaGreatDoorRe
import Derived.Test.YtnciglpdjpckiaaGreatDoorLx
import Derived.Test.YtnciglpdjpckiaaGreatDoorBf
namespace Go.Proofs.YtnciglpdjpckiaaGreatDoor
open Go.RowKit Go.Shelf TextNum ModNum
abbrev z7 : List Value := [.string ⟨#[]⟩, .string ⟨#[]⟩, .string ⟨#[]⟩, .string ⟨#[]⟩, .string ⟨#[]⟩, .slice none 0 0, .bool false]
abbrev c7 (x0 x1 y0 y1 y2 : ByteArray) (a : Option Addr) (l c : Nat) (b : Bool) : List Value := [.string x0, .string x1, .string y0, .string y1, .string y2, .slice a l c, .bool b]
/-- the error of a key's text -/
def pkE (s : List UInt8) : Int := if 64 ∉ s ∨ 64 ∈ bhd 64 s then 113 else fte (ahd 64 s) (bhd 64 s)
/-- what readKey answers -/
def RK (s : List UInt8) (w : World) (e : Ending) (w' : World) : Prop := ∃ (x0 x1 : List UInt8) (y0 y1 y2 : ByteArray) (a : Option Addr) (l c : Nat) (b : Bool), e = .returned (.tuple #[.agg (c7 ⟨x0.toArray⟩ ⟨x1.toArray⟩ y0 y1 y2 a l c b).toArray, .int .i64 (pkE s)]) ∧ (pkE s = 0 → x0 = ahd 64 s ∧ x1 = bhd 64 s) ∧ (pkE s ≠ 0 → x0 = [] ∧ x1 = []) ∧ Up w w'
theorem RK.no {s : List UInt8} {k : Int} {w w' : World} (h : pkE s = k) (hk : k ≠ 0) (u : Up w w') : RK s w (.returned (.tuple #[.agg z7.toArray, .int .i64 k])) w' :=
  ⟨[], [], ⟨#[]⟩, ⟨#[]⟩, ⟨#[]⟩, none, 0, 0, false, by rw [h], fun h0 => absurd (h.symm.trans h0) hk, fun _ => ⟨rfl, rfl⟩, u⟩
theorem one7 (x0 x1 y0 y1 y2 : ByteArray) (a : Option Addr) (l c : Nat) (b : Bool) : (c7 x0 x1 y0 y1 y2 a l c b).toArray.all (·.oneCell') = true := by
  rw [Array.all_eq_true_iff_forall_mem]
  intro v hv
  simp at hv
  rcases hv with rfl | rfl | rfl | rfl | rfl | rfl | rfl <;> rfl
theorem infoEntry : (Tryz.prog.info? 56).map (·.size) = some 7 := by kernel_rfl
set_option maxRecDepth 100000 in
set_option maxHeartbeats 2000000 in
theorem readKey_walk (s : ByteArray) (hs : s.size ≤ 4611686018427387904) (w : World) (hG : GR w) : Calls Tryz.prog 20 #[.string s] w (RK s.data.toList w) := by
  have HC := fun w' => Hid.of (CutA_walk s hs 64 w')
  have HH := fun w' => Hid.of (Has_walk ⟨(bhd 64 s.data.toList).toArray⟩ 64 w')
  rw [ba_data'] at HH
  have HF := fun w' => fun (u : Up w w') => Hid.of (partsFor_walk ⟨(ahd 64 s.data.toList).toArray⟩ ⟨(bhd 64 s.data.toList).toArray⟩ w' (hG.up u))
  have HE : Hid (pkE s.data.toList = if 64 ∉ s.data.toList ∨ 64 ∈ bhd 64 s.data.toList then 113 else fte (ahd 64 s.data.toList) (bhd 64 s.data.toList)) := rfl
  clear hG hs
  have HA := Hid.of (at_new w 56 z7)
  have HU := Hid.of ((Up.refl w).alloc (.cells z7.toArray 56))
  by_cases h1 : 64 ∈ s.data.toList
  · rw [decide_eq_true h1] at HC
    by_cases h2 : 64 ∈ bhd 64 s.data.toList
    · rw [decide_eq_true h2] at HH
      have HN := Hid.of (HE.out.trans (if_pos (.inr h2)))
      clear h1 h2 HE HF
      generalize (⟨(bhd 64 s.data.toList).toArray⟩ : ByteArray) = sb at *
      generalize (⟨(ahd 64 s.data.toList).toArray⟩ : ByteArray) = sa at *
      go_enter Tryz.func20, Tryz.ntmps20
      go_wp2_with fail
      generalize w.alloc (.cells z7.toArray 56) = W0 at *
      refine (HC _).out.mono ?_
      rintro e w1 ⟨rfl, u1⟩
      have HA1 := Hid.of (HA.out.up u1)
      have HU1 := Hid.of (HU.out.trans u1)
      clear u1 HA HU HC
      dsimp only
      go_wp2_with fail
      refine ((HH _).out).mono ?_
      rintro e w9 ⟨rfl, h9⟩
      obtain rfl := h9.symm
      clear h9
      dsimp only
      go_wp2_with (with_reducible show wpList _ _ _ ({ dst := _, op := Op.store 56 _ _, type := _, pos := _, after := _, guard := _ } :: _) _ _; refine Shut.out ?_)
      show wpList _ _ _ _ _ _
      refine wpList_store_at rfl _ _ _ rfl w.heap.size HA1.out z7 rfl rfl rfl (by kernel_rfl) (one7 _ _ _ _ _ _ _ _ _) fun x1 hx1 hg1 => ?_
      have HX := Hid.of hx1
      have HXU := Hid.of (HU1.out.by hg1 (fun g hg => by injection hg with hg; omega))
      clear hx1 hg1 HA1 HU1
      simp only [Act.put]
      go_wp2
      refine bodyPost_ret (result_cell_tmp Tryz.results20 _ _ w.heap.size z7 _ rfl rfl HX.out.range Tryz.underlying56 rfl infoEntry) rfl ?_
      exact RK.no HN.out (by decide) HXU.out
    · rw [decide_eq_false h2] at HH
      have HE2 := Hid.of (HE.out.trans (if_neg (by rintro (h | h); exact h h1; exact h2 h)))
      clear h1 h2 HE
      obtain ⟨sa, hsa⟩ : ∃ sa : ByteArray, sa = ⟨(ahd 64 s.data.toList).toArray⟩ := ⟨_, rfl⟩
      obtain ⟨sb, hsb⟩ : ∃ sb : ByteArray, sb = ⟨(bhd 64 s.data.toList).toArray⟩ := ⟨_, rfl⟩
      have HF2 : ∀ w', Up w w' → Hid (Calls Tryz.prog 44 #[.string sa, .string sb] w' (FR (ahd 64 s.data.toList) (bhd 64 s.data.toList) w')) := by rw [hsa, hsb]; exact HF
      clear HF
      rw [← hsb] at HH
      rw [← hsa, ← hsb] at HC
      have HSA := Hid.of (And.intro hsa hsb)
      clear hsa hsb
      go_enter Tryz.func20, Tryz.ntmps20
      go_wp2_with fail
      generalize w.alloc (.cells z7.toArray 56) = W0 at *
      refine (HC _).out.mono ?_
      rintro e w1 ⟨rfl, u1⟩
      have HA1 := Hid.of (HA.out.up u1)
      have HU1 := Hid.of (HU.out.trans u1)
      clear u1 HA HU HC
      dsimp only
      go_wp2_with fail
      refine ((HH _).out).mono ?_
      rintro e w9 ⟨rfl, h9⟩
      obtain rfl := h9.symm
      clear h9
      dsimp only
      go_wp2_with fail
      refine (HF2 _ HU1.out).out.mono ?_
      rintro e w2 ⟨n0, n1, n2, v, ws, inc, rfl, hS, _, _, u2⟩
      have HA2 := Hid.of ((HA1.out.up u2).up ((Up.refl w2).alloc (.cells (pc5 n0 n1 n2 v inc) 54)))
      have HU2 := Hid.of ((HU1.out.trans u2).alloc (.cells (pc5 n0 n1 n2 v inc) 54))
      obtain ⟨va, vc, rfl⟩ := hS.len
      generalize ws.length = wn at *
      clear u2 HA1 HU1 HF2 hS HH
      dsimp only
      by_cases h0 : fte (ahd 64 s.data.toList) (bhd 64 s.data.toList) = 0
      · have HE3 := Hid.of (HE2.out.trans h0)
        rw [h0]
        clear h0 HE2
        go_wp2_with (with_reducible show wpList _ _ _ ({ dst := _, op := Op.store 56 _ _, type := _, pos := _, after := _, guard := _ } :: _) _ _; refine Shut.out ?_)
        show wpList _ _ _ _ _ _
        generalize w2.alloc (.cells (pc5 n0 n1 n2 (.slice va wn vc) inc) 54) = W3 at *
        refine wpList_store_at rfl _ _ _ rfl w.heap.size HA2.out (c7 sa sb ⟨n0.toArray⟩ ⟨n1.toArray⟩ ⟨n2.toArray⟩ va wn vc inc) rfl rfl rfl (by kernel_rfl) (one7 _ _ _ _ _ _ _ _ _) fun x1 hx1 hg1 => ?_
        have HX := Hid.of hx1
        have HXU := Hid.of (HU2.out.by hg1 (fun g hg => by injection hg with hg; omega))
        clear hx1 hg1 HA2 HU2
        simp only [Act.put]
        go_wp2
        refine bodyPost_ret (result_cell_tmp Tryz.results20 _ _ w.heap.size _ _ rfl rfl HX.out.range Tryz.underlying56 rfl infoEntry) rfl ?_
        refine ⟨ahd 64 s.data.toList, bhd 64 s.data.toList, ⟨n0.toArray⟩, ⟨n1.toArray⟩, ⟨n2.toArray⟩, va, wn, vc, inc, ?_, fun _ => ⟨rfl, rfl⟩, fun h => absurd HE3.out h, HXU.out⟩
        rw [HE3.out, ← HSA.out.1, ← HSA.out.2]
        rfl
      · have HE3 := Hid.of (And.intro HE2.out h0)
        have h0z : (fte (ahd 64 s.data.toList) (bhd 64 s.data.toList) != 0) = true := by rw [bne_iff_ne]; exact h0
        generalize fte (ahd 64 s.data.toList) (bhd 64 s.data.toList) = fe at *
        clear h0 HE2
        go_wp2_with (with_reducible show wpList _ _ _ ({ dst := _, op := Op.store 56 _ _, type := _, pos := _, after := _, guard := _ } :: _) _ _; refine Shut.out ?_)
        show wpList _ _ _ _ _ _
        generalize w2.alloc (.cells (pc5 n0 n1 n2 (.slice va wn vc) inc) 54) = W3 at *
        refine wpList_store_at rfl _ _ _ rfl w.heap.size HA2.out z7 rfl rfl rfl (by kernel_rfl) (one7 _ _ _ _ _ _ _ _ _) fun x1 hx1 hg1 => ?_
        have HX := Hid.of hx1
        have HXU := Hid.of (HU2.out.by hg1 (fun g hg => by injection hg with hg; omega))
        clear hx1 hg1 HA2 HU2
        simp only [Act.put]
        go_wp2
        refine bodyPost_ret (result_cell_tmp Tryz.results20 _ _ w.heap.size z7 _ rfl rfl HX.out.range Tryz.underlying56 rfl infoEntry) rfl ?_
        exact RK.no HE3.out.1 HE3.out.2 HXU.out
  · rw [decide_eq_false h1] at HC
    have HN := Hid.of (HE.out.trans (if_pos (.inl h1)))
    clear h1 HE HF HH
    generalize (⟨(bhd 64 s.data.toList).toArray⟩ : ByteArray) = sb at *
    generalize (⟨(ahd 64 s.data.toList).toArray⟩ : ByteArray) = sa at *
    go_enter Tryz.func20, Tryz.ntmps20
    go_wp2_with fail
    generalize w.alloc (.cells z7.toArray 56) = W0 at *
    refine (HC _).out.mono ?_
    rintro e w1 ⟨rfl, u1⟩
    have HA1 := Hid.of (HA.out.up u1)
    have HU1 := Hid.of (HU.out.trans u1)
    clear u1 HA HU HC
    dsimp only
    go_wp2_with (with_reducible show wpList _ _ _ ({ dst := _, op := Op.store 56 _ _, type := _, pos := _, after := _, guard := _ } :: _) _ _; refine Shut.out ?_)
    show wpList _ _ _ _ _ _
    refine wpList_store_at rfl _ _ _ rfl w.heap.size HA1.out z7 rfl rfl rfl (by kernel_rfl) (one7 _ _ _ _ _ _ _ _ _) fun x1 hx1 hg1 => ?_
    have HX := Hid.of hx1
    have HXU := Hid.of (HU1.out.by hg1 (fun g hg => by injection hg with hg; omega))
    clear hx1 hg1 HA1 HU1
    simp only [Act.put]
    go_wp2
    refine bodyPost_ret (result_cell_tmp Tryz.results20 _ _ w.heap.size z7 _ rfl rfl HX.out.range Tryz.underlying56 rfl infoEntry) rfl ?_
    exact RK.no HN.out (by decide) HXU.out
def pkP (s : List UInt8) : List UInt8 := if pkE s = 0 then ahd 64 s else []
def pkV (s : List UInt8) : List UInt8 := if pkE s = 0 then bhd 64 s else []
set_option maxRecDepth 100000 in
theorem ParseKey_walk (s : ByteArray) (hs : s.size ≤ 4611686018427387904) (w : World) (hG : GR w) : Calls Tryz.prog 10 #[.string s] w fun e w' => e = .returned (.tuple #[vs (pkP s.data.toList), vs (pkV s.data.toList), .int .i64 (pkE s.data.toList)]) ∧ Up w w' := by
  have HR := Hid.of (readKey_walk s hs w hG)
  clear hG hs
  have mixed : Tryz.prog.follows .mixedOrders = true := by kernel_rfl
  go_enter Tryz.func10, Tryz.ntmps10
  go_wp2_with fail
  refine HR.out.mono ?_
  rintro e w1 ⟨x0, x1, y0, y1, y2, a, l, c, b, rfl, h1, h2, u1⟩
  have H1 := Hid.of u1
  have HX : Hid (pkP s.data.toList = x0 ∧ pkV s.data.toList = x1) := by
    unfold pkP pkV
    by_cases h0 : pkE s.data.toList = 0
    · rw [if_pos h0, if_pos h0]; exact ⟨(h1 h0).1.symm, (h1 h0).2.symm⟩
    · rw [if_neg h0, if_neg h0]; exact ⟨(h2 h0).1.symm, (h2 h0).2.symm⟩
  clear u1 h1 h2 HR
  generalize hpe : pkE s.data.toList = pe at *
  have HPE := Hid.of (And.intro hpe trivial)
  clear hpe
  dsimp only
  go_wp2
  go_region
  go_wp2
  go_ret3
  rw [HX.out.1, HX.out.2, HPE.out.1]
  exact ⟨rfl, (H1.out.alloc _).drew⟩
end Go.Proofs.YtnciglpdjpckiaaGreatDoor
namespace Go.Proofs.YtnciglpdjpckiaaGreatDoor
open Go.RowKit Go.Shelf TextNum ModNum
def sumT (x : List UInt8) : List UInt8 := 104 :: 49 :: 58 :: b64E x
theorem sumT_len {x : List UInt8} (h : x.length = 32) : (sumT x).length = 47 := by
  unfold sumT
  simp only [List.length_cons]
  rw [b64E_length, h]
set_option maxRecDepth 100000 in
theorem Sum_walk (x : List UInt8) (hx : x.length = 32) (w : World) (hT : TabL w) : Calls Tryz.prog 27 #[.agg (cb x).toArray] w fun e w' => e = .returned (vs (sumT x)) ∧ Up w w' := by
  have HA := Hid.of (at_new w 32 (cb x))
  have HU := Hid.of ((Up.refl w).alloc (.cells (cb x).toArray 32))
  have HE := fun v => fun (hS : Sl (w.alloc (.cells (cb x).toArray 32)) v x) => Hid.of (EncodeBase64_walk v x (w.alloc (.cells (cb x).toArray 32)) (hT.below hT.lt HU.out) hS (by rw [hx]; decide))
  have HX := Hid.of hx
  clear hT hx
  go_enter Tryz.func27, Tryz.ntmps27
  have hsl : Sl (w.alloc (.cells (cb x).toArray 32)) (.slice (some ⟨w.heap.size, 0, none⟩) 32 32) x := by
    refine ⟨some ⟨w.heap.size, 0, none⟩, 32, by rw [HX.out], by rw [HX.out]; exact Nat.le_refl _, .inr ⟨w.heap.size, 0, rfl, lt_of_at HA.out, fun i hi => ?_⟩⟩
    rw [Nat.zero_add]
    exact HA.out.cell (cb_get hi)
  have HE2 := Hid.of (HE _ hsl).out
  clear hsl HE
  have hes : (b64E x).length = 44 := by rw [b64E_length, HX.out]
  have HS : Hid (vs (sumT x) = .string ⟨(104 :: 49 :: 58 :: b64E x).toArray⟩) := rfl
  go_wp2_with fail
  refine HE2.out.mono ?_
  rintro e w1 ⟨rfl, u1⟩
  have H1 := Hid.of (HU.out.trans u1)
  clear u1 HE2 HA HU
  dsimp only
  have hsz : (⟨(b64E x).toArray⟩ : ByteArray).size = 44 := by rw [str_len, hes]
  unfold vs
  obtain ⟨sb, hsb⟩ : ∃ sb : ByteArray, sb = ⟨(b64E x).toArray⟩ := ⟨_, rfl⟩
  rw [← hsb] at hsz ⊢
  have HSB := Hid.of (And.intro hsb trivial)
  clear hsb hes
  have hk : ¬ 9223372036854775807 < 3 + sb.size := by omega
  go_wp2
  go_ret
  rw [HS.out]
  refine ⟨?_, H1.out⟩
  rw [HSB.out.1, ba_app]
  rfl
set_option maxRecDepth 100000 in
theorem line_walk (p v s : ByteArray) (hp : p.size ≤ 1048576) (hv : v.size ≤ 1048576) (hs : s.size ≤ 1048576) (w : World) : Calls Tryz.prog 59 #[.string p, .string v, .string s] w fun e w' => e = .returned (.string ⟨(p.data.toList ++ 32 :: v.data.toList ++ 32 :: s.data.toList ++ [10]).toArray⟩) ∧ w' = w := by
  have k1 : ¬ 9223372036854775807 < p.size + 1 := by omega
  have k2 : ¬ 9223372036854775807 < p.size + 1 + v.size := by omega
  have k3 : ¬ 9223372036854775807 < p.size + 1 + v.size + 1 := by omega
  have k4 : ¬ 9223372036854775807 < p.size + 1 + v.size + 1 + s.size := by omega
  have k5 : ¬ 9223372036854775807 < p.size + 1 + v.size + 1 + s.size + 1 := by omega
  go_enter Tryz.func59, Tryz.ntmps59
  go_wp2
  go_ret
  refine ⟨?_, rfl⟩
  simp only [ba_app]
  simp
end Go.Proofs.YtnciglpdjpckiaaGreatDoor
namespace Go.Proofs.YtnciglpdjpckiaaGreatDoor
open Go.RowKit Go.Shelf TextNum ModNum
def lin (p v s : List UInt8) : List UInt8 := p ++ 32 :: v ++ 32 :: s ++ [10]
/-- a record's text -/
def recT (p v a b : List UInt8) : List UInt8 := if fte p v = 0 then lin p v (sumT a) ++ lin p (v ++ GOM) (sumT b) else []
theorem rng_up {w w' : World} {b o : Nat} {cs : List Value} (h : w.rangeAt b o cs) (u : Up w w') : w'.rangeAt b o cs := fun j v hj => u.cell (h j v hj)
set_option maxRecDepth 100000 in
set_option maxHeartbeats 600000 in
theorem Record_walk (p v : ByteArray) (x y : List UInt8) (hx : x.length = 32) (hy : y.length = 32) (w : World) (hG : GR w) (hT : TabL w) :
    Calls Tryz.prog 32 #[.string p, .string v, .agg (cb x).toArray, .agg (cb y).toArray] w fun e w' => e = .returned (.tuple #[vs (recT p.data.toList v.data.toList x y), .int .i64 (fte p.data.toList v.data.toList)]) ∧ Up w w' := by
  have HF := fun w' => fun (u : Up w w') => Hid.of (partsFor_walk p v w' (hG.up u))
  have HSx := fun w' => fun (u : Up w w') => Hid.of (Sum_walk x hx w' (hT.below hT.lt u))
  have HSy := fun w' => fun (u : Up w w') => Hid.of (Sum_walk y hy w' (hT.below hT.lt u))
  have HA1 : Hid (At ((w.alloc (.cells (cb x).toArray 32)).alloc (.cells (cb y).toArray 32)) w.heap.size 32 (cb x)) := At.up (at_new w 32 (cb x)) ((Up.refl _).alloc _)
  have HA2 : Hid (At ((w.alloc (.cells (cb x).toArray 32)).alloc (.cells (cb y).toArray 32)) (w.heap.size + 1) 32 (cb y)) := by
    have := at_new (w.alloc (.cells (cb x).toArray 32)) 32 (cb y)
    rw [alloc_size] at this
    exact this
  have HU : Hid (Up w ((w.alloc (.cells (cb x).toArray 32)).alloc (.cells (cb y).toArray 32))) := ((Up.refl w).alloc _).alloc _
  have HR : Hid (recT p.data.toList v.data.toList x y = if fte p.data.toList v.data.toList = 0 then lin p.data.toList v.data.toList (sumT x) ++ lin p.data.toList (v.data.toList ++ GOM) (sumT y) else []) := rfl
  have HlX := Hid.of (And.intro hx hy)
  clear hG hT hx hy
  have mixed : Tryz.prog.follows .mixedOrders = true := by kernel_rfl
  go_enter Tryz.func32, Tryz.ntmps32
  go_wp2_with fail
  generalize (w.alloc (.cells (cb x).toArray 32)).alloc (.cells (cb y).toArray 32) = W0 at *
  refine (HF _ HU.out).out.mono ?_
  rintro e w1 ⟨n0, n1, n2, va, ws, inc, rfl, hS1, _, _, u1⟩
  have HB1 := Hid.of ((HA1.out.up u1).up ((Up.refl w1).alloc (.cells (pc5 n0 n1 n2 va inc) 54)))
  have HB2 := Hid.of ((HA2.out.up u1).up ((Up.refl w1).alloc (.cells (pc5 n0 n1 n2 va inc) 54)))
  have HU2 := Hid.of ((HU.out.trans u1).alloc (.cells (pc5 n0 n1 n2 va inc) 54))
  obtain ⟨a0, c0, rfl⟩ := hS1.len
  generalize ws.length = wn at *
  clear hS1 u1 HF HA1 HA2 HU
  dsimp only
  by_cases h0 : fte p.data.toList v.data.toList = 0
  · have HR2 := Hid.of (HR.out.trans (if_pos h0))
    have H0 := Hid.of (And.intro h0 trivial)
    obtain ⟨mm, qq, hm1, hv1, _⟩ := fte_ok h0
    have hp1 := (maj_len hm1).1
    have hv2 := (ver_len hv1).1
    rw [len_of] at hp1 hv2
    rw [h0]
    clear h0 HR hm1 hv1
    have ix := i32 HlX.out.1
    have iy := i32 HlX.out.2
    have hk7 : ¬ 9223372036854775807 < v.size + 7 := by omega
    have hlx := sumT_len HlX.out.1
    have hly := sumT_len HlX.out.2
    obtain ⟨vg, hvg⟩ : ∃ vg : ByteArray, vg = v ++ ⟨#[47, 103, 111, 46, 109, 111, 100]⟩ := ⟨_, rfl⟩
    have hvd : vg.data.toList = v.data.toList ++ GOM := by rw [hvg, ba_app]
    have hvs : vg.size = v.size + 7 := by rw [hvg]; simp; rfl
    have HL1 := fun w' => Hid.of (line_walk p v ⟨(sumT x).toArray⟩ (by omega) (by omega) (by rw [str_len]; omega) w')
    have HL2 := fun w' => Hid.of (line_walk p vg ⟨(sumT y).toArray⟩ (by omega) (by omega) (by rw [str_len]; omega) w')
    rw [ba_data'] at HL1 HL2
    rw [hvd] at HL2
    obtain ⟨r1, hr1⟩ : ∃ r1 : ByteArray, r1 = ⟨(lin p.data.toList v.data.toList (sumT x)).toArray⟩ := ⟨_, rfl⟩
    obtain ⟨r2, hr2⟩ : ∃ r2 : ByteArray, r2 = ⟨(lin p.data.toList (v.data.toList ++ GOM) (sumT y)).toArray⟩ := ⟨_, rfl⟩
    have hz1 : r1.size ≤ 1024 := by rw [hr1, str_len]; simp [lin, hlx]; omega
    have hz2 : r2.size ≤ 1024 := by rw [hr2, str_len]; simp [lin, hly]; omega
    have HL1' : ∀ w', Hid (Calls Tryz.prog 59 #[.string p, .string v, vs (sumT x)] w' fun e w'' => e = .returned (.string r1) ∧ w'' = w') := by rw [hr1]; exact HL1
    have HL2' : ∀ w', Hid (Calls Tryz.prog 59 #[.string p, .string (v ++ ⟨#[47, 103, 111, 46, 109, 111, 100]⟩), vs (sumT y)] w' fun e w'' => e = .returned (.string r2) ∧ w'' = w') := by rw [← hvg, hr2]; exact HL2
    have HRR := Hid.of (And.intro hr1 hr2)
    clear HL1 HL2 hr1 hr2 hvd hvs hlx hly hvg
    have hk8 : ¬ 9223372036854775807 < r1.size + r2.size := by omega
    unfold vs at HSx HSy HL1' HL2'
    generalize (⟨(sumT x).toArray⟩ : ByteArray) = sx at *
    generalize (⟨(sumT y).toArray⟩ : ByteArray) = sy at *
    go_wp2
    refine wp_region_held_drew (S := fun w2 => w2.rangeAt (w.heap.size) 0 (cb x) ∧ w2.rangeAt (w.heap.size + 1) 0 (cb y) ∧ Up w w2) (by kernel_rfl) ⟨by simpa using HB1.out.range, by simpa using HB2.out.range, HU2.out.drew⟩ (fun hS => ?_)
    refine wpAnyH_take (i := 0) (oi := { dst := some 21, op := Go.Op.move (Go.Operand.tmp 0), type := 9, pos := "record.go:38", after := #[], guard := none }) (v := .string p) rfl (by kernel_rfl) (by kernel_rfl) (by kernel_rfl) (fun _ _ _ h => h) (Or.inl ⟨by kernel_rfl, ?_⟩) hS ?_
    · intro w5 hSw
      go_simp
    simp only [Act.put, List.setIfInBounds_toArray, List.set_cons_zero, List.set_cons_succ]
    refine wpAnyH_take (i := 1) (oi := { dst := some 22, op := Go.Op.move (Go.Operand.tmp 1), type := 9, pos := "record.go:38", after := #[], guard := none }) (v := .string v) rfl (by kernel_rfl) (by kernel_rfl) (by kernel_rfl) (fun _ _ _ h => h) (Or.inl ⟨by kernel_rfl, ?_⟩) hS ?_
    · intro w5 hSw
      go_simp
    simp only [Act.put, List.setIfInBounds_toArray, List.set_cons_zero, List.set_cons_succ]
    refine wpAnyH_take (i := 2) (oi := { dst := some 23, op := Go.Op.load 32 (Go.Operand.tmp 6), type := 32, pos := "record.go:38", after := #[], guard := none }) (v := .agg (cb x).toArray) rfl (by kernel_rfl) (by kernel_rfl) (by kernel_rfl) (fun _ _ _ h => h) (yieldsIf_load_mid (by kernel_rfl) _ _ rfl (w.heap.size) 0 rfl (cb x) _ (fun w5 hSw => hSw.1) Tryz.underlying32 rfl ix) hS ?_
    simp only [Act.put, List.setIfInBounds_toArray, List.set_cons_zero, List.set_cons_succ]
    refine wpAnyH_take (i := 5) (oi := { dst := some 26, op := Go.Op.move (Go.Operand.tmp 0), type := 9, pos := "record.go:38", after := #[], guard := none }) (v := .string p) rfl (by kernel_rfl) (by kernel_rfl) (by kernel_rfl) (fun _ _ _ h => h) (Or.inl ⟨by kernel_rfl, ?_⟩) hS ?_
    · intro w5 hSw
      go_simp
    simp only [Act.put, List.setIfInBounds_toArray, List.set_cons_zero, List.set_cons_succ]
    refine wpAnyH_take (i := 6) (oi := { dst := some 27, op := Go.Op.move (Go.Operand.tmp 1), type := 9, pos := "record.go:38", after := #[], guard := none }) (v := .string v) rfl (by kernel_rfl) (by kernel_rfl) (by kernel_rfl) (fun _ _ _ h => h) (Or.inl ⟨by kernel_rfl, ?_⟩) hS ?_
    · intro w5 hSw
      go_simp
    simp only [Act.put, List.setIfInBounds_toArray, List.set_cons_zero, List.set_cons_succ]
    refine wpAnyH_take (i := 7) (oi := { dst := some 28, op := Go.Op.binOp Go.BinOp.add 9 (Go.Operand.tmp 27) (Go.Operand.const (Go.Value.string { data := #[47, 103, 111, 46, 109, 111, 100] })) 9, type := 9, pos := "record.go:38", after := #[{ on := 6, ground := Go.Ground.data }], guard := none }) (v := .string (v ++ ⟨#[47, 103, 111, 46, 109, 111, 100]⟩)) rfl (by kernel_rfl) (by kernel_rfl) (by kernel_rfl) (fun _ _ _ h => h) (Or.inl ⟨by kernel_rfl, ?_⟩) hS ?_
    · intro w5 hSw
      go_simp
    simp only [Act.put, List.setIfInBounds_toArray, List.set_cons_zero, List.set_cons_succ]
    refine wpAnyH_take (i := 8) (oi := { dst := some 29, op := Go.Op.load 32 (Go.Operand.tmp 7), type := 32, pos := "record.go:38", after := #[], guard := none }) (v := .agg (cb y).toArray) rfl (by kernel_rfl) (by kernel_rfl) (by kernel_rfl) (fun _ _ _ h => h) (yieldsIf_load_mid (by kernel_rfl) _ _ rfl (w.heap.size + 1) 0 rfl (cb y) _ (fun w5 hSw => hSw.2.1) Tryz.underlying32 rfl iy) hS ?_
    simp only [Act.put, List.setIfInBounds_toArray, List.set_cons_zero, List.set_cons_succ]
    refine wpAnyH_ready (rs := [3]) (by kernel_rfl) (by simp) ?_
    refine AllReadyH.cons (o := { dst := some 24, op := Go.Op.call { callee := Go.Callee.value (Go.Operand.func 27), args := #[Go.Operand.tmp 23], argTypes := #[32] }, type := 9, pos := "record.go:38", after := #[{ on := 2, ground := Go.Ground.data }], guard := none }) rfl (fun K hK => ?_) AllReadyH.nil
    rw [if_pos (by kernel_rfl)]
    go_simp
    refine ((HSx _ hS.2.2).out).mono ?_
    rintro e v1 ⟨rfl, u1⟩
    dsimp only
    refine hK.out _ _ ⟨rng_up hS.1 u1, rng_up hS.2.1 u1, hS.2.2.trans u1⟩ (fun hS1 => ?_)
    clear hK hS u1
    refine wpAnyH_ready (rs := [4]) (by kernel_rfl) (by simp) ?_
    refine AllReadyH.cons (o := { dst := some 25, op := Go.Op.call { callee := Go.Callee.value (Go.Operand.func 59), args := #[Go.Operand.tmp 21, Go.Operand.tmp 22, Go.Operand.tmp 24], argTypes := #[9, 9, 9] }, type := 9, pos := "record.go:38", after := #[{ on := 0, ground := Go.Ground.data }, { on := 1, ground := Go.Ground.data }, { on := 3, ground := Go.Ground.data }, { on := 3, ground := Go.Ground.chain }], guard := none }) rfl (fun K hK => ?_) AllReadyH.nil
    rw [if_pos (by kernel_rfl)]
    go_simp
    refine ((HL1' _).out).mono ?_
    rintro e v2 ⟨rfl, u2⟩
    obtain rfl := u2.symm
    dsimp only
    refine hK.out _ _ hS1 (fun hS2 => ?_)
    clear hK hS1
    refine wpAnyH_ready (rs := [9]) (by kernel_rfl) (by simp) ?_
    refine AllReadyH.cons (o := { dst := some 30, op := Go.Op.call { callee := Go.Callee.value (Go.Operand.func 27), args := #[Go.Operand.tmp 29], argTypes := #[32] }, type := 9, pos := "record.go:38", after := #[{ on := 8, ground := Go.Ground.data }, { on := 4, ground := Go.Ground.chain }], guard := none }) rfl (fun K hK => ?_) AllReadyH.nil
    rw [if_pos (by kernel_rfl)]
    go_simp
    refine ((HSy _ hS2.2.2).out).mono ?_
    rintro e v3 ⟨rfl, u3⟩
    dsimp only
    refine hK.out _ _ ⟨rng_up hS2.1 u3, rng_up hS2.2.1 u3, hS2.2.2.trans u3⟩ (fun hS3 => ?_)
    clear hK hS2 u3
    refine wpAnyH_ready (rs := [10]) (by kernel_rfl) (by simp) ?_
    refine AllReadyH.cons (o := { dst := some 31, op := Go.Op.call { callee := Go.Callee.value (Go.Operand.func 59), args := #[Go.Operand.tmp 26, Go.Operand.tmp 28, Go.Operand.tmp 30], argTypes := #[9, 9, 9] }, type := 9, pos := "record.go:38", after := #[{ on := 5, ground := Go.Ground.data }, { on := 7, ground := Go.Ground.data }, { on := 9, ground := Go.Ground.data }, { on := 9, ground := Go.Ground.chain }], guard := none }) rfl (fun K hK => ?_) AllReadyH.nil
    rw [if_pos (by kernel_rfl)]
    go_simp
    refine ((HL2' _).out).mono ?_
    rintro e v4 ⟨rfl, u4⟩
    obtain rfl := u4.symm
    dsimp only
    refine hK.out _ _ hS3 (fun hS4 => ?_)
    clear hK hS3
    refine wpAnyH_take (i := 11) (oi := { dst := some 32, op := Go.Op.binOp Go.BinOp.add 9 (Go.Operand.tmp 25) (Go.Operand.tmp 31) 9, type := 9, pos := "record.go:38", after := #[{ on := 4, ground := Go.Ground.data }, { on := 10, ground := Go.Ground.data }], guard := none }) (v := .string (r1 ++ r2)) rfl (by kernel_rfl) (by kernel_rfl) (by kernel_rfl) (fun _ _ _ h => h) (Or.inl ⟨by kernel_rfl, ?_⟩) hS4 ?_
    · intro w5 hSw
      go_simp
    simp only [Act.put, List.setIfInBounds_toArray, List.set_cons_zero, List.set_cons_succ]
    refine wpAnyH_ready (rs := [12]) (by kernel_rfl) (by simp) ?_
    refine AllReadyH.cons (o := { dst := some 8, op := Go.Op.assign (Go.Operand.tmp 32), type := 9, pos := "record.go:38", after := #[{ on := 11, ground := Go.Ground.data }, { on := 10, ground := Go.Ground.chain }, { on := 0, ground := Go.Ground.phase }, { on := 1, ground := Go.Ground.phase }, { on := 2, ground := Go.Ground.phase }, { on := 3, ground := Go.Ground.phase }, { on := 4, ground := Go.Ground.phase }, { on := 5, ground := Go.Ground.phase }, { on := 6, ground := Go.Ground.phase }, { on := 7, ground := Go.Ground.phase }, { on := 8, ground := Go.Ground.phase }, { on := 9, ground := Go.Ground.phase }, { on := 10, ground := Go.Ground.phase }, { on := 11, ground := Go.Ground.phase }], guard := none }) rfl (fun K hK => ?_) AllReadyH.nil
    rw [if_pos (by kernel_rfl)]
    go_simp
    refine hK.out _ _ hS4 (fun hS5 => ?_)
    clear hK hS4
    refine wpAnyH_ready (rs := [13]) (by kernel_rfl) (by simp) ?_
    refine AllReadyH.cons (o := { dst := some 9, op := Go.Op.assign (Go.Operand.const (Go.Value.int Go.IntKind.i64 0)), type := 23, pos := "record.go:38", after := #[{ on := 12, ground := Go.Ground.chain }, { on := 0, ground := Go.Ground.phase }, { on := 1, ground := Go.Ground.phase }, { on := 2, ground := Go.Ground.phase }, { on := 3, ground := Go.Ground.phase }, { on := 4, ground := Go.Ground.phase }, { on := 5, ground := Go.Ground.phase }, { on := 6, ground := Go.Ground.phase }, { on := 7, ground := Go.Ground.phase }, { on := 8, ground := Go.Ground.phase }, { on := 9, ground := Go.Ground.phase }, { on := 10, ground := Go.Ground.phase }, { on := 11, ground := Go.Ground.phase }, { on := 12, ground := Go.Ground.phase }], guard := none }) rfl (fun K hK => ?_) AllReadyH.nil
    rw [if_pos (by kernel_rfl)]
    go_simp
    refine hK.out _ _ hS5 (fun hS6 => ?_)
    clear hK hS5
    refine wpAnyH_done (by kernel_rfl) ?_ _
    have HSZ := Hid.of hS6
    clear hS6
    go_wp2_with fail
    go_ret2
    rw [HR2.out, H0.out.1]
    refine ⟨?_, HSZ.out.2.2⟩
    rw [HRR.out.1, HRR.out.2, ba_app]
    rfl
  · have HR2 := Hid.of (HR.out.trans (if_neg h0))
    have h0z : (fte p.data.toList v.data.toList != 0) = true := by rw [bne_iff_ne]; exact h0
    generalize hfe : fte p.data.toList v.data.toList = fe at *
    have HFE := Hid.of (And.intro hfe trivial)
    clear h0 HR hfe
    go_wp2
    go_ret2
    rw [HR2.out, HFE.out.1]
    exact ⟨rfl, HU2.out⟩
end Go.Proofs.YtnciglpdjpckiaaGreatDoor
