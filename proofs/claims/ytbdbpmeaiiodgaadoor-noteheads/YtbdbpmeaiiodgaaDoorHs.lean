import Derived.Test.YtbdbpmeaiiodgaaDoorHr
namespace Go.Proofs.YtbdbpmeaiiodgaaDoor
open Go.RowKit Go.Shelf TextNum
theorem hdC_len (l : List UInt8) : (hdC (rdH l)).length = 34 := by
  cases h : rdH l with
  | none => rfl
  | some x =>
    obtain ⟨_, a, b, c, _, _, _, _, h6, rfl⟩ := rdH_some h
    exact headC_len h6
theorem hdC_one (x : Option (List UInt8 × Int × List UInt8)) : ∀ v, v ∈ hdC x → v.oneCell' = true := by
  cases x with
  | none => exact headC_one _ _ _
  | some x => exact headC_one _ _ _
def hdE (x : Option (List UInt8 × Int × List UInt8)) : Int := if x.isSome = true then 0 else 77
set_option maxRecDepth 100000 in
set_option maxHeartbeats 1000000 in
theorem ParseHead_walk (s : ByteArray) (w : World) (hG : GH w) :
    Calls Tryd.prog 29 #[.string s] w fun e w' => e = .returned (.tuple #[.agg (hdC (rdH s.data.toList)).toArray, .int .i64 (hdE (rdH s.data.toList))]) ∧ Up w w' := by
  go_enter Tryd.func29, Tryd.ntmps29
  go_wp2_with fail
  change Calls _ _ _ (w.alloc (Obj.cells zeroC.toArray 54)) _
  have ht := there_new w zeroC 54
  have hu0 := (Up.refl w).alloc (Obj.cells zeroC.toArray 54)
  have hsz0 : w.heap.size < (w.alloc (Obj.cells zeroC.toArray 54)).heap.size := by rw [World.alloc]; simp
  generalize w.alloc (Obj.cells zeroC.toArray 54) = W0 at *
  refine (readHead_walk s W0 (hG.up hu0)).mono ?_
  rintro e W1 ⟨rfl, u1⟩
  dsimp only
  have HT := Hid.of (show W1.there w.heap.size 0 34 from there_up ht hsz0 u1)
  have HU := Hid.of (hu0.trans u1)
  have hsz : w.heap.size < W1.heap.size := Nat.lt_of_lt_of_le hsz0 u1.size
  clear ht hu0 hsz0 u1
  have hlen := hdC_len s.data.toList
  have hone := hdC_one (rdH s.data.toList)
  have hzero : (rdH s.data.toList).isSome = false → hdC (rdH s.data.toList) = zeroC := fun h => by
    cases hh : rdH s.data.toList with
    | none => rfl
    | some x => rw [hh] at h; cases h
  have HE := Hid.of (show hdE (rdH s.data.toList) = if (rdH s.data.toList).isSome = true then 0 else 77 from rfl)
  generalize hcs : hdC (rdH s.data.toList) = cs at *
  generalize hbb : (rdH s.data.toList).isSome = bb at *
  have HCS := Hid.of (And.intro hcs hbb)
  clear hcs hbb
  go_wp2_with (with_reducible show wpList _ _ _ ({ dst := _, op := Op.store 54 (.tmp 4) _, type := _, pos := _, after := _, guard := _ } :: _) _ _; refine Shut.out ?_)
  show wpList _ _ _ _ _ _
  change wpList _ _ _ _ _ (W1.alloc (Obj.cells zeroC.toArray 54))
  have t2 := there_new W1 zeroC 54
  have u2 := (Up.refl W1).alloc (Obj.cells zeroC.toArray 54)
  have hs2 : W1.heap.size < (W1.alloc (Obj.cells zeroC.toArray 54)).heap.size := by rw [World.alloc]; simp
  generalize W1.alloc (Obj.cells zeroC.toArray 54) = W2 at *
  refine wpList_store_mid rfl _ _ _ rfl W1.heap.size 0 cs.toArray rfl rfl (by rw [show cs.toArray.size = 34 from hlen]; exact t2) (by rw [List.size_toArray, hlen]; exact infoH) (all_oneCell_toArray hone) ?_
  simp only [Act.put]
  have r3 : (World.setCells W2 W1.heap.size 0 cs.toArray.toList).rangeAt W1.heap.size 0 cs := World.rangeAt_setCells_same _ _ _ _ (by rw [show cs.toArray.toList.length = 34 from hlen]; exact t2)
  have t3 : (World.setCells W2 W1.heap.size 0 cs.toArray.toList).there w.heap.size 0 34 := World.there_setCells (there_up HT.out hsz u2) _ _ _
  have HU3 := Hid.of (up_setCells (W := w) (Nat.le_of_lt hsz) cs.toArray.toList 0 (HU.out.trans u2))
  generalize World.setCells W2 W1.heap.size 0 cs.toArray.toList = W3 at *
  have HT3 := Hid.of t3
  have HR3 := Hid.of r3
  clear t2 u2 t3 r3 hs2 HT HU
  cases hb : bb with
  | true =>
    go_wp2_with (with_reducible show wpList _ _ _ ({ dst := _, op := Op.load 54 _, type := _, pos := _, after := _, guard := _ } :: _) _ _; refine Shut.out ?_)
    show wpList _ _ _ _ _ _
    refine wpList_load_mid rfl _ _ rfl W1.heap.size 0 rfl cs _ HR3.out Tryd.underlying54 rfl (by rw [hlen]; exact infoH) ?_
    simp only [Act.put, List.setIfInBounds_toArray, List.set_cons_zero, List.set_cons_succ]
    go_wp2_with (with_reducible show wpList _ _ _ ({ dst := _, op := Op.store 54 (.tmp 2) _, type := _, pos := _, after := _, guard := _ } :: _) _ _; refine Shut.out ?_)
    show wpList _ _ _ _ _ _
    refine wpList_store_mid rfl _ _ _ rfl w.heap.size 0 cs.toArray rfl rfl (by rw [show cs.toArray.size = 34 from hlen]; exact HT3.out) (by rw [List.size_toArray, hlen]; exact infoH) (all_oneCell_toArray hone) ?_
    simp only [Act.put]
    have HRG := Hid.of (show (World.setCells W3 w.heap.size 0 cs.toArray.toList).rangeAt w.heap.size 0 cs from World.rangeAt_setCells_same _ _ _ _ (by rw [show cs.toArray.toList.length = 34 from hlen]; exact HT3.out))
    have HUZ := Hid.of (up_setCells (Nat.le_refl _) cs.toArray.toList 0 HU3.out)
    generalize World.setCells W3 w.heap.size 0 cs.toArray.toList = WZ at *
    go_wp2_with fail
    refine bodyPost_ret (result_cell_tmp Tryd.results29 _ _ w.heap.size cs _ rfl rfl HRG.out Tryd.underlying54 rfl (by rw [hlen]; exact infoH)) rfl ?_
    rw [HCS.out.1, HE.out, hb]
    exact ⟨rfl, HUZ.out⟩
  | false =>
    go_wp2_with (with_reducible show wpList _ _ _ ({ dst := _, op := Op.store 54 (.tmp 2) _, type := _, pos := _, after := _, guard := _ } :: _) _ _; refine Shut.out ?_)
    show wpList _ _ _ _ _ _
    refine wpList_store_mid rfl _ _ _ rfl w.heap.size 0 zeroC.toArray rfl rfl (by rw [show zeroC.toArray.size = 34 from rfl]; exact HT3.out) (by rw [show zeroC.toArray.size = 34 from rfl]; exact infoH) (all_oneCell_toArray (headC_one _ _ _)) ?_
    simp only [Act.put]
    have HRG := Hid.of (show (World.setCells W3 w.heap.size 0 zeroC.toArray.toList).rangeAt w.heap.size 0 zeroC from World.rangeAt_setCells_same _ _ _ _ HT3.out)
    have HUZ := Hid.of (up_setCells (Nat.le_refl _) zeroC.toArray.toList 0 HU3.out)
    generalize World.setCells W3 w.heap.size 0 zeroC.toArray.toList = WZ at *
    go_wp2_with fail
    refine bodyPost_ret (result_cell_tmp Tryd.results29 _ _ w.heap.size zeroC _ rfl rfl HRG.out Tryd.underlying54 rfl infoH) rfl ?_
    rw [HCS.out.1, hzero hb, HE.out, hb]
    exact ⟨rfl, HUZ.out⟩
end Go.Proofs.YtbdbpmeaiiodgaaDoor
