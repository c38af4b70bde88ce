import Derived.Test.YtaobnnlcfefodaaDoorWa
import Derived.Test.YtaobnnlcfefodaaDoorFi
import Derived.Test.YtaobnnlcfefodaaDoorNp
import Derived.Shelf.Small.Wraps
namespace Go.Proofs.YtaobnnlcfefodaaDoor
open Go.RowKit TextNum
/-- all that the calls read of the variables -/
structure GW (w : World) : Prop where
  tl : TabL w
  wt : Go.Lib.WhiteTab 5 w
  gn : GN w
set_option maxRecDepth 100000 in
theorem isNote_walk (v : Value) (m : List UInt8) (w : World) (hS : Sl w v m) (hT : TabL w) (hW : Go.Lib.WhiteTab 5 w) (bb : Bool) (hbb : bb = true ↔ isNt m) : Calls Tryd.prog 9 #[v] w fun e w' => e = .returned (.bool bb) ∧ Up w w' := by
  have hSp := Split_walk v m w hS hT hW
  clear hS hT hW
  go_enter Tryd.func9, Tryd.ntmps9
  go_wp2_with fail
  refine hSp.mono ?_
  rintro e w1 ⟨t, sv, ss, er, rfl, hr, _, u1⟩
  have HU := Hid.of u1
  clear hSp u1
  dsimp only
  rcases hr with ⟨rfl, h⟩ | ⟨rfl, h, hn⟩ | ⟨rfl, h, hy⟩
  · have e1 := Hid.of (And.intro (show bb = false from Bool.eq_false_iff.2 fun hb => by
      have := (nt_iff.1 (hbb.1 hb)).1
      omega) trivial)
    clear h hbb
    go_wp2
    go_ret
    exact ⟨by rw [e1.out.1]; rfl, HU.out⟩
  · have e1 := Hid.of (And.intro (show bb = false from Bool.eq_false_iff.2 fun hb => (hn (nt_iff.1 (hbb.1 hb)).2).elim) trivial)
    clear h hn hbb
    go_wp2
    go_ret
    exact ⟨by rw [e1.out.1]; rfl, HU.out⟩
  · have e1 := Hid.of (And.intro (show bb = true from hbb.2 (nt_iff.2 ⟨h, _, _, hy⟩)) trivial)
    clear h hy hbb
    go_wp2
    go_ret
    exact ⟨by rw [e1.out.1]; rfl, HU.out⟩
/-- the number in the first line -/
def szI (l : List UInt8) : Int × Bool := if Go.Lib.hasPrefix l OLD = true then ((prs (l.drop 4) 281474976710656).1, decide ((prs (l.drop 4) 281474976710656).2 = 0)) else (0, false)
theorem trim_old {l : List UInt8} (h : Go.Lib.hasPrefix l OLD = true) : Go.Lib.trimPrefix l OLD = l.drop 4 := by
  unfold Go.Lib.trimPrefix
  rw [if_pos h]
  rfl
set_option maxRecDepth 100000 in
theorem sizeIn_walk (s : ByteArray) (w : World) (hG : GN w) : Calls Tryd.prog 13 #[.string s] w fun e w' => e = .returned (.tuple #[.int .i64 (szI s.data.toList).1, .bool (szI s.data.toList).2]) ∧ Up w w' := by
  have HG := Hid.of hG
  clear hG
  go_enter Tryd.func13, Tryd.ntmps13
  go_wp2_with fail
  refine (Any.strings_CutPrefix Tryd.lays103 s ⟨#[111, 108, 100, 32]⟩ _).mono ?_
  rintro e w' ⟨rfl, hw⟩
  obtain rfl := hw.symm
  clear hw
  rw [show (⟨#[111, 108, 100, 32]⟩ : ByteArray).data.toList = OLD from rfl]
  by_cases hp : Go.Lib.hasPrefix s.data.toList OLD = true
  · have HR := Hid.of (show szI s.data.toList = _ from if_pos hp)
    rw [trim_old hp, hp]
    clear hp
    have hP := ParseNumber_walk ⟨(s.data.toList.drop 4).toArray⟩ 281474976710656 w HG.out
    rw [show (⟨(s.data.toList.drop 4).toArray⟩ : ByteArray).data.toList = s.data.toList.drop 4 from rfl] at hP
    generalize prs (s.data.toList.drop 4) 281474976710656 = q at *
    obtain ⟨q1, q2⟩ := q
    dsimp only at hP ⊢
    go_wp2_with fail
    refine hP.mono ?_
    rintro e w1 ⟨rfl, u1⟩
    have HU := Hid.of u1
    clear hP u1
    dsimp only
    by_cases h0 : q2 = 0
    · subst h0
      go_wp2
      go_ret2
      rw [HR.out]
      exact ⟨rfl, HU.out⟩
    · go_wp2
      go_ret2
      rw [HR.out]
      exact ⟨by simp [h0], HU.out⟩
  · have hp0 : Go.Lib.hasPrefix s.data.toList OLD = false := by simpa using hp
    have HR := Hid.of (show szI s.data.toList = (0, false) from if_neg hp)
    rw [hp0]
    clear hp hp0
    generalize Go.Lib.trimPrefix s.data.toList OLD = tr
    dsimp only
    go_wp2
    go_ret2
    rw [HR.out]
    exact ⟨rfl, Up.refl _⟩
theorem row_lenW {w : World} {B : Nat} {v : Value} {l : List UInt8} (h : Own w B v l) : ∃ a c, v = .slice a l.length c := by
  rcases h.2 with ⟨e1, h0⟩ | ⟨g, cap, cur, e1, _⟩
  · exact ⟨none, 0, by rw [e1, h0]⟩
  · exact ⟨_, cap, e1⟩
/-- the hash in a line -/
def hsI (l : List UInt8) : Option (List UInt8) := if (b64R l).2 = 0 ∧ (b64R l).1.length = 32 then some (b64R l).1 else none
def zH : List UInt8 := List.replicate 32 0
def hsV (l : List UInt8) : List UInt8 := (hsI l).getD zH
theorem infoHs : (Tryd.prog.info? 30).map (·.size) = some 32 := by kernel_rfl
set_option maxRecDepth 100000 in
set_option maxHeartbeats 2000000 in
theorem hashIn_walk (s : ByteArray) (w : World) (hT : TabL w) : Calls Tryd.prog 21 #[.string s] w fun e w' => e = .returned (.tuple #[.agg (cb (hsV s.data.toList)).toArray, .bool (hsI s.data.toList).isSome]) ∧ Up w w' := by
  go_enter Tryd.func21, Tryd.ntmps21
  go_wp2_with fail
  change Calls _ _ _ (w.alloc (Obj.cells (cb zH).toArray 30)) _
  have ht := there_new w (cb zH) 30
  have hu0 := (Up.refl w).alloc (Obj.cells (cb zH).toArray 30)
  have hsz0 : w.heap.size < (w.alloc (Obj.cells (cb zH).toArray 30)).heap.size := by rw [World.alloc]; simp
  generalize w.alloc (Obj.cells (cb zH).toArray 30) = W0 at *
  refine (DecodeBase64_walk s W0 (hT.up hu0)).mono ?_
  rintro e W1 ⟨v, rfl, hO, u1⟩
  dsimp only
  have HT := Hid.of (show W1.there w.heap.size 0 32 from there_up ht hsz0 u1)
  have HU := Hid.of (hu0.trans u1)
  clear ht hu0 hT u1
  have hBAD : hsI s.data.toList = none → ∀ (W : World), W.there w.heap.size 0 32 → Up w W → Hid ((World.setCells W w.heap.size 0 (cb zH).toArray.toList).rangeAt w.heap.size 0 (cb zH) ∧ Up w (World.setCells W w.heap.size 0 (cb zH).toArray.toList)) := fun _ W h1 h2 => Hid.of ⟨World.rangeAt_setCells_same _ _ _ _ h1, up_setCells (Nat.le_refl _) _ 0 h2⟩
  have HI := Hid.of (show hsI s.data.toList = _ from rfl)
  generalize hq : b64R s.data.toList = q at *
  obtain ⟨x, er⟩ := q
  have HQ := Hid.of hq
  clear hq
  dsimp only at hO ⊢
  by_cases h0 : er = 0
  · subst h0
    obtain ⟨a, c, rfl⟩ := row_lenW hO
    by_cases h32 : x.length = 32
    · have h32z : (x.length : Int) = 32 := by omega
      have HN : Hid (hsI s.data.toList = some x) := Hid.of (by unfold hsI; rw [HQ.out, if_pos ⟨rfl, h32⟩])
      clear hBAD HI
      rcases hO.2 with ⟨_, h0⟩ | ⟨g, cap, cur, e1, hbg, _⟩
      · omega
      · injection e1 with e1 _ e3
        subst e1 e3
        have HRX := Hid.of (show W1.rangeAt g 0 (cb x) from fun j u hu => by
          have := World.ownsRow.cells hO rfl j u hu
          rw [add_plain] at this
          exact this)
        have hcl : (cb x).length = 32 := by rw [cb_length]; exact h32
        clear hO
        rw [h32]
        have har : ∀ w0, (Instr.arrayAt 30 (.slice (some ⟨g, 0, none⟩) 32 c)).run Tryd.prog w0 = .ok (.pointer (some ⟨g, 0, none⟩)) w0 := fun w0 => run_arrayAt w0 30 _ 32 _ 32 c Tryd.underlying30 (by omega)
        clear h32z
        go_wp2_with (with_reducible show wpList _ _ _ ({ dst := _, op := Op.load 30 _, type := _, pos := _, after := _, guard := _ } :: _) _ _; refine Shut.out ?_)
        show wpList _ _ _ _ _ _
        refine wpList_load_mid rfl _ _ rfl g 0 rfl (cb x) _ HRX.out Tryd.underlying30 rfl (by rw [hcl]; exact infoHs) ?_
        simp only [Act.put, List.setIfInBounds_toArray, List.set_cons_zero, List.set_cons_succ]
        refine wpList_store_mid rfl _ _ _ rfl w.heap.size 0 (cb x).toArray rfl rfl (by rw [show (cb x).toArray.size = 32 from hcl]; exact HT.out) (by rw [List.size_toArray, hcl]; exact infoHs) (all_oneCell_toArray (cb_one _)) ?_
        simp only [Act.put]
        have HRG := Hid.of (show (World.setCells W1 w.heap.size 0 (cb x).toArray.toList).rangeAt w.heap.size 0 (cb x) ∧ Up w (World.setCells W1 w.heap.size 0 (cb x).toArray.toList) from ⟨World.rangeAt_setCells_same _ _ _ _ (by rw [show (cb x).toArray.toList.length = 32 from hcl]; exact HT.out), up_setCells (Nat.le_refl _) _ 0 HU.out⟩)
        generalize World.setCells W1 w.heap.size 0 (cb x).toArray.toList = WZ at *
        go_wp2_with fail
        refine bodyPost_ret (result_cell_tmp Tryd.results21 _ _ w.heap.size (cb x) _ rfl rfl HRG.out.1 Tryd.underlying30 rfl (by rw [hcl]; exact infoHs)) rfl ?_
        unfold hsV
        rw [HN.out]
        exact ⟨rfl, HRG.out.2⟩
    · have h32z : ¬ (x.length : Int) = 32 := by omega
      have HN : Hid (hsI s.data.toList = none) := Hid.of (by unfold hsI; rw [HQ.out, if_neg (by simp [h32])])
      clear hO
      go_wp2_with (with_reducible show wpList _ _ _ ({ dst := _, op := Op.store 30 (.tmp 2) _, type := _, pos := _, after := _, guard := _ } :: _) _ _; refine Shut.out ?_)
      show wpList _ _ _ _ _ _
      refine wpList_store_mid rfl _ _ _ rfl w.heap.size 0 (cb zH).toArray rfl rfl (by exact HT.out) infoHs (all_oneCell_toArray (cb_one _)) ?_
      simp only [Act.put]
      have HRG := hBAD HN.out W1 HT.out HU.out
      generalize World.setCells W1 w.heap.size 0 (cb zH).toArray.toList = WZ at *
      go_wp2_with fail
      refine bodyPost_ret (result_cell_tmp Tryd.results21 _ _ w.heap.size (cb zH) _ rfl rfl HRG.out.1 Tryd.underlying30 rfl infoHs) rfl ?_
      unfold hsV
      rw [HN.out]
      exact ⟨rfl, HRG.out.2⟩
  · have HN : Hid (hsI s.data.toList = none) := Hid.of (by unfold hsI; rw [HQ.out, if_neg (by simp [h0])])
    clear hO
    go_wp2_with (with_reducible show wpList _ _ _ ({ dst := _, op := Op.store 30 (.tmp 2) _, type := _, pos := _, after := _, guard := _ } :: _) _ _; refine Shut.out ?_)
    show wpList _ _ _ _ _ _
    refine wpList_store_mid rfl _ _ _ rfl w.heap.size 0 (cb zH).toArray rfl rfl (by exact HT.out) infoHs (all_oneCell_toArray (cb_one _)) ?_
    simp only [Act.put]
    have HRG := hBAD HN.out W1 HT.out HU.out
    generalize World.setCells W1 w.heap.size 0 (cb zH).toArray.toList = WZ at *
    go_wp2_with fail
    refine bodyPost_ret (result_cell_tmp Tryd.results21 _ _ w.heap.size (cb zH) _ rfl rfl HRG.out.1 Tryd.underlying30 rfl infoHs) rfl ?_
    unfold hsV
    rw [HN.out]
    exact ⟨rfl, HRG.out.2⟩
end Go.Proofs.YtaobnnlcfefodaaDoor
