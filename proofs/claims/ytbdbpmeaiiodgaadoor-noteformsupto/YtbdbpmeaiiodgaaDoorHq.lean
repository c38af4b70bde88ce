import Derived.Test.YtbdbpmeaiiodgaaDoorHp
namespace Go.Proofs.YtbdbpmeaiiodgaaDoor
open Go.RowKit Go.Shelf TextNum
theorem result_cell_tmp {P : Program} {fn : Func} {q q2 : Tmp} {T : TypeId} (h : fn.results = #[.cell q T, .tmp q2]) (tmps : Array Value) (w : World) (b : Nat) (cs : List Value) (v : Value) {d : TypeDesc}
    (hp : tmps.getD q undef = .pointer (some ⟨b, 0, none⟩)) (hv : tmps.getD q2 undef = v) (hc : w.rangeAt b 0 cs) (hu : P.underlying T = some d) (hd : d.isRow = true) (hi : (P.info? T).map (·.size) = some cs.length) : (results fn tmps).run P w = .ok (.tuple #[.agg cs.toArray, v]) w := by
  have hp' : tmps[q]?.getD undef = .pointer (some ⟨b, 0, none⟩) := by simpa using hp
  have hv' : tmps[q2]?.getD undef = v := by simpa using hv
  simp [results, h, hp', hv', asAddr, run_loadVar_mid w b 0 T cs _ hc hu hd hi]
/-- a head of zeros -/
def zeroC : List Value := headC ⟨#[]⟩ 0 (List.replicate 32 0)
/-- what reading a head's text tells -/
def rdH (l : List UInt8) : Option (List UInt8 × Int × List UInt8) :=
  if lnE l ≠ 0 then none else match linesOf l with
  | [a, b, c] => if nameR ⟨a.toArray⟩ ≠ 0 then none else if (prs b 281474976710656).2 ≠ 0 ∨ (b64R c).2 ≠ 0 ∨ (b64R c).1.length ≠ 32 then none else some (a, (prs b 281474976710656).1, (b64R c).1)
  | _ => none
def hdC : Option (List UInt8 × Int × List UInt8) → List Value
  | none => zeroC
  | some (a, n, r) => headC ⟨a.toArray⟩ n r
theorem headC_len {o : ByteArray} {n : Int} {r : List UInt8} (h : r.length = 32) : (headC o n r).length = 34 := by simp [headC, cb, h]
theorem headC_one (o : ByteArray) (n : Int) (r : List UInt8) : ∀ v, v ∈ headC o n r → v.oneCell' = true := by
  intro v hv
  rcases List.mem_cons.1 hv with rfl | hv
  · rfl
  · rcases List.mem_cons.1 hv with rfl | hv
    · rfl
    · exact cb_one r v hv
theorem infoH : (Tryd.prog.info? 54).map (·.size) = some 34 := by kernel_rfl
theorem there_up {w w' : World} {b o n : Nat} (h : w.there b o n) (hb : b < w.heap.size) (k : Up w w') : w'.there b o n := by
  intro j hj
  have e := k.block b hb
  obtain ⟨h1, h2⟩ := h j hj
  constructor
  · rw [World.cell?_of_block e]; exact h1
  · rw [World.frozen?_of_block e]; exact h2
theorem there_new (w : World) (cs : List Value) (t : TypeId) : (w.alloc (.cells cs.toArray t)).there w.heap.size 0 cs.length := by
  intro j hj
  constructor
  · rw [World.cell?_alloc_at _ _ _ _ rfl]; simp; omega
  · exact World.frozen?_alloc_new w _ t _
theorem up_setCells {W : World} {b : Nat} (hb : W.heap.size ≤ b) : ∀ (vs : List Value) (o : Nat) {w' : World}, Up W w' → Up W (w'.setCells b o vs)
  | [], _, _, h => h
  | v :: r, o, _, h => up_setCells hb r (o + 1) (Below.setCell (p := ⟨b, o, none⟩) h hb v)
/-- a list of texts that is read -/
theorem OwnS.cell {w : World} {B : Nat} {v : Value} {xs : List (List UInt8)} (h : OwnS w B v xs) (hx : xs ≠ []) : ∃ g c, v = .slice (some ⟨g, 0, none⟩) xs.length c ∧ B ≤ g ∧ ∀ i (hi : i < xs.length), w.cell? ⟨g, i, none⟩ = some (.string ⟨xs[i].toArray⟩) := by
  rcases h.2 with ⟨rfl, e⟩ | ⟨g, cap, cur, rfl, hbg, hg, hnc, _⟩
  · exact absurd (List.eq_nil_of_length_eq_zero e) hx
  · refine ⟨g, cap, rfl, (World.ownsRow.lt h g rfl).1, fun i hi => ?_⟩
    have := World.ownsRow.cells h (g := g) rfl i (.string ⟨xs[i].toArray⟩) (by rw [List.getElem?_map, List.getElem?_eq_getElem hi]; rfl)
    rwa [add_plain, Nat.zero_add] at this
set_option maxRecDepth 100000 in
set_option maxHeartbeats 2000000 in
theorem readHead_bad (s : ByteArray) (w : World) (hG : GH w) (hno : rdH s.data.toList = none) :
    Calls Tryd.prog 63 #[.string s] w fun e w' => e = .returned (.tuple #[.agg (hdC (rdH s.data.toList)).toArray, .bool (rdH s.data.toList).isSome]) ∧ Up w w' := by
  have HNo := Hid.of hno
  clear hno
  go_enter Tryd.func63, Tryd.ntmps63
  go_wp2_with fail
  change Calls _ _ _ (w.alloc (Obj.cells zeroC.toArray 54)) _
  have ht := there_new w zeroC 54
  have hu0 := (Up.refl w).alloc (Obj.cells zeroC.toArray 54)
  have hsz0 : w.heap.size < (w.alloc (Obj.cells zeroC.toArray 54)).heap.size := by rw [World.alloc]; simp
  generalize w.alloc (Obj.cells zeroC.toArray 54) = W0 at *
  refine (Lines_walk s W0).mono ?_
  rintro e W1 ⟨v, rfl, hv1, hv2, u1⟩
  dsimp only
  have HT := Hid.of (show W1.there w.heap.size 0 34 from there_up ht hsz0 u1)
  have HU := Hid.of (hu0.trans u1)
  have hsz : w.heap.size < W1.heap.size := Nat.lt_of_lt_of_le hsz0 u1.size
  clear ht hu0 hsz0 u1
  generalize hl : s.data.toList = l at *
  have HS := Hid.of hl
  clear hl
  by_cases h1 : lnE l = 0
  · have ho := hv2 h1
    rw [h1]
    have hrd : rdH l = match linesOf l with
        | [a, b, c] => if nameR ⟨a.toArray⟩ ≠ 0 then none else if (prs b 281474976710656).2 ≠ 0 ∨ (b64R c).2 ≠ 0 ∨ (b64R c).1.length ≠ 32 then none else some (a, (prs b 281474976710656).1, (b64R c).1)
        | _ => none := by
      unfold rdH
      rw [if_neg (by simp [h1])]
    clear hv1 hv2
    by_cases h3 : (linesOf l).length = 3
    · obtain ⟨a, b, c, habc⟩ : ∃ a b c, linesOf l = [a, b, c] := by
        match hh : linesOf l, h3 with
        | [a, b, c], _ => exact ⟨a, b, c, rfl⟩
      rw [habc] at hrd ho
      obtain ⟨g, cp, rfl, hgl, hcs⟩ := ho.cell (by simp)
      have c0 : W1.cell? ⟨g, 0, none⟩ = some (.string ⟨a.toArray⟩) := hcs 0 (by simp)
      have c1 : W1.cell? ⟨g, 1, none⟩ = some (.string ⟨b.toArray⟩) := hcs 1 (by simp)
      have c2 : W1.cell? ⟨g, 2, none⟩ = some (.string ⟨c.toArray⟩) := hcs 2 (by simp)
      have HRD := Hid.of hrd
      have HC := Hid.of (And.intro c1 (And.intro c2 c0))
      clear hrd ho hcs habc h3 h1 c1 c2
      simp only [List.length_cons, List.length_nil] at *
      go_wp2_with fail
      refine (CheckName_walk ⟨a.toArray⟩ W1 (WhiteTab_up hG.s HU.out)).mono ?_
      rintro e W2 ⟨rfl, u2⟩
      dsimp only
      clear c0
      have HT2 := Hid.of (there_up HT.out hsz u2)
      have HU2 := Hid.of (HU.out.trans u2)
      have hsz2 : w.heap.size < W2.heap.size := Nat.lt_of_lt_of_le hsz u2.size
      have HC2 := Hid.of (And.intro (u2.cell HC.out.1) (And.intro (u2.cell HC.out.2.1) (u2.cell HC.out.2.2)))
      clear HC HT HU u2
      by_cases hn : nameR ⟨a.toArray⟩ = 0
      · rw [hn]
        have c1 := HC2.out.1
        go_wp2_with fail
        refine (ParseNumber_walk ⟨b.toArray⟩ 281474976710656 W2 (hG.n.up HU2.out)).mono ?_
        rintro e W3 ⟨rfl, u3⟩
        dsimp only
        clear c1
        have HT3 := Hid.of (there_up HT2.out hsz2 u3)
        have HU3 := Hid.of (HU2.out.trans u3)
        have hsz3 : w.heap.size < W3.heap.size := Nat.lt_of_lt_of_le hsz2 u3.size
        have c2 := u3.cell HC2.out.2.1
        have HC3 := Hid.of (u3.cell HC2.out.2.2)
        clear HC2 HT2 HU2 u3
        go_wp2_with fail
        refine (DecodeBase64_walk ⟨c.toArray⟩ W3 (hG.l.up HU3.out)).mono ?_
        rintro e W4 ⟨v, rfl, ov, u4⟩
        dsimp only
        clear c2
        have HT4 := Hid.of (there_up HT3.out hsz3 u4)
        have HU4 := Hid.of (HU3.out.trans u4)
        have c0 := u4.cell HC3.out
        clear HC3 HT3 HU3 u4
        obtain ⟨va, vc, rfl, hvc, hvs⟩ := ov.sl
        have HO := Hid.of (And.intro hvs ov)
        clear hvs ov
        generalize hpn : prs b 281474976710656 = pn at *
        generalize hbr : b64R c = br at *
        have HPB := Hid.of (And.intro hpn hbr)
        have hrd2 : rdH l = if pn.2 ≠ 0 ∨ br.2 ≠ 0 ∨ br.1.length ≠ 32 then none else some (a, pn.1, br.1) := by
          rw [HRD.out]
          simp only [hn, ne_eq, not_true_eq_false, if_false]
        have HR2 := Hid.of hrd2
        clear hpn hbr hrd2 HRD HPB
        by_cases k1 : pn.2 = 0
        · by_cases k2 : br.2 = 0
          · by_cases k3 : br.1.length = 32
            · have HR : rdH l = some (a, pn.1, br.1) := by rw [HR2.out, if_neg (by simp [k1, k2, k3])]
              rw [HNo.out] at HR
              exact absurd HR (by simp)
            · have k3' : ¬ (br.1.length : Int) = 32 := by omega
              have k3'' : ((br.1.length : Int) == 32) = false := by simpa using k3'
              have HR := Hid.of (show rdH l = none by rw [HR2.out, if_pos (.inr (.inr k3))])
              go_wp2_with (with_reducible show wpList _ _ _ ({ dst := _, op := Op.store 54 (.tmp 2) _, type := _, pos := _, after := _, guard := _ } :: _) _ _; refine Shut.out ?_)
              show wpList _ _ _ _ _ _
              refine wpList_store_mid rfl _ _ _ rfl w.heap.size 0 zeroC.toArray rfl rfl (by rw [show zeroC.toArray.size = 34 from rfl]; exact HT4.out) (by rw [show zeroC.toArray.size = 34 from rfl]; exact infoH) (all_oneCell_toArray (headC_one _ _ _)) ?_
              simp only [Act.put]
              have hrg : (World.setCells W4 w.heap.size 0 zeroC.toArray.toList).rangeAt w.heap.size 0 zeroC := World.rangeAt_setCells_same _ _ _ _ HT4.out
              have HUZ := Hid.of (up_setCells (Nat.le_refl _) zeroC.toArray.toList 0 HU4.out)
              generalize World.setCells W4 w.heap.size 0 zeroC.toArray.toList = WZ at *
              go_wp2_with fail
              refine bodyPost_ret (result_cell_tmp Tryd.results63 _ _ w.heap.size zeroC _ rfl rfl hrg Tryd.underlying54 rfl infoH) rfl ?_
              rw [HS.out, HR.out]
              exact ⟨rfl, HUZ.out⟩
          · have k2' : (br.2 == 0) = false := by simpa using k2
            have HR := Hid.of (show rdH l = none by rw [HR2.out, if_pos (.inr (.inl k2))])
            go_wp2_with (with_reducible show wpList _ _ _ ({ dst := _, op := Op.store 54 (.tmp 2) _, type := _, pos := _, after := _, guard := _ } :: _) _ _; refine Shut.out ?_)
            show wpList _ _ _ _ _ _
            refine wpList_store_mid rfl _ _ _ rfl w.heap.size 0 zeroC.toArray rfl rfl (by rw [show zeroC.toArray.size = 34 from rfl]; exact HT4.out) (by rw [show zeroC.toArray.size = 34 from rfl]; exact infoH) (all_oneCell_toArray (headC_one _ _ _)) ?_
            simp only [Act.put]
            have hrg : (World.setCells W4 w.heap.size 0 zeroC.toArray.toList).rangeAt w.heap.size 0 zeroC := World.rangeAt_setCells_same _ _ _ _ HT4.out
            have HUZ := Hid.of (up_setCells (Nat.le_refl _) zeroC.toArray.toList 0 HU4.out)
            generalize World.setCells W4 w.heap.size 0 zeroC.toArray.toList = WZ at *
            go_wp2_with fail
            refine bodyPost_ret (result_cell_tmp Tryd.results63 _ _ w.heap.size zeroC _ rfl rfl hrg Tryd.underlying54 rfl infoH) rfl ?_
            rw [HS.out, HR.out]
            exact ⟨rfl, HUZ.out⟩
        · have k1' : (pn.2 == 0) = false := by simpa using k1
          have HR := Hid.of (show rdH l = none by rw [HR2.out, if_pos (.inl k1)])
          go_wp2_with (with_reducible show wpList _ _ _ ({ dst := _, op := Op.store 54 (.tmp 2) _, type := _, pos := _, after := _, guard := _ } :: _) _ _; refine Shut.out ?_)
          show wpList _ _ _ _ _ _
          refine wpList_store_mid rfl _ _ _ rfl w.heap.size 0 zeroC.toArray rfl rfl (by rw [show zeroC.toArray.size = 34 from rfl]; exact HT4.out) (by rw [show zeroC.toArray.size = 34 from rfl]; exact infoH) (all_oneCell_toArray (headC_one _ _ _)) ?_
          simp only [Act.put]
          have hrg : (World.setCells W4 w.heap.size 0 zeroC.toArray.toList).rangeAt w.heap.size 0 zeroC := World.rangeAt_setCells_same _ _ _ _ HT4.out
          have HUZ := Hid.of (up_setCells (Nat.le_refl _) zeroC.toArray.toList 0 HU4.out)
          generalize World.setCells W4 w.heap.size 0 zeroC.toArray.toList = WZ at *
          go_wp2_with fail
          refine bodyPost_ret (result_cell_tmp Tryd.results63 _ _ w.heap.size zeroC _ rfl rfl hrg Tryd.underlying54 rfl infoH) rfl ?_
          rw [HS.out, HR.out]
          exact ⟨rfl, HUZ.out⟩
      · have h70 : nameR ⟨a.toArray⟩ = 70 := (name_val _).resolve_left hn
        have HR := Hid.of (show rdH l = none by rw [HRD.out]; simp only [hn, ne_eq, not_false_eq_true, if_true])
        rw [h70]
        go_wp2_with (with_reducible show wpList _ _ _ ({ dst := _, op := Op.store 54 (.tmp 2) _, type := _, pos := _, after := _, guard := _ } :: _) _ _; refine Shut.out ?_)
        show wpList _ _ _ _ _ _
        refine wpList_store_mid rfl _ _ _ rfl w.heap.size 0 zeroC.toArray rfl rfl (by rw [show zeroC.toArray.size = 34 from rfl]; exact HT2.out) (by rw [show zeroC.toArray.size = 34 from rfl]; exact infoH) (all_oneCell_toArray (headC_one _ _ _)) ?_
        simp only [Act.put]
        have hrg : (World.setCells W2 w.heap.size 0 zeroC.toArray.toList).rangeAt w.heap.size 0 zeroC := World.rangeAt_setCells_same _ _ _ _ HT2.out
        have HUZ := Hid.of (up_setCells (Nat.le_refl _) zeroC.toArray.toList 0 HU2.out)
        generalize World.setCells W2 w.heap.size 0 zeroC.toArray.toList = WZ at *
        go_wp2_with fail
        refine bodyPost_ret (result_cell_tmp Tryd.results63 _ _ w.heap.size zeroC _ rfl rfl hrg Tryd.underlying54 rfl infoH) rfl ?_
        rw [HS.out, HR.out]
        exact ⟨rfl, HUZ.out⟩
    · have HR := Hid.of (show rdH l = none by
        rw [hrd]
        split
        · rename_i h; rw [h] at h3; simp at h3
        · rfl)
      obtain ⟨va, vc, rfl⟩ : ∃ va vc, v = .slice va (linesOf l).length vc := by
        rcases ho.2 with ⟨rfl, e⟩ | ⟨g, cap, cur, rfl, _⟩
        · exact ⟨none, 0, by rw [e]⟩
        · exact ⟨_, _, rfl⟩
      clear hrd ho
      generalize (linesOf l).length = ll at *
      go_wp2_with (with_reducible show wpList _ _ _ ({ dst := _, op := Op.store 54 (.tmp 2) _, type := _, pos := _, after := _, guard := _ } :: _) _ _; refine Shut.out ?_)
      show wpList _ _ _ _ _ _
      refine wpList_store_mid rfl _ _ _ rfl w.heap.size 0 zeroC.toArray rfl rfl (by rw [show zeroC.toArray.size = 34 from rfl]; exact HT.out) (by rw [show zeroC.toArray.size = 34 from rfl]; exact infoH) (all_oneCell_toArray (headC_one _ _ _)) ?_
      simp only [Act.put]
      have hrg : (World.setCells W1 w.heap.size 0 zeroC.toArray.toList).rangeAt w.heap.size 0 zeroC := World.rangeAt_setCells_same _ _ _ _ HT.out
      have HUZ := Hid.of (up_setCells (Nat.le_refl _) zeroC.toArray.toList 0 HU.out)
      generalize World.setCells W1 w.heap.size 0 zeroC.toArray.toList = WZ at *
      go_wp2_with fail
      refine bodyPost_ret (result_cell_tmp Tryd.results63 _ _ w.heap.size zeroC _ rfl rfl hrg Tryd.underlying54 rfl infoH) rfl ?_
      rw [HS.out, HR.out]
      exact ⟨rfl, HUZ.out⟩
  · have HR := Hid.of (show rdH l = none by unfold rdH; rw [if_pos h1])
    have h1' : (lnE l == 0) = false := by simpa using h1
    obtain rfl := hv1 h1
    clear hv1 hv2
    generalize lnE l = ee at *
    go_wp2_with (with_reducible show wpList _ _ _ ({ dst := _, op := Op.store 54 (.tmp 2) _, type := _, pos := _, after := _, guard := _ } :: _) _ _; refine Shut.out ?_)
    show wpList _ _ _ _ _ _
    refine wpList_store_mid rfl _ _ _ rfl w.heap.size 0 zeroC.toArray rfl rfl (by rw [show zeroC.toArray.size = 34 from rfl]; exact HT.out) (by rw [show zeroC.toArray.size = 34 from rfl]; exact infoH) (all_oneCell_toArray (headC_one _ _ _)) ?_
    simp only [Act.put]
    have hrg : (World.setCells W1 w.heap.size 0 zeroC.toArray.toList).rangeAt w.heap.size 0 zeroC := World.rangeAt_setCells_same _ _ _ _ HT.out
    have HUZ := Hid.of (up_setCells (Nat.le_refl _) zeroC.toArray.toList 0 HU.out)
    generalize World.setCells W1 w.heap.size 0 zeroC.toArray.toList = WZ at *
    go_wp2_with fail
    refine bodyPost_ret (result_cell_tmp Tryd.results63 _ _ w.heap.size zeroC _ rfl rfl hrg Tryd.underlying54 rfl infoH) rfl ?_
    rw [HS.out, HR.out]
    exact ⟨rfl, HUZ.out⟩
end Go.Proofs.YtbdbpmeaiiodgaaDoor
