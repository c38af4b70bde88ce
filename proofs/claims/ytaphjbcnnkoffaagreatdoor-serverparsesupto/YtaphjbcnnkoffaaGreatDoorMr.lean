import Derived.Test.YtaphjbcnnkoffaaGreatDoorMq
namespace Go.Proofs.YtaphjbcnnkoffaaGreatDoor
open Go.RowKit Go.Shelf TextNum ModNum
theorem result_cell_tmp {P : Program} {fn : Func} {q q2 : Tmp} {T : TypeId} (h : fn.results = #[.cell q T, .tmp q2]) (tmps : Array Value) (w : World) (b : Nat) (cs : List Value) (v : Value) {d : TypeDesc}
    (hp : tmps.getD q undef = .pointer (some ⟨b, 0, none⟩)) (hv : tmps.getD q2 undef = v) (hc : w.rangeAt b 0 cs) (hu : P.underlying T = some d) (hd : d.isRow = true) (hi : (P.info? T).map (·.size) = some cs.length) : (results fn tmps).run P w = .ok (.tuple #[.agg cs.toArray, v]) w := by
  have hp' : tmps[q]?.getD undef = .pointer (some ⟨b, 0, none⟩) := by simpa using hp
  have hv' : tmps[q2]?.getD undef = v := by simpa using hv
  simp [results, h, hp', hv', asAddr, run_loadVar_mid w b 0 T cs _ hc hu hd hi]
theorem At.range {w : World} {b : Nat} {t : TypeId} {cs : List Value} (h : At w b t cs) : w.rangeAt b 0 cs := fun j v hj => by
  rw [Nat.zero_add]; exact h.cell hj
theorem alloc_size (w : World) (o : Obj) : (w.alloc o).heap.size = w.heap.size + 1 := by
  show (w.heap.push o).size = _
  simp
theorem set5 (w : World) (b : Nat) (v0 v1 v2 v3 v4 : Value) : w.grownBy (((((w.setCell ⟨b, 0, none⟩ v0).setCell ⟨b, 1, none⟩ v1).setCell ⟨b, 2, none⟩ v2).setCell ⟨b, 3, none⟩ v3).setCell ⟨b, 4, none⟩ v4) (some b) :=
  grown_trans (grown_trans (grown_trans (grown_trans (grown_set w ⟨b, 0, none⟩ _) (grown_set _ ⟨b, 1, none⟩ _)) (grown_set _ ⟨b, 2, none⟩ _)) (grown_set _ ⟨b, 3, none⟩ _)) (grown_set _ ⟨b, 4, none⟩ _)
def verE (l : List UInt8) : Int := if (ver l).isSome then 0 else 111
def vp (l : List UInt8) : Prt := (ver l).getD zp
/-- what partsOf answers -/
def PR (l : List UInt8) (w : World) (e : Ending) (w' : World) : Prop := ∃ n0 n1 n2 v, (vp l).n = [n0, n1, n2] ∧ e = .returned (.tuple #[.agg (pc5 n0 n1 n2 v (vp l).inc), .int .i64 (verE l)]) ∧ SlS w' v (vp l).ws ∧ (∀ g, v.ownBlock = some g → w.heap.size ≤ g) ∧ Up w w'
abbrev z5 : List Value := [.string ⟨#[]⟩, .string ⟨#[]⟩, .string ⟨#[]⟩, .slice none 0 0, .bool false]
theorem PR.none {l : List UInt8} {w w' : World} (h : ver l = Option.none) (u : Up w w') : PR l w (.returned (.tuple #[.agg z5.toArray, .int .i64 111])) w' := by
  unfold PR vp verE
  rw [h]
  exact ⟨[], [], [], .slice Option.none 0 0, rfl, rfl, slS_nil _, (fun g hg => by cases hg), u⟩
theorem Csf_walk (s p : ByteArray) (hs : s.size ≤ 1048576) (w : World) : Calls Tryz.prog 114 #[.string s, .string p] w fun e w' => e = .returned (.tuple #[.string ⟨(tsf p.data.toList s.data.toList).toArray⟩, .bool (sfx p.data.toList s.data.toList)]) ∧ w' = w := Any.strings_CutSuffix Tryz.lays104 s p w (by omega)
set_option maxRecDepth 100000 in
set_option maxHeartbeats 4000000 in
theorem partsOf_walk (s : ByteArray) (w : World) (hG : GM w) : Calls Tryz.prog 81 #[.string s] w (PR s.data.toList w) := by
  have HG := Hid.of hG
  clear hG
  have HP := fun w' => Hid.of (Cpf_walk s w')
  by_cases hh : s.data.toList.head? = some 118
  · rw [if_pos hh, decide_eq_true hh] at HP
    by_cases hl : 128 < s.size
    · have hlz : (128 : Int) < (s.size : Int) := by omega
      have HV := Hid.of (And.intro (show ver s.data.toList = none by unfold ver; rw [if_pos (.inr (by rw [len_of]; exact hl))]) trivial)
      clear hl hh
      generalize s.data.toList.drop 1 = r0 at *
      go_enter Tryz.func81, Tryz.ntmps81
      go_wp2_with fail
      refine ((HP _).out).mono ?_
      rintro e w9 ⟨rfl, h9⟩
      obtain rfl := h9.symm
      clear h9
      dsimp only
      go_wp2
      refine bodyPost_ret (result_cell_tmp Tryz.results81 _ _ w.heap.size z5 _ rfl rfl (at_new w 107 z5).range Tryz.underlying107 rfl (by kernel_rfl)) rfl ?_
      exact PR.none HV.out.1 ((Up.refl w).alloc _)
    · have hlz : ¬ (128 : Int) < (s.size : Int) := by omega
      have hr0 : (s.data.toList.drop 1).length ≤ 1048576 := by rw [List.length_drop, len_of]; omega
      have hvc : (vcore s.data.toList).length ≤ 128 := by
        unfold vcore tsf
        split
        · rw [List.length_take, List.length_drop, len_of]; omega
        · rw [List.length_drop, len_of]; omega
      have HCs := fun w' => Hid.of (Csf_walk ⟨(s.data.toList.drop 1).toArray⟩ ⟨#[43, 105, 110, 99, 111, 109, 112, 97, 116, 105, 98, 108, 101]⟩ (by rw [size_str]; exact hr0) w')
      rw [show (⟨#[43, 105, 110, 99, 111, 109, 112, 97, 116, 105, 98, 108, 101]⟩ : ByteArray).data.toList = INC from rfl, show (⟨(s.data.toList.drop 1).toArray⟩ : ByteArray).data.toList = s.data.toList.drop 1 from rfl, show tsf INC (s.data.toList.drop 1) = vcore s.data.toList from rfl] at HCs
      have hver : ver s.data.toList = if (pcs 46 (ahd 45 (vcore s.data.toList))).length = 3 ∧ vok ⟨pcs 46 (ahd 45 (vcore s.data.toList)), if 45 ∈ vcore s.data.toList then pcs 46 (bhd 45 (vcore s.data.toList)) else [], sfx INC (s.data.toList.drop 1)⟩ = true then some ⟨pcs 46 (ahd 45 (vcore s.data.toList)), if 45 ∈ vcore s.data.toList then pcs 46 (bhd 45 (vcore s.data.toList)) else [], sfx INC (s.data.toList.drop 1)⟩ else none := by
        unfold ver
        rw [if_neg (by rintro (h | h); exact h hh; rw [len_of] at h; exact hl h)]
        rfl
      have HV := Hid.of hver
      clear hver hl hh
      generalize vcore s.data.toList = vc at *
      generalize sfx INC (s.data.toList.drop 1) = inc at *
      generalize s.data.toList.drop 1 = r0 at *
      have HCu := fun w' => fun (g : GM w') => Hid.of (Cut_walk ⟨vc.toArray⟩ 45 (by rw [size_str]; omega) w' g)
      rw [show (⟨vc.toArray⟩ : ByteArray).data.toList = vc from rfl] at HCu
      go_enter Tryz.func81, Tryz.ntmps81
      go_wp2_with fail
      refine ((HP _).out).mono ?_
      rintro e w9 ⟨rfl, h9⟩
      obtain rfl := h9.symm
      clear h9
      dsimp only
      go_wp2_with fail
      refine ((HCs _).out).mono ?_
      rintro e w9 ⟨rfl, h9⟩
      obtain rfl := h9.symm
      clear h9
      dsimp only
      go_wp2_with fail
      refine (HCu _ (HG.out.up (((Up.refl w).alloc _).alloc _))).out.mono ?_
      rintro e w2 ⟨rfl, u2⟩
      have HA0 : Hid (At w2 w.heap.size 107 z5) := At.up (At.up (at_new w 107 z5) ((Up.refl _).alloc _)) u2
      have HA1 : Hid (At w2 (w.heap.size + 1) 107 [.string ⟨#[]⟩, .string ⟨#[]⟩, .string ⟨#[]⟩, .slice none 0 0, .bool inc]) := At.up (by
        have := at_new (w.alloc (.cells z5.toArray 107)) 107 [.string ⟨#[]⟩, .string ⟨#[]⟩, .string ⟨#[]⟩, .slice none 0 0, .bool inc]
        rw [alloc_size] at this
        exact this) u2
      have HUW : Hid (Up w w2) := (((Up.refl w).alloc _).alloc _).trans u2
      clear u2 HCu HCs HP
      dsimp only
      have hbl := bhd_len 45 vc
      by_cases hm : (45 : UInt8) ∈ vc
      · rw [decide_eq_true hm]
        simp only [if_pos hm] at HV
        have hpl := pcs_len 46 (bhd 45 vc)
        have HSp := Hid.of (Split_walk ⟨(bhd 45 vc).toArray⟩ 46 (by rw [size_str]; omega) w2 (HG.out.up HUW.out))
        rw [show (⟨(bhd 45 vc).toArray⟩ : ByteArray).data.toList = bhd 45 vc from rfl] at HSp
        clear hm
        generalize pcs 46 (bhd 45 vc) = ws at *
        go_wp2_with fail
        refine HSp.out.mono ?_
        rintro e w3 ⟨rfl, hS3, u3⟩
        have hw2 : w.heap.size + 2 ≤ w2.heap.size := by
          have := lt_of_at HA1.out
          omega
        have HA13 := HA1.out.up u3
        have hc3 := HA13.cell (i := 3) rfl
        have ht3 := HA13.thaw 3
        have hgr := grown_set w3 ⟨w.heap.size + 1, 3, none⟩ (.slice (some ⟨w2.heap.size, 0, none⟩) ws.length ws.length)
        have HA04 := Hid.of ((HA0.out.up u3).by hgr (fun e => by injection e with e; simp at e))
        have HA14 := Hid.of (HA13.set 3 (.slice (some ⟨w2.heap.size, 0, none⟩) ws.length ws.length))
        have HU4 := Hid.of ((HUW.out.trans u3).by hgr (fun g hg => by injection hg with hg; simp at hg; omega))
        have HS4 := Hid.of (hS3.by hgr (fun g hg e => by have hg2 : w2.heap.size = g := Option.some.inj hg; have e2 : w.heap.size + 1 = g := Option.some.inj e; omega))
        have HNe : Hid (∀ g, (Value.slice (some ⟨w2.heap.size, 0, none⟩) ws.length ws.length).ownBlock = some g → some (w.heap.size + 1) ≠ some g) := fun g hg e => by have hg2 : w2.heap.size = g := Option.some.inj hg; have e2 := Option.some.inj e; omega
        have HNe0 : Hid (∀ g, (Value.slice (some ⟨w2.heap.size, 0, none⟩) ws.length ws.length).ownBlock = some g → some w.heap.size ≠ some g) := fun g hg e => by have hg2 : w2.heap.size = g := Option.some.inj hg; have e2 := Option.some.inj e; omega
        have HFr : Hid (∀ g, (Value.slice (some ⟨w2.heap.size, 0, none⟩) ws.length ws.length).ownBlock = some g → w.heap.size ≤ g) := fun g hg => by have hg2 : w2.heap.size = g := Option.some.inj hg; omega
        clear hS3 u3 HA13 hgr HA0 HA1 HUW HSp
        have HVW := HV
        clear HV
        dsimp only
        go_wp2_with fail
        clear hc3 ht3
        generalize w3.setCell ⟨w.heap.size + 1, 3, none⟩ (.slice (some ⟨w2.heap.size, 0, none⟩) ws.length ws.length) = W4 at *
        have HA0 := HA04
        have HA1 := HA14
        have HUW := HU4
        have HSW := HS4
        clear HA04 HA14 HU4 HS4
        have HTk := Hid.of (takeNumbers_walk ⟨(ahd 45 vc).toArray⟩ (by rw [size_str]; have := ahd_len 45 vc; omega) (w.heap.size + 1) _ _ _ _ _ W4 (HG.out.up HUW.out) HA1.out)
        rw [show (⟨(ahd 45 vc).toArray⟩ : ByteArray).data.toList = ahd 45 vc from rfl] at HTk
        generalize pcs 46 (ahd 45 vc) = ns at *
        go_wp2_with fail
        refine HTk.out.mono ?_
        rintro e w5 ⟨rfl, g5, h5⟩
        have HA05 := Hid.of (HA0.out.by g5 (fun e => by injection e with e; omega))
        have HU5 := Hid.of (HUW.out.by g5 (fun g hg => by injection hg with hg; omega))
        have HS5 := Hid.of (HSW.out.by g5 HNe.out)
        have c0 := HA05.out.cell (i := 0) rfl
        have c1 := HA05.out.cell (i := 1) rfl
        have c2 := HA05.out.cell (i := 2) rfl
        have c3 := HA05.out.cell (i := 3) rfl
        have c4 := HA05.out.cell (i := 4) rfl
        have t0 := HA05.out.thaw 0
        have t1 := HA05.out.thaw 1
        have t2 := HA05.out.thaw 2
        have t3 := HA05.out.thaw 3
        have t4 := HA05.out.thaw 4
        have H5 := Hid.of h5
        clear g5 h5 HTk HA0 HA1 HUW
        dsimp only
        by_cases h3 : ns.length = 3
        · rw [decide_eq_true h3]
          obtain ⟨n0, n1, n2, rfl⟩ : ∃ n0 n1 n2, ns = [n0, n1, n2] := by
            match ns, h3 with
            | [a, b, c], _ => exact ⟨a, b, c, rfl⟩
          have HA15 := Hid.of (H5.out n0 n1 n2 rfl)
          have d0 := HA15.out.cell (i := 0) rfl
          have d1 := HA15.out.cell (i := 1) rfl
          have d2 := HA15.out.cell (i := 2) rfl
          have d3 := HA15.out.cell (i := 3) rfl
          have d4 := HA15.out.cell (i := 4) rfl
          have HM := Hid.of (mayBe_walk n0 n1 n2 _ ws inc w5 (HG.out.up HU5.out) HS5.out (by omega))
          go_wp2_with fail
          refine HM.out.mono ?_
          rintro e w6 ⟨rfl, u6⟩
          clear c0 c1 c2 c3 c4 t0 t1 t2 t3 t4 d0 d1 d2 d3 d4
          have HA06 := Hid.of (HA05.out.up u6)
          have HA16 := Hid.of (HA15.out.up u6)
          have HU6 := Hid.of (HU5.out.trans u6)
          have HS6 := Hid.of (HS5.out.up u6)
          have c0 := HA06.out.cell (i := 0) rfl
          have c1 := HA06.out.cell (i := 1) rfl
          have c2 := HA06.out.cell (i := 2) rfl
          have c3 := HA06.out.cell (i := 3) rfl
          have c4 := HA06.out.cell (i := 4) rfl
          have t0 := HA06.out.thaw 0
          have t1 := HA06.out.thaw 1
          have t2 := HA06.out.thaw 2
          have t3 := HA06.out.thaw 3
          have t4 := HA06.out.thaw 4
          have d0 := HA16.out.cell (i := 0) rfl
          have d1 := HA16.out.cell (i := 1) rfl
          have d2 := HA16.out.cell (i := 2) rfl
          have d3 := HA16.out.cell (i := 3) rfl
          have d4 := HA16.out.cell (i := 4) rfl
          clear u6 HM H5 HA05 HA15 HU5 HS5
          dsimp only
          cases hvk : vok ⟨[n0, n1, n2], ws, inc⟩ with
          | false =>
            have HN := Hid.of (And.intro (show ver s.data.toList = none by rw [HVW.out, if_neg (fun h => by rw [hvk] at h; cases h.2)]) trivial)
            clear hvk
            go_wp2
            refine bodyPost_ret (result_cell_tmp Tryz.results81 _ _ w.heap.size z5 _ rfl rfl (((((HA06.out.set 0 _).set 1 _).set 2 _).set 3 _).set 4 _).range Tryz.underlying107 rfl (by kernel_rfl)) rfl ?_
            exact PR.none HN.out.1 (HU6.out.by (set5 w6 w.heap.size _ _ _ _ _) (fun g hg => by injection hg with hg; omega))
          | true =>
            have HN := Hid.of (And.intro (show ver s.data.toList = some ⟨[n0, n1, n2], ws, inc⟩ by rw [HVW.out, if_pos ⟨rfl, hvk⟩]) trivial)
            clear hvk
            go_wp2
            refine bodyPost_ret (result_cell_tmp Tryz.results81 _ _ w.heap.size (pc5 n0 n1 n2 (.slice (some ⟨w2.heap.size, 0, none⟩) ws.length ws.length) inc).toList _ rfl rfl (((((HA06.out.set 0 _).set 1 _).set 2 _).set 3 _).set 4 _).range Tryz.underlying107 rfl (by kernel_rfl)) rfl ?_
            unfold PR vp verE
            rw [HN.out.1]
            exact ⟨n0, n1, n2, _, rfl, rfl, HS6.out.by (set5 w6 w.heap.size _ _ _ _ _) HNe0.out, HFr.out, HU6.out.by (set5 w6 w.heap.size _ _ _ _ _) (fun g hg => by injection hg with hg; omega)⟩
        · rw [decide_eq_false h3]
          have HN := Hid.of (And.intro (show ver s.data.toList = none by rw [HVW.out, if_neg (fun h => h3 h.1)]) trivial)
          clear h3 H5
          go_wp2
          refine bodyPost_ret (result_cell_tmp Tryz.results81 _ _ w.heap.size z5 _ rfl rfl (((((HA05.out.set 0 _).set 1 _).set 2 _).set 3 _).set 4 _).range Tryz.underlying107 rfl (by kernel_rfl)) rfl ?_
          exact PR.none HN.out.1 (HU5.out.by (set5 w5 w.heap.size _ _ _ _ _) (fun g hg => by injection hg with hg; omega))
      · rw [decide_eq_false hm]
        simp only [if_neg hm] at HV
        have HSW : Hid (SlS w2 (.slice none 0 0) []) := slS_nil _
        have HNe : Hid (∀ g, (Value.slice none 0 0).ownBlock = some g → some (w.heap.size + 1) ≠ some g) := fun g hg => by cases hg
        have HNe0 : Hid (∀ g, (Value.slice none 0 0).ownBlock = some g → some w.heap.size ≠ some g) := fun g hg => by cases hg
        have HFr : Hid (∀ g, (Value.slice none 0 0).ownBlock = some g → w.heap.size ≤ g) := fun g hg => by cases hg
        have HVW := HV
        clear HV hm
        have HTk := Hid.of (takeNumbers_walk ⟨(ahd 45 vc).toArray⟩ (by rw [size_str]; have := ahd_len 45 vc; omega) (w.heap.size + 1) _ _ _ _ _ w2 (HG.out.up HUW.out) HA1.out)
        rw [show (⟨(ahd 45 vc).toArray⟩ : ByteArray).data.toList = ahd 45 vc from rfl] at HTk
        generalize pcs 46 (ahd 45 vc) = ns at *
        go_wp2_with fail
        refine HTk.out.mono ?_
        rintro e w5 ⟨rfl, g5, h5⟩
        have HA05 := Hid.of (HA0.out.by g5 (fun e => by injection e with e; omega))
        have HU5 := Hid.of (HUW.out.by g5 (fun g hg => by injection hg with hg; omega))
        have HS5 := Hid.of (HSW.out.by g5 HNe.out)
        have c0 := HA05.out.cell (i := 0) rfl
        have c1 := HA05.out.cell (i := 1) rfl
        have c2 := HA05.out.cell (i := 2) rfl
        have c3 := HA05.out.cell (i := 3) rfl
        have c4 := HA05.out.cell (i := 4) rfl
        have t0 := HA05.out.thaw 0
        have t1 := HA05.out.thaw 1
        have t2 := HA05.out.thaw 2
        have t3 := HA05.out.thaw 3
        have t4 := HA05.out.thaw 4
        have H5 := Hid.of h5
        clear g5 h5 HTk HA0 HA1 HUW
        dsimp only
        by_cases h3 : ns.length = 3
        · rw [decide_eq_true h3]
          obtain ⟨n0, n1, n2, rfl⟩ : ∃ n0 n1 n2, ns = [n0, n1, n2] := by
            match ns, h3 with
            | [a, b, c], _ => exact ⟨a, b, c, rfl⟩
          have HA15 := Hid.of (H5.out n0 n1 n2 rfl)
          have d0 := HA15.out.cell (i := 0) rfl
          have d1 := HA15.out.cell (i := 1) rfl
          have d2 := HA15.out.cell (i := 2) rfl
          have d3 := HA15.out.cell (i := 3) rfl
          have d4 := HA15.out.cell (i := 4) rfl
          have HM := Hid.of (mayBe_walk n0 n1 n2 _ [] inc w5 (HG.out.up HU5.out) HS5.out (by simp))
          go_wp2_with fail
          refine HM.out.mono ?_
          rintro e w6 ⟨rfl, u6⟩
          clear c0 c1 c2 c3 c4 t0 t1 t2 t3 t4 d0 d1 d2 d3 d4
          have HA06 := Hid.of (HA05.out.up u6)
          have HA16 := Hid.of (HA15.out.up u6)
          have HU6 := Hid.of (HU5.out.trans u6)
          have HS6 := Hid.of (HS5.out.up u6)
          have c0 := HA06.out.cell (i := 0) rfl
          have c1 := HA06.out.cell (i := 1) rfl
          have c2 := HA06.out.cell (i := 2) rfl
          have c3 := HA06.out.cell (i := 3) rfl
          have c4 := HA06.out.cell (i := 4) rfl
          have t0 := HA06.out.thaw 0
          have t1 := HA06.out.thaw 1
          have t2 := HA06.out.thaw 2
          have t3 := HA06.out.thaw 3
          have t4 := HA06.out.thaw 4
          have d0 := HA16.out.cell (i := 0) rfl
          have d1 := HA16.out.cell (i := 1) rfl
          have d2 := HA16.out.cell (i := 2) rfl
          have d3 := HA16.out.cell (i := 3) rfl
          have d4 := HA16.out.cell (i := 4) rfl
          clear u6 HM H5 HA05 HA15 HU5 HS5
          dsimp only
          cases hvk : vok ⟨[n0, n1, n2], [], inc⟩ with
          | false =>
            have HN := Hid.of (And.intro (show ver s.data.toList = none by rw [HVW.out, if_neg (fun h => by rw [hvk] at h; cases h.2)]) trivial)
            clear hvk
            go_wp2
            refine bodyPost_ret (result_cell_tmp Tryz.results81 _ _ w.heap.size z5 _ rfl rfl (((((HA06.out.set 0 _).set 1 _).set 2 _).set 3 _).set 4 _).range Tryz.underlying107 rfl (by kernel_rfl)) rfl ?_
            exact PR.none HN.out.1 (HU6.out.by (set5 w6 w.heap.size _ _ _ _ _) (fun g hg => by injection hg with hg; omega))
          | true =>
            have HN := Hid.of (And.intro (show ver s.data.toList = some ⟨[n0, n1, n2], [], inc⟩ by rw [HVW.out, if_pos ⟨rfl, hvk⟩]) trivial)
            clear hvk
            go_wp2
            refine bodyPost_ret (result_cell_tmp Tryz.results81 _ _ w.heap.size (pc5 n0 n1 n2 (.slice none 0 0) inc).toList _ rfl rfl (((((HA06.out.set 0 _).set 1 _).set 2 _).set 3 _).set 4 _).range Tryz.underlying107 rfl (by kernel_rfl)) rfl ?_
            unfold PR vp verE
            rw [HN.out.1]
            exact ⟨n0, n1, n2, _, rfl, rfl, HS6.out.by (set5 w6 w.heap.size _ _ _ _ _) HNe0.out, HFr.out, HU6.out.by (set5 w6 w.heap.size _ _ _ _ _) (fun g hg => by injection hg with hg; omega)⟩
        · rw [decide_eq_false h3]
          have HN := Hid.of (And.intro (show ver s.data.toList = none by rw [HVW.out, if_neg (fun h => h3 h.1)]) trivial)
          clear h3 H5
          go_wp2
          refine bodyPost_ret (result_cell_tmp Tryz.results81 _ _ w.heap.size z5 _ rfl rfl (((((HA05.out.set 0 _).set 1 _).set 2 _).set 3 _).set 4 _).range Tryz.underlying107 rfl (by kernel_rfl)) rfl ?_
          exact PR.none HN.out.1 (HU5.out.by (set5 w5 w.heap.size _ _ _ _ _) (fun g hg => by injection hg with hg; omega))
  · rw [if_neg hh, decide_eq_false hh] at HP
    have hv : ver s.data.toList = none := by unfold ver; rw [if_pos (.inl hh)]
    have HV := Hid.of (And.intro hv trivial)
    clear hv hh
    go_enter Tryz.func81, Tryz.ntmps81
    go_wp2_with fail
    refine ((HP _).out).mono ?_
    rintro e w9 ⟨rfl, h9⟩
    obtain rfl := h9.symm
    clear h9
    dsimp only
    go_wp2
    refine bodyPost_ret (result_cell_tmp Tryz.results81 _ _ w.heap.size z5 _ rfl rfl (at_new w 107 z5).range Tryz.underlying107 rfl (by kernel_rfl)) rfl ?_
    exact PR.none HV.out.1 ((Up.refl w).alloc _)
end Go.Proofs.YtaphjbcnnkoffaaGreatDoor
