import Derived.Test.YtaphjbcnnkoffaaGreatDoorMr
namespace Go.Proofs.YtaphjbcnnkoffaaGreatDoor
open Go.RowKit Go.Shelf TextNum ModNum
theorem majE_some {p m : List UInt8} (h : maj p = some m) : majE p = 0 := by unfold majE; rw [h]; rfl
theorem majE_none {p : List UInt8} (h : maj p = none) : majE p = 110 := by unfold majE; rw [h]; rfl
theorem verE_some {p : List UInt8} {q : Prt} (h : ver p = some q) : verE p = 0 := by unfold verE; rw [h]; rfl
theorem verE_none {p : List UInt8} (h : ver p = none) : verE p = 111 := by unfold verE; rw [h]; rfl
set_option maxRecDepth 100000 in
theorem fits_walk (n0 n1 n2 : List UInt8) (v : Value) (ws : List (List UInt8)) (inc : Bool) (m : List UInt8) (w : World) :
    Calls Tryz.prog 82 #[.agg (pc5 n0 n1 n2 v inc), .string ⟨m.toArray⟩] w fun e w' => e = .returned (.bool (fit ⟨[n0, n1, n2], ws, inc⟩ m)) ∧ Up w w' := by
  have HR : Hid (fit ⟨[n0, n1, n2], ws, inc⟩ m = if m = [] then inc || isLow n0 else decide (n0 = m) && !inc) := rfl
  obtain ⟨ms, hms⟩ : ∃ ms : ByteArray, ms = ⟨m.toArray⟩ := ⟨_, rfl⟩
  have hmd : ms.data.toList = m := by rw [hms]
  rw [← hms]
  clear hms
  obtain ⟨ns, hns⟩ : ∃ ns : ByteArray, ns = ⟨n0.toArray⟩ := ⟨_, rfl⟩
  have hnd : ns.data.toList = n0 := by rw [hns]
  have HL := fun w' => Hid.of (isLow_walk ns w')
  rw [hnd] at HL
  show Calls Tryz.prog 82 #[.agg #[.string ⟨n0.toArray⟩, .string ⟨n1.toArray⟩, .string ⟨n2.toArray⟩, v, .bool inc], .string ms] w _
  rw [← hns]
  clear hns
  by_cases hm : m = []
  · have he : ms.toList.isEmpty = true := by rw [Go.Lib.toList_data, hmd, hm]; rfl
    rw [if_pos hm] at HR
    clear hm hmd hnd
    cases inc with
    | true =>
      go_enter Tryz.func82, Tryz.ntmps82
      go_wp2
      go_ret
      rw [HR.out]
      exact ⟨rfl, (Up.refl w).alloc _⟩
    | false =>
      go_enter Tryz.func82, Tryz.ntmps82
      go_wp2_with fail
      refine ((HL _).out).mono ?_
      rintro e w9 ⟨rfl, h9⟩
      obtain rfl := h9.symm
      clear h9
      dsimp only
      go_wp2
      go_ret
      rw [HR.out]
      exact ⟨by simp, (Up.refl w).alloc _⟩
  · have he : ms.toList.isEmpty = false := by
      rw [Go.Lib.toList_data, hmd]
      cases m with
      | nil => exact absurd rfl hm
      | cons a r => rfl
    have hq : (ns.toList == ms.toList) = decide (n0 = m) := by
      rw [Go.Lib.toList_data, Go.Lib.toList_data, hmd, hnd, Bool.eq_iff_iff]
      simp
    rw [if_neg hm] at HR
    clear hm hmd hnd HL
    generalize decide (n0 = m) = bq at *
    cases bq with
    | true =>
      go_enter Tryz.func82, Tryz.ntmps82
      go_wp2
      go_ret
      rw [HR.out]
      exact ⟨by simp, (Up.refl w).alloc _⟩
    | false =>
      go_enter Tryz.func82, Tryz.ntmps82
      go_wp2
      go_ret
      rw [HR.out]
      exact ⟨rfl, (Up.refl w).alloc _⟩
/-- what partsFor answers -/
def FR (p l : List UInt8) (w : World) (e : Ending) (w' : World) : Prop := ∃ n0 n1 n2 v ws inc, e = .returned (.tuple #[.agg (pc5 n0 n1 n2 v inc), .int .i64 (fte p l)]) ∧ SlS w' v ws ∧ (∀ g, v.ownBlock = some g → w.heap.size ≤ g) ∧ (fte p l = 0 → vp l = ⟨[n0, n1, n2], ws, inc⟩) ∧ Up w w'
theorem FR.no {p l : List UInt8} {k : Int} {w w' : World} (h : fte p l = k) (hk : k ≠ 0) (u : Up w w') : FR p l w (.returned (.tuple #[.agg z5.toArray, .int .i64 k])) w' :=
  ⟨[], [], [], .slice none 0 0, [], false, by rw [h], slS_nil _, (fun g hg => by cases hg), fun h0 => absurd (h.symm.trans h0) hk, u⟩
theorem infoParts : (Tryz.prog.info? 107).map (·.size) = some 5 := by kernel_rfl
set_option maxRecDepth 100000 in
set_option maxHeartbeats 2000000 in
theorem partsFor_walk (p s : ByteArray) (w : World) (hG : GR w) : Calls Tryz.prog 52 #[.string p, .string s] w (FR p.data.toList s.data.toList w) := by
  have HM := fun w' => fun (u : Up w w') => Hid.of (majorOf_walk p w' (hG.up u))
  have HV := fun w' => fun (u : Up w w') => Hid.of (partsOf_walk s w' (hG.up u).toGM)
  clear hG
  have HF : Hid (fte p.data.toList s.data.toList = match maj p.data.toList with
  | none => 110
  | some m => match ver s.data.toList with
    | none => 111
    | some q => if fit q m then 0 else 111) := rfl
  cases hm : maj p.data.toList with
  | none =>
    rw [majE_none hm, hm] at HM
    rw [hm] at HF
    clear hm HV
    go_enter Tryz.func52, Tryz.ntmps52
    go_wp2_with fail
    refine ((HM _ ((Up.refl w).alloc _)).out).mono ?_
    rintro e w1 ⟨rfl, u1⟩
    have H1 := Hid.of (((Up.refl w).alloc _).trans u1)
    have Hu1 := Hid.of u1
    clear u1
    dsimp only
    have HA := Hid.of ((at_new w 107 z5).up Hu1.out)
    have c0 := HA.out.cell (i := 0) rfl
    have c1 := HA.out.cell (i := 1) rfl
    have c2 := HA.out.cell (i := 2) rfl
    have c3 := HA.out.cell (i := 3) rfl
    have c4 := HA.out.cell (i := 4) rfl
    have t0 := HA.out.thaw 0
    have t1 := HA.out.thaw 1
    have t2 := HA.out.thaw 2
    have t3 := HA.out.thaw 3
    have t4 := HA.out.thaw 4
    go_wp2
    refine bodyPost_ret (result_cell_tmp Tryz.results52 _ _ w.heap.size z5 _ rfl rfl (((((HA.out.set 0 _).set 1 _).set 2 _).set 3 _).set 4 _).range Tryz.underlying107 rfl infoParts) rfl ?_
    exact FR.no HF.out (by decide) (H1.out.by (set5 w1 w.heap.size _ _ _ _ _) (fun g hg => by injection hg with hg; omega))
  | some m =>
    rw [majE_some hm, hm] at HM
    rw [hm] at HF
    clear hm
    rw [show (some m : Option (List UInt8)).getD [] = m from rfl] at HM
    cases hv : ver s.data.toList with
    | none =>
      rw [hv] at HF
      go_enter Tryz.func52, Tryz.ntmps52
      go_wp2_with fail
      refine ((HM _ ((Up.refl w).alloc _)).out).mono ?_
      rintro e w1 ⟨rfl, u1⟩
      have H1 := Hid.of (((Up.refl w).alloc _).trans u1)
      have Hu1 := Hid.of u1
      clear u1
      dsimp only
      go_wp2_with fail
      refine (HV _ H1.out).out.mono ?_
      rintro e w2 ⟨n0, n1, n2, v, hn, rfl, hS, hfr, u2⟩
      rw [verE_none hv]
      have HA := Hid.of (((at_new w 107 z5).up Hu1.out).up u2)
      have H2 := Hid.of (H1.out.trans u2)
      obtain ⟨a, c, rfl⟩ := hS.len
      generalize (vp s.data.toList).inc = inc at *
      generalize (vp s.data.toList).ws.length = wn at *
      clear hn hS u2 HM HV Hu1 hv hfr
      have hA2 := HA.out.up ((Up.refl w2).alloc (.cells (pc5 n0 n1 n2 (.slice a wn c) inc) 107))
      have c0 := hA2.cell (i := 0) rfl
      have c1 := hA2.cell (i := 1) rfl
      have c2 := hA2.cell (i := 2) rfl
      have c3 := hA2.cell (i := 3) rfl
      have c4 := hA2.cell (i := 4) rfl
      have t0 := hA2.thaw 0
      have t1 := hA2.thaw 1
      have t2 := hA2.thaw 2
      have t3 := hA2.thaw 3
      have t4 := hA2.thaw 4
      have HA2 := Hid.of hA2
      clear hA2
      dsimp only
      go_wp2
      refine bodyPost_ret (result_cell_tmp Tryz.results52 _ _ w.heap.size z5 _ rfl rfl (((((HA2.out.set 0 _).set 1 _).set 2 _).set 3 _).set 4 _).range Tryz.underlying107 rfl infoParts) rfl ?_
      exact FR.no HF.out (by decide) ((H2.out.alloc _).by (set5 _ w.heap.size _ _ _ _ _) (fun g hg => by injection hg with hg; omega))
    | some q =>
      rw [hv] at HF
      go_enter Tryz.func52, Tryz.ntmps52
      go_wp2_with fail
      refine ((HM _ ((Up.refl w).alloc _)).out).mono ?_
      rintro e w1 ⟨rfl, u1⟩
      have H1 := Hid.of (((Up.refl w).alloc _).trans u1)
      have Hu1 := Hid.of u1
      clear u1
      dsimp only
      go_wp2_with fail
      refine (HV _ H1.out).out.mono ?_
      rintro e w2 ⟨n0, n1, n2, v, hn, rfl, hS, hfr, u2⟩
      rw [verE_some hv]
      have hvp : vp s.data.toList = q := by unfold vp; rw [hv]; rfl
      rw [hvp] at hn hS
      have HVP := Hid.of (And.intro hvp trivial)
      have HA := Hid.of (((at_new w 107 z5).up Hu1.out).up u2)
      have H2 := Hid.of (H1.out.trans u2)
      rw [hvp]
      obtain ⟨qn, ws, inc⟩ := q
      simp only at hn hS
      subst hn
      have HS := Hid.of hS
      obtain ⟨a, c, rfl⟩ := hS.len
      have HFr := Hid.of hfr
      have HsZ := Hid.of (show w.heap.size < w1.heap.size from lt_of_at ((at_new w 107 z5).up Hu1.out))
      clear hfr
      clear hS u2 HM HV Hu1 hv hvp
      have HFi := fun w' => Hid.of (fits_walk n0 n1 n2 (.slice a ws.length c) ws inc m w')
      dsimp only
      go_wp2_with fail
      refine (HFi _).out.mono ?_
      rintro e w3 ⟨rfl, u3⟩
      have HA3 := Hid.of ((HA.out.up ((Up.refl w2).alloc (.cells (pc5 n0 n1 n2 (.slice a ws.length c) inc) 107))).up u3)
      have hB3 := (at_new w2 107 (pc5 n0 n1 n2 (.slice a ws.length c) inc).toList).up u3
      have d0 := hB3.cell (i := 0) rfl
      have d1 := hB3.cell (i := 1) rfl
      have d2 := hB3.cell (i := 2) rfl
      have d3 := hB3.cell (i := 3) rfl
      have d4 := hB3.cell (i := 4) rfl
      have H3 := Hid.of ((H2.out.alloc (.cells (pc5 n0 n1 n2 (.slice a ws.length c) inc) 107)).trans u3)
      have HS3 := Hid.of ((HS.out.up ((Up.refl w2).alloc (.cells (pc5 n0 n1 n2 (.slice a ws.length c) inc) 107))).up u3)
      have hlt := lt_of_at HA.out
      have c0 := HA3.out.cell (i := 0) rfl
      have c1 := HA3.out.cell (i := 1) rfl
      have c2 := HA3.out.cell (i := 2) rfl
      have c3 := HA3.out.cell (i := 3) rfl
      have c4 := HA3.out.cell (i := 4) rfl
      have t0 := HA3.out.thaw 0
      have t1 := HA3.out.thaw 1
      have t2 := HA3.out.thaw 2
      have t3 := HA3.out.thaw 3
      have t4 := HA3.out.thaw 4
      clear u3 hB3 HFi
      dsimp only
      cases hf : fit ⟨[n0, n1, n2], ws, inc⟩ m with
      | false =>
        have HE := Hid.of (And.intro (show fte p.data.toList s.data.toList = 111 by rw [HF.out]; show (if fit _ m = true then (0 : Int) else 111) = _; rw [hf]; rfl) trivial)
        clear hf HF
        go_wp2
        refine bodyPost_ret (result_cell_tmp Tryz.results52 _ _ w.heap.size z5 _ rfl rfl (((((HA3.out.set 0 _).set 1 _).set 2 _).set 3 _).set 4 _).range Tryz.underlying107 rfl infoParts) rfl ?_
        exact FR.no HE.out.1 (by decide) (H3.out.by (set5 _ w.heap.size _ _ _ _ _) (fun g hg => by injection hg with hg; omega))
      | true =>
        have HE := Hid.of (And.intro (show fte p.data.toList s.data.toList = 0 by rw [HF.out]; show (if fit _ m = true then (0 : Int) else 111) = _; rw [hf]; rfl) trivial)
        clear hf HF
        go_wp2
        refine bodyPost_ret (result_cell_tmp Tryz.results52 _ _ w.heap.size (pc5 n0 n1 n2 (.slice a ws.length c) inc).toList _ rfl rfl (((((HA3.out.set 0 _).set 1 _).set 2 _).set 3 _).set 4 _).range Tryz.underlying107 rfl infoParts) rfl ?_
        refine ⟨n0, n1, n2, _, ws, inc, by rw [HE.out.1]; rfl, HS3.out.by (set5 _ w.heap.size _ _ _ _ _) (fun g hg e => ?_), (fun g hg => ?_), fun _ => HVP.out.1, H3.out.by (set5 _ w.heap.size _ _ _ _ _) (fun g hg => by injection hg with hg; omega)⟩
        · have h1 := HFr.out g hg
          have h2 := HsZ.out
          have h3 : w.heap.size = g := Option.some.inj e
          omega
        · have h1 := HFr.out g hg
          have h2 := HsZ.out
          omega
end Go.Proofs.YtaphjbcnnkoffaaGreatDoor
