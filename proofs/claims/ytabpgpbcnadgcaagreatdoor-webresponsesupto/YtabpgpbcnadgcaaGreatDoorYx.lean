import Derived.Test.YtabpgpbcnadgcaaGreatDoorYw
namespace Go.Proofs.YtabpgpbcnadgcaaGreatDoor
open Go.RowKit Go.Shelf TextNum
def z2 : List Value := [.int .i64 0, .int .i64 0]
/-- a body by the length that is told -/
def frl (v : List UInt8) : Er (Int × Nat) := if (prs v 1048576).2 = 0 then .ok (2, (prs v 1048576).1.toNat) else if (prs v 1048576).2 = 63 then .error 7 else .error 5
def frR (ad : Nat → Addr) : Er (Int × Nat) → Value
  | .error k => .tuple #[.agg z2.toArray, ev (ad k)]
  | .ok (way, n) => .tuple #[.agg #[.int .i64 way, .int .i64 (n : Int)], .nilIface]
theorem prs_ge (l : List UInt8) : 0 ≤ (prs l 1048576).1 ∧ (prs l 1048576).1 ≤ 1048576 := by
  unfold prs
  split
  · decide
  · split
    · split
      · dsimp only; omega
      · decide
    · decide
set_option maxRecDepth 100000 in
set_option maxHeartbeats 1000000 in
theorem framingByLength_walk (ad : Nat → Addr) (s : ByteArray) (w : World) (h : GE w ad) (hP : GP w) : Calls Tryz.prog 152 #[.string s] w fun e w' => e = .returned (frR ad (frl s.data.toList)) ∧ Up w w' := by
  have HG := Hid.of h
  have HA0 := Hid.of (at_new w 185 z2)
  have HU0 := Hid.of ((Up.refl w).alloc (.cells z2.toArray 185))
  have HPN := Hid.of (ParseNumber_walk s 1048576 (w.alloc (.cells z2.toArray 185)) (hP.up HU0.out))
  have hge := prs_ge s.data.toList
  clear h hP
  obtain ⟨rv, hrv⟩ : ∃ rv, frR ad (frl s.data.toList) = rv := ⟨_, rfl⟩
  have HR := Hid.of hrv
  rw [hrv]
  clear hrv
  unfold frl at HR
  generalize prs s.data.toList 1048576 = p at *
  obtain ⟨n, e0⟩ := p
  dsimp only at HR HPN hge
  go_enter Tryz.func152, Tryz.ntmps152
  go_wp2_with fail
  change Calls _ _ _ (w.alloc (.cells z2.toArray 185)) _
  generalize w.alloc (.cells z2.toArray 185) = w1 at *
  refine HPN.out.mono ?_
  rintro e w2 ⟨rfl, h9⟩
  have HU2 := Hid.of (HU0.out.trans h9)
  have HA2 := Hid.of (HA0.out.up h9)
  clear h9 HPN
  dsimp only
  by_cases h0 : e0 = 0
  · have z0 : (e0 == 0) = true := by rw [h0]; rfl
    obtain ⟨k, rfl⟩ : ∃ k : Nat, n = (k : Int) := ⟨n.toNat, by omega⟩
    have HE := Hid.of (show rv = .tuple #[.agg #[.int .i64 2, .int .i64 (k : Int)], .nilIface] by rw [← HR.out, if_pos h0]; rfl)
    clear h0 hge
    go_wp2_with (with_reducible show wpList _ _ _ ({ dst := _, op := Op.store 185 _ _, type := _, pos := _, after := _, guard := _ } :: _) _ _; refine Shut.out ?_)
    show wpList _ _ _ _ _ _
    refine wpList_store_at rfl 185 _ _ rfl (w.heap.size) HA2.out [.int .i64 2, .int .i64 (k : Int)] rfl rfl rfl (by kernel_rfl) (by kernel_rfl) ?_
    intro w8 hA8 hg8
    have HA8 := Hid.of hA8
    have HU8 := Hid.of (HU2.out.by hg8 (fun g hg => by have := Option.some.inj hg; omega))
    clear hA8 hg8
    simp only [Act.put]
    repeat go_step
    refine bodyPost_ret (result_cell_tmp Tryz.results152 _ _ (w.heap.size) [.int .i64 2, .int .i64 (k : Int)] _ rfl rfl HA8.out.range Tryz.underlying185 rfl (by kernel_rfl)) rfl ?_
    rw [HE.out]
    exact ⟨rfl, HU8.out⟩
  · have z0 : (e0 == 0) = false := by rw [beq_eq_false_iff_ne]; exact h0
    by_cases h1 : e0 = 63
    · have z1 : (e0 == 63) = true := by rw [h1]; rfl
      have HE := Hid.of (show rv = frR ad (.error 7) by rw [← HR.out, if_neg h0, if_pos h1])
      clear h0 h1 hge
      go_wp2
      refine wp_region_held_drew (S := fun w2 => (∃ cs, cs.length = 2 ∧ At w2 w.heap.size 185 cs) ∧ GE w2 ad ∧ Up w w2) (by kernel_rfl) ⟨⟨z2, rfl, HA2.out.up (Up.refl _).drew⟩, HG.out.up HU2.out.drew, HU2.out.drew⟩ (fun hS => ?_)
      refine wpAnyH_take (i := 0) (oi := { dst := some 18, op := Go.Op.build 185 #[], type := 185, pos := "field.go:129", after := #[], guard := none }) (v := .agg z2.toArray) rfl (by kernel_rfl) (by kernel_rfl) (by kernel_rfl) (fun _ _ _ h => h) (Or.inl ⟨by kernel_rfl, ?_⟩) hS ?_
      · intro w5 hSw
        clear hSw hS
        go_simp
        rfl
      simp only [Act.put, List.setIfInBounds_toArray, List.set_cons_zero, List.set_cons_succ]
      refine wpAnyH_take (i := 1) (oi := { dst := some 19, op := Go.Op.load 106 (Go.Operand.global 6), type := 106, pos := "field.go:129", after := #[{ on := 2, ground := Go.Ground.gcOnly Go.Departure.lateStores }], guard := none }) (v := ev (ad 7)) rfl (by kernel_rfl) (by kernel_rfl) (by kernel_rfl) (fun _ _ _ h => h) (Or.inl ⟨by kernel_rfl, ?_⟩) hS ?_
      · intro w5 hSw
        have hgl : w5.cell? ⟨6, 0, none⟩ = _ := hSw.2.1.gl 7 (by decide)
        clear hSw hS
        go_simp
      simp only [Act.put, List.setIfInBounds_toArray, List.set_cons_zero, List.set_cons_succ]
      refine wpAnyH_ready (rs := [2]) (by kernel_rfl) (by simp) ?_
      refine AllReadyH.cons (o := { dst := none, op := Go.Op.store 185 (Go.Operand.tmp 2) (Go.Operand.tmp 18), type := 0, pos := "field.go:129", after := #[{ on := 0, ground := Go.Ground.data }, { on := 0, ground := Go.Ground.phase }, { on := 1, ground := Go.Ground.textOnly Go.Departure.lateStores }], guard := none }) rfl (fun K hK => oper_of_list ?_) AllReadyH.nil
      obtain ⟨⟨cs, hcl, hcs2⟩, hS1, hS2⟩ := hS
      refine wpList_store_at rfl 185 _ _ rfl (w.heap.size) hcs2 z2 rfl rfl hcl.symm (by kernel_rfl) (by kernel_rfl) ?_
      intro w8 hA8 hg8
      have HA8 := Hid.of hA8
      have HU8 := Hid.of (hS2.by hg8 (fun g hg => by have := Option.some.inj hg; omega))
      clear hA8 hg8 hcs2 hS2 hS1
      refine hK.out _ _ ⟨⟨_, rfl, HA8.out⟩, HG.out.up HU8.out, HU8.out⟩ (fun hS => ?_)
      clear hK K
      refine wpAnyH_take (i := 3) (oi := { dst := some 3, op := Go.Op.assign (Go.Operand.tmp 19), type := 106, pos := "field.go:129", after := #[{ on := 1, ground := Go.Ground.data }, { on := 2, ground := Go.Ground.chain }, { on := 0, ground := Go.Ground.phase }, { on := 1, ground := Go.Ground.phase }, { on := 2, ground := Go.Ground.phase }], guard := none }) (v := ev (ad 7)) rfl (by kernel_rfl) (by kernel_rfl) (by kernel_rfl) (fun _ _ _ h => h) (Or.inl ⟨by kernel_rfl, ?_⟩) hS ?_
      · intro w5 hSw
        clear hSw hS
        go_simp
      simp only [Act.put, List.setIfInBounds_toArray, List.set_cons_zero, List.set_cons_succ]
      clear hS
      refine wpAnyH_done (by kernel_rfl) ?_ _
      repeat go_step
      refine bodyPost_ret (result_cell_tmp Tryz.results152 _ _ (w.heap.size) z2 _ rfl rfl HA8.out.range Tryz.underlying185 rfl (by kernel_rfl)) rfl ?_
      rw [HE.out]
      exact ⟨rfl, HU8.out⟩
    · have z1 : (e0 == 63) = false := by rw [beq_eq_false_iff_ne]; exact h1
      have HE := Hid.of (show rv = frR ad (.error 5) by rw [← HR.out, if_neg h0, if_neg h1])
      clear h0 h1 hge
      go_wp2
      refine wp_region_held_drew (S := fun w2 => (∃ cs, cs.length = 2 ∧ At w2 w.heap.size 185 cs) ∧ GE w2 ad ∧ Up w w2) (by kernel_rfl) ⟨⟨z2, rfl, HA2.out.up (Up.refl _).drew⟩, HG.out.up HU2.out.drew, HU2.out.drew⟩ (fun hS => ?_)
      refine wpAnyH_take (i := 0) (oi := { dst := some 20, op := Go.Op.build 185 #[], type := 185, pos := "field.go:131", after := #[], guard := none }) (v := .agg z2.toArray) rfl (by kernel_rfl) (by kernel_rfl) (by kernel_rfl) (fun _ _ _ h => h) (Or.inl ⟨by kernel_rfl, ?_⟩) hS ?_
      · intro w5 hSw
        clear hSw hS
        go_simp
        rfl
      simp only [Act.put, List.setIfInBounds_toArray, List.set_cons_zero, List.set_cons_succ]
      refine wpAnyH_take (i := 1) (oi := { dst := some 21, op := Go.Op.load 106 (Go.Operand.global 15), type := 106, pos := "field.go:131", after := #[{ on := 2, ground := Go.Ground.gcOnly Go.Departure.lateStores }], guard := none }) (v := ev (ad 5)) rfl (by kernel_rfl) (by kernel_rfl) (by kernel_rfl) (fun _ _ _ h => h) (Or.inl ⟨by kernel_rfl, ?_⟩) hS ?_
      · intro w5 hSw
        have hgl : w5.cell? ⟨15, 0, none⟩ = _ := hSw.2.1.gl 5 (by decide)
        clear hSw hS
        go_simp
      simp only [Act.put, List.setIfInBounds_toArray, List.set_cons_zero, List.set_cons_succ]
      refine wpAnyH_ready (rs := [2]) (by kernel_rfl) (by simp) ?_
      refine AllReadyH.cons (o := { dst := none, op := Go.Op.store 185 (Go.Operand.tmp 2) (Go.Operand.tmp 20), type := 0, pos := "field.go:131", after := #[{ on := 0, ground := Go.Ground.data }, { on := 0, ground := Go.Ground.phase }, { on := 1, ground := Go.Ground.textOnly Go.Departure.lateStores }], guard := none }) rfl (fun K hK => oper_of_list ?_) AllReadyH.nil
      obtain ⟨⟨cs, hcl, hcs2⟩, hS1, hS2⟩ := hS
      refine wpList_store_at rfl 185 _ _ rfl (w.heap.size) hcs2 z2 rfl rfl hcl.symm (by kernel_rfl) (by kernel_rfl) ?_
      intro w8 hA8 hg8
      have HA8 := Hid.of hA8
      have HU8 := Hid.of (hS2.by hg8 (fun g hg => by have := Option.some.inj hg; omega))
      clear hA8 hg8 hcs2 hS2 hS1
      refine hK.out _ _ ⟨⟨_, rfl, HA8.out⟩, HG.out.up HU8.out, HU8.out⟩ (fun hS => ?_)
      clear hK K
      refine wpAnyH_take (i := 3) (oi := { dst := some 3, op := Go.Op.assign (Go.Operand.tmp 21), type := 106, pos := "field.go:131", after := #[{ on := 1, ground := Go.Ground.data }, { on := 2, ground := Go.Ground.chain }, { on := 0, ground := Go.Ground.phase }, { on := 1, ground := Go.Ground.phase }, { on := 2, ground := Go.Ground.phase }], guard := none }) (v := ev (ad 5)) rfl (by kernel_rfl) (by kernel_rfl) (by kernel_rfl) (fun _ _ _ h => h) (Or.inl ⟨by kernel_rfl, ?_⟩) hS ?_
      · intro w5 hSw
        clear hSw hS
        go_simp
      simp only [Act.put, List.setIfInBounds_toArray, List.set_cons_zero, List.set_cons_succ]
      clear hS
      refine wpAnyH_done (by kernel_rfl) ?_ _
      repeat go_step
      refine bodyPost_ret (result_cell_tmp Tryz.results152 _ _ (w.heap.size) z2 _ rfl rfl HA8.out.range Tryz.underlying185 rfl (by kernel_rfl)) rfl ?_
      rw [HE.out]
      exact ⟨rfl, HU8.out⟩
/-- the fields that tell the length -/
def isc (f : FD) : Bool := kdf f.n == 3
def tls (f : FD) : Bool := kdf f.n == 3 || kdf f.n == 4
def chw : ByteArray := ⟨#[99, 104, 117, 110, 107, 101, 100]⟩
def bdc (minor : Int) (f : FD) : Bool := isc f && (minor == 0 || !(lws f.v.data.toList == lws chw.data.toList))
def lst (fs : List FD) : ByteArray := match (fs.filter tls).getLast? with
  | none => ⟨#[]⟩
  | some f => f.v
def frm (fs : List FD) (minor untold : Int) : Er (Int × Nat) :=
  if fs.any (bdc minor) = true then .error 5 else if 1 < fs.countP tls then .error 5 else if fs.countP tls = 0 then .ok (untold, 0) else if fs.any isc = true then .ok (3, 0) else frl (lst fs).data.toList
theorem lst_yes {fs : List FD} {f : FD} (h : tls f = true) : lst (fs ++ [f]) = f.v := by
  unfold lst
  rw [List.filter_append]
  simp [h]
theorem lst_no {fs : List FD} {f : FD} (h : tls f = false) : lst (fs ++ [f]) = lst fs := by
  unfold lst
  rw [List.filter_append]
  simp [h]
set_option maxRecDepth 100000 in
set_option maxHeartbeats 2000000 in
theorem framingOf_walk (ad : Nat → Addr) (a : Option Addr) (fs : List FD) (c : Nat) (minor untold : Int) (w : World) (h : FdL w a fs c) (hl : fs.length ≤ 1048576) (hs : ∀ f ∈ fs, f.v.size ≤ 1048576) (hE : GE w ad) (hK : w.rangeAt 13 0 kdC) (hP : GP w) :
    Calls Tryz.prog 118 #[.slice a fs.length c, .int .i64 minor, .int .i64 untold] w fun e w' => e = .returned (frR ad (frm fs minor untold)) ∧ Up w w' := by
  have HF := Hid.of h
  have HS := Hid.of hs
  have HG := Hid.of hE
  have HKd := Hid.of hK
  have HPp := Hid.of hP
  have hcap := h.cap
  have HA0 := Hid.of (at_new w 185 z2)
  have HU0 := Hid.of ((Up.refl w).alloc (.cells z2.toArray 185))
  clear h hs hE hK hP
  obtain ⟨rv, hrv⟩ : ∃ rv, frR ad (frm fs minor untold) = rv := ⟨_, rfl⟩
  have HR := Hid.of hrv
  rw [hrv]
  clear hrv
  go_enter Tryz.func118, Tryz.ntmps118
  go_wp2
  go_loopw [8, 9, 10, 15] (fun v8 v9 v10 v15 wr => ∃ (i k : Nat) (ch : Bool) (ln : ByteArray), v15 = .int .i64 (i : Int) ∧ v8 = .int .i64 (k : Int) ∧ v9 = .bool ch ∧ v10 = .string ln ∧ i ≤ fs.length ∧ k ≤ i ∧ Hid (Up w wr ∧ At wr w.heap.size 185 z2 ∧ (fs.take i).any (bdc minor) = false ∧ (fs.take i).countP tls = k ∧ (fs.take i).any isc = ch ∧ lst (fs.take i) = ln)) (fun _ _ _ v15 _ => fs.length - (intOf v15).toNat)
  case atStart => exact ⟨0, 0, false, ⟨#[]⟩, rfl, rfl, rfl, rfl, Nat.zero_le _, Nat.le_refl _, Hid.of ⟨HU0.out, HA0.out, rfl, rfl, rfl, rfl⟩⟩
  case round =>
    obtain ⟨i, k, ch, ln, rfl, rfl, rfl, rfl, hi, hki, hU⟩ := hrel
    have HU := Hid.of hU.out
    clear hU
    by_cases hil : i < fs.length
    · have hilz : (i : Int) < (fs.length : Int) := by omega
      obtain ⟨b, off, rfl, k1, k2⟩ := HF.out.cells i hil
      have hsz := HU0.out.size
      have HRg := Hid.of (range2 (HU.out.1.cell k1) (HU.out.1.cell k2))
      have HT := Hid.of (List.take_succ_eq_append_getElem hil)
      have HMm := Hid.of (List.getElem_mem hil)
      obtain ⟨f, hf⟩ : ∃ f, fs[i] = f := ⟨_, rfl⟩
      rw [hf] at HRg HT HMm
      have hfs := HS.out _ HMm.out
      clear hf k1 k2 hsz
      go_wp2_with (with_reducible show wpList _ _ _ ({ dst := _, op := Op.indexAddr 36 _ _, type := _, pos := _, after := _, guard := _ } :: _) _ _; refine Shut.out ?_)
      show wpList _ _ _ _ _ _
      refine wpList_val7 (.pointer (some ⟨b, off + i * 2, none⟩)) rfl (exec_idxFd i hil rfl rfl rfl) ?_
      simp only [Act.put, List.setIfInBounds_toArray, List.set_cons_zero, List.set_cons_succ]
      refine wpList_load_mid rfl _ _ rfl b (off + i * 2) rfl [.string f.n, .string f.v] _ HRg.out Tryz.underlying89 rfl infoFd2 ?_
      simp only [Act.put, List.setIfInBounds_toArray, List.set_cons_zero, List.set_cons_succ]
      have HAt := Hid.of (at_new wr 89 [.string f.n, .string f.v])
      have HUa := Hid.of (HU.out.1.alloc (.cells [.string f.n, .string f.v].toArray 89))
      have HZa := Hid.of (HU.out.2.1.up ((Up.refl wr).alloc (.cells [.string f.n, .string f.v].toArray 89)))
      go_wp2_with (with_reducible show wpList _ _ _ ({ dst := _, op := Op.load 89 _, type := _, pos := _, after := _, guard := _ } :: _) _ _; refine Shut.out ?_)
      show wpList _ _ _ _ _ _
      refine wpList_load_mid rfl _ _ rfl wr.heap.size 0 rfl [.string f.n, .string f.v] _ HAt.out.range Tryz.underlying89 rfl infoFd2 ?_
      simp only [Act.put, List.setIfInBounds_toArray, List.set_cons_zero, List.set_cons_succ]
      go_wp2_with fail
      refine (kindOf_walk f.n f.v _ (range_up HKd.out HUa.out)).mono ?_
      rintro e w5 ⟨rfl, u5⟩
      have HU5 := Hid.of (HUa.out.trans u5)
      have HZ5 := Hid.of (HZa.out.up u5)
      have cv : w5.cell? ⟨wr.heap.size, 1, none⟩ = some (.string f.v) := (HAt.out.up u5).cell (i := 1) rfl
      clear u5 HAt HUa HZa
      dsimp only
      cases hk3 : (kdf f.n == 3) with
      | true =>
        have htl : tls f = true := by unfold tls; rw [hk3]; rfl
        have hisc : isc f = true := hk3
        have HC2 := Hid.of (show (fs.take (i + 1)).countP tls = k + 1 by rw [HT.out, List.countP_append, HU.out.2.2.2.1]; simp [htl])
        have HI2 := Hid.of (show (fs.take (i + 1)).any isc = true by rw [HT.out, List.any_append]; simp [hisc])
        have HL2 := Hid.of (show lst (fs.take (i + 1)) = f.v by rw [HT.out]; exact lst_yes htl)
        clear htl
        have HBad := Hid.of (show bdc minor f = true → rv = frR ad (.error 5) from fun hb => by
          rw [← HR.out]
          unfold frm
          rw [if_pos (List.any_eq_true.2 ⟨f, HMm.out, hb⟩)])
        have HGood := Hid.of (show bdc minor f = false → (fs.take (i + 1)).any (bdc minor) = false from fun hb => by
          rw [HT.out, List.any_append, HU.out.2.2.1]; simp [hb])
        by_cases hm : minor = 0
        · have hm0 : (minor == 0) = true := by rw [hm]; rfl
          have HE := Hid.of (HBad.out (by unfold bdc; rw [hisc, hm0]; rfl))
          clear hm hisc
          go_wp2
          refine wp_region_held_drew (S := fun w2 => (∃ cs, cs.length = 2 ∧ At w2 w.heap.size 185 cs) ∧ GE w2 ad ∧ Up w w2) (by kernel_rfl) ⟨⟨z2, rfl, HZ5.out.up (Up.refl _).drew⟩, HG.out.up HU5.out.drew, HU5.out.drew⟩ (fun hS => ?_)
          refine wpAnyH_take (i := 0) (oi := { dst := some 33, op := Go.Op.build 185 #[], type := 185, pos := "field.go:104", after := #[], guard := none }) (v := .agg z2.toArray) rfl (by kernel_rfl) (by kernel_rfl) (by kernel_rfl) (fun _ _ _ h => h) (Or.inl ⟨by kernel_rfl, ?_⟩) hS ?_
          · intro w5 hSw
            clear hSw hS
            go_simp
            rfl
          simp only [Act.put, List.setIfInBounds_toArray, List.set_cons_zero, List.set_cons_succ]
          refine wpAnyH_take (i := 1) (oi := { dst := some 34, op := Go.Op.load 106 (Go.Operand.global 15), type := 106, pos := "field.go:104", after := #[{ on := 2, ground := Go.Ground.gcOnly Go.Departure.lateStores }], guard := none }) (v := ev (ad 5)) rfl (by kernel_rfl) (by kernel_rfl) (by kernel_rfl) (fun _ _ _ h => h) (Or.inl ⟨by kernel_rfl, ?_⟩) hS ?_
          · intro w5 hSw
            have hgl : w5.cell? ⟨15, 0, none⟩ = _ := hSw.2.1.gl 5 (by decide)
            clear hSw hS
            go_simp
          simp only [Act.put, List.setIfInBounds_toArray, List.set_cons_zero, List.set_cons_succ]
          refine wpAnyH_ready (rs := [2]) (by kernel_rfl) (by simp) ?_
          refine AllReadyH.cons (o := { dst := none, op := Go.Op.store 185 (Go.Operand.tmp 6) (Go.Operand.tmp 33), type := 0, pos := "field.go:104", after := #[{ on := 0, ground := Go.Ground.data }, { on := 0, ground := Go.Ground.phase }, { on := 1, ground := Go.Ground.textOnly Go.Departure.lateStores }], guard := none }) rfl (fun K hK => oper_of_list ?_) AllReadyH.nil
          obtain ⟨⟨cs, hcl, hcs2⟩, hS1, hS2⟩ := hS
          refine wpList_store_at rfl 185 _ _ rfl (w.heap.size) hcs2 z2 rfl rfl hcl.symm (by kernel_rfl) (by kernel_rfl) ?_
          intro w8 hA8 hg8
          have HA8 := Hid.of hA8
          have HU8 := Hid.of (hS2.by hg8 (fun g hg => by have := Option.some.inj hg; omega))
          clear hA8 hg8 hcs2 hS2 hS1
          refine hK.out _ _ ⟨⟨_, rfl, HA8.out⟩, HG.out.up HU8.out, HU8.out⟩ (fun hS => ?_)
          clear hK K
          refine wpAnyH_take (i := 3) (oi := { dst := some 7, op := Go.Op.assign (Go.Operand.tmp 34), type := 106, pos := "field.go:104", after := #[{ on := 1, ground := Go.Ground.data }, { on := 2, ground := Go.Ground.chain }, { on := 0, ground := Go.Ground.phase }, { on := 1, ground := Go.Ground.phase }, { on := 2, ground := Go.Ground.phase }], guard := none }) (v := ev (ad 5)) rfl (by kernel_rfl) (by kernel_rfl) (by kernel_rfl) (fun _ _ _ h => h) (Or.inl ⟨by kernel_rfl, ?_⟩) hS ?_
          · intro w5 hSw
            clear hSw hS
            go_simp
          simp only [Act.put, List.setIfInBounds_toArray, List.set_cons_zero, List.set_cons_succ]
          clear hS
          refine wpAnyH_done (by kernel_rfl) ?_ _
          repeat go_step
          refine bodyPost_ret (result_cell_tmp Tryz.results118 _ _ (w.heap.size) z2 _ rfl rfl HA8.out.range Tryz.underlying185 rfl (by kernel_rfl)) rfl ?_
          rw [HE.out]
          exact ⟨rfl, HU8.out⟩
        · have hm0 : (minor == 0) = false := by rw [beq_eq_false_iff_ne]; exact hm
          have HSW := Hid.of (sameWord_walk f.v chw w5 (by omega))
          unfold chw at HSW
          cases hsw : (lws f.v.data.toList == lws (⟨#[99, 104, 117, 110, 107, 101, 100]⟩ : ByteArray).data.toList) with
          | false =>
            rw [hsw] at HSW
            have HE := Hid.of (HBad.out (by unfold bdc chw; rw [hisc, hm0, hsw]; rfl))
            clear hm hisc hsw
            go_wp2_with fail
            refine HSW.out.mono ?_
            rintro e w6 ⟨rfl, h9⟩
            have HU6 := Hid.of (HU5.out.trans h9)
            have HZ6 := Hid.of (HZ5.out.up h9)
            clear h9
            dsimp only
            go_wp2
            refine wp_region_held_drew (S := fun w2 => (∃ cs, cs.length = 2 ∧ At w2 w.heap.size 185 cs) ∧ GE w2 ad ∧ Up w w2) (by kernel_rfl) ⟨⟨z2, rfl, HZ6.out.up (Up.refl _).drew⟩, HG.out.up HU6.out.drew, HU6.out.drew⟩ (fun hS => ?_)
            refine wpAnyH_take (i := 0) (oi := { dst := some 33, op := Go.Op.build 185 #[], type := 185, pos := "field.go:104", after := #[], guard := none }) (v := .agg z2.toArray) rfl (by kernel_rfl) (by kernel_rfl) (by kernel_rfl) (fun _ _ _ h => h) (Or.inl ⟨by kernel_rfl, ?_⟩) hS ?_
            · intro w5 hSw
              clear hSw hS
              go_simp
              rfl
            simp only [Act.put, List.setIfInBounds_toArray, List.set_cons_zero, List.set_cons_succ]
            refine wpAnyH_take (i := 1) (oi := { dst := some 34, op := Go.Op.load 106 (Go.Operand.global 15), type := 106, pos := "field.go:104", after := #[{ on := 2, ground := Go.Ground.gcOnly Go.Departure.lateStores }], guard := none }) (v := ev (ad 5)) rfl (by kernel_rfl) (by kernel_rfl) (by kernel_rfl) (fun _ _ _ h => h) (Or.inl ⟨by kernel_rfl, ?_⟩) hS ?_
            · intro w5 hSw
              have hgl : w5.cell? ⟨15, 0, none⟩ = _ := hSw.2.1.gl 5 (by decide)
              clear hSw hS
              go_simp
            simp only [Act.put, List.setIfInBounds_toArray, List.set_cons_zero, List.set_cons_succ]
            refine wpAnyH_ready (rs := [2]) (by kernel_rfl) (by simp) ?_
            refine AllReadyH.cons (o := { dst := none, op := Go.Op.store 185 (Go.Operand.tmp 6) (Go.Operand.tmp 33), type := 0, pos := "field.go:104", after := #[{ on := 0, ground := Go.Ground.data }, { on := 0, ground := Go.Ground.phase }, { on := 1, ground := Go.Ground.textOnly Go.Departure.lateStores }], guard := none }) rfl (fun K hK => oper_of_list ?_) AllReadyH.nil
            obtain ⟨⟨cs, hcl, hcs2⟩, hS1, hS2⟩ := hS
            refine wpList_store_at rfl 185 _ _ rfl (w.heap.size) hcs2 z2 rfl rfl hcl.symm (by kernel_rfl) (by kernel_rfl) ?_
            intro w8 hA8 hg8
            have HA8 := Hid.of hA8
            have HU8 := Hid.of (hS2.by hg8 (fun g hg => by have := Option.some.inj hg; omega))
            clear hA8 hg8 hcs2 hS2 hS1
            refine hK.out _ _ ⟨⟨_, rfl, HA8.out⟩, HG.out.up HU8.out, HU8.out⟩ (fun hS => ?_)
            clear hK K
            refine wpAnyH_take (i := 3) (oi := { dst := some 7, op := Go.Op.assign (Go.Operand.tmp 34), type := 106, pos := "field.go:104", after := #[{ on := 1, ground := Go.Ground.data }, { on := 2, ground := Go.Ground.chain }, { on := 0, ground := Go.Ground.phase }, { on := 1, ground := Go.Ground.phase }, { on := 2, ground := Go.Ground.phase }], guard := none }) (v := ev (ad 5)) rfl (by kernel_rfl) (by kernel_rfl) (by kernel_rfl) (fun _ _ _ h => h) (Or.inl ⟨by kernel_rfl, ?_⟩) hS ?_
            · intro w5 hSw
              clear hSw hS
              go_simp
            simp only [Act.put, List.setIfInBounds_toArray, List.set_cons_zero, List.set_cons_succ]
            clear hS
            refine wpAnyH_done (by kernel_rfl) ?_ _
            repeat go_step
            refine bodyPost_ret (result_cell_tmp Tryz.results118 _ _ (w.heap.size) z2 _ rfl rfl HA8.out.range Tryz.underlying185 rfl (by kernel_rfl)) rfl ?_
            rw [HE.out]
            exact ⟨rfl, HU8.out⟩
          | true =>
            rw [hsw] at HSW
            have HB2 := Hid.of (HGood.out (by unfold bdc chw; rw [hisc, hm0, hsw]; rfl))
            clear hm hisc hsw
            go_wp2_with fail
            refine HSW.out.mono ?_
            rintro e w6 ⟨rfl, h9⟩
            have HU6 := Hid.of (HU5.out.trans h9)
            have HZ6 := Hid.of (HZ5.out.up h9)
            have cv6 := h9.cell cv
            clear h9
            dsimp only
            go_wp2
            go_roundw
            all_goals first
              | exact ⟨i + 1, k + 1, true, f.v, by go_num, by go_num, rfl, rfl, by omega, by omega, Hid.of ⟨HU6.out, HZ6.out, HB2.out, HC2.out, HI2.out, HL2.out⟩⟩
              | (simp [intOf]; omega)
      | false =>
        have hisc : isc f = false := hk3
        have HB2 := Hid.of (show (fs.take (i + 1)).any (bdc minor) = false by rw [HT.out, List.any_append, HU.out.2.2.1]; simp [bdc, hisc])
        have HI2 := Hid.of (show (fs.take (i + 1)).any isc = ch by rw [HT.out, List.any_append, HU.out.2.2.2.2.1]; simp [hisc])
        clear hisc
        cases hk4 : (kdf f.n == 4) with
        | true =>
          have htl : tls f = true := by unfold tls; rw [hk3, hk4]; rfl
          have HC2 := Hid.of (show (fs.take (i + 1)).countP tls = k + 1 by rw [HT.out, List.countP_append, HU.out.2.2.2.1]; simp [htl])
          have HL2 := Hid.of (show lst (fs.take (i + 1)) = f.v by rw [HT.out]; exact lst_yes htl)
          clear htl
          go_wp2
          go_roundw
          all_goals first
            | exact ⟨i + 1, k + 1, ch, f.v, by go_num, by go_num, rfl, rfl, by omega, by omega, Hid.of ⟨HU5.out, HZ5.out, HB2.out, HC2.out, HI2.out, HL2.out⟩⟩
            | (simp [intOf]; omega)
        | false =>
          have htl : tls f = false := by unfold tls; rw [hk3, hk4]; rfl
          have HC2 := Hid.of (show (fs.take (i + 1)).countP tls = k by rw [HT.out, List.countP_append, HU.out.2.2.2.1]; simp [htl])
          have HL2 := Hid.of (show lst (fs.take (i + 1)) = ln by rw [HT.out, lst_no htl, HU.out.2.2.2.2.2])
          clear htl
          go_wp2
          go_roundw
          all_goals first
            | exact ⟨i + 1, k, ch, ln, by go_num, rfl, rfl, rfl, by omega, by omega, Hid.of ⟨HU5.out, HZ5.out, HB2.out, HC2.out, HI2.out, HL2.out⟩⟩
            | (simp [intOf]; omega)
    · have hilz : ¬ (i : Int) < (fs.length : Int) := by omega
      have HTk := Hid.of (show fs.take i = fs from List.take_of_length_le (by omega))
      have HR2 := Hid.of (show rv = frR ad (if 1 < k then .error 5 else if k = 0 then .ok (untold, 0) else if ch = true then .ok (3, 0) else frl ln.data.toList) by
        have h1 := HU.out.2.2.1
        have h2 := HU.out.2.2.2.1
        have h3 := HU.out.2.2.2.2.1
        have h4 := HU.out.2.2.2.2.2
        rw [HTk.out] at h1 h2 h3 h4
        rw [← HR.out]
        unfold frm
        rw [if_neg (by rw [h1]; simp), h2, h3, h4])
      have HU5 := Hid.of HU.out.1
      have HZ5 := Hid.of HU.out.2.1
      clear HU HTk HR
      by_cases hk1 : 1 < k
      · have hkz : (1 : Int) < (k : Int) := by omega
        have HE := Hid.of (show rv = frR ad (.error 5) by rw [HR2.out, if_pos hk1])
        go_wp2
        refine wp_region_held_drew (S := fun w2 => (∃ cs, cs.length = 2 ∧ At w2 w.heap.size 185 cs) ∧ GE w2 ad ∧ Up w w2) (by kernel_rfl) ⟨⟨z2, rfl, HZ5.out.up (Up.refl _).drew⟩, HG.out.up HU5.out.drew, HU5.out.drew⟩ (fun hS => ?_)
        refine wpAnyH_take (i := 0) (oi := { dst := some 43, op := Go.Op.build 185 #[], type := 185, pos := "field.go:115", after := #[], guard := none }) (v := .agg z2.toArray) rfl (by kernel_rfl) (by kernel_rfl) (by kernel_rfl) (fun _ _ _ h => h) (Or.inl ⟨by kernel_rfl, ?_⟩) hS ?_
        · intro w5 hSw
          clear hSw hS
          go_simp
          rfl
        simp only [Act.put, List.setIfInBounds_toArray, List.set_cons_zero, List.set_cons_succ]
        refine wpAnyH_take (i := 1) (oi := { dst := some 44, op := Go.Op.load 106 (Go.Operand.global 15), type := 106, pos := "field.go:115", after := #[{ on := 2, ground := Go.Ground.gcOnly Go.Departure.lateStores }], guard := none }) (v := ev (ad 5)) rfl (by kernel_rfl) (by kernel_rfl) (by kernel_rfl) (fun _ _ _ h => h) (Or.inl ⟨by kernel_rfl, ?_⟩) hS ?_
        · intro w5 hSw
          have hgl : w5.cell? ⟨15, 0, none⟩ = _ := hSw.2.1.gl 5 (by decide)
          clear hSw hS
          go_simp
        simp only [Act.put, List.setIfInBounds_toArray, List.set_cons_zero, List.set_cons_succ]
        refine wpAnyH_ready (rs := [2]) (by kernel_rfl) (by simp) ?_
        refine AllReadyH.cons (o := { dst := none, op := Go.Op.store 185 (Go.Operand.tmp 6) (Go.Operand.tmp 43), type := 0, pos := "field.go:115", after := #[{ on := 0, ground := Go.Ground.data }, { on := 0, ground := Go.Ground.phase }, { on := 1, ground := Go.Ground.textOnly Go.Departure.lateStores }], guard := none }) rfl (fun K hK => oper_of_list ?_) AllReadyH.nil
        obtain ⟨⟨cs, hcl, hcs2⟩, hS1, hS2⟩ := hS
        refine wpList_store_at rfl 185 _ _ rfl (w.heap.size) hcs2 z2 rfl rfl hcl.symm (by kernel_rfl) (by kernel_rfl) ?_
        intro w8 hA8 hg8
        have HA8 := Hid.of hA8
        have HU8 := Hid.of (hS2.by hg8 (fun g hg => by have := Option.some.inj hg; omega))
        clear hA8 hg8 hcs2 hS2 hS1
        refine hK.out _ _ ⟨⟨_, rfl, HA8.out⟩, HG.out.up HU8.out, HU8.out⟩ (fun hS => ?_)
        clear hK K
        refine wpAnyH_take (i := 3) (oi := { dst := some 7, op := Go.Op.assign (Go.Operand.tmp 44), type := 106, pos := "field.go:115", after := #[{ on := 1, ground := Go.Ground.data }, { on := 2, ground := Go.Ground.chain }, { on := 0, ground := Go.Ground.phase }, { on := 1, ground := Go.Ground.phase }, { on := 2, ground := Go.Ground.phase }], guard := none }) (v := ev (ad 5)) rfl (by kernel_rfl) (by kernel_rfl) (by kernel_rfl) (fun _ _ _ h => h) (Or.inl ⟨by kernel_rfl, ?_⟩) hS ?_
        · intro w5 hSw
          clear hSw hS
          go_simp
        simp only [Act.put, List.setIfInBounds_toArray, List.set_cons_zero, List.set_cons_succ]
        clear hS
        refine wpAnyH_done (by kernel_rfl) ?_ _
        repeat go_step
        refine bodyPost_ret (result_cell_tmp Tryz.results118 _ _ (w.heap.size) z2 _ rfl rfl HA8.out.range Tryz.underlying185 rfl (by kernel_rfl)) rfl ?_
        rw [HE.out]
        exact ⟨rfl, HU8.out⟩
      · have hkz : ¬ (1 : Int) < (k : Int) := by omega
        by_cases hk0 : k = 0
        · have hk0z : ((k : Int) == 0) = true := by rw [hk0]; rfl
          have HE := Hid.of (show rv = .tuple #[.agg #[.int .i64 untold, .int .i64 0], .nilIface] by rw [HR2.out, if_neg hk1, if_pos hk0]; rfl)
          clear hk0
          go_wp2_with (with_reducible show wpList _ _ _ ({ dst := _, op := Op.store 185 _ _, type := _, pos := _, after := _, guard := _ } :: _) _ _; refine Shut.out ?_)
          show wpList _ _ _ _ _ _
          refine wpList_store_at rfl 185 _ _ rfl (w.heap.size) HZ5.out [.int .i64 untold, .int .i64 0] rfl rfl rfl (by kernel_rfl) (by kernel_rfl) ?_
          intro w8 hA8 hg8
          have HA8 := Hid.of hA8
          have HU8 := Hid.of (HU5.out.by hg8 (fun g hg => by have := Option.some.inj hg; omega))
          clear hA8 hg8
          simp only [Act.put]
          repeat go_step
          refine bodyPost_ret (result_cell_tmp Tryz.results118 _ _ (w.heap.size) [.int .i64 untold, .int .i64 0] _ rfl rfl HA8.out.range Tryz.underlying185 rfl (by kernel_rfl)) rfl ?_
          rw [HE.out]
          exact ⟨rfl, HU8.out⟩
        · have hk0z : ((k : Int) == 0) = false := by rw [beq_eq_false_iff_ne]; omega
          cases hch : ch with
          | true =>
            have HE := Hid.of (show rv = .tuple #[.agg #[.int .i64 3, .int .i64 0], .nilIface] by rw [HR2.out, if_neg hk1, if_neg hk0, if_pos hch]; rfl)
            subst hch
            go_wp2_with (with_reducible show wpList _ _ _ ({ dst := _, op := Op.store 185 _ _, type := _, pos := _, after := _, guard := _ } :: _) _ _; refine Shut.out ?_)
            show wpList _ _ _ _ _ _
            refine wpList_store_at rfl 185 _ _ rfl (w.heap.size) HZ5.out [.int .i64 3, .int .i64 0] rfl rfl rfl (by kernel_rfl) (by kernel_rfl) ?_
            intro w8 hA8 hg8
            have HA8 := Hid.of hA8
            have HU8 := Hid.of (HU5.out.by hg8 (fun g hg => by have := Option.some.inj hg; omega))
            clear hA8 hg8
            simp only [Act.put]
            repeat go_step
            refine bodyPost_ret (result_cell_tmp Tryz.results118 _ _ (w.heap.size) [.int .i64 3, .int .i64 0] _ rfl rfl HA8.out.range Tryz.underlying185 rfl (by kernel_rfl)) rfl ?_
            rw [HE.out]
            exact ⟨rfl, HU8.out⟩
          | false =>
            have HR3 := Hid.of (show rv = frR ad (frl ln.data.toList) by rw [HR2.out, if_neg hk1, if_neg hk0, if_neg (by rw [hch]; simp)])
            subst hch
            have HFB := Hid.of (framingByLength_walk ad ln wr (HG.out.up HU5.out) (HPp.out.up HU5.out))
            rw [← HR3.out] at HFB
            obtain ⟨cs, vr, hcs, hrv2, hcl, hc1⟩ : ∃ (cs : List Value) (vr : Value), rv = .tuple #[.agg cs.toArray, vr] ∧ True ∧ cs.length = 2 ∧ cs.toArray.all (·.oneCell') = true := by
              rw [HR3.out]
              unfold frR
              split
              · exact ⟨z2, _, rfl, trivial, rfl, by kernel_rfl⟩
              · exact ⟨[_, _], _, rfl, trivial, rfl, by kernel_rfl⟩
            rw [hcs] at HFB
            have HE := Hid.of hcs
            clear hcs hrv2 HR3
            go_wp2_with fail
            refine HFB.out.mono ?_
            rintro e w6 ⟨rfl, h9⟩
            have HU6 := Hid.of (HU5.out.trans h9)
            have HZ6 := Hid.of (HZ5.out.up h9)
            clear h9
            dsimp only
            go_wp2_with (with_reducible show wpList _ _ _ ({ dst := _, op := Op.store 185 _ _, type := _, pos := _, after := _, guard := _ } :: _) _ _; refine Shut.out ?_)
            show wpList _ _ _ _ _ _
            refine wpList_store_at rfl 185 _ _ rfl (w.heap.size) HZ6.out cs rfl rfl hcl (by rw [List.size_toArray, hcl]; kernel_rfl) hc1 ?_
            intro w8 hA8 hg8
            have HA8 := Hid.of hA8
            have HU8 := Hid.of (HU6.out.by hg8 (fun g hg => by have := Option.some.inj hg; omega))
            clear hA8 hg8
            simp only [Act.put]
            repeat go_step
            refine bodyPost_ret (result_cell_tmp Tryz.results118 _ _ (w.heap.size) cs _ rfl rfl HA8.out.range Tryz.underlying185 rfl (by rw [hcl]; kernel_rfl)) rfl ?_
            rw [HE.out]
            exact ⟨rfl, HU8.out⟩
end Go.Proofs.YtabpgpbcnadgcaaGreatDoor
