import Derived.Test.YtaibjeehjhlicaaDoorYbm
namespace Go.Proofs.YtaibjeehjhlicaaDoor
open Go.RowKit Go.Shelf TextNum ModNum
set_option maxRecDepth 100000 in
set_option maxHeartbeats 32000000 in
theorem loads_walk (room : Int) (a : Option Addr) (ls : List GF) (c : Nat) (w : World) (hF : FsL w a ls c) (hl : ls.length ≤ 1000000) (hsz : szs ls ≤ 1099511626000) (hG : ML w) (hV : 0 < w.heap.size) :
    Calls Tryd.prog 3 #[.int .i64 room, .slice a ls.length c] w fun e w' => e = .returned (.bool true) ∧ Up w w' := by
  have HF := Hid.of hF
  have HG := Hid.of hG
  have HV := Hid.of hV
  have HSz := Hid.of hsz
  obtain ⟨n, hn⟩ : ∃ n, ls.length = n := ⟨_, rfl⟩
  rw [hn] at hl ⊢
  have HN := Hid.of hn
  have HS := Hid.of (show ∀ g ∈ ls, g.ds.length ≤ 1099511626000 from fun g hg => by
    have h1 : g.ds.length ≤ szs ls := szs_mem hg
    omega)
  clear hF hG hV hn hsz
  have HU0 := Hid.of ((((Up.refl w).alloc (.cells #[.int .u8 1] 5)).alloc (.cells #[.int .u8 2] 5)).alloc (.cells #[.string ⟨#[98]⟩, .slice (some ⟨w.heap.size, 0, none⟩) 1 1, .string ⟨#[97]⟩, .slice (some ⟨w.heap.size + 1, 0, none⟩) 1 1] 29))
  have HL1 := Hid.of (Load_gen 2 _ (two w.heap.size) 2 _ (two_lie w) (by show 2 ≤ 1000000; omega) (HG.out.up HU0.out) (by have := HV.out; have := HU0.out.size; omega))
  go_enter Tryd.func3, Tryd.ntmps3
  go_wp2_with fail
  refine HL1.out.mono ?_
  rintro e w2 ⟨u2, hor⟩
  rw [two_ld] at hor
  obtain ⟨D1, s1, w1, u1, rfl, hlaid⟩ : ∃ D s w1, Up _ w1 ∧ e = .returned (.tuple #[pv D, .int .i64 0]) ∧ Laid w1 w2 D (2 : Int).toNat (two w.heap.size) s := by
    rcases hor with ⟨h0, _⟩ | ⟨_, h⟩
    · exact absurd rfl h0
    · exact h
  have HD1 := Hid.of hlaid
  have HU2 := Hid.of (HU0.out.trans u2)
  clear u2 u1 hor hlaid HL1 HU0
  have hpD : ∀ w', (binOp .eql 23 (.pointer (some ⟨D1, 0, none⟩)) (.pointer none)).run Tryd.prog w' = .ok (.bool false) w' := fun w' => by kernel_rfl
  dsimp only
  have HX1 := Hid.of (show s1.nf.length = 2 ∧ srt (s1.nf.map (·.1)) = [[97], [98]] from ⟨HD1.out.ld.len, by rw [HD1.out.ld.keys]; exact srt_two⟩)
  have HF1 := Hid.of (Files_gen w2 HD1.out.ok HD1.out.st.1 (by rw [HX1.out.1]; omega))
  go_wp2_with fail
  refine HF1.out.mono ?_
  rintro e w3 ⟨a3, f3, c3, rfl, o3, u3, e3⟩
  have hl3 : f3.length = 2 := by
    have h5 := congrArg List.length (show f3.map pr = fsOf s1.nf from e3)
    rw [List.length_map, fsOf_len, HX1.out.1] at h5
    exact h5
  rw [hl3]
  have HK3 := Hid.of (HD1.out.ok.up u3)
  have HU3 := Hid.of (HU2.out.trans u3)
  clear o3 u3 e3 hl3 HF1 HU2
  dsimp only
  have HF1 := Hid.of (Files_gen w3 HK3.out HD1.out.st.1 (by rw [HX1.out.1]; omega))
  go_wp2_with fail
  refine HF1.out.mono ?_
  rintro e w4 ⟨a4, f4, c4, rfl, o4, u4, e4⟩
  have hl4 : f4.length = 2 := by
    have h5 := congrArg List.length (show f4.map pr = fsOf s1.nf from e4)
    rw [List.length_map, fsOf_len, HX1.out.1] at h5
    exact h5
  obtain ⟨g4, hg4, y1, k4, y2, y3⟩ := o4.some (i := 0) (by omega)
  clear y1 y2 y3
  have hn4 : f4[0].nm = ⟨#[97]⟩ := by
    have h5 := congrArg (fun l => (l.map Prod.fst)[0]?) (show f4.map pr = fsOf s1.nf from e4)
    simp only [fsOf_fst, HX1.out.2, List.map_map, List.getElem?_map, List.getElem?_eq_getElem (show 0 < f4.length by omega), Option.map_some] at h5
    have h6 : f4[0].nm.data.toList = [97] := by simpa using h5
    cases hx : f4[0].nm with
    | mk x =>
      rw [hx] at h6
      have : x = #[97] := Array.toList_inj.1 h6
      rw [this]
  subst hg4
  rw [hn4] at k4
  rw [hl4]
  have k4' : w4.cell? ⟨g4, 0, none⟩ = some (.string ⟨#[97]⟩) := by simpa using k4
  have HU4 := Hid.of (HU3.out.trans u4)
  clear o4 u4 e4 hl4 hn4 k4 HF1 HU3 HK3 HX1
  dsimp only
  have HLe := Hid.of (lentFiles_walk a c ls w4 (HF.out.up HU4.out) (by rw [HN.out]; exact hl) HS.out)
  rw [HN.out] at HLe
  go_wp2_with fail
  refine HLe.out.mono ?_
  rintro e w5 ⟨a5, c5, a6, c6, fs, vs, rfl, l5, u5, m5⟩
  obtain ⟨hfl5, hc5⟩ := l5.fsl (by omega)
  have HL5 := Hid.of l5
  have HM5 := Hid.of m5
  have HFl5 := Hid.of hfl5
  have HU5 := Hid.of (HU4.out.trans u5)
  have HB4 := Hid.of (show w.heap.size ≤ w4.heap.size from HU4.out.size)
  have hfn : fs.length = n := l5.fl
  have HFn := Hid.of hfn
  clear l5 u5 m5 hfl5 HLe k4' HU4
  have hcz : (n : Int) ≤ (c5 : Int) := by omega
  dsimp only
  have hLo := Load_gen room a5 fs c5 w5 HFl5.out (by omega) (HG.out.up HU5.out) (by have := HV.out; have := HU5.out.size; omega)
  rw [hfn, ld_same HM5.out] at hLo
  have HLo := Hid.of hLo
  clear hLo hfn
  go_wp2_with fail
  refine HLo.out.mono ?_
  rintro e w6 ⟨u6, hor⟩
  obtain ⟨er, her⟩ : ∃ er, ldE room ls = er := ⟨_, rfl⟩
  obtain ⟨vd, rfl, hvd⟩ : ∃ vd, e = .returned (.tuple #[vd, .int .i64 er]) ∧ ((er ≠ 0 ∧ vd = .pointer none) ∨ (er = 0 ∧ ∃ D s w1, Up w5 w1 ∧ vd = pv D ∧ Laid w1 w6 D room.toNat fs s)) := by
    rw [her] at hor
    rcases hor with ⟨h0, h1⟩ | ⟨h0, D, s, w1, u1, h1, h2⟩
    · exact ⟨_, h1, .inl ⟨h0, rfl⟩⟩
    · exact ⟨_, by rw [h0]; exact h1, .inr ⟨h0, D, s, w1, u1, rfl, h2⟩⟩
  have HVd := Hid.of hvd
  have HEr := Hid.of her
  have HL6 := Hid.of (HL5.out.up u6)
  have HU6 := Hid.of (HU5.out.trans u6)
  clear hor hvd u6 HLo HFl5 her
  dsimp only
  have HAG := Hid.of (asGiven_walk a a5 a6 c c5 c6 n _ ls fs vs w6 HL6.out (HF.out.up HU6.out) HN.out hl HS.out HM5.out)
  go_wp2_with fail
  refine HAG.out.mono ?_
  rintro e w7 ⟨rfl, u7⟩
  have HL7 := Hid.of (HL6.out.up u7)
  have HU7 := Hid.of (HU6.out.trans u7)
  have HV7 := Hid.of (show (er ≠ 0 ∧ vd = .pointer none) ∨ (er = 0 ∧ ∃ D s w1, Up w5 w1 ∧ vd = pv D ∧ Laid w1 w7 D room.toNat fs s) from HVd.out.imp id (fun ⟨h0, D, s, w1, u1, h1, h2⟩ => ⟨h0, D, s, w1, u1, h1, ⟨h2.ok.up u7, h2.lo, h2.up.trans u7, h2.ld, h2.st, h2.sy⟩⟩))
  clear u7 HAG HL6 HU6 HVd
  dsimp only
  go_wp2
  have HUw := Hid.of (Up.refl w7)
  have HNl := Hid.of (show (nam ls).length = n by rw [nam_len, HN.out])
  go_loopw [11, 12, 13, 14] (fun v11 v12 v13 _ wr => ∃ i : Nat, v13 = .int .i64 (i : Int) ∧ i ≤ n ∧ ∃ (S : Nat) (t : Bool), v11 = .int .i64 (S : Int) ∧ v12 = .bool t ∧ Hid (Up w7 wr ∧ S = szs (ls.take i) ∧ t = !decide ((nam ls).take i).Nodup)) (fun _ _ v13 _ _ => n - (intOf v13).toNat)
  case atStart => exact ⟨0, rfl, by omega, 0, false, rfl, rfl, Hid.of ⟨Up.refl _, by rw [List.take_zero]; rfl, by rw [List.take_zero]; rfl⟩⟩
  case round =>
    obtain ⟨i, rfl, hi, S, t, rfl, rfl, hQ⟩ := hrel
    have HQ := Hid.of hQ.out
    clear hQ
    by_cases hin : i < n
    · have hz : (i : Int) < (n : Int) := by omega
      have hiL : i < ls.length := by rw [HN.out]; exact hin
      obtain ⟨b, off, rfl, k1, k2⟩ := HF.out.cells i hiL
      have hsb := HF.out.sb _ (List.getElem_mem hiL)
      obtain ⟨ad, cd, hgv, hcd, _⟩ := id hsb
      rw [hgv] at k2
      obtain ⟨q, hq⟩ : ∃ q, ls[i].ds.length = q := ⟨_, rfl⟩
      obtain ⟨ni, hni⟩ : ∃ ni, ls[i].nm = ni := ⟨_, rfl⟩
      rw [hq] at k2
      rw [hni] at k1
      have HSn := Hid.of (show S + q = szs (ls.take (i + 1)) by rw [szs_snoc hiL, HQ.out.2.1, hq])
      have hsum : S + q ≤ 1099511626000 := by
        have h1 := HSn.out
        have h2 := szs_le ls (i + 1)
        have h3 := HSz.out
        omega
      have hx : (nam ls)[i]'(by rw [HNl.out]; exact hin) = ni.data.toList := by
        unfold nam
        rw [List.getElem_map, hni]
      have HX := Hid.of hx
      have HK1 := Hid.of (HU7.out.cell k1)
      have k2' := (HU7.out.trans HQ.out.1).cell k2
      clear k1 k2 hsb hgv hcd hq hni hx
      go_wp2
      go_loopw [12, 14] (fun v12 v14 wr2 => ∃ (j : Nat) (t2 : Bool), v14 = .int .i64 (j : Int) ∧ j ≤ i ∧ v12 = .bool t2 ∧ Hid (Up wr wr2 ∧ t2 = (t || decide (ni.data.toList ∈ (nam ls).take j)))) (fun _ v14 _ => i - (intOf v14).toNat)
      case atStart => exact ⟨0, t, rfl, by omega, rfl, Hid.of ⟨Up.refl _, by rw [List.take_zero]; simp⟩⟩
      case round =>
        obtain ⟨w10, hw10⟩ : ∃ w10, w10 = wr := ⟨_, rfl⟩
        obtain ⟨j, t2, rfl, hj, rfl, hQ⟩ := hrel
        have HQ2 := Hid.of hQ.out
        clear hQ k2'
        by_cases hjl : j < i
        · have hjz : (j : Int) < (i : Int) := by omega
          have hjn : j < n := by omega
          have hjL : j < ls.length := by rw [HN.out]; exact hjn
          obtain ⟨b', off', e, k3, _⟩ := HF.out.cells j hjL
          injection e with e
          injection e with e1 e2
          subst e1
          subst e2
          obtain ⟨nj, hnj⟩ : ∃ nj, ls[j].nm = nj := ⟨_, rfl⟩
          rw [hnj] at k3
          have hxj : (nam ls)[j]'(by rw [HNl.out]; exact hjn) = nj.data.toList := by
            unfold nam
            rw [List.getElem_map, hnj]
          have HXj := Hid.of (show (ni.data.toList ∈ (nam ls).take (j + 1)) ↔ (ni.data.toList ∈ (nam ls).take j ∨ ni.data.toList = nj.data.toList) by rw [mem_snoc (by rw [HNl.out]; exact hjn), hxj])
          have HKj := Hid.of ((HQ.out.1.trans HQ2.out.1).cell (HU7.out.cell k3))
          have HKi := Hid.of ((HQ.out.1.trans HQ2.out.1).cell HK1.out)
          clear k3 hnj hxj
          by_cases hx : nj.data.toList = ni.data.toList
          · obtain rfl : nj = ni := by
              cases nj with
              | mk x => cases ni with
                | mk y => rw [show x = y from Array.toList_inj.1 hx]
            clear hx
            go_wp2
            refine wp_region_held_drew (S := fun w2 => Up wr w2) (by kernel_rfl) (Up.refl _).drew (fun hS => ?_)
            refine wpAnyH_take (i := 0) (oi := { dst := some 87, op := Go.Op.move (Go.Operand.tmp 1), type := 22, pos := "outright.go:589", after := #[], guard := none }) (v := .slice (some ⟨b, off, none⟩) n c) rfl (by kernel_rfl) (by kernel_rfl) (by kernel_rfl) (fun _ _ _ h => h) (Or.inl ⟨by kernel_rfl, ?_⟩) hS ?_
            · intro w5 hSw
              clear hSw hS
              go_simp
            simp only [Act.put, List.setIfInBounds_toArray, List.set_cons_zero, List.set_cons_succ]
            refine wpAnyH_take (i := 1) (oi := { dst := some 88, op := Go.Op.move (Go.Operand.tmp 14), type := 3, pos := "outright.go:589", after := #[], guard := none }) (v := .int .i64 (j : Int)) rfl (by kernel_rfl) (by kernel_rfl) (by kernel_rfl) (fun _ _ _ h => h) (Or.inl ⟨by kernel_rfl, ?_⟩) hS ?_
            · intro w5 hSw
              clear hSw hS
              go_simp
            simp only [Act.put, List.setIfInBounds_toArray, List.set_cons_zero, List.set_cons_succ]
            refine wpAnyH_take (i := 2) (oi := { dst := some 89, op := Go.Op.indexAddr 22 (Go.Operand.tmp 87) (Go.Operand.tmp 88), type := 0, pos := "outright.go:589", after := #[{ on := 0, ground := Go.Ground.data }, { on := 1, ground := Go.Ground.data }], guard := none }) (v := .pointer (some ⟨b, off + j * 2, none⟩)) rfl (by kernel_rfl) (by kernel_rfl) (by kernel_rfl) (fun _ _ _ h => h) (Or.inl ⟨by kernel_rfl, ?_⟩) hS ?_
            · intro w5 hSw
              clear hSw hS
              exact exec_idxLF j hjn rfl rfl rfl
            simp only [Act.put, List.setIfInBounds_toArray, List.set_cons_zero, List.set_cons_succ]
            refine wpAnyH_take (i := 3) (oi := { dst := some 90, op := Go.Op.fieldAddr 36 (Go.Operand.tmp 89) 0, type := 0, pos := "outright.go:589", after := #[{ on := 2, ground := Go.Ground.data }], guard := none }) (v := .pointer (some ⟨b, off + j * 2, none⟩)) rfl (by kernel_rfl) (by kernel_rfl) (by kernel_rfl) (fun _ _ _ h => h) (Or.inl ⟨by kernel_rfl, ?_⟩) hS ?_
            · intro w5 hSw
              clear hSw hS
              go_simp
            simp only [Act.put, List.setIfInBounds_toArray, List.set_cons_zero, List.set_cons_succ]
            refine wpAnyH_take (i := 4) (oi := { dst := some 91, op := Go.Op.load 9 (Go.Operand.tmp 90), type := 9, pos := "outright.go:589", after := #[{ on := 3, ground := Go.Ground.data }], guard := none }) (v := .string nj) rfl (by kernel_rfl) (by kernel_rfl) (by kernel_rfl) (fun _ _ _ h => h) (Or.inl ⟨by kernel_rfl, ?_⟩) hS ?_
            · intro w5 hSw
              have h0 := hSw.cell HKj.out
              clear hSw hS
              go_simp
            simp only [Act.put, List.setIfInBounds_toArray, List.set_cons_zero, List.set_cons_succ]
            refine wpAnyH_take (i := 5) (oi := { dst := some 92, op := Go.Op.move (Go.Operand.tmp 1), type := 22, pos := "outright.go:589", after := #[], guard := none }) (v := .slice (some ⟨b, off, none⟩) n c) rfl (by kernel_rfl) (by kernel_rfl) (by kernel_rfl) (fun _ _ _ h => h) (Or.inl ⟨by kernel_rfl, ?_⟩) hS ?_
            · intro w5 hSw
              clear hSw hS
              go_simp
            simp only [Act.put, List.setIfInBounds_toArray, List.set_cons_zero, List.set_cons_succ]
            refine wpAnyH_take (i := 6) (oi := { dst := some 93, op := Go.Op.move (Go.Operand.tmp 13), type := 3, pos := "outright.go:589", after := #[], guard := none }) (v := .int .i64 (i : Int)) rfl (by kernel_rfl) (by kernel_rfl) (by kernel_rfl) (fun _ _ _ h => h) (Or.inl ⟨by kernel_rfl, ?_⟩) hS ?_
            · intro w5 hSw
              clear hSw hS
              go_simp
            simp only [Act.put, List.setIfInBounds_toArray, List.set_cons_zero, List.set_cons_succ]
            refine wpAnyH_take (i := 7) (oi := { dst := some 94, op := Go.Op.indexAddr 22 (Go.Operand.tmp 92) (Go.Operand.tmp 93), type := 0, pos := "outright.go:589", after := #[{ on := 5, ground := Go.Ground.data }, { on := 6, ground := Go.Ground.data }], guard := none }) (v := .pointer (some ⟨b, off + i * 2, none⟩)) rfl (by kernel_rfl) (by kernel_rfl) (by kernel_rfl) (fun _ _ _ h => h) (Or.inl ⟨by kernel_rfl, ?_⟩) hS ?_
            · intro w5 hSw
              clear hSw hS
              exact exec_idxLF i hin rfl rfl rfl
            simp only [Act.put, List.setIfInBounds_toArray, List.set_cons_zero, List.set_cons_succ]
            refine wpAnyH_take (i := 8) (oi := { dst := some 95, op := Go.Op.fieldAddr 36 (Go.Operand.tmp 94) 0, type := 0, pos := "outright.go:589", after := #[{ on := 7, ground := Go.Ground.data }], guard := none }) (v := .pointer (some ⟨b, off + i * 2, none⟩)) rfl (by kernel_rfl) (by kernel_rfl) (by kernel_rfl) (fun _ _ _ h => h) (Or.inl ⟨by kernel_rfl, ?_⟩) hS ?_
            · intro w5 hSw
              clear hSw hS
              go_simp
            simp only [Act.put, List.setIfInBounds_toArray, List.set_cons_zero, List.set_cons_succ]
            refine wpAnyH_take (i := 9) (oi := { dst := some 96, op := Go.Op.load 9 (Go.Operand.tmp 95), type := 9, pos := "outright.go:589", after := #[{ on := 8, ground := Go.Ground.data }], guard := none }) (v := .string nj) rfl (by kernel_rfl) (by kernel_rfl) (by kernel_rfl) (fun _ _ _ h => h) (Or.inl ⟨by kernel_rfl, ?_⟩) hS ?_
            · intro w5 hSw
              have h0 := hSw.cell HKi.out
              clear hSw hS
              go_simp
            simp only [Act.put, List.setIfInBounds_toArray, List.set_cons_zero, List.set_cons_succ]
            refine wpAnyH_take (i := 10) (oi := { dst := some 97, op := Go.Op.binOp Go.BinOp.eql 9 (Go.Operand.tmp 91) (Go.Operand.tmp 96) 9, type := 4, pos := "outright.go:589", after := #[{ on := 4, ground := Go.Ground.data }, { on := 9, ground := Go.Ground.data }], guard := none }) (v := .bool true) rfl (by kernel_rfl) (by kernel_rfl) (by kernel_rfl) (fun _ _ _ h => h) (Or.inl ⟨by kernel_rfl, ?_⟩) hS ?_
            · intro w5 hSw
              clear hSw hS
              go_simp
            simp only [Act.put, List.setIfInBounds_toArray, List.set_cons_zero, List.set_cons_succ]
            have HSZ := Hid.of hS
            clear hS
            refine wpAnyH_done (by kernel_rfl) ?_ _
            go_wp2
            go_roundw
            all_goals first
              | (simp [intOf]; omega)
              | exact ⟨j + 1, true, by go_num, by omega, rfl, Hid.of ⟨HQ2.out.1.trans HSZ.out, by rw [decide_eq_true (HXj.out.2 (.inr (by first | rfl | trivial))), Bool.or_true]⟩⟩
          · have HNe := Hid.of hx
            have HNa := Hid.of (show ¬ nj.toList = ni.toList by rw [ByteArray.toList_eq, ByteArray.toList_eq]; exact hx)
            clear hx
            go_wp2
            refine wp_region_held_drew (S := fun w2 => Up wr w2) (by kernel_rfl) (Up.refl _).drew (fun hS => ?_)
            refine wpAnyH_take (i := 0) (oi := { dst := some 87, op := Go.Op.move (Go.Operand.tmp 1), type := 22, pos := "outright.go:589", after := #[], guard := none }) (v := .slice (some ⟨b, off, none⟩) n c) rfl (by kernel_rfl) (by kernel_rfl) (by kernel_rfl) (fun _ _ _ h => h) (Or.inl ⟨by kernel_rfl, ?_⟩) hS ?_
            · intro w5 hSw
              clear hSw hS
              go_simp
            simp only [Act.put, List.setIfInBounds_toArray, List.set_cons_zero, List.set_cons_succ]
            refine wpAnyH_take (i := 1) (oi := { dst := some 88, op := Go.Op.move (Go.Operand.tmp 14), type := 3, pos := "outright.go:589", after := #[], guard := none }) (v := .int .i64 (j : Int)) rfl (by kernel_rfl) (by kernel_rfl) (by kernel_rfl) (fun _ _ _ h => h) (Or.inl ⟨by kernel_rfl, ?_⟩) hS ?_
            · intro w5 hSw
              clear hSw hS
              go_simp
            simp only [Act.put, List.setIfInBounds_toArray, List.set_cons_zero, List.set_cons_succ]
            refine wpAnyH_take (i := 2) (oi := { dst := some 89, op := Go.Op.indexAddr 22 (Go.Operand.tmp 87) (Go.Operand.tmp 88), type := 0, pos := "outright.go:589", after := #[{ on := 0, ground := Go.Ground.data }, { on := 1, ground := Go.Ground.data }], guard := none }) (v := .pointer (some ⟨b, off + j * 2, none⟩)) rfl (by kernel_rfl) (by kernel_rfl) (by kernel_rfl) (fun _ _ _ h => h) (Or.inl ⟨by kernel_rfl, ?_⟩) hS ?_
            · intro w5 hSw
              clear hSw hS
              exact exec_idxLF j hjn rfl rfl rfl
            simp only [Act.put, List.setIfInBounds_toArray, List.set_cons_zero, List.set_cons_succ]
            refine wpAnyH_take (i := 3) (oi := { dst := some 90, op := Go.Op.fieldAddr 36 (Go.Operand.tmp 89) 0, type := 0, pos := "outright.go:589", after := #[{ on := 2, ground := Go.Ground.data }], guard := none }) (v := .pointer (some ⟨b, off + j * 2, none⟩)) rfl (by kernel_rfl) (by kernel_rfl) (by kernel_rfl) (fun _ _ _ h => h) (Or.inl ⟨by kernel_rfl, ?_⟩) hS ?_
            · intro w5 hSw
              clear hSw hS
              go_simp
            simp only [Act.put, List.setIfInBounds_toArray, List.set_cons_zero, List.set_cons_succ]
            refine wpAnyH_take (i := 4) (oi := { dst := some 91, op := Go.Op.load 9 (Go.Operand.tmp 90), type := 9, pos := "outright.go:589", after := #[{ on := 3, ground := Go.Ground.data }], guard := none }) (v := .string nj) rfl (by kernel_rfl) (by kernel_rfl) (by kernel_rfl) (fun _ _ _ h => h) (Or.inl ⟨by kernel_rfl, ?_⟩) hS ?_
            · intro w5 hSw
              have h0 := hSw.cell HKj.out
              clear hSw hS
              go_simp
            simp only [Act.put, List.setIfInBounds_toArray, List.set_cons_zero, List.set_cons_succ]
            refine wpAnyH_take (i := 5) (oi := { dst := some 92, op := Go.Op.move (Go.Operand.tmp 1), type := 22, pos := "outright.go:589", after := #[], guard := none }) (v := .slice (some ⟨b, off, none⟩) n c) rfl (by kernel_rfl) (by kernel_rfl) (by kernel_rfl) (fun _ _ _ h => h) (Or.inl ⟨by kernel_rfl, ?_⟩) hS ?_
            · intro w5 hSw
              clear hSw hS
              go_simp
            simp only [Act.put, List.setIfInBounds_toArray, List.set_cons_zero, List.set_cons_succ]
            refine wpAnyH_take (i := 6) (oi := { dst := some 93, op := Go.Op.move (Go.Operand.tmp 13), type := 3, pos := "outright.go:589", after := #[], guard := none }) (v := .int .i64 (i : Int)) rfl (by kernel_rfl) (by kernel_rfl) (by kernel_rfl) (fun _ _ _ h => h) (Or.inl ⟨by kernel_rfl, ?_⟩) hS ?_
            · intro w5 hSw
              clear hSw hS
              go_simp
            simp only [Act.put, List.setIfInBounds_toArray, List.set_cons_zero, List.set_cons_succ]
            refine wpAnyH_take (i := 7) (oi := { dst := some 94, op := Go.Op.indexAddr 22 (Go.Operand.tmp 92) (Go.Operand.tmp 93), type := 0, pos := "outright.go:589", after := #[{ on := 5, ground := Go.Ground.data }, { on := 6, ground := Go.Ground.data }], guard := none }) (v := .pointer (some ⟨b, off + i * 2, none⟩)) rfl (by kernel_rfl) (by kernel_rfl) (by kernel_rfl) (fun _ _ _ h => h) (Or.inl ⟨by kernel_rfl, ?_⟩) hS ?_
            · intro w5 hSw
              clear hSw hS
              exact exec_idxLF i hin rfl rfl rfl
            simp only [Act.put, List.setIfInBounds_toArray, List.set_cons_zero, List.set_cons_succ]
            refine wpAnyH_take (i := 8) (oi := { dst := some 95, op := Go.Op.fieldAddr 36 (Go.Operand.tmp 94) 0, type := 0, pos := "outright.go:589", after := #[{ on := 7, ground := Go.Ground.data }], guard := none }) (v := .pointer (some ⟨b, off + i * 2, none⟩)) rfl (by kernel_rfl) (by kernel_rfl) (by kernel_rfl) (fun _ _ _ h => h) (Or.inl ⟨by kernel_rfl, ?_⟩) hS ?_
            · intro w5 hSw
              clear hSw hS
              go_simp
            simp only [Act.put, List.setIfInBounds_toArray, List.set_cons_zero, List.set_cons_succ]
            refine wpAnyH_take (i := 9) (oi := { dst := some 96, op := Go.Op.load 9 (Go.Operand.tmp 95), type := 9, pos := "outright.go:589", after := #[{ on := 8, ground := Go.Ground.data }], guard := none }) (v := .string ni) rfl (by kernel_rfl) (by kernel_rfl) (by kernel_rfl) (fun _ _ _ h => h) (Or.inl ⟨by kernel_rfl, ?_⟩) hS ?_
            · intro w5 hSw
              have h0 := hSw.cell HKi.out
              clear hSw hS
              go_simp
            simp only [Act.put, List.setIfInBounds_toArray, List.set_cons_zero, List.set_cons_succ]
            refine wpAnyH_take (i := 10) (oi := { dst := some 97, op := Go.Op.binOp Go.BinOp.eql 9 (Go.Operand.tmp 91) (Go.Operand.tmp 96) 9, type := 4, pos := "outright.go:589", after := #[{ on := 4, ground := Go.Ground.data }, { on := 9, ground := Go.Ground.data }], guard := none }) (v := .bool false) rfl (by kernel_rfl) (by kernel_rfl) (by kernel_rfl) (fun _ _ _ h => h) (Or.inl ⟨by kernel_rfl, ?_⟩) hS ?_
            · intro w5 hSw
              have h3 := HNa.out
              clear hSw hS
              go_simp
            simp only [Act.put, List.setIfInBounds_toArray, List.set_cons_zero, List.set_cons_succ]
            have HSZ := Hid.of hS
            clear hS
            refine wpAnyH_done (by kernel_rfl) ?_ _
            go_wp2
            go_roundw
            all_goals first
              | exact ⟨j + 1, t2, by go_num, by omega, rfl, Hid.of ⟨HQ2.out.1.trans HSZ.out, by rw [HQ2.out.2]; congr 1; exact decide_eq_decide.2 (HXj.out.trans ⟨fun h => h.elim id (fun h => absurd h.symm HNe.out), .inl⟩).symm⟩⟩
              | (simp [intOf]; omega)
        · have hie : i = j := by omega
          subst hie
          have hjz : ¬ (i : Int) < (i : Int) := by omega
          have HNx := Hid.of (show t2 = !decide ((nam ls).take (i + 1)).Nodup by
            rw [HQ2.out.2, HQ.out.2.2]
            have h5 := nodup_snoc (xs := nam ls) (i := i) (by rw [HNl.out]; exact hin)
            rw [HX.out] at h5
            by_cases p1 : ((nam ls).take i).Nodup
            · by_cases p2 : ni.data.toList ∈ (nam ls).take i
              · rw [decide_eq_true p1, decide_eq_true p2, decide_eq_false (fun h => (h5.1 h).2 p2)]
                rfl
              · rw [decide_eq_true p1, decide_eq_false p2, decide_eq_true (h5.2 ⟨p1, p2⟩)]
                rfl
            · rw [decide_eq_false p1, decide_eq_false (fun h => p1 (h5.1 h).1)]
              simp)
          go_wp2
          go_roundw
          all_goals first
            | exact ⟨i + 1, by go_num, by omega, S + q, t2, by go_num, rfl, Hid.of ⟨HQ.out.1.trans HQ2.out.1, HSn.out, HNx.out⟩⟩
            | (simp [intOf]; omega)
    · have hie : n = i := by omega
      subst hie
      have hz : ¬ (n : Int) < (n : Int) := by omega
      have hSe : S = szs ls ∧ t = !decide (nam ls).Nodup := by
        refine ⟨?_, ?_⟩
        · rw [HQ.out.2.1, List.take_of_length_le (by rw [HN.out]; exact Nat.le_refl _)]
        · rw [HQ.out.2.2, List.take_of_length_le (by rw [HNl.out]; exact Nat.le_refl _)]
      have HSe := Hid.of hSe
      clear hSe
      have HU8 := Hid.of (HU7.out.trans HQ.out.1)
      have hpN : ∀ w', (binOp .eql 23 (.pointer none) (.pointer none)).run Tryd.prog w' = .ok (.bool true) w' := fun w' => by kernel_rfl
      by_cases hr0 : room < 0
      · obtain rfl : er = 1 := by
          rw [← HEr.out]
          unfold ldE
          rw [if_pos (.inl hr0)]
        obtain rfl : vd = .pointer none := by
          rcases HV7.out with ⟨_, h⟩ | ⟨h, _⟩
          · exact h
          · cases h
        go_wp2
        go_ret
        exact ⟨rfl, HU8.out⟩
      by_cases hr1 : 1099511627776 < room
      · obtain rfl : er = 1 := by
          rw [← HEr.out]
          unfold ldE
          rw [if_pos (.inr hr1)]
        obtain rfl : vd = .pointer none := by
          rcases HV7.out with ⟨_, h⟩ | ⟨h, _⟩
          · exact h
          · cases h
        go_wp2
        go_ret
        exact ⟨rfl, HU8.out⟩
      have hcs := ld_cases (room := room) (ls := ls) (by omega) (by omega)
      rw [HEr.out, ← HSe.out.1] at hcs
      rcases hcs with rfl | ⟨rfl, hnd⟩ | ⟨rfl, hnd, hgt⟩ | ⟨rfl, hnd, hle⟩
      · obtain rfl : vd = .pointer none := by
          rcases HV7.out with ⟨_, h⟩ | ⟨h, _⟩
          · exact h
          · cases h
        go_wp2
        go_ret
        exact ⟨rfl, HU8.out⟩
      · obtain rfl : vd = .pointer none := by
          rcases HV7.out with ⟨_, h⟩ | ⟨h, _⟩
          · exact h
          · cases h
        obtain rfl : t = true := by rw [HSe.out.2, decide_eq_false hnd]; rfl
        go_wp2
        go_ret
        exact ⟨rfl, HU8.out⟩
      · obtain rfl : vd = .pointer none := by
          rcases HV7.out with ⟨_, h⟩ | ⟨h, _⟩
          · exact h
          · cases h
        obtain rfl : t = false := by rw [HSe.out.2, decide_eq_true hnd]; rfl
        go_wp2
        go_ret
        exact ⟨rfl, HU8.out⟩
      · obtain rfl : t = false := by rw [HSe.out.2, decide_eq_true hnd]; rfl
        obtain ⟨D, s, w1, u1, rfl, hld⟩ : ∃ D s w1, Up w5 w1 ∧ vd = pv D ∧ Laid w1 w7 D room.toNat fs s := by
          rcases HV7.out with ⟨h, _⟩ | ⟨_, h⟩
          · exact absurd rfl h
          · exact h
        have HLd := Hid.of (show fls s = fls s ∧ s.dead = false ∧ s.chs.length + lsd (fls s) = 0 ∧ s.acts = 0 ∧ usd s.nf = S ∧ s.nf.length = n ∧ (nam ls).Nodup from ⟨rfl, hld.st.1, by rw [hld.st.2.2.2.1, lsd_zero hld.lo0]; rfl, hld.st.2.2.2.2.2.2.1, by
          rw [hld.ld.usd, HSe.out.1]
          have := congrArg (List.map (fun p : List UInt8 × List UInt8 => p.2.length)) HM5.out
          simp only [List.map_map] at this
          exact congrArg List.sum this, by rw [hld.ld.len, HFn.out], hnd⟩)
        have HHas := Hid.of (show ∀ i (_ : i < fs.length), ∃ f, (fs[i].nm.data.toList, f) ∈ s.nf ∧ f.nb = fs[i].ds from fun i hi => hld.hasf hi)
        have HWj := Hid.of (show WJ w wr w4.heap.size D n a5 c5 a6 c6 vs s from HL5.out.wj (HL7.out.up HQ.out.1) ((hld.bk (HU5.out.trans u1) HV.out).upTo HQ.out.1) (fun k hk => Nat.le_trans u1.size (hld.lo k hk)) HB4.out)
        have hvl : vs.length = n := HL7.out.vl
        have HVl := Hid.of hvl
        have hpE : ∀ w', (binOp .eql 23 (.pointer (some ⟨D, 0, none⟩)) (.pointer none)).run Tryd.prog w' = .ok (.bool false) w' := fun w' => by kernel_rfl
        clear hld u1 hvl HL7 HL5 HV7 hpD hpN HD1 HEr
        go_wp2
        go_loopw [15, 16] (fun v15 _ wr => ∃ i : Nat, v15 = .int .i64 (i : Int) ∧ i ≤ n ∧ Hid (WJ w wr w4.heap.size D n a5 c5 a6 c6 vs s)) (fun v15 _ _ => n - (intOf v15).toNat)
        case atStart => exact ⟨0, rfl, by omega, HWj⟩
        case round =>
          clear HWj HU8
          obtain ⟨i, rfl, hi, hQ⟩ := hrel
          have HW1 := Hid.of hQ.out
          clear hQ
          by_cases hin : i < n
          · have hz : (i : Int) < (n : Int) := by omega
            have hz1 : (i : Int) < (n : Int) + 100 := by omega
            have hz2 : i < n + 100 := by omega
            have hiv : i < vs.length := by rw [HVl.out]; exact hin
            obtain ⟨g6, hg6⟩ : ∃ g6, a6 = some ⟨g6, 0, none⟩ := by
              rcases HW1.out.wd.2 with ⟨_, h0⟩ | ⟨g, cap, cur, e, _⟩
              · omega
              · injection e with e1 _ _
                exact ⟨g, e1⟩
            subst hg6
            obtain ⟨g, c2, m, ys, hv, he, _⟩ := HW1.out.el i hiv
            have k1 := World.ownsRow.cells HW1.out.wd (g := g6) rfl i _ (List.getElem?_eq_getElem hiv)
            rw [Addr.add_lit, Nat.zero_add, hv] at k1
            have HVv := Hid.of hv
            have hm : m ≤ 9223372036854775807 := by
              rw [hv] at he
              rcases he.2 with ⟨_, h0⟩ | ⟨g', cap, cur, e, _, _, h1, h2, _⟩
              · omega
              · simp only [maxLen] at h2
                omega
            clear he hv
            go_wp2
            go_loopw [16] (fun v16 wr => ∃ j : Nat, v16 = .int .i64 (j : Int) ∧ j ≤ m ∧ Hid (WJ w wr w4.heap.size D n a5 c5 (some ⟨g6, 0, none⟩) c6 vs s)) (fun v16 _ => m - (intOf v16).toNat)
            case atStart => exact ⟨0, rfl, by omega, HW1⟩
            case round =>
              clear k1
              obtain ⟨j, rfl, hj, hQ⟩ := hrel
              have HW2 := Hid.of hQ.out
              clear hQ HW1
              have k1 := World.ownsRow.cells HW2.out.wd (g := g6) rfl i _ (List.getElem?_eq_getElem hiv)
              rw [Addr.add_lit, Nat.zero_add, HVv.out] at k1
              have HK1 := Hid.of k1
              by_cases hjm : j < m
              · have hjz : (j : Int) < (m : Int) := by omega
                obtain ⟨g', c3, m', ys, hv, he, _, hu8⟩ := HW2.out.el i hiv
                rw [HVv.out] at hv he
                injection hv with e1 e2 e3
                injection e1 with e1
                injection e1 with e1
                subst e1
                subst e2
                have hyl : j < ys.length := by have := he.1; omega
                have k2 := World.ownsRow.cells he (g := g) rfl j _ (List.getElem?_eq_getElem hyl)
                rw [Addr.add_lit, Nat.zero_add] at k2
                have ht := World.ownsRow.frozenAt he j
                obtain ⟨x, hx⟩ := hu8 _ (List.getElem_mem hyl)
                rw [hx] at k2
                have HK2 := Hid.of k2
                have HT := Hid.of ht
                have HGne := Hid.of (show g ≠ g6 from fun e => by
                  rcases own_off' he HW2.out.wd (by decide) with q | q
                  · cases q
                  · exact q (by rw [e]; rfl))
                clear e3 he hx k2 ht hu8
                go_wp2
                refine wp_region_held_drew (S := fun w2 => w2.cell? ⟨g6, i, none⟩ = some (.slice (some ⟨g, 0, none⟩) m c2)) (by kernel_rfl) (show wr.drew.cell? ⟨g6, i, none⟩ = some (.slice (some ⟨g, 0, none⟩) m c2) from (Up.refl wr).drew.cell HK1.out) (fun hS => ?_)
                refine wpAnyH_take (i := 0) (oi := { dst := some 153, op := Go.Op.move (Go.Operand.tmp 8), type := 32, pos := "outright.go:602", after := #[], guard := none }) (v := .slice (some ⟨g6, 0, none⟩) n c6) rfl (by kernel_rfl) (by kernel_rfl) (by kernel_rfl) (fun _ _ _ h => h) (Or.inl ⟨by kernel_rfl, ?_⟩) hS ?_
                · intro w5 hSw
                  clear hSw hS
                  go_simp
                simp only [Act.put, List.setIfInBounds_toArray, List.set_cons_zero, List.set_cons_succ]
                refine wpAnyH_take (i := 1) (oi := { dst := some 154, op := Go.Op.move (Go.Operand.tmp 15), type := 3, pos := "outright.go:602", after := #[], guard := none }) (v := .int .i64 (i : Int)) rfl (by kernel_rfl) (by kernel_rfl) (by kernel_rfl) (fun _ _ _ h => h) (Or.inl ⟨by kernel_rfl, ?_⟩) hS ?_
                · intro w5 hSw
                  clear hSw hS
                  go_simp
                simp only [Act.put, List.setIfInBounds_toArray, List.set_cons_zero, List.set_cons_succ]
                refine wpAnyH_take (i := 2) (oi := { dst := some 155, op := Go.Op.indexAddr 32 (Go.Operand.tmp 153) (Go.Operand.tmp 154), type := 0, pos := "outright.go:602", after := #[{ on := 0, ground := Go.Ground.data }, { on := 1, ground := Go.Ground.data }], guard := none }) (v := .pointer (some ⟨g6, i, none⟩)) rfl (by kernel_rfl) (by kernel_rfl) (by kernel_rfl) (fun _ _ _ h => h) (Or.inl ⟨by kernel_rfl, ?_⟩) hS ?_
                · intro w5 hSw
                  clear hSw hS
                  go_simp
                simp only [Act.put, List.setIfInBounds_toArray, List.set_cons_zero, List.set_cons_succ]
                refine wpAnyH_take (i := 3) (oi := { dst := some 156, op := Go.Op.load 27 (Go.Operand.tmp 155), type := 27, pos := "outright.go:602", after := #[{ on := 2, ground := Go.Ground.data }], guard := none }) (v := .slice (some ⟨g, 0, none⟩) m c2) rfl (by kernel_rfl) (by kernel_rfl) (by kernel_rfl) (fun _ _ _ h => h) (Or.inl ⟨by kernel_rfl, ?_⟩) hS ?_
                · intro w5 hSw
                  have h0 := hSw
                  clear hSw hS
                  go_simp
                simp only [Act.put, List.setIfInBounds_toArray, List.set_cons_zero, List.set_cons_succ]
                refine wpAnyH_take (i := 4) (oi := { dst := some 157, op := Go.Op.move (Go.Operand.tmp 16), type := 3, pos := "outright.go:602", after := #[], guard := none }) (v := .int .i64 (j : Int)) rfl (by kernel_rfl) (by kernel_rfl) (by kernel_rfl) (fun _ _ _ h => h) (Or.inl ⟨by kernel_rfl, ?_⟩) hS ?_
                · intro w5 hSw
                  clear hSw hS
                  go_simp
                simp only [Act.put, List.setIfInBounds_toArray, List.set_cons_zero, List.set_cons_succ]
                refine wpAnyH_take (i := 5) (oi := { dst := some 158, op := Go.Op.move (Go.Operand.tmp 8), type := 32, pos := "outright.go:602", after := #[], guard := none }) (v := .slice (some ⟨g6, 0, none⟩) n c6) rfl (by kernel_rfl) (by kernel_rfl) (by kernel_rfl) (fun _ _ _ h => h) (Or.inl ⟨by kernel_rfl, ?_⟩) hS ?_
                · intro w5 hSw
                  clear hSw hS
                  go_simp
                simp only [Act.put, List.setIfInBounds_toArray, List.set_cons_zero, List.set_cons_succ]
                refine wpAnyH_take (i := 6) (oi := { dst := some 159, op := Go.Op.move (Go.Operand.tmp 15), type := 3, pos := "outright.go:602", after := #[], guard := none }) (v := .int .i64 (i : Int)) rfl (by kernel_rfl) (by kernel_rfl) (by kernel_rfl) (fun _ _ _ h => h) (Or.inl ⟨by kernel_rfl, ?_⟩) hS ?_
                · intro w5 hSw
                  clear hSw hS
                  go_simp
                simp only [Act.put, List.setIfInBounds_toArray, List.set_cons_zero, List.set_cons_succ]
                refine wpAnyH_take (i := 7) (oi := { dst := some 160, op := Go.Op.indexAddr 32 (Go.Operand.tmp 158) (Go.Operand.tmp 159), type := 0, pos := "outright.go:602", after := #[{ on := 5, ground := Go.Ground.data }, { on := 6, ground := Go.Ground.data }], guard := none }) (v := .pointer (some ⟨g6, i, none⟩)) rfl (by kernel_rfl) (by kernel_rfl) (by kernel_rfl) (fun _ _ _ h => h) (Or.inl ⟨by kernel_rfl, ?_⟩) hS ?_
                · intro w5 hSw
                  clear hSw hS
                  go_simp
                simp only [Act.put, List.setIfInBounds_toArray, List.set_cons_zero, List.set_cons_succ]
                refine wpAnyH_take (i := 8) (oi := { dst := some 161, op := Go.Op.load 27 (Go.Operand.tmp 160), type := 27, pos := "outright.go:602", after := #[{ on := 7, ground := Go.Ground.data }], guard := none }) (v := .slice (some ⟨g, 0, none⟩) m c2) rfl (by kernel_rfl) (by kernel_rfl) (by kernel_rfl) (fun _ _ _ h => h) (Or.inl ⟨by kernel_rfl, ?_⟩) hS ?_
                · intro w5 hSw
                  have h0 := hSw
                  clear hSw hS
                  go_simp
                simp only [Act.put, List.setIfInBounds_toArray, List.set_cons_zero, List.set_cons_succ]
                refine wpAnyH_take (i := 9) (oi := { dst := some 162, op := Go.Op.move (Go.Operand.tmp 16), type := 3, pos := "outright.go:602", after := #[], guard := none }) (v := .int .i64 (j : Int)) rfl (by kernel_rfl) (by kernel_rfl) (by kernel_rfl) (fun _ _ _ h => h) (Or.inl ⟨by kernel_rfl, ?_⟩) hS ?_
                · intro w5 hSw
                  clear hSw hS
                  go_simp
                simp only [Act.put, List.setIfInBounds_toArray, List.set_cons_zero, List.set_cons_succ]
                refine wpAnyH_take (i := 10) (oi := { dst := some 163, op := Go.Op.indexAddr 27 (Go.Operand.tmp 161) (Go.Operand.tmp 162), type := 0, pos := "outright.go:602", after := #[{ on := 8, ground := Go.Ground.data }, { on := 9, ground := Go.Ground.data }], guard := none }) (v := .pointer (some ⟨g, j, none⟩)) rfl (by kernel_rfl) (by kernel_rfl) (by kernel_rfl) (fun _ _ _ h => h) (Or.inl ⟨by kernel_rfl, ?_⟩) hS ?_
                · intro w5 hSw
                  clear hSw hS
                  go_simp
                simp only [Act.put, List.setIfInBounds_toArray, List.set_cons_zero, List.set_cons_succ]
                refine wpAnyH_ready (rs := [11]) (by kernel_rfl) (by simp) ?_
                refine AllReadyH.cons (o := { dst := some 164, op := Go.Op.load 5 (Go.Operand.tmp 163), type := 5, pos := "outright.go:602", after := #[{ on := 10, ground := Go.Ground.data }], guard := none }) rfl (fun K hK => ?_) AllReadyH.nil
                rw [if_pos (by kernel_rfl)]
                have k2 := (Up.refl wr).drew.cell HK2.out
                go_simp
                refine hK.out _ _ hS (fun hS => ?_)
                clear hK K k2
                refine wpAnyH_take (i := 12) (oi := { dst := some 165, op := Go.Op.binOp Go.BinOp.add 5 (Go.Operand.tmp 164) (Go.Operand.const (Go.Value.int Go.IntKind.u8 1)) 5, type := 5, pos := "outright.go:602", after := #[{ on := 11, ground := Go.Ground.data }], guard := none }) (v := .int .u8 (IntKind.u8.wrap (x + 1))) rfl (by kernel_rfl) (by kernel_rfl) (by kernel_rfl) (fun _ _ _ h => h) (Or.inl ⟨by kernel_rfl, ?_⟩) hS ?_
                · intro w5 hSw
                  clear hSw hS
                  go_simp
                simp only [Act.put, List.setIfInBounds_toArray, List.set_cons_zero, List.set_cons_succ]
                refine wpAnyH_take (i := 13) (oi := { dst := some 166, op := Go.Op.indexAddr 27 (Go.Operand.tmp 156) (Go.Operand.tmp 157), type := 0, pos := "outright.go:602", after := #[{ on := 3, ground := Go.Ground.data }, { on := 4, ground := Go.Ground.data }, { on := 0, ground := Go.Ground.phase }, { on := 1, ground := Go.Ground.phase }, { on := 2, ground := Go.Ground.phase }, { on := 3, ground := Go.Ground.phase }, { on := 4, ground := Go.Ground.phase }, { on := 5, ground := Go.Ground.phase }, { on := 6, ground := Go.Ground.phase }, { on := 7, ground := Go.Ground.phase }, { on := 8, ground := Go.Ground.phase }, { on := 9, ground := Go.Ground.phase }, { on := 10, ground := Go.Ground.phase }, { on := 11, ground := Go.Ground.phase }, { on := 12, ground := Go.Ground.phase }], guard := none }) (v := .pointer (some ⟨g, j, none⟩)) rfl (by kernel_rfl) (by kernel_rfl) (by kernel_rfl) (fun _ _ _ h => h) (Or.inl ⟨by kernel_rfl, ?_⟩) hS ?_
                · intro w5 hSw
                  clear hSw hS
                  go_simp
                simp only [Act.put, List.setIfInBounds_toArray, List.set_cons_zero, List.set_cons_succ]
                refine wpAnyH_ready (rs := [14]) (by kernel_rfl) (by simp) ?_
                refine AllReadyH.cons (o := { dst := none, op := Go.Op.store 5 (Go.Operand.tmp 166) (Go.Operand.tmp 165), type := 0, pos := "outright.go:602", after := #[{ on := 13, ground := Go.Ground.data }, { on := 12, ground := Go.Ground.data }, { on := 0, ground := Go.Ground.phase }, { on := 1, ground := Go.Ground.phase }, { on := 2, ground := Go.Ground.phase }, { on := 3, ground := Go.Ground.phase }, { on := 4, ground := Go.Ground.phase }, { on := 5, ground := Go.Ground.phase }, { on := 6, ground := Go.Ground.phase }, { on := 7, ground := Go.Ground.phase }, { on := 8, ground := Go.Ground.phase }, { on := 9, ground := Go.Ground.phase }, { on := 10, ground := Go.Ground.phase }, { on := 11, ground := Go.Ground.phase }, { on := 12, ground := Go.Ground.phase }], guard := none }) rfl (fun K hK => ?_) AllReadyH.nil
                rw [if_pos (by kernel_rfl)]
                have k2 := (Up.refl wr).drew.cell HK2.out
                have ht : wr.frozen? ⟨g, j, none⟩ = false := HT.out
                have htd : wr.drew.frozen? ⟨g, j, none⟩ = false := ht
                go_simp
                refine hK.out _ _ (by
                  show World.cell? (World.setCell wr _ _) _ = _
                  rw [World.cell?_setCell_other _ _ _ _ (fun e => HGne.out (by injection e))]
                  exact HK1.out) (fun hS => ?_)
                clear hK K k2 ht htd
                have HSt := Hid.of (fun y => (HW2.out.byte hiv HVv.out j y).upTo (Up.refl _).drew)
                clear hS
                refine wpAnyH_done (by kernel_rfl) ?_ _
                go_wp2
                go_roundw
                all_goals first
                  | (simp [intOf]; omega)
                  | exact ⟨j + 1, by go_num, by omega, Hid.of (HSt.out _)⟩
              · have hje : m = j := by omega
                subst hje
                have hjz : ¬ (m : Int) < (m : Int) := by omega
                obtain ⟨xs, hxs⟩ := HW2.out.gv
                obtain ⟨g5, hg5⟩ : ∃ g5, a5 = some ⟨g5, 0, none⟩ := by
                  rcases hxs.2 with ⟨_, h0⟩ | ⟨g, cap, cur, e, _⟩
                  · omega
                  · injection e with e1 _ _
                    exact ⟨g, e1⟩
                subst hg5
                have hxl : i * 2 < xs.length := by have := hxs.1; omega
                have k2 := World.ownsRow.cells hxs (g := g5) rfl (i * 2) _ (List.getElem?_eq_getElem hxl)
                rw [Addr.add_lit, Nat.zero_add] at k2
                have ht := World.ownsRow.frozenAt hxs (i * 2)
                obtain ⟨u0, hu0⟩ : ∃ u0, xs[i * 2] = u0 := ⟨_, rfl⟩
                rw [hu0] at k2
                have HSt := Hid.of (HW2.out.name (i * 2) (.string ⟨#[35]⟩))
                clear hxs hu0
                go_wp2
                go_roundw
                all_goals first
                  | exact ⟨i + 1, by go_num, by omega, HSt⟩
                  | (simp [intOf]; omega)
          · have hie : n = i := by omega
            subst hie
            have hz : ¬ (n : Int) < (n : Int) := by omega
            have HB := Hid.of HW1.out.bk
            clear HW1
            have HUs := Hid.of (Used_gen wr HB.out.ok HLd.out.2.1)
            go_wp2_with fail
            refine HUs.out.mono ?_
            rintro e w20 ⟨rfl, h20⟩
            have HB0 := Hid.of (show BK w w20 D 0 s by rw [h20]; exact HB.out)
            rw [HLd.out.2.2.2.2.1]
            clear h20 HUs HB
            dsimp only
            have HPe := Pending_gen w20 HB0.out.ok
            rw [HLd.out.2.2.1] at HPe
            have HPe2 := Hid.of HPe
            clear HPe
            go_wp2_with fail
            refine HPe2.out.mono ?_
            rintro e w21 ⟨rfl, u21⟩
            have HB1 := Hid.of (HB0.out.upTo u21)
            clear u21 HPe2 HB0
            dsimp only
            have HAc := Acts_gen w21 HB1.out.ok
            rw [HLd.out.2.2.2.1] at HAc
            have HAc2 := Hid.of HAc
            clear HAc
            go_wp2_with fail
            refine HAc2.out.mono ?_
            rintro e w22 ⟨rfl, h22⟩
            have HB2 := Hid.of (show BK w w22 D 0 s by rw [h22]; exact HB1.out)
            clear h22 HAc2 HB1
            dsimp only
            have HF2 := Hid.of (Files_gen w22 HB2.out.ok HLd.out.2.1 (by have := HLd.out.2.2.2.2.2.1; omega))
            go_wp2_with fail
            refine HF2.out.mono ?_
            rintro e w23 ⟨a23, f23, c23, rfl, o23, u23, e23⟩
            have hl23 : f23.length = n := by
              have h5 := congrArg List.length (show f23.map pr = fsOf s.nf from e23)
              rw [List.length_map, fsOf_len, HLd.out.2.2.2.2.2.1] at h5
              exact h5
            rw [hl23]
            have HB3 := Hid.of (HB2.out.upTo u23)
            clear o23 u23 e23 hl23 HF2 HB2
            dsimp only
            go_wp2
            go_loopw [17, 18, 19] (fun v17 _ _ wr => ∃ i : Nat, v17 = .int .i64 (i : Int) ∧ i ≤ n ∧ Hid (BK w wr D 0 s)) (fun v17 _ _ _ => n - (intOf v17).toNat)
            case atStart => exact ⟨0, rfl, by omega, HB3⟩
            case round =>
              clear HB3
              obtain ⟨i, rfl, hi, hQ⟩ := hrel
              have HB4 := Hid.of hQ.out
              clear hQ
              by_cases hin : i < n
              · have hz : (i : Int) < (n : Int) := by omega
                have hiL : i < ls.length := by rw [HN.out]; exact hin
                have hif : i < fs.length := by rw [HFn.out]; exact hin
                obtain ⟨b, off, rfl, k1, k2⟩ := HF.out.cells i hiL
                have hsb := HF.out.sb _ (List.getElem_mem hiL)
                obtain ⟨ad, cd, hgv, _⟩ := id hsb
                obtain ⟨f, hf, hnb⟩ := HHas.out i hif
                obtain ⟨e1, e2⟩ := pr_nth HM5.out hif hiL
                rw [e1] at hf
                rw [e2] at hnb
                rw [hgv] at k2 hsb
                obtain ⟨nm, hnm⟩ : ∃ nm, ls[i].nm = nm := ⟨_, rfl⟩
                obtain ⟨ds, hds⟩ : ∃ ds, ls[i].ds = ds := ⟨_, rfl⟩
                rw [hnm] at k1 hf
                rw [hds] at k2 hsb hnb
                obtain ⟨q, hq⟩ : ∃ q, ds.length = q := ⟨_, rfl⟩
                rw [hq] at k2 hsb
                have k1' := HB4.out.up.cell k1
                have HK02 := Hid.of (HB4.out.up.cell k2)
                have HSb0 := Hid.of (hsb.up HB4.out.up)
                have HQq := Hid.of hq
                have HRe := Hid.of (Read_yes nm f wr HB4.out.ok hf HLd.out.2.1)
                have HNb := Hid.of hnb
                clear k1 k2 hsb hgv hf hnb e1 e2 hnm hds hq
                go_wp2_with fail
                refine HRe.out.mono ?_
                rintro e w25 ⟨v25, rfl, o25, u25⟩
                rw [HNb.out] at o25
                obtain ⟨a25, c25, hv25⟩ := row_len o25
                rw [HQq.out] at hv25
                subst hv25
                have HRd := Hid.of o25
                have HB5 := Hid.of (HB4.out.upTo u25)
                have HK2 := Hid.of (u25.cell HK02.out)
                have HSb := Hid.of (HSb0.out.up u25)
                clear o25 u25 HRe HB4 HK02 HSb0 k1'
                dsimp only
                go_wp2
                refine wp_region_held_drew (S := fun w2 => Up w25 w2) (by kernel_rfl) (Up.refl _).drew (fun hS => ?_)
                refine wpAnyH_take (i := 0) (oi := { dst := some 221, op := Go.Op.move (Go.Operand.tmp 19), type := 24, pos := "outright.go:611", after := #[], guard := none }) (v := .int .i64 0) rfl (by kernel_rfl) (by kernel_rfl) (by kernel_rfl) (fun _ _ _ h => h) (Or.inl ⟨by kernel_rfl, ?_⟩) hS ?_
                · intro w5 hSw
                  clear hSw hS
                  go_simp
                simp only [Act.put, List.setIfInBounds_toArray, List.set_cons_zero, List.set_cons_succ]
                refine wpAnyH_take (i := 1) (oi := { dst := some 222, op := Go.Op.binOp Go.BinOp.neq 3 (Go.Operand.tmp 221) (Go.Operand.const (Go.Value.int Go.IntKind.i64 0)) 3, type := 4, pos := "outright.go:611", after := #[{ on := 0, ground := Go.Ground.data }], guard := none }) (v := .bool false) rfl (by kernel_rfl) (by kernel_rfl) (by kernel_rfl) (fun _ _ _ h => h) (Or.inl ⟨by kernel_rfl, ?_⟩) hS ?_
                · intro w5 hSw
                  clear hSw hS
                  go_simp
                simp only [Act.put, List.setIfInBounds_toArray, List.set_cons_zero, List.set_cons_succ]
                refine wpAnyH_take (i := 2) (oi := { dst := some 223, op := Go.Op.move (Go.Operand.tmp 222), type := 4, pos := "outright.go:611", after := #[{ on := 1, ground := Go.Ground.data }], guard := none }) (v := .bool false) rfl (by kernel_rfl) (by kernel_rfl) (by kernel_rfl) (fun _ _ _ h => h) (Or.inl ⟨by kernel_rfl, ?_⟩) hS ?_
                · intro w5 hSw
                  clear hSw hS
                  go_simp
                simp only [Act.put, List.setIfInBounds_toArray, List.set_cons_zero, List.set_cons_succ]
                refine wpAnyH_take (i := 3) (oi := { dst := some 224, op := Go.Op.move (Go.Operand.tmp 18), type := 27, pos := "outright.go:611", after := #[{ on := 2, ground := Go.Ground.guard }], guard := some (2, false) }) (v := .slice a25 q c25) rfl (by kernel_rfl) (by kernel_rfl) (by kernel_rfl) (fun _ _ _ h => h) (Or.inl ⟨by kernel_rfl, ?_⟩) hS ?_
                · intro w5 hSw
                  clear hSw hS
                  go_simp
                simp only [Act.put, List.setIfInBounds_toArray, List.set_cons_zero, List.set_cons_succ]
                refine wpAnyH_take (i := 4) (oi := { dst := some 225, op := Go.Op.convert 27 9 (Go.Operand.tmp 224), type := 9, pos := "outright.go:611", after := #[{ on := 3, ground := Go.Ground.data }, { on := 2, ground := Go.Ground.guard }], guard := some (2, false) }) (v := .string ⟨ds.toArray⟩) rfl (by kernel_rfl) (by kernel_rfl) (by kernel_rfl) (fun _ _ _ h => h) (Or.inl ⟨by kernel_rfl, ?_⟩) hS ?_
                · intro w5 hSw
                  have h0 := conv_sb2 (HRd.out.sb.up hSw)
                  clear hSw hS
                  go_simp
                simp only [Act.put, List.setIfInBounds_toArray, List.set_cons_zero, List.set_cons_succ]
                refine wpAnyH_take (i := 5) (oi := { dst := some 226, op := Go.Op.move (Go.Operand.tmp 1), type := 22, pos := "outright.go:611", after := #[{ on := 2, ground := Go.Ground.guard }], guard := some (2, false) }) (v := .slice (some ⟨b, off, none⟩) n c) rfl (by kernel_rfl) (by kernel_rfl) (by kernel_rfl) (fun _ _ _ h => h) (Or.inl ⟨by kernel_rfl, ?_⟩) hS ?_
                · intro w5 hSw
                  clear hSw hS
                  go_simp
                simp only [Act.put, List.setIfInBounds_toArray, List.set_cons_zero, List.set_cons_succ]
                refine wpAnyH_take (i := 6) (oi := { dst := some 227, op := Go.Op.move (Go.Operand.tmp 17), type := 3, pos := "outright.go:611", after := #[{ on := 2, ground := Go.Ground.guard }], guard := some (2, false) }) (v := .int .i64 (i : Int)) rfl (by kernel_rfl) (by kernel_rfl) (by kernel_rfl) (fun _ _ _ h => h) (Or.inl ⟨by kernel_rfl, ?_⟩) hS ?_
                · intro w5 hSw
                  clear hSw hS
                  go_simp
                simp only [Act.put, List.setIfInBounds_toArray, List.set_cons_zero, List.set_cons_succ]
                refine wpAnyH_take (i := 7) (oi := { dst := some 228, op := Go.Op.indexAddr 22 (Go.Operand.tmp 226) (Go.Operand.tmp 227), type := 0, pos := "outright.go:611", after := #[{ on := 5, ground := Go.Ground.data }, { on := 6, ground := Go.Ground.data }, { on := 2, ground := Go.Ground.guard }], guard := some (2, false) }) (v := .pointer (some ⟨b, off + i * 2, none⟩)) rfl (by kernel_rfl) (by kernel_rfl) (by kernel_rfl) (fun _ _ _ h => h) (Or.inl ⟨by kernel_rfl, ?_⟩) hS ?_
                · intro w5 hSw
                  clear hSw hS
                  exact exec_idxLF i hin rfl rfl rfl
                simp only [Act.put, List.setIfInBounds_toArray, List.set_cons_zero, List.set_cons_succ]
                refine wpAnyH_take (i := 8) (oi := { dst := some 229, op := Go.Op.fieldAddr 36 (Go.Operand.tmp 228) 1, type := 0, pos := "outright.go:611", after := #[{ on := 7, ground := Go.Ground.data }, { on := 2, ground := Go.Ground.guard }], guard := some (2, false) }) (v := .pointer (some ⟨b, off + i * 2 + 1, none⟩)) rfl (by kernel_rfl) (by kernel_rfl) (by kernel_rfl) (fun _ _ _ h => h) (Or.inl ⟨by kernel_rfl, ?_⟩) hS ?_
                · intro w5 hSw
                  clear hSw hS
                  go_simp
                simp only [Act.put, List.setIfInBounds_toArray, List.set_cons_zero, List.set_cons_succ]
                refine wpAnyH_take (i := 9) (oi := { dst := some 230, op := Go.Op.load 27 (Go.Operand.tmp 229), type := 27, pos := "outright.go:611", after := #[{ on := 8, ground := Go.Ground.data }, { on := 2, ground := Go.Ground.guard }], guard := some (2, false) }) (v := .slice ad q cd) rfl (by kernel_rfl) (by kernel_rfl) (by kernel_rfl) (fun _ _ _ h => h) (Or.inl ⟨by kernel_rfl, ?_⟩) hS ?_
                · intro w5 hSw
                  have h0 := hSw.cell HK2.out
                  clear hSw hS
                  go_simp
                simp only [Act.put, List.setIfInBounds_toArray, List.set_cons_zero, List.set_cons_succ]
                refine wpAnyH_take (i := 10) (oi := { dst := some 231, op := Go.Op.convert 27 9 (Go.Operand.tmp 230), type := 9, pos := "outright.go:611", after := #[{ on := 9, ground := Go.Ground.data }, { on := 2, ground := Go.Ground.guard }], guard := some (2, false) }) (v := .string ⟨ds.toArray⟩) rfl (by kernel_rfl) (by kernel_rfl) (by kernel_rfl) (fun _ _ _ h => h) (Or.inl ⟨by kernel_rfl, ?_⟩) hS ?_
                · intro w5 hSw
                  have h0 := conv_sb2 (HSb.out.up hSw)
                  clear hSw hS
                  go_simp
                simp only [Act.put, List.setIfInBounds_toArray, List.set_cons_zero, List.set_cons_succ]
                refine wpAnyH_take (i := 11) (oi := { dst := some 232, op := Go.Op.binOp Go.BinOp.neq 9 (Go.Operand.tmp 225) (Go.Operand.tmp 231) 9, type := 4, pos := "outright.go:611", after := #[{ on := 4, ground := Go.Ground.data }, { on := 10, ground := Go.Ground.data }, { on := 2, ground := Go.Ground.guard }], guard := some (2, false) }) (v := .bool false) rfl (by kernel_rfl) (by kernel_rfl) (by kernel_rfl) (fun _ _ _ h => h) (Or.inl ⟨by kernel_rfl, ?_⟩) hS ?_
                · intro w5 hSw
                  clear hSw hS
                  go_simp
                simp only [Act.put, List.setIfInBounds_toArray, List.set_cons_zero, List.set_cons_succ]
                refine wpAnyH_take (i := 12) (oi := { dst := some 233, op := Go.Op.pick (Go.Operand.tmp 223) (Go.Operand.const (Go.Value.bool true)) (Go.Operand.tmp 232), type := 4, pos := "outright.go:611", after := #[{ on := 2, ground := Go.Ground.data }, { on := 11, ground := Go.Ground.data }], guard := none }) (v := .bool false) rfl (by kernel_rfl) (by kernel_rfl) (by kernel_rfl) (fun _ _ _ h => h) (Or.inl ⟨by kernel_rfl, ?_⟩) hS ?_
                · intro w5 hSw
                  clear hSw hS
                  go_simp
                simp only [Act.put, List.setIfInBounds_toArray, List.set_cons_zero, List.set_cons_succ]
                have HSZ := Hid.of hS
                clear hS
                refine wpAnyH_done (by kernel_rfl) ?_ _
                go_wp2
                go_roundw
                all_goals first
                  | exact ⟨i + 1, by go_num, by omega, Hid.of (HB5.out.upTo HSZ.out)⟩
                  | (simp [intOf]; omega)
              · have hie : n = i := by omega
                subst hie
                have hz : ¬ (n : Int) < (n : Int) := by omega
                go_wp2
                go_ret
                exact ⟨rfl, HB4.out.up⟩
end Go.Proofs.YtaibjeehjhlicaaDoor
