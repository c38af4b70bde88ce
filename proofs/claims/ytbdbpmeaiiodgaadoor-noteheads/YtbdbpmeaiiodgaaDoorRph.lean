import Derived.Test.YtbdbpmeaiiodgaaDoorRfh
import Derived.Test.YtbdbpmeaiiodgaaDoorHy
namespace Go.Proofs.YtbdbpmeaiiodgaaDoor
open Go.RowKit Go.Shelf TextNum
/-- the three lines, where they lie -/
structure LW (w : World) (b0 b1 : Nat) (xs : List (List UInt8)) (W : World) : Prop where
  c : ∀ j, j < 3 → W.cell? ⟨b1, j, none⟩ = some (.string ⟨(xs.getD j []).toArray⟩)
  fr : ∀ j, W.frozen? ⟨b1, j, none⟩ = false
  t : W.there b0 0 34
  u : Up w W
  b : b0 < W.heap.size ∧ b1 < W.heap.size
theorem LW.put {w W : World} {b0 b1 : Nat} {xs : List (List UInt8)} (h : LW w b0 b1 xs W) (hb : w.heap.size ≤ b1) (hk : xs.length < 3) (x : List UInt8) : LW w b0 b1 (xs ++ [x]) (W.setCell ⟨b1, xs.length, none⟩ (.string ⟨x.toArray⟩)) := by
  refine ⟨fun j hj => ?_, fun j => by rw [World.frozen?_setCell]; exact h.fr j, ?_, Below.setCell (p := ⟨b1, xs.length, none⟩) h.u hb _, ?_⟩
  · by_cases e : j = xs.length
    · subst e
      rw [World.cell?_setCell_same W _ _ (h.c _ hk)]
      simp [List.getD]
    · have hne : (⟨b1, xs.length, none⟩ : Addr) ≠ ⟨b1, j, none⟩ := by intro e2; injection e2 with _ e2 _; exact e e2.symm
      have h5 : (W.setCell ⟨b1, xs.length, none⟩ (.string ⟨x.toArray⟩)).cell? ⟨b1, j, none⟩ = W.cell? ⟨b1, j, none⟩ := by
        first
          | exact World.cell?_setCell_other W _ _ _ hne
          | exact World.cell?_setCell_other W _ _ hne
      rw [h5, h.c j hj]
      congr 3
      simp only [List.getD_eq_getElem?_getD]
      rcases Nat.lt_or_ge j xs.length with h1 | h1
      · rw [List.getElem?_append_left h1]
      · rw [List.getElem?_eq_none (by omega), List.getElem?_eq_none (by simp; omega)]
  · exact World.there_setCells h.t b1 xs.length [Value.string ⟨x.toArray⟩]
  · have := (KeepsWalks.setCell W ⟨b1, xs.length, none⟩ (.string ⟨x.toArray⟩)).size
    exact ⟨by have := h.b.1; omega, by have := h.b.2; omega⟩
/-- the lines and the head that is made -/
structure PW (w : World) (b0 b1 b2 : Nat) (xs : List (List UInt8)) (o : ByteArray) (z : Int) (rr : List UInt8) (W : World) : Prop where
  lw : LW w b0 b1 xs W
  rg : W.rangeAt b2 0 (headC o z rr)
  th : W.there b2 0 34
  n0 : b0 ≠ b2
  n1 : b1 ≠ b2
  n2 : w.heap.size ≤ b2
theorem LW.other {w W : World} {b0 b1 b2 j : Nat} {xs : List (List UInt8)} (h : LW w b0 b1 xs W) (h1 : b1 ≠ b2) (h2 : w.heap.size ≤ b2) (v : Value) : LW w b0 b1 xs (W.setCell ⟨b2, j, none⟩ v) := by
  refine ⟨fun k hk => ?_, fun k => by rw [World.frozen?_setCell]; exact h.fr k, World.there_setCells h.t b2 j [v], Below.setCell (p := ⟨b2, j, none⟩) h.u h2 _, ?_⟩
  · rw [World.cell?_setCell_far W ⟨b2, j, none⟩ ⟨b1, k, none⟩ v (fun e => h1 e.symm)]
    exact h.c k hk
  · have := (KeepsWalks.setCell W ⟨b2, j, none⟩ v).size
    exact ⟨by have := h.b.1; omega, by have := h.b.2; omega⟩
theorem LW.up {w W W' : World} {b0 b1 : Nat} {xs : List (List UInt8)} (h : LW w b0 b1 xs W) (u : Up W W') : LW w b0 b1 xs W' :=
  ⟨fun k hk => u.cell (h.c k hk), fun k => by rw [World.frozen?_of_block (u.block b1 h.b.2)]; exact h.fr k, there_up h.t h.b.1 u, h.u.trans u, Nat.lt_of_lt_of_le h.b.1 u.size, Nat.lt_of_lt_of_le h.b.2 u.size⟩
theorem PW.up {w W W' : World} {b0 b1 b2 : Nat} {xs : List (List UInt8)} {o : ByteArray} {z : Int} {rr : List UInt8} (h : PW w b0 b1 b2 xs o z rr W) (u : Up W W') : PW w b0 b1 b2 xs o z rr W' :=
  ⟨h.lw.up u, fun j v hv => u.cell (h.rg j v hv), there_up h.th (block_lt_of_cell (h.rg 0 _ rfl)) u, h.n0, h.n1, h.n2⟩
theorem PW.set {w W : World} {b0 b1 b2 j : Nat} {xs : List (List UInt8)} {o : ByteArray} {z z' : Int} {rr rr' : List UInt8} {v : Value} (h : PW w b0 b1 b2 xs o z rr W) (hl : rr.length = 32) (hj : j < 34) (hs : (headC o z rr).set j v = headC o z' rr') : PW w b0 b1 b2 xs o z' rr' (W.setCell ⟨b2, j, none⟩ v) := by
  refine ⟨h.lw.other h.n1 h.n2 v, fun k u hu => ?_, World.there_setCells h.th b2 j [v], h.n0, h.n1, h.n2⟩
  rw [← hs] at hu
  have hlen := headC_len (o := o) (n := z) hl
  rw [Nat.zero_add]
  by_cases e : k = j
  · subst e
    rw [List.getElem?_set_self (by omega)] at hu
    have h0 := h.rg k ((headC o z rr)[k]'(by omega)) (List.getElem?_eq_getElem _)
    rw [Nat.zero_add] at h0
    rw [World.cell?_setCell_same W _ _ h0]
    exact hu
  · rw [List.getElem?_set_ne (fun h => e h.symm)] at hu
    have h0 := h.rg k u hu
    rw [Nat.zero_add] at h0
    have hne : (⟨b2, j, none⟩ : Addr) ≠ ⟨b2, k, none⟩ := by intro e2; injection e2 with _ e2 _; exact e e2.symm
    have h5 : (W.setCell ⟨b2, j, none⟩ v).cell? ⟨b2, k, none⟩ = W.cell? ⟨b2, k, none⟩ := by
      first
        | exact World.cell?_setCell_other W _ _ _ hne
        | exact World.cell?_setCell_other W _ _ hne
    rw [h5, h0]
theorem set_size (o : ByteArray) (z z' : Int) (rr : List UInt8) : (headC o z rr).set 1 (.int .i64 z') = headC o z' rr := rfl
/-- bytes laid down one behind the other -/
def fil (b : List UInt8) (j : Nat) : List UInt8 := b.take j ++ List.replicate (32 - j) 0
theorem fil_len {b : List UInt8} {j : Nat} (h : j ≤ b.length) (h2 : j ≤ 32) : (fil b j).length = 32 := by simp [fil]; omega
theorem set_byte (o : ByteArray) (z : Int) (b : List UInt8) {j : Nat} (h : j < b.length) (h2 : j < 32) : (headC o z (fil b j)).set (2 + j) (.int .u8 (b[j].toNat : Int)) = headC o z (fil b (j + 1)) := by
  rw [headC, Nat.add_comm, List.set_cons_succ, List.set_cons_succ, headC]
  congr 2
  have e1 : fil b (j + 1) = (fil b j).set j b[j] := by
    unfold fil
    rw [List.take_succ_eq_append_getElem h, List.set_append_right _ _ (by simp; omega)]
    simp only [List.length_take, Nat.min_eq_left (Nat.le_of_lt h), Nat.sub_self]
    rw [show 32 - j = (32 - (j + 1)) + 1 by omega, List.replicate_succ, List.set_cons_zero, List.append_assoc]
    rfl
  rw [e1]
  simp [cb, List.map_set]
theorem fil_end {b : List UInt8} {j : Nat} (h : j = b.length ∨ j = 32) (h1 : j ≤ b.length) (h2 : j ≤ 32) : fil b j = pad b := by
  unfold fil pad
  rcases h with h | h
  · rw [List.take_of_length_le (by omega), List.take_append, List.take_of_length_le (by omega)]
    congr 1
    rw [List.take_replicate]
    congr 1
    omega
  · subst h
    rw [List.take_append_of_le_length h1]
    simp
theorem infoRH : (Tryd.prog.info? 77).map (·.size) = some 34 := by kernel_rfl
set_option maxRecDepth 100000 in
set_option maxHeartbeats 8000000 in
theorem RParseHead_walk (s : ByteArray) (w : World) (hB : BTab w) :
    Calls Tryd.prog 41 #[.string s] w fun e w' => e = .returned (.tuple #[.agg (hdC (rdH s.data.toList)).toArray, .int .i64 (hdE (rdH s.data.toList))]) ∧ Up w w' := by
  have HSZ := Hid.of (Go.Lib.size_eq s)
  go_enter Tryd.func41, Tryd.ntmps41
  by_cases hlong : 1024 < s.size
  · have hlong' : (1024 : Int) < (s.size : Int) := by omega
    have HR := Hid.of (show rdH s.data.toList = none by
      cases h : rdH s.data.toList with
      | none => rfl
      | some x => have := rdH_short h; rw [← HSZ.out] at this; omega)
    go_wp2_with (with_reducible show wpList _ _ _ ({ dst := _, op := Op.store 77 (.tmp 2) _, type := _, pos := _, after := _, guard := _ } :: _) _ _; refine Shut.out ?_)
    show wpList _ _ _ _ _ _
    change wpList _ _ _ _ _ (w.alloc (Obj.cells zeroC.toArray 77))
    have t0 := there_new w zeroC 77
    have u0 := (Up.refl w).alloc (Obj.cells zeroC.toArray 77)
    generalize w.alloc (Obj.cells zeroC.toArray 77) = W0 at *
    refine wpList_store_mid rfl _ _ _ rfl w.heap.size 0 zeroC.toArray rfl rfl (by rw [show zeroC.toArray.size = 34 from rfl]; exact t0) (by rw [show zeroC.toArray.size = 34 from rfl]; exact infoRH) (all_oneCell_toArray (headC_one _ _ _)) ?_
    simp only [Act.put]
    have HRG := Hid.of (show (World.setCells W0 w.heap.size 0 zeroC.toArray.toList).rangeAt w.heap.size 0 zeroC from World.rangeAt_setCells_same _ _ _ _ t0)
    have HUZ := Hid.of (up_setCells (Nat.le_refl _) zeroC.toArray.toList 0 u0)
    generalize World.setCells W0 w.heap.size 0 zeroC.toArray.toList = WZ at *
    go_wp2_with fail
    refine bodyPost_ret (result_cell_tmp Tryd.results41 _ _ w.heap.size zeroC _ rfl rfl HRG.out Tryd.underlying77 rfl infoRH) rfl ?_
    rw [HR.out]
    exact ⟨rfl, HUZ.out⟩
  · have hlong' : ¬ (1024 : Int) < (s.size : Int) := by omega
    have hsl : s.size ≤ 1024 := by omega
    clear hlong
    go_wp2_with fail
    change Code.wp _ _ _ _ ((w.alloc (Obj.cells zeroC.toArray 77)).alloc (Obj.cells #[Value.string ⟨#[]⟩, Value.string ⟨#[]⟩, Value.string ⟨#[]⟩] 107))
    have hLW : LW w w.heap.size (w.heap.size + 1) [] ((w.alloc (Obj.cells zeroC.toArray 77)).alloc (Obj.cells #[Value.string ⟨#[]⟩, Value.string ⟨#[]⟩, Value.string ⟨#[]⟩] 107)) := by
      have hz : (w.alloc (Obj.cells zeroC.toArray 77)).heap.size = w.heap.size + 1 := by rw [World.alloc]; simp
      refine ⟨fun j hj => ?_, fun j => ?_, ?_, ((Up.refl w).alloc _).alloc _, ?_⟩
      · rw [World.cell?_alloc_at _ _ _ _ hz.symm]
        rcases (by omega : j = 0 ∨ j = 1 ∨ j = 2) with rfl | rfl | rfl <;> rfl
      · rw [← hz]; exact World.frozen?_alloc_new _ _ _ _
      · exact there_up (there_new w zeroC 77) (by rw [hz]; omega) ((Up.refl _).alloc _)
      · have : ((w.alloc (Obj.cells zeroC.toArray 77)).alloc (Obj.cells #[Value.string ⟨#[]⟩, Value.string ⟨#[]⟩, Value.string ⟨#[]⟩] 107)).heap.size = w.heap.size + 2 := by rw [World.size_alloc, World.size_alloc]
        omega
    have HLW := Hid.of hLW
    clear hLW
    generalize (w.alloc (Obj.cells zeroC.toArray 77)).alloc (Obj.cells #[Value.string ⟨#[]⟩, Value.string ⟨#[]⟩, Value.string ⟨#[]⟩] 107) = W1 at *
    go_loopw [5, 6, 7] (fun v5 v6 v7 wr => ∃ (xs : List (List UInt8)) (f i : Nat), v5 = .int .i64 (xs.length : Int) ∧ v6 = .int .i64 (f : Int) ∧ v7 = .int .i64 (i : Int) ∧ Hid (LI s.data.toList xs f i ∧ LW w w.heap.size (w.heap.size + 1) xs wr))
      (fun _ _ v7 _ => s.size - (intOf v7).toNat)
    case atStart => exact ⟨[], 0, 0, rfl, rfl, rfl, LI.zero _, HLW.out⟩
    case round =>
      obtain ⟨xs, f, i, rfl, rfl, rfl, hI⟩ := hrel
      by_cases hgo : i < s.size ∧ xs.length < 3
      · have hi := hgo.1
        have hi' : (i : Int) < (s.size : Int) := by omega
        have hk' : (xs.length : Int) < 3 := by omega
        have hfi : f ≤ i := hI.out.1.fi
        have hil : i < s.data.toList.length := by rw [← HSZ.out]; exact hi
        have hge : s[i] = s.data.toList[i] := sget' s i hi
        by_cases hc : s.data.toList[i] = 10
        · have q1 : ((s[i].toNat : Int) == 10) = true := by rw [hge, hc]; rfl
          have hx : s.extract f i = ⟨((s.data.toList.drop f).take (i - f)).toArray⟩ := by rw [Go.Lib.extract_eq]
          have HN := Hid.of (And.intro (hI.out.1.hit hgo.2 hil hc) (hI.out.2.put (by omega) hgo.2 ((s.data.toList.drop f).take (i - f))))
          have cc := hI.out.2.c xs.length hgo.2
          have cf := hI.out.2.fr xs.length
          have hkn : xs.length < 3 := hgo.2
          clear hgo hI hge hc
          generalize (s.data.toList.drop f).take (i - f) = y at *
          generalize hkk : xs.length = kk at *
          have HK := Hid.of hkk
          clear hkk
          go_wp2
          refine ⟨⟨xs ++ [y], i + 1, i + 1, by simp [HK.out], by go_num, by go_num, HN⟩, ?_⟩
          simp [intOf]
          omega
        · have q1 : ((s[i].toNat : Int) == 10) = false := by
            rw [hge]
            refine Bool.eq_false_iff.2 fun h => hc (UInt8.toNat_inj.1 ?_)
            have : (s.data.toList[i].toNat : Int) = 10 := by simpa using h
            show s.data.toList[i].toNat = 10
            omega
          have HN := Hid.of (And.intro (hI.out.1.skip hil hc) hI.out.2)
          clear hgo hI hge hc
          go_wp2
          refine ⟨⟨xs, f, i + 1, rfl, rfl, by go_num, HN⟩, ?_⟩
          simp [intOf]
          omega
      · have HE := Hid.of (show LI s.data.toList xs f i ∧ (i = s.data.toList.length ∨ xs.length = 3) from ⟨hI.out.1, by
          have h1 := hI.out.1.il
          have h2 := hI.out.1.k
          rw [← HSZ.out] at h1 ⊢
          omega⟩)
        have HW := Hid.of hI.out.2
        have hor : ¬ ((i : Int) < (s.size : Int)) ∨ ((i : Int) < (s.size : Int) ∧ ¬ (xs.length : Int) < 3) := by omega
        have c0 := HW.out.c 0 (by omega)
        have HX := Hid.of (show ((s.size : Nat) : Int) = s.size from rfl)
        clear hgo hI
        rcases hor with h1 | ⟨h1, h2⟩
        · skip
          go_wp2_with (with_reducible show wpList _ _ _ ({ dst := _, op := Op.store 77 (.tmp 8) _, type := _, pos := _, after := _, guard := _ } :: _) _ _; refine Shut.out ?_)
          show wpList _ _ _ _ _ _
          change wpList _ _ _ _ _ (wr.alloc (Obj.cells zeroC.toArray 77))
          have hPW : PW w w.heap.size (w.heap.size + 1) wr.heap.size xs ⟨(xs.getD 0 []).toArray⟩ 0 (List.replicate 32 0) ((wr.alloc (Obj.cells zeroC.toArray 77)).setCells wr.heap.size 0 (headC ⟨(xs.getD 0 []).toArray⟩ 0 (List.replicate 32 0))) := by
            have t3 := there_new wr zeroC 77
            have u3 := (Up.refl wr).alloc (Obj.cells zeroC.toArray 77)
            have hb := HW.out.b
            exact ⟨HW.out.up (up_setCells (Nat.le_refl _) _ 0 u3), World.rangeAt_setCells_same _ _ _ _ (by rw [headC_len (by simp)]; exact t3), World.there_setCells t3 _ _ _, by omega, by omega, HW.out.u.size⟩
          refine wpList_store_mid rfl _ _ _ rfl wr.heap.size 0 (headC ⟨(xs.getD 0 []).toArray⟩ 0 (List.replicate 32 0)).toArray rfl rfl (there_new wr zeroC 77) (by rw [show (headC ⟨(xs.getD 0 []).toArray⟩ 0 (List.replicate 32 0)).toArray.size = 34 from rfl]; exact infoRH) (all_oneCell_toArray (headC_one _ _ _)) ?_
          simp only [Act.put]
          have HPW := Hid.of hPW
          clear hPW
          generalize (wr.alloc (Obj.cells zeroC.toArray 77)).setCells wr.heap.size 0 (headC ⟨(xs.getD 0 []).toArray⟩ 0 (List.replicate 32 0)) = W4 at *
          generalize wr.heap.size = B2 at *
          clear HW c0
          generalize hx0 : (⟨(xs.getD 0 []).toArray⟩ : ByteArray) = o at *
          generalize hx1 : xs.getD 1 [] = l1 at *
          have HX01 := Hid.of (And.intro hx0 hx1)
          clear hx0 hx1
          go_wp2_with fail
          go_loopw [9] (fun v9 wr => ∃ i : Nat, v9 = .int .i64 (i : Int) ∧ Hid (i ≤ 16 ∧ i ≤ l1.length ∧ PW w w.heap.size (w.heap.size + 1) B2 xs o (nz 0 (l1.take i)) (List.replicate 32 0) wr)) (fun v9 _ => 16 - (intOf v9).toNat)
          case atStart => exact ⟨0, rfl, by omega, by omega, HPW.out⟩
          case round =>
            obtain ⟨j, rfl, hJ⟩ := hrel
            have c1 := hJ.out.2.2.lw.c 1 (by omega)
            rw [HX01.out.2] at c1
            have cs := hJ.out.2.2.rg 1 (.int .i64 (nz 0 (l1.take j))) rfl
            have cf := (hJ.out.2.2.th 1 (by omega)).2
            simp only [Nat.zero_add] at cs cf
            have hls : (⟨l1.toArray⟩ : ByteArray).size = l1.length := str_len l1
            by_cases hgo : j < l1.length ∧ j < 16
            · have g1 : (j : Int) < (l1.length : Int) := by omega
              have g2 : (j : Int) < 16 := by omega
              have hj1 := hgo.1
              have hzb := nz_bound (l := l1.take j) (by rw [List.length_take]; omega)
              have HZ := Hid.of (nz_snoc 0 (l1.take j) l1[j])
              have hsn : l1.take j ++ [l1[j]] = l1.take (j + 1) := by rw [List.take_succ_eq_append_getElem hj1]
              rw [hsn] at HZ
              have hbl := (l1[j]).toNat_lt
              have HPS := Hid.of (And.intro hJ.out.2.2 hgo)
              generalize hbb : (l1[j]).toNat = bb at *
              have hgb : (⟨l1.toArray⟩ : ByteArray)[j]'(by rw [hls]; exact hj1) = l1[j] := sget' _ _ _
              generalize nz 0 (l1.take j) = z at *
              have w1 : IntKind.i64.wrap (z * 10) = z * 10 := by simp only [IntKind.wrap, IntKind.signed, IntKind.bits]; simp; omega
              have w2 : IntKind.i64.wrap (z * 10 + (bb : Int)) = z * 10 + bb := by simp only [IntKind.wrap, IntKind.signed, IntKind.bits]; simp; omega
              have w3 : IntKind.i64.wrap (z * 10 + (bb : Int) - 48) = z * 10 + bb - 48 := by simp only [IntKind.wrap, IntKind.signed, IntKind.bits]; simp; omega
              clear hJ hgo
              have mixed : Tryd.prog.follows .mixedOrders = true := by kernel_rfl
              go_wp2_with fail
              have HN := Hid.of (PW.up (PW.set HPS.out.1 (by simp) (by omega) (set_size o z (z * 10 + bb - 48) (List.replicate 32 0))) ((Up.refl _).drew))
              go_region
              go_wp2
              go_roundw
              case rel => exact ⟨j + 1, by go_num, by have := HPS.out.2; omega, by have := HPS.out.2; omega, by rw [HZ.out]; exact HN.out⟩
              case measure => simp [intOf]; omega
            · have HE2 := Hid.of (show l1.take j = l1.take 16 by
                have h1 := hJ.out.1
                have h2 := hJ.out.2.1
                rcases (by omega : j = l1.length ∨ j = 16) with h | h
                · rw [List.take_of_length_le (by omega), List.take_of_length_le (by omega)]
                · rw [h])
              have HP2 := Hid.of hJ.out.2.2
              rw [HE2.out] at HP2 cs
              have c2 := HP2.out.lw.c 2 (by omega)
              have hor2 : ¬ ((j : Int) < (l1.length : Int)) ∨ ((j : Int) < (l1.length : Int) ∧ ¬ (j : Int) < 16) := by omega
              clear hJ hgo HE2 cs cf
              generalize hx2 : xs.getD 2 [] = l2 at *
              have HX2 := Hid.of hx2
              clear hx2
              generalize hnz : nz 0 (l1.take 16) = z at *
              have HNZ := Hid.of hnz
              clear hnz
              rcases hor2 with g1 | ⟨g1, g2⟩
              · skip
                go_wp2_with fail
                refine (RDecode64_walk ⟨l2.toArray⟩ wr).mono ?_
                rintro e W5 ⟨v, rfl, ov, u5⟩
                dsimp only
                have HP5 := Hid.of (HP2.out.up u5)
                have hbl5 : B2 < wr.heap.size := block_lt_of_cell (HP2.out.rg 0 _ rfl)
                clear HP2 c1 c2
                replace ov : Own W5 wr.heap.size v (b64R l2).1 := ov
                generalize hbr : (b64R l2).1 = b at *
                have HBR := Hid.of hbr
                clear hbr
                generalize (b64R l2).2 = be at *
                obtain ⟨va, vc, rfl, hvc, hvs⟩ := ov.sl
                have HV := Hid.of (show ∀ j (hj : j < b.length), ∃ g off, va = some ⟨g, off, none⟩ ∧ g ≠ B2 ∧ W5.cell? ⟨g, off + j, none⟩ = some (.int .u8 (b[j].toNat : Int)) from fun j hj => by
                  rcases hvs with h | ⟨g, off, rfl, hg, hc⟩
                  · rw [h] at hj; simp at hj
                  · refine ⟨g, off, rfl, ?_, hc j hj⟩
                    have := (World.ownsRow.lt ov g rfl).1
                    omega)
                have hbb : b.length ≤ 1099511627776 ∨ 1099511627776 < b.length := by omega
                clear hvs ov u5
                go_wp2_with fail
                go_loopw [12] (fun v12 wq => ∃ j : Nat, v12 = .int .i64 (j : Int) ∧ Hid (j ≤ 32 ∧ j ≤ b.length ∧ PW w w.heap.size (w.heap.size + 1) B2 xs o z (fil b j) wq ∧ ∀ k (hk : k < b.length), ∃ g off, va = some ⟨g, off, none⟩ ∧ g ≠ B2 ∧ wq.cell? ⟨g, off + k, none⟩ = some (.int .u8 (b[k].toNat : Int)))) (fun v12 _ => 32 - (intOf v12).toNat)
                case atStart => exact ⟨0, rfl, by omega, by omega, HP5.out, HV.out⟩
                case round =>
                  obtain ⟨k, rfl, hK⟩ := hrel
                  by_cases hgo3 : k < b.length ∧ k < 32
                  · obtain ⟨hk3, hk4⟩ := hgo3
                    have g3 : (k : Int) < (b.length : Int) := by omega
                    have g4 : (k : Int) < 32 := by omega
                    obtain ⟨g, off, rfl, hgn, hgc⟩ := hK.out.2.2.2 k hk3
                    have hfl : (fil b k).length = 32 := fil_len (by omega) (by omega)
                    have cs := hK.out.2.2.1.rg (2 + k) ((headC o z (fil b k))[2 + k]'(by rw [headC_len hfl]; omega)) (List.getElem?_eq_getElem _)
                    have cf := (hK.out.2.2.1.th (2 + k) (by omega)).2
                    simp only [Nat.zero_add] at cs cf
                    generalize (headC o z (fil b k))[2 + k]'(by rw [headC_len hfl]; omega) = old at cs
                    have HN := Hid.of (And.intro (PW.set hK.out.2.2.1 hfl (by omega) (set_byte o z b hk3 (by omega))) (show ∀ k' (hk : k' < b.length), ∃ g' off', some (⟨g, off, none⟩ : Addr) = some ⟨g', off', none⟩ ∧ g' ≠ B2 ∧ (wr.setCell ⟨B2, 2 + k, none⟩ (.int .u8 (b[k].toNat : Int))).cell? ⟨g', off' + k', none⟩ = some (.int .u8 (b[k'].toNat : Int)) from fun k' hk' => by
                      obtain ⟨g', off', e1, e2, e3⟩ := hK.out.2.2.2 k' hk'
                      refine ⟨g', off', e1, e2, ?_⟩
                      rw [World.cell?_setCell_far _ _ _ _ (fun e => e2 e.symm)]
                      exact e3))
                    clear hK hfl
                    go_wp2
                    refine ⟨⟨k + 1, by go_num, by omega, by omega, HN.out⟩, ?_⟩
                    simp [intOf]
                    omega
                  · have HP9 := Hid.of (show PW w w.heap.size (w.heap.size + 1) B2 xs o z (pad b) wr by
                      have h1 := hK.out.1
                      have h2 := hK.out.2.1
                      have h3 := fil_end (b := b) (j := k) (by omega) h2 h1
                      rw [← h3]; exact hK.out.2.2.1)
                    have HZB := Hid.of (show -300000000000000000 ≤ z ∧ z ≤ 300000000000000000 by rw [← HNZ.out]; exact nz_bound (by simp; omega))
                    have hor3 : ¬ ((k : Int) < (b.length : Int)) ∨ ((k : Int) < (b.length : Int) ∧ ¬ (k : Int) < 32) := by omega
                    clear hK hgo3 HV HP5
                    rcases hor3 with g3 | ⟨g3, g4⟩
                    · skip
                      go_wp2_with (with_reducible show wpList _ _ _ ({ dst := _, op := Op.load 77 _, type := _, pos := _, after := _, guard := _ } :: _) _ _; refine Shut.out ?_)
                      show wpList _ _ _ _ _ _
                      refine wpList_load_mid rfl _ _ rfl B2 0 rfl (headC o z (pad b)) _ HP9.out.rg Tryd.underlying77 rfl (by rw [headC_len (pad_len b)]; exact infoRH) ?_
                      simp only [Act.put, List.setIfInBounds_toArray, List.set_cons_zero, List.set_cons_succ]
                      go_wp2_with fail
                      rw [show Value.agg (headC o z (pad b)).toArray = headV o z (pad b) from rfl]
                      refine (RFormatHead_walk o z (pad b) (pad_len b) (by have := HZB.out; omega) (by have := HZB.out; omega) wr (hB.up HP9.out.lw.u)).mono ?_
                      rintro e W9 ⟨rfl, u9⟩
                      dsimp only
                      have HP10 := Hid.of (HP9.out.up u9)
                      have HT9 := Hid.of HP10.out.lw.t
                      have HU9 := Hid.of HP10.out.lw.u
                      clear u9 HP9
                      by_cases hok : fmtH o z (pad b) = (s.data.toList, 0)
                      · have HR := Hid.of (loose_none (pad_len b) hok)
                        rw [hok, show vs (s.data.toList, (0 : Int)).1 = Value.string s from rfl]
                        go_wp2_with (with_reducible show wpList _ _ _ ({ dst := _, op := Op.load 77 _, type := _, pos := _, after := _, guard := _ } :: _) _ _; refine Shut.out ?_)
                        show wpList _ _ _ _ _ _
                        refine wpList_load_mid rfl _ _ rfl B2 0 rfl (headC o z (pad b)) _ HP10.out.rg Tryd.underlying77 rfl (by rw [headC_len (pad_len b)]; exact infoRH) ?_
                        simp only [Act.put, List.setIfInBounds_toArray, List.set_cons_zero, List.set_cons_succ]
                        go_wp2_with (with_reducible show wpList _ _ _ ({ dst := _, op := Op.store 77 (.tmp 2) _, type := _, pos := _, after := _, guard := _ } :: _) _ _; refine Shut.out ?_)
                        show wpList _ _ _ _ _ _
                        refine wpList_store_mid rfl _ _ _ rfl w.heap.size 0 (headC o z (pad b)).toArray rfl rfl (by rw [show (headC o z (pad b)).toArray.size = 34 from headC_len (pad_len b)]; exact HT9.out) (by rw [show (headC o z (pad b)).toArray.size = 34 from headC_len (pad_len b)]; exact infoRH) (all_oneCell_toArray (headC_one _ _ _)) ?_
                        simp only [Act.put]
                        have HRG := Hid.of (show (World.setCells W9 w.heap.size 0 (headC o z (pad b)).toArray.toList).rangeAt w.heap.size 0 (headC o z (pad b)) from World.rangeAt_setCells_same _ _ _ _ (by rw [show (headC o z (pad b)).toArray.toList.length = 34 from headC_len (pad_len b)]; exact HT9.out))
                        have HUZ := Hid.of (up_setCells (Nat.le_refl _) (headC o z (pad b)).toArray.toList 0 HU9.out)
                        generalize World.setCells W9 w.heap.size 0 (headC o z (pad b)).toArray.toList = WZ at *
                        go_wp2_with fail
                        refine bodyPost_ret (result_cell_tmp Tryd.results41 _ _ w.heap.size (headC o z (pad b)) _ rfl rfl HRG.out Tryd.underlying77 rfl (by rw [headC_len (pad_len b)]; exact infoRH)) rfl ?_
                        rw [HR.out]
                        exact ⟨rfl, HUZ.out⟩
                      · have HR := Hid.of (show rdH s.data.toList = none by
                          cases h : rdH s.data.toList with
                          | none => rfl
                          | some x =>
                            obtain ⟨a', n', r'⟩ := x
                            have h5 := loose_some h HE.out.1 HE.out.2
                            have h6 : lhd xs = (o, z, pad b) := by
                              unfold lhd
                              rw [HX01.out.1, HX01.out.2, HX2.out, HNZ.out, HBR.out]
                            rw [h6] at h5
                            injection h5 with e1 e2
                            injection e2 with e2 e3
                            rw [e1, e2, e3] at hok
                            exact absurd (head_once h).1 hok)
                        generalize hff : fmtH o z (pad b) = ff at *
                        obtain ⟨f1, f2⟩ := ff
                        by_cases hf2 : f2 = 0
                        · subst hf2
                          have hf1 : ¬ f1 = s.data.toList := fun h => hok (by rw [h])
                          have hne : (f1 == s.toList) = false := by
                            rw [Go.Lib.toList_data]
                            simpa using hf1
                          clear hok hff hf1
                          go_wp2_with (with_reducible show wpList _ _ _ ({ dst := _, op := Op.store 77 (.tmp 2) _, type := _, pos := _, after := _, guard := _ } :: _) _ _; refine Shut.out ?_)
                          show wpList _ _ _ _ _ _
                          refine wpList_store_mid rfl _ _ _ rfl w.heap.size 0 zeroC.toArray rfl rfl (by rw [show zeroC.toArray.size = 34 from rfl]; exact HT9.out) (by rw [show zeroC.toArray.size = 34 from rfl]; exact infoRH) (all_oneCell_toArray (headC_one _ _ _)) ?_
                          simp only [Act.put]
                          have HRG := Hid.of (show (World.setCells W9 w.heap.size 0 zeroC.toArray.toList).rangeAt w.heap.size 0 zeroC from World.rangeAt_setCells_same _ _ _ _ HT9.out)
                          have HUZ := Hid.of (up_setCells (Nat.le_refl _) zeroC.toArray.toList 0 HU9.out)
                          generalize World.setCells W9 w.heap.size 0 zeroC.toArray.toList = WZ at *
                          go_wp2_with fail
                          refine bodyPost_ret (result_cell_tmp Tryd.results41 _ _ w.heap.size zeroC _ rfl rfl HRG.out Tryd.underlying77 rfl infoRH) rfl ?_
                          rw [HR.out]
                          exact ⟨rfl, HUZ.out⟩
                        · have hf2' : (f2 == 0) = false := by simpa using hf2
                          clear hok hff
                          go_wp2_with (with_reducible show wpList _ _ _ ({ dst := _, op := Op.store 77 (.tmp 2) _, type := _, pos := _, after := _, guard := _ } :: _) _ _; refine Shut.out ?_)
                          show wpList _ _ _ _ _ _
                          refine wpList_store_mid rfl _ _ _ rfl w.heap.size 0 zeroC.toArray rfl rfl (by rw [show zeroC.toArray.size = 34 from rfl]; exact HT9.out) (by rw [show zeroC.toArray.size = 34 from rfl]; exact infoRH) (all_oneCell_toArray (headC_one _ _ _)) ?_
                          simp only [Act.put]
                          have HRG := Hid.of (show (World.setCells W9 w.heap.size 0 zeroC.toArray.toList).rangeAt w.heap.size 0 zeroC from World.rangeAt_setCells_same _ _ _ _ HT9.out)
                          have HUZ := Hid.of (up_setCells (Nat.le_refl _) zeroC.toArray.toList 0 HU9.out)
                          generalize World.setCells W9 w.heap.size 0 zeroC.toArray.toList = WZ at *
                          go_wp2_with fail
                          refine bodyPost_ret (result_cell_tmp Tryd.results41 _ _ w.heap.size zeroC _ rfl rfl HRG.out Tryd.underlying77 rfl infoRH) rfl ?_
                          rw [HR.out]
                          exact ⟨rfl, HUZ.out⟩
                    · skip
                      go_wp2_with (with_reducible show wpList _ _ _ ({ dst := _, op := Op.load 77 _, type := _, pos := _, after := _, guard := _ } :: _) _ _; refine Shut.out ?_)
                      show wpList _ _ _ _ _ _
                      refine wpList_load_mid rfl _ _ rfl B2 0 rfl (headC o z (pad b)) _ HP9.out.rg Tryd.underlying77 rfl (by rw [headC_len (pad_len b)]; exact infoRH) ?_
                      simp only [Act.put, List.setIfInBounds_toArray, List.set_cons_zero, List.set_cons_succ]
                      go_wp2_with fail
                      rw [show Value.agg (headC o z (pad b)).toArray = headV o z (pad b) from rfl]
                      refine (RFormatHead_walk o z (pad b) (pad_len b) (by have := HZB.out; omega) (by have := HZB.out; omega) wr (hB.up HP9.out.lw.u)).mono ?_
                      rintro e W9 ⟨rfl, u9⟩
                      dsimp only
                      have HP10 := Hid.of (HP9.out.up u9)
                      have HT9 := Hid.of HP10.out.lw.t
                      have HU9 := Hid.of HP10.out.lw.u
                      clear u9 HP9
                      by_cases hok : fmtH o z (pad b) = (s.data.toList, 0)
                      · have HR := Hid.of (loose_none (pad_len b) hok)
                        rw [hok, show vs (s.data.toList, (0 : Int)).1 = Value.string s from rfl]
                        go_wp2_with (with_reducible show wpList _ _ _ ({ dst := _, op := Op.load 77 _, type := _, pos := _, after := _, guard := _ } :: _) _ _; refine Shut.out ?_)
                        show wpList _ _ _ _ _ _
                        refine wpList_load_mid rfl _ _ rfl B2 0 rfl (headC o z (pad b)) _ HP10.out.rg Tryd.underlying77 rfl (by rw [headC_len (pad_len b)]; exact infoRH) ?_
                        simp only [Act.put, List.setIfInBounds_toArray, List.set_cons_zero, List.set_cons_succ]
                        go_wp2_with (with_reducible show wpList _ _ _ ({ dst := _, op := Op.store 77 (.tmp 2) _, type := _, pos := _, after := _, guard := _ } :: _) _ _; refine Shut.out ?_)
                        show wpList _ _ _ _ _ _
                        refine wpList_store_mid rfl _ _ _ rfl w.heap.size 0 (headC o z (pad b)).toArray rfl rfl (by rw [show (headC o z (pad b)).toArray.size = 34 from headC_len (pad_len b)]; exact HT9.out) (by rw [show (headC o z (pad b)).toArray.size = 34 from headC_len (pad_len b)]; exact infoRH) (all_oneCell_toArray (headC_one _ _ _)) ?_
                        simp only [Act.put]
                        have HRG := Hid.of (show (World.setCells W9 w.heap.size 0 (headC o z (pad b)).toArray.toList).rangeAt w.heap.size 0 (headC o z (pad b)) from World.rangeAt_setCells_same _ _ _ _ (by rw [show (headC o z (pad b)).toArray.toList.length = 34 from headC_len (pad_len b)]; exact HT9.out))
                        have HUZ := Hid.of (up_setCells (Nat.le_refl _) (headC o z (pad b)).toArray.toList 0 HU9.out)
                        generalize World.setCells W9 w.heap.size 0 (headC o z (pad b)).toArray.toList = WZ at *
                        go_wp2_with fail
                        refine bodyPost_ret (result_cell_tmp Tryd.results41 _ _ w.heap.size (headC o z (pad b)) _ rfl rfl HRG.out Tryd.underlying77 rfl (by rw [headC_len (pad_len b)]; exact infoRH)) rfl ?_
                        rw [HR.out]
                        exact ⟨rfl, HUZ.out⟩
                      · have HR := Hid.of (show rdH s.data.toList = none by
                          cases h : rdH s.data.toList with
                          | none => rfl
                          | some x =>
                            obtain ⟨a', n', r'⟩ := x
                            have h5 := loose_some h HE.out.1 HE.out.2
                            have h6 : lhd xs = (o, z, pad b) := by
                              unfold lhd
                              rw [HX01.out.1, HX01.out.2, HX2.out, HNZ.out, HBR.out]
                            rw [h6] at h5
                            injection h5 with e1 e2
                            injection e2 with e2 e3
                            rw [e1, e2, e3] at hok
                            exact absurd (head_once h).1 hok)
                        generalize hff : fmtH o z (pad b) = ff at *
                        obtain ⟨f1, f2⟩ := ff
                        by_cases hf2 : f2 = 0
                        · subst hf2
                          have hf1 : ¬ f1 = s.data.toList := fun h => hok (by rw [h])
                          have hne : (f1 == s.toList) = false := by
                            rw [Go.Lib.toList_data]
                            simpa using hf1
                          clear hok hff hf1
                          go_wp2_with (with_reducible show wpList _ _ _ ({ dst := _, op := Op.store 77 (.tmp 2) _, type := _, pos := _, after := _, guard := _ } :: _) _ _; refine Shut.out ?_)
                          show wpList _ _ _ _ _ _
                          refine wpList_store_mid rfl _ _ _ rfl w.heap.size 0 zeroC.toArray rfl rfl (by rw [show zeroC.toArray.size = 34 from rfl]; exact HT9.out) (by rw [show zeroC.toArray.size = 34 from rfl]; exact infoRH) (all_oneCell_toArray (headC_one _ _ _)) ?_
                          simp only [Act.put]
                          have HRG := Hid.of (show (World.setCells W9 w.heap.size 0 zeroC.toArray.toList).rangeAt w.heap.size 0 zeroC from World.rangeAt_setCells_same _ _ _ _ HT9.out)
                          have HUZ := Hid.of (up_setCells (Nat.le_refl _) zeroC.toArray.toList 0 HU9.out)
                          generalize World.setCells W9 w.heap.size 0 zeroC.toArray.toList = WZ at *
                          go_wp2_with fail
                          refine bodyPost_ret (result_cell_tmp Tryd.results41 _ _ w.heap.size zeroC _ rfl rfl HRG.out Tryd.underlying77 rfl infoRH) rfl ?_
                          rw [HR.out]
                          exact ⟨rfl, HUZ.out⟩
                        · have hf2' : (f2 == 0) = false := by simpa using hf2
                          clear hok hff
                          go_wp2_with (with_reducible show wpList _ _ _ ({ dst := _, op := Op.store 77 (.tmp 2) _, type := _, pos := _, after := _, guard := _ } :: _) _ _; refine Shut.out ?_)
                          show wpList _ _ _ _ _ _
                          refine wpList_store_mid rfl _ _ _ rfl w.heap.size 0 zeroC.toArray rfl rfl (by rw [show zeroC.toArray.size = 34 from rfl]; exact HT9.out) (by rw [show zeroC.toArray.size = 34 from rfl]; exact infoRH) (all_oneCell_toArray (headC_one _ _ _)) ?_
                          simp only [Act.put]
                          have HRG := Hid.of (show (World.setCells W9 w.heap.size 0 zeroC.toArray.toList).rangeAt w.heap.size 0 zeroC from World.rangeAt_setCells_same _ _ _ _ HT9.out)
                          have HUZ := Hid.of (up_setCells (Nat.le_refl _) zeroC.toArray.toList 0 HU9.out)
                          generalize World.setCells W9 w.heap.size 0 zeroC.toArray.toList = WZ at *
                          go_wp2_with fail
                          refine bodyPost_ret (result_cell_tmp Tryd.results41 _ _ w.heap.size zeroC _ rfl rfl HRG.out Tryd.underlying77 rfl infoRH) rfl ?_
                          rw [HR.out]
                          exact ⟨rfl, HUZ.out⟩
              · skip
                go_wp2_with fail
                refine (RDecode64_walk ⟨l2.toArray⟩ wr).mono ?_
                rintro e W5 ⟨v, rfl, ov, u5⟩
                dsimp only
                have HP5 := Hid.of (HP2.out.up u5)
                have hbl5 : B2 < wr.heap.size := block_lt_of_cell (HP2.out.rg 0 _ rfl)
                clear HP2 c1 c2
                replace ov : Own W5 wr.heap.size v (b64R l2).1 := ov
                generalize hbr : (b64R l2).1 = b at *
                have HBR := Hid.of hbr
                clear hbr
                generalize (b64R l2).2 = be at *
                obtain ⟨va, vc, rfl, hvc, hvs⟩ := ov.sl
                have HV := Hid.of (show ∀ j (hj : j < b.length), ∃ g off, va = some ⟨g, off, none⟩ ∧ g ≠ B2 ∧ W5.cell? ⟨g, off + j, none⟩ = some (.int .u8 (b[j].toNat : Int)) from fun j hj => by
                  rcases hvs with h | ⟨g, off, rfl, hg, hc⟩
                  · rw [h] at hj; simp at hj
                  · refine ⟨g, off, rfl, ?_, hc j hj⟩
                    have := (World.ownsRow.lt ov g rfl).1
                    omega)
                have hbb : b.length ≤ 1099511627776 ∨ 1099511627776 < b.length := by omega
                clear hvs ov u5
                go_wp2_with fail
                go_loopw [12] (fun v12 wq => ∃ j : Nat, v12 = .int .i64 (j : Int) ∧ Hid (j ≤ 32 ∧ j ≤ b.length ∧ PW w w.heap.size (w.heap.size + 1) B2 xs o z (fil b j) wq ∧ ∀ k (hk : k < b.length), ∃ g off, va = some ⟨g, off, none⟩ ∧ g ≠ B2 ∧ wq.cell? ⟨g, off + k, none⟩ = some (.int .u8 (b[k].toNat : Int)))) (fun v12 _ => 32 - (intOf v12).toNat)
                case atStart => exact ⟨0, rfl, by omega, by omega, HP5.out, HV.out⟩
                case round =>
                  obtain ⟨k, rfl, hK⟩ := hrel
                  by_cases hgo3 : k < b.length ∧ k < 32
                  · obtain ⟨hk3, hk4⟩ := hgo3
                    have g3 : (k : Int) < (b.length : Int) := by omega
                    have g4 : (k : Int) < 32 := by omega
                    obtain ⟨g, off, rfl, hgn, hgc⟩ := hK.out.2.2.2 k hk3
                    have hfl : (fil b k).length = 32 := fil_len (by omega) (by omega)
                    have cs := hK.out.2.2.1.rg (2 + k) ((headC o z (fil b k))[2 + k]'(by rw [headC_len hfl]; omega)) (List.getElem?_eq_getElem _)
                    have cf := (hK.out.2.2.1.th (2 + k) (by omega)).2
                    simp only [Nat.zero_add] at cs cf
                    generalize (headC o z (fil b k))[2 + k]'(by rw [headC_len hfl]; omega) = old at cs
                    have HN := Hid.of (And.intro (PW.set hK.out.2.2.1 hfl (by omega) (set_byte o z b hk3 (by omega))) (show ∀ k' (hk : k' < b.length), ∃ g' off', some (⟨g, off, none⟩ : Addr) = some ⟨g', off', none⟩ ∧ g' ≠ B2 ∧ (wr.setCell ⟨B2, 2 + k, none⟩ (.int .u8 (b[k].toNat : Int))).cell? ⟨g', off' + k', none⟩ = some (.int .u8 (b[k'].toNat : Int)) from fun k' hk' => by
                      obtain ⟨g', off', e1, e2, e3⟩ := hK.out.2.2.2 k' hk'
                      refine ⟨g', off', e1, e2, ?_⟩
                      rw [World.cell?_setCell_far _ _ _ _ (fun e => e2 e.symm)]
                      exact e3))
                    clear hK hfl
                    go_wp2
                    refine ⟨⟨k + 1, by go_num, by omega, by omega, HN.out⟩, ?_⟩
                    simp [intOf]
                    omega
                  · have HP9 := Hid.of (show PW w w.heap.size (w.heap.size + 1) B2 xs o z (pad b) wr by
                      have h1 := hK.out.1
                      have h2 := hK.out.2.1
                      have h3 := fil_end (b := b) (j := k) (by omega) h2 h1
                      rw [← h3]; exact hK.out.2.2.1)
                    have HZB := Hid.of (show -300000000000000000 ≤ z ∧ z ≤ 300000000000000000 by rw [← HNZ.out]; exact nz_bound (by simp; omega))
                    have hor3 : ¬ ((k : Int) < (b.length : Int)) ∨ ((k : Int) < (b.length : Int) ∧ ¬ (k : Int) < 32) := by omega
                    clear hK hgo3 HV HP5
                    rcases hor3 with g3 | ⟨g3, g4⟩
                    · skip
                      go_wp2_with (with_reducible show wpList _ _ _ ({ dst := _, op := Op.load 77 _, type := _, pos := _, after := _, guard := _ } :: _) _ _; refine Shut.out ?_)
                      show wpList _ _ _ _ _ _
                      refine wpList_load_mid rfl _ _ rfl B2 0 rfl (headC o z (pad b)) _ HP9.out.rg Tryd.underlying77 rfl (by rw [headC_len (pad_len b)]; exact infoRH) ?_
                      simp only [Act.put, List.setIfInBounds_toArray, List.set_cons_zero, List.set_cons_succ]
                      go_wp2_with fail
                      rw [show Value.agg (headC o z (pad b)).toArray = headV o z (pad b) from rfl]
                      refine (RFormatHead_walk o z (pad b) (pad_len b) (by have := HZB.out; omega) (by have := HZB.out; omega) wr (hB.up HP9.out.lw.u)).mono ?_
                      rintro e W9 ⟨rfl, u9⟩
                      dsimp only
                      have HP10 := Hid.of (HP9.out.up u9)
                      have HT9 := Hid.of HP10.out.lw.t
                      have HU9 := Hid.of HP10.out.lw.u
                      clear u9 HP9
                      by_cases hok : fmtH o z (pad b) = (s.data.toList, 0)
                      · have HR := Hid.of (loose_none (pad_len b) hok)
                        rw [hok, show vs (s.data.toList, (0 : Int)).1 = Value.string s from rfl]
                        go_wp2_with (with_reducible show wpList _ _ _ ({ dst := _, op := Op.load 77 _, type := _, pos := _, after := _, guard := _ } :: _) _ _; refine Shut.out ?_)
                        show wpList _ _ _ _ _ _
                        refine wpList_load_mid rfl _ _ rfl B2 0 rfl (headC o z (pad b)) _ HP10.out.rg Tryd.underlying77 rfl (by rw [headC_len (pad_len b)]; exact infoRH) ?_
                        simp only [Act.put, List.setIfInBounds_toArray, List.set_cons_zero, List.set_cons_succ]
                        go_wp2_with (with_reducible show wpList _ _ _ ({ dst := _, op := Op.store 77 (.tmp 2) _, type := _, pos := _, after := _, guard := _ } :: _) _ _; refine Shut.out ?_)
                        show wpList _ _ _ _ _ _
                        refine wpList_store_mid rfl _ _ _ rfl w.heap.size 0 (headC o z (pad b)).toArray rfl rfl (by rw [show (headC o z (pad b)).toArray.size = 34 from headC_len (pad_len b)]; exact HT9.out) (by rw [show (headC o z (pad b)).toArray.size = 34 from headC_len (pad_len b)]; exact infoRH) (all_oneCell_toArray (headC_one _ _ _)) ?_
                        simp only [Act.put]
                        have HRG := Hid.of (show (World.setCells W9 w.heap.size 0 (headC o z (pad b)).toArray.toList).rangeAt w.heap.size 0 (headC o z (pad b)) from World.rangeAt_setCells_same _ _ _ _ (by rw [show (headC o z (pad b)).toArray.toList.length = 34 from headC_len (pad_len b)]; exact HT9.out))
                        have HUZ := Hid.of (up_setCells (Nat.le_refl _) (headC o z (pad b)).toArray.toList 0 HU9.out)
                        generalize World.setCells W9 w.heap.size 0 (headC o z (pad b)).toArray.toList = WZ at *
                        go_wp2_with fail
                        refine bodyPost_ret (result_cell_tmp Tryd.results41 _ _ w.heap.size (headC o z (pad b)) _ rfl rfl HRG.out Tryd.underlying77 rfl (by rw [headC_len (pad_len b)]; exact infoRH)) rfl ?_
                        rw [HR.out]
                        exact ⟨rfl, HUZ.out⟩
                      · have HR := Hid.of (show rdH s.data.toList = none by
                          cases h : rdH s.data.toList with
                          | none => rfl
                          | some x =>
                            obtain ⟨a', n', r'⟩ := x
                            have h5 := loose_some h HE.out.1 HE.out.2
                            have h6 : lhd xs = (o, z, pad b) := by
                              unfold lhd
                              rw [HX01.out.1, HX01.out.2, HX2.out, HNZ.out, HBR.out]
                            rw [h6] at h5
                            injection h5 with e1 e2
                            injection e2 with e2 e3
                            rw [e1, e2, e3] at hok
                            exact absurd (head_once h).1 hok)
                        generalize hff : fmtH o z (pad b) = ff at *
                        obtain ⟨f1, f2⟩ := ff
                        by_cases hf2 : f2 = 0
                        · subst hf2
                          have hf1 : ¬ f1 = s.data.toList := fun h => hok (by rw [h])
                          have hne : (f1 == s.toList) = false := by
                            rw [Go.Lib.toList_data]
                            simpa using hf1
                          clear hok hff hf1
                          go_wp2_with (with_reducible show wpList _ _ _ ({ dst := _, op := Op.store 77 (.tmp 2) _, type := _, pos := _, after := _, guard := _ } :: _) _ _; refine Shut.out ?_)
                          show wpList _ _ _ _ _ _
                          refine wpList_store_mid rfl _ _ _ rfl w.heap.size 0 zeroC.toArray rfl rfl (by rw [show zeroC.toArray.size = 34 from rfl]; exact HT9.out) (by rw [show zeroC.toArray.size = 34 from rfl]; exact infoRH) (all_oneCell_toArray (headC_one _ _ _)) ?_
                          simp only [Act.put]
                          have HRG := Hid.of (show (World.setCells W9 w.heap.size 0 zeroC.toArray.toList).rangeAt w.heap.size 0 zeroC from World.rangeAt_setCells_same _ _ _ _ HT9.out)
                          have HUZ := Hid.of (up_setCells (Nat.le_refl _) zeroC.toArray.toList 0 HU9.out)
                          generalize World.setCells W9 w.heap.size 0 zeroC.toArray.toList = WZ at *
                          go_wp2_with fail
                          refine bodyPost_ret (result_cell_tmp Tryd.results41 _ _ w.heap.size zeroC _ rfl rfl HRG.out Tryd.underlying77 rfl infoRH) rfl ?_
                          rw [HR.out]
                          exact ⟨rfl, HUZ.out⟩
                        · have hf2' : (f2 == 0) = false := by simpa using hf2
                          clear hok hff
                          go_wp2_with (with_reducible show wpList _ _ _ ({ dst := _, op := Op.store 77 (.tmp 2) _, type := _, pos := _, after := _, guard := _ } :: _) _ _; refine Shut.out ?_)
                          show wpList _ _ _ _ _ _
                          refine wpList_store_mid rfl _ _ _ rfl w.heap.size 0 zeroC.toArray rfl rfl (by rw [show zeroC.toArray.size = 34 from rfl]; exact HT9.out) (by rw [show zeroC.toArray.size = 34 from rfl]; exact infoRH) (all_oneCell_toArray (headC_one _ _ _)) ?_
                          simp only [Act.put]
                          have HRG := Hid.of (show (World.setCells W9 w.heap.size 0 zeroC.toArray.toList).rangeAt w.heap.size 0 zeroC from World.rangeAt_setCells_same _ _ _ _ HT9.out)
                          have HUZ := Hid.of (up_setCells (Nat.le_refl _) zeroC.toArray.toList 0 HU9.out)
                          generalize World.setCells W9 w.heap.size 0 zeroC.toArray.toList = WZ at *
                          go_wp2_with fail
                          refine bodyPost_ret (result_cell_tmp Tryd.results41 _ _ w.heap.size zeroC _ rfl rfl HRG.out Tryd.underlying77 rfl infoRH) rfl ?_
                          rw [HR.out]
                          exact ⟨rfl, HUZ.out⟩
                    · skip
                      go_wp2_with (with_reducible show wpList _ _ _ ({ dst := _, op := Op.load 77 _, type := _, pos := _, after := _, guard := _ } :: _) _ _; refine Shut.out ?_)
                      show wpList _ _ _ _ _ _
                      refine wpList_load_mid rfl _ _ rfl B2 0 rfl (headC o z (pad b)) _ HP9.out.rg Tryd.underlying77 rfl (by rw [headC_len (pad_len b)]; exact infoRH) ?_
                      simp only [Act.put, List.setIfInBounds_toArray, List.set_cons_zero, List.set_cons_succ]
                      go_wp2_with fail
                      rw [show Value.agg (headC o z (pad b)).toArray = headV o z (pad b) from rfl]
                      refine (RFormatHead_walk o z (pad b) (pad_len b) (by have := HZB.out; omega) (by have := HZB.out; omega) wr (hB.up HP9.out.lw.u)).mono ?_
                      rintro e W9 ⟨rfl, u9⟩
                      dsimp only
                      have HP10 := Hid.of (HP9.out.up u9)
                      have HT9 := Hid.of HP10.out.lw.t
                      have HU9 := Hid.of HP10.out.lw.u
                      clear u9 HP9
                      by_cases hok : fmtH o z (pad b) = (s.data.toList, 0)
                      · have HR := Hid.of (loose_none (pad_len b) hok)
                        rw [hok, show vs (s.data.toList, (0 : Int)).1 = Value.string s from rfl]
                        go_wp2_with (with_reducible show wpList _ _ _ ({ dst := _, op := Op.load 77 _, type := _, pos := _, after := _, guard := _ } :: _) _ _; refine Shut.out ?_)
                        show wpList _ _ _ _ _ _
                        refine wpList_load_mid rfl _ _ rfl B2 0 rfl (headC o z (pad b)) _ HP10.out.rg Tryd.underlying77 rfl (by rw [headC_len (pad_len b)]; exact infoRH) ?_
                        simp only [Act.put, List.setIfInBounds_toArray, List.set_cons_zero, List.set_cons_succ]
                        go_wp2_with (with_reducible show wpList _ _ _ ({ dst := _, op := Op.store 77 (.tmp 2) _, type := _, pos := _, after := _, guard := _ } :: _) _ _; refine Shut.out ?_)
                        show wpList _ _ _ _ _ _
                        refine wpList_store_mid rfl _ _ _ rfl w.heap.size 0 (headC o z (pad b)).toArray rfl rfl (by rw [show (headC o z (pad b)).toArray.size = 34 from headC_len (pad_len b)]; exact HT9.out) (by rw [show (headC o z (pad b)).toArray.size = 34 from headC_len (pad_len b)]; exact infoRH) (all_oneCell_toArray (headC_one _ _ _)) ?_
                        simp only [Act.put]
                        have HRG := Hid.of (show (World.setCells W9 w.heap.size 0 (headC o z (pad b)).toArray.toList).rangeAt w.heap.size 0 (headC o z (pad b)) from World.rangeAt_setCells_same _ _ _ _ (by rw [show (headC o z (pad b)).toArray.toList.length = 34 from headC_len (pad_len b)]; exact HT9.out))
                        have HUZ := Hid.of (up_setCells (Nat.le_refl _) (headC o z (pad b)).toArray.toList 0 HU9.out)
                        generalize World.setCells W9 w.heap.size 0 (headC o z (pad b)).toArray.toList = WZ at *
                        go_wp2_with fail
                        refine bodyPost_ret (result_cell_tmp Tryd.results41 _ _ w.heap.size (headC o z (pad b)) _ rfl rfl HRG.out Tryd.underlying77 rfl (by rw [headC_len (pad_len b)]; exact infoRH)) rfl ?_
                        rw [HR.out]
                        exact ⟨rfl, HUZ.out⟩
                      · have HR := Hid.of (show rdH s.data.toList = none by
                          cases h : rdH s.data.toList with
                          | none => rfl
                          | some x =>
                            obtain ⟨a', n', r'⟩ := x
                            have h5 := loose_some h HE.out.1 HE.out.2
                            have h6 : lhd xs = (o, z, pad b) := by
                              unfold lhd
                              rw [HX01.out.1, HX01.out.2, HX2.out, HNZ.out, HBR.out]
                            rw [h6] at h5
                            injection h5 with e1 e2
                            injection e2 with e2 e3
                            rw [e1, e2, e3] at hok
                            exact absurd (head_once h).1 hok)
                        generalize hff : fmtH o z (pad b) = ff at *
                        obtain ⟨f1, f2⟩ := ff
                        by_cases hf2 : f2 = 0
                        · subst hf2
                          have hf1 : ¬ f1 = s.data.toList := fun h => hok (by rw [h])
                          have hne : (f1 == s.toList) = false := by
                            rw [Go.Lib.toList_data]
                            simpa using hf1
                          clear hok hff hf1
                          go_wp2_with (with_reducible show wpList _ _ _ ({ dst := _, op := Op.store 77 (.tmp 2) _, type := _, pos := _, after := _, guard := _ } :: _) _ _; refine Shut.out ?_)
                          show wpList _ _ _ _ _ _
                          refine wpList_store_mid rfl _ _ _ rfl w.heap.size 0 zeroC.toArray rfl rfl (by rw [show zeroC.toArray.size = 34 from rfl]; exact HT9.out) (by rw [show zeroC.toArray.size = 34 from rfl]; exact infoRH) (all_oneCell_toArray (headC_one _ _ _)) ?_
                          simp only [Act.put]
                          have HRG := Hid.of (show (World.setCells W9 w.heap.size 0 zeroC.toArray.toList).rangeAt w.heap.size 0 zeroC from World.rangeAt_setCells_same _ _ _ _ HT9.out)
                          have HUZ := Hid.of (up_setCells (Nat.le_refl _) zeroC.toArray.toList 0 HU9.out)
                          generalize World.setCells W9 w.heap.size 0 zeroC.toArray.toList = WZ at *
                          go_wp2_with fail
                          refine bodyPost_ret (result_cell_tmp Tryd.results41 _ _ w.heap.size zeroC _ rfl rfl HRG.out Tryd.underlying77 rfl infoRH) rfl ?_
                          rw [HR.out]
                          exact ⟨rfl, HUZ.out⟩
                        · have hf2' : (f2 == 0) = false := by simpa using hf2
                          clear hok hff
                          go_wp2_with (with_reducible show wpList _ _ _ ({ dst := _, op := Op.store 77 (.tmp 2) _, type := _, pos := _, after := _, guard := _ } :: _) _ _; refine Shut.out ?_)
                          show wpList _ _ _ _ _ _
                          refine wpList_store_mid rfl _ _ _ rfl w.heap.size 0 zeroC.toArray rfl rfl (by rw [show zeroC.toArray.size = 34 from rfl]; exact HT9.out) (by rw [show zeroC.toArray.size = 34 from rfl]; exact infoRH) (all_oneCell_toArray (headC_one _ _ _)) ?_
                          simp only [Act.put]
                          have HRG := Hid.of (show (World.setCells W9 w.heap.size 0 zeroC.toArray.toList).rangeAt w.heap.size 0 zeroC from World.rangeAt_setCells_same _ _ _ _ HT9.out)
                          have HUZ := Hid.of (up_setCells (Nat.le_refl _) zeroC.toArray.toList 0 HU9.out)
                          generalize World.setCells W9 w.heap.size 0 zeroC.toArray.toList = WZ at *
                          go_wp2_with fail
                          refine bodyPost_ret (result_cell_tmp Tryd.results41 _ _ w.heap.size zeroC _ rfl rfl HRG.out Tryd.underlying77 rfl infoRH) rfl ?_
                          rw [HR.out]
                          exact ⟨rfl, HUZ.out⟩
        · skip
          go_wp2_with (with_reducible show wpList _ _ _ ({ dst := _, op := Op.store 77 (.tmp 8) _, type := _, pos := _, after := _, guard := _ } :: _) _ _; refine Shut.out ?_)
          show wpList _ _ _ _ _ _
          change wpList _ _ _ _ _ (wr.alloc (Obj.cells zeroC.toArray 77))
          have hPW : PW w w.heap.size (w.heap.size + 1) wr.heap.size xs ⟨(xs.getD 0 []).toArray⟩ 0 (List.replicate 32 0) ((wr.alloc (Obj.cells zeroC.toArray 77)).setCells wr.heap.size 0 (headC ⟨(xs.getD 0 []).toArray⟩ 0 (List.replicate 32 0))) := by
            have t3 := there_new wr zeroC 77
            have u3 := (Up.refl wr).alloc (Obj.cells zeroC.toArray 77)
            have hb := HW.out.b
            exact ⟨HW.out.up (up_setCells (Nat.le_refl _) _ 0 u3), World.rangeAt_setCells_same _ _ _ _ (by rw [headC_len (by simp)]; exact t3), World.there_setCells t3 _ _ _, by omega, by omega, HW.out.u.size⟩
          refine wpList_store_mid rfl _ _ _ rfl wr.heap.size 0 (headC ⟨(xs.getD 0 []).toArray⟩ 0 (List.replicate 32 0)).toArray rfl rfl (there_new wr zeroC 77) (by rw [show (headC ⟨(xs.getD 0 []).toArray⟩ 0 (List.replicate 32 0)).toArray.size = 34 from rfl]; exact infoRH) (all_oneCell_toArray (headC_one _ _ _)) ?_
          simp only [Act.put]
          have HPW := Hid.of hPW
          clear hPW
          generalize (wr.alloc (Obj.cells zeroC.toArray 77)).setCells wr.heap.size 0 (headC ⟨(xs.getD 0 []).toArray⟩ 0 (List.replicate 32 0)) = W4 at *
          generalize wr.heap.size = B2 at *
          clear HW c0
          generalize hx0 : (⟨(xs.getD 0 []).toArray⟩ : ByteArray) = o at *
          generalize hx1 : xs.getD 1 [] = l1 at *
          have HX01 := Hid.of (And.intro hx0 hx1)
          clear hx0 hx1
          go_wp2_with fail
          go_loopw [9] (fun v9 wr => ∃ i : Nat, v9 = .int .i64 (i : Int) ∧ Hid (i ≤ 16 ∧ i ≤ l1.length ∧ PW w w.heap.size (w.heap.size + 1) B2 xs o (nz 0 (l1.take i)) (List.replicate 32 0) wr)) (fun v9 _ => 16 - (intOf v9).toNat)
          case atStart => exact ⟨0, rfl, by omega, by omega, HPW.out⟩
          case round =>
            obtain ⟨j, rfl, hJ⟩ := hrel
            have c1 := hJ.out.2.2.lw.c 1 (by omega)
            rw [HX01.out.2] at c1
            have cs := hJ.out.2.2.rg 1 (.int .i64 (nz 0 (l1.take j))) rfl
            have cf := (hJ.out.2.2.th 1 (by omega)).2
            simp only [Nat.zero_add] at cs cf
            have hls : (⟨l1.toArray⟩ : ByteArray).size = l1.length := str_len l1
            by_cases hgo : j < l1.length ∧ j < 16
            · have g1 : (j : Int) < (l1.length : Int) := by omega
              have g2 : (j : Int) < 16 := by omega
              have hj1 := hgo.1
              have hzb := nz_bound (l := l1.take j) (by rw [List.length_take]; omega)
              have HZ := Hid.of (nz_snoc 0 (l1.take j) l1[j])
              have hsn : l1.take j ++ [l1[j]] = l1.take (j + 1) := by rw [List.take_succ_eq_append_getElem hj1]
              rw [hsn] at HZ
              have hbl := (l1[j]).toNat_lt
              have HPS := Hid.of (And.intro hJ.out.2.2 hgo)
              generalize hbb : (l1[j]).toNat = bb at *
              have hgb : (⟨l1.toArray⟩ : ByteArray)[j]'(by rw [hls]; exact hj1) = l1[j] := sget' _ _ _
              generalize nz 0 (l1.take j) = z at *
              have w1 : IntKind.i64.wrap (z * 10) = z * 10 := by simp only [IntKind.wrap, IntKind.signed, IntKind.bits]; simp; omega
              have w2 : IntKind.i64.wrap (z * 10 + (bb : Int)) = z * 10 + bb := by simp only [IntKind.wrap, IntKind.signed, IntKind.bits]; simp; omega
              have w3 : IntKind.i64.wrap (z * 10 + (bb : Int) - 48) = z * 10 + bb - 48 := by simp only [IntKind.wrap, IntKind.signed, IntKind.bits]; simp; omega
              clear hJ hgo
              have mixed : Tryd.prog.follows .mixedOrders = true := by kernel_rfl
              go_wp2_with fail
              have HN := Hid.of (PW.up (PW.set HPS.out.1 (by simp) (by omega) (set_size o z (z * 10 + bb - 48) (List.replicate 32 0))) ((Up.refl _).drew))
              go_region
              go_wp2
              go_roundw
              case rel => exact ⟨j + 1, by go_num, by have := HPS.out.2; omega, by have := HPS.out.2; omega, by rw [HZ.out]; exact HN.out⟩
              case measure => simp [intOf]; omega
            · have HE2 := Hid.of (show l1.take j = l1.take 16 by
                have h1 := hJ.out.1
                have h2 := hJ.out.2.1
                rcases (by omega : j = l1.length ∨ j = 16) with h | h
                · rw [List.take_of_length_le (by omega), List.take_of_length_le (by omega)]
                · rw [h])
              have HP2 := Hid.of hJ.out.2.2
              rw [HE2.out] at HP2 cs
              have c2 := HP2.out.lw.c 2 (by omega)
              have hor2 : ¬ ((j : Int) < (l1.length : Int)) ∨ ((j : Int) < (l1.length : Int) ∧ ¬ (j : Int) < 16) := by omega
              clear hJ hgo HE2 cs cf
              generalize hx2 : xs.getD 2 [] = l2 at *
              have HX2 := Hid.of hx2
              clear hx2
              generalize hnz : nz 0 (l1.take 16) = z at *
              have HNZ := Hid.of hnz
              clear hnz
              rcases hor2 with g1 | ⟨g1, g2⟩
              · skip
                go_wp2_with fail
                refine (RDecode64_walk ⟨l2.toArray⟩ wr).mono ?_
                rintro e W5 ⟨v, rfl, ov, u5⟩
                dsimp only
                have HP5 := Hid.of (HP2.out.up u5)
                have hbl5 : B2 < wr.heap.size := block_lt_of_cell (HP2.out.rg 0 _ rfl)
                clear HP2 c1 c2
                replace ov : Own W5 wr.heap.size v (b64R l2).1 := ov
                generalize hbr : (b64R l2).1 = b at *
                have HBR := Hid.of hbr
                clear hbr
                generalize (b64R l2).2 = be at *
                obtain ⟨va, vc, rfl, hvc, hvs⟩ := ov.sl
                have HV := Hid.of (show ∀ j (hj : j < b.length), ∃ g off, va = some ⟨g, off, none⟩ ∧ g ≠ B2 ∧ W5.cell? ⟨g, off + j, none⟩ = some (.int .u8 (b[j].toNat : Int)) from fun j hj => by
                  rcases hvs with h | ⟨g, off, rfl, hg, hc⟩
                  · rw [h] at hj; simp at hj
                  · refine ⟨g, off, rfl, ?_, hc j hj⟩
                    have := (World.ownsRow.lt ov g rfl).1
                    omega)
                have hbb : b.length ≤ 1099511627776 ∨ 1099511627776 < b.length := by omega
                clear hvs ov u5
                go_wp2_with fail
                go_loopw [12] (fun v12 wq => ∃ j : Nat, v12 = .int .i64 (j : Int) ∧ Hid (j ≤ 32 ∧ j ≤ b.length ∧ PW w w.heap.size (w.heap.size + 1) B2 xs o z (fil b j) wq ∧ ∀ k (hk : k < b.length), ∃ g off, va = some ⟨g, off, none⟩ ∧ g ≠ B2 ∧ wq.cell? ⟨g, off + k, none⟩ = some (.int .u8 (b[k].toNat : Int)))) (fun v12 _ => 32 - (intOf v12).toNat)
                case atStart => exact ⟨0, rfl, by omega, by omega, HP5.out, HV.out⟩
                case round =>
                  obtain ⟨k, rfl, hK⟩ := hrel
                  by_cases hgo3 : k < b.length ∧ k < 32
                  · obtain ⟨hk3, hk4⟩ := hgo3
                    have g3 : (k : Int) < (b.length : Int) := by omega
                    have g4 : (k : Int) < 32 := by omega
                    obtain ⟨g, off, rfl, hgn, hgc⟩ := hK.out.2.2.2 k hk3
                    have hfl : (fil b k).length = 32 := fil_len (by omega) (by omega)
                    have cs := hK.out.2.2.1.rg (2 + k) ((headC o z (fil b k))[2 + k]'(by rw [headC_len hfl]; omega)) (List.getElem?_eq_getElem _)
                    have cf := (hK.out.2.2.1.th (2 + k) (by omega)).2
                    simp only [Nat.zero_add] at cs cf
                    generalize (headC o z (fil b k))[2 + k]'(by rw [headC_len hfl]; omega) = old at cs
                    have HN := Hid.of (And.intro (PW.set hK.out.2.2.1 hfl (by omega) (set_byte o z b hk3 (by omega))) (show ∀ k' (hk : k' < b.length), ∃ g' off', some (⟨g, off, none⟩ : Addr) = some ⟨g', off', none⟩ ∧ g' ≠ B2 ∧ (wr.setCell ⟨B2, 2 + k, none⟩ (.int .u8 (b[k].toNat : Int))).cell? ⟨g', off' + k', none⟩ = some (.int .u8 (b[k'].toNat : Int)) from fun k' hk' => by
                      obtain ⟨g', off', e1, e2, e3⟩ := hK.out.2.2.2 k' hk'
                      refine ⟨g', off', e1, e2, ?_⟩
                      rw [World.cell?_setCell_far _ _ _ _ (fun e => e2 e.symm)]
                      exact e3))
                    clear hK hfl
                    go_wp2
                    refine ⟨⟨k + 1, by go_num, by omega, by omega, HN.out⟩, ?_⟩
                    simp [intOf]
                    omega
                  · have HP9 := Hid.of (show PW w w.heap.size (w.heap.size + 1) B2 xs o z (pad b) wr by
                      have h1 := hK.out.1
                      have h2 := hK.out.2.1
                      have h3 := fil_end (b := b) (j := k) (by omega) h2 h1
                      rw [← h3]; exact hK.out.2.2.1)
                    have HZB := Hid.of (show -300000000000000000 ≤ z ∧ z ≤ 300000000000000000 by rw [← HNZ.out]; exact nz_bound (by simp; omega))
                    have hor3 : ¬ ((k : Int) < (b.length : Int)) ∨ ((k : Int) < (b.length : Int) ∧ ¬ (k : Int) < 32) := by omega
                    clear hK hgo3 HV HP5
                    rcases hor3 with g3 | ⟨g3, g4⟩
                    · skip
                      go_wp2_with (with_reducible show wpList _ _ _ ({ dst := _, op := Op.load 77 _, type := _, pos := _, after := _, guard := _ } :: _) _ _; refine Shut.out ?_)
                      show wpList _ _ _ _ _ _
                      refine wpList_load_mid rfl _ _ rfl B2 0 rfl (headC o z (pad b)) _ HP9.out.rg Tryd.underlying77 rfl (by rw [headC_len (pad_len b)]; exact infoRH) ?_
                      simp only [Act.put, List.setIfInBounds_toArray, List.set_cons_zero, List.set_cons_succ]
                      go_wp2_with fail
                      rw [show Value.agg (headC o z (pad b)).toArray = headV o z (pad b) from rfl]
                      refine (RFormatHead_walk o z (pad b) (pad_len b) (by have := HZB.out; omega) (by have := HZB.out; omega) wr (hB.up HP9.out.lw.u)).mono ?_
                      rintro e W9 ⟨rfl, u9⟩
                      dsimp only
                      have HP10 := Hid.of (HP9.out.up u9)
                      have HT9 := Hid.of HP10.out.lw.t
                      have HU9 := Hid.of HP10.out.lw.u
                      clear u9 HP9
                      by_cases hok : fmtH o z (pad b) = (s.data.toList, 0)
                      · have HR := Hid.of (loose_none (pad_len b) hok)
                        rw [hok, show vs (s.data.toList, (0 : Int)).1 = Value.string s from rfl]
                        go_wp2_with (with_reducible show wpList _ _ _ ({ dst := _, op := Op.load 77 _, type := _, pos := _, after := _, guard := _ } :: _) _ _; refine Shut.out ?_)
                        show wpList _ _ _ _ _ _
                        refine wpList_load_mid rfl _ _ rfl B2 0 rfl (headC o z (pad b)) _ HP10.out.rg Tryd.underlying77 rfl (by rw [headC_len (pad_len b)]; exact infoRH) ?_
                        simp only [Act.put, List.setIfInBounds_toArray, List.set_cons_zero, List.set_cons_succ]
                        go_wp2_with (with_reducible show wpList _ _ _ ({ dst := _, op := Op.store 77 (.tmp 2) _, type := _, pos := _, after := _, guard := _ } :: _) _ _; refine Shut.out ?_)
                        show wpList _ _ _ _ _ _
                        refine wpList_store_mid rfl _ _ _ rfl w.heap.size 0 (headC o z (pad b)).toArray rfl rfl (by rw [show (headC o z (pad b)).toArray.size = 34 from headC_len (pad_len b)]; exact HT9.out) (by rw [show (headC o z (pad b)).toArray.size = 34 from headC_len (pad_len b)]; exact infoRH) (all_oneCell_toArray (headC_one _ _ _)) ?_
                        simp only [Act.put]
                        have HRG := Hid.of (show (World.setCells W9 w.heap.size 0 (headC o z (pad b)).toArray.toList).rangeAt w.heap.size 0 (headC o z (pad b)) from World.rangeAt_setCells_same _ _ _ _ (by rw [show (headC o z (pad b)).toArray.toList.length = 34 from headC_len (pad_len b)]; exact HT9.out))
                        have HUZ := Hid.of (up_setCells (Nat.le_refl _) (headC o z (pad b)).toArray.toList 0 HU9.out)
                        generalize World.setCells W9 w.heap.size 0 (headC o z (pad b)).toArray.toList = WZ at *
                        go_wp2_with fail
                        refine bodyPost_ret (result_cell_tmp Tryd.results41 _ _ w.heap.size (headC o z (pad b)) _ rfl rfl HRG.out Tryd.underlying77 rfl (by rw [headC_len (pad_len b)]; exact infoRH)) rfl ?_
                        rw [HR.out]
                        exact ⟨rfl, HUZ.out⟩
                      · have HR := Hid.of (show rdH s.data.toList = none by
                          cases h : rdH s.data.toList with
                          | none => rfl
                          | some x =>
                            obtain ⟨a', n', r'⟩ := x
                            have h5 := loose_some h HE.out.1 HE.out.2
                            have h6 : lhd xs = (o, z, pad b) := by
                              unfold lhd
                              rw [HX01.out.1, HX01.out.2, HX2.out, HNZ.out, HBR.out]
                            rw [h6] at h5
                            injection h5 with e1 e2
                            injection e2 with e2 e3
                            rw [e1, e2, e3] at hok
                            exact absurd (head_once h).1 hok)
                        generalize hff : fmtH o z (pad b) = ff at *
                        obtain ⟨f1, f2⟩ := ff
                        by_cases hf2 : f2 = 0
                        · subst hf2
                          have hf1 : ¬ f1 = s.data.toList := fun h => hok (by rw [h])
                          have hne : (f1 == s.toList) = false := by
                            rw [Go.Lib.toList_data]
                            simpa using hf1
                          clear hok hff hf1
                          go_wp2_with (with_reducible show wpList _ _ _ ({ dst := _, op := Op.store 77 (.tmp 2) _, type := _, pos := _, after := _, guard := _ } :: _) _ _; refine Shut.out ?_)
                          show wpList _ _ _ _ _ _
                          refine wpList_store_mid rfl _ _ _ rfl w.heap.size 0 zeroC.toArray rfl rfl (by rw [show zeroC.toArray.size = 34 from rfl]; exact HT9.out) (by rw [show zeroC.toArray.size = 34 from rfl]; exact infoRH) (all_oneCell_toArray (headC_one _ _ _)) ?_
                          simp only [Act.put]
                          have HRG := Hid.of (show (World.setCells W9 w.heap.size 0 zeroC.toArray.toList).rangeAt w.heap.size 0 zeroC from World.rangeAt_setCells_same _ _ _ _ HT9.out)
                          have HUZ := Hid.of (up_setCells (Nat.le_refl _) zeroC.toArray.toList 0 HU9.out)
                          generalize World.setCells W9 w.heap.size 0 zeroC.toArray.toList = WZ at *
                          go_wp2_with fail
                          refine bodyPost_ret (result_cell_tmp Tryd.results41 _ _ w.heap.size zeroC _ rfl rfl HRG.out Tryd.underlying77 rfl infoRH) rfl ?_
                          rw [HR.out]
                          exact ⟨rfl, HUZ.out⟩
                        · have hf2' : (f2 == 0) = false := by simpa using hf2
                          clear hok hff
                          go_wp2_with (with_reducible show wpList _ _ _ ({ dst := _, op := Op.store 77 (.tmp 2) _, type := _, pos := _, after := _, guard := _ } :: _) _ _; refine Shut.out ?_)
                          show wpList _ _ _ _ _ _
                          refine wpList_store_mid rfl _ _ _ rfl w.heap.size 0 zeroC.toArray rfl rfl (by rw [show zeroC.toArray.size = 34 from rfl]; exact HT9.out) (by rw [show zeroC.toArray.size = 34 from rfl]; exact infoRH) (all_oneCell_toArray (headC_one _ _ _)) ?_
                          simp only [Act.put]
                          have HRG := Hid.of (show (World.setCells W9 w.heap.size 0 zeroC.toArray.toList).rangeAt w.heap.size 0 zeroC from World.rangeAt_setCells_same _ _ _ _ HT9.out)
                          have HUZ := Hid.of (up_setCells (Nat.le_refl _) zeroC.toArray.toList 0 HU9.out)
                          generalize World.setCells W9 w.heap.size 0 zeroC.toArray.toList = WZ at *
                          go_wp2_with fail
                          refine bodyPost_ret (result_cell_tmp Tryd.results41 _ _ w.heap.size zeroC _ rfl rfl HRG.out Tryd.underlying77 rfl infoRH) rfl ?_
                          rw [HR.out]
                          exact ⟨rfl, HUZ.out⟩
                    · skip
                      go_wp2_with (with_reducible show wpList _ _ _ ({ dst := _, op := Op.load 77 _, type := _, pos := _, after := _, guard := _ } :: _) _ _; refine Shut.out ?_)
                      show wpList _ _ _ _ _ _
                      refine wpList_load_mid rfl _ _ rfl B2 0 rfl (headC o z (pad b)) _ HP9.out.rg Tryd.underlying77 rfl (by rw [headC_len (pad_len b)]; exact infoRH) ?_
                      simp only [Act.put, List.setIfInBounds_toArray, List.set_cons_zero, List.set_cons_succ]
                      go_wp2_with fail
                      rw [show Value.agg (headC o z (pad b)).toArray = headV o z (pad b) from rfl]
                      refine (RFormatHead_walk o z (pad b) (pad_len b) (by have := HZB.out; omega) (by have := HZB.out; omega) wr (hB.up HP9.out.lw.u)).mono ?_
                      rintro e W9 ⟨rfl, u9⟩
                      dsimp only
                      have HP10 := Hid.of (HP9.out.up u9)
                      have HT9 := Hid.of HP10.out.lw.t
                      have HU9 := Hid.of HP10.out.lw.u
                      clear u9 HP9
                      by_cases hok : fmtH o z (pad b) = (s.data.toList, 0)
                      · have HR := Hid.of (loose_none (pad_len b) hok)
                        rw [hok, show vs (s.data.toList, (0 : Int)).1 = Value.string s from rfl]
                        go_wp2_with (with_reducible show wpList _ _ _ ({ dst := _, op := Op.load 77 _, type := _, pos := _, after := _, guard := _ } :: _) _ _; refine Shut.out ?_)
                        show wpList _ _ _ _ _ _
                        refine wpList_load_mid rfl _ _ rfl B2 0 rfl (headC o z (pad b)) _ HP10.out.rg Tryd.underlying77 rfl (by rw [headC_len (pad_len b)]; exact infoRH) ?_
                        simp only [Act.put, List.setIfInBounds_toArray, List.set_cons_zero, List.set_cons_succ]
                        go_wp2_with (with_reducible show wpList _ _ _ ({ dst := _, op := Op.store 77 (.tmp 2) _, type := _, pos := _, after := _, guard := _ } :: _) _ _; refine Shut.out ?_)
                        show wpList _ _ _ _ _ _
                        refine wpList_store_mid rfl _ _ _ rfl w.heap.size 0 (headC o z (pad b)).toArray rfl rfl (by rw [show (headC o z (pad b)).toArray.size = 34 from headC_len (pad_len b)]; exact HT9.out) (by rw [show (headC o z (pad b)).toArray.size = 34 from headC_len (pad_len b)]; exact infoRH) (all_oneCell_toArray (headC_one _ _ _)) ?_
                        simp only [Act.put]
                        have HRG := Hid.of (show (World.setCells W9 w.heap.size 0 (headC o z (pad b)).toArray.toList).rangeAt w.heap.size 0 (headC o z (pad b)) from World.rangeAt_setCells_same _ _ _ _ (by rw [show (headC o z (pad b)).toArray.toList.length = 34 from headC_len (pad_len b)]; exact HT9.out))
                        have HUZ := Hid.of (up_setCells (Nat.le_refl _) (headC o z (pad b)).toArray.toList 0 HU9.out)
                        generalize World.setCells W9 w.heap.size 0 (headC o z (pad b)).toArray.toList = WZ at *
                        go_wp2_with fail
                        refine bodyPost_ret (result_cell_tmp Tryd.results41 _ _ w.heap.size (headC o z (pad b)) _ rfl rfl HRG.out Tryd.underlying77 rfl (by rw [headC_len (pad_len b)]; exact infoRH)) rfl ?_
                        rw [HR.out]
                        exact ⟨rfl, HUZ.out⟩
                      · have HR := Hid.of (show rdH s.data.toList = none by
                          cases h : rdH s.data.toList with
                          | none => rfl
                          | some x =>
                            obtain ⟨a', n', r'⟩ := x
                            have h5 := loose_some h HE.out.1 HE.out.2
                            have h6 : lhd xs = (o, z, pad b) := by
                              unfold lhd
                              rw [HX01.out.1, HX01.out.2, HX2.out, HNZ.out, HBR.out]
                            rw [h6] at h5
                            injection h5 with e1 e2
                            injection e2 with e2 e3
                            rw [e1, e2, e3] at hok
                            exact absurd (head_once h).1 hok)
                        generalize hff : fmtH o z (pad b) = ff at *
                        obtain ⟨f1, f2⟩ := ff
                        by_cases hf2 : f2 = 0
                        · subst hf2
                          have hf1 : ¬ f1 = s.data.toList := fun h => hok (by rw [h])
                          have hne : (f1 == s.toList) = false := by
                            rw [Go.Lib.toList_data]
                            simpa using hf1
                          clear hok hff hf1
                          go_wp2_with (with_reducible show wpList _ _ _ ({ dst := _, op := Op.store 77 (.tmp 2) _, type := _, pos := _, after := _, guard := _ } :: _) _ _; refine Shut.out ?_)
                          show wpList _ _ _ _ _ _
                          refine wpList_store_mid rfl _ _ _ rfl w.heap.size 0 zeroC.toArray rfl rfl (by rw [show zeroC.toArray.size = 34 from rfl]; exact HT9.out) (by rw [show zeroC.toArray.size = 34 from rfl]; exact infoRH) (all_oneCell_toArray (headC_one _ _ _)) ?_
                          simp only [Act.put]
                          have HRG := Hid.of (show (World.setCells W9 w.heap.size 0 zeroC.toArray.toList).rangeAt w.heap.size 0 zeroC from World.rangeAt_setCells_same _ _ _ _ HT9.out)
                          have HUZ := Hid.of (up_setCells (Nat.le_refl _) zeroC.toArray.toList 0 HU9.out)
                          generalize World.setCells W9 w.heap.size 0 zeroC.toArray.toList = WZ at *
                          go_wp2_with fail
                          refine bodyPost_ret (result_cell_tmp Tryd.results41 _ _ w.heap.size zeroC _ rfl rfl HRG.out Tryd.underlying77 rfl infoRH) rfl ?_
                          rw [HR.out]
                          exact ⟨rfl, HUZ.out⟩
                        · have hf2' : (f2 == 0) = false := by simpa using hf2
                          clear hok hff
                          go_wp2_with (with_reducible show wpList _ _ _ ({ dst := _, op := Op.store 77 (.tmp 2) _, type := _, pos := _, after := _, guard := _ } :: _) _ _; refine Shut.out ?_)
                          show wpList _ _ _ _ _ _
                          refine wpList_store_mid rfl _ _ _ rfl w.heap.size 0 zeroC.toArray rfl rfl (by rw [show zeroC.toArray.size = 34 from rfl]; exact HT9.out) (by rw [show zeroC.toArray.size = 34 from rfl]; exact infoRH) (all_oneCell_toArray (headC_one _ _ _)) ?_
                          simp only [Act.put]
                          have HRG := Hid.of (show (World.setCells W9 w.heap.size 0 zeroC.toArray.toList).rangeAt w.heap.size 0 zeroC from World.rangeAt_setCells_same _ _ _ _ HT9.out)
                          have HUZ := Hid.of (up_setCells (Nat.le_refl _) zeroC.toArray.toList 0 HU9.out)
                          generalize World.setCells W9 w.heap.size 0 zeroC.toArray.toList = WZ at *
                          go_wp2_with fail
                          refine bodyPost_ret (result_cell_tmp Tryd.results41 _ _ w.heap.size zeroC _ rfl rfl HRG.out Tryd.underlying77 rfl infoRH) rfl ?_
                          rw [HR.out]
                          exact ⟨rfl, HUZ.out⟩
              · skip
                go_wp2_with fail
                refine (RDecode64_walk ⟨l2.toArray⟩ wr).mono ?_
                rintro e W5 ⟨v, rfl, ov, u5⟩
                dsimp only
                have HP5 := Hid.of (HP2.out.up u5)
                have hbl5 : B2 < wr.heap.size := block_lt_of_cell (HP2.out.rg 0 _ rfl)
                clear HP2 c1 c2
                replace ov : Own W5 wr.heap.size v (b64R l2).1 := ov
                generalize hbr : (b64R l2).1 = b at *
                have HBR := Hid.of hbr
                clear hbr
                generalize (b64R l2).2 = be at *
                obtain ⟨va, vc, rfl, hvc, hvs⟩ := ov.sl
                have HV := Hid.of (show ∀ j (hj : j < b.length), ∃ g off, va = some ⟨g, off, none⟩ ∧ g ≠ B2 ∧ W5.cell? ⟨g, off + j, none⟩ = some (.int .u8 (b[j].toNat : Int)) from fun j hj => by
                  rcases hvs with h | ⟨g, off, rfl, hg, hc⟩
                  · rw [h] at hj; simp at hj
                  · refine ⟨g, off, rfl, ?_, hc j hj⟩
                    have := (World.ownsRow.lt ov g rfl).1
                    omega)
                have hbb : b.length ≤ 1099511627776 ∨ 1099511627776 < b.length := by omega
                clear hvs ov u5
                go_wp2_with fail
                go_loopw [12] (fun v12 wq => ∃ j : Nat, v12 = .int .i64 (j : Int) ∧ Hid (j ≤ 32 ∧ j ≤ b.length ∧ PW w w.heap.size (w.heap.size + 1) B2 xs o z (fil b j) wq ∧ ∀ k (hk : k < b.length), ∃ g off, va = some ⟨g, off, none⟩ ∧ g ≠ B2 ∧ wq.cell? ⟨g, off + k, none⟩ = some (.int .u8 (b[k].toNat : Int)))) (fun v12 _ => 32 - (intOf v12).toNat)
                case atStart => exact ⟨0, rfl, by omega, by omega, HP5.out, HV.out⟩
                case round =>
                  obtain ⟨k, rfl, hK⟩ := hrel
                  by_cases hgo3 : k < b.length ∧ k < 32
                  · obtain ⟨hk3, hk4⟩ := hgo3
                    have g3 : (k : Int) < (b.length : Int) := by omega
                    have g4 : (k : Int) < 32 := by omega
                    obtain ⟨g, off, rfl, hgn, hgc⟩ := hK.out.2.2.2 k hk3
                    have hfl : (fil b k).length = 32 := fil_len (by omega) (by omega)
                    have cs := hK.out.2.2.1.rg (2 + k) ((headC o z (fil b k))[2 + k]'(by rw [headC_len hfl]; omega)) (List.getElem?_eq_getElem _)
                    have cf := (hK.out.2.2.1.th (2 + k) (by omega)).2
                    simp only [Nat.zero_add] at cs cf
                    generalize (headC o z (fil b k))[2 + k]'(by rw [headC_len hfl]; omega) = old at cs
                    have HN := Hid.of (And.intro (PW.set hK.out.2.2.1 hfl (by omega) (set_byte o z b hk3 (by omega))) (show ∀ k' (hk : k' < b.length), ∃ g' off', some (⟨g, off, none⟩ : Addr) = some ⟨g', off', none⟩ ∧ g' ≠ B2 ∧ (wr.setCell ⟨B2, 2 + k, none⟩ (.int .u8 (b[k].toNat : Int))).cell? ⟨g', off' + k', none⟩ = some (.int .u8 (b[k'].toNat : Int)) from fun k' hk' => by
                      obtain ⟨g', off', e1, e2, e3⟩ := hK.out.2.2.2 k' hk'
                      refine ⟨g', off', e1, e2, ?_⟩
                      rw [World.cell?_setCell_far _ _ _ _ (fun e => e2 e.symm)]
                      exact e3))
                    clear hK hfl
                    go_wp2
                    refine ⟨⟨k + 1, by go_num, by omega, by omega, HN.out⟩, ?_⟩
                    simp [intOf]
                    omega
                  · have HP9 := Hid.of (show PW w w.heap.size (w.heap.size + 1) B2 xs o z (pad b) wr by
                      have h1 := hK.out.1
                      have h2 := hK.out.2.1
                      have h3 := fil_end (b := b) (j := k) (by omega) h2 h1
                      rw [← h3]; exact hK.out.2.2.1)
                    have HZB := Hid.of (show -300000000000000000 ≤ z ∧ z ≤ 300000000000000000 by rw [← HNZ.out]; exact nz_bound (by simp; omega))
                    have hor3 : ¬ ((k : Int) < (b.length : Int)) ∨ ((k : Int) < (b.length : Int) ∧ ¬ (k : Int) < 32) := by omega
                    clear hK hgo3 HV HP5
                    rcases hor3 with g3 | ⟨g3, g4⟩
                    · skip
                      go_wp2_with (with_reducible show wpList _ _ _ ({ dst := _, op := Op.load 77 _, type := _, pos := _, after := _, guard := _ } :: _) _ _; refine Shut.out ?_)
                      show wpList _ _ _ _ _ _
                      refine wpList_load_mid rfl _ _ rfl B2 0 rfl (headC o z (pad b)) _ HP9.out.rg Tryd.underlying77 rfl (by rw [headC_len (pad_len b)]; exact infoRH) ?_
                      simp only [Act.put, List.setIfInBounds_toArray, List.set_cons_zero, List.set_cons_succ]
                      go_wp2_with fail
                      rw [show Value.agg (headC o z (pad b)).toArray = headV o z (pad b) from rfl]
                      refine (RFormatHead_walk o z (pad b) (pad_len b) (by have := HZB.out; omega) (by have := HZB.out; omega) wr (hB.up HP9.out.lw.u)).mono ?_
                      rintro e W9 ⟨rfl, u9⟩
                      dsimp only
                      have HP10 := Hid.of (HP9.out.up u9)
                      have HT9 := Hid.of HP10.out.lw.t
                      have HU9 := Hid.of HP10.out.lw.u
                      clear u9 HP9
                      by_cases hok : fmtH o z (pad b) = (s.data.toList, 0)
                      · have HR := Hid.of (loose_none (pad_len b) hok)
                        rw [hok, show vs (s.data.toList, (0 : Int)).1 = Value.string s from rfl]
                        go_wp2_with (with_reducible show wpList _ _ _ ({ dst := _, op := Op.load 77 _, type := _, pos := _, after := _, guard := _ } :: _) _ _; refine Shut.out ?_)
                        show wpList _ _ _ _ _ _
                        refine wpList_load_mid rfl _ _ rfl B2 0 rfl (headC o z (pad b)) _ HP10.out.rg Tryd.underlying77 rfl (by rw [headC_len (pad_len b)]; exact infoRH) ?_
                        simp only [Act.put, List.setIfInBounds_toArray, List.set_cons_zero, List.set_cons_succ]
                        go_wp2_with (with_reducible show wpList _ _ _ ({ dst := _, op := Op.store 77 (.tmp 2) _, type := _, pos := _, after := _, guard := _ } :: _) _ _; refine Shut.out ?_)
                        show wpList _ _ _ _ _ _
                        refine wpList_store_mid rfl _ _ _ rfl w.heap.size 0 (headC o z (pad b)).toArray rfl rfl (by rw [show (headC o z (pad b)).toArray.size = 34 from headC_len (pad_len b)]; exact HT9.out) (by rw [show (headC o z (pad b)).toArray.size = 34 from headC_len (pad_len b)]; exact infoRH) (all_oneCell_toArray (headC_one _ _ _)) ?_
                        simp only [Act.put]
                        have HRG := Hid.of (show (World.setCells W9 w.heap.size 0 (headC o z (pad b)).toArray.toList).rangeAt w.heap.size 0 (headC o z (pad b)) from World.rangeAt_setCells_same _ _ _ _ (by rw [show (headC o z (pad b)).toArray.toList.length = 34 from headC_len (pad_len b)]; exact HT9.out))
                        have HUZ := Hid.of (up_setCells (Nat.le_refl _) (headC o z (pad b)).toArray.toList 0 HU9.out)
                        generalize World.setCells W9 w.heap.size 0 (headC o z (pad b)).toArray.toList = WZ at *
                        go_wp2_with fail
                        refine bodyPost_ret (result_cell_tmp Tryd.results41 _ _ w.heap.size (headC o z (pad b)) _ rfl rfl HRG.out Tryd.underlying77 rfl (by rw [headC_len (pad_len b)]; exact infoRH)) rfl ?_
                        rw [HR.out]
                        exact ⟨rfl, HUZ.out⟩
                      · have HR := Hid.of (show rdH s.data.toList = none by
                          cases h : rdH s.data.toList with
                          | none => rfl
                          | some x =>
                            obtain ⟨a', n', r'⟩ := x
                            have h5 := loose_some h HE.out.1 HE.out.2
                            have h6 : lhd xs = (o, z, pad b) := by
                              unfold lhd
                              rw [HX01.out.1, HX01.out.2, HX2.out, HNZ.out, HBR.out]
                            rw [h6] at h5
                            injection h5 with e1 e2
                            injection e2 with e2 e3
                            rw [e1, e2, e3] at hok
                            exact absurd (head_once h).1 hok)
                        generalize hff : fmtH o z (pad b) = ff at *
                        obtain ⟨f1, f2⟩ := ff
                        by_cases hf2 : f2 = 0
                        · subst hf2
                          have hf1 : ¬ f1 = s.data.toList := fun h => hok (by rw [h])
                          have hne : (f1 == s.toList) = false := by
                            rw [Go.Lib.toList_data]
                            simpa using hf1
                          clear hok hff hf1
                          go_wp2_with (with_reducible show wpList _ _ _ ({ dst := _, op := Op.store 77 (.tmp 2) _, type := _, pos := _, after := _, guard := _ } :: _) _ _; refine Shut.out ?_)
                          show wpList _ _ _ _ _ _
                          refine wpList_store_mid rfl _ _ _ rfl w.heap.size 0 zeroC.toArray rfl rfl (by rw [show zeroC.toArray.size = 34 from rfl]; exact HT9.out) (by rw [show zeroC.toArray.size = 34 from rfl]; exact infoRH) (all_oneCell_toArray (headC_one _ _ _)) ?_
                          simp only [Act.put]
                          have HRG := Hid.of (show (World.setCells W9 w.heap.size 0 zeroC.toArray.toList).rangeAt w.heap.size 0 zeroC from World.rangeAt_setCells_same _ _ _ _ HT9.out)
                          have HUZ := Hid.of (up_setCells (Nat.le_refl _) zeroC.toArray.toList 0 HU9.out)
                          generalize World.setCells W9 w.heap.size 0 zeroC.toArray.toList = WZ at *
                          go_wp2_with fail
                          refine bodyPost_ret (result_cell_tmp Tryd.results41 _ _ w.heap.size zeroC _ rfl rfl HRG.out Tryd.underlying77 rfl infoRH) rfl ?_
                          rw [HR.out]
                          exact ⟨rfl, HUZ.out⟩
                        · have hf2' : (f2 == 0) = false := by simpa using hf2
                          clear hok hff
                          go_wp2_with (with_reducible show wpList _ _ _ ({ dst := _, op := Op.store 77 (.tmp 2) _, type := _, pos := _, after := _, guard := _ } :: _) _ _; refine Shut.out ?_)
                          show wpList _ _ _ _ _ _
                          refine wpList_store_mid rfl _ _ _ rfl w.heap.size 0 zeroC.toArray rfl rfl (by rw [show zeroC.toArray.size = 34 from rfl]; exact HT9.out) (by rw [show zeroC.toArray.size = 34 from rfl]; exact infoRH) (all_oneCell_toArray (headC_one _ _ _)) ?_
                          simp only [Act.put]
                          have HRG := Hid.of (show (World.setCells W9 w.heap.size 0 zeroC.toArray.toList).rangeAt w.heap.size 0 zeroC from World.rangeAt_setCells_same _ _ _ _ HT9.out)
                          have HUZ := Hid.of (up_setCells (Nat.le_refl _) zeroC.toArray.toList 0 HU9.out)
                          generalize World.setCells W9 w.heap.size 0 zeroC.toArray.toList = WZ at *
                          go_wp2_with fail
                          refine bodyPost_ret (result_cell_tmp Tryd.results41 _ _ w.heap.size zeroC _ rfl rfl HRG.out Tryd.underlying77 rfl infoRH) rfl ?_
                          rw [HR.out]
                          exact ⟨rfl, HUZ.out⟩
                    · skip
                      go_wp2_with (with_reducible show wpList _ _ _ ({ dst := _, op := Op.load 77 _, type := _, pos := _, after := _, guard := _ } :: _) _ _; refine Shut.out ?_)
                      show wpList _ _ _ _ _ _
                      refine wpList_load_mid rfl _ _ rfl B2 0 rfl (headC o z (pad b)) _ HP9.out.rg Tryd.underlying77 rfl (by rw [headC_len (pad_len b)]; exact infoRH) ?_
                      simp only [Act.put, List.setIfInBounds_toArray, List.set_cons_zero, List.set_cons_succ]
                      go_wp2_with fail
                      rw [show Value.agg (headC o z (pad b)).toArray = headV o z (pad b) from rfl]
                      refine (RFormatHead_walk o z (pad b) (pad_len b) (by have := HZB.out; omega) (by have := HZB.out; omega) wr (hB.up HP9.out.lw.u)).mono ?_
                      rintro e W9 ⟨rfl, u9⟩
                      dsimp only
                      have HP10 := Hid.of (HP9.out.up u9)
                      have HT9 := Hid.of HP10.out.lw.t
                      have HU9 := Hid.of HP10.out.lw.u
                      clear u9 HP9
                      by_cases hok : fmtH o z (pad b) = (s.data.toList, 0)
                      · have HR := Hid.of (loose_none (pad_len b) hok)
                        rw [hok, show vs (s.data.toList, (0 : Int)).1 = Value.string s from rfl]
                        go_wp2_with (with_reducible show wpList _ _ _ ({ dst := _, op := Op.load 77 _, type := _, pos := _, after := _, guard := _ } :: _) _ _; refine Shut.out ?_)
                        show wpList _ _ _ _ _ _
                        refine wpList_load_mid rfl _ _ rfl B2 0 rfl (headC o z (pad b)) _ HP10.out.rg Tryd.underlying77 rfl (by rw [headC_len (pad_len b)]; exact infoRH) ?_
                        simp only [Act.put, List.setIfInBounds_toArray, List.set_cons_zero, List.set_cons_succ]
                        go_wp2_with (with_reducible show wpList _ _ _ ({ dst := _, op := Op.store 77 (.tmp 2) _, type := _, pos := _, after := _, guard := _ } :: _) _ _; refine Shut.out ?_)
                        show wpList _ _ _ _ _ _
                        refine wpList_store_mid rfl _ _ _ rfl w.heap.size 0 (headC o z (pad b)).toArray rfl rfl (by rw [show (headC o z (pad b)).toArray.size = 34 from headC_len (pad_len b)]; exact HT9.out) (by rw [show (headC o z (pad b)).toArray.size = 34 from headC_len (pad_len b)]; exact infoRH) (all_oneCell_toArray (headC_one _ _ _)) ?_
                        simp only [Act.put]
                        have HRG := Hid.of (show (World.setCells W9 w.heap.size 0 (headC o z (pad b)).toArray.toList).rangeAt w.heap.size 0 (headC o z (pad b)) from World.rangeAt_setCells_same _ _ _ _ (by rw [show (headC o z (pad b)).toArray.toList.length = 34 from headC_len (pad_len b)]; exact HT9.out))
                        have HUZ := Hid.of (up_setCells (Nat.le_refl _) (headC o z (pad b)).toArray.toList 0 HU9.out)
                        generalize World.setCells W9 w.heap.size 0 (headC o z (pad b)).toArray.toList = WZ at *
                        go_wp2_with fail
                        refine bodyPost_ret (result_cell_tmp Tryd.results41 _ _ w.heap.size (headC o z (pad b)) _ rfl rfl HRG.out Tryd.underlying77 rfl (by rw [headC_len (pad_len b)]; exact infoRH)) rfl ?_
                        rw [HR.out]
                        exact ⟨rfl, HUZ.out⟩
                      · have HR := Hid.of (show rdH s.data.toList = none by
                          cases h : rdH s.data.toList with
                          | none => rfl
                          | some x =>
                            obtain ⟨a', n', r'⟩ := x
                            have h5 := loose_some h HE.out.1 HE.out.2
                            have h6 : lhd xs = (o, z, pad b) := by
                              unfold lhd
                              rw [HX01.out.1, HX01.out.2, HX2.out, HNZ.out, HBR.out]
                            rw [h6] at h5
                            injection h5 with e1 e2
                            injection e2 with e2 e3
                            rw [e1, e2, e3] at hok
                            exact absurd (head_once h).1 hok)
                        generalize hff : fmtH o z (pad b) = ff at *
                        obtain ⟨f1, f2⟩ := ff
                        by_cases hf2 : f2 = 0
                        · subst hf2
                          have hf1 : ¬ f1 = s.data.toList := fun h => hok (by rw [h])
                          have hne : (f1 == s.toList) = false := by
                            rw [Go.Lib.toList_data]
                            simpa using hf1
                          clear hok hff hf1
                          go_wp2_with (with_reducible show wpList _ _ _ ({ dst := _, op := Op.store 77 (.tmp 2) _, type := _, pos := _, after := _, guard := _ } :: _) _ _; refine Shut.out ?_)
                          show wpList _ _ _ _ _ _
                          refine wpList_store_mid rfl _ _ _ rfl w.heap.size 0 zeroC.toArray rfl rfl (by rw [show zeroC.toArray.size = 34 from rfl]; exact HT9.out) (by rw [show zeroC.toArray.size = 34 from rfl]; exact infoRH) (all_oneCell_toArray (headC_one _ _ _)) ?_
                          simp only [Act.put]
                          have HRG := Hid.of (show (World.setCells W9 w.heap.size 0 zeroC.toArray.toList).rangeAt w.heap.size 0 zeroC from World.rangeAt_setCells_same _ _ _ _ HT9.out)
                          have HUZ := Hid.of (up_setCells (Nat.le_refl _) zeroC.toArray.toList 0 HU9.out)
                          generalize World.setCells W9 w.heap.size 0 zeroC.toArray.toList = WZ at *
                          go_wp2_with fail
                          refine bodyPost_ret (result_cell_tmp Tryd.results41 _ _ w.heap.size zeroC _ rfl rfl HRG.out Tryd.underlying77 rfl infoRH) rfl ?_
                          rw [HR.out]
                          exact ⟨rfl, HUZ.out⟩
                        · have hf2' : (f2 == 0) = false := by simpa using hf2
                          clear hok hff
                          go_wp2_with (with_reducible show wpList _ _ _ ({ dst := _, op := Op.store 77 (.tmp 2) _, type := _, pos := _, after := _, guard := _ } :: _) _ _; refine Shut.out ?_)
                          show wpList _ _ _ _ _ _
                          refine wpList_store_mid rfl _ _ _ rfl w.heap.size 0 zeroC.toArray rfl rfl (by rw [show zeroC.toArray.size = 34 from rfl]; exact HT9.out) (by rw [show zeroC.toArray.size = 34 from rfl]; exact infoRH) (all_oneCell_toArray (headC_one _ _ _)) ?_
                          simp only [Act.put]
                          have HRG := Hid.of (show (World.setCells W9 w.heap.size 0 zeroC.toArray.toList).rangeAt w.heap.size 0 zeroC from World.rangeAt_setCells_same _ _ _ _ HT9.out)
                          have HUZ := Hid.of (up_setCells (Nat.le_refl _) zeroC.toArray.toList 0 HU9.out)
                          generalize World.setCells W9 w.heap.size 0 zeroC.toArray.toList = WZ at *
                          go_wp2_with fail
                          refine bodyPost_ret (result_cell_tmp Tryd.results41 _ _ w.heap.size zeroC _ rfl rfl HRG.out Tryd.underlying77 rfl infoRH) rfl ?_
                          rw [HR.out]
                          exact ⟨rfl, HUZ.out⟩
end Go.Proofs.YtbdbpmeaiiodgaaDoor
