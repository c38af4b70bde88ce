import Derived.Test.YtdgpnppnjkpfoaaDoorXq
import Derived.Lib.CutLaws
import Derived.Lib.IndexLaws
import Derived.Lib.IndexBytes
namespace Go.Proofs.YtdgpnppnjkpfoaaDoor
open Go.RowKit Go.Shelf TextNum
set_option maxRecDepth 100000 in
theorem slCut_walk (s : ByteArray) (hs : s.size ≤ 4398046511104) (c : UInt8) (w : World) : Calls Tryd.prog 23 #[.string s, .string ⟨#[c]⟩] w fun e w' => e = .returned (.tuple #[.string ⟨(Go.Lib.cut s.data.toList [c]).1.toArray⟩, .string ⟨(Go.Lib.cut s.data.toList [c]).2.1.toArray⟩, .bool (Go.Lib.cut s.data.toList [c]).2.2]) ∧ ∃ n, w' = w.drewN n := by
  have hix : Go.Lib.indexB s ⟨#[c]⟩ = Go.Lib.indexByte s.data.toList c := Go.Lib.index_one _ _
  have L : Lays.n219 Tryd.prog Tryd.laysm145_ren := { Tryd.laysm145 with }
  rcases Go.Lib.indexB_cases s ⟨#[c]⟩ with hx | ⟨i, hx, hroom⟩
  · obtain ⟨e1, e2, e3⟩ := Go.Lib.cutB_miss s ⟨#[c]⟩ hx
    rw [hix] at hx
    rw [show [c] = (⟨#[c]⟩ : ByteArray).data.toList from rfl, e1, e2, e3]
    clear e1 e2 e3 hix
    go_enter Tryd.func23, Tryd.ntmps23
    go_wp2_with fail
    refine (Any.stringslite_Index_one L s c w).mono ?_
    rintro e w' ⟨rfl, rfl⟩
    rw [hx]
    dsimp only
    go_wp2
    go_ret3
    exact ⟨rfl, 0, rfl⟩
  · obtain ⟨e1, e2, e3⟩ := Go.Lib.cutB_hit s ⟨#[c]⟩ i hx
    rw [hix] at hx
    rw [show [c] = (⟨#[c]⟩ : ByteArray).data.toList from rfl, e1, e2, e3]
    have hr : i + 1 ≤ s.size := hroom
    have c1 : (0 : Int) ≤ ↑i := by omega
    have c2 : (↑i : Int) ≤ ↑s.size := by omega
    have c3 : (0 : Int) ≤ ↑i + 1 := by omega
    have c4 : (↑i + 1 : Int) ≤ ↑s.size := by omega
    have c5 : IntKind.i64.wrap ((i : Int) + 1) = (i : Int) + 1 := by
      simp only [IntKind.wrap, IntKind.signed, IntKind.bits]
      simp
      omega
    have mixed := L.mixed
    clear e1 e2 e3 hix hroom
    go_enter Tryd.func23, Tryd.ntmps23
    go_wp2_with fail
    refine (Any.stringslite_Index_one L s c w).mono ?_
    rintro e w' ⟨rfl, rfl⟩
    rw [hx]
    dsimp only
    go_wp2
    go_region_o
    go_wp2
    go_ret3
    exact ⟨rfl, 1, rfl⟩
set_option maxRecDepth 100000 in
theorem Cut1_walk (s : ByteArray) (hs : s.size ≤ 4398046511104) (c : UInt8) (w : World) : Calls Tryd.prog 15 #[.string s, .string ⟨#[c]⟩] w fun e w' => e = .returned (.tuple #[.string ⟨(Go.Lib.cut s.data.toList [c]).1.toArray⟩, .string ⟨(Go.Lib.cut s.data.toList [c]).2.1.toArray⟩, .bool (Go.Lib.cut s.data.toList [c]).2.2]) ∧ ∃ n, w' = w.drewN n := by
  go_enter Tryd.func15, Tryd.ntmps15
  go_wp2_with fail
  refine (slCut_walk s hs c w).mono ?_
  rintro e w' ⟨rfl, n, rfl⟩
  dsimp only
  go_wp2
  go_ret3
  exact ⟨rfl, n, rfl⟩
/-- a target's path and its query -/
def cA (l : List UInt8) : List UInt8 := (Go.Lib.cut l [63]).1
def cQ (l : List UInt8) : List UInt8 := (Go.Lib.cut l [63]).2.1
theorem cA_len (l : List UInt8) : (cA l).length ≤ l.length ∧ (cQ l).length ≤ l.length := by
  unfold cA cQ Go.Lib.cut
  split <;> simp <;> omega
theorem cut_no {l : List UInt8} (h : (63 : UInt8) ∉ l) : cA l = l ∧ cQ l = [] := by
  have h1 := ixb_ge 63 l
  have h2 : Go.Lib.index l [63] = -1 := by
    rw [Go.Lib.index_one]
    have : ¬ 0 ≤ Go.Lib.indexByte l 63 := fun h3 => h (h1.1.1 h3)
    omega
  unfold cA cQ Go.Lib.cut
  rw [h2]
  simp
def pok (l : List UInt8) : Bool := (une (cA l)).isSome && (hd47 (cA l) && qok (cQ l))
def pth (l : List UInt8) : List UInt8 := (une (cA l)).getD []
def spR (ad : Nat → Addr) (l : List UInt8) : Value := if pok l = true then .tuple #[vs (pth l), vs (cQ l), .nilIface] else .tuple #[.string ⟨#[]⟩, .string ⟨#[]⟩, ev (ad 9)]
theorem spR_no {ad : Nat → Addr} {l : List UInt8} (h : pok l = false) : spR ad l = .tuple #[.string ⟨#[]⟩, .string ⟨#[]⟩, ev (ad 9)] := by unfold spR; rw [if_neg (by rw [h]; simp)]
theorem spR_ok {ad : Nat → Addr} {l : List UInt8} (h : pok l = true) : spR ad l = .tuple #[vs (pth l), vs (cQ l), .nilIface] := by unfold spR; rw [if_pos h]
set_option maxRecDepth 100000 in
set_option maxHeartbeats 2000000 in
theorem splitTarget_walk (ad : Nat → Addr) (s : ByteArray) (hs : s.size ≤ 1099511627776) (w : World) (h : GE w ad) : Calls Tryd.prog 11 #[.string s] w fun e w' => e = .returned (spR ad s.data.toList) ∧ Up w w' := by
  have HG := Hid.of h
  clear h
  have HCut := Hid.of (Cut1_walk s (by omega) 63 w)
  have hAl := cA_len s.data.toList
  rw [← Go.Lib.size_eq] at hAl
  obtain ⟨L, hL⟩ : ∃ L, s.data.toList = L := ⟨_, rfl⟩
  rw [hL] at HCut hAl ⊢
  clear hL
  obtain ⟨p, hp⟩ : ∃ p : ByteArray, (⟨(Go.Lib.cut L [63]).1.toArray⟩ : ByteArray) = p := ⟨_, rfl⟩
  obtain ⟨q, hq⟩ : ∃ q : ByteArray, (⟨(Go.Lib.cut L [63]).2.1.toArray⟩ : ByteArray) = q := ⟨_, rfl⟩
  rw [hp, hq] at HCut
  generalize (Go.Lib.cut L [63]).2.2 = bb at *
  have hpA : p.data.toList = cA L := by rw [← hp]; rfl
  have hqA : q.data.toList = cQ L := by rw [← hq]; rfl
  have HQv := Hid.of (show Value.string q = vs (cQ L) by rw [← hq]; rfl)
  clear hp hq
  have hps : p.size ≤ 1099511627776 := by rw [Go.Lib.size_eq, hpA]; omega
  have hqs : q.size ≤ 1099511627776 := by rw [Go.Lib.size_eq, hqA]; omega
  have HPA := Hid.of hpA
  have HQA := Hid.of hqA
  clear hpA hqA hAl
  go_enter Tryd.func11, Tryd.ntmps11
  go_wp2_with fail
  refine HCut.out.mono ?_
  rintro e w1 ⟨rfl, n, h9⟩
  have HU1 := Hid.of (show Up w w1 by rw [h9]; exact (Up.refl w).drewN n)
  clear h9
  dsimp only
  have HUn := Hid.of (unescape_walk p hps w1)
  rw [HPA.out] at HUn
  cases hu : une (cA L) with
  | none =>
    have HE := Hid.of (show spR ad L = _ from spR_no (by unfold pok; rw [hu]; rfl))
    rw [unR_none hu] at HUn
    go_wp2_with fail
    refine HUn.out.mono ?_
    rintro e w2 ⟨rfl, h9⟩
    have HU2 := Hid.of (HU1.out.trans h9)
    clear h9
    dsimp only
    go_wp2
    refine wp_region_held_drew (S := fun w2 => GE w2 ad ∧ Up w w2) (by kernel_rfl) ⟨HG.out.up HU2.out.drew, HU2.out.drew⟩ (fun hS => ?_)
    refine wpAnyH_take (i := 0) (oi := { dst := some 31, op := Go.Op.load 33 (Go.Operand.global 10), type := 33, pos := "target.go:15", after := #[{ on := 2, ground := Go.Ground.gcOnly Go.Departure.lateStores }], guard := none }) (v := ev (ad 9)) rfl (by kernel_rfl) (by kernel_rfl) (by kernel_rfl) (fun _ _ _ h => h) (Or.inl ⟨by kernel_rfl, ?_⟩) hS ?_
    · intro w5 hSw
      have hgl : w5.cell? ⟨10, 0, none⟩ = _ := hSw.1.gl 9 (by decide)
      clear hSw hS
      go_simp
    simp only [Act.put, List.setIfInBounds_toArray, List.set_cons_zero, List.set_cons_succ]
    refine wpAnyH_take (i := 1) (oi := { dst := some 2, op := Go.Op.assign (Go.Operand.const (Go.Value.string { data := #[] })), type := 9, pos := "target.go:15", after := #[{ on := 0, ground := Go.Ground.textOnly Go.Departure.lateStores }], guard := none }) (v := .string ⟨#[]⟩) rfl (by kernel_rfl) (by kernel_rfl) (by kernel_rfl) (fun _ _ _ h => h) (Or.inl ⟨by kernel_rfl, ?_⟩) hS ?_
    · intro w5 hSw
      clear hSw hS
      go_simp
    simp only [Act.put, List.setIfInBounds_toArray, List.set_cons_zero, List.set_cons_succ]
    refine wpAnyH_take (i := 2) (oi := { dst := some 3, op := Go.Op.assign (Go.Operand.const (Go.Value.string { data := #[] })), type := 9, pos := "target.go:15", after := #[{ on := 1, ground := Go.Ground.chain }, { on := 0, ground := Go.Ground.textOnly Go.Departure.lateStores }, { on := 1, ground := Go.Ground.phase }], guard := none }) (v := .string ⟨#[]⟩) rfl (by kernel_rfl) (by kernel_rfl) (by kernel_rfl) (fun _ _ _ h => h) (Or.inl ⟨by kernel_rfl, ?_⟩) hS ?_
    · intro w5 hSw
      clear hSw hS
      go_simp
    simp only [Act.put, List.setIfInBounds_toArray, List.set_cons_zero, List.set_cons_succ]
    refine wpAnyH_take (i := 3) (oi := { dst := some 4, op := Go.Op.assign (Go.Operand.tmp 31), type := 33, pos := "target.go:15", after := #[{ on := 0, ground := Go.Ground.data }, { on := 2, ground := Go.Ground.chain }, { on := 0, ground := Go.Ground.phase }, { on := 1, ground := Go.Ground.phase }, { on := 2, ground := Go.Ground.phase }], guard := none }) (v := ev (ad 9)) rfl (by kernel_rfl) (by kernel_rfl) (by kernel_rfl) (fun _ _ _ h => h) (Or.inl ⟨by kernel_rfl, ?_⟩) hS ?_
    · intro w5 hSw
      clear hSw hS
      go_simp
    simp only [Act.put, List.setIfInBounds_toArray, List.set_cons_zero, List.set_cons_succ]
    refine wpAnyH_done (by kernel_rfl) ?_ _
    have HS2 := Hid.of hS.2
    clear hS
    go_wp2
    go_ret3
    rw [HE.out]
    exact ⟨rfl, HS2.out⟩
  | some u =>
    rw [unR_some hu] at HUn
    go_wp2_with fail
    refine HUn.out.mono ?_
    rintro e w2 ⟨rfl, h9⟩
    have HU2 := Hid.of (HU1.out.trans h9)
    clear h9
    dsimp only
    have HP := Hid.of (Pre47_walk p w2)
    rw [HPA.out] at HP
    cases hh : hd47 (cA L) with
    | false =>
      have HE := Hid.of (show spR ad L = _ from spR_no (by unfold pok; rw [hu, hh]; rfl))
      rw [hh] at HP
      go_wp2_with fail
      refine HP.out.mono ?_
      rintro e w9 ⟨rfl, h9⟩
      obtain rfl := h9.symm
      clear h9
      dsimp only
      go_wp2
      refine wp_region_held_drew (S := fun w2 => GE w2 ad ∧ Up w w2) (by kernel_rfl) ⟨HG.out.up HU2.out.drew, HU2.out.drew⟩ (fun hS => ?_)
      refine wpAnyH_take (i := 0) (oi := { dst := some 31, op := Go.Op.load 33 (Go.Operand.global 10), type := 33, pos := "target.go:15", after := #[{ on := 2, ground := Go.Ground.gcOnly Go.Departure.lateStores }], guard := none }) (v := ev (ad 9)) rfl (by kernel_rfl) (by kernel_rfl) (by kernel_rfl) (fun _ _ _ h => h) (Or.inl ⟨by kernel_rfl, ?_⟩) hS ?_
      · intro w5 hSw
        have hgl : w5.cell? ⟨10, 0, none⟩ = _ := hSw.1.gl 9 (by decide)
        clear hSw hS
        go_simp
      simp only [Act.put, List.setIfInBounds_toArray, List.set_cons_zero, List.set_cons_succ]
      refine wpAnyH_take (i := 1) (oi := { dst := some 2, op := Go.Op.assign (Go.Operand.const (Go.Value.string { data := #[] })), type := 9, pos := "target.go:15", after := #[{ on := 0, ground := Go.Ground.textOnly Go.Departure.lateStores }], guard := none }) (v := .string ⟨#[]⟩) rfl (by kernel_rfl) (by kernel_rfl) (by kernel_rfl) (fun _ _ _ h => h) (Or.inl ⟨by kernel_rfl, ?_⟩) hS ?_
      · intro w5 hSw
        clear hSw hS
        go_simp
      simp only [Act.put, List.setIfInBounds_toArray, List.set_cons_zero, List.set_cons_succ]
      refine wpAnyH_take (i := 2) (oi := { dst := some 3, op := Go.Op.assign (Go.Operand.const (Go.Value.string { data := #[] })), type := 9, pos := "target.go:15", after := #[{ on := 1, ground := Go.Ground.chain }, { on := 0, ground := Go.Ground.textOnly Go.Departure.lateStores }, { on := 1, ground := Go.Ground.phase }], guard := none }) (v := .string ⟨#[]⟩) rfl (by kernel_rfl) (by kernel_rfl) (by kernel_rfl) (fun _ _ _ h => h) (Or.inl ⟨by kernel_rfl, ?_⟩) hS ?_
      · intro w5 hSw
        clear hSw hS
        go_simp
      simp only [Act.put, List.setIfInBounds_toArray, List.set_cons_zero, List.set_cons_succ]
      refine wpAnyH_take (i := 3) (oi := { dst := some 4, op := Go.Op.assign (Go.Operand.tmp 31), type := 33, pos := "target.go:15", after := #[{ on := 0, ground := Go.Ground.data }, { on := 2, ground := Go.Ground.chain }, { on := 0, ground := Go.Ground.phase }, { on := 1, ground := Go.Ground.phase }, { on := 2, ground := Go.Ground.phase }], guard := none }) (v := ev (ad 9)) rfl (by kernel_rfl) (by kernel_rfl) (by kernel_rfl) (fun _ _ _ h => h) (Or.inl ⟨by kernel_rfl, ?_⟩) hS ?_
      · intro w5 hSw
        clear hSw hS
        go_simp
      simp only [Act.put, List.setIfInBounds_toArray, List.set_cons_zero, List.set_cons_succ]
      refine wpAnyH_done (by kernel_rfl) ?_ _
      have HS2 := Hid.of hS.2
      clear hS
      go_wp2
      go_ret3
      rw [HE.out]
      exact ⟨rfl, HS2.out⟩
    | true =>
      rw [hh] at HP
      go_wp2_with fail
      refine HP.out.mono ?_
      rintro e w9 ⟨rfl, h9⟩
      obtain rfl := h9.symm
      clear h9
      dsimp only
      have HM := Hid.of (mayBeQuery_walk q hqs w2)
      rw [HQA.out] at HM
      cases hm : qok (cQ L) with
      | false =>
        have HE := Hid.of (show spR ad L = _ from spR_no (by unfold pok; rw [hu, hh, hm]; rfl))
        rw [hm] at HM
        go_wp2_with fail
        refine HM.out.mono ?_
        rintro e w3 ⟨rfl, h9⟩
        have HU3 := Hid.of (HU2.out.trans h9)
        clear h9
        dsimp only
        go_wp2
        refine wp_region_held_drew (S := fun w2 => GE w2 ad ∧ Up w w2) (by kernel_rfl) ⟨HG.out.up HU3.out.drew, HU3.out.drew⟩ (fun hS => ?_)
        refine wpAnyH_take (i := 0) (oi := { dst := some 31, op := Go.Op.load 33 (Go.Operand.global 10), type := 33, pos := "target.go:15", after := #[{ on := 2, ground := Go.Ground.gcOnly Go.Departure.lateStores }], guard := none }) (v := ev (ad 9)) rfl (by kernel_rfl) (by kernel_rfl) (by kernel_rfl) (fun _ _ _ h => h) (Or.inl ⟨by kernel_rfl, ?_⟩) hS ?_
        · intro w5 hSw
          have hgl : w5.cell? ⟨10, 0, none⟩ = _ := hSw.1.gl 9 (by decide)
          clear hSw hS
          go_simp
        simp only [Act.put, List.setIfInBounds_toArray, List.set_cons_zero, List.set_cons_succ]
        refine wpAnyH_take (i := 1) (oi := { dst := some 2, op := Go.Op.assign (Go.Operand.const (Go.Value.string { data := #[] })), type := 9, pos := "target.go:15", after := #[{ on := 0, ground := Go.Ground.textOnly Go.Departure.lateStores }], guard := none }) (v := .string ⟨#[]⟩) rfl (by kernel_rfl) (by kernel_rfl) (by kernel_rfl) (fun _ _ _ h => h) (Or.inl ⟨by kernel_rfl, ?_⟩) hS ?_
        · intro w5 hSw
          clear hSw hS
          go_simp
        simp only [Act.put, List.setIfInBounds_toArray, List.set_cons_zero, List.set_cons_succ]
        refine wpAnyH_take (i := 2) (oi := { dst := some 3, op := Go.Op.assign (Go.Operand.const (Go.Value.string { data := #[] })), type := 9, pos := "target.go:15", after := #[{ on := 1, ground := Go.Ground.chain }, { on := 0, ground := Go.Ground.textOnly Go.Departure.lateStores }, { on := 1, ground := Go.Ground.phase }], guard := none }) (v := .string ⟨#[]⟩) rfl (by kernel_rfl) (by kernel_rfl) (by kernel_rfl) (fun _ _ _ h => h) (Or.inl ⟨by kernel_rfl, ?_⟩) hS ?_
        · intro w5 hSw
          clear hSw hS
          go_simp
        simp only [Act.put, List.setIfInBounds_toArray, List.set_cons_zero, List.set_cons_succ]
        refine wpAnyH_take (i := 3) (oi := { dst := some 4, op := Go.Op.assign (Go.Operand.tmp 31), type := 33, pos := "target.go:15", after := #[{ on := 0, ground := Go.Ground.data }, { on := 2, ground := Go.Ground.chain }, { on := 0, ground := Go.Ground.phase }, { on := 1, ground := Go.Ground.phase }, { on := 2, ground := Go.Ground.phase }], guard := none }) (v := ev (ad 9)) rfl (by kernel_rfl) (by kernel_rfl) (by kernel_rfl) (fun _ _ _ h => h) (Or.inl ⟨by kernel_rfl, ?_⟩) hS ?_
        · intro w5 hSw
          clear hSw hS
          go_simp
        simp only [Act.put, List.setIfInBounds_toArray, List.set_cons_zero, List.set_cons_succ]
        refine wpAnyH_done (by kernel_rfl) ?_ _
        have HS2 := Hid.of hS.2
        clear hS
        go_wp2
        go_ret3
        rw [HE.out]
        exact ⟨rfl, HS2.out⟩
      | true =>
        have HE := Hid.of (show spR ad L = .tuple #[vs u, vs (cQ L), .nilIface] from (spR_ok (by unfold pok; rw [hu, hh, hm]; rfl)).trans (by unfold pth; rw [hu]; rfl))
        rw [hm] at HM
        go_wp2_with fail
        refine HM.out.mono ?_
        rintro e w3 ⟨rfl, h9⟩
        have HU3 := Hid.of (HU2.out.trans h9)
        clear h9
        dsimp only
        go_wp2
        go_ret3
        rw [HE.out, ← HQv.out]
        exact ⟨rfl, HU3.out⟩
/-- what Path answers -/
def paR (l : List UInt8) : Value := if pok l = true then .tuple #[vs (pth l), vs (cQ l), .int .i64 0] else .tuple #[.string ⟨#[]⟩, .string ⟨#[]⟩, .int .i64 147]
set_option maxRecDepth 100000 in
theorem Path_walk (ad : Nat → Addr) (s : ByteArray) (hs : s.size ≤ 1099511627776) (w : World) (h : GE w ad) : Calls Tryd.prog 7 #[.string s] w fun e w' => e = .returned (paR s.data.toList) ∧ Up w w' := by
  have HG := Hid.of h
  clear h
  have HSp := Hid.of (splitTarget_walk ad s hs w HG.out)
  unfold paR
  unfold spR at HSp
  cases hp : pok s.data.toList with
  | true =>
    rw [if_pos hp] at HSp
    rw [if_pos rfl]
    generalize vs (pth s.data.toList) = v1 at *
    generalize vs (cQ s.data.toList) = v2 at *
    go_enter Tryd.func7, Tryd.ntmps7
    go_wp2_with fail
    refine HSp.out.mono ?_
    rintro e w1 ⟨rfl, h9⟩
    have HU1 := Hid.of h9
    clear h9
    dsimp only
    go_wp2_with fail
    refine (numberOf_nil ad w1 (HG.out.up HU1.out)).mono ?_
    rintro e w2 ⟨rfl, h9⟩
    have HU2 := Hid.of (HU1.out.trans h9)
    clear h9
    dsimp only
    go_wp2
    go_ret3
    exact ⟨rfl, HU2.out⟩
  | false =>
    rw [if_neg (by rw [hp]; simp)] at HSp
    rw [if_neg (by simp)]
    go_enter Tryd.func7, Tryd.ntmps7
    go_wp2_with fail
    refine HSp.out.mono ?_
    rintro e w1 ⟨rfl, h9⟩
    have HU1 := Hid.of h9
    clear h9
    dsimp only
    go_wp2_with fail
    refine (numberOf_err ad 9 (by decide) w1 (HG.out.up HU1.out)).mono ?_
    rintro e w2 ⟨rfl, h9⟩
    have HU2 := Hid.of (HU1.out.trans h9)
    clear h9
    dsimp only
    go_wp2
    go_ret3
    exact ⟨rfl, HU2.out⟩
/-- what Escape answers -/
def eaR (l : List UInt8) : Value := if eok l = true then .tuple #[vs (esc l), .int .i64 0] else .tuple #[.string ⟨#[]⟩, .int .i64 147]
set_option maxRecDepth 100000 in
theorem Escape_walk (ad : Nat → Addr) (s : ByteArray) (hs : s.size ≤ 68719476736) (w : World) (h : GE w ad) : Calls Tryd.prog 8 #[.string s] w fun e w' => e = .returned (eaR s.data.toList) ∧ Up w w' := by
  have HG := Hid.of h
  clear h
  have HSp := Hid.of (escape_walk ad s hs w HG.out)
  unfold eaR
  unfold esR at HSp
  cases hp : eok s.data.toList with
  | true =>
    rw [if_pos hp] at HSp
    rw [if_pos rfl]
    generalize vs (esc s.data.toList) = v1 at *
    go_enter Tryd.func8, Tryd.ntmps8
    go_wp2_with fail
    refine HSp.out.mono ?_
    rintro e w1 ⟨rfl, h9⟩
    have HU1 := Hid.of h9
    clear h9
    dsimp only
    go_wp2_with fail
    refine (numberOf_nil ad w1 (HG.out.up HU1.out)).mono ?_
    rintro e w2 ⟨rfl, h9⟩
    have HU2 := Hid.of (HU1.out.trans h9)
    clear h9
    dsimp only
    go_wp2
    go_ret2
    exact ⟨rfl, HU2.out⟩
  | false =>
    rw [if_neg (by rw [hp]; simp)] at HSp
    rw [if_neg (by simp)]
    go_enter Tryd.func8, Tryd.ntmps8
    go_wp2_with fail
    refine HSp.out.mono ?_
    rintro e w1 ⟨rfl, h9⟩
    have HU1 := Hid.of h9
    clear h9
    dsimp only
    go_wp2_with fail
    refine (numberOf_err ad 9 (by decide) w1 (HG.out.up HU1.out)).mono ?_
    rintro e w2 ⟨rfl, h9⟩
    have HU2 := Hid.of (HU1.out.trans h9)
    clear h9
    dsimp only
    go_wp2
    go_ret2
    exact ⟨rfl, HU2.out⟩
end Go.Proofs.YtdgpnppnjkpfoaaDoor
