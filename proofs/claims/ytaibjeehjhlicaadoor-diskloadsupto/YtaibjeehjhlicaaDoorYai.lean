import Derived.Test.YtaibjeehjhlicaaDoorYad
namespace Go.Proofs.YtaibjeehjhlicaaDoor
open Go.RowKit Go.Shelf TextNum ModNum
set_option maxRecDepth 100000 in
theorem keyS (s : ByteArray) (h : s.size ≤ 255) : keyOf Tryd.prog 9 (.string s) = some (.string s.data.toList) := by
  have h2 : s.size ≤ maxLen := by simp only [maxLen]; omega
  simp [keyOf, mapKey, Tryd.underlying9, h2]
/-- every name's value is a file's block -/
def Ptrs (D : DataW Unit) : Prop := ∀ k z, Maps.has D k = true → ∃ b : Nat, D.atKey k z = fd b
theorem nm_len {l : List UInt8} (h : isNm l = true) : l.length ≤ 255 := by
  unfold isNm at h
  simp only [Bool.and_eq_true, decide_eq_true_eq] at h
  exact h.1.1
abbrev kS (s : ByteArray) : Lit := .string s.data.toList
theorem rp_inv0' {v : Value} {ps : List MemPlace} (h : rp v = some (.lit (.bool false), ps)) : v = .pointer none := by
  unfold rp at h
  split at h
  · rfl
  · simp at h
  · cases h
theorem has_not {D : DataW Unit} {k : Lit} (z : DataW Unit) (h : Maps.has D k = false) : D.atKey k z = z := by
  cases D with
  | map es =>
    rw [Maps.has_eq] at h
    have hf : es.find? (fun p => p.1.sameKey k) = none := List.find?_eq_none.2 (fun x hx hk => List.any_eq_false.1 h x hx hk)
    simp only [DataW.atKey, hf]
  | _ => rfl
/-- find, of any name -/
def fnd (D : DataW Unit) (s : ByteArray) (b : Nat) : Value × Int := if isNm s.data.toList = false then (.pointer none, 120) else if Maps.has D (kS s) = true then (.pointer (some ⟨b, 0, none⟩), 0) else (.pointer none, 121)
set_option maxRecDepth 100000 in
set_option maxHeartbeats 1000000 in
theorem find_gen (D M n b : Nat) (s : ByteArray) (dm : DataW Unit) (x0 x1 x2 x4 x5 x6 x7 x8 x9 x10 x11 : Value) (w : World) (hG : ML w) (hA : At w D 58 [x0, x1, x2, .map (some M), x4, x5, x6, x7, x8, x9, x10, x11]) (hM : OM w M n dm) (hb : ∀ z, Maps.has dm (kS s) = true → dm.atKey (kS s) z = fd b) :
    Calls Tryd.prog 20 #[.pointer (some ⟨D, 0, none⟩), .string s] w fun e w' => e = .returned (.tuple #[(fnd dm s b).1, .int .i64 (fnd dm s b).2]) ∧ Up w w' := by
  have HN := Hid.of (isName_walk s w hG)
  have HA := Hid.of hA
  have HM := Hid.of hM
  have HB := Hid.of hb
  clear hA hM hG hb
  cases hn : isNm s.data.toList with
  | false =>
    have HR := Hid.of (show fnd dm s b = (.pointer none, 120) from if_pos hn)
    rw [hn] at HN
    clear hn
    go_enter Tryd.func20, Tryd.ntmps20
    go_wp2_with fail
    refine (HN.out).mono ?_
    rintro e w1 ⟨rfl, u1⟩
    have H1 := Hid.of (u1)
    have Hu1 := Hid.of u1
    clear u1
    dsimp only
    go_wp2
    go_ret2
    rw [HR.out]
    exact ⟨rfl, H1.out⟩
  | true =>
    have HK := Hid.of (keyS s (by rw [Go.Lib.size_eq]; exact nm_len hn))
    cases hh : Maps.has dm (kS s) with
    | false =>
      have HR := Hid.of (show fnd dm s b = (.pointer none, 121) by unfold fnd; rw [if_neg (by rw [hn]; decide), if_neg (by rw [hh]; decide)])
      have HZ := Hid.of (has_not (.lit (.bool false)) hh)
      have HH := Hid.of hh
      rw [hn] at HN
      clear hn hh
      go_enter Tryd.func20, Tryd.ntmps20
      go_wp2_with fail
      refine HN.out.mono ?_
      rintro e w1 ⟨rfl, u1⟩
      have HU1 := Hid.of u1
      have hc := (HA.out.up u1).cell (i := 3) rfl
      have HM1 := Hid.of (HM.out.up u1)
      clear u1 HM HA
      dsimp only
      go_wp2_with (with_reducible show wpList _ _ _ ({ dst := _, op := Op.lookup 54 _ _ _, type := _, pos := _, after := _, guard := _ } :: _) _ _; refine Shut.out ?_)
      show wpList _ _ _ _ _ _
      refine wpList_lookup_own_ok _ rfl _ _ 54 rfl 9 52 (Maps.string_keyed Tryd.underlying9) Tryd.underlying54 rp (Tryd.zeroValue52 _) (.lit (.bool false)) [] rfl M n dm rfl HM1.out _ (kS s) rfl HK.out ?_
      intro v ps hv
      rw [HZ.out] at hv
      obtain rfl := rp_inv0' hv
      rw [HH.out]
      clear hv
      simp only [Act.put, List.setIfInBounds_toArray, List.set_cons_zero, List.set_cons_succ]
      go_wp2
      go_ret2
      rw [HR.out]
      exact ⟨rfl, HU1.out⟩
    | true =>
      have HR := Hid.of (show fnd dm s b = (.pointer (some ⟨b, 0, none⟩), 0) by unfold fnd; rw [if_neg (by rw [hn]; decide), if_pos hh])
      have HZ := Hid.of (HB.out (.lit (.bool false)) hh)
      have HH := Hid.of hh
      rw [hn] at HN
      clear hn hh
      go_enter Tryd.func20, Tryd.ntmps20
      go_wp2_with fail
      refine HN.out.mono ?_
      rintro e w1 ⟨rfl, u1⟩
      have HU1 := Hid.of u1
      have hc := (HA.out.up u1).cell (i := 3) rfl
      have HM1 := Hid.of (HM.out.up u1)
      clear u1 HM HA
      dsimp only
      go_wp2_with (with_reducible show wpList _ _ _ ({ dst := _, op := Op.lookup 54 _ _ _, type := _, pos := _, after := _, guard := _ } :: _) _ _; refine Shut.out ?_)
      show wpList _ _ _ _ _ _
      refine wpList_lookup_own_ok _ rfl _ _ 54 rfl 9 52 (Maps.string_keyed Tryd.underlying9) Tryd.underlying54 rp (Tryd.zeroValue52 _) (.lit (.bool false)) [] rfl M n dm rfl HM1.out _ (kS s) rfl HK.out ?_
      intro v ps hv
      rw [HZ.out] at hv
      obtain rfl := rp_inv hv
      rw [HH.out]
      clear hv
      simp only [Act.put, List.setIfInBounds_toArray, List.set_cons_zero, List.set_cons_succ]
      go_wp2
      go_ret2
      rw [HR.out]
      exact ⟨rfl, HU1.out⟩
end Go.Proofs.YtaibjeehjhlicaaDoor
