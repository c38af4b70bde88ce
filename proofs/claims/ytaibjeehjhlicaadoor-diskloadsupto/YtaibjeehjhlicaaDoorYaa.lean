import Derived.Test.YtaibjeehjhlicaaDoorDd
import Derived.Maps.Own
import Derived.Maps.OwnSet
namespace Go.Proofs.YtaibjeehjhlicaaDoor
open Go.RowKit Go.Shelf TextNum ModNum
/-- how a pointer reads -/
def rp : Value → Option (DataW Unit × List MemPlace)
  | .pointer none => some (.lit (.bool false), [])
  | .pointer (some ⟨b, 0, none⟩) => some (.lit (.int .i64 (b : Int)), [])
  | _ => none
theorem rp_inv {v : Value} {b : Nat} {ps : List MemPlace} (h : rp v = some (.lit (.int .i64 (b : Int)), ps)) : v = .pointer (some ⟨b, 0, none⟩) := by
  unfold rp at h
  split at h
  · cases h
  · rename_i b' 
    simp only [Option.some.injEq, Prod.mk.injEq, DataW.lit.injEq, Lit.int.injEq, true_and] at h
    obtain ⟨h, _⟩ := h
    obtain rfl : b' = b := by omega
    rfl
  · cases h
abbrev OM (w : World) (M n : Nat) (D : DataW Unit) : Prop := w.ownsMap Tryd.prog 9 rp M n D
abbrev fk : Lit := .string [102]
abbrev fd (F : Nat) : DataW Unit := .lit (.int .i64 (F : Int))
def D1 (F : Nat) : DataW Unit := (DataW.map []).put fk (fd F)
theorem D1_at (F : Nat) (z : DataW Unit) : (D1 F).atKey fk z = fd F := rfl
theorem D1_has (F : Nat) : Maps.has (D1 F) fk = true := rfl
set_option maxRecDepth 100000 in
theorem keyF : keyOf Tryd.prog 9 (.string ⟨#[102]⟩) = some fk := by kernel_rfl
theorem OM.up {w w' : World} {M n : Nat} {D : DataW Unit} (h : OM w M n D) (k : Up w w') : OM w' M n D := by
  have hl := World.ownsMap.lt h
  obtain ⟨es, cl, hb, r⟩ := h
  exact ⟨es, cl, (k.block M hl).trans hb, r⟩
set_option maxRecDepth 100000 in
set_option maxHeartbeats 1000000 in
theorem find_walk (D M F n : Nat) (x0 x1 x2 x4 x5 x6 x7 x8 x9 x10 x11 : Value) (w : World) (hG : ML w) (hA : At w D 58 [x0, x1, x2, .map (some M), x4, x5, x6, x7, x8, x9, x10, x11]) (hM : OM w M n (D1 F)) :
    Calls Tryd.prog 20 #[.pointer (some ⟨D, 0, none⟩), .string ⟨#[102]⟩] w fun e w' => e = .returned (.tuple #[.pointer (some ⟨F, 0, none⟩), .int .i64 0]) ∧ Up w w' := by
  have HN := Hid.of (isName_walk ⟨#[102]⟩ w hG)
  have HA := Hid.of hA
  have HM := Hid.of hM
  clear hA hM hG
  have e1 : isNm (⟨#[102]⟩ : ByteArray).data.toList = true := by decide +kernel
  rw [e1] at HN
  clear e1
  go_enter Tryd.func20, Tryd.ntmps20
  go_wp2_with fail
  refine HN.out.mono ?_
  rintro e w1 ⟨rfl, u1⟩
  have HU1 := Hid.of u1
  have hc := (HA.out.up u1).cell (i := 3) rfl
  have HM1 := Hid.of (HM.out.up u1)
  clear u1 HM HA
  dsimp only
  go_wp2_with (with_reducible show wpList _ _ _ ({ dst := _, op := Op.lookup 54 _ _ _, type := _, pos := _, after := _, guard := _ } :: _) _ _; refine Shut.out ?_)
  show wpList _ _ _ _ _ _
  refine wpList_lookup_own_ok _ rfl _ _ 54 rfl 9 52 (Maps.string_keyed Tryd.underlying9) Tryd.underlying54 rp (Tryd.zeroValue52 _) (.lit (.bool false)) [] rfl M n (D1 F) rfl HM1.out _ fk rfl keyF ?_
  intro v ps hv
  rw [D1_at] at hv
  obtain rfl := rp_inv hv
  rw [D1_has]
  clear hv
  simp only [Act.put, List.setIfInBounds_toArray, List.set_cons_zero, List.set_cons_succ]
  go_wp2
  go_ret2
  exact ⟨rfl, HU1.out⟩
end Go.Proofs.YtaibjeehjhlicaaDoor
namespace Go.Proofs.YtaibjeehjhlicaaDoor
open Go.RowKit Go.Shelf TextNum ModNum
/-- how far a write reaches beyond the end -/
def gro (n : Nat) (p : Int) (m : Nat) : Int := if m = 0 ∨ p + m ≤ n then 0 else p + m - n
/-- what a write's own error is -/
def wrE (room n : Nat) (p : Int) (m : Nat) : Int := if p < 0 ∨ 1048576 < p then 1 else if 0 < gro n p m ∧ (room : Int) < n + gro n p m then 123 else 0
end Go.Proofs.YtaibjeehjhlicaaDoor
