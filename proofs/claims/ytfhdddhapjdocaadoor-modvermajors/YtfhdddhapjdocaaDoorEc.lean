import Derived.Test.YtfhdddhapjdocaaDoorEb
import Derived.Test.YtfhdddhapjdocaaDoorLx
namespace Go.Proofs.YtfhdddhapjdocaaDoor
open Go.RowKit Go.Shelf TextNum ModNum
def epT (p : List UInt8) : List UInt8 := if (maj p).isSome then esc' p else []
def evT (p : List UInt8) : List UInt8 := if (ver p).isSome then esc' p else []
def upT (s : List UInt8) : List UInt8 := match une s with | none => [] | some p => if (maj p).isSome then p else []
def upE (s : List UInt8) : Int := match une s with | none => 112 | some p => majE p
def uvT (s : List UInt8) : List UInt8 := match une s with | none => [] | some p => if (ver p).isSome then p else []
def uvE (s : List UInt8) : Int := match une s with | none => 112 | some p => verE p
set_option maxRecDepth 100000 in
theorem EscapePath_walk (s : ByteArray) (w : World) (hG : GR w) : Calls Tryd.prog 18 #[.string s] w fun e w' => e = .returned (.tuple #[vs (epT s.data.toList), .int .i64 (majE s.data.toList)]) ∧ Up w w' := by
  have HC := Hid.of (CheckPath_walk s w hG)
  cases hm : maj s.data.toList with
  | none =>
    have HT : Hid (epT s.data.toList = [] ∧ majE s.data.toList = 110) := ⟨by unfold epT; rw [hm]; rfl, majE_none hm⟩
    rw [majE_none hm] at HC
    clear hm
    go_enter Tryd.func18, Tryd.ntmps18
    go_wp2_with fail
    refine (HC.out).mono ?_
    rintro e w1 ⟨rfl, u1⟩
    have H1 := Hid.of (u1)
    have Hu1 := Hid.of u1
    clear u1
    dsimp only
    go_wp2
    go_ret2
    rw [HT.out.1, HT.out.2]
    exact ⟨rfl, H1.out⟩
  | some m =>
    have hl := (maj_len hm).1
    rw [len_of] at hl
    have HE := fun w' => fun (u : Up w w') => Hid.of (escape_walk s (by omega) w' (hG.up u).toGM)
    have HT : Hid (epT s.data.toList = esc' s.data.toList ∧ majE s.data.toList = 0) := ⟨by unfold epT; rw [hm]; rfl, majE_some hm⟩
    rw [majE_some hm] at HC
    clear hm
    go_enter Tryd.func18, Tryd.ntmps18
    go_wp2_with fail
    refine (HC.out).mono ?_
    rintro e w1 ⟨rfl, u1⟩
    have H1 := Hid.of (u1)
    have Hu1 := Hid.of u1
    clear u1
    dsimp only
    go_wp2_with fail
    refine ((HE _ H1.out).out).mono ?_
    rintro e w2 ⟨rfl, u2⟩
    have H2 := Hid.of (H1.out.trans u2)
    have Hu2 := Hid.of u2
    clear u2
    dsimp only
    go_wp2
    go_ret2
    rw [HT.out.1, HT.out.2]
    exact ⟨rfl, H2.out⟩
set_option maxRecDepth 100000 in
theorem EscapeVersion_walk (s : ByteArray) (w : World) (hG : GM w) : Calls Tryd.prog 20 #[.string s] w fun e w' => e = .returned (.tuple #[vs (evT s.data.toList), .int .i64 (verE s.data.toList)]) ∧ Up w w' := by
  have HC := Hid.of (CheckVersion_walk s w hG)
  cases hm : ver s.data.toList with
  | none =>
    have HT : Hid (evT s.data.toList = [] ∧ verE s.data.toList = 111) := ⟨by unfold evT; rw [hm]; rfl, verE_none hm⟩
    rw [verE_none hm] at HC
    clear hm
    go_enter Tryd.func20, Tryd.ntmps20
    go_wp2_with fail
    refine (HC.out).mono ?_
    rintro e w1 ⟨rfl, u1⟩
    have H1 := Hid.of (u1)
    have Hu1 := Hid.of u1
    clear u1
    dsimp only
    go_wp2
    go_ret2
    rw [HT.out.1, HT.out.2]
    exact ⟨rfl, H1.out⟩
  | some m =>
    have hl := (ver_len hm).1
    rw [len_of] at hl
    have HE := fun w' => fun (u : Up w w') => Hid.of (escape_walk s (by omega) w' (hG.up u))
    have HT : Hid (evT s.data.toList = esc' s.data.toList ∧ verE s.data.toList = 0) := ⟨by unfold evT; rw [hm]; rfl, verE_some hm⟩
    rw [verE_some hm] at HC
    clear hm
    go_enter Tryd.func20, Tryd.ntmps20
    go_wp2_with fail
    refine (HC.out).mono ?_
    rintro e w1 ⟨rfl, u1⟩
    have H1 := Hid.of (u1)
    have Hu1 := Hid.of u1
    clear u1
    dsimp only
    go_wp2_with fail
    refine ((HE _ H1.out).out).mono ?_
    rintro e w2 ⟨rfl, u2⟩
    have H2 := Hid.of (H1.out.trans u2)
    have Hu2 := Hid.of u2
    clear u2
    dsimp only
    go_wp2
    go_ret2
    rw [HT.out.1, HT.out.2]
    exact ⟨rfl, H2.out⟩
set_option maxRecDepth 100000 in
theorem UnescapePath_walk (s : ByteArray) (hs : s.size ≤ 140737488355000) (w : World) (hG : GR w) : Calls Tryd.prog 22 #[.string s] w fun e w' => e = .returned (.tuple #[vs (upT s.data.toList), .int .i64 (upE s.data.toList)]) ∧ Up w w' := by
  have HU := Hid.of (unescape_walk s hs w hG.toGM)
  have HC := fun (p : List UInt8) w' => fun (u : Up w w') => Hid.of (CheckPath_walk ⟨p.toArray⟩ w' (hG.up u))
  have HT : Hid (upT s.data.toList = (match une s.data.toList with | none => [] | some p => if (maj p).isSome then p else []) ∧ upE s.data.toList = (match une s.data.toList with | none => 112 | some p => majE p)) := ⟨rfl, rfl⟩
  clear hG
  go_enter Tryd.func22, Tryd.ntmps22
  go_wp2_with fail
  refine HU.out.mono ?_
  rintro e w1 ⟨x, rfl, hx, u1⟩
  have H1 := Hid.of u1
  have HX := Hid.of hx
  clear u1 hx HU
  dsimp only
  cases hu : une s.data.toList with
  | none =>
    rw [hu] at HT
    rw [show (none : Option (List UInt8)).isSome = false from rfl]
    clear hu
    go_wp2
    go_ret2
    rw [HT.out.1, HT.out.2]
    exact ⟨rfl, H1.out⟩
  | some p =>
    rw [hu] at HT
    obtain rfl := HX.out p hu
    rw [show (some x : Option (List UInt8)).isSome = true from rfl]
    have HC2 := Hid.of ((HC x _ H1.out).out)
    clear hu HX HC
    cases hm : maj x with
    | none =>
      rw [majE_none hm] at HC2
      have HT2 := Hid.of (show upT s.data.toList = [] ∧ upE s.data.toList = 110 from ⟨HT.out.1.trans (by simp only [hm]; rfl), HT.out.2.trans (majE_none hm)⟩)
      clear hm HT
      go_wp2_with fail
      refine (HC2.out).mono ?_
      rintro e w2 ⟨rfl, u2⟩
      have H2 := Hid.of (H1.out.trans u2)
      have Hu2 := Hid.of u2
      clear u2
      dsimp only
      go_wp2
      go_ret2
      rw [HT2.out.1, HT2.out.2]
      exact ⟨rfl, H2.out⟩
    | some m =>
      rw [majE_some hm] at HC2
      have HT2 := Hid.of (show upT s.data.toList = x ∧ upE s.data.toList = 0 from ⟨HT.out.1.trans (by simp only [hm]; rfl), HT.out.2.trans (majE_some hm)⟩)
      clear hm HT
      go_wp2_with fail
      refine (HC2.out).mono ?_
      rintro e w2 ⟨rfl, u2⟩
      have H2 := Hid.of (H1.out.trans u2)
      have Hu2 := Hid.of u2
      clear u2
      dsimp only
      go_wp2
      go_ret2
      rw [HT2.out.1, HT2.out.2]
      exact ⟨rfl, H2.out⟩
set_option maxRecDepth 100000 in
theorem UnescapeVersion_walk (s : ByteArray) (hs : s.size ≤ 140737488355000) (w : World) (hG : GM w) : Calls Tryd.prog 23 #[.string s] w fun e w' => e = .returned (.tuple #[vs (uvT s.data.toList), .int .i64 (uvE s.data.toList)]) ∧ Up w w' := by
  have HU := Hid.of (unescape_walk s hs w hG)
  have HC := fun (p : List UInt8) w' => fun (u : Up w w') => Hid.of (CheckVersion_walk ⟨p.toArray⟩ w' (hG.up u))
  have HT : Hid (uvT s.data.toList = (match une s.data.toList with | none => [] | some p => if (ver p).isSome then p else []) ∧ uvE s.data.toList = (match une s.data.toList with | none => 112 | some p => verE p)) := ⟨rfl, rfl⟩
  clear hG
  go_enter Tryd.func23, Tryd.ntmps23
  go_wp2_with fail
  refine HU.out.mono ?_
  rintro e w1 ⟨x, rfl, hx, u1⟩
  have H1 := Hid.of u1
  have HX := Hid.of hx
  clear u1 hx HU
  dsimp only
  cases hu : une s.data.toList with
  | none =>
    rw [hu] at HT
    rw [show (none : Option (List UInt8)).isSome = false from rfl]
    clear hu
    go_wp2
    go_ret2
    rw [HT.out.1, HT.out.2]
    exact ⟨rfl, H1.out⟩
  | some p =>
    rw [hu] at HT
    obtain rfl := HX.out p hu
    rw [show (some x : Option (List UInt8)).isSome = true from rfl]
    have HC2 := Hid.of ((HC x _ H1.out).out)
    clear hu HX HC
    cases hm : ver x with
    | none =>
      rw [verE_none hm] at HC2
      have HT2 := Hid.of (show uvT s.data.toList = [] ∧ uvE s.data.toList = 111 from ⟨HT.out.1.trans (by simp only [hm]; rfl), HT.out.2.trans (verE_none hm)⟩)
      clear hm HT
      go_wp2_with fail
      refine (HC2.out).mono ?_
      rintro e w2 ⟨rfl, u2⟩
      have H2 := Hid.of (H1.out.trans u2)
      have Hu2 := Hid.of u2
      clear u2
      dsimp only
      go_wp2
      go_ret2
      rw [HT2.out.1, HT2.out.2]
      exact ⟨rfl, H2.out⟩
    | some m =>
      rw [verE_some hm] at HC2
      have HT2 := Hid.of (show uvT s.data.toList = x ∧ uvE s.data.toList = 0 from ⟨HT.out.1.trans (by simp only [hm]; rfl), HT.out.2.trans (verE_some hm)⟩)
      clear hm HT
      go_wp2_with fail
      refine (HC2.out).mono ?_
      rintro e w2 ⟨rfl, u2⟩
      have H2 := Hid.of (H1.out.trans u2)
      have Hu2 := Hid.of u2
      clear u2
      dsimp only
      go_wp2
      go_ret2
      rw [HT2.out.1, HT2.out.2]
      exact ⟨rfl, H2.out⟩
end Go.Proofs.YtfhdddhapjdocaaDoor
