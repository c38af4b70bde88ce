import Derived.Test.YtbdmpdjhgjidlaaGreatDoorRe6
import Derived.Test.YtbdmpdjhgjidlaaGreatDoorBf
import Derived.Test.YtbdmpdjhgjidlaaGreatDoorBd
import Derived.Test.YtbdmpdjhgjidlaaGreatDoorHf
import Derived.Test.YtbdmpdjhgjidlaaGreatDoorQn
import Derived.Test.YtbdmpdjhgjidlaaGreatDoorRuq
import Derived.Test.YtbdmpdjhgjidlaaGreatDoorZh
import Derived.Test.YtbdmpdjhgjidlaaGreatDoorZy
namespace Go.Proofs.YtbdmpdjhgjidlaaGreatDoor
open Go.RowKit Go.Shelf TextNum

set_option maxRecDepth 100000 in
theorem sameBytes_walk (va vb' : Value) (l : List UInt8) (w : World) (ha : Sl w va l) (hb : Sl w vb' l) : Calls Tryz.prog 30 #[va, vb'] w fun e w' => e = .returned (.bool true) ∧ w' = w := by
  have h1 := conv_sl ha
  have h2 := conv_sl hb
  go_enter Tryz.func30, Tryz.ntmps30
  go_wp2
  go_ret
  exact ⟨by simp, rfl⟩
set_option maxRecDepth 100000 in
set_option maxHeartbeats 1000000 in
theorem decodes_two (s : ByteArray) (b : Value) (n m : Int) (w : World) (hT : TabD w ∧ TabL w) : Calls Tryz.prog 14 #[.agg (opc 2 s b n m).toArray] w fun e w' => e = .returned (.bool true) ∧ Up w w' := by
  have HT := Hid.of hT
  clear hT
  unfold opc
  go_enter Tryz.func14, Tryz.ntmps14
  go_wp2_with fail
  refine (DecodeBase64_walk s _ (HT.out.2.up ((Up.refl w).alloc _))).mono ?_
  rintro e w1 ⟨v1, rfl, h1, u1⟩
  have hc1 : w1.cell? ⟨w.heap.size, 1, none⟩ = some (.string s) := ((ob_new w 2 s b n m 30).up u1).rs
  have H1 := Hid.of (And.intro h1 (show Up w w1 from ((Up.refl w).alloc _).trans u1))
  clear h1 u1
  dsimp only
  go_wp2_with fail
  refine (RDecode64_walk s w1).mono ?_
  rintro e w2 ⟨v2, rfl, h2, u2⟩
  have H2 := Hid.of (And.intro h2 u2)
  clear h2 u2 hc1
  have her : ((b64R s.data.toList).2 == (b64R s.data.toList).2) = true := by simp
  obtain ⟨l, hl⟩ : ∃ l, l = (b64R s.data.toList).1 := ⟨_, rfl⟩
  rw [← hl] at H1 H2
  generalize (b64R s.data.toList).2 = er at *
  clear hl
  dsimp only
  go_wp2_with fail
  refine (sameBytes_walk v1 v2 l w2 (H1.out.1.sl.up H2.out.2) H2.out.1.sl).mono ?_
  rintro e w3 ⟨rfl, hw⟩
  obtain rfl := hw.symm
  dsimp only
  go_wp2
  go_ret
  exact ⟨by simp, H1.out.2.trans H2.out.2⟩

set_option maxRecDepth 100000 in
set_option maxHeartbeats 1000000 in
theorem decodes_four (s : ByteArray) (b : Value) (n m : Int) (w : World) (hT : TabD w ∧ TabL w) : Calls Tryz.prog 14 #[.agg (opc 4 s b n m).toArray] w fun e w' => e = .returned (.bool true) ∧ Up w w' := by
  have HT := Hid.of hT
  clear hT
  unfold opc
  go_enter Tryz.func14, Tryz.ntmps14
  go_wp2_with fail
  refine (DecodeHex_walk s _ (HT.out.1.up ((Up.refl w).alloc _))).mono ?_
  rintro e w1 ⟨v1, rfl, h1, u1⟩
  have hc1 : w1.cell? ⟨w.heap.size, 1, none⟩ = some (.string s) := ((ob_new w 4 s b n m 30).up u1).rs
  have H1 := Hid.of (And.intro h1 (show Up w w1 from ((Up.refl w).alloc _).trans u1))
  clear h1 u1
  dsimp only
  go_wp2_with fail
  refine (RDecodeHex_walk s w1).mono ?_
  rintro e w2 ⟨v2, rfl, h2, u2⟩
  have H2 := Hid.of (And.intro h2 u2)
  clear h2 u2 hc1
  have her : ((hexR s.data.toList).2 == (hexR s.data.toList).2) = true := by simp
  obtain ⟨l, hl⟩ : ∃ l, l = (hexR s.data.toList).1 := ⟨_, rfl⟩
  rw [← hl] at H1 H2
  generalize (hexR s.data.toList).2 = er at *
  clear hl
  dsimp only
  go_wp2_with fail
  refine (sameBytes_walk v1 v2 l w2 (H1.out.1.sl.up H2.out.2) H2.out.1.sl).mono ?_
  rintro e w3 ⟨rfl, hw⟩
  obtain rfl := hw.symm
  dsimp only
  go_wp2
  go_ret
  exact ⟨by simp, H1.out.2.trans H2.out.2⟩

set_option maxRecDepth 100000 in
set_option maxHeartbeats 1000000 in
theorem decodes_rest (s : ByteArray) (b : Value) (n m : Int) (w : World) (hT : TabD w ∧ TabL w) : Calls Tryz.prog 14 #[.agg (opc 12 s b n m).toArray] w fun e w' => e = .returned (.bool true) ∧ Up w w' := by
  have HT := Hid.of hT
  clear hT
  unfold opc
  go_enter Tryz.func14, Tryz.ntmps14
  go_wp2_with fail
  refine (Unquote_walk s _ (HT.out.1.up ((Up.refl w).alloc _))).mono ?_
  rintro e w1 ⟨v1, rfl, h1, u1⟩
  have hc1 : w1.cell? ⟨w.heap.size, 1, none⟩ = some (.string s) := ((ob_new w 12 s b n m 30).up u1).rs
  have H1 := Hid.of (And.intro h1 (show Up w w1 from ((Up.refl w).alloc _).trans u1))
  clear h1 u1
  dsimp only
  go_wp2_with fail
  refine (RUnquote_walk s w1).mono ?_
  rintro e w2 ⟨v2, rfl, h2, u2⟩
  have H2 := Hid.of (And.intro h2 u2)
  clear h2 u2 hc1
  have her : ((quoR s.data.toList).2 == (quoR s.data.toList).2) = true := by simp
  obtain ⟨l, hl⟩ : ∃ l, l = (quoR s.data.toList).1 := ⟨_, rfl⟩
  rw [← hl] at H1 H2
  generalize (quoR s.data.toList).2 = er at *
  clear hl
  dsimp only
  go_wp2_with fail
  refine (sameBytes_walk v1 v2 l w2 (H1.out.1.sl.up H2.out.2) H2.out.1.sl).mono ?_
  rintro e w3 ⟨rfl, hw⟩
  obtain rfl := hw.symm
  dsimp only
  go_wp2
  go_ret
  exact ⟨by simp, H1.out.2.trans H2.out.2⟩

end Go.Proofs.YtbdmpdjhgjidlaaGreatDoor
