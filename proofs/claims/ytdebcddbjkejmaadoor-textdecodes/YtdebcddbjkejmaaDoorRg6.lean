import Derived.Test.YtdebcddbjkejmaaDoorRe6
import Derived.Test.YtdebcddbjkejmaaDoorBf
import Derived.Test.YtdebcddbjkejmaaDoorJw
namespace Go.Proofs.YtdebcddbjkejmaaDoor
open Go.RowKit TextNum

set_option maxRecDepth 100000 in
theorem sameBytes_walk (va vb' : Value) (l : List UInt8) (w : World) (ha : Sl w va l) (hb : Sl w vb' l) : Calls Tryd.prog 34 #[va, vb'] w fun e w' => e = .returned (.bool true) ∧ w' = w := by
  have h1 := conv_sl ha
  have h2 := conv_sl hb
  go_enter Tryd.func34, Tryd.ntmps34
  go_wp2
  go_ret
  exact ⟨by simp, rfl⟩
/-- a call as a value -/
abbrev opv (k : Int) (s : ByteArray) : Value := .agg #[.int .i64 k, .string s, .slice none 0 0, .int .i64 0, .int .i64 0]
theorem op_cell (w : World) (k : Int) (s : ByteArray) (t : TypeId) : (w.alloc (.cells #[.int .i64 k, .string s, .slice none 0 0, .int .i64 0, .int .i64 0] t)).cell? ⟨w.heap.size, 1, none⟩ = some (.string s) := by
  have := cells_new w t [.int .i64 k, .string s, .slice none 0 0, .int .i64 0, .int .i64 0] 1 (.string s) rfl
  rwa [add_plain] at this

set_option maxRecDepth 100000 in
set_option maxHeartbeats 1000000 in
theorem decodes_two (s : ByteArray) (w : World) (hT : TabD w ∧ TabL w) : Calls Tryd.prog 20 #[opv 2 s] w fun e w' => e = .returned (.bool true) ∧ Up w w' := by
  have HT := Hid.of hT
  clear hT
  unfold opv
  go_enter Tryd.func20, Tryd.ntmps20
  go_wp2_with fail
  refine (DecodeBase64_walk s _ (HT.out.2.up ((Up.refl w).alloc _))).mono ?_
  rintro e w1 ⟨v1, rfl, h1, u1⟩
  have hc1 : w1.cell? ⟨w.heap.size, 1, none⟩ = some (.string s) := u1.cell (op_cell w 2 s _)
  have H1 := Hid.of (And.intro h1 (show Up w w1 from ((Up.refl w).alloc _).trans u1))
  clear h1 u1
  dsimp only
  go_wp2_with fail
  refine (RDecode64_walk s w1).mono ?_
  rintro e w2 ⟨v2, rfl, h2, u2⟩
  have H2 := Hid.of (And.intro h2 u2)
  clear h2 u2 hc1
  have her : ((b64R s.data.toList).2 == (b64R s.data.toList).2) = true := by simp
  obtain ⟨l, hl⟩ : ∃ l, l = (b64R s.data.toList).1 := ⟨_, rfl⟩
  rw [← hl] at H1 H2
  generalize (b64R s.data.toList).2 = er at *
  clear hl
  dsimp only
  go_wp2_with fail
  refine (sameBytes_walk v1 v2 l w2 (H1.out.1.sl.up H2.out.2) H2.out.1.sl).mono ?_
  rintro e w3 ⟨rfl, hw⟩
  obtain rfl := hw.symm
  dsimp only
  go_wp2
  go_ret
  exact ⟨by simp, H1.out.2.trans H2.out.2⟩

set_option maxRecDepth 100000 in
set_option maxHeartbeats 1000000 in
theorem decodes_four (s : ByteArray) (w : World) (hT : TabD w ∧ TabL w) : Calls Tryd.prog 20 #[opv 4 s] w fun e w' => e = .returned (.bool true) ∧ Up w w' := by
  have HT := Hid.of hT
  clear hT
  unfold opv
  go_enter Tryd.func20, Tryd.ntmps20
  go_wp2_with fail
  refine (DecodeHex_walk s _ (HT.out.1.up ((Up.refl w).alloc _))).mono ?_
  rintro e w1 ⟨v1, rfl, h1, u1⟩
  have hc1 : w1.cell? ⟨w.heap.size, 1, none⟩ = some (.string s) := u1.cell (op_cell w 4 s _)
  have H1 := Hid.of (And.intro h1 (show Up w w1 from ((Up.refl w).alloc _).trans u1))
  clear h1 u1
  dsimp only
  go_wp2_with fail
  refine (RDecodeHex_walk s w1).mono ?_
  rintro e w2 ⟨v2, rfl, h2, u2⟩
  have H2 := Hid.of (And.intro h2 u2)
  clear h2 u2 hc1
  have her : ((hexR s.data.toList).2 == (hexR s.data.toList).2) = true := by simp
  obtain ⟨l, hl⟩ : ∃ l, l = (hexR s.data.toList).1 := ⟨_, rfl⟩
  rw [← hl] at H1 H2
  generalize (hexR s.data.toList).2 = er at *
  clear hl
  dsimp only
  go_wp2_with fail
  refine (sameBytes_walk v1 v2 l w2 (H1.out.1.sl.up H2.out.2) H2.out.1.sl).mono ?_
  rintro e w3 ⟨rfl, hw⟩
  obtain rfl := hw.symm
  dsimp only
  go_wp2
  go_ret
  exact ⟨by simp, H1.out.2.trans H2.out.2⟩

set_option maxRecDepth 100000 in
set_option maxHeartbeats 1000000 in
theorem decodes_rest (s : ByteArray) (w : World) (hT : TabD w ∧ TabL w) : Calls Tryd.prog 20 #[opv 12 s] w fun e w' => e = .returned (.bool true) ∧ Up w w' := by
  have HT := Hid.of hT
  clear hT
  unfold opv
  go_enter Tryd.func20, Tryd.ntmps20
  go_wp2_with fail
  refine (Unquote_walk s _ (HT.out.1.up ((Up.refl w).alloc _))).mono ?_
  rintro e w1 ⟨v1, rfl, h1, u1⟩
  have hc1 : w1.cell? ⟨w.heap.size, 1, none⟩ = some (.string s) := u1.cell (op_cell w 12 s _)
  have H1 := Hid.of (And.intro h1 (show Up w w1 from ((Up.refl w).alloc _).trans u1))
  clear h1 u1
  dsimp only
  go_wp2_with fail
  refine (RUnquote_walk s w1).mono ?_
  rintro e w2 ⟨v2, rfl, h2, u2⟩
  have H2 := Hid.of (And.intro h2 u2)
  clear h2 u2 hc1
  have her : ((quoR s.data.toList).2 == (quoR s.data.toList).2) = true := by simp
  obtain ⟨l, hl⟩ : ∃ l, l = (quoR s.data.toList).1 := ⟨_, rfl⟩
  rw [← hl] at H1 H2
  generalize (quoR s.data.toList).2 = er at *
  clear hl
  dsimp only
  go_wp2_with fail
  refine (sameBytes_walk v1 v2 l w2 (H1.out.1.sl.up H2.out.2) H2.out.1.sl).mono ?_
  rintro e w3 ⟨rfl, hw⟩
  obtain rfl := hw.symm
  dsimp only
  go_wp2
  go_ret
  exact ⟨by simp, H1.out.2.trans H2.out.2⟩

set_option maxRecDepth 100000 in
set_option maxHeartbeats 1000000 in
theorem decodes_walk (s : ByteArray) (w : World) (hT : TabD w ∧ TabL w) : Calls Tryd.prog 5 #[.string s] w fun e w' => e = .returned (.bool true) ∧ Up w w' := by
  have HT := Hid.of hT
  clear hT
  go_enter Tryd.func5, Tryd.ntmps5
  go_wp2_with fail
  refine (decodes_two s w HT.out).mono ?_
  rintro e w1 ⟨rfl, u1⟩
  have H1 := Hid.of u1
  clear u1
  dsimp only
  go_wp2_with fail
  refine (decodes_four s w1 ⟨HT.out.1.up H1.out, HT.out.2.up H1.out⟩).mono ?_
  rintro e w2 ⟨rfl, u2⟩
  have H2 := Hid.of (H1.out.trans u2)
  clear u2 H1
  dsimp only
  go_wp2_with fail
  refine (decodes_rest s w2 ⟨HT.out.1.up H2.out, HT.out.2.up H2.out⟩).mono ?_
  rintro e w3 ⟨rfl, u3⟩
  have H3 := Hid.of (H2.out.trans u3)
  clear u3 H2
  dsimp only
  go_wp2_with fail
  refine (EncodeHex_walk _ [165] _ (HT.out.1.up (H3.out.alloc _)) (sl_new w3 [165] _) (by decide)).mono ?_
  rintro e w4 ⟨rfl, u4⟩
  have H4 := Hid.of (show Up w w4 from (H3.out.alloc _).trans u4)
  clear u4 H3
  rw [show hexE [165] = [97, 53] by decide]
  dsimp only
  go_wp2
  go_ret
  exact ⟨by simp, H4.out⟩
end Go.Proofs.YtdebcddbjkejmaaDoor
