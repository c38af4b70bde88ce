import Derived.Test.YtpjfmkmgfjhnmaaPb
namespace Go.Proofs.Ytpjfmkmgfjhnmaa
open Go.RowKit Tlg
set_option maxRecDepth 100000 in
theorem place_walk (a b : Nat) (h : Rg a b) (hw : Wh (b - a)) (hb : b ≤ 281474976710656) (w : World) : Calls Try.prog 20 #[sp a b] w fun e w' => e = .returned (.int .i64 (pl a b : Int)) ∧ Up w w' := by
  have HU : Hid (∀ o, Up w (w.alloc o)) := fun o => (Up.refl _).alloc o
  have hab := h.1
  have HS := fun w => Hid.of (size_walk a b (by omega) hb w)
  have hl := lg_top (n := b - a) (by omega) (show b - a ≤ top by unfold top; omega)
  have hfit := pl_fit h hw
  have HX := Hid.of (idx_yes (l := lg (b - a)) (n := a / 2 ^ lg (b - a)) (by omega) (by rw [hfit]; exact hb))
  have HP : Hid (plc (lg (b - a)) (a / 2 ^ lg (b - a)) = pl a b ∧ True) := ⟨rfl, trivial⟩
  have hs : (a : Int) / 2 ^ lg (b - a) = ((a / 2 ^ lg (b - a) : Nat) : Int) := by simp
  have hq : a / 2 ^ lg (b - a) ≤ a := Nat.div_le_self _ _
  have HL := fun w => Hid.of (Len_walk (b - a) (by omega) (by omega) w)
  clear h hw hfit
  have hnb : b - a ≤ 281474976710656 := by omega
  generalize pl a b = r at HP ⊢
  generalize a / 2 ^ lg (b - a) = q at HX HP hs hq
  generalize lg (b - a) = l at HX HP hs HL hl
  generalize b - a = n at HS HL hnb
  have hl1 : (l : Int) + 1 - 1 = (l : Int) := by omega
  go_enter Try.func20, Try.ntmps20
  go_wp2_with fail
  refine ((HS _).out).mono ?_
  rintro e w5 ⟨rfl, u5⟩
  dsimp only
  have c0 := u5.cell (p := ⟨w.heap.size, 0, none⟩) (v := .int .i64 (a : Int)) (by simp)
  have c1 := u5.cell (p := ⟨w.heap.size, 1, none⟩) (v := .int .i64 (b : Int)) (by simp)
  have HU5 := Hid.of ((HU.out _).trans u5)
  clear u5 HU
  go_wp2_with fail
  refine ((HL _).out).mono ?_
  rintro e w6 ⟨rfl, rfl⟩
  dsimp only
  go_wp2_with fail
  refine (Index_walk (l : Int) (q : Int) (by omega) (by omega) (by omega) (by omega) _).mono ?_
  rintro e w7 ⟨rfl, rfl⟩
  rw [HX.out, HP.out.1]
  go_wp2
  go_ret
  exact ⟨rfl, HU5.out⟩
end Go.Proofs.Ytpjfmkmgfjhnmaa
