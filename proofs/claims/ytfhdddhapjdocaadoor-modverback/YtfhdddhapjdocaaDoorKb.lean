import Derived.Test.YtfhdddhapjdocaaDoorKa
import Derived.Test.YtfhdddhapjdocaaDoorBf
namespace Go.Proofs.YtfhdddhapjdocaaDoor
open Go.RowKit Go.Shelf TextNum ModNum
def sumT (x : List UInt8) : List UInt8 := 104 :: 49 :: 58 :: b64E x
theorem sumT_len {x : List UInt8} (h : x.length = 32) : (sumT x).length = 47 := by
  unfold sumT
  simp only [List.length_cons]
  rw [b64E_length, h]
set_option maxRecDepth 100000 in
theorem Sum_walk (x : List UInt8) (hx : x.length = 32) (w : World) (hT : TabL w) : Calls Tryd.prog 27 #[.agg (cb x).toArray] w fun e w' => e = .returned (vs (sumT x)) ∧ Up w w' := by
  have HA := Hid.of (at_new w 43 (cb x))
  have HU := Hid.of ((Up.refl w).alloc (.cells (cb x).toArray 43))
  have HE := fun v => fun (hS : Sl (w.alloc (.cells (cb x).toArray 43)) v x) => Hid.of (EncodeBase64_walk v x (w.alloc (.cells (cb x).toArray 43)) (hT.below hT.lt HU.out) hS (by rw [hx]; decide))
  have HX := Hid.of hx
  clear hT hx
  go_enter Tryd.func27, Tryd.ntmps27
  have hsl : Sl (w.alloc (.cells (cb x).toArray 43)) (.slice (some ⟨w.heap.size, 0, none⟩) 32 32) x := by
    refine ⟨some ⟨w.heap.size, 0, none⟩, 32, by rw [HX.out], by rw [HX.out]; exact Nat.le_refl _, .inr ⟨w.heap.size, 0, rfl, lt_of_at HA.out, fun i hi => ?_⟩⟩
    rw [Nat.zero_add]
    exact HA.out.cell (cb_get hi)
  have HE2 := Hid.of (HE _ hsl).out
  clear hsl HE
  have hes : (b64E x).length = 44 := by rw [b64E_length, HX.out]
  have HS : Hid (vs (sumT x) = .string ⟨(104 :: 49 :: 58 :: b64E x).toArray⟩) := rfl
  go_wp2_with fail
  refine HE2.out.mono ?_
  rintro e w1 ⟨rfl, u1⟩
  have H1 := Hid.of (HU.out.trans u1)
  clear u1 HE2 HA HU
  dsimp only
  have hsz : (⟨(b64E x).toArray⟩ : ByteArray).size = 44 := by rw [str_len, hes]
  unfold vs
  obtain ⟨sb, hsb⟩ : ∃ sb : ByteArray, sb = ⟨(b64E x).toArray⟩ := ⟨_, rfl⟩
  rw [← hsb] at hsz ⊢
  have HSB := Hid.of (And.intro hsb trivial)
  clear hsb hes
  have hk : ¬ 9223372036854775807 < 3 + sb.size := by omega
  go_wp2
  go_ret
  rw [HS.out]
  refine ⟨?_, H1.out⟩
  rw [HSB.out.1, ba_app]
  rfl
set_option maxRecDepth 100000 in
theorem line_walk (p v s : ByteArray) (hp : p.size ≤ 1048576) (hv : v.size ≤ 1048576) (hs : s.size ≤ 1048576) (w : World) : Calls Tryd.prog 44 #[.string p, .string v, .string s] w fun e w' => e = .returned (.string ⟨(p.data.toList ++ 32 :: v.data.toList ++ 32 :: s.data.toList ++ [10]).toArray⟩) ∧ w' = w := by
  have k1 : ¬ 9223372036854775807 < p.size + 1 := by omega
  have k2 : ¬ 9223372036854775807 < p.size + 1 + v.size := by omega
  have k3 : ¬ 9223372036854775807 < p.size + 1 + v.size + 1 := by omega
  have k4 : ¬ 9223372036854775807 < p.size + 1 + v.size + 1 + s.size := by omega
  have k5 : ¬ 9223372036854775807 < p.size + 1 + v.size + 1 + s.size + 1 := by omega
  go_enter Tryd.func44, Tryd.ntmps44
  go_wp2
  go_ret
  refine ⟨?_, rfl⟩
  simp only [ba_app]
  simp
end Go.Proofs.YtfhdddhapjdocaaDoor
