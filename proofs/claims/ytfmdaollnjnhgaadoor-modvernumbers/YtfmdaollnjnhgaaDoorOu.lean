import Derived.Test.YtfmdaollnjnhgaaDoorNt
import Derived.OpenShut
import Derived.ChangeSame
import Derived.WideKeyArgs
namespace Go.Proofs.YtfmdaollnjnhgaaDoor
open Go.RowKit TextNum Go.Lib Go.ChangeShapes Go.WideShapes Go.ChangeAt
theorem cell_u32 {v : Value} {z : Int} (h : v = .int .u32 z) (h0 : 0 ≤ z) (h1 : z ≤ 4294967295) : ∃ c : Nat, c < 4294967296 ∧ v = .int .u32 (c : Int) := by
  subst h
  refine ⟨z.toNat, by omega, ?_⟩
  congr 1
  omega
set_option maxRecDepth 100000 in
theorem open_u3 {H : Type} {enc : TypeId × Value → H} {W : World} {base : Nat} {v : Value} {d : DataW H} {q : List MemPlace}
    (hval : Value.okWide Tryd.prog W .any base 23 v) (h : DataW.Trod enc Tryd.prog W 0 (fun _ => true) true 23 v d q) :
    ∃ x0 x1 x2 : Nat, x0 < 4294967296 ∧ x1 < 4294967296 ∧ x2 < 4294967296 ∧ v = .agg (u3c x0 x1 x2).toArray := by
  obtain ⟨cs, rfl, hsz⟩ : ∃ cs : Array Value, v = .agg cs ∧ cs.size = Tryd.prog.cellsOf 23 := by
    simp only [Value.okWide, Tryd.underlying23] at hval
    obtain ⟨cs, h1, h2, _⟩ := hval
    exact ⟨cs, h1, h2⟩
  rw [show Tryd.prog.cellsOf 23 = 3 by kernel_rfl] at hsz
  obtain ⟨l⟩ := cs
  have hl : l.length = 3 := by simpa using hsz
  obtain ⟨fuel, hf⟩ := h
  have hf' : DataW.trod enc Tryd.prog W 0 (fun _ => true) true fuel 23 l = some (d, q) := hf
  obtain ⟨xs, m, rfl, hx, _, hxl, hall⟩ := DataW.trod_array Tryd.underlying23 hf'
  rw [show Tryd.prog.cellsOf 22 = 1 by kernel_rfl] at hall
  have key : ∀ v, v ∈ l → ∃ c : Nat, c < 4294967296 ∧ v = .int .u32 (c : Int) := fun v hv => by
    obtain ⟨i, hi, e⟩ := List.getElem_of_mem hv
    have h1 := hall i (by omega)
    rw [Nat.mul_one, List.drop_eq_getElem_cons hi, List.take_succ_cons, List.take_zero, List.getElem?_eq_getElem (by omega)] at h1
    obtain ⟨z, ez, _, wz⟩ := DataW.trod_int Tryd.underlying22 h1
    have hb : 0 ≤ z ∧ z ≤ 4294967295 := by simpa [Lit.wf, IntKind.min, IntKind.max, IntKind.signed, IntKind.bits] using wz
    rw [e] at ez
    exact cell_u32 (by simpa using ez) hb.1 hb.2
  match l, hl with
  | [y0, y1, y2], _ =>
    obtain ⟨c0, k0, rfl⟩ := key y0 (by simp)
    obtain ⟨c1, k1, rfl⟩ := key y1 (by simp)
    obtain ⟨c2, k2, rfl⟩ := key y2 (by simp)
    exact ⟨c0, c1, c2, k0, k1, k2, rfl⟩
end Go.Proofs.YtfmdaollnjnhgaaDoor
