import Derived.Test.YtfhdddhapjdocaaDoorRb
import Derived.OpenShut
import Derived.ChangeSame
import Derived.WideKeyArgs
namespace Go.Proofs.YtfhdddhapjdocaaDoor
open Go.RowKit TextNum Go.Lib Go.ChangeShapes Go.WideShapes Go.ChangeAt
/-- nothing but zeros -/
def zA2 : Array Value := (List.replicate 64 (Value.int .u8 0)).toArray
theorem cell_byte {v : Value} {z : Int} (h : v = .int .u8 z) (h0 : 0 ≤ z) (h1 : z ≤ 255) : ∃ c : UInt8, v = .int .u8 (c.toNat : Int) := by
  subst h
  refine ⟨UInt8.ofNat z.toNat, ?_⟩
  rw [UInt8.toNat_ofNat', Nat.mod_eq_of_lt (by omega)]
  congr 1
  omega
theorem bytes_of : ∀ (l : List Value), (∀ v, v ∈ l → ∃ c : UInt8, v = .int .u8 (c.toNat : Int)) → ∃ r : List UInt8, l = cb r
  | [], _ => ⟨[], rfl⟩
  | v :: l, h => by
    obtain ⟨c, hc⟩ := h v (by simp)
    obtain ⟨r, hr⟩ := bytes_of l (fun u hu => h u (by simp [hu]))
    exact ⟨c :: r, by rw [hc, hr]; rfl⟩
set_option maxRecDepth 100000 in
theorem open32l {H : Type} {enc : TypeId × Value → H} {W : World} {l : List Value} {sp : Nat → Bool} {hd : Bool} {fuel : Nat} {x : DataW H × List MemPlace}
    (h : DataW.trod enc Tryd.prog W 0 sp hd fuel 43 l = some x) : ∃ r : List UInt8, r.length = 32 ∧ l = cb r := by
  obtain ⟨ys, m2, _, _, hlen, hyl, hel⟩ := DataW.trod_array Tryd.underlying43 h
  rw [show Tryd.prog.cellsOf 5 = 1 by kernel_rfl] at hel
  rw [show Tryd.prog.cellsOf 43 = 32 by kernel_rfl] at hlen
  obtain ⟨r, hr⟩ := bytes_of l (fun v hv => by
    obtain ⟨i, hi, e⟩ := List.getElem_of_mem hv
    have h1 := hel i (by omega)
    rw [Nat.mul_one, List.drop_eq_getElem_cons hi, List.take_succ_cons, List.take_zero, List.getElem?_eq_getElem (by omega)] at h1
    obtain ⟨z, ez, _, wz⟩ := DataW.trod_int Tryd.underlying5 h1
    have hb : 0 ≤ z ∧ z ≤ 255 := by simpa [Lit.wf, IntKind.min, IntKind.max, IntKind.signed, IntKind.bits] using wz
    rw [e] at ez
    exact cell_byte (by simpa using ez) hb.1 hb.2)
  exact ⟨r, by rw [hr, cb_length] at hlen; exact hlen, hr⟩
set_option maxRecDepth 100000 in
/-- two rows of 32 bytes as an argument -/
theorem openA2 {H : Type} {enc : TypeId × Value → H} {W : World} {base : Nat} {v : Value} {d : DataW H} {q : List MemPlace}
    (hval : Value.okWide Tryd.prog W .any base 50 v) (h : DataW.Trod enc Tryd.prog W 0 (fun _ => true) true 50 v d q) :
    ∃ x y : List UInt8, x.length = 32 ∧ y.length = 32 ∧ v = .agg (cb x ++ cb y).toArray := by
  obtain ⟨cs, rfl, hsz⟩ : ∃ cs : Array Value, v = .agg cs ∧ cs.size = Tryd.prog.cellsOf 50 := by
    simp only [Value.okWide, Tryd.underlying50] at hval
    obtain ⟨cs, h1, h2, _⟩ := hval
    exact ⟨cs, h1, h2⟩
  rw [show Tryd.prog.cellsOf 50 = 64 by kernel_rfl] at hsz
  obtain ⟨l⟩ := cs
  have hl : l.length = 64 := by simpa using hsz
  obtain ⟨fuel, hf⟩ := h
  have hf' : DataW.trod enc Tryd.prog W 0 (fun _ => true) true fuel 50 l = some (d, q) := hf
  obtain ⟨xs, m, rfl, hx, _, hxl, hall⟩ := DataW.trod_array Tryd.underlying50 hf'
  rw [show Tryd.prog.cellsOf 43 = 32 by kernel_rfl] at hall
  have h0 := hall 0 (by omega)
  have h1 := hall 1 (by omega)
  rw [List.getElem?_eq_getElem (by omega)] at h0 h1
  obtain ⟨x, hx1, ex⟩ := open32l h0
  obtain ⟨y, hy1, ey⟩ := open32l h1
  refine ⟨x, y, hx1, hy1, ?_⟩
  have e1 : (l.drop (1 * 32)).take 32 = l.drop 32 := List.take_of_length_le (by simp; omega)
  rw [e1] at ey
  rw [Nat.zero_mul, List.drop_zero] at ex
  rw [← ex, ← ey, List.take_append_drop]
end Go.Proofs.YtfhdddhapjdocaaDoor
