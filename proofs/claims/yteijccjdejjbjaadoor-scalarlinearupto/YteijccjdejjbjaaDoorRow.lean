import Derived.Test.YteijccjdejjbjaaDoorEng
import Derived.ProofKit
namespace Go.Proofs.YteijccjdejjbjaaDoor
open Go.ChangeShapes Go.WideShapes Go.ChangeAt Go.RowKit Go.Shelf ScalarNum

theorem Tryd.own : ownKnob Tryd.prog.godebug = none := by kernel_rfl

theorem exists_digits0 (f : Nat → Nat) (hf : ∀ i, f i < 256) : ∀ k : Nat, ∃ a : Nat, a < 256 ^ k ∧ ∀ i, i < k → a / 256 ^ i % 256 = f i
  | 0 => ⟨0, by simp, fun i hi => by omega⟩
  | k + 1 => by
    obtain ⟨a, ha, h⟩ := exists_digits0 f hf k
    refine ⟨a + f k * 256 ^ k, ?_, fun i hi => ?_⟩
    · rw [Nat.pow_succ]
      have := hf k
      have h2 : (f k + 1) * 256 ^ k ≤ 256 * 256 ^ k := Nat.mul_le_mul_right _ (by omega)
      rw [Nat.add_mul] at h2
      omega
    · by_cases hik : i = k
      · subst hik
        rw [Nat.add_mul_div_right _ _ (Nat.pow_pos (by decide)), Nat.div_eq_of_lt ha, Nat.zero_add, Nat.mod_eq_of_lt (hf i)]
      · have hlt : i < k := by omega
        rw [← h i hlt]
        obtain ⟨d, rfl⟩ : ∃ d, k = i + 1 + d := ⟨k - (i + 1), by omega⟩
        have e : f (i + 1 + d) * 256 ^ (i + 1 + d) = (f (i + 1 + d) * 256 ^ d * 256) * 256 ^ i := by
          rw [Nat.pow_add, Nat.pow_succ]
          simp only [Nat.mul_assoc, Nat.mul_left_comm, Nat.mul_comm]
        rw [e, Nat.add_mul_div_right _ _ (Nat.pow_pos (by decide)), Nat.add_mul_mod_self_right]

theorem exists_digits (f : Nat → Nat) (hf : ∀ i, f i < 256) (k : Nat) : ∃ a : Nat, a < 256 ^ k ∧ ∀ i, i < k → dg 256 a i = f i := exists_digits0 f hf k

/-- what is read of 32 bytes -/
def da (H : Type) (a : Nat) : DataW H := .agg ((List.range 32).map fun i => .lit (.int .u8 ((dg 256 a i : Nat) : Int)))

theorem mapM_all {α β : Type} (f : α → Option β) (g : α → β) : ∀ l : List α, (∀ x ∈ l, f x = some (g x)) → l.mapM f = some (l.map g)
  | [], _ => rfl
  | x :: t, h => by
    rw [List.mapM_cons, h x (by simp), mapM_all f g t (fun y hy => h y (by simp [hy]))]
    rfl

theorem wf_byte (n : Nat) : (Lit.int .u8 ((n % 256 : Nat) : Int)).wf = true := by
  simp [Lit.wf, IntKind.min, IntKind.max, IntKind.signed, IntKind.bits]; omega

theorem wf_dg (a i : Nat) : (Lit.int .u8 ((dg 256 a i : Nat) : Int)).wf = true := wf_byte _

theorem cells32 : Tryd.prog.cellsOf 23 = 32 := by kernel_rfl

theorem trod32 {H : Type} (enc : TypeId × Value → H) (W : World) (base : Nat) (sp : Nat → Bool) (held : Bool) (k a : Nat) :
    DataW.trod enc Tryd.prog W base sp held (k + 2) 23 (yl 32 a) = some (da H a, []) := by
  have h1 : ∀ i ∈ List.range 32, DataW.trod enc Tryd.prog W base sp held (k + 1) 5 (((yl 32 a).drop (i * 1)).take 1) = some (.lit (.int .u8 ((dg 256 a i : Nat) : Int)), []) := by
    intro i hi
    have hi' : i < 32 := by simpa using hi
    have e : ((yl 32 a).drop (i * 1)).take 1 = [.int .u8 ((dg 256 a i : Nat) : Int)] := by
      have hl := yl_length 32 a
      have hg := yl_get 32 a i hi'
      rw [Nat.mul_one]
      rw [List.getElem?_eq_getElem (by omega)] at hg
      rw [List.drop_eq_getElem_cons (by omega), List.take_succ_cons, List.take_zero]
      injection hg with hg
      rw [hg]
    rw [e]
    unfold DataW.trod
    rw [Tryd.underlying5]
    simp only [wf_dg, and_self, ↓reduceIte]
  unfold DataW.trod
  rw [Tryd.underlying23]
  simp only [yl_length, cells32, ↓reduceIte, cells8]
  rw [mapM_all _ _ _ h1]
  simp [da, Function.comp_def]

theorem open32 {H : Type} {enc : TypeId × Value → H} {W : World} {base : Nat} {v : Value} {d : DataW H} {q : List MemPlace}
    (hval : Value.okWide Tryd.prog W .any base 23 v) (h : DataW.Trod enc Tryd.prog W 0 (fun _ => true) true 23 v d q) :
    ∃ a : Nat, a < M ∧ v = yv 32 a ∧ d = da H a ∧ q = [] := by
  obtain ⟨cs, rfl, hsz, _⟩ : ∃ cs, v = .agg cs ∧ cs.size = Tryd.prog.cellsOf 23 ∧ Row.okWide Tryd.prog W .any base 23 cs := by
    simpa [Value.okWide, Tryd.underlying23] using hval
  rw [cells32] at hsz
  obtain ⟨l⟩ := cs
  obtain ⟨fuel, hf⟩ := h
  have hf' : DataW.trod enc Tryd.prog W 0 (fun _ => true) true fuel 23 l = some (d, q) := hf
  obtain ⟨xs, m, rfl, hx, hlen, hxl, hel⟩ := DataW.trod_array Tryd.underlying23 hf'
  rw [cells8] at hel
  have hl : l.length = 32 := by simpa using hsz
  have hcell : ∀ i, i < 32 → ∃ n : Nat, n < 256 ∧ l[i]? = some (.int .u8 (n : Int)) := by
    intro i hi
    have h1 := hel i hi
    rw [Nat.mul_one, List.drop_eq_getElem_cons (by omega), List.take_succ_cons, List.take_zero, List.getElem?_eq_getElem (by omega)] at h1
    obtain ⟨z, e0, _, w0⟩ := DataW.trod_int Tryd.underlying5 h1
    simp at e0
    have hb : 0 ≤ z ∧ z ≤ 255 := by
      simpa [Lit.wf, IntKind.min, IntKind.max, IntKind.signed, IntKind.bits] using w0
    refine ⟨z.toNat, by omega, ?_⟩
    rw [List.getElem?_eq_getElem (by omega), e0]
    congr 2
    omega
  obtain ⟨a, ha, hd⟩ := exists_digits (fun i => if hi : i < 32 then (hcell i hi).choose else 0) (fun i => by
    by_cases hi : i < 32
    · simp only [hi, ↓reduceDIte]; exact (hcell i hi).choose_spec.1
    · simp [hi]) 32
  have e32 : 256 ^ 32 = M := by decide
  rw [e32] at ha
  have el : l = yl 32 a := by
    apply List.ext_getElem?
    intro i
    by_cases hi : i < 32
    · rw [yl_get 32 a i hi, hd i hi]
      simp only [hi, ↓reduceDIte]
      exact (hcell i hi).choose_spec.2
    · rw [List.getElem?_eq_none (by omega), List.getElem?_eq_none (by rw [yl_length]; omega)]
  subst el
  have hm : m ≠ 0 := by
    rintro rfl
    have h1 := hel 0 (by decide)
    rw [List.getElem?_eq_getElem (by omega)] at h1
    simp [DataW.trod] at h1
  obtain ⟨m', rfl⟩ := Nat.exists_eq_succ_of_ne_zero hm
  have := trod32 enc W 0 (fun _ => true) true m' a
  rw [hf'] at this
  injection this with this
  injection this with e1 e2
  exact ⟨a, ha, rfl, e1, e2⟩

theorem shut32 {H : Type} (enc : TypeId × Value → H) (W : World) (sp : Nat → Bool) (a : Nat) : DataW.Trod enc Tryd.prog W 0 sp true 23 (yv 32 a) (da H a) [] := ⟨2, trod32 enc W 0 sp true 0 a⟩
end Go.Proofs.YteijccjdejjbjaaDoor
