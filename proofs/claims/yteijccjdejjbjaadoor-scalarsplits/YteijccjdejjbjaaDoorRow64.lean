import Derived.Test.YteijccjdejjbjaaDoorRow
namespace Go.Proofs.YteijccjdejjbjaaDoor
open Go.ChangeShapes Go.WideShapes Go.ChangeAt Go.RowKit Go.Shelf ScalarNum

/-- what is read of 64 bytes -/
def da64 (H : Type) (a : Nat) : DataW H := .agg ((List.range 64).map fun i => .lit (.int .u8 ((dg 256 a i : Nat) : Int)))

theorem cells64b : Tryd.prog.cellsOf 22 = 64 := by kernel_rfl

theorem trod64 {H : Type} (enc : TypeId × Value → H) (W : World) (base : Nat) (sp : Nat → Bool) (held : Bool) (k a : Nat) :
    DataW.trod enc Tryd.prog W base sp held (k + 2) 22 (yl 64 a) = some (da64 H a, []) := by
  have h1 : ∀ i ∈ List.range 64, DataW.trod enc Tryd.prog W base sp held (k + 1) 5 (((yl 64 a).drop (i * 1)).take 1) = some (.lit (.int .u8 ((dg 256 a i : Nat) : Int)), []) := by
    intro i hi
    have hi' : i < 64 := by simpa using hi
    have e : ((yl 64 a).drop (i * 1)).take 1 = [.int .u8 ((dg 256 a i : Nat) : Int)] := by
      have hl := yl_length 64 a
      have hg := yl_get 64 a i hi'
      rw [Nat.mul_one]
      rw [List.getElem?_eq_getElem (by omega)] at hg
      rw [List.drop_eq_getElem_cons (by omega), List.take_succ_cons, List.take_zero]
      injection hg with hg
      rw [hg]
    rw [e]
    unfold DataW.trod
    rw [Tryd.underlying5]
    simp only [wf_dg, and_self, ↓reduceIte]
  unfold DataW.trod
  rw [Tryd.underlying22]
  simp only [yl_length, cells64b, ↓reduceIte, cells8]
  rw [mapM_all _ _ _ h1]
  simp [da64, Function.comp_def]

theorem open64 {H : Type} {enc : TypeId × Value → H} {W : World} {base : Nat} {v : Value} {d : DataW H} {q : List MemPlace}
    (hval : Value.okWide Tryd.prog W .any base 22 v) (h : DataW.Trod enc Tryd.prog W 0 (fun _ => true) true 22 v d q) :
    ∃ a : Nat, a < M * M ∧ v = yv 64 a ∧ d = da64 H a ∧ q = [] := by
  obtain ⟨cs, rfl, hsz, _⟩ : ∃ cs, v = .agg cs ∧ cs.size = Tryd.prog.cellsOf 22 ∧ Row.okWide Tryd.prog W .any base 22 cs := by
    simpa [Value.okWide, Tryd.underlying22] using hval
  rw [cells64b] at hsz
  obtain ⟨l⟩ := cs
  obtain ⟨fuel, hf⟩ := h
  have hf' : DataW.trod enc Tryd.prog W 0 (fun _ => true) true fuel 22 l = some (d, q) := hf
  obtain ⟨xs, m, rfl, hx, hlen, hxl, hel⟩ := DataW.trod_array Tryd.underlying22 hf'
  rw [cells8] at hel
  have hl : l.length = 64 := by simpa using hsz
  have hcell : ∀ i, i < 64 → ∃ n : Nat, n < 256 ∧ l[i]? = some (.int .u8 (n : Int)) := by
    intro i hi
    have h1 := hel i hi
    rw [Nat.mul_one, List.drop_eq_getElem_cons (by omega), List.take_succ_cons, List.take_zero, List.getElem?_eq_getElem (by omega)] at h1
    obtain ⟨z, e0, _, w0⟩ := DataW.trod_int Tryd.underlying5 h1
    simp at e0
    have hb : 0 ≤ z ∧ z ≤ 255 := by
      simpa [Lit.wf, IntKind.min, IntKind.max, IntKind.signed, IntKind.bits] using w0
    refine ⟨z.toNat, by omega, ?_⟩
    rw [List.getElem?_eq_getElem (by omega), e0]
    congr 2
    omega
  obtain ⟨a, ha, hd⟩ := exists_digits (fun i => if hi : i < 64 then (hcell i hi).choose else 0) (fun i => by
    by_cases hi : i < 64
    · simp only [hi, ↓reduceDIte]; exact (hcell i hi).choose_spec.1
    · simp [hi]) 64
  have e64 : 256 ^ 64 = M * M := by decide
  rw [e64] at ha
  have el : l = yl 64 a := by
    apply List.ext_getElem?
    intro i
    by_cases hi : i < 64
    · rw [yl_get 64 a i hi, hd i hi]
      simp only [hi, ↓reduceDIte]
      exact (hcell i hi).choose_spec.2
    · rw [List.getElem?_eq_none (by omega), List.getElem?_eq_none (by rw [yl_length]; omega)]
  subst el
  have hm : m ≠ 0 := by
    rintro rfl
    have h1 := hel 0 (by decide)
    rw [List.getElem?_eq_getElem (by omega)] at h1
    simp [DataW.trod] at h1
  obtain ⟨m', rfl⟩ := Nat.exists_eq_succ_of_ne_zero hm
  have := trod64 enc W 0 (fun _ => true) true m' a
  rw [hf'] at this
  injection this with this
  injection this with e1 e2
  exact ⟨a, ha, rfl, e1, e2⟩

theorem shut64 {H : Type} (enc : TypeId × Value → H) (W : World) (sp : Nat → Bool) (a : Nat) : DataW.Trod enc Tryd.prog W 0 sp true 22 (yv 64 a) (da64 H a) [] := ⟨2, trod64 enc W 0 sp true 0 a⟩
end Go.Proofs.YteijccjdejjbjaaDoor
