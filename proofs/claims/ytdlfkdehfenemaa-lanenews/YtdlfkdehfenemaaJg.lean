import Derived.Test.YtdlfkdehfenemaaJa
import Derived.Test.YtdlfkdehfenemaaGf
namespace Go.Proofs.Ytdlfkdehfenemaa
open Go.ChangeShapes Go.WideShapes Go.ChangeAt Go.WideMaps Go.WideElems Go.RowKit TextNum
set_option maxRecDepth 100000 in
theorem bytesFate : Try.prog.bytesOf 63 = 16 := by kernel_rfl
set_option maxRecDepth 100000 in
theorem cellsLnet : Try.prog.cellsOf 30 = 2 := by kernel_rfl
set_option maxRecDepth 100000 in
/-- a list of fates that is given -/
theorem fates_open {H : Type} {enc : TypeId × Value → H} {W : World} {fuel : Nat} {cs : List Value} {d : DataW H} {ps : List MemPlace} (hf' : DataW.trod enc Try.prog W 0 (fun _ => true) true fuel 28 cs = some (d, ps)) :
    ∃ v fs, cs = [v] ∧ FR W v fs ∧ ∀ R, (∀ n, n ∈ d.weights Try.prog 28 → n ≤ R) → fs.length * 16 ≤ R := by
  rcases DataW.trod_slice Try.underlying28 hf' with ⟨e1, _⟩ | ⟨ad, len, cap, elems, rest, n, _, e1, hx, _, hlc, _, hel0, hel, _, _⟩
  · exact ⟨_, [], e1, ⟨none, 0, rfl, Nat.le_refl _, fun j hj => by cases hj⟩, fun R _ => by simp⟩
  · rw [cellsFate] at hel
    have key : ∀ i (hi : i < len), ∃ q : Int × Int, ∀ j v, (fc q)[j]? = some v → W.cell? ((ad.add (i * 2)).add j) = some v := by
      intro i hi
      have h1 := hel i hi
      rw [List.getElem?_eq_getElem (by omega), Option.bind_eq_some_iff] at h1
      obtain ⟨cs, hcs, hy⟩ := h1
      obtain ⟨k, m, hq⟩ := fate_open hy
      subst hq
      refine ⟨(k, m), fun j v hv => ?_⟩
      have hj : j < 2 := (List.getElem?_eq_some_iff.1 hv).1
      have := (World.cells?_some hcs).2.2 j hj
      rw [this]
      exact hv
    have mk : ∀ k, k ≤ len → ∃ ss : List (Int × Int), ss.length = k ∧ ∀ i (hi : i < ss.length), ∀ j v, (fc ss[i])[j]? = some v → W.cell? ((ad.add (i * 2)).add j) = some v := by
      intro k
      induction k with
      | zero => exact fun _ => ⟨[], rfl, fun i hi => by cases hi⟩
      | succ k ih =>
        intro hk
        obtain ⟨ts, hl, ht⟩ := ih (by omega)
        obtain ⟨s, hk1⟩ := key k (by omega)
        refine ⟨ts ++ [s], by rw [List.length_append, hl]; rfl, fun i hi => ?_⟩
        by_cases hik : i < ts.length
        · rw [List.getElem_append_left hik]
          exact ht i hik
        · have e : i = k := by rw [List.length_append] at hi; simp at hi; omega
          subst e
          rw [List.getElem_append_right (by omega)]
          simp only [hl, Nat.sub_self, List.getElem_cons_zero]
          exact hk1
    obtain ⟨ss, hl, ht⟩ := mk len (Nat.le_refl _)
    refine ⟨_, ss, e1, ⟨some ad, cap, by rw [hl], by rw [hl]; exact hlc, fun i hi => ?_⟩, fun R hR => ?_⟩
    · have h0 := ht 0 (by omega) 0 _ rfl
      have h1 := ht i hi
      obtain ⟨b, off, sp⟩ := ad
      cases sp with
      | some s => exfalso; simp only [World.cell?, Addr.add] at h0; split at h0 <;> simp at h0
      | none =>
        refine ⟨b, off, rfl, fun j v hv => ?_⟩
        have h2 := h1 j v hv
        rw [Addr.add_lit, Addr.add_lit] at h2
        exact h2
    · injection hx with hd _
      have := hR _ (by rw [hd]; unfold DataW.weights; rw [Try.underlying28]; exact List.mem_cons_self)
      rw [bytesFate] at this
      rw [List.length_map, List.length_map] at this
      omega
set_option maxRecDepth 100000 in
/-- what a net is begun with, as an argument -/
theorem open_lnet {H : Type} {enc : TypeId × Value → H} {W : World} {v : Value} {d : DataW H} {ps : List MemPlace} {base : Nat} (hval : Value.okWide Try.prog W .any base 30 v) (h : DataW.Trod enc Try.prog W 0 (fun _ => true) true 30 v d ps) :
    ∃ z v1 fs, v = .agg #[.int .i64 z, v1] ∧ FR W v1 fs ∧ ∀ R, (∀ n, n ∈ d.weights Try.prog 30 → n ≤ R) → fs.length * 16 ≤ R := by
  obtain ⟨cs, rfl, hsz⟩ := okWide_struct Try.underlying30 hval
  rw [cellsLnet] at hsz
  obtain ⟨c0, c1, rfl⟩ : ∃ a b, cs = #[a, b] := by
    obtain ⟨l⟩ := cs
    match l, hsz with
    | [a, b], _ => exact ⟨a, b, rfl⟩
  obtain ⟨fuel, hf⟩ := h
  obtain ⟨xs, n, _, hx, _, hlen, hg⟩ := DataW.trod_struct Try.underlying30 hf
  match xs, hlen with
  | [y0, y1], _ =>
    have h0 := hg 0 _ rfl
    have h1 := hg 1 _ rfl
    have g0 : DataW.trod enc Try.prog W 0 (fun _ => true) true n 3 [c0] = some y0 := h0
    have g1 : DataW.trod enc Try.prog W 0 (fun _ => true) true n 28 [c1] = some y1 := h1
    clear h0 h1 hg
    obtain ⟨d0, q0⟩ := y0
    obtain ⟨d1, q1⟩ := y1
    obtain ⟨z, e0, _, _⟩ := DataW.trod_int Try.underlying3 g0
    obtain ⟨v1, fs, e1, k1, k2⟩ := fates_open g1
    simp only [List.cons.injEq, and_true] at e0 e1
    subst e0 e1
    injection hx with hd _
    refine ⟨z, _, fs, rfl, k1, fun R hR => k2 R (fun m hm => hR m ?_)⟩
    rw [hd]
    unfold DataW.weights
    rw [Try.underlying30]
    exact DataW.weights_mem_each (j := 1) rfl rfl m hm
end Go.Proofs.Ytdlfkdehfenemaa
