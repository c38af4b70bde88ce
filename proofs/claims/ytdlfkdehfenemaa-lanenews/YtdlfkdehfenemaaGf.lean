import Derived.Test.YtdlfkdehfenemaaGe
import Derived.Test.YtdlfkdehfenemaaOz
namespace Go.Proofs.Ytdlfkdehfenemaa
open Go.ChangeShapes Go.WideShapes Go.ChangeAt Go.WideMaps Go.WideElems Go.RowKit TextNum
set_option maxRecDepth 100000 in
theorem cellsSent : Try.prog.cellsOf 65 = 5 := by kernel_rfl
set_option maxRecDepth 100000 in
theorem cellsFate : Try.prog.cellsOf 63 = 2 := by kernel_rfl
set_option maxRecDepth 100000 in
theorem fate_open {H : Type} {enc : TypeId × Value → H} {W : World} {fuel : Nat} {cs : List Value} {d : DataW H} {ps : List MemPlace} (hf : DataW.trod enc Try.prog W 0 (fun _ => true) true fuel 63 cs = some (d, ps)) :
    ∃ k n, cs = [.int .i64 k, .int .i64 n] := by
  obtain ⟨xs, n, _, hx, hl7, hlen, hg⟩ := DataW.trod_struct Try.underlying63 hf
  rw [cellsFate] at hl7
  match cs, hl7, xs, hlen with
  | [c0, c1], _, [y0, y1], _ =>
    have h0 := hg 0 _ rfl
    have h1 := hg 1 _ rfl
    have g0 : DataW.trod enc Try.prog W 0 (fun _ => true) true n 3 [c0] = some y0 := h0
    have g1 : DataW.trod enc Try.prog W 0 (fun _ => true) true n 3 [c1] = some y1 := h1
    obtain ⟨d0, q0⟩ := y0
    obtain ⟨d1, q1⟩ := y1
    obtain ⟨a, e0, _, _⟩ := DataW.trod_int Try.underlying3 g0
    obtain ⟨b, e1, _, _⟩ := DataW.trod_int Try.underlying3 g1
    simp only [List.cons.injEq, and_true] at e0 e1
    subst e0 e1
    exact ⟨a, b, rfl⟩
set_option maxRecDepth 100000 in
theorem sent_open {H : Type} {enc : TypeId × Value → H} {W : World} {fuel : Nat} {cs : List Value} {d : DataW H} {ps : List MemPlace} (hf : DataW.trod enc Try.prog W 0 (fun _ => true) true fuel 65 cs = some (d, ps)) :
    ∃ q : Rw, cs = rwc q ∧ Sb W (.slice q.a q.d.length q.c) q.d := by
  obtain ⟨xs, n, _, hx, hl7, hlen, hg⟩ := DataW.trod_struct Try.underlying65 hf
  rw [cellsSent] at hl7
  match cs, hl7, xs, hlen with
  | [c0, c1, c2, c3, c4], _, [y0, y1, y2, y3], _ =>
    have h0 := hg 0 _ rfl
    have h1 := hg 1 _ rfl
    have h2 := hg 2 _ rfl
    have h3 := hg 3 _ rfl
    have g0 : DataW.trod enc Try.prog W 0 (fun _ => true) true n 3 [c0] = some y0 := h0
    have g1 : DataW.trod enc Try.prog W 0 (fun _ => true) true n 3 [c1] = some y1 := h1
    have g2 : DataW.trod enc Try.prog W 0 (fun _ => true) true n 47 [c2] = some y2 := h2
    have g3 : DataW.trod enc Try.prog W 0 (fun _ => true) true n 63 [c3, c4] = some y3 := h3
    obtain ⟨d0, q0⟩ := y0
    obtain ⟨d1, q1⟩ := y1
    obtain ⟨d2, q2⟩ := y2
    obtain ⟨d3, q3⟩ := y3
    obtain ⟨a, e0, _, _⟩ := DataW.trod_int Try.underlying3 g0
    obtain ⟨b, e1, _, _⟩ := DataW.trod_int Try.underlying3 g1
    obtain ⟨v, bd, e2, k2⟩ := sb_open g2
    obtain ⟨k, m, e3⟩ := fate_open g3
    simp only [List.cons.injEq, and_true] at e0 e1 e2 e3
    obtain ⟨rfl, rfl⟩ := e3
    subst e0 e1 e2
    obtain ⟨av, cv, rfl, _⟩ := id k2
    exact ⟨⟨a, b, av, cv, bd, k, m⟩, rfl, k2⟩
set_option maxRecDepth 100000 in
/-- a list of messages as an argument -/
theorem open_ssent {H : Type} {enc : TypeId × Value → H} {W : World} {v : Value} {d : DataW H} {ps : List MemPlace} {base : Nat} (hval : Value.okWide Try.prog W .any base 66 v) (h : DataW.Trod enc Try.prog W 0 (fun _ => true) true 66 v d ps) :
    ∃ a l c, v = .slice a (List.length l) c ∧ RwL W a l := by
  obtain ⟨a, len, cap, rfl⟩ := okWide_slice Try.underlying66 hval
  obtain ⟨fuel, hf⟩ := h
  have hf' : DataW.trod enc Try.prog W 0 (fun _ => true) true fuel 66 [.slice a len cap] = some (d, ps) := hf
  rcases DataW.trod_slice Try.underlying66 hf' with ⟨e1, _⟩ | ⟨ad, l2, c2, elems, rest, n, _, e1, hx, _, hlc, _, hel0, hel, _, _⟩
  · simp only [List.cons.injEq, and_true] at e1
    rw [e1]
    exact ⟨none, [], 0, rfl, ⟨(fun i hi => by cases hi), (fun q hq => by cases hq)⟩⟩
  · simp only [List.cons.injEq, Value.slice.injEq, and_true] at e1
    obtain ⟨rfl, rfl, rfl⟩ := e1
    rw [cellsSent] at hel
    have key : ∀ i (hi : i < len), ∃ q : Rw, Sb W (.slice q.a q.d.length q.c) q.d ∧ ∀ j v, (rwc q)[j]? = some v → W.cell? ((ad.add (i * 5)).add j) = some v := by
      intro i hi
      have h1 := hel i hi
      rw [List.getElem?_eq_getElem (by omega), Option.bind_eq_some_iff] at h1
      obtain ⟨cs, hcs, hy⟩ := h1
      obtain ⟨q, hq, h2⟩ := sent_open hy
      subst hq
      refine ⟨q, h2, fun j v hv => ?_⟩
      have hj : j < 5 := (List.getElem?_eq_some_iff.1 hv).1
      have := (World.cells?_some hcs).2.2 j hj
      rw [hv] at this
      exact this
    have mk : ∀ k, k ≤ len → ∃ ss : List Rw, ss.length = k ∧ ∀ i (hi : i < ss.length), Sb W (.slice ss[i].a ss[i].d.length ss[i].c) ss[i].d ∧ ∀ j v, (rwc ss[i])[j]? = some v → W.cell? ((ad.add (i * 5)).add j) = some v := by
      intro k
      induction k with
      | zero => exact fun _ => ⟨[], rfl, fun i hi => by cases hi⟩
      | succ k ih =>
        intro hk
        obtain ⟨ts, hl, ht⟩ := ih (by omega)
        obtain ⟨s, hk1, hk2⟩ := key k (by omega)
        refine ⟨ts ++ [s], by rw [List.length_append, hl]; rfl, fun i hi => ?_⟩
        by_cases hik : i < ts.length
        · rw [List.getElem_append_left hik]
          exact ht i hik
        · have e : i = k := by rw [List.length_append] at hi; simp at hi; omega
          subst e
          rw [List.getElem_append_right (by omega)]
          simp only [hl, Nat.sub_self, List.getElem_cons_zero]
          exact ⟨hk1, hk2⟩
    obtain ⟨ss, hl, ht⟩ := mk len (Nat.le_refl _)
    refine ⟨some ad, ss, cap, by rw [hl], ⟨fun i hi => ?_, fun q hq => ?_⟩⟩
    · have h0 := (ht 0 (by omega)).2 0 _ rfl
      have h1 := (ht i hi).2
      obtain ⟨b, off, sp⟩ := ad
      cases sp with
      | some s => exfalso; simp only [World.cell?, Addr.add] at h0; split at h0 <;> simp at h0
      | none =>
        refine ⟨b, off, rfl, fun j v hv => ?_⟩
        have h2 := h1 j v hv
        rw [Addr.add_lit, Addr.add_lit] at h2
        exact h2
    · obtain ⟨i, hi, rfl⟩ := List.getElem_of_mem hq
      exact (ht i hi).1
end Go.Proofs.Ytdlfkdehfenemaa
