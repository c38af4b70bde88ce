import Derived.Test.YtaobnnlcfefodaaDoorWh
import Derived.Test.YtaobnnlcfefodaaDoorOp
import Derived.Lib.LaidU8
import Derived.Lib.LaidTab
import Derived.LaidMore
import Derived.ProofKit
import Derived.Stop.LaidErr
import Derived.OpenShut
import Derived.ChangeSame
namespace Go.Proofs.YtaobnnlcfefodaaDoor
open Go.RowKit TextNum Go.Lib Go.ChangeShapes Go.WideShapes Go.ChangeAt Go.WideElems Go.WideMaps
set_option maxRecDepth 100000 in
theorem bytesH32 : Tryd.prog.bytesOf 29 = 32 := by kernel_rfl
set_option maxRecDepth 100000 in
theorem cellsWask : Tryd.prog.cellsOf 25 = 4 := by kernel_rfl
theorem cell_byteW {v : Value} {z : Int} (h : v = .int .u8 z) (h0 : 0 ≤ z) (h1 : z ≤ 255) : ∃ c : UInt8, v = .int .u8 (c.toNat : Int) := by
  subst h
  refine ⟨UInt8.ofNat z.toNat, ?_⟩
  rw [UInt8.toNat_ofNat', Nat.mod_eq_of_lt (by omega)]
  congr 1
  omega
theorem bytes_ofW : ∀ (l : List Value), (∀ v, v ∈ l → ∃ c : UInt8, v = .int .u8 (c.toNat : Int)) → ∃ r : List UInt8, l = cb r
  | [], _ => ⟨[], rfl⟩
  | v :: l, h => by
    obtain ⟨c, hc⟩ := h v (by simp)
    obtain ⟨r, hr⟩ := bytes_ofW l (fun u hu => h u (by simp [hu]))
    exact ⟨c :: r, by rw [hc, hr]; rfl⟩
set_option maxRecDepth 100000 in
/-- one hash's cells -/
theorem hash_open {H : Type} {enc : TypeId × Value → H} {W : World} {fuel : Nat} {cs : List Value} {d : DataW H} {ps : List MemPlace} (hl : cs.length = 32) (hf : DataW.trod enc Tryd.prog W 0 (fun _ => true) true fuel 29 cs = some (d, ps)) :
    ∃ r : List UInt8, r.length = 32 ∧ cs = cb r := by
  obtain ⟨ys, m2, _, _, hlen, hyl, hel⟩ := DataW.trod_array Tryd.underlying29 hf
  rw [show Tryd.prog.cellsOf 5 = 1 by kernel_rfl] at hel
  obtain ⟨r, hr⟩ := bytes_ofW cs (fun v hv => by
    obtain ⟨i, hi, e⟩ := List.getElem_of_mem hv
    have h1 := hel i (by omega)
    rw [Nat.mul_one, List.drop_eq_getElem_cons hi, List.take_succ_cons, List.take_zero, List.getElem?_eq_getElem (by omega)] at h1
    obtain ⟨z, ez, _, wz⟩ := DataW.trod_int Tryd.underlying5 h1
    have hb : 0 ≤ z ∧ z ≤ 255 := by simpa [Lit.wf, IntKind.min, IntKind.max, IntKind.signed, IntKind.bits] using wz
    rw [e] at ez
    exact cell_byteW (by simpa using ez) hb.1 hb.2)
  refine ⟨r, ?_, hr⟩
  rw [hr, cb_length] at hl
  exact hl
set_option maxRecDepth 100000 in
/-- a list of hashes that is given -/
theorem hashes_open {H : Type} {enc : TypeId × Value → H} {W : World} {fuel : Nat} {cs : List Value} {d : DataW H} {ps : List MemPlace} (hf' : DataW.trod enc Tryd.prog W 0 (fun _ => true) true fuel 22 cs = some (d, ps)) :
    ∃ v hs, cs = [v] ∧ HL W v hs ∧ ∀ R, (∀ n, n ∈ d.weights Tryd.prog 22 → n ≤ R) → hs.length * 32 ≤ R := by
  rcases DataW.trod_slice Tryd.underlying22 hf' with ⟨e1, _⟩ | ⟨ad, len, cap, elems, rest, n, _, e1, hx, _, hlc, _, hel0, hel, _, _⟩
  · exact ⟨_, [], e1, ⟨none, 0, rfl, Nat.le_refl _, fun j hj => by cases hj⟩, fun R _ => by simp⟩
  · rw [show Tryd.prog.cellsOf 29 = 32 by kernel_rfl] at hel
    have key : ∀ i (hi : i < len), ∃ q : List UInt8, q.length = 32 ∧ ∀ j v, (cb q)[j]? = some v → W.cell? ((ad.add (i * 32)).add j) = some v := by
      intro i hi
      have h1 := hel i hi
      rw [List.getElem?_eq_getElem (by omega), Option.bind_eq_some_iff] at h1
      obtain ⟨cs, hcs, hy⟩ := h1
      obtain ⟨r, hr, hq⟩ := hash_open (World.cells?_some hcs).2.1 hy
      subst hq
      refine ⟨r, hr, fun j v hv => ?_⟩
      have hj : j < 32 := by have := (List.getElem?_eq_some_iff.1 hv).1; rw [cb_length] at this; omega
      have := (World.cells?_some hcs).2.2 j hj
      rw [this]
      exact hv
    have mk : ∀ k, k ≤ len → ∃ ss : List (List UInt8), ss.length = k ∧ ∀ i (hi : i < ss.length), ss[i].length = 32 ∧ ∀ j v, (cb ss[i])[j]? = some v → W.cell? ((ad.add (i * 32)).add j) = some v := by
      intro k
      induction k with
      | zero => exact fun _ => ⟨[], rfl, fun i hi => by cases hi⟩
      | succ k ih =>
        intro hk
        obtain ⟨ts, hl, ht⟩ := ih (by omega)
        obtain ⟨s, hk0, hk1⟩ := key k (by omega)
        refine ⟨ts ++ [s], by rw [List.length_append, hl]; rfl, fun i hi => ?_⟩
        by_cases hik : i < ts.length
        · rw [List.getElem_append_left hik]
          exact ht i hik
        · have e : i = k := by rw [List.length_append] at hi; simp at hi; omega
          subst e
          rw [List.getElem_append_right (by omega)]
          simp only [hl, Nat.sub_self, List.getElem_cons_zero]
          exact ⟨hk0, hk1⟩
    obtain ⟨ss, hl, ht⟩ := mk len (Nat.le_refl _)
    refine ⟨_, ss, e1, ⟨some ad, cap, by rw [hl], by rw [hl]; exact hlc, fun i hi => ⟨(ht i hi).1, ?_⟩⟩, fun R hR => ?_⟩
    · have h1 := (ht i hi).2
      obtain ⟨u0, h00⟩ : ∃ u, W.cell? ((ad.add (0 * 32)).add 0) = some u := by
        have h9 := ht 0 (by omega)
        exact ⟨_, h9.2 0 _ (cb_get (by rw [h9.1]; decide))⟩
      obtain ⟨u1, h10⟩ : ∃ u, W.cell? ((ad.add (i * 32)).add 0) = some u := ⟨_, h1 0 _ (cb_get (by rw [(ht i hi).1]; decide))⟩
      clear hel hel0
      obtain ⟨b, off, sp⟩ := ad
      cases sp with
      | some s => exfalso; simp only [World.cell?, Addr.add] at h00; split at h00 <;> simp at h00
      | none =>
        refine ⟨b, off, rfl, ?_, fun j v hv => ?_⟩
        · rw [add_plain, add_plain] at h10
          exact lt_of_cell h10
        · have h2 := h1 j v hv
          rw [add_plain, add_plain] at h2
          exact h2
    · injection hx with hd _
      have := hR _ (by rw [hd]; unfold DataW.weights; rw [Tryd.underlying22]; exact List.mem_cons_self)
      rw [bytesH32] at this
      rw [List.length_map, List.length_map] at this
      omega
set_option maxRecDepth 100000 in
/-- an ask and its parts, as an argument -/
theorem open_wask {H : Type} {enc : TypeId × Value → H} {W : World} {v : Value} {d : DataW H} {ps : List MemPlace} {base : Nat} (hval : Value.okWide Tryd.prog W .any base 25 v) (h : DataW.Trod enc Tryd.prog W 0 (fun _ => true) true 25 v d ps) :
    ∃ z v1 v2 v3 hs m l, v = .agg #[.int .i64 z, v1, v2, v3] ∧ HL W v1 hs ∧ Sl W v2 m ∧ Sl W v3 l ∧ ∀ R, (∀ n, n ∈ d.weights Tryd.prog 25 → n ≤ R) → hs.length * 32 ≤ R := by
  obtain ⟨cs, rfl, hsz⟩ := okWide_struct Tryd.underlying25 hval
  rw [cellsWask] at hsz
  obtain ⟨c0, c1, c2, c3, rfl⟩ : ∃ a b c d, cs = #[a, b, c, d] := by
    obtain ⟨l⟩ := cs
    match l, hsz with
    | [a, b, c, d], _ => exact ⟨a, b, c, d, rfl⟩
  obtain ⟨fuel, hf⟩ := h
  obtain ⟨xs, n, _, hx, _, hlen, hg⟩ := DataW.trod_struct Tryd.underlying25 hf
  match xs, hlen with
  | [y0, y1, y2, y3], _ =>
    have h0 := hg 0 _ rfl
    have h1 := hg 1 _ rfl
    have h2 := hg 2 _ rfl
    have h3 := hg 3 _ rfl
    have g0 : DataW.trod enc Tryd.prog W 0 (fun _ => true) true n 3 [c0] = some y0 := h0
    have g1 : DataW.trod enc Tryd.prog W 0 (fun _ => true) true n 22 [c1] = some y1 := h1
    have g2 : DataW.trod enc Tryd.prog W 0 (fun _ => true) true n 23 [c2] = some y2 := h2
    have g3 : DataW.trod enc Tryd.prog W 0 (fun _ => true) true n 23 [c3] = some y3 := h3
    clear h0 h1 h2 h3 hg
    obtain ⟨d0, q0⟩ := y0
    obtain ⟨d1, q1⟩ := y1
    obtain ⟨d2, q2⟩ := y2
    obtain ⟨d3, q3⟩ := y3
    obtain ⟨z, e0, _, _⟩ := DataW.trod_int Tryd.underlying3 g0
    obtain ⟨v1, hs, e1, k1, k2⟩ := hashes_open g1
    have b2 : ∃ a l c, c2 = .slice a l c := by
      rcases open_ints Tryd.underlying23 Tryd.underlying5 cells8' g2 with ⟨e1, _⟩ | ⟨ad, l2, c2, zs, e1, _⟩ <;> (simp only [List.cons.injEq, and_true] at e1; exact ⟨_, _, _, e1⟩)
    have b3 : ∃ a l c, c3 = .slice a l c := by
      rcases open_ints Tryd.underlying23 Tryd.underlying5 cells8' g3 with ⟨e1, _⟩ | ⟨ad, l2, c2, zs, e1, _⟩ <;> (simp only [List.cons.injEq, and_true] at e1; exact ⟨_, _, _, e1⟩)
    obtain ⟨a2, n2, k2', rfl⟩ := b2
    obtain ⟨a3, n3, k3', rfl⟩ := b3
    obtain ⟨m, hm, _⟩ := open_bytes (v := .slice a2 n2 k2') ⟨n, g2⟩ a2 n2 k2' rfl
    obtain ⟨l, hl, _⟩ := open_bytes (v := .slice a3 n3 k3') ⟨n, g3⟩ a3 n3 k3' rfl
    simp only [List.cons.injEq, and_true] at e0 e1
    subst e0 e1
    injection hx with hd _
    refine ⟨z, _, _, _, hs, m, l, rfl, k1, hm, hl, fun R hR => k2 R (fun m hm => hR m ?_)⟩
    rw [hd]
    unfold DataW.weights
    rw [Tryd.underlying25]
    exact DataW.weights_mem_each (j := 1) rfl rfl m hm
set_option maxRecDepth 100000 in
theorem whiteXf : WhiteExtra Tryd.prog Tryd.lays199_ren := ⟨by kernel_rfl, by kernel_rfl, by kernel_rfl, by kernel_rfl, by kernel_rfl, by kernel_rfl, by kernel_rfl, by kernel_rfl⟩
set_option maxRecDepth 100000 in
theorem white_dataf : (Rows.laid_unicode_White_Space : DataW Unit) = whiteData := by kernel_rfl
theorem white_off {W : World} (h : VarReads Tryd.prog W "unicode.White_Space" Rows.laid_unicode_White_Space) : WhiteTab 5 W := by
  rw [white_dataf] at h
  exact whiteTab_of_reads Tryd.lays199 whiteXf h
set_option maxRecDepth 100000 in
theorem tabLet : (Rows.laid_ledger_text_letters : DataW Unit) = tabData .u8 (TextNum.LT.map fun c => (c.toNat : Int)) := by kernel_rfl
set_option maxRecDepth 100000 in
theorem tabPow : (Rows.laid_internal_strconv_uint64pow10 : DataW Unit) = tabData .u64 pow10Tab := by kernel_rfl
set_option maxRecDepth 100000 in
theorem nLet : Tryd.prog.globalNamed "ledger/text.letters" = some 0 := by kernel_rfl
set_option maxRecDepth 100000 in
theorem nErr : Tryd.prog.globalNamed "strconv.ErrRange" = some 4 := by kernel_rfl
set_option maxRecDepth 100000 in
theorem let_of {W : World} (h : VarReads Tryd.prog W "ledger/text.letters" Rows.laid_ledger_text_letters) : TabL W := by
  rw [tabLet] at h
  obtain ⟨g, t, cs, fuel, p, hg, hty, hvar, hd⟩ := h
  obtain rfl := Option.some.inj (nLet.symm.trans hg)
  obtain rfl := Option.some.inj ((show (Tryd.prog.globals[0]?).map (·.type) = some 63 by kernel_rfl).symm.trans hty)
  have hcs := cells_of_tab Tryd.underlying63 Tryd.underlying5 (by kernel_rfl) (by kernel_rfl) hd
  intro i hi
  have hl : i < TextNum.LT.length := by simpa [TextNum.LT] using hi
  rw [World.var?_cell hg hvar i, ← Array.getElem?_toList, hcs]
  simp [TextNum.lt, List.getD, hl]
set_option maxRecDepth 100000 in
theorem pow_of {W : World} (h : VarReads Tryd.prog W "internal/strconv.uint64pow10" Rows.laid_internal_strconv_uint64pow10) : TabIs Tryd.prog W "internal/strconv.uint64pow10" .u64 pow10Tab := by
  rw [tabPow] at h
  obtain ⟨g, t, cs, fuel, p, hg, hty, hvar, hd⟩ := h
  obtain rfl := Option.some.inj ((show Tryd.prog.globalNamed "internal/strconv.uint64pow10" = some 2 by kernel_rfl).symm.trans hg)
  obtain rfl := Option.some.inj ((show (Tryd.prog.globals[2]?).map (·.type) = some 101 by kernel_rfl).symm.trans hty)
  have hcs := cells_of_tab Tryd.underlying101 Tryd.underlying81 (by kernel_rfl) (by kernel_rfl) hd
  unfold TabIs
  rw [hvar, ← hcs]
set_option maxRecDepth 100000 in
theorem err_of {W : World} (h : VarReads Tryd.prog W "strconv.ErrRange" Rows.laid_strconv_ErrRange) : ∃ te pe, W.cell? ⟨4, 0, none⟩ = some (.iface te pe) := by
  obtain ⟨g0, t0, cs0, f0, p0, hg0, ht0, hv0, hd0⟩ := h
  obtain rfl := Option.some.inj (nErr.symm.trans hg0)
  obtain rfl := Option.some.inj ((show (Tryd.prog.globals[4]?).map (·.type) = some 66 by kernel_rfl).symm.trans ht0)
  obtain ⟨f1, u, v, hcs, _, _⟩ := iface_of_trod Tryd.underlying66 hd0
  have h0 := World.var?_cell hg0 hv0 0
  rw [← Array.getElem?_toList, hcs] at h0
  exact ⟨u, v, h0⟩
theorem glWitnessBack {W : World} (h : laidMetH Tryd.prog Rows.witnessBackRow.laid W) : TabL W ∧ WhiteTab 5 W ∧ GN W := by
  rw [MakeChecks.laidMetH_plain _ _ _ (by kernel_rfl)] at h
  exact ⟨let_of (laidMet.reads h (by simp [Rows.witnessBackRow])), white_off (laidMet.reads h (by simp [Rows.witnessBackRow])), ⟨pow_of (laidMet.reads h (by simp [Rows.witnessBackRow])), err_of (laidMet.reads h (by simp [Rows.witnessBackRow]))⟩⟩
end Go.Proofs.YtaobnnlcfefodaaDoor
