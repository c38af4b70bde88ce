import Derived.Test.YtdlfkdehfenemaaAg
namespace Go.Proofs.Ytdlfkdehfenemaa
open Go.RowKit Go.Conc TextNum
set_option maxRecDepth 100000 in
theorem takeFate_none (w : World) (S : NS) (h : NOk w S) (hf : S.fs = []) :
    Calls Try.prog 36 #[.pointer (some ⟨S.nb, 0, none⟩)] w fun e w' => e = .returned (.agg #[.int .i64 0, .int .i64 0]) ∧ Up w w' := by
  have hft := h.fts
  obtain ⟨a, c, e, h1, h2, h3, h4⟩ := hft
  rw [hf] at e
  have c0 := h.net.cell (i := 1) rfl
  rw [e] at c0
  have HU := Hid.of ((Up.refl w).alloc (.cells #[.int .i64 0, .int .i64 0] 58))
  have c1 := HU.out.cell c0
  clear h h1 h2 h3 h4 e
  go_enter Try.func36, Try.ntmps36
  go_wp2
  refine bodyPost_ret (results_cell_row rfl _ _ w.heap.size 58 #[.int .i64 0, .int .i64 0] (0, 0) _ rfl (heap_alloc_new w _) Try.underlying58 rfl (by kernel_rfl)) rfl ?_
  exact ⟨rfl, HU.out⟩
theorem exec_tailF {o : Oper} {ρ : Operand → Value} {x : Operand} {w : World} {fb q n c : Nat} (h1 : n + 1 ≤ c) (ho : o.op = .slice 59 x (some (.const (.int .i64 1))) none none) (hx : ρ x = .slice (some ⟨fb, q, none⟩) (n + 1) c) (hk : ρ (.const (.int .i64 1)) = .int .i64 1) :
    (execOp ρ o).run Try.prog w = .ok (.value (.slice (some ⟨fb, if c = 1 then q else q + 2, none⟩) n (c - 1))) w := by
  unfold execOp
  simp only [ho, hx]
  by_cases hc : c = 1
  · subst hc
    obtain rfl : n = 0 := by omega
    go_simp
  · have h2 : ¬ ((c : Int) = 1) := by omega
    simp only [if_neg hc]
    go_simp
    intro hh
    omega
theorem Fts.tail {w : World} {fb q n c : Nat} {f : Int × Int} {r : List (Int × Int)} (hn : n = r.length) (h : Fts w (.slice (some ⟨fb, q, none⟩) (n + 1) c) (f :: r)) : Fts w (.slice (some ⟨fb, if c = 1 then q else q + 2, none⟩) n (c - 1)) r := by
  obtain ⟨a, c', e, h1, h2, h3, h4⟩ := h
  injection e with e1 e2 e3
  subst e1 e3 hn
  obtain ⟨h5, ⟨cur, h6⟩, h7⟩ := h4 _ rfl
  simp only [List.length_cons] at h1
  refine ⟨_, _, rfl, by omega, by omega, fun e => (by cases e), fun ad e => ?_⟩
  injection e with e
  subst e
  refine ⟨rfl, ⟨cur, h6⟩, fun j u hj => ?_⟩
  by_cases hc : c = 1
  · have : r = [] := List.eq_nil_of_length_eq_zero (by omega)
    subst this
    cases hj
  · have := h7 (j + 2) u (by simpa [fc] using hj)
    rw [Addr.add_lit] at this ⊢
    rw [if_neg hc, show q + 2 + j = q + (j + 2) by omega]
    exact this
set_option maxRecDepth 100000 in
theorem takeFate_some (w : World) (S : NS) (f : Int × Int) (r : List (Int × Int)) (h : NOk w S) (hf : S.fs = f :: r) :
    Calls Try.prog 36 #[.pointer (some ⟨S.nb, 0, none⟩)] w fun e w' => e = .returned (.agg #[.int .i64 f.1, .int .i64 f.2]) ∧ ∃ fv, NOk w' { S with fv := fv, fs := r } ∧ Fr (fun k => k = S.nb) w w' ∧ (∀ k, fv.ownBlock = some k → S.fv.ownBlock = some k) := by
  have hft := h.fts
  obtain ⟨a, c, e, h1, h2, h3, h4⟩ := hft
  rw [hf] at e h1 h3
  cases a with
  | none => cases (h3 rfl).1
  | some ad =>
    obtain ⟨fb, o, sp⟩ := ad
    obtain ⟨hsp, ⟨cur, hcur⟩, hcs⟩ := h4 _ rfl
    obtain rfl : sp = none := hsp
    rw [hf] at hcs
    have HCS := Hid.of hcs
    have HCU := Hid.of hcur
    have HU := Hid.of ((Up.refl w).alloc (.cells #[.int .i64 0, .int .i64 0] 58))
    have HA := Hid.of (at_new w 58 [.int .i64 0, .int .i64 0])
    have HN := Hid.of h
    simp only [List.length_cons] at e h1
    have HE := Hid.of e
    have HFF := Hid.of hf
    have HH1 := Hid.of h1
    have HH2 := Hid.of h2
    clear h h4 h3 hcs hcur e h1 h2 hf
    go_enter Try.func36, Try.ntmps36
    go_wp2_with (with_reducible show wpList _ _ _ ({ dst := _, op := Op.load 59 _, type := _, pos := _, after := _, guard := _ } :: _) _ _; refine Shut.out ?_)
    show wpList _ _ _ _ _ _
    generalize w.alloc (.cells #[.int .i64 0, .int .i64 0] 58) = W1 at *
    have hA : At W1 w.heap.size 58 [.int .i64 0, .int .i64 0] := HA.out
    have hN1 := HN.out.up HU.out
    have c0 := hN1.net.cell (i := 1) rfl
    rw [HE.out] at c0
    have k0 := HU.out.cell (HCS.out 0 (.int .i64 f.1) rfl)
    have k1 := HU.out.cell (HCS.out 1 (.int .i64 f.2) rfl)
    rw [Addr.add_lit] at k0 k1
    rw [Nat.add_zero] at k0
    have hN2 := hN1.up ((Up.refl W1).alloc (.cells #[.int .i64 0, .int .i64 0] 58))
    have hA2 := at_new W1 58 [.int .i64 0, .int .i64 0]
    have hA1 := hA.up ((Up.refl W1).alloc (.cells #[.int .i64 0, .int .i64 0] 58))
    have HN1 := Hid.of hN1
    have HN2 := Hid.of hN2
    have HA2 := Hid.of hA2
    have HA1 := Hid.of hA1
    have HU2 := Hid.of ((Up.refl W1).alloc (.cells #[.int .i64 0, .int .i64 0] 58))
    have HLt := Hid.of (lt_of_at hA)
    clear hA hN1 hN2 hA1 hA2 HA
    go_wp2_with (with_reducible show wpList _ _ _ ({ dst := _, op := Op.store 58 _ _, type := _, pos := _, after := _, guard := _ } :: _) _ _; refine Shut.out ?_)
    show wpList _ _ _ _ _ _
    generalize W1.alloc (.cells #[.int .i64 0, .int .i64 0] 58) = W2 at *
    refine wpList_store_at rfl 58 _ _ rfl W1.heap.size HA2.out [.int .i64 f.1, .int .i64 f.2] rfl rfl rfl (by kernel_rfl) (by simp [Value.oneCell']) ?_
    intro w3 a3 g3
    simp only [Act.put]
    have hne : W1.heap.size ≠ S.nb := fun e => by
      have := HN1.out.lt (k := S.nb) (.inl rfl)
      omega
    have hT3 : ∀ g, own S g → ¬ g = W1.heap.size := fun g hg e => by
      have := HN1.out.lt hg
      omega
    have hR3 : ∀ g, rds S g → ¬ g = W1.heap.size := fun g hg e => by
      have := HN1.out.ltr hg
      omega
    have hN3 := HN2.out.fr ((Fr.refl (fun k => k = W1.heap.size) W2).by g3 (fun g hg => .inl (Option.some.inj hg).symm)) hT3 hR3
    have c3 := hN3.net.cell (i := 1) rfl
    have t3 := hN3.net.thaw 1
    rw [HE.out] at c3
    go_wp2_with (with_reducible show wpList _ _ _ ({ dst := _, op := Op.slice 59 _ _ _ _, type := _, pos := _, after := _, guard := _ } :: _) _ _; refine Shut.out ?_)
    show wpList _ _ _ _ _ _
    refine wpList_val7 _ rfl (exec_tailF HH1.out rfl rfl rfl) ?_
    simp only [Act.put, List.setIfInBounds_toArray, List.set_cons_zero, List.set_cons_succ]
    have hF3 := hN3.fts
    rw [HE.out, HFF.out] at hF3
    have hf4 := hF3.tail rfl
    generalize (if c = 1 then o else o + 2) = q at *
    generalize c - 1 = c1 at *
    have hA4 := hN3.net.set 1 (.slice (some ⟨fb, q, none⟩) r.length c1)
    have hG4 := grown_at w3 S.nb 1 (.slice (some ⟨fb, q, none⟩) r.length c1)
    have hB4 := a3.by hG4 (fun e => hne (Option.some.inj e).symm)
    have k3 := hB4.cell (i := 0) rfl
    have k4 := hB4.cell (i := 1) rfl
    have hne2 : w.heap.size ≠ S.nb := fun e => by
      have := HN.out.lt (k := S.nb) (.inl rfl)
      omega
    have hA5 := (HA1.out.by g3 (fun e => by have := HLt.out; have := Option.some.inj e; omega)).by hG4 (fun e => hne2 (Option.some.inj e).symm)
    have hF4 : Fr (fun k => k = S.nb) w (w3.setCell ⟨S.nb, 1, none⟩ (.slice (some ⟨fb, q, none⟩) r.length c1)) := by
      have h1 : Fr (fun k => k = S.nb) w W2 := fr_of_up _ (HU.out.trans HU2.out)
      have h2 := h1.by g3 (fun g hg => .inr (by have := HLt.out; have := Option.some.inj hg; omega))
      exact h2.by hG4 (fun g hg => .inl (Option.some.inj hg).symm)
    have hN4 : NOk (w3.setCell ⟨S.nb, 1, none⟩ (.slice (some ⟨fb, q, none⟩) r.length c1)) { S with fv := .slice (some ⟨fb, q, none⟩) r.length c1, fs := r } := by
      have no : ∀ k t, otag w3 k = some t → t ≠ 84 → some S.nb ≠ some k := fun k t ht h1 e => by
        obtain rfl := Option.some.inj e
        rw [hN3.net.tag] at ht
        exact h1 (Option.some.inj ht).symm
      have hff : Fr (fun k => k = S.nb) w3 (w3.setCell ⟨S.nb, 1, none⟩ (.slice (some ⟨fb, q, none⟩) r.length c1)) := (Fr.refl _ w3).by hG4 (fun g hg => .inl (Option.some.inj hg).symm)
      have no2 : ∀ k t, otag w3 k = some t → t ≠ 84 → ¬ k = S.nb := fun k t ht h1 e => no k t ht h1 (by rw [e])
      refine ⟨hA4, hff.at hN3.row (no2 _ _ hN3.row.tag (by decide)), fun l hl => ?_, hN3.cnd, ?_, fun t => ?_, hN3.dis, ?_, fun m hm => ?_⟩
      · have hx := hN3.chs l hl
        exact (hff.block _ (lt_of_at hx) (no2 _ 1000 (by simp only [otag, hx, chn]) (by decide))).trans hx
      · obtain ⟨es, cl, e⟩ := hN3.mm.map
        exact hff.mm hN3.mm (no2 _ 1001 (by simp only [otag, e]) (by decide))
      · exact hff.own (hN3.prs t) (fun g hg => no2 g _ (row_tag (hN3.prs t) hg) (by decide))
      · exact hff.fts hf4 (fun g hg => no2 g _ (hf4.tag hg) (by decide))
      · exact hff.own (hN3.ms m hm) (fun g hg => no2 g _ (row_tag (hN3.ms m hm) hg) (by decide))
    have hlt := HN.out.lt (k := S.nb) (.inl rfl)
    have HN4 := Hid.of hN4
    have HF4 := Hid.of hF4
    have HA5 := Hid.of hA5
    have hob : ∀ k, (Value.slice (some ⟨fb, q, none⟩) r.length c1).ownBlock = some k → S.fv.ownBlock = some k := fun k hk => by
      rw [HE.out]
      exact hk
    have HOB := Hid.of hob
    clear hA4 hG4 hB4 hA5 hF4 hN4 hob hf4 hF3 hN3 a3 g3
    go_wp2_with (with_reducible show wpList _ _ _ ({ dst := _, op := Op.store 58 _ _, type := _, pos := _, after := _, guard := _ } :: _) _ _; refine Shut.out ?_)
    show wpList _ _ _ _ _ _
    generalize w3.setCell ⟨S.nb, 1, none⟩ (.slice (some ⟨fb, q, none⟩) r.length c1) = W4 at *
    refine wpList_store_at rfl 58 _ _ rfl w.heap.size HA5.out [.int .i64 f.1, .int .i64 f.2] rfl rfl rfl (by kernel_rfl) (by simp [Value.oneCell']) ?_
    intro w5 a5 g5
    simp only [Act.put]
    go_wp2
    refine bodyPost_ret (results_cell_row rfl _ _ w.heap.size 58 #[.int .i64 f.1, .int .i64 f.2] (0, 0) _ rfl a5 Try.underlying58 rfl (by kernel_rfl)) rfl ?_
    have hff : Fr (fun k => k = w.heap.size) W4 w5 := (Fr.refl _ W4).by g5 (fun g hg => .inl (Option.some.inj hg).symm)
    refine ⟨rfl, _, HN4.out.fr hff ?_ ?_, HF4.out.by g5 (fun g hg => .inr (by have := Option.some.inj hg; omega)), HOB.out⟩
    · intro g hg e
      have := HN.out.lt (k := g) hg
      omega
    · intro g hg e
      have : rds S g := by
        rcases hg with hg | hg
        · exact .inl (HOB.out g hg)
        · exact .inr hg
      have := HN.out.ltr this
      omega
end Go.Proofs.Ytdlfkdehfenemaa
