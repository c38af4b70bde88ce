import Derived.Test.YtkegcilcapnpdaaDoorNd
import Derived.Test.YtkegcilcapnpdaaDoorNb
import Derived.Below
import Derived.Laws.AppendOwn
import Derived.Test.YtkegcilcapnpdaaDoorMz
namespace Go.Proofs.YtkegcilcapnpdaaDoor
open Go.RowKit Go.Shelf FieldNum

theorem heap_grown {W w' : World} (h : Grown W w') {b : Nat} (hb : b < W.heap.size) : w'.heap[b]? = W.heap[b]? := by
  have h2 := h.1.2.2 b hb
  cases e1 : W.heap[b]? with
  | none => rw [Array.getElem?_eq_getElem hb] at e1; cases e1
  | some o1 =>
    rw [e1] at h2
    cases e2 : w'.heap[b]? with
    | none => rw [e2] at h2; cases o1 <;> exact h2
    | some o2 =>
      rw [e2] at h2
      cases o1 <;> cases o2 <;> first
        | (obtain ⟨a1, a2, _, a4⟩ := h2
           have := Array.ext_getElem? (fun j => a4 j (fun x => x))
           subst a1 a2 this; rfl)
        | (rcases h2 with h2 | ⟨a1, a2⟩
           · cases h2
           · subst a1 a2; rfl)
        | exact h2
theorem owns_grown {w w' : World} {base : Nat} {e : TypeId} {s : Nat} {v : Value} {n : Nat} {xs : List Value} (h : w.ownsRow base e s v n xs) (hg : Grown w w') : w'.ownsRow base e s v n xs := by
  refine ⟨h.1, ?_⟩
  rcases h.2 with h2 | ⟨g, cap, cur, h2, h3, h4, h5⟩
  · exact .inl h2
  · refine .inr ⟨g, cap, cur, h2, h3, ?_, h5⟩
    rw [heap_grown hg (Array.getElem?_eq_some_iff.1 h4).1]
    exact h4
theorem frozen_setRow {w : World} {g : Nat} {cur : Array Value} {e : TypeId} (hg : w.heap[g]? = some (.cells cur e (0, 0))) (cs : Array Value) (a : Addr) : (w.setRow g cs).frozen? a = w.frozen? a := by
  by_cases h : a.block = g
  · have e1 : (w.setRow g cs).heap[a.block]? = some (.cells cs e (0, 0)) := by rw [h]; exact setRow_heap w g cur _ e _ hg
    have e2 : w.heap[a.block]? = some (.cells cur e (0, 0)) := by rw [h]; exact hg
    simp [World.frozen?, e1, e2]
  · have e1 : (w.setRow g cs).heap[a.block]? = w.heap[a.block]? := setRow_other w g a.block _ h
    simp [World.frozen?, e1]

/-- one element of 32 bytes is appended to a slice of one's own: nothing is frozen by it -/
theorem append_el {w : World} {base : Nat} {t e ty : TypeId} {i : TypeInfo} {z : Value} (ht : Tryd.prog.underlying t = some (.slice e)) (hi : Tryd.prog.info? e = some i) (hz : i.zero = some z)
    (hsize : i.size = 32) (hby : i.bytes = 32) (hzs : z.cells.size = 32)
    {v : Value} {n : Nat} {xs : List Value} (hown : w.ownsRow base e 32 v n xs) (ad : Addr) (c : Nat) (us : List Value) (hul : us.length = 32) (hu : ∀ j u, us[j]? = some u → w.cell? (ad.add j) = some u) (h1 : ∀ u ∈ us, u.oneCell' = true)
    (hn : n < 1099511627776) (hbase : base ≤ w.heap.size) :
    ∃ v' w', (Builtin.append_ #[t, t] ty #[v, .slice (some ad) 1 c]).run Tryd.prog w = .ok v' w' ∧ w'.ownsRow base e 32 v' (n + 1) (xs ++ us) ∧ w.grownBy w' v.ownBlock ∧ (∃ g cap, v' = .slice (some ⟨g, 0, none⟩) (n + 1) cap) ∧ ∀ a, w'.frozen? a = w.frozen? a := by
  have h63 : n + 1 ≤ maxLen := by unfold maxLen; omega
  obtain ⟨v', w', hr, ho, hg, hiff⟩ := run_append_own (P := Tryd.prog) w base t ty e i z 32 32 ht hi hz hsize hby hzs (by decide) v n xs hown ad 1 c us (by rw [hul]) hu h1 h63 (by omega) hbase
  refine ⟨v', w', hr, ho, hg, ?_, ?_⟩
  · rcases ho.2 with ⟨_, h⟩ | ⟨g, cap, _, h, _⟩
    · omega
    · exact ⟨g, cap, h⟩
  · rcases hown.2 with ⟨rfl, rfl⟩ | ⟨g, cap, cur, rfl, hbg, hgg, hnc, hcm, hcs, htake⟩
    · have h2 := run_append_nil (P := Tryd.prog) w t ty e i z ht hi hz ad 1 c us (by rw [hsize, hul]) hu (by decide) (by decide) (by rw [hby]; decide)
      rw [h2] at hr
      injection hr with _ hw
      subst hw
      intro a
      rw [frozen?_alloc_cells]; rfl
    · by_cases hroom : n + 1 ≤ cap
      · have h2 := run_append_room (P := Tryd.prog) w t ty e i ht hi g n cap cur hgg ad 1 c us (by rw [hsize, hul]) hu h1 hroom (by rw [hsize, hcs, hul]; omega)
        rw [h2] at hr
        injection hr with _ hw
        subst hw
        intro a
        exact frozen_setRow hgg _ a
      · have holds : ∀ j x, xs[j]? = some x → w.cell? ((⟨g, 0, none⟩ : Addr).add j) = some x := hown.cells (g := g) rfl
        have h2 := run_append_grow (P := Tryd.prog) w t ty e i z ht hi hz ⟨g, 0, none⟩ n cap xs (by rw [hsize]; exact hown.1) holds ad 1 c us (by rw [hsize, hul]) hu (by omega) (by omega) (growslice_fits (by omega) (by rw [hby]; omega))
        rw [h2] at hr
        injection hr with _ hw
        subst hw
        intro a
        rw [frozen?_alloc_cells]; rfl
theorem grown_by {w0 w w' : World} {row : Option Nat} (h0 : Grown w0 w) (hg : w.grownBy w' row) (hr : ∀ k, row = some k → w0.heap.size ≤ k) (hf : ∀ a, w'.frozen? a = w.frozen? a) : Grown w0 w' := by
  refine ⟨⟨hg.os.trans h0.1.1, hg.output.trans h0.1.2.1, fun i hi => ?_⟩, fun a => (hf a).trans (h0.2.1 a), Nat.le_trans h0.2.2 hg.size⟩
  rw [hg.block i (Nat.lt_of_lt_of_le hi h0.2.2) (fun e => by have := hr i e.symm; omega)]
  exact h0.1.2.2 i hi
theorem wpList_append_el {ops : Array Oper} {rest : List Oper} {o : Oper} {a : Act} {w W0 : World} {Q : Exit → Act → World → Prop} (hgd : o.guard = none) (s x : Operand) {t e : TypeId} {i : TypeInfo} {z : Value}
    (ho : o.op = .call { callee := .builtin .append, args := #[s, x], argTypes := #[t, t] })
    (ht : Tryd.prog.underlying t = some (.slice e)) (hi : Tryd.prog.info? e = some i) (hz : i.zero = some z) (hsize : i.size = 32) (hby : i.bytes = 32) (hzs : z.cells.size = 32)
    (v : Value) (n : Nat) (xs : List Value) (hs : a.eval s = v) (hown : w.ownsRow W0.heap.size e 32 v n xs) (ad : Addr) (c : Nat) (us : List Value) (hul : us.length = 32) (hx : a.eval x = .slice (some ad) 1 c) (hu : ∀ j u, us[j]? = some u → w.cell? (ad.add j) = some u) (h1 : ∀ u ∈ us, u.oneCell' = true)
    (hn : n < 1099511627776) (hg : Grown W0 w)
    (h : ∀ v' w', w'.ownsRow W0.heap.size e 32 v' (n + 1) (xs ++ us) → w.grownBy w' v.ownBlock → Grown W0 w' → wpList Tryd.prog ops Q rest (a.put o.dst v') w') : wpList Tryd.prog ops Q (o :: rest) a w := by
  refine wpList_plain hgd fun K hK => ?_
  obtain ⟨v', w', hr, h2, h3, _, h5⟩ := append_el (ty := o.type) ht hi hz hsize hby hzs hown ad c us hul hu h1 hn hg.2.2
  unfold Oper.wp execOp
  simp only [ho, resolve, invoke, builtin, Sem.run_bind, Sem.run_pure, Result.andThen_ok, List.map_toArray, List.map_cons, List.map_nil, hs, hx, hr]
  exact hK _ _ (h v' w' h2 h3 (grown_by hg h3 (fun k hk => (hown.lt k hk).1) h5))

set_option maxRecDepth 100000 in
theorem build_sl (x : Nat) (w : World) : (Instr.buildSlice 22 1 #[(0, bv x)]).run Tryd.prog w = .ok (.slice (some ⟨w.heap.size, 0, none⟩) 1 1) (w.alloc (.cells (bl x).toArray 23)) := by kernel_rfl
theorem exec_buildSl {ρ : Operand → Value} {o : Oper} {ps : Array (Nat × Operand)} {w : World} (x : Nat) (ho : o.op = .buildSlice 22 1 ps) (hv : (ps.map fun (i, x) => (i, ρ x)) = #[(0, bv x)]) : (execOp ρ o).run Tryd.prog w = .ok (.value (.slice (some ⟨w.heap.size, 0, none⟩) 1 1)) (w.alloc (.cells (bl x).toArray 23)) := by
  unfold execOp
  simp only [ho, hv]
  simp [build_sl]

/-- so many numbers of 32 bytes, one behind the other -/
def cat (F : Nat → Nat) : Nat → List Value
  | 0 => []
  | k + 1 => cat F k ++ bl (F k)
theorem cat_length (F : Nat → Nat) : ∀ k, (cat F k).length = k * 32
  | 0 => rfl
  | k + 1 => by
    show (cat F k ++ bl (F k)).length = _
    rw [List.length_append, cat_length F k, bl_length]; omega
theorem cat_get (F : Nat → Nat) : ∀ (k i : Nat), i < k → ∀ j, j < 32 → (cat F k)[32 * i + j]? = (bl (F i))[j]?
  | 0, i, hi, _, _ => by omega
  | k + 1, i, hi, j, hj => by
    show (cat F k ++ bl (F k))[32 * i + j]? = _
    by_cases e : i = k
    · subst e
      rw [List.getElem?_append_right (by rw [cat_length]; omega), cat_length]
      congr 1
      omega
    · rw [List.getElem?_append_left (by rw [cat_length]; omega)]
      exact cat_get F k i (by omega) j hj
/-- a list of numbers that lies in cells (or is empty) -/
def Ls (w : World) (v : Value) (n : Nat) (F : Nat → Nat) : Prop := ∃ a c, v = .slice a n c ∧ (0 < n → ∃ b o, a = some ⟨b, o, none⟩ ∧ b < w.heap.size ∧ ∀ i, i < n → w.rangeAt b (o + 32 * i) (bl (F i)))
theorem Ls.grown {w w' : World} {v : Value} {n : Nat} {F : Nat → Nat} (h : Ls w v n F) (hg : Grown w w') : Ls w' v n F := by
  obtain ⟨a, c, hv, h2⟩ := h
  refine ⟨a, c, hv, fun hn => ?_⟩
  obtain ⟨b, o, ha, hb, hr⟩ := h2 hn
  exact ⟨b, o, ha, Nat.lt_of_lt_of_le hb hg.2.2, fun i hi => rangeAt_grown (hr i hi) hg⟩
theorem owns_ls {w : World} {base : Nat} {e : TypeId} {v : Value} {n : Nat} {F : Nat → Nat} (h : w.ownsRow base e 32 v n (cat F n)) : Ls w v n F := by
  rcases h.2 with ⟨hv, hn⟩ | ⟨g, cap, cur, hv, _, hg, _⟩
  · exact ⟨none, 0, by rw [hv, hn], fun h => by omega⟩
  · refine ⟨some ⟨g, 0, none⟩, cap, hv, fun _ => ⟨g, 0, rfl, (Array.getElem?_eq_some_iff.1 hg).1, fun i hi => ?_⟩⟩
    intro j u hj
    have hj2 : j < 32 := by have := lt_of_get hj; rwa [bl_length] at this
    have := h.cells (g := g) (by rw [hv]; rfl) (32 * i + j) u (by rw [cat_get F n i hi j hj2]; exact hj)
    rw [Addr.add_lit] at this
    rw [Nat.zero_add] at this ⊢
    exact this
end Go.Proofs.YtkegcilcapnpdaaDoor

namespace Go.Proofs.YtkegcilcapnpdaaDoor
open Go.RowKit Go.Shelf FieldNum

theorem hEl : ∃ i z, Tryd.prog.info? 23 = some i ∧ i.zero = some z ∧ i.size = 32 ∧ i.bytes = 32 ∧ z.cells.size = 32 := by
  have h : (Tryd.prog.info? 23).map (fun i => (i.zero.map (fun z => z.cells.size), i.size, i.bytes)) = some (some 32, 32, 32) := by kernel_rfl
  cases hi : Tryd.prog.info? 23 with
  | none => rw [hi] at h; simp at h
  | some i =>
    rw [hi] at h
    simp only [Option.map_some, Option.some.injEq, Prod.mk.injEq, Option.map_eq_some_iff] at h
    obtain ⟨⟨z, hz, hzs⟩, h1, h2⟩ := h
    exact ⟨i, z, rfl, hz, h1, h2, hzs⟩
set_option maxRecDepth 100000 in
set_option maxHeartbeats 8000000 in
theorem BatchR_num (v : Value) (n : Nat) (F : Nat → Nat) (w : World) (hv : Ls w v n F) (hF : ∀ i, i < n → F i < S256) (hn : n ≤ 256) (hGl0 : Gp w) : Calls Tryd.prog 31 #[v] w fun e w' => (∃ v', e = .returned v' ∧ Ls w' v' n (fun i => inv (F i))) ∧ Grown w w' := by
  obtain ⟨a, c, rfl, hL⟩ := hv
  have HG := Hid.of hGl0
  clear hGl0
  go_enter Tryd.func31, Tryd.ntmps31
  repeat ((fail_if_success (with_reducible show Code.wp _ (Code.region _ _ _) _ _ _)); go_step)
  refine wp_plain [.imm (.slice none 0 0)] (by kernel_rfl) (fun β => ?_) (fun β w1 hD => ?_)
  · refine Obs.cons (Ob.imm rfl (fun w => by kernel_rfl)) ?_
    exact Obs.nil
  have hW := hD.gr
  clear hD
  simp only [finAct, putAll, valsFrom, Plan.value, Act.put, List.setIfInBounds_toArray, List.set_cons_zero, List.set_cons_succ]
  repeat ((fail_if_success (with_reducible show Code.wp _ (Code.region _ _ _) _ _ _)); go_step)
  refine wp_plain [.imm (.slice none 0 0)] (by kernel_rfl) (fun β => ?_) (fun β w2 hD => ?_)
  · refine Obs.cons (Ob.imm rfl (fun w => by kernel_rfl)) ?_
    exact Obs.nil
  replace hW := grown_trans hW hD.gr
  clear hD
  simp only [finAct, putAll, valsFrom, Plan.value, Act.put, List.setIfInBounds_toArray, List.set_cons_zero, List.set_cons_succ]
  repeat ((fail_if_success (with_reducible show Code.wp _ (Code.region _ _ _) _ _ _)); go_step)
  refine wp_plain [.imm (.slice a n c), .imm (.int .i64 (n : Int)), .imm (.bool false)] (by kernel_rfl) (fun β => ?_) (fun β w3 hD => ?_)
  · refine Obs.cons (Ob.imm rfl (fun w => by kernel_rfl)) ?_
    refine Obs.cons (Ob.imm rfl (fun w => by kernel_rfl)) ?_
    refine Obs.cons (Ob.imm rfl (fun w => exec_gtrI rfl (n : Int) 256 (by kernel_rfl) (by kernel_rfl) false (decide_eq_false (by omega)))) ?_
    exact Obs.nil
  replace hW := grown_trans hW hD.gr
  clear hD
  simp only [finAct, putAll, valsFrom, Plan.value, Act.put, List.setIfInBounds_toArray, List.set_cons_zero, List.set_cons_succ]
  have HL := Hid.of hL
  have HF := Hid.of (And.intro hF hn)
  clear hL hF hn
  go_wp2
  go_loopw [3, 4] (fun v3 v4 wr => ∃ (k : Nat) (r : Value), v4 = .int .i64 (k : Int) ∧ r = v3 ∧ k ≤ n ∧ wr.ownsRow w.heap.size 23 32 r k (cat (fun i => inv (F i)) k) ∧ Grown w wr) (fun _ v4 _ => ((n : Int) - intOf v4).toNat)
  case atStart => exact ⟨0, _, rfl, rfl, Nat.zero_le _, World.ownsRow_nil _ _ _ _, hW⟩
  case round =>
    clear hW
    obtain ⟨k, r, rfl, rfl, hkn, hO, hW⟩ := hrel
    by_cases hk : k < n
    · obtain ⟨b, o, rfl, hb, hr⟩ := HL.out (by omega)
      have hFk := HF.out.1 k hk
      have hn := HF.out.2
      repeat ((fail_if_success (with_reducible show Code.wp _ (Code.region _ _ _) _ _ _)); go_step)
      refine wp_plain [.imm (.int .i64 (k : Int)), .imm (.slice (some ⟨b, o, none⟩) n c), .imm (.int .i64 (n : Int)), .imm (.bool true)] (by kernel_rfl) (fun β => ?_) (fun β u1 hD => ?_)
      · refine Obs.cons (Ob.imm rfl (fun w => by kernel_rfl)) ?_
        refine Obs.cons (Ob.imm rfl (fun w => by kernel_rfl)) ?_
        refine Obs.cons (Ob.imm rfl (fun w => by kernel_rfl)) ?_
        refine Obs.cons (Ob.imm rfl (fun w => exec_lssI rfl (k : Int) (n : Int) (by kernel_rfl) (by kernel_rfl) true (decide_eq_true (by omega)))) ?_
        exact Obs.nil
      replace hO := owns_grown hO hD.gr
      replace hW := grown_trans hW hD.gr
      clear hD
      simp only [finAct, putAll, valsFrom, Plan.value, Act.put, List.setIfInBounds_toArray, List.set_cons_zero, List.set_cons_succ]
      repeat ((fail_if_success (with_reducible show Code.wp _ (Code.region _ _ _) _ _ _)); go_step)
      have hrk := rangeAt_grown (hr k hk) hW
      have hGp := HG.out.grown hW
      refine wp_plain [.imm (.slice (some ⟨b, o, none⟩) n c), .imm (.int .i64 (k : Int)), .imm (.pointer (some ⟨b, o + 32 * k, none⟩)), .val (bv (F k)), .val (bv (inv (F k))), .new 23 32, .put 5 5 (fun _ => bl (inv (F k)))] (by kernel_rfl) (fun β => ?_) (fun β u2 hD => ?_)
      · refine Obs.cons (Ob.imm rfl (fun w => by kernel_rfl)) ?_
        refine Obs.cons (Ob.imm rfl (fun w => by kernel_rfl)) ?_
        refine Obs.cons (Ob.imm rfl (fun w => exec_idxSB (c := c) k hk rfl (by kernel_rfl) (by kernel_rfl))) ?_
        refine Obs.cons (Ob.load b (o + 32 * k) (bl (F k)) rfl rfl (by kernel_rfl) hrk Tryd.underlying23 rfl (by rw [bl_length]; exact info32)) ?_
        refine Obs.cons (Ob.call 30 #[bv (F k)] rfl (fun w => by kernel_rfl) (fun w hg => InvertR (F k) hFk w (hGp.grown hg))) ?_
        refine Obs.cons (Ob.new _ rfl rfl zero32.1 (by simp [bl_length])) ?_
        refine Obs.cons (Ob.put 23 rfl rfl rfl (by kernel_rfl) (by kernel_rfl) (by rw [bl_length]; exact info32) (bl_one _)) ?_
        exact Obs.nil
      have hrX : u2.rangeAt (β 5) 0 (bl (inv (F k))) := hD.rg 6 5 5 (fun _ => bl (inv (F k))) rfl
      replace hO := owns_grown hO hD.gr
      replace hW := grown_trans hW hD.gr
      clear hD hrk hGp
      simp only [finAct, putAll, valsFrom, Plan.value, Act.put, List.setIfInBounds_toArray, List.set_cons_zero, List.set_cons_succ]
      generalize β (0 + 1 + 1 + 1 + 1 + 1) = B at *
      repeat ((fail_if_success (with_reducible show Code.wp _ (Code.region _ _ _) _ _ _)); go_step)
      obtain ⟨X, eX⟩ : ∃ X, X = inv (F k) := ⟨_, rfl⟩
      rw [← eX] at hrX
      rw [← eX]
      obtain ⟨ti, tz, hi, hz, hsz, hby, hzs⟩ := hEl
      refine wp_region_lit ?_
      refine wpList_runS (v := r) (w' := u2) rfl (by kernel_rfl) ?_
      refine wpList_load_mid rfl 23 _ rfl B 0 rfl (bl X) _ hrX Tryd.underlying23 rfl (by rw [bl_length]; exact info32) ?_
      refine wpList_runS (v := .slice (some ⟨u2.heap.size, 0, none⟩) 1 1) (w' := u2.alloc (.cells (bl X).toArray 23)) rfl (exec_buildSl X rfl (by kernel_rfl)) ?_
      have gA : Grown u2 (u2.alloc (.cells (bl X).toArray 23)) := Grown.alloc (Grown.refl _) _ _
      have hnew : ∀ j u, (bl X)[j]? = some u → (u2.alloc (.cells (bl X).toArray 23)).cell? ((⟨u2.heap.size, 0, none⟩ : Addr).add j) = some u := fun j u hj => by
        rw [Addr.add_lit, Nat.zero_add, World.cell?_alloc_new]
        simpa using hj
      replace hO := owns_grown hO gA
      replace hW := grown_trans hW gA
      clear gA hrX
      generalize u2.alloc (.cells (bl X).toArray 23) = u3 at *
      generalize u2.heap.size = A at *
      refine wpList_append_el rfl _ _ rfl Tryd.underlying22 hi hz hsz hby hzs _ k _ rfl hO ⟨A, 0, none⟩ 1 (bl X) (bl_length X) rfl hnew (bl_one X) (by omega) hW (fun v' u4 hO4 _ hW4 => ?_)
      refine wpList_runS (v := v') (w' := u4) rfl (by kernel_rfl) ?_
      apply wpList_nil
      simp only [Act.put, List.setIfInBounds_toArray, List.set_cons_zero, List.set_cons_succ]
      rw [eX] at hO4
      have hS := Hid.of (And.intro hO4 hW4)
      have hkk := Hid.of hk
      have eL := Hid.of (show wrap64 ((k : Int) + 1) = ((k + 1 : Nat) : Int) by unfold wrap64; omega)
      clear hO4 hW4 hO hW hnew hi hz hsz hby hzs eX hk hkn hn hFk hr hb
      go_wp2
      rw [eL.out]
      exact ⟨⟨k + 1, _, rfl, rfl, hkk.out, hS.out.1, hS.out.2⟩, by have := hkk.out; simp [intOf]; omega⟩
    · obtain rfl : k = n := by omega
      repeat ((fail_if_success (with_reducible show Code.wp _ (Code.region _ _ _) _ _ _)); go_step)
      refine wp_plain [.imm (.int .i64 (k : Int)), .imm (.slice a k c), .imm (.int .i64 (k : Int)), .imm (.bool false)] (by kernel_rfl) (fun β => ?_) (fun β u1 hD => ?_)
      · refine Obs.cons (Ob.imm rfl (fun w => by kernel_rfl)) ?_
        refine Obs.cons (Ob.imm rfl (fun w => by kernel_rfl)) ?_
        refine Obs.cons (Ob.imm rfl (fun w => by kernel_rfl)) ?_
        refine Obs.cons (Ob.imm rfl (fun w => exec_lssI rfl (k : Int) (k : Int) (by kernel_rfl) (by kernel_rfl) false (decide_eq_false (by omega)))) ?_
        exact Obs.nil
      replace hO := owns_grown hO hD.gr
      replace hW := grown_trans hW hD.gr
      clear hD
      simp only [finAct, putAll, valsFrom, Plan.value, Act.put, List.setIfInBounds_toArray, List.set_cons_zero, List.set_cons_succ]
      repeat ((fail_if_success (with_reducible show Code.wp _ (Code.region _ _ _) _ _ _)); go_step)
      refine wp_plain [.imm r, .imm r] (by kernel_rfl) (fun β => ?_) (fun β u2 hD => ?_)
      · refine Obs.cons (Ob.imm rfl (fun w => by kernel_rfl)) ?_
        refine Obs.cons (Ob.imm rfl (fun w => by kernel_rfl)) ?_
        exact Obs.nil
      replace hO := owns_grown hO hD.gr
      replace hW := grown_trans hW hD.gr
      clear hD
      simp only [finAct, putAll, valsFrom, Plan.value, Act.put, List.setIfInBounds_toArray, List.set_cons_zero, List.set_cons_succ]
      repeat go_step
      go_ret
      exact ⟨⟨_, rfl, owns_ls hO⟩, hW⟩

set_option maxRecDepth 100000 in
set_option maxHeartbeats 4000000 in
theorem BatchR_long (a : Option Addr) (n c : Nat) (hn : 256 < n) (w : World) : Calls Tryd.prog 31 #[.slice a n c] w fun e w' => e = .returned (.slice none 0 0) ∧ Grown w w' := by
  go_enter Tryd.func31, Tryd.ntmps31
  repeat ((fail_if_success (with_reducible show Code.wp _ (Code.region _ _ _) _ _ _)); go_step)
  refine wp_plain [.imm (.slice none 0 0)] (by kernel_rfl) (fun β => ?_) (fun β w1 hD => ?_)
  · refine Obs.cons (Ob.imm rfl (fun w => by kernel_rfl)) ?_
    exact Obs.nil
  have hW := hD.gr
  clear hD
  simp only [finAct, putAll, valsFrom, Plan.value, Act.put, List.setIfInBounds_toArray, List.set_cons_zero, List.set_cons_succ]
  repeat ((fail_if_success (with_reducible show Code.wp _ (Code.region _ _ _) _ _ _)); go_step)
  refine wp_plain [.imm (.slice none 0 0)] (by kernel_rfl) (fun β => ?_) (fun β w2 hD => ?_)
  · refine Obs.cons (Ob.imm rfl (fun w => by kernel_rfl)) ?_
    exact Obs.nil
  replace hW := grown_trans hW hD.gr
  clear hD
  simp only [finAct, putAll, valsFrom, Plan.value, Act.put, List.setIfInBounds_toArray, List.set_cons_zero, List.set_cons_succ]
  repeat ((fail_if_success (with_reducible show Code.wp _ (Code.region _ _ _) _ _ _)); go_step)
  refine wp_plain [.imm (.slice a n c), .imm (.int .i64 (n : Int)), .imm (.bool true)] (by kernel_rfl) (fun β => ?_) (fun β w3 hD => ?_)
  · refine Obs.cons (Ob.imm rfl (fun w => by kernel_rfl)) ?_
    refine Obs.cons (Ob.imm rfl (fun w => by kernel_rfl)) ?_
    refine Obs.cons (Ob.imm rfl (fun w => exec_gtrI rfl (n : Int) 256 (by kernel_rfl) (by kernel_rfl) true (decide_eq_true (by omega)))) ?_
    exact Obs.nil
  replace hW := grown_trans hW hD.gr
  clear hD
  simp only [finAct, putAll, valsFrom, Plan.value, Act.put, List.setIfInBounds_toArray, List.set_cons_zero, List.set_cons_succ]
  repeat ((fail_if_success (with_reducible show Code.wp _ (Code.region _ _ _) _ _ _)); go_step)
  refine wp_plain [.imm (.slice none 0 0), .imm (.slice none 0 0)] (by kernel_rfl) (fun β => ?_) (fun β w4 hD => ?_)
  · refine Obs.cons (Ob.imm rfl (fun w => by kernel_rfl)) ?_
    refine Obs.cons (Ob.imm rfl (fun w => by kernel_rfl)) ?_
    exact Obs.nil
  replace hW := grown_trans hW hD.gr
  clear hD
  simp only [finAct, putAll, valsFrom, Plan.value, Act.put, List.setIfInBounds_toArray, List.set_cons_zero, List.set_cons_succ]
  repeat go_step
  go_ret
  exact ⟨rfl, hW⟩

set_option maxRecDepth 100000 in
set_option maxHeartbeats 8000000 in
theorem same_r (v1 v2 : Value) (n : Nat) (F : Nat → Nat) (w : World) (hv1 : Ls w v1 n F) (hv2 : Ls w v2 n F) (hF : ∀ i, i < n → F i < S256) (hn : n ≤ 256) : Calls Tryd.prog 34 #[v1, v2] w fun e w' => e = .returned (.bool true) ∧ Grown w w' := by
  obtain ⟨a1, c1, rfl, hL1⟩ := hv1
  obtain ⟨a2, c2, rfl, hL2⟩ := hv2
  go_enter Tryd.func34, Tryd.ntmps34
  repeat ((fail_if_success (with_reducible show Code.wp _ (Code.region _ _ _) _ _ _)); go_step)
  refine wp_plain [.imm (.bool false)] (by kernel_rfl) (fun β => ?_) (fun β w1 hD => ?_)
  · refine Obs.cons (Ob.imm rfl (fun w => by kernel_rfl)) ?_
    exact Obs.nil
  have hW := hD.gr
  clear hD
  simp only [finAct, putAll, valsFrom, Plan.value, Act.put, List.setIfInBounds_toArray, List.set_cons_zero, List.set_cons_succ]
  repeat ((fail_if_success (with_reducible show Code.wp _ (Code.region _ _ _) _ _ _)); go_step)
  refine wp_plain [.imm (.slice a1 n c1), .imm (.int .i64 (n : Int)), .imm (.slice a2 n c2), .imm (.int .i64 (n : Int)), .imm (.bool false)] (by kernel_rfl) (fun β => ?_) (fun β w2 hD => ?_)
  · refine Obs.cons (Ob.imm rfl (fun w => by kernel_rfl)) ?_
    refine Obs.cons (Ob.imm rfl (fun w => by kernel_rfl)) ?_
    refine Obs.cons (Ob.imm rfl (fun w => by kernel_rfl)) ?_
    refine Obs.cons (Ob.imm rfl (fun w => by kernel_rfl)) ?_
    refine Obs.cons (Ob.imm rfl (fun w => exec_neqI rfl (n : Int) (n : Int) (by kernel_rfl) (by kernel_rfl) false (by rw [decide_eq_true rfl]; rfl))) ?_
    exact Obs.nil
  replace hW := grown_trans hW hD.gr
  clear hD
  simp only [finAct, putAll, valsFrom, Plan.value, Act.put, List.setIfInBounds_toArray, List.set_cons_zero, List.set_cons_succ]
  have HL := Hid.of (And.intro hL1 hL2)
  have HF := Hid.of (And.intro hF hn)
  clear hL1 hL2 hF hn
  go_wp2
  go_loopw [5] (fun v5 wr => ∃ k : Nat, v5 = .int .i64 (k : Int) ∧ k ≤ n ∧ Grown w wr) (fun v5 _ => ((n : Int) - intOf v5).toNat)
  case atStart => exact ⟨0, rfl, Nat.zero_le _, hW⟩
  case round =>
    clear hW
    obtain ⟨k, rfl, hkn, hW⟩ := hrel
    by_cases hk : k < n
    · obtain ⟨b1, o1, rfl, hb1, hr1⟩ := HL.out.1 (by omega)
      obtain ⟨b2, o2, rfl, hb2, hr2⟩ := HL.out.2 (by omega)
      have hFk := HF.out.1 k hk
      have hn := HF.out.2
      repeat ((fail_if_success (with_reducible show Code.wp _ (Code.region _ _ _) _ _ _)); go_step)
      refine wp_plain [.imm (.int .i64 (k : Int)), .imm (.slice (some ⟨b1, o1, none⟩) n c1), .imm (.int .i64 (n : Int)), .imm (.bool true)] (by kernel_rfl) (fun β => ?_) (fun β u1 hD => ?_)
      · refine Obs.cons (Ob.imm rfl (fun w => by kernel_rfl)) ?_
        refine Obs.cons (Ob.imm rfl (fun w => by kernel_rfl)) ?_
        refine Obs.cons (Ob.imm rfl (fun w => by kernel_rfl)) ?_
        refine Obs.cons (Ob.imm rfl (fun w => exec_lssI rfl (k : Int) (n : Int) (by kernel_rfl) (by kernel_rfl) true (decide_eq_true (by omega)))) ?_
        exact Obs.nil
      replace hW := grown_trans hW hD.gr
      replace hW := grown_trans hW (gdrew u1)
      clear hD
      simp only [finAct, putAll, valsFrom, Plan.value, Act.put, List.setIfInBounds_toArray, List.set_cons_zero, List.set_cons_succ]
      repeat ((fail_if_success (with_reducible show Code.wp _ (Code.region _ _ _) _ _ _)); go_step)
      have h1 := rangeAt_grown (hr1 k hk) hW
      have h2 := rangeAt_grown (hr2 k hk) hW
      refine wp_loose [.imm (.slice (some ⟨b1, o1, none⟩) n c1), .imm (.int .i64 (k : Int)), .imm (.pointer (some ⟨b1, o1 + 32 * k, none⟩)), .val (bv (F k)), .imm (.slice (some ⟨b2, o2, none⟩) n c2), .imm (.int .i64 (k : Int)), .imm (.pointer (some ⟨b2, o2 + 32 * k, none⟩)), .val (bv (F k)), .imm (.bool false)] (by kernel_rfl) (by kernel_rfl) (fun β => ?_) (fun β u2 hD => ?_)
      · refine Obs.cons (Ob.imm rfl (fun w => by kernel_rfl)) ?_
        refine Obs.cons (Ob.imm rfl (fun w => by kernel_rfl)) ?_
        refine Obs.cons (Ob.imm rfl (fun w => exec_idxSB (c := c1) k hk rfl (by kernel_rfl) (by kernel_rfl))) ?_
        refine Obs.cons (Ob.load b1 (o1 + 32 * k) (bl (F k)) rfl rfl (by kernel_rfl) h1 Tryd.underlying23 rfl (by rw [bl_length]; exact info32)) ?_
        refine Obs.cons (Ob.imm rfl (fun w => by kernel_rfl)) ?_
        refine Obs.cons (Ob.imm rfl (fun w => by kernel_rfl)) ?_
        refine Obs.cons (Ob.imm rfl (fun w => exec_idxSB (c := c2) k hk rfl (by kernel_rfl) (by kernel_rfl))) ?_
        refine Obs.cons (Ob.load b2 (o2 + 32 * k) (bl (F k)) rfl rfl (by kernel_rfl) h2 Tryd.underlying23 rfl (by rw [bl_length]; exact info32)) ?_
        refine Obs.cons (Ob.imm rfl (fun w => exec_neq_same rfl (F k) (F k) (by kernel_rfl) (by kernel_rfl) hFk hFk rfl w)) ?_
        exact Obs.nil
      replace hW := grown_trans hW hD.gr
      clear hD h1 h2
      simp only [finAct, putAll, valsFrom, Plan.value, Act.put, List.setIfInBounds_toArray, List.set_cons_zero, List.set_cons_succ]
      have hS := Hid.of hW
      have hkk := Hid.of hk
      have eL := Hid.of (show wrap64 ((k : Int) + 1) = ((k + 1 : Nat) : Int) by unfold wrap64; omega)
      clear hW hk hkn hn hFk hr1 hr2 hb1 hb2
      go_wp2
      rw [eL.out]
      exact ⟨⟨k + 1, rfl, hkk.out, hS.out⟩, by have := hkk.out; simp [intOf]; omega⟩
    · obtain rfl : k = n := by omega
      repeat ((fail_if_success (with_reducible show Code.wp _ (Code.region _ _ _) _ _ _)); go_step)
      refine wp_plain [.imm (.int .i64 (k : Int)), .imm (.slice a1 k c1), .imm (.int .i64 (k : Int)), .imm (.bool false)] (by kernel_rfl) (fun β => ?_) (fun β u1 hD => ?_)
      · refine Obs.cons (Ob.imm rfl (fun w => by kernel_rfl)) ?_
        refine Obs.cons (Ob.imm rfl (fun w => by kernel_rfl)) ?_
        refine Obs.cons (Ob.imm rfl (fun w => by kernel_rfl)) ?_
        refine Obs.cons (Ob.imm rfl (fun w => exec_lssI rfl (k : Int) (k : Int) (by kernel_rfl) (by kernel_rfl) false (decide_eq_false (by omega)))) ?_
        exact Obs.nil
      replace hW := grown_trans hW hD.gr
      clear hD
      simp only [finAct, putAll, valsFrom, Plan.value, Act.put, List.setIfInBounds_toArray, List.set_cons_zero, List.set_cons_succ]
      repeat ((fail_if_success (with_reducible show Code.wp _ (Code.region _ _ _) _ _ _)); go_step)
      refine wp_plain [.imm (.bool true)] (by kernel_rfl) (fun β => ?_) (fun β u2 hD => ?_)
      · refine Obs.cons (Ob.imm rfl (fun w => by kernel_rfl)) ?_
        exact Obs.nil
      replace hW := grown_trans hW hD.gr
      clear hD
      simp only [finAct, putAll, valsFrom, Plan.value, Act.put, List.setIfInBounds_toArray, List.set_cons_zero, List.set_cons_succ]
      repeat go_step
      go_ret
      exact ⟨rfl, hW⟩

end Go.Proofs.YtkegcilcapnpdaaDoor
