import Derived.Test.YtkegcilcapnpdaaDoorNe
import Derived.Test.YtkegcilcapnpdaaDoorNg
namespace FieldNum
/-- what stands behind the list -/
def fil (j : Nat) : Nat := 7 + 256 * (j % 256)
def wf (n : Nat) (F : Nat → Nat) (i : Nat) : Nat := if i < n then F i else fil (i - n)
theorem four_dig (a b c d : Nat) (ha : a < 256) (hb : b < 256) (hc : c < 256) (hd : d < 256) : ∀ j, (a + 256 * b + 65536 * c + 16777216 * d) / 256 ^ j % 256 = if j = 0 then a else if j = 1 then b else if j = 2 then c else if j = 3 then d else 0
  | 0 => by rw [Nat.pow_zero, if_pos rfl]; omega
  | 1 => by rw [Nat.pow_one, if_neg (by decide), if_pos rfl]; omega
  | 2 => by rw [show 256 ^ 2 = 65536 by decide, if_neg (by decide), if_neg (by decide), if_pos rfl]; omega
  | 3 => by rw [show 256 ^ 3 = 16777216 by decide, if_neg (by decide), if_neg (by decide), if_neg (by decide), if_pos rfl]; omega
  | j + 4 => by
    rw [if_neg (by omega), if_neg (by omega), if_neg (by omega), if_neg (by omega), Nat.div_eq_of_lt]
    refine Nat.lt_of_lt_of_le (show _ < 256 ^ 4 by rw [show 256 ^ 4 = 4294967296 by decide]; omega) (Nat.pow_le_pow_right (by decide) (by omega))
end FieldNum
namespace Go.Proofs.YtkegcilcapnpdaaDoor
open Go.RowKit Go.Shelf FieldNum

/-- four bytes and zeros -/
def b4 (a b c d : Nat) : List Value := .int .u8 (a : Int) :: .int .u8 (b : Int) :: .int .u8 (c : Int) :: .int .u8 (d : Int) :: List.replicate 28 (.int .u8 0)
theorem bl_four (a b c d : Nat) (ha : a < 256) (hb : b < 256) (hc : c < 256) (hd : d < 256) : bl (a + 256 * b + 65536 * c + 16777216 * d) = b4 a b c d := by
  apply List.ext_getElem?
  intro j
  by_cases hj : j < 32
  · rw [bl_get _ j hj, four_dig a b c d ha hb hc hd]
    match j, hj with
    | 0, _ => rfl
    | 1, _ => rfl
    | 2, _ => rfl
    | 3, _ => rfl
    | j + 4, hj =>
      rw [if_neg (by omega), if_neg (by omega), if_neg (by omega), if_neg (by omega)]
      show _ = (List.replicate 28 (Value.int .u8 0))[j]?
      rw [List.getElem?_replicate, if_pos (by omega)]
      rfl
  · rw [List.getElem?_eq_none (by rw [bl_length]; omega), List.getElem?_eq_none (by simp [b4]; omega)]
set_option maxRecDepth 100000 in
theorem build_2 (a b : Nat) (w : World) : (Instr.build 23 #[(0, .int .u8 (a : Int)), (1, .int .u8 (b : Int))]).run Tryd.prog w = .ok (.agg (b4 a b 0 0).toArray) w := by kernel_rfl
set_option maxRecDepth 100000 in
theorem build_4 (a b c d : Nat) (w : World) : (Instr.build 23 #[(0, .int .u8 (a : Int)), (1, .int .u8 (b : Int)), (2, .int .u8 (c : Int)), (3, .int .u8 (d : Int))]).run Tryd.prog w = .ok (.agg (b4 a b c d).toArray) w := by kernel_rfl
theorem build_fil (j : Nat) (w : World) : (Instr.build 23 #[(0, .int .u8 7), (1, .int .u8 ((j % 256 : Nat) : Int))]).run Tryd.prog w = .ok (bv (fil j)) w := by
  have h := build_2 7 (j % 256) w
  have e := bl_four 7 (j % 256) 0 0 (by decide) (Nat.mod_lt _ (by decide)) (by decide) (by decide)
  simp only [Nat.mul_zero, Nat.add_zero] at e
  rw [← e] at h
  exact h
theorem fil_S (j : Nat) : fil j < S256 := by
  have := Nat.mod_lt j (show 0 < 256 by decide)
  unfold fil S256
  omega
theorem wf_S {n : Nat} {F : Nat → Nat} (h : ∀ i, i < n → F i < S256) (i : Nat) : wf n F i < S256 := by
  unfold wf
  split
  · rename_i hi; exact h i hi
  · exact fil_S _
theorem cat_congr {F G : Nat → Nat} : ∀ {k : Nat}, (∀ i, i < k → F i = G i) → cat F k = cat G k
  | 0, _ => rfl
  | k + 1, h => by
    show cat F k ++ bl (F k) = cat G k ++ bl (G k)
    rw [cat_congr (fun i hi => h i (by omega)), h k (by omega)]
theorem exec_c35m {o : Oper} {ρ : Operand → Value} {x : Operand} {w : World} (m : Nat) (ho : o.op = .convert 3 5 x) (hx : ρ x = .int .i64 (m : Int)) : (execOp ρ o).run Tryd.prog w = .ok (.value (.int .u8 ((m % 256 : Nat) : Int))) w := by
  have h2 : IntKind.u8.wrap (m : Int) = ((m % 256 : Nat) : Int) := by rw [IntKind.wrap_u8]; omega
  unfold execOp
  simp only [ho, hx]
  simp [go_sem, h2]

/-- a whole list is appended to nothing -/
theorem append_list {w : World} {t e ty : TypeId} {i : TypeInfo} {z : Value} (ht : Tryd.prog.underlying t = some (.slice e)) (hi : Tryd.prog.info? e = some i) (hz : i.zero = some z)
    (hsize : i.size = 32) (hby : i.bytes = 32) (hzs : z.cells.size = 32) {a : Option Addr} {n c : Nat} {F : Nat → Nat} (hL : Ls w (.slice a n c) n F) (hn : n * 32 ≤ 140737488355328) :
    ∃ v' w', (Builtin.append_ #[t, t] ty #[.slice none 0 0, .slice a n c]).run Tryd.prog w = .ok v' w' ∧ w'.ownsRow w.heap.size e 32 v' n (cat F n) ∧ Grown w w' := by
  by_cases h0 : n = 0
  · subst h0
    refine ⟨.slice none 0 0, w, ?_, World.ownsRow_nil _ _ _ _, Grown.refl w⟩
    cases a with
    | none => simp [Builtin.append_, run_underlying ht, sizeOf, typeInfo, hi, Builtin.lenOf, Builtin.firstCells]
    | some ad => simp [Builtin.append_, run_underlying ht, sizeOf, typeInfo, hi, Builtin.lenOf, Builtin.firstCells, loadCells, loadCellsFrom]
  · obtain ⟨a2, c2, e2, hL2⟩ := hL
    injection e2 with ea _ ec
    subst ea ec
    obtain ⟨b, off, rfl, hb, hr⟩ := hL2 (by omega)
    have hnews : ∀ j u, (cat F n)[j]? = some u → w.cell? ((⟨b, off, none⟩ : Addr).add j) = some u := by
      intro j u hj
      have hjl : j < n * 32 := by have := lt_of_get hj; rwa [cat_length] at this
      have e1 : j = 32 * (j / 32) + j % 32 := by omega
      rw [e1, cat_get F n (j / 32) (by omega) (j % 32) (Nat.mod_lt _ (by decide))] at hj
      have := hr (j / 32) (by omega) (j % 32) u hj
      rw [Addr.add_mid]
      rw [show off + j = off + 32 * (j / 32) + j % 32 by omega]
      exact this
    have hone : ∀ u ∈ cat F n, u.oneCell' = true := by
      intro u hu
      obtain ⟨j, hj⟩ := List.getElem?_of_mem hu
      have hjl : j < n * 32 := by have := lt_of_get hj; rwa [cat_length] at this
      have e1 : j = 32 * (j / 32) + j % 32 := by omega
      rw [e1, cat_get F n (j / 32) (by omega) (j % 32) (Nat.mod_lt _ (by decide))] at hj
      exact bl_one _ u (List.mem_of_getElem? hj)
    have h63 : 0 + n ≤ maxLen := by unfold maxLen; omega
    obtain ⟨v', w', hr', ho, hg, hiff⟩ := run_append_own (P := Tryd.prog) w w.heap.size t ty e i z 32 32 ht hi hz hsize hby hzs (by decide) (.slice none 0 0) 0 [] (World.ownsRow_nil _ _ _ _) ⟨b, off, none⟩ n c (cat F n) (cat_length F n) hnews hone h63 (by rw [Nat.zero_add]; exact hn) (Nat.le_refl _)
    refine ⟨v', w', hr', by simpa using ho, ?_⟩
    have h63i : (n : Int) ≤ 9223372036854775807 := by omega
    have h2 := run_append_nil (P := Tryd.prog) w t ty e i z ht hi hz ⟨b, off, none⟩ n c (cat F n) (by rw [hsize, cat_length]) hnews (Nat.pos_of_ne_zero h0) h63i (by rw [hby]; exact Nat.le_trans hn (by decide))
    rw [h2] at hr'
    injection hr' with _ hw
    subst hw
    exact Grown.alloc (Grown.drew (Grown.refl _)) _ _
theorem wpList_append_list {ops : Array Oper} {rest : List Oper} {o : Oper} {av : Act} {w : World} {Q : Exit → Act → World → Prop} (hgd : o.guard = none) (s x : Operand) {t e : TypeId} {i : TypeInfo} {z : Value}
    (ho : o.op = .call { callee := .builtin .append, args := #[s, x], argTypes := #[t, t] })
    (ht : Tryd.prog.underlying t = some (.slice e)) (hi : Tryd.prog.info? e = some i) (hz : i.zero = some z) (hsize : i.size = 32) (hby : i.bytes = 32) (hzs : z.cells.size = 32)
    {a : Option Addr} {n c : Nat} {F : Nat → Nat} (hs : av.eval s = .slice none 0 0) (hx : av.eval x = .slice a n c) (hL : Ls w (.slice a n c) n F) (hn : n * 32 ≤ 140737488355328)
    (h : ∀ v' w', w'.ownsRow w.heap.size e 32 v' n (cat F n) → Grown w w' → wpList Tryd.prog ops Q rest (av.put o.dst v') w') : wpList Tryd.prog ops Q (o :: rest) av w := by
  refine wpList_plain hgd fun K hK => ?_
  obtain ⟨v', w', hr, h2, h3⟩ := append_list (ty := o.type) ht hi hz hsize hby hzs hL hn
  unfold Oper.wp execOp
  simp only [ho, resolve, invoke, builtin, Sem.run_bind, Sem.run_pure, Result.andThen_ok, List.map_toArray, List.map_cons, List.map_nil, hs, hx, hr]
  exact hK _ _ (h v' w' h2 h3)
theorem owns_base {w : World} {b b' : Nat} {e : TypeId} {s : Nat} {v : Value} {n : Nat} {xs : List Value} (h : w.ownsRow b e s v n xs) (hb : b' ≤ b) : w.ownsRow b' e s v n xs := by
  refine ⟨h.1, ?_⟩
  rcases h.2 with h2 | ⟨g, cap, cur, h2, h3, h4⟩
  · exact .inl h2
  · exact .inr ⟨g, cap, cur, h2, Nat.le_trans hb h3, h4⟩

set_option maxRecDepth 100000 in
set_option maxHeartbeats 8000000 in
theorem roomy_r (a : Option Addr) (n c : Nat) (F : Nat → Nat) (w : World) (hL : Ls w (.slice a n c) n F) (hF : ∀ i, i < n → F i < S256) (hn : n ≤ 1048576) : Calls Tryd.prog 32 #[.slice a n c] w fun e w' => (∃ v', e = .returned v' ∧ w'.ownsRow w.heap.size 23 32 v' (n + 300) (cat (wf n F) (n + 300))) ∧ Grown w w' := by
  have HB := Hid.of (And.intro hF hn)
  clear hF hn
  go_enter Tryd.func32, Tryd.ntmps32
  repeat ((fail_if_success (with_reducible show Code.wp _ (Code.region _ _ _) _ _ _)); go_step)
  refine wp_plain [.imm (.slice none 0 0)] (by kernel_rfl) (fun β => ?_) (fun β w1 hD => ?_)
  · refine Obs.cons (Ob.imm rfl (fun w => by kernel_rfl)) ?_
    exact Obs.nil
  have hW := hD.gr
  clear hD
  simp only [finAct, putAll, valsFrom, Plan.value, Act.put, List.setIfInBounds_toArray, List.set_cons_zero, List.set_cons_succ]
  repeat ((fail_if_success (with_reducible show Code.wp _ (Code.region _ _ _) _ _ _)); go_step)
  refine wp_plain [.imm (.slice none 0 0)] (by kernel_rfl) (fun β => ?_) (fun β w2 hD => ?_)
  · refine Obs.cons (Ob.imm rfl (fun w => by kernel_rfl)) ?_
    exact Obs.nil
  replace hW := grown_trans hW hD.gr
  clear hD
  simp only [finAct, putAll, valsFrom, Plan.value, Act.put, List.setIfInBounds_toArray, List.set_cons_zero, List.set_cons_succ]
  repeat ((fail_if_success (with_reducible show Code.wp _ (Code.region _ _ _) _ _ _)); go_step)
  obtain ⟨ti, tz, hi, hz, hsz, hby, hzs⟩ := hEl
  have hL2 := hL.grown hW
  refine wp_region_lit ?_
  refine wpList_runS (v := .slice none 0 0) (w' := w2) rfl (by kernel_rfl) ?_
  refine wpList_runS (v := .slice a n c) (w' := w2) rfl (by kernel_rfl) ?_
  refine wpList_append_list rfl _ _ rfl Tryd.underlying22 hi hz hsz hby hzs rfl rfl hL2 (by have := HB.out.2; omega) (fun v' w3 hO hg => ?_)
  refine wpList_runS (v := v') (w' := w3) rfl (by kernel_rfl) ?_
  apply wpList_nil
  simp only [Act.put, List.setIfInBounds_toArray, List.set_cons_zero, List.set_cons_succ]
  replace hO := owns_base hO hW.2.2
  replace hW := grown_trans hW hg
  rw [cat_congr (G := wf n F) (fun i hi => (if_pos hi).symm)] at hO
  clear hg hL2 hi hz hsz hby hzs
  go_wp2
  go_loopw [3, 4] (fun v3 v4 wr => ∃ (k : Nat) (r : Value), v4 = .int .i64 (k : Int) ∧ r = v3 ∧ k ≤ 300 ∧ wr.ownsRow w.heap.size 23 32 r (n + k) (cat (wf n F) (n + k)) ∧ Grown w wr) (fun _ v4 _ => (300 - intOf v4).toNat)
  case atStart => exact ⟨0, _, rfl, rfl, by decide, hO, hW⟩
  case round =>
    clear hW hO
    obtain ⟨k, r, rfl, rfl, hk300, hO, hW⟩ := hrel
    by_cases hk : k < 300
    · repeat ((fail_if_success (with_reducible show Code.wp _ (Code.region _ _ _) _ _ _)); go_step)
      refine wp_plain [.imm (.int .i64 (k : Int)), .imm (.bool true)] (by kernel_rfl) (fun β => ?_) (fun β u1 hD => ?_)
      · refine Obs.cons (Ob.imm rfl (fun w => by kernel_rfl)) ?_
        refine Obs.cons (Ob.imm rfl (fun w => exec_lssI rfl (k : Int) 300 (by kernel_rfl) (by kernel_rfl) true (decide_eq_true (by omega)))) ?_
        exact Obs.nil
      replace hO := owns_grown hO hD.gr
      replace hW := grown_trans hW hD.gr
      clear hD
      simp only [finAct, putAll, valsFrom, Plan.value, Act.put, List.setIfInBounds_toArray, List.set_cons_zero, List.set_cons_succ]
      repeat ((fail_if_success (with_reducible show Code.wp _ (Code.region _ _ _) _ _ _)); go_step)
      obtain ⟨ti, tz, hi, hz, hsz, hby, hzs⟩ := hEl
      refine wp_region_lit ?_
      refine wpList_runS (v := r) (w' := u1) rfl (by kernel_rfl) ?_
      refine wpList_runS (v := .int .i64 (k : Int)) (w' := u1) rfl (by kernel_rfl) ?_
      refine wpList_runS (v := .int .u8 ((k % 256 : Nat) : Int)) (w' := u1) rfl (exec_c35m k rfl (by kernel_rfl)) ?_
      refine wpList_runS (v := bv (fil k)) (w' := u1) rfl (exec_build rfl (by kernel_rfl) (build_fil k u1)) ?_
      refine wpList_runS (v := .slice (some ⟨u1.heap.size, 0, none⟩) 1 1) (w' := u1.alloc (.cells (bl (fil k)).toArray 23)) rfl (exec_buildSl (fil k) rfl (by kernel_rfl)) ?_
      have gA : Grown u1 (u1.alloc (.cells (bl (fil k)).toArray 23)) := Grown.alloc (Grown.refl _) _ _
      have hnew : ∀ j u, (bl (fil k))[j]? = some u → (u1.alloc (.cells (bl (fil k)).toArray 23)).cell? ((⟨u1.heap.size, 0, none⟩ : Addr).add j) = some u := fun j u hj => by
        rw [Addr.add_lit, Nat.zero_add, World.cell?_alloc_new]
        simpa using hj
      replace hO := owns_grown hO gA
      replace hW := grown_trans hW gA
      clear gA
      generalize u1.alloc (.cells (bl (fil k)).toArray 23) = u3 at *
      generalize u1.heap.size = A at *
      refine wpList_append_el rfl _ _ rfl Tryd.underlying22 hi hz hsz hby hzs _ (n + k) _ rfl hO ⟨A, 0, none⟩ 1 (bl (fil k)) (bl_length _) rfl hnew (bl_one _) (by have := HB.out.2; omega) hW (fun v' u4 hO4 _ hW4 => ?_)
      refine wpList_runS (v := v') (w' := u4) rfl (by kernel_rfl) ?_
      apply wpList_nil
      simp only [Act.put, List.setIfInBounds_toArray, List.set_cons_zero, List.set_cons_succ]
      have e5 : cat (wf n F) (n + k) ++ bl (fil k) = cat (wf n F) (n + (k + 1)) := by
        show _ = cat (wf n F) (n + k) ++ bl (wf n F (n + k))
        rw [show wf n F (n + k) = fil k by unfold wf; rw [if_neg (by omega), Nat.add_sub_cancel_left]]
      rw [e5] at hO4
      have hS := Hid.of (And.intro hO4 hW4)
      have hkk := Hid.of hk
      have eL := Hid.of (show wrap64 ((k : Int) + 1) = ((k + 1 : Nat) : Int) by unfold wrap64; omega)
      clear hO4 hW4 hO hW hnew hi hz hsz hby hzs hk hk300 e5
      go_wp2
      rw [eL.out]
      exact ⟨⟨k + 1, _, rfl, rfl, hkk.out, hS.out.1, hS.out.2⟩, by have := hkk.out; simp [intOf]; omega⟩
    · obtain rfl : k = 300 := by omega
      repeat ((fail_if_success (with_reducible show Code.wp _ (Code.region _ _ _) _ _ _)); go_step)
      refine wp_plain [.imm (.int .i64 ((300 : Nat) : Int)), .imm (.bool false)] (by kernel_rfl) (fun β => ?_) (fun β u1 hD => ?_)
      · refine Obs.cons (Ob.imm rfl (fun w => by kernel_rfl)) ?_
        refine Obs.cons (Ob.imm rfl (fun w => by kernel_rfl)) ?_
        exact Obs.nil
      replace hO := owns_grown hO hD.gr
      replace hW := grown_trans hW hD.gr
      clear hD
      simp only [finAct, putAll, valsFrom, Plan.value, Act.put, List.setIfInBounds_toArray, List.set_cons_zero, List.set_cons_succ]
      repeat ((fail_if_success (with_reducible show Code.wp _ (Code.region _ _ _) _ _ _)); go_step)
      refine wp_plain [.imm r, .imm r] (by kernel_rfl) (fun β => ?_) (fun β u2 hD => ?_)
      · refine Obs.cons (Ob.imm rfl (fun w => by kernel_rfl)) ?_
        refine Obs.cons (Ob.imm rfl (fun w => by kernel_rfl)) ?_
        exact Obs.nil
      replace hO := owns_grown hO hD.gr
      replace hW := grown_trans hW hD.gr
      clear hD
      simp only [finAct, putAll, valsFrom, Plan.value, Act.put, List.setIfInBounds_toArray, List.set_cons_zero, List.set_cons_succ]
      repeat go_step
      go_ret
      exact ⟨⟨_, rfl, hO⟩, hW⟩

end Go.Proofs.YtkegcilcapnpdaaDoor

namespace Go.Proofs.YtkegcilcapnpdaaDoor
open Go.RowKit Go.Shelf FieldNum

set_option maxRecDepth 100000 in
set_option maxHeartbeats 8000000 in
theorem same_w (v1 v2 : Value) (n : Nat) (F : Nat → Nat) (w : World) (hv1 : Ls w v1 n F) (hv2 : Ls w v2 n F) (hF : ∀ i, i < n → F i < S256) (hn : n ≤ 1099511627776) : Calls Tryd.prog 34 #[v1, v2] w fun e w' => e = .returned (.bool true) ∧ Grown w w' := by
  obtain ⟨a1, c1, rfl, hL1⟩ := hv1
  obtain ⟨a2, c2, rfl, hL2⟩ := hv2
  go_enter Tryd.func34, Tryd.ntmps34
  repeat ((fail_if_success (with_reducible show Code.wp _ (Code.region _ _ _) _ _ _)); go_step)
  refine wp_plain [.imm (.bool false)] (by kernel_rfl) (fun β => ?_) (fun β w1 hD => ?_)
  · refine Obs.cons (Ob.imm rfl (fun w => by kernel_rfl)) ?_
    exact Obs.nil
  have hW := hD.gr
  clear hD
  simp only [finAct, putAll, valsFrom, Plan.value, Act.put, List.setIfInBounds_toArray, List.set_cons_zero, List.set_cons_succ]
  repeat ((fail_if_success (with_reducible show Code.wp _ (Code.region _ _ _) _ _ _)); go_step)
  refine wp_plain [.imm (.slice a1 n c1), .imm (.int .i64 (n : Int)), .imm (.slice a2 n c2), .imm (.int .i64 (n : Int)), .imm (.bool false)] (by kernel_rfl) (fun β => ?_) (fun β w2 hD => ?_)
  · refine Obs.cons (Ob.imm rfl (fun w => by kernel_rfl)) ?_
    refine Obs.cons (Ob.imm rfl (fun w => by kernel_rfl)) ?_
    refine Obs.cons (Ob.imm rfl (fun w => by kernel_rfl)) ?_
    refine Obs.cons (Ob.imm rfl (fun w => by kernel_rfl)) ?_
    refine Obs.cons (Ob.imm rfl (fun w => exec_neqI rfl (n : Int) (n : Int) (by kernel_rfl) (by kernel_rfl) false (by rw [decide_eq_true rfl]; rfl))) ?_
    exact Obs.nil
  replace hW := grown_trans hW hD.gr
  clear hD
  simp only [finAct, putAll, valsFrom, Plan.value, Act.put, List.setIfInBounds_toArray, List.set_cons_zero, List.set_cons_succ]
  have HL := Hid.of (And.intro hL1 hL2)
  have HF := Hid.of (And.intro hF hn)
  clear hL1 hL2 hF hn
  go_wp2
  go_loopw [5] (fun v5 wr => ∃ k : Nat, v5 = .int .i64 (k : Int) ∧ k ≤ n ∧ Grown w wr) (fun v5 _ => ((n : Int) - intOf v5).toNat)
  case atStart => exact ⟨0, rfl, Nat.zero_le _, hW⟩
  case round =>
    clear hW
    obtain ⟨k, rfl, hkn, hW⟩ := hrel
    by_cases hk : k < n
    · obtain ⟨b1, o1, rfl, hb1, hr1⟩ := HL.out.1 (by omega)
      obtain ⟨b2, o2, rfl, hb2, hr2⟩ := HL.out.2 (by omega)
      have hFk := HF.out.1 k hk
      have hn := HF.out.2
      repeat ((fail_if_success (with_reducible show Code.wp _ (Code.region _ _ _) _ _ _)); go_step)
      refine wp_plain [.imm (.int .i64 (k : Int)), .imm (.slice (some ⟨b1, o1, none⟩) n c1), .imm (.int .i64 (n : Int)), .imm (.bool true)] (by kernel_rfl) (fun β => ?_) (fun β u1 hD => ?_)
      · refine Obs.cons (Ob.imm rfl (fun w => by kernel_rfl)) ?_
        refine Obs.cons (Ob.imm rfl (fun w => by kernel_rfl)) ?_
        refine Obs.cons (Ob.imm rfl (fun w => by kernel_rfl)) ?_
        refine Obs.cons (Ob.imm rfl (fun w => exec_lssI rfl (k : Int) (n : Int) (by kernel_rfl) (by kernel_rfl) true (decide_eq_true (by omega)))) ?_
        exact Obs.nil
      replace hW := grown_trans hW hD.gr
      replace hW := grown_trans hW (gdrew u1)
      clear hD
      simp only [finAct, putAll, valsFrom, Plan.value, Act.put, List.setIfInBounds_toArray, List.set_cons_zero, List.set_cons_succ]
      repeat ((fail_if_success (with_reducible show Code.wp _ (Code.region _ _ _) _ _ _)); go_step)
      have h1 := rangeAt_grown (hr1 k hk) hW
      have h2 := rangeAt_grown (hr2 k hk) hW
      refine wp_loose [.imm (.slice (some ⟨b1, o1, none⟩) n c1), .imm (.int .i64 (k : Int)), .imm (.pointer (some ⟨b1, o1 + 32 * k, none⟩)), .val (bv (F k)), .imm (.slice (some ⟨b2, o2, none⟩) n c2), .imm (.int .i64 (k : Int)), .imm (.pointer (some ⟨b2, o2 + 32 * k, none⟩)), .val (bv (F k)), .imm (.bool false)] (by kernel_rfl) (by kernel_rfl) (fun β => ?_) (fun β u2 hD => ?_)
      · refine Obs.cons (Ob.imm rfl (fun w => by kernel_rfl)) ?_
        refine Obs.cons (Ob.imm rfl (fun w => by kernel_rfl)) ?_
        refine Obs.cons (Ob.imm rfl (fun w => exec_idxSB (c := c1) k hk rfl (by kernel_rfl) (by kernel_rfl))) ?_
        refine Obs.cons (Ob.load b1 (o1 + 32 * k) (bl (F k)) rfl rfl (by kernel_rfl) h1 Tryd.underlying23 rfl (by rw [bl_length]; exact info32)) ?_
        refine Obs.cons (Ob.imm rfl (fun w => by kernel_rfl)) ?_
        refine Obs.cons (Ob.imm rfl (fun w => by kernel_rfl)) ?_
        refine Obs.cons (Ob.imm rfl (fun w => exec_idxSB (c := c2) k hk rfl (by kernel_rfl) (by kernel_rfl))) ?_
        refine Obs.cons (Ob.load b2 (o2 + 32 * k) (bl (F k)) rfl rfl (by kernel_rfl) h2 Tryd.underlying23 rfl (by rw [bl_length]; exact info32)) ?_
        refine Obs.cons (Ob.imm rfl (fun w => exec_neq_same rfl (F k) (F k) (by kernel_rfl) (by kernel_rfl) hFk hFk rfl w)) ?_
        exact Obs.nil
      replace hW := grown_trans hW hD.gr
      clear hD h1 h2
      simp only [finAct, putAll, valsFrom, Plan.value, Act.put, List.setIfInBounds_toArray, List.set_cons_zero, List.set_cons_succ]
      have hS := Hid.of hW
      have hkk := Hid.of hk
      have eL := Hid.of (show wrap64 ((k : Int) + 1) = ((k + 1 : Nat) : Int) by unfold wrap64; omega)
      clear hW hk hkn hn hFk hr1 hr2 hb1 hb2
      go_wp2
      rw [eL.out]
      exact ⟨⟨k + 1, rfl, hkk.out, hS.out⟩, by have := hkk.out; simp [intOf]; omega⟩
    · obtain rfl : k = n := by omega
      repeat ((fail_if_success (with_reducible show Code.wp _ (Code.region _ _ _) _ _ _)); go_step)
      refine wp_plain [.imm (.int .i64 (k : Int)), .imm (.slice a1 k c1), .imm (.int .i64 (k : Int)), .imm (.bool false)] (by kernel_rfl) (fun β => ?_) (fun β u1 hD => ?_)
      · refine Obs.cons (Ob.imm rfl (fun w => by kernel_rfl)) ?_
        refine Obs.cons (Ob.imm rfl (fun w => by kernel_rfl)) ?_
        refine Obs.cons (Ob.imm rfl (fun w => by kernel_rfl)) ?_
        refine Obs.cons (Ob.imm rfl (fun w => exec_lssI rfl (k : Int) (k : Int) (by kernel_rfl) (by kernel_rfl) false (decide_eq_false (by omega)))) ?_
        exact Obs.nil
      replace hW := grown_trans hW hD.gr
      clear hD
      simp only [finAct, putAll, valsFrom, Plan.value, Act.put, List.setIfInBounds_toArray, List.set_cons_zero, List.set_cons_succ]
      repeat ((fail_if_success (with_reducible show Code.wp _ (Code.region _ _ _) _ _ _)); go_step)
      refine wp_plain [.imm (.bool true)] (by kernel_rfl) (fun β => ?_) (fun β u2 hD => ?_)
      · refine Obs.cons (Ob.imm rfl (fun w => by kernel_rfl)) ?_
        exact Obs.nil
      replace hW := grown_trans hW hD.gr
      clear hD
      simp only [finAct, putAll, valsFrom, Plan.value, Act.put, List.setIfInBounds_toArray, List.set_cons_zero, List.set_cons_succ]
      repeat go_step
      go_ret
      exact ⟨rfl, hW⟩

set_option maxRecDepth 100000 in
set_option maxHeartbeats 4000000 in
theorem kept_r (vw : Value) (a : Option Addr) (n c : Nat) (F : Nat → Nat) (w : World) (hVw : Ls w vw (n + 300) (wf n F)) (hL : Ls w (.slice a n c) n F) (hF : ∀ i, i < n → F i < S256) (hn : n ≤ 1048576) : Calls Tryd.prog 33 #[vw, .slice a n c] w fun e w' => e = .returned (.bool true) ∧ Grown w w' := by
  go_enter Tryd.func33, Tryd.ntmps33
  repeat ((fail_if_success (with_reducible show Code.wp _ (Code.region _ _ _) _ _ _)); go_step)
  refine wp_plain [.imm (.bool false)] (by kernel_rfl) (fun β => ?_) (fun β w1 hD => ?_)
  · refine Obs.cons (Ob.imm rfl (fun w => by kernel_rfl)) ?_
    exact Obs.nil
  have hW := hD.gr
  clear hD
  simp only [finAct, putAll, valsFrom, Plan.value, Act.put, List.setIfInBounds_toArray, List.set_cons_zero, List.set_cons_succ]
  repeat ((fail_if_success (with_reducible show Code.wp _ (Code.region _ _ _) _ _ _)); go_step)
  refine wp_region_lit ?_
  refine wpList_runS (v := vw) (w' := w1) rfl (by kernel_rfl) ?_
  refine wpList_runS (v := .slice a n c) (w' := w1) rfl (by kernel_rfl) ?_
  refine wpList_callsS (f := 32) (args := #[.slice a n c]) rfl (by kernel_rfl) (roomy_r a n c F w1 (hL.grown hW) hF hn) (fun e u1 hR => ?_)
  obtain ⟨⟨v1, rfl, hv1⟩, hg1⟩ := hR
  refine ⟨v1, rfl, ?_⟩
  replace hW := grown_trans hW hg1
  refine wpList_callsS (f := 34) (args := #[vw, v1]) rfl (by kernel_rfl) (same_w vw v1 (n + 300) (wf n F) u1 (hVw.grown hW) (owns_ls hv1) (fun i _ => wf_S hF i) (by omega)) (fun e u2 hR => ?_)
  obtain ⟨rfl, hg2⟩ := hR
  refine ⟨.bool true, rfl, ?_⟩
  replace hW := grown_trans hW hg2
  refine wpList_runS (v := .bool true) (w' := u2) rfl (by kernel_rfl) ?_
  apply wpList_nil
  simp only [Act.put, List.setIfInBounds_toArray, List.set_cons_zero, List.set_cons_succ]
  repeat go_step
  go_ret
  exact ⟨rfl, hW⟩

/-- an answer that is kept -/
def hcs (l m : Value) (k : Nat) : List Value := l :: m :: bl k
def hval (l m : Value) (k : Nat) : Value := .agg (hcs l m k).toArray
theorem hcs_length (l m : Value) (k : Nat) : (hcs l m k).length = 34 := by simp [hcs, bl_length]
theorem hcs_one (a1 a2 : Option Addr) (n1 c1 n2 c2 k : Nat) : ∀ v ∈ hcs (.slice a1 n1 c1) (.slice a2 n2 c2) k, v.oneCell' = true := by
  intro v hv
  rcases List.mem_cons.1 hv with rfl | hv
  · rfl
  rcases List.mem_cons.1 hv with rfl | hv
  · rfl
  · exact bl_one k v hv
set_option maxRecDepth 100000 in
theorem infoHd : (Tryd.prog.info? 39).map (·.size) = some 34 := by kernel_rfl
set_option maxRecDepth 100000 in
theorem zeroHd : ∀ w, (zeroValue 39).run Tryd.prog w = .ok (.agg (hcs (.slice none 0 0) (.slice none 0 0) 0).toArray) w := (zero_of_info (P := Tryd.prog) (t := 39) (v := .agg (hcs (.slice none 0 0) (.slice none 0 0) 0).toArray) (n := 34) (by kernel_rfl)).1
section
variable {w : World} {b o : Nat} {l m : Value} {k : Nat}
theorem hcs_l (h : w.rangeAt b o (hcs l m k)) : w.cell? ⟨b, o, none⟩ = some l := by
  have := h 0 _ rfl
  rwa [Nat.add_zero] at this
theorem hcs_m (h : w.rangeAt b o (hcs l m k)) : w.cell? ⟨b, o + 1, none⟩ = some m := h 1 _ rfl
theorem hcs_k (h : w.rangeAt b o (hcs l m k)) : w.rangeAt b (o + 2) (bl k) := rangeAt_right (cs := [l, m]) 2 rfl h
theorem hcs_l0 (h : w.rangeAt b 0 (hcs l m k)) : w.cell? ⟨b, 0, none⟩ = some l := hcs_l h
theorem hcs_m0 (h : w.rangeAt b 0 (hcs l m k)) : w.cell? ⟨b, 1, none⟩ = some m := by have := hcs_m h; rwa [Nat.zero_add] at this
theorem hcs_k0 (h : w.rangeAt b 0 (hcs l m k)) : w.rangeAt b 2 (bl k) := by have := hcs_k h; rwa [Nat.zero_add] at this
end
structure HeldAt (w : World) (b off : Nat) : Prop where
  ex : ∃ (n k : Nat) (a1 a2 : Option Addr) (c1 c2 : Nat), n ≤ 256 ∧ k < S256 ∧ w.rangeAt b off (hcs (.slice a1 n c1) (.slice a2 (n + 1) c2) k) ∧ Ls w (.slice a1 n c1) n (fun _ => k) ∧ Ls w (.slice a2 (n + 1) c2) (n + 1) (fun _ => k)
theorem exec_idxSH {o : Oper} {ρ : Operand → Value} {x y : Operand} {w : World} {b off n c : Nat} (i : Nat) (hi : i < n) (ho : o.op = .indexAddr 36 x y) (hx : ρ x = .slice (some ⟨b, off, none⟩) n c) (hy : ρ y = .int .i64 (i : Int)) : (execOp ρ o).run Tryd.prog w = .ok (.value (.pointer (some ⟨b, off + 34 * i, none⟩))) w := by
  unfold execOp
  simp only [ho, hx, hy]
  go_simp
set_option maxRecDepth 100000 in
set_option maxHeartbeats 16000000 in
theorem marked_r (a : Option Addr) (N c : Nat) (w : World) (hN : N ≤ 1099511627776) (hB : 0 < N → ∃ b off, a = some ⟨b, off, none⟩ ∧ ∀ i, i < N → HeldAt w b (off + 34 * i)) : Calls Tryd.prog 35 #[.slice a N c] w fun e w' => e = .returned (.bool true) ∧ Grown w w' := by
  go_enter Tryd.func35, Tryd.ntmps35
  repeat ((fail_if_success (with_reducible show Code.wp _ (Code.region _ _ _) _ _ _)); go_step)
  refine wp_plain [.imm (.bool false)] (by kernel_rfl) (fun β => ?_) (fun β w1 hD => ?_)
  · refine Obs.cons (Ob.imm rfl (fun w => by kernel_rfl)) ?_
    exact Obs.nil
  have hW := hD.gr
  clear hD
  simp only [finAct, putAll, valsFrom, Plan.value, Act.put, List.setIfInBounds_toArray, List.set_cons_zero, List.set_cons_succ]
  have HB := Hid.of hB
  have HN := Hid.of hN
  clear hB hN
  go_wp2
  go_loopw [3] (fun v3 wr => ∃ i : Nat, v3 = .int .i64 (i : Int) ∧ i ≤ N ∧ Grown w wr) (fun v3 _ => ((N : Int) - intOf v3).toNat)
  case atStart => exact ⟨0, rfl, Nat.zero_le _, hW⟩
  case round =>
    clear hW
    obtain ⟨i, rfl, hiN, hW⟩ := hrel
    by_cases hi : i < N
    · obtain ⟨b, off, rfl, hh⟩ := HB.out (by omega)
      obtain ⟨n, q, a1, a2, c1, c2, hn, hq, hr, hL1, hL2⟩ := (hh i hi).ex
      have hN := HN.out
      repeat ((fail_if_success (with_reducible show Code.wp _ (Code.region _ _ _) _ _ _)); go_step)
      refine wp_plain [.imm (.int .i64 (i : Int)), .imm (.slice (some ⟨b, off, none⟩) N c), .imm (.int .i64 (N : Int)), .imm (.bool true)] (by kernel_rfl) (fun β => ?_) (fun β u1 hD => ?_)
      · refine Obs.cons (Ob.imm rfl (fun w => by kernel_rfl)) ?_
        refine Obs.cons (Ob.imm rfl (fun w => by kernel_rfl)) ?_
        refine Obs.cons (Ob.imm rfl (fun w => by kernel_rfl)) ?_
        refine Obs.cons (Ob.imm rfl (fun w => exec_lssI rfl (i : Int) (N : Int) (by kernel_rfl) (by kernel_rfl) true (decide_eq_true (by omega)))) ?_
        exact Obs.nil
      replace hW := grown_trans hW hD.gr
      clear hD
      simp only [finAct, putAll, valsFrom, Plan.value, Act.put, List.setIfInBounds_toArray, List.set_cons_zero, List.set_cons_succ]
      repeat ((fail_if_success (with_reducible show Code.wp _ (Code.region _ _ _) _ _ _)); go_step)
      have hr1 := rangeAt_grown hr hW
      obtain ⟨a2', c2', e2, hL2'⟩ := hL2
      injection e2 with ea _ ec
      subst ea ec
      obtain ⟨b2, o2, rfl, hb2, hr2⟩ := hL2' (by omega)
      obtain ⟨a1', c1', e1, hL1'⟩ := hL1
      injection e1 with ea _ ec
      subst ea ec
      refine wp_plain [.imm (.slice (some ⟨b, off, none⟩) N c), .imm (.int .i64 (i : Int)), .imm (.pointer (some ⟨b, off + 34 * i, none⟩)), .val (hval (.slice a1 n c1) (.slice (some ⟨b2, o2, none⟩) (n + 1) c2) q), .new 39 34, .put 4 4 (fun _ => hcs (.slice a1 n c1) (.slice (some ⟨b2, o2, none⟩) (n + 1) c2) q)] (by kernel_rfl) (fun β => ?_) (fun β u2 hD => ?_)
      · refine Obs.cons (Ob.imm rfl (fun w => by kernel_rfl)) ?_
        refine Obs.cons (Ob.imm rfl (fun w => by kernel_rfl)) ?_
        refine Obs.cons (Ob.imm rfl (fun w => exec_idxSH (c := c) i hi rfl (by kernel_rfl) (by kernel_rfl))) ?_
        refine Obs.cons (Ob.load b (off + 34 * i) (hcs (.slice a1 n c1) (.slice (some ⟨b2, o2, none⟩) (n + 1) c2) q) rfl rfl (by kernel_rfl) hr1 Tryd.underlying39 rfl (by rw [hcs_length]; exact infoHd)) ?_
        refine Obs.cons (Ob.new _ rfl rfl zeroHd (by simp [hcs_length])) ?_
        refine Obs.cons (Ob.put 39 rfl rfl rfl (by kernel_rfl) (by kernel_rfl) (by rw [hcs_length]; exact infoHd) (hcs_one _ _ _ _ _ _ _)) ?_
        exact Obs.nil
      have hrH : u2.rangeAt (β 4) 0 (hcs (.slice a1 n c1) (.slice (some ⟨b2, o2, none⟩) (n + 1) c2) q) := hD.rg 5 4 4 (fun _ => hcs (.slice a1 n c1) (.slice (some ⟨b2, o2, none⟩) (n + 1) c2) q) rfl
      replace hrH := rangeAt_grown hrH (gdrew u2)
      replace hW := grown_trans (grown_trans hW hD.gr) (gdrew u2)
      clear hD hr1
      simp only [finAct, putAll, valsFrom, Plan.value, Act.put, List.setIfInBounds_toArray, List.set_cons_zero, List.set_cons_succ]
      generalize β (0 + 1 + 1 + 1 + 1) = B at *
      repeat ((fail_if_success (with_reducible show Code.wp _ (Code.region _ _ _) _ _ _)); go_step)
      have hre := rangeAt_grown (hr2 n (by omega)) hW
      refine wp_loose [.imm (.pointer (some ⟨B, 1, none⟩)), .val (.slice (some ⟨b2, o2, none⟩) (n + 1) c2), .imm (.int .i64 ((n + 1 : Nat) : Int)), .imm (.pointer (some ⟨B, 0, none⟩)), .val (.slice a1 n c1), .imm (.int .i64 (n : Int)), .imm (.int .i64 ((n + 1 : Nat) : Int)), .imm (.bool false), .imm (.bool false), .imm (.pointer (some ⟨B, 1, none⟩)), .val (.slice (some ⟨b2, o2, none⟩) (n + 1) c2), .imm (.pointer (some ⟨B, 0, none⟩)), .val (.slice a1 n c1), .imm (.int .i64 (n : Int)), .imm (.pointer (some ⟨b2, o2 + 32 * n, none⟩)), .val (bv q), .imm (.pointer (some ⟨B, 2, none⟩)), .val (bv q), .imm (.bool false), .imm (.bool false)] (by kernel_rfl) (by kernel_rfl) (fun β => ?_) (fun β u3 hD => ?_)
      · refine Obs.cons (Ob.imm rfl (fun w => by kernel_rfl)) ?_
        refine Obs.cons (Ob.load1 B 1 rfl rfl (by kernel_rfl) (block_lt_of_cell (hcs_m0 hrH)) (hcs_m0 hrH) (fun w h => run_loadL w h)) ?_
        refine Obs.cons (Ob.imm rfl (fun w => by kernel_rfl)) ?_
        refine Obs.cons (Ob.imm rfl (fun w => by kernel_rfl)) ?_
        refine Obs.cons (Ob.load1 B 0 rfl rfl (by kernel_rfl) (block_lt_of_cell (hcs_l0 hrH)) (hcs_l0 hrH) (fun w h => run_loadL w h)) ?_
        refine Obs.cons (Ob.imm rfl (fun w => by kernel_rfl)) ?_
        refine Obs.cons (Ob.imm rfl (fun w => exec_addI (n : Int) 1 _ rfl (by kernel_rfl) (by kernel_rfl) (by rw [IntKind.wrap_i64]; omega))) ?_
        refine Obs.cons (Ob.imm rfl (fun w => exec_neqI rfl ((n + 1 : Nat) : Int) ((n + 1 : Nat) : Int) (by kernel_rfl) (by kernel_rfl) false (by rw [decide_eq_true rfl]; rfl))) ?_
        refine Obs.cons (Ob.imm rfl (fun w => by kernel_rfl)) ?_
        refine Obs.cons (Ob.imm (by kernel_rfl) (fun w => by kernel_rfl)) ?_
        refine Obs.cons (Ob.load1 B 1 (by kernel_rfl) rfl (by kernel_rfl) (block_lt_of_cell (hcs_m0 hrH)) (hcs_m0 hrH) (fun w h => run_loadL w h)) ?_
        refine Obs.cons (Ob.imm (by kernel_rfl) (fun w => by kernel_rfl)) ?_
        refine Obs.cons (Ob.load1 B 0 (by kernel_rfl) rfl (by kernel_rfl) (block_lt_of_cell (hcs_l0 hrH)) (hcs_l0 hrH) (fun w h => run_loadL w h)) ?_
        refine Obs.cons (Ob.imm (by kernel_rfl) (fun w => by kernel_rfl)) ?_
        refine Obs.cons (Ob.imm (by kernel_rfl) (fun w => exec_idxSB (c := c2) n (Nat.lt_succ_self n) rfl (by kernel_rfl) (by kernel_rfl))) ?_
        refine Obs.cons (Ob.load b2 (o2 + 32 * n) (bl q) (by kernel_rfl) rfl (by kernel_rfl) (hre) Tryd.underlying23 rfl (by rw [bl_length]; exact info32)) ?_
        refine Obs.cons (Ob.imm (by kernel_rfl) (fun w => by kernel_rfl)) ?_
        refine Obs.cons (Ob.load B 2 (bl q) (by kernel_rfl) rfl (by kernel_rfl) (hcs_k0 hrH) Tryd.underlying23 rfl (by rw [bl_length]; exact info32)) ?_
        refine Obs.cons (Ob.imm (by kernel_rfl) (fun w => exec_neq_same rfl q q (by kernel_rfl) (by kernel_rfl) hq hq rfl w)) ?_
        refine Obs.cons (Ob.imm rfl (fun w => by kernel_rfl)) ?_
        exact Obs.nil
      replace hrH := rangeAt_grown hrH hD.gr
      replace hW := grown_trans hW hD.gr
      clear hD hre
      simp only [finAct, putAll, valsFrom, Plan.value, Act.put, List.setIfInBounds_toArray, List.set_cons_zero, List.set_cons_succ]
      have HH := Hid.of (And.intro hL1' (And.intro hr2 (And.intro hn hq)))
      have hii := Hid.of (And.intro hi hN)
      have hR := Hid.of (And.intro hrH hW)
      clear hL1' hr2 hn hq hi hiN hN hrH hW hr hh hb2
      go_wp2
      go_loopw [5] (fun v5 wr' => ∃ j : Nat, v5 = .int .i64 (j : Int) ∧ j ≤ n ∧ wr'.rangeAt B 0 (hcs (.slice a1 n c1) (.slice (some ⟨b2, o2, none⟩) (n + 1) c2) q) ∧ Grown w wr') (fun v5 _ => ((n : Int) - intOf v5).toNat)
      case atStart => exact ⟨0, rfl, Nat.zero_le _, hR.out.1, hR.out.2⟩
      case round =>
        clear hR
        obtain ⟨j, rfl, hjn, hrH, hW⟩ := hrel
        obtain ⟨hL1', hr2, hn, hq⟩ := HH.out
        by_cases hj : j < n
        · obtain ⟨b1, o1, rfl, hb1, hr1⟩ := hL1' (by omega)
          repeat ((fail_if_success (with_reducible show Code.wp _ (Code.region _ _ _) _ _ _)); go_step)
          refine wp_plain [.imm (.int .i64 (j : Int)), .imm (.pointer (some ⟨B, 0, none⟩)), .val (.slice (some ⟨b1, o1, none⟩) n c1), .imm (.int .i64 (n : Int)), .imm (.bool true)] (by kernel_rfl) (fun β => ?_) (fun β u4 hD => ?_)
          · refine Obs.cons (Ob.imm rfl (fun w => by kernel_rfl)) ?_
            refine Obs.cons (Ob.imm rfl (fun w => by kernel_rfl)) ?_
            refine Obs.cons (Ob.load1 B 0 rfl rfl (by kernel_rfl) (block_lt_of_cell (hcs_l0 hrH)) (hcs_l0 hrH) (fun w h => run_loadL w h)) ?_
            refine Obs.cons (Ob.imm rfl (fun w => by kernel_rfl)) ?_
            refine Obs.cons (Ob.imm rfl (fun w => exec_lssI rfl (j : Int) (n : Int) (by kernel_rfl) (by kernel_rfl) true (decide_eq_true (by omega)))) ?_
            exact Obs.nil
          replace hrH := rangeAt_grown (rangeAt_grown hrH hD.gr) (gdrew u4)
          replace hW := grown_trans (grown_trans hW hD.gr) (gdrew u4)
          clear hD
          simp only [finAct, putAll, valsFrom, Plan.value, Act.put, List.setIfInBounds_toArray, List.set_cons_zero, List.set_cons_succ]
          repeat ((fail_if_success (with_reducible show Code.wp _ (Code.region _ _ _) _ _ _)); go_step)
          have he1 := rangeAt_grown (hr1 j hj) hW
          have he2 := rangeAt_grown (hr2 j (by omega)) hW
          refine wp_loose [.imm (.pointer (some ⟨B, 0, none⟩)), .val (.slice (some ⟨b1, o1, none⟩) n c1), .imm (.int .i64 (j : Int)), .imm (.pointer (some ⟨b1, o1 + 32 * j, none⟩)), .val (bv q), .imm (.pointer (some ⟨B, 2, none⟩)), .val (bv q), .imm (.bool false), .imm (.bool false), .imm (.pointer (some ⟨B, 1, none⟩)), .val (.slice (some ⟨b2, o2, none⟩) (n + 1) c2), .imm (.int .i64 (j : Int)), .imm (.pointer (some ⟨b2, o2 + 32 * j, none⟩)), .val (bv q), .imm (.pointer (some ⟨B, 2, none⟩)), .val (bv q), .imm (.bool false), .imm (.bool false)] (by kernel_rfl) (by kernel_rfl) (fun β => ?_) (fun β u5 hD => ?_)
          · refine Obs.cons (Ob.imm rfl (fun w => by kernel_rfl)) ?_
            refine Obs.cons (Ob.load1 B 0 rfl rfl (by kernel_rfl) (block_lt_of_cell (hcs_l0 hrH)) (hcs_l0 hrH) (fun w h => run_loadL w h)) ?_
            refine Obs.cons (Ob.imm rfl (fun w => by kernel_rfl)) ?_
            refine Obs.cons (Ob.imm rfl (fun w => exec_idxSB (c := c1) j hj rfl (by kernel_rfl) (by kernel_rfl))) ?_
            refine Obs.cons (Ob.load b1 (o1 + 32 * j) (bl q) rfl rfl (by kernel_rfl) (he1) Tryd.underlying23 rfl (by rw [bl_length]; exact info32)) ?_
            refine Obs.cons (Ob.imm rfl (fun w => by kernel_rfl)) ?_
            refine Obs.cons (Ob.load B 2 (bl q) rfl rfl (by kernel_rfl) (hcs_k0 hrH) Tryd.underlying23 rfl (by rw [bl_length]; exact info32)) ?_
            refine Obs.cons (Ob.imm rfl (fun w => exec_neq_same rfl q q (by kernel_rfl) (by kernel_rfl) hq hq rfl w)) ?_
            refine Obs.cons (Ob.imm rfl (fun w => by kernel_rfl)) ?_
            refine Obs.cons (Ob.imm (by kernel_rfl) (fun w => by kernel_rfl)) ?_
            refine Obs.cons (Ob.load1 B 1 (by kernel_rfl) rfl (by kernel_rfl) (block_lt_of_cell (hcs_m0 hrH)) (hcs_m0 hrH) (fun w h => run_loadL w h)) ?_
            refine Obs.cons (Ob.imm (by kernel_rfl) (fun w => by kernel_rfl)) ?_
            refine Obs.cons (Ob.imm (by kernel_rfl) (fun w => exec_idxSB (c := c2) j (Nat.lt_succ_of_lt hj) rfl (by kernel_rfl) (by kernel_rfl))) ?_
            refine Obs.cons (Ob.load b2 (o2 + 32 * j) (bl q) (by kernel_rfl) rfl (by kernel_rfl) (he2) Tryd.underlying23 rfl (by rw [bl_length]; exact info32)) ?_
            refine Obs.cons (Ob.imm (by kernel_rfl) (fun w => by kernel_rfl)) ?_
            refine Obs.cons (Ob.load B 2 (bl q) (by kernel_rfl) rfl (by kernel_rfl) (hcs_k0 hrH) Tryd.underlying23 rfl (by rw [bl_length]; exact info32)) ?_
            refine Obs.cons (Ob.imm (by kernel_rfl) (fun w => exec_neq_same rfl q q (by kernel_rfl) (by kernel_rfl) hq hq rfl w)) ?_
            refine Obs.cons (Ob.imm rfl (fun w => by kernel_rfl)) ?_
            exact Obs.nil
          replace hrH := rangeAt_grown hrH hD.gr
          replace hW := grown_trans hW hD.gr
          clear hD he1 he2
          simp only [finAct, putAll, valsFrom, Plan.value, Act.put, List.setIfInBounds_toArray, List.set_cons_zero, List.set_cons_succ]
          have hS := Hid.of (And.intro hrH hW)
          have hjj := Hid.of hj
          have eL := Hid.of (show wrap64 ((j : Int) + 1) = ((j + 1 : Nat) : Int) by unfold wrap64; omega)
          clear hrH hW hj hjn hr1 hr2 hn hq hb1 hL1'
          go_wp2
          rw [eL.out]
          exact ⟨⟨j + 1, rfl, hjj.out, hS.out.1, hS.out.2⟩, by have := hjj.out; simp [intOf]; omega⟩
        · obtain rfl : j = n := by omega
          repeat ((fail_if_success (with_reducible show Code.wp _ (Code.region _ _ _) _ _ _)); go_step)
          refine wp_plain [.imm (.int .i64 (j : Int)), .imm (.pointer (some ⟨B, 0, none⟩)), .val (.slice a1 j c1), .imm (.int .i64 (j : Int)), .imm (.bool false)] (by kernel_rfl) (fun β => ?_) (fun β u4 hD => ?_)
          · refine Obs.cons (Ob.imm rfl (fun w => by kernel_rfl)) ?_
            refine Obs.cons (Ob.imm rfl (fun w => by kernel_rfl)) ?_
            refine Obs.cons (Ob.load1 B 0 rfl rfl (by kernel_rfl) (block_lt_of_cell (hcs_l0 hrH)) (hcs_l0 hrH) (fun w h => run_loadL w h)) ?_
            refine Obs.cons (Ob.imm rfl (fun w => by kernel_rfl)) ?_
            refine Obs.cons (Ob.imm rfl (fun w => exec_lssI rfl (j : Int) (j : Int) (by kernel_rfl) (by kernel_rfl) false (decide_eq_false (by omega)))) ?_
            exact Obs.nil
          replace hW := grown_trans hW hD.gr
          clear hD
          simp only [finAct, putAll, valsFrom, Plan.value, Act.put, List.setIfInBounds_toArray, List.set_cons_zero, List.set_cons_succ]
          have hS := Hid.of hW
          have eL := Hid.of (show wrap64 ((i : Int) + 1) = ((i + 1 : Nat) : Int) by have := hii.out; unfold wrap64; omega)
          clear hW hrH hj hjn hr2 hn hq hL1'
          go_wp2
          rw [eL.out]
          exact ⟨⟨i + 1, rfl, hii.out.1, hS.out⟩, by have := hii.out; simp [intOf]; omega⟩
    · obtain rfl : i = N := by omega
      repeat ((fail_if_success (with_reducible show Code.wp _ (Code.region _ _ _) _ _ _)); go_step)
      refine wp_plain [.imm (.int .i64 (i : Int)), .imm (.slice a i c), .imm (.int .i64 (i : Int)), .imm (.bool false)] (by kernel_rfl) (fun β => ?_) (fun β u1 hD => ?_)
      · refine Obs.cons (Ob.imm rfl (fun w => by kernel_rfl)) ?_
        refine Obs.cons (Ob.imm rfl (fun w => by kernel_rfl)) ?_
        refine Obs.cons (Ob.imm rfl (fun w => by kernel_rfl)) ?_
        refine Obs.cons (Ob.imm rfl (fun w => exec_lssI rfl (i : Int) (i : Int) (by kernel_rfl) (by kernel_rfl) false (decide_eq_false (by omega)))) ?_
        exact Obs.nil
      replace hW := grown_trans hW hD.gr
      clear hD
      simp only [finAct, putAll, valsFrom, Plan.value, Act.put, List.setIfInBounds_toArray, List.set_cons_zero, List.set_cons_succ]
      repeat ((fail_if_success (with_reducible show Code.wp _ (Code.region _ _ _) _ _ _)); go_step)
      refine wp_plain [.imm (.bool true)] (by kernel_rfl) (fun β => ?_) (fun β u2 hD => ?_)
      · refine Obs.cons (Ob.imm rfl (fun w => by kernel_rfl)) ?_
        exact Obs.nil
      replace hW := grown_trans hW hD.gr
      clear hD
      simp only [finAct, putAll, valsFrom, Plan.value, Act.put, List.setIfInBounds_toArray, List.set_cons_zero, List.set_cons_succ]
      repeat go_step
      go_ret
      exact ⟨rfl, hW⟩

end Go.Proofs.YtkegcilcapnpdaaDoor

namespace Go.Proofs.YtkegcilcapnpdaaDoor
open Go.RowKit Go.Shelf FieldNum

theorem append_hd {w : World} {base : Nat} {t e ty : TypeId} {i : TypeInfo} {z : Value} (ht : Tryd.prog.underlying t = some (.slice e)) (hi : Tryd.prog.info? e = some i) (hz : i.zero = some z)
    (hsize : i.size = 34) (hby : i.bytes = 80) (hzs : z.cells.size = 34)
    {v : Value} {n : Nat} {xs : List Value} (hown : w.ownsRow base e 34 v n xs) (ad : Addr) (c : Nat) (us : List Value) (hul : us.length = 34) (hu : ∀ j u, us[j]? = some u → w.cell? (ad.add j) = some u) (h1 : ∀ u ∈ us, u.oneCell' = true)
    (hn : n < 1099511627776) (hbase : base ≤ w.heap.size) :
    ∃ v' w', (Builtin.append_ #[t, t] ty #[v, .slice (some ad) 1 c]).run Tryd.prog w = .ok v' w' ∧ w'.ownsRow base e 34 v' (n + 1) (xs ++ us) ∧ w.grownBy w' v.ownBlock ∧ (∀ g, v'.ownBlock = some g → v.ownBlock = some g ∨ w.heap.size ≤ g) ∧ ∀ a, w'.frozen? a = w.frozen? a := by
  have h63 : n + 1 ≤ maxLen := by unfold maxLen; omega
  obtain ⟨v', w', hr, ho, hg, hiff⟩ := run_append_own (P := Tryd.prog) w base t ty e i z 34 80 ht hi hz hsize hby hzs (by decide) v n xs hown ad 1 c us (by rw [hul]) hu h1 h63 (by omega) hbase
  refine ⟨v', w', hr, ho, hg, ?_⟩
  · rcases hown.2 with ⟨rfl, rfl⟩ | ⟨g, cap, cur, rfl, hbg, hgg, hnc, hcm, hcs, htake⟩
    · have h2 := run_append_nil (P := Tryd.prog) w t ty e i z ht hi hz ad 1 c us (by rw [hsize, hul]) hu (by decide) (by decide) (by rw [hby]; decide)
      rw [h2] at hr
      injection hr with hv hw
      subst hw hv
      refine ⟨fun g hg => .inr ?_, fun a => by rw [frozen?_alloc_cells]; rfl⟩
      injection hg with hg
      exact Nat.le_of_eq hg
    · by_cases hroom : n + 1 ≤ cap
      · have h2 := run_append_room (P := Tryd.prog) w t ty e i ht hi g n cap cur hgg ad 1 c us (by rw [hsize, hul]) hu h1 hroom (by rw [hsize, hcs, hul]; omega)
        rw [h2] at hr
        injection hr with hv hw
        subst hw hv
        exact ⟨fun g hg => .inl hg, fun a => frozen_setRow hgg _ a⟩
      · have holds : ∀ j x, xs[j]? = some x → w.cell? ((⟨g, 0, none⟩ : Addr).add j) = some x := hown.cells (g := g) rfl
        have h2 := run_append_grow (P := Tryd.prog) w t ty e i z ht hi hz ⟨g, 0, none⟩ n cap xs (by rw [hsize]; exact hown.1) holds ad 1 c us (by rw [hsize, hul]) hu (by omega) (by omega) (growslice_fits (by omega) (by rw [hby]; omega))
        rw [h2] at hr
        injection hr with hv hw
        subst hw hv
        refine ⟨fun g hg => .inr ?_, fun a => by rw [frozen?_alloc_cells]; rfl⟩
        injection hg with hg
        exact Nat.le_of_eq hg
theorem wpList_append_hd {ops : Array Oper} {rest : List Oper} {o : Oper} {a : Act} {w W0 : World} {Q : Exit → Act → World → Prop} (hgd : o.guard = none) (s x : Operand) {t e : TypeId} {i : TypeInfo} {z : Value}
    (ho : o.op = .call { callee := .builtin .append, args := #[s, x], argTypes := #[t, t] })
    (ht : Tryd.prog.underlying t = some (.slice e)) (hi : Tryd.prog.info? e = some i) (hz : i.zero = some z) (hsize : i.size = 34) (hby : i.bytes = 80) (hzs : z.cells.size = 34)
    (v : Value) (n : Nat) (xs : List Value) (hs : a.eval s = v) (hown : w.ownsRow W0.heap.size e 34 v n xs) (ad : Addr) (c : Nat) (us : List Value) (hul : us.length = 34) (hx : a.eval x = .slice (some ad) 1 c) (hu : ∀ j u, us[j]? = some u → w.cell? (ad.add j) = some u) (h1 : ∀ u ∈ us, u.oneCell' = true)
    (hn : n < 1099511627776) (hg : Grown W0 w)
    (h : ∀ v' w', w'.ownsRow W0.heap.size e 34 v' (n + 1) (xs ++ us) → w.grownBy w' v.ownBlock → (∀ g, v'.ownBlock = some g → v.ownBlock = some g ∨ w.heap.size ≤ g) → Grown W0 w' → wpList Tryd.prog ops Q rest (a.put o.dst v') w') : wpList Tryd.prog ops Q (o :: rest) a w := by
  refine wpList_plain hgd fun K hK => ?_
  obtain ⟨v', w', hr, h2, h3, h4, h5⟩ := append_hd (ty := o.type) ht hi hz hsize hby hzs hown ad c us hul hu h1 hn hg.2.2
  unfold Oper.wp execOp
  simp only [ho, resolve, invoke, builtin, Sem.run_bind, Sem.run_pure, Result.andThen_ok, List.map_toArray, List.map_cons, List.map_nil, hs, hx, hr]
  exact hK _ _ (h v' w' h2 h3 h4 (grown_by hg h3 (fun k hk => (hown.lt k hk).1) h5))

theorem hHl : ∃ i z, Tryd.prog.info? 39 = some i ∧ i.zero = some z ∧ i.size = 34 ∧ i.bytes = 80 ∧ z.cells.size = 34 := by
  have h : (Tryd.prog.info? 39).map (fun i => (i.zero.map (fun z => z.cells.size), i.size, i.bytes)) = some (some 34, 34, 80) := by kernel_rfl
  cases hi : Tryd.prog.info? 39 with
  | none => rw [hi] at h; simp at h
  | some i =>
    rw [hi] at h
    simp only [Option.map_some, Option.some.injEq, Prod.mk.injEq, Option.map_eq_some_iff] at h
    obtain ⟨⟨z, hz, hzs⟩, h1, h2⟩ := h
    exact ⟨i, z, rfl, hz, h1, h2, hzs⟩
theorem cell_by {u u' : World} {row : Option Nat} (hg : u.grownBy u' row) {b off : Nat} (hb : b < u.heap.size) (hne : row ≠ some b) : u'.cell? ⟨b, off, none⟩ = u.cell? ⟨b, off, none⟩ := by
  have h := hg.block b hb (fun e => hne e.symm)
  simp only [World.cell?, h]
theorem range_by {u u' : World} {row : Option Nat} (hg : u.grownBy u' row) {b off : Nat} {cs : List Value} (h : u.rangeAt b off cs) (hb : b < u.heap.size) (hne : row ≠ some b) : u'.rangeAt b off cs := fun j v hv => by
  rw [cell_by hg hb hne]; exact h j v hv
/-- a list stays, where another row is written -/
theorem Ls.by {u u' : World} {row : Option Nat} {v : Value} {n : Nat} {F : Nat → Nat} (h : Ls u v n F) (hg : u.grownBy u' row) (hne : 0 < n → ∀ g, row = some g → v.ownBlock ≠ some g) : Ls u' v n F := by
  obtain ⟨a, c, rfl, h2⟩ := h
  refine ⟨a, c, rfl, fun hn => ?_⟩
  obtain ⟨b, o, rfl, hb, hr⟩ := h2 hn
  have hne' : row ≠ some b := fun e => hne hn b e rfl
  exact ⟨b, o, rfl, Nat.lt_of_lt_of_le hb hg.size, fun i hi => range_by hg (hr i hi) hb hne'⟩
/-- what Batch of the program answers: new memory -/
def New (w0 w : World) (v : Value) (m : Nat) (G : Nat → Nat) : Prop := (v = .slice none 0 0 ∧ m = 0) ∨ ∃ r, v = .slice (some ⟨r, 0, none⟩) m m ∧ w0.heap.size ≤ r ∧ ∀ i, i < m → w.rangeAt r (32 * i) (bl (G i))
theorem New.ls {w0 w : World} {v : Value} {m : Nat} {G : Nat → Nat} (h : New w0 w v m G) : Ls w v m G := by
  rcases h with ⟨rfl, rfl⟩ | ⟨r, rfl, _, hr⟩
  · exact ⟨none, 0, rfl, fun h => absurd h (Nat.lt_irrefl _)⟩
  · refine ⟨some ⟨r, 0, none⟩, m, rfl, fun hm => ⟨r, 0, rfl, ?_, fun i hi => by rw [Nat.zero_add]; exact hr i hi⟩⟩
    exact block_lt_of_cell (hr 0 hm 0 _ (bl_get _ 0 (by decide)))
theorem New.grown {w0 w w' : World} {v : Value} {m : Nat} {G : Nat → Nat} (h : New w0 w v m G) (hg : Grown w w') : New w0 w' v m G := by
  rcases h with h | ⟨r, h1, h2, hr⟩
  · exact .inl h
  · exact .inr ⟨r, h1, h2, fun i hi => rangeAt_grown (hr i hi) hg⟩
theorem Batch_new (a : Option Addr) (n c : Nat) (F : Nat → Nat) (w : World) (hv : Ls w (.slice a n c) n F) (hF : ∀ i, i < n → F i < S256) (hG : Gq w) : Calls Tryd.prog 12 #[.slice a n c] w fun e w' => (∃ v', e = .returned v' ∧ New w w' v' (bm n) (fun i => inv (F i))) ∧ Grown w w' := by
  obtain ⟨a', c', e, hL⟩ := hv
  injection e with ea _ ec
  subst ea ec
  unfold bm
  by_cases hn : n ≤ 256
  · rw [if_pos hn]
    have key : ∀ (b o : Nat), (0 < n → a = some ⟨b, o, none⟩) → (0 < n → b < w.heap.size) → (∀ i, i < n → w.rangeAt b (o + 32 * i) (bl (F i))) →
        Calls Tryd.prog 12 #[.slice a n c] w fun e w' => (∃ v', e = .returned v' ∧ New w w' v' n (fun i => inv (F i))) ∧ Grown w w' := by
      intro b o h1 h2 h3
      refine (Batch_num a b o n c F hn h1 hF w h2 h3 ⟨hG.one, hG.pw⟩).mono fun e w' => ?_
      rintro ⟨⟨r, he, hr0, hr⟩, hg⟩
      exact ⟨⟨_, he, .inr ⟨r, rfl, hr0, hr⟩⟩, hg⟩
    by_cases h0 : 0 < n
    · obtain ⟨b, o, ha, hb, hr⟩ := hL h0
      exact key b o (fun _ => ha) (fun _ => hb) hr
    · exact key 0 0 (fun h => absurd h h0) (fun h => absurd h h0) (fun i hi => by omega)
  · rw [if_neg hn]
    refine (Batch_lg a n c (by omega) w).mono fun e w' => ?_
    rintro ⟨he, hg⟩
    exact ⟨⟨_, he, .inl ⟨rfl, rfl⟩⟩, hg⟩
/-- one more behind a list whose room is full: new memory -/
theorem append_full {w w0 : World} {t e ty : TypeId} {i : TypeInfo} {z : Value} (ht : Tryd.prog.underlying t = some (.slice e)) (hi : Tryd.prog.info? e = some i) (hz : i.zero = some z)
    (hsize : i.size = 32) (hby : i.bytes = 32) {v : Value} {m : Nat} {G : Nat → Nat} (hv : New w0 w v m G) (hm : m ≤ 256) (ad : Addr) (c x : Nat) (hu : ∀ j u, (bl x)[j]? = some u → w.cell? (ad.add j) = some u) :
    ∃ v' w' M cap, (Builtin.append_ #[t, t] ty #[v, .slice (some ad) 1 c]).run Tryd.prog w = .ok v' w' ∧ v' = .slice (some ⟨M, 0, none⟩) (m + 1) cap ∧ M = w.heap.size ∧ Grown w w' ∧ w'.there M 0 (32 * (m + 1)) := by
  have hfull : ∀ (cs : List Value) (cap : Nat), cs.length = m * 32 → ∀ (k : Nat), ((w.drew.alloc (.cells (cs.toArray ++ (bl x).toArray ++ Builtin.zeroCells z.cells k) e)).there w.heap.size 0 (32 * (m + 1))) := by
    intro cs _ hl k
    have := there_alloc_new w.drew e (cs.toArray ++ (bl x).toArray ++ Builtin.zeroCells z.cells k) (32 * (m + 1)) (by simp [hl, bl_length]; omega)
    exact this
  rcases hv with ⟨rfl, rfl⟩ | ⟨r, rfl, _, hr⟩
  · have h2 := run_append_nil (P := Tryd.prog) w t ty e i z ht hi hz ad 1 c (bl x) (by rw [hsize, bl_length]) hu (by decide) (by decide) (by rw [hby]; decide)
    refine ⟨_, _, w.heap.size, _, h2, rfl, rfl, Grown.alloc (Grown.drew (Grown.refl _)) _ _, ?_⟩
    have := hfull [] 0 rfl (grownCap w 1 0 e - 1)
    simpa using this
  · have holds : ∀ j u, (cat G m)[j]? = some u → w.cell? ((⟨r, 0, none⟩ : Addr).add j) = some u := by
      intro j u hj
      have hjl : j < m * 32 := by have := lt_of_get hj; rwa [cat_length] at this
      have e1 : j = 32 * (j / 32) + j % 32 := by omega
      rw [e1, cat_get G m (j / 32) (by omega) (j % 32) (Nat.mod_lt _ (by decide))] at hj
      have := hr (j / 32) (by omega) (j % 32) u hj
      rw [Addr.add_lit, Nat.zero_add]
      rw [show j = 32 * (j / 32) + j % 32 by omega]
      exact this
    have h2 := run_append_grow (P := Tryd.prog) w t ty e i z ht hi hz ⟨r, 0, none⟩ m m (cat G m) (by rw [hsize, cat_length]) holds ad 1 c (bl x) (by rw [hsize, bl_length]) hu (by omega) (by omega) (growslice_fits (by omega) (by rw [hby]; omega))
    exact ⟨_, _, w.heap.size, _, h2, rfl, rfl, Grown.alloc (Grown.drew (Grown.refl _)) _ _, hfull _ 0 (cat_length G m) _⟩
theorem wpList_append_full {ops : Array Oper} {rest : List Oper} {o : Oper} {av : Act} {w w0 : World} {Q : Exit → Act → World → Prop} (hgd : o.guard = none) (s x : Operand) {t e : TypeId} {i : TypeInfo} {z : Value}
    (ho : o.op = .call { callee := .builtin .append, args := #[s, x], argTypes := #[t, t] })
    (ht : Tryd.prog.underlying t = some (.slice e)) (hi : Tryd.prog.info? e = some i) (hz : i.zero = some z) (hsize : i.size = 32) (hby : i.bytes = 32)
    {v : Value} {m : Nat} {G : Nat → Nat} (hs : av.eval s = v) (hv : New w0 w v m G) (hm : m ≤ 256) (ad : Addr) (c k : Nat) (hx : av.eval x = .slice (some ad) 1 c) (hu : ∀ j u, (bl k)[j]? = some u → w.cell? (ad.add j) = some u)
    (h : ∀ M cap w', M = w.heap.size → Grown w w' → w'.there M 0 (32 * (m + 1)) → wpList Tryd.prog ops Q rest (av.put o.dst (.slice (some ⟨M, 0, none⟩) (m + 1) cap)) w') : wpList Tryd.prog ops Q (o :: rest) av w := by
  refine wpList_plain hgd fun K hK => ?_
  obtain ⟨v', w', M, cap, hr, rfl, hM, hg, hth⟩ := append_full (ty := o.type) ht hi hz hsize hby hv hm ad c k hu
  unfold Oper.wp execOp
  simp only [ho, resolve, invoke, builtin, Sem.run_bind, Sem.run_pure, Result.andThen_ok, List.map_toArray, List.map_cons, List.map_nil, hs, hx, hr]
  exact hK _ _ (h M cap w' hM hg hth)
theorem run_storeL {b off : Nat} {a : Option Addr} {n c : Nat} (w : World) (v0 : Value) (h : w.cell? ⟨b, off, none⟩ = some v0) (hf : w.frozen? ⟨b, off, none⟩ = false) : (Instr.storeAt 22 (.pointer (some ⟨b, off, none⟩)) (.slice a n c)).run Tryd.prog w = .ok () (w.setCell ⟨b, off, none⟩ (.slice a n c)) := by
  go_simp
theorem wpList_storeL {ops : Array Oper} {rest : List Oper} {o : Oper} {av : Act} {w : World} {Q : Exit → Act → World → Prop} (hgd : o.guard = none) (x y : Operand) (ho : o.op = .store 22 x y) {b off : Nat} {a : Option Addr} {n c : Nat} {v0 : Value}
    (hx : av.eval x = .pointer (some ⟨b, off, none⟩)) (hy : av.eval y = .slice a n c) (h0 : w.cell? ⟨b, off, none⟩ = some v0) (hf : w.frozen? ⟨b, off, none⟩ = false)
    (h : wpList Tryd.prog ops Q rest (av.put o.dst undef) (w.setCell ⟨b, off, none⟩ (.slice a n c))) : wpList Tryd.prog ops Q (o :: rest) av w := by
  refine wpList_plain hgd fun K hK => ?_
  unfold Oper.wp execOp
  simp only [ho, hx, hy, Sem.run_bind, run_storeL w v0 h0 hf, Result.andThen_ok]
  exact hK _ _ h
theorem exec_idxSS {o : Oper} {ρ : Operand → Value} {x y : Operand} {w : World} {b off n c : Nat} (i : Nat) (hi : i < n) (ho : o.op = .indexAddr 35 x y) (hx : ρ x = .slice (some ⟨b, off, none⟩) n c) (hy : ρ y = .int .i64 (i : Int)) : (execOp ρ o).run Tryd.prog w = .ok (.value (.pointer (some ⟨b, off + i, none⟩))) w := by
  unfold execOp
  simp only [ho, hx, hy]
  go_simp
theorem exec_sliceTo {o : Oper} {ρ : Operand → Value} {x y : Operand} {w : World} {b off n c k : Nat} (hk : k ≤ n) (hn : n ≤ c) (ho : o.op = .slice 22 x none (some y) none) (hx : ρ x = .slice (some ⟨b, off, none⟩) n c) (hy : ρ y = .int .i64 (k : Int)) : (execOp ρ o).run Tryd.prog w = .ok (.value (.slice (some ⟨b, off, none⟩) k c)) w := by
  have h1 : k ≤ c := Nat.le_trans hk hn
  unfold execOp
  simp only [ho, Option.map_some, Option.map_none, hx, hy]
  go_simp
set_option maxRecDepth 100000 in
theorem build_hd (a : Option Addr) (n c q : Nat) (w : World) : (Instr.build 39 #[(0, .slice a n c), (2, bv q)]).run Tryd.prog w = .ok (hval (.slice a n c) (.slice none 0 0) q) w := by kernel_rfl
set_option maxRecDepth 100000 in
theorem build_shl (a1 a2 : Option Addr) (n1 c1 n2 c2 q : Nat) (w : World) : (Instr.buildSlice 36 1 #[(0, hval (.slice a1 n1 c1) (.slice a2 n2 c2) q)]).run Tryd.prog w = .ok (.slice (some ⟨w.heap.size, 0, none⟩) 1 1) (w.alloc (.cells (hcs (.slice a1 n1 c1) (.slice a2 n2 c2) q).toArray 39)) := by kernel_rfl
theorem exec_buildHl {ρ : Operand → Value} {o : Oper} {ps : Array (Nat × Operand)} {w : World} (a1 a2 : Option Addr) (n1 c1 n2 c2 q : Nat) (ho : o.op = .buildSlice 36 1 ps) (hv : (ps.map fun (i, x) => (i, ρ x)) = #[(0, hval (.slice a1 n1 c1) (.slice a2 n2 c2) q)]) : (execOp ρ o).run Tryd.prog w = .ok (.value (.slice (some ⟨w.heap.size, 0, none⟩) 1 1)) (w.alloc (.cells (hcs (.slice a1 n1 c1) (.slice a2 n2 c2) q).toArray 39)) := by
  unfold execOp
  simp only [ho, hv]
  simp [build_shl]
/-- kept answers, one behind the other -/
def hcat (E : Nat → Value × Value × Nat) : Nat → List Value
  | 0 => []
  | k + 1 => hcat E k ++ hcs (E k).1 (E k).2.1 (E k).2.2
theorem hcat_length (E : Nat → Value × Value × Nat) : ∀ k, (hcat E k).length = k * 34
  | 0 => rfl
  | k + 1 => by
    show (hcat E k ++ hcs _ _ _).length = _
    rw [List.length_append, hcat_length E k, hcs_length]; omega
theorem hcat_get (E : Nat → Value × Value × Nat) : ∀ (k i : Nat), i < k → ∀ j, j < 34 → (hcat E k)[34 * i + j]? = (hcs (E i).1 (E i).2.1 (E i).2.2)[j]?
  | 0, i, hi, _, _ => by omega
  | k + 1, i, hi, j, hj => by
    show (hcat E k ++ hcs _ _ _)[34 * i + j]? = _
    by_cases e : i = k
    · subst e
      rw [List.getElem?_append_right (by rw [hcat_length]; omega), hcat_length]
      congr 1
      omega
    · rw [List.getElem?_append_left (by rw [hcat_length]; omega)]
      exact hcat_get E k i (by omega) j hj
theorem hcat_congr {E G : Nat → Value × Value × Nat} : ∀ {k : Nat}, (∀ i, i < k → E i = G i) → hcat E k = hcat G k
  | 0, _ => rfl
  | k + 1, h => by
    show hcat E k ++ hcs _ _ _ = hcat G k ++ hcs _ _ _
    rw [hcat_congr (fun i hi => h i (by omega)), h k (by omega)]
/-- one kept answer, apart from the book -/
structure Ent (w : World) (bk : Value) (E : Value × Value × Nat) : Prop where
  ex : ∃ (n : Nat) (a1 a2 : Option Addr) (c1 c2 : Nat), n ≤ 256 ∧ E.2.2 < S256 ∧ E.1 = .slice a1 n c1 ∧ E.2.1 = .slice a2 (n + 1) c2 ∧ Ls w E.1 n (fun _ => E.2.2) ∧ Ls w E.2.1 (n + 1) (fun _ => E.2.2) ∧
    (0 < n → ∀ g, bk.ownBlock = some g → E.1.ownBlock ≠ some g) ∧ ∀ g, bk.ownBlock = some g → E.2.1.ownBlock ≠ some g
theorem Ent.grown {w w' : World} {bk : Value} {E : Value × Value × Nat} (h : Ent w bk E) (hg : Grown w w') : Ent w' bk E := by
  obtain ⟨n, a1, a2, c1, c2, h1, h2, h3, h4, h5, h6, h7, h8⟩ := h.ex
  exact ⟨n, a1, a2, c1, c2, h1, h2, h3, h4, h5.grown hg, h6.grown hg, h7, h8⟩
theorem ls_block {w : World} {v : Value} {n : Nat} {F : Nat → Nat} (h : Ls w v n F) (hn : 0 < n) {g : Nat} (hg : v.ownBlock = some g) : g < w.heap.size := by
  obtain ⟨a, c, rfl, h2⟩ := h
  obtain ⟨b, o, rfl, hb, _⟩ := h2 hn
  injection hg with hg
  subst hg
  exact hb
/-- behind an append to the book -/
theorem Ent.by {u u' : World} {bk bk' : Value} {E : Value × Value × Nat} (h : Ent u bk E) (hg : u.grownBy u' bk.ownBlock) (hb : ∀ g, bk'.ownBlock = some g → bk.ownBlock = some g ∨ u.heap.size ≤ g) : Ent u' bk' E := by
  obtain ⟨n, a1, a2, c1, c2, h1, h2, h3, h4, h5, h6, h7, h8⟩ := h.ex
  refine ⟨n, a1, a2, c1, c2, h1, h2, h3, h4, h5.by hg (fun hn g e => h7 hn g e), h6.by hg (fun _ g e => h8 g e), fun hn g e e2 => ?_, fun g e e2 => ?_⟩
  · rcases hb g e with h9 | h9
    · exact h7 hn g h9 e2
    · have := ls_block h5 hn e2; omega
  · rcases hb g e with h9 | h9
    · exact h8 g h9 e2
    · have := ls_block h6 (by omega) e2; omega
/-- what marked asks of the book -/
theorem book_ok {w : World} {base : Nat} {bk : Value} {N : Nat} {E : Nat → Value × Value × Nat} (h : w.ownsRow base 39 34 bk N (hcat E N)) (hE : ∀ e, e < N → Ent w bk (E e)) : ∃ a c, bk = .slice a N c ∧ (0 < N → ∃ b off, a = some ⟨b, off, none⟩ ∧ ∀ i, i < N → HeldAt w b (off + 34 * i)) := by
  rcases h.2 with ⟨hv, hn⟩ | ⟨g, cap, cur, hv, _, hg, _⟩
  · exact ⟨none, 0, by rw [hv, hn], fun h => by omega⟩
  · refine ⟨some ⟨g, 0, none⟩, cap, hv, fun _ => ⟨g, 0, rfl, fun i hi => ⟨?_⟩⟩⟩
    obtain ⟨n, a1, a2, c1, c2, h1, h2, h3, h4, h5, h6, _, _⟩ := (hE i hi).ex
    rw [h3] at h5
    rw [h4] at h6
    refine ⟨n, (E i).2.2, a1, a2, c1, c2, h1, h2, ?_, h5, h6⟩
    intro j u hj
    have hj2 : j < 34 := by have := lt_of_get hj; rwa [hcs_length] at this
    rw [← h3, ← h4] at hj
    have := h.cells (g := g) (by rw [hv]; rfl) (34 * i + j) u (by rw [hcat_get E N i hi j hj2]; exact hj)
    rw [Addr.add_lit] at this
    rw [Nat.zero_add] at this ⊢
    exact this
theorem hcs_put {w : World} {b : Nat} {l m m' : Value} {k : Nat} (h : w.rangeAt b 0 (hcs l m k)) : (w.setCell ⟨b, 1, none⟩ m').rangeAt b 0 (hcs l m' k) := by
  intro j v hv
  rw [Nat.zero_add]
  match j, hv with
  | 0, hv =>
    rw [set_other _ _ _ _ _ (by decide)]
    have := h 0 _ hv
    rwa [Nat.zero_add] at this
  | 1, hv =>
    injection hv with hv
    subst hv
    have := h 1 _ rfl
    rw [Nat.zero_add] at this
    exact cell_set this
  | j + 2, hv =>
    rw [set_other _ _ _ _ _ (by omega)]
    have := h (j + 2) _ hv
    rwa [Nat.zero_add] at this
theorem there_bl {w : World} {b o x : Nat} (h : w.rangeAt b o (bl x)) (hf : ∀ j, w.frozen? ⟨b, j, none⟩ = false) : w.there b o 32 := fun j hj => ⟨by rw [h j _ (bl_get x j hj)]; rfl, hf _⟩
/-- an answer's own mark -/
def mk (i : Nat) : Nat := i % 256 + 256 * (i / 256 % 256) + 65536 * 1 + 16777216 * 201
theorem mk_S (i : Nat) : mk i < S256 := by
  have := Nat.mod_lt i (show 0 < 256 by decide)
  have := Nat.mod_lt (i / 256) (show 0 < 256 by decide)
  unfold mk S256
  omega
theorem build_mk (i : Nat) (w : World) : (Instr.build 23 #[(0, .int .u8 ((i % 256 : Nat) : Int)), (1, .int .u8 ((i / 256 % 256 : Nat) : Int)), (2, .int .u8 1), (3, .int .u8 201)]).run Tryd.prog w = .ok (bv (mk i)) w := by
  have h := build_4 (i % 256) (i / 256 % 256) 1 201 w
  rw [← bl_four (i % 256) (i / 256 % 256) 1 201 (Nat.mod_lt _ (by decide)) (Nat.mod_lt _ (by decide)) (by decide) (by decide)] at h
  exact h
end Go.Proofs.YtkegcilcapnpdaaDoor
