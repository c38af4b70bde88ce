import Derived.Test.YteijccjdejjbjaaDoorQk9
import Derived.Deep.DeepCutAuto
namespace Go.Proofs.YteijccjdejjbjaaDoor
open Go.RowKit Go.Shelf ScalarNum

/-- digits of 8 bits as cells of type int -/
def ilR (n v : Nat) : List Value := (ds 256 n v).map fun z : Nat => .int .i64 (z : Int)
def ivR (n v : Nat) : Value := .agg (ilR n v).toArray
theorem il_lengthR (n v : Nat) : (ilR n v).length = n := by simp [ilR, ds_length]
theorem il_getR (n v i : Nat) (h : i < n) : (ilR n v)[i]? = some (.int .i64 ((dg 256 v i : Nat) : Int)) := by simp [ilR, ds_get _ _ _ _ h]
theorem il_oneR (n v : Nat) : ∀ u ∈ ilR n v, u.oneCell' = true := by
  intro u hu
  simp only [ilR, List.mem_map] at hu
  obtain ⟨i, _, rfl⟩ := hu
  rfl
theorem il_setR {n v k z : Nat} (hz : z < 256) (hk : k < n) : (ilR n v).set k (.int .i64 (z : Int)) = ilR n (st 256 v k z) := by
  rw [ilR, ilR, ← ds_set (by decide) hz hk, List.map_set]
theorem irange_setR {w : World} {b n v : Nat} (h : w.rangeAt b 0 (ilR n v)) {k z : Nat} (hz : z < 256) (hk : k < n) : (w.setCell ⟨b, k, none⟩ (.int .i64 (z : Int))).rangeAt b 0 (ilR n (st 256 v k z)) := by
  rw [← il_setR hz hk]; exact range_set h k (by rw [il_lengthR]; exact hk) _
theorem il34_zero : (ilR 34 0).toArray = #[.int .i64 0, .int .i64 0, .int .i64 0, .int .i64 0, .int .i64 0, .int .i64 0, .int .i64 0, .int .i64 0, .int .i64 0, .int .i64 0, .int .i64 0, .int .i64 0, .int .i64 0, .int .i64 0, .int .i64 0, .int .i64 0, .int .i64 0, .int .i64 0, .int .i64 0, .int .i64 0, .int .i64 0, .int .i64 0, .int .i64 0, .int .i64 0, .int .i64 0, .int .i64 0, .int .i64 0, .int .i64 0, .int .i64 0, .int .i64 0, .int .i64 0, .int .i64 0, .int .i64 0, .int .i64 0] := by rfl
/-- the digits, i of them -/
def el (k X i : Nat) : List Value := (List.range i).map fun j => .int .i8 (dn k X j)
theorem el_succ (k X i : Nat) : el k X i ++ [.int .i8 (dn k X i)] = el k X (i + 1) := by simp [el, List.range_succ]
theorem el_full (k X : Nat) : el k X 257 = dl k X 257 := by
  unfold el dl
  apply List.map_congr_left
  intro j hj
  rw [if_pos (by simpa using hj)]

structure NX (w0 : World) (bn : Nat) (v : Value) (k X i cur : Nat) (wr : World) : Prop where
  rn : wr.rangeAt bn 0 (ilR 34 cur)
  tn : wr.there bn 0 34
  own : wr.ownsRow (bn + 1) 40 1 v i (el k X i)
  sl : i = 0 ∨ ∃ g cap, v = .slice (some ⟨g, 0, none⟩) i cap
  gw : Grown w0 wr
  lb : w0.heap.size ≤ bn
  sz : bn + 1 ≤ wr.heap.size
theorem NX.set {w0 wr : World} {bn k X i cur j z : Nat} {v : Value} (h : NX w0 bn v k X i cur wr) (hz : z < 256) (hj : j < 34) : NX w0 bn v k X i (st 256 cur j z) (wr.setCell ⟨bn, j, none⟩ (.int .i64 (z : Int))) := by
  refine ⟨irange_setR h.rn hz hj, there_setCell h.tn _ _, ?_, h.sl, Grown.setCell h.gw h.lb _, h.lb, by simpa [World.setCell] using h.sz⟩
  refine ⟨h.own.1, ?_⟩
  rcases h.own.2 with hn | ⟨g, cap, cur', e, hb, hg, rest⟩
  · exact .inl hn
  · refine .inr ⟨g, cap, cur', e, hb, ?_, rest⟩
    rw [← hg]
    simp only [World.setCell, Array.getElem?_modify]
    rw [if_neg (by show ¬ bn = g; omega)]
theorem NX.drew {w0 wr : World} {bn k X i cur : Nat} {v : Value} (h : NX w0 bn v k X i cur wr) : NX w0 bn v k X i cur wr.drew := ⟨h.rn, h.tn, h.own, h.sl, h.gw, h.lb, h.sz⟩

/-- a digit is appended -/
theorem wpList_append_NX {ops : Array Oper} {rest : List Oper} {o : Oper} {a : Act} {w0 wr : World} {Q : Exit → Act → World → Prop} {bn k X m cur : Nat} {v : Value} (hN : NX w0 bn v k X m cur wr) (hgd : o.guard = none) (s x : Operand)
    (ho : o.op = .call { callee := .builtin .append, args := #[s, x], argTypes := #[30, 30] }) (hs : a.eval s = v) (hx : a.eval x = .slice (some ⟨wr.heap.size, 0, none⟩) 1 1) (hm : m < 257)
    (h : ∀ v' w', NX w0 bn v' k X (m + 1) cur w' → wpList Tryd.prog ops Q rest (a.put o.dst v') w') : wpList Tryd.prog ops Q (o :: rest) a (wr.alloc (.cells #[.int .i8 (dn k X m)] 40)) := by
  obtain ⟨ii, hi1, hi2, hi3, hi4⟩ := hI8d
  refine wpList_plain hgd fun K hK => ?_
  have hsz1 : (wr.alloc (.cells #[.int .i8 (dn k X m)] 40)).heap.size = wr.heap.size + 1 := by simp
  have g1 : Grown wr (wr.alloc (.cells #[.int .i8 (dn k X m)] 40)) := Grown.alloc (Grown.refl _) _ _
  have hu : (wr.alloc (.cells #[.int .i8 (dn k X m)] 40)).cell? ((⟨wr.heap.size, 0, none⟩ : Addr).add 0) = some (.int .i8 (dn k X m)) := by simp [Addr.add]
  obtain ⟨v', w', hr, h2, h3, h4, h5⟩ := append_one (ty := o.type) Tryd.underlying30 hi1 hi2 hi3 hi4 rfl (hN.own.alloc (.cells #[.int .i8 (dn k X m)] 40)) ⟨wr.heap.size, 0, none⟩ 1 (.int .i8 (dn k X m)) hu rfl (by omega) (by rw [hsz1]; have := hN.sz; omega)
  rw [el_succ] at h2
  have hb : ∀ b, v.ownBlock = some b → bn + 1 ≤ b := fun b hb => (hN.own.lt b hb).1
  have hbn : (w'.heap[bn]?) = (wr.alloc (.cells #[.int .i8 (dn k X m)] 40)).heap[bn]? := h3.block bn (by rw [hsz1]; have := hN.sz; omega) (fun e => by have := hb bn e.symm; omega)
  have hlb := hN.lb
  have hNX : NX w0 bn v' k X (m + 1) cur w' := by
    refine ⟨?_, ?_, h2, .inr h4, grown_by (grown_trans hN.gw g1) h3 (fun b e => by have := hb b e; omega) h5, hN.lb, ?_⟩
    · intro j u hj
      have h6 := rangeAt_grown hN.rn g1 j u hj
      rw [← h6]
      exact World.cell?_of_block hbn
    · intro j hj
      have h6 := there_grown hN.tn g1 j hj
      refine ⟨?_, ?_⟩
      · rw [show w'.cell? ⟨bn, 0 + j, none⟩ = (wr.alloc (.cells #[.int .i8 (dn k X m)] 40)).cell? ⟨bn, 0 + j, none⟩ from World.cell?_of_block hbn]; exact h6.1
      · rw [h5]; exact h6.2
    · have h7 := h3.size
      rw [hsz1] at h7
      have := hN.sz
      omega
  unfold Oper.wp execOp
  simp only [ho, resolve, invoke, builtin, Sem.run_bind, Sem.run_pure, Result.andThen_ok, List.map_toArray, List.map_cons, List.map_nil, hs, hx, hr]
  exact hK _ _ (h v' w' hNX)

theorem w64sR (q : Nat) (h : q < 256) : wrap64 (q : Int) = (q : Int) := by unfold wrap64; omega
theorem off_word (wd : Nat) (c : Int) (hw : wd < 256) (hc : -128 ≤ c ∧ c ≤ 128) : ((wd : Int) + c < 0 → ∃ r : Nat, (wd : Int) + c + 256 = (r : Int) ∧ r < 256 ∧ (wd : Int) + c = 256 * (-1) + (r : Int)) ∧ (¬ (wd : Int) + c < 0 → ∃ s : Nat, (wd : Int) + c = (s : Int) ∧ s < 512 ∧ (wd : Int) + c = 256 * ((s / 256 : Nat) : Int) + ((s % 256 : Nat) : Int) ∧ s / 256 ≤ 1) := by
  refine ⟨fun h => ⟨((wd : Int) + c + 256).toNat, by omega, by omega, by omega⟩, fun h => ⟨((wd : Int) + c).toNat, by omega, by omega, by omega, by omega⟩⟩
theorem carry_ok {n : Nat} (h : n ≤ 1) : -128 ≤ (n : Int) ∧ (n : Int) ≤ 128 := by omega
theorem tmod256 (q : Nat) : (q : Int).tmod 256 = ((q % 256 : Nat) : Int) := by rw [Int.tmod_eq_emod_of_nonneg (by omega)]; omega
theorem tdiv256 (q : Nat) : (q : Int).tdiv 256 = ((q / 256 : Nat) : Int) := by rw [Int.tdiv_eq_ediv_of_nonneg (by omega)]; omega
theorem i8_of {d : Int} (h : -128 ≤ d ∧ d ≤ 127) : IntKind.i8.wrap d = d ∧ IntKind.i64.wrap (-d) = -d := by rw [wrap8, IntKind.wrap_i64]; omega
theorem nq_big {k X m : Nat} (hk : 2 ≤ k) (hX : X < 2 ^ 256) (hm : m ≤ 256) : nq k (nn k X m) < 256 ^ 34 ∧ nn k X m < 256 ^ 34 := by
  have h1 := nn_le hk hX m hm
  have h2 : 2 ^ (256 - m) ≤ 2 ^ 256 := Nat.pow_le_pow_right (by decide) (by omega)
  have h3 := nq_le (k := 256) hk (Nat.le_trans h1 h2)
  have h4 : (2 : Nat) ^ 256 < 256 ^ 34 := by decide
  omega

set_option maxRecDepth 100000 in
set_option maxHeartbeats 1000000 in
theorem refDigits_bad (X : Nat) (z : Int) (hz : z < 2 ∨ 8 < z) (w : World) :
    Calls Tryd.prog 32 #[yv 32 X, .int .i64 z] w fun e w' => e = .returned (.tuple #[.slice none 0 0, .int .i64 1]) ∧ Grown w w' := by
  have h0 : Grown w (w.alloc (.cells (yl 32 X).toArray 23)) := Grown.alloc (Grown.refl _) _ _
  have H0 := Hid.of h0
  clear h0
  rw [yv]
  by_cases h : z < 2
  · clear hz
    go_enter Tryd.func32, Tryd.ntmps32
    go_wp2
    go_ret2
    exact ⟨rfl, H0.out⟩
  · have h2 : z > 8 := hz.resolve_left h
    clear hz
    go_enter Tryd.func32, Tryd.ntmps32
    go_wp2
    go_ret2
    exact ⟨rfl, H0.out⟩

theorem span_step {k i : Nat} (hik : i ≤ k) (hk8 : k ≤ 8) : 2 * ((2 ^ i : Nat) : Int) = ((2 ^ (i + 1) : Nat) : Int) ∧ 2 ^ i ≤ 256 ∧ 2 ^ (i + 1) ≤ 512 := by
  have h1 : 2 ^ i ≤ 2 ^ 8 := Nat.pow_le_pow_right (by decide) (by omega)
  have e : 2 ^ (i + 1) = 2 * 2 ^ i := by rw [Nat.pow_succ]; omega
  rw [e]
  generalize 2 ^ i = H at *
  omega
theorem il_mod (X : Nat) (hX : X < M) : X % 256 ^ 32 = X := Nat.mod_eq_of_lt (by rw [show (256 : Nat) ^ 32 = M from by decide]; exact hX)
theorem by_stepI (n i : Nat) : st 256 (n % 256 ^ i) i (dg 256 n i) = n % 256 ^ (i + 1) := by_step n i

set_option maxRecDepth 100000 in
set_option maxHeartbeats 8000000 in
theorem refDigits_num (X k : Nat) (hX : X < M) (hk : 2 ≤ k) (hk8 : k ≤ 8) (w : World) :
    Calls Tryd.prog 32 #[yv 32 X, .int .i64 (k : Int)] w fun e w' => (∃ g cap, e = .returned (.tuple #[.slice (some ⟨g, 0, none⟩) 257 cap, .int .i64 0]) ∧ w'.rangeAt g 0 (dl k X 257)) ∧ Grown w w' := by
  obtain ⟨ii, hi1, hi2, hi3, hi4⟩ := hI8d
  have hX2 : X < 2 ^ 256 := by rw [← M_256]; exact hX
  have h0 : (w.alloc (.cells (yl 32 X).toArray 23)).rangeAt w.heap.size 0 (yl 32 X) ∧ Grown w (w.alloc (.cells (yl 32 X).toArray 23)) ∧ (w.alloc (.cells (yl 32 X).toArray 23)).heap.size = w.heap.size + 1 := ⟨rangeAt_alloc_new w 23 (yl 32 X), Grown.alloc (Grown.refl _) _ _, by simp⟩
  have b1 : ¬ (k : Int) < 2 := by omega
  have b2 : ¬ (8 : Int) < (k : Int) := by omega
  have HX := Hid.of (And.intro hX hX2)
  clear hX hX2
  rw [yv]
  go_enter Tryd.func32, Tryd.ntmps32
  go_wp2
  generalize (w.alloc (.cells (yl 32 X).toArray 23)) = W0 at *
  have H0 := Hid.of h0
  clear h0
  go_loopw [6, 7] (fun v6 v7 wr => ∃ i : Nat, v7 = .int .i64 (i : Int) ∧ v6 = .int .i64 ((2 ^ i : Nat) : Int) ∧ i ≤ k ∧ wr = W0) (fun _ v7 _ => k - (intOf v7).toNat)
  case atStart => exact ⟨0, rfl, rfl, Nat.zero_le _, rfl⟩
  case round =>
    obtain ⟨i, rfl, rfl, hik, hwr⟩ := hrel
    subst hwr
    obtain ⟨p1, p2, p3⟩ := span_step hik hk8
    by_cases hlt : i < k
    · have b3 : (i : Int) < (k : Int) := Int.ofNat_lt.2 hlt
      generalize h2 : 2 ^ (i + 1) = H2' at *
      have HH := Hid.of h2
      clear h2
      generalize 2 ^ i = H1' at *
      go_wp2
      go_roundw
      case rel => exact ⟨i + 1, by go_num, by rw [HH.out], by omega, by first | rfl | trivial⟩
      case measure => simp [intOf]; omega
    · have hik2 : i = k := by omega
      subst hik2
      clear p1 p3 hik hlt
      obtain ⟨q1, q2, q3⟩ := pow_half hk hk8
      have HQ := Hid.of q1
      have h9 : (wr.alloc (Obj.cells (ilR 34 0).toArray 77)).rangeAt wr.heap.size 0 (ilR 34 0) ∧ (wr.alloc (Obj.cells (ilR 34 0).toArray 77)).there wr.heap.size 0 34 ∧ Grown wr (wr.alloc (Obj.cells (ilR 34 0).toArray 77)) ∧ (wr.alloc (Obj.cells (ilR 34 0).toArray 77)).heap.size = wr.heap.size + 1 :=
        ⟨rangeAt_alloc_new wr 77 (ilR 34 0), there_alloc_new wr 77 (ilR 34 0).toArray 34 (by rw [List.size_toArray, il_lengthR]; exact Nat.le_refl _), Grown.alloc (Grown.refl _) _ _, by simp⟩
      clear q1
      generalize hsp : 2 ^ i = SP at *
      have HSP := Hid.of hsp
      clear hsp
      go_wp2
      rw [← il34_zero]
      have HS9 := Hid.of h9.2.2.2
      have hbs : wr.heap.size = w.heap.size + 1 := H0.out.2.2
      have H9 := Hid.of (show (wr.alloc (Obj.cells (ilR 34 0).toArray 77)).rangeAt w.heap.size 0 (yl 32 X) ∧ (wr.alloc (Obj.cells (ilR 34 0).toArray 77)).rangeAt wr.heap.size 0 (ilR 34 (X % 256 ^ 0)) ∧ (wr.alloc (Obj.cells (ilR 34 0).toArray 77)).there wr.heap.size 0 34 ∧ Grown w (wr.alloc (Obj.cells (ilR 34 0).toArray 77)) ∧ (wr.alloc (Obj.cells (ilR 34 0).toArray 77)).heap.size = wr.heap.size + 1 from ⟨rangeAt_grown H0.out.1 h9.2.2.1, by rw [Nat.pow_zero, Nat.mod_one]; exact h9.1, h9.2.1, grown_trans H0.out.2.1 h9.2.2.1, h9.2.2.2⟩)
      clear h9 H0 HS9
      generalize wr.alloc (Obj.cells (ilR 34 0).toArray 77) = W9 at *
      generalize wr.heap.size = bn at *
      have HBS := Hid.of hbs
      clear hbs
      go_loopw [9] (fun v9 wr => ∃ j : Nat, v9 = .int .i64 (j : Int) ∧ j ≤ 32 ∧ wr.rangeAt w.heap.size 0 (yl 32 X) ∧ wr.rangeAt bn 0 (ilR 34 (X % 256 ^ j)) ∧ wr.there bn 0 34 ∧ Grown w wr ∧ wr.heap.size = bn + 1) (fun v9 _ => 32 - (intOf v9).toNat)
      case atStart => exact ⟨0, rfl, by decide, H9.out⟩
      case round =>
        obtain ⟨j, rfl, hj, ra, rn, tn, gw, sz⟩ := hrel
        clear H9
        by_cases hjt : j < 32
        · have c1 : wr.cell? ⟨w.heap.size, j, none⟩ = some (.int .u8 (dg 256 X j : Nat)) := by
            have := ra j _ (yl_get 32 X j hjt); rwa [Nat.zero_add] at this
          have d3 := rn j _ (il_getR 34 _ j (by omega))
          rw [Nat.zero_add] at d3
          generalize (Value.int IntKind.i64 (dg 256 (X % 256 ^ j) j : Nat)) = u0 at d3
          have d2 : wr.frozen? ⟨bn, j, none⟩ = false := by
            have := (tn j (by omega)).2; rwa [Nat.zero_add] at this
          have hl2 := by_stepI X j
          have hw : dg 256 X j < 256 := dg_lt (by decide)
          have e1 := w64sR _ hw
          generalize dg 256 X j = wd at *
          have b2 : (j : Int) < 32 := Int.ofNat_lt.2 hjt
          have HY := Hid.of (And.intro hl2 (And.intro ra (And.intro rn (And.intro tn (And.intro gw sz)))))
          clear hl2 ra rn tn gw sz
          go_wp2
          go_roundw
          case rel =>
            obtain ⟨hl2, ra, rn, tn, gw, sz⟩ := HY.out
            have hbs := HBS.out
            have r1 := irange_setR rn hw (show j < 34 by omega)
            rw [hl2] at r1
            exact ⟨j + 1, by go_num, by omega, range_put ra _ _ (by omega) _, r1, there_setCell tn _ _, Grown.setCell gw (by show _ ≤ bn; omega) _, by simpa [World.setCell] using sz⟩
          case measure => simp [intOf]; omega
        · have hj3 : j = 32 := by omega
          subst hj3
          rw [il_mod X HX.out.1] at rn
          have hbs := HBS.out
          have HN0 := Hid.of (show NX w bn (.slice none 0 0) i X 0 (nn i X 0) wr from ⟨rn, tn, World.ownsRow_nil _ _ _ _, .inl rfl, gw, by omega, by omega⟩)
          clear ra rn tn gw sz hj hjt hbs
          go_wp2
          go_loopw [10, 11] (fun v10 v11 wr => ∃ m : Nat, v11 = .int .i64 (m : Int) ∧ m ≤ 257 ∧ NX w bn v10 i X m (nn i X m) wr) (fun _ v11 _ => 257 - (intOf v11).toNat)
          case atStart => exact ⟨0, rfl, by decide, HN0.out⟩
          case round =>
            obtain ⟨m, rfl, hm, hN⟩ := hrel
            clear HN0
            by_cases hmt : m < 257
            · have b3 : (m : Int) < 257 := Int.ofNat_lt.2 hmt
              have hd := dn_i8 (X := X) (i := m) hk hk8
              obtain ⟨i1, i2⟩ := i8_of hd
              have hnb := nq_big (m := m) hk HX.out.2 (by omega)
              have hnq := nq_eq i (nn i X m)
              have HNQ := Hid.of (And.intro hnb (And.intro hnq (show nn i X (m + 1) = nq i (nn i X m) / 2 from rfl)))
              have c1 : wr.cell? ⟨bn, 0, none⟩ = some (.int .i64 (dg 256 (nn i X m) 0 : Nat)) := hN.rn 0 _ (il_getR 34 _ 0 (by decide))
              have HN := Hid.of hN
              have t1 : ((dg 256 (nn i X m) 0 : Nat) : Int) % 2 = ((dg 256 (nn i X m) 0 % 2 : Nat) : Int) := by simp
              have t2 : ((dg 256 (nn i X m) 0 : Nat) : Int) % (SP : Int) = ((dg 256 (nn i X m) 0 % SP : Nat) : Int) := by simp
              rw [byte_two] at t1
              have hsp2 := byte_mod (nn i X m) i hk8
              rw [HSP.out] at hsp2
              rw [hsp2] at t2
              have hrd := fun ho => ref_digit (N := nn i X m) (k := i) hk ho
              rw [HSP.out] at hrd
              have hzi := nd_zero_iff (k := i) (N := nn i X m) (by omega)
              have hen : nn i X m % SP < SP := Nat.mod_lt _ (by omega)
              have hpb : nn i X m % 2 < 2 := Nat.mod_lt _ (by decide)
              have hq : (SP : Int) / 2 = ((2 ^ (i - 1) : Nat) : Int) := by rw [← HQ.out, Int.tdiv_eq_ediv_of_nonneg (by omega)]
              generalize nn i X m % 2 = pb at *
              generalize nn i X m % SP = en at *
              generalize 2 ^ (i - 1) = H at *
              have HRD := Hid.of (And.intro hrd hzi)
              clear hN hnb hnq hsp2 hrd hzi
              generalize dg 256 (nn i X m) 0 = n0 at *
              go_upto_if 47 with (fail)
              go_cut [12] (fun v12 wc => v12 = .int .i64 (dn i X m) ∧ wc = wr)
              case first =>
                by_cases hev : pb = 0
                · subst hev
                  have HD := Hid.of (show dn i X m = 0 from HRD.out.2.2 rfl)
                  clear t2 hq
                  go_wp2
                  go_meet
                  case rel => exact ⟨by rw [HD.out], rfl⟩
                · have ho1 : pb = 1 := by omega
                  subst ho1
                  obtain ⟨r1, r2⟩ := HRD.out.1 hev
                  clear hev
                  by_cases hgt : H < en
                  · have HD := Hid.of (show dn i X m = (en : Int) - (SP : Int) from r1 hgt)
                    have hgi : (H : Int) < (en : Int) := Int.ofNat_lt.2 hgt
                    clear r1 r2 hgt
                    go_wp2
                    go_meet
                    case rel => exact ⟨by rw [HD.out], rfl⟩
                  · have HD := Hid.of (show dn i X m = (en : Int) from r2 hgt)
                    have hgi : ¬ (H : Int) < (en : Int) := fun h => hgt (Int.ofNat_lt.1 h)
                    clear r1 r2 hgt
                    go_wp2
                    go_meet
                    case rel => exact ⟨by rw [HD.out], rfl⟩
              case rest =>
                obtain ⟨e12, ewc⟩ := hcut
                subst e12
                subst ewc
                clear c1 t1 t2 hq HRD hpb hen
                go_wp2_with (with_reducible show wpList _ _ _ ({ dst := _, op := Op.call { callee := Callee.builtin Builtin.append, args := _, argTypes := _ }, type := _, pos := _, after := _, guard := _ } :: _) _ _; refine Shut.out ?_)
                show wpList _ _ _ _ _ _
                refine wpList_append_NX HN.out rfl _ _ rfl rfl rfl hmt ?_
                intro v' w' hN2
                simp only [Act.put, List.setIfInBounds_toArray, List.set_cons_zero, List.set_cons_succ]
                have HN2 := Hid.of hN2
                clear hN2 HN
                have HD := Hid.of (show dn i X m = nd i (nn i X m) from rfl)
                have HDd := Hid.of (show ((nq i (nn i X m) : Nat) : Int) = ((nn i X m : Nat) : Int) + (-(dn i X m)) by rw [HNQ.out.2.1]; show _ = _ + -(nd i (nn i X m)); omega)
                obtain ⟨⟨hQb, hNb⟩, _, hnn⟩ := HNQ.out
                have HB := Hid.of (And.intro hQb (And.intro hNb hnn))
                clear HNQ hQb hNb hnn HD
                generalize nq i (nn i X m) = Qn at *
                generalize dn i X m = d at *
                go_wp2
                go_loopw [13, 14] (fun v13 v14 wr => ∃ (j cur : Nat) (c : Int), v14 = .int .i64 (j : Int) ∧ v13 = .int .i64 c ∧ j ≤ 34 ∧ (-128 ≤ c ∧ c ≤ 128) ∧ (cur : Int) + c * ((256 ^ j : Nat) : Int) = (Qn : Int) ∧ cur < 256 ^ 34 ∧ NX w bn v' i X (m + 1) cur wr) (fun _ v14 _ => 34 - (intOf v14).toNat)
                case atStart => exact ⟨0, nn i X m, -d, rfl, rfl, by decide, by omega, by rw [HDd.out, Nat.pow_zero]; simp, HB.out.2.1, HN2.out⟩
                case round =>
                  obtain ⟨j, cur, c, rfl, rfl, hj, hc, he, hcur, hX2⟩ := hrel
                  clear HN2
                  by_cases hjt : j < 34
                  · have b4 : (j : Int) < 34 := Int.ofNat_lt.2 hjt
                    have d1 : wr.cell? ⟨bn, j, none⟩ = some (.int .i64 (dg 256 cur j : Nat)) := by
                      have := hX2.rn j _ (il_getR 34 cur j hjt); rwa [Nat.zero_add] at this
                    have d2 : wr.frozen? ⟨bn, j, none⟩ = false := by
                      have := (hX2.tn j hjt).2; rwa [Nat.zero_add] at this
                    have hw : dg 256 cur j < 256 := dg_lt (by decide)
                    have hoff := fun (q : Int) (r : Nat) (hv : ((dg 256 cur j : Nat) : Int) + c = 256 * q + (r : Int)) => off_step he hv
                    have hst2 := fun z (hz : z < 256) => st_lt (b := 256) (n := 34) (v := cur) (k := j) (z := z) (by decide) hz hjt hcur
                    have hset := fun z (hz : z < 256) => hX2.set hz hjt
                    have HS := Hid.of (And.intro hoff (And.intro hst2 hset))
                    clear hoff hst2 hset he hcur hX2
                    generalize dg 256 cur j = wd at *
                    obtain ⟨o1, o2⟩ := off_word wd c hw hc
                    by_cases hneg : (wd : Int) + c < 0
                    · obtain ⟨r, hr1, hr2, hr3⟩ := o1 hneg
                      have HR := Hid.of hr3
                      clear o1 o2 hr3
                      obtain ⟨V, hV⟩ : ∃ V, (wd : Int) + c = V := ⟨_, rfl⟩
                      rw [hV] at hneg hr1
                      have HV := Hid.of hV
                      have bV : -128 ≤ V ∧ V ≤ 383 := by omega
                      have q1 := tmod256 r
                      have q2 := tdiv256 r
                      rw [Nat.mod_eq_of_lt hr2] at q1
                      rw [Nat.div_eq_of_lt hr2] at q2
                      go_wp2
                      go_loopw [13, 15] (fun v13 v15 wr2 => wr2 = wr ∧ ((v13 = .int .i64 0 ∧ v15 = .int .i64 V) ∨ (v13 = .int .i64 (-1) ∧ v15 = .int .i64 (r : Int)))) (fun _ v15 _ => if intOf v15 < 0 then 1 else 0)
                      case atStart => exact ⟨rfl, .inl ⟨rfl, rfl⟩⟩
                      case round =>
                        obtain ⟨hwr, ⟨rfl, rfl⟩ | ⟨rfl, rfl⟩⟩ := hrel
                        · subst hwr
                          go_wp2
                          go_roundw
                          case rel => exact ⟨by first | rfl | trivial, .inr ⟨rfl, rfl⟩⟩
                          case measure =>
                            simp [intOf, hneg]
                            exact if_neg (Int.not_lt.2 (Int.natCast_nonneg r))
                        · subst hwr
                          have hri : (r : Int) < 256 := Int.ofNat_lt.2 hr2
                          go_wp2
                          go_roundw
                          case rel =>
                            obtain ⟨hoff, hst2, hset⟩ := HS.out
                            exact ⟨j + 1, st 256 cur j r, -1, by go_num, rfl, by omega, by decide, hoff (-1) r HR.out, hst2 r hr2, hset r hr2⟩
                          case measure => simp [intOf]; omega
                    · obtain ⟨s, hs1, hs2, hs3, hs4⟩ := o2 hneg
                      have HR := Hid.of hs3
                      clear o1 o2 hs3
                      obtain ⟨V, hV⟩ : ∃ V, (wd : Int) + c = V := ⟨_, rfl⟩
                      rw [hV] at hneg hs1
                      have bV : 0 ≤ V ∧ V ≤ 511 := by omega
                      have q1 : V.tmod 256 = ((s % 256 : Nat) : Int) := by rw [hs1]; exact tmod256 s
                      have q2 : V.tdiv 256 = ((s / 256 : Nat) : Int) := by rw [hs1]; exact tdiv256 s
                      have q3 : V % 256 = ((s % 256 : Nat) : Int) := by rw [hs1]; simp
                      have q4 : V / 256 = ((s / 256 : Nat) : Int) := by rw [hs1]; simp
                      have hm256 : s % 256 < 256 := Nat.mod_lt _ (by decide)
                      clear hs1 hs2
                      generalize s % 256 = r1 at *
                      generalize s / 256 = c1 at *
                      go_wp2
                      go_loopw [13, 15] (fun v13 v15 wr2 => wr2 = wr ∧ ((v13 = .int .i64 0 ∧ v15 = .int .i64 V) ∨ (v13 = .int .i64 (-1) ∧ v15 = .int .i64 (-1) ∧ False))) (fun _ v15 _ => if intOf v15 < 0 then 1 else 0)
                      case atStart => exact ⟨rfl, .inl ⟨rfl, rfl⟩⟩
                      case round =>
                        obtain ⟨hwr, ⟨rfl, rfl⟩ | ⟨_, _, hF⟩⟩ := hrel
                        rotate_left
                        · exact hF.elim
                        subst hwr
                        go_wp2
                        go_roundw
                        case rel =>
                          obtain ⟨hoff, hst2, hset⟩ := HS.out
                          first
                            | exact ⟨j + 1, st 256 cur j r1, (c1 : Int), by go_num, rfl, by omega, carry_ok hs4, hoff _ _ HR.out, hst2 _ hm256, hset r1 hm256⟩
                            | exact ⟨_, _, _, _, _, _, _, _, _, _, _, _, _, _, _, _, _, _, _, _, _, _, _, _, _, _, ⟨j + 1, st 256 cur j r1, (c1 : Int), rfl, rfl, by omega, carry_ok hs4, hoff _ _ HR.out, hst2 _ hm256, hset r1 hm256⟩, rfl⟩
                        case measure => simp [intOf]; omega
                  · have hj4 : j = 34 := by omega
                    subst hj4
                    have ec := off_end he hcur HB.out.1
                    subst ec
                    have HX3 := Hid.of hX2
                    clear he hcur hX2 hc hj hjt HDd
                    go_wp2
                    go_loopw [16] (fun v16 wr => ∃ j c2 : Nat, v16 = .int .i64 (j : Int) ∧ j ≤ 33 ∧ c2 / 256 ^ j = cur / 256 ^ j ∧ c2 % 256 ^ j = cur / 2 % 256 ^ j ∧ c2 < 256 ^ 34 ∧ NX w bn v' i X (m + 1) c2 wr) (fun v16 _ => 33 - (intOf v16).toNat)
                    case atStart => exact ⟨0, cur, rfl, by decide, rfl, by rw [Nat.pow_zero, Nat.mod_one, Nat.mod_one], HB.out.1, HX3.out⟩
                    case round =>
                      obtain ⟨j, c2, rfl, hj, h1, h2, hc2, hX2⟩ := hrel
                      clear HX3
                      have hj34 : j < 34 := by omega
                      obtain ⟨e1, e2, e3, e4, e5⟩ := half_step h1 h2
                      have d1 : wr.cell? ⟨bn, j, none⟩ = some (.int .i64 (dg 256 cur j : Nat)) := by
                        have := hX2.rn j _ (il_getR 34 c2 j hj34); rwa [Nat.zero_add, e1] at this
                      have d2 : wr.frozen? ⟨bn, j, none⟩ = false := by
                        have := (hX2.tn j hj34).2; rwa [Nat.zero_add] at this
                      have hst2 := st_lt (b := 256) (n := 34) (v := c2) (k := j) (z := dg 256 cur j / 2 + dg 256 cur (j + 1) % 2 * 128) (by decide) e3 hj34 hc2
                      have hset := hX2.set e3 hj34
                      have w1 : dg 256 cur j < 256 := dg_lt (by decide)
                      have w2 : dg 256 cur (j + 1) < 256 := dg_lt (by decide)
                      by_cases hjt : j < 33
                      · have b4 : (j : Int) < 33 := Int.ofNat_lt.2 hjt
                        have d4 : wr.cell? ⟨bn, j + 1, none⟩ = some (.int .i64 (dg 256 cur (j + 1) : Nat)) := by
                          have := hX2.rn (j + 1) _ (il_getR 34 c2 (j + 1) (by omega)); rwa [Nat.zero_add, e2] at this
                        have HS := Hid.of (And.intro e4 (And.intro e5 (And.intro hst2 hset)))
                        clear e1 e2 e3 e4 e5 h1 h2 hst2 hset hX2 hc2
                        generalize dg 256 cur (j + 1) = y1 at *
                        generalize dg 256 cur j = y0 at *
                        go_wp2
                        go_region
                        go_wp2
                        go_roundw
                        case rel =>
                          obtain ⟨e4, e5, hst2, hset⟩ := HS.out
                          rw [show ((y0 / 2 + y1 % 2 * 128 : Nat) : Int) = (y0 : Int) / 2 + (y1 : Int) % 2 * 128 from by simp] at hset
                          exact ⟨j + 1, _, by go_num, by omega, e4, e5, hst2, hset.drew⟩
                        case measure => simp [intOf]; omega
                      · have hj3 : j = 33 := by omega
                        subst hj3
                        have hz : dg 256 cur (33 + 1) = 0 := by
                          unfold dg
                          rw [Nat.div_eq_of_lt HB.out.1, Nat.zero_mod]
                        have hzz : dg 256 cur 33 / 2 + dg 256 cur (33 + 1) % 2 * 128 = dg 256 cur 33 / 2 := by rw [hz, Nat.zero_mod, Nat.zero_mul, Nat.add_zero]
                        rw [hzz] at e3 e5 hst2 hset
                        have hfin : st 256 c2 33 (dg 256 cur 33 / 2) = cur / 2 := by
                          rw [Nat.mod_eq_of_lt hst2, Nat.mod_eq_of_lt (Nat.lt_of_le_of_lt (Nat.div_le_self _ _) HB.out.1)] at e5
                          exact e5
                        rw [hfin, ← HB.out.2.2] at hset
                        have HS := Hid.of hset
                        clear e1 e2 e3 e4 e5 h1 h2 hst2 hset hX2 hc2 hz hzz hfin w2
                        generalize dg 256 cur 33 = y0 at *
                        go_wp2
                        try rw [show ((y0 : Int) / 2) = ((y0 / 2 : Nat) : Int) from by simp]
                        go_roundw
                        case rel => exact ⟨m + 1, by go_num, by omega, by
                          have h := HS.out
                          first | exact h | (rw [show ((y0 / 2 : Nat) : Int) = (y0 : Int) / 2 from by simp] at h; exact h)⟩
                        case measure => simp [intOf]; omega
            · have hm7 : m = 257 := by omega
              subst hm7
              have HN := Hid.of hN
              obtain ⟨g, cap, rfl⟩ := hN.sl.resolve_left (by decide)
              clear hN
              go_wp2
              go_ret2
              have hr := owns_range HN.out.own
              rw [el_full] at hr
              exact ⟨⟨g, cap, rfl, hr⟩, HN.out.gw⟩
end Go.Proofs.YteijccjdejjbjaaDoor
namespace Go.Proofs.YteijccjdejjbjaaDoor
open Go.RowKit Go.Shelf ScalarNum

set_option maxRecDepth 100000 in
set_option maxHeartbeats 1000000 in
theorem same_num (g1 g2 c2 k X : Nat) (w : World) (h1 : w.rangeAt g1 0 (dl k X 257)) (h2 : w.rangeAt g2 0 (dl k X 257)) :
    Calls Tryd.prog 33 #[.slice (some ⟨g1, 0, none⟩) 257 257, .slice (some ⟨g2, 0, none⟩) 257 c2] w fun e w' => e = .returned (.bool true) ∧ Grown w w' := by
  have H := Hid.of (And.intro h1 h2)
  clear h1 h2
  go_enter Tryd.func33, Tryd.ntmps33
  go_wp2
  go_loopw [5] (fun v5 wr => ∃ i n : Nat, v5 = .int .i64 (i : Int) ∧ i ≤ 257 ∧ wr = w.drewN n) (fun v5 _ => 257 - (intOf v5).toNat)
  case atStart => exact ⟨0, 0, rfl, by decide, rfl⟩
  case round =>
    obtain ⟨i, n, rfl, hi, rfl⟩ := hrel
    by_cases hlt : i < 257
    · have c1 : w.cell? ⟨g1, i, none⟩ = some (.int .i8 (dn k X i)) := by
        have := H.out.1 i _ (dl_get k X 257 i hlt); rwa [Nat.zero_add, if_pos hlt] at this
      have c3 : w.cell? ⟨g2, i, none⟩ = some (.int .i8 (dn k X i)) := by
        have := H.out.2 i _ (dl_get k X 257 i hlt); rwa [Nat.zero_add, if_pos hlt] at this
      generalize dn k X i = d at *
      have b1 : (i : Int) < 257 := Int.ofNat_lt.2 hlt
      go_wp2
      go_quiet (fail)
      go_wp2
      go_roundw
      case rel => exact ⟨i + 1, _, by go_num, by omega, rfl⟩
      case measure => simp [intOf]; omega
    · have hi7 : i = 257 := by omega
      subst hi7
      go_wp2
      go_ret
      exact ⟨rfl, Grown.refl w⟩

set_option maxRecDepth 100000 in
set_option maxHeartbeats 1000000 in
theorem same_nil (w : World) : Calls Tryd.prog 33 #[.slice none 0 0, .slice none 0 0] w fun e w' => e = .returned (.bool true) ∧ Grown w w' := by
  go_enter Tryd.func33, Tryd.ntmps33
  go_wp2
  go_loopw [5] (fun v5 wr => v5 = .int .i64 0 ∧ wr = w) (fun _ _ => 0)
  case atStart => exact ⟨rfl, rfl⟩
  case round =>
    obtain ⟨rfl, rfl⟩ := hrel
    go_wp2
    go_ret
    exact ⟨rfl, Grown.refl _⟩

end Go.Proofs.YteijccjdejjbjaaDoor
namespace Go.Proofs.YteijccjdejjbjaaDoor
open Go.RowKit Go.Shelf ScalarNum

/-- the digits above 0 (sg = 1), or the others turned round (sg = -1) -/
def pp (f : Nat → I8) (sg : Int) (i : Nat) : Nat := (sg * (f i).1).toNat
theorem pp_le {f : Nat → I8} {sg : Int} (hs : sg = 1 ∨ sg = -1) (i : Nat) : pp f sg i ≤ 128 := by
  have := (f i).2
  unfold pp
  rcases hs with rfl | rfl <;> omega
/-- what the forty sums hold when i digits have come -/
def SS (p : Nat → Nat) : Nat → Nat → Nat
  | 0, _ => 0
  | i + 1, k => if k = i / 8 then SS p i k + p i * 2 ^ (i % 8) else SS p i k
/-- the first k sums, as a number -/
def tot (S : Nat → Nat) : Nat → Nat
  | 0 => 0
  | k + 1 => tot S k + S k * 256 ^ k
/-- the first i digits, as a number -/
def dsum (p : Nat → Nat) : Nat → Nat
  | 0 => 0
  | i + 1 => dsum p i + p i * 2 ^ i

theorem SS_le {p : Nat → Nat} (hp : ∀ i, p i ≤ 128) : ∀ i k, SS p i k ≤ 16384 * i
  | 0, k => by simp [SS]
  | i + 1, k => by
    have ih := SS_le hp i k
    have h1 : p i * 2 ^ (i % 8) ≤ 128 * 128 := Nat.mul_le_mul (hp i) (by
      have : i % 8 < 8 := Nat.mod_lt _ (by decide)
      exact Nat.le_trans (Nat.pow_le_pow_right (by decide) (show i % 8 ≤ 7 by omega)) (by decide))
    unfold SS
    split <;> omega
theorem tot_add (S T : Nat → Nat) (q x : Nat) (h : ∀ k, T k = if k = q then S k + x else S k) : ∀ k, tot T k = if q < k then tot S k + x * 256 ^ q else tot S k
  | 0 => by simp [tot]
  | k + 1 => by
    have ih := tot_add S T q x h k
    show tot T k + T k * 256 ^ k = _
    rw [ih, h k]
    by_cases e : k = q
    · subst e
      rw [if_neg (by omega), if_pos rfl, if_pos (by omega)]
      show tot S k + (S k + x) * 256 ^ k = tot S k + S k * 256 ^ k + x * 256 ^ k
      rw [Nat.add_mul]; omega
    · rw [if_neg e]
      by_cases hl : q < k
      · rw [if_pos hl, if_pos (by omega)]
        show tot S k + x * 256 ^ q + S k * 256 ^ k = tot S k + S k * 256 ^ k + x * 256 ^ q
        omega
      · rw [if_neg hl, if_neg (by omega)]
        rfl
theorem two_oct (i : Nat) : 2 ^ (i % 8) * 256 ^ (i / 8) = 2 ^ i := by
  rw [show (256 : Nat) = 2 ^ 8 from by decide, ← Nat.pow_mul, ← Nat.pow_add]
  congr 1
  omega
theorem tot_SS (p : Nat → Nat) : ∀ i, i ≤ 320 → tot (SS p i) 40 = dsum p i
  | 0, _ => by
    have : ∀ k, tot (SS p 0) k = 0 := fun k => by
      induction k with
      | zero => rfl
      | succ k ih => show tot (SS p 0) k + 0 * 256 ^ k = 0; rw [ih, Nat.zero_mul]
    exact this 40
  | i + 1, h => by
    have ih := tot_SS p i (by omega)
    rw [tot_add (SS p i) (SS p (i + 1)) (i / 8) (p i * 2 ^ (i % 8)) (fun k => rfl) 40, if_pos (by omega), ih, Nat.mul_assoc, two_oct]
    rfl
theorem dsum_lt {p : Nat → Nat} (hp : ∀ i, p i ≤ 128) : ∀ i, dsum p i + 128 ≤ 128 * 2 ^ i
  | 0 => by simp [dsum]
  | i + 1 => by
    have ih := dsum_lt hp i
    have h1 : p i * 2 ^ i ≤ 128 * 2 ^ i := Nat.mul_le_mul_right _ (hp i)
    show dsum p i + p i * 2 ^ i + 128 ≤ 128 * 2 ^ (i + 1)
    rw [Nat.pow_succ]
    omega
theorem pow8 {i n : Nat} (h : 7 + i ≤ 8 * n) : 128 * 2 ^ i ≤ 256 ^ n := by
  rw [show (256 : Nat) = 2 ^ 8 from by decide, ← Nat.pow_mul, show (128 : Nat) = 2 ^ 7 from by decide, ← Nat.pow_add]
  exact Nat.pow_le_pow_right (by decide) h
theorem dsum_256 {p : Nat → Nat} (hp : ∀ i, p i ≤ 128) {i : Nat} (hi : i ≤ 300) : dsum p i < 256 ^ 40 := by
  have h := dsum_lt hp i
  exact Nat.lt_of_lt_of_le (Nat.lt_of_lt_of_le (Nat.lt_add_of_pos_right (by decide)) h) (pow8 (by omega))
/-- a round of the carry -/
theorem carry_step {S : Nat → Nat} {D c k : Nat} (h : D + c * 256 ^ k = tot S k) : D + (S k + c) % 256 * 256 ^ k + (S k + c) / 256 * 256 ^ (k + 1) = tot S (k + 1) := by
  show _ = tot S k + S k * 256 ^ k
  have e := Nat.mod_add_div (S k + c) 256
  have e2 : (S k + c) % 256 * 256 ^ k + (S k + c) / 256 * 256 ^ (k + 1) = (S k + c) * 256 ^ k := by
    rw [Nat.pow_succ, ← Nat.mul_assoc, Nat.mul_right_comm, ← Nat.add_mul, Nat.mul_comm ((S k + c) / 256) 256, e]
  rw [Nat.add_assoc, e2, Nat.add_mul, ← h]
  omega
/-- the number of the digits is what is above 0 less what is below -/
theorem hs_parts (f : Nat → I8) : ∀ n, hs f 0 n = (dsum (pp f 1) n : Int) - (dsum (pp f (-1)) n : Int)
  | 0 => rfl
  | n + 1 => by
    have ih := hs_parts f n
    have h := hs_add f 1 n 0
    rw [Nat.zero_add] at h
    rw [h, ih]
    have e1 : hs f n 1 = (f n).1 := by simp [hs]
    have e2 : ((pp f 1 n : Nat) : Int) - ((pp f (-1) n : Nat) : Int) = (f n).1 := by unfold pp; omega
    show _ = (((dsum (pp f 1) n + pp f 1 n * 2 ^ n : Nat)) : Int) - (((dsum (pp f (-1)) n + pp f (-1) n * 2 ^ n : Nat)) : Int)
    rw [e1, ← e2, Int.natCast_add, Int.natCast_add, Int.natCast_mul, Int.natCast_mul, Int.mul_sub, Int.natCast_pow, Int.mul_comm, Int.mul_comm (2 ^ n)]
    have e3 : ((2 : Nat) : Int) = 2 := rfl
    rw [e3]
    omega
end Go.Proofs.YteijccjdejjbjaaDoor
namespace Go.Proofs.YteijccjdejjbjaaDoor
open Go.RowKit Go.Shelf ScalarNum

def sl (S : Nat → Nat) : List Value := (List.range 40).map fun k => .int .i64 (S k : Int)
theorem sl_length (S : Nat → Nat) : (sl S).length = 40 := by simp [sl]
theorem sl_get (S : Nat → Nat) (k : Nat) (h : k < 40) : (sl S)[k]? = some (.int .i64 (S k : Int)) := by simp [sl, h]
theorem sl_set (S T : Nat → Nat) (q : Nat) (hq : q < 40) (hT : ∀ k, k ≠ q → T k = S k) : (sl S).set q (.int .i64 (T q : Int)) = sl T := by
  apply List.ext_getElem?
  intro j
  by_cases e : q = j
  · subst e
    rw [List.getElem?_set_self (by rw [sl_length]; exact hq), sl_get T q hq]
  · rw [List.getElem?_set_ne e]
    by_cases hj : j < 40
    · rw [sl_get S j hj, sl_get T j hj, hT j (fun h => e h.symm)]
    · rw [List.getElem?_eq_none (by rw [sl_length]; omega), List.getElem?_eq_none (by rw [sl_length]; omega)]
theorem sl_zero (p : Nat → Nat) : (sl (SS p 0)).toArray = Array.replicate 40 (.int .i64 0) := by rfl
theorem i8_64 (d : I8) : wrap64 d.1 = d.1 ∧ IntKind.i64.wrap d.1 = d.1 := by
  have := d.2
  rw [IntKind.wrap_i64]; unfold wrap64; omega
theorem tmod8 (i : Nat) : (i : Int).tmod 8 = ((i % 8 : Nat) : Int) := by rw [Int.tmod_eq_emod_of_nonneg (by omega)]; omega
theorem tdiv8 (i : Nat) : (i : Int).tdiv 8 = ((i / 8 : Nat) : Int) := by rw [Int.tdiv_eq_ediv_of_nonneg (by omega)]; omega
theorem w64n (q : Nat) (h : q < 1073741824) : IntKind.i64.wrap (q : Int) = (q : Int) ∧ wrap64 (q : Int) = (q : Int) := by rw [IntKind.wrap_i64]; unfold wrap64; omega

theorem carry_lay {S : Nat → Nat} {D c k : Nat} (hD : D < 256 ^ k) (h : D + c * 256 ^ k = tot S k) : D + (S k + c) % 256 * 256 ^ k < 256 ^ (k + 1) ∧ D + (S k + c) % 256 * 256 ^ k + (S k + c) / 256 * 256 ^ (k + 1) = tot S (k + 1) :=
  ⟨(lay_step (v := S k + c) hD rfl).1, carry_step h⟩
theorem carry_none {D c k : Nat} (h : D + c * 256 ^ k < 256 ^ k) : c = 0 := by
  rcases Nat.eq_zero_or_pos c with e | e
  · exact e
  · have := Nat.mul_le_mul_right (256 ^ k) e
    omega

structure HX (W0 : World) (sb : Nat) (p : Nat → Nat) (i : Nat) (wr : World) : Prop where
  rg : wr.rangeAt sb 0 (sl (SS p i))
  th : wr.there sb 0 40
  gb : GB sb W0 wr

set_option maxRecDepth 100000 in
set_option maxHeartbeats 600000 in
theorem heap_num (b off len cap : Nat) (f : Nat → I8) (sg : Int) (hsg : sg = 1 ∨ sg = -1) (hlen : len ≤ 300) (w : World) (hd : ∀ j, j < len → w.cell? ⟨b, off + j, none⟩ = some (.int .i8 (f j).1)) (hb : b < w.heap.size) :
    Calls Tryd.prog 47 #[.slice (some ⟨b, off, none⟩) len cap, .int .i64 sg] w fun e w' => (∃ v, e = .returned v ∧ SL 40 (dsum (pp f sg) len) v w') ∧ Grown w w' := by
  have hp : ∀ i, pp f sg i ≤ 128 := pp_le hsg
  have h0 : (w.alloc (.cells (sl (SS (pp f sg) 0)).toArray 91)).rangeAt w.heap.size 0 (sl (SS (pp f sg) 0)) ∧ (w.alloc (.cells (sl (SS (pp f sg) 0)).toArray 91)).there w.heap.size 0 40 ∧ Grown w (w.alloc (.cells (sl (SS (pp f sg) 0)).toArray 91)) :=
    ⟨rangeAt_alloc_new w 91 _, there_alloc_new w 91 _ 40 (by rw [List.size_toArray, sl_length]; exact Nat.le_refl _), Grown.alloc (Grown.refl _) _ _⟩
  have HD := Hid.of (And.intro hd hb)
  have HP := Hid.of (And.intro hp hsg)
  clear hd hb hp hsg
  go_enter Tryd.func47, Tryd.ntmps47
  go_wp2
  go_loopw [6] (fun v6 wr => ∃ i : Nat, v6 = .int .i64 (i : Int) ∧ i ≤ len ∧ HX (w.alloc (.cells (sl (SS (pp f sg) 0)).toArray 91)) w.heap.size (pp f sg) i wr) (fun v6 _ => len - (intOf v6).toNat)
  case atStart =>
    refine ⟨0, rfl, Nat.zero_le _, ?_⟩
    have e : ∀ W, W = (w.alloc (.cells (sl (SS (pp f sg) 0)).toArray 91)) → HX (w.alloc (.cells (sl (SS (pp f sg) 0)).toArray 91)) w.heap.size (pp f sg) 0 W := fun W e => by rw [e]; exact ⟨h0.1, h0.2.1, GB.refl _ _⟩
    exact e _ rfl
  case round =>
    obtain ⟨i, rfl, hi, hX⟩ := hrel
    generalize (w.alloc (.cells (sl (SS (pp f sg) 0)).toArray 91)) = W0 at *
    have HXX := Hid.of (And.intro hX h0)
    clear hX h0
    by_cases hlt : i < len
    · have c1 : (i : Int) < (len : Int) := Int.ofNat_lt.2 hlt
      have c2 : (i : Int) < 300 := by omega
      have d1 : wr.cell? ⟨b, off + i, none⟩ = some (.int .i8 (f i).1) := by
        rw [HXX.out.1.gb.cell _ _ (Nat.lt_of_lt_of_le HD.out.2 HXX.out.2.2.2.2.2) (by have := HD.out.2; omega), grown_cell HXX.out.2.2.2 _ _ HD.out.2]
        exact HD.out.1 i hlt
      obtain ⟨e1, e2⟩ := i8_64 (f i)
      have hpi : pp f sg i = (sg * (f i).1).toNat := rfl
      have hp8 := HP.out.1 i
      have e3 : IntKind.i64.wrap (sg * (f i).1) = sg * (f i).1 := by
        have := (f i).2
        rw [IntKind.wrap_i64]
        rcases HP.out.2 with rfl | rfl <;> omega
      have e4 : wrap64 (sg * (f i).1) = sg * (f i).1 := by
        have := (f i).2
        unfold wrap64
        rcases HP.out.2 with rfl | rfl <;> omega
      generalize (f i).1 = d at *
      by_cases hpos : 0 < sg * d
      · obtain ⟨q, hq⟩ : ∃ q : Nat, sg * d = (q : Int) := ⟨(sg * d).toNat, by omega⟩
        have hpq : pp f sg i = q := by omega
        have hq8 : q ≤ 128 := by omega
        rw [hq] at e3 e4 hpos
        have e6 := tmod8 i
        have e7 := tdiv8 i
        have hk40 : i / 8 < 40 := by omega
        have hr7 : i % 8 ≤ 7 := by omega
        have hSS := SS_le HP.out.1 i (i / 8)
        have hS1 : SS (pp f sg) (i + 1) (i / 8) = SS (pp f sg) i (i / 8) + q * 2 ^ (i % 8) := by
          show (if i / 8 = i / 8 then SS (pp f sg) i (i / 8) + pp f sg i * 2 ^ (i % 8) else SS (pp f sg) i (i / 8)) = _
          rw [if_pos rfl, hpq]
        have hsl : (sl (SS (pp f sg) i)).set (i / 8) (.int .i64 ((SS (pp f sg) i (i / 8) + q * 2 ^ (i % 8) : Nat) : Int)) = sl (SS (pp f sg) (i + 1)) := by
          rw [← hS1]
          exact sl_set _ _ _ hk40 (fun k hk => by
            show (if k = i / 8 then SS (pp f sg) i k + pp f sg i * 2 ^ (i % 8) else SS (pp f sg) i k) = _
            rw [if_neg hk])
        have d2 : wr.cell? ⟨w.heap.size, i / 8, none⟩ = some (.int .i64 (SS (pp f sg) i (i / 8) : Nat)) := by
          have := HXX.out.1.rg (i / 8) _ (sl_get _ _ hk40); rwa [Nat.zero_add] at this
        have d3 : wr.frozen? ⟨w.heap.size, i / 8, none⟩ = false := by
          have := (HXX.out.1.th (i / 8) hk40).2; rwa [Nat.zero_add] at this
        generalize SS (pp f sg) i (i / 8) = S at *
        generalize i / 8 = k at *
        generalize i % 8 = r at *
        have hk40' : (k : Int) < 40 := Int.ofNat_lt.2 hk40
        have HQ := Hid.of (And.intro hsl (And.intro hr7 (And.intro hq8 (And.intro hSS (And.intro hk40 hlt)))))
        clear hsl hr7 hq8 hSS hS1 hpq hpi hp8 hk40
        go_wp2
        go_loopw [8, 9] (fun v8 v9 wr' => ∃ j : Nat, v9 = .int .i64 (j : Int) ∧ v8 = .int .i64 ((q * 2 ^ j : Nat) : Int) ∧ j ≤ r ∧ wr' = wr) (fun _ v9 _ => r - (intOf v9).toNat)
        case atStart => exact ⟨0, rfl, by rw [Nat.pow_zero, Nat.mul_one], Nat.zero_le _, rfl⟩
        case round =>
          obtain ⟨j, rfl, rfl, hj, rfl⟩ := hrel
          have hP : q * 2 ^ j ≤ 128 * 128 := Nat.mul_le_mul HQ.out.2.2.1 (Nat.le_trans (Nat.pow_le_pow_right (by decide) (show j ≤ 7 from Nat.le_trans hj HQ.out.2.1)) (by decide))
          have hP2 : q * 2 ^ (j + 1) = 2 * (q * 2 ^ j) := by rw [Nat.pow_succ, ← Nat.mul_assoc, Nat.mul_comm]
          by_cases hjl : j < r
          · have c3 : (j : Int) < (r : Int) := Int.ofNat_lt.2 hjl
            have HE := Hid.of (show wrap64 ((j : Int) + 1) = (j : Int) + 1 by have := HQ.out.2.1; unfold wrap64; omega)
            have HP2 := Hid.of hP2
            generalize q * 2 ^ j = P at *
            have e8 : IntKind.i64.wrap (2 * (P : Int)) = ((2 * P : Nat) : Int) := by rw [IntKind.wrap_i64]; omega
            have e9 : wrap64 (2 * (P : Int)) = ((2 * P : Nat) : Int) := by unfold wrap64; omega
            clear hP2
            go_wp2
            go_roundw
            case rel => exact ⟨j + 1, by rw [HE.out]; simp, by rw [HP2.out]; simp, hjl, trivial⟩
            case measure => rw [HE.out]; simp [intOf]; omega
          · obtain rfl : j = r := by omega
            have c3 : ¬ (j : Int) < (j : Int) := by omega
            generalize q * 2 ^ j = P at *
            have hSP : S + P < 1073741824 := by have := HQ.out.2.2.2.1; omega
            have e8 : IntKind.i64.wrap ((S : Int) + (P : Int)) = (S : Int) + (P : Int) := by rw [IntKind.wrap_i64]; omega
            have e9 : wrap64 ((S : Int) + (P : Int)) = (S : Int) + (P : Int) := by unfold wrap64; omega
            clear hSP hP hP2
            go_wp2
            go_roundw
            case rel =>
              refine ⟨i + 1, by go_num, HQ.out.2.2.2.2.2, ⟨?_, there_setCell HXX.out.1.th _ _, GB.setCell HXX.out.1.gb _⟩⟩
              have := range_set HXX.out.1.rg k (by rw [sl_length]; exact HQ.out.2.2.2.2.1) (.int .i64 ((S + P : Nat) : Int))
              rw [HQ.out.1] at this
              exact this
            case measure => simp [intOf]; omega
      · have hz : pp f sg i = 0 := by omega
        have hsl : sl (SS (pp f sg) (i + 1)) = sl (SS (pp f sg) i) := by
          have e : ∀ k, SS (pp f sg) (i + 1) k = SS (pp f sg) i k := fun k => by
            show (if k = i / 8 then SS (pp f sg) i k + pp f sg i * 2 ^ (i % 8) else SS (pp f sg) i k) = _
            rw [hz]; split <;> omega
          unfold sl
          apply List.map_congr_left
          intro k _
          rw [e k]
        have HZ := Hid.of hsl
        have npos : ¬ 0 < sg * d := hpos
        clear hsl hz hpi hp8 hpos
        go_wp2
        go_roundw
        case rel => exact ⟨i + 1, by go_num, hlt, ⟨by rw [HZ.out]; exact HXX.out.1.rg, HXX.out.1.th, HXX.out.1.gb⟩⟩
        case measure => simp [intOf]; omega
    · have hie : i = len := by omega
      subst hie
      have c1 : ¬ (i : Int) < (i : Int) := by omega
      have hb300 : i ≤ 300 := hlen
      have gwr : Grown w wr := GB.own HXX.out.2.2.2 (Nat.le_refl _) HXX.out.1.gb
      have HR := Hid.of (And.intro HXX.out.1.rg gwr)
      have HS := Hid.of (show ∀ k, SS (pp f sg) i k ≤ 4915200 from fun k => Nat.le_trans (SS_le HP.out.1 i k) (by omega))
      have HTt := Hid.of (And.intro (tot_SS (pp f sg) i (by omega)) (dsum_256 HP.out.1 hb300))
      generalize SS (pp f sg) i = S at *
      obtain ⟨ii, hi1, hi2, hi3, hi4⟩ := hI8
      clear HXX gwr hb300 hlen hlt hi HD HP
      obtain ⟨wr2, eW⟩ : ∃ W1, W1 = wr := ⟨_, rfl⟩
      subst eW
      go_wp2
      go_loopw [10, 11, 12] (fun v10 v11 v12 wr' => ∃ k D c : Nat, v12 = .int .i64 (k : Int) ∧ v11 = .int .i64 (c : Int) ∧ k ≤ 40 ∧ c ≤ 4915200 ∧ D + c * 256 ^ k = tot S k ∧ OX wr2 v10 k D wr') (fun _ _ v12 _ => 40 - (intOf v12).toNat)
      case atStart => exact ⟨0, 0, 0, rfl, rfl, by decide, by decide, by simp [tot], World.ownsRow_nil _ _ _ _, .inl rfl, by decide, Grown.refl _⟩
      case round =>
        obtain ⟨k, D, c, rfl, rfl, hk, hc, he, hO⟩ := hrel
        have HO := Hid.of hO
        clear hO
        by_cases hlt : k < 40
        · have b1 : (k : Int) < 40 := Int.ofNat_lt.2 hlt
          have d1 : wr.cell? ⟨w.heap.size, k, none⟩ = some (.int .i64 (S k : Nat)) := by
            have := rangeAt_grown HR.out.1 HO.out.gw k _ (sl_get S k hlt); rwa [Nat.zero_add] at this
          have hSk := HS.out k
          have hst := Hid.of (carry_lay HO.out.lt he)
          generalize S k = x at *
          have es : (x : Int) + (c : Int) = ((x + c : Nat) : Int) := by omega
          have hs2 : x + c < 10000000 := by omega
          have hs3 : (x + c) / 256 ≤ 4915200 := by omega
          generalize x + c = s at *
          have q1 := tmods s
          have q2 := tdivs s
          have q3 := u8_of s
          have HL := Hid.of hs3
          clear he hs3 hSk
          go_wp2_with (with_reducible show wpList _ _ _ ({ dst := _, op := Op.call { callee := Callee.builtin Builtin.append, args := _, argTypes := _ }, type := _, pos := _, after := _, guard := _ } :: _) _ _; refine Shut.out ?_)
          show wpList _ _ _ _ _ _
          rw [show ((s : Int) % 256) = ((s % 256 : Nat) : Int) from by simp]
          refine wpList_append_one (W0 := wr2) rfl _ _ rfl Tryd.underlying64 hi1 hi2 hi3 hi4 rfl _ k (yl k D) rfl (HO.out.own.alloc _) ⟨wr.heap.size, 0, none⟩ 1 (.int .u8 ((s % 256 : Nat) : Int)) rfl (by simp [Addr.add]) rfl (Nat.lt_trans hlt (by decide)) (Grown.alloc HO.out.gw _ _) ?_
          intro v' w' ho' hgr hv' hg'
          rw [yl_lay HO.out.lt (Nat.mod_lt _ (by decide))] at ho'
          have HO' := Hid.of (show OX wr2 v' (k + 1) (D + s % 256 * 256 ^ k) w' from ⟨ho', .inr hv', hst.out.1, hg'⟩)
          clear ho' hgr hv' hg' HO d1
          simp only [Act.put, List.setIfInBounds_toArray, List.set_cons_zero, List.set_cons_succ]
          go_wp2
          go_roundw
          case rel => exact ⟨k + 1, D + s % 256 * 256 ^ k, s / 256, by go_num, by simp, hlt, HL.out, hst.out.2, HO'.out⟩
          case measure => simp [intOf]; omega
        · obtain rfl : k = 40 := by omega
          have hc0 : c = 0 := by
            have h1 := HTt.out.2
            rw [← HTt.out.1, ← he] at h1
            exact carry_none h1
          subst hc0
          rw [Nat.zero_mul, Nat.add_zero, HTt.out.1] at he
          subst he
          obtain ⟨g, cp, rfl⟩ := HO.out.sl.resolve_left (by decide)
          have HF := Hid.of (And.intro (owns_range HO.out.own) (grown_trans HR.out.2 HO.out.gw))
          clear HO HR HTt HS
          go_wp2
          go_loopw [10, 11] (fun v10 v11 wr' => v10 = .slice (some ⟨g, 0, none⟩) 40 cp ∧ v11 = .int .i64 0 ∧ wr' = wr) (fun _ _ _ => 0)
          case atStart => exact ⟨rfl, rfl, rfl⟩
          case round =>
            obtain ⟨rfl, rfl, rfl⟩ := hrel
            go_wp2
            go_ret
            exact ⟨⟨_, rfl, g, cp, rfl, HF.out.1⟩, HF.out.2⟩
end Go.Proofs.YteijccjdejjbjaaDoor
