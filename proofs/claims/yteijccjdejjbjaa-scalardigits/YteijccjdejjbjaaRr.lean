import Derived.Test.YteijccjdejjbjaaDt
import Derived.Test.YteijccjdejjbjaaRq
import Derived.Test.YteijccjdejjbjaaAl
import Derived.Deep.DeepCutAuto
namespace Go.Proofs.Yteijccjdejjbjaa
open Go.RowKit Go.Shelf ScalarNum

/-- digits of 8 bits as cells of type int -/
def il (n v : Nat) : List Value := (ds 256 n v).map fun z : Nat => .int .i64 (z : Int)
def iv (n v : Nat) : Value := .agg (il n v).toArray
theorem il_length (n v : Nat) : (il n v).length = n := by simp [il, ds_length]
theorem il_get (n v i : Nat) (h : i < n) : (il n v)[i]? = some (.int .i64 ((dg 256 v i : Nat) : Int)) := by simp [il, ds_get _ _ _ _ h]
theorem il_one (n v : Nat) : ∀ u ∈ il n v, u.oneCell' = true := by
  intro u hu
  simp only [il, List.mem_map] at hu
  obtain ⟨i, _, rfl⟩ := hu
  rfl
theorem il_set {n v k z : Nat} (hz : z < 256) (hk : k < n) : (il n v).set k (.int .i64 (z : Int)) = il n (st 256 v k z) := by
  rw [il, il, ← ds_set (by decide) hz hk, List.map_set]
theorem irange_set {w : World} {b n v : Nat} (h : w.rangeAt b 0 (il n v)) {k z : Nat} (hz : z < 256) (hk : k < n) : (w.setCell ⟨b, k, none⟩ (.int .i64 (z : Int))).rangeAt b 0 (il n (st 256 v k z)) := by
  rw [← il_set hz hk]; exact range_set h k (by rw [il_length]; exact hk) _
theorem il34_zero : (il 34 0).toArray = #[.int .i64 0, .int .i64 0, .int .i64 0, .int .i64 0, .int .i64 0, .int .i64 0, .int .i64 0, .int .i64 0, .int .i64 0, .int .i64 0, .int .i64 0, .int .i64 0, .int .i64 0, .int .i64 0, .int .i64 0, .int .i64 0, .int .i64 0, .int .i64 0, .int .i64 0, .int .i64 0, .int .i64 0, .int .i64 0, .int .i64 0, .int .i64 0, .int .i64 0, .int .i64 0, .int .i64 0, .int .i64 0, .int .i64 0, .int .i64 0, .int .i64 0, .int .i64 0, .int .i64 0, .int .i64 0] := by rfl
/-- the digits, i of them -/
def el (k X i : Nat) : List Value := (List.range i).map fun j => .int .i8 (dn k X j)
theorem el_succ (k X i : Nat) : el k X i ++ [.int .i8 (dn k X i)] = el k X (i + 1) := by simp [el, List.range_succ]
theorem el_full (k X : Nat) : el k X 257 = dl k X 257 := by
  unfold el dl
  apply List.map_congr_left
  intro j hj
  rw [if_pos (by simpa using hj)]

structure NX (w0 : World) (bn : Nat) (v : Value) (k X i cur : Nat) (wr : World) : Prop where
  rn : wr.rangeAt bn 0 (il 34 cur)
  tn : wr.there bn 0 34
  own : wr.ownsRow (bn + 1) 30 1 v i (el k X i)
  sl : i = 0 ∨ ∃ g cap, v = .slice (some ⟨g, 0, none⟩) i cap
  gw : Grown w0 wr
  lb : w0.heap.size ≤ bn
  sz : bn + 1 ≤ wr.heap.size
theorem NX.set {w0 wr : World} {bn k X i cur j z : Nat} {v : Value} (h : NX w0 bn v k X i cur wr) (hz : z < 256) (hj : j < 34) : NX w0 bn v k X i (st 256 cur j z) (wr.setCell ⟨bn, j, none⟩ (.int .i64 (z : Int))) := by
  refine ⟨irange_set h.rn hz hj, there_setCell h.tn _ _, ?_, h.sl, Grown.setCell h.gw h.lb _, h.lb, by simpa [World.setCell] using h.sz⟩
  refine ⟨h.own.1, ?_⟩
  rcases h.own.2 with hn | ⟨g, cap, cur', e, hb, hg, rest⟩
  · exact .inl hn
  · refine .inr ⟨g, cap, cur', e, hb, ?_, rest⟩
    rw [← hg]
    simp only [World.setCell, Array.getElem?_modify]
    rw [if_neg (by show ¬ bn = g; omega)]
theorem NX.drew {w0 wr : World} {bn k X i cur : Nat} {v : Value} (h : NX w0 bn v k X i cur wr) : NX w0 bn v k X i cur wr.drew := ⟨h.rn, h.tn, h.own, h.sl, h.gw, h.lb, h.sz⟩

/-- a digit is appended -/
theorem wpList_append_NX {ops : Array Oper} {rest : List Oper} {o : Oper} {a : Act} {w0 wr : World} {Q : Exit → Act → World → Prop} {bn k X m cur : Nat} {v : Value} (hN : NX w0 bn v k X m cur wr) (hgd : o.guard = none) (s x : Operand)
    (ho : o.op = .call { callee := .builtin .append, args := #[s, x], argTypes := #[25, 25] }) (hs : a.eval s = v) (hx : a.eval x = .slice (some ⟨wr.heap.size, 0, none⟩) 1 1) (hm : m < 257)
    (h : ∀ v' w', NX w0 bn v' k X (m + 1) cur w' → wpList Try.prog ops Q rest (a.put o.dst v') w') : wpList Try.prog ops Q (o :: rest) a (wr.alloc (.cells #[.int .i8 (dn k X m)] 30)) := by
  obtain ⟨ii, hi1, hi2, hi3, hi4⟩ := hI8
  refine wpList_plain hgd fun K hK => ?_
  have hsz1 : (wr.alloc (.cells #[.int .i8 (dn k X m)] 30)).heap.size = wr.heap.size + 1 := by simp
  have g1 : Grown wr (wr.alloc (.cells #[.int .i8 (dn k X m)] 30)) := Grown.alloc (Grown.refl _) _ _
  have hu : (wr.alloc (.cells #[.int .i8 (dn k X m)] 30)).cell? ((⟨wr.heap.size, 0, none⟩ : Addr).add 0) = some (.int .i8 (dn k X m)) := by simp [Addr.add]
  obtain ⟨v', w', hr, h2, h3, h4, h5⟩ := append_one (ty := o.type) Try.underlying25 hi1 hi2 hi3 hi4 rfl (hN.own.alloc (.cells #[.int .i8 (dn k X m)] 30)) ⟨wr.heap.size, 0, none⟩ 1 (.int .i8 (dn k X m)) hu rfl (by omega) (by rw [hsz1]; have := hN.sz; omega)
  rw [el_succ] at h2
  have hb : ∀ b, v.ownBlock = some b → bn + 1 ≤ b := fun b hb => (hN.own.lt b hb).1
  have hbn : (w'.heap[bn]?) = (wr.alloc (.cells #[.int .i8 (dn k X m)] 30)).heap[bn]? := h3.block bn (by rw [hsz1]; have := hN.sz; omega) (fun e => by have := hb bn e.symm; omega)
  have hlb := hN.lb
  have hNX : NX w0 bn v' k X (m + 1) cur w' := by
    refine ⟨?_, ?_, h2, .inr h4, grown_by (grown_trans hN.gw g1) h3 (fun b e => by have := hb b e; omega) h5, hN.lb, ?_⟩
    · intro j u hj
      have h6 := rangeAt_grown hN.rn g1 j u hj
      rw [← h6]
      exact World.cell?_of_block hbn
    · intro j hj
      have h6 := there_grown hN.tn g1 j hj
      refine ⟨?_, ?_⟩
      · rw [show w'.cell? ⟨bn, 0 + j, none⟩ = (wr.alloc (.cells #[.int .i8 (dn k X m)] 30)).cell? ⟨bn, 0 + j, none⟩ from World.cell?_of_block hbn]; exact h6.1
      · rw [h5]; exact h6.2
    · have h7 := h3.size
      rw [hsz1] at h7
      have := hN.sz
      omega
  unfold Oper.wp execOp
  simp only [ho, resolve, invoke, builtin, Sem.run_bind, Sem.run_pure, Result.andThen_ok, List.map_toArray, List.map_cons, List.map_nil, hs, hx, hr]
  exact hK _ _ (h v' w' hNX)

theorem off_word (wd : Nat) (c : Int) (hw : wd < 256) (hc : -128 ≤ c ∧ c ≤ 128) : ((wd : Int) + c < 0 → ∃ r : Nat, (wd : Int) + c + 256 = (r : Int) ∧ r < 256 ∧ (wd : Int) + c = 256 * (-1) + (r : Int)) ∧ (¬ (wd : Int) + c < 0 → ∃ s : Nat, (wd : Int) + c = (s : Int) ∧ s < 512 ∧ (wd : Int) + c = 256 * ((s / 256 : Nat) : Int) + ((s % 256 : Nat) : Int) ∧ s / 256 ≤ 1) := by
  refine ⟨fun h => ⟨((wd : Int) + c + 256).toNat, by omega, by omega, by omega⟩, fun h => ⟨((wd : Int) + c).toNat, by omega, by omega, by omega, by omega⟩⟩
theorem carry_ok {n : Nat} (h : n ≤ 1) : -128 ≤ (n : Int) ∧ (n : Int) ≤ 128 := by omega
theorem tmod256 (q : Nat) : (q : Int).tmod 256 = ((q % 256 : Nat) : Int) := by rw [Int.tmod_eq_emod_of_nonneg (by omega)]; omega
theorem tdiv256 (q : Nat) : (q : Int).tdiv 256 = ((q / 256 : Nat) : Int) := by rw [Int.tdiv_eq_ediv_of_nonneg (by omega)]; omega
theorem i8_of {d : Int} (h : -128 ≤ d ∧ d ≤ 127) : IntKind.i8.wrap d = d ∧ IntKind.i64.wrap (-d) = -d := by rw [wrap8, IntKind.wrap_i64]; omega
theorem nq_big {k X m : Nat} (hk : 2 ≤ k) (hX : X < 2 ^ 256) (hm : m ≤ 256) : nq k (nn k X m) < 256 ^ 34 ∧ nn k X m < 256 ^ 34 := by
  have h1 := nn_le hk hX m hm
  have h2 : 2 ^ (256 - m) ≤ 2 ^ 256 := Nat.pow_le_pow_right (by decide) (by omega)
  have h3 := nq_le (k := 256) hk (Nat.le_trans h1 h2)
  have h4 : (2 : Nat) ^ 256 < 256 ^ 34 := by decide
  omega

set_option maxRecDepth 100000 in
set_option maxHeartbeats 1000000 in
theorem refDigits_bad (X : Nat) (z : Int) (hz : z < 2 ∨ 8 < z) (w : World) :
    Calls Try.prog 9 #[yv 32 X, .int .i64 z] w fun e w' => e = .returned (.tuple #[.slice none 0 0, .int .i64 1]) ∧ Grown w w' := by
  have h0 : Grown w (w.alloc (.cells (yl 32 X).toArray 22)) := Grown.alloc (Grown.refl _) _ _
  have H0 := Hid.of h0
  clear h0
  rw [yv]
  by_cases h : z < 2
  · clear hz
    go_enter Try.func9, Try.ntmps9
    go_wp2
    go_ret2
    exact ⟨rfl, H0.out⟩
  · have h2 : z > 8 := hz.resolve_left h
    clear hz
    go_enter Try.func9, Try.ntmps9
    go_wp2
    go_ret2
    exact ⟨rfl, H0.out⟩

theorem span_step {k i : Nat} (hik : i ≤ k) (hk8 : k ≤ 8) : 2 * ((2 ^ i : Nat) : Int) = ((2 ^ (i + 1) : Nat) : Int) ∧ 2 ^ i ≤ 256 ∧ 2 ^ (i + 1) ≤ 512 := by
  have h1 : 2 ^ i ≤ 2 ^ 8 := Nat.pow_le_pow_right (by decide) (by omega)
  have e : 2 ^ (i + 1) = 2 * 2 ^ i := by rw [Nat.pow_succ]; omega
  rw [e]
  generalize 2 ^ i = H at *
  omega
theorem il_mod (X : Nat) (hX : X < M) : X % 256 ^ 32 = X := Nat.mod_eq_of_lt (by rw [show (256 : Nat) ^ 32 = M from by decide]; exact hX)
theorem by_stepI (n i : Nat) : st 256 (n % 256 ^ i) i (dg 256 n i) = n % 256 ^ (i + 1) := by_step n i

set_option maxRecDepth 100000 in
set_option maxHeartbeats 8000000 in
theorem refDigits_num (X k : Nat) (hX : X < M) (hk : 2 ≤ k) (hk8 : k ≤ 8) (w : World) :
    Calls Try.prog 9 #[yv 32 X, .int .i64 (k : Int)] w fun e w' => (∃ g cap, e = .returned (.tuple #[.slice (some ⟨g, 0, none⟩) 257 cap, .int .i64 0]) ∧ w'.rangeAt g 0 (dl k X 257)) ∧ Grown w w' := by
  obtain ⟨ii, hi1, hi2, hi3, hi4⟩ := hI8
  have hX2 : X < 2 ^ 256 := by rw [← M_256]; exact hX
  have h0 : (w.alloc (.cells (yl 32 X).toArray 22)).rangeAt w.heap.size 0 (yl 32 X) ∧ Grown w (w.alloc (.cells (yl 32 X).toArray 22)) ∧ (w.alloc (.cells (yl 32 X).toArray 22)).heap.size = w.heap.size + 1 := ⟨rangeAt_alloc_new w 22 (yl 32 X), Grown.alloc (Grown.refl _) _ _, by simp⟩
  have b1 : ¬ (k : Int) < 2 := by omega
  have b2 : ¬ (8 : Int) < (k : Int) := by omega
  have HX := Hid.of (And.intro hX hX2)
  clear hX hX2
  rw [yv]
  go_enter Try.func9, Try.ntmps9
  go_wp2
  generalize (w.alloc (.cells (yl 32 X).toArray 22)) = W0 at *
  have H0 := Hid.of h0
  clear h0
  go_loopw [6, 7] (fun v6 v7 wr => ∃ i : Nat, v7 = .int .i64 (i : Int) ∧ v6 = .int .i64 ((2 ^ i : Nat) : Int) ∧ i ≤ k ∧ wr = W0) (fun _ v7 _ => k - (intOf v7).toNat)
  case atStart => exact ⟨0, rfl, rfl, Nat.zero_le _, rfl⟩
  case round =>
    obtain ⟨i, rfl, rfl, hik, hwr⟩ := hrel
    subst hwr
    obtain ⟨p1, p2, p3⟩ := span_step hik hk8
    by_cases hlt : i < k
    · have b3 : (i : Int) < (k : Int) := Int.ofNat_lt.2 hlt
      generalize h2 : 2 ^ (i + 1) = H2' at *
      have HH := Hid.of h2
      clear h2
      generalize 2 ^ i = H1' at *
      go_wp2
      go_roundw
      case rel => exact ⟨i + 1, by go_num, by rw [HH.out], by omega, by first | rfl | trivial⟩
      case measure => simp [intOf]; omega
    · have hik2 : i = k := by omega
      subst hik2
      clear p1 p3 hik hlt
      obtain ⟨q1, q2, q3⟩ := pow_half hk hk8
      have HQ := Hid.of q1
      have h9 : (wr.alloc (Obj.cells (il 34 0).toArray 41)).rangeAt wr.heap.size 0 (il 34 0) ∧ (wr.alloc (Obj.cells (il 34 0).toArray 41)).there wr.heap.size 0 34 ∧ Grown wr (wr.alloc (Obj.cells (il 34 0).toArray 41)) ∧ (wr.alloc (Obj.cells (il 34 0).toArray 41)).heap.size = wr.heap.size + 1 :=
        ⟨rangeAt_alloc_new wr 41 (il 34 0), there_alloc_new wr 41 (il 34 0).toArray 34 (by rw [List.size_toArray, il_length]; exact Nat.le_refl _), Grown.alloc (Grown.refl _) _ _, by simp⟩
      clear q1
      generalize hsp : 2 ^ i = SP at *
      have HSP := Hid.of hsp
      clear hsp
      go_wp2
      rw [← il34_zero]
      have HS9 := Hid.of h9.2.2.2
      have hbs : wr.heap.size = w.heap.size + 1 := H0.out.2.2
      have H9 := Hid.of (show (wr.alloc (Obj.cells (il 34 0).toArray 41)).rangeAt w.heap.size 0 (yl 32 X) ∧ (wr.alloc (Obj.cells (il 34 0).toArray 41)).rangeAt wr.heap.size 0 (il 34 (X % 256 ^ 0)) ∧ (wr.alloc (Obj.cells (il 34 0).toArray 41)).there wr.heap.size 0 34 ∧ Grown w (wr.alloc (Obj.cells (il 34 0).toArray 41)) ∧ (wr.alloc (Obj.cells (il 34 0).toArray 41)).heap.size = wr.heap.size + 1 from ⟨rangeAt_grown H0.out.1 h9.2.2.1, by rw [Nat.pow_zero, Nat.mod_one]; exact h9.1, h9.2.1, grown_trans H0.out.2.1 h9.2.2.1, h9.2.2.2⟩)
      clear h9 H0 HS9
      generalize wr.alloc (Obj.cells (il 34 0).toArray 41) = W9 at *
      generalize wr.heap.size = bn at *
      have HBS := Hid.of hbs
      clear hbs
      go_loopw [9] (fun v9 wr => ∃ j : Nat, v9 = .int .i64 (j : Int) ∧ j ≤ 32 ∧ wr.rangeAt w.heap.size 0 (yl 32 X) ∧ wr.rangeAt bn 0 (il 34 (X % 256 ^ j)) ∧ wr.there bn 0 34 ∧ Grown w wr ∧ wr.heap.size = bn + 1) (fun v9 _ => 32 - (intOf v9).toNat)
      case atStart => exact ⟨0, rfl, by decide, H9.out⟩
      case round =>
        obtain ⟨j, rfl, hj, ra, rn, tn, gw, sz⟩ := hrel
        clear H9
        by_cases hjt : j < 32
        · have c1 : wr.cell? ⟨w.heap.size, j, none⟩ = some (.int .u8 (dg 256 X j : Nat)) := by
            have := ra j _ (yl_get 32 X j hjt); rwa [Nat.zero_add] at this
          have d3 := rn j _ (il_get 34 _ j (by omega))
          rw [Nat.zero_add] at d3
          generalize (Value.int IntKind.i64 (dg 256 (X % 256 ^ j) j : Nat)) = u0 at d3
          have d2 : wr.frozen? ⟨bn, j, none⟩ = false := by
            have := (tn j (by omega)).2; rwa [Nat.zero_add] at this
          have hl2 := by_stepI X j
          have hw : dg 256 X j < 256 := dg_lt (by decide)
          have e1 := w64s _ hw
          generalize dg 256 X j = wd at *
          have b2 : (j : Int) < 32 := Int.ofNat_lt.2 hjt
          have HY := Hid.of (And.intro hl2 (And.intro ra (And.intro rn (And.intro tn (And.intro gw sz)))))
          clear hl2 ra rn tn gw sz
          go_wp2
          go_roundw
          case rel =>
            obtain ⟨hl2, ra, rn, tn, gw, sz⟩ := HY.out
            have hbs := HBS.out
            have r1 := irange_set rn hw (show j < 34 by omega)
            rw [hl2] at r1
            exact ⟨j + 1, by go_num, by omega, range_put ra _ _ (by omega) _, r1, there_setCell tn _ _, Grown.setCell gw (by show _ ≤ bn; omega) _, by simpa [World.setCell] using sz⟩
          case measure => simp [intOf]; omega
        · have hj3 : j = 32 := by omega
          subst hj3
          rw [il_mod X HX.out.1] at rn
          have hbs := HBS.out
          have HN0 := Hid.of (show NX w bn (.slice none 0 0) i X 0 (nn i X 0) wr from ⟨rn, tn, World.ownsRow_nil _ _ _ _, .inl rfl, gw, by omega, by omega⟩)
          clear ra rn tn gw sz hj hjt hbs
          go_wp2
          go_loopw [10, 11] (fun v10 v11 wr => ∃ m : Nat, v11 = .int .i64 (m : Int) ∧ m ≤ 257 ∧ NX w bn v10 i X m (nn i X m) wr) (fun _ v11 _ => 257 - (intOf v11).toNat)
          case atStart => exact ⟨0, rfl, by decide, HN0.out⟩
          case round =>
            obtain ⟨m, rfl, hm, hN⟩ := hrel
            clear HN0
            by_cases hmt : m < 257
            · have b3 : (m : Int) < 257 := Int.ofNat_lt.2 hmt
              have hd := dn_i8 (X := X) (i := m) hk hk8
              obtain ⟨i1, i2⟩ := i8_of hd
              have hnb := nq_big (m := m) hk HX.out.2 (by omega)
              have hnq := nq_eq i (nn i X m)
              have HNQ := Hid.of (And.intro hnb (And.intro hnq (show nn i X (m + 1) = nq i (nn i X m) / 2 from rfl)))
              have c1 : wr.cell? ⟨bn, 0, none⟩ = some (.int .i64 (dg 256 (nn i X m) 0 : Nat)) := hN.rn 0 _ (il_get 34 _ 0 (by decide))
              have HN := Hid.of hN
              have t1 : ((dg 256 (nn i X m) 0 : Nat) : Int) % 2 = ((dg 256 (nn i X m) 0 % 2 : Nat) : Int) := by simp
              have t2 : ((dg 256 (nn i X m) 0 : Nat) : Int) % (SP : Int) = ((dg 256 (nn i X m) 0 % SP : Nat) : Int) := by simp
              rw [byte_two] at t1
              have hsp2 := byte_mod (nn i X m) i hk8
              rw [HSP.out] at hsp2
              rw [hsp2] at t2
              have hrd := fun ho => ref_digit (N := nn i X m) (k := i) hk ho
              rw [HSP.out] at hrd
              have hzi := nd_zero_iff (k := i) (N := nn i X m) (by omega)
              have hen : nn i X m % SP < SP := Nat.mod_lt _ (by omega)
              have hpb : nn i X m % 2 < 2 := Nat.mod_lt _ (by decide)
              have hq : (SP : Int) / 2 = ((2 ^ (i - 1) : Nat) : Int) := by rw [← HQ.out, Int.tdiv_eq_ediv_of_nonneg (by omega)]
              generalize nn i X m % 2 = pb at *
              generalize nn i X m % SP = en at *
              generalize 2 ^ (i - 1) = H at *
              have HRD := Hid.of (And.intro hrd hzi)
              clear hN hnb hnq hsp2 hrd hzi
              generalize dg 256 (nn i X m) 0 = n0 at *
              go_upto_if 47 with (fail)
              go_cut [12] (fun v12 wc => v12 = .int .i64 (dn i X m) ∧ wc = wr)
              case first =>
                by_cases hev : pb = 0
                · subst hev
                  have HD := Hid.of (show dn i X m = 0 from HRD.out.2.2 rfl)
                  clear t2 hq
                  go_wp2
                  go_meet
                  case rel => exact ⟨by rw [HD.out], rfl⟩
                · have ho1 : pb = 1 := by omega
                  subst ho1
                  obtain ⟨r1, r2⟩ := HRD.out.1 hev
                  clear hev
                  by_cases hgt : H < en
                  · have HD := Hid.of (show dn i X m = (en : Int) - (SP : Int) from r1 hgt)
                    have hgi : (H : Int) < (en : Int) := Int.ofNat_lt.2 hgt
                    clear r1 r2 hgt
                    go_wp2
                    go_meet
                    case rel => exact ⟨by rw [HD.out], rfl⟩
                  · have HD := Hid.of (show dn i X m = (en : Int) from r2 hgt)
                    have hgi : ¬ (H : Int) < (en : Int) := fun h => hgt (Int.ofNat_lt.1 h)
                    clear r1 r2 hgt
                    go_wp2
                    go_meet
                    case rel => exact ⟨by rw [HD.out], rfl⟩
              case rest =>
                obtain ⟨e12, ewc⟩ := hcut
                subst e12
                subst ewc
                clear c1 t1 t2 hq HRD hpb hen
                go_wp2_with (with_reducible show wpList _ _ _ ({ dst := _, op := Op.call { callee := Callee.builtin Builtin.append, args := _, argTypes := _ }, type := _, pos := _, after := _, guard := _ } :: _) _ _; refine Shut.out ?_)
                show wpList _ _ _ _ _ _
                refine wpList_append_NX HN.out rfl _ _ rfl rfl rfl hmt ?_
                intro v' w' hN2
                simp only [Act.put, List.setIfInBounds_toArray, List.set_cons_zero, List.set_cons_succ]
                have HN2 := Hid.of hN2
                clear hN2 HN
                have HD := Hid.of (show dn i X m = nd i (nn i X m) from rfl)
                have HDd := Hid.of (show ((nq i (nn i X m) : Nat) : Int) = ((nn i X m : Nat) : Int) + (-(dn i X m)) by rw [HNQ.out.2.1]; show _ = _ + -(nd i (nn i X m)); omega)
                obtain ⟨⟨hQb, hNb⟩, _, hnn⟩ := HNQ.out
                have HB := Hid.of (And.intro hQb (And.intro hNb hnn))
                clear HNQ hQb hNb hnn HD
                generalize nq i (nn i X m) = Qn at *
                generalize dn i X m = d at *
                go_wp2
                go_loopw [13, 14] (fun v13 v14 wr => ∃ (j cur : Nat) (c : Int), v14 = .int .i64 (j : Int) ∧ v13 = .int .i64 c ∧ j ≤ 34 ∧ (-128 ≤ c ∧ c ≤ 128) ∧ (cur : Int) + c * ((256 ^ j : Nat) : Int) = (Qn : Int) ∧ cur < 256 ^ 34 ∧ NX w bn v' i X (m + 1) cur wr) (fun _ v14 _ => 34 - (intOf v14).toNat)
                case atStart => exact ⟨0, nn i X m, -d, rfl, rfl, by decide, by omega, by rw [HDd.out, Nat.pow_zero]; simp, HB.out.2.1, HN2.out⟩
                case round =>
                  obtain ⟨j, cur, c, rfl, rfl, hj, hc, he, hcur, hX2⟩ := hrel
                  clear HN2
                  by_cases hjt : j < 34
                  · have b4 : (j : Int) < 34 := Int.ofNat_lt.2 hjt
                    have d1 : wr.cell? ⟨bn, j, none⟩ = some (.int .i64 (dg 256 cur j : Nat)) := by
                      have := hX2.rn j _ (il_get 34 cur j hjt); rwa [Nat.zero_add] at this
                    have d2 : wr.frozen? ⟨bn, j, none⟩ = false := by
                      have := (hX2.tn j hjt).2; rwa [Nat.zero_add] at this
                    have hw : dg 256 cur j < 256 := dg_lt (by decide)
                    have hoff := fun (q : Int) (r : Nat) (hv : ((dg 256 cur j : Nat) : Int) + c = 256 * q + (r : Int)) => off_step he hv
                    have hst2 := fun z (hz : z < 256) => st_lt (b := 256) (n := 34) (v := cur) (k := j) (z := z) (by decide) hz hjt hcur
                    have hset := fun z (hz : z < 256) => hX2.set hz hjt
                    have HS := Hid.of (And.intro hoff (And.intro hst2 hset))
                    clear hoff hst2 hset he hcur hX2
                    generalize dg 256 cur j = wd at *
                    obtain ⟨o1, o2⟩ := off_word wd c hw hc
                    by_cases hneg : (wd : Int) + c < 0
                    · obtain ⟨r, hr1, hr2, hr3⟩ := o1 hneg
                      have HR := Hid.of hr3
                      clear o1 o2 hr3
                      obtain ⟨V, hV⟩ : ∃ V, (wd : Int) + c = V := ⟨_, rfl⟩
                      rw [hV] at hneg hr1
                      have HV := Hid.of hV
                      have bV : -128 ≤ V ∧ V ≤ 383 := by omega
                      have q1 := tmod256 r
                      have q2 := tdiv256 r
                      rw [Nat.mod_eq_of_lt hr2] at q1
                      rw [Nat.div_eq_of_lt hr2] at q2
                      go_wp2
                      go_loopw [13, 15] (fun v13 v15 wr2 => wr2 = wr ∧ ((v13 = .int .i64 0 ∧ v15 = .int .i64 V) ∨ (v13 = .int .i64 (-1) ∧ v15 = .int .i64 (r : Int)))) (fun _ v15 _ => if intOf v15 < 0 then 1 else 0)
                      case atStart => exact ⟨rfl, .inl ⟨rfl, rfl⟩⟩
                      case round =>
                        obtain ⟨hwr, ⟨rfl, rfl⟩ | ⟨rfl, rfl⟩⟩ := hrel
                        · subst hwr
                          go_wp2
                          go_roundw
                          case rel => exact ⟨by first | rfl | trivial, .inr ⟨rfl, rfl⟩⟩
                          case measure =>
                            simp [intOf, hneg]
                            exact if_neg (Int.not_lt.2 (Int.natCast_nonneg r))
                        · subst hwr
                          have hri : (r : Int) < 256 := Int.ofNat_lt.2 hr2
                          go_wp2
                          go_roundw
                          case rel =>
                            obtain ⟨hoff, hst2, hset⟩ := HS.out
                            exact ⟨j + 1, st 256 cur j r, -1, by go_num, rfl, by omega, by decide, hoff (-1) r HR.out, hst2 r hr2, hset r hr2⟩
                          case measure => simp [intOf]; omega
                    · obtain ⟨s, hs1, hs2, hs3, hs4⟩ := o2 hneg
                      have HR := Hid.of hs3
                      clear o1 o2 hs3
                      obtain ⟨V, hV⟩ : ∃ V, (wd : Int) + c = V := ⟨_, rfl⟩
                      rw [hV] at hneg hs1
                      have bV : 0 ≤ V ∧ V ≤ 511 := by omega
                      have q1 : V.tmod 256 = ((s % 256 : Nat) : Int) := by rw [hs1]; exact tmod256 s
                      have q2 : V.tdiv 256 = ((s / 256 : Nat) : Int) := by rw [hs1]; exact tdiv256 s
                      have q3 : V % 256 = ((s % 256 : Nat) : Int) := by rw [hs1]; simp
                      have q4 : V / 256 = ((s / 256 : Nat) : Int) := by rw [hs1]; simp
                      have hm256 : s % 256 < 256 := Nat.mod_lt _ (by decide)
                      clear hs1 hs2
                      generalize s % 256 = r1 at *
                      generalize s / 256 = c1 at *
                      go_wp2
                      go_loopw [13, 15] (fun v13 v15 wr2 => wr2 = wr ∧ ((v13 = .int .i64 0 ∧ v15 = .int .i64 V) ∨ (v13 = .int .i64 (-1) ∧ v15 = .int .i64 (-1) ∧ False))) (fun _ v15 _ => if intOf v15 < 0 then 1 else 0)
                      case atStart => exact ⟨rfl, .inl ⟨rfl, rfl⟩⟩
                      case round =>
                        obtain ⟨hwr, ⟨rfl, rfl⟩ | ⟨_, _, hF⟩⟩ := hrel
                        rotate_left
                        · exact hF.elim
                        subst hwr
                        go_wp2
                        go_roundw
                        case rel =>
                          obtain ⟨hoff, hst2, hset⟩ := HS.out
                          first
                            | exact ⟨j + 1, st 256 cur j r1, (c1 : Int), by go_num, rfl, by omega, carry_ok hs4, hoff _ _ HR.out, hst2 _ hm256, hset r1 hm256⟩
                            | exact ⟨_, _, _, _, _, _, _, _, _, _, _, _, _, _, _, _, _, _, _, _, _, _, _, _, _, _, ⟨j + 1, st 256 cur j r1, (c1 : Int), rfl, rfl, by omega, carry_ok hs4, hoff _ _ HR.out, hst2 _ hm256, hset r1 hm256⟩, rfl⟩
                        case measure => simp [intOf]; omega
                  · have hj4 : j = 34 := by omega
                    subst hj4
                    have ec := off_end he hcur HB.out.1
                    subst ec
                    have HX3 := Hid.of hX2
                    clear he hcur hX2 hc hj hjt HDd
                    go_wp2
                    go_loopw [16] (fun v16 wr => ∃ j c2 : Nat, v16 = .int .i64 (j : Int) ∧ j ≤ 33 ∧ c2 / 256 ^ j = cur / 256 ^ j ∧ c2 % 256 ^ j = cur / 2 % 256 ^ j ∧ c2 < 256 ^ 34 ∧ NX w bn v' i X (m + 1) c2 wr) (fun v16 _ => 33 - (intOf v16).toNat)
                    case atStart => exact ⟨0, cur, rfl, by decide, rfl, by rw [Nat.pow_zero, Nat.mod_one, Nat.mod_one], HB.out.1, HX3.out⟩
                    case round =>
                      obtain ⟨j, c2, rfl, hj, h1, h2, hc2, hX2⟩ := hrel
                      clear HX3
                      have hj34 : j < 34 := by omega
                      obtain ⟨e1, e2, e3, e4, e5⟩ := half_step h1 h2
                      have d1 : wr.cell? ⟨bn, j, none⟩ = some (.int .i64 (dg 256 cur j : Nat)) := by
                        have := hX2.rn j _ (il_get 34 c2 j hj34); rwa [Nat.zero_add, e1] at this
                      have d2 : wr.frozen? ⟨bn, j, none⟩ = false := by
                        have := (hX2.tn j hj34).2; rwa [Nat.zero_add] at this
                      have hst2 := st_lt (b := 256) (n := 34) (v := c2) (k := j) (z := dg 256 cur j / 2 + dg 256 cur (j + 1) % 2 * 128) (by decide) e3 hj34 hc2
                      have hset := hX2.set e3 hj34
                      have w1 : dg 256 cur j < 256 := dg_lt (by decide)
                      have w2 : dg 256 cur (j + 1) < 256 := dg_lt (by decide)
                      by_cases hjt : j < 33
                      · have b4 : (j : Int) < 33 := Int.ofNat_lt.2 hjt
                        have d4 : wr.cell? ⟨bn, j + 1, none⟩ = some (.int .i64 (dg 256 cur (j + 1) : Nat)) := by
                          have := hX2.rn (j + 1) _ (il_get 34 c2 (j + 1) (by omega)); rwa [Nat.zero_add, e2] at this
                        have HS := Hid.of (And.intro e4 (And.intro e5 (And.intro hst2 hset)))
                        clear e1 e2 e3 e4 e5 h1 h2 hst2 hset hX2 hc2
                        generalize dg 256 cur (j + 1) = y1 at *
                        generalize dg 256 cur j = y0 at *
                        go_wp2
                        go_region
                        go_wp2
                        go_roundw
                        case rel =>
                          obtain ⟨e4, e5, hst2, hset⟩ := HS.out
                          rw [show ((y0 / 2 + y1 % 2 * 128 : Nat) : Int) = (y0 : Int) / 2 + (y1 : Int) % 2 * 128 from by simp] at hset
                          exact ⟨j + 1, _, by go_num, by omega, e4, e5, hst2, hset.drew⟩
                        case measure => simp [intOf]; omega
                      · have hj3 : j = 33 := by omega
                        subst hj3
                        have hz : dg 256 cur (33 + 1) = 0 := by
                          unfold dg
                          rw [Nat.div_eq_of_lt HB.out.1, Nat.zero_mod]
                        have hzz : dg 256 cur 33 / 2 + dg 256 cur (33 + 1) % 2 * 128 = dg 256 cur 33 / 2 := by rw [hz, Nat.zero_mod, Nat.zero_mul, Nat.add_zero]
                        rw [hzz] at e3 e5 hst2 hset
                        have hfin : st 256 c2 33 (dg 256 cur 33 / 2) = cur / 2 := by
                          rw [Nat.mod_eq_of_lt hst2, Nat.mod_eq_of_lt (Nat.lt_of_le_of_lt (Nat.div_le_self _ _) HB.out.1)] at e5
                          exact e5
                        rw [hfin, ← HB.out.2.2] at hset
                        have HS := Hid.of hset
                        clear e1 e2 e3 e4 e5 h1 h2 hst2 hset hX2 hc2 hz hzz hfin w2
                        generalize dg 256 cur 33 = y0 at *
                        go_wp2
                        try rw [show ((y0 : Int) / 2) = ((y0 / 2 : Nat) : Int) from by simp]
                        go_roundw
                        case rel => exact ⟨m + 1, by go_num, by omega, by
                          have h := HS.out
                          first | exact h | (rw [show ((y0 / 2 : Nat) : Int) = (y0 : Int) / 2 from by simp] at h; exact h)⟩
                        case measure => simp [intOf]; omega
            · have hm7 : m = 257 := by omega
              subst hm7
              have HN := Hid.of hN
              obtain ⟨g, cap, rfl⟩ := hN.sl.resolve_left (by decide)
              clear hN
              go_wp2
              go_ret2
              have hr := owns_range HN.out.own
              rw [el_full] at hr
              exact ⟨⟨g, cap, rfl, hr⟩, HN.out.gw⟩
end Go.Proofs.Yteijccjdejjbjaa
