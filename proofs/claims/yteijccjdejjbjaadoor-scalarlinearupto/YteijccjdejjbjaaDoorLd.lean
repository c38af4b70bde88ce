import Derived.Test.YteijccjdejjbjaaDoorFr
import Derived.BigRegion
namespace Go.Proofs.YteijccjdejjbjaaDoor
open Go.RowKit Go.Shelf ScalarNum

theorem Hid.of {q : Prop} (h : q) : Hid q := h

/-- numbers as values -/
def wv (k n : Nat) : Value := .agg (wl k n).toArray
def yv (k n : Nat) : Value := .agg (yl k n).toArray

theorem info32 : (Tryd.prog.info? 23).map (·.size) = some 32 := by kernel_rfl
theorem infoN : (Tryd.prog.info? 62).map (·.size) = some 4 := by kernel_rfl

theorem wl4_zero : wl 4 0 = [.int .u64 0, .int .u64 0, .int .u64 0, .int .u64 0] := by rfl

theorem wpList_loadN {ops : Array Oper} {rest : List Oper} {op : Oper} {a : Act} {w : World} {Q : Exit → Act → World → Prop} (hgd : op.guard = none) (x : Operand) (ho : op.op = .load 62 x)
    (b : Nat) (hx : a.eval x = .pointer (some ⟨b, 0, none⟩)) (n : Nat) (hc : w.rangeAt b 0 (wl 4 n))
    (h : wpList Tryd.prog ops Q rest (a.put op.dst (wv 4 n)) w) : wpList Tryd.prog ops Q (op :: rest) a w :=
  wpList_load_mid hgd 62 x ho b 0 hx (wl 4 n) _ hc Tryd.underlying62 rfl (by rw [wl_length]; exact infoN) h
theorem wpList_storeN {ops : Array Oper} {rest : List Oper} {op : Oper} {a : Act} {w : World} {Q : Exit → Act → World → Prop} (hgd : op.guard = none) (x y : Operand) (ho : op.op = .store 62 x y)
    (b n : Nat) (hx : a.eval x = .pointer (some ⟨b, 0, none⟩)) (hy : a.eval y = wv 4 n) (ht : w.there b 0 4)
    (h : wpList Tryd.prog ops Q rest (a.put op.dst undef) (w.setCells b 0 (wl 4 n))) : wpList Tryd.prog ops Q (op :: rest) a w :=
  wpList_store_mid hgd 62 x y ho b 0 (wl 4 n).toArray hx hy (by rw [show (wl 4 n).toArray.size = 4 from by rw [List.size_toArray, wl_length]]; exact ht) (by rw [List.size_toArray, wl_length]; exact infoN) (all_oneCell_toArray (wl_one 4 n)) h
theorem wpList_load32 {ops : Array Oper} {rest : List Oper} {op : Oper} {a : Act} {w : World} {Q : Exit → Act → World → Prop} (hgd : op.guard = none) (x : Operand) (ho : op.op = .load 23 x)
    (b : Nat) (hx : a.eval x = .pointer (some ⟨b, 0, none⟩)) (n : Nat) (hc : w.rangeAt b 0 (yl 32 n))
    (h : wpList Tryd.prog ops Q rest (a.put op.dst (yv 32 n)) w) : wpList Tryd.prog ops Q (op :: rest) a w :=
  wpList_load_mid hgd 23 x ho b 0 hx (yl 32 n) _ hc Tryd.underlying23 rfl (by rw [yl_length]; exact info32) h
theorem wpList_store32 {ops : Array Oper} {rest : List Oper} {op : Oper} {a : Act} {w : World} {Q : Exit → Act → World → Prop} (hgd : op.guard = none) (x y : Operand) (ho : op.op = .store 23 x y)
    (b n : Nat) (hx : a.eval x = .pointer (some ⟨b, 0, none⟩)) (hy : a.eval y = yv 32 n) (ht : w.there b 0 32)
    (h : wpList Tryd.prog ops Q rest (a.put op.dst undef) (w.setCells b 0 (yl 32 n))) : wpList Tryd.prog ops Q (op :: rest) a w :=
  wpList_store_mid hgd 23 x y ho b 0 (yl 32 n).toArray hx hy (by rw [show (yl 32 n).toArray.size = 32 from by rw [List.size_toArray, yl_length]]; exact ht) (by rw [List.size_toArray, yl_length]; exact info32) (all_oneCell_toArray (yl_one 32 n)) h
theorem result32 {fn : Func} {q : Tmp} (h : fn.results = #[.cell q 23]) (tmps : Array Value) (w : World) (b n : Nat)
    (hp : tmps.getD q undef = .pointer (some ⟨b, 0, none⟩)) (hc : w.rangeAt b 0 (yl 32 n)) : (results fn tmps).run Tryd.prog w = .ok (yv 32 n) w := by
  have hp' : tmps[q]?.getD undef = .pointer (some ⟨b, 0, none⟩) := by simpa using hp
  simp [results, h, hp', asAddr, run_loadVar_mid w b 0 23 (yl 32 n) _ hc Tryd.underlying23 rfl (by rw [yl_length]; exact info32), yv]
theorem resultN {fn : Func} {q : Tmp} (h : fn.results = #[.cell q 62]) (tmps : Array Value) (w : World) (b n : Nat)
    (hp : tmps.getD q undef = .pointer (some ⟨b, 0, none⟩)) (hc : w.rangeAt b 0 (wl 4 n)) : (results fn tmps).run Tryd.prog w = .ok (wv 4 n) w := by
  have hp' : tmps[q]?.getD undef = .pointer (some ⟨b, 0, none⟩) := by simpa using hp
  simp [results, h, hp', asAddr, run_loadVar_mid w b 0 62 (wl 4 n) _ hc Tryd.underlying62 rfl (by rw [wl_length]; exact infoN), wv]
theorem grown_setCells {W : World} {b : Nat} (hb : W.heap.size ≤ b) : ∀ (vs : List Value) (o : Nat) {w' : World}, Grown W w' → Grown W (w'.setCells b o vs)
  | [], _, _, h => h
  | v :: r, o, _, h => grown_setCells hb r (o + 1) (Grown.setCell h hb v)

theorem or_nat (a b k : Nat) (ha : a < 2 ^ k) (hb : b * 2 ^ k + a < B) : bits .or .u64 (a : Int) (IntKind.u64.wrap ((b : Int) * 2 ^ k)) = ((b * 2 ^ k + a : Nat) : Int) := by
  have e : ((b : Int) * 2 ^ k) = ((b * 2 ^ k : Nat) : Int) := by simp
  have h1 : b * 2 ^ k < 18446744073709551616 := Nat.lt_of_le_of_lt (Nat.le_add_right _ _) hb
  have h2 : a < 18446744073709551616 := Nat.lt_of_le_of_lt (Nat.le_add_left _ _) hb
  rw [e, IntKind.wrap_u64, show ((b * 2 ^ k : Nat) : Int) % 18446744073709551616 = ((b * 2 ^ k : Nat) : Int) by omega]
  rw [bits_or_u64_nat a (b * 2 ^ k) (by omega) (by omega)]
  have h := Nat.two_pow_add_eq_or_of_lt ha b
  rw [Nat.or_comm, Nat.mul_comm b, ← h]

structure LX (w0 : World) (n i : Nat) (wr : World) : Prop where
  rb : wr.rangeAt w0.heap.size 0 (yl 32 n)
  tr : wr.there (w0.heap.size + 1) 0 4
  rx : wr.rangeAt (w0.heap.size + 1 + 1) 0 (wl 4 (n % 256 ^ i))
  tx : wr.there (w0.heap.size + 1 + 1) 0 4
  gw : Grown w0 wr

set_option maxRecDepth 100000 in
set_option maxHeartbeats 4000000 in
theorem load_num (n : Nat) (hn : n < M) (w : World) : Calls Tryd.prog 39 #[yv 32 n] w fun e w' => e = .returned (wv 4 n) ∧ Grown w w' := by
  rw [yv]
  go_enter Tryd.func39, Tryd.ntmps39
  go_wp2
  have h0 : LX w n 0 (((w.alloc (Obj.cells (yl 32 n).toArray 23)).alloc (Obj.cells #[Value.int IntKind.u64 0, Value.int IntKind.u64 0, Value.int IntKind.u64 0, Value.int IntKind.u64 0] 62)).alloc (Obj.cells #[Value.int IntKind.u64 0, Value.int IntKind.u64 0, Value.int IntKind.u64 0, Value.int IntKind.u64 0] 62)) := by
    have z : (#[Value.int IntKind.u64 0, Value.int IntKind.u64 0, Value.int IntKind.u64 0, Value.int IntKind.u64 0] : Array Value) = (wl 4 (n % 256 ^ 0)).toArray := by
      rw [Nat.pow_zero, Nat.mod_one, wl4_zero]
    rw [z]
    have g1 : ∀ (w : World) (t : TypeId) (a : Array Value), Grown w (w.alloc (.cells a t)) := fun w t a => Grown.alloc (Grown.refl _) _ _
    have s1 : (w.alloc (.cells (yl 32 n).toArray 23)).heap.size = w.heap.size + 1 := by simp
    have b1 := rangeAt_alloc_new w 23 (yl 32 n)
    generalize hV1 : w.alloc (.cells (yl 32 n).toArray 23) = V1 at *
    have gV1 : Grown w V1 := hV1 ▸ g1 _ _ _
    have s2 : (V1.alloc (.cells (wl 4 (n % 256 ^ 0)).toArray 62)).heap.size = w.heap.size + 1 + 1 := by simp [s1]
    have b2 := there_alloc_new V1 62 (wl 4 (n % 256 ^ 0)).toArray 4 (by rw [List.size_toArray, wl_length]; exact Nat.le_refl _)
    rw [s1] at b2
    generalize hV2 : V1.alloc (.cells (wl 4 (n % 256 ^ 0)).toArray 62) = V2 at *
    have gV2 : Grown V1 V2 := hV2 ▸ g1 _ _ _
    have b3 := rangeAt_alloc_new V2 62 (wl 4 (n % 256 ^ 0))
    have b4 := there_alloc_new V2 62 (wl 4 (n % 256 ^ 0)).toArray 4 (by rw [List.size_toArray, wl_length]; exact Nat.le_refl _)
    rw [s2] at b3 b4
    exact ⟨rangeAt_grown (rangeAt_grown b1 gV2) (g1 _ _ _), there_grown b2 (g1 _ _ _), b3, b4, grown_trans (grown_trans gV1 gV2) (g1 _ _ _)⟩
  generalize (((w.alloc (Obj.cells (yl 32 n).toArray 23)).alloc (Obj.cells #[Value.int IntKind.u64 0, Value.int IntKind.u64 0, Value.int IntKind.u64 0, Value.int IntKind.u64 0] 62)).alloc (Obj.cells #[Value.int IntKind.u64 0, Value.int IntKind.u64 0, Value.int IntKind.u64 0, Value.int IntKind.u64 0] 62)) = W0 at *
  go_loopw [5] (fun v5 wr => ∃ i : Nat, v5 = .int .i64 (i : Int) ∧ i ≤ 32 ∧ LX w n i wr) (fun v5 _ => 32 - (intOf v5).toNat)
  case atStart => exact ⟨0, rfl, by decide, h0⟩
  case round =>
    obtain ⟨i, rfl, hi, hL⟩ := hrel
    clear h0
    obtain ⟨rb, tr, rx, tx, gw⟩ := hL
    by_cases hlt : i < 32
    · have c1 : wr.cell? ⟨w.heap.size, i, none⟩ = some (.int .u8 (dg 256 n i : Nat)) := by
        have := rb i _ (yl_get 32 n i hlt); rwa [Nat.zero_add] at this
      have c2 : wr.cell? ⟨w.heap.size + 1 + 1, i / 8, none⟩ = some (.int .u64 (dg B (n % 256 ^ i) (i / 8) : Nat)) := by
        have := rx (i / 8) _ (wl_get 4 _ (i / 8) (by omega)); rwa [Nat.zero_add] at this
      have c3 : wr.frozen? ⟨w.heap.size + 1 + 1, i / 8, none⟩ = false := by
        have := (tx (i / 8) (by omega)).2; rwa [Nat.zero_add] at this
      obtain ⟨l1, l2, l3⟩ := ld_step n i
      have hb0 : dg 256 n i < 256 := dg_lt (by decide)
      generalize dg 256 n i = bt at *
      generalize dg B (n % 256 ^ i) (i / 8) = wd at *
      have b1 : (i : Int) < 32 := by omega
      have H1 := Hid.of l1
      have H2 := Hid.of l2
      have H3 := Hid.of l3
      have H4 := Hid.of rx
      have H5 := Hid.of tx
      have H6 := Hid.of rb
      have H7 := Hid.of tr
      have H8 := Hid.of gw
      clear l1 l2 l3 rx tx rb tr gw
      go_wp2
      go_region
      rw [or_nat _ _ _ H1.out H2.out]
      go_wp2
      go_roundw
      case rel =>
        refine ⟨i + 1, by go_num, by omega, ?_⟩
        have r1 := wrange_set H4.out H2.out (show i / 8 < 4 by omega)
        rw [H3.out] at r1
        exact ⟨range_put H6.out _ _ (by omega) _, there_setCell H7.out _ _, r1, there_setCell H5.out _ _, Grown.setCell H8.out (by show _ ≤ w.heap.size + 1 + 1; omega) _⟩
      case measure => simp [intOf]; omega
    · have hi32 : i = 32 := by omega
      subst hi32
      have e32 : n % 256 ^ 32 = n := Nat.mod_eq_of_lt (by rw [show (256 : Nat) ^ 32 = M from by decide]; exact hn)
      rw [e32] at rx
      have H4 := Hid.of rx
      have H7 := Hid.of tr
      have H8 := Hid.of gw
      clear rb tr rx tx gw hi hlt e32
      go_wp2_with (with_reducible show wpList _ _ _ ({ dst := _, op := Op.load 62 _, type := _, pos := _, after := _, guard := _ } :: _) _ _; refine Shut.out ?_)
      show wpList _ _ _ _ _ _
      refine wpList_loadN rfl _ rfl (w.heap.size + 1 + 1) rfl n H4.out ?_
      simp only [Act.put, List.setIfInBounds_toArray, List.set_cons_zero, List.set_cons_succ]
      refine wpList_storeN rfl _ _ rfl (w.heap.size + 1) n rfl rfl H7.out ?_
      simp only [Act.put]
      apply wpList_nil
      repeat go_step
      refine bodyPost_ret (v := wv 4 n) (resultN Tryd.results39 _ _ (w.heap.size + 1) _ ?hp (World.rangeAt_setCells_same _ _ _ _ (by rw [wl_length]; exact H7.out))) ?hd ?_
      case hp => rfl
      case hd => rfl
      exact ⟨rfl, grown_setCells (by omega) _ _ H8.out⟩
end Go.Proofs.YteijccjdejjbjaaDoor
