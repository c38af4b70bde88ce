import Derived.Test.YteijccjdejjbjaaDoorEq
namespace Go.Proofs.YteijccjdejjbjaaDoor
open Go.RowKit Go.Shelf ScalarNum

theorem neg_sub {x v c : Nat} (hx : x < L) (h0 : x ≠ 0) (h : v + x = L + c * M) (hv : v < M) : v = (L - x) % L := by
  have hLM : L < M := by decide
  rw [Nat.mod_eq_of_lt (by omega)]
  rcases c with _ | c
  · omega
  · exfalso
    have : M ≤ (c + 1) * M := Nat.le_mul_of_pos_left _ (by omega)
    omega

theorem wpList_store_newN {ops : Array Oper} {Q : Exit → Act → World → Prop} {a : Act} {w : World} {rest : List Oper} {o : Oper} {x y : Operand} {c : Array Value} (n : Nat) (hc : 4 ≤ c.size) (hgd : o.guard = none) (ho : o.op = .store 62 x y)
    (hx : a.eval x = .pointer (some ⟨w.heap.size, 0, none⟩)) (hy : a.eval y = wv 4 n)
    (h : ∀ w2, Grown w w2 → w2.rangeAt w.heap.size 0 (wl 4 n) → w2.there w.heap.size 0 4 → wpList Tryd.prog ops Q rest (a.put o.dst undef) w2) :
    wpList Tryd.prog ops Q (o :: rest) a (w.alloc (.cells c 62)) := by
  have ht := there_alloc_new w 62 c 4 hc
  refine wpList_storeN hgd x y ho w.heap.size n hx hy ht ?_
  exact h _ (grown_setCells (Nat.le_refl _) _ _ (Grown.alloc (Grown.refl _) _ _)) (World.rangeAt_setCells_same _ _ _ (wl 4 n) (by rw [wl_length]; exact ht)) (World.there_setCells ht _ _ _)

set_option maxRecDepth 100000 in
set_option maxHeartbeats 4000000 in
theorem negated_num (x : Nat) (hx : x < L) (w : World) (hT : Tab w) : Calls Tryd.prog 48 #[wv 4 x] w fun e w' => e = .returned (wv 4 ((L - x) % L)) ∧ Grown w w' := by
  have hxM : x < M := Nat.lt_trans hx (by decide)
  rw [wv]
  have h0 := alloc2 w 62 62 (wl 4 x) #[Value.int IntKind.u64 0, Value.int IntKind.u64 0, Value.int IntKind.u64 0, Value.int IntKind.u64 0]
  have h1 : ((w.alloc (.cells (wl 4 x).toArray 62)).alloc (.cells #[Value.int IntKind.u64 0, Value.int IntKind.u64 0, Value.int IntKind.u64 0, Value.int IntKind.u64 0] 62)).heap.size = w.heap.size + 1 + 1 := by simp
  go_enter Tryd.func48, Tryd.ntmps48
  go_wp2_with (with_reducible show wpList _ _ _ ({ dst := _, op := Op.load 62 _, type := _, pos := _, after := _, guard := _ } :: _) _ _; refine Shut.out ?_)
  show wpList _ _ _ _ _ _
  generalize ((w.alloc (Obj.cells (wl 4 x).toArray 62)).alloc (Obj.cells #[Value.int IntKind.u64 0, Value.int IntKind.u64 0, Value.int IntKind.u64 0, Value.int IntKind.u64 0] 62)) = W0 at *
  obtain ⟨r0, t0, t1, g0⟩ := h0
  rw [wl_length] at t0
  have hsz := hT.lt
  have HT := Hid.of hT
  have HX := Hid.of (And.intro r0 (And.intro t0 (And.intro (show W0.there (w.heap.size + 1) 0 4 from t1) (And.intro g0 h1))))
  clear r0 t0 t1 g0 h1 hT
  refine wpList_loadN rfl _ rfl w.heap.size rfl x HX.out.1 ?_
  simp only [Act.put, List.setIfInBounds_toArray, List.set_cons_zero, List.set_cons_succ]
  refine wpList_val (wv 4 0) rfl (by kernel_rfl) ?_
  simp only [Act.put, List.setIfInBounds_toArray, List.set_cons_zero, List.set_cons_succ]
  refine wpList_val (.bool (decide (x = 0))) rfl (exec_eqlN rfl x 0 rfl rfl hxM (by decide) _) ?_
  simp only [Act.put, List.setIfInBounds_toArray, List.set_cons_zero, List.set_cons_succ]
  apply wpList_nil
  by_cases hz : x = 0
  · have e0 := Hid.of (show (L - x) % L = x by rw [hz]; decide)
    rw [decide_eq_true hz]
    clear hz
    go_wp2_with (with_reducible show wpList _ _ _ ({ dst := _, op := Op.load 62 _, type := _, pos := _, after := _, guard := _ } :: _) _ _; refine Shut.out ?_)
    show wpList _ _ _ _ _ _
    refine wpList_loadN rfl _ rfl (w.heap.size) rfl ((L - x) % L) (by rw [e0.out]; exact HX.out.1) ?_
    simp only [Act.put, List.setIfInBounds_toArray, List.set_cons_zero, List.set_cons_succ]
    refine wpList_storeN rfl _ _ rfl (w.heap.size + 1) ((L - x) % L) rfl rfl (HX.out.2.2.1) ?_
    simp only [Act.put]
    apply wpList_nil
    repeat go_step
    refine bodyPost_ret (v := wv 4 ((L - x) % L)) (resultN Tryd.results48 _ _ (w.heap.size + 1) _ ?hp (World.rangeAt_setCells_same _ _ _ _ (by rw [wl_length]; exact HX.out.2.2.1))) ?hd ?_
    case hp => rfl
    case hd => rfl
    exact ⟨rfl, grown_setCells (by omega) _ _ (HX.out.2.2.2.1)⟩
  · rw [decide_eq_false hz]
    go_wp2_with (with_reducible show wpList _ _ _ ({ dst := _, op := Op.load 62 _, type := _, pos := _, after := _, guard := _ } :: _) _ _; refine Shut.out ?_)
    show wpList _ _ _ _ _ _
    refine wpList_loadNo rfl _ rfl 0 4 ?hp2 L ?hr2 ?_
    case hp2 => go_simp
    case hr2 => have := (HT.out.grown HX.out.2.2.2.1) 1 (by decide); rwa [Nat.one_mul, Nat.one_mul, Nat.mod_eq_of_lt (by decide)] at this
    simp only [Act.put, List.setIfInBounds_toArray, List.set_cons_zero, List.set_cons_succ]
    go_wp2_with (with_reducible show wpList _ _ _ ({ dst := _, op := Op.store 62 _ _, type := _, pos := _, after := _, guard := _ } :: _) _ _; refine Shut.out ?_)
    show wpList _ _ _ _ _ _
    have hW : W0.heap.size = w.heap.size + 1 + 1 := HX.out.2.2.2.2
    refine wpList_store_newN L (by simp) rfl rfl rfl rfl (fun w1 hg1 hr1 ht1 => ?_)
    rw [hW] at hr1 ht1
    simp only [Act.put]
    apply wpList_nil
    have hx1 : w1.rangeAt w.heap.size 0 (wl 4 x) := rangeAt_grown HX.out.1 hg1
    have H1 := Hid.of (And.intro hr1 (And.intro ht1 (And.intro (there_grown HX.out.2.2.1 hg1) (grown_trans HX.out.2.2.2.1 hg1))))
    clear hr1 ht1 hg1 HX
    go_wp2_with (with_reducible show wpList _ _ _ ({ dst := _, op := Op.load 62 _, type := _, pos := _, after := _, guard := _ } :: _) _ _; refine Shut.out ?_)
    show wpList _ _ _ _ _ _
    refine wpList_loadN rfl _ rfl w.heap.size rfl x hx1 ?_
    simp only [Act.put, List.setIfInBounds_toArray, List.set_cons_zero, List.set_cons_succ]
    clear hx1
    go_wp2_with fail
    rw [hW]
    refine Calls.mono (sub_num (w.heap.size + 1 + 1) L x (by decide) hxM _ H1.out.1 H1.out.2.1) ?_
    rintro e w2 ⟨rfl, g2, ⟨v, c, r2, e2, v2M⟩, t2⟩
    have ev := neg_sub hx hz e2 v2M
    rw [ev] at r2
    have H2 := Hid.of (And.intro r2 (And.intro (g2.there H1.out.2.2.1 (by omega)) (GB.own H1.out.2.2.2 (by omega) g2)))
    clear H1 g2 r2 e2 v2M t2 ev HT
    dsimp only
    go_wp2_with (with_reducible show wpList _ _ _ ({ dst := _, op := Op.load 62 _, type := _, pos := _, after := _, guard := _ } :: _) _ _; refine Shut.out ?_)
    show wpList _ _ _ _ _ _
    refine wpList_loadN rfl _ rfl (w.heap.size + 1 + 1) rfl ((L - x) % L) (H2.out.1) ?_
    simp only [Act.put, List.setIfInBounds_toArray, List.set_cons_zero, List.set_cons_succ]
    refine wpList_storeN rfl _ _ rfl (w.heap.size + 1) ((L - x) % L) rfl rfl (H2.out.2.1) ?_
    simp only [Act.put]
    apply wpList_nil
    repeat go_step
    refine bodyPost_ret (v := wv 4 ((L - x) % L)) (resultN Tryd.results48 _ _ (w.heap.size + 1) _ ?hp (World.rangeAt_setCells_same _ _ _ _ (by rw [wl_length]; exact H2.out.2.1))) ?hd ?_
    case hp => rfl
    case hd => rfl
    exact ⟨rfl, grown_setCells (by omega) _ _ (H2.out.2.2)⟩
end Go.Proofs.YteijccjdejjbjaaDoor
