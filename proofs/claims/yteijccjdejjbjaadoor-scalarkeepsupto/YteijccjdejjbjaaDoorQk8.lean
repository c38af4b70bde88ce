import Derived.Test.YteijccjdejjbjaaDoorQk7
import Derived.OwnWalk
import Derived.Laws.AppendOwn
import Derived.Laws.OwnMore
import Derived.Below
import Derived.ChangeSlices
import Derived.ProofKit
import Derived.OpenShut
import Derived.WideKeyArgs
import Derived.DataReads
namespace Go.Proofs.YteijccjdejjbjaaDoor
open Go.RowKit Go.Shelf ScalarNum

/-- the digit modulo L -/
def md (d : Int) : Nat := (d % (L : Int)).toNat
theorem md_lt (d : Int) : md d < L := by
  have h1 : d % (L : Int) < L := Int.emod_lt_of_pos _ (by decide)
  have h2 : 0 ≤ d % (L : Int) := Int.emod_nonneg _ (by decide)
  unfold md; omega
theorem md_cast (d : Int) : ((md d : Nat) : Int) = d % (L : Int) := Int.toNat_of_nonneg (Int.emod_nonneg _ (by decide))
theorem md_pos {q : Nat} (h : q < 128) : md (q : Int) = q := by
  have e : (q : Int) % (L : Int) = (q : Int) := Int.emod_eq_of_lt (by omega) (Int.lt_trans (Int.ofNat_lt.2 h) (by decide))
  unfold md; rw [e]; rfl
theorem md_neg {q : Nat} (h0 : 0 < q) (h : q ≤ 128) : md (-(q : Int)) = (L - q) % L := by
  have hL : (128 : Nat) < L := by decide
  have e : (-(q : Int)) % (L : Int) = ((L - q : Nat) : Int) := by
    rw [← Int.add_emod_right, show -(q : Int) + (L : Int) = ((L - q : Nat) : Int) from by omega]
    exact Int.emod_eq_of_lt (by omega) (by omega)
  unfold md; rw [e, Nat.mod_eq_of_lt (by omega)]; rfl

theorem there_new4 (w : World) (t : TypeId) : (w.alloc (.cells #[Value.int IntKind.u64 0, Value.int IntKind.u64 0, Value.int IntKind.u64 0, Value.int IntKind.u64 0] t)).there w.heap.size 0 4 := by
  have := (alloc2 w t t [] #[Value.int IntKind.u64 0, Value.int IntKind.u64 0, Value.int IntKind.u64 0, Value.int IntKind.u64 0])
  intro j hj
  refine ⟨?_, ?_⟩
  · have : (w.alloc (.cells #[Value.int IntKind.u64 0, Value.int IntKind.u64 0, Value.int IntKind.u64 0, Value.int IntKind.u64 0] t)).heap[w.heap.size]? = some (.cells #[Value.int IntKind.u64 0, Value.int IntKind.u64 0, Value.int IntKind.u64 0, Value.int IntKind.u64 0] t) := (MapKept.heap_alloc w _).1
    simp only [World.cell?, this]
    match j, hj with
    | 0, _ => rfl
    | 1, _ => rfl
    | 2, _ => rfl
    | 3, _ => rfl
  · rw [frozen?_alloc_cells]; simp [World.frozen?]

set_option maxRecDepth 100000 in
set_option maxHeartbeats 1000000 in
theorem modulo_num (d : Int) (hd : -128 ≤ d ∧ d ≤ 127) (w : World) (hT : Tab w) : Calls Tryd.prog 65 #[.int .i8 d] w fun e w' => e = .returned (wv 4 (md d)) ∧ Grown w w' := by
  by_cases h : d < 0
  · obtain ⟨q, rfl⟩ : ∃ q : Nat, d = -(q : Int) := ⟨d.natAbs, by omega⟩
    have hq0 : 0 < q := by omega
    have hq : q ≤ 128 := by omega
    have e1 : IntKind.i64.wrap (-(q : Int)) = -(q : Int) := by rw [IntKind.wrap_i64]; omega
    have e2 : IntKind.i64.wrap (q : Int) = (q : Int) := by rw [IntKind.wrap_i64]; omega
    have hm := Hid.of (md_neg hq0 hq)
    have HT := Hid.of hT
    clear hd hT
    have g0 : Grown w (w.alloc (.cells #[Value.int IntKind.u64 0, Value.int IntKind.u64 0, Value.int IntKind.u64 0, Value.int IntKind.u64 0] 62)) := Grown.alloc (Grown.refl _) _ _
    have t0 : (w.alloc (.cells #[Value.int IntKind.u64 0, Value.int IntKind.u64 0, Value.int IntKind.u64 0, Value.int IntKind.u64 0] 62)).there w.heap.size 0 4 := there_new4 w _
    go_enter Tryd.func65, Tryd.ntmps65
    have e3 : wrap64 (q : Int) = (q : Int) := by unfold wrap64; omega
    have e4 : wrap64 (-(q : Int)) = -(q : Int) := by unfold wrap64; omega
    go_wp2_with (with_reducible show wpList _ _ _ ({ dst := _, op := Op.build 62 _, type := _, pos := _, after := _, guard := _ } :: _) _ _; refine Shut.out ?_)
    show wpList _ _ _ _ _ _
    refine wpList_val (wv 4 q) rfl ?hv ?_
    case hv => rw [← small_wv q (by omega)]; go_simp
    simp only [Act.put, List.setIfInBounds_toArray, List.set_cons_zero, List.set_cons_succ]
    go_wp2_with fail
    generalize (w.alloc (.cells #[Value.int IntKind.u64 0, Value.int IntKind.u64 0, Value.int IntKind.u64 0, Value.int IntKind.u64 0] 62)) = W0 at *
    have H0 := Hid.of (And.intro g0 t0)
    clear g0 t0
    refine Calls.mono (negated_num q (Nat.lt_of_le_of_lt hq (by decide)) _ (HT.out.grown H0.out.1)) ?_
    rintro e w1 ⟨rfl, g1⟩
    dsimp only
    rw [← hm.out]
    have H1 := Hid.of (And.intro (grown_trans H0.out.1 g1) (there_grown H0.out.2 g1))
    clear H0 g1
    go_wp2_with (with_reducible show wpList _ _ _ ({ dst := _, op := Op.store 62 _ _, type := _, pos := _, after := _, guard := _ } :: _) _ _; refine Shut.out ?_)
    show wpList _ _ _ _ _ _
    refine wpList_storeN rfl _ _ rfl (w.heap.size) (md (-(q : Int))) rfl rfl (H1.out.2) ?_
    simp only [Act.put]
    apply wpList_nil
    repeat go_step
    refine bodyPost_ret (v := wv 4 (md (-(q : Int)))) (resultN Tryd.results65 _ _ (w.heap.size) _ ?hp (World.rangeAt_setCells_same _ _ _ _ (by rw [wl_length]; exact H1.out.2))) ?hd ?_
    case hp => rfl
    case hd => rfl
    exact ⟨rfl, grown_setCells (by omega) _ _ H1.out.1⟩
  · obtain ⟨q, rfl⟩ : ∃ q : Nat, d = (q : Int) := ⟨d.natAbs, by omega⟩
    have hq : q < 128 := by omega
    have h' : ¬ (q : Int) < 0 := h
    have e1 : IntKind.u64.wrap (q : Int) = (q : Int) := by rw [IntKind.wrap_u64]; omega
    have hm := Hid.of (md_pos hq)
    clear hd hT h
    have g0 : Grown w (w.alloc (.cells #[Value.int IntKind.u64 0, Value.int IntKind.u64 0, Value.int IntKind.u64 0, Value.int IntKind.u64 0] 62)) := Grown.alloc (Grown.refl _) _ _
    have t0 : (w.alloc (.cells #[Value.int IntKind.u64 0, Value.int IntKind.u64 0, Value.int IntKind.u64 0, Value.int IntKind.u64 0] 62)).there w.heap.size 0 4 := there_new4 w _
    go_enter Tryd.func65, Tryd.ntmps65
    go_wp2_with (with_reducible show wpList _ _ _ ({ dst := _, op := Op.build 62 _, type := _, pos := _, after := _, guard := _ } :: _) _ _; refine Shut.out ?_)
    show wpList _ _ _ _ _ _
    generalize (w.alloc (.cells #[Value.int IntKind.u64 0, Value.int IntKind.u64 0, Value.int IntKind.u64 0, Value.int IntKind.u64 0] 62)) = W0 at *
    have H1 := Hid.of (And.intro g0 t0)
    clear g0 t0
    refine wpList_val (wv 4 q) rfl ?hv ?_
    case hv => rw [← small_wv q (by omega)]; go_simp
    simp only [Act.put, List.setIfInBounds_toArray, List.set_cons_zero, List.set_cons_succ]
    rw [← hm.out]
    refine wpList_storeN rfl _ _ rfl (w.heap.size) (md (q : Int)) rfl rfl (H1.out.2) ?_
    simp only [Act.put]
    apply wpList_nil
    repeat go_step
    refine bodyPost_ret (v := wv 4 (md (q : Int))) (resultN Tryd.results65 _ _ (w.heap.size) _ ?hp (World.rangeAt_setCells_same _ _ _ _ (by rw [wl_length]; exact H1.out.2))) ?hd ?_
    case hp => rfl
    case hd => rfl
    exact ⟨rfl, grown_setCells (by omega) _ _ H1.out.1⟩
end Go.Proofs.YteijccjdejjbjaaDoor
namespace Go.Proofs.YteijccjdejjbjaaDoor
open Go.RowKit Go.Shelf ScalarNum
attribute [local go_sem] Oper.semAt_some

def vf (ys : List (Int × I8)) : Nat := ys.foldl (fun x p => (2 * x + md p.2.1) % L) 0
theorem vf_snoc (pre : List (Int × I8)) (p : Int × I8) : vf (pre ++ [p]) = (2 * vf pre + md p.2.1) % L := by simp [vf]
theorem vf_lt (ys : List (Int × I8)) : vf ys < L := by
  rcases List.eq_nil_or_concat ys with rfl | ⟨pre, p, rfl⟩
  · decide
  · rw [List.concat_eq_append, vf_snoc]; exact Nat.mod_lt _ (by decide)
theorem Tab.lain {w w' : World} (h : Tab w) (hg : Lain w w') : Tab w' := fun q hq => hg.range (h q hq)
theorem two_lt {x : Nat} (hx : x < L) : x < M ∧ (x + x) % M = 2 * x ∧ 2 * x < M := by
  have h3 : 3 * L < M := by decide
  have : x + x < M := by omega
  exact ⟨by omega, by rw [Nat.mod_eq_of_lt this]; omega, by omega⟩
theorem three_lt {x m : Nat} (hx : x < L) (hm : m < L) : m < M ∧ (2 * x + m) % M = 2 * x + m ∧ 2 * x + m < M := by
  have h3 : 3 * L < M := by decide
  have : 2 * x + m < M := by omega
  exact ⟨by omega, Nat.mod_eq_of_lt this, this⟩
theorem wv_open (n : Nat) : wv 4 n = Value.agg #[.int .u64 (dg B n 0 : Nat), .int .u64 (dg B n 1 : Nat), .int .u64 (dg B n 2 : Nat), .int .u64 (dg B n 3 : Nat)] := rfl
theorem four {W : World} {b n : Nat} (h : W.rangeAt b 0 (wl 4 n)) : W.cell? ⟨b, 0, none⟩ = some (.int .u64 (dg B n 0 : Nat)) ∧ W.cell? ⟨b, 1, none⟩ = some (.int .u64 (dg B n 1 : Nat)) ∧ W.cell? ⟨b, 2, none⟩ = some (.int .u64 (dg B n 2 : Nat)) ∧ W.cell? ⟨b, 3, none⟩ = some (.int .u64 (dg B n 3 : Nat)) :=
  ⟨h 0 _ rfl, h 1 _ rfl, h 2 _ rfl, h 3 _ rfl⟩
theorem fourz {W : World} {b : Nat} (h : W.there b 0 4) : W.frozen? ⟨b, 0, none⟩ = false ∧ W.frozen? ⟨b, 1, none⟩ = false ∧ W.frozen? ⟨b, 2, none⟩ = false ∧ W.frozen? ⟨b, 3, none⟩ = false :=
  ⟨(h 0 (by decide)).2, (h 1 (by decide)).2, (h 2 (by decide)).2, (h 3 (by decide)).2⟩

theorem foury {W : World} {b : Nat} (h : W.there b 0 4) : ∃ y0 y1 y2 y3, W.cell? ⟨b, 0, none⟩ = some y0 ∧ W.cell? ⟨b, 1, none⟩ = some y1 ∧ W.cell? ⟨b, 2, none⟩ = some y2 ∧ W.cell? ⟨b, 3, none⟩ = some y3 := by
  obtain ⟨y0, h0⟩ := Option.isSome_iff_exists.1 (h 0 (by decide)).1
  obtain ⟨y1, h1⟩ := Option.isSome_iff_exists.1 (h 1 (by decide)).1
  obtain ⟨y2, h2⟩ := Option.isSome_iff_exists.1 (h 2 (by decide)).1
  obtain ⟨y3, h3⟩ := Option.isSome_iff_exists.1 (h 3 (by decide)).1
  exact ⟨y0, y1, y2, y3, h0, h1, h2, h3⟩
theorem is_cells {W : World} {b : Nat} (h : W.there b 0 4) : ∀ o, W.heap[b]? = some o → o.isCells = true := by
  intro o ho
  have h0 := (h 0 (by decide)).1
  simp only [World.cell?, ho] at h0
  cases o <;> simp_all [Obj.isCells]
theorem there_four {W : World} {b b' : Nat} (h : W.there b 0 4) (vs : List Value) : ∀ (o : Nat), (W.setCells b' o vs).there b 0 4 := by
  induction vs generalizing W with
  | nil => exact fun _ => h
  | cons v r ih => exact fun o => ih (there_setCell h _ _) (o + 1)

theorem set4 (W : World) (b r : Nat) : (((W.setCell ⟨b, 0, none⟩ (.int .u64 (dg B r 0 : Nat))).setCell ⟨b, 1, none⟩ (.int .u64 (dg B r 1 : Nat))).setCell ⟨b, 2, none⟩ (.int .u64 (dg B r 2 : Nat))).setCell ⟨b, 3, none⟩ (.int .u64 (dg B r 3 : Nat)) = W.setCells b 0 (wl 4 r) := rfl

set_option maxRecDepth 100000 in
set_option maxHeartbeats 600000 in
theorem valueOf_num (a : Option Addr) (len cap : Nat) (f : Nat → I8) (hlen : len ≤ 300) (w : World) (hT : Tab w) (hD : DigS w.heap.size w (.slice a len cap) len f) :
    Calls Tryd.prog 46 #[.slice a len cap] w fun e w' => e = .returned (wv 4 (vf (down len f len))) ∧ Lain w w' := by
  refine (callsIn_wide (n := 4)).1 ?_
  refine callsIn_of_wp_marks Tryd.func46 rfl trivial ?_ rfl
  simp only [Tryd.ntmps46, List.size_toArray, List.length_cons, List.length_nil, Nat.reduceAdd, Nat.reduceSub, Array.replicate_succ, Array.replicate_zero, List.push_toArray, List.append_toArray, List.nil_append, List.cons_append]
  have g0 := alloc2 w 62 62 [.int .u64 0, .int .u64 0, .int .u64 0, .int .u64 0] #[Value.int IntKind.u64 0, Value.int IntKind.u64 0, Value.int IntKind.u64 0, Value.int IntKind.u64 0]
  have HT := Hid.of hT
  have HDs := Hid.of hD
  clear hT hD
  gi_wp2_with fail
  obtain ⟨W2, hW2⟩ : ∃ W2, ((w.alloc (.cells #[Value.int IntKind.u64 0, Value.int IntKind.u64 0, Value.int IntKind.u64 0, Value.int IntKind.u64 0] 62)).alloc (.cells #[Value.int IntKind.u64 0, Value.int IntKind.u64 0, Value.int IntKind.u64 0, Value.int IntKind.u64 0] 62)) = W2 := ⟨_, rfl⟩
  have hs2 : W2.heap.size = w.heap.size + 2 := by rw [← hW2]; simp
  have rx : W2.rangeAt (w.heap.size + 1) 0 (wl 4 0) := by
    have := rangeAt_alloc_new (w.alloc (.cells #[Value.int IntKind.u64 0, Value.int IntKind.u64 0, Value.int IntKind.u64 0, Value.int IntKind.u64 0] 62)) 62 (wl 4 0)
    rw [wl4_zero] at this ⊢
    rw [← hW2]
    simpa using this
  obtain ⟨_, t0, t1, g0⟩ := g0
  have g0' : Grown w W2 := hW2 ▸ g0
  have t0' : W2.there w.heap.size 0 4 := hW2 ▸ t0
  have t1' : W2.there (w.heap.size + 1) 0 4 := hW2 ▸ t1
  clear g0 t0 t1
  rw [hW2]
  clear hW2
  refine ⟨trivial, ?_⟩
  refine (callsIn_wide.2 (back_in a len cap W2)).mono ?_
  rintro e w3 ⟨rfl, rfl⟩
  dsimp only
  have g3 : Grown W2 (W2.alloc (.cells #[.slice a len cap] 30)) := Grown.alloc (Grown.refl _) _ _
  have c3 : (W2.alloc (.cells #[.slice a len cap] 30)).cell? ⟨w.heap.size + 2, 0, none⟩ = some (.slice a len cap) := by
    rw [← hs2]; exact (Boxed.new W2 30 (.slice a len cap)).cell
  have hs3 : (W2.alloc (.cells #[.slice a len cap] 30)).heap.size = w.heap.size + 3 := by simp [hs2]
  rw [hs2]
  generalize (W2.alloc (.cells #[.slice a len cap] 30)) = W3 at *
  have hl3 : Lain w W3 := Lain.of (grown_trans g0' g3)
  have hD3 : DigS w.heap.size W3 (.slice a len cap) len f := by
    rcases HDs.out with h | ⟨b, off, cp, h1, h2, h3⟩
    · exact .inl h
    · exact .inr ⟨b, off, cp, h1, h2, fun j hj => (hl3.cell _ h2).trans (h3 j hj)⟩
  have HX := Hid.of (And.intro (rangeAt_grown rx g3) (And.intro (there_grown t1' g3) (And.intro (there_grown t0' g3) hl3)))
  have HY := Hid.of (And.intro hD3 (And.intro c3 hs3))
  clear rx t0' t1' g0' g3 hl3 hD3 c3 hs3 hs2 HDs
  gi_wp2_with fail
  have hs3 := HY.out.2.2
  refine wpIn_rangeFunc_ownG rfl (by decide) (gf := 69) (lb := #[.pointer (some ⟨w.heap.size + 2, 0, none⟩)]) rfl trivial (enters_of Tryd.func69 (by kernel_rfl) rfl)
    (back_stops 3 (by decide) (w.heap.size + 2) w.heap.size (w.heap.size + 3) (w.heap.size + 1) _ len f hlen W3 (by omega) (by omega) (by omega) (by omega) (by omega) HY.out.2.1 HY.out.1) cellsLow_t (cellsLow_b (by omega)) (Below.refl _ _) (fun _ => rfl)
    (fun pre W => (W.rangeAt (w.heap.size + 1) 0 (wl 4 (vf pre)) ∧ W.there (w.heap.size + 1) 0 4) ∧ Lain w W ∧ (W.rangeAt w.heap.size 0 [] ∧ W.there w.heap.size 0 4) ∧ w.heap.size + 3 ≤ W.heap.size)
    (fun _ _ _ => False)
    (OwnFrom.and (range_own _ (fun pre => wl 4 (vf pre)) 4) (OwnFrom.and (lain_own (by omega)) (OwnFrom.and (range_own _ (fun _ => []) 4) (fun s W W' row hs hg hr => Nat.le_trans hs hg.size))))
    (fun _ _ _ _ _ hs _ _ => hs)
    ⟨⟨HX.out.1, HX.out.2.1⟩, HX.out.2.2.2, ⟨fun j v h => by simp at h, HX.out.2.2.1⟩, by omega⟩
    (fun x => { tmps := #[.slice a len cap, undef, .pointer (some ⟨w.heap.size, 0, none⟩), .pointer (some ⟨w.heap.size + 1, 0, none⟩), undef, .int .i8 x.2.1, .slice a len cap, .func (.func 69) #[] #[.pointer (some ⟨w.heap.size + 2, 0, none⟩)], .int .i64 x.1, .int .i8 x.2.1, undef, undef, undef, undef, undef, undef, undef, undef], defers := [] }) ?assign ?body ?done ?stop
  case assign =>
    intro l x W K hK
    gi_wp2
    exact hK
  case body =>
    rintro l pre x W ⟨⟨rx, tx⟩, hl, ⟨_, tr⟩, hsz⟩ _
    clear HX HY hs3
    have hv := vf_lt pre
    have hsn := Hid.of (vf_snoc pre x)
    generalize vf pre = v at *
    have hT : Tab W := HT.out.lain hl
    obtain ⟨c0, c1, c2, c3⟩ := four rx
    have HW := Hid.of (And.intro rx (And.intro tx (And.intro hl (And.intro tr (And.intro hsz (And.intro hT hv))))))
    clear rx tx hl tr hsz hT hv
    gi_wp2_with fail
    refine ⟨trivial, ?_⟩
    rw [← wv_open]
    clear c0 c1 c2 c3
    refine (CallsIn.inRound l (callsIn_wide.2 (add_num (w.heap.size + 1) v v (two_lt HW.out.2.2.2.2.2.2).1 (two_lt HW.out.2.2.2.2.2.2).1 _ HW.out.1 HW.out.2.1))).mono ?_
    rintro e W1 ⟨rfl, g1, r1, t1⟩
    dsimp only
    rw [(two_lt HW.out.2.2.2.2.2.2).2.1] at r1
    have H1 := Hid.of (And.intro g1 (And.intro r1 (And.intro t1 (HW.out.2.2.2.2.2.1.gb g1 (by omega)))))
    clear g1 r1 t1
    gi_wp2_with fail
    refine ⟨trivial, ?_⟩
    refine (CallsIn.inRound l (callsIn_wide.2 (modulo_num x.2.1 x.2.2 _ H1.out.2.2.2))).mono ?_
    rintro e W2 ⟨rfl, g2⟩
    dsimp only
    have hm := md_lt x.2.1
    generalize md x.2.1 = m at *
    have H2 := Hid.of (And.intro (H1.out.1.trans (GB.of g2)) (And.intro (rangeAt_grown H1.out.2.1 g2) (And.intro (there_grown H1.out.2.2.1 g2) (And.intro (H1.out.2.2.2.grown g2) (three_lt HW.out.2.2.2.2.2.2 hm)))))
    clear H1 g2 hm
    gi_wp2_with fail
    refine ⟨trivial, ?_⟩
    refine (CallsIn.inRound l (callsIn_wide.2 (add_num (w.heap.size + 1) (2 * v) m (two_lt HW.out.2.2.2.2.2.2).2.2 H2.out.2.2.2.2.1 _ H2.out.2.1 H2.out.2.2.1))).mono ?_
    rintro e W4 ⟨rfl, g4, r4, t4⟩
    dsimp only
    rw [H2.out.2.2.2.2.2.1] at r4
    obtain ⟨c0, c1, c2, c3⟩ := four r4
    have H4 := Hid.of (And.intro (H2.out.1.trans g4) (And.intro t4 (And.intro (H2.out.2.2.2.1.gb g4 (by omega)) H2.out.2.2.2.2.2.2)))
    clear H2 g4 t4 r4
    gi_wp2_with fail
    refine ⟨trivial, ?_⟩
    rw [← wv_open]
    clear c0 c1 c2 c3
    refine (CallsIn.inRound l (callsIn_wide.2 (reduced_num (2 * v + m) H4.out.2.2.2 _ H4.out.2.2.1))).mono ?_
    rintro e W5 ⟨rfl, g5⟩
    dsimp only
    rw [← hsn.out]
    obtain ⟨r, hrE⟩ : ∃ r, vf (pre ++ [x]) = r := ⟨_, rfl⟩
    rw [hrE]
    have HR := Hid.of hrE
    clear hrE hsn
    have t5 := there_grown H4.out.2.1 g5
    have H5 := Hid.of (And.intro (H4.out.1.trans (GB.of g5)) t5)
    obtain ⟨z0, z1, z2, z3⟩ := fourz t5
    obtain ⟨y0, y1, y2, y3, q0, q1, q2, q3⟩ := foury t5
    clear H4 g5 t5
    rw [wv_open r]
    gi_wp2
    rw [set4]
    have hG : GB (w.heap.size + 1) W (W5.setCells (w.heap.size + 1) 0 (wl 4 r)) := GB.setCells _ H5.out.1
    have hrs : (W5.setCells (w.heap.size + 1) 0 (wl 4 r)).rangeAt (w.heap.size + 1) 0 (wl 4 r) := World.rangeAt_setCells_same _ _ _ _ (by rw [wl_length]; exact H5.out.2)
    have hts : (W5.setCells (w.heap.size + 1) 0 (wl 4 r)).there (w.heap.size + 1) 0 4 := there_four H5.out.2 _ 0
    generalize W5.setCells (w.heap.size + 1) 0 (wl 4 r) = W6 at *
    exact ⟨hG.keeps (is_cells HW.out.2.1), hG.low HW.out.2.2.2.2.1, ⟨by rw [HR.out]; exact hrs, hts⟩, hG.lain HW.out.2.2.1 (by omega), ⟨fun j v h => by simp at h, hG.there HW.out.2.2.2.1 (by omega)⟩, Nat.le_trans HW.out.2.2.2.2.1 hG.2.2⟩
  case done =>
    rintro D ys W hD rfl ⟨⟨rx, tx⟩, hl, ⟨_, tr⟩, hsz⟩ hK
    obtain ⟨c0, c1, c2, c3⟩ := four rx
    obtain ⟨z0, z1, z2, z3⟩ := fourz tr
    obtain ⟨y0, y1, y2, y3, q0, q1, q2, q3⟩ := foury tr
    obtain ⟨v, hvE⟩ : ∃ v, vf (down len f len) = v := ⟨_, rfl⟩
    rw [hvE] at c0 c1 c2 c3
    have HR := Hid.of hvE
    clear hvE
    have H := Hid.of (And.intro tr (And.intro hl (And.intro hD hs3)))
    clear HX HY hs3 rx tx hl tr hsz hD
    gi_wp2
    rw [set4]
    have hG : GB w.heap.size W (W.setCells w.heap.size 0 (wl 4 v)) := GB.setCells _ (GB.refl _ _)
    have hK' : (W.setCells w.heap.size 0 (wl 4 v)).heap[D]? = some (.deferred (some [])) := (hG.keeps (B := 0) (is_cells H.out.1)).same D _ (Nat.zero_le _) hK rfl
    have hr : (W.setCells w.heap.size 0 (wl 4 v)).rangeAt w.heap.size 0 (wl 4 v) := World.rangeAt_setCells_same _ _ _ _ (by rw [wl_length]; exact H.out.1)
    have hl' : Lain w (W.setCells w.heap.size 0 (wl 4 v)) := H.out.2.1.set (Nat.le_refl _) _
    have hDw : w.heap.size ≤ D := by have := H.out.2.2.1; have := H.out.2.2.2; omega
    generalize W.setCells w.heap.size 0 (wl 4 v) = W6 at *
    refine ⟨by simp, .inl ⟨_, _, rfl, run_takeDeferred hK', ?_⟩⟩
    refine ⟨wv 4 v, resultN Tryd.results46 _ _ w.heap.size _ rfl (fun j u hu => cell_kept (hr j u hu) (grownBy_putObj' _ D _) (fun r e => by cases e; exact ⟨_, hK', rfl⟩)), by rw [HR.out], hl'.put hDw _⟩
  case stop =>
    rintro D c pre W _ _ h _
    exact h.elim
end Go.Proofs.YteijccjdejjbjaaDoor
namespace Go.Proofs.YteijccjdejjbjaaDoor
open Go.RowKit Go.Shelf ScalarNum

theorem DigS.lain {n m : Nat} {W W' : World} {sv : Value} {len : Nat} {f : Nat → I8} (h : DigS n W sv len f) (hg : Lain W W') (hn : n ≤ W.heap.size) (hm : n ≤ m) : DigS m W' sv len f := by
  rcases h with h | ⟨b, off, cp, h1, h2, h3⟩
  · exact .inl h
  · exact .inr ⟨b, off, cp, h1, by omega, fun j hj => (hg.cell _ (by omega)).trans (h3 j hj)⟩
theorem result32t {fn : Func} {q r : Tmp} (h : fn.results = #[.cell q 23, .tmp r]) (tmps : Array Value) (w : World) (b n : Nat) (v : Value)
    (hp : tmps.getD q undef = .pointer (some ⟨b, 0, none⟩)) (hv : tmps.getD r undef = v) (hc : w.rangeAt b 0 (yl 32 n)) : (results fn tmps).run Tryd.prog w = .ok (.tuple #[yv 32 n, v]) w := by
  have hp' : tmps[q]?.getD undef = .pointer (some ⟨b, 0, none⟩) := by simpa using hp
  have hv' : tmps[r]?.getD undef = v := by simpa using hv
  simp [results, h, hp', hv', asAddr, run_loadVar_mid w b 0 23 (yl 32 n) _ hc Tryd.underlying23 rfl (by rw [yl_length]; exact info32), yv]
theorem resValue : Tryd.f21.results = #[.cell 2 23, .tmp 3] := by kernel_rfl

set_option maxRecDepth 100000 in
set_option maxHeartbeats 200000 in
theorem Value_num (a : Option Addr) (len cap : Nat) (f : Nat → I8) (hlen : len ≤ 300) (w : World) (hT : Tab w) (hD : DigS w.heap.size w (.slice a len cap) len f) :
    Calls Tryd.prog 21 #[.slice a len cap] w fun e w' => e = .returned (.tuple #[yv 32 (vf (down len f len)), .int .i64 0]) ∧ Lain w w' := by
  have h0 := alloc1 w 23 (yl 32 0).toArray
  rw [show (yl 32 0).toArray.size = 32 from rfl] at h0
  have hs0 : (w.alloc (.cells (yl 32 0).toArray 23)).heap.size = w.heap.size + 1 := by simp
  have HT := Hid.of hT
  have HD := Hid.of (And.intro hD hs0)
  have b1 : ¬ (300 : Int) < (len : Int) := by omega
  clear hT hD hs0
  go_enter Tryd.func21, Tryd.ntmps21
  go_wp2_with fail
  rw [← yl32_zero]
  generalize (w.alloc (.cells (yl 32 0).toArray 23)) = W0 at *
  have H0 := Hid.of (And.intro h0 (Lain.of h0.2))
  clear h0
  refine Calls.mono (valueOf_num a len cap f hlen W0 (HT.out.lain H0.out.2) (HD.out.1.lain H0.out.2 (Nat.le_refl _) H0.out.2.2.2.1)) ?_
  rintro e w1 ⟨rfl, g1⟩
  dsimp only
  have hv := vf_lt (down len f len)
  obtain ⟨v, hvE⟩ : ∃ v, vf (down len f len) = v := ⟨_, rfl⟩
  rw [hvE] at hv
  rw [hvE]
  have HV := Hid.of (And.intro hvE (Nat.lt_trans hv L_lt_M))
  clear hvE hv
  have H1 := Hid.of (And.intro (g1.there H0.out.1.1) (H0.out.2.trans g1))
  clear H0 g1 b1
  go_wp2_with fail
  refine Calls.mono (bytes_num v HV.out.2 _) ?_
  rintro e w2 ⟨rfl, g2⟩
  dsimp only
  have H2 := Hid.of (And.intro (there_grown H1.out.1 g2) (H1.out.2.trans (Lain.of g2)))
  clear H1 g2
  go_wp2_with (with_reducible show wpList _ _ _ ({ dst := _, op := Op.store 23 _ _, type := _, pos := _, after := _, guard := _ } :: _) _ _; refine Shut.out ?_)
  show wpList _ _ _ _ _ _
  refine wpList_store32 rfl _ _ rfl (w.heap.size) v rfl rfl H2.out.1 ?_
  simp only [Act.put]
  refine wpList_val (.int .i64 0) rfl (by kernel_rfl) ?_
  simp only [Act.put, List.setIfInBounds_toArray, List.set_cons_zero, List.set_cons_succ]
  apply wpList_nil
  repeat go_step
  refine bodyPost_ret (v := .tuple #[yv 32 v, .int .i64 0]) (result32t resValue _ _ (w.heap.size) _ _ ?hp ?hv (World.rangeAt_setCells_same _ _ _ _ (by rw [yl_length]; exact H2.out.1))) ?hd ?_
  case hp => rfl
  case hv => rfl
  case hd => rfl
  exact ⟨by rw [HV.out.1], H2.out.2.set (Nat.le_refl _) _⟩
end Go.Proofs.YteijccjdejjbjaaDoor
namespace Go.Proofs.YteijccjdejjbjaaDoor
open Go.RowKit Go.Shelf ScalarNum

theorem horner2 {L v m : Nat} {N N' d : Int} (hm : (m : Int) = d % (L : Int)) (hv : (v : Int) = N' % (L : Int)) (hN : N = d + 2 * N') : (((2 * v + m) % L : Nat) : Int) = N % (L : Int) := by
  rw [Int.natCast_emod, Int.natCast_add, Int.natCast_mul, hm, hv, hN, Int.add_emod (_ * _), Int.emod_emod, Int.mul_emod, Int.emod_emod, ← Int.mul_emod, ← Int.add_emod, Int.add_comm]
  rfl
/-- the sum of n digits from place s on, times their powers of two -/
def hs (f : Nat → I8) (s : Nat) : Nat → Int
  | 0 => 0
  | n + 1 => (f s).1 + 2 * hs f (s + 1) n

theorem vf_hs (f : Nat → I8) (len : Nat) : ∀ j, j ≤ len → ((vf (down len f j) : Nat) : Int) = hs f (len - j) j % (L : Int)
  | 0, _ => (Int.zero_emod _).symm
  | j + 1, h => by
    have ih := vf_hs f len j (by omega)
    rw [down_succ, vf_snoc]
    have hi : len - 1 - j = len - (j + 1) := by omega
    have h1 : len - (j + 1) + 1 = len - j := by omega
    rw [hi]
    refine horner2 (md_cast _) ih ?_
    show (f (len - (j + 1))).1 + 2 * hs f (len - (j + 1) + 1) j = _
    rw [h1]
theorem vf_sum (f : Nat → I8) (len : Nat) : ((vf (down len f len) : Nat) : Int) = hs f 0 len % (L : Int) := by
  have := vf_hs f len len (Nat.le_refl _)
  rwa [Nat.sub_self] at this
theorem hs_add (f : Nat → I8) (n : Nat) : ∀ (m s : Nat), hs f s (m + n) = hs f s m + 2 ^ m * hs f (s + m) n
  | 0, s => by simp [hs]
  | m + 1, s => by
    rw [show m + 1 + n = (m + n) + 1 from by omega]
    show (f s).1 + 2 * hs f (s + 1) (m + n) = (f s).1 + 2 * hs f (s + 1) m + 2 ^ (m + 1) * hs f (s + (m + 1)) n
    rw [hs_add f n m (s + 1), show s + 1 + m = s + (m + 1) from by omega, Int.pow_succ, Int.mul_add, ← Int.mul_assoc, Int.mul_comm 2 (2 ^ m)]
    omega
theorem hs_same {f g : Nat → I8} : ∀ (n s t : Nat), (∀ i, i < n → f (s + i) = g (t + i)) → hs f s n = hs g t n
  | 0, _, _, _ => rfl
  | n + 1, s, t, h => by
    have h0 := h 0 (by omega)
    have ih := hs_same (f := f) (g := g) n (s + 1) (t + 1) (fun i hi => by rw [Nat.add_assoc, Nat.add_assoc, Nat.add_comm 1 i]; exact h (i + 1) (by omega))
    show (f s).1 + 2 * hs f (s + 1) n = (g t).1 + 2 * hs g (t + 1) n
    rw [ih, show f s = g t from h0]
/-- two lists, one behind the other -/
theorem vf_join (f g F : Nat → I8) (m n : Nat) (h1 : ∀ i, i < m → F i = f i) (h2 : ∀ i, i < n → F (m + i) = g i) :
    vf (down (m + n) F (m + n)) = (2 ^ m % L * vf (down n g n) + vf (down m f m)) % L := by
  have hF := vf_sum F (m + n)
  rw [hs_add F n m 0, Nat.zero_add, hs_same (f := F) (g := f) m 0 0 (fun i hi => by rw [Nat.zero_add]; exact h1 i hi), hs_same (f := F) (g := g) n m 0 (fun i hi => by rw [Nat.zero_add]; exact h2 i hi)] at hF
  have e : ((vf (down (m + n) F (m + n)) : Nat) : Int) = (((2 ^ m % L * vf (down n g n) + vf (down m f m)) % L : Nat) : Int) := by
    rw [hF, Int.natCast_emod, Int.natCast_add, Int.natCast_mul, Int.natCast_emod, vf_sum f m, vf_sum g n, Int.natCast_pow, Int.add_emod (_ * _) (hs f 0 m % _), Int.emod_emod, ← Int.mul_emod, ← Int.add_emod, Int.add_comm]
    rfl
  exact Int.ofNat.inj e
end Go.Proofs.YteijccjdejjbjaaDoor
namespace Go.Proofs.YteijccjdejjbjaaDoor
open Go.ChangeShapes Go.WideShapes Go.ChangeAt Go.WideMaps Go.WideElems Go.RowKit Go.Shelf ScalarNum

def Up (w w' : World) : Prop := Below w.heap.size w w'
theorem Up.refl (w : World) : Up w w := Below.refl _ _
theorem Up.alloc {a w : World} (h : Up a w) (o : Obj) : Up a (w.alloc o) := Below.alloc h h.size o
theorem Lain.below {a w w' : World} {B : Nat} (h : Lain a w) (hB : a.heap.size ≤ B) (k : Below B w w') : Lain a w' :=
  ⟨k.os.trans h.1, k.output.trans h.2.1, Nat.le_trans h.2.2.1 k.size, fun i hi => (k.block i (by omega)).trans (h.2.2.2 i hi)⟩
theorem Lain.alloc {a w : World} (h : Lain a w) (o : Obj) : Lain a (w.alloc o) := h.below (Nat.le_refl _) (Below.mono ((Up.refl w).alloc o) h.2.2.1)
theorem add_plain (b off j : Nat) : (⟨b, off, none⟩ : Addr).add j = ⟨b, off + j, none⟩ := by unfold Addr.add; split <;> simp_all
theorem cells_new (w : World) (t : TypeId) (l : List Value) : ∀ j u, l[j]? = some u → (w.alloc (.cells l.toArray t)).cell? ((⟨w.heap.size, 0, none⟩ : Addr).add j) = some u := by
  intro j u h
  rw [add_plain, Nat.zero_add]
  have e : (w.alloc (.cells l.toArray t)).heap[w.heap.size]? = some (.cells l.toArray t) := by
    show (w.heap.push _)[w.heap.size]? = _
    simp
  simp only [World.cell?, e]
  simpa using h
set_option maxRecDepth 100000 in
theorem Tryd.infoI8 : (Tryd.prog.info? 40).map (fun i => (i.zero, i.size, i.bytes)) = some (some (.int .i8 0), 1, 1) := by kernel_rfl
def c8 (l : List I8) : List Value := l.map fun c => Value.int .i8 c.1
theorem c8_length (l : List I8) : (c8 l).length = l.length := by simp [c8]
theorem c8_append (a b : List I8) : c8 (a ++ b) = c8 a ++ c8 b := by simp [c8]
theorem c8_get {l : List I8} {i : Nat} (h : i < l.length) : (c8 l)[i]? = some (.int .i8 l[i].1) := by simp [c8, h]
theorem c8_one (l : List I8) : ∀ u ∈ c8 l, u.oneCell' = true := by
  intro u hu
  obtain ⟨c, _, rfl⟩ := List.mem_map.1 hu
  rfl
/-- a list of digits of one's own; one that is read -/
def Own8 (w : World) (B : Nat) (v : Value) (l : List I8) : Prop := w.ownsRow B 40 1 v l.length (c8 l)
def Sl8 (w : World) (v : Value) (l : List I8) : Prop := ∃ a c, v = .slice a l.length c ∧ l.length ≤ c ∧ (l = [] ∨ ∃ b off, a = some ⟨b, off, none⟩ ∧ b < w.heap.size ∧ ∀ i (h : i < l.length), w.cell? ⟨b, off + i, none⟩ = some (.int .i8 l[i].1))
theorem own8_nil (w : World) (B : Nat) : Own8 w B (.slice none 0 0) [] := World.ownsRow_nil w B 40 1
theorem Sl8.lain {w w' : World} {v : Value} {l : List I8} (h : Sl8 w v l) (k : Lain w w') : Sl8 w' v l := by
  obtain ⟨a, c, e, hc0, h⟩ := h
  refine ⟨a, c, e, hc0, ?_⟩
  rcases h with h | ⟨b, off, e2, hb, hc⟩
  · exact .inl h
  · exact .inr ⟨b, off, e2, Nat.lt_of_lt_of_le hb k.2.2.1, fun i hi => (k.cell _ hb).trans (hc i hi)⟩
theorem Own8.sl {w : World} {B : Nat} {v : Value} {l : List I8} (h : Own8 w B v l) : Sl8 w v l := by
  have h2 := h.2
  rcases h2 with ⟨rfl, e⟩ | ⟨g, cap, cur, rfl, hbg, hg, hnc, _⟩
  · have hl : l = [] := List.eq_nil_of_length_eq_zero e
    subst hl
    exact ⟨none, 0, rfl, Nat.le_refl _, .inl rfl⟩
  · refine ⟨_, _, rfl, hnc, .inr ⟨g, 0, rfl, ?_, fun i hi => ?_⟩⟩
    · have := (World.ownsRow.lt h g rfl).2; exact this
    · have := World.ownsRow.cells h (g := g) rfl i _ (c8_get hi)
      rwa [add_plain] at this
theorem Own8.below {w w' : World} {B : Nat} {v : Value} {l : List I8} (h : Own8 w B v l) (k : Lain w w') : Own8 w' B v l := by
  refine ⟨h.1, ?_⟩
  rcases h.2 with e | ⟨g, cap, cur, e, hbg, hg, r⟩
  · exact .inl e
  · have hlt : g < w.heap.size := by
      rcases Nat.lt_or_ge g w.heap.size with h1 | h1
      · exact h1
      · rw [Array.getElem?_eq_none h1] at hg; cases hg
    exact .inr ⟨g, cap, cur, e, hbg, by rw [k.2.2.2 g hlt]; exact hg, r⟩
theorem Own8.len {w : World} {B : Nat} {v : Value} {l : List I8} (h : Own8 w B v l) : ∃ a c, v = .slice a l.length c := by
  rcases h.2 with ⟨rfl, e⟩ | ⟨g, cap, cur, rfl, _⟩
  · exact ⟨none, 0, by rw [e]⟩
  · exact ⟨_, _, rfl⟩
def z8 : I8 := ⟨0, by decide⟩
/-- the digits of a list as a function -/
def at8 (l : List I8) (j : Nat) : I8 := l.getD j z8
theorem at8_lt {l : List I8} {j : Nat} (h : j < l.length) : at8 l j = l[j] := by simp [at8, List.getD, h]
theorem Sl8.dig {w : World} {v : Value} {l : List I8} (h : Sl8 w v l) : DigS w.heap.size w v l.length (at8 l) := by
  obtain ⟨a, c, rfl, _, h⟩ := h
  rcases h with rfl | ⟨b, off, rfl, hb, hc⟩
  · exact .inl ⟨rfl, a, c, rfl⟩
  · exact .inr ⟨b, off, c, rfl, hb, fun j hj => by rw [hc j hj, at8_lt hj]⟩
/-- digits that stand in memory are appended to a list of one's own -/
theorem wpList_app8 {ops : Array Oper} {rest : List Oper} {o : Oper} {a : Act} {w : World} {Q : Exit → Act → World → Prop} (hgd : o.guard = none) (s x : Operand)
    (ho : o.op = .call { callee := .builtin .append, args := #[s, x], argTypes := #[30, 30] }) (B : Nat) (v : Value) (l m : List I8) (hs : a.eval s = v) (hown : Own8 w B v l)
    (ad : Addr) (c : Nat) (hx : a.eval x = .slice (some ad) m.length c) (hm : ∀ j u, (c8 m)[j]? = some u → w.cell? (ad.add j) = some u) (hn : l.length + m.length ≤ 140737488355328) (hB : B ≤ w.heap.size)
    (h : ∀ v' w', Own8 w' B v' (l ++ m) → Below B w w' → wpList Tryd.prog ops Q rest (a.put o.dst v') w') : wpList Tryd.prog ops Q (o :: rest) a w := by
  obtain ⟨i0, hi, hz0, hz1, hz2⟩ := info_parts Tryd.infoI8
  refine wpList_append_own w hgd s x 30 ho B 40 i0 (.int .i8 0) 1 1 Tryd.underlying30 hi hz0 hz1 hz2 rfl (by decide) v l.length (c8 l) hs hown ad m.length c (c8 m) hx (by simp [c8]) hm (c8_one m) (by unfold maxLen; omega) (by omega) hB ?_
  intro v' w' h1 h2 _
  refine h v' w' ?_ ((Below.refl B w).grown h2 hB (fun k hk => (World.ownsRow.lt hown k hk).1))
  unfold Own8
  rw [List.length_append, c8_append]
  exact h1
theorem wpList_app81 {ops : Array Oper} {rest : List Oper} {o : Oper} {a : Act} {w : World} {t : TypeId} {Q : Exit → Act → World → Prop} (hgd : o.guard = none) (s x : Operand)
    (ho : o.op = .call { callee := .builtin .append, args := #[s, x], argTypes := #[30, 30] }) (B : Nat) (v : Value) (l m : List I8) (hs : a.eval s = v) (hown : Own8 w B v l)
    (c : Nat) (hx : a.eval x = .slice (some ⟨w.heap.size, 0, none⟩) m.length c) (hn : l.length + m.length ≤ 140737488355328) (hB : B ≤ w.heap.size)
    (h : ∀ v' w', Own8 w' B v' (l ++ m) → Below B w w' → wpList Tryd.prog ops Q rest (a.put o.dst v') w') : wpList Tryd.prog ops Q (o :: rest) a (w.alloc (.cells (c8 m).toArray t)) := by
  refine wpList_app8 hgd s x ho B v l m hs (Own8.below hown ((Lain.refl w).alloc _)) _ c hx (cells_new w t (c8 m)) hn (by simp; omega) ?_
  intro v' w' h1 h2
  exact h v' w' h1 (((Below.refl B w).alloc hB _).trans h2)
theorem run_app_none8 {w : World} {v : Value} {B : Nat} {l : List I8} {ty : TypeId} {c : Nat} (h : Own8 w B v l) : (Builtin.append_ #[30, 30] ty #[v, .slice none 0 c]).run Tryd.prog w = .ok v w := by
  obtain ⟨i0, hi, hz0, hz1, hz2⟩ := info_parts Tryd.infoI8
  rcases h.2 with ⟨rfl, h1⟩ | ⟨g, cap, cur, rfl, _, _, hnc, _⟩
  · simp [Builtin.append_, run_underlying Tryd.underlying30, sizeOf, typeInfo, hi, Builtin.lenOf, Builtin.firstCells]
  · simp [Builtin.append_, run_underlying Tryd.underlying30, sizeOf, typeInfo, hi, Builtin.lenOf, Builtin.firstCells, hnc, storeCells]
theorem wpList_appSl8 {ops : Array Oper} {rest : List Oper} {o : Oper} {a : Act} {w : World} {Q : Exit → Act → World → Prop} (hgd : o.guard = none) (s x : Operand)
    (ho : o.op = .call { callee := .builtin .append, args := #[s, x], argTypes := #[30, 30] }) (B : Nat) (v vx : Value) (l m : List I8) (hs : a.eval s = v) (hown : Own8 w B v l)
    (hx : a.eval x = vx) (hm : Sl8 w vx m) (hn : l.length + m.length ≤ 140737488355328) (hB : B ≤ w.heap.size)
    (h : ∀ v' w', Own8 w' B v' (l ++ m) → Below B w w' → wpList Tryd.prog ops Q rest (a.put o.dst v') w') : wpList Tryd.prog ops Q (o :: rest) a w := by
  obtain ⟨ad, c, rfl, hc, hm⟩ := hm
  cases ad with
  | some ad =>
    refine wpList_app8 hgd s x ho B v l m hs hown ad c hx ?_ hn hB h
    rcases hm with rfl | ⟨b, off, e, hb, hcell⟩
    · intro j u hj; simp [c8] at hj
    · cases e
      intro j u hj
      have hjl : j < m.length := by have := (List.getElem?_eq_some_iff.1 hj).1; rwa [c8_length] at this
      rw [c8_get hjl] at hj
      rw [add_plain, hcell j hjl]; exact hj
  | none =>
    rcases hm with rfl | ⟨b, off, e, _⟩
    · refine wpList_plain hgd fun K hK => ?_
      have hr := run_app_none8 (ty := o.type) (c := c) hown
      unfold Oper.wp execOp
      simp only [List.length_nil] at hx
      simp only [ho, resolve, invoke, builtin, Sem.run_bind, Sem.run_pure, Result.andThen_ok, List.map_toArray, List.map_cons, List.map_nil, hs, hx, hr]
      exact hK _ _ (h v w (by rw [List.append_nil]; exact hown) (Below.refl _ _))
    · cases e
theorem one_le {H : Type} (d : DataW H) : 1 ≤ Rows.uptoBulk d := by
  cases d with
  | lit l => cases l <;> simp [Rows.uptoBulk]
  | nil => simp [Rows.uptoBulk]
  | ptr d => simp [Rows.uptoBulk]
  | slice elems spare => simp [Rows.uptoBulk]
  | agg parts => simp [Rows.uptoBulk]
  | iface t d => simp [Rows.uptoBulk]
  | map entries => simp [Rows.uptoBulk]
  | held h => simp [Rows.uptoBulk]
theorem len_le {H : Type} (l : List (DataW H)) : l.length ≤ Rows.uptoBulkAll l := by
  induction l with
  | nil => simp [Rows.uptoBulkAll]
  | cons x r ih => have := one_le x; simp only [Rows.uptoBulkAll, List.length_cons]; omega
set_option maxRecDepth 100000 in
theorem cells8i : Tryd.prog.cellsOf 40 = 1 := by kernel_rfl
def toI8 (z : Int) : I8 := if h : -128 ≤ z ∧ z ≤ 127 then ⟨z, h⟩ else z8
/-- a list of digits as an argument -/
theorem open_digits {H : Type} {enc : TypeId × Value → H} {W : World} {v : Value} {d : DataW H} {ps : List MemPlace} (h : DataW.Trod enc Tryd.prog W 0 (fun _ => true) true 30 v d ps) (a : Option Addr) (len cap : Nat) (hv : v = .slice a len cap) :
    ∃ l, Sl8 W v l ∧ l.length ≤ Rows.uptoBulk d := by
  subst hv
  obtain ⟨fuel, hf⟩ := h
  have hf' : DataW.trod enc Tryd.prog W 0 (fun _ => true) true fuel 30 [.slice a len cap] = some (d, ps) := hf
  rcases open_ints Tryd.underlying30 Tryd.underlying40 cells8i hf' with ⟨e1, _⟩ | ⟨ad, l2, c2, zs, e1, _, hlc, _, hzl, hx, hcell, hwf⟩
  · simp only [List.cons.injEq, Value.slice.injEq, and_true] at e1
    obtain ⟨rfl, rfl, rfl⟩ := e1
    exact ⟨[], ⟨none, 0, rfl, Nat.le_refl _, .inl rfl⟩, Nat.zero_le _⟩
  · simp only [List.cons.injEq, Value.slice.injEq, and_true] at e1
    obtain ⟨rfl, rfl, rfl⟩ := e1
    simp only [if_true] at hzl
    injection hx with hd _
    refine ⟨(zs.take len).map toI8, ⟨some ad, cap, ?_, ?_, ?_⟩, ?_⟩
    · rw [List.length_map, List.length_take, Nat.min_eq_left (by omega)]
    · rw [List.length_map, List.length_take]; omega
    · rcases Nat.eq_zero_or_pos len with h0 | h0
      · left; subst h0; simp
      · right
        have h00 := hcell 0 (by omega)
        obtain ⟨b, off, rfl⟩ : ∃ b off, ad = ⟨b, off, none⟩ := by
          obtain ⟨b, off, sp⟩ := ad
          cases sp with
          | none => exact ⟨b, off, rfl⟩
          | some s => exfalso; simp only [World.cell?, Addr.add] at h00; split at h00 <;> simp at h00
        refine ⟨b, off, rfl, block_lt_of_cell (a := ⟨b, off + 0, none⟩) (by rw [add_plain] at h00; exact h00), fun i hi => ?_⟩
        rw [List.length_map, List.length_take] at hi
        have h1 := hcell i (by omega)
        rw [add_plain] at h1
        rw [h1]
        have hi2 : i < zs.length := by omega
        have hz := hwf zs[i] (List.getElem_mem hi2)
        have hb : -128 ≤ zs[i] ∧ zs[i] ≤ 127 := by
          simpa [Lit.wf, IntKind.min, IntKind.max, IntKind.signed, IntKind.bits] using hz
        simp only [List.getElem_map, List.getElem_take, List.getD_eq_getElem?_getD, List.getElem?_eq_getElem hi2, Option.getD_some]
        rw [toI8, dif_pos hb]
    · rw [hd]
      simp only [Rows.uptoBulk, List.length_map]
      have := len_le (lits (H := H) .i8 (zs.take len))
      have e : (lits (H := H) .i8 (zs.take len)).length = (zs.take len).length := by simp [lits]
      omega
end Go.Proofs.YteijccjdejjbjaaDoor
namespace Go.Proofs.YteijccjdejjbjaaDoor
open Go.RowKit Go.Shelf ScalarNum

set_option maxRecDepth 100000 in
set_option maxHeartbeats 1000000 in
theorem refReduce_num (x : Nat) (hx : x < M * M) (w : World) (hO : w.rangeAt 1 0 (yl 32 L)) : Calls Tryd.prog 16 #[yv 64 x] w fun e w' => e = .returned (yv 32 (x % L)) ∧ Grown w w' := by
  obtain ⟨ii, hi1, hi2, hi3, hi4⟩ := hI8
  have h00 := alloc2 w 22 23 (yl 64 x) (yl 32 0).toArray
  rw [show (yl 32 0).toArray.size = 32 from rfl] at h00
  have HO1 := Hid.of hO
  have HXM := Hid.of hx
  clear hO hx
  rw [yv]
  go_enter Tryd.func16, Tryd.ntmps16
  go_wp2
  rw [← yl32_zero]
  generalize ((w.alloc (.cells (yl 64 x).toArray 22)).alloc (.cells (yl 32 0).toArray 23)) = W1 at *
  have H0 := Hid.of h00.1
  have T0 := Hid.of h00.2.2.1
  have G0 := Hid.of h00.2.2.2
  clear h00
  go_loopw [3, 4] (fun v3 v4 wr => ∃ i : Nat, v4 = .int .i64 (i : Int) ∧ i ≤ 64 ∧ wr.ownsRow W1.heap.size 5 1 v3 i (yl i x) ∧ (i = 0 ∨ ∃ g cap, v3 = .slice (some ⟨g, 0, none⟩) i cap) ∧ Grown W1 wr) (fun _ v4 _ => 64 - (intOf v4).toNat)
  case atStart => exact ⟨0, rfl, by decide, World.ownsRow_nil _ _ _ _, .inl rfl, Grown.refl _⟩
  case round =>
    obtain ⟨i, rfl, hi, hown, hsl, hg⟩ := hrel
    by_cases hlt : i < 64
    · have d1 : wr.cell? ⟨w.heap.size, i, none⟩ = some (.int .u8 (dg 256 x i : Nat)) := by
        have := rangeAt_grown H0.out hg i _ (yl_get 64 x i hlt); rwa [Nat.zero_add] at this
      have b1 : (i : Int) < 64 := Int.ofNat_lt.2 hlt
      have HO := Hid.of hown
      have HG := Hid.of hg
      have HY := Hid.of (yl_succ i x)
      clear hown hg hsl
      generalize dg 256 x i = d at *
      go_wp2_with (with_reducible show wpList _ _ _ ({ dst := _, op := Op.call { callee := Callee.builtin Builtin.append, args := _, argTypes := _ }, type := _, pos := _, after := _, guard := _ } :: _) _ _; refine Shut.out ?_)
      show wpList _ _ _ _ _ _
      refine wpList_append_one (W0 := W1) rfl _ _ rfl Tryd.underlying64 hi1 hi2 hi3 hi4 rfl _ i (yl i x) rfl (HO.out.alloc _) ⟨wr.heap.size, 0, none⟩ 1 (.int .u8 (d : Int)) rfl (by simp [Addr.add]) rfl (by omega) (Grown.alloc HG.out _ _) ?_
      intro v' w' ho' hgr hv' hg'
      rw [HY.out] at ho'
      simp only [Act.put, List.setIfInBounds_toArray, List.set_cons_zero, List.set_cons_succ]
      have HO' := Hid.of ho'
      have HG' := Hid.of hg'
      have HV' := Hid.of hv'
      clear ho' hg' hv' hgr HO HG HY d1
      go_wp2
      go_roundw
      case rel => exact ⟨i + 1, by go_num, by omega, HO'.out, .inr HV'.out, HG'.out⟩
      case measure => simp [intOf]; omega
    · have hi32 : i = 64 := by omega
      subst hi32
      obtain ⟨g, cap, rfl⟩ := hsl.resolve_left (by decide)
      have HR := Hid.of (And.intro (owns_range hown) hg)
      clear hown hg hi hlt hsl
      go_wp2_with fail
      refine Calls.mono (rest_num g 64 x cap (by decide) (by rw [show (256 : Nat) ^ 64 = M * M from by decide]; exact HXM.out) _ HR.out.1 (rangeAt_grown HO1.out (grown_trans G0.out HR.out.2))) ?_
      rintro e w9 ⟨rfl, g9⟩
      dsimp only
      have H9 := Hid.of (And.intro (there_grown T0.out (grown_trans HR.out.2 g9)) (grown_trans G0.out (grown_trans HR.out.2 g9)))
      clear HR g9
      go_wp2_with (with_reducible show wpList _ _ _ ({ dst := _, op := Op.store 23 _ _, type := _, pos := _, after := _, guard := _ } :: _) _ _; refine Shut.out ?_)
      show wpList _ _ _ _ _ _
      refine wpList_store32 rfl _ _ rfl (w.heap.size + 1) (x % L) rfl rfl (H9.out.1) ?_
      simp only [Act.put]
      apply wpList_nil
      repeat go_step
      refine bodyPost_ret (v := yv 32 (x % L)) (result32 Tryd.results16 _ _ (w.heap.size + 1) _ ?hp (World.rangeAt_setCells_same _ _ _ _ (by rw [yl_length]; exact H9.out.1))) ?hd ?_
      case hp => rfl
      case hd => rfl
      exact ⟨rfl, grown_setCells (by omega) _ _ (H9.out.2)⟩

theorem info64 : (Tryd.prog.info? 22).map (·.size) = some 64 := by kernel_rfl
theorem dgb_mod (v i : Nat) (h : i < 32) : dg 256 (v % M) i = dg 256 v i := by
  have e : v = v / M * 256 ^ 32 + v % M := by rw [show (256 : Nat) ^ 32 = M from by decide, Nat.mul_comm]; exact (Nat.div_add_mod v M).symm
  conv => rhs; rw [e, dg_low (by decide) _ _ _ _ h]
theorem dgb_div (v i : Nat) : dg 256 (v / M) i = dg 256 v (32 + i) := by
  unfold dg
  rw [show M = 256 ^ 32 from by decide, Nat.div_div_eq_div_mul, ← Nat.pow_add]
theorem byte_low {w : World} {b v : Nat} (h : w.rangeAt b 0 (yl 64 v)) : w.rangeAt b 0 (yl 32 (v % M)) := by
  intro j u hj
  have hj4 : j < 32 := by
    have := (List.getElem?_eq_some_iff.1 hj).1; rwa [yl_length] at this
  rw [yl_get 32 _ j hj4, dgb_mod v j hj4, ← yl_get 64 v j (by omega)] at hj
  exact h j u hj
theorem byte_high {w : World} {b v : Nat} (h : w.rangeAt b 0 (yl 64 v)) : w.rangeAt b 32 (yl 32 (v / M)) := by
  intro j u hj
  have hj4 : j < 32 := by
    have := (List.getElem?_eq_some_iff.1 hj).1; rwa [yl_length] at this
  rw [yl_get 32 _ j hj4, dgb_div v j, ← yl_get 64 v (32 + j) (by omega)] at hj
  have := h (32 + j) u hj
  rwa [Nat.zero_add] at this

section
variable {ops : Array Oper} {Q : Exit → Act → World → Prop} {md : Region.Mode} {S : World → Prop} {fuel : Nat} {listed : Array Bool} {a : Act} {w : World}
theorem take32o (i : Nat) (n b o : Nat) {oi : Oper} (hi : ops.toList[i]? = some oi) (hs : Region.noSelect ops = true) (hf : Region.free md ops listed i = true) (hr : (Region.ready md ops listed).contains i = true)
    (hQ : ∀ c a w, Q (.panic c) (a.put oi.dst (yv 32 n)) w → Q (.panic c) a w) (hw : Region.wanted oi (yielded ops a.tmps) = true) {x : Operand} (ho : oi.op = .load 23 x)
    (hx : a.eval x = .pointer (some ⟨b, o, none⟩)) (hS : ∀ w, S w → w.rangeAt b o (yl 32 n)) (hSw : S w)
    (h : wpAnyH Tryd.prog md ops Q S fuel (listed.setIfInBounds i true) (a.put oi.dst (yv 32 n)) w) : wpAnyH Tryd.prog md ops Q S (fuel + 1) listed a w :=
  wpAnyH_take (i := i) (oi := oi) (v := yv 32 n) (by rw [← Array.getElem?_toList]; exact hi) hs hf hr hQ
    (yieldsIf_load_mid hw 23 x ho b o hx (yl 32 n) _ hS Tryd.underlying23 rfl (by rw [yl_length]; exact info32)) hSw h
end

set_option maxRecDepth 100000 in
set_option maxHeartbeats 1000000 in
theorem Reduce_num (v : Nat) (hv : v < M * M) (w : World) (hT : Tab w) : Calls Tryd.prog 15 #[yv 64 v] w fun e w' => e = .returned (yv 32 (sred v)) ∧ Grown w w' := by
  have h0 := alloc2 w 22 23 (yl 64 v) (yl 32 0).toArray
  rw [show (yl 32 0).toArray.size = 32 from rfl] at h0
  have hlM : v % M < M := Nat.mod_lt _ (by decide)
  have hhM : v / M < M := Nat.div_lt_of_lt_mul hv
  have HT := Hid.of hT
  clear hT
  rw [yv]
  go_enter Tryd.func15, Tryd.ntmps15
  go_wp2
  rw [← yl32_zero]
  generalize ((w.alloc (.cells (yl 64 v).toArray 22)).alloc (.cells (yl 32 0).toArray 23)) = W0 at *
  refine wp_region_noPanic ?_
  refine wp_region_held_drew (S := fun w' => w'.rangeAt w.heap.size 0 (yl 64 v) ∧ w'.there (w.heap.size + 1) 0 32 ∧ Grown w w') (by kernel_rfl) ⟨h0.1, h0.2.2.1, h0.2.2.2⟩ (fun hH => ?_)
  clear h0
  refine takeV 0 (.slice (some ⟨w.heap.size, 0, none⟩) 32 64) rfl (by kernel_rfl) (by kernel_rfl) (by kernel_rfl) (fun _ _ _ h => h) (by rfl) (fun _ _ => by kernel_rfl) hH ?_
  simp only [Act.put, List.setIfInBounds_toArray, List.set_cons_zero, List.set_cons_succ]
  refine takeV 1 (.pointer (some ⟨w.heap.size, 0, none⟩)) rfl (by kernel_rfl) (by kernel_rfl) (by kernel_rfl) (fun _ _ _ h => h) (by rfl) (fun _ _ => by kernel_rfl) hH ?_
  simp only [Act.put, List.setIfInBounds_toArray, List.set_cons_zero, List.set_cons_succ]
  refine take32o 2 (v % M) w.heap.size 0 rfl (by kernel_rfl) (by kernel_rfl) (by kernel_rfl) (fun _ _ _ h => h) (by rfl) rfl rfl (fun _ h => byte_low h.1) hH ?_
  simp only [Act.put, List.setIfInBounds_toArray, List.set_cons_zero, List.set_cons_succ]
  refine takeV 4 (.slice (some ⟨w.heap.size, 32, none⟩) 32 32) rfl (by kernel_rfl) (by kernel_rfl) (by kernel_rfl) (fun _ _ _ h => h) (by rfl) (fun _ _ => by kernel_rfl) hH ?_
  simp only [Act.put, List.setIfInBounds_toArray, List.set_cons_zero, List.set_cons_succ]
  refine takeV 5 (.pointer (some ⟨w.heap.size, 32, none⟩)) rfl (by kernel_rfl) (by kernel_rfl) (by kernel_rfl) (fun _ _ _ h => h) (by rfl) (fun _ _ => by kernel_rfl) hH ?_
  simp only [Act.put, List.setIfInBounds_toArray, List.set_cons_zero, List.set_cons_succ]
  refine take32o 6 (v / M) w.heap.size 32 rfl (by kernel_rfl) (by kernel_rfl) (by kernel_rfl) (fun _ _ _ h => h) (by rfl) rfl rfl (fun _ h => byte_high h.1) hH ?_
  simp only [Act.put, List.setIfInBounds_toArray, List.set_cons_zero, List.set_cons_succ]
  refine step1 3 (by kernel_rfl) rfl (fun K hK => ?_)
  go_simp
  refine Calls.mono (load_num (v % M) hlM _) ?_
  rintro e w1 ⟨rfl, hg1⟩
  dsimp only
  refine hK.out _ _ (keep2 hH hg1) (fun hH => ?_)
  clear hK K
  refine step1 7 (by kernel_rfl) rfl (fun K hK => ?_)
  go_simp
  refine Calls.mono (load_num (v / M) hhM _) ?_
  rintro e w2 ⟨rfl, hg2⟩
  dsimp only
  refine hK.out _ _ (keep2 hH hg2) (fun hH => ?_)
  clear hK K
  refine takeV 8 (wv 8 v) rfl (by kernel_rfl) (by kernel_rfl) (by kernel_rfl) (fun _ _ _ h => h) (by rfl) (fun _ _ => build_prod rfl rfl rfl) hH ?_
  simp only [Act.put, List.setIfInBounds_toArray, List.set_cons_zero, List.set_cons_succ]
  refine step1 9 (by kernel_rfl) rfl (fun K hK => ?_)
  go_simp
  refine Calls.mono (prod_num v hv _ (HT.out.grown hH.2.2)) ?_
  rintro e w3 ⟨rfl, hg3⟩
  dsimp only
  refine hK.out _ _ (keep2 hH hg3) (fun hH => ?_)
  clear hK K
  refine step1 10 (by kernel_rfl) rfl (fun K hK => ?_)
  go_simp
  refine Calls.mono (bytes_num _ (modL_ltM _) _) ?_
  rintro e w4 ⟨rfl, hg4⟩
  dsimp only
  refine hK.out _ _ (keep2 hH hg4) (fun hH => ?_)
  clear hK K
  obtain ⟨hr1, hth, hgw⟩ := hH
  rw [show v % L = sred v from rfl]
  refine step1 11 (by kernel_rfl) rfl (fun K hK => ?_)
  refine store32 (sred v) (w.heap.size + 1) rfl (by rfl) rfl rfl hth ?_
  simp only [Act.put]
  refine hK.out _ _ ⟨World.rangeAt_setCells_apart hr1 _ _ _ (by left; omega), World.there_setCells hth _ _ _, grown_setCells (by omega) _ _ hgw⟩ (fun _ => ?_)
  clear hK K
  refine wpAnyH_done (by kernel_rfl) ?_ _
  refine NoPanic.normal ?_
  repeat go_step
  refine bodyPost_ret (v := yv 32 (sred v)) (result32 Tryd.results15 _ _ (w.heap.size + 1) _ ?hp (World.rangeAt_setCells_same _ _ _ _ (by rw [yl_length]; exact hth))) ?hd ?_
  case hp => rfl
  case hd => rfl
  exact ⟨rfl, grown_setCells (by omega) _ _ hgw⟩
end Go.Proofs.YteijccjdejjbjaaDoor
