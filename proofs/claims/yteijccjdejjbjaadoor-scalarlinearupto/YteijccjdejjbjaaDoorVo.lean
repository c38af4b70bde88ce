import Derived.Test.YteijccjdejjbjaaDoorBk
import Derived.Test.YteijccjdejjbjaaDoorMo
namespace Go.Proofs.YteijccjdejjbjaaDoor
open Go.RowKit Go.Shelf ScalarNum
attribute [local go_sem] Oper.semAt_some

def vf (ys : List (Int × I8)) : Nat := ys.foldl (fun x p => (2 * x + md p.2.1) % L) 0
theorem vf_snoc (pre : List (Int × I8)) (p : Int × I8) : vf (pre ++ [p]) = (2 * vf pre + md p.2.1) % L := by simp [vf]
theorem vf_lt (ys : List (Int × I8)) : vf ys < L := by
  rcases List.eq_nil_or_concat ys with rfl | ⟨pre, p, rfl⟩
  · decide
  · rw [List.concat_eq_append, vf_snoc]; exact Nat.mod_lt _ (by decide)
theorem Tab.lain {w w' : World} (h : Tab w) (hg : Lain w w') : Tab w' := fun q hq => hg.range (h q hq)
theorem two_lt {x : Nat} (hx : x < L) : x < M ∧ (x + x) % M = 2 * x ∧ 2 * x < M := by
  have h3 : 3 * L < M := by decide
  have : x + x < M := by omega
  exact ⟨by omega, by rw [Nat.mod_eq_of_lt this]; omega, by omega⟩
theorem three_lt {x m : Nat} (hx : x < L) (hm : m < L) : m < M ∧ (2 * x + m) % M = 2 * x + m ∧ 2 * x + m < M := by
  have h3 : 3 * L < M := by decide
  have : 2 * x + m < M := by omega
  exact ⟨by omega, Nat.mod_eq_of_lt this, this⟩
theorem wv_open (n : Nat) : wv 4 n = Value.agg #[.int .u64 (dg B n 0 : Nat), .int .u64 (dg B n 1 : Nat), .int .u64 (dg B n 2 : Nat), .int .u64 (dg B n 3 : Nat)] := rfl
theorem four {W : World} {b n : Nat} (h : W.rangeAt b 0 (wl 4 n)) : W.cell? ⟨b, 0, none⟩ = some (.int .u64 (dg B n 0 : Nat)) ∧ W.cell? ⟨b, 1, none⟩ = some (.int .u64 (dg B n 1 : Nat)) ∧ W.cell? ⟨b, 2, none⟩ = some (.int .u64 (dg B n 2 : Nat)) ∧ W.cell? ⟨b, 3, none⟩ = some (.int .u64 (dg B n 3 : Nat)) :=
  ⟨h 0 _ rfl, h 1 _ rfl, h 2 _ rfl, h 3 _ rfl⟩
theorem fourz {W : World} {b : Nat} (h : W.there b 0 4) : W.frozen? ⟨b, 0, none⟩ = false ∧ W.frozen? ⟨b, 1, none⟩ = false ∧ W.frozen? ⟨b, 2, none⟩ = false ∧ W.frozen? ⟨b, 3, none⟩ = false :=
  ⟨(h 0 (by decide)).2, (h 1 (by decide)).2, (h 2 (by decide)).2, (h 3 (by decide)).2⟩

theorem foury {W : World} {b : Nat} (h : W.there b 0 4) : ∃ y0 y1 y2 y3, W.cell? ⟨b, 0, none⟩ = some y0 ∧ W.cell? ⟨b, 1, none⟩ = some y1 ∧ W.cell? ⟨b, 2, none⟩ = some y2 ∧ W.cell? ⟨b, 3, none⟩ = some y3 := by
  obtain ⟨y0, h0⟩ := Option.isSome_iff_exists.1 (h 0 (by decide)).1
  obtain ⟨y1, h1⟩ := Option.isSome_iff_exists.1 (h 1 (by decide)).1
  obtain ⟨y2, h2⟩ := Option.isSome_iff_exists.1 (h 2 (by decide)).1
  obtain ⟨y3, h3⟩ := Option.isSome_iff_exists.1 (h 3 (by decide)).1
  exact ⟨y0, y1, y2, y3, h0, h1, h2, h3⟩
theorem is_cells {W : World} {b : Nat} (h : W.there b 0 4) : ∀ o, W.heap[b]? = some o → o.isCells = true := by
  intro o ho
  have h0 := (h 0 (by decide)).1
  simp only [World.cell?, ho] at h0
  cases o <;> simp_all [Obj.isCells]
theorem there_four {W : World} {b b' : Nat} (h : W.there b 0 4) (vs : List Value) : ∀ (o : Nat), (W.setCells b' o vs).there b 0 4 := by
  induction vs generalizing W with
  | nil => exact fun _ => h
  | cons v r ih => exact fun o => ih (there_setCell h _ _) (o + 1)

theorem set4 (W : World) (b r : Nat) : (((W.setCell ⟨b, 0, none⟩ (.int .u64 (dg B r 0 : Nat))).setCell ⟨b, 1, none⟩ (.int .u64 (dg B r 1 : Nat))).setCell ⟨b, 2, none⟩ (.int .u64 (dg B r 2 : Nat))).setCell ⟨b, 3, none⟩ (.int .u64 (dg B r 3 : Nat)) = W.setCells b 0 (wl 4 r) := rfl

set_option maxRecDepth 100000 in
set_option maxHeartbeats 600000 in
theorem valueOf_num (a : Option Addr) (len cap : Nat) (f : Nat → I8) (hlen : len ≤ 300) (w : World) (hT : Tab w) (hD : DigS w.heap.size w (.slice a len cap) len f) :
    Calls Tryd.prog 46 #[.slice a len cap] w fun e w' => e = .returned (wv 4 (vf (down len f len))) ∧ Lain w w' := by
  refine (callsIn_wide (n := 4)).1 ?_
  refine callsIn_of_wp_marks Tryd.func46 rfl trivial ?_ rfl
  simp only [Tryd.ntmps46, List.size_toArray, List.length_cons, List.length_nil, Nat.reduceAdd, Nat.reduceSub, Array.replicate_succ, Array.replicate_zero, List.push_toArray, List.append_toArray, List.nil_append, List.cons_append]
  have g0 := alloc2 w 62 62 [.int .u64 0, .int .u64 0, .int .u64 0, .int .u64 0] #[Value.int IntKind.u64 0, Value.int IntKind.u64 0, Value.int IntKind.u64 0, Value.int IntKind.u64 0]
  have HT := Hid.of hT
  have HDs := Hid.of hD
  clear hT hD
  gi_wp2_with fail
  obtain ⟨W2, hW2⟩ : ∃ W2, ((w.alloc (.cells #[Value.int IntKind.u64 0, Value.int IntKind.u64 0, Value.int IntKind.u64 0, Value.int IntKind.u64 0] 62)).alloc (.cells #[Value.int IntKind.u64 0, Value.int IntKind.u64 0, Value.int IntKind.u64 0, Value.int IntKind.u64 0] 62)) = W2 := ⟨_, rfl⟩
  have hs2 : W2.heap.size = w.heap.size + 2 := by rw [← hW2]; simp
  have rx : W2.rangeAt (w.heap.size + 1) 0 (wl 4 0) := by
    have := rangeAt_alloc_new (w.alloc (.cells #[Value.int IntKind.u64 0, Value.int IntKind.u64 0, Value.int IntKind.u64 0, Value.int IntKind.u64 0] 62)) 62 (wl 4 0)
    rw [wl4_zero] at this ⊢
    rw [← hW2]
    simpa using this
  obtain ⟨_, t0, t1, g0⟩ := g0
  have g0' : Grown w W2 := hW2 ▸ g0
  have t0' : W2.there w.heap.size 0 4 := hW2 ▸ t0
  have t1' : W2.there (w.heap.size + 1) 0 4 := hW2 ▸ t1
  clear g0 t0 t1
  rw [hW2]
  clear hW2
  refine ⟨trivial, ?_⟩
  refine (callsIn_wide.2 (back_in a len cap W2)).mono ?_
  rintro e w3 ⟨rfl, rfl⟩
  dsimp only
  have g3 : Grown W2 (W2.alloc (.cells #[.slice a len cap] 30)) := Grown.alloc (Grown.refl _) _ _
  have c3 : (W2.alloc (.cells #[.slice a len cap] 30)).cell? ⟨w.heap.size + 2, 0, none⟩ = some (.slice a len cap) := by
    rw [← hs2]; exact (Boxed.new W2 30 (.slice a len cap)).cell
  have hs3 : (W2.alloc (.cells #[.slice a len cap] 30)).heap.size = w.heap.size + 3 := by simp [hs2]
  rw [hs2]
  generalize (W2.alloc (.cells #[.slice a len cap] 30)) = W3 at *
  have hl3 : Lain w W3 := Lain.of (grown_trans g0' g3)
  have hD3 : DigS w.heap.size W3 (.slice a len cap) len f := by
    rcases HDs.out with h | ⟨b, off, cp, h1, h2, h3⟩
    · exact .inl h
    · exact .inr ⟨b, off, cp, h1, h2, fun j hj => (hl3.cell _ h2).trans (h3 j hj)⟩
  have HX := Hid.of (And.intro (rangeAt_grown rx g3) (And.intro (there_grown t1' g3) (And.intro (there_grown t0' g3) hl3)))
  have HY := Hid.of (And.intro hD3 (And.intro c3 hs3))
  clear rx t0' t1' g0' g3 hl3 hD3 c3 hs3 hs2 HDs
  gi_wp2_with fail
  have hs3 := HY.out.2.2
  refine wpIn_rangeFunc_ownG rfl (by decide) (gf := 69) (lb := #[.pointer (some ⟨w.heap.size + 2, 0, none⟩)]) rfl trivial (enters_of Tryd.func69 (by kernel_rfl) rfl)
    (back_stops 3 (by decide) (w.heap.size + 2) w.heap.size (w.heap.size + 3) (w.heap.size + 1) _ len f hlen W3 (by omega) (by omega) (by omega) (by omega) (by omega) HY.out.2.1 HY.out.1) cellsLow_t (cellsLow_b (by omega)) (Below.refl _ _) (fun _ => rfl)
    (fun pre W => (W.rangeAt (w.heap.size + 1) 0 (wl 4 (vf pre)) ∧ W.there (w.heap.size + 1) 0 4) ∧ Lain w W ∧ (W.rangeAt w.heap.size 0 [] ∧ W.there w.heap.size 0 4) ∧ w.heap.size + 3 ≤ W.heap.size)
    (fun _ _ _ => False)
    (OwnFrom.and (range_own _ (fun pre => wl 4 (vf pre)) 4) (OwnFrom.and (lain_own (by omega)) (OwnFrom.and (range_own _ (fun _ => []) 4) (fun s W W' row hs hg hr => Nat.le_trans hs hg.size))))
    (fun _ _ _ _ _ hs _ _ => hs)
    ⟨⟨HX.out.1, HX.out.2.1⟩, HX.out.2.2.2, ⟨fun j v h => by simp at h, HX.out.2.2.1⟩, by omega⟩
    (fun x => { tmps := #[.slice a len cap, undef, .pointer (some ⟨w.heap.size, 0, none⟩), .pointer (some ⟨w.heap.size + 1, 0, none⟩), undef, .int .i8 x.2.1, .slice a len cap, .func (.func 69) #[] #[.pointer (some ⟨w.heap.size + 2, 0, none⟩)], .int .i64 x.1, .int .i8 x.2.1, undef, undef, undef, undef, undef, undef, undef, undef], defers := [] }) ?assign ?body ?done ?stop
  case assign =>
    intro l x W K hK
    gi_wp2
    exact hK
  case body =>
    rintro l pre x W ⟨⟨rx, tx⟩, hl, ⟨_, tr⟩, hsz⟩ _
    clear HX HY hs3
    have hv := vf_lt pre
    have hsn := Hid.of (vf_snoc pre x)
    generalize vf pre = v at *
    have hT : Tab W := HT.out.lain hl
    obtain ⟨c0, c1, c2, c3⟩ := four rx
    have HW := Hid.of (And.intro rx (And.intro tx (And.intro hl (And.intro tr (And.intro hsz (And.intro hT hv))))))
    clear rx tx hl tr hsz hT hv
    gi_wp2_with fail
    refine ⟨trivial, ?_⟩
    rw [← wv_open]
    clear c0 c1 c2 c3
    refine (CallsIn.inRound l (callsIn_wide.2 (add_num (w.heap.size + 1) v v (two_lt HW.out.2.2.2.2.2.2).1 (two_lt HW.out.2.2.2.2.2.2).1 _ HW.out.1 HW.out.2.1))).mono ?_
    rintro e W1 ⟨rfl, g1, r1, t1⟩
    dsimp only
    rw [(two_lt HW.out.2.2.2.2.2.2).2.1] at r1
    have H1 := Hid.of (And.intro g1 (And.intro r1 (And.intro t1 (HW.out.2.2.2.2.2.1.gb g1 (by omega)))))
    clear g1 r1 t1
    gi_wp2_with fail
    refine ⟨trivial, ?_⟩
    refine (CallsIn.inRound l (callsIn_wide.2 (modulo_num x.2.1 x.2.2 _ H1.out.2.2.2))).mono ?_
    rintro e W2 ⟨rfl, g2⟩
    dsimp only
    have hm := md_lt x.2.1
    generalize md x.2.1 = m at *
    have H2 := Hid.of (And.intro (H1.out.1.trans (GB.of g2)) (And.intro (rangeAt_grown H1.out.2.1 g2) (And.intro (there_grown H1.out.2.2.1 g2) (And.intro (H1.out.2.2.2.grown g2) (three_lt HW.out.2.2.2.2.2.2 hm)))))
    clear H1 g2 hm
    gi_wp2_with fail
    refine ⟨trivial, ?_⟩
    refine (CallsIn.inRound l (callsIn_wide.2 (add_num (w.heap.size + 1) (2 * v) m (two_lt HW.out.2.2.2.2.2.2).2.2 H2.out.2.2.2.2.1 _ H2.out.2.1 H2.out.2.2.1))).mono ?_
    rintro e W4 ⟨rfl, g4, r4, t4⟩
    dsimp only
    rw [H2.out.2.2.2.2.2.1] at r4
    obtain ⟨c0, c1, c2, c3⟩ := four r4
    have H4 := Hid.of (And.intro (H2.out.1.trans g4) (And.intro t4 (And.intro (H2.out.2.2.2.1.gb g4 (by omega)) H2.out.2.2.2.2.2.2)))
    clear H2 g4 t4 r4
    gi_wp2_with fail
    refine ⟨trivial, ?_⟩
    rw [← wv_open]
    clear c0 c1 c2 c3
    refine (CallsIn.inRound l (callsIn_wide.2 (reduced_num (2 * v + m) H4.out.2.2.2 _ H4.out.2.2.1))).mono ?_
    rintro e W5 ⟨rfl, g5⟩
    dsimp only
    rw [← hsn.out]
    obtain ⟨r, hrE⟩ : ∃ r, vf (pre ++ [x]) = r := ⟨_, rfl⟩
    rw [hrE]
    have HR := Hid.of hrE
    clear hrE hsn
    have t5 := there_grown H4.out.2.1 g5
    have H5 := Hid.of (And.intro (H4.out.1.trans (GB.of g5)) t5)
    obtain ⟨z0, z1, z2, z3⟩ := fourz t5
    obtain ⟨y0, y1, y2, y3, q0, q1, q2, q3⟩ := foury t5
    clear H4 g5 t5
    rw [wv_open r]
    gi_wp2
    rw [set4]
    have hG : GB (w.heap.size + 1) W (W5.setCells (w.heap.size + 1) 0 (wl 4 r)) := GB.setCells _ H5.out.1
    have hrs : (W5.setCells (w.heap.size + 1) 0 (wl 4 r)).rangeAt (w.heap.size + 1) 0 (wl 4 r) := World.rangeAt_setCells_same _ _ _ _ (by rw [wl_length]; exact H5.out.2)
    have hts : (W5.setCells (w.heap.size + 1) 0 (wl 4 r)).there (w.heap.size + 1) 0 4 := there_four H5.out.2 _ 0
    generalize W5.setCells (w.heap.size + 1) 0 (wl 4 r) = W6 at *
    exact ⟨hG.keeps (is_cells HW.out.2.1), hG.low HW.out.2.2.2.2.1, ⟨by rw [HR.out]; exact hrs, hts⟩, hG.lain HW.out.2.2.1 (by omega), ⟨fun j v h => by simp at h, hG.there HW.out.2.2.2.1 (by omega)⟩, Nat.le_trans HW.out.2.2.2.2.1 hG.2.2⟩
  case done =>
    rintro D ys W hD rfl ⟨⟨rx, tx⟩, hl, ⟨_, tr⟩, hsz⟩ hK
    obtain ⟨c0, c1, c2, c3⟩ := four rx
    obtain ⟨z0, z1, z2, z3⟩ := fourz tr
    obtain ⟨y0, y1, y2, y3, q0, q1, q2, q3⟩ := foury tr
    obtain ⟨v, hvE⟩ : ∃ v, vf (down len f len) = v := ⟨_, rfl⟩
    rw [hvE] at c0 c1 c2 c3
    have HR := Hid.of hvE
    clear hvE
    have H := Hid.of (And.intro tr (And.intro hl (And.intro hD hs3)))
    clear HX HY hs3 rx tx hl tr hsz hD
    gi_wp2
    rw [set4]
    have hG : GB w.heap.size W (W.setCells w.heap.size 0 (wl 4 v)) := GB.setCells _ (GB.refl _ _)
    have hK' : (W.setCells w.heap.size 0 (wl 4 v)).heap[D]? = some (.deferred (some [])) := (hG.keeps (B := 0) (is_cells H.out.1)).same D _ (Nat.zero_le _) hK rfl
    have hr : (W.setCells w.heap.size 0 (wl 4 v)).rangeAt w.heap.size 0 (wl 4 v) := World.rangeAt_setCells_same _ _ _ _ (by rw [wl_length]; exact H.out.1)
    have hl' : Lain w (W.setCells w.heap.size 0 (wl 4 v)) := H.out.2.1.set (Nat.le_refl _) _
    have hDw : w.heap.size ≤ D := by have := H.out.2.2.1; have := H.out.2.2.2; omega
    generalize W.setCells w.heap.size 0 (wl 4 v) = W6 at *
    refine ⟨by simp, .inl ⟨_, _, rfl, run_takeDeferred hK', ?_⟩⟩
    refine ⟨wv 4 v, resultN Tryd.results46 _ _ w.heap.size _ rfl (fun j u hu => cell_kept (hr j u hu) (grownBy_putObj' _ D _) (fun r e => by cases e; exact ⟨_, hK', rfl⟩)), by rw [HR.out], hl'.put hDw _⟩
  case stop =>
    rintro D c pre W _ _ h _
    exact h.elim
end Go.Proofs.YteijccjdejjbjaaDoor
