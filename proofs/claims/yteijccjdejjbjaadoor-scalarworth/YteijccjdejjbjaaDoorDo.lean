import Derived.Test.YteijccjdejjbjaaDoorPt
import Derived.Laws.MakeOwn
namespace Go.Proofs.YteijccjdejjbjaaDoor
open Go.RowKit Go.Shelf ScalarNum

/-- the digits so far -/
def dl (w X i : Nat) : List Value := (List.range 257).map fun j => .int .i8 (if j < i then dn w X j else 0)
theorem dl_length (w X i : Nat) : (dl w X i).length = 257 := by simp [dl]
theorem dl_get (w X i j : Nat) (h : j < 257) : (dl w X i)[j]? = some (.int .i8 (if j < i then dn w X j else 0)) := by simp [dl, h]
theorem dl_set (w X i : Nat) (h : i < 257) : (dl w X i).set i (.int .i8 (dn w X i)) = dl w X (i + 1) := by
  apply List.ext_getElem?
  intro j
  rw [List.getElem?_set, dl_length]
  by_cases hj : j < 257
  · rw [dl_get _ _ _ _ hj, dl_get _ _ _ _ hj]
    by_cases e : i = j
    · subst e
      rw [if_pos rfl, if_pos h, if_pos (by omega)]
    · rw [if_neg e]
      by_cases hlt : j < i
      · rw [if_pos hlt, if_pos (by omega)]
      · rw [if_neg hlt, if_neg (by omega)]
  · rw [if_neg (by omega), List.getElem?_eq_none (by rw [dl_length]; omega), List.getElem?_eq_none (by rw [dl_length]; omega)]
theorem dl_same (w X i : Nat) (h : dn w X i = 0) : dl w X (i + 1) = dl w X i := by
  unfold dl
  apply List.map_congr_left
  intro j _
  by_cases e : j = i
  · subst e; rw [if_pos (by omega), if_neg (by omega), h]
  · by_cases hlt : j < i
    · rw [if_pos hlt, if_pos (by omega)]
    · rw [if_neg hlt, if_neg (by omega)]

theorem hI8 : ∃ i, Tryd.prog.info? 40 = some i ∧ i.zero = some (.int .i8 0) ∧ i.size = 1 ∧ i.bytes = 1 := by
  obtain ⟨i, hi⟩ : ∃ i, Tryd.prog.info? 40 = some i := Option.isSome_iff_exists.1 (by kernel_rfl)
  have h1 : (Tryd.prog.info? 40).map (fun i => (i.zero, i.size, i.bytes)) = some (some (.int .i8 0), 1, 1) := by kernel_rfl
  rw [hi] at h1
  simp at h1
  exact ⟨i, hi, h1.1, h1.2.1, h1.2.2⟩
theorem made_eq (X w : Nat) : madeCells (Value.int .i8 0).cells 257 = (dl w X 0).toArray := by
  have h : ∀ j : Nat, (dl w X 0)[j]? = (madeCells (Value.int .i8 0).cells 257).toList[j]? := by
    have e : dl w X 0 = List.replicate 257 (.int .i8 0) := by
      apply List.ext_getElem?
      intro j
      by_cases hj : j < 257
      · rw [dl_get _ _ _ _ hj, if_neg (by omega), List.getElem?_replicate, if_pos hj]
      · rw [List.getElem?_eq_none (by rw [dl_length]; omega), List.getElem?_eq_none (by rw [List.length_replicate]; omega)]
    rw [e]
    intro j
    have : (madeCells (Value.int .i8 0).cells 257).toList = List.replicate 257 (.int .i8 0) := by kernel_rfl
    rw [this]
  have h2 : (madeCells (Value.int .i8 0).cells 257).toList = dl w X 0 := (List.ext_getElem? h).symm
  rw [← h2]

theorem wpList_make {ops : Array Oper} {rest : List Oper} {o : Oper} {a : Act} {w : World} {Q : Exit → Act → World → Prop} (X k : Nat) (hgd : o.guard = none) (ho : o.op = .makeSlice 30 (.const (.int .i64 257)) (.const (.int .i64 257)))
    (h : wpList Tryd.prog ops Q rest (a.put o.dst (.slice (some ⟨w.heap.size, 0, none⟩) 257 257)) (w.alloc (.cells (dl k X 0).toArray 40))) : wpList Tryd.prog ops Q (o :: rest) a w := by
  obtain ⟨i, h1, h2, h3, h4⟩ := hI8
  have hr := run_makeSlice (P := Tryd.prog) w 30 40 i (.int .i8 0) Tryd.underlying30 h1 h2 .i64 .i64 257 257 (by decide) (by decide) (by rw [h3]; decide) (by rw [h4]; decide) (by decide)
  rw [h3, show (257 : Int).toNat * 1 = 257 from rfl, made_eq X k] at hr
  refine wpList_plain hgd fun K hK => ?_
  unfold Oper.wp execOp
  simp only [ho, Act.eval, Sem.run_bind, hr, Result.andThen_ok, Sem.run_pure]
  exact hK _ _ h

structure DX (w0 : World) (bd k X i : Nat) (wr : World) : Prop where
  rx : wr.rangeAt w0.heap.size 0 (wl 4 (nn k X i))
  tx : wr.there w0.heap.size 0 4
  rd : wr.rangeAt bd 0 (dl k X i)
  td : wr.there bd 0 257
  lt : w0.heap.size < bd
  gw : Grown w0 wr

theorem nd_even {k N : Nat} (h : N % 2 = 0) : nd k N = 0 ∧ nq k N = N := by unfold nd nq; rw [if_pos h, if_pos h]; exact ⟨rfl, rfl⟩
theorem M_256 : M = 2 ^ 256 := by decide
theorem low_bit (n : Nat) : dg B n 0 % 2 = n % 2 := by
  unfold dg
  rw [Nat.pow_zero, Nat.div_one]
  show n % 18446744073709551616 % 2 = n % 2
  omega

set_option maxRecDepth 100000 in
set_option maxHeartbeats 4000000 in
theorem digitsOf_num (X k : Nat) (hX : X < M) (hk : 2 ≤ k) (hk8 : k ≤ 8) (w : World) :
    Calls Tryd.prog 49 #[wv 4 X, .int .i64 (k : Int)] w fun e w' => (∃ g, e = .returned (.slice (some ⟨g, 0, none⟩) 257 257) ∧ w.heap.size ≤ g ∧ w'.rangeAt g 0 (dl k X 257) ∧ w'.there g 0 257) ∧ Grown w w' := by
  have hX2 : X < 2 ^ 256 := by rw [← M_256]; exact hX
  have h0 : (w.alloc (.cells (wl 4 X).toArray 62)).rangeAt w.heap.size 0 (wl 4 X) ∧ (w.alloc (.cells (wl 4 X).toArray 62)).there w.heap.size 0 4 ∧ Grown w (w.alloc (.cells (wl 4 X).toArray 62)) ∧ (w.alloc (.cells (wl 4 X).toArray 62)).heap.size = w.heap.size + 1 :=
    ⟨rangeAt_alloc_new w 62 (wl 4 X), there_alloc_new w 62 (wl 4 X).toArray 4 (by rw [List.size_toArray, wl_length]; exact Nat.le_refl _), Grown.alloc (Grown.refl _) _ _, by simp⟩
  have HX := Hid.of (And.intro hX hX2)
  clear hX hX2
  rw [wv]
  go_enter Tryd.func49, Tryd.ntmps49
  go_wp2_with (with_reducible show wpList _ _ _ ({ dst := _, op := Op.makeSlice _ _ _, type := _, pos := _, after := _, guard := _ } :: _) _ _; refine Shut.out ?_)
  show wpList _ _ _ _ _ _
  generalize (w.alloc (.cells (wl 4 X).toArray 62)) = W0 at *
  refine wpList_make X k rfl rfl ?_
  simp only [Act.put, List.setIfInBounds_toArray, List.set_cons_zero, List.set_cons_succ]
  have g1 : Grown W0 (W0.alloc (.cells (dl k X 0).toArray 40)) := Grown.alloc (Grown.refl _) _ _
  have H0 := Hid.of (show DX w W0.heap.size k X 0 (W0.alloc (.cells (dl k X 0).toArray 40)) from
    ⟨rangeAt_grown h0.1 g1, there_grown h0.2.1 g1, rangeAt_alloc_new W0 40 (dl k X 0), there_alloc_new W0 40 (dl k X 0).toArray 257 (by rw [List.size_toArray, dl_length]; exact Nat.le_refl _), by rw [h0.2.2.2]; exact Nat.lt_succ_self _, grown_trans h0.2.2.1 g1⟩)
  clear h0 g1
  generalize W0.alloc (.cells (dl k X 0).toArray 40) = W1 at *
  generalize W0.heap.size = bd at *
  go_wp2
  go_loopw [9] (fun v9 wr => ∃ i : Nat, v9 = .int .i64 (i : Int) ∧ i ≤ 257 ∧ DX w bd k X i wr) (fun v9 _ => 257 - (intOf v9).toNat)
  case atStart => exact ⟨0, rfl, by decide, H0.out⟩
  case round =>
    obtain ⟨i, rfl, hi, hD⟩ := hrel
    clear H0
    have HD := Hid.of hD
    clear hD
    by_cases hlt : i < 257
    · have b1 : (i : Int) < 257 := Int.ofNat_lt.2 hlt
      have hN : nn k X i < M := by rw [M_256]; exact nn_lt hk HX.out.2 hi
      have d1 : wr.cell? ⟨w.heap.size, 0, none⟩ = some (.int .u64 (dg B (nn k X i) 0 : Nat)) := HD.out.rx 0 _ (wl_get 4 _ 0 (by decide))
      have hd : dg B (nn k X i) 0 < B := dg_lt B_pos
      have ha := and1 _ hd
      rw [low_bit] at ha
      have hnx : nn k X (i + 1) = nq k (nn k X i) / 2 := rfl
      have hdn : dn k X i = nd k (nn k X i) := rfl
      have HN := Hid.of (And.intro hN (And.intro hnx hdn))
      generalize dg B (nn k X i) 0 = x0 at *
      clear hnx hdn hd
      by_cases hev : nn k X i % 2 = 0
      · obtain ⟨e1, e2⟩ := nd_even (k := k) hev
        rw [hev] at ha
        have HE := Hid.of (And.intro e1 e2)
        clear e1 e2 hev hN
        go_wp2_with fail
        refine Calls.mono (halve_num w.heap.size (nn k X i) 0 HN.out.1 (by decide) _ HD.out.rx HD.out.tx) ?_
        rintro e w3 ⟨rfl, g3, r3, t3⟩
        have hlt2 := HD.out.lt
        have HD2 := Hid.of (show DX w bd k X (i + 1) w3 from ⟨by rw [HN.out.2.1, HE.out.2]; rw [Nat.zero_mul, Nat.add_zero] at r3; exact r3, t3, by rw [dl_same k X i (by rw [HN.out.2.2]; exact HE.out.1)]; exact g3.range HD.out.rd (by omega), g3.there HD.out.td (by omega), HD.out.lt, GB.own HD.out.gw (Nat.le_refl _) g3⟩)
        clear g3 r3 t3 HD HE HN d1 ha hlt2
        dsimp only
        go_wp2
        go_roundw
        case rel => exact ⟨i + 1, by go_num, by omega, HD2.out⟩
        case measure => simp [intOf]; omega
      · have hodd : nn k X i % 2 = 1 := by
          have := Nat.mod_lt (nn k X i) (show 0 < 2 by decide)
          generalize nn k X i % 2 = t at *
          clear ha d1 hN HN HD
          omega
        rw [hodd] at ha
        have HO := Hid.of hev
        clear hodd hev hN
        go_wp2_with fail
        refine Calls.mono (part_num w.heap.size (nn k X i) k HN.out.1 HO.out hk hk8 _ HD.out.rx HD.out.tx) ?_
        rintro e w3 ⟨⟨v, c, rfl, r3, s3, v3, c3⟩, g3, t3⟩
        have hlt2 := HD.out.lt
        have f1 : w3.frozen? ⟨bd, i, none⟩ = false := by
          have := ((g3.there HD.out.td (by omega)) i hlt).2; rwa [Nat.zero_add] at this
        have f2 := (g3.range HD.out.rd (by omega)) i _ (dl_get k X i i hlt)
        rw [Nat.zero_add] at f2
        generalize (Value.int IntKind.i8 (if i < i then dn k X i else 0)) = u0 at f2
        have HP := Hid.of (show (w3.setCell ⟨bd, i, none⟩ (.int .i8 (nd k (nn k X i)))).rangeAt w.heap.size 0 (wl 4 v) ∧ (w3.setCell ⟨bd, i, none⟩ (.int .i8 (nd k (nn k X i)))).there w.heap.size 0 4 ∧ (w3.setCell ⟨bd, i, none⟩ (.int .i8 (nd k (nn k X i)))).rangeAt bd 0 (dl k X (i + 1)) ∧ (w3.setCell ⟨bd, i, none⟩ (.int .i8 (nd k (nn k X i)))).there bd 0 257 ∧ Grown w (w3.setCell ⟨bd, i, none⟩ (.int .i8 (nd k (nn k X i)))) from by
          refine ⟨range_put r3 _ _ (by omega) _, there_setCell t3 _ _, ?_, there_setCell (g3.there HD.out.td (by omega)) _ _, Grown.setCell (GB.own HD.out.gw (Nat.le_refl _) g3) (by show _ ≤ bd; omega) _⟩
          rw [← dl_set k X i hlt, HN.out.2.2]
          exact range_set (g3.range HD.out.rd (by omega)) i (by rw [dl_length]; exact hlt) _)
        have HS := Hid.of (And.intro s3 (And.intro v3 c3))
        clear r3 s3 v3 c3 g3 t3 d1 ha
        dsimp only
        go_wp2_with fail
        generalize (w3.setCell ⟨bd, i, none⟩ (.int .i8 (nd k (nn k X i)))) = w4 at *
        refine Calls.mono (halve_num w.heap.size v c HS.out.2.1 HS.out.2.2 _ HP.out.1 HP.out.2.1) ?_
        rintro e w5 ⟨rfl, g5, r5, t5⟩
        rw [HS.out.1] at r5
        have HD2 := Hid.of (show DX w bd k X (i + 1) w5 from ⟨by rw [HN.out.2.1]; exact r5, t5, g5.range HP.out.2.2.1 (by omega), g5.there HP.out.2.2.2.1 (by omega), HD.out.lt, GB.own HP.out.2.2.2.2 (Nat.le_refl _) g5⟩)
        clear g5 r5 t5 HD HP HN HS HO f1 f2 hlt2
        dsimp only
        go_wp2
        go_roundw
        case rel => exact ⟨i + 1, by go_num, by omega, HD2.out⟩
        case measure => simp [intOf]; omega
    · have hi7 : i = 257 := by omega
      subst hi7
      go_wp2
      go_ret
      exact ⟨⟨bd, rfl, Nat.le_of_lt HD.out.lt, HD.out.rd, HD.out.td⟩, HD.out.gw⟩
end Go.Proofs.YteijccjdejjbjaaDoor
