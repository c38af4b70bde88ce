import Derived.Test.YtgfehlcindapmaaHa
namespace Go.Proofs.Ytgfehlcindapmaa
open Go.RowKit Go.Conc TextNum
def cos (l : List Co) : List Value := l.flatMap coc
theorem cos_snoc (l : List Co) (q : Co) : cos (l ++ [q]) = cos l ++ coc q := by simp [cos]
theorem cos_one (l : List Co) : ∀ u ∈ cos l, u.oneCell' = true := fun u hu => by
  obtain ⟨q, _, h⟩ := List.mem_flatMap.1 hu
  simp only [coc, List.mem_cons, List.not_mem_nil, or_false] at h
  rcases h with rfl | rfl | rfl | rfl <;> rfl
theorem coc_one (q : Co) : ∀ u ∈ coc q, u.oneCell' = true := fun u hu => cos_one [q] u (by simpa [cos] using hu)
theorem cos_get : ∀ (l : List Co) {i : Nat} (hi : i < l.length) (j : Nat) (v : Value), (coc l[i])[j]? = some v → (cos l)[i * 4 + j]? = some v
  | g :: r, 0, _, j, v, hv => by
    have hv2 : (coc g)[j]? = some v := hv
    rw [show cos (g :: r) = coc g ++ cos r from rfl, Nat.zero_mul, Nat.zero_add, List.getElem?_append_left (List.getElem?_eq_some_iff.1 hv2).1]
    exact hv2
  | g :: r, i + 1, hi, j, v, hv => by
    have ih := cos_get r (i := i) (by simpa using hi) j v hv
    have hl : (coc g).length = 4 := rfl
    rw [show cos (g :: r) = coc g ++ cos r from rfl, List.getElem?_append_right (by rw [hl]; omega), hl, show (i + 1) * 4 + j - 4 = i * 4 + j by omega]
    exact ih
/-- a list of one's own of what must come -/
abbrev CO (w : World) (B : Nat) (v : Value) (l : List Co) : Prop := w.ownsRow B 103 4 v l.length (cos l)
theorem infoComes : (Try.prog.info? 103).map (fun i => (i.zero, i.size, i.bytes)) = some (some (.agg #[.int .i64 0, .int .i64 0, .int .i64 0, .slice none 0 0]), 4, 48) := by kernel_rfl
/-- such a list as it is read -/
def CoL (w : World) (a : Option Addr) (l : List Co) : Prop := ∀ i (h : i < l.length), ∃ b off, a = some ⟨b, off, none⟩ ∧ w.rangeAt b (off + i * 4) (coc l[i])
theorem CoL.up {w w' : World} {a : Option Addr} {l : List Co} (h : CoL w a l) (u : Up w w') : CoL w' a l := fun i hi => by
  obtain ⟨b, off, e, k⟩ := h i hi
  exact ⟨b, off, e, range_up' k u⟩
theorem CO.shape {w : World} {B : Nat} {v : Value} {l : List Co} (h : CO w B v l) : ∃ a c, v = .slice a l.length c ∧ (a = none → l = []) ∧ ∀ ad, a = some ad → ∃ g, ad = ⟨g, 0, none⟩ := by
  rcases h.2 with ⟨rfl, h0⟩ | ⟨g, cap, cur, rfl, _, hg, hnc, hcm, _, _⟩
  · have : l = [] := List.eq_nil_of_length_eq_zero h0
    subst this
    exact ⟨none, 0, rfl, fun _ => rfl, fun _ e => by cases e⟩
  · exact ⟨_, cap, rfl, fun e => (by cases e), fun ad e => ⟨g, (Option.some.inj e).symm⟩⟩
theorem CO.read {w : World} {B : Nat} {a : Option Addr} {c : Nat} {l : List Co} (h : CO w B (.slice a l.length c) l) : CoL w a l := by
  intro i hi
  have hc := fun g hg => World.ownsRow.cells h (g := g) hg
  obtain ⟨a', c', e, h1, h2⟩ := h.shape
  injection e with e1 e2 e3
  subst e1 e3
  cases a with
  | none => have := h1 rfl; subst this; cases hi
  | some ad =>
    obtain ⟨g, rfl⟩ := h2 ad rfl
    refine ⟨g, 0, rfl, fun j v hv => ?_⟩
    have := hc g rfl (i * 4 + j) v (cos_get l hi j v hv)
    rw [Addr.add_lit] at this
    rw [show 0 + i * 4 + j = 0 + (i * 4 + j) by omega]
    exact this
theorem putL_none : ∀ {L : List Co} {c : Co}, L.any (ahd c) = false → putL L c = L ++ [c]
  | [], _, _ => rfl
  | x :: r, c, h => by
    rw [List.any_cons, Bool.or_eq_false_iff] at h
    rw [putL, if_neg (by rw [h.1]; simp), putL_none h.2, List.cons_append]
theorem putL_any : ∀ {L : List Co} {c : Co} (x : Co), L.any (ahd c) = true → putL (L ++ [x]) c = putL L c ++ [x]
  | [], _, _, h => by cases h
  | y :: r, c, x, h => by
    rw [List.cons_append, putL, putL]
    by_cases e : ahd c y = true
    · rw [if_pos e, if_pos e]
      rfl
    · rw [if_neg e, if_neg e, putL_any x (by rw [List.any_cons] at h; simpa [e] using h)]
      rfl
theorem putL_here : ∀ {L : List Co} {c : Co} {x : Co}, L.any (ahd c) = false → ahd c x = true → putL (L ++ [x]) c = (L ++ [c]) ++ [x]
  | [], c, x, _, hx => by rw [List.nil_append, putL, if_pos hx]; rfl
  | y :: r, c, x, h, hx => by
    rw [List.any_cons, Bool.or_eq_false_iff] at h
    rw [List.cons_append, putL, if_neg (by rw [h.1]; simp), putL_here h.2 hx]
    rfl
theorem putL_len : ∀ (L : List Co) (c : Co), (putL L c).length ≤ L.length + 1
  | [], c => by simp [putL]
  | x :: r, c => by
    have := putL_len r c
    unfold putL
    split <;> simp only [List.length_cons] <;> omega
/-- what put has made of the first ones -/
def pst (L : List Co) (c : Co) : List Co := if L.any (ahd c) then putL L c else L
theorem pst_len (L : List Co) (c : Co) : (pst L c).length ≤ L.length + 1 := by
  unfold pst
  split
  · exact putL_len L c
  · omega
theorem pst_more {L : List Co} {c x : Co} {b : Bool} (hb : L.any (ahd c) = b) : pst (L ++ [x]) c = (if ahd c x && !b then pst L c ++ [c] else pst L c) ++ [x] ∧ (L ++ [x]).any (ahd c) = (b || ahd c x) := by
  have e : (L ++ [x]).any (ahd c) = (b || ahd c x) := by rw [List.any_append, hb]; simp
  refine ⟨?_, e⟩
  unfold pst
  rw [e, hb]
  cases b with
  | true => simp [putL_any x hb]
  | false =>
    cases h : ahd c x with
    | true => simp [putL_here hb h]
    | false => simp
theorem pst_yes {L : List Co} {c : Co} (hb : L.any (ahd c) = true) : putL L c = pst L c := by
  unfold pst
  rw [hb]
  simp
theorem pst_no {L : List Co} {c : Co} (hb : L.any (ahd c) = false) : putL L c = pst L c ++ [c] := by
  unfold pst
  rw [hb, putL_none hb]
  simp
theorem takeC {l : List Co} {j : Nat} (h : j < l.length) {q : Co} (hq : l[j] = q) : l.take (j + 1) = l.take j ++ [q] := by
  rw [List.take_succ_eq_append_getElem h, hq]
set_option maxRecDepth 100000 in
set_option maxHeartbeats 4000000 in
theorem put_walk (w : World) (a : Option Addr) (c0 : Nat) (D : List Co) (c : Co) (h : CoL w a D) (hl : D.length ≤ 1000) :
    Calls Try.prog 43 #[.slice a D.length c0, .agg (coc c).toArray] w fun e w' => ∃ v, e = .returned v ∧ CO w' w.heap.size v (putL D c) ∧ Up w w' := by
  obtain ⟨i0, hi0, hz0, hz1, hz2⟩ := info_parts infoComes
  obtain ⟨ct, cx, cm, ca, cc, cd⟩ := c
  have HL := Hid.of h
  obtain ⟨n, hn⟩ : ∃ n, D.length = n := ⟨_, rfl⟩
  have HNN := Hid.of (And.intro hn trivial)
  have HU0 := Hid.of ((Up.refl w).alloc (.cells #[.int .i64 (ct : Int), .int .i64 (cx : Int), .int .i64 (cm : Int), .slice ca cd.length cc] 103))
  have HC := Hid.of (at_new w 103 [.int .i64 (ct : Int), .int .i64 (cx : Int), .int .i64 (cm : Int), .slice ca cd.length cc])
  rw [hn] at hl ⊢
  clear h hn
  show Calls Try.prog 43 #[.slice a n c0, .agg #[.int .i64 (ct : Int), .int .i64 (cx : Int), .int .i64 (cm : Int), .slice ca cd.length cc]] w _
  go_enter Try.func43, Try.ntmps43
  go_wp2
  generalize hW0 : w.alloc (.cells #[.int .i64 (ct : Int), .int .i64 (cx : Int), .int .i64 (cm : Int), .slice ca cd.length cc] 103) = W0 at *
  have hb0 : w.heap.size = w.heap.size := rfl
  generalize hb : w.heap.size = b0 at HC ⊢
  go_loopw [5, 6, 7, 8] (fun v5 v6 v7 _ wr => ∃ (j : Nat) (b : Bool), v7 = .int .i64 (j : Int) ∧ v6 = .bool b ∧ j ≤ n ∧ Hid (CO wr W0.heap.size v5 (pst (D.take j) ⟨ct, cx, cm, ca, cc, cd⟩) ∧ (D.take j).any (ahd ⟨ct, cx, cm, ca, cc, cd⟩) = b ∧ Up W0 wr)) (fun _ _ v7 _ _ => n - (intOf v7).toNat)
  case atStart => exact ⟨0, false, rfl, rfl, by omega, Hid.of ⟨⟨rfl, .inl ⟨rfl, rfl⟩⟩, rfl, Up.refl _⟩⟩
  case round =>
    obtain ⟨j, bb, rfl, rfl, hjn, hR⟩ := hrel
    by_cases hlt : j < n
    · have hltz : (j : Int) < (n : Int) := by omega
      have hjw : IntKind.i64.wrap ((j : Int) + 1) = (j : Int) + 1 := by rw [IntKind.wrap_i64]; omega
      have hj : j < D.length := by rw [HNN.out.1]; exact hlt
      have HSU := Hid.of (HU0.out.trans hR.out.2.2)
      have HSW := Hid.of hR.out.2.2
      obtain ⟨b, off, rfl, hrg⟩ := (HL.out.up HSU.out) j hj
      obtain ⟨q, hq⟩ : ∃ q, D[j] = q := ⟨_, rfl⟩
      have HTS := Hid.of (And.intro (takeC hj hq) trivial)
      rw [hq] at hrg
      obtain ⟨qt, qx, qm, qa, qc, qd⟩ := q
      have HRG0 := Hid.of (show W0.rangeAt b (off + j * 4) [.int .i64 (qt : Int), .int .i64 (qx : Int), .int .i64 (qm : Int), .slice qa qd.length qc] from by
        obtain ⟨b', off', e', h'⟩ := (HL.out.up HU0.out) j hj
        obtain ⟨rfl, rfl⟩ : b = b' ∧ off = off' := by simpa using e'
        rw [hq] at h'
        exact h')
      have HRG := Hid.of (show wr.rangeAt b (off + j * 4) [.int .i64 (qt : Int), .int .i64 (qx : Int), .int .i64 (qm : Int), .slice qa qd.length qc] from hrg)
      have HM := Hid.of (pst_more (x := ⟨qt, qx, qm, qa, qc, qd⟩) hR.out.2.1)
      have HO5 := Hid.of hR.out.1
      have HLEN := Hid.of (show (pst (D.take j) ⟨ct, cx, cm, ca, cc, cd⟩).length ≤ 1001 from Nat.le_trans (pst_len _ _) (by rw [List.length_take]; omega))
      clear hR hrg hq
      go_wp2_with fail
      refine wp_region_held_drew (S := fun w2 => Up wr w2) (by kernel_rfl) (Up.refl wr).drew (fun hS => ?_)
      refine wpAnyH_take (i := 0) (oi := { dst := some 15, op := Go.Op.load 103 (Go.Operand.tmp 3), type := 103, pos := "outright.go:85", after := #[], guard := none }) (v := .agg ([.int .i64 (ct : Int), .int .i64 (cx : Int), .int .i64 (cm : Int), .slice ca cd.length cc]).toArray) rfl (by kernel_rfl) (by kernel_rfl) (by kernel_rfl) (fun _ _ _ h => h) (yieldsIf_load_mid (by kernel_rfl) _ _ rfl (b0) (0) rfl ([.int .i64 (ct : Int), .int .i64 (cx : Int), .int .i64 (cm : Int), .slice ca cd.length cc]) _ (fun w5 hSw => (HC.out.up (HSW.out.trans hSw)).range) Try.underlying103 rfl (by kernel_rfl)) hS ?_
      simp only [Act.put, List.setIfInBounds_toArray, List.set_cons_zero, List.set_cons_succ]
      refine wpAnyH_take (i := 1) (oi := { dst := some 16, op := Go.Op.move (Go.Operand.tmp 0), type := 72, pos := "outright.go:85", after := #[], guard := none }) (v := .slice (some ⟨b, off, none⟩) n c0) rfl (by kernel_rfl) (by kernel_rfl) (by kernel_rfl) (fun _ _ _ h => h) (Or.inl ⟨by kernel_rfl, ?_⟩) hS ?_
      · intro w5 hSw
        clear hSw hS
        go_simp
      simp only [Act.put, List.setIfInBounds_toArray, List.set_cons_zero, List.set_cons_succ]
      refine wpAnyH_take (i := 2) (oi := { dst := some 17, op := Go.Op.move (Go.Operand.tmp 7), type := 3, pos := "outright.go:85", after := #[], guard := none }) (v := .int .i64 (j : Int)) rfl (by kernel_rfl) (by kernel_rfl) (by kernel_rfl) (fun _ _ _ h => h) (Or.inl ⟨by kernel_rfl, ?_⟩) hS ?_
      · intro w5 hSw
        clear hSw hS
        go_simp
      simp only [Act.put, List.setIfInBounds_toArray, List.set_cons_zero, List.set_cons_succ]
      refine wpAnyH_take (i := 3) (oi := { dst := some 18, op := Go.Op.indexAddr 72 (Go.Operand.tmp 16) (Go.Operand.tmp 17), type := 0, pos := "outright.go:85", after := #[{ on := 1, ground := Go.Ground.data }, { on := 2, ground := Go.Ground.data }], guard := none }) (v := .pointer (some ⟨b, off + j * 4, none⟩)) rfl (by kernel_rfl) (by kernel_rfl) (by kernel_rfl) (fun _ _ _ h => h) (Or.inl ⟨by kernel_rfl, ?_⟩) hS ?_
      · intro w5 hSw
        clear hSw hS
        go_simp
      simp only [Act.put, List.setIfInBounds_toArray, List.set_cons_zero, List.set_cons_succ]
      refine wpAnyH_take (i := 4) (oi := { dst := some 19, op := Go.Op.load 103 (Go.Operand.tmp 18), type := 103, pos := "outright.go:85", after := #[{ on := 3, ground := Go.Ground.data }], guard := none }) (v := .agg ([.int .i64 (qt : Int), .int .i64 (qx : Int), .int .i64 (qm : Int), .slice qa qd.length qc]).toArray) rfl (by kernel_rfl) (by kernel_rfl) (by kernel_rfl) (fun _ _ _ h => h) (yieldsIf_load_mid (by kernel_rfl) _ _ rfl (b) (off + j * 4) rfl ([.int .i64 (qt : Int), .int .i64 (qx : Int), .int .i64 (qm : Int), .slice qa qd.length qc]) _ (fun w5 hSw => range_up' HRG.out hSw) Try.underlying103 rfl (by kernel_rfl)) hS ?_
      simp only [Act.put, List.setIfInBounds_toArray, List.set_cons_zero, List.set_cons_succ]
      refine wpAnyH_ready (rs := [5]) (by kernel_rfl) (by simp) ?_
      refine AllReadyH.cons (o := { dst := some 20, op := Go.Op.call { callee := Go.Callee.value (Go.Operand.func 57), args := #[Go.Operand.tmp 15, Go.Operand.tmp 19], argTypes := #[103, 103] }, type := 4, pos := "outright.go:85", after := #[{ on := 0, ground := Go.Ground.data }, { on := 4, ground := Go.Ground.data }], guard := none }) rfl (fun K hK => ?_) AllReadyH.nil
      rw [if_pos (by kernel_rfl)]
      go_simp
      refine (ahead_walk wr.drew ⟨ct, cx, cm, ca, cc, cd⟩ ⟨qt, qx, qm, qa, qc, qd⟩).mono ?_
      rintro e w1 ⟨rfl, u1⟩
      dsimp only
      have HU1 := Hid.of ((Up.refl wr).drew.trans u1)
      clear u1 hS
      refine hK.out _ _ HU1.out (fun hS => ?_)
      clear hK K
      refine wpAnyH_ready (rs := [6]) (by kernel_rfl) (by simp) ?_
      refine AllReadyH.cons (o := { dst := some 8, op := Go.Op.assign (Go.Operand.tmp 20), type := 4, pos := "outright.go:85", after := #[{ on := 5, ground := Go.Ground.data }, { on := 5, ground := Go.Ground.chain }, { on := 0, ground := Go.Ground.phase }, { on := 1, ground := Go.Ground.phase }, { on := 2, ground := Go.Ground.phase }, { on := 3, ground := Go.Ground.phase }, { on := 4, ground := Go.Ground.phase }, { on := 5, ground := Go.Ground.phase }], guard := none }) rfl (fun K hK => ?_) AllReadyH.nil
      rw [if_pos (by kernel_rfl)]
      go_simp
      refine hK.out _ _ hS (fun hS2 => ?_)
      clear hK K hS hS2
      refine wpAnyH_done (by kernel_rfl) ?_ _
      have HO1 := Hid.of (ow_up HO5.out HU1.out)
      have HS1 := Hid.of (HSW.out.trans HU1.out)
      have HRG1 := Hid.of (range_up' HRG.out HU1.out)
      clear HO5 HSW HRG HSU HU1
      generalize ahd ⟨ct, cx, cm, ca, cc, cd⟩ ⟨qt, qx, qm, qa, qc, qd⟩ = f at *
      cases f with
      | false =>
        go_wp2_with (with_reducible show wpList _ _ _ ({ dst := _, op := Op.load 103 _, type := _, pos := _, after := _, guard := _ } :: _) _ _; refine Shut.out ?_)
        show wpList _ _ _ _ _ _
        refine wpList_load_mid rfl 103 _ rfl (b) (off + j * 4) rfl ([.int .i64 (qt : Int), .int .i64 (qx : Int), .int .i64 (qm : Int), .slice qa qd.length qc]) _ (HRG1.out) Try.underlying103 rfl (by kernel_rfl) ?_
        simp only [Act.put, List.setIfInBounds_toArray, List.set_cons_zero, List.set_cons_succ]
        have HU2 := Hid.of ((Up.refl w1).alloc (.cells #[.int .i64 (qt : Int), .int .i64 (qx : Int), .int .i64 (qm : Int), .slice qa qd.length qc] 103))
        have HA2 := Hid.of (at_new w1 103 [.int .i64 (qt : Int), .int .i64 (qx : Int), .int .i64 (qm : Int), .slice qa qd.length qc])
        go_wp2_with (with_reducible show wpList _ _ _ ({ dst := _, op := Op.call { callee := Callee.builtin Builtin.append, args := _, argTypes := _ }, type := _, pos := _, after := _, guard := _ } :: _) _ _; refine Shut.out ?_)
        show wpList _ _ _ _ _ _
        refine wpList_append_own _ rfl _ _ 72 rfl W0.heap.size 103 i0 (.agg #[.int .i64 0, .int .i64 0, .int .i64 0, .slice none 0 0]) 4 48 Try.underlying72 hi0 hz0 hz1 hz2 rfl (by decide) u5 (pst (D.take j) ⟨ct, cx, cm, ca, cc, cd⟩).length (cos (pst (D.take j) ⟨ct, cx, cm, ca, cc, cd⟩)) rfl (ow_up HO1.out HU2.out) ⟨w1.heap.size, 0, none⟩ 1 1 [.int .i64 (qt : Int), .int .i64 (qx : Int), .int .i64 (qm : Int), .slice qa qd.length qc] rfl rfl (fun j u hu => by rw [Addr.add_lit, Nat.zero_add]; exact HA2.out.cell hu) (fun u hu => coc_one ⟨qt, qx, qm, qa, qc, qd⟩ u hu) (by have := HLEN.out; simp only [maxLen]; omega) (by have := HLEN.out; omega) (HS1.out.trans HU2.out).size ?_
        intro vy wy o5 g5 _
        have Hvy := Hid.of (show CO wy W0.heap.size vy ((pst (D.take j) ⟨ct, cx, cm, ca, cc, cd⟩) ++ [⟨qt, qx, qm, qa, qc, qd⟩]) from by
          rw [CO, cos_snoc, List.length_append]
          exact o5)
        have HUvy := Hid.of ((HS1.out.trans HU2.out).by g5 (fun g hg => (HO1.out.lt g hg).1))
        clear o5 g5 HU2 HA2
        simp only [Act.put, List.setIfInBounds_toArray, List.set_cons_zero, List.set_cons_succ]
        go_wp2
        go_roundw
        case rel => exact ⟨j + 1, _, by simp, rfl, by omega, Hid.of ⟨by rw [HTS.out.1, HM.out.1]; exact Hvy.out, by rw [HTS.out.1, HM.out.2]; simp, HUvy.out⟩⟩
        case measure => simp [intOf]; omega
      | true =>
        cases bb with
        | true =>
          go_wp2_with (with_reducible show wpList _ _ _ ({ dst := _, op := Op.load 103 _, type := _, pos := _, after := _, guard := _ } :: _) _ _; refine Shut.out ?_)
          show wpList _ _ _ _ _ _
          refine wpList_load_mid rfl 103 _ rfl (b) (off + j * 4) rfl ([.int .i64 (qt : Int), .int .i64 (qx : Int), .int .i64 (qm : Int), .slice qa qd.length qc]) _ (HRG1.out) Try.underlying103 rfl (by kernel_rfl) ?_
          simp only [Act.put, List.setIfInBounds_toArray, List.set_cons_zero, List.set_cons_succ]
          have HU2 := Hid.of ((Up.refl w1).alloc (.cells #[.int .i64 (qt : Int), .int .i64 (qx : Int), .int .i64 (qm : Int), .slice qa qd.length qc] 103))
          have HA2 := Hid.of (at_new w1 103 [.int .i64 (qt : Int), .int .i64 (qx : Int), .int .i64 (qm : Int), .slice qa qd.length qc])
          go_wp2_with (with_reducible show wpList _ _ _ ({ dst := _, op := Op.call { callee := Callee.builtin Builtin.append, args := _, argTypes := _ }, type := _, pos := _, after := _, guard := _ } :: _) _ _; refine Shut.out ?_)
          show wpList _ _ _ _ _ _
          refine wpList_append_own _ rfl _ _ 72 rfl W0.heap.size 103 i0 (.agg #[.int .i64 0, .int .i64 0, .int .i64 0, .slice none 0 0]) 4 48 Try.underlying72 hi0 hz0 hz1 hz2 rfl (by decide) u5 (pst (D.take j) ⟨ct, cx, cm, ca, cc, cd⟩).length (cos (pst (D.take j) ⟨ct, cx, cm, ca, cc, cd⟩)) rfl (ow_up HO1.out HU2.out) ⟨w1.heap.size, 0, none⟩ 1 1 [.int .i64 (qt : Int), .int .i64 (qx : Int), .int .i64 (qm : Int), .slice qa qd.length qc] rfl rfl (fun j u hu => by rw [Addr.add_lit, Nat.zero_add]; exact HA2.out.cell hu) (fun u hu => coc_one ⟨qt, qx, qm, qa, qc, qd⟩ u hu) (by have := HLEN.out; simp only [maxLen]; omega) (by have := HLEN.out; omega) (HS1.out.trans HU2.out).size ?_
          intro vy wy o5 g5 _
          have Hvy := Hid.of (show CO wy W0.heap.size vy ((pst (D.take j) ⟨ct, cx, cm, ca, cc, cd⟩) ++ [⟨qt, qx, qm, qa, qc, qd⟩]) from by
            rw [CO, cos_snoc, List.length_append]
            exact o5)
          have HUvy := Hid.of ((HS1.out.trans HU2.out).by g5 (fun g hg => (HO1.out.lt g hg).1))
          clear o5 g5 HU2 HA2
          simp only [Act.put, List.setIfInBounds_toArray, List.set_cons_zero, List.set_cons_succ]
          go_wp2
          go_roundw
          case rel => exact ⟨j + 1, _, by simp, rfl, by omega, Hid.of ⟨by rw [HTS.out.1, HM.out.1]; exact Hvy.out, by rw [HTS.out.1, HM.out.2]; simp, HUvy.out⟩⟩
          case measure => simp [intOf]; omega
        | false =>
          go_wp2_with (with_reducible show wpList _ _ _ ({ dst := _, op := Op.load 103 _, type := _, pos := _, after := _, guard := _ } :: _) _ _; refine Shut.out ?_)
          show wpList _ _ _ _ _ _
          refine wpList_load_mid rfl 103 _ rfl (b0) (0) rfl ([.int .i64 (ct : Int), .int .i64 (cx : Int), .int .i64 (cm : Int), .slice ca cd.length cc]) _ ((HC.out.up HS1.out).range) Try.underlying103 rfl (by kernel_rfl) ?_
          simp only [Act.put, List.setIfInBounds_toArray, List.set_cons_zero, List.set_cons_succ]
          have HU2 := Hid.of ((Up.refl w1).alloc (.cells #[.int .i64 (ct : Int), .int .i64 (cx : Int), .int .i64 (cm : Int), .slice ca cd.length cc] 103))
          have HA2 := Hid.of (at_new w1 103 [.int .i64 (ct : Int), .int .i64 (cx : Int), .int .i64 (cm : Int), .slice ca cd.length cc])
          go_wp2_with (with_reducible show wpList _ _ _ ({ dst := _, op := Op.call { callee := Callee.builtin Builtin.append, args := _, argTypes := _ }, type := _, pos := _, after := _, guard := _ } :: _) _ _; refine Shut.out ?_)
          show wpList _ _ _ _ _ _
          refine wpList_append_own _ rfl _ _ 72 rfl W0.heap.size 103 i0 (.agg #[.int .i64 0, .int .i64 0, .int .i64 0, .slice none 0 0]) 4 48 Try.underlying72 hi0 hz0 hz1 hz2 rfl (by decide) u5 (pst (D.take j) ⟨ct, cx, cm, ca, cc, cd⟩).length (cos (pst (D.take j) ⟨ct, cx, cm, ca, cc, cd⟩)) rfl (ow_up HO1.out HU2.out) ⟨w1.heap.size, 0, none⟩ 1 1 [.int .i64 (ct : Int), .int .i64 (cx : Int), .int .i64 (cm : Int), .slice ca cd.length cc] rfl rfl (fun j u hu => by rw [Addr.add_lit, Nat.zero_add]; exact HA2.out.cell hu) (fun u hu => coc_one ⟨ct, cx, cm, ca, cc, cd⟩ u hu) (by have := HLEN.out; simp only [maxLen]; omega) (by have := HLEN.out; omega) (HS1.out.trans HU2.out).size ?_
          intro vx wx o5 g5 _
          have Hvx := Hid.of (show CO wx W0.heap.size vx ((pst (D.take j) ⟨ct, cx, cm, ca, cc, cd⟩) ++ [⟨ct, cx, cm, ca, cc, cd⟩]) from by
            rw [CO, cos_snoc, List.length_append]
            exact o5)
          have HUvx := Hid.of ((HS1.out.trans HU2.out).by g5 (fun g hg => (HO1.out.lt g hg).1))
          clear o5 g5 HU2 HA2
          simp only [Act.put, List.setIfInBounds_toArray, List.set_cons_zero, List.set_cons_succ]
          have HRX := Hid.of (range_up' HRG0.out HUvx.out)
          have HLEN2 := Hid.of (show (pst (D.take j) ⟨ct, cx, cm, ca, cc, cd⟩ ++ [(⟨ct, cx, cm, ca, cc, cd⟩ : Co)]).length ≤ 1002 from by have := HLEN.out; rw [List.length_append, List.length_singleton]; omega)
          go_wp2_with (with_reducible show wpList _ _ _ ({ dst := _, op := Op.load 103 _, type := _, pos := _, after := _, guard := _ } :: _) _ _; refine Shut.out ?_)
          show wpList _ _ _ _ _ _
          refine wpList_load_mid rfl 103 _ rfl (b) (off + j * 4) rfl ([.int .i64 (qt : Int), .int .i64 (qx : Int), .int .i64 (qm : Int), .slice qa qd.length qc]) _ (HRX.out) Try.underlying103 rfl (by kernel_rfl) ?_
          simp only [Act.put, List.setIfInBounds_toArray, List.set_cons_zero, List.set_cons_succ]
          have HU2 := Hid.of ((Up.refl wx).alloc (.cells #[.int .i64 (qt : Int), .int .i64 (qx : Int), .int .i64 (qm : Int), .slice qa qd.length qc] 103))
          have HA2 := Hid.of (at_new wx 103 [.int .i64 (qt : Int), .int .i64 (qx : Int), .int .i64 (qm : Int), .slice qa qd.length qc])
          go_wp2_with (with_reducible show wpList _ _ _ ({ dst := _, op := Op.call { callee := Callee.builtin Builtin.append, args := _, argTypes := _ }, type := _, pos := _, after := _, guard := _ } :: _) _ _; refine Shut.out ?_)
          show wpList _ _ _ _ _ _
          refine wpList_append_own _ rfl _ _ 72 rfl W0.heap.size 103 i0 (.agg #[.int .i64 0, .int .i64 0, .int .i64 0, .slice none 0 0]) 4 48 Try.underlying72 hi0 hz0 hz1 hz2 rfl (by decide) vx (pst (D.take j) ⟨ct, cx, cm, ca, cc, cd⟩ ++ [(⟨ct, cx, cm, ca, cc, cd⟩ : Co)]).length (cos (pst (D.take j) ⟨ct, cx, cm, ca, cc, cd⟩ ++ [(⟨ct, cx, cm, ca, cc, cd⟩ : Co)])) rfl (ow_up Hvx.out HU2.out) ⟨wx.heap.size, 0, none⟩ 1 1 [.int .i64 (qt : Int), .int .i64 (qx : Int), .int .i64 (qm : Int), .slice qa qd.length qc] rfl rfl (fun j u hu => by rw [Addr.add_lit, Nat.zero_add]; exact HA2.out.cell hu) (fun u hu => coc_one ⟨qt, qx, qm, qa, qc, qd⟩ u hu) (by have := HLEN2.out; simp only [maxLen]; omega) (by have := HLEN2.out; omega) (HUvx.out.trans HU2.out).size ?_
          intro vy wy o5 g5 _
          have Hvy := Hid.of (show CO wy W0.heap.size vy ((pst (D.take j) ⟨ct, cx, cm, ca, cc, cd⟩ ++ [(⟨ct, cx, cm, ca, cc, cd⟩ : Co)]) ++ [⟨qt, qx, qm, qa, qc, qd⟩]) from by
            rw [CO, cos_snoc, List.length_append]
            exact o5)
          have HUvy := Hid.of ((HUvx.out.trans HU2.out).by g5 (fun g hg => (Hvx.out.lt g hg).1))
          clear o5 g5 HU2 HA2
          simp only [Act.put, List.setIfInBounds_toArray, List.set_cons_zero, List.set_cons_succ]
          go_wp2
          go_roundw
          case rel => exact ⟨j + 1, true, by simp, rfl, by omega, Hid.of ⟨by rw [HTS.out.1, HM.out.1]; exact Hvy.out, by rw [HTS.out.1, HM.out.2]; simp, HUvy.out⟩⟩
          case measure => simp [intOf]; omega
    · have hltz : ¬ (j : Int) < (n : Int) := by omega
      obtain rfl : j = n := by omega
      have HT := Hid.of (And.intro (show D.take j = D by rw [← HNN.out.1, List.take_length]) trivial)
      rw [HT.out.1] at hR
      have HO5 := Hid.of hR.out.1
      have HAL := Hid.of hR.out.2.1
      have HSW := Hid.of hR.out.2.2
      have HLEN := Hid.of (show (pst D ⟨ct, cx, cm, ca, cc, cd⟩).length ≤ 1001 from Nat.le_trans (pst_len _ _) (by have := HNN.out.1; omega))
      clear hR
      cases bb with
      | true =>
        go_wp2
        go_ret
        rw [pst_yes HAL.out]
        exact ⟨_, rfl, ow_base HO5.out (by rw [← hb]; exact HU0.out.size), HU0.out.trans HSW.out⟩
      | false =>
        go_wp2_with (with_reducible show wpList _ _ _ ({ dst := _, op := Op.load 103 _, type := _, pos := _, after := _, guard := _ } :: _) _ _; refine Shut.out ?_)
        show wpList _ _ _ _ _ _
        refine wpList_load_mid rfl 103 _ rfl (b0) (0) rfl ([.int .i64 (ct : Int), .int .i64 (cx : Int), .int .i64 (cm : Int), .slice ca cd.length cc]) _ ((HC.out.up HSW.out).range) Try.underlying103 rfl (by kernel_rfl) ?_
        simp only [Act.put, List.setIfInBounds_toArray, List.set_cons_zero, List.set_cons_succ]
        have HU2 := Hid.of ((Up.refl wr).alloc (.cells #[.int .i64 (ct : Int), .int .i64 (cx : Int), .int .i64 (cm : Int), .slice ca cd.length cc] 103))
        have HA2 := Hid.of (at_new wr 103 [.int .i64 (ct : Int), .int .i64 (cx : Int), .int .i64 (cm : Int), .slice ca cd.length cc])
        go_wp2_with (with_reducible show wpList _ _ _ ({ dst := _, op := Op.call { callee := Callee.builtin Builtin.append, args := _, argTypes := _ }, type := _, pos := _, after := _, guard := _ } :: _) _ _; refine Shut.out ?_)
        show wpList _ _ _ _ _ _
        refine wpList_append_own _ rfl _ _ 72 rfl W0.heap.size 103 i0 (.agg #[.int .i64 0, .int .i64 0, .int .i64 0, .slice none 0 0]) 4 48 Try.underlying72 hi0 hz0 hz1 hz2 rfl (by decide) u5 (pst D ⟨ct, cx, cm, ca, cc, cd⟩).length (cos (pst D ⟨ct, cx, cm, ca, cc, cd⟩)) rfl (ow_up HO5.out HU2.out) ⟨wr.heap.size, 0, none⟩ 1 1 [.int .i64 (ct : Int), .int .i64 (cx : Int), .int .i64 (cm : Int), .slice ca cd.length cc] rfl rfl (fun j u hu => by rw [Addr.add_lit, Nat.zero_add]; exact HA2.out.cell hu) (fun u hu => coc_one ⟨ct, cx, cm, ca, cc, cd⟩ u hu) (by have := HLEN.out; simp only [maxLen]; omega) (by have := HLEN.out; omega) (HSW.out.trans HU2.out).size ?_
        intro vz wz o5 g5 _
        have Hvz := Hid.of (show CO wz W0.heap.size vz ((pst D ⟨ct, cx, cm, ca, cc, cd⟩) ++ [⟨ct, cx, cm, ca, cc, cd⟩]) from by
          rw [CO, cos_snoc, List.length_append]
          exact o5)
        have HUvz := Hid.of ((HSW.out.trans HU2.out).by g5 (fun g hg => (HO5.out.lt g hg).1))
        clear o5 g5 HU2 HA2
        simp only [Act.put, List.setIfInBounds_toArray, List.set_cons_zero, List.set_cons_succ]
        go_wp2
        go_ret
        rw [pst_no HAL.out]
        exact ⟨_, rfl, ow_base Hvz.out HU0.out.size, HU0.out.trans HUvz.out⟩
end Go.Proofs.Ytgfehlcindapmaa
