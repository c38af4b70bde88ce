import Derived.Test.YtpjfmkmgfjhnmaaGl
import Derived.Test.YtpjfmkmgfjhnmaaRv
namespace Go.Proofs.Ytpjfmkmgfjhnmaa
open Go.RowKit Tlg
/-- what stands while the walk goes down -/
structure WS (w wr : World) (n i : Nat) (s : Bool) (v : Value) (k a b : Nat) : Prop where
  gb : wr.heap[w.heap.size]? = some (.cells #[.int .i64 (i : Int), .bool s] 31)
  ab : wr.heap[w.heap.size + 1]? = some (.cells #[.int .i64 (a : Int), .int .i64 (b : Int)] 41)
  li : ∃ L, LL wr (w.heap.size + 2) v L ∧ Wk n i s L k a b
  up : Up w wr
/-- what the walk hands out -/
def WR (w w' : World) (n i : Nat) (s : Bool) (v : Value) : Prop := ∃ L k a b, Wk n i s L k a b ∧ Dn s i a b ∧ LL w' w.heap.size v (L ++ (if (s && decide (0 < a)) = true then [pkr a b] else [])).reverse
theorem LL.mono {w : World} {B C : Nat} {v : Value} {L : List (List Nat)} (h : LL w B v L) (hc : C ≤ B) : LL w C v L := by
  obtain ⟨vs, h1, h2⟩ := h
  refine ⟨vs, ⟨h1.1, ?_⟩, fun j l hl => by obtain ⟨u, e, o⟩ := h2 j l hl; exact ⟨u, e, o.mono hc⟩⟩
  rcases h1.2 with e | ⟨g, cap, cur, e, hbg, r⟩
  · exact .inl e
  · exact .inr ⟨g, cap, cur, e, Nat.le_trans hc hbg, r⟩

theorem LL.kt {w w' : World} {B : Nat} {v : Value} {L : List (List Nat)} {t : TypeId} (h : LL w B v L) (k : Kt t w w') (ht : 26 ≠ t) (ht2 : 2 ≠ t) : LL w' B v L := by
  obtain ⟨vs, h1, h2⟩ := h
  refine ⟨vs, ⟨h1.1, ?_⟩, fun j l hl => by obtain ⟨u, e, o⟩ := h2 j l hl; exact ⟨u, e, o.kt k ht2⟩⟩
  rcases h1.2 with e | ⟨g, cap, cur, e, hbg, hg, r⟩
  · exact .inl e
  · exact .inr ⟨g, cap, cur, e, hbg, k g _ _ _ ht hg, r⟩

set_option maxRecDepth 100000 in
set_option maxHeartbeats 2000000 in
theorem walk_walk (n i : Nat) (s : Bool) (hn : n ≤ 281474976710656) (hi : i < n) (w : World) : Calls Try.prog 12 #[.int .i64 (n : Int), gl i s, .func (.func 13) #[] #[]] w fun e w' => ∃ v, e = .returned v ∧ WR w w' n i s v ∧ Up w w' := by
  have HU0 : Hid (∀ o p, Up w ((w.alloc o).alloc p)) := fun o p => ((Up.refl _).alloc o).alloc p
  go_enter Try.func12, Try.ntmps12
  go_wp2
  go_loopg [7] 48 (fun k s7 wr => ∃ a b : Nat, a < b ∧ b ≤ n ∧ Hid (WS w wr n i s s7 k a b))
  case atStart =>
    refine ⟨0, n, by omega, Nat.le_refl _, ?_⟩
    refine ⟨?_, ?_, ⟨[], lL_nil _ _, Wk.start s hn hi⟩, HU0.out _ _⟩
    · exact alloc_old (alloc_new _ _)
    · have := alloc_new (w.alloc (.cells #[.int .i64 (i : Int), .bool s] 31)) (.cells #[.int .i64 0, .int .i64 (n : Int)] 41)
      rw [alloc_size] at this
      exact this
  case round =>
    obtain ⟨a, b, hab, hbn, HS⟩ := hrel
    obtain ⟨wb, hwb⟩ : ∃ wb, wb = wr := ⟨_, rfl⟩
    subst hwb
    obtain ⟨L, hL, hI⟩ := HS.out.li
    have HL := Hid.of hL
    have HI := Hid.of hI
    clear hL hI
    have c0 := cell_at (i := 0) (v := .int .i64 (i : Int)) HS.out.gb rfl
    have c1 := cell_at (i := 1) (v := .bool s) HS.out.gb rfl
    have c2 := cell_at (i := 0) (v := .int .i64 (a : Int)) HS.out.ab rfl
    have c3 := cell_at (i := 1) (v := .int .i64 (b : Int)) HS.out.ab rfl
    have HD0 := fun w => Hid.of (reached_walk i a b s (by omega) hab (by omega) w)
    rcases hd : dn s i a b with _ | _
    · have HD : Hid (¬ Dn s i a b) := Hid.of (show ¬ Dn s i a b by unfold Dn; rw [hd]; simp)
      rw [hd] at HD0
      clear hd
      obtain ⟨h2, _⟩ := not_dn HD.out HI.out.lo HI.out.hi
      obtain ⟨q1, q2⟩ := cut_in h2
      obtain ⟨k, rfl, _⟩ := half_fit h2 HI.out.dp.1
      have HCW := fun w => Hid.of (children_walk a b h2 (by omega) w)
      have HC : Hid (cut a b = cut a b ∧ Rg a (cut a b) ∧ Rg (cut a b) b) := ⟨rfl, rg_left HI.out.rg h2, rg_right HI.out.rg h2⟩
      obtain ⟨c, hc⟩ : ∃ c, cut a b = c := ⟨_, rfl⟩
      rw [hc] at q1 q2 HCW
      replace HC : Hid (cut a b = c ∧ Rg a c ∧ Rg c b) := by rw [← hc]; exact HC.out
      clear hc h2
      go_wp2_with fail
      refine (HD0 _).out.mono ?_
      rintro e w1 ⟨rfl, u1⟩
      dsimp only
      have c0 := u1.cell c0
      have c1 := u1.cell c1
      have c2 := u1.cell c2
      have c3 := u1.cell c3
      have HU1 := Hid.of u1
      clear u1
      go_wp2_with fail
      refine (HCW _).out.mono ?_
      rintro e w2 ⟨rfl, u2⟩
      dsimp only
      have HU2 := Hid.of (HU1.out.trans u2)
      have c0 := u2.cell c0
      have c1 := u2.cell c1
      have hz0 : w.heap.size < w2.heap.size := Nat.lt_of_lt_of_le (lt_of_at HS.out.gb) HU2.out.size
      have hcb : (w2.alloc (.cells #[.int .i64 (a : Int), .int .i64 (c : Int)] 41)).heap.size = w2.heap.size + 1 := alloc_size _ _
      clear u2 HU1 HD0 HCW c2 c3
      have HB3 : Hid (∀ W, W = ((w2.alloc (.cells #[.int .i64 (a : Int), .int .i64 (c : Int)] 41)).alloc (.cells #[.int .i64 (c : Int), .int .i64 (b : Int)] 41)) → W.heap[w.heap.size]? = some (.cells #[.int .i64 (i : Int), .bool s] 31) ∧ W.heap[w.heap.size + 1]? = some (.cells #[.int .i64 (a : Int), .int .i64 (b : Int)] 41) ∧ W.heap[w2.heap.size]? = some (.cells #[.int .i64 (a : Int), .int .i64 (c : Int)] 41) ∧ W.heap[w2.heap.size + 1]? = some (.cells #[.int .i64 (c : Int), .int .i64 (b : Int)] 41)) := by
        intro W hW
        rw [hW]
        refine ⟨alloc_old (alloc_old (HU2.out.at HS.out.gb)), alloc_old (alloc_old (HU2.out.at HS.out.ab)), alloc_old (alloc_new _ _), ?_⟩
        have := alloc_new (w2.alloc (.cells #[.int .i64 (a : Int), .int .i64 (c : Int)] 41)) (.cells #[.int .i64 (c : Int), .int .i64 (b : Int)] 41)
        rw [hcb] at this
        exact this
      have HL3 : Hid (∀ W, W = ((w2.alloc (.cells #[.int .i64 (a : Int), .int .i64 (c : Int)] 41)).alloc (.cells #[.int .i64 (c : Int), .int .i64 (b : Int)] 41)) → LL W (w.heap.size + 2) u7 L ∧ Wk n i s L (k + 1) a b ∧ Up w W ∧ w.heap.size + 2 ≤ W.heap.size) := by
        intro W hW
        have u := (HU2.out.alloc (.cells #[.int .i64 (a : Int), .int .i64 (c : Int)] 41)).alloc (.cells #[.int .i64 (c : Int), .int .i64 (b : Int)] 41)
        rw [← hW] at u
        have hz := lt_of_at HS.out.ab
        have hz2 := u.size
        exact ⟨HL.out.up u, HI.out, HS.out.up.trans u, by omega⟩
      have hib := HI.out.hi
      obtain ⟨W, hW⟩ : ∃ W, W = ((w2.alloc (.cells #[.int .i64 (a : Int), .int .i64 (c : Int)] 41)).alloc (.cells #[.int .i64 (c : Int), .int .i64 (b : Int)] 41)) := ⟨_, rfl⟩
      replace HB3 := Hid.of (HB3.out W hW)
      replace HL3 := Hid.of (HL3.out W hW)
      have HWW := Hid.of hW
      clear hW
      by_cases hlt : i < c
      · have HW2 : Hid (∀ L, Wk n i s L (k + 1) a b → Wk n i s (L ++ [pkr c b]) k a c) := fun L hL => by rw [← HC.out.1]; exact Wk.left hL hn HD.out (by rw [HC.out.1]; exact hlt)
        have HP := fun w => Hid.of (peaks_walk c b HC.out.2.2 (by omega) w)
        go_wp2_with fail
        rw [← HWW.out]
        generalize hgg : w2.heap.size = g at HB3 ⊢
        refine (HP _).out.mono ?_
        rintro e w4 ⟨vp, rfl, o4, u4⟩
        obtain ⟨av, cv, hv⟩ := o4.len
        obtain ⟨nv, hnv⟩ : ∃ nv, nv = (pkr c b).length := ⟨_, rfl⟩
        rw [← hnv] at hv
        clear hnv
        subst hv
        dsimp only
        have HB4 : Hid (w4.heap[w.heap.size]? = some (.cells #[.int .i64 (i : Int), .bool s] 31) ∧ w4.heap[w.heap.size + 1]? = some (.cells #[.int .i64 (a : Int), .int .i64 (b : Int)] 41) ∧ w4.heap[g]? = some (.cells #[.int .i64 (a : Int), .int .i64 (c : Int)] 41) ∧ w4.heap[g + 1]? = some (.cells #[.int .i64 (c : Int), .int .i64 (b : Int)] 41)) := ⟨u4.at HB3.out.1, u4.at HB3.out.2.1, u4.at HB3.out.2.2.1, u4.at HB3.out.2.2.2⟩
        have HL4 : Hid (LL w4 (w.heap.size + 2) u7 L ∧ OwnL w4 (w.heap.size + 2) (.slice av nv cv) (pkr c b) ∧ L.length ≤ 48 ∧ Wk n i s L (k + 1) a b ∧ Up w w4 ∧ w.heap.size + 2 ≤ w4.heap.size) := by
          refine ⟨HL3.out.1.up u4, o4.mono HL3.out.2.2.2, ?_, HL3.out.2.1, HL3.out.2.2.1.trans u4, Nat.le_trans HL3.out.2.2.2 u4.size⟩
          have := HL3.out.2.1.dp.2
          omega
        clear o4 u4 HB3 HL3 HP HWW hgg hcb hz0 c0 c1 HU2 HL HI
        go_wp2_with (with_reducible show wpList _ _ _ ({ dst := _, op := Op.call { callee := Callee.builtin Builtin.append, args := _, argTypes := _ }, type := _, pos := _, after := _, guard := _ } :: _) _ _; refine Shut.out ?_)
        show wpList _ _ _ _ _ _
        refine wpList_appLL rfl _ _ rfl (w.heap.size + 2) _ L (.slice av nv cv) (pkr c b) rfl (by exact HL4.out.1) (by exact HL4.out.2.1) 1 rfl (by have := HL4.out.2.2.1; omega) (by exact HL4.out.2.2.2.2.2) ?_
        intro v5 w5 l5 k5 t5
        have HB5 : Hid (w5.heap[w.heap.size]? = some (.cells #[.int .i64 (i : Int), .bool s] 31) ∧ w5.heap[w.heap.size + 1]? = some (.cells #[.int .i64 (a : Int), .int .i64 (b : Int)] 41) ∧ w5.heap[g]? = some (.cells #[.int .i64 (a : Int), .int .i64 (c : Int)] 41) ∧ w5.heap[g + 1]? = some (.cells #[.int .i64 (c : Int), .int .i64 (b : Int)] 41)) := ⟨t5 _ _ _ _ (by decide) HB4.out.1, t5 _ _ _ _ (by decide) HB4.out.2.1, t5 _ _ _ _ (by decide) HB4.out.2.2.1, t5 _ _ _ _ (by decide) HB4.out.2.2.2⟩
        have HL5 : Hid (LL w5 (w.heap.size + 2) v5 (L ++ [pkr c b]) ∧ Wk n i s L (k + 1) a b ∧ Up w w5) := ⟨l5, HL4.out.2.2.2.1, HL4.out.2.2.2.2.1.step (by omega) k5⟩
        clear l5 k5 t5 HB4 HL4
        simp only [Act.put, List.setIfInBounds_toArray, List.set_cons_zero, List.set_cons_succ]
        have d0 := cell_at (i := 0) (v := .int .i64 (a : Int)) HB5.out.2.2.1 rfl
        have d1 := cell_at (i := 1) (v := .int .i64 (c : Int)) HB5.out.2.2.1 rfl
        have e0 := cell_at (i := 0) (v := .int .i64 (a : Int)) HB5.out.2.1 rfl
        have e1 := cell_at (i := 1) (v := .int .i64 (b : Int)) HB5.out.2.1 rfl
        have f0 := thaw_at (i := 0) HB5.out.2.1
        have f1 := thaw_at (i := 1) HB5.out.2.1
        go_wp2
        clear d0 d1 e0 e1 f0 f1
        go_roundg k
        case measure => omega
        case rel =>
          refine ⟨a, c, by omega, by omega, ?_⟩
          refine ⟨(put2_other (by omega)).trans HB5.out.1, put2_at HB5.out.2.1, ⟨_, ?_, HW2.out _ HL5.out.2.1⟩, HL5.out.2.2.put2 (by omega) _ _⟩
          exact HL5.out.1.kt (fun k cs u fz hu hk => (put2_other (fun e => by subst e; rw [HB5.out.2.1] at hk; cases hk; exact hu rfl)).trans hk) (by decide) (by decide)
      · have HW2 : Hid (∀ L, Wk n i s L (k + 1) a b → Wk n i s (L ++ [pkr a c]) k c b) := fun L hL => by rw [← HC.out.1]; exact Wk.right hL hn HD.out (by rw [HC.out.1]; exact hlt)
        have HP := fun w => Hid.of (peaks_walk a c HC.out.2.1 (by omega) w)
        go_wp2_with fail
        rw [← HWW.out]
        generalize hgg : w2.heap.size = g at HB3 ⊢
        refine (HP _).out.mono ?_
        rintro e w4 ⟨vp, rfl, o4, u4⟩
        obtain ⟨av, cv, hv⟩ := o4.len
        obtain ⟨nv, hnv⟩ : ∃ nv, nv = (pkr a c).length := ⟨_, rfl⟩
        rw [← hnv] at hv
        clear hnv
        subst hv
        dsimp only
        have HB4 : Hid (w4.heap[w.heap.size]? = some (.cells #[.int .i64 (i : Int), .bool s] 31) ∧ w4.heap[w.heap.size + 1]? = some (.cells #[.int .i64 (a : Int), .int .i64 (b : Int)] 41) ∧ w4.heap[g]? = some (.cells #[.int .i64 (a : Int), .int .i64 (c : Int)] 41) ∧ w4.heap[g + 1]? = some (.cells #[.int .i64 (c : Int), .int .i64 (b : Int)] 41)) := ⟨u4.at HB3.out.1, u4.at HB3.out.2.1, u4.at HB3.out.2.2.1, u4.at HB3.out.2.2.2⟩
        have HL4 : Hid (LL w4 (w.heap.size + 2) u7 L ∧ OwnL w4 (w.heap.size + 2) (.slice av nv cv) (pkr a c) ∧ L.length ≤ 48 ∧ Wk n i s L (k + 1) a b ∧ Up w w4 ∧ w.heap.size + 2 ≤ w4.heap.size) := by
          refine ⟨HL3.out.1.up u4, o4.mono HL3.out.2.2.2, ?_, HL3.out.2.1, HL3.out.2.2.1.trans u4, Nat.le_trans HL3.out.2.2.2 u4.size⟩
          have := HL3.out.2.1.dp.2
          omega
        clear o4 u4 HB3 HL3 HP HWW hgg hcb hz0 c0 c1 HU2 HL HI
        go_wp2_with (with_reducible show wpList _ _ _ ({ dst := _, op := Op.call { callee := Callee.builtin Builtin.append, args := _, argTypes := _ }, type := _, pos := _, after := _, guard := _ } :: _) _ _; refine Shut.out ?_)
        show wpList _ _ _ _ _ _
        refine wpList_appLL rfl _ _ rfl (w.heap.size + 2) _ L (.slice av nv cv) (pkr a c) rfl (by exact HL4.out.1) (by exact HL4.out.2.1) 1 rfl (by have := HL4.out.2.2.1; omega) (by exact HL4.out.2.2.2.2.2) ?_
        intro v5 w5 l5 k5 t5
        have HB5 : Hid (w5.heap[w.heap.size]? = some (.cells #[.int .i64 (i : Int), .bool s] 31) ∧ w5.heap[w.heap.size + 1]? = some (.cells #[.int .i64 (a : Int), .int .i64 (b : Int)] 41) ∧ w5.heap[g]? = some (.cells #[.int .i64 (a : Int), .int .i64 (c : Int)] 41) ∧ w5.heap[g + 1]? = some (.cells #[.int .i64 (c : Int), .int .i64 (b : Int)] 41)) := ⟨t5 _ _ _ _ (by decide) HB4.out.1, t5 _ _ _ _ (by decide) HB4.out.2.1, t5 _ _ _ _ (by decide) HB4.out.2.2.1, t5 _ _ _ _ (by decide) HB4.out.2.2.2⟩
        have HL5 : Hid (LL w5 (w.heap.size + 2) v5 (L ++ [pkr a c]) ∧ Wk n i s L (k + 1) a b ∧ Up w w5) := ⟨l5, HL4.out.2.2.2.1, HL4.out.2.2.2.2.1.step (by omega) k5⟩
        clear l5 k5 t5 HB4 HL4
        simp only [Act.put, List.setIfInBounds_toArray, List.set_cons_zero, List.set_cons_succ]
        have d0 := cell_at (i := 0) (v := .int .i64 (c : Int)) HB5.out.2.2.2 rfl
        have d1 := cell_at (i := 1) (v := .int .i64 (b : Int)) HB5.out.2.2.2 rfl
        have e0 := cell_at (i := 0) (v := .int .i64 (a : Int)) HB5.out.2.1 rfl
        have e1 := cell_at (i := 1) (v := .int .i64 (b : Int)) HB5.out.2.1 rfl
        have f0 := thaw_at (i := 0) HB5.out.2.1
        have f1 := thaw_at (i := 1) HB5.out.2.1
        go_wp2
        clear d0 d1 e0 e1 f0 f1
        go_roundg k
        case measure => omega
        case rel =>
          refine ⟨c, b, by omega, by omega, ?_⟩
          refine ⟨(put2_other (by omega)).trans HB5.out.1, put2_at HB5.out.2.1, ⟨_, ?_, HW2.out _ HL5.out.2.1⟩, HL5.out.2.2.put2 (by omega) _ _⟩
          exact HL5.out.1.kt (fun k cs u fz hu hk => (put2_other (fun e => by subst e; rw [HB5.out.2.1] at hk; cases hk; exact hu rfl)).trans hk) (by decide) (by decide)
    · have HD : Hid (Dn s i a b) := Hid.of (show Dn s i a b from hd)
      rw [hd] at HD0
      clear hd
      go_wp2_with fail
      refine (HD0 _).out.mono ?_
      rintro e w1 ⟨rfl, u1⟩
      dsimp only
      have c0 := u1.cell c0
      have c1 := u1.cell c1
      have c2 := u1.cell c2
      have c3 := u1.cell c3
      have HU1 := Hid.of u1
      clear u1 HD0
      rcases hh : (s && decide (0 < a)) with _ | _
      · have HV := Hid.of (show (s && decide (0 < a)) = false ∧ True from ⟨hh, trivial⟩)
        have HH := fun w => Hid.of (held_walk i a b s w)
        rw [hh] at HH
        clear hh
        go_wp2_with fail
        refine (HH _).out.mono ?_
        rintro e w2 ⟨rfl, u2⟩
        dsimp only
        have HU2 := Hid.of (HU1.out.trans u2)
        have c2 := u2.cell c2
        have c3 := u2.cell c3
        clear u2 HU1 c0 c1
        have hz := lt_of_at HS.out.ab
        have hz2 := HU2.out.size
        have HR := Hid.of (Reverse_walk w2 (w.heap.size + 2) u7 L (HL.out.up HU2.out) (by have := HI.out.dp.2; omega) (by omega))
        clear hz hz2
        go_wp2_with fail
        refine HR.out.mono ?_
        rintro e w6 ⟨rfl, l6, b6, _⟩
        dsimp only
        have H6 : Hid (LL w6 (w.heap.size + 2) u7 L.reverse ∧ Up w w6) := ⟨l6, (HS.out.up.trans HU2.out).step (by omega) b6⟩
        clear l6 b6 HR
        go_wp2
        go_ret
        refine ⟨_, rfl, ⟨L, _, a, b, HI.out, HD.out, ?_⟩, H6.out.2⟩
        rw [HV.out.1, if_neg (by decide), List.append_nil]
        exact H6.out.1.mono (by omega)
      · have HV := Hid.of (show (s && decide (0 < a)) = true ∧ True from ⟨hh, trivial⟩)
        have HH := fun w => Hid.of (held_walk i a b s w)
        rw [hh] at HH
        clear hh
        go_wp2_with fail
        refine (HH _).out.mono ?_
        rintro e w2 ⟨rfl, u2⟩
        dsimp only
        have HU2 := Hid.of (HU1.out.trans u2)
        have c2 := u2.cell c2
        have c3 := u2.cell c3
        clear u2 HU1 c0 c1
        have HP := fun w => Hid.of (peaks_walk a b HI.out.rg (by omega) w)
        go_wp2_with fail
        refine (HP _).out.mono ?_
        rintro e w4 ⟨vp, rfl, o4, u4⟩
        obtain ⟨av, cv, hv⟩ := o4.len
        obtain ⟨nv, hnv⟩ : ∃ nv, nv = (pkr a b).length := ⟨_, rfl⟩
        rw [← hnv] at hv
        clear hnv
        subst hv
        dsimp only
        have HL4 : Hid (LL w4 (w.heap.size + 2) u7 L ∧ OwnL w4 (w.heap.size + 2) (.slice av nv cv) (pkr a b) ∧ L.length ≤ 48 ∧ Up w w4 ∧ w.heap.size + 2 ≤ w4.heap.size) := by
          have hz := lt_of_at HS.out.ab
          have hz2 := HU2.out.size
          refine ⟨(HL.out.up HU2.out).up u4, o4.mono (by omega), ?_, (HS.out.up.trans HU2.out).trans u4, Nat.le_trans (by omega) u4.size⟩
          have := HI.out.dp.2
          omega
        clear o4 u4 HP c2 c3 HU2 HL HS
        go_wp2_with (with_reducible show wpList _ _ _ ({ dst := _, op := Op.call { callee := Callee.builtin Builtin.append, args := _, argTypes := _ }, type := _, pos := _, after := _, guard := _ } :: _) _ _; refine Shut.out ?_)
        show wpList _ _ _ _ _ _
        refine wpList_appLL rfl _ _ rfl (w.heap.size + 2) _ L (.slice av nv cv) (pkr a b) rfl (by exact HL4.out.1) (by exact HL4.out.2.1) 1 rfl (by have := HL4.out.2.2.1; omega) (by exact HL4.out.2.2.2.2) ?_
        intro v5 w5 l5 k5 t5
        have HR := fun (hz : w.heap.size + 2 ≤ w5.heap.size) => Hid.of (Reverse_walk w5 (w.heap.size + 2) v5 _ l5 (by rw [List.length_append]; have := HL4.out.2.2.1; simp; omega) hz)
        have HU5 := Hid.of (HL4.out.2.2.2.1.step (by omega) k5)
        have HZ5 : Hid (w.heap.size + 2 ≤ w5.heap.size) := Nat.le_trans HL4.out.2.2.2.2 k5.size
        clear l5 k5 t5 HL4
        simp only [Act.put, List.setIfInBounds_toArray, List.set_cons_zero, List.set_cons_succ]
        go_wp2_with fail
        refine (HR HZ5.out).out.mono ?_
        rintro e w6 ⟨rfl, l6, b6, _⟩
        dsimp only
        have H6 : Hid (LL w6 (w.heap.size + 2) v5 (L ++ [pkr a b]).reverse ∧ Up w w6) := ⟨l6, HU5.out.step (by omega) b6⟩
        clear l6 b6 HR HU5 HZ5
        go_wp2
        go_ret
        refine ⟨_, rfl, ⟨L, _, a, b, HI.out, HD.out, ?_⟩, H6.out.2⟩
        rw [HV.out.1, if_pos rfl]
        exact H6.out.1.mono (by omega)
end Go.Proofs.Ytpjfmkmgfjhnmaa
