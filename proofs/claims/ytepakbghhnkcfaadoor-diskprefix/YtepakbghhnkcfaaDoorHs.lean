import Derived.Test.YtepakbghhnkcfaaDoorHr
import Derived.Test.YtepakbghhnkcfaaDoorGu
namespace Go.Proofs.YtepakbghhnkcfaaDoor
open Go.RowKit Go.Shelf TextNum ModNum
set_option maxRecDepth 100000 in
set_option maxHeartbeats 1000000 in
theorem within_gen (n : Int) (hi : Nat) (hb : hi ≤ 1099511627776) (w : World) : Calls Tryd.prog 7 #[.int .i64 n, .int .i64 0, .int .i64 (hi : Int)] w fun e w' => e = .returned (.int .i64 (((n % ((hi : Int) + 1)).toNat : Nat) : Int)) ∧ w' = w := by
  have HR := Hid.of (show (((n % ((hi : Int) + 1)).toNat : Nat) : Int) = (if n.tmod ((hi : Int) + 1) < 0 then n.tmod ((hi : Int) + 1) + ((hi : Int) + 1) else n.tmod ((hi : Int) + 1)) by
    rw [tmod_emod _ _ (by omega)]
    have := Int.emod_nonneg n (show (hi : Int) + 1 ≠ 0 by omega)
    omega)
  generalize (n % ((hi : Int) + 1)).toNat = m at HR ⊢
  have hb1 := Int.tmod_lt_of_pos n (show (0 : Int) < (hi : Int) + 1 by omega)
  have hb2 : -((hi : Int) + 1) < n.tmod ((hi : Int) + 1) := by
    have h3 := Int.tmod_lt_of_pos (-n) (show (0 : Int) < (hi : Int) + 1 by omega)
    rw [Int.neg_tmod] at h3
    omega
  have hm0 : (((hi : Int) + 1) == 0) = false := by rw [beq_eq_false_iff_ne]; omega
  generalize hr : n.tmod ((hi : Int) + 1) = r at *
  by_cases hneg : r < 0
  · rw [if_pos hneg] at HR
    go_enter Tryd.func7, Tryd.ntmps7
    go_wp2
    go_ret
    rw [HR.out, show r + ((hi : Int) + 1) = r + hi + 1 by omega]
    exact ⟨rfl, rfl⟩
  · rw [if_neg hneg] at HR
    go_enter Tryd.func7, Tryd.ntmps7
    go_wp2
    go_ret
    rw [HR.out]
    exact ⟨rfl, rfl⟩
set_option maxRecDepth 100000 in
set_option maxHeartbeats 1000000 in
theorem short_walk (v : Value) (ds : List UInt8) (w : World) (hd : Sb w v ds) (hl : ds.length ≤ 140737488355328) :
    Calls Tryd.prog 25 #[v] w fun e w' => ∃ v', e = .returned v' ∧ Ow w' w.heap.size v' (ds.take 1048576) ∧ Up w w' := by
  obtain ⟨a, c, rfl, h1, _⟩ := id hd
  have HD := Hid.of hd
  clear hd
  by_cases hlong : 1048576 < ds.length
  · have hz : (1048576 : Int) < (ds.length : Int) := by omega
    have hz2 : (1048576 : Int) ≤ (c : Int) := by omega
    have HT := Hid.of (HD.out.take 1048576 (by omega))
    have HC := Hid.of (copied_walk (.slice a 1048576 c) (ds.take 1048576) w HT.out (by rw [List.length_take]; omega))
    obtain ⟨ad, rfl⟩ : ∃ ad, a = some ad := by
      obtain ⟨a', c', e, _, _, h3, _⟩ := HD.out
      injection e with e1 e2 e3
      subst e1
      cases a with
      | none => have := (h3 rfl).1; rw [this] at hlong; simp at hlong
      | some ad => exact ⟨ad, rfl⟩
    go_enter Tryd.func25, Tryd.ntmps25
    go_wp2_with fail
    refine HC.out.mono ?_
    rintro e w2 ⟨v2, rfl, o2, u2⟩
    dsimp only
    go_wp2
    go_ret
    exact ⟨_, rfl, o2, u2⟩
  · have hz : ¬ (1048576 : Int) < (ds.length : Int) := by omega
    have HC := Hid.of (copied_walk (.slice a ds.length c) ds w HD.out hl)
    have HT := Hid.of (show ds.take 1048576 = ds from List.take_of_length_le (by omega))
    go_enter Tryd.func25, Tryd.ntmps25
    go_wp2_with fail
    refine HC.out.mono ?_
    rintro e w2 ⟨v2, rfl, o2, u2⟩
    dsimp only
    go_wp2
    go_ret
    rw [HT.out]
    exact ⟨_, rfl, o2, u2⟩
set_option maxRecDepth 100000 in
theorem Acts_gen {B D T : Nat} {s : DD} (w : World) (h : DOk w B D T s) : Calls Tryd.prog 24 #[pv D] w fun e w' => e = .returned (.int .i64 (s.acts : Int)) ∧ w' = w := by
  have c9 := h.disk.cell (i := 9) rfl
  clear h
  go_enter Tryd.func24, Tryd.ntmps24
  go_wp2
  go_ret
  exact ⟨rfl, rfl⟩
set_option maxRecDepth 100000 in
set_option maxHeartbeats 1000000 in
theorem Pending_gen {B D T : Nat} {s : DD} (w : World) (h : DOk w B D T s) : Calls Tryd.prog 23 #[pv D] w fun e w' => e = .returned (.int .i64 ((s.chs.length + lsd (fls s) : Nat) : Int)) ∧ Up w w' := by
  have hn := h.num
  obtain ⟨aC, cC, hvC⟩ := row_len h.rowC
  have c5 := h.disk.cell (i := 5) rfl
  have c7 := h.disk.cell (i := 7) rfl
  rw [hvC] at c5
  have c5' : w.drew.cell? ⟨D, 5, none⟩ = some (.slice aC s.chs.length cC) := c5
  have c7' : w.drew.cell? ⟨D, 7, none⟩ = some (.int .i64 (lsd (fls s) : Int)) := c7
  have h1 : s.chs.length ≤ 100000 := by omega
  have h2 : lsd (fls s) ≤ 100000 := by omega
  generalize s.chs.length = n1 at *
  generalize lsd (fls s) = n2 at *
  clear h hn hvC
  go_enter Tryd.func23, Tryd.ntmps23
  have mixed : Tryd.prog.follows .mixedOrders = true := by kernel_rfl
  go_wp2
  go_quiet (fail)
  go_wp2
  go_ret
  exact ⟨by go_num, (Up.refl w).drewN _⟩
/-- lists of bytes of one's own beside the disk -/
structure KR (w : World) (N D : Nat) (s : DD) (a : Option Addr) (c : Nat) (xs : List Value) (K : List (List UInt8)) : Prop where
  len : xs.length = K.length
  row : w.ownsRow N 29 1 (.slice a K.length c) K.length xs
  el : ∀ i (h : i < K.length) (h' : i < xs.length), Ow w N xs[i] K[i]
  nr : ∀ k, (Value.slice a K.length c).ownBlock = some k → ¬ own D s k
  ne : ∀ v ∈ xs, ∀ k, v.ownBlock = some k → ¬ own D s k
theorem KR.nil (w : World) (N D : Nat) (s : DD) : KR w N D s none 0 [] [] := ⟨rfl, World.ownsRow_nil _ _ _ _, (fun i h => by cases h), (fun k hk => by cases hk), fun v hv => by cases hv⟩
theorem KR.up {w w' : World} {N D : Nat} {s : DD} {a : Option Addr} {c : Nat} {xs : List Value} {K : List (List UInt8)} (h : KR w N D s a c xs K) (u : Up w w') : KR w' N D s a c xs K :=
  ⟨h.len, ow_up h.row u, fun i hi hx => ow_up (h.el i hi hx) u, h.nr, h.ne⟩
theorem KR.elv {w : World} {N D : Nat} {s : DD} {a : Option Addr} {c : Nat} {xs : List Value} {K : List (List UInt8)} (h : KR w N D s a c xs K) {v : Value} (hv : v ∈ xs) : ∃ ds, Ow w N v ds := by
  obtain ⟨i, hi, rfl⟩ := List.getElem_of_mem hv
  exact ⟨_, h.el i (by rw [← h.len]; exact hi) hi⟩
/-- behind an act of the disk -/
theorem KR.disk {w w' : World} {N D : Nat} {s s' : DD} {a : Option Addr} {c : Nat} {xs : List Value} {K : List (List UInt8)} (h : KR w N D s a c xs K) (f : Fr (own D s) w w') (n : Nw w.heap.size D s s') : KR w' N D s' a c xs K :=
  ⟨h.len, f.own h.row (fun g hg => h.nr g hg), fun i hi hx => f.own (h.el i hi hx) (fun g hg => h.ne _ (List.getElem_mem hx) g hg),
    fun k hk ho => (n k ho).elim (h.nr k hk) (fun h1 => by have := (World.ownsRow.lt h.row k hk).2; omega),
    fun v hv k hk ho => (n k ho).elim (h.ne v hv k hk) (fun h1 => by obtain ⟨ds, hd⟩ := h.elv hv; have := (World.ownsRow.lt hd k hk).2; omega)⟩
/-- behind an act that only touches the disk's own cell -/
theorem KR.same {w : World} {N D : Nat} {s s' : DD} {a : Option Addr} {c : Nat} {xs : List Value} {K : List (List UInt8)} (h : KR w N D s a c xs K) (n : ∀ k, own D s' k → own D s k) : KR w N D s' a c xs K :=
  ⟨h.len, h.row, h.el, fun k hk ho => h.nr k hk (n k ho), fun v hv k hk ho => h.ne v hv k hk (n k ho)⟩
theorem Tryd.infoSl1 : (Tryd.prog.info? 29).map (fun i => (i.zero, i.size, i.bytes)) = some (some (.slice none 0 0), 1, 24) := by kernel_rfl
theorem wpList_appK {W w : World} {B D T N q : Nat} {s : DD} {ops : Array Oper} {rest : List Oper} {o : Oper} {a : Act} {Q : Exit → Act → World → Prop} (hgd : o.guard = none) (x y : Operand)
    (ho : o.op = .call { callee := .builtin .append, args := #[x, y], argTypes := #[54, 54] }) (ax : Option Addr) (cx : Nat) (v : Value) (ds : List UInt8) (xs : List Value) (K : List (List UInt8)) (hx : a.eval x = .slice ax q cx) (hy : a.eval y = .slice (some ⟨w.heap.size, 0, none⟩) 1 1)
    (hR : KR w N D s ax cx xs K) (hq : K.length = q) (hv : Ow w N v ds) (hnv : ∀ k, v.ownBlock = some k → ¬ own D s k) (hD : DOk w B D T s) (hU : Up W w) (hN : 0 < N) (hW : W.heap.size ≤ N) (hNw : N ≤ w.heap.size) (hql : q ≤ 1048576)
    (Kk : ∀ ax2 cx2 w', KR w' N D s ax2 cx2 (xs ++ [v]) (K ++ [ds]) → DOk w' B D T s → Up W w' → wpList Tryd.prog ops Q rest (a.put o.dst (.slice ax2 (q + 1) cx2)) w') :
    wpList Tryd.prog ops Q (o :: rest) a (w.alloc (.cells #[v] 29)) := by
  obtain ⟨i1, hi1, hz0, hz1, hz2⟩ := info_parts Tryd.infoSl1
  have HUx := (Up.refl w).alloc (.cells #[v] 29)
  have hns : w.ownsRow N 29 1 (.slice ax q cx) q xs := by have := hR.row; rw [hq] at this; exact this
  have hnu := ow_up hns HUx
  have hone : v.oneCell' = true := by
    obtain ⟨a', c', rfl⟩ := row_len hv
    rfl
  refine wpList_append_frs hgd x y 54 ho N 29 i1 (.slice none 0 0) 24 Tryd.underlying54 hi1 hz0 hz1 hz2 rfl (.slice ax q cx) q _ hx hnu ⟨w.heap.size, 0, none⟩ 1 1 [v] hy rfl ?_ ?_ (by simp only [maxLen]; omega) (by omega) (Nat.le_trans hNw HUx.size) ?_
  · intro j u hu
    rw [Addr.add_lit]
    exact At.cell (at_new w 29 [v]) (i := 0 + j) (by rw [Nat.zero_add]; exact hu)
  · intro u hu
    obtain rfl := List.mem_singleton.1 hu
    exact hone
  intro v8 w8 o8 g8 f8
  obtain ⟨ax2, cx2, rfl⟩ := row_len o8
  have hDu := hD.up HUx
  have kp : ∀ u es, Ow w N u es → Ow w8 N u es := fun u es hu => World.ownsRow.kept (ow_up hu HUx) g8 (own_off (ow_up hu HUx) hnu (by decide))
  refine Kk ax2 cx2 w8 ⟨by simp [hR.len], by rw [List.length_append, hq]; exact o8, fun i hi hx => ?_, fun k hk ho => ?_, fun u hu k hk ho => ?_⟩ (hDu.beside hnu hN g8 (by have := hR.nr; rw [hq] at this; exact this)) (up_grownBy (hU.trans HUx) g8 (fun g hg => Nat.le_trans hW (World.ownsRow.lt hns g hg).1))
  · rcases Nat.lt_or_ge i xs.length with h1 | h1
    · rw [List.getElem_append_left h1, List.getElem_append_left (by rw [← hR.len]; exact h1)]
      exact kp _ _ (hR.el i _ h1)
    · have e : i = xs.length := by rw [List.length_append] at hx; simp at hx; omega
      subst e
      rw [List.getElem_append_right (Nat.le_refl _), List.getElem_append_right (by rw [hR.len]; exact Nat.le_refl _)]
      simp only [hR.len, Nat.sub_self, List.getElem_cons_zero]
      exact kp _ _ hv
  · rw [List.length_append, hq] at hk
    rcases f8 k hk with h1 | h1
    · exact hR.nr k (by rw [hq]; exact h1) ho
    · have := hD.lt ho
      have := HUx.size
      omega
  · rcases List.mem_append.1 hu with h1 | h1
    · exact hR.ne u h1 k hk ho
    · obtain rfl := List.mem_singleton.1 h1
      exact hnv k hk ho
/-- lists of bytes that are given -/
structure STs (w : World) (a : Option Addr) (ls : List (List UInt8)) (c : Nat) : Prop where
  cap : ls.length ≤ c
  cells : ∀ i (h : i < ls.length), ∃ b off u, a = some ⟨b, off, none⟩ ∧ w.cell? ⟨b, off + i, none⟩ = some u ∧ Sb w u ls[i]
  len : ∀ l ∈ ls, l.length ≤ 140737488355328
end Go.Proofs.YtepakbghhnkcfaaDoor
