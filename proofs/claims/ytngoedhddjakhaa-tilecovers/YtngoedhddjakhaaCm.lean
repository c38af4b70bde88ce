/-! plain lemmas on the tiles of a tree; no model in it -/
namespace TileNum
/-- the nodes of a tile level, a tile's width, the tiles that are new at a level -/
def nd (h l s : Nat) : Nat := s / 2 ^ (h * l)
def wd (h c n : Nat) : Nat := min (c - n * 2 ^ h) (2 ^ h)
abbrev TT := Nat × Nat × Nat
def row (h l o s : Nat) : List TT := if nd h l o < nd h l s then (List.range' (nd h l o / 2 ^ h) ((nd h l s - 1) / 2 ^ h + 1 - nd h l o / 2 ^ h)).map fun n => (l, n, wd h (nd h l s) n) else []
def pre (h o s k : Nat) : List TT := (List.range k).flatMap fun l => row h l o s
def FL (h o s : Nat) : List TT := pre h o s 49
theorem pp (h : Nat) : 0 < 2 ^ h := Nat.two_pow_pos h
theorem nd_succ (h l s : Nat) : nd h (l + 1) s = nd h l s / 2 ^ h := by
  unfold nd
  rw [Nat.div_div_eq_div_mul, ← Nat.pow_add, Nat.mul_add, Nat.mul_one]
theorem nd_0 (h s : Nat) : nd h 0 s = s := by simp [nd]
theorem nd_00 (h l : Nat) : nd h l 0 = 0 := by simp [nd]
theorem nd_mono (h l : Nat) {o s : Nat} (hs : o ≤ s) : nd h l o ≤ nd h l s := Nat.div_le_div_right hs
theorem nd_le (h l s : Nat) : nd h l s ≤ s := Nat.div_le_self _ _
theorem nd_far {h l s : Nat} (hh : 1 ≤ h) (hs : s ≤ 281474976710656) (hl : 49 ≤ l) : nd h l s = 0 := by
  unfold nd
  apply Nat.div_eq_of_lt
  have h1 : 2 ^ 49 ≤ 2 ^ (h * l) := Nat.pow_le_pow_right (by decide) (Nat.le_trans hl (Nat.le_mul_of_pos_left _ hh))
  have h2 : (2 : Nat) ^ 49 = 562949953421312 := by decide
  omega
theorem pre_succ (h o s k : Nat) : pre h o s (k + 1) = pre h o s k ++ row h k o s := by
  unfold pre
  rw [List.range_succ, List.flatMap_append]
  simp
theorem row_no {h l o s : Nat} (hn : ¬ nd h l o < nd h l s) : row h l o s = [] := by unfold row; rw [if_neg hn]
theorem nd_stop {h l o s : Nat} (hos : o ≤ s) (hn : ¬ nd h l o < nd h l s) : ∀ k, ¬ nd h (l + k) o < nd h (l + k) s
  | 0 => hn
  | k + 1 => by
    have ih := nd_stop hos hn k
    have e : nd h (l + k) o = nd h (l + k) s := Nat.le_antisymm (nd_mono h _ hos) (by omega)
    rw [← Nat.add_assoc, nd_succ, nd_succ, e]
    omega
theorem pre_stop {h l o s : Nat} (hos : o ≤ s) (hn : ¬ nd h l o < nd h l s) : ∀ k, pre h o s (l + k) = pre h o s l
  | 0 => rfl
  | k + 1 => by rw [← Nat.add_assoc, pre_succ, row_no (nd_stop hos hn k), List.append_nil, pre_stop hos hn k]
theorem FL_stop {h l o s : Nat} (hos : o ≤ s) (hn : ¬ nd h l o < nd h l s) (hl : l ≤ 49) : FL h o s = pre h o s l := by
  obtain ⟨k, hk⟩ : ∃ k, 49 = l + k := ⟨49 - l, by omega⟩
  unfold FL
  rw [hk]
  exact pre_stop hos hn k
/-- how many are new at a level -/
theorem row_len {h l o s : Nat} (hn : nd h l o < nd h l s) : (row h l o s).length = (nd h l s - 1) / 2 ^ h + 1 - nd h l o / 2 ^ h ∧ nd h l o / 2 ^ h ≤ (nd h l s - 1) / 2 ^ h := by
  unfold row
  rw [if_pos hn]
  refine ⟨by simp, Nat.div_le_div_right (by omega)⟩
theorem row_get {h l o s j : Nat} (hn : nd h l o < nd h l s) (hj : j ≤ (nd h l s - 1) / 2 ^ h + 1 - nd h l o / 2 ^ h) : (row h l o s).take j = (List.range' (nd h l o / 2 ^ h) j).map fun n => (l, n, wd h (nd h l s) n) := by
  unfold row
  rw [if_pos hn, ← List.map_take]
  congr 1
  rw [List.range'_eq_map_range, List.range'_eq_map_range, ← List.map_take, List.take_range, Nat.min_eq_left hj]
/-- what a level of a list covers -/
def cvs (h lv : Nat) : List TT → Nat → Option Nat
  | [], n => some n
  | t :: ts, n => if t.1 ≠ lv then cvs h lv ts n else if t.2.1 * 2 ^ h = n ∧ 1 ≤ t.2.2 ∧ t.2.2 ≤ 2 ^ h then cvs h lv ts (n + t.2.2) else none
theorem cvs_append (h lv : Nat) : ∀ (a b : List TT) (n : Nat), cvs h lv (a ++ b) n = (cvs h lv a n).bind (cvs h lv b)
  | [], b, n => rfl
  | t :: a, b, n => by
    simp only [List.cons_append, cvs]
    split
    · exact cvs_append h lv a b n
    · split
      · exact cvs_append h lv a b _
      · rfl
theorem cvs_other {h lv l : Nat} (hl : l ≠ lv) (f : Nat → Nat) : ∀ (ns : List Nat) (n : Nat), cvs h lv (ns.map fun i => (l, i, f i)) n = some n
  | [], n => rfl
  | i :: ns, n => by
    simp only [List.map_cons, cvs]
    rw [if_pos hl]
    exact cvs_other hl f ns n
theorem mul_succ' (a p : Nat) : (a + 1) * p = a * p + p := by rw [Nat.add_mul, Nat.one_mul]
theorem cvs_row (h lv c : Nat) : ∀ (k a : Nat), a * 2 ^ h ≤ c → (∀ n, n < k → (a + n) * 2 ^ h < c) → cvs h lv ((List.range' a k).map fun n => (lv, n, wd h c n)) (a * 2 ^ h) = some (min c ((a + k) * 2 ^ h))
  | 0, a, ha, _ => by simp [cvs]; omega
  | k + 1, a, ha, hk => by
    have h0 := hk 0 (by omega)
    rw [Nat.add_zero] at h0
    have hp := pp h
    simp only [List.range'_succ, List.map_cons, cvs]
    rw [if_neg (by simp), if_pos (by refine ⟨?_, ?_, ?_⟩ <;> first | rfl | trivial | (unfold wd; omega))]
    rcases Nat.eq_zero_or_pos k with hk0 | hk0
    · subst hk0
      simp only [List.range'_zero, List.map_nil, cvs, Option.some.injEq]
      rw [Nat.zero_add, mul_succ']
      unfold wd
      omega
    · have h1 := hk 1 (by omega)
      have e : a * 2 ^ h + wd h c a = (a + 1) * 2 ^ h := by
        rw [mul_succ'] at h1 ⊢
        unfold wd
        omega
      rw [e, cvs_row h lv c k (a + 1) (by omega) (fun n hn => by have := hk (n + 1) (by omega); rw [show a + 1 + n = a + (n + 1) by omega]; exact this), show a + 1 + k = a + (k + 1) by omega]
theorem num_lt {h c n : Nat} (hc : 0 < c) : n < (c - 1) / 2 ^ h + 1 ↔ n * 2 ^ h < c := by
  have hp := pp h
  rw [Nat.lt_succ_iff, Nat.le_div_iff_mul_le hp]
  omega
theorem cvs_level {h l s : Nat} (hc : 0 < nd h l s) : cvs h l (row h l 0 s) 0 = some (nd h l s) := by
  have hp := pp h
  unfold row
  rw [nd_00, if_pos hc, Nat.zero_div, Nat.sub_zero]
  have := cvs_row h l (nd h l s) ((nd h l s - 1) / 2 ^ h + 1) 0 (by simp) (fun n hn => by rw [Nat.zero_add]; exact (num_lt hc).1 hn)
  rw [Nat.zero_mul] at this
  rw [this, Nat.zero_add]
  congr 1
  have h2 : ¬ (nd h l s - 1) / 2 ^ h + 1 < (nd h l s - 1) / 2 ^ h + 1 := Nat.lt_irrefl _
  rw [num_lt hc] at h2
  omega
theorem cvs_pre {h lv s : Nat} (hc : 0 < nd h lv s) : ∀ k, cvs h lv (pre h 0 s k) 0 = some (if lv < k then nd h lv s else 0)
  | 0 => by simp [pre, cvs]
  | k + 1 => by
    rw [pre_succ, cvs_append, cvs_pre hc k, Option.bind_some]
    by_cases h1 : k = lv
    · subst h1
      rw [if_neg (by omega), if_pos (by omega), cvs_level hc]
    · have h2 : cvs h lv (row h k 0 s) (if lv < k then nd h lv s else 0) = some (if lv < k then nd h lv s else 0) := by
        unfold row
        split
        · exact cvs_other h1 _ _ _
        · rfl
      rw [h2]
      congr 1
      by_cases h3 : lv < k
      · rw [if_pos h3, if_pos (by omega)]
      · rw [if_neg h3, if_neg (by omega)]
theorem cvs_all {h lv s : Nat} (hc : 0 < nd h lv s) (hl : lv < 49) : cvs h lv (FL h 0 s) 0 = some (nd h lv s) := by
  unfold FL
  rw [cvs_pre hc, if_pos hl]
/-- the nodes of all levels up to one -/
def tot (h s : Nat) : Nat → Nat
  | 0 => 0
  | k + 1 => tot h s k + nd h k s
def ws (l : List TT) : Nat := (l.map (·.2.2)).sum
theorem ws_append (a b : List TT) : ws (a ++ b) = ws a + ws b := by simp [ws]
theorem cvs_ws {h lv : Nat} : ∀ (l : List TT) (n m : Nat), (∀ t ∈ l, t.1 = lv) → cvs h lv l n = some m → n + ws l = m
  | [], n, m, _, he => by simp [cvs] at he; simp [ws, he]
  | t :: l, n, m, ht, he => by
    simp only [cvs] at he
    rw [if_neg (by simp [ht t (by simp)])] at he
    split at he
    · have := cvs_ws l _ m (fun x hx => ht x (by simp [hx])) he
      simp only [ws, List.map_cons, List.sum_cons] at this ⊢
      omega
    · cases he
theorem row_lv {h l o s : Nat} : ∀ t ∈ row h l o s, t.1 = l := by
  intro t ht
  unfold row at ht
  split at ht
  · obtain ⟨n, _, rfl⟩ := List.mem_map.1 ht
    rfl
  · cases ht
theorem ws_pre (h s : Nat) : ∀ k, ws (pre h 0 s k) = tot h s k
  | 0 => rfl
  | k + 1 => by
    rw [pre_succ, ws_append, ws_pre h s k, tot]
    congr 1
    rcases Nat.eq_zero_or_pos (nd h k s) with h0 | h0
    · rw [row_no (by rw [h0]; omega), h0]; rfl
    · have := cvs_ws _ _ _ row_lv (cvs_level h0)
      omega
theorem tot_stop {h s k : Nat} (h0 : nd h k s = 0) : ∀ j, tot h s (k + j) = tot h s k
  | 0 => rfl
  | j + 1 => by
    have h1 : nd h (k + j) s = 0 := by
      have := nd_stop (h := h) (l := k) (o := 0) (s := s) (Nat.zero_le _) (by rw [h0]; omega) j
      rw [nd_00] at this
      omega
    rw [← Nat.add_assoc, tot, h1, tot_stop h0 j, Nat.add_zero]
theorem ws_all {h s k : Nat} (h0 : nd h k s = 0) (hk : k ≤ 49) : ws (FL h 0 s) = tot h s k := by
  unfold FL
  rw [ws_pre]
  obtain ⟨j, hj⟩ : ∃ j, 49 = k + j := ⟨49 - k, by omega⟩
  rw [hj]
  exact tot_stop h0 j
theorem tot_le (h s : Nat) : ∀ k, tot h s k ≤ k * s
  | 0 => by simp [tot]
  | k + 1 => by
    have h1 := tot_le h s k
    have h2 := nd_le h k s
    rw [tot, mul_succ']
    omega
/-- the order -/
def lx (a b : TT) : Prop := a.1 < b.1 ∨ a.1 = b.1 ∧ a.2.1 < b.2.1
theorem FL_sorted (h o s : Nat) : (FL h o s).Pairwise lx := by
  unfold FL pre
  rw [List.pairwise_flatMap]
  constructor
  · intro l _
    unfold row
    split
    · rw [List.pairwise_map]
      exact (List.pairwise_lt_range' 1 (by decide)).imp (fun h => .inr ⟨rfl, h⟩)
    · exact List.Pairwise.nil
  · refine List.pairwise_lt_range.imp (fun {a b} hab x hx y hy => .inl ?_)
    rw [row_lv x hx, row_lv y hy]
    exact hab
/-- which are new -/
theorem filter_ge (a : Nat) : ∀ m, (List.range m).filter (fun n => decide (a ≤ n)) = List.range' a (m - a)
  | 0 => by simp
  | m + 1 => by
    rw [List.range_succ, List.filter_append, filter_ge a m]
    by_cases h : a ≤ m
    · rw [show m + 1 - a = (m - a) + 1 by omega, List.range'_concat]
      simp [h]
    · rw [show m + 1 - a = 0 by omega, show m - a = 0 by omega]
      simp [h]
theorem mem_FL0 {h o l n w : Nat} (hl : l < 49) : (l, n, w) ∈ FL h 0 o ↔ n * 2 ^ h < nd h l o ∧ w = wd h (nd h l o) n := by
  unfold FL pre
  rw [List.mem_flatMap]
  constructor
  · rintro ⟨k, _, hk⟩
    have e := row_lv _ hk
    simp only at e
    subst e
    unfold row at hk
    rw [nd_00, Nat.zero_div, Nat.sub_zero] at hk
    split at hk
    · rename_i hc
      obtain ⟨i, hi, e⟩ := List.mem_map.1 hk
      simp only [Prod.mk.injEq, true_and] at e
      obtain ⟨rfl, rfl⟩ := e
      rw [List.mem_range'_1] at hi
      exact ⟨(num_lt hc).1 (by omega), rfl⟩
    · cases hk
  · rintro ⟨h1, rfl⟩
    refine ⟨l, by simpa using hl, ?_⟩
    have hc : 0 < nd h l o := by omega
    unfold row
    rw [nd_00, Nat.zero_div, Nat.sub_zero, if_pos hc]
    refine List.mem_map.2 ⟨n, ?_, rfl⟩
    rw [List.mem_range'_1]
    exact ⟨Nat.zero_le _, by have := (num_lt hc).2 h1; omega⟩
theorem not_there {h l o s n : Nat} (hl : l < 49) (hos : o ≤ s) (hn : n * 2 ^ h < nd h l s) : (l, n, wd h (nd h l s) n) ∈ FL h 0 o ↔ ¬ (nd h l o / 2 ^ h ≤ n ∧ nd h l o < nd h l s) := by
  rw [mem_FL0 hl]
  have hp := pp h
  have hm := nd_mono h l hos
  generalize nd h l o = c at *
  generalize nd h l s = d at *
  constructor
  · rintro ⟨h1, h2⟩ ⟨h3, h4⟩
    have h5 : c < (n + 1) * 2 ^ h := by rw [← Nat.div_lt_iff_lt_mul hp]; omega
    rw [mul_succ'] at h5
    unfold wd at h2
    omega
  · intro h1
    rcases Nat.lt_or_ge n (c / 2 ^ h) with h2 | h2
    · have h3 : (n + 1) * 2 ^ h ≤ c := by rw [← Nat.le_div_iff_mul_le hp]; omega
      rw [mul_succ'] at h3
      refine ⟨by omega, ?_⟩
      unfold wd
      omega
    · have h4 : c = d := by
        rcases Nat.lt_or_ge c d with h5 | h5
        · exact absurd ⟨h2, h5⟩ h1
        · omega
      subst h4
      exact ⟨hn, rfl⟩
theorem row_filter {h l o s : Nat} (hl : l < 49) (hos : o ≤ s) : (row h l 0 s).filter (fun t => decide (t ∉ FL h 0 o)) = row h l o s := by
  have hp := pp h
  rcases Nat.eq_zero_or_pos (nd h l s) with h0 | h0
  · rw [row_no (by rw [h0]; omega), row_no (by rw [h0]; omega)]; rfl
  have e1 : row h l 0 s = (List.range ((nd h l s - 1) / 2 ^ h + 1)).map fun n => (l, n, wd h (nd h l s) n) := by
    unfold row
    rw [nd_00, Nat.zero_div, Nat.sub_zero, if_pos h0, List.range_eq_range']
  rw [e1, List.filter_map]
  have e2 : (List.range ((nd h l s - 1) / 2 ^ h + 1)).filter ((fun t => decide (t ∉ FL h 0 o)) ∘ fun n => (l, n, wd h (nd h l s) n)) = (List.range ((nd h l s - 1) / 2 ^ h + 1)).filter (fun n => decide (nd h l o / 2 ^ h ≤ n ∧ nd h l o < nd h l s)) := by
    apply List.filter_congr
    intro n hn
    rw [List.mem_range] at hn
    have := not_there (h := h) (l := l) (o := o) (s := s) (n := n) hl hos ((num_lt h0).1 hn)
    simp only [Function.comp, decide_eq_decide]
    rw [this]
    exact Decidable.not_not
  rw [e2]
  by_cases h1 : nd h l o < nd h l s
  · have e3 : (fun n => decide (nd h l o / 2 ^ h ≤ n ∧ nd h l o < nd h l s)) = fun n => decide (nd h l o / 2 ^ h ≤ n) := by funext n; simp [h1]
    rw [e3, filter_ge]
    unfold row
    rw [if_pos h1]
  · have e3 : (fun n => decide (nd h l o / 2 ^ h ≤ n ∧ nd h l o < nd h l s)) = fun _ => false := by funext n; simp [h1]
    rw [e3, row_no h1]
    simp
theorem FL_new {h o s : Nat} (hos : o ≤ s) : (FL h 0 s).filter (fun t => decide (t ∉ FL h 0 o)) = FL h o s := by
  rw [show FL h 0 s = (List.range 49).flatMap fun l => row h l 0 s from rfl, List.filter_flatMap]
  unfold FL pre
  have key : ∀ (ls : List Nat), (∀ l ∈ ls, l < 49) → (ls.flatMap fun l => (row h l 0 s).filter (fun t => decide (t ∉ FL h 0 o))) = ls.flatMap fun l => row h l o s := by
    intro ls
    induction ls with
    | nil => intro _; rfl
    | cons l ls ih =>
      intro hl
      rw [List.flatMap_cons, List.flatMap_cons, ih (fun x hx => hl x (by simp [hx])), row_filter (hl l (by simp)) hos]
  exact key _ (fun l hl => by simpa using hl)
end TileNum
