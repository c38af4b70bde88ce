import Derived.Test.YtpjfmkmgfjhnmaaLg
namespace Tlg

/-- the level of a number: the greatest power of two within it -/
def lg (x : Nat) : Nat := Nat.log2 x
theorem lg_le {x : Nat} (h : 0 < x) : 2 ^ lg x ≤ x := Nat.log2_self_le (by omega)
theorem lg_lt (x : Nat) : x < 2 ^ (lg x + 1) := Nat.lt_log2_self
theorem lg_uniq {x k : Nat} (h1 : 2 ^ k ≤ x) (h2 : x < 2 ^ (k + 1)) : lg x = k := by
  have hx : 0 < x := Nat.lt_of_lt_of_le (Nat.pow_pos (by decide)) h1
  have a := lg_le hx
  have b := lg_lt x
  have c1 : k < lg x + 1 := (Nat.pow_lt_pow_iff_right (a := 2) (by decide)).1 (by omega)
  have c2 : lg x < k + 1 := (Nat.pow_lt_pow_iff_right (a := 2) (by decide)).1 (by omega)
  omega
theorem lg_mono {x y : Nat} (hx : 0 < x) (h : x ≤ y) : lg x ≤ lg y := by
  have a := lg_le hx
  have b := lg_lt y
  have c1 : lg x < lg y + 1 := (Nat.pow_lt_pow_iff_right (a := 2) (by decide)).1 (by omega)
  omega
theorem lg_pow (k : Nat) : lg (2 ^ k) = k := lg_uniq (Nat.le_refl _) (by rw [Nat.pow_succ]; have := Nat.pow_pos (n := k) (a := 2) (by decide); omega)

/-- a range of a tree: it begins at a multiple of its greatest power of two -/
def Rg (a b : Nat) : Prop := a < b ∧ 2 ^ lg (b - a) ∣ a
/-- the size of the left child -/
def lft (a b : Nat) : Nat := 2 ^ lg (b - a - 1)
def cut (a b : Nat) : Nat := a + lft a b
/-- a power of two -/
def Wh (n : Nat) : Prop := n = 2 ^ lg n

theorem rg_zero {n : Nat} (h : 0 < n) : Rg 0 n := ⟨h, Nat.dvd_zero _⟩
theorem cut_in {a b : Nat} (h : 2 ≤ b - a) : a < cut a b ∧ cut a b < b := by
  have h1 := lg_le (x := b - a - 1) (by omega)
  have h2 : 0 < lft a b := Nat.pow_pos (by decide)
  unfold cut
  unfold lft at *
  omega
theorem lft_dvd {a b : Nat} (h : Rg a b) (h2 : 2 ≤ b - a) : lft a b ∣ a := by
  have := lg_mono (x := b - a - 1) (y := b - a) (by omega) (by omega)
  exact Nat.dvd_trans (Nat.pow_dvd_pow 2 this) h.2
theorem rg_left {a b : Nat} (h : Rg a b) (h2 : 2 ≤ b - a) : Rg a (cut a b) := by
  refine ⟨(cut_in h2).1, ?_⟩
  have e : cut a b - a = lft a b := by unfold cut; omega
  rw [e]
  unfold lft
  rw [lg_pow]
  exact lft_dvd h h2
theorem wh_left {a b : Nat} : Wh (cut a b - a) := by
  have e : cut a b - a = lft a b := by unfold cut; omega
  unfold Wh
  rw [e]
  unfold lft
  rw [lg_pow]
theorem rg_right {a b : Nat} (h : Rg a b) (h2 : 2 ≤ b - a) : Rg (cut a b) b := by
  obtain ⟨c1, c2⟩ := cut_in h2
  refine ⟨c2, ?_⟩
  have hs : lft a b ∣ cut a b := (Nat.dvd_add_iff_left (Nat.dvd_refl _)).1 (lft_dvd h h2)
  have hle : b - cut a b ≤ lft a b := by
    have := lg_lt (b - a - 1)
    rw [Nat.pow_succ] at this
    unfold cut
    unfold lft
    omega
  have := lg_mono (x := b - cut a b) (y := lft a b) (by omega) hle
  unfold lft at this
  rw [lg_pow] at this
  exact Nat.dvd_trans (Nat.pow_dvd_pow 2 this) hs

/-- intervals one behind the other -/
def Ch : List (Nat × Nat) → Nat → Nat → Prop
  | [], a, b => a = b
  | p :: r, a, b => p.1 = a ∧ p.1 < p.2 ∧ Ch r p.2 b
theorem Ch.le {l : List (Nat × Nat)} {a b : Nat} (h : Ch l a b) : a ≤ b := by
  induction l generalizing a with
  | nil => exact Nat.le_of_eq h
  | cons p r ih => obtain ⟨rfl, h2, h3⟩ := h; have := ih h3; omega
theorem Ch.append {l m : List (Nat × Nat)} {a b c : Nat} (h : Ch l a b) (k : Ch m b c) : Ch (l ++ m) a c := by
  induction l generalizing a with
  | nil => have : a = b := h; subst this; exact k
  | cons p r ih => exact ⟨h.1, h.2.1, ih h.2.2⟩
theorem Ch.nil_of {l : List (Nat × Nat)} {a : Nat} (h : Ch l a a) : l = [] := by
  cases l with
  | nil => rfl
  | cons p r => obtain ⟨rfl, h2, h3⟩ := h; have := Ch.le h3; omega
theorem Ch.within {l : List (Nat × Nat)} {a b : Nat} (h : Ch l a b) : ∀ p ∈ l, a ≤ p.1 ∧ p.1 < p.2 ∧ p.2 ≤ b := by
  induction l generalizing a with
  | nil => intro p hp; cases hp
  | cons q r ih =>
    obtain ⟨rfl, h2, h3⟩ := h
    intro p hp
    rcases List.mem_cons.1 hp with rfl | hp
    · exact ⟨Nat.le_refl _, h2, Ch.le h3⟩
    · have := ih h3 p hp; omega
/-- who begins at the chain's head is its head -/
theorem Ch.head {p : Nat × Nat} {l : List (Nat × Nat)} {a b : Nat} (h : Ch (p :: l) a b) {q : Nat × Nat} (hq : q ∈ p :: l) (e : q.1 = a) : q = p := by
  obtain ⟨rfl, h2, h3⟩ := h
  rcases List.mem_cons.1 hq with rfl | hq
  · rfl
  · have := Ch.within h3 q hq; omega

/-- the interval of a place -/
def iv (c : Nat) : Nat × Nat := (nd c * 2 ^ rr c, (nd c + 1) * 2 ^ rr c)
def ivs (l : List Nat) : List (Nat × Nat) := l.map iv
theorem ivs_append (a b : List Nat) : ivs (a ++ b) = ivs a ++ ivs b := by simp [ivs]
/-- the place of a whole range -/
def pl (a b : Nat) : Nat := plc (lg (b - a)) (a / 2 ^ lg (b - a))
theorem pl_fit {a b : Nat} (h : Rg a b) (hw : Wh (b - a)) : (a / 2 ^ lg (b - a) + 1) * 2 ^ lg (b - a) = b := by
  rw [Nat.add_mul, Nat.one_mul, Nat.div_mul_cancel h.2, ← hw]
  have := h.1
  omega
theorem pl_iv {a b : Nat} (h : Rg a b) (hw : Wh (b - a)) (hb : b ≤ top) : iv (pl a b) = (a, b) := by
  have e := pl_fit h hw
  obtain ⟨_, h2, h3⟩ := of_plc (l := lg (b - a)) (n := a / 2 ^ lg (b - a)) (by rw [e]; exact hb)
  unfold iv pl
  rw [h2, h3, e, Nat.div_mul_cancel h.2]
theorem pl_lt {a b : Nat} (h : Rg a b) (hw : Wh (b - a)) (hb : b ≤ top) : pl a b < 2 ^ 49 - 1 := (plc_lt (by rw [pl_fit h hw]; exact hb)).1

/-- the peaks of a range, at most k of them -/
def pks : Nat → Nat → Nat → List Nat
  | 0, _, _ => []
  | k + 1, a, b => if b - a = 2 ^ lg (b - a) then [pl a b] else pl a (cut a b) :: pks k (cut a b) b
theorem lg_right {a b : Nat} (h2 : 2 ≤ b - a) (hn : ¬ Wh (b - a)) : lg (b - cut a b) < lg (b - a) ∧ lg (b - a - 1) = lg (b - a) := by
  have h1 := lg_le (x := b - a) (by omega)
  have h3 := lg_lt (b - a)
  have h4 : 2 ^ lg (b - a) ≠ b - a := fun e => hn e.symm
  have e : lg (b - a - 1) = lg (b - a) := lg_uniq (by omega) (by omega)
  refine ⟨?_, e⟩
  obtain ⟨c1, c2⟩ := cut_in h2
  have h5 := lg_le (x := b - cut a b) (by omega)
  have h6 : b - cut a b < 2 ^ lg (b - a) := by
    unfold cut lft
    rw [e]
    rw [Nat.pow_succ] at h3
    omega
  exact (Nat.pow_lt_pow_iff_right (a := 2) (by decide)).1 (by omega)
theorem two_of {a b : Nat} (h : a < b) (hn : ¬ Wh (b - a)) : 2 ≤ b - a := by
  rcases Nat.lt_or_ge (b - a) 2 with h2 | h2
  · exact absurd (show Wh (b - a) by rw [show b - a = 2 ^ 0 by omega]; unfold Wh; rw [lg_pow]) hn
  · exact h2
theorem pks_spec {k a b : Nat} (h : Rg a b) (hb : b ≤ top) (hk : lg (b - a) < k) : Ch (ivs (pks k a b)) a b ∧ (∀ c ∈ pks k a b, c < 2 ^ 49 - 1) ∧ (pks k a b).length ≤ k := by
  induction k generalizing a with
  | zero => omega
  | succ k ih =>
    by_cases hw : b - a = 2 ^ lg (b - a)
    · rw [pks, if_pos hw]
      have e := pl_iv h hw hb
      refine ⟨?_, ?_, by simp⟩
      · show Ch [iv (pl a b)] a b
        rw [e]
        exact ⟨rfl, h.1, rfl⟩
      · intro c hc
        rw [List.mem_singleton] at hc
        subst hc
        exact pl_lt h hw hb
    · have h2 := two_of h.1 hw
      obtain ⟨c1, c2⟩ := cut_in h2
      rw [pks, if_neg hw]
      obtain ⟨i1, i2, i3⟩ := ih (rg_right h h2) (by have := (lg_right h2 hw).1; omega)
      have e := pl_iv (rg_left h h2) wh_left (by omega)
      refine ⟨?_, ?_, by simp; omega⟩
      · show Ch (iv (pl a (cut a b)) :: ivs (pks k (cut a b) b)) a b
        rw [e]
        exact ⟨rfl, c1, i1⟩
      · intro c hc
        rcases List.mem_cons.1 hc with rfl | hc
        · exact pl_lt (rg_left h h2) wh_left (by omega)
        · exact i2 c hc
/-- the places of a range -/
def pkr (a b : Nat) : List Nat := pks 49 a b
theorem lg_top {n : Nat} (h : 0 < n) (h1 : n ≤ top) : lg n < 49 := by
  have := lg_le h
  have : (2 : Nat) ^ lg n < 2 ^ 49 := by unfold top at h1; omega
  exact (Nat.pow_lt_pow_iff_right (a := 2) (by decide)).1 this
theorem pkr_spec {a b : Nat} (h : Rg a b) (hb : b ≤ top) : Ch (ivs (pkr a b)) a b ∧ (∀ c ∈ pkr a b, c < 2 ^ 49 - 1) ∧ (pkr a b).length ≤ 49 := pks_spec h hb (lg_top (by have := h.1; omega) (by omega))
theorem pks_more {k a b : Nat} (h : Rg a b) (hk : lg (b - a) < k) : ∀ m, k ≤ m → pks m a b = pks k a b := by
  induction k generalizing a with
  | zero => omega
  | succ k ih =>
    intro m hm
    obtain ⟨m, rfl⟩ : ∃ x, m = x + 1 := ⟨m - 1, by omega⟩
    by_cases hw : b - a = 2 ^ lg (b - a)
    · rw [pks, if_pos hw, pks, if_pos hw]
    · have h2 := two_of h.1 hw
      rw [pks, if_neg hw, pks, if_neg hw]
      rw [ih (rg_right h h2) (by have := (lg_right h2 hw).1; omega) m (by omega)]
theorem pkr_wh {a b : Nat} (hw : Wh (b - a)) : pkr a b = [pl a b] := by
  unfold pkr
  rw [pks, if_pos (show b - a = 2 ^ lg (b - a) from hw)]
theorem pkr_step {a b : Nat} (h : Rg a b) (hb : b ≤ top) (hw : ¬ Wh (b - a)) : pkr a b = pl a (cut a b) :: pkr (cut a b) b := by
  have h2 := two_of h.1 hw
  unfold pkr
  rw [pks, if_neg (show ¬ b - a = 2 ^ lg (b - a) from hw)]
  have := (lg_right h2 hw).1
  have h3 := lg_top (n := b - a) (by omega) (by omega)
  rw [pks_more (k := 48) (rg_right h h2) (by omega) 49 (by omega)]
/-- is the goal reached? -/
def dn (s : Bool) (i a b : Nat) : Bool := if s then b == i + 1 else b - a == 1
def Dn (s : Bool) (i a b : Nat) : Prop := dn s i a b = true
/-- what the walk lays, in its order -/
def way (s : Bool) (i : Nat) : Nat → Nat → Nat → List (List Nat)
  | 0, _, _ => []
  | k + 1, a, b => if dn s i a b = true then [] else if i < cut a b then pkr (cut a b) b :: way s i k a (cut a b) else pkr a (cut a b) :: way s i k (cut a b) b
theorem way_done {s : Bool} {i k a b : Nat} (h : Dn s i a b) : way s i k a b = [] := by
  cases k with
  | zero => rfl
  | succ k => rw [way, if_pos (show dn s i a b = true from h)]
theorem way_left {s : Bool} {i k a b : Nat} (h : ¬ Dn s i a b) (hc : i < cut a b) : way s i (k + 1) a b = pkr (cut a b) b :: way s i k a (cut a b) := by
  rw [way, if_neg (show ¬ dn s i a b = true from h), if_pos hc]
theorem way_right {s : Bool} {i k a b : Nat} (h : ¬ Dn s i a b) (hc : ¬ i < cut a b) : way s i (k + 1) a b = pkr a (cut a b) :: way s i k (cut a b) b := by
  rw [way, if_neg (show ¬ dn s i a b = true from h), if_neg hc]

/-- where the walk stands: what was laid and what is left tile the tree -/
structure Wk (n i : Nat) (s : Bool) (L : List (List Nat)) (k a b : Nat) : Prop where
  rg : Rg a b
  le : b ≤ n
  lo : a ≤ i
  hi : i < b
  til : ∃ Lc Rc, Ch Lc 0 a ∧ Ch Rc b n ∧ (ivs L.flatten).Perm (Lc ++ Rc)
  sm : ∀ l ∈ L, l.length ≤ 49 ∧ ∀ c ∈ l, c < 2 ^ 49 - 1
  dp : b - a ≤ 2 ^ k ∧ k + L.length ≤ 48
  ze : a = 0 → b = n ∨ Wh b
  pw : s = true → Wh (i + 1) ∨ i + 1 = n → a = 0
  wy : L ++ way s i k a b = way s i 48 0 n
theorem Wk.start {n i : Nat} (s : Bool) (hn : n ≤ top) (hi : i < n) : Wk n i s [] 48 0 n :=
  ⟨rg_zero (by omega), Nat.le_refl _, Nat.zero_le _, hi, ⟨[], [], rfl, rfl, List.Perm.refl _⟩, (fun l hl => by cases hl), ⟨by unfold top at hn; omega, by simp⟩, fun _ => .inl rfl, fun _ _ => rfl, rfl⟩
theorem not_dn {s : Bool} {i a b : Nat} (h : ¬ Dn s i a b) (lo : a ≤ i) (hi : i < b) : 2 ≤ b - a ∧ (s = true → b ≠ i + 1) := by
  cases s with
  | true => unfold Dn dn at h; simp at h; exact ⟨by omega, fun _ => h⟩
  | false => unfold Dn dn at h; simp at h; exact ⟨by omega, fun h => by cases h⟩
theorem half_fit {a b k : Nat} (h2 : 2 ≤ b - a) (hk : b - a ≤ 2 ^ k) : ∃ j, k = j + 1 ∧ cut a b - a ≤ 2 ^ j ∧ b - cut a b ≤ 2 ^ j := by
  cases k with
  | zero => simp at hk; omega
  | succ j =>
    have h1 := lg_le (x := b - a - 1) (by omega)
    have h3 := lg_lt (b - a - 1)
    have h4 : lg (b - a - 1) < j + 1 := (Nat.pow_lt_pow_iff_right (a := 2) (by decide)).1 (by omega)
    have h5 : 2 ^ lg (b - a - 1) ≤ 2 ^ j := Nat.pow_le_pow_right (by decide) (by omega)
    rw [Nat.pow_succ] at h3
    refine ⟨j, rfl, ?_, ?_⟩
    · unfold cut lft; omega
    · unfold cut lft; omega
theorem perm_right {L : List (List Nat)} {p : List Nat} {Lc Rc : List (Nat × Nat)} (h : (ivs L.flatten).Perm (Lc ++ Rc)) : (ivs (L ++ [p]).flatten).Perm (Lc ++ (ivs p ++ Rc)) := by
  rw [List.flatten_append, ivs_append, List.flatten_cons, List.flatten_nil, List.append_nil]
  refine (h.append_right _).trans ?_
  rw [List.append_assoc]
  exact List.Perm.append_left _ List.perm_append_comm
theorem perm_left {L : List (List Nat)} {p : List Nat} {Lc Rc : List (Nat × Nat)} (h : (ivs L.flatten).Perm (Lc ++ Rc)) : (ivs (L ++ [p]).flatten).Perm ((Lc ++ ivs p) ++ Rc) := by
  rw [List.append_assoc]
  exact perm_right h
theorem Wk.left {n i : Nat} {s : Bool} {L : List (List Nat)} {k a b : Nat} (h : Wk n i s L (k + 1) a b) (hn : n ≤ top) (hd : ¬ Dn s i a b) (hc : i < cut a b) : Wk n i s (L ++ [pkr (cut a b) b]) k a (cut a b) := by
  obtain ⟨h2, hs⟩ := not_dn hd h.lo h.hi
  obtain ⟨c1, c2⟩ := cut_in h2
  obtain ⟨j, e, d1, d2⟩ := half_fit h2 h.dp.1
  obtain rfl : j = k := by omega
  have rr := rg_right h.rg h2
  have hb : b ≤ top := Nat.le_trans h.le hn
  obtain ⟨p1, p2, p3⟩ := pkr_spec rr hb
  refine ⟨rg_left h.rg h2, by have := h.le; omega, h.lo, hc, ?_, ?_, ⟨d1, ?_⟩, ?_, h.pw, ?_⟩
  · obtain ⟨Lc, Rc, q1, q2, q3⟩ := h.til
    exact ⟨Lc, ivs (pkr (cut a b) b) ++ Rc, q1, p1.append q2, perm_right q3⟩
  · intro l hl
    rcases List.mem_append.1 hl with hl | hl
    · exact h.sm l hl
    · rw [List.mem_singleton] at hl
      subst hl
      exact ⟨p3, p2⟩
  · have := h.dp.2
    rw [List.length_append, List.length_singleton]
    omega
  · intro ha
    right
    have := wh_left (a := a) (b := b)
    rw [ha] at this ⊢
    exact this
  · rw [← h.wy, way_left hd hc, List.append_assoc]
    rfl
theorem Wk.right {n i : Nat} {s : Bool} {L : List (List Nat)} {k a b : Nat} (h : Wk n i s L (k + 1) a b) (hn : n ≤ top) (hd : ¬ Dn s i a b) (hc : ¬ i < cut a b) : Wk n i s (L ++ [pkr a (cut a b)]) k (cut a b) b := by
  obtain ⟨h2, hs⟩ := not_dn hd h.lo h.hi
  obtain ⟨c1, c2⟩ := cut_in h2
  obtain ⟨j, e, d1, d2⟩ := half_fit h2 h.dp.1
  obtain rfl : j = k := by omega
  have rr := rg_left h.rg h2
  have hb : b ≤ top := Nat.le_trans h.le hn
  obtain ⟨p1, p2, p3⟩ := pkr_spec rr (by omega)
  refine ⟨rg_right h.rg h2, h.le, by omega, h.hi, ?_, ?_, ⟨d2, ?_⟩, fun e => by omega, ?_, ?_⟩
  · obtain ⟨Lc, Rc, q1, q2, q3⟩ := h.til
    exact ⟨Lc ++ ivs (pkr a (cut a b)), Rc, q1.append p1, q2, perm_left q3⟩
  · intro l hl
    rcases List.mem_append.1 hl with hl | hl
    · exact h.sm l hl
    · rw [List.mem_singleton] at hl
      subst hl
      exact ⟨p3, p2⟩
  · have := h.dp.2
    rw [List.length_append, List.length_singleton]
    omega
  · intro es hw
    exfalso
    have h0 := h.pw es hw
    have hne := hs es
    have hle := h.le
    have hhi := h.hi
    subst h0
    rcases hw with hw | hw
    · apply hc
      have l1 : lg (i + 1) ≤ lg (b - 0 - 1) := lg_mono (by omega) (by omega)
      have l2 : 2 ^ lg (i + 1) ≤ 2 ^ lg (b - 0 - 1) := Nat.pow_le_pow_right (by decide) l1
      rw [← hw] at l2
      unfold cut lft
      omega
    · omega
  · rw [← h.wy, way_right hd hc, List.append_assoc]
    rfl

/-- the lists' intervals, with some more, tile lo to hi, and none lies on both sides of m -/
def Cov (L : List (List Nat)) (x : List (Nat × Nat)) (lo hi m : Nat) : Prop :=
  ∃ C, Ch C lo hi ∧ (ivs L.flatten ++ x).Perm C ∧ ∀ p ∈ C, ¬ (p.1 < m ∧ m < p.2)
theorem Cov.perm {L M : List (List Nat)} {x : List (Nat × Nat)} {lo hi m : Nat} (h : Cov L x lo hi m) (hp : M.Perm L) : Cov M x lo hi m := by
  obtain ⟨C, h1, h2, h3⟩ := h
  exact ⟨C, h1, (((hp.flatten).map iv).append_right _).trans h2, h3⟩
theorem cov_record {n i : Nat} {L : List (List Nat)} {k a b : Nat} (h : Wk n i false L k a b) (hd : Dn false i a b) : Cov L [(i, i + 1)] 0 n 0 := by
  have h1 := h.lo
  have h2 := h.hi
  have h3 : b - a = 1 := by unfold Dn dn at hd; simpa using hd
  obtain rfl : a = i := by omega
  obtain rfl : b = a + 1 := by omega
  obtain ⟨Lc, Rc, q1, q2, q3⟩ := h.til
  refine ⟨Lc ++ ([(a, a + 1)] ++ Rc), q1.append (Ch.append ⟨rfl, Nat.lt_succ_self _, rfl⟩ q2), ?_, fun p _ hp => by omega⟩
  refine (q3.append_right _).trans ?_
  rw [List.append_assoc]
  exact List.Perm.append_left _ List.perm_append_comm
theorem cov_tree {n i : Nat} {L : List (List Nat)} {k a b : Nat} (h : Wk n i true L k a b) (hd : Dn true i a b) (hn : n ≤ top) :
    (0 < a → Cov (L ++ [pkr a b]) [] 0 n (i + 1) ∧ ¬ (Wh (i + 1) ∨ i + 1 = n)) ∧ (a = 0 → Cov L [] (i + 1) n (i + 1) ∧ (Wh (i + 1) ∨ i + 1 = n)) := by
  have h3 : b = i + 1 := by unfold Dn dn at hd; simpa using hd
  subst h3
  obtain ⟨Lc, Rc, q1, q2, q3⟩ := h.til
  refine ⟨fun ha => ⟨?_, fun hw => by have := h.pw rfl hw; omega⟩, fun ha => ⟨?_, (h.ze ha).symm⟩⟩
  · obtain ⟨p1, _, _⟩ := pkr_spec h.rg (Nat.le_trans h.le hn)
    refine ⟨Lc ++ (ivs (pkr a (i + 1)) ++ Rc), q1.append (p1.append q2), by rw [List.append_nil]; exact perm_right q3, fun p hp hm => ?_⟩
    have hlo := h.lo
    rcases List.mem_append.1 hp with hp | hp
    · have := q1.within p hp; omega
    · rcases List.mem_append.1 hp with hp | hp
      · have := p1.within p hp; omega
      · have := q2.within p hp; omega
  · subst ha
    have e := q1.nil_of
    subst e
    refine ⟨Rc, q2, by rw [List.append_nil]; exact q3, fun p hp hm => ?_⟩
    have := q2.within p hp; omega
end Tlg
