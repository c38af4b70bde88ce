import Derived.Test.YtkegcilcapnpdaaDoorMa
namespace FieldNum

/-- the sum of digits of sixteen bits -/
def es (f : Nat → Int) : Nat → Int
  | 0 => 0
  | k + 1 => es f k + f k * 65536 ^ k
theorem es_congr {f g : Nat → Int} : ∀ {k : Nat}, (∀ j, j < k → f j = g j) → es f k = es g k
  | 0, _ => rfl
  | k + 1, h => by
    show es f k + f k * 65536 ^ k = es g k + g k * 65536 ^ k
    rw [es_congr (fun j hj => h j (by omega)), h k (by omega)]
def InS (f : Nat → Int) (k : Nat) : Prop := ∀ j, j < k → 0 ≤ f j ∧ f j < 65536
theorem es_bound {f : Nat → Int} : ∀ {k : Nat}, InS f k → 0 ≤ es f k ∧ es f k < 65536 ^ k
  | 0, _ => by simp [es]
  | k + 1, h => by
    obtain ⟨h1, h2⟩ := es_bound (k := k) (fun j hj => h j (by omega))
    obtain ⟨h3, h4⟩ := h k (by omega)
    show 0 ≤ es f k + f k * 65536 ^ k ∧ es f k + f k * 65536 ^ k < 65536 ^ (k + 1)
    rw [Int.pow_succ]
    generalize (65536 : Int) ^ k = P at *
    have h5 : 0 ≤ f k * P := Int.mul_nonneg h3 (by omega)
    have h6 : f k * P ≤ 65535 * P := Int.mul_le_mul_of_nonneg_right (by omega) (by omega)
    omega
theorem es_nonneg {f : Nat → Int} : ∀ {k : Nat}, (∀ j, j < k → 0 ≤ f j) → 0 ≤ es f k
  | 0, _ => by simp [es]
  | k + 1, h => by
    have h1 := es_nonneg (k := k) (fun j hj => h j (by omega))
    have h3 := h k (by omega)
    show 0 ≤ es f k + f k * 65536 ^ k
    have : (0 : Int) ≤ 65536 ^ k := Int.pow_nonneg (by decide)
    have h5 : 0 ≤ f k * 65536 ^ k := Int.mul_nonneg h3 this
    omega
theorem es_add (f g : Nat → Int) : ∀ k, es (fun j => f j + g j) k = es f k + es g k
  | 0 => rfl
  | k + 1 => by
    show es (fun j => f j + g j) k + (f k + g k) * 65536 ^ k = es f k + f k * 65536 ^ k + (es g k + g k * 65536 ^ k)
    rw [es_add f g k]; grind
theorem es_scale (c : Int) (f : Nat → Int) : ∀ k, es (fun j => c * f j) k = c * es f k
  | 0 => by simp [es]
  | k + 1 => by
    show es (fun j => c * f j) k + c * f k * 65536 ^ k = c * (es f k + f k * 65536 ^ k)
    rw [es_scale c f k]; grind
theorem es_split (f : Nat → Int) (m : Nat) : ∀ k, es f (m + k) = es f m + es (fun j => f (m + j)) k * 65536 ^ m
  | 0 => by simp [es]
  | k + 1 => by
    show es f (m + k) + f (m + k) * 65536 ^ (m + k) = es f m + (es (fun j => f (m + j)) k + f (m + k) * 65536 ^ k) * 65536 ^ m
    rw [es_split f m k, Int.pow_add]; grind
theorem es_upd (f g : Nat → Int) (k : Nat) (d : Int) (h0 : g k = f k + d) (h : ∀ j, j ≠ k → g j = f j) : ∀ n, k < n → es g n = es f n + d * 65536 ^ k
  | 0, hk => by omega
  | n + 1, hk => by
    show es g n + g n * 65536 ^ n = es f n + f n * 65536 ^ n + d * 65536 ^ k
    by_cases e : n = k
    · subst e
      rw [es_congr (f := g) (g := f) (fun j hj => h j (by omega)), h0]; grind
    · rw [es_upd f g k d h0 h n (by omega), h n e]; omega

/-- the carries, with c to begin with -/
def kry (c : Int) (f : Nat → Int) : Nat → Int
  | 0 => c
  | i + 1 => (f i + kry c f i) / 65536
def lo16 (c : Int) (f : Nat → Int) (i : Nat) : Int := (f i + kry c f i) % 65536
theorem lo16_in (c : Int) (f : Nat → Int) (k : Nat) : InS (lo16 c f) k := fun j _ => ⟨Int.emod_nonneg _ (by decide), Int.emod_lt_of_pos _ (by decide)⟩
theorem es_lo16 (c : Int) (f : Nat → Int) : ∀ i, es (lo16 c f) i + kry c f i * 65536 ^ i = es f i + c
  | 0 => by simp [es, kry]
  | i + 1 => by
    have ih := es_lo16 c f i
    show es (lo16 c f) i + lo16 c f i * 65536 ^ i + (f i + kry c f i) / 65536 * 65536 ^ (i + 1) = es f i + f i * 65536 ^ i + c
    have h := Int.emod_add_mul_ediv (f i + kry c f i) 65536
    have hl : lo16 c f i = (f i + kry c f i) % 65536 := rfl
    rw [hl, Int.pow_succ]
    generalize (f i + kry c f i) / 65536 = q at *
    generalize (f i + kry c f i) % 65536 = r at *
    generalize (65536 : Int) ^ i = P at *
    generalize kry c f i = d at *
    have : f i = r + 65536 * q - d := by omega
    rw [this]
    grind
theorem kry_nonneg {c : Int} {f : Nat → Int} {n : Nat} (h0 : 0 ≤ c) (h : ∀ j, j < n → 0 ≤ f j) : ∀ i, i ≤ n → 0 ≤ kry c f i
  | 0, _ => h0
  | i + 1, hi => by
    have h1 := kry_nonneg h0 h i (by omega)
    have h2 := h i (by omega)
    show 0 ≤ (f i + kry c f i) / 65536
    omega
/-- the columns' carries -/
theorem kry_col {f : Nat → Int} (h : ∀ j, j < 32 → 0 ≤ f j ∧ f j ≤ 1099511627776) : ∀ i, i ≤ 32 → 0 ≤ kry 0 f i ∧ kry 0 f i ≤ 33554432
  | 0, _ => by simp [kry]
  | i + 1, hi => by
    have h1 := kry_col h i (by omega)
    have h2 := h i (by omega)
    show 0 ≤ (f i + kry 0 f i) / 65536 ∧ (f i + kry 0 f i) / 65536 ≤ 33554432
    omega
theorem kry_end {f : Nat → Int} (h : ∀ j, j < 32 → 0 ≤ f j ∧ f j ≤ 1099511627776) (hW : es f 32 < 65536 ^ 32) : kry 0 f 32 = 0 := by
  have h1 := es_lo16 0 f 32
  have h2 := es_bound (lo16_in 0 f 32)
  have h3 := (kry_col h 32 (Nat.le_refl _)).1
  have e : (65536 : Int) ^ 32 = 13407807929942597099574024998205846127479365820592393377723561443721764030073546976801874298166903427690031858186486050853753882811946569946433649006084096 := by decide
  rw [e] at h1 h2 hW
  generalize es (lo16 0 f) 32 = A at *
  generalize es f 32 = B at *
  generalize kry 0 f 32 = c at *
  omega
/-- the folded columns -/
def fcol (f : Nat → Int) (j : Nat) : Int := lo16 0 f j + 38 * lo16 0 f (j + 16)
theorem fcol_in (f : Nat → Int) (j : Nat) : 0 ≤ fcol f j ∧ fcol f j ≤ 2555865 := by
  have h1 := lo16_in 0 f (j + 1) j (by omega)
  have h2 := lo16_in 0 f (j + 17) (j + 16) (by omega)
  unfold fcol
  omega
theorem fcol_mod {f : Nat → Int} (h : ∀ j, j < 32 → 0 ≤ f j ∧ f j ≤ 1099511627776) (hW : es f 32 < 65536 ^ 32) : es (fcol f) 16 % (p : Nat) = es f 32 % (p : Nat) := by
  have h1 := es_lo16 0 f 32
  rw [kry_end h hW] at h1
  have h2 := es_split (lo16 0 f) 16 16
  have h3 : es (fcol f) 16 = es (lo16 0 f) 16 + 38 * es (fun j => lo16 0 f (16 + j)) 16 := by
    rw [← es_scale, ← es_add]
    refine es_congr fun j _ => ?_
    unfold fcol
    rw [Nat.add_comm j 16]
  have e : (65536 : Int) ^ 16 = 115792089237316195423570985008687907853269984665640564039457584007913129639936 := by decide
  have e2 : ((p : Nat) : Int) = 57896044618658097711785492504343953926634992332820282019728792003956564819949 := by decide
  rw [show 16 + 16 = 32 from rfl, e] at h2
  rw [h3, e2]
  generalize es (lo16 0 f) 32 = A at *
  generalize es f 32 = B at *
  generalize es (lo16 0 f) 16 = C at *
  generalize es (fun j => lo16 0 f (16 + j)) 16 = D at *
  have h4 : B = C + D * 115792089237316195423570985008687907853269984665640564039457584007913129639936 := by omega
  rw [h4]
  omega
/-- the digits of what they make -/
theorem es_dig {f : Nat → Int} : ∀ {k : Nat}, InS f k → ∀ i, i < k → (es f k).toNat / 65536 ^ i % 65536 = (f i).toNat
  | 0, _, i, hi => by omega
  | k + 1, h, i, hi => by
    have hk : InS f k := fun j hj => h j (by omega)
    obtain ⟨b1, b2⟩ := es_bound hk
    obtain ⟨f1, f2⟩ := h k (by omega)
    have e : (es f (k + 1)).toNat = (es f k).toNat + (f k).toNat * 65536 ^ k := by
      show (es f k + f k * 65536 ^ k).toNat = _
      obtain ⟨a, ha⟩ := Int.eq_ofNat_of_zero_le b1
      obtain ⟨b, hb⟩ := Int.eq_ofNat_of_zero_le f1
      rw [ha, hb]
      have : ((a : Int) + (b : Int) * 65536 ^ k) = ((a + b * 65536 ^ k : Nat) : Int) := by simp
      rw [this, Int.toNat_natCast, Int.toNat_natCast, Int.toNat_natCast]
    rw [e]
    have b3 : (es f k).toNat < 65536 ^ k := by
      have : ((es f k).toNat : Int) < ((65536 ^ k : Nat) : Int) := by
        rw [Int.toNat_of_nonneg b1]; simpa using b2
      exact Int.ofNat_lt.1 this
    by_cases hik : i = k
    · subst hik
      rw [Nat.add_mul_div_right _ _ (Nat.pow_pos (by decide)), Nat.div_eq_of_lt b3, Nat.zero_add]
      apply Nat.mod_eq_of_lt
      omega
    · have hlt : i < k := by omega
      rw [← es_dig hk i hlt]
      obtain ⟨d, rfl⟩ : ∃ d, k = i + 1 + d := ⟨k - (i + 1), by omega⟩
      have e2 : (f (i + 1 + d)).toNat * 65536 ^ (i + 1 + d) = ((f (i + 1 + d)).toNat * 65536 ^ d * 65536) * 65536 ^ i := by
        rw [Nat.pow_add, Nat.pow_succ]; grind
      rw [e2, Nat.add_mul_div_right _ _ (Nat.pow_pos (by decide)), Nat.add_mul_mod_self_right]

/-- the digits of a number -/
def d16 (n : Nat) (i : Nat) : Int := ((n / 65536 ^ i % 65536 : Nat) : Int)
theorem d16_in (n k : Nat) : InS (d16 n) k := fun j _ => by
  unfold d16
  have := Nat.mod_lt (n / 65536 ^ j) (show 0 < 65536 by decide)
  omega
theorem es_d16' (n : Nat) : ∀ k, es (d16 n) k = ((n % 65536 ^ k : Nat) : Int)
  | 0 => by simp [es, Nat.mod_one]
  | k + 1 => by
    show es (d16 n) k + d16 n k * 65536 ^ k = _
    rw [es_d16' n k]
    unfold d16
    rw [Nat.pow_succ, Nat.mod_mul]
    simp
    grind
def S256 : Nat := 115792089237316195423570985008687907853269984665640564039457584007913129639936
theorem es_d16 {n : Nat} (h : n < S256) : es (d16 n) 16 = (n : Int) := by
  rw [es_d16', Nat.mod_eq_of_lt]
  exact Nat.lt_of_lt_of_le h (by decide)
/-- digits in their bounds are a number's -/
theorem d16_of {f : Nat → Int} (h : InS f 16) {n : Nat} (hn : es f 16 = (n : Int)) : ∀ j, j < 16 → d16 n j = f j := by
  intro j hj
  have e := es_dig h j hj
  rw [hn, Int.toNat_natCast] at e
  unfold d16
  rw [e, Int.toNat_of_nonneg (h j hj).1]
theorem es_lt256 {f : Nat → Int} (h : InS f 16) : 0 ≤ es f 16 ∧ es f 16 < (S256 : Nat) := by
  have := es_bound h
  have e : (65536 : Int) ^ 16 = ((S256 : Nat) : Int) := by decide
  rwa [e] at this

/-- the borrows of a difference -/
def brw (f g : Nat → Int) : Nat → Int
  | 0 => 0
  | i + 1 => if f i - g i - brw f g i < 0 then 1 else 0
def bdg (f g : Nat → Int) (i : Nat) : Int := if f i - g i - brw f g i < 0 then f i - g i - brw f g i + 65536 else f i - g i - brw f g i
theorem brw_in (f g : Nat → Int) : ∀ i, 0 ≤ brw f g i ∧ brw f g i ≤ 1
  | 0 => by simp [brw]
  | i + 1 => by
    show 0 ≤ (if _ then _ else _ : Int) ∧ (if _ then _ else _ : Int) ≤ 1
    split <;> omega
theorem bdg_in {f g : Nat → Int} {n : Nat} (hf : InS f n) (hg : InS g n) : InS (bdg f g) n := fun j hj => by
  have h1 := hf j hj
  have h2 := hg j hj
  have h3 := brw_in f g j
  unfold bdg
  split <;> omega
theorem es_bdg (f g : Nat → Int) : ∀ i, es (bdg f g) i - brw f g i * 65536 ^ i = es f i - es g i
  | 0 => by simp [es, brw]
  | i + 1 => by
    have ih := es_bdg f g i
    have hd : bdg f g i = f i - g i - brw f g i + brw f g (i + 1) * 65536 := by
      show bdg f g i = f i - g i - brw f g i + (if f i - g i - brw f g i < 0 then 1 else 0) * 65536
      unfold bdg
      split <;> omega
    show es (bdg f g) i + bdg f g i * 65536 ^ i - brw f g (i + 1) * 65536 ^ (i + 1) = es f i + f i * 65536 ^ i - (es g i + g i * 65536 ^ i)
    rw [hd, Int.pow_succ]
    generalize (65536 : Int) ^ i = P at *
    generalize brw f g (i + 1) = c at *
    generalize brw f g i = d at *
    grind
theorem bdg_eq {a b : Nat} (ha : a < S256) (hb : b ≤ a) : ∀ j, j < 16 → d16 (a - b) j = bdg (d16 a) (d16 b) j := by
  have h1 := es_bdg (d16 a) (d16 b) 16
  rw [es_d16 ha, es_d16 (by omega)] at h1
  have hi := bdg_in (d16_in a 16) (d16_in b 16)
  have h2 := es_bound hi
  have h3 := brw_in (d16 a) (d16 b) 16
  refine d16_of hi ?_
  have e : (65536 : Int) ^ 16 = 115792089237316195423570985008687907853269984665640564039457584007913129639936 := by decide
  rw [e] at h1 h2
  generalize es (bdg (d16 a) (d16 b)) 16 = A at *
  generalize brw (d16 a) (d16 b) 16 = c at *
  omega

/-- the first digit from above that parts says which is less -/
theorem lt_of_dig {f g : Nat → Int} {n k : Nat} (hf : InS f n) (hg : InS g n) (hk : k < n) (ha : ∀ j, k < j → j < n → f j = g j) (h : f k < g k) : es f n < es g n := by
  have : ∀ m, k + 1 + m ≤ n → es f (k + 1 + m) < es g (k + 1 + m) := by
    intro m
    induction m with
    | zero =>
      intro _
      have h1 := es_bound (f := f) (k := k) (fun j hj => hf j (by omega))
      have h2 := es_bound (f := g) (k := k) (fun j hj => hg j (by omega))
      show es f k + f k * 65536 ^ k < es g k + g k * 65536 ^ k
      generalize (65536 : Int) ^ k = P at *
      have h3 : (f k + 1) * P ≤ g k * P := Int.mul_le_mul_of_nonneg_right (by omega) (by omega)
      rw [Int.add_mul, Int.one_mul] at h3
      omega
    | succ m ih =>
      intro hm
      have := ih (by omega)
      show es f (k + 1 + m) + f (k + 1 + m) * 65536 ^ (k + 1 + m) < es g (k + 1 + m) + g (k + 1 + m) * 65536 ^ (k + 1 + m)
      rw [ha (k + 1 + m) (by omega) (by omega)]
      omega
  obtain ⟨m, rfl⟩ : ∃ m, n = k + 1 + m := ⟨n - (k + 1), by omega⟩
  exact this m (Nat.le_refl _)
theorem d16_lt {a b k : Nat} (ha : a < S256) (hb : b < S256) (hk : k < 16) (h : ∀ j, k < j → j < 16 → d16 a j = d16 b j) (hl : d16 a k < d16 b k) : a < b := by
  have := lt_of_dig (d16_in a 16) (d16_in b 16) hk h hl
  rw [es_d16 ha, es_d16 hb] at this
  omega
theorem d16_inj {a b : Nat} (ha : a < S256) (hb : b < S256) (h : ∀ j, j < 16 → d16 a j = d16 b j) : a = b := by
  have := es_congr (k := 16) h
  rw [es_d16 ha, es_d16 hb] at this
  omega
end FieldNum

namespace FieldNum

/-- half of a number modulo p -/
def hm (x : Nat) : Nat := if x % 2 = 0 then x / 2 else (x + p) / 2
theorem p_odd : p % 2 = 1 := by decide +kernel
theorem p_S : p < S256 := by decide +kernel
theorem hm_lt {x : Nat} (h : x < p) : hm x < p := by
  unfold hm
  split <;> omega
theorem hm_two (x : Nat) : hm x * 2 % p = x % p := by
  have := p_odd
  unfold hm
  split
  · rw [Nat.div_mul_cancel (by omega)]
  · rw [show (x + p) / 2 * 2 = x + p by omega, Nat.add_mod_right]
theorem two_ndvd : ¬ p ∣ 2 := Pr.not_dvd_of_lt (by decide) (by decide +kernel)

/-- what halving and taking away keeps -/
structure IS (a u v x y : Nat) : Prop where
  u1 : 1 ≤ u
  up : u ≤ p
  v1 : 1 ≤ v
  vp : v ≤ p
  xp : x < p
  yp : y < p
  ex : x * a % p = u % p
  ey : y * a % p = v % p
  co : ∀ d, d ∣ u → d ∣ v → d = 1
theorem IS.symm {a u v x y : Nat} (s : IS a u v x y) : IS a v u y x := ⟨s.v1, s.vp, s.u1, s.up, s.yp, s.xp, s.ey, s.ex, fun d h1 h2 => s.co d h2 h1⟩
theorem IS.half {a u v x y : Nat} (s : IS a u v x y) (h : u % 2 = 0) : IS a (u / 2) v (hm x) y := by
  have e : u / 2 * 2 = u := by omega
  have h1 := s.u1
  have h2 := s.up
  refine ⟨by omega, by omega, s.v1, s.vp, hm_lt s.xp, s.yp, ?_, s.ey, fun d h1 h2 => s.co d (e ▸ Nat.dvd_mul_right_of_dvd h1 2) h2⟩
  refine pr_p.cancel (c := 2) two_ndvd ?_
  rw [e, ← s.ex, show hm x * a * 2 = hm x * 2 * a by grind, Nat.mul_mod, hm_two, ← Nat.mul_mod]
theorem IS.less {a u v x y : Nat} (s : IS a u v x y) (h : v < u) : IS a (u - v) v (sb x y) y := by
  refine ⟨by omega, by have := s.up; omega, s.v1, s.vp, sb_lt _ _, s.yp, ?_, s.ey, fun d h1 h2 => s.co d ?_ h2⟩
  · refine add_cancel (c := v) ?_
    rw [show u - v + v = u by omega, ← s.ex, Nat.add_mod, ← s.ey, ← Nat.add_mod, ← Nat.add_mul, Nat.mul_mod, sb_add, ← Nat.mul_mod]
  · have := Nat.dvd_add h1 h2
    rwa [show u - v + v = u by omega] at this
theorem IS.ne {a u v x y : Nat} (s : IS a u v x y) (h : u ≠ 1) : u ≠ v := fun e => h (s.co u (Nat.dvd_refl u) (e ▸ Nat.dvd_refl u))
theorem IS.done {a v x y : Nat} (s : IS a 1 v x y) : x = inv a := by
  refine inv_uniq s.xp ?_
  rw [Nat.mul_comm, s.ex]
  decide +kernel
theorem IS.start {a : Nat} (h : a % p ≠ 0) : IS a (a % p) p 1 0 := by
  refine ⟨by omega, Nat.le_of_lt (Nat.mod_lt _ p_pos), p_pos, Nat.le_refl _, one_lt_p, p_pos, by rw [Nat.one_mul, Nat.mod_mod], by simp, fun d h1 h2 => ?_⟩
  rcases pr_p.2 d h2 with e | e
  · exact e
  · subst e
    have := Nat.le_of_dvd (by omega) h1
    have := Nat.mod_lt a p_pos
    omega
end FieldNum

namespace FieldNum

/-- a digit of half a number -/
theorem half_dig (a i : Nat) : d16 (a / 2) i = ((d16 a (i + 1) % 2) * 65536 + d16 a i) / 2 := by
  unfold d16
  have e1 : a / 2 / 65536 ^ i = a / 65536 ^ i / 2 := by rw [Nat.div_div_eq_div_mul, Nat.div_div_eq_div_mul, Nat.mul_comm]
  have e2 : a / 65536 ^ (i + 1) = a / 65536 ^ i / 65536 := by rw [Nat.pow_succ, Nat.div_div_eq_div_mul]
  rw [e1, e2]
  generalize a / 65536 ^ i = q
  omega
theorem d16_top {a : Nat} (h : a < S256) : d16 a 16 = 0 := by
  unfold d16
  rw [Nat.div_eq_of_lt (Nat.lt_of_lt_of_le h (by decide))]
  rfl
theorem d16_zero (a : Nat) : d16 a 0 = ((a % 65536 : Nat) : Int) := by simp [d16]
theorem d16_odd (a : Nat) : d16 a 0 % 2 = ((a % 2 : Nat) : Int) := by
  rw [d16_zero]
  omega
/-- the sum's digits -/
theorem sum_dig {a b : Nat} (h : a + b < S256) : ∀ j, j < 16 → d16 (a + b) j = lo16 0 (fun j => d16 a j + d16 b j) j := by
  refine d16_of (lo16_in _ _ _) ?_
  have h1 := es_lo16 0 (fun j => d16 a j + d16 b j) 16
  rw [es_add, es_d16 (by omega), es_d16 (by omega)] at h1
  have h2 := es_bound (lo16_in 0 (fun j => d16 a j + d16 b j) 16)
  have h3 := kry_nonneg (n := 16) (c := 0) (f := fun j => d16 a j + d16 b j) (by decide) (fun j hj => by have := (d16_in a 16 j hj).1; have := (d16_in b 16 j hj).1; show 0 ≤ d16 a j + d16 b j; omega) 16 (Nat.le_refl _)
  have e : (65536 : Int) ^ 16 = 115792089237316195423570985008687907853269984665640564039457584007913129639936 := by decide
  rw [e] at h1 h2
  unfold S256 at h
  generalize es (lo16 0 fun j => d16 a j + d16 b j) 16 = A at *
  generalize kry 0 (fun j => d16 a j + d16 b j) 16 = c at *
  omega
theorem kry_add {f : Nat → Int} {n : Nat} (h : ∀ j, j < n → 0 ≤ f j ∧ f j < 131072) : ∀ i, i ≤ n → 0 ≤ kry 0 f i ∧ kry 0 f i ≤ 2
  | 0, _ => by simp [kry]
  | i + 1, hi => by
    have h1 := kry_add h i (by omega)
    have h2 := h i (by omega)
    show 0 ≤ (f i + kry 0 f i) / 65536 ∧ (f i + kry 0 f i) / 65536 ≤ 2
    omega

/-- two bytes of a number are its digit -/
theorem d16_bytes (n i : Nat) : ((n / 256 ^ (2 * i) % 256 : Nat) : Int) + 256 * ((n / 256 ^ (2 * i + 1) % 256 : Nat) : Int) = d16 n i := by
  unfold d16
  rw [Nat.pow_succ, Nat.pow_mul, ← Nat.div_div_eq_div_mul]
  generalize n / (256 ^ 2) ^ i = q
  omega

/-- the powers, bit by bit from the highest -/
theorem pow_bit (a e i : Nat) (b : Bool) (hb : decide (e / 2 ^ i % 2 = 1) = b) (x : Nat) (hx : x = a ^ (e / 2 ^ (i + 1)) % p) : (if b then x * x % p * a % p else x * x % p) = a ^ (e / 2 ^ i) % p := by
  have e2 : e / 2 ^ (i + 1) = e / 2 ^ i / 2 := by rw [Nat.pow_succ, Nat.div_div_eq_div_mul]
  rw [e2] at hx
  generalize e / 2 ^ i = q at *
  have h1 : x * x % p = a ^ (q / 2 * 2) % p := by
    rw [hx, ← Nat.mul_mod, ← Nat.pow_add]; congr 2; omega
  by_cases hq : q % 2 = 1
  · have : b = true := by rw [← hb]; exact decide_eq_true hq
    rw [this, if_pos rfl, h1, Nat.mod_mul_mod, ← Nat.pow_succ]
    congr 2; omega
  · have : b = false := by rw [← hb]; exact decide_eq_false hq
    rw [this, if_neg (by decide), h1]
    congr 2; omega
end FieldNum

namespace FieldNum

def upq (R : Nat → Int) (k : Nat) (d : Int) (j : Nat) : Int := if j = k then R k + d else R j
theorem upq_self (R : Nat → Int) (k : Nat) (d : Int) : upq R k d k = R k + d := if_pos rfl
theorem upq_other (R : Nat → Int) (k : Nat) (d : Int) (j : Nat) (h : j ≠ k) : upq R k d j = R j := if_neg h
theorem mul16 {x y : Int} (h1 : 0 ≤ x ∧ x < 65536) (h2 : 0 ≤ y ∧ y < 65536) : 0 ≤ x * y ∧ x * y ≤ 4294836225 := by
  refine ⟨Int.mul_nonneg h1.1 h2.1, ?_⟩
  have a := Int.mul_le_mul_of_nonneg_right (show x ≤ 65535 by omega) h2.1
  have b : 65535 * y ≤ 4294836225 := by omega
  omega
/-- bounds and worth of the columns so far -/
structure PQ (fa fb R : Nat → Int) (i j : Nat) : Prop where
  bd : ∀ k, k < 32 → 0 ≤ R k ∧ R k ≤ (16 * (i : Int) + j) * 4294836225
  eq : es R 32 = es fa i * es fb 16 + fa i * 65536 ^ i * es fb j
theorem PQ.step {fa fb R : Nat → Int} {i j : Nat} (s : PQ fa fb R i j) (hi : i < 16) (hj : j < 16) (ha : InS fa 16) (hb : InS fb 16) : PQ fa fb (upq R (i + j) (fa i * fb j)) i (j + 1) := by
  have hm := mul16 (ha i hi) (hb j hj)
  refine ⟨fun k hk => ?_, ?_⟩
  · have h1 := s.bd k hk
    have h2 := s.bd (i + j) (by omega)
    unfold upq
    split <;> omega
  · rw [es_upd R _ (i + j) (fa i * fb j) (upq_self _ _ _) (upq_other _ _ _) 32 (by omega), s.eq, Int.pow_add]
    show _ = es fa i * es fb 16 + fa i * 65536 ^ i * (es fb j + fb j * 65536 ^ j)
    grind
theorem PQ.next {fa fb R : Nat → Int} {i : Nat} (s : PQ fa fb R i 16) : PQ fa fb R (i + 1) 0 := by
  refine ⟨fun k hk => by have := s.bd k hk; omega, ?_⟩
  rw [s.eq]
  show es fa i * es fb 16 + fa i * 65536 ^ i * es fb 16 = (es fa i + fa i * 65536 ^ i) * es fb 16 + fa (i + 1) * 65536 ^ (i + 1) * 0
  grind
theorem es_none : ∀ k, es (fun _ => 0) k = 0
  | 0 => rfl
  | k + 1 => by show es (fun _ => 0) k + 0 * 65536 ^ k = 0; rw [es_none k]; omega
theorem PQ.start (fa fb : Nat → Int) : PQ fa fb (fun _ => 0) 0 0 := by
  refine ⟨fun k _ => by simp, ?_⟩
  rw [es_none]
  show _ = 0 * es fb 16 + fa 0 * 65536 ^ 0 * 0
  grind
/-- what fold is handed -/
structure Cols (f : Nat → Int) (N : Nat) : Prop where
  bd : ∀ k, k < 32 → 0 ≤ f k ∧ f k ≤ 1099511627776
  eq : es f 32 = (N : Int)
  lt : es f 32 < 65536 ^ 32
theorem PQ.cols {a b : Nat} {R : Nat → Int} (s : PQ (d16 a) (d16 b) R 16 0) (ha : a < S256) (hb : b < S256) : Cols R (a * b) := by
  have e : es R 32 = ((a * b : Nat) : Int) := by
    rw [s.eq, es_d16 ha, es_d16 hb]
    show _ + _ * 0 = _
    simp
  refine ⟨fun k hk => ?_, e, ?_⟩
  · have := s.bd k hk
    omega
  · rw [e]
    have h : a * b < S256 * S256 := Nat.mul_lt_mul'' ha hb
    have e2 : (65536 : Int) ^ 32 = ((S256 * S256 : Nat) : Int) := by decide
    rw [e2]
    exact Int.ofNat_lt.2 h
theorem cols_add {a b : Nat} (ha : a < S256) (hb : b < S256) : Cols (fun j => if j < 16 then d16 a j + d16 b j else 0) (a + b) := by
  have e : es (fun j => if j < 16 then d16 a j + d16 b j else 0) 32 = ((a + b : Nat) : Int) := by
    have h1 := es_split (fun j => if j < 16 then d16 a j + d16 b j else 0) 16 16
    rw [show 16 + 16 = 32 from rfl] at h1
    rw [h1, es_congr (k := 16) (f := fun j => if j < 16 then d16 a j + d16 b j else 0) (g := fun j => d16 a j + d16 b j) (fun j hj => if_pos hj), es_add, es_d16 ha, es_d16 hb,
      es_congr (k := 16) (f := fun j => if 16 + j < 16 then d16 a (16 + j) + d16 b (16 + j) else 0) (g := fun _ => 0) (fun j hj => if_neg (by omega)), es_none]
    omega
  refine ⟨fun k hk => ?_, e, ?_⟩
  · show 0 ≤ (if k < 16 then d16 a k + d16 b k else 0) ∧ (if k < 16 then d16 a k + d16 b k else 0) ≤ 1099511627776
    split
    · have := d16_in a 16 k (by omega); have := d16_in b 16 k (by omega); omega
    · omega
  · rw [e]
    have e2 : (65536 : Int) ^ 32 = 13407807929942597099574024998205846127479365820592393377723561443721764030073546976801874298166903427690031858186486050853753882811946569946433649006084096 := by decide
    rw [e2]
    unfold S256 at ha hb
    omega

/-- fold's second loop: what it holds between two rounds -/
structure FSx (N : Nat) (h : Nat → Int) (c : Int) : Prop where
  bd : ∀ j, j < 16 → 0 ≤ h j ∧ h j ≤ 2555865
  cb : 0 ≤ c ∧ c ≤ 39
  eq : (es h 16 + 38 * c) % (p : Nat) = (N : Int) % (p : Nat)
theorem FSx.start {f : Nat → Int} {N : Nat} (s : Cols f N) : FSx N (fcol f) 0 := by
  refine ⟨fun j _ => fcol_in f j, by omega, ?_⟩
  rw [← s.eq, ← fcol_mod s.bd s.lt]
  congr 1; omega
theorem kry_fold {h : Nat → Int} {c : Int} (hb : ∀ j, j < 16 → 0 ≤ h j ∧ h j ≤ 2555865) (hc : 0 ≤ c ∧ c ≤ 39) : ∀ i, i ≤ 16 → 0 ≤ kry (38 * c) h i ∧ kry (38 * c) h i ≤ 1482 ∧ (0 < i → kry (38 * c) h i ≤ 39)
  | 0, _ => by show 0 ≤ 38 * c ∧ 38 * c ≤ 1482 ∧ _; omega
  | i + 1, hi => by
    have h1 := kry_fold hb hc i (by omega)
    have h2 := hb i (by omega)
    show 0 ≤ (h i + kry (38 * c) h i) / 65536 ∧ (h i + kry (38 * c) h i) / 65536 ≤ 1482 ∧ (_ → (h i + kry (38 * c) h i) / 65536 ≤ 39)
    omega
theorem FSx.next {N : Nat} {h : Nat → Int} {c : Int} (s : FSx N h c) : FSx N (lo16 (38 * c) h) (kry (38 * c) h 16) := by
  have h1 := es_lo16 (38 * c) h 16
  have h2 := kry_fold s.bd s.cb 16 (Nat.le_refl _)
  refine ⟨fun j hj => by have := lo16_in (38 * c) h 16 j hj; omega, ⟨h2.1, h2.2.2 (by decide)⟩, ?_⟩
  rw [← s.eq, ← h1]
  have e : (65536 : Int) ^ 16 = 115792089237316195423570985008687907853269984665640564039457584007913129639936 := by decide
  have e2 : ((p : Nat) : Int) = 57896044618658097711785492504343953926634992332820282019728792003956564819949 := by decide
  rw [e, e2]
  omega
/-- how far it is to the end -/
def mf (V c : Int) : Nat := (V + c * 115792089237316195423570985008687907853269984665640564039457584007913129639936).toNat + (if c = 0 then 2 else 1)
theorem mf_less {N : Nat} {h : Nat → Int} {c : Int} (s : FSx N h c) (h0 : kry (38 * c) h 16 ≠ 0) : mf (es (lo16 (38 * c) h) 16) (kry (38 * c) h 16) < mf (es h 16) c := by
  have h1 := es_lo16 (38 * c) h 16
  have h2 := kry_fold s.bd s.cb 16 (Nat.le_refl _)
  have h3 := es_nonneg (k := 16) (fun j hj => (s.bd j hj).1)
  have h4 := s.cb
  have h5 := es_bound (lo16_in (38 * c) h 16)
  have e : (65536 : Int) ^ 16 = 115792089237316195423570985008687907853269984665640564039457584007913129639936 := by decide
  rw [e] at h1 h5
  unfold mf
  generalize es (lo16 (38 * c) h) 16 = A at *
  generalize es h 16 = B at *
  generalize kry (38 * c) h 16 = d at *
  rw [if_neg h0, h1]
  split <;> omega
theorem FSx.done {N : Nat} {h : Nat → Int} (s : FSx N h 0) (hi : InS h 16) : ∃ m : Nat, m < S256 ∧ m % p = N % p ∧ ∀ j, j < 16 → d16 m j = h j := by
  obtain ⟨h1, h2⟩ := es_lt256 hi
  have e := s.eq
  obtain ⟨m, hm⟩ := Int.eq_ofNat_of_zero_le h1
  refine ⟨m, by omega, ?_, d16_of hi hm⟩
  rw [hm, Int.mul_zero, Int.add_zero] at e
  exact_mod_cast e
end FieldNum
