import Derived.Test.YtoimglbjepppmaaDoorMa
import Derived.Test.YtoimglbjepppmaaDoorMk
import Derived.Test.YtoimglbjepppmaaDoorMh
namespace FieldNum

/-- the sum of digits of fifteen bits -/
def ds (f : Nat → Int) : Nat → Int
  | 0 => 0
  | k + 1 => ds f k + f k * 32768 ^ k
theorem ds_congr {f g : Nat → Int} : ∀ {k : Nat}, (∀ j, j < k → f j = g j) → ds f k = ds g k
  | 0, _ => rfl
  | k + 1, h => by
    show ds f k + f k * 32768 ^ k = ds g k + g k * 32768 ^ k
    rw [ds_congr (fun j hj => h j (by omega)), h k (by omega)]
def InR (f : Nat → Int) (k : Nat) : Prop := ∀ j, j < k → 0 ≤ f j ∧ f j < 32768
theorem ds_bound {f : Nat → Int} : ∀ {k : Nat}, InR f k → 0 ≤ ds f k ∧ ds f k < 32768 ^ k
  | 0, _ => by simp [ds]
  | k + 1, h => by
    obtain ⟨h1, h2⟩ := ds_bound (k := k) (fun j hj => h j (by omega))
    obtain ⟨h3, h4⟩ := h k (by omega)
    show 0 ≤ ds f k + f k * 32768 ^ k ∧ ds f k + f k * 32768 ^ k < 32768 ^ (k + 1)
    rw [Int.pow_succ]
    generalize (32768 : Int) ^ k = P at *
    have h5 : 0 ≤ f k * P := Int.mul_nonneg h3 (by omega)
    have h6 : f k * P ≤ 32767 * P := Int.mul_le_mul_of_nonneg_right (by omega) (by omega)
    omega

/-- the carries -/
def cry (f : Nat → Int) : Nat → Int
  | 0 => 0
  | i + 1 => (f i + cry f i) / 32768
def lw (f : Nat → Int) (i : Nat) : Int := (f i + cry f i) % 32768
theorem lw_in (f : Nat → Int) (k : Nat) : InR (lw f) k := fun j _ => ⟨Int.emod_nonneg _ (by decide), Int.emod_lt_of_pos _ (by decide)⟩
theorem ds_lw (f : Nat → Int) : ∀ i, ds (lw f) i + cry f i * 32768 ^ i = ds f i
  | 0 => by simp [ds, cry]
  | i + 1 => by
    have ih := ds_lw f i
    show ds (lw f) i + lw f i * 32768 ^ i + (f i + cry f i) / 32768 * 32768 ^ (i + 1) = ds f i + f i * 32768 ^ i
    have h := Int.emod_add_mul_ediv (f i + cry f i) 32768
    have hl : lw f i = (f i + cry f i) % 32768 := rfl
    rw [hl, ← ih, Int.pow_succ]
    generalize (f i + cry f i) / 32768 = q at *
    generalize (f i + cry f i) % 32768 = r at *
    generalize (32768 : Int) ^ i = P at *
    generalize cry f i = c at *
    have : f i = r + 32768 * q - c := by omega
    rw [this]
    grind
theorem cry_bound {f : Nat → Int} (h : ∀ j, j < 17 → -4503599627370496 ≤ f j ∧ f j ≤ 4503599627370496) : ∀ i, i ≤ 17 → -274877906945 ≤ cry f i ∧ cry f i ≤ 274877906945
  | 0, _ => by simp [cry]
  | i + 1, hi => by
    have h1 := cry_bound h i (by omega)
    have h2 := h i (by omega)
    show -274877906945 ≤ (f i + cry f i) / 32768 ∧ (f i + cry f i) / 32768 ≤ 274877906945
    omega
/-- what the next round begins with -/
def nxt (f : Nat → Int) (j : Nat) : Int := if j = 0 then lw f 0 + 19 * cry f 17 else lw f j
theorem ds_first (f g : Nat → Int) (d : Int) (h0 : g 0 = f 0 + d) (h : ∀ j, j ≠ 0 → g j = f j) : ∀ k, 0 < k → ds g k = ds f k + d
  | 0, hk => by omega
  | 1, _ => by simp [ds, h0]
  | k + 2, _ => by
    show ds g (k + 1) + g (k + 1) * 32768 ^ (k + 1) = ds f (k + 1) + f (k + 1) * 32768 ^ (k + 1) + d
    rw [ds_first f g d h0 h (k + 1) (by omega), h (k + 1) (by omega)]
    omega
theorem ds_nxt (f : Nat → Int) : ds (nxt f) 17 = ds f 17 - cry f 17 * 57896044618658097711785492504343953926634992332820282019728792003956564819949 := by
  have h1 := ds_first (lw f) (nxt f) (19 * cry f 17) rfl (fun j hj => by unfold nxt; rw [if_neg hj]) 17 (by decide)
  have h2 := ds_lw f 17
  rw [h1]
  have e : (32768 : Int) ^ 17 = 57896044618658097711785492504343953926634992332820282019728792003956564819968 := by decide
  rw [e] at h2
  omega
theorem nxt_bound {f : Nat → Int} (h : ∀ j, j < 17 → -4503599627370496 ≤ f j ∧ f j ≤ 4503599627370496) : ∀ j, j < 17 → -4503599627370496 ≤ nxt f j ∧ nxt f j ≤ 4503599627370496 := by
  intro j hj
  have h1 := cry_bound h 17 (Nat.le_refl _)
  have h2 := lw_in f 17 j hj
  have h3 := lw_in f 17 0 (by decide)
  unfold nxt
  split <;> omega
/-- how far it is to the end -/
def mu (V : Int) : Nat := if 0 ≤ V then V.toNat else 2 ^ 250 * 2 ^ 150 + (-V).toNat
theorem mu_less {f : Nat → Int} (h : ∀ j, j < 17 → -4503599627370496 ≤ f j ∧ f j ≤ 4503599627370496) (hc : cry f 17 ≠ 0) : mu (ds (nxt f) 17) < mu (ds f 17) := by
  have h1 := cry_bound h 17 (Nat.le_refl _)
  have h2 := ds_nxt f
  have h3 := ds_lw f 17
  obtain ⟨h4, h5⟩ := ds_bound (lw_in f 17)
  have e : (32768 : Int) ^ 17 = 57896044618658097711785492504343953926634992332820282019728792003956564819968 := by decide
  have e2 : 2 ^ 250 * 2 ^ 150 = 2582249878086908589655919172003011874329705792829223512830659356540647622016841194629645353280137831435903171972747493376 := by decide
  rw [e] at h3 h5
  unfold mu
  rw [e2]
  generalize ds (nxt f) 17 = V' at *
  generalize ds f 17 = V at *
  generalize ds (lw f) 17 = L at *
  generalize cry f 17 = c at *
  split <;> split <;> omega
theorem nxt_done {f : Nat → Int} (hc : cry f 17 = 0) : InR (nxt f) 17 := by
  intro j hj
  unfold nxt
  rw [hc]
  have := lw_in f 17 j hj
  have := lw_in f 17 0 (by decide)
  split <;> omega
theorem nxt_mod (f : Nat → Int) : ds (nxt f) 17 % (p : Nat) = ds f 17 % (p : Nat) := by
  rw [ds_nxt]
  have e : ((p : Nat) : Int) = 57896044618658097711785492504343953926634992332820282019728792003956564819949 := by decide
  rw [e]
  omega
/-- the digits of what they make -/
theorem ds_dig {f : Nat → Int} : ∀ {k : Nat}, InR f k → ∀ i, i < k → (ds f k).toNat / 32768 ^ i % 32768 = (f i).toNat
  | 0, _, i, hi => by omega
  | k + 1, h, i, hi => by
    have hk : InR f k := fun j hj => h j (by omega)
    obtain ⟨b1, b2⟩ := ds_bound hk
    obtain ⟨f1, f2⟩ := h k (by omega)
    have e : (ds f (k + 1)).toNat = (ds f k).toNat + (f k).toNat * 32768 ^ k := by
      show (ds f k + f k * 32768 ^ k).toNat = _
      obtain ⟨a, ha⟩ := Int.eq_ofNat_of_zero_le b1
      obtain ⟨b, hb⟩ := Int.eq_ofNat_of_zero_le f1
      rw [ha, hb]
      have : ((a : Int) + (b : Int) * 32768 ^ k) = ((a + b * 32768 ^ k : Nat) : Int) := by simp
      rw [this, Int.toNat_natCast, Int.toNat_natCast, Int.toNat_natCast]
    rw [e]
    have b3 : (ds f k).toNat < 32768 ^ k := by
      have : ((ds f k).toNat : Int) < ((32768 ^ k : Nat) : Int) := by
        rw [Int.toNat_of_nonneg b1]; simpa using b2
      exact Int.ofNat_lt.1 this
    by_cases hik : i = k
    · subst hik
      rw [Nat.add_mul_div_right _ _ (Nat.pow_pos (by decide)), Nat.div_eq_of_lt b3, Nat.zero_add]
      apply Nat.mod_eq_of_lt
      omega
    · have hlt : i < k := by omega
      rw [← ds_dig hk i hlt]
      obtain ⟨d, rfl⟩ : ∃ d, k = i + 1 + d := ⟨k - (i + 1), by omega⟩
      have e2 : (f (i + 1 + d)).toNat * 32768 ^ (i + 1 + d) = ((f (i + 1 + d)).toNat * 32768 ^ d * 32768) * 32768 ^ i := by
        rw [Nat.pow_add, Nat.pow_succ]; grind
      rw [e2, Nat.add_mul_div_right _ _ (Nat.pow_pos (by decide)), Nat.add_mul_mod_self_right]
end FieldNum

namespace Go.Proofs.YtoimglbjepppmaaDoor
open Go.RowKit Go.Shelf FieldNum

/-- seventeen digits as cells -/
def rl (f : Nat → Int) : List Value := (List.range 17).map fun i => .int .i64 (f i)
theorem rl_length (f : Nat → Int) : (rl f).length = 17 := by simp [rl]
theorem rl_get (f : Nat → Int) (i : Nat) (h : i < 17) : (rl f)[i]? = some (.int .i64 (f i)) := by simp [rl, h]
theorem rl_one (f : Nat → Int) : ∀ v ∈ rl f, v.oneCell' = true := by
  intro v hv
  simp only [rl, List.mem_map] at hv
  obtain ⟨i, _, rfl⟩ := hv
  rfl
theorem rl_congr {f g : Nat → Int} (h : ∀ j, j < 17 → f j = g j) : rl f = rl g := by
  unfold rl
  apply List.map_congr_left
  intro j hj
  rw [h j (by simpa using hj)]
def rv (f : Nat → Int) : Value := .agg (rl f).toArray
/-- the digits of a number -/
def d15 (n : Nat) (i : Nat) : Int := ((n / 32768 ^ i % 32768 : Nat) : Int)
def rn (n : Nat) : Value := rv (d15 n)
set_option maxRecDepth 100000 in
theorem infoR : (Tryd.prog.info? 77).map (·.size) = some 17 := by kernel_rfl
set_option maxRecDepth 100000 in
theorem zeroR : ∀ w, (zeroValue 77).run Tryd.prog w = .ok (.agg (rl fun _ => 0).toArray) w := (zero_of_info (P := Tryd.prog) (t := 77) (v := .agg (rl fun _ => 0).toArray) (n := 17) (by kernel_rfl)).1

/-- digits in a variable, and the result's variable -/
structure SX (w0 : World) (g r : Nat) (f : Nat → Int) (wr : World) : Prop where
  lo : ∀ j, j < 17 → wr.cell? ⟨g, j, none⟩ = some (.int .i64 (f j))
  fr : ∀ j, wr.frozen? ⟨g, j, none⟩ = false
  tr : wr.there r 0 17
  ne : g ≠ r
  fg : w0.heap.size ≤ g
  f2 : w0.heap.size ≤ r
  gw : Grown w0 wr

theorem SX.set {w0 wr : World} {g r : Nat} {f h : Nat → Int} (s : SX w0 g r f wr) (k : Nat) (hk : k < 17) (v : Int) (hv : h k = v) (ho : ∀ j, j ≠ k → h j = f j) : SX w0 g r h (wr.setCell ⟨g, k, none⟩ (.int .i64 v)) := by
  refine ⟨fun j hj => ?_, fun j => (World.frozen?_setCell _ _ _ _).trans (s.fr j), there_setCell s.tr _ _, s.ne, s.fg, s.f2, Grown.setCell s.gw s.fg _⟩
  by_cases e : j = k
  · subst e
    have := s.lo j hj
    simp [go_sem, this, hv]
  · rw [set_other _ _ _ _ _ e, ho j e]; exact s.lo j hj
theorem SX.congr {w0 wr : World} {g r : Nat} {f h : Nat → Int} (s : SX w0 g r f wr) (ho : ∀ j, j < 17 → h j = f j) : SX w0 g r h wr :=
  ⟨fun j hj => by rw [ho j hj]; exact s.lo j hj, s.fr, s.tr, s.ne, s.fg, s.f2, s.gw⟩
theorem SX.range {w0 wr : World} {g r : Nat} {f : Nat → Int} (s : SX w0 g r f wr) : wr.rangeAt g 0 (rl f) := by
  intro j v hv
  have hj : j < 17 := by have := lt_of_get hv; rwa [rl_length] at this
  rw [rl_get f j hj] at hv
  injection hv with hv
  subst hv
  rw [Nat.zero_add]; exact s.lo j hj
theorem cell_r {w : World} {g : Nat} {f : Nat → Int} (h : w.rangeAt g 0 (rl f)) {j : Nat} (hj : j < 17) : w.cell? ⟨g, j, none⟩ = some (.int .i64 (f j)) := by
  have := h j _ (rl_get f j hj)
  rwa [Nat.zero_add] at this

/-- what the world's cells hold -/
def rd (wr : World) (g j : Nat) : Int := match wr.cell? ⟨g, j, none⟩ with | some (.int _ z) => z | _ => 0
theorem SX.rd {w0 wr : World} {g r : Nat} {f : Nat → Int} (s : SX w0 g r f wr) : ds (rd wr g) 17 = ds f 17 := by
  refine ds_congr fun j hj => ?_
  unfold Go.Proofs.YtoimglbjepppmaaDoor.rd
  rw [s.lo j hj]
def isT : Value → Bool | .bool b => b | _ => false

theorem tm (v : Int) : Int.tmod (Int.tmod v 32768 + 32768) 32768 = v % 32768 := by
  rcases Int.le_total 0 v with h | h
  · rw [Int.tmod_eq_emod_of_nonneg h, Int.tmod_eq_emod_of_nonneg (by omega)]; omega
  · have h1 : Int.tmod v 32768 = -((-v) % 32768) := by rw [← Int.tmod_eq_emod_of_nonneg (by omega : 0 ≤ -v), Int.neg_tmod, Int.neg_neg]
    rw [h1, Int.tmod_eq_emod_of_nonneg (by omega)]
    omega
theorem td (v : Int) : Int.tdiv (v - v % 32768) 32768 = v / 32768 := by
  have h : v - v % 32768 = v / 32768 * 32768 := by omega
  rw [h, Int.mul_tdiv_cancel _ (by decide)]

theorem tmod_bound (v : Int) : -32768 < v.tmod 32768 ∧ v.tmod 32768 < 32768 := by
  rcases Int.le_total 0 v with h | h
  · rw [Int.tmod_eq_emod_of_nonneg h]; omega
  · have h1 : Int.tmod v 32768 = -((-v) % 32768) := by rw [← Int.tmod_eq_emod_of_nonneg (by omega : 0 ≤ -v), Int.neg_tmod, Int.neg_neg]
    rw [h1]; omega
theorem settle_step (v : Int) (hv : -9007199254740992 ≤ v ∧ v ≤ 9007199254740992) : wrap64 ((wrap64 (v - (wrap64 (v.tmod 32768 + 32768)).tmod 32768)).tdiv 32768) = v / 32768 ∧ (wrap64 (v.tmod 32768 + 32768)).tmod 32768 = v % 32768 := by
  have ht := tmod_bound v
  have w2 : wrap64 (v.tmod 32768 + 32768) = v.tmod 32768 + 32768 := by unfold wrap64; omega
  have w3 : wrap64 (v - v % 32768) = v - v % 32768 := by unfold wrap64; omega
  have w4 : wrap64 (v / 32768) = v / 32768 := by unfold wrap64; omega
  rw [w2, tm, w3, td, w4]
  exact ⟨rfl, rfl⟩

set_option maxRecDepth 100000 in
set_option maxHeartbeats 2000000 in
theorem settled_any (f : Nat → Int) (hB : ∀ j, j < 17 → -4503599627370496 ≤ f j ∧ f j ≤ 4503599627370496) (w : World) :
    Calls Tryd.prog 94 #[rv f] w fun e w' => (∃ n, e = .returned (rn n) ∧ n < H ∧ (n : Int) % (p : Nat) = ds f 17 % (p : Nat)) ∧ Grown w w' := by
  have hW := Grown.refl w
  have HB := Hid.of hB
  clear hB
  go_enter Tryd.func94, Tryd.ntmps94
  repeat ((fail_if_success (with_reducible show Code.wp _ (Code.region _ _ _) _ _ _)); go_step)
  refine wp_plain [.box 77 (rl f), .new 77 17] (by kernel_rfl) (fun β => ?_) (fun β w1 hD => ?_)
  · refine Obs.cons (Ob.box rfl rfl (by kernel_rfl)) ?_
    refine Obs.cons (Ob.new _ rfl rfl zeroR (by simp [rl_length])) ?_
    exact Obs.nil
  have hP0 : SX w (β 0) (β 1) f w1 := ⟨fun j hj => cell_r (hD.bx 0 _ _ rfl).2 hj, fun j => (hD.gr.2.1 _).trans (frozen_past (hD.bx 0 _ _ rfl).1), (hD.nw 1 _ _ rfl).2, hD.ap 0 1 _ _ rfl rfl rfl rfl (by decide), (hD.bx 0 _ _ rfl).1, (hD.nw 1 _ _ rfl).1, hD.gr⟩
  clear hD hW
  simp only [finAct, putAll, valsFrom, Plan.value, Act.put, List.setIfInBounds_toArray, List.set_cons_zero, List.set_cons_succ]
  generalize β 0 = b0 at *
  generalize β (0 + 1) = b1 at *
  go_wp2
  go_loopw [3] (fun v3 wr => ∃ (h : Nat → Int) (b : Bool), v3 = .bool b ∧ SX w b0 b1 h wr ∧ (∀ j, j < 17 → -4503599627370496 ≤ h j ∧ h j ≤ 4503599627370496) ∧ ds h 17 % (p : Nat) = ds f 17 % (p : Nat) ∧ (b = false → InR h 17)) (fun v3 wr => if isT v3 then 1 + mu (ds (rd wr b0) 17) else 0)
  case atStart => exact ⟨f, true, rfl, hP0, HB.out, rfl, fun h => by cases h⟩
  case round =>
    obtain ⟨h, b, rfl, hX, hb, hm, hi⟩ := hrel
    clear hP0 HB
    cases b
    · have HX := Hid.of (And.intro hX (And.intro hm (hi rfl)))
      have hr := hX.range
      have ht := hX.tr
      clear hX hb hm hi
      go_wp2_with (with_reducible show wpList _ _ _ ({ dst := _, op := Op.load 77 _, type := _, pos := _, after := _, guard := _ } :: _) _ _; refine Shut.out ?_)
      show wpList _ _ _ _ _ _
      refine wpList_load_mid rfl 77 _ rfl b0 0 rfl (rl h) _ hr Tryd.underlying77 rfl (by rw [rl_length]; exact infoR) ?_
      simp only [Act.put, List.setIfInBounds_toArray, List.set_cons_zero, List.set_cons_succ]
      refine wpList_store_mid rfl 77 _ _ rfl b1 0 (rl h).toArray rfl rfl (by rw [List.size_toArray, rl_length]; exact ht) (by rw [List.size_toArray, rl_length]; exact infoR) (all_oneCell_toArray (rl_one h)) ?_
      simp only [Act.put]
      apply wpList_nil
      repeat go_step
      refine bodyPost_ret (v := rv h) (result_cells Tryd.results94 _ _ b1 (rl h) ?hp (World.rangeAt_setCells_same _ _ _ _ (by rw [rl_length]; exact ht)) Tryd.underlying77 rfl (by rw [rl_length]; exact infoR)) ?hd ?_
      case hp => rfl
      case hd => rfl
      obtain ⟨h1, h2, h3⟩ := HX.out
      obtain ⟨h4, h5⟩ := ds_bound h3
      refine ⟨⟨(ds h 17).toNat, ?_, ?_, ?_⟩, grown_setCells h1.f2 _ _ h1.gw⟩
      · show _ = Ending.returned (.agg (rl (d15 (ds h 17).toNat)).toArray)
        rw [show rl (d15 (ds h 17).toNat) = rl h from rl_congr fun j hj => by
          unfold d15
          rw [ds_dig h3 j hj, Int.toNat_of_nonneg (h3 j hj).1]]
        rfl
      · have e : (32768 : Int) ^ 17 = 57896044618658097711785492504343953926634992332820282019728792003956564819968 := by decide
        rw [e] at h5
        unfold H
        omega
      · rw [Int.toNat_of_nonneg h4]; exact h2
    · have HX := Hid.of (And.intro hX (And.intro hb hm))
      clear hX hb hm hi
      obtain ⟨wr0, eW⟩ : ∃ W1, W1 = wr := ⟨_, rfl⟩
      subst eW
      go_wp2
      go_loopw [4, 5] (fun v4 v5 wr' => ∃ k : Nat, v5 = .int .i64 (k : Int) ∧ v4 = .int .i64 (cry h k) ∧ k ≤ 17 ∧ SX w b0 b1 (fun j => if j < k then lw h j else h j) wr') (fun _ v5 _ => 17 - (intOf v5).toNat)
      case atStart => exact ⟨0, rfl, rfl, by decide, HX.out.1.congr (fun j _ => by simp)⟩
      case round =>
        obtain ⟨k, rfl, rfl, hk, hX⟩ := hrel
        have HK := Hid.of hX
        have hc := cry_bound HX.out.2.1 k hk
        by_cases hlt : k < 17
        · have d1 : wr.cell? ⟨b0, k, none⟩ = some (.int .i64 (h k)) := by rw [hX.lo k hlt]; simp
          have d2 := hX.fr k
          have hx := HX.out.2.1 k hlt
          have k1 : (k : Int) < 17 := by omega
          have hS := Hid.of (hX.set (h := fun j => if j < k + 1 then lw h j else h j) k hlt ((h k + cry h k) % 32768) (by show (if k < k + 1 then lw h k else h k) = _; rw [if_pos (by omega)]; rfl) (fun j hj => by
            show (if j < k + 1 then lw h j else h j) = if j < k then lw h j else h j
            by_cases e : j < k
            · rw [if_pos e, if_pos (by omega)]
            · rw [if_neg e, if_neg (by omega)]))
          have hC := Hid.of (show cry h (k + 1) = (h k + cry h k) / 32768 from rfl)
          clear hX
          generalize h k = x at *
          generalize cry h k = c at *
          have e0 := Hid.of (show wrap64 (x + c) = x + c by unfold wrap64; omega)
          have hv := Hid.of (show -9007199254740992 ≤ x + c ∧ x + c ≤ 9007199254740992 by omega)
          have hkk := Hid.of hlt
          clear hx hc
          go_wp2
          rw [e0.out, (settle_step _ hv.out).1, (settle_step _ hv.out).2]
          have := hkk.out
          exact ⟨⟨k + 1, by simp, by rw [hC.out], this, hS.out⟩, by simp [intOf]; omega⟩
        · obtain rfl : k = 17 := by omega
          have HY : SX w b0 b1 (lw h) wr := hX.congr (fun j hj => by rw [if_pos hj])
          have d1 := HY.lo 0 (by decide)
          have d2 := HY.fr 0
          have hl := lw_in h 17 0 (by decide)
          have hS := Hid.of (HY.set (h := nxt h) 0 (by decide) (lw h 0 + 19 * cry h 17) rfl (fun j hj => by unfold nxt; rw [if_neg hj]))
          have hmu := Hid.of (show cry h 17 ≠ 0 → mu (ds (nxt h) 17) < mu (ds h 17) from mu_less HX.out.2.1)
          have hdn := Hid.of (show cry h 17 = 0 → InR (nxt h) 17 from nxt_done)
          have hnb := Hid.of (nxt_bound HX.out.2.1)
          have hnm := Hid.of ((nxt_mod h).trans HX.out.2.2)
          have hmu0 := Hid.of (show ds (rd wr0 b0) 17 = ds h 17 from HX.out.1.rd)
          clear hX HK HY
          generalize lw h 0 = x at *
          generalize cry h 17 = c at *
          have e1 := Hid.of (show wrap64 (19 * c) = 19 * c by unfold wrap64; omega)
          have e2 := Hid.of (show wrap64 (x + 19 * c) = x + 19 * c by unfold wrap64; omega)
          clear hc hl
          go_wp2
          rw [e1.out, e2.out]
          have hS' := hS.out
          refine ⟨⟨nxt h, c != 0, rfl, hS', hnb.out, hnm.out, fun hb => hdn.out (by simpa using hb)⟩, ?_⟩
          rw [hS'.rd, hmu0.out]
          show (if (c != 0) = true then 1 + mu (ds (nxt h) 17) else 0) < 1 + mu (ds h 17)
          by_cases hc : c = 0
          · subst hc; simp; omega
          · have := hmu.out hc
            have e : (c != 0) = true := by simpa using hc
            rw [e, if_pos rfl]; omega
end Go.Proofs.YtoimglbjepppmaaDoor

namespace FieldNum
theorem ds_add (f g : Nat → Int) : ∀ k, ds (fun j => f j + g j) k = ds f k + ds g k
  | 0 => rfl
  | k + 1 => by
    show ds (fun j => f j + g j) k + (f k + g k) * 32768 ^ k = ds f k + f k * 32768 ^ k + (ds g k + g k * 32768 ^ k)
    rw [ds_add f g k]; grind
theorem ds_sub (f g : Nat → Int) : ∀ k, ds (fun j => f j - g j) k = ds f k - ds g k
  | 0 => rfl
  | k + 1 => by
    show ds (fun j => f j - g j) k + (f k - g k) * 32768 ^ k = ds f k + f k * 32768 ^ k - (ds g k + g k * 32768 ^ k)
    rw [ds_sub f g k]; grind
end FieldNum
namespace Go.Proofs.YtoimglbjepppmaaDoor
open Go.RowKit Go.Shelf FieldNum

theorem d15_in (n k : Nat) : InR (d15 n) k := fun j _ => by
  unfold d15
  have := Nat.mod_lt (n / 32768 ^ j) (show 0 < 32768 by decide)
  omega
theorem ds_d15' (n : Nat) : ∀ k, ds (d15 n) k = ((n % 32768 ^ k : Nat) : Int)
  | 0 => by simp [ds, Nat.mod_one]
  | k + 1 => by
    show ds (d15 n) k + d15 n k * 32768 ^ k = _
    rw [ds_d15' n k]
    unfold d15
    rw [Nat.pow_succ, Nat.mod_mul]
    simp
    grind
theorem ds_d15 {n : Nat} (h : n < H) : ds (d15 n) 17 = (n : Int) := by
  rw [ds_d15', Nat.mod_eq_of_lt]
  exact Nat.lt_of_lt_of_le h (by decide)

section
variable {o : Oper} {ρ : Operand → Value} {x y : Operand} {t : TypeId} {w : World}
theorem exec_idxR {b : Nat} (k : Nat) (hk : k < 17) (ho : o.op = .indexAddr 77 x y) (hx : ρ x = .pointer (some ⟨b, 0, none⟩)) (hy : ρ y = .int .i64 (k : Int)) : (execOp ρ o).run Tryd.prog w = .ok (.value (.pointer (some ⟨b, k, none⟩))) w := by
  unfold execOp
  simp only [ho, hx, hy]
  go_simp
  intro h
  omega
theorem exec_addI (m n r : Int) (ho : o.op = .binOp .add 3 x y t) (hx : ρ x = .int .i64 m) (hy : ρ y = .int .i64 n) (hr : IntKind.i64.wrap (m + n) = r) : (execOp ρ o).run Tryd.prog w = .ok (.value (.int .i64 r)) w := by
  subst hr
  unfold execOp
  simp only [ho, hx, hy]
  simp [go_sem]
theorem exec_subI (m n r : Int) (ho : o.op = .binOp .sub 3 x y t) (hx : ρ x = .int .i64 m) (hy : ρ y = .int .i64 n) (hr : IntKind.i64.wrap (m - n) = r) : (execOp ρ o).run Tryd.prog w = .ok (.value (.int .i64 r)) w := by
  subst hr
  unfold execOp
  simp only [ho, hx, hy]
  simp [go_sem]
theorem exec_mulI' (m n r : Int) (ho : o.op = .binOp .mul 3 x y t) (hx : ρ x = .int .i64 m) (hy : ρ y = .int .i64 n) (hr : IntKind.i64.wrap (m * n) = r) : (execOp ρ o).run Tryd.prog w = .ok (.value (.int .i64 r)) w := by
  subst hr
  unfold execOp
  simp only [ho, hx, hy]
  simp [go_sem]
end
theorem run_loadI {b off : Nat} {c : Int} (w : World) (h : w.cell? ⟨b, off, none⟩ = some (.int .i64 c)) : (Instr.loadAt 3 (.pointer (some ⟨b, off, none⟩))).run Tryd.prog w = .ok (.int .i64 c) w := by
  go_simp
theorem run_storeI {b off : Nat} {c : Int} (w : World) (v0 : Value) (h : w.cell? ⟨b, off, none⟩ = some v0) (hf : w.frozen? ⟨b, off, none⟩ = false) : (Instr.storeAt 3 (.pointer (some ⟨b, off, none⟩)) (.int .i64 c)).run Tryd.prog w = .ok () (w.setCell ⟨b, off, none⟩ (.int .i64 c)) := by
  go_simp

/-- two numbers' digits, and the result's variable -/
structure TX (w0 : World) (g b r : Nat) (f h : Nat → Int) (wr : World) : Prop where
  sx : SX w0 g r f wr
  rb : wr.rangeAt b 0 (rl h)
  nb : b ≠ g
theorem TX.grown {w0 wr w' : World} {g b r : Nat} {f h : Nat → Int} (s : TX w0 g b r f h wr) (hg : Grown wr w') : TX w0 g b r f h w' :=
  ⟨⟨fun _ hj => cell_r (rangeAt_grown s.sx.range hg) hj, fun j => (hg.2.1 _).trans (s.sx.fr j), there_grown s.sx.tr hg, s.sx.ne, s.sx.fg, s.sx.f2, grown_trans s.sx.gw hg⟩, rangeAt_grown s.rb hg, s.nb⟩
theorem rangeAt_setCell {w : World} {b g k : Nat} {cs : List Value} {v : Value} (h : w.rangeAt b 0 cs) (hne : b ≠ g) : (w.setCell ⟨g, k, none⟩ v).rangeAt b 0 cs := by
  intro j u hu
  rw [World.cell?_setCell_other]
  · exact h j u hu
  · intro e
    injection e with e1 _ _
    exact hne e1.symm
theorem TX.set {w0 wr : World} {g b r : Nat} {f h f' : Nat → Int} (s : TX w0 g b r f h wr) (k : Nat) (hk : k < 17) (v : Int) (hv : f' k = v) (ho : ∀ j, j ≠ k → f' j = f j) : TX w0 g b r f' h (wr.setCell ⟨g, k, none⟩ (.int .i64 v)) :=
  ⟨s.sx.set k hk v hv ho, rangeAt_setCell s.rb s.nb, s.nb⟩
theorem SX.cellthere {w0 wr : World} {g r : Nat} {f : Nat → Int} (s : SX w0 g r f wr) {k : Nat} (hk : k < 17) : wr.there g k 1 := by
  intro j hj
  obtain rfl : j = 0 := by omega
  exact ⟨by rw [Nat.add_zero, s.lo k hk]; rfl, s.fr _⟩

set_option maxRecDepth 100000 in
set_option maxHeartbeats 2000000 in
theorem plus_raw (a b : Nat) (w : World) :
    Calls Tryd.prog 69 #[rn a, rn b] w fun e w' => (∃ n, e = .returned (rn n) ∧ n < H ∧ (n : Int) % (p : Nat) = (ds (d15 a) 17 + ds (d15 b) 17) % (p : Nat)) ∧ Grown w w' := by
  go_enter Tryd.func69, Tryd.ntmps69
  repeat ((fail_if_success (with_reducible show Code.wp _ (Code.region _ _ _) _ _ _)); go_step)
  refine wp_plain [.box 77 (rl (d15 a)), .box 77 (rl (d15 b)), .new 77 17] (by kernel_rfl) (fun β => ?_) (fun β w1 hD => ?_)
  · refine Obs.cons (Ob.box rfl rfl (by kernel_rfl)) ?_
    refine Obs.cons (Ob.box rfl rfl (by kernel_rfl)) ?_
    refine Obs.cons (Ob.new _ rfl rfl zeroR (by simp [rl_length])) ?_
    exact Obs.nil
  have hP0 : TX w (β 0) (β 1) (β 2) (d15 a) (d15 b) w1 := ⟨⟨fun j hj => cell_r (hD.bx 0 _ _ rfl).2 hj, fun j => (hD.gr.2.1 _).trans (frozen_past (hD.bx 0 _ _ rfl).1), (hD.nw 2 _ _ rfl).2, hD.ap 0 2 _ _ rfl rfl rfl rfl (by decide), (hD.bx 0 _ _ rfl).1, (hD.nw 2 _ _ rfl).1, hD.gr⟩, (hD.bx 1 _ _ rfl).2, hD.ap 1 0 _ _ rfl rfl rfl rfl (by decide)⟩
  clear hD
  simp only [finAct, putAll, valsFrom, Plan.value, Act.put, List.setIfInBounds_toArray, List.set_cons_zero, List.set_cons_succ]
  generalize β 0 = b0 at *
  generalize β (0 + 1) = b1 at *
  generalize β (0 + 1 + 1) = b2 at *
  go_wp2
  go_loopw [5] (fun v5 wr => ∃ k : Nat, v5 = .int .i64 (k : Int) ∧ k ≤ 17 ∧ TX w b0 b1 b2 (fun j => if j < k then d15 a j + d15 b j else d15 a j) (d15 b) wr) (fun v5 _ => 17 - (intOf v5).toNat)
  case atStart => exact ⟨0, rfl, by decide, ⟨hP0.sx.congr (fun j _ => by simp), hP0.rb, hP0.nb⟩⟩
  case round =>
    obtain ⟨k, rfl, hk, hX⟩ := hrel
    clear hP0
    by_cases hlt : k < 17
    · have k1 : (k : Int) < 17 := by omega
      have HX := Hid.of (hX.grown (gdrew wr))
      have hkk := Hid.of hlt
      clear hX hk hlt
      go_wp2
      refine wp_loose_fin [.imm (.int .i64 (k : Int)), .imm (.int .i64 (k : Int)), .imm (.pointer (some ⟨b0, k, none⟩)), .val (.int .i64 (d15 a k)), .imm (.int .i64 (k : Int)), .imm (.pointer (some ⟨b1, k, none⟩)), .val (.int .i64 (d15 b k)), .imm (.int .i64 (d15 a k + d15 b k)), .imm (.pointer (some ⟨b0, k, none⟩)), .fin] b0 k (fun _ => [.int .i64 (d15 a k + d15 b k)]) (by kernel_rfl) (by kernel_rfl) (fun β => ?_) (fun β w1 hD => ?_)
      · have hxa : wr.drew.cell? ⟨b0, k, none⟩ = some (.int .i64 (d15 a k)) := by rw [HX.out.sx.lo k hkk.out]; simp
        have hxb := cell_r HX.out.rb hkk.out
        have ia := d15_in a 17 k hkk.out
        have ib := d15_in b 17 k hkk.out
        refine Obs.cons (Ob.imm rfl (fun w => by kernel_rfl)) ?_
        refine Obs.cons (Ob.imm rfl (fun w => by kernel_rfl)) ?_
        refine Obs.cons (Ob.imm rfl (fun w => exec_idxR k hkk.out rfl (by kernel_rfl) (by kernel_rfl))) ?_
        refine Obs.cons (Ob.load1 b0 k rfl rfl (by kernel_rfl) (block_lt_of_cell hxa) hxa (fun w h => run_loadI w h)) ?_
        refine Obs.cons (Ob.imm rfl (fun w => by kernel_rfl)) ?_
        refine Obs.cons (Ob.imm rfl (fun w => exec_idxR k hkk.out rfl (by kernel_rfl) (by kernel_rfl))) ?_
        refine Obs.cons (Ob.load1 b1 k rfl rfl (by kernel_rfl) (block_lt_of_cell hxb) hxb (fun w h => run_loadI w h)) ?_
        refine Obs.cons (Ob.imm rfl (fun w => exec_addI (d15 a k) (d15 b k) _ rfl (by kernel_rfl) (by kernel_rfl) (by rw [IntKind.wrap_i64]; omega))) ?_
        refine Obs.cons (Ob.imm rfl (fun w => exec_idxR k hkk.out rfl (by kernel_rfl) (by kernel_rfl))) ?_
        refine Obs.cons (Ob.fin1 (.int .i64 (d15 a k + d15 b k)) rfl rfl (HX.out.sx.cellthere hkk.out) rfl (by kernel_rfl) (by kernel_rfl) (fun w v0 h hf => run_storeI w v0 h hf)) ?_
        exact Obs.nil
      have hS := Hid.of ((HX.out.grown hD.gr).set (f' := fun j => if j < k + 1 then d15 a j + d15 b j else d15 a j) k hkk.out (d15 a k + d15 b k) (by show (if k < k + 1 then d15 a k + d15 b k else d15 a k) = _; rw [if_pos (by omega)]) (fun j hj => by
        show (if j < k + 1 then d15 a j + d15 b j else d15 a j) = if j < k then d15 a j + d15 b j else d15 a j
        by_cases e : j < k
        · rw [if_pos e, if_pos (by omega)]
        · rw [if_neg e, if_neg (by omega)]))
      clear hD HX
      simp only [finAct, putAll, valsFrom, Plan.value, Act.put, List.setIfInBounds_toArray, List.set_cons_zero, List.set_cons_succ]
      go_wp2
      go_roundw
      case rel => exact ⟨k + 1, by simp, hkk.out, hS.out⟩
      case measure => have := hkk.out; simp [intOf]; omega
    · obtain rfl : k = 17 := by omega
      have HY : SX w b0 b2 (fun j => d15 a j + d15 b j) wr := hX.sx.congr (fun j hj => by rw [if_pos hj])
      have hr := HY.range
      have ht := HY.tr
      have hf := HY.f2
      have hW := HY.gw
      have hbd := Hid.of (show ∀ j, j < 17 → -4503599627370496 ≤ d15 a j + d15 b j ∧ d15 a j + d15 b j ≤ 4503599627370496 from fun j hj => by have := d15_in a 17 j hj; have := d15_in b 17 j hj; omega)
      clear hX HY
      go_wp2_with (with_reducible show wpList _ _ _ ({ dst := _, op := Op.load 77 _, type := _, pos := _, after := _, guard := _ } :: _) _ _; refine Shut.out ?_)
      show wpList _ _ _ _ _ _
      refine wpList_load_mid rfl 77 _ rfl b0 0 rfl (rl fun j => d15 a j + d15 b j) _ hr Tryd.underlying77 rfl (by rw [rl_length]; exact infoR) ?_
      simp only [Act.put, List.setIfInBounds_toArray, List.set_cons_zero, List.set_cons_succ]
      go_wp2_with fail
      refine Calls.mono (settled_any (fun j => d15 a j + d15 b j) hbd.out _) ?_
      rintro e w2 ⟨⟨n, rfl, hn, hq⟩, hg⟩
      dsimp only
      go_step
      have ht2 := there_grown ht hg
      have hW2 := grown_trans hW hg
      refine wpList_store_mid rfl 77 _ _ rfl b2 0 (rl (d15 n)).toArray rfl rfl (by rw [List.size_toArray, rl_length]; exact ht2) (by rw [List.size_toArray, rl_length]; exact infoR) (all_oneCell_toArray (rl_one _)) ?_
      simp only [Act.put]
      apply wpList_nil
      repeat go_step
      refine bodyPost_ret (v := rn n) (result_cells Tryd.results69 _ _ b2 (rl (d15 n)) ?hp (World.rangeAt_setCells_same _ _ _ _ (by rw [rl_length]; exact ht2)) Tryd.underlying77 rfl (by rw [rl_length]; exact infoR)) ?hd ?_
      case hp => rfl
      case hd => rfl
      exact ⟨⟨n, rfl, hn, by rw [hq, ds_add]⟩, grown_setCells hf _ _ hW2⟩

set_option maxRecDepth 100000 in
set_option maxHeartbeats 2000000 in
theorem minus_raw (a b : Nat) (w : World) :
    Calls Tryd.prog 71 #[rn a, rn b] w fun e w' => (∃ n, e = .returned (rn n) ∧ n < H ∧ (n : Int) % (p : Nat) = (ds (d15 a) 17 - ds (d15 b) 17) % (p : Nat)) ∧ Grown w w' := by
  go_enter Tryd.func71, Tryd.ntmps71
  repeat ((fail_if_success (with_reducible show Code.wp _ (Code.region _ _ _) _ _ _)); go_step)
  refine wp_plain [.box 77 (rl (d15 a)), .box 77 (rl (d15 b)), .new 77 17] (by kernel_rfl) (fun β => ?_) (fun β w1 hD => ?_)
  · refine Obs.cons (Ob.box rfl rfl (by kernel_rfl)) ?_
    refine Obs.cons (Ob.box rfl rfl (by kernel_rfl)) ?_
    refine Obs.cons (Ob.new _ rfl rfl zeroR (by simp [rl_length])) ?_
    exact Obs.nil
  have hP0 : TX w (β 0) (β 1) (β 2) (d15 a) (d15 b) w1 := ⟨⟨fun j hj => cell_r (hD.bx 0 _ _ rfl).2 hj, fun j => (hD.gr.2.1 _).trans (frozen_past (hD.bx 0 _ _ rfl).1), (hD.nw 2 _ _ rfl).2, hD.ap 0 2 _ _ rfl rfl rfl rfl (by decide), (hD.bx 0 _ _ rfl).1, (hD.nw 2 _ _ rfl).1, hD.gr⟩, (hD.bx 1 _ _ rfl).2, hD.ap 1 0 _ _ rfl rfl rfl rfl (by decide)⟩
  clear hD
  simp only [finAct, putAll, valsFrom, Plan.value, Act.put, List.setIfInBounds_toArray, List.set_cons_zero, List.set_cons_succ]
  generalize β 0 = b0 at *
  generalize β (0 + 1) = b1 at *
  generalize β (0 + 1 + 1) = b2 at *
  go_wp2
  go_loopw [5] (fun v5 wr => ∃ k : Nat, v5 = .int .i64 (k : Int) ∧ k ≤ 17 ∧ TX w b0 b1 b2 (fun j => if j < k then d15 a j - d15 b j else d15 a j) (d15 b) wr) (fun v5 _ => 17 - (intOf v5).toNat)
  case atStart => exact ⟨0, rfl, by decide, ⟨hP0.sx.congr (fun j _ => by simp), hP0.rb, hP0.nb⟩⟩
  case round =>
    obtain ⟨k, rfl, hk, hX⟩ := hrel
    clear hP0
    by_cases hlt : k < 17
    · have k1 : (k : Int) < 17 := by omega
      have HX := Hid.of (hX.grown (gdrew wr))
      have hkk := Hid.of hlt
      clear hX hk hlt
      go_wp2
      refine wp_loose_fin [.imm (.int .i64 (k : Int)), .imm (.int .i64 (k : Int)), .imm (.pointer (some ⟨b0, k, none⟩)), .val (.int .i64 (d15 a k)), .imm (.int .i64 (k : Int)), .imm (.pointer (some ⟨b1, k, none⟩)), .val (.int .i64 (d15 b k)), .imm (.int .i64 (d15 a k - d15 b k)), .imm (.pointer (some ⟨b0, k, none⟩)), .fin] b0 k (fun _ => [.int .i64 (d15 a k - d15 b k)]) (by kernel_rfl) (by kernel_rfl) (fun β => ?_) (fun β w1 hD => ?_)
      · have hxa : wr.drew.cell? ⟨b0, k, none⟩ = some (.int .i64 (d15 a k)) := by rw [HX.out.sx.lo k hkk.out]; simp
        have hxb := cell_r HX.out.rb hkk.out
        have ia := d15_in a 17 k hkk.out
        have ib := d15_in b 17 k hkk.out
        refine Obs.cons (Ob.imm rfl (fun w => by kernel_rfl)) ?_
        refine Obs.cons (Ob.imm rfl (fun w => by kernel_rfl)) ?_
        refine Obs.cons (Ob.imm rfl (fun w => exec_idxR k hkk.out rfl (by kernel_rfl) (by kernel_rfl))) ?_
        refine Obs.cons (Ob.load1 b0 k rfl rfl (by kernel_rfl) (block_lt_of_cell hxa) hxa (fun w h => run_loadI w h)) ?_
        refine Obs.cons (Ob.imm rfl (fun w => by kernel_rfl)) ?_
        refine Obs.cons (Ob.imm rfl (fun w => exec_idxR k hkk.out rfl (by kernel_rfl) (by kernel_rfl))) ?_
        refine Obs.cons (Ob.load1 b1 k rfl rfl (by kernel_rfl) (block_lt_of_cell hxb) hxb (fun w h => run_loadI w h)) ?_
        refine Obs.cons (Ob.imm rfl (fun w => exec_subI (d15 a k) (d15 b k) _ rfl (by kernel_rfl) (by kernel_rfl) (by rw [IntKind.wrap_i64]; omega))) ?_
        refine Obs.cons (Ob.imm rfl (fun w => exec_idxR k hkk.out rfl (by kernel_rfl) (by kernel_rfl))) ?_
        refine Obs.cons (Ob.fin1 (.int .i64 (d15 a k - d15 b k)) rfl rfl (HX.out.sx.cellthere hkk.out) rfl (by kernel_rfl) (by kernel_rfl) (fun w v0 h hf => run_storeI w v0 h hf)) ?_
        exact Obs.nil
      have hS := Hid.of ((HX.out.grown hD.gr).set (f' := fun j => if j < k + 1 then d15 a j - d15 b j else d15 a j) k hkk.out (d15 a k - d15 b k) (by show (if k < k + 1 then d15 a k - d15 b k else d15 a k) = _; rw [if_pos (by omega)]) (fun j hj => by
        show (if j < k + 1 then d15 a j - d15 b j else d15 a j) = if j < k then d15 a j - d15 b j else d15 a j
        by_cases e : j < k
        · rw [if_pos e, if_pos (by omega)]
        · rw [if_neg e, if_neg (by omega)]))
      clear hD HX
      simp only [finAct, putAll, valsFrom, Plan.value, Act.put, List.setIfInBounds_toArray, List.set_cons_zero, List.set_cons_succ]
      go_wp2
      go_roundw
      case rel => exact ⟨k + 1, by simp, hkk.out, hS.out⟩
      case measure => have := hkk.out; simp [intOf]; omega
    · obtain rfl : k = 17 := by omega
      have HY : SX w b0 b2 (fun j => d15 a j - d15 b j) wr := hX.sx.congr (fun j hj => by rw [if_pos hj])
      have hr := HY.range
      have ht := HY.tr
      have hf := HY.f2
      have hW := HY.gw
      have hbd := Hid.of (show ∀ j, j < 17 → -4503599627370496 ≤ d15 a j - d15 b j ∧ d15 a j - d15 b j ≤ 4503599627370496 from fun j hj => by have := d15_in a 17 j hj; have := d15_in b 17 j hj; omega)
      clear hX HY
      go_wp2_with (with_reducible show wpList _ _ _ ({ dst := _, op := Op.load 77 _, type := _, pos := _, after := _, guard := _ } :: _) _ _; refine Shut.out ?_)
      show wpList _ _ _ _ _ _
      refine wpList_load_mid rfl 77 _ rfl b0 0 rfl (rl fun j => d15 a j - d15 b j) _ hr Tryd.underlying77 rfl (by rw [rl_length]; exact infoR) ?_
      simp only [Act.put, List.setIfInBounds_toArray, List.set_cons_zero, List.set_cons_succ]
      go_wp2_with fail
      refine Calls.mono (settled_any (fun j => d15 a j - d15 b j) hbd.out _) ?_
      rintro e w2 ⟨⟨n, rfl, hn, hq⟩, hg⟩
      dsimp only
      go_step
      have ht2 := there_grown ht hg
      have hW2 := grown_trans hW hg
      refine wpList_store_mid rfl 77 _ _ rfl b2 0 (rl (d15 n)).toArray rfl rfl (by rw [List.size_toArray, rl_length]; exact ht2) (by rw [List.size_toArray, rl_length]; exact infoR) (all_oneCell_toArray (rl_one _)) ?_
      simp only [Act.put]
      apply wpList_nil
      repeat go_step
      refine bodyPost_ret (v := rn n) (result_cells Tryd.results71 _ _ b2 (rl (d15 n)) ?hp (World.rangeAt_setCells_same _ _ _ _ (by rw [rl_length]; exact ht2)) Tryd.underlying77 rfl (by rw [rl_length]; exact infoR)) ?hd ?_
      case hp => rfl
      case hd => rfl
      exact ⟨⟨n, rfl, hn, by rw [hq, ds_sub]⟩, grown_setCells hf _ _ hW2⟩

theorem nat_mod {n : Nat} {z : Int} {m : Nat} (h : (n : Int) % (p : Nat) = z % (p : Nat)) (hz : z = (m : Int)) : n % p = m % p := by
  rw [hz] at h
  omega
theorem plus_r (a b : Nat) (ha : a < H) (hb : b < H) (w : World) :
    Calls Tryd.prog 69 #[rn a, rn b] w fun e w' => (∃ n, e = .returned (rn n) ∧ n < H ∧ n % p = (a + b) % p) ∧ Grown w w' :=
  (plus_raw a b w).mono fun _ _ ⟨⟨n, h1, h2, h3⟩, hg⟩ => ⟨⟨n, h1, h2, nat_mod h3 (by rw [ds_d15 ha, ds_d15 hb]; simp)⟩, hg⟩
theorem minus_r (a b : Nat) (ha : a < H) (hb : b < H) (w : World) :
    Calls Tryd.prog 71 #[rn a, rn b] w fun e w' => (∃ n, e = .returned (rn n) ∧ n < H ∧ n % p = sb a b) ∧ Grown w w' :=
  (minus_raw a b w).mono fun _ _ ⟨⟨n, h1, h2, h3⟩, hg⟩ => ⟨⟨n, h1, h2, sb_uniq (Nat.mod_lt _ p_pos) (by
    rw [ds_d15 ha, ds_d15 hb] at h3
    rw [Nat.mod_add_mod]
    have h4 : ((n + b : Nat) : Int) % (p : Nat) = (a : Int) % (p : Nat) := by
      rw [Int.natCast_add, Int.add_emod, h3, ← Int.add_emod, Int.sub_add_cancel]
    omega)⟩, hg⟩
end Go.Proofs.YtoimglbjepppmaaDoor

namespace FieldNum
theorem ds_upd (f g : Nat → Int) (k : Nat) (d : Int) (h0 : g k = f k + d) (h : ∀ j, j ≠ k → g j = f j) : ∀ n, k < n → ds g n = ds f n + d * 32768 ^ k
  | 0, hk => by omega
  | n + 1, hk => by
    show ds g n + g n * 32768 ^ n = ds f n + f n * 32768 ^ n + d * 32768 ^ k
    by_cases e : n = k
    · subst e
      rw [ds_congr (f := g) (g := f) (fun j hj => h j (by omega)), h0]; grind
    · rw [ds_upd f g k d h0 h n (by omega), h n e]; omega
theorem tstep1 {V V' S x P T y Q m : Int} (h : V % m = (S + x * P * T) % m) (e : V' = V + x * y * (P * Q)) : V' % m = (S + x * P * (T + y * Q)) % m := by
  have e2 : S + x * P * (T + y * Q) = (S + x * P * T) + x * y * (P * Q) := by grind
  rw [e, e2, Int.add_emod, h, ← Int.add_emod]
theorem tstep2 {V V' S x P T y Q P' m K : Int} (h : V % m = (S + x * P * T) % m) (e : V' = V + 19 * x * y * P') (hq : P * Q = P' * K) (hk : K = m + 19) : V' % m = (S + x * P * (T + y * Q)) % m := by
  have e2 : S + x * P * (T + y * Q) = (S + x * P * T) + x * y * (P * Q) := by grind
  have e3 : x * y * (P * Q) = 19 * x * y * P' + (x * y * P') * m := by rw [hq, hk]; grind
  rw [e, e2, e3, ← Int.add_assoc, Int.add_mul_emod_self_right, Int.add_emod, h, ← Int.add_emod]
theorem mul15 {x y : Int} (h1 : 0 ≤ x ∧ x < 32768) (h2 : 0 ≤ y ∧ y < 32768) : 0 ≤ x * y ∧ x * y ≤ 1073741824 := by
  refine ⟨Int.mul_nonneg h1.1 h2.1, ?_⟩
  have a := Int.mul_le_mul_of_nonneg_right (show x ≤ 32768 by omega) h2.1
  have b : 32768 * y ≤ 1073741824 := by omega
  omega
theorem pow15 (i j : Nat) (h : 17 ≤ i + j) : (32768 : Int) ^ i * 32768 ^ j = 32768 ^ (i + j - 17) * 32768 ^ 17 := by
  rw [← Int.pow_add, ← Int.pow_add]
  congr 1; omega
theorem K15 : (32768 : Int) ^ 17 = ((p : Nat) : Int) + 19 := by decide
end FieldNum
namespace Go.Proofs.YtoimglbjepppmaaDoor
open Go.RowKit Go.Shelf FieldNum

/-- the product so far -/
structure MX (w0 : World) (ga gb g r : Nat) (fa fb : Nat → Int) (R : Nat → Int) (wr : World) : Prop where
  sx : SX w0 g r R wr
  ra : wr.rangeAt ga 0 (rl fa)
  rb : wr.rangeAt gb 0 (rl fb)
  na : ga ≠ g
  nb : gb ≠ g
theorem MX.grown {w0 wr w' : World} {ga gb g r : Nat} {fa fb R : Nat → Int} (s : MX w0 ga gb g r fa fb R wr) (hg : Grown wr w') : MX w0 ga gb g r fa fb R w' :=
  ⟨⟨fun _ hj => cell_r (rangeAt_grown s.sx.range hg) hj, fun j => (hg.2.1 _).trans (s.sx.fr j), there_grown s.sx.tr hg, s.sx.ne, s.sx.fg, s.sx.f2, grown_trans s.sx.gw hg⟩, rangeAt_grown s.ra hg, rangeAt_grown s.rb hg, s.na, s.nb⟩
theorem MX.set {w0 wr : World} {ga gb g r : Nat} {fa fb R R' : Nat → Int} (s : MX w0 ga gb g r fa fb R wr) (k : Nat) (hk : k < 17) (v : Int) (hv : R' k = v) (ho : ∀ j, j ≠ k → R' j = R j) : MX w0 ga gb g r fa fb R' (wr.setCell ⟨g, k, none⟩ (.int .i64 v)) :=
  ⟨s.sx.set k hk v hv ho, rangeAt_setCell s.ra s.na, rangeAt_setCell s.rb s.nb, s.na, s.nb⟩

def upd (R : Nat → Int) (k : Nat) (d : Int) (j : Nat) : Int := if j = k then R k + d else R j
theorem upd_self (R : Nat → Int) (k : Nat) (d : Int) : upd R k d k = R k + d := if_pos rfl
theorem upd_other (R : Nat → Int) (k : Nat) (d : Int) (j : Nat) (h : j ≠ k) : upd R k d j = R j := if_neg h
/-- bounds and worth of the product so far -/
structure PB (fa fb R : Nat → Int) (i j : Nat) : Prop where
  bd : ∀ k, k < 17 → 0 ≤ R k ∧ R k ≤ (17 * (i : Int) + j) * 20401094656
  eq : ds R 17 % (p : Nat) = (ds fa i * ds fb 17 + fa i * 32768 ^ i * ds fb j) % (p : Nat)
theorem PB.step1 {fa fb R : Nat → Int} {i j : Nat} (s : PB fa fb R i j) (hij : i + j < 17) (ha : InR fa 17) (hb : InR fb 17) : PB fa fb (upd R (i + j) (fa i * fb j)) i (j + 1) := by
  have hm := mul15 (ha i (by omega)) (hb j (by omega))
  refine ⟨fun k hk => ?_, ?_⟩
  · have h1 := s.bd k hk
    have h2 := s.bd (i + j) hij
    unfold upd
    split <;> omega
  · refine tstep1 (Q := 32768 ^ j) (y := fb j) s.eq ?_
    rw [ds_upd R _ (i + j) (fa i * fb j) (upd_self _ _ _) (upd_other _ _ _) 17 hij, Int.pow_add]
theorem PB.step2 {fa fb R : Nat → Int} {i j : Nat} (s : PB fa fb R i j) (hi : i < 17) (hj : j < 17) (hij : 17 ≤ i + j) (ha : InR fa 17) (hb : InR fb 17) : PB fa fb (upd R (i + j - 17) (19 * fa i * fb j)) i (j + 1) := by
  have hm := mul15 (ha i (by omega)) (hb j (by omega))
  have hm2 : 19 * fa i * fb j = 19 * (fa i * fb j) := by grind
  refine ⟨fun k hk => ?_, ?_⟩
  · have h1 := s.bd k hk
    have h2 := s.bd (i + j - 17) (by omega)
    unfold upd
    rw [hm2]
    split <;> omega
  · refine tstep2 (Q := 32768 ^ j) (y := fb j) (P' := 32768 ^ (i + j - 17)) s.eq ?_ (pow15 i j hij) K15
    rw [ds_upd R _ (i + j - 17) (19 * fa i * fb j) (upd_self _ _ _) (upd_other _ _ _) 17 (by omega)]
theorem PB.next {fa fb R : Nat → Int} {i : Nat} (s : PB fa fb R i 17) : PB fa fb R (i + 1) 0 := by
  refine ⟨fun k hk => by have := s.bd k hk; omega, ?_⟩
  rw [s.eq]
  show (ds fa i * ds fb 17 + fa i * 32768 ^ i * ds fb 17) % _ = ((ds fa i + fa i * 32768 ^ i) * ds fb 17 + fa (i + 1) * 32768 ^ (i + 1) * 0) % _
  congr 1; grind
theorem PB.start (fa fb : Nat → Int) : PB fa fb (fun _ => 0) 0 0 := by
  refine ⟨fun k _ => by simp, ?_⟩
  have : ds (fun _ => 0) 17 = 0 := by decide
  rw [this]
  show _ = (0 * ds fb 17 + fa 0 * 32768 ^ 0 * 0) % _
  congr 1; grind
end Go.Proofs.YtoimglbjepppmaaDoor

