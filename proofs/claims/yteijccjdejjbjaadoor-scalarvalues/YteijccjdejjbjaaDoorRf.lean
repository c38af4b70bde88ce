import Derived.Test.YteijccjdejjbjaaDoorCu
namespace Go.Proofs.YteijccjdejjbjaaDoor
open Go.RowKit Go.Shelf ScalarNum

/-- digits of 8 bits as cells of type int -/
def il (n v : Nat) : List Value := (ds 256 n v).map fun z : Nat => .int .i64 (z : Int)
def iv (n v : Nat) : Value := .agg (il n v).toArray
theorem il_length (n v : Nat) : (il n v).length = n := by simp [il, ds_length]
theorem il_get (n v i : Nat) (h : i < n) : (il n v)[i]? = some (.int .i64 ((dg 256 v i : Nat) : Int)) := by simp [il, ds_get _ _ _ _ h]
theorem il_one (n v : Nat) : ∀ u ∈ il n v, u.oneCell' = true := by
  intro u hu
  simp only [il, List.mem_map] at hu
  obtain ⟨i, _, rfl⟩ := hu
  rfl
theorem il_set {n v k z : Nat} (hz : z < 256) (hk : k < n) : (il n v).set k (.int .i64 (z : Int)) = il n (st 256 v k z) := by
  rw [il, il, ← ds_set (by decide) hz hk, List.map_set]
theorem irange_set {w : World} {b n v : Nat} (h : w.rangeAt b 0 (il n v)) {k z : Nat} (hz : z < 256) (hk : k < n) : (w.setCell ⟨b, k, none⟩ (.int .i64 (z : Int))).rangeAt b 0 (il n (st 256 v k z)) := by
  rw [← il_set hz hk]; exact range_set h k (by rw [il_length]; exact hk) _
theorem info33 : (Tryd.prog.info? 79).map (·.size) = some 33 := by kernel_rfl
theorem wpList_load33 {ops : Array Oper} {rest : List Oper} {op : Oper} {a : Act} {w : World} {Q : Exit → Act → World → Prop} (hgd : op.guard = none) (x : Operand) (ho : op.op = .load 79 x)
    (b : Nat) (hx : a.eval x = .pointer (some ⟨b, 0, none⟩)) (n : Nat) (hc : w.rangeAt b 0 (il 33 n))
    (h : wpList Tryd.prog ops Q rest (a.put op.dst (iv 33 n)) w) : wpList Tryd.prog ops Q (op :: rest) a w :=
  wpList_load_mid hgd 79 x ho b 0 hx (il 33 n) _ hc Tryd.underlying79 rfl (by rw [il_length]; exact info33) h

theorem less_top {x y : Nat} (hx : x / 256 ^ 32 % 256 = 0) (hx33 : x < 256 ^ 33) (hy : y < M) : x / 256 ^ 32 = y / 256 ^ 32 := by
  have e : (256 : Nat) ^ 32 = M := by decide
  rw [e, Nat.div_eq_of_lt hy, ← e]
  have h1 : x / 256 ^ 32 < 256 := Nat.div_lt_of_lt_mul (by rw [← Nat.pow_succ]; exact hx33)
  rwa [Nat.mod_eq_of_lt h1] at hx

set_option maxRecDepth 100000 in
set_option maxHeartbeats 1000000 in
theorem below_num (x y : Nat) (hx : x < 256 ^ 33) (hy : y < M) (w : World) :
    Calls Tryd.prog 60 #[iv 33 x, yv 32 y] w fun e w' => e = .returned (.bool (decide (x < y))) ∧ Grown w w' := by
  have h0 : ((w.alloc (.cells (il 33 x).toArray 79)).alloc (.cells (yl 32 y).toArray 23)).rangeAt w.heap.size 0 (il 33 x) ∧ ((w.alloc (.cells (il 33 x).toArray 79)).alloc (.cells (yl 32 y).toArray 23)).rangeAt (w.heap.size + 1) 0 (yl 32 y) ∧ Grown w ((w.alloc (.cells (il 33 x).toArray 79)).alloc (.cells (yl 32 y).toArray 23)) := by
    have h1 := rangeAt_grown (rangeAt_alloc_new w 79 (il 33 x)) (Grown.alloc (Grown.refl _) (yl 32 y).toArray 23)
    have h2 := rangeAt_alloc_new (w.alloc (.cells (il 33 x).toArray 79)) 23 (yl 32 y)
    rw [show (w.alloc (.cells (il 33 x).toArray 79)).heap.size = w.heap.size + 1 by simp] at h2
    exact ⟨h1, h2, Grown.alloc (Grown.alloc (Grown.refl _) _ _) _ _⟩
  have htop : (il 33 x)[32]? = some (.int .i64 (dg 256 x 32 : Nat)) := il_get 33 x 32 (by decide)
  have hd : x / 256 ^ 32 % 256 = dg 256 x 32 := rfl
  rw [iv, yv]
  generalize dg 256 x 32 = tp at *
  by_cases hz : tp = 0
  · subst hz
    have hlt := less_top hd hx hy
    clear hd hx hy
    go_enter Tryd.func60, Tryd.ntmps60
    go_wp2
    generalize ((w.alloc (Obj.cells (il 33 x).toArray 79)).alloc (Obj.cells (yl 32 y).toArray 23)) = W0 at *
    clear htop
    obtain ⟨rx, ry, hW⟩ := h0
    have hcx := fun i (hi : i < 33) => rx i _ (il_get 33 x i hi)
    have hcy := fun i (hi : i < 32) => ry i _ (yl_get 32 y i hi)
    simp only [Nat.zero_add] at hcx hcy
    clear rx ry
    go_loopw [5] (fun v5 wr => ∃ k n : Nat, v5 = .int .i64 ((k : Int) - 1) ∧ k ≤ 32 ∧ wr = W0.drewN n ∧ x / 256 ^ k = y / 256 ^ k) (fun v5 _ => (intOf v5 + 1).toNat)
    case atStart => exact ⟨32, 0, rfl, by decide, rfl, hlt⟩
    case round =>
      obtain ⟨k, n, rfl, hk, rfl, hdiv⟩ := hrel
      clear hlt
      rcases Nat.eq_zero_or_pos k with rfl | hpos
      · have hxy : x = y := by simpa using hdiv
        subst hxy
        clear hcx hcy hdiv
        go_wp2
        go_ret
        exact ⟨by simp, grown_drewN hW _⟩
      · obtain ⟨i, rfl⟩ : ∃ i, k = i + 1 := ⟨k - 1, by omega⟩
        obtain ⟨s1, s2⟩ := less_step hdiv
        have cx := hcx i (by omega)
        have cy := hcy i (by omega)
        simp only [dg] at cx cy
        clear hcx hcy hdiv
        have ei : ((i + 1 : Nat) : Int) - 1 = (i : Int) := by omega
        rw [ei]
        clear ei
        have b0 : (0 : Int) ≤ (i : Int) := by omega
        have b1 : (i : Int) < 32 := by omega
        have wi : IntKind.i64.wrap ((i : Int) - 1) = (i : Int) - 1 := by rw [IntKind.wrap_i64]; omega
        have q1 : x / 256 ^ i % 256 < 256 := Nat.mod_lt _ (by decide)
        have q2 : y / 256 ^ i % 256 < 256 := Nat.mod_lt _ (by decide)
        generalize hbx : x / 256 ^ i % 256 = bx at *
        generalize hby : y / 256 ^ i % 256 = by' at *
        have q3 : wrap64 (by' : Int) = (by' : Int) := by simp [wrap64]; omega
        by_cases hb : bx = by'
        · have s1' := s1 hb
          subst hb
          clear s1 s2 hbx hby
          have sd : Hid (x / 256 ^ i = y / 256 ^ i) := s1'
          clear s1'
          go_wp2
          go_quiet (fail)
          go_wp2
          go_roundw
          case rel => exact ⟨i, _, rfl, by omega, rfl, sd.out⟩
          case measure => simp [intOf]
        · have s2' := s2 hb
          have hbi : ¬ ((bx : Int) = (by' : Int)) := fun h => hb (Int.ofNat_inj.1 h)
          clear s1 s2 hbx hby
          have sd : Hid (bx < by' ↔ x < y) := s2'
          clear s2'
          go_wp2
          go_quiet (fail)
          go_wp2
          go_quiet (fail)
          go_wp2
          go_ret
          refine ⟨?_, hW⟩
          have h : bx < by' ↔ x < y := sd.out
          show Ending.returned (.bool (decide (bx < by'))) = _
          rw [decide_eq_decide.2 h]
  · have hge : ¬ x < y := by
      intro h
      have h1 : x / 256 ^ 32 = 0 := Nat.div_eq_of_lt (Nat.lt_trans h (by rw [show (256 : Nat) ^ 32 = M from by decide]; exact hy))
      rw [h1, Nat.zero_mod] at hd
      exact hz hd.symm
    rw [decide_eq_false hge]
    clear hge hx hy
    have hzi : ¬ (tp : Int) = 0 := by omega
    have HW := Hid.of h0.2.2
    clear hd h0
    go_enter Tryd.func60, Tryd.ntmps60
    go_wp2
    go_ret
    exact ⟨rfl, HW.out⟩
end Go.Proofs.YteijccjdejjbjaaDoor
