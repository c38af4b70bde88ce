import Derived.Test.YtkegcilcapnpdaaDoorMh
import Derived.Test.YtkegcilcapnpdaaDoorMf
namespace Go.Proofs.YtkegcilcapnpdaaDoor
open Go.RowKit Go.Shelf FieldNum

theorem run_load8 {b off : Nat} {c : Int} (w : World) (h : w.cell? ⟨b, off, none⟩ = some (.int .u8 c)) : (Instr.loadAt 5 (.pointer (some ⟨b, off, none⟩))).run Tryd.prog w = .ok (.int .u8 c) w := by
  go_simp
theorem run_store8 {b off : Nat} {c : Int} (w : World) (v0 : Value) (h : w.cell? ⟨b, off, none⟩ = some v0) (hf : w.frozen? ⟨b, off, none⟩ = false) : (Instr.storeAt 5 (.pointer (some ⟨b, off, none⟩)) (.int .u8 c)).run Tryd.prog w = .ok () (w.setCell ⟨b, off, none⟩ (.int .u8 c)) := by
  go_simp

section
variable {o : Oper} {ρ : Operand → Value} {x y : Operand} {t : TypeId} {w : World}
theorem exec_idx {b : Nat} (i : Nat) (hi : i < 32) (ho : o.op = .indexAddr 23 x y) (hx : ρ x = .pointer (some ⟨b, 0, none⟩)) (hy : ρ y = .int .i64 i) : (execOp ρ o).run Tryd.prog w = .ok (.value (.pointer (some ⟨b, i, none⟩))) w := by
  unfold execOp
  simp only [ho, hx, hy]
  go_simp
  intro h
  omega
theorem exec_and8 (c d r : Nat) (ho : o.op = .binOp .and 5 x y t) (hx : ρ x = .int .u8 c) (hy : ρ y = .int .u8 d) (hr : bits .and .u8 c d = r) : (execOp ρ o).run Tryd.prog w = .ok (.value (.int .u8 r)) w := by
  unfold execOp
  simp only [ho, hx, hy]
  simp [go_sem, hr]
theorem exec_andNot8 (c d r : Nat) (ho : o.op = .binOp .andNot 5 x y t) (hx : ρ x = .int .u8 c) (hy : ρ y = .int .u8 d) (hr : bits .andNot .u8 c d = r) : (execOp ρ o).run Tryd.prog w = .ok (.value (.int .u8 r)) w := by
  unfold execOp
  simp only [ho, hx, hy]
  simp [go_sem, hr]
theorem exec_or8 (c d r : Nat) (ho : o.op = .binOp .or 5 x y t) (hx : ρ x = .int .u8 c) (hy : ρ y = .int .u8 d) (hr : bits .or .u8 c d = r) : (execOp ρ o).run Tryd.prog w = .ok (.value (.int .u8 r)) w := by
  unfold execOp
  simp only [ho, hx, hy]
  simp [go_sem, hr]
theorem exec_neq8 (c d : Nat) (ho : o.op = .binOp .neq 5 x y t) (hx : ρ x = .int .u8 c) (hy : ρ y = .int .u8 d) (b : Bool) (hb : (!decide (c = d)) = b) : (execOp ρ o).run Tryd.prog w = .ok (.value (.bool b)) w := by
  subst hb
  unfold execOp
  simp only [ho, hx, hy]
  simp [go_sem]
  by_cases h : c = d
  · simp [h]
  · have h2 : ¬ (c : Int) = d := by omega
    simp [h, h2]
theorem exec_geq8 (c d : Nat) (ho : o.op = .binOp .geq 5 x y t) (hx : ρ x = .int .u8 c) (hy : ρ y = .int .u8 d) (b : Bool) (hb : decide (d ≤ c) = b) : (execOp ρ o).run Tryd.prog w = .ok (.value (.bool b)) w := by
  subst hb
  unfold execOp
  simp only [ho, hx, hy]
  simp [go_sem]
theorem exec_rem8' (c : Nat) (ho : o.op = .binOp .rem 5 x y t) (hx : ρ x = .int .u8 c) (hy : ρ y = .int .u8 2) (hc : c < 256) : (execOp ρ o).run Tryd.prog w = .ok (.value (.int .u8 ((c % 2 : Nat) : Int))) w := exec_rem8 ho c hc hx hy
end

theorem and128_lo : ∀ c : Fin 256, c.val < 128 → bits .and .u8 (c.val : Nat) (128 : Nat) = (0 : Nat) := by decide +kernel
theorem and128_hi : ∀ c : Fin 256, ¬ c.val < 128 → bits .and .u8 (c.val : Nat) (128 : Nat) = (128 : Nat) := by decide +kernel
theorem and127 : ∀ c : Fin 256, bits .and .u8 (c.val : Nat) (127 : Nat) = (c.val % 128 : Nat) := by decide +kernel
theorem andNot128 : ∀ c : Fin 256, bits .andNot .u8 (c.val : Nat) (128 : Nat) = (c.val % 128 : Nat) := by decide +kernel
theorem or128 : ∀ c : Fin 256, c.val < 128 → bits .or .u8 (c.val : Nat) (128 : Nat) = (c.val + 128 : Nat) := by decide +kernel

/-- 2^255 -/
def H : Nat := 57896044618658097711785492504343953926634992332820282019728792003956564819968
/-- the highest byte -/
def top (b : Nat) : Nat := b / 256 ^ 31 % 256
theorem top_lt (b : Nat) : top b < 256 := Nat.mod_lt _ (by decide)
theorem top_big {b : Nat} (hb : b < M) : top b < 128 ↔ b < H := by
  unfold top H
  unfold M at hb
  have e : 256 ^ 31 = 452312848583266388373324160190187140051835877600158453279131187530910662656 := by decide
  rw [e]
  omega
theorem H_split (i : Nat) (hi : i < 31) : H = 256 ^ i * (256 * (256 ^ (30 - i) * 128)) := by
  have e : 256 ^ i * (256 * (256 ^ (30 - i) * 128)) = 256 ^ (i + 1 + (30 - i)) * 128 := by rw [Nat.pow_add, Nat.pow_add]; grind
  rw [e, show i + 1 + (30 - i) = 31 by omega]
  decide
theorem low_byte (b i : Nat) (hi : i < 31) : b % H / 256 ^ i % 256 = b / 256 ^ i % 256 := by
  rw [H_split i hi, Nat.mod_mul_right_div_self, Nat.mod_mul_right_mod]
theorem top_low (b : Nat) : top (b % H) = top b % 128 := by
  unfold top H
  have e : 256 ^ 31 = 452312848583266388373324160190187140051835877600158453279131187530910662656 := by decide
  rw [e]
  omega
theorem low_lt (b : Nat) : b % H < M := Nat.lt_trans (Nat.mod_lt _ (by decide)) (by decide)

theorem rangeAt_top {w : World} {b n m : Nat} (h : w.rangeAt b 0 (bl n)) (hl : ∀ i, i < 31 → m / 256 ^ i % 256 = n / 256 ^ i % 256) : (w.setCell ⟨b, 31, none⟩ (.int .u8 (top m))).rangeAt b 0 (bl m) := by
  intro j v hv
  have hj : j < 32 := by have := lt_of_get hv; rwa [bl_length] at this
  rw [bl_get m j hj] at hv
  injection hv with hv
  subst hv
  rw [Nat.zero_add]
  by_cases e : j = 31
  · subst e
    have h0 := h 31 _ (bl_get n 31 (by decide))
    simp only [Nat.zero_add] at h0
    simp [go_sem, h0, top]
  · have h0 := h j _ (bl_get n j hj)
    rw [Nat.zero_add] at h0
    rw [World.cell?_setCell_other]
    · rw [h0, hl j (by omega)]
    · intro e2
      injection e2 with _ e3 _
      omega
theorem cell_top {w : World} {b n : Nat} (h : w.rangeAt b 0 (bl n)) : w.cell? ⟨b, 31, none⟩ = some (.int .u8 (top n)) := by
  have h0 := h 31 _ (bl_get n 31 (by decide))
  rw [Nat.zero_add] at h0
  exact h0

theorem ne_of_fresh {w : World} {b c n : Nat} (h : w.rangeAt b 0 (bl n)) (hf : w.heap.size ≤ c) : b ≠ c := by
  have : b < w.heap.size := block_lt_of_cell (cell_top h)
  omega
theorem there_31 {w : World} {b : Nat} (h : w.there b 0 32) : w.there b 31 1 := by
  intro j hj
  have : j = 0 := by omega
  subst this
  exact h 31 (by decide)
end Go.Proofs.YtkegcilcapnpdaaDoor

namespace Go.Proofs.YtkegcilcapnpdaaDoor
open Go.RowKit Go.Shelf FieldNum

/-- how far the bytes of n are laid -/
structure NR (w0 : World) (g r n k : Nat) (wr : World) : Prop where
  lo : ∀ j, j < k → wr.cell? ⟨g, j, none⟩ = some (.int .u8 ((n / 256 ^ j % 256 : Nat) : Int))
  hi : ∀ j, k ≤ j → j < 32 → wr.cell? ⟨g, j, none⟩ = some (.int .u8 0)
  fr : ∀ j, wr.frozen? ⟨g, j, none⟩ = false
  tr : wr.there r 0 32
  ne : g ≠ r
  fg : w0.heap.size ≤ g
  f2 : w0.heap.size ≤ r
  gw : Grown w0 wr

theorem NR.step {w0 wr : World} {g r n k : Nat} (h : NR w0 g r n k wr) (hk : k < 32) : NR w0 g r n (k + 1) (wr.setCell ⟨g, k, none⟩ (.int .u8 ((n / 256 ^ k % 256 : Nat) : Int))) := by
  have hne : ∀ j v, j ≠ k → (wr.setCell ⟨g, k, none⟩ v).cell? ⟨g, j, none⟩ = wr.cell? ⟨g, j, none⟩ := fun j v hj => set_other _ _ _ _ _ hj
  refine ⟨fun j hj => ?_, fun j h1 h2 => ?_, fun j => (World.frozen?_setCell _ _ _ _).trans (h.fr j), there_setCell h.tr _ _, h.ne, h.fg, h.f2, Grown.setCell h.gw h.fg _⟩
  · by_cases e : j = k
    · subst e
      have := h.hi j (Nat.le_refl _) hk
      simp [go_sem, this]
    · rw [hne j _ e]; exact h.lo j (by omega)
  · rw [hne j _ (by omega)]; exact h.hi j (by omega) h2

theorem NR.done {w0 wr : World} {g r n : Nat} (h : NR w0 g r n 6 wr) (hn : n < 281474976710656) : wr.rangeAt g 0 (bl n) := by
  intro j v hv
  have hj : j < 32 := by have := lt_of_get hv; rwa [bl_length] at this
  rw [bl_get n j hj] at hv
  injection hv with hv
  subst hv
  rw [Nat.zero_add]
  by_cases e : j < 6
  · exact h.lo j e
  · rw [h.hi j (by omega) hj]
    have : n / 256 ^ j = 0 := by
      apply Nat.div_eq_of_lt
      refine Nat.lt_of_lt_of_le hn ?_
      exact Nat.le_trans (by decide : 281474976710656 ≤ 256 ^ 6) (Nat.pow_le_pow_right (by decide) (by omega))
    rw [this]; rfl

theorem frozen_past {w : World} {b j : Nat} (h : w.heap.size ≤ b) : w.frozen? ⟨b, j, none⟩ = false := by
  simp [World.frozen?, Array.getElem?_eq_none h]

theorem Ob.newz {P : Program} {l : List Oper} {pl : List Plan} {a0 : Act} {W0 : World} {fb fo : Nat} {fcs : (Nat → Nat) → List Value} {β : Nat → Nat} {o : Oper} {T : TypeId} (cs : List Value) (hw : Region.wanted o (yielded l.toArray (finAct l pl a0 β).tmps) = true) (ho : o.op = .alloc T) (hz : ∀ w, (zeroValue T).run P w = .ok (.agg cs.toArray) w) :
    Ob P l pl a0 W0 fb fo fcs β o (.box T cs) :=
  ⟨hw, fun w => by
    unfold execOp
    simp only [ho, Sem.run_bind, run_allocT hz, Result.andThen_ok, Sem.run_pure]⟩

theorem NR.start {w w1 w2 : World} {g r n : Nat} (hr : w2.rangeAt g 0 (bl 0)) (hf : w1.heap.size ≤ g) (ht : w1.there r 0 32) (hfr : w.heap.size ≤ r) (h1 : Grown w w1) (h2 : Grown w1 w2) : NR w g r n 0 w2 := by
  refine ⟨fun j hj => by omega, fun j _ hj => ?_, fun j => ?_, there_grown ht h2, ?_, Nat.le_trans h1.2.2 hf, hfr, grown_trans h1 h2⟩
  · have := hr j _ (bl_get 0 j hj)
    rw [Nat.zero_add, Nat.zero_div] at this
    exact this
  · rw [h2.2.1]; exact frozen_past hf
  · obtain ⟨v, hv⟩ := Option.isSome_iff_exists.1 (ht 0 (by decide)).1
    have : r < w1.heap.size := block_lt_of_cell hv
    omega

set_option maxRecDepth 100000 in
set_option maxHeartbeats 1000000 in
theorem number4 (n : Nat) (hn : n < 281474976710656) (w : World) : Calls Tryd.prog 44 #[.int .i64 n] w fun e w' => e = .returned (bv n) ∧ Grown w w' := by
  have hW := Grown.refl w
  go_enter Tryd.func44, Tryd.ntmps44
  repeat ((fail_if_success (with_reducible show Code.wp _ (Code.region _ _ _) _ _ _)); go_step)
  refine wp_plain [.new 23 32] (by kernel_rfl) (fun β => ?_) (fun β w1 hD => ?_)
  · refine Obs.cons (Ob.new _ rfl rfl zero32.1 (by simp [bl_length])) ?_
    exact Obs.nil
  obtain ⟨hf_b0, ht_b0⟩ := hD.nw 0 _ _ rfl
  replace hW := grown_trans hW hD.gr
  clear hD
  simp only [finAct, putAll, valsFrom, Plan.value, Act.put, List.setIfInBounds_toArray, List.set_cons_zero, List.set_cons_succ]
  generalize β 0 = b0 at *
  repeat ((fail_if_success (with_reducible show Code.wp _ (Code.region _ _ _) _ _ _)); go_step)
  refine wp_plain [.box 23 (bl 0)] (by kernel_rfl) (fun β => ?_) (fun β w2 hD => ?_)
  · refine Obs.cons (Ob.newz (bl 0) rfl rfl zero32.1) ?_
    exact Obs.nil
  obtain ⟨hf_b1, hr_b1⟩ := hD.bx 0 _ _ rfl
  have hP0 : NR w (β 0) b0 n 0 w2 := NR.start hr_b1 hf_b1 ht_b0 hf_b0 hW hD.gr
  clear hf_b1 hr_b1 ht_b0 hf_b0 hW
  clear hD
  simp only [finAct, putAll, valsFrom, Plan.value, Act.put, List.setIfInBounds_toArray, List.set_cons_zero, List.set_cons_succ]
  generalize β 0 = b1 at *
  go_wp2
  go_loopw [4] (fun v4 wr => ∃ k : Nat, v4 = .int .i64 k ∧ k ≤ 6 ∧ NR w b1 b0 n k wr) (fun v4 _ => (6 - intOf v4).toNat)
  case atStart => exact ⟨0, rfl, by decide, hP0⟩
  case round =>
    obtain ⟨k, rfl, hk, hP⟩ := hrel
    clear hP0
    by_cases hlt : k < 6
    · have c := hP.hi k (Nat.le_refl _) (by omega)
      have f := hP.fr k
      have hS := hP.step (by omega : k < 32)
      clear hP hn
      rcases (by omega : k = 0 ∨ k = 1 ∨ k = 2 ∨ k = 3 ∨ k = 4 ∨ k = 5) with rfl | rfl | rfl | rfl | rfl | rfl
      · go_wp2
        exact ⟨⟨1, rfl, by decide, by simpa using hS⟩, by decide⟩
      · go_wp2
        exact ⟨⟨2, rfl, by decide, by simpa using hS⟩, by decide⟩
      · go_wp2
        exact ⟨⟨3, rfl, by decide, by simpa using hS⟩, by decide⟩
      · go_wp2
        exact ⟨⟨4, rfl, by decide, by simpa using hS⟩, by decide⟩
      · go_wp2
        exact ⟨⟨5, rfl, by decide, by simpa using hS⟩, by decide⟩
      · go_wp2
        exact ⟨⟨6, rfl, by decide, by simpa using hS⟩, by decide⟩
    · have h6 : k = 6 := by omega
      subst h6
      have hr := hP.done hn
      have ht := hP.tr
      have hW := hP.gw
      have hf := hP.f2
      clear hP hn
      go_wp2_with (with_reducible show wpList _ _ _ ({ dst := _, op := Op.load 23 _, type := _, pos := _, after := _, guard := _ } :: _) _ _; refine Shut.out ?_)
      show wpList _ _ _ _ _ _
      refine wpList_load32 rfl _ rfl _ rfl n hr ?_
      simp only [Act.put, List.setIfInBounds_toArray, List.set_cons_zero, List.set_cons_succ]
      refine wpList_store32 rfl _ _ rfl _ n rfl rfl ht ?_
      simp only [Act.put]
      apply wpList_nil
      repeat go_step
      refine bodyPost_ret (result32 Tryd.results44 _ _ b0 _ ?hp (World.rangeAt_setCells_same _ _ _ _ (by rw [bl_length]; exact ht))) ?hd ?_
      case hp => rfl
      case hd => rfl
      exact ⟨rfl, grown_setCells hf _ _ hW⟩
end Go.Proofs.YtkegcilcapnpdaaDoor
