import Derived.Test.YtoimglbjepppmaaDoorMj
import Derived.Test.YtoimglbjepppmaaDoorMf
namespace Go.Proofs.YtoimglbjepppmaaDoor
open Go.RowKit Go.Shelf FieldNum

/-- how far the bytes of n are laid -/
structure NR (w0 : World) (g r n k : Nat) (wr : World) : Prop where
  lo : ∀ j, j < k → wr.cell? ⟨g, j, none⟩ = some (.int .u8 ((n / 256 ^ j % 256 : Nat) : Int))
  hi : ∀ j, k ≤ j → j < 32 → wr.cell? ⟨g, j, none⟩ = some (.int .u8 0)
  fr : ∀ j, wr.frozen? ⟨g, j, none⟩ = false
  tr : wr.there r 0 32
  ne : g ≠ r
  fg : w0.heap.size ≤ g
  f2 : w0.heap.size ≤ r
  gw : Grown w0 wr

theorem NR.step {w0 wr : World} {g r n k : Nat} (h : NR w0 g r n k wr) (hk : k < 32) : NR w0 g r n (k + 1) (wr.setCell ⟨g, k, none⟩ (.int .u8 ((n / 256 ^ k % 256 : Nat) : Int))) := by
  have hne : ∀ j v, j ≠ k → (wr.setCell ⟨g, k, none⟩ v).cell? ⟨g, j, none⟩ = wr.cell? ⟨g, j, none⟩ := fun j v hj => set_other _ _ _ _ _ hj
  refine ⟨fun j hj => ?_, fun j h1 h2 => ?_, fun j => (World.frozen?_setCell _ _ _ _).trans (h.fr j), there_setCell h.tr _ _, h.ne, h.fg, h.f2, Grown.setCell h.gw h.fg _⟩
  · by_cases e : j = k
    · subst e
      have := h.hi j (Nat.le_refl _) hk
      simp [go_sem, this]
    · rw [hne j _ e]; exact h.lo j (by omega)
  · rw [hne j _ (by omega)]; exact h.hi j (by omega) h2

theorem NR.done {w0 wr : World} {g r n : Nat} (h : NR w0 g r n 6 wr) (hn : n < 281474976710656) : wr.rangeAt g 0 (bl n) := by
  intro j v hv
  have hj : j < 32 := by have := lt_of_get hv; rwa [bl_length] at this
  rw [bl_get n j hj] at hv
  injection hv with hv
  subst hv
  rw [Nat.zero_add]
  by_cases e : j < 6
  · exact h.lo j e
  · rw [h.hi j (by omega) hj]
    have : n / 256 ^ j = 0 := by
      apply Nat.div_eq_of_lt
      refine Nat.lt_of_lt_of_le hn ?_
      exact Nat.le_trans (by decide : 281474976710656 ≤ 256 ^ 6) (Nat.pow_le_pow_right (by decide) (by omega))
    rw [this]; rfl

theorem frozen_past {w : World} {b j : Nat} (h : w.heap.size ≤ b) : w.frozen? ⟨b, j, none⟩ = false := by
  simp [World.frozen?, Array.getElem?_eq_none h]

theorem Ob.newz {P : Program} {l : List Oper} {pl : List Plan} {a0 : Act} {W0 : World} {fb fo : Nat} {fcs : (Nat → Nat) → List Value} {β : Nat → Nat} {o : Oper} {T : TypeId} (cs : List Value) (hw : Region.wanted o (yielded l.toArray (finAct l pl a0 β).tmps) = true) (ho : o.op = .alloc T) (hz : ∀ w, (zeroValue T).run P w = .ok (.agg cs.toArray) w) :
    Ob P l pl a0 W0 fb fo fcs β o (.box T cs) :=
  ⟨hw, fun w => by
    unfold execOp
    simp only [ho, Sem.run_bind, run_allocT hz, Result.andThen_ok, Sem.run_pure]⟩

theorem NR.start {w w1 w2 : World} {g r n : Nat} (hr : w2.rangeAt g 0 (bl 0)) (hf : w1.heap.size ≤ g) (ht : w1.there r 0 32) (hfr : w.heap.size ≤ r) (h1 : Grown w w1) (h2 : Grown w1 w2) : NR w g r n 0 w2 := by
  refine ⟨fun j hj => by omega, fun j _ hj => ?_, fun j => ?_, there_grown ht h2, ?_, Nat.le_trans h1.2.2 hf, hfr, grown_trans h1 h2⟩
  · have := hr j _ (bl_get 0 j hj)
    rw [Nat.zero_add, Nat.zero_div] at this
    exact this
  · rw [h2.2.1]; exact frozen_past hf
  · obtain ⟨v, hv⟩ := Option.isSome_iff_exists.1 (ht 0 (by decide)).1
    have : r < w1.heap.size := block_lt_of_cell hv
    omega

set_option maxRecDepth 100000 in
set_option maxHeartbeats 1000000 in
theorem number4 (n : Nat) (hn : n < 281474976710656) (w : World) : Calls Tryd.prog 30 #[.int .i64 n] w fun e w' => e = .returned (bv n) ∧ Grown w w' := by
  have hW := Grown.refl w
  go_enter Tryd.func30, Tryd.ntmps30
  repeat ((fail_if_success (with_reducible show Code.wp _ (Code.region _ _ _) _ _ _)); go_step)
  refine wp_plain [.new 23 32] (by kernel_rfl) (fun β => ?_) (fun β w1 hD => ?_)
  · refine Obs.cons (Ob.new _ rfl rfl zero32.1 (by simp [bl_length])) ?_
    exact Obs.nil
  obtain ⟨hf_b0, ht_b0⟩ := hD.nw 0 _ _ rfl
  replace hW := grown_trans hW hD.gr
  clear hD
  simp only [finAct, putAll, valsFrom, Plan.value, Act.put, List.setIfInBounds_toArray, List.set_cons_zero, List.set_cons_succ]
  generalize β 0 = b0 at *
  repeat ((fail_if_success (with_reducible show Code.wp _ (Code.region _ _ _) _ _ _)); go_step)
  refine wp_plain [.box 23 (bl 0)] (by kernel_rfl) (fun β => ?_) (fun β w2 hD => ?_)
  · refine Obs.cons (Ob.newz (bl 0) rfl rfl zero32.1) ?_
    exact Obs.nil
  obtain ⟨hf_b1, hr_b1⟩ := hD.bx 0 _ _ rfl
  have hP0 : NR w (β 0) b0 n 0 w2 := NR.start hr_b1 hf_b1 ht_b0 hf_b0 hW hD.gr
  clear hf_b1 hr_b1 ht_b0 hf_b0 hW
  clear hD
  simp only [finAct, putAll, valsFrom, Plan.value, Act.put, List.setIfInBounds_toArray, List.set_cons_zero, List.set_cons_succ]
  generalize β 0 = b1 at *
  go_wp2
  go_loopw [4] (fun v4 wr => ∃ k : Nat, v4 = .int .i64 k ∧ k ≤ 6 ∧ NR w b1 b0 n k wr) (fun v4 _ => (6 - intOf v4).toNat)
  case atStart => exact ⟨0, rfl, by decide, hP0⟩
  case round =>
    obtain ⟨k, rfl, hk, hP⟩ := hrel
    clear hP0
    by_cases hlt : k < 6
    · have c := hP.hi k (Nat.le_refl _) (by omega)
      have f := hP.fr k
      have hS := hP.step (by omega : k < 32)
      clear hP hn
      rcases (by omega : k = 0 ∨ k = 1 ∨ k = 2 ∨ k = 3 ∨ k = 4 ∨ k = 5) with rfl | rfl | rfl | rfl | rfl | rfl
      · go_wp2
        exact ⟨⟨1, rfl, by decide, by simpa using hS⟩, by decide⟩
      · go_wp2
        exact ⟨⟨2, rfl, by decide, by simpa using hS⟩, by decide⟩
      · go_wp2
        exact ⟨⟨3, rfl, by decide, by simpa using hS⟩, by decide⟩
      · go_wp2
        exact ⟨⟨4, rfl, by decide, by simpa using hS⟩, by decide⟩
      · go_wp2
        exact ⟨⟨5, rfl, by decide, by simpa using hS⟩, by decide⟩
      · go_wp2
        exact ⟨⟨6, rfl, by decide, by simpa using hS⟩, by decide⟩
    · have h6 : k = 6 := by omega
      subst h6
      have hr := hP.done hn
      have ht := hP.tr
      have hW := hP.gw
      have hf := hP.f2
      clear hP hn
      go_wp2_with (with_reducible show wpList _ _ _ ({ dst := _, op := Op.load 23 _, type := _, pos := _, after := _, guard := _ } :: _) _ _; refine Shut.out ?_)
      show wpList _ _ _ _ _ _
      refine wpList_load32 rfl _ rfl _ rfl n hr ?_
      simp only [Act.put, List.setIfInBounds_toArray, List.set_cons_zero, List.set_cons_succ]
      refine wpList_store32 rfl _ _ rfl _ n rfl rfl ht ?_
      simp only [Act.put]
      apply wpList_nil
      repeat go_step
      refine bodyPost_ret (result32 Tryd.results30 _ _ b0 _ ?hp (World.rangeAt_setCells_same _ _ _ _ (by rw [bl_length]; exact ht))) ?hd ?_
      case hp => rfl
      case hd => rfl
      exact ⟨rfl, grown_setCells hf _ _ hW⟩
end Go.Proofs.YtoimglbjepppmaaDoor

namespace FieldNum

theorem rt_root {u v : Nat} (h : rok u v) : RootOf u v (rt u v) := by
  have key : ∃ z, v * (z * z) % p = u % p ∧ (u % p = 0 → z % p = 0) := by
    have hs := root_sq (u := u) (v := v) (w := u * v ^ 7) (r := u * v ^ 3 * rp (u * v ^ 7)) (s := v * ((u * v ^ 3 * rp (u * v ^ 7)) * (u * v ^ 3 * rp (u * v ^ 7)))) rfl rfl rfl
    have h0 : u % p = 0 → u * v ^ 3 * rp (u * v ^ 7) % p = 0 := by
      intro hu
      rw [Nat.mul_assoc, Nat.mul_mod, hu]; simp
    generalize u * v ^ 3 * rp (u * v ^ 7) = r at *
    rcases root_found h hs with e | e
    · exact ⟨r, e, h0⟩
    · exact ⟨r * Im, root_turn e rfl, fun hu => by rw [Nat.mul_mod, h0 hu]; simp⟩
  obtain ⟨z, h1, h2⟩ := key
  by_cases ho : z % p % 2 = 1
  · have := root_odd h1 h2 ho
    rw [rt_eq this]; exact this
  · have := root_even h1 h2 ho
    rw [rt_eq this]; exact this
end FieldNum
namespace Go.Proofs.YtoimglbjepppmaaDoor
open Go.RowKit Go.Shelf FieldNum

/-- the law's own number under Legendre's symbol -/
def fleg (e e1 y : Nat) : Int := leg (fmul (fmul (sb (fmul y y) 1) e) (fmul e (fadd (fmul (fmul y y) (ng (fmul e1 (inv e)))) 1)))
theorem forms_leg' (e : Nat) (hk : leg e * leg e = 1) (y : Nat) : leg ((uu y * e % p) * (e * ((y * y % p * dd % p + 1) % p) % p) % p) = leg (uu y * vv y) := by
  rw [leg_mul, leg_mod, leg_mod, leg_mul', leg_mul' e, leg_mul' (uu y)]
  have e1 : (y * y % p * dd % p + 1) % p = vv y := by unfold vv; rw [Nat.mul_comm dd]
  rw [e1]
  generalize leg e = k at *
  generalize leg (uu y) = a
  generalize leg (vv y) = b
  grind
theorem fleg_eq0 (e e1 y : Nat) (hk : leg e * leg e = 1) (hd : ng (e1 * inv e % p) = dd) : fleg e e1 y = leg (uu y * vv y) := by
  rw [← forms_leg' e hk y]
  unfold fleg fmul fadd uu
  rw [hd]
theorem fleg_eq {e e1 : Nat} (he : Hid (e = 121666)) (he1 : Hid (e1 = 121665)) (y : Nat) : fleg e e1 y = leg (uu y * vv y) :=
  fleg_eq0 e e1 y (by rw [he.out]; exact leg_k) (by rw [he.out, he1.out]; exact dd_frac)
theorem fleg_neg {e e1 : Nat} (he : Hid (e = 121666)) (he1 : Hid (e1 = 121665)) (y : Nat) : fleg e e1 y < 0 ↔ ¬ rok (uu y) (vv y) := by rw [fleg_eq he he1]; exact leg_neg_iff (vv_ne y)
theorem fleg_zero {e e1 : Nat} (he : Hid (e = 121666)) (he1 : Hid (e1 = 121665)) (y : Nat) : fleg e e1 y = 0 ↔ uu y % p = 0 := by rw [fleg_eq he he1]; exact leg_zero_uv (vv_ne y)
theorem number4v (n : Nat) (i : Int) (hi : i = (n : Int)) (hn : n < 281474976710656) (w : World) : Calls Tryd.prog 30 #[.int .i64 i] w fun e w' => e = .returned (bv n) ∧ Grown w w' := by
  rw [hi]; exact number4 n hn w

/-- the double of the base point -/
def B2x : Nat := 24727413235106541002554574571675588834622768167397638456726423682521233608206
def B2y : Nat := 15549675580280190176352668710449542251549572066445060580507079593062643049417
theorem dbZ_base : inv (dbZ Bx By 1) = 11821405566318046959426517187449467202305020263187074292011644136551774483760 := base_iz
theorem B2x_eq : fmul (dbX Bx By 1) (inv (dbZ Bx By 1)) = B2x := by rw [dbZ_base]; decide +kernel
theorem B2y_eq : fmul (dbY Bx By) (inv (dbZ Bx By 1)) = B2y := by rw [dbZ_base]; decide +kernel
theorem isP_B : isP Bx By := by decide +kernel
theorem isP_B2 : isP B2x B2y := by decide +kernel
theorem Bx_M : Bx < M := by decide +kernel
theorem By_M : By < M := by decide +kernel
theorem B2x_M : B2x < M := by decide +kernel
theorem B2y_M : B2y < M := by decide +kernel
theorem Double_base (w : World) (hGl0 : G2 w) : Calls Tryd.prog 42 #[pv Bx By] w fun ex w' => ex = .returned (.tuple #[pv B2x B2y, .int .i64 0]) ∧ Grown w w' := by
  have h := Double_1 Bx By Bx_M By_M isP_B w hGl0
  rw [B2x_eq, B2y_eq] at h
  exact h

/-- what Decode answers is a point -/
theorem isP_rt {y : Nat} (hy : y < p) (hr : rok (uu y) (vv y)) : isP (rt (uu y) (vv y)) y := by
  obtain ⟨h1, _, h3, _⟩ := rt_root hr
  exact ⟨h1, hy, on_of_root h3⟩
theorem isP_ng {y : Nat} (hy : y < p) (hr : rok (uu y) (vv y)) : isP (ng (rt (uu y) (vv y))) y := by
  obtain ⟨_, _, h3, _⟩ := rt_root hr
  exact ⟨ng_lt _, hy, on_of_root (root_neg h3)⟩
theorem even_rt {y : Nat} (hr : rok (uu y) (vv y)) : ¬ rt (uu y) (vv y) % p % 2 = 1 := by
  obtain ⟨h1, h2, _, _⟩ := rt_root hr
  rw [Nat.mod_eq_of_lt h1]; omega
theorem odd_ng {y : Nat} (hr : rok (uu y) (vv y)) (h0 : ¬ rt (uu y) (vv y) = 0) : ng (rt (uu y) (vv y)) % p % 2 = 1 := by
  obtain ⟨h1, h2, _, _⟩ := rt_root hr
  rw [Nat.mod_eq_of_lt (ng_lt _)]
  exact ng_odd h1 h0 h2
theorem rt_zero {y : Nat} (hr : rok (uu y) (vv y)) : rt (uu y) (vv y) = 0 ↔ uu y % p = 0 := root_zero (rt_root hr)
theorem rok_zero {y : Nat} (h : uu y % p = 0) : rok (uu y) (vv y) := .inl h
theorem p_lt_H : p < H := by decide +kernel
theorem yH_lt {y : Nat} (hy : y < p) : y + H < M := by
  have h1 := p_lt_H
  have h2 : H + H = M := by decide +kernel
  omega
theorem yH_mod {y : Nat} (hy : y < p) : (y + H) % H = y := by
  rw [Nat.add_mod_right]; exact Nat.mod_eq_of_lt (Nat.lt_trans hy p_lt_H)
theorem top_yH {y : Nat} (hy : y < p) : top (y + H) = top y + 128 := by
  have h1 : y < H := Nat.lt_trans hy p_lt_H
  have h2 : top y < 128 := (top_big (Nat.lt_trans h1 (by decide))).2 h1
  have h3 := top_low (y + H)
  rw [yH_mod hy] at h3
  have h4 := top_lt (y + H)
  have h5 : ¬ top (y + H) < 128 := fun h => by
    have := (top_big (yH_lt hy)).1 h
    omega
  omega
theorem low_yH {y : Nat} (hy : y < p) (i : Nat) (hi : i < 31) : (y + H) / 256 ^ i % 256 = y / 256 ^ i % 256 := by
  have := low_byte (y + H) i hi
  rw [yH_mod hy] at this
  exact this.symm
theorem or_y {y : Nat} (hy : y < p) : bits .or .u8 (top y) (128 : Nat) = (top (y + H) : Nat) := by
  have h1 : y < H := Nat.lt_trans hy p_lt_H
  have h2 : top y < 128 := (top_big (Nat.lt_trans h1 (by decide))).2 h1
  rw [top_yH hy]
  exact or128 ⟨top y, top_lt y⟩ h2
theorem b_eq {b : Nat} (hb : b < M) (hs : ¬ b < H) : b % H + H = b := by
  have h2 : H + H = M := by decide +kernel
  have h3 : b / H = 1 := by
    apply Nat.div_eq_of_lt_le <;> omega
  have := Nat.mod_add_div b H
  rw [h3] at this
  omega
end Go.Proofs.YtoimglbjepppmaaDoor

namespace Go.Proofs.YtoimglbjepppmaaDoor
open Go.RowKit Go.Shelf FieldNum

set_option maxRecDepth 100000 in
set_option maxHeartbeats 2000000 in
theorem E_off (x y : Nat) (hx : x < M) (hy : y < M) (ho : ¬ isP x y) (w : World) (hGl0 : G2 w) :
    Calls Tryd.prog 33 #[pv x y] w fun e w' => e = .returned (.tuple #[bv 0, .int .i64 43]) ∧ Grown w w' := by
  have hW := Grown.refl w
  have hGl := hGl0
  go_enter Tryd.func33, Tryd.ntmps33
  repeat ((fail_if_success (with_reducible show Code.wp _ (Code.region _ _ _) _ _ _)); go_step)
  refine wp_plain [.box 37 (pcs (x) (y)), .new 23 32, .imm (.int .i64 (0))] (by kernel_rfl) (fun β => ?_) (fun β w1 hD => ?_)
  · refine Obs.cons (Ob.box rfl rfl (by kernel_rfl)) ?_
    refine Obs.cons (Ob.new _ rfl rfl zero32.1 (by simp [bl_length])) ?_
    refine Obs.cons (Ob.imm rfl (fun w => by kernel_rfl)) ?_
    exact Obs.nil
  obtain ⟨hf_b0, hr_b0⟩ := hD.bx 0 _ _ rfl
  replace hf_b0 := Nat.le_trans hW.2.2 hf_b0
  obtain ⟨hf_b1, ht_b1⟩ := hD.nw 1 _ _ rfl
  replace hf_b1 := Nat.le_trans hW.2.2 hf_b1
  replace hW := grown_trans hW hD.gr
  clear hD
  simp only [finAct, putAll, valsFrom, Plan.value, Act.put, List.setIfInBounds_toArray, List.set_cons_zero, List.set_cons_succ]
  replace hGl := hGl0.grown hW
  generalize β 0 = b0 at *
  generalize β (0 + 1) = b1 at *
  have hr_b0x : w1.rangeAt b0 0 (bl (x)) := rangeAt_left hr_b0
  have hr_b0y : w1.rangeAt b0 32 (bl (y)) := rangeAt_right 32 (bl_length _) hr_b0
  repeat ((fail_if_success (with_reducible show Code.wp _ (Code.region _ _ _) _ _ _)); go_step)
  refine wp_plain [.val (pv (x) (y)), .val (.bool false), .imm (.bool true)] (by kernel_rfl) (fun β => ?_) (fun β w2 hD => ?_)
  · refine Obs.cons (Ob.load (b0) 0 (pcs (x) (y)) rfl rfl (by kernel_rfl) hr_b0 Tryd.underlying37 rfl (by rw [pcs_length]; exact infoP)) ?_
    refine Obs.cons (Ob.call 34 #[pv (x) (y)] rfl (fun w => by kernel_rfl) (fun w hg => On_is (x) (y) hx hy false (decide_eq_false ho) w (hGl.grown hg).g2)) ?_
    refine Obs.cons (Ob.imm rfl (fun w => by kernel_rfl)) ?_
    exact Obs.nil
  replace hr_b0 := rangeAt_grown hr_b0 hD.gr
  replace hr_b0x := rangeAt_grown hr_b0x hD.gr
  replace hr_b0y := rangeAt_grown hr_b0y hD.gr
  replace ht_b1 := there_grown ht_b1 hD.gr
  replace hW := grown_trans hW hD.gr
  clear hD
  simp only [finAct, putAll, valsFrom, Plan.value, Act.put, List.setIfInBounds_toArray, List.set_cons_zero, List.set_cons_succ]
  replace hGl := hGl0.grown hW
  repeat ((fail_if_success (with_reducible show Code.wp _ (Code.region _ _ _) _ _ _)); go_step)
  refine wp_plain_fin [.imm (bv (0)), .fin, .imm (.int .i64 (43))] (b1) 0 (fun _ => bl (0)) (by kernel_rfl) (fun β => ?_) (fun β w3 hD => ?_)
  · refine Obs.cons (Ob.imm rfl (fun w => exec_build rfl (by kernel_rfl) (build_b0 w))) ?_
    refine Obs.cons (Ob.fin rfl (by rw [bl_length]; exact ht_b1) rfl (by kernel_rfl) (by kernel_rfl) (by rw [bl_length]; exact info32) (bl_one _)) ?_
    refine Obs.cons (Ob.imm rfl (fun w => by kernel_rfl)) ?_
    exact Obs.nil
  replace hr_b0 := rangeAt_grown hr_b0 hD.gr
  replace hr_b0x := rangeAt_grown hr_b0x hD.gr
  replace hr_b0y := rangeAt_grown hr_b0y hD.gr
  replace ht_b1 := there_grown ht_b1 hD.gr
  replace hW := grown_trans hW hD.gr
  clear hD
  simp only [finAct, putAll, valsFrom, Plan.value, Act.put, List.setIfInBounds_toArray, List.set_cons_zero, List.set_cons_succ]
  replace hGl := hGl0.grown hW
  have hs3 := World.rangeAt_setCells_same w3 (b1) 0 (bl (0)) (by rw [bl_length]; exact ht_b1)
  replace hW := grown_setCells hf_b1 (bl (0)) 0 hW
  generalize w3.setCells (b1) 0 (bl (0)) = w3s at *
  repeat go_step
  refine bodyPost_ret (v := .tuple #[bv (0), .int .i64 (43)]) (result_cell_tmp Tryd.results33 _ _ (b1) _ (.int .i64 (43)) ?hp ?hv hs3 Tryd.underlying23 rfl (by rw [bl_length]; exact info32)) ?hd ?_
  case hp => rfl
  case hv => rfl
  case hd => rfl
  exact ⟨rfl, hW⟩

set_option maxRecDepth 100000 in
set_option maxHeartbeats 2000000 in
theorem E_even (x y : Nat) (hx : x < M) (hy : y < M) (ho : isP x y) (he : ¬ x % p % 2 = 1) (w : World) (hGl0 : G2 w) :
    Calls Tryd.prog 33 #[pv x y] w fun e w' => e = .returned (.tuple #[bv y, .int .i64 0]) ∧ Grown w w' := by
  have hW := Grown.refl w
  have hGl := hGl0
  go_enter Tryd.func33, Tryd.ntmps33
  repeat ((fail_if_success (with_reducible show Code.wp _ (Code.region _ _ _) _ _ _)); go_step)
  refine wp_plain [.box 37 (pcs (x) (y)), .new 23 32, .imm (.int .i64 (0))] (by kernel_rfl) (fun β => ?_) (fun β w1 hD => ?_)
  · refine Obs.cons (Ob.box rfl rfl (by kernel_rfl)) ?_
    refine Obs.cons (Ob.new _ rfl rfl zero32.1 (by simp [bl_length])) ?_
    refine Obs.cons (Ob.imm rfl (fun w => by kernel_rfl)) ?_
    exact Obs.nil
  obtain ⟨hf_b0, hr_b0⟩ := hD.bx 0 _ _ rfl
  replace hf_b0 := Nat.le_trans hW.2.2 hf_b0
  obtain ⟨hf_b1, ht_b1⟩ := hD.nw 1 _ _ rfl
  replace hf_b1 := Nat.le_trans hW.2.2 hf_b1
  replace hW := grown_trans hW hD.gr
  clear hD
  simp only [finAct, putAll, valsFrom, Plan.value, Act.put, List.setIfInBounds_toArray, List.set_cons_zero, List.set_cons_succ]
  replace hGl := hGl0.grown hW
  generalize β 0 = b0 at *
  generalize β (0 + 1) = b1 at *
  have hr_b0x : w1.rangeAt b0 0 (bl (x)) := rangeAt_left hr_b0
  have hr_b0y : w1.rangeAt b0 32 (bl (y)) := rangeAt_right 32 (bl_length _) hr_b0
  repeat ((fail_if_success (with_reducible show Code.wp _ (Code.region _ _ _) _ _ _)); go_step)
  refine wp_plain [.val (pv (x) (y)), .val (.bool true), .imm (.bool false)] (by kernel_rfl) (fun β => ?_) (fun β w2 hD => ?_)
  · refine Obs.cons (Ob.load (b0) 0 (pcs (x) (y)) rfl rfl (by kernel_rfl) hr_b0 Tryd.underlying37 rfl (by rw [pcs_length]; exact infoP)) ?_
    refine Obs.cons (Ob.call 34 #[pv (x) (y)] rfl (fun w => by kernel_rfl) (fun w hg => On_is (x) (y) hx hy true (decide_eq_true ho) w (hGl.grown hg).g2)) ?_
    refine Obs.cons (Ob.imm rfl (fun w => by kernel_rfl)) ?_
    exact Obs.nil
  replace hr_b0 := rangeAt_grown hr_b0 hD.gr
  replace hr_b0x := rangeAt_grown hr_b0x hD.gr
  replace hr_b0y := rangeAt_grown hr_b0y hD.gr
  replace ht_b1 := there_grown ht_b1 hD.gr
  replace hW := grown_trans hW hD.gr
  clear hD
  simp only [finAct, putAll, valsFrom, Plan.value, Act.put, List.setIfInBounds_toArray, List.set_cons_zero, List.set_cons_succ]
  replace hGl := hGl0.grown hW
  repeat ((fail_if_success (with_reducible show Code.wp _ (Code.region _ _ _) _ _ _)); go_step)
  refine wp_plain [.imm (.pointer (some ⟨b0, 32, none⟩)), .val (bv (y)), .new 23 32, .put 2 2 (fun _ => bl (y))] (by kernel_rfl) (fun β => ?_) (fun β w3 hD => ?_)
  · refine Obs.cons (Ob.imm rfl (fun w => by kernel_rfl)) ?_
    refine Obs.cons (Ob.load (b0) 32 (bl (y)) rfl rfl (by kernel_rfl) hr_b0y Tryd.underlying23 rfl (by rw [bl_length]; exact info32)) ?_
    refine Obs.cons (Ob.new _ rfl rfl zero32.1 (by simp [bl_length])) ?_
    refine Obs.cons (Ob.put 23 rfl rfl rfl (by kernel_rfl) (by kernel_rfl) (by rw [bl_length]; exact info32) (bl_one _)) ?_
    exact Obs.nil
  replace hr_b0 := rangeAt_grown hr_b0 hD.gr
  replace hr_b0x := rangeAt_grown hr_b0x hD.gr
  replace hr_b0y := rangeAt_grown hr_b0y hD.gr
  replace ht_b1 := there_grown ht_b1 hD.gr
  obtain ⟨hf_b2, ht_b2⟩ := hD.nw 2 _ _ rfl
  have hr_b2 : w3.rangeAt (β 2) 0 (bl (y)) := hD.rg 3 2 2 (fun _ => bl (y)) rfl
  replace hf_b2 := Nat.le_trans hW.2.2 hf_b2
  replace hW := grown_trans hW hD.gr
  clear hD
  simp only [finAct, putAll, valsFrom, Plan.value, Act.put, List.setIfInBounds_toArray, List.set_cons_zero, List.set_cons_succ]
  replace hGl := hGl0.grown hW
  generalize β (0 + 1 + 1) = b2 at *
  repeat ((fail_if_success (with_reducible show Code.wp _ (Code.region _ _ _) _ _ _)); go_step)
  refine wp_plain [.imm (.pointer (some ⟨b0, 0, none⟩)), .val (bv (x)), .val (.bool false)] (by kernel_rfl) (fun β => ?_) (fun β w4 hD => ?_)
  · refine Obs.cons (Ob.imm rfl (fun w => by kernel_rfl)) ?_
    refine Obs.cons (Ob.load (b0) 0 (bl (x)) rfl rfl (by kernel_rfl) hr_b0x Tryd.underlying23 rfl (by rw [bl_length]; exact info32)) ?_
    refine Obs.cons (Ob.call 35 #[bv (x)] rfl (fun w => by kernel_rfl) (fun w hg => odd_is (x) hx false (decide_eq_false he) w)) ?_
    exact Obs.nil
  replace hr_b0 := rangeAt_grown hr_b0 hD.gr
  replace hr_b0x := rangeAt_grown hr_b0x hD.gr
  replace hr_b0y := rangeAt_grown hr_b0y hD.gr
  replace hr_b2 := rangeAt_grown hr_b2 hD.gr
  replace ht_b1 := there_grown ht_b1 hD.gr
  replace ht_b2 := there_grown ht_b2 hD.gr
  replace hW := grown_trans hW hD.gr
  clear hD
  simp only [finAct, putAll, valsFrom, Plan.value, Act.put, List.setIfInBounds_toArray, List.set_cons_zero, List.set_cons_succ]
  replace hGl := hGl0.grown hW
  repeat ((fail_if_success (with_reducible show Code.wp _ (Code.region _ _ _) _ _ _)); go_step)
  refine wp_plain_fin [.val (bv (y)), .fin, .imm (.int .i64 (0))] (b1) 0 (fun _ => bl (y)) (by kernel_rfl) (fun β => ?_) (fun β w5 hD => ?_)
  · refine Obs.cons (Ob.load (b2) 0 (bl (y)) rfl rfl (by kernel_rfl) hr_b2 Tryd.underlying23 rfl (by rw [bl_length]; exact info32)) ?_
    refine Obs.cons (Ob.fin rfl (by rw [bl_length]; exact ht_b1) rfl (by kernel_rfl) (by kernel_rfl) (by rw [bl_length]; exact info32) (bl_one _)) ?_
    refine Obs.cons (Ob.imm rfl (fun w => by kernel_rfl)) ?_
    exact Obs.nil
  replace hr_b0 := rangeAt_grown hr_b0 hD.gr
  replace hr_b0x := rangeAt_grown hr_b0x hD.gr
  replace hr_b0y := rangeAt_grown hr_b0y hD.gr
  replace hr_b2 := rangeAt_grown hr_b2 hD.gr
  replace ht_b1 := there_grown ht_b1 hD.gr
  replace ht_b2 := there_grown ht_b2 hD.gr
  replace hW := grown_trans hW hD.gr
  clear hD
  simp only [finAct, putAll, valsFrom, Plan.value, Act.put, List.setIfInBounds_toArray, List.set_cons_zero, List.set_cons_succ]
  replace hGl := hGl0.grown hW
  have hs5 := World.rangeAt_setCells_same w5 (b1) 0 (bl (y)) (by rw [bl_length]; exact ht_b1)
  replace hW := grown_setCells hf_b1 (bl (y)) 0 hW
  generalize w5.setCells (b1) 0 (bl (y)) = w5s at *
  repeat go_step
  refine bodyPost_ret (v := .tuple #[bv (y), .int .i64 (0)]) (result_cell_tmp Tryd.results33 _ _ (b1) _ (.int .i64 (0)) ?hp ?hv hs5 Tryd.underlying23 rfl (by rw [bl_length]; exact info32)) ?hd ?_
  case hp => rfl
  case hv => rfl
  case hd => rfl
  exact ⟨rfl, hW⟩

set_option maxRecDepth 100000 in
set_option maxHeartbeats 2000000 in
theorem E_odd (x y : Nat) (hx : x < M) (hy : y < M) (ho : isP x y) (he : x % p % 2 = 1) (w : World) (hGl0 : G2 w) :
    Calls Tryd.prog 33 #[pv x y] w fun e w' => e = .returned (.tuple #[bv (y + H), .int .i64 0]) ∧ Grown w w' := by
  have hW := Grown.refl w
  have hGl := hGl0
  go_enter Tryd.func33, Tryd.ntmps33
  repeat ((fail_if_success (with_reducible show Code.wp _ (Code.region _ _ _) _ _ _)); go_step)
  refine wp_plain [.box 37 (pcs (x) (y)), .new 23 32, .imm (.int .i64 (0))] (by kernel_rfl) (fun β => ?_) (fun β w1 hD => ?_)
  · refine Obs.cons (Ob.box rfl rfl (by kernel_rfl)) ?_
    refine Obs.cons (Ob.new _ rfl rfl zero32.1 (by simp [bl_length])) ?_
    refine Obs.cons (Ob.imm rfl (fun w => by kernel_rfl)) ?_
    exact Obs.nil
  obtain ⟨hf_b0, hr_b0⟩ := hD.bx 0 _ _ rfl
  replace hf_b0 := Nat.le_trans hW.2.2 hf_b0
  obtain ⟨hf_b1, ht_b1⟩ := hD.nw 1 _ _ rfl
  replace hf_b1 := Nat.le_trans hW.2.2 hf_b1
  replace hW := grown_trans hW hD.gr
  clear hD
  simp only [finAct, putAll, valsFrom, Plan.value, Act.put, List.setIfInBounds_toArray, List.set_cons_zero, List.set_cons_succ]
  replace hGl := hGl0.grown hW
  generalize β 0 = b0 at *
  generalize β (0 + 1) = b1 at *
  have hr_b0x : w1.rangeAt b0 0 (bl (x)) := rangeAt_left hr_b0
  have hr_b0y : w1.rangeAt b0 32 (bl (y)) := rangeAt_right 32 (bl_length _) hr_b0
  repeat ((fail_if_success (with_reducible show Code.wp _ (Code.region _ _ _) _ _ _)); go_step)
  refine wp_plain [.val (pv (x) (y)), .val (.bool true), .imm (.bool false)] (by kernel_rfl) (fun β => ?_) (fun β w2 hD => ?_)
  · refine Obs.cons (Ob.load (b0) 0 (pcs (x) (y)) rfl rfl (by kernel_rfl) hr_b0 Tryd.underlying37 rfl (by rw [pcs_length]; exact infoP)) ?_
    refine Obs.cons (Ob.call 34 #[pv (x) (y)] rfl (fun w => by kernel_rfl) (fun w hg => On_is (x) (y) hx hy true (decide_eq_true ho) w (hGl.grown hg).g2)) ?_
    refine Obs.cons (Ob.imm rfl (fun w => by kernel_rfl)) ?_
    exact Obs.nil
  replace hr_b0 := rangeAt_grown hr_b0 hD.gr
  replace hr_b0x := rangeAt_grown hr_b0x hD.gr
  replace hr_b0y := rangeAt_grown hr_b0y hD.gr
  replace ht_b1 := there_grown ht_b1 hD.gr
  replace hW := grown_trans hW hD.gr
  clear hD
  simp only [finAct, putAll, valsFrom, Plan.value, Act.put, List.setIfInBounds_toArray, List.set_cons_zero, List.set_cons_succ]
  replace hGl := hGl0.grown hW
  repeat ((fail_if_success (with_reducible show Code.wp _ (Code.region _ _ _) _ _ _)); go_step)
  refine wp_plain [.imm (.pointer (some ⟨b0, 32, none⟩)), .val (bv (y)), .new 23 32, .put 2 2 (fun _ => bl (y))] (by kernel_rfl) (fun β => ?_) (fun β w3 hD => ?_)
  · refine Obs.cons (Ob.imm rfl (fun w => by kernel_rfl)) ?_
    refine Obs.cons (Ob.load (b0) 32 (bl (y)) rfl rfl (by kernel_rfl) hr_b0y Tryd.underlying23 rfl (by rw [bl_length]; exact info32)) ?_
    refine Obs.cons (Ob.new _ rfl rfl zero32.1 (by simp [bl_length])) ?_
    refine Obs.cons (Ob.put 23 rfl rfl rfl (by kernel_rfl) (by kernel_rfl) (by rw [bl_length]; exact info32) (bl_one _)) ?_
    exact Obs.nil
  replace hr_b0 := rangeAt_grown hr_b0 hD.gr
  replace hr_b0x := rangeAt_grown hr_b0x hD.gr
  replace hr_b0y := rangeAt_grown hr_b0y hD.gr
  replace ht_b1 := there_grown ht_b1 hD.gr
  obtain ⟨hf_b2, ht_b2⟩ := hD.nw 2 _ _ rfl
  have hr_b2 : w3.rangeAt (β 2) 0 (bl (y)) := hD.rg 3 2 2 (fun _ => bl (y)) rfl
  replace hf_b2 := Nat.le_trans hW.2.2 hf_b2
  replace hW := grown_trans hW hD.gr
  clear hD
  simp only [finAct, putAll, valsFrom, Plan.value, Act.put, List.setIfInBounds_toArray, List.set_cons_zero, List.set_cons_succ]
  replace hGl := hGl0.grown hW
  generalize β (0 + 1 + 1) = b2 at *
  repeat ((fail_if_success (with_reducible show Code.wp _ (Code.region _ _ _) _ _ _)); go_step)
  refine wp_plain [.imm (.pointer (some ⟨b0, 0, none⟩)), .val (bv (x)), .val (.bool true)] (by kernel_rfl) (fun β => ?_) (fun β w4 hD => ?_)
  · refine Obs.cons (Ob.imm rfl (fun w => by kernel_rfl)) ?_
    refine Obs.cons (Ob.load (b0) 0 (bl (x)) rfl rfl (by kernel_rfl) hr_b0x Tryd.underlying23 rfl (by rw [bl_length]; exact info32)) ?_
    refine Obs.cons (Ob.call 35 #[bv (x)] rfl (fun w => by kernel_rfl) (fun w hg => odd_is (x) hx true (decide_eq_true he) w)) ?_
    exact Obs.nil
  replace hr_b0 := rangeAt_grown hr_b0 hD.gr
  replace hr_b0x := rangeAt_grown hr_b0x hD.gr
  replace hr_b0y := rangeAt_grown hr_b0y hD.gr
  replace hr_b2 := rangeAt_grown hr_b2 hD.gr
  replace ht_b1 := there_grown ht_b1 hD.gr
  replace ht_b2 := there_grown ht_b2 hD.gr
  replace hW := grown_trans hW hD.gr
  clear hD
  simp only [finAct, putAll, valsFrom, Plan.value, Act.put, List.setIfInBounds_toArray, List.set_cons_zero, List.set_cons_succ]
  replace hGl := hGl0.grown hW
  repeat ((fail_if_success (with_reducible show Code.wp _ (Code.region _ _ _) _ _ _)); go_step)
  refine wp_plain_fin [.imm (.pointer (some ⟨b2, 31, none⟩)), .val (.int .u8 (top (y) : Nat)), .imm (.int .u8 (top (y + H) : Nat)), .imm (.pointer (some ⟨b2, 31, none⟩)), .fin] (b2) 31 (fun _ => [.int .u8 (top (y + H) : Nat)]) (by kernel_rfl) (fun β => ?_) (fun β w5 hD => ?_)
  · refine Obs.cons (Ob.imm rfl (fun w => exec_idx 31 (by decide) rfl (by kernel_rfl) (by kernel_rfl))) ?_
    refine Obs.cons (Ob.load1 (b2) 31 rfl rfl (by kernel_rfl) (block_lt_of_cell (cell_top hr_b2)) (cell_top hr_b2) (fun w h => run_load8 w h)) ?_
    refine Obs.cons (Ob.imm rfl (fun w => exec_or8 (top (y)) (128) (top (y + H)) rfl (by kernel_rfl) (by kernel_rfl) (or_y ho.2.1))) ?_
    refine Obs.cons (Ob.imm rfl (fun w => exec_idx 31 (by decide) rfl (by kernel_rfl) (by kernel_rfl))) ?_
    refine Obs.cons (Ob.fin1 (.int .u8 (top (y + H) : Nat)) rfl rfl (there_31 ht_b2) rfl (by kernel_rfl) (by kernel_rfl) (fun w v0 h hf => run_store8 w v0 h hf)) ?_
    exact Obs.nil
  replace hr_b0 := rangeAt_grown hr_b0 hD.gr
  replace hr_b0x := rangeAt_grown hr_b0x hD.gr
  replace hr_b0y := rangeAt_grown hr_b0y hD.gr
  replace hr_b2 := rangeAt_grown hr_b2 hD.gr
  replace ht_b1 := there_grown ht_b1 hD.gr
  replace ht_b2 := there_grown ht_b2 hD.gr
  replace hW := grown_trans hW hD.gr
  clear hD
  simp only [finAct, putAll, valsFrom, Plan.value, Act.put, List.setIfInBounds_toArray, List.set_cons_zero, List.set_cons_succ]
  replace hGl := hGl0.grown hW
  have hs5 : (w5.setCells (b2) 31 [.int .u8 (top (y + H) : Nat)]).rangeAt (b2) 0 (bl (y + H)) := rangeAt_top hr_b2 (low_yH ho.2.1)
  replace hW := grown_setCells hf_b2 [.int .u8 (top (y + H) : Nat)] 31 hW
  replace ht_b1 := World.there_setCells ht_b1 (b2) 31 [.int .u8 (top (y + H) : Nat)]
  replace ht_b2 := World.there_setCells ht_b2 (b2) 31 [.int .u8 (top (y + H) : Nat)]
  replace hGl := hGl0.grown hW
  generalize w5.setCells (b2) 31 [.int .u8 (top (y + H) : Nat)] = w5s at *
  repeat ((fail_if_success (with_reducible show Code.wp _ (Code.region _ _ _) _ _ _)); go_step)
  refine wp_plain_fin [.val (bv (y + H)), .fin, .imm (.int .i64 (0))] (b1) 0 (fun _ => bl (y + H)) (by kernel_rfl) (fun β => ?_) (fun β w6 hD => ?_)
  · refine Obs.cons (Ob.load (b2) 0 (bl (y + H)) rfl rfl (by kernel_rfl) hs5 Tryd.underlying23 rfl (by rw [bl_length]; exact info32)) ?_
    refine Obs.cons (Ob.fin rfl (by rw [bl_length]; exact ht_b1) rfl (by kernel_rfl) (by kernel_rfl) (by rw [bl_length]; exact info32) (bl_one _)) ?_
    refine Obs.cons (Ob.imm rfl (fun w => by kernel_rfl)) ?_
    exact Obs.nil
  replace hs5 := rangeAt_grown hs5 hD.gr
  replace ht_b1 := there_grown ht_b1 hD.gr
  replace ht_b2 := there_grown ht_b2 hD.gr
  replace hW := grown_trans hW hD.gr
  clear hD
  simp only [finAct, putAll, valsFrom, Plan.value, Act.put, List.setIfInBounds_toArray, List.set_cons_zero, List.set_cons_succ]
  replace hGl := hGl0.grown hW
  have hs6 := World.rangeAt_setCells_same w6 (b1) 0 (bl (y + H)) (by rw [bl_length]; exact ht_b1)
  replace hW := grown_setCells hf_b1 (bl (y + H)) 0 hW
  generalize w6.setCells (b1) 0 (bl (y + H)) = w6s at *
  repeat go_step
  refine bodyPost_ret (v := .tuple #[bv (y + H), .int .i64 (0)]) (result_cell_tmp Tryd.results33 _ _ (b1) _ (.int .i64 (0)) ?hp ?hv hs6 Tryd.underlying23 rfl (by rw [bl_length]; exact info32)) ?hd ?_
  case hp => rfl
  case hv => rfl
  case hd => rfl
  exact ⟨rfl, hW⟩

set_option maxRecDepth 100000 in
set_option maxHeartbeats 2000000 in
theorem base_is (w : World) (hGl0 : G2 w) : Calls Tryd.prog 27 #[] w fun e w' => e = .returned (.bool true) ∧ Grown w w' := by
  have hW := Grown.refl w
  have hGl := hGl0
  go_enter Tryd.func27, Tryd.ntmps27
  repeat ((fail_if_success (with_reducible show Code.wp _ (Code.region _ _ _) _ _ _)); go_step)
  refine wp_plain [.imm (.bool false)] (by kernel_rfl) (fun β => ?_) (fun β w1 hD => ?_)
  · refine Obs.cons (Ob.imm rfl (fun w => by kernel_rfl)) ?_
    exact Obs.nil
  replace hW := grown_trans hW hD.gr
  clear hD
  simp only [finAct, putAll, valsFrom, Plan.value, Act.put, List.setIfInBounds_toArray, List.set_cons_zero]
  replace hGl := hGl0.grown hW
  repeat ((fail_if_success (with_reducible show Code.wp _ (Code.region _ _ _) _ _ _)); go_step)
  refine wp_plain [.val (pv (Bx) (By)), .new 37 64, .put 1 1 (fun _ => pcs (Bx) (By))] (by kernel_rfl) (fun β => ?_) (fun β w2 hD => ?_)
  · refine Obs.cons (Ob.call 24 #[] rfl (fun w => by kernel_rfl) (fun w hg => Base_num w)) ?_
    refine Obs.cons (Ob.new _ rfl rfl zeroP (by simp [pcs_length])) ?_
    refine Obs.cons (Ob.put 37 rfl rfl rfl (by kernel_rfl) (by kernel_rfl) (by rw [pcs_length]; exact infoP) (pcs_one _ _)) ?_
    exact Obs.nil
  obtain ⟨hf_b0, ht_b0⟩ := hD.nw 1 _ _ rfl
  have hr_b0 : w2.rangeAt (β 1) 0 (pcs (Bx) (By)) := hD.rg 2 1 1 (fun _ => pcs (Bx) (By)) rfl
  replace hf_b0 := Nat.le_trans hW.2.2 hf_b0
  replace hW := grown_trans hW hD.gr
  clear hD
  simp only [finAct, putAll, valsFrom, Plan.value, Act.put, List.setIfInBounds_toArray, List.set_cons_zero, List.set_cons_succ]
  replace hGl := hGl0.grown hW
  generalize β (0 + 1) = b0 at *
  have hr_b0x : w2.rangeAt b0 0 (bl (Bx)) := rangeAt_left hr_b0
  have hr_b0y : w2.rangeAt b0 32 (bl (By)) := rangeAt_right 32 (bl_length _) hr_b0
  repeat ((fail_if_success (with_reducible show Code.wp _ (Code.region _ _ _) _ _ _)); go_step)
  replace hr_b0 := rangeAt_grown hr_b0 (gdrew w2)
  replace hr_b0x := rangeAt_grown hr_b0x (gdrew w2)
  replace hr_b0y := rangeAt_grown hr_b0y (gdrew w2)
  replace ht_b0 := there_grown ht_b0 (gdrew w2)
  replace hW := grown_trans hW (gdrew w2)
  replace hGl := hGl0.grown hW
  refine wp_loose [.val (bv (5)), .imm (.pointer (some ⟨b0, 32, none⟩)), .val (bv (By)), .val (bv (fmul (5) (By))), .val (bv (4)), .imm (.bool false), .imm (.bool false), .imm (.pointer (some ⟨b0, 0, none⟩)), .val (bv (Bx)), .val (.bool false), .imm (.bool false), .imm (.bool false), .val (pv (Bx) (By)), .val (.bool true), .imm (.bool false), .imm (.bool false)] (by kernel_rfl) (by kernel_rfl) (fun β => ?_) (fun β w3 hD => ?_)
  · refine Obs.cons (Ob.call 30 #[.int .i64 (5)] rfl (fun w => by kernel_rfl) (fun w hg => number4 5 (by decide) w)) ?_
    refine Obs.cons (Ob.imm rfl (fun w => by kernel_rfl)) ?_
    refine Obs.cons (Ob.load (b0) 32 (bl (By)) rfl rfl (by kernel_rfl) hr_b0y Tryd.underlying23 rfl (by rw [bl_length]; exact info32)) ?_
    refine Obs.cons (Ob.call 12 #[bv (5), bv (By)] rfl (fun w => by kernel_rfl) (fun w hg => Mul_f (5) (By) (by decide) By_M w)) ?_
    refine Obs.cons (Ob.call 30 #[.int .i64 (4)] rfl (fun w => by kernel_rfl) (fun w hg => number4 4 (by decide) w)) ?_
    refine Obs.cons (Ob.imm rfl (fun w => exec_neq_same rfl (fmul (5) (By)) (4) (by kernel_rfl) (by kernel_rfl) (fmul_lt _ _) (by decide) (by decide +kernel) w)) ?_
    refine Obs.cons (Ob.imm rfl (fun w => by kernel_rfl)) ?_
    refine Obs.cons (Ob.imm (by kernel_rfl) (fun w => by kernel_rfl)) ?_
    refine Obs.cons (Ob.load (b0) 0 (bl (Bx)) (by kernel_rfl) rfl (by kernel_rfl) hr_b0x Tryd.underlying23 rfl (by rw [bl_length]; exact info32)) ?_
    refine Obs.cons (Ob.call 35 #[bv (Bx)] (by kernel_rfl) (fun w => by kernel_rfl) (fun w hg => odd_is (Bx) Bx_M false (by decide +kernel) w)) ?_
    refine Obs.cons (Ob.imm rfl (fun w => by kernel_rfl)) ?_
    refine Obs.cons (Ob.imm rfl (fun w => by kernel_rfl)) ?_
    refine Obs.cons (Ob.load (b0) 0 (pcs (Bx) (By)) (by kernel_rfl) rfl (by kernel_rfl) hr_b0 Tryd.underlying37 rfl (by rw [pcs_length]; exact infoP)) ?_
    refine Obs.cons (Ob.call 34 #[pv (Bx) (By)] (by kernel_rfl) (fun w => by kernel_rfl) (fun w hg => On_is (Bx) (By) Bx_M By_M true (decide_eq_true isP_B) w (hGl.grown hg).g2)) ?_
    refine Obs.cons (Ob.imm (by kernel_rfl) (fun w => by kernel_rfl)) ?_
    refine Obs.cons (Ob.imm rfl (fun w => by kernel_rfl)) ?_
    exact Obs.nil
  replace hr_b0 := rangeAt_grown hr_b0 hD.gr
  replace hr_b0x := rangeAt_grown hr_b0x hD.gr
  replace hr_b0y := rangeAt_grown hr_b0y hD.gr
  replace ht_b0 := there_grown ht_b0 hD.gr
  replace hW := grown_trans hW hD.gr
  clear hD
  simp only [finAct, putAll, valsFrom, Plan.value, Act.put, List.setIfInBounds_toArray, List.set_cons_zero, List.set_cons_succ]
  replace hGl := hGl0.grown hW
  repeat ((fail_if_success (with_reducible show Code.wp _ (Code.region _ _ _) _ _ _)); go_step)
  refine wp_plain [.val (pv (Bx) (By)), .val (.tuple #[pv (B2x) (B2y), .int .i64 (0)]), .imm (.tuple #[pv (B2x) (B2y), .int .i64 (0)]), .imm (pv (B2x) (B2y)), .imm (.int .i64 (0)), .new 37 64, .put 5 5 (fun _ => pcs (B2x) (B2y)), .imm (.int .i64 (0))] (by kernel_rfl) (fun β => ?_) (fun β w4 hD => ?_)
  · refine Obs.cons (Ob.load (b0) 0 (pcs (Bx) (By)) rfl rfl (by kernel_rfl) hr_b0 Tryd.underlying37 rfl (by rw [pcs_length]; exact infoP)) ?_
    refine Obs.cons (Ob.call 42 #[pv (Bx) (By)] rfl (fun w => by kernel_rfl) (fun w hg => Double_base w (hGl.grown hg).g2)) ?_
    refine Obs.cons (Ob.imm rfl (fun w => by kernel_rfl)) ?_
    refine Obs.cons (Ob.imm rfl (fun w => by kernel_rfl)) ?_
    refine Obs.cons (Ob.imm rfl (fun w => by kernel_rfl)) ?_
    refine Obs.cons (Ob.new _ rfl rfl zeroP (by simp [pcs_length])) ?_
    refine Obs.cons (Ob.put 37 rfl rfl rfl (by kernel_rfl) (by kernel_rfl) (by rw [pcs_length]; exact infoP) (pcs_one _ _)) ?_
    refine Obs.cons (Ob.imm rfl (fun w => by kernel_rfl)) ?_
    exact Obs.nil
  replace hr_b0 := rangeAt_grown hr_b0 hD.gr
  replace hr_b0x := rangeAt_grown hr_b0x hD.gr
  replace hr_b0y := rangeAt_grown hr_b0y hD.gr
  replace ht_b0 := there_grown ht_b0 hD.gr
  obtain ⟨hf_b1, ht_b1⟩ := hD.nw 5 _ _ rfl
  have hr_b1 : w4.rangeAt (β 5) 0 (pcs (B2x) (B2y)) := hD.rg 6 5 5 (fun _ => pcs (B2x) (B2y)) rfl
  replace hf_b1 := Nat.le_trans hW.2.2 hf_b1
  replace hW := grown_trans hW hD.gr
  clear hD
  simp only [finAct, putAll, valsFrom, Plan.value, Act.put, List.setIfInBounds_toArray, List.set_cons_zero, List.set_cons_succ]
  replace hGl := hGl0.grown hW
  generalize β (0 + 1 + 1 + 1 + 1 + 1) = b1 at *
  have hr_b1x : w4.rangeAt b1 0 (bl (B2x)) := rangeAt_left hr_b1
  have hr_b1y : w4.rangeAt b1 32 (bl (B2y)) := rangeAt_right 32 (bl_length _) hr_b1
  repeat ((fail_if_success (with_reducible show Code.wp _ (Code.region _ _ _) _ _ _)); go_step)
  refine wp_plain [.imm (.int .i64 (0)), .val (.int .i64 (0)), .imm (.bool true), .imm (.bool true), .val (pv (B2x) (B2y)), .val (pv (Bx) (By)), .imm (.bool true), .imm (.bool true), .imm (.bool true), .val (pv (B2x) (B2y)), .val (.bool true), .imm (.bool true), .imm (.bool true)] (by kernel_rfl) (fun β => ?_) (fun β w5 hD => ?_)
  · refine Obs.cons (Ob.imm rfl (fun w => by kernel_rfl)) ?_
    refine Obs.cons (Ob.call 32 #[.int .i64 (0)] rfl (fun w => by kernel_rfl) (fun w hg => num_is (0) w)) ?_
    refine Obs.cons (Ob.imm rfl (fun w => by kernel_rfl)) ?_
    refine Obs.cons (Ob.imm rfl (fun w => by kernel_rfl)) ?_
    refine Obs.cons (Ob.load (b1) 0 (pcs (B2x) (B2y)) (by kernel_rfl) rfl (by kernel_rfl) hr_b1 Tryd.underlying37 rfl (by rw [pcs_length]; exact infoP)) ?_
    refine Obs.cons (Ob.load (b0) 0 (pcs (Bx) (By)) (by kernel_rfl) rfl (by kernel_rfl) hr_b0 Tryd.underlying37 rfl (by rw [pcs_length]; exact infoP)) ?_
    refine Obs.cons (Ob.imm (by kernel_rfl) (fun w => exec_neqP rfl (B2x) (B2y) (Bx) (By) (by kernel_rfl) (by kernel_rfl) B2x_M B2y_M Bx_M By_M true (by decide +kernel) w)) ?_
    refine Obs.cons (Ob.imm rfl (fun w => by kernel_rfl)) ?_
    refine Obs.cons (Ob.imm rfl (fun w => by kernel_rfl)) ?_
    refine Obs.cons (Ob.load (b1) 0 (pcs (B2x) (B2y)) (by kernel_rfl) rfl (by kernel_rfl) hr_b1 Tryd.underlying37 rfl (by rw [pcs_length]; exact infoP)) ?_
    refine Obs.cons (Ob.call 34 #[pv (B2x) (B2y)] (by kernel_rfl) (fun w => by kernel_rfl) (fun w hg => On_is (B2x) (B2y) B2x_M B2y_M true (decide_eq_true isP_B2) w (hGl.grown hg).g2)) ?_
    refine Obs.cons (Ob.imm rfl (fun w => by kernel_rfl)) ?_
    refine Obs.cons (Ob.imm rfl (fun w => by kernel_rfl)) ?_
    exact Obs.nil
  replace hr_b0 := rangeAt_grown hr_b0 hD.gr
  replace hr_b0x := rangeAt_grown hr_b0x hD.gr
  replace hr_b0y := rangeAt_grown hr_b0y hD.gr
  replace hr_b1 := rangeAt_grown hr_b1 hD.gr
  replace hr_b1x := rangeAt_grown hr_b1x hD.gr
  replace hr_b1y := rangeAt_grown hr_b1y hD.gr
  replace ht_b0 := there_grown ht_b0 hD.gr
  replace ht_b1 := there_grown ht_b1 hD.gr
  replace hW := grown_trans hW hD.gr
  clear hD
  simp only [finAct, putAll, valsFrom, Plan.value, Act.put, List.setIfInBounds_toArray, List.set_cons_zero, List.set_cons_succ]
  replace hGl := hGl0.grown hW
  repeat go_step
  go_ret
  exact ⟨rfl, hW⟩

end Go.Proofs.YtoimglbjepppmaaDoor

