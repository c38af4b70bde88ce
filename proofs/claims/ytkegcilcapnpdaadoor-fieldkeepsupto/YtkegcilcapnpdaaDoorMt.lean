import Derived.Test.YtkegcilcapnpdaaDoorMh
import Derived.Test.YtkegcilcapnpdaaDoorMr
import Derived.Test.YtkegcilcapnpdaaDoorMs
namespace Go.Proofs.YtkegcilcapnpdaaDoor
open Go.RowKit Go.Shelf FieldNum

/-- so many ints as cells -/
def il (n : Nat) (f : Nat → Int) : List Value := (List.range n).map fun i => .int .i64 (f i)
theorem il_length (n : Nat) (f : Nat → Int) : (il n f).length = n := by simp [il]
theorem il_get (n : Nat) (f : Nat → Int) (i : Nat) (h : i < n) : (il n f)[i]? = some (.int .i64 (f i)) := by simp [il, h]
theorem il_one (n : Nat) (f : Nat → Int) : ∀ v ∈ il n f, v.oneCell' = true := by
  intro v hv
  simp only [il, List.mem_map] at hv
  obtain ⟨i, _, rfl⟩ := hv
  rfl
theorem il_congr {n : Nat} {f g : Nat → Int} (h : ∀ j, j < n → f j = g j) : il n f = il n g := by
  unfold il
  apply List.map_congr_left
  intro j hj
  rw [h j (by simpa using hj)]
def sv (n : Nat) (f : Nat → Int) : Value := .agg (il n f).toArray
def sn (n : Nat) : Value := sv 16 (d16 n)
set_option maxRecDepth 100000 in
theorem infoS : (Tryd.prog.info? 45).map (·.size) = some 16 := by kernel_rfl
set_option maxRecDepth 100000 in
theorem zeroS : ∀ w, (zeroValue 45).run Tryd.prog w = .ok (.agg (il 16 fun _ => 0).toArray) w := (zero_of_info (P := Tryd.prog) (t := 45) (v := .agg (il 16 fun _ => 0).toArray) (n := 16) (by kernel_rfl)).1
set_option maxRecDepth 100000 in
theorem infoW : (Tryd.prog.info? 92).map (·.size) = some 32 := by kernel_rfl
set_option maxRecDepth 100000 in
theorem zeroW : ∀ w, (zeroValue 92).run Tryd.prog w = .ok (.agg (il 32 fun _ => 0).toArray) w := (zero_of_info (P := Tryd.prog) (t := 92) (v := .agg (il 32 fun _ => 0).toArray) (n := 32) (by kernel_rfl)).1

/-- a variable's cells, what stands beside it, and the result's variable -/
structure KX (w0 : World) (n g r m : Nat) (F : Nat → Value) (bs : List (Nat × List Value)) (wr : World) : Prop where
  lo : ∀ j, j < n → wr.cell? ⟨g, j, none⟩ = some (F j)
  fr : ∀ j, wr.frozen? ⟨g, j, none⟩ = false
  rs : ∀ q ∈ bs, wr.rangeAt q.1 0 q.2 ∧ q.1 ≠ g
  tr : wr.there r 0 m
  ne : g ≠ r
  fg : w0.heap.size ≤ g
  f2 : w0.heap.size ≤ r
  gw : Grown w0 wr
theorem setCell_apart {w : World} {b g k o : Nat} {cs : List Value} {v : Value} (h : w.rangeAt b o cs) (hne : b ≠ g) : (w.setCell ⟨g, k, none⟩ v).rangeAt b o cs := by
  intro j u hu
  rw [World.cell?_setCell_other]
  · exact h j u hu
  · intro e
    injection e with e1 _ _
    exact hne e1.symm
theorem cell_set {w : World} {x : Addr} {u v : Value} (h : w.cell? x = some u) : (w.setCell x v).cell? x = some v := by
  simp [go_sem, h]
theorem KX.set {w0 wr : World} {n g r m : Nat} {F : Nat → Value} {bs : List (Nat × List Value)} (F' : Nat → Value) (s : KX w0 n g r m F bs wr) (k : Nat) (hk : k < n) (v : Value) (hv : F' k = v) (ho : ∀ j, j ≠ k → F' j = F j) : KX w0 n g r m F' bs (wr.setCell ⟨g, k, none⟩ v) := by
  refine ⟨fun j hj => ?_, fun j => (World.frozen?_setCell _ _ _ _).trans (s.fr j), fun q hq => ⟨setCell_apart (s.rs q hq).1 (s.rs q hq).2, (s.rs q hq).2⟩, there_setCell s.tr _ _, s.ne, s.fg, s.f2, Grown.setCell s.gw s.fg _⟩
  by_cases e : j = k
  · subst e
    rw [cell_set (s.lo j hj), hv]
  · rw [set_other _ _ _ _ _ e, ho j e]; exact s.lo j hj
theorem KX.congr {w0 wr : World} {n g r m : Nat} {F : Nat → Value} {bs : List (Nat × List Value)} {F' : Nat → Value} (s : KX w0 n g r m F bs wr) (ho : ∀ j, j < n → F' j = F j) : KX w0 n g r m F' bs wr :=
  ⟨fun j hj => by rw [ho j hj]; exact s.lo j hj, s.fr, s.rs, s.tr, s.ne, s.fg, s.f2, s.gw⟩
theorem KX.grown {w0 wr w' : World} {n g r m : Nat} {F : Nat → Value} {bs : List (Nat × List Value)} (s : KX w0 n g r m F bs wr) (hg : Grown wr w') : KX w0 n g r m F bs w' :=
  ⟨fun j hj => by rw [grown_cell hg g j (block_lt_of_cell (s.lo j hj))]; exact s.lo j hj, fun j => (hg.2.1 _).trans (s.fr j), fun q hq => ⟨rangeAt_grown (s.rs q hq).1 hg, (s.rs q hq).2⟩, there_grown s.tr hg, s.ne, s.fg, s.f2, grown_trans s.gw hg⟩
theorem KX.range {w0 wr : World} {n g r m : Nat} {F : Nat → Value} {bs : List (Nat × List Value)} (s : KX w0 n g r m F bs wr) (cs : List Value) (hl : cs.length = n) (hc : ∀ j, j < n → cs[j]? = some (F j)) : wr.rangeAt g 0 cs := by
  intro j v hv
  have hj : j < n := by have := lt_of_get hv; rwa [hl] at this
  rw [hc j hj] at hv
  injection hv with hv
  subst hv
  rw [Nat.zero_add]; exact s.lo j hj
theorem KX.cellthere {w0 wr : World} {n g r m : Nat} {F : Nat → Value} {bs : List (Nat × List Value)} (s : KX w0 n g r m F bs wr) {k : Nat} (hk : k < n) : wr.there g k 1 := by
  intro j hj
  obtain rfl : j = 0 := by omega
  exact ⟨by rw [Nat.add_zero, s.lo k hk]; rfl, s.fr _⟩
theorem KX.there {w0 wr : World} {n g r m : Nat} {F : Nat → Value} {bs : List (Nat × List Value)} (s : KX w0 n g r m F bs wr) : wr.there g 0 n := by
  intro j hj
  exact ⟨by rw [Nat.zero_add, s.lo j hj]; rfl, s.fr _⟩
theorem KX.arg {w0 wr : World} {n g r m : Nat} {F : Nat → Value} {bs : List (Nat × List Value)} (s : KX w0 n g r m F bs wr) (b : Nat) (cs : List Value) (h : (b, cs) ∈ bs) : wr.rangeAt b 0 cs := (s.rs _ h).1
theorem cell_i {w : World} {g n : Nat} {f : Nat → Int} (h : w.rangeAt g 0 (il n f)) {j : Nat} (hj : j < n) : w.cell? ⟨g, j, none⟩ = some (.int .i64 (f j)) := by
  have := h j _ (il_get n f j hj)
  rwa [Nat.zero_add] at this
theorem there_lt' {w : World} {b o n : Nat} (h : w.there b o n) (hn : 0 < n) : b < w.heap.size := by
  obtain ⟨v, hv⟩ := Option.isSome_iff_exists.1 (h 0 hn).1
  exact block_lt_of_cell hv
/-- cells of ints -/
def iF (f : Nat → Int) (j : Nat) : Value := .int .i64 (f j)
theorem KX.irange {w0 wr : World} {n g r m : Nat} {f : Nat → Int} {bs : List (Nat × List Value)} (s : KX w0 n g r m (iF f) bs wr) : wr.rangeAt g 0 (il n f) := s.range _ (il_length n f) (fun j hj => il_get n f j hj)
theorem KX.icell {w0 wr : World} {n g r m : Nat} {f : Nat → Int} {bs : List (Nat × List Value)} (s : KX w0 n g r m (iF f) bs wr) {j : Nat} (hj : j < n) : wr.cell? ⟨g, j, none⟩ = some (.int .i64 (f j)) := s.lo j hj
theorem KX.iset {w0 wr : World} {n g r m : Nat} {f : Nat → Int} {bs : List (Nat × List Value)} (s : KX w0 n g r m (iF f) bs wr) (h : Nat → Int) (k : Nat) (hk : k < n) (v : Int) (hv : h k = v) (ho : ∀ j, j ≠ k → h j = f j) : KX w0 n g r m (iF h) bs (wr.setCell ⟨g, k, none⟩ (.int .i64 v)) :=
  s.set (iF h) k hk _ (by unfold iF; rw [hv]) (fun j hj => by unfold iF; rw [ho j hj])
theorem KX.icongr {w0 wr : World} {n g r m : Nat} {f h : Nat → Int} {bs : List (Nat × List Value)} (s : KX w0 n g r m (iF f) bs wr) (ho : ∀ j, j < n → h j = f j) : KX w0 n g r m (iF h) bs wr := s.congr (fun j hj => by unfold iF; rw [ho j hj])
section
variable {o : Oper} {ρ : Operand → Value} {x y : Operand} {t : TypeId} {w : World}
theorem exec_idxS {b : Nat} (k : Nat) (hk : k < 16) (ho : o.op = .indexAddr 45 x y) (hx : ρ x = .pointer (some ⟨b, 0, none⟩)) (hy : ρ y = .int .i64 (k : Int)) : (execOp ρ o).run Tryd.prog w = .ok (.value (.pointer (some ⟨b, k, none⟩))) w := by
  unfold execOp
  simp only [ho, hx, hy]
  go_simp
  intro h
  omega
theorem exec_idxW {b : Nat} (k : Nat) (hk : k < 32) (ho : o.op = .indexAddr 92 x y) (hx : ρ x = .pointer (some ⟨b, 0, none⟩)) (hy : ρ y = .int .i64 (k : Int)) : (execOp ρ o).run Tryd.prog w = .ok (.value (.pointer (some ⟨b, k, none⟩))) w := by
  unfold execOp
  simp only [ho, hx, hy]
  go_simp
  intro h
  omega
theorem exec_idxP {b : Nat} (k : Nat) (hk : k < 16) (ho : o.op = .indexAddr 44 x y) (hx : ρ x = .pointer (some ⟨b, 0, none⟩)) (hy : ρ y = .int .i64 (k : Int)) : (execOp ρ o).run Tryd.prog w = .ok (.value (.pointer (some ⟨b, k, none⟩))) w := by
  unfold execOp
  simp only [ho, hx, hy]
  go_simp
  intro h
  omega
theorem exec_addI (m n r : Int) (ho : o.op = .binOp .add 3 x y t) (hx : ρ x = .int .i64 m) (hy : ρ y = .int .i64 n) (hr : IntKind.i64.wrap (m + n) = r) : (execOp ρ o).run Tryd.prog w = .ok (.value (.int .i64 r)) w := by
  subst hr
  unfold execOp
  simp only [ho, hx, hy]
  simp [go_sem]
theorem exec_subI (m n r : Int) (ho : o.op = .binOp .sub 3 x y t) (hx : ρ x = .int .i64 m) (hy : ρ y = .int .i64 n) (hr : IntKind.i64.wrap (m - n) = r) : (execOp ρ o).run Tryd.prog w = .ok (.value (.int .i64 r)) w := by
  subst hr
  unfold execOp
  simp only [ho, hx, hy]
  simp [go_sem]
theorem exec_mulI' (m n r : Int) (ho : o.op = .binOp .mul 3 x y t) (hx : ρ x = .int .i64 m) (hy : ρ y = .int .i64 n) (hr : IntKind.i64.wrap (m * n) = r) : (execOp ρ o).run Tryd.prog w = .ok (.value (.int .i64 r)) w := by
  subst hr
  unfold execOp
  simp only [ho, hx, hy]
  simp [go_sem]
theorem exec_c53 (m : Nat) (hm : m < 1000) (ho : o.op = .convert 5 3 x) (hx : ρ x = .int .u8 (m : Int)) : (execOp ρ o).run Tryd.prog w = .ok (.value (.int .i64 (m : Int))) w := by
  have h2 : IntKind.i64.wrap (m : Int) = (m : Int) := by rw [IntKind.wrap_i64]; omega
  unfold execOp
  simp only [ho, hx]
  simp [go_sem, h2]
theorem exec_c35 (m : Nat) (hm : m < 256) (ho : o.op = .convert 3 5 x) (hx : ρ x = .int .i64 (m : Int)) : (execOp ρ o).run Tryd.prog w = .ok (.value (.int .u8 (m : Int))) w := by
  have h2 : IntKind.u8.wrap (m : Int) = (m : Int) := by rw [IntKind.wrap_u8]; omega
  unfold execOp
  simp only [ho, hx]
  simp [go_sem, h2]
theorem exec_quoZ (m n r : Int) (h0 : 0 < n) (hm : 0 ≤ m) (hb : m < 9223372036854775807) (ho : o.op = .binOp .quo 3 x y t) (hx : ρ x = .int .i64 m) (hy : ρ y = .int .i64 n) (hr : m / n = r) : (execOp ρ o).run Tryd.prog w = .ok (.value (.int .i64 r)) w := by
  subst hr
  have h1 : m.tdiv n = m / n := Int.tdiv_eq_ediv_of_nonneg hm
  have h4 : ¬ n = 0 := by omega
  have h2 : IntKind.i64.wrap (m / n) = m / n := by
    have h2 : 0 ≤ m / n := Int.ediv_nonneg hm (by omega)
    have h3 : m / n ≤ m := Int.ediv_le_self _ hm
    generalize m / n = q at *
    rw [IntKind.wrap_i64]; omega
  unfold execOp
  simp only [ho, hx, hy]
  simp [go_sem, h1, h4, h2]
theorem exec_remZ (m n r : Int) (h0 : 0 < n) (hm : 0 ≤ m) (ho : o.op = .binOp .rem 3 x y t) (hx : ρ x = .int .i64 m) (hy : ρ y = .int .i64 n) (hr : m % n = r) : (execOp ρ o).run Tryd.prog w = .ok (.value (.int .i64 r)) w := by
  subst hr
  have h1 : m.tmod n = m % n := Int.tmod_eq_emod_of_nonneg hm
  have h4 : ¬ n = 0 := by omega
  unfold execOp
  simp only [ho, hx, hy]
  simp [go_sem, h1, h4]
theorem exec_geqZ (m n : Int) (ho : o.op = .binOp .geq 3 x y t) (hx : ρ x = .int .i64 m) (hy : ρ y = .int .i64 n) (b : Bool) (hb : decide (n ≤ m) = b) : (execOp ρ o).run Tryd.prog w = .ok (.value (.bool b)) w := by
  subst hb
  unfold execOp
  simp only [ho, hx, hy]
  simp [go_sem]
end
theorem run_loadI {b off : Nat} {c : Int} (w : World) (h : w.cell? ⟨b, off, none⟩ = some (.int .i64 c)) : (Instr.loadAt 3 (.pointer (some ⟨b, off, none⟩))).run Tryd.prog w = .ok (.int .i64 c) w := by
  go_simp
theorem run_storeI {b off : Nat} {c : Int} (w : World) (v0 : Value) (h : w.cell? ⟨b, off, none⟩ = some v0) (hf : w.frozen? ⟨b, off, none⟩ = false) : (Instr.storeAt 3 (.pointer (some ⟨b, off, none⟩)) (.int .i64 c)).run Tryd.prog w = .ok () (w.setCell ⟨b, off, none⟩ (.int .i64 c)) := by
  go_simp

theorem cell_b {w : World} {g b k : Nat} (h : w.rangeAt g 0 (bl b)) (hk : k < 32) : w.cell? ⟨g, k, none⟩ = some (.int .u8 ((b / 256 ^ k % 256 : Nat) : Int)) := by
  have := h k _ (bl_get b k hk)
  rwa [Nat.zero_add] at this

/-- the digits up to k are the new ones -/
def mix (h f : Nat → Int) (k j : Nat) : Int := if j < k then h j else f j
theorem mix_zero (h f : Nat → Int) : mix h f 0 = f := funext fun j => if_neg (Nat.not_lt_zero j)
theorem mix_here (h f : Nat → Int) (k : Nat) : mix h f k k = f k := if_neg (Nat.lt_irrefl k)
theorem mix_put (h f : Nat → Int) (k : Nat) : mix h f (k + 1) k = h k := if_pos (Nat.lt_succ_self k)
theorem mix_off (h f : Nat → Int) (k j : Nat) (hj : j ≠ k) : mix h f (k + 1) j = mix h f k j := by
  unfold mix
  by_cases e : j < k
  · rw [if_pos e, if_pos (by omega)]
  · rw [if_neg e, if_neg (by omega)]
theorem mix_all (h f : Nat → Int) {n j : Nat} (hj : j < n) : mix h f n j = h j := if_pos hj
/-- and from k on -/
def xim (h f : Nat → Int) (k j : Nat) : Int := if j < k then f j else h j
theorem xim_all (h f : Nat → Int) {n j : Nat} (hj : j < n) : xim h f n j = f j := if_pos hj
theorem xim_put (h f : Nat → Int) (k : Nat) : xim h f k k = h k := if_neg (Nat.lt_irrefl k)
theorem xim_here (h f : Nat → Int) (k : Nat) : xim h f (k + 1) k = f k := if_pos (Nat.lt_succ_self k)
theorem xim_off (h f : Nat → Int) (k j : Nat) (hj : j ≠ k) : xim h f k j = xim h f (k + 1) j := by
  unfold xim
  by_cases e : j < k
  · rw [if_pos e, if_pos (by omega)]
  · rw [if_neg e, if_neg (by omega)]
theorem xim_zero (h f : Nat → Int) : xim h f 0 = h := funext fun j => if_neg (Nat.not_lt_zero j)
end Go.Proofs.YtkegcilcapnpdaaDoor

namespace Go.Proofs.YtkegcilcapnpdaaDoor
open Go.RowKit Go.Shelf FieldNum

theorem ne_of_freshI {w : World} {b c n : Nat} {f : Nat → Int} (h : w.rangeAt b 0 (il n f)) (hn : 0 < n) (hf : w.heap.size ≤ c) : b ≠ c := by
  have : b < w.heap.size := block_lt_of_cell (cell_i h hn)
  omega
set_option maxRecDepth 100000 in
set_option maxHeartbeats 4000000 in
theorem P_r (q : Nat) (w : World) (hpr : w.rangeAt 1 0 (il 16 (d16 q))) : Calls Tryd.prog 40 #[] w fun e w' => e = .returned (sn q) ∧ Grown w w' := by
  go_enter Tryd.func40, Tryd.ntmps40
  repeat ((fail_if_success (with_reducible show Code.wp _ (Code.region _ _ _) _ _ _)); go_step)
  refine wp_plain [.new 45 16] (by kernel_rfl) (fun β => ?_) (fun β w1 hD => ?_)
  · refine Obs.cons (Ob.new _ rfl rfl zeroS (by simp [il_length])) ?_
    exact Obs.nil
  obtain ⟨hf2, ht2⟩ := hD.nw 0 _ _ rfl
  have hW := hD.gr
  clear hD
  simp only [finAct, putAll, valsFrom, Plan.value, Act.put, List.setIfInBounds_toArray, List.set_cons_zero]
  generalize β 0 = bR at *
  repeat ((fail_if_success (with_reducible show Code.wp _ (Code.region _ _ _) _ _ _)); go_step)
  refine wp_plain [.box 45 (il 16 fun _ => 0)] (by kernel_rfl) (fun β => ?_) (fun β w2 hD => ?_)
  · refine Obs.cons (Ob.newz (il 16 fun _ => 0) rfl rfl zeroS) ?_
    exact Obs.nil
  obtain ⟨hf3, hr3⟩ := hD.bx 0 _ _ rfl
  have hb2 : bR < w1.heap.size := there_lt' ht2 (by decide)
  have hP0 : KX w 16 (β 0) bR 16 (iF fun _ => 0) [(1, il 16 (d16 q))] w2 := ⟨fun j hj => cell_i hr3 hj, fun j => (hD.gr.2.1 _).trans (frozen_past hf3), fun q hq => by
      obtain rfl := List.mem_singleton.1 hq
      exact ⟨rangeAt_grown (rangeAt_grown hpr hW) hD.gr, ne_of_freshI (rangeAt_grown hpr hW) (by decide) hf3⟩,
      there_grown ht2 hD.gr, by omega, Nat.le_trans hW.2.2 hf3, hf2, grown_trans hW hD.gr⟩
  clear hD hf2 ht2 hW hf3 hr3 hb2
  simp only [finAct, putAll, valsFrom, Plan.value, Act.put, List.setIfInBounds_toArray, List.set_cons_zero, List.set_cons_succ]
  generalize β 0 = bG at *
  go_wp2
  go_loopw [2] (fun v wr => ∃ k : Nat, v = .int .i64 (k : Int) ∧ k ≤ 16 ∧ KX w 16 bG bR 16 (iF (mix (d16 q) (fun _ => 0) k)) [(1, il 16 (d16 q))] wr) (fun v _ => 16 - (intOf v).toNat)
  case atStart => exact ⟨0, rfl, by decide, by rw [mix_zero]; exact hP0⟩
  case round =>
    obtain ⟨k, rfl, hk, hX⟩ := hrel
    clear hP0
    by_cases hlt : k < 16
    · have d1 := cell_i (hX.arg 1 (il 16 (d16 q)) (List.mem_singleton.2 rfl)) hlt
      have d2 := hX.icell hlt
      have d3 := hX.fr k
      have k1 : (k : Int) < 16 := by omega
      have hS := Hid.of (hX.iset (mix (d16 q) (fun _ => 0) (k + 1)) k hlt (d16 q k) (mix_put _ _ _) (mix_off _ _ _))
      have hkk := Hid.of hlt
      clear hX hk hlt
      generalize d16 q k = x at *
      go_wp2
      go_roundw
      case rel => exact ⟨k + 1, by simp, hkk.out, hS.out⟩
      case measure => have := hkk.out; simp [intOf]; omega
    · obtain rfl : k = 16 := by omega
      have hr := (hX.icongr (h := d16 q) (fun j hj => (mix_all _ _ hj).symm)).irange
      have ht := hX.tr
      have hf := hX.f2
      have hW := hX.gw
      clear hX hlt hk
      go_wp2_with (with_reducible show wpList _ _ _ ({ dst := _, op := Op.load 45 _, type := _, pos := _, after := _, guard := _ } :: _) _ _; refine Shut.out ?_)
      show wpList _ _ _ _ _ _
      refine wpList_load_mid rfl 45 _ rfl bG 0 rfl (il 16 (d16 q)) _ hr Tryd.underlying45 rfl (by rw [il_length]; exact infoS) ?_
      simp only [Act.put, List.setIfInBounds_toArray, List.set_cons_zero, List.set_cons_succ]
      refine wpList_store_mid rfl 45 _ _ rfl bR 0 (il 16 (d16 q)).toArray rfl rfl (by rw [List.size_toArray, il_length]; exact ht) (by rw [List.size_toArray, il_length]; exact infoS) (all_oneCell_toArray (il_one _ _)) ?_
      simp only [Act.put]
      apply wpList_nil
      repeat go_step
      refine bodyPost_ret (v := sn q) (result_cells Tryd.results40 _ _ bR (il 16 (d16 q)) ?hp (World.rangeAt_setCells_same _ _ _ _ (by rw [il_length]; exact ht)) Tryd.underlying45 rfl (by rw [il_length]; exact infoS)) ?hd ?_
      case hp => rfl
      case hd => rfl
      exact ⟨rfl, grown_setCells hf _ _ hW⟩

set_option maxRecDepth 100000 in
set_option maxHeartbeats 4000000 in
theorem Raw_r (a : Nat) (w : World) : Calls Tryd.prog 86 #[bv a] w fun e w' => e = .returned (sn a) ∧ Grown w w' := by
  go_enter Tryd.func86, Tryd.ntmps86
  repeat ((fail_if_success (with_reducible show Code.wp _ (Code.region _ _ _) _ _ _)); go_step)
  refine wp_plain [.box 23 (bl a), .new 45 16] (by kernel_rfl) (fun β => ?_) (fun β w1 hD => ?_)
  · refine Obs.cons (Ob.box rfl rfl (by kernel_rfl)) ?_
    refine Obs.cons (Ob.new _ rfl rfl zeroS (by simp [il_length])) ?_
    exact Obs.nil
  have hr0 := (hD.bx 0 _ _ rfl).2
  obtain ⟨hf2, ht2⟩ := hD.nw 1 _ _ rfl
  have hW := hD.gr
  clear hD
  simp only [finAct, putAll, valsFrom, Plan.value, Act.put, List.setIfInBounds_toArray, List.set_cons_zero, List.set_cons_succ]
  generalize β 0 = b0 at *
  generalize β (0 + 1) = bR at *
  repeat ((fail_if_success (with_reducible show Code.wp _ (Code.region _ _ _) _ _ _)); go_step)
  refine wp_plain [.box 45 (il 16 fun _ => 0)] (by kernel_rfl) (fun β => ?_) (fun β w2 hD => ?_)
  · refine Obs.cons (Ob.newz (il 16 fun _ => 0) rfl rfl zeroS) ?_
    exact Obs.nil
  obtain ⟨hf3, hr3⟩ := hD.bx 0 _ _ rfl
  have hb2 : bR < w1.heap.size := there_lt' ht2 (by decide)
  have hP0 : KX w 16 (β 0) bR 16 (iF fun _ => 0) [(b0, bl a)] w2 := ⟨fun j hj => cell_i hr3 hj, fun j => (hD.gr.2.1 _).trans (frozen_past hf3), fun q hq => by
      obtain rfl := List.mem_singleton.1 hq
      exact ⟨rangeAt_grown hr0 hD.gr, ne_of_fresh hr0 hf3⟩,
      there_grown ht2 hD.gr, by omega, Nat.le_trans hW.2.2 hf3, hf2, grown_trans hW hD.gr⟩
  clear hD hf2 ht2 hW hf3 hr3 hb2 hr0
  simp only [finAct, putAll, valsFrom, Plan.value, Act.put, List.setIfInBounds_toArray, List.set_cons_zero, List.set_cons_succ]
  generalize β 0 = bG at *
  go_wp2
  go_loopw [4] (fun v wr => ∃ k : Nat, v = .int .i64 (k : Int) ∧ k ≤ 16 ∧ KX w 16 bG bR 16 (iF (mix (d16 a) (fun _ => 0) k)) [(b0, bl a)] wr) (fun v _ => 16 - (intOf v).toNat)
  case atStart => exact ⟨0, rfl, by decide, by rw [mix_zero]; exact hP0⟩
  case round =>
    obtain ⟨k, rfl, hk, hX⟩ := hrel
    clear hP0
    by_cases hlt : k < 16
    · have k1 : (k : Int) < 16 := by omega
      have HX := Hid.of (hX.grown (gdrew wr))
      have hkk := Hid.of hlt
      clear hX hk hlt
      go_wp2
      have hlt := hkk.out
      have hX := HX.out
      have hxa := cell_b (hX.arg b0 (bl a) (List.mem_singleton.2 rfl)) (k := 2 * k) (by omega)
      have hxb := cell_b (hX.arg b0 (bl a) (List.mem_singleton.2 rfl)) (k := 2 * k + 1) (by omega)
      have hdd := d16_bytes a k
      obtain ⟨x, ex⟩ : ∃ x, x = a / 256 ^ (2 * k) % 256 := ⟨_, rfl⟩
      obtain ⟨y, ey⟩ : ∃ y, y = a / 256 ^ (2 * k + 1) % 256 := ⟨_, rfl⟩
      have hx : x < 256 := by rw [ex]; exact Nat.mod_lt _ (by decide)
      have hy : y < 256 := by rw [ey]; exact Nat.mod_lt _ (by decide)
      rw [← ex] at hxa hdd
      rw [← ey] at hxb hdd
      clear ex ey
      refine wp_loose_fin [.imm (.int .i64 (k : Int)), .imm (.int .i64 (k : Int)), .imm (.int .i64 ((2 * k : Nat) : Int)), .imm (.pointer (some ⟨b0, 2 * k, none⟩)), .val (.int .u8 (x : Nat)), .imm (.int .i64 (x : Nat)), .imm (.int .i64 (k : Int)), .imm (.int .i64 ((2 * k : Nat) : Int)), .imm (.int .i64 ((2 * k + 1 : Nat) : Int)), .imm (.pointer (some ⟨b0, 2 * k + 1, none⟩)), .val (.int .u8 (y : Nat)), .imm (.int .i64 (y : Nat)), .imm (.int .i64 (256 * (y : Int))), .imm (.int .i64 ((x : Int) + 256 * (y : Int))), .imm (.pointer (some ⟨bG, k, none⟩)), .fin] bG k (fun _ => [.int .i64 ((x : Int) + 256 * (y : Int))]) (by kernel_rfl) (by kernel_rfl) (fun β => ?_) (fun β w3 hD => ?_)
      · refine Obs.cons (Ob.imm rfl (fun w => by kernel_rfl)) ?_
        refine Obs.cons (Ob.imm rfl (fun w => by kernel_rfl)) ?_
        refine Obs.cons (Ob.imm rfl (fun w => exec_mulI' 2 (k : Int) _ rfl (by kernel_rfl) (by kernel_rfl) (by rw [IntKind.wrap_i64]; omega))) ?_
        refine Obs.cons (Ob.imm rfl (fun w => exec_idx (2 * k) (by omega) rfl (by kernel_rfl) (by kernel_rfl))) ?_
        refine Obs.cons (Ob.load1 b0 (2 * k) rfl rfl (by kernel_rfl) (block_lt_of_cell hxa) hxa (fun w h => run_load8 w h)) ?_
        refine Obs.cons (Ob.imm rfl (fun w => exec_c53 x (by omega) rfl (by kernel_rfl))) ?_
        refine Obs.cons (Ob.imm rfl (fun w => by kernel_rfl)) ?_
        refine Obs.cons (Ob.imm rfl (fun w => exec_mulI' 2 (k : Int) _ rfl (by kernel_rfl) (by kernel_rfl) (by rw [IntKind.wrap_i64]; omega))) ?_
        refine Obs.cons (Ob.imm rfl (fun w => exec_addI ((2 * k : Nat) : Int) 1 _ rfl (by kernel_rfl) (by kernel_rfl) (by rw [IntKind.wrap_i64]; omega))) ?_
        refine Obs.cons (Ob.imm rfl (fun w => exec_idx (2 * k + 1) (by omega) rfl (by kernel_rfl) (by kernel_rfl))) ?_
        refine Obs.cons (Ob.load1 b0 (2 * k + 1) rfl rfl (by kernel_rfl) (block_lt_of_cell hxb) hxb (fun w h => run_load8 w h)) ?_
        refine Obs.cons (Ob.imm rfl (fun w => exec_c53 y (by omega) rfl (by kernel_rfl))) ?_
        refine Obs.cons (Ob.imm rfl (fun w => exec_mulI' 256 (y : Int) _ rfl (by kernel_rfl) (by kernel_rfl) (by rw [IntKind.wrap_i64]; omega))) ?_
        refine Obs.cons (Ob.imm rfl (fun w => exec_addI (x : Int) (256 * (y : Int)) _ rfl (by kernel_rfl) (by kernel_rfl) (by rw [IntKind.wrap_i64]; omega))) ?_
        refine Obs.cons (Ob.imm rfl (fun w => exec_idxS k hlt rfl (by kernel_rfl) (by kernel_rfl))) ?_
        refine Obs.cons (Ob.fin1 (.int .i64 ((x : Int) + 256 * (y : Int))) rfl rfl (hX.cellthere hlt) rfl (by kernel_rfl) (by kernel_rfl) (fun w v0 h hf => run_storeI w v0 h hf)) ?_
        exact Obs.nil
      have hS := Hid.of ((hX.grown hD.gr).iset (mix (d16 a) (fun _ => 0) (k + 1)) k hlt ((x : Int) + 256 * (y : Int)) (by rw [mix_put, hdd]) (mix_off _ _ _))
      clear hD hX HX hxa hxb hdd hx hy
      simp only [finAct, putAll, valsFrom, Plan.value, Act.put, List.setIfInBounds_toArray, List.set_cons_zero, List.set_cons_succ]
      go_wp2
      go_roundw
      case rel => exact ⟨k + 1, by simp, hkk.out, hS.out⟩
      case measure => have := hkk.out; simp [intOf]; omega
    · obtain rfl : k = 16 := by omega
      have hr := (hX.icongr (h := d16 a) (fun j hj => (mix_all _ _ hj).symm)).irange
      have ht := hX.tr
      have hf := hX.f2
      have hW := hX.gw
      clear hX hlt hk
      go_wp2_with (with_reducible show wpList _ _ _ ({ dst := _, op := Op.load 45 _, type := _, pos := _, after := _, guard := _ } :: _) _ _; refine Shut.out ?_)
      show wpList _ _ _ _ _ _
      refine wpList_load_mid rfl 45 _ rfl bG 0 rfl (il 16 (d16 a)) _ hr Tryd.underlying45 rfl (by rw [il_length]; exact infoS) ?_
      simp only [Act.put, List.setIfInBounds_toArray, List.set_cons_zero, List.set_cons_succ]
      refine wpList_store_mid rfl 45 _ _ rfl bR 0 (il 16 (d16 a)).toArray rfl rfl (by rw [List.size_toArray, il_length]; exact ht) (by rw [List.size_toArray, il_length]; exact infoS) (all_oneCell_toArray (il_one _ _)) ?_
      simp only [Act.put]
      apply wpList_nil
      repeat go_step
      refine bodyPost_ret (v := sn a) (result_cells Tryd.results86 _ _ bR (il 16 (d16 a)) ?hp (World.rangeAt_setCells_same _ _ _ _ (by rw [il_length]; exact ht)) Tryd.underlying45 rfl (by rw [il_length]; exact infoS)) ?hd ?_
      case hp => rfl
      case hd => rfl
      exact ⟨rfl, grown_setCells hf _ _ hW⟩

end Go.Proofs.YtkegcilcapnpdaaDoor

namespace FieldNum
/-- a number's bytes -/
def by8 (n j : Nat) : Int := ((n / 256 ^ j % 256 : Nat) : Int)
theorem dig_lo (n k : Nat) : n / 65536 ^ k % 65536 % 256 = n / 256 ^ (2 * k) % 256 := by
  rw [Nat.pow_mul]
  generalize n / (256 ^ 2) ^ k = q
  omega
theorem dig_hi (n k : Nat) : n / 65536 ^ k % 65536 / 256 = n / 256 ^ (2 * k + 1) % 256 := by
  rw [Nat.pow_succ, Nat.pow_mul, ← Nat.div_div_eq_div_mul]
  generalize n / (256 ^ 2) ^ k = q
  omega
end FieldNum
namespace Go.Proofs.YtkegcilcapnpdaaDoor
open Go.RowKit Go.Shelf FieldNum

def uF (f : Nat → Int) (j : Nat) : Value := .int .u8 (f j)
theorem KX.uset {w0 wr : World} {n g r m : Nat} {f : Nat → Int} {bs : List (Nat × List Value)} (s : KX w0 n g r m (uF f) bs wr) (h : Nat → Int) (k : Nat) (hk : k < n) (v : Int) (hv : h k = v) (ho : ∀ j, j ≠ k → h j = f j) : KX w0 n g r m (uF h) bs (wr.setCell ⟨g, k, none⟩ (.int .u8 v)) :=
  s.set (uF h) k hk _ (by unfold uF; rw [hv]) (fun j hj => by unfold uF; rw [ho j hj])
set_option maxRecDepth 100000 in
set_option maxHeartbeats 4000000 in
theorem Bytes_r (n : Nat) (w : World) : Calls Tryd.prog 38 #[sn n] w fun e w' => e = .returned (bv n) ∧ Grown w w' := by
  go_enter Tryd.func38, Tryd.ntmps38
  repeat ((fail_if_success (with_reducible show Code.wp _ (Code.region _ _ _) _ _ _)); go_step)
  refine wp_plain [.box 45 (il 16 (d16 n)), .new 23 32] (by kernel_rfl) (fun β => ?_) (fun β w1 hD => ?_)
  · refine Obs.cons (Ob.box rfl rfl (by kernel_rfl)) ?_
    refine Obs.cons (Ob.new _ rfl rfl zero32.1 (by simp [bl_length])) ?_
    exact Obs.nil
  have hr0 := (hD.bx 0 _ _ rfl).2
  obtain ⟨hf2, ht2⟩ := hD.nw 1 _ _ rfl
  have hW := hD.gr
  clear hD
  simp only [finAct, putAll, valsFrom, Plan.value, Act.put, List.setIfInBounds_toArray, List.set_cons_zero, List.set_cons_succ]
  generalize β 0 = b0 at *
  generalize β (0 + 1) = bR at *
  repeat ((fail_if_success (with_reducible show Code.wp _ (Code.region _ _ _) _ _ _)); go_step)
  refine wp_plain [.box 23 (bl 0)] (by kernel_rfl) (fun β => ?_) (fun β w2 hD => ?_)
  · refine Obs.cons (Ob.newz (bl 0) rfl rfl zero32.1) ?_
    exact Obs.nil
  obtain ⟨hf3, hr3⟩ := hD.bx 0 _ _ rfl
  have hb2 : bR < w1.heap.size := there_lt' ht2 (by decide)
  have hP0 : KX w 32 (β 0) bR 32 (uF fun _ => 0) [(b0, il 16 (d16 n))] w2 := ⟨fun j hj => by rw [cell_b hr3 hj]; unfold uF; simp, fun j => (hD.gr.2.1 _).trans (frozen_past hf3), fun q hq => by
      obtain rfl := List.mem_singleton.1 hq
      exact ⟨rangeAt_grown hr0 hD.gr, ne_of_freshI hr0 (by decide) hf3⟩,
      there_grown ht2 hD.gr, by omega, Nat.le_trans hW.2.2 hf3, hf2, grown_trans hW hD.gr⟩
  clear hD hf2 ht2 hW hf3 hr3 hb2 hr0
  simp only [finAct, putAll, valsFrom, Plan.value, Act.put, List.setIfInBounds_toArray, List.set_cons_zero, List.set_cons_succ]
  generalize β 0 = bG at *
  go_wp2
  go_loopw [4] (fun v wr => ∃ k : Nat, v = .int .i64 (k : Int) ∧ k ≤ 16 ∧ KX w 32 bG bR 32 (uF (mix (by8 n) (fun _ => 0) (2 * k))) [(b0, il 16 (d16 n))] wr) (fun v _ => (16 - intOf v).toNat)
  case atStart => exact ⟨0, rfl, by decide, by rw [Nat.mul_zero, mix_zero]; exact hP0⟩
  case round =>
    obtain ⟨k, rfl, hk, hX⟩ := hrel
    clear hP0
    by_cases hlt : k < 16
    · repeat ((fail_if_success (with_reducible show Code.wp _ (Code.region _ _ _) _ _ _)); go_step)
      refine wp_plain [.imm (.int .i64 (k : Int)), .imm (.bool true)] (by kernel_rfl) (fun β => ?_) (fun β w3 hD => ?_)
      · refine Obs.cons (Ob.imm rfl (fun w => by kernel_rfl)) ?_
        refine Obs.cons (Ob.imm rfl (fun w => exec_lssI rfl (k : Int) 16 (by kernel_rfl) (by kernel_rfl) true (decide_eq_true (by omega)))) ?_
        exact Obs.nil
      replace hX := hX.grown hD.gr
      clear hD
      simp only [finAct, putAll, valsFrom, Plan.value, Act.put, List.setIfInBounds_toArray, List.set_cons_zero, List.set_cons_succ]
      repeat ((fail_if_success (with_reducible show Code.wp _ (Code.region _ _ _) _ _ _)); go_step)
      have hxa := cell_i (hX.arg b0 (il 16 (d16 n)) (List.mem_singleton.2 rfl)) hlt
      unfold d16 at hxa
      have hlo := dig_lo n k
      have hhi := dig_hi n k
      obtain ⟨D, eD⟩ : ∃ D, D = n / 65536 ^ k % 65536 := ⟨_, rfl⟩
      have hDl : D < 65536 := by rw [eD]; exact Nat.mod_lt _ (by decide)
      rw [← eD] at hxa hlo hhi
      have eDD : d16 n k = (D : Int) := by unfold d16; rw [← eD]
      clear eD
      refine wp_plain_fin [.imm (.int .i64 (k : Int)), .imm (.int .i64 ((2 * k : Nat) : Int)), .imm (.int .i64 (k : Int)), .imm (.pointer (some ⟨b0, k, none⟩)), .val (.int .i64 (D : Int)), .imm (.int .i64 ((D % 256 : Nat) : Int)), .imm (.int .u8 ((D % 256 : Nat) : Int)), .imm (.pointer (some ⟨bG, 2 * k, none⟩)), .fin] bG (2 * k) (fun _ => [.int .u8 ((D % 256 : Nat) : Int)]) (by kernel_rfl) (fun β => ?_) (fun β w4 hD => ?_)
      · refine Obs.cons (Ob.imm rfl (fun w => by kernel_rfl)) ?_
        refine Obs.cons (Ob.imm rfl (fun w => exec_mulI' 2 (k : Int) _ rfl (by kernel_rfl) (by kernel_rfl) (by rw [IntKind.wrap_i64]; omega))) ?_
        refine Obs.cons (Ob.imm rfl (fun w => by kernel_rfl)) ?_
        refine Obs.cons (Ob.imm rfl (fun w => exec_idxS k hlt rfl (by kernel_rfl) (by kernel_rfl))) ?_
        refine Obs.cons (Ob.load1 b0 k rfl rfl (by kernel_rfl) (block_lt_of_cell hxa) hxa (fun w h => run_loadI w h)) ?_
        refine Obs.cons (Ob.imm rfl (fun w => exec_remZ (D : Int) 256 _ (by decide) (by omega) rfl (by kernel_rfl) (by kernel_rfl) (by omega))) ?_
        refine Obs.cons (Ob.imm rfl (fun w => exec_c35 (D % 256) (by omega) rfl (by kernel_rfl))) ?_
        refine Obs.cons (Ob.imm rfl (fun w => exec_idx (2 * k) (by omega) rfl (by kernel_rfl) (by kernel_rfl))) ?_
        refine Obs.cons (Ob.fin1 (.int .u8 ((D % 256 : Nat) : Int)) rfl rfl (hX.cellthere (by omega)) rfl (by kernel_rfl) (by kernel_rfl) (fun w v0 h hf => run_store8 w v0 h hf)) ?_
        exact Obs.nil
      replace hX := (hX.grown hD.gr).uset (mix (by8 n) (fun _ => 0) (2 * k + 1)) (2 * k) (by omega) ((D % 256 : Nat) : Int) (by rw [mix_put, hlo]; rfl) (mix_off _ _ _)
      clear hD hxa
      simp only [finAct, putAll, valsFrom, Plan.value, Act.put, List.setIfInBounds_toArray, List.set_cons_zero, List.set_cons_succ]
      repeat ((fail_if_success (with_reducible show Code.wp _ (Code.region _ _ _) _ _ _)); go_step)
      have hxa := cell_i (hX.arg b0 (il 16 (d16 n)) (List.mem_singleton.2 rfl)) hlt
      have hxa : (w4.setCell ⟨bG, 2 * k, none⟩ (.int .u8 ((D % 256 : Nat) : Int))).cell? ⟨b0, k, none⟩ = some (.int .i64 (D : Int)) := hxa.trans (by rw [eDD])
      refine wp_plain_fin [.imm (.int .i64 (k : Int)), .imm (.int .i64 ((2 * k : Nat) : Int)), .imm (.int .i64 ((2 * k + 1 : Nat) : Int)), .imm (.int .i64 (k : Int)), .imm (.pointer (some ⟨b0, k, none⟩)), .val (.int .i64 (D : Int)), .imm (.int .i64 ((D / 256 : Nat) : Int)), .imm (.int .u8 ((D / 256 : Nat) : Int)), .imm (.pointer (some ⟨bG, 2 * k + 1, none⟩)), .fin] bG (2 * k + 1) (fun _ => [.int .u8 ((D / 256 : Nat) : Int)]) (by kernel_rfl) (fun β => ?_) (fun β w5 hD => ?_)
      · refine Obs.cons (Ob.imm rfl (fun w => by kernel_rfl)) ?_
        refine Obs.cons (Ob.imm rfl (fun w => exec_mulI' 2 (k : Int) _ rfl (by kernel_rfl) (by kernel_rfl) (by rw [IntKind.wrap_i64]; omega))) ?_
        refine Obs.cons (Ob.imm rfl (fun w => exec_addI ((2 * k : Nat) : Int) 1 _ rfl (by kernel_rfl) (by kernel_rfl) (by rw [IntKind.wrap_i64]; omega))) ?_
        refine Obs.cons (Ob.imm rfl (fun w => by kernel_rfl)) ?_
        refine Obs.cons (Ob.imm rfl (fun w => exec_idxS k hlt rfl (by kernel_rfl) (by kernel_rfl))) ?_
        refine Obs.cons (Ob.load1 b0 k rfl rfl (by kernel_rfl) (block_lt_of_cell hxa) hxa (fun w h => run_loadI w h)) ?_
        refine Obs.cons (Ob.imm rfl (fun w => exec_quoZ (D : Int) 256 _ (by decide) (by omega) (by omega) rfl (by kernel_rfl) (by kernel_rfl) (by omega))) ?_
        refine Obs.cons (Ob.imm rfl (fun w => exec_c35 (D / 256) (by omega) rfl (by kernel_rfl))) ?_
        refine Obs.cons (Ob.imm rfl (fun w => exec_idx (2 * k + 1) (by omega) rfl (by kernel_rfl) (by kernel_rfl))) ?_
        refine Obs.cons (Ob.fin1 (.int .u8 ((D / 256 : Nat) : Int)) rfl rfl (hX.cellthere (by omega)) rfl (by kernel_rfl) (by kernel_rfl) (fun w v0 h hf => run_store8 w v0 h hf)) ?_
        exact Obs.nil
      have hS := Hid.of ((hX.grown hD.gr).uset (mix (by8 n) (fun _ => 0) (2 * k + 1 + 1)) (2 * k + 1) (by omega) ((D / 256 : Nat) : Int) (by rw [mix_put, hhi]; rfl) (mix_off _ _ _))
      have hkk := Hid.of hlt
      clear hD hX hxa hlo hhi hDl hlt hk
      simp only [finAct, putAll, valsFrom, Plan.value, Act.put, List.setIfInBounds_toArray, List.set_cons_zero, List.set_cons_succ]
      have eL := Hid.of (show wrap64 ((k : Int) + 1) = ((k + 1 : Nat) : Int) by have := hkk.out; unfold wrap64; omega)
      go_wp2
      rw [eL.out]
      exact ⟨⟨k + 1, rfl, hkk.out, hS.out⟩, by have := hkk.out; simp [intOf]; omega⟩
    · obtain rfl : k = 16 := by omega
      have hr := hX.range (bl n) (bl_length n) (fun j hj => by rw [bl_get n j hj]; unfold uF; rw [mix_all _ _ hj]; rfl)
      have ht := hX.tr
      have hf := hX.f2
      have hW := hX.gw
      clear hX hlt hk
      go_wp2_with (with_reducible show wpList _ _ _ ({ dst := _, op := Op.load 23 _, type := _, pos := _, after := _, guard := _ } :: _) _ _; refine Shut.out ?_)
      show wpList _ _ _ _ _ _
      refine wpList_load_mid rfl 23 _ rfl bG 0 rfl (bl n) _ hr Tryd.underlying23 rfl (by rw [bl_length]; exact info32) ?_
      simp only [Act.put, List.setIfInBounds_toArray, List.set_cons_zero, List.set_cons_succ]
      refine wpList_store_mid rfl 23 _ _ rfl bR 0 (bl n).toArray rfl rfl (by rw [List.size_toArray, bl_length]; exact ht) (by rw [List.size_toArray, bl_length]; exact info32) (all_oneCell_toArray (bl_one _)) ?_
      simp only [Act.put]
      apply wpList_nil
      repeat go_step
      refine bodyPost_ret (v := bv n) (result_cells Tryd.results38 _ _ bR (bl n) ?hp (World.rangeAt_setCells_same _ _ _ _ (by rw [bl_length]; exact ht)) Tryd.underlying23 rfl (by rw [bl_length]; exact info32)) ?hd ?_
      case hp => rfl
      case hd => rfl
      exact ⟨rfl, grown_setCells hf _ _ hW⟩

end Go.Proofs.YtkegcilcapnpdaaDoor

namespace Go.Proofs.YtkegcilcapnpdaaDoor
open Go.RowKit Go.Shelf FieldNum

set_option maxRecDepth 100000 in
set_option maxHeartbeats 4000000 in
theorem Below_r (a b : Nat) (ha : a < S256) (hb : b < S256) (w : World) : Calls Tryd.prog 95 #[sn a, sn b] w fun e w' => e = .returned (.bool (decide (a < b))) ∧ Grown w w' := by
  go_enter Tryd.func95, Tryd.ntmps95
  repeat ((fail_if_success (with_reducible show Code.wp _ (Code.region _ _ _) _ _ _)); go_step)
  refine wp_plain [.box 45 (il 16 (d16 a)), .box 45 (il 16 (d16 b)), .imm (.bool false)] (by kernel_rfl) (fun β => ?_) (fun β w1 hD => ?_)
  · refine Obs.cons (Ob.box rfl rfl (by kernel_rfl)) ?_
    refine Obs.cons (Ob.box rfl rfl (by kernel_rfl)) ?_
    refine Obs.cons (Ob.imm rfl (fun w => by kernel_rfl)) ?_
    exact Obs.nil
  have h0 := (hD.bx 0 _ _ rfl).2
  have h1 := (hD.bx 1 _ _ rfl).2
  have hW := hD.gr
  clear hD
  simp only [finAct, putAll, valsFrom, Plan.value, Act.put, List.setIfInBounds_toArray, List.set_cons_zero, List.set_cons_succ]
  generalize β 0 = b0 at *
  generalize β (0 + 1) = b1 at *
  go_wp2
  go_loopw [5] (fun v wr => ∃ k : Nat, v = .int .i64 ((k : Int) - 1) ∧ k ≤ 16 ∧ (∀ j, k ≤ j → j < 16 → d16 a j = d16 b j) ∧ wr.rangeAt b0 0 (il 16 (d16 a)) ∧ wr.rangeAt b1 0 (il 16 (d16 b)) ∧ Grown w wr) (fun v _ => (intOf v + 1).toNat)
  case atStart => exact ⟨16, rfl, by decide, fun j h1 h2 => absurd h2 (by omega), h0, h1, hW⟩
  case round =>
    obtain ⟨k, rfl, hk, heq, h0, h1, hW⟩ := hrel
    cases k with
    | zero =>
      have e := d16_inj ha hb (fun j hj => heq j (Nat.zero_le _) hj)
      clear heq hk
      repeat ((fail_if_success (with_reducible show Code.wp _ (Code.region _ _ _) _ _ _)); go_step)
      refine wp_plain [.imm (.int .i64 (((0 : Nat) : Int) - 1)), .imm (.bool false)] (by kernel_rfl) (fun β => ?_) (fun β w2 hD => ?_)
      · refine Obs.cons (Ob.imm rfl (fun w => by kernel_rfl)) ?_
        refine Obs.cons (Ob.imm rfl (fun w => exec_geqZ (((0 : Nat) : Int) - 1) 0 rfl (by kernel_rfl) (by kernel_rfl) false (by decide))) ?_
        exact Obs.nil
      replace hW := grown_trans hW hD.gr
      clear hD
      simp only [finAct, putAll, valsFrom, Plan.value, Act.put, List.setIfInBounds_toArray, List.set_cons_zero, List.set_cons_succ]
      repeat ((fail_if_success (with_reducible show Code.wp _ (Code.region _ _ _) _ _ _)); go_step)
      refine wp_plain [.imm (.bool false)] (by kernel_rfl) (fun β => ?_) (fun β w3 hD => ?_)
      · refine Obs.cons (Ob.imm rfl (fun w => by kernel_rfl)) ?_
        exact Obs.nil
      replace hW := grown_trans hW hD.gr
      clear hD
      simp only [finAct, putAll, valsFrom, Plan.value, Act.put, List.setIfInBounds_toArray, List.set_cons_zero, List.set_cons_succ]
      repeat go_step
      go_ret
      exact ⟨by rw [decide_eq_false (by omega)]; rfl, hW⟩
    | succ i =>
      have hi : i < 16 := by omega
      rw [show ((i + 1 : Nat) : Int) - 1 = (i : Int) by omega]
      repeat ((fail_if_success (with_reducible show Code.wp _ (Code.region _ _ _) _ _ _)); go_step)
      refine wp_plain [.imm (.int .i64 (i : Int)), .imm (.bool true)] (by kernel_rfl) (fun β => ?_) (fun β w2 hD => ?_)
      · refine Obs.cons (Ob.imm rfl (fun w => by kernel_rfl)) ?_
        refine Obs.cons (Ob.imm rfl (fun w => exec_geqZ (i : Int) 0 rfl (by kernel_rfl) (by kernel_rfl) true (decide_eq_true (by omega)))) ?_
        exact Obs.nil
      replace h0 := rangeAt_grown h0 hD.gr
      replace h1 := rangeAt_grown h1 hD.gr
      replace hW := grown_trans hW hD.gr
      clear hD
      replace h0 := rangeAt_grown h0 (gdrew w2)
      replace h1 := rangeAt_grown h1 (gdrew w2)
      replace hW := grown_trans hW (gdrew w2)
      simp only [finAct, putAll, valsFrom, Plan.value, Act.put, List.setIfInBounds_toArray, List.set_cons_zero, List.set_cons_succ]
      repeat ((fail_if_success (with_reducible show Code.wp _ (Code.region _ _ _) _ _ _)); go_step)
      have hxa := cell_i h0 hi
      have hxb := cell_i h1 hi
      have hlt1 : d16 a i < d16 b i → a < b := d16_lt ha hb hi (fun j hj h2 => heq j hj h2)
      have hlt2 : d16 b i < d16 a i → b < a := d16_lt hb ha hi (fun j hj h2 => (heq j hj h2).symm)
      obtain ⟨x, ex⟩ : ∃ x, x = d16 a i := ⟨_, rfl⟩
      obtain ⟨y, ey⟩ : ∃ y, y = d16 b i := ⟨_, rfl⟩
      rw [← ex] at hxa hlt1 hlt2
      rw [← ey] at hxb hlt1 hlt2
      by_cases hc : x = y
      · refine wp_loose [.imm (.int .i64 (i : Int)), .imm (.pointer (some ⟨b0, i, none⟩)), .val (.int .i64 x), .imm (.int .i64 (i : Int)), .imm (.pointer (some ⟨b1, i, none⟩)), .val (.int .i64 y), .imm (.bool false)] (by kernel_rfl) (by kernel_rfl) (fun β => ?_) (fun β w3 hD => ?_)
        · refine Obs.cons (Ob.imm rfl (fun w => by kernel_rfl)) ?_
          refine Obs.cons (Ob.imm rfl (fun w => exec_idxS i hi rfl (by kernel_rfl) (by kernel_rfl))) ?_
          refine Obs.cons (Ob.load1 b0 i rfl rfl (by kernel_rfl) (block_lt_of_cell hxa) hxa (fun w h => run_loadI w h)) ?_
          refine Obs.cons (Ob.imm rfl (fun w => by kernel_rfl)) ?_
          refine Obs.cons (Ob.imm rfl (fun w => exec_idxS i hi rfl (by kernel_rfl) (by kernel_rfl))) ?_
          refine Obs.cons (Ob.load1 b1 i rfl rfl (by kernel_rfl) (block_lt_of_cell hxb) hxb (fun w h => run_loadI w h)) ?_
          refine Obs.cons (Ob.imm rfl (fun w => exec_neqI rfl x y (by kernel_rfl) (by kernel_rfl) false (by rw [decide_eq_true hc]; rfl))) ?_
          exact Obs.nil
        replace h0 := rangeAt_grown h0 hD.gr
        replace h1 := rangeAt_grown h1 hD.gr
        replace hW := grown_trans hW hD.gr
        clear hD
        have hii := Hid.of (show ∀ j, i ≤ j → j < 16 → d16 a j = d16 b j from fun j hj h2 => by
          by_cases e : j = i
          · subst e; rw [← ex, ← ey, hc]
          · exact heq j (by omega) h2)
        have hH := Hid.of (And.intro h0 (And.intro h1 hW))
        have hi2 := Hid.of hi
        have eL := Hid.of (show wrap64 ((i : Int) - 1) = (i : Int) - 1 by unfold wrap64; omega)
        clear heq hxa hxb hlt1 hlt2 ex ey hc h0 h1 hW hi hk
        simp only [finAct, putAll, valsFrom, Plan.value, Act.put, List.setIfInBounds_toArray, List.set_cons_zero, List.set_cons_succ]
        go_wp2
        rw [eL.out]
        exact ⟨⟨i, rfl, by have := hi2.out; omega, hii.out, hH.out.1, hH.out.2.1, hH.out.2.2⟩, by simp [intOf]⟩
      · refine wp_loose [.imm (.int .i64 (i : Int)), .imm (.pointer (some ⟨b0, i, none⟩)), .val (.int .i64 x), .imm (.int .i64 (i : Int)), .imm (.pointer (some ⟨b1, i, none⟩)), .val (.int .i64 y), .imm (.bool true)] (by kernel_rfl) (by kernel_rfl) (fun β => ?_) (fun β w3 hD => ?_)
        · refine Obs.cons (Ob.imm rfl (fun w => by kernel_rfl)) ?_
          refine Obs.cons (Ob.imm rfl (fun w => exec_idxS i hi rfl (by kernel_rfl) (by kernel_rfl))) ?_
          refine Obs.cons (Ob.load1 b0 i rfl rfl (by kernel_rfl) (block_lt_of_cell hxa) hxa (fun w h => run_loadI w h)) ?_
          refine Obs.cons (Ob.imm rfl (fun w => by kernel_rfl)) ?_
          refine Obs.cons (Ob.imm rfl (fun w => exec_idxS i hi rfl (by kernel_rfl) (by kernel_rfl))) ?_
          refine Obs.cons (Ob.load1 b1 i rfl rfl (by kernel_rfl) (block_lt_of_cell hxb) hxb (fun w h => run_loadI w h)) ?_
          refine Obs.cons (Ob.imm rfl (fun w => exec_neqI rfl x y (by kernel_rfl) (by kernel_rfl) true (by rw [decide_eq_false hc]; rfl))) ?_
          exact Obs.nil
        replace h0 := rangeAt_grown h0 hD.gr
        replace h1 := rangeAt_grown h1 hD.gr
        replace hW := grown_trans hW hD.gr
        clear hD
        replace h0 := rangeAt_grown h0 (gdrew w3)
        replace h1 := rangeAt_grown h1 (gdrew w3)
        replace hW := grown_trans hW (gdrew w3)
        clear hxa hxb
        simp only [finAct, putAll, valsFrom, Plan.value, Act.put, List.setIfInBounds_toArray, List.set_cons_zero, List.set_cons_succ]
        repeat ((fail_if_success (with_reducible show Code.wp _ (Code.region _ _ _) _ _ _)); go_step)
        have hxa : w3.drew.cell? ⟨b0, i, none⟩ = some (.int .i64 x) := by rw [ex]; exact cell_i h0 hi
        have hxb : w3.drew.cell? ⟨b1, i, none⟩ = some (.int .i64 y) := by rw [ey]; exact cell_i h1 hi
        refine wp_loose [.imm (.int .i64 (i : Int)), .imm (.pointer (some ⟨b0, i, none⟩)), .val (.int .i64 x), .imm (.int .i64 (i : Int)), .imm (.pointer (some ⟨b1, i, none⟩)), .val (.int .i64 y), .imm (.bool (decide (a < b))), .imm (.bool (decide (a < b)))] (by kernel_rfl) (by kernel_rfl) (fun β => ?_) (fun β w4 hD => ?_)
        · refine Obs.cons (Ob.imm rfl (fun w => by kernel_rfl)) ?_
          refine Obs.cons (Ob.imm rfl (fun w => exec_idxS i hi rfl (by kernel_rfl) (by kernel_rfl))) ?_
          refine Obs.cons (Ob.load1 b0 i rfl rfl (by kernel_rfl) (block_lt_of_cell hxa) hxa (fun w h => run_loadI w h)) ?_
          refine Obs.cons (Ob.imm rfl (fun w => by kernel_rfl)) ?_
          refine Obs.cons (Ob.imm rfl (fun w => exec_idxS i hi rfl (by kernel_rfl) (by kernel_rfl))) ?_
          refine Obs.cons (Ob.load1 b1 i rfl rfl (by kernel_rfl) (block_lt_of_cell hxb) hxb (fun w h => run_loadI w h)) ?_
          refine Obs.cons (Ob.imm rfl (fun w => exec_lssI rfl x y (by kernel_rfl) (by kernel_rfl) (decide (a < b)) (decide_eq_decide.2 (by constructor <;> intro h <;> omega)))) ?_
          refine Obs.cons (Ob.imm rfl (fun w => by kernel_rfl)) ?_
          exact Obs.nil
        replace h0 := rangeAt_grown h0 hD.gr
        replace h1 := rangeAt_grown h1 hD.gr
        replace hW := grown_trans hW hD.gr
        clear hD
        simp only [finAct, putAll, valsFrom, Plan.value, Act.put, List.setIfInBounds_toArray, List.set_cons_zero, List.set_cons_succ]
        repeat go_step
        go_ret
        exact ⟨rfl, hW⟩

end Go.Proofs.YtkegcilcapnpdaaDoor
