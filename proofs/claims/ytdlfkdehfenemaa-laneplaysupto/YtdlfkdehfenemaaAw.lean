import Derived.Test.YtdlfkdehfenemaaAv
import Derived.Carry
namespace Go.Proofs.Ytdlfkdehfenemaa
open Go.RowKit Go.Conc TextNum
def zer (n : Nat) : List Value := (List.replicate n [Value.chan none, .bool false, .int .i64 0]).flatten
theorem zer_len (n : Nat) : (zer n).length = 3 * n := by
  unfold zer
  induction n with
  | zero => rfl
  | succ n ih => rw [List.replicate_succ, List.flatten_cons, List.length_append, ih]; simp; omega
theorem zer_succ (n : Nat) : zer (n + 1) = [.chan none, .bool false, .int .i64 0] ++ zer n := by
  unfold zer
  rw [List.replicate_succ, List.flatten_cons]
theorem zer_get : ∀ (n j : Nat), j < 3 * n → (zer n)[j]? = #[Value.chan none, .bool false, .int .i64 0][j % 3]?
  | 0, j, h => by omega
  | n + 1, j, h => by
    rw [zer_succ]
    by_cases hj : j < 3
    · rw [List.getElem?_append_left (by simpa using hj), Nat.mod_eq_of_lt hj]
      simp
    · rw [List.getElem?_append_right (by simp; omega)]
      have := zer_get n (j - 3) (by omega)
      simp only [List.length_cons, List.length_nil]
      rw [this, show (j - 3) % 3 = j % 3 by omega]
theorem made_zer (n : Nat) : madeCells (Value.agg #[.chan none, .bool false, .int .i64 0]).cells (n * 3) = (zer n).toArray := by
  apply Array.ext_getElem?
  intro j
  by_cases hj : j < n * 3
  · rw [List.getElem?_toArray (xs := zer n), zer_get n j (by omega)]
    have h3 : j % 3 < 3 := Nat.mod_lt _ (by decide)
    unfold madeCells
    simp only [Array.getElem?_map, Array.getElem?_range, hj, if_true, Option.map_some, Value.cells]
    show some ((#[Value.chan none, .bool false, .int .i64 0] : Array Value)[j % 3]!) = _
    rw [getElem!_pos _ _ (by simpa using h3), Array.getElem?_eq_getElem (by simpa using h3)]
  · rw [Array.getElem?_eq_none (by rw [size_madeCells]; omega), List.getElem?_toArray (xs := zer n), List.getElem?_eq_none (by rw [zer_len]; omega)]
theorem mkPipes (n : Nat) (hn : n ≤ 64) (w : World) : (Instr.makeSlice 80 (.int .i64 (n : Int)) (.int .i64 (n : Int))).run Try.prog w = .ok (.slice (some ⟨w.heap.size, 0, none⟩) n n) (w.alloc (.cells (zer n).toArray 87)) := by
  obtain ⟨i0, hi, hz0, hz1, hz2⟩ := info_parts infoPipe
  have := run_make (P := Try.prog) w 80 87 i0 _ Try.underlying80 hi hz0 .i64 .i64 (n : Int) (n : Int) (by omega) (by omega) (by rw [hz2]; omega) (by omega)
  rw [hz1] at this
  simp only [Int.toNat_natCast] at this
  rw [made_zer] at this
  exact this
theorem mkChan (w : World) : (Instr.makeChan 85 (.int .i64 64)).run Try.prog w = .ok (.chan (some w.heap.size)) (w.alloc (.chan 64 #[] false 0 0 false)) := by
  have h : (Try.prog.info? 47).map (·.bytes) = some 24 := by kernel_rfl
  obtain ⟨i, hi, hb⟩ := Option.map_eq_some_iff.1 h
  simpa using run_makeChan (P := Try.prog) (w := w) Try.underlying85 hi .i64 64 (by omega) (by rw [hb]; omega)
/-- a lane at the beginning -/
def mkL (c : Nat) : LC := ⟨c, [], false, 0, 0, 0⟩
/-- what stands when the net's cells are laid -/
structure NB (w w' : World) (n pb mb nb : Nat) (fv : Value) (fs : List (Int × Int)) (cells : List Value) : Prop where
  up : Up w w'
  net : At w' nb 84 [.slice (some ⟨pb, 0, none⟩) n n, fv, .int .i64 0, .map (some mb)]
  row : At w' pb 87 cells
  mm : MM w' mb 0 (fun _ => nilS)
  fts : Fts w' fv fs
  bn : w.heap.size ≤ nb
  bp : w.heap.size ≤ pb
  bm : w.heap.size ≤ mb
  bf : ∀ g, fv.ownBlock = some g → w.heap.size ≤ g
theorem NB.up' {w w' w2 : World} {n pb mb nb : Nat} {fv : Value} {fs : List (Int × Int)} {cs : List Value} (h : NB w w' n pb mb nb fv fs cs) (u : Up w' w2) : NB w w2 n pb mb nb fv fs cs :=
  ⟨h.up.trans u, h.net.up u, h.row.up u, (fr_of_up (fun _ => False) u).mm h.mm (fun h => h), h.fts.up u, h.bn, h.bp, h.bm, h.bf⟩
abbrev Nwp (w : World) (n : Nat) (fs : List (Int × Int)) (A : Nat → Nat → Nat → Option Addr → Nat → Act) : Exit → Act → World → Prop
  | .normal, a, w' => ∃ pb mb nb fa fcp, a = A pb mb nb fa fcp ∧ NB w w' n pb mb nb (.slice fa fs.length fcp) fs (zer n)
  | _, _, _ => False
theorem wp_new {P : Program} {c : Code} {Q : Exit → Act → World → Prop} {a : Act} {w1 : World} (w : World) (n : Nat) (fs : List (Int × Int)) (A : Nat → Nat → Nat → Option Addr → Nat → Act) (h : c.wp P (Nwp w n fs A) a w1) (k : ∀ pb mb nb fa fcp w', NB w w' n pb mb nb (.slice fa fs.length fcp) fs (zer n) → Q Exit.normal (A pb mb nb fa fcp) w') : c.wp P Q a w1 :=
  Code.wp_mono (fun e a' w' h => by
    cases e with
    | normal => obtain ⟨pb, mb, nb, fa, fcp, rfl, h2⟩ := h; exact k pb mb nb fa fcp w' h2
    | _ => exact h.elim) h
set_option maxRecDepth 100000 in
theorem New_lanes (w : World) (z : Int) (v : Value) (hz : z < 1 ∨ 64 < z) : Calls Try.prog 12 #[.int .i64 z, v] w fun e w' => e = .returned (.tuple #[.pointer none, .int .i64 1]) ∧ w' = w := by
  by_cases h1 : z < 1
  · go_enter Try.func12, Try.ntmps12
    go_wp2
    go_ret2
    exact ⟨rfl, rfl⟩
  · have h2 : 64 < z := by omega
    go_enter Try.func12, Try.ntmps12
    go_wp2
    go_ret2
    exact ⟨rfl, rfl⟩
set_option maxRecDepth 100000 in
theorem New_fates (w : World) (n : Nat) (v : Value) (fs : List (Int × Int)) (h1 : 1 ≤ n) (h2 : n ≤ 64) (hf : Fts w v fs) (hle : fs.length ≤ 4611686018427387904) (he : fateE fs ≠ 0) : Calls Try.prog 12 #[.int .i64 (n : Int), v] w fun e w' => e = .returned (.tuple #[.pointer none, .int .i64 (fateE fs)]) ∧ Up w w' := by
  have hF := fatesError_walk w v fs hf hle
  have z1 : ¬ ((n : Int) < 1) := by omega
  have z2 : ¬ ((64 : Int) < (n : Int)) := by omega
  clear hf
  generalize fateE fs = q at *
  go_enter Try.func12, Try.ntmps12
  go_wp2_with fail
  refine hF.mono ?_
  rintro e w1 ⟨rfl, u⟩
  have HU := Hid.of u
  clear u
  dsimp only
  go_wp2
  go_ret2
  exact ⟨rfl, HU.out⟩
set_option maxRecDepth 100000 in
set_option maxHeartbeats 2000000 in
theorem New_yes (w : World) (n : Nat) (v : Value) (fs : List (Int × Int)) (h1 : 1 ≤ n) (h2 : n ≤ 64) (hf : Fts w v fs) (he : fateE fs = 0) : Calls Try.prog 12 #[.int .i64 (n : Int), v] w fun e w' => ∃ S, e = .returned (.tuple #[.pointer (some ⟨S.nb, 0, none⟩), .int .i64 0]) ∧ NOk w' S ∧ SOk S ∧ abs S = ⟨0, fs, List.replicate n ([], false), []⟩ ∧ S.mn = 0 ∧ Up w w' ∧ (∀ x, own S x → w.heap.size ≤ x) ∧ ∀ x, rds S x → w.heap.size ≤ x := by
  have hfl : fs.length ≤ 65536 := by
    unfold fateE at he
    by_cases h : 65536 < fs.length
    · rw [if_pos h] at he; cases he
    · omega
  have hF := fatesError_walk w v fs hf (by omega)
  rw [he] at hF
  have HE := Hid.of he
  have HFT := Hid.of hf
  have z1 : ¬ ((n : Int) < 1) := by omega
  have z2 : ¬ ((64 : Int) < (n : Int)) := by omega
  obtain ⟨va, vc, rfl, _⟩ := id hf
  clear hf he
  go_enter Try.func12, Try.ntmps12
  go_wp2_with fail
  refine hF.mono ?_
  rintro e w1 ⟨rfl, u1⟩
  have HU1 := Hid.of u1
  have HF1 := Hid.of (HFT.out.up u1)
  clear u1 hF HFT
  dsimp only
  go_wp2
  apply wp_new w n fs (fun pb mb nb fa fcp => ⟨#[.int .i64 (n : Int), .slice va fs.length vc, undef, undef, .pointer none, .int .i64 0, .int .i64 0, .pointer (some ⟨nb, 0, none⟩), undef, .int .i64 (n : Int), .bool false, .bool false, .int .i64 (n : Int), .bool false, .bool false, .slice va fs.length vc, .int .i64 0, .int .i64 0, .bool false, undef, .int .i64 (n : Int), .slice (some ⟨pb, 0, none⟩) n n, .slice va fs.length vc, .slice fa fs.length fcp, .map (some mb), .agg #[.slice (some ⟨pb, 0, none⟩) n n, .slice fa fs.length fcp, .int .i64 0, .map (some mb)], .pointer (some ⟨nb, 0, none⟩), undef, undef, undef, undef, undef, undef, undef, undef, undef, undef, undef, undef, undef, undef, undef, undef, undef, undef], []⟩)
  case h =>
    refine wp_region_held_drew (S := fun wz => Up w1 wz) (by kernel_rfl) (Up.refl w1).drew (fun hS => ?_)
    refine wpAnyH_take (i := 0) (oi := { dst := some 20, op := Go.Op.move (Go.Operand.tmp 0), type := 3, pos := "lane.go:48", after := #[], guard := none }) (v := .int .i64 (n : Int)) rfl (by kernel_rfl) (by kernel_rfl) (by kernel_rfl) (fun _ _ _ h => h) (Or.inl ⟨by kernel_rfl, ?_⟩) hS ?_
    · intro w5 hSw
      clear hSw hS
      go_simp
    simp only [Act.put, List.setIfInBounds_toArray, List.set_cons_zero, List.set_cons_succ]
    refine wpAnyH_take (i := 2) (oi := { dst := some 22, op := Go.Op.move (Go.Operand.tmp 1), type := 59, pos := "lane.go:48", after := #[], guard := none }) (v := .slice va fs.length vc) rfl (by kernel_rfl) (by kernel_rfl) (by kernel_rfl) (fun _ _ _ h => h) (Or.inl ⟨by kernel_rfl, ?_⟩) hS ?_
    · intro w5 hSw
      clear hSw hS
      go_simp
    simp only [Act.put, List.setIfInBounds_toArray, List.set_cons_zero, List.set_cons_succ]
    have HUw0 := Hid.of (Up.refl w1).drew
    generalize w1.drew = W0 at *
    refine wpAnyH_ready (rs := [1, 3, 4]) (by kernel_rfl) (by simp) ?_
    refine (AllReadyH.cons (o := { dst := some 21, op := Go.Op.makeSlice 80 (Go.Operand.tmp 20) (Go.Operand.tmp 20), type := 80, pos := "lane.go:48", after := #[{ on := 0, ground := Go.Ground.data }, { on := 0, ground := Go.Ground.data }], guard := none }) rfl (fun K hK => ?_) (AllReadyH.cons (o := { dst := some 23, op := Go.Op.call { callee := Go.Callee.value (Go.Operand.func 31), args := #[Go.Operand.tmp 22], argTypes := #[59] }, type := 59, pos := "lane.go:48", after := #[{ on := 2, ground := Go.Ground.data }], guard := none }) rfl (fun K hK => ?_) (AllReadyH.cons (o := { dst := some 24, op := Go.Op.makeMap 82 none, type := 82, pos := "lane.go:48", after := #[], guard := none }) rfl (fun K hK => ?_) AllReadyH.nil)))
    · rw [if_pos (by kernel_rfl)]
      have hmk := mkPipes n h2 (W0)
      go_simp
      have HUw1 := Hid.of ((HUw0.out).alloc (.cells (zer n).toArray 87))
      have HPB := Hid.of (at_new (W0) 87 (zer n))
      have HBP := Hid.of (show w1.heap.size ≤ (W0).heap.size from (HUw0.out).size)
      have HUs := Hid.of ((Up.refl (W0)).alloc (.cells (zer n).toArray 87))
      clear hmk hS
      generalize hpb : (W0).heap.size = pb at *
      generalize hW1 : (W0).alloc (.cells (zer n).toArray 87) = W1 at *
      clear HUs hW1 hpb
      refine hK.out _ _ HUw1.out (fun hS => ?_)
      clear hK K
      refine wpAnyH_ready (rs := [3, 4]) (by kernel_rfl) (by simp) ?_
      refine (AllReadyH.cons (o := { dst := some 23, op := Go.Op.call { callee := Go.Callee.value (Go.Operand.func 31), args := #[Go.Operand.tmp 22], argTypes := #[59] }, type := 59, pos := "lane.go:48", after := #[{ on := 2, ground := Go.Ground.data }], guard := none }) rfl (fun K hK => ?_) (AllReadyH.cons (o := { dst := some 24, op := Go.Op.makeMap 82 none, type := 82, pos := "lane.go:48", after := #[], guard := none }) rfl (fun K hK => ?_) AllReadyH.nil))
      · rw [if_pos (by kernel_rfl)]
        go_simp
        refine (CloneF_walk (.slice va fs.length vc) fs (W1) (HF1.out.up HUw1.out) hfl).mono ?_
        rintro e W2 ⟨fv0, rfl, o3, u3⟩
        have HUs := Hid.of u3
        obtain ⟨fa, fcp, rfl, _⟩ := id (fts_row o3)
        have HFV := Hid.of (fts_row o3)
        have HBF := Hid.of (fun g (hg : (Value.slice fa fs.length fcp).ownBlock = some g) => Nat.le_trans (HUw1.out).size (World.ownsRow.lt o3 g hg).1)
        have HUw2 := Hid.of ((HUw1.out).trans u3)
        have HPB := Hid.of (HPB.out.up HUs.out)
        clear HUs o3 u3 hS
        dsimp only
        refine hK.out _ _ HUw2.out (fun hS => ?_)
        clear hK K
        refine wpAnyH_ready (rs := [4]) (by kernel_rfl) (by simp) ?_
        refine AllReadyH.cons (o := { dst := some 24, op := Go.Op.makeMap 82 none, type := 82, pos := "lane.go:48", after := #[], guard := none }) rfl (fun K hK => ?_) AllReadyH.nil
        rw [if_pos (by kernel_rfl)]
        have hmm := run_makeMap (P := Try.prog) 82 (W2)
        go_simp
        have HUw3 := Hid.of ((HUw2.out).alloc (.map #[] 0))
        have HMM := Hid.of (MM.made (W2))
        have HBM := Hid.of (show w1.heap.size ≤ (W2).heap.size from (HUw2.out).size)
        have HUs := Hid.of ((Up.refl (W2)).alloc (.map #[] 0))
        clear hS hmm
        generalize hmb : (W2).heap.size = mb at *
        generalize hW3 : (W2).alloc (.map #[] 0) = W3 at *
        have HPB := Hid.of (HPB.out.up HUs.out)
        have HFV := Hid.of (HFV.out.up HUs.out)
        clear HUs hW3 hmb
        refine hK.out _ _ HUw3.out (fun hS => ?_)
        clear hK K
        refine wpAnyH_take (i := 5) (oi := { dst := some 25, op := Go.Op.build 84 #[(0, Go.Operand.tmp 21), (1, Go.Operand.tmp 23), (3, Go.Operand.tmp 24)], type := 84, pos := "lane.go:48", after := #[{ on := 1, ground := Go.Ground.data }, { on := 3, ground := Go.Ground.data }, { on := 4, ground := Go.Ground.data }], guard := none }) (v := .agg #[.slice (some ⟨pb, 0, none⟩) n n, .slice fa fs.length fcp, .int .i64 0, .map (some mb)]) rfl (by kernel_rfl) (by kernel_rfl) (by kernel_rfl) (fun _ _ _ h => h) (Or.inl ⟨by kernel_rfl, ?_⟩) hS ?_
        · intro w5 hSw
          clear hSw hS
          go_simp
        simp only [Act.put, List.setIfInBounds_toArray, List.set_cons_zero, List.set_cons_succ]
        refine wpAnyH_ready (rs := [6]) (by kernel_rfl) (by simp) ?_
        refine AllReadyH.cons (o := { dst := some 26, op := Go.Op.box 84 (Go.Operand.tmp 25), type := 22, pos := "lane.go:48", after := #[{ on := 5, ground := Go.Ground.data }], guard := none }) rfl (fun K hK => ?_) AllReadyH.nil
        rw [if_pos (by kernel_rfl)]
        go_simp
        have HUw4 := Hid.of ((HUw3.out).alloc (.cells #[.slice (some ⟨pb, 0, none⟩) n n, .slice fa fs.length fcp, .int .i64 0, .map (some mb)] 84))
        have HNT := Hid.of (at_new W3 84 [.slice (some ⟨pb, 0, none⟩) n n, .slice fa fs.length fcp, .int .i64 0, .map (some mb)])
        have HBN := Hid.of (show w1.heap.size ≤ W3.heap.size from HUw3.out.size)
        have HUs := Hid.of ((Up.refl W3).alloc (.cells #[.slice (some ⟨pb, 0, none⟩) n n, .slice fa fs.length fcp, .int .i64 0, .map (some mb)] 84))
        clear hS
        generalize hnb : W3.heap.size = nb at *
        generalize hW4 : W3.alloc (.cells #[.slice (some ⟨pb, 0, none⟩) n n, .slice fa fs.length fcp, .int .i64 0, .map (some mb)] 84) = W4 at *
        have HNBB := Hid.of (show NB w W4 n pb mb nb (.slice fa fs.length fcp) fs (zer n) from ⟨HU1.out.trans HUw4.out, HNT.out, HPB.out.up HUs.out, (fr_of_up (fun _ => False) HUs.out).mm HMM.out (fun h => h), HFV.out.up HUs.out, Nat.le_trans HU1.out.size HBN.out, Nat.le_trans HU1.out.size HBP.out, Nat.le_trans HU1.out.size HBM.out, fun g hg => Nat.le_trans HU1.out.size (HBF.out g hg)⟩)
        clear HUs hW4 hnb HNT HBN HPB HMM HFV HBP HBM HBF
        refine hK.out _ _ HUw4.out (fun hS => ?_)
        clear hK K
        refine wpAnyH_ready (rs := [7]) (by kernel_rfl) (by simp) ?_
        refine AllReadyH.cons (o := { dst := some 7, op := Go.Op.assign (Go.Operand.tmp 26), type := 22, pos := "lane.go:48", after := #[{ on := 6, ground := Go.Ground.data }, { on := 3, ground := Go.Ground.chain }, { on := 0, ground := Go.Ground.phase }, { on := 1, ground := Go.Ground.phase }, { on := 2, ground := Go.Ground.phase }, { on := 3, ground := Go.Ground.phase }, { on := 4, ground := Go.Ground.phase }, { on := 5, ground := Go.Ground.phase }, { on := 6, ground := Go.Ground.phase }], guard := none }) rfl (fun K hK => ?_) AllReadyH.nil
        rw [if_pos (by kernel_rfl)]
        go_simp
        refine hK.out _ _ HUw4.out (fun hS => ?_)
        clear hK K hS
        refine wpAnyH_done (by kernel_rfl) ?_ _
        exact ⟨pb, mb, nb, fa, fcp, rfl, HNBB.out⟩
      · rw [if_pos (by kernel_rfl)]
        have hmm := run_makeMap (P := Try.prog) 82 (W1)
        go_simp
        have HUw2 := Hid.of ((HUw1.out).alloc (.map #[] 0))
        have HMM := Hid.of (MM.made (W1))
        have HBM := Hid.of (show w1.heap.size ≤ (W1).heap.size from (HUw1.out).size)
        have HUs := Hid.of ((Up.refl (W1)).alloc (.map #[] 0))
        clear hS hmm
        generalize hmb : (W1).heap.size = mb at *
        generalize hW2 : (W1).alloc (.map #[] 0) = W2 at *
        have HPB := Hid.of (HPB.out.up HUs.out)
        clear HUs hW2 hmb
        refine hK.out _ _ HUw2.out (fun hS => ?_)
        clear hK K
        refine wpAnyH_ready (rs := [3]) (by kernel_rfl) (by simp) ?_
        refine AllReadyH.cons (o := { dst := some 23, op := Go.Op.call { callee := Go.Callee.value (Go.Operand.func 31), args := #[Go.Operand.tmp 22], argTypes := #[59] }, type := 59, pos := "lane.go:48", after := #[{ on := 2, ground := Go.Ground.data }], guard := none }) rfl (fun K hK => ?_) AllReadyH.nil
        rw [if_pos (by kernel_rfl)]
        go_simp
        refine (CloneF_walk (.slice va fs.length vc) fs (W2) (HF1.out.up HUw2.out) hfl).mono ?_
        rintro e W3 ⟨fv0, rfl, o3, u3⟩
        have HUs := Hid.of u3
        obtain ⟨fa, fcp, rfl, _⟩ := id (fts_row o3)
        have HFV := Hid.of (fts_row o3)
        have HBF := Hid.of (fun g (hg : (Value.slice fa fs.length fcp).ownBlock = some g) => Nat.le_trans (HUw2.out).size (World.ownsRow.lt o3 g hg).1)
        have HUw3 := Hid.of ((HUw2.out).trans u3)
        have HPB := Hid.of (HPB.out.up HUs.out)
        have HMM := Hid.of ((fr_of_up (fun _ => False) HUs.out).mm HMM.out (fun h => h))
        clear HUs o3 u3 hS
        dsimp only
        refine hK.out _ _ HUw3.out (fun hS => ?_)
        clear hK K
        refine wpAnyH_take (i := 5) (oi := { dst := some 25, op := Go.Op.build 84 #[(0, Go.Operand.tmp 21), (1, Go.Operand.tmp 23), (3, Go.Operand.tmp 24)], type := 84, pos := "lane.go:48", after := #[{ on := 1, ground := Go.Ground.data }, { on := 3, ground := Go.Ground.data }, { on := 4, ground := Go.Ground.data }], guard := none }) (v := .agg #[.slice (some ⟨pb, 0, none⟩) n n, .slice fa fs.length fcp, .int .i64 0, .map (some mb)]) rfl (by kernel_rfl) (by kernel_rfl) (by kernel_rfl) (fun _ _ _ h => h) (Or.inl ⟨by kernel_rfl, ?_⟩) hS ?_
        · intro w5 hSw
          clear hSw hS
          go_simp
        simp only [Act.put, List.setIfInBounds_toArray, List.set_cons_zero, List.set_cons_succ]
        refine wpAnyH_ready (rs := [6]) (by kernel_rfl) (by simp) ?_
        refine AllReadyH.cons (o := { dst := some 26, op := Go.Op.box 84 (Go.Operand.tmp 25), type := 22, pos := "lane.go:48", after := #[{ on := 5, ground := Go.Ground.data }], guard := none }) rfl (fun K hK => ?_) AllReadyH.nil
        rw [if_pos (by kernel_rfl)]
        go_simp
        have HUw4 := Hid.of ((HUw3.out).alloc (.cells #[.slice (some ⟨pb, 0, none⟩) n n, .slice fa fs.length fcp, .int .i64 0, .map (some mb)] 84))
        have HNT := Hid.of (at_new W3 84 [.slice (some ⟨pb, 0, none⟩) n n, .slice fa fs.length fcp, .int .i64 0, .map (some mb)])
        have HBN := Hid.of (show w1.heap.size ≤ W3.heap.size from HUw3.out.size)
        have HUs := Hid.of ((Up.refl W3).alloc (.cells #[.slice (some ⟨pb, 0, none⟩) n n, .slice fa fs.length fcp, .int .i64 0, .map (some mb)] 84))
        clear hS
        generalize hnb : W3.heap.size = nb at *
        generalize hW4 : W3.alloc (.cells #[.slice (some ⟨pb, 0, none⟩) n n, .slice fa fs.length fcp, .int .i64 0, .map (some mb)] 84) = W4 at *
        have HNBB := Hid.of (show NB w W4 n pb mb nb (.slice fa fs.length fcp) fs (zer n) from ⟨HU1.out.trans HUw4.out, HNT.out, HPB.out.up HUs.out, (fr_of_up (fun _ => False) HUs.out).mm HMM.out (fun h => h), HFV.out.up HUs.out, Nat.le_trans HU1.out.size HBN.out, Nat.le_trans HU1.out.size HBP.out, Nat.le_trans HU1.out.size HBM.out, fun g hg => Nat.le_trans HU1.out.size (HBF.out g hg)⟩)
        clear HUs hW4 hnb HNT HBN HPB HMM HFV HBP HBM HBF
        refine hK.out _ _ HUw4.out (fun hS => ?_)
        clear hK K
        refine wpAnyH_ready (rs := [7]) (by kernel_rfl) (by simp) ?_
        refine AllReadyH.cons (o := { dst := some 7, op := Go.Op.assign (Go.Operand.tmp 26), type := 22, pos := "lane.go:48", after := #[{ on := 6, ground := Go.Ground.data }, { on := 3, ground := Go.Ground.chain }, { on := 0, ground := Go.Ground.phase }, { on := 1, ground := Go.Ground.phase }, { on := 2, ground := Go.Ground.phase }, { on := 3, ground := Go.Ground.phase }, { on := 4, ground := Go.Ground.phase }, { on := 5, ground := Go.Ground.phase }, { on := 6, ground := Go.Ground.phase }], guard := none }) rfl (fun K hK => ?_) AllReadyH.nil
        rw [if_pos (by kernel_rfl)]
        go_simp
        refine hK.out _ _ HUw4.out (fun hS => ?_)
        clear hK K hS
        refine wpAnyH_done (by kernel_rfl) ?_ _
        exact ⟨pb, mb, nb, fa, fcp, rfl, HNBB.out⟩
    · rw [if_pos (by kernel_rfl)]
      go_simp
      refine (CloneF_walk (.slice va fs.length vc) fs (W0) (HF1.out.up HUw0.out) hfl).mono ?_
      rintro e W1 ⟨fv0, rfl, o3, u3⟩
      have HUs := Hid.of u3
      obtain ⟨fa, fcp, rfl, _⟩ := id (fts_row o3)
      have HFV := Hid.of (fts_row o3)
      have HBF := Hid.of (fun g (hg : (Value.slice fa fs.length fcp).ownBlock = some g) => Nat.le_trans (HUw0.out).size (World.ownsRow.lt o3 g hg).1)
      have HUw1 := Hid.of ((HUw0.out).trans u3)
      clear HUs o3 u3 hS
      dsimp only
      refine hK.out _ _ HUw1.out (fun hS => ?_)
      clear hK K
      refine wpAnyH_ready (rs := [1, 4]) (by kernel_rfl) (by simp) ?_
      refine (AllReadyH.cons (o := { dst := some 21, op := Go.Op.makeSlice 80 (Go.Operand.tmp 20) (Go.Operand.tmp 20), type := 80, pos := "lane.go:48", after := #[{ on := 0, ground := Go.Ground.data }, { on := 0, ground := Go.Ground.data }], guard := none }) rfl (fun K hK => ?_) (AllReadyH.cons (o := { dst := some 24, op := Go.Op.makeMap 82 none, type := 82, pos := "lane.go:48", after := #[], guard := none }) rfl (fun K hK => ?_) AllReadyH.nil))
      · rw [if_pos (by kernel_rfl)]
        have hmk := mkPipes n h2 (W1)
        go_simp
        have HUw2 := Hid.of ((HUw1.out).alloc (.cells (zer n).toArray 87))
        have HPB := Hid.of (at_new (W1) 87 (zer n))
        have HBP := Hid.of (show w1.heap.size ≤ (W1).heap.size from (HUw1.out).size)
        have HUs := Hid.of ((Up.refl (W1)).alloc (.cells (zer n).toArray 87))
        clear hmk hS
        generalize hpb : (W1).heap.size = pb at *
        generalize hW2 : (W1).alloc (.cells (zer n).toArray 87) = W2 at *
        have HFV := Hid.of (HFV.out.up HUs.out)
        clear HUs hW2 hpb
        refine hK.out _ _ HUw2.out (fun hS => ?_)
        clear hK K
        refine wpAnyH_ready (rs := [4]) (by kernel_rfl) (by simp) ?_
        refine AllReadyH.cons (o := { dst := some 24, op := Go.Op.makeMap 82 none, type := 82, pos := "lane.go:48", after := #[], guard := none }) rfl (fun K hK => ?_) AllReadyH.nil
        rw [if_pos (by kernel_rfl)]
        have hmm := run_makeMap (P := Try.prog) 82 (W2)
        go_simp
        have HUw3 := Hid.of ((HUw2.out).alloc (.map #[] 0))
        have HMM := Hid.of (MM.made (W2))
        have HBM := Hid.of (show w1.heap.size ≤ (W2).heap.size from (HUw2.out).size)
        have HUs := Hid.of ((Up.refl (W2)).alloc (.map #[] 0))
        clear hS hmm
        generalize hmb : (W2).heap.size = mb at *
        generalize hW3 : (W2).alloc (.map #[] 0) = W3 at *
        have HFV := Hid.of (HFV.out.up HUs.out)
        have HPB := Hid.of (HPB.out.up HUs.out)
        clear HUs hW3 hmb
        refine hK.out _ _ HUw3.out (fun hS => ?_)
        clear hK K
        refine wpAnyH_take (i := 5) (oi := { dst := some 25, op := Go.Op.build 84 #[(0, Go.Operand.tmp 21), (1, Go.Operand.tmp 23), (3, Go.Operand.tmp 24)], type := 84, pos := "lane.go:48", after := #[{ on := 1, ground := Go.Ground.data }, { on := 3, ground := Go.Ground.data }, { on := 4, ground := Go.Ground.data }], guard := none }) (v := .agg #[.slice (some ⟨pb, 0, none⟩) n n, .slice fa fs.length fcp, .int .i64 0, .map (some mb)]) rfl (by kernel_rfl) (by kernel_rfl) (by kernel_rfl) (fun _ _ _ h => h) (Or.inl ⟨by kernel_rfl, ?_⟩) hS ?_
        · intro w5 hSw
          clear hSw hS
          go_simp
        simp only [Act.put, List.setIfInBounds_toArray, List.set_cons_zero, List.set_cons_succ]
        refine wpAnyH_ready (rs := [6]) (by kernel_rfl) (by simp) ?_
        refine AllReadyH.cons (o := { dst := some 26, op := Go.Op.box 84 (Go.Operand.tmp 25), type := 22, pos := "lane.go:48", after := #[{ on := 5, ground := Go.Ground.data }], guard := none }) rfl (fun K hK => ?_) AllReadyH.nil
        rw [if_pos (by kernel_rfl)]
        go_simp
        have HUw4 := Hid.of ((HUw3.out).alloc (.cells #[.slice (some ⟨pb, 0, none⟩) n n, .slice fa fs.length fcp, .int .i64 0, .map (some mb)] 84))
        have HNT := Hid.of (at_new W3 84 [.slice (some ⟨pb, 0, none⟩) n n, .slice fa fs.length fcp, .int .i64 0, .map (some mb)])
        have HBN := Hid.of (show w1.heap.size ≤ W3.heap.size from HUw3.out.size)
        have HUs := Hid.of ((Up.refl W3).alloc (.cells #[.slice (some ⟨pb, 0, none⟩) n n, .slice fa fs.length fcp, .int .i64 0, .map (some mb)] 84))
        clear hS
        generalize hnb : W3.heap.size = nb at *
        generalize hW4 : W3.alloc (.cells #[.slice (some ⟨pb, 0, none⟩) n n, .slice fa fs.length fcp, .int .i64 0, .map (some mb)] 84) = W4 at *
        have HNBB := Hid.of (show NB w W4 n pb mb nb (.slice fa fs.length fcp) fs (zer n) from ⟨HU1.out.trans HUw4.out, HNT.out, HPB.out.up HUs.out, (fr_of_up (fun _ => False) HUs.out).mm HMM.out (fun h => h), HFV.out.up HUs.out, Nat.le_trans HU1.out.size HBN.out, Nat.le_trans HU1.out.size HBP.out, Nat.le_trans HU1.out.size HBM.out, fun g hg => Nat.le_trans HU1.out.size (HBF.out g hg)⟩)
        clear HUs hW4 hnb HNT HBN HPB HMM HFV HBP HBM HBF
        refine hK.out _ _ HUw4.out (fun hS => ?_)
        clear hK K
        refine wpAnyH_ready (rs := [7]) (by kernel_rfl) (by simp) ?_
        refine AllReadyH.cons (o := { dst := some 7, op := Go.Op.assign (Go.Operand.tmp 26), type := 22, pos := "lane.go:48", after := #[{ on := 6, ground := Go.Ground.data }, { on := 3, ground := Go.Ground.chain }, { on := 0, ground := Go.Ground.phase }, { on := 1, ground := Go.Ground.phase }, { on := 2, ground := Go.Ground.phase }, { on := 3, ground := Go.Ground.phase }, { on := 4, ground := Go.Ground.phase }, { on := 5, ground := Go.Ground.phase }, { on := 6, ground := Go.Ground.phase }], guard := none }) rfl (fun K hK => ?_) AllReadyH.nil
        rw [if_pos (by kernel_rfl)]
        go_simp
        refine hK.out _ _ HUw4.out (fun hS => ?_)
        clear hK K hS
        refine wpAnyH_done (by kernel_rfl) ?_ _
        exact ⟨pb, mb, nb, fa, fcp, rfl, HNBB.out⟩
      · rw [if_pos (by kernel_rfl)]
        have hmm := run_makeMap (P := Try.prog) 82 (W1)
        go_simp
        have HUw2 := Hid.of ((HUw1.out).alloc (.map #[] 0))
        have HMM := Hid.of (MM.made (W1))
        have HBM := Hid.of (show w1.heap.size ≤ (W1).heap.size from (HUw1.out).size)
        have HUs := Hid.of ((Up.refl (W1)).alloc (.map #[] 0))
        clear hS hmm
        generalize hmb : (W1).heap.size = mb at *
        generalize hW2 : (W1).alloc (.map #[] 0) = W2 at *
        have HFV := Hid.of (HFV.out.up HUs.out)
        clear HUs hW2 hmb
        refine hK.out _ _ HUw2.out (fun hS => ?_)
        clear hK K
        refine wpAnyH_ready (rs := [1]) (by kernel_rfl) (by simp) ?_
        refine AllReadyH.cons (o := { dst := some 21, op := Go.Op.makeSlice 80 (Go.Operand.tmp 20) (Go.Operand.tmp 20), type := 80, pos := "lane.go:48", after := #[{ on := 0, ground := Go.Ground.data }, { on := 0, ground := Go.Ground.data }], guard := none }) rfl (fun K hK => ?_) AllReadyH.nil
        rw [if_pos (by kernel_rfl)]
        have hmk := mkPipes n h2 (W2)
        go_simp
        have HUw3 := Hid.of ((HUw2.out).alloc (.cells (zer n).toArray 87))
        have HPB := Hid.of (at_new (W2) 87 (zer n))
        have HBP := Hid.of (show w1.heap.size ≤ (W2).heap.size from (HUw2.out).size)
        have HUs := Hid.of ((Up.refl (W2)).alloc (.cells (zer n).toArray 87))
        clear hmk hS
        generalize hpb : (W2).heap.size = pb at *
        generalize hW3 : (W2).alloc (.cells (zer n).toArray 87) = W3 at *
        have HFV := Hid.of (HFV.out.up HUs.out)
        have HMM := Hid.of ((fr_of_up (fun _ => False) HUs.out).mm HMM.out (fun h => h))
        clear HUs hW3 hpb
        refine hK.out _ _ HUw3.out (fun hS => ?_)
        clear hK K
        refine wpAnyH_take (i := 5) (oi := { dst := some 25, op := Go.Op.build 84 #[(0, Go.Operand.tmp 21), (1, Go.Operand.tmp 23), (3, Go.Operand.tmp 24)], type := 84, pos := "lane.go:48", after := #[{ on := 1, ground := Go.Ground.data }, { on := 3, ground := Go.Ground.data }, { on := 4, ground := Go.Ground.data }], guard := none }) (v := .agg #[.slice (some ⟨pb, 0, none⟩) n n, .slice fa fs.length fcp, .int .i64 0, .map (some mb)]) rfl (by kernel_rfl) (by kernel_rfl) (by kernel_rfl) (fun _ _ _ h => h) (Or.inl ⟨by kernel_rfl, ?_⟩) hS ?_
        · intro w5 hSw
          clear hSw hS
          go_simp
        simp only [Act.put, List.setIfInBounds_toArray, List.set_cons_zero, List.set_cons_succ]
        refine wpAnyH_ready (rs := [6]) (by kernel_rfl) (by simp) ?_
        refine AllReadyH.cons (o := { dst := some 26, op := Go.Op.box 84 (Go.Operand.tmp 25), type := 22, pos := "lane.go:48", after := #[{ on := 5, ground := Go.Ground.data }], guard := none }) rfl (fun K hK => ?_) AllReadyH.nil
        rw [if_pos (by kernel_rfl)]
        go_simp
        have HUw4 := Hid.of ((HUw3.out).alloc (.cells #[.slice (some ⟨pb, 0, none⟩) n n, .slice fa fs.length fcp, .int .i64 0, .map (some mb)] 84))
        have HNT := Hid.of (at_new W3 84 [.slice (some ⟨pb, 0, none⟩) n n, .slice fa fs.length fcp, .int .i64 0, .map (some mb)])
        have HBN := Hid.of (show w1.heap.size ≤ W3.heap.size from HUw3.out.size)
        have HUs := Hid.of ((Up.refl W3).alloc (.cells #[.slice (some ⟨pb, 0, none⟩) n n, .slice fa fs.length fcp, .int .i64 0, .map (some mb)] 84))
        clear hS
        generalize hnb : W3.heap.size = nb at *
        generalize hW4 : W3.alloc (.cells #[.slice (some ⟨pb, 0, none⟩) n n, .slice fa fs.length fcp, .int .i64 0, .map (some mb)] 84) = W4 at *
        have HNBB := Hid.of (show NB w W4 n pb mb nb (.slice fa fs.length fcp) fs (zer n) from ⟨HU1.out.trans HUw4.out, HNT.out, HPB.out.up HUs.out, (fr_of_up (fun _ => False) HUs.out).mm HMM.out (fun h => h), HFV.out.up HUs.out, Nat.le_trans HU1.out.size HBN.out, Nat.le_trans HU1.out.size HBP.out, Nat.le_trans HU1.out.size HBM.out, fun g hg => Nat.le_trans HU1.out.size (HBF.out g hg)⟩)
        clear HUs hW4 hnb HNT HBN HPB HMM HFV HBP HBM HBF
        refine hK.out _ _ HUw4.out (fun hS => ?_)
        clear hK K
        refine wpAnyH_ready (rs := [7]) (by kernel_rfl) (by simp) ?_
        refine AllReadyH.cons (o := { dst := some 7, op := Go.Op.assign (Go.Operand.tmp 26), type := 22, pos := "lane.go:48", after := #[{ on := 6, ground := Go.Ground.data }, { on := 3, ground := Go.Ground.chain }, { on := 0, ground := Go.Ground.phase }, { on := 1, ground := Go.Ground.phase }, { on := 2, ground := Go.Ground.phase }, { on := 3, ground := Go.Ground.phase }, { on := 4, ground := Go.Ground.phase }, { on := 5, ground := Go.Ground.phase }, { on := 6, ground := Go.Ground.phase }], guard := none }) rfl (fun K hK => ?_) AllReadyH.nil
        rw [if_pos (by kernel_rfl)]
        go_simp
        refine hK.out _ _ HUw4.out (fun hS => ?_)
        clear hK K hS
        refine wpAnyH_done (by kernel_rfl) ?_ _
        exact ⟨pb, mb, nb, fa, fcp, rfl, HNBB.out⟩
    · rw [if_pos (by kernel_rfl)]
      have hmm := run_makeMap (P := Try.prog) 82 (W0)
      go_simp
      have HUw1 := Hid.of ((HUw0.out).alloc (.map #[] 0))
      have HMM := Hid.of (MM.made (W0))
      have HBM := Hid.of (show w1.heap.size ≤ (W0).heap.size from (HUw0.out).size)
      have HUs := Hid.of ((Up.refl (W0)).alloc (.map #[] 0))
      clear hS hmm
      generalize hmb : (W0).heap.size = mb at *
      generalize hW1 : (W0).alloc (.map #[] 0) = W1 at *
      clear HUs hW1 hmb
      refine hK.out _ _ HUw1.out (fun hS => ?_)
      clear hK K
      refine wpAnyH_ready (rs := [1, 3]) (by kernel_rfl) (by simp) ?_
      refine (AllReadyH.cons (o := { dst := some 21, op := Go.Op.makeSlice 80 (Go.Operand.tmp 20) (Go.Operand.tmp 20), type := 80, pos := "lane.go:48", after := #[{ on := 0, ground := Go.Ground.data }, { on := 0, ground := Go.Ground.data }], guard := none }) rfl (fun K hK => ?_) (AllReadyH.cons (o := { dst := some 23, op := Go.Op.call { callee := Go.Callee.value (Go.Operand.func 31), args := #[Go.Operand.tmp 22], argTypes := #[59] }, type := 59, pos := "lane.go:48", after := #[{ on := 2, ground := Go.Ground.data }], guard := none }) rfl (fun K hK => ?_) AllReadyH.nil))
      · rw [if_pos (by kernel_rfl)]
        have hmk := mkPipes n h2 (W1)
        go_simp
        have HUw2 := Hid.of ((HUw1.out).alloc (.cells (zer n).toArray 87))
        have HPB := Hid.of (at_new (W1) 87 (zer n))
        have HBP := Hid.of (show w1.heap.size ≤ (W1).heap.size from (HUw1.out).size)
        have HUs := Hid.of ((Up.refl (W1)).alloc (.cells (zer n).toArray 87))
        clear hmk hS
        generalize hpb : (W1).heap.size = pb at *
        generalize hW2 : (W1).alloc (.cells (zer n).toArray 87) = W2 at *
        have HMM := Hid.of ((fr_of_up (fun _ => False) HUs.out).mm HMM.out (fun h => h))
        clear HUs hW2 hpb
        refine hK.out _ _ HUw2.out (fun hS => ?_)
        clear hK K
        refine wpAnyH_ready (rs := [3]) (by kernel_rfl) (by simp) ?_
        refine AllReadyH.cons (o := { dst := some 23, op := Go.Op.call { callee := Go.Callee.value (Go.Operand.func 31), args := #[Go.Operand.tmp 22], argTypes := #[59] }, type := 59, pos := "lane.go:48", after := #[{ on := 2, ground := Go.Ground.data }], guard := none }) rfl (fun K hK => ?_) AllReadyH.nil
        rw [if_pos (by kernel_rfl)]
        go_simp
        refine (CloneF_walk (.slice va fs.length vc) fs (W2) (HF1.out.up HUw2.out) hfl).mono ?_
        rintro e W3 ⟨fv0, rfl, o3, u3⟩
        have HUs := Hid.of u3
        obtain ⟨fa, fcp, rfl, _⟩ := id (fts_row o3)
        have HFV := Hid.of (fts_row o3)
        have HBF := Hid.of (fun g (hg : (Value.slice fa fs.length fcp).ownBlock = some g) => Nat.le_trans (HUw2.out).size (World.ownsRow.lt o3 g hg).1)
        have HUw3 := Hid.of ((HUw2.out).trans u3)
        have HMM := Hid.of ((fr_of_up (fun _ => False) HUs.out).mm HMM.out (fun h => h))
        have HPB := Hid.of (HPB.out.up HUs.out)
        clear HUs o3 u3 hS
        dsimp only
        refine hK.out _ _ HUw3.out (fun hS => ?_)
        clear hK K
        refine wpAnyH_take (i := 5) (oi := { dst := some 25, op := Go.Op.build 84 #[(0, Go.Operand.tmp 21), (1, Go.Operand.tmp 23), (3, Go.Operand.tmp 24)], type := 84, pos := "lane.go:48", after := #[{ on := 1, ground := Go.Ground.data }, { on := 3, ground := Go.Ground.data }, { on := 4, ground := Go.Ground.data }], guard := none }) (v := .agg #[.slice (some ⟨pb, 0, none⟩) n n, .slice fa fs.length fcp, .int .i64 0, .map (some mb)]) rfl (by kernel_rfl) (by kernel_rfl) (by kernel_rfl) (fun _ _ _ h => h) (Or.inl ⟨by kernel_rfl, ?_⟩) hS ?_
        · intro w5 hSw
          clear hSw hS
          go_simp
        simp only [Act.put, List.setIfInBounds_toArray, List.set_cons_zero, List.set_cons_succ]
        refine wpAnyH_ready (rs := [6]) (by kernel_rfl) (by simp) ?_
        refine AllReadyH.cons (o := { dst := some 26, op := Go.Op.box 84 (Go.Operand.tmp 25), type := 22, pos := "lane.go:48", after := #[{ on := 5, ground := Go.Ground.data }], guard := none }) rfl (fun K hK => ?_) AllReadyH.nil
        rw [if_pos (by kernel_rfl)]
        go_simp
        have HUw4 := Hid.of ((HUw3.out).alloc (.cells #[.slice (some ⟨pb, 0, none⟩) n n, .slice fa fs.length fcp, .int .i64 0, .map (some mb)] 84))
        have HNT := Hid.of (at_new W3 84 [.slice (some ⟨pb, 0, none⟩) n n, .slice fa fs.length fcp, .int .i64 0, .map (some mb)])
        have HBN := Hid.of (show w1.heap.size ≤ W3.heap.size from HUw3.out.size)
        have HUs := Hid.of ((Up.refl W3).alloc (.cells #[.slice (some ⟨pb, 0, none⟩) n n, .slice fa fs.length fcp, .int .i64 0, .map (some mb)] 84))
        clear hS
        generalize hnb : W3.heap.size = nb at *
        generalize hW4 : W3.alloc (.cells #[.slice (some ⟨pb, 0, none⟩) n n, .slice fa fs.length fcp, .int .i64 0, .map (some mb)] 84) = W4 at *
        have HNBB := Hid.of (show NB w W4 n pb mb nb (.slice fa fs.length fcp) fs (zer n) from ⟨HU1.out.trans HUw4.out, HNT.out, HPB.out.up HUs.out, (fr_of_up (fun _ => False) HUs.out).mm HMM.out (fun h => h), HFV.out.up HUs.out, Nat.le_trans HU1.out.size HBN.out, Nat.le_trans HU1.out.size HBP.out, Nat.le_trans HU1.out.size HBM.out, fun g hg => Nat.le_trans HU1.out.size (HBF.out g hg)⟩)
        clear HUs hW4 hnb HNT HBN HPB HMM HFV HBP HBM HBF
        refine hK.out _ _ HUw4.out (fun hS => ?_)
        clear hK K
        refine wpAnyH_ready (rs := [7]) (by kernel_rfl) (by simp) ?_
        refine AllReadyH.cons (o := { dst := some 7, op := Go.Op.assign (Go.Operand.tmp 26), type := 22, pos := "lane.go:48", after := #[{ on := 6, ground := Go.Ground.data }, { on := 3, ground := Go.Ground.chain }, { on := 0, ground := Go.Ground.phase }, { on := 1, ground := Go.Ground.phase }, { on := 2, ground := Go.Ground.phase }, { on := 3, ground := Go.Ground.phase }, { on := 4, ground := Go.Ground.phase }, { on := 5, ground := Go.Ground.phase }, { on := 6, ground := Go.Ground.phase }], guard := none }) rfl (fun K hK => ?_) AllReadyH.nil
        rw [if_pos (by kernel_rfl)]
        go_simp
        refine hK.out _ _ HUw4.out (fun hS => ?_)
        clear hK K hS
        refine wpAnyH_done (by kernel_rfl) ?_ _
        exact ⟨pb, mb, nb, fa, fcp, rfl, HNBB.out⟩
      · rw [if_pos (by kernel_rfl)]
        go_simp
        refine (CloneF_walk (.slice va fs.length vc) fs (W1) (HF1.out.up HUw1.out) hfl).mono ?_
        rintro e W2 ⟨fv0, rfl, o3, u3⟩
        have HUs := Hid.of u3
        obtain ⟨fa, fcp, rfl, _⟩ := id (fts_row o3)
        have HFV := Hid.of (fts_row o3)
        have HBF := Hid.of (fun g (hg : (Value.slice fa fs.length fcp).ownBlock = some g) => Nat.le_trans (HUw1.out).size (World.ownsRow.lt o3 g hg).1)
        have HUw2 := Hid.of ((HUw1.out).trans u3)
        have HMM := Hid.of ((fr_of_up (fun _ => False) HUs.out).mm HMM.out (fun h => h))
        clear HUs o3 u3 hS
        dsimp only
        refine hK.out _ _ HUw2.out (fun hS => ?_)
        clear hK K
        refine wpAnyH_ready (rs := [1]) (by kernel_rfl) (by simp) ?_
        refine AllReadyH.cons (o := { dst := some 21, op := Go.Op.makeSlice 80 (Go.Operand.tmp 20) (Go.Operand.tmp 20), type := 80, pos := "lane.go:48", after := #[{ on := 0, ground := Go.Ground.data }, { on := 0, ground := Go.Ground.data }], guard := none }) rfl (fun K hK => ?_) AllReadyH.nil
        rw [if_pos (by kernel_rfl)]
        have hmk := mkPipes n h2 (W2)
        go_simp
        have HUw3 := Hid.of ((HUw2.out).alloc (.cells (zer n).toArray 87))
        have HPB := Hid.of (at_new (W2) 87 (zer n))
        have HBP := Hid.of (show w1.heap.size ≤ (W2).heap.size from (HUw2.out).size)
        have HUs := Hid.of ((Up.refl (W2)).alloc (.cells (zer n).toArray 87))
        clear hmk hS
        generalize hpb : (W2).heap.size = pb at *
        generalize hW3 : (W2).alloc (.cells (zer n).toArray 87) = W3 at *
        have HMM := Hid.of ((fr_of_up (fun _ => False) HUs.out).mm HMM.out (fun h => h))
        have HFV := Hid.of (HFV.out.up HUs.out)
        clear HUs hW3 hpb
        refine hK.out _ _ HUw3.out (fun hS => ?_)
        clear hK K
        refine wpAnyH_take (i := 5) (oi := { dst := some 25, op := Go.Op.build 84 #[(0, Go.Operand.tmp 21), (1, Go.Operand.tmp 23), (3, Go.Operand.tmp 24)], type := 84, pos := "lane.go:48", after := #[{ on := 1, ground := Go.Ground.data }, { on := 3, ground := Go.Ground.data }, { on := 4, ground := Go.Ground.data }], guard := none }) (v := .agg #[.slice (some ⟨pb, 0, none⟩) n n, .slice fa fs.length fcp, .int .i64 0, .map (some mb)]) rfl (by kernel_rfl) (by kernel_rfl) (by kernel_rfl) (fun _ _ _ h => h) (Or.inl ⟨by kernel_rfl, ?_⟩) hS ?_
        · intro w5 hSw
          clear hSw hS
          go_simp
        simp only [Act.put, List.setIfInBounds_toArray, List.set_cons_zero, List.set_cons_succ]
        refine wpAnyH_ready (rs := [6]) (by kernel_rfl) (by simp) ?_
        refine AllReadyH.cons (o := { dst := some 26, op := Go.Op.box 84 (Go.Operand.tmp 25), type := 22, pos := "lane.go:48", after := #[{ on := 5, ground := Go.Ground.data }], guard := none }) rfl (fun K hK => ?_) AllReadyH.nil
        rw [if_pos (by kernel_rfl)]
        go_simp
        have HUw4 := Hid.of ((HUw3.out).alloc (.cells #[.slice (some ⟨pb, 0, none⟩) n n, .slice fa fs.length fcp, .int .i64 0, .map (some mb)] 84))
        have HNT := Hid.of (at_new W3 84 [.slice (some ⟨pb, 0, none⟩) n n, .slice fa fs.length fcp, .int .i64 0, .map (some mb)])
        have HBN := Hid.of (show w1.heap.size ≤ W3.heap.size from HUw3.out.size)
        have HUs := Hid.of ((Up.refl W3).alloc (.cells #[.slice (some ⟨pb, 0, none⟩) n n, .slice fa fs.length fcp, .int .i64 0, .map (some mb)] 84))
        clear hS
        generalize hnb : W3.heap.size = nb at *
        generalize hW4 : W3.alloc (.cells #[.slice (some ⟨pb, 0, none⟩) n n, .slice fa fs.length fcp, .int .i64 0, .map (some mb)] 84) = W4 at *
        have HNBB := Hid.of (show NB w W4 n pb mb nb (.slice fa fs.length fcp) fs (zer n) from ⟨HU1.out.trans HUw4.out, HNT.out, HPB.out.up HUs.out, (fr_of_up (fun _ => False) HUs.out).mm HMM.out (fun h => h), HFV.out.up HUs.out, Nat.le_trans HU1.out.size HBN.out, Nat.le_trans HU1.out.size HBP.out, Nat.le_trans HU1.out.size HBM.out, fun g hg => Nat.le_trans HU1.out.size (HBF.out g hg)⟩)
        clear HUs hW4 hnb HNT HBN HPB HMM HFV HBP HBM HBF
        refine hK.out _ _ HUw4.out (fun hS => ?_)
        clear hK K
        refine wpAnyH_ready (rs := [7]) (by kernel_rfl) (by simp) ?_
        refine AllReadyH.cons (o := { dst := some 7, op := Go.Op.assign (Go.Operand.tmp 26), type := 22, pos := "lane.go:48", after := #[{ on := 6, ground := Go.Ground.data }, { on := 3, ground := Go.Ground.chain }, { on := 0, ground := Go.Ground.phase }, { on := 1, ground := Go.Ground.phase }, { on := 2, ground := Go.Ground.phase }, { on := 3, ground := Go.Ground.phase }, { on := 4, ground := Go.Ground.phase }, { on := 5, ground := Go.Ground.phase }, { on := 6, ground := Go.Ground.phase }], guard := none }) rfl (fun K hK => ?_) AllReadyH.nil
        rw [if_pos (by kernel_rfl)]
        go_simp
        refine hK.out _ _ HUw4.out (fun hS => ?_)
        clear hK K hS
        refine wpAnyH_done (by kernel_rfl) ?_ _
        exact ⟨pb, mb, nb, fa, fcp, rfl, HNBB.out⟩
  intro pb mb nb fa fcp w2 hNB
  have HNB := Hid.of hNB
  have c0 := hNB.net.cell (i := 0) rfl
  have hmkc := mkChan
  clear hNB HF1 HU1
  dsimp only
  go_wp2
  go_loopw [8, 32] (fun _ v32 wr => ∃ i : Nat, v32 = .int .i64 (i : Int) ∧ i ≤ n ∧ Hid (∃ chs : List Nat, chs.length = i ∧ NB w wr n pb mb nb (.slice fa fs.length fcp) fs (lcs (chs.map mkL) ++ zer (n - i)) ∧ (∀ c ∈ chs, wr.heap[c]? = some (chn (mkL c)) ∧ w.heap.size ≤ c) ∧ chs.Nodup)) (fun _ v32 _ => n - (intOf v32).toNat)
  case atStart => exact ⟨0, rfl, by omega, Hid.of ⟨[], rfl, HNB.out, by simp, by simp⟩⟩
  case round =>
    obtain ⟨i, rfl, hi, hR⟩ := hrel
    obtain ⟨wx, hwx⟩ : ∃ wx, wx = wr := ⟨_, rfl⟩
    subst hwx
    by_cases hlt : i < n
    · have hltz : (i : Int) < (n : Int) := by omega
      obtain ⟨chs, hcl, hNB, hch, hnd⟩ := hR.out
      have HB := Hid.of hNB
      have HCL := Hid.of hcl
      have HCH := Hid.of hch
      have HND := Hid.of hnd
      have hnT : ¬ nb = pb := hNB.net.ne hNB.row (by decide)
      have hiw : IntKind.i64.wrap ((i : Int) + 1) = (i : Int) + 1 := by rw [IntKind.wrap_i64]; omega
      clear hR hcl hNB hch hnd
      go_wp2
      refine wp_region_held_drew (S := fun wz => Fr (fun q => q = pb) wx wz) (by kernel_rfl) ((Fr.refl _ wx).up (Up.refl wx).drew) (fun hS => ?_)
      refine wpAnyH_take (i := 0) (oi := { dst := some 35, op := Go.Op.move (Go.Operand.tmp 7), type := 22, pos := "lane.go:50", after := #[], guard := none }) (v := .pointer (some ⟨nb, 0, none⟩)) rfl (by kernel_rfl) (by kernel_rfl) (by kernel_rfl) (fun _ _ _ h => h) (Or.inl ⟨by kernel_rfl, ?_⟩) hS ?_
      · intro w5 hSw
        clear hSw hS
        go_simp
      simp only [Act.put, List.setIfInBounds_toArray, List.set_cons_zero, List.set_cons_succ]
      refine wpAnyH_take (i := 1) (oi := { dst := some 36, op := Go.Op.nilCheck (Go.Operand.tmp 35), type := 0, pos := "lane.go:50", after := #[{ on := 0, ground := Go.Ground.data }], guard := none }) (v := .pointer (some ⟨nb, 0, none⟩)) rfl (by kernel_rfl) (by kernel_rfl) (by kernel_rfl) (fun _ _ _ h => h) (Or.inl ⟨by kernel_rfl, ?_⟩) hS ?_
      · intro w5 hSw
        clear hSw hS
        go_simp
      simp only [Act.put, List.setIfInBounds_toArray, List.set_cons_zero, List.set_cons_succ]
      refine wpAnyH_take (i := 2) (oi := { dst := some 37, op := Go.Op.fieldAddr 84 (Go.Operand.tmp 36) 0, type := 0, pos := "lane.go:50", after := #[{ on := 1, ground := Go.Ground.data }], guard := none }) (v := .pointer (some ⟨nb, 0, none⟩)) rfl (by kernel_rfl) (by kernel_rfl) (by kernel_rfl) (fun _ _ _ h => h) (Or.inl ⟨by kernel_rfl, ?_⟩) hS ?_
      · intro w5 hSw
        clear hSw hS
        go_simp
      simp only [Act.put, List.setIfInBounds_toArray, List.set_cons_zero, List.set_cons_succ]
      refine wpAnyH_take (i := 3) (oi := { dst := some 38, op := Go.Op.load 80 (Go.Operand.tmp 37), type := 80, pos := "lane.go:50", after := #[{ on := 2, ground := Go.Ground.data }], guard := none }) (v := .slice (some ⟨pb, 0, none⟩) n n) rfl (by kernel_rfl) (by kernel_rfl) (by kernel_rfl) (fun _ _ _ h => h) (Or.inl ⟨by kernel_rfl, ?_⟩) hS ?_
      · intro w5 hSw
        have h0 := (hSw.at HB.out.net hnT).cell (i := 0) rfl
        clear hSw hS
        go_simp
      simp only [Act.put, List.setIfInBounds_toArray, List.set_cons_zero, List.set_cons_succ]
      refine wpAnyH_take (i := 4) (oi := { dst := some 39, op := Go.Op.move (Go.Operand.tmp 8), type := 3, pos := "lane.go:50", after := #[], guard := none }) (v := .int .i64 (i : Int)) rfl (by kernel_rfl) (by kernel_rfl) (by kernel_rfl) (fun _ _ _ h => h) (Or.inl ⟨by kernel_rfl, ?_⟩) hS ?_
      · intro w5 hSw
        clear hSw hS
        go_simp
      simp only [Act.put, List.setIfInBounds_toArray, List.set_cons_zero, List.set_cons_succ]
      have HU0 := Hid.of (Up.refl wx).drew
      generalize wx.drew = W0 at *
      refine wpAnyH_ready (rs := [5]) (by kernel_rfl) (by simp) ?_
      refine AllReadyH.cons (o := { dst := some 40, op := Go.Op.makeChan 85 (Go.Operand.const (Go.Value.int Go.IntKind.i64 64)), type := 85, pos := "lane.go:50", after := #[], guard := none }) rfl (fun K hK => ?_) AllReadyH.nil
      rw [if_pos (by kernel_rfl)]
      have hmk := hmkc W0
      go_simp
      have HU1 := Hid.of (HU0.out.alloc (.chan 64 #[] false 0 0 false))
      have HCN := Hid.of (heap_alloc_new W0 (.chan 64 #[] false 0 0 false))
      have HLC := Hid.of (show wx.heap.size ≤ W0.heap.size from HU0.out.size)
      clear hmk hS
      generalize hcb : W0.heap.size = cb at *
      generalize hW1 : W0.alloc (.chan 64 #[] false 0 0 false) = W1 at *
      clear hW1 hcb
      refine hK.out _ _ ((Fr.refl _ wx).up HU1.out) (fun hS => ?_)
      clear hK K
      refine wpAnyH_take (i := 6) (oi := { dst := some 41, op := Go.Op.indexAddr 80 (Go.Operand.tmp 38) (Go.Operand.tmp 39), type := 0, pos := "lane.go:50", after := #[{ on := 3, ground := Go.Ground.data }, { on := 4, ground := Go.Ground.data }, { on := 0, ground := Go.Ground.phase }, { on := 1, ground := Go.Ground.phase }, { on := 2, ground := Go.Ground.phase }, { on := 3, ground := Go.Ground.phase }, { on := 4, ground := Go.Ground.phase }, { on := 5, ground := Go.Ground.phase }], guard := none }) (v := .pointer (some ⟨pb, i * 3, none⟩)) rfl (by kernel_rfl) (by kernel_rfl) (by kernel_rfl) (fun _ _ _ h => h) (Or.inl ⟨by kernel_rfl, ?_⟩) hS ?_
      · intro w5 hSw
        clear hSw hS
        go_simp
      simp only [Act.put, List.setIfInBounds_toArray, List.set_cons_zero, List.set_cons_succ]
      refine wpAnyH_take (i := 7) (oi := { dst := some 42, op := Go.Op.fieldAddr 87 (Go.Operand.tmp 41) 0, type := 0, pos := "lane.go:50", after := #[{ on := 6, ground := Go.Ground.data }, { on := 0, ground := Go.Ground.phase }, { on := 1, ground := Go.Ground.phase }, { on := 2, ground := Go.Ground.phase }, { on := 3, ground := Go.Ground.phase }, { on := 4, ground := Go.Ground.phase }, { on := 5, ground := Go.Ground.phase }], guard := none }) (v := .pointer (some ⟨pb, i * 3, none⟩)) rfl (by kernel_rfl) (by kernel_rfl) (by kernel_rfl) (fun _ _ _ h => h) (Or.inl ⟨by kernel_rfl, ?_⟩) hS ?_
      · intro w5 hSw
        clear hSw hS
        go_simp
      simp only [Act.put, List.setIfInBounds_toArray, List.set_cons_zero, List.set_cons_succ]
      refine wpAnyH_ready (rs := [8]) (by kernel_rfl) (by simp) ?_
      refine AllReadyH.cons (o := { dst := none, op := Go.Op.store 85 (Go.Operand.tmp 42) (Go.Operand.tmp 40), type := 0, pos := "lane.go:50", after := #[{ on := 7, ground := Go.Ground.data }, { on := 5, ground := Go.Ground.data }, { on := 0, ground := Go.Ground.phase }, { on := 1, ground := Go.Ground.phase }, { on := 2, ground := Go.Ground.phase }, { on := 3, ground := Go.Ground.phase }, { on := 4, ground := Go.Ground.phase }, { on := 5, ground := Go.Ground.phase }], guard := none }) rfl (fun K hK => ?_) AllReadyH.nil
      rw [if_pos (by kernel_rfl)]
      have hr1 := (HB.out.up' HU1.out).row
      have hll : (lcs (chs.map mkL)).length = i * 3 := by rw [lcs_len, List.length_map, HCL.out]; omega
      have hz : zer (n - i) = [.chan none, .bool false, .int .i64 0] ++ zer (n - (i + 1)) := by rw [show n - i = (n - (i + 1)) + 1 by omega, zer_succ]
      have hcell := hr1.cell (i := i * 3) (v := .chan none) (by rw [List.getElem?_append_right (by omega), hll, Nat.sub_self, hz]; rfl)
      have hthaw := hr1.thaw (i * 3)
      have hA2 := hr1.set (i * 3) (.chan (some cb))
      have hG2 := grown_at W1 pb (i * 3) (.chan (some cb))
      have hset : (lcs (chs.map mkL) ++ zer (n - i)).set (i * 3) (.chan (some cb)) = lcs ((chs ++ [cb]).map mkL) ++ zer (n - (i + 1)) := by
        rw [List.set_append, if_neg (by omega), hll, Nat.sub_self, hz, List.map_append]
        unfold lcs
        rw [List.flatMap_append]
        simp [mkL, lc]
      rw [hset] at hA2
      have hne : cb ≠ pb := fun e => by
        have h1 := HCN.out
        rw [e] at h1
        have h2 : W1.heap[pb]? = _ := hr1
        rw [h1] at h2
        cases h2
      have hB1 := HB.out.up' HU1.out
      have htm : ∀ x, W1.heap[x]? ≠ none → x ≠ pb → True := fun _ _ _ => trivial
      obtain ⟨es, cl, hmap⟩ := hB1.mm.map
      have hmb : ¬ mb = pb := fun e => by
        rw [e] at hmap
        have h2 : W1.heap[pb]? = _ := hr1
        rw [hmap] at h2
        cases h2
      have hff : Fr (fun q => q = pb) W1 (W1.setCell ⟨pb, i * 3, none⟩ (.chan (some cb))) := (Fr.refl _ W1).by hG2 (fun q hq => .inl (Option.some.inj hq).symm)
      have HB2 := Hid.of (show ∃ chs : List Nat, chs.length = i + 1 ∧ NB w (W1.setCell ⟨pb, i * 3, none⟩ (.chan (some cb))) n pb mb nb (.slice fa fs.length fcp) fs (lcs (chs.map mkL) ++ zer (n - (i + 1))) ∧ (∀ c ∈ chs, (W1.setCell ⟨pb, i * 3, none⟩ (.chan (some cb))).heap[c]? = some (chn (mkL c)) ∧ w.heap.size ≤ c) ∧ chs.Nodup from ⟨chs ++ [cb], by simp [HCL.out], ⟨hB1.up.by hG2 (fun q hq => by have := Option.some.inj hq; have := hB1.bp; omega), hff.at hB1.net hnT, hA2, hff.mm hB1.mm hmb, hff.fts hB1.fts (fun q hq e => by
          have h1 := hB1.fts.tag hq
          rw [e, hr1.tag] at h1
          cases h1), hB1.bn, hB1.bp, hB1.bm, hB1.bf⟩, fun c hc => by
          rcases List.mem_append.1 hc with hc | hc
          · obtain ⟨h1, h2⟩ := HCH.out c hc
            have h3 : W1.heap[c]? = some (chn (mkL c)) := (HU1.out.block c (lt_of_at h1)).trans h1
            refine ⟨(hff.block c (lt_of_at h3) (fun e => ?_)).trans h3, h2⟩
            rw [e] at h3
            have h4 : W1.heap[pb]? = _ := hr1
            rw [h3] at h4
            cases h4
          · obtain rfl := List.mem_singleton.1 hc
            exact ⟨(hff.block c (lt_of_at HCN.out) hne).trans HCN.out, Nat.le_trans HB.out.up.size HLC.out⟩, by
          rw [List.nodup_append]
          refine ⟨HND.out, by simp, fun a ha b hb e => ?_⟩
          obtain rfl := List.mem_singleton.1 hb
          subst e
          have := lt_of_at (HCH.out a ha).1
          have := HLC.out
          omega⟩)
      have hfr : Fr (fun q => q = pb) wx (W1.setCell ⟨pb, i * 3, none⟩ (.chan (some cb))) := (fr_of_up _ HU1.out).trans hff (fun _ h => .inl h)
      clear hr1 hll hz hA2 hG2 hset hne hB1 htm hmap hmb hff
      go_simp
      refine hK.out _ _ hfr (fun hS => ?_)
      clear hK K hS hfr hcell hthaw
      refine wpAnyH_done (by kernel_rfl) ?_ _
      generalize W1.setCell ⟨pb, i * 3, none⟩ (.chan (some cb)) = W2 at *
      clear HCN HLC HU1 HU0 HCH HND HCL HB
      go_wp2
      go_roundw
      case rel => exact ⟨i + 1, by simp, by omega, HB2⟩
      case measure => simp [intOf]; omega
    · have hltz : ¬ ((i : Int) < (n : Int)) := by omega
      obtain rfl : i = n := by omega
      obtain ⟨chs, hcl, hNB, hch, hnd⟩ := hR.out
      have HB := Hid.of hNB
      have HCL := Hid.of hcl
      have HCH := Hid.of hch
      have HND := Hid.of hnd
      clear hR hcl hNB hch hnd
      go_wp2
      go_ret2
      have hrow := HB.out.row
      rw [Nat.sub_self, show zer 0 = [] from rfl, List.append_nil] at hrow
      refine ⟨⟨nb, pb, mb, 0, .slice fa fs.length fcp, fs, 0, chs.map mkL, [], fun _ => nilS⟩, rfl, ⟨?_, hrow, ?_, ?_, HB.out.mm, fun t => World.ownsRow_nil _ _ _ _, fun t t' g _ h => (by cases h), HB.out.fts, fun m hm => ?_⟩, ⟨?_, fun p hp => (by cases hp), Nat.le_refl _, ?_, ?_⟩, ?_, rfl, HB.out.up, ?_, ?_⟩
      · simpa [ncl, HCL.out] using HB.out.net
      · intro l hl
        obtain ⟨c, hc, rfl⟩ := List.mem_map.1 hl
        exact (HCH.out c hc).1
      · rw [List.map_map, show ((·.c) ∘ mkL) = id from rfl, List.map_id]
        exact HND.out
      · unfold msgs at hm
        simp only [List.map_nil, List.append_nil] at hm
        obtain ⟨l, hl, hm⟩ := List.mem_flatMap.1 hm
        obtain ⟨c, _, rfl⟩ := List.mem_map.1 hl
        cases hm
      · intro j l hl
        have hm := get_mem hl
        obtain ⟨c, _, rfl⟩ := List.mem_map.1 hm
        rfl
      · simpa [HCL.out] using h2
      · intro f hf
        have he := HE.out
        unfold fateE at he
        rw [if_neg (by omega)] at he
        cases hq : fok f with
        | true => rfl
        | false =>
          rw [if_pos (List.any_eq_true.2 ⟨f, hf, by rw [hq]; rfl⟩)] at he
          cases he
      · unfold abs
        simp only [List.map_nil, List.map_map]
        rw [show (absL ∘ mkL) = fun _ => ([], false) from rfl, List.map_const', HCL.out]
      · intro x hx
        rcases hx with rfl | rfl | rfl | ⟨l, hl, rfl⟩ | ⟨t, ht⟩
        · exact HB.out.bn
        · exact HB.out.bp
        · exact HB.out.bm
        · obtain ⟨c, hc, rfl⟩ := List.mem_map.1 hl
          exact (HCH.out c hc).2
        · cases ht
      · intro x hx
        rcases hx with hx | ⟨m, hm, _⟩
        · exact HB.out.bf x hx
        · unfold msgs at hm
          simp only [List.map_nil, List.append_nil] at hm
          obtain ⟨l, hl, hm⟩ := List.mem_flatMap.1 hm
          obtain ⟨c, _, rfl⟩ := List.mem_map.1 hl
          cases hm
end Go.Proofs.Ytdlfkdehfenemaa
