import Derived.Test.YtdlfkdehfenemaaGa
namespace Go.Proofs.Ytdlfkdehfenemaa
open Go.RowKit Go.Conc TextNum
theorem SnL.at {w : World} {b off : Nat} {l : List Sn} (h : SnL w (some ⟨b, off, none⟩) l) {i : Nat} (hi : i < l.length) {q : Sn} (hq : l[i] = q) : w.cell? ⟨b, off + i * 5, none⟩ = some (.int .i64 (q.g : Int)) ∧ w.cell? ⟨b, off + i * 5 + 1, none⟩ = some (.int .i64 (q.i : Int)) ∧ w.cell? ⟨b, off + i * 5 + 2, none⟩ = some (.slice q.a q.d.length q.c) ∧ w.cell? ⟨b, off + i * 5 + 3, none⟩ = some (.int .i64 q.k) ∧ w.cell? ⟨b, off + i * 5 + 4, none⟩ = some (.int .i64 q.n) := by
  subst hq
  obtain ⟨b', off', e, k⟩ := h.get hi
  injection e with e
  injection e with e1 e2 e3
  subst e1 e2
  exact k
/-- the fates of the first j messages, as a list of one's own -/
abbrev FO (w wr : World) (v : Value) (x y : Bool) (l : List Sn) : Prop := wr.ownsRow w.heap.size 58 2 v (ftl x y l).length ((ftl x y l).flatMap fc) ∧ Up w wr
theorem FO.snoc {w wr : World} {v : Value} {x y : Bool} {l : List Sn} {q : Sn} (hs : sel x y q = false) (h : FO w wr v x y l) : FO w wr v x y (l ++ [q]) := by
  rw [FO, ftl_snoc, hs]
  simpa using h
theorem FO.app {w wr W4 W5 : World} {v v' : Value} {x y : Bool} {l : List Sn} {q : Sn} (hs : sel x y q = true) (h : FO w wr v x y l) (u : Up wr W4) (ho : W5.ownsRow w.heap.size 58 2 v' ((ftl x y l).length + 1) ((ftl x y l).flatMap fc ++ [.int .i64 q.k, .int .i64 q.n])) (hg : W4.grownBy W5 v.ownBlock) : FO w W5 v' x y (l ++ [q]) := by
  refine ⟨?_, (h.2.trans u).by hg (fun g hg => (h.1.lt g hg).1)⟩
  rw [ftl_snoc, hs]
  simpa [fc] using ho
def A0 (x y : Bool) (l : List Sn) : AN := ⟨0, ftl x y l, [([], false), ([], false)], []⟩
theorem two_new {S : NS} {fs : List (Int × Int)} (h : abs S = ⟨0, fs, List.replicate 2 ([], false), []⟩) : two S := by
  have e : S.ls.map absL = List.replicate 2 ([], false) := congrArg AN.ls h
  show S.ls.map (·.sh) = _
  have : S.ls.map (·.sh) = (S.ls.map absL).map (·.2) := by rw [List.map_map]; rfl
  rw [this, e]
  rfl
theorem take_snoc {l : List Sn} {j : Nat} (h : j < l.length) {q : Sn} (hq : l[j] = q) : l.take (j + 1) = l.take j ++ [q] := by
  rw [List.take_succ_eq_append_getElem h, hq]
set_option maxRecDepth 100000 in
set_option maxHeartbeats 4000000 in
theorem sends_walk (w : World) (a : Option Addr) (c : Nat) (l : List Sn) (x y : Bool) (h : SnL w a l) (hl : l.length ≤ 25) :
    Calls Try.prog 25 #[.slice a l.length c, .bool x, .bool y] w fun e w' => ∃ nb, e = .returned (.tuple #[.pointer (some ⟨nb, 0, none⟩), .int .i64 (gsum l : Int), .bool true]) ∧ ∃ S, LJ w w' S (l.foldl (snA x y) (A0 x y l)) 25 ∧ S.nb = nb ∧ two S := by
  obtain ⟨i0, hi0, hz0, hz1, hz2⟩ := info_parts infoFate
  have HI0 := Hid.of hi0
  clear hi0
  have HSL := Hid.of h
  obtain ⟨n, hn⟩ : ∃ n, l.length = n := ⟨_, rfl⟩
  have HNN := Hid.of (And.intro hn trivial)
  rw [hn] at hl ⊢
  clear h hn
  go_enter Try.func25, Try.ntmps25
  go_wp2
  go_loopw [9, 10] (fun v9 v10 wr => ∃ j : Nat, v10 = .int .i64 (j : Int) ∧ j ≤ n ∧ Hid (FO w wr v9 x y (l.take j))) (fun _ v10 _ => n - (intOf v10).toNat)
  case atStart => exact ⟨0, rfl, by omega, Hid.of ⟨⟨rfl, .inl ⟨rfl, rfl⟩⟩, Up.refl _⟩⟩
  case round =>
    obtain ⟨j, rfl, hjn, HFO⟩ := hrel
    by_cases hlt : j < n
    · have hltz : (j : Int) < (n : Int) := by omega
      have hjw : IntKind.i64.wrap ((j : Int) + 1) = (j : Int) + 1 := by rw [IntKind.wrap_i64]; omega
      have hj : j < l.length := by rw [HNN.out.1]; exact hlt
      obtain ⟨b, off, rfl, _⟩ := HSL.out.get hj
      obtain ⟨q, hq⟩ : ∃ q, l[j] = q := ⟨_, rfl⟩
      have HQ := Hid.of (And.intro hq trivial)
      obtain ⟨_, hci, _, _, _⟩ := (HSL.out.up HFO.out.2).at hj hq
      have hi2 := (HSL.out.ok q (hq ▸ List.getElem_mem hj)).i2
      have HTS := Hid.of (And.intro (take_snoc hj hq) trivial)
      have HFL := Hid.of (show (ftl x y (l.take j)).length ≤ 25 from Nat.le_trans (ftl_len x y _) (by rw [List.length_take]; omega))
      clear hq
      obtain hi0 | hi0 : q.i = 0 ∨ q.i = 1 := by omega
      · rw [hi0] at hci
        have HI := Hid.of (And.intro hi0 trivial)
        clear hi0 hi2
        cases x with
        | true =>
          have HS : Hid (sel true y q = true) := Hid.of (by unfold sel; rw [HI.out.1]; simp)
          go_wp2
          clear hci
          refine wp_region_held_drew (S := fun w2 => Up w w2) (by kernel_rfl) HFO.out.2.drew (fun hS => ?_)
          refine wpAnyH_take (i := 0) (oi := { dst := some 43, op := Go.Op.move (Go.Operand.tmp 9), type := 59, pos := "outright.go:136", after := #[], guard := none }) (v := u9) rfl (by kernel_rfl) (by kernel_rfl) (by kernel_rfl) (fun _ _ _ h => h) (Or.inl ⟨by kernel_rfl, ?_⟩) hS ?_
          · intro w5 hSw
            clear hSw hS
            go_simp
          simp only [Act.put, List.setIfInBounds_toArray, List.set_cons_zero, List.set_cons_succ]
          refine wpAnyH_take (i := 1) (oi := { dst := some 44, op := Go.Op.move (Go.Operand.tmp 0), type := 66, pos := "outright.go:136", after := #[], guard := none }) (v := .slice (some ⟨b, off, none⟩) n c) rfl (by kernel_rfl) (by kernel_rfl) (by kernel_rfl) (fun _ _ _ h => h) (Or.inl ⟨by kernel_rfl, ?_⟩) hS ?_
          · intro w5 hSw
            clear hSw hS
            go_simp
          simp only [Act.put, List.setIfInBounds_toArray, List.set_cons_zero, List.set_cons_succ]
          refine wpAnyH_take (i := 2) (oi := { dst := some 45, op := Go.Op.move (Go.Operand.tmp 10), type := 3, pos := "outright.go:136", after := #[], guard := none }) (v := .int .i64 (j : Int)) rfl (by kernel_rfl) (by kernel_rfl) (by kernel_rfl) (fun _ _ _ h => h) (Or.inl ⟨by kernel_rfl, ?_⟩) hS ?_
          · intro w5 hSw
            clear hSw hS
            go_simp
          simp only [Act.put, List.setIfInBounds_toArray, List.set_cons_zero, List.set_cons_succ]
          refine wpAnyH_take (i := 3) (oi := { dst := some 46, op := Go.Op.indexAddr 66 (Go.Operand.tmp 44) (Go.Operand.tmp 45), type := 0, pos := "outright.go:136", after := #[{ on := 1, ground := Go.Ground.data }, { on := 2, ground := Go.Ground.data }], guard := none }) (v := .pointer (some ⟨b, off + j * 5, none⟩)) rfl (by kernel_rfl) (by kernel_rfl) (by kernel_rfl) (fun _ _ _ h => h) (Or.inl ⟨by kernel_rfl, ?_⟩) hS ?_
          · intro w5 hSw
            clear hSw hS
            go_simp
          simp only [Act.put, List.setIfInBounds_toArray, List.set_cons_zero, List.set_cons_succ]
          refine wpAnyH_take (i := 4) (oi := { dst := some 47, op := Go.Op.fieldAddr 65 (Go.Operand.tmp 46) 3, type := 0, pos := "outright.go:136", after := #[{ on := 3, ground := Go.Ground.data }], guard := none }) (v := .pointer (some ⟨b, off + j * 5 + 3, none⟩)) rfl (by kernel_rfl) (by kernel_rfl) (by kernel_rfl) (fun _ _ _ h => h) (Or.inl ⟨by kernel_rfl, ?_⟩) hS ?_
          · intro w5 hSw
            clear hSw hS
            go_simp
          simp only [Act.put, List.setIfInBounds_toArray, List.set_cons_zero, List.set_cons_succ]
          refine wpAnyH_take (i := 5) (oi := { dst := some 48, op := Go.Op.fieldAddr 63 (Go.Operand.tmp 47) 0, type := 0, pos := "outright.go:136", after := #[{ on := 4, ground := Go.Ground.data }], guard := none }) (v := .pointer (some ⟨b, off + j * 5 + 3, none⟩)) rfl (by kernel_rfl) (by kernel_rfl) (by kernel_rfl) (fun _ _ _ h => h) (Or.inl ⟨by kernel_rfl, ?_⟩) hS ?_
          · intro w5 hSw
            clear hSw hS
            go_simp
          simp only [Act.put, List.setIfInBounds_toArray, List.set_cons_zero, List.set_cons_succ]
          refine wpAnyH_take (i := 6) (oi := { dst := some 49, op := Go.Op.load 3 (Go.Operand.tmp 48), type := 3, pos := "outright.go:136", after := #[{ on := 5, ground := Go.Ground.data }], guard := none }) (v := .int .i64 q.k) rfl (by kernel_rfl) (by kernel_rfl) (by kernel_rfl) (fun _ _ _ h => h) (Or.inl ⟨by kernel_rfl, ?_⟩) hS ?_
          · intro w5 hSw
            have hc := (HSL.out.up hSw).at hj HQ.out.1
            obtain ⟨_, _, _, hk, hn⟩ := hc
            clear hSw hS
            go_simp
          simp only [Act.put, List.setIfInBounds_toArray, List.set_cons_zero, List.set_cons_succ]
          refine wpAnyH_take (i := 7) (oi := { dst := some 50, op := Go.Op.move (Go.Operand.tmp 0), type := 66, pos := "outright.go:136", after := #[], guard := none }) (v := .slice (some ⟨b, off, none⟩) n c) rfl (by kernel_rfl) (by kernel_rfl) (by kernel_rfl) (fun _ _ _ h => h) (Or.inl ⟨by kernel_rfl, ?_⟩) hS ?_
          · intro w5 hSw
            clear hSw hS
            go_simp
          simp only [Act.put, List.setIfInBounds_toArray, List.set_cons_zero, List.set_cons_succ]
          refine wpAnyH_take (i := 8) (oi := { dst := some 51, op := Go.Op.move (Go.Operand.tmp 10), type := 3, pos := "outright.go:136", after := #[], guard := none }) (v := .int .i64 (j : Int)) rfl (by kernel_rfl) (by kernel_rfl) (by kernel_rfl) (fun _ _ _ h => h) (Or.inl ⟨by kernel_rfl, ?_⟩) hS ?_
          · intro w5 hSw
            clear hSw hS
            go_simp
          simp only [Act.put, List.setIfInBounds_toArray, List.set_cons_zero, List.set_cons_succ]
          refine wpAnyH_take (i := 9) (oi := { dst := some 52, op := Go.Op.indexAddr 66 (Go.Operand.tmp 50) (Go.Operand.tmp 51), type := 0, pos := "outright.go:136", after := #[{ on := 7, ground := Go.Ground.data }, { on := 8, ground := Go.Ground.data }], guard := none }) (v := .pointer (some ⟨b, off + j * 5, none⟩)) rfl (by kernel_rfl) (by kernel_rfl) (by kernel_rfl) (fun _ _ _ h => h) (Or.inl ⟨by kernel_rfl, ?_⟩) hS ?_
          · intro w5 hSw
            clear hSw hS
            go_simp
          simp only [Act.put, List.setIfInBounds_toArray, List.set_cons_zero, List.set_cons_succ]
          refine wpAnyH_take (i := 10) (oi := { dst := some 53, op := Go.Op.fieldAddr 65 (Go.Operand.tmp 52) 3, type := 0, pos := "outright.go:136", after := #[{ on := 9, ground := Go.Ground.data }], guard := none }) (v := .pointer (some ⟨b, off + j * 5 + 3, none⟩)) rfl (by kernel_rfl) (by kernel_rfl) (by kernel_rfl) (fun _ _ _ h => h) (Or.inl ⟨by kernel_rfl, ?_⟩) hS ?_
          · intro w5 hSw
            clear hSw hS
            go_simp
          simp only [Act.put, List.setIfInBounds_toArray, List.set_cons_zero, List.set_cons_succ]
          refine wpAnyH_take (i := 11) (oi := { dst := some 54, op := Go.Op.fieldAddr 63 (Go.Operand.tmp 53) 1, type := 0, pos := "outright.go:136", after := #[{ on := 10, ground := Go.Ground.data }], guard := none }) (v := .pointer (some ⟨b, off + j * 5 + 3 + 1, none⟩)) rfl (by kernel_rfl) (by kernel_rfl) (by kernel_rfl) (fun _ _ _ h => h) (Or.inl ⟨by kernel_rfl, ?_⟩) hS ?_
          · intro w5 hSw
            clear hSw hS
            go_simp
          simp only [Act.put, List.setIfInBounds_toArray, List.set_cons_zero, List.set_cons_succ]
          refine wpAnyH_take (i := 12) (oi := { dst := some 55, op := Go.Op.load 3 (Go.Operand.tmp 54), type := 3, pos := "outright.go:136", after := #[{ on := 11, ground := Go.Ground.data }], guard := none }) (v := .int .i64 q.n) rfl (by kernel_rfl) (by kernel_rfl) (by kernel_rfl) (fun _ _ _ h => h) (Or.inl ⟨by kernel_rfl, ?_⟩) hS ?_
          · intro w5 hSw
            have hc := (HSL.out.up hSw).at hj HQ.out.1
            obtain ⟨_, _, _, hk, hn⟩ := hc
            clear hSw hS
            go_simp
          simp only [Act.put, List.setIfInBounds_toArray, List.set_cons_zero, List.set_cons_succ]
          refine wpAnyH_take (i := 13) (oi := { dst := some 56, op := Go.Op.build 58 #[(0, Go.Operand.tmp 49), (1, Go.Operand.tmp 55)], type := 58, pos := "outright.go:136", after := #[{ on := 6, ground := Go.Ground.data }, { on := 12, ground := Go.Ground.data }], guard := none }) (v := .agg #[.int .i64 q.k, .int .i64 q.n]) rfl (by kernel_rfl) (by kernel_rfl) (by kernel_rfl) (fun _ _ _ h => h) (Or.inl ⟨by kernel_rfl, ?_⟩) hS ?_
          · intro w5 hSw
            clear hSw hS
            go_simp
          simp only [Act.put, List.setIfInBounds_toArray, List.set_cons_zero, List.set_cons_succ]
          refine wpAnyH_ready (rs := [14]) (by kernel_rfl) (by simp) ?_
          refine AllReadyH.cons (o := { dst := some 57, op := Go.Op.buildSlice 59 1 #[(0, Go.Operand.tmp 56)], type := 59, pos := "outright.go:136", after := #[{ on := 13, ground := Go.Ground.data }], guard := none }) rfl (fun K hK => ?_) AllReadyH.nil
          rw [if_pos (by kernel_rfl)]
          go_simp
          have HU4 := Hid.of (((Up.refl wr).alloc (.cells #[.int .i64 q.k, .int .i64 q.n] 58)).drew)
          generalize hW4 : (wr.alloc (.cells #[.int .i64 q.k, .int .i64 q.n] 58)).drew = W4 at *
          have HA4' : Hid (At W4 wr.heap.size 58 [.int .i64 q.k, .int .i64 q.n]) := by
            rw [← hW4]
            exact Hid.of ((at_new wr 58 [.int .i64 q.k, .int .i64 q.n]).up (Up.refl _).drew)
          clear hW4
          refine hK.out _ _ (HFO.out.2.trans HU4.out) (fun hS2 => ?_)
          clear hK K hS
          have hS := hS2
          clear hS2
          refine wpAnyH_ready (rs := [15]) (by kernel_rfl) (by simp) ?_
          refine AllReadyH.cons (o := { dst := some 58, op := Go.Op.call { callee := Go.Callee.builtin Go.Builtin.append, args := #[Go.Operand.tmp 43, Go.Operand.tmp 57], argTypes := #[59, 59] }, type := 59, pos := "outright.go:136", after := #[{ on := 0, ground := Go.Ground.data }, { on := 14, ground := Go.Ground.data }], guard := none }) rfl (fun K hK => ?_) AllReadyH.nil
          rw [if_pos (by kernel_rfl)]
          have HR4 := Hid.of (ow_up HFO.out.1 HU4.out)
          obtain ⟨v5, W5, hap, ho5, hg5, hfr5⟩ := run_append_frsN (P := Try.prog) W4 w.heap.size 59 59 58 i0 (.agg #[.int .i64 0, .int .i64 0]) 2 16 Try.underlying59 HI0.out hz0 hz1 hz2 rfl (by decide) u9 _ _ HR4.out ⟨wr.heap.size, 0, none⟩ 1 1 [.int .i64 q.k, .int .i64 q.n] rfl (fun j u hu => by rw [Addr.add_lit, Nat.zero_add]; exact HA4'.out.cell hu) (fun u hu => by
            simp only [List.mem_cons, List.not_mem_nil, or_false] at hu
            rcases hu with rfl | rfl <;> rfl) (by have h1 := HFL.out; simp only [maxLen]; omega) (by have h1 := HFL.out; omega) (HFO.out.2.trans HU4.out).size
          have HN5 := Hid.of (FO.app HS.out HFO.out HU4.out ho5 hg5)
          clear HR4 ho5 hg5 hfr5
          refine wp_app (v := u9) (y := .slice (some ⟨wr.heap.size, 0, none⟩) 1 1) rfl rfl rfl hap ?_
          simp only [Act.put, List.setIfInBounds_toArray, List.set_cons_zero, List.set_cons_succ]
          refine hK.out _ _ HN5.out.2 (fun hS2 => ?_)
          clear hK K hS hap
          have hS := hS2
          clear hS2
          refine wpAnyH_ready (rs := [16]) (by kernel_rfl) (by simp) ?_
          refine AllReadyH.cons (o := { dst := some 9, op := Go.Op.assign (Go.Operand.tmp 58), type := 59, pos := "outright.go:136", after := #[{ on := 15, ground := Go.Ground.data }, { on := 15, ground := Go.Ground.chain }, { on := 0, ground := Go.Ground.phase }, { on := 1, ground := Go.Ground.phase }, { on := 2, ground := Go.Ground.phase }, { on := 3, ground := Go.Ground.phase }, { on := 4, ground := Go.Ground.phase }, { on := 5, ground := Go.Ground.phase }, { on := 6, ground := Go.Ground.phase }, { on := 7, ground := Go.Ground.phase }, { on := 8, ground := Go.Ground.phase }, { on := 9, ground := Go.Ground.phase }, { on := 10, ground := Go.Ground.phase }, { on := 11, ground := Go.Ground.phase }, { on := 12, ground := Go.Ground.phase }, { on := 13, ground := Go.Ground.phase }, { on := 14, ground := Go.Ground.phase }, { on := 15, ground := Go.Ground.phase }], guard := none }) rfl (fun K hK => ?_) AllReadyH.nil
          rw [if_pos (by kernel_rfl)]
          go_simp
          refine hK.out _ _ hS (fun hS2 => ?_)
          clear hK K hS hS2
          refine wpAnyH_done (by kernel_rfl) ?_ _
          go_wp2
          go_roundw
          case rel => exact ⟨j + 1, by simp, by omega, Hid.of (by rw [HTS.out.1]; exact HN5.out)⟩
          case measure => simp [intOf]; omega
        | false =>
          have HS : Hid (sel false y q = false) := Hid.of (by unfold sel; rw [HI.out.1]; simp)
          go_wp2
          go_roundw
          case rel => exact ⟨j + 1, by simp, by omega, Hid.of (by rw [HTS.out.1]; exact HFO.out.snoc HS.out)⟩
          case measure => simp [intOf]; omega
      · rw [hi0] at hci
        have HI := Hid.of (And.intro hi0 trivial)
        clear hi0 hi2
        cases y with
        | true =>
          have HS : Hid (sel x true q = true) := Hid.of (by unfold sel; rw [HI.out.1]; simp)
          go_wp2
          clear hci
          refine wp_region_held_drew (S := fun w2 => Up w w2) (by kernel_rfl) HFO.out.2.drew (fun hS => ?_)
          refine wpAnyH_take (i := 0) (oi := { dst := some 43, op := Go.Op.move (Go.Operand.tmp 9), type := 59, pos := "outright.go:136", after := #[], guard := none }) (v := u9) rfl (by kernel_rfl) (by kernel_rfl) (by kernel_rfl) (fun _ _ _ h => h) (Or.inl ⟨by kernel_rfl, ?_⟩) hS ?_
          · intro w5 hSw
            clear hSw hS
            go_simp
          simp only [Act.put, List.setIfInBounds_toArray, List.set_cons_zero, List.set_cons_succ]
          refine wpAnyH_take (i := 1) (oi := { dst := some 44, op := Go.Op.move (Go.Operand.tmp 0), type := 66, pos := "outright.go:136", after := #[], guard := none }) (v := .slice (some ⟨b, off, none⟩) n c) rfl (by kernel_rfl) (by kernel_rfl) (by kernel_rfl) (fun _ _ _ h => h) (Or.inl ⟨by kernel_rfl, ?_⟩) hS ?_
          · intro w5 hSw
            clear hSw hS
            go_simp
          simp only [Act.put, List.setIfInBounds_toArray, List.set_cons_zero, List.set_cons_succ]
          refine wpAnyH_take (i := 2) (oi := { dst := some 45, op := Go.Op.move (Go.Operand.tmp 10), type := 3, pos := "outright.go:136", after := #[], guard := none }) (v := .int .i64 (j : Int)) rfl (by kernel_rfl) (by kernel_rfl) (by kernel_rfl) (fun _ _ _ h => h) (Or.inl ⟨by kernel_rfl, ?_⟩) hS ?_
          · intro w5 hSw
            clear hSw hS
            go_simp
          simp only [Act.put, List.setIfInBounds_toArray, List.set_cons_zero, List.set_cons_succ]
          refine wpAnyH_take (i := 3) (oi := { dst := some 46, op := Go.Op.indexAddr 66 (Go.Operand.tmp 44) (Go.Operand.tmp 45), type := 0, pos := "outright.go:136", after := #[{ on := 1, ground := Go.Ground.data }, { on := 2, ground := Go.Ground.data }], guard := none }) (v := .pointer (some ⟨b, off + j * 5, none⟩)) rfl (by kernel_rfl) (by kernel_rfl) (by kernel_rfl) (fun _ _ _ h => h) (Or.inl ⟨by kernel_rfl, ?_⟩) hS ?_
          · intro w5 hSw
            clear hSw hS
            go_simp
          simp only [Act.put, List.setIfInBounds_toArray, List.set_cons_zero, List.set_cons_succ]
          refine wpAnyH_take (i := 4) (oi := { dst := some 47, op := Go.Op.fieldAddr 65 (Go.Operand.tmp 46) 3, type := 0, pos := "outright.go:136", after := #[{ on := 3, ground := Go.Ground.data }], guard := none }) (v := .pointer (some ⟨b, off + j * 5 + 3, none⟩)) rfl (by kernel_rfl) (by kernel_rfl) (by kernel_rfl) (fun _ _ _ h => h) (Or.inl ⟨by kernel_rfl, ?_⟩) hS ?_
          · intro w5 hSw
            clear hSw hS
            go_simp
          simp only [Act.put, List.setIfInBounds_toArray, List.set_cons_zero, List.set_cons_succ]
          refine wpAnyH_take (i := 5) (oi := { dst := some 48, op := Go.Op.fieldAddr 63 (Go.Operand.tmp 47) 0, type := 0, pos := "outright.go:136", after := #[{ on := 4, ground := Go.Ground.data }], guard := none }) (v := .pointer (some ⟨b, off + j * 5 + 3, none⟩)) rfl (by kernel_rfl) (by kernel_rfl) (by kernel_rfl) (fun _ _ _ h => h) (Or.inl ⟨by kernel_rfl, ?_⟩) hS ?_
          · intro w5 hSw
            clear hSw hS
            go_simp
          simp only [Act.put, List.setIfInBounds_toArray, List.set_cons_zero, List.set_cons_succ]
          refine wpAnyH_take (i := 6) (oi := { dst := some 49, op := Go.Op.load 3 (Go.Operand.tmp 48), type := 3, pos := "outright.go:136", after := #[{ on := 5, ground := Go.Ground.data }], guard := none }) (v := .int .i64 q.k) rfl (by kernel_rfl) (by kernel_rfl) (by kernel_rfl) (fun _ _ _ h => h) (Or.inl ⟨by kernel_rfl, ?_⟩) hS ?_
          · intro w5 hSw
            have hc := (HSL.out.up hSw).at hj HQ.out.1
            obtain ⟨_, _, _, hk, hn⟩ := hc
            clear hSw hS
            go_simp
          simp only [Act.put, List.setIfInBounds_toArray, List.set_cons_zero, List.set_cons_succ]
          refine wpAnyH_take (i := 7) (oi := { dst := some 50, op := Go.Op.move (Go.Operand.tmp 0), type := 66, pos := "outright.go:136", after := #[], guard := none }) (v := .slice (some ⟨b, off, none⟩) n c) rfl (by kernel_rfl) (by kernel_rfl) (by kernel_rfl) (fun _ _ _ h => h) (Or.inl ⟨by kernel_rfl, ?_⟩) hS ?_
          · intro w5 hSw
            clear hSw hS
            go_simp
          simp only [Act.put, List.setIfInBounds_toArray, List.set_cons_zero, List.set_cons_succ]
          refine wpAnyH_take (i := 8) (oi := { dst := some 51, op := Go.Op.move (Go.Operand.tmp 10), type := 3, pos := "outright.go:136", after := #[], guard := none }) (v := .int .i64 (j : Int)) rfl (by kernel_rfl) (by kernel_rfl) (by kernel_rfl) (fun _ _ _ h => h) (Or.inl ⟨by kernel_rfl, ?_⟩) hS ?_
          · intro w5 hSw
            clear hSw hS
            go_simp
          simp only [Act.put, List.setIfInBounds_toArray, List.set_cons_zero, List.set_cons_succ]
          refine wpAnyH_take (i := 9) (oi := { dst := some 52, op := Go.Op.indexAddr 66 (Go.Operand.tmp 50) (Go.Operand.tmp 51), type := 0, pos := "outright.go:136", after := #[{ on := 7, ground := Go.Ground.data }, { on := 8, ground := Go.Ground.data }], guard := none }) (v := .pointer (some ⟨b, off + j * 5, none⟩)) rfl (by kernel_rfl) (by kernel_rfl) (by kernel_rfl) (fun _ _ _ h => h) (Or.inl ⟨by kernel_rfl, ?_⟩) hS ?_
          · intro w5 hSw
            clear hSw hS
            go_simp
          simp only [Act.put, List.setIfInBounds_toArray, List.set_cons_zero, List.set_cons_succ]
          refine wpAnyH_take (i := 10) (oi := { dst := some 53, op := Go.Op.fieldAddr 65 (Go.Operand.tmp 52) 3, type := 0, pos := "outright.go:136", after := #[{ on := 9, ground := Go.Ground.data }], guard := none }) (v := .pointer (some ⟨b, off + j * 5 + 3, none⟩)) rfl (by kernel_rfl) (by kernel_rfl) (by kernel_rfl) (fun _ _ _ h => h) (Or.inl ⟨by kernel_rfl, ?_⟩) hS ?_
          · intro w5 hSw
            clear hSw hS
            go_simp
          simp only [Act.put, List.setIfInBounds_toArray, List.set_cons_zero, List.set_cons_succ]
          refine wpAnyH_take (i := 11) (oi := { dst := some 54, op := Go.Op.fieldAddr 63 (Go.Operand.tmp 53) 1, type := 0, pos := "outright.go:136", after := #[{ on := 10, ground := Go.Ground.data }], guard := none }) (v := .pointer (some ⟨b, off + j * 5 + 3 + 1, none⟩)) rfl (by kernel_rfl) (by kernel_rfl) (by kernel_rfl) (fun _ _ _ h => h) (Or.inl ⟨by kernel_rfl, ?_⟩) hS ?_
          · intro w5 hSw
            clear hSw hS
            go_simp
          simp only [Act.put, List.setIfInBounds_toArray, List.set_cons_zero, List.set_cons_succ]
          refine wpAnyH_take (i := 12) (oi := { dst := some 55, op := Go.Op.load 3 (Go.Operand.tmp 54), type := 3, pos := "outright.go:136", after := #[{ on := 11, ground := Go.Ground.data }], guard := none }) (v := .int .i64 q.n) rfl (by kernel_rfl) (by kernel_rfl) (by kernel_rfl) (fun _ _ _ h => h) (Or.inl ⟨by kernel_rfl, ?_⟩) hS ?_
          · intro w5 hSw
            have hc := (HSL.out.up hSw).at hj HQ.out.1
            obtain ⟨_, _, _, hk, hn⟩ := hc
            clear hSw hS
            go_simp
          simp only [Act.put, List.setIfInBounds_toArray, List.set_cons_zero, List.set_cons_succ]
          refine wpAnyH_take (i := 13) (oi := { dst := some 56, op := Go.Op.build 58 #[(0, Go.Operand.tmp 49), (1, Go.Operand.tmp 55)], type := 58, pos := "outright.go:136", after := #[{ on := 6, ground := Go.Ground.data }, { on := 12, ground := Go.Ground.data }], guard := none }) (v := .agg #[.int .i64 q.k, .int .i64 q.n]) rfl (by kernel_rfl) (by kernel_rfl) (by kernel_rfl) (fun _ _ _ h => h) (Or.inl ⟨by kernel_rfl, ?_⟩) hS ?_
          · intro w5 hSw
            clear hSw hS
            go_simp
          simp only [Act.put, List.setIfInBounds_toArray, List.set_cons_zero, List.set_cons_succ]
          refine wpAnyH_ready (rs := [14]) (by kernel_rfl) (by simp) ?_
          refine AllReadyH.cons (o := { dst := some 57, op := Go.Op.buildSlice 59 1 #[(0, Go.Operand.tmp 56)], type := 59, pos := "outright.go:136", after := #[{ on := 13, ground := Go.Ground.data }], guard := none }) rfl (fun K hK => ?_) AllReadyH.nil
          rw [if_pos (by kernel_rfl)]
          go_simp
          have HU4 := Hid.of (((Up.refl wr).alloc (.cells #[.int .i64 q.k, .int .i64 q.n] 58)).drew)
          generalize hW4 : (wr.alloc (.cells #[.int .i64 q.k, .int .i64 q.n] 58)).drew = W4 at *
          have HA4' : Hid (At W4 wr.heap.size 58 [.int .i64 q.k, .int .i64 q.n]) := by
            rw [← hW4]
            exact Hid.of ((at_new wr 58 [.int .i64 q.k, .int .i64 q.n]).up (Up.refl _).drew)
          clear hW4
          refine hK.out _ _ (HFO.out.2.trans HU4.out) (fun hS2 => ?_)
          clear hK K hS
          have hS := hS2
          clear hS2
          refine wpAnyH_ready (rs := [15]) (by kernel_rfl) (by simp) ?_
          refine AllReadyH.cons (o := { dst := some 58, op := Go.Op.call { callee := Go.Callee.builtin Go.Builtin.append, args := #[Go.Operand.tmp 43, Go.Operand.tmp 57], argTypes := #[59, 59] }, type := 59, pos := "outright.go:136", after := #[{ on := 0, ground := Go.Ground.data }, { on := 14, ground := Go.Ground.data }], guard := none }) rfl (fun K hK => ?_) AllReadyH.nil
          rw [if_pos (by kernel_rfl)]
          have HR4 := Hid.of (ow_up HFO.out.1 HU4.out)
          obtain ⟨v5, W5, hap, ho5, hg5, hfr5⟩ := run_append_frsN (P := Try.prog) W4 w.heap.size 59 59 58 i0 (.agg #[.int .i64 0, .int .i64 0]) 2 16 Try.underlying59 HI0.out hz0 hz1 hz2 rfl (by decide) u9 _ _ HR4.out ⟨wr.heap.size, 0, none⟩ 1 1 [.int .i64 q.k, .int .i64 q.n] rfl (fun j u hu => by rw [Addr.add_lit, Nat.zero_add]; exact HA4'.out.cell hu) (fun u hu => by
            simp only [List.mem_cons, List.not_mem_nil, or_false] at hu
            rcases hu with rfl | rfl <;> rfl) (by have h1 := HFL.out; simp only [maxLen]; omega) (by have h1 := HFL.out; omega) (HFO.out.2.trans HU4.out).size
          have HN5 := Hid.of (FO.app HS.out HFO.out HU4.out ho5 hg5)
          clear HR4 ho5 hg5 hfr5
          refine wp_app (v := u9) (y := .slice (some ⟨wr.heap.size, 0, none⟩) 1 1) rfl rfl rfl hap ?_
          simp only [Act.put, List.setIfInBounds_toArray, List.set_cons_zero, List.set_cons_succ]
          refine hK.out _ _ HN5.out.2 (fun hS2 => ?_)
          clear hK K hS hap
          have hS := hS2
          clear hS2
          refine wpAnyH_ready (rs := [16]) (by kernel_rfl) (by simp) ?_
          refine AllReadyH.cons (o := { dst := some 9, op := Go.Op.assign (Go.Operand.tmp 58), type := 59, pos := "outright.go:136", after := #[{ on := 15, ground := Go.Ground.data }, { on := 15, ground := Go.Ground.chain }, { on := 0, ground := Go.Ground.phase }, { on := 1, ground := Go.Ground.phase }, { on := 2, ground := Go.Ground.phase }, { on := 3, ground := Go.Ground.phase }, { on := 4, ground := Go.Ground.phase }, { on := 5, ground := Go.Ground.phase }, { on := 6, ground := Go.Ground.phase }, { on := 7, ground := Go.Ground.phase }, { on := 8, ground := Go.Ground.phase }, { on := 9, ground := Go.Ground.phase }, { on := 10, ground := Go.Ground.phase }, { on := 11, ground := Go.Ground.phase }, { on := 12, ground := Go.Ground.phase }, { on := 13, ground := Go.Ground.phase }, { on := 14, ground := Go.Ground.phase }, { on := 15, ground := Go.Ground.phase }], guard := none }) rfl (fun K hK => ?_) AllReadyH.nil
          rw [if_pos (by kernel_rfl)]
          go_simp
          refine hK.out _ _ hS (fun hS2 => ?_)
          clear hK K hS hS2
          refine wpAnyH_done (by kernel_rfl) ?_ _
          go_wp2
          go_roundw
          case rel => exact ⟨j + 1, by simp, by omega, Hid.of (by rw [HTS.out.1]; exact HN5.out)⟩
          case measure => simp [intOf]; omega
        | false =>
          have HS : Hid (sel x false q = false) := Hid.of (by unfold sel; rw [HI.out.1]; simp)
          go_wp2
          go_roundw
          case rel => exact ⟨j + 1, by simp, by omega, Hid.of (by rw [HTS.out.1]; exact HFO.out.snoc HS.out)⟩
          case measure => simp [intOf]; omega
    · have hltz : ¬ (j : Int) < (n : Int) := by omega
      obtain rfl : j = n := by omega
      have hlt' : l.take j = l := by rw [← HNN.out.1, List.take_length]
      have hFO := HFO.out
      rw [hlt'] at hFO
      have hN := New_yes wr 2 u9 (ftl x y l) (by omega) (by omega) (fts_row hFO.1) (fateE_ok (by have := ftl_len x y l; have := HNN.out.1; omega) (ftl_ok (fun q hq => (HSL.out.ok q hq).fk)))
      have HUF := Hid.of hFO.2
      clear hFO HFO hlt'
      go_wp2_with fail
      refine hN.mono ?_
      rintro e w1 ⟨S0, rfl, h1, h2, h3, h4, h5, h6, _⟩
      have HT0 := Hid.of (two_new h3)
      have HJ0 := Hid.of (LJ.new h1 h2 (h3.trans (show _ = A0 x y l from rfl)) h4 (HUF.out.trans h5) (fun x hx => Nat.le_trans HUF.out.size (h6 x hx)))
      clear h1 h2 h3 h4 h5 h6 hN HUF hltz
      obtain ⟨nb, hnb⟩ : ∃ nb, S0.nb = nb := ⟨_, rfl⟩
      rw [hnb]
      have HNB0 := Hid.of (And.intro hnb trivial)
      clear hnb
      dsimp only
      obtain ⟨j0, hj0⟩ : ∃ j0, j0 = j := ⟨_, rfl⟩
      subst hj0
      go_wp2_with (go_at_call 13; refine (num_walk _ _).mono ?_; rintro _ w9 ⟨rfl, h9⟩; obtain rfl := h9.symm; clear h9; dsimp only)
      go_loopw [13, 14, 15, 16] (fun v13 v14 _ _ wr => ∃ j : Nat, v14 = .int .i64 (j : Int) ∧ v13 = .int .i64 (gsum (l.take j) : Int) ∧ j ≤ j0 ∧ Hid (∃ S, LJ w wr S ((l.take j).foldl (snA x y) (A0 x y l)) j ∧ S.nb = nb ∧ two S)) (fun _ v14 _ _ _ => j0 - (intOf v14).toNat)
      case atStart => exact ⟨0, rfl, rfl, by omega, Hid.of ⟨S0, HJ0.out, HNB0.out.1, HT0.out⟩⟩
      case round =>
        clear HJ0 HNB0 HT0
        obtain ⟨j, rfl, rfl, hjn, hR⟩ := hrel
        obtain ⟨wx, hwx⟩ : ∃ wx, wx = wr := ⟨_, rfl⟩
        subst hwx
        obtain ⟨S1, h1, h2, h3⟩ := hR.out
        have HJ := Hid.of h1
        have HNB := Hid.of (And.intro h2 trivial)
        have HT := Hid.of h3
        clear hR h1 h2 h3
        have hgs : gsum (l.take j) ≤ 500 := Nat.le_trans (gsum_le (fun q hq => (HSL.out.ok q (List.mem_of_mem_take hq)).g2)) (by rw [List.length_take]; omega)
        have HNW := Hid.of (And.intro (show ((l.take j).foldl (snA x y) (A0 x y l)).now = gsum (l.take j) by rw [fold_now]; simp [A0]) trivial)
        by_cases hlt : j < j0
        · have hltz : (j : Int) < (j0 : Int) := by omega
          have hjw : IntKind.i64.wrap ((j : Int) + 1) = (j : Int) + 1 := by rw [IntKind.wrap_i64]; omega
          have hj : j < l.length := by rw [HNN.out.1]; exact hlt
          obtain ⟨b, off, rfl, _⟩ := HSL.out.get hj
          obtain ⟨q, hq⟩ : ∃ q, l[j] = q := ⟨_, rfl⟩
          have HQ := Hid.of (And.intro hq trivial)
          obtain ⟨hciz, hci, _, _, _⟩ := (HSL.out.up HJ.out.up).at hj hq
          have HOK := Hid.of (HSL.out.ok q (hq ▸ List.getElem_mem hj))
          have hi2 := HOK.out.i2
          have hg2 := HOK.out.g2
          have hgw : IntKind.i64.wrap ((gsum (l.take j) : Int) + (q.g : Int)) = (gsum (l.take j) : Int) + (q.g : Int) := by rw [IntKind.wrap_i64]; omega
          have HTS := Hid.of (And.intro (take_snoc hj hq) trivial)
          have hP := HJ.out.pass q.g (by omega) (by rw [HNW.out.1]; omega) (by omega) HT.out
          rw [HNB.out.1] at hP
          have HNW2 := Hid.of (And.intro (show (itA q.g ((l.take j).foldl (snA x y) (A0 x y l))).now = gsum (l.take j) + q.g by rw [itA_now, HNW.out.1]) trivial)
          clear hq
          obtain hi0 | hi0 : q.i = 0 ∨ q.i = 1 := by omega
          · rw [hi0] at hci
            have HI := Hid.of (And.intro hi0 trivial)
            clear hi0 hi2
            cases x with
            | true =>
              have HS : Hid (sel true y q = true) := Hid.of (by unfold sel; rw [HI.out.1]; simp)
              go_wp2_with fail
              refine hP.mono ?_
              rintro e w2 ⟨rfl, S2, h2, h3, h4⟩
              have HJ2 := Hid.of h2
              have HNB2 := Hid.of (And.intro h3 trivial)
              have HT2 := Hid.of h4
              obtain ⟨hcg, hci, _, _, _⟩ := (HSL.out.up h2.up).at hj HQ.out.1
              rw [HI.out.1] at hci
              clear h2 h3 h4 hP HJ HNB HT
              dsimp only
              go_wp2_with (go_at_call 13; refine (num_walk _ _).mono ?_; rintro _ w9 ⟨rfl, h9⟩; obtain rfl := h9.symm; clear h9; dsimp only)
              clear hci hcg
              refine wp_region_held_drew (S := fun w2 => Up w w2) (by kernel_rfl) HJ2.out.up.drew (fun hS => ?_)
              refine wpAnyH_take (i := 0) (oi := { dst := some 114, op := Go.Op.move (Go.Operand.tmp 11), type := 22, pos := "outright.go:151", after := #[], guard := none }) (v := .pointer (some ⟨nb, 0, none⟩)) rfl (by kernel_rfl) (by kernel_rfl) (by kernel_rfl) (fun _ _ _ h => h) (Or.inl ⟨by kernel_rfl, ?_⟩) hS ?_
              · intro w5 hSw
                clear hSw hS
                go_simp
              simp only [Act.put, List.setIfInBounds_toArray, List.set_cons_zero, List.set_cons_succ]
              refine wpAnyH_take (i := 1) (oi := { dst := some 115, op := Go.Op.move (Go.Operand.tmp 0), type := 66, pos := "outright.go:151", after := #[], guard := none }) (v := .slice (some ⟨b, off, none⟩) j0 c) rfl (by kernel_rfl) (by kernel_rfl) (by kernel_rfl) (fun _ _ _ h => h) (Or.inl ⟨by kernel_rfl, ?_⟩) hS ?_
              · intro w5 hSw
                clear hSw hS
                go_simp
              simp only [Act.put, List.setIfInBounds_toArray, List.set_cons_zero, List.set_cons_succ]
              refine wpAnyH_take (i := 2) (oi := { dst := some 116, op := Go.Op.move (Go.Operand.tmp 14), type := 3, pos := "outright.go:151", after := #[], guard := none }) (v := .int .i64 (j : Int)) rfl (by kernel_rfl) (by kernel_rfl) (by kernel_rfl) (fun _ _ _ h => h) (Or.inl ⟨by kernel_rfl, ?_⟩) hS ?_
              · intro w5 hSw
                clear hSw hS
                go_simp
              simp only [Act.put, List.setIfInBounds_toArray, List.set_cons_zero, List.set_cons_succ]
              refine wpAnyH_take (i := 3) (oi := { dst := some 117, op := Go.Op.indexAddr 66 (Go.Operand.tmp 115) (Go.Operand.tmp 116), type := 0, pos := "outright.go:151", after := #[{ on := 1, ground := Go.Ground.data }, { on := 2, ground := Go.Ground.data }], guard := none }) (v := .pointer (some ⟨b, off + j * 5, none⟩)) rfl (by kernel_rfl) (by kernel_rfl) (by kernel_rfl) (fun _ _ _ h => h) (Or.inl ⟨by kernel_rfl, ?_⟩) hS ?_
              · intro w5 hSw
                clear hSw hS
                go_simp
              simp only [Act.put, List.setIfInBounds_toArray, List.set_cons_zero, List.set_cons_succ]
              refine wpAnyH_take (i := 4) (oi := { dst := some 118, op := Go.Op.fieldAddr 65 (Go.Operand.tmp 117) 1, type := 0, pos := "outright.go:151", after := #[{ on := 3, ground := Go.Ground.data }], guard := none }) (v := .pointer (some ⟨b, off + j * 5 + 1, none⟩)) rfl (by kernel_rfl) (by kernel_rfl) (by kernel_rfl) (fun _ _ _ h => h) (Or.inl ⟨by kernel_rfl, ?_⟩) hS ?_
              · intro w5 hSw
                clear hSw hS
                go_simp
              simp only [Act.put, List.setIfInBounds_toArray, List.set_cons_zero, List.set_cons_succ]
              refine wpAnyH_take (i := 5) (oi := { dst := some 119, op := Go.Op.load 3 (Go.Operand.tmp 118), type := 3, pos := "outright.go:151", after := #[{ on := 4, ground := Go.Ground.data }], guard := none }) (v := .int .i64 0) rfl (by kernel_rfl) (by kernel_rfl) (by kernel_rfl) (fun _ _ _ h => h) (Or.inl ⟨by kernel_rfl, ?_⟩) hS ?_
              · intro w5 hSw
                have hc := (HSL.out.up hSw).at hj HQ.out.1
                obtain ⟨_, ha, hd, _, _⟩ := hc
                rw [HI.out.1] at ha
                clear hSw hS
                go_simp
              simp only [Act.put, List.setIfInBounds_toArray, List.set_cons_zero, List.set_cons_succ]
              refine wpAnyH_take (i := 6) (oi := { dst := some 120, op := Go.Op.move (Go.Operand.tmp 0), type := 66, pos := "outright.go:151", after := #[], guard := none }) (v := .slice (some ⟨b, off, none⟩) j0 c) rfl (by kernel_rfl) (by kernel_rfl) (by kernel_rfl) (fun _ _ _ h => h) (Or.inl ⟨by kernel_rfl, ?_⟩) hS ?_
              · intro w5 hSw
                clear hSw hS
                go_simp
              simp only [Act.put, List.setIfInBounds_toArray, List.set_cons_zero, List.set_cons_succ]
              refine wpAnyH_take (i := 7) (oi := { dst := some 121, op := Go.Op.move (Go.Operand.tmp 14), type := 3, pos := "outright.go:151", after := #[], guard := none }) (v := .int .i64 (j : Int)) rfl (by kernel_rfl) (by kernel_rfl) (by kernel_rfl) (fun _ _ _ h => h) (Or.inl ⟨by kernel_rfl, ?_⟩) hS ?_
              · intro w5 hSw
                clear hSw hS
                go_simp
              simp only [Act.put, List.setIfInBounds_toArray, List.set_cons_zero, List.set_cons_succ]
              refine wpAnyH_take (i := 8) (oi := { dst := some 122, op := Go.Op.indexAddr 66 (Go.Operand.tmp 120) (Go.Operand.tmp 121), type := 0, pos := "outright.go:151", after := #[{ on := 6, ground := Go.Ground.data }, { on := 7, ground := Go.Ground.data }], guard := none }) (v := .pointer (some ⟨b, off + j * 5, none⟩)) rfl (by kernel_rfl) (by kernel_rfl) (by kernel_rfl) (fun _ _ _ h => h) (Or.inl ⟨by kernel_rfl, ?_⟩) hS ?_
              · intro w5 hSw
                clear hSw hS
                go_simp
              simp only [Act.put, List.setIfInBounds_toArray, List.set_cons_zero, List.set_cons_succ]
              refine wpAnyH_take (i := 9) (oi := { dst := some 123, op := Go.Op.fieldAddr 65 (Go.Operand.tmp 122) 2, type := 0, pos := "outright.go:151", after := #[{ on := 8, ground := Go.Ground.data }], guard := none }) (v := .pointer (some ⟨b, off + j * 5 + 2, none⟩)) rfl (by kernel_rfl) (by kernel_rfl) (by kernel_rfl) (fun _ _ _ h => h) (Or.inl ⟨by kernel_rfl, ?_⟩) hS ?_
              · intro w5 hSw
                clear hSw hS
                go_simp
              simp only [Act.put, List.setIfInBounds_toArray, List.set_cons_zero, List.set_cons_succ]
              refine wpAnyH_take (i := 10) (oi := { dst := some 124, op := Go.Op.load 47 (Go.Operand.tmp 123), type := 47, pos := "outright.go:151", after := #[{ on := 9, ground := Go.Ground.data }], guard := none }) (v := .slice q.a q.d.length q.c) rfl (by kernel_rfl) (by kernel_rfl) (by kernel_rfl) (fun _ _ _ h => h) (Or.inl ⟨by kernel_rfl, ?_⟩) hS ?_
              · intro w5 hSw
                have hc := (HSL.out.up hSw).at hj HQ.out.1
                obtain ⟨_, ha, hd, _, _⟩ := hc
                clear hSw hS
                go_simp
              simp only [Act.put, List.setIfInBounds_toArray, List.set_cons_zero, List.set_cons_succ]
              refine wpAnyH_take (i := 12) (oi := { dst := some 126, op := Go.Op.move (Go.Operand.tmp 0), type := 66, pos := "outright.go:151", after := #[], guard := none }) (v := .slice (some ⟨b, off, none⟩) j0 c) rfl (by kernel_rfl) (by kernel_rfl) (by kernel_rfl) (fun _ _ _ h => h) (Or.inl ⟨by kernel_rfl, ?_⟩) hS ?_
              · intro w5 hSw
                clear hSw hS
                go_simp
              simp only [Act.put, List.setIfInBounds_toArray, List.set_cons_zero, List.set_cons_succ]
              refine wpAnyH_take (i := 13) (oi := { dst := some 127, op := Go.Op.move (Go.Operand.tmp 14), type := 3, pos := "outright.go:151", after := #[], guard := none }) (v := .int .i64 (j : Int)) rfl (by kernel_rfl) (by kernel_rfl) (by kernel_rfl) (fun _ _ _ h => h) (Or.inl ⟨by kernel_rfl, ?_⟩) hS ?_
              · intro w5 hSw
                clear hSw hS
                go_simp
              simp only [Act.put, List.setIfInBounds_toArray, List.set_cons_zero, List.set_cons_succ]
              refine wpAnyH_take (i := 14) (oi := { dst := some 128, op := Go.Op.indexAddr 66 (Go.Operand.tmp 126) (Go.Operand.tmp 127), type := 0, pos := "outright.go:151", after := #[{ on := 12, ground := Go.Ground.data }, { on := 13, ground := Go.Ground.data }], guard := none }) (v := .pointer (some ⟨b, off + j * 5, none⟩)) rfl (by kernel_rfl) (by kernel_rfl) (by kernel_rfl) (fun _ _ _ h => h) (Or.inl ⟨by kernel_rfl, ?_⟩) hS ?_
              · intro w5 hSw
                clear hSw hS
                go_simp
              simp only [Act.put, List.setIfInBounds_toArray, List.set_cons_zero, List.set_cons_succ]
              refine wpAnyH_take (i := 15) (oi := { dst := some 129, op := Go.Op.fieldAddr 65 (Go.Operand.tmp 128) 2, type := 0, pos := "outright.go:151", after := #[{ on := 14, ground := Go.Ground.data }], guard := none }) (v := .pointer (some ⟨b, off + j * 5 + 2, none⟩)) rfl (by kernel_rfl) (by kernel_rfl) (by kernel_rfl) (fun _ _ _ h => h) (Or.inl ⟨by kernel_rfl, ?_⟩) hS ?_
              · intro w5 hSw
                clear hSw hS
                go_simp
              simp only [Act.put, List.setIfInBounds_toArray, List.set_cons_zero, List.set_cons_succ]
              refine wpAnyH_take (i := 16) (oi := { dst := some 130, op := Go.Op.load 47 (Go.Operand.tmp 129), type := 47, pos := "outright.go:151", after := #[{ on := 15, ground := Go.Ground.data }], guard := none }) (v := .slice q.a q.d.length q.c) rfl (by kernel_rfl) (by kernel_rfl) (by kernel_rfl) (fun _ _ _ h => h) (Or.inl ⟨by kernel_rfl, ?_⟩) hS ?_
              · intro w5 hSw
                have hc := (HSL.out.up hSw).at hj HQ.out.1
                obtain ⟨_, ha, hd, _, _⟩ := hc
                clear hSw hS
                go_simp
              simp only [Act.put, List.setIfInBounds_toArray, List.set_cons_zero, List.set_cons_succ]
              refine wpAnyH_take (i := 17) (oi := { dst := some 131, op := Go.Op.call { callee := Go.Callee.builtin Go.Builtin.len, args := #[Go.Operand.tmp 130], argTypes := #[47] }, type := 3, pos := "outright.go:151", after := #[{ on := 16, ground := Go.Ground.data }], guard := none }) (v := .int .i64 (q.d.length : Int)) rfl (by kernel_rfl) (by kernel_rfl) (by kernel_rfl) (fun _ _ _ h => h) (Or.inl ⟨by kernel_rfl, ?_⟩) hS ?_
              · intro w5 hSw
                clear hSw hS
                go_simp
              simp only [Act.put, List.setIfInBounds_toArray, List.set_cons_zero, List.set_cons_succ]
              refine wpAnyH_ready (rs := [11]) (by kernel_rfl) (by simp) ?_
              refine AllReadyH.cons (o := { dst := some 125, op := Go.Op.call { callee := Go.Callee.value (Go.Operand.func 22), args := #[Go.Operand.tmp 124], argTypes := #[47] }, type := 47, pos := "outright.go:151", after := #[{ on := 10, ground := Go.Ground.data }], guard := none }) rfl (fun K hK => ?_) AllReadyH.nil
              rw [if_pos (by kernel_rfl)]
              go_simp
              refine (lent_walk w2.drew (.slice q.a q.d.length q.c) q.d (HOK.out.sb.up HJ2.out.up.drew) (by have := HOK.out.len; omega)).mono ?_
              rintro e w3 ⟨rfl, o3, u3⟩
              rw [show w2.drew.heap.size = w2.heap.size from rfl] at o3 ⊢
              dsimp only
              have HU3 := Hid.of ((Up.refl w2).drew.trans u3)
              have HO3 := Hid.of o3
              clear o3 u3 hS
              refine hK.out _ _ (HJ2.out.up.trans HU3.out) (fun hS => ?_)
              clear hK K
              refine wpAnyH_take (i := 18) (oi := { dst := some 132, op := Go.Op.slice 47 (Go.Operand.tmp 125) none (some (Go.Operand.tmp 131)) none, type := 47, pos := "outright.go:151", after := #[{ on := 11, ground := Go.Ground.data }, { on := 17, ground := Go.Ground.data }], guard := none }) (v := .slice (some ⟨w2.heap.size, 0, none⟩) q.d.length (q.d.length + 200)) rfl (by kernel_rfl) (by kernel_rfl) (by kernel_rfl) (fun _ _ _ h => h) (Or.inl ⟨by kernel_rfl, ?_⟩) hS ?_
              · intro w5 hSw
                have hle : (q.d.length : Int) ≤ ((q.d.length + 200 : Nat) : Int) := by omega
                have hle2 : (q.d.length : Int) ≤ (q.d.length : Int) + 200 := by omega
                clear hSw hS
                go_simp
              simp only [Act.put, List.setIfInBounds_toArray, List.set_cons_zero, List.set_cons_succ]
              refine wpAnyH_ready (rs := [19]) (by kernel_rfl) (by simp) ?_
              refine AllReadyH.cons (o := { dst := some 133, op := Go.Op.call { callee := Go.Callee.value (Go.Operand.func 18), args := #[Go.Operand.tmp 114, Go.Operand.tmp 119, Go.Operand.tmp 132], argTypes := #[22, 3, 47] }, type := 23, pos := "outright.go:151", after := #[{ on := 0, ground := Go.Ground.data }, { on := 5, ground := Go.Ground.data }, { on := 18, ground := Go.Ground.data }, { on := 11, ground := Go.Ground.chain }], guard := none }) rfl (fun K hK => ?_) AllReadyH.nil
              rw [if_pos (by kernel_rfl)]
              have hS9 := (HJ2.out.up' HU3.out).sent 0 (by omega) (.slice (some ⟨w2.heap.size, 0, none⟩) q.d.length (q.d.length + 200)) q.d (lnt_sb rfl HO3.out) (fun g hg => row_tag HO3.out hg) (by have := HOK.out.len; omega) (by rw [HNW2.out.1]; omega) (by omega) HT2.out
              rw [HNB2.out.1] at hS9
              go_simp
              refine hS9.mono ?_
              rintro e w4 ⟨rfl, S4, h4, h5, h6⟩
              dsimp only
              have HJ4 := Hid.of h4
              have HNB4 := Hid.of (And.intro h5 trivial)
              have HT4 := Hid.of h6
              clear h4 h5 h6 hS9 hS
              refine hK.out _ _ HJ4.out.up (fun hS => ?_)
              clear hK K
              refine wpAnyH_ready (rs := [20]) (by kernel_rfl) (by simp) ?_
              refine AllReadyH.cons (o := { dst := some 16, op := Go.Op.assign (Go.Operand.tmp 133), type := 23, pos := "outright.go:151", after := #[{ on := 19, ground := Go.Ground.data }, { on := 19, ground := Go.Ground.chain }, { on := 0, ground := Go.Ground.phase }, { on := 1, ground := Go.Ground.phase }, { on := 2, ground := Go.Ground.phase }, { on := 3, ground := Go.Ground.phase }, { on := 4, ground := Go.Ground.phase }, { on := 5, ground := Go.Ground.phase }, { on := 6, ground := Go.Ground.phase }, { on := 7, ground := Go.Ground.phase }, { on := 8, ground := Go.Ground.phase }, { on := 9, ground := Go.Ground.phase }, { on := 10, ground := Go.Ground.phase }, { on := 11, ground := Go.Ground.phase }, { on := 12, ground := Go.Ground.phase }, { on := 13, ground := Go.Ground.phase }, { on := 14, ground := Go.Ground.phase }, { on := 15, ground := Go.Ground.phase }, { on := 16, ground := Go.Ground.phase }, { on := 17, ground := Go.Ground.phase }, { on := 18, ground := Go.Ground.phase }, { on := 19, ground := Go.Ground.phase }], guard := none }) rfl (fun K hK => ?_) AllReadyH.nil
              rw [if_pos (by kernel_rfl)]
              go_simp
              refine hK.out _ _ hS (fun hS2 => ?_)
              clear hK K hS hS2
              refine wpAnyH_done (by kernel_rfl) ?_ _
              go_wp2_with (go_at_call 13; refine (num_walk _ _).mono ?_; rintro _ w9 ⟨rfl, h9⟩; obtain rfl := h9.symm; clear h9; dsimp only)
              go_roundw
              case rel => exact ⟨j + 1, by simp, by rw [HTS.out.1, gsum_snoc]; simp, by omega, Hid.of ⟨S4, by
                rw [HTS.out.1, List.foldl_append, List.foldl_cons, List.foldl_nil]
                unfold snA
                rw [HS.out, if_pos rfl, HI.out.1]
                exact HJ4.out, HNB4.out.1, HT4.out⟩⟩
              case measure => simp [intOf]; omega
            | false =>
              have HS : Hid (sel false y q = false) := Hid.of (by unfold sel; rw [HI.out.1]; simp)
              go_wp2_with fail
              refine hP.mono ?_
              rintro e w2 ⟨rfl, S2, h2, h3, h4⟩
              have HJ2 := Hid.of h2
              have HNB2 := Hid.of (And.intro h3 trivial)
              have HT2 := Hid.of h4
              obtain ⟨hcg, hci, _, _, _⟩ := (HSL.out.up h2.up).at hj HQ.out.1
              rw [HI.out.1] at hci
              clear h2 h3 h4 hP HJ HNB HT
              dsimp only
              go_wp2_with (go_at_call 13; refine (num_walk _ _).mono ?_; rintro _ w9 ⟨rfl, h9⟩; obtain rfl := h9.symm; clear h9; dsimp only)
              go_roundw
              case rel => exact ⟨j + 1, by simp, by rw [HTS.out.1, gsum_snoc]; simp, by omega, Hid.of ⟨S2, by
                rw [HTS.out.1, List.foldl_append, List.foldl_cons, List.foldl_nil]
                unfold snA
                rw [HS.out, if_neg (by simp)]
                exact HJ2.out.more (by omega), HNB2.out.1, HT2.out⟩⟩
              case measure => simp [intOf]; omega
          · rw [hi0] at hci
            have HI := Hid.of (And.intro hi0 trivial)
            clear hi0 hi2
            cases y with
            | true =>
              have HS : Hid (sel x true q = true) := Hid.of (by unfold sel; rw [HI.out.1]; simp)
              go_wp2_with fail
              refine hP.mono ?_
              rintro e w2 ⟨rfl, S2, h2, h3, h4⟩
              have HJ2 := Hid.of h2
              have HNB2 := Hid.of (And.intro h3 trivial)
              have HT2 := Hid.of h4
              obtain ⟨hcg, hci, _, _, _⟩ := (HSL.out.up h2.up).at hj HQ.out.1
              rw [HI.out.1] at hci
              clear h2 h3 h4 hP HJ HNB HT
              dsimp only
              go_wp2_with (go_at_call 13; refine (num_walk _ _).mono ?_; rintro _ w9 ⟨rfl, h9⟩; obtain rfl := h9.symm; clear h9; dsimp only)
              clear hci hcg
              refine wp_region_held_drew (S := fun w2 => Up w w2) (by kernel_rfl) HJ2.out.up.drew (fun hS => ?_)
              refine wpAnyH_take (i := 0) (oi := { dst := some 114, op := Go.Op.move (Go.Operand.tmp 11), type := 22, pos := "outright.go:151", after := #[], guard := none }) (v := .pointer (some ⟨nb, 0, none⟩)) rfl (by kernel_rfl) (by kernel_rfl) (by kernel_rfl) (fun _ _ _ h => h) (Or.inl ⟨by kernel_rfl, ?_⟩) hS ?_
              · intro w5 hSw
                clear hSw hS
                go_simp
              simp only [Act.put, List.setIfInBounds_toArray, List.set_cons_zero, List.set_cons_succ]
              refine wpAnyH_take (i := 1) (oi := { dst := some 115, op := Go.Op.move (Go.Operand.tmp 0), type := 66, pos := "outright.go:151", after := #[], guard := none }) (v := .slice (some ⟨b, off, none⟩) j0 c) rfl (by kernel_rfl) (by kernel_rfl) (by kernel_rfl) (fun _ _ _ h => h) (Or.inl ⟨by kernel_rfl, ?_⟩) hS ?_
              · intro w5 hSw
                clear hSw hS
                go_simp
              simp only [Act.put, List.setIfInBounds_toArray, List.set_cons_zero, List.set_cons_succ]
              refine wpAnyH_take (i := 2) (oi := { dst := some 116, op := Go.Op.move (Go.Operand.tmp 14), type := 3, pos := "outright.go:151", after := #[], guard := none }) (v := .int .i64 (j : Int)) rfl (by kernel_rfl) (by kernel_rfl) (by kernel_rfl) (fun _ _ _ h => h) (Or.inl ⟨by kernel_rfl, ?_⟩) hS ?_
              · intro w5 hSw
                clear hSw hS
                go_simp
              simp only [Act.put, List.setIfInBounds_toArray, List.set_cons_zero, List.set_cons_succ]
              refine wpAnyH_take (i := 3) (oi := { dst := some 117, op := Go.Op.indexAddr 66 (Go.Operand.tmp 115) (Go.Operand.tmp 116), type := 0, pos := "outright.go:151", after := #[{ on := 1, ground := Go.Ground.data }, { on := 2, ground := Go.Ground.data }], guard := none }) (v := .pointer (some ⟨b, off + j * 5, none⟩)) rfl (by kernel_rfl) (by kernel_rfl) (by kernel_rfl) (fun _ _ _ h => h) (Or.inl ⟨by kernel_rfl, ?_⟩) hS ?_
              · intro w5 hSw
                clear hSw hS
                go_simp
              simp only [Act.put, List.setIfInBounds_toArray, List.set_cons_zero, List.set_cons_succ]
              refine wpAnyH_take (i := 4) (oi := { dst := some 118, op := Go.Op.fieldAddr 65 (Go.Operand.tmp 117) 1, type := 0, pos := "outright.go:151", after := #[{ on := 3, ground := Go.Ground.data }], guard := none }) (v := .pointer (some ⟨b, off + j * 5 + 1, none⟩)) rfl (by kernel_rfl) (by kernel_rfl) (by kernel_rfl) (fun _ _ _ h => h) (Or.inl ⟨by kernel_rfl, ?_⟩) hS ?_
              · intro w5 hSw
                clear hSw hS
                go_simp
              simp only [Act.put, List.setIfInBounds_toArray, List.set_cons_zero, List.set_cons_succ]
              refine wpAnyH_take (i := 5) (oi := { dst := some 119, op := Go.Op.load 3 (Go.Operand.tmp 118), type := 3, pos := "outright.go:151", after := #[{ on := 4, ground := Go.Ground.data }], guard := none }) (v := .int .i64 1) rfl (by kernel_rfl) (by kernel_rfl) (by kernel_rfl) (fun _ _ _ h => h) (Or.inl ⟨by kernel_rfl, ?_⟩) hS ?_
              · intro w5 hSw
                have hc := (HSL.out.up hSw).at hj HQ.out.1
                obtain ⟨_, ha, hd, _, _⟩ := hc
                rw [HI.out.1] at ha
                clear hSw hS
                go_simp
              simp only [Act.put, List.setIfInBounds_toArray, List.set_cons_zero, List.set_cons_succ]
              refine wpAnyH_take (i := 6) (oi := { dst := some 120, op := Go.Op.move (Go.Operand.tmp 0), type := 66, pos := "outright.go:151", after := #[], guard := none }) (v := .slice (some ⟨b, off, none⟩) j0 c) rfl (by kernel_rfl) (by kernel_rfl) (by kernel_rfl) (fun _ _ _ h => h) (Or.inl ⟨by kernel_rfl, ?_⟩) hS ?_
              · intro w5 hSw
                clear hSw hS
                go_simp
              simp only [Act.put, List.setIfInBounds_toArray, List.set_cons_zero, List.set_cons_succ]
              refine wpAnyH_take (i := 7) (oi := { dst := some 121, op := Go.Op.move (Go.Operand.tmp 14), type := 3, pos := "outright.go:151", after := #[], guard := none }) (v := .int .i64 (j : Int)) rfl (by kernel_rfl) (by kernel_rfl) (by kernel_rfl) (fun _ _ _ h => h) (Or.inl ⟨by kernel_rfl, ?_⟩) hS ?_
              · intro w5 hSw
                clear hSw hS
                go_simp
              simp only [Act.put, List.setIfInBounds_toArray, List.set_cons_zero, List.set_cons_succ]
              refine wpAnyH_take (i := 8) (oi := { dst := some 122, op := Go.Op.indexAddr 66 (Go.Operand.tmp 120) (Go.Operand.tmp 121), type := 0, pos := "outright.go:151", after := #[{ on := 6, ground := Go.Ground.data }, { on := 7, ground := Go.Ground.data }], guard := none }) (v := .pointer (some ⟨b, off + j * 5, none⟩)) rfl (by kernel_rfl) (by kernel_rfl) (by kernel_rfl) (fun _ _ _ h => h) (Or.inl ⟨by kernel_rfl, ?_⟩) hS ?_
              · intro w5 hSw
                clear hSw hS
                go_simp
              simp only [Act.put, List.setIfInBounds_toArray, List.set_cons_zero, List.set_cons_succ]
              refine wpAnyH_take (i := 9) (oi := { dst := some 123, op := Go.Op.fieldAddr 65 (Go.Operand.tmp 122) 2, type := 0, pos := "outright.go:151", after := #[{ on := 8, ground := Go.Ground.data }], guard := none }) (v := .pointer (some ⟨b, off + j * 5 + 2, none⟩)) rfl (by kernel_rfl) (by kernel_rfl) (by kernel_rfl) (fun _ _ _ h => h) (Or.inl ⟨by kernel_rfl, ?_⟩) hS ?_
              · intro w5 hSw
                clear hSw hS
                go_simp
              simp only [Act.put, List.setIfInBounds_toArray, List.set_cons_zero, List.set_cons_succ]
              refine wpAnyH_take (i := 10) (oi := { dst := some 124, op := Go.Op.load 47 (Go.Operand.tmp 123), type := 47, pos := "outright.go:151", after := #[{ on := 9, ground := Go.Ground.data }], guard := none }) (v := .slice q.a q.d.length q.c) rfl (by kernel_rfl) (by kernel_rfl) (by kernel_rfl) (fun _ _ _ h => h) (Or.inl ⟨by kernel_rfl, ?_⟩) hS ?_
              · intro w5 hSw
                have hc := (HSL.out.up hSw).at hj HQ.out.1
                obtain ⟨_, ha, hd, _, _⟩ := hc
                clear hSw hS
                go_simp
              simp only [Act.put, List.setIfInBounds_toArray, List.set_cons_zero, List.set_cons_succ]
              refine wpAnyH_take (i := 12) (oi := { dst := some 126, op := Go.Op.move (Go.Operand.tmp 0), type := 66, pos := "outright.go:151", after := #[], guard := none }) (v := .slice (some ⟨b, off, none⟩) j0 c) rfl (by kernel_rfl) (by kernel_rfl) (by kernel_rfl) (fun _ _ _ h => h) (Or.inl ⟨by kernel_rfl, ?_⟩) hS ?_
              · intro w5 hSw
                clear hSw hS
                go_simp
              simp only [Act.put, List.setIfInBounds_toArray, List.set_cons_zero, List.set_cons_succ]
              refine wpAnyH_take (i := 13) (oi := { dst := some 127, op := Go.Op.move (Go.Operand.tmp 14), type := 3, pos := "outright.go:151", after := #[], guard := none }) (v := .int .i64 (j : Int)) rfl (by kernel_rfl) (by kernel_rfl) (by kernel_rfl) (fun _ _ _ h => h) (Or.inl ⟨by kernel_rfl, ?_⟩) hS ?_
              · intro w5 hSw
                clear hSw hS
                go_simp
              simp only [Act.put, List.setIfInBounds_toArray, List.set_cons_zero, List.set_cons_succ]
              refine wpAnyH_take (i := 14) (oi := { dst := some 128, op := Go.Op.indexAddr 66 (Go.Operand.tmp 126) (Go.Operand.tmp 127), type := 0, pos := "outright.go:151", after := #[{ on := 12, ground := Go.Ground.data }, { on := 13, ground := Go.Ground.data }], guard := none }) (v := .pointer (some ⟨b, off + j * 5, none⟩)) rfl (by kernel_rfl) (by kernel_rfl) (by kernel_rfl) (fun _ _ _ h => h) (Or.inl ⟨by kernel_rfl, ?_⟩) hS ?_
              · intro w5 hSw
                clear hSw hS
                go_simp
              simp only [Act.put, List.setIfInBounds_toArray, List.set_cons_zero, List.set_cons_succ]
              refine wpAnyH_take (i := 15) (oi := { dst := some 129, op := Go.Op.fieldAddr 65 (Go.Operand.tmp 128) 2, type := 0, pos := "outright.go:151", after := #[{ on := 14, ground := Go.Ground.data }], guard := none }) (v := .pointer (some ⟨b, off + j * 5 + 2, none⟩)) rfl (by kernel_rfl) (by kernel_rfl) (by kernel_rfl) (fun _ _ _ h => h) (Or.inl ⟨by kernel_rfl, ?_⟩) hS ?_
              · intro w5 hSw
                clear hSw hS
                go_simp
              simp only [Act.put, List.setIfInBounds_toArray, List.set_cons_zero, List.set_cons_succ]
              refine wpAnyH_take (i := 16) (oi := { dst := some 130, op := Go.Op.load 47 (Go.Operand.tmp 129), type := 47, pos := "outright.go:151", after := #[{ on := 15, ground := Go.Ground.data }], guard := none }) (v := .slice q.a q.d.length q.c) rfl (by kernel_rfl) (by kernel_rfl) (by kernel_rfl) (fun _ _ _ h => h) (Or.inl ⟨by kernel_rfl, ?_⟩) hS ?_
              · intro w5 hSw
                have hc := (HSL.out.up hSw).at hj HQ.out.1
                obtain ⟨_, ha, hd, _, _⟩ := hc
                clear hSw hS
                go_simp
              simp only [Act.put, List.setIfInBounds_toArray, List.set_cons_zero, List.set_cons_succ]
              refine wpAnyH_take (i := 17) (oi := { dst := some 131, op := Go.Op.call { callee := Go.Callee.builtin Go.Builtin.len, args := #[Go.Operand.tmp 130], argTypes := #[47] }, type := 3, pos := "outright.go:151", after := #[{ on := 16, ground := Go.Ground.data }], guard := none }) (v := .int .i64 (q.d.length : Int)) rfl (by kernel_rfl) (by kernel_rfl) (by kernel_rfl) (fun _ _ _ h => h) (Or.inl ⟨by kernel_rfl, ?_⟩) hS ?_
              · intro w5 hSw
                clear hSw hS
                go_simp
              simp only [Act.put, List.setIfInBounds_toArray, List.set_cons_zero, List.set_cons_succ]
              refine wpAnyH_ready (rs := [11]) (by kernel_rfl) (by simp) ?_
              refine AllReadyH.cons (o := { dst := some 125, op := Go.Op.call { callee := Go.Callee.value (Go.Operand.func 22), args := #[Go.Operand.tmp 124], argTypes := #[47] }, type := 47, pos := "outright.go:151", after := #[{ on := 10, ground := Go.Ground.data }], guard := none }) rfl (fun K hK => ?_) AllReadyH.nil
              rw [if_pos (by kernel_rfl)]
              go_simp
              refine (lent_walk w2.drew (.slice q.a q.d.length q.c) q.d (HOK.out.sb.up HJ2.out.up.drew) (by have := HOK.out.len; omega)).mono ?_
              rintro e w3 ⟨rfl, o3, u3⟩
              rw [show w2.drew.heap.size = w2.heap.size from rfl] at o3 ⊢
              dsimp only
              have HU3 := Hid.of ((Up.refl w2).drew.trans u3)
              have HO3 := Hid.of o3
              clear o3 u3 hS
              refine hK.out _ _ (HJ2.out.up.trans HU3.out) (fun hS => ?_)
              clear hK K
              refine wpAnyH_take (i := 18) (oi := { dst := some 132, op := Go.Op.slice 47 (Go.Operand.tmp 125) none (some (Go.Operand.tmp 131)) none, type := 47, pos := "outright.go:151", after := #[{ on := 11, ground := Go.Ground.data }, { on := 17, ground := Go.Ground.data }], guard := none }) (v := .slice (some ⟨w2.heap.size, 0, none⟩) q.d.length (q.d.length + 200)) rfl (by kernel_rfl) (by kernel_rfl) (by kernel_rfl) (fun _ _ _ h => h) (Or.inl ⟨by kernel_rfl, ?_⟩) hS ?_
              · intro w5 hSw
                have hle : (q.d.length : Int) ≤ ((q.d.length + 200 : Nat) : Int) := by omega
                have hle2 : (q.d.length : Int) ≤ (q.d.length : Int) + 200 := by omega
                clear hSw hS
                go_simp
              simp only [Act.put, List.setIfInBounds_toArray, List.set_cons_zero, List.set_cons_succ]
              refine wpAnyH_ready (rs := [19]) (by kernel_rfl) (by simp) ?_
              refine AllReadyH.cons (o := { dst := some 133, op := Go.Op.call { callee := Go.Callee.value (Go.Operand.func 18), args := #[Go.Operand.tmp 114, Go.Operand.tmp 119, Go.Operand.tmp 132], argTypes := #[22, 3, 47] }, type := 23, pos := "outright.go:151", after := #[{ on := 0, ground := Go.Ground.data }, { on := 5, ground := Go.Ground.data }, { on := 18, ground := Go.Ground.data }, { on := 11, ground := Go.Ground.chain }], guard := none }) rfl (fun K hK => ?_) AllReadyH.nil
              rw [if_pos (by kernel_rfl)]
              have hS9 := (HJ2.out.up' HU3.out).sent 1 (by omega) (.slice (some ⟨w2.heap.size, 0, none⟩) q.d.length (q.d.length + 200)) q.d (lnt_sb rfl HO3.out) (fun g hg => row_tag HO3.out hg) (by have := HOK.out.len; omega) (by rw [HNW2.out.1]; omega) (by omega) HT2.out
              rw [HNB2.out.1] at hS9
              go_simp
              refine hS9.mono ?_
              rintro e w4 ⟨rfl, S4, h4, h5, h6⟩
              dsimp only
              have HJ4 := Hid.of h4
              have HNB4 := Hid.of (And.intro h5 trivial)
              have HT4 := Hid.of h6
              clear h4 h5 h6 hS9 hS
              refine hK.out _ _ HJ4.out.up (fun hS => ?_)
              clear hK K
              refine wpAnyH_ready (rs := [20]) (by kernel_rfl) (by simp) ?_
              refine AllReadyH.cons (o := { dst := some 16, op := Go.Op.assign (Go.Operand.tmp 133), type := 23, pos := "outright.go:151", after := #[{ on := 19, ground := Go.Ground.data }, { on := 19, ground := Go.Ground.chain }, { on := 0, ground := Go.Ground.phase }, { on := 1, ground := Go.Ground.phase }, { on := 2, ground := Go.Ground.phase }, { on := 3, ground := Go.Ground.phase }, { on := 4, ground := Go.Ground.phase }, { on := 5, ground := Go.Ground.phase }, { on := 6, ground := Go.Ground.phase }, { on := 7, ground := Go.Ground.phase }, { on := 8, ground := Go.Ground.phase }, { on := 9, ground := Go.Ground.phase }, { on := 10, ground := Go.Ground.phase }, { on := 11, ground := Go.Ground.phase }, { on := 12, ground := Go.Ground.phase }, { on := 13, ground := Go.Ground.phase }, { on := 14, ground := Go.Ground.phase }, { on := 15, ground := Go.Ground.phase }, { on := 16, ground := Go.Ground.phase }, { on := 17, ground := Go.Ground.phase }, { on := 18, ground := Go.Ground.phase }, { on := 19, ground := Go.Ground.phase }], guard := none }) rfl (fun K hK => ?_) AllReadyH.nil
              rw [if_pos (by kernel_rfl)]
              go_simp
              refine hK.out _ _ hS (fun hS2 => ?_)
              clear hK K hS hS2
              refine wpAnyH_done (by kernel_rfl) ?_ _
              go_wp2_with (go_at_call 13; refine (num_walk _ _).mono ?_; rintro _ w9 ⟨rfl, h9⟩; obtain rfl := h9.symm; clear h9; dsimp only)
              go_roundw
              case rel => exact ⟨j + 1, by simp, by rw [HTS.out.1, gsum_snoc]; simp, by omega, Hid.of ⟨S4, by
                rw [HTS.out.1, List.foldl_append, List.foldl_cons, List.foldl_nil]
                unfold snA
                rw [HS.out, if_pos rfl, HI.out.1]
                exact HJ4.out, HNB4.out.1, HT4.out⟩⟩
              case measure => simp [intOf]; omega
            | false =>
              have HS : Hid (sel x false q = false) := Hid.of (by unfold sel; rw [HI.out.1]; simp)
              go_wp2_with fail
              refine hP.mono ?_
              rintro e w2 ⟨rfl, S2, h2, h3, h4⟩
              have HJ2 := Hid.of h2
              have HNB2 := Hid.of (And.intro h3 trivial)
              have HT2 := Hid.of h4
              obtain ⟨hcg, hci, _, _, _⟩ := (HSL.out.up h2.up).at hj HQ.out.1
              rw [HI.out.1] at hci
              clear h2 h3 h4 hP HJ HNB HT
              dsimp only
              go_wp2_with (go_at_call 13; refine (num_walk _ _).mono ?_; rintro _ w9 ⟨rfl, h9⟩; obtain rfl := h9.symm; clear h9; dsimp only)
              go_roundw
              case rel => exact ⟨j + 1, by simp, by rw [HTS.out.1, gsum_snoc]; simp, by omega, Hid.of ⟨S2, by
                rw [HTS.out.1, List.foldl_append, List.foldl_cons, List.foldl_nil]
                unfold snA
                rw [HS.out, if_neg (by simp)]
                exact HJ2.out.more (by omega), HNB2.out.1, HT2.out⟩⟩
              case measure => simp [intOf]; omega
        · have hltz : ¬ (j : Int) < (j0 : Int) := by omega
          obtain rfl : j = j0 := by omega
          have hNw := Now_walk wx S1 HJ.out.ok
          rw [HNB.out.1, HJ.out.now, HNW.out.1] at hNw
          go_wp2_with fail
          refine hNw.mono ?_
          rintro e w9 ⟨rfl, h9⟩
          obtain rfl := h9.symm
          clear h9 hNw
          dsimp only
          go_wp2
          go_ret3
          have hlt : l.take j = l := by rw [← HNN.out.1, List.take_length]
          rw [hlt] at HJ ⊢
          exact ⟨nb, rfl, S1, HJ.out.more (by omega), HNB.out.1, HT.out⟩
end Go.Proofs.Ytdlfkdehfenemaa
