import Derived.Test.YtdlfkdehfenemaaAu
namespace Go.Proofs.Ytdlfkdehfenemaa
open Go.RowKit Go.Conc TextNum
theorem infoFate : (Try.prog.info? 58).map (fun i => (i.zero, i.size, i.bytes)) = some (some (.agg #[.int .i64 0, .int .i64 0]), 2, 16) := by kernel_rfl
theorem infoPipe : (Try.prog.info? 87).map (fun i => (i.zero, i.size, i.bytes)) = some (some (.agg #[.chan none, .bool false, .int .i64 0]), 3, 24) := by kernel_rfl
theorem fc_one (fs : List (Int × Int)) : ∀ u ∈ fs.flatMap fc, u.oneCell' = true := fun u hu => by
  obtain ⟨f, _, h⟩ := List.mem_flatMap.1 hu
  simp only [fc, List.mem_cons, List.not_mem_nil, or_false] at h
  rcases h with rfl | rfl <;> rfl
theorem fcs_len (fs : List (Int × Int)) : (fs.flatMap fc).length = fs.length * 2 := by
  induction fs with
  | nil => rfl
  | cons f r ih =>
    rw [show (f :: r).flatMap fc = [.int .i64 f.1, .int .i64 f.2] ++ r.flatMap fc from rfl, List.length_append, ih]
    simp
    omega
/-- a row of fates of one's own is a list of fates -/
theorem fts_row {w : World} {B : Nat} {v : Value} {fs : List (Int × Int)} (h : w.ownsRow B 58 2 v fs.length (fs.flatMap fc)) : Fts w v fs := by
  rcases h.2 with ⟨rfl, h0⟩ | ⟨g, cap, cur, rfl, _, hg, hnc, hcm, _, _⟩
  · have : fs = [] := List.eq_nil_of_length_eq_zero h0
    subst this
    exact ⟨none, 0, rfl, by simp, by simp, fun _ => ⟨rfl, rfl⟩, fun _ e => by cases e⟩
  · refine ⟨_, cap, rfl, hnc, hcm, fun e => (by cases e), fun ad e => ?_⟩
    obtain rfl := Option.some.inj e
    exact ⟨rfl, ⟨cur, hg⟩, World.ownsRow.cells h rfl⟩
set_option maxRecDepth 100000 in
theorem CloneF_walk (v : Value) (fs : List (Int × Int)) (w : World) (hd : Fts w v fs) (hl : fs.length ≤ 65536) :
    Calls Try.prog 31 #[v] w fun e w' => ∃ v', e = .returned v' ∧ w'.ownsRow w.heap.size 58 2 v' fs.length (fs.flatMap fc) ∧ Up w w' := by
  obtain ⟨i0, hi, hz0, hz1, hz2⟩ := info_parts infoFate
  obtain ⟨a, c, rfl, h1, h2, h3, h4⟩ := hd
  cases a with
  | none =>
    obtain ⟨rfl, rfl⟩ := h3 rfl
    clear h4 h3 h2 h1
    have heq : ∀ w', (binOp .eql 59 (.slice none 0 0) (.slice none 0 0)).run Try.prog w' = .ok (.bool true) w' := fun w' => Go.Lib.run_eql_slice_nil w' 59 58 none 0 0 0 0 Try.underlying59
    go_enter Try.func31, Try.ntmps31
    go_wp2
    go_ret
    exact ⟨_, rfl, World.ownsRow_nil _ _ _ _, Up.refl _⟩
  | some ad =>
    have HS := Hid.of (h4 ad rfl).2.2
    have HO := Hid.of (show (w.alloc (.cells #[] 58)).ownsRow w.heap.size 58 2 (.slice (some ⟨w.heap.size, 0, none⟩) 0 0) 0 [] from ⟨rfl, .inr ⟨w.heap.size, 0, #[], rfl, Nat.le_refl _, heap_alloc_new w _, Nat.le_refl _, by simp [maxLen], rfl, rfl⟩⟩)
    have HU := Hid.of ((Up.refl w).alloc (.cells #[] 58))
    clear h4 h3
    have heq : ∀ w', (binOp .eql 59 (.slice (some ad) fs.length c) (.slice none 0 0)).run Try.prog w' = .ok (.bool false) w' := fun w' => Go.Lib.run_eql_slice_nil w' 59 58 (some ad) fs.length c 0 0 Try.underlying59
    go_enter Try.func31, Try.ntmps31
    go_wp2_with (with_reducible show wpList _ _ _ ({ dst := _, op := Op.call { callee := Callee.builtin Builtin.append, args := _, argTypes := _ }, type := _, pos := _, after := _, guard := _ } :: _) _ _; refine Shut.out ?_)
    show wpList _ _ _ _ _ _
    refine wpList_append_own _ rfl _ _ 59 rfl w.heap.size 58 i0 (.agg #[.int .i64 0, .int .i64 0]) 2 16 Try.underlying59 hi hz0 hz1 hz2 rfl (by decide) _ 0 [] rfl HO.out ad fs.length c (fs.flatMap fc) rfl (fcs_len fs) (fun j u hj => HU.out.cell (HS.out j u hj)) (fc_one fs) (by simp only [maxLen]; omega) (by omega) (by have := HU.out.size; exact this) ?_
    intro v1 w1 o1 g1 _
    have HO1 := Hid.of (show w1.ownsRow w.heap.size 58 2 v1 fs.length (fs.flatMap fc) by simpa using o1)
    have HU1 := Hid.of (up_grownBy HU.out g1 (fun g hg => by have e : w.heap.size = g := Option.some.inj hg; omega))
    clear o1 g1
    simp only [Act.put, List.setIfInBounds_toArray, List.set_cons_zero, List.set_cons_succ]
    go_wp2
    go_ret
    exact ⟨_, rfl, HO1.out, HU1.out⟩
end Go.Proofs.Ytdlfkdehfenemaa
