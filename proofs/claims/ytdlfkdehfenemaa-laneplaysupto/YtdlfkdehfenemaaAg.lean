import Derived.Test.YtdlfkdehfenemaaAf
namespace Go.Proofs.Ytdlfkdehfenemaa
open Go.RowKit Go.Conc TextNum
set_option maxRecDepth 100000 in
set_option maxHeartbeats 1000000 in
theorem Clone_walk (v : Value) (ds : List UInt8) (w : World) (hd : Sb w v ds) (hl : ds.length ≤ 140737488355328) :
    Calls Try.prog 51 #[v] w fun e w' => ∃ v', e = .returned v' ∧ Ow w' w.heap.size v' ds ∧ Up w w' := by
  obtain ⟨i0, hi, hz0, hz1, hz2⟩ := info_parts Try.infoU8
  obtain ⟨a, c, rfl, h1, h2, h3, h4⟩ := hd
  cases a with
  | none =>
    obtain ⟨rfl, rfl⟩ := h3 rfl
    clear h4 h3 h2 h1
    have heq : ∀ w', (binOp .eql 47 (.slice none 0 0) (.slice none 0 0)).run Try.prog w' = .ok (.bool true) w' := fun w' => Go.Lib.run_eql_slice_nil w' 47 5 none 0 0 0 0 Try.underlying47
    go_enter Try.func51, Try.ntmps51
    go_wp2
    go_ret
    exact ⟨_, rfl, World.ownsRow_nil _ _ _ _, Up.refl _⟩
  | some ad =>
    have HS := Hid.of (h4 ad rfl).2
    have HO := Hid.of (own_empty w)
    have HU := Hid.of ((Up.refl w).alloc (.cells #[] 5))
    clear h4 h3
    have heq : ∀ w', (binOp .eql 47 (.slice (some ad) ds.length c) (.slice none 0 0)).run Try.prog w' = .ok (.bool false) w' := fun w' => Go.Lib.run_eql_slice_nil w' 47 5 (some ad) ds.length c 0 0 Try.underlying47
    go_enter Try.func51, Try.ntmps51
    go_wp2_with (with_reducible show wpList _ _ _ ({ dst := _, op := Op.call { callee := Callee.builtin Builtin.append, args := _, argTypes := _ }, type := _, pos := _, after := _, guard := _ } :: _) _ _; refine Shut.out ?_)
    show wpList _ _ _ _ _ _
    refine wpList_append_frs rfl _ _ 47 rfl w.heap.size 5 i0 (.int .u8 0) 1 Try.underlying47 hi hz0 hz1 hz2 rfl _ 0 [] rfl HO.out ad ds.length c (cb ds) rfl (by rw [cb_length]; omega) (fun j u hj => HU.out.cell (HS.out j u hj)) (cb_one ds) (by simp only [maxLen]; omega) (by omega) (by have := HU.out.size; exact this) ?_
    intro v1 w1 o1 g1 f1
    have HO1 := Hid.of (show Ow w1 w.heap.size v1 ds by unfold Ow; simpa using o1)
    have HU1 := Hid.of (up_grownBy HU.out g1 (fun g hg => by have e : w.heap.size = g := Option.some.inj hg; omega))
    clear o1 g1 f1
    simp only [Act.put, List.setIfInBounds_toArray, List.set_cons_zero, List.set_cons_succ]
    go_wp2
    go_ret
    exact ⟨_, rfl, HO1.out, HU1.out⟩
theorem Ow.put {w : World} {B g n c : Nat} {ys : List UInt8} (o : Ow w B (.slice (some ⟨g, 0, none⟩) n c) ys) (i : Nat) (x : UInt8) : Ow (w.setCell ⟨g, i, none⟩ (.int .u8 (x.toNat : Int))) B (.slice (some ⟨g, 0, none⟩) n c) (ys.set i x) := by
  rcases o.2 with ⟨h, _⟩ | ⟨g', cap, cur, e, hb, hg, hnc, hcm, hcs, ht⟩
  · cases h
  · injection e with e1 e2 e3
    injection e1 with e1
    injection e1 with e1
    subst e1 e2 e3
    refine ⟨by rw [cb_length, Nat.mul_one], .inr ⟨g, c, _, by rw [List.length_set], hb, heap_setCell_same w g i cur _ _ hg, by rw [List.length_set]; exact hnc, hcm, ?_, ?_⟩⟩
    · rw [Array.size_setIfInBounds]; exact hcs
    · rw [List.length_set, Array.toList_setIfInBounds, List.take_set, ht]
      unfold cb
      rw [List.map_set]
theorem ow_cells {w : World} {B g n c : Nat} {ys : List UInt8} (o : Ow w B (.slice (some ⟨g, 0, none⟩) n c) ys) {i : Nat} (hi : i < ys.length) : w.cell? ⟨g, i, none⟩ = some (.int .u8 (ys[i].toNat : Int)) ∧ w.frozen? ⟨g, i, none⟩ = false := by
  have h1 := World.ownsRow.cells o rfl i _ (cb_get hi)
  rw [Addr.add_lit, Nat.zero_add] at h1
  refine ⟨h1, ?_⟩
  rcases o.2 with ⟨h, _⟩ | ⟨g', cap, cur, e, _, hg, _⟩
  · cases h
  · injection e with e1 e2 e3
    injection e1 with e1
    injection e1 with e1
    subst e1
    simp [World.frozen?, hg]
def spl (ds : List UInt8) (n : Nat) : List UInt8 := match ds[n]? with
  | some x => ds.set n (x ^^^ 1)
  | none => ds
theorem spl_len (ds : List UInt8) (n : Nat) : (spl ds n).length = ds.length := by
  unfold spl
  split <;> simp
set_option maxRecDepth 100000 in
theorem xor1 (x : UInt8) : bits BinOp.xor IntKind.u8 (x.toNat : Int) 1 = ((x ^^^ 1).toNat : Int) := by
  have key : ∀ n : Fin 256, bits BinOp.xor IntKind.u8 (n.val : Int) 1 = ((UInt8.ofNat n.val ^^^ 1).toNat : Int) := by decide
  have h := key ⟨x.toNat, x.toNat_lt⟩
  rw [UInt8.ofNat_toNat] at h
  exact h
set_option maxRecDepth 100000 in
theorem spoilt_walk (v : Value) (ds : List UInt8) (n : Nat) (w : World) (hd : Sb w v ds) (hl : ds.length ≤ 140737488355328) :
    Calls Try.prog 52 #[v, .int .i64 (n : Int)] w fun e w' => ∃ v', e = .returned v' ∧ Ow w' w.heap.size v' (spl ds n) ∧ Up w w' := by
  have HC := Hid.of (Clone_walk v ds w hd hl)
  clear hd
  go_enter Try.func52, Try.ntmps52
  go_wp2_with fail
  refine HC.out.mono ?_
  rintro e w1 ⟨v1, rfl, o1, u1⟩
  by_cases hn : n < ds.length
  · have hz : ¬ ((ds.length : Int) ≤ (n : Int)) := by omega
    rcases o1.2 with ⟨_, h0⟩ | ⟨g, cap, cur, rfl, hg, _⟩
    · omega
    obtain ⟨c1, t1⟩ := ow_cells o1 hn
    have o2 := o1.put n (ds[n] ^^^ 1)
    have hsp : spl ds n = ds.set n (ds[n] ^^^ 1) := by
      unfold spl
      rw [List.getElem?_eq_getElem hn]
    dsimp only
    go_wp2
    go_ret
    refine ⟨_, rfl, ?_, ?_⟩
    · rw [xor1]
      exact o2
    · exact u1.by (grown_set ..) (fun k hk => by
        have e : g = k := Option.some.inj hk
        omega)
  · have hz : ¬ ((n : Int) < (ds.length : Int)) := by omega
    have hsp : spl ds n = ds := by
      unfold spl
      rw [List.getElem?_eq_none (by omega)]
    have HO := Hid.of o1
    rcases o1.2 with ⟨rfl, h0⟩ | ⟨g, cap, cur, rfl, hg, _⟩
    · have hz2 : ¬ ((n : Int) < 0) := by omega
      clear o1 hz
      dsimp only
      go_wp2
      go_ret
      exact ⟨_, rfl, HO.out, u1⟩
    · clear o1
      dsimp only
      go_wp2
      go_ret
      exact ⟨_, rfl, HO.out, u1⟩
end Go.Proofs.Ytdlfkdehfenemaa
