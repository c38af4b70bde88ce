import Derived.Test.YtaobnnlcfefodaaGreatDoorTa
import Derived.Deep.AppendSrc
namespace Go.Proofs.YtaobnnlcfefodaaGreatDoor
open Go.RowKit TextNum

theorem byteCells_cb (m : List UInt8) : byteCells ⟨m.toArray⟩ = cb m := by simp [byteCells, cb]
theorem str_size (m : List UInt8) : (⟨m.toArray⟩ : ByteArray).size = m.length := by simp [ByteArray.size]

/-- a text's bytes are appended to a list of one's own -/
theorem run_app_str {w : World} {B : Nat} {v : Value} {l : List UInt8} (m : List UInt8) (ty : TypeId) (hown : Own w B v l) (hn : l.length + m.length ≤ 140737488355328) (hB : B ≤ w.heap.size) :
    ∃ v' w', (Builtin.append_ #[23, 9] ty #[v, .string ⟨m.toArray⟩]).run Tryz.prog w = .ok v' w' ∧ Own w' B v' (l ++ m) ∧ Below B w w' := by
  obtain ⟨i, hi, hz, hsize, hby⟩ := info_parts Tryz.info8
  have ht : Tryz.prog.underlying 23 = some (.slice 5) := Tryz.underlying23
  have hs0 : Src Tryz.prog 1 9 (.string ⟨m.toArray⟩) (⟨m.toArray⟩ : ByteArray).size (byteCells ⟨m.toArray⟩) w := Src.ofString w Tryz.underlying9 ⟨m.toArray⟩
  rw [byteCells_cb, str_size] at hs0
  have hs : Src Tryz.prog i.size 9 (.string ⟨m.toArray⟩) m.length (cb m) w := by rw [hsize]; exact hs0
  have hlen : (cb l ++ cb m).length = l.length + m.length := by simp [cb]
  have grown : ∀ (old : Nat), old < l.length + m.length →
      (w.drew.alloc (.cells ((cb l ++ cb m).toArray ++ Builtin.zeroCells (Value.int .u8 0).cells (grownCap w (l.length + m.length) old 5 - (l.length + m.length))) 5)).ownsRow B 5 1
        (.slice (some ⟨w.heap.size, 0, none⟩) (l.length + m.length) (grownCap w (l.length + m.length) old 5)) (l.length + m.length) (cb l ++ cb m) := by
    intro old ho
    have hge := grownCap_ge w (l.length + m.length) old 5
    have hcm : grownCap w (l.length + m.length) old 5 ≤ maxLen := grownCap_le_maxLen w _ old _ (by unfold maxLen; omega)
    refine ⟨by rw [hlen, Nat.mul_one], .inr ⟨w.heap.size, _, _, rfl, hB, heap_alloc_new w.drew _, hge, hcm, ?_, ?_⟩⟩
    · simp only [Array.size_append, List.size_toArray, size_zeroCells, hlen]
      simp [Value.cells]
      omega
    · simp only [Array.toList_append]
      rw [Nat.mul_one, ← hlen]
      exact List.take_left
  have fin : ∀ {v' : Value} {w' : World}, w'.ownsRow B 5 1 v' (l.length + m.length) (cb l ++ cb m) → Own w' B v' (l ++ m) := by
    intro v' w' h
    unfold Own
    rw [List.length_append, cb_append]; exact h
  have up : ∀ o, Below B w (w.drew.alloc o) := fun o => Below.alloc (Below.drew (Below.refl B w)) hB o
  rcases hown.2 with ⟨rfl, e0⟩ | ⟨g, cap, cur, rfl, hbg, hg, hnc, hcm, hcs, htake⟩
  · have hl : l = [] := List.eq_nil_of_length_eq_zero e0
    subst hl
    by_cases hm : m = []
    · subst hm
      refine ⟨.slice none 0 0, w, ?_, hown, Below.refl _ _⟩
      have hk : Tryz.prog.underlying 9 = some .string := Tryz.underlying9
      simp [Builtin.append_, run_underlying ht, run_underlying hk, sizeOf, typeInfo, hi, Builtin.lenOf, Builtin.firstCells]
      rw [if_pos (show (⟨#[]⟩ : ByteArray) = ByteArray.empty from rfl)]
      rfl
    · have hp : 0 < m.length := List.length_pos_iff.2 hm
      have hr := run_append_grow_src (P := Tryz.prog) w 23 9 ty 5 i _ ht hi hz none 0 0 [] (run_firstCells_none w.drew i.size 0 0 0) _ m.length (cb m) hs (by omega) (by simp at hn; omega) (growslice_fits (by omega) (by rw [hby]; simp at hn; omega))
      have hgr := grown 0 (by simpa using hp)
      simp only [List.length_nil] at hgr fin
      exact ⟨_, _, hr, fin hgr, up _⟩
  · by_cases hroom : l.length + m.length ≤ cap
    · have hfit : l.length * 1 + (cb m).length ≤ cur.size := by rw [hcs, cb_length]; omega
      have hst := run_storeCells_at Tryz.prog g (l.length * i.size) 5 (cb m) 0 cur w hg (by rw [hsize]; simpa using hfit) (cb_one m)
      have hk : Tryz.prog.underlying 9 = some .string := Tryz.underlying9
      simp only [Nat.add_zero] at hst
      have hr : (Builtin.append_ #[23, 9] ty #[.slice (some ⟨g, 0, none⟩) l.length cap, .string ⟨m.toArray⟩]).run Tryz.prog w =
          .ok (.slice (some ⟨g, 0, none⟩) (l.length + m.length) cap) (w.setRow g (cur.toList.take (l.length * i.size) ++ cb m ++ cur.toList.drop (l.length * i.size + (cb m).length)).toArray) := by
        simp [Builtin.append_, run_underlying ht, run_underlying hk, sizeOf, typeInfo, hi, hs.len, hroom, hs.cells, Addr.add_lit, hst]
      refine ⟨_, _, hr, fin ⟨by rw [hlen, Nat.mul_one], .inr ⟨g, cap, _, rfl, hbg, setRow_heap w g cur _ 5 _ hg, hroom, hcm, ?_, ?_⟩⟩, ⟨rfl, rfl, rfl, by simp, fun k hk => setRow_other w g k _ (by omega)⟩⟩
      · simp only [List.size_toArray, List.length_append, List.length_take, List.length_drop, Array.length_toList, cb_length, hsize]
        omega
      · rw [hsize, htake, ← Nat.mul_one (l.length + m.length), Nat.mul_one, ← hlen]
        simp only [Nat.mul_one]
        exact List.take_left
    · have holds : ∀ j u, (cb l)[j]? = some u → w.cell? ((⟨g, 0, none⟩ : Addr).add j) = some u := World.ownsRow.cells hown (g := g) rfl
      have hold := run_firstCells_some (P := Tryz.prog) w.drew i.size l.length ⟨g, 0, none⟩ l.length cap (cb l) (by rw [hsize, cb_length, Nat.mul_one]) (by simpa using holds)
      have hr := run_append_grow_src (P := Tryz.prog) w 23 9 ty 5 i _ ht hi hz (some ⟨g, 0, none⟩) l.length cap (cb l) hold _ m.length (cb m) hs (by omega) (by omega) (growslice_fits (by omega) (by rw [hby]; omega))
      exact ⟨_, _, hr, fin (grown cap (by omega)), up _⟩

theorem wpList_apps {ops : Array Oper} {rest : List Oper} {o : Oper} {a : Act} {w : World} {Q : Exit → Act → World → Prop} (hgd : o.guard = none) (s x : Operand)
    (ho : o.op = .call { callee := .builtin .append, args := #[s, x], argTypes := #[23, 9] }) (B : Nat) (v : Value) (l m : List UInt8) (hs : a.eval s = v) (hown : Own w B v l)
    (hx : a.eval x = .string ⟨m.toArray⟩) (hn : l.length + m.length ≤ 140737488355328) (hB : B ≤ w.heap.size)
    (h : ∀ v' w', Own w' B v' (l ++ m) → Below B w w' → wpList Tryz.prog ops Q rest (a.put o.dst v') w') : wpList Tryz.prog ops Q (o :: rest) a w := by
  refine wpList_plain hgd fun K hK => ?_
  obtain ⟨v', w', hr, h2, h3⟩ := run_app_str m o.type hown hn hB
  unfold Oper.wp execOp
  simp only [ho, resolve, invoke, builtin, Sem.run_bind, Sem.run_pure, Result.andThen_ok, List.map_toArray, List.map_cons, List.map_nil, hs, hx, hr]
  exact hK _ _ (h v' w' h2 h3)
end Go.Proofs.YtaobnnlcfefodaaGreatDoor
