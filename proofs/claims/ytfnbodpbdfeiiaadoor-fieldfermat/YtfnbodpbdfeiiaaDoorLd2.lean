import Derived.Test.YtfnbodpbdfeiiaaDoorLd
namespace Go.Proofs.YtfnbodpbdfeiiaaDoor
open Go.RowKit Go.Shelf FieldNum

theorem grown_drewN {W w' : World} (h : Grown W w') (n : Nat) : Grown W (w'.drewN n) := h

set_option maxHeartbeats 1000000 in
theorem load_any (x : Nat) (w : World) :
    Calls Tryd.prog 23 #[bv x] w fun e w' =>
      e = .returned (numW ((x / 256 ^ 0 % 18446744073709551616 : Nat) : Int) ((x / 256 ^ 8 % 18446744073709551616 : Nat) : Int) ((x / 256 ^ 16 % 18446744073709551616 : Nat) : Int) ((x / 256 ^ 24 % 18446744073709551616 : Nat) : Int)) ∧ Grown w w' := by
  unfold bv
  go_enter Tryd.func23, Tryd.ntmps23
  go_wp2
  have hcell : ∀ (w' : World), w'.heap = ((w.alloc (Obj.cells (bl x).toArray 22)).alloc (Obj.cells #[Value.int IntKind.u64 0, Value.int IntKind.u64 0, Value.int IntKind.u64 0, Value.int IntKind.u64 0] 38)).heap →
      ∀ o : Nat, o ≤ 24 → ∀ j, j < 8 → w'.cell? ⟨w.heap.size, o + j, none⟩ = some (.int .u8 ((x / 256 ^ (o + j) % 256 : Nat) : Int)) := by
    intro w' hw' o ho j hj
    have e : w'.heap[w.heap.size]? = some (Obj.cells (bl x).toArray 22) := by
      rw [hw', heap_alloc2_old]
    rw [cell_of_row w' w.heap.size (o + j) _ _ _ e, List.getElem?_toArray]
    exact bl_get x (o + j) (by omega)
  go_region_held3 (fun _ => True) (trivial) (first
    | (go_at_call 36; refine Calls.mono (word_num x w.heap.size _ _ _ ?hc) ?_; (case hc => exact hcell _ rfl _ (by decide)); rintro e w' ⟨rfl, m, rfl⟩))
  go_wp2
  refine bodyPost_ret (v := numW ((x / 256 ^ 0 % 18446744073709551616 : Nat) : Int) ((x / 256 ^ 8 % 18446744073709551616 : Nat) : Int) ((x / 256 ^ 16 % 18446744073709551616 : Nat) : Int) ((x / 256 ^ 24 % 18446744073709551616 : Nat) : Int)) (by simp [results, Tryd.results23, go_sem]) rfl ?_
  exact ⟨rfl, by go_grown; exact grown_drewN (by go_grown) _⟩
set_option maxHeartbeats 1000000 in
theorem putWord_any (g o cap : Nat) (v : Int) (w : World) (u0 u1 u2 u3 u4 u5 u6 u7 : Value)
    (c0 : w.cell? ⟨g, o, none⟩ = some u0) (c1 : w.cell? ⟨g, o + 1, none⟩ = some u1) (c2 : w.cell? ⟨g, o + 2, none⟩ = some u2) (c3 : w.cell? ⟨g, o + 3, none⟩ = some u3)
    (c4 : w.cell? ⟨g, o + 4, none⟩ = some u4) (c5 : w.cell? ⟨g, o + 5, none⟩ = some u5) (c6 : w.cell? ⟨g, o + 6, none⟩ = some u6) (c7 : w.cell? ⟨g, o + 7, none⟩ = some u7)
    (fr : ∀ i, w.frozen? ⟨g, i, none⟩ = false) :
    Calls Tryd.prog 37 #[.slice (some ⟨g, o, none⟩) 8 cap, .int .u64 v] w fun e w' =>
      e = .returned (.tuple #[]) ∧ w' = w.setCells g o [.int .u8 (v % 256), .int .u8 (v / 256 % 256), .int .u8 (v / 65536 % 256), .int .u8 (v / 16777216 % 256), .int .u8 (v / 4294967296 % 256), .int .u8 (v / 1099511627776 % 256), .int .u8 (v / 281474976710656 % 256), .int .u8 (v / 72057594037927936 % 256)] := by
  go_enter Tryd.func37, Tryd.ntmps37
  go_wp2
  go_returns
  exact ⟨rfl, rfl⟩
end Go.Proofs.YtfnbodpbdfeiiaaDoor
