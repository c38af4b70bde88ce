import Derived.Test.YtehnnlhoajdcaaaGreatDoorMa
import Derived.Laws.StructEq
namespace Go.Proofs.YtehnnlhoajdcaaaGreatDoor
open Go.RowKit TextNum
structure FD where
 n : ByteArray
 v : ByteArray
def fdc (fs : List FD) : List Value := fs.flatMap fun f => [.string f.n, .string f.v]
theorem fdc_snoc (fs : List FD) (f : FD) : fdc (fs ++ [f]) = fdc fs ++ [.string f.n, .string f.v] := by simp [fdc]
theorem fdc_get : ∀ (fs : List FD) {i : Nat} (hi : i < fs.length), (fdc fs)[i * 2]? = some (.string fs[i].n) ∧ (fdc fs)[i * 2 + 1]? = some (.string fs[i].v)
 | g :: r, 0, _ => ⟨rfl, rfl⟩
 | g :: r, i + 1, hi => by
  have ih := fdc_get r (i := i) (by simpa using hi)
  have e : fdc (g :: r) = .string g.n :: .string g.v :: fdc r := rfl
  rw [e, show (i + 1) * 2 = i * 2 + 2 by omega]
  exact ih
structure FdL (w : World) (a : Option Addr) (fs : List FD) (c : Nat) : Prop where
 cap : fs.length ≤ c
 cells : ∀ i (h : i < fs.length), ∃ b off, a = some ⟨b, off, none⟩ ∧ w.cell? ⟨b, off + i * 2, none⟩ = some (.string fs[i].n) ∧ w.cell? ⟨b, off + i * 2 + 1, none⟩ = some (.string fs[i].v)
theorem FdL.up {w w' : World} {a : Option Addr} {fs : List FD} {c : Nat} (h : FdL w a fs c) (u : Up w w') : FdL w' a fs c :=
 ⟨h.cap, fun i hi => by obtain ⟨b, off, e, k, k2⟩ := h.cells i hi; exact ⟨b, off, e, u.cell k, u.cell k2⟩⟩
abbrev FdO (w : World) (N : Nat) (a : Option Addr) (fs : List FD) (c : Nat) : Prop := w.ownsRow N 89 2 (.slice a fs.length c) fs.length (fdc fs)
theorem FdO.fdl {w : World} {N : Nat} {a : Option Addr} {fs : List FD} {c : Nat} (h : FdO w N a fs c) : FdL w a fs c := by
 refine ⟨?_, fun i hi => ?_⟩
 · rcases h.2 with ⟨_, h0⟩ | ⟨g, cap, cur, e, _, _, hc, _⟩
   · omega
   injection e with _ _ e3
   omega
 rcases h.2 with ⟨_, h0⟩ | ⟨g, cap, cur, e, _, _, hc, _⟩
 · omega
 injection e with e1 _ e3
 subst e1 e3
 have hc := World.ownsRow.cells h rfl
 have h1 := hc (i * 2) _ (fdc_get fs hi).1
 have h2 := hc (i * 2 + 1) _ (fdc_get fs hi).2
 rw [Addr.add_lit] at h1 h2
 exact ⟨g, 0, rfl, h1, h2⟩
theorem infoFd2 : (Tryz.prog.info? 89).map (·.size) = some 2 := by kernel_rfl
theorem Tryz.infoFd : (Tryz.prog.info? 89).map (fun i => (i.zero, i.size, i.bytes)) = some (some (.agg #[.string ⟨#[]⟩, .string ⟨#[]⟩]), 2, 32) := by kernel_rfl
theorem exec_idxFd {o : Oper} {ρ : Operand → Value} {x y : Operand} {w : World} {b off n c : Nat} (i : Nat) (hi : i < n) (ho : o.op = .indexAddr 36 x y) (hx : ρ x = .slice (some ⟨b, off, none⟩) n c) (hy : ρ y = .int .i64 (i : Int)) : (execOp ρ o).run Tryz.prog w = .ok (.value (.pointer (some ⟨b, off + i * 2, none⟩))) w := by
 have hi' : (i : Int) < (n : Int) := by omega
 unfold execOp
 simp only [ho, hx, hy]
 go_simp
theorem wpList_valG {ops : Array Oper} {Q : Exit → Act → World → Prop} {rest : List Oper} {o : Oper} {a : Act} {w : World} (v : Value) (hw : Region.wanted o (yielded ops a.tmps) = true) (hy : (execOp a.eval o).run Tryz.prog w = .ok (.value v) w)
  (h : wpList Tryz.prog ops Q rest (a.put o.dst v) w) : wpList Tryz.prog ops Q (o :: rest) a w :=
 wpList_step fun K hK => by
  rw [if_pos hw]
  unfold Oper.wp
  rw [hy]
  exact hK _ _ h
theorem wpList_appFd {w : World} {N q : Nat} {ops : Array Oper} {rest : List Oper} {o : Oper} {a : Act} {Q : Exit → Act → World → Prop} (hgd : o.guard = none) (x y : Operand)
  (ho : o.op = .call { callee := .builtin .append, args := #[x, y], argTypes := #[36, 36] }) (ax : Option Addr) (cx : Nat) (fs : List FD) (f : FD) (hq : fs.length = q) (hx : a.eval x = .slice ax q cx) (hy : a.eval y = .slice (some ⟨w.heap.size, 0, none⟩) 1 1)
  (hR : FdO w N ax fs cx) (hNw : N ≤ w.heap.size) (hql : q ≤ 1099511627776)
  (K : ∀ ax2 cx2 w', FdO w' N ax2 (fs ++ [f]) cx2 → (∀ W, Up W w → W.heap.size ≤ N → Up W w') → w.grownBy w' (Value.slice ax q cx).ownBlock → wpList Tryz.prog ops Q rest (a.put o.dst (.slice ax2 (q + 1) cx2)) w') :
  wpList Tryz.prog ops Q (o :: rest) a (w.alloc (.cells #[.string f.n, .string f.v] 89)) := by
 subst hq
 obtain ⟨i1, hi1, hz0, hz1, hz2⟩ := info_parts Tryz.infoFd
 have HUx := (Up.refl w).alloc (.cells #[.string f.n, .string f.v] 89)
 have hnu := ow_up hR HUx
 refine wpList_append_own _ hgd x y 36 ho N 89 i1 (.agg #[.string ⟨#[]⟩, .string ⟨#[]⟩]) 2 32 Tryz.underlying36 hi1 hz0 hz1 hz2 rfl (by omega) (.slice ax fs.length cx) fs.length _ hx hnu ⟨w.heap.size, 0, none⟩ 1 1 [.string f.n, .string f.v] hy rfl ?_ ?_ (by simp only [maxLen]; omega) (by omega) (Nat.le_trans hNw HUx.size) ?_
 · intro j u hu
   rw [Addr.add_lit]
   exact At.cell (at_new w 89 [.string f.n, .string f.v]) (i := 0 + j) (by rw [Nat.zero_add]; exact hu)
 · intro u hu
   simp only [List.mem_cons, List.not_mem_nil, or_false] at hu
   rcases hu with rfl | rfl <;> rfl
 intro v8 w8 o8 g8 _
 obtain ⟨ax2, cx2, rfl⟩ : ∃ ax2 cx2, v8 = .slice ax2 (fs.length + 1) cx2 := by
  rcases o8.2 with ⟨_, h0⟩ | ⟨g, cap, cur, e1, _⟩
  · omega
  exact ⟨_, cap, e1⟩
 refine K ax2 cx2 w8 ?_ (fun W hU hW => up_grownBy (hU.trans HUx) g8 (fun k hk => Nat.le_trans hW (World.ownsRow.lt hR k hk).1)) (up_grown HUx g8)
 show w8.ownsRow N 89 2 (.slice ax2 (fs ++ [f]).length cx2) (fs ++ [f]).length (fdc (fs ++ [f]))
 rw [List.length_append, fdc_snoc]
 exact o8
def fnd (fs : List FD) (nm : ByteArray) : Option FD := fs.find? fun f => lws f.n.data.toList == lws nm.data.toList
def vlR (fs : List FD) (nm : ByteArray) : Value := match fnd fs nm with
 | some f => .tuple #[.string f.v, .bool true]
 | none => .tuple #[.string ⟨#[]⟩, .bool false]
theorem range2 {w : World} {b off : Nat} {x y : Value} (h1 : w.cell? ⟨b, off, none⟩ = some x) (h2 : w.cell? ⟨b, off + 1, none⟩ = some y) : w.rangeAt b off [x, y] := fun j v hj => by
 match j, hj with
 | 0, hj => simp at hj; subst hj; simpa using h1
 | 1, hj => simp at hj; subst hj; simpa using h2
end Go.Proofs.YtehnnlhoajdcaaaGreatDoor
