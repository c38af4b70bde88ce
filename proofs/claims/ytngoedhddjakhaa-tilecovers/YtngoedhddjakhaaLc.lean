import Derived.Test.YtngoedhddjakhaaLb
namespace Go.Proofs.Ytngoedhddjakhaa
open Go.RowKit TileNum
set_option maxRecDepth 100000 in
theorem Try.infoTl : (Try.prog.info? 39).map (fun i => (i.zero, i.size, i.bytes)) = some (some (.agg #[.int .i64 0, .int .i64 0, .int .i64 0, .int .i64 0, .bool false]), 5, 40) := by kernel_rfl
/-- a list of tiles of one's own -/
def OwnTl (w : World) (B : Nat) (v : Value) (h : Nat) (ts : List TT) : Prop := w.ownsRow B 39 5 v ts.length (ts.flatMap (tc h))
theorem OwnTl.up {w w' : World} {B : Nat} {v : Value} {h : Nat} {ts : List TT} (q : OwnTl w B v h ts) (u : Up w w') : OwnTl w' B v h ts := by
  refine ⟨q.1, ?_⟩
  rcases q.2 with e | ⟨g, cap, cur, e, hbg, hg, r⟩
  · exact .inl e
  · exact .inr ⟨g, cap, cur, e, hbg, by rw [u.block g (lt_of_at hg)]; exact hg, r⟩
theorem OwnTl.base {w : World} {B B' : Nat} {v : Value} {h : Nat} {ts : List TT} (q : OwnTl w B v h ts) (hB : B' ≤ B) : OwnTl w B' v h ts := by
  refine ⟨q.1, ?_⟩
  rcases q.2 with e | ⟨g, cap, cur, e, hbg, r⟩
  · exact .inl e
  · exact .inr ⟨g, cap, cur, e, Nat.le_trans hB hbg, r⟩
theorem tc_len (h : Nat) (t : TT) : (tc h t).length = 5 := rfl
theorem tcs_len (h : Nat) : ∀ ts : List TT, (ts.flatMap (tc h)).length = ts.length * 5
  | [] => rfl
  | t :: ts => by rw [List.flatMap_cons, List.length_append, tc_len, tcs_len h ts, List.length_cons]; omega
theorem tc_one (h : Nat) (t : TT) : ∀ u ∈ tc h t, u.oneCell' = true := by
  intro u hu
  simp only [tc, List.mem_cons, List.not_mem_nil, or_false] at hu
  rcases hu with rfl | rfl | rfl | rfl | rfl <;> rfl
theorem wpList_appTl {ops : Array Oper} {rest : List Oper} {o : Oper} {a : Act} {w : World} {t : TypeId} {Q : Exit → Act → World → Prop} (hgd : o.guard = none) (s x : Operand)
    (ho : o.op = .call { callee := .builtin .append, args := #[s, x], argTypes := #[32, 32] }) (B : Nat) (v : Value) (h : Nat) (ts : List TT) (y : TT) (hs : a.eval s = v) (hown : OwnTl w B v h ts)
    (c : Nat) (hx : a.eval x = .slice (some ⟨w.heap.size, 0, none⟩) 1 c) (hn : ts.length + 1 ≤ 1099511627776) (hB : B ≤ w.heap.size)
    (hk : ∀ v' w', OwnTl w' B v' h (ts ++ [y]) → Below B w w' → wpList Try.prog ops Q rest (a.put o.dst v') w') : wpList Try.prog ops Q (o :: rest) a (w.alloc (.cells (tc h y).toArray t)) := by
  obtain ⟨i0, hi, hz0, hz1, hz2⟩ := info_parts Try.infoTl
  refine wpList_append_own _ hgd s x 32 ho B 39 i0 _ 5 40 Try.underlying32 hi hz0 hz1 hz2 rfl (by decide) v ts.length (ts.flatMap (tc h)) hs (hown.up ((Up.refl w).alloc _)) ⟨w.heap.size, 0, none⟩ 1 c (tc h y) hx (by simp [tc]) (cells_new w t (tc h y)) (tc_one h y) (by unfold maxLen; omega) (by omega) (by simp; omega) ?_
  intro v' w' h1 h2 _
  refine hk v' w' ?_ (((Below.refl B w).alloc hB _).trans ((Below.refl B _).grown h2 (by simp; omega) (fun k hk => (World.ownsRow.lt hown k hk).1)))
  unfold OwnTl
  rw [List.length_append, List.flatMap_append]
  simpa using h1
theorem wpList_mkTl {ops : Array Oper} {rest : List Oper} {o : Oper} {a : Act} {w : World} {Q : Exit → Act → World → Prop} (hg : o.guard = none) (l c : Operand) (hop : o.op = Op.makeSlice 32 l c)
    (h : Nat) (kl kc : IntKind) (C : Int) (n : Nat) (hl : a.eval l = .int kl 0) (hc : a.eval c = .int kc C) (hC : C = (n : Int)) (hn : n ≤ 1099511627776)
    (hK : ∀ v w', OwnTl w' w.heap.size v h [] → Up w w' → wpList Try.prog ops Q rest (a.put o.dst v) w') : wpList Try.prog ops Q (o :: rest) a w := by
  obtain ⟨i0, hi, hz0, hz1, hz2⟩ := info_parts Try.infoTl
  refine wpList_make_own w hg l c 32 hop w.heap.size 39 i0 _ 5 Try.underlying32 hi hz0 hz1 kl kc C n hl hc hC (by rw [hz2]; omega) (by unfold maxLen; omega) (Nat.le_refl _) ?_
  intro w' h1 h2
  exact hK _ w' h1 ((Below.refl _ w).grown h2 (Nat.le_refl _) (fun k hk => by cases hk))
theorem OwnTl.len {w : World} {B : Nat} {v : Value} {h : Nat} {ts : List TT} (q : OwnTl w B v h ts) : ∃ a c, v = .slice a ts.length c := by
  rcases q.2 with ⟨rfl, e⟩ | ⟨g, cap, cur, rfl, _⟩
  · exact ⟨none, 0, by rw [e]⟩
  · exact ⟨_, _, rfl⟩
theorem tcs_get {h : Nat} {u : Value} {j : Nat} : ∀ {ts : List TT} {i : Nat} (hi : i < ts.length), (tc h ts[i])[j]? = some u → (ts.flatMap (tc h))[i * 5 + j]? = some u
  | [], i, hi, _ => by simp at hi
  | t :: ts, 0, hi, hu => by
    have hj : j < 5 := (List.getElem?_eq_some_iff.1 hu).1
    rw [List.flatMap_cons, Nat.zero_mul, Nat.zero_add, List.getElem?_append_left (by rw [tc_len]; exact hj)]
    exact hu
  | t :: ts, i + 1, hi, hu => by
    rw [List.flatMap_cons, List.getElem?_append_right (by rw [tc_len]; omega), tc_len, show (i + 1) * 5 + j - 5 = i * 5 + j by omega]
    exact tcs_get (by simpa using hi) hu
/-- the tiles that are read -/
theorem OwnTl.get {w : World} {B : Nat} {v : Value} {h : Nat} {ts : List TT} (q : OwnTl w B v h ts) {i : Nat} (hi : i < ts.length) : ∃ g c, v = .slice (some ⟨g, 0, none⟩) ts.length c ∧ ts.length ≤ c ∧ g < w.heap.size ∧ ∀ j u, (tc h ts[i])[j]? = some u → w.cell? ⟨g, i * 5 + j, none⟩ = some u := by
  rcases q.2 with ⟨rfl, e⟩ | ⟨g, cap, cur, rfl, hbg, hg, hnc, _⟩
  · omega
  · refine ⟨g, cap, rfl, hnc, lt_of_at hg, fun j u hu => ?_⟩
    have key := tcs_get hi hu
    have := World.ownsRow.cells q (g := g) rfl _ _ key
    rwa [add_plain, Nat.zero_add] at this
set_option maxRecDepth 100000 in
theorem mayBe_walk (h p s : Nat) (h1 : 1 ≤ h) (h8 : h ≤ 8) (hp : p = 2 ^ h) (hs : s ≤ 281474976710656) (w : World) : Calls Try.prog 38 #[ly h s] w fun e w' => e = .returned (.bool true) ∧ Up w w' := by
  have HSp := fun w => Hid.of (span_walk h p h1 h8 hp w)
  have hp0 : 0 < p := by rw [hp]; exact pp h
  have hp0z : 0 < (p : Int) := by omega
  have hsz : (s : Int) ≤ 281474976710656 := by omega
  have hs0 : 0 ≤ (s : Int) := by omega
  clear hp
  unfold ly
  go_enter Try.func38, Try.ntmps38
  go_wp2_with (go_at_call 42; refine (HSp _).out.mono ?_; rintro e w9 ⟨rfl, h9⟩; obtain rfl := h9.symm)
  go_ret
  exact ⟨rfl, (Up.refl _).alloc _⟩
end Go.Proofs.Ytngoedhddjakhaa
