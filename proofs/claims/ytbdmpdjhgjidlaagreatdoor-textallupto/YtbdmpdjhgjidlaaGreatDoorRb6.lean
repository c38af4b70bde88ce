import Derived.Test.YtbdmpdjhgjidlaaGreatDoorPc
namespace TextNum
/-- the first k bits of a byte -/
def b8 (x : UInt8) (k : Nat) : List Nat := (List.range k).map fun t => x.toNat / 2 ^ (7 - t) % 2
def bt : List UInt8 → List Nat
  | [] => []
  | x :: r => b8 x 8 ++ bt r
theorem b8_succ (x : UInt8) (k : Nat) : b8 x (k + 1) = b8 x k ++ [x.toNat / 2 ^ (7 - k) % 2] := by simp [b8, List.range_succ]
theorem b8_length (x : UInt8) (k : Nat) : (b8 x k).length = k := by simp [b8]
theorem bt_append : ∀ a b, bt (a ++ b) = bt a ++ bt b
  | [], b => rfl
  | x :: r, b => by simp [bt, bt_append r b]
theorem bt_length : ∀ l, (bt l).length = 8 * l.length
  | [] => rfl
  | x :: r => by simp [bt, bt_length r, b8_length]; omega
theorem bt_snoc (l : List UInt8) (x : UInt8) : bt (l ++ [x]) = bt l ++ b8 x 8 := by rw [bt_append]; simp [bt]
theorem b8_two (x : UInt8) (k : Nat) : ∀ n ∈ b8 x k, n < 2 := by
  intro n hn
  obtain ⟨t, _, rfl⟩ := List.mem_map.1 hn
  exact Nat.mod_lt _ (by decide)
theorem bt_two : ∀ l, ∀ n ∈ bt l, n < 2
  | [], n, h => by cases h
  | x :: r, n, h => by
    rcases List.mem_append.1 h with h | h
    · exact b8_two x 8 n h
    · exact bt_two r n h
end TextNum
namespace Go.Proofs.YtbdmpdjhgjidlaaGreatDoor
open Go.RowKit TextNum

set_option maxRecDepth 100000 in
theorem Tryz.infoI : (Tryz.prog.info? 3).map (fun i => (i.zero, i.size, i.bytes)) = some (some (.int .i64 0), 1, 8) := by kernel_rfl
def ci (l : List Nat) : List Value := l.map fun (n : Nat) => Value.int .i64 (n : Int)
theorem ci_append (a b : List Nat) : ci (a ++ b) = ci a ++ ci b := by simp [ci]
theorem ci_get {l : List Nat} {i : Nat} (h : i < l.length) : (ci l)[i]? = some (.int .i64 (l[i] : Int)) := by simp [ci, h]
theorem ci_one (l : List Nat) : ∀ u ∈ ci l, u.oneCell' = true := by
  intro u hu
  obtain ⟨c, _, rfl⟩ := List.mem_map.1 hu
  rfl
/-- a list of ints of one's own -/
def OwnI (w : World) (B : Nat) (v : Value) (l : List Nat) : Prop := w.ownsRow B 3 1 v l.length (ci l)
theorem ownI_nil (w : World) (B : Nat) : OwnI w B (.slice none 0 0) [] := World.ownsRow_nil w B 3 1
theorem OwnI.len {w : World} {B : Nat} {v : Value} {l : List Nat} (h : OwnI w B v l) : ∃ a c, v = .slice a l.length c := by
  rcases h.2 with ⟨rfl, e⟩ | ⟨g, cap, cur, rfl, _⟩
  · exact ⟨none, 0, by rw [e]⟩
  · exact ⟨_, _, rfl⟩
theorem OwnI.below {w w' : World} {B : Nat} {v : Value} {l : List Nat} (h : OwnI w B v l) (k : Up w w') : OwnI w' B v l := by
  refine ⟨h.1, ?_⟩
  rcases h.2 with e | ⟨g, cap, cur, e, hbg, hg, r⟩
  · exact .inl e
  · have hlt : g < w.heap.size := by
      rcases Nat.lt_or_ge g w.heap.size with h1 | h1
      · exact h1
      · rw [Array.getElem?_eq_none h1] at hg; cases hg
    exact .inr ⟨g, cap, cur, e, hbg, by rw [k.block g hlt]; exact hg, r⟩
theorem OwnI.cells {w : World} {B : Nat} {v : Value} {l : List Nat} (h : OwnI w B v l) (h0 : l ≠ []) : ∃ g c, v = .slice (some ⟨g, 0, none⟩) l.length c ∧ l.length ≤ c ∧ g < w.heap.size ∧ ∀ i (hi : i < l.length), w.cell? ⟨g, i, none⟩ = some (.int .i64 (l[i] : Int)) := by
  rcases h.2 with ⟨rfl, e⟩ | ⟨g, cap, cur, rfl, hbg, hg, hnc, _⟩
  · exact absurd (List.eq_nil_of_length_eq_zero e) h0
  · refine ⟨g, cap, rfl, hnc, (World.ownsRow.lt h g rfl).2, fun i hi => ?_⟩
    have := World.ownsRow.cells h (g := g) rfl i _ (ci_get hi)
    rwa [add_plain, Nat.zero_add] at this
theorem wpList_appI {ops : Array Oper} {rest : List Oper} {o : Oper} {a : Act} {w : World} {t : TypeId} {Q : Exit → Act → World → Prop} (hgd : o.guard = none) (s x : Operand)
    (ho : o.op = .call { callee := .builtin .append, args := #[s, x], argTypes := #[49, 49] }) (B : Nat) (v : Value) (l : List Nat) (m : Nat) (hs : a.eval s = v) (hown : OwnI w B v l)
    (c : Nat) (hx : a.eval x = .slice (some ⟨w.heap.size, 0, none⟩) 1 c) (hn : l.length + 1 ≤ 17592186044416) (hB : B ≤ w.heap.size)
    (h : ∀ v' w', OwnI w' B v' (l ++ [m]) → Below B w w' → wpList Tryz.prog ops Q rest (a.put o.dst v') w') : wpList Tryz.prog ops Q (o :: rest) a (w.alloc (.cells (ci [m]).toArray t)) := by
  obtain ⟨i0, hi, hz0, hz1, hz2⟩ := info_parts Tryz.infoI
  refine wpList_append_own _ hgd s x 49 ho B 3 i0 (.int .i64 0) 1 8 Tryz.underlying49 hi hz0 hz1 hz2 rfl (by decide) v l.length (ci l) hs (OwnI.below hown ((Up.refl w).alloc _)) ⟨w.heap.size, 0, none⟩ 1 c (ci [m]) hx (by simp [ci]) (cells_new w t (ci [m])) (ci_one [m]) (by unfold maxLen; omega) (by omega) (by simp; omega) ?_
  intro v' w' h1 h2 _
  refine h v' w' ?_ (((Below.refl B w).alloc hB _).trans ((Below.refl B _).grown h2 (by simp; omega) (fun k hk => (World.ownsRow.lt hown k hk).1)))
  unfold OwnI
  rw [List.length_append, ci_append]
  exact h1

set_option maxRecDepth 100000 in
set_option maxHeartbeats 2000000 in
theorem bits_walk (v : Value) (l : List UInt8) (w : World) (hS : Sl w v l) (hl : l.length ≤ 1099511627776) :
    Calls Tryz.prog 26 #[v] w fun e w' => ∃ v', e = .returned v' ∧ OwnI w' w.heap.size v' (bt l) ∧ Up w w' := by
  obtain ⟨a, c, rfl, _, hS⟩ := hS
  have HT := Hid.of hS
  clear hS
  go_enter Tryz.func26, Tryz.ntmps26
  go_wp2
  go_loopw [3, 4] (fun v3 v4 wr => ∃ i : Nat, v4 = .int .i64 (i : Int) ∧ i ≤ l.length ∧ Hid (OwnI wr w.heap.size v3 (bt (l.take i)) ∧ Up w wr)) (fun _ v4 _ => l.length - (intOf v4).toNat)
  case atStart => exact ⟨0, rfl, by omega, ownI_nil _ _, Up.refl _⟩
  case round =>
    obtain ⟨i, rfl, hi, hI⟩ := hrel
    obtain ⟨wb, hwb⟩ : ∃ wb, wb = wr := ⟨_, rfl⟩
    subst hwb
    by_cases hlt : i < l.length
    · rcases HT.out with e | ⟨b, off, rfl, hb, hc⟩
      · subst e; simp at hlt
      · have HC := Hid.of (hc i hlt)
        have hlt' : (i : Int) < (l.length : Int) := by omega
        have HX := Hid.of (bt_snoc (l.take i) l[i])
        rw [← take_succ hlt] at HX
        have HL := Hid.of (show (bt (l.take i)).length ≤ 8796093022208 by rw [bt_length]; simp; omega)
        clear hc
        generalize l[i] = x at *
        have hx : x.toNat < 256 := x.toNat_lt
        go_wp2
        go_loopw [3, 5] (fun v3 v5 wr => ∃ k : Nat, v5 = .int .i64 (7 - (k : Int)) ∧ k ≤ 8 ∧ Hid (OwnI wr w.heap.size v3 (bt (l.take i) ++ b8 x k) ∧ Up w wr)) (fun _ v5 _ => (intOf v5 + 1).toNat)
        case atStart => exact ⟨0, rfl, by omega, by simpa [b8] using hI.out.1, hI.out.2⟩
        case round =>
          obtain ⟨k, rfl, hk, hI2⟩ := hrel
          by_cases hk8 : k < 8
          · have e1 : (0 : Int) ≤ 7 - (k : Int) := by omega
            have hcx := hI2.out.2.cell HC.out
            have HB8 := Hid.of (b8_succ x k)
            obtain ⟨y, hy⟩ : ∃ y : Nat, y = x.toNat / 2 ^ (7 - k) := ⟨_, rfl⟩
            have hs1 : (x.toNat : Int) / 2 ^ (7 - k) = (y : Int) := by rw [hy]; simp
            have hyl : y < 256 := by rw [hy]; exact Nat.lt_of_le_of_lt (Nat.div_le_self _ _) hx
            rw [← hy] at HB8
            clear hy
            have hs2 : (y : Int).tmod 2 = ((y % 2 : Nat) : Int) := by rw [Int.tmod_eq_emod_of_nonneg (by omega)]; omega
            have hb2 : y % 2 < 2 := Nat.mod_lt _ (by decide)
            generalize y % 2 = bb at *
            go_wp2_with (with_reducible show wpList _ _ _ ({ dst := _, op := Op.call { callee := Callee.builtin Builtin.append, args := _, argTypes := _ }, type := _, pos := _, after := _, guard := _ } :: _) _ _; refine Shut.out ?_)
            show wpList _ _ _ _ _ _
            refine wpList_appI rfl _ _ rfl w.heap.size _ (bt (l.take i) ++ b8 x k) bb rfl (by exact hI2.out.1) 1 rfl (by have := HL.out; simp [b8_length]; omega) hI2.out.2.size ?_
            intro v' w3 h3 k3
            have H3 := Hid.of (And.intro h3 (hI2.out.2.step (Nat.le_refl _) k3))
            clear h3 k3
            simp only [Act.put, List.setIfInBounds_toArray, List.set_cons_zero, List.set_cons_succ]
            go_wp2
            go_roundw
            case rel => exact ⟨k + 1, by go_num, by omega, by rw [HB8.out, ← List.append_assoc]; exact H3.out.1, H3.out.2⟩
            case measure => simp [intOf]; omega
          · obtain rfl : k = 8 := by omega
            have HE := Hid.of (show OwnI wr w.heap.size u3 (bt (l.take (i + 1))) by rw [HX.out]; exact hI2.out.1)
            go_wp2
            go_roundw
            case rel => exact ⟨i + 1, by go_num, by omega, HE.out, hI2.out.2⟩
            case measure => simp [intOf]; omega
    · obtain rfl : i = l.length := by omega
      have HE := Hid.of (show OwnI wb w.heap.size u3 (bt l) by have := hI.out.1; rwa [List.take_length] at this)
      go_wp2
      go_ret
      exact ⟨_, rfl, HE.out, hI.out.2⟩
end Go.Proofs.YtbdmpdjhgjidlaaGreatDoor
