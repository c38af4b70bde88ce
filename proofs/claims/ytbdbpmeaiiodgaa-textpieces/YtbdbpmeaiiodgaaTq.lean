import Derived.Test.YtbdbpmeaiiodgaaLy
import Derived.Test.YtbdbpmeaiiodgaaAs
import Derived.Test.YtbdbpmeaiiodgaaOs
namespace Go.Proofs.Ytbdbpmeaiiodgaa
open Go.RowKit Go.Shelf TextNum
def cs' (xs : List (List UInt8)) : List Value := xs.map fun l => Value.string ⟨l.toArray⟩
theorem cs_get {xs : List (List UInt8)} {i : Nat} (h : i < xs.length) : (cs' xs)[i]? = some (.string ⟨xs[i].toArray⟩) := by simp [cs', h]
theorem OwnS.up {w w' : World} {B : Nat} {v : Value} {xs : List (List UInt8)} (h : OwnS w B v xs) (k : Up w w') : OwnS w' B v xs := by
  refine ⟨h.1, ?_⟩
  rcases h.2 with e | ⟨g, cap, cur, e, hbg, hg, r⟩
  · exact .inl e
  · exact .inr ⟨g, cap, cur, e, hbg, (k.block g (Array.getElem?_eq_some_iff.1 hg).1).trans hg, r⟩
theorem OwnS.cell {w : World} {B : Nat} {v : Value} {xs : List (List UInt8)} (h : OwnS w B v xs) (hx : xs ≠ []) : ∃ g c, v = .slice (some ⟨g, 0, none⟩) xs.length c ∧ B ≤ g ∧ (∀ i (hi : i < xs.length), w.cell? ⟨g, i, none⟩ = some (.string ⟨xs[i].toArray⟩)) ∧ ∀ i, w.frozen? ⟨g, i, none⟩ = false := by
  rcases h.2 with ⟨rfl, e⟩ | ⟨g, cap, cur, rfl, hbg, hg, hnc, _⟩
  · exact absurd (List.eq_nil_of_length_eq_zero e) hx
  · refine ⟨g, cap, rfl, (World.ownsRow.lt h g rfl).1, fun i hi => ?_, fun i => by simp [World.frozen?, hg]⟩
    have := World.ownsRow.cells h (g := g) rfl i (.string ⟨xs[i].toArray⟩) (cs_get hi)
    rwa [add_plain, Nat.zero_add] at this
theorem OwnS.len {w : World} {B : Nat} {v : Value} {xs : List (List UInt8)} (h : OwnS w B v xs) : ∃ a c, v = .slice a xs.length c := by
  rcases h.2 with ⟨rfl, e⟩ | ⟨g, cap, cur, rfl, _⟩
  · exact ⟨none, 0, by rw [e]⟩
  · exact ⟨_, _, rfl⟩
theorem OwnS.put {w : World} {B g c : Nat} {xs : List (List UInt8)} (h : OwnS w B (.slice (some ⟨g, 0, none⟩) xs.length c) xs) (j : Nat) (y : List UInt8) : OwnS (w.setCell ⟨g, j, none⟩ (.string ⟨y.toArray⟩)) B (.slice (some ⟨g, 0, none⟩) xs.length c) (xs.set j y) := by
  have := World.ownsRow.stored h j (.string ⟨y.toArray⟩)
  unfold OwnS
  rw [List.length_set]
  have e : (xs.set j y).map (fun l => Value.string ⟨l.toArray⟩) = (xs.map fun l => Value.string ⟨l.toArray⟩).set j (.string ⟨y.toArray⟩) := by rw [List.map_set]
  rw [e]
  exact this.1
theorem Own.kept' {w w' : World} {B : Nat} {v : Value} {l : List UInt8} {row : Option Nat} (h : Own w B v l) (hg : w.grownBy w' row) (hne : ∀ r, row = some r → r < B) : Own w' B v l := by
  refine World.ownsRow.kept h hg ?_
  rcases hb : v.ownBlock with _ | b
  · exact .inl rfl
  · refine .inr fun e => ?_
    have h1 := (World.ownsRow.lt h b hb).1
    have h2 := hne b e.symm
    omega
set_option maxRecDepth 100000 in
theorem holds_no (s : ByteArray) (hx : (10 : UInt8) ∉ s.data.toList) (hs : s.size ≤ 1048576) (w : World) : Calls Try.prog 5 #[.string s, .int .u8 10] w fun e w' => e = .returned (.bool false) ∧ w' = w := by
  have HX := Hid.of hx
  clear hx
  go_enter Try.func5, Try.ntmps5
  go_wp2
  go_loop [5] (fun v5 => ∃ i : Nat, v5 = .int .i64 (i : Int) ∧ i ≤ s.size) (fun v5 => s.size - (intOf v5).toNat)
  case atStart => exact ⟨0, rfl, by omega⟩
  case round =>
    obtain ⟨i, rfl, hi⟩ := hrel
    by_cases hlt : i < s.size
    · have hlt' : (i : Int) < (s.size : Int) := by omega
      have q : ((s[i].toNat : Int) == 10) = false := by
        refine Bool.eq_false_iff.2 fun h => HX.out ?_
        have h2 : (s[i].toNat : Int) = 10 := by simpa using h
        have h3 : s[i] = 10 := UInt8.toNat_inj.1 (show s[i].toNat = 10 by omega)
        rw [sget' s i hlt] at h3
        exact h3 ▸ List.getElem_mem _
      go_wp2
      go_round
      case rel => exact ⟨i + 1, by go_num, by omega⟩
      case measure => simp [intOf]; omega
    · have hlt' : ¬ (i : Int) < (s.size : Int) := by omega
      go_wp2
      go_ret
      exact ⟨rfl, rfl⟩
theorem append_S {w : World} {B : Nat} {ty : TypeId} {v : Value} {xs : List (List UInt8)} (hown : OwnS w B v xs) (y : List UInt8) (ad : Addr) (hu : w.cell? ad = some (.string ⟨y.toArray⟩)) (hn : xs.length < 1099511627776) (hB : B ≤ w.heap.size) :
    ∃ v' w', (Builtin.append_ #[22, 22] ty #[v, .slice (some ad) 1 1]).run Try.prog w = .ok v' w' ∧ OwnS w' B v' (xs ++ [y]) ∧ w.grownBy w' v.ownBlock ∧ ∀ g, v.ownBlock = some g → ∀ i (hi : i < xs.length), w'.cell? ⟨g, i, none⟩ = some (.string ⟨xs[i].toArray⟩) := by
  obtain ⟨i0, hi, hz0, hz1, hz2⟩ := info_parts Try.infoStr
  have hu' : ∀ j u, [Value.string ⟨y.toArray⟩][j]? = some u → w.cell? (ad.add j) = some u := by
    intro j u h
    cases j with
    | zero => simp at h; subst h; rw [show ad.add 0 = ad by simp [Addr.add]]; exact hu
    | succ j => simp at h
  obtain ⟨v', w', hr, ho, hg, _⟩ := run_append_own (P := Try.prog) w B 22 ty 9 i0 (.string ⟨#[]⟩) 1 16 Try.underlying22 hi hz0 hz1 hz2 rfl (by decide) v xs.length (cs' xs) hown ad 1 1 [.string ⟨y.toArray⟩] rfl hu' (by simp [Value.oneCell']) (by unfold maxLen; omega) (by omega) hB
  have ho' : OwnS w' B v' (xs ++ [y]) := by
    unfold OwnS
    rw [List.length_append, List.map_append]
    exact ho
  refine ⟨v', w', hr, ho', hg, fun g hgb i hil => ?_⟩
  rcases hown.2 with ⟨rfl, e⟩ | ⟨g0, cap, cur, rfl, hbg, hgg, hnc, hcm, hcs, htake⟩
  · simp [Value.ownBlock] at hgb
  · obtain rfl : g0 = g := by simpa [Value.ownBlock] using hgb
    by_cases hroom : xs.length + 1 ≤ cap
    · have h2 := run_append_room (P := Try.prog) w 22 ty 9 i0 Try.underlying22 hi g0 xs.length cap cur hgg ad 1 1 [.string ⟨y.toArray⟩] (by rw [hz1]; rfl) hu' (by simp [Value.oneCell']) hroom (by rw [hz1, hcs]; simp; omega)
      rw [h2] at hr
      injection hr with hv hw
      subst hv
      have := World.ownsRow.cells ho (g := g0) rfl i (.string ⟨xs[i].toArray⟩) (by rw [List.getElem?_append_left (by simp [cs']; omega)]; exact cs_get hil)
      rwa [add_plain, Nat.zero_add] at this
    · have holds : ∀ j x, (cs' xs)[j]? = some x → w.cell? ((⟨g0, 0, none⟩ : Addr).add j) = some x := World.ownsRow.cells hown (g := g0) rfl
      have h2 := run_append_grow (P := Try.prog) w 22 ty 9 i0 (.string ⟨#[]⟩) Try.underlying22 hi hz0 ⟨g0, 0, none⟩ xs.length cap (cs' xs) (by rw [hz1]; exact hown.1) holds ad 1 1 [.string ⟨y.toArray⟩] (by rw [hz1]; rfl) hu' (by omega) (by omega) (growslice_fits (by omega) (by rw [hz2]; omega))
      rw [h2] at hr
      injection hr with hv hw
      subst hw
      have h0 := holds i _ (cs_get hil)
      rw [add_plain, Nat.zero_add] at h0
      rw [World.cell?_alloc_lt w.drew _ _ (block_lt_of_cell (w := w.drew) h0)]
      exact h0
theorem grownBy_setCell2 (W : World) (p : Addr) (v : Value) : W.grownBy (W.setCell p v) (some p.block) :=
  ⟨rfl, rfl, rfl, (KeepsWalks.setCell W p v).size, fun k _ hk => Below.heap_setCell _ _ _ k (fun e => hk (by rw [e]))⟩
theorem OwnS.put2 {w : World} {B g n c : Nat} {xs : List (List UInt8)} (h : OwnS w B (.slice (some ⟨g, 0, none⟩) n c) xs) (hn : n = xs.length) (j : Nat) (y : List UInt8) : OwnS (w.setCell ⟨g, j, none⟩ (.string ⟨y.toArray⟩)) B (.slice (some ⟨g, 0, none⟩) n c) (xs.set j y) := by
  subst hn
  exact h.put j y
theorem hash_set {xs : List (List UInt8)} {j : Nat} (h : j < xs.length) : (List.replicate j [35] ++ xs.drop j).set j [35] = List.replicate (j + 1) [35] ++ xs.drop (j + 1) := by
  rw [List.set_append_right _ _ (by simp), List.length_replicate, Nat.sub_self, List.drop_eq_getElem_cons h, List.set_cons_zero, List.replicate_succ', List.append_assoc]
  rfl
theorem wpList_appS {ops : Array Oper} {rest : List Oper} {o : Oper} {a : Act} {w : World} {t : TypeId} {Q : Exit → Act → World → Prop} (hgd : o.guard = none) (s x : Operand)
    (ho : o.op = .call { callee := .builtin .append, args := #[s, x], argTypes := #[22, 22] }) (B : Nat) (v : Value) (xs : List (List UInt8)) (y : List UInt8) (hs : a.eval s = v) (hown : OwnS w B v xs)
    (hx : a.eval x = .slice (some ⟨w.heap.size, 0, none⟩) 1 1) (hn : xs.length < 1099511627776) (hB : B ≤ w.heap.size)
    (h : ∀ v' w', OwnS w' B v' (xs ++ [y]) → (w.alloc (.cells #[.string ⟨y.toArray⟩] t)).grownBy w' v.ownBlock → (∀ g, v.ownBlock = some g → ∀ i (hi : i < xs.length), w'.cell? ⟨g, i, none⟩ = some (.string ⟨xs[i].toArray⟩)) → wpList Try.prog ops Q rest (a.put o.dst v') w') : wpList Try.prog ops Q (o :: rest) a (w.alloc (.cells #[.string ⟨y.toArray⟩] t)) := by
  refine wpList_plain hgd fun K hK => ?_
  obtain ⟨v', w', hr, h2, h3, h4⟩ := append_S (ty := o.type) (hown.up ((Up.refl w).alloc (.cells #[.string ⟨y.toArray⟩] t))) y ⟨w.heap.size, 0, none⟩ (by rw [World.cell?_alloc_at _ _ _ _ rfl]; rfl) hn (by rw [World.size_alloc]; omega)
  unfold Oper.wp execOp
  simp only [ho, resolve, invoke, builtin, Sem.run_bind, Sem.run_pure, Result.andThen_ok, List.map_toArray, List.map_cons, List.map_nil, hs, hx, hr]
  exact hK _ _ (h v' w' h2 h3 h4)
theorem joinL_drop {xs : List (List UInt8)} {k : Nat} (h : k < xs.length) : joinL (xs.drop k) = xs[k] ++ [10] ++ joinL (xs.drop (k + 1)) := by
  rw [List.drop_eq_getElem_cons h, joinL_cons]
  simp
end Go.Proofs.Ytbdbpmeaiiodgaa
