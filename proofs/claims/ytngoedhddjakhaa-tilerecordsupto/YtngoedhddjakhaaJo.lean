import Derived.Test.YtngoedhddjakhaaBz
import Derived.Test.YtngoedhddjakhaaSc
import Derived.Deep.LoopGhost
namespace Go.Proofs.Ytngoedhddjakhaa
open Go.RowKit Go.Shelf TextNum TileNum
theorem list_choose {α : Type} {P : Nat → α → Prop} : ∀ (n : Nat), (∀ i, i < n → ∃ x, P i x) → ∃ xs : List α, xs.length = n ∧ ∀ i (h : i < xs.length), P i xs[i]
  | 0, _ => ⟨[], rfl, fun i h => by cases h⟩
  | n + 1, h => by
    obtain ⟨xs, e, hx⟩ := list_choose n (fun i hi => h i (by omega))
    obtain ⟨x, hp⟩ := h n (by omega)
    refine ⟨xs ++ [x], by simp [e], fun i hi => ?_⟩
    rcases Nat.lt_or_ge i xs.length with hl | hl
    · rw [List.getElem_append_left hl]; exact hx i hl
    · have hi' : i = n := by rw [List.length_append] at hi; simp at hi; omega
      subst hi'
      rw [List.getElem_append_right hl]
      simpa using hp
/-- a slice by its three parts -/
def sv (x : Option Addr × Nat × Nat) : Value := .slice x.1 x.2.1 x.2.2
theorem tooLong_walk (x : Option Addr × Nat × Nat) (w : World) : Calls Try.prog 35 #[sv x] w fun e w' => e = .returned (.bool (decide (1024 < x.2.1))) ∧ w' = w := by
  obtain ⟨a, n, c⟩ := x
  unfold sv
  go_enter Try.func35, Try.ntmps35
  go_wp2
  go_ret
  exact ⟨by simp; omega, rfl⟩
theorem tooLong_pred (w : World) : PredAt Try.prog 35 #[] sv (fun x => decide (1024 < x.2.1)) w := fun W x _ => (tooLong_walk x W).mono fun _ _ h => ⟨h.1, 0, h.2⟩
theorem contains_walk (v : Value) (rs : List (List UInt8)) (w : World) (h : SlT w v rs) (hl : rs.length ≤ 9223372036854775807) : Calls Try.prog 34 #[v, .func (.func 35) #[] #[]] w fun e w' => e = .returned (.bool (rs.any tl)) ∧ Up w w' := by
  obtain ⟨a, c, rfl, hc, h⟩ := h
  rcases h with rfl | ⟨b, off, rfl, hb, hcell⟩
  · have := AnyE.slices_ContainsFunc_empty Try.lays8 a c (.func (.func 35) #[] #[]) w
    change Calls Try.prog 34 _ _ _ at this
    exact this.mono fun e w' ⟨h1, h2⟩ => ⟨h1, by rw [h2]; exact Up.refl _⟩
  · obtain ⟨zs, hzl, hz⟩ := list_choose (P := fun i (x : Option Addr × Nat × Nat) => w.cell? ⟨b, off + i, none⟩ = some (sv x) ∧ x.2.1 = (rs.getD i []).length) rs.length (fun i hi => by
      obtain ⟨u, h1, h2⟩ := hcell i hi
      obtain ⟨a, k, rfl, _⟩ := h2
      exact ⟨(a, rs[i].length, k), h1, by simp [hi]⟩)
    have eg : ∀ args w, (callFunc 35 args).run Try.prog w = .ok (.enter 35 args) w := enters_of Try.func35 (by kernel_rfl) rfl
    have := AnyE.slices_ContainsFunc Try.lays8 sv (fun x => decide (1024 < x.2.1)) 35 #[] eg b off rs.length c zs w (tooLong_pred w) (by omega) hl (fun j hj => by rw [getElem!_pos zs j hj]; exact (hz j hj).1)
    change Calls Try.prog 34 _ _ _ at this
    refine this.mono fun e w' ⟨h1, q, h2⟩ => ⟨?_, by rw [h2]; exact (Up.refl w).drewN q⟩
    rw [h1]
    congr 2
    rw [← hzl, List.take_length]
    have e2 : zs.map (fun x => x.2.1) = rs.map List.length := by
      apply List.ext_getElem (by simp [hzl])
      intro i h1 h2
      simp at h1 h2
      simp [(hz i h1).2, List.getElem?_eq_getElem h2]
    have e3 : zs.any (fun x => decide (1024 < x.2.1)) = (zs.map (fun x => x.2.1)).any (fun n => decide (1024 < n)) := by simp [List.any_map, Function.comp_def]
    rw [e3, e2, List.any_map]
    rfl
/-- what Join answers -/
def JR (rs : List (List UInt8)) (w : World) (e : Ending) (w' : World) : Prop :=
  Up w w' ∧ if lg rs = true then e = .returned (.tuple #[.slice none 0 0, .int .i64 2]) else ∃ v, e = .returned (.tuple #[v, .int .i64 0]) ∧ Own w' w.heap.size v (jn rs)
theorem jn_take {rs : List (List UInt8)} {i : Nat} (hi : i < rs.length) : jn (rs.take (i + 1)) = (jn (rs.take i) ++ [UInt8.ofNat (rs[i].length / 256), UInt8.ofNat rs[i].length]) ++ rs[i] := by
  rw [List.take_succ_eq_append_getElem hi, jn_append]
  simp [jn, jo]
set_option maxRecDepth 100000 in
set_option maxHeartbeats 1000000 in
theorem join_walk (v : Value) (rs : List (List UInt8)) (w : World) (h : SlT w v rs) (hl : rs.length ≤ 9223372036854775807) : Calls Try.prog 7 #[v] w (JR rs w) := by
  have HC := fun w' => fun (u : Up w w') => Hid.of (contains_walk v rs w' (h.up u) hl)
  have HS := Hid.of h
  obtain ⟨a, c, rfl, hc, _⟩ := h
  by_cases h1 : 256 < rs.length
  · have hg : lg rs = true := by simp [lg, h1]
    have hz : (256 : Int) < (rs.length : Int) := by omega
    go_enter Try.func7, Try.ntmps7
    go_wp2
    go_ret2
    exact ⟨Up.refl _, by rw [if_pos hg]; rfl⟩
  · have hz : ¬ (256 : Int) < (rs.length : Int) := by omega
    go_enter Try.func7, Try.ntmps7
    go_wp2_with fail
    refine (HC _ (Up.refl _)).out.mono ?_
    rintro e w1 ⟨rfl, u1⟩
    have HU := Hid.of u1
    clear u1
    dsimp only
    by_cases h2 : rs.any tl = true
    · rw [h2]
      have hg : lg rs = true := by simp only [lg, h2, Bool.or_true]
      go_wp2
      go_ret2
      exact ⟨HU.out, by rw [if_pos hg]; rfl⟩
    · rw [Bool.not_eq_true] at h2
      rw [h2]
      have hg : lg rs = false := by simp [lg, h2]; omega
      have HG := Hid.of (lg_iff.1 hg)
      go_wp2
      have hsz := HU.out.size
      clear HC h2 hg
      go_loopg [4, 6, 16] rs.length (fun k s4 _ s16 wr => ∃ i : Nat, i ≤ rs.length ∧ rs.length - i ≤ k ∧ s16 = .int .i64 (i : Int) ∧ Hid (Own wr w.heap.size s4 (jn (rs.take i))) ∧ Hid (Up w wr))
      case atStart => exact ⟨0, by omega, by omega, rfl, World.ownsRow_nil _ _ 5 1, HU.out⟩
      case round =>
        obtain ⟨i, hi, hk, rfl, HO, HU1⟩ := hrel
        obtain ⟨wb, hwb⟩ : ∃ wb, wb = wr := ⟨_, rfl⟩
        subst hwb
        by_cases hlt : i < rs.length
        · have hltz : (i : Int) < (rs.length : Int) := by omega
          obtain ⟨b, off, c', a', k', ea, hb, hcell0, hsl⟩ := HS.out.get hlt
          have hcell := HU1.out.cell hcell0
          clear hcell0
          injection ea with ea1 ea2 ea3
          subst ea1 ea3
          have HSl := Hid.of hsl
          have hr := HG.out.2 rs[i] (List.getElem_mem hlt)
          have HE := Hid.of (jn_take hlt)
          have HJ : Hid ((jn (rs.take i)).length ≤ 300000) := by
            have h1 := jn_le (rs.take i) (fun r hr => HG.out.2 r (List.mem_of_mem_take hr))
            have h2 := List.length_take_le i rs
            show (jn (rs.take i)).length ≤ 300000
            have h3 : (rs.take i).length * 1026 ≤ 256 * 1026 := Nat.mul_le_mul_right _ (by rw [List.length_take]; omega)
            omega
          generalize rs[i] = r at *
          generalize jn (rs.take i) = l at *
          clear hsl
          go_wp2_with (with_reducible show wpList _ _ _ ({ dst := _, op := Op.call { callee := Callee.builtin Builtin.append, args := _, argTypes := _ }, type := _, pos := _, after := _, guard := _ } :: _) _ _; refine Shut.out ?_)
          show wpList _ _ _ _ _ _
          have hcb : (#[Value.int .u8 ((r.length : Int) / 256), Value.int .u8 ((r.length : Int) % 256)] : Array Value) = (cb [UInt8.ofNat (r.length / 256), UInt8.ofNat r.length]).toArray := by
            simp [cb]
            omega
          rw [hcb]
          clear hcb
          have hsz1 := HU1.out.size
          refine wpList_app1 rfl _ _ rfl w.heap.size _ l _ rfl (by exact HO.out) 2 rfl (by have := HJ.out; simp; omega) hsz1 ?_
          intro v1 w2 h2 k2
          have H2 := Hid.of (And.intro h2 (Up.step HU1.out (Nat.le_refl _) k2))
          have hsz2 := H2.out.2.size
          have HS2 := Hid.of (HSl.out.up H2.out.2)
          clear h2 k2
          simp only [Act.put, List.setIfInBounds_toArray, List.set_cons_zero, List.set_cons_succ]
          go_wp2_with (with_reducible show wpList _ _ _ ({ dst := _, op := Op.call { callee := Callee.builtin Builtin.append, args := _, argTypes := _ }, type := _, pos := _, after := _, guard := _ } :: _) _ _; refine Shut.out ?_)
          show wpList _ _ _ _ _ _
          refine wpList_appSl rfl _ _ rfl w.heap.size _ _ (l ++ [UInt8.ofNat (r.length / 256), UInt8.ofNat r.length]) r rfl (by exact H2.out.1) rfl (by exact HS2.out) (by have := HJ.out; simp; omega) hsz2 ?_
          intro v3 w3 h3 k3
          have H3 := Hid.of (And.intro h3 (Up.step H2.out.2 (Nat.le_refl _) k3))
          clear h3 k3
          simp only [Act.put, List.setIfInBounds_toArray, List.set_cons_zero, List.set_cons_succ]
          go_wp2
          go_roundg (rs.length - (i + 1))
          case measure => omega
          case rel => exact ⟨i + 1, by omega, by omega, by go_num, by rw [HE.out]; exact H3.out.1, H3.out.2⟩
        · have hltz : ¬ (i : Int) < (rs.length : Int) := by omega
          have hi2 : i = rs.length := by omega
          subst hi2
          go_wp2
          go_ret2
          refine ⟨HU1.out, ?_⟩
          rw [if_neg (by rw [lg_iff.2 HG.out]; decide)]
          rw [List.take_length] at HO
          exact ⟨_, rfl, HO.out⟩
end Go.Proofs.Ytngoedhddjakhaa
